/- The order of names, and that a list of names, each once, is sorted in one way alone; and what trie.All answers. No condition. -/
import Derived.Test.YtblfighfahffkaaTrC
import Derived.Test.YtblfighfahffkaaSortK
import Derived.Test.YtblfighfahffkaaSortExp
namespace Go.Proofs.Ytblfighfahffkaa
open Go.RowKit Go.Sort
variable {w w' W V : World} {xs : List Int}

def nmLt : List Int → List Int → Bool
  | _, [] => false
  | [], _ :: _ => true
  | x :: a, y :: b => if x < y then true else if y < x then false else nmLt a b
theorem nmLt_irrefl : ∀ a, nmLt a a = false
  | [] => rfl
  | x :: a => by simp [nmLt, nmLt_irrefl a]
theorem nmLt_anti : ∀ {a b : List Int}, nmLt a b = false → nmLt b a = false → a = b
  | [], [], _, _ => rfl
  | [], _ :: _, h, _ => by simp [nmLt] at h
  | _ :: _, [], _, h => by simp [nmLt] at h
  | x :: a, y :: b, h, k => by
    simp only [nmLt] at h k
    by_cases h1 : x < y
    · rw [if_pos h1] at h; cases h
    · by_cases h2 : y < x
      · rw [if_pos h2] at k; cases k
      · rw [if_neg h1, if_neg h2] at h
        rw [if_neg h2, if_neg h1] at k
        rw [nmLt_anti h k, show x = y by omega]
theorem nmLt_trans : ∀ {a b c : List Int}, nmLt a b = true → nmLt b c = true → nmLt a c = true
  | _, _, [], _, h => by simp [nmLt] at h
  | _, [], _ :: _, h, _ => by simp [nmLt] at h
  | [], _ :: _, _ :: _, _, _ => rfl
  | x :: a, y :: b, z :: c, h, k => by
    simp only [nmLt] at h k ⊢
    by_cases h1 : x < y
    · by_cases h2 : y < z
      · rw [if_pos (show x < z by omega)]
      · rw [if_neg h2] at k
        by_cases h3 : z < y
        · rw [if_pos h3] at k; cases k
        · rw [if_pos (show x < z by omega)]
    · rw [if_neg h1] at h
      by_cases h2 : y < x
      · rw [if_pos h2] at h; cases h
      · rw [if_neg h2] at h
        by_cases h3 : y < z
        · rw [if_pos (show x < z by omega)]
        · rw [if_neg h3] at k
          by_cases h4 : z < y
          · rw [if_pos h4] at k; cases k
          · rw [if_neg h4] at k
            rw [if_neg (show ¬ x < z by omega), if_neg (show ¬ z < x by omega)]
            exact nmLt_trans h k
theorem nmLt_ntrans {a b c : List Int} (h : nmLt a b = false) (k : nmLt b c = false) : nmLt a c = false := by
  cases hac : nmLt a c with
  | false => rfl
  | true =>
    cases hba : nmLt b a with
    | true => rw [nmLt_trans hba hac] at k; cases k
    | false => rw [nmLt_anti h hba] at hac; rw [hac] at k; cases k
/-- A name's bytes, as bytes. -/
def nums (l : List Int) : List Int := (Lib.bytesOf l).map fun u => (u.toNat : Int)
theorem nums_byt : ∀ {l : List Int}, Byt l → nums l = l
  | [], _ => rfl
  | x :: l, h => by
    have h1 := h x (List.mem_cons_self ..)
    have h2 := nums_byt (l := l) (fun y hy => h y (List.mem_cons_of_mem _ hy))
    unfold nums at h2 ⊢
    simp only [Lib.bytesOf, List.map_cons] at h2 ⊢
    rw [h2]
    congr 1
    simp only [UInt8.toNat_ofNat']
    omega
theorem compare_lt : ∀ (a b : List UInt8), decide (Lib.compareBytes a b < 0) = nmLt (a.map fun u => (u.toNat : Int)) (b.map fun u => (u.toNat : Int))
  | [], [] => rfl
  | [], _ :: _ => rfl
  | _ :: _, [] => rfl
  | x :: a, y :: b => by
    have e1 : (x < y) ↔ (x.toNat : Int) < (y.toNat : Int) := by rw [UInt8.lt_iff_toNat_lt]; omega
    have e2 : (y < x) ↔ (y.toNat : Int) < (x.toNat : Int) := by rw [UInt8.lt_iff_toNat_lt]; omega
    have ih := compare_lt a b
    by_cases h1 : x < y
    · have c : Lib.compareBytes (x :: a) (y :: b) = -1 := if_pos h1
      have n : nmLt ((x :: a).map fun u => (u.toNat : Int)) ((y :: b).map fun u => (u.toNat : Int)) = true := if_pos (e1.1 h1)
      rw [n, decide_eq_true (by rw [c]; decide)]
    · by_cases h2 : y < x
      · have c : Lib.compareBytes (x :: a) (y :: b) = 1 := (if_neg h1).trans (if_pos h2)
        have n : nmLt ((x :: a).map fun u => (u.toNat : Int)) ((y :: b).map fun u => (u.toNat : Int)) = false := (if_neg (fun h => h1 (e1.2 h))).trans (if_pos (e2.1 h2))
        rw [n, decide_eq_false (by rw [c]; decide)]
      · have c : Lib.compareBytes (x :: a) (y :: b) = Lib.compareBytes a b := (if_neg h1).trans (if_neg h2)
        have n : nmLt ((x :: a).map fun u => (u.toNat : Int)) ((y :: b).map fun u => (u.toNat : Int)) = nmLt (a.map fun u => (u.toNat : Int)) (b.map fun u => (u.toNat : Int)) := (if_neg (fun h => h1 (e1.2 h))).trans (if_neg (fun h => h2 (e2.2 h)))
        rw [n, ← ih]
        simp only [c]

instance : Inhabited (List Int × Ex) := ⟨([], Ex.zero)⟩
def cmpEx (x y : List Int × Ex) : Int := Lib.compareBytes (Lib.bytesOf x.1) (Lib.bytesOf y.1)
theorem ltEx (x y : List Int × Ex) : ltOf cmpEx x y = nmLt (nums x.1) (nums y.1) := compare_lt _ _
theorem swoEx : SWO (ltOf cmpEx) where
  irrefl x := by rw [ltEx]; exact nmLt_irrefl _
  trans x y z h1 h2 := by rw [ltEx] at *; exact nmLt_trans h1 h2
  ntrans x y z h1 h2 := by rw [ltEx] at *; exact nmLt_ntrans h1 h2
theorem byName_any (x y : List Int × Ex) (W : World) : Calls Try.prog 23 #[.agg (outCs x).toArray, .agg (outCs y).toArray] W fun e w' => e = .returned (.int .i64 (cmpEx x y)) ∧ ∃ q os', w' = grow (W.drewN q) os' := by
  obtain ⟨x1, x2⟩ := x
  obtain ⟨y1, y2⟩ := y
  have C := Lib.hid (fun V => Try.strings_Compare (strOfNums x1) (strOfNums y1) V)
  have e1 : Lib.compareBytes (strOfNums x1).data.toList (strOfNums y1).data.toList = cmpEx (x1, x2) (y1, y2) := by
    unfold cmpEx
    rw [show (strOfNums x1).data.toList = Lib.bytesOf x1 from strOfNums_data x1, show (strOfNums y1).data.toList = Lib.bytesOf y1 from strOfNums_data y1]
  rw [e1] at C
  clear e1
  simp only [outCs, exCs]
  generalize cmpEx (x1, x2) (y1, y2) = r at *
  go_enter Try.func23, Try.ntmps23
  go_wp2_with (go_at_call 47; refine (C.out _).mono ?_; rintro e w' ⟨rfl, rfl⟩)
  go_ret
  exact ⟨rfl, 0, _, by rw [alloc_eq_grow, alloc_eq_grow, grow_grow]; rfl⟩
theorem cmpEx_lays (blk off size : Nat) (w : World) : CmpLays Try.prog 23 #[] outCs 7 cmpEx blk off size w := fun _ _ _ _ x y => byName_any x y _
theorem outCs_one (y : List Int × Ex) : ∀ u ∈ outCs y, u.oneCell' = true := exCs_one _ _

/-- Sorted by names. -/
def Rises (l : Out) : Prop := l.Pairwise fun a b => nmLt (nums b.1) (nums a.1) = false
theorem rises_one {l m : Out} (hl : Rises l) (hm : Rises m) (hp : l.Perm m) (hb : ∀ y ∈ l, Byt y.1) (ho : l.Pairwise fun a b => a.1 ≠ b.1) : l = m := by
  refine List.Perm.eq_of_pairwise (le := fun a b : List Int × Ex => nmLt (nums b.1) (nums a.1) = false) ?_ hl hm hp
  intro a b ha hb' h1 h2
  have hb2 := hp.mem_iff.2 hb'
  have e : a.1 = b.1 := by
    have := nmLt_anti h2 h1
    rw [nums_byt (hb a ha), nums_byt (hb b hb2)] at this
    exact this
  obtain ⟨i, hi, rfl⟩ := List.getElem_of_mem ha
  obtain ⟨j, hj, rfl⟩ := List.getElem_of_mem hb2
  rcases Nat.lt_trichotomy i j with h | h | h
  · exact absurd e ((List.pairwise_iff_getElem.1 ho) i j hi hj h)
  · subst h; rfl
  · exact absurd e.symm ((List.pairwise_iff_getElem.1 ho) j i hj hi h)
end Go.Proofs.Ytblfighfahffkaa
