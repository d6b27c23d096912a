/- The node at a place, as the program takes it: trie.meetsAny, take, nodeAt. No condition but that there is such a cursor, such bytes. -/
import Derived.Test.YtblfighfahffkaaTrP
import Derived.Test.YtblfighfahffkaaTrX
import Derived.Deep.QuietTactic
import Derived.PlainAid
import Derived.Lib.SlBytesRow
import Derived.BigQuiet
namespace Go.Proofs.Ytblfighfahffkaa
open Go.RowKit Go.PlainAid
variable {w w' W : World} {lo hi a : Nat} {xs : List Int} {s s' : Cs}

/-- A child in a block of its own. -/
def KidIn (w : World) (g : Nat) (k : Kid) : Prop := w.heap[g]? = some (.cells #[.string (strOfNums k.1), .int .u64 k.2] 92 (0, 0))
section
variable {g : Nat} {k : Kid}
theorem KidIn.kept {r : Option Nat} (h : KidIn w g k) (hg : w.grownBy w' r) (hr : r ≠ some g) : KidIn w' g k := (hg.block g (lt_of_block h) (fun e => hr e.symm)).trans h
theorem KidIn.grown (h : KidIn w g k) (hg : w.grownBy w' none) : KidIn w' g k := h.kept hg (by simp)
theorem KidIn.lt (h : KidIn w g k) : g < w.heap.size := lt_of_block h
theorem KidIn.fz (h : KidIn w g k) (i : Nat) : w.frozen? ⟨g, i, none⟩ = false := free_of h
theorem KidIn.c0 (h : KidIn w g k) : w.cell? ⟨g, 0, none⟩ = some (.string (strOfNums k.1)) := by rw [cell_of h]; rfl
theorem KidIn.c1 (h : KidIn w g k) : w.cell? ⟨g, 1, none⟩ = some (.int .u64 k.2) := by rw [cell_of h]; rfl
theorem KidIn.place (h : KidIn w g k) (n : Int) : KidIn (w.setCell ⟨g, 1, none⟩ (.int .u64 n)) g (k.1, n) := by unfold KidIn; rw [heap_setCell_same w g 1 _ _ _ h]; rfl
end

theorem bt_nums (x : Int) (l : List Int) (h : 0 ≤ x ∧ x < 256) : bt (strOfNums (x :: l)) 0 = x := by
  have h0 : 0 < (strOfNums (x :: l)).size := by rw [strOfNums_size]; simp
  unfold bt
  rw [dif_pos h0]
  show ((UInt8.ofNat x.toNat).toNat : Int) = x
  simp only [UInt8.toNat_ofNat']
  omega
set_option maxRecDepth 20000 in
theorem meets1_any (k1 k2 : Kid) (h1 : k1.1 ≠ []) (h2 : k2.1 ≠ []) (b1 : Byt k1.1) (b2 : Byt k2.1) {g : Nat} (hx : KidIn w g k2) :
    Calls Try.prog 109 #[.agg #[.string (strOfNums k1.1), .int .u64 k1.2], .pointer (some ⟨g, 0, none⟩)] w fun e w' => e = .returned (.bool (k1.1.getD 0 0 == k2.1.getD 0 0)) ∧ w.grownBy w' none := by
  have gB := grown1 w (.cells #[.string (strOfNums k1.1), .int .u64 k1.2] 92)
  have d0 := (hx.grown gB).c0
  have dl := (hx.grown gB).lt
  have G := Lib.hid gB
  obtain ⟨e1, p1⟩ := k1
  obtain ⟨e2, p2⟩ := k2
  cases e1 with
  | nil => exact absurd rfl h1
  | cons x1 e1 =>
  cases e2 with
  | nil => exact absurd rfl h2
  | cons x2 e2 =>
  have y1 := b1 x1 (List.mem_cons_self ..)
  have y2 := b2 x2 (List.mem_cons_self ..)
  clear gB hx h1 h2 b1 b2
  simp only [] at *
  rw [show (x1 :: e1).getD 0 0 = x1 from rfl, show (x2 :: e2).getD 0 0 = x2 from rfl]
  have t1 := bt_nums x1 e1 y1
  have t2 := bt_nums x2 e2 y2
  have z1 : 0 < (strOfNums (x1 :: e1)).size := by rw [strOfNums_size]; simp
  have z2 : 0 < (strOfNums (x2 :: e2)).size := by rw [strOfNums_size]; simp
  generalize strOfNums (x1 :: e1) = S1 at *
  generalize strOfNums (x2 :: e2) = S2 at *
  have k1 := get_bt S1
  have k2 := get_bt S2
  rw [← t1, ← t2]
  clear t1 t2 y1 y2
  go_enter Try.func109, Try.ntmps109
  go_wp2
  go_quiet (fail)
  go_wp2
  go_ret
  exact ⟨rfl, grown_drewN G.out _⟩

/-- Is it so of one of a list of children? -/
theorem any_kid (l : List Kid) (e : List Int) (k : Nat) (h : ∀ i y, i < k → l[i]? = some y → (y.1.getD 0 0 == e.getD 0 0) = false) (hk : l.length ≤ k) : meets e l = false := by
  unfold meets
  rw [List.any_eq_false]
  intro x hx
  obtain ⟨i, hi, rfl⟩ := List.getElem_of_mem hx
  rw [h i _ (by omega) (List.getElem?_eq_getElem hi)]
  simp
theorem KidsAt.at {q : Option Addr} {l : List Kid} (h : KidsAt w q l) (i : Nat) (x : Kid) (hx : l[i]? = some x) : ∃ g o, q = some ⟨g, o, none⟩ ∧ w.cell? ⟨g, o + i * 2, none⟩ = some (.string (strOfNums x.1)) ∧ w.cell? ⟨g, o + i * 2 + 1, none⟩ = some (.int .u64 x.2) := h i x hx

set_option maxRecDepth 20000 in
set_option maxHeartbeats 800000 in
theorem indexKid_any (l : List Kid) (n : Nat) (hn : l.length = n) (hl : n ≤ 9223372036854775807) (q : Option Addr) (c : Nat) (hr : KidsAt w q l) (e2 : List Int) {g : Nat} (k2 : Int) (hx : KidIn w g (e2, k2)) (h2 : e2 ≠ []) (b2 : Byt e2) (ho : ∀ k ∈ l, k.1 ≠ [] ∧ Byt k.1) :
    Calls Try.prog 48 #[.slice q n c, .func (.func 109) #[] #[.pointer (some ⟨g, 0, none⟩)]] w fun e w' => (∃ z : Int, e = .returned (.int .i64 z) ∧ decide (0 ≤ z) = meets e2 l) ∧ w.grownBy w' none := by
  subst hn
  have RR := Lib.hid hr
  have OO := Lib.hid ho
  have HX := Lib.hid hx
  have NE := Lib.hid h2
  have BB := Lib.hid b2
  clear hr ho hx h2 b2
  go_enter Try.func48, Try.ntmps48
  go_wp2
  go_loopw [8] (fun i wr => ∃ k : Nat, k ≤ l.length ∧ i = .int .i64 k ∧ w.grownBy wr none ∧ ∀ i y, i < k → l[i]? = some y → (y.1.getD 0 0 == e2.getD 0 0) = false) (fun i _ => l.length - (intOf i).toNat)
  case atStart => exact ⟨0, Nat.zero_le _, rfl, grown_refl _ _, fun i y h => by omega⟩
  case round =>
    obtain ⟨k, hk, rfl, hg, hno⟩ := hrel
    have G := Lib.hid hg
    have NO := Lib.hid hno
    by_cases hlt : k < l.length
    · obtain ⟨x, hx⟩ : ∃ x, l[k]? = some x := ⟨_, List.getElem?_eq_getElem hlt⟩
      obtain ⟨gq, oq, rfl, c0, c1⟩ := (RR.out.grown hg).at k x hx
      have xo := OO.out x (List.mem_of_getElem? hx)
      have M1 := Lib.hid (meets1_any x (e2, k2) xo.1 NE.out xo.2 BB.out (HX.out.grown hg))
      have XX := Lib.hid hx
      have dl : decide ((k : Int) < (l.length : Int)) = true := by simp; omega
      have hkl : (k : Int) < (l.length : Int) := by omega
      obtain ⟨bx, hbx⟩ : ∃ bx, bx = (x.1.getD 0 0 == e2.getD 0 0) := ⟨_, rfl⟩
      rw [← hbx] at M1
      have PX := Lib.hid hbx
      have ANY := Lib.hid (fun (h : bx = true) => (show meets e2 l = true by
        unfold meets
        rw [List.any_eq_true]
        exact ⟨x, List.mem_of_getElem? hx, by rw [← hbx, h]⟩))
      obtain ⟨xe, xp⟩ := x
      simp only [] at c0 c1 M1
      clear hg hno hx hbx xo
      generalize l.length = N at *
      go_wp2_with fail
      refine M1.out.mono ?_
      rintro e w3 ⟨rfl, hg⟩
      have G3 := Lib.hid (grown_trans G.out hg)
      clear hg
      cases bx
      · go_wp2
        go_roundw
        case rel =>
          refine ⟨k + 1, hlt, by go_num, G3.out, fun i y hi hy => ?_⟩
          rcases Nat.lt_or_ge i k with h | h
          · exact NO.out i y h hy
          · obtain rfl : i = k := by omega
            rw [XX.out] at hy
            injection hy with hy
            rw [← hy]; exact PX.out.symm
        case measure => simp [intOf]; omega
      · go_wp2
        go_ret
        exact ⟨⟨k, rfl, by rw [show meets e2 l = true from (by first | exact ANY.out rfl | exact ANY.out trivial)]; simp⟩, G3.out⟩
    · have NA := Lib.hid (any_kid l e2 k hno (by omega))
      have dl : decide ((k : Int) < (l.length : Int)) = false := by simp; omega
      clear hno hg
      generalize l.length = N at *
      go_wp2
      go_ret
      exact ⟨⟨-1, rfl, by rw [NA.out]; rfl⟩, G.out⟩

theorem containsKid_any (l : List Kid) (n : Nat) (hn : l.length = n) (hl : n ≤ 9223372036854775807) (q : Option Addr) (c : Nat) (hr : KidsAt w q l) (e2 : List Int) {g : Nat} (k2 : Int) (hx : KidIn w g (e2, k2)) (h2 : e2 ≠ []) (b2 : Byt e2) (ho : ∀ k ∈ l, k.1 ≠ [] ∧ Byt k.1) :
    Calls Try.prog 108 #[.slice q n c, .func (.func 109) #[] #[.pointer (some ⟨g, 0, none⟩)]] w fun e w' => e = .returned (.bool (meets e2 l)) ∧ w.grownBy w' none := by
  have I := Lib.hid (indexKid_any l n hn hl q c hr e2 k2 hx h2 b2 ho)
  clear hr hx ho h2 b2
  go_enter Try.func108, Try.ntmps108
  go_wp2_with fail
  refine I.out.mono ?_
  rintro e w' ⟨⟨z, rfl, hz⟩, hg⟩
  have G := Lib.hid hg
  have Z := Lib.hid hz
  clear hg hz
  go_wp2
  go_ret
  exact ⟨ret_bool Z.out, G.out⟩
theorem meetsAny_any (l : List Kid) (n : Nat) (hn : l.length = n) (hl : n ≤ 9223372036854775807) (q : Option Addr) (c : Nat) (hr : KidsAt w q l) (e2 : List Int) (k2 : Int) (h2 : e2 ≠ []) (b2 : Byt e2) (ho : ∀ k ∈ l, k.1 ≠ [] ∧ Byt k.1) :
    Calls Try.prog 93 #[.agg #[.string (strOfNums e2), .int .u64 k2], .slice q n c] w fun e w' => e = .returned (.bool (meets e2 l)) ∧ w.grownBy w' none := by
  have gB := grown1 w (.cells #[.string (strOfNums e2), .int .u64 k2] 92)
  have C := Lib.hid (containsKid_any (w := w.alloc (.cells #[.string (strOfNums e2), .int .u64 k2] 92)) (g := w.heap.size) l n hn hl q c (hr.grown gB) e2 k2 (heap_alloc_new w _) h2 b2 ho)
  have G := Lib.hid gB
  clear hr ho h2 b2 gB
  go_enter Try.func93, Try.ntmps93
  go_wp2_with fail
  refine C.out.mono ?_
  rintro e w' ⟨rfl, hg⟩
  have G2 := Lib.hid (grown_trans G.out hg)
  clear hg
  go_wp2
  go_ret
  exact ⟨rfl, G2.out⟩
end Go.Proofs.Ytblfighfahffkaa
