/- The walk of TrieFinds: wherever all is told, Find tells the same of each name, and that there is no other one. -/
import Derived.Test.YtblfighfahffkaaTrJ
import Derived.Test.YtblfighfahffkaaTrK
import Derived.StillTailTactics
namespace Go.Proofs.Ytblfighfahffkaa.trieFinds
open Go.RowKit

theorem take_any (D : Out) (t : List Int) {k : Nat} {y : List Int × Ex} (hy : D[k]? = some y) : (D.take (k + 1)).any (fun y => decide (y.1 = t)) = ((D.take k).any (fun y => decide (y.1 = t)) || decide (y.1 = t)) := by
  obtain ⟨hk, rfl⟩ := List.getElem?_eq_some_iff.1 hy
  rw [List.take_succ_eq_append_getElem hk, List.any_append]
  simp
theorem bytesLess_is : ∀ (a b : List UInt8), Op.bytesLess a b = nmLt (a.map fun u => (u.toNat : Int)) (b.map fun u => (u.toNat : Int))
  | [], [] => rfl
  | _ :: _, [] => rfl
  | [], _ :: _ => rfl
  | x :: a, y :: b => by
    have e1 : (x < y) ↔ (x.toNat : Int) < (y.toNat : Int) := by rw [UInt8.lt_iff_toNat_lt]; omega
    have e2 : (y < x) ↔ (y.toNat : Int) < (x.toNat : Int) := by rw [UInt8.lt_iff_toNat_lt]; omega
    have e3 : (x = y) ↔ (x.toNat : Int) = (y.toNat : Int) := by rw [← UInt8.toNat_inj]; omega
    simp only [Op.bytesLess, List.map_cons, nmLt, bytesLess_is a b]
    by_cases h1 : x < y
    · rw [if_pos (e1.1 h1)]; simp [h1]
    · by_cases h2 : y < x
      · have h3 : ¬ x = y := fun e => h1 (by have := e3.1 e; have := e2.1 h2; omega)
        rw [if_neg (fun h => h1 (e1.2 h)), if_pos (e2.1 h2)]
        simp [h1, h3]
      · have h3 : x = y := e3.2 (by have a1 : ¬ (x.toNat : Int) < y.toNat := fun h => h1 (e1.2 h); have a2 : ¬ (y.toNat : Int) < x.toNat := fun h => h2 (e2.2 h); omega)
        rw [if_neg (fun h => h1 (e1.2 h)), if_neg (fun h => h2 (e2.2 h))]
        simp [h3]
theorem less_is (a b : List Int) : Op.bytesLess (strOfNums a).toList (strOfNums b).toList = nmLt (nums a) (nums b) := by
  rw [Lib.strOfNums_toList, Lib.strOfNums_toList]
  exact bytesLess_is _ _
theorem name_is {a b : List Int} (ha : Byt a) (hb : Byt b) : ((strOfNums a).toList == (strOfNums b).toList) = decide (a = b) := by
  rw [Lib.strOfNums_toList, Lib.strOfNums_toList]
  by_cases h : a = b
  · subst h; simp
  · rw [decide_eq_false h, beq_eq_false_iff_ne]
    intro e
    apply h
    rw [← nums_byt ha, ← nums_byt hb]
    unfold nums
    rw [e]
theorem rises_less {D : Out} (h : Rises D) (ho : D.Pairwise fun a b => a.1 ≠ b.1) (hb : ∀ y ∈ D, Byt y.1) {k : Nat} (hk : 0 < k) {y1 y : List Int × Ex} (hy1 : D[k - 1]? = some y1) (hy : D[k]? = some y) : Op.bytesLess (strOfNums y1.1).toList (strOfNums y.1).toList = true := by
  rw [less_is]
  obtain ⟨h1, rfl⟩ := List.getElem?_eq_some_iff.1 hy1
  obtain ⟨h2, rfl⟩ := List.getElem?_eq_some_iff.1 hy
  have r := List.pairwise_iff_getElem.1 h (k - 1) k h1 h2 (by omega)
  have n := List.pairwise_iff_getElem.1 ho (k - 1) k h1 h2 (by omega)
  have b1 := hb _ (List.getElem_mem h1)
  have b2 := hb _ (List.getElem_mem h2)
  cases e : nmLt (nums D[k - 1].1) (nums D[k].1) with
  | true => rfl
  | false =>
    have q := nmLt_anti e r
    rw [nums_byt b1, nums_byt b2] at q
    exact absurd q n
set_option maxHeartbeats 6400000 in
set_option maxRecDepth 20000 in
theorem walk (a0 : Option Addr) (len0 cap0 : Nat) (z0 : List Int) (t : List Int) (w : World) (w0 : IsRow .u8 w a0 len0 cap0 z0) (ht : Byt t) (htm : t.length ≤ 9223372036854775807) :
    Calls Try.prog 5 #[.slice a0 len0 cap0, .string (strOfNums t)] w fun e w' => e = .returned (.bool true) ∧ Below w.heap.size w w' := by
  have hcap : len0 ≤ cap0 ∧ cap0 ≤ 9223372036854775807 := by
    rcases w0 with ⟨_, rfl, rfl, _⟩ | ⟨_, _, h1, h2, _⟩
    · omega
    · unfold maxLen at h2; omega
  obtain ⟨ys, rfl, hys, hb, _⟩ := w0.bytes
  have K := Lib.hid (fun w : World => known9_any w)
  have BL := Lib.hid (fun (w' : World) (h : w.grownBy w' none) => (below_grown h (Nat.le_refl _) (fun k e => by cases e) : Below w.heap.size w w'))
  have hst : (strOfNums t).size = t.length := strOfNums_size _
  by_cases h20 : 3000 < ys.length
  · have hd : decide ((3000 : Int) < ys.length) = true := by simp; omega
    clear w0 hb hys ht htm hcap hst
    go_enter Try.func5, Try.ntmps5
    go_wp2_with fail
    refine (K.out _).mono ?_
    rintro e w' ⟨rfl, hg⟩
    have B := Lib.hid (BL.out _ hg)
    clear hg
    go_wp2
    go_ret
    exact ⟨rfl, B.out⟩
  have hd : decide ((3000 : Int) < ys.length) = false := by simp; omega
  by_cases h25 : 255 < t.length
  · have hd2 : decide ((255 : Int) < (t.length : Int)) = true := by simp; omega
    clear w0 hb hys ht htm hcap
    go_enter Try.func5, Try.ntmps5
    go_wp2_with fail
    refine (K.out _).mono ?_
    rintro e w' ⟨rfl, hg⟩
    have B := Lib.hid (BL.out _ hg)
    clear hg
    go_wp2
    go_ret
    exact ⟨rfl, B.out⟩
  have hd2 : decide ((255 : Int) < (t.length : Int)) = false := by simp; omega
  have AL := Lib.hid (All_any (w := w) hb rfl hys hcap.1 hcap.2 (by omega))
  have FA := Lib.hid (fun (W : World) (h : w.grownBy W none) (u : List Int) (hu : Byt u) (hl : u.length ≤ 255) => Find_any (w := W) (hb.kept h (by simp)) rfl hys hcap.1 hcap.2 (by omega) u hu (by omega))
  have WH := Lib.hid (fun out (h : walkN ys mtAll [] = (0, out)) => whole_of hys h)
  have AW := Lib.hid (allN_walk ys)
  have HT := Lib.hid (And.intro ht (show t.length ≤ 255 by omega))
  have hy3 : ys.length ≤ 3000 := by omega
  clear w0 hb hys ht htm hcap h20 h25
  go_enter Try.func5, Try.ntmps5
  go_wp2_with fail
  refine AL.out.mono ?_
  rintro e w1 ⟨⟨D, q, c, rfl, hD, hR, hP, hlc, hc63⟩, hg⟩
  obtain ⟨⟨er, out⟩, hw⟩ : ∃ r, r = walkN ys mtAll [] := ⟨_, rfl⟩
  rw [← hw] at AW
  simp only [] at AW
  have G1 := Lib.hid hg
  by_cases he : er = 0
  · subst he
    rw [if_neg (by simp)] at AW
    have WL := Lib.hid (WH.out out hw.symm)
    rw [AW.out] at hP ⊢
    have RD := Lib.hid hD
    have RI := Lib.hid hR
    have PM := Lib.hid hP
    clear hD hR hP hg hw AL WH
    simp only []
    go_wp2_with fail
    go_loopw [7, 8] (fun th i wr => ∃ k : Nat, k ≤ D.length ∧ i = .int .i64 k ∧ th = .bool ((D.take k).any (fun y => decide (y.1 = t))) ∧ w.grownBy wr none ∧ RowEx wr q D) (fun _ i _ => D.length - (intOf i).toNat)
    case atStart => exact ⟨0, Nat.zero_le _, rfl, rfl, G1.out, RD.out⟩
    case round =>
      obtain ⟨k, hk, rfl, rfl, hg, hD⟩ := hrel
      by_cases hlt : k < D.length
      · obtain ⟨y, hy⟩ : ∃ y, D[k]? = some y := ⟨_, List.getElem?_eq_getElem hlt⟩
        obtain ⟨g, rfl, a0, a1, a2, a3, a4, a5, a6⟩ := hD.at hy
        have G := Lib.hid hg
        have RW := Lib.hid hD
        have ym : y ∈ D := List.mem_of_getElem? hy
        have yt := WL.out.told y (PM.out.mem_iff.1 ym)
        have FN := Lib.hid (fun W h => (FA.out W h y.1 yt.1 yt.2).mono (R' := fun e w' => e = .returned (.tuple #[exV (strOfNums y.1) y.2, .bool true, .int .i64 0]) ∧ W.grownBy w' none) (fun e w' h => ⟨by have := h.ret; rw [WL.out.of_mem (PM.out.mem_iff.1 ym)] at this; exact this, h.grown⟩))
        clear hg
        by_cases hk0 : k = 0
        · have hz : decide ((0 : Int) < (k : Int)) = false := by simp; omega
          have hz2 : decide (0 < k) = false := by simp; omega
          have hz3 : ¬ 0 < k := by omega
          clear hk0 hD
          go_wp2_with fail
          go_quiet (fail)
          go_wp2_with fail
          refine (FN.out _ (grown_drewN G.out nq)).mono ?_
          rintro e w2 ⟨rfl, hg⟩
          have G2 := Lib.hid (grown_trans (grown_drewN G.out nq) hg)
          obtain ⟨g', e, a0, a1, a2, a3, a4, a5, a6⟩ := (RW.out.grown (grown_trans (grown_drewN (grown_refl _ _) nq) hg)).at hy
          injection e with e
          injection e with e
          subst e
          have g3 := grown1 w2 (.cells #[.string (strOfNums y.1), .int .i64 y.2.kind, .bool y.2.weak, .int .u64 y.2.value, .int .u64 y.2.resolver, .int .u64 y.2.ordinal, .string (strOfNums y.2.other)] 33)
          have E3 : ExAt (w2.alloc (.cells #[.string (strOfNums y.1), .int .i64 y.2.kind, .bool y.2.weak, .int .u64 y.2.value, .int .u64 y.2.resolver, .int .u64 y.2.ordinal, .string (strOfNums y.2.other)] 33)) w2.heap.size (strOfNums y.1) y.2 := heap_alloc_new w2 _
          obtain ⟨c0, c1, c2, c3, c4, c5, c6⟩ := E3.c
          obtain ⟨g', e, d0, d1, d2, d3, d4, d5, d6⟩ := ((RW.out.grown (grown_trans (grown_drewN (grown_refl _ _) nq) hg)).grown g3).at hy
          injection e with e
          injection e with e
          subst e
          have G3 := Lib.hid (grown_trans G2.out g3)
          have hg3 := Lib.hid (grown_trans (grown_trans (grown_drewN (grown_refl _ _) nq) hg) g3)
          clear hg g3 E3
          simp only [exV, exArr]
          go_wp2_with fail
          go_quiet (fail)
          go_wp2_with fail
          all_goals refine ⟨⟨k + 1, hlt, by go_num, ?_, grown_drewN G3.out _, RW.out.grown (grown_drewN hg3.out _)⟩, by simp [intOf]; omega⟩
          · rw [take_any D t hy, name_is yt.1 HT.out.1]
          · have h' : ((D.take k).any fun y => decide (y.1 = t)) = true := by simpa using h
            rw [take_any D t hy, if_pos h', h']
            rfl
        · have hz : decide ((0 : Int) < (k : Int)) = true := by simp; omega
          have hz2 : decide (0 < k) = true := by simp; omega
          have hz3 : 0 < k := by omega
          obtain ⟨y1, hy1⟩ : ∃ y, D[k - 1]? = some y := ⟨_, List.getElem?_eq_getElem (by omega)⟩
          obtain ⟨g', e, b0, -⟩ := hD.at hy1
          injection e with e
          injection e with e
          subst e
          have hi : ((k : Int) - 1).toNat = k - 1 := by omega
          have hk1 : ((k - 1 : Nat) : Int) = (k : Int) - 1 := by omega
          have hls := rises_less RI.out (PM.out.symm.pairwise WL.out.once (fun h => Ne.symm h)) (fun y h => (WL.out.told y (PM.out.mem_iff.1 h)).1) hz3 hy1 hy
          clear hD
          go_wp2_with fail
          go_quiet (fail)
          go_wp2_with fail
          refine (FN.out _ (grown_drewN G.out nq)).mono ?_
          rintro e w2 ⟨rfl, hg⟩
          have G2 := Lib.hid (grown_trans (grown_drewN G.out nq) hg)
          obtain ⟨g', e, a0, a1, a2, a3, a4, a5, a6⟩ := (RW.out.grown (grown_trans (grown_drewN (grown_refl _ _) nq) hg)).at hy
          injection e with e
          injection e with e
          subst e
          have g3 := grown1 w2 (.cells #[.string (strOfNums y.1), .int .i64 y.2.kind, .bool y.2.weak, .int .u64 y.2.value, .int .u64 y.2.resolver, .int .u64 y.2.ordinal, .string (strOfNums y.2.other)] 33)
          have E3 : ExAt (w2.alloc (.cells #[.string (strOfNums y.1), .int .i64 y.2.kind, .bool y.2.weak, .int .u64 y.2.value, .int .u64 y.2.resolver, .int .u64 y.2.ordinal, .string (strOfNums y.2.other)] 33)) w2.heap.size (strOfNums y.1) y.2 := heap_alloc_new w2 _
          obtain ⟨c0, c1, c2, c3, c4, c5, c6⟩ := E3.c
          obtain ⟨g', e, d0, d1, d2, d3, d4, d5, d6⟩ := ((RW.out.grown (grown_trans (grown_drewN (grown_refl _ _) nq) hg)).grown g3).at hy
          injection e with e
          injection e with e
          subst e
          have G3 := Lib.hid (grown_trans G2.out g3)
          have hg3 := Lib.hid (grown_trans (grown_trans (grown_drewN (grown_refl _ _) nq) hg) g3)
          clear hg g3 E3
          simp only [exV, exArr]
          go_wp2_with fail
          go_quiet (fail)
          go_wp2_with fail
          all_goals refine ⟨⟨k + 1, hlt, by go_num, ?_, grown_drewN G3.out _, RW.out.grown (grown_drewN hg3.out _)⟩, by simp [intOf]; omega⟩
          · rw [take_any D t hy, name_is yt.1 HT.out.1]
          · have h' : ((D.take k).any fun y => decide (y.1 = t)) = true := by simpa using h
            rw [take_any D t hy, if_pos h', h']
            rfl
      · obtain rfl : k = D.length := by omega
        rw [List.take_length]
        have TH := WL.out.there PM.out HT.out.2
        have FN := Lib.hid ((FA.out wr hg t HT.out.1 HT.out.2).mono (R' := fun e w' => (∃ nm x, e = .returned (.tuple #[exV nm x, .bool (D.any fun y => decide (y.1 = t)), .int .i64 0])) ∧ wr.grownBy w' none) (fun e w' h => ⟨⟨_, _, by have := h.ret; rw [TH.1, TH.2] at this; exact this⟩, h.grown⟩))
        have G := Lib.hid hg
        generalize (D.any fun y => decide (y.1 = t)) = bb at *
        clear hg TH
        go_wp2_with fail
        refine FN.out.mono ?_
        rintro e w2 ⟨⟨nm, x, rfl⟩, hg⟩
        have G2 := Lib.hid (grown_trans (grown_trans G.out hg) (grown1 w2 (.cells (exArr nm x) 33)))
        clear hg
        simp only [exV, exArr] at G2 ⊢
        go_wp2_with fail
        refine (K.out _).mono ?_
        rintro e w3 ⟨rfl, hg⟩
        have B := Lib.hid (BL.out _ (grown_trans G2.out hg))
        clear hg
        go_wp2
        go_ret
        exact ⟨rfl, B.out⟩
  · have de : (er != 0) = true := by simpa using he
    rw [if_pos he] at AW
    rw [AW.out] at hP ⊢
    obtain rfl := List.perm_nil.1 hP
    clear hD hR hP hg hw AL WH FA
    simp only [List.length_nil]
    go_wp2_with fail
    refine (K.out _).mono ?_
    rintro e w' ⟨rfl, hg⟩
    have B := Lib.hid (BL.out _ (grown_trans G1.out hg))
    clear hg
    go_wp2
    go_ret
    exact ⟨rfl, B.out⟩
end Go.Proofs.Ytblfighfahffkaa.trieFinds
