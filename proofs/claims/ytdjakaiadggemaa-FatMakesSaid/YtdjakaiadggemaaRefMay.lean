/- The document's own spans and slices that may be: one contract each. No condition. -/
import Derived.Test.YtdjakaiadggemaaRefNum
import Derived.Test.YtdjakaiadggemaaBad
namespace Go.Proofs.Ytdjakaiadggemaa
open Go.RowKit
variable {w w' : World}

theorem rwithin_any (a b c : Int) (ha : 0 ≤ a ∧ a < 18446744073709551616) (hb : 0 ≤ b ∧ b < 18446744073709551616) (hc : 0 ≤ c ∧ c < 18446744073709551616) :
    Calls Try.prog 14 #[.int .u64 a, .int .u64 b, .int .u64 c] w fun e w' => e = .returned (.bool (decide (a + b ≤ c))) ∧ w' = w := by
  by_cases h1 : a ≤ c
  · go_enter Try.func14, Try.ntmps14
    go_wp2
    go_ret
    exact ⟨ret_bool (by rw [decide_eq_decide]; omega), rfl⟩
  · go_enter Try.func14, Try.ntmps14
    go_wp2
    go_ret
    exact ⟨ret_bool (by symm; rw [decide_eq_false_iff_not]; omega), rfl⟩
theorem rsum_any (a b : Int) (ha : 0 ≤ a ∧ a < 18446744073709551616) (hb : 0 ≤ b ∧ b < 18446744073709551616) :
    Calls Try.prog 66 #[.int .u64 a, .int .u64 b] w fun e w' => (∃ n, e = .returned (.tuple #[.int .u64 n, .bool (decide (a + b < 18446744073709551616))])) ∧ w' = w := by
  by_cases h : a + b < 18446744073709551616
  · rw [decide_eq_true h]
    go_enter Try.func66, Try.ntmps66
    go_wp2
    go_ret2
    exact ⟨⟨_, rfl⟩, rfl⟩
  · rw [decide_eq_false h]
    go_enter Try.func66, Try.ntmps66
    go_wp2
    go_ret2
    exact ⟨⟨_, rfl⟩, rfl⟩
theorem whole1_any (a b : Int) (ha : 0 ≤ a ∧ a < 18446744073709551616) (hb : 0 ≤ b ∧ b < 18446744073709551616) :
    Calls Try.prog 46 #[.agg #[.int .u64 a, .int .u64 b]] w fun e w' => e = .returned (.bool (decide (a + b < 18446744073709551616))) ∧ w.grownBy w' none := by
  have S := Lib.hid (fun w => rsum_any (w := w) a b ha hb)
  go_enter Try.func46, Try.ntmps46
  go_wp2_with fail
  refine (S.out _).mono ?_
  rintro e w' ⟨⟨n, rfl⟩, rfl⟩
  go_wp2
  go_ret
  exact ⟨rfl, grown1 _ _⟩
def inB (o z p : Int) : Bool := decide (o ≤ p ∧ p - o < z)
theorem in_any (o z p : Int) (ho : 0 ≤ o ∧ o < 18446744073709551616) (_hz : 0 ≤ z ∧ z < 18446744073709551616) (hp : 0 ≤ p ∧ p < 18446744073709551616) :
    Calls Try.prog 47 #[.agg #[.int .u64 o, .int .u64 z], .int .u64 p] w fun e w' => e = .returned (.bool (inB o z p)) ∧ w.grownBy w' none := by
  unfold inB
  by_cases h : o ≤ p
  · go_enter Try.func47, Try.ntmps47
    go_wp2
    go_ret
    exact ⟨ret_bool (by rw [decide_eq_decide]; omega), grown1 _ _⟩
  · go_enter Try.func47, Try.ntmps47
    go_wp2
    go_ret
    exact ⟨ret_bool (by symm; simp; omega), grown1 _ _⟩
theorem meetB_ways (ao az bo bz : Int) (h2 : 0 ≤ az) (h4 : 0 ≤ bz) : meetB ao az bo bz = (decide (ao + az < 18446744073709551616) && decide (bo + bz < 18446744073709551616) && (inB ao az bo && inB bo bz bo || inB ao az ao && inB bo bz ao)) := by
  unfold meetB inB
  rw [Bool.eq_iff_iff]
  simp only [Bool.and_eq_true, Bool.or_eq_true, decide_eq_true_iff]
  omega

theorem rmeet_any (ao az bo bz : Int) (h1 : 0 ≤ ao ∧ ao < 18446744073709551616) (h2 : 0 ≤ az ∧ az < 18446744073709551616) (h3 : 0 ≤ bo ∧ bo < 18446744073709551616) (h4 : 0 ≤ bz ∧ bz < 18446744073709551616) :
    Calls Try.prog 25 #[.agg #[.int .u64 ao, .int .u64 az], .agg #[.int .u64 bo, .int .u64 bz]] w fun e w' => e = .returned (.bool (meetB ao az bo bz)) ∧ w.grownBy w' none := by
  have WA := Lib.hid (fun w => whole1_any (w := w) ao az h1 h2)
  have WB := Lib.hid (fun w => whole1_any (w := w) bo bz h3 h4)
  have I1 := Lib.hid (fun w => in_any (w := w) ao az bo h1 h2 h3)
  have I2 := Lib.hid (fun w => in_any (w := w) bo bz bo h3 h4 h3)
  have I3 := Lib.hid (fun w => in_any (w := w) ao az ao h1 h2 h1)
  have I4 := Lib.hid (fun w => in_any (w := w) bo bz ao h3 h4 h1)
  rw [meetB_ways ao az bo bz h2.1 h4.1]
  generalize decide (ao + az < 18446744073709551616) = wa at *
  generalize decide (bo + bz < 18446744073709551616) = wb at *
  generalize inB ao az bo = i1 at *
  generalize inB bo bz bo = i2 at *
  generalize inB ao az ao = i3 at *
  generalize inB bo bz ao = i4 at *
  clear h1 h2 h3 h4
  obtain ⟨W, hW⟩ : ∃ W, W = (w.alloc (.cells #[.int .u64 ao, .int .u64 az] 33)).alloc (.cells #[.int .u64 bo, .int .u64 bz] 33) := ⟨_, rfl⟩
  have CA : ∀ i v, W.cell? ⟨w.heap.size, i, none⟩ = some v → ∀ w', W.grownBy w' none → w'.cell? ⟨w.heap.size, i, none⟩ = some v := fun i v h w' hg => grown_cell hg h
  have CB : ∀ i v, W.cell? ⟨w.heap.size + 1, i, none⟩ = some v → ∀ w', W.grownBy w' none → w'.cell? ⟨w.heap.size + 1, i, none⟩ = some v := fun i v h w' hg => grown_cell hg h
  have A0 := Lib.hid (CA 0 (.int .u64 ao) (by rw [hW]; simp [go_sem]))
  have A1 := Lib.hid (CA 1 (.int .u64 az) (by rw [hW]; simp [go_sem]))
  have B0 := Lib.hid (CB 0 (.int .u64 bo) (by rw [hW]; simp [go_sem]))
  have B1 := Lib.hid (CB 1 (.int .u64 bz) (by rw [hW]; simp [go_sem]))
  have GW := Lib.hid (show w.grownBy W none by rw [hW]; exact grown2 _ _ _)
  clear CA CB
  cases wa
  · go_enter Try.func25, Try.ntmps25
    go_wp2_with fail
    rw [← hW]
    refine (WA.out _).mono ?_
    rintro e w1 ⟨rfl, hg1⟩
    have g1 : W.grownBy w1 none := hg1
    have a0 := A0.out _ g1
    have a1 := A1.out _ g1
    have b0 := B0.out _ g1
    have b1 := B1.out _ g1
    have G1 := Lib.hid g1
    go_wp2
    go_ret
    exact ⟨rfl, grown_trans GW.out G1.out⟩
  · cases wb
    · go_enter Try.func25, Try.ntmps25
      go_wp2_with fail
      rw [← hW]
      refine (WA.out _).mono ?_
      rintro e w1 ⟨rfl, hg1⟩
      have g1 : W.grownBy w1 none := hg1
      have a0 := A0.out _ g1
      have a1 := A1.out _ g1
      have b0 := B0.out _ g1
      have b1 := B1.out _ g1
      have G1 := Lib.hid g1
      go_wp2_with fail
      clear a0 a1 b0 b1
      refine (WB.out _).mono ?_
      rintro e w2 ⟨rfl, hg2⟩
      have g2 : W.grownBy w2 none := grown_trans g1 hg2
      have a0 := A0.out _ g2
      have a1 := A1.out _ g2
      have b0 := B0.out _ g2
      have b1 := B1.out _ g2
      have G2 := Lib.hid g2
      go_wp2
      go_ret
      exact ⟨rfl, grown_trans GW.out G2.out⟩
    · cases i1
      · cases i3
        · go_enter Try.func25, Try.ntmps25
          go_wp2_with fail
          rw [← hW]
          refine (WA.out _).mono ?_
          rintro e w1 ⟨rfl, hg1⟩
          have g1 : W.grownBy w1 none := hg1
          have a0 := A0.out _ g1
          have a1 := A1.out _ g1
          have b0 := B0.out _ g1
          have b1 := B1.out _ g1
          have G1 := Lib.hid g1
          go_wp2_with fail
          clear a0 a1 b0 b1
          refine (WB.out _).mono ?_
          rintro e w2 ⟨rfl, hg2⟩
          have g2 : W.grownBy w2 none := grown_trans g1 hg2
          have a0 := A0.out _ g2
          have a1 := A1.out _ g2
          have b0 := B0.out _ g2
          have b1 := B1.out _ g2
          have G2 := Lib.hid g2
          go_wp2_with fail
          clear a0 a1 b0 b1
          refine (I1.out _).mono ?_
          rintro e w3 ⟨rfl, hg3⟩
          have g3 : W.grownBy w3 none := grown_trans g2 hg3
          have a0 := A0.out _ g3
          have a1 := A1.out _ g3
          have b0 := B0.out _ g3
          have b1 := B1.out _ g3
          have G3 := Lib.hid g3
          go_wp2_with fail
          clear a0 a1 b0 b1
          refine (I3.out _).mono ?_
          rintro e w4 ⟨rfl, hg4⟩
          have g4 : W.grownBy w4 none := grown_trans g3 hg4
          have a0 := A0.out _ g4
          have a1 := A1.out _ g4
          have b0 := B0.out _ g4
          have b1 := B1.out _ g4
          have G4 := Lib.hid g4
          go_wp2
          go_ret
          exact ⟨rfl, grown_trans GW.out G4.out⟩
        · cases i4
          · go_enter Try.func25, Try.ntmps25
            go_wp2_with fail
            rw [← hW]
            refine (WA.out _).mono ?_
            rintro e w1 ⟨rfl, hg1⟩
            have g1 : W.grownBy w1 none := hg1
            have a0 := A0.out _ g1
            have a1 := A1.out _ g1
            have b0 := B0.out _ g1
            have b1 := B1.out _ g1
            have G1 := Lib.hid g1
            go_wp2_with fail
            clear a0 a1 b0 b1
            refine (WB.out _).mono ?_
            rintro e w2 ⟨rfl, hg2⟩
            have g2 : W.grownBy w2 none := grown_trans g1 hg2
            have a0 := A0.out _ g2
            have a1 := A1.out _ g2
            have b0 := B0.out _ g2
            have b1 := B1.out _ g2
            have G2 := Lib.hid g2
            go_wp2_with fail
            clear a0 a1 b0 b1
            refine (I1.out _).mono ?_
            rintro e w3 ⟨rfl, hg3⟩
            have g3 : W.grownBy w3 none := grown_trans g2 hg3
            have a0 := A0.out _ g3
            have a1 := A1.out _ g3
            have b0 := B0.out _ g3
            have b1 := B1.out _ g3
            have G3 := Lib.hid g3
            go_wp2_with fail
            clear a0 a1 b0 b1
            refine (I3.out _).mono ?_
            rintro e w4 ⟨rfl, hg4⟩
            have g4 : W.grownBy w4 none := grown_trans g3 hg4
            have a0 := A0.out _ g4
            have a1 := A1.out _ g4
            have b0 := B0.out _ g4
            have b1 := B1.out _ g4
            have G4 := Lib.hid g4
            go_wp2_with fail
            clear a0 a1 b0 b1
            refine (I4.out _).mono ?_
            rintro e w5 ⟨rfl, hg5⟩
            have g5 : W.grownBy w5 none := grown_trans g4 hg5
            have a0 := A0.out _ g5
            have a1 := A1.out _ g5
            have b0 := B0.out _ g5
            have b1 := B1.out _ g5
            have G5 := Lib.hid g5
            go_wp2
            go_ret
            exact ⟨rfl, grown_trans GW.out G5.out⟩
          · go_enter Try.func25, Try.ntmps25
            go_wp2_with fail
            rw [← hW]
            refine (WA.out _).mono ?_
            rintro e w1 ⟨rfl, hg1⟩
            have g1 : W.grownBy w1 none := hg1
            have a0 := A0.out _ g1
            have a1 := A1.out _ g1
            have b0 := B0.out _ g1
            have b1 := B1.out _ g1
            have G1 := Lib.hid g1
            go_wp2_with fail
            clear a0 a1 b0 b1
            refine (WB.out _).mono ?_
            rintro e w2 ⟨rfl, hg2⟩
            have g2 : W.grownBy w2 none := grown_trans g1 hg2
            have a0 := A0.out _ g2
            have a1 := A1.out _ g2
            have b0 := B0.out _ g2
            have b1 := B1.out _ g2
            have G2 := Lib.hid g2
            go_wp2_with fail
            clear a0 a1 b0 b1
            refine (I1.out _).mono ?_
            rintro e w3 ⟨rfl, hg3⟩
            have g3 : W.grownBy w3 none := grown_trans g2 hg3
            have a0 := A0.out _ g3
            have a1 := A1.out _ g3
            have b0 := B0.out _ g3
            have b1 := B1.out _ g3
            have G3 := Lib.hid g3
            go_wp2_with fail
            clear a0 a1 b0 b1
            refine (I3.out _).mono ?_
            rintro e w4 ⟨rfl, hg4⟩
            have g4 : W.grownBy w4 none := grown_trans g3 hg4
            have a0 := A0.out _ g4
            have a1 := A1.out _ g4
            have b0 := B0.out _ g4
            have b1 := B1.out _ g4
            have G4 := Lib.hid g4
            go_wp2_with fail
            clear a0 a1 b0 b1
            refine (I4.out _).mono ?_
            rintro e w5 ⟨rfl, hg5⟩
            have g5 : W.grownBy w5 none := grown_trans g4 hg5
            have a0 := A0.out _ g5
            have a1 := A1.out _ g5
            have b0 := B0.out _ g5
            have b1 := B1.out _ g5
            have G5 := Lib.hid g5
            go_wp2
            go_ret
            exact ⟨rfl, grown_trans GW.out G5.out⟩
      · cases i2
        · cases i3
          · go_enter Try.func25, Try.ntmps25
            go_wp2_with fail
            rw [← hW]
            refine (WA.out _).mono ?_
            rintro e w1 ⟨rfl, hg1⟩
            have g1 : W.grownBy w1 none := hg1
            have a0 := A0.out _ g1
            have a1 := A1.out _ g1
            have b0 := B0.out _ g1
            have b1 := B1.out _ g1
            have G1 := Lib.hid g1
            go_wp2_with fail
            clear a0 a1 b0 b1
            refine (WB.out _).mono ?_
            rintro e w2 ⟨rfl, hg2⟩
            have g2 : W.grownBy w2 none := grown_trans g1 hg2
            have a0 := A0.out _ g2
            have a1 := A1.out _ g2
            have b0 := B0.out _ g2
            have b1 := B1.out _ g2
            have G2 := Lib.hid g2
            go_wp2_with fail
            clear a0 a1 b0 b1
            refine (I1.out _).mono ?_
            rintro e w3 ⟨rfl, hg3⟩
            have g3 : W.grownBy w3 none := grown_trans g2 hg3
            have a0 := A0.out _ g3
            have a1 := A1.out _ g3
            have b0 := B0.out _ g3
            have b1 := B1.out _ g3
            have G3 := Lib.hid g3
            go_wp2_with fail
            clear a0 a1 b0 b1
            refine (I2.out _).mono ?_
            rintro e w4 ⟨rfl, hg4⟩
            have g4 : W.grownBy w4 none := grown_trans g3 hg4
            have a0 := A0.out _ g4
            have a1 := A1.out _ g4
            have b0 := B0.out _ g4
            have b1 := B1.out _ g4
            have G4 := Lib.hid g4
            go_wp2_with fail
            clear a0 a1 b0 b1
            refine (I3.out _).mono ?_
            rintro e w5 ⟨rfl, hg5⟩
            have g5 : W.grownBy w5 none := grown_trans g4 hg5
            have a0 := A0.out _ g5
            have a1 := A1.out _ g5
            have b0 := B0.out _ g5
            have b1 := B1.out _ g5
            have G5 := Lib.hid g5
            go_wp2
            go_ret
            exact ⟨rfl, grown_trans GW.out G5.out⟩
          · cases i4
            · go_enter Try.func25, Try.ntmps25
              go_wp2_with fail
              rw [← hW]
              refine (WA.out _).mono ?_
              rintro e w1 ⟨rfl, hg1⟩
              have g1 : W.grownBy w1 none := hg1
              have a0 := A0.out _ g1
              have a1 := A1.out _ g1
              have b0 := B0.out _ g1
              have b1 := B1.out _ g1
              have G1 := Lib.hid g1
              go_wp2_with fail
              clear a0 a1 b0 b1
              refine (WB.out _).mono ?_
              rintro e w2 ⟨rfl, hg2⟩
              have g2 : W.grownBy w2 none := grown_trans g1 hg2
              have a0 := A0.out _ g2
              have a1 := A1.out _ g2
              have b0 := B0.out _ g2
              have b1 := B1.out _ g2
              have G2 := Lib.hid g2
              go_wp2_with fail
              clear a0 a1 b0 b1
              refine (I1.out _).mono ?_
              rintro e w3 ⟨rfl, hg3⟩
              have g3 : W.grownBy w3 none := grown_trans g2 hg3
              have a0 := A0.out _ g3
              have a1 := A1.out _ g3
              have b0 := B0.out _ g3
              have b1 := B1.out _ g3
              have G3 := Lib.hid g3
              go_wp2_with fail
              clear a0 a1 b0 b1
              refine (I2.out _).mono ?_
              rintro e w4 ⟨rfl, hg4⟩
              have g4 : W.grownBy w4 none := grown_trans g3 hg4
              have a0 := A0.out _ g4
              have a1 := A1.out _ g4
              have b0 := B0.out _ g4
              have b1 := B1.out _ g4
              have G4 := Lib.hid g4
              go_wp2_with fail
              clear a0 a1 b0 b1
              refine (I3.out _).mono ?_
              rintro e w5 ⟨rfl, hg5⟩
              have g5 : W.grownBy w5 none := grown_trans g4 hg5
              have a0 := A0.out _ g5
              have a1 := A1.out _ g5
              have b0 := B0.out _ g5
              have b1 := B1.out _ g5
              have G5 := Lib.hid g5
              go_wp2_with fail
              clear a0 a1 b0 b1
              refine (I4.out _).mono ?_
              rintro e w6 ⟨rfl, hg6⟩
              have g6 : W.grownBy w6 none := grown_trans g5 hg6
              have a0 := A0.out _ g6
              have a1 := A1.out _ g6
              have b0 := B0.out _ g6
              have b1 := B1.out _ g6
              have G6 := Lib.hid g6
              go_wp2
              go_ret
              exact ⟨rfl, grown_trans GW.out G6.out⟩
            · go_enter Try.func25, Try.ntmps25
              go_wp2_with fail
              rw [← hW]
              refine (WA.out _).mono ?_
              rintro e w1 ⟨rfl, hg1⟩
              have g1 : W.grownBy w1 none := hg1
              have a0 := A0.out _ g1
              have a1 := A1.out _ g1
              have b0 := B0.out _ g1
              have b1 := B1.out _ g1
              have G1 := Lib.hid g1
              go_wp2_with fail
              clear a0 a1 b0 b1
              refine (WB.out _).mono ?_
              rintro e w2 ⟨rfl, hg2⟩
              have g2 : W.grownBy w2 none := grown_trans g1 hg2
              have a0 := A0.out _ g2
              have a1 := A1.out _ g2
              have b0 := B0.out _ g2
              have b1 := B1.out _ g2
              have G2 := Lib.hid g2
              go_wp2_with fail
              clear a0 a1 b0 b1
              refine (I1.out _).mono ?_
              rintro e w3 ⟨rfl, hg3⟩
              have g3 : W.grownBy w3 none := grown_trans g2 hg3
              have a0 := A0.out _ g3
              have a1 := A1.out _ g3
              have b0 := B0.out _ g3
              have b1 := B1.out _ g3
              have G3 := Lib.hid g3
              go_wp2_with fail
              clear a0 a1 b0 b1
              refine (I2.out _).mono ?_
              rintro e w4 ⟨rfl, hg4⟩
              have g4 : W.grownBy w4 none := grown_trans g3 hg4
              have a0 := A0.out _ g4
              have a1 := A1.out _ g4
              have b0 := B0.out _ g4
              have b1 := B1.out _ g4
              have G4 := Lib.hid g4
              go_wp2_with fail
              clear a0 a1 b0 b1
              refine (I3.out _).mono ?_
              rintro e w5 ⟨rfl, hg5⟩
              have g5 : W.grownBy w5 none := grown_trans g4 hg5
              have a0 := A0.out _ g5
              have a1 := A1.out _ g5
              have b0 := B0.out _ g5
              have b1 := B1.out _ g5
              have G5 := Lib.hid g5
              go_wp2_with fail
              clear a0 a1 b0 b1
              refine (I4.out _).mono ?_
              rintro e w6 ⟨rfl, hg6⟩
              have g6 : W.grownBy w6 none := grown_trans g5 hg6
              have a0 := A0.out _ g6
              have a1 := A1.out _ g6
              have b0 := B0.out _ g6
              have b1 := B1.out _ g6
              have G6 := Lib.hid g6
              go_wp2
              go_ret
              exact ⟨rfl, grown_trans GW.out G6.out⟩
        · go_enter Try.func25, Try.ntmps25
          go_wp2_with fail
          rw [← hW]
          refine (WA.out _).mono ?_
          rintro e w1 ⟨rfl, hg1⟩
          have g1 : W.grownBy w1 none := hg1
          have a0 := A0.out _ g1
          have a1 := A1.out _ g1
          have b0 := B0.out _ g1
          have b1 := B1.out _ g1
          have G1 := Lib.hid g1
          go_wp2_with fail
          clear a0 a1 b0 b1
          refine (WB.out _).mono ?_
          rintro e w2 ⟨rfl, hg2⟩
          have g2 : W.grownBy w2 none := grown_trans g1 hg2
          have a0 := A0.out _ g2
          have a1 := A1.out _ g2
          have b0 := B0.out _ g2
          have b1 := B1.out _ g2
          have G2 := Lib.hid g2
          go_wp2_with fail
          clear a0 a1 b0 b1
          refine (I1.out _).mono ?_
          rintro e w3 ⟨rfl, hg3⟩
          have g3 : W.grownBy w3 none := grown_trans g2 hg3
          have a0 := A0.out _ g3
          have a1 := A1.out _ g3
          have b0 := B0.out _ g3
          have b1 := B1.out _ g3
          have G3 := Lib.hid g3
          go_wp2_with fail
          clear a0 a1 b0 b1
          refine (I2.out _).mono ?_
          rintro e w4 ⟨rfl, hg4⟩
          have g4 : W.grownBy w4 none := grown_trans g3 hg4
          have a0 := A0.out _ g4
          have a1 := A1.out _ g4
          have b0 := B0.out _ g4
          have b1 := B1.out _ g4
          have G4 := Lib.hid g4
          go_wp2
          go_ret
          exact ⟨rfl, grown_trans GW.out G4.out⟩

theorem power_any (k : Nat) (hk : k ≤ 15) : Calls Try.prog 36 #[.int .u64 k] w fun e w' => e = .returned (.int .u64 (2 ^ k)) ∧ w' = w := by
  go_enter Try.func36, Try.ntmps36
  go_wp2
  go_loop [3, 4] (fun p i => ∃ j : Nat, j ≤ k ∧ i = .int .u64 j ∧ p = .int .u64 (2 ^ j)) (fun _ i => k - (intOf i).toNat)
  case atStart => exact ⟨0, Nat.zero_le _, rfl, rfl⟩
  case round =>
    obtain ⟨j, hj, rfl, rfl⟩ := hrel
    by_cases hlt : j < k
    · have hb : (2 : Int) ^ j ≤ 2 ^ 15 := by
        have : (2 : Nat) ^ j ≤ 2 ^ 15 := Nat.pow_le_pow_right (by decide) (by omega)
        exact_mod_cast this
      have h0 : (0 : Int) < 2 ^ j := Int.pow_pos (by decide)
      have hs : (2 : Int) ^ (j + 1) = 2 * 2 ^ j := by rw [Int.pow_succ]; omega
      have S := Lib.hid hs
      have hb' : (2 : Int) ^ j ≤ 32768 := hb
      clear hs hb
      generalize (2 : Int) ^ j = P at *
      go_wp2
      go_round
      case rel => exact ⟨j + 1, by omega, by go_num, by rw [S.out]⟩
      case measure => simp [intOf]; omega
    · have hjk : j = k := by omega
      subst hjk
      go_wp2
      go_ret
      exact ⟨rfl, rfl⟩

/-- May a slice be? (its align told beside it.) -/
theorem rmay_any (s : Sl) (hs : s.Fits) (h32 : 0 ≤ s.align ∧ s.align < 4294967296) (e all : Nat) (he : e ≤ 4611686018427387904) (ha : all ≤ 4611686018427387904) :
    Calls Try.prog 24 #[s.v, .int .u64 s.align, .int .i64 e, .int .i64 all] w fun x w' => x = .returned (.bool (s.may e all)) ∧ w.grownBy w' none := by
  have H1 := Lib.hid (fun w => rwithin_any (w := w) s.off s.size all hs.off hs.size (by omega))
  have hoff := hs.off
  have e1 : (e : Int) % 18446744073709551616 = e := by omega
  have e2 : (all : Int) % 18446744073709551616 = all := by omega
  have e1' : IntKind.u64.wrap (e : Int) = e := by rw [IntKind.wrap_u64]; exact e1
  have e2' : IntKind.u64.wrap (all : Int) = all := by rw [IntKind.wrap_u64]; exact e2
  obtain ⟨b, hb⟩ : ∃ b, b = s.may e all := ⟨_, rfl⟩
  rw [← hb]
  have HB := Lib.hid hb
  rw [show s.v = .agg #[.int .u32 s.cpu, .int .u32 s.sub, .int .u64 s.off, .int .u64 s.size, .int .i64 s.align] from rfl]
  clear hb hs
  obtain ⟨k, hk⟩ := Int.eq_ofNat_of_zero_le h32.1
  rw [hk] at h32 ⊢
  by_cases c3 : (k : Int) ≤ 15
  · have hk15 : k ≤ 15 := by omega
    have H3 := Lib.hid (fun w => power_any (w := w) k hk15)
    have hp : (0 : Int) < 2 ^ k := Int.pow_pos (by decide)
    have hne : ((2 : Int) ^ k == 0) = false := by simp; omega
    have hne' : ¬ (2 : Int) ^ k = 0 := by omega
    by_cases c2 : (e : Int) ≤ s.off
    · have hbe : b = ((s.off % 2 ^ k == 0) && decide (s.off + s.size ≤ all)) := by
        rw [HB.out]
        unfold Sl.may
        rw [hk, Bool.eq_iff_iff, decide_eq_true_iff, Bool.and_eq_true, decide_eq_true_iff, beq_iff_eq, Int.toNat_natCast]
        exact ⟨fun h => ⟨h.2.2.2.2, h.1⟩, fun h => ⟨h.2, c2, by omega, by omega, h.1⟩⟩
      rw [hbe]
      generalize (2 : Int) ^ k = P at *
      clear HB hbe hk
      cases hr : (s.off % P == 0)
      all_goals
        go_enter Try.func24, Try.ntmps24
        go_wp2_with fail
        go_quiet (first | (go_at_call 14; exact Calls.quiet_of_same (H1.out _)) | (go_at_call 36; exact Calls.quiet_of_same (H3.out _)))
        go_wp2
        go_ret
        exact ⟨rfl, grown_drewN (grown1 _ _) _⟩
    · have hbe : b = false := by
        rw [HB.out]
        unfold Sl.may
        rw [decide_eq_false_iff_not]
        exact fun h => c2 h.2.1
      have c2' : decide ((e : Int) ≤ s.off) = false := decide_eq_false c2
      rw [hbe]
      clear HB hbe hk
      go_enter Try.func24, Try.ntmps24
      go_wp2_with fail
      go_quiet (fail)
      go_wp2
      go_ret
      exact ⟨rfl, grown_drewN (grown1 _ _) _⟩
  · have hbe : b = false := by
      rw [HB.out]
      unfold Sl.may
      rw [hk, decide_eq_false_iff_not]
      exact fun h => c3 h.2.2.2.1
    have c3' : decide ((k : Int) ≤ 15) = false := decide_eq_false c3
    rw [hbe]
    clear HB hbe hk
    go_enter Try.func24, Try.ntmps24
    go_wp2_with fail
    go_quiet (fail)
    go_wp2
    go_ret
    exact ⟨rfl, grown_drewN (grown1 _ _) _⟩
end Go.Proofs.Ytdjakaiadggemaa
