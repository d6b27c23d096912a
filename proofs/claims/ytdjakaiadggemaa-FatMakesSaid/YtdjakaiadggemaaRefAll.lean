/- The document's own slices of any bytes, and where the one stands that is taken: one contract each. No condition but that a file's bytes are not beyond the form's bound. -/
import Derived.Test.YtdjakaiadggemaaRefFat
import Derived.Test.YtdjakaiadggemaaRefWide
import Derived.Test.YtdjakaiadggemaaSlice
namespace Go.Proofs.Ytdjakaiadggemaa
open Go.RowKit
variable {w w' : World}

set_option maxRecDepth 20000 in
theorem refslices_any (ys : List Int) (q : Option Addr) (c n : Nat) (h : IsBytes w q c ys) (hn : ys.length = n) (hc : n ≤ c) (hcm : c ≤ 9223372036854775807) (hr : Small ys) :
    Calls Try.prog 10 #[.slice q n c] w fun e w' => SlOut w w' (slicesN ys) e := by
  obtain ⟨r, hrr⟩ : ∃ r, r = slicesN ys := ⟨_, rfl⟩
  rw [← hrr]
  unfold slicesN at hrr
  rw [hn] at hrr
  by_cases h1 : 1048576 < n
  · rw [if_pos h1] at hrr
    have R := Lib.hid hrr
    have hd : decide ((1048576 : Int) < n) = true := by simp; omega
    clear hrr
    go_enter Try.func10, Try.ntmps10
    go_wp2
    go_ret2
    rw [R.out]
    exact slOut_nil (grown_refl _ _)
  · rw [if_neg h1] at hrr
    by_cases h4 : n < 4
    · rw [if_pos h4] at hrr
      have R := Lib.hid hrr
      clear hrr
      go_enter Try.func10, Try.ntmps10
      go_wp2
      go_ret2
      rw [R.out]
      exact slOut_nil (grown_refl _ _)
    · rw [if_neg h4] at hrr
      by_cases m2 : ys.take 4 = [202, 254, 186, 190]
      · rw [if_neg (by rw [m2]; decide), if_pos m2] at hrr
        rw [hrr]
        exact refslices_fat ys q c n h hn h1 h4 hc hcm hr m2
      · by_cases m3 : ys.take 4 = [202, 254, 186, 191]
        · rw [if_neg (by rw [m3]; decide), if_neg m2, if_pos m3] at hrr
          rw [hrr]
          exact refslices_wide ys q c n h hn h1 h4 hc hcm hr m3
        · have hs4 : Small (ys.take 4) := fun x hx => hr x (List.mem_of_mem_take hx)
          have t1 : ((strOfNums (ys.take 4)).toList == [207, 250, 237, 254]) = decide (ys.take 4 = [207, 250, 237, 254]) := text_is (ys := [207, 250, 237, 254]) hs4 (small_lit rfl)
          have t2 : ((strOfNums (ys.take 4)).toList == [202, 254, 186, 190]) = decide (ys.take 4 = [202, 254, 186, 190]) := text_is (ys := [202, 254, 186, 190]) hs4 (small_lit rfl)
          have t3 : ((strOfNums (ys.take 4)).toList == [202, 254, 186, 191]) = decide (ys.take 4 = [202, 254, 186, 191]) := text_is (ys := [202, 254, 186, 191]) hs4 (small_lit rfl)
          rw [decide_eq_false m2] at t2
          rw [decide_eq_false m3] at t3
          have t2n : ((strOfNums (ys.take 4)).toList != [202, 254, 186, 190]) = true := by rw [bne, t2]; rfl
          have hq : ∃ x, q = some x := by
            obtain ⟨b, o, e, _⟩ := h.2 (by omega)
            exact ⟨_, e⟩
          obtain ⟨x, rfl⟩ := hq
          have cv2 : (convert 22 9 (.slice (some x) 4 c)).run Try.prog w = .ok (.string (strOfNums (ys.take 4))) w := (h.take 4 (fun e => by cases e)).text (by simp; omega)
          rw [if_neg m2, if_neg m3] at hrr
          by_cases m1 : ys.take 4 = [207, 250, 237, 254]
          · rw [if_pos m1] at hrr
            rw [decide_eq_true m1] at t1
            have SM := Lib.hid hr
            have l1 := Lib.hid (lemod ((ys.drop 4).take 4) (fun x hx => hr x (List.mem_of_mem_drop (List.mem_of_mem_take hx))) (by simp; omega))
            have l2 := Lib.hid (lemod ((ys.drop 8).take 4) (fun x hx => hr x (List.mem_of_mem_drop (List.mem_of_mem_take hx))) (by simp; omega))
            have N1 := Lib.hid (fun (w1 : World) (hg : w.grownBy w1 none) (hk : 4 + 4 ≤ n) => refnum_le (w := w1) ys (h.kept hg (by simp)) hn hc hcm hr 4 hk)
            have N2 := Lib.hid (fun (w1 : World) (hg : w.grownBy w1 none) (hk : 8 + 4 ≤ n) => refnum_le (w := w1) ys (h.kept hg (by simp)) hn hc hcm hr 8 hk)
            clear h hr hs4 t2 t3 t2n m1 m2 m3
            generalize strOfNums (ys.take 4) = T at *
            by_cases h12 : n < 12
            · have e1 : thinN ys = ([], 3) := by unfold thinN; rw [if_pos (by omega)]
              rw [e1] at hrr
              have R := Lib.hid hrr
              clear e1 hrr
              go_enter Try.func10, Try.ntmps10
              go_wp2
              go_ret2
              rw [R.out]
              exact slOut_nil (grown_refl _ _)
            · have e1 : thinN ys = ([thin ys], 0) := by unfold thinN; rw [if_neg (by omega)]
              have e2 : thin ys = ⟨leN ((ys.drop 4).take 4), leN ((ys.drop 8).take 4), 0, n, 0⟩ := by unfold thin; rw [hn]
              rw [e1, e2] at hrr
              have m1 := l1.out
              have m2 := l2.out
              have R := Lib.hid hrr
              have P1 := Lib.hid (N1.out w (grown_refl _ _) (by omega))
              have P2 := Lib.hid (fun w1 hg => N2.out w1 hg (by omega))
              have hu : ((n : Int) % 18446744073709551616) = n := by omega
              clear e1 e2 hrr l1 l2 N1 N2
              generalize leN ((ys.drop 4).take 4) = x1 at *
              generalize leN ((ys.drop 8).take 4) = x2 at *
              go_enter Try.func10, Try.ntmps10
              go_wp2_with fail
              refine P1.out.mono ?_
              rintro e w1 ⟨rfl, hg1⟩
              have G1 := Lib.hid hg1
              clear hg1
              go_wp2_with fail
              refine (P2.out w1 G1.out).mono ?_
              rintro e w2 ⟨rfl, hg2⟩
              have G2 := Lib.hid (grown_trans G1.out hg2)
              clear hg2
              go_wp2
              go_ret2
              rw [R.out]
              exact slOut_one G2.out rfl
          · rw [if_neg m1] at hrr
            rw [decide_eq_false m1] at t1
            have R := Lib.hid hrr
            clear h hr hs4 m1 m2 m3 hrr
            generalize strOfNums (ys.take 4) = T at *
            go_enter Try.func10, Try.ntmps10
            go_wp2
            go_ret2
            rw [R.out]
            exact slOut_nil (grown_refl _ _)

/-- The document's own place. -/
theorem refslice_any (ys : List Int) (q : Option Addr) (c n : Nat) (h : IsBytes w q c ys) (hn : ys.length = n) (hc : n ≤ c) (hcm : c ≤ 9223372036854775807) (hr : Small ys) (arch : Int) :
    Calls Try.prog 12 #[.slice q n c, .int .i64 arch] w fun e w' =>
      e = .returned (.tuple #[.agg #[.int .u64 (sliceN ys arch).1, .int .u64 (sliceN ys arch).2.1], .int .i64 (sliceN ys arch).2.2]) ∧ w.grownBy w' none := by
  have SS := Lib.hid (fun (w1 : World) (hg : w.grownBy w1 none) => refslices_any (w := w1) ys q c n (h.kept hg (by simp)) hn hc hcm hr)
  have hf := slicesN_fits hr
  have PP := Lib.hid (fun (w1 : World) q c (hp : IsSl w1 q (slicesN ys).1) => pick2_any (w := w1) (slicesN ys).1 (by omega) hf.1 q c hp arch)
  obtain ⟨r, hrr⟩ : ∃ r, r = sliceN ys arch := ⟨_, rfl⟩
  rw [← hrr]
  unfold sliceN at hrr
  clear h hr hf
  obtain ⟨⟨l, x⟩, hlx⟩ : ∃ z, z = slicesN ys := ⟨_, rfl⟩
  rw [← hlx] at hrr PP SS
  clear hlx
  simp only [] at hrr PP
  have Z := Lib.hid (SpAt.new w 0 0)
  by_cases ha : arch = 1 ∨ arch = 2
  · rw [if_neg (by omega)] at hrr
    obtain ⟨⟨s, y⟩, hsy⟩ : ∃ z, z = pickN l arch := ⟨_, rfl⟩
    rw [← hsy] at hrr PP
    clear hsy
    have hrr' := Lib.hid hrr
    clear hrr
    have run : ∀ (ha1 : (arch != 1 && arch != 2) = false) (hb : arch = 1 ∨ arch = 2), True := fun _ _ => trivial
    clear run
    rcases ha with rfl | rfl
    all_goals
      have hrr := hrr'.out
      go_enter Try.func12, Try.ntmps12
      clear hrr
      go_wp2_with fail
      refine (SS.out _ (grown1 _ _)).mono ?_
      rintro e w2 ⟨⟨q2, c2, rfl, hsl, hc1, hc2⟩, hg⟩
      have Z2 := Lib.hid (Z.out.grown hg)
      have G3 := Lib.hid (grown_trans (grown1 w (.cells #[.int .u64 0, .int .u64 0] 33)) hg)
      have SL := Lib.hid hsl
      have hsz0 := hg.size
      clear hg hsl
      simp only [] at SL hc1 ⊢
      by_cases hx : x = 0
      · subst hx
        have hrr := hrr'.out
        rw [if_neg (by simp)] at hrr
        have R := Lib.hid hrr
        clear hrr
        unfold Sl.v at PP
        go_wp2_with fail
        refine (PP.out _ _ _ SL.out).mono ?_
        rintro e w3 ⟨rfl, hg3⟩
        have hn3 := grown1 w3 (.cells #[.int .u32 s.cpu, .int .u32 s.sub, .int .u64 s.off, .int .u64 s.size, .int .i64 s.align] 42)
        have z2 := (Z2.out.grown hg3).grown hn3
        have G4 := Lib.hid (grown_trans (grown_trans G3.out hg3) hn3)
        have ZZ := Lib.hid z2
        have z0 := z2.c0
        have z1 := z2.c1
        have y0 := z2.f 0
        have y1 := z2.f 1
        have hlt := lt_of_block (show w2.heap[w.heap.size]? = _ from Z2.out)
        have hsz := hg3.size
        clear hg3 hn3 z2
        go_wp2
        refine bodyPost_ret (results_sp rfl rfl rfl (ZZ.out.put s.off s.size)) rfl ?_
        rw [R.out]
        exact ⟨rfl, grown_new G4.out (grown_put2 (grown_refl _ _) _ _) (Nat.le_refl _)⟩
      · have hrr := hrr'.out
        rw [if_pos hx] at hrr
        have R := Lib.hid hrr
        have hxx : (x != 0) = true := by simpa using hx
        clear hrr hx
        have z0 := Z2.out.c0
        have z1 := Z2.out.c1
        have y0 := Z2.out.f 0
        have y1 := Z2.out.f 1
        go_wp2
        refine bodyPost_ret (results_sp rfl rfl rfl (Z2.out.put 0 0)) rfl ?_
        rw [R.out]
        exact ⟨rfl, grown_new G3.out (grown_put2 (grown_refl _ _) _ _) (Nat.le_refl _)⟩
  · rw [if_pos (by omega)] at hrr
    have R := Lib.hid hrr
    have hn1 : (arch != 1) = true := by simp; omega
    have hn2 : (arch != 2) = true := by simp; omega
    clear hrr PP
    go_enter Try.func12, Try.ntmps12
    go_wp2
    refine bodyPost_ret (results_sp rfl rfl rfl Z.out) rfl ?_
    rw [R.out]
    exact ⟨rfl, grown1 _ _⟩
end Go.Proofs.Ytdjakaiadggemaa
