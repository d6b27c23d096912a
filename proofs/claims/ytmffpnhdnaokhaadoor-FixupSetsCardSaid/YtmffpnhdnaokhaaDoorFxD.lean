/- The order of two fixups, as the program finds it. No condition. -/
import Derived.Test.YtmffpnhdnaokhaaDoorFxC
import Derived.Shelf.Abstract
import Derived.PlainAid
import Derived.WalkLawsBesides
namespace Go.Proofs.YtmffpnhdnaokhaaDoor
open Go.RowKit Go.Shelf
variable {w w' W V : World}

theorem index_look (k : Nat) (hk : k < 7) (W : World) : (Instr.index 53 (.agg lookFs) (.int .i64 (k : Int))).run Tryd.prog W = .ok (lookFs.getD k undef) W := by
  have hs : (sizeOf 34).run Tryd.prog W = .ok 1 W := by first | kernel_rfl | rfl
  rcases (show k = 0 ∨ k = 1 ∨ k = 2 ∨ k = 3 ∨ k = 4 ∨ k = 5 ∨ k = 6 by omega) with rfl | rfl | rfl | rfl | rfl | rfl | rfl <;>
  simp [Instr.index, asIntOf, run_underlying Tryd.underlying53, go_sem, hs, lookFs]
set_option maxRecDepth 20000 in
set_option maxHeartbeats 1600000 in
theorem order_grew (a b : Fx) (w : World) : Calls Tryd.prog 11 #[fxV a, fxV b] w fun e w' => e = .returned (.int .i64 (ordN a b)) ∧ Grew w w' := by
  obtain ⟨W, hW, ha, hb, hg⟩ := two_grew w a b
  have e1 : ∀ args V, (callFunc 49 args).run Tryd.prog V = .ok (.enter 49 args) V := enters_of Tryd.func49 (by kernel_rfl) rfl
  have e2 : ∀ args V, (callFunc 51 args).run Tryd.prog V = .ok (.enter 51 args) V := enters_of Tryd.func51 (by kernel_rfl) rfl
  have e3 : ∀ args V, (callFunc 53 args).run Tryd.prog V = .ok (.enter 53 args) V := enters_of Tryd.func53 (by kernel_rfl) rfl
  have e4 : ∀ args V, (callFunc 54 args).run Tryd.prog V = .ok (.enter 54 args) V := enters_of Tryd.func54 (by kernel_rfl) rfl
  have e5 : ∀ args V, (callFunc 56 args).run Tryd.prog V = .ok (.enter 56 args) V := enters_of Tryd.func56 (by kernel_rfl) rfl
  have e6 : ∀ args V, (callFunc 58 args).run Tryd.prog V = .ok (.enter 58 args) V := enters_of Tryd.func58 (by kernel_rfl) rfl
  have e7 : ∀ args V, (callFunc 60 args).run Tryd.prog V = .ok (.enter 60 args) V := enters_of Tryd.func60 (by kernel_rfl) rfl
  have HA := Lib.hid ha
  have HB := Lib.hid hb
  have G := Lib.hid hg
  obtain ⟨r, hr⟩ : ∃ r, r = ordN a b := ⟨_, rfl⟩
  obtain ⟨b1, hb1⟩ : ∃ g, w.heap.size = g := ⟨_, rfl⟩
  rw [← hr]
  rw [hb1] at HA HB
  have HR := Lib.hid hr
  clear ha hb hg hr
  have EA : fxV a = .agg #[.int .u64 a.at_, .int .i64 a.kind, .int .u64 a.target, .int .i64 a.ord, .string a.sym, .int .i64 a.add, .bool a.weak] := rfl
  have EB : fxV b = .agg #[.int .u64 b.at_, .int .i64 b.kind, .int .u64 b.target, .int .i64 b.ord, .string b.sym, .int .i64 b.add, .bool b.weak] := rfl
  rw [EA, EB]
  clear EA EB
  go_enter Tryd.func11, Tryd.ntmps11
  go_upto_region 1 with fail
  clear hW hb1
  go_wp2_with (go_at_call 30; refine (looks_any _).mono ?_; rintro e w2 ⟨rfl, hg⟩; have G2 := Lib.hid (G.out.trans hg); have G3 := Lib.hid hg; clear hg)
  go_loopw [9] (fun v wr => ∃ k : Nat, k ≤ 7 ∧ v = .int .i64 k ∧ Grew W wr ∧ Hid (ordN a b = ordK a b (7 - k) k)) (fun v _ => 7 - (intOf v).toNat)
  case atStart => exact ⟨0, by decide, rfl, G3.out, Lib.hid rfl⟩
  case round =>
    obtain ⟨k, hk, rfl, hg, OK⟩ := hrel
    have GR := Lib.hid hg
    clear hg
    by_cases hlt : k < 7
    · obtain ⟨W3, hW3⟩ : ∃ V, V = wr := ⟨_, rfl⟩
      have A3 := HA.out.grown GR.out.g
      have B3 := HB.out.grown GR.out.g
      obtain ⟨a0, a1, a2, a3, a4, a5, a6⟩ := A3.c
      obtain ⟨c0, c1, c2, c3, c4, c5, c6⟩ := B3.c
      obtain ⟨q, hq⟩ : ∃ q, q = lookN k a b := ⟨_, rfl⟩
      have HQ := Lib.hid hq
      have NX := Lib.hid (show ordK a b (7 - k) k = thn q (ordK a b (7 - (k + 1)) (k + 1)) by rw [hq, show 7 - k = (7 - (k + 1)) + 1 by omega]; rfl)
      have HLT := Lib.hid hlt
      clear A3 B3 hq hW3
      rcases (show k = 0 ∨ k = 1 ∨ k = 2 ∨ k = 3 ∨ k = 4 ∨ k = 5 ∨ k = 6 by omega) with rfl | rfl | rfl | rfl | rfl | rfl | rfl
      · have L := Lib.hid (look1 a b wr)
        have ix : ∀ V, (Instr.index 53 (.agg lookFs) (.int .i64 0)).run Tryd.prog V = .ok (.func (.func 49) #[] #[]) V := fun V => index_look 0 (by decide) V
        rw [← HQ.out] at L
        unfold fxV fxArr at L
        by_cases hz : q = 0
        · subst hz
          go_wp2_with fail
          refine L.out.mono ?_
          rintro e w4 ⟨rfl, hg⟩
          have G4 := Lib.hid (GR.out.trans hg)
          clear hg a0 a1 a2 a3 a4 a5 a6 c0 c1 c2 c3 c4 c5 c6 L
          go_wp2
          go_roundw
          case rel => exact ⟨1, by decide, rfl, G4.out, Lib.hid (by rw [OK.out, NX.out]; rfl)⟩
          case measure => simp [intOf]
        · go_wp2_with fail
          refine L.out.mono ?_
          rintro e w4 ⟨rfl, hg⟩
          have G4 := Lib.hid (GR.out.trans hg)
          clear hg a0 a1 a2 a3 a4 a5 a6 c0 c1 c2 c3 c4 c5 c6 L
          go_wp2
          go_ret
          refine ⟨?_, G.out.trans G4.out⟩
          rw [HR.out, OK.out, NX.out, thn, if_pos hz]
          rfl
      · have L := Lib.hid (look2 a b wr)
        have ix : ∀ V, (Instr.index 53 (.agg lookFs) (.int .i64 1)).run Tryd.prog V = .ok (.func (.func 51) #[] #[]) V := fun V => index_look 1 (by decide) V
        rw [← HQ.out] at L
        unfold fxV fxArr at L
        by_cases hz : q = 0
        · subst hz
          go_wp2_with fail
          refine L.out.mono ?_
          rintro e w4 ⟨rfl, hg⟩
          have G4 := Lib.hid (GR.out.trans hg)
          clear hg a0 a1 a2 a3 a4 a5 a6 c0 c1 c2 c3 c4 c5 c6 L
          go_wp2
          go_roundw
          case rel => exact ⟨2, by decide, rfl, G4.out, Lib.hid (by rw [OK.out, NX.out]; rfl)⟩
          case measure => simp [intOf]
        · go_wp2_with fail
          refine L.out.mono ?_
          rintro e w4 ⟨rfl, hg⟩
          have G4 := Lib.hid (GR.out.trans hg)
          clear hg a0 a1 a2 a3 a4 a5 a6 c0 c1 c2 c3 c4 c5 c6 L
          go_wp2
          go_ret
          refine ⟨?_, G.out.trans G4.out⟩
          rw [HR.out, OK.out, NX.out, thn, if_pos hz]
          rfl
      · have L := Lib.hid (look3 a b wr)
        have ix : ∀ V, (Instr.index 53 (.agg lookFs) (.int .i64 2)).run Tryd.prog V = .ok (.func (.func 53) #[] #[]) V := fun V => index_look 2 (by decide) V
        rw [← HQ.out] at L
        unfold fxV fxArr at L
        by_cases hz : q = 0
        · subst hz
          go_wp2_with fail
          refine L.out.mono ?_
          rintro e w4 ⟨rfl, hg⟩
          have G4 := Lib.hid (GR.out.trans hg)
          clear hg a0 a1 a2 a3 a4 a5 a6 c0 c1 c2 c3 c4 c5 c6 L
          go_wp2
          go_roundw
          case rel => exact ⟨3, by decide, rfl, G4.out, Lib.hid (by rw [OK.out, NX.out]; rfl)⟩
          case measure => simp [intOf]
        · go_wp2_with fail
          refine L.out.mono ?_
          rintro e w4 ⟨rfl, hg⟩
          have G4 := Lib.hid (GR.out.trans hg)
          clear hg a0 a1 a2 a3 a4 a5 a6 c0 c1 c2 c3 c4 c5 c6 L
          go_wp2
          go_ret
          refine ⟨?_, G.out.trans G4.out⟩
          rw [HR.out, OK.out, NX.out, thn, if_pos hz]
          rfl
      · have L := Lib.hid (look4 a b wr)
        have ix : ∀ V, (Instr.index 53 (.agg lookFs) (.int .i64 3)).run Tryd.prog V = .ok (.func (.func 54) #[] #[]) V := fun V => index_look 3 (by decide) V
        rw [← HQ.out] at L
        unfold fxV fxArr at L
        by_cases hz : q = 0
        · subst hz
          go_wp2_with fail
          refine L.out.mono ?_
          rintro e w4 ⟨rfl, hg⟩
          have G4 := Lib.hid (GR.out.trans hg)
          clear hg a0 a1 a2 a3 a4 a5 a6 c0 c1 c2 c3 c4 c5 c6 L
          go_wp2
          go_roundw
          case rel => exact ⟨4, by decide, rfl, G4.out, Lib.hid (by rw [OK.out, NX.out]; rfl)⟩
          case measure => simp [intOf]
        · go_wp2_with fail
          refine L.out.mono ?_
          rintro e w4 ⟨rfl, hg⟩
          have G4 := Lib.hid (GR.out.trans hg)
          clear hg a0 a1 a2 a3 a4 a5 a6 c0 c1 c2 c3 c4 c5 c6 L
          go_wp2
          go_ret
          refine ⟨?_, G.out.trans G4.out⟩
          rw [HR.out, OK.out, NX.out, thn, if_pos hz]
          rfl
      · have L := Lib.hid (look5 a b wr)
        have ix : ∀ V, (Instr.index 53 (.agg lookFs) (.int .i64 4)).run Tryd.prog V = .ok (.func (.func 56) #[] #[]) V := fun V => index_look 4 (by decide) V
        rw [← HQ.out] at L
        unfold fxV fxArr at L
        by_cases hz : q = 0
        · subst hz
          go_wp2_with fail
          refine L.out.mono ?_
          rintro e w4 ⟨rfl, hg⟩
          have G4 := Lib.hid (GR.out.trans hg)
          clear hg a0 a1 a2 a3 a4 a5 a6 c0 c1 c2 c3 c4 c5 c6 L
          go_wp2
          go_roundw
          case rel => exact ⟨5, by decide, rfl, G4.out, Lib.hid (by rw [OK.out, NX.out]; rfl)⟩
          case measure => simp [intOf]
        · go_wp2_with fail
          refine L.out.mono ?_
          rintro e w4 ⟨rfl, hg⟩
          have G4 := Lib.hid (GR.out.trans hg)
          clear hg a0 a1 a2 a3 a4 a5 a6 c0 c1 c2 c3 c4 c5 c6 L
          go_wp2
          go_ret
          refine ⟨?_, G.out.trans G4.out⟩
          rw [HR.out, OK.out, NX.out, thn, if_pos hz]
          rfl
      · have L := Lib.hid (look6 a b wr)
        have ix : ∀ V, (Instr.index 53 (.agg lookFs) (.int .i64 5)).run Tryd.prog V = .ok (.func (.func 58) #[] #[]) V := fun V => index_look 5 (by decide) V
        rw [← HQ.out] at L
        unfold fxV fxArr at L
        by_cases hz : q = 0
        · subst hz
          go_wp2_with fail
          refine L.out.mono ?_
          rintro e w4 ⟨rfl, hg⟩
          have G4 := Lib.hid (GR.out.trans hg)
          clear hg a0 a1 a2 a3 a4 a5 a6 c0 c1 c2 c3 c4 c5 c6 L
          go_wp2
          go_roundw
          case rel => exact ⟨6, by decide, rfl, G4.out, Lib.hid (by rw [OK.out, NX.out]; rfl)⟩
          case measure => simp [intOf]
        · go_wp2_with fail
          refine L.out.mono ?_
          rintro e w4 ⟨rfl, hg⟩
          have G4 := Lib.hid (GR.out.trans hg)
          clear hg a0 a1 a2 a3 a4 a5 a6 c0 c1 c2 c3 c4 c5 c6 L
          go_wp2
          go_ret
          refine ⟨?_, G.out.trans G4.out⟩
          rw [HR.out, OK.out, NX.out, thn, if_pos hz]
          rfl
      · have L := Lib.hid (look7 a b wr)
        have ix : ∀ V, (Instr.index 53 (.agg lookFs) (.int .i64 6)).run Tryd.prog V = .ok (.func (.func 60) #[] #[]) V := fun V => index_look 6 (by decide) V
        rw [← HQ.out] at L
        unfold fxV fxArr at L
        by_cases hz : q = 0
        · subst hz
          go_wp2_with fail
          refine L.out.mono ?_
          rintro e w4 ⟨rfl, hg⟩
          have G4 := Lib.hid (GR.out.trans hg)
          clear hg a0 a1 a2 a3 a4 a5 a6 c0 c1 c2 c3 c4 c5 c6 L
          go_wp2
          go_roundw
          case rel => exact ⟨7, by decide, rfl, G4.out, Lib.hid (by rw [OK.out, NX.out]; rfl)⟩
          case measure => simp [intOf]
        · go_wp2_with fail
          refine L.out.mono ?_
          rintro e w4 ⟨rfl, hg⟩
          have G4 := Lib.hid (GR.out.trans hg)
          clear hg a0 a1 a2 a3 a4 a5 a6 c0 c1 c2 c3 c4 c5 c6 L
          go_wp2
          go_ret
          refine ⟨?_, G.out.trans G4.out⟩
          rw [HR.out, OK.out, NX.out, thn, if_pos hz]
          rfl
    · obtain rfl : k = 7 := by omega
      have E0 : r = 0 := by rw [HR.out, OK.out]; rfl
      subst E0
      go_wp2
      go_ret
      exact ⟨rfl, G.out.trans GR.out⟩
theorem order_any (a b : Fx) (w : World) : Calls Tryd.prog 11 #[fxV a, fxV b] w fun e w' => e = .returned (.int .i64 (ordN a b)) ∧ w.grownBy w' none := (order_grew a b w).mono fun _ _ h => ⟨h.1, h.2.g⟩
end Go.Proofs.YtmffpnhdnaokhaaDoor
