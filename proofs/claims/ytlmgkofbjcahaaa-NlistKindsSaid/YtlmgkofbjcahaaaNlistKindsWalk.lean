/- The walk of NlistKinds: an entry of each type, whatever else stands there. -/
import Derived.Test.YtlmgkofbjcahaaaNlK
import Derived.Lib.SlBytesConst
import Derived.BigRegion
namespace Go.Proofs.Ytlmgkofbjcahaaa.nlistKinds
open Go.RowKit
variable {w w' : World}

def Arr (w : World) (g : Nat) (l : List Int) : Prop := w.heap[g]? = some (.cells (l.map (Value.int .u8)).toArray 42 (0, 0))
theorem Arr.kept {g : Nat} {l : List Int} {r : Option Nat} (h : Arr w g l) (hg : w.grownBy w' r) (hr : r ≠ some g) : Arr w' g l := (hg.block g (lt_of_block h) (fun e => hr e.symm)).trans h
theorem Arr.c {g : Nat} {l : List Int} (h : Arr w g l) {i : Nat} (hi : i < l.length) : w.cell? ⟨g, i, none⟩ = some (.int .u8 (l.getD i 0)) := by
  rw [cell_of h]
  simp [hi]
theorem Arr.bytes {g : Nat} {l : List Int} (h : Arr w g l) (c : Nat) : IsBytes w (some ⟨g, 0, none⟩) c l := by
  refine IsBytes.mk_at fun i hi => ?_
  rw [Nat.zero_add]
  exact h.c hi
theorem Arr.set {g : Nat} {l : List Int} (h : Arr w g l) (i : Nat) (x : Int) : Arr (w.setCell ⟨g, i, none⟩ (.int .u8 x)) g (l.set i x) := by
  unfold Arr at h ⊢
  rw [heap_setCell_same w g i _ _ _ h]
  simp [List.map_set]
theorem knL_at {z : List Int} {K : Int} (hz : z.length = 16) : (knL z K).getD 5 0 = z.getD 5 0 ∧ (knL z K).getD 6 0 = z.getD 6 0 := by
  match z, hz with
  | [z0, z1, z2, z3, z4, z5, z6, z7, z8, z9, za, zb, zc, zd, ze, zf], _ => exact ⟨rfl, rfl⟩
theorem knL_set (z : List Int) (K J : Int) : (knL z K).set 4 J = knL z J := by simp [knL]
theorem marked (w : World) (l : List Int) (T : TypeId) (m : Nat × Nat) (c : Nat) : IsBytes (w.alloc (.cells (l.map (Value.int .u8)).toArray T m)) (some ⟨w.heap.size, 0, none⟩) c l := by
  refine IsBytes.mk_at fun i hi => ?_
  have h : (w.alloc (.cells (l.map (Value.int .u8)).toArray T m)).heap[w.heap.size]? = some (.cells (l.map (Value.int .u8)).toArray T m) := by
    show (w.heap.push _)[w.heap.size]? = _
    simp
  simp only [World.cell?, Nat.zero_add]
  rw [h]
  simp [hi]
/-- Where the loop over types stands. -/
structure KdL (w0 wr : World) (X : Nat) (b2 : Nat) (z : List Int) (vi : Value) : Prop where
  ex : ∃ (i : Nat) (l : List Int), i ≤ 256 ∧ vi = .int .i64 (i : Int) ∧ Arr wr X l ∧ ∀ J, l.set 4 J = knL z J
  str : IsBytes wr (some ⟨b2, 0, none⟩) 5 strK
  lt : b2 < wr.heap.size
  below : Below w0.heap.size w0 wr
theorem KdL.drewN {w0 wr : World} {X b2 : Nat} {z : List Int} {vi : Value} (h : KdL w0 wr X b2 z vi) (k : Nat) : KdL w0 (wr.drewN k) X b2 z vi := by
  obtain ⟨⟨i, l, h1, h2, h3, h4⟩, h5, h6, h7⟩ := h
  exact ⟨⟨i, l, h1, h2, h3, h4⟩, h5, h6, below_drewN h7 k⟩
set_option maxRecDepth 20000 in
set_option maxHeartbeats 3200000 in
theorem walk (z : List Int) (w : World) (hz : z.length = 16) (hb : ∀ x ∈ z, 0 ≤ x ∧ x < 256) :
    Calls Try.prog 5 #[.agg (z.map (Value.int .u8)).toArray] w fun e w' => e = .returned (.bool true) ∧ Below w.heap.size w w' := by
  have K := Lib.hid (fun w : World => known10_any w)
  have a0 : Arr (w.alloc (.cells (z.map (Value.int .u8)).toArray 42)) w.heap.size z := heap_alloc_new w _
  have g0 := grown1 w (.cells (z.map (Value.int .u8)).toArray 42)
  obtain ⟨w1, hw1⟩ : ∃ W, W = w.alloc (.cells (z.map (Value.int .u8)).toArray 42) := ⟨_, rfl⟩
  obtain ⟨X, hX⟩ : ∃ X, X = w.heap.size := ⟨_, rfl⟩
  rw [← hw1] at a0 g0
  rw [← hX] at a0
  have a4 := (((a0.set 0 2).set 1 0).set 2 0).set 3 0
  have g4 := grown_put4 (grown_refl w1 (some X)) (.int .u8 2) (.int .u8 0) (.int .u8 0) (.int .u8 0)
  obtain ⟨w2, hw2⟩ : ∃ W, W = (((w1.setCell ⟨X, 0, none⟩ (.int .u8 2)).setCell ⟨X, 1, none⟩ (.int .u8 0)).setCell ⟨X, 2, none⟩ (.int .u8 0)).setCell ⟨X, 3, none⟩ (.int .u8 0) := ⟨_, rfl⟩
  rw [← hw2] at a4 g4
  have c0 := a0.c (i := 0) (by omega)
  have c1 := a0.c (i := 1) (by omega)
  have c2 := a0.c (i := 2) (by omega)
  have c3 := a0.c (i := 3) (by omega)
  have f := fun i => free_of (i := i) a0
  have hXl := lt_of_block a0
  have G2 := Lib.hid (grown_new g0 g4 (by omega) : w.grownBy w2 none)
  have A2 := Lib.hid a4
  have HW1 := Lib.hid hw1
  have HW2 := Lib.hid hw2
  have HX := Lib.hid hX
  have HWX := Lib.hid (show w.heap.size ≤ X by rw [hX]; exact Nat.le_refl _)
  clear a0 g0 a4 g4 hw1 hw2 hX
  generalize (z.map (Value.int .u8)).toArray = zv at *
  go_enter Try.func5, Try.ntmps5
  go_upto_region 1 with fail
  rw [← HW1.out, ← HX.out]
  clear HW1 HX
  go_upto_region 2 with fail
  rw [← HW2.out]
  clear HW2 c0 c1 c2 c3 f hXl
  have cs := Lib.run_convert_bytes_const (P := Try.prog) w2 22 5 #[.int .u8 120, .int .u8 0, .int .u8 97, .int .u8 98, .int .u8 0] 5 5 Try.underlying22 Try.underlying5
  have g3 := grown1 w2 (.cells (strK.map (Value.int .u8)).toArray 5 (5, 6))
  have s3 := marked w2 strK 5 (5, 6) 5
  obtain ⟨w3, hw3⟩ : ∃ W, W = w2.alloc (.cells (strK.map (Value.int .u8)).toArray 5 (5, 6)) := ⟨_, rfl⟩
  obtain ⟨b2, hb2⟩ : ∃ b, b = w2.heap.size := ⟨_, rfl⟩
  rw [← hw3] at g3 s3
  rw [← hb2] at s3
  have HW3 := Lib.hid (show w2.alloc (.cells #[.int .u8 120, .int .u8 0, .int .u8 97, .int .u8 98, .int .u8 0] 5 (5, 6)) = w3 from hw3.symm)
  have HB := Lib.hid hb2.symm
  have HX2 := Lib.hid (show X ≠ b2 by have := lt_of_block A2.out; omega)
  have HL := Lib.hid (show b2 < w3.heap.size by rw [hb2, hw3]; simp)
  have B3 := Lib.hid (below_grown (grown_trans G2.out g3) (Nat.le_refl _) (by simp) : Below w.heap.size w w3)
  have ST := Lib.hid (show KdL w w3 X b2 z (.int .i64 0) from ⟨⟨0, _, by decide, rfl, A2.out.kept g3 (by simp), fun J => rfl⟩, s3, HL.out, B3.out⟩)
  clear g3 s3 hw3 hb2
  go_upto_region 3 with fail
  rw [HW3.out, HB.out]
  clear cs HW3 HB G2 A2
  have AL := Lib.hid (fun (V : World) (k : Nat) (hk : k < 256) (h1 : Arr V X (knL z k)) (h2 : IsBytes V (some ⟨b2, 0, none⟩) 5 strK) =>
    (show Calls Try.prog 9 #[.slice (some ⟨X, 0, none⟩) 16 16, .slice (some ⟨b2, 0, none⟩) 5 5, .int .i64 255] V fun r w' => AlO V w' (knR z k) r from by
      have := allP_any (n := 255) (L := 16) (h1.bytes 16) (by rw [knL_len]; exact hz) (by decide) (Nat.le_refl _) (by decide) (knL_byt hb (by omega)) h2 rfl (by decide) (by intro x hx; simp [strK] at hx; omega)
      rw [kn_all hz hb] at this
      exact this))
  go_wp2
  go_loopw [4] (fun vi wr => KdL w wr X b2 z vi) (fun vi _ => 256 - (intOf vi).toNat)
  case atStart => exact ST.out
  case round =>
    obtain ⟨⟨i, l, hi, rfl, ha, hl⟩, hs, hlt2, hbw⟩ := hrel
    have BW := Lib.hid hbw
    by_cases hlt : i < 256
    · have dl : decide ((i : Int) < 256) = true := by simp; omega
      have hiI : (i : Int) < 256 := by omega
      have ll : l.length = 16 := by have := congrArg List.length (hl 0); rw [List.length_set, knL_len, hz] at this; exact this
      have x4 := ha.c (i := 4) (by omega)
      have f4 := free_of (i := 4) ha
      have gs := grown_setCell (i := 4) (grown_refl wr (some X)) (.int .u8 (i : Int))
      have a4 := ha.set 4 (i : Int)
      rw [hl] at a4
      have s4 := hs.kept gs (fun b e => by injection e with e; subst e; intro e; injection e with e; exact HX2.out e)
      have b4 : Below w.heap.size w (wr.setCell ⟨X, 4, none⟩ (.int .u8 (i : Int))) := hbw.trans (below_grown gs hbw.size (by simp; exact HWX.out))
      have AA := AL.out _ i hlt a4 s4
      have AK := Lib.hid a4
      have NX := Lib.hid (fun (w7 : World) (hb7 : Below (wr.setCell ⟨X, 4, none⟩ (.int .u8 (i : Int))).heap.size (wr.setCell ⟨X, 4, none⟩ (.int .u8 (i : Int))) w7) => (show KdL w w7 X b2 z (.int .i64 ((i : Int) + 1)) from
        ⟨⟨i + 1, knL z i, hlt, by simp, a4.kept (grown_below hb7 none) (by simp), knL_set z i⟩, s4.below hb7, Nat.lt_of_lt_of_le (Nat.lt_of_lt_of_le hlt2 gs.size) hb7.size, b4.trans (below_grown (grown_below hb7 none) b4.size (by simp))⟩))
      have k1 := kb1 i hlt
      have k2 := kb2 i hlt
      have k3 := kb3 i hlt
      have k4 := kb4 i hlt
      have h0 : z.getD 5 0 = z.getD 5 0 := rfl
      clear ha hl hs hlt2 hbw gs a4 s4 b4 h0 ll
      obtain ⟨y1, hy1⟩ : ∃ y, bits .and .i64 (i : Int) 1 = y := ⟨_, rfl⟩
      rw [hy1] at k1
      obtain ⟨y2, hy2⟩ : ∃ y, bits .and .i64 (i : Int) 240 = y := ⟨_, rfl⟩
      rw [hy2] at k2
      obtain ⟨y3, hy3⟩ : ∃ y, bits .and .i64 (i : Int) 14 = y := ⟨_, rfl⟩
      rw [hy3] at k3 k4
      by_cases h1 : i % 2 = 1
      · rw [decide_eq_true h1] at k1
        by_cases h2 : i / 16 = 0
        · rw [decide_eq_true h2] at k2
          by_cases h3 : i / 2 % 8 = 7
          · rw [decide_eq_true h3] at k3
            rw [decide_eq_false (show ¬ i / 2 % 8 = 1 by omega)] at k4
            have hi15 : i = 15 := by omega
            subst hi15
            unfold knR at AA
            rw [if_pos (.inl rfl), if_pos (show ((15 : Nat) : Int) = 15 from rfl)] at AA
            clear h1 h2 h3
            by_cases hz5 : z.getD 5 0 = 0
            · rw [if_pos ⟨rfl, hz5⟩] at AA
              have AH := Lib.hid AA
              clear AA
              go_wp2_with fail
              refine AH.out.mono ?_
              rintro r w7 ⟨⟨q7, c7, rfl, hsa, _, _⟩, hb7⟩
              have N7 := Lib.hid (NX.out w7 hb7)
              have a7 := AK.out.kept (grown_below hb7 none) (by simp)
              have e5 := a7.c (i := 5) (by rw [knL_len, hz]; decide)
              have e6 := a7.c (i := 6) (by rw [knL_len, hz]; decide)
              rw [(knL_at hz).1, hz5] at e5
              rw [(knL_at hz).2] at e6
              clear hb7 x4 f4 a7 hz5 hsa
              go_wp2
              go_roundw
              case rel => first | exact N7.out | exact N7.out.drewN _
              case measure => (simp [intOf]) <;> omega
            · have d5 : (z.getD 5 0 == 0) = false := by rw [beq_eq_false_iff_ne]; exact hz5
              rw [if_neg (fun h => hz5 h.2)] at AA
              have AH := Lib.hid AA
              clear AA
              go_wp2_with fail
              refine AH.out.mono ?_
              rintro r w7 ⟨⟨q7, c7, rfl, hsa, _, _⟩, hb7⟩
              have N7 := Lib.hid (NX.out w7 hb7)
              have a7 := AK.out.kept (grown_below hb7 none) (by simp)
              have e5 := a7.c (i := 5) (by rw [knL_len, hz]; decide)
              have e6 := a7.c (i := 6) (by rw [knL_len, hz]; decide)
              rw [(knL_at hz).1] at e5
              rw [(knL_at hz).2] at e6
              clear hb7 x4 f4 a7
              generalize z.getD 5 0 = z5 at *
              obtain ⟨gs, os, rfl, a0, a1, a2, a3⟩ := hsa.at (i := 0) rfl
              rw [Nat.zero_mul, Nat.add_zero] at a0 a1 a2 a3
              have a0 : w7.cell? ⟨gs, os, none⟩ = some (.string ⟨#[97, 98]⟩) := a0
              simp only [] at a1 a3
              have hL1 : List.length [(([97, 98], ⟨z5, leN ((z.drop 8).take 8), decide (128 ≤ z.getD 6 0)⟩) : Sym)] = 1 := rfl
              rw [hL1]
              generalize z.getD 6 0 = z6 at *
              clear hsa hL1 a2
              go_wp2
              go_quiet (fail)
              go_wp2
              go_roundw
              case rel => first | exact N7.out | exact N7.out.drewN _
              case measure => (simp [intOf]) <;> omega
          · rw [decide_eq_false h3] at k3
            by_cases h4 : i / 2 % 8 = 1
            · rw [decide_eq_true h4] at k4
              have hi3 : i = 3 := by omega
              subst hi3
              unfold knR at AA
              rw [if_pos (.inr rfl), if_neg (fun h => absurd h.1 (by decide)), if_neg (by decide)] at AA
              clear h1 h2 h3 h4
              have AH := Lib.hid AA
              clear AA
              go_wp2_with fail
              refine AH.out.mono ?_
              rintro r w7 ⟨⟨q7, c7, rfl, hsa, _, _⟩, hb7⟩
              have N7 := Lib.hid (NX.out w7 hb7)
              have a7 := AK.out.kept (grown_below hb7 none) (by simp)
              have e5 := a7.c (i := 5) (by rw [knL_len, hz]; decide)
              have e6 := a7.c (i := 6) (by rw [knL_len, hz]; decide)
              rw [(knL_at hz).1] at e5
              rw [(knL_at hz).2] at e6
              clear hb7 x4 f4 a7
              obtain ⟨gs, os, rfl, a0, a1, a2, a3⟩ := hsa.at (i := 0) rfl
              rw [Nat.zero_mul, Nat.add_zero] at a0 a1 a2 a3
              have a0 : w7.cell? ⟨gs, os, none⟩ = some (.string ⟨#[97, 98]⟩) := a0
              simp only [] at a1 a3
              have hL1 : List.length [(([97, 98], ⟨0, leN ((z.drop 8).take 8), decide (128 ≤ z.getD 6 0)⟩) : Sym)] = 1 := rfl
              rw [hL1]
              generalize z.getD 6 0 = z6 at *
              clear hsa hL1 a2
              go_wp2
              go_quiet (fail)
              go_wp2
              go_roundw
              case rel => first | exact N7.out | exact N7.out.drewN _
              case measure => (simp [intOf]) <;> omega
            · rw [decide_eq_false h4] at k4
              have k3n : decide (y3 = 14) = false := by simpa using k3
              have k4n : decide (y3 = 2) = false := by simpa using k4
              have hR : knR z i = (0, []) := by
                unfold knR
                rw [if_neg (by omega)]
              rw [hR] at AA
              have AH := Lib.hid AA
              clear AA hR
              go_wp2_with fail
              refine AH.out.mono ?_
              rintro r w7 ⟨⟨q7, c7, rfl, _, _, _⟩, hb7⟩
              have N7 := Lib.hid (NX.out w7 hb7)
              clear hb7 x4 f4
              go_wp2
              go_roundw
              case rel => first | exact N7.out | exact N7.out.drewN _
              case measure => (simp [intOf]) <;> omega
        · rw [decide_eq_false h2] at k2
          have k2n : decide (y2 = 0) = false := by simpa using k2
          have hR : knR z i = (0, []) := by
            unfold knR
            rw [if_neg (by omega)]
          rw [hR] at AA
          have AH := Lib.hid AA
          clear AA hR
          go_wp2_with fail
          refine AH.out.mono ?_
          rintro r w7 ⟨⟨q7, c7, rfl, _, _, _⟩, hb7⟩
          have N7 := Lib.hid (NX.out w7 hb7)
          clear hb7 x4 f4
          go_wp2
          go_roundw
          case rel => first | exact N7.out | exact N7.out.drewN _
          case measure => (simp [intOf]) <;> omega
      · rw [decide_eq_false h1] at k1
        have k1n : decide (y1 = 1) = false := by simpa using k1
        have hR : knR z i = (0, []) := by
          unfold knR
          rw [if_neg (by omega)]
        rw [hR] at AA
        have AH := Lib.hid AA
        clear AA hR
        go_wp2_with fail
        refine AH.out.mono ?_
        rintro r w7 ⟨⟨q7, c7, rfl, _, _, _⟩, hb7⟩
        have N7 := Lib.hid (NX.out w7 hb7)
        clear hb7 x4 f4
        go_wp2
        go_roundw
        case rel => first | exact N7.out | exact N7.out.drewN _
        case measure => (simp [intOf]) <;> omega
    · have dl : decide ((i : Int) < 256) = false := by simp; omega
      clear ha hl hs hlt2 hbw
      go_wp2_with fail
      refine (K.out _).mono ?_
      rintro e w2 ⟨rfl, hg⟩
      have B2 := Lib.hid (BW.out.trans (below_grown hg BW.out.size (by simp)))
      clear hg
      go_wp2
      go_ret
      exact ⟨rfl, B2.out⟩
end Go.Proofs.Ytlmgkofbjcahaaa.nlistKinds
