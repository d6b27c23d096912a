/- A number's hexadecimal digits, whole: strconv.FormatUint at base 16, and the program's hex. Condition: the library's table reads as it was laid. -/
import Derived.Test.YtmffpnhdnaokhaaDoorFxH
import Derived.Deep.LoopGhost
namespace Go.Proofs.YtmffpnhdnaokhaaDoor
open Go.RowKit
variable {w w' W V : World}

structure FbL (w wr : World) (g n : Nat) (v1 v13 : Value) : Prop where
  ex : ∃ (f u : Nat) (D : List Int), f ≤ 15 ∧ v1 = .int .u64 (u : Int) ∧ v13 = .int .i64 ((f + 50 : Nat) : Int) ∧ u < 16 ^ (f + 1) ∧ hexL n = hexF f u ++ D ∧ D.length = 15 - f ∧ HxAt wr g (f + 50) D
  grown : w.grownBy wr none
  new : w.heap.size = g
set_option maxRecDepth 20000 in
set_option maxHeartbeats 3200000 in
theorem formatBits_any (n : Nat) (hn : n < 18446744073709551616) (ht : TabOk w) : Calls Tryd.prog 93 #[.slice none 0 0, .int .u64 (n : Int), .int .i64 16, .bool false, .bool false] w fun e w' => e = .returned (.tuple #[.slice none 0 0, .string (strOfNums (hexL n))]) ∧ w.grownBy w' none := by
  obtain ⟨g, hg⟩ : ∃ g, w.heap.size = g := ⟨_, rfl⟩
  obtain ⟨ZZ, hZ⟩ : ∃ Z, Z = Tryd.zeroCells126 := ⟨_, rfl⟩
  obtain ⟨W, hW⟩ : ∃ W, w.alloc (.cells ZZ 126) = W := ⟨_, rfl⟩
  have g0 := grown1 w (.cells ZZ 126)
  have h0 : HxAt W g 65 [] := by
    have := heap_alloc_new w (.cells ZZ 126)
    rw [hW, hg] at this
    unfold HxAt
    rw [this, hZ, List.append_nil, List.map_replicate]
    exact congrArg (fun z => some (Obj.cells z 126 (0, 0))) (show Tryd.zeroCells126 = (List.replicate 65 (Value.int .u8 0)).toArray by kernel_rfl)
  rw [hW] at g0
  have G0 := Lib.hid g0
  have H0 := Lib.hid h0
  have T0 := Lib.hid ht
  have HG := Lib.hid hg
  clear g0 h0 ht
  have HN := Lib.hid hn
  go_enter Tryd.func93, Tryd.ntmps93
  rw [hZ] at hW
  go_upto_region 7 with fail
  clear hW hZ hg
  have T1 := Lib.hid (T0.out.grown G0.out)
  clear hn
  go_wp2_with (first | (go_at_call 120; refine (pow_16 _).mono ?_; rintro e w' ⟨rfl, rfl⟩) | (go_at_call 121; refine (tz_16 T1.out).mono ?_; rintro e w' ⟨rfl, rfl⟩))
  go_loopw [1, 13] (fun v1 v13 wr => FbL w wr g n v1 v13) (fun v1 _ _ => (intOf v1).toNat)
  case atStart => exact ⟨⟨15, n, [], Nat.le_refl _, rfl, rfl, HN.out, by simp [hexL], rfl, H0.out⟩, G0.out, HG.out⟩
  case round =>
    obtain ⟨⟨f, u, D, hf, rfl, rfl, hu, hx, hD, hH⟩, hgr, -⟩ := hrel
    have HU := Lib.hid hu
    have HX := Lib.hid hx
    have HD := Lib.hid hD
    have HH := Lib.hid hH
    have GR := Lib.hid hgr
    have u64 : u < 18446744073709551616 := Nat.lt_of_lt_of_le hu (by
      have : 16 ^ (f + 1) ≤ 16 ^ 16 := Nat.pow_le_pow_right (by decide) (by omega)
      have e : (16 : Nat) ^ 16 = 18446744073709551616 := by decide
      omega)
    clear hu hx hD hH hgr
    by_cases hge : 16 ≤ u
    · obtain ⟨F, rfl⟩ : ∃ F, f = F + 1 := ⟨f - 1, by
        rcases Nat.eq_zero_or_pos f with e | e
        · subst e; have := HU.out; omega
        · omega⟩
      have d1 : decide ((16 : Int) ≤ (u : Int)) = true := decide_eq_true (by omega)
      have e1 : ((F + 1 + 50 : Nat) : Int) - 1 = ((F + 50 : Nat) : Int) := by omega
      have b1 := and15 u u64
      obtain ⟨x, hcx⟩ := HH.out.any (j := F + 50) (by omega)
      have hfz : wr.frozen? ⟨g, F + 50, none⟩ = false := free_of HH.out
      go_wp2
      go_roundw
      case rel =>
        have hd := dg_at (u % 16) (Nat.mod_lt _ (by decide))
        unfold dgS at hd
        rw [hd]
        refine ⟨⟨F, u / 16, dgN (u % 16) :: D, by omega, by congr 1, by congr 1, ?_, ?_, by simp [HD.out]; omega, ?_⟩, ?_, HG.out⟩
        · exact Nat.div_lt_of_lt_mul (by have := HU.out; rw [Nat.pow_succ] at this; omega)
        · rw [HX.out, hexF, if_neg (by omega), List.append_assoc]; rfl
        · have := HH.out
          rw [show F + 1 + 50 = F + 50 + 1 by omega] at this
          exact this.put _
        · exact grown_new GR.out (grown_setCell (grown_refl wr (some g)) _) (by rw [HG.out]; exact Nat.le_refl _)
      case measure => simp [intOf]; omega
    · have d1 : decide ((16 : Int) ≤ (u : Int)) = false := decide_eq_false (by omega)
      have u16 : u < 16 := by omega
      have e1 : ((f + 50 : Nat) : Int) - 1 = ((f + 49 : Nat) : Int) := by omega
      obtain ⟨x, hcx⟩ := HH.out.any (j := f + 49) (by omega)
      have hfz : wr.frozen? ⟨g, f + 49, none⟩ = false := free_of HH.out
      have hd := Lib.hid (dg_at u u16)
      unfold dgS at hd
      have sl : ∀ V, (Instr.sliceAt 126 (.pointer (some ⟨g, 0, none⟩)) (some (.int .i64 ((f : Int) + 50 - 1))) none none).run Tryd.prog V = .ok (.slice (some ⟨g, f + 49, none⟩) (16 - f) (16 - f)) V := fun V => by
        have hs : (sizeOf 5).run Tryd.prog V = .ok 1 V := by first | kernel_rfl | rfl
        have hk : Tryd.prog.arrayLen 126 = 65 := by kernel_rfl
        have he : Tryd.prog.elem 126 = 5 := by kernel_rfl
        rw [run_sliceAt_array_l (P := Tryd.prog) V 126 ⟨g, 0, none⟩ (by rw [hk, he]; exact Tryd.underlying126) .i64 _ (by omega) (by rw [hk]; omega), he, hs, hk]
        show Result.ok (slicedAt ⟨g, 0, none⟩ ((f : Int) + 50 - 1).toNat 65 65 1) V = _
        rw [show ((f : Int) + 50 - 1).toNat = f + 49 by omega]
        unfold slicedAt
        rw [if_neg (by omega), add_flat, show 65 - (f + 49) = 16 - f by omega, Nat.mul_one, Nat.zero_add]
      go_upto_region 30 with fail
      rw [hd.out]
      have H2 := HxAt.put (i := f + 49) (by have := HH.out; rw [show f + 50 = f + 49 + 1 by omega] at this; exact this) (dgN u)
      have g2 := grown_new GR.out (grown_setCell (i := f + 49) (grown_refl wr (some g)) (.int .u8 (dgN u))) (by rw [HG.out]; exact Nat.le_refl _)
      obtain ⟨W2, hW2⟩ : ∃ V, V = wr.setCell ⟨g, f + 49, none⟩ (.int .u8 (dgN u)) := ⟨_, rfl⟩
      rw [← hW2] at H2 g2 ⊢
      clear hW2
      have R2 := Lib.hid g2
      have e4 : strOfNums (hexL n) = strOfNums (dgN u :: D) := by
        rw [HX.out]
        congr 1
        cases f with
        | zero => rfl
        | succ f => rw [hexF, if_pos u16]; rfl
      have E4 := Lib.hid e4
      have cv := run_convert_bytes_arg (P := Tryd.prog) W2 69 5 Tryd.underlying69 Tryd.underlying5 g (f + 49) (16 - f) (16 - f) (dgN u :: D) (by simp [HD.out]; omega) (fun i hi => H2.c (by simp [HD.out]; omega)) 9 Tryd.underlying9
      clear H2 g2 e4
      go_wp2
      refine bodyPost_ret (results_tmp2 rfl _ _ _) rfl ?_
      exact ⟨by rw [E4.out]; rfl, R2.out⟩
theorem formatUint_any (n : Nat) (hn : n < 18446744073709551616) (ht : TabOk w) : Calls Tryd.prog 89 #[.int .u64 (n : Int), .int .i64 16] w fun e w' => e = .returned (.string (strOfNums (hexL n))) ∧ w.grownBy w' none := by
  go_enter Tryd.func89, Tryd.ntmps89
  go_wp2_with (go_at_call 93; refine (formatBits_any n hn ht).mono ?_; rintro e w' ⟨rfl, hg⟩)
  go_ret
  exact ⟨rfl, hg⟩
theorem formatUint2 (n : Nat) (hn : n < 18446744073709551616) (ht : TabOk w) : Calls Tryd.prog 67 #[.int .u64 (n : Int), .int .i64 16] w fun e w' => e = .returned (.string (strOfNums (hexL n))) ∧ w.grownBy w' none := by
  go_enter Tryd.func67, Tryd.ntmps67
  go_wp2_with (go_at_call 89; refine (formatUint_any n hn ht).mono ?_; rintro e w' ⟨rfl, hg⟩)
  go_ret
  exact ⟨rfl, hg⟩
theorem hex_any (n : Nat) (hn : n < 18446744073709551616) (ht : TabOk w) : Calls Tryd.prog 34 #[.int .u64 (n : Int)] w fun e w' => e = .returned (.string (⟨#[48, 120]⟩ ++ strOfNums (hexL n))) ∧ w.grownBy w' none := by
  have hl : (strOfNums (hexL n)).size ≤ 16 := by
    have := (hexF_len 15 n).1
    have e : (strOfNums (hexL n)).size = (hexL n).length := by simp [strOfNums, ByteArray.size]
    rw [e]; exact this
  obtain ⟨S, hS⟩ : ∃ S, S = strOfNums (hexL n) := ⟨_, rfl⟩
  have F := Lib.hid (formatUint2 n hn ht)
  rw [← hS] at hl F ⊢
  clear hS
  have hz : ¬ (9223372036854775807 : Int) < ((2 : Nat) : Int) + (S.size : Int) := by omega
  go_enter Tryd.func34, Tryd.ntmps34
  go_wp2_with (go_at_call 67; refine F.out.mono ?_; rintro e w' ⟨rfl, hg⟩)
  go_ret
  exact ⟨rfl, hg⟩
end Go.Proofs.YtmffpnhdnaokhaaDoor
