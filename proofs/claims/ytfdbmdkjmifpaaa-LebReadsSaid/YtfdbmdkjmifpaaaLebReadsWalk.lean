/- The walk of LebReads: what stands at any place of any bytes, as a number and as a signed one, and where the cursor stands then. -/
import Derived.Test.YtfdbmdkjmifpaaaKnown2
import Derived.Test.YtfdbmdkjmifpaaaRef2
import Derived.Test.YtfdbmdkjmifpaaaArgs
namespace Go.Proofs.Ytfdbmdkjmifpaaa.lebReads
open Go.RowKit

theorem IsBytes.past {w : World} {x : Addr} {c c' n : Nat} {ys : List Int} (h : IsBytes w (some x) c ys) : IsBytes w (some (x.add n)) c' (ys.drop n) := by
  refine ⟨fun e => (by cases e), fun hl => ?_⟩
  simp only [List.length_drop] at hl
  obtain ⟨b, o, e, hc⟩ := h.2 (by omega)
  injection e with e
  subst e
  refine ⟨b, o + n, by rw [add_flat], fun i hi => ?_⟩
  simp only [List.length_drop] at hi
  rw [show o + n + i = o + (n + i) by omega, hc (n + i) (by omega)]
  simp [List.getD, List.getElem?_drop]
theorem IsBytes.none_of {w : World} {x : Option Addr} {c : Nat} {ys : List Int} (h : ys = []) (hx : x = none → c = 0) : IsBytes w x c ys := by
  subst h; exact ⟨hx, fun h => (by simp at h)⟩

/-- Err is 0 just where a number was taken. -/
theorem pen_errk {w : World} {lo hi a p k : Nat} {xs : List Int} {big : Bool} (h : Pen w lo hi a xs p big (decide (k = 0))) :
    Calls Try.prog 16 #[.pointer (some ⟨a, 0, none⟩)] w fun e w' => (∃ E : Int, e = .returned (.int .i64 E) ∧ (E == 0) = decide (0 < k)) ∧ w = w' := by
  refine (pen_err h).mono ?_
  rintro e w' ⟨rfl, rfl⟩
  refine ⟨⟨_, rfl, ?_⟩, rfl⟩
  rcases Nat.eq_zero_or_pos k with rfl | h
  · rfl
  · rw [decide_eq_false (show ¬ k = 0 by omega), decide_eq_true h]; rfl

set_option maxHeartbeats 800000 in
theorem walk (a0 : Option Addr) (len0 cap0 : Nat) (z0 : List Int) (a1 : Int) (big : Bool) (w : World) (w0 : IsRow .u8 w a0 len0 cap0 z0) (w1 : (Lit.int .i64 a1).wf = true) :
    Calls Try.prog 3 #[.slice a0 len0 cap0, .int .i64 a1, .bool big] w fun e w' => e = .returned (.bool true) ∧ Below w.heap.size w w' := by
  have hr1 := i64_range w1
  have hcap : len0 ≤ cap0 ∧ cap0 ≤ 9223372036854775807 := by
    rcases w0 with ⟨_, rfl, rfl, _⟩ | ⟨_, _, h1, h2, _⟩
    · omega
    · unfold maxLen at h2; omega
  obtain ⟨ys, rfl, hys, hb, _⟩ := w0.bytes
  clear w0 w1
  have K := Lib.hid known_any
  have H1 := Lib.hid hys
  have H2 := Lib.hid hb
  clear hys hb
  by_cases h1 : 3000 < ys.length
  · go_enter Try.func3, Try.ntmps3
    go_wp2_with fail
    refine (K.out w).mono ?_
    rintro e w' ⟨rfl, hbel⟩
    go_wp2
    go_ret
    exact ⟨rfl, hbel⟩
  have h1d : decide (3000 < ys.length) = false := by simpa using h1
  by_cases h2 : a1 < 0
  · go_enter Try.func3, Try.ntmps3
    go_wp2_with fail
    refine (K.out w).mono ?_
    rintro e w' ⟨rfl, hbel⟩
    go_wp2
    go_ret
    exact ⟨rfl, hbel⟩
  obtain ⟨n, rfl⟩ := Int.eq_ofNat_of_zero_le (show 0 ≤ a1 by omega)
  by_cases h3 : ys.length < n
  · go_enter Try.func3, Try.ntmps3
    go_wp2_with fail
    refine (K.out w).mono ?_
    rintro e w' ⟨rfl, hbel⟩
    go_wp2
    go_ret
    exact ⟨rfl, hbel⟩
  go_enter Try.func3, Try.ntmps3
  go_wp2_with fail
  refine (pen_new H2.out rfl (by omega) H1.out big).mono ?_
  rintro e w1 ⟨ac, rfl, pc, bc⟩
  go_wp2_with fail
  refine (pen_new (H2.out.below bc) rfl (by omega) H1.out big).mono ?_
  rintro e w2 ⟨ad, rfl, pd, bd⟩
  have B2 := Lib.hid (bc.trans (bd.mono bc.size))
  have sc := bc.size
  have sd := bd.size
  have pc2 := pc.below bd
  clear bd pc
  go_wp2_with fail
  refine (pen_seek pc2 n (by omega)).mono ?_
  rintro e w3 ⟨rfl, pc3, g3⟩
  have B3 := Lib.hid (B2.out.trans (pc2.frame (Nat.le_refl _) g3))
  have pd3 := pd.kept g3 (.inl pc2.up)
  clear pd pc2 g3
  go_wp2_with fail
  refine (pen_seek pd3 n (by omega)).mono ?_
  rintro e w4 ⟨rfl, pd4, g4⟩
  have B4 := Lib.hid (B3.out.trans (pd3.frame sc g4))
  have pc4 := pc3.kept g4 (.inr pd3.lw)
  clear pc3 pd3 g4
  have hb4 := H2.out.below B4.out
  obtain ⟨m, hm⟩ : ∃ m, ys.length = n + m := ⟨ys.length - n, by omega⟩
  have hlm : (ys.drop n).length = m := by simp; omega
  have hrd : ∀ y ∈ ys.drop n, 0 ≤ y ∧ y < 256 := fun y hy => H1.out y (List.mem_of_mem_drop hy)
  have hml : m ≤ 140737488355328 := by omega
  have hcut : ∀ x c', (x = none → c' = 0 ∧ ys.drop n = []) → (∀ y, x = some y → ys.drop n = [] ∨ ∃ z, a0 = some z ∧ y = z.add n) → IsBytes w4 x c' (ys.drop n) := by
    intro x c' h1 h2
    cases x with
    | none => exact IsBytes.none_of (h1 rfl).2 (fun _ => (h1 rfl).1)
    | some y =>
      rcases h2 y rfl with h | ⟨z, rfl, rfl⟩
      · exact IsBytes.none_of h (by simp)
      · exact IsBytes.past hb4
  obtain ⟨uv, un, hu⟩ : ∃ uv un, ulebN (ys.drop n) = (uv, un) := ⟨_, _, rfl⟩
  obtain ⟨sv, sn, hs⟩ : ∃ sv sn, slebN (ys.drop n) = (sv, sn) := ⟨_, _, rfl⟩
  have hnil : a0 = none → ys.drop n = [] ∧ m = 0 ∧ cap0 = 0 ∧ n = 0 := by
    rintro rfl
    rcases hb4.ways with ⟨_, h1, h2⟩ | ⟨x, h1, _⟩
    · subst h1; simp at hm; exact ⟨by simp, by omega, h2, by omega⟩
    · simp at h1
  have U := Lib.hid hu
  have S := Lib.hid hs
  have HC := Lib.hid hcut
  have HL := Lib.hid hlm
  have HR := Lib.hid hrd
  have HN := Lib.hid hnil
  clear hu hs hcut hlm hrd hnil hb4
  cases a0 with
  | none =>
    obtain ⟨e0, rfl, rfl, rfl⟩ := HN.out rfl
    have HB := Lib.hid (HC.out none 0 (fun _ => ⟨rfl, e0⟩) (by simp))
    clear H2 HC HN e0
    go_wp2_with fail
    refine (show Calls Try.prog 12 #[.slice none 0 0] w4 (fun e w' => e = .returned (.tuple #[.int .u64 uv, .int .i64 un]) ∧ w4 = w') from by
      have h0 := refuleb_any (HB.out) HR.out (by rw [HL.out]; exact hml)
      rw [HL.out, U.out] at h0
      exact h0).mono ?_
    rintro e w' ⟨rfl, rfl⟩
    go_wp2_with fail
    refine (show Calls Try.prog 13 #[.slice none 0 0] w4 (fun e w' => e = .returned (.tuple #[.int .i64 sv, .int .i64 sn]) ∧ w4 = w') from by
      have h0 := refsleb_any (HB.out) HR.out (by rw [HL.out]; exact hml)
      rw [HL.out, S.out] at h0
      exact h0).mono ?_
    rintro e w' ⟨rfl, rfl⟩
    go_wp2_with fail
    refine (pen_uleb pc4 U.out).mono ?_
    rintro e w5 ⟨rfl, pc5, g5⟩
    have B5 := Lib.hid (B4.out.trans (pc4.frame (Nat.le_refl _) g5))
    have pd5 := pd4.kept g5 (.inl pc4.up)
    have i1 := pc5.le
    clear pc4 pd4 g5
    go_wp2_with fail
    refine (pen_at pc5).mono ?_
    rintro e w' ⟨rfl, rfl⟩
    go_wp2_with fail
    refine (pen_errk pc5).mono ?_
    rintro e w' ⟨⟨E, rfl, hE⟩, rfl⟩
    go_wp2_with fail
    refine (pen_sleb pd5 S.out).mono ?_
    rintro e w6 ⟨rfl, pd6, g6⟩
    have B6 := Lib.hid (B5.out.trans (pd5.frame sc g6))
    have pc6 := pc5.kept g6 (.inr pd5.lw)
    have i2 := pd6.le
    clear pc5 pd5 g6
    go_wp2_with fail
    refine (pen_at pd6).mono ?_
    rintro e w' ⟨rfl, rfl⟩
    go_wp2_with fail
    refine (pen_errk pd6).mono ?_
    rintro e w' ⟨⟨F, rfl, hF⟩, rfl⟩
    go_wp2_with fail
    refine (pen_fail pc6).mono ?_
    rintro e w7 ⟨rfl, pc7, g7⟩
    have B7 := Lib.hid (B6.out.trans (pc6.frame (Nat.le_refl _) g7))
    clear pc6 pd6 g7
    go_wp2_with fail
    refine (pen_at pc7).mono ?_
    rintro e w' ⟨rfl, rfl⟩
    go_wp2_with fail
    refine (pen_uleb_bad pc7 rfl).mono ?_
    rintro e w8 ⟨rfl, pc8, g8⟩
    have B8 := Lib.hid (B7.out.trans (pc7.frame0 (Nat.le_refl _) g8))
    clear pc7 g8
    go_wp2_with fail
    refine (pen_sleb_bad pc8 rfl).mono ?_
    rintro e w9 ⟨rfl, pc9, g9⟩
    have B9 := Lib.hid (B8.out.trans (pc8.frame0 (Nat.le_refl _) g9))
    clear pc8 g9
    go_wp2_with fail
    refine (pen_at pc9).mono ?_
    rintro e w' ⟨rfl, rfl⟩
    go_wp2_with fail
    refine (pen_err3 pc9 rfl).mono ?_
    rintro e w' ⟨rfl, rfl⟩
    go_wp2_with fail
    refine (K.out w9).mono ?_
    rintro e w10 ⟨rfl, bk⟩
    go_wp2
    go_ret
    exact ⟨rfl, B9.out.trans (bk.mono B9.out.size)⟩
  | some x =>
   by_cases hcn : cap0 = n
   · have HB := Lib.hid (HC.out (some x) 0 (by simp) (fun y hy => by injection hy with hy; subst hy; exact .inl (List.drop_eq_nil_of_le (by omega))))
     clear H2 HC HN
     go_wp2_with fail
     refine (show Calls Try.prog 12 #[.slice (some x) m 0] w4 (fun e w' => e = .returned (.tuple #[.int .u64 uv, .int .i64 un]) ∧ w4 = w') from by
       have h0 := refuleb_any (HB.out) HR.out (by rw [HL.out]; exact hml)
       rw [HL.out, U.out] at h0
       exact h0).mono ?_
     rintro e w' ⟨rfl, rfl⟩
     go_wp2_with fail
     refine (show Calls Try.prog 13 #[.slice (some x) m 0] w4 (fun e w' => e = .returned (.tuple #[.int .i64 sv, .int .i64 sn]) ∧ w4 = w') from by
       have h0 := refsleb_any (HB.out) HR.out (by rw [HL.out]; exact hml)
       rw [HL.out, S.out] at h0
       exact h0).mono ?_
     rintro e w' ⟨rfl, rfl⟩
     go_wp2_with fail
     refine (pen_uleb pc4 U.out).mono ?_
     rintro e w5 ⟨rfl, pc5, g5⟩
     have B5 := Lib.hid (B4.out.trans (pc4.frame (Nat.le_refl _) g5))
     have pd5 := pd4.kept g5 (.inl pc4.up)
     have i1 := pc5.le
     clear pc4 pd4 g5
     go_wp2_with fail
     refine (pen_at pc5).mono ?_
     rintro e w' ⟨rfl, rfl⟩
     go_wp2_with fail
     refine (pen_errk pc5).mono ?_
     rintro e w' ⟨⟨E, rfl, hE⟩, rfl⟩
     go_wp2_with fail
     refine (pen_sleb pd5 S.out).mono ?_
     rintro e w6 ⟨rfl, pd6, g6⟩
     have B6 := Lib.hid (B5.out.trans (pd5.frame sc g6))
     have pc6 := pc5.kept g6 (.inr pd5.lw)
     have i2 := pd6.le
     clear pc5 pd5 g6
     go_wp2_with fail
     refine (pen_at pd6).mono ?_
     rintro e w' ⟨rfl, rfl⟩
     go_wp2_with fail
     refine (pen_errk pd6).mono ?_
     rintro e w' ⟨⟨F, rfl, hF⟩, rfl⟩
     go_wp2_with fail
     refine (pen_fail pc6).mono ?_
     rintro e w7 ⟨rfl, pc7, g7⟩
     have B7 := Lib.hid (B6.out.trans (pc6.frame (Nat.le_refl _) g7))
     clear pc6 pd6 g7
     go_wp2_with fail
     refine (pen_at pc7).mono ?_
     rintro e w' ⟨rfl, rfl⟩
     go_wp2_with fail
     refine (pen_uleb_bad pc7 rfl).mono ?_
     rintro e w8 ⟨rfl, pc8, g8⟩
     have B8 := Lib.hid (B7.out.trans (pc7.frame0 (Nat.le_refl _) g8))
     clear pc7 g8
     go_wp2_with fail
     refine (pen_sleb_bad pc8 rfl).mono ?_
     rintro e w9 ⟨rfl, pc9, g9⟩
     have B9 := Lib.hid (B8.out.trans (pc8.frame0 (Nat.le_refl _) g9))
     clear pc8 g9
     go_wp2_with fail
     refine (pen_at pc9).mono ?_
     rintro e w' ⟨rfl, rfl⟩
     go_wp2_with fail
     refine (pen_err3 pc9 rfl).mono ?_
     rintro e w' ⟨rfl, rfl⟩
     go_wp2_with fail
     refine (K.out w9).mono ?_
     rintro e w10 ⟨rfl, bk⟩
     go_wp2
     go_ret
     exact ⟨rfl, B9.out.trans (bk.mono B9.out.size)⟩
   · have HB := Lib.hid (HC.out (some (x.add n)) (cap0 - n) (by simp) (fun y hy => by injection hy with hy; subst hy; exact .inr ⟨x, rfl, rfl⟩))
     clear H2 HC HN
     go_wp2_with fail
     refine (show Calls Try.prog 12 #[.slice (some (x.add n)) m (cap0 - n)] w4 (fun e w' => e = .returned (.tuple #[.int .u64 uv, .int .i64 un]) ∧ w4 = w') from by
       have h0 := refuleb_any (HB.out) HR.out (by rw [HL.out]; exact hml)
       rw [HL.out, U.out] at h0
       exact h0).mono ?_
     rintro e w' ⟨rfl, rfl⟩
     go_wp2_with fail
     refine (show Calls Try.prog 13 #[.slice (some (x.add n)) m (cap0 - n)] w4 (fun e w' => e = .returned (.tuple #[.int .i64 sv, .int .i64 sn]) ∧ w4 = w') from by
       have h0 := refsleb_any (HB.out) HR.out (by rw [HL.out]; exact hml)
       rw [HL.out, S.out] at h0
       exact h0).mono ?_
     rintro e w' ⟨rfl, rfl⟩
     go_wp2_with fail
     refine (pen_uleb pc4 U.out).mono ?_
     rintro e w5 ⟨rfl, pc5, g5⟩
     have B5 := Lib.hid (B4.out.trans (pc4.frame (Nat.le_refl _) g5))
     have pd5 := pd4.kept g5 (.inl pc4.up)
     have i1 := pc5.le
     clear pc4 pd4 g5
     go_wp2_with fail
     refine (pen_at pc5).mono ?_
     rintro e w' ⟨rfl, rfl⟩
     go_wp2_with fail
     refine (pen_errk pc5).mono ?_
     rintro e w' ⟨⟨E, rfl, hE⟩, rfl⟩
     go_wp2_with fail
     refine (pen_sleb pd5 S.out).mono ?_
     rintro e w6 ⟨rfl, pd6, g6⟩
     have B6 := Lib.hid (B5.out.trans (pd5.frame sc g6))
     have pc6 := pc5.kept g6 (.inr pd5.lw)
     have i2 := pd6.le
     clear pc5 pd5 g6
     go_wp2_with fail
     refine (pen_at pd6).mono ?_
     rintro e w' ⟨rfl, rfl⟩
     go_wp2_with fail
     refine (pen_errk pd6).mono ?_
     rintro e w' ⟨⟨F, rfl, hF⟩, rfl⟩
     go_wp2_with fail
     refine (pen_fail pc6).mono ?_
     rintro e w7 ⟨rfl, pc7, g7⟩
     have B7 := Lib.hid (B6.out.trans (pc6.frame (Nat.le_refl _) g7))
     clear pc6 pd6 g7
     go_wp2_with fail
     refine (pen_at pc7).mono ?_
     rintro e w' ⟨rfl, rfl⟩
     go_wp2_with fail
     refine (pen_uleb_bad pc7 rfl).mono ?_
     rintro e w8 ⟨rfl, pc8, g8⟩
     have B8 := Lib.hid (B7.out.trans (pc7.frame0 (Nat.le_refl _) g8))
     clear pc7 g8
     go_wp2_with fail
     refine (pen_sleb_bad pc8 rfl).mono ?_
     rintro e w9 ⟨rfl, pc9, g9⟩
     have B9 := Lib.hid (B8.out.trans (pc8.frame0 (Nat.le_refl _) g9))
     clear pc8 g9
     go_wp2_with fail
     refine (pen_at pc9).mono ?_
     rintro e w' ⟨rfl, rfl⟩
     go_wp2_with fail
     refine (pen_err3 pc9 rfl).mono ?_
     rintro e w' ⟨rfl, rfl⟩
     go_wp2_with fail
     refine (K.out w9).mono ?_
     rintro e w10 ⟨rfl, bk⟩
     go_wp2
     go_ret
     exact ⟨rfl, B9.out.trans (bk.mono B9.out.size)⟩
end Go.Proofs.Ytfdbmdkjmifpaaa.lebReads
