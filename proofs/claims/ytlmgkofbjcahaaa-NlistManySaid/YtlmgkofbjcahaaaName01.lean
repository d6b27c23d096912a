/- The document's text that bytes begin with: clevisref01.Name. No condition. -/
import Derived.Test.YtlmgkofbjcahaaaNam
import Derived.BigQuiet
import Derived.Deep.QuietTactic
namespace Go.Proofs.Ytlmgkofbjcahaaa
open Go.RowKit
variable {w w' W : World}

theorem pre_ne : ∀ (l : List Int) (i : Nat), i < (pre l).length → l.getD i 0 ≠ 0 := by
  intro l
  induction l with
  | nil => intro i h; simp [pre] at h
  | cons x l ih =>
    intro i h
    simp only [pre] at h
    by_cases hx : x = 0
    · rw [if_pos hx] at h; simp at h
    · rw [if_neg hx] at h
      cases i with
      | zero => simpa using hx
      | succ i => simpa using ih i (by simpa using h)
theorem pre_end : ∀ (l : List Int), (pre l).length < l.length → l.getD (pre l).length 0 = 0 := by
  intro l
  induction l with
  | nil => intro h; simp at h
  | cons x l ih =>
    intro h
    simp only [pre] at h ⊢
    by_cases hx : x = 0
    · rw [if_pos hx]; simpa using hx
    · rw [if_neg hx] at h ⊢
      simpa using ih (by simpa using h)
theorem quiet_eq {f : FuncId} {args : Array Value} {w : World} {v : Value} (h : Calls Try.prog f args w fun e w' => e = .returned v ∧ w = w') : Calls Try.prog f args w fun e w' => e = .returned v ∧ w' = w :=
  h.mono fun _ _ h => ⟨h.1, h.2.symm⟩
/-- The text that bytes begin with. -/
theorem name01_any (b o c n : Nat) (ys : List Int) (h : IsBytes w (some ⟨b, o, none⟩) c ys) (hn : ys.length = n) (hb : n ≤ 140737488355328) (hc : n ≤ c) :
    Calls Try.prog 30 #[.slice (some ⟨b, o, none⟩) n c] w fun e w' => e = .returned (.string (strOfNums (pre ys))) ∧ w' = w := by
  have hcell : ∀ k, k < n → w.cell? ⟨b, o + k, none⟩ = some (.int .u8 (ys.getD k 0)) := by
    intro k hk
    obtain ⟨b', o', e, hx⟩ := h.2 (by omega)
    injection e with e
    injection e with e1 e2 _
    subst e1 e2
    exact hx k (by omega)
  have hpl := pre_le ys
  rw [hn] at hpl
  have C := Lib.hid hcell
  have NE := Lib.hid (pre_ne ys)
  have EN := Lib.hid (pre_end ys)
  rw [hn] at EN
  have TX := Lib.hid (fun V W (hV : IsBytes W V c (pre ys)) => hV.text rfl)
  have HB := Lib.hid h
  have PT := Lib.hid (pre_take ys)
  obtain ⟨k, hk⟩ : ∃ k, k = (pre ys).length := ⟨_, rfl⟩
  rw [← hk] at hpl NE EN TX PT
  clear h hcell hn hk
  go_enter Try.func30, Try.ntmps30
  go_wp2
  go_loop [3] (fun i => ∃ j : Nat, i = .int .i64 j ∧ j ≤ k) (fun i => k - (intOf i).toNat)
  case atStart => exact ⟨0, rfl, by omega⟩
  case round =>
    obtain ⟨j, rfl, hj⟩ := hrel
    by_cases hlt : j < k
    · have c0 := C.out j (by omega)
      have hne := NE.out j hlt
      generalize ys.getD j 0 = y at *
      have hjn : j < n := by omega
      have hb1 : (y != 0) = true := by simpa using hne
      go_wp2
      go_round
      case rel => exact ⟨j + 1, by go_num, by omega⟩
      case measure => simp [intOf]; omega
    · obtain rfl : j = k := by omega
      have cv := TX.out (some ⟨b, o, none⟩) w (by have := HB.out.take j (c' := c) (fun e => by cases e); rw [← PT.out] at this; exact this)
      by_cases hjn : j < n
      · have c0 := C.out j hjn
        rw [EN.out hjn] at c0
        go_wp2
        go_ret
        exact ⟨rfl, rfl⟩
      · go_wp2
        go_ret
        exact ⟨rfl, rfl⟩
end Go.Proofs.Ytlmgkofbjcahaaa
