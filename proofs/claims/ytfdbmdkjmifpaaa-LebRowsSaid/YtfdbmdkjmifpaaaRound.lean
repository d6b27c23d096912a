/- What was put is taken, whatever stands behind it; and with groups of nothing behind it, up to ten bytes. Plain lists, no program. No condition. -/
import Derived.Test.YtfdbmdkjmifpaaaEnc
import Derived.Test.YtfdbmdkjmifpaaaTake
import Derived.Test.YtfdbmdkjmifpaaaRef2
namespace Go.Proofs.Ytfdbmdkjmifpaaa

theorem szN_encU : ∀ (k n : Nat) (r : List Int), (encU n).length ≤ k → szN k (encU n ++ r) = (encU n).length := by
  intro k
  induction k with
  | zero => intro n r h; have := encU_ne n; omega
  | succ k ih =>
    intro n r h
    by_cases h1 : n < 128
    · rw [encU_small h1]
      simp only [List.cons_append, List.nil_append, szN, List.length_cons, List.length_nil]
      rw [if_pos (by omega)]
    · rw [encU_big h1] at h ⊢
      simp only [List.length_cons] at h
      have := ih (n / 128) r (by omega)
      have hne := encU_ne (n / 128)
      simp only [List.cons_append, szN, List.length_cons, this]
      rw [if_neg (by omega), if_neg (by omega)]
theorem szN_encS : ∀ (k : Nat) (n : Int) (r : List Int), (encS n).length ≤ k → szN k (encS n ++ r) = (encS n).length := by
  intro k
  induction k with
  | zero => intro n r h; have := encS_ne n; omega
  | succ k ih =>
    intro n r h
    by_cases h1 : -64 ≤ n ∧ n < 64
    · rw [encS_small h1]
      simp only [List.cons_append, List.nil_append, szN, List.length_cons, List.length_nil]
      rw [if_pos (by omega)]
    · rw [encS_big h1] at h ⊢
      simp only [List.length_cons] at h
      have := ih (n / 128) r (by omega)
      have hne := encS_ne (n / 128)
      simp only [List.cons_append, szN, List.length_cons, this]
      rw [if_neg (by omega), if_neg (by omega)]
theorem valN_encU : ∀ (k n : Nat), n < k → valN (encU n) = n := by
  intro k
  induction k with
  | zero => intro n h; omega
  | succ k ih =>
    intro n h
    by_cases h1 : n < 128
    · rw [encU_small h1]; simp only [valN]; omega
    · rw [encU_big h1]
      simp only [valN]
      rw [ih (n / 128) (by omega)]; omega
theorem svalN_encS : ∀ (k : Nat) (n : Int), n.natAbs < k → svalN (encS n) = n := by
  intro k
  induction k with
  | zero => intro n h; omega
  | succ k ih =>
    intro n h
    by_cases h1 : -64 ≤ n ∧ n < 64
    · rw [encS_small h1]; simp only [svalN]; split <;> omega
    · rw [encS_big h1, svalN_cons _ (by have := encS_ne (n / 128); intro e; rw [e] at this; simp at this), ih (n / 128) (by omega)]
      omega
theorem uleb_enc (n : Nat) (r : List Int) (hn : n < 18446744073709551616) : ulebN (encU n ++ r) = ((n : Int), (encU n).length) := by
  have hs := szN_encU 10 n r (encU_10 n hn)
  refine uleb_yes hs ?_ (by omega)
  rw [List.take_left' rfl, valN_encU (n + 1) n (by omega)]
theorem sleb_enc (n : Int) (r : List Int) (hn : -9223372036854775808 ≤ n ∧ n < 9223372036854775808) : slebN (encS n ++ r) = (n, (encS n).length) := by
  have hs := szN_encS 10 n r (encS_10 n hn)
  have hv : svalN ((encS n ++ r).take (szN 10 (encS n ++ r))) = n := by rw [hs, List.take_left' rfl, svalN_encS (n.natAbs + 1) n (by omega)]
  have := sleb_eq (l := encS n ++ r) (by rw [hv]; exact hn)
  rw [this, hv, hs]
end Go.Proofs.Ytfdbmdkjmifpaaa
