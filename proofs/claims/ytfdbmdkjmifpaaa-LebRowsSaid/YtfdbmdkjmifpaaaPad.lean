/- A number's bytes with groups of nothing behind them mean the same, up to ten bytes. Plain lists, no program. No condition. -/
import Derived.Test.YtfdbmdkjmifpaaaRound
namespace Go.Proofs.Ytfdbmdkjmifpaaa

theorem encU_parts : ∀ k n : Nat, n < k → ∃ (A : List Int) (x : Int), encU n = A ++ [x] ∧ 0 ≤ x ∧ x < 128 ∧ ∀ y ∈ A, 128 ≤ y ∧ y < 256 := by
  intro k
  induction k with
  | zero => intro n h; omega
  | succ k ih =>
    intro n h
    by_cases h1 : n < 128
    · exact ⟨[], n, by rw [encU_small h1]; rfl, by omega, by omega, by simp⟩
    · obtain ⟨A, x, e, h2, h3, h4⟩ := ih (n / 128) (by omega)
      refine ⟨_ :: A, x, by rw [encU_big h1, e]; rfl, h2, h3, fun y hy => ?_⟩
      rcases List.mem_cons.1 hy with rfl | hy
      · omega
      · exact h4 y hy
theorem encS_parts : ∀ (k : Nat) (n : Int), n.natAbs < k → ∃ (A : List Int) (x : Int), encS n = A ++ [x] ∧ 0 ≤ x ∧ x < 128 ∧ (64 ≤ x ↔ n < 0) ∧ ∀ y ∈ A, 128 ≤ y ∧ y < 256 := by
  intro k
  induction k with
  | zero => intro n h; omega
  | succ k ih =>
    intro n h
    by_cases h1 : -64 ≤ n ∧ n < 64
    · exact ⟨[], n % 128, by rw [encS_small h1]; rfl, by omega, by omega, by omega, by simp⟩
    · obtain ⟨A, x, e, h2, h3, h4, h5⟩ := ih (n / 128) (by omega)
      refine ⟨_ :: A, x, by rw [encS_big h1, e]; rfl, h2, h3, by omega, fun y hy => ?_⟩
      rcases List.mem_cons.1 hy with rfl | hy
      · omega
      · exact h5 y hy
theorem valN_append (a b : List Int) : valN (a ++ b) = valN a + 128 ^ a.length * valN b := by
  induction a with
  | nil => simp [valN]
  | cons x a ih =>
    simp only [List.cons_append, valN, ih, List.length_cons, Int.pow_succ, Int.mul_add]
    rw [← Int.mul_assoc, Int.mul_comm 128 (128 ^ a.length)]
    omega
theorem svalN_append (a b : List Int) (hb : b ≠ []) : svalN (a ++ b) = valN a + 128 ^ a.length * svalN b := by
  induction a with
  | nil => simp [valN]
  | cons x a ih =>
    rw [List.cons_append, svalN_cons _ (by simp [hb]), ih]
    simp only [valN, List.length_cons, Int.pow_succ, Int.mul_add]
    rw [← Int.mul_assoc, Int.mul_comm 128 (128 ^ a.length)]
    omega
/-- The groups of nothing: j that say that another one follows, and the last. -/
def nothing (f : Int) (j : Nat) : List Int := List.replicate j (f + 128) ++ [f]
theorem nothing_ne (f : Int) (j : Nat) : nothing f j ≠ [] := by simp [nothing]
theorem val_nothing (j : Nat) : valN (nothing 0 j) = 0 := by
  induction j with
  | zero => rfl
  | succ j ih => simp only [nothing, List.replicate_succ, List.cons_append, valN] at ih ⊢; rw [ih]; rfl
theorem sval_nothing0 (j : Nat) : svalN (nothing 0 j) = 0 := by
  induction j with
  | zero => rfl
  | succ j ih =>
    have e : nothing 0 (j + 1) = (0 + 128) :: nothing 0 j := by simp [nothing, List.replicate_succ]
    rw [e, svalN_cons _ (nothing_ne 0 j), ih]; rfl
theorem sval_nothing127 (j : Nat) : svalN (nothing 127 j) = -1 := by
  induction j with
  | zero => rfl
  | succ j ih =>
    have e : nothing 127 (j + 1) = (127 + 128) :: nothing 127 j := by simp [nothing, List.replicate_succ]
    rw [e, svalN_cons _ (nothing_ne 127 j), ih]; rfl
/-- All of it. -/
def padded (A : List Int) (x f : Int) (j : Nat) : List Int := (A ++ [x + 128]) ++ nothing f j
theorem padded_len (A : List Int) (x f : Int) (j : Nat) : (padded A x f j).length = A.length + 1 + j + 1 := by simp [padded, nothing]; omega
theorem padded_more {A : List Int} {x f : Int} (j : Nat) (hx : 0 ≤ x) (hf : 0 ≤ f) (hA : ∀ y ∈ A, 128 ≤ y ∧ y < 256) : More (padded A x f j) (A.length + 1 + j) := by
  have hall : ∀ y ∈ (A ++ [x + 128]) ++ List.replicate j (f + 128), 128 ≤ y := by
    intro y hy
    rcases List.mem_append.1 hy with h | h
    · rcases List.mem_append.1 h with h | h
      · exact (hA y h).1
      · have := List.mem_singleton.1 h; omega
    · have := (List.mem_replicate.1 h).2; omega
  intro i hi
  have e : padded A x f j = ((A ++ [x + 128]) ++ List.replicate j (f + 128)) ++ [f] := by simp [padded, nothing]
  rw [e]
  have hl : i < ((A ++ [x + 128]) ++ List.replicate j (f + 128)).length := by simp; omega
  rw [List.getD_eq_getElem?_getD, List.getElem?_append_left hl, List.getElem?_eq_getElem hl]
  exact hall _ (List.getElem_mem hl)
theorem padded_last (A : List Int) (x f : Int) (j : Nat) : (padded A x f j).getD (A.length + 1 + j) 0 = f := by
  have e : padded A x f j = ((A ++ [x + 128]) ++ List.replicate j (f + 128)) ++ [f] := by simp [padded, nothing]
  rw [e, List.getD_eq_getElem?_getD, List.getElem?_append_right (by simp; omega), show A.length + 1 + j - ((A ++ [x + 128]) ++ List.replicate j (f + 128)).length = 0 by simp; omega]
  rfl
theorem padded_size {A : List Int} {x f : Int} (j : Nat) (hx : 0 ≤ x) (hf : 0 ≤ f ∧ f < 128) (hA : ∀ y ∈ A, 128 ≤ y ∧ y < 256) (h : A.length + 1 + j + 1 ≤ 10) : szN 10 (padded A x f j) = A.length + 1 + j + 1 :=
  szN_end 10 (A.length + 1 + j) _ (by omega) (by rw [padded_len]; omega) (padded_more j hx hf.1 hA) (by rw [padded_last]; exact hf.2)
theorem padded_none {A : List Int} {x f : Int} (j : Nat) (hx : 0 ≤ x) (hf : 0 ≤ f) (hA : ∀ y ∈ A, 128 ≤ y ∧ y < 256) (h : 10 < A.length + 1 + j + 1) : szN 10 (padded A x f j) = 0 :=
  szN_long 10 _ (fun i hi => padded_more j hx hf hA i (by omega))
theorem val_last (A : List Int) (x : Int) : valN (A ++ [x + 128]) = valN (A ++ [x]) := by
  rw [valN_append, valN_append]
  simp only [valN]
  rw [show (x + 128) % 128 = x % 128 by omega]

theorem upad {n : Nat} {A : List Int} {x : Int} (hn : n < 18446744073709551616) (he : encU n = A ++ [x]) (hx : 0 ≤ x) (hA : ∀ y ∈ A, 128 ≤ y ∧ y < 256) (j : Nat) :
    ulebN (padded A x 0 j) = if A.length + 1 + j + 1 ≤ 10 then ((n : Int), A.length + 1 + j + 1) else (0, 0) := by
  by_cases h : A.length + 1 + j + 1 ≤ 10
  · rw [if_pos h]
    refine uleb_yes (padded_size j hx (by omega) hA h) ?_ (by omega)
    rw [List.take_of_length_le (by rw [padded_len]; exact Nat.le_refl _), padded, valN_append, val_nothing, val_last, ← he, valN_encU (n + 1) n (by omega)]
    omega
  · rw [if_neg h]
    exact uleb_no (.inl (padded_none j hx (by omega) hA (by omega)))
theorem spad {n : Int} {A : List Int} {x f : Int} (hn : -9223372036854775808 ≤ n ∧ n < 9223372036854775808) (he : encS n = A ++ [x]) (hx : 0 ≤ x) (hx2 : x < 128) (hs : 64 ≤ x ↔ n < 0) (hA : ∀ y ∈ A, 128 ≤ y ∧ y < 256) (hf : (n < 0 ∧ f = 127) ∨ (0 ≤ n ∧ f = 0)) (j : Nat) :
    slebN (padded A x f j) = if A.length + 1 + j + 1 ≤ 10 then (n, A.length + 1 + j + 1) else (0, 0) := by
  by_cases h : A.length + 1 + j + 1 ≤ 10
  · rw [if_pos h]
    have hsz := padded_size (x := x) (f := f) j hx (by omega) hA h
    have hv : svalN ((padded A x f j).take (szN 10 (padded A x f j))) = n := by
      have h1 := svalN_encS (n.natAbs + 1) n (by omega)
      rw [he, svalN_snoc, Int.emod_eq_of_lt hx hx2] at h1
      rw [hsz, List.take_of_length_le (by rw [padded_len]; exact Nat.le_refl _), padded, svalN_append _ _ (nothing_ne f j), val_last]
      have hl : (A ++ [x + 128]).length = A.length + 1 := by simp
      rw [hl]
      rcases hf with ⟨h2, rfl⟩ | ⟨h2, rfl⟩
      · rw [if_pos (hs.2 h2)] at h1
        rw [sval_nothing127]; omega
      · rw [if_neg (by rw [hs]; omega)] at h1
        rw [sval_nothing0]; omega
    have := sleb_eq (l := padded A x f j) (by rw [hv]; exact hn)
    rw [this, hv, hsz]
  · rw [if_neg h]
    exact sleb_no (.inl (padded_none j hx (by omega) hA (by omega)))
end Go.Proofs.Ytfdbmdkjmifpaaa
