/- What the document's Make stands on: ends rise; a row of places. No condition. -/
import Derived.Test.YtdjakaiadggemaaOwnMake
namespace Go.Proofs.Ytdjakaiadggemaa
open Go.RowKit
variable {w w' : World} {base : Nat}

theorem endN_le {e0 : Int} (l : List Mb) (k : Nat) (hk : k ≤ l.length) (h0 : 0 ≤ e0) : 0 ≤ endN e0 (l.take k) := by
  induction k with
  | zero => exact h0
  | succ k ih =>
    have hm : l[k]? = some l[k] := List.getElem?_eq_getElem (by omega)
    have hup := upN_bd (e := endN e0 (l.take k)) (show (0 : Int) < 2 ^ l[k].align.toNat from Int.pow_pos (by decide))
    have := ih (by omega)
    rw [endN_succ hm]
    unfold stepE
    omega
theorem endN_mono {e0 : Int} (l : List Mb) (j k : Nat) (hjk : j ≤ k) (hk : k ≤ l.length) : endN e0 (l.take j) ≤ endN e0 (l.take k) := by
  induction k with
  | zero => obtain rfl : j = 0 := by omega
            exact Int.le_refl _
  | succ k ih =>
    rcases Nat.lt_or_ge j (k + 1) with h | h
    · have hm : l[k]? = some l[k] := List.getElem?_eq_getElem (by omega)
      have hup := upN_bd (e := endN e0 (l.take k)) (show (0 : Int) < 2 ^ l[k].align.toNat from Int.pow_pos (by decide))
      have := ih (by omega) (by omega)
      rw [endN_succ hm]
      unfold stepE
      omega
    · obtain rfl : j = k + 1 := by omega
      exact Int.le_refl _
/-- All have room where the last one has. -/
theorem room_iff {e0 : Int} {l : List Mb} (hl : 0 < l.length) : Room e0 l ↔ endN e0 l ≤ 1048576 := by
  constructor
  · intro h
    have := h (l.length - 1) (by omega)
    rw [show l.length - 1 + 1 = l.length by omega, List.take_length] at this
    exact this
  · intro h i hi
    have := endN_mono (e0 := e0) l (i + 1) l.length (by omega) (Nat.le_refl _)
    rw [List.take_length] at this
    omega
/-- Each end is at most so much further. -/
theorem endN_top {e0 : Int} (l : List Mb) (hal : ∀ m ∈ l, 0 ≤ m.align ∧ m.align ≤ 15) (hb : ∀ m ∈ l, m.bytes.length ≤ 1100000) (k : Nat) (hk : k ≤ l.length) : endN e0 (l.take k) ≤ e0 + k * 1132768 := by
  induction k with
  | zero => show e0 ≤ e0 + ((0 : Nat) : Int) * 1132768; omega
  | succ k ih =>
    have hm : l[k]? = some l[k] := List.getElem?_eq_getElem (by omega)
    have ha := hal _ (List.getElem_mem (show k < l.length by omega))
    have hbk := hb _ (List.getElem_mem (show k < l.length by omega))
    have hup := upN_bd (e := endN e0 (l.take k)) (show (0 : Int) < 2 ^ l[k].align.toNat from Int.pow_pos (by decide))
    have hp := two_le (show l[k].align.toNat ≤ 15 by omega)
    have h15 : (2 : Int) ^ 15 = 32768 := by decide
    have := ih (by omega)
    rw [endN_succ hm]
    unfold stepE
    omega
/-- How far it is to the next place that a unit divides; one step nearer. -/
theorem gap_step {a P : Int} (hP : 0 < P) (h : a % P ≠ 0) : (-(a + 1)) % P = (-a) % P - 1 := by
  have h1 : 0 ≤ (-a) % P := Int.emod_nonneg _ (by omega)
  have h2 : (-a) % P < P := Int.emod_lt_of_pos _ hP
  have h3 : (-a) % P ≠ 0 := fun e => h (by
    have := Int.dvd_of_emod_eq_zero e
    exact Int.emod_eq_zero_of_dvd ((Int.dvd_neg).1 this))
  have e1 : -(a + 1) = ((-a) % P - 1) + P * ((-a) / P) := by
    have := Int.emod_add_mul_ediv (-a) P
    omega
  rw [e1, Int.add_mul_emod_self_left, Int.emod_eq_of_lt (by omega) (by omega)]
theorem gap_end {a P : Int} (hP : 0 < P) : a + (-a) % P = upN a P := by
  unfold upN
  have h1 : 0 ≤ (-a) % P := Int.emod_nonneg _ (by omega)
  have h2 : (-a) % P < P := Int.emod_lt_of_pos _ hP
  have e1 := Int.emod_add_mul_ediv (-a) P
  have e2 : a + P - 1 = (P - 1 - (-a) % P) + P * (-((-a) / P)) := by
    rw [Int.mul_neg]; omega
  rw [e2, Int.add_mul_ediv_left _ _ (by omega), Int.ediv_eq_zero_of_lt (by omega) (by omega), Int.zero_add, Int.neg_mul, Int.mul_comm ((-a) / P)]
  omega
/-- Alike parts stand alike. -/
def TwinM (l : List Mb) (i j : Nat) : Prop := ∃ s t, l[i]? = some s ∧ l[j]? = some t ∧ s.cpu = t.cpu ∧ s.sub % 16777216 = t.sub % 16777216
theorem twin_parts {e0 : Int} {l : List Mb} {n : Nat} (hn : l.length = n) : Twin (spots e0 l n) ↔ ∃ i j, i < n ∧ j < i ∧ TwinM l i j := by
  constructor
  · rintro ⟨i, s, hs, j, t, hj, ht, ha⟩
    have hi : i < n := by
      rcases Nat.lt_or_ge i n with h | h
      · exact h
      · rw [List.getElem?_eq_none (by rw [spots_len]; exact h)] at hs; cases hs
    obtain ⟨m, hm⟩ : ∃ m, l[i]? = some m := ⟨_, List.getElem?_eq_getElem (by omega)⟩
    obtain ⟨m', hm'⟩ : ∃ m, l[j]? = some m := ⟨_, List.getElem?_eq_getElem (by omega)⟩
    rw [spots_at hi hm] at hs
    rw [spots_at (by omega) hm'] at ht
    injection hs with hs
    injection ht with ht
    subst hs ht
    refine ⟨i, j, hi, hj, m, m', hm, hm', ?_⟩
    unfold Sl.alike Sl.isOf spot at ha
    simp at ha
    exact ⟨ha.1.symm, ha.2.symm⟩
  · rintro ⟨i, j, hi, hj, m, m', hm, hm', h1, h2⟩
    refine ⟨i, _, spots_at hi hm, j, _, hj, spots_at (by omega) hm', ?_⟩
    unfold Sl.alike Sl.isOf spot
    simp
    exact ⟨h1.symm, h2.symm⟩
end Go.Proofs.Ytdjakaiadggemaa
