/- Numbers that were put one behind the other, in turn plain and signed: their bytes, and what stands at each one's place. Plain lists, no program. No condition. -/
import Derived.Test.YtfdbmdkjmifpaaaPad
namespace Go.Proofs.Ytfdbmdkjmifpaaa
open Go.RowKit

def item (k : Nat) (u : Int) : List Int := if k % 2 = 0 then encU u.toNat else encS (wrap64 u)
def cat (us : List Int) : Nat → List Int
  | 0 => []
  | k + 1 => cat us k ++ item k (us.getD k 0)
theorem w64_range (u : Int) : -9223372036854775808 ≤ wrap64 u ∧ wrap64 u < 9223372036854775808 := by unfold wrap64; omega
theorem item_even {k : Nat} {u : Int} (h : k % 2 = 0) : item k u = encU u.toNat := by unfold item; rw [if_pos h]
theorem item_odd {k : Nat} {u : Int} (h : ¬ k % 2 = 0) : item k u = encS (wrap64 u) := by unfold item; rw [if_neg h]
theorem item_ne (k : Nat) (u : Int) : 0 < (item k u).length := by
  unfold item; split
  · exact encU_ne _
  · exact encS_ne _
theorem item_10 (k : Nat) (u : Int) (h : 0 ≤ u ∧ u < 18446744073709551616) : (item k u).length ≤ 10 := by
  unfold item; split
  · exact encU_10 _ (by omega)
  · exact encS_10 _ (w64_range u)
theorem item_bytes (k : Nat) (u : Int) : ∀ x ∈ item k u, 0 ≤ x ∧ x < 256 := by
  unfold item; split
  · exact encU_bytes _
  · exact encS_bytes _
theorem cat_bytes (us : List Int) (k : Nat) : ∀ x ∈ cat us k, 0 ≤ x ∧ x < 256 := by
  induction k with
  | zero => simp [cat]
  | succ k ih =>
    intro x hx
    rcases List.mem_append.1 hx with h | h
    · exact ih x h
    · exact item_bytes _ _ x h
theorem cat_len (us : List Int) (h : ∀ k, 0 ≤ us.getD k 0 ∧ us.getD k 0 < 18446744073709551616) (k : Nat) : (cat us k).length ≤ 10 * k := by
  induction k with
  | zero => simp [cat]
  | succ k ih =>
    have := item_10 k _ (h k)
    simp only [cat, List.length_append]; omega
theorem cat_split (us : List Int) (k d : Nat) : ∃ r, cat us (k + d) = cat us k ++ r ∧ (0 < d → r ≠ []) := by
  induction d with
  | zero => exact ⟨[], by simp, by omega⟩
  | succ d ih =>
    obtain ⟨r, e, _⟩ := ih
    refine ⟨r ++ item (k + d) (us.getD (k + d) 0), by rw [← Nat.add_assoc, cat, e, List.append_assoc], fun _ h => ?_⟩
    have := item_ne (k + d) (us.getD (k + d) 0)
    have h2 := congrArg List.length h
    simp only [List.length_append, List.length_nil] at h2
    omega
/-- What stands at a number's place. -/
theorem cat_at (us : List Int) {k n : Nat} (h : k < n) : ∃ r, (cat us n).drop (cat us k).length = item k (us.getD k 0) ++ r := by
  obtain ⟨r, e, _⟩ := cat_split us (k + 1) (n - (k + 1))
  rw [show k + 1 + (n - (k + 1)) = n by omega] at e
  exact ⟨r, by rw [e, cat, List.append_assoc]; exact List.drop_left' rfl⟩
theorem cat_le (us : List Int) {k n : Nat} (h : k ≤ n) : (cat us k).length ≤ (cat us n).length := by
  obtain ⟨r, e, _⟩ := cat_split us k (n - k)
  rw [show k + (n - k) = n by omega] at e
  rw [e, List.length_append]; omega
/-- The row less its last byte: at every number's place but the last one's there stands that number. -/
theorem cut_at (us : List Int) {k n : Nat} (h : k + 1 < n) : ∃ r, (cat us n).dropLast.drop (cat us k).length = item k (us.getD k 0) ++ r := by
  obtain ⟨r, e, hr⟩ := cat_split us (k + 1) (n - (k + 1))
  rw [show k + 1 + (n - (k + 1)) = n by omega] at e
  refine ⟨r.dropLast, ?_⟩
  rw [e, List.dropLast_append_of_ne_nil (hr (by omega)), cat, List.append_assoc]
  exact List.drop_left' rfl
theorem cut_last (us : List Int) (k : Nat) : (cat us (k + 1)).dropLast.drop (cat us k).length = (item k (us.getD k 0)).dropLast := by
  have hne : item k (us.getD k 0) ≠ [] := fun e => by have := item_ne k (us.getD k 0); rw [e] at this; simp at this
  rw [cat, List.dropLast_append_of_ne_nil hne]
  exact List.drop_left' rfl

theorem at_even {k : Nat} {u : Int} {r : List Int} (hk : k % 2 = 0) (hu : 0 ≤ u ∧ u < 18446744073709551616) : ulebN (item k u ++ r) = (u, (item k u).length) := by
  rw [item_even hk, uleb_enc _ _ (by omega)]
  congr 1; omega
theorem at_odd {k : Nat} {u : Int} {r : List Int} (hk : ¬ k % 2 = 0) : slebN (item k u ++ r) = (wrap64 u, (item k u).length) := by
  rw [item_odd hk, sleb_enc _ _ (w64_range u)]
theorem more_all {A : List Int} (h : ∀ y ∈ A, 128 ≤ y ∧ y < 256) : More A A.length := fun i hi => by
  rw [List.getD_eq_getElem?_getD, List.getElem?_eq_getElem hi]
  exact (h _ (List.getElem_mem hi)).1
theorem cut_even {k : Nat} {u : Int} (hk : k % 2 = 0) : ulebN (item k u).dropLast = (0, 0) := by
  obtain ⟨A, x, e, _, _, h⟩ := encU_parts (u.toNat + 1) u.toNat (by omega)
  rw [item_even hk, e, List.dropLast_concat]
  exact uleb_short (more_all h)
theorem cut_odd {k : Nat} {u : Int} (hk : ¬ k % 2 = 0) : slebN (item k u).dropLast = (0, 0) := by
  obtain ⟨A, x, e, _, _, _, h⟩ := encS_parts ((wrap64 u).natAbs + 1) (wrap64 u) (by omega)
  rw [item_odd hk, e, List.dropLast_concat]
  exact sleb_short (more_all h)
end Go.Proofs.Ytfdbmdkjmifpaaa
