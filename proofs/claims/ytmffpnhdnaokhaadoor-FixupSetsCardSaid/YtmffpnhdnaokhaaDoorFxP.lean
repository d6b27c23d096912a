/- How sets come about, in numbers: one put in where it stands; neighbours that are alike put together. No condition. -/
import Derived.Test.YtmffpnhdnaokhaaDoorFxS
namespace Go.Proofs.YtmffpnhdnaokhaaDoor

/-- So many of a row, one more, and the others. -/
def insAt (S : List Fx) (k : Nat) (j : Fx) : List Fx := S.take k ++ j :: S.drop k
theorem insAt_len {S : List Fx} {k : Nat} {j : Fx} (hk : k ≤ S.length) : (insAt S k j).length = S.length + 1 := by
  unfold insAt
  rw [List.length_append, List.length_take, List.length_cons, List.length_drop]
  omega
theorem insAt_end (S : List Fx) (j : Fx) : insAt S S.length j = S ++ [j] := by
  unfold insAt
  rw [List.take_length, List.drop_length]
theorem insAt_set {S : List Fx} {k : Nat} {j : Fx} (x : Fx) (hk : k ≤ S.length) : (insAt S k j).set k x = insAt S k x := by
  unfold insAt
  rw [List.set_append_right _ _ (by rw [List.length_take]; omega), List.length_take, Nat.min_eq_left hk, Nat.sub_self]
  rfl
theorem insAt_prev {S : List Fx} {k : Nat} {j y : Fx} (hy : S[k]? = some y) : (insAt S (k + 1) j)[k]? = some y := by
  obtain ⟨hk, rfl⟩ := List.getElem?_eq_some_iff.1 hy
  unfold insAt
  rw [List.getElem?_append_left (by rw [List.length_take]; omega), List.getElem?_take_of_lt (by omega), hy]
theorem insAt_step {S : List Fx} {k : Nat} {j y : Fx} (hy : S[k]? = some y) : (insAt S (k + 1) j).set (k + 1) y = insAt S k y := by
  obtain ⟨hk, rfl⟩ := List.getElem?_eq_some_iff.1 hy
  rw [insAt_set _ (by omega)]
  unfold insAt
  rw [List.take_succ_eq_append_getElem hk, List.drop_eq_getElem_cons hk, List.append_assoc]
  rfl
theorem IsSet.nil : IsSet [] [] := ⟨List.Pairwise.nil, fun _ => Iff.rfl⟩
theorem IsSet.there {S l : List Fx} {k : Nat} {x : Fx} (h : IsSet S l) (hx : S[k]? = some x) : IsSet S (l ++ [x]) :=
  ⟨h.up, fun y => by
    rw [List.mem_append, List.mem_singleton]
    exact ⟨fun hy => .inl ((h.mem y).1 hy), fun hy => hy.elim (fun hy => (h.mem y).2 hy) (fun e => e ▸ List.mem_of_getElem? hx)⟩⟩
theorem IsSet.put {S l : List Fx} {k : Nat} {x : Fx} (h : IsSet S l) (hk : k ≤ S.length) (hlo : ∀ (j : Nat) (y : Fx), j < k → S[j]? = some y → LtF y x) (hhi : ∀ (j : Nat) (y : Fx), k ≤ j → S[j]? = some y → ¬ LtF y x) (hne : S[k]? ≠ some x) : IsSet (insAt S k x) (l ++ [x]) := by
  have up := List.pairwise_iff_getElem.1 h.up
  have hlt : ∀ y ∈ S.drop k, LtF x y := by
    intro y hy
    obtain ⟨i, hi, rfl⟩ := List.getElem_of_mem hy
    rw [List.length_drop] at hi
    rw [List.getElem_drop]
    have h0 : k < S.length := by omega
    have hk0 : ¬ LtF (S[k]) x := hhi k _ (Nat.le_refl _) (List.getElem?_eq_getElem h0)
    have hx0 : LtF x S[k] := by
      by_cases c : LtF x S[k]
      · exact c
      · exact absurd (by rw [List.getElem?_eq_getElem h0, ltF_tri hk0 c]) hne
    rcases Nat.eq_zero_or_pos i with e | e
    · subst e; exact hx0
    · exact ltF_trans hx0 (up k (k + i) h0 (by omega) (by omega))
  refine ⟨?_, fun y => ?_⟩
  · unfold insAt
    rw [List.pairwise_append]
    refine ⟨h.up.sublist (List.take_sublist _ _), List.pairwise_cons.2 ⟨hlt, h.up.sublist (List.drop_sublist _ _)⟩, fun a ha b hb => ?_⟩
    obtain ⟨i, hi, rfl⟩ := List.getElem_of_mem ha
    rw [List.length_take] at hi
    have hax : LtF (S.take k)[i] x := by
      rw [List.getElem_take]
      exact hlo i _ (by omega) (List.getElem?_eq_getElem (by omega))
    rcases List.mem_cons.1 hb with e | e
    · subst e; exact hax
    · exact ltF_trans hax (hlt b e)
  · unfold insAt
    rw [List.mem_append, List.mem_cons, List.mem_append, List.mem_singleton, ← h.mem y]
    conv => rhs; rw [← List.take_append_drop k S, List.mem_append]
    constructor
    · rintro (a | a | a)
      · exact .inl (.inl a)
      · exact .inr a
      · exact .inl (.inr a)
    · rintro ((a | a) | a)
      · exact .inl a
      · exact .inr (.inr a)
      · exact .inr (.inl a)

/-! Neighbours that are alike. -/
theorem dedF_snoc : ∀ (A : List Fx) (x y : Fx), dedF (A ++ [x, y]) = if ordN y x = 0 then dedF (A ++ [x]) else dedF (A ++ [x]) ++ [y]
  | [], x, y => by
    simp only [List.nil_append, dedF]
    by_cases h : ordN y x = 0
    · rw [if_pos h, if_pos h, ord_0 h]
    · rw [if_neg h, if_neg h]; rfl
  | [a], x, y => by
    have ih := dedF_snoc [] x y
    simp only [List.nil_append] at ih
    simp only [List.cons_append, List.nil_append]
    rw [show dedF (a :: x :: [y]) = if ordN x a = 0 then dedF (x :: [y]) else a :: dedF (x :: [y]) from rfl, show dedF (a :: [x]) = if ordN x a = 0 then dedF [x] else a :: dedF [x] from rfl, show dedF (x :: [y]) = _ from ih]
    by_cases h : ordN y x = 0
    · rw [if_pos h, if_pos h]
    · rw [if_neg h, if_neg h]
      by_cases k : ordN x a = 0
      · rw [if_pos k, if_pos k]
      · rw [if_neg k, if_neg k]; rfl
  | a :: b :: A, x, y => by
    have ih := dedF_snoc (b :: A) x y
    simp only [List.cons_append] at ih ⊢
    rw [show dedF (a :: b :: (A ++ [x, y])) = if ordN b a = 0 then dedF (b :: (A ++ [x, y])) else a :: dedF (b :: (A ++ [x, y])) from rfl, show dedF (a :: b :: (A ++ [x])) = if ordN b a = 0 then dedF (b :: (A ++ [x])) else a :: dedF (b :: (A ++ [x])) from rfl, ih]
    by_cases h : ordN y x = 0
    · rw [if_pos h, if_pos h]
    · rw [if_neg h, if_neg h]
      by_cases k : ordN b a = 0
      · rw [if_pos k, if_pos k]
      · rw [if_neg k, if_neg k]; rfl
/-- One more is looked at. -/
theorem ded_next {R : List Fx} {k : Nat} {x y : Fx} (hx : R[k]? = some x) (hy : R[k + 1]? = some y) : dedF (R.take (k + 2)) = if ordN y x = 0 then dedF (R.take (k + 1)) else dedF (R.take (k + 1)) ++ [y] := by
  obtain ⟨h1, rfl⟩ := List.getElem?_eq_some_iff.1 hx
  obtain ⟨h2, rfl⟩ := List.getElem?_eq_some_iff.1 hy
  rw [show k + 2 = (k + 1) + 1 from rfl, List.take_succ_eq_append_getElem h2, List.take_succ_eq_append_getElem h1, List.append_assoc]
  exact dedF_snoc _ _ _
theorem ded_one {R : List Fx} (h : 0 < R.length) : dedF (R.take 1) = R.take 1 := by
  cases R with
  | nil => simp at h
  | cons a l => rfl
end Go.Proofs.YtmffpnhdnaokhaaDoor
