/- Many symbols of names that differ, as lists: their table, and what is told of it. No condition. -/
import Derived.Test.YtlmgkofbjcahaaaNlMk
namespace Go.Proofs.Ytlmgkofbjcahaaa
open Go.RowKit

def symM (i : Nat) : Sym := ([((97 + i % 64 : Nat) : Int), ((97 + i / 64 : Nat) : Int)], ⟨0, (i : Int), false⟩)
def manyD (k : Nat) : Syms := (List.range k).map symM
theorem manyD_len (k : Nat) : (manyD k).length = k := by simp [manyD]
theorem manyD_at {m i : Nat} (h : i < m) : (manyD m)[i]? = some (symM i) := by
  unfold manyD
  rw [List.getElem?_map, List.getElem?_range h]
  rfl
theorem manyD_snoc (k : Nat) : manyD (k + 1) = manyD k ++ [symM k] := by
  unfold manyD
  rw [List.range_succ, List.map_append, List.map_singleton]
theorem manyD_take {m k : Nat} (h : k ≤ m) : (manyD m).take k = manyD k := by
  unfold manyD
  rw [← List.map_take, List.take_range, Nat.min_eq_left h]
theorem symM_may {i : Nat} (h : i < 8000) : mayS (symM i).1 (symM i).2 = true := by
  unfold mayS symM
  simp only [Bool.and_eq_true, Bool.not_eq_true', decide_eq_false_iff_not, decide_eq_true_eq]
  refine ⟨⟨⟨⟨by simp, by simp⟩, ?_⟩, by decide⟩, by decide⟩
  intro h0
  simp only [List.mem_cons, List.not_mem_nil, or_false] at h0
  omega
theorem symM_byt {i : Nat} (h : i < 8000) : Byt (symM i).1 := by
  intro x hx
  simp only [symM, List.mem_cons, List.not_mem_nil, or_false] at hx
  omega
theorem symM_ne {i j : Nat} (h : i ≠ j) : (symM i).1 ≠ (symM j).1 := by
  intro e
  simp only [symM, List.cons.injEq, and_true] at e
  omega
theorem manyD_apart (k : Nat) : (manyD k).Pairwise fun a b => a.1 ≠ b.1 := by
  refine List.pairwise_iff_getElem.2 fun i j hi hj hij => ?_
  have h1 := manyD_at (m := k) (i := i) (by rw [manyD_len] at hi; exact hi)
  have h2 := manyD_at (m := k) (i := j) (by rw [manyD_len] at hj; exact hj)
  rw [List.getElem?_eq_getElem hi] at h1
  rw [List.getElem?_eq_getElem hj] at h2
  injection h1 with h1
  injection h2 with h2
  rw [h1, h2]
  exact symM_ne (by omega)
theorem manyD_mem {k : Nat} {y : Sym} (h : y ∈ manyD k) : ∃ i, i < k ∧ y = symM i := by
  unfold manyD at h
  obtain ⟨i, hi, rfl⟩ := List.mem_map.1 h
  exact ⟨i, List.mem_range.1 hi, rfl⟩
theorem nmM_len (k : Nat) : (nmB (manyD k)).length = 1 + 3 * k := by
  induction k with
  | zero => rfl
  | succ k ih =>
    have := nmB_take (manyD_at (m := k + 1) (i := k) (by omega))
    rw [manyD_take (Nat.le_refl _), manyD_take (by omega)] at this
    rw [this, List.length_append, ih]
    simp [symM]
    omega
theorem many_err {m : Nat} (h : m ≤ 5000) : mkErr (manyD m) = if 4096 < m then 11 else 0 := by
  have h1 : mayAll (manyD m) = true := by
    unfold mayAll
    rw [List.all_eq_true]
    intro y hy
    obtain ⟨i, hi, rfl⟩ := manyD_mem hy
    exact symM_may (by omega)
  have h2 : twB (manyD m) = false := by
    unfold twB
    rw [Bool.not_eq_false', decide_eq_true_eq]
    exact List.pairwise_map.2 (manyD_apart m)
  unfold mkErr
  rw [if_neg (by rw [h1]; decide), manyD_len, nmM_len, h2]
  by_cases h4 : 4096 < m
  · rw [if_pos (.inl h4), if_pos h4]
  · rw [if_neg (fun e => e.elim h4 (fun e => by omega)), if_neg h4]
    rfl
/-- So many entries are gone over as they were made. -/
theorem many_run {m : Nat} (T : List Int) (top : Nat) (hT : ∀ k, k < top → k < T.length / 16 ∧ entAt T k = entS ((nmB (manyD k)).length : Int) (symM k).2) (ht : top ≤ m ∧ top ≤ 4096) (N : Syms) (hN : nmB N = nmB (manyD m)) :
    nlRun (nmB N) 0 (ents T) [] = nlRun (nmB N) 0 ((ents T).drop top) (manyD top) := by
  rw [hN]
  have key : ∀ j k, k + j = top → nlRun (nmB (manyD m)) 0 ((ents T).drop k) (manyD k) = nlRun (nmB (manyD m)) 0 ((ents T).drop top) (manyD top) := by
    intro j
    induction j with
    | zero => intro k hk; obtain rfl : k = top := (by omega); rfl
    | succ j ih =>
      intro k hk
      obtain ⟨h1, h2⟩ := hT k (by omega)
      have hy := manyD_at (m := m) (i := k) (by omega)
      have hp := nmM_len k
      obtain ⟨e1, e2⟩ := made_next (l := manyD m) (n := 0) hy (symM_may (by omega)) (Int.le_refl _) (by constructor <;> (simp only [symM]; omega)) (by omega) (manyD_apart m) (by rw [manyD_take (by omega), hp]; omega)
      rw [manyD_take (show k ≤ m by omega), manyD_take (show k + 1 ≤ m by omega)] at e2
      rw [manyD_take (show k ≤ m by omega)] at e1
      rw [ents_at T h1, nlRun_cons, h2, e1, if_pos rfl, e2]
      exact ih (k + 1) (by omega)
  have := key top 0 (by omega)
  rw [List.drop_zero] at this
  exact this
theorem many_all {m : Nat} (h : m ≤ 5000) : nlAll (tabS (manyD m) m) (nmB (manyD m)) 0 = if 4096 < m then (11, []) else (0, manyD m) := by
  have hL := tabS_len (manyD m) m
  have hT : ∀ k, k < m → k < (tabS (manyD m) m).length / 16 ∧ entAt (tabS (manyD m) m) k = entS ((nmB (manyD k)).length : Int) (symM k).2 := by
    intro k hk
    refine ⟨by rw [hL]; omega, ?_⟩
    rw [ent_at _ hk, manyD_take (by omega), List.getD_eq_getElem?_getD, manyD_at hk]
    rfl
  unfold nlAll
  rw [if_pos (by rw [hL]; omega)]
  by_cases h4 : 4096 < m
  · rw [if_pos h4, many_run _ 4096 (fun k hk => hT k (by omega)) ⟨by omega, Nat.le_refl _⟩ _ rfl]
    have hy := manyD_at (m := m) (i := 4096) h4
    obtain ⟨p1, p2, p3, p4⟩ := made_parts (n := 0) hy (symM_may (by omega)) (Int.le_refl _) (by constructor <;> (simp only [symM]; omega)) (by rw [manyD_take (by omega), nmM_len]; omega)
    have hn := made_new hy (manyD_apart m)
    rw [manyD_take (show 4096 ≤ m by omega)] at p1 p2 p3 p4 hn
    rw [ents_at _ (by rw [hL]; omega), nlRun_cons, ent_at _ h4, manyD_take (show 4096 ≤ m by omega), List.getD_eq_getElem?_getD, hy]
    simp only [Option.getD_some]
    have : nlE (nmB (manyD m)) 0 (manyD 4096) (entS ((nmB (manyD 4096)).length : Int) (symM 4096).2) = 11 := by
      unfold nlE
      rw [p1, if_pos rfl]
      unfold nlAdd
      rw [p2, p3, if_neg (by decide), if_neg hn, if_pos (manyD_len _)]
    rw [this]
    rfl
  · rw [if_neg h4, many_run _ m hT ⟨Nat.le_refl _, by omega⟩ _ rfl]
    have : (ents (tabS (manyD m) m)).drop m = [] := by
      refine List.drop_eq_nil_of_le ?_
      rw [ents_len, hL]
      omega
    rw [this, nlRun]
/-- The last entry tells a name that is there, or its own. -/
theorem many_twice {m : Nat} (h : 0 < m ∧ m ≤ 4096) {t : Nat} (ht : t < m) : (nlAll (tabS (manyD m) (m - 1) ++ entS (((1 + 3 * t : Nat)) : Int) ⟨0, 0, false⟩) (nmB (manyD m)) 0).1 = if t < m - 1 then 21 else 0 := by
  have hL := tabS_len (manyD m) (m - 1)
  obtain ⟨T, hTe⟩ : ∃ T, T = tabS (manyD m) (m - 1) ++ entS (((1 + 3 * t : Nat)) : Int) ⟨0, 0, false⟩ := ⟨_, rfl⟩
  have hTl : T.length = 16 * m := by rw [hTe, List.length_append, hL, entS_len]; omega
  have hT : ∀ k, k < m - 1 → k < T.length / 16 ∧ entAt T k = entS ((nmB (manyD k)).length : Int) (symM k).2 := by
    intro k hk
    refine ⟨by rw [hTl]; omega, ?_⟩
    have e : entAt T k = entAt (tabS (manyD m) (m - 1)) k := by
      unfold entAt
      rw [hTe, List.drop_append_of_le_length (by rw [hL]; omega), List.take_append_of_le_length (by rw [List.length_drop, hL]; omega)]
    rw [e, ent_at _ hk, manyD_take (by omega), List.getD_eq_getElem?_getD, manyD_at (by omega)]
    rfl
  have hlast : entAt T (m - 1) = entS (((1 + 3 * t : Nat)) : Int) ⟨0, 0, false⟩ := by
    unfold entAt
    rw [hTe, List.drop_append_of_le_length (by rw [hL]; omega), List.drop_eq_nil_of_le (by rw [hL]; omega), List.nil_append, List.take_of_length_le (by rw [entS_len]; omega)]
  have hy := manyD_at (m := m) (i := t) ht
  have htt := manyD_take (show t ≤ m by omega)
  have hpl : ((nmB ((manyD m).take t)).length : Int) = ((1 + 3 * t : Nat) : Int) := by rw [htt, nmM_len]
  have hmay : mayS (symM t).1 (⟨0, 0, false⟩ : Sy) = true := symM_may (i := t) (by omega)
  obtain ⟨p1, p2, p3, p4⟩ := made_parts (n := 0) hy hmay (Int.le_refl _) (by constructor <;> decide) (by rw [htt, nmM_len]; omega)
  rw [hpl] at p1 p2 p3 p4
  have hH : nlHas (manyD (m - 1)) (symM t).1 = decide (t < m - 1) := by
    rw [Bool.eq_iff_iff, nlHas_mem, decide_eq_true_eq]
    constructor
    · rintro ⟨y, hm, e⟩
      obtain ⟨i, hi, rfl⟩ := manyD_mem hm
      by_cases hit : i = t
      · omega
      · exact absurd e (symM_ne hit)
    · intro hlt
      exact ⟨symM t, List.mem_of_getElem? (manyD_at hlt), rfl⟩
  have hE : nlE (nmB (manyD m)) 0 (manyD (m - 1)) (entS ((1 + 3 * t : Nat) : Int) ⟨0, 0, false⟩) = if t < m - 1 then 21 else 0 := by
    unfold nlE
    rw [p1, if_pos rfl]
    unfold nlAdd
    rw [p2, p3, if_neg (by decide), hH]
    by_cases hlt : t < m - 1
    · rw [if_pos (decide_eq_true hlt), if_pos hlt]
    · rw [if_neg (by simpa using hlt), if_neg hlt, if_neg (by rw [manyD_len]; omega)]
  rw [← hTe]
  unfold nlAll
  rw [if_pos (by rw [hTl]; omega), many_run (m := m) T (m - 1) hT ⟨by omega, by omega⟩ _ rfl, ents_at T (by rw [hTl]; omega), nlRun_cons, hlast, hE]
  have hend : (ents T).drop (m - 1 + 1) = [] := by
    refine List.drop_eq_nil_of_le ?_
    rw [ents_len, hTl]
    omega
  by_cases hlt : t < m - 1
  · rw [if_pos hlt, if_neg (by decide)]
  · rw [if_neg hlt, if_pos rfl, hend, nlRun]
end Go.Proofs.Ytlmgkofbjcahaaa
