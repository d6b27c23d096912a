/- Noughts appended to bytes of the call's own (append of a make). No condition but that they are at most 2^47. -/
import Derived.Test.YtmffpnhdnaokhaaDoorMark
import Derived.Lib.AppendZerosOnto
namespace Go.Proofs.YtmffpnhdnaokhaaDoor
open Go.RowKit
variable {w w' : World} {base : Nat}

theorem run_zeros_room {g n cap : Nat} {xs : List Int} (h : OwnM w base g n cap xs) (k : Nat) (hroom : n + k ≤ cap) (h63 : n + k ≤ 140737488355328) :
    (Builtin.append_ #[69, 23] 69 #[.slice (some ⟨g, 0, none⟩) n cap, .int .u64 k]).run Tryd.prog w = .ok (.slice (some ⟨g, 0, none⟩) (n + k) cap) (w.setCells g n (List.replicate k (.int .u8 0))) := by
  obtain ⟨i, hi, hz0, hz1, hz2⟩ := info_parts info_u8
  have hst := run_storeCells_cells (P := Tryd.prog) g n (List.replicate k (Value.int .u8 0)) 0 w (fun j hj => h.there _ (by simp at hj; omega)) (fun j hj => h.free _ (by simp at hj; omega)) (fun u hu => by rw [List.eq_of_mem_replicate hu]; rfl)
  have hw : IntKind.i64.wrap (k : Int) = k := by rw [IntKind.wrap_i64]; omega
  have hneg : ¬ ((k : Int) < 0) := by omega
  have h48i : ¬ (281474976710656 < (k : Int)) := by omega
  simp only [Nat.add_zero] at hst
  simp [Builtin.append_, run_underlying Tryd.underlying69, run_underlying Tryd.underlying23, sizeOf, typeInfo, zeroValue, hi, hz0, hz1, hz2, asInt, asIntOf, hw, hneg, hroom, h48i]
  have hzc : (Builtin.zeroCells (Value.int .u8 0).cells k).toList = List.replicate k (Value.int .u8 0) := by
    apply List.ext_getElem?
    intro j
    by_cases hj : j < k
    · simp [Builtin.zeroCells, Value.cells, hj, Nat.mod_one]
    · simp [Builtin.zeroCells, Value.cells, hj]
  rw [hzc, add_flat, Nat.zero_add, hst]
  by_cases hk : k = 0
  · subst hk
    rw [if_pos rfl]
    rfl
  · rw [if_neg hk]
    rfl

theorem ownM_room {g n cap : Nat} {xs : List Int} (h : OwnM w base g n cap xs) (news : List Int) (hroom : n + news.length ≤ cap) : OwnM (w.setCells g n (news.map (Value.int .u8))) base g (n + news.length) cap (xs ++ news) := by
  have hin : ∀ j, j < (news.map (Value.int .u8)).length → (w.cell? ⟨g, n + j, none⟩).isSome = true := fun j hj => h.there _ (by simp at hj; omega)
  have hcin := World.cell?_setCells_in g (news.map (Value.int .u8)) n w hin
  have hsz := (grown_setCells (news.map (Value.int .u8)) n w (grown_refl w (some g))).size
  refine ⟨h.lo, Nat.lt_of_lt_of_le h.lt hsz, hroom, by rw [List.length_append, h.len], h.most, fun j hj => ?_, fun j hj => by rw [World.frozen?_setCells]; exact h.free j hj, fun j hj => ?_⟩
  · by_cases h1 : j < n ∨ n + news.length ≤ j
    · rw [World.cell?_setCells_out g _ n w ⟨g, j, none⟩ (fun _ _ => by simpa using h1)]
      exact h.there j hj
    · have := hcin (j - n) (by simp; omega)
      rw [show n + (j - n) = j by omega] at this
      rw [this]; rfl
  · by_cases h1 : j < n
    · rw [World.cell?_setCells_out g _ n w ⟨g, j, none⟩ (fun _ _ => .inl h1), h.cell j h1]
      rw [List.getD_eq_getElem?_getD, List.getD_eq_getElem?_getD, List.getElem?_append_left (by rw [h.len]; exact h1)]
    · have := hcin (j - n) (by simp; omega)
      rw [show n + (j - n) = j by omega] at this
      rw [this, List.getD_eq_getElem?_getD, List.getElem?_append_right (by rw [h.len]; omega), h.len, List.getElem?_eq_getElem (show j - n < news.length by omega)]
      simp

theorem zeroCells_at (k j : Nat) (hj : j < k) : (Builtin.zeroCells (Value.int .u8 0).cells k)[j]? = some (.int .u8 0) := by
  simp [Builtin.zeroCells, Value.cells, hj, Nat.mod_one]
theorem run_zerosM {g n cap : Nat} {xs : List Int} (h : OwnM w base g n cap xs) (k : Nat) (h63 : n + k ≤ 140737488355328) :
    ∃ g' cap' w', (Builtin.append_ #[69, 23] 69 #[.slice (some ⟨g, 0, none⟩) n cap, .int .u64 k]).run Tryd.prog w = .ok (.slice (some ⟨g', 0, none⟩) (n + k) cap') w' ∧
      OwnM w' base g' (n + k) cap' (xs ++ List.replicate k 0) ∧ w.grownBy w' (some g) ∧ (g' = g ∨ g' = w.heap.size) := by
  by_cases hroom : n + k ≤ cap
  · refine ⟨g, cap, _, run_zeros_room h k hroom h63, ?_, grown_setCells _ _ _ (grown_refl _ _), .inl rfl⟩
    have := ownM_room h (List.replicate k 0) (by simpa using hroom)
    simpa using this
  · obtain ⟨i, hi, hz0, hz1, hz2⟩ := info_parts info_u8
    have hold : (Builtin.firstCells i.size n (.slice (some ⟨g, 0, none⟩) n cap)).run Tryd.prog w.drew = .ok (xs.map (Value.int .u8)).toArray w.drew := by
      rw [hz1]
      refine run_firstCells_some w.drew 1 n ⟨g, 0, none⟩ n cap (xs.map (Value.int .u8)) (by simp [h.len]) (fun j u hu => ?_)
      have hj : j < n := by
        rcases Nat.lt_or_ge j n with h1 | h1
        · exact h1
        · simp [h.len, h1] at hu
      rw [add_flat, Nat.zero_add]
      show w.cell? ⟨g, j, none⟩ = some u
      rw [h.cell j hj]
      simp [show j < xs.length by rw [h.len]; exact hj] at hu ⊢
      exact hu
    have hle0 := h.le
    have hr := Lib.run_append_grow_zeros w 69 23 69 5 i (.int .u8 0) .u64 .u64 Tryd.underlying69 Tryd.underlying23 hi hz0 (some ⟨g, 0, none⟩) n cap (xs.map (Value.int .u8)) hold k (by omega) (by omega) (by omega) (by omega) (by rw [hz2]; omega)
      (growslice_fits (by omega) (by rw [hz2]; omega))
    obtain ⟨cap', hcap⟩ : ∃ z, z = grownCap w (n + k) cap 5 := ⟨_, rfl⟩
    rw [← hcap] at hr
    have hge : n + k ≤ cap' := by rw [hcap]; exact grownCap_ge w _ _ _
    have hle : cap' ≤ maxLen := by rw [hcap]; exact grownCap_le_maxLen w _ _ _ (by unfold maxLen; omega)
    refine ⟨w.heap.size, cap', _, hr, ?_, grown_any (grown_alloc (grown_drewN (grown_refl w none) 1) _) _, .inr rfl⟩
    obtain ⟨C, hC⟩ : ∃ C, C = (xs.map (Value.int .u8)).toArray ++ Builtin.zeroCells (Value.int .u8 0).cells k ++ Builtin.zeroCells (Value.int .u8 0).cells (cap' - (n + k)) := ⟨_, rfl⟩
    have hsize : C.size = cap' := by
      rw [hC]
      simp [size_zeroCells, Value.cells, h.len]; omega
    have hcell : ∀ j, j < n + k → C[j]? = some (.int .u8 ((xs ++ List.replicate k 0).getD j 0)) := fun j hj => by
      rw [hC, Array.getElem?_append_left (by simp [size_zeroCells, Value.cells, h.len]; omega)]
      by_cases h1 : j < n
      · rw [Array.getElem?_append_left (by simp [h.len]; exact h1), List.getD_eq_getElem?_getD, List.getElem?_append_left (by rw [h.len]; exact h1)]
        simp [show j < xs.length by rw [h.len]; exact h1]
      · rw [Array.getElem?_append_right (by simp [h.len]; omega), List.getD_eq_getElem?_getD, List.getElem?_append_right (by rw [h.len]; omega)]
        rw [zeroCells_at _ _ (by simp [h.len]; omega), List.getElem?_replicate, if_pos (by rw [h.len]; omega)]
        rfl
    rw [← hC]
    have hnew : (w.drew.alloc (.cells C 5)).heap[w.heap.size]? = some (.cells C 5 (0, 0)) := heap_alloc_new w.drew _
    exact ⟨Nat.le_trans h.lo (Nat.le_of_lt h.lt), lt_of_block hnew, hge, by simp [h.len], hle, fun j hj => by rw [cell_of hnew, Array.getElem?_eq_getElem (by rw [hsize]; exact hj)]; rfl, fun j _ => free_of hnew, fun j hj => by rw [cell_of hnew]; exact hcell j hj⟩

/-- The operation, for the walk. -/
theorem wp_zerosM {ops : Array Oper} {rest : List Oper} {o : Oper} {a : Act} {Q : Exit → Act → World → Prop} (hgd : o.guard = none) (s x : Operand)
    (ho : o.op = .call { callee := .builtin .append, args := #[s, x], argTypes := #[69, 23] }) (hty : o.type = 69)
    {g n cap : Nat} {xs : List Int} (hs : a.eval s = .slice (some ⟨g, 0, none⟩) n cap) (hown : OwnM w base g n cap xs) (k : Nat) {z : Int} (hz : z = k) (hx : a.eval x = .int .u64 z) (h63 : n + k ≤ 140737488355328)
    (h : ∀ g' cap' w', OwnM w' base g' (n + k) cap' (xs ++ List.replicate k 0) → w.grownBy w' (some g) → (g' = g ∨ g' = w.heap.size) → wpList Tryd.prog ops Q rest (a.put o.dst (.slice (some ⟨g', 0, none⟩) (n + k) cap')) w') : wpList Tryd.prog ops Q (o :: rest) a w := by
  subst hz
  obtain ⟨g', cap', w', hr, h1, h2, h3⟩ := run_zerosM hown k h63
  exact Lib.wpList_append_run w hgd s x _ _ ho _ _ hs hx _ _ (by rw [hty]; exact hr) (h g' cap' w' h1 h2 h3)
end Go.Proofs.YtmffpnhdnaokhaaDoor
