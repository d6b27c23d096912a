import Derived.Test.YtemdbfgpimfkdaaM3
import Derived.Deep.AppendSrc
import Derived.Deep.Upon
import Derived.Lib.AppendZeros
import Derived.Laws.IdiomStrings
import Derived.Lib.AppendZerosOnto
import Derived.Test.YtemdbfgpimfkdaaM2
import Derived.Laws.StructEq
import Derived.Below
import Derived.Shelf.Abstract
import Derived.Laws.ResultCell
import Derived.Deep.Slices
import Derived.ChangeSame
import Derived.Laws.OwnMore
/- Bytes of the call's own, whatever mark their row bears (a text's bytes bear one behind their last cell): bytes appended to them. No condition but that they are at most 2^47. -/
namespace Go.Proofs.Ytemdbfgpimfkdaa
open Go.RowKit
variable {w w' : World} {base : Nat}

/-- A row of the call's own: its first n bytes; none of its cells is frozen. -/
structure OwnM (w : World) (base g n cap : Nat) (xs : List Int) : Prop where
  lo : base ≤ g
  lt : g < w.heap.size
  le : n ≤ cap
  len : xs.length = n
  most : cap ≤ maxLen
  there : ∀ j, j < cap → (w.cell? ⟨g, j, none⟩).isSome = true
  free : ∀ j, j < cap → w.frozen? ⟨g, j, none⟩ = false
  cell : ∀ j, j < n → w.cell? ⟨g, j, none⟩ = some (.int .u8 (xs.getD j 0))
theorem OwnM.kept {g n cap : Nat} {xs : List Int} {row : Option Nat} (h : OwnM w base g n cap xs) (hg : w.grownBy w' row) (hr : row ≠ some g) : OwnM w' base g n cap xs := by
  have hb : w'.heap[g]? = w.heap[g]? := hg.block g h.lt (fun e => hr e.symm)
  have hc : ∀ j, w'.cell? ⟨g, j, none⟩ = w.cell? ⟨g, j, none⟩ := fun j => World.cell?_of_block (a := ⟨g, j, none⟩) hb
  exact ⟨h.lo, Nat.lt_of_lt_of_le h.lt hg.size, h.le, h.len, h.most, fun j hj => by rw [hc]; exact h.there j hj, fun j hj => (World.frozen?_of_block (a := ⟨g, j, none⟩) hb).trans (h.free j hj), fun j hj => by rw [hc]; exact h.cell j hj⟩
theorem OwnM.grown {g n cap : Nat} {xs : List Int} (h : OwnM w base g n cap xs) (hg : w.grownBy w' none) : OwnM w' base g n cap xs := h.kept hg (by simp)
theorem OwnM.bytes {g n cap : Nat} {xs : List Int} (h : OwnM w base g n cap xs) (c : Nat) : IsBytes w (some ⟨g, 0, none⟩) c xs :=
  IsBytes.mk_at fun i hi => by rw [Nat.zero_add]; exact h.cell i (by rw [← h.len]; exact hi)

theorem grown_setCells {g : Nat} {w0 : World} : ∀ (vs : List Value) (o : Nat) (w : World), w0.grownBy w (some g) → w0.grownBy (w.setCells g o vs) (some g)
  | [], _, _, h => h
  | v :: r, o, _, h => grown_setCells r (o + 1) _ (grown_setCell (i := o) h v)

theorem run_appendM {g n cap : Nat} {xs : List Int} (h : OwnM w base g n cap xs) (news : List Int) (m : Nat) (hm : news.length = m) (q : Option Addr) (c : Nat) (hb : IsBytes w q c news) (h63 : n + m ≤ 140737488355328) :
    ∃ g' cap' w', (Builtin.append_ #[22, 22] 22 #[.slice (some ⟨g, 0, none⟩) n cap, .slice q m c]).run Try.prog w = .ok (.slice (some ⟨g', 0, none⟩) (n + m) cap') w' ∧
      OwnM w' base g' (n + m) cap' (xs ++ news) ∧ w.grownBy w' (some g) ∧ (g' = g ∨ g' = w.heap.size) := by
  subst hm
  obtain ⟨i, hi, hz0, hz1, hz2⟩ := info_parts info_u8
  have src : Src Try.prog i.size 22 (.slice q news.length c) news.length (news.map (Value.int .u8)) w := by
    rw [hz1]
    rcases hb.ways with ⟨rfl, rfl, rfl⟩ | ⟨x, rfl, hc⟩
    · exact Src.ofNil w Try.underlying22 0
    · refine Src.ofSlice w Try.underlying22 x news.length c _ (by simp) (fun j u hu => ?_) (fun u hu => ?_)
      · have hj : j < news.length := by
          rcases Nat.lt_or_ge j news.length with h | h
          · exact h
          · simp [h] at hu
        rw [hc j hj]
        simp [hj] at hu ⊢
        exact hu
      · obtain ⟨y, _, rfl⟩ := List.mem_map.1 hu
        rfl
  by_cases hroom : n + news.length ≤ cap
  · refine ⟨g, cap, w.setCells g n (news.map (Value.int .u8)), ?_, ?_, ?_, .inl rfl⟩
    · have hr := run_append_room_src w 22 22 22 5 i Try.underlying22 hi g 0 n cap _ news.length _ src hroom
        (fun j hj => h.there _ (by rw [hz1]; simp at hj; omega)) (fun j hj => h.free _ (by rw [hz1]; simp at hj; omega))
      rw [hz1, Nat.zero_add, Nat.mul_one] at hr
      exact hr
    · have hin : ∀ j, j < (news.map (Value.int .u8)).length → (w.cell? ⟨g, n + j, none⟩).isSome = true := fun j hj => h.there _ (by simp at hj; omega)
      have hcin := World.cell?_setCells_in g (news.map (Value.int .u8)) n w hin
      have hsz := (grown_setCells (news.map (Value.int .u8)) n w (grown_refl w (some g))).size
      refine ⟨h.lo, Nat.lt_of_lt_of_le h.lt hsz, hroom, by rw [List.length_append, h.len], h.most, fun j hj => ?_, fun j hj => by rw [World.frozen?_setCells]; exact h.free j hj, fun j hj => ?_⟩
      · by_cases h1 : j < n ∨ n + news.length ≤ j
        · rw [World.cell?_setCells_out g _ n w ⟨g, j, none⟩ (fun _ _ => by simpa using h1)]
          exact h.there j hj
        · have := hcin (j - n) (by simp; omega)
          rw [show n + (j - n) = j by omega] at this
          rw [this]; rfl
      · by_cases h1 : j < n
        · rw [World.cell?_setCells_out g _ n w ⟨g, j, none⟩ (fun _ _ => .inl h1), h.cell j h1]
          rw [List.getD_eq_getElem?_getD, List.getD_eq_getElem?_getD, List.getElem?_append_left (by rw [h.len]; exact h1)]
        · have := hcin (j - n) (by simp; omega)
          rw [show n + (j - n) = j by omega] at this
          rw [this, List.getD_eq_getElem?_getD, List.getElem?_append_right (by rw [h.len]; omega), h.len, List.getElem?_eq_getElem (show j - n < news.length by omega)]
          simp
    · exact grown_setCells _ _ _ (grown_refl _ _)
  · have hold : (Builtin.firstCells i.size n (.slice (some ⟨g, 0, none⟩) n cap)).run Try.prog w.drew = .ok (xs.map (Value.int .u8)).toArray w.drew := by
      rw [hz1]
      refine run_firstCells_some w.drew 1 n ⟨g, 0, none⟩ n cap (xs.map (Value.int .u8)) (by simp [h.len]) (fun j u hu => ?_)
      have hj : j < n := by
        rcases Nat.lt_or_ge j n with h1 | h1
        · exact h1
        · simp [h.len, h1] at hu
      rw [add_flat, Nat.zero_add]
      show w.cell? ⟨g, j, none⟩ = some u
      rw [h.cell j hj]
      simp [show j < xs.length by rw [h.len]; exact hj] at hu ⊢
      exact hu
    have hr := run_append_grow_src w 22 22 22 5 i (.int .u8 0) Try.underlying22 hi hz0 (some ⟨g, 0, none⟩) n cap (xs.map (Value.int .u8)) hold _ news.length _ src (by omega) (by omega)
      (growslice_fits (by omega) (by rw [hz2]; omega))
    obtain ⟨cap', hcap⟩ : ∃ z, z = grownCap w (n + news.length) cap 5 := ⟨_, rfl⟩
    rw [← hcap] at hr
    have hge : n + news.length ≤ cap' := by rw [hcap]; exact grownCap_ge w _ _ _
    have hle : cap' ≤ maxLen := by rw [hcap]; exact grownCap_le_maxLen w _ _ _ (by unfold maxLen; omega)
    refine ⟨w.heap.size, cap', _, hr, ?_, ?_, .inr rfl⟩
    · have hnew : (w.drew.alloc (.cells ((xs.map (Value.int .u8) ++ news.map (Value.int .u8)).toArray ++ Builtin.zeroCells (Value.int .u8 0).cells (cap' - (n + news.length))) 5)).heap[w.heap.size]? = some (.cells ((xs.map (Value.int .u8) ++ news.map (Value.int .u8)).toArray ++ Builtin.zeroCells (Value.int .u8 0).cells (cap' - (n + news.length))) 5 (0, 0)) := heap_alloc_new w.drew _
      have hsize : ((xs.map (Value.int .u8) ++ news.map (Value.int .u8)).toArray ++ Builtin.zeroCells (Value.int .u8 0).cells (cap' - (n + news.length))).size = cap' := by
        simp [size_zeroCells, Value.cells, h.len]; omega
      refine ⟨Nat.le_trans h.lo (Nat.le_of_lt h.lt), lt_of_block hnew, hge, by rw [List.length_append, h.len], hle, fun j hj => ?_, fun j _ => free_of hnew, fun j hj => ?_⟩
      · rw [cell_of hnew, Array.getElem?_eq_getElem (by rw [hsize]; exact hj)]; rfl
      · rw [cell_of hnew, Array.getElem?_append_left (by simp [h.len]; omega)]
        rw [← List.map_append, List.getElem?_toArray, List.getElem?_map, List.getD_eq_getElem?_getD, List.getElem?_eq_getElem (show j < (xs ++ news).length by rw [List.length_append, h.len]; exact hj)]
        rfl
    · exact grown_any (grown_alloc (grown_drewN (grown_refl w none) 1) _) _

/-- The operation, for the walk. -/
theorem wp_appendM {ops : Array Oper} {rest : List Oper} {o : Oper} {a : Act} {Q : Exit → Act → World → Prop} (hgd : o.guard = none) (s x : Operand)
    (ho : o.op = .call { callee := .builtin .append, args := #[s, x], argTypes := #[22, 22] }) (hty : o.type = 22)
    {g n cap : Nat} {xs : List Int} (hs : a.eval s = .slice (some ⟨g, 0, none⟩) n cap) (hown : OwnM w base g n cap xs)
    (news : List Int) (m : Nat) (hm : news.length = m) {q : Option Addr} {c : Nat} (hx : a.eval x = .slice q m c) (hb : IsBytes w q c news) (h63 : n + m ≤ 140737488355328)
    (h : ∀ g' cap' w', OwnM w' base g' (n + m) cap' (xs ++ news) → w.grownBy w' (some g) → (g' = g ∨ g' = w.heap.size) → wpList Try.prog ops Q rest (a.put o.dst (.slice (some ⟨g', 0, none⟩) (n + m) cap')) w') : wpList Try.prog ops Q (o :: rest) a w := by
  obtain ⟨g', cap', w', hr, h1, h2, h3⟩ := run_appendM hown news m hm q c hb h63
  exact Lib.wpList_append_run w hgd s x _ _ ho _ _ hs hx _ _ (by rw [hty]; exact hr) (h g' cap' w' h1 h2 h3)

/-- A text's bytes are such a row. -/
theorem ownM_text (s : ByteArray) (xs : List Int) (hx : s.data.toList.map (fun b => (b.toNat : Int)) = xs) (hs : s.size ≤ 1000) :
    ∃ cap w', (convert 9 22 (.string s)).run Try.prog w = .ok (.slice (some ⟨w.heap.size, 0, none⟩) s.size cap) w' ∧ OwnM w' w.heap.size w.heap.size s.size cap xs ∧ w.grownBy w' none := by
  have hr := run_bytes_of_string (P := Try.prog) w 9 22 5 s Try.underlying9 Try.underlying22 Try.underlying5
  refine ⟨_, _, hr, ?_, grown_alloc (grown_drewN (grown_refl w none) 1) _⟩
  obtain ⟨cap, hcap⟩ : ∃ z, z = grownCap w s.size 0 5 := ⟨_, rfl⟩
  rw [← hcap]
  have hge : s.size ≤ cap := by rw [hcap]; exact grownCap_ge w _ _ _
  have hle : cap ≤ maxLen := by rw [hcap]; exact grownCap_le_maxLen w _ _ _ (by unfold maxLen; omega)
  have hsd : s.data.size = s.size := rfl
  have hsz : (bytesRow s cap).size = cap := by unfold bytesRow; simp; omega
  have hnew : (w.drew.alloc (.cells (bytesRow s cap) 5 ((bytesRow s cap).size, (bytesRow s cap).size + 1))).heap[w.heap.size]? = some (.cells (bytesRow s cap) 5 ((bytesRow s cap).size, (bytesRow s cap).size + 1)) := heap_alloc_new w.drew _
  refine ⟨Nat.le_refl _, lt_of_block hnew, hge, by rw [← hx]; simp [hsd], hle, fun j hj => ?_, fun j hj => ?_, fun j hj => ?_⟩
  · rw [cell_of_row _ _ _ _ _ _ hnew, Array.getElem?_eq_getElem (by rw [hsz]; exact hj)]; rfl
  · rw [hsz] at hnew ⊢
    simp only [World.frozen?, hnew]
    simp; omega
  · rw [cell_of_row _ _ _ _ _ _ hnew]
    unfold bytesRow
    rw [Array.getElem?_append_left (by simp [hsd]; exact hj), Array.getElem?_map, Array.getElem?_eq_getElem (by rw [hsd]; exact hj), ← hx]
    simp [List.getD, hsd, hj]
end Go.Proofs.Ytemdbfgpimfkdaa

/- Noughts appended to bytes of the call's own (append of a make). No condition but that they are at most 2^47. -/
namespace Go.Proofs.Ytemdbfgpimfkdaa
open Go.RowKit
variable {w w' : World} {base : Nat}

theorem run_zeros_room {g n cap : Nat} {xs : List Int} (h : OwnM w base g n cap xs) (k : Nat) (hroom : n + k ≤ cap) (h63 : n + k ≤ 140737488355328) :
    (Builtin.append_ #[22, 28] 22 #[.slice (some ⟨g, 0, none⟩) n cap, .int .u64 k]).run Try.prog w = .ok (.slice (some ⟨g, 0, none⟩) (n + k) cap) (w.setCells g n (List.replicate k (.int .u8 0))) := by
  obtain ⟨i, hi, hz0, hz1, hz2⟩ := info_parts info_u8
  have hst := run_storeCells_cells (P := Try.prog) g n (List.replicate k (Value.int .u8 0)) 0 w (fun j hj => h.there _ (by simp at hj; omega)) (fun j hj => h.free _ (by simp at hj; omega)) (fun u hu => by rw [List.eq_of_mem_replicate hu]; rfl)
  have hw : IntKind.i64.wrap (k : Int) = k := by rw [IntKind.wrap_i64]; omega
  have hneg : ¬ ((k : Int) < 0) := by omega
  have h48i : ¬ (281474976710656 < (k : Int)) := by omega
  simp only [Nat.add_zero] at hst
  simp [Builtin.append_, run_underlying Try.underlying22, run_underlying Try.underlying28, sizeOf, typeInfo, zeroValue, hi, hz0, hz1, hz2, asInt, asIntOf, hw, hneg, hroom, h48i]
  have hzc : (Builtin.zeroCells (Value.int .u8 0).cells k).toList = List.replicate k (Value.int .u8 0) := by
    apply List.ext_getElem?
    intro j
    by_cases hj : j < k
    · simp [Builtin.zeroCells, Value.cells, hj, Nat.mod_one]
    · simp [Builtin.zeroCells, Value.cells, hj]
  rw [hzc, add_flat, Nat.zero_add, hst]
  by_cases hk : k = 0
  · subst hk
    rw [if_pos rfl]
    rfl
  · rw [if_neg hk]
    rfl

theorem ownM_room {g n cap : Nat} {xs : List Int} (h : OwnM w base g n cap xs) (news : List Int) (hroom : n + news.length ≤ cap) : OwnM (w.setCells g n (news.map (Value.int .u8))) base g (n + news.length) cap (xs ++ news) := by
  have hin : ∀ j, j < (news.map (Value.int .u8)).length → (w.cell? ⟨g, n + j, none⟩).isSome = true := fun j hj => h.there _ (by simp at hj; omega)
  have hcin := World.cell?_setCells_in g (news.map (Value.int .u8)) n w hin
  have hsz := (grown_setCells (news.map (Value.int .u8)) n w (grown_refl w (some g))).size
  refine ⟨h.lo, Nat.lt_of_lt_of_le h.lt hsz, hroom, by rw [List.length_append, h.len], h.most, fun j hj => ?_, fun j hj => by rw [World.frozen?_setCells]; exact h.free j hj, fun j hj => ?_⟩
  · by_cases h1 : j < n ∨ n + news.length ≤ j
    · rw [World.cell?_setCells_out g _ n w ⟨g, j, none⟩ (fun _ _ => by simpa using h1)]
      exact h.there j hj
    · have := hcin (j - n) (by simp; omega)
      rw [show n + (j - n) = j by omega] at this
      rw [this]; rfl
  · by_cases h1 : j < n
    · rw [World.cell?_setCells_out g _ n w ⟨g, j, none⟩ (fun _ _ => .inl h1), h.cell j h1]
      rw [List.getD_eq_getElem?_getD, List.getD_eq_getElem?_getD, List.getElem?_append_left (by rw [h.len]; exact h1)]
    · have := hcin (j - n) (by simp; omega)
      rw [show n + (j - n) = j by omega] at this
      rw [this, List.getD_eq_getElem?_getD, List.getElem?_append_right (by rw [h.len]; omega), h.len, List.getElem?_eq_getElem (show j - n < news.length by omega)]
      simp

theorem zeroCells_at (k j : Nat) (hj : j < k) : (Builtin.zeroCells (Value.int .u8 0).cells k)[j]? = some (.int .u8 0) := by
  simp [Builtin.zeroCells, Value.cells, hj, Nat.mod_one]
theorem run_zerosM {g n cap : Nat} {xs : List Int} (h : OwnM w base g n cap xs) (k : Nat) (h63 : n + k ≤ 140737488355328) :
    ∃ g' cap' w', (Builtin.append_ #[22, 28] 22 #[.slice (some ⟨g, 0, none⟩) n cap, .int .u64 k]).run Try.prog w = .ok (.slice (some ⟨g', 0, none⟩) (n + k) cap') w' ∧
      OwnM w' base g' (n + k) cap' (xs ++ List.replicate k 0) ∧ w.grownBy w' (some g) ∧ (g' = g ∨ g' = w.heap.size) := by
  by_cases hroom : n + k ≤ cap
  · refine ⟨g, cap, _, run_zeros_room h k hroom h63, ?_, grown_setCells _ _ _ (grown_refl _ _), .inl rfl⟩
    have := ownM_room h (List.replicate k 0) (by simpa using hroom)
    simpa using this
  · obtain ⟨i, hi, hz0, hz1, hz2⟩ := info_parts info_u8
    have hold : (Builtin.firstCells i.size n (.slice (some ⟨g, 0, none⟩) n cap)).run Try.prog w.drew = .ok (xs.map (Value.int .u8)).toArray w.drew := by
      rw [hz1]
      refine run_firstCells_some w.drew 1 n ⟨g, 0, none⟩ n cap (xs.map (Value.int .u8)) (by simp [h.len]) (fun j u hu => ?_)
      have hj : j < n := by
        rcases Nat.lt_or_ge j n with h1 | h1
        · exact h1
        · simp [h.len, h1] at hu
      rw [add_flat, Nat.zero_add]
      show w.cell? ⟨g, j, none⟩ = some u
      rw [h.cell j hj]
      simp [show j < xs.length by rw [h.len]; exact hj] at hu ⊢
      exact hu
    have hle0 := h.le
    have hr := Lib.run_append_grow_zeros w 22 28 22 5 i (.int .u8 0) .u64 .u64 Try.underlying22 Try.underlying28 hi hz0 (some ⟨g, 0, none⟩) n cap (xs.map (Value.int .u8)) hold k (by omega) (by omega) (by omega) (by omega) (by rw [hz2]; omega)
      (growslice_fits (by omega) (by rw [hz2]; omega))
    obtain ⟨cap', hcap⟩ : ∃ z, z = grownCap w (n + k) cap 5 := ⟨_, rfl⟩
    rw [← hcap] at hr
    have hge : n + k ≤ cap' := by rw [hcap]; exact grownCap_ge w _ _ _
    have hle : cap' ≤ maxLen := by rw [hcap]; exact grownCap_le_maxLen w _ _ _ (by unfold maxLen; omega)
    refine ⟨w.heap.size, cap', _, hr, ?_, grown_any (grown_alloc (grown_drewN (grown_refl w none) 1) _) _, .inr rfl⟩
    obtain ⟨C, hC⟩ : ∃ C, C = (xs.map (Value.int .u8)).toArray ++ Builtin.zeroCells (Value.int .u8 0).cells k ++ Builtin.zeroCells (Value.int .u8 0).cells (cap' - (n + k)) := ⟨_, rfl⟩
    have hsize : C.size = cap' := by
      rw [hC]
      simp [size_zeroCells, Value.cells, h.len]; omega
    have hcell : ∀ j, j < n + k → C[j]? = some (.int .u8 ((xs ++ List.replicate k 0).getD j 0)) := fun j hj => by
      rw [hC, Array.getElem?_append_left (by simp [size_zeroCells, Value.cells, h.len]; omega)]
      by_cases h1 : j < n
      · rw [Array.getElem?_append_left (by simp [h.len]; exact h1), List.getD_eq_getElem?_getD, List.getElem?_append_left (by rw [h.len]; exact h1)]
        simp [show j < xs.length by rw [h.len]; exact h1]
      · rw [Array.getElem?_append_right (by simp [h.len]; omega), List.getD_eq_getElem?_getD, List.getElem?_append_right (by rw [h.len]; omega)]
        rw [zeroCells_at _ _ (by simp [h.len]; omega), List.getElem?_replicate, if_pos (by rw [h.len]; omega)]
        rfl
    rw [← hC]
    have hnew : (w.drew.alloc (.cells C 5)).heap[w.heap.size]? = some (.cells C 5 (0, 0)) := heap_alloc_new w.drew _
    exact ⟨Nat.le_trans h.lo (Nat.le_of_lt h.lt), lt_of_block hnew, hge, by simp [h.len], hle, fun j hj => by rw [cell_of hnew, Array.getElem?_eq_getElem (by rw [hsize]; exact hj)]; rfl, fun j _ => free_of hnew, fun j hj => by rw [cell_of hnew]; exact hcell j hj⟩

/-- The operation, for the walk. -/
theorem wp_zerosM {ops : Array Oper} {rest : List Oper} {o : Oper} {a : Act} {Q : Exit → Act → World → Prop} (hgd : o.guard = none) (s x : Operand)
    (ho : o.op = .call { callee := .builtin .append, args := #[s, x], argTypes := #[22, 28] }) (hty : o.type = 22)
    {g n cap : Nat} {xs : List Int} (hs : a.eval s = .slice (some ⟨g, 0, none⟩) n cap) (hown : OwnM w base g n cap xs) (k : Nat) {z : Int} (hz : z = k) (hx : a.eval x = .int .u64 z) (h63 : n + k ≤ 140737488355328)
    (h : ∀ g' cap' w', OwnM w' base g' (n + k) cap' (xs ++ List.replicate k 0) → w.grownBy w' (some g) → (g' = g ∨ g' = w.heap.size) → wpList Try.prog ops Q rest (a.put o.dst (.slice (some ⟨g', 0, none⟩) (n + k) cap')) w') : wpList Try.prog ops Q (o :: rest) a w := by
  subst hz
  obtain ⟨g', cap', w', hr, h1, h2, h3⟩ := run_zerosM hown k h63
  exact Lib.wpList_append_run w hgd s x _ _ ho _ _ hs hx _ _ (by rw [hty]; exact hr) (h g' cap' w' h1 h2 h3)
end Go.Proofs.Ytemdbfgpimfkdaa

/- Small laws of worlds that grow, rows of one's own, bytes, and ranges: shared by the seats from layer 4 on. No condition. -/
namespace Go.Proofs.Ytemdbfgpimfkdaa
open Go.RowKit Go.ChangeShapes Go.WideShapes Go.Deep
variable {w w' : World} {base g : Nat}

/-- What the call itself has made, it may turn. -/
theorem grown_new {w1 : World} (h : w.grownBy w1 none) (k : w1.grownBy w' (some g)) (hg : w.heap.size ≤ g) : w.grownBy w' none :=
  ⟨k.os.trans h.os, k.tape.trans h.tape, k.output.trans h.output, Nat.le_trans h.size k.size, fun i hi _ =>
    (k.block i (Nat.lt_of_lt_of_le hi h.size) (fun e => by injection e with e; omega)).trans (h.block i hi (by simp))⟩
theorem grown1 (w : World) (o : Obj) : w.grownBy (w.alloc o) none := World.grownBy_alloc w o none
theorem grown2 (w : World) (o o' : Obj) : w.grownBy ((w.alloc o).alloc o') none := grown_alloc (grown1 w o) o'
theorem grown_cell {a : Addr} {v : Value} (hg : w.grownBy w' none) (h : w.cell? a = some v) : w'.cell? a = some v := hg.cell h (by simp)
/-- A value that is a row's is a slice. -/
theorem own_slice {v : Value} {n : Nat} {xs : List Value} {T : TypeId} {k : Nat} (h : w.ownsRow base T k v n xs) : ∃ q c, v = .slice q n c := by
  rcases h.2 with ⟨rfl, rfl⟩ | ⟨g, cap, cur, rfl, _⟩
  · exact ⟨_, _, rfl⟩
  · exact ⟨_, _, rfl⟩
theorem grown_own {w1 w2 : World} {v : Value} {B : Nat} (h : w.grownBy w1 none) (hg : w1.grownBy w2 v.ownBlock) (hv : ∀ g, v.ownBlock = some g → B ≤ g) (hB : w.heap.size ≤ B) : w.grownBy w2 none := by
  cases hb : v.ownBlock with
  | none => rw [hb] at hg; exact grown_trans h hg
  | some g => rw [hb] at hg; exact grown_new h hg (Nat.le_trans hB (hv g hb))
theorem own_grown {wr : World} {v : Value} {n B : Nat} {xs : List Value} {T : TypeId} {z : Nat} (h : wr.ownsRow B T z v n xs) (hg : wr.grownBy w' none) : w'.ownsRow B T z v n xs :=
  h.kept hg (by cases v.ownBlock <;> simp)
theorem bytes_inj : ∀ {xs ys : List Int}, Small xs → Small ys → Lib.bytesOf xs = Lib.bytesOf ys → xs = ys
  | [], [], _, _, _ => rfl
  | [], _ :: _, _, _, h => by simp [Lib.bytesOf] at h
  | _ :: _, [], _, _, h => by simp [Lib.bytesOf] at h
  | x :: xs, y :: ys, hx, hy, h => by
    simp only [Lib.bytesOf, List.map_cons, List.cons.injEq] at h
    have a := hx x (List.mem_cons_self ..)
    have b := hy y (List.mem_cons_self ..)
    have e : (UInt8.ofNat x.toNat).toNat = (UInt8.ofNat y.toNat).toNat := by rw [h.1]
    simp only [UInt8.toNat_ofNat'] at e
    rw [bytes_inj (fun z hz => hx z (List.mem_cons_of_mem _ hz)) (fun z hz => hy z (List.mem_cons_of_mem _ hz)) h.2, show x = y by omega]
theorem small_lit {l : List Int} (h : l.all (fun x => decide (0 ≤ x) && decide (x < 256)) = true) : Small l := fun x hx => by
  have := List.all_eq_true.1 h x hx
  simpa using this
/-- Does a text begin so? By its bytes. -/
theorem text_is {xs ys : List Int} (hx : Small xs) (hy : Small ys) : ((strOfNums xs).toList == Lib.bytesOf ys) = decide (xs = ys) := by
  rw [Lib.strOfNums_toList]
  by_cases h : xs = ys
  · subst h; simp
  · rw [decide_eq_false h, beq_eq_false_iff_ne]
    exact fun e => h (bytes_inj hx hy e)
theorem u32_range {n : Int} (h : (Lit.int .u32 n).wf = true) : 0 ≤ n ∧ n < 4294967296 := by
  have : 0 ≤ n ∧ n ≤ 4294967295 := by simpa [Lit.wf, IntKind.min, IntKind.max, IntKind.signed, IntKind.bits] using h
  omega
theorem u64_range {n : Int} (h : (Lit.int .u64 n).wf = true) : 0 ≤ n ∧ n < 18446744073709551616 := by
  have : 0 ≤ n ∧ n ≤ 18446744073709551615 := by simpa [Lit.wf, IntKind.min, IntKind.max, IntKind.signed, IntKind.bits] using h
  omega

/-- One element's five cells. -/
theorem list_of' {α : Type} (z : α) (n : Nat) (P : Nat → α → Prop) (h : ∀ i, i < n → ∃ s, P i s) : ∃ l : List α, l.length = n ∧ ∀ i s, l[i]? = some s → P i s := by
  have h' : ∀ i, ∃ s, i < n → P i s := fun i => by
    by_cases hi : i < n
    · obtain ⟨s, hs⟩ := h i hi; exact ⟨s, fun _ => hs⟩
    · exact ⟨z, fun h => absurd h hi⟩
  refine ⟨(List.range n).map fun i => Classical.choose (h' i), by simp, fun i s hs => ?_⟩
  rw [List.getElem?_map] at hs
  rcases Nat.lt_or_ge i n with hi | hi
  · rw [List.getElem?_range hi] at hs
    injection hs with hs
    rw [← hs]
    exact Classical.choose_spec (h' i) hi
  · rw [List.getElem?_eq_none (by simpa using hi)] at hs
    cases hs

/-- A slice of parts that came in. -/
theorem one_byte' (w : World) (v : Int) : IsBytes (w.alloc (.cells #[.int .u8 v] 5)) (some ⟨w.heap.size, 0, none⟩) 1 [v] := by
  refine IsBytes.mk_at fun i hi => ?_
  obtain rfl : i = 0 := by simpa using hi
  rw [cell_of (heap_alloc_new w _)]
  rfl
theorem small_app {xs ys : List Int} (h : Small xs) (k : Small ys) : Small (xs ++ ys) := fun x hx => by
  rcases List.mem_append.1 hx with h1 | h1
  · exact h x h1
  · exact k x h1
theorem small_flat {α : Type} {f : α → List Int} {l : List α} (h : ∀ a ∈ l, Small (f a)) : Small (l.flatMap f) := fun x hx => by
  obtain ⟨a, ha, hxa⟩ := List.mem_flatMap.1 hx
  exact h a ha x hxa
theorem zeros_small (n : Nat) : Small (List.replicate n 0) := fun x hx => by
  rw [List.eq_of_mem_replicate hx]; decide
theorem grown_app {w1 w2 : World} {g g1 : Nat} (h : w.grownBy w1 (some g)) (k : w1.grownBy w2 (some g1)) (hr : g1 = g ∨ w.heap.size ≤ g1) : w.grownBy w2 (some g) :=
  ⟨k.os.trans h.os, k.tape.trans h.tape, k.output.trans h.output, Nat.le_trans h.size k.size, fun i hi hn =>
    (k.block i (Nat.lt_of_lt_of_le hi h.size) (fun e => by
      injection e with e
      rcases hr with rfl | hg
      · exact hn (by rw [e])
      · omega)).trans (h.block i hi hn)⟩

/-- A row of bytes behind what was appended to it: its bytes, and that nothing else of old memory has turned. -/
theorem shr_div (n : Int) (k : Nat) : n >>> k = n / 2 ^ k := Int.shiftRight_eq_div_pow n k
end Go.Proofs.Ytemdbfgpimfkdaa
