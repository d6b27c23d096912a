/- Bytes of the call's own, whatever mark their row bears (a text's bytes bear one behind their last cell): bytes appended to them. No condition but that they are at most 2^47. -/
import Derived.Test.YtmffpnhdnaokhaaDoorApp
import Derived.Test.YtmffpnhdnaokhaaDoorArgs
import Derived.Deep.AppendSrc
import Derived.Deep.Upon
import Derived.Lib.AppendZeros
import Derived.Laws.IdiomStrings
namespace Go.Proofs.YtmffpnhdnaokhaaDoor
open Go.RowKit
variable {w w' : World} {base : Nat}

/-- A row of the call's own: its first n bytes; none of its cells is frozen. -/
structure OwnM (w : World) (base g n cap : Nat) (xs : List Int) : Prop where
  lo : base ≤ g
  lt : g < w.heap.size
  le : n ≤ cap
  len : xs.length = n
  most : cap ≤ maxLen
  there : ∀ j, j < cap → (w.cell? ⟨g, j, none⟩).isSome = true
  free : ∀ j, j < cap → w.frozen? ⟨g, j, none⟩ = false
  cell : ∀ j, j < n → w.cell? ⟨g, j, none⟩ = some (.int .u8 (xs.getD j 0))
theorem OwnM.kept {g n cap : Nat} {xs : List Int} {row : Option Nat} (h : OwnM w base g n cap xs) (hg : w.grownBy w' row) (hr : row ≠ some g) : OwnM w' base g n cap xs := by
  have hb : w'.heap[g]? = w.heap[g]? := hg.block g h.lt (fun e => hr e.symm)
  have hc : ∀ j, w'.cell? ⟨g, j, none⟩ = w.cell? ⟨g, j, none⟩ := fun j => World.cell?_of_block (a := ⟨g, j, none⟩) hb
  exact ⟨h.lo, Nat.lt_of_lt_of_le h.lt hg.size, h.le, h.len, h.most, fun j hj => by rw [hc]; exact h.there j hj, fun j hj => (World.frozen?_of_block (a := ⟨g, j, none⟩) hb).trans (h.free j hj), fun j hj => by rw [hc]; exact h.cell j hj⟩
theorem OwnM.grown {g n cap : Nat} {xs : List Int} (h : OwnM w base g n cap xs) (hg : w.grownBy w' none) : OwnM w' base g n cap xs := h.kept hg (by simp)
theorem OwnM.bytes {g n cap : Nat} {xs : List Int} (h : OwnM w base g n cap xs) (c : Nat) : IsBytes w (some ⟨g, 0, none⟩) c xs :=
  IsBytes.mk_at fun i hi => by rw [Nat.zero_add]; exact h.cell i (by rw [← h.len]; exact hi)

theorem grown_setCells {g : Nat} {w0 : World} : ∀ (vs : List Value) (o : Nat) (w : World), w0.grownBy w (some g) → w0.grownBy (w.setCells g o vs) (some g)
  | [], _, _, h => h
  | v :: r, o, _, h => grown_setCells r (o + 1) _ (grown_setCell (i := o) h v)

theorem run_appendM {g n cap : Nat} {xs : List Int} (h : OwnM w base g n cap xs) (news : List Int) (m : Nat) (hm : news.length = m) (q : Option Addr) (c : Nat) (hb : IsBytes w q c news) (h63 : n + m ≤ 140737488355328) :
    ∃ g' cap' w', (Builtin.append_ #[69, 69] 69 #[.slice (some ⟨g, 0, none⟩) n cap, .slice q m c]).run Tryd.prog w = .ok (.slice (some ⟨g', 0, none⟩) (n + m) cap') w' ∧
      OwnM w' base g' (n + m) cap' (xs ++ news) ∧ w.grownBy w' (some g) ∧ (g' = g ∨ g' = w.heap.size) := by
  subst hm
  obtain ⟨i, hi, hz0, hz1, hz2⟩ := info_parts info_u8
  have src : Src Tryd.prog i.size 69 (.slice q news.length c) news.length (news.map (Value.int .u8)) w := by
    rw [hz1]
    rcases hb.ways with ⟨rfl, rfl, rfl⟩ | ⟨x, rfl, hc⟩
    · exact Src.ofNil w Tryd.underlying69 0
    · refine Src.ofSlice w Tryd.underlying69 x news.length c _ (by simp) (fun j u hu => ?_) (fun u hu => ?_)
      · have hj : j < news.length := by
          rcases Nat.lt_or_ge j news.length with h | h
          · exact h
          · simp [h] at hu
        rw [hc j hj]
        simp [hj] at hu ⊢
        exact hu
      · obtain ⟨y, _, rfl⟩ := List.mem_map.1 hu
        rfl
  by_cases hroom : n + news.length ≤ cap
  · refine ⟨g, cap, w.setCells g n (news.map (Value.int .u8)), ?_, ?_, ?_, .inl rfl⟩
    · have hr := run_append_room_src w 69 69 69 5 i Tryd.underlying69 hi g 0 n cap _ news.length _ src hroom
        (fun j hj => h.there _ (by rw [hz1]; simp at hj; omega)) (fun j hj => h.free _ (by rw [hz1]; simp at hj; omega))
      rw [hz1, Nat.zero_add, Nat.mul_one] at hr
      exact hr
    · have hin : ∀ j, j < (news.map (Value.int .u8)).length → (w.cell? ⟨g, n + j, none⟩).isSome = true := fun j hj => h.there _ (by simp at hj; omega)
      have hcin := World.cell?_setCells_in g (news.map (Value.int .u8)) n w hin
      have hsz := (grown_setCells (news.map (Value.int .u8)) n w (grown_refl w (some g))).size
      refine ⟨h.lo, Nat.lt_of_lt_of_le h.lt hsz, hroom, by rw [List.length_append, h.len], h.most, fun j hj => ?_, fun j hj => by rw [World.frozen?_setCells]; exact h.free j hj, fun j hj => ?_⟩
      · by_cases h1 : j < n ∨ n + news.length ≤ j
        · rw [World.cell?_setCells_out g _ n w ⟨g, j, none⟩ (fun _ _ => by simpa using h1)]
          exact h.there j hj
        · have := hcin (j - n) (by simp; omega)
          rw [show n + (j - n) = j by omega] at this
          rw [this]; rfl
      · by_cases h1 : j < n
        · rw [World.cell?_setCells_out g _ n w ⟨g, j, none⟩ (fun _ _ => .inl h1), h.cell j h1]
          rw [List.getD_eq_getElem?_getD, List.getD_eq_getElem?_getD, List.getElem?_append_left (by rw [h.len]; exact h1)]
        · have := hcin (j - n) (by simp; omega)
          rw [show n + (j - n) = j by omega] at this
          rw [this, List.getD_eq_getElem?_getD, List.getElem?_append_right (by rw [h.len]; omega), h.len, List.getElem?_eq_getElem (show j - n < news.length by omega)]
          simp
    · exact grown_setCells _ _ _ (grown_refl _ _)
  · have hold : (Builtin.firstCells i.size n (.slice (some ⟨g, 0, none⟩) n cap)).run Tryd.prog w.drew = .ok (xs.map (Value.int .u8)).toArray w.drew := by
      rw [hz1]
      refine run_firstCells_some w.drew 1 n ⟨g, 0, none⟩ n cap (xs.map (Value.int .u8)) (by simp [h.len]) (fun j u hu => ?_)
      have hj : j < n := by
        rcases Nat.lt_or_ge j n with h1 | h1
        · exact h1
        · simp [h.len, h1] at hu
      rw [add_flat, Nat.zero_add]
      show w.cell? ⟨g, j, none⟩ = some u
      rw [h.cell j hj]
      simp [show j < xs.length by rw [h.len]; exact hj] at hu ⊢
      exact hu
    have hr := run_append_grow_src w 69 69 69 5 i (.int .u8 0) Tryd.underlying69 hi hz0 (some ⟨g, 0, none⟩) n cap (xs.map (Value.int .u8)) hold _ news.length _ src (by omega) (by omega)
      (growslice_fits (by omega) (by rw [hz2]; omega))
    obtain ⟨cap', hcap⟩ : ∃ z, z = grownCap w (n + news.length) cap 5 := ⟨_, rfl⟩
    rw [← hcap] at hr
    have hge : n + news.length ≤ cap' := by rw [hcap]; exact grownCap_ge w _ _ _
    have hle : cap' ≤ maxLen := by rw [hcap]; exact grownCap_le_maxLen w _ _ _ (by unfold maxLen; omega)
    refine ⟨w.heap.size, cap', _, hr, ?_, ?_, .inr rfl⟩
    · have hnew : (w.drew.alloc (.cells ((xs.map (Value.int .u8) ++ news.map (Value.int .u8)).toArray ++ Builtin.zeroCells (Value.int .u8 0).cells (cap' - (n + news.length))) 5)).heap[w.heap.size]? = some (.cells ((xs.map (Value.int .u8) ++ news.map (Value.int .u8)).toArray ++ Builtin.zeroCells (Value.int .u8 0).cells (cap' - (n + news.length))) 5 (0, 0)) := heap_alloc_new w.drew _
      have hsize : ((xs.map (Value.int .u8) ++ news.map (Value.int .u8)).toArray ++ Builtin.zeroCells (Value.int .u8 0).cells (cap' - (n + news.length))).size = cap' := by
        simp [size_zeroCells, Value.cells, h.len]; omega
      refine ⟨Nat.le_trans h.lo (Nat.le_of_lt h.lt), lt_of_block hnew, hge, by rw [List.length_append, h.len], hle, fun j hj => ?_, fun j _ => free_of hnew, fun j hj => ?_⟩
      · rw [cell_of hnew, Array.getElem?_eq_getElem (by rw [hsize]; exact hj)]; rfl
      · rw [cell_of hnew, Array.getElem?_append_left (by simp [h.len]; omega)]
        rw [← List.map_append, List.getElem?_toArray, List.getElem?_map, List.getD_eq_getElem?_getD, List.getElem?_eq_getElem (show j < (xs ++ news).length by rw [List.length_append, h.len]; exact hj)]
        rfl
    · exact grown_any (grown_alloc (grown_drewN (grown_refl w none) 1) _) _

/-- The operation, for the walk. -/
theorem wp_appendM {ops : Array Oper} {rest : List Oper} {o : Oper} {a : Act} {Q : Exit → Act → World → Prop} (hgd : o.guard = none) (s x : Operand)
    (ho : o.op = .call { callee := .builtin .append, args := #[s, x], argTypes := #[69, 69] }) (hty : o.type = 69)
    {g n cap : Nat} {xs : List Int} (hs : a.eval s = .slice (some ⟨g, 0, none⟩) n cap) (hown : OwnM w base g n cap xs)
    (news : List Int) (m : Nat) (hm : news.length = m) {q : Option Addr} {c : Nat} (hx : a.eval x = .slice q m c) (hb : IsBytes w q c news) (h63 : n + m ≤ 140737488355328)
    (h : ∀ g' cap' w', OwnM w' base g' (n + m) cap' (xs ++ news) → w.grownBy w' (some g) → (g' = g ∨ g' = w.heap.size) → wpList Tryd.prog ops Q rest (a.put o.dst (.slice (some ⟨g', 0, none⟩) (n + m) cap')) w') : wpList Tryd.prog ops Q (o :: rest) a w := by
  obtain ⟨g', cap', w', hr, h1, h2, h3⟩ := run_appendM hown news m hm q c hb h63
  exact Lib.wpList_append_run w hgd s x _ _ ho _ _ hs hx _ _ (by rw [hty]; exact hr) (h g' cap' w' h1 h2 h3)

/-- A text's bytes are such a row. -/
theorem ownM_text (s : ByteArray) (xs : List Int) (hx : s.data.toList.map (fun b => (b.toNat : Int)) = xs) (hs : s.size ≤ 1000) :
    ∃ cap w', (convert 9 69 (.string s)).run Tryd.prog w = .ok (.slice (some ⟨w.heap.size, 0, none⟩) s.size cap) w' ∧ OwnM w' w.heap.size w.heap.size s.size cap xs ∧ w.grownBy w' none := by
  have hr := run_bytes_of_string (P := Tryd.prog) w 9 69 5 s Tryd.underlying9 Tryd.underlying69 Tryd.underlying5
  refine ⟨_, _, hr, ?_, grown_alloc (grown_drewN (grown_refl w none) 1) _⟩
  obtain ⟨cap, hcap⟩ : ∃ z, z = grownCap w s.size 0 5 := ⟨_, rfl⟩
  rw [← hcap]
  have hge : s.size ≤ cap := by rw [hcap]; exact grownCap_ge w _ _ _
  have hle : cap ≤ maxLen := by rw [hcap]; exact grownCap_le_maxLen w _ _ _ (by unfold maxLen; omega)
  have hsd : s.data.size = s.size := rfl
  have hsz : (bytesRow s cap).size = cap := by unfold bytesRow; simp; omega
  have hnew : (w.drew.alloc (.cells (bytesRow s cap) 5 ((bytesRow s cap).size, (bytesRow s cap).size + 1))).heap[w.heap.size]? = some (.cells (bytesRow s cap) 5 ((bytesRow s cap).size, (bytesRow s cap).size + 1)) := heap_alloc_new w.drew _
  refine ⟨Nat.le_refl _, lt_of_block hnew, hge, by rw [← hx]; simp [hsd], hle, fun j hj => ?_, fun j hj => ?_, fun j hj => ?_⟩
  · rw [cell_of_row _ _ _ _ _ _ hnew, Array.getElem?_eq_getElem (by rw [hsz]; exact hj)]; rfl
  · rw [hsz] at hnew ⊢
    simp only [World.frozen?, hnew]
    simp; omega
  · rw [cell_of_row _ _ _ _ _ _ hnew]
    unfold bytesRow
    rw [Array.getElem?_append_left (by simp [hsd]; exact hj), Array.getElem?_map, Array.getElem?_eq_getElem (by rw [hsd]; exact hj), ← hx]
    simp [List.getD, hsd, hj]
end Go.Proofs.YtmffpnhdnaokhaaDoor
