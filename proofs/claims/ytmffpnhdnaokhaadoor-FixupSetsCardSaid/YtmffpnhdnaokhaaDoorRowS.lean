/- Rows of structs of one's own, of whatever type: one more is appended. No condition. -/
import Derived.Test.YtmffpnhdnaokhaaDoorPenC
import Derived.Test.YtmffpnhdnaokhaaDoorOneAt
import Derived.Maps.AppendAt
import Derived.Lib.SlFresh
import Derived.Laws.Rows
namespace Go.Proofs.YtmffpnhdnaokhaaDoor
open Go.RowKit
variable {w w' : World} {base : Nat}

theorem grown_past {w1 : World} {a g : Nat} (h : w.grownBy w1 (some a)) (k : w1.grownBy w' (some g)) (hg : w.heap.size ≤ g) : w.grownBy w' (some a) :=
  ⟨k.os.trans h.os, k.tape.trans h.tape, k.output.trans h.output, Nat.le_trans h.size k.size, fun i hi hn =>
    (k.block i (Nat.lt_of_lt_of_le hi h.size) (fun e => by injection e with e; omega)).trans (h.block i hi hn)⟩
theorem grown_then {w1 : World} {a : Option Nat} (h : w.grownBy w1 a) (k : w1.grownBy w' none) : w.grownBy w' a :=
  ⟨k.os.trans h.os, k.tape.trans h.tape, k.output.trans h.output, Nat.le_trans h.size k.size, fun i hi hn =>
    (k.block i (Nat.lt_of_lt_of_le hi h.size) (by simp)).trans (h.block i hi hn)⟩
theorem grown_first {w1 : World} {a : Option Nat} (h : w.grownBy w1 none) (k : w1.grownBy w' a) : w.grownBy w' a :=
  ⟨k.os.trans h.os, k.tape.trans h.tape, k.output.trans h.output, Nat.le_trans h.size k.size, fun i hi hn =>
    (k.block i (Nat.lt_of_lt_of_le hi h.size) hn).trans (h.block i hi (by simp))⟩
theorem grown_same {w1 : World} {a : Nat} (h : w.grownBy w1 (some a)) (k : w1.grownBy w' (some a)) : w.grownBy w' (some a) :=
  ⟨k.os.trans h.os, k.tape.trans h.tape, k.output.trans h.output, Nat.le_trans h.size k.size, fun i hi hn =>
    (k.block i (Nat.lt_of_lt_of_le hi h.size) hn).trans (h.block i hi hn)⟩

theorem grown_row {w1 : World} {a : Nat} {v : Value} (h : w.grownBy w1 (some a)) (k : w1.grownBy w' v.ownBlock) (hv : ∀ g, v.ownBlock = some g → w.heap.size ≤ g) : w.grownBy w' (some a) := by
  cases hb : v.ownBlock with
  | none => rw [hb] at k; exact grown_then h k
  | some g => rw [hb] at k; exact grown_past h k (hv g hb)
/-- A struct's type, and its slices': what the law on append asks. -/
structure StType (P : Program) (T TS : TypeId) (k by' : Nat) : Prop where
  under : P.underlying TS = some (.slice T)
  info : ∃ i z, P.info? T = some i ∧ i.zero = some z ∧ i.size = k ∧ i.bytes = by' ∧ z.cells.size = k
  pos : 0 < k
theorem StType.mk' {P : Program} {T TS : TypeId} {k by' : Nat} (hu : P.underlying TS = some (.slice T)) {z : Value} (hi : (P.info? T).map (fun i => (i.zero, i.size, i.bytes)) = some (some z, k, by')) (hz : z.cells.size = k) (hk : 0 < k) : StType P T TS k by' := by
  obtain ⟨i, h1, h2, h3, h4⟩ := info_parts hi
  exact ⟨hu, ⟨i, z, h1, h2, h3, h4, hz⟩, hk⟩

theorem wp_append_st {T TS : TypeId} {k by' : Nat} (st : StType Tryd.prog T TS k by') {ops : Array Oper} {rest : List Oper} {o : Oper} {a : Act} {Q : Exit → Act → World → Prop} (hgd : o.guard = none) (s x : Operand)
    (ho : o.op = .call { callee := .builtin .append, args := #[s, x], argTypes := #[TS, TS] })
    (v : Value) (n : Nat) (xs : List Value) (hs : a.eval s = v) (hown : w.ownsRow base T k v n xs) (cs : List Value) (hl : cs.length = k) (g : Nat) (hx : a.eval x = .slice (some ⟨g, 0, none⟩) 1 1)
    (hb : w.heap[g]? = some (.cells cs.toArray T (0, 0))) (h1 : ∀ u ∈ cs, u.oneCell' = true)
    (h63 : (n + 1) * by' ≤ 140737488355328) (hby : 0 < by') (hbase : base ≤ w.heap.size)
    (h : ∀ v' w', w'.ownsRow base T k v' (n + 1) (xs ++ cs) → w.grownBy w' v.ownBlock → wpList Tryd.prog ops Q rest (a.put o.dst v') w') : wpList Tryd.prog ops Q (o :: rest) a w := by
  obtain ⟨i, z, hi, hz0, hz1, hz2, hzs⟩ := st.info
  refine wpList_append_own w hgd s x _ ho base T i z k by' st.under hi hz0 hz1 hz2 hzs st.pos v n xs hs hown ⟨g, 0, none⟩ 1 1 cs hx (by rw [hl, Nat.one_mul]) ?_ h1 (by have := Nat.le_mul_of_pos_right (n + 1) hby; unfold maxLen; omega) h63 hbase ?_
  · intro j u hu
    rw [add_flat, cell_of hb, ← hu]
    simp
  · intro v' w' h2 h3 _
    exact h v' w' h2 h3
/-- At a region that draws, held. -/
theorem step_append_st {T TS : TypeId} {k by' : Nat} (st : StType Tryd.prog T TS k by') {ops : Array Oper} {o : Oper} {a : Act} {K : Act → World → Prop} {Q : Exit → Act → World → Prop} {E : Prop} (hgd : o.guard = none) (s x : Operand)
    (ho : o.op = .call { callee := .builtin .append, args := #[s, x], argTypes := #[TS, TS] })
    (v : Value) (n m : Nat) (xs : List Value) (hs : a.eval s = v) (hown : w.ownsRow base T k v n xs) (cs : List Value) (hl : cs.length = m * k) (g : Nat) (hx : a.eval x = .slice (some ⟨g, 0, none⟩) m m)
    (hb : w.heap[g]? = some (.cells cs.toArray T (0, 0))) (h1 : ∀ u ∈ cs, u.oneCell' = true)
    (h63 : (n + m) * by' ≤ 140737488355328) (hby : 0 < by') (hbase : base ≤ w.heap.size)
    (h : ∀ v' w', w'.ownsRow base T k v' (n + m) (xs ++ cs) → w.grownBy w' v.ownBlock → K (a.put o.dst v') w') :
    if Region.wanted o (yielded ops a.tmps) = true then Oper.wp Tryd.prog o a w K Q else E := by
  have hw : Region.wanted o (yielded ops a.tmps) = true := by simp [Region.wanted, hgd]
  rw [if_pos hw]
  obtain ⟨i, z, hi, hz0, hz1, hz2, hzs⟩ := st.info
  obtain ⟨v', w', hr, h2, h3, _, _⟩ := run_append_own_at (P := Tryd.prog) w base TS o.type T i z k by' st.under hi hz0 hz1 hz2 hzs st.pos v n xs hown ⟨g, 0, none⟩ m m cs hl
    (by
      intro j u hu
      rw [add_flat, cell_of hb, ← hu]
      simp)
    h1 (by have := Nat.le_mul_of_pos_right (n + m) hby; unfold maxLen; omega) h63 hbase
  exact Lib.wp_append_run w s x _ _ ho _ _ hs hx _ _ hr (h v' w' h2 h3)
theorem flat_len {α : Type} {f : α → List Value} {k : Nat} (hf : ∀ x, (f x).length = k) (l : List α) : (l.flatMap f).length = l.length * k := by
  induction l with
  | nil => simp
  | cons x l ih => rw [List.flatMap_cons, List.length_append, hf, ih, List.length_cons, Nat.succ_mul, Nat.add_comm]
theorem flat_at {α : Type} {f : α → List Value} {k : Nat} (hf : ∀ x, (f x).length = k) (l : List α) (i j : Nat) (x : α) (h : l[i]? = some x) (hj : j < k) : (l.flatMap f)[i * k + j]? = (f x)[j]? := by
  induction l generalizing i with
  | nil => simp at h
  | cons y l ih =>
    rw [List.flatMap_cons]
    cases i with
    | zero =>
      simp only [List.getElem?_cons_zero, Option.some.injEq] at h
      subst h
      rw [Nat.zero_mul, Nat.zero_add, List.getElem?_append_left (by rw [hf]; exact hj)]
    | succ i =>
      rw [List.getElem?_append_right (by rw [hf, Nat.succ_mul]; omega), hf]
      have e : (i + 1) * k + j - k = i * k + j := by rw [Nat.succ_mul]; omega
      rw [e]
      exact ih i (by simpa using h)
/-- Of a row of structs: the cells of one. -/
theorem row_cell {T : TypeId} {k n c : Nat} {q : Option Addr} {α : Type} {f : α → List Value} {l : List α} (hf : ∀ x, (f x).length = k) (h : w.ownsRow base T k (.slice q n c) n (l.flatMap f)) {i : Nat} {x : α} (hx : l[i]? = some x) {j : Nat} (hj : j < k) :
    ∃ g, q = some ⟨g, 0, none⟩ ∧ w.cell? ⟨g, i * k + j, none⟩ = (f x)[j]? := by
  have hil : i < l.length := by
    rcases Nat.lt_or_ge i l.length with h1 | h1
    · exact h1
    · simp [h1] at hx
  have h' := h
  obtain ⟨hl, hn | ⟨g, cap, cur, hv, _, hg, hle, hm, hs, ht⟩⟩ := h
  · rw [flat_len hf, hn.2, Nat.zero_mul] at hl
    have : 0 < l.length * k := Nat.mul_pos (by omega) (by omega)
    omega
  · injection hv with e1 e2 e3
    subst e1 e3
    refine ⟨g, rfl, ?_⟩
    have hr := flat_at hf l i j x hx hj
    have hjl : j < (f x).length := by rw [hf]; exact hj
    have hc := h'.cells (g := g) rfl (i * k + j) ((f x)[j]) (by rw [hr]; exact List.getElem?_eq_getElem _)
    rw [add_flat, Nat.zero_add] at hc
    rw [hc]
    exact (List.getElem?_eq_getElem _).symm
/-- Rows of two types lie apart. -/
theorem rows_apart {base' : Nat} {T T' : TypeId} {k k' n n' : Nat} {v v' : Value} {xs xs' : List Value} (hT : T ≠ T') (h : w.ownsRow base T k v n xs) (h' : w.ownsRow base' T' k' v' n' xs') : v.ownBlock = none ∨ v.ownBlock ≠ v'.ownBlock := by
  rcases h.2 with ⟨rfl, _⟩ | ⟨g, cap, cur, rfl, _, hg, _⟩
  · exact .inl rfl
  · rcases h'.2 with ⟨rfl, _⟩ | ⟨g', cap', cur', rfl, _, hg', _⟩
    · exact .inr (by simp [Value.ownBlock])
    · refine .inr fun e => hT ?_
      simp only [Value.ownBlock, Option.some.injEq] at e
      subst e
      rw [hg] at hg'
      injection hg' with e
      injection e
theorem row_len {T : TypeId} {k n : Nat} {v : Value} {α : Type} {f : α → List Value} {l : List α} (hf : ∀ x, (f x).length = k) (hk : 0 < k) (h : w.ownsRow base T k v n (l.flatMap f)) : l.length = n := by
  have := h.1
  rw [flat_len hf] at this
  exact Nat.eq_of_mul_eq_mul_right hk this
end Go.Proofs.YtmffpnhdnaokhaaDoor
