/- Rows of any kind that are laid behind a row of one's own. No condition. -/
import Derived.Test.YtmffpnhdnaokhaaDoorRowS
import Derived.Maps.AppendAt
namespace Go.Proofs.YtmffpnhdnaokhaaDoor
open Go.RowKit
variable {w w' W V : World}
/-- Nothing is laid behind a row. -/
theorem run_append_no {T TS : TypeId} {k by' base : Nat} (st : StType Tryd.prog T TS k by') (v : Value) (n c : Nat) (ys : List Value) (h : w.ownsRow base T k v n ys) :
    (Builtin.append_ #[TS, TS] TS #[v, .slice none 0 c]).run Tryd.prog w = .ok v w := by
  obtain ⟨i, z, hi, hz0, hz1, hz2, hzs⟩ := st.info
  rcases h.2 with ⟨rfl, _⟩ | ⟨g, cap, cur, rfl, _, hg, hn, hm, hc, _⟩
  · simp [Builtin.append_, run_underlying st.under, sizeOf, typeInfo, hi, Builtin.lenOf, Builtin.firstCells, Result.andThen]
  · simp [Builtin.append_, run_underlying st.under, sizeOf, typeInfo, hi, Builtin.lenOf, hn, Builtin.firstCells, storeCells, Result.andThen]
/- A slice of so many is laid behind a row of ones own, wherever it lies. -/
set_option maxRecDepth 20000 in
theorem wp_append_rows {T TS : TypeId} {k by' : Nat} (st : StType Tryd.prog T TS k by') {base : Nat} {ops : Array Oper} {rest : List Oper} {o : Oper} {a : Act} {Q : Exit → Act → World → Prop} (hgd : o.guard = none) (s x : Operand)
    (ho : o.op = .call { callee := .builtin .append, args := #[s, x], argTypes := #[TS, TS] }) (hty : o.type = TS)
    (v : Value) (n : Nat) (ys : List Value) (hs : a.eval s = v) (hown : w.ownsRow base T k v n ys) (q : Option Addr) (m c : Nat) (hx : a.eval x = .slice q m c) (cs : List Value) (hl : cs.length = m * k)
    (hq : ∀ j u, cs[j]? = some u → ∃ g o, q = some ⟨g, o, none⟩ ∧ w.cell? ⟨g, o + j, none⟩ = some u) (h1 : ∀ u ∈ cs, u.oneCell' = true)
    (h63 : (n + m) * by' ≤ 140737488355328) (hby : 0 < by') (hbase : base ≤ w.heap.size)
    (h : ∀ v' w', w'.ownsRow base T k v' (n + m) (ys ++ cs) → w.grownBy w' v.ownBlock → (v'.ownBlock = v.ownBlock ∨ v'.ownBlock = some w.heap.size) → wpList Tryd.prog ops Q rest (a.put o.dst v') w') : wpList Tryd.prog ops Q (o :: rest) a w := by
  obtain ⟨i, z, hi, hz0, hz1, hz2, hzs⟩ := st.info
  cases q with
  | none =>
    have hm : cs = [] := by
      cases cs with
      | nil => rfl
      | cons u cs => obtain ⟨g, o', e, _⟩ := hq 0 u rfl; cases e
    subst hm
    have hm0 : m = 0 := by
      have := st.pos
      simp only [List.length_nil] at hl
      rcases Nat.mul_eq_zero.1 hl.symm with e | e
      · exact e
      · omega
    subst hm0
    have hrun := run_append_no st v n c ys hown
    rw [← hty] at hrun
    refine Lib.wpList_append_run_sl w hgd s x _ ho v (.slice none 0 c) hs hx (by rw [hty] at hrun ⊢; exact hrun) ?_
    exact h v w (by simpa using hown) (grown_refl w _) (.inl rfl)
  | some ad =>
    refine wpList_append_own_at w hgd s x _ ho base T i z k by' st.under hi hz0 hz1 hz2 hzs st.pos v n ys hs hown ad m c cs hx hl ?_ h1 (by have := Nat.le_mul_of_pos_right (n + m) hby; unfold maxLen; omega) h63 hbase ?_
    · intro j u hu
      obtain ⟨g, o', e, hc⟩ := hq j u hu
      injection e with e
      subst e
      rw [add_flat]; exact hc
    · intro v' w' h2 h3 _ h4
      exact h v' w' h2 h3 h4
/-- At a region that draws: one is laid behind a row of one's own. -/
theorem step_append_sta {T TS : TypeId} {k by' : Nat} (st : StType Tryd.prog T TS k by') {base : Nat} {ops : Array Oper} {o : Oper} {a : Act} {K : Act → World → Prop} {Q : Exit → Act → World → Prop} {E : Prop} (hgd : o.guard = none) (s x : Operand)
    (ho : o.op = .call { callee := .builtin .append, args := #[s, x], argTypes := #[TS, TS] })
    (v : Value) (n m : Nat) (xs : List Value) (hs : a.eval s = v) (hown : w.ownsRow base T k v n xs) (cs : List Value) (hl : cs.length = m * k) (g : Nat) (hx : a.eval x = .slice (some ⟨g, 0, none⟩) m m)
    (hb : w.heap[g]? = some (.cells cs.toArray T (0, 0))) (h1 : ∀ u ∈ cs, u.oneCell' = true)
    (h63 : (n + m) * by' ≤ 140737488355328) (hby : 0 < by') (hbase : base ≤ w.heap.size)
    (h : ∀ v' w', w'.ownsRow base T k v' (n + m) (xs ++ cs) → w.grownBy w' v.ownBlock → (v'.ownBlock = v.ownBlock ∨ v'.ownBlock = some w.heap.size) → K (a.put o.dst v') w') :
    if Region.wanted o (yielded ops a.tmps) = true then Oper.wp Tryd.prog o a w K Q else E := by
  have hw : Region.wanted o (yielded ops a.tmps) = true := by simp [Region.wanted, hgd]
  rw [if_pos hw]
  obtain ⟨i, z, hi, hz0, hz1, hz2, hzs⟩ := st.info
  obtain ⟨v', w', hr, h2, h3, _, h5⟩ := run_append_own_at (P := Tryd.prog) w base TS o.type T i z k by' st.under hi hz0 hz1 hz2 hzs st.pos v n xs hown ⟨g, 0, none⟩ m m cs hl
    (by
      intro j u hu
      rw [add_flat, cell_of hb, ← hu]
      simp)
    h1 (by have := Nat.le_mul_of_pos_right (n + m) hby; unfold maxLen; omega) h63 hbase
  exact Lib.wp_append_run w s x _ _ ho _ _ hs hx _ _ hr (h v' w' h2 h3 h5)
theorem grown_opt {w1 w2 : World} {r : Option Nat} (h : w.grownBy w1 none) (k : w1.grownBy w2 r) (hr : ∀ g, r = some g → w.heap.size ≤ g) : w.grownBy w2 none := by
  cases r with
  | none => exact grown_trans h k
  | some g => exact grown_new h k (hr g rfl)
end Go.Proofs.YtmffpnhdnaokhaaDoor
