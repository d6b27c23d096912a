/- A row of commands that the call itself makes: one more appended to it, in a loop's round too; what such a row reads as. No condition. -/
import Derived.Test.YthdppaooemdmaaaIter
import Derived.Maps.AppendAt
namespace Go.Proofs.Ythdppaooemdmaaa
open Go.RowKit
variable {w w' : World} {base : Nat}

def Cm.cs (m : Cm) : List Value := [.int .u32 m.cmd, .slice m.q m.bytes.length m.cap]
def rowC (l : List Cm) : List Value := l.flatMap Cm.cs
theorem rowC_len (l : List Cm) : (rowC l).length = l.length * 2 := by
  induction l with
  | nil => rfl
  | cons s l ih => simp only [rowC, List.flatMap_cons, List.length_append, List.length_cons] at ih ⊢; rw [ih, show s.cs.length = 2 from rfl]; omega
theorem rowC_at (l : List Cm) (i j : Nat) (s : Cm) (h : l[i]? = some s) (hj : j < 2) : (rowC l)[i * 2 + j]? = s.cs[j]? := by
  induction l generalizing i with
  | nil => simp at h
  | cons t l ih =>
    simp only [rowC, List.flatMap_cons] at ih ⊢
    cases i with
    | zero =>
      simp at h
      subst h
      rw [List.getElem?_append_left (by rw [show t.cs.length = 2 from rfl]; omega)]
      simp
    | succ i =>
      rw [List.getElem?_append_right (by rw [show t.cs.length = 2 from rfl]; omega), show t.cs.length = 2 from rfl, show (i + 1) * 2 + j - 2 = i * 2 + j by omega]
      exact ih i (by simpa using h)
theorem rowC_snoc (l : List Cm) (s : Cm) : rowC (l ++ [s]) = rowC l ++ s.cs := by simp [rowC]

theorem info_cm : (Try.prog.info? 40).map (fun i => (i.zero, i.size, i.bytes)) = some (some Cm.zero.v, 2, 32) := by kernel_rfl

/-- What the call owns reads as commands. -/
theorem IsCms.of_own {p : Option Addr} {n c : Nat} {l : List Cm} (hl : l.length = n) (h : w.ownsRow base 40 2 (.slice p n c) n (rowC l)) (hb : ∀ m ∈ l, IsBytes w m.q m.cap m.bytes) : IsCms w p l ∧ n ≤ c ∧ c ≤ 9223372036854775807 := by
  subst hl
  have h' := h
  obtain ⟨_, hn | ⟨g, cap, cur, hv, _, hg, hle, hm, hs, ht⟩⟩ := h
  · obtain ⟨e, h0⟩ := hn
    injection e with e1 e2 e3
    subst e3
    exact ⟨fun h => by omega, by omega, by omega⟩
  · injection hv with e1 e2 e3
    subst e1 e3
    refine ⟨fun _ => ⟨g, 0, rfl, fun i s hi => ?_⟩, hle, by unfold maxLen at hm; omega⟩
    have key : ∀ j, j < 2 → w.cell? ⟨g, 0 + i * 2 + j, none⟩ = s.cs[j]? := fun j hj => by
      have hr := rowC_at l i j s hi hj
      have hc := h'.cells (g := g) rfl (i * 2 + j) (s.cs[j]'(by simpa [Cm.cs] using hj)) (by rw [hr]; exact List.getElem?_eq_getElem _)
      rw [add_flat] at hc
      rw [show 0 + i * 2 + j = 0 + (i * 2 + j) by omega, hc]
      exact (List.getElem?_eq_getElem _).symm
    exact ⟨⟨key 0 (by decide), key 1 (by decide)⟩, hb s (List.mem_of_getElem? hi)⟩

theorem wp_append_cm {ops : Array Oper} {rest : List Oper} {o : Oper} {a : Act} {Q : Exit → Act → World → Prop} (hgd : o.guard = none) (s x : Operand)
    (ho : o.op = .call { callee := .builtin .append, args := #[s, x], argTypes := #[28, 28] })
    (v : Value) (n : Nat) (l : List Cm) (hs : a.eval s = v) (hown : w.ownsRow base 40 2 v n (rowC l)) (t : Cm) (g : Nat) (hx : a.eval x = .slice (some ⟨g, 0, none⟩) 1 1) (hb : CmAt w g t)
    (h63 : n ≤ 1000000) (hbase : base ≤ w.heap.size)
    (h : ∀ v' w', w'.ownsRow base 40 2 v' (n + 1) (rowC (l ++ [t])) → w.grownBy w' v.ownBlock → wpList Try.prog ops Q rest (a.put o.dst v') w') : wpList Try.prog ops Q (o :: rest) a w := by
  obtain ⟨i, hi, hz0, hz1, hz2⟩ := info_parts info_cm
  refine wpList_append_own w hgd s x _ ho base 40 i Cm.zero.v 2 32 Try.underlying28 hi hz0 hz1 hz2 rfl (by decide) v n (rowC l) hs hown ⟨g, 0, none⟩ 1 1 t.cs hx rfl ?_ ?_ (by unfold maxLen; omega) (by omega) hbase ?_
  · intro j u hu
    rw [add_flat, cell_of hb, ← hu]
    simp [Cm.cs]
  · intro u hu
    simp only [Cm.cs, List.mem_cons, List.not_mem_nil, or_false] at hu
    rcases hu with rfl | rfl <;> rfl
  · intro v' w' h1 h2 _
    rw [← rowC_snoc] at h1
    exact h v' w' h1 h2

/-- In a loop's round; and where the new row lies. -/
theorem wpIn_append_cm {F : Fence} {fu : Nat} {ops : Array Oper} {rest : List Oper} {o : Oper} {a : Act} {Q : Exit → Act → World → Prop} (hgd : o.guard = none) (s x : Operand)
    (ho : o.op = .call { callee := .builtin .append, args := #[s, x], argTypes := #[28, 28] })
    (v : Value) (n : Nat) (l : List Cm) (hs : a.eval s = v) (hown : w.ownsRow base 40 2 v n (rowC l)) (t : Cm) (g : Nat) (hx : a.eval x = .slice (some ⟨g, 0, none⟩) 1 1) (hb : CmAt w g t)
    (h63 : n ≤ 1000000) (hbase : base ≤ w.heap.size)
    (h : ∀ v' w', w'.ownsRow base 40 2 v' (n + 1) (rowC (l ++ [t])) → w.grownBy w' v.ownBlock → (v'.ownBlock = v.ownBlock ∨ v'.ownBlock = some w.heap.size) → wpListIn F fu Try.prog ops Q rest (a.put o.dst v') w') : wpListIn F fu Try.prog ops Q (o :: rest) a w := by
  obtain ⟨i, hi, hz0, hz1, hz2⟩ := info_parts info_cm
  refine wpListIn_plain hgd fun K hK => ?_
  obtain ⟨v', w', hr, h1, h2, _, h4⟩ := run_append_own_at (P := Try.prog) w base 28 o.type 40 i Cm.zero.v 2 32 Try.underlying28 hi hz0 hz1 hz2 rfl (by decide) v n (rowC l) hown ⟨g, 0, none⟩ 1 1 t.cs rfl
    (by
      intro j u hu
      rw [add_flat, cell_of hb, ← hu]
      simp [Cm.cs])
    (by
      intro u hu
      simp only [Cm.cs, List.mem_cons, List.not_mem_nil, or_false] at hu
      rcases hu with rfl | rfl <;> rfl)
    (by unfold maxLen; omega) (by omega) hbase
  rw [← rowC_snoc] at h1
  refine ⟨?_, ?_⟩
  · intro f hf
    simp [Oper.about, ho, resolve, Target.leads, Sem.run_pure] at hf
  · rw [Oper.semAt_plain F _ _ (by rw [ho]; intro c hc; cases hc)]
    simp [execOp, ho, resolve, invoke, builtin, hs, hx, hr, Result.andThen]
    exact hK _ _ (h v' w' h1 h2 h4)

/-- At a region that draws, held. -/
theorem step_append_cm {ops : Array Oper} {o : Oper} {a : Act} {K : Act → World → Prop} {Q : Exit → Act → World → Prop} {E : Prop} (hgd : o.guard = none) (s x : Operand)
    (ho : o.op = .call { callee := .builtin .append, args := #[s, x], argTypes := #[28, 28] })
    (v : Value) (n : Nat) (l : List Cm) (hs : a.eval s = v) (hown : w.ownsRow base 40 2 v n (rowC l)) (t : Cm) (g : Nat) (hx : a.eval x = .slice (some ⟨g, 0, none⟩) 1 1) (hb : CmAt w g t)
    (h63 : n ≤ 1000000) (hbase : base ≤ w.heap.size)
    (h : ∀ v' w', w'.ownsRow base 40 2 v' (n + 1) (rowC (l ++ [t])) → w.grownBy w' v.ownBlock → K (a.put o.dst v') w') :
    if Region.wanted o (yielded ops a.tmps) = true then Oper.wp Try.prog o a w K Q else E := by
  have hw : Region.wanted o (yielded ops a.tmps) = true := by simp [Region.wanted, hgd]
  rw [if_pos hw]
  obtain ⟨i, hi, hz0, hz1, hz2⟩ := info_parts info_cm
  obtain ⟨v', w', hr, h1, h2, _, _⟩ := run_append_own_at (P := Try.prog) w base 28 o.type 40 i Cm.zero.v 2 32 Try.underlying28 hi hz0 hz1 hz2 rfl (by decide) v n (rowC l) hown ⟨g, 0, none⟩ 1 1 t.cs rfl
    (by
      intro j u hu
      rw [add_flat, cell_of hb, ← hu]
      simp [Cm.cs])
    (by
      intro u hu
      simp only [Cm.cs, List.mem_cons, List.not_mem_nil, or_false] at hu
      rcases hu with rfl | rfl <;> rfl)
    (by unfold maxLen; omega) (by omega) hbase
  rw [← rowC_snoc] at h1
  exact Lib.wp_append_run w s x _ _ ho _ _ hs hx _ _ hr (h v' w' h1 h2)
end Go.Proofs.Ythdppaooemdmaaa
