/- A row of slices that the call itself makes: one more appended to it; what such a row reads as. No condition. -/
import Derived.Test.YtdjakaiadggemaaSl
import Derived.Test.YtdjakaiadggemaaApp
import Derived.Test.YtdjakaiadggemaaArgs
namespace Go.Proofs.Ytdjakaiadggemaa
open Go.RowKit
variable {w w' : World} {base : Nat}

def rowOf (l : List Sl) : List Value := l.flatMap Sl.cs
theorem rowOf_len (l : List Sl) : (rowOf l).length = l.length * 5 := by
  induction l with
  | nil => rfl
  | cons s l ih => simp only [rowOf, List.flatMap_cons, List.length_append, List.length_cons] at ih ⊢; rw [ih, show s.cs.length = 5 from rfl]; omega
theorem rowOf_at (l : List Sl) (i j : Nat) (s : Sl) (h : l[i]? = some s) (hj : j < 5) : (rowOf l)[i * 5 + j]? = s.cs[j]? := by
  induction l generalizing i with
  | nil => simp at h
  | cons t l ih =>
    simp only [rowOf, List.flatMap_cons] at ih ⊢
    cases i with
    | zero =>
      simp at h
      subst h
      rw [List.getElem?_append_left (by rw [show t.cs.length = 5 from rfl]; omega)]
      simp
    | succ i =>
      rw [List.getElem?_append_right (by rw [show t.cs.length = 5 from rfl]; omega), show t.cs.length = 5 from rfl, show (i + 1) * 5 + j - 5 = i * 5 + j by omega]
      exact ih i (by simpa using h)
theorem rowOf_snoc (l : List Sl) (s : Sl) : rowOf (l ++ [s]) = rowOf l ++ s.cs := by simp [rowOf]

theorem info_sl : (Try.prog.info? 42).map (fun i => (i.zero, i.size, i.bytes)) = some (some Sl.zero.v, 5, 32) := by kernel_rfl

/-- What the call owns reads as slices. -/
theorem IsSl.of_own {p : Option Addr} {n c : Nat} {l : List Sl} (hl : l.length = n) (h : w.ownsRow base 42 5 (.slice p n c) n (rowOf l)) : IsSl w p l ∧ n ≤ c ∧ c ≤ 9223372036854775807 := by
  subst hl
  have h' := h
  obtain ⟨_, hn | ⟨g, cap, cur, hv, _, hg, hle, hm, hs, ht⟩⟩ := h
  · obtain ⟨e, h0⟩ := hn
    injection e with e1 e2 e3
    subst e3
    exact ⟨fun h => by omega, by omega, by omega⟩
  · injection hv with e1 e2 e3
    subst e1 e3
    refine ⟨fun _ => ⟨g, 0, rfl, fun i s hi => ?_⟩, hle, by unfold maxLen at hm; omega⟩
    have key : ∀ j, j < 5 → w.cell? ⟨g, 0 + i * 5 + j, none⟩ = s.cs[j]? := fun j hj => by
      have hr := rowOf_at l i j s hi hj
      have hc := h'.cells (g := g) rfl (i * 5 + j) (s.cs[j]'(by simpa [Sl.cs] using hj)) (by rw [hr]; exact List.getElem?_eq_getElem _)
      rw [add_flat] at hc
      rw [show 0 + i * 5 + j = 0 + (i * 5 + j) by omega, hc]
      exact (List.getElem?_eq_getElem _).symm
    exact ⟨key 0 (by decide), key 1 (by decide), key 2 (by decide), key 3 (by decide), key 4 (by decide)⟩

theorem wp_append_sl {ops : Array Oper} {rest : List Oper} {o : Oper} {a : Act} {Q : Exit → Act → World → Prop} (hgd : o.guard = none) (s x : Operand)
    (ho : o.op = .call { callee := .builtin .append, args := #[s, x], argTypes := #[25, 25] })
    (v : Value) (n : Nat) (l : List Sl) (hs : a.eval s = v) (hown : w.ownsRow base 42 5 v n (rowOf l)) (t : Sl) (g : Nat) (hx : a.eval x = .slice (some ⟨g, 0, none⟩) 1 1) (hb : SlAt w g t)
    (h63 : n ≤ 1000000) (hbase : base ≤ w.heap.size)
    (h : ∀ v' w', w'.ownsRow base 42 5 v' (n + 1) (rowOf (l ++ [t])) → w.grownBy w' v.ownBlock → wpList Try.prog ops Q rest (a.put o.dst v') w') : wpList Try.prog ops Q (o :: rest) a w := by
  obtain ⟨i, hi, hz0, hz1, hz2⟩ := info_parts info_sl
  refine wpList_append_own w hgd s x _ ho base 42 i Sl.zero.v 5 32 Try.underlying25 hi hz0 hz1 hz2 rfl (by decide) v n (rowOf l) hs hown ⟨g, 0, none⟩ 1 1 t.cs hx rfl ?_ ?_ (by unfold maxLen; omega) (by omega) hbase ?_
  · intro j u hu
    rw [add_flat, cell_of hb, ← hu]
    simp [Sl.cs]
  · intro u hu
    simp only [Sl.cs, List.mem_cons, List.not_mem_nil, or_false] at hu
    rcases hu with rfl | rfl | rfl | rfl | rfl <;> rfl
  · intro v' w' h1 h2 _
    rw [← rowOf_snoc] at h1
    exact h v' w' h1 h2
/-- A value that is a row's is a slice. -/
theorem own_slice {v : Value} {n : Nat} {xs : List Value} {T : TypeId} {k : Nat} (h : w.ownsRow base T k v n xs) : ∃ q c, v = .slice q n c := by
  rcases h.2 with ⟨rfl, rfl⟩ | ⟨g, cap, cur, rfl, _⟩
  · exact ⟨_, _, rfl⟩
  · exact ⟨_, _, rfl⟩
end Go.Proofs.Ytdjakaiadggemaa
