/- Two rows of bytes of the call's own, in blocks apart: what is appended to the one, or stored in it, turns nothing of the other. No condition. -/
import Derived.Test.YtfdbmdkjmifpaaaPuts
import Derived.Laws.OwnMore
namespace Go.Proofs.Ytfdbmdkjmifpaaa
open Go.RowKit

structure Two (w0 w : World) (va : Value) (P : List Int) (vb : Value) (Q : List Int) : Prop where
  a : w.ownsRow w0.heap.size 5 1 va P.length (P.map (Value.int .u8))
  b : w.ownsRow w0.heap.size 5 1 vb Q.length (Q.map (Value.int .u8))
  ne : ∀ g, va.ownBlock = some g → vb.ownBlock ≠ some g
  bel : Below w0.heap.size w0 w
theorem Two.symm {w0 w : World} {va vb : Value} {P Q : List Int} (h : Two w0 w va P vb Q) : Two w0 w vb Q va P := ⟨h.b, h.a, fun g hg e => h.ne g e hg, h.bel⟩
theorem Two.step {w0 w w' : World} {va vb v' : Value} {P Q : List Int} {x : Int} {k : Nat} (h : Two w0 w va P vb Q) (hk : P.length = k)
    (h1 : w'.ownsRow w0.heap.size 5 1 v' (P.length + 1) (P.map (Value.int .u8) ++ [x].map (Value.int .u8))) (h2 : (w.alloc (.cells #[.int .u8 x] 5)).grownBy w' va.ownBlock)
    (h3 : v'.ownBlock = va.ownBlock ∨ v'.ownBlock = some (w.heap.size + 1)) :
    Two w0 w' v' (P ++ [x]) vb Q ∧ ∃ q c, v' = .slice q (k + 1) c := by
  subst hk
  have hl : (P ++ [x]).length = P.length + 1 := by simp
  refine ⟨⟨by rw [hl, List.map_append]; exact h1, ?_, fun g hg e => ?_, ?_⟩, own_slice h1⟩
  · refine (h.b.alloc _).kept h2 ?_
    cases hb : vb.ownBlock with
    | none => exact .inl rfl
    | some g => exact .inr (fun e => h.ne g e.symm hb)
  · rcases h3 with h3 | h3
    · exact h.ne g (h3 ▸ hg) e
    · rw [h3] at hg
      injection hg with hg
      have := (h.b.lt g e).2
      omega
  · exact (h.bel.alloc h.bel.size _).trans (below_grown h2 (by have := h.bel.size; simp; omega) (fun g hg => (h.a.lt g hg).1))
/-- The last byte turned. -/
theorem Two.last {w0 w : World} {g c : Nat} {vb : Value} {A Q : List Int} {x y : Int} {k : Nat} (hk : A.length = k) (h : Two w0 w (.slice (some ⟨g, 0, none⟩) (k + 1) c) (A ++ [x]) vb Q) :
    Two w0 (w.setCell ⟨g, k, none⟩ (.int .u8 y)) (.slice (some ⟨g, 0, none⟩) (k + 1) c) (A ++ [y]) vb Q := by
  subst hk
  have hl : ∀ z : Int, (A ++ [z]).length = A.length + 1 := fun z => by simp
  have ha := h.a
  rw [hl] at ha
  have hst := ha.stored A.length (.int .u8 y)
  have hset : ((A ++ [x]).map (Value.int .u8)).set A.length (.int .u8 y) = (A ++ [y]).map (Value.int .u8) := by
    rw [List.map_append, List.map_append]
    simp
  refine ⟨by rw [hl, ← hset]; exact hst.1, ?_, h.ne, ?_⟩
  · exact h.b.kept hst.2 (by
      cases hb : vb.ownBlock with
      | none => exact .inl rfl
      | some g' => exact .inr (fun e => h.ne g rfl (by rw [hb]; exact e)))
  · exact h.bel.trans (below_grown hst.2 h.bel.size (fun g' hg' => by injection hg' with e; subst e; exact (ha.lt g rfl).1))
theorem Two.cellA {w0 w : World} {g c : Nat} {vb : Value} {A Q : List Int} {x : Int} {k : Nat} (hk : A.length = k) (h : Two w0 w (.slice (some ⟨g, 0, none⟩) (k + 1) c) (A ++ [x]) vb Q) :
    w.cell? ⟨g, k, none⟩ = some (.int .u8 x) ∧ w.frozen? ⟨g, k, none⟩ = false := by
  subst hk
  have ha := h.a
  rw [show (A ++ [x]).length = A.length + 1 by simp] at ha
  refine ⟨?_, ha.frozenAt _⟩
  rw [ha.cellAt A.length (by omega)]
  simp
end Go.Proofs.Ytfdbmdkjmifpaaa
