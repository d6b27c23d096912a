/- Rows of one's own: one cell is written; some at the end are left. No condition. -/
import Derived.Test.YtmffpnhdnaokhaaDoorRowS
namespace Go.Proofs.YtmffpnhdnaokhaaDoor
open Go.RowKit
variable {w w' W V : World}

theorem own_set {B n k c g i : Nat} {T : TypeId} {xs : List Value} (h : W.ownsRow B T k (.slice (some ⟨g, 0, none⟩) n c) n xs) (u : Value) : (W.setCell ⟨g, i, none⟩ u).ownsRow B T k (.slice (some ⟨g, 0, none⟩) n c) n (xs.set i u) := by
  obtain ⟨h1, ⟨e, _⟩ | ⟨g', cap, cur, e, hb, hg, hn, hc, hs, ht⟩⟩ := h
  · cases e
  · injection e with e _ ec
    injection e with e
    injection e with e _ _
    subst e ec
    refine ⟨by rw [List.length_set]; exact h1, .inr ⟨g, c, cur.setIfInBounds i u, rfl, hb, heap_setCell_same W g i _ _ _ hg, hn, hc, by rw [Array.size_setIfInBounds]; exact hs, ?_⟩⟩
    rw [Array.toList_setIfInBounds, List.take_set, ht]
/-- The first so many of them. -/
theorem own_shrink {B n m k c : Nat} {q : Option Addr} {T : TypeId} {xs : List Value} (h : W.ownsRow B T k (.slice q n c) n xs) (hm : m ≤ n) : W.ownsRow B T k (.slice q m c) m (xs.take (m * k)) := by
  have hk : m * k ≤ n * k := Nat.mul_le_mul_right k hm
  obtain ⟨h1, ⟨e, e0⟩ | ⟨g', cap, cur, e, hb, hg, hn, hc, hs, ht⟩⟩ := h
  · injection e with e2 e3 e4
    have hm0 : m = 0 := by omega
    subst e2 e4 hm0
    exact ⟨by rw [List.length_take]; omega, .inl ⟨rfl, rfl⟩⟩
  · injection e with e e2 ec
    subst e ec
    refine ⟨by rw [List.length_take]; omega, .inr ⟨g', c, cur, rfl, hb, hg, by omega, hc, hs, ?_⟩⟩
    rw [← ht, List.take_take, Nat.min_eq_left hk]
end Go.Proofs.YtmffpnhdnaokhaaDoor
