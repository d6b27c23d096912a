/- Rows of one's own, and the library's sort: what the sort asks of them, and what they are behind it. No condition. -/
import Derived.Test.YtmffpnhdnaokhaaDoorRowS
import Derived.Shelf.SlSortCmp.WholeK
namespace Go.Proofs.YtmffpnhdnaokhaaDoor
open Go.RowKit Go.Sort
variable {w w' : World} {α : Type} [Inhabited α]

theorem grown_sort (enc : α → List Value) (k : Nat) (w : World) (blk off n : Nat) (d : Array α) (os : Array Obj) : w.grownBy (sortWorldK enc k w blk off n d os) (some blk) := by
  refine ⟨rfl, rfl, rfl, ?_, fun i hi hne => ?_⟩
  · simp only [sortWorldK, grow, putRowK, putRow, mapBlock, Sort.ahead, Array.size_append, Array.size_modify]
    omega
  · have hb : blk ≠ i := fun e => hne (by rw [e])
    simp only [sortWorldK, grow, putRowK, putRow, mapBlock, Sort.ahead]
    rw [Array.getElem?_append_left (by rw [Array.size_modify]; exact hi), Array.getElem?_modify, if_neg hb]
omit [Inhabited α] in
theorem own_free {T : TypeId} {k n c g lo : Nat} {xs : List Value} (h : w.ownsRow lo T k (.slice (some ⟨g, 0, none⟩) n c) n xs) (j : Nat) : w.frozen? ⟨g, j, none⟩ = false := by
  obtain ⟨_, hn | ⟨g', cap, cur, hv, _, hg, _⟩⟩ := h
  · cases hn.1
  · injection hv with h1 _ _
    injection h1 with h1
    injection h1 with h1 _ _
    subst h1
    exact free_of hg
omit [Inhabited α] in
theorem own_max {T : TypeId} {k n c lo : Nat} {q : Option Addr} {xs : List Value} (h : w.ownsRow lo T k (.slice q n c) n xs) : c ≤ 9223372036854775807 := by
  obtain ⟨_, hn | ⟨g', cap, cur, hv, _, _, _, hm, _⟩⟩ := h
  · injection hn.1 with _ _ h3; subst h3; exact Nat.zero_le _
  · injection hv with _ _ h3; subst h3; unfold maxLen at hm; omega
theorem holdsK_own {T : TypeId} {k n c g lo : Nat} {f : α → List Value} {l : List α} (hf : ∀ x, (f x).length = k) (h : w.ownsRow lo T k (.slice (some ⟨g, 0, none⟩) n c) n (l.flatMap f)) : HoldsK f k w g 0 l.toArray := by
  intro t ht
  rw [size_flatK] at ht
  have hk : 0 < k := by
    rcases Nat.eq_zero_or_pos k with e | e
    · subst e; simp at ht
    · exact e
  have hd : t / k < l.toArray.size := Nat.div_lt_of_lt_mul (by rw [Nat.mul_comm]; exact ht)
  have hd' : t / k < l.length := by simpa using hd
  have hm : t % k < k := Nat.mod_lt _ hk
  have hx : l[t / k]? = some (l[t / k]'hd') := List.getElem?_eq_getElem hd'
  obtain ⟨g', e, hc⟩ := row_cell hf h hx hm
  injection e with e
  injection e with e _ _
  subst e
  refine ⟨?_, own_free h _⟩
  have ea : l.toArray[t / k]! = l[t / k]'hd' := by rw [getElem!_pos l.toArray (t / k) hd]; rfl
  rw [Nat.zero_add, get_flatK _ _ _ _ ht, ea, getElem!_pos (f (l[t / k]'hd')) (t % k) (by rw [hf]; exact hm)]
  have e : t / k * k + t % k = t := by rw [Nat.mul_comm]; exact Nat.div_add_mod t k
  rw [e] at hc
  show w.cell? ⟨g, t, none⟩ = some ((f (l[t / k]'hd'))[t % k]'_)
  rw [hc, List.getElem?_eq_getElem (by rw [hf]; exact hm)]
theorem holds_grown (enc : α → List Value) (k : Nat) {blk n : Nat} {d d0 : Array α} {os : Array Obj} (h0 : HoldsK enc k w blk 0 d0) (hs : d.size = d0.size) (hb : blk < w.heap.size) : HoldsK enc k (sortWorldK enc k w blk 0 n d os) blk 0 d :=
  holdsK_sortWorldK_c enc k w blk 0 d0 d n os h0 hb hs
/-- A permutation that is sorted, as lists. -/
theorem perm_list {d d' : Array α} {lt : α → α → Bool} (hp : PermIn 0 d.size d d') (hs : SortedIn lt 0 d.size d') : d'.toList.Perm d.toList ∧ d'.size = d.size ∧ ∀ i j, i < j → j < d'.size → lt d'[j]! d'[i]! = false := by
  obtain ⟨h1, _, h3⟩ := hp
  refine ⟨?_, h1, fun i j hij hj => hs i j (Nat.zero_le _) hij (h1 ▸ hj)⟩
  rw [show d'.extract 0 d.size = d' from by rw [← h1]; exact Array.extract_size, show d.extract 0 d.size = d from Array.extract_size] at h3
  exact h3
end Go.Proofs.YtmffpnhdnaokhaaDoor
