/- A byte of one of the rows that were got is written: the others stay. No condition. -/
import Derived.Test.YthdppaooemdmaaaBoth
import Derived.Test.YthdppaooemdmaaaGot
namespace Go.Proofs.Ythdppaooemdmaaa
open Go.RowKit
variable {w w' : World}

theorem rowC_set {l : List Cm} {i : Nat} {m m' : Cm} (hm : l[i]? = some m) (h : m'.cs = m.cs) : rowC (l.set i m') = rowC l := by
  induction l generalizing i with
  | nil => rfl
  | cons x l ih => cases i with
    | zero =>
      injection hm with hm
      subst hm
      simp [rowC, h]
    | succ i =>
      have := ih (i := i) (by simpa using hm)
      simp only [rowC] at this
      simp [rowC, this]
/-- The command with other bytes. -/
def Cm.with (m : Cm) (xs : List Int) : Cm := ⟨m.cmd, m.q, m.cap, xs⟩
theorem Got.write {base : Nat} {pre : List Cm} {lv : Value} (h : Got w base pre lv) {i : Nat} {m : Cm} (hm : pre[i]? = some m) {g : Nat} (hq : m.q = some ⟨g, 0, none⟩) {k : Nat} (hk : k < m.bytes.length) (x : Int) :
    Got (w.setCell ⟨g, k, none⟩ (.int .u8 x)) base (pre.set i (m.with (m.bytes.set k x))) lv := by
  have hcs : (m.with (m.bytes.set k x)).cs = m.cs := by simp [Cm.cs, Cm.with]
  have hqs : (m.with (m.bytes.set k x)).q = m.q := rfl
  have hmem := List.mem_of_getElem? hm
  have hmap : (pre.set i (m.with (m.bytes.set k x))).map Cm.q = pre.map Cm.q := by
    rw [List.map_set, hqs]
    refine List.ext_getElem? fun j => ?_
    rw [List.getElem?_set]
    split
    · rename_i e
      subst e
      split
      · rw [List.getElem?_map, hm]; rfl
      · rename_i hlt
        rw [List.getElem?_eq_none (by omega)]
    · rfl
  have hin : ∀ y ∈ pre.set i (m.with (m.bytes.set k x)), y = m.with (m.bytes.set k x) ∨ ∃ j, j ≠ i ∧ pre[j]? = some y := fun y hy => by
    obtain ⟨j, hj⟩ := List.mem_iff_getElem?.1 hy
    rw [List.getElem?_set] at hj
    split at hj
    · split at hj
      · injection hj with hj; exact .inl hj.symm
      · cases hj
    · rename_i e
      exact .inr ⟨j, fun e' => e e'.symm, hj⟩
  have hgr := grown_setCell (i := k) (grown_refl w (some g)) (.int .u8 x)
  obtain ⟨g', hq', ho⟩ := h.each m hmem
  obtain rfl : g' = g := by rw [hq] at hq'; injection hq' with e; injection e with e; exact e.symm
  refine ⟨?_, fun y hy => ?_, by rw [hmap]; exact h.apart, fun k' hk' y hy => ?_⟩
  · rw [rowC_set hm hcs, List.length_set]
    exact ownsRow_setCell_other h.own (fun e => h.off _ e m hmem hq) _
  · rcases hin y hy with rfl | ⟨j, hj, hyj⟩
    · refine ⟨g', hq, ?_⟩
      have := ho.set hk x
      have hl : (m.with (m.bytes.set k x)).bytes.length = m.bytes.length := List.length_set
      rw [hl]
      exact this
    · obtain ⟨gy, hqy, hoy⟩ := h.each y (List.mem_of_getElem? hyj)
      refine ⟨gy, hqy, hoy.kept hgr (fun e => ?_)⟩
      injection e with e
      subst e
      have hlt : j < (pre.map Cm.q).length := by rw [List.length_map]; exact (List.getElem?_eq_some_iff.1 hyj).1
      exact hj ((List.getElem?_inj hlt h.apart).1 (by rw [List.getElem?_map, List.getElem?_map, hyj, hm]; simp [hqy, hq]))
  · rcases hin y hy with rfl | ⟨j, hj, hyj⟩
    · exact h.off k' hk' m hmem
    · exact h.off k' hk' y (List.mem_of_getElem? hyj)
theorem set_other {α : Type} {l : List α} {i j : Nat} {x : α} (h : i < j) : (l.set i x)[j]? = l[j]? := by
  rw [List.getElem?_set]
  split
  · omega
  · rfl
end Go.Proofs.Ythdppaooemdmaaa
