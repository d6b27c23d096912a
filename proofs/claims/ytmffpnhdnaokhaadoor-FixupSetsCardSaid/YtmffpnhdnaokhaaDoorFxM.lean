/- Fixups in memory: one in a block of its own, one by its cells, some in a row; and as they are handed in. No condition. -/
import Derived.Test.YtmffpnhdnaokhaaDoorFxN
import Derived.Test.YtmffpnhdnaokhaaDoorOneAt
import Derived.Test.YtmffpnhdnaokhaaDoorRet
import Derived.Test.YtmffpnhdnaokhaaDoorRowS
import Derived.Test.YtmffpnhdnaokhaaDoorArgs
import Derived.WideShapes
import Derived.Laws.Slices
namespace Go.Proofs.YtmffpnhdnaokhaaDoor
open Go.RowKit Go.ChangeShapes Go.WideShapes Go.Deep
variable {w w' W V : World}

theorem fxCs_len (x : Fx) : (fxCs x).length = 7 := rfl
theorem fxCs_one (x : Fx) : ∀ u ∈ fxCs x, u.oneCell' = true := by
  intro u hu
  simp only [fxCs, List.mem_cons, List.not_mem_nil, or_false] at hu
  rcases hu with rfl | rfl | rfl | rfl | rfl | rfl | rfl <;> rfl
def fx0 : Fx := ⟨0, 0, 0, 0, ⟨#[]⟩, 0, false⟩
theorem fxType : StType Tryd.prog 26 36 7 64 := .mk' Tryd.underlying36 (z := .agg #[.int .u64 0, .int .i64 0, .int .u64 0, .int .i64 0, .string ⟨#[]⟩, .int .i64 0, .bool false]) (by kernel_rfl) rfl (by decide)
/-- A fixup in a block of its own. -/
def FxAt (w : World) (g : Nat) (x : Fx) : Prop :=
  w.heap[g]? = some (.cells #[.int .u64 x.at_, .int .i64 x.kind, .int .u64 x.target, .int .i64 x.ord, .string x.sym, .int .i64 x.add, .bool x.weak] 26 (0, 0))
section
variable {g : Nat} {x : Fx}
theorem FxAt.new (w : World) (x : Fx) : FxAt (w.alloc (.cells #[.int .u64 x.at_, .int .i64 x.kind, .int .u64 x.target, .int .i64 x.ord, .string x.sym, .int .i64 x.add, .bool x.weak] 26)) w.heap.size x := heap_alloc_new w _
theorem FxAt.kept {r : Option Nat} (h : FxAt w g x) (hg : w.grownBy w' r) (hr : r ≠ some g) : FxAt w' g x := (hg.block g (lt_of_block h) (fun e => hr e.symm)).trans h
theorem FxAt.grown (h : FxAt w g x) (hg : w.grownBy w' none) : FxAt w' g x := h.kept hg (by simp)
theorem FxAt.lt (h : FxAt w g x) : g < w.heap.size := lt_of_block h
theorem FxAt.fz (h : FxAt w g x) (i : Nat) : w.frozen? ⟨g, i, none⟩ = false := free_of h
theorem FxAt.c (h : FxAt w g x) : w.cell? ⟨g, 0, none⟩ = some (.int .u64 x.at_) ∧ w.cell? ⟨g, 1, none⟩ = some (.int .i64 x.kind) ∧ w.cell? ⟨g, 2, none⟩ = some (.int .u64 x.target) ∧ w.cell? ⟨g, 3, none⟩ = some (.int .i64 x.ord) ∧
    w.cell? ⟨g, 4, none⟩ = some (.string x.sym) ∧ w.cell? ⟨g, 5, none⟩ = some (.int .i64 x.add) ∧ w.cell? ⟨g, 6, none⟩ = some (.bool x.weak) := by
  refine ⟨?_, ?_, ?_, ?_, ?_, ?_, ?_⟩ <;> (rw [cell_of h]; rfl)
theorem load_fx (h : FxAt w g x) : (loadVar 26 ⟨g, 0, none⟩).run Tryd.prog w = .ok (fxV x) w :=
  run_loadVar_row w g _ _ _ _ _ h Tryd.underlying26 rfl (by kernel_rfl)
end
/-- One at any place, by its cells. -/
def FxIn (w : World) (g o : Nat) (x : Fx) : Prop := ∀ j, j < 7 → w.cell? ⟨g, o + j, none⟩ = (fxCs x)[j]?
theorem FxIn.c {g o : Nat} {x : Fx} (h : FxIn w g o x) : w.cell? ⟨g, o, none⟩ = some (.int .u64 x.at_) ∧ w.cell? ⟨g, o + 1, none⟩ = some (.int .i64 x.kind) ∧ w.cell? ⟨g, o + 2, none⟩ = some (.int .u64 x.target) ∧ w.cell? ⟨g, o + 3, none⟩ = some (.int .i64 x.ord) ∧
    w.cell? ⟨g, o + 4, none⟩ = some (.string x.sym) ∧ w.cell? ⟨g, o + 5, none⟩ = some (.int .i64 x.add) ∧ w.cell? ⟨g, o + 6, none⟩ = some (.bool x.weak) :=
  ⟨h 0 (by decide), h 1 (by decide), h 2 (by decide), h 3 (by decide), h 4 (by decide), h 5 (by decide), h 6 (by decide)⟩
/-- Fixups, wherever they lie. -/
def FxsAt (w : World) (q : Option Addr) (D : List Fx) : Prop := ∀ (i : Nat) (y : Fx), D[i]? = some y → ∃ g o, q = some ⟨g, o, none⟩ ∧ FxIn w g (o + i * 7) y
theorem FxsAt.nil {q : Option Addr} : FxsAt w q [] := fun i y hy => by simp at hy
theorem FxsAt.grown {q : Option Addr} {D : List Fx} (h : FxsAt w q D) {r : Option Nat} (hg : w.grownBy w' r) (hr : ∀ g o, q = some ⟨g, o, none⟩ → r ≠ some g) : FxsAt w' q D := fun i y hy => by
  obtain ⟨g, o, e, hc⟩ := h i y hy
  refine ⟨g, o, e, fun j hj => ?_⟩
  have h1 := hc j hj
  have h2 : (fxCs y)[j]? = some ((fxCs y)[j]'(by rw [fxCs_len]; exact hj)) := List.getElem?_eq_getElem _
  rw [h2] at h1 ⊢
  exact hg.cell h1 (fun e2 => hr g o e e2.symm)
theorem FxsAt.same {q : Option Addr} {D : List Fx} (h : FxsAt w q D) (hg : w.grownBy w' none) : FxsAt w' q D := h.grown hg (fun _ _ _ => by simp)
theorem FxsAt.of {lo n c : Nat} {q : Option Addr} {D : List Fx} (h : w.ownsRow lo 26 7 (.slice q n c) n (D.flatMap fxCs)) : FxsAt w q D := fun i y hy => by
  obtain ⟨g, e, -⟩ := row_cell fxCs_len h hy (j := 0) (by decide)
  refine ⟨g, 0, e, fun j hj => ?_⟩
  obtain ⟨g', e', h1⟩ := row_cell fxCs_len h hy hj
  rw [e] at e'
  injection e' with e'
  injection e' with e' _ _
  subst e'
  rw [Nat.zero_add]; exact h1

theorem list_ofF {α : Type} (z : α) (n : Nat) (P : Nat → α → Prop) (h : ∀ i, i < n → ∃ s, P i s) : ∃ l : List α, l.length = n ∧ ∀ i s, l[i]? = some s → P i s := by
  have h' : ∀ i, ∃ s, i < n → P i s := fun i => by
    by_cases hi : i < n
    · obtain ⟨s, hs⟩ := h i hi; exact ⟨s, fun _ => hs⟩
    · exact ⟨z, fun h => absurd h hi⟩
  refine ⟨(List.range n).map fun i => Classical.choose (h' i), by simp, fun i s hs => ?_⟩
  rw [List.getElem?_map] at hs
  rcases Nat.lt_or_ge i n with hi | hi
  · rw [List.getElem?_range hi] at hs
    injection hs with hs
    rw [← hs]
    exact Classical.choose_spec (h' i) hi
  · rw [List.getElem?_eq_none (by simpa using hi)] at hs
    cases hs
set_option maxRecDepth 20000 in
theorem open_fxc {H : Type} {enc : TypeId × Value → H} {base : Nat} {spare : Nat → Bool} {held : Bool} {fuel : Nat} {cs : List Value} {y : DataW H × List MemPlace}
    (hl : cs.length = 7) (h : DataW.trod enc Tryd.prog w base spare held fuel 26 cs = some y) : ∃ x, FxOk x ∧ cs = fxCs x := by
  obtain ⟨xs, n, _, _, _, hxl, hf⟩ := DataW.trod_struct Tryd.underlying26 h
  have q0 : Tryd.prog.cellsOf 9 = 1 := by kernel_rfl
  have q1 : Tryd.prog.cellsOf 24 = 1 := by kernel_rfl
  have q2 : Tryd.prog.cellsOf 4 = 1 := by kernel_rfl
  have q3 : Tryd.prog.cellsOf 23 = 1 := by kernel_rfl
  have q4 : Tryd.prog.cellsOf 3 = 1 := by kernel_rfl
  have q5 : Tryd.prog.cellsOf 2 = 1 := by kernel_rfl
  match cs, hl with
  | [c0, c1, c2, c3, c4, c5, c6], _ =>
    have g0 : DataW.trod enc Tryd.prog w base spare held n 23 (([c0, c1, c2, c3, c4, c5, c6].drop 0).take (Tryd.prog.cellsOf 23)) = xs[0]? := hf 0 _ rfl
    have g1 : DataW.trod enc Tryd.prog w base spare held n 24 (([c0, c1, c2, c3, c4, c5, c6].drop 1).take (Tryd.prog.cellsOf 24)) = xs[1]? := hf 1 _ rfl
    have g2 : DataW.trod enc Tryd.prog w base spare held n 23 (([c0, c1, c2, c3, c4, c5, c6].drop 2).take (Tryd.prog.cellsOf 23)) = xs[2]? := hf 2 _ rfl
    have g3 : DataW.trod enc Tryd.prog w base spare held n 3 (([c0, c1, c2, c3, c4, c5, c6].drop 3).take (Tryd.prog.cellsOf 3)) = xs[3]? := hf 3 _ rfl
    have g4 : DataW.trod enc Tryd.prog w base spare held n 9 (([c0, c1, c2, c3, c4, c5, c6].drop 4).take (Tryd.prog.cellsOf 9)) = xs[4]? := hf 4 _ rfl
    have g5 : DataW.trod enc Tryd.prog w base spare held n 2 (([c0, c1, c2, c3, c4, c5, c6].drop 5).take (Tryd.prog.cellsOf 2)) = xs[5]? := hf 5 _ rfl
    have g6 : DataW.trod enc Tryd.prog w base spare held n 4 (([c0, c1, c2, c3, c4, c5, c6].drop 6).take (Tryd.prog.cellsOf 4)) = xs[6]? := hf 6 _ rfl
    have lx : xs.length = 7 := hxl
    rw [List.getElem?_eq_getElem (by omega)] at g0 g1 g2 g3 g4 g5 g6
    rw [q3] at g0 g2
    rw [q1] at g1
    rw [q4] at g3
    rw [q0] at g4
    rw [q5] at g5
    rw [q2] at g6
    obtain ⟨n0, e0, _, w0⟩ := DataW.trod_int Tryd.underlying23 g0
    obtain ⟨n1, e1, _, w1⟩ := DataW.trod_int Tryd.underlying24 g1
    obtain ⟨n2, e2, _, w2⟩ := DataW.trod_int Tryd.underlying23 g2
    obtain ⟨n3, e3, _, w3⟩ := DataW.trod_int Tryd.underlying3 g3
    obtain ⟨s4, e4, _, l4⟩ := DataW.trod_string Tryd.underlying9 g4
    obtain ⟨n5, e5, _, w5⟩ := DataW.trod_int Tryd.underlying2 g5
    obtain ⟨b6, e6, _⟩ := DataW.trod_bool Tryd.underlying4 g6
    simp at e0 e1 e2 e3 e4 e5 e6
    subst e0 e1 e2 e3 e4 e5 e6
    exact ⟨⟨n0, n1, n2, n3, s4, n5, b6⟩, ⟨u64_range w0, i64_range w1, u64_range w2, i64_range w3, i64_range w5, by have := l4; unfold maxLen at this; omega⟩, rfl⟩

set_option maxRecDepth 20000 in
/-- A fixup by its value. -/
theorem open_fx {H : Type} {enc : TypeId × Value → H} {r : Reach} {base b0 : Nat} {spare : Nat → Bool} {held : Bool} {v : Value} {d : DataW H} {p : List MemPlace}
    (hv : Value.okWide Tryd.prog w r b0 26 v) (h : DataW.Trod enc Tryd.prog w base spare held 26 v d p) : ∃ x, FxOk x ∧ v = fxV x := by
  obtain ⟨cs, rfl, hsz⟩ := okWide_struct Tryd.underlying26 hv
  obtain ⟨fuel, hf⟩ := h
  have hc : Tryd.prog.cellsOf 26 = 7 := by kernel_rfl
  obtain ⟨x, hx, he⟩ := open_fxc (by simp [Value.cells, hsz, hc]) hf
  refine ⟨x, hx, ?_⟩
  unfold fxV fxArr
  congr 1
  apply Array.toList_inj.1
  simpa [Value.cells, fxCs] using he
set_option maxRecDepth 20000 in
/-- A slice of fixups that was handed in. -/
theorem open_fxs {H : Type} {enc : TypeId × Value → H} {base : Nat} {held : Bool} {fuel : Nat} {x : DataW H × List MemPlace} {a : Option Addr} {len cap : Nat}
    (h : DataW.trod enc Tryd.prog w base (fun _ => true) held fuel 36 [.slice a len cap] = some x) :
    ∃ D : List Fx, D.length = len ∧ FxsAt w a D ∧ (∀ y ∈ D, FxOk y) ∧ len ≤ cap ∧ cap ≤ 9223372036854775807 := by
  rcases open_slice Tryd.underlying36 h with ⟨e, _⟩ | ⟨a', len', cap', m, n, D, Pl, hcs, hb, hl, hm, hmm, hx, hi⟩
  · injection e with e
    injection e with e1 e2 e3
    subst e1 e2 e3
    exact ⟨[], rfl, FxsAt.nil, (fun s hs => by cases hs), Nat.le_refl _, by omega⟩
  · injection hcs with hcs
    injection hcs with e1 e2 e3
    subst e1 e2 e3
    simp only [if_true] at hmm
    subst hmm
    have hc7 : Tryd.prog.cellsOf 26 = 7 := by kernel_rfl
    obtain ⟨l, hll, hlp⟩ := list_ofF fx0 len (fun i s => FxOk s ∧ ∀ j, j < 7 → w.cell? (a'.add (i * 7 + j)) = (fxCs s)[j]?) (fun i hil => by
      obtain ⟨cs', hc, ht⟩ := hi i (by omega)
      rw [hc7] at hc
      obtain ⟨_, hcl, hat⟩ := World.cells?_some hc
      obtain ⟨y, hf, hcs⟩ := open_fxc hcl ht
      refine ⟨y, hf, fun j hj => ?_⟩
      have := hat j hj
      rw [add_add] at this
      rw [this, hcs])
    refine ⟨l, hll, fun i y hy => ?_, fun y hy => ?_, hl, by unfold maxLen at hm; omega⟩
    · obtain ⟨hf, hc⟩ := hlp i y hy
      obtain ⟨b, o, rfl⟩ : ∃ b o, a' = ⟨b, o, none⟩ := by
        have hz := (hlp 0 (l[0]'(by have := (List.getElem?_eq_some_iff.1 hy).1; omega)) (List.getElem?_eq_getElem _)).2 0 (by decide)
        rw [Nat.zero_mul, Nat.zero_add] at hz
        exact flat_of_cell (v := .int .u64 (l[0]'(by have := (List.getElem?_eq_some_iff.1 hy).1; omega)).at_) hz
      refine ⟨b, o, rfl, fun j hj => ?_⟩
      have := hc j hj
      rw [add_flat] at this
      rw [show o + i * 7 + j = o + (i * 7 + j) by omega]
      exact this
    · obtain ⟨i, hi2, rfl⟩ := List.getElem_of_mem hy
      exact (hlp i _ (List.getElem?_eq_getElem hi2)).1
end Go.Proofs.YtmffpnhdnaokhaaDoor
