/- How an argument that is a slice of slices of a file lies in memory: from the form's words to the walks'. No condition. -/
import Derived.Test.YtdjakaiadggemaaSl
import Derived.Test.YtdjakaiadggemaaArgs
import Derived.Deep.Slices
import Derived.ChangeSame
namespace Go.Proofs.Ytdjakaiadggemaa
open Go.RowKit Go.ChangeShapes Go.WideShapes Go.Deep
variable {w : World}

theorem u32_range {n : Int} (h : (Lit.int .u32 n).wf = true) : 0 ≤ n ∧ n < 4294967296 := by
  have : 0 ≤ n ∧ n ≤ 4294967295 := by simpa [Lit.wf, IntKind.min, IntKind.max, IntKind.signed, IntKind.bits] using h
  omega
theorem u64_range {n : Int} (h : (Lit.int .u64 n).wf = true) : 0 ≤ n ∧ n < 18446744073709551616 := by
  have : 0 ≤ n ∧ n ≤ 18446744073709551615 := by simpa [Lit.wf, IntKind.min, IntKind.max, IntKind.signed, IntKind.bits] using h
  omega

/-- One element's five cells. -/
def SlCells (w : World) (a : Addr) (s : Sl) : Prop :=
  w.cell? (a.add 0) = some (.int .u32 s.cpu) ∧ w.cell? (a.add 1) = some (.int .u32 s.sub) ∧ w.cell? (a.add 2) = some (.int .u64 s.off) ∧ w.cell? (a.add 3) = some (.int .u64 s.size) ∧ w.cell? (a.add 4) = some (.int .i64 s.align)

set_option maxRecDepth 20000 in
theorem open_sl {H : Type} {enc : TypeId × Value → H} {base : Nat} {spare : Nat → Bool} {held : Bool} {fuel : Nat} {cs : List Value} {x : DataW H × List MemPlace} {a : Addr}
    (hc : w.cells? base a 5 = some cs) (h : DataW.trod enc Try.prog w base spare held fuel 42 cs = some x) : ∃ s : Sl, s.Fits ∧ SlCells w a s := by
  obtain ⟨_, hcl, hat⟩ := World.cells?_some hc
  obtain ⟨xs, n, _, _, _, hxl, hf⟩ := DataW.trod_struct Try.underlying42 h
  have q4 : Try.prog.cellsOf 40 = 1 := by kernel_rfl
  have q8 : Try.prog.cellsOf 31 = 1 := by kernel_rfl
  have qi : Try.prog.cellsOf 3 = 1 := by kernel_rfl
  have qs : Try.prog.cellsOf 33 = 2 := by kernel_rfl
  match cs, hcl with
  | [c0, c1, c2, c3, c4], _ =>
    have g0 : DataW.trod enc Try.prog w base spare held n 40 (([c0, c1, c2, c3, c4].drop 0).take (Try.prog.cellsOf 40)) = xs[0]? := hf 0 _ rfl
    have g1 : DataW.trod enc Try.prog w base spare held n 40 (([c0, c1, c2, c3, c4].drop 1).take (Try.prog.cellsOf 40)) = xs[1]? := hf 1 _ rfl
    have g2 : DataW.trod enc Try.prog w base spare held n 33 (([c0, c1, c2, c3, c4].drop 2).take (Try.prog.cellsOf 33)) = xs[2]? := hf 2 _ rfl
    have g3 : DataW.trod enc Try.prog w base spare held n 3 (([c0, c1, c2, c3, c4].drop 4).take (Try.prog.cellsOf 3)) = xs[3]? := hf 3 _ rfl
    have lx : xs.length = 4 := hxl
    rw [List.getElem?_eq_getElem (by omega)] at g0
    rw [List.getElem?_eq_getElem (by omega)] at g1
    rw [List.getElem?_eq_getElem (by omega)] at g2
    rw [List.getElem?_eq_getElem (by omega)] at g3
    rw [q4] at g0 g1
    rw [qs] at g2
    rw [qi] at g3
    obtain ⟨n0, e0, _, w0⟩ := DataW.trod_int Try.underlying40 g0
    obtain ⟨n1, e1, _, w1⟩ := DataW.trod_int Try.underlying40 g1
    obtain ⟨n4, e4, _, w4⟩ := DataW.trod_int Try.underlying3 g3
    obtain ⟨ys, m, _, _, _, hyl, hg⟩ := DataW.trod_struct Try.underlying33 g2
    have k0 : DataW.trod enc Try.prog w base spare held m 31 (([c2, c3].drop 0).take (Try.prog.cellsOf 31)) = ys[0]? := hg 0 _ rfl
    have k1 : DataW.trod enc Try.prog w base spare held m 31 (([c2, c3].drop 1).take (Try.prog.cellsOf 31)) = ys[1]? := hg 1 _ rfl
    have ly : ys.length = 2 := hyl
    rw [List.getElem?_eq_getElem (by omega)] at k0
    rw [List.getElem?_eq_getElem (by omega)] at k1
    rw [q8] at k0 k1
    obtain ⟨n2, e2, _, w2⟩ := DataW.trod_int Try.underlying31 k0
    obtain ⟨n3, e3, _, w3⟩ := DataW.trod_int Try.underlying31 k1
    simp at e0 e1 e2 e3 e4
    subst e0 e1 e2 e3 e4
    exact ⟨⟨n0, n1, n2, n3, n4⟩, ⟨u32_range w0, u32_range w1, u64_range w2, u64_range w3, i64_range w4⟩, hat 0 (by decide), hat 1 (by decide), hat 2 (by decide), hat 3 (by decide), hat 4 (by decide)⟩

theorem list_of (n : Nat) (P : Nat → Sl → Prop) (h : ∀ i, i < n → ∃ s, P i s) : ∃ l : List Sl, l.length = n ∧ ∀ i s, l[i]? = some s → P i s := by
  have h' : ∀ i, ∃ s, i < n → P i s := fun i => by
    by_cases hi : i < n
    · obtain ⟨s, hs⟩ := h i hi; exact ⟨s, fun _ => hs⟩
    · exact ⟨Sl.zero, fun h => absurd h hi⟩
  refine ⟨(List.range n).map fun i => Classical.choose (h' i), by simp, fun i s hs => ?_⟩
  rw [List.getElem?_map] at hs
  rcases Nat.lt_or_ge i n with hi | hi
  · rw [List.getElem?_range hi] at hs
    injection hs with hs
    rw [← hs]
    exact Classical.choose_spec (h' i) hi
  · rw [List.getElem?_eq_none (by simpa using hi)] at hs
    cases hs

/-- A slice of slices that came in: these lie there; the numbers are those of their types. -/
theorem open_sls {H : Type} {enc : TypeId × Value → H} {base : Nat} {held : Bool} {fuel : Nat} {x : DataW H × List MemPlace} {a : Option Addr} {len cap : Nat}
    (h : DataW.trod enc Try.prog w base (fun _ => true) held fuel 25 [.slice a len cap] = some x) :
    ∃ l : List Sl, l.length = len ∧ IsSl w a l ∧ (∀ s ∈ l, s.Fits) ∧ len ≤ cap ∧ cap ≤ 9223372036854775807 ∧ (∀ y, a = some y → 0 < len → y.block < w.heap.size) := by
  rcases open_slice Try.underlying25 h with ⟨e, _⟩ | ⟨a', len', cap', m, n, D, Pl, hcs, hb, hl, hm, hmm, hx, hi⟩
  · injection e with e
    injection e with e1 e2 e3
    subst e1 e2 e3
    exact ⟨[], rfl, (fun h => by cases h), (fun s hs => by cases hs), Nat.le_refl _, by omega, (fun y hy => by cases hy)⟩
  · injection hcs with hcs
    injection hcs with e1 e2 e3
    subst e1 e2 e3
    simp only [if_true] at hmm
    subst hmm
    obtain ⟨l, hll, hlp⟩ := list_of len (fun i s => s.Fits ∧ SlCells w (a'.add (i * 5)) s) (fun i hil => by
      obtain ⟨cs', hc, ht⟩ := hi i (by omega)
      rw [show Try.prog.cellsOf 42 = 5 by kernel_rfl] at hc
      exact open_sl hc ht)
    have flat : 0 < l.length → ∃ b o, a' = ⟨b, o, none⟩ ∧ b < w.heap.size := fun h0 => by
      obtain ⟨_, hc, _⟩ := hlp 0 (l[0]'h0) (List.getElem?_eq_getElem h0)
      have hc' : w.cell? (a'.add 0) = some (.int .u32 (l[0]'h0).cpu) := by rw [Go.Deep.add_add] at hc; simpa using hc
      obtain ⟨b, o, rfl⟩ := flat_of_cell hc'
      exact ⟨b, o, rfl, World.block_lt_of_cell? w _ hc'⟩
    refine ⟨l, hll, fun h0 => ?_, fun s hs => ?_, hl, by unfold maxLen at hm; omega, fun y hy h0 => ?_⟩
    · obtain ⟨b, o, rfl, _⟩ := flat h0
      refine ⟨b, o, rfl, fun i s hs => ?_⟩
      obtain ⟨_, c0, c1, c2, c3, c4⟩ := hlp i s hs
      simp only [add_flat] at c0 c1 c2 c3 c4
      exact ⟨c0, c1, c2, c3, c4⟩
    · obtain ⟨i, hi2, rfl⟩ := List.getElem_of_mem hs
      exact (hlp i _ (List.getElem?_eq_getElem hi2)).1
    · injection hy with hy
      subst hy
      obtain ⟨b, o, rfl, hlt⟩ := flat (by omega)
      exact hlt
theorem IsSl.below {p : Option Addr} {l : List Sl} {w' : World} (h : IsSl w p l) (hb : Below w.heap.size w w') : IsSl w' p l := h.grown (grown_below hb none)
end Go.Proofs.Ytdjakaiadggemaa
