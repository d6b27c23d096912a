/- Symbols of a table in memory; symbols that were handed in. No condition. -/
import Derived.Test.YtlmgkofbjcahaaaNlN
import Derived.Test.YtlmgkofbjcahaaaRowS
import Derived.WideShapes
namespace Go.Proofs.Ytlmgkofbjcahaaa
open Go.RowKit Go.ChangeShapes Go.WideShapes Go.Deep
variable {w w' : World}

def syArr (nm : ByteArray) (x : Sy) : Array Value := #[.string nm, .int .i64 x.sec, .int .u64 x.value, .bool x.weak]
def syV (nm : ByteArray) (x : Sy) : Value := .agg (syArr nm x)
def syCs (y : Sym) : List Value := [.string (strOfNums y.1), .int .i64 y.2.sec, .int .u64 y.2.value, .bool y.2.weak]
theorem syCs_len (y : Sym) : (syCs y).length = 4 := rfl
theorem syCs_one (y : Sym) : ∀ u ∈ syCs y, u.oneCell' = true := by
  intro u hu
  simp only [syCs, List.mem_cons, List.not_mem_nil, or_false] at hu
  rcases hu with rfl | rfl | rfl | rfl <;> rfl
theorem syType : StType Try.prog 32 24 4 40 := .mk' Try.underlying24 (z := .agg #[.string ⟨#[]⟩, .int .i64 0, .int .u64 0, .bool false]) (by kernel_rfl) rfl (by decide)
/-- A symbol in a block of its own. -/
def SyAt (w : World) (g : Nat) (nm : ByteArray) (x : Sy) : Prop :=
  w.heap[g]? = some (.cells #[.string nm, .int .i64 x.sec, .int .u64 x.value, .bool x.weak] 32 (0, 0))
section
variable {g : Nat} {nm : ByteArray} {x : Sy}
theorem SyAt.kept {r : Option Nat} (h : SyAt w g nm x) (hg : w.grownBy w' r) (hr : r ≠ some g) : SyAt w' g nm x := (hg.block g (lt_of_block h) (fun e => hr e.symm)).trans h
theorem SyAt.lt (h : SyAt w g nm x) : g < w.heap.size := lt_of_block h
theorem SyAt.fz (h : SyAt w g nm x) (i : Nat) : w.frozen? ⟨g, i, none⟩ = false := free_of h
theorem SyAt.c (h : SyAt w g nm x) : w.cell? ⟨g, 0, none⟩ = some (.string nm) ∧ w.cell? ⟨g, 1, none⟩ = some (.int .i64 x.sec) ∧ w.cell? ⟨g, 2, none⟩ = some (.int .u64 x.value) ∧ w.cell? ⟨g, 3, none⟩ = some (.bool x.weak) := by
  refine ⟨?_, ?_, ?_, ?_⟩ <;> (rw [cell_of h]; rfl)
theorem SyAt.s0 (h : SyAt w g nm x) (k : ByteArray) : SyAt (w.setCell ⟨g, 0, none⟩ (.string k)) g k x := by unfold SyAt; rw [heap_setCell_same w g 0 _ _ _ h]; rfl
theorem SyAt.s1 (h : SyAt w g nm x) (k : Int) : SyAt (w.setCell ⟨g, 1, none⟩ (.int .i64 k)) g nm { x with sec := k } := by unfold SyAt; rw [heap_setCell_same w g 1 _ _ _ h]; rfl
theorem SyAt.s2 (h : SyAt w g nm x) (k : Int) : SyAt (w.setCell ⟨g, 2, none⟩ (.int .u64 k)) g nm { x with value := k } := by unfold SyAt; rw [heap_setCell_same w g 2 _ _ _ h]; rfl
theorem SyAt.s3 (h : SyAt w g nm x) (k : Bool) : SyAt (w.setCell ⟨g, 3, none⟩ (.bool k)) g nm { x with weak := k } := by unfold SyAt; rw [heap_setCell_same w g 3 _ _ _ h]; rfl
theorem SyAt.new (w : World) (nm : ByteArray) (x : Sy) : SyAt (w.alloc (.cells #[.string nm, .int .i64 x.sec, .int .u64 x.value, .bool x.weak] 32)) w.heap.size nm x := heap_alloc_new w _
theorem SyAt.put {nm0 : ByteArray} {x0 : Sy} (h : SyAt w g nm0 x0) (nm : ByteArray) (x : Sy) :
    SyAt ((((w.setCell ⟨g, 0, none⟩ (.string nm)).setCell ⟨g, 1, none⟩ (.int .i64 x.sec)).setCell ⟨g, 2, none⟩ (.int .u64 x.value)).setCell ⟨g, 3, none⟩ (.bool x.weak)) g nm x := by
  unfold SyAt
  rw [heap_setCell_same _ g 3 _ _ _ (heap_setCell_same _ g 2 _ _ _ (heap_setCell_same _ g 1 _ _ _ (heap_setCell_same w g 0 _ _ _ h)))]
  rfl
theorem grown_put4 (h : w.grownBy w' (some g)) (v0 v1 v2 v3 : Value) : w.grownBy ((((w'.setCell ⟨g, 0, none⟩ v0).setCell ⟨g, 1, none⟩ v1).setCell ⟨g, 2, none⟩ v2).setCell ⟨g, 3, none⟩ v3) (some g) :=
  grown_setCell (grown_setCell (grown_setCell (grown_setCell h _) _) _) _
theorem load_sy (h : SyAt w g nm x) : (loadVar 32 ⟨g, 0, none⟩).run Try.prog w = .ok (syV nm x) w :=
  run_loadVar_row w g _ _ _ _ _ h Try.underlying32 rfl (by kernel_rfl)
theorem results_sy {fn : Func} {p : Tmp} (hr : fn.results = #[.cell p 32]) {tmps : Array Value} (hp : tmps.getD p undef = .pointer (some ⟨g, 0, none⟩)) (h : SyAt w g nm x) :
    (results fn tmps).run Try.prog w = .ok (syV nm x) w := by
  have e : (asAddr (.pointer (some ⟨g, 0, none⟩)) : Sem Addr).run Try.prog w = .ok ⟨g, 0, none⟩ w := rfl
  simp only [Array.getD_eq_getD_getElem?] at hp
  simp only [results, hr]
  simp [Sem.run_bind, Result.andThen, hp, e, load_sy h]
end

/-- Symbols, by their cells, from any place on. -/
def SysAt (w : World) (q : Option Addr) (D : Syms) : Prop := ∀ i y, D[i]? = some y → ∃ g o, q = some ⟨g, o, none⟩ ∧ ∀ j, j < 4 → w.cell? ⟨g, o + i * 4 + j, none⟩ = (syCs y)[j]?
theorem SysAt.nil {q : Option Addr} : SysAt w q [] := fun i y hy => by simp at hy
theorem SysAt.grown {q : Option Addr} {D : Syms} (h : SysAt w q D) (hg : w.grownBy w' none) : SysAt w' q D := fun i y hy => by
  obtain ⟨g, o, e, hc⟩ := h i y hy
  refine ⟨g, o, e, fun j hj => ?_⟩
  have hl : j < (syCs y).length := hj
  have := hc j hj
  rw [List.getElem?_eq_getElem hl] at this ⊢
  exact grown_cell hg this
theorem SysAt.of {lo n c : Nat} {q : Option Addr} {D : Syms} (h : w.ownsRow lo 32 4 (.slice q n c) n (D.flatMap syCs)) : SysAt w q D := fun i y hy => by
  obtain ⟨g, e, h0⟩ := row_cell syCs_len h hy (j := 0) (by decide)
  refine ⟨g, 0, e, fun j hj => ?_⟩
  obtain ⟨g', e', hc⟩ := row_cell syCs_len h hy (j := j) hj
  rw [e] at e'
  injection e' with e'
  injection e' with e' _ _
  subst e'
  rw [Nat.zero_add]
  exact hc
theorem SysAt.at {q : Option Addr} {D : Syms} (h : SysAt w q D) {i : Nat} {y : Sym} (hy : D[i]? = some y) : ∃ g o, q = some ⟨g, o, none⟩ ∧ w.cell? ⟨g, o + i * 4, none⟩ = some (.string (strOfNums y.1)) ∧ w.cell? ⟨g, o + i * 4 + 1, none⟩ = some (.int .i64 y.2.sec) ∧ w.cell? ⟨g, o + i * 4 + 2, none⟩ = some (.int .u64 y.2.value) ∧
    w.cell? ⟨g, o + i * 4 + 3, none⟩ = some (.bool y.2.weak) := by
  obtain ⟨g, o, e, hc⟩ := h i y hy
  exact ⟨g, o, e, hc 0 (by decide), hc 1 (by decide), hc 2 (by decide), hc 3 (by decide)⟩

/-! What was handed in. -/
structure SyFits (nm : List Int) (x : Sy) : Prop where
  name : Byt nm
  len : nm.length ≤ 9223372036854775807
  sec : -9223372036854775808 ≤ x.sec ∧ x.sec ≤ 9223372036854775807
  value : 0 ≤ x.value ∧ x.value < 18446744073709551616

set_option maxRecDepth 20000 in
theorem open_syc {H : Type} {enc : TypeId × Value → H} {base : Nat} {spare : Nat → Bool} {held : Bool} {fuel : Nat} {cs : List Value} {y : DataW H × List MemPlace}
    (hl : cs.length = 4) (h : DataW.trod enc Try.prog w base spare held fuel 32 cs = some y) : ∃ nm x, SyFits nm x ∧ cs = syCs (nm, x) := by
  obtain ⟨xs, n, _, _, _, hxl, hf⟩ := DataW.trod_struct Try.underlying32 h
  have q0 : Try.prog.cellsOf 9 = 1 := by kernel_rfl
  have q1 : Try.prog.cellsOf 3 = 1 := by kernel_rfl
  have q2 : Try.prog.cellsOf 4 = 1 := by kernel_rfl
  have q3 : Try.prog.cellsOf 30 = 1 := by kernel_rfl
  match cs, hl with
  | [c0, c1, c2, c3], _ =>
    have g0 : DataW.trod enc Try.prog w base spare held n 9 (([c0, c1, c2, c3].drop 0).take (Try.prog.cellsOf 9)) = xs[0]? := hf 0 _ rfl
    have g1 : DataW.trod enc Try.prog w base spare held n 3 (([c0, c1, c2, c3].drop 1).take (Try.prog.cellsOf 3)) = xs[1]? := hf 1 _ rfl
    have g2 : DataW.trod enc Try.prog w base spare held n 30 (([c0, c1, c2, c3].drop 2).take (Try.prog.cellsOf 30)) = xs[2]? := hf 2 _ rfl
    have g3 : DataW.trod enc Try.prog w base spare held n 4 (([c0, c1, c2, c3].drop 3).take (Try.prog.cellsOf 4)) = xs[3]? := hf 3 _ rfl
    have lx : xs.length = 4 := hxl
    rw [List.getElem?_eq_getElem (by omega)] at g0 g1 g2 g3
    rw [q0] at g0
    rw [q1] at g1
    rw [q3] at g2
    rw [q2] at g3
    obtain ⟨s0, e0, _, l0⟩ := DataW.trod_string Try.underlying9 g0
    obtain ⟨n1, e1, _, w1⟩ := DataW.trod_int Try.underlying3 g1
    obtain ⟨n2, e2, _, w2⟩ := DataW.trod_int Try.underlying30 g2
    obtain ⟨b3, e3, _⟩ := DataW.trod_bool Try.underlying4 g3
    simp at e0 e1 e2 e3
    subst e0 e1 e2 e3
    obtain ⟨t0, b0, m0, rfl⟩ := ex_text s0 l0
    exact ⟨t0, ⟨n1, n2, b3⟩, ⟨b0, m0, i64_range w1, u64_range w2⟩, rfl⟩

set_option maxRecDepth 20000 in
/-- A symbol by its value. -/
theorem open_sy {H : Type} {enc : TypeId × Value → H} {r : Reach} {base b0 : Nat} {spare : Nat → Bool} {held : Bool} {v : Value} {d : DataW H} {p : List MemPlace}
    (hv : Value.okWide Try.prog w r b0 32 v) (h : DataW.Trod enc Try.prog w base spare held 32 v d p) : ∃ nm x, SyFits nm x ∧ v = syV (strOfNums nm) x := by
  obtain ⟨cs, rfl, hsz⟩ := okWide_struct Try.underlying32 hv
  obtain ⟨fuel, hf⟩ := h
  have hc : Try.prog.cellsOf 32 = 4 := by kernel_rfl
  obtain ⟨nm, x, hx, he⟩ := open_syc (by simp [Value.cells, hsz, hc]) hf
  refine ⟨nm, x, hx, ?_⟩
  unfold syV syArr
  congr 1
  apply Array.toList_inj.1
  simpa [Value.cells, syCs] using he
set_option maxRecDepth 20000 in
/-- A slice of symbols. -/
theorem open_sys {H : Type} {enc : TypeId × Value → H} {base : Nat} {held : Bool} {fuel : Nat} {x : DataW H × List MemPlace} {a : Option Addr} {len cap : Nat}
    (h : DataW.trod enc Try.prog w base (fun _ => true) held fuel 24 [.slice a len cap] = some x) :
    ∃ D : Syms, D.length = len ∧ SysAt w a D ∧ (∀ y ∈ D, SyFits y.1 y.2) ∧ len ≤ cap ∧ cap ≤ 9223372036854775807 := by
  rcases open_slice Try.underlying24 h with ⟨e, _⟩ | ⟨a', len', cap', m, n, D, Pl, hcs, hb, hl, hm, hmm, hx, hi⟩
  · injection e with e
    injection e with e1 e2 e3
    subst e1 e2 e3
    exact ⟨[], rfl, SysAt.nil, (fun s hs => by cases hs), Nat.le_refl _, by omega⟩
  · injection hcs with hcs
    injection hcs with e1 e2 e3
    subst e1 e2 e3
    simp only [if_true] at hmm
    subst hmm
    have hc7 : Try.prog.cellsOf 32 = 4 := by kernel_rfl
    obtain ⟨l, hll, hlp⟩ := list_ofE (([], Sy.zero) : Sym) len (fun i s => SyFits s.1 s.2 ∧ ∀ j, j < 4 → w.cell? (a'.add (i * 4 + j)) = (syCs s)[j]?) (fun i hil => by
      obtain ⟨cs', hc, ht⟩ := hi i (by omega)
      rw [hc7] at hc
      obtain ⟨_, hcl, hat⟩ := World.cells?_some hc
      obtain ⟨nm, y, hf, hcs⟩ := open_syc hcl ht
      refine ⟨(nm, y), hf, fun j hj => ?_⟩
      have := hat j hj
      rw [add_add] at this
      rw [this, hcs])
    refine ⟨l, hll, fun i y hy => ?_, fun y hy => ?_, hl, by unfold maxLen at hm; omega⟩
    · obtain ⟨hf, hc⟩ := hlp i y hy
      obtain ⟨b, o, rfl⟩ : ∃ b o, a' = ⟨b, o, none⟩ := by
        have hz := (hlp 0 (l[0]'(by have := (List.getElem?_eq_some_iff.1 hy).1; omega)) (List.getElem?_eq_getElem _)).2 0 (by decide)
        rw [Nat.zero_mul, Nat.zero_add] at hz
        exact flat_of_cell (v := .string (strOfNums (l[0]'(by have := (List.getElem?_eq_some_iff.1 hy).1; omega)).1)) hz
      refine ⟨b, o, rfl, fun j hj => ?_⟩
      have := hc j hj
      rw [add_flat] at this
      rw [show o + i * 4 + j = o + (i * 4 + j) by omega]
      exact this
    · obtain ⟨i, hi2, rfl⟩ := List.getElem_of_mem hy
      exact (hlp i _ (List.getElem?_eq_getElem hi2)).1
end Go.Proofs.Ytlmgkofbjcahaaa
