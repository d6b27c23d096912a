/- Exports that were handed in: one by its value, and a slice of them, as they lie in memory. No condition. -/
import Derived.Test.YtblfighfahffkaaTrM
import Derived.Test.YtblfighfahffkaaArgs
import Derived.Test.YtblfighfahffkaaTrW
import Derived.WideShapes
namespace Go.Proofs.Ytblfighfahffkaa
open Go.RowKit Go.ChangeShapes Go.WideShapes Go.Deep
variable {w w' : World}

theorem ex_text (s : ByteArray) (h : s.size ≤ maxLen) : ∃ t : List Int, Byt t ∧ t.length ≤ 9223372036854775807 ∧ strOfNums t = s := by
  refine ⟨s.data.toList.map fun u => (u.toNat : Int), ?_, ?_, ?_⟩
  · intro x hx
    obtain ⟨u, _, rfl⟩ := List.mem_map.1 hx
    have := u.toNat_lt
    omega
  · rw [List.length_map, Array.length_toList]
    exact h
  · apply ByteArray.ext
    apply Array.toList_inj.1
    rw [strOfNums_data, List.map_map]
    conv => rhs; rw [← List.map_id s.data.toList]
    apply List.map_congr_left
    intro u _
    apply UInt8.toNat_inj.1
    have := u.toNat_lt
    simp only [Function.comp, UInt8.toNat_ofNat', id]
    omega

structure ExFits (nm : List Int) (x : Ex) : Prop where
  name : Byt nm
  len : nm.length ≤ 9223372036854775807
  other : Byt x.other
  olen : x.other.length ≤ 9223372036854775807
  kind : -9223372036854775808 ≤ x.kind ∧ x.kind ≤ 9223372036854775807
  value : 0 ≤ x.value ∧ x.value < 18446744073709551616
  resolver : 0 ≤ x.resolver ∧ x.resolver < 18446744073709551616
  ordinal : 0 ≤ x.ordinal ∧ x.ordinal < 18446744073709551616

set_option maxRecDepth 20000 in
theorem open_exc {H : Type} {enc : TypeId × Value → H} {base : Nat} {spare : Nat → Bool} {held : Bool} {fuel : Nat} {cs : List Value} {y : DataW H × List MemPlace}
    (hl : cs.length = 7) (h : DataW.trod enc Try.prog w base spare held fuel 33 cs = some y) : ∃ nm x, ExFits nm x ∧ cs = exCs (strOfNums nm) x := by
  obtain ⟨xs, n, _, _, _, hxl, hf⟩ := DataW.trod_struct Try.underlying33 h
  have q0 : Try.prog.cellsOf 9 = 1 := by kernel_rfl
  have q1 : Try.prog.cellsOf 30 = 1 := by kernel_rfl
  have q2 : Try.prog.cellsOf 4 = 1 := by kernel_rfl
  have q3 : Try.prog.cellsOf 31 = 1 := by kernel_rfl
  match cs, hl with
  | [c0, c1, c2, c3, c4, c5, c6], _ =>
    have g0 : DataW.trod enc Try.prog w base spare held n 9 (([c0, c1, c2, c3, c4, c5, c6].drop 0).take (Try.prog.cellsOf 9)) = xs[0]? := hf 0 _ rfl
    have g1 : DataW.trod enc Try.prog w base spare held n 30 (([c0, c1, c2, c3, c4, c5, c6].drop 1).take (Try.prog.cellsOf 30)) = xs[1]? := hf 1 _ rfl
    have g2 : DataW.trod enc Try.prog w base spare held n 4 (([c0, c1, c2, c3, c4, c5, c6].drop 2).take (Try.prog.cellsOf 4)) = xs[2]? := hf 2 _ rfl
    have g3 : DataW.trod enc Try.prog w base spare held n 31 (([c0, c1, c2, c3, c4, c5, c6].drop 3).take (Try.prog.cellsOf 31)) = xs[3]? := hf 3 _ rfl
    have g4 : DataW.trod enc Try.prog w base spare held n 31 (([c0, c1, c2, c3, c4, c5, c6].drop 4).take (Try.prog.cellsOf 31)) = xs[4]? := hf 4 _ rfl
    have g5 : DataW.trod enc Try.prog w base spare held n 31 (([c0, c1, c2, c3, c4, c5, c6].drop 5).take (Try.prog.cellsOf 31)) = xs[5]? := hf 5 _ rfl
    have g6 : DataW.trod enc Try.prog w base spare held n 9 (([c0, c1, c2, c3, c4, c5, c6].drop 6).take (Try.prog.cellsOf 9)) = xs[6]? := hf 6 _ rfl
    have lx : xs.length = 7 := hxl
    rw [List.getElem?_eq_getElem (by omega)] at g0 g1 g2 g3 g4 g5 g6
    rw [q0] at g0 g6
    rw [q1] at g1
    rw [q2] at g2
    rw [q3] at g3 g4 g5
    obtain ⟨s0, e0, _, l0⟩ := DataW.trod_string Try.underlying9 g0
    obtain ⟨n1, e1, _, w1⟩ := DataW.trod_int Try.underlying30 g1
    obtain ⟨b2, e2, _⟩ := DataW.trod_bool Try.underlying4 g2
    obtain ⟨n3, e3, _, w3⟩ := DataW.trod_int Try.underlying31 g3
    obtain ⟨n4, e4, _, w4⟩ := DataW.trod_int Try.underlying31 g4
    obtain ⟨n5, e5, _, w5⟩ := DataW.trod_int Try.underlying31 g5
    obtain ⟨s6, e6, _, l6⟩ := DataW.trod_string Try.underlying9 g6
    simp at e0 e1 e2 e3 e4 e5 e6
    subst e0 e1 e2 e3 e4 e5 e6
    obtain ⟨t0, b0, m0, rfl⟩ := ex_text s0 l0
    obtain ⟨t6, b6, m6, rfl⟩ := ex_text s6 l6
    exact ⟨t0, ⟨n1, b2, n3, n4, n5, t6⟩, ⟨b0, m0, b6, m6, i64_range w1, u64_range w3, u64_range w4, u64_range w5⟩, rfl⟩

set_option maxRecDepth 20000 in
/-- An export by its value. -/
theorem open_ex {H : Type} {enc : TypeId × Value → H} {r : Reach} {base b0 : Nat} {spare : Nat → Bool} {held : Bool} {v : Value} {d : DataW H} {p : List MemPlace}
    (hv : Value.okWide Try.prog w r b0 33 v) (h : DataW.Trod enc Try.prog w base spare held 33 v d p) : ∃ nm x, ExFits nm x ∧ v = exV (strOfNums nm) x := by
  obtain ⟨cs, rfl, hsz⟩ := okWide_struct Try.underlying33 hv
  obtain ⟨fuel, hf⟩ := h
  have hc : Try.prog.cellsOf 33 = 7 := by kernel_rfl
  obtain ⟨nm, x, hx, he⟩ := open_exc (by simp [Value.cells, hsz, hc]) hf
  refine ⟨nm, x, hx, ?_⟩
  unfold exV exArr
  congr 1
  apply Array.toList_inj.1
  simpa [Value.cells, exCs] using he
end Go.Proofs.Ytblfighfahffkaa
