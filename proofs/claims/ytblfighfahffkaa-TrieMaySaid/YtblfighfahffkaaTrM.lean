/- Exports, children and nodes of tries in memory. No condition. -/
import Derived.Test.YtblfighfahffkaaPenU
import Derived.Test.YtblfighfahffkaaRowS
import Derived.Laws.Slices
namespace Go.Proofs.Ytblfighfahffkaa
open Go.RowKit
variable {w w' : World}

def exArr (nm : ByteArray) (x : Ex) : Array Value := #[.string nm, .int .i64 x.kind, .bool x.weak, .int .u64 x.value, .int .u64 x.resolver, .int .u64 x.ordinal, .string (strOfNums x.other)]
def exV (nm : ByteArray) (x : Ex) : Value := .agg (exArr nm x)
def exCs (nm : ByteArray) (x : Ex) : List Value := [.string nm, .int .i64 x.kind, .bool x.weak, .int .u64 x.value, .int .u64 x.resolver, .int .u64 x.ordinal, .string (strOfNums x.other)]
theorem exCs_one (nm : ByteArray) (x : Ex) : ∀ u ∈ exCs nm x, u.oneCell' = true := by
  intro u hu
  simp only [exCs, List.mem_cons, List.not_mem_nil, or_false] at hu
  rcases hu with rfl | rfl | rfl | rfl | rfl | rfl | rfl <;> rfl
/-- An export in a block of its own. -/
def ExAt (w : World) (g : Nat) (nm : ByteArray) (x : Ex) : Prop :=
  w.heap[g]? = some (.cells #[.string nm, .int .i64 x.kind, .bool x.weak, .int .u64 x.value, .int .u64 x.resolver, .int .u64 x.ordinal, .string (strOfNums x.other)] 33 (0, 0))
section
variable {g : Nat} {nm : ByteArray} {x : Ex}
theorem ExAt.kept {r : Option Nat} (h : ExAt w g nm x) (hg : w.grownBy w' r) (hr : r ≠ some g) : ExAt w' g nm x := (hg.block g (lt_of_block h) (fun e => hr e.symm)).trans h
theorem ExAt.lt (h : ExAt w g nm x) : g < w.heap.size := lt_of_block h
theorem ExAt.fz (h : ExAt w g nm x) (i : Nat) : w.frozen? ⟨g, i, none⟩ = false := free_of h
theorem ExAt.c (h : ExAt w g nm x) : w.cell? ⟨g, 0, none⟩ = some (.string nm) ∧ w.cell? ⟨g, 1, none⟩ = some (.int .i64 x.kind) ∧ w.cell? ⟨g, 2, none⟩ = some (.bool x.weak) ∧ w.cell? ⟨g, 3, none⟩ = some (.int .u64 x.value) ∧
    w.cell? ⟨g, 4, none⟩ = some (.int .u64 x.resolver) ∧ w.cell? ⟨g, 5, none⟩ = some (.int .u64 x.ordinal) ∧ w.cell? ⟨g, 6, none⟩ = some (.string (strOfNums x.other)) := by
  refine ⟨?_, ?_, ?_, ?_, ?_, ?_, ?_⟩ <;> (rw [cell_of h]; rfl)
theorem ExAt.kind (h : ExAt w g nm x) (k : Int) : ExAt (w.setCell ⟨g, 1, none⟩ (.int .i64 k)) g nm { x with kind := k } := by unfold ExAt; rw [heap_setCell_same w g 1 _ _ _ h]; rfl
theorem ExAt.weak (h : ExAt w g nm x) (k : Bool) : ExAt (w.setCell ⟨g, 2, none⟩ (.bool k)) g nm { x with weak := k } := by unfold ExAt; rw [heap_setCell_same w g 2 _ _ _ h]; rfl
theorem ExAt.value (h : ExAt w g nm x) (k : Int) : ExAt (w.setCell ⟨g, 3, none⟩ (.int .u64 k)) g nm { x with value := k } := by unfold ExAt; rw [heap_setCell_same w g 3 _ _ _ h]; rfl
theorem ExAt.resolver (h : ExAt w g nm x) (k : Int) : ExAt (w.setCell ⟨g, 4, none⟩ (.int .u64 k)) g nm { x with resolver := k } := by unfold ExAt; rw [heap_setCell_same w g 4 _ _ _ h]; rfl
theorem ExAt.ordinal (h : ExAt w g nm x) (k : Int) : ExAt (w.setCell ⟨g, 5, none⟩ (.int .u64 k)) g nm { x with ordinal := k } := by unfold ExAt; rw [heap_setCell_same w g 5 _ _ _ h]; rfl
theorem ExAt.other (h : ExAt w g nm x) (k : List Int) : ExAt (w.setCell ⟨g, 6, none⟩ (.string (strOfNums k))) g nm { x with other := k } := by unfold ExAt; rw [heap_setCell_same w g 6 _ _ _ h]; rfl
theorem ExAt.put {nm0 : ByteArray} {x0 : Ex} (h : ExAt w g nm0 x0) (nm : ByteArray) (x : Ex) :
    ExAt (((((((w.setCell ⟨g, 0, none⟩ (.string nm)).setCell ⟨g, 1, none⟩ (.int .i64 x.kind)).setCell ⟨g, 2, none⟩ (.bool x.weak)).setCell ⟨g, 3, none⟩ (.int .u64 x.value)).setCell ⟨g, 4, none⟩ (.int .u64 x.resolver)).setCell ⟨g, 5, none⟩ (.int .u64 x.ordinal)).setCell ⟨g, 6, none⟩ (.string (strOfNums x.other))) g nm x := by
  unfold ExAt
  rw [heap_setCell_same _ g 6 _ _ _ (heap_setCell_same _ g 5 _ _ _ (heap_setCell_same _ g 4 _ _ _ (heap_setCell_same _ g 3 _ _ _ (heap_setCell_same _ g 2 _ _ _ (heap_setCell_same _ g 1 _ _ _ (heap_setCell_same w g 0 _ _ _ h))))))]
  rfl
theorem grown_put7 (h : w.grownBy w' (some g)) (v0 v1 v2 v3 v4 v5 v6 : Value) : w.grownBy (((((((w'.setCell ⟨g, 0, none⟩ v0).setCell ⟨g, 1, none⟩ v1).setCell ⟨g, 2, none⟩ v2).setCell ⟨g, 3, none⟩ v3).setCell ⟨g, 4, none⟩ v4).setCell ⟨g, 5, none⟩ v5).setCell ⟨g, 6, none⟩ v6) (some g) :=
  grown_setCell (grown_setCell (grown_setCell (grown_setCell (grown_setCell (grown_setCell (grown_setCell h _) _) _) _) _) _) _
theorem load_ex (h : ExAt w g nm x) : (loadVar 33 ⟨g, 0, none⟩).run Try.prog w = .ok (exV nm x) w :=
  run_loadVar_row w g _ _ _ _ _ h Try.underlying33 rfl (by kernel_rfl)
theorem results_ex {fn : Func} {p : Tmp} (hr : fn.results = #[.cell p 33]) {tmps : Array Value} (hp : tmps.getD p undef = .pointer (some ⟨g, 0, none⟩)) (h : ExAt w g nm x) :
    (results fn tmps).run Try.prog w = .ok (exV nm x) w := by
  have e : (asAddr (.pointer (some ⟨g, 0, none⟩)) : Sem Addr).run Try.prog w = .ok ⟨g, 0, none⟩ w := rfl
  simp only [Array.getD_eq_getD_getElem?] at hp
  simp only [results, hr]
  simp [Sem.run_bind, Result.andThen, hp, e, load_ex h]
end

/-- Of an edge and a place: a child, as cells. -/
def kidCs (x : Kid) : List Value := [.string (strOfNums x.1), .int .u64 x.2]
theorem kidCs_len (x : Kid) : (kidCs x).length = 2 := rfl
theorem kidCs_one (x : Kid) : ∀ u ∈ kidCs x, u.oneCell' = true := by
  intro u hu
  simp only [kidCs, List.mem_cons, List.not_mem_nil, or_false] at hu
  rcases hu with rfl | rfl <;> rfl
theorem kidType : StType Try.prog 92 51 2 24 := .mk' Try.underlying51 (z := .agg #[.string ⟨#[]⟩, .int .u64 0]) (by kernel_rfl) rfl (by decide)
/-- Children, wherever they lie. -/
def KidsAt (w : World) (q : Option Addr) (l : List Kid) : Prop := ∀ i x, l[i]? = some x → ∃ g o, q = some ⟨g, o, none⟩ ∧ w.cell? ⟨g, o + i * 2, none⟩ = some (.string (strOfNums x.1)) ∧ w.cell? ⟨g, o + i * 2 + 1, none⟩ = some (.int .u64 x.2)
theorem KidsAt.of {lo n c : Nat} {q : Option Addr} {l : List Kid} (h : w.ownsRow lo 92 2 (.slice q n c) n (l.flatMap kidCs)) : KidsAt w q l := fun i x hx => by
  obtain ⟨g, e, h0⟩ := row_cell kidCs_len h hx (j := 0) (by decide)
  obtain ⟨g', e', h1⟩ := row_cell kidCs_len h hx (j := 1) (by decide)
  rw [e] at e'
  injection e' with e'
  injection e' with e' _ _
  subst e'
  refine ⟨g, 0, e, ?_, ?_⟩
  · rw [Nat.zero_add]; exact h0
  · rw [Nat.zero_add]; exact h1
theorem KidsAt.grown {q : Option Addr} {l : List Kid} (h : KidsAt w q l) (hg : w.grownBy w' none) : KidsAt w' q l := fun i x hx => by
  obtain ⟨g, o, e, c0, c1⟩ := h i x hx
  exact ⟨g, o, e, grown_cell hg c0, grown_cell hg c1⟩
theorem KidsAt.nil {q : Option Addr} : KidsAt w q [] := fun i x hx => by simp at hx

/-- A node in a block of its own. -/
def nodeV (b : Bool) (nm : ByteArray) (x : Ex) (v : Value) : Value := .agg #[.bool b, .string nm, .int .i64 x.kind, .bool x.weak, .int .u64 x.value, .int .u64 x.resolver, .int .u64 x.ordinal, .string (strOfNums x.other), v]
def NodeAt (w : World) (g : Nat) (b : Bool) (nm : ByteArray) (x : Ex) (v : Value) : Prop :=
  w.heap[g]? = some (.cells #[.bool b, .string nm, .int .i64 x.kind, .bool x.weak, .int .u64 x.value, .int .u64 x.resolver, .int .u64 x.ordinal, .string (strOfNums x.other), v] 53 (0, 0))
section
variable {g : Nat} {b : Bool} {nm : ByteArray} {x : Ex} {v : Value}
theorem NodeAt.kept {r : Option Nat} (h : NodeAt w g b nm x v) (hg : w.grownBy w' r) (hr : r ≠ some g) : NodeAt w' g b nm x v := (hg.block g (lt_of_block h) (fun e => hr e.symm)).trans h
theorem NodeAt.lt (h : NodeAt w g b nm x v) : g < w.heap.size := lt_of_block h
theorem NodeAt.fz (h : NodeAt w g b nm x v) (i : Nat) : w.frozen? ⟨g, i, none⟩ = false := free_of h
theorem NodeAt.c (h : NodeAt w g b nm x v) : w.cell? ⟨g, 0, none⟩ = some (.bool b) ∧ w.cell? ⟨g, 1, none⟩ = some (.string nm) ∧ w.cell? ⟨g, 2, none⟩ = some (.int .i64 x.kind) ∧ w.cell? ⟨g, 3, none⟩ = some (.bool x.weak) ∧ w.cell? ⟨g, 4, none⟩ = some (.int .u64 x.value) ∧
    w.cell? ⟨g, 5, none⟩ = some (.int .u64 x.resolver) ∧ w.cell? ⟨g, 6, none⟩ = some (.int .u64 x.ordinal) ∧ w.cell? ⟨g, 7, none⟩ = some (.string (strOfNums x.other)) ∧ w.cell? ⟨g, 8, none⟩ = some v := by
  refine ⟨?_, ?_, ?_, ?_, ?_, ?_, ?_, ?_, ?_⟩ <;> (rw [cell_of h]; rfl)
theorem NodeAt.kids (h : NodeAt w g b nm x v) (u : Value) : NodeAt (w.setCell ⟨g, 8, none⟩ u) g b nm x u := by unfold NodeAt; rw [heap_setCell_same w g 8 _ _ _ h]; rfl
theorem NodeAt.s0 (h : NodeAt w g b nm x v) (k : Bool) : NodeAt (w.setCell ⟨g, 0, none⟩ (.bool k)) g k nm x v := by unfold NodeAt; rw [heap_setCell_same w g 0 _ _ _ h]; rfl
theorem NodeAt.s1 (h : NodeAt w g b nm x v) (k : ByteArray) : NodeAt (w.setCell ⟨g, 1, none⟩ (.string k)) g b k x v := by unfold NodeAt; rw [heap_setCell_same w g 1 _ _ _ h]; rfl
theorem NodeAt.s2 (h : NodeAt w g b nm x v) (k : Int) : NodeAt (w.setCell ⟨g, 2, none⟩ (.int .i64 k)) g b nm { x with kind := k } v := by unfold NodeAt; rw [heap_setCell_same w g 2 _ _ _ h]; rfl
theorem NodeAt.s3 (h : NodeAt w g b nm x v) (k : Bool) : NodeAt (w.setCell ⟨g, 3, none⟩ (.bool k)) g b nm { x with weak := k } v := by unfold NodeAt; rw [heap_setCell_same w g 3 _ _ _ h]; rfl
theorem NodeAt.s4 (h : NodeAt w g b nm x v) (k : Int) : NodeAt (w.setCell ⟨g, 4, none⟩ (.int .u64 k)) g b nm { x with value := k } v := by unfold NodeAt; rw [heap_setCell_same w g 4 _ _ _ h]; rfl
theorem NodeAt.s5 (h : NodeAt w g b nm x v) (k : Int) : NodeAt (w.setCell ⟨g, 5, none⟩ (.int .u64 k)) g b nm { x with resolver := k } v := by unfold NodeAt; rw [heap_setCell_same w g 5 _ _ _ h]; rfl
theorem NodeAt.s6 (h : NodeAt w g b nm x v) (k : Int) : NodeAt (w.setCell ⟨g, 6, none⟩ (.int .u64 k)) g b nm { x with ordinal := k } v := by unfold NodeAt; rw [heap_setCell_same w g 6 _ _ _ h]; rfl
theorem NodeAt.s7 (h : NodeAt w g b nm x v) (k : List Int) : NodeAt (w.setCell ⟨g, 7, none⟩ (.string (strOfNums k))) g b nm { x with other := k } v := by unfold NodeAt; rw [heap_setCell_same w g 7 _ _ _ h]; rfl
theorem NodeAt.said (h : NodeAt w g b nm x v) (nm' : ByteArray) (y : Ex) :
    NodeAt ((((((((w.setCell ⟨g, 0, none⟩ (.bool true)).setCell ⟨g, 1, none⟩ (.string nm')).setCell ⟨g, 2, none⟩ (.int .i64 y.kind)).setCell ⟨g, 3, none⟩ (.bool y.weak)).setCell ⟨g, 4, none⟩ (.int .u64 y.value)).setCell ⟨g, 5, none⟩ (.int .u64 y.resolver)).setCell ⟨g, 6, none⟩ (.int .u64 y.ordinal)).setCell ⟨g, 7, none⟩ (.string (strOfNums y.other))) g true nm' y v :=
  (((((((h.s0 true).s1 nm').s2 y.kind).s3 y.weak).s4 y.value).s5 y.resolver).s6 y.ordinal).s7 y.other
theorem load_node (h : NodeAt w g b nm x v) : (loadVar 53 ⟨g, 0, none⟩).run Try.prog w = .ok (nodeV b nm x v) w :=
  run_loadVar_row w g _ _ _ _ _ h Try.underlying53 rfl (by kernel_rfl)
theorem results_node {fn : Func} {p : Tmp} (hr : fn.results = #[.cell p 53]) {tmps : Array Value} (hp : tmps.getD p undef = .pointer (some ⟨g, 0, none⟩)) (h : NodeAt w g b nm x v) :
    (results fn tmps).run Try.prog w = .ok (nodeV b nm x v) w := by
  have e : (asAddr (.pointer (some ⟨g, 0, none⟩)) : Sem Addr).run Try.prog w = .ok ⟨g, 0, none⟩ w := rfl
  simp only [Array.getD_eq_getD_getElem?] at hp
  simp only [results, hr]
  simp [Sem.run_bind, Result.andThen, hp, e, load_node h]
theorem results_node2 {fn : Func} {p u : Tmp} (hr : fn.results = #[.cell p 53, .tmp u]) {tmps : Array Value} {y : Value} (hp : tmps.getD p undef = .pointer (some ⟨g, 0, none⟩)) (hu : tmps.getD u undef = y) (h : NodeAt w g b nm x v) :
    (results fn tmps).run Try.prog w = .ok (.tuple #[nodeV b nm x v, y]) w := by
  rw [results_cell_tmp hr, hp, hu, show (asAddr (.pointer (some ⟨g, 0, none⟩)) : Sem Addr).run Try.prog w = .ok ⟨g, 0, none⟩ w from rfl, Result.andThen_ok, load_node h, Result.andThen_ok]
end

/-! A slice from a place on. -/
theorem cut_lo {T k : Nat} (ht : Try.prog.underlying T = some (.slice (Try.prog.elem T))) (hs : ∀ W, (sizeOf (Try.prog.elem T)).run Try.prog W = .ok k W) (b o n c p : Nat) (kl : IntKind) (hp : p ≤ n) :
    ∃ V : Option Addr, (∀ W, (Instr.slice T (.slice (some ⟨b, o, none⟩) n c) (some (.int kl (p : Int))) none none).run Try.prog W = .ok (.slice V (n - p) (c - p)) W) ∧ (V = some ⟨b, o, none⟩ ∧ c = p ∨ V = some ⟨b, o + p * k, none⟩) := by
  by_cases hc : c = p
  · refine ⟨some ⟨b, o, none⟩, fun W => ?_, .inl ⟨rfl, hc⟩⟩
    rw [run_slice_l (P := Try.prog) W T (some ⟨b, o, none⟩) n c ht kl (p : Int) (by omega) (by omega), hs]
    simp only [Result.andThen, sliced]
    rw [if_pos (by omega), show ((p : Int)).toNat = p by omega]
  · refine ⟨some ⟨b, o + p * k, none⟩, fun W => ?_, .inr rfl⟩
    rw [run_slice_l (P := Try.prog) W T (some ⟨b, o, none⟩) n c ht kl (p : Int) (by omega) (by omega), hs]
    simp only [Result.andThen, sliced]
    rw [if_neg (by omega), show ((p : Int)).toNat = p by omega]
    simp only [Option.map_some, add_flat]
theorem cut_bytes {b o c p : Nat} {xs : List Int} (hx : ∀ i, i < xs.length → w.cell? ⟨b, o + i, none⟩ = some (.int .u8 (xs.getD i 0))) (hc : xs.length ≤ c) (hp : p ≤ xs.length) (kl : IntKind) :
    ∃ V : Option Addr, (∀ W, (Instr.slice 22 (.slice (some ⟨b, o, none⟩) xs.length c) (some (.int kl (p : Int))) none none).run Try.prog W = .ok (.slice V (xs.length - p) (c - p)) W) ∧ IsBytes w V (c - p) (xs.drop p) ∧ (p < xs.length → V = some ⟨b, o + p, none⟩) := by
  obtain ⟨V, hV, h⟩ := cut_lo (T := 22) (k := 1) (by kernel_rfl) (fun W => by kernel_rfl) b o xs.length c p kl hp
  refine ⟨V, hV, ?_, fun hlt => ?_⟩
  · rcases h with ⟨rfl, h⟩ | rfl
    · rw [List.drop_eq_nil_of_le (by omega)]
      exact IsBytes.empty
    · refine IsBytes.mk_at fun i hi => ?_
      rw [List.length_drop] at hi
      rw [Nat.mul_one, Nat.add_assoc, hx (p + i) (by omega)]
      simp [List.getD, List.getElem?_drop]
  · rcases h with ⟨_, h⟩ | rfl
    · omega
    · rw [Nat.mul_one]

/-! Bits. -/
theorem nat_and4 (n : Nat) : n &&& 4 = n / 4 % 2 * 4 := by
  apply Nat.eq_of_testBit_eq
  intro i
  rw [Nat.testBit_and, show (4 : Nat) = 2 ^ 2 by decide, Nat.testBit_two_pow]
  rcases Nat.mod_two_eq_zero_or_one (n / 2 ^ 2) with h | h
  · rw [h, Nat.zero_mul, Nat.zero_testBit]
    by_cases hi : 2 = i
    · subst hi
      rw [Nat.testBit_eq_decide_div_mod_eq, h]; rfl
    · rw [decide_eq_false hi, Bool.and_false]
  · rw [h, Nat.one_mul, Nat.testBit_two_pow]
    by_cases hi : 2 = i
    · subst hi
      rw [Nat.testBit_eq_decide_div_mod_eq, h]; rfl
    · rw [decide_eq_false hi, Bool.and_false]
theorem and4 (F : Int) (h : 0 ≤ F ∧ F < 18446744073709551616) : bits .and .u64 F 4 = F / 4 % 2 * 4 := by
  obtain ⟨n, rfl⟩ := Int.eq_ofNat_of_zero_le h.1
  have e : ((n : Int) % ((2 ^ 64 : Nat) : Int)).toNat = n := by omega
  have key : (BitVec.ofInt 64 (n : Int) &&& BitVec.ofInt 64 4).toNat = n / 4 % 2 * 4 := by
    rw [BitVec.toNat_and, BitVec.toNat_ofInt, e, show (BitVec.ofInt 64 4).toNat = 4 by decide, nat_and4]
  show IntKind.u64.wrap ((BitVec.ofInt 64 (n : Int) &&& BitVec.ofInt 64 4).toNat : Nat) = _
  rw [key, IntKind.wrap_u64]
  omega
theorem andNot4 (F : Int) (h : 0 ≤ F ∧ F < 18446744073709551616) : bits .andNot .u64 F 4 = knN F := by
  obtain ⟨n, rfl⟩ := Int.eq_ofNat_of_zero_le h.1
  have e : ((n : Int) % ((2 ^ 64 : Nat) : Int)).toNat = n := by omega
  have key : (BitVec.ofInt 64 (n : Int) &&& ~~~ BitVec.ofInt 64 4).toNat + n / 4 % 2 * 4 = n := by
    have h1 : (BitVec.ofInt 64 (n : Int) &&& BitVec.ofInt 64 4).toNat = n / 4 % 2 * 4 := by
      rw [BitVec.toNat_and, BitVec.toNat_ofInt, e, show (BitVec.ofInt 64 4).toNat = 4 by decide, nat_and4]
    rw [← h1]
    have h2 : (BitVec.ofInt 64 (n : Int) &&& ~~~ BitVec.ofInt 64 4) + (BitVec.ofInt 64 (n : Int) &&& BitVec.ofInt 64 4) = BitVec.ofInt 64 (n : Int) := by
      rw [BitVec.add_eq_or_of_and_eq_zero]
      · ext i hi
        simp only [BitVec.getElem_or, BitVec.getElem_and, BitVec.getElem_not]
        cases (BitVec.ofInt 64 (n : Int))[i] <;> cases (BitVec.ofInt 64 4)[i] <;> rfl
      · ext i hi
        simp only [BitVec.getElem_and, BitVec.getElem_not, BitVec.getElem_zero]
        cases (BitVec.ofInt 64 (n : Int))[i] <;> cases (BitVec.ofInt 64 4)[i] <;> rfl
    have h3 := congrArg BitVec.toNat h2
    rw [BitVec.toNat_add, BitVec.toNat_ofInt, e] at h3
    have h4 : (BitVec.ofInt 64 (n : Int) &&& ~~~ BitVec.ofInt 64 4).toNat ≤ n := by
      rw [BitVec.toNat_and, BitVec.toNat_ofInt, e]; exact Nat.and_le_left
    have h5 : (BitVec.ofInt 64 (n : Int) &&& BitVec.ofInt 64 4).toNat ≤ 4 := by rw [h1]; omega
    rcases Nat.lt_or_ge ((BitVec.ofInt 64 (n : Int) &&& ~~~ BitVec.ofInt 64 4).toNat + (BitVec.ofInt 64 (n : Int) &&& BitVec.ofInt 64 4).toNat) (2 ^ 64) with h6 | h6
    · rw [Nat.mod_eq_of_lt h6] at h3; exact h3
    · rw [Nat.mod_eq_sub_mod h6, Nat.mod_eq_of_lt (by omega)] at h3
      omega
  show IntKind.u64.wrap ((BitVec.ofInt 64 (n : Int) &&& ~~~ BitVec.ofInt 64 4).toNat : Nat) = _
  rw [IntKind.wrap_u64]
  unfold knN
  split <;> omega
end Go.Proofs.Ytblfighfahffkaa
