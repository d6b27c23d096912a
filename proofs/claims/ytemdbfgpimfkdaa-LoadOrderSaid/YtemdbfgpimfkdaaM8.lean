import Derived.Test.YtemdbfgpimfkdaaM7
import Derived.Test.YtemdbfgpimfkdaaM5
import Derived.Test.YtemdbfgpimfkdaaM4
import Derived.Lib.AppendZerosOnto
import Derived.Test.YtemdbfgpimfkdaaM6
/- What is refused at its header is refused: read and Read. No condition but that there are at most 2^47 bytes. -/
namespace Go.Proofs.Ytemdbfgpimfkdaa
open Go.RowKit
variable {w w' : World}

theorem results_cell3 {fn : Func} {p q r : Tmp} {tp tq tr : TypeId} (h : fn.results = #[.cell p tp, .cell q tq, .cell r tr]) (tmps : Array Value) (P : Program) (w : World)
    {a b c : Addr} {x y z : Value} (ha : tmps.getD p undef = .pointer (some a)) (hb : tmps.getD q undef = .pointer (some b)) (hc : tmps.getD r undef = .pointer (some c))
    (hx : (loadVar tp a).run P w = .ok x w) (hy : (loadVar tq b).run P w = .ok y w) (hz : (loadVar tr c).run P w = .ok z w) : (results fn tmps).run P w = .ok (.tuple #[x, y, z]) w := by
  have e : ∀ d : Addr, (asAddr (.pointer (some d)) : Sem Addr).run P w = .ok d w := fun d => rfl
  simp only [Array.getD_eq_getD_getElem?] at ha hb hc
  simp only [results, h]
  simp [Sem.run_bind, Result.andThen, ha, hb, hc, e, hx, hy, hz]
theorem results_cell_tmp2 {fn : Func} {p q r : Tmp} {tp : TypeId} (h : fn.results = #[.cell p tp, .tmp q, .tmp r]) (tmps : Array Value) (P : Program) (w : World)
    {a : Addr} {x y z : Value} (ha : tmps.getD p undef = .pointer (some a)) (hb : tmps.getD q undef = y) (hc : tmps.getD r undef = z)
    (hx : (loadVar tp a).run P w = .ok x w) : (results fn tmps).run P w = .ok (.tuple #[x, y, z]) w := by
  have e : ∀ d : Addr, (asAddr (.pointer (some d)) : Sem Addr).run P w = .ok d w := fun d => rfl
  simp only [Array.getD_eq_getD_getElem?] at ha hb hc
  simp only [results, h]
  simp [Sem.run_bind, Result.andThen, ha, hb, hc, e, hx]
theorem load_cms {g : Nat} {v : Value} (h : w.cell? ⟨g, 0, none⟩ = some v) : (loadVar 38 ⟨g, 0, none⟩).run Try.prog w = .ok v w := by
  have ha : (isAgg 38).run Try.prog w = .ok false w := by kernel_rfl
  simp [loadVar, Sem.run_bind, ha, Result.andThen, h]
theorem load_errno {g : Nat} {v : Value} (h : w.cell? ⟨g, 0, none⟩ = some v) : (loadVar 33 ⟨g, 0, none⟩).run Try.prog w = .ok v w := by
  have ha : (isAgg 33).run Try.prog w = .ok false w := by kernel_rfl
  simp [loadVar, Sem.run_bind, ha, Result.andThen, h]
structure Hd where
  sub : Int
  kind : Int
  flags : Int
def Hd.v (h : Hd) : Value := .agg #[.int .i64 h.sub, .int .i64 h.kind, .int .u32 h.flags]
def HdAt (w : World) (g : Nat) (h : Hd) : Prop := w.heap[g]? = some (.cells #[.int .i64 h.sub, .int .i64 h.kind, .int .u32 h.flags] 37 (0, 0))
theorem load_hd {g : Nat} {h : Hd} (hh : HdAt w g h) : (loadVar 37 ⟨g, 0, none⟩).run Try.prog w = .ok h.v w :=
  run_loadVar_row w g _ _ _ _ _ hh Try.underlying37 rfl (by kernel_rfl)
theorem HdAt.put {g : Nat} {h : Hd} (hh : HdAt w g h) (t : Hd) : HdAt (((w.setCell ⟨g, 0, none⟩ (.int .i64 t.sub)).setCell ⟨g, 1, none⟩ (.int .i64 t.kind)).setCell ⟨g, 2, none⟩ (.int .u32 t.flags)) g t := by
  unfold HdAt
  rw [heap_setCell_same _ g 2 _ _ _ (heap_setCell_same _ g 1 _ _ _ (heap_setCell_same w g 0 _ _ _ hh))]
  rfl
theorem grown_put3 {g : Nat} (h : w.grownBy w' (some g)) (v0 v1 v2 : Value) : w.grownBy (((w'.setCell ⟨g, 0, none⟩ v0).setCell ⟨g, 1, none⟩ v1).setCell ⟨g, 2, none⟩ v2) (some g) :=
  grown_setCell (grown_setCell (grown_setCell h _) _) _
/-- One cell, in a block of its own. -/
def OneAt (w : World) (g : Nat) (v : Value) (T : TypeId) : Prop := w.heap[g]? = some (.cells #[v] T (0, 0))
section
variable {g : Nat} {v : Value} {T : TypeId}
theorem OneAt.c (h : OneAt w g v T) : w.cell? ⟨g, 0, none⟩ = some v := by rw [cell_of h]; rfl
theorem OneAt.f (h : OneAt w g v T) : w.frozen? ⟨g, 0, none⟩ = false := free_of h
theorem OneAt.lt (h : OneAt w g v T) : g < w.heap.size := lt_of_block h
theorem OneAt.kept {row : Option Nat} (h : OneAt w g v T) (hg : w.grownBy w' row) (hr : row ≠ some g) : OneAt w' g v T := (hg.block g (lt_of_block h) (fun e => hr e.symm)).trans h
theorem OneAt.grown (h : OneAt w g v T) (hg : w.grownBy w' none) : OneAt w' g v T := h.kept hg (by simp)
theorem OneAt.set (h : OneAt w g v T) (u : Value) : OneAt (w.setCell ⟨g, 0, none⟩ u) g u T := by unfold OneAt; rw [heap_setCell_same w g 0 _ _ _ h]; rfl
theorem OneAt.new (w : World) (v : Value) (T : TypeId) : OneAt (w.alloc (.cells #[v] T)) w.heap.size v T := heap_alloc_new w _
end

set_option maxHeartbeats 800000 in
theorem read_no (ys : List Int) (q : Option Addr) (c n : Nat) (h : IsBytes w q c ys) (hn : ys.length = n) (hc : n ≤ c) (hcm : c ≤ 9223372036854775807) (hn47 : n ≤ 140737488355328) (hr : Small ys) (er : Int) (her : frErr (ys.take 32) n = er) (h0 : er ≠ 0) :
    Calls Try.prog 28 #[.slice q n c] w fun e w' => e = .returned (.tuple #[Fr.zero.v, .slice none 0 0, .int .i64 er]) ∧ w.grownBy w' none := by
  subst her
  have FO := Lib.hid (fun (w1 : World) (hg : w.grownBy w1 none) => frontOf_any (w := w1) ys q c n (h.kept hg (by simp)) hn hc hcm hn47 hr)
  obtain ⟨er, he⟩ : ∃ er, er = frErr (ys.take 32) n := ⟨_, rfl⟩
  rw [← he] at FO h0 ⊢
  obtain ⟨f, hf⟩ : ∃ f, f = frOf (ys.take 32) := ⟨_, rfl⟩
  rw [← hf] at FO
  have hne : (er != 0) = true := by simpa using h0
  have H0 := Lib.hid h0
  clear he hf h hn hr h0
  go_enter Try.func28, Try.ntmps28
  have ZA : FrAt (((w.alloc (.cells #[.int .i64 0, .int .i64 0, .int .u32 0, .int .u64 0, .int .u64 0] 89)).alloc (.cells #[.slice none 0 0] 38)).alloc (.cells #[.int .i64 0] 33)) w.heap.size Fr.zero :=
    (FrAt.new w Fr.zero).grown (grown2 _ _ _)
  have ZB : OneAt (((w.alloc (.cells #[.int .i64 0, .int .i64 0, .int .u32 0, .int .u64 0, .int .u64 0] 89)).alloc (.cells #[.slice none 0 0] 38)).alloc (.cells #[.int .i64 0] 33)) (w.heap.size + 1) (.slice none 0 0) 38 := by
    have := (OneAt.new (w.alloc (.cells #[.int .i64 0, .int .i64 0, .int .u32 0, .int .u64 0, .int .u64 0] 89)) (.slice none 0 0) 38).grown (grown1 _ (.cells #[.int .i64 0] 33))
    simpa using this
  have ZC : OneAt (((w.alloc (.cells #[.int .i64 0, .int .i64 0, .int .u32 0, .int .u64 0, .int .u64 0] 89)).alloc (.cells #[.slice none 0 0] 38)).alloc (.cells #[.int .i64 0] 33)) (w.heap.size + 1 + 1) (.int .i64 0) 33 := by
    have := OneAt.new ((w.alloc (.cells #[.int .i64 0, .int .i64 0, .int .u32 0, .int .u64 0, .int .u64 0] 89)).alloc (.cells #[.slice none 0 0] 38)) (.int .i64 0) 33
    simpa using this
  have gZ : w.grownBy (((w.alloc (.cells #[.int .i64 0, .int .i64 0, .int .u32 0, .int .u64 0, .int .u64 0] 89)).alloc (.cells #[.slice none 0 0] 38)).alloc (.cells #[.int .i64 0] 33)) none :=
    grown_trans (grown1 _ _) (grown2 _ _ _)
  have HA := Lib.hid ZA
  have HB := Lib.hid ZB
  have HC := Lib.hid ZC
  have GZ := Lib.hid gZ
  clear ZA ZB ZC gZ
  go_wp2_with fail
  refine (FO.out _ GZ.out).mono ?_
  rintro e w1 ⟨hno, _, hg⟩
  have he := hno H0.out
  subst he
  unfold Fr.v Fr.zero
  have gm := grown_trans hg (grown1 w1 (.cells #[.int .i64 0, .int .i64 0, .int .u32 0, .int .u64 0, .int .u64 0] 89))
  have ZA := Lib.hid (HA.out.grown gm)
  have ZB := Lib.hid (HB.out.grown gm)
  have ZC := Lib.hid (HC.out.grown gm)
  have G1 := Lib.hid (grown_trans GZ.out gm)
  have a0 := ZA.out.c0
  have a1 := ZA.out.c1
  have a2 := ZA.out.c2
  have a3 := ZA.out.c3
  have a4 := ZA.out.c4
  have y0 := ZA.out.fz 0
  have y1 := ZA.out.fz 1
  have y2 := ZA.out.fz 2
  have y3 := ZA.out.fz 3
  have y4 := ZA.out.fz 4
  have b0 := ZB.out.c
  have b1 := ZB.out.f
  have b2 := ZC.out.c
  have b3 := ZC.out.f
  clear hno hg gm
  go_wp2
  have PA := ZA.out.put Fr.zero
  have gA := grown_put5 (grown_refl (w1.alloc (.cells #[.int .i64 0, .int .i64 0, .int .u32 0, .int .u64 0, .int .u64 0] 89)) (some w.heap.size)) (.int .i64 0) (.int .i64 0) (.int .u32 0) (.int .u64 0) (.int .u64 0)
  have PB := (ZB.out.kept gA (by simp)).set (.slice none 0 0)
  have PC := ZC.out.kept gA (by simp; omega)
  obtain ⟨W, hW⟩ : ∃ W, W = (((((w1.alloc (.cells #[.int .i64 0, .int .i64 0, .int .u32 0, .int .u64 0, .int .u64 0] 89)).setCell ⟨w.heap.size, 0, none⟩ (.int .i64 0)).setCell ⟨w.heap.size, 1, none⟩ (.int .i64 0)).setCell ⟨w.heap.size, 2, none⟩ (.int .u32 0)).setCell ⟨w.heap.size, 3, none⟩ (.int .u64 0)).setCell ⟨w.heap.size, 4, none⟩ (.int .u64 0) := ⟨_, rfl⟩
  have PA : FrAt W w.heap.size Fr.zero := by rw [hW]; exact PA
  rw [← hW] at gA PB PC
  have GA := grown_new G1.out gA (Nat.le_refl _)
  rw [← hW]
  clear hW
  have gB := grown_setCell (i := 0) (grown_refl W (some (w.heap.size + 1))) (.slice none 0 0)
  have gC := grown_setCell (i := 0) (grown_refl (W.setCell ⟨w.heap.size + 1, 0, none⟩ (.slice none 0 0)) (some (w.heap.size + 1 + 1))) (.int .i64 er)
  refine bodyPost_ret (results_cell3 rfl _ _ _ rfl rfl rfl (load_fr ((PA.kept gB (by simp)).kept gC (by simp; omega))) (load_cms (PB.kept gC (by simp)).c) (load_errno ((PC.kept gB (by simp)).set _).c)) rfl ?_
  exact ⟨rfl, grown_new (grown_new GA gB (by omega)) gC (by omega)⟩

set_option maxHeartbeats 800000 in
theorem Read_no (ys : List Int) (q : Option Addr) (c n : Nat) (h : IsBytes w q c ys) (hn : ys.length = n) (hc : n ≤ c) (hcm : c ≤ 9223372036854775807) (hn47 : n ≤ 140737488355328) (hr : Small ys) (er : Int) (her : frErr (ys.take 32) n = er) (h0 : er ≠ 0) :
    Calls Try.prog 16 #[.slice q n c] w fun e w' => e = .returned (.tuple #[.agg #[.int .i64 0, .int .i64 0, .int .u32 0], .slice none 0 0, .int .i64 er]) ∧ w.grownBy w' none := by
  have RD := Lib.hid (fun (w1 : World) (hg : w.grownBy w1 none) => read_no (w := w1) ys q c n (h.kept hg (by simp)) hn hc hcm hn47 hr er her h0)
  have ZA : HdAt (w.alloc (.cells #[.int .i64 0, .int .i64 0, .int .u32 0] 37)) w.heap.size ⟨0, 0, 0⟩ := heap_alloc_new w _
  have HA := Lib.hid ZA
  have GA := Lib.hid (grown1 w (.cells #[.int .i64 0, .int .i64 0, .int .u32 0] 37))
  clear ZA h hn hr her h0
  go_enter Try.func16, Try.ntmps16
  go_wp2_with fail
  refine (RD.out _ GA.out).mono ?_
  rintro e w1 ⟨rfl, hg⟩
  unfold Fr.v Fr.zero
  have gm := grown_trans hg (grown1 w1 (.cells #[.int .i64 0, .int .i64 0, .int .u32 0, .int .u64 0, .int .u64 0] 89))
  have hA : (w1.alloc (.cells #[.int .i64 0, .int .i64 0, .int .u32 0, .int .u64 0, .int .u64 0] 89)).heap[w.heap.size]? = some (.cells #[.int .i64 0, .int .i64 0, .int .u32 0] 37 (0, 0)) := (gm.block _ (lt_of_block HA.out) (by simp)).trans HA.out
  have a0 : (w1.alloc (.cells #[.int .i64 0, .int .i64 0, .int .u32 0, .int .u64 0, .int .u64 0] 89)).cell? ⟨w.heap.size, 0, none⟩ = some (.int .i64 0) := by rw [cell_of hA]; rfl
  have a1 : (w1.alloc (.cells #[.int .i64 0, .int .i64 0, .int .u32 0, .int .u64 0, .int .u64 0] 89)).cell? ⟨w.heap.size, 1, none⟩ = some (.int .i64 0) := by rw [cell_of hA]; rfl
  have a2 : (w1.alloc (.cells #[.int .i64 0, .int .i64 0, .int .u32 0, .int .u64 0, .int .u64 0] 89)).cell? ⟨w.heap.size, 2, none⟩ = some (.int .u32 0) := by rw [cell_of hA]; rfl
  have y0 : ∀ i, (w1.alloc (.cells #[.int .i64 0, .int .i64 0, .int .u32 0, .int .u64 0, .int .u64 0] 89)).frozen? ⟨w.heap.size, i, none⟩ = false := fun i => free_of hA
  have f0 := y0 0
  have f1 := y0 1
  have f2 := y0 2
  have hlt := lt_of_block hA
  have G1 := Lib.hid (grown_trans GA.out gm)
  have BA := Lib.hid hA
  clear hg gm hA y0
  go_wp2
  have PA := HdAt.put (w := w1.alloc (.cells #[.int .i64 0, .int .i64 0, .int .u32 0, .int .u64 0, .int .u64 0] 89)) (g := w.heap.size) (h := ⟨0, 0, 0⟩) BA.out ⟨0, 0, 0⟩
  refine bodyPost_ret (results_cell_tmp2 rfl _ _ _ rfl rfl rfl (load_hd PA)) rfl ?_
  exact ⟨rfl, grown_new G1.out (grown_put3 (grown_refl _ _) _ _ _) (Nat.le_refl _)⟩
end Go.Proofs.Ytemdbfgpimfkdaa

/- Numbers of four bytes laid one behind the other, by the program and by the document. No condition but that there are few. -/
namespace Go.Proofs.Ytemdbfgpimfkdaa
open Go.RowKit
variable {w w' : World}

/-- Numbers, wherever they lie. -/
def IsU32s (w : World) (q : Option Addr) (ns : List Int) : Prop := 0 < ns.length → ∃ b o, q = some ⟨b, o, none⟩ ∧ ∀ i x, ns[i]? = some x → w.cell? ⟨b, o + i, none⟩ = some (.int .u32 x)
theorem IsU32s.grown {q : Option Addr} {ns : List Int} (h : IsU32s w q ns) (hg : w.grownBy w' none) : IsU32s w' q ns := fun hl => by
  obtain ⟨b, o, rfl, hc⟩ := h hl
  exact ⟨b, o, rfl, fun i x hx => hg.cell (hc i x hx) (by simp)⟩
theorem isU32s_at {g : Nat} {ns : List Int} {T : TypeId} (h : w.heap[g]? = some (.cells (ns.map (Value.int .u32)).toArray T (0, 0))) : IsU32s w (some ⟨g, 0, none⟩) ns := fun _ =>
  ⟨g, 0, rfl, fun i x hx => by rw [Nat.zero_add, cell_of h]; simp [hx]⟩
def puts4 (ns : List Int) : List Int := ns.flatMap le4
theorem puts4_len (ns : List Int) : (puts4 ns).length = 4 * ns.length := by
  induction ns with
  | nil => rfl
  | cons n ns ih => show (le4 n ++ puts4 ns).length = _; rw [List.length_append, ih, le4_len, List.length_cons]; omega
theorem puts4_take {ns : List Int} {k : Nat} {x : Int} (h : ns[k]? = some x) : puts4 (ns.take (k + 1)) = puts4 (ns.take k) ++ le4 x := by
  have hk : k < ns.length := by
    rcases Nat.lt_or_ge k ns.length with h1 | h1
    · exact h1
    · simp [h1] at h
  rw [List.getElem?_eq_getElem hk] at h
  injection h with h
  unfold puts4
  rw [List.take_succ_eq_append_getElem hk, List.flatMap_append, h]
  simp
theorem four_bytes (w : World) (a b c d : Int) : IsBytes (w.alloc (.cells #[.int .u8 a, .int .u8 b, .int .u8 c, .int .u8 d] 5)) (some ⟨w.heap.size, 0, none⟩) 4 [a, b, c, d] := by
  refine IsBytes.mk_at fun i hi => ?_
  rw [cell_of (heap_alloc_new w _), Nat.zero_add]
  have hi4 : i < 4 := hi
  match i, hi4 with
  | 0, _ => rfl
  | 1, _ => rfl
  | 2, _ => rfl
  | 3, _ => rfl
/-- A row of one's own that is not nil is one whatever mark it bears. -/
theorem OwnM.of_own {base n : Nat} {q : Option Addr} {c : Nat} {xs : List Int} (hn : 0 < n) (hl : xs.length = n) (h : w.ownsRow base 5 1 (.slice q n c) n (xs.map (Value.int .u8))) : ∃ g, q = some ⟨g, 0, none⟩ ∧ OwnM w base g n c xs := by
  have h' := h
  obtain ⟨_, hx | ⟨g, cap, cur, hv, hb, hg, hle, hm, hs, ht⟩⟩ := h
  · omega
  injection hv with e1 _ e3
  subst e1 e3
  refine ⟨g, rfl, hb, lt_of_block hg, hle, hl, hm, fun j hj => ?_, fun j _ => free_of hg, fun j hj => ?_⟩
  · rw [cell_of hg, Array.getElem?_eq_getElem (by rw [hs]; omega)]; rfl
  · have hc := h'.cells (g := g) rfl j (.int .u8 (xs.getD j 0)) (by simp [hl, hj])
    rw [add_flat, Nat.zero_add] at hc
    exact hc

end Go.Proofs.Ytemdbfgpimfkdaa

/- Noughts appended to bytes of the call's own (append of a make). No condition but that they are at most 2^47. -/
namespace Go.Proofs.Ytemdbfgpimfkdaa
open Go.RowKit
variable {w w' : World} {base : Nat}

theorem run_zeros_roomI {g n cap : Nat} {xs : List Int} (h : OwnM w base g n cap xs) (k : Nat) (hroom : n + k ≤ cap) (h63 : n + k ≤ 140737488355328) :
    (Builtin.append_ #[22, 3] 22 #[.slice (some ⟨g, 0, none⟩) n cap, .int .i64 k]).run Try.prog w = .ok (.slice (some ⟨g, 0, none⟩) (n + k) cap) (w.setCells g n (List.replicate k (.int .u8 0))) := by
  obtain ⟨i, hi, hz0, hz1, hz2⟩ := info_parts info_u8
  have hst := run_storeCells_cells (P := Try.prog) g n (List.replicate k (Value.int .u8 0)) 0 w (fun j hj => h.there _ (by simp at hj; omega)) (fun j hj => h.free _ (by simp at hj; omega)) (fun u hu => by rw [List.eq_of_mem_replicate hu]; rfl)
  have hw : IntKind.i64.wrap (k : Int) = k := by rw [IntKind.wrap_i64]; omega
  have hneg : ¬ ((k : Int) < 0) := by omega
  have h48i : ¬ (281474976710656 < (k : Int)) := by omega
  simp only [Nat.add_zero] at hst
  simp [Builtin.append_, run_underlying Try.underlying22, run_underlying Try.underlying3, sizeOf, typeInfo, zeroValue, hi, hz0, hz1, hz2, asInt, asIntOf, hw, hneg, hroom, h48i]
  have hzc : (Builtin.zeroCells (Value.int .u8 0).cells k).toList = List.replicate k (Value.int .u8 0) := by
    apply List.ext_getElem?
    intro j
    by_cases hj : j < k
    · simp [Builtin.zeroCells, Value.cells, hj, Nat.mod_one]
    · simp [Builtin.zeroCells, Value.cells, hj]
  rw [hzc, add_flat, Nat.zero_add, hst]
  by_cases hk : k = 0
  · subst hk
    rw [if_pos rfl]
    rfl
  · rw [if_neg hk]
    rfl

theorem run_zerosMI {g n cap : Nat} {xs : List Int} (h : OwnM w base g n cap xs) (k : Nat) (h63 : n + k ≤ 140737488355328) :
    ∃ g' cap' w', (Builtin.append_ #[22, 3] 22 #[.slice (some ⟨g, 0, none⟩) n cap, .int .i64 k]).run Try.prog w = .ok (.slice (some ⟨g', 0, none⟩) (n + k) cap') w' ∧
      OwnM w' base g' (n + k) cap' (xs ++ List.replicate k 0) ∧ w.grownBy w' (some g) ∧ (g' = g ∨ g' = w.heap.size) := by
  by_cases hroom : n + k ≤ cap
  · refine ⟨g, cap, _, run_zeros_roomI h k hroom h63, ?_, grown_setCells _ _ _ (grown_refl _ _), .inl rfl⟩
    have := ownM_room h (List.replicate k 0) (by simpa using hroom)
    simpa using this
  · obtain ⟨i, hi, hz0, hz1, hz2⟩ := info_parts info_u8
    have hold : (Builtin.firstCells i.size n (.slice (some ⟨g, 0, none⟩) n cap)).run Try.prog w.drew = .ok (xs.map (Value.int .u8)).toArray w.drew := by
      rw [hz1]
      refine run_firstCells_some w.drew 1 n ⟨g, 0, none⟩ n cap (xs.map (Value.int .u8)) (by simp [h.len]) (fun j u hu => ?_)
      have hj : j < n := by
        rcases Nat.lt_or_ge j n with h1 | h1
        · exact h1
        · simp [h.len, h1] at hu
      rw [add_flat, Nat.zero_add]
      show w.cell? ⟨g, j, none⟩ = some u
      rw [h.cell j hj]
      simp [show j < xs.length by rw [h.len]; exact hj] at hu ⊢
      exact hu
    have hle0 := h.le
    have hr := Lib.run_append_grow_zeros w 22 3 22 5 i (.int .u8 0) .i64 .i64 Try.underlying22 Try.underlying3 hi hz0 (some ⟨g, 0, none⟩) n cap (xs.map (Value.int .u8)) hold k (by omega) (by omega) (by omega) (by omega) (by rw [hz2]; omega)
      (growslice_fits (by omega) (by rw [hz2]; omega))
    obtain ⟨cap', hcap⟩ : ∃ z, z = grownCap w (n + k) cap 5 := ⟨_, rfl⟩
    rw [← hcap] at hr
    have hge : n + k ≤ cap' := by rw [hcap]; exact grownCap_ge w _ _ _
    have hle : cap' ≤ maxLen := by rw [hcap]; exact grownCap_le_maxLen w _ _ _ (by unfold maxLen; omega)
    refine ⟨w.heap.size, cap', _, hr, ?_, grown_any (grown_alloc (grown_drewN (grown_refl w none) 1) _) _, .inr rfl⟩
    obtain ⟨C, hC⟩ : ∃ C, C = (xs.map (Value.int .u8)).toArray ++ Builtin.zeroCells (Value.int .u8 0).cells k ++ Builtin.zeroCells (Value.int .u8 0).cells (cap' - (n + k)) := ⟨_, rfl⟩
    have hsize : C.size = cap' := by
      rw [hC]
      simp [size_zeroCells, Value.cells, h.len]; omega
    have hcell : ∀ j, j < n + k → C[j]? = some (.int .u8 ((xs ++ List.replicate k 0).getD j 0)) := fun j hj => by
      rw [hC, Array.getElem?_append_left (by simp [size_zeroCells, Value.cells, h.len]; omega)]
      by_cases h1 : j < n
      · rw [Array.getElem?_append_left (by simp [h.len]; exact h1), List.getD_eq_getElem?_getD, List.getElem?_append_left (by rw [h.len]; exact h1)]
        simp [show j < xs.length by rw [h.len]; exact h1]
      · rw [Array.getElem?_append_right (by simp [h.len]; omega), List.getD_eq_getElem?_getD, List.getElem?_append_right (by rw [h.len]; omega)]
        rw [zeroCells_at _ _ (by simp [h.len]; omega), List.getElem?_replicate, if_pos (by rw [h.len]; omega)]
        rfl
    rw [← hC]
    have hnew : (w.drew.alloc (.cells C 5)).heap[w.heap.size]? = some (.cells C 5 (0, 0)) := heap_alloc_new w.drew _
    exact ⟨Nat.le_trans h.lo (Nat.le_of_lt h.lt), lt_of_block hnew, hge, by simp [h.len], hle, fun j hj => by rw [cell_of hnew, Array.getElem?_eq_getElem (by rw [hsize]; exact hj)]; rfl, fun j _ => free_of hnew, fun j hj => by rw [cell_of hnew]; exact hcell j hj⟩

/-- The operation, for the walk. -/
theorem wp_zerosMI {ops : Array Oper} {rest : List Oper} {o : Oper} {a : Act} {Q : Exit → Act → World → Prop} (hgd : o.guard = none) (s x : Operand)
    (ho : o.op = .call { callee := .builtin .append, args := #[s, x], argTypes := #[22, 3] }) (hty : o.type = 22)
    {g n cap : Nat} {xs : List Int} (hs : a.eval s = .slice (some ⟨g, 0, none⟩) n cap) (hown : OwnM w base g n cap xs) (k : Nat) {z : Int} (hz : z = k) (hx : a.eval x = .int .i64 z) (h63 : n + k ≤ 140737488355328)
    (h : ∀ g' cap' w', OwnM w' base g' (n + k) cap' (xs ++ List.replicate k 0) → w.grownBy w' (some g) → (g' = g ∨ g' = w.heap.size) → wpList Try.prog ops Q rest (a.put o.dst (.slice (some ⟨g', 0, none⟩) (n + k) cap')) w') : wpList Try.prog ops Q (o :: rest) a w := by
  subst hz
  obtain ⟨g', cap', w', hr, h1, h2, h3⟩ := run_zerosMI hown k h63
  exact Lib.wpList_append_run w hgd s x _ _ ho _ _ hs hx _ _ (by rw [hty]; exact hr) (h g' cap' w' h1 h2 h3)
end Go.Proofs.Ytemdbfgpimfkdaa

/- The command that says something: the program's own call. No condition but that there are at most 2^40 bytes. -/
namespace Go.Proofs.Ytemdbfgpimfkdaa
open Go.RowKit
variable {w w' : World}

def upTo8 (n : Nat) : Nat := (n + 7) / 8 * 8
def oneN (cmd : Int) (ys : List Int) : List Int := le4 cmd ++ le4 (upTo8 (8 + ys.length)) ++ ys ++ List.replicate (upTo8 (8 + ys.length) - (8 + ys.length)) 0
theorem upTo8_bd (n : Nat) : n ≤ upTo8 n ∧ upTo8 n ≤ n + 7 ∧ upTo8 n % 8 = 0 := by unfold upTo8; omega
theorem oneN_len (cmd : Int) (ys : List Int) : (oneN cmd ys).length = upTo8 (8 + ys.length) := by
  have := upTo8_bd (8 + ys.length)
  unfold oneN
  simp only [List.length_append, le4_len, List.length_replicate]
  omega
theorem oneN_small (cmd : Int) {ys : List Int} (h : Small ys) : Small (oneN cmd ys) :=
  small_app (small_app (small_app (le4_small _) (le4_small _)) h) (zeros_small _)
theorem two_words (w : World) (a b : Int) : IsU32s (w.alloc (.cells #[.int .u32 a, .int .u32 b] 25)) (some ⟨w.heap.size, 0, none⟩) [a, b] :=
  isU32s_at (ns := [a, b]) (heap_alloc_new w _)

/-- What a call that makes a command tells: the command, and an error. -/
structure OneOut (w w' : World) (cmd : Int) (ys : List Int) (e : Ending) : Prop where
  no : 1048576 < 8 + ys.length → e = .returned (.tuple #[.agg #[.int .u32 0, .slice none 0 0], .int .i64 11])
  yes : 8 + ys.length ≤ 1048576 → ∃ g c, e = .returned (.tuple #[.agg #[.int .u32 cmd, .slice (some ⟨g, 0, none⟩) (upTo8 (8 + ys.length)) c], .int .i64 0]) ∧ OwnM w' w.heap.size g (upTo8 (8 + ys.length)) c (oneN cmd ys)
  grown : w.grownBy w' none

theorem load_cm {g : Nat} {m : Cm} (h : CmAt w g m) : (loadVar 44 ⟨g, 0, none⟩).run Try.prog w = .ok m.v w :=
  run_loadVar_row w g _ _ _ _ _ h Try.underlying44 rfl (by kernel_rfl)
theorem results_cm {fn : Func} {p u : Tmp} (hr : fn.results = #[.cell p 44, .tmp u]) {tmps : Array Value} {v : Value} {g : Nat} {m : Cm} (hp : tmps.getD p undef = .pointer (some ⟨g, 0, none⟩)) (hu : tmps.getD u undef = v) (h : CmAt w g m) :
    (results fn tmps).run Try.prog w = .ok (.tuple #[m.v, v]) w := by
  rw [results_cell_tmp hr, hp, hu, show (asAddr (.pointer (some ⟨g, 0, none⟩)) : Sem Addr).run Try.prog w = .ok ⟨g, 0, none⟩ w from rfl, Result.andThen_ok, load_cm h, Result.andThen_ok]
theorem CmAt.put {g : Nat} {m : Cm} (h : CmAt w g m) (t : Cm) : CmAt ((w.setCell ⟨g, 0, none⟩ (.int .u32 t.cmd)).setCell ⟨g, 1, none⟩ (.slice t.q t.bytes.length t.cap)) g t := by
  unfold CmAt
  rw [heap_setCell_same _ g 1 _ _ _ (heap_setCell_same w g 0 _ _ _ h)]
  rfl
theorem CmAt.f {g : Nat} {m : Cm} (h : CmAt w g m) (i : Nat) : w.frozen? ⟨g, i, none⟩ = false := free_of h
theorem grown_put2 {g : Nat} (h : w.grownBy w' (some g)) (v0 v1 : Value) : w.grownBy ((w'.setCell ⟨g, 0, none⟩ v0).setCell ⟨g, 1, none⟩ v1) (some g) := grown_setCell (grown_setCell h _) _
theorem OwnM.mono {b b' g n cap : Nat} {xs : List Int} (h : OwnM w b g n cap xs) (hb : b' ≤ b) : OwnM w b' g n cap xs := ⟨Nat.le_trans hb h.lo, h.lt, h.le, h.len, h.most, h.there, h.free, h.cell⟩

end Go.Proofs.Ytemdbfgpimfkdaa
