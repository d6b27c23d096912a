/- What is refused at its header is refused: read and Read. No condition but that there are at most 2^47 bytes. -/
import Derived.Test.YthdppaooemdmaaaFront
namespace Go.Proofs.Ythdppaooemdmaaa
open Go.RowKit
variable {w w' : World}

theorem results_cell3 {fn : Func} {p q r : Tmp} {tp tq tr : TypeId} (h : fn.results = #[.cell p tp, .cell q tq, .cell r tr]) (tmps : Array Value) (P : Program) (w : World)
    {a b c : Addr} {x y z : Value} (ha : tmps.getD p undef = .pointer (some a)) (hb : tmps.getD q undef = .pointer (some b)) (hc : tmps.getD r undef = .pointer (some c))
    (hx : (loadVar tp a).run P w = .ok x w) (hy : (loadVar tq b).run P w = .ok y w) (hz : (loadVar tr c).run P w = .ok z w) : (results fn tmps).run P w = .ok (.tuple #[x, y, z]) w := by
  have e : ∀ d : Addr, (asAddr (.pointer (some d)) : Sem Addr).run P w = .ok d w := fun d => rfl
  simp only [Array.getD_eq_getD_getElem?] at ha hb hc
  simp only [results, h]
  simp [Sem.run_bind, Result.andThen, ha, hb, hc, e, hx, hy, hz]
theorem results_cell_tmp2 {fn : Func} {p q r : Tmp} {tp : TypeId} (h : fn.results = #[.cell p tp, .tmp q, .tmp r]) (tmps : Array Value) (P : Program) (w : World)
    {a : Addr} {x y z : Value} (ha : tmps.getD p undef = .pointer (some a)) (hb : tmps.getD q undef = y) (hc : tmps.getD r undef = z)
    (hx : (loadVar tp a).run P w = .ok x w) : (results fn tmps).run P w = .ok (.tuple #[x, y, z]) w := by
  have e : ∀ d : Addr, (asAddr (.pointer (some d)) : Sem Addr).run P w = .ok d w := fun d => rfl
  simp only [Array.getD_eq_getD_getElem?] at ha hb hc
  simp only [results, h]
  simp [Sem.run_bind, Result.andThen, ha, hb, hc, e, hx]
theorem load_cms {g : Nat} {v : Value} (h : w.cell? ⟨g, 0, none⟩ = some v) : (loadVar 28 ⟨g, 0, none⟩).run Try.prog w = .ok v w := by
  have ha : (isAgg 28).run Try.prog w = .ok false w := by kernel_rfl
  simp [loadVar, Sem.run_bind, ha, Result.andThen, h]
theorem load_errno {g : Nat} {v : Value} (h : w.cell? ⟨g, 0, none⟩ = some v) : (loadVar 29 ⟨g, 0, none⟩).run Try.prog w = .ok v w := by
  have ha : (isAgg 29).run Try.prog w = .ok false w := by kernel_rfl
  simp [loadVar, Sem.run_bind, ha, Result.andThen, h]
structure Hd where
  sub : Int
  kind : Int
  flags : Int
def Hd.v (h : Hd) : Value := .agg #[.int .i64 h.sub, .int .i64 h.kind, .int .u32 h.flags]
def HdAt (w : World) (g : Nat) (h : Hd) : Prop := w.heap[g]? = some (.cells #[.int .i64 h.sub, .int .i64 h.kind, .int .u32 h.flags] 27 (0, 0))
theorem load_hd {g : Nat} {h : Hd} (hh : HdAt w g h) : (loadVar 27 ⟨g, 0, none⟩).run Try.prog w = .ok h.v w :=
  run_loadVar_row w g _ _ _ _ _ hh Try.underlying27 rfl (by kernel_rfl)
theorem HdAt.put {g : Nat} {h : Hd} (hh : HdAt w g h) (t : Hd) : HdAt (((w.setCell ⟨g, 0, none⟩ (.int .i64 t.sub)).setCell ⟨g, 1, none⟩ (.int .i64 t.kind)).setCell ⟨g, 2, none⟩ (.int .u32 t.flags)) g t := by
  unfold HdAt
  rw [heap_setCell_same _ g 2 _ _ _ (heap_setCell_same _ g 1 _ _ _ (heap_setCell_same w g 0 _ _ _ hh))]
  rfl
theorem grown_put3 {g : Nat} (h : w.grownBy w' (some g)) (v0 v1 v2 : Value) : w.grownBy (((w'.setCell ⟨g, 0, none⟩ v0).setCell ⟨g, 1, none⟩ v1).setCell ⟨g, 2, none⟩ v2) (some g) :=
  grown_setCell (grown_setCell (grown_setCell h _) _) _
/-- One cell, in a block of its own. -/
def OneAt (w : World) (g : Nat) (v : Value) (T : TypeId) : Prop := w.heap[g]? = some (.cells #[v] T (0, 0))
section
variable {g : Nat} {v : Value} {T : TypeId}
theorem OneAt.c (h : OneAt w g v T) : w.cell? ⟨g, 0, none⟩ = some v := by rw [cell_of h]; rfl
theorem OneAt.f (h : OneAt w g v T) : w.frozen? ⟨g, 0, none⟩ = false := free_of h
theorem OneAt.lt (h : OneAt w g v T) : g < w.heap.size := lt_of_block h
theorem OneAt.kept {row : Option Nat} (h : OneAt w g v T) (hg : w.grownBy w' row) (hr : row ≠ some g) : OneAt w' g v T := (hg.block g (lt_of_block h) (fun e => hr e.symm)).trans h
theorem OneAt.grown (h : OneAt w g v T) (hg : w.grownBy w' none) : OneAt w' g v T := h.kept hg (by simp)
theorem OneAt.set (h : OneAt w g v T) (u : Value) : OneAt (w.setCell ⟨g, 0, none⟩ u) g u T := by unfold OneAt; rw [heap_setCell_same w g 0 _ _ _ h]; rfl
theorem OneAt.new (w : World) (v : Value) (T : TypeId) : OneAt (w.alloc (.cells #[v] T)) w.heap.size v T := heap_alloc_new w _
end

set_option maxHeartbeats 800000 in
theorem read_no (ys : List Int) (q : Option Addr) (c n : Nat) (h : IsBytes w q c ys) (hn : ys.length = n) (hc : n ≤ c) (hcm : c ≤ 9223372036854775807) (hn47 : n ≤ 140737488355328) (hr : Small ys) (er : Int) (her : frErr (ys.take 32) n = er) (h0 : er ≠ 0) :
    Calls Try.prog 26 #[.slice q n c] w fun e w' => e = .returned (.tuple #[Fr.zero.v, .slice none 0 0, .int .i64 er]) ∧ w.grownBy w' none := by
  subst her
  have FO := Lib.hid (fun (w1 : World) (hg : w.grownBy w1 none) => frontOf_any (w := w1) ys q c n (h.kept hg (by simp)) hn hc hcm hn47 hr)
  obtain ⟨er, he⟩ : ∃ er, er = frErr (ys.take 32) n := ⟨_, rfl⟩
  rw [← he] at FO h0 ⊢
  obtain ⟨f, hf⟩ : ∃ f, f = frOf (ys.take 32) := ⟨_, rfl⟩
  rw [← hf] at FO
  have hne : (er != 0) = true := by simpa using h0
  have H0 := Lib.hid h0
  clear he hf h hn hr h0
  go_enter Try.func26, Try.ntmps26
  have ZA : FrAt (((w.alloc (.cells #[.int .i64 0, .int .i64 0, .int .u32 0, .int .u64 0, .int .u64 0] 74)).alloc (.cells #[.slice none 0 0] 28)).alloc (.cells #[.int .i64 0] 29)) w.heap.size Fr.zero :=
    (FrAt.new w Fr.zero).grown (grown2 _ _ _)
  have ZB : OneAt (((w.alloc (.cells #[.int .i64 0, .int .i64 0, .int .u32 0, .int .u64 0, .int .u64 0] 74)).alloc (.cells #[.slice none 0 0] 28)).alloc (.cells #[.int .i64 0] 29)) (w.heap.size + 1) (.slice none 0 0) 28 := by
    have := (OneAt.new (w.alloc (.cells #[.int .i64 0, .int .i64 0, .int .u32 0, .int .u64 0, .int .u64 0] 74)) (.slice none 0 0) 28).grown (grown1 _ (.cells #[.int .i64 0] 29))
    simpa using this
  have ZC : OneAt (((w.alloc (.cells #[.int .i64 0, .int .i64 0, .int .u32 0, .int .u64 0, .int .u64 0] 74)).alloc (.cells #[.slice none 0 0] 28)).alloc (.cells #[.int .i64 0] 29)) (w.heap.size + 1 + 1) (.int .i64 0) 29 := by
    have := OneAt.new ((w.alloc (.cells #[.int .i64 0, .int .i64 0, .int .u32 0, .int .u64 0, .int .u64 0] 74)).alloc (.cells #[.slice none 0 0] 28)) (.int .i64 0) 29
    simpa using this
  have gZ : w.grownBy (((w.alloc (.cells #[.int .i64 0, .int .i64 0, .int .u32 0, .int .u64 0, .int .u64 0] 74)).alloc (.cells #[.slice none 0 0] 28)).alloc (.cells #[.int .i64 0] 29)) none :=
    grown_trans (grown1 _ _) (grown2 _ _ _)
  have HA := Lib.hid ZA
  have HB := Lib.hid ZB
  have HC := Lib.hid ZC
  have GZ := Lib.hid gZ
  clear ZA ZB ZC gZ
  go_wp2_with fail
  refine (FO.out _ GZ.out).mono ?_
  rintro e w1 ⟨hno, _, hg⟩
  have he := hno H0.out
  subst he
  unfold Fr.v Fr.zero
  have gm := grown_trans hg (grown1 w1 (.cells #[.int .i64 0, .int .i64 0, .int .u32 0, .int .u64 0, .int .u64 0] 74))
  have ZA := Lib.hid (HA.out.grown gm)
  have ZB := Lib.hid (HB.out.grown gm)
  have ZC := Lib.hid (HC.out.grown gm)
  have G1 := Lib.hid (grown_trans GZ.out gm)
  have a0 := ZA.out.c0
  have a1 := ZA.out.c1
  have a2 := ZA.out.c2
  have a3 := ZA.out.c3
  have a4 := ZA.out.c4
  have y0 := ZA.out.fz 0
  have y1 := ZA.out.fz 1
  have y2 := ZA.out.fz 2
  have y3 := ZA.out.fz 3
  have y4 := ZA.out.fz 4
  have b0 := ZB.out.c
  have b1 := ZB.out.f
  have b2 := ZC.out.c
  have b3 := ZC.out.f
  clear hno hg gm
  go_wp2
  have PA := ZA.out.put Fr.zero
  have gA := grown_put5 (grown_refl (w1.alloc (.cells #[.int .i64 0, .int .i64 0, .int .u32 0, .int .u64 0, .int .u64 0] 74)) (some w.heap.size)) (.int .i64 0) (.int .i64 0) (.int .u32 0) (.int .u64 0) (.int .u64 0)
  have PB := (ZB.out.kept gA (by simp)).set (.slice none 0 0)
  have PC := ZC.out.kept gA (by simp; omega)
  obtain ⟨W, hW⟩ : ∃ W, W = (((((w1.alloc (.cells #[.int .i64 0, .int .i64 0, .int .u32 0, .int .u64 0, .int .u64 0] 74)).setCell ⟨w.heap.size, 0, none⟩ (.int .i64 0)).setCell ⟨w.heap.size, 1, none⟩ (.int .i64 0)).setCell ⟨w.heap.size, 2, none⟩ (.int .u32 0)).setCell ⟨w.heap.size, 3, none⟩ (.int .u64 0)).setCell ⟨w.heap.size, 4, none⟩ (.int .u64 0) := ⟨_, rfl⟩
  have PA : FrAt W w.heap.size Fr.zero := by rw [hW]; exact PA
  rw [← hW] at gA PB PC
  have GA := grown_new G1.out gA (Nat.le_refl _)
  rw [← hW]
  clear hW
  have gB := grown_setCell (i := 0) (grown_refl W (some (w.heap.size + 1))) (.slice none 0 0)
  have gC := grown_setCell (i := 0) (grown_refl (W.setCell ⟨w.heap.size + 1, 0, none⟩ (.slice none 0 0)) (some (w.heap.size + 1 + 1))) (.int .i64 er)
  refine bodyPost_ret (results_cell3 rfl _ _ _ rfl rfl rfl (load_fr ((PA.kept gB (by simp)).kept gC (by simp; omega))) (load_cms (PB.kept gC (by simp)).c) (load_errno ((PC.kept gB (by simp)).set _).c)) rfl ?_
  exact ⟨rfl, grown_new (grown_new GA gB (by omega)) gC (by omega)⟩

set_option maxHeartbeats 800000 in
theorem Read_no (ys : List Int) (q : Option Addr) (c n : Nat) (h : IsBytes w q c ys) (hn : ys.length = n) (hc : n ≤ c) (hcm : c ≤ 9223372036854775807) (hn47 : n ≤ 140737488355328) (hr : Small ys) (er : Int) (her : frErr (ys.take 32) n = er) (h0 : er ≠ 0) :
    Calls Try.prog 8 #[.slice q n c] w fun e w' => e = .returned (.tuple #[.agg #[.int .i64 0, .int .i64 0, .int .u32 0], .slice none 0 0, .int .i64 er]) ∧ w.grownBy w' none := by
  have RD := Lib.hid (fun (w1 : World) (hg : w.grownBy w1 none) => read_no (w := w1) ys q c n (h.kept hg (by simp)) hn hc hcm hn47 hr er her h0)
  have ZA : HdAt (w.alloc (.cells #[.int .i64 0, .int .i64 0, .int .u32 0] 27)) w.heap.size ⟨0, 0, 0⟩ := heap_alloc_new w _
  have HA := Lib.hid ZA
  have GA := Lib.hid (grown1 w (.cells #[.int .i64 0, .int .i64 0, .int .u32 0] 27))
  clear ZA h hn hr her h0
  go_enter Try.func8, Try.ntmps8
  go_wp2_with fail
  refine (RD.out _ GA.out).mono ?_
  rintro e w1 ⟨rfl, hg⟩
  unfold Fr.v Fr.zero
  have gm := grown_trans hg (grown1 w1 (.cells #[.int .i64 0, .int .i64 0, .int .u32 0, .int .u64 0, .int .u64 0] 74))
  have hA : (w1.alloc (.cells #[.int .i64 0, .int .i64 0, .int .u32 0, .int .u64 0, .int .u64 0] 74)).heap[w.heap.size]? = some (.cells #[.int .i64 0, .int .i64 0, .int .u32 0] 27 (0, 0)) := (gm.block _ (lt_of_block HA.out) (by simp)).trans HA.out
  have a0 : (w1.alloc (.cells #[.int .i64 0, .int .i64 0, .int .u32 0, .int .u64 0, .int .u64 0] 74)).cell? ⟨w.heap.size, 0, none⟩ = some (.int .i64 0) := by rw [cell_of hA]; rfl
  have a1 : (w1.alloc (.cells #[.int .i64 0, .int .i64 0, .int .u32 0, .int .u64 0, .int .u64 0] 74)).cell? ⟨w.heap.size, 1, none⟩ = some (.int .i64 0) := by rw [cell_of hA]; rfl
  have a2 : (w1.alloc (.cells #[.int .i64 0, .int .i64 0, .int .u32 0, .int .u64 0, .int .u64 0] 74)).cell? ⟨w.heap.size, 2, none⟩ = some (.int .u32 0) := by rw [cell_of hA]; rfl
  have y0 : ∀ i, (w1.alloc (.cells #[.int .i64 0, .int .i64 0, .int .u32 0, .int .u64 0, .int .u64 0] 74)).frozen? ⟨w.heap.size, i, none⟩ = false := fun i => free_of hA
  have f0 := y0 0
  have f1 := y0 1
  have f2 := y0 2
  have hlt := lt_of_block hA
  have G1 := Lib.hid (grown_trans GA.out gm)
  have BA := Lib.hid hA
  clear hg gm hA y0
  go_wp2
  have PA := HdAt.put (w := w1.alloc (.cells #[.int .i64 0, .int .i64 0, .int .u32 0, .int .u64 0, .int .u64 0] 74)) (g := w.heap.size) (h := ⟨0, 0, 0⟩) BA.out ⟨0, 0, 0⟩
  refine bodyPost_ret (results_cell_tmp2 rfl _ _ _ rfl rfl rfl (load_hd PA)) rfl ?_
  exact ⟨rfl, grown_new G1.out (grown_put3 (grown_refl _ _) _ _ _) (Nat.le_refl _)⟩
end Go.Proofs.Ythdppaooemdmaaa
