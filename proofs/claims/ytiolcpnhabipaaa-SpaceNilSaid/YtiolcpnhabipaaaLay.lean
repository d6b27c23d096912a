/- A page is laid: its block, and an entry in each of the two maps, in whatever order these are written. No condition but that the maps have room. -/
import Derived.Test.YtiolcpnhabipaaaSpc
import Derived.WalkSpells
import Derived.Deep.RegionHeld3
namespace Go.Proofs.Ytiolcpnhabipaaa
open Go.RowKit Go.Maps Go.ChangeMaps
variable {w w' : World}
theorem sb_heap {W : World} {b : Nat} {o : Obj} {i : Nat} (h : i ≠ b) : (setBlock W b o).heap[i]? = W.heap[i]? := by unfold setBlock; simp [h.symm]
theorem sb_self {W : World} {b : Nat} {o : Obj} : (setBlock W b o).heap[b]? = (W.heap[b]?).map (fun _ => o) := by
  cases h : W.heap[b]? with
  | none =>
    have := Array.getElem?_eq_none_iff.1 h
    unfold setBlock; simp; omega
  | some o' =>
    have := (Array.getElem?_eq_some_iff.1 h).1
    unfold setBlock; simp [this]
theorem sb_cell {W : World} {b : Nat} {o : Obj} {x : Addr} (h : x.block ≠ b) : (setBlock W b o).cell? x = W.cell? x := by
  unfold World.cell?; rw [sb_heap h]
theorem sb_size {W : World} {b : Nat} {o : Obj} : (setBlock W b o).heap.size = W.heap.size := by unfold setBlock; simp

/-- Two blocks are others; all else is as it was. -/
structure Sets (w w' : World) (bp bq : Nat) (o q : Obj) : Prop where
  p : w'.heap[bp]? = some o
  q : w'.heap[bq]? = some q
  other : ∀ k, k ≠ bp → k ≠ bq → w'.heap[k]? = w.heap[k]?
  size : w'.heap.size = w.heap.size
  os : w'.os = w.os
  tape : w'.tape = w.tape
  output : w'.output = w.output

theorem sets_any {W X : World} {bp bq : Nat} {o q : Obj} (hp : X.heap[bp]? = some o) (hq : X.heap[bq]? = some q) (ho : ∀ k, k ≠ bp → k ≠ bq → X.heap[k]? = W.heap[k]?) (hs : X.heap.size = W.heap.size) (h1 : X.os = W.os) (h2 : X.tape = W.tape) (h3 : X.output = W.output) : Sets W X bp bq o q := ⟨hp, hq, ho, hs, h1, h2, h3⟩

/-- What a page's laying leaves. -/
def LayEnd (w : World) (bp bq : Nat) (o2 q2 : Obj) (e : Ending) (w' : World) : Prop := e = .returned (.tuple #[]) ∧ Sets w w' bp bq o2 q2

set_option maxRecDepth 20000 in
set_option maxHeartbeats 2000000 in
theorem lay_raw (a bp bq : Nat) (n : Nat) (pg : Array Value) (p : Int) (o0 o1 o2 q0 q1 q2 : Obj) (hpq : bp ≠ bq) (hap : a ≠ bp) (haq : a ≠ bq) (ha : w.heap[a]? = some (.cells #[.map (some bp), .map (some bq)] 65 (0, 0))) (h0 : w.heap[bp]? = some o0) (hq0 : w.heap[bq]? = some q0)
   (hP : Halves Try.prog 62 bp (.int .u64 n) (.pointer (some ⟨w.heap.size, 0, none⟩)) o0 o1 o2) (hQ : Halves Try.prog 63 bq (.int .u64 n) (.int .i64 p) q0 q1 q2) :
   Calls Try.prog 37 #[.pointer (some ⟨a, 0, none⟩), .int .u64 n, .agg pg, .int .i64 p] w (LayEnd (w.alloc (.cells pg 76)) bp bq o2 q2) := by
  obtain ⟨v0, st, hP1, hP2⟩ := hP
  obtain ⟨v1, sq, hQ1, hQ2⟩ := hQ
  have c0 : (w.alloc (.cells pg 76)).cell? ⟨a, 0, none⟩ = some (.map (some bp)) := by
    rw [World.cell?_alloc_lt _ _ _ (lt_of_block ha), cell_of ha]; rfl
  have c1 : (w.alloc (.cells pg 76)).cell? ⟨a, 1, none⟩ = some (.map (some bq)) := by
    rw [World.cell?_alloc_lt _ _ _ (lt_of_block ha), cell_of ha]; rfl
  have h0' : (w.alloc (.cells pg 76)).heap[bp]? = some o0 := by rw [heap_alloc_old _ _ (lt_of_block h0)]; exact h0
  have hq0' : (w.alloc (.cells pg 76)).heap[bq]? = some q0 := by rw [heap_alloc_old _ _ (lt_of_block hq0)]; exact hq0
  clear h0 hq0 ha
  have qe : ∀ (w : World) (r : Option Nat), (binOp .eql 62 (.map r) (.map none)).run Try.prog w = .ok (.bool r.isNone) w := fun w r => run_eql_map_nil w 62 _ _ r Try.underlying62
  go_enter Try.func37, Try.ntmps37
  go_wp2
  generalize w.alloc (.cells pg 76) = W at c0 c1 h0' hq0' ⊢
  have s1 : ∀ (W : World) o, (setBlock W bq o).heap[bp]? = W.heap[bp]? := fun W o => sb_heap hpq
  have s2 : ∀ (W : World) o, (setBlock W bp o).heap[bq]? = W.heap[bq]? := fun W o => sb_heap (Ne.symm hpq)
  have s3 : ∀ (W : World) o, (setBlock W bp o).heap[bp]? = (W.heap[bp]?).map (fun _ => o) := fun W o => sb_self
  have s4 : ∀ (W : World) o, (setBlock W bq o).heap[bq]? = (W.heap[bq]?).map (fun _ => o) := fun W o => sb_self
  have s0 : ∀ (W : World), W.drew.heap = W.heap := fun W => rfl
  have HA := Lib.hid hap
  have HB := Lib.hid haq
  clear hap haq hpq
  go_region_held3 (fun W => W.cell? ⟨a, 0, none⟩ = some (.map (some bp)) ∧ W.cell? ⟨a, 1, none⟩ = some (.map (some bq))) (first | exact ⟨c0, c1⟩ | (refine ⟨?_, ?_⟩ <;> simp [sb_cell, HA.out, HB.out, c0, c1])) (fail)
  all_goals
    clear hP1 hP2 hQ1 hQ2
    go_end0
    refine ⟨rfl, sets_any ?_ ?_ (fun k hp hq => ?_) ?_ rfl rfl rfl⟩
    · simp [s0, s1, s3, h0']
    · simp [s0, s2, s4, hq0']
    · simp [sb_heap hp, sb_heap hq, s0]
    · simp [sb_size, s0]

/-- The world in which a new space has its two maps. -/
def bareW (w : World) (a : Nat) (pg : Array Value) : World :=
  ((((w.alloc (.cells pg 76)).alloc (.map #[] 0)).alloc (.map #[] 0)).setCell ⟨a, 0, none⟩ (.map (some (w.heap.size + 1)))).setCell ⟨a, 1, none⟩ (.map (some (w.heap.size + 1 + 1)))

set_option maxRecDepth 20000 in
set_option maxHeartbeats 2000000 in
theorem lay_bare_raw (a : Nat) (n : Nat) (pg : Array Value) (p : Int) (o1 o2 q1 q2 : Obj) (ha : w.heap[a]? = some (.cells #[.map none, .map none] 65 (0, 0)))
   (g bp bq : Nat) (W : World) (hg : w.heap.size = g) (hp : g + 1 = bp) (hq : bp + 1 = bq) (hW : bareW w a pg = W)
   (hP : Halves Try.prog 62 bp (.int .u64 n) (.pointer (some ⟨g, 0, none⟩)) (.map #[] 0) o1 o2) (hQ : Halves Try.prog 63 bq (.int .u64 n) (.int .i64 p) (.map #[] 0) q1 q2) :
   Calls Try.prog 37 #[.pointer (some ⟨a, 0, none⟩), .int .u64 n, .agg pg, .int .i64 p] w (LayEnd W bp bq o2 q2) := by
  obtain ⟨v0, st, hP1, hP2⟩ := hP
  obtain ⟨v1, sq, hQ1, hQ2⟩ := hQ
  have hlt := lt_of_block ha
  have c0 : (w.alloc (.cells pg 76)).cell? ⟨a, 0, none⟩ = some (.map none) := by
    rw [World.cell?_alloc_lt _ _ _ hlt, cell_of ha]; rfl
  have hA : (((w.alloc (.cells pg 76)).alloc (.map #[] 0)).alloc (.map #[] 0)).heap[a]? = some (.cells #[.map none, .map none] 65 (0, 0)) := by
    rw [heap_alloc_old _ _ (by simp; omega), heap_alloc_old _ _ (by simp; omega), heap_alloc_old _ _ hlt]; exact ha
  have d0 : (((w.alloc (.cells pg 76)).alloc (.map #[] 0)).alloc (.map #[] 0)).cell? ⟨a, 0, none⟩ = some (.map none) := by rw [cell_of hA]; rfl
  have d1 : (((w.alloc (.cells pg 76)).alloc (.map #[] 0)).alloc (.map #[] 0)).cell? ⟨a, 1, none⟩ = some (.map none) := by rw [cell_of hA]; rfl
  have f0 : (((w.alloc (.cells pg 76)).alloc (.map #[] 0)).alloc (.map #[] 0)).frozen? ⟨a, 0, none⟩ = false := free_of hA
  have f1 : (((w.alloc (.cells pg 76)).alloc (.map #[] 0)).alloc (.map #[] 0)).frozen? ⟨a, 1, none⟩ = false := free_of hA
  have hB : (bareW w a pg).heap[a]? = some (.cells #[.map (some (w.heap.size + 1)), .map (some (w.heap.size + 1 + 1))] 65 (0, 0)) := by
    unfold bareW
    have h1 := heap_setCell_same _ a 0 _ _ (.map (some (w.heap.size + 1))) hA
    exact (heap_setCell_same _ a 1 _ _ (.map (some (w.heap.size + 1 + 1))) h1).trans rfl
  have h0' : (bareW w a pg).heap[w.heap.size + 1]? = some (.map #[] 0) := by
    unfold bareW
    rw [heap_setCell_other _ _ _ _ (show w.heap.size + 1 ≠ a by omega), heap_setCell_other _ _ _ _ (show w.heap.size + 1 ≠ a by omega), heap_alloc_old _ _ (by simp)]
    have := heap_alloc_new (w.alloc (.cells pg 76)) (.map #[] 0)
    simpa using this
  have hq0' : (bareW w a pg).heap[w.heap.size + 1 + 1]? = some (.map #[] 0) := by
    unfold bareW
    rw [heap_setCell_other _ _ _ _ (show w.heap.size + 1 + 1 ≠ a by omega), heap_setCell_other _ _ _ _ (show w.heap.size + 1 + 1 ≠ a by omega)]
    have := heap_alloc_new ((w.alloc (.cells pg 76)).alloc (.map #[] 0)) (.map #[] 0)
    simpa using this
  have b0 : (bareW w a pg).cell? ⟨a, 0, none⟩ = some (.map (some (w.heap.size + 1))) := by rw [cell_of hB]; rfl
  have b1 : (bareW w a pg).cell? ⟨a, 1, none⟩ = some (.map (some (w.heap.size + 1 + 1))) := by rw [cell_of hB]; rfl
  have qe : ∀ (w : World) (r : Option Nat), (binOp .eql 62 (.map r) (.map none)).run Try.prog w = .ok (.bool r.isNone) w := fun w r => run_eql_map_nil w 62 _ _ r Try.underlying62
  have hmm := @run_makeMap Try.prog
  clear ha hA hB
  have hap : a ≠ bp := by omega
  have haq : a ≠ bq := by omega
  have hpq : bp ≠ bq := by omega
  rw [hW, hg, hp] at h0' b0
  rw [hW, hg, hp, hq] at b1 hq0'
  have HB0 := Lib.hid h0'
  have HB1 := Lib.hid hq0'
  have HB2 := Lib.hid b0
  have HB3 := Lib.hid b1
  have X1 := Lib.hid hP1
  have X2 := Lib.hid hP2
  have X3 := Lib.hid hQ1
  have X4 := Lib.hid hQ2
  have E1 := Lib.hid hg
  have E2 := Lib.hid hp
  have E3 := Lib.hid hq
  have E4 := Lib.hid hW
  have HA := Lib.hid hap
  have HB := Lib.hid haq
  have HC := Lib.hid hpq
  clear h0' hq0' b0 b1 hP1 hP2 hQ1 hQ2 hg hp hq hW hlt hap haq hpq
  go_enter Try.func37, Try.ntmps37
  go_wp2
  change Code.wp _ _ _ _ (bareW w a pg)
  rw [E4.out]
  simp only [E1.out, E2.out, E3.out]
  clear c0 d0 d1 f0 f1
  have h0' := HB0.out
  have hq0' := HB1.out
  have c0 := HB2.out
  have c1 := HB3.out
  have hP1 := X1.out
  have hP2 := X2.out
  have hQ1 := X3.out
  have hQ2 := X4.out
  clear HB0 HB1 HB2 HB3 X1 X2 X3 X4
  have s1 : ∀ (W : World) o, (setBlock W bq o).heap[bp]? = W.heap[bp]? := fun W o => sb_heap HC.out
  have s2 : ∀ (W : World) o, (setBlock W bp o).heap[bq]? = W.heap[bq]? := fun W o => sb_heap (Ne.symm HC.out)
  have s3 : ∀ (W : World) o, (setBlock W bp o).heap[bp]? = (W.heap[bp]?).map (fun _ => o) := fun W o => sb_self
  have s4 : ∀ (W : World) o, (setBlock W bq o).heap[bq]? = (W.heap[bq]?).map (fun _ => o) := fun W o => sb_self
  have s0 : ∀ (W : World), W.drew.heap = W.heap := fun W => rfl
  go_region_held3 (fun W => W.cell? ⟨a, 0, none⟩ = some (.map (some bp)) ∧ W.cell? ⟨a, 1, none⟩ = some (.map (some bq))) (first | exact ⟨c0, c1⟩ | (refine ⟨?_, ?_⟩ <;> simp [sb_cell, HA.out, HB.out, c0, c1])) (fail)
  all_goals
    clear hP1 hP2 hQ1 hQ2
    go_end0
    refine ⟨rfl, sets_any ?_ ?_ (fun k hp hq => ?_) ?_ rfl rfl rfl⟩
    · simp [s0, s1, s3, h0']
    · simp [s0, s2, s4, hq0']
    · simp [sb_heap hp, sb_heap hq, s0]
    · simp [sb_size, s0]
end Go.Proofs.Ytiolcpnhabipaaa
