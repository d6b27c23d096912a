/- The chapter's own rows, answered as it says: known() is true, and all that was in memory stays. -/
import Derived.Test.YtdjakaiadggemaaSlice
import Derived.Lib.SlBytesConst
namespace Go.Proofs.Ytdjakaiadggemaa
open Go.RowKit
variable {w w' : World}

def ys1 : List Int := [207, 250, 237, 254, 12, 0, 0, 1, 0, 0, 0, 0]
def ys2 : List Int := [207, 250, 237, 254, 12, 0, 0, 1, 2, 0, 0, 0]
def ys3 : List Int := [202, 254, 186, 190, 0, 0, 0, 0]
theorem slices1 : slicesN ys1 = ([⟨16777228, 0, 0, 12, 0⟩], 0) := by
  unfold slicesN
  rw [if_neg (by decide), if_neg (by decide), if_pos (by decide)]
  rfl
theorem slices2 : slicesN ys2 = ([⟨16777228, 2, 0, 12, 0⟩], 0) := by
  unfold slicesN
  rw [if_neg (by decide), if_neg (by decide), if_pos (by decide)]
  rfl
theorem slices3 : slicesN ys3 = ([], 0) := by
  unfold slicesN
  rw [if_neg (by decide), if_neg (by decide), if_neg (by decide), if_pos (by decide)]
  unfold listN
  have h0 : at' ys3 4 4 = 0 := rfl
  rw [h0, if_neg (by decide), if_neg (by decide), if_neg (by decide)]
  have e : entries false ys3 (0 : Int).toNat = [] := rfl
  rw [e, if_neg, if_neg]
  · rintro ⟨i, s, hs, _⟩; simp at hs
  · rintro ⟨i, s, hs, _⟩; simp at hs
theorem slice11 : sliceN ys1 1 = (0, 12, 0) := by
  unfold sliceN; rw [if_neg (by decide), slices1, if_neg (by decide)]; rfl
theorem slice12 : sliceN ys1 2 = (0, 12, 0) := by
  unfold sliceN; rw [if_neg (by decide), slices1, if_neg (by decide)]; rfl
theorem slice21 : sliceN ys2 1 = (0, 0, 6) := by
  unfold sliceN; rw [if_neg (by decide), slices2, if_neg (by decide)]; rfl
theorem slice22 : sliceN ys2 2 = (0, 12, 0) := by
  unfold sliceN; rw [if_neg (by decide), slices2, if_neg (by decide)]; rfl
theorem slice31 : sliceN ys3 1 = (0, 0, 6) := by
  unfold sliceN; rw [if_neg (by decide), slices3, if_neg (by decide)]; rfl

/-- A row of bytes in a block of its own, whatever mark it bears. -/
theorem bytes_at {g : Nat} {l : List Int} {T : TypeId} {fr : Nat × Nat} (h : w.heap[g]? = some (.cells (l.map (Value.int .u8)).toArray T fr)) (c : Nat) : IsBytes w (some ⟨g, 0, none⟩) c l := by
  refine IsBytes.mk_at fun i hi => ?_
  rw [cell_of_row w g _ _ _ _ h]
  simp [List.getD, hi]
theorem set_marked {g i : Nat} {cs : Array Value} {T : TypeId} {fr : Nat × Nat} (h : w.heap[g]? = some (.cells cs T fr)) (v : Value) :
    (w.setCell ⟨g, i, none⟩ v).heap[g]? = some (.cells (cs.setIfInBounds i v) T fr) := by
  rw [setCell_eq_setRow w g i cs T fr v h]
  exact setRow_heap w g cs _ T _ h
theorem free_marked {g i n : Nat} {cs : Array Value} {T : TypeId} (h : w.heap[g]? = some (.cells cs T (n, n + 1))) (hi : i < n) : w.frozen? ⟨g, i, none⟩ = false := by
  simp [World.frozen?, h]; omega

def R1 (w : World) (g : Nat) : Prop := w.heap[g]? = some (.cells (ys1.map (Value.int .u8)).toArray 5 (12, 13))
def R2 (w : World) (g : Nat) : Prop := w.heap[g]? = some (.cells (ys2.map (Value.int .u8)).toArray 5 (12, 13))
def R3 (w : World) (g : Nat) : Prop := w.heap[g]? = some (.cells (ys3.map (Value.int .u8)).toArray 5 (8, 9))
theorem SpAt.keptBy {g : Nat} {o z : Int} {row : Option Nat} (h : SpAt w g o z) (hg : w.grownBy w' row) (hr : row ≠ some g) : SpAt w' g o z := (hg.block g (lt_of_block h) (fun e => hr e.symm)).trans h

set_option maxRecDepth 20000 in
theorem known_any : Calls Try.prog 8 #[] w fun e w' => e = .returned (.bool true) ∧ Below w.heap.size w w' := by
  have A1 := Lib.hid (fun (w : World) g (h : R1 w g) => slice_any (w := w) ys1 (some ⟨g, 0, none⟩) 12 12 (bytes_at h 12) rfl (by omega) (by omega) (small_lit rfl) 1)
  have A2 := Lib.hid (fun (w : World) g (h : R1 w g) => slice_any (w := w) ys1 (some ⟨g, 0, none⟩) 12 12 (bytes_at h 12) rfl (by omega) (by omega) (small_lit rfl) 2)
  have B1 := Lib.hid (fun (w : World) g (h : R2 w g) => slice_any (w := w) ys2 (some ⟨g, 0, none⟩) 12 12 (bytes_at h 12) rfl (by omega) (by omega) (small_lit rfl) 1)
  have B2 := Lib.hid (fun (w : World) g (h : R2 w g) => slice_any (w := w) ys2 (some ⟨g, 0, none⟩) 12 12 (bytes_at h 12) rfl (by omega) (by omega) (small_lit rfl) 2)
  have C1 := Lib.hid (fun (w : World) g (h : R3 w g) => slice_any (w := w) ys3 (some ⟨g, 0, none⟩) 8 8 (bytes_at h 8) rfl (by omega) (by omega) (small_lit rfl) 1)
  rw [slice11] at A1
  rw [slice12] at A2
  rw [slice21] at B1
  rw [slice22] at B2
  rw [slice31] at C1
  simp only [] at A1 A2 B1 B2 C1
  have cs := Lib.run_convert_bytes_const (P := Try.prog) w 22 5 (ys1.map (Value.int .u8)).toArray 12 12 Try.underlying22 Try.underlying5
  have CS := fun w => Lib.run_convert_bytes_const (P := Try.prog) w 22 5 (ys3.map (Value.int .u8)).toArray 8 8 Try.underlying22 Try.underlying5
  simp only [ys1, ys3, List.map_cons, List.map_nil, List.size_toArray, List.length_cons, List.length_nil, Nat.zero_add, Nat.reduceAdd] at cs CS
  go_enter Try.func8, Try.ntmps8
  go_wp2_with fail
  have b0 : R1 (w.alloc (.cells (ys1.map (Value.int .u8)).toArray 5 (12, 13))) w.heap.size := heap_alloc_new w _
  refine (A1.out _ _ b0).mono ?_
  rintro e w1 ⟨rfl, hg1⟩
  have hg1' := grown_trans (grown1 w _) hg1
  have b1 : R1 w1 _ := (hg1.block _ (lt_of_block b0) (by simp)).trans b0
  have S1 := Lib.hid (SpAt.new w1 0 12)
  have hn := grown1 w1 (.cells #[.int .u64 0, .int .u64 12] 33)
  have b2 : R1 (w1.alloc (.cells #[.int .u64 0, .int .u64 12] 33)) _ := (hn.block _ (lt_of_block b1) (by simp)).trans b1
  have G1 := Lib.hid (grown_trans hg1' hn)
  have L1 := lt_of_block b1
  clear hg1 hg1' b1 b0 hn cs
  have Z2 := Lib.hid b2
  clear b2
  go_wp2_with fail
  refine (A2.out _ _ Z2.out).mono ?_
  rintro e w2 ⟨rfl, hg2⟩
  have hn := grown1 w2 (.cells #[.int .u64 0, .int .u64 12] 33)
  have hgn := grown_trans hg2 hn
  have S2 := Lib.hid (S1.out.grown hgn)
  have S2' := Lib.hid (SpAt.new w2 0 12)
  have b3 : R1 w2 _ := (hg2.block _ (lt_of_block Z2.out) (by simp)).trans Z2.out
  have L2 : w.heap.size < w2.heap.size := by have := hg2.size; simp at this; omega
  have L3 : w1.heap.size < w2.heap.size := by have := hg2.size; simp at this; omega
  have b4 : R2 (w2.setCell ⟨w.heap.size, 8, none⟩ (.int .u8 2)) w.heap.size := set_marked b3 _
  have hs := grown_setCell (i := 8) (grown_refl w2 (some w.heap.size)) (.int .u8 2)
  have hn2 := grown1 (w2.setCell ⟨w.heap.size, 8, none⟩ (.int .u8 2)) (.cells #[.int .u64 0, .int .u64 12] 33)
  have b5 := (hn2.block _ (lt_of_block b4) (by simp)).trans b4
  have T2 := Lib.hid ((((S1.out.grown hg2).keptBy hs (by simp; omega))).grown hn2)
  have T4 : SpAt ((w2.setCell ⟨w.heap.size, 8, none⟩ (.int .u8 2)).alloc (.cells #[.int .u64 0, .int .u64 12] 33)) w2.heap.size 0 12 := by
    have := SpAt.new (w2.setCell ⟨w.heap.size, 8, none⟩ (.int .u8 2)) 0 12
    simpa using this
  have T4' := Lib.hid T4
  have G2 := Lib.hid (grown_trans (grown_new (grown_trans G1.out hg2) hs (Nat.le_refl _)) hn2)
  have Z3 := Lib.hid (show R2 ((w2.setCell ⟨w.heap.size, 8, none⟩ (.int .u8 2)).alloc (.cells #[.int .u64 0, .int .u64 12] 33)) w.heap.size from b5)
  have c8 : w2.cell? ⟨w.heap.size, 8, none⟩ = some (.int .u8 0) := by rw [cell_of_row _ _ _ _ _ _ b3]; rfl
  have f8 := free_marked (i := 8) b3 (by omega)
  clear hg2 hn hgn Z2 S1 G1 S2 S2' b3 b4 b5 hs hn2 T4
  go_wp2_with fail
  refine (B1.out _ _ Z3.out).mono ?_
  generalize hW : (w2.setCell _ _).alloc _ = W at *
  clear hW c8 f8
  rintro e w3 ⟨rfl, hg3⟩
  have hn := grown1 w3 (.cells #[.int .u64 0, .int .u64 0] 33)
  have hgn := grown_trans hg3 hn
  have U2 := Lib.hid (T2.out.grown hgn)
  have U4 := Lib.hid (T4'.out.grown hgn)
  have Z4 := Lib.hid (show R2 (w3.alloc (.cells #[.int .u64 0, .int .u64 0] 33)) w.heap.size from (hgn.block _ (lt_of_block Z3.out) (by simp)).trans Z3.out)
  have G3 := Lib.hid (grown_trans G2.out hgn)
  clear hg3 hn hgn T2 T4' Z3 G2
  go_wp2_with fail
  refine (B2.out _ _ Z4.out).mono ?_
  rintro e w4 ⟨rfl, hg4⟩
  have hn := grown1 w4 (.cells #[.int .u64 0, .int .u64 12] 33)
  have hgn := grown_trans hg4 hn
  have V2 := Lib.hid (U2.out.grown hgn)
  have V4 := Lib.hid (U4.out.grown hgn)
  have V8 := Lib.hid (SpAt.new w4 0 12)
  have G4 := Lib.hid (grown_trans G3.out hgn)
  have b6 := heap_alloc_new (w4.alloc (.cells #[.int .u64 0, .int .u64 12] 33)) (.cells (ys3.map (Value.int .u8)).toArray 5 (8, 9))
  have Z5 := Lib.hid (show R3 _ _ from b6)
  have cs8 := CS (w4.alloc (.cells #[.int .u64 0, .int .u64 12] 33))
  clear hg4 hn hgn U2 U4 Z4 G3 b6 CS
  have hsz : (w4.alloc (.cells #[.int .u64 0, .int .u64 12] 33)).heap.size = w4.heap.size + 1 := by simp
  rw [hsz] at cs8 Z5
  go_wp2_with fail
  refine (C1.out _ _ Z5.out).mono ?_
  rintro e w5 ⟨rfl, hg5⟩
  have hn := grown1 w5 (.cells #[.int .u64 0, .int .u64 0] 33)
  have hgn := grown_trans (grown1 _ _) hg5
  have X2 := V2.out.grown hgn
  have X4 := V4.out.grown hgn
  have X8 := V8.out.grown hgn
  have G5 := Lib.hid (grown_trans G4.out hgn)
  have a0 := X2.c0
  have a1 := X2.c1
  have a2 := X4.c0
  have a3 := X4.c1
  have a4 := X8.c0
  have a5 := X8.c1
  have l2 := lt_of_block X2
  have l4 := lt_of_block X4
  have l8 := lt_of_block X8
  clear hg5 hn hgn X2 X4 X8 V2 V4 V8 G4 Z5 cs8
  go_wp2
  go_ret
  exact ⟨rfl, below_grown (grown_trans G5.out (grown2 _ _ _)) (Nat.le_refl _) (by simp)⟩
end Go.Proofs.Ytdjakaiadggemaa
