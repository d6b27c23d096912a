import Derived.Test.YtemdbfgpimfkdaaM12
import Derived.Test.YtemdbfgpimfkdaaM11
import Derived.Test.YtemdbfgpimfkdaaM2
/- A section, as a cursor takes it. No condition. -/
namespace Go.Proofs.Ytemdbfgpimfkdaa
open Go.RowKit
variable {w w' : World} {lo hi a : Nat} {xs : List Int} {p : Nat}

def secCs (s : Sec) : List Value := [.string (strOfNums s.name), .string (strOfNums s.seg), .int .u64 s.addr, .int .u64 s.size, .int .u64 s.off, .int .i64 s.kind]
def secV (s : Sec) : Value := .agg #[.string (strOfNums s.name), .string (strOfNums s.seg), .int .u64 s.addr, .int .u64 s.size, .int .u64 s.off, .int .i64 s.kind]
theorem secCs_len (s : Sec) : (secCs s).length = 6 := rfl
theorem secCs_one (s : Sec) : ∀ u ∈ secCs s, u.oneCell' = true := by
  intro u hu
  simp only [secCs, List.mem_cons, List.not_mem_nil, or_false] at hu
  rcases hu with rfl | rfl | rfl | rfl | rfl | rfl <;> rfl
theorem secType : StType Try.prog 76 45 6 64 := .mk' Try.underlying45 (z := .agg #[.string ⟨#[]⟩, .string ⟨#[]⟩, .int .u64 0, .int .u64 0, .int .u64 0, .int .i64 0]) (by kernel_rfl) rfl (by decide)
def SecAt (w : World) (g : Nat) (s : Sec) : Prop := w.heap[g]? = some (.cells #[.string (strOfNums s.name), .string (strOfNums s.seg), .int .u64 s.addr, .int .u64 s.size, .int .u64 s.off, .int .i64 s.kind] 76 (0, 0))
def Sec.zero : Sec := ⟨[], [], 0, 0, 0, 0⟩
theorem SecAt.kept {g : Nat} {s : Sec} {r : Option Nat} (h : SecAt w g s) (hg : w.grownBy w' r) (hr : r ≠ some g) : SecAt w' g s := (hg.block g (lt_of_block h) (fun e => hr e.symm)).trans h
theorem SecAt.lt {g : Nat} {s : Sec} (h : SecAt w g s) : g < w.heap.size := lt_of_block h
theorem SecAt.fz {g : Nat} {s : Sec} (h : SecAt w g s) (i : Nat) : w.frozen? ⟨g, i, none⟩ = false := free_of h
theorem SecAt.c {g : Nat} {s : Sec} (h : SecAt w g s) : w.cell? ⟨g, 0, none⟩ = some (.string (strOfNums s.name)) ∧ w.cell? ⟨g, 1, none⟩ = some (.string (strOfNums s.seg)) ∧ w.cell? ⟨g, 2, none⟩ = some (.int .u64 s.addr) ∧ w.cell? ⟨g, 3, none⟩ = some (.int .u64 s.size) ∧ w.cell? ⟨g, 4, none⟩ = some (.int .u64 s.off) ∧ w.cell? ⟨g, 5, none⟩ = some (.int .i64 s.kind) := by
  refine ⟨?_, ?_, ?_, ?_, ?_, ?_⟩ <;> (rw [cell_of h]; rfl)
theorem SecAt.kind {g : Nat} {s : Sec} (h : SecAt w g s) (k : Int) : SecAt (w.setCell ⟨g, 5, none⟩ (.int .i64 k)) g { s with kind := k } := by
  unfold SecAt
  rw [heap_setCell_same w g 5 _ _ _ h]
  rfl
theorem SecAt.put {g : Nat} {s : Sec} (h : SecAt w g s) (t : Sec) : SecAt ((((((w.setCell ⟨g, 0, none⟩ (.string (strOfNums t.name))).setCell ⟨g, 1, none⟩ (.string (strOfNums t.seg))).setCell ⟨g, 2, none⟩ (.int .u64 t.addr)).setCell ⟨g, 3, none⟩ (.int .u64 t.size)).setCell ⟨g, 4, none⟩ (.int .u64 t.off)).setCell ⟨g, 5, none⟩ (.int .i64 t.kind)) g t := by
  unfold SecAt
  rw [heap_setCell_same _ g 5 _ _ _ (heap_setCell_same _ g 4 _ _ _ (heap_setCell_same _ g 3 _ _ _ (heap_setCell_same _ g 2 _ _ _ (heap_setCell_same _ g 1 _ _ _ (heap_setCell_same w g 0 _ _ _ h)))))]
  rfl
theorem grown_put6 {g : Nat} (h : w.grownBy w' (some g)) (v0 v1 v2 v3 v4 v5 : Value) : w.grownBy ((((((w'.setCell ⟨g, 0, none⟩ v0).setCell ⟨g, 1, none⟩ v1).setCell ⟨g, 2, none⟩ v2).setCell ⟨g, 3, none⟩ v3).setCell ⟨g, 4, none⟩ v4).setCell ⟨g, 5, none⟩ v5) (some g) :=
  grown_setCell (grown_setCell (grown_setCell (grown_setCell (grown_setCell (grown_setCell h _) _) _) _) _) _

set_option maxHeartbeats 1600000 in
set_option maxRecDepth 20000 in
theorem takeSection_any (h : Pen w lo hi a xs p false false) (hn : p + 80 ≤ xs.length) :
    Calls Try.prog 62 #[.pointer (some ⟨a, 0, none⟩)] w fun e w' => e = .returned (secV (secAt xs p)) ∧ Pen w' lo hi a xs (p + 80) false false ∧ w.grownBy w' (some a) := by
  have G0 := Lib.hid (grown1 w (.cells #[.string ⟨#[]⟩, .string ⟨#[]⟩, .int .u64 0, .int .u64 0, .int .u64 0, .int .i64 0] 76))
  have P0 := Lib.hid (h.same G0.out)
  have S0 := Lib.hid (show SecAt (w.alloc (.cells #[.string ⟨#[]⟩, .string ⟨#[]⟩, .int .u64 0, .int .u64 0, .int .u64 0, .int .i64 0] 76)) w.heap.size Sec.zero from heap_alloc_new w _)
  have hal : a < w.heap.size := h.lt
  have hhi : hi ≤ w.heap.size := h.sz
  have hne : (some a : Option Nat) ≠ some w.heap.size := by intro e; injection e with e; omega
  have hkb := leN_bd ((xs.drop (p + 64)).take 1) (fun x hx => h.small x (List.mem_of_mem_drop (List.mem_of_mem_take hx)))
  rw [show ((xs.drop (p + 64)).take 1).length = 1 by rw [List.length_take, List.length_drop]; omega] at hkb
  obtain ⟨⟨N, S, A, B, C, D⟩, hs⟩ : ∃ s, s = secAt xs p := ⟨_, rfl⟩
  have hD : leN ((xs.drop (p + 64)).take 1) = D := by
    have := congrArg Sec.kind hs; exact this.symm
  rw [hD] at hkb
  have SE := Lib.hid hs
  rw [← hs]
  clear h hs hD
  have i1 : D ≤ 255 := by have := hkb.2; simp at this; omega
  have hw : IntKind.i64.wrap D = D := IntWalk.i64_in _ (by omega)
  go_enter Try.func62, Try.ntmps62
  go_wp2_with fail
  refine (pen_field P0.out 16 (by decide) (by omega)).mono ?_
  rintro e w2 ⟨rfl, hp, hg⟩
  rw [show pre ((xs.drop p).take 16) = N from (congrArg Sec.name SE.out).symm]
  have P2 := Lib.hid hp
  have S2 := Lib.hid (S0.out.kept hg hne)
  have G2 := Lib.hid (grown_first G0.out hg)
  clear hp hg
  go_wp2_with fail
  refine (pen_field P2.out 16 (by decide) (by omega)).mono ?_
  rintro e w3 ⟨rfl, hp, hg⟩
  rw [show pre ((xs.drop (p + 16)).take 16) = S from (congrArg Sec.seg SE.out).symm]
  have P3 := Lib.hid hp
  have S3 := Lib.hid (S2.out.kept hg hne)
  have G3 := Lib.hid (grown_same G2.out hg)
  clear hp hg
  go_wp2_with fail
  refine (pen_num P3.out 8 (.inr (.inr (.inr rfl))) (by omega)).mono ?_
  rintro e w4 ⟨rfl, hp, hg⟩
  rw [show numOf false ((xs.drop (p + 16 + 16)).take 8) = A from (congrArg Sec.addr SE.out).symm]
  have P4 := Lib.hid hp
  have S4 := Lib.hid (S3.out.kept hg hne)
  have G4 := Lib.hid (grown_same G3.out hg)
  clear hp hg
  go_wp2_with fail
  refine (pen_num P4.out 8 (.inr (.inr (.inr rfl))) (by omega)).mono ?_
  rintro e w5 ⟨rfl, hp, hg⟩
  rw [show numOf false ((xs.drop (p + 16 + 16 + 8)).take 8) = B from (congrArg Sec.size SE.out).symm]
  have P5 := Lib.hid hp
  have S5 := Lib.hid (S4.out.kept hg hne)
  have G5 := Lib.hid (grown_same G4.out hg)
  clear hp hg
  go_wp2_with fail
  refine (pen_num P5.out 4 (.inr (.inr (.inl rfl))) (by omega)).mono ?_
  rintro e w6 ⟨rfl, hp, hg⟩
  rw [show numOf false ((xs.drop (p + 16 + 16 + 8 + 8)).take 4) = C from (congrArg Sec.off SE.out).symm]
  have g6 := grown1 w6 (.cells #[.string (strOfNums N), .string (strOfNums S), .int .u64 A, .int .u64 B, .int .u64 C, .int .i64 0] 76)
  have P6 := Lib.hid (hp.same g6)
  have S6 := Lib.hid ((S5.out.kept hg hne).kept g6 (by simp))
  have T6 := Lib.hid (show SecAt (w6.alloc (.cells #[.string (strOfNums N), .string (strOfNums S), .int .u64 A, .int .u64 B, .int .u64 C, .int .i64 0] 76)) w6.heap.size ⟨N, S, A, B, C, 0⟩ from heap_alloc_new w6 _)
  have G6 := Lib.hid (grown_then (grown_same G5.out hg) g6)
  have hal6 := hp.lt
  have hw6 : w.heap.size < w6.heap.size := (S5.out.kept hg hne).lt
  clear hp hg g6
  have hne6 : (some a : Option Nat) ≠ some w6.heap.size := by intro e; injection e with e; omega
  go_wp2_with fail
  refine (pen_bytes P6.out 12 (by omega)).mono ?_
  rintro e w7 ⟨q7, c7, rfl, _, hp, hg⟩
  have P7 := Lib.hid (show Pen w7 lo hi a xs (p + 64) false false from hp)
  have S7 := Lib.hid (S6.out.kept hg hne)
  have T7 := Lib.hid (T6.out.kept hg hne6)
  have G7 := Lib.hid (grown_same G6.out hg)
  clear hp hg
  go_wp2_with fail
  refine (pen_num P7.out 1 (.inl rfl) (by omega)).mono ?_
  rintro e w8 ⟨rfl, hp, hg⟩
  rw [show numOf false ((xs.drop (p + 64)).take 1) = D from (congrArg Sec.kind SE.out).symm]
  have P8 := Lib.hid hp
  have S8 := Lib.hid (S7.out.kept hg hne)
  have hT := T7.out.kept hg hne6
  have T8 := Lib.hid hT
  have G8 := Lib.hid (grown_same G7.out hg)
  have c5 := hT.c.2.2.2.2.2
  have f5 := hT.fz 5
  have hl8 := hT.lt
  clear hp hg hT
  go_wp2_with fail
  have g9 := grown_setCell (i := 5) (grown_refl w8 (some w6.heap.size)) (.int .i64 D)
  have P9 := Lib.hid (P8.out.kept g9 (.inr (by omega)))
  have S9 := Lib.hid (S8.out.kept g9 (by intro e; injection e with e; omega))
  have T9 := Lib.hid (T8.out.kind D)
  have G9 := Lib.hid (grown_past G8.out g9 (by omega))
  clear g9 c5 f5 hl8
  obtain ⟨w9, hw9⟩ : ∃ w9, w8.setCell ⟨w6.heap.size, 5, none⟩ (.int .i64 D) = w9 := ⟨_, rfl⟩
  rw [hw9] at P9 S9 T9 G9 ⊢
  clear hw9
  refine (pen_bytes P9.out 15 (by omega)).mono ?_
  rintro e w10 ⟨q10, c10, rfl, _, hp, hg⟩
  have P10 := Lib.hid (show Pen w10 lo hi a xs (p + 80) false false from hp)
  have hS := S9.out.kept hg hne
  have hT := T9.out.kept hg hne6
  have S10 := Lib.hid hS
  have G10 := Lib.hid (grown_same G9.out hg)
  obtain ⟨c0, c1, c2, c3, c4, c5⟩ := hT.c
  obtain ⟨d0, d1, d2, d3, d4, d5⟩ := hS.c
  have f0 := hS.fz 0
  have f1 := hS.fz 1
  have f2 := hS.fz 2
  have f3 := hS.fz 3
  have f4 := hS.fz 4
  have f5 := hS.fz 5
  have hl := hS.lt
  simp only [] at c0 c1 c2 c3 c4 c5
  clear hp hg hS hT
  go_wp2
  have PA := S10.out.put ⟨N, S, A, B, C, D⟩
  have gP := grown_put6 (grown_refl w10 (some w.heap.size)) (.string (strOfNums N)) (.string (strOfNums S)) (.int .u64 A) (.int .u64 B) (.int .u64 C) (.int .i64 D)
  refine bodyPost_ret (results_cell_row rfl _ _ _ _ _ _ _ rfl PA Try.underlying76 rfl (by kernel_rfl)) rfl ?_
  exact ⟨rfl, P10.out.kept gP (.inr hhi), grown_past G10.out gP (Nat.le_refl _)⟩
end Go.Proofs.Ytemdbfgpimfkdaa

/- Two lists of commands are the same just where each one's number and bytes are. No condition. -/
namespace Go.Proofs.Ytemdbfgpimfkdaa
open Go.RowKit
variable {w w' : World}

theorem text_eq {xs ys : List Int} (hx : Small xs) (hy : Small ys) : ((strOfNums xs).toList == (strOfNums ys).toList) = decide (xs = ys) := by
  rw [Lib.strOfNums_toList ys]
  exact text_is hx hy
theorem take_same {α : Type} {l m : List α} {k : Nat} {x : α} (h : l.take k = m.take k) (hx : l[k]? = some x) (hy : m[k]? = some x) : l.take (k + 1) = m.take (k + 1) := by
  rw [List.take_add_one, List.take_add_one, h, hx, hy]

end Go.Proofs.Ytemdbfgpimfkdaa
