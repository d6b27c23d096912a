import Derived.Test.YtdagnkdonlfobaaGreatM6
import Derived.Test.YtdagnkdonlfobaaGreatM1
import Derived.Deep.Cut
import Derived.Deep.CutRange
import Derived.Deep.RegionHeld3
/- A section, as a cursor takes it. No condition. -/
namespace Go.Proofs.YtdagnkdonlfobaaGreat
open Go.RowKit
variable {w w' : World} {lo hi a : Nat} {xs : List Int} {p : Nat}

def secCs (s : Sec) : List Value := [.string (strOfNums s.name), .string (strOfNums s.seg), .int .u64 s.addr, .int .u64 s.size, .int .u64 s.off, .int .i64 s.kind]
def secV (s : Sec) : Value := .agg #[.string (strOfNums s.name), .string (strOfNums s.seg), .int .u64 s.addr, .int .u64 s.size, .int .u64 s.off, .int .i64 s.kind]
theorem secCs_len (s : Sec) : (secCs s).length = 6 := rfl
theorem secCs_one (s : Sec) : ∀ u ∈ secCs s, u.oneCell' = true := by
  intro u hu
  simp only [secCs, List.mem_cons, List.not_mem_nil, or_false] at hu
  rcases hu with rfl | rfl | rfl | rfl | rfl | rfl <;> rfl
theorem secType : StType Tryz.prog 148 56 6 64 := .mk' Tryz.underlying56 (z := .agg #[.string ⟨#[]⟩, .string ⟨#[]⟩, .int .u64 0, .int .u64 0, .int .u64 0, .int .i64 0]) (by kernel_rfl) rfl (by decide)
def SecAt (w : World) (g : Nat) (s : Sec) : Prop := w.heap[g]? = some (.cells #[.string (strOfNums s.name), .string (strOfNums s.seg), .int .u64 s.addr, .int .u64 s.size, .int .u64 s.off, .int .i64 s.kind] 148 (0, 0))
def Sec.zero : Sec := ⟨[], [], 0, 0, 0, 0⟩
theorem SecAt.kept {g : Nat} {s : Sec} {r : Option Nat} (h : SecAt w g s) (hg : w.grownBy w' r) (hr : r ≠ some g) : SecAt w' g s := (hg.block g (lt_of_block h) (fun e => hr e.symm)).trans h
theorem SecAt.lt {g : Nat} {s : Sec} (h : SecAt w g s) : g < w.heap.size := lt_of_block h
theorem SecAt.fz {g : Nat} {s : Sec} (h : SecAt w g s) (i : Nat) : w.frozen? ⟨g, i, none⟩ = false := free_of h
theorem SecAt.c {g : Nat} {s : Sec} (h : SecAt w g s) : w.cell? ⟨g, 0, none⟩ = some (.string (strOfNums s.name)) ∧ w.cell? ⟨g, 1, none⟩ = some (.string (strOfNums s.seg)) ∧ w.cell? ⟨g, 2, none⟩ = some (.int .u64 s.addr) ∧ w.cell? ⟨g, 3, none⟩ = some (.int .u64 s.size) ∧ w.cell? ⟨g, 4, none⟩ = some (.int .u64 s.off) ∧ w.cell? ⟨g, 5, none⟩ = some (.int .i64 s.kind) := by
  refine ⟨?_, ?_, ?_, ?_, ?_, ?_⟩ <;> (rw [cell_of h]; rfl)
theorem SecAt.kind {g : Nat} {s : Sec} (h : SecAt w g s) (k : Int) : SecAt (w.setCell ⟨g, 5, none⟩ (.int .i64 k)) g { s with kind := k } := by
  unfold SecAt
  rw [heap_setCell_same w g 5 _ _ _ h]
  rfl
theorem SecAt.put {g : Nat} {s : Sec} (h : SecAt w g s) (t : Sec) : SecAt ((((((w.setCell ⟨g, 0, none⟩ (.string (strOfNums t.name))).setCell ⟨g, 1, none⟩ (.string (strOfNums t.seg))).setCell ⟨g, 2, none⟩ (.int .u64 t.addr)).setCell ⟨g, 3, none⟩ (.int .u64 t.size)).setCell ⟨g, 4, none⟩ (.int .u64 t.off)).setCell ⟨g, 5, none⟩ (.int .i64 t.kind)) g t := by
  unfold SecAt
  rw [heap_setCell_same _ g 5 _ _ _ (heap_setCell_same _ g 4 _ _ _ (heap_setCell_same _ g 3 _ _ _ (heap_setCell_same _ g 2 _ _ _ (heap_setCell_same _ g 1 _ _ _ (heap_setCell_same w g 0 _ _ _ h)))))]
  rfl
theorem grown_put6 {g : Nat} (h : w.grownBy w' (some g)) (v0 v1 v2 v3 v4 v5 : Value) : w.grownBy ((((((w'.setCell ⟨g, 0, none⟩ v0).setCell ⟨g, 1, none⟩ v1).setCell ⟨g, 2, none⟩ v2).setCell ⟨g, 3, none⟩ v3).setCell ⟨g, 4, none⟩ v4).setCell ⟨g, 5, none⟩ v5) (some g) :=
  grown_setCell (grown_setCell (grown_setCell (grown_setCell (grown_setCell (grown_setCell h _) _) _) _) _) _

set_option maxHeartbeats 1600000 in
set_option maxRecDepth 20000 in
theorem takeSection_any (h : Pen w lo hi a xs p false false) (hn : p + 80 ≤ xs.length) :
    Calls Tryz.prog 181 #[.pointer (some ⟨a, 0, none⟩)] w fun e w' => e = .returned (secV (secAt xs p)) ∧ Pen w' lo hi a xs (p + 80) false false ∧ w.grownBy w' (some a) := by
  have G0 := Lib.hid (grown1 w (.cells #[.string ⟨#[]⟩, .string ⟨#[]⟩, .int .u64 0, .int .u64 0, .int .u64 0, .int .i64 0] 148))
  have P0 := Lib.hid (h.same G0.out)
  have S0 := Lib.hid (show SecAt (w.alloc (.cells #[.string ⟨#[]⟩, .string ⟨#[]⟩, .int .u64 0, .int .u64 0, .int .u64 0, .int .i64 0] 148)) w.heap.size Sec.zero from heap_alloc_new w _)
  have hal : a < w.heap.size := h.lt
  have hhi : hi ≤ w.heap.size := h.sz
  have hne : (some a : Option Nat) ≠ some w.heap.size := by intro e; injection e with e; omega
  have hkb := leN_bd ((xs.drop (p + 64)).take 1) (fun x hx => h.small x (List.mem_of_mem_drop (List.mem_of_mem_take hx)))
  rw [show ((xs.drop (p + 64)).take 1).length = 1 by rw [List.length_take, List.length_drop]; omega] at hkb
  obtain ⟨⟨N, S, A, B, C, D⟩, hs⟩ : ∃ s, s = secAt xs p := ⟨_, rfl⟩
  have hD : leN ((xs.drop (p + 64)).take 1) = D := by
    have := congrArg Sec.kind hs; exact this.symm
  rw [hD] at hkb
  have SE := Lib.hid hs
  rw [← hs]
  clear h hs hD
  have i1 : D ≤ 255 := by have := hkb.2; simp at this; omega
  have hw : IntKind.i64.wrap D = D := IntWalk.i64_in _ (by omega)
  go_enter Tryz.func181, Tryz.ntmps181
  go_wp2_with fail
  refine (pen_field P0.out 16 (by decide) (by omega)).mono ?_
  rintro e w2 ⟨rfl, hp, hg⟩
  rw [show pre ((xs.drop p).take 16) = N from (congrArg Sec.name SE.out).symm]
  have P2 := Lib.hid hp
  have S2 := Lib.hid (S0.out.kept hg hne)
  have G2 := Lib.hid (grown_first G0.out hg)
  clear hp hg
  go_wp2_with fail
  refine (pen_field P2.out 16 (by decide) (by omega)).mono ?_
  rintro e w3 ⟨rfl, hp, hg⟩
  rw [show pre ((xs.drop (p + 16)).take 16) = S from (congrArg Sec.seg SE.out).symm]
  have P3 := Lib.hid hp
  have S3 := Lib.hid (S2.out.kept hg hne)
  have G3 := Lib.hid (grown_same G2.out hg)
  clear hp hg
  go_wp2_with fail
  refine (pen_num P3.out 8 (.inr (.inr (.inr rfl))) (by omega)).mono ?_
  rintro e w4 ⟨rfl, hp, hg⟩
  rw [show numOf false ((xs.drop (p + 16 + 16)).take 8) = A from (congrArg Sec.addr SE.out).symm]
  have P4 := Lib.hid hp
  have S4 := Lib.hid (S3.out.kept hg hne)
  have G4 := Lib.hid (grown_same G3.out hg)
  clear hp hg
  go_wp2_with fail
  refine (pen_num P4.out 8 (.inr (.inr (.inr rfl))) (by omega)).mono ?_
  rintro e w5 ⟨rfl, hp, hg⟩
  rw [show numOf false ((xs.drop (p + 16 + 16 + 8)).take 8) = B from (congrArg Sec.size SE.out).symm]
  have P5 := Lib.hid hp
  have S5 := Lib.hid (S4.out.kept hg hne)
  have G5 := Lib.hid (grown_same G4.out hg)
  clear hp hg
  go_wp2_with fail
  refine (pen_num P5.out 4 (.inr (.inr (.inl rfl))) (by omega)).mono ?_
  rintro e w6 ⟨rfl, hp, hg⟩
  rw [show numOf false ((xs.drop (p + 16 + 16 + 8 + 8)).take 4) = C from (congrArg Sec.off SE.out).symm]
  have g6 := grown1 w6 (.cells #[.string (strOfNums N), .string (strOfNums S), .int .u64 A, .int .u64 B, .int .u64 C, .int .i64 0] 148)
  have P6 := Lib.hid (hp.same g6)
  have S6 := Lib.hid ((S5.out.kept hg hne).kept g6 (by simp))
  have T6 := Lib.hid (show SecAt (w6.alloc (.cells #[.string (strOfNums N), .string (strOfNums S), .int .u64 A, .int .u64 B, .int .u64 C, .int .i64 0] 148)) w6.heap.size ⟨N, S, A, B, C, 0⟩ from heap_alloc_new w6 _)
  have G6 := Lib.hid (grown_then (grown_same G5.out hg) g6)
  have hal6 := hp.lt
  have hw6 : w.heap.size < w6.heap.size := (S5.out.kept hg hne).lt
  clear hp hg g6
  have hne6 : (some a : Option Nat) ≠ some w6.heap.size := by intro e; injection e with e; omega
  go_wp2_with fail
  refine (pen_bytes P6.out 12 (by omega)).mono ?_
  rintro e w7 ⟨q7, c7, rfl, _, hp, hg⟩
  have P7 := Lib.hid (show Pen w7 lo hi a xs (p + 64) false false from hp)
  have S7 := Lib.hid (S6.out.kept hg hne)
  have T7 := Lib.hid (T6.out.kept hg hne6)
  have G7 := Lib.hid (grown_same G6.out hg)
  clear hp hg
  go_wp2_with fail
  refine (pen_num P7.out 1 (.inl rfl) (by omega)).mono ?_
  rintro e w8 ⟨rfl, hp, hg⟩
  rw [show numOf false ((xs.drop (p + 64)).take 1) = D from (congrArg Sec.kind SE.out).symm]
  have P8 := Lib.hid hp
  have S8 := Lib.hid (S7.out.kept hg hne)
  have hT := T7.out.kept hg hne6
  have T8 := Lib.hid hT
  have G8 := Lib.hid (grown_same G7.out hg)
  have c5 := hT.c.2.2.2.2.2
  have f5 := hT.fz 5
  have hl8 := hT.lt
  clear hp hg hT
  go_wp2_with fail
  have g9 := grown_setCell (i := 5) (grown_refl w8 (some w6.heap.size)) (.int .i64 D)
  have P9 := Lib.hid (P8.out.kept g9 (.inr (by omega)))
  have S9 := Lib.hid (S8.out.kept g9 (by intro e; injection e with e; omega))
  have T9 := Lib.hid (T8.out.kind D)
  have G9 := Lib.hid (grown_past G8.out g9 (by omega))
  clear g9 c5 f5 hl8
  obtain ⟨w9, hw9⟩ : ∃ w9, w8.setCell ⟨w6.heap.size, 5, none⟩ (.int .i64 D) = w9 := ⟨_, rfl⟩
  rw [hw9] at P9 S9 T9 G9 ⊢
  clear hw9
  refine (pen_bytes P9.out 15 (by omega)).mono ?_
  rintro e w10 ⟨q10, c10, rfl, _, hp, hg⟩
  have P10 := Lib.hid (show Pen w10 lo hi a xs (p + 80) false false from hp)
  have hS := S9.out.kept hg hne
  have hT := T9.out.kept hg hne6
  have S10 := Lib.hid hS
  have G10 := Lib.hid (grown_same G9.out hg)
  obtain ⟨c0, c1, c2, c3, c4, c5⟩ := hT.c
  obtain ⟨d0, d1, d2, d3, d4, d5⟩ := hS.c
  have f0 := hS.fz 0
  have f1 := hS.fz 1
  have f2 := hS.fz 2
  have f3 := hS.fz 3
  have f4 := hS.fz 4
  have f5 := hS.fz 5
  have hl := hS.lt
  simp only [] at c0 c1 c2 c3 c4 c5
  clear hp hg hS hT
  go_wp2
  have PA := S10.out.put ⟨N, S, A, B, C, D⟩
  have gP := grown_put6 (grown_refl w10 (some w.heap.size)) (.string (strOfNums N)) (.string (strOfNums S)) (.int .u64 A) (.int .u64 B) (.int .u64 C) (.int .i64 D)
  refine bodyPost_ret (results_cell_row rfl _ _ _ _ _ _ _ rfl PA Tryz.underlying148 rfl (by kernel_rfl)) rfl ?_
  exact ⟨rfl, P10.out.kept gP (.inr hhi), grown_past G10.out gP (Nat.le_refl _)⟩
end Go.Proofs.YtdagnkdonlfobaaGreat

/- Two lists of commands are the same just where each one's number and bytes are. No condition. -/
namespace Go.Proofs.YtdagnkdonlfobaaGreat
open Go.RowKit
variable {w w' : World}

theorem text_eq {xs ys : List Int} (hx : Small xs) (hy : Small ys) : ((strOfNums xs).toList == (strOfNums ys).toList) = decide (xs = ys) := by
  rw [Lib.strOfNums_toList ys]
  exact text_is hx hy
theorem take_same {α : Type} {l m : List α} {k : Nat} {x : α} (h : l.take k = m.take k) (hx : l[k]? = some x) (hy : m[k]? = some x) : l.take (k + 1) = m.take (k + 1) := by
  rw [List.take_add_one, List.take_add_one, h, hx, hy]

end Go.Proofs.YtdagnkdonlfobaaGreat

/- A segment's command. No condition but that it has at most 2^47 bytes. -/
namespace Go.Proofs.YtdagnkdonlfobaaGreat
open Go.RowKit
variable {w w' : World} {lo hi a : Nat} {xs : List Int} {p : Nat} {big bad : Bool}

theorem pen_left (h : Pen w lo hi a xs p big bad) : Calls Tryz.prog 180 #[.pointer (some ⟨a, 0, none⟩)] w fun e w' => e = .returned (.int .i64 ((xs.length : Int) - p)) ∧ ∃ n, w' = w.drewN n := by
  obtain ⟨⟨base, q, c, hc, hl, ho⟩, i1, i2, i3⟩ := h
  refine (left_any hc).mono ?_
  rintro e w' ⟨rfl, k, rfl⟩
  exact ⟨rfl, k, rfl⟩

def segArr (s : Seg) (sv : Value) : Array Value := #[.string (strOfNums s.name), .int .u64 s.addr, .int .u64 s.size, .int .u64 s.off, .int .u64 s.fsize, .int .i64 s.prot, sv]
def Seg.zero : Seg := ⟨[], 0, 0, 0, 0, 0, []⟩
def SegAt (w : World) (g : Nat) (s : Seg) (sv : Value) : Prop := w.heap[g]? = some (.cells (segArr s sv) 58 (0, 0))
theorem SegAt.kept {g : Nat} {s : Seg} {sv : Value} {r : Option Nat} (h : SegAt w g s sv) (hg : w.grownBy w' r) (hr : r ≠ some g) : SegAt w' g s sv := (hg.block g (lt_of_block h) (fun e => hr e.symm)).trans h
theorem SegAt.lt {g : Nat} {s : Seg} {sv : Value} (h : SegAt w g s sv) : g < w.heap.size := lt_of_block h
theorem SegAt.fz {g : Nat} {s : Seg} {sv : Value} (h : SegAt w g s sv) (i : Nat) : w.frozen? ⟨g, i, none⟩ = false := free_of h
theorem SegAt.c {g : Nat} {s : Seg} {sv : Value} (h : SegAt w g s sv) : w.cell? ⟨g, 0, none⟩ = some (.string (strOfNums s.name)) ∧ w.cell? ⟨g, 1, none⟩ = some (.int .u64 s.addr) ∧ w.cell? ⟨g, 2, none⟩ = some (.int .u64 s.size) ∧ w.cell? ⟨g, 3, none⟩ = some (.int .u64 s.off) ∧ w.cell? ⟨g, 4, none⟩ = some (.int .u64 s.fsize) ∧ w.cell? ⟨g, 5, none⟩ = some (.int .i64 s.prot) ∧ w.cell? ⟨g, 6, none⟩ = some sv := by
  refine ⟨?_, ?_, ?_, ?_, ?_, ?_, ?_⟩ <;> (rw [cell_of h]; rfl)
theorem SegAt.prot {g : Nat} {s : Seg} {sv : Value} (h : SegAt w g s sv) (k : Int) : SegAt (w.setCell ⟨g, 5, none⟩ (.int .i64 k)) g { s with prot := k } sv := by
  unfold SegAt
  rw [heap_setCell_same w g 5 _ _ _ h]
  rfl
theorem SegAt.secs {g : Nat} {s : Seg} {sv : Value} (h : SegAt w g s sv) (v : Value) : SegAt (w.setCell ⟨g, 6, none⟩ v) g s v := by
  unfold SegAt
  rw [heap_setCell_same w g 6 _ _ _ h]
  rfl
theorem SegAt.put {g : Nat} {s : Seg} {sv : Value} (h : SegAt w g s sv) (t : Seg) (v : Value) : SegAt (((((((w.setCell ⟨g, 0, none⟩ (.string (strOfNums t.name))).setCell ⟨g, 1, none⟩ (.int .u64 t.addr)).setCell ⟨g, 2, none⟩ (.int .u64 t.size)).setCell ⟨g, 3, none⟩ (.int .u64 t.off)).setCell ⟨g, 4, none⟩ (.int .u64 t.fsize)).setCell ⟨g, 5, none⟩ (.int .i64 t.prot)).setCell ⟨g, 6, none⟩ v) g t v := by
  unfold SegAt
  rw [heap_setCell_same _ g 6 _ _ _ (heap_setCell_same _ g 5 _ _ _ (heap_setCell_same _ g 4 _ _ _ (heap_setCell_same _ g 3 _ _ _ (heap_setCell_same _ g 2 _ _ _ (heap_setCell_same _ g 1 _ _ _ (heap_setCell_same w g 0 _ _ _ h))))))]
  rfl
theorem grown_put7 {g : Nat} (h : w.grownBy w' (some g)) (v0 v1 v2 v3 v4 v5 v6 : Value) : w.grownBy (((((((w'.setCell ⟨g, 0, none⟩ v0).setCell ⟨g, 1, none⟩ v1).setCell ⟨g, 2, none⟩ v2).setCell ⟨g, 3, none⟩ v3).setCell ⟨g, 4, none⟩ v4).setCell ⟨g, 5, none⟩ v5).setCell ⟨g, 6, none⟩ v6) (some g) :=
  grown_setCell (grown_setCell (grown_setCell (grown_setCell (grown_setCell (grown_setCell (grown_setCell h _) _) _) _) _) _) _
def segV (s : Seg) (sv : Value) : Value := .agg (segArr s sv)
theorem load_seg {g : Nat} {s : Seg} {sv : Value} (h : SegAt w g s sv) : (loadVar 58 ⟨g, 0, none⟩).run Tryz.prog w = .ok (segV s sv) w :=
  run_loadVar_row w g _ _ _ _ _ h Tryz.underlying58 rfl (by kernel_rfl)
theorem results_seg {fn : Func} {p u : Tmp} (hr : fn.results = #[.cell p 58, .tmp u]) {tmps : Array Value} {v : Value} {g : Nat} {s : Seg} {sv : Value} (hp : tmps.getD p undef = .pointer (some ⟨g, 0, none⟩)) (hu : tmps.getD u undef = v) (h : SegAt w g s sv) :
    (results fn tmps).run Tryz.prog w = .ok (.tuple #[segV s sv, v]) w := by
  rw [results_cell_tmp hr, hp, hu, show (asAddr (.pointer (some ⟨g, 0, none⟩)) : Sem Addr).run Tryz.prog w = .ok ⟨g, 0, none⟩ w from rfl, Result.andThen_ok, load_seg h, Result.andThen_ok]

structure SegOut (w w' : World) (ys : List Int) (e : Ending) : Prop where
  bad : segErr ys ≠ 0 → e = .returned (.tuple #[segV Seg.zero (.slice none 0 0), .int .i64 (segErr ys)])
  good : segErr ys = 0 → ∃ q n c base, n = (segOf ys).secs.length ∧ e = .returned (.tuple #[segV (segOf ys) (.slice q n c), .int .i64 0]) ∧ w'.ownsRow base 148 6 (.slice q n c) n ((segOf ys).secs.flatMap secCs) ∧ w.heap.size ≤ base
  grown : w.grownBy w' none
theorem SegOut.no {ys : List Int} {er : Int} (hE : segErr ys = er) (h0 : er ≠ 0) (hg : w.grownBy w' none) : SegOut w w' ys (.returned (.tuple #[segV Seg.zero (.slice none 0 0), .int .i64 er])) :=
  ⟨fun _ => by rw [hE], fun h => absurd (hE ▸ h) h0, hg⟩
theorem segType : StType Tryz.prog 58 36 7 80 := .mk' Tryz.underlying36 (z := segV Seg.zero (.slice none 0 0)) (by kernel_rfl) rfl (by decide)

theorem small_pre {l : List Int} (h : Small l) : Small (pre l) := by
  rw [pre_take]
  exact fun x hx => h x (List.mem_of_mem_take hx)
theorem small_field {b : List Int} (h : Small b) (p : Nat) : Small (fieldAt b p) := small_pre fun x hx => h x (List.mem_of_mem_drop (List.mem_of_mem_take hx))
theorem secsN_succ (b : List Int) (k : Nat) : secsN b (k + 1) = secsN b k ++ [secAt b (72 + 80 * k)] := by
  unfold secsN
  rw [List.range_succ, List.map_append]
  rfl
theorem odd_succ {b : List Int} {k : Nat} (h : oddSec b k = false) (hx : (secAt b (72 + 80 * k)).seg = fieldAt b 8) : oddSec b (k + 1) = false := by
  unfold oddSec at h ⊢
  rw [secsN_succ, List.any_append, h]
  simp [hx]
theorem odd_at {b : List Int} {k M m : Nat} (hk : k < M) (hm : m = M) (hx : (secAt b (72 + 80 * k)).seg ≠ fieldAt b 8) : oddSec b m = true := by
  subst hm
  unfold oddSec
  rw [List.any_eq_true]
  exact ⟨_, List.mem_map.2 ⟨k, List.mem_range.2 hk, rfl⟩, by simpa using hx⟩
-- WALK
set_option maxHeartbeats 6400000 in
set_option maxRecDepth 20000 in
theorem Segment_any (ys : List Int) (q : Option Addr) (c n : Nat) (h : IsBytes w q c ys) (hn : ys.length = n) (hb : n ≤ 140737488355328) (hr : Small ys) :
    Calls Tryz.prog 149 #[.slice q n c] w fun e w' => SegOut w w' ys e := by
  have g0 := grown1 w (.cells #[.string ⟨#[]⟩, .int .u64 0, .int .u64 0, .int .u64 0, .int .u64 0, .int .i64 0, .slice none 0 0] 58)
  have OP0 := open_any (w := w.alloc (.cells #[.string ⟨#[]⟩, .int .u64 0, .int .u64 0, .int .u64 0, .int .u64 0, .int .i64 0, .slice none 0 0] 58)) ys q c n (h.kept g0 (by simp)) hn hb hr
  have OP := Lib.hid OP0
  have G0 := Lib.hid g0
  have Z0 := Lib.hid (show SegAt (w.alloc (.cells #[.string ⟨#[]⟩, .int .u64 0, .int .u64 0, .int .u64 0, .int .u64 0, .int .i64 0, .slice none 0 0] 58)) w.heap.size Seg.zero (.slice none 0 0) from heap_alloc_new w _)
  have HN := Lib.hid hn
  have HR := Lib.hid hr
  clear h hr hn g0 OP0
  by_cases hs : shortB ys
  · have SH := Lib.hid hs
    have HE := Lib.hid (show segErr ys = 3 by unfold segErr; rw [if_pos hs])
    clear hs
    go_enter Tryz.func149, Tryz.ntmps149
    go_wp2_with fail
    refine OP.out.mono ?_
    rintro e w1 ⟨hbad, hgood, hg⟩
    have G := Lib.hid (grown_trans G0.out hg)
    have ZA := Lib.hid (Z0.out.kept hg (by simp))
    obtain rfl := hbad SH.out
    clear hbad hgood hg
    obtain ⟨d0, d1, d2, d3, d4, d5, d6⟩ := ZA.out.c
    have f0 := ZA.out.fz 0
    have f1 := ZA.out.fz 1
    have f2 := ZA.out.fz 2
    have f3 := ZA.out.fz 3
    have f4 := ZA.out.fz 4
    have f5 := ZA.out.fz 5
    have f6 := ZA.out.fz 6
    have hl := ZA.out.lt
    go_wp2
    have PA := ZA.out.put Seg.zero (.slice none 0 0)
    refine bodyPost_ret (results_seg rfl rfl rfl PA) rfl ?_
    exact SegOut.no HE.out (by decide) (grown_new G.out (grown_put7 (grown_refl _ _) _ _ _ _ _ _ _) (Nat.le_refl _))
  have SH := Lib.hid hs
  have hE : segErr ys = if cmdAt ys ≠ 25 then 7 else if (ys.length - 72) / 80 < manyAt ys then 3 else if 7 < numAt ys 60 4 then 9 else if oddSec ys (manyAt ys) = true then 9 else if 64 < manyAt ys then 11 else 0 := by unfold segErr; rw [if_neg hs]
  have hlen : ¬ ((ys.length : Int) < leastN (cmdAt ys)) := fun h => hs (.inr h)
  obtain ⟨cm, hcm⟩ : ∃ z, z = cmdAt ys := ⟨_, rfl⟩
  rw [← hcm] at hE hlen
  have CM := Lib.hid hcm
  clear hs hcm
  by_cases hc25 : cm = 25
  rotate_left
  · have HE := Lib.hid (hE.trans (if_pos hc25))
    have b1 : (cm != 25) = true := by simpa using hc25
    clear hE hlen hc25
    go_enter Tryz.func149, Tryz.ntmps149
    go_wp2_with fail
    refine OP.out.mono ?_
    rintro e w1 ⟨hbad, hgood, hg⟩
    have G := Lib.hid (grown_trans G0.out hg)
    have ZA := Lib.hid (Z0.out.kept hg (by simp))
    obtain ⟨a, hi, rfl, hp⟩ := hgood SH.out
    rw [World.size_alloc] at hp
    have PE := Lib.hid hp
    rw [← CM.out]
    clear hp
    clear hbad hgood hg
    obtain ⟨d0, d1, d2, d3, d4, d5, d6⟩ := ZA.out.c
    have f0 := ZA.out.fz 0
    have f1 := ZA.out.fz 1
    have f2 := ZA.out.fz 2
    have f3 := ZA.out.fz 3
    have f4 := ZA.out.fz 4
    have f5 := ZA.out.fz 5
    have f6 := ZA.out.fz 6
    have hl := ZA.out.lt
    go_wp2
    have PA := ZA.out.put Seg.zero (.slice none 0 0)
    refine bodyPost_ret (results_seg rfl rfl rfl PA) rfl ?_
    exact SegOut.no HE.out (by decide) (grown_new G.out (grown_put7 (grown_refl _ _) _ _ _ _ _ _ _) (Nat.le_refl _))
  rw [if_neg (fun h => h hc25)] at hE
  have h72 : 72 ≤ n := by
    have : leastN cm = 72 := by rw [hc25]; decide
    have h := HN.out; omega
  subst hc25
  have HE0 := Lib.hid hE
  obtain ⟨⟨nm, ad, sz, of, fs, pr, sl⟩, hseg⟩ : ∃ s, s = segOf ys := ⟨_, rfl⟩
  have SE := Lib.hid hseg
  have hprb := numAt_lt HR.out 60
  have hmb := numAt_lt HR.out 64
  rw [show numAt ys 60 4 = pr from (congrArg Seg.prot SE.out).symm] at hprb
  obtain ⟨M, hM⟩ : ∃ M, M = manyAt ys := ⟨_, rfl⟩
  have hMi : numAt ys 64 4 = M := by rw [hM]; unfold manyAt; omega
  rw [hMi] at hmb
  have ME := Lib.hid hM
  have MI := Lib.hid hMi
  clear hE hlen hseg hM hMi
  go_enter Tryz.func149, Tryz.ntmps149
  go_wp2_with fail
  refine OP.out.mono ?_
  rintro e w1 ⟨hbad, hgood, hg⟩
  have G := Lib.hid (grown_trans G0.out hg)
  have ZA := Lib.hid (Z0.out.kept hg (by simp))
  obtain ⟨a, hi, rfl, hp⟩ := hgood SH.out
  rw [World.size_alloc] at hp
  have PE := Lib.hid hp
  rw [← CM.out]
  clear hp
  clear hbad hgood hg
  have hal : w.heap.size + 1 ≤ a := PE.out.lw
  have hah : a < hi := PE.out.up
  have hhi : hi ≤ w1.heap.size := PE.out.sz
  have hneZ : (some a : Option Nat) ≠ some w.heap.size := by intro e; injection e with e; omega
  go_wp2_with fail
  refine (pen_field PE.out 16 (by decide) (by rw [HN.out]; omega)).mono ?_
  rintro e wx ⟨rfl, hp, hg⟩
  rw [show pre ((ys.drop 8).take 16) = nm from (congrArg Seg.name SE.out).symm]
  have PE' := Lib.hid (show Pen wx (w.heap.size + 1) hi a ys 24 false false from hp)
  have ZA' := Lib.hid (ZA.out.kept hg hneZ)
  have G' := Lib.hid (grown_new G.out hg (Nat.le_trans (Nat.le_succ _) PE.out.lw))
  clear hp hg
  clear PE ZA G
  have PE := PE'
  have ZA := ZA'
  have G := G'
  clear PE' ZA' G'
  go_wp2_with fail
  refine (pen_num PE.out 8 (.inr (.inr (.inr rfl))) (by rw [HN.out]; omega)).mono ?_
  rintro e wx ⟨rfl, hp, hg⟩
  rw [show numOf false ((ys.drop 24).take 8) = ad from (congrArg Seg.addr SE.out).symm]
  have PE' := Lib.hid (show Pen wx (w.heap.size + 1) hi a ys 32 false false from hp)
  have ZA' := Lib.hid (ZA.out.kept hg hneZ)
  have G' := Lib.hid (grown_new G.out hg (Nat.le_trans (Nat.le_succ _) PE.out.lw))
  clear hp hg
  clear PE ZA G
  have PE := PE'
  have ZA := ZA'
  have G := G'
  clear PE' ZA' G'
  go_wp2_with fail
  refine (pen_num PE.out 8 (.inr (.inr (.inr rfl))) (by rw [HN.out]; omega)).mono ?_
  rintro e wx ⟨rfl, hp, hg⟩
  rw [show numOf false ((ys.drop 32).take 8) = sz from (congrArg Seg.size SE.out).symm]
  have PE' := Lib.hid (show Pen wx (w.heap.size + 1) hi a ys 40 false false from hp)
  have ZA' := Lib.hid (ZA.out.kept hg hneZ)
  have G' := Lib.hid (grown_new G.out hg (Nat.le_trans (Nat.le_succ _) PE.out.lw))
  clear hp hg
  clear PE ZA G
  have PE := PE'
  have ZA := ZA'
  have G := G'
  clear PE' ZA' G'
  go_wp2_with fail
  refine (pen_num PE.out 8 (.inr (.inr (.inr rfl))) (by rw [HN.out]; omega)).mono ?_
  rintro e wx ⟨rfl, hp, hg⟩
  rw [show numOf false ((ys.drop 40).take 8) = of from (congrArg Seg.off SE.out).symm]
  have PE' := Lib.hid (show Pen wx (w.heap.size + 1) hi a ys 48 false false from hp)
  have ZA' := Lib.hid (ZA.out.kept hg hneZ)
  have G' := Lib.hid (grown_new G.out hg (Nat.le_trans (Nat.le_succ _) PE.out.lw))
  clear hp hg
  clear PE ZA G
  have PE := PE'
  have ZA := ZA'
  have G := G'
  clear PE' ZA' G'
  go_wp2_with fail
  refine (pen_num PE.out 8 (.inr (.inr (.inr rfl))) (by rw [HN.out]; omega)).mono ?_
  rintro e wx ⟨rfl, hp, hg⟩
  rw [show numOf false ((ys.drop 48).take 8) = fs from (congrArg Seg.fsize SE.out).symm]
  have PE' := Lib.hid (show Pen wx (w.heap.size + 1) hi a ys 56 false false from hp)
  have ZA' := Lib.hid (ZA.out.kept hg hneZ)
  have G' := Lib.hid (grown_new G.out hg (Nat.le_trans (Nat.le_succ _) PE.out.lw))
  clear hp hg
  clear PE ZA G
  have PE := PE'
  have ZA := ZA'
  have G := G'
  clear PE' ZA' G'
  go_upto_region 7 with fail
  have g7 := grown1 wx (.cells #[.string (strOfNums nm), .int .u64 ad, .int .u64 sz, .int .u64 of, .int .u64 fs, .int .i64 0, .slice none 0 0] 58)
  have PE' := Lib.hid (PE.out.same g7)
  have ZA' := Lib.hid (ZA.out.kept g7 (by simp))
  have G' := Lib.hid (grown_trans G.out g7)
  have SA := Lib.hid (show SegAt (wx.alloc (.cells #[.string (strOfNums nm), .int .u64 ad, .int .u64 sz, .int .u64 of, .int .u64 fs, .int .i64 0, .slice none 0 0] 58)) wx.heap.size ⟨nm, ad, sz, of, fs, 0, []⟩ (.slice none 0 0) from heap_alloc_new wx _)
  have hhg : hi ≤ wx.heap.size := PE.out.sz
  obtain ⟨wy, hwy⟩ : ∃ wy, wx.alloc (.cells #[.string (strOfNums nm), .int .u64 ad, .int .u64 sz, .int .u64 of, .int .u64 fs, .int .i64 0, .slice none 0 0] 58) = wy := ⟨_, rfl⟩
  obtain ⟨g, hg7⟩ : ∃ g, wx.heap.size = g := ⟨_, rfl⟩
  have hgs : wy.heap.size = g + 1 := by rw [← hwy, World.size_alloc, hg7]
  rw [hwy] at PE' ZA' G' SA ⊢
  rw [hg7] at SA hhg
  simp only [hg7]
  clear hwy hg7 g7
  clear PE ZA G
  have PE := PE'
  have ZA := ZA'
  have G := G'
  clear PE' ZA' G'
  have hneS : (some a : Option Nat) ≠ some g := by intro e; injection e with e; omega
  have hZS : w.heap.size < g := by omega
  go_wp2_with fail
  refine (pen_num PE.out 4 (.inr (.inr (.inl rfl))) (by rw [HN.out]; omega)).mono ?_
  rintro e wx ⟨rfl, hp, hg⟩
  have PE' := Lib.hid (show Pen wx (w.heap.size + 1) hi a ys 60 false false from hp)
  have ZA' := Lib.hid (ZA.out.kept hg hneZ)
  have G' := Lib.hid (grown_new G.out hg (Nat.le_trans (Nat.le_succ _) PE.out.lw))
  have SA' := Lib.hid (SA.out.kept hg hneS)
  clear hp hg
  clear PE ZA G SA
  have PE := PE'
  have ZA := ZA'
  have G := G'
  have SA := SA'
  clear PE' ZA' G' SA'
  go_wp2_with fail
  refine (pen_num PE.out 4 (.inr (.inr (.inl rfl))) (by rw [HN.out]; omega)).mono ?_
  rintro e wx ⟨rfl, hp, hg⟩
  rw [show numOf false ((ys.drop 60).take 4) = pr from (congrArg Seg.prot SE.out).symm]
  have PE' := Lib.hid (show Pen wx (w.heap.size + 1) hi a ys 64 false false from hp)
  have ZA' := Lib.hid (ZA.out.kept hg hneZ)
  have G' := Lib.hid (grown_new G.out hg (Nat.le_trans (Nat.le_succ _) PE.out.lw))
  have SA' := Lib.hid (SA.out.kept hg hneS)
  clear hp hg
  clear PE ZA G SA
  have PE := PE'
  have ZA := ZA'
  have G := G'
  have SA := SA'
  clear PE' ZA' G' SA'
  go_wp2_with fail
  refine (pen_num PE.out 4 (.inr (.inr (.inl rfl))) (by rw [HN.out]; omega)).mono ?_
  rintro e wx ⟨rfl, hp, hg⟩
  rw [show numOf false ((ys.drop 64).take 4) = M from MI.out]
  have PE' := Lib.hid (show Pen wx (w.heap.size + 1) hi a ys 68 false false from hp)
  have ZA' := Lib.hid (ZA.out.kept hg hneZ)
  have G' := Lib.hid (grown_new G.out hg (Nat.le_trans (Nat.le_succ _) PE.out.lw))
  have SA' := Lib.hid (SA.out.kept hg hneS)
  clear hp hg
  clear PE ZA G SA
  have PE := PE'
  have ZA := ZA'
  have G := G'
  have SA := SA'
  clear PE' ZA' G' SA'
  go_wp2_with fail
  refine (pen_num PE.out 4 (.inr (.inr (.inl rfl))) (by rw [HN.out]; omega)).mono ?_
  rintro e wx ⟨rfl, hp, hg⟩
  have PE' := Lib.hid (show Pen wx (w.heap.size + 1) hi a ys 72 false false from hp)
  have ZA' := Lib.hid (ZA.out.kept hg hneZ)
  have G' := Lib.hid (grown_new G.out hg (Nat.le_trans (Nat.le_succ _) PE.out.lw))
  have SA' := Lib.hid (SA.out.kept hg hneS)
  clear hp hg
  clear PE ZA G SA
  have PE := PE'
  have ZA := ZA'
  have G := G'
  have SA := SA'
  clear PE' ZA' G' SA'
  have e1 : ((n : Int) - 72).tdiv 80 = (((n - 72) / 80 : Nat) : Int) := by rw [Int.tdiv_eq_ediv_of_nonneg (by omega)]; omega
  obtain ⟨R, hR⟩ : ∃ R, R = (n - 72) / 80 := ⟨_, rfl⟩
  rw [← hR] at e1
  have hRb : (R : Int) ≤ 140737488355328 := by omega
  have e2 : ((R : Int) % 18446744073709551616) = R := by omega
  have e3 : IntKind.u64.wrap (R : Int) = R := by rw [IntKind.wrap_u64]; exact e2
  go_wp2_with fail
  have hL := pen_left PE.out
  rw [HN.out] at hL
  have LF := Lib.hid hL
  clear hL
  refine LF.out.mono ?_
  rintro e wz ⟨rfl, j, rfl⟩
  have gj := grown_drewN (grown_refl wx none) j
  have PE' := Lib.hid (PE.out.same gj)
  have ZA' := Lib.hid (ZA.out.kept gj (by simp))
  have G' := Lib.hid (grown_trans G.out gj)
  have SA' := Lib.hid (SA.out.kept gj (by simp))
  clear gj LF
  clear PE ZA G SA
  have PE := PE'
  have ZA := ZA'
  have G := G'
  have SA := SA'
  clear PE' ZA' G' SA'
  generalize wx.drewN j = wx at *
  by_cases hmany : R < M
  · have d1 : decide (R < M) = true := by simpa using hmany
    have HE := Lib.hid (HE0.out.trans (if_pos (by rw [HN.out, ← ME.out, ← hR]; exact hmany)))
    obtain ⟨d0, d1, d2, d3, d4, d5, d6⟩ := ZA.out.c
    have f0 := ZA.out.fz 0
    have f1 := ZA.out.fz 1
    have f2 := ZA.out.fz 2
    have f3 := ZA.out.fz 3
    have f4 := ZA.out.fz 4
    have f5 := ZA.out.fz 5
    have f6 := ZA.out.fz 6
    have hl := ZA.out.lt
    go_wp2
    have PA := ZA.out.put Seg.zero (.slice none 0 0)
    refine bodyPost_ret (results_seg rfl rfl rfl PA) rfl ?_
    exact SegOut.no HE.out (by decide) (grown_new G.out (grown_put7 (grown_refl _ _) _ _ _ _ _ _ _) (Nat.le_refl _))
  have d1 : decide (R < M) = false := by simpa using hmany
  have HE1 := Lib.hid (HE0.out.trans (if_neg (by rw [HN.out, ← ME.out, ← hR]; exact hmany)))
  by_cases hpr : 7 < pr
  · have d2 : decide (7 < pr) = true := by simpa using hpr
    have HE := Lib.hid (HE1.out.trans (if_pos (by rw [show numAt ys 60 4 = pr from (congrArg Seg.prot SE.out).symm]; exact hpr)))
    obtain ⟨d0, d1, d2, d3, d4, d5, d6⟩ := ZA.out.c
    have f0 := ZA.out.fz 0
    have f1 := ZA.out.fz 1
    have f2 := ZA.out.fz 2
    have f3 := ZA.out.fz 3
    have f4 := ZA.out.fz 4
    have f5 := ZA.out.fz 5
    have f6 := ZA.out.fz 6
    have hl := ZA.out.lt
    go_wp2
    have PA := ZA.out.put Seg.zero (.slice none 0 0)
    refine bodyPost_ret (results_seg rfl rfl rfl PA) rfl ?_
    exact SegOut.no HE.out (by decide) (grown_new G.out (grown_put7 (grown_refl _ _) _ _ _ _ _ _ _) (Nat.le_refl _))
  have d2 : decide (7 < pr) = false := by simpa using hpr
  have HE2 := Lib.hid (HE1.out.trans (if_neg (by rw [show numAt ys 60 4 = pr from (congrArg Seg.prot SE.out).symm]; exact hpr)))
  have hprw : IntKind.i64.wrap pr = pr := IntWalk.i64_in _ (by omega)
  have hsl := SA.out.lt
  have s5 := SA.out.c.2.2.2.2.2.1
  have t5 := SA.out.fz 5
  have gS := grown_setCell (i := 5) (grown_refl wx (some g)) (.int .i64 pr)
  have PE' := Lib.hid (PE.out.kept gS (.inr hhg))
  have ZA' := Lib.hid (ZA.out.kept gS (by intro e; injection e with e; omega))
  have G' := Lib.hid (grown_new G.out gS (by omega))
  have SA' := Lib.hid (SA.out.prot pr)
  clear gS HE0 HE1
  go_upto_region 16 with fail
  clear s5 t5 hsl
  clear PE ZA G SA
  have PE := PE'
  have ZA := ZA'
  have G := G'
  have SA := SA'
  clear PE' ZA' G' SA'
  obtain ⟨wq, hwq⟩ : ∃ wq, wx.setCell ⟨g, 5, none⟩ (.int .i64 pr) = wq := ⟨_, rfl⟩
  rw [hwq] at PE ZA G SA ⊢
  clear hwq
  have hRB := wq.heap.size
  obtain ⟨B, hB⟩ : ∃ B, B = wq.heap.size := ⟨_, rfl⟩
  have hgB : g < B := by rw [hB]; exact SA.out.lt
  have hiB : hi ≤ B := by rw [hB]; exact PE.out.sz
  have BW := Lib.hid hB
  have hRn : 72 + 80 * R ≤ n := by omega
  clear hRB hR hB
  go_wp2
  go_loopw [10, 57] (fun _ i wr => ∃ (k : Nat) (q' : Option Addr) (c' : Nat), k ≤ M ∧ i = .int .u64 k ∧ Pen wr (w.heap.size + 1) hi a ys (72 + 80 * k) false false ∧ SegAt wr g ⟨nm, ad, sz, of, fs, pr, []⟩ (.slice q' k c') ∧ SegAt wr w.heap.size Seg.zero (.slice none 0 0) ∧ wr.ownsRow B 148 6 (.slice q' k c') k ((secsN ys k).flatMap secCs) ∧ oddSec ys k = false ∧ w.grownBy wr none ∧ B ≤ wr.heap.size) (fun _ i _ => M - (intOf i).toNat)
  case atStart => exact ⟨0, none, 0, Nat.zero_le _, rfl, PE.out, SA.out, ZA.out, World.ownsRow_nil _ _ _ _, rfl, G.out, by rw [BW.out]; exact Nat.le_refl _⟩
  case round =>
    obtain ⟨k, q', c', hk, rfl, hp, hsa, hza, hown, hodd, hgr, hBs⟩ := hrel
    have PE' := Lib.hid hp
    have SA' := Lib.hid hsa
    have ZA' := Lib.hid hza
    have G' := Lib.hid hgr
    have OW := Lib.hid hown
    have OD := Lib.hid hodd
    clear hp hsa hza hgr hown hodd
    clear PE SA ZA G
    have PE := PE'
    have SA := SA'
    have ZA := ZA'
    have G := G'
    clear PE' SA' ZA' G'
    by_cases hlt : k < M
    · obtain ⟨⟨sn, ss, sa, sb, so, sk⟩, hX⟩ : ∃ s, s = secAt ys (72 + 80 * k) := ⟨_, rfl⟩
      have XE := Lib.hid hX
      have hss : ss = fieldAt ys (72 + 80 * k + 16) := congrArg Sec.seg hX
      have te := text_eq (xs := ss) (ys := nm) (by rw [hss]; exact small_field HR.out _) (by rw [show nm = fieldAt ys 8 from congrArg Seg.name SE.out]; exact small_field HR.out _)
      clear hX hss
      go_wp2_with fail
      refine (takeSection_any PE.out (by rw [HN.out]; omega)).mono ?_
      rintro e w2 ⟨rfl, hp, hg⟩
      rw [← XE.out]
      unfold secV
      have g3 := grown1 w2 (.cells #[.string (strOfNums sn), .string (strOfNums ss), .int .u64 sa, .int .u64 sb, .int .u64 so, .int .i64 sk] 148)
      have PE' := Lib.hid (show Pen (w2.alloc (.cells #[.string (strOfNums sn), .string (strOfNums ss), .int .u64 sa, .int .u64 sb, .int .u64 so, .int .i64 sk] 148)) (w.heap.size + 1) hi a ys (72 + 80 * (k + 1)) false false from (by have := hp.same g3; rwa [show 72 + 80 * k + 80 = 72 + 80 * (k + 1) by omega] at this))
      have SA' := Lib.hid ((SA.out.kept hg hneS).kept g3 (by simp))
      have ZA' := Lib.hid ((ZA.out.kept hg hneZ).kept g3 (by simp))
      have G' := Lib.hid (grown_trans (grown_new G.out hg (by omega)) g3)
      have OW' := Lib.hid (own_grown (OW.out.kept hg (.inr (fun e => by have := (OW.out.lt _ e).1; omega))) g3)
      have SX := Lib.hid (show SecAt (w2.alloc (.cells #[.string (strOfNums sn), .string (strOfNums ss), .int .u64 sa, .int .u64 sb, .int .u64 so, .int .i64 sk] 148)) w2.heap.size ⟨sn, ss, sa, sb, so, sk⟩ from heap_alloc_new w2 _)
      have hB2 : B ≤ (w2.alloc (.cells #[.string (strOfNums sn), .string (strOfNums ss), .int .u64 sa, .int .u64 sb, .int .u64 so, .int .i64 sk] 148)).heap.size := by have := hg.size; rw [World.size_alloc]; omega
      clear hp hg g3
      clear PE SA ZA G OW
      have PE := PE'
      have SA := SA'
      have ZA := ZA'
      have G := G'
      have OW := OW'
      clear PE' SA' ZA' G' OW'
      go_upto_region 19 with fail
      obtain ⟨w3, hw3⟩ : ∃ w3, w2.alloc (.cells #[.string (strOfNums sn), .string (strOfNums ss), .int .u64 sa, .int .u64 sb, .int .u64 so, .int .i64 sk] 148) = w3 := ⟨_, rfl⟩
      obtain ⟨x, hx⟩ : ∃ x, w2.heap.size = x := ⟨_, rfl⟩
      rw [hw3] at PE SA ZA G OW SX hB2 ⊢
      rw [hx] at SX
      simp only [hx]
      clear hw3 hx
      obtain ⟨c0, c1, c2, c3, c4, c5⟩ := SX.out.c
      obtain ⟨s0, s1, s2, s3, s4, s5, s6⟩ := SA.out.c
      simp only [] at c0 c1 c2 c3 c4 c5 s0 s1 s2 s3 s4 s5
      by_cases heq : ss = nm
      rotate_left
      · rw [decide_eq_false heq] at te
        have HE := Lib.hid (HE2.out.trans (if_pos (odd_at hlt (by rw [← ME.out]) (by rw [← XE.out, ← show nm = fieldAt ys 8 from congrArg Seg.name SE.out]; exact heq))))
        clear c2 c3 c4 c5 s1 s2 s3 s4 s5 s6
        obtain ⟨d0, d1, d2, d3, d4, d5, d6⟩ := ZA.out.c
        have f0 := ZA.out.fz 0
        have f1 := ZA.out.fz 1
        have f2 := ZA.out.fz 2
        have f3 := ZA.out.fz 3
        have f4 := ZA.out.fz 4
        have f5 := ZA.out.fz 5
        have f6 := ZA.out.fz 6
        have hl := ZA.out.lt
        go_wp2
        have PA := ZA.out.put Seg.zero (.slice none 0 0)
        refine bodyPost_ret (results_seg rfl rfl rfl PA) rfl ?_
        exact SegOut.no HE.out (by decide) (grown_new G.out (grown_put7 (grown_refl _ _) _ _ _ _ _ _ _) (Nat.le_refl _))
      rw [decide_eq_true heq] at te
      have HQ := Lib.hid heq
      clear heq
      have sf := SA.out.fz 6
      have sl' := SA.out.lt
      go_wp2_with (at_builtin; refine wp_append_st secType rfl _ _ rfl _ k _ rfl (own_grown OW.out (grown1 w3 (.cells #[.string (strOfNums sn), .string (strOfNums ss), .int .u64 sa, .int .u64 sb, .int .u64 so, .int .i64 sk] 148))) (secCs ⟨sn, ss, sa, sb, so, sk⟩) rfl w3.heap.size rfl (heap_alloc_new w3 _) (secCs_one _) (by omega) (by decide) ?_ ?_)
      · rw [World.size_alloc]; omega
      intro v' w4 ho hg4
      obtain ⟨q4, c4', rfl⟩ := own_slice ho
      have hlo := fun (g' : Nat) (e : (Value.slice q' k c').ownBlock = some g') => (OW.out.lt g' e).1
      have R4 := Lib.hid (show w4.ownsRow B 148 6 (.slice q4 (k + 1) c4') (k + 1) ((secsN ys (k + 1)).flatMap secCs) by
        rw [secsN_succ, List.flatMap_append, ← XE.out]
        exact ho)
      have g3 := grown1 w3 (.cells #[.string (strOfNums sn), .string (strOfNums ss), .int .u64 sa, .int .u64 sb, .int .u64 so, .int .i64 sk] 148)
      have PE' := Lib.hid ((PE.out.same g3).row hg4 (fun g' e => Nat.le_trans hiB (hlo g' e)))
      have SA' := Lib.hid ((SA.out.kept g3 (by simp)).kept hg4 (fun e => by have := hlo _ e; omega))
      have ZA' := Lib.hid ((ZA.out.kept g3 (by simp)).kept hg4 (fun e => by have := hlo _ e; omega))
      have G' := Lib.hid (grown_own (grown_trans G.out g3) hg4 hlo (by omega))
      have hB4 : B ≤ w4.heap.size := by have h1 := hg4.size; rw [World.size_alloc] at h1; omega
      clear g3 ho hg4 SX c0 c1 c2 c3 c4 c5 s0 s1 s2 s3 s4 s5 s6 sf sl' te
      clear PE SA ZA G
      have PE := PE'
      have SA := SA'
      have ZA := ZA'
      have G := G'
      clear PE' SA' ZA' G'
      have s6 := SA.out.c.2.2.2.2.2.2
      have sf := SA.out.fz 6
      have sl' := SA.out.lt
      go_wp2
      have gS := grown_setCell (i := 6) (grown_refl w4 (some g)) (.slice q4 (k + 1) c4')
      have hno : some w.heap.size ≠ some g := by intro e; injection e with e; omega
      refine ⟨⟨k + 1, q4, c4', hlt, by go_num, PE.out.kept gS (.inr hhg), SA.out.secs _, ZA.out.kept gS (fun e => hno e.symm), R4.out.kept gS (.inr (fun e => by have := (R4.out.lt _ e).1; omega)), odd_succ OD.out ?_, grown_new G.out gS (by omega), Nat.le_trans hB4 gS.size⟩, by simp [intOf]; omega⟩
      rw [← XE.out, ← show nm = fieldAt ys 8 from congrArg Seg.name SE.out]
      exact HQ.out
    · have hkm : k = M := by omega
      subst hkm
      have HE3 := Lib.hid (HE2.out.trans (if_neg (by rw [← ME.out, OD.out]; decide)))
      by_cases h64 : 64 < k
      · have d3 : decide (64 < k) = true := by simpa using h64
        have HE := Lib.hid (HE3.out.trans (if_pos (by rw [← ME.out]; exact h64)))
        obtain ⟨d0, d1, d2, d3, d4, d5, d6⟩ := ZA.out.c
        have f0 := ZA.out.fz 0
        have f1 := ZA.out.fz 1
        have f2 := ZA.out.fz 2
        have f3 := ZA.out.fz 3
        have f4 := ZA.out.fz 4
        have f5 := ZA.out.fz 5
        have f6 := ZA.out.fz 6
        have hl := ZA.out.lt
        go_wp2
        have PA := ZA.out.put Seg.zero (.slice none 0 0)
        refine bodyPost_ret (results_seg rfl rfl rfl PA) rfl ?_
        exact SegOut.no HE.out (by decide) (grown_new G.out (grown_put7 (grown_refl _ _) _ _ _ _ _ _ _) (Nat.le_refl _))
      have d3 : decide (64 < k) = false := by simpa using h64
      have HE := Lib.hid (HE3.out.trans (if_neg (by rw [← ME.out]; exact h64)))
      obtain ⟨s0, s1, s2, s3, s4, s5, s6⟩ := SA.out.c
      obtain ⟨d0, d1', d2', d3', d4, d5, d6⟩ := ZA.out.c
      have f0 := ZA.out.fz 0
      have f1 := ZA.out.fz 1
      have f2 := ZA.out.fz 2
      have f3 := ZA.out.fz 3
      have f4 := ZA.out.fz 4
      have f5 := ZA.out.fz 5
      have f6 := ZA.out.fz 6
      have hl := ZA.out.lt
      have hl2 := SA.out.lt
      simp only [] at s0 s1 s2 s3 s4 s5
      go_wp2
      have PA := ZA.out.put ⟨nm, ad, sz, of, fs, pr, []⟩ (.slice q' k c')
      have gP := grown_put7 (grown_refl wr (some w.heap.size)) (.string (strOfNums nm)) (.int .u64 ad) (.int .u64 sz) (.int .u64 of) (.int .u64 fs) (.int .i64 pr) (.slice q' k c')
      refine bodyPost_ret (results_seg rfl rfl rfl PA) rfl ?_
      refine ⟨fun h => absurd HE.out h, fun _ => ⟨q', k, c', B, ?_, ?_, ?_, by omega⟩, grown_new G.out gP (Nat.le_refl _)⟩
      · show k = (secsN ys (manyAt ys)).length
        rw [← ME.out]; unfold secsN; simp
      · rw [← SE.out]; rfl
      · show World.ownsRow _ _ _ _ _ _ ((secsN ys (manyAt ys)).flatMap secCs)
        rw [← ME.out]
        exact OW.out.kept gP (.inr (fun e => by have := (OW.out.lt _ e).1; omega))
end Go.Proofs.YtdagnkdonlfobaaGreat

/- The spans of a command. No condition but that it has at most 2^47 bytes. -/
namespace Go.Proofs.YtdagnkdonlfobaaGreat
open Go.RowKit
variable {w w' : World} {lo hi a : Nat} {xs : List Int} {p : Nat}

def spanCs (x : Int × Int) : List Value := [.int .u64 x.1, .int .u64 x.2]
def spanV (x : Int × Int) : Value := .agg #[.int .u64 x.1, .int .u64 x.2]
theorem spanCs_len (x : Int × Int) : (spanCs x).length = 2 := rfl
theorem spanCs_one (x : Int × Int) : ∀ u ∈ spanCs x, u.oneCell' = true := by
  intro u hu
  simp only [spanCs, List.mem_cons, List.not_mem_nil, or_false] at hu
  rcases hu with rfl | rfl <;> rfl
theorem spanType : StType Tryz.prog 39 112 2 16 := .mk' Tryz.underlying112 (z := .agg #[.int .u64 0, .int .u64 0]) (by kernel_rfl) rfl (by decide)
def SpanAt (w : World) (g : Nat) (x : Int × Int) : Prop := w.heap[g]? = some (.cells #[.int .u64 x.1, .int .u64 x.2] 39 (0, 0))

set_option maxRecDepth 20000 in
theorem takeSpan_any (h : Pen w lo hi a xs p false false) (hn : p + 8 ≤ xs.length) (u : Int) (hu : u = 1 ∨ u = 16) :
    Calls Tryz.prog 184 #[.pointer (some ⟨a, 0, none⟩), .int .u64 u] w fun e w' => e = .returned (spanV (spanAt xs p u)) ∧ Pen w' lo hi a xs (p + 8) false false ∧ w.grownBy w' (some a) := by
  have G0 := Lib.hid (grown1 w (.cells #[.int .u64 0, .int .u64 0] 39))
  have P0 := Lib.hid (h.same G0.out)
  have S0 := Lib.hid (show SpanAt (w.alloc (.cells #[.int .u64 0, .int .u64 0] 39)) w.heap.size (0, 0) from heap_alloc_new w _)
  have hal : a < w.heap.size := h.lt
  have hhi : hi ≤ w.heap.size := h.sz
  have hb2 := numAt_lt h.small (p + 4)
  clear h
  obtain ⟨A, hA⟩ : ∃ A, A = numAt xs p 4 := ⟨_, rfl⟩
  obtain ⟨B, hB⟩ : ∃ B, B = numAt xs (p + 4) 4 := ⟨_, rfl⟩
  rw [← hB] at hb2
  have HA := Lib.hid hA
  have HB := Lib.hid hB
  clear hA hB
  have hm : (B * u) % 18446744073709551616 = B * u := by rcases hu with rfl | rfl <;> omega
  have hw : IntKind.u64.wrap (B * u) = B * u := by rw [IntKind.wrap_u64]; exact hm
  go_enter Tryz.func184, Tryz.ntmps184
  go_wp2_with fail
  refine (pen_num P0.out 4 (.inr (.inr (.inl rfl))) (by omega)).mono ?_
  rintro e w2 ⟨rfl, hp, hg⟩
  rw [show numOf false ((xs.drop p).take 4) = A from HA.out.symm]
  have P2 := Lib.hid hp
  have S2 := Lib.hid (show SpanAt w2 w.heap.size (0, 0) from (hg.block _ (lt_of_block S0.out) (fun e => by injection e with e; omega)).trans S0.out)
  have G2 := Lib.hid (grown_first G0.out hg)
  clear hp hg
  go_wp2_with fail
  refine (pen_num P2.out 4 (.inr (.inr (.inl rfl))) (by omega)).mono ?_
  rintro e w3 ⟨rfl, hp, hg⟩
  rw [show numOf false ((xs.drop (p + 4)).take 4) = B from HB.out.symm]
  have P3 := Lib.hid (show Pen w3 lo hi a xs (p + 8) false false from hp)
  have h3 : SpanAt w3 w.heap.size (0, 0) := (hg.block _ (lt_of_block S2.out) (fun e => by injection e with e; omega)).trans S2.out
  have S3 := Lib.hid h3
  have G3 := Lib.hid (grown_same G2.out hg)
  have c0 : w3.cell? ⟨w.heap.size, 0, none⟩ = some (.int .u64 0) := by rw [cell_of h3]; rfl
  have c1 : w3.cell? ⟨w.heap.size, 1, none⟩ = some (.int .u64 0) := by rw [cell_of h3]; rfl
  have f0 : w3.frozen? ⟨w.heap.size, 0, none⟩ = false := free_of h3
  have f1 : w3.frozen? ⟨w.heap.size, 1, none⟩ = false := free_of h3
  have hlt := lt_of_block h3
  clear hp hg h3
  go_wp2
  have hS : SpanAt ((w3.setCell ⟨w.heap.size, 0, none⟩ (.int .u64 A)).setCell ⟨w.heap.size, 1, none⟩ (.int .u64 (B * u))) w.heap.size (A, B * u) := by
    unfold SpanAt
    rw [heap_setCell_same _ w.heap.size 1 _ _ _ (heap_setCell_same w3 w.heap.size 0 _ _ _ S3.out)]
    rfl
  have gS := grown_put2 (grown_refl w3 (some w.heap.size)) (.int .u64 A) (.int .u64 (B * u))
  refine bodyPost_ret (results_cell_row rfl _ _ _ _ _ _ _ rfl hS Tryz.underlying39 rfl (by kernel_rfl)) rfl ?_
  refine ⟨?_, P3.out.kept gS (.inr hhi), grown_past G3.out gS (Nat.le_refl _)⟩
  unfold spanV spanAt
  rw [← HA.out, ← HB.out]

structure SpansOut (w w' : World) (ys : List Int) (e : Ending) : Prop where
  bad : spansErr ys ≠ 0 → e = .returned (.tuple #[.slice none 0 0, .int .i64 (spansErr ys)])
  good : spansErr ys = 0 → ∃ q n c base, n = (spansOf ys).length ∧ e = .returned (.tuple #[.slice q n c, .int .i64 0]) ∧ w'.ownsRow base 39 2 (.slice q n c) n ((spansOf ys).flatMap spanCs) ∧ w.heap.size ≤ base
  grown : w.grownBy w' none

set_option maxHeartbeats 1600000 in
set_option maxRecDepth 20000 in
theorem Spans_any (ys : List Int) (q : Option Addr) (c n : Nat) (h : IsBytes w q c ys) (hn : ys.length = n) (hb : n ≤ 140737488355328) (hr : Small ys) :
    Calls Tryz.prog 152 #[.slice q n c] w fun e w' => SpansOut w w' ys e := by
  have OP := Lib.hid (open_any (w := w) ys q c n h hn hb hr)
  have HN := Lib.hid hn
  clear h hr hn
  by_cases hs : shortB ys
  · have SH := Lib.hid hs
    clear hs
    go_enter Tryz.func152, Tryz.ntmps152
    go_wp2_with fail
    refine OP.out.mono ?_
    rintro e w1 ⟨hbad, _, hg⟩
    have G1 := Lib.hid hg
    obtain rfl := hbad SH.out
    clear hbad hg
    go_wp2
    go_ret2
    have hE : spansErr ys = 3 := by unfold spansErr; rw [if_pos SH.out]
    exact ⟨fun _ => by rw [hE]; rfl, fun h => (by rw [hE] at h; cases h), G1.out⟩
  have SH := Lib.hid hs
  have hE : spansErr ys = if isInfo (cmdAt ys) ∨ isLone (cmdAt ys) ∨ cmdAt ys = 2 then 0 else 7 := by unfold spansErr; rw [if_neg hs]
  have hlen : ¬ ((ys.length : Int) < leastN (cmdAt ys)) := fun h => hs (.inr h)
  obtain ⟨cm, hcm⟩ : ∃ z, z = cmdAt ys := ⟨_, rfl⟩
  have hF : spansOf ys = if isInfo cm then [spanAt ys 8 1, spanAt ys 16 1, spanAt ys 24 1, spanAt ys 32 1, spanAt ys 40 1] else if isLone cm then [spanAt ys 8 1] else if cm = 2 then [spanAt ys 8 16, spanAt ys 16 1] else [] := by rw [hcm]; rfl
  rw [← hcm] at hE hlen
  have CM := Lib.hid hcm
  have HE := Lib.hid hE
  have HF := Lib.hid hF
  have HL := Lib.hid hlen
  clear hs hE hF hcm hlen
  by_cases hi : isInfo cm
  · have h48 : 48 ≤ ys.length := by
      have := HL.out
      rcases hi with rfl | rfl
      · have : leastN 34 = 48 := by decide
        omega
      · have : leastN 2147483682 = 48 := by decide
        omega
    have HE0 := Lib.hid (show spansErr ys = 0 by rw [HE.out, if_pos (.inl hi)])
    have HF0 := Lib.hid (show spansOf ys = (List.range 4).map (fun i => spanAt ys (8 + 8 * i) 1) ++ [spanAt ys 40 1] by rw [HF.out, if_pos hi]; rfl)
    have hbs : (cm == 34) = true ∨ ((cm == 34) = false ∧ (cm == 2147483682) = true) := by
      rcases hi with rfl | rfl
      · exact .inl rfl
      · exact .inr ⟨rfl, rfl⟩
    have H48 := Lib.hid h48
    clear hi h48 HE HF HL
    rcases hbs with b1 | ⟨b1, b2⟩
    all_goals
      go_enter Tryz.func152, Tryz.ntmps152
      go_wp2_with fail
      refine OP.out.mono ?_
      rintro e w1 ⟨_, hgood, hg⟩
      obtain ⟨a, hi, rfl, hp⟩ := hgood SH.out
      have G1 := Lib.hid hg
      have P1 := Lib.hid hp
      rw [← CM.out]
      clear hgood hg hp
      have hal : a < w1.heap.size := P1.out.lt
      have hhi : hi ≤ w1.heap.size := P1.out.sz
      go_wp2
      go_loopw [7, 27] (fun l i wr => ∃ (k : Nat) (q' : Option Addr) (c' : Nat), k ≤ 4 ∧ i = .int .i64 k ∧ l = .slice q' k c' ∧ wr.ownsRow w1.heap.size 39 2 (.slice q' k c') k (((List.range k).map (fun i => spanAt ys (8 + 8 * i) 1)).flatMap spanCs) ∧ Pen wr w.heap.size hi a ys (8 + 8 * k) false false ∧ w1.grownBy wr (some a)) (fun _ i _ => 4 - (intOf i).toNat)
      case atStart => exact ⟨0, none, 0, by omega, rfl, rfl, World.ownsRow_nil _ _ _ _, P1.out, grown_refl _ _⟩
      case round =>
        obtain ⟨k, q', c', hk, rfl, rfl, hown, hp, hg⟩ := hrel
        have OW := Lib.hid hown
        have P2 := Lib.hid hp
        have G2 := Lib.hid hg
        clear hown hp hg
        by_cases hlt : k < 4
        · go_wp2_with fail
          refine (takeSpan_any P2.out (by have := H48.out; omega) 1 (.inl rfl)).mono ?_
          rintro e w2 ⟨rfl, hp, hg⟩
          unfold spanV
          have P3 := Lib.hid hp
          have O3 := Lib.hid (OW.out.kept hg (.inr (fun e => by have := (OW.out.lt _ e).1; omega)))
          have G3 := Lib.hid (grown_same G2.out hg)
          clear hp hg
          go_wp2_with (at_builtin; refine wp_append_st spanType rfl _ _ rfl _ k _ rfl (own_grown O3.out (grown1 w2 (.cells #[.int .u64 (spanAt ys (8 + 8 * k) 1).1, .int .u64 (spanAt ys (8 + 8 * k) 1).2] 39))) (spanCs (spanAt ys (8 + 8 * k) 1)) rfl w2.heap.size rfl (heap_alloc_new w2 _) (spanCs_one _) (by omega) (by decide) ?_ ?_)
          · exact Nat.le_trans G3.out.size (by rw [World.size_alloc]; exact Nat.le_succ _)
          intro v' w3 ho hg3
          obtain ⟨q3, c3, rfl⟩ := own_slice ho
          have R3 := Lib.hid (show w3.ownsRow w1.heap.size 39 2 (.slice q3 (k + 1) c3) (k + 1) (((List.range (k + 1)).map (fun i => spanAt ys (8 + 8 * i) 1)).flatMap spanCs) by
            rw [List.range_succ, List.map_append, List.flatMap_append]
            simpa using ho)
          have hlo := fun g (e : (Value.slice q' k c').ownBlock = some g) => (O3.out.lt g e).1
          have P4 := Lib.hid ((P3.out.same (grown1 w2 _)).row hg3 (fun g e => Nat.le_trans hhi (hlo g e)))
          have G4 := Lib.hid (grown_row (grown_then G3.out (grown1 w2 _)) hg3 hlo)
          clear ho hg3
          go_wp2
          refine ⟨⟨k + 1, q3, c3, by omega, by go_num, rfl, R3.out, by have := P4.out; rwa [show 8 + 8 * k + 8 = 8 + 8 * (k + 1) by omega] at this, G4.out⟩, by simp [intOf]; omega⟩
        · have hk4 : k = 4 := by omega
          subst hk4
          go_wp2_with fail
          refine (takeSpan_any P2.out (by have := H48.out; omega) 1 (.inl rfl)).mono ?_
          rintro e w2 ⟨rfl, hp, hg⟩
          unfold spanV
          have O3 := Lib.hid (OW.out.kept hg (.inr (fun e => by have := (OW.out.lt _ e).1; omega)))
          have G3 := Lib.hid (grown_same G2.out hg)
          clear hp hg
          go_wp2_with (at_builtin; refine wp_append_st spanType rfl _ _ rfl _ 4 _ rfl (own_grown O3.out (grown1 w2 (.cells #[.int .u64 (spanAt ys (8 + 8 * 4) 1).1, .int .u64 (spanAt ys (8 + 8 * 4) 1).2] 39))) (spanCs (spanAt ys (8 + 8 * 4) 1)) rfl w2.heap.size rfl (heap_alloc_new w2 _) (spanCs_one _) (by omega) (by decide) ?_ ?_)
          · exact Nat.le_trans G3.out.size (by rw [World.size_alloc]; exact Nat.le_succ _)
          intro v' w3 ho hg3
          obtain ⟨q3, c3, rfl⟩ := own_slice ho
          have R3 := Lib.hid (show w3.ownsRow w1.heap.size 39 2 (.slice q3 5 c3) 5 ((spansOf ys).flatMap spanCs) by
            rw [HF0.out, List.flatMap_append]
            exact ho)
          have hlo := fun g (e : (Value.slice q' 4 c').ownBlock = some g) => (O3.out.lt g e).1
          have G4 := Lib.hid (grown_new G1.out (grown_row (grown_then G3.out (grown1 w2 _)) hg3 hlo) P1.out.lw)
          clear ho hg3
          go_wp2
          go_ret2
          exact ⟨fun h => absurd HE0.out h, fun _ => ⟨q3, 5, c3, _, by rw [HF0.out]; rfl, rfl, R3.out, G1.out.size⟩, G4.out⟩
  by_cases hl : isLone cm
  · have h16 : 16 ≤ ys.length := by
      have := HL.out
      rcases hl with rfl | rfl
      · have : leastN 2147483699 = 16 := by decide
        omega
      · have : leastN 2147483700 = 16 := by decide
        omega
    have HE0 := Lib.hid (show spansErr ys = 0 by rw [HE.out, if_pos (.inr (.inl hl))])
    have HF0 := Lib.hid (show spansOf ys = [spanAt ys 8 1] by rw [HF.out, if_neg hi, if_pos hl])
    have H16 := Lib.hid h16
    clear hi h16 HE HF HL
    rcases hl with rfl | rfl
    all_goals
      go_enter Tryz.func152, Tryz.ntmps152
      go_wp2_with fail
      refine OP.out.mono ?_
      rintro e w1 ⟨_, hgood, hg⟩
      obtain ⟨a, hi, rfl, hp⟩ := hgood SH.out
      have G1 := Lib.hid hg
      have P1 := Lib.hid hp
      rw [← CM.out]
      clear hgood hg hp
      have hal : a < w1.heap.size := P1.out.lt
      have hhi : hi ≤ w1.heap.size := P1.out.sz
      go_wp2_with fail
      refine (takeSpan_any P1.out (by have := H16.out; omega) 1 (.inl rfl)).mono ?_
      rintro e w2 ⟨rfl, hp, hg⟩
      unfold spanV
      have O3 := Lib.hid (World.ownsRow_nil w2 w1.heap.size 39 2)
      have G3 := Lib.hid hg
      clear hp hg
      go_wp2_with (at_builtin; refine wp_append_st spanType rfl _ _ rfl _ 0 _ rfl (own_grown O3.out (grown1 w2 (.cells #[.int .u64 (spanAt ys 8 1).1, .int .u64 (spanAt ys 8 1).2] 39))) (spanCs (spanAt ys 8 1)) rfl w2.heap.size rfl (heap_alloc_new w2 _) (spanCs_one _) (by omega) (by decide) ?_ ?_)
      · exact Nat.le_trans G3.out.size (by rw [World.size_alloc]; exact Nat.le_succ _)
      intro v' w3 ho hg3
      obtain ⟨q3, c3, rfl⟩ := own_slice ho
      have R3 := Lib.hid (show w3.ownsRow w1.heap.size 39 2 (.slice q3 1 c3) 1 ((spansOf ys).flatMap spanCs) by
        rw [HF0.out]
        exact ho)
      have G4 := Lib.hid (grown_new G1.out (grown_row (v := .slice none 0 0) (grown_then G3.out (grown1 w2 _)) hg3 (fun g e => by simp [Value.ownBlock] at e)) P1.out.lw)
      clear ho hg3
      go_wp2
      go_ret2
      exact ⟨fun h => absurd HE0.out h, fun _ => ⟨q3, 1, c3, _, by rw [HF0.out]; rfl, rfl, R3.out, G1.out.size⟩, G4.out⟩
  by_cases h2 : cm = 2
  · have h24 : 24 ≤ ys.length := by
      have := HL.out
      subst h2
      have : leastN 2 = 24 := by decide
      omega
    have HE0 := Lib.hid (show spansErr ys = 0 by rw [HE.out, if_pos (.inr (.inr h2))])
    have HF0 := Lib.hid (show spansOf ys = [spanAt ys 8 16, spanAt ys 16 1] by rw [HF.out, if_neg hi, if_neg hl, if_pos h2])
    have H24 := Lib.hid h24
    clear hi hl h24 HE HF HL
    subst h2
    go_enter Tryz.func152, Tryz.ntmps152
    go_wp2_with fail
    refine OP.out.mono ?_
    rintro e w1 ⟨_, hgood, hg⟩
    obtain ⟨a, hi, rfl, hp⟩ := hgood SH.out
    have G1 := Lib.hid hg
    have P1 := Lib.hid hp
    rw [← CM.out]
    clear hgood hg hp
    have hal : a < w1.heap.size := P1.out.lt
    have hhi : hi ≤ w1.heap.size := P1.out.sz
    go_wp2_with fail
    refine (takeSpan_any P1.out (by have := H24.out; omega) 16 (.inr rfl)).mono ?_
    rintro e w2 ⟨rfl, hp, hg⟩
    unfold spanV
    obtain ⟨⟨A, B⟩, hAB⟩ : ∃ z, z = spanAt ys 8 16 := ⟨_, rfl⟩
    rw [← hAB]
    have AB := Lib.hid hAB
    have g2 := grown1 w2 (.cells #[.int .u64 A, .int .u64 B] 39)
    have P2 := Lib.hid (hp.same g2)
    have hal2 := hp.lt
    have G2 := Lib.hid (grown_then hg g2)
    have S2 := Lib.hid (show SpanAt (w2.alloc (.cells #[.int .u64 A, .int .u64 B] 39)) w2.heap.size (A, B) from heap_alloc_new w2 _)
    clear hp hg g2 hAB
    simp only []
    go_upto_region 17 with fail
    obtain ⟨wA, hwA⟩ : ∃ wA, w2.alloc (.cells #[.int .u64 A, .int .u64 B] 39) = wA := ⟨_, rfl⟩
    obtain ⟨bs, hbs⟩ : ∃ bs, bs = w2.heap.size := ⟨_, rfl⟩
    rw [hwA, ← hbs] at S2
    rw [hwA] at P2 G2 ⊢
    rw [← hbs]
    have hab : a < bs := by rw [hbs]; exact hal2
    clear hwA hbs
    go_wp2
    have gD : wA.grownBy wA.drew none := grown_drewN (grown_refl wA none) 1
    have P3 := Lib.hid (P2.out.same gD)
    have G3 := Lib.hid (grown_then G2.out gD)
    have S3 : SpanAt wA.drew bs (A, B) := S2.out
    have c0 : wA.drew.cell? ⟨bs, 0, none⟩ = some (.int .u64 A) := by rw [cell_of S3]; rfl
    have c1 : wA.drew.cell? ⟨bs, 1, none⟩ = some (.int .u64 B) := by rw [cell_of S3]; rfl
    have hlt := lt_of_block S3
    have LT := Lib.hid hlt
    have H24' := H24.out
    have hone : ∀ u ∈ spanCs (A, B) ++ spanCs (spanAt ys 16 1), u.oneCell' = true := by
      intro u hu
      rcases List.mem_append.1 hu with h | h
      · exact spanCs_one _ u h
      · exact spanCs_one _ u h
    have hba : ∀ (x : World) (ob : Obj), wA.drew.grownBy x (some a) → w1.heap.size ≤ (x.alloc ob).heap.size := fun x ob hx => by
      have h1 : w1.heap.size ≤ wA.heap.size := G3.out.size
      have h2 : wA.heap.size ≤ x.heap.size := hx.size
      rw [World.size_alloc]; omega
    have hne : (some a : Option Nat) ≠ some bs := by intro e; injection e with e; omega
    clear S3 gD
    go_region_held3 (fun X => X.cell? ⟨bs, 0, none⟩ = some (.int .u64 A) ∧ X.cell? ⟨bs, 1, none⟩ = some (.int .u64 B) ∧ bs < X.heap.size)
      (first | exact ⟨c0, c1, hlt⟩ | exact ⟨e0, e1, hl1⟩ | exact ⟨k0, k1, hl2⟩ | (refine ⟨?_, ?_, ?_⟩ <;> simp [go_sem, *]; done))
      (first
        | (go_simp; go_at_call 184; refine (takeSpan_any P3.out (by omega) 1 (.inl rfl)).mono ?_; rintro e x1 ⟨rfl, hp1, hg1⟩; unfold spanV; have e0 := hg1.cell c0 hne.symm; have e1 := hg1.cell c1 hne.symm; have hl1 := Nat.lt_of_lt_of_le hlt hg1.size)
        | (refine step_append_st spanType (by with_reducible rfl) _ _ (by with_reducible rfl) _ 0 2 [] (by rfl) (World.ownsRow_nil _ w1.heap.size 39 2) (spanCs (A, B) ++ spanCs (spanAt ys 16 1)) rfl x1.heap.size (by rfl) (heap_alloc_new x1 _) hone (by omega) (by decide) (hba x1 _ hg1) ?_;intro v' x2 ho hg2; have hgn := grown_trans (grown1 x1 _) (show World.grownBy _ x2 none from hg2); have k0 := grown_cell hgn e0; have k1 := grown_cell hgn e1; have hl2 := Nat.lt_of_lt_of_le hl1 hgn.size))
    obtain ⟨q3, c3, rfl⟩ := own_slice ho
    have R3 := Lib.hid (show x2.ownsRow w1.heap.size 39 2 (.slice q3 2 c3) 2 ((spansOf ys).flatMap spanCs) by
      rw [HF0.out, ← AB.out]
      exact ho)
    have G4 := Lib.hid (grown_new G1.out (grown_row (v := .slice none 0 0) (grown_then (grown_same G3.out hg1) (grown1 x1 _)) hg2 (fun g e => by simp [Value.ownBlock] at e)) P1.out.lw)
    clear ho hg2 hg1 hp1
    go_wp2
    go_ret2
    exact ⟨fun h => absurd HE0.out h, fun _ => ⟨q3, 2, c3, _, by rw [HF0.out]; rfl, rfl, R3.out, G1.out.size⟩, G4.out⟩
  have HE0 := Lib.hid (show spansErr ys = 7 by rw [HE.out, if_neg (by rintro (h | h | h); exact hi h; exact hl h; exact h2 h)])
  have b1 : (cm == 34) = false := by simpa using fun h => hi (.inl h)
  have b2 : (cm == 2147483682) = false := by simpa using fun h => hi (.inr h)
  have b3 : (cm == 2147483699) = false := by simpa using fun h => hl (.inl h)
  have b4 : (cm == 2147483700) = false := by simpa using fun h => hl (.inr h)
  have b5 : (cm == 2) = false := by simpa using h2
  clear hi hl h2 HE HF HL
  go_enter Tryz.func152, Tryz.ntmps152
  go_wp2_with fail
  refine OP.out.mono ?_
  rintro e w1 ⟨_, hgood, hg⟩
  obtain ⟨a, hi, rfl, hp⟩ := hgood SH.out
  have G1 := Lib.hid hg
  rw [← CM.out]
  clear hgood hg hp
  go_wp2
  go_ret2
  exact ⟨fun _ => by rw [HE0.out]; rfl, fun h => (by rw [HE0.out] at h; cases h), G1.out⟩
end Go.Proofs.YtdagnkdonlfobaaGreat
