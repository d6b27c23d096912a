import Derived.Test.YtemdbfgpimfkdaaM13
import Derived.Deep.Cut
import Derived.Deep.CutRange
/- A segment's command. No condition but that it has at most 2^47 bytes. -/
namespace Go.Proofs.Ytemdbfgpimfkdaa
open Go.RowKit
variable {w w' : World} {lo hi a : Nat} {xs : List Int} {p : Nat} {big bad : Bool}

theorem pen_left (h : Pen w lo hi a xs p big bad) : Calls Try.prog 50 #[.pointer (some ⟨a, 0, none⟩)] w fun e w' => e = .returned (.int .i64 ((xs.length : Int) - p)) ∧ ∃ n, w' = w.drewN n := by
  obtain ⟨⟨base, q, c, hc, hl, ho⟩, i1, i2, i3⟩ := h
  refine (left_any hc).mono ?_
  rintro e w' ⟨rfl, k, rfl⟩
  exact ⟨rfl, k, rfl⟩

def segArr (s : Seg) (sv : Value) : Array Value := #[.string (strOfNums s.name), .int .u64 s.addr, .int .u64 s.size, .int .u64 s.off, .int .u64 s.fsize, .int .i64 s.prot, sv]
def Seg.zero : Seg := ⟨[], 0, 0, 0, 0, 0, []⟩
def SegAt (w : World) (g : Nat) (s : Seg) (sv : Value) : Prop := w.heap[g]? = some (.cells (segArr s sv) 47 (0, 0))
theorem SegAt.kept {g : Nat} {s : Seg} {sv : Value} {r : Option Nat} (h : SegAt w g s sv) (hg : w.grownBy w' r) (hr : r ≠ some g) : SegAt w' g s sv := (hg.block g (lt_of_block h) (fun e => hr e.symm)).trans h
theorem SegAt.lt {g : Nat} {s : Seg} {sv : Value} (h : SegAt w g s sv) : g < w.heap.size := lt_of_block h
theorem SegAt.fz {g : Nat} {s : Seg} {sv : Value} (h : SegAt w g s sv) (i : Nat) : w.frozen? ⟨g, i, none⟩ = false := free_of h
theorem SegAt.c {g : Nat} {s : Seg} {sv : Value} (h : SegAt w g s sv) : w.cell? ⟨g, 0, none⟩ = some (.string (strOfNums s.name)) ∧ w.cell? ⟨g, 1, none⟩ = some (.int .u64 s.addr) ∧ w.cell? ⟨g, 2, none⟩ = some (.int .u64 s.size) ∧ w.cell? ⟨g, 3, none⟩ = some (.int .u64 s.off) ∧ w.cell? ⟨g, 4, none⟩ = some (.int .u64 s.fsize) ∧ w.cell? ⟨g, 5, none⟩ = some (.int .i64 s.prot) ∧ w.cell? ⟨g, 6, none⟩ = some sv := by
  refine ⟨?_, ?_, ?_, ?_, ?_, ?_, ?_⟩ <;> (rw [cell_of h]; rfl)
theorem SegAt.prot {g : Nat} {s : Seg} {sv : Value} (h : SegAt w g s sv) (k : Int) : SegAt (w.setCell ⟨g, 5, none⟩ (.int .i64 k)) g { s with prot := k } sv := by
  unfold SegAt
  rw [heap_setCell_same w g 5 _ _ _ h]
  rfl
theorem SegAt.secs {g : Nat} {s : Seg} {sv : Value} (h : SegAt w g s sv) (v : Value) : SegAt (w.setCell ⟨g, 6, none⟩ v) g s v := by
  unfold SegAt
  rw [heap_setCell_same w g 6 _ _ _ h]
  rfl
theorem SegAt.put {g : Nat} {s : Seg} {sv : Value} (h : SegAt w g s sv) (t : Seg) (v : Value) : SegAt (((((((w.setCell ⟨g, 0, none⟩ (.string (strOfNums t.name))).setCell ⟨g, 1, none⟩ (.int .u64 t.addr)).setCell ⟨g, 2, none⟩ (.int .u64 t.size)).setCell ⟨g, 3, none⟩ (.int .u64 t.off)).setCell ⟨g, 4, none⟩ (.int .u64 t.fsize)).setCell ⟨g, 5, none⟩ (.int .i64 t.prot)).setCell ⟨g, 6, none⟩ v) g t v := by
  unfold SegAt
  rw [heap_setCell_same _ g 6 _ _ _ (heap_setCell_same _ g 5 _ _ _ (heap_setCell_same _ g 4 _ _ _ (heap_setCell_same _ g 3 _ _ _ (heap_setCell_same _ g 2 _ _ _ (heap_setCell_same _ g 1 _ _ _ (heap_setCell_same w g 0 _ _ _ h))))))]
  rfl
theorem grown_put7 {g : Nat} (h : w.grownBy w' (some g)) (v0 v1 v2 v3 v4 v5 v6 : Value) : w.grownBy (((((((w'.setCell ⟨g, 0, none⟩ v0).setCell ⟨g, 1, none⟩ v1).setCell ⟨g, 2, none⟩ v2).setCell ⟨g, 3, none⟩ v3).setCell ⟨g, 4, none⟩ v4).setCell ⟨g, 5, none⟩ v5).setCell ⟨g, 6, none⟩ v6) (some g) :=
  grown_setCell (grown_setCell (grown_setCell (grown_setCell (grown_setCell (grown_setCell (grown_setCell h _) _) _) _) _) _) _
def segV (s : Seg) (sv : Value) : Value := .agg (segArr s sv)
theorem load_seg {g : Nat} {s : Seg} {sv : Value} (h : SegAt w g s sv) : (loadVar 47 ⟨g, 0, none⟩).run Try.prog w = .ok (segV s sv) w :=
  run_loadVar_row w g _ _ _ _ _ h Try.underlying47 rfl (by kernel_rfl)
theorem results_seg {fn : Func} {p u : Tmp} (hr : fn.results = #[.cell p 47, .tmp u]) {tmps : Array Value} {v : Value} {g : Nat} {s : Seg} {sv : Value} (hp : tmps.getD p undef = .pointer (some ⟨g, 0, none⟩)) (hu : tmps.getD u undef = v) (h : SegAt w g s sv) :
    (results fn tmps).run Try.prog w = .ok (.tuple #[segV s sv, v]) w := by
  rw [results_cell_tmp hr, hp, hu, show (asAddr (.pointer (some ⟨g, 0, none⟩)) : Sem Addr).run Try.prog w = .ok ⟨g, 0, none⟩ w from rfl, Result.andThen_ok, load_seg h, Result.andThen_ok]

structure SegOut (w w' : World) (ys : List Int) (e : Ending) : Prop where
  bad : segErr ys ≠ 0 → e = .returned (.tuple #[segV Seg.zero (.slice none 0 0), .int .i64 (segErr ys)])
  good : segErr ys = 0 → ∃ q n c base, n = (segOf ys).secs.length ∧ e = .returned (.tuple #[segV (segOf ys) (.slice q n c), .int .i64 0]) ∧ w'.ownsRow base 76 6 (.slice q n c) n ((segOf ys).secs.flatMap secCs) ∧ w.heap.size ≤ base
  grown : w.grownBy w' none
theorem SegOut.no {ys : List Int} {er : Int} (hE : segErr ys = er) (h0 : er ≠ 0) (hg : w.grownBy w' none) : SegOut w w' ys (.returned (.tuple #[segV Seg.zero (.slice none 0 0), .int .i64 er])) :=
  ⟨fun _ => by rw [hE], fun h => absurd (hE ▸ h) h0, hg⟩
theorem segType : StType Try.prog 47 26 7 80 := .mk' Try.underlying26 (z := segV Seg.zero (.slice none 0 0)) (by kernel_rfl) rfl (by decide)

theorem small_pre {l : List Int} (h : Small l) : Small (pre l) := by
  rw [pre_take]
  exact fun x hx => h x (List.mem_of_mem_take hx)
theorem small_field {b : List Int} (h : Small b) (p : Nat) : Small (fieldAt b p) := small_pre fun x hx => h x (List.mem_of_mem_drop (List.mem_of_mem_take hx))
theorem secsN_succ (b : List Int) (k : Nat) : secsN b (k + 1) = secsN b k ++ [secAt b (72 + 80 * k)] := by
  unfold secsN
  rw [List.range_succ, List.map_append]
  rfl
theorem odd_succ {b : List Int} {k : Nat} (h : oddSec b k = false) (hx : (secAt b (72 + 80 * k)).seg = fieldAt b 8) : oddSec b (k + 1) = false := by
  unfold oddSec at h ⊢
  rw [secsN_succ, List.any_append, h]
  simp [hx]
theorem odd_at {b : List Int} {k M m : Nat} (hk : k < M) (hm : m = M) (hx : (secAt b (72 + 80 * k)).seg ≠ fieldAt b 8) : oddSec b m = true := by
  subst hm
  unfold oddSec
  rw [List.any_eq_true]
  exact ⟨_, List.mem_map.2 ⟨k, List.mem_range.2 hk, rfl⟩, by simpa using hx⟩
-- WALK
set_option maxHeartbeats 6400000 in
set_option maxRecDepth 20000 in
theorem Segment_any (ys : List Int) (q : Option Addr) (c n : Nat) (h : IsBytes w q c ys) (hn : ys.length = n) (hb : n ≤ 140737488355328) (hr : Small ys) :
    Calls Try.prog 44 #[.slice q n c] w fun e w' => SegOut w w' ys e := by
  have g0 := grown1 w (.cells #[.string ⟨#[]⟩, .int .u64 0, .int .u64 0, .int .u64 0, .int .u64 0, .int .i64 0, .slice none 0 0] 47)
  have OP0 := open_any (w := w.alloc (.cells #[.string ⟨#[]⟩, .int .u64 0, .int .u64 0, .int .u64 0, .int .u64 0, .int .i64 0, .slice none 0 0] 47)) ys q c n (h.kept g0 (by simp)) hn hb hr
  have OP := Lib.hid OP0
  have G0 := Lib.hid g0
  have Z0 := Lib.hid (show SegAt (w.alloc (.cells #[.string ⟨#[]⟩, .int .u64 0, .int .u64 0, .int .u64 0, .int .u64 0, .int .i64 0, .slice none 0 0] 47)) w.heap.size Seg.zero (.slice none 0 0) from heap_alloc_new w _)
  have HN := Lib.hid hn
  have HR := Lib.hid hr
  clear h hr hn g0 OP0
  by_cases hs : shortB ys
  · have SH := Lib.hid hs
    have HE := Lib.hid (show segErr ys = 3 by unfold segErr; rw [if_pos hs])
    clear hs
    go_enter Try.func44, Try.ntmps44
    go_wp2_with fail
    refine OP.out.mono ?_
    rintro e w1 ⟨hbad, hgood, hg⟩
    have G := Lib.hid (grown_trans G0.out hg)
    have ZA := Lib.hid (Z0.out.kept hg (by simp))
    obtain rfl := hbad SH.out
    clear hbad hgood hg
    obtain ⟨d0, d1, d2, d3, d4, d5, d6⟩ := ZA.out.c
    have f0 := ZA.out.fz 0
    have f1 := ZA.out.fz 1
    have f2 := ZA.out.fz 2
    have f3 := ZA.out.fz 3
    have f4 := ZA.out.fz 4
    have f5 := ZA.out.fz 5
    have f6 := ZA.out.fz 6
    have hl := ZA.out.lt
    go_wp2
    have PA := ZA.out.put Seg.zero (.slice none 0 0)
    refine bodyPost_ret (results_seg rfl rfl rfl PA) rfl ?_
    exact SegOut.no HE.out (by decide) (grown_new G.out (grown_put7 (grown_refl _ _) _ _ _ _ _ _ _) (Nat.le_refl _))
  have SH := Lib.hid hs
  have hE : segErr ys = if cmdAt ys ≠ 25 then 7 else if (ys.length - 72) / 80 < manyAt ys then 3 else if 7 < numAt ys 60 4 then 9 else if oddSec ys (manyAt ys) = true then 9 else if 64 < manyAt ys then 11 else 0 := by unfold segErr; rw [if_neg hs]
  have hlen : ¬ ((ys.length : Int) < leastN (cmdAt ys)) := fun h => hs (.inr h)
  obtain ⟨cm, hcm⟩ : ∃ z, z = cmdAt ys := ⟨_, rfl⟩
  rw [← hcm] at hE hlen
  have CM := Lib.hid hcm
  clear hs hcm
  by_cases hc25 : cm = 25
  rotate_left
  · have HE := Lib.hid (hE.trans (if_pos hc25))
    have b1 : (cm != 25) = true := by simpa using hc25
    clear hE hlen hc25
    go_enter Try.func44, Try.ntmps44
    go_wp2_with fail
    refine OP.out.mono ?_
    rintro e w1 ⟨hbad, hgood, hg⟩
    have G := Lib.hid (grown_trans G0.out hg)
    have ZA := Lib.hid (Z0.out.kept hg (by simp))
    obtain ⟨a, hi, rfl, hp⟩ := hgood SH.out
    rw [World.size_alloc] at hp
    have PE := Lib.hid hp
    rw [← CM.out]
    clear hp
    clear hbad hgood hg
    obtain ⟨d0, d1, d2, d3, d4, d5, d6⟩ := ZA.out.c
    have f0 := ZA.out.fz 0
    have f1 := ZA.out.fz 1
    have f2 := ZA.out.fz 2
    have f3 := ZA.out.fz 3
    have f4 := ZA.out.fz 4
    have f5 := ZA.out.fz 5
    have f6 := ZA.out.fz 6
    have hl := ZA.out.lt
    go_wp2
    have PA := ZA.out.put Seg.zero (.slice none 0 0)
    refine bodyPost_ret (results_seg rfl rfl rfl PA) rfl ?_
    exact SegOut.no HE.out (by decide) (grown_new G.out (grown_put7 (grown_refl _ _) _ _ _ _ _ _ _) (Nat.le_refl _))
  rw [if_neg (fun h => h hc25)] at hE
  have h72 : 72 ≤ n := by
    have : leastN cm = 72 := by rw [hc25]; decide
    have h := HN.out; omega
  subst hc25
  have HE0 := Lib.hid hE
  obtain ⟨⟨nm, ad, sz, of, fs, pr, sl⟩, hseg⟩ : ∃ s, s = segOf ys := ⟨_, rfl⟩
  have SE := Lib.hid hseg
  have hprb := numAt_lt HR.out 60
  have hmb := numAt_lt HR.out 64
  rw [show numAt ys 60 4 = pr from (congrArg Seg.prot SE.out).symm] at hprb
  obtain ⟨M, hM⟩ : ∃ M, M = manyAt ys := ⟨_, rfl⟩
  have hMi : numAt ys 64 4 = M := by rw [hM]; unfold manyAt; omega
  rw [hMi] at hmb
  have ME := Lib.hid hM
  have MI := Lib.hid hMi
  clear hE hlen hseg hM hMi
  go_enter Try.func44, Try.ntmps44
  go_wp2_with fail
  refine OP.out.mono ?_
  rintro e w1 ⟨hbad, hgood, hg⟩
  have G := Lib.hid (grown_trans G0.out hg)
  have ZA := Lib.hid (Z0.out.kept hg (by simp))
  obtain ⟨a, hi, rfl, hp⟩ := hgood SH.out
  rw [World.size_alloc] at hp
  have PE := Lib.hid hp
  rw [← CM.out]
  clear hp
  clear hbad hgood hg
  have hal : w.heap.size + 1 ≤ a := PE.out.lw
  have hah : a < hi := PE.out.up
  have hhi : hi ≤ w1.heap.size := PE.out.sz
  have hneZ : (some a : Option Nat) ≠ some w.heap.size := by intro e; injection e with e; omega
  go_wp2_with fail
  refine (pen_field PE.out 16 (by decide) (by rw [HN.out]; omega)).mono ?_
  rintro e wx ⟨rfl, hp, hg⟩
  rw [show pre ((ys.drop 8).take 16) = nm from (congrArg Seg.name SE.out).symm]
  have PE' := Lib.hid (show Pen wx (w.heap.size + 1) hi a ys 24 false false from hp)
  have ZA' := Lib.hid (ZA.out.kept hg hneZ)
  have G' := Lib.hid (grown_new G.out hg (Nat.le_trans (Nat.le_succ _) PE.out.lw))
  clear hp hg
  clear PE ZA G
  have PE := PE'
  have ZA := ZA'
  have G := G'
  clear PE' ZA' G'
  go_wp2_with fail
  refine (pen_num PE.out 8 (.inr (.inr (.inr rfl))) (by rw [HN.out]; omega)).mono ?_
  rintro e wx ⟨rfl, hp, hg⟩
  rw [show numOf false ((ys.drop 24).take 8) = ad from (congrArg Seg.addr SE.out).symm]
  have PE' := Lib.hid (show Pen wx (w.heap.size + 1) hi a ys 32 false false from hp)
  have ZA' := Lib.hid (ZA.out.kept hg hneZ)
  have G' := Lib.hid (grown_new G.out hg (Nat.le_trans (Nat.le_succ _) PE.out.lw))
  clear hp hg
  clear PE ZA G
  have PE := PE'
  have ZA := ZA'
  have G := G'
  clear PE' ZA' G'
  go_wp2_with fail
  refine (pen_num PE.out 8 (.inr (.inr (.inr rfl))) (by rw [HN.out]; omega)).mono ?_
  rintro e wx ⟨rfl, hp, hg⟩
  rw [show numOf false ((ys.drop 32).take 8) = sz from (congrArg Seg.size SE.out).symm]
  have PE' := Lib.hid (show Pen wx (w.heap.size + 1) hi a ys 40 false false from hp)
  have ZA' := Lib.hid (ZA.out.kept hg hneZ)
  have G' := Lib.hid (grown_new G.out hg (Nat.le_trans (Nat.le_succ _) PE.out.lw))
  clear hp hg
  clear PE ZA G
  have PE := PE'
  have ZA := ZA'
  have G := G'
  clear PE' ZA' G'
  go_wp2_with fail
  refine (pen_num PE.out 8 (.inr (.inr (.inr rfl))) (by rw [HN.out]; omega)).mono ?_
  rintro e wx ⟨rfl, hp, hg⟩
  rw [show numOf false ((ys.drop 40).take 8) = of from (congrArg Seg.off SE.out).symm]
  have PE' := Lib.hid (show Pen wx (w.heap.size + 1) hi a ys 48 false false from hp)
  have ZA' := Lib.hid (ZA.out.kept hg hneZ)
  have G' := Lib.hid (grown_new G.out hg (Nat.le_trans (Nat.le_succ _) PE.out.lw))
  clear hp hg
  clear PE ZA G
  have PE := PE'
  have ZA := ZA'
  have G := G'
  clear PE' ZA' G'
  go_wp2_with fail
  refine (pen_num PE.out 8 (.inr (.inr (.inr rfl))) (by rw [HN.out]; omega)).mono ?_
  rintro e wx ⟨rfl, hp, hg⟩
  rw [show numOf false ((ys.drop 48).take 8) = fs from (congrArg Seg.fsize SE.out).symm]
  have PE' := Lib.hid (show Pen wx (w.heap.size + 1) hi a ys 56 false false from hp)
  have ZA' := Lib.hid (ZA.out.kept hg hneZ)
  have G' := Lib.hid (grown_new G.out hg (Nat.le_trans (Nat.le_succ _) PE.out.lw))
  clear hp hg
  clear PE ZA G
  have PE := PE'
  have ZA := ZA'
  have G := G'
  clear PE' ZA' G'
  go_upto_region 7 with fail
  have g7 := grown1 wx (.cells #[.string (strOfNums nm), .int .u64 ad, .int .u64 sz, .int .u64 of, .int .u64 fs, .int .i64 0, .slice none 0 0] 47)
  have PE' := Lib.hid (PE.out.same g7)
  have ZA' := Lib.hid (ZA.out.kept g7 (by simp))
  have G' := Lib.hid (grown_trans G.out g7)
  have SA := Lib.hid (show SegAt (wx.alloc (.cells #[.string (strOfNums nm), .int .u64 ad, .int .u64 sz, .int .u64 of, .int .u64 fs, .int .i64 0, .slice none 0 0] 47)) wx.heap.size ⟨nm, ad, sz, of, fs, 0, []⟩ (.slice none 0 0) from heap_alloc_new wx _)
  have hhg : hi ≤ wx.heap.size := PE.out.sz
  obtain ⟨wy, hwy⟩ : ∃ wy, wx.alloc (.cells #[.string (strOfNums nm), .int .u64 ad, .int .u64 sz, .int .u64 of, .int .u64 fs, .int .i64 0, .slice none 0 0] 47) = wy := ⟨_, rfl⟩
  obtain ⟨g, hg7⟩ : ∃ g, wx.heap.size = g := ⟨_, rfl⟩
  have hgs : wy.heap.size = g + 1 := by rw [← hwy, World.size_alloc, hg7]
  rw [hwy] at PE' ZA' G' SA ⊢
  rw [hg7] at SA hhg
  simp only [hg7]
  clear hwy hg7 g7
  clear PE ZA G
  have PE := PE'
  have ZA := ZA'
  have G := G'
  clear PE' ZA' G'
  have hneS : (some a : Option Nat) ≠ some g := by intro e; injection e with e; omega
  have hZS : w.heap.size < g := by omega
  go_wp2_with fail
  refine (pen_num PE.out 4 (.inr (.inr (.inl rfl))) (by rw [HN.out]; omega)).mono ?_
  rintro e wx ⟨rfl, hp, hg⟩
  have PE' := Lib.hid (show Pen wx (w.heap.size + 1) hi a ys 60 false false from hp)
  have ZA' := Lib.hid (ZA.out.kept hg hneZ)
  have G' := Lib.hid (grown_new G.out hg (Nat.le_trans (Nat.le_succ _) PE.out.lw))
  have SA' := Lib.hid (SA.out.kept hg hneS)
  clear hp hg
  clear PE ZA G SA
  have PE := PE'
  have ZA := ZA'
  have G := G'
  have SA := SA'
  clear PE' ZA' G' SA'
  go_wp2_with fail
  refine (pen_num PE.out 4 (.inr (.inr (.inl rfl))) (by rw [HN.out]; omega)).mono ?_
  rintro e wx ⟨rfl, hp, hg⟩
  rw [show numOf false ((ys.drop 60).take 4) = pr from (congrArg Seg.prot SE.out).symm]
  have PE' := Lib.hid (show Pen wx (w.heap.size + 1) hi a ys 64 false false from hp)
  have ZA' := Lib.hid (ZA.out.kept hg hneZ)
  have G' := Lib.hid (grown_new G.out hg (Nat.le_trans (Nat.le_succ _) PE.out.lw))
  have SA' := Lib.hid (SA.out.kept hg hneS)
  clear hp hg
  clear PE ZA G SA
  have PE := PE'
  have ZA := ZA'
  have G := G'
  have SA := SA'
  clear PE' ZA' G' SA'
  go_wp2_with fail
  refine (pen_num PE.out 4 (.inr (.inr (.inl rfl))) (by rw [HN.out]; omega)).mono ?_
  rintro e wx ⟨rfl, hp, hg⟩
  rw [show numOf false ((ys.drop 64).take 4) = M from MI.out]
  have PE' := Lib.hid (show Pen wx (w.heap.size + 1) hi a ys 68 false false from hp)
  have ZA' := Lib.hid (ZA.out.kept hg hneZ)
  have G' := Lib.hid (grown_new G.out hg (Nat.le_trans (Nat.le_succ _) PE.out.lw))
  have SA' := Lib.hid (SA.out.kept hg hneS)
  clear hp hg
  clear PE ZA G SA
  have PE := PE'
  have ZA := ZA'
  have G := G'
  have SA := SA'
  clear PE' ZA' G' SA'
  go_wp2_with fail
  refine (pen_num PE.out 4 (.inr (.inr (.inl rfl))) (by rw [HN.out]; omega)).mono ?_
  rintro e wx ⟨rfl, hp, hg⟩
  have PE' := Lib.hid (show Pen wx (w.heap.size + 1) hi a ys 72 false false from hp)
  have ZA' := Lib.hid (ZA.out.kept hg hneZ)
  have G' := Lib.hid (grown_new G.out hg (Nat.le_trans (Nat.le_succ _) PE.out.lw))
  have SA' := Lib.hid (SA.out.kept hg hneS)
  clear hp hg
  clear PE ZA G SA
  have PE := PE'
  have ZA := ZA'
  have G := G'
  have SA := SA'
  clear PE' ZA' G' SA'
  have e1 : ((n : Int) - 72).tdiv 80 = (((n - 72) / 80 : Nat) : Int) := by rw [Int.tdiv_eq_ediv_of_nonneg (by omega)]; omega
  obtain ⟨R, hR⟩ : ∃ R, R = (n - 72) / 80 := ⟨_, rfl⟩
  rw [← hR] at e1
  have hRb : (R : Int) ≤ 140737488355328 := by omega
  have e2 : ((R : Int) % 18446744073709551616) = R := by omega
  have e3 : IntKind.u64.wrap (R : Int) = R := by rw [IntKind.wrap_u64]; exact e2
  go_wp2_with fail
  have hL := pen_left PE.out
  rw [HN.out] at hL
  have LF := Lib.hid hL
  clear hL
  refine LF.out.mono ?_
  rintro e wz ⟨rfl, j, rfl⟩
  have gj := grown_drewN (grown_refl wx none) j
  have PE' := Lib.hid (PE.out.same gj)
  have ZA' := Lib.hid (ZA.out.kept gj (by simp))
  have G' := Lib.hid (grown_trans G.out gj)
  have SA' := Lib.hid (SA.out.kept gj (by simp))
  clear gj LF
  clear PE ZA G SA
  have PE := PE'
  have ZA := ZA'
  have G := G'
  have SA := SA'
  clear PE' ZA' G' SA'
  generalize wx.drewN j = wx at *
  by_cases hmany : R < M
  · have d1 : decide (R < M) = true := by simpa using hmany
    have HE := Lib.hid (HE0.out.trans (if_pos (by rw [HN.out, ← ME.out, ← hR]; exact hmany)))
    obtain ⟨d0, d1, d2, d3, d4, d5, d6⟩ := ZA.out.c
    have f0 := ZA.out.fz 0
    have f1 := ZA.out.fz 1
    have f2 := ZA.out.fz 2
    have f3 := ZA.out.fz 3
    have f4 := ZA.out.fz 4
    have f5 := ZA.out.fz 5
    have f6 := ZA.out.fz 6
    have hl := ZA.out.lt
    go_wp2
    have PA := ZA.out.put Seg.zero (.slice none 0 0)
    refine bodyPost_ret (results_seg rfl rfl rfl PA) rfl ?_
    exact SegOut.no HE.out (by decide) (grown_new G.out (grown_put7 (grown_refl _ _) _ _ _ _ _ _ _) (Nat.le_refl _))
  have d1 : decide (R < M) = false := by simpa using hmany
  have HE1 := Lib.hid (HE0.out.trans (if_neg (by rw [HN.out, ← ME.out, ← hR]; exact hmany)))
  by_cases hpr : 7 < pr
  · have d2 : decide (7 < pr) = true := by simpa using hpr
    have HE := Lib.hid (HE1.out.trans (if_pos (by rw [show numAt ys 60 4 = pr from (congrArg Seg.prot SE.out).symm]; exact hpr)))
    obtain ⟨d0, d1, d2, d3, d4, d5, d6⟩ := ZA.out.c
    have f0 := ZA.out.fz 0
    have f1 := ZA.out.fz 1
    have f2 := ZA.out.fz 2
    have f3 := ZA.out.fz 3
    have f4 := ZA.out.fz 4
    have f5 := ZA.out.fz 5
    have f6 := ZA.out.fz 6
    have hl := ZA.out.lt
    go_wp2
    have PA := ZA.out.put Seg.zero (.slice none 0 0)
    refine bodyPost_ret (results_seg rfl rfl rfl PA) rfl ?_
    exact SegOut.no HE.out (by decide) (grown_new G.out (grown_put7 (grown_refl _ _) _ _ _ _ _ _ _) (Nat.le_refl _))
  have d2 : decide (7 < pr) = false := by simpa using hpr
  have HE2 := Lib.hid (HE1.out.trans (if_neg (by rw [show numAt ys 60 4 = pr from (congrArg Seg.prot SE.out).symm]; exact hpr)))
  have hprw : IntKind.i64.wrap pr = pr := IntWalk.i64_in _ (by omega)
  have hsl := SA.out.lt
  have s5 := SA.out.c.2.2.2.2.2.1
  have t5 := SA.out.fz 5
  have gS := grown_setCell (i := 5) (grown_refl wx (some g)) (.int .i64 pr)
  have PE' := Lib.hid (PE.out.kept gS (.inr hhg))
  have ZA' := Lib.hid (ZA.out.kept gS (by intro e; injection e with e; omega))
  have G' := Lib.hid (grown_new G.out gS (by omega))
  have SA' := Lib.hid (SA.out.prot pr)
  clear gS HE0 HE1
  go_upto_region 16 with fail
  clear s5 t5 hsl
  clear PE ZA G SA
  have PE := PE'
  have ZA := ZA'
  have G := G'
  have SA := SA'
  clear PE' ZA' G' SA'
  obtain ⟨wq, hwq⟩ : ∃ wq, wx.setCell ⟨g, 5, none⟩ (.int .i64 pr) = wq := ⟨_, rfl⟩
  rw [hwq] at PE ZA G SA ⊢
  clear hwq
  have hRB := wq.heap.size
  obtain ⟨B, hB⟩ : ∃ B, B = wq.heap.size := ⟨_, rfl⟩
  have hgB : g < B := by rw [hB]; exact SA.out.lt
  have hiB : hi ≤ B := by rw [hB]; exact PE.out.sz
  have BW := Lib.hid hB
  have hRn : 72 + 80 * R ≤ n := by omega
  clear hRB hR hB
  go_wp2
  go_loopw [10, 57] (fun _ i wr => ∃ (k : Nat) (q' : Option Addr) (c' : Nat), k ≤ M ∧ i = .int .u64 k ∧ Pen wr (w.heap.size + 1) hi a ys (72 + 80 * k) false false ∧ SegAt wr g ⟨nm, ad, sz, of, fs, pr, []⟩ (.slice q' k c') ∧ SegAt wr w.heap.size Seg.zero (.slice none 0 0) ∧ wr.ownsRow B 76 6 (.slice q' k c') k ((secsN ys k).flatMap secCs) ∧ oddSec ys k = false ∧ w.grownBy wr none ∧ B ≤ wr.heap.size) (fun _ i _ => M - (intOf i).toNat)
  case atStart => exact ⟨0, none, 0, Nat.zero_le _, rfl, PE.out, SA.out, ZA.out, World.ownsRow_nil _ _ _ _, rfl, G.out, by rw [BW.out]; exact Nat.le_refl _⟩
  case round =>
    obtain ⟨k, q', c', hk, rfl, hp, hsa, hza, hown, hodd, hgr, hBs⟩ := hrel
    have PE' := Lib.hid hp
    have SA' := Lib.hid hsa
    have ZA' := Lib.hid hza
    have G' := Lib.hid hgr
    have OW := Lib.hid hown
    have OD := Lib.hid hodd
    clear hp hsa hza hgr hown hodd
    clear PE SA ZA G
    have PE := PE'
    have SA := SA'
    have ZA := ZA'
    have G := G'
    clear PE' SA' ZA' G'
    by_cases hlt : k < M
    · obtain ⟨⟨sn, ss, sa, sb, so, sk⟩, hX⟩ : ∃ s, s = secAt ys (72 + 80 * k) := ⟨_, rfl⟩
      have XE := Lib.hid hX
      have hss : ss = fieldAt ys (72 + 80 * k + 16) := congrArg Sec.seg hX
      have te := text_eq (xs := ss) (ys := nm) (by rw [hss]; exact small_field HR.out _) (by rw [show nm = fieldAt ys 8 from congrArg Seg.name SE.out]; exact small_field HR.out _)
      clear hX hss
      go_wp2_with fail
      refine (takeSection_any PE.out (by rw [HN.out]; omega)).mono ?_
      rintro e w2 ⟨rfl, hp, hg⟩
      rw [← XE.out]
      unfold secV
      have g3 := grown1 w2 (.cells #[.string (strOfNums sn), .string (strOfNums ss), .int .u64 sa, .int .u64 sb, .int .u64 so, .int .i64 sk] 76)
      have PE' := Lib.hid (show Pen (w2.alloc (.cells #[.string (strOfNums sn), .string (strOfNums ss), .int .u64 sa, .int .u64 sb, .int .u64 so, .int .i64 sk] 76)) (w.heap.size + 1) hi a ys (72 + 80 * (k + 1)) false false from (by have := hp.same g3; rwa [show 72 + 80 * k + 80 = 72 + 80 * (k + 1) by omega] at this))
      have SA' := Lib.hid ((SA.out.kept hg hneS).kept g3 (by simp))
      have ZA' := Lib.hid ((ZA.out.kept hg hneZ).kept g3 (by simp))
      have G' := Lib.hid (grown_trans (grown_new G.out hg (by omega)) g3)
      have OW' := Lib.hid (own_grown (OW.out.kept hg (.inr (fun e => by have := (OW.out.lt _ e).1; omega))) g3)
      have SX := Lib.hid (show SecAt (w2.alloc (.cells #[.string (strOfNums sn), .string (strOfNums ss), .int .u64 sa, .int .u64 sb, .int .u64 so, .int .i64 sk] 76)) w2.heap.size ⟨sn, ss, sa, sb, so, sk⟩ from heap_alloc_new w2 _)
      have hB2 : B ≤ (w2.alloc (.cells #[.string (strOfNums sn), .string (strOfNums ss), .int .u64 sa, .int .u64 sb, .int .u64 so, .int .i64 sk] 76)).heap.size := by have := hg.size; rw [World.size_alloc]; omega
      clear hp hg g3
      clear PE SA ZA G OW
      have PE := PE'
      have SA := SA'
      have ZA := ZA'
      have G := G'
      have OW := OW'
      clear PE' SA' ZA' G' OW'
      go_upto_region 19 with fail
      obtain ⟨w3, hw3⟩ : ∃ w3, w2.alloc (.cells #[.string (strOfNums sn), .string (strOfNums ss), .int .u64 sa, .int .u64 sb, .int .u64 so, .int .i64 sk] 76) = w3 := ⟨_, rfl⟩
      obtain ⟨x, hx⟩ : ∃ x, w2.heap.size = x := ⟨_, rfl⟩
      rw [hw3] at PE SA ZA G OW SX hB2 ⊢
      rw [hx] at SX
      simp only [hx]
      clear hw3 hx
      obtain ⟨c0, c1, c2, c3, c4, c5⟩ := SX.out.c
      obtain ⟨s0, s1, s2, s3, s4, s5, s6⟩ := SA.out.c
      simp only [] at c0 c1 c2 c3 c4 c5 s0 s1 s2 s3 s4 s5
      by_cases heq : ss = nm
      rotate_left
      · rw [decide_eq_false heq] at te
        have HE := Lib.hid (HE2.out.trans (if_pos (odd_at hlt (by rw [← ME.out]) (by rw [← XE.out, ← show nm = fieldAt ys 8 from congrArg Seg.name SE.out]; exact heq))))
        clear c2 c3 c4 c5 s1 s2 s3 s4 s5 s6
        obtain ⟨d0, d1, d2, d3, d4, d5, d6⟩ := ZA.out.c
        have f0 := ZA.out.fz 0
        have f1 := ZA.out.fz 1
        have f2 := ZA.out.fz 2
        have f3 := ZA.out.fz 3
        have f4 := ZA.out.fz 4
        have f5 := ZA.out.fz 5
        have f6 := ZA.out.fz 6
        have hl := ZA.out.lt
        go_wp2
        have PA := ZA.out.put Seg.zero (.slice none 0 0)
        refine bodyPost_ret (results_seg rfl rfl rfl PA) rfl ?_
        exact SegOut.no HE.out (by decide) (grown_new G.out (grown_put7 (grown_refl _ _) _ _ _ _ _ _ _) (Nat.le_refl _))
      rw [decide_eq_true heq] at te
      have HQ := Lib.hid heq
      clear heq
      have sf := SA.out.fz 6
      have sl' := SA.out.lt
      go_wp2_with (at_builtin; refine wp_append_st secType rfl _ _ rfl _ k _ rfl (own_grown OW.out (grown1 w3 (.cells #[.string (strOfNums sn), .string (strOfNums ss), .int .u64 sa, .int .u64 sb, .int .u64 so, .int .i64 sk] 76))) (secCs ⟨sn, ss, sa, sb, so, sk⟩) rfl w3.heap.size rfl (heap_alloc_new w3 _) (secCs_one _) (by omega) (by decide) ?_ ?_)
      · rw [World.size_alloc]; omega
      intro v' w4 ho hg4
      obtain ⟨q4, c4', rfl⟩ := own_slice ho
      have hlo := fun (g' : Nat) (e : (Value.slice q' k c').ownBlock = some g') => (OW.out.lt g' e).1
      have R4 := Lib.hid (show w4.ownsRow B 76 6 (.slice q4 (k + 1) c4') (k + 1) ((secsN ys (k + 1)).flatMap secCs) by
        rw [secsN_succ, List.flatMap_append, ← XE.out]
        exact ho)
      have g3 := grown1 w3 (.cells #[.string (strOfNums sn), .string (strOfNums ss), .int .u64 sa, .int .u64 sb, .int .u64 so, .int .i64 sk] 76)
      have PE' := Lib.hid ((PE.out.same g3).row hg4 (fun g' e => Nat.le_trans hiB (hlo g' e)))
      have SA' := Lib.hid ((SA.out.kept g3 (by simp)).kept hg4 (fun e => by have := hlo _ e; omega))
      have ZA' := Lib.hid ((ZA.out.kept g3 (by simp)).kept hg4 (fun e => by have := hlo _ e; omega))
      have G' := Lib.hid (grown_own (grown_trans G.out g3) hg4 hlo (by omega))
      have hB4 : B ≤ w4.heap.size := by have h1 := hg4.size; rw [World.size_alloc] at h1; omega
      clear g3 ho hg4 SX c0 c1 c2 c3 c4 c5 s0 s1 s2 s3 s4 s5 s6 sf sl' te
      clear PE SA ZA G
      have PE := PE'
      have SA := SA'
      have ZA := ZA'
      have G := G'
      clear PE' SA' ZA' G'
      have s6 := SA.out.c.2.2.2.2.2.2
      have sf := SA.out.fz 6
      have sl' := SA.out.lt
      go_wp2
      have gS := grown_setCell (i := 6) (grown_refl w4 (some g)) (.slice q4 (k + 1) c4')
      have hno : some w.heap.size ≠ some g := by intro e; injection e with e; omega
      refine ⟨⟨k + 1, q4, c4', hlt, by go_num, PE.out.kept gS (.inr hhg), SA.out.secs _, ZA.out.kept gS (fun e => hno e.symm), R4.out.kept gS (.inr (fun e => by have := (R4.out.lt _ e).1; omega)), odd_succ OD.out ?_, grown_new G.out gS (by omega), Nat.le_trans hB4 gS.size⟩, by simp [intOf]; omega⟩
      rw [← XE.out, ← show nm = fieldAt ys 8 from congrArg Seg.name SE.out]
      exact HQ.out
    · have hkm : k = M := by omega
      subst hkm
      have HE3 := Lib.hid (HE2.out.trans (if_neg (by rw [← ME.out, OD.out]; decide)))
      by_cases h64 : 64 < k
      · have d3 : decide (64 < k) = true := by simpa using h64
        have HE := Lib.hid (HE3.out.trans (if_pos (by rw [← ME.out]; exact h64)))
        obtain ⟨d0, d1, d2, d3, d4, d5, d6⟩ := ZA.out.c
        have f0 := ZA.out.fz 0
        have f1 := ZA.out.fz 1
        have f2 := ZA.out.fz 2
        have f3 := ZA.out.fz 3
        have f4 := ZA.out.fz 4
        have f5 := ZA.out.fz 5
        have f6 := ZA.out.fz 6
        have hl := ZA.out.lt
        go_wp2
        have PA := ZA.out.put Seg.zero (.slice none 0 0)
        refine bodyPost_ret (results_seg rfl rfl rfl PA) rfl ?_
        exact SegOut.no HE.out (by decide) (grown_new G.out (grown_put7 (grown_refl _ _) _ _ _ _ _ _ _) (Nat.le_refl _))
      have d3 : decide (64 < k) = false := by simpa using h64
      have HE := Lib.hid (HE3.out.trans (if_neg (by rw [← ME.out]; exact h64)))
      obtain ⟨s0, s1, s2, s3, s4, s5, s6⟩ := SA.out.c
      obtain ⟨d0, d1', d2', d3', d4, d5, d6⟩ := ZA.out.c
      have f0 := ZA.out.fz 0
      have f1 := ZA.out.fz 1
      have f2 := ZA.out.fz 2
      have f3 := ZA.out.fz 3
      have f4 := ZA.out.fz 4
      have f5 := ZA.out.fz 5
      have f6 := ZA.out.fz 6
      have hl := ZA.out.lt
      have hl2 := SA.out.lt
      simp only [] at s0 s1 s2 s3 s4 s5
      go_wp2
      have PA := ZA.out.put ⟨nm, ad, sz, of, fs, pr, []⟩ (.slice q' k c')
      have gP := grown_put7 (grown_refl wr (some w.heap.size)) (.string (strOfNums nm)) (.int .u64 ad) (.int .u64 sz) (.int .u64 of) (.int .u64 fs) (.int .i64 pr) (.slice q' k c')
      refine bodyPost_ret (results_seg rfl rfl rfl PA) rfl ?_
      refine ⟨fun h => absurd HE.out h, fun _ => ⟨q', k, c', B, ?_, ?_, ?_, by omega⟩, grown_new G.out gP (Nat.le_refl _)⟩
      · show k = (secsN ys (manyAt ys)).length
        rw [← ME.out]; unfold secsN; simp
      · rw [← SE.out]; rfl
      · show World.ownsRow _ _ _ _ _ _ ((secsN ys (manyAt ys)).flatMap secCs)
        rw [← ME.out]
        exact OW.out.kept gP (.inr (fun e => by have := (OW.out.lt _ e).1; omega))
end Go.Proofs.Ytemdbfgpimfkdaa
