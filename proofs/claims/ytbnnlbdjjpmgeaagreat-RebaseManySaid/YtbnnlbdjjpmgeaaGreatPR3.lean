/- Parts of the proof, put together: RbS, RbW, OwnS, RbT, ApR, Qld, RbR, RbU, RbV, RbX. No condition beyond those that each part names. -/
import Derived.Shelf.Small.Bits
import Derived.Shelf.Small.Strs
import Derived.Shelf.Strconv.Itoa0
import Derived.Shelf.Strings.Search1
import Derived.Shelf.Bytes.SlIndexAt
import Derived.Shelf.Bytes.SlSearch0
import Derived.Ground.SlbCloneProg
import Derived.Shelf.Bytes.SlClone
import Derived.Shelf.Bytes.IndexByte
import Derived.Test.YtbnnlbdjjpmgeaaGreatProg
import Derived.Test.YtbnnlbdjjpmgeaaGreatRows
import Derived.WalkKit
import Derived.WalkSpells
import Derived.WalkLawsBesides
import Derived.BigQuiet
import Derived.Deep.QuietTactic
import Derived.Lib.Hide
import Derived.IntWalk
import Derived.OneCell
import Derived.Laws.Rows
import Derived.Laws.BytesArg
import Derived.Shelf.Bytes.SlEqualAll
import Derived.Lib.SlFresh
import Derived.Maps.AppendAt
import Derived.OpenShut
import Derived.ProofKit
import Derived.Deep.AppendSrc
import Derived.Deep.Upon
import Derived.Lib.AppendZeros
import Derived.Laws.IdiomStrings
import Derived.Lib.AppendZerosOnto
import Derived.Laws.StructEq
import Derived.Below
import Derived.Shelf.Abstract
import Derived.Laws.ResultCell
import Derived.Deep.Slices
import Derived.ChangeSame
import Derived.Laws.OwnMore
import Derived.Stop.Asserts
import Derived.Laws.Externs
import Derived.Laws.Bits128
import Derived.Lib.SmallJoins
import Derived.Deep.Cut
import Derived.Deep.CutRange
import Derived.WalkArith
import Derived.Maps.Own
import Derived.Maps.OwnOps
import Derived.Maps.OwnSet
import Derived.Maps.Views
import Derived.RangeFuncRecord
import Derived.RangeFuncSeq
import Derived.RangeFuncCalls
import Derived.RangeFuncBound
import Derived.OwnWalkIn
import Derived.TacticsInMore
import Derived.Shelf.RegionOpen
import Derived.Deep.RegionHeld3
import Derived.BigRegion
import Derived.Deep.RegionLaw
import Derived.StillTailTactics
import Derived.RangeFuncNested
import Derived.RangeFuncIn
import Derived.RangeFuncLeaves
import Derived.RegionTactic
import Derived.Laws.Slices
import Derived.Lib.ConvBytes
import Derived.StringKeys
import Derived.WideShapes
import Derived.Lib.QuietBelow
import Derived.Laws.Tables
import Derived.BigFrame
import Derived.Lib.EndianBits
import Derived.ChangeAlike
import Derived.WalkMore
import Derived.Deep.LoopGhost
import Derived.PlainAid
import Derived.Lib.SlBytesRow
import Derived.Deep.Onto
import Derived.Laws.EntriesVeiled
import Derived.Shelf.SlSortCmp.WholeK
import Derived.Shelf.SlGeneric
import Derived.Ground.SlsfProg
import Derived.Sort.Walk0
import Derived.Laws.CopyOwn
import Derived.Test.YtbnnlbdjjpmgeaaGreatPR1
import Derived.Test.YtbnnlbdjjpmgeaaGreatPR2
namespace Go.Proofs.YtbnnlbdjjpmgeaaGreat
open Go.RowKit
variable {w w' W V : World} {h : Hx} {st : St} {slv sv dv ov : Value} {r : RbS} {g B : Nat}

def rsArr (slv : Value) (h : Hx) (s : St) (sv dv : Value) (r : RbS) (ov : Value) : Array Value := #[slv, .int .i64 h.kd, .int .i64 h.sb, .int .u32 h.fl, .string (strOfNums s.name), sv, dv, .int .u64 s.rb.1, .int .u64 s.rb.2, .int .u64 s.bd.1, .int .u64 s.bd.2, .int .u64 s.wk.1, .int .u64 s.wk.2, .int .u64 s.lz.1, .int .u64 s.lz.2, .int .u64 s.tr.1, .int .u64 s.tr.2, .int .u64 s.ch.1, .int .u64 s.ch.2, .int .u64 s.sy.1, .int .u64 s.sy.2, .int .u64 s.st.1, .int .u64 s.st.2, .int .u64 s.entry, .bool s.has, .int .u64 r.place, .bool r.has, .int .u64 r.kind, ov]
def RsAt (w : World) (g : Nat) (slv : Value) (h : Hx) (s : St) (sv dv : Value) (r : RbS) (ov : Value) : Prop := w.heap[g]? = some (.cells (rsArr slv h s sv dv r ov) 109 (0, 0))
section
variable (k : RsAt w g slv h st sv dv r ov)
include k
theorem RsAt.kept {q : Option Nat} (hg : w.grownBy w' q) (hr : q ≠ some g) : RsAt w' g slv h st sv dv r ov := (hg.block g (lt_of_block k) (fun e => hr e.symm)).trans k
theorem RsAt.c (i : Nat) (v : Value) (hv : (rsArr slv h st sv dv r ov)[i]? = some v) : w.cell? ⟨g, i, none⟩ = some v := by rw [cell_of k]; exact hv
theorem RsAt.fz (i : Nat) : w.frozen? ⟨g, i, none⟩ = false := free_of k
theorem RsAt.lt : g < w.heap.size := lt_of_block k
theorem RsAt.setPlace (n : Int) : RsAt (w.setCell ⟨g, 25, none⟩ (.int .u64 n)) g slv h st sv dv { r with place := n } ov := by unfold RsAt; rw [heap_setCell_same w g 25 _ _ _ k]; rfl
theorem RsAt.setHas (b : Bool) : RsAt (w.setCell ⟨g, 26, none⟩ (.bool b)) g slv h st sv dv { r with has := b } ov := by unfold RsAt; rw [heap_setCell_same w g 26 _ _ _ k]; rfl
theorem RsAt.setKind (n : Int) : RsAt (w.setCell ⟨g, 27, none⟩ (.int .u64 n)) g slv h st sv dv { r with kind := n } ov := by unfold RsAt; rw [heap_setCell_same w g 27 _ _ _ k]; rfl
theorem RsAt.setOut (u : Value) (l : List (Int × Int)) : RsAt (w.setCell ⟨g, 28, none⟩ u) g slv h st sv dv { r with out := l } u := by unfold RsAt; rw [heap_setCell_same w g 28 _ _ _ k]; rfl
end
theorem run_loadImg_at {g o : Nat} (hc : ∀ (j : Nat) (v : Value), (imgArr h st sv dv)[j]? = some v → w.cell? ⟨g, o + j, none⟩ = some v) : (loadVar 49 ⟨g, o, none⟩).run Tryz.prog w = .ok (imgV h st sv dv) w := by
  have hl : (loadCells ⟨g, o, none⟩ (imgArr h st sv dv).toList.length).run Tryz.prog w = .ok (imgArr h st sv dv).toList.toArray w :=
    run_loadCells_list (P := Tryz.prog) w ⟨g, o, none⟩ (imgArr h st sv dv).toList (fun j v hv => by
      rw [add_flat]
      exact hc j v (by simpa using hv))
  cases hq : Tryz.prog.info? 49 with
  | none => have := imgInfo; simp [hq] at this
  | some i =>
    have hs : i.size = 24 := by have := imgInfo; simpa [hq] using this
    have hagg : (isAgg 49).run Tryz.prog w = .ok true w := by
      unfold isAgg
      rw [Sem.run_bind, run_underlying Tryz.underlying49 w]
      rfl
    have hl' : (loadCells ⟨g, o, none⟩ 24).run Tryz.prog w = .ok (imgArr h st sv dv) w := hl
    simp [loadVar, Sem.run_bind, hagg, sizeOf, typeInfo, hq, hs, hl', imgV]
theorem RsAt.img (k : RsAt w g slv h st sv dv r ov) : (loadVar 49 ⟨g, 1, none⟩).run Tryz.prog w = .ok (imgV h st sv dv) w :=
  run_loadImg_at fun j v hv => by
    rw [Nat.add_comm]
    refine k.c (j + 1) v ?_
    have hj : j < 24 := by
      rcases Nat.lt_or_ge j 24 with h1 | h1
      · exact h1
      · rw [Array.getElem?_eq_none (by exact h1)] at hv; cases hv
    rw [← hv]
    match j, hj with
    | 0, _ => rfl
    | 1, _ => rfl
    | 2, _ => rfl
    | 3, _ => rfl
    | 4, _ => rfl
    | 5, _ => rfl
    | 6, _ => rfl
    | 7, _ => rfl
    | 8, _ => rfl
    | 9, _ => rfl
    | 10, _ => rfl
    | 11, _ => rfl
    | 12, _ => rfl
    | 13, _ => rfl
    | 14, _ => rfl
    | 15, _ => rfl
    | 16, _ => rfl
    | 17, _ => rfl
    | 18, _ => rfl
    | 19, _ => rfl
    | 20, _ => rfl
    | 21, _ => rfl
    | 22, _ => rfl
    | 23, _ => rfl
def rbFx (x : Int × Int) : Fx := ⟨x.1, 1, x.2, 0, ⟨#[]⟩, 0, false⟩
def rbCs (x : Int × Int) : List Value := fxCs (rbFx x)
abbrev ChB (B : Nat) (w w' : World) : Prop := Chg (fun k => B ≤ k) w w'
theorem ChB.of (hg : w.grownBy w' none) : ChB B w w' := Chg.of_grown hg (fun b e => by cases e)
theorem ChB.one {b : Nat} (hg : w.grownBy w' (some b)) (hb : B ≤ b) : ChB B w w' := Chg.of_grown hg (fun x e => by injection e with e; subst e; exact .inl hb)
theorem own_chg {F : Nat → Prop} {B n k : Nat} {T : TypeId} {v : Value} {xs : List Value} (h : w.ownsRow B T k v n xs) (hc : Chg F w w') (hn : ∀ b, v.ownBlock = some b → ¬ F b) : w'.ownsRow B T k v n xs := by
  obtain ⟨h1, h2 | ⟨g, cap, cur, e, hg, hb, r⟩⟩ := h
  · exact ⟨h1, .inl h2⟩
  · refine ⟨h1, .inr ⟨g, cap, cur, e, hg, (hc.block g (lt_of_block hb) (hn g (by rw [e]; rfl))).trans hb, r⟩⟩
theorem Pen.chb {lo hi a : Nat} {xs : List Int} {p : Nat} {big bad : Bool} (h : Pen w lo hi a xs p big bad) (hc : ChB B w w') (hB : hi ≤ B) : Pen w' lo hi a xs p big bad := by
  obtain ⟨⟨base, q, c, hcu, hl, ho⟩, h1, h2, h3⟩ := h
  refine ⟨⟨base, q, c, ⟨(hc.block a (Nat.lt_of_lt_of_le h2 h3) (by omega)).trans hcu.blk, own_chg hcu.own hc (fun b e => by have := ho b e; omega), hcu.le, hcu.ne, hcu.big, hcu.bytes⟩, hl, ho⟩, h1, h2, Nat.le_trans h3 hc.size⟩
structure RsS (w0 : World) (B g : Nat) (slv : Value) (h : Hx) (st : St) (sv dv : Value) (r : RbS) (w : World) : Prop where
  old : w0.grownBy w none
  base : w0.heap.size ≤ B
  at_ : ∃ ov, RsAt w g slv h st sv dv r ov ∧ w.ownsRow B 60 7 ov r.out.length (r.out.flatMap rbCs)
  gB : B ≤ g
  place : U64 r.place
  few : r.out.length ≤ 20000
theorem RsS.lt {w0 : World} (k : RsS w0 B g slv h st sv dv r w) : g < w.heap.size := by obtain ⟨ov, a, _⟩ := k.at_; exact a.lt
theorem RsS.bw {w0 : World} (k : RsS w0 B g slv h st sv dv r w) : B ≤ w.heap.size := by have := k.lt; have := k.gB; omega
theorem RsS.grown {w0 : World} (k : RsS w0 B g slv h st sv dv r w) (hg : w.grownBy w' none) : RsS w0 B g slv h st sv dv r w' := by
  obtain ⟨ov, a, o⟩ := k.at_
  exact ⟨grown_trans k.old hg, k.base, ⟨ov, a.kept hg (by simp), o.kept hg (by cases ov.ownBlock <;> simp)⟩, k.gB, k.place, k.few⟩
theorem RsS.pen {w0 : World} {a : Nat} (k : RsS w0 B g slv h st sv dv r w) (hg : w.grownBy w' (some a)) (ha : a < B) (ha0 : w0.heap.size ≤ a) : RsS w0 B g slv h st sv dv r w' := by
  obtain ⟨ov, at_, o⟩ := k.at_
  have := k.gB
  exact ⟨grown_new k.old hg ha0, k.base, ⟨ov, at_.kept hg (by intro e; injection e with e; omega), o.kept hg (by
    cases e : ov.ownBlock with
    | none => exact .inl rfl
    | some b => exact .inr (fun e2 => by injection e2 with e2; have := (o.lt b e).1; omega))⟩, k.gB, k.place, k.few⟩
end Go.Proofs.YtbnnlbdjjpmgeaaGreat


namespace Go.Proofs.YtbnnlbdjjpmgeaaGreat
open Go.RowKit
variable {w w' W : World} {h : Hx} {s : St} {dv : Value} {l : List Sg} {qs : Option Addr} {cs : Nat}

def WdV (E : List Seg) (xs : List Int) (a : Int) : Value := match withinO E a 8 with
  | some g => .tuple #[.int .u64 (wdN xs g a), .int .i64 0]
  | none => .tuple #[.int .u64 0, .int .i64 4]
theorem file_cut {V : Option Addr} {cc : Nat} {ys : List Int} (hb : IsBytes w V cc ys) (hc : ys.length ≤ cc) {p : Nat} (hp : p ≤ ys.length) :
    ∃ U, (∀ X, (Instr.slice 29 (.slice V ys.length cc) (some (.int .u64 (p : Int))) none none).run Tryz.prog X = .ok (.slice U (ys.length - p) (cc - p)) X) ∧ IsBytes w U (cc - p) (ys.drop p) := by
  by_cases h0 : 0 < ys.length
  · obtain ⟨b, o, rfl, hx⟩ := hb.2 h0
    obtain ⟨U, h1, h2, -⟩ := cut_bytes hx hc hp .u64
    exact ⟨U, h1, h2⟩
  · have hy : ys = [] := List.eq_nil_of_length_eq_zero (by omega)
    subst hy
    have hp0 : p = 0 := by simpa using hp
    subst hp0
    refine ⟨V, fun X => ?_, hb⟩
    rw [run_slice_l (P := Tryz.prog) X 29 V ([] : List Int).length cc (by kernel_rfl) .u64 _ (by omega) (by simp)]
    have hs : ((sizeOf (Tryz.prog.elem 29)).run Tryz.prog X) = .ok 1 X := by kernel_rfl
    rw [hs]
    simp only [Result.andThen, sliced]
    cases V with
    | none => simp [hb.1 rfl]
    | some ad =>
      simp only [Nat.sub_zero, List.length_nil, Option.map_some]
      split
      · rfl
      · congr 3
def u8L (l : List Int) : List Value := l.map (Value.int .u8)
theorem eight_len (xs : List Int) (sg : Seg) (a : Int) : (eightB xs sg a).length = 8 := by
  unfold eightB
  simp only [List.length_append, List.length_replicate, List.length_take, List.length_drop]
  omega
theorem eight_splice (xs : List Int) (sg : Seg) (a : Int) (p : Nat) (hp : p = min (a - sg.addr).toNat (fileB xs sg).length) :
    splice (u8L [0, 0, 0, 0, 0, 0, 0, 0]) 0 (u8L (((fileB xs sg).drop p).take 8)) = u8L (eightB xs sg a) := by
  unfold splice eightB
  rw [hp]
  obtain ⟨L, hL⟩ : ∃ L, L = ((fileB xs sg).drop (min (a - sg.addr).toNat (fileB xs sg).length)).take 8 := ⟨_, rfl⟩
  rw [← hL]
  have hl : L.length ≤ 8 := by rw [hL, List.length_take]; omega
  simp only [u8L, List.map_append, List.length_map, Nat.zero_add, List.take_zero, List.nil_append]
  congr 1
  rw [show ([0, 0, 0, 0, 0, 0, 0, 0] : List Int) = List.replicate 8 0 from rfl, ← List.map_drop, List.drop_replicate]
theorem eight_byt {xs : List Int} (hx : ∀ x ∈ xs, 0 ≤ x ∧ x < 256) (sg : Seg) (a : Int) : ∀ x ∈ eightB xs sg a, 0 ≤ x ∧ x < 256 := by
  intro x hm
  unfold eightB at hm
  rcases List.mem_append.1 hm with h | h
  · exact partN_small hx _ _ x (List.mem_of_mem_drop (List.mem_of_mem_take h))
  · rw [List.eq_of_mem_replicate h]; decide
set_option maxRecDepth 20000 in
set_option maxHeartbeats 1600000 in
theorem Word6_any (k : ImgRows w s l qs cs) (hf : SegsFit s) {q : Option Addr} {c n : Nat} {xs : List Int} (hb : IsBytes w q c xs) (hx : xs.length = n) (hc : n ≤ c) (hcm : c ≤ 9223372036854775807) (hsm : Small xs) (h47 : n ≤ 140737488355328) (a : Int) (ha : U64 a) :
    Calls Tryz.prog 189 #[.slice q n c, imgV h s (.slice qs l.length cs) dv, .int .u64 a] w fun e w' => e = .returned (WdV s.segs xs a) ∧ w.grownBy w' none := by
  have g0 := grown1 w (.cells (imgArr h s (.slice qs l.length cs) dv) 49)
  have a0 : ImgAt (w.alloc (.cells (imgArr h s (.slice qs l.length cs) dv) 49)) w.heap.size h s (.slice qs l.length cs) dv := heap_alloc_new w _
  obtain ⟨W, hW⟩ : ∃ W, w.alloc (.cells (imgArr h s (.slice qs l.length cs) dv) 49) = W := ⟨_, rfl⟩
  obtain ⟨b, hbb⟩ : ∃ b, w.heap.size = b := ⟨_, rfl⟩
  rw [hW] at g0 a0
  rw [hbb] at a0
  have ld := run_loadI a0
  have G := Lib.hid g0
  have WI := Lib.hid (within6_any (w := W) (h := h) (dv := dv) (k.grown g0) hf a 8 ha ⟨by decide, by decide⟩)
  have FT := Lib.hid (fun (x : Sg) (hx : x ∈ l) => (k.fit hf hx).1)
  have IB := Lib.hid (fun (V : World) (hV : w.grownBy V none) => (show IsBytes V q c xs from hb.kept hV (by simp)))
  have HX := Lib.hid hx
  have SM := Lib.hid hsm
  have HC := Lib.hid (And.intro hc (And.intro hcm h47))
  have gl := lt_of_block a0
  have HA := Lib.hid ha
  obtain ⟨E, hE⟩ : ∃ E, E = s.segs := ⟨_, rfl⟩
  rw [← hE] at WI ⊢
  clear k g0 a0 ha hf hE hb hx hc hcm hsm h47
  generalize l.length = N at *
  unfold imgV imgArr at *
  go_enter Tryz.func189, Tryz.ntmps189
  go_upto_region 1 with fail
  clear hW hbb
  go_wp2_with (first | refine wpList_load_run rfl _ rfl rfl ld ?_ | fail)
  refine WI.out.mono ?_
  rintro e w3 ⟨hx, hg3⟩
  have G3 := Lib.hid (grown_trans G.out hg3)
  clear hg3 WI gl ld
  rcases hx with ⟨hn, rfl⟩ | ⟨x, hm, ho, rfl⟩
  · have E1 := Lib.hid (show WdV E xs a = .tuple #[.int .u64 0, .int .i64 4] by unfold WdV; rw [hn])
    have g4 := grown1 w3 (.cells #[.string ⟨#[]⟩, .int .u64 0, .int .u64 0, .int .u64 0, .int .u64 0, .int .i64 0, .slice none 0 0] 64)
    have G4 := Lib.hid (grown_trans G3.out g4)
    clear hn g4
    unfold segV segArr Seg.zero
    simp only []
    go_wp2
    go_ret2
    exact ⟨by rw [E1.out]; rfl, G4.out⟩
  · have E1 := Lib.hid (show WdV E xs a = .tuple #[.int .u64 (wdN xs x.seg a), .int .i64 0] by unfold WdV; rw [ho])
    have hfx := FT.out x hm
    have hin : x.seg.addr ≤ a := by
      unfold withinO at ho
      split at ho
      · split at ho
        · rename_i h1
          injection ho with ho
          subst ho
          unfold hasN at h1
          simp only [Bool.and_eq_true, decide_eq_true_eq] at h1
          exact h1.1.1.2
        · cases ho
      · cases ho
    obtain ⟨sg, hsg⟩ : ∃ sg, sg = x.seg := ⟨_, rfl⟩
    rw [← hsg] at E1
    have HSG := Lib.hid hsg
    obtain ⟨⟨nm, ad, sz, of, fs, pr, sl⟩, q1, k1⟩ := x
    simp only [] at hsg hin
    obtain ⟨f1, f2, f3, f4, f5⟩ := hfx
    simp only [] at f1 f2 f3 f4
    unfold U64 at f1 f3 f4
    have ha := HA.out
    unfold U64 at ha
    obtain ⟨O, rfl⟩ : ∃ n : Nat, of = (n : Int) := ⟨of.toNat, by omega⟩
    obtain ⟨F, rfl⟩ : ∃ n : Nat, fs = (n : Int) := ⟨fs.toNat, by omega⟩
    have g4 := grown1 w3 (.cells #[.string (strOfNums nm), .int .u64 ad, .int .u64 sz, .int .u64 (O : Int), .int .u64 (F : Int), .int .i64 pr, .slice q1 sl.length k1] 64)
    have s4 : SegAt (w3.alloc (.cells #[.string (strOfNums nm), .int .u64 ad, .int .u64 sz, .int .u64 (O : Int), .int .u64 (F : Int), .int .i64 pr, .slice q1 sl.length k1] 64)) w3.heap.size ⟨nm, ad, sz, O, F, pr, sl⟩ (.slice q1 sl.length k1) := heap_alloc_new w3 _
    obtain ⟨W4, hW4⟩ : ∃ W, w3.alloc (.cells #[.string (strOfNums nm), .int .u64 ad, .int .u64 sz, .int .u64 (O : Int), .int .u64 (F : Int), .int .i64 pr, .slice q1 sl.length k1] 64) = W := ⟨_, rfl⟩
    obtain ⟨b4, hb4⟩ : ∃ b, w3.heap.size = b := ⟨_, rfl⟩
    rw [hW4] at g4 s4
    rw [hb4] at s4
    obtain ⟨x0, x1, x2, x3, x4, x5, x6⟩ := s4.c
    have sl4 := s4.lt
    have S4 := Lib.hid s4
    have G4 := Lib.hid (grown_trans G3.out g4)
    have CU := Lib.hid (by
      have := cut_any (w := W4) (ys := xs) (c := c) (IB.out W4 G4.out) (by rw [HX.out]; exact HC.out.1) HC.out.2.1 O F (by omega) (by omega)
      rw [HX.out] at this
      exact this)
    obtain ⟨ys, hys⟩ : ∃ ys, ys = partN xs O F := ⟨_, rfl⟩
    rw [← hys] at CU
    have HYS := Lib.hid (show fileB xs sg = ys by rw [hsg, hys]; rfl)
    have HLY := Lib.hid (show ys.length ≤ n by rw [hys, ← HX.out]; exact partN_len xs O F)
    have HAD := Lib.hid (show sg.addr = ad by rw [hsg])
    simp only [Sg.v] at x0 x1 x2 x3 x4 x5 x6 ⊢
    unfold segV segArr
    simp only []
    clear ho hm g4 s4 hys hsg f2 f5
    go_upto_region 4 with fail
    clear hW4 hb4
    go_wp2_with fail
    refine CU.out.mono ?_
    rintro e w5 ⟨V, cc, rfl, hV, hl, hcc, hg5⟩
    have G5 := Lib.hid (grown_trans G4.out hg5)
    have hly := HLY.out
    obtain ⟨x0, x1, x2, x3, x4, x5, x6⟩ := (S4.out.kept hg5 (by simp)).c
    have sl5 := (S4.out.kept hg5 (by simp)).lt
    have h47 := HC.out.2.2
    obtain ⟨p, hp⟩ : ∃ p : Nat, p = min (a - ad).toNat ys.length := ⟨_, rfl⟩
    obtain ⟨U, hU, hUB⟩ := file_cut hV hl (p := p) (by omega)
    have EP := Lib.hid (show p = min (a - sg.addr).toNat (fileB xs sg).length by rw [HYS.out, HAD.out]; exact hp)
    obtain ⟨nf, hnf⟩ : ∃ k, k = ys.length := ⟨_, rfl⟩
    rw [← hnf] at hp hU hly hl ⊢
    have m1 : IntKind.u64.wrap (a - ad) = a - ad := by rw [IntKind.wrap_u64]; omega
    have m2 : (a - ad) % 18446744073709551616 = a - ad := by omega
    have m3 : IntKind.u64.wrap (nf : Int) = nf := by rw [IntKind.wrap_u64]; omega
    have m4 : min (a - ad) (nf : Int) = (p : Int) := by omega
    have HP := Lib.hid hp
    have HNF := Lib.hid hnf
    have UB := Lib.hid hUB
    have PL := Lib.hid (show p ≤ nf by omega)
    clear hg5 CU HLY hV hp hUB hnf S4
    go_upto_region 6 with fail
    have g6 := grown1 w5 (.cells #[.int .u8 0, .int .u8 0, .int .u8 0, .int .u8 0, .int .u8 0, .int .u8 0, .int .u8 0, .int .u8 0] 284)
    have z6 : (w5.alloc (.cells #[.int .u8 0, .int .u8 0, .int .u8 0, .int .u8 0, .int .u8 0, .int .u8 0, .int .u8 0, .int .u8 0] 284)).heap[w5.heap.size]? = some (.cells (u8L [0, 0, 0, 0, 0, 0, 0, 0]).toArray 284 (0, 0)) := heap_alloc_new w5 _
    obtain ⟨W6, hW6⟩ : ∃ W, w5.alloc (.cells #[.int .u8 0, .int .u8 0, .int .u8 0, .int .u8 0, .int .u8 0, .int .u8 0, .int .u8 0, .int .u8 0] 284) = W := ⟨_, rfl⟩
    obtain ⟨g, hgg⟩ : ∃ b, w5.heap.size = b := ⟨_, rfl⟩
    rw [hW6] at g6 z6
    rw [hgg] at z6
    have Z6 := Lib.hid z6
    have B6 := Lib.hid (show Below g w5 W6 from below_grown g6 (by omega) (fun k e => by cases e))
    have G56 := Lib.hid g6
    have HGG := Lib.hid hgg
    clear z6 x0 x1 x2 x3 x4 x5 x6 m1 m2 m3 m4 sl5 g6
    go_upto_region 7 with fail
    clear hW6 hgg
    have hsl : ∀ X, (Instr.sliceAt 284 (.pointer (some ⟨g, 0, none⟩)) none none none).run Tryz.prog X = .ok (.slice (some ⟨g, 0, none⟩) 8 8) X := fun X => by kernel_rfl
    obtain ⟨cl, hcl⟩ : ∃ cl, cl = u8L (((fileB xs sg).drop p).take 8) := ⟨_, rfl⟩
    have HCL := Lib.hid (show splice (u8L [0, 0, 0, 0, 0, 0, 0, 0]) 0 cl = u8L (eightB xs sg a) by rw [hcl]; exact eight_splice xs sg a p EP.out)
    have HLN := Lib.hid (show cl.length = Nat.min (nf - p) 8 by
      rw [hcl, HYS.out]
      simp only [u8L, List.length_map, List.length_take, List.length_drop, ← HNF.out]
      exact Nat.min_comm _ _)
    have HPS := Lib.hid (show 0 < cl.length → (some ⟨g, 0, none⟩ : Option Addr) = some ⟨g, 0, none⟩ ∧ ∃ ad, U = some ad ∧ ∀ j v, cl[j]? = some v → W6.drew.cell? (ad.add j) = some v from fun h0 => by
      have hlen : 0 < (ys.drop p).length := by
        rw [hcl, HYS.out] at h0
        simp only [u8L, List.length_map, List.length_take] at h0
        omega
      obtain ⟨bu, ou, rfl, hcu⟩ := UB.out.2 hlen
      refine ⟨rfl, _, rfl, fun j v hv => ?_⟩
      rw [hcl, HYS.out] at hv
      unfold u8L at hv
      rw [List.getElem?_map] at hv
      obtain ⟨z, hz, rfl⟩ := Option.map_eq_some_iff.1 hv
      obtain ⟨hj, hz⟩ := List.getElem?_eq_some_iff.1 hz
      rw [List.length_take] at hj
      rw [List.getElem_take] at hz
      rw [add_flat]
      have h1 := grown_cell G56.out (hcu j (by omega))
      show W6.cell? _ = _
      rw [h1]
      congr 2
      rw [List.getD_eq_getElem?_getD, List.getElem?_eq_getElem (by omega), Option.getD_some]
      exact hz)
    have HON := Lib.hid (show ∀ v ∈ cl, v.oneCell' = true from fun v hv => by
      rw [hcl] at hv
      obtain ⟨z, _, rfl⟩ := List.mem_map.1 hv
      rfl)
    clear hcl
    go_region_law (refine step_copy_splice (by with_reducible rfl) _ _ 29 29 (by with_reducible rfl) 5 Tryz.underlying29 (by kernel_rfl) (some ⟨g, 0, none⟩) U 8 8 (nf - p) (cc - p) (by rfl) (by rfl) g 0 (u8L [0, 0, 0, 0, 0, 0, 0, 0]) 284 Z6.out cl HLN.out HPS.out (by have := HLN.out; rw [this]; exact Nat.le_trans (Nat.le_of_eq (Nat.zero_add _)) (Nat.min_le_right _ _)) HON.out g W6 ⟨rfl, rfl, rfl, Nat.le_refl _, fun _ _ => rfl⟩ (Nat.le_refl _) ?_; intro w7 hg7 hb7)
    all_goals
      have hz7 := hg7.out
      rw [HCL.out] at hz7
      have G7 := Lib.hid (show w5.grownBy w7 none from grown_below (by have := HGG.out; exact this ▸ B6.out.trans hb7) none)
      have IB7 := Lib.hid (show IsBytes w7 (some ⟨g, 0, none⟩) 8 (eightB xs sg a) from IsBytes.mk_at fun i hi => by
        rw [cell_of hz7, Nat.zero_add]
        simp [u8L, List.getD, hi])
      have PN := Lib.hid (pen_new (w := w7) IB7.out (eight_len xs sg a) (by decide) (eight_byt SM.out sg a) false)
      clear hg7 hb7 hz7 hU hsl HCL HLN HPS HON
      have hsl : ∀ X, (Instr.sliceAt 284 (.pointer (some ⟨g, 0, none⟩)) none none none).run Tryz.prog X = .ok (.slice (some ⟨g, 0, none⟩) 8 8) X := fun X => by kernel_rfl
      go_wp2_with fail
      refine PN.out.mono ?_
      rintro e w8 ⟨ac, rfl, hpen, hb8⟩
      have G8 := Lib.hid (grown_trans G7.out (grown_below hb8 none))
      have NU := Lib.hid (pen_num hpen 8 (by decide) (by rw [eight_len]; decide))
      have AC := Lib.hid hpen.lw
      clear hpen hb8 PN
      go_wp2_with fail
      refine NU.out.mono ?_
      rintro e w9 ⟨rfl, -, hg9⟩
      have e9 : numOf false (((eightB xs sg a).drop 0).take 8) = wdN xs sg a := by
        rw [List.drop_zero, List.take_of_length_le (by rw [eight_len]; decide)]
        rfl
      rw [e9]
      have G59 := grown_trans G5.out G8.out
      have G9 := Lib.hid (grown_new G59 hg9 (by have := AC.out; have := G7.out.size; have := G5.out.size; omega))
      clear hg9 G59 e9 NU
      obtain ⟨wd, hwd⟩ : ∃ x, x = wdN xs sg a := ⟨_, rfl⟩
      rw [← hwd] at E1 ⊢
      clear hwd
      go_wp2
      go_ret2
      exact ⟨by rw [E1.out]; rfl, G9.out⟩
end Go.Proofs.YtbnnlbdjjpmgeaaGreat


namespace Go.Proofs.YtbnnlbdjjpmgeaaGreat
open Go.RowKit
variable {w w' W V : World}

theorem own_set {B n k c g i : Nat} {T : TypeId} {xs : List Value} (h : W.ownsRow B T k (.slice (some ⟨g, 0, none⟩) n c) n xs) (u : Value) : (W.setCell ⟨g, i, none⟩ u).ownsRow B T k (.slice (some ⟨g, 0, none⟩) n c) n (xs.set i u) := by
  obtain ⟨h1, ⟨e, _⟩ | ⟨g', cap, cur, e, hb, hg, hn, hc, hs, ht⟩⟩ := h
  · cases e
  · injection e with e _ ec
    injection e with e
    injection e with e _ _
    subst e ec
    refine ⟨by rw [List.length_set]; exact h1, .inr ⟨g, c, cur.setIfInBounds i u, rfl, hb, heap_setCell_same W g i _ _ _ hg, hn, hc, by rw [Array.size_setIfInBounds]; exact hs, ?_⟩⟩
    rw [Array.toList_setIfInBounds, List.take_set, ht]
theorem own_shrink {B n m k c : Nat} {q : Option Addr} {T : TypeId} {xs : List Value} (h : W.ownsRow B T k (.slice q n c) n xs) (hm : m ≤ n) : W.ownsRow B T k (.slice q m c) m (xs.take (m * k)) := by
  have hk : m * k ≤ n * k := Nat.mul_le_mul_right k hm
  obtain ⟨h1, ⟨e, e0⟩ | ⟨g', cap, cur, e, hb, hg, hn, hc, hs, ht⟩⟩ := h
  · injection e with e2 e3 e4
    have hm0 : m = 0 := by omega
    subst e2 e4 hm0
    exact ⟨by rw [List.length_take]; omega, .inl ⟨rfl, rfl⟩⟩
  · injection e with e e2 ec
    subst e ec
    refine ⟨by rw [List.length_take]; omega, .inr ⟨g', c, cur, rfl, hb, hg, by omega, hc, hs, ?_⟩⟩
    rw [← ht, List.take_take, Nat.min_eq_left hk]
end Go.Proofs.YtbnnlbdjjpmgeaaGreat


namespace Go.Proofs.YtbnnlbdjjpmgeaaGreat
open Go.RowKit
variable {w w' W V w0 : World} {h : Hx} {st : St} {slv sv dv ov : Value} {r : RbS} {g B : Nat}

theorem rs_ne {n : Nat} {xs : List Value} (k : RsAt w g slv h st sv dv r ov) (o : w.ownsRow B 60 7 ov n xs) : ov.ownBlock ≠ some g := fun e => by
  obtain ⟨-, h2 | ⟨g', cap, cur, e', -, hb, -⟩⟩ := o
  · rw [h2.1] at e; cases e
  · rw [e'] at e
    injection e with e
    subst e
    unfold RsAt at k
    rw [k] at hb
    injection hb with hb
    injection hb with _ hb _
    exact absurd hb (by decide)
theorem rs_own {n : Nat} {xs : List Value} {i : Nat} {u : Value} (k : RsAt w g slv h st sv dv r ov) (o : w.ownsRow B 60 7 ov n xs) : (w.setCell ⟨g, i, none⟩ u).ownsRow B 60 7 ov n xs :=
  o.kept (grown_setCell (i := i) (grown_refl w (some g)) u) (.inr (rs_ne k o))
theorem RsS.setPlace (k : RsS w0 B g slv h st sv dv r w) {n : Int} (hn : U64 n) : RsS w0 B g slv h st sv dv { r with place := n } (w.setCell ⟨g, 25, none⟩ (.int .u64 n)) := by
  obtain ⟨ov, a, o⟩ := k.at_
  exact ⟨grown_new k.old (grown_setCell (i := 25) (grown_refl w (some g)) _) (by have := k.base; have := k.gB; omega), k.base, ⟨ov, a.setPlace n, rs_own a o⟩, k.gB, hn, k.few⟩
theorem RsS.setHas (k : RsS w0 B g slv h st sv dv r w) (b : Bool) : RsS w0 B g slv h st sv dv { r with has := b } (w.setCell ⟨g, 26, none⟩ (.bool b)) := by
  obtain ⟨ov, a, o⟩ := k.at_
  exact ⟨grown_new k.old (grown_setCell (i := 26) (grown_refl w (some g)) _) (by have := k.base; have := k.gB; omega), k.base, ⟨ov, a.setHas b, rs_own a o⟩, k.gB, k.place, k.few⟩
theorem RsS.setKind (k : RsS w0 B g slv h st sv dv r w) (n : Int) : RsS w0 B g slv h st sv dv { r with kind := n } (w.setCell ⟨g, 27, none⟩ (.int .u64 n)) := by
  obtain ⟨ov, a, o⟩ := k.at_
  exact ⟨grown_new k.old (grown_setCell (i := 27) (grown_refl w (some g)) _) (by have := k.base; have := k.gB; omega), k.base, ⟨ov, a.setKind n, rs_own a o⟩, k.gB, k.place, k.few⟩
theorem chb_set (k : RsS w0 B g slv h st sv dv r w) {i : Nat} {u : Value} : ChB B w (w.setCell ⟨g, i, none⟩ u) := ChB.one (grown_setCell (i := i) (grown_refl w (some g)) u) k.gB
structure StpO (w0 : World) (B g : Nat) (slv : Value) (h : Hx) (st : St) (sv dv : Value) (p : Int × RbS) (w w' : World) (e : Ending) : Prop where
  ret : e = .returned (.int .i64 p.1)
  st : RsS w0 B g slv h st sv dv p.2 w'
  chg : ChB B w w'
set_option maxRecDepth 20000 in
theorem further_any (k : RsS w0 B g slv h st sv dv r w) (n : Int) (hn : U64 n) :
    Calls Tryz.prog 98 #[.pointer (some ⟨g, 0, none⟩), .int .u64 n] w fun e w' => StpO w0 B g slv h st sv dv (furS r n) w w' e := by
  obtain ⟨ov, at_, ow⟩ := k.at_
  have c25 := at_.c 25 (.int .u64 r.place) rfl
  have gl := at_.lt
  have f25 := at_.fz 25
  have hp := k.place
  have K := Lib.hid k
  unfold furS
  by_cases hc : r.place + n < 18446744073709551616
  · have AD := Lib.hid (fun V => addi_yes r.place n hp hn hc V)
    rw [if_pos hc]
    have FN := Lib.hid (show RsS w0 B g slv h st sv dv { r with place := r.place + n } (w.setCell ⟨g, 25, none⟩ (.int .u64 (r.place + n))) from K.out.setPlace ⟨by have := hp.1; have := hn.1; omega, hc⟩)
    obtain ⟨P, hP⟩ : ∃ P, P = r.place + n := ⟨_, rfl⟩
    rw [← hP] at AD FN
    have HP := Lib.hid hP
    obtain ⟨p0, hp0⟩ : ∃ p0, p0 = r.place := ⟨_, rfl⟩
    rw [← hp0] at c25 AD
    clear hP hc hn hp at_ ow k hp0
    go_enter Tryz.func98, Tryz.ntmps98
    go_wp2_with fail
    refine (AD.out _).mono ?_
    rintro e w2 ⟨rfl, hw⟩
    have hw2 := hw
    subst hw2
    clear hw
    go_wp2
    go_ret
    exact ⟨rfl, by rw [← HP.out]; exact FN.out, chb_set K.out⟩
  · have AD := Lib.hid (fun V => addi_no r.place n hp hn hc V)
    rw [if_neg hc]
    obtain ⟨p0, hp0⟩ : ∃ p0, p0 = r.place := ⟨_, rfl⟩
    rw [← hp0] at c25 AD
    clear hc hn hp at_ ow k hp0
    go_enter Tryz.func98, Tryz.ntmps98
    go_wp2_with fail
    refine (AD.out _).mono ?_
    rintro e w2 ⟨rfl, hw⟩
    have hw2 := hw
    subst hw2
    clear hw
    go_wp2
    go_ret
    exact ⟨rfl, K.out, Chg.refl _ _⟩
variable {l : List Sg} {qs : Option Addr} {cs : Nat}
theorem rs_place {E : List Seg} (k o : Int) : U64 (placeN E k o).1 := by
  unfold placeN
  split
  · rename_i x hx
    split
    · split
      · exact ⟨Int.emod_nonneg _ (by decide), Int.emod_lt_of_pos _ (by decide)⟩
      · exact ⟨by decide, by decide⟩
    · exact ⟨by decide, by decide⟩
  · exact ⟨by decide, by decide⟩
set_option maxRecDepth 20000 in
theorem goTo_any (k : RsS w0 B g slv h st (.slice qs l.length cs) dv r w) (im : ImgRows w0 st l qs cs) (i o : Int) (hi : U64 i) (hn : l.length < 1000000) :
    Calls Tryz.prog 97 #[.pointer (some ⟨g, 0, none⟩), .int .u64 i, .int .u64 o] w fun e w' => StpO w0 B g slv h st (.slice qs l.length cs) dv (goS st.segs i o r) w w' e := by
  obtain ⟨ov, at_, ow⟩ := k.at_
  have ld := at_.img
  have gl := at_.lt
  have PL := Lib.hid (Place6_any (w := w) (h := h) (dv := dv) (im.grown k.old) i o hi hn)
  have PU := rs_place (E := st.segs) i o
  have K := Lib.hid k
  unfold goS
  obtain ⟨⟨P, er⟩, hpe⟩ : ∃ z, z = placeN st.segs i o := ⟨_, rfl⟩
  rw [← hpe] at PL PU ⊢
  simp only [] at PL PU ⊢
  clear k ow hpe im hi
  by_cases he : er = 0
  · subst he
    rw [if_neg (by simp)]
    go_enter Tryz.func97, Tryz.ntmps97
    go_wp2_with (first | refine wpList_load_run rfl _ rfl rfl ld ?_ | fail)
    refine PL.out.mono ?_
    rintro e w2 ⟨rfl, hg⟩
    have a2 := at_.kept hg (by simp)
    have K2 := Lib.hid (K.out.grown hg)
    have gl2 := a2.lt
    have f25 := a2.fz 25
    have f26 := a2.fz 26
    have c25 := a2.c 25 (.int .u64 r.place) rfl
    have c26 := a2.c 26 (.bool r.has) rfl
    have HG := Lib.hid hg
    clear hg a2 at_ ld gl
    go_wp2
    go_ret
    exact ⟨rfl, (K2.out.setPlace PU).setHas true, ((ChB.of HG.out).trans (chb_set K2.out)).trans (chb_set (K2.out.setPlace PU))⟩
  · have de : (er != 0) = true := by simpa using he
    rw [if_pos he]
    go_enter Tryz.func97, Tryz.ntmps97
    go_wp2_with (first | refine wpList_load_run rfl _ rfl rfl ld ?_ | fail)
    refine PL.out.mono ?_
    rintro e w2 ⟨rfl, hg⟩
    have K2 := Lib.hid (K.out.grown hg)
    have HG := Lib.hid hg
    clear hg he at_ ld gl
    go_wp2
    go_ret
    exact ⟨rfl, K2.out, ChB.of HG.out⟩
set_option maxRecDepth 20000 in
theorem may6_any (k : RsS w0 B g slv h st sv dv r w) (o : Int) (ho : 0 < o ∧ o < 16) :
    Calls Tryz.prog 50 #[.pointer (some ⟨g, 0, none⟩), .int .u8 (16 * o)] w fun e w' => e = .returned (.bool (mayS o r)) ∧ w = w' := by
  obtain ⟨ov, at_, ow⟩ := k.at_
  have c26 := at_.c 26 (.bool r.has) rfl
  have c27 := at_.c 27 (.int .u64 r.kind) rfl
  have gl := at_.lt
  clear k ow at_
  unfold mayS
  obtain ⟨hs, hhs⟩ : ∃ b, b = r.has := ⟨_, rfl⟩
  obtain ⟨kd, hkd⟩ : ∃ b, b = r.kind := ⟨_, rfl⟩
  rw [← hhs] at c26 ⊢
  rw [← hkd] at c27 ⊢
  clear hhs hkd
  rcases (show o = 1 ∨ o = 2 ∨ o = 3 ∨ o = 4 ∨ o = 9 ∨ o = 10 ∨ o = 11 ∨ o = 12 ∨ o = 13 ∨ o = 14 ∨ o = 15 ∨ o = 5 ∨ o = 6 ∨ o = 7 ∨ o = 8 by omega) with rfl | rfl | rfl | rfl | rfl | rfl | rfl | rfl | rfl | rfl | rfl | rfl | rfl | rfl | rfl
  iterate 11
    · go_enter Tryz.func50, Tryz.ntmps50
      go_wp2
      go_ret
      exact ⟨rfl, rfl⟩
  all_goals
    cases hk : (kd == 1)
    all_goals
      have hk2 : (kd != 1) = !(kd == 1) := rfl
      rw [hk] at hk2
      simp only [Bool.not_false, Bool.not_true] at hk2
      go_enter Tryz.func50, Tryz.ntmps50
      go_wp2
      go_ret
      exact ⟨rfl, rfl⟩
end Go.Proofs.YtbnnlbdjjpmgeaaGreat


namespace Go.Proofs.YtbnnlbdjjpmgeaaGreat
open Go.RowKit
variable {w w' W V : World}
theorem run_append_no {T TS : TypeId} {k by' base : Nat} (st : StType Tryz.prog T TS k by') (v : Value) (n c : Nat) (ys : List Value) (h : w.ownsRow base T k v n ys) :
    (Builtin.append_ #[TS, TS] TS #[v, .slice none 0 c]).run Tryz.prog w = .ok v w := by
  obtain ⟨i, z, hi, hz0, hz1, hz2, hzs⟩ := st.info
  rcases h.2 with ⟨rfl, _⟩ | ⟨g, cap, cur, rfl, _, hg, hn, hm, hc, _⟩
  · simp [Builtin.append_, run_underlying st.under, sizeOf, typeInfo, hi, Builtin.lenOf, Builtin.firstCells, Result.andThen]
  · simp [Builtin.append_, run_underlying st.under, sizeOf, typeInfo, hi, Builtin.lenOf, hn, Builtin.firstCells, storeCells, Result.andThen]
set_option maxRecDepth 20000 in
theorem wp_append_rows {T TS : TypeId} {k by' : Nat} (st : StType Tryz.prog T TS k by') {base : Nat} {ops : Array Oper} {rest : List Oper} {o : Oper} {a : Act} {Q : Exit → Act → World → Prop} (hgd : o.guard = none) (s x : Operand)
    (ho : o.op = .call { callee := .builtin .append, args := #[s, x], argTypes := #[TS, TS] }) (hty : o.type = TS)
    (v : Value) (n : Nat) (ys : List Value) (hs : a.eval s = v) (hown : w.ownsRow base T k v n ys) (q : Option Addr) (m c : Nat) (hx : a.eval x = .slice q m c) (cs : List Value) (hl : cs.length = m * k)
    (hq : ∀ j u, cs[j]? = some u → ∃ g o, q = some ⟨g, o, none⟩ ∧ w.cell? ⟨g, o + j, none⟩ = some u) (h1 : ∀ u ∈ cs, u.oneCell' = true)
    (h63 : (n + m) * by' ≤ 140737488355328) (hby : 0 < by') (hbase : base ≤ w.heap.size)
    (h : ∀ v' w', w'.ownsRow base T k v' (n + m) (ys ++ cs) → w.grownBy w' v.ownBlock → (v'.ownBlock = v.ownBlock ∨ v'.ownBlock = some w.heap.size) → wpList Tryz.prog ops Q rest (a.put o.dst v') w') : wpList Tryz.prog ops Q (o :: rest) a w := by
  obtain ⟨i, z, hi, hz0, hz1, hz2, hzs⟩ := st.info
  cases q with
  | none =>
    have hm : cs = [] := by
      cases cs with
      | nil => rfl
      | cons u cs => obtain ⟨g, o', e, _⟩ := hq 0 u rfl; cases e
    subst hm
    have hm0 : m = 0 := by
      have := st.pos
      simp only [List.length_nil] at hl
      rcases Nat.mul_eq_zero.1 hl.symm with e | e
      · exact e
      · omega
    subst hm0
    have hrun := run_append_no st v n c ys hown
    rw [← hty] at hrun
    refine Lib.wpList_append_run_sl w hgd s x _ ho v (.slice none 0 c) hs hx (by rw [hty] at hrun ⊢; exact hrun) ?_
    exact h v w (by simpa using hown) (grown_refl w _) (.inl rfl)
  | some ad =>
    refine wpList_append_own_at w hgd s x _ ho base T i z k by' st.under hi hz0 hz1 hz2 hzs st.pos v n ys hs hown ad m c cs hx hl ?_ h1 (by have := Nat.le_mul_of_pos_right (n + m) hby; unfold maxLen; omega) h63 hbase ?_
    · intro j u hu
      obtain ⟨g, o', e, hc⟩ := hq j u hu
      injection e with e
      subst e
      rw [add_flat]; exact hc
    · intro v' w' h2 h3 _ h4
      exact h v' w' h2 h3 h4
theorem step_append_sta {T TS : TypeId} {k by' : Nat} (st : StType Tryz.prog T TS k by') {base : Nat} {ops : Array Oper} {o : Oper} {a : Act} {K : Act → World → Prop} {Q : Exit → Act → World → Prop} {E : Prop} (hgd : o.guard = none) (s x : Operand)
    (ho : o.op = .call { callee := .builtin .append, args := #[s, x], argTypes := #[TS, TS] })
    (v : Value) (n m : Nat) (xs : List Value) (hs : a.eval s = v) (hown : w.ownsRow base T k v n xs) (cs : List Value) (hl : cs.length = m * k) (g : Nat) (hx : a.eval x = .slice (some ⟨g, 0, none⟩) m m)
    (hb : w.heap[g]? = some (.cells cs.toArray T (0, 0))) (h1 : ∀ u ∈ cs, u.oneCell' = true)
    (h63 : (n + m) * by' ≤ 140737488355328) (hby : 0 < by') (hbase : base ≤ w.heap.size)
    (h : ∀ v' w', w'.ownsRow base T k v' (n + m) (xs ++ cs) → w.grownBy w' v.ownBlock → (v'.ownBlock = v.ownBlock ∨ v'.ownBlock = some w.heap.size) → K (a.put o.dst v') w') :
    if Region.wanted o (yielded ops a.tmps) = true then Oper.wp Tryz.prog o a w K Q else E := by
  have hw : Region.wanted o (yielded ops a.tmps) = true := by simp [Region.wanted, hgd]
  rw [if_pos hw]
  obtain ⟨i, z, hi, hz0, hz1, hz2, hzs⟩ := st.info
  obtain ⟨v', w', hr, h2, h3, _, h5⟩ := run_append_own_at (P := Tryz.prog) w base TS o.type T i z k by' st.under hi hz0 hz1 hz2 hzs st.pos v n xs hown ⟨g, 0, none⟩ m m cs hl
    (by
      intro j u hu
      rw [add_flat, cell_of hb, ← hu]
      simp)
    h1 (by have := Nat.le_mul_of_pos_right (n + m) hby; unfold maxLen; omega) h63 hbase
  exact Lib.wp_append_run w s x _ _ ho _ _ hs hx _ _ hr (h v' w' h2 h3 h5)
theorem grown_opt {w1 w2 : World} {r : Option Nat} (h : w.grownBy w1 none) (k : w1.grownBy w2 r) (hr : ∀ g, r = some g → w.heap.size ≤ g) : w.grownBy w2 none := by
  cases r with
  | none => exact grown_trans h k
  | some g => exact grown_new h k (hr g rfl)
end Go.Proofs.YtbnnlbdjjpmgeaaGreat


namespace Go.Proofs.YtbnnlbdjjpmgeaaGreat
open Go.RowKit
theorem wpQuiet_load {ops : Array Oper} {C : World → Prop} {Q : Act → Prop} {a : Act} {o : Oper} {rest : List Oper} {T : TypeId} {ad : Addr} {v : Value} (hw : Region.wanted o (yielded ops a.tmps) = true) (x : Operand) (ho : o.op = .load T x)
    (hx : a.eval x = .pointer (some ad)) (hl : ∀ w, C w → (loadVar T ad).run Tryz.prog w = .ok v w) (hK : wpQuiet Tryz.prog ops C Q rest (a.put o.dst v)) : wpQuiet Tryz.prog ops C Q (o :: rest) a := by
  refine wpQuiet_step fun K hK' => ?_
  rw [if_pos hw]
  refine ⟨v, fun W hW => ?_, hK' _ hK⟩
  unfold Oper.quietAt execOp
  simp only [ho, hx, Instr.loadAt, Instr.sureAddr, Sem.run_bind, Sem.run_pure, Result.andThen_ok, hl W hW]
  exact ⟨rfl, rfl⟩
end Go.Proofs.YtbnnlbdjjpmgeaaGreat


namespace Go.Proofs.YtbnnlbdjjpmgeaaGreat
open Go.RowKit
variable {E : List Seg} {xs : List Int}

def wdA (E : List Seg) (xs : List Int) (a : Int) : Int := match withinO E a 8 with | some g => wdN xs g a | none => 0
theorem nums_0 {o : Int} (h : behN o = 0) : Reads (numsP o) [] ((0 : Int), (0 : Int)) := by
  unfold numsP; rw [if_pos h]; exact Reads.ret _
theorem nums_1 {o : Int} (h : behN o = 1) {n : Nat} (hn : n < 18446744073709551616) : Reads (numsP o) (encU n) ((n : Int), (0 : Int)) := by
  unfold numsP; rw [if_neg (by omega), if_pos h]; exact Reads.then0 (reads_ul hn) (Reads.ret _)
theorem dec_op {k : Nat} {o imm : Int} {e r : List Int} {v : Int × Int} {s t : RbS} (ho : 0 < o) (hi : 0 ≤ imm ∧ imm < 16) (hr : Reads (numsP o) e v) (hm : mayS o s = true) (hd : doS E xs ⟨o, imm, v.1, v.2⟩ s = (0, t)) :
    decS E xs (k + 1) ((16 * o + imm) :: (e ++ r)) s = decS E xs k r t := by
  have e1 : (16 * o + imm) / 16 = o := by omega
  have e2 : (16 * o + imm) % 16 = imm := by omega
  rw [decS, e1, e2, if_neg (by omega), hr r]
  simp only []
  rw [if_pos hm, hd, if_neg (by simp), List.drop_left]
def runL : Int → Nat → List Int
  | _, 0 => []
  | a, n + 1 => a :: runL (a + 8) n
theorem runL_len : ∀ (n : Nat) (a : Int), (runL a n).length = n
  | 0, _ => rfl
  | n + 1, a => by rw [runL, List.length_cons, runL_len n]
theorem runL_get : ∀ (n : Nat) (a : Int) (i : Nat), i < n → (runL a n).getD i 0 = a + 8 * i
  | n + 1, a, 0, _ => by simp [runL]
  | n + 1, a, i + 1, h => by
    have := runL_get n (a + 8) i (by omega)
    simp only [runL, List.getD_cons_succ]
    rw [this]; push_cast; omega
theorem one_wr {s : RbS} (hw : wrN E s.place 8 = true) (h : s.place + 8 < 18446744073709551616) : oneS E xs s = (0, { s with place := s.place + 8, out := s.out ++ [(s.place, wdA E xs s.place)] }) := by
  unfold wrN at hw
  unfold oneS wdA
  cases hc : withinO E s.place 8 with
  | none => rw [hc] at hw; cases hw
  | some g =>
    rw [hc] at hw
    simp only [] at hw ⊢
    rw [if_pos hw]
    unfold furS
    simp only []
    rw [if_pos h]
theorem rep_run : ∀ (n : Nat) (a : Int) (s : RbS), s.place = a → (∀ x ∈ runL a n, wrN E x 8 = true ∧ x + 8 < 18446744073709551616) →
    repS E xs 0 n s = (0, { s with place := a + 8 * n, out := s.out ++ (runL a n).map fun x => (x, wdA E xs x) })
  | 0, a, s, hp, _ => by
    obtain ⟨p, h, k, o⟩ := s
    simp only [] at hp
    subst hp
    simp [repS, runL]
  | n + 1, a, s, hp, h => by
    have h0 := h a (by rw [runL]; exact List.mem_cons_self ..)
    have h1 := one_wr (xs := xs) (s := s) (by rw [hp]; exact h0.1) (by rw [hp]; exact h0.2)
    rw [hp] at h1
    have h2 : furS { s with place := a + 8, out := s.out ++ [(a, wdA E xs a)] } 0 = (0, { s with place := a + 8, out := s.out ++ [(a, wdA E xs a)] }) := by
      unfold furS
      rw [if_pos (by show a + 8 + 0 < _; have := h0.2; omega)]
      simp
    have ih := rep_run n (a + 8) { s with place := a + 8, out := s.out ++ [(a, wdA E xs a)] } rfl (fun x hx => h x (by rw [runL]; exact List.mem_cons_of_mem _ hx))
    rw [repS, h1, if_neg (by simp)]
    simp only []
    rw [h2, if_neg (by simp)]
    simp only []
    rw [ih]
    simp only [runL, List.map_cons, List.append_assoc, List.cons_append, List.nil_append]
    congr 2
    push_cast
    omega
theorem runC_take (sg : Int) : ∀ (l : List Int) (p : Int), l.take (runC E sg p l) = runL (p + 8) (runC E sg p l) ∧ runC E sg p l ≤ l.length
  | [], p => ⟨rfl, Nat.le_refl _⟩
  | a :: l, p => by
    unfold runC
    split
    · rename_i h
      obtain ⟨ih, il⟩ := runC_take sg l a
      rw [List.take_succ_cons, runL, ih, show p + 8 = a by omega]
      exact ⟨rfl, by simpa using il⟩
    · exact ⟨rfl, Nat.zero_le _⟩
theorem runA_take (a : Int) (l : List Int) : (a :: l).take (runA E (a :: l)) = runL a (runA E (a :: l)) ∧ 0 < runA E (a :: l) ∧ runA E (a :: l) ≤ (a :: l).length := by
  obtain ⟨h, hl⟩ := runC_take (E := E) (atI E a) l a
  unfold runA
  rw [List.take_succ_cons, runL, h]
  exact ⟨rfl, Nat.succ_pos _, by simpa using hl⟩
structure RbGood (E : List Seg) (a : Int) : Prop where
  at_ : 0 ≤ atI E a ∧ atI E a ≤ 15
  wr : wrN E a 8 = true
  top : a + 8 < 18446744073709551616
  pos : 0 ≤ a
  off : 0 ≤ a - ((E[(atI E a).toNat]?).getD ⟨[], 0, 0, 0, 0, 0, []⟩).addr
  offm : a - ((E[(atI E a).toNat]?).getD ⟨[], 0, 0, 0, 0, 0, []⟩).addr < 18446744073709551616
  place : placeN E (atI E a) (a - ((E[(atI E a).toNat]?).getD ⟨[], 0, 0, 0, 0, 0, []⟩).addr) = (a, 0)
theorem rb_good {a : Int} (hE : ∀ s ∈ E, SegFit s) (h0 : 0 ≤ a) (hw : wrN E a 8 = true) (ht : a + 8 < 18446744073709551616) (h15 : atI E a ≤ 15) : RbGood E a := by
  have hw0 := hw
  unfold wrN withinO at hw
  cases hf : E.find? (inS a) with
  | none => rw [hf] at hw; cases hw
  | some s =>
    have hin : inS a s = true := List.find?_some hf
    have hmem : s ∈ E := List.mem_of_find?_eq_some hf
    have hat : ∃ k, atO E a = some k ∧ E[k]? = some s := by
      unfold atO
      cases hk : E.findIdx? (inS a) with
      | none =>
        rw [List.findIdx?_eq_none_iff] at hk
        have := hk s hmem
        rw [hin] at this
        cases this
      | some k =>
        refine ⟨k, rfl, ?_⟩
        rw [List.findIdx?_eq_some_iff_getElem] at hk
        obtain ⟨hlt, h1, h2⟩ := hk
        rw [List.getElem?_eq_getElem hlt]
        congr 1
        rw [List.find?_eq_some_iff_getElem] at hf
        obtain ⟨_, i, hi, e, h3⟩ := hf
        rcases Nat.lt_trichotomy i k with h | h | h
        · have := h2 i h
          rw [e, hin] at this
          simp at this
        · subst h; exact e
        · have := h3 k h
          rw [h1] at this
          cases this
    obtain ⟨k, hk, hs⟩ := hat
    have hI : atI E a = (k : Int) := by unfold atI; rw [hk]
    have hfit := hE s hmem
    unfold inS hasN withinN at hin
    simp only [Bool.and_eq_true, decide_eq_true_eq] at hin
    obtain ⟨hl, ⟨⟨h1, h2⟩, h3⟩, h4⟩ := hin
    have hN : (atI E a).toNat = k := by rw [hI]; exact Int.toNat_natCast k
    have ha := hfit.addr
    have hz := hfit.size
    unfold U64 at ha hz
    refine ⟨⟨by rw [hI]; omega, h15⟩, hw0, ht, h0, ?_, ?_, ?_⟩
    · rw [hN, hs]; simp only [Option.getD_some]; omega
    · rw [hN, hs]; simp only [Option.getD_some]; omega
    · unfold placeN
      rw [hN, hs]
      simp only [Option.getD_some]
      rw [if_pos hl, if_pos (by omega)]
      congr 1
      omega
theorem cnt_op {k n : Nat} {r : List Int} {s t : RbS} (hn : n < 18446744073709551616) (hk : s.kind = 1) (hh : s.has = true) (hd : manyS E xs n 0 s = (0, t)) :
    decS E xs (k + 1) (cntB n ++ r) s = decS E xs k r t := by
  unfold cntB
  split
  · have := dec_op (E := E) (xs := xs) (k := k) (o := 5) (imm := (n : Int)) (r := r) (s := s) (t := t) (by decide) (by omega) (nums_0 (by decide)) (by unfold mayS; rw [if_neg (by decide), if_neg (by decide), if_pos (by decide), hk, hh]; rfl) (by unfold doS; exact hd)
    exact this
  · have := dec_op (E := E) (xs := xs) (k := k) (o := 6) (imm := 0) (r := r) (s := s) (t := t) (by decide) (by omega) (nums_1 (n := n) (by decide) hn) (by unfold mayS; rw [if_neg (by decide), if_neg (by decide), if_pos (by decide), hk, hh]; rfl) (by unfold doS; exact hd)
    exact this
theorem many_run {n : Nat} {a : Int} {s : RbS} (hn : s.out.length + n ≤ 20000) (hp : s.place = a) (h : ∀ x ∈ runL a n, wrN E x 8 = true ∧ x + 8 < 18446744073709551616) :
    manyS E xs n 0 s = (0, { s with place := a + 8 * n, out := s.out ++ (runL a n).map fun x => (x, wdA E xs x) }) := by
  unfold manyS
  rw [if_neg (by omega), Int.toNat_natCast]
  exact rep_run n a s hp h
theorem dec_put : ∀ (k : Nat) (L : List Int) (sg p : Int) (s : RbS) (f : Nat), L.length ≤ k → (putB E k L sg p).length < f → (∀ a ∈ L, RbGood E a) → L.Pairwise (fun a b => a + 8 ≤ b) → s.kind = 1 →
    (sg = -1 ∨ s.has = true ∧ s.place = p ∧ ∀ a ∈ L, p ≤ a) → s.out.length + L.length ≤ 20000 → 0 ≤ p →
    decS E xs f (putB E k L sg p) s = (0, s.out ++ L.map fun x => (x, wdA E xs x)) := by
  intro k
  induction k with
  | zero =>
    intro L sg p s f hL hf _ _ _ _ _ _
    have : L = [] := List.eq_nil_of_length_eq_zero (by omega)
    subst this
    obtain ⟨f, rfl⟩ : ∃ g, f = g + 1 := ⟨f - 1, by omega⟩
    simp [putB, decS]
  | succ k ih =>
    intro L sg p s f hL hf hg hpw hk hs hout hp0
    cases L with
    | nil =>
      obtain ⟨f, rfl⟩ : ∃ g, f = g + 1 := ⟨f - 1, by omega⟩
      simp [putB, decS]
    | cons a l =>
      have ga := hg a (List.mem_cons_self ..)
      obtain ⟨r1, r2, r3⟩ := runA_take (E := E) a l
      obtain ⟨n, hn⟩ : ∃ n, n = runA E (a :: l) := ⟨_, rfl⟩
      have hlast : (a :: l).getD (n - 1) 0 = a + 8 * (n - 1 : Nat) := by
        rw [hn, ← runL_get (runA E (a :: l)) a (runA E (a :: l) - 1) (by omega), ← r1]
        simp only [List.getD_eq_getElem?_getD]
        rw [List.getElem?_take, if_pos (by omega)]
      rw [putB, ← hn] at hf ⊢
      rw [← hn] at r1 r2 r3
      have hwr : ∀ x ∈ runL a n, wrN E x 8 = true ∧ x + 8 < 18446744073709551616 := fun x hx => by
        rw [← r1] at hx
        have := hg x (List.mem_of_mem_take hx)
        exact ⟨this.wr, this.top⟩
      have hdrop : ∀ b ∈ (a :: l).drop n, a + 8 * n ≤ b := fun b hb => by
        have h1 : (a :: l).getD (n - 1) 0 + 8 ≤ b := by
          obtain ⟨i, hi, rfl⟩ := List.getElem_of_mem hb
          rw [List.length_drop] at hi
          rw [List.getElem_drop, List.getD_eq_getElem?_getD, List.getElem?_eq_getElem (by omega), Option.getD_some]
          exact List.pairwise_iff_getElem.1 hpw (n - 1) (n + i) (by omega) (by omega) (by omega)
        rw [hlast] at h1
        omega
      -- behind the first opcode
      obtain ⟨f, rfl⟩ : ∃ g, f = g + 1 := ⟨f - 1, by omega⟩
      have hrest : (cntB n ++ putB E k ((a :: l).drop n) (atI E a) ((a :: l).getD (n - 1) 0 + 8)).length < f := by
        rw [List.length_append] at hf
        have : 0 < (if atI E a ≠ sg then (32 + atI E a) :: encU (a - ((E[(atI E a).toNat]?).getD ⟨[], 0, 0, 0, 0, 0, []⟩).addr).toNat else 48 :: encU (a - p).toNat).length := by split <;> simp
        omega
      have hgo : decS E xs (f + 1) ((if atI E a ≠ sg then (32 + atI E a) :: encU (a - ((E[(atI E a).toNat]?).getD ⟨[], 0, 0, 0, 0, 0, []⟩).addr).toNat else 48 :: encU (a - p).toNat) ++ (cntB n ++ putB E k ((a :: l).drop n) (atI E a) ((a :: l).getD (n - 1) 0 + 8))) s
          = decS E xs f (cntB n ++ putB E k ((a :: l).drop n) (atI E a) ((a :: l).getD (n - 1) 0 + 8)) { s with place := a, has := true } := by
        have oo := ga.off
        have om := ga.offm
        split
        · have := dec_op (E := E) (xs := xs) (k := f) (o := 2) (imm := atI E a) (r := cntB n ++ putB E k ((a :: l).drop n) (atI E a) ((a :: l).getD (n - 1) 0 + 8)) (s := s) (t := { s with place := a, has := true }) (by decide) ⟨ga.at_.1, by have := ga.at_.2; omega⟩ (nums_1 (n := (a - ((E[(atI E a).toNat]?).getD ⟨[], 0, 0, 0, 0, 0, []⟩).addr).toNat) (by decide) (by omega)) (by unfold mayS; rw [if_pos (by decide)]) (by
            show goS E (atI E a) _ s = _
            unfold goS
            rw [Int.toNat_of_nonneg oo, ga.place]
            simp)
          exact this
        · rename_i hsg
          have hsg : atI E a = sg := Classical.not_not.1 hsg
          obtain ⟨q1, q2, q3⟩ : s.has = true ∧ s.place = p ∧ ∀ b ∈ a :: l, p ≤ b := by
            rcases hs with h | h
            · exfalso; have := ga.at_.1; omega
            · exact h
          have hpa := q3 a (List.mem_cons_self ..)
          have htop := ga.top
          have := dec_op (E := E) (xs := xs) (k := f) (o := 3) (imm := 0) (r := cntB n ++ putB E k ((a :: l).drop n) (atI E a) ((a :: l).getD (n - 1) 0 + 8)) (s := s) (t := { s with place := a, has := true }) (by decide) (by decide) (nums_1 (n := (a - p).toNat) (by decide) (by omega)) (by unfold mayS; rw [if_neg (by decide), if_pos (by decide), q1]) (by
            show furS s _ = _
            unfold furS
            rw [q2, Int.toNat_of_nonneg (by omega), if_pos (show p + (a - p) < 18446744073709551616 by omega), show p + (a - p) = a by omega, ← q1])
          exact this
      rw [hgo]
      obtain ⟨f, rfl⟩ : ∃ g, f = g + 1 := ⟨f - 1, by omega⟩
      have hc0 : 0 < (cntB n).length := by unfold cntB; split <;> simp
      have hlen : (a :: l).length = l.length + 1 := rfl
      rw [cnt_op (s := { s with place := a, has := true }) (t := { s with place := a + 8 * n, has := true, out := s.out ++ (runL a n).map fun x => (x, wdA E xs x) }) (by omega) hk rfl (many_run (s := { s with place := a, has := true }) (by show s.out.length + n ≤ 20000; omega) rfl hwr)]
      rw [hlast, show a + 8 * ((n - 1 : Nat) : Int) + 8 = a + 8 * n by omega] at hrest ⊢
      rw [ih ((a :: l).drop n) (atI E a) (a + 8 * n) { s with place := a + 8 * n, has := true, out := s.out ++ (runL a n).map fun x => (x, wdA E xs x) } f (by rw [List.length_drop]; omega) (by rw [List.length_append] at hrest; omega) (fun b hb => hg b (List.mem_of_mem_drop hb)) (hpw.sublist (List.drop_sublist _ _)) hk (.inr ⟨rfl, rfl, hdrop⟩) (by
        simp only [List.length_append, List.length_map, runL_len, List.length_drop]
        omega) (by have := ga.pos; omega)]
      simp only [List.append_assoc]
      rw [← r1, ← List.map_append, List.take_append_drop]
theorem dec_make {L : List Int} (hg : ∀ a ∈ L, RbGood E a) (hpw : L.Pairwise (fun a b => a + 8 ≤ b)) (hn : L.length ≤ 20000) : decN E xs (makeB E L) = (0, L.map fun x => (x, wdA E xs x)) := by
  unfold decN makeB
  have := dec_op (E := E) (xs := xs) (k := (putB E L.length L (-1) 0).length + 1) (o := 1) (imm := 1) (r := putB E L.length L (-1) 0) (s := RbS.zero) (t := { RbS.zero with kind := 1 }) (by decide) (by decide) (nums_0 (by decide)) (by unfold mayS; rw [if_pos (by decide)]) (by unfold doS; rw [if_pos rfl])
  rw [List.length_cons]
  refine (show decS E xs _ (17 :: putB E L.length L (-1) 0) RbS.zero = _ from this).trans ?_
  rw [dec_put L.length L (-1) 0 { RbS.zero with kind := 1 } _ (Nat.le_refl _) (Nat.lt_succ_self _) hg hpw rfl (.inl rfl) (by simpa [RbS.zero] using hn) (Int.le_refl _)]
  simp [RbS.zero]
end Go.Proofs.YtbnnlbdjjpmgeaaGreat


namespace Go.Proofs.YtbnnlbdjjpmgeaaGreat
open Go.RowKit Go.Sort
variable {w w' W V w0 : World} {h : Hx} {st : St} {slv sv dv ov : Value} {r : RbS} {g B : Nat} {l : List Sg} {qs : Option Addr} {cs : Nat} {xs : List Int} {q : Option Addr} {n c : Nat}

theorem rs_ne2 {n : Nat} {ys : List Value} {ov' : Value} (k : RsAt w g slv h st sv dv r ov) (o : w.ownsRow B 60 7 ov' n ys) : ov'.ownBlock ≠ some g := fun e => by
  obtain ⟨-, h2 | ⟨g', cap, cur, e', -, hb, -⟩⟩ := o
  · rw [h2.1] at e; cases e
  · rw [e'] at e
    injection e with e
    subst e
    unfold RsAt at k
    rw [k] at hb
    injection hb with hb
    injection hb with _ hb _
    exact absurd hb (by decide)
theorem one_no {E : List Seg} {s : RbS} (hw : wrN E s.place 8 = false) : oneS E xs s = (19, s) := by
  unfold wrN at hw
  unfold oneS
  cases hc : withinO E s.place 8 with
  | none => rfl
  | some x =>
    rw [hc] at hw
    simp only [] at hw ⊢
    rw [hw]
    rfl
theorem one_yes {E : List Seg} {s : RbS} (hw : wrN E s.place 8 = true) : ∃ x, withinO E s.place 8 = some x ∧ oneS E xs s = furS { s with out := s.out ++ [(s.place, wdN xs x s.place)] } 8 := by
  unfold wrN at hw
  unfold oneS
  cases hc : withinO E s.place 8 with
  | none => rw [hc] at hw; cases hw
  | some x =>
    rw [hc] at hw
    simp only [] at hw
    exact ⟨x, rfl, by simp only []; rw [if_pos hw]⟩
set_option maxRecDepth 20000 in
set_option maxHeartbeats 3200000 in
theorem rebase1_any (k : RsS w0 B g (.slice q n c) h st (.slice qs l.length cs) dv r w) (im : ImgRows w0 st l qs cs) (hf : SegsFit st) (hb : IsBytes w0 q c xs) (hx : xs.length = n) (hc : n ≤ c) (hcm : c ≤ 9223372036854775807) (hsm : Small xs) (h47 : n ≤ 140737488355328) (hfew : r.out.length < 20000) :
    Calls Tryz.prog 151 #[.pointer (some ⟨g, 0, none⟩)] w fun e w' => StpO w0 B g (.slice q n c) h st (.slice qs l.length cs) dv (oneS st.segs xs r) w w' e := by
  obtain ⟨ov, at_, ow⟩ := k.at_
  have KG := fun d os => grown_below (below_regrown w d os) none
  have WR := Lib.hid (fun d os => Calls.regrown_of ((Writable_any (h := h) (dv := dv) ((im.grown k.old).grown (KG d os)) hf r.place 8 k.place ⟨by decide, by decide⟩).mono (fun _ _ h => (⟨h.1, below_grown h.2 (Nat.le_refl _) (by simp)⟩ : _ ∧ _))))
  have LD := Lib.hid (fun (V : World) (hV : ∃ p : Regrown, V = Go.Sort.grow (redrawn w p.d) p.os) => (by obtain ⟨p, rfl⟩ := hV; exact (at_.kept (KG p.d p.os) (by simp)).img : (loadVar 49 ⟨g, 1, none⟩).run Tryz.prog V = .ok (imgV h st (.slice qs l.length cs) dv) V))
  have c25 := at_.c 25 (.int .u64 r.place) rfl
  have k25 := fun d os => cell_regrown c25 d os
  have gl := at_.lt
  have K := Lib.hid k
  have IM := Lib.hid im
  have HF := Lib.hid hf
  have IB := Lib.hid hb
  have HX := Lib.hid hx
  have HC := Lib.hid (And.intro hc (And.intro hcm (And.intro hsm h47)))
  have HFW := Lib.hid hfew
  obtain ⟨E, hE⟩ : ∃ E, E = st.segs := ⟨_, rfl⟩
  rw [← hE] at WR ⊢
  have HE := Lib.hid hE
  obtain ⟨P, hP⟩ : ∃ P, P = r.place := ⟨_, rfl⟩
  have HP := Lib.hid hP
  obtain ⟨wb, hwb⟩ : ∃ b, b = wrN E r.place 8 := ⟨_, rfl⟩
  rw [← hwb] at WR
  rw [← hP] at WR c25 k25
  clear k im hf hb hx hc hcm hsm h47 hE KG at_ ow hfew hP
  obtain ⟨N, hN⟩ : ∃ N, N = l.length := ⟨_, rfl⟩
  rw [← hN] at WR LD K ⊢
  have HN := Lib.hid hN
  clear hN
  unfold imgV imgArr at LD WR
  cases wb
  · have ON := Lib.hid (one_no (xs := xs) hwb.symm)
    clear hwb
    go_enter Tryz.func151, Tryz.ntmps151
    go_upto_region 1 with fail
    refine wp_region_quiet_below (by kernel_rfl) (by kernel_rfl) ?_
    iterate 3 (quiet_step (fail))
    refine wpQuiet_load rfl _ rfl rfl LD.out ?_
    iterate 4 (quiet_step (fail))
    quiet_step (with_reducible exact WR.out _ _)
    repeat (quiet_step (fail))
    refine wpQuiet_nil ?_
    intro _ hw'
    obtain ⟨⟨dq, osq⟩, hw''⟩ := hw'
    subst hw''
    have G1 := Lib.hid (grown_below (below_regrown w dq osq) none)
    clear k25
    go_wp2
    go_ret
    exact ⟨by rw [ON.out]; rfl, by rw [ON.out]; exact K.out.grown G1.out, ChB.of G1.out⟩
  · obtain ⟨x, hwi, hon⟩ := one_yes (xs := xs) hwb.symm
    have ON := Lib.hid hon
    have WI := Lib.hid hwi
    clear hwb hon hwi
    go_enter Tryz.func151, Tryz.ntmps151
    go_upto_region 1 with fail
    refine wp_region_quiet_below (by kernel_rfl) (by kernel_rfl) ?_
    iterate 3 (quiet_step (fail))
    refine wpQuiet_load rfl _ rfl rfl LD.out ?_
    iterate 4 (quiet_step (fail))
    quiet_step (with_reducible exact WR.out _ _)
    repeat (quiet_step (fail))
    refine wpQuiet_nil ?_
    intro _ hw'
    obtain ⟨⟨dq, osq⟩, hw''⟩ := hw'
    subst hw''
    have G1 := grown_below (below_regrown w dq osq) none
    have K1 := K.out.grown G1
    have HG1 := Lib.hid G1
    obtain ⟨W1, hW1⟩ : ∃ W1, Go.Sort.grow (redrawn w dq) osq = W1 := ⟨_, rfl⟩
    rw [hW1] at G1 K1 HG1 ⊢
    clear hW1 k25 c25 gl WR LD
    go_upto_region 3 with fail
    obtain ⟨ov, at_, ow⟩ := K1.at_
    have KG := fun d os => grown_below (below_regrown W1 d os) none
    have WD := Lib.hid (fun d os => Calls.regrown_of ((Word6_any (h := h) (dv := dv) ((IM.out.grown K1.old).grown (KG d os)) HF.out ((IB.out.kept K1.old (by simp)).kept (KG d os) (by simp)) HX.out HC.out.1 HC.out.2.1 HC.out.2.2.1 HC.out.2.2.2 r.place K1.place).mono (fun _ _ h => (⟨h.1, below_grown h.2 (Nat.le_refl _) (by simp)⟩ : _ ∧ _))))
    have LD := Lib.hid (fun (V : World) (hV : ∃ p : Regrown, V = Go.Sort.grow (redrawn W1 p.d) p.os) => (by obtain ⟨p, rfl⟩ := hV; exact (at_.kept (KG p.d p.os) (by simp)).img : (loadVar 49 ⟨g, 1, none⟩).run Tryz.prog V = .ok (imgV h st (.slice qs N cs) dv) V))
    have c25 := at_.c 25 (.int .u64 r.place) rfl
    have k25 := fun d os => cell_regrown c25 d os
    have c0 := at_.c 0 (.slice q n c) rfl
    have k0 := fun d os => cell_regrown c0 d os
    have gl := at_.lt
    have K1H := Lib.hid K1
    have e1 : WdV st.segs xs r.place = .tuple #[.int .u64 (wdN xs x r.place), .int .i64 0] := by unfold WdV; rw [← HE.out, WI.out]
    rw [e1] at WD
    obtain ⟨T, hT⟩ : ∃ T, T = wdN xs x r.place := ⟨_, rfl⟩
    rw [← hT] at WD ON
    rw [← HN.out] at WD
    have HT := Lib.hid hT
    rw [← HP.out] at WD c25 k25
    clear KG at_ ow K1 G1 e1 hT
    unfold imgV imgArr at LD WD
    refine wp_region_quiet_below (by kernel_rfl) (by kernel_rfl) ?_
    iterate 7 (quiet_step (fail))
    refine wpQuiet_load rfl _ rfl rfl LD.out ?_
    iterate 4 (quiet_step (fail))
    quiet_step (with_reducible exact WD.out _ _)
    repeat (quiet_step (fail))
    refine wpQuiet_nil ?_
    intro _ hw'
    obtain ⟨⟨dq2, osq2⟩, hw''⟩ := hw'
    subst hw''
    have G2 := grown_below (below_regrown W1 dq2 osq2) none
    have K2 := K1H.out.grown G2
    have HG2 := Lib.hid (grown_trans HG1.out G2)
    obtain ⟨W2, hW2⟩ : ∃ W2, Go.Sort.grow (redrawn W1 dq2) osq2 = W2 := ⟨_, rfl⟩
    rw [hW2] at G2 K2 HG2 ⊢
    clear hW2 k25 c25 k0 c0 gl WD LD G2 K1H HG1
    go_upto_region 6 with fail
    obtain ⟨ov, at_, ow⟩ := K2.at_
    have hfit := HFW.out
    have g3 := grown1 W2.drew (.cells #[.int .u64 P, .int .i64 1, .int .u64 T, .int .i64 0, .string ⟨#[]⟩, .int .i64 0, .bool false] 60)
    have HNA := Lib.hid (show (W2.drew.alloc (.cells #[.int .u64 P, .int .i64 1, .int .u64 T, .int .i64 0, .string ⟨#[]⟩, .int .i64 0, .bool false] 60)).heap[W2.drew.heap.size]? = some (.cells [.int .u64 P, .int .i64 1, .int .u64 T, .int .i64 0, .string ⟨#[]⟩, .int .i64 0, .bool false].toArray 60 (0, 0)) from heap_alloc_new W2.drew _)
    have g02 : W2.grownBy W2.drew none := grown_drewN (grown_refl W2 none) 1
    have OWA := Lib.hid (own_grown (own_grown ow g02) g3)
    have A3 := Lib.hid (at_.kept (grown_trans g02 g3) (by simp))
    have G3 := Lib.hid (grown_trans g02 g3)
    have ONE := Lib.hid (show ∀ u ∈ [Value.int .u64 P, .int .i64 1, .int .u64 T, .int .i64 0, .string ⟨#[]⟩, .int .i64 0, .bool false], u.oneCell' = true from fxCs_one ⟨P, 1, T, 0, ⟨#[]⟩, 0, false⟩)
    have hBz := K2.bw
    have K2H := Lib.hid K2
    have c28 := at_.c 28 ov rfl
    have c25 := at_.c 25 (.int .u64 r.place) rfl
    rw [← HP.out] at c25
    have gl := at_.lt
    obtain ⟨m, hm⟩ : ∃ m, m = r.out.length := ⟨_, rfl⟩
    rw [← hm] at OWA
    have HM := Lib.hid hm
    have hm2 : m < 20000 := by omega
    have NEV := Lib.hid (rs_ne at_ ow)
    have FIN := Lib.hid (show ∀ (v5 : Value) (w5 : World), w5.ownsRow B 60 7 v5 (m + 1) (r.out.flatMap rbCs ++ [.int .u64 P, .int .i64 1, .int .u64 T, .int .i64 0, .string ⟨#[]⟩, .int .i64 0, .bool false]) → (W2.drew.alloc (.cells #[.int .u64 P, .int .i64 1, .int .u64 T, .int .i64 0, .string ⟨#[]⟩, .int .i64 0, .bool false] 60)).grownBy w5 ov.ownBlock →
        RsS w0 B g (.slice q n c) h st (.slice qs N cs) dv { r with out := r.out ++ [(r.place, T)] } (w5.setCell ⟨g, 28, none⟩ v5) ∧ ChB B w (w5.setCell ⟨g, 28, none⟩ v5) from fun v5 w5 ho5 hg5 => by
      have hs5 := A3.out.kept hg5 NEV.out
      have hgB := K2H.out.gB
      have hbs := K2H.out.base
      have e1 : (r.out ++ [(r.place, T)]).length = m + 1 := by rw [List.length_append, ← HM.out]; rfl
      have e2 : (r.out ++ [(r.place, T)]).flatMap rbCs = r.out.flatMap rbCs ++ [.int .u64 P, .int .i64 1, .int .u64 T, .int .i64 0, .string ⟨#[]⟩, .int .i64 0, .bool false] := by rw [List.flatMap_append, HP.out]; rfl
      refine ⟨⟨grown_new (grown_opt (grown_trans K2H.out.old G3.out) hg5 (fun b e => Nat.le_trans hbs (OWA.out.lt b e).1)) (grown_setCell (i := 28) (grown_refl w5 (some g)) _) (by omega), hbs, ⟨v5, hs5.setOut v5 _, ?_⟩, hgB, K2H.out.place, by rw [e1]; omega⟩, ?_⟩
      · rw [e1, e2]
        exact ho5.kept (grown_setCell (i := 28) (grown_refl w5 (some g)) v5) (.inr (rs_ne2 hs5 ho5))
      · exact (((ChB.of HG2.out).trans (ChB.of G3.out)).trans (Chg.of_grown hg5 (fun b e => .inl (OWA.out.lt b e).1))).trans (ChB.one (grown_setCell (i := 28) (grown_refl w5 (some g)) v5) hgB))
    clear K2 ow at_ g3 g02 hm hfit
    go_region_law (refine step_append_sta fxType (by with_reducible rfl) _ _ (by with_reducible rfl) _ m 1 (r.out.flatMap rbCs) (by rfl) OWA.out [.int .u64 P, .int .i64 1, .int .u64 T, .int .i64 0, .string ⟨#[]⟩, .int .i64 0, .bool false] rfl W2.drew.heap.size (by rfl) HNA.out ONE.out (by omega) (by decide) (Nat.le_trans hBz G3.out.size) ?_; intro v5 w5 ho5 hg5 hv5; obtain ⟨q5, c5, rfl⟩ := own_slice ho5; have f28' := (A3.out.kept hg5 NEV.out).fz 28; have gl' := (A3.out.kept hg5 NEV.out).lt; have c28' := (A3.out.kept hg5 NEV.out).c 28 ov rfl; have HH5 := Lib.hid (And.intro ho5 (And.intro hg5 hv5)); clear ho5 hg5 hv5)
    all_goals
      have FI := Lib.hid (FIN.out _ w5 HH5.out.1 HH5.out.2.1)
      have FU := Lib.hid (further_any FI.out.1 8 ⟨by decide, by decide⟩)
      clear FIN HH5
      go_wp2_with fail
      refine FU.out.mono ?_
      rintro e w6 ⟨rfl, hs6, hc6⟩
      have S6 := Lib.hid hs6
      have C6 := Lib.hid (FI.out.2.trans hc6)
      clear hs6 hc6 FU FI
      obtain ⟨⟨er, r6⟩, hr6⟩ : ∃ z, z = furS { r with out := r.out ++ [(r.place, T)] } 8 := ⟨_, rfl⟩
      rw [← hr6] at ON S6 ⊢
      clear hr6
      go_wp2
      go_ret
      exact ⟨by rw [ON.out]; rfl, by rw [ON.out]; exact S6.out, C6.out⟩
end Go.Proofs.YtbnnlbdjjpmgeaaGreat


namespace Go.Proofs.YtbnnlbdjjpmgeaaGreat
open Go.RowKit
variable {w w' W V w0 : World} {h : Hx} {st : St} {slv sv dv ov : Value} {r : RbS} {g B : Nat} {l : List Sg} {qs : Option Addr} {cs : Nat} {xs : List Int} {q : Option Addr} {n c : Nat}

theorem fur_out (s : RbS) (k : Int) : (furS s k).2.out = s.out := by unfold furS; split <;> rfl
theorem one_len (E : List Seg) (s : RbS) : (oneS E xs s).2.out.length ≤ s.out.length + 1 := by
  unfold oneS
  split
  · split
    · rw [fur_out]; simp
    · simp
  · simp
structure Ctx (w0 : World) (st : St) (l : List Sg) (qs : Option Addr) (cs : Nat) (q : Option Addr) (n c : Nat) (xs : List Int) : Prop where
  im : ImgRows w0 st l qs cs
  fit : SegsFit st
  few : l.length < 1000000
  by_ : IsBytes w0 q c xs
  len : xs.length = n
  cap : n ≤ c
  max : c ≤ 9223372036854775807
  small : Small xs
  most : n ≤ 140737488355328
theorem Ctx.one (x : Ctx w0 st l qs cs q n c xs) (k : RsS w0 B g (.slice q n c) h st (.slice qs l.length cs) dv r w) (hfew : r.out.length < 20000) :
    Calls Tryz.prog 151 #[.pointer (some ⟨g, 0, none⟩)] w fun e w' => StpO w0 B g (.slice q n c) h st (.slice qs l.length cs) dv (oneS st.segs xs r) w w' e :=
  rebase1_any k x.im x.fit x.by_ x.len x.cap x.max x.small x.most hfew
structure RpL (w0 : World) (B g : Nat) (slv : Value) (h : Hx) (st : St) (sv dv : Value) (E : List Seg) (xs : List Int) (skip : Int) (R : Int × RbS) (m : Nat) (w wr : World) (v : Value) : Prop where
  ex : ∃ (i : Nat) (s : RbS), i ≤ m ∧ v = .int .u64 (i : Int) ∧ RsS w0 B g slv h st sv dv s wr ∧ repS E xs skip (m - i) s = R ∧ s.out.length + (m - i) ≤ 20000
  chg : ChB B w wr
set_option maxRecDepth 20000 in
set_option maxHeartbeats 1600000 in
theorem repeat_any (x : Ctx w0 st l qs cs q n c xs) (k : RsS w0 B g (.slice q n c) h st (.slice qs l.length cs) dv r w) (t skip : Int) (ht : U64 t) (hs : U64 skip) :
    Calls Tryz.prog 99 #[.pointer (some ⟨g, 0, none⟩), .int .u64 t, .int .u64 skip] w fun e w' => StpO w0 B g (.slice q n c) h st (.slice qs l.length cs) dv (manyS st.segs xs t skip r) w w' e := by
  obtain ⟨ov, at_, ow⟩ := k.at_
  obtain ⟨qo, co, rfl⟩ := own_slice ow
  have c28 := at_.c 28 (.slice qo r.out.length co) rfl
  have gl := at_.lt
  have hfew := k.few
  have K := Lib.hid k
  have X := Lib.hid x
  obtain ⟨sv, hsv⟩ : ∃ sv, sv = Value.slice qs l.length cs := ⟨_, rfl⟩
  have ONE := Lib.hid (fun (s : RbS) (V : World) (ks : RsS w0 B g (.slice q n c) h st sv dv s V) (hf : s.out.length < 20000) => (show Calls Tryz.prog 151 #[.pointer (some ⟨g, 0, none⟩)] V fun e w' => StpO w0 B g (.slice q n c) h st sv dv (oneS st.segs xs s) V w' e by subst hsv; exact X.out.one ks hf))
  rw [← hsv] at K ⊢
  obtain ⟨E, hE⟩ : ∃ E, E = st.segs := ⟨_, rfl⟩
  rw [← hE] at ONE ⊢
  obtain ⟨m, hm⟩ : ∃ m, m = r.out.length := ⟨_, rfl⟩
  rw [← hm] at c28 hfew
  have HM := Lib.hid hm
  obtain ⟨T, rfl⟩ : ∃ T : Nat, t = (T : Int) := ⟨t.toNat, by unfold U64 at ht; omega⟩
  unfold U64 at ht
  have m1 : IntKind.u64.wrap (m : Int) = m := by rw [IntKind.wrap_u64]; omega
  obtain ⟨D, hD⟩ : ∃ D, D = 20000 - (m : Int) := ⟨_, rfl⟩
  have m2 : IntKind.u64.wrap (20000 - (m : Int)) = D := by rw [IntKind.wrap_u64]; omega
  have m3 : (20000 - (m : Int)) % 18446744073709551616 = D := by omega
  have m4 : (m : Int) % 18446744073709551616 = m := by omega
  clear k x at_ ow hm hE hsv
  by_cases hbig : D < (T : Int)
  · have db : decide (D < (T : Int)) = true := by simpa using hbig
    have MN := Lib.hid (show manyS E xs T skip r = (11, r) by unfold manyS; rw [← HM.out, ← hD, if_pos hbig])
    clear hbig ONE hD
    go_enter Tryz.func99, Tryz.ntmps99
    go_wp2
    go_ret
    exact ⟨by rw [MN.out]; rfl, by rw [MN.out]; exact K.out, Chg.refl _ _⟩
  · have db : decide (D < (T : Int)) = false := by simpa using hbig
    have MN := Lib.hid (show manyS E xs T skip r = repS E xs skip T r by unfold manyS; rw [← HM.out, ← hD, if_neg hbig, Int.toNat_natCast])
    have hT : T ≤ 20000 := by omega
    obtain ⟨R, hR⟩ : ∃ R, R = repS E xs skip T r := ⟨_, rfl⟩
    rw [← hR] at MN
    have L0 := Lib.hid (show RpL w0 B g (.slice q n c) h st sv dv E xs skip R T w w (.int .u64 0) from ⟨⟨0, r, Nat.zero_le _, rfl, K.out, hR.symm, by rw [← HM.out]; omega⟩, Chg.refl _ _⟩)
    have HS := Lib.hid hs
    clear hbig hR hs hD
    go_enter Tryz.func99, Tryz.ntmps99
    go_upto_region 4 with fail
    clear m1 m2 m3 m4 db c28 gl hfew
    go_loopw [19] (fun v wr => RpL w0 B g (.slice q n c) h st sv dv E xs skip R T w wr v) (fun v _ => T - (intOf v).toNat)
    case atStart => exact L0.out
    case round =>
      obtain ⟨⟨i, s, hi, rfl, hk, hrp, hln⟩, hch⟩ := hrel
      by_cases hlt : i < T
      · have di : decide ((i : Int) < (T : Int)) = true := by simp; omega
        have di2 : (i : Int) < (T : Int) := by omega
        obtain ⟨k, hk1⟩ : ∃ k, T - i = k + 1 := ⟨T - i - 1, by omega⟩
        rw [hk1] at hrp hln
        have O1 := Lib.hid (ONE.out s wr hk (by omega))
        have RP := Lib.hid hrp
        have CH := Lib.hid hch
        have LN := Lib.hid (And.intro hln hk1)
        clear hk hrp hln hk1 hch
        go_wp2_with fail
        refine O1.out.mono ?_
        rintro e w2 ⟨rfl, hs2, hc2⟩
        have RP2 := RP.out
        rw [repS] at RP2
        have OL := Lib.hid (one_len (xs := xs) E s)
        obtain ⟨⟨e1, s1⟩, h1⟩ : ∃ z, z = oneS E xs s := ⟨_, rfl⟩
        rw [← h1] at RP2 hs2 OL ⊢
        simp only [] at RP2 hs2 ⊢
        have C2 := Lib.hid (CH.out.trans hc2)
        have S2 := Lib.hid hs2
        clear hc2 h1 hs2 O1 RP CH
        by_cases he : e1 = 0
        · subst he
          rw [if_neg (by simp)] at RP2
          have F1 := Lib.hid (further_any S2.out skip HS.out)
          have RP3 := Lib.hid RP2
          clear RP2
          go_wp2_with fail
          refine F1.out.mono ?_
          rintro e w3 ⟨rfl, hs3, hc3⟩
          have RP4 := RP3.out
          have FL := Lib.hid (fur_out s1 skip)
          obtain ⟨⟨e2, s2⟩, h2⟩ : ∃ z, z = furS s1 skip := ⟨_, rfl⟩
          rw [← h2] at RP4 hs3 FL ⊢
          simp only [] at RP4 hs3 ⊢
          have C3 := Lib.hid (C2.out.trans hc3)
          have S3 := Lib.hid hs3
          clear hc3 h2 hs3 F1 RP3 C2
          by_cases he2 : e2 = 0
          · subst he2
            rw [if_neg (by simp)] at RP4
            have RP5 := Lib.hid RP4
            clear RP4
            go_wp2
            go_roundw
            case rel => exact ⟨⟨i + 1, s2, hlt, by go_num, S3.out, by rw [show T - (i + 1) = k by have := LN.out.2; omega]; exact RP5.out, by
              have h1 := OL.out
              have h2 := FL.out
              have h3 := LN.out
              simp only [] at h1 h2
              rw [h2]
              omega⟩, C3.out⟩
            case measure => simp [intOf]; omega
          · have de : (e2 != 0) = true := by simpa using he2
            rw [if_pos he2] at RP4
            have RP5 := Lib.hid RP4
            clear RP4 he2
            go_wp2
            go_ret
            exact ⟨by rw [MN.out, ← RP5.out]; rfl, by rw [MN.out, ← RP5.out]; exact S3.out, C3.out⟩
        · have de : (e1 != 0) = true := by simpa using he
          rw [if_pos he] at RP2
          have RP3 := Lib.hid RP2
          clear RP2 he
          go_wp2
          go_ret
          exact ⟨by rw [MN.out, ← RP3.out]; rfl, by rw [MN.out, ← RP3.out]; exact S2.out, C2.out⟩
      · obtain rfl : i = T := by omega
        have di : decide ((i : Int) < (i : Int)) = false := by simp
        rw [Nat.sub_self, repS] at hrp
        have RP := Lib.hid hrp
        have HK := Lib.hid hk
        have CH := Lib.hid hch
        clear hk hrp hln hch hlt
        go_wp2
        go_ret
        exact ⟨by rw [MN.out, ← RP.out]; rfl, by rw [MN.out, ← RP.out]; exact HK.out, CH.out⟩
end Go.Proofs.YtbnnlbdjjpmgeaaGreat


namespace Go.Proofs.YtbnnlbdjjpmgeaaGreat
open Go.RowKit
variable {w w' W V w0 : World} {h : Hx} {st : St} {slv sv dv ov : Value} {r : RbS} {g B : Nat} {l : List Sg} {qs : Option Addr} {cs : Nat} {xs : List Int} {q : Option Addr} {n c : Nat}

def opArr (o : RbO) : Array Value := #[.int .u8 (16 * o.what), .int .u64 o.imm, .int .u64 o.a, .int .u64 o.b]
def opV (o : RbO) : Value := .agg (opArr o)
def OpAt (w : World) (g : Nat) (o : RbO) : Prop := w.heap[g]? = some (.cells (opArr o) 113 (0, 0))
theorem OpAt.kept {o : RbO} {p : Option Nat} (k : OpAt w g o) (hg : w.grownBy w' p) (hr : p ≠ some g) : OpAt w' g o := (hg.block g (lt_of_block k) (fun e => hr e.symm)).trans k
theorem OpAt.cells4 {o : RbO} (k : OpAt w g o) : w.cell? ⟨g, 0, none⟩ = some (.int .u8 (16 * o.what)) ∧ w.cell? ⟨g, 1, none⟩ = some (.int .u64 o.imm) ∧ w.cell? ⟨g, 2, none⟩ = some (.int .u64 o.a) ∧ w.cell? ⟨g, 3, none⟩ = some (.int .u64 o.b) := by
  refine ⟨?_, ?_, ?_, ?_⟩ <;> (rw [cell_of k]; rfl)
theorem OpAt.fz {o : RbO} (k : OpAt w g o) (i : Nat) : w.frozen? ⟨g, i, none⟩ = false := free_of k
theorem OpAt.lt {o : RbO} (k : OpAt w g o) : g < w.heap.size := lt_of_block k
theorem OpAt.setA {o : RbO} (k : OpAt w g o) (v : Int) : OpAt (w.setCell ⟨g, 2, none⟩ (.int .u64 v)) g { o with a := v } := by unfold OpAt; rw [heap_setCell_same w g 2 _ _ _ k]; rfl
theorem OpAt.setB {o : RbO} (k : OpAt w g o) (v : Int) : OpAt (w.setCell ⟨g, 3, none⟩ (.int .u64 v)) g { o with b := v } := by unfold OpAt; rw [heap_setCell_same w g 3 _ _ _ k]; rfl
structure OpFit (o : RbO) : Prop where
  imm : 0 ≤ o.imm ∧ o.imm < 16
  a : U64 o.a
  b : U64 o.b
section
variable (E : List Seg) (xs : List Int) (imm a b : Int) (r : RbS)
theorem doS_1 : doS E xs ⟨1, imm, a, b⟩ r = (0, { r with kind := imm }) := by simp [doS]
theorem doS_2 : doS E xs ⟨2, imm, a, b⟩ r = goS E imm a r := by simp [doS]
theorem doS_3 : doS E xs ⟨3, imm, a, b⟩ r = furS r a := by simp [doS]
theorem doS_4 : doS E xs ⟨4, imm, a, b⟩ r = furS r (imm * 8) := by simp [doS]
theorem doS_5 : doS E xs ⟨5, imm, a, b⟩ r = manyS E xs imm 0 r := by simp [doS]
theorem doS_6 : doS E xs ⟨6, imm, a, b⟩ r = manyS E xs a 0 r := by simp [doS]
theorem doS_7 : doS E xs ⟨7, imm, a, b⟩ r = manyS E xs 1 a r := by simp [doS]
theorem doS_8 : doS E xs ⟨8, imm, a, b⟩ r = manyS E xs a b r := by simp [doS]
end
set_option maxRecDepth 20000 in
set_option maxHeartbeats 1600000 in
theorem do_any (x : Ctx w0 st l qs cs q n c xs) (k : RsS w0 B g (.slice q n c) h st (.slice qs l.length cs) dv r w) (o : RbO) (ho : 1 ≤ o.what ∧ o.what ≤ 8) (hf : OpFit o) :
    Calls Tryz.prog 51 #[.pointer (some ⟨g, 0, none⟩), opV o] w fun e w' => StpO w0 B g (.slice q n c) h st (.slice qs l.length cs) dv (doS st.segs xs o r) w w' e := by
  have g1 := grown1 w (.cells (opArr o) 113)
  have o1 : OpAt (w.alloc (.cells (opArr o) 113)) w.heap.size o := heap_alloc_new w _
  obtain ⟨W1, hW1⟩ : ∃ W, w.alloc (.cells (opArr o) 113) = W := ⟨_, rfl⟩
  obtain ⟨b, hb⟩ : ∃ b, w.heap.size = b := ⟨_, rfl⟩
  rw [hW1] at g1 o1
  rw [hb] at o1
  have K1 := k.grown g1
  have C1 := Lib.hid (show ChB B w W1 from ChB.of g1)
  obtain ⟨ov, at_, ow⟩ := K1.at_
  have f27 := at_.fz 27
  have c27 := at_.c 27 (.int .u64 r.kind) rfl
  have gl := at_.lt
  obtain ⟨c0, c1, c2, c3⟩ := o1.cells4
  have bl := o1.lt
  obtain ⟨what, imm, a, b2⟩ := o
  simp only [] at ho c0 c1 c2 c3
  have hi : U64 imm := ⟨hf.imm.1, by have := hf.imm.2; simp only [] at this; omega⟩
  have hi16 := hf.imm
  simp only [] at hi16
  have GT := Lib.hid (goTo_any K1 x.im imm a hi x.few)
  have FA := Lib.hid (further_any K1 a hf.a)
  have FI := Lib.hid (further_any K1 (imm * 8) ⟨by omega, by omega⟩)
  have R5 := Lib.hid (repeat_any x K1 imm 0 hi ⟨by decide, by decide⟩)
  have R6 := Lib.hid (repeat_any x K1 a 0 hf.a ⟨by decide, by decide⟩)
  have R7 := Lib.hid (repeat_any x K1 1 a ⟨by decide, by decide⟩ hf.a)
  have R8 := Lib.hid (repeat_any x K1 a b2 hf.a hf.b)
  have HK := Lib.hid K1
  obtain ⟨F, hF⟩ : ∃ F, F = imm * 8 := ⟨_, rfl⟩
  have HF := Lib.hid hF
  rw [← hF] at FI
  have m1 : IntKind.u64.wrap (imm * 8) = F := by rw [IntKind.wrap_u64, hF]; omega
  have m2 : imm * 8 % 18446744073709551616 = F := by rw [hF]; omega
  clear hF k x K1 at_ ow g1 o1 hf hi hi16
  unfold opV opArr at *
  simp only [] at *
  obtain ⟨X, hX⟩ : ∃ X, X = 16 * what := ⟨_, rfl⟩
  rw [← hX] at c0 hW1 ⊢
  rcases (show what = 1 ∨ what = 2 ∨ what = 3 ∨ what = 4 ∨ what = 5 ∨ what = 6 ∨ what = 7 ∨ what = 8 by omega) with rfl | rfl | rfl | rfl | rfl | rfl | rfl | rfl
  · obtain rfl : X = 16 := by omega
    clear hX
    rw [doS_1]
    go_enter Tryz.func51, Tryz.ntmps51
    go_upto_region 1 with fail
    clear hW1 hb
    go_wp2
    go_ret
    exact ⟨rfl, HK.out.setKind imm, C1.out.trans (chb_set HK.out)⟩
  · obtain rfl : X = 32 := by omega
    clear hX
    rw [doS_2]
    go_enter Tryz.func51, Tryz.ntmps51
    go_upto_region 1 with fail
    clear hW1 hb
    go_wp2_with fail
    refine GT.out.mono ?_
    rintro e w2 ⟨rfl, hs, hc⟩
    have FN := Lib.hid (And.intro hs (C1.out.trans hc))
    clear hs hc
    go_wp2
    go_ret
    exact ⟨rfl, FN.out.1, FN.out.2⟩
  · obtain rfl : X = 48 := by omega
    clear hX
    rw [doS_3]
    go_enter Tryz.func51, Tryz.ntmps51
    go_upto_region 1 with fail
    clear hW1 hb
    go_wp2_with fail
    refine FA.out.mono ?_
    rintro e w2 ⟨rfl, hs, hc⟩
    have FN := Lib.hid (And.intro hs (C1.out.trans hc))
    clear hs hc
    go_wp2
    go_ret
    exact ⟨rfl, FN.out.1, FN.out.2⟩
  · obtain rfl : X = 64 := by omega
    clear hX
    rw [doS_4]
    go_enter Tryz.func51, Tryz.ntmps51
    go_upto_region 1 with fail
    clear hW1 hb
    go_wp2_with fail
    refine FI.out.mono ?_
    rintro e w2 ⟨rfl, hs, hc⟩
    have FN := Lib.hid (And.intro hs (C1.out.trans hc))
    clear hs hc
    go_wp2
    go_ret
    rw [← HF.out]
    exact ⟨rfl, FN.out.1, FN.out.2⟩
  · obtain rfl : X = 80 := by omega
    clear hX
    rw [doS_5]
    go_enter Tryz.func51, Tryz.ntmps51
    go_upto_region 1 with fail
    clear hW1 hb
    go_wp2_with fail
    refine R5.out.mono ?_
    rintro e w2 ⟨rfl, hs, hc⟩
    have FN := Lib.hid (And.intro hs (C1.out.trans hc))
    clear hs hc
    go_wp2
    go_ret
    exact ⟨rfl, FN.out.1, FN.out.2⟩
  · obtain rfl : X = 96 := by omega
    clear hX
    rw [doS_6]
    go_enter Tryz.func51, Tryz.ntmps51
    go_upto_region 1 with fail
    clear hW1 hb
    go_wp2_with fail
    refine R6.out.mono ?_
    rintro e w2 ⟨rfl, hs, hc⟩
    have FN := Lib.hid (And.intro hs (C1.out.trans hc))
    clear hs hc
    go_wp2
    go_ret
    exact ⟨rfl, FN.out.1, FN.out.2⟩
  · obtain rfl : X = 112 := by omega
    clear hX
    rw [doS_7]
    go_enter Tryz.func51, Tryz.ntmps51
    go_upto_region 1 with fail
    clear hW1 hb
    go_wp2_with fail
    refine R7.out.mono ?_
    rintro e w2 ⟨rfl, hs, hc⟩
    have FN := Lib.hid (And.intro hs (C1.out.trans hc))
    clear hs hc
    go_wp2
    go_ret
    exact ⟨rfl, FN.out.1, FN.out.2⟩
  · obtain rfl : X = 128 := by omega
    clear hX
    rw [doS_8]
    go_enter Tryz.func51, Tryz.ntmps51
    go_upto_region 1 with fail
    clear hW1 hb
    go_wp2_with fail
    refine R8.out.mono ?_
    rintro e w2 ⟨rfl, hs, hc⟩
    have FN := Lib.hid (And.intro hs (C1.out.trans hc))
    clear hs hc
    go_wp2
    go_ret
    exact ⟨rfl, FN.out.1, FN.out.2⟩
end Go.Proofs.YtbnnlbdjjpmgeaaGreat

