import Derived.Test.YtdagnkdonlfobaaGreatM8
import Derived.Deep.RegionLaw
import Derived.StillTailTactics
import Derived.Test.YtdagnkdonlfobaaGreatM6
import Derived.Test.YtdagnkdonlfobaaGreatM4
import Derived.Test.YtdagnkdonlfobaaGreatM2
import Derived.RangeFuncNested
import Derived.RangeFuncBound
import Derived.RangeFuncCalls
import Derived.Shelf.RegionOpen
import Derived.WalkKit
import Derived.OwnWalkIn
import Derived.TacticsInMore
import Derived.RangeFuncIn
import Derived.RangeFuncLeaves
/- A segment is taken into an image in the making. No condition but that its command has at most 2^47 bytes. -/
namespace Go.Proofs.YtdagnkdonlfobaaGreat
open Go.RowKit
variable {w w' : World} {lo g bm : Nat} {h : Hx} {s : St}

/-- A segment more, in its row; and the making's cell that leads to it. -/
theorem holds_seg {wA w3 : World} {sv dv sv' : Value} {l : List Sg} {x : Sg} (a1 : MkgAt wA g h s sv dv bm) (a2 : l.map Sg.seg = s.segs) (a3 : wA.ownsRow lo 58 7 sv l.length (l.flatMap sgCs))
    (a4 : ∀ x ∈ l, wA.ownsRow lo 148 6 x.v x.seg.secs.length (x.seg.secs.flatMap secCs)) (a5 : wA.ownsRow lo 141 2 dv s.deps.length (s.deps.flatMap depCs)) (am : MetAt wA bm s.met) (l1 : lo ≤ g) (l2 : lo ≤ bm)
    (ax : wA.ownsRow lo 148 6 x.v x.seg.secs.length (x.seg.secs.flatMap secCs))
    (ho : w3.ownsRow lo 58 7 sv' (l.length + 1) (l.flatMap sgCs ++ sgCs x)) (hg : wA.grownBy w3 sv.ownBlock) : Holds (w3.setCell ⟨g, 4, none⟩ sv') lo g bm h { s with segs := s.segs ++ [x.seg] } := by
  have hT := typesApart
  have ng : sv.ownBlock ≠ some g := by
    rcases row_off a3 a1 hT.1 with e | e
    · rw [e]; simp
    · exact e
  have nm : sv.ownBlock ≠ some bm := by
    rcases row_off_map a3 am with e | e
    · rw [e]; simp
    · exact e
  have b1 := a1.kept hg ng
  have bm' := am.kept hg nm
  have b5 := a5.kept hg (rows_apart hT.2.2.2.2.1 a5 a3)
  have b4 : ∀ y ∈ l ++ [x], w3.ownsRow lo 148 6 y.v y.seg.secs.length (y.seg.secs.flatMap secCs) := fun y hy => by
    rcases List.mem_append.1 hy with hy | hy
    · exact (a4 y hy).kept hg (rows_apart hT.2.2.2.1 (a4 y hy) a3)
    · rw [List.mem_singleton.1 hy]
      exact ax.kept hg (rows_apart hT.2.2.2.1 ax a3)
  have gS := grown_setCell (i := 4) (grown_refl w3 (some g)) sv'
  refine ⟨⟨sv', dv, l ++ [x], ?_, by rw [List.map_append, a2]; rfl, ?_, fun y hy => (b4 y hy).kept gS (row_off (b4 y hy) b1 hT.2.1), b5.kept gS (row_off b5 b1 hT.2.2.1)⟩, bm'.kept gS (fun e => mkg_off_map b1 bm' (by injection e)), l1, l2⟩
  · unfold MkgAt
    rw [heap_setCell_same w3 g 4 _ _ _ b1]
    rfl
  · have := ho.kept gS (row_off ho b1 hT.1)
    rw [List.length_append, List.flatMap_append]
    simpa using this

theorem own_lower {base lo' : Nat} {T : TypeId} {k n : Nat} {v : Value} {xs : List Value} (h : w.ownsRow base T k v n xs) (hl : lo' ≤ base) : w.ownsRow lo' T k v n xs :=
  ⟨h.1, h.2.imp id (fun ⟨g, cap, cur, hv, hb, r⟩ => ⟨g, cap, cur, hv, Nat.le_trans hl hb, r⟩)⟩
theorem seg_many {b : List Int} (h : segErr b = 0) : (segOf b).secs.length ≤ 64 := by
  have hl : (segOf b).secs.length = manyAt b := by show (secsN b (manyAt b)).length = _; unfold secsN; simp
  rw [hl]
  unfold segErr at h
  split at h; cases h
  split at h; cases h
  split at h; cases h
  split at h; cases h
  split at h; cases h
  split at h; cases h
  omega
theorem SegAt.grown {x : Nat} {z : Seg} {v : Value} (k : SegAt w x z v) (hg : w.grownBy w' none) : SegAt w' x z v := k.kept hg (by simp)

set_option maxHeartbeats 3200000 in
set_option maxRecDepth 20000 in
theorem addSegment_any (H : Holds w lo g bm h s) (b : List Int) (q : Option Addr) (c n : Nat) (hb : IsBytes w q c b) (hn : b.length = n) (hn47 : n ≤ 140737488355328) (hr : Small b) (h16 : s.segs.length ≤ 16) (h64 : 0 ≤ s.secs ∧ s.secs ≤ 64) :
    Calls Tryz.prog 119 #[.pointer (some ⟨g, 0, none⟩), .slice q n c] w fun e w' => AddOut w w' lo g bm h (segS s b) (segE s b) e := by
  have SG := Lib.hid (Segment_any (w := w) b q c n hb hn hn47 hr)
  have HH := Lib.hid H
  have OT := Lib.hid (show segE s b = if segErr b ≠ 0 then segErr b else if s.segs.length = 16 ∨ 64 < s.secs + (segOf b).secs.length then 11 else 0 from rfl)
  have ST := Lib.hid (show segS s b = { s with secs := s.secs + (segOf b).secs.length, segs := s.segs ++ [segOf b] } from rfl)
  clear H hb hn hr
  by_cases h0 : segErr b = 0
  · have OE := Lib.hid (OT.out.trans (if_neg (fun h => h h0)))
    have H0 := Lib.hid h0
    clear h0 OT
    go_enter Tryz.func119, Tryz.ntmps119
    go_wp2_with fail
    refine SG.out.mono ?_
    rintro e w1 ⟨_, hgood, hg⟩
    obtain ⟨q1, N, c1, base, hN, rfl, hown, hbase⟩ := hgood H0.out
    have hN64 : N ≤ 64 := by rw [hN]; exact seg_many H0.out
    have NE := Lib.hid hN
    obtain ⟨⟨nm, ad, sz, of, fs, pr, sl⟩, hS⟩ : ∃ z, z = segOf b := ⟨_, rfl⟩
    rw [← hS] at hN hown ⊢
    have SE := Lib.hid hS
    unfold segV segArr
    have hlw := HH.out.lt
    have g2 := grown1 w1 (.cells #[.string (strOfNums nm), .int .u64 ad, .int .u64 sz, .int .u64 of, .int .u64 fs, .int .i64 pr, .slice q1 N c1] 58)
    have X2 := Lib.hid (show SegAt (w1.alloc (.cells #[.string (strOfNums nm), .int .u64 ad, .int .u64 sz, .int .u64 of, .int .u64 fs, .int .i64 pr, .slice q1 N c1] 58)) w1.heap.size ⟨nm, ad, sz, of, fs, pr, sl⟩ (.slice q1 N c1) from heap_alloc_new w1 _)
    have H2 := Lib.hid (HH.out.grown (grown_trans hg g2))
    have B2 := Lib.hid (below_grown (grown_trans hg g2) hlw (by simp) : Below lo w _)
    have R2 := Lib.hid (own_grown (own_lower hown (Nat.le_trans hlw hbase)) g2)
    have hxg : g < w1.heap.size := by obtain ⟨_, _, a1⟩ := HH.out.at; exact Nat.lt_of_lt_of_le a1.lt hg.size
    clear hgood hg hown hbase hS hN g2 hlw
    simp only []
    go_upto_region 2 with fail
    obtain ⟨w2, hw2⟩ : ∃ w2, w1.alloc (.cells #[.string (strOfNums nm), .int .u64 ad, .int .u64 sz, .int .u64 of, .int .u64 fs, .int .i64 pr, .slice q1 N c1] 58) = w2 := ⟨_, rfl⟩
    obtain ⟨x, hx⟩ : ∃ x, w1.heap.size = x := ⟨_, rfl⟩
    rw [hw2, hx] at X2
    rw [hw2] at H2 B2 R2 ⊢
    simp only [hx] at hxg ⊢
    clear hw2 hx
    obtain ⟨sv, dv, l, a1, a2, a3, a4, a5⟩ := H2.out.ex
    have c25 := a1.c 25 (.int .i64 s.secs) rfl
    have f25 := a1.fz 25
    have gl := a1.lt
    have x6 := X2.out.c.2.2.2.2.2.2
    have xl := X2.out.lt
    have i1 : s.secs + (N : Int) ≤ 9223372036854775807 := by omega
    clear a1 a2 a3 a4 a5
    go_wp2
    go_still_tail 10, (by kernel_rfl)
    change wpList _ _ _ _ _ w2.drew
    have gD : w2.grownBy w2.drew none := grown_drewN (grown_refl w2 none) 1
    have H3 := Lib.hid (H2.out.grown gD)
    have B3 := Lib.hid (B2.out.trans (below_grown gD H2.out.lt (by simp)))
    have R3 := Lib.hid (own_grown R2.out gD)
    have X3 := Lib.hid (X2.out.grown gD)
    clear c25 f25 gl x6 xl gD H2 B2 R2 X2 sv dv l
    generalize w2.drew = w3 at *
    obtain ⟨sv, dv, l, a1, a2, a3, a4, a5⟩ := H3.out.ex
    have c25 := a1.c 25 (.int .i64 s.secs) rfl
    have f25 := a1.fz 25
    have gl := a1.lt
    have gS := grown_setCell (i := 25) (grown_refl w3 (some g)) (.int .i64 (s.secs + N))
    have H4 := Lib.hid (H3.out.cells (s' := { s with secs := s.secs + N }) gS (fun sv dv a => by
      unfold MkgAt
      rw [heap_setCell_same w3 g 25 _ _ _ a]
      rfl) rfl rfl rfl)
    have B4 := Lib.hid (B3.out.trans (below_of gS H3.out.lo1 H3.out.lt))
    have R4 := Lib.hid (R3.out.kept gS (row_off R3.out a1 typesApart.2.1))
    have X4 := Lib.hid (X3.out.kept gS (fun e => by injection e with e; omega))
    clear a1 a2 a3 a4 a5 sv dv l gS
    go_upto_region 5 with fail
    obtain ⟨w4, hw4⟩ : ∃ w4, w3.setCell ⟨g, 25, none⟩ (.int .i64 (s.secs + N)) = w4 := ⟨_, rfl⟩
    rw [hw4] at H4 B4 R4 X4 ⊢
    clear hw4 c25 f25 gl H3 B3 R3 X3
    obtain ⟨sv, dv, l, a1, a2, a3, a4, a5⟩ := H4.out.ex
    obtain ⟨qs, cs, rfl⟩ := own_slice a3
    have hll : l.length = s.segs.length := by rw [← List.length_map (f := Sg.seg), a2]
    have c4 := a1.c 4 (.slice qs l.length cs) rfl
    have c25 := a1.c 25 (.int .i64 (s.secs + N)) rfl
    have gl := a1.lt
    have hNE : (segOf b).secs.length = N := NE.out.symm
    by_cases hfull : s.segs.length = 16 ∨ 64 < s.secs + (N : Int)
    · have OF := Lib.hid (OE.out.trans (if_pos (by rw [hNE]; exact hfull)))
      have hb2 : ((l.length : Int) == 16) = true ∨ (((l.length : Int) == 16) = false ∧ decide (64 < s.secs + (N : Int)) = true) := by
        rw [← hll] at hfull
        by_cases h : l.length = 16
        · exact .inl (by simp; omega)
        · exact .inr ⟨by simp; omega, by simp; omega⟩
      have B5 := Lib.hid B4.out
      clear a1 a2 a3 a4 a5 hfull hll
      generalize l.length = D at *
      rcases hb2 with d1 | ⟨d1, d2⟩
      all_goals
        go_wp2
        go_ret
        exact ⟨by rw [OF.out]; rfl, fun hz => (by rw [OF.out] at hz; cases hz), B5.out⟩
    · have OF := Lib.hid (OE.out.trans (if_neg (by rw [hNE]; exact hfull)))
      have d1 : ((l.length : Int) == 16) = false := by rw [hll]; simp; omega
      have d2 : decide (64 < s.secs + (N : Int)) = false := by simp; omega
      have hlt : l.length < 16 := by omega
      have hsl : sl.length = N := by rw [NE.out, ← SE.out]
      have HSG := Lib.hid (fun (wA w5 : World) (v' : Value) (gA : w4.grownBy wA none) (ho : w5.ownsRow lo 58 7 v' (l.length + 1) (l.flatMap sgCs ++ [.string (strOfNums nm), .int .u64 ad, .int .u64 sz, .int .u64 of, .int .u64 fs, .int .i64 pr, .slice q1 N c1])) (hg : wA.grownBy w5 (Value.slice qs l.length cs).ownBlock) =>
        holds_seg (x := ⟨⟨nm, ad, sz, of, fs, pr, sl⟩, q1, c1⟩) (a1.kept gA (by simp)) a2 (own_grown a3 gA) (fun x hx => own_grown (a4 x hx) gA) (own_grown a5 gA) (H4.out.met.kept gA (by simp)) H4.out.lo1 H4.out.lo2 (by
          have := own_grown R4.out gA
          show World.ownsRow _ _ _ _ (Value.slice q1 sl.length c1) sl.length _
          rw [hsl]
          exact this) (by
          rw [show sgCs ⟨⟨nm, ad, sz, of, fs, pr, sl⟩, q1, c1⟩ = [.string (strOfNums nm), .int .u64 ad, .int .u64 sz, .int .u64 of, .int .u64 fs, .int .i64 pr, .slice q1 N c1] by unfold sgCs Sg.v; simp only []; rw [hsl]]
          exact ho) hg)
      have AK := Lib.hid a1
      have OW := Lib.hid a3
      have NG := Lib.hid (row_off a3 a1 typesApart.1)
      have hr : (l.flatMap sgCs).length = l.length * 7 := flat_len sgCs_len l
      obtain ⟨rows, hrows⟩ : ∃ r, r = l.flatMap sgCs := ⟨_, rfl⟩
      rw [← hrows] at HSG OW
      obtain ⟨D, hD⟩ : ∃ D, D = l.length := ⟨_, rfl⟩
      rw [← hD] at HSG OW c4 d1 hlt NG AK
      clear a1 a2 a3 a4 a5 hfull hll hr hrows hD
      obtain ⟨x0, x1, x2, x3, x4, x5, x6⟩ := X4.out.c
      simp only [] at x0 x1 x2 x3 x4 x5
      have xl := X4.out.lt
      have f4 := AK.out.fz 4
      go_wp2
      have gA : w4.grownBy (w4.alloc (.cells #[.string (strOfNums nm), .int .u64 ad, .int .u64 sz, .int .u64 of, .int .u64 fs, .int .i64 pr, .slice q1 N c1] 58)).drew none := grown_drewN (grown1 w4 _) 1
      have OWA := Lib.hid (own_grown OW.out gA)
      have HNA := Lib.hid (show (w4.alloc (.cells #[.string (strOfNums nm), .int .u64 ad, .int .u64 sz, .int .u64 of, .int .u64 fs, .int .i64 pr, .slice q1 N c1] 58)).drew.heap[w4.heap.size]? = some (.cells ([.string (strOfNums nm), .int .u64 ad, .int .u64 sz, .int .u64 of, .int .u64 fs, .int .i64 pr, .slice q1 N c1] : List Value).toArray 58 (0, 0)) from heap_alloc_new w4 _)
      have hlw4 := H4.out.lt
      have HLO := Lib.hid (show lo ≤ (w4.alloc (.cells #[.string (strOfNums nm), .int .u64 ad, .int .u64 sz, .int .u64 of, .int .u64 fs, .int .i64 pr, .slice q1 N c1] 58)).drew.heap.size from Nat.le_trans hlw4 gA.size)
      have ONE := Lib.hid (show ∀ u ∈ ([.string (strOfNums nm), .int .u64 ad, .int .u64 sz, .int .u64 of, .int .u64 fs, .int .i64 pr, .slice q1 N c1] : List Value), u.oneCell' = true from by
        intro u hu
        simp only [List.mem_cons, List.not_mem_nil, or_false] at hu
        rcases hu with rfl | rfl | rfl | rfl | rfl | rfl | rfl <;> rfl)
      have GA := Lib.hid gA
      have ng : (Value.slice qs D cs).ownBlock ≠ some g := by
        rcases NG.out with e | e
        · rw [e]; simp
        · exact e
      have NGH := Lib.hid ng
      clear gA ng
      go_region_law (refine step_append_st segType (by with_reducible rfl) _ _ (by with_reducible rfl) _ D 1 rows (by rfl) OWA.out [.string (strOfNums nm), .int .u64 ad, .int .u64 sz, .int .u64 of, .int .u64 fs, .int .i64 pr, .slice q1 N c1] rfl w4.heap.size (by rfl) HNA.out ONE.out (by omega) (by decide) HLO.out ?_; intro v5 w5 ho5 hg5; obtain ⟨q5, c5, rfl⟩ := own_slice ho5; have c4' := ((AK.out.kept GA.out (by simp)).kept hg5 NGH.out).c 4 (.slice qs D cs) rfl; have f4' := ((AK.out.kept GA.out (by simp)).kept hg5 NGH.out).fz 4; have gl' := ((AK.out.kept GA.out (by simp)).kept hg5 NGH.out).lt)
      all_goals
        have HF := Lib.hid (HSG.out _ _ _ GA.out ho5 hg5)
        have hlo := fun g' (e : (Value.slice qs D cs).ownBlock = some g') => (OW.out.lt g' e).1
        have B5 := Lib.hid (B4.out.trans (Below.trans (below_grown GA.out hlw4 (by simp)) (below_grown hg5 HLO.out hlo)))
        have B6 := Lib.hid (B5.out.trans (below_of (grown_setCell (i := 4) (grown_refl w5 (some g)) (.slice q5 (D + 1) c5)) H4.out.lo1 (Nat.le_trans HLO.out hg5.size)))
        clear ho5 hg5 c4' f4' gl' B5
        go_wp2
        go_ret
        refine ⟨by rw [OF.out]; rfl, fun _ => ?_, B6.out⟩
        rw [ST.out, hNE, ← SE.out]
        exact HF.out
  · have OE := Lib.hid (OT.out.trans (if_pos h0))
    have H0 := Lib.hid h0
    have hne : (segErr b != 0) = true := by simpa using h0
    clear h0
    obtain ⟨E, hE⟩ : ∃ E, E = segErr b := ⟨_, rfl⟩
    rw [← hE] at hne
    have EE := Lib.hid hE
    go_enter Tryz.func119, Tryz.ntmps119
    go_wp2_with fail
    refine SG.out.mono ?_
    rintro e w1 ⟨hbad, _, hg⟩
    have B1 := Lib.hid (below_grown hg HH.out.lt (by simp) : Below lo w w1)
    obtain rfl := hbad H0.out
    rw [← hE]
    unfold segV segArr Seg.zero
    have B2 := Lib.hid (B1.out.trans (below_grown (grown1 w1 (.cells #[.string (strOfNums []), .int .u64 0, .int .u64 0, .int .u64 0, .int .u64 0, .int .i64 0, .slice none 0 0] 58)) (Nat.le_trans HH.out.lt hg.size) (by simp)))
    clear hbad hg hE
    go_wp2
    go_ret
    exact ⟨by rw [OE.out, ← EE.out]; rfl, fun hz => absurd (OE.out.symm.trans hz) H0.out, B2.out⟩
end Go.Proofs.YtdagnkdonlfobaaGreat

/- A command is taken into an image in the making. No condition but that it has at most 2^47 bytes. -/
namespace Go.Proofs.YtdagnkdonlfobaaGreat
open Go.RowKit
variable {w w' : World} {lo g bm : Nat} {h : Hx} {s : St}

theorem and_pow (N i : Nat) : N &&& 2 ^ i = if N.testBit i = true then 2 ^ i else 0 := by
  apply Nat.eq_of_testBit_eq
  intro j
  rw [Nat.testBit_and, Nat.testBit_two_pow]
  by_cases h : i = j
  · subst h
    cases N.testBit i <;> simp
  · split <;> simp [h]
theorem and31 (n : Int) (h : 0 ≤ n ∧ n < 4294967296) : bits .and .u32 n 2147483648 = if 2147483648 ≤ n then 2147483648 else 0 := by
  have hm : (BitVec.ofInt 32 2147483648).toNat = 2 ^ 31 := by decide
  have key : (BitVec.ofInt 32 n &&& BitVec.ofInt 32 2147483648).toNat = (n % ((2 ^ 32 : Nat) : Int)).toNat &&& 2 ^ 31 := by
    rw [BitVec.toNat_and, BitVec.toNat_ofInt, hm]
  show IntKind.u32.wrap ((BitVec.ofInt 32 n &&& BitVec.ofInt 32 2147483648).toNat : Nat) = _
  have hn : (n % ((2 ^ 32 : Nat) : Int)).toNat = n.toNat := by omega
  rw [key, IntKind.wrap_u32, and_pow, Nat.testBit_eq_decide_div_mod_eq, hn]
  by_cases hh : 2147483648 ≤ n
  · rw [if_pos hh, decide_eq_true (by omega)]
    decide
  · rw [if_neg hh, decide_eq_false (by omega)]
    decide

structure AddArg (w : World) (m : Cm) : Prop where
  cmd : m.cmd = cmdAt m.bytes
  fits : m.Fits
  at' : IsBytes w m.q m.cap m.bytes
  len : m.bytes.length ≤ 140737488355328
/-- Within the bounds that a making keeps. -/
structure Fine (s : St) : Prop where
  met : s.met.length < 900000
  deps : s.deps.length ≤ 64
  segs : s.segs.length ≤ 16
  secs : 0 ≤ s.secs ∧ s.secs ≤ 64

set_option maxHeartbeats 3200000 in
set_option maxRecDepth 20000 in
theorem add_any (H : Holds w lo g bm h s) (m : Cm) (A : AddArg w m) (F : Fine s) :
    Calls Tryz.prog 92 #[.pointer (some ⟨g, 0, none⟩), m.v] w fun e w' => AddOut w w' lo g bm h (stepS s m.bytes) (stepE s m.bytes) e := by
  have hl := F.met
  obtain ⟨cm, q, c, b⟩ := m
  obtain ⟨hcm, hfit, hib, hb47⟩ := A
  simp only [] at hcm hfit hib hb47
  have hcb := hfit.cmd
  simp only [] at hcb
  unfold Cm.v
  simp only []
  obtain ⟨n, hn⟩ : ∃ n, b.length = n := ⟨_, rfl⟩
  rw [hn] at hb47 ⊢
  have g1 := grown1 w (.cells #[.int .u32 cm, .slice q n c] 109)
  have HA := Lib.hid (H.grown g1)
  have CA := Lib.hid (show (w.alloc (.cells #[.int .u32 cm, .slice q n c] 109)).heap[w.heap.size]? = some (.cells #[.int .u32 cm, .slice q n c] 109 (0, 0)) from heap_alloc_new w _)
  have BA := Lib.hid (below_grown g1 H.lt (by simp) : Below lo w (w.alloc (.cells #[.int .u32 cm, .slice q n c] 109)))
  have IA := Lib.hid (hib.kept g1 (by simp))
  obtain ⟨wA, hwA⟩ : ∃ wA, w.alloc (.cells #[.int .u32 cm, .slice q n c] 109) = wA := ⟨_, rfl⟩
  obtain ⟨x, hx⟩ : ∃ x, w.heap.size = x := ⟨_, rfl⟩
  rw [hwA] at HA CA BA IA
  rw [hx] at CA
  have k0 : wA.cell? ⟨x, 0, none⟩ = some (.int .u32 cm) := by rw [cell_of CA.out]; rfl
  have k1 : wA.cell? ⟨x, 1, none⟩ = some (.slice q n c) := by rw [cell_of CA.out]; rfl
  have kl := lt_of_block CA.out
  have ET := Lib.hid (show stepE s b = if cmdAt b = 25 then segE s b else if cmdAt b = 13 then ownE s b else if depKind (cmdAt b) ≠ 0 then depE s b else if isInfo (cmdAt b) ∨ isLone (cmdAt b) ∨ cmdAt b = 2 then spE s b else if cmdAt b = 2147483688 then entE s b else if 2147483648 ≤ cmdAt b then 7 else 0 from rfl)
  have ST := Lib.hid (show stepS s b = if cmdAt b = 25 then segS s b else if cmdAt b = 13 then ownS s b else if depKind (cmdAt b) ≠ 0 then depS s b (depKind (cmdAt b)) else if isInfo (cmdAt b) ∨ isLone (cmdAt b) ∨ cmdAt b = 2 then spS s b else if cmdAt b = 2147483688 then entS s b else s from rfl)
  rw [← hcm] at ET ST
  have HN := Lib.hid hn
  have HF := Lib.hid hfit
  have CM := Lib.hid hcm
  clear H hib g1 hfit hcm hn
  by_cases h25 : cm = 25
  · have E := Lib.hid (ET.out.trans (if_pos h25))
    have S := Lib.hid (ST.out.trans (if_pos h25))
    have K := Lib.hid (addSegment_any HA.out b q c n IA.out HN.out hb47 HF.out.bytes F.segs F.secs)
    subst h25
    clear ET ST
    go_enter Tryz.func92, Tryz.ntmps92
    go_wp2_with fail
    refine K.out.mono ?_
    intro e w2 hO
    have OO := Lib.hid (hO.after BA.out)
    obtain rfl := hO.val
    clear hO
    go_wp2
    go_ret
    exact ⟨by rw [E.out]; rfl, fun hz => by rw [S.out]; exact OO.out.good (E.out.symm.trans hz), OO.out.below⟩
  by_cases h13 : cm = 13
  · have E := Lib.hid (ET.out.trans ((if_neg h25).trans (if_pos h13)))
    have S := Lib.hid (ST.out.trans ((if_neg h25).trans (if_pos h13)))
    have K := Lib.hid (addName_any HA.out b q c n IA.out HN.out hb47 HF.out.bytes (by omega))
    subst h13
    clear ET ST h25
    go_enter Tryz.func92, Tryz.ntmps92
    go_wp2_with fail
    refine K.out.mono ?_
    intro e w2 hO
    have OO := Lib.hid (hO.after BA.out)
    obtain rfl := hO.val
    clear hO
    go_wp2
    go_ret
    exact ⟨by rw [E.out]; rfl, fun hz => by rw [S.out]; exact OO.out.good (E.out.symm.trans hz), OO.out.below⟩
  by_cases hdep : depKind cm ≠ 0
  · have E := Lib.hid (ET.out.trans ((if_neg h25).trans ((if_neg h13).trans (if_pos hdep))))
    have S := Lib.hid (ST.out.trans ((if_neg h25).trans ((if_neg h13).trans (if_pos hdep))))
    have hd4 : cm = 12 ∨ cm = 2147483672 ∨ cm = 2147483679 ∨ cm = 2147483683 := by
      unfold depKind at hdep
      by_cases h1 : cm = 12; exact .inl h1
      by_cases h2 : cm = 2147483672; exact .inr (.inl h2)
      by_cases h3 : cm = 2147483679; exact .inr (.inr (.inl h3))
      by_cases h4 : cm = 2147483683; exact .inr (.inr (.inr h4))
      rw [if_neg h1, if_neg h2, if_neg h3, if_neg h4] at hdep
      exact absurd rfl hdep
    have K := Lib.hid (fun k => addDep_any HA.out b q c n IA.out HN.out hb47 HF.out.bytes k F.deps)
    clear ET ST h25 h13 hdep
    rcases hd4 with rfl | rfl | rfl | rfl
    all_goals
      go_enter Tryz.func92, Tryz.ntmps92
      go_wp2_with fail
      refine (K.out _).mono ?_
      intro e w2 hO
      have OO := Lib.hid (hO.after BA.out)
      obtain rfl := hO.val
      clear hO
      go_wp2
      go_ret
      exact ⟨by rw [E.out]; rfl, fun hz => by rw [S.out]; exact OO.out.good (E.out.symm.trans hz), OO.out.below⟩
  by_cases hsp : isInfo cm ∨ isLone cm ∨ cm = 2
  · have E := Lib.hid (ET.out.trans ((if_neg h25).trans ((if_neg h13).trans ((if_neg hdep).trans (if_pos hsp)))))
    have S := Lib.hid (ST.out.trans ((if_neg h25).trans ((if_neg h13).trans ((if_neg hdep).trans (if_pos hsp)))))
    have K0 := addSpans_any HA.out ⟨cm, q, c, b⟩ ⟨CM.out, HF.out, IA.out, by show b.length ≤ _; rw [HN.out]; exact hb47, hsp⟩ hl
    unfold Cm.v at K0
    simp only [HN.out] at K0
    have K := Lib.hid K0
    have h5 : cm = 34 ∨ cm = 2147483682 ∨ cm = 2147483699 ∨ cm = 2147483700 ∨ cm = 2 := by
      rcases hsp with (h | h) | (h | h) | h
      · exact .inl h
      · exact .inr (.inl h)
      · exact .inr (.inr (.inl h))
      · exact .inr (.inr (.inr (.inl h)))
      · exact .inr (.inr (.inr (.inr h)))
    clear ET ST h25 h13 hdep hsp K0
    rcases h5 with rfl | rfl | rfl | rfl | rfl
    all_goals
      go_enter Tryz.func92, Tryz.ntmps92
      go_wp2_with fail
      refine K.out.mono ?_
      intro e w2 hO
      have OO := Lib.hid (hO.after BA.out)
      obtain rfl := hO.val
      clear hO
      go_wp2
      go_ret
      exact ⟨by rw [E.out]; rfl, fun hz => by rw [S.out]; exact OO.out.good (E.out.symm.trans hz), OO.out.below⟩
  by_cases h88 : cm = 2147483688
  · have E := Lib.hid (ET.out.trans ((if_neg h25).trans ((if_neg h13).trans ((if_neg hdep).trans ((if_neg hsp).trans (if_pos h88))))))
    have S := Lib.hid (ST.out.trans ((if_neg h25).trans ((if_neg h13).trans ((if_neg hdep).trans ((if_neg hsp).trans (if_pos h88))))))
    have K := Lib.hid (addEntry_any HA.out b q c n IA.out HN.out hb47 HF.out.bytes (by omega) (by rw [← CM.out]; exact h88))
    subst h88
    clear ET ST h25 h13 hdep hsp
    go_enter Tryz.func92, Tryz.ntmps92
    go_wp2_with fail
    refine K.out.mono ?_
    intro e w2 hO
    have OO := Lib.hid (hO.after BA.out)
    obtain rfl := hO.val
    clear hO
    go_wp2
    go_ret
    exact ⟨by rw [E.out]; rfl, fun hz => by rw [S.out]; exact OO.out.good (E.out.symm.trans hz), OO.out.below⟩
  have E := Lib.hid (ET.out.trans ((if_neg h25).trans ((if_neg h13).trans ((if_neg hdep).trans ((if_neg hsp).trans (if_neg h88))))))
  have S := Lib.hid (ST.out.trans ((if_neg h25).trans ((if_neg h13).trans ((if_neg hdep).trans ((if_neg hsp).trans (if_neg h88))))))
  have n1 : (cm == 25) = false := by simpa using h25
  have n2 : (cm == 13) = false := by simpa using h13
  have hdk : cm ≠ 12 ∧ cm ≠ 2147483672 ∧ cm ≠ 2147483679 ∧ cm ≠ 2147483683 := by
    refine ⟨?_, ?_, ?_, ?_⟩ <;> (rintro rfl; exact hdep (by decide))
  have n3 : (cm == 12) = false := by simpa using hdk.1
  have n4 : (cm == 2147483672) = false := by simpa using hdk.2.1
  have n5 : (cm == 2147483679) = false := by simpa using hdk.2.2.1
  have n6 : (cm == 2147483683) = false := by simpa using hdk.2.2.2
  have n7 : (cm == 34) = false := by simpa using fun h => hsp (.inl (.inl h))
  have n8 : (cm == 2147483682) = false := by simpa using fun h => hsp (.inl (.inr h))
  have n9 : (cm == 2147483699) = false := by simpa using fun h => hsp (.inr (.inl (.inl h)))
  have n10 : (cm == 2147483700) = false := by simpa using fun h => hsp (.inr (.inl (.inr h)))
  have n11 : (cm == 2) = false := by simpa using fun h => hsp (.inr (.inr h))
  have n12 : (cm == 2147483688) = false := by simpa using h88
  have an := and31 cm hcb
  clear ET ST h25 h13 hdep hsp h88 hdk
  by_cases hhi : 2147483648 ≤ cm
  · have E7 := Lib.hid (E.out.trans (if_pos hhi))
    rw [if_pos hhi] at an
    clear hhi
    go_enter Tryz.func92, Tryz.ntmps92
    go_wp2
    go_ret
    exact ⟨by rw [E7.out]; rfl, fun hz => (by rw [E7.out] at hz; cases hz), BA.out⟩
  · have E0 := Lib.hid (E.out.trans (if_neg hhi))
    rw [if_neg hhi] at an
    clear hhi
    go_enter Tryz.func92, Tryz.ntmps92
    go_wp2
    go_ret
    exact ⟨by rw [E0.out]; rfl, fun _ => by rw [S.out]; exact HA.out, BA.out⟩
end Go.Proofs.YtdagnkdonlfobaaGreat

/- What the loop over the commands has got so far: a row of commands of the call's own, each in a row of its own, no two in one; what keeps it. No condition. -/
namespace Go.Proofs.YtdagnkdonlfobaaGreat
open Go.RowKit
variable {w w' : World}

/-- Whatever lies in the blocks from hi on lies as it lay. -/
structure Over (hi : Nat) (w w' : World) : Prop where
  size : w.heap.size ≤ w'.heap.size
  same : ∀ k, hi ≤ k → k < w.heap.size → w'.heap[k]? = w.heap[k]?
theorem Over.refl (hi : Nat) (w : World) : Over hi w w := ⟨Nat.le_refl _, fun _ _ _ => rfl⟩
theorem Over.trans {hi : Nat} {a b c : World} (h : Over hi a b) (k : Over hi b c) : Over hi a c :=
  ⟨Nat.le_trans h.size k.size, fun i h1 h2 => (k.same i h1 (Nat.lt_of_lt_of_le h2 h.size)).trans (h.same i h1 h2)⟩
theorem Over.of_grown {hi : Nat} {r : Option Nat} (hg : w.grownBy w' r) (hr : ∀ j, r = some j → j < hi) : Over hi w w' :=
  ⟨hg.size, fun k h1 h2 => hg.block k h2 (fun e => by have := hr k e.symm; omega)⟩
theorem Around.trans {lo hi : Nat} {a b c : World} (h : Around lo hi a b) (k : Around lo hi b c) : Around lo hi a c :=
  ⟨Nat.le_trans h.size k.size, fun i h1 h2 => (k.same i h1 h2).trans (h.same i h1 h2)⟩
theorem Around.of_grown {lo hi : Nat} {r : Option Nat} (hg : w.grownBy w' r) (hs : hi ≤ w.heap.size) (hr : ∀ j, r = some j → j < lo ∨ hi ≤ j) : Around lo hi w w' :=
  ⟨hg.size, fun k h1 h2 => hg.block k (by omega) (fun e => by have := hr k e.symm; omega)⟩

theorem OwnM.over {base hi g n cap : Nat} {xs : List Int} (h : OwnM w base g n cap xs) (hv : Over hi w w') (hb : hi ≤ g) : OwnM w' base g n cap xs := by
  have hb : w'.heap[g]? = w.heap[g]? := hv.same g hb h.lt
  have hc : ∀ j, w'.cell? ⟨g, j, none⟩ = w.cell? ⟨g, j, none⟩ := fun j => World.cell?_of_block (a := ⟨g, j, none⟩) hb
  exact ⟨h.lo, Nat.lt_of_lt_of_le h.lt hv.size, h.le, h.len, h.most, fun j hj => by rw [hc]; exact h.there j hj, fun j hj => (World.frozen?_of_block (a := ⟨g, j, none⟩) hb).trans (h.free j hj), fun j hj => by rw [hc]; exact h.cell j hj⟩
theorem own_over {base hi n : Nat} {T : TypeId} {z : Nat} {v : Value} {xs : List Value} (h : w.ownsRow base T z v n xs) (hv : Over hi w w') (hb : hi ≤ base) : w'.ownsRow base T z v n xs := by
  obtain ⟨hn, hw⟩ := h
  refine ⟨hn, ?_⟩
  rcases hw with hw | ⟨g, cap, cur, hv', hbg, hg, hr⟩
  · exact .inl hw
  · exact .inr ⟨g, cap, cur, hv', hbg, (hv.same g (Nat.le_trans hb hbg) (Array.getElem?_eq_some_iff.1 hg).1).trans hg, hr⟩

structure Got (W : World) (base : Nat) (pre : List Cm) (lv : Value) : Prop where
  own : W.ownsRow base 109 2 lv pre.length (rowC pre)
  each : ∀ m ∈ pre, Taken W base m
  apart : (pre.map Cm.q).Nodup
  off : ∀ g, lv.ownBlock = some g → ∀ m ∈ pre, m.q ≠ some ⟨g, 0, none⟩
theorem Got.start (W : World) (base : Nat) : Got W base [] (.slice none 0 0) :=
  ⟨World.ownsRow_nil W base _ 2, fun m h => (by cases h), List.nodup_nil, fun g h => (by simp [Value.ownBlock] at h)⟩
theorem Got.over {hi base : Nat} {pre : List Cm} {lv : Value} (h : Got w base pre lv) (hv : Over hi w w') (hb : hi ≤ base) : Got w' base pre lv := by
  refine ⟨own_over h.own hv hb, fun m hm => ?_, h.apart, h.off⟩
  obtain ⟨g, hq, ho⟩ := h.each m hm
  exact ⟨g, hq, ho.over hv (Nat.le_trans hb ho.lo)⟩
theorem Got.lt {base : Nat} {pre : List Cm} {lv : Value} (h : Got w base pre lv) {m : Cm} (hm : m ∈ pre) {g : Nat} (hq : m.q = some ⟨g, 0, none⟩) : base ≤ g ∧ g < w.heap.size := by
  obtain ⟨g', hq', ho⟩ := h.each m hm
  rw [hq] at hq'
  injection hq' with e
  injection e with e
  subst e
  exact ⟨ho.lo, ho.lt⟩
/-- One more, appended in the world W2 that lies as W0 did from base on. -/
theorem Got.step {base : Nat} {W0 W W2 W3 : World} {pre : List Cm} {lv lv' : Value} {m : Cm} (h : Got W0 base pre lv) (hb : base ≤ W0.heap.size) (h1 : Over base W0 W2) (hm : Taken W W0.heap.size m) (h2 : Over W0.heap.size W W2) (_hs : W0.heap.size ≤ W.heap.size)
    (ho : W3.ownsRow base 109 2 lv' (pre.length + 1) (rowC (pre ++ [m]))) (hg : W2.grownBy W3 lv.ownBlock) (hat : lv'.ownBlock = lv.ownBlock ∨ lv'.ownBlock = some W2.heap.size) : Got W3 base (pre ++ [m]) lv' := by
  obtain ⟨g, hq, hO⟩ := hm
  have hO2 : OwnM W2 W0.heap.size g m.bytes.length m.cap m.bytes := hO.over h2 hO.lo
  have hold : ∀ x ∈ pre, ∀ gx, x.q = some ⟨gx, 0, none⟩ → base ≤ gx ∧ gx < W0.heap.size := fun x hx gx hqx => h.lt hx hqx
  have hlv : ∀ k, lv.ownBlock = some k → k < W0.heap.size := fun k hk => (h.own.lt k hk).2
  refine ⟨by rw [List.length_append]; exact ho, fun x hx => ?_, ?_, fun k hk x hx => ?_⟩
  · rcases List.mem_append.1 hx with hx | hx
    · obtain ⟨gx, hqx, hox⟩ := h.each x hx
      exact ⟨gx, hqx, (hox.over h1 hox.lo).kept hg (fun e => h.off gx e x hx hqx)⟩
    · obtain rfl : x = m := by simpa using hx
      have := hO2.kept hg (fun e => by have := hlv g e; have := hO.lo; omega)
      exact ⟨g, hq, this.mono hb⟩
  · rw [List.map_append, List.nodup_append]
    refine ⟨h.apart, by simp, fun a ha b hb' e => ?_⟩
    simp only [List.map_cons, List.map_nil, List.mem_singleton] at hb'
    subst hb'
    obtain ⟨x, hx, rfl⟩ := List.mem_map.1 ha
    have := (hold x hx g (e.trans hq)).2
    have := hO.lo
    omega
  · rcases List.mem_append.1 hx with hx | hx
    · obtain ⟨gx, hqx, hox⟩ := h.each x hx
      rcases hat with e | e
      · exact h.off k (e ▸ hk) x hx
      · rw [hk] at e
        injection e with e
        intro hc
        have := (hold x hx k hc).2
        have := h1.size
        omega
    · obtain rfl : x = m := by simpa using hx
      intro hc
      rw [hq] at hc
      injection hc with hc
      injection hc with hc
      rcases hat with e | e
      · have := hlv k (e ▸ hk)
        have := hO.lo
        omega
      · rw [hk] at e
        injection e with e
        have := hO2.lt
        omega
theorem Got.cms {base n c : Nat} {q : Option Addr} {pre : List Cm} (h : Got w base pre (.slice q n c)) (hn : pre.length = n) : IsCms w q pre ∧ n ≤ c ∧ c ≤ 9223372036854775807 := by
  subst hn
  refine IsCms.of_own rfl h.own fun m hm => ?_
  obtain ⟨g, hq, ho⟩ := h.each m hm
  rw [hq]
  exact ho.bytes _
end Go.Proofs.YtdagnkdonlfobaaGreat

/- A range over a function whose iterator writes cells of its own between two rounds: the loop's record, laid, told as three rules. No condition but that the statement stands in no round. -/
namespace Go.Proofs.YtdagnkdonlfobaaGreat
open Go.RowKit
variable {w w' : World}

/-- What a call of yield comes to: the left sides are assigned to, the record is busy, the body runs. -/
def YieldRule (P : Program) (ps : Array Tmp) (assign body : Code) (tmps : Array Value) (rec : LoopState → Option Code → Loop) : Prop :=
  ∀ (l : Nat) (args : Array Value) (W : World) (R : Ending → World → Prop), W.heap[l]? = some (.loop (rec .ready none)) → args.size = ps.size →
    assign.wpIn (Fence.wide.inRound l) 0 P (Exit.then (fun a₁ W₁ => W₁.heap[l]? = some (.loop (rec .ready none)) ∧ (W₁.heap[l]? = some (.loop (rec .ready none)) → body.wpIn (Fence.wide.inRound l) 0 P (roundPost P l R) a₁ (W₁.putObj l (.loop (rec .busy none))))) (fun _ _ _ => False))
      { tmps := (ps.zip args).foldl (fun t (p, v) => t.setIfInBounds p v) tmps, defers := [] } W →
    YieldAt Fence.wide 0 P l args W R
def EndRule (P : Program) (rec : LoopState → Option Code → Loop) : Prop :=
  ∀ (l : Nat) (W : World) (jump : Option Code), W.heap[l]? = some (.loop (rec .busy none)) →
    (Instr.endRound l jump).run P W = .ok (.bool jump.isNone) (W.putObj l (.loop (rec (if jump.isNone then .ready else .done) jump)))
def OutRule (P : Program) (rec : LoopState → Option Code → Loop) : Prop :=
  ∀ (l : Nat) (W : World) (st : LoopState) (pe : Option Code), st ≠ .busy → W.heap[l]? = some (.loop (rec st pe)) →
    (Instr.endLoop l).run P W = .ok pe (W.putObj l (.loop (rec .exhausted pe)))

theorem wp_rangeFunc_rec {P : Program} {g : Operand} {ps : Array Tmp} {assign body : Code} {Q : Exit → Act → World → Prop} {a : Act} {gf : Nat} {lb : Array Value}
    (hg : a.eval g = .func (.func gf) #[] lb) (eg : ∀ args w, (callFunc gf args).run P w = .ok (.enter gf args) w)
    (h : ∀ rec : LoopState → Option Code → Loop, YieldRule P ps assign body a.tmps rec → EndRule P rec → OutRule P rec →
      Calls P gf (#[.func (.yield (w.heap.size + 1)) #[] #[]] ++ lb) ((w.alloc (.deferred (some []))).alloc (.loop (rec .ready none)))
        (rangePost Fence.wide 1 P (w.heap.size + 1) Q { a with defers := { target := .collected w.heap.size, args := #[] } :: a.defers })) :
    (Code.rangeFunc g ps assign body).wp P Q a w := by
  refine (wpIn_wide (n := 1)).1 (wpIn_rangeFunc ?_)
  intro fn _
  obtain ⟨rec, hrec⟩ : ∃ rec : LoopState → Option Code → Loop, rec = fun st pe => { state := st, pending := pe, fn, tmps := a.tmps, params := ps, assign, body, defers := w.heap.size } := ⟨_, rfl⟩
  refine ⟨w.heap.size + 1, [{ target := .collected w.heap.size, args := #[] }], (w.alloc (.deferred (some []))).alloc (.loop (rec .ready none)), { target := .fn (.func gf) lb, args := #[.func (.yield (w.heap.size + 1)) #[] #[]] },
    (w.alloc (.deferred (some []))).alloc (.loop (rec .ready none)), gf, #[.func (.yield (w.heap.size + 1)) #[] #[]] ++ lb, (w.alloc (.deferred (some []))).alloc (.loop (rec .ready none)), ?_, ?_, ?_, ?_, fun _ => Nat.le_refl _, ?_⟩
  · rw [hrec]; exact run_enterLoop_outer _ _ _ _ _
  · simp only [resolve, hg]
    simp [go_sem]
  · intro _ _; trivial
  · simp [invoke, go_sem, eg]
  · refine callsIn_wide.2 (h rec ?_ ?_ ?_)
    · intro l args W R hl hs hw
      have hy := run_yield (P := P) (args := args) hl (by rw [hrec]; exact hs)
      rw [hrec] at hy
      refine ⟨fn, _, assign, body, hy, roundIn_of_wpIn trivial (wpIn_mono hw ?_)⟩
      intro e a₁ W₁ hk
      cases e with
      | normal =>
        have hb := run_beginRound (P := P) hk.1 (by rw [hrec])
        refine ⟨_, hb, ?_⟩
        have := hk.2 hk.1
        rw [hrec] at this ⊢
        exact this
      | exit id => exact hk
      | goto t => exact hk
      | ret => exact hk
      | panic c => exact hk
      | outgrown => exact hk
    · intro l W jump hl
      have := run_endRound (P := P) jump hl
      rw [hrec] at this ⊢
      exact this
    · intro l W st pe hst hl
      have := run_endLoop (P := P) hl (by rw [hrec]; exact hst)
      rw [hrec] at this ⊢
      exact this
end Go.Proofs.YtdagnkdonlfobaaGreat
