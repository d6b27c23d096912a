/- Parts of the proof, put together: RbY, PenT, Bld, OwnL, RbZ, FxC, FxD, FxS, SortO, SortFx, FxR, FxQ, FxG. No condition beyond those that each part names. -/
import Derived.Shelf.Small.Bits
import Derived.Shelf.Small.Strs
import Derived.Shelf.Strconv.Itoa0
import Derived.Shelf.Strings.Search1
import Derived.Shelf.Bytes.SlIndexAt
import Derived.Shelf.Bytes.SlSearch0
import Derived.Ground.SlbCloneProg
import Derived.Shelf.Bytes.SlClone
import Derived.Shelf.Bytes.IndexByte
import Derived.Test.YtbnnlbdjjpmgeaaGreatProg
import Derived.Test.YtbnnlbdjjpmgeaaGreatRows
import Derived.WalkKit
import Derived.WalkSpells
import Derived.WalkLawsBesides
import Derived.BigQuiet
import Derived.Deep.QuietTactic
import Derived.Lib.Hide
import Derived.IntWalk
import Derived.OneCell
import Derived.Laws.Rows
import Derived.Laws.BytesArg
import Derived.Shelf.Bytes.SlEqualAll
import Derived.Lib.SlFresh
import Derived.Maps.AppendAt
import Derived.OpenShut
import Derived.ProofKit
import Derived.Deep.AppendSrc
import Derived.Deep.Upon
import Derived.Lib.AppendZeros
import Derived.Laws.IdiomStrings
import Derived.Lib.AppendZerosOnto
import Derived.Laws.StructEq
import Derived.Below
import Derived.Shelf.Abstract
import Derived.Laws.ResultCell
import Derived.Deep.Slices
import Derived.ChangeSame
import Derived.Laws.OwnMore
import Derived.Stop.Asserts
import Derived.Laws.Externs
import Derived.Laws.Bits128
import Derived.Lib.SmallJoins
import Derived.Deep.Cut
import Derived.Deep.CutRange
import Derived.WalkArith
import Derived.Maps.Own
import Derived.Maps.OwnOps
import Derived.Maps.OwnSet
import Derived.Maps.Views
import Derived.RangeFuncRecord
import Derived.RangeFuncSeq
import Derived.RangeFuncCalls
import Derived.RangeFuncBound
import Derived.OwnWalkIn
import Derived.TacticsInMore
import Derived.Shelf.RegionOpen
import Derived.Deep.RegionHeld3
import Derived.BigRegion
import Derived.Deep.RegionLaw
import Derived.StillTailTactics
import Derived.RangeFuncNested
import Derived.RangeFuncIn
import Derived.RangeFuncLeaves
import Derived.RegionTactic
import Derived.Laws.Slices
import Derived.Lib.ConvBytes
import Derived.StringKeys
import Derived.WideShapes
import Derived.Lib.QuietBelow
import Derived.Laws.Tables
import Derived.BigFrame
import Derived.Lib.EndianBits
import Derived.ChangeAlike
import Derived.WalkMore
import Derived.Deep.LoopGhost
import Derived.PlainAid
import Derived.Lib.SlBytesRow
import Derived.Deep.Onto
import Derived.Laws.EntriesVeiled
import Derived.Shelf.SlSortCmp.WholeK
import Derived.Shelf.SlGeneric
import Derived.Ground.SlsfProg
import Derived.Sort.Walk0
import Derived.Laws.CopyOwn
import Derived.Test.YtbnnlbdjjpmgeaaGreatPR1
import Derived.Test.YtbnnlbdjjpmgeaaGreatPR2
import Derived.Test.YtbnnlbdjjpmgeaaGreatPR3
namespace Go.Proofs.YtbnnlbdjjpmgeaaGreat
open Go.RowKit
variable {w w' W V w0 : World} {lo hi a : Nat} {xs : List Int} {big : Bool} {g : Nat}

set_option maxRecDepth 20000 in
theorem behind_any (o : Int) (ho : 0 ≤ o ∧ o < 16) : Calls Tryz.prog 95 #[.int .u8 (16 * o)] w fun e w' => e = .returned (.int .i64 (behN o)) ∧ w = w' := by
  rcases (show o = 0 ∨ o = 1 ∨ o = 2 ∨ o = 3 ∨ o = 4 ∨ o = 5 ∨ o = 6 ∨ o = 7 ∨ o = 8 ∨ o = 9 ∨ o = 10 ∨ o = 11 ∨ o = 12 ∨ o = 13 ∨ o = 14 ∨ o = 15 by omega) with rfl | rfl | rfl | rfl | rfl | rfl | rfl | rfl | rfl | rfl | rfl | rfl | rfl | rfl | rfl | rfl
  all_goals
    go_enter Tryz.func95, Tryz.ntmps95
    go_wp2
    go_ret
    exact ⟨rfl, rfl⟩
theorem byte_bits : ∀ b : Fin 256, bits .andNot .u64 ((b.val : Nat) : Int) 15 = ((16 * (b.val / 16) : Nat) : Int) ∧ bits .and .u64 ((b.val : Nat) : Int) 15 = ((b.val % 16 : Nat) : Int) := by decide +kernel
theorem run_loadOp {o : RbO} (k : OpAt w g o) : (loadVar 113 ⟨g, 0, none⟩).run Tryz.prog w = .ok (opV o) w :=
  run_loadVar_row w g _ _ _ _ _ k Tryz.underlying113 rfl (by kernel_rfl)
theorem results_op {o : RbO} {fn : Func} {p : Tmp} (hr : fn.results = #[.cell p 113]) {tmps : Array Value} (hp : tmps.getD p undef = .pointer (some ⟨g, 0, none⟩)) (h : OpAt w g o) :
    (results fn tmps).run Tryz.prog w = .ok (opV o) w := by
  have e : (asAddr (.pointer (some ⟨g, 0, none⟩)) : Sem Addr).run Tryz.prog w = .ok ⟨g, 0, none⟩ w := rfl
  simp only [Array.getD_eq_getD_getElem?] at hp
  simp only [results, hr]
  simp [Sem.run_bind, Result.andThen, hp, e, run_loadOp h]
theorem OpAt.put4 {o : RbO} (k : OpAt w g o) (p : RbO) : OpAt ((((w.setCell ⟨g, 0, none⟩ (.int .u8 (16 * p.what))).setCell ⟨g, 1, none⟩ (.int .u64 p.imm)).setCell ⟨g, 2, none⟩ (.int .u64 p.a)).setCell ⟨g, 3, none⟩ (.int .u64 p.b)) g p := by
  unfold OpAt
  rw [heap_setCell_same _ g 3 _ _ _ (heap_setCell_same _ g 2 _ _ _ (heap_setCell_same _ g 1 _ _ _ (heap_setCell_same w g 0 _ _ _ k)))]
  rfl
theorem grown_put4o (h : w.grownBy w' (some g)) (v0 v1 v2 v3 : Value) : w.grownBy ((((w'.setCell ⟨g, 0, none⟩ v0).setCell ⟨g, 1, none⟩ v1).setCell ⟨g, 2, none⟩ v2).setCell ⟨g, 3, none⟩ v3) (some g) :=
  grown_setCell (grown_setCell (grown_setCell (grown_setCell h _) _) _) _
theorem grown_new_any {w1 : World} {q : Option Nat} {g : Nat} (h : w.grownBy w1 q) (k : w1.grownBy w' (some g)) (hg : w.heap.size ≤ g) : w.grownBy w' q :=
  ⟨k.os.trans h.os, k.tape.trans h.tape, k.output.trans h.output, Nat.le_trans h.size k.size, fun i hi hr => (k.block i (Nat.lt_of_lt_of_le hi h.size) (fun e => by injection e with e; omega)).trans (h.block i hi hr)⟩
structure TkO (w w' : World) (lo hi a : Nat) (xs : List Int) (big : Bool) (p : Nat) (e : Ending) : Prop where
  ex : ∃ (v : Int × Int) (s : Cs), e = .returned (opV ⟨xs.getD p 0 / 16, xs.getD p 0 % 16, v.1, v.2⟩) ∧ Sim (numsP (xs.getD p 0 / 16)) xs (p + 1, false) v s ∧ PenS w' lo hi a xs s big ∧ U64 v.1 ∧ U64 v.2
  grown : w.grownBy w' (some a)
theorem ul_u64 {s : Cs} : U64 (ulS xs s).1 := ⟨ulS_bd.1, ulS_bd.2⟩
set_option maxRecDepth 20000 in
set_option maxHeartbeats 1600000 in
theorem take6_any {p : Nat} (h : PenS w lo hi a xs (p, false) big) (hp : p < xs.length) :
    Calls Tryz.prog 48 #[.pointer (some ⟨a, 0, none⟩)] w fun e w' => TkO w w' lo hi a xs big p e := by
  have hsm := h.small
  have hb := hsm (xs.getD p 0) (by rw [List.getD_eq_getElem?_getD, List.getElem?_eq_getElem hp]; exact List.getElem_mem hp)
  obtain ⟨b, hbe⟩ : ∃ b : Nat, xs.getD p 0 = (b : Int) := ⟨(xs.getD p 0).toNat, by omega⟩
  have hb256 : b < 256 := by omega
  obtain ⟨f1, f2⟩ := byte_bits ⟨b, hb256⟩
  simp only [] at f1 f2
  have g1 := grown1 w (.cells #[.int .u8 0, .int .u64 0, .int .u64 0, .int .u64 0] 113)
  have z1 : OpAt (w.alloc (.cells #[.int .u8 0, .int .u64 0, .int .u64 0, .int .u64 0] 113)) w.heap.size ⟨0, 0, 0, 0⟩ := heap_alloc_new w _
  obtain ⟨W1, hW1⟩ : ∃ W, w.alloc (.cells #[.int .u8 0, .int .u64 0, .int .u64 0, .int .u64 0] 113) = W := ⟨_, rfl⟩
  obtain ⟨r, hr⟩ : ∃ b, w.heap.size = b := ⟨_, rfl⟩
  rw [hW1] at g1 z1
  rw [hr] at z1
  have NB := Lib.hid (pen_by (h.same g1))
  have hby : byS xs (p, false) = ((b : Int), (p + 1, false)) := by unfold byS; rw [if_pos ⟨rfl, hp⟩, hbe]
  rw [hby] at NB
  obtain ⟨O, hO⟩ : ∃ O, O = b / 16 := ⟨_, rfl⟩
  obtain ⟨I, hI⟩ : ∃ I, I = b % 16 := ⟨_, rfl⟩
  have hO16 : O < 16 := by omega
  have hI16 : I < 16 := by omega
  rw [← hO] at f1
  rw [← hI] at f2
  have e1 : xs.getD p 0 / 16 = (O : Int) := by rw [hbe]; omega
  have e2 : xs.getD p 0 % 16 = (I : Int) := by rw [hbe]; omega
  have EQ := Lib.hid (And.intro e1 e2)
  have HP := Lib.hid h
  have Z1 := Lib.hid z1
  have G1 := Lib.hid g1
  have HR := Lib.hid hr
  have BH := Lib.hid (fun V => behind_any (w := V) (O : Int) (by omega))
  obtain ⟨X, hX⟩ : ∃ X : Nat, X = 16 * O := ⟨_, rfl⟩
  rw [← hX] at f1
  have hX2 : 16 * (O : Int) = (X : Int) := by omega
  rw [hX2] at BH
  have hX256 : X ≤ 240 := by omega
  have HX := Lib.hid hX2
  have m1 : IntKind.u8.wrap (X : Int) = X := by rw [IntKind.wrap_u8]; omega
  have m2 : (X : Int) % 256 = X := by omega
  obtain ⟨k, hk⟩ : ∃ k, k = behN (O : Int) := ⟨_, rfl⟩
  rw [← hk] at BH
  have hk3 : k = 0 ∨ k = 1 ∨ k = 2 := by
    rw [hk]
    unfold behN
    split
    · exact .inr (.inl rfl)
    · split
      · exact .inr (.inr rfl)
      · exact .inl rfl
  have HK := Lib.hid hk
  clear h z1 g1 hb hsm hby hbe e1 e2 hX hX2 hk hO hI hp
  go_enter Tryz.func48, Tryz.ntmps48
  go_upto_region 1 with fail
  clear hW1 hr
  go_wp2_with fail
  refine NB.out.mono ?_
  rintro e w2 ⟨rfl, hp2, hg2⟩
  have G2 := Lib.hid (grown_trans (grown_any G1.out _) hg2)
  have hra : r ≠ a := by have := HR.out; have := HP.out.lt; omega
  have Z2 := Lib.hid (Z1.out.kept hg2 (by intro e; injection e with e; exact hra e.symm))
  have g3 := grown1 w2 (.cells #[.int .u8 (X : Int), .int .u64 (I : Int), .int .u64 0, .int .u64 0] 113)
  have o3 : OpAt (w2.alloc (.cells #[.int .u8 (X : Int), .int .u64 (I : Int), .int .u64 0, .int .u64 0] 113)) w2.heap.size ⟨O, I, 0, 0⟩ := by
    have := heap_alloc_new w2 (.cells #[.int .u8 (X : Int), .int .u64 (I : Int), .int .u64 0, .int .u64 0] 113)
    unfold OpAt opArr
    simp only []
    rw [HX.out]
    exact this
  obtain ⟨W3, hW3⟩ : ∃ W, w2.alloc (.cells #[.int .u8 (X : Int), .int .u64 (I : Int), .int .u64 0, .int .u64 0] 113) = W := ⟨_, rfl⟩
  obtain ⟨o, ho⟩ : ∃ b, w2.heap.size = b := ⟨_, rfl⟩
  rw [hW3] at g3 o3
  rw [ho] at o3
  obtain ⟨d0, d1, d2, d3⟩ := o3.cells4
  simp only [] at d0 d1 d2 d3
  rw [HX.out] at d0
  have ol := o3.lt
  have O3 := Lib.hid o3
  have P3 := Lib.hid (hp2.same g3)
  have G3 := Lib.hid (grown_trans G2.out (grown_any g3 _))
  have Z3 := Lib.hid (Z2.out.kept g3 (by simp))
  have OH := Lib.hid (show hi ≤ o ∧ w.heap.size ≤ o ∧ o ≠ r by
    have h1 := hp2.sz
    have h2 := Z2.out.lt
    have h3 := G2.out.size
    omega)
  have RH := Lib.hid (show hi ≤ r by have := HP.out.sz; have := HR.out; omega)
  clear hp2 hg2 g3 o3 Z2 G2 hra
  have HW3 := Lib.hid hW3
  have HO := Lib.hid ho
  clear hW3 ho
  go_upto_region 3 with fail
  rw [HW3.out, HO.out]
  clear f1 f2 m1 m2
  go_wp2_with fail
  refine (BH.out _).mono ?_
  rintro e w4 ⟨rfl, hw4⟩
  have hw5 := hw4
  subst hw5
  clear hw4
  have zl := Z3.out.lt
  obtain ⟨zc0, zc1, zc2, zc3⟩ := Z3.out.cells4
  have zf0 := Z3.out.fz 0
  have zf1 := Z3.out.fz 1
  have zf2 := Z3.out.fz 2
  have zf3 := Z3.out.fz 3
  have ld := run_loadOp O3.out
  unfold opV opArr at ld
  simp only [] at ld
  rw [HX.out] at ld
  have NP := Lib.hid (show ∀ s : Cs, k = 0 → Sim (numsP (xs.getD p 0 / 16)) xs s ((0 : Int), (0 : Int)) s from fun s h0 => by
    rw [EQ.out.1]
    unfold numsP
    rw [if_pos (by rw [← HK.out]; exact h0)]
    exact Sim.R _ _)
  have NP1 := Lib.hid (show ∀ s : Cs, k = 1 → Sim (numsP (xs.getD p 0 / 16)) xs s ((ulS xs s).1, (0 : Int)) (ulS xs s).2 from fun s h0 => by
    rw [EQ.out.1]
    unfold numsP
    rw [if_neg (by rw [← HK.out]; omega), if_pos (by rw [← HK.out]; exact h0)]
    exact Sim.B (sim_ul xs s) (Sim.R _ _))
  have NP2 := Lib.hid (show ∀ s : Cs, k = 2 → Sim (numsP (xs.getD p 0 / 16)) xs s ((ulS xs s).1, (ulS xs (ulS xs s).2).1) (ulS xs (ulS xs s).2).2 from fun s h0 => by
    rw [EQ.out.1]
    unfold numsP
    rw [if_neg (by rw [← HK.out]; omega), if_neg (by rw [← HK.out]; omega)]
    exact Sim.B (sim_ul xs s) (Sim.B (sim_ul xs _) (Sim.R _ _)))
  rcases hk3 with rfl | rfl | rfl
  · have NQ := Lib.hid (NP.out (p + 1, false) rfl)
    clear NP NP1 NP2
    go_wp2
    refine wp_loop_rounds 1 ?_
    rw [rounds_succ]
    go_wp2
    have PT := Z3.out.put4 ⟨O, I, 0, 0⟩
    have GP := grown_put4o (grown_refl W3 (some r)) (.int .u8 (16 * (O : Int))) (.int .u64 I) (.int .u64 0) (.int .u64 0)
    simp only [] at PT
    rw [HX.out] at PT GP
    refine bodyPost_ret (results_op rfl rfl PT) rfl ?_
    exact ⟨⟨(0, 0), (p + 1, false), by rw [EQ.out.1, EQ.out.2], NQ.out, Pen.kept P3.out GP (.inr RH.out), ⟨by decide, by decide⟩, ⟨by decide, by decide⟩⟩, grown_new_any G3.out GP (by have := HR.out; omega)⟩
  · have UL := Lib.hid (pen_ul (s := (p + 1, false)) P3.out)
    obtain ⟨⟨v1, s1⟩, hu⟩ : ∃ z, z = ulS xs (p + 1, false) := ⟨_, rfl⟩
    have UB := Lib.hid (show U64 v1 by have := ul_u64 (xs := xs) (s := (p + 1, false)); rw [← hu] at this; exact this)
    have NQ := Lib.hid (NP1.out (p + 1, false) rfl)
    rw [← hu] at UL NQ
    clear hu NP NP1 NP2 ld zl zf0 zf1 zf2 zf3 zc0 zc1 zc2 zc3
    go_wp2
    refine wp_loop_rounds 2 ?_
    rw [rounds_succ]
    go_wp2_with fail
    refine UL.out.mono ?_
    rintro e w5 ⟨rfl, hp5, hg5⟩
    have hoa : o ≠ a := by have := OH.out; have := P3.out.up; omega
    have hra : r ≠ a := by have := RH.out; have := P3.out.up; omega
    have o5 := O3.out.kept hg5 (by intro e; injection e with e; exact hoa e.symm)
    have z5 := Z3.out.kept hg5 (by intro e; injection e with e; exact hra e.symm)
    obtain ⟨d0, d1, d2, d3⟩ := o5.cells4
    have df2 := o5.fz 2
    have ol5 := o5.lt
    simp only [] at d0 d1 d2 d3
    rw [HX.out] at d0
    have S5 := Lib.hid (o5.setA v1)
    have gs := grown_setCell (i := 2) (grown_refl w5 (some o)) (.int .u64 v1)
    have Z6 := Lib.hid (z5.kept gs (by intro e; injection e with e; exact OH.out.2.2 e))
    have P6 := Lib.hid (Pen.kept hp5 gs (.inr OH.out.1))
    have G6 := Lib.hid (grown_new_any (grown_trans G3.out hg5) gs OH.out.2.1)
    clear hp5 hg5 o5 z5 hoa hra
    go_upto_region 7 with fail
    clear d0 d1 d2 d3 df2 ol5 gs
    obtain ⟨W6, hW6⟩ : ∃ W, w5.setCell ⟨o, 2, none⟩ (.int .u64 v1) = W := ⟨_, rfl⟩
    rw [hW6] at S5 Z6 P6 G6 ⊢
    clear hW6
    have ld := run_loadOp S5.out
    unfold opV opArr at ld
    simp only [] at ld
    rw [HX.out] at ld
    obtain ⟨d0, d1, d2, d3⟩ := S5.out.cells4
    simp only [] at d0 d1 d2 d3
    rw [HX.out] at d0
    obtain ⟨zc0, zc1, zc2, zc3⟩ := Z6.out.cells4
    have zl := Z6.out.lt
    have zf0 := Z6.out.fz 0
    have zf1 := Z6.out.fz 1
    have zf2 := Z6.out.fz 2
    have zf3 := Z6.out.fz 3
    go_wp2
    rw [rounds_succ]
    go_wp2
    have PT := Z6.out.put4 ⟨O, I, v1, 0⟩
    have GP := grown_put4o (grown_refl W6 (some r)) (.int .u8 (16 * (O : Int))) (.int .u64 I) (.int .u64 v1) (.int .u64 0)
    simp only [] at PT
    rw [HX.out] at PT GP
    refine bodyPost_ret (results_op rfl rfl PT) rfl ?_
    exact ⟨⟨(v1, 0), s1, by rw [EQ.out.1, EQ.out.2], NQ.out, Pen.kept P6.out GP (.inr RH.out), UB.out, ⟨Int.le_refl 0, show (0 : Int) < 18446744073709551616 by decide⟩⟩, grown_new_any G6.out GP (by have := HR.out; omega)⟩
  · have UL := Lib.hid (pen_ul (s := (p + 1, false)) P3.out)
    obtain ⟨⟨v1, s1⟩, hu⟩ : ∃ z, z = ulS xs (p + 1, false) := ⟨_, rfl⟩
    obtain ⟨⟨v2, s2⟩, hu2⟩ : ∃ z, z = ulS xs s1 := ⟨_, rfl⟩
    have UB := Lib.hid (show U64 v1 by have := ul_u64 (xs := xs) (s := (p + 1, false)); rw [← hu] at this; exact this)
    have UB2 := Lib.hid (show U64 v2 by have := ul_u64 (xs := xs) (s := s1); rw [← hu2] at this; exact this)
    have NQ := Lib.hid (NP2.out (p + 1, false) rfl)
    rw [← hu] at UL NQ
    simp only [] at NQ
    rw [← hu2] at NQ
    have HU2 := Lib.hid hu2
    clear hu hu2 NP NP1 NP2 ld zl zf0 zf1 zf2 zf3 zc0 zc1 zc2 zc3
    go_wp2
    refine wp_loop_rounds 3 ?_
    rw [rounds_succ]
    go_wp2_with fail
    refine UL.out.mono ?_
    rintro e w5 ⟨rfl, hp5, hg5⟩
    have hoa : o ≠ a := by have := OH.out; have := P3.out.up; omega
    have hra : r ≠ a := by have := RH.out; have := P3.out.up; omega
    have o5 := O3.out.kept hg5 (by intro e; injection e with e; exact hoa e.symm)
    have z5 := Z3.out.kept hg5 (by intro e; injection e with e; exact hra e.symm)
    obtain ⟨d0, d1, d2, d3⟩ := o5.cells4
    have df2 := o5.fz 2
    have ol5 := o5.lt
    simp only [] at d0 d1 d2 d3
    rw [HX.out] at d0
    have S5 := Lib.hid (o5.setA v1)
    have gs := grown_setCell (i := 2) (grown_refl w5 (some o)) (.int .u64 v1)
    have Z6 := Lib.hid (z5.kept gs (by intro e; injection e with e; exact OH.out.2.2 e))
    have P6 := Lib.hid (Pen.kept hp5 gs (.inr OH.out.1))
    have G6 := Lib.hid (grown_new_any (grown_trans G3.out hg5) gs OH.out.2.1)
    have HOA := Lib.hid (And.intro hoa hra)
    clear hp5 hg5 o5 z5 hoa hra
    go_upto_region 7 with fail
    clear d0 d1 d2 d3 df2 ol5 gs
    obtain ⟨W6, hW6⟩ : ∃ W, w5.setCell ⟨o, 2, none⟩ (.int .u64 v1) = W := ⟨_, rfl⟩
    rw [hW6] at S5 Z6 P6 G6 ⊢
    clear hW6
    have UL2 := Lib.hid (pen_ul (s := s1) P6.out)
    rw [← HU2.out] at UL2
    go_wp2
    rw [rounds_succ]
    go_wp2_with fail
    refine UL2.out.mono ?_
    rintro e w7 ⟨rfl, hp7, hg7⟩
    have o7 := S5.out.kept hg7 (by intro e; injection e with e; exact HOA.out.1 e.symm)
    have z7 := Z6.out.kept hg7 (by intro e; injection e with e; exact HOA.out.2 e.symm)
    obtain ⟨d0, d1, d2, d3⟩ := o7.cells4
    have df3 := o7.fz 3
    have ol7 := o7.lt
    simp only [] at d0 d1 d2 d3
    rw [HX.out] at d0
    have S7 := Lib.hid (o7.setB v2)
    have gs := grown_setCell (i := 3) (grown_refl w7 (some o)) (.int .u64 v2)
    have Z8 := Lib.hid (z7.kept gs (by intro e; injection e with e; exact OH.out.2.2 e))
    have P8 := Lib.hid (Pen.kept hp7 gs (.inr OH.out.1))
    have G8 := Lib.hid (grown_new_any (grown_trans G6.out hg7) gs OH.out.2.1)
    clear hp7 hg7 o7 z7
    go_upto_region 7 with fail
    clear d0 d1 d2 d3 df3 ol7 gs
    obtain ⟨W8, hW8⟩ : ∃ W, w7.setCell ⟨o, 3, none⟩ (.int .u64 v2) = W := ⟨_, rfl⟩
    rw [hW8] at S7 Z8 P8 G8 ⊢
    clear hW8
    have ld := run_loadOp S7.out
    unfold opV opArr at ld
    simp only [] at ld
    rw [HX.out] at ld
    obtain ⟨d0, d1, d2, d3⟩ := S7.out.cells4
    simp only [] at d0 d1 d2 d3
    rw [HX.out] at d0
    obtain ⟨zc0, zc1, zc2, zc3⟩ := Z8.out.cells4
    have zl := Z8.out.lt
    have zf0 := Z8.out.fz 0
    have zf1 := Z8.out.fz 1
    have zf2 := Z8.out.fz 2
    have zf3 := Z8.out.fz 3
    go_wp2
    rw [rounds_succ]
    go_wp2
    have PT := Z8.out.put4 ⟨O, I, v1, v2⟩
    have GP := grown_put4o (grown_refl W8 (some r)) (.int .u8 (16 * (O : Int))) (.int .u64 I) (.int .u64 v1) (.int .u64 v2)
    simp only [] at PT
    rw [HX.out] at PT GP
    refine bodyPost_ret (results_op rfl rfl PT) rfl ?_
    exact ⟨⟨(v1, v2), s2, by rw [EQ.out.1, EQ.out.2], NQ.out, Pen.kept P8.out GP (.inr RH.out), UB.out, UB2.out⟩, grown_new_any G8.out GP (by have := HR.out; omega)⟩
end Go.Proofs.YtbnnlbdjjpmgeaaGreat


namespace Go.Proofs.YtbnnlbdjjpmgeaaGreat
open Go.RowKit
variable {w w' : World} {lo hi a : Nat} {xs : List Int} {p : Nat} {big bad : Bool}

theorem pen_left (h : Pen w lo hi a xs p big bad) :
    Calls Tryz.prog 47 #[.pointer (some ⟨a, 0, none⟩)] w fun e w' => e = .returned (.int .i64 ((xs.length : Int) - p)) ∧ ∃ n, w.drewN n = w' := by
  obtain ⟨⟨base, q, c, hc, hl, ho⟩, h1, h2, h3⟩ := h
  exact left_any hc
end Go.Proofs.YtbnnlbdjjpmgeaaGreat


namespace Go.Proofs.YtbnnlbdjjpmgeaaGreat
open Go.RowKit
theorem wpList_buildSlice {P : Program} {ops : Array Oper} {rest : List Oper} {o : Oper} {a : Act} {w w2 : World} {Q : Exit → Act → World → Prop} (hgd : o.guard = none) (t : TypeId) (n : Nat) (parts : Array (Nat × Operand)) (vals : Array (Nat × Value)) (v : Value) (ho : o.op = .buildSlice t n parts) (hp : (parts.toList.map fun x => (x.1, a.eval x.2)) = vals.toList)
    (h : (Instr.buildSlice t n vals).run P w = .ok v w2) (hK : wpList P ops Q rest (a.put o.dst v) w2) : wpList P ops Q (o :: rest) a w :=
  wpList_plain hgd fun _ hK' => by
    have hp : (parts.map fun (i, x) => (i, a.eval x)) = vals := Array.toList_inj.1 (by rw [Array.toList_map]; exact hp)
    subst hp
    unfold Oper.wp execOp
    simp only [ho, Sem.run_bind, h, Result.andThen_ok, Sem.run_pure]
    exact hK' _ _ hK
theorem wpList_build {P : Program} {ops : Array Oper} {rest : List Oper} {o : Oper} {a : Act} {w w2 : World} {Q : Exit → Act → World → Prop} (hgd : o.guard = none) (t : TypeId) (parts : Array (Nat × Operand)) (vals : Array (Nat × Value)) (v : Value) (ho : o.op = .build t parts) (hp : (parts.toList.map fun x => (x.1, a.eval x.2)) = vals.toList)
    (h : (Instr.build t vals).run P w = .ok v w2) (hK : wpList P ops Q rest (a.put o.dst v) w2) : wpList P ops Q (o :: rest) a w :=
  wpList_plain hgd fun _ hK' => by
    have hp : (parts.map fun (i, x) => (i, a.eval x)) = vals := Array.toList_inj.1 (by rw [Array.toList_map]; exact hp)
    subst hp
    unfold Oper.wp execOp
    simp only [ho, Sem.run_bind, h, Result.andThen_ok, Sem.run_pure]
    exact hK' _ _ hK
theorem wpList_alloc {P : Program} {ops : Array Oper} {rest : List Oper} {o : Oper} {a : Act} {w w2 : World} {Q : Exit → Act → World → Prop} (hgd : o.guard = none) (t : TypeId) (v : Value) (ho : o.op = .alloc t)
    (h : (Instr.alloc t true (.tuple #[])).run P w = .ok v w2) (hK : wpList P ops Q rest (a.put o.dst v) w2) : wpList P ops Q (o :: rest) a w :=
  wpList_plain hgd fun _ hK' => by
    unfold Oper.wp execOp
    simp only [ho, Sem.run_bind, h, Result.andThen_ok, Sem.run_pure]
    exact hK' _ _ hK
end Go.Proofs.YtbnnlbdjjpmgeaaGreat


namespace Go.Proofs.YtbnnlbdjjpmgeaaGreat
open Go.RowKit
variable {W : World}
theorem own_low {B B' n k : Nat} {T : TypeId} {v : Value} {xs : List Value} (h : W.ownsRow B T k v n xs) (hb : B' ≤ B) : W.ownsRow B' T k v n xs := by
  obtain ⟨h1, h2 | ⟨g, cap, cur, e, hg, r⟩⟩ := h
  · exact ⟨h1, .inl h2⟩
  · exact ⟨h1, .inr ⟨g, cap, cur, e, Nat.le_trans hb hg, r⟩⟩
end Go.Proofs.YtbnnlbdjjpmgeaaGreat


namespace Go.Proofs.YtbnnlbdjjpmgeaaGreat
open Go.RowKit
variable {w w' W V w0 : World} {h : Hx} {st : St} {slv sv dv ov : Value} {r : RbS} {g B : Nat} {l : List Sg} {qs : Option Addr} {cs : Nat} {xs : List Int} {q : Option Addr} {n c : Nat}

theorem rsInfo : (Tryz.prog.info? 109).map (·.size) = some 29 := by kernel_rfl
theorem rsArr_one (h : Hx) (s : St) (r : RbS) {slv sv dv ov : Value} (h0 : ∃ q n c, slv = .slice q n c) (h1 : ∃ q n c, sv = .slice q n c) (h2 : ∃ q n c, dv = .slice q n c) (h3 : ∃ q n c, ov = .slice q n c) : (rsArr slv h s sv dv r ov).all (·.oneCell') = true := by
  obtain ⟨q, n, c, rfl⟩ := h0
  obtain ⟨q1, n1, c1, rfl⟩ := h1
  obtain ⟨q2, n2, c2, rfl⟩ := h2
  obtain ⟨q3, n3, c3, rfl⟩ := h3
  simp [rsArr, Value.oneCell']
def rsZ : Array Value := rsArr (.slice none 0 0) Hx.zero St.zero (.slice none 0 0) (.slice none 0 0) RbS.zero (.slice none 0 0)
theorem rs_alloc (W : World) : (Instr.alloc 109 true (.tuple #[])).run Tryz.prog W = .ok (.pointer (some ⟨W.heap.size, 0, none⟩)) (W.alloc (.cells rsZ 109 (0, 0))) := by kernel_rfl
theorem rs_build (q : Option Addr) (n c : Nat) (h : Hx) (s : St) (q1 : Option Addr) (n1 c1 : Nat) (q2 : Option Addr) (n2 c2 : Nat) (W : World) : (Instr.build 109 #[(0, .slice q n c), (1, imgV h s (.slice q1 n1 c1) (.slice q2 n2 c2))]).run Tryz.prog W = .ok (.agg (rsArr (.slice q n c) h s (.slice q1 n1 c1) (.slice q2 n2 c2) RbS.zero (.slice none 0 0))) W := by kernel_rfl
def leftN (n a : Nat) (w : World) : Nat := match w.cell? ⟨a, 1, none⟩ with
  | some (.int _ v) => n - v.toNat
  | _ => 0
theorem left_is {lo hi a p : Nat} {ts : List Int} {big bad : Bool} (h : Pen w lo hi a ts p big bad) (n : Nat) : leftN n a w = n - p := by
  obtain ⟨_, _, _, hc, _⟩ := h.cur
  unfold leftN
  rw [hc.c1]
  simp
structure DeL (w0 : World) (B g lo hi a : Nat) (slv : Value) (h : Hx) (st : St) (sv dv : Value) (E : List Seg) (xs ts : List Int) (R : Int × List (Int × Int)) (w : World) : Prop where
  ex : ∃ (p k : Nat) (r : RbS), PenS w lo hi a ts (p, false) false ∧ RsS w0 B g slv h st sv dv r w ∧ ts.length - p < k ∧ p ≤ ts.length ∧ decS E xs k (ts.drop p) r = R
structure DeO (w w' : World) (R : Int × List (Int × Int)) (e : Ending) : Prop where
  ex : ∃ (q : Option Addr) (c : Nat), e = .returned (.tuple #[.slice q R.2.length c, .int .i64 R.1]) ∧ w'.ownsRow w.heap.size 60 7 (.slice q R.2.length c) R.2.length (R.2.flatMap rbCs)
  grown : w.grownBy w' none
theorem DeO.no {R : Int × List (Int × Int)} {er : Int} (h : R = (er, [])) (hg : w.grownBy w' none) : DeO w w' R (.returned (.tuple #[.slice none 0 0, .int .i64 er])) := by
  subst h
  exact ⟨⟨none, 0, rfl, World.ownsRow_nil _ _ _ _⟩, hg⟩
theorem may_1 {o : Int} (ho : 0 < o ∧ o < 16) {s : RbS} (h : mayS o s = true) : 1 ≤ o ∧ o ≤ 8 := by
  unfold mayS at h
  split at h
  · omega
  · split at h
    · omega
    · split at h
      · omega
      · cases h
set_option maxRecDepth 20000 in
set_option maxHeartbeats 3200000 in
theorem Decode_any (x : Ctx w st l qs cs q n c xs) {qd : Option Addr} {nd cd : Nat} {ts : List Int} {qt : Option Addr} {nt ct : Nat} (bt : IsBytes w qt ct ts) (ht : ts.length = nt) (st47 : nt ≤ 140737488355328) (hst : Small ts) :
    Calls Tryz.prog 17 #[.slice q n c, imgV h st (.slice qs l.length cs) (.slice qd nd cd), .slice qt nt ct] w fun e w' => DeO w w' (decN st.segs xs ts) e := by
  have g1 := grown1 w (.cells (imgArr h st (.slice qs l.length cs) (.slice qd nd cd)) 49)
  have a1 : ImgAt (w.alloc (.cells (imgArr h st (.slice qs l.length cs) (.slice qd nd cd)) 49)) w.heap.size h st (.slice qs l.length cs) (.slice qd nd cd) := heap_alloc_new w _
  obtain ⟨W1, hW1⟩ : ∃ W, w.alloc (.cells (imgArr h st (.slice qs l.length cs) (.slice qd nd cd)) 49) = W := ⟨_, rfl⟩
  obtain ⟨b, hb⟩ : ∃ b, w.heap.size = b := ⟨_, rfl⟩
  rw [hW1] at g1 a1
  rw [hb] at a1
  have PN := Lib.hid (pen_new (w := W1) (bt.kept g1 (by simp)) ht st47 hst false)
  have G1 := Lib.hid g1
  have A1 := Lib.hid a1
  have X := Lib.hid x
  have HT := Lib.hid ht
  obtain ⟨R, hR⟩ : ∃ R, R = decN st.segs xs ts := ⟨_, rfl⟩
  rw [← hR]
  have HR := Lib.hid hR
  obtain ⟨sv, hsv⟩ : ∃ sv, sv = Value.slice qs l.length cs := ⟨_, rfl⟩
  have DO := Lib.hid (fun (B g : Nat) (s : RbS) (V : World) (ks : RsS w B g (.slice q n c) h st sv (.slice qd nd cd) s V) (o : RbO) (ho : 1 ≤ o.what ∧ o.what ≤ 8) (hf : OpFit o) => (show Calls Tryz.prog 51 #[.pointer (some ⟨g, 0, none⟩), opV o] V fun e w' => StpO w B g (.slice q n c) h st sv (.slice qd nd cd) (doS st.segs xs o s) V w' e by subst hsv; exact do_any X.out ks o ho hf))
  obtain ⟨N, hN⟩ : ∃ N, N = l.length := ⟨_, rfl⟩
  rw [← hN] at hW1 A1 hsv ⊢
  have HSV := Lib.hid hsv
  clear x g1 a1 bt ht hst hR hN hsv
  unfold imgV imgArr at *
  go_enter Tryz.func17, Tryz.ntmps17
  go_upto_region 1 with fail
  clear hW1 hb
  go_wp2_with fail
  refine PN.out.mono ?_
  rintro e w2 ⟨a, rfl, hp2, hb2⟩
  have g2 := grown_below hb2 none
  have G2 := Lib.hid (grown_trans G1.out g2)
  have A2 := Lib.hid (A1.out.kept g2 (by simp))
  have P2 := Lib.hid hp2
  have ld := run_loadI A2.out
  unfold imgV imgArr at ld
  clear hp2 hb2 g2 PN A1
  go_upto_region 3 with (first
    | refine wpList_load_run rfl _ rfl rfl ld ?_
    | (refine wpList_build rfl 109 _ #[(0, .slice q n c), (1, imgV h st (.slice qs N cs) (.slice qd nd cd))] _ rfl (by rfl) (rs_build q n c h st qs N cs qd nd cd w2) ?_; skip)
    | (refine wpList_alloc rfl 109 _ rfl (rs_alloc _) ?_; skip)
    | (refine wpList_store_row rfl _ _ _ rfl w2.heap.size (rsArr (.slice q n c) h st (.slice qs N cs) (.slice qd nd cd) RbS.zero (.slice none 0 0)) rfl rfl _ _ (heap_alloc_new w2 (.cells rsZ 109 (0, 0))) rsInfo rfl (rsArr_one h st RbS.zero ⟨_, _, _, rfl⟩ ⟨_, _, _, rfl⟩ ⟨_, _, _, rfl⟩ ⟨_, _, _, rfl⟩) ?_))
  have g3 : w2.grownBy ((w2.alloc (.cells rsZ 109 (0, 0))).setRow w2.heap.size (rsArr (.slice q n c) h st (.slice qs N cs) (.slice qd nd cd) RbS.zero (.slice none 0 0))) none := grown_new (grown1 _ _) (grown_setRow _ _) (Nat.le_refl _)
  have r3 : RsAt ((w2.alloc (.cells rsZ 109 (0, 0))).setRow w2.heap.size (rsArr (.slice q n c) h st (.slice qs N cs) (.slice qd nd cd) RbS.zero (.slice none 0 0))) w2.heap.size (.slice q n c) h st (.slice qs N cs) (.slice qd nd cd) RbS.zero (.slice none 0 0) := setRow_heap _ _ _ _ _ _ (heap_alloc_new w2 _)
  obtain ⟨W3, hW3⟩ : ∃ W, (w2.alloc (.cells rsZ 109 (0, 0))).setRow w2.heap.size (rsArr (.slice q n c) h st (.slice qs N cs) (.slice qd nd cd) RbS.zero (.slice none 0 0)) = W := ⟨_, rfl⟩
  rw [hW3] at g3 r3 ⊢
  obtain ⟨B, hB⟩ : ∃ B, w2.heap.size = B := ⟨_, rfl⟩
  obtain ⟨L0, hL0⟩ : ∃ B, W1.heap.size = B := ⟨_, rfl⟩
  rw [hL0, hB] at P2
  rw [hB] at r3 ⊢
  have HB := Lib.hid (show w.heap.size ≤ B ∧ w.heap.size ≤ a by
    have h1 := G2.out.size
    have h2 := P2.out.lw
    have h3 := G1.out.size
    omega)
  have S3 := Lib.hid (show RsS w B B (.slice q n c) h st (.slice qs N cs) (.slice qd nd cd) RbS.zero W3 from ⟨grown_trans G2.out g3, HB.out.1, ⟨.slice none 0 0, r3, World.ownsRow_nil _ _ _ _⟩, Nat.le_refl _, ⟨by decide, by decide⟩, by decide⟩)
  have P3 := Lib.hid (P2.out.same g3)
  have HAB := Lib.hid (show a < B from P2.out.up)
  rw [← HSV.out] at S3
  obtain ⟨E, hE⟩ : ∃ E, E = st.segs := ⟨_, rfl⟩
  rw [← hE] at DO HR
  have L3 := Lib.hid (show DeL w B B L0 B a (.slice q n c) h st sv (.slice qd nd cd) E xs ts R W3 from ⟨⟨0, ts.length + 1, RbS.zero, P3.out, S3.out, by omega, Nat.zero_le _, by rw [List.drop_zero]; exact HR.out.symm⟩⟩)
  clear g3 r3 hW3 hB hL0 ld A2 P2 S3 P3 G2 G1
  go_frame
  go_loopw [] (fun wr => DeL w B B L0 B a (.slice q n c) h st sv (.slice qd nd cd) E xs ts R wr) (fun wr => leftN nt a wr)
  case atStart => exact L3.out
  case round =>
    obtain ⟨⟨p, k, r, hp, hr, hk, hpl, hd⟩⟩ := hrel
    have LE := Lib.hid (pen_left hp)
    have HP := Lib.hid hp
    have HRS := Lib.hid hr
    have HD := Lib.hid (And.intro hk (And.intro hpl hd))
    rw [HT.out] at LE
    have hpn : p ≤ nt := by rw [← HT.out]; exact hpl
    clear hp hr hk hpl hd L3
    go_wp2_with fail
    refine LE.out.mono ?_
    rintro e w4 ⟨rfl, dn, hdn⟩
    have g4 : wr.grownBy w4 none := by rw [← hdn]; exact grown_drewN (grown_refl wr none) dn
    have P4 := Lib.hid (HP.out.same g4)
    have S4 := Lib.hid (HRS.out.grown g4)
    clear hdn g4 LE
    by_cases hlt : p < nt
    · have dl : decide ((0 : Int) < (nt : Int) - (p : Int)) = true := by simp; omega
      have dl2 : (0 : Int) < (nt : Int) - (p : Int) := by omega
      have TK := Lib.hid (take6_any P4.out (by rw [HT.out]; exact hlt))
      have hcons : ts.drop p = ts.getD p 0 :: ts.drop (p + 1) := by
        have h1 : p < ts.length := by rw [HT.out]; exact hlt
        rw [List.drop_eq_getElem_cons h1, List.getD_eq_getElem?_getD, List.getElem?_eq_getElem h1, Option.getD_some]
      have hbb : 0 ≤ ts.getD p 0 ∧ ts.getD p 0 < 256 := by
        have h1 : p < ts.length := by rw [HT.out]; exact hlt
        rw [List.getD_eq_getElem?_getD, List.getElem?_eq_getElem h1, Option.getD_some]
        exact P4.out.small _ (List.getElem_mem h1)
      obtain ⟨bt, hbt⟩ : ∃ bt, bt = ts.getD p 0 := ⟨_, rfl⟩
      obtain ⟨O, hO⟩ : ∃ O, O = bt / 16 := ⟨_, rfl⟩
      obtain ⟨I, hI⟩ : ∃ I, I = bt % 16 := ⟨_, rfl⟩
      rw [← hbt] at hcons hbb
      have hO16 : 0 ≤ O ∧ O < 16 := by omega
      have hI16 : 0 ≤ I ∧ I < 16 := by omega
      obtain ⟨k', hk'⟩ : ∃ k', k = k' + 1 := ⟨k - 1, by have := HD.out.1; omega⟩
      have RD := Lib.hid (show R = if O = 0 then (0, r.out) else match numsP O (ts.drop (p + 1)) with
          | none => (3, [])
          | some (v, n) => if mayS O r = true then (if (doS E xs ⟨O, I, v.1, v.2⟩ r).1 ≠ 0 then ((doS E xs ⟨O, I, v.1, v.2⟩ r).1, []) else decS E xs k' ((ts.drop (p + 1)).drop n) (doS E xs ⟨O, I, v.1, v.2⟩ r).2) else (14, []) by
        rw [← HD.out.2.2, hk', hcons, decS, ← hO, ← hI]
        cases numsP O (ts.drop (p + 1)) with
        | none => rfl
        | some z => rfl)
      have HKK := Lib.hid (show ts.length - p < k' + 1 by have := HD.out.1; omega)
      have HBT := Lib.hid (And.intro hbt (And.intro hO hI))
      clear hcons hbb hbt hO hI hk' HD
      go_wp2_with fail
      refine TK.out.mono ?_
      rintro e w5 ⟨⟨⟨v1, v2⟩, s, he, hsim, hp5, hv1, hv2⟩, hg5⟩
      rw [← HBT.out.1, ← HBT.out.2.1, ← HBT.out.2.2] at he
      rw [← HBT.out.1, ← HBT.out.2.1] at hsim
      subst he
      have SI := Lib.hid hsim
      have HV := Lib.hid (And.intro hv1 hv2)
      have S5 := S4.out.pen hg5 HAB.out HB.out.2
      have g6 := grown1 w5 (.cells (opArr ⟨O, I, v1, v2⟩) 113)
      have o6 : OpAt (w5.alloc (.cells (opArr ⟨O, I, v1, v2⟩) 113)) w5.heap.size ⟨O, I, v1, v2⟩ := heap_alloc_new w5 _
      obtain ⟨W6, hW6⟩ : ∃ W, w5.alloc (.cells (opArr ⟨O, I, v1, v2⟩) 113) = W := ⟨_, rfl⟩
      obtain ⟨o, ho⟩ : ∃ b, w5.heap.size = b := ⟨_, rfl⟩
      rw [hW6] at g6 o6
      rw [ho] at o6
      have S6 := Lib.hid (S5.grown g6)
      have P6 := Lib.hid (hp5.same g6)
      have O6 := Lib.hid o6
      obtain ⟨d0, d1, d2, d3⟩ := o6.cells4
      have ol := o6.lt
      simp only [] at d0 d1 d2 d3
      obtain ⟨X, hX⟩ : ∃ X, X = 16 * O := ⟨_, rfl⟩
      unfold opV opArr at *
      simp only [] at hW6 ⊢
      rw [← hX] at d0 hW6 ⊢
      have HX := Lib.hid hX
      have HW6 := Lib.hid hW6
      have HO := Lib.hid ho
      have hX2 : 0 ≤ X ∧ X ≤ 240 := by omega
      have hXO : X = 0 ↔ O = 0 := by omega
      clear hW6 ho hX hsim hp5 hv1 hv2 hg5 S5 g6 o6 TK HBT
      go_upto_region 5 with fail
      rw [HW6.out, HO.out]
      clear HW6 HO
      by_cases h0 : O = 0
      · have hx0 : X = 0 := hXO.2 h0
        subst hx0
        have FN := Lib.hid (show R = (0, r.out) by rw [RD.out, if_pos h0])
        obtain ⟨ov, at_, ow⟩ := S6.out.at_
        obtain ⟨qo, co, rfl⟩ := own_slice ow
        have c28 := at_.c 28 (.slice qo r.out.length co) rfl
        have gl := at_.lt
        have OW := Lib.hid (own_low ow HB.out.1)
        have GO := Lib.hid S6.out.old
        clear at_ ow hX2 hXO h0
        go_wp2
        go_ret2
        rw [FN.out]
        exact ⟨⟨qo, co, rfl, OW.out⟩, GO.out⟩
      · have hx0 : X ≠ 0 := fun e => h0 (hXO.1 e)
        have dx : (X == 0) = false := by simpa using hx0
        have RD1 := RD.out
        rw [if_neg h0] at RD1
        have PE := Lib.hid (pen_err P6.out)
        have HO0 := Lib.hid (show 0 < O ∧ O < 16 by omega)
        obtain ⟨sp, bad⟩ := s
        cases bad
        · obtain ⟨-, hnum⟩ := SI.out.ok rfl
          simp only [] at hnum
          rw [hnum] at RD1
          simp only [] at RD1
          have RD2 := Lib.hid RD1
          have MY := Lib.hid (may6_any S6.out O HO0.out)
          rw [← HX.out] at MY
          have HSP := Lib.hid SI.out.le
          clear RD1 hnum SI hXO h0 RD
          go_wp2_with fail
          refine PE.out.mono ?_
          rintro e w7 ⟨rfl, hw7⟩
          have hw8 := hw7
          subst hw8
          clear hw7 PE
          go_wp2_with fail
          refine MY.out.mono ?_
          rintro e w7 ⟨rfl, hw7⟩
          have hw8 := hw7
          subst hw8
          clear hw7 MY
          by_cases hm : mayS O r = true
          · rw [hm]
            have RD3 := RD2.out
            rw [if_pos hm] at RD3
            have DA := Lib.hid (DO.out B B r W6 S6.out ⟨O, I, v1, v2⟩ (may_1 HO0.out hm) ⟨hI16, HV.out.1, HV.out.2⟩)
            simp only [] at DA
            rw [← HX.out] at DA
            obtain ⟨⟨er, r7⟩, h7⟩ : ∃ z, z = doS E xs ⟨O, I, v1, v2⟩ r := ⟨_, rfl⟩
            rw [← h7] at RD3 DA
            simp only [] at RD3
            have RD4 := Lib.hid RD3
            clear RD3 RD2 hm h7 HO0
            go_wp2_with fail
            refine DA.out.mono ?_
            rintro e w7 ⟨rfl, hs7, hc7⟩
            have S7 := Lib.hid hs7
            have P7 := Lib.hid (Pen.chb P6.out hc7 (Nat.le_refl _))
            have RD5 := RD4.out
            simp only [] at S7 ⊢
            clear hs7 hc7 DA RD4 d0 d1 d2 d3 ol
            by_cases he : er = 0
            · subst he
              rw [if_neg (by simp)] at RD5
              have RD6 := Lib.hid RD5
              have ML := Lib.hid (show leftN nt a w7 < leftN nt a wr by
                rw [left_is P7.out, left_is HP.out]
                have h1 : p + 1 ≤ sp := HSP.out
                have h2 : sp ≤ ts.length := P7.out.le
                rw [HT.out] at h2
                show nt - sp < nt - p
                omega)
              clear RD5
              go_wp2
              go_roundw
              case rel => exact ⟨⟨sp, k', r7, P7.out, S7.out, by
                have h1 : p + 1 ≤ sp := HSP.out
                have h2 := HKK.out
                have h4 := HT.out
                omega, P7.out.le, by
                have h1 : p + 1 ≤ sp := HSP.out
                rw [RD6.out, List.drop_drop, show p + 1 + (sp - (p + 1)) = sp by omega]⟩⟩
              case measure => exact ML.out
            · have de : (er != 0) = true := by simpa using he
              rw [if_pos he] at RD5
              have FN := Lib.hid RD5
              have GO := Lib.hid S7.out.old
              clear RD5 he
              go_wp2
              go_ret2
              exact DeO.no FN.out GO.out
          · have hm2 : mayS O r = false := by simpa using hm
            rw [hm2]
            have RD3 := RD2.out
            rw [if_neg hm] at RD3
            have FN := Lib.hid RD3
            have GO := Lib.hid S6.out.old
            clear RD3 RD2 hm hm2
            go_wp2
            go_ret2
            exact DeO.no FN.out GO.out
        · have FN := Lib.hid (show R = (3, []) by
            have := SI.out.no rfl rfl
            simp only [] at this
            rw [RD1, this])
          clear RD1 hXO h0 RD SI
          go_wp2_with fail
          refine PE.out.mono ?_
          rintro e w7 ⟨rfl, hw7⟩
          have hw8 := hw7
          subst hw8
          clear hw7 PE
          simp only [if_true]
          have GO := Lib.hid S6.out.old
          go_wp2
          go_ret2
          exact DeO.no FN.out GO.out
    · obtain rfl : p = nt := by omega
      have dl : decide ((0 : Int) < (p : Int) - (p : Int)) = false := by simp
      have FN := Lib.hid (show R = (0, r.out) by
        obtain ⟨h1, h2, h3⟩ := HD.out
        obtain ⟨k, rfl⟩ : ∃ k', k = k' + 1 := ⟨k - 1, by omega⟩
        rw [List.drop_eq_nil_of_le (by rw [HT.out]; exact Nat.le_refl _), decS] at h3
        exact h3.symm)
      obtain ⟨ov, at_, ow⟩ := S4.out.at_
      obtain ⟨qo, co, rfl⟩ := own_slice ow
      have c28 := at_.c 28 (.slice qo r.out.length co) rfl
      have gl := at_.lt
      have OW := Lib.hid (own_low ow HB.out.1)
      have GO := Lib.hid S4.out.old
      clear at_ ow
      go_wp2
      go_ret2
      rw [FN.out]
      exact ⟨⟨qo, co, rfl, OW.out⟩, GO.out⟩
end Go.Proofs.YtbnnlbdjjpmgeaaGreat


namespace Go.Proofs.YtbnnlbdjjpmgeaaGreat
open Go.RowKit
variable {w w' W V : World}

theorem nanU (x : Int) (w : World) : Calls Tryz.prog 206 #[.int .u64 x] w fun e w' => e = .returned (.bool false) ∧ w' = w := by
  go_enter Tryz.func206, Tryz.ntmps206
  go_wp2
  go_ret
  exact ⟨by simp, rfl⟩
set_option maxHeartbeats 1000000 in
theorem cmpU (x y : Int) (w : World) : Calls Tryz.prog 171 #[.int .u64 x, .int .u64 y] w fun e w' => e = .returned (.int .i64 (cmpI x y)) ∧ w' = w := by
  obtain ⟨r, hr⟩ : ∃ r, r = cmpI x y := ⟨_, rfl⟩
  rw [← hr]
  have HR := Lib.hid hr
  clear hr
  by_cases h1 : x < y
  · have e1 : r = -1 := by rw [HR.out]; unfold cmpI; rw [if_pos h1]
    have d1 : decide (x < y) = true := decide_eq_true h1
    go_enter Tryz.func171, Tryz.ntmps171
    go_wp2_with (go_at_call 206; refine (nanU _ _).mono ?_; rintro e w' ⟨rfl, rfl⟩)
    go_ret
    exact ⟨by rw [e1]; rfl, rfl⟩
  · have d1 : decide (x < y) = false := decide_eq_false h1
    by_cases h2 : y < x
    · have e1 : r = 1 := by rw [HR.out]; unfold cmpI; rw [if_neg h1, if_pos h2]
      have d2 : decide (y < x) = true := decide_eq_true h2
      go_enter Tryz.func171, Tryz.ntmps171
      go_wp2_with (go_at_call 206; refine (nanU _ _).mono ?_; rintro e w' ⟨rfl, rfl⟩)
      go_ret
      exact ⟨by rw [e1]; rfl, rfl⟩
    · have e1 : r = 0 := by rw [HR.out]; unfold cmpI; rw [if_neg h1, if_neg h2]
      have d2 : decide (y < x) = false := decide_eq_false h2
      go_enter Tryz.func171, Tryz.ntmps171
      go_wp2_with (go_at_call 206; refine (nanU _ _).mono ?_; rintro e w' ⟨rfl, rfl⟩)
      go_ret
      exact ⟨by rw [e1]; rfl, rfl⟩
theorem nanK (x : Int) (w : World) : Calls Tryz.prog 207 #[.int .i64 x] w fun e w' => e = .returned (.bool false) ∧ w' = w := by
  go_enter Tryz.func207, Tryz.ntmps207
  go_wp2
  go_ret
  exact ⟨by simp, rfl⟩
set_option maxHeartbeats 1000000 in
theorem cmpK (x y : Int) (w : World) : Calls Tryz.prog 173 #[.int .i64 x, .int .i64 y] w fun e w' => e = .returned (.int .i64 (cmpI x y)) ∧ w' = w := by
  obtain ⟨r, hr⟩ : ∃ r, r = cmpI x y := ⟨_, rfl⟩
  rw [← hr]
  have HR := Lib.hid hr
  clear hr
  by_cases h1 : x < y
  · have e1 : r = -1 := by rw [HR.out]; unfold cmpI; rw [if_pos h1]
    have d1 : decide (x < y) = true := decide_eq_true h1
    go_enter Tryz.func173, Tryz.ntmps173
    go_wp2_with (go_at_call 207; refine (nanK _ _).mono ?_; rintro e w' ⟨rfl, rfl⟩)
    go_ret
    exact ⟨by rw [e1]; rfl, rfl⟩
  · have d1 : decide (x < y) = false := decide_eq_false h1
    by_cases h2 : y < x
    · have e1 : r = 1 := by rw [HR.out]; unfold cmpI; rw [if_neg h1, if_pos h2]
      have d2 : decide (y < x) = true := decide_eq_true h2
      go_enter Tryz.func173, Tryz.ntmps173
      go_wp2_with (go_at_call 207; refine (nanK _ _).mono ?_; rintro e w' ⟨rfl, rfl⟩)
      go_ret
      exact ⟨by rw [e1]; rfl, rfl⟩
    · have e1 : r = 0 := by rw [HR.out]; unfold cmpI; rw [if_neg h1, if_neg h2]
      have d2 : decide (y < x) = false := decide_eq_false h2
      go_enter Tryz.func173, Tryz.ntmps173
      go_wp2_with (go_at_call 207; refine (nanK _ _).mono ?_; rintro e w' ⟨rfl, rfl⟩)
      go_ret
      exact ⟨by rw [e1]; rfl, rfl⟩
theorem nanN (x : Int) (w : World) : Calls Tryz.prog 208 #[.int .i64 x] w fun e w' => e = .returned (.bool false) ∧ w' = w := by
  go_enter Tryz.func208, Tryz.ntmps208
  go_wp2
  go_ret
  exact ⟨by simp, rfl⟩
set_option maxHeartbeats 1000000 in
theorem cmpN (x y : Int) (w : World) : Calls Tryz.prog 176 #[.int .i64 x, .int .i64 y] w fun e w' => e = .returned (.int .i64 (cmpI x y)) ∧ w' = w := by
  obtain ⟨r, hr⟩ : ∃ r, r = cmpI x y := ⟨_, rfl⟩
  rw [← hr]
  have HR := Lib.hid hr
  clear hr
  by_cases h1 : x < y
  · have e1 : r = -1 := by rw [HR.out]; unfold cmpI; rw [if_pos h1]
    have d1 : decide (x < y) = true := decide_eq_true h1
    go_enter Tryz.func176, Tryz.ntmps176
    go_wp2_with (go_at_call 208; refine (nanN _ _).mono ?_; rintro e w' ⟨rfl, rfl⟩)
    go_ret
    exact ⟨by rw [e1]; rfl, rfl⟩
  · have d1 : decide (x < y) = false := decide_eq_false h1
    by_cases h2 : y < x
    · have e1 : r = 1 := by rw [HR.out]; unfold cmpI; rw [if_neg h1, if_pos h2]
      have d2 : decide (y < x) = true := decide_eq_true h2
      go_enter Tryz.func176, Tryz.ntmps176
      go_wp2_with (go_at_call 208; refine (nanN _ _).mono ?_; rintro e w' ⟨rfl, rfl⟩)
      go_ret
      exact ⟨by rw [e1]; rfl, rfl⟩
    · have e1 : r = 0 := by rw [HR.out]; unfold cmpI; rw [if_neg h1, if_neg h2]
      have d2 : decide (y < x) = false := decide_eq_false h2
      go_enter Tryz.func176, Tryz.ntmps176
      go_wp2_with (go_at_call 208; refine (nanN _ _).mono ?_; rintro e w' ⟨rfl, rfl⟩)
      go_ret
      exact ⟨by rw [e1]; rfl, rfl⟩
theorem nanA (x : Int) (w : World) : Calls Tryz.prog 210 #[.int .i64 x] w fun e w' => e = .returned (.bool false) ∧ w' = w := by
  go_enter Tryz.func210, Tryz.ntmps210
  go_wp2
  go_ret
  exact ⟨by simp, rfl⟩
set_option maxHeartbeats 1000000 in
theorem cmpA (x y : Int) (w : World) : Calls Tryz.prog 180 #[.int .i64 x, .int .i64 y] w fun e w' => e = .returned (.int .i64 (cmpI x y)) ∧ w' = w := by
  obtain ⟨r, hr⟩ : ∃ r, r = cmpI x y := ⟨_, rfl⟩
  rw [← hr]
  have HR := Lib.hid hr
  clear hr
  by_cases h1 : x < y
  · have e1 : r = -1 := by rw [HR.out]; unfold cmpI; rw [if_pos h1]
    have d1 : decide (x < y) = true := decide_eq_true h1
    go_enter Tryz.func180, Tryz.ntmps180
    go_wp2_with (go_at_call 210; refine (nanA _ _).mono ?_; rintro e w' ⟨rfl, rfl⟩)
    go_ret
    exact ⟨by rw [e1]; rfl, rfl⟩
  · have d1 : decide (x < y) = false := decide_eq_false h1
    by_cases h2 : y < x
    · have e1 : r = 1 := by rw [HR.out]; unfold cmpI; rw [if_neg h1, if_pos h2]
      have d2 : decide (y < x) = true := decide_eq_true h2
      go_enter Tryz.func180, Tryz.ntmps180
      go_wp2_with (go_at_call 210; refine (nanA _ _).mono ?_; rintro e w' ⟨rfl, rfl⟩)
      go_ret
      exact ⟨by rw [e1]; rfl, rfl⟩
    · have e1 : r = 0 := by rw [HR.out]; unfold cmpI; rw [if_neg h1, if_neg h2]
      have d2 : decide (y < x) = false := decide_eq_false h2
      go_enter Tryz.func180, Tryz.ntmps180
      go_wp2_with (go_at_call 210; refine (nanA _ _).mono ?_; rintro e w' ⟨rfl, rfl⟩)
      go_ret
      exact ⟨by rw [e1]; rfl, rfl⟩
theorem nanS (x : ByteArray) (w : World) : Calls Tryz.prog 209 #[.string x] w fun e w' => e = .returned (.bool false) ∧ w' = w := by
  go_enter Tryz.func209, Tryz.ntmps209
  go_wp2
  go_ret
  exact ⟨by simp, rfl⟩
theorem gtr_is (x y : ByteArray) : (!(Op.bytesLess x.toList y.toList || (x.toList == y.toList))) = Op.bytesLess y.toList x.toList := by
  cases h : Op.bytesLess x.toList y.toList with
  | true => rw [less_asym h]; rfl
  | false =>
    cases k : Op.bytesLess y.toList x.toList with
    | true =>
      have : (x.toList == y.toList) = false := beq_eq_false_iff_ne.2 fun e => by rw [e, less_irr] at k; cases k
      rw [this]; rfl
    | false => rw [less_tri h k, beq_self_eq_true]; rfl
set_option maxHeartbeats 1000000 in
theorem cmpStr (x y : ByteArray) (w : World) : Calls Tryz.prog 178 #[.string x, .string y] w fun e w' => e = .returned (.int .i64 (cmpS x y)) ∧ w' = w := by
  obtain ⟨r, hr⟩ : ∃ r, r = cmpS x y := ⟨_, rfl⟩
  have hg := gtr_is x y
  rw [← hr]
  have HR := Lib.hid hr
  clear hr
  cases h1 : Op.bytesLess x.toList y.toList with
  | true =>
    have e1 : r = -1 := by rw [HR.out]; unfold cmpS; rw [if_pos h1]
    clear hg
    go_enter Tryz.func178, Tryz.ntmps178
    go_wp2_with (go_at_call 209; refine (nanS _ _).mono ?_; rintro e w' ⟨rfl, rfl⟩)
    go_ret
    exact ⟨by rw [e1]; rfl, rfl⟩
  | false =>
    cases h2 : Op.bytesLess y.toList x.toList with
    | true =>
      have e1 : r = 1 := by rw [HR.out]; unfold cmpS; rw [if_neg (by simp [h1]), if_pos h2]
      rw [h2, h1] at hg
      rw [Bool.false_or, Bool.not_eq_true'] at hg
      go_enter Tryz.func178, Tryz.ntmps178
      go_wp2_with (go_at_call 209; refine (nanS _ _).mono ?_; rintro e w' ⟨rfl, rfl⟩)
      go_ret
      exact ⟨by rw [e1]; rfl, rfl⟩
    | false =>
      have e1 : r = 0 := by rw [HR.out]; unfold cmpS; rw [if_neg (by simp [h1]), if_neg (by simp [h2])]
      rw [h2, h1] at hg
      rw [Bool.false_or, Bool.not_eq_false'] at hg
      go_enter Tryz.func178, Tryz.ntmps178
      go_wp2_with (go_at_call 209; refine (nanS _ _).mono ?_; rintro e w' ⟨rfl, rfl⟩)
      go_ret
      exact ⟨by rw [e1]; rfl, rfl⟩
theorem cmpWeak (x y : Bool) (w : World) : Calls Tryz.prog 182 #[.bool x, .bool y] w fun e w' => e = .returned (.int .i64 (cmpB x y)) ∧ w' = w := by
  cases x <;> cases y <;>
  · go_enter Tryz.func182, Tryz.ntmps182
    go_wp2
    go_ret
    exact ⟨rfl, rfl⟩
theorem setCell_drawn (w : World) (a : Addr) (v : Value) : (w.setCell a v).drawn = w.drawn := rfl
structure Grew (w w' : World) : Prop where
  g : w.grownBy w' none
  d : w'.drawn = w.drawn
theorem Grew.trans (h : Grew w W) (k : Grew W V) : Grew w V := ⟨grown_trans h.g k.g, k.d.trans h.d⟩
theorem two_grew (w : World) (a b : Fx) : ∃ W, (w.alloc (.cells #[.int .u64 a.at_, .int .i64 a.kind, .int .u64 a.target, .int .i64 a.ord, .string a.sym, .int .i64 a.add, .bool a.weak] 60)).alloc (.cells #[.int .u64 b.at_, .int .i64 b.kind, .int .u64 b.target, .int .i64 b.ord, .string b.sym, .int .i64 b.add, .bool b.weak] 60) = W ∧ FxAt W w.heap.size a ∧ FxAt W (w.heap.size + 1) b ∧ Grew w W := by
  refine ⟨_, rfl, ?_, ?_, grown2 w _ _, rfl⟩
  · exact (FxAt.new w a).grown (grown1 _ _)
  · have := FxAt.new (w.alloc (.cells #[.int .u64 a.at_, .int .i64 a.kind, .int .u64 a.target, .int .i64 a.ord, .string a.sym, .int .i64 a.add, .bool a.weak] 60)) b
    rw [World.size_alloc] at this
    exact this
theorem two_new (w : World) (a b : Fx) : ∃ W, (w.alloc (.cells #[.int .u64 a.at_, .int .i64 a.kind, .int .u64 a.target, .int .i64 a.ord, .string a.sym, .int .i64 a.add, .bool a.weak] 60)).alloc (.cells #[.int .u64 b.at_, .int .i64 b.kind, .int .u64 b.target, .int .i64 b.ord, .string b.sym, .int .i64 b.add, .bool b.weak] 60) = W ∧ FxAt W w.heap.size a ∧ FxAt W (w.heap.size + 1) b ∧ w.grownBy W none := by
  obtain ⟨W, h1, h2, h3, h4⟩ := two_grew w a b
  exact ⟨W, h1, h2, h3, h4.g⟩
set_option maxHeartbeats 1000000 in
theorem look1 (a b : Fx) (w : World) : Calls Tryz.prog 170 #[fxV a, fxV b] w fun e w' => e = .returned (.int .i64 (lookN 0 a b)) ∧ Grew w w' := by
  obtain ⟨W, hW, ha, hb, hg⟩ := two_grew w a b
  obtain ⟨a0, a1, a2, a3, a4, a5, a6⟩ := ha.c
  obtain ⟨b0, b1, b2, b3, b4, b5, b6⟩ := hb.c
  clear ha hb
  have G := Lib.hid hg
  clear hg
  unfold fxV fxArr
  go_enter Tryz.func170, Tryz.ntmps170
  go_upto_region 1 with fail
  clear hW
  go_wp2_with (go_at_call 171; refine (cmpU _ _ _).mono ?_; rintro e w' ⟨rfl, rfl⟩)
  go_ret
  exact ⟨rfl, G.out⟩
set_option maxHeartbeats 1000000 in
theorem look2 (a b : Fx) (w : World) : Calls Tryz.prog 172 #[fxV a, fxV b] w fun e w' => e = .returned (.int .i64 (lookN 1 a b)) ∧ Grew w w' := by
  obtain ⟨W, hW, ha, hb, hg⟩ := two_grew w a b
  obtain ⟨a0, a1, a2, a3, a4, a5, a6⟩ := ha.c
  obtain ⟨b0, b1, b2, b3, b4, b5, b6⟩ := hb.c
  clear ha hb
  have G := Lib.hid hg
  clear hg
  unfold fxV fxArr
  go_enter Tryz.func172, Tryz.ntmps172
  go_upto_region 1 with fail
  clear hW
  go_wp2_with (go_at_call 173; refine (cmpK _ _ _).mono ?_; rintro e w' ⟨rfl, rfl⟩)
  go_ret
  exact ⟨rfl, G.out⟩
set_option maxHeartbeats 1000000 in
theorem look3 (a b : Fx) (w : World) : Calls Tryz.prog 174 #[fxV a, fxV b] w fun e w' => e = .returned (.int .i64 (lookN 2 a b)) ∧ Grew w w' := by
  obtain ⟨W, hW, ha, hb, hg⟩ := two_grew w a b
  obtain ⟨a0, a1, a2, a3, a4, a5, a6⟩ := ha.c
  obtain ⟨b0, b1, b2, b3, b4, b5, b6⟩ := hb.c
  clear ha hb
  have G := Lib.hid hg
  clear hg
  unfold fxV fxArr
  go_enter Tryz.func174, Tryz.ntmps174
  go_upto_region 1 with fail
  clear hW
  go_wp2_with (go_at_call 171; refine (cmpU _ _ _).mono ?_; rintro e w' ⟨rfl, rfl⟩)
  go_ret
  exact ⟨rfl, G.out⟩
set_option maxHeartbeats 1000000 in
theorem look4 (a b : Fx) (w : World) : Calls Tryz.prog 175 #[fxV a, fxV b] w fun e w' => e = .returned (.int .i64 (lookN 3 a b)) ∧ Grew w w' := by
  obtain ⟨W, hW, ha, hb, hg⟩ := two_grew w a b
  obtain ⟨a0, a1, a2, a3, a4, a5, a6⟩ := ha.c
  obtain ⟨b0, b1, b2, b3, b4, b5, b6⟩ := hb.c
  clear ha hb
  have G := Lib.hid hg
  clear hg
  unfold fxV fxArr
  go_enter Tryz.func175, Tryz.ntmps175
  go_upto_region 1 with fail
  clear hW
  go_wp2_with (go_at_call 176; refine (cmpN _ _ _).mono ?_; rintro e w' ⟨rfl, rfl⟩)
  go_ret
  exact ⟨rfl, G.out⟩
set_option maxHeartbeats 1000000 in
theorem look5 (a b : Fx) (w : World) : Calls Tryz.prog 177 #[fxV a, fxV b] w fun e w' => e = .returned (.int .i64 (lookN 4 a b)) ∧ Grew w w' := by
  obtain ⟨W, hW, ha, hb, hg⟩ := two_grew w a b
  obtain ⟨a0, a1, a2, a3, a4, a5, a6⟩ := ha.c
  obtain ⟨b0, b1, b2, b3, b4, b5, b6⟩ := hb.c
  clear ha hb
  have G := Lib.hid hg
  clear hg
  unfold fxV fxArr
  go_enter Tryz.func177, Tryz.ntmps177
  go_upto_region 1 with fail
  clear hW
  go_wp2_with (go_at_call 178; refine (cmpStr _ _ _).mono ?_; rintro e w' ⟨rfl, rfl⟩)
  go_ret
  exact ⟨rfl, G.out⟩
set_option maxHeartbeats 1000000 in
theorem look6 (a b : Fx) (w : World) : Calls Tryz.prog 179 #[fxV a, fxV b] w fun e w' => e = .returned (.int .i64 (lookN 5 a b)) ∧ Grew w w' := by
  obtain ⟨W, hW, ha, hb, hg⟩ := two_grew w a b
  obtain ⟨a0, a1, a2, a3, a4, a5, a6⟩ := ha.c
  obtain ⟨b0, b1, b2, b3, b4, b5, b6⟩ := hb.c
  clear ha hb
  have G := Lib.hid hg
  clear hg
  unfold fxV fxArr
  go_enter Tryz.func179, Tryz.ntmps179
  go_upto_region 1 with fail
  clear hW
  go_wp2_with (go_at_call 180; refine (cmpA _ _ _).mono ?_; rintro e w' ⟨rfl, rfl⟩)
  go_ret
  exact ⟨rfl, G.out⟩
set_option maxHeartbeats 1000000 in
theorem look7 (a b : Fx) (w : World) : Calls Tryz.prog 181 #[fxV a, fxV b] w fun e w' => e = .returned (.int .i64 (lookN 6 a b)) ∧ Grew w w' := by
  obtain ⟨W, hW, ha, hb, hg⟩ := two_grew w a b
  obtain ⟨a0, a1, a2, a3, a4, a5, a6⟩ := ha.c
  obtain ⟨b0, b1, b2, b3, b4, b5, b6⟩ := hb.c
  clear ha hb
  have G := Lib.hid hg
  clear hg
  unfold fxV fxArr
  go_enter Tryz.func181, Tryz.ntmps181
  go_upto_region 1 with fail
  clear hW
  go_wp2_with (go_at_call 182; refine (cmpWeak _ _ _).mono ?_; rintro e w' ⟨rfl, rfl⟩)
  go_ret
  exact ⟨rfl, G.out⟩
def fnV (f : Nat) : Value := .func (.func f) #[] #[]
def lookFs : Array Value := #[fnV 170, fnV 172, fnV 174, fnV 175, fnV 177, fnV 179, fnV 181]
theorem results_row {fn : Func} {p : Tmp} {T : TypeId} {g : Nat} {v : Value} (hr : fn.results = #[.cell p T]) {tmps : Array Value} (hp : tmps.getD p undef = .pointer (some ⟨g, 0, none⟩)) (hl : (loadVar T ⟨g, 0, none⟩).run Tryz.prog w = .ok v w) :
    (results fn tmps).run Tryz.prog w = .ok v w := by
  have e : (asAddr (.pointer (some ⟨g, 0, none⟩)) : Sem Addr).run Tryz.prog w = .ok ⟨g, 0, none⟩ w := rfl
  simp only [Array.getD_eq_getD_getElem?] at hp
  simp only [results, hr]
  simp [Sem.run_bind, Result.andThen, hp, e, hl]
theorem funs_put {g : Nat} {T : TypeId} {z : Array Value} (h : w.heap[g]? = some (.cells z T (0, 0))) (hz : z.size = 7) (v0 v1 v2 v3 v4 v5 v6 : Value) :
    ((((((((w.setCell ⟨g, 0, none⟩ v0).setCell ⟨g, 1, none⟩ v1).setCell ⟨g, 2, none⟩ v2).setCell ⟨g, 3, none⟩ v3).setCell ⟨g, 4, none⟩ v4).setCell ⟨g, 5, none⟩ v5).setCell ⟨g, 6, none⟩ v6)).heap[g]? = some (.cells #[v0, v1, v2, v3, v4, v5, v6] T (0, 0)) := by
  rw [heap_setCell_same _ g 6 _ _ _ (heap_setCell_same _ g 5 _ _ _ (heap_setCell_same _ g 4 _ _ _ (heap_setCell_same _ g 3 _ _ _ (heap_setCell_same _ g 2 _ _ _ (heap_setCell_same _ g 1 _ _ _ (heap_setCell_same w g 0 _ _ _ h))))))]
  obtain ⟨l⟩ := z
  match l, hz with
  | [a0, a1, a2, a3, a4, a5, a6], _ => rfl
set_option maxHeartbeats 1000000 in
theorem looks_any (w : World) : Calls Tryz.prog 136 #[] w fun e w' => e = .returned (.agg lookFs) ∧ Grew w w' := by
  obtain ⟨g, hg⟩ : ∃ g, w.heap.size = g := ⟨_, rfl⟩
  obtain ⟨W, hW⟩ : ∃ W, w.alloc (.cells #[Value.nilFunc, Value.nilFunc, Value.nilFunc, Value.nilFunc, Value.nilFunc, Value.nilFunc, Value.nilFunc] 226) = W := ⟨_, rfl⟩
  have g0 := grown1 w (.cells #[Value.nilFunc, Value.nilFunc, Value.nilFunc, Value.nilFunc, Value.nilFunc, Value.nilFunc, Value.nilFunc] 226)
  have h0 := heap_alloc_new w (.cells #[Value.nilFunc, Value.nilFunc, Value.nilFunc, Value.nilFunc, Value.nilFunc, Value.nilFunc, Value.nilFunc] 226)
  rw [hW] at g0 h0
  rw [hg] at h0
  have fz : ∀ i, W.frozen? ⟨g, i, none⟩ = false := fun i => free_of h0
  have f0 := fz 0
  have f1 := fz 1
  have f2 := fz 2
  have f3 := fz 3
  have f4 := fz 4
  have f5 := fz 5
  have f6 := fz 6
  have c0 : W.cell? ⟨g, 0, none⟩ = some Value.nilFunc := by rw [cell_of h0]; rfl
  have c1 : W.cell? ⟨g, 1, none⟩ = some Value.nilFunc := by rw [cell_of h0]; rfl
  have c2 : W.cell? ⟨g, 2, none⟩ = some Value.nilFunc := by rw [cell_of h0]; rfl
  have c3 : W.cell? ⟨g, 3, none⟩ = some Value.nilFunc := by rw [cell_of h0]; rfl
  have c4 : W.cell? ⟨g, 4, none⟩ = some Value.nilFunc := by rw [cell_of h0]; rfl
  have c5 : W.cell? ⟨g, 5, none⟩ = some Value.nilFunc := by rw [cell_of h0]; rfl
  have c6 : W.cell? ⟨g, 6, none⟩ = some Value.nilFunc := by rw [cell_of h0]; rfl
  have GG := Lib.hid g0
  have DD := Lib.hid (show W.drawn = w.drawn by rw [← hW]; rfl)
  have HH := Lib.hid (funs_put h0 rfl (fnV 170) (fnV 172) (fnV 174) (fnV 175) (fnV 177) (fnV 179) (fnV 181))
  have HS := Lib.hid hg
  clear g0 h0 fz
  go_enter Tryz.func136, Tryz.ntmps136
  go_upto_region 1 with fail
  clear hW hg
  go_wp2
  refine bodyPost_ret (results_row rfl rfl (run_loadVar_row _ g _ _ _ _ _ HH.out Tryz.underlying226 rfl (by kernel_rfl))) rfl ?_
  refine ⟨rfl, ?_⟩
  have := HS.out
  subst this
  exact ⟨grown_new GG.out (grown_setCell (grown_setCell (grown_setCell (grown_setCell (grown_setCell (grown_setCell (grown_setCell (grown_refl W _) _) _) _) _) _) _) _) (Nat.le_refl _), by rw [setCell_drawn, setCell_drawn, setCell_drawn, setCell_drawn, setCell_drawn, setCell_drawn, setCell_drawn]; exact DD.out⟩
end Go.Proofs.YtbnnlbdjjpmgeaaGreat


namespace Go.Proofs.YtbnnlbdjjpmgeaaGreat
open Go.RowKit Go.Shelf
variable {w w' W V : World}

theorem index_look (k : Nat) (hk : k < 7) (W : World) : (Instr.index 226 (.agg lookFs) (.int .i64 (k : Int))).run Tryz.prog W = .ok (lookFs.getD k undef) W := by
  have hs : (sizeOf 164).run Tryz.prog W = .ok 1 W := by first | kernel_rfl | rfl
  rcases (show k = 0 ∨ k = 1 ∨ k = 2 ∨ k = 3 ∨ k = 4 ∨ k = 5 ∨ k = 6 by omega) with rfl | rfl | rfl | rfl | rfl | rfl | rfl <;>
  simp [Instr.index, asIntOf, run_underlying Tryz.underlying226, go_sem, hs, lookFs]
set_option maxRecDepth 20000 in
set_option maxHeartbeats 1600000 in
theorem order_grew (a b : Fx) (w : World) : Calls Tryz.prog 81 #[fxV a, fxV b] w fun e w' => e = .returned (.int .i64 (ordN a b)) ∧ Grew w w' := by
  obtain ⟨W, hW, ha, hb, hg⟩ := two_grew w a b
  have e1 : ∀ args V, (callFunc 170 args).run Tryz.prog V = .ok (.enter 170 args) V := enters_of Tryz.func170 (by kernel_rfl) rfl
  have e2 : ∀ args V, (callFunc 172 args).run Tryz.prog V = .ok (.enter 172 args) V := enters_of Tryz.func172 (by kernel_rfl) rfl
  have e3 : ∀ args V, (callFunc 174 args).run Tryz.prog V = .ok (.enter 174 args) V := enters_of Tryz.func174 (by kernel_rfl) rfl
  have e4 : ∀ args V, (callFunc 175 args).run Tryz.prog V = .ok (.enter 175 args) V := enters_of Tryz.func175 (by kernel_rfl) rfl
  have e5 : ∀ args V, (callFunc 177 args).run Tryz.prog V = .ok (.enter 177 args) V := enters_of Tryz.func177 (by kernel_rfl) rfl
  have e6 : ∀ args V, (callFunc 179 args).run Tryz.prog V = .ok (.enter 179 args) V := enters_of Tryz.func179 (by kernel_rfl) rfl
  have e7 : ∀ args V, (callFunc 181 args).run Tryz.prog V = .ok (.enter 181 args) V := enters_of Tryz.func181 (by kernel_rfl) rfl
  have HA := Lib.hid ha
  have HB := Lib.hid hb
  have G := Lib.hid hg
  obtain ⟨r, hr⟩ : ∃ r, r = ordN a b := ⟨_, rfl⟩
  obtain ⟨b1, hb1⟩ : ∃ g, w.heap.size = g := ⟨_, rfl⟩
  rw [← hr]
  rw [hb1] at HA HB
  have HR := Lib.hid hr
  clear ha hb hg hr
  have EA : fxV a = .agg #[.int .u64 a.at_, .int .i64 a.kind, .int .u64 a.target, .int .i64 a.ord, .string a.sym, .int .i64 a.add, .bool a.weak] := rfl
  have EB : fxV b = .agg #[.int .u64 b.at_, .int .i64 b.kind, .int .u64 b.target, .int .i64 b.ord, .string b.sym, .int .i64 b.add, .bool b.weak] := rfl
  rw [EA, EB]
  clear EA EB
  go_enter Tryz.func81, Tryz.ntmps81
  go_upto_region 1 with fail
  clear hW hb1
  go_wp2_with (go_at_call 136; refine (looks_any _).mono ?_; rintro e w2 ⟨rfl, hg⟩; have G2 := Lib.hid (G.out.trans hg); have G3 := Lib.hid hg; clear hg)
  go_loopw [9] (fun v wr => ∃ k : Nat, k ≤ 7 ∧ v = .int .i64 k ∧ Grew W wr ∧ Hid (ordN a b = ordK a b (7 - k) k)) (fun v _ => 7 - (intOf v).toNat)
  case atStart => exact ⟨0, by decide, rfl, G3.out, Lib.hid rfl⟩
  case round =>
    obtain ⟨k, hk, rfl, hg, OK⟩ := hrel
    have GR := Lib.hid hg
    clear hg
    by_cases hlt : k < 7
    · obtain ⟨W3, hW3⟩ : ∃ V, V = wr := ⟨_, rfl⟩
      have A3 := HA.out.grown GR.out.g
      have B3 := HB.out.grown GR.out.g
      obtain ⟨a0, a1, a2, a3, a4, a5, a6⟩ := A3.c
      obtain ⟨c0, c1, c2, c3, c4, c5, c6⟩ := B3.c
      obtain ⟨q, hq⟩ : ∃ q, q = lookN k a b := ⟨_, rfl⟩
      have HQ := Lib.hid hq
      have NX := Lib.hid (show ordK a b (7 - k) k = thn q (ordK a b (7 - (k + 1)) (k + 1)) by rw [hq, show 7 - k = (7 - (k + 1)) + 1 by omega]; rfl)
      have HLT := Lib.hid hlt
      clear A3 B3 hq hW3
      rcases (show k = 0 ∨ k = 1 ∨ k = 2 ∨ k = 3 ∨ k = 4 ∨ k = 5 ∨ k = 6 by omega) with rfl | rfl | rfl | rfl | rfl | rfl | rfl
      · have L := Lib.hid (look1 a b wr)
        have ix : ∀ V, (Instr.index 226 (.agg lookFs) (.int .i64 0)).run Tryz.prog V = .ok (.func (.func 170) #[] #[]) V := fun V => index_look 0 (by decide) V
        rw [← HQ.out] at L
        unfold fxV fxArr at L
        by_cases hz : q = 0
        · subst hz
          go_wp2_with fail
          refine L.out.mono ?_
          rintro e w4 ⟨rfl, hg⟩
          have G4 := Lib.hid (GR.out.trans hg)
          clear hg a0 a1 a2 a3 a4 a5 a6 c0 c1 c2 c3 c4 c5 c6 L
          go_wp2
          go_roundw
          case rel => exact ⟨1, by decide, rfl, G4.out, Lib.hid (by rw [OK.out, NX.out]; rfl)⟩
          case measure => simp [intOf]
        · go_wp2_with fail
          refine L.out.mono ?_
          rintro e w4 ⟨rfl, hg⟩
          have G4 := Lib.hid (GR.out.trans hg)
          clear hg a0 a1 a2 a3 a4 a5 a6 c0 c1 c2 c3 c4 c5 c6 L
          go_wp2
          go_ret
          refine ⟨?_, G.out.trans G4.out⟩
          rw [HR.out, OK.out, NX.out, thn, if_pos hz]
          rfl
      · have L := Lib.hid (look2 a b wr)
        have ix : ∀ V, (Instr.index 226 (.agg lookFs) (.int .i64 1)).run Tryz.prog V = .ok (.func (.func 172) #[] #[]) V := fun V => index_look 1 (by decide) V
        rw [← HQ.out] at L
        unfold fxV fxArr at L
        by_cases hz : q = 0
        · subst hz
          go_wp2_with fail
          refine L.out.mono ?_
          rintro e w4 ⟨rfl, hg⟩
          have G4 := Lib.hid (GR.out.trans hg)
          clear hg a0 a1 a2 a3 a4 a5 a6 c0 c1 c2 c3 c4 c5 c6 L
          go_wp2
          go_roundw
          case rel => exact ⟨2, by decide, rfl, G4.out, Lib.hid (by rw [OK.out, NX.out]; rfl)⟩
          case measure => simp [intOf]
        · go_wp2_with fail
          refine L.out.mono ?_
          rintro e w4 ⟨rfl, hg⟩
          have G4 := Lib.hid (GR.out.trans hg)
          clear hg a0 a1 a2 a3 a4 a5 a6 c0 c1 c2 c3 c4 c5 c6 L
          go_wp2
          go_ret
          refine ⟨?_, G.out.trans G4.out⟩
          rw [HR.out, OK.out, NX.out, thn, if_pos hz]
          rfl
      · have L := Lib.hid (look3 a b wr)
        have ix : ∀ V, (Instr.index 226 (.agg lookFs) (.int .i64 2)).run Tryz.prog V = .ok (.func (.func 174) #[] #[]) V := fun V => index_look 2 (by decide) V
        rw [← HQ.out] at L
        unfold fxV fxArr at L
        by_cases hz : q = 0
        · subst hz
          go_wp2_with fail
          refine L.out.mono ?_
          rintro e w4 ⟨rfl, hg⟩
          have G4 := Lib.hid (GR.out.trans hg)
          clear hg a0 a1 a2 a3 a4 a5 a6 c0 c1 c2 c3 c4 c5 c6 L
          go_wp2
          go_roundw
          case rel => exact ⟨3, by decide, rfl, G4.out, Lib.hid (by rw [OK.out, NX.out]; rfl)⟩
          case measure => simp [intOf]
        · go_wp2_with fail
          refine L.out.mono ?_
          rintro e w4 ⟨rfl, hg⟩
          have G4 := Lib.hid (GR.out.trans hg)
          clear hg a0 a1 a2 a3 a4 a5 a6 c0 c1 c2 c3 c4 c5 c6 L
          go_wp2
          go_ret
          refine ⟨?_, G.out.trans G4.out⟩
          rw [HR.out, OK.out, NX.out, thn, if_pos hz]
          rfl
      · have L := Lib.hid (look4 a b wr)
        have ix : ∀ V, (Instr.index 226 (.agg lookFs) (.int .i64 3)).run Tryz.prog V = .ok (.func (.func 175) #[] #[]) V := fun V => index_look 3 (by decide) V
        rw [← HQ.out] at L
        unfold fxV fxArr at L
        by_cases hz : q = 0
        · subst hz
          go_wp2_with fail
          refine L.out.mono ?_
          rintro e w4 ⟨rfl, hg⟩
          have G4 := Lib.hid (GR.out.trans hg)
          clear hg a0 a1 a2 a3 a4 a5 a6 c0 c1 c2 c3 c4 c5 c6 L
          go_wp2
          go_roundw
          case rel => exact ⟨4, by decide, rfl, G4.out, Lib.hid (by rw [OK.out, NX.out]; rfl)⟩
          case measure => simp [intOf]
        · go_wp2_with fail
          refine L.out.mono ?_
          rintro e w4 ⟨rfl, hg⟩
          have G4 := Lib.hid (GR.out.trans hg)
          clear hg a0 a1 a2 a3 a4 a5 a6 c0 c1 c2 c3 c4 c5 c6 L
          go_wp2
          go_ret
          refine ⟨?_, G.out.trans G4.out⟩
          rw [HR.out, OK.out, NX.out, thn, if_pos hz]
          rfl
      · have L := Lib.hid (look5 a b wr)
        have ix : ∀ V, (Instr.index 226 (.agg lookFs) (.int .i64 4)).run Tryz.prog V = .ok (.func (.func 177) #[] #[]) V := fun V => index_look 4 (by decide) V
        rw [← HQ.out] at L
        unfold fxV fxArr at L
        by_cases hz : q = 0
        · subst hz
          go_wp2_with fail
          refine L.out.mono ?_
          rintro e w4 ⟨rfl, hg⟩
          have G4 := Lib.hid (GR.out.trans hg)
          clear hg a0 a1 a2 a3 a4 a5 a6 c0 c1 c2 c3 c4 c5 c6 L
          go_wp2
          go_roundw
          case rel => exact ⟨5, by decide, rfl, G4.out, Lib.hid (by rw [OK.out, NX.out]; rfl)⟩
          case measure => simp [intOf]
        · go_wp2_with fail
          refine L.out.mono ?_
          rintro e w4 ⟨rfl, hg⟩
          have G4 := Lib.hid (GR.out.trans hg)
          clear hg a0 a1 a2 a3 a4 a5 a6 c0 c1 c2 c3 c4 c5 c6 L
          go_wp2
          go_ret
          refine ⟨?_, G.out.trans G4.out⟩
          rw [HR.out, OK.out, NX.out, thn, if_pos hz]
          rfl
      · have L := Lib.hid (look6 a b wr)
        have ix : ∀ V, (Instr.index 226 (.agg lookFs) (.int .i64 5)).run Tryz.prog V = .ok (.func (.func 179) #[] #[]) V := fun V => index_look 5 (by decide) V
        rw [← HQ.out] at L
        unfold fxV fxArr at L
        by_cases hz : q = 0
        · subst hz
          go_wp2_with fail
          refine L.out.mono ?_
          rintro e w4 ⟨rfl, hg⟩
          have G4 := Lib.hid (GR.out.trans hg)
          clear hg a0 a1 a2 a3 a4 a5 a6 c0 c1 c2 c3 c4 c5 c6 L
          go_wp2
          go_roundw
          case rel => exact ⟨6, by decide, rfl, G4.out, Lib.hid (by rw [OK.out, NX.out]; rfl)⟩
          case measure => simp [intOf]
        · go_wp2_with fail
          refine L.out.mono ?_
          rintro e w4 ⟨rfl, hg⟩
          have G4 := Lib.hid (GR.out.trans hg)
          clear hg a0 a1 a2 a3 a4 a5 a6 c0 c1 c2 c3 c4 c5 c6 L
          go_wp2
          go_ret
          refine ⟨?_, G.out.trans G4.out⟩
          rw [HR.out, OK.out, NX.out, thn, if_pos hz]
          rfl
      · have L := Lib.hid (look7 a b wr)
        have ix : ∀ V, (Instr.index 226 (.agg lookFs) (.int .i64 6)).run Tryz.prog V = .ok (.func (.func 181) #[] #[]) V := fun V => index_look 6 (by decide) V
        rw [← HQ.out] at L
        unfold fxV fxArr at L
        by_cases hz : q = 0
        · subst hz
          go_wp2_with fail
          refine L.out.mono ?_
          rintro e w4 ⟨rfl, hg⟩
          have G4 := Lib.hid (GR.out.trans hg)
          clear hg a0 a1 a2 a3 a4 a5 a6 c0 c1 c2 c3 c4 c5 c6 L
          go_wp2
          go_roundw
          case rel => exact ⟨7, by decide, rfl, G4.out, Lib.hid (by rw [OK.out, NX.out]; rfl)⟩
          case measure => simp [intOf]
        · go_wp2_with fail
          refine L.out.mono ?_
          rintro e w4 ⟨rfl, hg⟩
          have G4 := Lib.hid (GR.out.trans hg)
          clear hg a0 a1 a2 a3 a4 a5 a6 c0 c1 c2 c3 c4 c5 c6 L
          go_wp2
          go_ret
          refine ⟨?_, G.out.trans G4.out⟩
          rw [HR.out, OK.out, NX.out, thn, if_pos hz]
          rfl
    · obtain rfl : k = 7 := by omega
      have E0 : r = 0 := by rw [HR.out, OK.out]; rfl
      subst E0
      go_wp2
      go_ret
      exact ⟨rfl, G.out.trans GR.out⟩
theorem order_any (a b : Fx) (w : World) : Calls Tryz.prog 81 #[fxV a, fxV b] w fun e w' => e = .returned (.int .i64 (ordN a b)) ∧ w.grownBy w' none := (order_grew a b w).mono fun _ _ h => ⟨h.1, h.2.g⟩
end Go.Proofs.YtbnnlbdjjpmgeaaGreat


namespace Go.Proofs.YtbnnlbdjjpmgeaaGreat

def LtF (a b : Fx) : Prop := ordN a b < 0
theorem ltF_trans {a b c : Fx} (h : LtF a b) (k : LtF b c) : LtF a c := by
  unfold LtF at *
  have t := held_ord.trans a b c (by omega) (by omega)
  rcases Int.lt_or_eq_of_le t with e | e
  · exact e
  · have := ord_0 e
    subst this
    have := held_ord.anti a b
    omega
theorem ltF_irr (a : Fx) : ¬ LtF a a := by unfold LtF; rw [ord_self]; omega
theorem ltF_at {a b : Fx} (h : LtF a b) : a.at_ ≤ b.at_ := by
  unfold LtF ordN at h
  simp only [ordK, lookN, thn, cmpI] at h
  by_cases q : b.at_ < a.at_
  · rw [if_pos (by rw [if_neg (by omega), if_pos q]; decide), if_neg (by omega), if_pos q] at h
    omega
  · omega
structure IsSet (S l : List Fx) : Prop where
  up : S.Pairwise LtF
  mem : ∀ x, x ∈ S ↔ x ∈ l
theorem up_one : ∀ {S T : List Fx}, S.Pairwise LtF → T.Pairwise LtF → (∀ x, x ∈ S ↔ x ∈ T) → S = T
  | [], [], _, _, _ => rfl
  | [], y :: T, _, _, h => by have := (h y).2 (by simp); cases this
  | x :: S, [], _, _, h => by have := (h x).1 (by simp); cases this
  | x :: S, y :: T, hs, ht, h => by
    obtain ⟨s1, s2⟩ := List.pairwise_cons.1 hs
    obtain ⟨t1, t2⟩ := List.pairwise_cons.1 ht
    have e : x = y := by
      rcases List.mem_cons.1 ((h x).1 (by simp)) with e | e
      · exact e
      · rcases List.mem_cons.1 ((h y).2 (by simp)) with f | f
        · exact f.symm
        · exact absurd (ltF_trans (s1 y f) (t1 x e)) (ltF_irr x)
    subst e
    congr 1
    refine up_one s2 t2 fun z => ⟨fun hz => ?_, fun hz => ?_⟩
    · rcases List.mem_cons.1 ((h z).1 (List.mem_cons_of_mem _ hz)) with f | f
      · subst f; exact absurd (s1 z hz) (ltF_irr z)
      · exact f
    · rcases List.mem_cons.1 ((h z).2 (List.mem_cons_of_mem _ hz)) with f | f
      · subst f; exact absurd (t1 z hz) (ltF_irr z)
      · exact f
theorem IsSet.one {S T l : List Fx} (h : IsSet S l) (k : IsSet T l) : S = T := up_one h.up k.up fun x => (h.mem x).trans (k.mem x).symm
theorem len_sub : ∀ (S l : List Fx), S.Pairwise (fun a b => a ≠ b) → (∀ x ∈ S, x ∈ l) → S.length ≤ l.length
  | [], l, _, _ => Nat.zero_le _
  | a :: S, l, hn, hs => by
    obtain ⟨h1, h2⟩ := List.pairwise_cons.1 hn
    have ha := hs a (by simp)
    have h3 := len_sub S (l.erase a) h2 (fun x hx => (List.mem_erase_of_ne (fun e => h1 x hx e.symm)).2 (hs x (List.mem_cons_of_mem _ hx)))
    rw [List.length_erase_of_mem ha] at h3
    have := List.length_pos_of_mem ha
    simp only [List.length_cons]
    omega
theorem IsSet.len {S l : List Fx} (h : IsSet S l) : S.length ≤ l.length :=
  len_sub S l (h.up.imp fun {a b} hab (e : a = b) => ltF_irr b (by rw [e] at hab; exact hab)) (fun x hx => (h.mem x).1 hx)
def dedF : List Fx → List Fx
  | [] => []
  | [x] => [x]
  | x :: y :: l => if ordN y x = 0 then dedF (y :: l) else x :: dedF (y :: l)
theorem dedF_mem : ∀ (l : List Fx) (x : Fx), x ∈ dedF l ↔ x ∈ l
  | [], _ => Iff.rfl
  | [_], _ => Iff.rfl
  | a :: b :: l, x => by
    have ih := dedF_mem (b :: l) x
    unfold dedF
    split
    · rename_i h
      rw [ih]
      have := ord_0 h
      subst this
      simp
    · rw [List.mem_cons, ih, List.mem_cons (a := x) (b := a)]
theorem dedF_up : ∀ {l : List Fx}, l.Pairwise (fun a b => ordN a b ≤ 0) → (dedF l).Pairwise LtF
  | [], _ => List.Pairwise.nil
  | [_], _ => List.pairwise_singleton ..
  | a :: b :: l, h => by
    obtain ⟨h1, h2⟩ := List.pairwise_cons.1 h
    have ih := dedF_up h2
    unfold dedF
    split
    · exact ih
    · rename_i hn
      refine List.pairwise_cons.2 ⟨fun x hx => ?_, ih⟩
      have hx' := (dedF_mem (b :: l) x).1 hx
      have hab := h1 b (by simp)
      have anti := held_ord.anti a b
      have lab : LtF a b := by unfold LtF; omega
      rcases List.mem_cons.1 hx' with e | e
      · subst e; exact lab
      · have hbx := (List.pairwise_cons.1 h2).1 x e
        by_cases q : LtF b x
        · exact ltF_trans lab q
        · have : ordN b x = 0 := by unfold LtF at q; omega
          have := ord_0 this
          subst this
          exact lab
theorem set_ded {l R : List Fx} (hp : R.Perm l) (hr : R.Pairwise fun a b => ordN a b ≤ 0) : IsSet (dedF R) l := ⟨dedF_up hr, fun x => (dedF_mem R x).trans hp.mem_iff⟩
def near (a b : Fx) : Prop := a ≠ b ∧ (if a.at_ > b.at_ then a.at_ - b.at_ else b.at_ - a.at_) < 8
def MeetL (l : List Fx) : Prop := ∃ a b, a ∈ l ∧ b ∈ l ∧ near a b
theorem near_symm {a b : Fx} (h : near a b) : near b a := by
  refine ⟨h.1.symm, ?_⟩
  have := h.2
  split at this <;> split <;> omega
def MeetN (S : List Fx) : Prop := ∃ i a b, S[i]? = some a ∧ S[i + 1]? = some b ∧ b.at_ - a.at_ < 8
theorem meet_one {S l : List Fx} (h : IsSet S l) : MeetL l ↔ MeetN S := by
  have up := List.pairwise_iff_getElem.1 h.up
  constructor
  · rintro ⟨a, b, ha, hb, hn⟩
    obtain ⟨i, hi, rfl⟩ := List.getElem_of_mem ((h.mem a).2 ha)
    obtain ⟨j, hj, rfl⟩ := List.getElem_of_mem ((h.mem b).2 hb)
    have go : ∀ i j (hi : i < S.length) (hj : j < S.length), i < j → near S[i] S[j] → MeetN S := by
      intro i j hi hj hij hn
      refine ⟨i, S[i], S[i + 1]'(by omega), List.getElem?_eq_getElem hi, List.getElem?_eq_getElem _, ?_⟩
      have h1 := ltF_at (up i j hi hj hij)
      have h2 : (S[i + 1]'(by omega)).at_ ≤ S[j].at_ := by
        rcases Nat.lt_or_ge (i + 1) j with q | q
        · exact ltF_at (up (i + 1) j (by omega) hj q)
        · have : j = i + 1 := by omega
          subst this; exact Int.le_refl _
      have := hn.2
      split at this <;> omega
    rcases Nat.lt_trichotomy i j with q | q | q
    · exact go i j hi hj q hn
    · subst q; exact absurd rfl hn.1
    · exact go j i hj hi q (near_symm hn)
  · rintro ⟨i, a, b, ha, hb, hn⟩
    obtain ⟨hi, rfl⟩ := List.getElem?_eq_some_iff.1 ha
    obtain ⟨hj, rfl⟩ := List.getElem?_eq_some_iff.1 hb
    have l1 := up i (i + 1) hi hj (by omega)
    refine ⟨_, _, (h.mem _).1 (List.getElem_mem hi), (h.mem _).1 (List.getElem_mem hj), fun e => ltF_irr _ (e ▸ l1), ?_⟩
    have := ltF_at l1
    split <;> omega
end Go.Proofs.YtbnnlbdjjpmgeaaGreat


namespace Go.Proofs.YtbnnlbdjjpmgeaaGreat
open Go.RowKit Go.Sort
variable {w w' : World}
theorem own_sorted {α : Type} [Inhabited α] {T : TypeId} {k n c g lo m : Nat} {f : α → List Value} {xs : List Value} {d : Array α} {os : Array Obj} (hf : ∀ x, (f x).length = k) (hk : 0 < k) (h : w.ownsRow lo T k (.slice (some ⟨g, 0, none⟩) n c) n xs) (hd : d.size = n) :
    (sortWorldK f k w g 0 m d os).ownsRow lo T k (.slice (some ⟨g, 0, none⟩) n c) n (d.toList.flatMap f) := by
  obtain ⟨hB, hn | ⟨g', cap, cur, hv, hg', hb, h1, h2, h3, h4⟩⟩ := h
  · cases hn.1
  · injection hv with e1 e2 e3
    injection e1 with e1
    injection e1 with e1 _ _
    subst e1 e3
    have hlt := lt_of_block hb
    have hsz : (flatK f k d).size = n * k := by rw [size_flatK, hd]
    refine ⟨?_, .inr ⟨g, c, putCells id 0 (flatK f k d) cur, rfl, hg', ?_, h1, h2, ?_, ?_⟩⟩
    · rw [flat_len hf, Array.length_toList, hd]
    · simp only [sortWorldK, grow, putRowK, putRow, mapBlock, Sort.ahead]
      rw [Array.getElem?_append_left (by rw [Array.size_modify]; exact hlt), Array.getElem?_modify, if_pos rfl, hb]
      rfl
    · unfold putCells
      rw [Array.size_mapIdx, h3]
    · apply List.ext_getElem?
      intro t
      by_cases ht : t < n * k
      · have hd' : t / k < d.toList.length := by rw [Array.length_toList, hd]; exact Nat.div_lt_of_lt_mul (by rw [Nat.mul_comm]; exact ht)
        have hm : t % k < k := Nat.mod_lt _ hk
        have hx : d.toList[t / k]? = some (d.toList[t / k]'hd') := List.getElem?_eq_getElem hd'
        have hfa := flat_at hf d.toList (t / k) (t % k) _ hx hm
        rw [show t / k * k + t % k = t by rw [Nat.mul_comm]; exact Nat.div_add_mod t k] at hfa
        have hc : t < cur.size := by rw [h3]; exact Nat.lt_of_lt_of_le ht (Nat.mul_le_mul_right k h1)
        rw [hfa, List.getElem?_take_of_lt ht]
        unfold putCells
        rw [Array.getElem?_toList, Array.getElem?_mapIdx, Array.getElem?_eq_getElem hc, Option.map_some, if_pos ⟨Nat.zero_le _, by rw [hsz]; omega⟩, Nat.sub_zero, get_flatK _ _ _ _ (by rw [hd]; exact ht)]
        have hdd : t / k < d.size := by simpa using hd'
        rw [getElem!_pos d (t / k) hdd, getElem!_pos (f d[t / k]) (t % k) (by rw [hf]; exact hm), List.getElem?_eq_getElem (by rw [hf]; exact hm)]
        rfl
      · rw [List.getElem?_eq_none (by rw [List.length_take]; omega), List.getElem?_eq_none (by rw [flat_len hf, Array.length_toList, hd]; omega)]
end Go.Proofs.YtbnnlbdjjpmgeaaGreat


namespace Go.Proofs
open Go.Shelf
def Tryz.sortFx_ren : Go.Shelf.Ren := ⟨fun | 6 => 133 | 15 => 70 | 14 => 169 | 28 => 119 | 29 => 120 | 20 => 198 | 21 => 199 | 22 => 200 | 23 => 201 | 24 => 202 | 25 => 203 | 26 => 204 | 27 => 205 | 46 => 214 | 47 => 158 | 48 => 159 | 49 => 215 | 50 => 216 | 57 => 218 | n => n, fun | 22 => 41 | 24 => 60 | 25 => 164 | 3 => 3 | 39 => 143 | 0 => 0 | 53 => 43 | 55 => 26 | 4 => 4 | 46 => 193 | 45 => 192 | 50 => 197 | 5 => 5 | 9 => 9 | 66 => 243 | 70 => 246 | 76 => 270 | 77 => 271 | n => n, fun | n => n⟩
theorem Tryz.sortFx : Go.Proofs.SlLaysF0.n6 Tryz.prog Tryz.sortFx_ren := {
  mixed := by kernel_rfl
  f6 := ⟨Tryz.f133.name, by decide, Tryz.func133.trans (congrArg some (by kernel_rfl))⟩
  f14 := ⟨Tryz.f169.name, by decide, Tryz.func169.trans (congrArg some (by kernel_rfl))⟩
  f15 := Tryz.func70.trans (congrArg some (by kernel_rfl))
  f20 := ⟨Tryz.f198.name, by decide, Tryz.func198.trans (congrArg some (by kernel_rfl))⟩
  f21 := ⟨Tryz.f199.name, by decide, Tryz.func199.trans (congrArg some (by kernel_rfl))⟩
  f22 := ⟨Tryz.f200.name, by decide, Tryz.func200.trans (congrArg some (by kernel_rfl))⟩
  f23 := ⟨Tryz.f201.name, by decide, Tryz.func201.trans (congrArg some (by kernel_rfl))⟩
  f24 := ⟨Tryz.f202.name, by decide, Tryz.func202.trans (congrArg some (by kernel_rfl))⟩
  f25 := ⟨Tryz.f203.name, by decide, Tryz.func203.trans (congrArg some (by kernel_rfl))⟩
  f26 := ⟨Tryz.f204.name, by decide, Tryz.func204.trans (congrArg some (by kernel_rfl))⟩
  f27 := ⟨Tryz.f205.name, by decide, Tryz.func205.trans (congrArg some (by kernel_rfl))⟩
  f28 := Tryz.func119.trans (congrArg some (by kernel_rfl))
  f29 := Tryz.func120.trans (congrArg some (by kernel_rfl))
  f46 := ⟨Tryz.f214.name, by decide, Tryz.func214.trans (congrArg some (by kernel_rfl))⟩
  f47 := Tryz.func158.trans (congrArg some (by kernel_rfl))
  f48 := Tryz.func159.trans (congrArg some (by kernel_rfl))
  f49 := ⟨Tryz.f215.name, by decide, Tryz.func215.trans (congrArg some (by kernel_rfl))⟩
  f50 := ⟨Tryz.f216.name, by decide, Tryz.func216.trans (congrArg some (by kernel_rfl))⟩
  f57 := ⟨Tryz.f218.name, by decide, Tryz.func218.trans (congrArg some (by kernel_rfl))⟩
  t0 := Tryz.underlying0
  a0 := Tryz.isAgg0
  z0 := Tryz.sizeOf0
  v0 := Tryz.zeroValue0
  t3 := Tryz.underlying3
  a3 := Tryz.isAgg3
  z3 := Tryz.sizeOf3
  v3 := Tryz.zeroValue3
  t4 := Tryz.underlying4
  a4 := Tryz.isAgg4
  z4 := Tryz.sizeOf4
  v4 := Tryz.zeroValue4
  t5 := Tryz.underlying5
  a5 := Tryz.isAgg5
  z5 := Tryz.sizeOf5
  v5 := Tryz.zeroValue5
  t9 := Tryz.underlying9
  a9 := Tryz.isAgg9
  z9 := Tryz.sizeOf9
  v9 := Tryz.zeroValue9
  t22 := Tryz.underlying41
  a22 := Tryz.isAgg41
  z22 := Tryz.sizeOf41
  v22 := Tryz.zeroValue41
  t25 := Tryz.underlying164
  a25 := Tryz.isAgg164
  z25 := Tryz.sizeOf164
  v25 := Tryz.zeroValue164
  t39 := Tryz.underlying143
  a39 := Tryz.isAgg143
  z39 := Tryz.sizeOf143
  v39 := Tryz.zeroValue143
  t45 := Tryz.underlying192
  a45 := Tryz.isAgg192
  z45 := Tryz.sizeOf192
  v45 := Tryz.zeroValue192
  t46 := Tryz.underlying193
  a46 := Tryz.isAgg193
  z46 := Tryz.sizeOf193
  v46 := Tryz.zeroValue193
  t50 := Tryz.underlying197
  a50 := Tryz.isAgg197
  z50 := Tryz.sizeOf197
  v50 := Tryz.zeroValue197
  t53 := Tryz.underlying43
  a53 := Tryz.isAgg43
  z53 := Tryz.sizeOf43
  v53 := Tryz.zeroValue43
  t55 := Tryz.underlying26
  a55 := Tryz.isAgg26
  z55 := Tryz.sizeOf26
  v55 := Tryz.zeroValue26
  t66 := Tryz.underlying243
  a66 := Tryz.isAgg243
  z66 := Tryz.sizeOf243
  v66 := Tryz.zeroValue243
  t70 := Tryz.underlying246
  a70 := Tryz.isAgg246
  z70 := Tryz.sizeOf246
  v70 := Tryz.zeroValue246
  t76 := Tryz.underlying270
  a76 := Tryz.isAgg270
  z76 := Tryz.sizeOf270
  v76 := Tryz.zeroValue270
  t77 := Tryz.underlying271
  a77 := Tryz.isAgg271
  z77 := Tryz.sizeOf271
  v77 := Tryz.zeroValue271 }
end Go.Proofs


namespace Go.Proofs.YtbnnlbdjjpmgeaaGreat
open Go.RowKit Go.Sort Go.Shelf
variable {w w' W V : World}

theorem grew_grow (h : Grew w w') : ∃ q os', w' = grow (w.drewN q) os' := by
  obtain ⟨hg, hd⟩ := h
  refine ⟨0, w'.heap.extract w.heap.size w'.heap.size, ?_⟩
  obtain ⟨p, hp⟩ := regrown_of_below (below_grown hg (Nat.le_refl _) (fun k e => by cases e) : Go.RowKit.Below w.heap.size w w')
  have e : p.d = w.drawn := by rw [← hd, hp]; rfl
  have e2 : w'.heap.extract w.heap.size w'.heap.size = p.os := by
    rw [hp]
    simp [grow, redrawn]
  rw [e2, hp, e]
  rfl
instance : Inhabited Fx := ⟨fx0⟩
theorem swoFx : SWO (ltOf ordN) where
  irrefl x := by show decide (ordN x x < 0) = false; rw [ord_self]; rfl
  trans x y z h1 h2 := by
    have a : LtF x y := by unfold LtF; simpa [ltOf] using h1
    have b : LtF y z := by unfold LtF; simpa [ltOf] using h2
    have := ltF_trans a b
    simpa [ltOf, LtF] using this
  ntrans x y z h1 h2 := by
    have a : 0 ≤ ordN x y := by simpa [ltOf] using h1
    have b : 0 ≤ ordN y z := by simpa [ltOf] using h2
    have a' := held_ord.anti x y
    have b' := held_ord.anti y z
    have c' := held_ord.anti x z
    have t := held_ord.trans z y x (by omega) (by omega)
    have : 0 ≤ ordN x z := by omega
    simpa [ltOf] using this
theorem ord_lays (blk off size : Nat) (w : World) : CmpLays Tryz.prog 81 #[] fxCs 7 ordN blk off size w := fun _ _ _ _ x y => (order_grew x y _).mono fun _ _ h => ⟨h.1, grew_grow h.2⟩
theorem insNoneF (p : Option Addr) (cap : Nat) (W : World) : Calls Tryz.prog 198 #[.slice p 0 cap, .int .i64 0, .int .i64 0, .func (.func 81) #[] #[]] W fun e w' => e = .returned (.tuple #[]) ∧ w' = W := by
  go_enter Tryz.func198, Tryz.ntmps198
  go_wp2
  refine wp_loop_rounds 1 ?_
  rw [rounds_succ]
  go_wp2
  go_end0
  exact ⟨rfl, rfl⟩
set_option maxRecDepth 20000 in
theorem pdqNoneF (p : Option Addr) (cap : Nat) (lim : Int) (W : World) : Calls Tryz.prog 169 #[.slice p 0 cap, .int .i64 0, .int .i64 0, .int .i64 lim, .func (.func 81) #[] #[]] W fun e w' => e = .returned (.tuple #[]) ∧ w' = W := by
  have I := Lib.hid (fun V => insNoneF p cap V)
  go_enter Tryz.func169, Tryz.ntmps169
  go_wp2_with fail
  refine wp_loop_rounds 1 ?_
  rw [rounds_succ]
  go_wp2_with fail
  refine (I.out _).mono ?_
  rintro e w' ⟨rfl, rfl⟩
  go_wp2
  (try simp only [Exit.inBlock, Exit.then])
  refine bodyPost_ret (results_none rfl _ _ _) rfl ?_
  exact ⟨rfl, rfl⟩
theorem sortNoneF (p : Option Addr) (cap : Nat) (W : World) : Calls Tryz.prog 133 #[.slice p 0 cap, .func (.func 81) #[] #[]] W fun e w' => e = .returned (.tuple #[]) ∧ w' = W := by
  have P := Lib.hid (fun lim V => pdqNoneF p cap lim V)
  have L := Lib.hid (fun V => (show Calls Tryz.prog 70 #[.int .u64 0] V fun e w' => e = .returned (.int .i64 (Lib.bitLen 0 : Nat)) ∧ w' = V from
    Go.Proofs.Any.bits_Len (Go.Proofs.SlLaysF0.n15.bits (P := Tryz.prog) (ρ := Tryz.sortFx_ren) { Tryz.sortFx with }) 0 V (by omega) (by omega)))
  go_enter Tryz.func133, Tryz.ntmps133
  go_wp2_with fail
  refine (L.out _).mono ?_
  rintro e w' ⟨rfl, rfl⟩
  go_wp2_with fail
  refine (P.out _ _).mono ?_
  rintro e w' ⟨rfl, rfl⟩
  go_wp2
  go_end0
  exact ⟨rfl, rfl⟩
structure SrtF (w w' : World) (lo n c : Nat) (q : Option Addr) (l : List Fx) : Prop where
  ex : ∃ R : List Fx, R.Perm l ∧ (R.Pairwise fun a b => ordN a b ≤ 0) ∧ w'.ownsRow lo 60 7 (.slice q n c) n (R.flatMap fxCs)
  grown : w.grownBy w' (Value.slice q n c).ownBlock
theorem sortF_any {lo n c g : Nat} {l : List Fx} (h : w.ownsRow lo 60 7 (.slice (some ⟨g, 0, none⟩) n c) n (l.flatMap fxCs)) (hl : l.length = n) (hn : n ≤ 1000000000) :
    Calls Tryz.prog 133 #[.slice (some ⟨g, 0, none⟩) n c, .func (.func 81) #[] #[]] w fun e w' => e = .returned (.tuple #[]) ∧ SrtF w w' lo n c (some ⟨g, 0, none⟩) l := by
  have HK := holdsK_own fxCs_len h
  have hlt2 := h.lt g rfl
  have hsz : l.toArray.size = n := by simpa using hl
  have hcon := AnyQ.slices_SortFunc Tryz.sortFx 7 Tryz.isAgg60 Tryz.sizeOf60 fxCs fxCs_len fxCs_one ordN swoFx 81 #[] g 0 c l.toArray w (enters_of Tryz.func81 (by kernel_rfl) rfl) (ord_lays g 0 _ w) HK hlt2.2 (by rw [hsz]; omega)
  change Calls Tryz.prog 133 _ _ _ at hcon
  rw [hsz] at hcon
  refine hcon.mono ?_
  rintro e w9 ⟨rfl, d', n9, os9, hp, hs, rfl⟩
  rw [← hsz] at hp hs
  obtain ⟨p1, p2, p3⟩ := perm_list hp hs
  have e1 : l.toArray.toList = l := by simp
  rw [e1] at p1
  refine ⟨rfl, ⟨d'.toList, p1, ?_, own_sorted fxCs_len (by decide) h (p2.trans hsz)⟩, grown_sort fxCs 7 w g 0 n9 d' os9⟩
  rw [List.pairwise_iff_getElem]
  intro i j hi hj hij
  have hi' : i < d'.size := by simpa using hi
  have hj' : j < d'.size := by simpa using hj
  have := p3 i j hij hj'
  rw [getElem!_pos d' i hi', getElem!_pos d' j hj'] at this
  have h0 : 0 ≤ ordN d'[j] d'[i] := by simpa [ltOf] using this
  have := held_ord.anti d'[i] d'[j]
  simp only [Array.getElem_toList]
  omega
end Go.Proofs.YtbnnlbdjjpmgeaaGreat


namespace Go.Proofs.YtbnnlbdjjpmgeaaGreat
open Go.RowKit Go.Shelf
variable {w w' W V : World}
theorem eq_step {d : Nat} {xs ys : Array Value} {f : Field} {fs : List Field} {T : TypeId} {k : Nat} {nm : String} {u v : Value} {r : Bool} (hn : f.name = nm) (hx : nm ≠ "_") (ht : f.type = T) (ho : f.offset = k)
    (pa : (part T xs k).run Tryz.prog w = .ok u w) (pb : (part T ys k).run Tryz.prog w = .ok v w) (he : (Op.equalIn d T u v).run Tryz.prog w = .ok r w) :
    (Op.eqFields d xs ys (f :: fs)).run Tryz.prog w = if r = true then (Op.eqFields d xs ys fs).run Tryz.prog w else .ok false w := by
  subst hn ht ho
  simp only [Op.eqFields, if_pos hx, Sem.run_bind, pa, pb, he, Result.andThen_ok]
  cases r
  · simp [Sem.run_pure]
  · simp
theorem part_plain {T : TypeId} (hi : (isAgg T).run Tryz.prog w = .ok false w) {xs : Array Value} {k : Nat} {v : Value} (hv : xs[k]? = some v) : (part T xs k).run Tryz.prog w = .ok v w := by
  simp [part, Sem.run_bind, hi, hv, go_sem]
set_option maxRecDepth 20000 in
set_option maxHeartbeats 1600000 in
theorem equal_fx (a b : Fx) (w : World) : (Op.equalIn 10000 60 (fxV a) (fxV b)).run Tryz.prog w = .ok (decide (a = b)) w := by
  unfold fxV
  rw [run_equalIn_agg (P := Tryz.prog) w 9999 60 _ _ (by kernel_rfl) (by kernel_rfl)]
  have hf : (Tryz.prog.fieldsOf 60).toList.map (fun f => (f.name, f.type, f.offset)) = [("At", 26, 0), ("Kind", 58, 1), ("Target", 26, 2), ("Ordinal", 3, 3), ("Symbol", 9, 4), ("Addend", 2, 5), ("Weak", 4, 6)] := by kernel_rfl
  obtain ⟨fs, hfs⟩ : ∃ fs, fs = (Tryz.prog.fieldsOf 60).toList := ⟨_, rfl⟩
  rw [← hfs] at hf ⊢
  clear hfs
  have hl : fs.length = 7 := by have := congrArg List.length hf; simpa using this
  match fs, hl, hf with
  | [f0, f1, f2, f3, f4, f5, f6], _, hf =>
    simp only [List.map_cons, List.map_nil, List.cons.injEq, Prod.mk.injEq, and_true] at hf
    obtain ⟨⟨n0, t0, o0⟩, ⟨n1, t1, o1⟩, ⟨n2, t2, o2⟩, ⟨n3, t3, o3⟩, ⟨n4, t4, o4⟩, ⟨n5, t5, o5⟩, ⟨n6, t6, o6⟩⟩ := hf
    obtain ⟨p0, p1, p2, p3, p4, p5, p6⟩ := a
    obtain ⟨q0, q1, q2, q3, q4, q5, q6⟩ := b
    unfold fxArr
    rw [eq_step n0 (by decide) t0 o0 (part_plain (run_isAgg_plain Tryz.underlying26 rfl w) rfl) (part_plain (run_isAgg_plain Tryz.underlying26 rfl w) rfl) (run_equalIn_int w 9998 26 _ _ p0 q0 Tryz.underlying26)]
    rw [eq_step n1 (by decide) t1 o1 (part_plain (run_isAgg_plain Tryz.underlying58 rfl w) rfl) (part_plain (run_isAgg_plain Tryz.underlying58 rfl w) rfl) (run_equalIn_int w 9998 58 _ _ p1 q1 Tryz.underlying58)]
    rw [eq_step n2 (by decide) t2 o2 (part_plain (run_isAgg_plain Tryz.underlying26 rfl w) rfl) (part_plain (run_isAgg_plain Tryz.underlying26 rfl w) rfl) (run_equalIn_int w 9998 26 _ _ p2 q2 Tryz.underlying26)]
    rw [eq_step n3 (by decide) t3 o3 (part_plain (run_isAgg_plain Tryz.underlying3 rfl w) rfl) (part_plain (run_isAgg_plain Tryz.underlying3 rfl w) rfl) (run_equalIn_int w 9998 3 _ _ p3 q3 Tryz.underlying3)]
    rw [eq_step n4 (by decide) t4 o4 (part_plain (run_isAgg_plain Tryz.underlying9 rfl w) rfl) (part_plain (run_isAgg_plain Tryz.underlying9 rfl w) rfl) (run_equalIn_string w 9998 9 p4 q4 Tryz.underlying9)]
    rw [eq_step n5 (by decide) t5 o5 (part_plain (run_isAgg_plain Tryz.underlying2 rfl w) rfl) (part_plain (run_isAgg_plain Tryz.underlying2 rfl w) rfl) (run_equalIn_int w 9998 2 _ _ p5 q5 Tryz.underlying2)]
    rw [eq_step n6 (by decide) t6 o6 (part_plain (run_isAgg_plain Tryz.underlying4 rfl w) rfl) (part_plain (run_isAgg_plain Tryz.underlying4 rfl w) rfl) (run_equalIn_bool' w 9998 4 p6 q6 Tryz.underlying4)]
    have e4 : (p4.toList == q4.toList) = decide (p4 = q4) := by
      by_cases h : p4 = q4
      · subst h; simp
      · rw [decide_eq_false h]; exact beq_eq_false_iff_ne.2 fun e => h (sym_ext e)
    rw [e4]
    have e : (Op.eqFields 9999 (#[] : Array Value) #[] []).run Tryz.prog w = .ok true w := rfl
    simp only [Op.eqFields, Sem.run_pure]
    by_cases h0 : p0 = q0 <;> by_cases h1 : p1 = q1 <;> by_cases h2 : p2 = q2 <;> by_cases h3 : p3 = q3 <;> by_cases h4 : p4 = q4 <;> by_cases h5 : p5 = q5 <;> by_cases h6 : p6 = q6 <;> simp_all
theorem eql_fx (a b : Fx) (w : World) : (binOp .eql 60 (fxV a) (fxV b)).run Tryz.prog w = .ok (.bool (decide (a = b))) w := by
  have := equal_fx a b w
  unfold fxV at this ⊢
  rw [run_eql_struct, this]
  rfl
end Go.Proofs.YtbnnlbdjjpmgeaaGreat


namespace Go.Proofs.YtbnnlbdjjpmgeaaGreat
open Go.RowKit
variable {w w' W V : World}

theorem FxsAt.at {q : Option Addr} {D : List Fx} (h : FxsAt w q D) {i : Nat} {y : Fx} (hy : D[i]? = some y) : ∃ g o, q = some ⟨g, o, none⟩ ∧ w.cell? ⟨g, o + i * 7, none⟩ = some (.int .u64 y.at_) ∧ w.cell? ⟨g, o + i * 7 + 1, none⟩ = some (.int .i64 y.kind) ∧ w.cell? ⟨g, o + i * 7 + 2, none⟩ = some (.int .u64 y.target) ∧ w.cell? ⟨g, o + i * 7 + 3, none⟩ = some (.int .i64 y.ord) ∧
    w.cell? ⟨g, o + i * 7 + 4, none⟩ = some (.string y.sym) ∧ w.cell? ⟨g, o + i * 7 + 5, none⟩ = some (.int .i64 y.add) ∧ w.cell? ⟨g, o + i * 7 + 6, none⟩ = some (.bool y.weak) := by
  obtain ⟨g, o, e, hc⟩ := h i y hy
  exact ⟨g, o, e, hc.c⟩
end Go.Proofs.YtbnnlbdjjpmgeaaGreat

