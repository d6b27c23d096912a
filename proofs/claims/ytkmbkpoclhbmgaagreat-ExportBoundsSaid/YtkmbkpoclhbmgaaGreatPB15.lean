/- 'ExportBounds': for every input the call returns true, and what was handed in reads as it did. The form's own reach is the one condition. -/
import Derived.Shelf.Small.Bits
import Derived.Shelf.Small.Strs
import Derived.Shelf.Strconv.Itoa0
import Derived.Shelf.Strings.Search1
import Derived.Shelf.Bytes.SlIndexAt
import Derived.Shelf.Bytes.SlSearch0
import Derived.Ground.SlbCloneProg
import Derived.Shelf.Bytes.SlClone
import Derived.Shelf.Bytes.IndexByte
import Derived.Test.YtkmbkpoclhbmgaaGreatProg
import Derived.Test.YtkmbkpoclhbmgaaGreatRows
import Derived.WalkKit
import Derived.WalkSpells
import Derived.WalkLawsBesides
import Derived.BigQuiet
import Derived.Deep.QuietTactic
import Derived.Lib.Hide
import Derived.IntWalk
import Derived.OneCell
import Derived.Laws.Rows
import Derived.OpenShut
import Derived.ProofKit
import Derived.Lib.EndianBits
import Derived.RegionTactic
import Derived.ChangeAlike
import Derived.WalkMore
import Derived.Laws.BytesArg
import Derived.Shelf.Bytes.SlEqualAll
import Derived.Lib.SlFresh
import Derived.Maps.AppendAt
import Derived.Deep.AppendSrc
import Derived.Deep.Upon
import Derived.Lib.AppendZeros
import Derived.Laws.IdiomStrings
import Derived.Lib.AppendZerosOnto
import Derived.Laws.StructEq
import Derived.Below
import Derived.Shelf.Abstract
import Derived.Laws.ResultCell
import Derived.Deep.Slices
import Derived.ChangeSame
import Derived.Laws.OwnMore
import Derived.Laws.Slices
import Derived.Lib.ConvBytes
import Derived.StringKeys
import Derived.Maps.Own
import Derived.Maps.OwnOps
import Derived.Maps.OwnSet
import Derived.WideShapes
import Derived.Deep.LoopGhost
import Derived.StillTailTactics
import Derived.Deep.Cut
import Derived.Deep.CutRange
import Derived.PlainAid
import Derived.Lib.SlBytesRow
import Derived.Deep.Onto
import Derived.Laws.EntriesVeiled
import Derived.Shelf.SlSortCmp.WholeK
import Derived.Shelf.SlGeneric
import Derived.Ground.SlsfProg
import Derived.Laws.Bits128
import Derived.Deep.RegionWith
import Derived.Deep.RegionHeld3
import Derived.Lib.SmallJoins
import Derived.Deep.RegionLaw
import Derived.Deep.RegionHeld
import Derived.Lib.QuietBelow
import Derived.Stop.Asserts
import Derived.Laws.Externs
import Derived.WalkArith
import Derived.Maps.Views
import Derived.RangeFuncRecord
import Derived.RangeFuncSeq
import Derived.RangeFuncCalls
import Derived.RangeFuncBound
import Derived.OwnWalkIn
import Derived.TacticsInMore
import Derived.Shelf.RegionOpen
import Derived.BigRegion
import Derived.RangeFuncNested
import Derived.RangeFuncIn
import Derived.RangeFuncLeaves
import Derived.Laws.Tables
import Derived.BigFrame
import Derived.StillTail
import Derived.ShutString
import Derived.ChangeOld
import Derived.Test.YtkmbkpoclhbmgaaGreatPB14
namespace Go.Proofs.YtkmbkpoclhbmgaaGreat.exportBounds
open Go.RowKit
variable {w w' W V : World}

theorem one_at (w : World) (nm : List Int) (x : Ex) : ExsAt (w.alloc (.cells #[.string (strOfNums nm), .int .i64 x.kind, .bool x.weak, .int .u64 x.value, .int .u64 x.resolver, .int .u64 x.ordinal, .string (strOfNums x.other)] 28 (0, 0))) (some ⟨w.heap.size, 0, none⟩) [(nm, x)] := by
  intro i y hy
  rcases i with _ | i
  · injection hy with hy
    subst hy
    refine ⟨_, 0, rfl, fun j hj => ?_⟩
    rw [cell_of (heap_alloc_new w _)]
    rcases (show j = 0 ∨ j = 1 ∨ j = 2 ∨ j = 3 ∨ j = 4 ∨ j = 5 ∨ j = 6 by omega) with rfl | rfl | rfl | rfl | rfl | rfl | rfl <;> rfl
  · simp at hy
theorem one_fit {nm : List Int} {x : Ex} (h : ExFits nm x) : ExsFit [(nm, x)] := by
  refine ⟨?_, ?_, ?_, ?_, ?_⟩ <;> (intro y hy; rw [List.mem_singleton] at hy; subst hy)
  · exact h.name
  · exact h.other
  · exact h.value
  · exact h.resolver
  · exact h.ordinal
theorem len_made {D : Out} {B : List Int} (h : MkIs D 0 B) (hn : D ≠ []) : B.length ≤ 1048576 := by
  have h0 : mkE0 D = 0 := by
    by_cases c : mkE0 D = 0
    · exact c
    · exact absurd (h.no c).1.symm c
  obtain ⟨R, t, p, u, fx, a, b⟩ := h.yes h0 hn
  rcases Nat.lt_or_ge 1048576 (lastB R t).length with hl | hl
  · exact absurd (a hl).1 (by decide)
  · rw [(b hl).2]; exact hl
set_option maxRecDepth 20000 in
set_option maxHeartbeats 3200000 in
theorem walk (nm : List Int) (x : Ex) (hx : ExFits nm x) (w : World) : Calls Tryz.prog 6 #[exV (strOfNums nm) x] w fun e w' => e = .returned (.bool true) ∧ Below w.heap.size w w' := by
  have g1 := grown1 w (.cells #[.string (strOfNums nm), .int .i64 x.kind, .bool x.weak, .int .u64 x.value, .int .u64 x.resolver, .int .u64 x.ordinal, .string (strOfNums x.other)] 28)
  have n1 : ExAt (w.alloc (.cells #[.string (strOfNums nm), .int .i64 x.kind, .bool x.weak, .int .u64 x.value, .int .u64 x.resolver, .int .u64 x.ordinal, .string (strOfNums x.other)] 28)) w.heap.size (strOfNums nm) x := heap_alloc_new w _
  obtain ⟨W, hW⟩ : ∃ W, w.alloc (.cells #[.string (strOfNums nm), .int .i64 x.kind, .bool x.weak, .int .u64 x.value, .int .u64 x.resolver, .int .u64 x.ordinal, .string (strOfNums x.other)] 28) = W := ⟨_, rfl⟩
  obtain ⟨b, hb⟩ : ∃ b, w.heap.size = b := ⟨_, rfl⟩
  rw [hW] at g1 n1
  rw [hb] at n1
  have G1 := Lib.hid g1
  have N1 := Lib.hid n1
  have HX := Lib.hid hx
  have K := Lib.hid (fun (V : World) => known11_any V)
  obtain ⟨c0, c1, c2, c3, c4, c5, c6⟩ := n1.c
  obtain ⟨SN, hSN⟩ : ∃ S, S = strOfNums nm := ⟨_, rfl⟩
  obtain ⟨SO, hSO⟩ : ∃ S, S = strOfNums x.other := ⟨_, rfl⟩
  have lN : SN.size = nm.length := by rw [hSN]; simp [strOfNums, ByteArray.size]
  have lO : SO.size = x.other.length := by rw [hSO]; simp [strOfNums, ByteArray.size]
  unfold exV exArr
  rw [← hSN, ← hSO] at hW ⊢
  rw [← hSN] at c0
  rw [← hSO] at c6
  have HSN := Lib.hid hSN
  have HSO := Lib.hid hSO
  clear g1 n1 hSN hSO hx
  by_cases h1 : 300 < nm.length
  · have d1 : decide (300 < (SN.size : Int)) = true := decide_eq_true (by omega)
    go_enter Tryz.func6, Tryz.ntmps6
    go_upto_region 1 with fail
    clear hW hb
    go_wp2_with fail
    refine (K.out _).mono ?_
    rintro e w2 ⟨rfl, hg⟩
    have G2 := Lib.hid (grown_trans G1.out hg)
    clear hg
    go_wp2
    go_ret
    exact ⟨rfl, below_grown G2.out (Nat.le_refl _) (by simp)⟩
  have d1 : decide (300 < (SN.size : Int)) = false := decide_eq_false (by omega)
  by_cases h2 : 300 < x.other.length
  · have d2 : decide (300 < (SO.size : Int)) = true := decide_eq_true (by omega)
    go_enter Tryz.func6, Tryz.ntmps6
    go_upto_region 1 with fail
    clear hW hb
    go_wp2_with fail
    refine (K.out _).mono ?_
    rintro e w2 ⟨rfl, hg⟩
    have G2 := Lib.hid (grown_trans G1.out hg)
    clear hg
    go_wp2
    go_ret
    exact ⟨rfl, below_grown G2.out (Nat.le_refl _) (by simp)⟩
  have d2 : decide (300 < (SO.size : Int)) = false := decide_eq_false (by omega)
  go_enter Tryz.func6, Tryz.ntmps6
  go_upto_region 1 with fail
  clear hW hb
  have RB := Lib.hid (refMake_any (D := [(nm, x)]) rfl (one_fit HX.out) (show (1 : Nat) ≤ 1000000 by decide) (by intro y hy; rw [List.mem_singleton] at hy; subst hy; simp only []; omega) (Nat.le_refl 1) (by decide) (one_at W nm x))
  rw [← HSN.out, ← HSO.out] at RB
  have S2 := Lib.hid (grown1 W (.cells #[.string SN, .int .i64 x.kind, .bool x.weak, .int .u64 x.value, .int .u64 x.resolver, .int .u64 x.ordinal, .string SO] 28 (0, 0)))
  go_upto_region 4 with (go_at_call 11; refine RB.out.mono ?_; rintro e w3 ⟨⟨E, B, q, c, rfl, hm, ho⟩, hg⟩)
  have G3 := Lib.hid (grown_trans G1.out (grown_trans S2.out hg))
  have N3 := Lib.hid (N1.out.kept (grown_trans S2.out hg) (by simp))
  clear RB c0 c1 c2 c3 c4 c5 c6 d1 d2
  by_cases hE : E = 0
  rotate_left
  · have d1 : decide (E = 0) = false := decide_eq_false hE
    clear hm ho hg
    go_wp2_with fail
    refine (K.out _).mono ?_
    rintro e w4 ⟨rfl, hg⟩
    have G4 := Lib.hid (grown_trans G3.out hg)
    clear hg
    go_wp2
    go_ret
    exact ⟨rfl, below_grown G4.out (Nat.le_refl _) (by simp)⟩
  subst hE
  have OT := oneT hm (one_fit HX.out)
  have OH := Lib.hid OT
  have FL := Lib.hid (len_made hm (by simp))
  have BT := Lib.hid (IsBytes.of_own rfl ho)
  obtain ⟨nt, hnt⟩ : ∃ n, n = B.length := ⟨_, rfl⟩
  rw [← hnt] at FL
  rw [← hnt]
  have NT := Lib.hid hnt.symm
  have PL := Lib.hid (plain_any (T := B) (B := []) (S := []) (qb := none) (qs := none) (nb := 0) (ns := 0) (cb := 0) (cs := 0) NT.out rfl rfl BT.out IsBytes.nil IsBytes.nil ⟨by have := FL.out; omega, by decide, by decide⟩ OT.byt (fun z hz => by cases hz) (fun z hz => by cases hz))
  clear OT hm ho hg hnt
  go_upto_region 7 with (first
    | (go_at_call 24; refine PL.out.mono ?_; rintro e w5 ⟨⟨q5, c5, x5, qs5, qd5, rfl, hi⟩, hg⟩; rw [NT.out] at hi ⊢; simp only [List.length_nil, Nat.add_zero] at hi ⊢; have I5 := Lib.hid (hi w5 none (grown_refl _ _) (by simp)); have S5 := Lib.hid hg; have G5 := Lib.hid (grown_trans G3.out hg); clear hi hg)
    | (refine wpList_alloc rfl 48 _ rfl (img_alloc _) ?_; skip)
    | (refine wpList_store_img (h := ⟨2, 0, 0⟩) (s := plSt nt 0 0) (sv := .slice qs5 1 1) (dv := .slice qd5 1 1) rfl (.tmp 6) (.tmp 37) rfl (by kernel_rfl) (by kernel_rfl) (heap_alloc_new _ _) ⟨_, _, _, rfl⟩ ⟨_, _, _, rfl⟩ ?_))
  obtain ⟨M, hM⟩ : ∃ M, M = w5.heap.size := ⟨_, rfl⟩
  obtain ⟨w6, hw6⟩ : ∃ V, V = (w5.alloc (.cells (imgArr Hx.zero St.zero (.slice none 0 0) (.slice none 0 0)) 48 (0, 0))).setRow w5.heap.size (imgArr ⟨2, 0, 0⟩ (plSt nt 0 0) (.slice qs5 1 1) (.slice qd5 1 1)) := ⟨_, rfl⟩
  have i6 : ImgAt w6 M ⟨2, 0, 0⟩ (plSt nt 0 0) (.slice qs5 1 1) (.slice qd5 1 1) := by
    rw [hw6, hM]
    exact setRow_heap _ _ _ _ _ _ (heap_alloc_new w5 _)
  have g6 : w5.grownBy w6 none := by
    rw [hw6]
    exact grown_new (grown1 _ _) (grown_setRow _ _) (Nat.le_refl _)
  rw [← hw6, ← hM]
  have I6 := Lib.hid i6
  have G6 := Lib.hid (grown_trans G5.out g6)
  have X6 := Lib.hid (I5.out.grown g6)
  have N6 := Lib.hid (N3.out.kept (grown_trans S5.out g6) (by simp))
  have L5 : (plB B [] []).length = 4096 + nt := by
    unfold plB
    simp only [List.length_append, List.length_replicate, List.length_nil, Nat.add_zero, NT.out]
  have A1 := all_one1 OH.out
  have F1 := find_one1 OH.out
  rw [NT.out] at A1 F1
  simp only [] at A1 F1
  obtain ⟨wn, hwn⟩ : ∃ z, z = wantN x := ⟨_, rfl⟩
  rw [← hwn] at A1 F1
  have EA := Lib.hid (show Calls Tryz.prog 17 #[.slice q5 (4096 + nt) c5, imgV ⟨2, 0, 0⟩ (plSt nt 0 0) (.slice qs5 1 1) (.slice qd5 1 1)] w6 fun e w' => ExsO w6 w' (if wn ≠ 0 then (wn, []) else (0, [(nm, x)])) e by
    have := exportAll_any (h := ⟨2, 0, 0⟩) (qd := qd5) (cd := 1) X6.out L5
    rw [A1] at this
    exact this)
  have EF := Lib.hid (show ∀ V, w6.grownBy V none → Calls Tryz.prog 19 #[.slice q5 (4096 + nt) c5, imgV ⟨2, 0, 0⟩ (plSt nt 0 0) (.slice qs5 1 1) (.slice qd5 1 1), .string SN] V fun e w' => FiO V w' nm (if wn ≠ 0 then (wn, none) else (0, some x)) e from fun V hV => by
    have := exportFind_any (h := ⟨2, 0, 0⟩) (qd := qd5) (cd := 1) (X6.out.grown hV) L5 nm HX.out.name HX.out.len
    rw [F1] at this
    rw [HSN.out]
    exact this)
  have CS := Lib.hid (show (x.kind = 1 ∧ 4096 ≤ x.value ∧ wn = 4) ∨ (x.kind = 1 ∧ ¬ 4096 ≤ x.value ∧ wn = 0) ∨ (x.kind = 4 ∧ 4096 ≤ x.value ∧ wn = 4) ∨ (x.kind = 4 ∧ ¬ 4096 ≤ x.value ∧ 4096 ≤ x.resolver ∧ wn = 4) ∨ (x.kind = 4 ∧ ¬ 4096 ≤ x.value ∧ ¬ 4096 ≤ x.resolver ∧ wn = 0) ∨ (x.kind = 3 ∧ x.ordinal ≠ 1 ∧ wn = 22) ∨ (x.kind = 3 ∧ x.ordinal = 1 ∧ wn = 0) ∨ (x.kind ≠ 1 ∧ x.kind ≠ 4 ∧ x.kind ≠ 3 ∧ wn = 0) by
    rw [hwn]
    unfold wantN
    by_cases k1 : x.kind = 1
    · rw [if_pos k1]
      by_cases hv : 4096 ≤ x.value
      · rw [if_pos hv]; exact .inl ⟨k1, hv, rfl⟩
      · rw [if_neg hv]; exact .inr (.inl ⟨k1, hv, rfl⟩)
    · rw [if_neg k1]
      by_cases k4 : x.kind = 4
      · rw [if_pos k4]
        by_cases hv : 4096 ≤ x.value
        · rw [if_pos (.inl hv)]; exact .inr (.inr (.inl ⟨k4, hv, rfl⟩))
        · by_cases hr : 4096 ≤ x.resolver
          · rw [if_pos (.inr hr)]; exact .inr (.inr (.inr (.inl ⟨k4, hv, hr, rfl⟩)))
          · rw [if_neg (by omega)]; exact .inr (.inr (.inr (.inr (.inl ⟨k4, hv, hr, rfl⟩))))
      · rw [if_neg k4]
        by_cases k3 : x.kind = 3
        · rw [if_pos k3]
          by_cases ho : x.ordinal ≠ 1
          · rw [if_pos ho]; exact .inr (.inr (.inr (.inr (.inr (.inl ⟨k3, ho, rfl⟩)))))
          · rw [if_neg ho]; exact .inr (.inr (.inr (.inr (.inr (.inr (.inl ⟨k3, by omega, rfl⟩))))))
        · rw [if_neg k3]; exact .inr (.inr (.inr (.inr (.inr (.inr (.inr ⟨k1, k4, k3, rfl⟩)))))))
  clear hM hw6 i6 g6 L5 A1 F1 hwn PL I5
  obtain ⟨c0, c1, c2, c3, c4, c5', c6⟩ := N6.out.c
  rw [← HSN.out] at c0
  rw [← HSO.out] at c6
  rcases CS.out with ⟨k, v, e⟩ | ⟨k, v, e⟩ | ⟨k, v, e⟩ | ⟨k, v, r, e⟩ | ⟨k, v, r, e⟩ | ⟨k, o, e⟩ | ⟨k, o, e⟩ | ⟨k, k4, k3, e⟩
  · have k1 : decide (x.kind = 1) = true := decide_eq_true (by omega)
    have d1 : decide (4096 ≤ x.value) = true := decide_eq_true v
    subst e
    rw [if_pos (by decide)] at EA EF
    have EFN := Lib.hid (show ∀ V, w6.grownBy V none → Calls Tryz.prog 19 #[.slice q5 (4096 + nt) c5, imgV ⟨2, 0, 0⟩ (plSt nt 0 0) (.slice qs5 1 1) (.slice qd5 1 1), .string SN] V fun e w' => e = .returned (.tuple #[.agg #[.string ⟨#[]⟩, .int .i64 0, .bool false, .int .u64 0, .int .u64 0, .int .u64 0, .string ⟨#[]⟩], .bool false, .int .i64 4]) ∧ V.grownBy w' none from fun V hV => (EF.out V hV).mono fun e w' ⟨h1, h2⟩ => ⟨h1, h2⟩)
    have EAN := Lib.hid (show Calls Tryz.prog 17 #[.slice q5 (4096 + nt) c5, imgV ⟨2, 0, 0⟩ (plSt nt 0 0) (.slice qs5 1 1) (.slice qd5 1 1)] w6 fun e w' => (∃ q c, e = .returned (.tuple #[.slice q 0 c, .int .i64 4])) ∧ w6.grownBy w' none from EA.out.mono fun e w' ⟨⟨q, c, h1, _, _, _⟩, h3⟩ => ⟨⟨q, c, h1⟩, h3⟩)
    clear EA EF
    go_upto_region 18 with fail
    clear c0 c1 c2 c3 c4 c5' c6
    go_upto_region 19 with (first | (refine wpList_load_imgI rfl (.tmp 6) rfl (by kernel_rfl) I6.out ?_) | (go_at_call 17; refine EAN.out.mono ?_; rintro e w7 ⟨⟨q7, c7, rfl⟩, hg⟩))
    have P7 := Lib.hid hg
    have I7 := Lib.hid (I6.out.kept hg (by simp))
    have N7 := N6.out.kept hg (by simp)
    obtain ⟨a0, a1, a2, a3, a4, a5, a6⟩ := N7.c
    rw [← HSN.out] at a0
    clear hg N7
    go_upto_region 20 with (first | (refine wpList_load_imgI rfl (.tmp 6) rfl (by kernel_rfl) I7.out ?_) | (go_at_call 19; refine (EFN.out w7 P7.out).mono ?_; rintro e w8 ⟨rfl, hg⟩; have P8 := Lib.hid (grown_trans P7.out hg); clear hg))
    have g9 := grown1 w8 (.cells #[.string ⟨#[]⟩, .int .i64 0, .bool false, .int .u64 0, .int .u64 0, .int .u64 0, .string ⟨#[]⟩] 28)
    obtain ⟨z0, z1, z2, z3, z4, z5, z6⟩ := (new_ex w8).c
    simp only [Ex.zero] at z0 z1 z2 z3 z4 z5 z6
    rw [show strOfNums [] = (⟨#[]⟩ : ByteArray) from rfl] at z6
    obtain ⟨w9, hw9⟩ : ∃ V, V = w8.alloc (.cells #[.string ⟨#[]⟩, .int .i64 0, .bool false, .int .u64 0, .int .u64 0, .int .u64 0, .string ⟨#[]⟩] 28) := ⟨_, rfl⟩
    rw [← hw9] at g9 z0 z1 z2 z3 z4 z5 z6 ⊢
    have P9 := Lib.hid (grown_trans P8.out g9)
    clear hw9 g9
    go_wp2_with fail
    refine (K.out _).mono ?_
    rintro e w10 ⟨rfl, hg⟩
    have G10 := Lib.hid (grown_trans G6.out (grown_trans P9.out hg))
    clear hg
    go_wp2
    go_ret
    exact ⟨rfl, below_grown G10.out (Nat.le_refl _) (by simp)⟩
  · have k1 : decide (x.kind = 1) = true := decide_eq_true (by omega)
    have d1 : decide (4096 ≤ x.value) = false := decide_eq_false v
    subst e
    rw [if_neg (by decide)] at EA EF
    have EFN := Lib.hid (show ∀ V, w6.grownBy V none → Calls Tryz.prog 19 #[.slice q5 (4096 + nt) c5, imgV ⟨2, 0, 0⟩ (plSt nt 0 0) (.slice qs5 1 1) (.slice qd5 1 1), .string SN] V fun e w' => e = .returned (.tuple #[.agg #[.string SN, .int .i64 x.kind, .bool x.weak, .int .u64 x.value, .int .u64 x.resolver, .int .u64 x.ordinal, .string SO], .bool true, .int .i64 0]) ∧ V.grownBy w' none from fun V hV => (EF.out V hV).mono fun e w' ⟨h1, h2⟩ => ⟨by rw [h1, HSN.out, HSO.out]; rfl, h2⟩)
    have EAN := Lib.hid (show Calls Tryz.prog 17 #[.slice q5 (4096 + nt) c5, imgV ⟨2, 0, 0⟩ (plSt nt 0 0) (.slice qs5 1 1) (.slice qd5 1 1)] w6 fun e w' => (∃ g c, e = .returned (.tuple #[.slice (some ⟨g, 0, none⟩) 1 c, .int .i64 0]) ∧ ∀ V, w'.grownBy V none → (loadVar 28 ⟨g, 0, none⟩).run Tryz.prog V = .ok (.agg #[.string SN, .int .i64 x.kind, .bool x.weak, .int .u64 x.value, .int .u64 x.resolver, .int .u64 x.ordinal, .string SO]) V) ∧ w6.grownBy w' none from EA.out.mono fun e w' ⟨⟨q, c, h1, hr, _, _⟩, h3⟩ => by
      obtain ⟨g, rfl, hc⟩ := hr 0 (nm, x) rfl
      refine ⟨⟨g, c, h1, fun V hV => ?_⟩, h3⟩
      have := run_loadVar_mid (P := Tryz.prog) V g 0 28 (outCs (nm, x)) _ (fun j v hv => grown_cell hV (by have hj : j < 7 := (List.getElem?_eq_some_iff.1 hv).1; rw [← hv]; have := hc j hj; simpa using this)) Tryz.underlying28 rfl (by kernel_rfl)
      rw [HSN.out, HSO.out]
      exact this)
    clear EA EF
    go_upto_region 18 with fail
    clear c0 c1 c2 c3 c4 c5' c6
    go_upto_region 19 with (first | (refine wpList_load_imgI rfl (.tmp 6) rfl (by kernel_rfl) I6.out ?_) | (go_at_call 17; refine EAN.out.mono ?_; rintro e w7 ⟨⟨g7, c7, rfl, hl7⟩, hg⟩))
    have P7 := Lib.hid hg
    have HL7 := Lib.hid hl7
    have I7 := Lib.hid (I6.out.kept hg (by simp))
    have N7 := Lib.hid (N6.out.kept hg (by simp))
    obtain ⟨a0, a1, a2, a3, a4, a5, a6⟩ := N7.out.c
    rw [← HSN.out] at a0
    clear hg hl7
    go_upto_region 20 with (first | (refine wpList_load_imgI rfl (.tmp 6) rfl (by kernel_rfl) I7.out ?_) | (go_at_call 19; refine (EFN.out w7 P7.out).mono ?_; rintro e w8 ⟨rfl, hg⟩; have P8 := Lib.hid (grown_trans P7.out hg); have S8 := Lib.hid hg; clear hg))
    clear a0 a1 a2 a3 a4 a5 a6
    have g9 := grown1 w8 (.cells #[.string SN, .int .i64 1, .bool x.weak, .int .u64 x.value, .int .u64 x.resolver, .int .u64 x.ordinal, .string SO] 28)
    have n9 : ExAt (w8.alloc (.cells (exArr SN x) 28)) w8.heap.size SN x := heap_alloc_new w8 _
    have e9 : exArr SN x = #[.string SN, .int .i64 1, .bool x.weak, .int .u64 x.value, .int .u64 x.resolver, .int .u64 x.ordinal, .string SO] := by unfold exArr; rw [HSO.out, k]
    rw [e9] at n9
    obtain ⟨w9, hw9⟩ : ∃ V, V = w8.alloc (.cells #[.string SN, .int .i64 1, .bool x.weak, .int .u64 x.value, .int .u64 x.resolver, .int .u64 x.ordinal, .string SO] 28) := ⟨_, rfl⟩
    obtain ⟨b9, hb9⟩ : ∃ g, w8.heap.size = g := ⟨_, rfl⟩
    rw [← hw9] at g9 n9 ⊢
    rw [hb9] at n9 ⊢
    have P9 := Lib.hid (grown_trans P8.out g9)
    have S9 := Lib.hid (grown_trans S8.out g9)
    have N9 := Lib.hid n9
    have NB := Lib.hid (N7.out.kept S9.out (by simp))
    have E9 := Lib.hid e9
    clear hw9 g9 n9 e9 hb9
    go_upto_region 22 with fail
    have KG := fun d os => grown_below (below_regrown w9 d os) none
    have TK := Lib.hid (fun d os => Calls.regrown_of ((K.out (Go.Sort.grow (redrawn w9 d) os)).mono (fun _ _ h => (⟨h.1, below_grown h.2 (Nat.le_refl _) (by simp)⟩ : _ ∧ _))))
    have L9 := Lib.hid (fun (V : World) (hV : ∃ p : Regrown, V = Go.Sort.grow (redrawn w9 p.d) p.os) => (by obtain ⟨p, rfl⟩ := hV; exact load_ex (N9.out.kept (KG p.d p.os) (by simp)) : (loadVar 28 ⟨b9, 0, none⟩).run Tryz.prog V = .ok (exV SN x) V))
    have LB := Lib.hid (fun (V : World) (hV : ∃ p : Regrown, V = Go.Sort.grow (redrawn w9 p.d) p.os) => (by obtain ⟨p, rfl⟩ := hV; rw [HSN.out]; exact load_ex (NB.out.kept (KG p.d p.os) (by simp)) : (loadVar 28 ⟨b, 0, none⟩).run Tryz.prog V = .ok (exV SN x) V))
    have LE := Lib.hid (fun (V : World) (hV : ∃ p : Regrown, V = Go.Sort.grow (redrawn w9 p.d) p.os) => (by obtain ⟨p, rfl⟩ := hV; have := HL7.out _ (grown_trans S9.out (KG p.d p.os)); unfold exV; rw [E9.out]; simpa only [k] using this : (loadVar 28 ⟨g7, 0, none⟩).run Tryz.prog V = .ok (exV SN x) V))
    unfold exV at L9 LB LE
    rw [E9.out] at L9 LB LE
    have HK := Lib.hid KG
    clear KG
    refine wp_region_quiet_below (by kernel_rfl) (by kernel_rfl) ?_
    iterate 10 (quiet_step (fail))
    refine wpQuiet_load rfl _ rfl rfl L9.out ?_
    refine wpQuiet_load rfl _ rfl rfl LB.out ?_
    iterate 10 (quiet_step (fail))
    refine wpQuiet_load rfl _ rfl rfl LE.out ?_
    refine wpQuiet_load rfl _ rfl rfl LB.out ?_
    iterate 3 (quiet_step (fail))
    quiet_step (with_reducible exact TK.out _ _)
    repeat (quiet_step (fail))
    refine wpQuiet_nil ?_
    intro _ hw'
    obtain ⟨⟨dq, osq⟩, hw''⟩ := hw'
    subst hw''
    have G10 := Lib.hid (grown_trans G6.out (grown_trans P9.out (HK.out dq osq)))
    go_wp2
    go_ret
    exact ⟨rfl, below_grown G10.out (Nat.le_refl _) (by simp)⟩
  · have k1 : decide (x.kind = 1) = false := decide_eq_false (by omega)
    have k4 : decide (x.kind = 4) = true := decide_eq_true (by omega)
    have d1 : decide (4096 ≤ x.value) = true := decide_eq_true v
    subst e
    rw [if_pos (by decide)] at EA EF
    have EFN := Lib.hid (show ∀ V, w6.grownBy V none → Calls Tryz.prog 19 #[.slice q5 (4096 + nt) c5, imgV ⟨2, 0, 0⟩ (plSt nt 0 0) (.slice qs5 1 1) (.slice qd5 1 1), .string SN] V fun e w' => e = .returned (.tuple #[.agg #[.string ⟨#[]⟩, .int .i64 0, .bool false, .int .u64 0, .int .u64 0, .int .u64 0, .string ⟨#[]⟩], .bool false, .int .i64 4]) ∧ V.grownBy w' none from fun V hV => (EF.out V hV).mono fun e w' ⟨h1, h2⟩ => ⟨h1, h2⟩)
    have EAN := Lib.hid (show Calls Tryz.prog 17 #[.slice q5 (4096 + nt) c5, imgV ⟨2, 0, 0⟩ (plSt nt 0 0) (.slice qs5 1 1) (.slice qd5 1 1)] w6 fun e w' => (∃ q c, e = .returned (.tuple #[.slice q 0 c, .int .i64 4])) ∧ w6.grownBy w' none from EA.out.mono fun e w' ⟨⟨q, c, h1, _, _, _⟩, h3⟩ => ⟨⟨q, c, h1⟩, h3⟩)
    clear EA EF
    go_upto_region 18 with fail
    clear c0 c1 c2 c3 c4 c5' c6
    go_upto_region 19 with (first | (refine wpList_load_imgI rfl (.tmp 6) rfl (by kernel_rfl) I6.out ?_) | (go_at_call 17; refine EAN.out.mono ?_; rintro e w7 ⟨⟨q7, c7, rfl⟩, hg⟩))
    have P7 := Lib.hid hg
    have I7 := Lib.hid (I6.out.kept hg (by simp))
    have N7 := N6.out.kept hg (by simp)
    obtain ⟨a0, a1, a2, a3, a4, a5, a6⟩ := N7.c
    rw [← HSN.out] at a0
    clear hg N7
    go_upto_region 20 with (first | (refine wpList_load_imgI rfl (.tmp 6) rfl (by kernel_rfl) I7.out ?_) | (go_at_call 19; refine (EFN.out w7 P7.out).mono ?_; rintro e w8 ⟨rfl, hg⟩; have P8 := Lib.hid (grown_trans P7.out hg); clear hg))
    have g9 := grown1 w8 (.cells #[.string ⟨#[]⟩, .int .i64 0, .bool false, .int .u64 0, .int .u64 0, .int .u64 0, .string ⟨#[]⟩] 28)
    obtain ⟨z0, z1, z2, z3, z4, z5, z6⟩ := (new_ex w8).c
    simp only [Ex.zero] at z0 z1 z2 z3 z4 z5 z6
    rw [show strOfNums [] = (⟨#[]⟩ : ByteArray) from rfl] at z6
    obtain ⟨w9, hw9⟩ : ∃ V, V = w8.alloc (.cells #[.string ⟨#[]⟩, .int .i64 0, .bool false, .int .u64 0, .int .u64 0, .int .u64 0, .string ⟨#[]⟩] 28) := ⟨_, rfl⟩
    rw [← hw9] at g9 z0 z1 z2 z3 z4 z5 z6 ⊢
    have P9 := Lib.hid (grown_trans P8.out g9)
    clear hw9 g9
    go_wp2_with fail
    refine (K.out _).mono ?_
    rintro e w10 ⟨rfl, hg⟩
    have G10 := Lib.hid (grown_trans G6.out (grown_trans P9.out hg))
    clear hg
    go_wp2
    go_ret
    exact ⟨rfl, below_grown G10.out (Nat.le_refl _) (by simp)⟩
  · have k1 : decide (x.kind = 1) = false := decide_eq_false (by omega)
    have k4 : decide (x.kind = 4) = true := decide_eq_true (by omega)
    have d1 : decide (4096 ≤ x.value) = false := decide_eq_false v
    have d2 : decide (4096 ≤ x.resolver) = true := decide_eq_true r
    subst e
    rw [if_pos (by decide)] at EA EF
    have EFN := Lib.hid (show ∀ V, w6.grownBy V none → Calls Tryz.prog 19 #[.slice q5 (4096 + nt) c5, imgV ⟨2, 0, 0⟩ (plSt nt 0 0) (.slice qs5 1 1) (.slice qd5 1 1), .string SN] V fun e w' => e = .returned (.tuple #[.agg #[.string ⟨#[]⟩, .int .i64 0, .bool false, .int .u64 0, .int .u64 0, .int .u64 0, .string ⟨#[]⟩], .bool false, .int .i64 4]) ∧ V.grownBy w' none from fun V hV => (EF.out V hV).mono fun e w' ⟨h1, h2⟩ => ⟨h1, h2⟩)
    have EAN := Lib.hid (show Calls Tryz.prog 17 #[.slice q5 (4096 + nt) c5, imgV ⟨2, 0, 0⟩ (plSt nt 0 0) (.slice qs5 1 1) (.slice qd5 1 1)] w6 fun e w' => (∃ q c, e = .returned (.tuple #[.slice q 0 c, .int .i64 4])) ∧ w6.grownBy w' none from EA.out.mono fun e w' ⟨⟨q, c, h1, _, _, _⟩, h3⟩ => ⟨⟨q, c, h1⟩, h3⟩)
    clear EA EF
    go_upto_region 18 with fail
    clear c0 c1 c2 c3 c4 c5' c6
    go_upto_region 19 with (first | (refine wpList_load_imgI rfl (.tmp 6) rfl (by kernel_rfl) I6.out ?_) | (go_at_call 17; refine EAN.out.mono ?_; rintro e w7 ⟨⟨q7, c7, rfl⟩, hg⟩))
    have P7 := Lib.hid hg
    have I7 := Lib.hid (I6.out.kept hg (by simp))
    have N7 := N6.out.kept hg (by simp)
    obtain ⟨a0, a1, a2, a3, a4, a5, a6⟩ := N7.c
    rw [← HSN.out] at a0
    clear hg N7
    go_upto_region 20 with (first | (refine wpList_load_imgI rfl (.tmp 6) rfl (by kernel_rfl) I7.out ?_) | (go_at_call 19; refine (EFN.out w7 P7.out).mono ?_; rintro e w8 ⟨rfl, hg⟩; have P8 := Lib.hid (grown_trans P7.out hg); clear hg))
    have g9 := grown1 w8 (.cells #[.string ⟨#[]⟩, .int .i64 0, .bool false, .int .u64 0, .int .u64 0, .int .u64 0, .string ⟨#[]⟩] 28)
    obtain ⟨z0, z1, z2, z3, z4, z5, z6⟩ := (new_ex w8).c
    simp only [Ex.zero] at z0 z1 z2 z3 z4 z5 z6
    rw [show strOfNums [] = (⟨#[]⟩ : ByteArray) from rfl] at z6
    obtain ⟨w9, hw9⟩ : ∃ V, V = w8.alloc (.cells #[.string ⟨#[]⟩, .int .i64 0, .bool false, .int .u64 0, .int .u64 0, .int .u64 0, .string ⟨#[]⟩] 28) := ⟨_, rfl⟩
    rw [← hw9] at g9 z0 z1 z2 z3 z4 z5 z6 ⊢
    have P9 := Lib.hid (grown_trans P8.out g9)
    clear hw9 g9
    go_wp2_with fail
    refine (K.out _).mono ?_
    rintro e w10 ⟨rfl, hg⟩
    have G10 := Lib.hid (grown_trans G6.out (grown_trans P9.out hg))
    clear hg
    go_wp2
    go_ret
    exact ⟨rfl, below_grown G10.out (Nat.le_refl _) (by simp)⟩
  · have k1 : decide (x.kind = 1) = false := decide_eq_false (by omega)
    have k4 : decide (x.kind = 4) = true := decide_eq_true (by omega)
    have d1 : decide (4096 ≤ x.value) = false := decide_eq_false v
    have d2 : decide (4096 ≤ x.resolver) = false := decide_eq_false r
    subst e
    rw [if_neg (by decide)] at EA EF
    have EFN := Lib.hid (show ∀ V, w6.grownBy V none → Calls Tryz.prog 19 #[.slice q5 (4096 + nt) c5, imgV ⟨2, 0, 0⟩ (plSt nt 0 0) (.slice qs5 1 1) (.slice qd5 1 1), .string SN] V fun e w' => e = .returned (.tuple #[.agg #[.string SN, .int .i64 x.kind, .bool x.weak, .int .u64 x.value, .int .u64 x.resolver, .int .u64 x.ordinal, .string SO], .bool true, .int .i64 0]) ∧ V.grownBy w' none from fun V hV => (EF.out V hV).mono fun e w' ⟨h1, h2⟩ => ⟨by rw [h1, HSN.out, HSO.out]; rfl, h2⟩)
    have EAN := Lib.hid (show Calls Tryz.prog 17 #[.slice q5 (4096 + nt) c5, imgV ⟨2, 0, 0⟩ (plSt nt 0 0) (.slice qs5 1 1) (.slice qd5 1 1)] w6 fun e w' => (∃ g c, e = .returned (.tuple #[.slice (some ⟨g, 0, none⟩) 1 c, .int .i64 0]) ∧ ∀ V, w'.grownBy V none → (loadVar 28 ⟨g, 0, none⟩).run Tryz.prog V = .ok (.agg #[.string SN, .int .i64 x.kind, .bool x.weak, .int .u64 x.value, .int .u64 x.resolver, .int .u64 x.ordinal, .string SO]) V) ∧ w6.grownBy w' none from EA.out.mono fun e w' ⟨⟨q, c, h1, hr, _, _⟩, h3⟩ => by
      obtain ⟨g, rfl, hc⟩ := hr 0 (nm, x) rfl
      refine ⟨⟨g, c, h1, fun V hV => ?_⟩, h3⟩
      have := run_loadVar_mid (P := Tryz.prog) V g 0 28 (outCs (nm, x)) _ (fun j v hv => grown_cell hV (by have hj : j < 7 := (List.getElem?_eq_some_iff.1 hv).1; rw [← hv]; have := hc j hj; simpa using this)) Tryz.underlying28 rfl (by kernel_rfl)
      rw [HSN.out, HSO.out]
      exact this)
    clear EA EF
    go_upto_region 18 with fail
    clear c0 c1 c2 c3 c4 c5' c6
    go_upto_region 19 with (first | (refine wpList_load_imgI rfl (.tmp 6) rfl (by kernel_rfl) I6.out ?_) | (go_at_call 17; refine EAN.out.mono ?_; rintro e w7 ⟨⟨g7, c7, rfl, hl7⟩, hg⟩))
    have P7 := Lib.hid hg
    have HL7 := Lib.hid hl7
    have I7 := Lib.hid (I6.out.kept hg (by simp))
    have N7 := Lib.hid (N6.out.kept hg (by simp))
    obtain ⟨a0, a1, a2, a3, a4, a5, a6⟩ := N7.out.c
    rw [← HSN.out] at a0
    clear hg hl7
    go_upto_region 20 with (first | (refine wpList_load_imgI rfl (.tmp 6) rfl (by kernel_rfl) I7.out ?_) | (go_at_call 19; refine (EFN.out w7 P7.out).mono ?_; rintro e w8 ⟨rfl, hg⟩; have P8 := Lib.hid (grown_trans P7.out hg); have S8 := Lib.hid hg; clear hg))
    clear a0 a1 a2 a3 a4 a5 a6
    have g9 := grown1 w8 (.cells #[.string SN, .int .i64 4, .bool x.weak, .int .u64 x.value, .int .u64 x.resolver, .int .u64 x.ordinal, .string SO] 28)
    have n9 : ExAt (w8.alloc (.cells (exArr SN x) 28)) w8.heap.size SN x := heap_alloc_new w8 _
    have e9 : exArr SN x = #[.string SN, .int .i64 4, .bool x.weak, .int .u64 x.value, .int .u64 x.resolver, .int .u64 x.ordinal, .string SO] := by unfold exArr; rw [HSO.out, k]
    rw [e9] at n9
    obtain ⟨w9, hw9⟩ : ∃ V, V = w8.alloc (.cells #[.string SN, .int .i64 4, .bool x.weak, .int .u64 x.value, .int .u64 x.resolver, .int .u64 x.ordinal, .string SO] 28) := ⟨_, rfl⟩
    obtain ⟨b9, hb9⟩ : ∃ g, w8.heap.size = g := ⟨_, rfl⟩
    rw [← hw9] at g9 n9 ⊢
    rw [hb9] at n9 ⊢
    have P9 := Lib.hid (grown_trans P8.out g9)
    have S9 := Lib.hid (grown_trans S8.out g9)
    have N9 := Lib.hid n9
    have NB := Lib.hid (N7.out.kept S9.out (by simp))
    have E9 := Lib.hid e9
    clear hw9 g9 n9 e9 hb9
    go_upto_region 22 with fail
    have KG := fun d os => grown_below (below_regrown w9 d os) none
    have TK := Lib.hid (fun d os => Calls.regrown_of ((K.out (Go.Sort.grow (redrawn w9 d) os)).mono (fun _ _ h => (⟨h.1, below_grown h.2 (Nat.le_refl _) (by simp)⟩ : _ ∧ _))))
    have L9 := Lib.hid (fun (V : World) (hV : ∃ p : Regrown, V = Go.Sort.grow (redrawn w9 p.d) p.os) => (by obtain ⟨p, rfl⟩ := hV; exact load_ex (N9.out.kept (KG p.d p.os) (by simp)) : (loadVar 28 ⟨b9, 0, none⟩).run Tryz.prog V = .ok (exV SN x) V))
    have LB := Lib.hid (fun (V : World) (hV : ∃ p : Regrown, V = Go.Sort.grow (redrawn w9 p.d) p.os) => (by obtain ⟨p, rfl⟩ := hV; rw [HSN.out]; exact load_ex (NB.out.kept (KG p.d p.os) (by simp)) : (loadVar 28 ⟨b, 0, none⟩).run Tryz.prog V = .ok (exV SN x) V))
    have LE := Lib.hid (fun (V : World) (hV : ∃ p : Regrown, V = Go.Sort.grow (redrawn w9 p.d) p.os) => (by obtain ⟨p, rfl⟩ := hV; have := HL7.out _ (grown_trans S9.out (KG p.d p.os)); unfold exV; rw [E9.out]; simpa only [k] using this : (loadVar 28 ⟨g7, 0, none⟩).run Tryz.prog V = .ok (exV SN x) V))
    unfold exV at L9 LB LE
    rw [E9.out] at L9 LB LE
    have HK := Lib.hid KG
    clear KG
    refine wp_region_quiet_below (by kernel_rfl) (by kernel_rfl) ?_
    iterate 10 (quiet_step (fail))
    refine wpQuiet_load rfl _ rfl rfl L9.out ?_
    refine wpQuiet_load rfl _ rfl rfl LB.out ?_
    iterate 10 (quiet_step (fail))
    refine wpQuiet_load rfl _ rfl rfl LE.out ?_
    refine wpQuiet_load rfl _ rfl rfl LB.out ?_
    iterate 3 (quiet_step (fail))
    quiet_step (with_reducible exact TK.out _ _)
    repeat (quiet_step (fail))
    refine wpQuiet_nil ?_
    intro _ hw'
    obtain ⟨⟨dq, osq⟩, hw''⟩ := hw'
    subst hw''
    have G10 := Lib.hid (grown_trans G6.out (grown_trans P9.out (HK.out dq osq)))
    go_wp2
    go_ret
    exact ⟨rfl, below_grown G10.out (Nat.le_refl _) (by simp)⟩
  · have k1 : decide (x.kind = 1) = false := decide_eq_false (by omega)
    have k4 : decide (x.kind = 4) = false := decide_eq_false (by omega)
    have k3 : decide (x.kind = 3) = true := decide_eq_true (by omega)
    have d3 : decide (x.ordinal = 1) = false := decide_eq_false o
    subst e
    rw [if_pos (by decide)] at EA EF
    have EFN := Lib.hid (show ∀ V, w6.grownBy V none → Calls Tryz.prog 19 #[.slice q5 (4096 + nt) c5, imgV ⟨2, 0, 0⟩ (plSt nt 0 0) (.slice qs5 1 1) (.slice qd5 1 1), .string SN] V fun e w' => e = .returned (.tuple #[.agg #[.string ⟨#[]⟩, .int .i64 0, .bool false, .int .u64 0, .int .u64 0, .int .u64 0, .string ⟨#[]⟩], .bool false, .int .i64 22]) ∧ V.grownBy w' none from fun V hV => (EF.out V hV).mono fun e w' ⟨h1, h2⟩ => ⟨h1, h2⟩)
    have EAN := Lib.hid (show Calls Tryz.prog 17 #[.slice q5 (4096 + nt) c5, imgV ⟨2, 0, 0⟩ (plSt nt 0 0) (.slice qs5 1 1) (.slice qd5 1 1)] w6 fun e w' => (∃ q c, e = .returned (.tuple #[.slice q 0 c, .int .i64 22])) ∧ w6.grownBy w' none from EA.out.mono fun e w' ⟨⟨q, c, h1, _, _, _⟩, h3⟩ => ⟨⟨q, c, h1⟩, h3⟩)
    clear EA EF
    go_upto_region 18 with fail
    clear c0 c1 c2 c3 c4 c5' c6
    go_upto_region 19 with (first | (refine wpList_load_imgI rfl (.tmp 6) rfl (by kernel_rfl) I6.out ?_) | (go_at_call 17; refine EAN.out.mono ?_; rintro e w7 ⟨⟨q7, c7, rfl⟩, hg⟩))
    have P7 := Lib.hid hg
    have I7 := Lib.hid (I6.out.kept hg (by simp))
    have N7 := N6.out.kept hg (by simp)
    obtain ⟨a0, a1, a2, a3, a4, a5, a6⟩ := N7.c
    rw [← HSN.out] at a0
    clear hg N7
    go_upto_region 20 with (first | (refine wpList_load_imgI rfl (.tmp 6) rfl (by kernel_rfl) I7.out ?_) | (go_at_call 19; refine (EFN.out w7 P7.out).mono ?_; rintro e w8 ⟨rfl, hg⟩; have P8 := Lib.hid (grown_trans P7.out hg); clear hg))
    have g9 := grown1 w8 (.cells #[.string ⟨#[]⟩, .int .i64 0, .bool false, .int .u64 0, .int .u64 0, .int .u64 0, .string ⟨#[]⟩] 28)
    obtain ⟨z0, z1, z2, z3, z4, z5, z6⟩ := (new_ex w8).c
    simp only [Ex.zero] at z0 z1 z2 z3 z4 z5 z6
    rw [show strOfNums [] = (⟨#[]⟩ : ByteArray) from rfl] at z6
    obtain ⟨w9, hw9⟩ : ∃ V, V = w8.alloc (.cells #[.string ⟨#[]⟩, .int .i64 0, .bool false, .int .u64 0, .int .u64 0, .int .u64 0, .string ⟨#[]⟩] 28) := ⟨_, rfl⟩
    rw [← hw9] at g9 z0 z1 z2 z3 z4 z5 z6 ⊢
    have P9 := Lib.hid (grown_trans P8.out g9)
    clear hw9 g9
    go_wp2_with fail
    refine (K.out _).mono ?_
    rintro e w10 ⟨rfl, hg⟩
    have G10 := Lib.hid (grown_trans G6.out (grown_trans P9.out hg))
    clear hg
    go_wp2
    go_ret
    exact ⟨rfl, below_grown G10.out (Nat.le_refl _) (by simp)⟩
  · have k1 : decide (x.kind = 1) = false := decide_eq_false (by omega)
    have k4 : decide (x.kind = 4) = false := decide_eq_false (by omega)
    have k3 : decide (x.kind = 3) = true := decide_eq_true (by omega)
    have d3 : decide (x.ordinal = 1) = true := decide_eq_true o
    subst e
    rw [if_neg (by decide)] at EA EF
    have EFN := Lib.hid (show ∀ V, w6.grownBy V none → Calls Tryz.prog 19 #[.slice q5 (4096 + nt) c5, imgV ⟨2, 0, 0⟩ (plSt nt 0 0) (.slice qs5 1 1) (.slice qd5 1 1), .string SN] V fun e w' => e = .returned (.tuple #[.agg #[.string SN, .int .i64 x.kind, .bool x.weak, .int .u64 x.value, .int .u64 x.resolver, .int .u64 x.ordinal, .string SO], .bool true, .int .i64 0]) ∧ V.grownBy w' none from fun V hV => (EF.out V hV).mono fun e w' ⟨h1, h2⟩ => ⟨by rw [h1, HSN.out, HSO.out]; rfl, h2⟩)
    have EAN := Lib.hid (show Calls Tryz.prog 17 #[.slice q5 (4096 + nt) c5, imgV ⟨2, 0, 0⟩ (plSt nt 0 0) (.slice qs5 1 1) (.slice qd5 1 1)] w6 fun e w' => (∃ g c, e = .returned (.tuple #[.slice (some ⟨g, 0, none⟩) 1 c, .int .i64 0]) ∧ ∀ V, w'.grownBy V none → (loadVar 28 ⟨g, 0, none⟩).run Tryz.prog V = .ok (.agg #[.string SN, .int .i64 x.kind, .bool x.weak, .int .u64 x.value, .int .u64 x.resolver, .int .u64 x.ordinal, .string SO]) V) ∧ w6.grownBy w' none from EA.out.mono fun e w' ⟨⟨q, c, h1, hr, _, _⟩, h3⟩ => by
      obtain ⟨g, rfl, hc⟩ := hr 0 (nm, x) rfl
      refine ⟨⟨g, c, h1, fun V hV => ?_⟩, h3⟩
      have := run_loadVar_mid (P := Tryz.prog) V g 0 28 (outCs (nm, x)) _ (fun j v hv => grown_cell hV (by have hj : j < 7 := (List.getElem?_eq_some_iff.1 hv).1; rw [← hv]; have := hc j hj; simpa using this)) Tryz.underlying28 rfl (by kernel_rfl)
      rw [HSN.out, HSO.out]
      exact this)
    clear EA EF
    go_upto_region 18 with fail
    clear c0 c1 c2 c3 c4 c5' c6
    go_upto_region 19 with (first | (refine wpList_load_imgI rfl (.tmp 6) rfl (by kernel_rfl) I6.out ?_) | (go_at_call 17; refine EAN.out.mono ?_; rintro e w7 ⟨⟨g7, c7, rfl, hl7⟩, hg⟩))
    have P7 := Lib.hid hg
    have HL7 := Lib.hid hl7
    have I7 := Lib.hid (I6.out.kept hg (by simp))
    have N7 := Lib.hid (N6.out.kept hg (by simp))
    obtain ⟨a0, a1, a2, a3, a4, a5, a6⟩ := N7.out.c
    rw [← HSN.out] at a0
    clear hg hl7
    go_upto_region 20 with (first | (refine wpList_load_imgI rfl (.tmp 6) rfl (by kernel_rfl) I7.out ?_) | (go_at_call 19; refine (EFN.out w7 P7.out).mono ?_; rintro e w8 ⟨rfl, hg⟩; have P8 := Lib.hid (grown_trans P7.out hg); have S8 := Lib.hid hg; clear hg))
    clear a0 a1 a2 a3 a4 a5 a6
    have g9 := grown1 w8 (.cells #[.string SN, .int .i64 3, .bool x.weak, .int .u64 x.value, .int .u64 x.resolver, .int .u64 1, .string SO] 28)
    have n9 : ExAt (w8.alloc (.cells (exArr SN x) 28)) w8.heap.size SN x := heap_alloc_new w8 _
    have e9 : exArr SN x = #[.string SN, .int .i64 3, .bool x.weak, .int .u64 x.value, .int .u64 x.resolver, .int .u64 1, .string SO] := by unfold exArr; rw [HSO.out, k, o]
    rw [e9] at n9
    obtain ⟨w9, hw9⟩ : ∃ V, V = w8.alloc (.cells #[.string SN, .int .i64 3, .bool x.weak, .int .u64 x.value, .int .u64 x.resolver, .int .u64 1, .string SO] 28) := ⟨_, rfl⟩
    obtain ⟨b9, hb9⟩ : ∃ g, w8.heap.size = g := ⟨_, rfl⟩
    rw [← hw9] at g9 n9 ⊢
    rw [hb9] at n9 ⊢
    have P9 := Lib.hid (grown_trans P8.out g9)
    have S9 := Lib.hid (grown_trans S8.out g9)
    have N9 := Lib.hid n9
    have NB := Lib.hid (N7.out.kept S9.out (by simp))
    have E9 := Lib.hid e9
    clear hw9 g9 n9 e9 hb9
    go_upto_region 22 with fail
    have KG := fun d os => grown_below (below_regrown w9 d os) none
    have TK := Lib.hid (fun d os => Calls.regrown_of ((K.out (Go.Sort.grow (redrawn w9 d) os)).mono (fun _ _ h => (⟨h.1, below_grown h.2 (Nat.le_refl _) (by simp)⟩ : _ ∧ _))))
    have L9 := Lib.hid (fun (V : World) (hV : ∃ p : Regrown, V = Go.Sort.grow (redrawn w9 p.d) p.os) => (by obtain ⟨p, rfl⟩ := hV; exact load_ex (N9.out.kept (KG p.d p.os) (by simp)) : (loadVar 28 ⟨b9, 0, none⟩).run Tryz.prog V = .ok (exV SN x) V))
    have LB := Lib.hid (fun (V : World) (hV : ∃ p : Regrown, V = Go.Sort.grow (redrawn w9 p.d) p.os) => (by obtain ⟨p, rfl⟩ := hV; rw [HSN.out]; exact load_ex (NB.out.kept (KG p.d p.os) (by simp)) : (loadVar 28 ⟨b, 0, none⟩).run Tryz.prog V = .ok (exV SN x) V))
    have LE := Lib.hid (fun (V : World) (hV : ∃ p : Regrown, V = Go.Sort.grow (redrawn w9 p.d) p.os) => (by obtain ⟨p, rfl⟩ := hV; have := HL7.out _ (grown_trans S9.out (KG p.d p.os)); unfold exV; rw [E9.out]; simpa only [k, o] using this : (loadVar 28 ⟨g7, 0, none⟩).run Tryz.prog V = .ok (exV SN x) V))
    unfold exV at L9 LB LE
    rw [E9.out] at L9 LB LE
    have HK := Lib.hid KG
    clear KG
    refine wp_region_quiet_below (by kernel_rfl) (by kernel_rfl) ?_
    iterate 10 (quiet_step (fail))
    refine wpQuiet_load rfl _ rfl rfl L9.out ?_
    refine wpQuiet_load rfl _ rfl rfl LB.out ?_
    iterate 10 (quiet_step (fail))
    refine wpQuiet_load rfl _ rfl rfl LE.out ?_
    refine wpQuiet_load rfl _ rfl rfl LB.out ?_
    iterate 3 (quiet_step (fail))
    quiet_step (with_reducible exact TK.out _ _)
    repeat (quiet_step (fail))
    refine wpQuiet_nil ?_
    intro _ hw'
    obtain ⟨⟨dq, osq⟩, hw''⟩ := hw'
    subst hw''
    have G10 := Lib.hid (grown_trans G6.out (grown_trans P9.out (HK.out dq osq)))
    go_wp2
    go_ret
    exact ⟨rfl, below_grown G10.out (Nat.le_refl _) (by simp)⟩
  · have q1 : decide (x.kind = 1) = false := decide_eq_false k
    have q4 : decide (x.kind = 4) = false := decide_eq_false k4
    have q3 : decide (x.kind = 3) = false := decide_eq_false k3
    subst e
    rw [if_neg (by decide)] at EA EF
    have EFN := Lib.hid (show ∀ V, w6.grownBy V none → Calls Tryz.prog 19 #[.slice q5 (4096 + nt) c5, imgV ⟨2, 0, 0⟩ (plSt nt 0 0) (.slice qs5 1 1) (.slice qd5 1 1), .string SN] V fun e w' => e = .returned (.tuple #[.agg #[.string SN, .int .i64 x.kind, .bool x.weak, .int .u64 x.value, .int .u64 x.resolver, .int .u64 x.ordinal, .string SO], .bool true, .int .i64 0]) ∧ V.grownBy w' none from fun V hV => (EF.out V hV).mono fun e w' ⟨h1, h2⟩ => ⟨by rw [h1, HSN.out, HSO.out]; rfl, h2⟩)
    have EAN := Lib.hid (show Calls Tryz.prog 17 #[.slice q5 (4096 + nt) c5, imgV ⟨2, 0, 0⟩ (plSt nt 0 0) (.slice qs5 1 1) (.slice qd5 1 1)] w6 fun e w' => (∃ g c, e = .returned (.tuple #[.slice (some ⟨g, 0, none⟩) 1 c, .int .i64 0]) ∧ ∀ V, w'.grownBy V none → (loadVar 28 ⟨g, 0, none⟩).run Tryz.prog V = .ok (.agg #[.string SN, .int .i64 x.kind, .bool x.weak, .int .u64 x.value, .int .u64 x.resolver, .int .u64 x.ordinal, .string SO]) V) ∧ w6.grownBy w' none from EA.out.mono fun e w' ⟨⟨q, c, h1, hr, _, _⟩, h3⟩ => by
      obtain ⟨g, rfl, hc⟩ := hr 0 (nm, x) rfl
      refine ⟨⟨g, c, h1, fun V hV => ?_⟩, h3⟩
      have := run_loadVar_mid (P := Tryz.prog) V g 0 28 (outCs (nm, x)) _ (fun j v hv => grown_cell hV (by have hj : j < 7 := (List.getElem?_eq_some_iff.1 hv).1; rw [← hv]; have := hc j hj; simpa using this)) Tryz.underlying28 rfl (by kernel_rfl)
      rw [HSN.out, HSO.out]
      exact this)
    clear EA EF
    go_upto_region 18 with fail
    clear c0 c1 c2 c3 c4 c5' c6
    go_upto_region 19 with (first | (refine wpList_load_imgI rfl (.tmp 6) rfl (by kernel_rfl) I6.out ?_) | (go_at_call 17; refine EAN.out.mono ?_; rintro e w7 ⟨⟨g7, c7, rfl, hl7⟩, hg⟩))
    have P7 := Lib.hid hg
    have HL7 := Lib.hid hl7
    have I7 := Lib.hid (I6.out.kept hg (by simp))
    have N7 := Lib.hid (N6.out.kept hg (by simp))
    obtain ⟨a0, a1, a2, a3, a4, a5, a6⟩ := N7.out.c
    rw [← HSN.out] at a0
    clear hg hl7
    go_upto_region 20 with (first | (refine wpList_load_imgI rfl (.tmp 6) rfl (by kernel_rfl) I7.out ?_) | (go_at_call 19; refine (EFN.out w7 P7.out).mono ?_; rintro e w8 ⟨rfl, hg⟩; have P8 := Lib.hid (grown_trans P7.out hg); have S8 := Lib.hid hg; clear hg))
    clear a0 a1 a2 a3 a4 a5 a6
    have g9 := grown1 w8 (.cells #[.string SN, .int .i64 x.kind, .bool x.weak, .int .u64 x.value, .int .u64 x.resolver, .int .u64 x.ordinal, .string SO] 28)
    have n9 : ExAt (w8.alloc (.cells (exArr SN x) 28)) w8.heap.size SN x := heap_alloc_new w8 _
    have e9 : exArr SN x = #[.string SN, .int .i64 x.kind, .bool x.weak, .int .u64 x.value, .int .u64 x.resolver, .int .u64 x.ordinal, .string SO] := by unfold exArr; rw [HSO.out]
    rw [e9] at n9
    obtain ⟨w9, hw9⟩ : ∃ V, V = w8.alloc (.cells #[.string SN, .int .i64 x.kind, .bool x.weak, .int .u64 x.value, .int .u64 x.resolver, .int .u64 x.ordinal, .string SO] 28) := ⟨_, rfl⟩
    obtain ⟨b9, hb9⟩ : ∃ g, w8.heap.size = g := ⟨_, rfl⟩
    rw [← hw9] at g9 n9 ⊢
    rw [hb9] at n9 ⊢
    have P9 := Lib.hid (grown_trans P8.out g9)
    have S9 := Lib.hid (grown_trans S8.out g9)
    have N9 := Lib.hid n9
    have NB := Lib.hid (N7.out.kept S9.out (by simp))
    have E9 := Lib.hid e9
    clear hw9 g9 n9 e9 hb9
    go_upto_region 22 with fail
    have KG := fun d os => grown_below (below_regrown w9 d os) none
    have TK := Lib.hid (fun d os => Calls.regrown_of ((K.out (Go.Sort.grow (redrawn w9 d) os)).mono (fun _ _ h => (⟨h.1, below_grown h.2 (Nat.le_refl _) (by simp)⟩ : _ ∧ _))))
    have L9 := Lib.hid (fun (V : World) (hV : ∃ p : Regrown, V = Go.Sort.grow (redrawn w9 p.d) p.os) => (by obtain ⟨p, rfl⟩ := hV; exact load_ex (N9.out.kept (KG p.d p.os) (by simp)) : (loadVar 28 ⟨b9, 0, none⟩).run Tryz.prog V = .ok (exV SN x) V))
    have LB := Lib.hid (fun (V : World) (hV : ∃ p : Regrown, V = Go.Sort.grow (redrawn w9 p.d) p.os) => (by obtain ⟨p, rfl⟩ := hV; rw [HSN.out]; exact load_ex (NB.out.kept (KG p.d p.os) (by simp)) : (loadVar 28 ⟨b, 0, none⟩).run Tryz.prog V = .ok (exV SN x) V))
    have LE := Lib.hid (fun (V : World) (hV : ∃ p : Regrown, V = Go.Sort.grow (redrawn w9 p.d) p.os) => (by obtain ⟨p, rfl⟩ := hV; have := HL7.out _ (grown_trans S9.out (KG p.d p.os)); unfold exV; rw [E9.out]; exact this : (loadVar 28 ⟨g7, 0, none⟩).run Tryz.prog V = .ok (exV SN x) V))
    unfold exV at L9 LB LE
    rw [E9.out] at L9 LB LE
    have HK := Lib.hid KG
    clear KG
    refine wp_region_quiet_below (by kernel_rfl) (by kernel_rfl) ?_
    iterate 10 (quiet_step (fail))
    refine wpQuiet_load rfl _ rfl rfl L9.out ?_
    refine wpQuiet_load rfl _ rfl rfl LB.out ?_
    iterate 10 (quiet_step (fail))
    refine wpQuiet_load rfl _ rfl rfl LE.out ?_
    refine wpQuiet_load rfl _ rfl rfl LB.out ?_
    iterate 3 (quiet_step (fail))
    quiet_step (with_reducible exact TK.out _ _)
    repeat (quiet_step (fail))
    refine wpQuiet_nil ?_
    intro _ hw'
    obtain ⟨⟨dq, osq⟩, hw''⟩ := hw'
    subst hw''
    have G10 := Lib.hid (grown_trans G6.out (grown_trans P9.out (HK.out dq osq)))
    go_wp2
    go_ret
    exact ⟨rfl, below_grown G10.out (Nat.le_refl _) (by simp)⟩
end Go.Proofs.YtkmbkpoclhbmgaaGreat.exportBounds


/- 'ExportBounds': for every input the call returns true, and what was handed in reads as it did. The form's own reach is the one condition. -/
namespace Go.Proofs.YtkmbkpoclhbmgaaGreat.exportBounds
open Go.ChangeShapes Go.WideShapes Go.ChangeAt Go.RowKit
open Go.ChangeMaps (open_string shut_string)

theorem own : ownKnob Tryz.prog.godebug = none := by kernel_rfl
theorem laidOut : laidOutB Tryz.prog = true := by kernel_rfl

set_option maxRecDepth 100000 in
theorem lifted (os : Os) (started : os.Started) (H : Type) (enc : TypeId × Value → H) :
    ReturnsInHanded {} Tryz.checked os 6 .any (Rows.exportBoundsSpec.pre6 enc Tryz.prog Tryz.f6 Rows.exportBoundsRow.domain false) (Rows.exportBoundsSpec.post enc Tryz.prog Tryz.f6 false true false false) := by
  refine returnsInHanded_of_change (C := Tryz.checked) own started (by kernel_rfl) Tryz.func6
    (ChangeSpec.witness6 (enc := enc) (C := Tryz.checked) false ⟨#[], #[.agg #[.string ⟨#[]⟩, .int .i64 0, .bool false, .int .u64 0, .int .u64 0, .int .u64 0, .string ⟨#[]⟩]], []⟩ 8 (by kernel_rfl) (by kernel_rfl) (by kernel_rfl) (by kernel_rfl)) ?_
  intro W base args ds gs before hval0 hW hcnd _
  have hval : ∀ (j : Nat) t v, Tryz.f6.params[j]? = some t → args[j]? = some v → Value.okWide Tryz.prog W .any base t v := hval0
  have hW' := hW
  obtain ⟨p, q, hA0, hV, rfl, hfz, hnd⟩ := hW
  have hA : DataW.TrodAll enc Tryz.prog W 0 (fun _ => true) true Tryz.f6.params.toList args.toList ds p := hA0
  rw [Tryz.params6] at hA hval
  obtain ⟨v0, vs0, d0, ds0, p0, q0, hargs, rfl, rfl, h0, r0⟩ := trodAll_cons hA
  obtain ⟨rfl, rfl, rfl⟩ := trodAll_nil r0
  obtain rfl : args = #[v0] := by cases args; simp_all
  obtain ⟨rfl, rfl⟩ := trodVars_none hV
  have k0 := h0
  have lt0 : ∀ x ∈ p0, x.block < W.heap.size := by obtain ⟨m, hm⟩ := k0; exact DataW.trod_lt m _ _ _ hm
  obtain ⟨n0, x0, w0, rfl⟩ := open_ex (hval 0 28 v0 rfl rfl) h0
  clear hA0 hval0
  refine (walk n0 x0 w0 W).mono fun e W' ⟨he, bel⟩ => ?_
  subst he
  exact ⟨_, rfl, _, _, _, [], _, [], hW', trodAll_mk1 (shut_bool Tryz.underlying4 _), (trodAll_cons_mk (Below.trod laidOut (by kernel_rfl) (of_decide_eq_true (by kernel_rfl)) k0 bel lt0) trodAll_mk0), rfl, bel.frame _, fun h => by cases h⟩

theorem proved : Rows.ExportBoundsSaid :=
  OpenClaim.holds_of_wide 6 Tryz.f6 rfl rfl rfl rfl rfl rfl rfl ⟨rfl, rfl, rfl, rfl, rfl⟩ rfl rfl rfl rfl rfl (by kernel_rfl) Tryz.func6 (by kernel_rfl)
    (of_decide_eq_true (by kernel_rfl)) (by unfold Func.isWrapper; first | (rw [if_pos (by decide +kernel)]; kernel_rfl) | (rw [if_neg (by decide +kernel)]; exact ⟨rfl, rfl⟩))
    (fun os started H enc _ => lifted os started H enc)
end Go.Proofs.YtkmbkpoclhbmgaaGreat.exportBounds
