/- Parts of the proof, put together: FxA, FxP, FxB, FxF, FxO, FxX, RbA, RbB, MkN, Row, RbC, RbD. No condition beyond those that each part names. -/
import Derived.Shelf.Small.Bits
import Derived.Shelf.Small.Strs
import Derived.Shelf.Strconv.Itoa0
import Derived.Shelf.Strings.Search1
import Derived.Shelf.Bytes.SlIndexAt
import Derived.Shelf.Bytes.SlSearch0
import Derived.Ground.SlbCloneProg
import Derived.Shelf.Bytes.SlClone
import Derived.Shelf.Bytes.IndexByte
import Derived.Test.YtbnnlbdjjpmgeaaGreatProg
import Derived.Test.YtbnnlbdjjpmgeaaGreatRows
import Derived.WalkKit
import Derived.WalkSpells
import Derived.WalkLawsBesides
import Derived.BigQuiet
import Derived.Deep.QuietTactic
import Derived.Lib.Hide
import Derived.IntWalk
import Derived.OneCell
import Derived.Laws.Rows
import Derived.Laws.BytesArg
import Derived.Shelf.Bytes.SlEqualAll
import Derived.Lib.SlFresh
import Derived.Maps.AppendAt
import Derived.OpenShut
import Derived.ProofKit
import Derived.Deep.AppendSrc
import Derived.Deep.Upon
import Derived.Lib.AppendZeros
import Derived.Laws.IdiomStrings
import Derived.Lib.AppendZerosOnto
import Derived.Laws.StructEq
import Derived.Below
import Derived.Shelf.Abstract
import Derived.Laws.ResultCell
import Derived.Deep.Slices
import Derived.ChangeSame
import Derived.Laws.OwnMore
import Derived.Stop.Asserts
import Derived.Laws.Externs
import Derived.Laws.Bits128
import Derived.Lib.SmallJoins
import Derived.Deep.Cut
import Derived.Deep.CutRange
import Derived.WalkArith
import Derived.Maps.Own
import Derived.Maps.OwnOps
import Derived.Maps.OwnSet
import Derived.Maps.Views
import Derived.RangeFuncRecord
import Derived.RangeFuncSeq
import Derived.RangeFuncCalls
import Derived.RangeFuncBound
import Derived.OwnWalkIn
import Derived.TacticsInMore
import Derived.Shelf.RegionOpen
import Derived.Deep.RegionHeld3
import Derived.BigRegion
import Derived.Deep.RegionLaw
import Derived.StillTailTactics
import Derived.RangeFuncNested
import Derived.RangeFuncIn
import Derived.RangeFuncLeaves
import Derived.RegionTactic
import Derived.Laws.Slices
import Derived.Lib.ConvBytes
import Derived.StringKeys
import Derived.WideShapes
import Derived.Lib.QuietBelow
import Derived.Laws.Tables
import Derived.BigFrame
import Derived.Lib.EndianBits
import Derived.ChangeAlike
import Derived.WalkMore
import Derived.Deep.LoopGhost
import Derived.PlainAid
import Derived.Lib.SlBytesRow
import Derived.Deep.Onto
import Derived.Laws.EntriesVeiled
import Derived.Shelf.SlSortCmp.WholeK
import Derived.Shelf.SlGeneric
import Derived.Ground.SlsfProg
import Derived.Sort.Walk0
import Derived.Laws.CopyOwn
import Derived.Lib.SliceRun
import Derived.Deep.MidRow
import Derived.Test.YtbnnlbdjjpmgeaaGreatPR1
import Derived.Test.YtbnnlbdjjpmgeaaGreatPR2
import Derived.Test.YtbnnlbdjjpmgeaaGreatPR3
import Derived.Test.YtbnnlbdjjpmgeaaGreatPR4
namespace Go.Proofs.YtbnnlbdjjpmgeaaGreat
open Go.RowKit
variable {w w' W V : World}

theorem fxCs_flat_one (D : List Fx) : ∀ u ∈ D.flatMap fxCs, u.oneCell' = true := fun u hu => by
  obtain ⟨x, _, h⟩ := List.mem_flatMap.1 hu
  exact fxCs_one x u h
theorem FxsAt.cells {q : Option Addr} {D : List Fx} (h : FxsAt w q D) (j : Nat) (u : Value) (hu : (D.flatMap fxCs)[j]? = some u) : ∃ g o, q = some ⟨g, o, none⟩ ∧ w.cell? ⟨g, o + j, none⟩ = some u := by
  have hj : j < (D.flatMap fxCs).length := (List.getElem?_eq_some_iff.1 hu).1
  rw [flat_len fxCs_len] at hj
  have hi : j / 7 < D.length := Nat.div_lt_of_lt_mul (by omega)
  have hm : j % 7 < 7 := Nat.mod_lt _ (by decide)
  have hy : D[j / 7]? = some (D[j / 7]'hi) := List.getElem?_eq_getElem hi
  obtain ⟨g, o, e, hc⟩ := h _ _ hy
  refine ⟨g, o, e, ?_⟩
  have h1 := hc (j % 7) hm
  have h2 := flat_at fxCs_len D (j / 7) (j % 7) _ hy hm
  rw [show j / 7 * 7 + j % 7 = j by omega] at h2
  rw [show o + j / 7 * 7 + j % 7 = o + j by omega] at h1
  rw [h1, ← h2, hu]
theorem nilF_no (a : Addr) (n c : Nat) (w : World) : (binOp .eql 41 (.slice (some a) n c) (.slice none 0 0)).run Tryz.prog w = .ok (.bool false) w := by kernel_rfl
theorem nilF_yes (n c : Nat) (w : World) : (binOp .eql 41 (.slice none n c) (.slice none 0 0)).run Tryz.prog w = .ok (.bool true) w := by kernel_rfl
theorem empty_own (W : World) : (W.alloc (.cells #[] 60 (0, 0))).ownsRow W.heap.size 60 7 (.slice (some ⟨W.heap.size, 0, none⟩) 0 0) 0 [] :=
  ⟨rfl, .inr ⟨W.heap.size, 0, #[], rfl, Nat.le_refl _, heap_alloc_new W _, Nat.le_refl _, by decide, rfl, rfl⟩⟩
structure OwnF (w w' : World) (D : List Fx) (e : Ending) : Prop where
  ex : ∃ q c, e = .returned (.slice q D.length c) ∧ w'.ownsRow w.heap.size 60 7 (.slice q D.length c) D.length (D.flatMap fxCs)
  grown : w.grownBy w' none
set_option maxRecDepth 20000 in
theorem cloneF_any {D : List Fx} {n c : Nat} {q : Option Addr} (hD : D.length = n) (hn : n ≤ 1000000000) (h : FxsAt w q D) :
    Calls Tryz.prog 132 #[.slice q n c] w fun e w' => OwnF w w' D e := by
  cases q with
  | none =>
    have hD0 : D = [] := by
      cases D with
      | nil => rfl
      | cons x D => obtain ⟨g, o, e, _⟩ := h 0 x rfl; cases e
    subst hD0
    have NY := nilF_yes n c
    clear h
    go_enter Tryz.func132, Tryz.ntmps132
    go_wp2
    go_ret
    exact ⟨⟨_, _, rfl, World.ownsRow_nil _ _ _ _⟩, grown_refl _ _⟩
  | some a =>
    have g1 := grown1 w (.cells #[] 60 (0, 0))
    have O1 := Lib.hid (empty_own w)
    have G1 := Lib.hid g1
    have HH := Lib.hid ((h.same g1).cells)
    have HL := Lib.hid (show (D.flatMap fxCs).length = n * 7 by rw [flat_len fxCs_len, hD])
    have HO := Lib.hid (fxCs_flat_one D)
    have HD := Lib.hid hD
    have HBS := Lib.hid g1.size
    have NN := nilF_no a n c
    clear g1 h hD
    go_enter Tryz.func132, Tryz.ntmps132
    go_wp2_with (at_builtin; refine wp_append_rows fxType rfl _ _ rfl rfl (.slice (some ⟨w.heap.size, 0, none⟩) 0 0) 0 [] rfl O1.out (some a) n c rfl (D.flatMap fxCs) HL.out HH.out HO.out (by omega) (by decide) HBS.out ?_)
    intro v' w' ho hg hv
    try rw [Nat.zero_add] at ho
    try rw [List.nil_append] at ho
    obtain ⟨q', c', rfl⟩ := own_slice ho
    have F := Lib.hid (show OwnF w w' D (.returned (.slice q' n c')) from ⟨⟨q', c', by rw [HD.out], by rw [HD.out]; exact ho⟩, grown_opt G1.out hg (fun g e => by simp only [Value.ownBlock, Option.some.injEq] at e; omega)⟩)
    clear ho hg hv
    go_wp2
    go_ret
    exact F.out
end Go.Proofs.YtbnnlbdjjpmgeaaGreat


namespace Go.Proofs.YtbnnlbdjjpmgeaaGreat

theorem dedF_snoc : ∀ (A : List Fx) (x y : Fx), dedF (A ++ [x, y]) = if ordN y x = 0 then dedF (A ++ [x]) else dedF (A ++ [x]) ++ [y]
  | [], x, y => by
    simp only [List.nil_append, dedF]
    by_cases h : ordN y x = 0
    · rw [if_pos h, if_pos h, ord_0 h]
    · rw [if_neg h, if_neg h]; rfl
  | [a], x, y => by
    have ih := dedF_snoc [] x y
    simp only [List.nil_append] at ih
    simp only [List.cons_append, List.nil_append]
    rw [show dedF (a :: x :: [y]) = if ordN x a = 0 then dedF (x :: [y]) else a :: dedF (x :: [y]) from rfl, show dedF (a :: [x]) = if ordN x a = 0 then dedF [x] else a :: dedF [x] from rfl, show dedF (x :: [y]) = _ from ih]
    by_cases h : ordN y x = 0
    · rw [if_pos h, if_pos h]
    · rw [if_neg h, if_neg h]
      by_cases k : ordN x a = 0
      · rw [if_pos k, if_pos k]
      · rw [if_neg k, if_neg k]; rfl
  | a :: b :: A, x, y => by
    have ih := dedF_snoc (b :: A) x y
    simp only [List.cons_append] at ih ⊢
    rw [show dedF (a :: b :: (A ++ [x, y])) = if ordN b a = 0 then dedF (b :: (A ++ [x, y])) else a :: dedF (b :: (A ++ [x, y])) from rfl, show dedF (a :: b :: (A ++ [x])) = if ordN b a = 0 then dedF (b :: (A ++ [x])) else a :: dedF (b :: (A ++ [x])) from rfl, ih]
    by_cases h : ordN y x = 0
    · rw [if_pos h, if_pos h]
    · rw [if_neg h, if_neg h]
      by_cases k : ordN b a = 0
      · rw [if_pos k, if_pos k]
      · rw [if_neg k, if_neg k]; rfl
theorem ded_next {R : List Fx} {k : Nat} {x y : Fx} (hx : R[k]? = some x) (hy : R[k + 1]? = some y) : dedF (R.take (k + 2)) = if ordN y x = 0 then dedF (R.take (k + 1)) else dedF (R.take (k + 1)) ++ [y] := by
  obtain ⟨h1, rfl⟩ := List.getElem?_eq_some_iff.1 hx
  obtain ⟨h2, rfl⟩ := List.getElem?_eq_some_iff.1 hy
  rw [show k + 2 = (k + 1) + 1 from rfl, List.take_succ_eq_append_getElem h2, List.take_succ_eq_append_getElem h1, List.append_assoc]
  exact dedF_snoc _ _ _
theorem ded_one {R : List Fx} (h : 0 < R.length) : dedF (R.take 1) = R.take 1 := by
  cases R with
  | nil => simp at h
  | cons a l => rfl
end Go.Proofs.YtbnnlbdjjpmgeaaGreat


namespace Go.Proofs.YtbnnlbdjjpmgeaaGreat
open Go.RowKit
variable {w w' W V : World}

def setL : List Value → Nat → List Value → List Value
  | xs, _, [] => xs
  | xs, o, v :: vs => setL (xs.set o v) (o + 1) vs
theorem setL_mid : ∀ (vs A B C : List Value) (o : Nat), A.length = o → B.length = vs.length → setL (A ++ (B ++ C)) o vs = A ++ (vs ++ C)
  | [], A, B, C, o, _, hB => by
    have : B = [] := List.length_eq_zero_iff.1 (by simpa using hB)
    subst this; rfl
  | v :: vs, A, B, C, o, hA, hB => by
    cases B with
    | nil => simp at hB
    | cons b B =>
      unfold setL
      rw [List.set_append_right _ _ (by omega), show o - A.length = 0 by omega]
      simp only [List.cons_append, List.set_cons_zero]
      have := setL_mid vs (A ++ [v]) B C (o + 1) (by rw [List.length_append]; simp; omega) (by simpa using hB)
      simp only [List.append_assoc, List.cons_append, List.nil_append] at this
      exact this
theorem setL_take : ∀ (vs xs : List Value) (o : Nat), (setL xs o vs).take o = xs.take o
  | [], _, _ => rfl
  | v :: vs, xs, o => by
    unfold setL
    have h := setL_take vs (xs.set o v) (o + 1)
    have h2 := congrArg (List.take o) h
    rw [List.take_take, List.take_take, Nat.min_eq_left (Nat.le_succ o)] at h2
    rw [h2]
    apply List.ext_getElem?
    intro j
    by_cases c : j < o
    · rw [List.getElem?_take_of_lt c, List.getElem?_take_of_lt c, List.getElem?_set_ne (by omega)]
    · rw [List.getElem?_eq_none (by rw [List.length_take]; omega), List.getElem?_eq_none (by rw [List.length_take]; omega)]
theorem own_setCells {B n k c g : Nat} {T : TypeId} : ∀ (vs xs : List Value) (o : Nat) (W : World), W.ownsRow B T k (.slice (some ⟨g, 0, none⟩) n c) n xs → (W.setCells g o vs).ownsRow B T k (.slice (some ⟨g, 0, none⟩) n c) n (setL xs o vs)
  | [], _, _, _, h => h
  | v :: vs, xs, o, W, h => own_setCells vs (xs.set o v) (o + 1) (W.setCell ⟨g, o, none⟩ v) (own_set h v)
theorem own_putF {B n c g i : Nat} {X : List Fx} (h : W.ownsRow B 60 7 (.slice (some ⟨g, 0, none⟩) n c) n (X.flatMap fxCs)) (hi : i < X.length) (y : Fx) : (W.setCells g (i * 7) (fxCs y)).ownsRow B 60 7 (.slice (some ⟨g, 0, none⟩) n c) n ((X.set i y).flatMap fxCs) := by
  have := own_setCells (fxCs y) (X.flatMap fxCs) (i * 7) W h
  have e : setL (X.flatMap fxCs) (i * 7) (fxCs y) = (X.set i y).flatMap fxCs := by
    have e1 : X = X.take i ++ X[i] :: X.drop (i + 1) := by rw [← List.drop_eq_getElem_cons hi, List.take_append_drop]
    have e2 : X.set i y = X.take i ++ y :: X.drop (i + 1) := List.set_eq_take_append_cons_drop.trans (if_pos hi)
    rw [e2]
    conv => lhs; rw [e1]
    rw [List.flatMap_append, List.flatMap_cons, List.flatMap_append, List.flatMap_cons]
    exact setL_mid (fxCs y) _ (fxCs X[i]) _ (i * 7) (by rw [flat_len fxCs_len, List.length_take]; omega) rfl
  rwa [e] at this
def zerosF (m : Nat) : List Value := (Builtin.zeroCells #[.int .u64 0, .int .i64 0, .int .u64 0, .int .i64 0, .string ⟨#[]⟩, .int .i64 0, .bool false] m).toList
theorem zerosF_len (m : Nat) : (zerosF m).length = m * 7 := by simp [zerosF, Builtin.zeroCells]
theorem zerosF_one (m : Nat) : ∀ u ∈ zerosF m, u.oneCell' = true := by
  intro u hu
  simp only [zerosF, Builtin.zeroCells, Array.toList_map, List.mem_map] at hu
  obtain ⟨i, _, rfl⟩ := hu
  have h : i % 7 < 7 := Nat.mod_lt _ (by decide)
  show Value.oneCell' (_ : Array Value)[i % 7]! = true
  rcases (show i % 7 = 0 ∨ i % 7 = 1 ∨ i % 7 = 2 ∨ i % 7 = 3 ∨ i % 7 = 4 ∨ i % 7 = 5 ∨ i % 7 = 6 by omega) with e | e | e | e | e | e | e <;> rw [e] <;> rfl
theorem clear_fx (w : World) (ty : TypeId) (b o m c : Nat) (hm : 0 < m) (hc : ∀ j, j < m * 7 → (w.cell? ⟨b, o + j, none⟩).isSome = true) (hf : ∀ j, j < m * 7 → w.frozen? ⟨b, o + j, none⟩ = false) :
    (Builtin.clear_ #[41] ty #[.slice (some ⟨b, o, none⟩) m c]).run Tryz.prog w = .ok (.tuple #[]) (w.setCells b o (zerosF m)) := by
  have hz : ∀ V, (zeroValue 60).run Tryz.prog V = .ok (.agg #[.int .u64 0, .int .i64 0, .int .u64 0, .int .i64 0, .string ⟨#[]⟩, .int .i64 0, .bool false]) V := fun V => by kernel_rfl
  have hst := run_storeCells_cells (P := Tryz.prog) b o (zerosF m) 0 w (by simpa [zerosF_len] using hc) (by simpa [zerosF_len] using hf) (zerosF_one m)
  simp only [Nat.add_zero] at hst
  unfold zerosF at hst
  obtain ⟨k, rfl⟩ : ∃ k, m = k + 1 := ⟨m - 1, by omega⟩
  simp [Builtin.clear_, run_underlying Tryz.underlying41, hz, Value.cells, hst, zerosF]
theorem own_cell {B n c g t : Nat} {X : List Fx} (h : W.ownsRow B 60 7 (.slice (some ⟨g, 0, none⟩) n c) n (X.flatMap fxCs)) (ht : t < n * 7) : (W.cell? ⟨g, t, none⟩).isSome = true := by
  obtain ⟨h1, ⟨e, _⟩ | ⟨g', cap, cur, e, hb, hg, hn, hc, hs, hx⟩⟩ := h
  · cases e
  · injection e with e _ ec
    injection e with e
    injection e with e _ _
    subst e ec
    rw [cell_of hg, Array.getElem?_eq_getElem (by rw [hs]; omega)]
    rfl
set_option maxRecDepth 20000 in
theorem alikeF_any {g : Nat} (hg : OneAt w g (.func (.func 81) #[] #[]) 164) (x y : Fx) :
    Calls Tryz.prog 135 #[fxV x, fxV y, .pointer (some ⟨g, 0, none⟩)] w fun e w' => e = .returned (.bool (decide (ordN x y = 0))) ∧ w.grownBy w' none := by
  obtain ⟨W, hW, ha, hb, hgr⟩ := two_new w x y
  have e1 : ∀ args V, (callFunc 81 args).run Tryz.prog V = .ok (.enter 81 args) V := Go.Proofs.enters_of Tryz.func81 (by kernel_rfl) rfl
  have O := Lib.hid (order_any x y W)
  have c := (hg.grown hgr).c
  obtain ⟨a0, a1, a2, a3, a4, a5, a6⟩ := ha.c
  obtain ⟨b0, b1, b2, b3, b4, b5, b6⟩ := hb.c
  have G := Lib.hid hgr
  obtain ⟨b1', hb1⟩ : ∃ g, w.heap.size = g := ⟨_, rfl⟩
  rw [hb1] at a0 a1 a2 a3 a4 a5 a6 b0 b1 b2 b3 b4 b5 b6
  clear ha hb hgr hg
  unfold fxV fxArr at O ⊢
  generalize ordN x y = r at *
  go_enter Tryz.func135, Tryz.ntmps135
  go_upto_region 1 with fail
  clear hW hb1
  go_wp2_with fail
  refine O.out.mono ?_
  rintro e w2 ⟨rfl, hg⟩
  have G2 := Lib.hid (grown_trans G.out hg)
  clear hg
  go_wp2
  go_ret
  exact ⟨rfl, G2.out⟩
end Go.Proofs.YtbnnlbdjjpmgeaaGreat


namespace Go.Proofs.YtbnnlbdjjpmgeaaGreat
open Go.RowKit
variable {w w' W V : World}

theorem own_capF {base n c : Nat} {q : Option Addr} {T : TypeId} {k : Nat} {l : List Value} (h : w.ownsRow base T k (.slice q n c) n l) : n ≤ c ∧ c ≤ 9223372036854775807 := by
  rcases h.2 with ⟨e, h0⟩ | ⟨g, cap, cur, e, _, _, hle, hm, _⟩
  · injection e with _ e2 e3
    omega
  · injection e with _ e2 e3
    subst e3
    unfold maxLen at hm
    omega
theorem load_fxin {g o : Nat} {x : Fx} (h : FxIn W g o x) : (loadVar 60 ⟨g, o, none⟩).run Tryz.prog W = .ok (fxV x) W :=
  run_loadVar_mid (P := Tryz.prog) W g o 60 (fxCs x) _ (fun j v hv => by have hj : j < 7 := (List.getElem?_eq_some_iff.1 hv).1; rw [← hv]; exact h j hj) Tryz.underlying60 rfl (by kernel_rfl)
theorem own_in {B n c g i : Nat} {X : List Fx} {x : Fx} (h : W.ownsRow B 60 7 (.slice (some ⟨g, 0, none⟩) n c) n (X.flatMap fxCs)) (hx : X[i]? = some x) : FxIn W g (i * 7) x := by
  obtain ⟨g', o, e, hc⟩ := FxsAt.of h i x hx
  have e2 : g' = g ∧ o = 0 := by
    obtain ⟨g2, e3, -⟩ := row_cell fxCs_len h hx (j := 0) (by decide)
    have h0 := h.2
    injection e with e
    injection e with e4 e5 _
    exact ⟨e4.symm, e5.symm⟩
  obtain ⟨rfl, rfl⟩ := e2
  rw [Nat.zero_add] at hc
  exact hc
def alikeV (gc : Nat) : Value := .func (.func 135) #[] #[.pointer (some ⟨gc, 0, none⟩)]
def OrdAt (w : World) (gc : Nat) : Prop := OneAt w gc (.func (.func 81) #[] #[]) 164
structure CmpL (w wr : World) (R : List Fx) (n : Nat) (vi : Value) : Prop where
  ex : ∃ k : Nat, 1 ≤ k ∧ k ≤ n ∧ vi = .int .i64 (k : Int) ∧ dedF (R.take k) = R.take k
  grown : w.grownBy wr none
structure CmpX (R : List Fx) (n m k' : Nat) (X : List Fx) : Prop where
  len : X.length = n
  ahead : X.take k' = dedF (R.take m)
  le : k' < m
  behind : ∀ i, m ≤ i + 1 → X[i]? = R[i]?
structure CmpM (w wr : World) (lo c g : Nat) (R : List Fx) (n k : Nat) (v5 v7 : Value) : Prop where
  ex : ∃ (k' k2 : Nat) (X : List Fx), 1 ≤ k2 ∧ k + k2 ≤ n ∧ v5 = .int .i64 (k' : Int) ∧ v7 = .int .i64 (k2 : Int) ∧ CmpX R n (k + k2) k' X ∧ wr.ownsRow lo 60 7 (.slice (some ⟨g, 0, none⟩) n c) n (X.flatMap fxCs)
  grown : w.grownBy wr (some g)
theorem CmpX.start {R : List Fx} {n k : Nat} {x y : Fx} (hR : R.length = n) (hk : 1 ≤ k) (hd : dedF (R.take k) = R.take k) (hx : R[k]? = some x) (hy : R[k - 1]? = some y) (he : ordN x y = 0) : CmpX R n (k + 1) k R := by
  obtain ⟨j, rfl⟩ : ∃ j, k = j + 1 := ⟨k - 1, by omega⟩
  refine ⟨hR, ?_, by omega, fun i _ => rfl⟩
  rw [show j + 1 + 1 = j + 2 from rfl, ded_next (by simpa using hy) hx, if_pos he, hd]
theorem CmpX.lenL {R X : List Fx} {n m k' : Nat} (h : CmpX R n m k' X) (hm : m ≤ n) : (dedF (R.take m)).length = k' := by
  rw [← h.ahead, List.length_take, h.len]
  have := h.le
  omega
theorem CmpX.skip {R X : List Fx} {n m k' : Nat} {u v : Fx} (h : CmpX R n m k' X) (hm : 1 ≤ m) (hu : R[m]? = some u) (hv : R[m - 1]? = some v) (he : ordN u v = 0) : CmpX R n (m + 1) k' X := by
  obtain ⟨j, rfl⟩ : ∃ j, m = j + 1 := ⟨m - 1, by omega⟩
  refine ⟨h.len, ?_, by have := h.le; omega, fun i hi => h.behind i (by omega)⟩
  rw [show j + 1 + 1 = j + 2 from rfl, ded_next (by simpa using hv) hu, if_pos he, h.ahead]
theorem CmpX.keep {R X : List Fx} {n m k' : Nat} {u v : Fx} (h : CmpX R n m k' X) (hm : 1 ≤ m) (hn : m < n) (hu : R[m]? = some u) (hv : R[m - 1]? = some v) (he : ¬ ordN u v = 0) : CmpX R n (m + 1) (k' + 1) (X.set k' u) := by
  obtain ⟨j, rfl⟩ : ∃ j, m = j + 1 := ⟨m - 1, by omega⟩
  have hl := h.le
  have hX := h.len
  refine ⟨by rw [List.length_set]; exact h.len, ?_, by omega, fun i hi => ?_⟩
  · rw [show j + 1 + 1 = j + 2 from rfl, ded_next (by simpa using hv) hu, if_neg he, ← h.ahead]
    have hk : k' < (X.set k' u).length := by rw [List.length_set]; omega
    rw [List.take_succ_eq_append_getElem hk, List.getElem_set_self, List.take_set_of_le (Nat.le_refl _)]
  · rw [List.getElem?_set_ne (by omega)]
    exact h.behind i (by omega)
theorem flat_take {α : Type} {f : α → List Value} {k : Nat} (hf : ∀ x, (f x).length = k) (l : List α) (i : Nat) : (l.flatMap f).take (i * k) = (l.take i).flatMap f := by
  conv => lhs; rw [← List.take_append_drop i l, List.flatMap_append]
  by_cases h : i ≤ l.length
  · rw [List.take_left' (by rw [flat_len hf, List.length_take, Nat.min_eq_left h])]
  · rw [List.drop_eq_nil_of_le (by omega), List.flatMap_nil, List.append_nil, List.take_of_length_le (by rw [flat_len hf, List.length_take]; exact Nat.mul_le_mul_right k (Nat.min_le_left _ _))]
structure CmpO (w w' : World) (lo c g : Nat) (R : List Fx) (e : Ending) : Prop where
  ret : e = .returned (.slice (some ⟨g, 0, none⟩) (dedF R).length c)
  own : w'.ownsRow lo 60 7 (.slice (some ⟨g, 0, none⟩) (dedF R).length c) (dedF R).length ((dedF R).flatMap fxCs)
  grown : w.grownBy w' (some g)
theorem ded_short {R : List Fx} (h : R.length < 2) : dedF R = R := by
  match R, h with
  | [], _ => rfl
  | [_], _ => rfl
set_option maxRecDepth 20000 in
theorem compact_few {q : Option Addr} {n c : Nat} (hn : n < 2) (f : Value) (w : World) : Calls Tryz.prog 134 #[.slice q n c, f] w fun e w' => e = .returned (.slice q n c) ∧ w' = w := by
  have d1 : decide ((n : Int) < 2) = true := by simp; omega
  go_enter Tryz.func134, Tryz.ntmps134
  go_wp2
  go_ret
  exact ⟨rfl, rfl⟩
set_option maxRecDepth 20000 in
set_option maxHeartbeats 3200000 in
theorem compact_any {R : List Fx} {n c lo g gc : Nat} (hR : R.length = n) (hn : n ≤ 1000000000) (h : w.ownsRow lo 60 7 (.slice (some ⟨g, 0, none⟩) n c) n (R.flatMap fxCs)) (hc : OrdAt w gc) (hne : g ≠ gc) :
    Calls Tryz.prog 134 #[.slice (some ⟨g, 0, none⟩) n c, alikeV gc] w fun e w' => CmpO w w' lo c g R e := by
  by_cases h2 : n < 2
  · refine (compact_few h2 _ w).mono ?_
    rintro e w' ⟨rfl, rfl⟩
    have e := ded_short (R := R) (by omega)
    exact ⟨by rw [e, hR], by rw [e, hR]; exact h, grown_refl _ _⟩
  obtain ⟨hcap, hmax⟩ := own_capF h
  have d2 : decide ((n : Int) < 2) = false := by simp; omega
  have HR := Lib.hid hR
  have H := Lib.hid h
  have HC := Lib.hid hc
  have HNE := Lib.hid hne
  have e1 : ∀ args V, (callFunc 135 args).run Tryz.prog V = .ok (.enter 135 args) V := Go.Proofs.enters_of Tryz.func135 (by kernel_rfl) rfl
  have D1 := Lib.hid (ded_one (R := R) (by omega))
  clear hR h hc hne
  unfold alikeV
  go_enter Tryz.func134, Tryz.ntmps134
  go_wp2_with fail
  go_loopw [5] (fun vi wr => CmpL w wr R n vi) (fun vi _ => n - (intOf vi).toNat)
  case atStart => exact ⟨⟨1, Nat.le_refl _, by omega, rfl, D1.out⟩, grown_refl _ _⟩
  case round =>
    obtain ⟨⟨k, hk1, hk, rfl, hd⟩, hg⟩ := hrel
    have G := Lib.hid hg
    have DD := Lib.hid hd
    have OW := Lib.hid (own_grown H.out hg)
    clear hd
    by_cases hlt : k < n
    · obtain ⟨x, hx⟩ : ∃ x, R[k]? = some x := ⟨_, List.getElem?_eq_getElem (by rw [HR.out]; exact hlt)⟩
      obtain ⟨y, hy⟩ : ∃ y, R[k - 1]? = some y := ⟨_, List.getElem?_eq_getElem (by rw [HR.out]; omega)⟩
      have XY := Lib.hid (And.intro hx hy)
      have dl : decide ((k : Int) < (n : Int)) = true := by simp; omega
      have hkI : (k : Int) < (n : Int) := by omega
      obtain ⟨j, hj⟩ : ∃ j, j = k - 1 := ⟨_, rfl⟩
      have hwp : IntKind.i64.wrap ((k : Int) - 1) = (j : Int) := by rw [IntWalk.i64_in _ (by omega)]; omega
      have hjn : (j : Int) < (n : Int) := by omega
      have XY' := Lib.hid (show R[j]? = some y by rw [hj]; exact hy)
      have KG := fun d os => grown_below (below_regrown wr d os) none
      have TA := Lib.hid (fun d os => Calls.regrown_of ((alikeF_any (HC.out.grown (grown_trans G.out (KG d os))) x y).mono (fun _ _ h => (⟨h.1, below_grown h.2 (Nat.le_refl _) (by simp)⟩ : _ ∧ _))))
      have LX := Lib.hid (fun (V : World) (hV : ∃ p : Regrown, V = Go.Sort.grow (redrawn wr p.d) p.os) => (by obtain ⟨p, rfl⟩ := hV; exact load_fxin (own_in (own_grown OW.out (KG p.d p.os)) XY.out.1) : (loadVar 60 ⟨g, k * 7, none⟩).run Tryz.prog V = .ok (fxV x) V))
      have LY := Lib.hid (fun (V : World) (hV : ∃ p : Regrown, V = Go.Sort.grow (redrawn wr p.d) p.os) => (by obtain ⟨p, rfl⟩ := hV; exact load_fxin (own_in (own_grown OW.out (KG p.d p.os)) XY'.out) : (loadVar 60 ⟨g, j * 7, none⟩).run Tryz.prog V = .ok (fxV y) V))
      have HK := Lib.hid KG
      clear KG hx hy hg hj
      by_cases he : ordN x y = 0
      · rw [decide_eq_true he] at TA
        have HE := Lib.hid he
        clear he
        go_upto_region 6 with fail
        refine wp_region_quiet_below (by kernel_rfl) (by kernel_rfl) ?_
        iterate 4 (quiet_step (fail))
        refine wpQuiet_load rfl _ rfl rfl LX.out ?_
        iterate 4 (quiet_step (fail))
        refine wpQuiet_load rfl _ rfl rfl LY.out ?_
        quiet_step (with_reducible exact TA.out _ _)
        repeat (quiet_step (fail))
        refine wpQuiet_nil ?_
        intro _ hw'
        obtain ⟨⟨dq, osq⟩, hw''⟩ := hw'
        subst hw''
        have G4 := Lib.hid (grown_trans G.out (HK.out dq osq))
        have O4 := Lib.hid (own_grown OW.out (HK.out dq osq))
        generalize Go.Sort.grow (redrawn wr dq) osq = w4 at *
        have ST := Lib.hid (CmpX.start HR.out hk1 DD.out XY.out.1 XY.out.2 HE.out)
        clear LX LY TA HK XY HE DD OW G
        go_wp2_with fail
        obtain ⟨M, hM⟩ : ∃ M, n - k = M := ⟨_, rfl⟩
        obtain ⟨C2, hC2⟩ : ∃ M, c - k = M := ⟨_, rfl⟩
        rw [hM, hC2]
        have HM := Lib.hid hM
        clear hM hC2
        go_loopw [5, 7] (fun v5 v7 wr => CmpM w wr lo c g R n k v5 v7) (fun _ v7 _ => M - (intOf v7).toNat)
        case atStart => exact ⟨⟨k, 1, R, Nat.le_refl _, by omega, rfl, rfl, ST.out, O4.out⟩, grown_any G4.out _⟩
        case round =>
          obtain ⟨⟨k', k2, X, hk2, hkk, rfl, rfl, hX, hO⟩, hg5⟩ := hrel
          have HX := Lib.hid hX
          have OX := Lib.hid hO
          have G5 := Lib.hid hg5
          have hle := hX.le
          have CC := Lib.hid (show OrdAt wr gc from HC.out.kept hg5 (fun e => HNE.out (by injection e)))
          have hM0 := HM.out
          clear hX hO hg5
          by_cases hlt2 : k2 < M
          · obtain ⟨u, hu⟩ : ∃ u, R[k + k2]? = some u := ⟨_, List.getElem?_eq_getElem (by rw [HR.out]; omega)⟩
            obtain ⟨v, hv⟩ : ∃ v, R[k + k2 - 1]? = some v := ⟨_, List.getElem?_eq_getElem (by rw [HR.out]; omega)⟩
            obtain ⟨m, hm⟩ : ∃ m, m = k2 - 1 := ⟨_, rfl⟩
            have UV := Lib.hid (And.intro hu hv)
            have XU := Lib.hid (show X[k + k2]? = some u from (HX.out.behind (k + k2) (by omega)).trans hu)
            have XV := Lib.hid (show X[k + m]? = some v from (HX.out.behind (k + m) (by omega)).trans (by rw [show k + m = k + k2 - 1 by omega]; exact hv))
            obtain ⟨z, hz⟩ : ∃ z, X[k']? = some z := ⟨_, List.getElem?_eq_getElem (by rw [HX.out.len]; omega)⟩
            have XZ := Lib.hid hz
            have dl2 : decide ((k2 : Int) < (M : Int)) = true := by simp; omega
            have hk2I : (k2 : Int) < (M : Int) := by omega
            have hwm : IntKind.i64.wrap ((k2 : Int) - 1) = (m : Int) := by rw [IntWalk.i64_in _ (by omega)]; omega
            have hmM : (m : Int) < (M : Int) := by omega
            have hkn : (k' : Int) < (n : Int) := by omega
            have FCT := Lib.hid (show k + k2 < n ∧ 1 ≤ k + k2 ∧ k2 + 1 ≤ M ∧ k + (k2 + 1) ≤ n by omega)
            have KG := fun d os => grown_below (below_regrown wr d os) none
            have TA := Lib.hid (fun d os => Calls.regrown_of ((alikeF_any (CC.out.grown (KG d os)) u v).mono (fun _ _ h => (⟨h.1, below_grown h.2 (Nat.le_refl _) (by simp)⟩ : _ ∧ _))))
            have LX := Lib.hid (fun (V : World) (hV : ∃ p : Regrown, V = Go.Sort.grow (redrawn wr p.d) p.os) => (by obtain ⟨p, rfl⟩ := hV; rw [← Nat.add_mul]; exact load_fxin (own_in (own_grown OX.out (KG p.d p.os)) XU.out) : (loadVar 60 ⟨g, k * 7 + k2 * 7, none⟩).run Tryz.prog V = .ok (fxV u) V))
            have LY := Lib.hid (fun (V : World) (hV : ∃ p : Regrown, V = Go.Sort.grow (redrawn wr p.d) p.os) => (by obtain ⟨p, rfl⟩ := hV; rw [← Nat.add_mul]; exact load_fxin (own_in (own_grown OX.out (KG p.d p.os)) XV.out) : (loadVar 60 ⟨g, k * 7 + m * 7, none⟩).run Tryz.prog V = .ok (fxV v) V))
            have HK := Lib.hid KG
            clear KG hu hv hz hm hM0
            go_upto_region 11 with fail
            by_cases he : ordN u v = 0
            · rw [decide_eq_true he] at TA
              have HE := Lib.hid he
              clear he
              refine wp_region_quiet_below (by kernel_rfl) (by kernel_rfl) ?_
              iterate 4 (quiet_step (fail))
              refine wpQuiet_load rfl _ rfl rfl LX.out ?_
              iterate 4 (quiet_step (fail))
              refine wpQuiet_load rfl _ rfl rfl LY.out ?_
              quiet_step (with_reducible exact TA.out _ _)
              repeat (quiet_step (fail))
              refine wpQuiet_nil ?_
              intro _ hw'
              obtain ⟨⟨dq, osq⟩, hw''⟩ := hw'
              subst hw''
              have G6 := Lib.hid (grown_then G5.out (HK.out dq osq))
              have O6 := Lib.hid (own_grown OX.out (HK.out dq osq))
              generalize Go.Sort.grow (redrawn wr dq) osq = w6 at *
              go_wp2_with fail
              go_roundw
              case rel => exact ⟨⟨k', k2 + 1, X, by omega, FCT.out.2.2.2, rfl, by go_num, HX.out.skip FCT.out.2.1 UV.out.1 UV.out.2 HE.out, O6.out⟩, G6.out⟩
              case measure => simp [intOf]; omega
            · rw [decide_eq_false he] at TA
              have HE := Lib.hid he
              clear he
              refine wp_region_quiet_below (by kernel_rfl) (by kernel_rfl) ?_
              iterate 4 (quiet_step (fail))
              refine wpQuiet_load rfl _ rfl rfl LX.out ?_
              iterate 4 (quiet_step (fail))
              refine wpQuiet_load rfl _ rfl rfl LY.out ?_
              quiet_step (with_reducible exact TA.out _ _)
              repeat (quiet_step (fail))
              refine wpQuiet_nil ?_
              intro _ hw'
              obtain ⟨⟨dq, osq⟩, hw''⟩ := hw'
              subst hw''
              have G6 := Lib.hid (grown_then G5.out (HK.out dq osq))
              have O6 := Lib.hid (own_grown OX.out (HK.out dq osq))
              generalize Go.Sort.grow (redrawn wr dq) osq = w6 at *
              have hu6 := own_in O6.out XU.out
              rw [Nat.add_mul] at hu6
              obtain ⟨a0, a1, a2, a3, a4, a5, a6⟩ := hu6.c
              obtain ⟨b0, b1, b2, b3, b4, b5, b6⟩ := (own_in O6.out XZ.out).c
              have z0 := own_free O6.out (k' * 7)
              have z1 := own_free O6.out (k' * 7 + 1)
              have z2 := own_free O6.out (k' * 7 + 2)
              have z3 := own_free O6.out (k' * 7 + 3)
              have z4 := own_free O6.out (k' * 7 + 4)
              have z5 := own_free O6.out (k' * 7 + 5)
              have z6 := own_free O6.out (k' * 7 + 6)
              have O7 := Lib.hid (own_putF O6.out (i := k') (by rw [HX.out.len]; omega) u)
              have G7 := Lib.hid (grown_setCells (fxCs u) (k' * 7) w6 G6.out)
              clear hu6
              go_wp2_with fail
              go_roundw
              case rel => exact ⟨⟨k' + 1, k2 + 1, X.set k' u, by omega, FCT.out.2.2.2, by go_num, by go_num, HX.out.keep FCT.out.2.1 FCT.out.1 UV.out.1 UV.out.2 HE.out, O7.out⟩, G7.out⟩
              case measure => simp [intOf]; omega
          · have hend : k + k2 = n := by omega
            have hkn : k' < n := by omega
            have CL := Lib.hid (fun ty => clear_fx wr ty g (k' * 7) (n - k') (c - k') (by omega) (fun j hj => own_cell OX.out (by omega)) (fun j hj => own_free OX.out _))
            have O8 := Lib.hid (own_setCells (zerosF (n - k')) _ (k' * 7) wr OX.out)
            have G8 := Lib.hid (grown_setCells (zerosF (n - k')) (k' * 7) wr G5.out)
            have LL := Lib.hid (HX.out.lenL (by omega))
            have EA := Lib.hid (show dedF R = X.take k' by have := HX.out.ahead; rw [this, hend, ← HR.out, List.take_length])
            have hcl := CL.out
            have dl2 : decide ((k2 : Int) < (M : Int)) = false := by simp; omega
            have hkI' : (k' : Int) ≤ (n : Int) := by omega
            have hkc : (k' : Int) ≤ (c : Int) := by omega
            have ER := Lib.hid (show R.take (k + k2) = R by rw [hend, ← HR.out, List.take_length])
            clear hM0 hend
            go_wp2_with fail
            go_ret
            have EL : (dedF R).length = k' := by have := LL.out; rwa [ER.out] at this
            refine ⟨by rw [EL]; rfl, ?_, G8.out⟩
            rw [EL]
            have := own_shrink O8.out (m := k') (by omega)
            rw [setL_take, flat_take fxCs_len, ← EA.out] at this
            exact this
      · rw [decide_eq_false he] at TA
        have HE := Lib.hid he
        clear he
        go_upto_region 6 with fail
        refine wp_region_quiet_below (by kernel_rfl) (by kernel_rfl) ?_
        iterate 4 (quiet_step (fail))
        refine wpQuiet_load rfl _ rfl rfl LX.out ?_
        iterate 4 (quiet_step (fail))
        refine wpQuiet_load rfl _ rfl rfl LY.out ?_
        quiet_step (with_reducible exact TA.out _ _)
        repeat (quiet_step (fail))
        refine wpQuiet_nil ?_
        intro _ hw'
        obtain ⟨⟨dq, osq⟩, hw''⟩ := hw'
        subst hw''
        have G4 := Lib.hid (grown_trans G.out (HK.out dq osq))
        have NX := Lib.hid (show dedF (R.take (k + 1)) = R.take (k + 1) by
          obtain ⟨i, rfl⟩ : ∃ i, k = i + 1 := ⟨k - 1, by omega⟩
          have h1 := ded_next (by simpa using XY.out.2) XY.out.1
          rw [if_neg HE.out, DD.out] at h1
          rw [show i + 1 + 1 = i + 2 from rfl, h1]
          obtain ⟨h3, h4⟩ := List.getElem?_eq_some_iff.1 XY.out.1
          rw [← h4, ← List.take_succ_eq_append_getElem h3])
        generalize Go.Sort.grow (redrawn wr dq) osq = w4 at *
        go_wp2_with fail
        go_roundw
        case rel => exact ⟨⟨k + 1, by omega, hlt, by go_num, NX.out⟩, G4.out⟩
        case measure => simp [intOf]; omega
    · obtain rfl : k = n := by omega
      have e : Hid (dedF R = R) := Lib.hid (by have := DD.out; rwa [← HR.out, List.take_length] at this)
      clear hg
      go_wp2_with fail
      go_ret
      exact ⟨by rw [e.out, HR.out]; rfl, by rw [e.out, HR.out]; exact OW.out, grown_any G.out _⟩
end Go.Proofs.YtbnnlbdjjpmgeaaGreat


namespace Go.Proofs.YtbnnlbdjjpmgeaaGreat
open Go.RowKit
variable {w w' W V : World}

def setF (l : List Fx) : List Fx := dedF (l.mergeSort fun a b => decide (ordN a b ≤ 0))
theorem setF_is (l : List Fx) : IsSet (setF l) l := by
  refine set_ded (List.mergeSort_perm _ _) ?_
  have h : (l.mergeSort fun a b => decide (ordN a b ≤ 0)).Pairwise fun a b => (decide (ordN a b ≤ 0)) = true := List.pairwise_mergeSort (fun a b c h k => by
    simp only [decide_eq_true_eq] at h k ⊢
    exact held_ord.trans a b c h k) (fun a b => by
    have := held_ord.anti a b
    by_cases c : ordN a b ≤ 0
    · simp [c]
    · have d : ordN b a ≤ 0 := by omega
      simp [d]) l
  exact h.imp fun h => by simpa using h
structure SetO (w w' : World) (D : List Fx) (e : Ending) : Prop where
  ex : ∃ q c, e = .returned (.slice q (setF D).length c) ∧ w'.ownsRow w.heap.size 60 7 (.slice q (setF D).length c) (setF D).length ((setF D).flatMap fxCs)
  grown : w.grownBy w' none
set_option maxRecDepth 20000 in
set_option maxHeartbeats 1600000 in
theorem setGen_any {D : List Fx} {n c : Nat} {q : Option Addr} (hD : D.length = n) (hn : n ≤ 1000000000) (h : FxsAt w q D) :
    Calls Tryz.prog 80 #[.slice q n c, .func (.func 81) #[] #[]] w fun e w' => SetO w w' D e := by
  have o1 : OrdAt (w.alloc (.cells #[.func (.func 81) #[] #[]] 164)) w.heap.size := OneAt.new w _ _
  have g1 := grown1 w (.cells #[.func (.func 81) #[] #[]] 164)
  obtain ⟨w1, hw1⟩ : ∃ W, w.alloc (.cells #[.func (.func 81) #[] #[]] 164) = W := ⟨_, rfl⟩
  have hsz : w1.heap.size = w.heap.size + 1 := by rw [← hw1, World.size_alloc]
  obtain ⟨gc, hgc⟩ : ∃ g, w.heap.size = g := ⟨_, rfl⟩
  rw [hw1] at o1 g1
  rw [hgc] at o1
  have CL := Lib.hid (cloneF_any (c := c) hD hn (h.same g1))
  have O1 := Lib.hid o1
  have G1 := Lib.hid g1
  have HD := Lib.hid hD
  have HS := Lib.hid (And.intro hsz hgc)
  have SF := Lib.hid (setF_is D)
  clear o1 g1 hsz h hD
  go_enter Tryz.func80, Tryz.ntmps80
  go_upto_region 1 with fail
  clear hw1 hgc
  go_wp2_with fail
  refine CL.out.mono ?_
  rintro e w2 ⟨⟨q2, c2, rfl, ho⟩, hg⟩
  rw [HD.out] at ho ⊢
  have G2 := Lib.hid (grown_trans G1.out hg)
  have O2 := Lib.hid (O1.out.grown hg)
  have OW := Lib.hid ho
  have c0 := O2.out.c
  have cm := Lib.hid (own_capF ho)
  clear hg CL
  by_cases h0 : n = 0
  · subst h0
    have hD0 : D = [] := List.length_eq_zero_iff.1 HD.out
    have hS0 : Hid (setF D = []) := Lib.hid (by
      have := SF.out.len
      rw [HD.out] at this
      exact List.length_eq_zero_iff.1 (by omega))
    clear hD0 ho
    go_wp2_with fail
    refine (sortNoneF q2 c2 w2).mono ?_
    rintro e w3 ⟨rfl, hw3⟩
    have hw3' := hw3.symm
    subst hw3'
    clear hw3
    go_wp2_with fail
    refine (compact_few (by decide) _ w2).mono ?_
    rintro e w3 ⟨rfl, hw3⟩
    have hw3' := hw3.symm
    subst hw3'
    clear hw3
    go_wp2
    go_ret
    exact ⟨⟨q2, c2, by rw [hS0.out]; rfl, by rw [hS0.out]; have := own_low OW.out (B' := w.heap.size) G1.out.size; rw [List.length_eq_zero_iff.1 HD.out] at this; exact this⟩, G2.out⟩
  · obtain ⟨g, rfl, hgl⟩ : ∃ g, q2 = some ⟨g, 0, none⟩ ∧ w1.heap.size ≤ g := by
      rcases ho.2 with ⟨_, e0⟩ | ⟨g, cap, cur, e, hb, _⟩
      · exact absurd e0 h0
      · injection e with e _ _
        exact ⟨g, e, hb⟩
    have SO := Lib.hid (sortF_any OW.out HD.out hn)
    have NE := Lib.hid (show g ≠ gc by have := HS.out; omega)
    have GL := Lib.hid (show w.heap.size ≤ g by have := HS.out; omega)
    clear hgl ho
    go_wp2_with fail
    refine SO.out.mono ?_
    rintro e w3 ⟨rfl, ⟨R, hp, hr, ho3⟩, hg3⟩
    have O3 := Lib.hid (show OrdAt w3 gc from O2.out.kept hg3 (fun e => NE.out (by simpa [Value.ownBlock] using e)))
    have EQ := Lib.hid (show setF D = dedF R from SF.out.one (set_ded hp hr))
    have CO := Lib.hid (compact_any (by rw [hp.length_eq, HD.out]) hn ho3 O3.out NE.out)
    have G3 := Lib.hid (grown_new G2.out hg3 GL.out)
    clear hp hr ho3 hg3 SO
    unfold alikeV at CO
    go_wp2_with fail
    refine CO.out.mono ?_
    rintro e w4 ⟨rfl, ho4, hg4⟩
    rw [← EQ.out] at ho4 ⊢
    have F := Lib.hid (show SetO w w4 D (.returned (.slice (some ⟨g, 0, none⟩) (setF D).length c2)) from ⟨⟨_, _, rfl, own_low ho4 G1.out.size⟩, grown_new G3.out hg4 GL.out⟩)
    clear ho4 hg4
    go_wp2
    go_ret
    exact F.out
theorem Set_any {D : List Fx} {n c : Nat} {q : Option Addr} (hD : D.length = n) (hn : n ≤ 1000000000) (h : FxsAt w q D) :
    Calls Tryz.prog 42 #[.slice q n c] w fun e w' => SetO w w' D e := by
  have S := Lib.hid (setGen_any (c := c) hD hn h)
  clear h hD
  go_enter Tryz.func42, Tryz.ntmps42
  go_wp2_with fail
  refine S.out.mono ?_
  rintro e w2 ⟨⟨q2, c2, rfl, ho⟩, hg⟩
  have F := Lib.hid (show SetO w w2 D (.returned (.slice q2 (setF D).length c2)) from ⟨⟨q2, c2, rfl, ho⟩, hg⟩)
  clear ho hg
  generalize (setF D).length = N at *
  go_wp2
  go_ret
  exact F.out
theorem setF_len (D : List Fx) : (setF D).length ≤ D.length := (setF_is D).len
end Go.Proofs.YtbnnlbdjjpmgeaaGreat


namespace Go.Proofs.YtbnnlbdjjpmgeaaGreat
open Go.RowKit
variable {w w' W V : World}

structure MeP (w wr : World) (S : List Fx) (n : Nat) (vi : Value) : Prop where
  ex : ∃ k : Nat, 1 ≤ k ∧ vi = .int .i64 (k : Int) ∧ (k ≤ n ∨ k = 1) ∧ ∀ (i : Nat) (a b : Fx), i + 1 < k → S[i]? = some a → S[i + 1]? = some b → ¬ b.at_ - a.at_ < 8
  grown : w.grownBy wr none
structure MeetO (w w' : World) (D : List Fx) (e : Ending) : Prop where
  ex : ∃ b : Bool, e = .returned (.bool b) ∧ (b = true ↔ MeetL D)
  grown : w.grownBy w' none
set_option maxRecDepth 20000 in
set_option maxHeartbeats 1600000 in
theorem Meet_any {D : List Fx} {n c : Nat} {q : Option Addr} (hD : D.length = n) (hn : n ≤ 1000000000) (h : FxsAt w q D) (hf : ∀ y ∈ D, FxOk y) :
    Calls Tryz.prog 84 #[.slice q n c] w fun e w' => MeetO w w' D e := by
  have SO := Lib.hid (Set_any (c := c) hD hn h)
  have LS := Lib.hid (show (setF D).length ≤ 1000000000 by have := setF_len D; omega)
  have IS := Lib.hid (setF_is D)
  have OKS := Lib.hid (fun y (hy : y ∈ setF D) => hf y (((setF_is D).mem y).1 hy))
  clear h hD hf
  go_enter Tryz.func84, Tryz.ntmps84
  go_wp2_with fail
  refine SO.out.mono ?_
  rintro e w2 ⟨⟨q2, c2, rfl, ho⟩, hg⟩
  have G2 := Lib.hid hg
  have R2 := Lib.hid (FxsAt.of ho)
  clear ho hg SO
  generalize setF D = S at *
  obtain ⟨N, hN⟩ : ∃ N, N = S.length := ⟨_, rfl⟩
  rw [← hN] at LS ⊢
  have HN := Lib.hid hN.symm
  have hNb := LS.out
  clear hN
  go_wp2_with fail
  go_loopw [4] (fun vi wr => MeP w2 wr S N vi) (fun vi _ => N - (intOf vi).toNat)
  case atStart => exact ⟨⟨1, Nat.le_refl _, rfl, .inr rfl, fun i a b hi => by omega⟩, grown_refl _ _⟩
  case round =>
    obtain ⟨⟨k, hk1, rfl, hk, hall⟩, hg⟩ := hrel
    have AL := Lib.hid hall
    have G := Lib.hid hg
    clear hall
    by_cases hlt : k < N
    · obtain ⟨x, hx⟩ : ∃ x, S[k]? = some x := ⟨_, List.getElem?_eq_getElem (by rw [HN.out]; exact hlt)⟩
      obtain ⟨y, hy⟩ : ∃ y, S[k - 1]? = some y := ⟨_, List.getElem?_eq_getElem (by rw [HN.out]; omega)⟩
      have hle := ltF_at ((List.pairwise_iff_getElem.1 IS.out.up) (k - 1) k (by rw [HN.out]; omega) (by rw [HN.out]; exact hlt) (by omega))
      rw [(List.getElem?_eq_some_iff.1 hx).2, (List.getElem?_eq_some_iff.1 hy).2] at hle
      have ox := (OKS.out x (List.mem_of_getElem? hx)).at_
      have oy := (OKS.out y (List.mem_of_getElem? hy)).at_
      have XY := Lib.hid (And.intro hx hy)
      obtain ⟨j, hj⟩ : ∃ j, j = k - 1 := ⟨_, rfl⟩
      have hwp : IntKind.i64.wrap ((k : Int) - 1) = (j : Int) := by rw [IntWalk.i64_in _ (by omega)]; omega
      have hjn : (j : Int) < (N : Int) := by omega
      have hkI : (k : Int) < (N : Int) := by omega
      rw [← hj] at hy
      obtain ⟨ga, oa, e, a0, -⟩ := (R2.out.same hg).at hx
      obtain ⟨gb, ob, e', b0, -⟩ := (R2.out.same hg).at hy
      rw [e] at e'
      injection e' with e'
      injection e' with e1 e2 _
      subst e e1 e2
      obtain ⟨d, hd⟩ : ∃ d, x.at_ - y.at_ = d := ⟨_, rfl⟩
      have hws : IntKind.u64.wrap (x.at_ - y.at_) = d := by rw [IntKind.wrap_u64]; omega
      have HD := Lib.hid hd
      have HJ := Lib.hid hj
      clear hd hj hx hy hg hle ox oy
      by_cases hm : d < 8
      · have dm : decide (d < 8) = true := decide_eq_true hm
        have YES := Lib.hid (show MeetL D from (meet_one IS.out).2 ⟨k - 1, y, x, XY.out.2, by rw [show k - 1 + 1 = k by omega]; exact XY.out.1, by rw [HD.out]; exact hm⟩)
        clear hm
        go_wp2_with fail
        go_quiet (fail)
        go_wp2_with fail
        go_ret
        exact ⟨⟨true, rfl, by simp [YES.out]⟩, grown_trans G2.out (grown_drewN G.out _)⟩
      · have dm : decide (d < 8) = false := decide_eq_false hm
        have NM := Lib.hid hm
        clear hm
        go_wp2_with fail
        go_quiet (fail)
        go_wp2_with fail
        go_roundw
        case rel => exact ⟨⟨k + 1, by omega, by go_num, .inl hlt, fun i a b hi ha hb => by
          rcases Nat.lt_or_ge (i + 1) k with c | c
          · have := AL.out i a b c ha hb; omega
          · obtain rfl : i = k - 1 := by omega
            rw [show k - 1 + 1 = k by omega, XY.out.1] at hb
            rw [XY.out.2] at ha
            injection hb with hb
            injection ha with ha
            rw [← hb, ← ha, HD.out]; have := NM.out; omega⟩, grown_drewN G.out _⟩
        case measure => simp [intOf]; omega
    · have NO := Lib.hid (show ¬ MeetL D from fun h => by
        obtain ⟨i, a, b, ha, hb, hm⟩ := (meet_one IS.out).1 h
        have := (List.getElem?_eq_some_iff.1 hb).1
        rw [HN.out] at this
        exact AL.out i a b (by omega) ha hb hm)
      clear hg
      go_wp2_with fail
      go_ret
      exact ⟨⟨false, rfl, by simp [NO.out]⟩, grown_trans G2.out G.out⟩
end Go.Proofs.YtbnnlbdjjpmgeaaGreat


namespace Go.Proofs.YtbnnlbdjjpmgeaaGreat
open Go.RowKit
variable {w w' W V w0 : World} {h : Hx} {s : St} {dv : Value} {l : List Sg} {qs : Option Addr} {cs : Nat}

def rbOk (x : Fx) : Bool := decide (x = ⟨x.at_, x.kind, x.target, 0, ⟨#[]⟩, 0, false⟩)
def isOth (x : Fx) : Bool := !(x.kind == 1) || !rbOk x
set_option maxRecDepth 20000 in
theorem may_rb (x : Fx) (hk : x.kind = 1) (w : World) : Calls Tryz.prog 138 #[fxV x] w fun e w' => e = .returned (.bool (rbOk x)) ∧ w.grownBy w' none := by
  have EQ := fun V => eql_fx x ⟨x.at_, x.kind, x.target, 0, ⟨#[]⟩, 0, false⟩ V
  unfold rbOk
  obtain ⟨r, hr⟩ : ∃ r, r = decide (x = ⟨x.at_, x.kind, x.target, 0, ⟨#[]⟩, 0, false⟩) := ⟨_, rfl⟩
  rw [← hr] at EQ ⊢
  clear hr
  obtain ⟨p0, p1, p2, p3, p4, p5, p6⟩ := x
  simp only [] at hk EQ
  subst hk
  have hn := FxAt.new w ⟨p0, 1, p2, p3, p4, p5, p6⟩
  have hg := grown1 w (.cells #[.int .u64 p0, .int .i64 1, .int .u64 p2, .int .i64 p3, .string p4, .int .i64 p5, .bool p6] 60)
  obtain ⟨W, hW⟩ : ∃ W, w.alloc (.cells #[.int .u64 p0, .int .i64 1, .int .u64 p2, .int .i64 p3, .string p4, .int .i64 p5, .bool p6] 60) = W := ⟨_, rfl⟩
  obtain ⟨g, hgg⟩ : ∃ g, w.heap.size = g := ⟨_, rfl⟩
  simp only [] at hn
  rw [hW] at hn hg
  rw [hgg] at hn
  obtain ⟨c0, c1, c2, c3, c4, c5, c6⟩ := hn.c
  simp only [] at c0 c1 c2 c3 c4 c5 c6
  have ld := load_fx hn
  unfold fxV fxArr at ld EQ ⊢
  simp only [] at EQ
  have G := Lib.hid hg
  clear hn hg
  go_enter Tryz.func138, Tryz.ntmps138
  go_upto_region 1 with fail
  clear hW hgg
  go_wp2
  go_ret
  exact ⟨rfl, G.out⟩
set_option maxRecDepth 20000 in
theorem isOther_any (x : Fx) (w : World) : Calls Tryz.prog 83 #[fxV x] w fun e w' => e = .returned (.bool (isOth x)) ∧ w.grownBy w' none := by
  have MY := Lib.hid (fun (hk : x.kind = 1) V => may_rb x hk V)
  unfold isOth
  obtain ⟨r, hr⟩ : ∃ r, r = rbOk x := ⟨_, rfl⟩
  rw [← hr] at MY ⊢
  clear hr
  obtain ⟨p0, p1, p2, p3, p4, p5, p6⟩ := x
  have hn := FxAt.new w ⟨p0, p1, p2, p3, p4, p5, p6⟩
  have hg := grown1 w (.cells #[.int .u64 p0, .int .i64 p1, .int .u64 p2, .int .i64 p3, .string p4, .int .i64 p5, .bool p6] 60)
  obtain ⟨W, hW⟩ : ∃ W, w.alloc (.cells #[.int .u64 p0, .int .i64 p1, .int .u64 p2, .int .i64 p3, .string p4, .int .i64 p5, .bool p6] 60) = W := ⟨_, rfl⟩
  obtain ⟨g, hgg⟩ : ∃ g, w.heap.size = g := ⟨_, rfl⟩
  simp only [] at hn MY ⊢
  rw [hW] at hn hg
  rw [hgg] at hn
  obtain ⟨c0, c1, c2, c3, c4, c5, c6⟩ := hn.c
  simp only [] at c0 c1 c2 c3 c4 c5 c6
  have ld := load_fx hn
  have gl := hn.lt
  unfold fxV fxArr at ld MY ⊢
  simp only [] at MY ⊢
  have G := Lib.hid hg
  clear hn hg
  cases hk : (p1 == 1)
  · have hk2 : (p1 != 1) = true := by simpa using hk
    go_enter Tryz.func83, Tryz.ntmps83
    go_upto_region 1 with fail
    clear hW hgg
    go_wp2
    go_ret
    exact ⟨rfl, G.out⟩
  · obtain rfl : p1 = 1 := by simpa using hk
    have M := Lib.hid (MY.out rfl)
    clear hk MY
    go_enter Tryz.func83, Tryz.ntmps83
    go_upto_region 1 with fail
    clear hW hgg
    go_wp2_with fail
    refine (M.out _).mono ?_
    rintro e w3 ⟨rfl, hg⟩
    have G3 := Lib.hid (grown_trans G.out hg)
    clear hg
    go_wp2
    go_ret
    exact ⟨rfl, G3.out⟩
set_option maxRecDepth 20000 in
set_option maxHeartbeats 1600000 in
theorem indexFx_any {f : Nat} {cbs : Array Value} (en : ∀ args V, (callFunc f args).run Tryz.prog V = .ok (.enter f args) V) (pr : Fx → Bool) (D : List Fx) (n : Nat) (hn : D.length = n) (hbig : n ≤ 1000000000) (q : Option Addr) (c : Nat) (hr : FxsAt w q D)
    (hcall : ∀ W y, w.grownBy W none → y ∈ D → Calls Tryz.prog f (#[fxV y] ++ cbs) W fun e w' => e = .returned (.bool (pr y)) ∧ W.grownBy w' none) :
    Calls Tryz.prog 137 #[.slice q n c, .func (.func f) #[] cbs] w fun e w' =>
      (∃ z : Int, e = .returned (.int .i64 z) ∧ decide (0 ≤ z) = D.any pr) ∧ w.grownBy w' none := by
  subst hn
  have RR := Lib.hid hr
  have HC := Lib.hid hcall
  clear hr hcall
  go_enter Tryz.func137, Tryz.ntmps137
  go_wp2
  go_loopw [8] (fun i wr => ∃ k : Nat, k ≤ D.length ∧ i = .int .i64 k ∧ w.grownBy wr none ∧ Hid (∀ (i : Nat) (y : Fx), i < k → D[i]? = some y → pr y = false)) (fun i _ => D.length - (intOf i).toNat)
  case atStart => exact ⟨0, Nat.zero_le _, rfl, grown_refl _ _, Lib.hid (fun i y h => by omega)⟩
  case round =>
    obtain ⟨k, hk, rfl, hg, NO⟩ := hrel
    have G := Lib.hid hg
    by_cases hlt : k < D.length
    · obtain ⟨x, hx⟩ : ∃ x, D[k]? = some x := ⟨_, List.getElem?_eq_getElem hlt⟩
      obtain ⟨gq, oq, rfl, hin⟩ := (RR.out.same hg) k x hx
      obtain ⟨a0, a1, a2, a3, a4, a5, a6⟩ := hin.c
      have M1 := HC.out wr x hg (List.mem_of_getElem? hx)
      simp only [fxV, fxArr] at M1
      have M := Lib.hid M1
      have XX := Lib.hid hx
      have dl : decide ((k : Int) < (D.length : Int)) = true := by simp; omega
      have hkl : (k : Int) < (D.length : Int) := by omega
      obtain ⟨bx, hbx⟩ : ∃ bx, bx = pr x := ⟨_, rfl⟩
      rw [← hbx] at M
      have PX := Lib.hid hbx
      clear hg hx hbx M1 hin
      go_wp2_with fail
      refine M.out.mono ?_
      rintro e w3 ⟨rfl, hg⟩
      have G3 := Lib.hid (grown_trans G.out hg)
      clear hg M a0 a1 a2 a3 a4 a5 a6
      cases bx
      · go_wp2
        go_roundw
        case rel =>
          refine ⟨k + 1, hlt, by go_num, G3.out, Lib.hid (fun i y hi hy => ?_)⟩
          rcases Nat.lt_or_ge i k with h | h
          · exact NO.out i y h hy
          · obtain rfl : i = k := by omega
            rw [XX.out] at hy
            injection hy with hy
            rw [← hy]; exact PX.out.symm
        case measure => simp [intOf]; omega
      · have FN := Lib.hid (show decide ((0 : Int) ≤ (k : Int)) = D.any pr by
          rw [List.any_eq_true.2 ⟨x, List.mem_of_getElem? XX.out, PX.out.symm⟩]
          simp)
        go_wp2
        go_ret
        exact ⟨⟨k, rfl, FN.out⟩, G3.out⟩
    · have NA := Lib.hid (show decide ((0 : Int) ≤ -1) = D.any pr from by
        have : D.any pr = false := by
          rw [List.any_eq_false]
          intro y hy
          obtain ⟨i, hi, rfl⟩ := List.getElem_of_mem hy
          rw [NO.out i _ (by omega) (List.getElem?_eq_getElem hi)]
          simp
        rw [this]; rfl)
      have dl : decide ((k : Int) < (D.length : Int)) = false := by simp; omega
      have dl2 : decide (k < D.length) = false := by simp; omega
      clear NO hg hlt
      go_wp2
      go_ret
      exact ⟨⟨-1, rfl, NA.out⟩, G.out⟩
theorem containsFx_any {f : Nat} {cbs : Array Value} (en : ∀ args V, (callFunc f args).run Tryz.prog V = .ok (.enter f args) V) (pr : Fx → Bool) (D : List Fx) (n : Nat) (hn : D.length = n) (hbig : n ≤ 1000000000) (q : Option Addr) (c : Nat) (hr : FxsAt w q D)
    (hcall : ∀ W y, w.grownBy W none → y ∈ D → Calls Tryz.prog f (#[fxV y] ++ cbs) W fun e w' => e = .returned (.bool (pr y)) ∧ W.grownBy w' none) :
    Calls Tryz.prog 82 #[.slice q n c, .func (.func f) #[] cbs] w fun e w' => e = .returned (.bool (D.any pr)) ∧ w.grownBy w' none := by
  have IX := Lib.hid (indexFx_any en pr D n hn hbig q c hr hcall)
  clear hcall hr
  go_enter Tryz.func82, Tryz.ntmps82
  go_wp2_with fail
  refine IX.out.mono ?_
  rintro e w2 ⟨⟨z, rfl, hz⟩, hg⟩
  have Z := Lib.hid hz
  have G := Lib.hid hg
  clear hz hg
  go_wp2
  go_ret
  exact ⟨ret_bool Z.out, G.out⟩
set_option maxRecDepth 20000 in
theorem isFar_any (k : ImgRows w s l qs cs) (hf : SegsFit s) (a : Int) (ha : U64 a) :
    Calls Tryz.prog 86 #[imgV h s (.slice qs l.length cs) dv, .int .u64 a] w fun e w' => e = .returned (.bool (decide (15 < atI s.segs a))) ∧ w.grownBy w' none := by
  have g0 := grown1 w (.cells (imgArr h s (.slice qs l.length cs) dv) 49)
  have a0 : ImgAt (w.alloc (.cells (imgArr h s (.slice qs l.length cs) dv) 49)) w.heap.size h s (.slice qs l.length cs) dv := heap_alloc_new w _
  obtain ⟨W, hW⟩ : ∃ W, w.alloc (.cells (imgArr h s (.slice qs l.length cs) dv) 49) = W := ⟨_, rfl⟩
  obtain ⟨b, hb⟩ : ∃ b, w.heap.size = b := ⟨_, rfl⟩
  rw [hW] at g0 a0
  rw [hb] at a0
  have ld := run_loadI a0
  have G := Lib.hid g0
  have AT := Lib.hid (At_any (w := W) (h := h) (dv := dv) (k.grown g0) hf a ha)
  obtain ⟨z, hz⟩ : ∃ z, z = atI s.segs a := ⟨_, rfl⟩
  rw [← hz] at AT ⊢
  clear k g0 a0 ha hf hz
  generalize l.length = N at *
  unfold imgV imgArr at *
  go_enter Tryz.func86, Tryz.ntmps86
  go_upto_region 1 with fail
  clear hW hb
  go_wp2_with (first | refine wpList_load_run rfl _ rfl rfl ld ?_ | fail)
  refine AT.out.mono ?_
  rintro e w3 ⟨rfl, hg3⟩
  have G3 := Lib.hid (grown_trans G.out hg3)
  clear hg3 ld
  go_wp2
  go_ret
  exact ⟨rfl, G3.out⟩
set_option maxRecDepth 20000 in
theorem far1_any (k : ImgRows w s l qs cs) (hf : SegsFit s) {b : Nat} (im : ImgAt w b h s (.slice qs l.length cs) dv) (x : Fx) (hx : FxOk x) :
    Calls Tryz.prog 85 #[fxV x, .pointer (some ⟨b, 0, none⟩)] w fun e w' => e = .returned (.bool (decide (15 < atI s.segs x.at_))) ∧ w.grownBy w' none := by
  have g0 := grown1 w (.cells (fxArr x) 60)
  have a0 : FxAt (w.alloc (.cells (fxArr x) 60)) w.heap.size x := FxAt.new w x
  obtain ⟨W, hW⟩ : ∃ W, w.alloc (.cells (fxArr x) 60) = W := ⟨_, rfl⟩
  obtain ⟨g, hg⟩ : ∃ b, w.heap.size = b := ⟨_, rfl⟩
  rw [hW] at g0 a0
  rw [hg] at a0
  have i0 := im.kept g0 (by simp)
  have ld := run_loadI i0
  have bl := lt_of_block i0
  obtain ⟨c0, -, -, -, -, -, -⟩ := a0.c
  have gl := a0.lt
  have G := Lib.hid g0
  have IF := Lib.hid (isFar_any (w := W) (h := h) (dv := dv) (k.grown g0) hf x.at_ hx.at_)
  obtain ⟨z, hz⟩ : ∃ z, z = decide (15 < atI s.segs x.at_) := ⟨_, rfl⟩
  rw [← hz] at IF ⊢
  clear k g0 a0 hf hz im i0 hx
  generalize l.length = N at *
  unfold imgV imgArr at *
  unfold fxV fxArr at *
  go_enter Tryz.func85, Tryz.ntmps85
  go_upto_region 1 with fail
  clear hW hg
  go_wp2_with (first | refine wpList_load_run rfl _ rfl rfl ld ?_ | fail)
  refine IF.out.mono ?_
  rintro e w3 ⟨rfl, hg3⟩
  have G3 := Lib.hid (grown_trans G.out hg3)
  clear hg3 ld
  go_wp2
  go_ret
  exact ⟨rfl, G3.out⟩
set_option maxRecDepth 20000 in
theorem far2_any (k : ImgRows w s l qs cs) (hf : SegsFit s) {b : Nat} (im : ImgAt w b h s (.slice qs l.length cs) dv) (x : Fx) (hx : FxOk x) :
    Calls Tryz.prog 87 #[fxV x, .pointer (some ⟨b, 0, none⟩)] w fun e w' => e = .returned (.bool (!wrN s.segs x.at_ 8)) ∧ w.grownBy w' none := by
  have g0 := grown1 w (.cells (fxArr x) 60)
  have a0 : FxAt (w.alloc (.cells (fxArr x) 60)) w.heap.size x := FxAt.new w x
  obtain ⟨W, hW⟩ : ∃ W, w.alloc (.cells (fxArr x) 60) = W := ⟨_, rfl⟩
  obtain ⟨g, hg⟩ : ∃ b, w.heap.size = b := ⟨_, rfl⟩
  rw [hW] at g0 a0
  rw [hg] at a0
  have i0 := im.kept g0 (by simp)
  have ld := run_loadI i0
  have bl := lt_of_block i0
  obtain ⟨c0, -, -, -, -, -, -⟩ := a0.c
  have gl := a0.lt
  have G := Lib.hid g0
  have IF := Lib.hid (Writable_any (w := W) (h := h) (dv := dv) (k.grown g0) hf x.at_ 8 hx.at_ ⟨by decide, by decide⟩)
  obtain ⟨z, hz⟩ : ∃ z, z = wrN s.segs x.at_ 8 := ⟨_, rfl⟩
  rw [← hz] at IF ⊢
  clear k g0 a0 hf hz im i0 hx
  generalize l.length = N at *
  unfold imgV imgArr at *
  unfold fxV fxArr at *
  go_enter Tryz.func87, Tryz.ntmps87
  go_upto_region 1 with fail
  clear hW hg
  go_wp2_with (first | refine wpList_load_run rfl _ rfl rfl ld ?_ | fail)
  refine IF.out.mono ?_
  rintro e w3 ⟨rfl, hg3⟩
  have G3 := Lib.hid (grown_trans G.out hg3)
  clear hg3 ld
  go_wp2
  go_ret
  exact ⟨rfl, G3.out⟩
end Go.Proofs.YtbnnlbdjjpmgeaaGreat


namespace Go.Proofs.YtbnnlbdjjpmgeaaGreat
open Go.RowKit
variable {w w' W V w0 : World} {h : Hx} {s : St} {dv : Value} {l : List Sg} {qs : Option Addr} {cs : Nat}

structure NoRef (E : List Seg) (S : List Fx) : Prop where
  oth : ∀ x ∈ S, isOth x = false
  meet : ¬ MeetL S
  few : S.length ≤ 20000
  far : ∀ x ∈ S, atI E x.at_ ≤ 15
  wr : ∀ x ∈ S, wrN E x.at_ 8 = true
structure RfO (w w' : World) (E : List Seg) (S : List Fx) (e : Ending) : Prop where
  ex : ∃ er : Int, e = .returned (.int .i64 er) ∧ (er = 0 ↔ NoRef E S)
  grown : w.grownBy w' none
theorem any_no {α : Type} {l : List α} {P : α → Bool} (h : l.any P = false) : ∀ x ∈ l, P x = false := fun x hx => by
  rw [List.any_eq_false] at h
  simpa using h x hx
theorem any_yes {α : Type} {l : List α} {P : α → Bool} (h : l.any P = true) : ∃ x ∈ l, P x = true := List.any_eq_true.1 h
set_option maxRecDepth 20000 in
set_option maxHeartbeats 1600000 in
theorem refusal_any (k : ImgRows w s l qs cs) (hf : SegsFit s) {S : List Fx} {n c : Nat} {q : Option Addr} (hS : S.length = n) (hn : n ≤ 1000000) (hq : FxsAt w q S) (ok : ∀ x ∈ S, FxOk x) :
    Calls Tryz.prog 43 #[imgV h s (.slice qs l.length cs) dv, .slice q n c] w fun e w' => RfO w w' s.segs S e := by
  have g0 := grown1 w (.cells (imgArr h s (.slice qs l.length cs) dv) 49)
  have a0 : ImgAt (w.alloc (.cells (imgArr h s (.slice qs l.length cs) dv) 49)) w.heap.size h s (.slice qs l.length cs) dv := heap_alloc_new w _
  obtain ⟨W, hW⟩ : ∃ W, w.alloc (.cells (imgArr h s (.slice qs l.length cs) dv) 49) = W := ⟨_, rfl⟩
  obtain ⟨b, hb⟩ : ∃ b, w.heap.size = b := ⟨_, rfl⟩
  rw [hW] at g0 a0
  rw [hb] at a0
  have G := Lib.hid g0
  have bl := lt_of_block a0
  have C1 := Lib.hid (containsFx_any (w := W) (f := 83) (cbs := #[]) (enters_of Tryz.func83 (by kernel_rfl) rfl) isOth S n hS (by omega) q c (hq.same g0) (fun V y _ _ => isOther_any y V))
  have M2 := Lib.hid (fun (V : World) (hV : W.grownBy V none) => Meet_any (w := V) (c := c) hS (by omega) (hq.same (grown_trans g0 hV)) ok)
  have C3 := Lib.hid (fun (V : World) (hV : W.grownBy V none) => containsFx_any (w := V) (f := 85) (cbs := #[.pointer (some ⟨b, 0, none⟩)]) (enters_of Tryz.func85 (by kernel_rfl) rfl) (fun x => decide (15 < atI s.segs x.at_)) S n hS (by omega) q c (hq.same (grown_trans g0 hV)) (fun U y hU hy => far1_any (k.grown (grown_trans (grown_trans g0 hV) hU)) hf (a0.kept (grown_trans hV hU) (by simp)) y (ok y hy)))
  have C5 := Lib.hid (fun (V : World) (hV : W.grownBy V none) => containsFx_any (w := V) (f := 87) (cbs := #[.pointer (some ⟨b, 0, none⟩)]) (enters_of Tryz.func87 (by kernel_rfl) rfl) (fun x => !wrN s.segs x.at_ 8) S n hS (by omega) q c (hq.same (grown_trans g0 hV)) (fun U y hU hy => far2_any (k.grown (grown_trans (grown_trans g0 hV) hU)) hf (a0.kept (grown_trans hV hU) (by simp)) y (ok y hy)))
  have HS := Lib.hid hS
  obtain ⟨E, hE⟩ : ∃ E, E = s.segs := ⟨_, rfl⟩
  rw [← hE] at C3 C5 ⊢
  obtain ⟨b1, h1⟩ : ∃ z, z = S.any isOth := ⟨_, rfl⟩
  obtain ⟨b3, h3⟩ : ∃ z, z = S.any fun x => decide (15 < atI E x.at_) := ⟨_, rfl⟩
  obtain ⟨b5, h5⟩ : ∃ z, z = S.any fun x => !wrN E x.at_ 8 := ⟨_, rfl⟩
  rw [← h1] at C1
  rw [← h3] at C3
  rw [← h5] at C5
  have H1 := Lib.hid h1
  have H3 := Lib.hid h3
  have H5 := Lib.hid h5
  clear k g0 a0 hf hq ok hS hE h1 h3 h5
  generalize l.length = N at *
  unfold imgV imgArr at *
  go_enter Tryz.func43, Tryz.ntmps43
  go_upto_region 1 with fail
  clear hW hb
  go_wp2_with fail
  refine C1.out.mono ?_
  rintro e w2 ⟨rfl, hg⟩
  have L2 := Lib.hid hg
  clear hg C1
  cases b1
  rotate_left
  · have FN := Lib.hid (show (2 : Int) = 0 ↔ NoRef E S from ⟨(fun h => by cases h), fun h => by
      obtain ⟨x, hx, hp⟩ := any_yes H1.out.symm
      rw [h.oth x hx] at hp
      cases hp⟩)
    have GO := Lib.hid (grown_trans G.out L2.out)
    go_wp2
    go_ret
    exact ⟨⟨2, rfl, FN.out⟩, GO.out⟩
  have M2' := Lib.hid (M2.out w2 L2.out)
  clear M2
  go_wp2_with fail
  refine M2'.out.mono ?_
  rintro e w3 ⟨⟨mb, rfl, hmb⟩, hg⟩
  have L3 := Lib.hid (grown_trans L2.out hg)
  have HM := Lib.hid hmb
  clear hg hmb M2' L2
  cases mb
  rotate_left
  · have FN := Lib.hid (show (2 : Int) = 0 ↔ NoRef E S from ⟨(fun h => by cases h), fun h => absurd (HM.out.1 rfl) h.meet⟩)
    have GO := Lib.hid (grown_trans G.out L3.out)
    go_wp2
    go_ret
    exact ⟨⟨2, rfl, FN.out⟩, GO.out⟩
  by_cases hbig : 20000 < n
  · have db : decide ((20000 : Int) < (n : Int)) = true := by simp; omega
    have FN := Lib.hid (show (11 : Int) = 0 ↔ NoRef E S from ⟨(fun h => by cases h), fun h => (by have := h.few; have := HS.out; omega)⟩)
    have GO := Lib.hid (grown_trans G.out L3.out)
    clear hbig
    go_wp2
    go_ret
    exact ⟨⟨11, rfl, FN.out⟩, GO.out⟩
  have db : decide ((20000 : Int) < (n : Int)) = false := by simp; omega
  have HBG := Lib.hid hbig
  have C3' := Lib.hid (C3.out w3 L3.out)
  clear hbig C3
  go_wp2_with fail
  refine C3'.out.mono ?_
  rintro e w4 ⟨rfl, hg⟩
  have L4 := Lib.hid (grown_trans L3.out hg)
  clear hg C3' L3
  cases b3
  rotate_left
  · have FN := Lib.hid (show (11 : Int) = 0 ↔ NoRef E S from ⟨(fun h => by cases h), fun h => by
      obtain ⟨x, hx, hp⟩ := any_yes H3.out.symm
      have := h.far x hx
      simp only [decide_eq_true_eq] at hp
      omega⟩)
    have GO := Lib.hid (grown_trans G.out L4.out)
    go_wp2
    go_ret
    exact ⟨⟨11, rfl, FN.out⟩, GO.out⟩
  have C5' := Lib.hid (C5.out w4 L4.out)
  clear C5
  go_wp2_with fail
  refine C5'.out.mono ?_
  rintro e w5 ⟨rfl, hg⟩
  have L5 := Lib.hid (grown_trans L4.out hg)
  have GO := Lib.hid (grown_trans G.out L5.out)
  clear hg C5' L4
  cases b5
  · have e1 := any_no H1.out.symm
    have e2 : ¬ MeetL S := fun h => by
      have := HM.out.2 h
      cases this
    have e3 : S.length ≤ 20000 := by
      have := HS.out
      have := HBG.out
      omega
    have e4 : ∀ x ∈ S, atI E x.at_ ≤ 15 := fun x hx => by
      have := any_no H3.out.symm x hx
      simp only [decide_eq_false_iff_not] at this
      omega
    have e5 : ∀ x ∈ S, wrN E x.at_ 8 = true := fun x hx => by
      have := any_no H5.out.symm x hx
      simpa using this
    have FN := Lib.hid (show (0 : Int) = 0 ↔ NoRef E S from ⟨fun _ => ⟨e1, e2, e3, e4, e5⟩, fun _ => rfl⟩)
    clear e1 e2 e3 e4 e5
    go_wp2
    go_ret
    exact ⟨⟨0, rfl, (by simpa using FN.out)⟩, GO.out⟩
  · have FN := Lib.hid (show (19 : Int) = 0 ↔ NoRef E S from ⟨(fun h => by cases h), fun h => by
      obtain ⟨x, hx, hp⟩ := any_yes H5.out.symm
      rw [h.wr x hx] at hp
      cases hp⟩)
    go_wp2
    go_ret
    exact ⟨⟨19, rfl, FN.out⟩, GO.out⟩
end Go.Proofs.YtbnnlbdjjpmgeaaGreat


namespace Go.Proofs.YtbnnlbdjjpmgeaaGreat
open Go.RowKit
variable {w w' W V : World}

structure BOut (w w' : World) (all : List Int) (e : Ending) : Prop where
  ex : ∃ q c, e = .returned (.slice q all.length c) ∧ w'.ownsRow w.heap.size 5 1 (.slice q all.length c) all.length (all.map (Value.int .u8))
  grown : w.grownBy w' none
theorem put_out {n : Nat} (hn : n < 18446744073709551616) (w : World) : Calls Tryz.prog 61 #[.int .u64 n] w fun e w' => BOut w w' (encU n) e :=
  (putU_any n hn w).mono fun _ _ h => ⟨h.1, grown_below h.2 none⟩
def numsB (l : List Int) : List Int := l.flatMap fun x => encU x.toNat
theorem nums_len (l : List Int) (h : ∀ x ∈ l, x < 18446744073709551616) : (numsB l).length ≤ 10 * l.length := by
  induction l with
  | nil => simp [numsB]
  | cons x l ih =>
    unfold numsB at ih ⊢
    rw [List.flatMap_cons, List.length_append, List.length_cons]
    have h1 := encU_10 x.toNat (by have := h x (List.mem_cons_self ..); omega)
    have h2 := ih (fun y hy => h y (List.mem_cons_of_mem _ hy))
    omega
theorem nums_take (l : List Int) {i : Nat} {x : Int} (h : l[i]? = some x) : numsB (l.take (i + 1)) = numsB (l.take i) ++ encU x.toNat := by
  obtain ⟨hi, e⟩ := List.getElem?_eq_some_iff.1 h
  rw [List.take_succ_eq_append_getElem hi, e]
  unfold numsB
  rw [List.flatMap_append, List.flatMap_singleton]
end Go.Proofs.YtbnnlbdjjpmgeaaGreat


namespace Go.Proofs.YtbnnlbdjjpmgeaaGreat
open Go.RowKit
variable {w w0 w1 w2 w' : World} {base : Nat} {v v1 v2 v' va vb va' : Value} {xs ys A A' C : List Int}

structure RowTo (w w' : World) (base : Nat) (v v' : Value) (xs : List Int) : Prop where
  own : w'.ownsRow base 5 1 v' xs.length (xs.map (Value.int .u8))
  grown : w.grownBy w' v.ownBlock
  lies : v'.ownBlock = v.ownBlock ∨ ∃ b, v'.ownBlock = some b ∧ w.heap.size ≤ b
theorem RowTo.refl (h : w.ownsRow base 5 1 v xs.length (xs.map (Value.int .u8))) : RowTo w w base v v xs := ⟨h, grown_refl _ _, .inl rfl⟩
theorem RowTo.trans (h : RowTo w w1 base v v1 xs) (k : RowTo w1 w2 base v1 v2 ys) : RowTo w w2 base v v2 ys := by
  refine ⟨k.own, ⟨k.grown.os.trans h.grown.os, k.grown.tape.trans h.grown.tape, k.grown.output.trans h.grown.output, Nat.le_trans h.grown.size k.grown.size, fun i hi hr => ?_⟩, ?_⟩
  · refine (k.grown.block i (Nat.lt_of_lt_of_le hi h.grown.size) (fun e => ?_)).trans (h.grown.block i hi hr)
    rcases h.lies with hl | ⟨b, hl, hb⟩
    · exact hr (by rw [← hl]; exact e)
    · rw [hl] at e; injection e with e; omega
  · rcases k.lies with kl | ⟨b, kl, hb⟩
    · rcases h.lies with hl | ⟨b, hl, hb⟩
      · exact .inl (kl.trans hl)
      · exact .inr ⟨b, kl.trans hl, hb⟩
    · exact .inr ⟨b, kl, Nat.le_trans h.grown.size hb⟩
theorem RowTo.past (h : RowTo w w1 base v v1 xs) (g : w1.grownBy w2 none) : RowTo w w2 base v v1 xs :=
  ⟨own_grown h.own g, ⟨g.os.trans h.grown.os, g.tape.trans h.grown.tape, g.output.trans h.grown.output, Nat.le_trans h.grown.size g.size, fun i hi hr => (g.block i (Nat.lt_of_lt_of_le hi h.grown.size) (by simp)).trans (h.grown.block i hi hr)⟩, h.lies⟩
theorem RowTo.len {q : Option Addr} {m c : Nat} (h : RowTo w w' base v (.slice q m c) xs) : xs.length = m := by
  rcases h.own.2 with ⟨e, h0⟩ | ⟨g, cap, cur, e, _⟩
  · injection e with _ e2 _
    omega
  · injection e with _ e2 _
    omega
theorem RowTo.row {q : Option Addr} {m c : Nat} (h : RowTo w w' base v (.slice q m c) xs) : w'.ownsRow base 5 1 (.slice q m c) m (xs.map (Value.int .u8)) := by
  have := h.own
  rw [h.len] at this
  exact this
theorem byte_new (w : World) (x : Int) : IsBytes (w.alloc (.cells #[.int .u8 x] 5)) (some ⟨w.heap.size, 0, none⟩) 1 [x] := by
  refine IsBytes.mk_at fun i hi => ?_
  rw [cell_of (heap_alloc_new w _), Nat.zero_add]
  have h1 : i < 1 := hi
  match i, h1 with
  | 0, _ => rfl
theorem wp_append_to {ops : Array Oper} {rest : List Oper} {o : Oper} {a : Act} {Q : Exit → Act → World → Prop} (hgd : o.guard = none) (s x : Operand)
    (ho : o.op = .call { callee := .builtin .append, args := #[s, x], argTypes := #[29, 29] }) (hty : o.type = 29)
    {w0 : World} {v0 v : Value} {xs : List Int} (hs : a.eval s = v) (hr : RowTo w0 w base v0 v xs) (news : List Int) (m : Nat) (hm : news.length = m) {q : Option Addr} {c : Nat} (hx : a.eval x = .slice q m c) (hb : IsBytes w q c news)
    (h63 : xs.length + m ≤ 140737488355328) (hbase : base ≤ w.heap.size)
    (h : ∀ q' c' w', RowTo w0 w' base v0 (.slice q' (xs.length + m) c') (xs ++ news) → wpList Tryz.prog ops Q rest (a.put o.dst (.slice q' (xs.length + m) c')) w') : wpList Tryz.prog ops Q (o :: rest) a w := by
  refine wp_append_at hgd s x ho hty v xs.length (xs.map (Value.int .u8)) hs hr.own news m hm hx hb h63 hbase ?_
  intro v' w' h1 h2 h3
  obtain ⟨q', c', rfl⟩ := own_slice h1
  refine h q' c' w' (hr.trans ⟨?_, h2, ?_⟩)
  · rw [List.length_append, List.map_append, hm]
    exact h1
  · rcases h3 with h3 | h3
    · exact .inl h3
    · exact .inr ⟨_, h3, Nat.le_refl _⟩
theorem step_append_to {base : Nat} {ops : Array Oper} {o : Oper} {a : Act} {K : Act → World → Prop} {Q : Exit → Act → World → Prop} {E : Prop} (hgd : o.guard = none) (s x : Operand)
    (ho : o.op = .call { callee := .builtin .append, args := #[s, x], argTypes := #[29, 29] }) (hty : o.type = 29)
    {w0 : World} {v0 v : Value} {xs : List Int} (hs : a.eval s = v) (hr : RowTo w0 w base v0 v xs) (news : List Int) (m : Nat) (hm : news.length = m) {q : Option Addr} {c : Nat} (hx : a.eval x = .slice q m c) (hb : IsBytes w q c news)
    (h63 : xs.length + m ≤ 140737488355328) (hbase : base ≤ w.heap.size)
    (h : ∀ q' c' w', RowTo w0 w' base v0 (.slice q' (xs.length + m) c') (xs ++ news) → K (a.put o.dst (.slice q' (xs.length + m) c')) w') :
    if Region.wanted o (yielded ops a.tmps) = true then Oper.wp Tryz.prog o a w K Q else E := by
  have hw : Region.wanted o (yielded ops a.tmps) = true := by simp [Region.wanted, hgd]
  rw [if_pos hw]
  subst hm
  have key : ∃ v' w', (Builtin.append_ #[29, 29] 29 #[v, .slice q news.length c]).run Tryz.prog w = .ok v' w' ∧ w'.ownsRow base 5 1 v' (xs.length + news.length) (xs.map (Value.int .u8) ++ news.map (Value.int .u8)) ∧ w.grownBy w' v.ownBlock ∧ (v'.ownBlock = v.ownBlock ∨ v'.ownBlock = some w.heap.size) := by
    obtain ⟨i, hi, hz0, hz1, hz2⟩ := info_parts info_u8
    rcases hb.ways with ⟨rfl, rfl, rfl⟩ | ⟨ad, rfl, hc⟩
    · exact ⟨v, w, run_append_none v _ _ hr.own, by simpa using hr.own, grown_refl _ _, .inl rfl⟩
    · obtain ⟨v', w', h1, h2, h3, _, h5⟩ := run_append_own_at (P := Tryz.prog) w base 29 29 5 i (.int .u8 0) 1 1 Tryz.underlying29 hi hz0 hz1 hz2 rfl (by decide) v xs.length _ hr.own ad news.length c (news.map (Value.int .u8)) (by simp) (by
        intro j u hu
        have hj : j < news.length := by
          rcases Nat.lt_or_ge j news.length with h | h
          · exact h
          · simp [h] at hu
        rw [hc j hj]
        simp [hj] at hu ⊢
        exact hu) (by
        intro u hu
        obtain ⟨y, _, rfl⟩ := List.mem_map.1 hu
        rfl) (by unfold maxLen; omega) (by omega) hbase
      exact ⟨v', w', h1, h2, h3, h5⟩
  obtain ⟨v', w', h1, h2, h3, h5⟩ := key
  obtain ⟨q', c', rfl⟩ := own_slice h2
  rw [← hty] at h1
  refine Lib.wp_append_run w s x _ _ ho _ _ hs hx _ _ (by rw [hty] at h1 ⊢; exact h1) (h q' c' w' (hr.trans ⟨by rw [List.length_append, List.map_append]; exact h2, h3, ?_⟩))
  rcases h5 with h5 | h5
  · exact .inl h5
  · exact .inr ⟨_, h5, Nat.le_refl _⟩
end Go.Proofs.YtbnnlbdjjpmgeaaGreat


namespace Go.Proofs.YtbnnlbdjjpmgeaaGreat
open Go.RowKit
variable {w w' W V w0 : World} {bb : Nat} {xs ys : List Int} {v : Value}

abbrev BbAt (w : World) (bb : Nat) (v : Value) : Prop := w.heap[bb]? = some (.cells #[v] 29 (0, 0))
structure SayAt (w0 : World) (bb : Nat) (w : World) (xs : List Int) : Prop where
  ex : ∃ q c, BbAt w bb (.slice q xs.length c) ∧ w.ownsRow (bb + 1) 5 1 (.slice q xs.length c) xs.length (xs.map (Value.int .u8))
  grown : w0.grownBy w none
  low : w0.heap.size ≤ bb
theorem bb_kept {q : Option Nat} (k : BbAt w bb v) (hg : w.grownBy w' q) (hr : q ≠ some bb) : BbAt w' bb v := (hg.block bb (lt_of_block k) (fun e => hr e.symm)).trans k
theorem SayAt.kept (k : SayAt w0 bb w xs) (hg : w.grownBy w' none) : SayAt w0 bb w' xs := by
  obtain ⟨q, c, k1, k2⟩ := k.ex
  exact ⟨⟨q, c, bb_kept k1 hg (by simp), own_grown k2 hg⟩, grown_trans k.grown hg, k.low⟩
theorem SayAt.put1 {x : World} {n c : Nat} {q : Option Addr} (k : BbAt x bb v) (g : w0.grownBy x none) (lo : w0.heap.size ≤ bb) (hn : ys.length = n) (o : x.ownsRow (bb + 1) 5 1 (.slice q n c) n (ys.map (Value.int .u8))) : SayAt w0 bb (x.setCell ⟨bb, 0, none⟩ (.slice q n c)) ys := by
  subst hn
  have gs := grown_setCell (i := 0) (grown_refl x (some bb)) (.slice q ys.length c)
  refine ⟨⟨q, c, ?_, ?_⟩, grown_opt g gs (fun b e => by injection e with e; omega), lo⟩
  · unfold BbAt
    rw [heap_setCell_same x bb 0 _ _ _ k]
    rfl
  · refine own_chg o (Chg.of_grown (F := fun b => b = bb) gs (fun b e => by injection e with e; exact .inl e.symm)) (fun b e => ?_)
    have := (o.lt b e).1
    omega
theorem or4 {t i : Int} (ht : 0 ≤ t ∧ t < 16) (hi : 0 ≤ i ∧ i < 16) : bits .or .u8 (16 * t) i = 16 * t + i := by
  obtain ⟨a, rfl⟩ : ∃ a : Nat, t = (a : Int) := ⟨t.toNat, by omega⟩
  obtain ⟨b, rfl⟩ : ∃ b : Nat, i = (b : Int) := ⟨i.toNat, by omega⟩
  have H : ∀ a : Fin 16, ∀ b : Fin 16, bits .or .u8 (16 * ((a : Nat) : Int)) ((b : Nat) : Int) = 16 * ((a : Nat) : Int) + ((b : Nat) : Int) := by decide +kernel
  exact H ⟨a, by omega⟩ ⟨b, by omega⟩
structure NumAt (w : World) (q : Option Addr) (l : List Int) : Prop where
  at_ : U64At w q l
  kind : ∀ g, q = some ⟨g, 0, none⟩ → ∃ cs fr, w.heap[g]? = some (.cells cs 26 fr)
theorem NumAt.kept {q : Option Addr} {l : List Int} {r : Option Nat} (h : NumAt w q l) (hg : w.grownBy w' r) (hr : ∀ g, r = some g → ∃ cs T fr, w.heap[g]? = some (.cells cs T fr) ∧ T ≠ 26) : NumAt w' q l := by
  have ne : ∀ g, q = some ⟨g, 0, none⟩ → r ≠ some g := fun g e e2 => by
    obtain ⟨cs, fr, h1⟩ := h.kind g e
    obtain ⟨cs2, T, fr2, h2, h3⟩ := hr g e2
    rw [h1] at h2
    injection h2 with h2
    injection h2 with _ h2 _
    exact h3 h2.symm
  refine ⟨fun i x hx => ?_, fun g e => ?_⟩
  · obtain ⟨g, e, hc⟩ := h.at_ i x hx
    exact ⟨g, e, hg.cell hc (fun e2 => ne g e e2.symm)⟩
  · obtain ⟨cs, fr, h1⟩ := h.kind g e
    exact ⟨cs, fr, (hg.block g (lt_of_block h1) (fun e2 => ne g e e2.symm)).trans h1⟩
theorem own_kind {B n k : Nat} {T : TypeId} {v : Value} {l : List Value} (o : w.ownsRow B T k v n l) : ∀ g, v.ownBlock = some g → ∃ cs T' fr, w.heap[g]? = some (.cells cs T' fr) ∧ T' = T := fun g e => by
  obtain ⟨-, h2 | ⟨g', cap, cur, e', -, hb, -⟩⟩ := o
  · rw [h2.1] at e; cases e
  · rw [e'] at e
    injection e with e
    subst e
    exact ⟨_, _, _, hb, rfl⟩
theorem bb_kind (k : BbAt w bb v) : ∀ g, some bb = some g → ∃ cs T fr, w.heap[g]? = some (.cells cs T fr) ∧ T ≠ 26 := fun g e => by
  injection e with e
  subst e
  exact ⟨_, _, _, k, by decide⟩
set_option maxRecDepth 20000 in
set_option maxHeartbeats 3200000 in
theorem say_any (k : SayAt w0 bb w xs) {t i : Int} (ht : 0 ≤ t ∧ t < 16) (hi : 0 ≤ i ∧ i < 16) (hlen : xs.length ≤ 1000000000) (l : List Int) (n : Nat) (hn : l.length = n) (hb : ∀ x ∈ l, 0 ≤ x ∧ x < 18446744073709551616) (hfew : n ≤ 1000) (q : Option Addr) (c : Nat) (hr : NumAt w q l) :
    Calls Tryz.prog 89 #[.int .u8 (16 * t), .int .i64 i, .slice q n c, .pointer (some ⟨bb, 0, none⟩)] w fun e w' => e = .returned (.tuple #[]) ∧ SayAt w0 bb w' (xs ++ (16 * t + i) :: numsB l) ∧ w.heap.size ≤ w'.heap.size := by
  subst hn
  obtain ⟨q0, c0, k1, k2⟩ := k.ex
  have y1 := cell_of (i := 0) k1
  have f1 : w.frozen? ⟨bb, 0, none⟩ = false := free_of k1
  have bl := lt_of_block k1
  have G0 := Lib.hid k.grown
  have LO := Lib.hid k.low
  have K1 := Lib.hid k1
  have R0 := Lib.hid (RowTo.refl k2)
  have O4 := or4 ht hi
  have HB := Lib.hid hb
  have RR := Lib.hid hr
  have HLEN := Lib.hid (fun i => (show (numsB (l.take i)).length ≤ 10000 from by
    have := nums_len (l.take i) (fun x hx => (hb x (List.mem_of_mem_take hx)).2)
    rw [List.length_take] at this
    omega))
  have GN := grown1 w (.cells #[.int .u8 (16 * t + i)] 5)
  have RP := Lib.hid (R0.out.past GN)
  have IB := Lib.hid (byte_new w (16 * t + i))
  have BS := Lib.hid (Nat.le_trans (Nat.succ_le_of_lt bl) GN.size)
  have HL := Lib.hid hlen
  clear hb hr k k2 GN hlen
  obtain ⟨X, hX⟩ : ∃ X, X = xs.length := ⟨_, rfl⟩
  have HX := Lib.hid hX
  rw [← hX] at R0 RP y1 HL
  clear hX k1
  go_enter Tryz.func89, Tryz.ntmps89
  go_wp2_with (at_builtin; refine wp_append_to rfl _ _ rfl rfl (v := .slice q0 X c0) (by rfl) RP.out [16 * t + i] 1 rfl (by rfl) IB.out (by rw [← HX.out]; have := HL.out; omega) BS.out ?_)
  intro q2 c2 x2 hr2
  rw [← HX.out] at hr2 ⊢
  have nb : (Value.slice q0 X c0).ownBlock ≠ some bb := fun e => by
    have := (R0.out.own.lt bb e).1
    omega
  have K2 := bb_kept K1.out hr2.grown nb
  have y2 := cell_of (i := 0) K2
  have f2 : x2.frozen? ⟨bb, 0, none⟩ = false := free_of K2
  have S2 := Lib.hid (SayAt.put1 (w0 := w0) K2 (grown_opt G0.out hr2.grown (fun b e => by have := (R0.out.own.lt b e).1; have := LO.out; omega)) LO.out (by rw [List.length_append, ← HX.out]; rfl) hr2.row)
  have N2 := Lib.hid ((RR.out.kept hr2.grown (fun g e => by obtain ⟨cs, T, fr, h1, h2⟩ := own_kind R0.out.own g e; exact ⟨cs, T, fr, h1, by rw [h2]; decide⟩)).kept (grown_setCell (i := 0) (grown_refl x2 (some bb)) (.slice q2 (X + 1) c2)) (bb_kind K2))
  have SZ2 := Lib.hid (show w.heap.size ≤ (x2.setCell ⟨bb, 0, none⟩ (.slice q2 (X + 1) c2)).heap.size by have := hr2.grown.size; simpa using this)
  clear hr2 K2 y1 f1 RP IB BS nb
  go_wp2
  obtain ⟨x3, hx3⟩ : ∃ x, x2.setCell ⟨bb, 0, none⟩ (.slice q2 (X + 1) c2) = x := ⟨_, rfl⟩
  rw [hx3] at S2 SZ2 N2 ⊢
  clear hx3
  go_loopw [8, 18] (fun _ vi wl => ∃ (j : Nat), j ≤ l.length ∧ vi = .int .i64 j ∧ SayAt w0 bb wl (xs ++ (16 * t + i) :: numsB (l.take j)) ∧ w.heap.size ≤ wl.heap.size ∧ NumAt wl q l) (fun _ vi _ => l.length - (intOf vi).toNat)
  case atStart => exact ⟨0, Nat.zero_le _, rfl, by rw [List.take_zero]; exact S2.out, SZ2.out, N2.out⟩
  clear S2 SZ2 N2 RR R0 K1 O4
  case round =>
    obtain ⟨j, hj, rfl, hs, hz, hq⟩ := hrel
    have N := Lib.hid hq
    have S := Lib.hid hs
    have Z := Lib.hid hz
    have L1 := HLEN.out j
    by_cases hlt : j < l.length
    · obtain ⟨x, hx⟩ : ∃ x, l[j]? = some x := ⟨_, List.getElem?_eq_getElem hlt⟩
      have hxb := HB.out x (List.mem_of_getElem? hx)
      obtain ⟨gq, rfl, c0⟩ := hq.at_ j x hx
      have dl : decide ((j : Int) < (l.length : Int)) = true := by simp; omega
      have hil : (j : Int) < (l.length : Int) := by omega
      obtain ⟨m, hm⟩ : ∃ m : Nat, x = (m : Int) := ⟨x.toNat, by omega⟩
      subst hm
      have hm64 : m < 18446744073709551616 := by omega
      have PT := Lib.hid (fun V => put_out (n := m) hm64 V)
      have NX := nums_take l hx
      rw [Int.toNat_natCast] at NX
      have E1 := Lib.hid (show xs ++ (16 * t + i) :: numsB (l.take (j + 1)) = (xs ++ (16 * t + i) :: numsB (l.take j)) ++ encU m by rw [NX, List.append_assoc, List.cons_append])
      have hyl : (xs ++ (16 * t + i) :: numsB (l.take j)).length ≤ 1000020000 := by rw [List.length_append, List.length_cons]; have := HL.out; have := HX.out; omega
      obtain ⟨Y, hY⟩ : ∃ Y, Y = xs ++ (16 * t + i) :: numsB (l.take j) := ⟨_, rfl⟩
      rw [← hY] at S E1 hyl
      have YL := Lib.hid hyl
      obtain ⟨P, hP⟩ : ∃ P, P = encU m := ⟨_, rfl⟩
      rw [← hP] at PT E1
      have PL := Lib.hid (show P.length ≤ 10 by rw [hP]; exact encU_10 m hm64)
      clear hP hY NX hs hz hq hyl hx hxb hm64
      have GD : wr.grownBy wr.drew none := grown_drewN (grown_refl wr none) 1
      have SD := Lib.hid (S.out.kept GD)
      have ND := Lib.hid (N.out.kept GD (fun g e => by cases e))
      have ZD := Lib.hid (Nat.le_trans Z.out GD.size)
      obtain ⟨q4, c4, k4, o4⟩ := SD.out.ex
      have bl4 := lt_of_block k4
      have y1 := cell_of (i := 0) k4
      have f1 : wr.drew.frozen? ⟨bb, 0, none⟩ = false := free_of k4
      have RS := Lib.hid (RowTo.refl o4)
      have K4 := Lib.hid k4
      have B4 := Lib.hid (Nat.succ_le_of_lt bl4)
      obtain ⟨yl, hyl⟩ : ∃ yl, yl = Y.length := ⟨_, rfl⟩
      have HY := Lib.hid hyl
      rw [← hyl] at y1 RS K4
      clear k4 o4 hyl
      have AL := Lib.hid (show Y.length + P.length ≤ 140737488355328 by have := YL.out; have := PL.out; omega)
      have NB := Lib.hid (fun (x6 : World) (v' : Value) (ys : List Int) (h : RowTo wr.drew x6 (bb + 1) (.slice q4 yl c4) v' ys) => (bb_kept K4.out h.grown (fun e => by have := (RS.out.own.lt bb e).1; omega) : BbAt x6 bb (.slice q4 yl c4)))
      go_upto_region 4 with fail
      go_region_law
        (first
          | (go_simp; go_at_call 61; (with_reducible refine (PT.out _).mono ?_); rintro e x5 ⟨⟨qe, ce, rfl, hoe⟩, hge⟩; have BE := Lib.hid (IsBytes.of_own rfl hoe); have RD := Lib.hid (RS.out.past hge); have BD := Lib.hid (Nat.le_trans B4.out hge.size); clear y1; have y1 := grown_cell hge (cell_of (i := 0) K4.out); clear hoe hge)
          | (refine step_append_to (by with_reducible rfl) _ _ (by with_reducible rfl) (by with_reducible rfl) (v := .slice q4 yl c4) (by rfl) RD.out P P.length rfl (by rfl) BE.out AL.out BD.out ?_; intro q6 c6 x6 hr6; have k6 := NB.out _ _ _ hr6; rw [← HY.out] at hr6 ⊢; clear y1 f1; have y1 := cell_of (i := 0) k6; have f1 : x6.frozen? ⟨bb, 0, none⟩ = false := free_of k6))
      all_goals
        have S6 := Lib.hid (show SayAt w0 bb (x6.setCell ⟨bb, 0, none⟩ (.slice q6 (yl + P.length) c6)) (xs ++ (16 * t + i) :: numsB (l.take (j + 1))) by
          rw [E1.out]
          exact SayAt.put1 k6 (grown_opt SD.out.grown hr6.grown (fun b e => by have := (RS.out.own.lt b e).1; have := LO.out; omega)) LO.out (by rw [List.length_append, ← HY.out]) hr6.row)
        have Z6 := Lib.hid (show w.heap.size ≤ (x6.setCell ⟨bb, 0, none⟩ (.slice q6 (yl + P.length) c6)).heap.size by have := hr6.grown.size; have := ZD.out; simp; omega)
        have N6 := Lib.hid ((ND.out.kept hr6.grown (fun g e => by obtain ⟨cs, T, fr, h1, h2⟩ := own_kind RS.out.own g e; exact ⟨cs, T, fr, h1, by rw [h2]; decide⟩)).kept (grown_setCell (i := 0) (grown_refl x6 (some bb)) (.slice q6 (yl + P.length) c6)) (bb_kind k6))
        clear k6 hr6 y1 f1 S SD ND N RS NB K4 B4 PT BE RD BD AL E1
        obtain ⟨x7, hx7⟩ : ∃ x, x6.setCell ⟨bb, 0, none⟩ (.slice q6 (yl + P.length) c6) = x := ⟨_, rfl⟩
        rw [hx7] at S6 Z6 N6 ⊢
        clear hx7
        go_wp2
        go_roundw
        case rel => exact ⟨j + 1, hlt, by go_num, S6.out, Z6.out, N6.out⟩
        case measure => simp [intOf]; omega
    · have hjl : j = l.length := by omega
      have dl : decide ((j : Int) < (l.length : Int)) = false := by simp; omega
      have dl2 : decide (j < l.length) = false := by simp; omega
      have F := Lib.hid (show SayAt w0 bb wr (xs ++ (16 * t + i) :: numsB l) from by
        rw [hjl, List.take_length] at hs
        exact hs)
      clear hs hjl hq hz
      go_wp2
      go_end0
      exact ⟨rfl, F.out, Z.out⟩
end Go.Proofs.YtbnnlbdjjpmgeaaGreat


namespace Go.Proofs.YtbnnlbdjjpmgeaaGreat
open Go.RowKit Go.Sort
variable {w w' W V w0 : World} {h : Hx} {s : St} {dv : Value} {l : List Sg} {qs : Option Addr} {cs : Nat}

def AdAt (w : World) (q : Option Addr) (A : List Int) : Prop := ∀ i a, A[i]? = some a → ∃ g o, q = some ⟨g, o, none⟩ ∧ w.cell? ⟨g, o + i * 7, none⟩ = some (.int .u64 a)
theorem AdAt.same {q : Option Addr} {A : List Int} (k : AdAt w q A) (hg : w.grownBy w' none) : AdAt w' q A := fun i a hi => by
  obtain ⟨g, o, e, hc⟩ := k i a hi
  exact ⟨g, o, e, grown_cell hg hc⟩
theorem ad_of {q : Option Addr} {S : List Fx} (k : FxsAt w q S) : AdAt w q (S.map Fx.at_) := fun i a hi => by
  rw [List.getElem?_map] at hi
  cases hx : S[i]? with
  | none => rw [hx] at hi; cases hi
  | some x =>
    rw [hx] at hi
    injection hi with hi
    subst hi
    obtain ⟨g, o, e, hc, -⟩ := k.at hx
    exact ⟨g, o, e, hc⟩
theorem run_here {E : List Seg} {sg p a : Int} {A : List Int} {j : Nat} (ha : A[j]? = some a) : runC E sg p (A.drop j) = if a - p = 8 ∧ atI E a = sg then runC E sg a (A.drop (j + 1)) + 1 else 0 := by
  obtain ⟨hj, e⟩ := List.getElem?_eq_some_iff.1 ha
  rw [List.drop_eq_getElem_cons hj, e]
  rfl
theorem run_end {E : List Seg} {sg p : Int} {A : List Int} {j : Nat} (hj : A.length ≤ j) : runC E sg p (A.drop j) = 0 := by
  rw [List.drop_eq_nil_of_le hj]
  rfl
theorem diff8 {a b : Int} (h : b + 8 ≤ a) (ha : U64 a) (hb : U64 b) : IntKind.u64.wrap (a - b) = a - b := by
  have := ha.2
  have := hb.1
  have := ha.1
  show (a - b) % 18446744073709551616 = a - b
  omega
set_option maxRecDepth 20000 in
set_option maxHeartbeats 6400000 in
theorem run_any (k : ImgRows w s l qs cs) (hf : SegsFit s) {A : List Int} {n c : Nat} {q : Option Addr} (hA : A.length = n) (h0 : 0 < n) (hn : n ≤ 1000000) (hq : AdAt w q A) (ok : ∀ a ∈ A, U64 a) (up : ∀ (i : Nat) (a b : Int), A[i]? = some a → A[i + 1]? = some b → a + 8 ≤ b) :
    Calls Tryz.prog 91 #[imgV h s (.slice qs l.length cs) dv, .slice q n c] w fun e w' => e = .returned (.int .i64 (runA s.segs A)) ∧ w.grownBy w' none := by
  have g0 := grown1 w (.cells (imgArr h s (.slice qs l.length cs) dv) 49)
  have a0 : ImgAt (w.alloc (.cells (imgArr h s (.slice qs l.length cs) dv) 49)) w.heap.size h s (.slice qs l.length cs) dv := heap_alloc_new w _
  obtain ⟨W, hW⟩ : ∃ W, w.alloc (.cells (imgArr h s (.slice qs l.length cs) dv) 49) = W := ⟨_, rfl⟩
  obtain ⟨b, hb⟩ : ∃ b, w.heap.size = b := ⟨_, rfl⟩
  rw [hW] at g0 a0
  rw [hb] at a0
  have G := Lib.hid g0
  have A0 := Lib.hid a0
  have K := Lib.hid (k.grown g0)
  have HQ := Lib.hid (hq.same g0)
  have HF := Lib.hid hf
  have OK := Lib.hid ok
  have UP := Lib.hid up
  have HA := Lib.hid hA
  obtain ⟨E, hE⟩ : ∃ E, E = s.segs := ⟨_, rfl⟩
  have AT := Lib.hid (fun (V : World) (hV : W.grownBy V none) (a : Int) (ha : U64 a) (d : Nat) (os : _) => (by rw [hE]; exact Calls.regrown_of ((At_any (w := Go.Sort.grow (redrawn V d) os) (h := h) (dv := dv) (((K.out).grown hV).grown (grown_below (below_regrown V d os) none)) HF.out a ha).mono (fun _ _ h => (⟨h.1, below_grown h.2 (Nat.le_refl _) (by simp)⟩ : _ ∧ _))) : Calls Tryz.prog 90 #[imgV h s (.slice qs l.length cs) dv, .int .u64 a] (Go.Sort.grow (redrawn V d) os) fun e w'' => e = .returned (.int .i64 (atI E a)) ∧ ∃ p : Regrown, w'' = Go.Sort.grow (redrawn V p.d) p.os))
  have LDI := Lib.hid (fun (V : World) (hV : W.grownBy V none) (U : World) (hU : ∃ p : Regrown, U = Go.Sort.grow (redrawn V p.d) p.os) => (by obtain ⟨p, rfl⟩ := hU; exact run_loadI (a0.kept (grown_trans hV (grown_below (below_regrown V p.d p.os) none)) (by simp)) : (loadVar 49 ⟨b, 0, none⟩).run Tryz.prog U = .ok (imgV h s (.slice qs l.length cs) dv) U))
  rw [← hE]
  obtain ⟨x0, hx0⟩ : ∃ x, A[0]? = some x := ⟨_, List.getElem?_eq_getElem (by omega)⟩
  have hsg : runA E A = runC E (atI E x0) x0 (A.drop 1) + 1 := by
    cases A with
    | nil => cases hx0
    | cons y A =>
      injection hx0 with hx0
      subst hx0
      rfl
  have SG := Lib.hid hsg
  obtain ⟨gq, oq, rfl, hc0⟩ := HQ.out 0 x0 hx0
  have k0 := fun d os => cell_regrown (a := ⟨gq, oq, none⟩) (by rw [Nat.zero_mul, Nat.add_zero] at hc0; exact hc0 : W.cell? ⟨gq, oq, none⟩ = some (.int .u64 x0)) d os
  have A1 := Lib.hid (AT.out W (grown_refl W none) x0 (ok _ (List.mem_of_getElem? hx0)))
  have L1 := Lib.hid (LDI.out W (grown_refl W none))
  have X0 := Lib.hid hx0
  obtain ⟨sg, hsgI⟩ : ∃ z, z = atI E x0 := ⟨_, rfl⟩
  rw [← hsgI] at SG A1
  clear k g0 a0 hf hq hE up ok hsg hx0 hc0 hsgI
  obtain ⟨N, hN⟩ : ∃ N, N = l.length := ⟨_, rfl⟩
  rw [← hN] at A1 L1 AT LDI hW ⊢
  clear hN
  unfold imgV imgArr at *
  go_enter Tryz.func91, Tryz.ntmps91
  go_upto_region 1 with fail
  clear hW hb
  refine wp_region_quiet_below (by kernel_rfl) (by kernel_rfl) ?_
  refine wpQuiet_load rfl _ rfl rfl L1.out ?_
  iterate 4 (quiet_step (fail))
  quiet_step (with_reducible exact A1.out _ _)
  repeat (quiet_step (fail))
  refine wpQuiet_nil ?_
  intro _ hw'
  obtain ⟨⟨dq, osq⟩, hw''⟩ := hw'
  subst hw''
  have G1 := Lib.hid (grown_below (below_regrown W dq osq) none)
  clear k0 A1 L1
  obtain ⟨W1, hW1⟩ : ∃ W1, Go.Sort.grow (redrawn W dq) osq = W1 := ⟨_, rfl⟩
  rw [hW1] at G1 ⊢
  clear hW1
  go_wp2
  have ST := Lib.hid (show runC E sg x0 (A.drop 1) + 1 = runA E A from SG.out.symm)
  clear SG
  go_loopw [6] (fun vi wl => ∃ (J j : Nat) (p : Int), J = j + 1 ∧ J ≤ n ∧ vi = .int .i64 (J : Int) ∧ A[j]? = some p ∧ runC E sg p (A.drop J) + J = runA E A ∧ W.grownBy wl none) (fun vi _ => n - (intOf vi).toNat)
  case atStart => exact ⟨1, 0, x0, rfl, h0, rfl, X0.out, ST.out, G1.out⟩
  case round =>
    obtain ⟨J, j, p, hJ, hJn, rfl, hp, hrun, hg⟩ := hrel
    have GR := Lib.hid hg
    have HJ := Lib.hid (And.intro hJ hJn)
    have LD := Lib.hid (LDI.out wr hg)
    by_cases hlt : J < n
    · obtain ⟨a, ha⟩ : ∃ x, A[J]? = some x := ⟨_, List.getElem?_eq_getElem (by rw [HA.out]; exact hlt)⟩
      have ua := OK.out a (List.mem_of_getElem? ha)
      have upp := OK.out p (List.mem_of_getElem? hp)
      have u8 := UP.out j p a hp (by rw [← hJ]; exact ha)
      have df := diff8 u8 ua upp
      have dl : decide ((J : Int) < (n : Int)) = true := by simp; omega
      have hJi : (J : Int) < (n : Int) := by omega
      have ji : (j : Int) < (n : Int) := by omega
      have ws : IntKind.i64.wrap ((J : Int) - 1) = (j : Int) := by
        rw [IntWalk.i64_left, IntWalk.wrap64_in _ ⟨by omega, by omega⟩]
        omega
      obtain ⟨g1, o1, e1, c1⟩ := HQ.out J a ha
      injection e1 with e1
      injection e1 with e1 e2 _
      subst e1 e2
      obtain ⟨g2, o2, e2, c2⟩ := HQ.out j p hp
      injection e2 with e2
      injection e2 with e2 e3 _
      subst e2 e3
      have k1 := fun d os => cell_regrown (grown_cell hg c1) d os
      have k2 := fun d os => cell_regrown (grown_cell hg c2) d os
      have AC := Lib.hid (AT.out wr hg a ua)
      have RH := Lib.hid (run_here (E := E) (sg := sg) (p := p) ha)
      have HR := Lib.hid hrun
      have HAA := Lib.hid ha
      have HL := Lib.hid hlt
      clear hp hrun hg ha ua upp u8 c1 c2 hJ hJn hlt
      by_cases h8 : a - p = 8
      · have df8 := df.trans h8
        clear df
        obtain ⟨z, hz⟩ : ∃ z, z = atI E a := ⟨_, rfl⟩
        rw [← hz] at AC RH
        have HZ := Lib.hid hz
        have H8 := Lib.hid h8
        clear hz h8
        go_upto_region 3 with fail
        refine wp_region_quiet_below (by kernel_rfl) (by kernel_rfl) ?_
        iterate 20 (quiet_step (fail))
        refine wpQuiet_load rfl _ rfl rfl LD.out ?_
        iterate 5 (quiet_step (fail))
        quiet_step (with_reducible exact AC.out _ _)
        repeat (quiet_step (fail))
        refine wpQuiet_nil ?_
        intro _ hw'
        obtain ⟨⟨dq, osq⟩, hw''⟩ := hw'
        subst hw''
        have G2 := Lib.hid (grown_trans GR.out (grown_below (below_regrown wr dq osq) none))
        clear k1 k2 AC LD
        obtain ⟨W2, hW2⟩ : ∃ W2, Go.Sort.grow (redrawn wr dq) osq = W2 := ⟨_, rfl⟩
        rw [hW2] at G2 ⊢
        clear hW2
        by_cases hs : z = sg
        · subst hs
          have RN := Lib.hid (show runC E z a (A.drop (J + 1)) + (J + 1) = runA E A by
            have h1 := RH.out
            rw [if_pos ⟨H8.out, rfl⟩] at h1
            have := HR.out
            omega)
          clear RH HR
          go_wp2
          go_roundw
          case rel => exact ⟨J + 1, J, a, rfl, by have := HL.out; omega, by go_num, HAA.out, RN.out, G2.out⟩
          case measure => have := HL.out; simp [intOf]; omega
        · have dz : (z == sg) = false := by simpa using hs
          have FN := Lib.hid (show J = runA E A by
            have h1 := RH.out
            rw [if_neg (fun h => hs h.2)] at h1
            have := HR.out
            omega)
          clear hs RH HR
          go_wp2
          go_ret
          exact ⟨by rw [← FN.out]; rfl, grown_trans G.out G2.out⟩
      · obtain ⟨D, hD⟩ : ∃ D, D = a - p := ⟨_, rfl⟩
        have df8 := df.trans hD.symm
        clear df
        rw [← hD] at h8
        have d8 : (D == 8) = false := by simpa using h8
        have FN := Lib.hid (show J = runA E A by
          have h1 := RH.out
          rw [if_neg (fun h => h8 (hD.trans h.1))] at h1
          have := HR.out
          omega)
        clear hD h8 RH HR
        go_upto_region 3 with fail
        refine wp_region_quiet_below (by kernel_rfl) (by kernel_rfl) ?_
        iterate 19 (quiet_step (fail))
        repeat (go_big_quiet_step (fail))
        refine wpQuiet_nil ?_
        intro _ hw'
        obtain ⟨⟨dq, osq⟩, hw''⟩ := hw'
        subst hw''
        have G2 := Lib.hid (grown_trans GR.out (grown_below (below_regrown wr dq osq) none))
        clear k1 k2 AC LD
        obtain ⟨W2, hW2⟩ : ∃ W2, Go.Sort.grow (redrawn wr dq) osq = W2 := ⟨_, rfl⟩
        rw [hW2] at G2 ⊢
        clear hW2
        go_wp2
        go_ret
        exact ⟨by rw [← FN.out]; rfl, grown_trans G.out G2.out⟩
    · have dl : decide ((J : Int) < (n : Int)) = false := by simp; omega
      have dl2 : decide (J < n) = false := by simp; omega
      have FN := Lib.hid (show J = runA E A by
        have h1 := run_end (E := E) (sg := sg) (p := p) (A := A) (j := J) (by rw [HA.out]; omega)
        omega)
      clear hp hrun hg hJ hJn hlt
      go_upto_region 3 with fail
      refine wp_region_quiet_below (by kernel_rfl) (by kernel_rfl) ?_
      iterate 5 (quiet_step (fail))
      repeat (go_big_quiet_step (fail))
      refine wpQuiet_nil ?_
      intro _ hw'
      obtain ⟨⟨dq, osq⟩, hw''⟩ := hw'
      subst hw''
      have G2 := Lib.hid (grown_trans GR.out (grown_below (below_regrown wr dq osq) none))
      clear LD
      obtain ⟨W2, hW2⟩ : ∃ W2, Go.Sort.grow (redrawn wr dq) osq = W2 := ⟨_, rfl⟩
      rw [hW2] at G2 ⊢
      clear hW2
      go_wp2
      go_ret
      exact ⟨by rw [← FN.out]; rfl, grown_trans G.out G2.out⟩
end Go.Proofs.YtbnnlbdjjpmgeaaGreat

