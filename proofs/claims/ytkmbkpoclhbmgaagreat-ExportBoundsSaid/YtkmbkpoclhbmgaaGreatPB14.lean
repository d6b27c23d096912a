/- Parts of the proof, put together: NlRm, NlRk, ExW, ExX, ExBy, ExBw, TrArg. No condition beyond those that each part names. -/
import Derived.Shelf.Small.Bits
import Derived.Shelf.Small.Strs
import Derived.Shelf.Strconv.Itoa0
import Derived.Shelf.Strings.Search1
import Derived.Shelf.Bytes.SlIndexAt
import Derived.Shelf.Bytes.SlSearch0
import Derived.Ground.SlbCloneProg
import Derived.Shelf.Bytes.SlClone
import Derived.Shelf.Bytes.IndexByte
import Derived.Test.YtkmbkpoclhbmgaaGreatProg
import Derived.Test.YtkmbkpoclhbmgaaGreatRows
import Derived.WalkKit
import Derived.WalkSpells
import Derived.WalkLawsBesides
import Derived.BigQuiet
import Derived.Deep.QuietTactic
import Derived.Lib.Hide
import Derived.IntWalk
import Derived.OneCell
import Derived.Laws.Rows
import Derived.OpenShut
import Derived.ProofKit
import Derived.Lib.EndianBits
import Derived.RegionTactic
import Derived.ChangeAlike
import Derived.WalkMore
import Derived.Laws.BytesArg
import Derived.Shelf.Bytes.SlEqualAll
import Derived.Lib.SlFresh
import Derived.Maps.AppendAt
import Derived.Deep.AppendSrc
import Derived.Deep.Upon
import Derived.Lib.AppendZeros
import Derived.Laws.IdiomStrings
import Derived.Lib.AppendZerosOnto
import Derived.Laws.StructEq
import Derived.Below
import Derived.Shelf.Abstract
import Derived.Laws.ResultCell
import Derived.Deep.Slices
import Derived.ChangeSame
import Derived.Laws.OwnMore
import Derived.Laws.Slices
import Derived.Lib.ConvBytes
import Derived.StringKeys
import Derived.Maps.Own
import Derived.Maps.OwnOps
import Derived.Maps.OwnSet
import Derived.WideShapes
import Derived.Deep.LoopGhost
import Derived.StillTailTactics
import Derived.Deep.Cut
import Derived.Deep.CutRange
import Derived.PlainAid
import Derived.Lib.SlBytesRow
import Derived.Deep.Onto
import Derived.Laws.EntriesVeiled
import Derived.Shelf.SlSortCmp.WholeK
import Derived.Shelf.SlGeneric
import Derived.Ground.SlsfProg
import Derived.Laws.Bits128
import Derived.Deep.RegionWith
import Derived.Deep.RegionHeld3
import Derived.Lib.SmallJoins
import Derived.Deep.RegionLaw
import Derived.Deep.RegionHeld
import Derived.Lib.QuietBelow
import Derived.Stop.Asserts
import Derived.Laws.Externs
import Derived.WalkArith
import Derived.Maps.Views
import Derived.RangeFuncRecord
import Derived.RangeFuncSeq
import Derived.RangeFuncCalls
import Derived.RangeFuncBound
import Derived.OwnWalkIn
import Derived.TacticsInMore
import Derived.Shelf.RegionOpen
import Derived.BigRegion
import Derived.RangeFuncNested
import Derived.RangeFuncIn
import Derived.RangeFuncLeaves
import Derived.Laws.Tables
import Derived.BigFrame
import Derived.StillTail
import Derived.Test.YtkmbkpoclhbmgaaGreatPB1
import Derived.Test.YtkmbkpoclhbmgaaGreatPB2
import Derived.Test.YtkmbkpoclhbmgaaGreatPB5
import Derived.Test.YtkmbkpoclhbmgaaGreatPB6
import Derived.Test.YtkmbkpoclhbmgaaGreatPB7
import Derived.Test.YtkmbkpoclhbmgaaGreatPB9
import Derived.Test.YtkmbkpoclhbmgaaGreatPB11
import Derived.Test.YtkmbkpoclhbmgaaGreatPB13
namespace Go.Proofs.YtkmbkpoclhbmgaaGreat
open Go.RowKit
variable {w w' W V : World}

theorem low_at (N : Int) (k : Nat) : N / 256 ^ k / 256 = N / 256 ^ (k + 1) := by
  rw [Int.ediv_ediv_of_nonneg (Int.pow_nonneg (by decide)), Int.pow_succ]
set_option maxRecDepth 20000 in
set_option maxHeartbeats 1600000 in
theorem low10_any (N : Int) (h0 : 0 ≤ N) (h1 : N < 18446744073709551616) (size : Nat) (hs : size ≤ 8) (w : World) :
    Calls Tryz.prog 91 #[.int .u64 N, .int .i64 size] w fun e w' => NOut w w' (lowB size N) e := by
  go_enter Tryz.func91, Tryz.ntmps91
  go_wp2
  go_loopw [0, 5, 6] (fun vn vb vi wr => ∃ (k : Nat) (q' : Option Addr) (c' : Nat), k ≤ size ∧ vi = .int .i64 (k : Int) ∧ vn = .int .u64 (N / 256 ^ k) ∧ vb = .slice q' k c' ∧ RowTo w wr w.heap.size (.slice none 0 0) (.slice q' k c') (lowB k N)) (fun _ _ vi _ => size - (intOf vi).toNat)
  case atStart => exact ⟨0, none, 0, Nat.zero_le _, rfl, by simp, rfl, RowTo.refl (World.ownsRow_nil _ _ _ _)⟩
  case round =>
    obtain ⟨k, q', c', hk, rfl, rfl, rfl, hr⟩ := hrel
    have RR := Lib.hid hr
    clear hr
    by_cases hlt : k < size
    · have dl : decide ((k : Int) < (size : Int)) = true := by simp; omega
      have dl2 : decide (k < size) = true := by simp; omega
      have k8 : (k : Int) < 8 := by omega
      have hsn := lowB_snoc k N
      have hla := low_at N k
      have hp : (0 : Int) ≤ N / 256 ^ k := Int.ediv_nonneg h0 (Int.pow_nonneg (by decide))
      have hp2 : N / 256 ^ k < 18446744073709551616 := Int.lt_of_le_of_lt (Int.ediv_le_self _ h0) h1
      have SN := Lib.hid hsn
      have LAT := Lib.hid hla
      obtain ⟨M, hM⟩ : ∃ M, M = N / 256 ^ k := ⟨_, rfl⟩
      rw [← hM] at hp hp2 SN LAT ⊢
      have GN := grown1 wr (.cells #[.int .u8 (M % 256)] 5)
      have RP := Lib.hid (RR.out.past GN)
      have IB := Lib.hid (byte_new wr (M % 256))
      have hlk : (lowB k N).length = k := lowB_len _ _
      have HL := Lib.hid hlk
      have BS := Lib.hid (Nat.le_trans RR.out.grown.size GN.size)
      obtain ⟨XS, hXS⟩ : ∃ XS, lowB k N = XS := ⟨_, rfl⟩
      rw [hXS] at RP HL SN
      clear hsn GN hlk hla hM hXS
      go_wp2_with (at_builtin; refine wp_append_to rfl (.tmp 12) (.tmp 16) rfl rfl (v := .slice q' k c') (by rfl) RP.out [M % 256] 1 rfl rfl IB.out (by rw [HL.out]; omega) BS.out ?_)
      intro q2 c2 w2 hr2
      rw [← SN.out] at hr2
      rw [HL.out] at hr2 ⊢
      have R2 := Lib.hid hr2
      clear hr2
      go_wp2
      go_roundw
      case rel => exact ⟨k + 1, q2, c2, hlt, by simp, by rw [← LAT.out], rfl, R2.out⟩
      case measure => simp [intOf]; omega
    · have hks : k = size := by omega
      subst hks
      have dl : decide ((k : Int) < (k : Int)) = false := by simp
      have hle := lowB_len k N
      go_wp2
      go_ret
      refine ⟨⟨q', c', by rw [hle]; rfl, ?_⟩, RR.out.out rfl⟩
      have := RR.out.own
      rw [hle] at this ⊢
      exact this
def entV (p k s d v : Int) : List Int := lowB 4 p ++ (lowB 1 k ++ (lowB 1 s ++ (lowB 2 d ++ lowB 8 v)))
theorem entV_len (p k s d v : Int) : (entV p k s d v).length = 16 := by simp [entV, lowB_len]
set_option maxRecDepth 20000 in
set_option maxHeartbeats 1600000 in
theorem entry10_any (P : Nat) (hP : (P : Int) ≤ 140737488355328) (k : Int) (hk : 0 ≤ k ∧ k < 256) (s : Int) (hs : 0 ≤ s ∧ s < 256) (d : Int) (hd : 0 ≤ d ∧ d < 65536) (v : Int) (hv : 0 ≤ v ∧ v < 18446744073709551616) (w : World) :
    Calls Tryz.prog 57 #[.int .i64 (P : Int), .int .i64 k, .int .i64 s, .int .i64 d, .int .u64 v] w fun e w' => NOut w w' (entV P k s d v) e := by
  have L4 := Lib.hid (show Calls Tryz.prog 91 #[.int .u64 (P : Int), .int .i64 4] w fun e w' => NOut w w' (lowB 4 P) e from low10_any (P : Int) (by omega) (by omega) 4 (by decide) w)
  have L2 := Lib.hid (fun V => (show Calls Tryz.prog 91 #[.int .u64 d, .int .i64 2] V fun e w' => NOut V w' (lowB 2 d) e from low10_any d hd.1 (by omega) 2 (by decide) V))
  have L8 := Lib.hid (fun V => (show Calls Tryz.prog 91 #[.int .u64 v, .int .i64 8] V fun e w' => NOut V w' (lowB 8 v) e from low10_any v hv.1 hv.2 8 (by decide) V))
  have l4 := lowB_len 4 (P : Int)
  have l2 := lowB_len 2 d
  have l8 := lowB_len 8 v
  have hE : entV P k s d v = ((lowB 4 P ++ [k, s]) ++ lowB 2 d) ++ lowB 8 v := by
    have e1 : lowB 1 k = [k] := by rw [lowB, lowB]; congr 1; omega
    have e2 : lowB 1 s = [s] := by rw [lowB, lowB]; congr 1; omega
    unfold entV
    rw [e1, e2]
    simp
  have HE := Lib.hid hE
  have LE := Lib.hid (entV_len P k s d v)
  generalize entV P k s d v = EV at *
  generalize lowB 4 (P : Int) = A4 at *
  generalize lowB 2 d = A2 at *
  generalize lowB 8 v = A8 at *
  have H4 := Lib.hid l4
  have H2 := Lib.hid l2
  have H8 := Lib.hid l8
  obtain ⟨k0, k1⟩ := hk
  obtain ⟨s0, s1⟩ := hs
  obtain ⟨d0, d1⟩ := hd
  have hpw : IntKind.u64.wrap (P : Int) = P := by rw [IntKind.wrap_u64]; omega
  have hdw : IntKind.u64.wrap d = d := by rw [IntKind.wrap_u64]; omega
  clear hE l4 l2 l8 hv
  go_enter Tryz.func57, Tryz.ntmps57
  go_wp2_with fail
  refine L4.out.mono ?_
  rintro e w1 ⟨⟨q1, c1, rfl, h1⟩, hg⟩
  rw [H4.out] at h1 ⊢
  have G1 := Lib.hid hg
  have R1 := Lib.hid (RowTo.past (RowTo.refl (base := w.heap.size) (xs := A4) (v := .slice q1 4 c1) (by rw [H4.out]; exact h1)) (grown1 w1 (.cells #[.int .u8 k, .int .u8 s] 5)))
  have IB := Lib.hid (bytes2_new w1 k s)
  have B1 := Lib.hid (Nat.le_trans hg.size (grown1 w1 (.cells #[.int .u8 k, .int .u8 s] 5)).size)
  have O1 := Lib.hid (fun g (e : (Value.slice q1 4 c1).ownBlock = some g) => (h1.lt g e))
  clear h1 hg
  go_wp2_with (at_builtin; refine wp_append_to rfl (.tmp 14) (.tmp 19) rfl rfl (v := .slice q1 4 c1) (by rfl) R1.out [k, s] 2 rfl rfl IB.out (by rw [H4.out]; decide) B1.out ?_)
  intro q2 c2 w2 hr2
  rw [H4.out] at hr2 ⊢
  obtain ⟨X2, hX2⟩ : ∃ X, A4 ++ [k, s] = X := ⟨_, rfl⟩
  rw [hX2] at hr2
  have HX2 := Lib.hid hX2
  clear hX2
  have R2 := Lib.hid hr2
  have B2 := Lib.hid (Nat.le_trans (Nat.le_trans G1.out.size (Nat.le_refl _)) hr2.grown.size)
  clear hr2
  go_wp2_with fail
  refine (L2.out w2).mono ?_
  rintro e w3 ⟨⟨q3, c3, rfl, h3⟩, hg⟩
  rw [H2.out] at h3 ⊢
  have R3 := Lib.hid (R2.out.past hg)
  have I3 := Lib.hid (IsBytes.of_own H2.out h3)
  have B3 := Lib.hid (Nat.le_trans B2.out hg.size)
  have LN3 := Lib.hid (show X2.length = 6 by rw [← HX2.out, List.length_append, H4.out]; rfl)
  clear h3 hg R2
  go_wp2_with (at_builtin; refine wp_append_to rfl (.tmp 21) (.tmp 24) rfl rfl (v := .slice q2 6 c2) (by rfl) R3.out A2 2 H2.out rfl I3.out (by rw [LN3.out]; decide) B3.out ?_)
  intro q4 c4 w4 hr4
  rw [LN3.out] at hr4 ⊢
  obtain ⟨X4, hX4⟩ : ∃ X, X2 ++ A2 = X := ⟨_, rfl⟩
  rw [hX4] at hr4
  have HX4 := Lib.hid hX4
  clear hX4
  have R4 := Lib.hid hr4
  have B4 := Lib.hid (Nat.le_trans G1.out.size hr4.grown.size)
  clear hr4
  go_wp2_with fail
  refine (L8.out w4).mono ?_
  rintro e w5 ⟨⟨q5, c5, rfl, h5⟩, hg⟩
  rw [H8.out] at h5 ⊢
  have R5 := Lib.hid (R4.out.past hg)
  have I5 := Lib.hid (IsBytes.of_own H8.out h5)
  have B5 := Lib.hid (Nat.le_trans B4.out hg.size)
  have LN5 := Lib.hid (show X4.length = 8 by rw [← HX4.out, List.length_append, LN3.out, H2.out])
  clear h5 hg R4
  go_wp2_with (at_builtin; refine wp_append_to rfl (.tmp 25) (.tmp 27) rfl rfl (v := .slice q4 8 c4) (by rfl) R5.out A8 8 H8.out rfl I5.out (by rw [LN5.out]; decide) B5.out ?_)
  intro q6 c6 w6 hr6
  rw [LN5.out, show X4 ++ A8 = EV by rw [HE.out, ← HX4.out, ← HX2.out]] at hr6
  rw [LN5.out]
  have R6 := Lib.hid hr6
  clear hr6
  go_wp2
  go_ret
  refine ⟨⟨q6, c6, by rw [LE.out]; rfl, ?_⟩, grown_own G1.out R6.out.grown (fun g e => (O1.out g e).1) (Nat.le_refl _)⟩
  have := R6.out.own
  rw [LE.out] at this ⊢
  exact this
end Go.Proofs.YtkmbkpoclhbmgaaGreat


namespace Go.Proofs.YtkmbkpoclhbmgaaGreat
open Go.RowKit
variable {w w' W V : World} {D : Syms}

structure Boxed10 (p : Prop) : Prop where
  out : p
structure MkI (w3 wr : World) (D : Syms) (n : Nat) (vi : Value) : Prop where
  ex : ∃ k : Nat, k ≤ n ∧ vi = .int .i64 (k : Int) ∧ ∀ (i j : Nat) (x y : Sym), i < j → j < k → D[i]? = some x → D[j]? = some y → x.1 ≠ y.1
  grown : w3.grownBy wr none
structure MkJ (w3 wr : World) (D : Syms) (i : Nat) (y : Sym) (vk : Value) : Prop where
  ex : ∃ k : Nat, k ≤ i ∧ vk = .int .i64 (k : Int) ∧ ∀ (j : Nat) (x : Sym), j < k → D[j]? = some x → x.1 ≠ y.1
  grown : w3.grownBy wr none
structure MkL (w wr : World) (D : Syms) (n : Nat) (vt vn vi : Value) : Prop where
  ex : ∃ (k : Nat) (qa : Option Addr) (ca : Nat) (qb : Option Addr) (cb : Nat), k ≤ n ∧ vi = .int .i64 (k : Int) ∧ vt = .slice qa (16 * k) ca ∧ vn = .slice qb (nmB (D.take k)).length cb ∧ Duo w wr (.slice qa (16 * k) ca) (tabS D k) (.slice qb (nmB (D.take k)).length cb) (nmB (D.take k))
theorem ent_is (P : Nat) (x : Sy) : entSy (P : Int) x = entV (P : Int) (kindS x) x.sec (descS x) x.value := rfl
set_option maxRecDepth 20000 in
set_option maxHeartbeats 6400000 in
theorem refMake10_any {q : Option Addr} {n c : Nat} (hn : D.length = n) (hD : SysAt w q D) (hfew : n ≤ 5000) (hm : ∀ y ∈ D, SyFits y.1 y.2) :
    Calls Tryz.prog 23 #[.slice q n c] w fun r w' => MkO w w' D r := by
  have HD := Lib.hid hD
  have HN := Lib.hid hn
  have HM := Lib.hid hm
  clear hD hm hn
  go_enter Tryz.func23, Tryz.ntmps23
  go_wp2
  go_loopw [5] (fun vi wr => Boxed10 (∃ k : Nat, k ≤ n ∧ vi = .int .i64 (k : Int) ∧ w.grownBy wr none ∧ ∀ (i : Nat) (y : Sym), i < k → D[i]? = some y → mayS y.1 y.2 = true)) (fun vi _ => n - (intOf vi).toNat)
  case atStart => exact .mk ⟨0, Nat.zero_le _, rfl, grown_refl _ _, fun i y h => by omega⟩
  case round =>
    obtain ⟨k, hk, rfl, hg, hmay⟩ := hrel.out
    have G := Lib.hid hg
    have MY := Lib.hid hmay
    by_cases hlt : k < n
    · obtain ⟨y, hy⟩ : ∃ y, D[k]? = some y := ⟨_, List.getElem?_eq_getElem (by rw [HN.out]; exact hlt)⟩
      obtain ⟨gq, oq, rfl, a0, a1, a2, a3⟩ := (HD.out.grown hg).at hy
      have hmy := HM.out y (List.mem_of_getElem? hy)
      have M := Lib.hid (refMay10_any (x := y.2) hmy.name hmy.len wr)
      have dl : decide ((k : Int) < (n : Int)) = true := by simp; omega
      have hkI : (k : Int) < (n : Int) := by omega
      obtain ⟨b, hb⟩ : ∃ b, b = mayS y.1 y.2 := ⟨_, rfl⟩
      rw [← hb] at M
      have HB := Lib.hid hb
      have HYY := Lib.hid hy
      unfold syV syArr at M
      clear hg hmay hrel hy hmy hb
      go_wp2_with fail
      refine M.out.mono ?_
      rintro e w2 ⟨rfl, hg⟩
      have G2 := Lib.hid (grown_trans G.out hg)
      clear hg M a0 a1 a2 a3
      cases b
      · have EE := Lib.hid (show mkErr D = 2 by
          unfold mkErr
          rw [if_pos]
          unfold mayAll
          rw [List.all_eq_false]
          exact ⟨y, List.mem_of_getElem? HYY.out, by rw [← HB.out]; decide⟩)
        go_wp2
        go_ret3
        exact MkO.no G2.out EE.out (by decide)
      · have NW := Lib.hid (show Boxed10 (∃ k' : Nat, k' ≤ n ∧ Value.int .i64 ((k : Int) + 1) = .int .i64 (k' : Int) ∧ w.grownBy w2 none ∧ ∀ (i : Nat) (y : Sym), i < k' → D[i]? = some y → mayS y.1 y.2 = true) from .mk ⟨k + 1, hlt, by simp, G2.out, fun i z hi hz => by
          rcases Nat.lt_or_ge i k with h | h
          · exact MY.out i z h hz
          · obtain rfl : i = k := by omega
            rw [HYY.out] at hz
            injection hz with hz
            rw [← hz]; exact HB.out.symm⟩)
        go_wp2
        go_roundw
        case rel => exact NW.out
        case measure => simp [intOf]; omega
    · have hkn : n = k := by omega
      subst hkn
      have dl : decide ((n : Int) < (n : Int)) = false := by simp
      have ALL := Lib.hid (show ∀ y ∈ D, mayS y.1 y.2 = true from fun y hy => by
        obtain ⟨i, hi, rfl⟩ := List.getElem_of_mem hy
        exact hmay i _ (by rw [← HN.out]; exact hi) (List.getElem?_eq_getElem hi))
      have HA := Lib.hid (show mayAll D = true from by
        unfold mayAll
        rw [List.all_eq_true]
        exact ALL.out)
      have g1 := grown1 wr (.cells #[.int .u8 0] 5)
      have s1 : Duo w (wr.alloc (.cells #[.int .u8 0] 5)) (.slice none (16 * 0) 0) (tabS D 0) (.slice (some ⟨wr.heap.size, 0, none⟩) (nmB (D.take 0)).length 1) (nmB (D.take 0)) :=
        ⟨World.ownsRow_nil _ _ _ _, World.ownsRow_lit wr #[.int .u8 0] 1 hg.size (by decide) rfl, fun g hg => (by cases hg), grown_trans hg g1⟩
      have ST := Lib.hid (show MkL w (wr.alloc (.cells #[.int .u8 0] 5)) D n (.slice none 0 0) (.slice (some ⟨wr.heap.size, 0, none⟩) 1 1) (.int .i64 0) from ⟨⟨0, _, _, _, _, Nat.zero_le _, rfl, rfl, rfl, s1⟩⟩)
      clear hg hmay hrel g1 s1 MY G
      go_wp2
      go_loopw [6, 7, 8] (fun vt vn vi wr => MkL w wr D n vt vn vi) (fun _ _ vi _ => n - (intOf vi).toNat)
      case atStart => exact ST.out
      case round =>
        obtain ⟨⟨i, qa, ca, qb, cb, hi, rfl, rfl, rfl, hduo⟩⟩ := hrel
        have DU := Lib.hid hduo
        by_cases hlt : i < n
        · obtain ⟨y, hy⟩ : ∃ y, D[i]? = some y := ⟨_, List.getElem?_eq_getElem (by rw [HN.out]; exact hlt)⟩
          obtain ⟨gq, oq, rfl, a0, a1, a2, a3⟩ := (HD.out.grown hduo.grown).at hy
          have hmy := ALL.out y (List.mem_of_getElem? hy)
          obtain ⟨m1, m2, m3, m4, m5⟩ := mayS_is hmy
          have hfy := HM.out y (List.mem_of_getElem? hy)
          have BY := Lib.hid hfy.name
          have hst : (strOfNums y.1).size = y.1.length := strOfNums_size _
          have TT := Lib.hid (tabS_take hy)
          have NT := Lib.hid (nmB_take hy)
          have nl := nmB_len_le (l := D.take i) (fun y hy => (mayS_is (ALL.out y (List.mem_of_mem_take hy))).2.1)
          rw [List.length_take] at nl
          have dl : decide ((i : Int) < (n : Int)) = true := by simp; omega
          have hiI : (i : Int) < (n : Int) := by omega
          obtain ⟨P, hP⟩ : ∃ P, P = (nmB (D.take i)).length := ⟨_, rfl⟩
          obtain ⟨Tn, hTn⟩ : ∃ T, T = 16 * i := ⟨_, rfl⟩
          have hkd : (decide (0 < y.2.sec) = true ∧ kindS y.2 = 15) ∨ (decide (0 < y.2.sec) = false ∧ kindS y.2 = 3) := by
            unfold kindS
            by_cases h : y.2.sec = 0
            · exact .inr ⟨by simp; omega, by rw [if_pos h]⟩
            · exact .inl ⟨by simp; omega, by rw [if_neg h]⟩
          have hds : (y.2.weak = true ∧ descS y.2 = 128) ∨ (y.2.weak = false ∧ descS y.2 = 0) := by
            unfold descS
            cases y.2.weak
            · exact .inr ⟨rfl, rfl⟩
            · exact .inl ⟨rfl, rfl⟩
          have EN := Lib.hid (fun (V : World) => entry10_any P (by omega) (kindS y.2) (by unfold kindS; split <;> decide) y.2.sec (by omega) (descS y.2) (by unfold descS; split <;> decide) y.2.value hfy.value V)
          rw [hP, ← ent_is, ← hP] at EN
          rw [← hP, ← hTn]
          rw [← hP, ← hTn] at hduo
          obtain ⟨EV, hEV⟩ : ∃ EV, EV = entSy (P : Int) y.2 := ⟨_, rfl⟩
          rw [← hEV] at EN
          have LE := Lib.hid (show EV.length = 16 by rw [hEV]; exact entS_len _ _)
          rw [← hP, ← hEV] at TT
          obtain ⟨TS, hTS⟩ : ∃ TS, TS = tabS D i := ⟨_, rfl⟩
          rw [← hTS] at TT hduo
          have LT := Lib.hid (show TS.length = Tn by rw [hTS, tabS_len, hTn])
          have DD := Lib.hid (show Duo w wr.drew _ _ _ _ from hduo.past (show wr.grownBy wr.drew none from grown_drewN (grown_refl wr none) 1))
          have GR := Lib.hid (show wr.grownBy wr.drew none from grown_drewN (grown_refl wr none) 1)
          have KK := Lib.hid (And.intro hkd hds)
          have HP := Lib.hid hP
          have HT := Lib.hid hTn
          have hPI : (P : Int) ≤ 1400000 := by omega
          have hTI : Tn ≤ 80000 := by omega
          obtain ⟨g', o', e', z0, z1, z2, z3⟩ := HD.out.at hy
          injection e' with e'
          injection e' with e1 e2 _
          subst e1 e2
          have Z0 := Lib.hid z0
          have Z1 := Lib.hid z1
          have Z2 := Lib.hid z2
          clear z0 z1 z2 z3
          clear hduo hy hmy m1 m3 hP hTn hfy DU nl
          rcases hkd with ⟨hk1, hk2⟩ | ⟨hk1, hk2⟩ <;> rcases hds with ⟨hd1, hd2⟩ | ⟨hd1, hd2⟩
          all_goals
            rw [hk2, hd2] at EN
            rw [hd1] at a3
            clear hk2 hd2
            have RC := Lib.hid (RowTo.refl DD.out.a)
            have BC := Lib.hid DD.out.grown.size
            have y1 : wr.drew.cell? ⟨gq, oq + i * 4 + 1, none⟩ = some (.int .i64 y.2.sec) := a1
            have y2 : wr.drew.cell? ⟨gq, oq + i * 4 + 2, none⟩ = some (.int .u64 y.2.value) := a2
            have Y1 := Lib.hid y1
            have Y2 := Lib.hid y2
            go_wp2
            go_region_held3 (fun X => X.cell? ⟨gq, oq + i * 4 + 1, none⟩ = some (.int .i64 y.2.sec) ∧ X.cell? ⟨gq, oq + i * 4 + 2, none⟩ = some (.int .u64 y.2.value))
              (exact ⟨y1, y2⟩)
              (first
                | (go_simp; go_at_call 57; (with_reducible refine (EN.out _).mono ?_); rintro e x1 ⟨⟨qe, ce, rfl, hoe⟩, hge⟩; rw [LE.out] at hoe ⊢; have BE := Lib.hid (IsBytes.of_own LE.out hoe); have RD := Lib.hid (RC.out.past hge); have BD := Lib.hid (Nat.le_trans BC.out hge.size); clear y1 y2; have y1 := grown_cell hge Y1.out; have y2 := grown_cell hge Y2.out)
                | (refine step_append_to (by with_reducible rfl) _ _ (by with_reducible rfl) (by with_reducible rfl) (v := .slice qa Tn ca) (by rfl) RD.out EV 16 LE.out (by rfl) BE.out (by rw [LT.out]; omega) BD.out ?_; intro q2 c2 x2 hr2; rw [LT.out, ← TT.out] at hr2; rw [LT.out]; have D2 := DD.out.step hr2; clear y1 y2; have y1 := grown_cell D2.grown Z1.out; have y2 := grown_cell D2.grown Z2.out))
            have D3 := Lib.hid D2
            have B3 := Lib.hid D2.grown.size
            have RB := Lib.hid (RowTo.refl D2.symm.a)
            have b0 := grown_cell D2.grown Z0.out
            have HPB := Lib.hid (show (nmB (D.take i)).length + y.1.length ≤ 140737488355328 by rw [← HP.out]; omega)
            clear hr2 D2 y1 y2 BE RD BD RC BC DD
            go_wp2_with (at_builtin; refine wp_append_sto rfl (.tmp 60) (.tmp 65) rfl rfl (v := .slice qb P cb) (by rfl) RB.out y.1 BY.out (by rfl) HPB.out B3.out ?_)
            intro q4 c4 w4 hr4
            rw [← HP.out] at hr4 ⊢
            have R4 := Lib.hid (RowTo.past hr4 (grown1 w4 (.cells #[.int .u8 0] 5)))
            have B4 := Lib.hid (Nat.le_trans B3.out (Nat.le_trans hr4.grown.size (grown1 w4 (.cells #[.int .u8 0] 5)).size))
            have IB := Lib.hid (byte_new w4 0)
            have L4 := Lib.hid (show (nmB (D.take i) ++ y.1).length = P + y.1.length by rw [List.length_append, ← HP.out])
            have HP4 := Lib.hid (show (nmB (D.take i) ++ y.1).length + 1 ≤ 140737488355328 by rw [L4.out]; omega)
            clear hr4 b0
            go_wp2_with (at_builtin; refine wp_append_to rfl (.tmp 66) (.tmp 67) rfl rfl (v := .slice q4 (P + y.1.length) c4) (by rfl) R4.out [0] 1 rfl rfl IB.out HP4.out B4.out ?_)
            intro q5 c5 w5 hr5
            rw [← HP.out, ← NT.out] at hr5
            rw [← HP.out]
            have L5 := Lib.hid hr5.len
            have D5 := D3.out.symm.step hr5
            have DE := Lib.hid D5.symm
            clear hr5 D5
            go_wp2
            go_roundw
            case rel => exact ⟨⟨i + 1, q2, c2, q5, c5, hlt, by simp, by rw [HT.out]; rfl, by rw [L5.out], by rw [L5.out, show 16 * (i + 1) = Tn + 16 by rw [HT.out]; omega]; exact DE.out⟩⟩
            case measure => simp [intOf]; omega
        · have hin : n = i := by omega
          subst hin
          have dl : decide ((n : Int) < (n : Int)) = false := by simp
          have htk : nmB (D.take n) = nmB D := by rw [← HN.out, List.take_length]
          rw [htk] at hduo ⊢
          obtain ⟨P, hP⟩ : ∃ P, P = (nmB D).length := ⟨_, rfl⟩
          obtain ⟨Tn, hTn⟩ : ∃ T, T = 16 * n := ⟨_, rfl⟩
          rw [← hP, ← hTn] at hduo ⊢
          have D3 := Lib.hid hduo
          have G3 := Lib.hid hduo.grown
          have HP := Lib.hid hP
          have HT := Lib.hid hTn
          have nl := nmB_len_le (l := D) (fun y hy => (mayS_is (ALL.out y hy)).2.1)
          rw [HN.out, ← hP] at nl
          have hPI : P ≤ 1400000 := by omega
          clear hduo htk hP hTn DU nl
          by_cases h4 : 4096 < n
          · have d4 : decide ((4096 : Int) < (n : Int)) = true := by simp; omega
            have EE := Lib.hid (show mkErr D = 11 by unfold mkErr; rw [if_neg (by rw [HA.out]; decide), if_pos (.inl (by rw [HN.out]; exact h4))])
            clear h4
            go_wp2
            go_ret3
            exact MkO.no G3.out EE.out (by decide)
          · have d4 : decide ((4096 : Int) < (n : Int)) = false := by simp; omega
            by_cases hb : 1048576 < P
            · have db : decide ((1048576 : Int) < (P : Int)) = true := by simp; omega
              have EE := Lib.hid (show mkErr D = 11 by unfold mkErr; rw [if_neg (by rw [HA.out]; decide), if_pos (.inr (by rw [← HP.out]; exact hb))])
              clear h4 hb
              go_wp2
              go_ret3
              exact MkO.no G3.out EE.out (by decide)
            · have db : decide ((1048576 : Int) < (P : Int)) = false := by simp; omega
              have HE := Lib.hid (show mkErr D = if twB D = true then 21 else 0 by unfold mkErr; rw [if_neg (by rw [HA.out]; decide), if_neg (fun h => h.elim (fun h => h4 (by rw [← HN.out]; exact h)) (fun h => hb (by rw [HP.out]; exact h)))])
              have ST3 := Lib.hid (show MkI wr wr D n (.int .i64 0) from ⟨⟨0, Nat.zero_le _, rfl, fun i j x y _ h => by omega⟩, grown_refl _ _⟩)
              clear h4 hb
              go_wp2
              obtain ⟨w3, hw3⟩ : ∃ W, W = wr := ⟨_, rfl⟩
              rw [← hw3] at ST3 G3 D3
              have SD3 := Lib.hid (HD.out.grown G3.out)
              rw [← hw3]
              go_loopw [11] (fun vi wr => MkI w3 wr D n vi) (fun vi _ => n - (intOf vi).toNat)
              case atStart => exact ST3.out
              case round =>
                obtain ⟨⟨k, hk, rfl, hdis⟩, hg⟩ := hrel
                have GG := Lib.hid hg
                have DI := Lib.hid hdis
                by_cases hlt : k < n
                · obtain ⟨y, hy⟩ : ∃ y, D[k]? = some y := ⟨_, List.getElem?_eq_getElem (by rw [HN.out]; exact hlt)⟩
                  have dl : decide ((k : Int) < (n : Int)) = true := by simp; omega
                  have dl2 : decide (k < n) = true := decide_eq_true hlt
                  have hkI : (k : Int) < (n : Int) := by omega
                  have HYY := Lib.hid hy
                  have BYN := Lib.hid (HM.out y (List.mem_of_getElem? hy)).name
                  have STJ := Lib.hid (show MkJ w3 wr D k y (.int .i64 0) from ⟨⟨0, Nat.zero_le _, rfl, fun j x h => by omega⟩, GG.out⟩)
                  clear hg hdis hy
                  go_wp2
                  go_loopw [12] (fun vk wr => MkJ w3 wr D k y vk) (fun vk _ => k - (intOf vk).toNat)
                  case atStart => exact STJ.out
                  case round =>
                    obtain ⟨⟨j, hj, rfl, hno⟩, hgj⟩ := hrel
                    have GJ := Lib.hid hgj
                    have NO := Lib.hid hno
                    by_cases hjk : j < k
                    · obtain ⟨x, hx⟩ : ∃ x, D[j]? = some x := ⟨_, List.getElem?_eq_getElem (by rw [HN.out]; omega)⟩
                      obtain ⟨g1, o1, e1, a0, a1, a2, a3⟩ := (SD3.out.grown hgj).at hx
                      obtain ⟨g2, o2, e2, b0, b1, b2, b3⟩ := (SD3.out.grown hgj).at HYY.out
                      rw [e1] at e2
                      injection e2 with e2
                      injection e2 with e3 e4 _
                      subst e1 e3 e4
                      have dj : decide ((j : Int) < (k : Int)) = true := by simp; omega
                      have dj2 : decide (j < k) = true := decide_eq_true hjk
                      have hjI : (j : Int) < (n : Int) := by omega
                      have ee := text_same (HM.out x (List.mem_of_getElem? hx)).name BYN.out
                      have HXX := Lib.hid hx
                      clear hx hno hgj a1 a2 a3 b1 b2 b3
                      by_cases hs : x.1 = y.1
                      · rw [decide_eq_true hs] at ee
                        have EE := Lib.hid (show mkErr D = 21 by
                          rw [HE.out, if_pos]
                          cases h : twB D with
                          | true => rfl
                          | false =>
                            have hp := twB_no h
                            obtain ⟨h1, r1⟩ := List.getElem?_eq_some_iff.1 HXX.out
                            obtain ⟨h2, r2⟩ := List.getElem?_eq_some_iff.1 HYY.out
                            have := List.pairwise_iff_getElem.1 hp j k h1 h2 hjk
                            rw [r1, r2] at this
                            exact absurd hs this)
                        have GF := Lib.hid (grown_trans G3.out GJ.out)
                        clear hs
                        go_wp2
                        go_quiet (fail)
                        go_wp2
                        go_ret3
                        exact MkO.no (grown_drewN GF.out _) EE.out (by decide)
                      · rw [decide_eq_false hs] at ee
                        have HS := Lib.hid hs
                        have NW := Lib.hid (fun m => (⟨⟨j + 1, hjk, by simp, fun i' z hi hz => by
                          rcases Nat.lt_or_ge i' j with h | h
                          · exact NO.out i' z h hz
                          · obtain rfl : i' = j := by omega
                            rw [HXX.out] at hz
                            injection hz with hz
                            rw [← hz]; exact HS.out⟩, grown_drewN GJ.out m⟩ : MkJ w3 (wr.drewN m) D k y (.int .i64 ((j : Int) + 1))))
                        clear hs
                        go_wp2
                        go_quiet (fail)
                        go_wp2
                        go_roundw
                        case rel => exact NW.out _
                        case measure => simp [intOf]; omega
                    · have hjk2 : j = k := by omega
                      subst hjk2
                      have dj : decide ((j : Int) < (j : Int)) = false := by simp
                      have NW := Lib.hid (show MkI w3 wr D n (.int .i64 ((j : Int) + 1)) from ⟨⟨j + 1, hlt, by simp, fun i1 i2 x z h1 h2 hx hz => by
                        rcases Nat.lt_or_ge i2 j with h | h
                        · exact DI.out i1 i2 x z h1 h hx hz
                        · obtain rfl : i2 = j := by omega
                          rw [HYY.out] at hz
                          injection hz with hz
                          rw [← hz]; exact NO.out i1 x h1 hx⟩, GJ.out⟩)
                      clear hno hgj
                      go_wp2
                      go_roundw
                      case rel => exact NW.out
                      case measure => simp [intOf]; omega
                · have hkn : n = k := by omega
                  subst hkn
                  have dl : decide ((n : Int) < (n : Int)) = false := by simp
                  have EE := Lib.hid (show mkErr D = 0 by
                    rw [HE.out, if_neg]
                    intro h
                    refine twB_yes h (List.pairwise_iff_getElem.2 fun i j hi hj hij => ?_)
                    exact hdis i j _ _ hij (by rw [← HN.out]; exact hj) (List.getElem?_eq_getElem hi) (List.getElem?_eq_getElem hj))
                  have DF := Lib.hid (D3.out.past hg)
                  clear hg hdis
                  go_wp2
                  go_ret3
                  have hd := DF.out
                  obtain rfl := HP.out
                  obtain rfl := HT.out
                  have e1 : mkT D = tabS D n := by unfold mkT; rw [if_pos EE.out, HN.out]
                  have e2 : mkN D = nmB D := by unfold mkN; rw [if_pos EE.out]
                  have tl : (tabS D n).length = 16 * n := tabS_len _ _
                  have ha := hd.a
                  rw [tl] at ha
                  have ca' := own_cap ha
                  have cb' := own_cap hd.b
                  refine ⟨⟨qa, ca, qb, cb, by rw [e1, e2, EE.out, tl]; rfl, ?_, ?_, ?_⟩, hd.grown⟩
                  · rw [e1]; exact IsBytes.of_own tl ha
                  · rw [e2]; exact IsBytes.of_own rfl hd.b
                  · rw [e1, e2, tl]; exact ⟨ca'.1, ca'.2, cb'.1, cb'.2⟩
end Go.Proofs.YtkmbkpoclhbmgaaGreat


namespace Go.Proofs.YtkmbkpoclhbmgaaGreat
open Go.RowKit

def exA : Out := [([97], ⟨1, false, 16, 0, 0, []⟩)]
def syB : Syms := [([98], ⟨1, 4128, false⟩)]
def exB : Out := [([98], ⟨1, false, 32, 0, 0, []⟩)]
def triA : List Int := lastB exA 3
theorem triA_fix : roundsN (plan 257 exA 0 0) 4 = roundsN (plan 257 exA 0 0) 3 := by kernel_rfl
theorem triA_len : triA.length ≤ 1048576 := by decide +kernel
theorem exA_0 : mkE0 exA = 0 := by
  unfold mkE0
  rw [if_pos (by decide +kernel), if_neg (by decide +kernel), if_pos (by simp [exA])]
theorem mkA {E : Int} {B : List Int} (h : MkIs exA E B) : E = 0 ∧ B = triA := by
  obtain ⟨R, t, hp, hu, hf, h1, h2⟩ := h.yes exA_0 (by simp [exA])
  have hR : R = exA := List.perm_singleton.1 hp
  subst hR
  have e : lastB exA t = triA := by
    unfold triA lastB
    rw [rounds_one hf triA_fix]
  rw [e] at h1 h2
  exact h2 triA_len
theorem triA_all : allN triA = (exA, 0) := by kernel_rfl
theorem part_z (Z T B S : List Int) (z : Nat) (hz : Z.length = z) : partN (((Z ++ T) ++ B) ++ S) (z : Int) (T.length : Int) = T ∧ partN (((Z ++ T) ++ B) ++ S) ((z : Int) + (T.length : Int)) (B.length : Int) = B ∧ partN (((Z ++ T) ++ B) ++ S) ((z : Int) + ((T.length : Int) + (B.length : Int))) (S.length : Int) = S := by
  have hl : (((Z ++ T) ++ B) ++ S).length = z + T.length + B.length + S.length := by simp only [List.length_append, hz]
  refine ⟨?_, ?_, ?_⟩
  · rw [partN_in (by unfold withinN; rw [hl]; exact decide_eq_true (by omega)), show (z : Int).toNat = Z.length by rw [hz]; omega]
    simp [List.append_assoc]
  · rw [partN_in (by unfold withinN; rw [hl]; exact decide_eq_true (by omega)), show ((z : Int) + (T.length : Int)).toNat = (Z ++ T).length by rw [List.length_append, hz]; omega]
    rw [List.append_assoc (Z ++ T), List.drop_left]
    simp
  · rw [partN_in (by unfold withinN; rw [hl]; exact decide_eq_true (by omega)), show ((z : Int) + ((T.length : Int) + (B.length : Int))).toNat = ((Z ++ T) ++ B).length by rw [List.length_append, List.length_append, hz]; omega]
    rw [List.drop_left]
    simp
theorem part_tr {T B S : List Int} : partN (plB T B S) 4096 (T.length : Int) = T := (part_z (List.replicate 4096 0) T B S 4096 List.length_replicate).1
theorem part_sy {T B S : List Int} : partN (plB T B S) (4096 + (T.length : Int)) (B.length : Int) = B := (part_z (List.replicate 4096 0) T B S 4096 List.length_replicate).2.1
theorem part_st {T B S : List Int} : partN (plB T B S) (4096 + ((T.length : Int) + (B.length : Int))) (S.length : Int) = S := (part_z (List.replicate 4096 0) T B S 4096 List.length_replicate).2.2
theorem raw_plain (T B S : List Int) : expRaw (plB T B S) (plSt T.length B.length S.length) = if 0 < (T.length : Int) then ((allN T).2, srtN (allN T).1) else if 0 < (B.length : Int) then ((nlAll B S 1).1, srtN ((nlAll B S 1).2.map (symEx 4096))) else (0, []) := by
  unfold expRaw
  simp only [plSt]
  rw [part_tr, part_sy, part_st]
  have e1 : (secN [plSeg] : Int) = 1 := rfl
  have e2 : lowN [plSeg] = 4096 := rfl
  rw [e1, e2]
  rfl
theorem raw_plainF (T B S t : List Int) : expRawF (plB T B S) (plSt T.length B.length S.length) t = if 0 < (T.length : Int) then findW T t else if 0 < (B.length : Int) then ((nlAll B S 1).1, (Named t ((nlAll B S 1).2.map (symEx 4096))).map (·.2)) else (0, none) := by
  unfold expRawF
  simp only [plSt]
  rw [part_tr, part_sy, part_st]
  have e1 : (secN [plSeg] : Int) = 1 := rfl
  have e2 : lowN [plSeg] = 4096 := rfl
  rw [e1, e2]
  rfl
theorem srtN_1 (y : List Int × Ex) : srtN [y] = [y] := by unfold srtN; exact List.mergeSort_singleton y
theorem all_plainA (B S : List Int) : expAll (plB triA B S) (plSt triA.length B.length S.length) 1 = (0, exA) := by
  have r := raw_plain triA B S
  rw [if_pos (by decide +kernel), triA_all] at r
  simp only [exA, srtN_1] at r
  unfold expAll
  rw [r]
  rfl
theorem all_plainB : expAll (plB [] (mkT syB) (mkN syB)) (plSt 0 (mkT syB).length (mkN syB).length) 1 = (0, exB) := by
  unfold expAll
  have r := raw_plain [] (mkT syB) (mkN syB)
  rw [if_neg (by simp), if_pos (by decide +kernel)] at r
  have n : nlAll (mkT syB) (mkN syB) 1 = (0, syB) := by kernel_rfl
  rw [n] at r
  have m : syB.map (symEx 4096) = exB := by kernel_rfl
  simp only [m] at r
  simp only [List.length_nil] at r
  rw [r]
  simp only [exB, srtN_1]
  rfl
end Go.Proofs.YtkmbkpoclhbmgaaGreat


namespace Go.Proofs.YtkmbkpoclhbmgaaGreat
open Go.RowKit
variable {w w' W V : World}

theorem exA_fit : ExsFit exA := by
  refine ⟨?_, ?_, ?_, ?_, ?_⟩ <;> (intro y hy; rw [exA, List.mem_singleton] at hy; subst hy)
  · intro z hz; simp at hz; subst hz; decide
  · intro z hz; cases hz
  · decide
  · decide
  · decide
theorem exA_at (w : World) : ExsAt (w.alloc (.cells #[.string ⟨#[97]⟩, .int .i64 1, .bool false, .int .u64 16, .int .u64 0, .int .u64 0, .string ⟨#[]⟩] 28 (0, 0))) (some ⟨w.heap.size, 0, none⟩) exA := by
  intro i y hy
  rcases i with _ | i
  · injection hy with hy
    subst hy
    refine ⟨_, 0, rfl, fun j hj => ?_⟩
    rw [cell_of (heap_alloc_new w _)]
    rcases (show j = 0 ∨ j = 1 ∨ j = 2 ∨ j = 3 ∨ j = 4 ∨ j = 5 ∨ j = 6 by omega) with rfl | rfl | rfl | rfl | rfl | rfl | rfl <;> rfl
  · simp [exA] at hy
theorem syB_at (w : World) : SysAt (w.alloc (.cells #[.string ⟨#[98]⟩, .int .i64 1, .int .u64 4128, .bool false] 95 (0, 0))) (some ⟨w.heap.size, 0, none⟩) syB := by
  intro i y hy
  rcases i with _ | i
  · injection hy with hy
    subst hy
    refine ⟨_, 0, rfl, fun j hj => ?_⟩
    rw [cell_of (heap_alloc_new w _)]
    rcases (show j = 0 ∨ j = 1 ∨ j = 2 ∨ j = 3 by omega) with rfl | rfl | rfl | rfl <;> rfl
  · simp [syB] at hy
theorem syB_fit : ∀ y ∈ syB, SyFits y.1 y.2 := by
  intro y hy
  rw [syB, List.mem_singleton] at hy
  subst hy
  refine ⟨?_, by decide, by decide, by decide⟩
  intro z hz; simp at hz; subst hz; decide
theorem triA_byt : Byt triA := by
  have h : triA.all (fun z => decide (0 ≤ z) && decide (z < 256)) = true := by decide +kernel
  intro z hz
  have := List.all_eq_true.1 h z hz
  simpa using this
theorem mkT_byt : Byt (mkT syB) := by
  have h : (mkT syB).all (fun z => decide (0 ≤ z) && decide (z < 256)) = true := by decide +kernel
  intro z hz
  have := List.all_eq_true.1 h z hz
  simpa using this
theorem mkN_byt : Byt (mkN syB) := by
  have h : (mkN syB).all (fun z => decide (0 ≤ z) && decide (z < 256)) = true := by decide +kernel
  intro z hz
  have := List.all_eq_true.1 h z hz
  simpa using this
set_option maxRecDepth 20000 in
set_option maxHeartbeats 3200000 in
theorem known11_any (w : World) : Calls Tryz.prog 15 #[] w fun e w' => e = .returned (.bool true) ∧ w.grownBy w' none := by
  have RA := Lib.hid (refMake_any (D := exA) rfl exA_fit (by decide) (by intro y hy; rw [exA, List.mem_singleton] at hy; subst hy; decide) (Nat.le_refl 1) (by decide) (exA_at w))
  have g1 := grown1 w (.cells #[.string ⟨#[97]⟩, .int .i64 1, .bool false, .int .u64 16, .int .u64 0, .int .u64 0, .string ⟨#[]⟩] 28 (0, 0))
  have G1 := Lib.hid g1
  clear g1
  go_enter Tryz.func15, Tryz.ntmps15
  go_upto_region 2 with (go_at_call 11; refine RA.out.mono ?_; rintro e w2 ⟨⟨E, B, q, c, rfl, hm, ho⟩, hg⟩; obtain ⟨rfl, rfl⟩ := mkA hm)
  have BT := Lib.hid (IsBytes.of_own rfl ho)
  have CT := Lib.hid (own_cap2 ho)
  have G2 := Lib.hid (grown_trans G1.out hg)
  clear hm ho hg RA
  have RB := Lib.hid (refMake10_any (D := syB) (w := w2.alloc (.cells #[.string ⟨#[98]⟩, .int .i64 1, .int .u64 4128, .bool false] 95 (0, 0))) (q := some ⟨w2.heap.size, 0, none⟩) (c := 1) rfl (syB_at w2) (by decide) syB_fit)
  have G3 := Lib.hid (grown_trans G2.out (grown1 w2 (.cells #[.string ⟨#[98]⟩, .int .i64 1, .int .u64 4128, .bool false] 95 (0, 0))))
  have S3 := Lib.hid (grown1 w2 (.cells #[.string ⟨#[98]⟩, .int .i64 1, .int .u64 4128, .bool false] 95 (0, 0)))
  obtain ⟨nt, hnt⟩ : ∃ n, n = triA.length := ⟨_, rfl⟩
  rw [← hnt]
  have NT := Lib.hid hnt.symm
  have FT := Lib.hid (show nt ≤ 1000000000 by rw [hnt]; exact Nat.le_trans triA_len (by decide))
  clear hnt
  go_upto_region 3 with (go_at_call 23; refine RB.out.mono ?_; rintro e w4 ⟨⟨qa, ca, qb, cb, rfl, ba, bb, c1, c2, c3, c4⟩, hg⟩)
  obtain ⟨nb, hnb⟩ : ∃ n, n = (mkT syB).length := ⟨_, rfl⟩
  obtain ⟨ns, hns⟩ : ∃ n, n = (mkN syB).length := ⟨_, rfl⟩
  rw [← hnb, ← hns]
  have NB := Lib.hid hnb.symm
  have NS := Lib.hid hns.symm
  have FB := Lib.hid (show nb ≤ 1000000000 by rw [hnb]; decide +kernel)
  have FS := Lib.hid (show ns ≤ 1000000000 by rw [hns]; decide +kernel)
  have BA := Lib.hid ba
  have BB := Lib.hid bb
  have G4 := Lib.hid (grown_trans G3.out hg)
  have BT4 := Lib.hid (BT.out.kept (grown_trans S3.out hg) (by simp))
  have PL := Lib.hid (plain_any (T := triA) (B := mkT syB) (S := mkN syB) NT.out NB.out NS.out BT4.out ba bb ⟨FT.out, FB.out, FS.out⟩ triA_byt mkT_byt mkN_byt)
  have PN := Lib.hid (fun (V : World) (h : w4.grownBy V none) => plain_any (w := V) (T := []) (B := mkT syB) (S := mkN syB) (qt := none) (ct := 0) rfl NB.out NS.out IsBytes.nil (ba.kept h (by simp)) (bb.kept h (by simp)) ⟨by decide, FB.out, FS.out⟩ (fun z hz => by cases hz) mkT_byt mkN_byt)
  clear hnb hns ba bb c1 c2 c3 c4 hg RB S3 BT CT
  go_upto_region 4 with (first
    | (go_at_call 24; refine PL.out.mono ?_; rintro e w5 ⟨⟨q5, c5, x5, qs5, qd5, rfl, hi⟩, hg⟩; rw [NT.out, NB.out, NS.out] at hi ⊢; have I5 := Lib.hid (hi w5 none (grown_refl _ _) (by simp)); have G5 := Lib.hid (grown_trans G4.out hg); have GP := Lib.hid hg; clear hi hg)
    | (refine wpList_alloc rfl 48 _ rfl (img_alloc _) ?_; skip)
    | (refine wpList_store_img (h := ⟨2, 0, 0⟩) (s := plSt nt nb ns) (sv := .slice qs5 1 1) (dv := .slice qd5 1 1) rfl (.tmp 7) (.tmp 31) rfl (by kernel_rfl) (by kernel_rfl) (heap_alloc_new _ _) ⟨_, _, _, rfl⟩ ⟨_, _, _, rfl⟩ ?_))
  obtain ⟨M, hM⟩ : ∃ M, M = w5.heap.size := ⟨_, rfl⟩
  obtain ⟨w6, hw6⟩ : ∃ V, V = (w5.alloc (.cells (imgArr Hx.zero St.zero (.slice none 0 0) (.slice none 0 0)) 48 (0, 0))).setRow w5.heap.size (imgArr ⟨2, 0, 0⟩ (plSt nt nb ns) (.slice qs5 1 1) (.slice qd5 1 1)) := ⟨_, rfl⟩
  have i6 : ImgAt w6 M ⟨2, 0, 0⟩ (plSt nt nb ns) (.slice qs5 1 1) (.slice qd5 1 1) := by
    rw [hw6, hM]
    exact setRow_heap _ _ _ _ _ _ (heap_alloc_new w5 _)
  have g6 : w5.grownBy w6 none := by
    rw [hw6]
    exact grown_new (grown1 _ _) (grown_setRow _ _) (Nat.le_refl _)
  rw [← hw6, ← hM]
  have I6 := Lib.hid i6
  have G6 := Lib.hid (grown_trans G5.out g6)
  have L5 : (plB triA (mkT syB) (mkN syB)).length = 4096 + nt + nb + ns := by
    unfold plB
    simp only [List.length_append, NT.out, NB.out, NS.out, List.length_replicate]
  have EA : Calls Tryz.prog 17 #[.slice q5 (4096 + nt + nb + ns) c5, imgV ⟨2, 0, 0⟩ (plSt nt nb ns) (.slice qs5 1 1) (.slice qd5 1 1)] w6 fun e w' => (∃ q c, e = .returned (.tuple #[.slice q 1 c, .int .i64 0]) ∧ RowEx w' q exA) ∧ w6.grownBy w' none := by
    have := exportAll_any (h := ⟨2, 0, 0⟩) (qd := qd5) (cd := 1) (I5.out.grown g6) L5
    have r := all_plainA (mkT syB) (mkN syB)
    rw [NT.out, NB.out, NS.out] at r
    rw [r] at this
    exact this.mono fun e w' ⟨⟨q, c, h1, h2, _, _⟩, h3⟩ => ⟨⟨q, c, h1, h2⟩, h3⟩
  have EAH := Lib.hid EA
  have P6 := Lib.hid (grown_trans GP.out g6)
  have M5 := Lib.hid (show w5.heap.size = M from hM.symm)
  clear hM hw6 i6 g6 L5 EA PL I5
  go_upto_region 5 with (first
    | (refine wpList_load_imgI rfl (.tmp 7) rfl (by kernel_rfl) I6.out ?_)
    | (go_at_call 17; refine EAH.out.mono ?_; rintro e w7 ⟨⟨q7, c7, rfl, r7⟩, hg⟩))
  have GP7 := Lib.hid (grown_trans G6.out hg)
  have I7 := Lib.hid (I6.out.kept hg (by simp))
  have R7 := Lib.hid r7
  have PN7 := Lib.hid (PN.out w7 (grown_trans P6.out hg))
  obtain ⟨g7, eq7, hc7⟩ := r7 0 _ rfl
  have M7 : g7 ≠ M := fun e => by
    have h1 := hc7 0 (by decide)
    rw [e, Nat.zero_mul, Nat.zero_add, cell_of (I6.out.kept hg (by simp))] at h1
    cases h1
  subst eq7
  have C7 := Lib.hid hc7
  have M7H := Lib.hid M7
  have M7L := Lib.hid (show M < w7.heap.size from lt_of_block (I6.out.kept hg (by simp)))
  clear hg r7 EAH hc7 M7
  go_upto_region 6 with (first
    | (go_at_call 24; refine PN7.out.mono ?_; rintro e w8 ⟨⟨q8, c8, x8, qs8, qd8, rfl, hi⟩, hg⟩; rw [NB.out, NS.out] at hi ⊢; simp only [List.length_nil] at hi ⊢; have I8 := Lib.hid hi; have S8 := Lib.hid (hg.size); have G8 := Lib.hid hg; have J8 := Lib.hid (I7.out.kept hg (by simp)); clear hi hg)
    | (refine wpList_store_img (g := M) (h := ⟨2, 0, 0⟩) (s := plSt 0 nb ns) (sv := .slice qs8 1 1) (dv := .slice qd8 1 1) rfl (.tmp 7) (.tmp 43) rfl (by kernel_rfl) (by kernel_rfl) J8.out ⟨_, _, _, rfl⟩ ⟨_, _, _, rfl⟩ ?_))
  obtain ⟨w9, hw9⟩ : ∃ V, V = w8.setRow M (imgArr ⟨2, 0, 0⟩ (plSt 0 nb ns) (.slice qs8 1 1) (.slice qd8 1 1)) := ⟨_, rfl⟩
  have i9 : ImgAt w9 M ⟨2, 0, 0⟩ (plSt 0 nb ns) (.slice qs8 1 1) (.slice qd8 1 1) := by rw [hw9]; exact J8.out.put
  have g9 : w8.grownBy w9 (some M) := by rw [hw9]; exact grown_setRow _ _
  rw [← hw9]
  have I9 := Lib.hid i9
  have G9 := Lib.hid (show w.grownBy w9 none from grown_new (grown_trans GP7.out G8.out) g9 (by
    have := G5.out.size
    have := M5.out
    omega))
  have L9 : (plB [] (mkT syB) (mkN syB)).length = 4096 + nb + ns := by
    unfold plB
    simp only [List.length_append, NB.out, NS.out, List.length_replicate, List.length_nil, Nat.add_zero]
  have EB : Calls Tryz.prog 17 #[.slice q8 (4096 + nb + ns) c8, imgV ⟨2, 0, 0⟩ (plSt 0 nb ns) (.slice qs8 1 1) (.slice qd8 1 1)] w9 fun e w' => (∃ q c, e = .returned (.tuple #[.slice q 1 c, .int .i64 0]) ∧ RowEx w' q exB) ∧ w9.grownBy w' none := by
    have := exportAll_any (h := ⟨2, 0, 0⟩) (qd := qd8) (cd := 1) (I8.out w9 (some M) g9 (fun a e => by injection e with e; subst e; exact M7L.out)) L9
    have r := all_plainB
    rw [NB.out, NS.out] at r
    rw [r] at this
    exact this.mono fun e w' ⟨⟨q, c, h1, h2, _, _⟩, h3⟩ => ⟨⟨q, c, h1, h2⟩, h3⟩
  have EBH := Lib.hid EB
  have C9 := Lib.hid (fun j (hj : j < 7) => (by
    have h1 := C7.out j hj
    have h2 : (outCs ([97], (⟨1, false, 16, 0, 0, []⟩ : Ex)))[j]? = some ((outCs ([97], (⟨1, false, 16, 0, 0, []⟩ : Ex)))[j]'hj) := List.getElem?_eq_getElem _
    rw [h2] at h1
    rw [h2]
    exact g9.cell (grown_cell G8.out h1) (fun e => M7H.out (by injection e)) : w9.cell? ⟨g7, 0 * 7 + j, none⟩ = (outCs ([97], (⟨1, false, 16, 0, 0, []⟩ : Ex)))[j]?))
  clear L9 EB hw9 i9 g9
  go_upto_region 7 with (first
    | (refine wpList_load_imgI rfl (.tmp 7) rfl (by kernel_rfl) I9.out ?_)
    | (go_at_call 17; refine EBH.out.mono ?_; rintro e w10 ⟨⟨q10, c10, rfl, r10⟩, hg⟩))
  obtain ⟨g10, eq10, hc10⟩ := r10 0 _ rfl
  subst eq10
  have a0 := hc10 0 (by decide)
  have a1 := hc10 1 (by decide)
  have a2 := hc10 2 (by decide)
  have a3 := hc10 3 (by decide)
  have a4 := hc10 4 (by decide)
  have a5 := hc10 5 (by decide)
  have a6 := hc10 6 (by decide)
  have b0 := grown_cell hg ((C9.out 0 (by decide)).trans rfl : w9.cell? ⟨g7, 0 * 7 + 0, none⟩ = some (.string ⟨#[97]⟩))
  rw [Nat.zero_mul, Nat.zero_add] at a0 a1 a2 a3 a4 a5 a6 b0
  replace a0 : w10.cell? ⟨g10, 0, none⟩ = some (.string ⟨#[98]⟩) := a0
  replace a1 : w10.cell? ⟨g10, 1, none⟩ = some (.int .i64 1) := a1
  replace a2 : w10.cell? ⟨g10, 2, none⟩ = some (.bool false) := a2
  replace a3 : w10.cell? ⟨g10, 3, none⟩ = some (.int .u64 32) := a3
  replace a4 : w10.cell? ⟨g10, 4, none⟩ = some (.int .u64 0) := a4
  replace a5 : w10.cell? ⟨g10, 5, none⟩ = some (.int .u64 0) := a5
  replace a6 : w10.cell? ⟨g10, 6, none⟩ = some (.string ⟨#[]⟩) := a6
  have G10 := Lib.hid (grown_trans G9.out hg)
  clear hg hc10 r10 EBH
  go_wp2
  go_ret
  exact ⟨rfl, G10.out⟩
end Go.Proofs.YtkmbkpoclhbmgaaGreat


namespace Go.Proofs.YtkmbkpoclhbmgaaGreat
theorem byt_app {a b : List Int} (h : Byt a) (k : Byt b) : Byt (a ++ b) := fun x hx => by
  rcases List.mem_append.1 hx with e | e
  · exact h x e
  · exact k x e
theorem byt_enc (n : Nat) : Byt (encU n) := encU_bytes n
theorem byt_one {x : Int} (h : 0 ≤ x ∧ x < 256) : Byt [x] := fun y hy => by rw [List.mem_singleton] at hy; subst hy; exact h
theorem byt_said {x : Ex} (h : Byt x.other) : Byt (saidB x) := by
  unfold saidB
  refine byt_app (byt_enc _) ?_
  split
  · exact byt_app (byt_enc _) (byt_app h (byt_one (by decide)))
  · split
    · exact byt_app (byt_enc _) (byt_enc _)
    · exact byt_enc _
theorem byt_front {x : Option Ex} (h : ∀ y, x = some y → Byt y.other) : Byt (frontB x) := by
  cases x with
  | none => exact byt_one (by decide)
  | some y => exact byt_app (byt_enc _) (byt_said (h y rfl))
theorem byt_node {nd : PN} {pl : List Nat} (h : PnOk nd) : Byt (nodeB pl nd) := by
  unfold nodeB
  refine byt_app (byt_front fun y hy => (h.says y hy).other) (byt_app (byt_one (by have := kids_few h; omega)) ?_)
  intro z hz
  obtain ⟨k, hk, hz⟩ := List.mem_flatMap.1 hz
  unfold kidB at hz
  exact byt_app (byt_app (h.edge k hk).byt (byt_one (by decide))) (byt_enc _) z hz
theorem byt_lay {nodes : List PN} {pl : List Nat} (h : ∀ nd ∈ nodes, PnOk nd) : Byt (layB pl nodes) := by
  intro z hz
  obtain ⟨nd, hn, hz⟩ := List.mem_flatMap.1 hz
  exact byt_node (h nd hn) z hz
theorem byt_made {D : Out} {E : Int} {B : List Int} (h : MkIs D E B) (f : ExsFit D) : Byt B := by
  by_cases h0 : mkE0 D = 0
  · by_cases hn : D = []
    · rw [(h.nil hn).2]; intro x hx; cases hx
    · obtain ⟨R, t, p, u, _, a, b⟩ := h.yes h0 hn
      obtain ⟨m1, m2, m3⟩ := mkE0_0 h0
      rcases Nat.lt_or_ge 1048576 (lastB R t).length with hl | hl
      · rw [(a hl).2]; intro x hx; cases hx
      · rw [(b hl).2]
        have hok := f.ok m1
        have hR : R ≠ [] := fun e => hn (by subst e; exact p.symm.eq_nil)
        exact byt_lay (plan_ok 257 R [] 0 hR u.rise fun y hy => hok y (p.mem_iff.1 hy))
  · rw [(h.no h0).2]; intro x hx; cases hx
structure OneT (y : List Int × Ex) (B : List Int) : Prop where
  byt : Byt B
  ne : 0 < (B.length : Int)
  all : allN B = ([y], 0)
  find : findW B y.1 = (0, some y.2)
  res : ResOk y.2
theorem oneT {y : List Int × Ex} {B : List Int} (h : MkIs [y] 0 B) (f : ExsFit [y]) : OneT y B := by
  obtain ⟨R, hp, hu, ha⟩ := mkIs_all h f (by simp)
  have hR : R = [y] := List.perm_singleton.1 hp
  subst hR
  have hb := byt_made h f
  have hne : B ≠ [] := fun e => by
    subst e
    have : allN [] = ([], 0) := rfl
    rw [this] at ha
    injection ha with ha _
    cases ha
  have W := whole_of hb (out := [y]) (by
    have AW := allN_walk B
    obtain ⟨⟨er, out⟩, hw⟩ : ∃ r, r = walkN B mtAll [] := ⟨_, rfl⟩
    rw [← hw] at AW
    rw [ha] at AW
    by_cases he : er = 0
    · rw [if_neg (by simp [he])] at AW
      injection AW with a1 a2
      subst he
      simp only [] at a1
      rw [← hw, ← a1]
    · rw [if_pos he] at AW
      injection AW with a1 a2
      cases a1)
  refine ⟨hb, ?_, ha, W.of_mem (by simp), ?_⟩
  · have := List.length_pos_iff.2 hne; omega
  · have := all_res B y (by rw [ha]; simp)
    exact this
end Go.Proofs.YtkmbkpoclhbmgaaGreat


namespace Go.Proofs.YtkmbkpoclhbmgaaGreat
def wantN (x : Ex) : Int :=
  if x.kind = 1 then (if 4096 ≤ x.value then 4 else 0) else if x.kind = 4 then (if 4096 ≤ x.value ∨ 4096 ≤ x.resolver then 4 else 0) else if x.kind = 3 then (if x.ordinal ≠ 1 then 22 else 0) else 0
theorem may_want {nt nb ns : Nat} {x : Ex} (h : ResOk x) : expMay (plSt nt nb ns) 1 x = wantN x := by
  unfold expMay wantN
  have hl : longN (plSt nt nb ns) = 4096 := rfl
  rw [hl]
  by_cases k1 : x.kind = 1
  · have hr := h.1 k1
    rw [if_pos k1]
    by_cases hv : 4096 ≤ x.value
    · rw [if_pos ⟨.inl k1, .inl hv⟩, if_pos hv]
    · rw [if_neg (by omega), if_neg (by omega), if_neg hv]
  · rw [if_neg k1]
    by_cases k4 : x.kind = 4
    · rw [if_pos k4]
      by_cases hv : 4096 ≤ x.value ∨ 4096 ≤ x.resolver
      · rw [if_pos ⟨.inr k4, hv⟩, if_pos hv]
      · rw [if_neg (by omega), if_neg (by omega), if_neg hv]
    · rw [if_neg k4, if_neg (by omega)]
      by_cases k3 : x.kind = 3
      · rw [if_pos k3]
        by_cases ho : x.ordinal ≠ 1
        · rw [if_pos ⟨k3, by omega⟩, if_pos ho]
        · rw [if_neg (by omega), if_neg ho]
      · rw [if_neg (by omega), if_neg k3]
theorem all_one1 {y : List Int × Ex} {B : List Int} (h : OneT y B) : expAll (plB B [] []) (plSt B.length 0 0) 1 = if wantN y.2 ≠ 0 then (wantN y.2, []) else (0, [y]) := by
  have r := raw_plain B [] []
  rw [if_pos h.ne, h.all] at r
  simp only [srtN_1, List.length_nil] at r
  unfold expAll
  rw [r]
  simp only [expErr, may_want h.res]
  by_cases hw : wantN y.2 = 0
  · simp [hw]
  · simp [hw]
theorem find_one1 {y : List Int × Ex} {B : List Int} (h : OneT y B) : expFind (plB B [] []) (plSt B.length 0 0) 1 y.1 = if wantN y.2 ≠ 0 then (wantN y.2, none) else (0, some y.2) := by
  have r := raw_plainF B [] [] y.1
  rw [if_pos h.ne, h.find] at r
  simp only [List.length_nil] at r
  unfold expFind
  rw [r]
  simp only [may_want h.res]
  by_cases hw : wantN y.2 = 0
  · simp [hw]
  · simp [hw]
end Go.Proofs.YtkmbkpoclhbmgaaGreat


namespace Go.Proofs.YtkmbkpoclhbmgaaGreat
open Go.RowKit Go.ChangeShapes Go.WideShapes Go.Deep
variable {w w' : World}

structure ExFits (nm : List Int) (x : Ex) : Prop where
  name : Byt nm
  len : nm.length ≤ 9223372036854775807
  other : Byt x.other
  olen : x.other.length ≤ 9223372036854775807
  kind : -9223372036854775808 ≤ x.kind ∧ x.kind ≤ 9223372036854775807
  value : 0 ≤ x.value ∧ x.value < 18446744073709551616
  resolver : 0 ≤ x.resolver ∧ x.resolver < 18446744073709551616
  ordinal : 0 ≤ x.ordinal ∧ x.ordinal < 18446744073709551616
set_option maxRecDepth 20000 in
theorem open_exc {H : Type} {enc : TypeId × Value → H} {base : Nat} {spare : Nat → Bool} {held : Bool} {fuel : Nat} {cs : List Value} {y : DataW H × List MemPlace}
    (hl : cs.length = 7) (h : DataW.trod enc Tryz.prog w base spare held fuel 28 cs = some y) : ∃ nm x, ExFits nm x ∧ cs = exCs (strOfNums nm) x := by
  obtain ⟨xs, n, _, _, _, hxl, hf⟩ := DataW.trod_struct Tryz.underlying28 h
  have q0 : Tryz.prog.cellsOf 9 = 1 := by kernel_rfl
  have q1 : Tryz.prog.cellsOf 25 = 1 := by kernel_rfl
  have q2 : Tryz.prog.cellsOf 4 = 1 := by kernel_rfl
  have q3 : Tryz.prog.cellsOf 26 = 1 := by kernel_rfl
  match cs, hl with
  | [c0, c1, c2, c3, c4, c5, c6], _ =>
    have g0 : DataW.trod enc Tryz.prog w base spare held n 9 (([c0, c1, c2, c3, c4, c5, c6].drop 0).take (Tryz.prog.cellsOf 9)) = xs[0]? := hf 0 _ rfl
    have g1 : DataW.trod enc Tryz.prog w base spare held n 25 (([c0, c1, c2, c3, c4, c5, c6].drop 1).take (Tryz.prog.cellsOf 25)) = xs[1]? := hf 1 _ rfl
    have g2 : DataW.trod enc Tryz.prog w base spare held n 4 (([c0, c1, c2, c3, c4, c5, c6].drop 2).take (Tryz.prog.cellsOf 4)) = xs[2]? := hf 2 _ rfl
    have g3 : DataW.trod enc Tryz.prog w base spare held n 26 (([c0, c1, c2, c3, c4, c5, c6].drop 3).take (Tryz.prog.cellsOf 26)) = xs[3]? := hf 3 _ rfl
    have g4 : DataW.trod enc Tryz.prog w base spare held n 26 (([c0, c1, c2, c3, c4, c5, c6].drop 4).take (Tryz.prog.cellsOf 26)) = xs[4]? := hf 4 _ rfl
    have g5 : DataW.trod enc Tryz.prog w base spare held n 26 (([c0, c1, c2, c3, c4, c5, c6].drop 5).take (Tryz.prog.cellsOf 26)) = xs[5]? := hf 5 _ rfl
    have g6 : DataW.trod enc Tryz.prog w base spare held n 9 (([c0, c1, c2, c3, c4, c5, c6].drop 6).take (Tryz.prog.cellsOf 9)) = xs[6]? := hf 6 _ rfl
    have lx : xs.length = 7 := hxl
    rw [List.getElem?_eq_getElem (by omega)] at g0 g1 g2 g3 g4 g5 g6
    rw [q0] at g0 g6
    rw [q1] at g1
    rw [q2] at g2
    rw [q3] at g3 g4 g5
    obtain ⟨s0, e0, _, l0⟩ := DataW.trod_string Tryz.underlying9 g0
    obtain ⟨n1, e1, _, w1⟩ := DataW.trod_int Tryz.underlying25 g1
    obtain ⟨b2, e2, _⟩ := DataW.trod_bool Tryz.underlying4 g2
    obtain ⟨n3, e3, _, w3⟩ := DataW.trod_int Tryz.underlying26 g3
    obtain ⟨n4, e4, _, w4⟩ := DataW.trod_int Tryz.underlying26 g4
    obtain ⟨n5, e5, _, w5⟩ := DataW.trod_int Tryz.underlying26 g5
    obtain ⟨s6, e6, _, l6⟩ := DataW.trod_string Tryz.underlying9 g6
    simp at e0 e1 e2 e3 e4 e5 e6
    subst e0 e1 e2 e3 e4 e5 e6
    obtain ⟨t0, b0, m0, rfl⟩ := ex_text s0 l0
    obtain ⟨t6, b6, m6, rfl⟩ := ex_text s6 l6
    exact ⟨t0, ⟨n1, b2, n3, n4, n5, t6⟩, ⟨b0, m0, b6, m6, i64_range w1, u64_range w3, u64_range w4, u64_range w5⟩, rfl⟩
set_option maxRecDepth 20000 in
theorem open_ex {H : Type} {enc : TypeId × Value → H} {r : Reach} {base b0 : Nat} {spare : Nat → Bool} {held : Bool} {v : Value} {d : DataW H} {p : List MemPlace}
    (hv : Value.okWide Tryz.prog w r b0 28 v) (h : DataW.Trod enc Tryz.prog w base spare held 28 v d p) : ∃ nm x, ExFits nm x ∧ v = exV (strOfNums nm) x := by
  obtain ⟨cs, rfl, hsz⟩ := okWide_struct Tryz.underlying28 hv
  obtain ⟨fuel, hf⟩ := h
  have hc : Tryz.prog.cellsOf 28 = 7 := by kernel_rfl
  obtain ⟨nm, x, hx, he⟩ := open_exc (by simp [Value.cells, hsz, hc]) hf
  refine ⟨nm, x, hx, ?_⟩
  unfold exV exArr
  congr 1
  apply Array.toList_inj.1
  simpa [Value.cells, exCs] using he
end Go.Proofs.YtkmbkpoclhbmgaaGreat

