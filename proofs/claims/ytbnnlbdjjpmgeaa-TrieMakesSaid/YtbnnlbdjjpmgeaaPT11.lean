/- Parts of the proof, put together: RMk, TrieMakesWalk. No condition beyond those that each part names. -/
import Derived.Shelf.Small.Bits
import Derived.Shelf.Small.Strs
import Derived.Shelf.Strconv.Itoa0
import Derived.Shelf.Strings.Search1
import Derived.Shelf.Bytes.SlIndexAt
import Derived.Shelf.Bytes.SlSearch0
import Derived.Ground.SlbCloneProg
import Derived.Shelf.Bytes.SlClone
import Derived.Shelf.Bytes.IndexByte
import Derived.Test.YtbnnlbdjjpmgeaaProg
import Derived.Test.YtbnnlbdjjpmgeaaRows
import Derived.WalkKit
import Derived.WalkSpells
import Derived.WalkLawsBesides
import Derived.BigQuiet
import Derived.Deep.QuietTactic
import Derived.Lib.Hide
import Derived.IntWalk
import Derived.OneCell
import Derived.Laws.Rows
import Derived.OpenShut
import Derived.ProofKit
import Derived.Lib.EndianBits
import Derived.RegionTactic
import Derived.ChangeAlike
import Derived.WalkMore
import Derived.Laws.BytesArg
import Derived.Shelf.Bytes.SlEqualAll
import Derived.Lib.SlFresh
import Derived.Maps.AppendAt
import Derived.Deep.AppendSrc
import Derived.Deep.Upon
import Derived.Lib.AppendZeros
import Derived.Laws.IdiomStrings
import Derived.Lib.AppendZerosOnto
import Derived.Laws.StructEq
import Derived.Below
import Derived.Shelf.Abstract
import Derived.Laws.ResultCell
import Derived.Deep.Slices
import Derived.ChangeSame
import Derived.Laws.OwnMore
import Derived.Laws.Slices
import Derived.Lib.ConvBytes
import Derived.StringKeys
import Derived.Maps.Own
import Derived.Maps.OwnOps
import Derived.Maps.OwnSet
import Derived.WideShapes
import Derived.Deep.Cut
import Derived.Deep.CutRange
import Derived.PlainAid
import Derived.Lib.SlBytesRow
import Derived.Deep.Onto
import Derived.Laws.EntriesVeiled
import Derived.Shelf.SlSortCmp.WholeK
import Derived.Shelf.SlGeneric
import Derived.Ground.SlsfProg
import Derived.Deep.LoopGhost
import Derived.StillTailTactics
import Derived.Deep.RegionWith
import Derived.Deep.RegionHeld3
import Derived.Lib.SmallJoins
import Derived.Laws.Bits128
import Derived.RangeFuncNested
import Derived.RangeFuncBound
import Derived.RangeFuncCalls
import Derived.Shelf.RegionOpen
import Derived.OwnWalkIn
import Derived.TacticsInMore
import Derived.RangeFuncIn
import Derived.RangeFuncLeaves
import Derived.Maps.OwnIn
import Derived.Laws.MakeOwn
import Derived.Deep.RegionLaw
import Derived.BigRegion
import Derived.Deep.RegionHeld
import Derived.Lib.QuietBelow
import Derived.Test.YtbnnlbdjjpmgeaaPT1
import Derived.Test.YtbnnlbdjjpmgeaaPT2
import Derived.Test.YtbnnlbdjjpmgeaaPT3
import Derived.Test.YtbnnlbdjjpmgeaaPT4
import Derived.Test.YtbnnlbdjjpmgeaaPT5
import Derived.Test.YtbnnlbdjjpmgeaaPT7
import Derived.Test.YtbnnlbdjjpmgeaaPT9
import Derived.Test.YtbnnlbdjjpmgeaaPT10
namespace Go.Proofs.Ytbnnlbdjjpmgeaa
open Go.RowKit
variable {w w' W V : World}

structure RmA (w wr : World) (D : Out) (n : Nat) (v4 : Value) : Prop where
  ex : ∃ k : Nat, k ≤ n ∧ v4 = .int .i64 (k : Int) ∧ ∀ i y, i < k → D[i]? = some y → mayE y.1 y.2 = true
  grown : w.grownBy wr none
structure RmB (w wr : World) (R : Out) (n : Nat) (v5 : Value) : Prop where
  ex : ∃ i : Nat, 1 ≤ i ∧ i ≤ n ∧ v5 = .int .i64 (i : Int) ∧ ∀ j a b, j + 1 < i → R[j]? = some a → R[j + 1]? = some b → a.1 ≠ b.1
  grown : w.grownBy wr none
set_option maxRecDepth 20000 in
set_option maxHeartbeats 40000000 in
theorem refMake_any {D : Out} {n : Nat} (hn : D.length = n) (hfit : ExsFit D) (hbig : n ≤ 1000000) (hlen : ∀ y ∈ D, y.1.length ≤ 9223372036854775807 ∧ y.2.other.length ≤ 9223372036854775807) {q : Option Addr} {c : Nat} (hc : n ≤ c) (hcm : c ≤ 9223372036854775807) (h : ExsAt w q D) :
    Calls Try.prog 7 #[.slice q n c] w fun e w' => RmO w w' D e := by
  have HN := Lib.hid hn
  have HF := Lib.hid hfit
  have HL := Lib.hid hlen
  have HE := Lib.hid h
  clear hn hfit hlen h
  go_enter Try.func7, Try.ntmps7
  go_wp2
  go_loopw [4] (fun v4 wr => RmA w wr D n v4) (fun v4 _ => n - (intOf v4).toNat)
  case atStart => exact ⟨⟨0, Nat.zero_le _, rfl, fun i y h => by omega⟩, grown_refl _ _⟩
  case round =>
    obtain ⟨⟨k, hk, rfl, hmay⟩, hg⟩ := hrel
    have G := Lib.hid hg
    have MY := Lib.hid hmay
    clear hmay
    by_cases hlt : k < n
    · obtain ⟨y, hy⟩ : ∃ y, D[k]? = some y := ⟨_, List.getElem?_eq_getElem (by rw [HN.out]; exact hlt)⟩
      obtain ⟨ga, oa, rfl, a0, a1, a2, a3, a4, a5, a6⟩ := (HE.out.grown hg).at hy
      have hym := List.mem_of_getElem? hy
      have hyl := HL.out y hym
      have M := Lib.hid (refMay_any (HF.out.name y hym) (HF.out.other y hym) hyl.1 hyl.2 wr)
      have dl : decide ((k : Int) < (n : Int)) = true := by simp; omega
      have hkI : (k : Int) < (n : Int) := by omega
      obtain ⟨b, hb⟩ : ∃ b, b = mayE y.1 y.2 := ⟨_, rfl⟩
      rw [← hb] at M
      have HB := Lib.hid hb
      have HY := Lib.hid hy
      unfold exV exArr at M
      clear hg hy hym hyl hb
      go_wp2_with fail
      refine M.out.mono ?_
      rintro e w2 ⟨rfl, hg⟩
      have G2 := Lib.hid (grown_trans G.out hg)
      clear hg M a0 a1 a2 a3 a4 a5 a6
      cases b
      · have EE := Lib.hid (show mkE0 D = 2 by
          unfold mkE0
          rw [if_neg]
          intro h
          unfold mayAllE at h
          rw [List.all_eq_true] at h
          have := h y (List.mem_of_getElem? HY.out)
          rw [← HB.out] at this
          cases this)
        go_wp2
        go_ret2
        exact RmO.no EE.out (by decide) G2.out
      · go_wp2
        go_roundw
        case rel => exact ⟨⟨k + 1, hlt, by go_num, fun i z hi hz => by
          rcases Nat.lt_or_ge i k with h | h
          · exact MY.out i z h hz
          · obtain rfl : i = k := by omega
            rw [HY.out] at hz
            injection hz with hz
            rw [← hz]; exact HB.out.symm⟩, G2.out⟩
        case measure => simp [intOf]; omega
    · have hkn : n = k := by omega
      subst hkn
      have dl : decide ((n : Int) < (n : Int)) = false := by simp
      have ALL := Lib.hid (show mayAllE D = true from by
        unfold mayAllE
        rw [List.all_eq_true]
        intro y hy
        obtain ⟨i, hi, rfl⟩ := List.getElem_of_mem hy
        exact MY.out i _ (by rw [← HN.out]; exact hi) (List.getElem?_eq_getElem hi))
      clear hk hlt MY
      by_cases h4 : 4096 < n
      · have d4 : decide ((4096 : Int) < (n : Int)) = true := by simp; omega
        have EE := Lib.hid (show mkE0 D = 11 by unfold mkE0; rw [if_pos ALL.out, if_pos (by rw [HN.out]; exact h4)])
        clear h4
        go_wp2
        go_ret2
        exact RmO.no EE.out (by decide) G.out
      have d4 : decide ((4096 : Int) < (n : Int)) = false := by simp; omega
      by_cases h0 : n = 0
      · have d0 : (((n : Nat) : Int) == 0) = true := by rw [h0]; rfl
        have EE := Lib.hid (show RmO w wr D (.returned (.tuple #[.slice none 0 0, .int .i64 0])) from ⟨⟨0, [], none, 0, rfl, by
          have : D = [] := List.eq_nil_of_length_eq_zero (by rw [HN.out]; exact h0)
          rw [this]
          exact mkIs_nil, World.ownsRow_nil _ _ _ _⟩, hg⟩)
        clear h0 hg
        go_wp2
        go_ret2
        exact EE.out
      have d0 : (((n : Nat) : Int) == 0) = false := by simp; omega
      have SO := Lib.hid (sorted_any n D q c wr HN.out (by omega) hc hcm (HE.out.grown hg))
      clear hg
      go_wp2_with fail
      refine SO.out.mono ?_
      rintro e w2 ⟨⟨R, v, rfl, ho, hp, hs⟩, hg⟩
      have G2 := Lib.hid (grown_trans G.out hg)
      have hRn : R.length = n := by rw [hp.length_eq, HN.out]
      rw [hRn] at ho
      obtain ⟨q2, c2, rfl⟩ := own_slice ho
      have R2 := Lib.hid (RowEx.of ho).exs
      have PS := Lib.hid (And.intro hp hs)
      have RN := Lib.hid hRn
      have RB := Lib.hid (fun y hy => HF.out.name y (hp.mem_iff.1 hy) : ∀ y ∈ R, Byt y.1)
      clear ho hp hs hg hRn SO
      go_wp2
      go_loopw [5] (fun v5 wl => RmB w2 wl R n v5) (fun v5 _ => n + 1 - (intOf v5).toNat)
      case atStart => exact ⟨⟨1, Nat.le_refl _, by omega, rfl, fun j a b h => by omega⟩, grown_refl _ _⟩
      case round =>
        obtain ⟨⟨i, h1, hi, rfl, hno⟩, hg⟩ := hrel
        have G3 := Lib.hid hg
        have NO := Lib.hid hno
        clear hno
        by_cases hlt : i < n
        · obtain ⟨k, rfl⟩ : ∃ k, i = k + 1 := ⟨i - 1, by omega⟩
          obtain ⟨a, ha⟩ : ∃ a, R[k]? = some a := ⟨_, List.getElem?_eq_getElem (by rw [RN.out]; omega)⟩
          obtain ⟨b, hb⟩ : ∃ b, R[k + 1]? = some b := ⟨_, List.getElem?_eq_getElem (by rw [RN.out]; exact hlt)⟩
          obtain ⟨g, o, rfl, c0⟩ := (R2.out.grown hg).name ha
          obtain ⟨g', o', e, c1⟩ := (R2.out.grown hg).name hb
          injection e with e
          injection e with e1 e2 _
          subst e1 e2
          have dl : decide (((k + 1 : Nat) : Int) < (n : Int)) = true := by simp; omega
          have dl2 : decide ((k : Int) + 1 < (n : Int)) = true := by simp; omega
          have hk1 : (k : Int) + 1 < (n : Int) := by omega
          have hk0 : (k : Int) < (n : Int) := by omega
          have hcan : (k : Int) + 1 - 1 = (k : Int) := by omega
          have hnm := name_is (RB.out b (List.mem_of_getElem? hb)) (RB.out a (List.mem_of_getElem? ha))
          have HA := Lib.hid ha
          have HBB := Lib.hid hb
          clear ha hb hg
          by_cases he : b.1 = a.1
          · rw [decide_eq_true he] at hnm
            have EE := Lib.hid (show mkE0 D = 21 by
              unfold mkE0
              rw [if_pos ALL.out, if_neg (by rw [HN.out]; omega), if_neg (dup_no PS.out.1 HA.out HBB.out he.symm)])
            clear he
            go_wp2
            go_quiet (fail)
            go_wp2
            go_ret2
            exact RmO.no EE.out (by decide) (grown_trans G2.out (grown_drewN G3.out _))
          · rw [decide_eq_false he] at hnm
            have NO2 := Lib.hid (show ∀ j x y, j + 1 < k + 1 + 1 → R[j]? = some x → R[j + 1]? = some y → x.1 ≠ y.1 from fun j x y hj hx hy => by
              rcases Nat.lt_or_ge (j + 1) (k + 1) with h | h
              · exact NO.out j x y h hx hy
              · obtain rfl : j = k := by omega
                rw [HA.out] at hx
                rw [HBB.out] at hy
                injection hx with hx
                injection hy with hy
                rw [← hx, ← hy]
                exact fun e => he e.symm)
            clear he NO
            go_wp2
            go_quiet (fail)
            go_wp2
            go_roundw
            case rel => exact ⟨⟨k + 1 + 1, by omega, by omega, by go_num, NO2.out⟩, grown_drewN G3.out _⟩
            case measure => simp [intOf]; omega
        · have hin : n = i := by omega
          subst hin
          have dl : decide ((n : Int) < (n : Int)) = false := by simp
          have UP := Lib.hid (show Up R from up_of RB.out PS.out.2 (fun j a b ha hb => NO.out j a b (by
            obtain ⟨h2, _⟩ := List.getElem?_eq_some_iff.1 hb
            rw [RN.out] at h2
            exact h2) ha hb))
          have E0 := Lib.hid (show mkE0 D = 0 by
            unfold mkE0
            rw [if_pos ALL.out, if_neg (by rw [HN.out]; omega), if_pos (UP.out.apart PS.out.1)])
          have RNE := Lib.hid (show R ≠ [] from fun e => by have := RN.out; rw [e] at this; simp at this; omega)
          have OK := Lib.hid (fun y hy => HF.out.ok ALL.out y (PS.out.1.mem_iff.1 hy) : ∀ y ∈ R, NameOk y.1 ∧ ExOk y.2)
          have PF := Lib.hid (planF RNE.out UP.out OK.out (by rw [RN.out]; omega))
          have RO := Lib.hid (rounds_ok PF.out.ok PF.out.few)
          have DONE := Lib.hid (fun (t : Nat) (h : roundsN (plan 257 R 0 0) (t + 1) = roundsN (plan 257 R 0 0) t) => (show (1048576 < (layB (roundsN (plan 257 R 0 0) t) (plan 257 R 0 0)).length → MkIs D 11 []) ∧ ((layB (roundsN (plan 257 R 0 0) t) (plan 257 R 0 0)).length ≤ 1048576 → MkIs D 0 (layB (roundsN (plan 257 R 0 0) t) (plan 257 R 0 0))) from by
            have hD : D ≠ [] := fun e => by have h := HN.out; rw [e] at h; simp at h; omega
            exact ⟨fun hl => ⟨fun h0 => absurd E0.out h0, fun e => absurd e hD, fun _ _ => ⟨R, t, PS.out.1, UP.out, h, fun _ => ⟨rfl, rfl⟩, fun h2 => absurd h2 (by have : (lastB R t).length = (layB (roundsN (plan 257 R 0 0) t) (plan 257 R 0 0)).length := rfl; omega)⟩⟩,
              fun hl => ⟨fun h0 => absurd E0.out h0, fun e => absurd e hD, fun _ _ => ⟨R, t, PS.out.1, UP.out, h, fun h2 => absurd h2 (by have : (lastB R t).length = (layB (roundsN (plan 257 R 0 0) t) (plan 257 R 0 0)).length := rfl; omega), fun _ => ⟨rfl, rfl⟩⟩⟩⟩))
          have KN := Lib.hid (knots_any (w := wr) (c := c2) RN.out (by omega) RNE.out UP.out (fun y hy => ⟨(OK.out y hy).1.byt, (OK.out y hy).1.len⟩) (R2.out.grown hg))
          obtain ⟨N, hN⟩ : ∃ N, N = namesA 257 R 0 := ⟨_, rfl⟩
          obtain ⟨P, hP⟩ : ∃ P, P = plan 257 R 0 0 := ⟨_, rfl⟩
          rw [← hN] at PF KN
          rw [← hP] at PF RO DONE
          obtain ⟨m, hm⟩ : ∃ m, m = N.length := ⟨_, rfl⟩
          have NM := Lib.hid hm.symm
          have PM := Lib.hid (PF.out.len.symm.trans hm.symm)
          have MF := PF.out.few
          rw [PM.out] at MF
          have M1 : 1 ≤ m := by rw [hm, hN]; simp [namesA]
          clear hN hP hm hg
          obtain ⟨ii, hii, hi0, hi1, hi2⟩ := info_parts (show (Try.prog.info? 55).map (fun i => (i.zero, i.size, i.bytes)) = some (some (.slice none 0 0), 1, 24) from by kernel_rfl)
          go_wp2_with fail
          refine KN.out.mono ?_
          rintro e w4 ⟨⟨qn, cn, rfl, on⟩, g4⟩
          rw [NM.out] at on ⊢
          have G4 := Lib.hid (grown_trans (grown_trans G2.out G3.out) g4)
          have R4 := Lib.hid (R2.out.grown (grown_trans G3.out g4))
          have NS := Lib.hid (StrAt.of on)
          have NC := own_cap on
          clear on g4 KN
          go_wp2_with (at_make; refine wpList_make_full _ rfl _ _ 54 rfl w4.heap.size 55 ii (.slice none 0 0) 1 Try.underlying54 hii hi0 hi1 .i64 .i64 _ _ m rfl rfl rfl rfl (by rw [hi2]; omega) (by unfold maxLen; omega) (Nat.le_refl _) ?_; (intro w5 hown hg5; have O5 := Lib.hid hown; have G5 := Lib.hid hg5; clear hown hg5))
          have ST := Lib.hid (show KdL w4.heap.size w4 w5 N m (.slice (some ⟨w4.heap.size, 0, none⟩) m m) (.slice none 0 0) (.int .i64 0) from ⟨⟨0, [], fun _ => [], none, 0, Nat.zero_le _, rfl, rfl, rfl, KdS.new (by
            have h := O5.out
            rw [Nat.mul_one, show (Value.slice none 0 0).cells = #[Value.slice none 0 0] from rfl, toList_madeCells_one] at h
            exact h), fun s h => (by cases h), Nat.le_refl _, fun j => Nat.le_refl _⟩, G5.out⟩)
          obtain ⟨gk, hgk⟩ : ∃ g, g = w4.heap.size := ⟨_, rfl⟩
          have BK := Lib.hid (show w4.heap.size ≤ gk by omega)
          have GKW := Lib.hid (show gk ≤ w4.heap.size by omega)
          rw [← hgk] at ST ⊢
          clear hgk hii hi0 hi1 hi2 O5
          have NB := Lib.hid PF.out.name
          go_wp2
          go_loopw [8, 9] (fun v8 v9 wx => KdL gk w4 wx N m (.slice (some ⟨gk, 0, none⟩) m m) v8 v9) (fun _ v9 _ => m - (intOf v9).toNat)
          case atStart => exact ST.out
          case round =>
            obtain ⟨⟨i, st, K, qo, co, hi, rfl, rfl, hrun, hkd, hst, hsl, hkl⟩, hg⟩ := hrel
            have HRUN := Lib.hid hrun
            have HKL := Lib.hid hkl
            have GX := Lib.hid hg
            by_cases hlt : i < m
            · have iN : i < N.length := by rw [NM.out]; exact hlt
              obtain ⟨nm, hnm⟩ : ∃ nm, N[i]? = some nm := ⟨_, List.getElem?_eq_getElem iN⟩
              have hND : N.getD i [] = nm := by rw [List.getD_eq_getElem?_getD, hnm]; rfl
              have HNM := Lib.hid (NB.out nm (List.mem_of_getElem? hnm))
              have HNI := Lib.hid hnm
              have hmI : i < m := hlt
              have hmI2 : (i : Int) < (m : Int) := by omega
              have dl : decide ((i : Int) < (m : Int)) = true := by simp; omega
              have STEP := Lib.hid (show runK N (i + 1) 0 ([], fun _ => []) = (i :: popN N nm st, match popN N nm st with
                  | [] => K
                  | u :: _ => fun j => if j = u then K j ++ [i] else K j) from by
                rw [run_step, HRUN.out]
                unfold stepK
                simp only []
                rw [hND]
                rfl)
              have P0 := Lib.hid (show KdP gk w4 wr N nm m i (.slice (some ⟨gk, 0, none⟩) m m) (.slice qo st.length co) st K from ⟨⟨st, qo, co, rfl, rfl, hkd, hst, hsl⟩, hg⟩)
              clear hrun hkd hst hsl hkl hg hnm hND HRUN hlt
              obtain ⟨L0, hL0⟩ : ∃ L, L = st.length := ⟨_, rfl⟩
              rw [← hL0] at P0 ⊢
              clear hL0
              go_wp2
              go_loopw [8] (fun v8 wx => KdP gk w4 wx N nm m i (.slice (some ⟨gk, 0, none⟩) m m) v8 st K) (fun v8 _ => slN v8)
              case atStart => exact P0.out
              case round =>
                obtain ⟨⟨st', q', c', rfl, hpop, hkd, hst, hsl⟩, hg⟩ := hrel
                have POP := Lib.hid hpop
                have KD := Lib.hid hkd
                have GY := Lib.hid hg
                have HST := Lib.hid hst
                cases st' with
                | nil =>
                  have d0 : decide ((0 : Int) < 0) = false := by decide
                  go_wp2
                  go_quiet (fail)
                  have GW := Lib.hid (grown_drewN GY.out nq)
                  have KW := Lib.hid (KD.out.grown (grown_drewN (grown_refl wr none) nq))
                  obtain ⟨WY, hWY⟩ : ∃ W, wr.drewN nq = W := ⟨_, rfl⟩
                  rw [hWY] at GW KW ⊢
                  clear hWY hkd hg
                  have kdY := KW.out
                  have g7 := grown1 WY (.cells #[.int .i64 (i : Int)] 3)
                  have KG := Lib.hid (kdY.grown g7)
                  have N7 := Lib.hid (heap_alloc_new WY (.cells #[.int .i64 (i : Int)] 3))
                  have G7 := Lib.hid (grown_trans GW.out g7)
                  clear kdY g7
                  go_wp2_with (at_builtin; refine wp_append_sta intType rfl _ _ rfl _ 0 _ rfl KG.out.op [.int .i64 (i : Int)] rfl WY.heap.size rfl N7.out (intCs_one (i : Int)) (by omega) (by decide) (Nat.le_trans GKW.out G7.out.size) ?_)
                  intro v8 w8 ho8 hg8 hv8
                  obtain ⟨q8, c8, rfl⟩ := own_slice ho8
                  have G8 := Lib.hid (grown_opt G7.out hg8 (fun g e => Nat.le_trans BK.out (KG.out.op.lt g e).1))
                  have K8 := Lib.hid (KG.out.push ho8 hg8 (by rw [World.size_alloc]; exact hv8))
                  clear ho8 hg8 hv8 KG N7
                  go_wp2
                  go_roundw
                  case rel => exact ⟨⟨i + 1, i :: [], K, q8, c8, hmI, by go_num, rfl, by rw [STEP.out, ← POP.out, show popN N nm [] = [] from rfl], K8.out, fun s hs => by rw [List.mem_singleton.1 hs]; omega, by simp, fun j => by have := HKL.out j; omega⟩, G8.out⟩
                  case measure => simp [intOf]; omega
                | cons a rest =>
                  obtain ⟨-, g, rfl, ct⟩ := KD.out.top
                  have hai : a < i := HST.out a (List.mem_cons_self ..)
                  obtain ⟨L, hL⟩ : ∃ L, L = rest.length := ⟨_, rfl⟩
                  have hlen : (a :: rest).length = L + 1 := by rw [hL]; rfl
                  have KD1 := Lib.hid (show KdS gk wr m (.slice (some ⟨gk, 0, none⟩) m m) (.slice (some ⟨g, 0, none⟩) (L + 1) c') (a :: rest) K from by rw [← hlen]; exact KD.out)
                  rw [hlen] at hsl ⊢
                  rw [← hL] at ct
                  have HLEN := Lib.hid hlen
                  have LC := own_cap (show wr.ownsRow gk 3 1 (.slice (some ⟨g, 0, none⟩) (L + 1) c') (L + 1) _ from by rw [← hlen]; exact KD.out.op)
                  obtain ⟨na, hna⟩ : ∃ na, N[a]? = some na := ⟨_, List.getElem?_eq_getElem (by rw [NM.out]; omega)⟩
                  have hNa : N.getD a [] = na := by rw [List.getD_eq_getElem?_getD, hna]; rfl
                  have BA := NB.out na (List.mem_of_getElem? hna)
                  obtain ⟨gn, rfl, ca⟩ := (NS.out.grown GY.out) a na hna
                  obtain ⟨gn', e', ci⟩ := (NS.out.grown GY.out) i nm HNI.out
                  injection e' with e'
                  injection e' with e1 _ _
                  subst e1
                  have SH := Lib.hid (fun d os => Calls.regrown_of ((share_any na nm BA.1 HNM.out.1 (by have := HNM.out.2; omega) (Go.Sort.grow (redrawn wr d) os)).mono (fun e w' h => (⟨h.1, below_grown h.2 (Nat.le_refl _) (by simp)⟩ : _ ∧ _))))
                  have hcmp := name_is (BA.1.take (lcpN na nm)) BA.1
                  obtain ⟨b, hb⟩ : ∃ b, b = preB na nm := ⟨_, rfl⟩
                  rw [show decide (na.take (lcpN na nm) = na) = b from hb.symm] at hcmp
                  obtain ⟨T, hT⟩ : ∃ T, T = na.take (lcpN na nm) := ⟨_, rfl⟩
                  rw [← hT] at SH hcmp
                  have HB := Lib.hid (show preB (N.getD a []) nm = b by rw [hNa, hb])
                  have CA := Lib.hid (fun d os => cell_regrown ca d os)
                  have CI := Lib.hid (fun d os => cell_regrown ci d os)
                  have CT := Lib.hid (fun d os => cell_regrown ct d os)
                  have d0 : decide ((0 : Int) < ((L + 1 : Nat) : Int)) = true := by simp <;> omega
                  have d02 : decide ((0 : Int) < (L : Int) + 1) = true := by simp <;> omega
                  have hcan : (L : Int) + 1 - 1 = (L : Int) := by omega
                  have hwk : IntKind.i64.wrap (L : Int) = (L : Int) := IntWalk.i64_in _ (by omega)
                  have ham : (a : Int) < (m : Int) := by omega
                  have hLL : (L : Int) < (L : Int) + 1 := by omega
                  have hL0' : (0 : Int) ≤ (L : Int) := by omega
                  have HLR := Lib.hid hL.symm
                  clear hna hNa BA hb hT ca ci ct hkd hg hL hlen
                  go_wp2
                  have ca := CA.out
                  have ci := CI.out
                  have ct := CT.out
                  refine wp_region_quiet_below (by kernel_rfl) (by kernel_rfl) ?_
                  repeat (quiet_step (exact SH.out _ _))
                  refine wpQuiet_nil ?_
                  intro _ hw'
                  obtain ⟨⟨dq, osq⟩, hw''⟩ := hw'
                  subst hw''
                  have gq := grown_below (below_regrown wr dq osq) none
                  have GW := Lib.hid (grown_trans GY.out gq)
                  have KW := Lib.hid (KD1.out.grown gq)
                  have ctq := ct dq osq
                  obtain ⟨WY, hWY⟩ : ∃ W, Go.Sort.grow (redrawn wr dq) osq = W := ⟨_, rfl⟩
                  rw [hWY] at GW KW ctq ⊢
                  clear hWY gq ca ci ct CA CI CT SH hcmp
                  cases b
                  · have CH := cut_hi (T := 55) (k := 1) (by kernel_rfl) (fun W => by kernel_rfl) g 0 (L + 1) c' L .i64 (by omega)
                    go_wp2
                    go_roundw
                    case rel => exact ⟨⟨rest, some ⟨g, 0, none⟩, c', by rw [HLR.out], by rw [← POP.out, pop_no HB.out], by
                      have h := KW.out
                      rw [← HLEN.out] at h
                      exact h.pop, fun s hs => HST.out s (List.mem_cons_of_mem _ hs), by rw [HLR.out]; omega⟩, GW.out⟩
                    case measure => simp [slN]
                  · obtain ⟨qk, ck, cu, ok⟩ := KW.out.get (show a < m by omega)
                    have g6 := grown1 WY (.cells #[.int .i64 (i : Int)] 3)
                    have OK6 := Lib.hid (own_grown ok g6)
                    have KG6 := Lib.hid (KW.out.grown g6)
                    have CU6 := Lib.hid (grown_cell g6 cu)
                    have N6 := Lib.hid (heap_alloc_new WY (.cells #[.int .i64 (i : Int)] 3))
                    have G6 := Lib.hid (grown_trans GW.out g6)
                    have hkl := HKL.out a
                    have HA := Lib.hid hai
                    obtain ⟨ka, hka⟩ : ∃ k, k = (K a).length := ⟨_, rfl⟩
                    have HKA := Lib.hid hka
                    rw [← hka] at cu hkl CU6
                    clear ok g6 hka
                    go_wp2_with (at_builtin; refine wp_append_sta intType rfl _ _ rfl _ ka _ rfl (by rw [HKA.out]; exact OK6.out) [.int .i64 (i : Int)] rfl WY.heap.size rfl N6.out (intCs_one (i : Int)) (by omega) (by decide) (Nat.le_trans GKW.out G6.out.size) ?_)
                    intro vk wk hok hgk hvk
                    have hok2 : wk.ownsRow gk 3 1 vk ((K a).length + 1) ((natI (K a)).flatMap intCs ++ [.int .i64 (i : Int)]) := by rw [← HKA.out]; exact hok
                    have OK7 : (WY.alloc (.cells #[.int .i64 (i : Int)] 3)).ownsRow gk 3 1 (.slice qk ka ck) (K a).length ((natI (K a)).flatMap intCs) := by rw [HKA.out]; exact OK6.out
                    obtain ⟨cs, fs, ls⟩ := KG6.out.seat CU6.out (show a < m by omega) OK7 hgk
                    have GK := grown_opt G6.out hgk (fun g e => Nat.le_trans BK.out (OK7.lt g e).1)
                    obtain ⟨qk2, ck2, rfl⟩ := own_slice hok
                    have KZ := Lib.hid (KG6.out.kid CU6.out (show a < m by omega) hok2 hgk (by rw [World.size_alloc]; exact hvk))
                    have GZ := Lib.hid (grown_opt GK (grown_setCell (i := a) (grown_refl wk (some gk)) (.slice qk2 (ka + 1) ck2)) (fun g e => by injection e with e; have := BK.out; omega))
                    have g7 := grown1 (wk.setCell ⟨gk, a, none⟩ (.slice qk2 (ka + 1) ck2)) (.cells #[.int .i64 (i : Int)] 3)
                    have KG := Lib.hid (KZ.out.grown g7)
                    have hz : (wk.setCell ⟨gk, a, none⟩ (.slice qk2 (ka + 1) ck2)).heap.size = wk.heap.size := by simp
                    have HZ := Lib.hid hz
                    have N7 := Lib.hid (by have h := heap_alloc_new (wk.setCell ⟨gk, a, none⟩ (.slice qk2 (ka + 1) ck2)) (.cells #[.int .i64 (i : Int)] 3); rw [hz] at h; exact h : ((wk.setCell ⟨gk, a, none⟩ (.slice qk2 (ka + 1) ck2)).alloc (.cells #[.int .i64 (i : Int)] 3)).heap[wk.heap.size]? = some (.cells #[.int .i64 (i : Int)] 3 (0, 0)))
                    clear hz
                    have G7 := Lib.hid (grown_trans GZ.out g7)
                    clear g7 hok hok2 hgk hvk OK7 GK KG6 CU6 N6 G6 OK6 cu ctq
                    go_wp2_with (at_builtin; refine wp_append_sta intType rfl _ _ rfl _ (L + 1) _ rfl (by have h := KG.out.op; rw [HLEN.out] at h; exact h) [.int .i64 (i : Int)] rfl wk.heap.size rfl N7.out (intCs_one (i : Int)) (by omega) (by decide) (Nat.le_trans GKW.out G7.out.size) ?_)
                    intro v8 w8 ho8 hg8 hv8
                    obtain ⟨q8, c8, rfl⟩ := own_slice ho8
                    have G8 := Lib.hid (grown_opt G7.out hg8 (fun g e => Nat.le_trans BK.out (KG.out.op.lt g e).1))
                    have K8 := Lib.hid (KG.out.push (v' := .slice q8 (L + 1 + 1) c8) (i := i) (by rw [HLEN.out, List.reverse_cons]; exact ho8) hg8 (by rw [World.size_alloc]; first | exact hv8 | (rw [HZ.out]; exact hv8)))
                    clear ho8 hg8 hv8 KG N7
                    go_wp2
                    go_roundw
                    case rel => exact ⟨⟨i + 1, i :: a :: rest, (fun j => if j = a then K j ++ [i] else K j), q8, c8, hmI, by go_num, by rw [List.length_cons, HLEN.out], by rw [STEP.out, ← POP.out, pop_yes HB.out], by rw [List.length_cons, HLEN.out]; exact K8.out, fun s hs => by
                      rcases List.mem_cons.1 hs with e | e
                      · omega
                      · have := HST.out s e; omega, by rw [List.length_cons, HLEN.out]; omega, fun j => by
                      have := HKL.out j
                      show (if j = a then K j ++ [i] else K j).length ≤ i + 1
                      split
                      · rw [List.length_append, List.length_singleton]; omega
                      · omega⟩, G8.out⟩
                    case measure => simp [intOf]; omega
            · have him : m = i := by omega
              subst him
              have dl : decide ((m : Int) < (m : Int)) = false := by simp
              obtain ⟨wb, hwb⟩ : ∃ W, W = wr := ⟨_, rfl⟩
              subst hwb
              have KA := Lib.hid (fun (j : Nat) (hj : j < m) => (show K j = kidsAt P j from by
                have h := PF.out.kids j (by rw [PM.out]; exact hj)
                rw [PM.out, HRUN.out] at h
                exact h))
              have KR := Lib.hid (fun (j : Nat) (hj : j < m) => (show ∃ q' c', wb.cell? ⟨gk, j, none⟩ = some (.slice q' (kidsAt P j).length c') ∧ IntAt wb q' (natI (kidsAt P j)) from by
                obtain ⟨q', c', h1, h2⟩ := hkd.get hj
                rw [KA.out j hj] at h1 h2
                exact ⟨q', c', h1, IntAt.of h2⟩))
              have GB := Lib.hid (grown_trans G4.out GX.out)
              have RB2 := Lib.hid (R4.out.grown GX.out)
              have NB2 := Lib.hid (NS.out.grown GX.out)
              clear hkd hrun hkl hst hsl hg HRUN HKL KA hlt hi
              obtain ⟨iu, hiu⟩ := info_parts (show (Try.prog.info? 3).map (fun i => (i.zero, i.size, i.bytes)) = some (some (.int .i64 0), 1, 8) from by kernel_rfl)
              have IU := Lib.hid hiu
              clear hiu
              go_wp2_with (at_make; refine wpList_make_full _ rfl _ _ 55 rfl wb.heap.size 3 iu (.int .i64 0) 1 Try.underlying55 IU.out.1 IU.out.2.1 IU.out.2.2.1 .i64 .i64 _ _ m rfl rfl rfl rfl (by rw [IU.out.2.2.2]; omega) (by unfold maxLen; omega) (Nat.le_refl _) ?_; (intro w6 hown hg6; have O6 := Lib.hid hown; have G6 := Lib.hid hg6; clear hown hg6))
              have U6 := Lib.hid (show IntAt w6 (some ⟨wb.heap.size, 0, none⟩) (natI (roundsN P 0)) from by
                have h := O6.out
                rw [Nat.mul_one, show (Value.int IntKind.i64 0).cells = #[Value.int IntKind.i64 0] from rfl, toList_madeCells_one, ← ints_zero, ← PM.out] at h
                exact IntAt.of h)
              have ST := Lib.hid (show RmG wb w6 P m (m * 1099511627776) (.slice (some ⟨wb.heap.size, 0, none⟩) m m) from ⟨⟨0, _, _, Nat.sub_le _ _, rfl, U6.out, Nat.le_refl _, by omega⟩, G6.out⟩)
              clear O6 G6 U6
              go_wp2
              go_loopg [11] (m * 1099511627776) (fun g v11 wx => RmG wb wx P m g v11)
              case atStart => exact ST.out
              case round =>
                obtain ⟨⟨t, qp, cp, hgk, rfl, hu, hcp, hcx⟩, hg⟩ := hrel
                obtain ⟨w0, hw0⟩ : ∃ W, W = wr := ⟨_, rfl⟩
                subst hw0
                have HG := Lib.hid hg
                have HK := Lib.hid hgk
                obtain ⟨pl, hpl⟩ : ∃ pl, pl = roundsN P t := ⟨_, rfl⟩
                have HPL := Lib.hid hpl
                have PL64 := Lib.hid (show ∀ i, pl.getD i 0 ≤ 558211072 from by rw [hpl]; exact (RO.out t).1)
                have PLN := Lib.hid (show (layB pl P).length ≤ 558211072 from by rw [hpl]; exact (RO.out t).2)
                have PLL := Lib.hid (show pl.length = m from by rw [hpl, rounds_len, PM.out])
                rw [← hpl] at hu
                have HU := Lib.hid hu
                have GW0 := Lib.hid (grown_trans GB.out hg)
                clear hg hu hgk hpl ST
                go_wp2_with (at_make; refine wpList_make_full _ rfl _ _ 55 rfl w0.heap.size 3 iu (.int .i64 0) 1 Try.underlying55 IU.out.1 IU.out.2.1 IU.out.2.2.1 .i64 .i64 _ _ m rfl rfl rfl rfl (by rw [IU.out.2.2.2]; omega) (by unfold maxLen; omega) (Nat.le_refl _) ?_; (intro w7 hown hg7; have O7 := Lib.hid hown; have G7 := Lib.hid hg7; clear hown hg7))
                obtain ⟨gx, hgx⟩ : ∃ g, g = w0.heap.size := ⟨_, rfl⟩
                have HGX := Lib.hid hgx
                have ST := Lib.hid (show RmN gx w0 w7 N P pl m (.slice none 0 0) (.int .i64 0) (.int .i64 0) from ⟨⟨0, none, 0, Nat.zero_le _, rfl, rfl, rfl, ⟨World.ownsRow_nil _ _ _ _, by
                  have h := O7.out
                  rw [Nat.mul_one, show (Value.int IntKind.i64 0).cells = #[Value.int IntKind.i64 0] from rfl, toList_madeCells_one] at h
                  rw [nextL_zero, hgx]; exact h, G7.out⟩⟩⟩)
                rw [← hgx]
                clear hgx O7 G7
                go_wp2
                go_loopw [12, 14, 15] (fun v12 v14 v15 wx => RmN gx w0 wx N P pl m v12 v14 v15) (fun _ _ v15 _ => m - (intOf v15).toNat)
                case atStart => exact ST.out
                case round =>
                  obtain ⟨⟨i, qb, cb, hi, rfl, rfl, rfl, hd⟩⟩ := hrel
                  obtain ⟨wy, hwy⟩ : ∃ W, W = wr := ⟨_, rfl⟩
                  subst hwy
                  clear ST
                  by_cases hlt : i < m
                  · have dl : decide ((i : Int) < (m : Int)) = true := by simp; omega
                    have hiI : (i : Int) < (m : Int) := by omega
                    obtain ⟨nd, hnd⟩ : ∃ nd, P[i]? = some nd := ⟨_, List.getElem?_eq_getElem (by rw [PM.out]; exact hlt)⟩
                    obtain ⟨nm, hnm⟩ : ∃ nm, N[i]? = some nm := ⟨_, List.getElem?_eq_getElem (by rw [NM.out]; exact hlt)⟩
                    have ok := PF.out.ok nd (List.mem_of_getElem? hnd)
                    have TB := Lib.hid (layB_take' pl hnd)
                    have TO := Lib.hid (owns_next PF.out.len hnd)
                    have TN := Lib.hid (nextL_set (pl := pl) PM.out hlt)
                    have nl : (layB pl (P.take (i + 1))).length ≤ 558211072 := Nat.le_trans (layG_le pl P (i + 1)) PLN.out
                    rw [TB.out] at nl
                    have hka : kidsAt P i = nd.kids.map Prod.snd := by unfold kidsAt; rw [hnd]; rfl
                    obtain ⟨qk, ck, kc, kr⟩ := KR.out i hlt
                    rw [hka] at kc kr
                    rw [List.length_map] at kc
                    have KC := Lib.hid (grown_cell HG.out kc)
                    have KI := Lib.hid (kr.grown HG.out)
                    have few := kids_few ok
                    obtain ⟨kl, hkl⟩ : ∃ kl, kl = nd.kids.length := ⟨_, rfl⟩
                    rw [← hkl] at KC few
                    have HKL := Lib.hid hkl
                    have EDG := Lib.hid (fun k (hk : k ∈ nd.kids) => And.intro (ok.edge k hk) (PF.out.edge i nd hnd k hk))
                    have SAYS := Lib.hid ok.says
                    have OA := own_at i PF.out.len PF.out.up nm nd hnm hnd
                    rw [PF.out.own] at OA
                    obtain ⟨a, ha⟩ : ∃ a, a = (ownsN (N.take i) (P.take i)).length := ⟨_, rfl⟩
                    rw [← ha] at OA TO ⊢
                    obtain ⟨B, hB⟩ : ∃ B, B = layB pl (P.take i) := ⟨_, rfl⟩
                    rw [← hB] at hd TB TN nl ⊢
                    obtain ⟨L, hL⟩ : ∃ L, L = nextL pl P m i := ⟨_, rfl⟩
                    rw [← hL] at hd TN
                    obtain ⟨Bl, hBl⟩ : ∃ Bl, Bl = B.length := ⟨_, rfl⟩
                    have HBL := Lib.hid hBl
                    unfold nodeB at nl
                    rw [List.length_append, List.length_append, List.length_append, List.length_singleton, ← hBl] at nl
                    rw [← hBl] at hd TN ⊢
                    obtain ⟨fl, hfl⟩ : ∃ fl, fl = (frontB nd.says).length := ⟨_, rfl⟩
                    rw [← hfl] at nl
                    have HFL := Lib.hid hfl
                    have NMB := Lib.hid (NB.out nm (List.mem_of_getElem? hnm))
                    obtain ⟨⟨x0, cx⟩, fx, lx⟩ := hd.seat hlt
                    have D1 := Lib.hid (hd.set (i := i) (Bl : Int))
                    rw [TN.out] at D1
                    have HNM := Lib.hid hnm
                    have HND := Lib.hid hnd
                    have OAH := Lib.hid OA
                    clear hd hka kc kr ok hkl hnm hnd OA ha hB hL hBl hfl TN
                    go_wp2
                    obtain ⟨wz, hwz⟩ : ∃ W, wy.setCell ⟨gx, i, none⟩ (.int .i64 (Bl : Int)) = W := ⟨_, rfl⟩
                    rw [hwz] at D1 ⊢
                    clear hwz cx fx lx
                    have GZ := Lib.hid (grown_trans HG.out D1.out.grown)
                    obtain ⟨gn, hqn, cn0⟩ := (NB2.out.grown GZ.out) i nm HNM.out
                    subst hqn
                    have hnl := NMB.out.2
                    have h3 : (∃ x, nd.says = some x) ∨ (nd.says = none ∧ a < n) ∨ (nd.says = none ∧ n ≤ a) := by
                      cases hs : nd.says with
                      | some x => exact .inl ⟨x, rfl⟩
                      | none => exact .inr ((Nat.lt_or_ge a n).imp (fun h => ⟨rfl, h⟩) (fun h => ⟨rfl, h⟩))
                    go_cut [158] from 132 to 217 (fun c wx => c = .bool nd.says.isSome ∧ RmD gx w0 wx (.slice qb Bl cb) B m (nextL pl P m (i + 1)))
                    case first =>
                      rcases h3 with ⟨x, hs⟩ | ⟨hs, ha2⟩ | ⟨hs, ha2⟩
                      · have hR := OAH.out.1 x hs
                        have ha2 : a < n := by
                          obtain ⟨h, _⟩ := List.getElem?_eq_some_iff.1 hR
                          rw [RN.out] at h
                          exact h
                        obtain ⟨ga, oa, hq2, a0, a1, a2, a3, a4, a5, a6⟩ := (RB2.out.grown GZ.out).at hR
                        subst hq2
                        simp only [] at a0 a1 a2 a3 a4 a5 a6
                        have da : decide ((a : Int) < (n : Int)) = true := by simp; omega
                        have haI : (a : Int) < (n : Int) := by omega
                        have heq : ((strOfNums nm).toList == (strOfNums nm).toList) = true := by simp
                        have HS := Lib.hid hs
                        clear hR hs
                        go_quiet (fail)
                        go_wp2_with fail
                        go_meet
                        exact ⟨by rw [HS.out]; rfl, D1.out.past (grown_drewN (grown_refl wz none) nq)⟩
                      · obtain ⟨y, hy⟩ : ∃ y, R[a]? = some y := ⟨_, List.getElem?_eq_getElem (by rw [RN.out]; exact ha2)⟩
                        have hne := OAH.out.2 hs y hy
                        obtain ⟨ga, oa, hq2, a0⟩ := (RB2.out.grown GZ.out).name hy
                        subst hq2
                        have da : decide ((a : Int) < (n : Int)) = true := by simp; omega
                        have haI : (a : Int) < (n : Int) := by omega
                        have heq := name_is (RB.out y (List.mem_of_getElem? hy)) NMB.out.1
                        rw [decide_eq_false hne] at heq
                        have HS := Lib.hid hs
                        clear hy hs hne
                        go_quiet (fail)
                        go_wp2_with fail
                        go_meet
                        exact ⟨by rw [HS.out]; rfl, D1.out.past (grown_drewN (grown_refl wz none) nq)⟩
                      · have da : decide ((a : Int) < (n : Int)) = false := by simp; omega
                        have haI : ¬ ((a : Int) < (n : Int)) := by omega
                        have HS := Lib.hid hs
                        clear hs
                        go_quiet (fail)
                        go_wp2_with fail
                        go_meet
                        exact ⟨by rw [HS.out]; rfl, D1.out.past (grown_drewN (grown_refl wz none) nq)⟩
                    case rest =>
                      obtain ⟨rfl, D2⟩ := hcut
                      obtain ⟨wq, hwq⟩ : ∃ W, W = wc := ⟨_, rfl⟩
                      subst hwq
                      have DQ := Lib.hid D2
                      clear D2 D1 cn0 h3
                      go_upto_if 158 with fail
                      go_cut [12, 14] from 132 to 217 (fun v12 v14 wx => ∃ (q9 : Option Addr) (c9 F1l : Nat), F1l = Bl + fl ∧ v12 = .slice q9 F1l c9 ∧ v14 = .int .i64 ((ownsN (N.take (i + 1)) (P.take (i + 1))).length : Int) ∧ RmD gx w0 wx (.slice q9 F1l c9) (B ++ frontB nd.says) m (nextL pl P m (i + 1)))
                      case first =>
                        have h4 : (∃ x, nd.says = some x) ∨ nd.says = none := by
                          cases hs : nd.says with
                          | some x => exact .inl ⟨x, rfl⟩
                          | none => exact .inr rfl
                        rcases h4 with ⟨x, hs⟩ | hs
                        · have hR := OAH.out.1 x hs
                          have hsm : nd.says.isSome = true := by rw [hs]; rfl
                          rw [hsm]
                          have ha2 : a < n := by
                            obtain ⟨h, _⟩ := List.getElem?_eq_some_iff.1 hR
                            rw [RN.out] at h
                            exact h
                          obtain ⟨ga, oa, hq2, b0, b1, b2, b3, b4, b5, b6⟩ := (RB2.out.grown (grown_trans HG.out DQ.out.grown)).at hR
                          subst hq2
                          simp only [] at b0 b1 b2 b3 b4 b5 b6
                          have haI : (a : Int) < (n : Int) := by omega
                          have SA := Lib.hid (fun W => said_any (strOfNums nm) x (SAYS.out x hs) W)
                          unfold exV exArr at SA
                          have HS := Lib.hid hs
                          clear hR hs hsm
                          go_wp2_with fail
                          refine (SA.out _).mono ?_
                          rintro e w8 ⟨⟨q8, c8, rfl, ho8⟩, hg8⟩
                          rw [show frontB (some x) = frontB nd.says by rw [HS.out]] at ho8 ⊢
                          have IB := Lib.hid (IsBytes.of_own rfl ho8)
                          rw [← HFL.out] at ho8 ⊢
                          have D8 := Lib.hid (DQ.out.past hg8)
                          have R8 := Lib.hid (RowTo.refl D8.out.b)
                          have S8 := Lib.hid D8.out.grown.size
                          have L8 := Lib.hid (show B.length + fl ≤ 140737488355328 by rw [← HBL.out]; omega)
                          clear b0 b1 b2 b3 b4 b5 b6 ho8 hg8 SA DQ
                          go_wp2_with (at_builtin; refine wp_append_to rfl _ _ rfl rfl (v := .slice qb Bl cb) (by rfl) R8.out (frontB nd.says) fl HFL.out.symm (by rfl) IB.out L8.out S8.out ?_)
                          intro q9 c9 w9 hr9
                          rw [← HBL.out] at hr9 ⊢
                          have D9 := Lib.hid (D8.out.step hr9)
                          have HA9 := Lib.hid (show Value.int .i64 ((a : Int) + 1) = .int .i64 ((ownsN (N.take (i + 1)) (P.take (i + 1))).length : Int) from by rw [TO.out, HS.out]; simp)
                          clear hr9 IB D8 R8 S8 L8
                          go_wp2
                          go_meet
                          exact ⟨_, _, _, rfl, rfl, HA9.out, D9.out⟩
                        · have hsm : nd.says.isSome = false := by rw [hs]; rfl
                          rw [hsm]
                          have HS := Lib.hid hs
                          have g8 := grown1 wq (.cells #[.int .u8 0] 5)
                          have D8 := Lib.hid (DQ.out.past g8)
                          have R8 := Lib.hid (RowTo.refl D8.out.b)
                          have S8 := Lib.hid D8.out.grown.size
                          have I8 := Lib.hid (byte_new wq 0)
                          have L8 := Lib.hid (show B.length + 1 ≤ 140737488355328 by rw [← HBL.out]; omega)
                          have HF9 := Lib.hid (show Bl + 1 = Bl + fl by rw [HFL.out, HS.out]; rfl)
                          clear g8 hs hsm
                          go_wp2_with (at_builtin; refine wp_append_to rfl _ _ rfl rfl (v := .slice qb Bl cb) (by rfl) R8.out [0] 1 rfl (by rfl) I8.out L8.out S8.out ?_)
                          intro q9 c9 w9 hr9
                          rw [← HBL.out] at hr9 ⊢
                          have d9 := D8.out.step hr9
                          rw [show ([0] : List Int) = frontB nd.says by rw [HS.out]; rfl] at d9
                          have D9 := Lib.hid d9
                          have HA9 := Lib.hid (show Value.int .i64 (a : Int) = .int .i64 ((ownsN (N.take (i + 1)) (P.take (i + 1))).length : Int) from by rw [TO.out, HS.out]; simp)
                          clear hr9 d9 I8 D8 R8 S8 L8
                          go_wp2
                          go_meet
                          exact ⟨_, _, _, HF9.out, rfl, HA9.out, D9.out⟩
                      case rest =>
                        obtain ⟨q9, c9, F1l, hF1l, rfl, rfl, d9⟩ := hcut
                        obtain ⟨w9, hw9⟩ : ∃ W, W = wc := ⟨_, rfl⟩
                        subst hw9
                        obtain ⟨a9, ha9⟩ : ∃ a9, a9 = (ownsN (N.take (i + 1)) (P.take (i + 1))).length := ⟨_, rfl⟩
                        rw [← ha9]
                        have HA9 := Lib.hid (show Value.int .i64 (a9 : Int) = .int .i64 ((ownsN (N.take (i + 1)) (P.take (i + 1))).length : Int) from by rw [ha9])
                        have HF1l := Lib.hid hF1l
                        have D9 := Lib.hid d9
                        clear hF1l d9 ha9 DQ
                        have C9 := grown_cell D9.out.grown KC.out
                        have g10 := grown1 w9 (.cells #[.int .u8 (kl : Int)] 5)
                        have D10 := Lib.hid (D9.out.past g10)
                        have hF1m : F1l ≤ 558211072 + 1 := by have := HF1l.out; omega
                        obtain ⟨F1, hF1⟩ : ∃ F, F = B ++ frontB nd.says := ⟨_, rfl⟩
                        rw [← hF1] at D10
                        have HF1 := Lib.hid hF1
                        have LF1 := Lib.hid (show F1.length = F1l by rw [hF1, List.length_append, ← HBL.out, ← HFL.out, ← HF1l.out])
                        have R10 := Lib.hid (RowTo.refl D10.out.b)
                        have S10 := Lib.hid D10.out.grown.size
                        have I10 := Lib.hid (byte_new w9 (kl : Int))
                        have L10 := Lib.hid (show F1.length + 1 ≤ 140737488355328 by rw [LF1.out]; omega)
                        have hkw : IntKind.u8.wrap (kl : Int) = kl := by rw [IntKind.wrap_u8]; omega
                        clear hF1 g10 D9
                        go_wp2_with (at_builtin; refine wp_append_to rfl _ _ rfl rfl (v := .slice q9 F1l c9) (by rfl) R10.out [(kl : Int)] 1 rfl (by rfl) I10.out L10.out S10.out ?_)
                        intro q11 c11 w11 hr11
                        rw [LF1.out] at hr11 ⊢
                        have d11 := D10.out.step hr11
                        obtain ⟨F2, hF2⟩ : ∃ F, F = F1 ++ [(kl : Int)] := ⟨_, rfl⟩
                        have LF2 := Lib.hid (show F2.length = F1l + 1 by rw [hF2, List.length_append, LF1.out]; rfl)
                        rw [← hF2] at d11
                        have TNX := Lib.hid (show F2 ++ nd.kids.flatMap (kidB pl) = layB pl (P.take (i + 1)) by
                          rw [TB.out, hF2, HF1.out, HKL.out]
                          unfold nodeB
                          simp only [List.append_assoc])
                        have e0 : F2 ++ (nd.kids.take 0).flatMap (kidB pl) = F2 := by simp
                        obtain ⟨L1, hL1⟩ : ∃ L1, L1 = nextL pl P m (i + 1) := ⟨_, rfl⟩
                        rw [← hL1] at d11
                        have HL1 := Lib.hid hL1
                        have S11 := Lib.hid (show RmK gx w0 w11 pl F2 nd.kids m L1 (.slice q11 (F1l + 1) c11) (.int .i64 0) from ⟨⟨0, q11, c11, Nat.zero_le _, rfl, by rw [e0, LF2.out], by rw [e0, LF2.out]; exact d11⟩⟩)
                        clear hr11 d11 hF2 hL1 e0 C9 D10 R10 S10 I10 L10 hkw HF1 LF1 TB
                        go_wp2
                        go_loopw [12, 16] (fun v12 v16 wx => RmK gx w0 wx pl F2 nd.kids m L1 v12 v16) (fun _ v16 _ => kl - (intOf v16).toNat)
                        case atStart => exact S11.out
                        case round =>
                          obtain ⟨⟨j, qm, cm, hj, rfl, rfl, hd⟩⟩ := hrel
                          obtain ⟨wx, hwx⟩ : ∃ W, W = wr := ⟨_, rfl⟩
                          subst hwx
                          clear S11
                          have kc := grown_cell hd.grown KC.out
                          by_cases hjl : j < kl
                          · obtain ⟨k, hk⟩ : ∃ k, nd.kids[j]? = some k := ⟨_, List.getElem?_eq_getElem (by rw [← HKL.out]; exact hjl)⟩
                            have hkm := List.mem_of_getElem? hk
                            obtain ⟨eok, elt, ehi, enm⟩ := EDG.out k hkm
                            rw [PM.out] at ehi
                            have hnk : N[k.2]? = some (nm ++ k.1) := by
                              have h1 : N.getD i [] = nm := by rw [List.getD_eq_getElem?_getD, HNM.out]; rfl
                              have h2 : k.2 < N.length := by rw [NM.out]; exact ehi
                              rw [h1, List.getD_eq_getElem?_getD, List.getElem?_eq_getElem h2, Option.getD_some] at enm
                              rw [List.getElem?_eq_getElem h2, enm]
                            have BY := Lib.hid eok.byt
                            have klen := eok.len
                            obtain ⟨p, hp⟩ : ∃ p, p = pl.getD k.2 0 := ⟨_, rfl⟩
                            have hpm : p ≤ 558211072 := by rw [hp]; exact PL64.out _
                            have hp64 : p < 18446744073709551616 := by omega
                            have pat := natI_at (l := pl) (i := k.2) (by rw [PLL.out]; exact ehi)
                            rw [← hp] at pat
                            have kt : (nd.kids.take (j + 1)).flatMap (kidB pl) = (nd.kids.take j).flatMap (kidB pl) ++ ((k.1 ++ [0]) ++ encU p) := by rw [kidsG_take pl hk, hp]; rfl
                            have kle := kidsG_le pl nd.kids (j + 1)
                            rw [kt, List.length_append, List.length_append, List.length_append, List.length_singleton] at kle
                            obtain ⟨M, hM⟩ : ∃ M, M = F2 ++ (nd.kids.take j).flatMap (kidB pl) := ⟨_, rfl⟩
                            have hMl : M.length = F2.length + ((nd.kids.take j).flatMap (kidB pl)).length := by rw [hM, List.length_append]
                            rw [LF2.out, HF1l.out] at hMl
                            have MN := Lib.hid (show ((M ++ k.1) ++ [0]) ++ encU p = F2 ++ (nd.kids.take (j + 1)).flatMap (kidB pl) by rw [kt, hM]; simp only [List.append_assoc])
                            rw [← hM] at hd ⊢
                            obtain ⟨Ml, hMm⟩ : ∃ m, m = M.length := ⟨_, rfl⟩
                            rw [← hMm] at hd hMl ⊢
                            have HMM := Lib.hid hMm
                            have bound : Ml + k.1.length + 1 + (encU p).length ≤ 1116422144 := by omega
                            obtain ⟨o, ho⟩ : ∃ o, o = k.2 := ⟨_, rfl⟩
                            rw [← ho] at hnk pat ehi
                            have kj : (natI (nd.kids.map Prod.snd))[j]? = some (o : Int) := by
                              unfold natI
                              rw [List.getElem?_map, List.getElem?_map, hk, ho]
                              rfl
                            obtain ⟨gj, rfl, cj⟩ := (KI.out.grown hd.grown) j _ kj
                            obtain ⟨gp, rfl, cp0⟩ := (HU.out) o _ pat
                            have CP := Lib.hid cp0
                            obtain ⟨gn2, e1, co⟩ := (NB2.out.grown (grown_trans HG.out hd.grown)) o _ hnk
                            injection e1 with e1
                            injection e1 with e1 _ _
                            subst e1
                            obtain ⟨gn2, e1, cnm⟩ := (NB2.out.grown (grown_trans HG.out hd.grown)) i _ HNM.out
                            injection e1 with e1
                            injection e1 with e1 _ _
                            subst e1
                            have DJ := Lib.hid (fun (V : World) (hV : wx.grownBy V none) => And.intro (grown_cell hV co) (grown_cell hV cnm))
                            have CO := Lib.hid (fun (V : World) (hV : w0.grownBy V none) => (show V.cell? ⟨gn, o, none⟩ = some (.string (strOfNums (nm ++ k.1))) ∧ V.cell? ⟨gn, i, none⟩ = some (.string (strOfNums nm)) from by
                              obtain ⟨g1, e1, h1⟩ := (NB2.out.grown (grown_trans HG.out hV)) o _ hnk
                              injection e1 with e1
                              injection e1 with e1 _ _
                              subst e1
                              obtain ⟨g2, e2, h2⟩ := (NB2.out.grown (grown_trans HG.out hV)) i _ HNM.out
                              injection e2 with e2
                              injection e2 with e2 _ _
                              subst e2
                              exact ⟨h1, h2⟩))
                            have dj : decide ((j : Int) < (kl : Int)) = true := by simp; omega
                            have hjI : (j : Int) < (kl : Int) := by omega
                            have hoI : (o : Int) < (m : Int) := by omega
                            have sz1 : (strOfNums nm).size = nm.length := strOfNums_size _
                            have sz2 : (strOfNums (nm ++ k.1)).size = nm.length + k.1.length := by rw [strOfNums_size, List.length_append]
                            have cut : (strOfNums (nm ++ k.1)).extract nm.length (nm.length + k.1.length) = strOfNums k.1 := by
                              rw [strOf_cut, List.take_of_length_le (Nat.le_of_eq List.length_append), List.drop_left]
                            have hle1 : nm.length ≤ nm.length + k.1.length := by omega
                            have DU := Lib.hid hd
                            have kn1 : (nm.length : Int) ≤ (nm.length : Int) + (k.1.length : Int) := by omega
                            clear DJ ho hk hkm eok elt enm hp pat kt kle hM hMl hMm kj cp0 hd hnk
                            go_wp2
                            have GXD := Lib.hid (show w0.grownBy wx.drew none from grown_drewN DU.out.grown 1)
                            refine wp_region_held_drew (S := fun V => w0.grownBy V none) (by kernel_rfl) GXD.out (fun hS => ?_)
                            refine wpAnyH_take (i := 0) (oi := ⟨some 196, _, _, _, _, _⟩) (v := Value.slice qm Ml cm) rfl (by kernel_rfl) (by kernel_rfl) (by kernel_rfl) (fun _ _ _ h => h) (Or.inl ⟨by rfl, fun V hV => ?_⟩) hS ?_
                            · go_simp
                            try simp only [Act.put, List.setIfInBounds_toArray, List.set_cons_zero, List.set_cons_succ]
                            refine wpAnyH_take (i := 1) (oi := ⟨some 197, _, _, _, _, _⟩) (v := Value.slice (some ⟨gn, 0, none⟩) m cn) rfl (by kernel_rfl) (by kernel_rfl) (by kernel_rfl) (fun _ _ _ h => h) (Or.inl ⟨by rfl, fun V hV => ?_⟩) hS ?_
                            · go_simp
                            try simp only [Act.put, List.setIfInBounds_toArray, List.set_cons_zero, List.set_cons_succ]
                            refine wpAnyH_take (i := 2) (oi := ⟨some 198, _, _, _, _, _⟩) (v := Value.int .i64 (o : Int)) rfl (by kernel_rfl) (by kernel_rfl) (by kernel_rfl) (fun _ _ _ h => h) (Or.inl ⟨by rfl, fun V hV => ?_⟩) hS ?_
                            · go_simp
                            try simp only [Act.put, List.setIfInBounds_toArray, List.set_cons_zero, List.set_cons_succ]
                            refine wpAnyH_take (i := 3) (oi := ⟨some 199, _, _, _, _, _⟩) (v := Value.pointer (some ⟨gn, o, none⟩)) rfl (by kernel_rfl) (by kernel_rfl) (by kernel_rfl) (fun _ _ _ h => h) (Or.inl ⟨by rfl, fun V hV => ?_⟩) hS ?_
                            · go_simp
                            try simp only [Act.put, List.setIfInBounds_toArray, List.set_cons_zero, List.set_cons_succ]
                            refine wpAnyH_take (i := 4) (oi := ⟨some 200, _, _, _, _, _⟩) (v := Value.string (strOfNums (nm ++ k.1))) rfl (by kernel_rfl) (by kernel_rfl) (by kernel_rfl) (fun _ _ _ h => h) (Or.inl ⟨by rfl, fun V hV => ?_⟩) hS ?_
                            · (obtain ⟨co1, co2⟩ := CO.out V hV; go_simp)
                            try simp only [Act.put, List.setIfInBounds_toArray, List.set_cons_zero, List.set_cons_succ]
                            refine wpAnyH_take (i := 5) (oi := ⟨some 201, _, _, _, _, _⟩) (v := Value.slice (some ⟨gn, 0, none⟩) m cn) rfl (by kernel_rfl) (by kernel_rfl) (by kernel_rfl) (fun _ _ _ h => h) (Or.inl ⟨by rfl, fun V hV => ?_⟩) hS ?_
                            · go_simp
                            try simp only [Act.put, List.setIfInBounds_toArray, List.set_cons_zero, List.set_cons_succ]
                            refine wpAnyH_take (i := 6) (oi := ⟨some 202, _, _, _, _, _⟩) (v := Value.int .i64 (i : Int)) rfl (by kernel_rfl) (by kernel_rfl) (by kernel_rfl) (fun _ _ _ h => h) (Or.inl ⟨by rfl, fun V hV => ?_⟩) hS ?_
                            · go_simp
                            try simp only [Act.put, List.setIfInBounds_toArray, List.set_cons_zero, List.set_cons_succ]
                            refine wpAnyH_take (i := 7) (oi := ⟨some 203, _, _, _, _, _⟩) (v := Value.pointer (some ⟨gn, i, none⟩)) rfl (by kernel_rfl) (by kernel_rfl) (by kernel_rfl) (fun _ _ _ h => h) (Or.inl ⟨by rfl, fun V hV => ?_⟩) hS ?_
                            · go_simp
                            try simp only [Act.put, List.setIfInBounds_toArray, List.set_cons_zero, List.set_cons_succ]
                            refine wpAnyH_take (i := 8) (oi := ⟨some 204, _, _, _, _, _⟩) (v := Value.string (strOfNums nm)) rfl (by kernel_rfl) (by kernel_rfl) (by kernel_rfl) (fun _ _ _ h => h) (Or.inl ⟨by rfl, fun V hV => ?_⟩) hS ?_
                            · (obtain ⟨co1, co2⟩ := CO.out V hV; go_simp)
                            try simp only [Act.put, List.setIfInBounds_toArray, List.set_cons_zero, List.set_cons_succ]
                            refine wpAnyH_take (i := 9) (oi := ⟨some 205, _, _, _, _, _⟩) (v := Value.int .i64 (nm.length : Int)) rfl (by kernel_rfl) (by kernel_rfl) (by kernel_rfl) (fun _ _ _ h => h) (Or.inl ⟨by rfl, fun V hV => ?_⟩) hS ?_
                            · go_simp
                            try simp only [Act.put, List.setIfInBounds_toArray, List.set_cons_zero, List.set_cons_succ]
                            refine wpAnyH_take (i := 10) (oi := ⟨some 206, _, _, _, _, _⟩) (v := Value.string (strOfNums k.1)) rfl (by kernel_rfl) (by kernel_rfl) (by kernel_rfl) (fun _ _ _ h => h) (Or.inl ⟨by rfl, fun V hV => ?_⟩) hS ?_
                            · go_simp
                            try simp only [Act.put, List.setIfInBounds_toArray, List.set_cons_zero, List.set_cons_succ]
                            have DX := Lib.hid (DU.out.past (grown_drewN (grown_refl wx none) 1))
                            have BLK := Lib.hid (fun X (e : (Value.slice qm Ml cm).ownBlock = some X) => (DX.out.b.lt X e).2)
                            have MN := MN.out
                            refine wpAnyH_ready (rs := [11, 12]) (by kernel_rfl) (by simp) ?_
                            refine AllReadyH.cons (o := ⟨some 207, _, _, _, _, _⟩) rfl (fun K' hK' => ?_) (AllReadyH.cons (o := ⟨some 208, _, _, _, _, _⟩) rfl (fun K' hK' => ?_) AllReadyH.nil)
                            · have R1 := Lib.hid (RowTo.refl DX.out.b)
                              have S1 := Lib.hid DX.out.grown.size
                              have L1b := Lib.hid (show M.length + k.1.length ≤ 140737488355328 by rw [← HMM.out]; omega)
                              refine step_append_sto (by with_reducible rfl) _ _ (by with_reducible rfl) (by rfl) (v := .slice qm Ml cm) (by rfl) R1.out k.1 BY.out (by rfl) L1b.out S1.out ?_
                              intro q2 c2 w3 hr3
                              rw [← HMM.out] at hr3 ⊢
                              obtain ⟨M1, hM1⟩ : ∃ M1, M1 = M ++ k.1 := ⟨_, rfl⟩
                              rw [← hM1] at hr3 MN
                              have LM := Lib.hid (show M1.length = Ml + k.1.length by rw [hM1, List.length_append, ← HMM.out])
                              have d3 := DX.out.step hr3
                              refine hK'.out _ _ d3.grown (fun hS => ?_)
                              clear hK' K' hM1 R1 S1 L1b hr3
                              try simp only [Act.put, List.setIfInBounds_toArray, List.set_cons_zero, List.set_cons_succ]
                              refine wpAnyH_ready (rs := [12]) (by kernel_rfl) (by simp) ?_
                              refine AllReadyH.cons (o := ⟨some 208, _, _, _, _, _⟩) rfl (fun K' hK' => ?_) AllReadyH.nil
                              go_simp
                              have g4 := grown1 w3 (.cells #[.int .u8 0] 5)
                              have D4 := Lib.hid (d3.past g4)
                              have I4 := Lib.hid (byte_new w3 0)
                              refine hK'.out _ _ (grown_trans hS g4) (fun hS => ?_)
                              clear hK' K' g4 d3
                              try simp only [Act.put, List.setIfInBounds_toArray, List.set_cons_zero, List.set_cons_succ]
                              have R4 := Lib.hid (RowTo.refl D4.out.b)
                              have S4 := Lib.hid D4.out.grown.size
                              have L4 := Lib.hid (show M1.length + 1 ≤ 140737488355328 by rw [LM.out]; omega)
                              refine wpAnyH_ready (rs := [13]) (by kernel_rfl) (by simp) ?_
                              refine AllReadyH.cons (o := ⟨some 209, _, _, _, _, _⟩) rfl (fun K' hK' => ?_) AllReadyH.nil
                              refine step_append_to (by with_reducible rfl) _ _ (by with_reducible rfl) (by rfl) (v := .slice q2 (Ml + k.1.length) c2) (by rfl) R4.out [0] 1 rfl (by rfl) I4.out L4.out S4.out ?_
                              intro q4 c4 w5 hr5
                              rw [LM.out] at hr5 ⊢
                              obtain ⟨M2, hM2⟩ : ∃ M2, M2 = M1 ++ [0] := ⟨_, rfl⟩
                              rw [← hM2] at hr5 MN
                              have d5 := D4.out.step hr5
                              refine hK'.out _ _ d5.grown (fun hS => ?_)
                              clear hK' K' R4 S4 L4 I4 D4
                              try simp only [Act.put, List.setIfInBounds_toArray, List.set_cons_zero, List.set_cons_succ]
                              refine wpAnyH_take (i := 14) (oi := ⟨some 12, _, _, _, _, _⟩) (v := Value.slice q4 (Ml + k.1.length + 1) c4) rfl (by kernel_rfl) (by kernel_rfl) (by kernel_rfl) (fun _ _ _ h => h) (Or.inl ⟨by rfl, fun V hV => ?_⟩) hS ?_
                              · go_simp
                              try simp only [Act.put, List.setIfInBounds_toArray, List.set_cons_zero, List.set_cons_succ]
                              refine wpAnyH_done (by kernel_rfl) ?_ _
                              have LN := Lib.hid (show M2.length = Ml + k.1.length + 1 by rw [hM2, List.length_append, LM.out]; rfl)
                              have D5 := Lib.hid d5
                              have MNH := Lib.hid MN
                              clear MN
                              have PT := Lib.hid (refput_out (n := p) hp64 w5)
                              have yp := grown_cell d5.grown CP.out
                              have hpw : IntKind.u64.wrap (p : Int) = p := by rw [IntKind.wrap_u64]; omega
                              clear hM2 hr5 d5 hS
                              go_wp2_with fail
                              refine PT.out.mono ?_
                              rintro e w6 ⟨⟨q6, c6, rfl, ho6⟩, hg6⟩
                              have I6 := Lib.hid (IsBytes.of_own rfl ho6)
                              have D6 := Lib.hid (D5.out.past hg6)
                              have R6 := Lib.hid (RowTo.refl D6.out.b)
                              have S6 := Lib.hid D6.out.grown.size
                              have L6 := Lib.hid (show M2.length + (encU p).length ≤ 140737488355328 by rw [LN.out]; omega)
                              clear ho6 hg6 D5 PT yp
                              go_wp2_with (at_builtin; refine wp_append_to rfl _ _ rfl rfl (v := .slice q4 (Ml + k.1.length + 1) c4) (by rfl) R6.out (encU p) (encU p).length rfl (by rfl) I6.out L6.out S6.out ?_)
                              intro q7 c7 w7 hr7
                              have L7 := Lib.hid hr7.len
                              have d7 := D6.out.step hr7
                              rw [MNH.out] at d7 L7
                              have D7 := Lib.hid d7
                              clear hr7 d7 R6 S6 L6 I6 D6
                              go_wp2
                              go_roundw
                              case rel => exact ⟨⟨j + 1, q7, c7, by rw [← HKL.out]; exact hjl, by go_num, by rw [L7.out], by rw [L7.out]; exact D7.out⟩⟩
                              case measure => simp [intOf]; omega
                            · go_simp
                              have g4 := grown1 wx.drew (.cells #[.int .u8 0] 5)
                              have D3 := Lib.hid (DX.out.past g4)
                              have Z3 := zero_new wx.drew
                              refine hK'.out _ _ (grown_trans hS g4) (fun hS => ?_)
                              clear hK' K' g4
                              try simp only [Act.put, List.setIfInBounds_toArray, List.set_cons_zero, List.set_cons_succ]
                              have R1 := Lib.hid (RowTo.refl D3.out.b)
                              have S1 := Lib.hid D3.out.grown.size
                              have L1b := Lib.hid (show M.length + k.1.length ≤ 140737488355328 by rw [← HMM.out]; omega)
                              refine wpAnyH_ready (rs := [11]) (by kernel_rfl) (by simp) ?_
                              refine AllReadyH.cons (o := ⟨some 207, _, _, _, _, _⟩) rfl (fun K' hK' => ?_) AllReadyH.nil
                              refine step_append_sto (by with_reducible rfl) _ _ (by with_reducible rfl) (by rfl) (v := .slice qm Ml cm) (by rfl) R1.out k.1 BY.out (by rfl) L1b.out S1.out ?_
                              intro q2 c2 w3 hr3
                              rw [← HMM.out] at hr3 ⊢
                              obtain ⟨M1, hM1⟩ : ∃ M1, M1 = M ++ k.1 := ⟨_, rfl⟩
                              rw [← hM1] at hr3 MN
                              have LM := Lib.hid (show M1.length = Ml + k.1.length by rw [hM1, List.length_append, ← HMM.out])
                              have z3 := hr3.grown.cell Z3 (fun e => absurd (BLK.out _ e.symm) (Nat.lt_irrefl _))
                              have I4 := Lib.hid (zero_is z3)
                              have D4 := Lib.hid (D3.out.step hr3)
                              refine hK'.out _ _ D4.out.grown (fun hS => ?_)
                              clear hK' K' hM1 R1 S1 L1b hr3 z3 Z3 D3
                              try simp only [Act.put, List.setIfInBounds_toArray, List.set_cons_zero, List.set_cons_succ]
                              have R4 := Lib.hid (RowTo.refl D4.out.b)
                              have S4 := Lib.hid D4.out.grown.size
                              have L4 := Lib.hid (show M1.length + 1 ≤ 140737488355328 by rw [LM.out]; omega)
                              refine wpAnyH_ready (rs := [13]) (by kernel_rfl) (by simp) ?_
                              refine AllReadyH.cons (o := ⟨some 209, _, _, _, _, _⟩) rfl (fun K' hK' => ?_) AllReadyH.nil
                              refine step_append_to (by with_reducible rfl) _ _ (by with_reducible rfl) (by rfl) (v := .slice q2 (Ml + k.1.length) c2) (by rfl) R4.out [0] 1 rfl (by rfl) I4.out L4.out S4.out ?_
                              intro q4 c4 w5 hr5
                              rw [LM.out] at hr5 ⊢
                              obtain ⟨M2, hM2⟩ : ∃ M2, M2 = M1 ++ [0] := ⟨_, rfl⟩
                              rw [← hM2] at hr5 MN
                              have d5 := D4.out.step hr5
                              refine hK'.out _ _ d5.grown (fun hS => ?_)
                              clear hK' K' R4 S4 L4 I4 D4
                              try simp only [Act.put, List.setIfInBounds_toArray, List.set_cons_zero, List.set_cons_succ]
                              refine wpAnyH_take (i := 14) (oi := ⟨some 12, _, _, _, _, _⟩) (v := Value.slice q4 (Ml + k.1.length + 1) c4) rfl (by kernel_rfl) (by kernel_rfl) (by kernel_rfl) (fun _ _ _ h => h) (Or.inl ⟨by rfl, fun V hV => ?_⟩) hS ?_
                              · go_simp
                              try simp only [Act.put, List.setIfInBounds_toArray, List.set_cons_zero, List.set_cons_succ]
                              refine wpAnyH_done (by kernel_rfl) ?_ _
                              have LN := Lib.hid (show M2.length = Ml + k.1.length + 1 by rw [hM2, List.length_append, LM.out]; rfl)
                              have D5 := Lib.hid d5
                              have MNH := Lib.hid MN
                              clear MN
                              have PT := Lib.hid (refput_out (n := p) hp64 w5)
                              have yp := grown_cell d5.grown CP.out
                              have hpw : IntKind.u64.wrap (p : Int) = p := by rw [IntKind.wrap_u64]; omega
                              clear hM2 hr5 d5 hS
                              go_wp2_with fail
                              refine PT.out.mono ?_
                              rintro e w6 ⟨⟨q6, c6, rfl, ho6⟩, hg6⟩
                              have I6 := Lib.hid (IsBytes.of_own rfl ho6)
                              have D6 := Lib.hid (D5.out.past hg6)
                              have R6 := Lib.hid (RowTo.refl D6.out.b)
                              have S6 := Lib.hid D6.out.grown.size
                              have L6 := Lib.hid (show M2.length + (encU p).length ≤ 140737488355328 by rw [LN.out]; omega)
                              clear ho6 hg6 D5 PT yp
                              go_wp2_with (at_builtin; refine wp_append_to rfl _ _ rfl rfl (v := .slice q4 (Ml + k.1.length + 1) c4) (by rfl) R6.out (encU p) (encU p).length rfl (by rfl) I6.out L6.out S6.out ?_)
                              intro q7 c7 w7 hr7
                              have L7 := Lib.hid hr7.len
                              have d7 := D6.out.step hr7
                              rw [MNH.out] at d7 L7
                              have D7 := Lib.hid d7
                              clear hr7 d7 R6 S6 L6 I6 D6
                              go_wp2
                              go_roundw
                              case rel => exact ⟨⟨j + 1, q7, c7, by rw [← HKL.out]; exact hjl, by go_num, by rw [L7.out], by rw [L7.out]; exact D7.out⟩⟩
                              case measure => simp [intOf]; omega
                          · have hje : j = kl := by have := HKL.out; omega
                            subst hje
                            have dj : decide ((j : Int) < (j : Int)) = false := by simp
                            have htk : F2 ++ (nd.kids.take j).flatMap (kidB pl) = layB pl (P.take (i + 1)) := by rw [HKL.out, List.take_length, TNX.out]
                            rw [htk, HL1.out] at hd
                            rw [htk]
                            have DD := Lib.hid hd
                            obtain ⟨PL, hPL⟩ : ∃ P', P' = (layB pl (P.take (i + 1))).length := ⟨_, rfl⟩
                            rw [← hPL]
                            have HPP := Lib.hid hPL
                            clear hd htk hPL
                            go_wp2
                            go_roundw
                            case rel => exact ⟨⟨i + 1, qm, cm, hlt, by go_num, HA9.out, by rw [HPP.out], DD.out⟩⟩
                            case measure => simp [intOf]; omega
                  · have him : m = i := by omega
                    subst him
                    have dl : decide ((m : Int) < (m : Int)) = false := by simp
                    have htk : P.take m = P := by rw [← PM.out, List.take_length]
                    rw [htk, nextL_all PM.out] at hd
                    rw [htk]
                    have e1 : placesF pl 0 P = roundsN P (t + 1) := by rw [HPL.out]; rfl
                    rw [e1] at hd
                    have D8 := Lib.hid hd
                    have HU8 := Lib.hid (HU.out.grown hd.grown)
                    obtain ⟨PL, hPL⟩ : ∃ P', P' = (layB pl P).length := ⟨_, rfl⟩
                    have HPP := Lib.hid hPL
                    have hpn : PL ≤ 558211072 := by rw [hPL]; exact PLN.out
                    rw [← hPL] at D8 ⊢
                    obtain ⟨w8, hw8⟩ : ∃ W, W = wy := ⟨_, rfl⟩
                    subst hw8
                    have RL1 := Lib.hid (show (roundsN P (t + 1)).length = m from by rw [rounds_len, PM.out])
                    have RL0 := Lib.hid (show (roundsN P t).length = m from by rw [rounds_len, PM.out])
                    have N8 := Lib.hid (IntAt.of D8.out.n)
                    rw [HPL.out] at HU8
                    have SE := Lib.hid (show RmE w8 w8 (roundsN P (t + 1)) (roundsN P t) m (.bool true) (.int .i64 0) from ⟨⟨0, true, Nat.zero_le _, rfl, rfl, by simp⟩, grown_refl _ _⟩)
                    clear hd htk e1 hPL hi hlt
                    go_wp2
                    go_loopw [18, 19] (fun v18 v19 wx => RmE w8 wx (roundsN P (t + 1)) (roundsN P t) m v18 v19) (fun _ v19 _ => m - (intOf v19).toNat)
                    case atStart => exact SE.out
                    case round =>
                      obtain ⟨⟨i, b, hi, rfl, rfl, hb⟩, hg⟩ := hrel
                      obtain ⟨wy, hwy⟩ : ∃ W, W = wr := ⟨_, rfl⟩
                      subst hwy
                      clear SE
                      have HB := Lib.hid hb
                      have GE := Lib.hid hg
                      clear hb
                      by_cases hlt : i < m
                      · have dl : decide ((i : Int) < (m : Int)) = true := by simp; omega
                        have hiI : (i : Int) < (m : Int) := by omega
                        obtain ⟨x, hx⟩ : ∃ x, (roundsN P (t + 1))[i]? = some x := ⟨_, List.getElem?_eq_getElem (by rw [RL1.out]; exact hlt)⟩
                        obtain ⟨y, hy⟩ : ∃ y, (roundsN P t)[i]? = some y := ⟨_, List.getElem?_eq_getElem (by rw [RL0.out]; exact hlt)⟩
                        have TS := Lib.hid (take_sameR hx hy)
                        obtain ⟨g1, e1, c1⟩ := (N8.out.grown hg) i (x : Int) (by have := natI_at (l := roundsN P (t + 1)) (i := i) (by rw [RL1.out]; exact hlt); rw [List.getD_eq_getElem?_getD, hx] at this; exact this)
                        injection e1 with e1
                        injection e1 with e1 _ _
                        subst e1
                        obtain ⟨gp, rfl, c0⟩ := (HU8.out.grown hg) i (y : Int) (by have := natI_at (l := roundsN P t) (i := i) (by rw [RL0.out]; exact hlt); rw [List.getD_eq_getElem?_getD, hy] at this; exact this)
                        clear hx hy hg
                        cases b
                        · go_wp2
                          go_quiet (fail)
                          go_wp2
                          go_roundw
                          case rel => exact ⟨⟨i + 1, false, hlt, by go_num, rfl, by
                            rw [TS.out]
                            constructor
                            · intro h; cases h
                            · rintro ⟨h, -⟩; exact HB.out.2 h⟩, grown_drewN GE.out _⟩
                          case measure => simp [intOf]; omega
                        · by_cases hxy : x = y
                          · subst hxy
                            have db : ((x : Int) == (x : Int)) = true := by simp
                            go_wp2
                            go_quiet (fail)
                            go_wp2
                            go_roundw
                            case rel => exact ⟨⟨i + 1, true, hlt, by go_num, rfl, by
                              rw [TS.out]
                              exact ⟨fun _ => ⟨HB.out.1 (by first | rfl | trivial), by first | rfl | trivial⟩, fun _ => by first | rfl | trivial⟩⟩, grown_drewN GE.out _⟩
                            case measure => simp [intOf]; omega
                          · have db : ((x : Int) == (y : Int)) = false := by simp; omega
                            have hxi : ¬ ((x : Int) = (y : Int)) := by omega
                            have HXY := Lib.hid hxy
                            go_wp2
                            go_quiet (fail)
                            go_wp2
                            go_roundw
                            case rel => exact ⟨⟨i + 1, false, hlt, by go_num, rfl, by
                              rw [TS.out]
                              constructor
                              · intro h; cases h
                              · rintro ⟨-, h⟩; exact absurd h HXY.out⟩, grown_drewN GE.out _⟩
                            case measure => simp [intOf]; omega
                      · have him : m = i := by omega
                        subst him
                        have dl : decide ((m : Int) < (m : Int)) = false := by simp
                        have HB2 := Lib.hid (show b = true ↔ roundsN P (t + 1) = roundsN P t from by
                          have h1 : (roundsN P (t + 1)).take m = roundsN P (t + 1) := by rw [← RL1.out, List.take_length]
                          have h2 : (roundsN P t).take m = roundsN P t := by rw [← RL0.out, List.take_length]
                          have h3 := HB.out
                          rw [h1, h2] at h3
                          exact h3)
                        have DD := Lib.hid (D8.out.past hg)
                        have ND := Lib.hid (N8.out.grown hg)
                        have GG := Lib.hid (grown_trans GW0.out (grown_trans D8.out.grown hg))
                        clear hg hlt hi
                        cases b
                        · have LT := Lib.hid (sum_lt (rounds_le P t) (fun e => by have := HB2.out.2 e.symm; cases this))
                          have RS := Lib.hid (sum_le (P := roundsN P (t + 1)) (M := 558211072) (RO.out (t + 1)).1)
                          go_wp2
                          go_roundg (m * 1099511627776 - sumN (roundsN P (t + 1)))
                          case measure => have h1 := LT.out; have h2 := RS.out; have h3 := HK.out; rw [RL1.out] at h2; omega
                          case rel => exact ⟨⟨t + 1, _, _, Nat.le_refl _, rfl, ND.out, Nat.le_refl _, by omega⟩, grown_trans HG.out (grown_trans D8.out.grown GE.out)⟩
                        · have FX := Lib.hid (show (1048576 < PL → MkIs D 11 []) ∧ (PL ≤ 1048576 → MkIs D 0 (layB pl P)) from by
                            have h := DONE.out t (HB2.out.1 (by first | rfl | trivial))
                            rw [← HPL.out] at h
                            rw [HPP.out]
                            exact h)
                          by_cases hbig : 1048576 < PL
                          · have db : decide ((1048576 : Int) < (PL : Int)) = true := by simp; omega
                            have hbI : (1048576 : Int) < (PL : Int) := by omega
                            go_wp2
                            go_ret2
                            exact ⟨⟨11, [], none, 0, rfl, FX.out.1 hbig, World.ownsRow_nil _ _ _ _⟩, GG.out⟩
                          · have db : decide ((1048576 : Int) < (PL : Int)) = false := by simp; omega
                            have hbI : ¬ ((1048576 : Int) < (PL : Int)) := by omega
                            go_wp2
                            go_ret2
                            obtain rfl := HPP.out
                            exact ⟨⟨0, layB pl P, qb, cb, rfl, FX.out.2 (by omega), Go.Joins.ownsRow_le DD.out.b GW0.out.size⟩, GG.out⟩
end Go.Proofs.Ytbnnlbdjjpmgeaa


namespace Go.Proofs.Ytbnnlbdjjpmgeaa.trieMakes
open Go.RowKit
variable {w w' W V : World}

theorem mk_bad {D : Out} {E : Int} {B : List Int} (h : MkIs D E B) (h0 : E ≠ 0) : B = [] := by
  by_cases c : mkE0 D = 0
  · by_cases hn : D = []
    · exact (h.nil hn).2
    · obtain ⟨R, t, -, -, -, a, b⟩ := h.yes c hn
      rcases Nat.lt_or_ge 1048576 (lastB R t).length with hl | hl
      · exact (a hl).2
      · exact absurd (b hl).1 h0
  · exact (h.no c).2
theorem mk_all {D : Out} {B : List Int} (h : MkIs D 0 B) (f : ExsFit D) : ∃ R, R.Perm D ∧ Up R ∧ allN B = (R, 0) := by
  by_cases hn : D = []
  · subst hn
    rw [(h.nil rfl).2]
    exact ⟨[], List.Perm.refl _, List.Pairwise.nil, rfl⟩
  · exact mkIs_all h f hn
theorem whole_all {B : List Int} {R : Out} (hb : Byt B) (ha : allN B = (R, 0)) : Whole B R := by
  refine whole_of hb ?_
  have AW := allN_walk B
  obtain ⟨⟨er, out⟩, hw⟩ : ∃ r, r = walkN B mtAll [] := ⟨_, rfl⟩
  rw [← hw] at AW
  rw [ha] at AW
  by_cases he : er = 0
  · rw [if_neg (by simp [he])] at AW
    injection AW with a1 a2
    subst he
    simp only [] at a1
    rw [← hw, ← a1]
  · rw [if_pos he] at AW
    injection AW with a1 a2
    exact absurd a2.symm he
theorem sorted_same {R D A S : Out} (hu : Up R) (hp : R.Perm D) (hb : ∀ y ∈ D, Byt y.1) (ha : Rises A) (pa : A.Perm R) (hs : Srt S) (ps : S.Perm D) : A = S := by
  refine rises_one ha hs ((pa.trans hp).trans ps.symm) (fun y hy => hb y ((pa.trans hp).mem_iff.1 hy)) ?_
  refine pa.symm.pairwise (hu.imp fun hab e => ?_) (fun h e => h e.symm)
  rw [e, nmLt_irrefl] at hab
  cases hab
set_option maxRecDepth 20000 in
set_option maxHeartbeats 1600000 in
theorem same_at (D : Out) (n : Nat) (hn : D.length = n) (q1 q2 : Option Addr) (c1 c2 : Nat) (hm : n ≤ 9223372036854775807) (h1 : ExsAt w q1 D) (h2 : ExsAt w q2 D) :
    Calls Try.prog 8 #[.slice q1 n c1, .slice q2 n c2] w fun e w' => e = .returned (.bool true) ∧ w.grownBy w' none := by
  have P := Lib.hid h1
  have Q := Lib.hid h2
  have HN := Lib.hid hn
  clear h1 h2 hn
  go_enter Try.func8, Try.ntmps8
  go_wp2
  go_loopw [5] (fun i wr => ∃ k : Nat, k ≤ n ∧ i = .int .i64 k ∧ w.grownBy wr none) (fun i _ => n - (intOf i).toNat)
  case atStart => exact ⟨0, Nat.zero_le _, rfl, grown_refl _ _⟩
  case round =>
    obtain ⟨k, hk, rfl, hg⟩ := hrel
    by_cases hlt : k < n
    · obtain ⟨y, hy⟩ : ∃ y, D[k]? = some y := ⟨_, List.getElem?_eq_getElem (by rw [HN.out]; exact hlt)⟩
      obtain ⟨g, o, rfl, a0, a1, a2, a3, a4, a5, a6⟩ := (P.out.grown hg).at hy
      obtain ⟨g', o', rfl, b0, b1, b2, b3, b4, b5, b6⟩ := (Q.out.grown hg).at hy
      have G := Lib.hid hg
      clear hy hg
      go_wp2
      go_quiet (fail)
      go_wp2
      go_roundw
      case rel => exact ⟨k + 1, hlt, by go_num, grown_drewN G.out _⟩
      case measure => simp [intOf]; omega
    · have G := Lib.hid hg
      clear hg
      go_wp2
      go_ret
      exact ⟨rfl, G.out⟩
set_option maxRecDepth 20000 in
set_option maxHeartbeats 6400000 in
theorem walk (a0 : Option Addr) (len0 cap0 : Nat) (w : World) (w0 : ∃ D : Out, D.length = len0 ∧ ExsAt w a0 D ∧ (∀ y ∈ D, ExFits y.1 y.2) ∧ len0 ≤ cap0 ∧ cap0 ≤ 9223372036854775807) :
    Calls Try.prog 3 #[.slice a0 len0 cap0] w fun e w' => e = .returned (.bool true) ∧ Below w.heap.size w w' := by
  obtain ⟨D, hD, EXS, fD, cD, mD⟩ := w0
  have K := Lib.hid (fun V => known9_any V)
  have BL := Lib.hid (fun (w' : World) (h : w.grownBy w' none) => (below_grown h (Nat.le_refl _) (fun k e => by cases e) : Below w.heap.size w w'))
  have FEW := Lib.hid (few_any (w := w) D len0 60 hD (by omega) a0 cap0 EXS)
  obtain ⟨fb, hfb⟩ : ∃ b, b = ((D.all fun y => fewB y.1 y.2) && decide (len0 ≤ 60)) := ⟨_, rfl⟩
  rw [← hfb] at FEW
  have FD := Lib.hid (show ExsFit D from ⟨fun y hy => (fD y hy).name, fun y hy => (fD y hy).other, fun y hy => (fD y hy).value, fun y hy => (fD y hy).resolver, fun y hy => (fD y hy).ordinal⟩)
  have LN := Lib.hid (fun y hy => And.intro (fD y hy).len (fD y hy).olen)
  have HX := Lib.hid EXS
  have HD := Lib.hid hD
  have HC := Lib.hid (And.intro cD mD)
  clear fD EXS hD cD mD
  cases fb
  · clear hfb
    go_enter Try.func3, Try.ntmps3
    go_wp2_with fail
    refine FEW.out.mono ?_
    rintro e w1 ⟨rfl, hw1⟩
    have hw2 := hw1.symm
    subst hw2
    clear hw1
    go_wp2_with fail
    refine (K.out _).mono ?_
    rintro e wz ⟨rfl, hg⟩
    have B := Lib.hid (BL.out _ hg)
    clear hg
    go_wp2
    go_ret
    exact ⟨rfl, B.out⟩
  have h60 : len0 ≤ 60 := by
    have := hfb.symm
    rw [Bool.and_eq_true, decide_eq_true_eq] at this
    exact this.2
  clear hfb
  have HL := Lib.hid (show (D.flatMap outCs).length = len0 * 7 by
    rw [← HD.out]
    clear FEW FD LN HX HD HC K BL
    induction D with
    | nil => rfl
    | cons y D ih => rw [List.flatMap_cons, List.length_append, ih, outCs_len, List.length_cons]; omega)
  have HH := Lib.hid (fun j u hu => HX.out.cells j u hu)
  have HO := Lib.hid (show ∀ u ∈ D.flatMap outCs, u.oneCell' = true from fun u hu => by
    obtain ⟨y, _, hu⟩ := List.mem_flatMap.1 hu
    exact outCs_one y u hu)
  go_enter Try.func3, Try.ntmps3
  go_wp2_with fail
  refine FEW.out.mono ?_
  rintro e w1 ⟨rfl, hw1⟩
  have hw2 := hw1.symm
  subst hw2
  clear hw1 FEW
  go_wp2_with (at_builtin; refine wp_append_rows exType rfl _ _ rfl rfl (.slice none 0 0) 0 [] rfl (World.ownsRow_nil _ w.heap.size 38 7) a0 len0 cap0 rfl (D.flatMap outCs) HL.out HH.out HO.out (by omega) (by decide) (Nat.le_refl _) ?_)
  intro v2 w2 ho2 hg2 hv2
  obtain ⟨q2, c2, rfl⟩ := own_slice ho2
  have G2 := Lib.hid (grown_opt (grown_refl w none) hg2 (fun g e => by cases e))
  have X2 := Lib.hid ((RowEx.of ho2).exs)
  clear ho2 hg2 hv2 HL HH HO
  have MK := Lib.hid (make_any (w := w2) HD.out FD.out (by omega) LN.out (c := cap0) (HX.out.grown G2.out))
  have RK := Lib.hid (fun (V : World) (h : w.grownBy V none) => refMake_any (w := V) HD.out FD.out (by omega) LN.out HC.out.1 HC.out.2 (HX.out.grown h))
  have SO := Lib.hid (fun (V : World) (hV : w.grownBy V none) => sorted_any len0 D a0 cap0 V HD.out (by omega) HC.out.1 HC.out.2 (HX.out.grown hV))
  go_wp2_with fail
  refine MK.out.mono ?_
  rintro e w3 ⟨⟨E, B, q3, c3, rfl, hmk, hob⟩, hg⟩
  have G3 := Lib.hid (grown_trans G2.out hg)
  have X3 := Lib.hid (X2.out.grown hg)
  have R3 := Lib.hid (RK.out w3 G3.out)
  have MI := Lib.hid hmk
  have OB := Lib.hid hob
  clear hg hmk hob MK RK X2 G2
  go_wp2_with fail
  refine R3.out.mono ?_
  rintro e w4 ⟨⟨F, C, q4, c4, rfl, hmk, hob⟩, hg⟩
  obtain ⟨rfl, rfl⟩ := MI.out.one hmk
  have G4 := Lib.hid (grown_trans G3.out hg)
  have X4 := Lib.hid (X3.out.grown hg)
  have O4 := Lib.hid (own_grown OB.out hg)
  have cv1 := (IsBytes.of_own (ys := B) rfl O4.out).text rfl
  have cv2 := (IsBytes.of_own (ys := B) rfl hob).text rfl
  obtain ⟨nb, hnb⟩ : ∃ n, n = B.length := ⟨_, rfl⟩
  rw [← hnb] at O4 cv1 cv2 ⊢
  have HNB := Lib.hid hnb
  obtain ⟨SB, hSB⟩ : ∃ s, s = strOfNums B := ⟨_, rfl⟩
  rw [← hSB] at cv1 cv2
  have SM := Lib.hid (same_at (w := w4) D len0 HD.out q2 a0 c2 cap0 (by omega) X4.out (HX.out.grown G4.out))
  clear hg hmk hob R3 G3 X3 OB hnb hSB
  go_wp2_with fail
  refine SM.out.mono ?_
  rintro e w5 ⟨rfl, hg⟩
  have G5 := Lib.hid (grown_trans G4.out hg)
  have O5 := Lib.hid (own_grown O4.out hg)
  clear hg SM X4 G4 O4 cv1 cv2
  by_cases hE : E = 0
  rotate_left
  · have dE : (E != 0) = true := by simpa using hE
    have dE2 : decide (E = 0) = false := decide_eq_false hE
    have hB := mk_bad MI.out hE
    have hn0 : nb = 0 := by rw [HNB.out, hB]; rfl
    subst hn0
    clear hB hE
    go_wp2_with fail
    refine (K.out _).mono ?_
    rintro e wz ⟨rfl, hg⟩
    have GZ := Lib.hid (BL.out _ (grown_trans G5.out hg))
    clear hg
    go_wp2
    go_ret
    exact ⟨rfl, GZ.out⟩
  subst hE
  have YB := Lib.hid (byt_made MI.out FD.out)
  obtain ⟨R, hpR, huR, haR⟩ := mk_all MI.out FD.out
  have hlb := mk_len MI.out
  have hbn : nb ≤ 1048576 := by rw [HNB.out]; exact hlb
  have AL := Lib.hid (All_any (w := w5) (n := nb) (c := c3) (IsBytes.of_own HNB.out.symm O5.out) HNB.out.symm YB.out (own_room8 O5.out) (own_max O5.out) (by omega))
  have WH := Lib.hid (whole_all YB.out haR)
  have FA := Lib.hid (fun (W : World) (h : w5.grownBy W none) (u : List Int) (hu : Byt u) (hl : u.length ≤ 9223372036854775807) => Find_any (w := W) (n := nb) (c := c3) ((IsBytes.of_own HNB.out.symm O5.out).kept h (by simp)) HNB.out.symm YB.out (own_room8 O5.out) (own_max O5.out) (by omega) u hu hl)
  have HA := Lib.hid haR
  have HR := Lib.hid (And.intro hpR huR)
  clear hpR huR haR hlb
  go_wp2_with fail
  refine AL.out.mono ?_
  rintro e w6 ⟨⟨A, qa, ca, rfl, hA, hRi, hP, hlc, hc63⟩, hg⟩
  rw [HA.out] at hP ⊢
  simp only [] at hP ⊢
  have G6 := Lib.hid (grown_trans G5.out hg)
  have H6 := Lib.hid hg
  have XA := Lib.hid hA.exs
  have RP := Lib.hid (And.intro hRi hP)
  have S6 := Lib.hid (SO.out w6 G6.out)
  have hAn : A.length = len0 := by rw [hP.length_eq, HR.out.1.length_eq, HD.out]
  rw [hAn]
  have HAN := Lib.hid hAn
  clear hA hRi hP hlc hc63 hg AL SO hAn
  go_wp2_with fail
  refine S6.out.mono ?_
  rintro e w7 ⟨⟨S, v7, rfl, ho7, hpS, hsS⟩, hg⟩
  obtain ⟨q7, c7, rfl⟩ := own_slice ho7
  obtain rfl : A = S := sorted_same HR.out.2 HR.out.1 (fun y hy => FD.out.name y hy) RP.out.1 RP.out.2 hsS hpS
  have G7 := Lib.hid (grown_trans G6.out hg)
  have H7 := Lib.hid (grown_trans H6.out hg)
  rw [HAN.out] at ho7 ⊢
  have SM := Lib.hid (same_at (w := w7) A len0 HAN.out qa q7 ca c7 (by omega) (XA.out.grown hg) ((RowEx.of ho7).exs))
  clear ho7 hpS hsS hg S6 XA RP G6 H6
  go_wp2_with fail
  refine SM.out.mono ?_
  rintro e w8 ⟨rfl, hg⟩
  have G8 := Lib.hid (grown_trans G7.out hg)
  have H8 := Lib.hid (grown_trans H7.out hg)
  clear hg SM G7 H7
  go_upto_region 14 with fail
  go_loopw [10] (fun i wr => ∃ k : Nat, k ≤ len0 ∧ i = .int .i64 (k : Int) ∧ w8.grownBy wr none) (fun i _ => len0 - (intOf i).toNat)
  case atStart => exact ⟨0, Nat.zero_le _, rfl, grown_refl _ _⟩
  case round =>
    obtain ⟨k, hk, rfl, hg⟩ := hrel
    have G9 := Lib.hid (grown_trans G8.out hg)
    have H9 := Lib.hid (grown_trans H8.out hg)
    have L9 := Lib.hid hg
    clear hg
    by_cases hlt : k < len0
    · have dk : decide ((k : Int) < (len0 : Int)) = true := by simp; omega
      have hkl : (k : Int) < (len0 : Int) := by omega
      obtain ⟨y, hy⟩ : ∃ y, D[k]? = some y := ⟨_, List.getElem?_eq_getElem (by rw [HD.out]; exact hlt)⟩
      obtain ⟨g, o, rfl, x0, x1, x2, x3, x4, x5, x6⟩ := (HX.out.grown G9.out).at hy
      have ym : y ∈ D := List.mem_of_getElem? hy
      have FN := Lib.hid ((FA.out wr H9.out y.1 (FD.out.name y ym) (LN.out y ym).1).mono (R' := fun e w' => e = .returned (.tuple #[exV (strOfNums y.1) y.2, .bool true, .int .i64 0]) ∧ wr.grownBy w' none) (fun e w' h => ⟨by have := h.ret; rw [WH.out.of_mem (HR.out.1.mem_iff.2 ym)] at this; exact this, h.grown⟩))
      have HY := Lib.hid hy
      clear hy ym
      go_wp2_with fail
      refine FN.out.mono ?_
      rintro e w10 ⟨rfl, hg⟩
      have G10 := Lib.hid (grown_trans G9.out hg)
      have L10 := Lib.hid (grown_trans L9.out hg)
      have g3 := grown1 w10 (.cells #[.string (strOfNums y.1), .int .i64 y.2.kind, .bool y.2.weak, .int .u64 y.2.value, .int .u64 y.2.resolver, .int .u64 y.2.ordinal, .string (strOfNums y.2.other)] 38)
      have E3 : ExAt (w10.alloc (.cells #[.string (strOfNums y.1), .int .i64 y.2.kind, .bool y.2.weak, .int .u64 y.2.value, .int .u64 y.2.resolver, .int .u64 y.2.ordinal, .string (strOfNums y.2.other)] 38)) w10.heap.size (strOfNums y.1) y.2 := heap_alloc_new w10 _
      obtain ⟨b0, b1, b2, b3, b4, b5, b6⟩ := E3.c
      obtain ⟨g', o', e, d0, d1, d2, d3, d4, d5, d6⟩ := (HX.out.grown (grown_trans G10.out g3)).at HY.out
      injection e with e
      injection e with e e2 _
      subst e e2
      have G11 := Lib.hid (grown_trans G10.out g3)
      have L11 := Lib.hid (grown_trans L10.out g3)
      clear hg g3 E3 x0 x1 x2 x3 x4 x5 x6
      simp only [exV, exArr]
      go_wp2_with fail
      go_quiet (fail)
      go_wp2_with fail
      go_roundw
      case rel => exact ⟨k + 1, hlt, by go_num, grown_drewN L11.out _⟩
      case measure => simp [intOf]; omega
    · have dk : decide ((k : Int) < (len0 : Int)) = false := by simp; omega
      have dk2 : decide (k < len0) = false := by simp; omega
      clear hlt
      go_wp2_with fail
      refine (K.out _).mono ?_
      rintro e wz ⟨rfl, hg⟩
      have GZ := Lib.hid (BL.out _ (grown_trans G9.out hg))
      clear hg
      go_wp2
      go_ret
      exact ⟨rfl, GZ.out⟩
end Go.Proofs.Ytbnnlbdjjpmgeaa.trieMakes

