/- The document's Same and Meet. Conditions: what is handed in lies in memory; numbers are of their types. -/
import Derived.Test.YtmffpnhdnaokhaaDoorFxJ
import Derived.Test.YtmffpnhdnaokhaaDoorFxX
namespace Go.Proofs.YtmffpnhdnaokhaaDoor
open Go.RowKit
variable {w w' W V : World}

theorem refSame_any {A B : List Fx} {n m ca cb : Nat} {qa qb : Option Addr} (hA : A.length = n) (hB : B.length = m) (hn : n ≤ 1000000) (hm : m ≤ 1000000) (h1 : FxsAt w qa A) (h2 : FxsAt w qb B) :
    Calls Tryd.prog 16 #[.slice qa n ca, .slice qb m cb] w fun e w' => e = .returned (.bool (decide (setF A = setF B))) ∧ w.grownBy w' none := by
  obtain ⟨r, hr⟩ : ∃ r, r = decide (setF A = setF B) := ⟨_, rfl⟩
  rw [← hr]
  have HRR := Lib.hid hr
  clear hr
  have SA := Lib.hid (refSet_any (c0 := ca) hA hn h1)
  have SB := Lib.hid (fun (V : World) (hV : w.grownBy V none) => refSet_any (w := V) (c0 := cb) hB hm (h2.same hV))
  have LA := Lib.hid (show (setF A).length ≤ 1000000000 by have := setF_len A; omega)
  have LB := Lib.hid (show (setF B).length ≤ 1000000000 by have := setF_len B; omega)
  clear h1 h2 hA hB
  go_enter Tryd.func16, Tryd.ntmps16
  go_wp2_with fail
  refine SA.out.mono ?_
  rintro e w2 ⟨⟨q2, c2, rfl, ho⟩, hg⟩
  have G2 := Lib.hid hg
  have A2 := Lib.hid (FxsAt.of ho)
  clear ho hg SA
  go_wp2_with fail
  refine (SB.out w2 G2.out).mono ?_
  rintro e w3 ⟨⟨q3, c3, rfl, ho⟩, hg⟩
  have G3 := Lib.hid (grown_trans G2.out hg)
  have EQ0 := refEqual_any (ca := c2) (cb := c3) rfl rfl (by have := LA.out; omega) (by have := LB.out; omega) (A2.out.same hg) (FxsAt.of ho)
  rw [← HRR.out] at EQ0
  have EQ := Lib.hid EQ0
  clear ho hg SB A2 EQ0
  generalize (setF A).length = N1 at *
  generalize (setF B).length = N2 at *
  go_wp2_with fail
  refine EQ.out.mono ?_
  rintro e w4 ⟨rfl, hg⟩
  have G4 := Lib.hid (grown_trans G3.out hg)
  clear hg
  go_wp2
  go_ret
  exact ⟨rfl, G4.out⟩
/-- No two meet, so far. -/
structure RmO12 (w wr : World) (D : List Fx) (n : Nat) (vi : Value) : Prop where
  ex : ∃ i : Nat, i ≤ n ∧ vi = .int .i64 (i : Int) ∧ ∀ (p q : Nat) (a b : Fx), p < i → q < p → D[p]? = some a → D[q]? = some b → ¬ near a b
  grown : w.grownBy wr none
structure RmI12 (w wr : World) (D : List Fx) (i : Nat) (x : Fx) (vk : Value) : Prop where
  ex : ∃ k : Nat, k ≤ i ∧ vk = .int .i64 (k : Int) ∧ ∀ (q : Nat) (b : Fx), q < k → D[q]? = some b → ¬ near x b
  grown : w.grownBy wr none
set_option maxRecDepth 20000 in
set_option maxHeartbeats 3200000 in
theorem refMeet_any {D : List Fx} {n c : Nat} {q0 : Option Addr} (hD : D.length = n) (hn : n ≤ 1000000) (h : FxsAt w q0 D) (hf : ∀ y ∈ D, FxOk y) :
    Calls Tryd.prog 18 #[.slice q0 n c] w fun e w' => MeetO w w' D e := by
  have H := Lib.hid h
  have HD := Lib.hid hD
  have HF := Lib.hid hf
  clear h hD hf
  go_enter Tryd.func18, Tryd.ntmps18
  go_wp2_with fail
  go_loopw [3] (fun vi wr => RmO12 w wr D n vi) (fun vi _ => n - (intOf vi).toNat)
  case atStart => exact ⟨⟨0, Nat.zero_le _, rfl, fun p q a b h => by omega⟩, grown_refl _ _⟩
  case round =>
    obtain ⟨⟨i, hi, rfl, hall⟩, hg⟩ := hrel
    have AL := Lib.hid hall
    have G := Lib.hid hg
    clear hall
    by_cases hlt : i < n
    · obtain ⟨x, hx⟩ : ∃ x, D[i]? = some x := ⟨_, List.getElem?_eq_getElem (by rw [HD.out]; exact hlt)⟩
      obtain ⟨g0, o0, rfl, -⟩ := (H.out.same hg).at hx
      have HX := Lib.hid hx
      have hiI : (i : Int) < (n : Int) := by omega
      have dl : decide ((i : Int) < (n : Int)) = true := by simp; omega
      have IN := Lib.hid (fun (V : World) (hV : w.grownBy V none) (j : Nat) (z : Fx) (hz : D[j]? = some z) => (by
        obtain ⟨g', o', e, hc⟩ := (H.out.same hV) j z hz
        injection e with e
        injection e with e1 e2 _
        subst e1 e2
        exact hc : FxIn V g0 (o0 + j * 7) z))
      have OX := Lib.hid ((HF.out x (List.mem_of_getElem? hx)).at_)
      clear hx hg
      go_upto_region 5 with fail
      go_loopw [4] (fun vk wy => RmI12 wr wy D i x vk) (fun vk _ => i - (intOf vk).toNat)
      case atStart => exact ⟨⟨0, Nat.zero_le _, rfl, fun q b h => by omega⟩, grown_refl _ _⟩
      case round =>
        obtain ⟨⟨k, hk, rfl, hno⟩, hgx⟩ := hrel
        have GX := Lib.hid (grown_trans G.out hgx)
        have GY := Lib.hid hgx
        have NO := Lib.hid hno
        clear hno hgx
        by_cases hki : k < i
        · obtain ⟨y, hy⟩ : ∃ y, D[k]? = some y := ⟨_, List.getElem?_eq_getElem (by rw [HD.out]; omega)⟩
          have HY := Lib.hid hy
          have OY := (HF.out y (List.mem_of_getElem? hy)).at_
          have ox := OX.out
          have INX := Lib.hid (fun (V : World) (hV : w.grownBy V none) => (IN.out V hV i x HX.out).c)
          have INY := Lib.hid (fun (V : World) (hV : w.grownBy V none) => (IN.out V hV k y HY.out).c)
          obtain ⟨a0, a1, a2, a3, a4, a5, a6⟩ := INX.out _ GX.out
          obtain ⟨b0, b1, b2, b3, b4, b5, b6⟩ := INY.out _ GX.out
          have hkI : (k : Int) < (i : Int) := by omega
          have hkn : (k : Int) < (n : Int) := by omega
          have dk : decide ((k : Int) < (i : Int)) = true := by simp; omega
          have NQ := fun V => neq_fx x y V
          unfold fxV fxArr at NQ
          clear hy
          by_cases hs : y.at_ < x.at_
          · have ds : decide (y.at_ < x.at_) = true := decide_eq_true hs
            obtain ⟨d, hd⟩ : ∃ d, d = x.at_ - y.at_ := ⟨_, rfl⟩
            have hw : IntKind.u64.wrap (x.at_ - y.at_) = d := by rw [IntKind.wrap_u64]; omega
            have NR := Lib.hid (show near x y ↔ x ≠ y ∧ d < 8 by unfold near; rw [if_pos (by omega), hd])
            clear hd hs OY ox
            by_cases he : x = y
            · have NN := Lib.hid (show ¬ near x y from fun h => h.1 he)
              rw [decide_eq_true he] at NQ
              clear he
              go_wp2_with fail
              go_quiet (fail)
              have gq := grown_drewN (grown_refl wr none) nq
              obtain ⟨wq, hwq⟩ : ∃ W, W = wr.drewN nq := ⟨_, rfl⟩
              rw [← hwq] at gq ⊢
              have G2 := Lib.hid (grown_trans GX.out gq)
              have G2Y := Lib.hid (grown_trans GY.out gq)
              clear a0 a1 a2 a3 a4 a5 a6 b0 b1 b2 b3 b4 b5 b6 gq hwq
              obtain ⟨a0, a1, a2, a3, a4, a5, a6⟩ := INX.out _ G2.out
              obtain ⟨b0, b1, b2, b3, b4, b5, b6⟩ := INY.out _ G2.out
              go_wp2_with fail
              go_quiet (fail)
              have G3 := Lib.hid (grown_drewN G2Y.out nq)
              go_wp2_with fail
              go_roundw
              case rel => exact ⟨⟨k + 1, hki, by go_num, fun q b hq hb => by
                rcases Nat.lt_or_ge q k with c | c
                · exact NO.out q b c hb
                · obtain rfl : q = k := by omega
                  rw [HY.out] at hb
                  injection hb with hb
                  rw [← hb]; exact NN.out⟩, G3.out⟩
              case measure => simp [intOf]; omega
            · rw [decide_eq_false he] at NQ
              by_cases hd8 : d < 8
              · have d8 : decide (d < 8) = true := decide_eq_true hd8
                have YES := Lib.hid (show MeetL D from ⟨x, y, List.mem_of_getElem? HX.out, List.mem_of_getElem? HY.out, NR.out.2 ⟨he, hd8⟩⟩)
                clear he hd8
                go_wp2_with fail
                go_quiet (fail)
                have gq := grown_drewN (grown_refl wr none) nq
                obtain ⟨wq, hwq⟩ : ∃ W, W = wr.drewN nq := ⟨_, rfl⟩
                rw [← hwq] at gq ⊢
                have G2 := Lib.hid (grown_trans GX.out gq)
                have G2Y := Lib.hid (grown_trans GY.out gq)
                clear a0 a1 a2 a3 a4 a5 a6 b0 b1 b2 b3 b4 b5 b6 gq hwq
                obtain ⟨a0, a1, a2, a3, a4, a5, a6⟩ := INX.out _ G2.out
                obtain ⟨b0, b1, b2, b3, b4, b5, b6⟩ := INY.out _ G2.out
                go_wp2_with fail
                go_quiet (fail)
                have G3 := Lib.hid (grown_drewN G2Y.out nq)
                go_wp2_with fail
                go_ret
                exact ⟨⟨true, rfl, by simp [YES.out]⟩, grown_trans G.out G3.out⟩
              · have d8 : decide (d < 8) = false := decide_eq_false hd8
                have NN := Lib.hid (show ¬ near x y from fun h => hd8 (NR.out.1 h).2)
                clear he hd8
                go_wp2_with fail
                go_quiet (fail)
                have gq := grown_drewN (grown_refl wr none) nq
                obtain ⟨wq, hwq⟩ : ∃ W, W = wr.drewN nq := ⟨_, rfl⟩
                rw [← hwq] at gq ⊢
                have G2 := Lib.hid (grown_trans GX.out gq)
                have G2Y := Lib.hid (grown_trans GY.out gq)
                clear a0 a1 a2 a3 a4 a5 a6 b0 b1 b2 b3 b4 b5 b6 gq hwq
                obtain ⟨a0, a1, a2, a3, a4, a5, a6⟩ := INX.out _ G2.out
                obtain ⟨b0, b1, b2, b3, b4, b5, b6⟩ := INY.out _ G2.out
                go_wp2_with fail
                go_quiet (fail)
                have G3 := Lib.hid (grown_drewN G2Y.out nq)
                go_wp2_with fail
                go_roundw
                case rel => exact ⟨⟨k + 1, hki, by go_num, fun q b hq hb => by
                  rcases Nat.lt_or_ge q k with c | c
                  · exact NO.out q b c hb
                  · obtain rfl : q = k := by omega
                    rw [HY.out] at hb
                    injection hb with hb
                    rw [← hb]; exact NN.out⟩, G3.out⟩
                case measure => simp [intOf]; omega
          · have ds : decide (y.at_ < x.at_) = false := decide_eq_false hs
            obtain ⟨d, hd⟩ : ∃ d, d = y.at_ - x.at_ := ⟨_, rfl⟩
            have hw : IntKind.u64.wrap (y.at_ - x.at_) = d := by rw [IntKind.wrap_u64]; omega
            have NR := Lib.hid (show near x y ↔ x ≠ y ∧ d < 8 by unfold near; rw [if_neg (by omega), hd])
            clear hd hs OY ox
            by_cases he : x = y
            · have NN := Lib.hid (show ¬ near x y from fun h => h.1 he)
              rw [decide_eq_true he] at NQ
              clear he
              go_wp2_with fail
              go_quiet (fail)
              have gq := grown_drewN (grown_refl wr none) nq
              obtain ⟨wq, hwq⟩ : ∃ W, W = wr.drewN nq := ⟨_, rfl⟩
              rw [← hwq] at gq ⊢
              have G2 := Lib.hid (grown_trans GX.out gq)
              have G2Y := Lib.hid (grown_trans GY.out gq)
              clear a0 a1 a2 a3 a4 a5 a6 b0 b1 b2 b3 b4 b5 b6 gq hwq
              obtain ⟨a0, a1, a2, a3, a4, a5, a6⟩ := INX.out _ G2.out
              obtain ⟨b0, b1, b2, b3, b4, b5, b6⟩ := INY.out _ G2.out
              go_wp2_with fail
              go_quiet (fail)
              have G3 := Lib.hid (grown_drewN G2Y.out nq)
              go_wp2_with fail
              go_roundw
              case rel => exact ⟨⟨k + 1, hki, by go_num, fun q b hq hb => by
                rcases Nat.lt_or_ge q k with c | c
                · exact NO.out q b c hb
                · obtain rfl : q = k := by omega
                  rw [HY.out] at hb
                  injection hb with hb
                  rw [← hb]; exact NN.out⟩, G3.out⟩
              case measure => simp [intOf]; omega
            · rw [decide_eq_false he] at NQ
              by_cases hd8 : d < 8
              · have d8 : decide (d < 8) = true := decide_eq_true hd8
                have YES := Lib.hid (show MeetL D from ⟨x, y, List.mem_of_getElem? HX.out, List.mem_of_getElem? HY.out, NR.out.2 ⟨he, hd8⟩⟩)
                clear he hd8
                go_wp2_with fail
                go_quiet (fail)
                have gq := grown_drewN (grown_refl wr none) nq
                obtain ⟨wq, hwq⟩ : ∃ W, W = wr.drewN nq := ⟨_, rfl⟩
                rw [← hwq] at gq ⊢
                have G2 := Lib.hid (grown_trans GX.out gq)
                have G2Y := Lib.hid (grown_trans GY.out gq)
                clear a0 a1 a2 a3 a4 a5 a6 b0 b1 b2 b3 b4 b5 b6 gq hwq
                obtain ⟨a0, a1, a2, a3, a4, a5, a6⟩ := INX.out _ G2.out
                obtain ⟨b0, b1, b2, b3, b4, b5, b6⟩ := INY.out _ G2.out
                go_wp2_with fail
                go_quiet (fail)
                have G3 := Lib.hid (grown_drewN G2Y.out nq)
                go_wp2_with fail
                go_ret
                exact ⟨⟨true, rfl, by simp [YES.out]⟩, grown_trans G.out G3.out⟩
              · have d8 : decide (d < 8) = false := decide_eq_false hd8
                have NN := Lib.hid (show ¬ near x y from fun h => hd8 (NR.out.1 h).2)
                clear he hd8
                go_wp2_with fail
                go_quiet (fail)
                have gq := grown_drewN (grown_refl wr none) nq
                obtain ⟨wq, hwq⟩ : ∃ W, W = wr.drewN nq := ⟨_, rfl⟩
                rw [← hwq] at gq ⊢
                have G2 := Lib.hid (grown_trans GX.out gq)
                have G2Y := Lib.hid (grown_trans GY.out gq)
                clear a0 a1 a2 a3 a4 a5 a6 b0 b1 b2 b3 b4 b5 b6 gq hwq
                obtain ⟨a0, a1, a2, a3, a4, a5, a6⟩ := INX.out _ G2.out
                obtain ⟨b0, b1, b2, b3, b4, b5, b6⟩ := INY.out _ G2.out
                go_wp2_with fail
                go_quiet (fail)
                have G3 := Lib.hid (grown_drewN G2Y.out nq)
                go_wp2_with fail
                go_roundw
                case rel => exact ⟨⟨k + 1, hki, by go_num, fun q b hq hb => by
                  rcases Nat.lt_or_ge q k with c | c
                  · exact NO.out q b c hb
                  · obtain rfl : q = k := by omega
                    rw [HY.out] at hb
                    injection hb with hb
                    rw [← hb]; exact NN.out⟩, G3.out⟩
                case measure => simp [intOf]; omega
        · obtain rfl : k = i := by omega
          have ND := Lib.hid (show ∀ (p q : Nat) (a b : Fx), p < k + 1 → q < p → D[p]? = some a → D[q]? = some b → ¬ near a b from fun p q a b hp hq ha hb => by
            rcases Nat.lt_or_ge p k with c | c
            · exact AL.out p q a b c hq ha hb
            · obtain rfl : p = k := by omega
              rw [HX.out] at ha
              injection ha with ha
              rw [← ha]; exact NO.out q b hq hb)
          go_wp2_with fail
          go_roundw
          case rel => exact ⟨⟨k + 1, hlt, by go_num, ND.out⟩, GX.out⟩
          case measure => simp [intOf]; omega
    · have NM := Lib.hid (show ¬ MeetL D from fun ⟨a, b, ha, hb, hab⟩ => by
        obtain ⟨p, hp, rfl⟩ := List.getElem_of_mem ha
        obtain ⟨q, hq, rfl⟩ := List.getElem_of_mem hb
        rcases Nat.lt_trichotomy p q with c | c | c
        · exact AL.out q p _ _ (by rw [HD.out] at hq; omega) c (List.getElem?_eq_getElem hq) (List.getElem?_eq_getElem hp) (near_symm hab)
        · subst c; exact hab.1 rfl
        · exact AL.out p q _ _ (by rw [HD.out] at hp; omega) c (List.getElem?_eq_getElem hp) (List.getElem?_eq_getElem hq) hab)
      clear hg
      go_wp2_with fail
      go_ret
      exact ⟨⟨false, rfl, by simp [NM.out]⟩, G.out⟩
end Go.Proofs.YtmffpnhdnaokhaaDoor
