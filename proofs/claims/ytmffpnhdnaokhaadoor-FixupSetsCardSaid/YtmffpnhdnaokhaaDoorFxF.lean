/- slices.CompactFunc at fixups in order: neighbours that are alike are put together. Condition: they lie in a row of one's own. -/
import Derived.Test.YtmffpnhdnaokhaaDoorFxB
import Derived.Test.YtmffpnhdnaokhaaDoorQld
import Derived.Lib.QuietBelow
import Derived.Deep.LoopGhost
namespace Go.Proofs.YtmffpnhdnaokhaaDoor
open Go.RowKit
variable {w w' W V : World}

theorem own_capF {base n c : Nat} {q : Option Addr} {T : TypeId} {k : Nat} {l : List Value} (h : w.ownsRow base T k (.slice q n c) n l) : n ≤ c ∧ c ≤ 9223372036854775807 := by
  rcases h.2 with ⟨e, h0⟩ | ⟨g, cap, cur, e, _, _, hle, hm, _⟩
  · injection e with _ e2 e3
    omega
  · injection e with _ e2 e3
    subst e3
    unfold maxLen at hm
    omega
theorem load_fxin {g o : Nat} {x : Fx} (h : FxIn W g o x) : (loadVar 26 ⟨g, o, none⟩).run Tryd.prog W = .ok (fxV x) W :=
  run_loadVar_mid (P := Tryd.prog) W g o 26 (fxCs x) _ (fun j v hv => by have hj : j < 7 := (List.getElem?_eq_some_iff.1 hv).1; rw [← hv]; exact h j hj) Tryd.underlying26 rfl (by kernel_rfl)
theorem own_in {B n c g i : Nat} {X : List Fx} {x : Fx} (h : W.ownsRow B 26 7 (.slice (some ⟨g, 0, none⟩) n c) n (X.flatMap fxCs)) (hx : X[i]? = some x) : FxIn W g (i * 7) x := by
  obtain ⟨g', o, e, hc⟩ := FxsAt.of h i x hx
  have e2 : g' = g ∧ o = 0 := by
    obtain ⟨g2, e3, -⟩ := row_cell fxCs_len h hx (j := 0) (by decide)
    have h0 := h.2
    injection e with e
    injection e with e4 e5 _
    exact ⟨e4.symm, e5.symm⟩
  obtain ⟨rfl, rfl⟩ := e2
  rw [Nat.zero_add] at hc
  exact hc
def alikeV (gc : Nat) : Value := .func (.func 65) #[] #[.pointer (some ⟨gc, 0, none⟩)]
def OrdAt (w : World) (gc : Nat) : Prop := OneAt w gc (.func (.func 11) #[] #[]) 34
/-- No two neighbours are alike, so far. -/
structure CmpL (w wr : World) (R : List Fx) (n : Nat) (vi : Value) : Prop where
  ex : ∃ k : Nat, 1 ≤ k ∧ k ≤ n ∧ vi = .int .i64 (k : Int) ∧ dedF (R.take k) = R.take k
  grown : w.grownBy wr none
/-- Those that are kept lie ahead; those that are still to be looked at lie as they did. -/
structure CmpX (R : List Fx) (n m k' : Nat) (X : List Fx) : Prop where
  len : X.length = n
  ahead : X.take k' = dedF (R.take m)
  le : k' < m
  behind : ∀ i, m ≤ i + 1 → X[i]? = R[i]?
structure CmpM (w wr : World) (lo c g : Nat) (R : List Fx) (n k : Nat) (v5 v7 : Value) : Prop where
  ex : ∃ (k' k2 : Nat) (X : List Fx), 1 ≤ k2 ∧ k + k2 ≤ n ∧ v5 = .int .i64 (k' : Int) ∧ v7 = .int .i64 (k2 : Int) ∧ CmpX R n (k + k2) k' X ∧ wr.ownsRow lo 26 7 (.slice (some ⟨g, 0, none⟩) n c) n (X.flatMap fxCs)
  grown : w.grownBy wr (some g)
theorem CmpX.start {R : List Fx} {n k : Nat} {x y : Fx} (hR : R.length = n) (hk : 1 ≤ k) (hd : dedF (R.take k) = R.take k) (hx : R[k]? = some x) (hy : R[k - 1]? = some y) (he : ordN x y = 0) : CmpX R n (k + 1) k R := by
  obtain ⟨j, rfl⟩ : ∃ j, k = j + 1 := ⟨k - 1, by omega⟩
  refine ⟨hR, ?_, by omega, fun i _ => rfl⟩
  rw [show j + 1 + 1 = j + 2 from rfl, ded_next (by simpa using hy) hx, if_pos he, hd]
theorem CmpX.lenL {R X : List Fx} {n m k' : Nat} (h : CmpX R n m k' X) (hm : m ≤ n) : (dedF (R.take m)).length = k' := by
  rw [← h.ahead, List.length_take, h.len]
  have := h.le
  omega
theorem CmpX.skip {R X : List Fx} {n m k' : Nat} {u v : Fx} (h : CmpX R n m k' X) (hm : 1 ≤ m) (hu : R[m]? = some u) (hv : R[m - 1]? = some v) (he : ordN u v = 0) : CmpX R n (m + 1) k' X := by
  obtain ⟨j, rfl⟩ : ∃ j, m = j + 1 := ⟨m - 1, by omega⟩
  refine ⟨h.len, ?_, by have := h.le; omega, fun i hi => h.behind i (by omega)⟩
  rw [show j + 1 + 1 = j + 2 from rfl, ded_next (by simpa using hv) hu, if_pos he, h.ahead]
theorem CmpX.keep {R X : List Fx} {n m k' : Nat} {u v : Fx} (h : CmpX R n m k' X) (hm : 1 ≤ m) (hn : m < n) (hu : R[m]? = some u) (hv : R[m - 1]? = some v) (he : ¬ ordN u v = 0) : CmpX R n (m + 1) (k' + 1) (X.set k' u) := by
  obtain ⟨j, rfl⟩ : ∃ j, m = j + 1 := ⟨m - 1, by omega⟩
  have hl := h.le
  have hX := h.len
  refine ⟨by rw [List.length_set]; exact h.len, ?_, by omega, fun i hi => ?_⟩
  · rw [show j + 1 + 1 = j + 2 from rfl, ded_next (by simpa using hv) hu, if_neg he, ← h.ahead]
    have hk : k' < (X.set k' u).length := by rw [List.length_set]; omega
    rw [List.take_succ_eq_append_getElem hk, List.getElem_set_self, List.take_set_of_le (Nat.le_refl _)]
  · rw [List.getElem?_set_ne (by omega)]
    exact h.behind i (by omega)
theorem flat_take {α : Type} {f : α → List Value} {k : Nat} (hf : ∀ x, (f x).length = k) (l : List α) (i : Nat) : (l.flatMap f).take (i * k) = (l.take i).flatMap f := by
  conv => lhs; rw [← List.take_append_drop i l, List.flatMap_append]
  by_cases h : i ≤ l.length
  · rw [List.take_left' (by rw [flat_len hf, List.length_take, Nat.min_eq_left h])]
  · rw [List.drop_eq_nil_of_le (by omega), List.flatMap_nil, List.append_nil, List.take_of_length_le (by rw [flat_len hf, List.length_take]; exact Nat.mul_le_mul_right k (Nat.min_le_left _ _))]
/-- What it comes to. -/
structure CmpO (w w' : World) (lo c g : Nat) (R : List Fx) (e : Ending) : Prop where
  ret : e = .returned (.slice (some ⟨g, 0, none⟩) (dedF R).length c)
  own : w'.ownsRow lo 26 7 (.slice (some ⟨g, 0, none⟩) (dedF R).length c) (dedF R).length ((dedF R).flatMap fxCs)
  grown : w.grownBy w' (some g)
theorem ded_short {R : List Fx} (h : R.length < 2) : dedF R = R := by
  match R, h with
  | [], _ => rfl
  | [_], _ => rfl
set_option maxRecDepth 20000 in
theorem compact_few {q : Option Addr} {n c : Nat} (hn : n < 2) (f : Value) (w : World) : Calls Tryd.prog 64 #[.slice q n c, f] w fun e w' => e = .returned (.slice q n c) ∧ w' = w := by
  have d1 : decide ((n : Int) < 2) = true := by simp; omega
  go_enter Tryd.func64, Tryd.ntmps64
  go_wp2
  go_ret
  exact ⟨rfl, rfl⟩
set_option maxRecDepth 20000 in
set_option maxHeartbeats 3200000 in
theorem compact_any {R : List Fx} {n c lo g gc : Nat} (hR : R.length = n) (hn : n ≤ 1000000000) (h : w.ownsRow lo 26 7 (.slice (some ⟨g, 0, none⟩) n c) n (R.flatMap fxCs)) (hc : OrdAt w gc) (hne : g ≠ gc) :
    Calls Tryd.prog 64 #[.slice (some ⟨g, 0, none⟩) n c, alikeV gc] w fun e w' => CmpO w w' lo c g R e := by
  by_cases h2 : n < 2
  · refine (compact_few h2 _ w).mono ?_
    rintro e w' ⟨rfl, rfl⟩
    have e := ded_short (R := R) (by omega)
    exact ⟨by rw [e, hR], by rw [e, hR]; exact h, grown_refl _ _⟩
  obtain ⟨hcap, hmax⟩ := own_capF h
  have d2 : decide ((n : Int) < 2) = false := by simp; omega
  have HR := Lib.hid hR
  have H := Lib.hid h
  have HC := Lib.hid hc
  have HNE := Lib.hid hne
  have e1 : ∀ args V, (callFunc 65 args).run Tryd.prog V = .ok (.enter 65 args) V := Go.Proofs.enters_of Tryd.func65 (by kernel_rfl) rfl
  have D1 := Lib.hid (ded_one (R := R) (by omega))
  clear hR h hc hne
  unfold alikeV
  go_enter Tryd.func64, Tryd.ntmps64
  go_wp2_with fail
  go_loopw [5] (fun vi wr => CmpL w wr R n vi) (fun vi _ => n - (intOf vi).toNat)
  case atStart => exact ⟨⟨1, Nat.le_refl _, by omega, rfl, D1.out⟩, grown_refl _ _⟩
  case round =>
    obtain ⟨⟨k, hk1, hk, rfl, hd⟩, hg⟩ := hrel
    have G := Lib.hid hg
    have DD := Lib.hid hd
    have OW := Lib.hid (own_grown H.out hg)
    clear hd
    by_cases hlt : k < n
    · obtain ⟨x, hx⟩ : ∃ x, R[k]? = some x := ⟨_, List.getElem?_eq_getElem (by rw [HR.out]; exact hlt)⟩
      obtain ⟨y, hy⟩ : ∃ y, R[k - 1]? = some y := ⟨_, List.getElem?_eq_getElem (by rw [HR.out]; omega)⟩
      have XY := Lib.hid (And.intro hx hy)
      have dl : decide ((k : Int) < (n : Int)) = true := by simp; omega
      have hkI : (k : Int) < (n : Int) := by omega
      obtain ⟨j, hj⟩ : ∃ j, j = k - 1 := ⟨_, rfl⟩
      have hwp : IntKind.i64.wrap ((k : Int) - 1) = (j : Int) := by rw [IntWalk.i64_in _ (by omega)]; omega
      have hjn : (j : Int) < (n : Int) := by omega
      have XY' := Lib.hid (show R[j]? = some y by rw [hj]; exact hy)
      have KG := fun d os => grown_below (below_regrown wr d os) none
      have TA := Lib.hid (fun d os => Calls.regrown_of ((alikeF_any (HC.out.grown (grown_trans G.out (KG d os))) x y).mono (fun _ _ h => (⟨h.1, below_grown h.2 (Nat.le_refl _) (by simp)⟩ : _ ∧ _))))
      have LX := Lib.hid (fun (V : World) (hV : ∃ p : Regrown, V = Go.Sort.grow (redrawn wr p.d) p.os) => (by obtain ⟨p, rfl⟩ := hV; exact load_fxin (own_in (own_grown OW.out (KG p.d p.os)) XY.out.1) : (loadVar 26 ⟨g, k * 7, none⟩).run Tryd.prog V = .ok (fxV x) V))
      have LY := Lib.hid (fun (V : World) (hV : ∃ p : Regrown, V = Go.Sort.grow (redrawn wr p.d) p.os) => (by obtain ⟨p, rfl⟩ := hV; exact load_fxin (own_in (own_grown OW.out (KG p.d p.os)) XY'.out) : (loadVar 26 ⟨g, j * 7, none⟩).run Tryd.prog V = .ok (fxV y) V))
      have HK := Lib.hid KG
      clear KG hx hy hg hj
      by_cases he : ordN x y = 0
      · rw [decide_eq_true he] at TA
        have HE := Lib.hid he
        clear he
        go_upto_region 6 with fail
        refine wp_region_quiet_below (by kernel_rfl) (by kernel_rfl) ?_
        iterate 4 (quiet_step (fail))
        refine wpQuiet_load rfl _ rfl rfl LX.out ?_
        iterate 4 (quiet_step (fail))
        refine wpQuiet_load rfl _ rfl rfl LY.out ?_
        quiet_step (with_reducible exact TA.out _ _)
        repeat (quiet_step (fail))
        refine wpQuiet_nil ?_
        intro _ hw'
        obtain ⟨⟨dq, osq⟩, hw''⟩ := hw'
        subst hw''
        have G4 := Lib.hid (grown_trans G.out (HK.out dq osq))
        have O4 := Lib.hid (own_grown OW.out (HK.out dq osq))
        generalize Go.Sort.grow (redrawn wr dq) osq = w4 at *
        have ST := Lib.hid (CmpX.start HR.out hk1 DD.out XY.out.1 XY.out.2 HE.out)
        clear LX LY TA HK XY HE DD OW G
        go_wp2_with fail
        obtain ⟨M, hM⟩ : ∃ M, n - k = M := ⟨_, rfl⟩
        obtain ⟨C2, hC2⟩ : ∃ M, c - k = M := ⟨_, rfl⟩
        rw [hM, hC2]
        have HM := Lib.hid hM
        clear hM hC2
        go_loopw [5, 7] (fun v5 v7 wr => CmpM w wr lo c g R n k v5 v7) (fun _ v7 _ => M - (intOf v7).toNat)
        case atStart => exact ⟨⟨k, 1, R, Nat.le_refl _, by omega, rfl, rfl, ST.out, O4.out⟩, grown_any G4.out _⟩
        case round =>
          obtain ⟨⟨k', k2, X, hk2, hkk, rfl, rfl, hX, hO⟩, hg5⟩ := hrel
          have HX := Lib.hid hX
          have OX := Lib.hid hO
          have G5 := Lib.hid hg5
          have hle := hX.le
          have CC := Lib.hid (show OrdAt wr gc from HC.out.kept hg5 (fun e => HNE.out (by injection e)))
          have hM0 := HM.out
          clear hX hO hg5
          by_cases hlt2 : k2 < M
          · obtain ⟨u, hu⟩ : ∃ u, R[k + k2]? = some u := ⟨_, List.getElem?_eq_getElem (by rw [HR.out]; omega)⟩
            obtain ⟨v, hv⟩ : ∃ v, R[k + k2 - 1]? = some v := ⟨_, List.getElem?_eq_getElem (by rw [HR.out]; omega)⟩
            obtain ⟨m, hm⟩ : ∃ m, m = k2 - 1 := ⟨_, rfl⟩
            have UV := Lib.hid (And.intro hu hv)
            have XU := Lib.hid (show X[k + k2]? = some u from (HX.out.behind (k + k2) (by omega)).trans hu)
            have XV := Lib.hid (show X[k + m]? = some v from (HX.out.behind (k + m) (by omega)).trans (by rw [show k + m = k + k2 - 1 by omega]; exact hv))
            obtain ⟨z, hz⟩ : ∃ z, X[k']? = some z := ⟨_, List.getElem?_eq_getElem (by rw [HX.out.len]; omega)⟩
            have XZ := Lib.hid hz
            have dl2 : decide ((k2 : Int) < (M : Int)) = true := by simp; omega
            have hk2I : (k2 : Int) < (M : Int) := by omega
            have hwm : IntKind.i64.wrap ((k2 : Int) - 1) = (m : Int) := by rw [IntWalk.i64_in _ (by omega)]; omega
            have hmM : (m : Int) < (M : Int) := by omega
            have hkn : (k' : Int) < (n : Int) := by omega
            have FCT := Lib.hid (show k + k2 < n ∧ 1 ≤ k + k2 ∧ k2 + 1 ≤ M ∧ k + (k2 + 1) ≤ n by omega)
            have KG := fun d os => grown_below (below_regrown wr d os) none
            have TA := Lib.hid (fun d os => Calls.regrown_of ((alikeF_any (CC.out.grown (KG d os)) u v).mono (fun _ _ h => (⟨h.1, below_grown h.2 (Nat.le_refl _) (by simp)⟩ : _ ∧ _))))
            have LX := Lib.hid (fun (V : World) (hV : ∃ p : Regrown, V = Go.Sort.grow (redrawn wr p.d) p.os) => (by obtain ⟨p, rfl⟩ := hV; rw [← Nat.add_mul]; exact load_fxin (own_in (own_grown OX.out (KG p.d p.os)) XU.out) : (loadVar 26 ⟨g, k * 7 + k2 * 7, none⟩).run Tryd.prog V = .ok (fxV u) V))
            have LY := Lib.hid (fun (V : World) (hV : ∃ p : Regrown, V = Go.Sort.grow (redrawn wr p.d) p.os) => (by obtain ⟨p, rfl⟩ := hV; rw [← Nat.add_mul]; exact load_fxin (own_in (own_grown OX.out (KG p.d p.os)) XV.out) : (loadVar 26 ⟨g, k * 7 + m * 7, none⟩).run Tryd.prog V = .ok (fxV v) V))
            have HK := Lib.hid KG
            clear KG hu hv hz hm hM0
            go_upto_region 11 with fail
            by_cases he : ordN u v = 0
            · rw [decide_eq_true he] at TA
              have HE := Lib.hid he
              clear he
              refine wp_region_quiet_below (by kernel_rfl) (by kernel_rfl) ?_
              iterate 4 (quiet_step (fail))
              refine wpQuiet_load rfl _ rfl rfl LX.out ?_
              iterate 4 (quiet_step (fail))
              refine wpQuiet_load rfl _ rfl rfl LY.out ?_
              quiet_step (with_reducible exact TA.out _ _)
              repeat (quiet_step (fail))
              refine wpQuiet_nil ?_
              intro _ hw'
              obtain ⟨⟨dq, osq⟩, hw''⟩ := hw'
              subst hw''
              have G6 := Lib.hid (grown_then G5.out (HK.out dq osq))
              have O6 := Lib.hid (own_grown OX.out (HK.out dq osq))
              generalize Go.Sort.grow (redrawn wr dq) osq = w6 at *
              go_wp2_with fail
              go_roundw
              case rel => exact ⟨⟨k', k2 + 1, X, by omega, FCT.out.2.2.2, rfl, by go_num, HX.out.skip FCT.out.2.1 UV.out.1 UV.out.2 HE.out, O6.out⟩, G6.out⟩
              case measure => simp [intOf]; omega
            · rw [decide_eq_false he] at TA
              have HE := Lib.hid he
              clear he
              refine wp_region_quiet_below (by kernel_rfl) (by kernel_rfl) ?_
              iterate 4 (quiet_step (fail))
              refine wpQuiet_load rfl _ rfl rfl LX.out ?_
              iterate 4 (quiet_step (fail))
              refine wpQuiet_load rfl _ rfl rfl LY.out ?_
              quiet_step (with_reducible exact TA.out _ _)
              repeat (quiet_step (fail))
              refine wpQuiet_nil ?_
              intro _ hw'
              obtain ⟨⟨dq, osq⟩, hw''⟩ := hw'
              subst hw''
              have G6 := Lib.hid (grown_then G5.out (HK.out dq osq))
              have O6 := Lib.hid (own_grown OX.out (HK.out dq osq))
              generalize Go.Sort.grow (redrawn wr dq) osq = w6 at *
              have hu6 := own_in O6.out XU.out
              rw [Nat.add_mul] at hu6
              obtain ⟨a0, a1, a2, a3, a4, a5, a6⟩ := hu6.c
              obtain ⟨b0, b1, b2, b3, b4, b5, b6⟩ := (own_in O6.out XZ.out).c
              have z0 := own_free O6.out (k' * 7)
              have z1 := own_free O6.out (k' * 7 + 1)
              have z2 := own_free O6.out (k' * 7 + 2)
              have z3 := own_free O6.out (k' * 7 + 3)
              have z4 := own_free O6.out (k' * 7 + 4)
              have z5 := own_free O6.out (k' * 7 + 5)
              have z6 := own_free O6.out (k' * 7 + 6)
              have O7 := Lib.hid (own_putF O6.out (i := k') (by rw [HX.out.len]; omega) u)
              have G7 := Lib.hid (grown_setCells (fxCs u) (k' * 7) w6 G6.out)
              clear hu6
              go_wp2_with fail
              go_roundw
              case rel => exact ⟨⟨k' + 1, k2 + 1, X.set k' u, by omega, FCT.out.2.2.2, by go_num, by go_num, HX.out.keep FCT.out.2.1 FCT.out.1 UV.out.1 UV.out.2 HE.out, O7.out⟩, G7.out⟩
              case measure => simp [intOf]; omega
          · have hend : k + k2 = n := by omega
            have hkn : k' < n := by omega
            have CL := Lib.hid (fun ty => clear_fx wr ty g (k' * 7) (n - k') (c - k') (by omega) (fun j hj => own_cell OX.out (by omega)) (fun j hj => own_free OX.out _))
            have O8 := Lib.hid (own_setCells (zerosF (n - k')) _ (k' * 7) wr OX.out)
            have G8 := Lib.hid (grown_setCells (zerosF (n - k')) (k' * 7) wr G5.out)
            have LL := Lib.hid (HX.out.lenL (by omega))
            have EA := Lib.hid (show dedF R = X.take k' by have := HX.out.ahead; rw [this, hend, ← HR.out, List.take_length])
            have hcl := CL.out
            have dl2 : decide ((k2 : Int) < (M : Int)) = false := by simp; omega
            have hkI' : (k' : Int) ≤ (n : Int) := by omega
            have hkc : (k' : Int) ≤ (c : Int) := by omega
            have ER := Lib.hid (show R.take (k + k2) = R by rw [hend, ← HR.out, List.take_length])
            clear hM0 hend
            go_wp2_with fail
            go_ret
            have EL : (dedF R).length = k' := by have := LL.out; rwa [ER.out] at this
            refine ⟨by rw [EL]; rfl, ?_, G8.out⟩
            rw [EL]
            have := own_shrink O8.out (m := k') (by omega)
            rw [setL_take, flat_take fxCs_len, ← EA.out] at this
            exact this
      · rw [decide_eq_false he] at TA
        have HE := Lib.hid he
        clear he
        go_upto_region 6 with fail
        refine wp_region_quiet_below (by kernel_rfl) (by kernel_rfl) ?_
        iterate 4 (quiet_step (fail))
        refine wpQuiet_load rfl _ rfl rfl LX.out ?_
        iterate 4 (quiet_step (fail))
        refine wpQuiet_load rfl _ rfl rfl LY.out ?_
        quiet_step (with_reducible exact TA.out _ _)
        repeat (quiet_step (fail))
        refine wpQuiet_nil ?_
        intro _ hw'
        obtain ⟨⟨dq, osq⟩, hw''⟩ := hw'
        subst hw''
        have G4 := Lib.hid (grown_trans G.out (HK.out dq osq))
        have NX := Lib.hid (show dedF (R.take (k + 1)) = R.take (k + 1) by
          obtain ⟨i, rfl⟩ : ∃ i, k = i + 1 := ⟨k - 1, by omega⟩
          have h1 := ded_next (by simpa using XY.out.2) XY.out.1
          rw [if_neg HE.out, DD.out] at h1
          rw [show i + 1 + 1 = i + 2 from rfl, h1]
          obtain ⟨h3, h4⟩ := List.getElem?_eq_some_iff.1 XY.out.1
          rw [← h4, ← List.take_succ_eq_append_getElem h3])
        generalize Go.Sort.grow (redrawn wr dq) osq = w4 at *
        go_wp2_with fail
        go_roundw
        case rel => exact ⟨⟨k + 1, by omega, hlt, by go_num, NX.out⟩, G4.out⟩
        case measure => simp [intOf]; omega
    · obtain rfl : k = n := by omega
      have e : Hid (dedF R = R) := Lib.hid (by have := DD.out; rwa [← HR.out, List.take_length] at this)
      clear hg
      go_wp2_with fail
      go_ret
      exact ⟨by rw [e.out, HR.out]; rfl, by rw [e.out, HR.out]; exact OW.out, grown_any G.out _⟩
end Go.Proofs.YtmffpnhdnaokhaaDoor
