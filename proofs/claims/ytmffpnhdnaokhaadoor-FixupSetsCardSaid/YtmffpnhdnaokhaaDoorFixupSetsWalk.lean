/- FixupSets: the set of any fixups, which are the same as sets, and whether two meet; those that were handed in stay. Condition: the library's table reads as it was laid; what is handed in is of its types. -/
import Derived.Test.YtmffpnhdnaokhaaDoorFxY
import Derived.Test.YtmffpnhdnaokhaaDoorFxW
namespace Go.Proofs.YtmffpnhdnaokhaaDoor.fixupSets
open Go.RowKit
variable {w w' W V : World}

theorem own_at {B n c g t k : Nat} {T : TypeId} {xs : List Value} (h : W.ownsRow B T k (.slice (some ⟨g, 0, none⟩) n c) n xs) (ht : t < n * k) : W.cell? ⟨g, t, none⟩ = xs[t]? := by
  obtain ⟨h1, ⟨e, _⟩ | ⟨g', cap, cur, e, hb, hg, hn, hc, hs, hx⟩⟩ := h
  · cases e
  · injection e with e _ ec
    injection e with e
    injection e with e _ _
    subst e ec
    rw [cell_of hg, ← hx, List.getElem?_take_of_lt ht, Array.getElem?_toList]
theorem setF_again (l : List Fx) : setF (setF l) = setF l := (setF_is l).again (setF_is (setF l))
/-- The first so many of the set are turned; those that were handed in are not. -/
structure StL (w9 wr : World) (lo c N : Nat) (q : Option Addr) (vi : Value) : Prop where
  ex : ∃ (k : Nat) (xs : List Value), k ≤ N ∧ vi = .int .i64 (k : Int) ∧ wr.ownsRow lo 26 7 (.slice q N c) N xs ∧ ∀ j, j < N → ∃ v : Int, xs[j * 7]? = some (.int .u64 v)
  grown : w9.grownBy wr (Value.slice q N c).ownBlock
set_option maxRecDepth 20000 in
set_option maxHeartbeats 6400000 in
theorem walk (a0 : Option Addr) (len0 cap0 : Nat) (a1 : Option Addr) (len1 cap1 : Nat) (w : World) (ht : TabOk w)
    (w0 : ∃ D : List Fx, D.length = len0 ∧ FxsAt w a0 D ∧ (∀ y ∈ D, FxOk y) ∧ len0 ≤ cap0 ∧ cap0 ≤ 9223372036854775807)
    (w1 : ∃ D : List Fx, D.length = len1 ∧ FxsAt w a1 D ∧ (∀ y ∈ D, FxOk y) ∧ len1 ≤ cap1 ∧ cap1 ≤ 9223372036854775807) :
    Calls Tryd.prog 5 #[.slice a0 len0 cap0, .slice a1 len1 cap1] w fun e w' => e = .returned (.bool true) ∧ w.grownBy w' none := by
  obtain ⟨A, hA, h0, f0, cA, mA⟩ := w0
  obtain ⟨B, hB, h1, f1, cB, mB⟩ := w1
  have TK := Lib.hid (fun (V : World) (h : w.grownBy V none) => known_any (ht.grown h))
  clear ht
  by_cases hn0 : 60 < len0
  · have d0 : decide ((60 : Int) < (len0 : Int)) = true := by simp; omega
    clear h0 h1 f0 f1 hA hB cA cB mA mB
    go_enter Tryd.func5, Tryd.ntmps5
    go_wp2_with fail
    refine (TK.out _ (grown_refl w none)).mono ?_
    rintro e wz ⟨rfl, hg⟩
    have GZ := Lib.hid (grown_trans (grown_refl w none) hg)
    clear hg
    go_wp2
    go_ret
    exact ⟨rfl, GZ.out⟩
  have d0 : decide ((60 : Int) < (len0 : Int)) = false := by simp; omega
  by_cases hn1 : 60 < len1
  · have d1 : decide ((60 : Int) < (len1 : Int)) = true := by simp; omega
    clear h0 h1 f0 f1 hA hB cA cB mA mB
    go_enter Tryd.func5, Tryd.ntmps5
    go_wp2_with fail
    refine (TK.out _ (grown_refl w none)).mono ?_
    rintro e wz ⟨rfl, hg⟩
    have GZ := Lib.hid (grown_trans (grown_refl w none) hg)
    clear hg
    go_wp2
    go_ret
    exact ⟨rfl, GZ.out⟩
  have d1 : decide ((60 : Int) < (len1 : Int)) = false := by simp; omega
  have HA := Lib.hid hA
  have HB := Lib.hid hB
  have H0 := Lib.hid h0
  have H1 := Lib.hid h1
  have F0 := Lib.hid f0
  have CA := Lib.hid (And.intro cA mA)
  have LS := Lib.hid (show (setF A).length ≤ 60 by have := setF_len A; omega)
  have HL := Lib.hid (show (A.flatMap fxCs).length = len0 * 7 by rw [flat_len fxCs_len, hA])
  have HO := Lib.hid (fxCs_flat_one A)
  have HC := Lib.hid h0.cells
  clear hA hB h0 h1 f0 f1 cA cB mA mB
  go_enter Tryd.func5, Tryd.ntmps5
  go_upto_region 4 with (at_builtin; refine wp_append_rows fxType rfl _ _ rfl rfl (.slice none 0 0) 0 [] rfl (World.ownsRow_nil w w.heap.size 26 7) a0 len0 cap0 rfl (A.flatMap fxCs) HL.out HC.out HO.out (by omega) (by decide) (Nat.le_refl _) ?_)
  intro v5 w2 ho5 hg5 _
  try rw [Nat.zero_add] at ho5
  try rw [List.nil_append] at ho5
  obtain ⟨q1, c1, rfl⟩ := own_slice ho5
  have G2 := Lib.hid (show w.grownBy w2 none from hg5)
  have O2 := Lib.hid ho5
  have R2 := Lib.hid (FxsAt.of ho5)
  clear ho5 hg5 HL HO HC
  go_wp2_with fail
  refine (Set_any HA.out (by omega) R2.out).mono ?_
  rintro e w3 ⟨⟨q2, c2, rfl, ho⟩, hg⟩
  obtain ⟨S, hS⟩ : ∃ S, S = setF A := ⟨_, rfl⟩
  rw [← hS] at ho LS ⊢
  have SA := Lib.hid (show setF S = S by rw [hS]; exact setF_again A)
  have HS := Lib.hid hS
  obtain ⟨N, hN⟩ : ∃ N, N = S.length := ⟨_, rfl⟩
  rw [← hN] at ho LS ⊢
  have HN := Lib.hid hN.symm
  have G3 := Lib.hid (grown_trans G2.out hg)
  have S3 := Lib.hid hg
  have O3 := Lib.hid ho
  have T3 := Lib.hid (FxsAt.of ho)
  have hN60 := LS.out
  clear ho hg hS hN
  go_wp2_with fail
  refine (refSet_any HA.out (by omega) (H0.out.same G3.out)).mono ?_
  rintro e w4 ⟨⟨q3, c3, rfl, ho⟩, hg⟩
  rw [← HS.out, HN.out] at ho ⊢
  have G4 := Lib.hid (grown_trans G3.out hg)
  have S4 := Lib.hid hg
  have T4 := Lib.hid (FxsAt.of ho)
  clear ho hg
  have EQ := Lib.hid (refEqual_any (ca := c2) (cb := c3) HN.out HN.out (by omega) (by omega) (T3.out.same S4.out) T4.out)
  rw [decide_eq_true rfl] at EQ
  go_wp2_with fail
  refine EQ.out.mono ?_
  rintro e w5 ⟨rfl, hg⟩
  have G5 := Lib.hid (grown_trans G4.out hg)
  have S5 := Lib.hid (grown_trans S4.out hg)
  clear hg EQ T4
  have EQ := Lib.hid (refEqual_any (ca := c1) (cb := cap0) HA.out HA.out (by omega) (by omega) (R2.out.same (grown_trans S3.out S5.out)) (H0.out.same G5.out))
  rw [decide_eq_true rfl] at EQ
  go_wp2_with fail
  refine EQ.out.mono ?_
  rintro e w6 ⟨rfl, hg⟩
  have G6 := Lib.hid (grown_trans G5.out hg)
  have S6 := Lib.hid (grown_trans S5.out hg)
  clear hg EQ
  go_wp2_with fail
  refine (Set_any HN.out (by omega) (T3.out.same S6.out)).mono ?_
  rintro e w7 ⟨⟨q4, c4, rfl, ho⟩, hg⟩
  rw [SA.out, HN.out] at ho ⊢
  have G7 := Lib.hid (grown_trans G6.out hg)
  have S7 := Lib.hid (grown_trans S6.out hg)
  have T7 := Lib.hid (FxsAt.of ho)
  clear ho hg
  have EQ := Lib.hid (refEqual_any (ca := c4) (cb := c2) HN.out HN.out (by omega) (by omega) T7.out (T3.out.same S7.out))
  rw [decide_eq_true rfl] at EQ
  go_wp2_with fail
  refine EQ.out.mono ?_
  rintro e w8 ⟨rfl, hg⟩
  have G8 := Lib.hid (grown_trans G7.out hg)
  have S8 := Lib.hid (grown_trans S7.out hg)
  clear hg EQ T7
  obtain ⟨sb, hsb⟩ : ∃ b, b = decide (setF A = setF B) := ⟨_, rfl⟩
  have HSB := Lib.hid hsb
  clear hsb
  have M1 := Lib.hid (show ∀ V, w.grownBy V none → Calls Tryd.prog 15 #[.slice a0 len0 cap0, .slice a1 len1 cap1] V fun e w' => e = .returned (.bool sb) ∧ V.grownBy w' none from fun V hV => by
    have := Same_any (w := V) (ca := cap0) (cb := cap1) HA.out HB.out (by omega) (by omega) (H0.out.same hV) (H1.out.same hV)
    rw [← HSB.out] at this
    exact this)
  have M2 := Lib.hid (show ∀ V, w.grownBy V none → Calls Tryd.prog 16 #[.slice a0 len0 cap0, .slice a1 len1 cap1] V fun e w' => e = .returned (.bool sb) ∧ V.grownBy w' none from fun V hV => by
    have := refSame_any (w := V) (ca := cap0) (cb := cap1) HA.out HB.out (by omega) (by omega) (H0.out.same hV) (H1.out.same hV)
    rw [← HSB.out] at this
    exact this)
  have M3 := Lib.hid (show ∀ V, w3.grownBy V none → Calls Tryd.prog 15 #[.slice a0 len0 cap0, .slice q2 N c2] V fun e w' => e = .returned (.bool true) ∧ V.grownBy w' none from fun V hV => by
    have := Same_any (w := V) (ca := cap0) (cb := c2) HA.out HN.out (by omega) (by omega) (H0.out.same (grown_trans G3.out hV)) (T3.out.same hV)
    rw [SA.out, ← HS.out, decide_eq_true rfl] at this
    exact this)
  go_wp2_with fail
  refine (M1.out _ G8.out).mono ?_
  rintro e w9 ⟨rfl, hg⟩
  have G9 := Lib.hid (grown_trans G8.out hg)
  have S9 := Lib.hid (grown_trans S8.out hg)
  clear hg
  go_wp2_with fail
  refine (M2.out _ G9.out).mono ?_
  rintro e wa ⟨rfl, hg⟩
  have GA := Lib.hid (grown_trans G9.out hg)
  have SA' := Lib.hid (grown_trans S9.out hg)
  clear hg
  go_wp2_with fail
  refine (M3.out _ SA'.out).mono ?_
  rintro e wb ⟨rfl, hg⟩
  have GB := Lib.hid (grown_trans GA.out hg)
  have SB := Lib.hid (grown_trans SA'.out hg)
  clear hg
  go_wp2_with fail
  refine (Meet_any HA.out (by omega) (H0.out.same GB.out) F0.out).mono ?_
  rintro e wc ⟨⟨b1, rfl, hb1⟩, hg⟩
  have GC := Lib.hid (grown_trans GB.out hg)
  have SC := Lib.hid (grown_trans SB.out hg)
  have B1 := Lib.hid hb1
  clear hg hb1
  go_wp2_with fail
  refine (refMeet_any HA.out (by omega) (H0.out.same GC.out) F0.out).mono ?_
  rintro e wd ⟨⟨b2, rfl, hb2⟩, hg⟩
  have GD := Lib.hid (grown_trans GC.out hg)
  have SD := Lib.hid (grown_trans SC.out hg)
  obtain rfl : b1 = b2 := by
    have h := B1.out.trans hb2.symm
    cases b1 <;> cases b2 <;> simp_all
  have OD := Lib.hid (own_grown O3.out SD.out)
  have XD := Lib.hid (show ∀ j, j < N → ∃ v : Int, (S.flatMap fxCs)[j * 7]? = some (.int .u64 v) from fun j hj => by
    have hx : S[j]? = some (S[j]'(by rw [HN.out]; exact hj)) := List.getElem?_eq_getElem _
    have := flat_at fxCs_len S j 0 _ hx (by decide)
    rw [Nat.add_zero] at this
    exact ⟨_, this⟩)
  have LB := Lib.hid (show ∀ g, (Value.slice q2 N c2).ownBlock = some g → w2.heap.size ≤ g from fun g hg => (O3.out.lt g hg).1)
  have R1 := Lib.hid (show ∀ g o, q1 = some ⟨g, o, none⟩ → g < w2.heap.size from fun g o e => (O2.out.lt g (by rw [e]; rfl)).2)
  clear hg hb2 B1 M1 M2 M3 O3 T3
  go_upto_region 10 with fail
  go_loopw [7] (fun vi wr => StL wd wr w2.heap.size c2 N q2 vi) (fun vi _ => N - (intOf vi).toNat)
  case atStart => exact ⟨⟨0, _, Nat.zero_le _, rfl, OD.out, XD.out⟩, grown_refl _ _⟩
  case round =>
    obtain ⟨⟨k, xs, hk, rfl, hO, hxs⟩, hg⟩ := hrel
    have O := Lib.hid hO
    have X := Lib.hid hxs
    have G := Lib.hid hg
    clear hxs hg
    by_cases hlt : k < N
    · obtain ⟨g, rfl⟩ : ∃ g, q2 = some ⟨g, 0, none⟩ := by
        rcases hO.2 with ⟨_, e0⟩ | ⟨g, cap, cur, e, hb, _⟩
        · omega
        · injection e with e _ _
          exact ⟨g, e⟩
      obtain ⟨v, hv⟩ := X.out k hlt
      have c0 := own_at hO (t := k * 7) (by omega)
      rw [hv] at c0
      have z0 := own_free hO (k * 7)
      have hkI : (k : Int) < (N : Int) := by omega
      have dk : decide ((k : Int) < (N : Int)) = true := by simp; omega
      obtain ⟨u, hu⟩ : ∃ u, IntKind.u64.wrap (v + 1) = u := ⟨_, rfl⟩
      have O7 := Lib.hid (own_set (i := k * 7) hO (.int .u64 u))
      have G7 := Lib.hid (grown_setCell (i := k * 7) (w' := wr) (show wd.grownBy wr (some g) from G.out) (.int .u64 u))
      have X7 := Lib.hid (show ∀ j, j < N → ∃ v : Int, (xs.set (k * 7) (.int .u64 u))[j * 7]? = some (.int .u64 v) from fun j hj => by
        by_cases e : j = k
        · subst e
          refine ⟨u, ?_⟩
          obtain ⟨v, hv⟩ := X.out j hj
          rw [List.getElem?_set_self (List.getElem?_eq_some_iff.1 hv).1]
        · rw [List.getElem?_set_ne (by omega)]
          exact X.out j hj)
      clear hO hv
      go_wp2_with fail
      go_roundw
      case rel => exact ⟨⟨k + 1, _, hlt, by go_num, O7.out, X7.out⟩, G7.out⟩
      case measure => simp [intOf]; omega
    · have GE := Lib.hid (show w.grownBy wr none from grown_opt GD.out G.out (fun g e => Nat.le_trans G2.out.size (LB.out g e)))
      have RO := Lib.hid (show FxsAt wr q1 A from (R2.out.same (grown_trans S3.out SD.out)).grown G.out (fun g o e e2 => by
        have h1 := R1.out g o e
        have h2 := LB.out g e2
        omega))
      have EQ := Lib.hid (refEqual_any (ca := c1) (cb := cap0) HA.out HA.out (by omega) (by omega) RO.out (H0.out.same GE.out))
      rw [decide_eq_true rfl] at EQ
      clear hO
      go_wp2_with fail
      refine EQ.out.mono ?_
      rintro e we ⟨rfl, hg⟩
      have GF := Lib.hid (grown_trans GE.out hg)
      clear hg
      go_wp2_with fail
      refine (TK.out _ GF.out).mono ?_
      rintro e wz ⟨rfl, hg⟩
      have GZ := Lib.hid (grown_trans GF.out hg)
      clear hg
      go_wp2
      go_ret
      exact ⟨rfl, GZ.out⟩
end Go.Proofs.YtmffpnhdnaokhaaDoor.fixupSets
