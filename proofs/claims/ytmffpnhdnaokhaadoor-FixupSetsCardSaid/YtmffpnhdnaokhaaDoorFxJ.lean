/- The document's Set: each is put in where it stands, found by halves. Conditions: what is handed in lies in memory. -/
import Derived.Test.YtmffpnhdnaokhaaDoorFxO
import Derived.Deep.Cut
import Derived.Deep.CutRange
namespace Go.Proofs.YtmffpnhdnaokhaaDoor
open Go.RowKit
variable {w w' W V : World}

theorem zero_run (W : World) : (Instr.build 26 #[]).run Tryd.prog W = .ok (.agg #[.int .u64 0, .int .i64 0, .int .u64 0, .int .i64 0, .string ⟨#[]⟩, .int .i64 0, .bool false]) W := by kernel_rfl
theorem fx0_run (c0 c1 c2 c3 c4 c5 c6 : Value) (W : World) : (Instr.buildSlice 36 1 #[(0, .agg #[c0, c1, c2, c3, c4, c5, c6])]).run Tryd.prog W = .ok (.slice (some ⟨W.heap.size, 0, none⟩) 1 1) (W.alloc (.cells #[c0, c1, c2, c3, c4, c5, c6] 26 (0, 0))) := by kernel_rfl
/-- The first so many, as a set. -/
structure RsL (w wr : World) (D : List Fx) (n : Nat) (v3 v4 : Value) : Prop where
  ex : ∃ (k : Nat) (S : List Fx) (q : Option Addr) (c : Nat), k ≤ n ∧ v4 = .int .i64 (k : Int) ∧ v3 = .slice q S.length c ∧ IsSet S (D.take k) ∧ wr.ownsRow w.heap.size 26 7 (.slice q S.length c) S.length (S.flatMap fxCs)
  grown : w.grownBy wr none
/-- By halves. -/
structure RsB (w1 wr : World) (S : List Fx) (x : Fx) (v5 v6 : Value) : Prop where
  ex : ∃ lo hi : Nat, v5 = .int .i64 (lo : Int) ∧ v6 = .int .i64 (hi : Int) ∧ lo ≤ hi ∧ hi ≤ S.length ∧ (∀ (j : Nat) (y : Fx), j < lo → S[j]? = some y → LtF y x) ∧ ∀ (j : Nat) (y : Fx), hi ≤ j → S[j]? = some y → ¬ LtF y x
  grown : w1.grownBy wr none
/-- Those behind it are moved, one after the other. -/
structure RsM (w wr : World) (S : List Fx) (lo g c : Nat) (v8 : Value) : Prop where
  ex : ∃ (p : Nat) (j : Fx), lo ≤ p ∧ p ≤ S.length ∧ v8 = .int .i64 (p : Int) ∧ wr.ownsRow w.heap.size 26 7 (.slice (some ⟨g, 0, none⟩) (S.length + 1) c) (S.length + 1) ((insAt S p j).flatMap fxCs)
  grown : w.grownBy wr none
theorem less_lt {a b : Fx} : fxLess a b = true ↔ LtF a b := by rw [less_ord]; unfold LtF; simp
theorem set_snoc {D : List Fx} {k : Nat} {x : Fx} (hx : D[k]? = some x) : D.take (k + 1) = D.take k ++ [x] := by
  obtain ⟨h, rfl⟩ := List.getElem?_eq_some_iff.1 hx
  exact List.take_succ_eq_append_getElem h
set_option maxRecDepth 20000 in
set_option maxHeartbeats 6400000 in
theorem refSet_any {D : List Fx} {n c0 : Nat} {q0 : Option Addr} (hD : D.length = n) (hn : n ≤ 1000000) (h : FxsAt w q0 D) :
    Calls Tryd.prog 14 #[.slice q0 n c0] w fun e w' => SetO w w' D e := by
  have H := Lib.hid h
  have HD := Lib.hid hD
  clear h hD
  go_enter Tryd.func14, Tryd.ntmps14
  go_wp2_with fail
  go_loopw [3, 4] (fun v3 v4 wr => RsL w wr D n v3 v4) (fun _ v4 _ => n - (intOf v4).toNat)
  case atStart => exact ⟨⟨0, [], none, 0, Nat.zero_le _, rfl, rfl, IsSet.nil, World.ownsRow_nil _ _ _ _⟩, grown_refl _ _⟩
  case round =>
    obtain ⟨⟨k, S, q, c, hk, rfl, rfl, hS, hO⟩, hg⟩ := hrel
    have IS := Lib.hid hS
    have O := Lib.hid hO
    have G := Lib.hid hg
    have hSl := hS.len
    rw [List.length_take] at hSl
    obtain ⟨hcap, hmax⟩ := own_capF hO
    clear hS hO
    by_cases hlt : k < n
    · obtain ⟨x, hx⟩ : ∃ x, D[k]? = some x := ⟨_, List.getElem?_eq_getElem (by rw [HD.out]; exact hlt)⟩
      obtain ⟨g0, o0, rfl, -⟩ := (H.out.same hg).at hx
      have HX := Lib.hid hx
      have hkI : (k : Int) < (n : Int) := by omega
      have dl : decide ((k : Int) < (n : Int)) = true := by simp; omega
      have INX := Lib.hid (fun (V : World) (hV : w.grownBy V none) => (by
        obtain ⟨g', o', e, hc⟩ := (H.out.same hV) k x HX.out
        injection e with e
        injection e with e1 e2 _
        subst e1 e2
        exact hc : FxIn V g0 (o0 + k * 7) x))
      obtain ⟨N, hN⟩ : ∃ N, N = S.length := ⟨_, rfl⟩
      have hNn : N ≤ 1000000 := by omega
      rw [← hN] at hcap O ⊢
      have HN := Lib.hid hN.symm
      clear hN hx hg hSl
      go_upto_region 6 with fail
      go_loopw [5, 6] (fun v5 v6 wx => RsB wr wx S x v5 v6) (fun v5 v6 _ => (intOf v6).toNat - (intOf v5).toNat)
      case atStart => exact ⟨⟨0, N, rfl, rfl, Nat.zero_le _, by rw [HN.out]; exact Nat.le_refl _, fun j y hj => by omega, fun j y hj hy => by have := (List.getElem?_eq_some_iff.1 hy).1; rw [HN.out] at this; omega⟩, grown_refl _ _⟩
      case round =>
        obtain ⟨⟨lo, hi, rfl, rfl, hle, hhi, hlo, hhi2⟩, hgx⟩ := hrel
        rw [HN.out] at hhi
        have GX := Lib.hid hgx
        have LO := Lib.hid hlo
        have HI := Lib.hid hhi2
        clear hgx hlo hhi2
        by_cases hlh : lo < hi
        · obtain ⟨g, rfl⟩ : ∃ g, q = some ⟨g, 0, none⟩ := by
            rcases O.out.2 with ⟨_, e0⟩ | ⟨g, cap, cur, e, hb, _⟩
            · omega
            · injection e with e _ _
              exact ⟨g, e⟩
          obtain ⟨s, hs⟩ : ∃ s, s = lo + hi := ⟨_, rfl⟩
          obtain ⟨m, hm⟩ : ∃ m, m = s / 2 := ⟨_, rfl⟩
          have hw1 : IntKind.i64.wrap ((lo : Int) + (hi : Int)) = (s : Int) := by rw [IntWalk.i64_in _ (by omega)]; omega
          have hw2 : IntKind.i64.wrap ((s : Int) / 2) = (m : Int) := by rw [IntWalk.i64_in _ (by omega)]; omega
          have hw3 : IntKind.i64.wrap (Int.tdiv (s : Int) 2) = (m : Int) := by rw [Int.tdiv_eq_ediv_of_nonneg (by omega)]; exact hw2
          have hmN : (m : Int) < (N : Int) := by omega
          have hml : lo ≤ m ∧ m < hi := by omega
          obtain ⟨y, hy⟩ : ∃ y, S[m]? = some y := ⟨_, List.getElem?_eq_getElem (by rw [HN.out]; omega)⟩
          have HY := Lib.hid hy
          have hlhI : (lo : Int) < (hi : Int) := by omega
          have FCT := Lib.hid (And.intro hml (And.intro hhi hlh))
          have KG := fun d os => grown_below (below_regrown wr d os) none
          have TA := Lib.hid (fun d os => Calls.regrown_of ((less_any y x (Go.Sort.grow (redrawn wr d) os)).mono (fun _ _ h => (⟨h.1, below_grown h.2 (Nat.le_refl _) (by simp)⟩ : _ ∧ _))))
          have LX := Lib.hid (fun (V : World) (hV : ∃ p : Regrown, V = Go.Sort.grow (redrawn wr p.d) p.os) => (by obtain ⟨p, rfl⟩ := hV; exact load_fxin (own_in (own_grown O.out (grown_trans GX.out (KG p.d p.os))) HY.out) : (loadVar 26 ⟨g, m * 7, none⟩).run Tryd.prog V = .ok (fxV y) V))
          have LY := Lib.hid (fun (V : World) (hV : ∃ p : Regrown, V = Go.Sort.grow (redrawn wr p.d) p.os) => (by obtain ⟨p, rfl⟩ := hV; exact load_fxin (INX.out _ (grown_trans G.out (grown_trans GX.out (KG p.d p.os)))) : (loadVar 26 ⟨g0, o0 + k * 7, none⟩).run Tryd.prog V = .ok (fxV x) V))
          have HK := Lib.hid KG
          clear KG hs hm hy hml
          cases hl : fxLess y x with
          | true =>
            rw [hl] at TA
            have LT := Lib.hid (less_lt.1 hl)
            clear hl
            go_upto_region 8 with fail
            refine wp_region_quiet_below (by kernel_rfl) (by kernel_rfl) ?_
            iterate 3 (quiet_step (fail))
            refine wpQuiet_load rfl _ rfl rfl LX.out ?_
            iterate 3 (quiet_step (fail))
            refine wpQuiet_load rfl _ rfl rfl LY.out ?_
            quiet_step (with_reducible exact TA.out _ _)
            repeat (quiet_step (fail))
            refine wpQuiet_nil ?_
            intro _ hw'
            obtain ⟨⟨dq, osq⟩, hw''⟩ := hw'
            subst hw''
            have G6 := Lib.hid (grown_trans GX.out (HK.out dq osq))
            generalize Go.Sort.grow (redrawn wr dq) osq = w6 at *
            go_wp2_with fail
            go_roundw
            case rel => exact ⟨⟨m + 1, hi, by go_num, rfl, FCT.out.1.2, by rw [HN.out]; exact FCT.out.2.1, fun j z hj hz => by
              rcases Nat.lt_or_ge j m with c | c
              · have h1 := (List.pairwise_iff_getElem.1 IS.out.up) j m (List.getElem?_eq_some_iff.1 hz).1 (List.getElem?_eq_some_iff.1 HY.out).1 c
                rw [(List.getElem?_eq_some_iff.1 hz).2, (List.getElem?_eq_some_iff.1 HY.out).2] at h1
                exact ltF_trans h1 LT.out
              · obtain rfl : j = m := by omega
                rw [HY.out] at hz
                injection hz with hz
                rw [← hz]; exact LT.out, HI.out⟩, G6.out⟩
            case measure => have := FCT.out; simp [intOf]; omega
          | false =>
            rw [hl] at TA
            have LT := Lib.hid (show ¬ LtF y x from fun h => by rw [less_lt.2 h] at hl; cases hl)
            clear hl
            go_upto_region 8 with fail
            refine wp_region_quiet_below (by kernel_rfl) (by kernel_rfl) ?_
            iterate 3 (quiet_step (fail))
            refine wpQuiet_load rfl _ rfl rfl LX.out ?_
            iterate 3 (quiet_step (fail))
            refine wpQuiet_load rfl _ rfl rfl LY.out ?_
            quiet_step (with_reducible exact TA.out _ _)
            repeat (quiet_step (fail))
            refine wpQuiet_nil ?_
            intro _ hw'
            obtain ⟨⟨dq, osq⟩, hw''⟩ := hw'
            subst hw''
            have G6 := Lib.hid (grown_trans GX.out (HK.out dq osq))
            generalize Go.Sort.grow (redrawn wr dq) osq = w6 at *
            go_wp2_with fail
            go_roundw
            case rel => exact ⟨⟨lo, m, rfl, by go_num, FCT.out.1.1, by rw [HN.out]; have := FCT.out; omega, LO.out, fun j z hj hz hlz => by
              rcases Nat.lt_or_ge m j with c | c
              · have h1 := (List.pairwise_iff_getElem.1 IS.out.up) m j (List.getElem?_eq_some_iff.1 HY.out).1 (List.getElem?_eq_some_iff.1 hz).1 c
                rw [(List.getElem?_eq_some_iff.1 hz).2, (List.getElem?_eq_some_iff.1 HY.out).2] at h1
                exact LT.out (ltF_trans h1 hlz)
              · obtain rfl : j = m := by omega
                rw [HY.out] at hz
                injection hz with hz
                rw [← hz] at hlz; exact LT.out hlz⟩, G6.out⟩
            case measure => have := FCT.out; simp [intOf]; omega
        · obtain rfl : lo = hi := by omega
          have W6 := Lib.hid (grown_trans G.out GX.out)
          have O6 := Lib.hid (own_grown O.out GX.out)
          clear hlh
          go_upto_region 11 with fail
          obtain ⟨tb, htb⟩ : ∃ b, b = decide (S[lo]? = some x) := ⟨_, rfl⟩
          have HTB := Lib.hid htb
          clear htb
          go_cut [50] from 36 to 50 (fun cv wy => cv = .bool tb ∧ wr.grownBy wy none)
          case first =>
            by_cases hl : lo < N
            · obtain ⟨g, rfl⟩ : ∃ g, q = some ⟨g, 0, none⟩ := by
                rcases O.out.2 with ⟨_, e0⟩ | ⟨g, cap, cur, e, hb, _⟩
                · omega
                · injection e with e _ _
                  exact ⟨g, e⟩
              obtain ⟨y, hy⟩ : ∃ y, S[lo]? = some y := ⟨_, List.getElem?_eq_getElem (by rw [HN.out]; omega)⟩
              have hb2 : decide (y = x) = tb := by rw [HTB.out, hy]; simp
              have EQ := fun V => eql_fx y x V
              unfold fxV fxArr at EQ
              rw [hb2] at EQ
              obtain ⟨a0, a1, a2, a3, a4, a5, a6⟩ := (own_in O6.out hy).c
              obtain ⟨b0, b1, b2, b3, b4, b5, b6⟩ := (INX.out _ W6.out).c
              have dl2 : decide ((lo : Int) < (N : Int)) = true := by simp; omega
              have hlI : (lo : Int) < (N : Int) := by omega
              clear hb2 hy
              go_quiet (fail)
              go_wp2_with fail
              go_meet
              exact ⟨rfl, grown_drewN (grown_refl _ _) _⟩
            · have hno : S[lo]? = none := List.getElem?_eq_none (by rw [HN.out]; omega)
              obtain rfl : tb = false := by rw [HTB.out, hno]; rfl
              have dl2 : decide ((lo : Int) < (N : Int)) = false := by simp; omega
              have hlI : ¬ (lo : Int) < (N : Int) := by omega
              clear hno
              go_quiet (fail)
              go_wp2_with fail
              go_meet
              exact ⟨rfl, grown_drewN (grown_refl _ _) _⟩
          case rest =>
            obtain ⟨rfl, gc⟩ := hcut
            have GC := Lib.hid (grown_trans W6.out gc)
            have OC := Lib.hid (own_grown O6.out gc)
            clear gc
            by_cases hth : S[lo]? = some x
            · obtain rfl : tb = true := by rw [HTB.out]; exact decide_eq_true hth
              have TH := Lib.hid hth
              clear hth
              go_wp2_with fail
              go_roundw
              case rel => exact ⟨⟨k + 1, S, q, c, hlt, by go_num, by rw [HN.out], by rw [set_snoc HX.out]; exact IS.out.there TH.out, by rw [HN.out]; exact OC.out⟩, GC.out⟩
              case measure => simp [intOf]; omega
            · obtain rfl : tb = false := by rw [HTB.out]; exact decide_eq_false hth
              have TH := Lib.hid hth
              have ZR := fun V => zero_run V
              have F0 := Lib.hid (heap_alloc_new wc (.cells #[.int .u64 0, .int .i64 0, .int .u64 0, .int .i64 0, .string ⟨#[]⟩, .int .i64 0, .bool false] 26 (0, 0)))
              have GA := Lib.hid (grown1 wc (.cells #[.int .u64 0, .int .i64 0, .int .u64 0, .int .i64 0, .string ⟨#[]⟩, .int .i64 0, .bool false] 26 (0, 0)))
              have BS := Lib.hid (show w.heap.size ≤ wc.heap.size from GC.out.size)
              clear hth
              go_wp2_with (at_builtin; refine wp_append_st fxType rfl _ _ rfl (.slice q N c) N (S.flatMap fxCs) rfl (own_grown OC.out GA.out) (fxCs fx0) rfl wc.heap.size rfl F0.out (fxCs_one fx0) (by omega) (by decide) (Nat.le_trans BS.out GA.out.size) ?_)
              intro v9 w9 ho9 hg9
              obtain ⟨q9, c9, rfl⟩ := own_slice ho9
              obtain ⟨g9, rfl, hgl9⟩ : ∃ g, q9 = some ⟨g, 0, none⟩ ∧ w.heap.size ≤ g := by
                rcases ho9.2 with ⟨_, e0⟩ | ⟨g, cap, cur, e, hb, _⟩
                · omega
                · injection e with e _ _
                  exact ⟨g, e, hb⟩
              have G9 := Lib.hid (grown_own (grown_trans GC.out GA.out) hg9 (fun g hg => (OC.out.lt g hg).1) (Nat.le_refl _))
              have O9 := Lib.hid (show w9.ownsRow w.heap.size 26 7 (.slice (some ⟨g9, 0, none⟩) (N + 1) c9) (N + 1) ((insAt S N fx0).flatMap fxCs) by
                rw [show insAt S N fx0 = S ++ [fx0] by rw [← HN.out]; exact insAt_end S fx0, List.flatMap_append]
                simpa using ho9)
              have GL := Lib.hid hgl9
              clear ho9 hg9 hgl9
              go_upto_region 14 with fail
              go_loopw [8] (fun v8 wy => RsM w wy S lo g9 c9 v8) (fun v8 _ => (intOf v8).toNat - lo)
              case atStart => exact ⟨⟨N, fx0, hhi, by rw [HN.out]; exact Nat.le_refl _, rfl, by rw [HN.out]; exact O9.out⟩, G9.out⟩
              case round =>
                obtain ⟨⟨p, j, hlp, hpN, rfl, hO⟩, hgr⟩ := hrel
                rw [HN.out] at hO hpN
                have OR := Lib.hid hO
                have GR := Lib.hid hgr
                have hgl := GL.out
                clear hO hgr
                by_cases hpl : lo < p
                · obtain ⟨r, rfl⟩ : ∃ r, p = r + 1 := ⟨p - 1, by omega⟩
                  obtain ⟨y, hy⟩ : ∃ y, S[r]? = some y := ⟨_, List.getElem?_eq_getElem (by rw [HN.out]; omega)⟩
                  obtain ⟨P0, hP0⟩ : ∃ P0, P0 = r + 1 := ⟨_, rfl⟩
                  have hj : (insAt S (r + 1) j)[r + 1]? = some j := by
                    unfold insAt
                    rw [List.getElem?_append_right (by rw [List.length_take]; omega), List.length_take, Nat.min_eq_left (by rw [HN.out]; omega), Nat.sub_self]
                    rfl
                  obtain ⟨a0, a1, a2, a3, a4, a5, a6⟩ := (own_in OR.out (insAt_prev hy)).c
                  obtain ⟨b0, b1, b2, b3, b4, b5, b6⟩ := (own_in OR.out hj).c
                  have O7 := Lib.hid (show (wr.setCells g9 (P0 * 7) (fxCs y)).ownsRow w.heap.size 26 7 (.slice (some ⟨g9, 0, none⟩) (N + 1) c9) (N + 1) ((insAt S r y).flatMap fxCs) by
                    have := own_putF OR.out (i := r + 1) (by rw [insAt_len (by rw [HN.out]; omega), HN.out]; omega) y
                    rw [insAt_step hy] at this
                    rw [hP0]; exact this)
                  have G7 := Lib.hid (grown_opt (grown_refl _ _) (grown_opt GR.out (grown_setCells (fxCs y) (P0 * 7) wr (grown_refl wr (some g9))) (fun g e => by injection e with e; omega)) (fun g e => by cases e))
                  rw [← hP0] at b0 b1 b2 b3 b4 b5 b6
                  have z0 := own_free OR.out (P0 * 7)
                  have z1 := own_free OR.out (P0 * 7 + 1)
                  have z2 := own_free OR.out (P0 * 7 + 2)
                  have z3 := own_free OR.out (P0 * 7 + 3)
                  have z4 := own_free OR.out (P0 * 7 + 4)
                  have z5 := own_free OR.out (P0 * 7 + 5)
                  have z6 := own_free OR.out (P0 * 7 + 6)
                  have hwr : IntKind.i64.wrap ((P0 : Int) - 1) = (r : Int) := by rw [IntWalk.i64_in _ (by omega)]; omega
                  have hP1 : ((r : Int) + 1) = (P0 : Int) := by omega
                  have hPN : (P0 : Int) < (N : Int) + 1 := by omega
                  have hrN : (r : Int) < (N : Int) + 1 := by omega
                  have hlI : (lo : Int) < (P0 : Int) := by omega
                  have FC := Lib.hid (show lo ≤ r ∧ r ≤ S.length ∧ r < P0 by rw [HN.out]; omega)
                  rw [← hP0]
                  clear hy hj hP0 hpN hlp hpl
                  go_wp2_with fail
                  go_roundw
                  case rel => exact ⟨⟨r, y, FC.out.1, FC.out.2.1, by go_num, by rw [HN.out]; exact O7.out⟩, G7.out⟩
                  case measure => have := FC.out; simp [intOf]; omega
                · obtain rfl : p = lo := by omega
                  have hj : (insAt S p j)[p]? = some j := by
                    unfold insAt
                    rw [List.getElem?_append_right (by rw [List.length_take]; omega), List.length_take, Nat.min_eq_left (by rw [HN.out]; omega), Nat.sub_self]
                    rfl
                  obtain ⟨P0, hP0⟩ : ∃ P0, P0 = p := ⟨_, rfl⟩
                  obtain ⟨a0, a1, a2, a3, a4, a5, a6⟩ := (INX.out _ GR.out).c
                  obtain ⟨b0, b1, b2, b3, b4, b5, b6⟩ := (own_in OR.out hj).c
                  have O7 := Lib.hid (show (wr.setCells g9 (P0 * 7) (fxCs x)).ownsRow w.heap.size 26 7 (.slice (some ⟨g9, 0, none⟩) (N + 1) c9) (N + 1) ((insAt S p x).flatMap fxCs) by
                    have := own_putF OR.out (i := p) (by rw [insAt_len (by rw [HN.out]; omega), HN.out]; omega) x
                    rw [insAt_set x (by rw [HN.out]; omega)] at this
                    rw [hP0]; exact this)
                  have G7 := Lib.hid (grown_opt (grown_refl _ _) (grown_opt GR.out (grown_setCells (fxCs x) (P0 * 7) wr (grown_refl wr (some g9))) (fun g e => by injection e with e; omega)) (fun g e => by cases e))
                  have IP := Lib.hid (IS.out.put (by rw [HN.out]; omega) LO.out HI.out TH.out)
                  have IL := Lib.hid (show (insAt S p x).length = N + 1 by rw [insAt_len (by rw [HN.out]; omega), HN.out])
                  rw [← hP0] at b0 b1 b2 b3 b4 b5 b6 ⊢
                  have z0 := own_free OR.out (P0 * 7)
                  have z1 := own_free OR.out (P0 * 7 + 1)
                  have z2 := own_free OR.out (P0 * 7 + 2)
                  have z3 := own_free OR.out (P0 * 7 + 3)
                  have z4 := own_free OR.out (P0 * 7 + 4)
                  have z5 := own_free OR.out (P0 * 7 + 5)
                  have z6 := own_free OR.out (P0 * 7 + 6)
                  have hPN : (P0 : Int) < (N : Int) + 1 := by omega
                  clear hj hP0 hpN hlp hpl
                  go_wp2_with fail
                  go_roundw
                  case rel => exact ⟨⟨k + 1, insAt S p x, some ⟨g9, 0, none⟩, c9, hlt, by go_num, by rw [IL.out], by rw [set_snoc HX.out]; exact IP.out, by rw [IL.out]; exact O7.out⟩, G7.out⟩
                  case measure => simp [intOf]; omega
    · obtain rfl : k = n := by omega
      have e : Hid (S = setF D) := Lib.hid (by
        have := IS.out
        rw [← HD.out, List.take_length] at this
        exact this.one (setF_is D))
      have F := Lib.hid (show SetO w wr D (.returned (.slice q S.length c)) from ⟨⟨q, c, by rw [e.out], by rw [← e.out]; exact O.out⟩, G.out⟩)
      clear hg hSl hcap
      generalize S.length = N at *
      go_wp2_with fail
      go_ret
      exact F.out
end Go.Proofs.YtmffpnhdnaokhaaDoor
