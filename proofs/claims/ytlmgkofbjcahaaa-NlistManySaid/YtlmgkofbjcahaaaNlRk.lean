/- The table and strings of symbols, as the document lays them: clevisref10.Make. Conditions: they lie in memory, and are few. -/
import Derived.Test.YtlmgkofbjcahaaaNlMk
import Derived.Test.YtlmgkofbjcahaaaNlRm
import Derived.StillTailTactics
import Derived.BigRegion
namespace Go.Proofs.Ytlmgkofbjcahaaa
open Go.RowKit
variable {w w' W V : World} {D : Syms}

structure Boxed10 (p : Prop) : Prop where
  out : p
/-- Where the loop over names stands. -/
structure MkI (w3 wr : World) (D : Syms) (n : Nat) (vi : Value) : Prop where
  ex : ∃ k : Nat, k ≤ n ∧ vi = .int .i64 (k : Int) ∧ ∀ (i j : Nat) (x y : Sym), i < j → j < k → D[i]? = some x → D[j]? = some y → x.1 ≠ y.1
  grown : w3.grownBy wr none
structure MkJ (w3 wr : World) (D : Syms) (i : Nat) (y : Sym) (vk : Value) : Prop where
  ex : ∃ k : Nat, k ≤ i ∧ vk = .int .i64 (k : Int) ∧ ∀ (j : Nat) (x : Sym), j < k → D[j]? = some x → x.1 ≠ y.1
  grown : w3.grownBy wr none
/-- Where the loop that lays them stands. -/
structure MkL (w wr : World) (D : Syms) (n : Nat) (vt vn vi : Value) : Prop where
  ex : ∃ (k : Nat) (qa : Option Addr) (ca : Nat) (qb : Option Addr) (cb : Nat), k ≤ n ∧ vi = .int .i64 (k : Int) ∧ vt = .slice qa (16 * k) ca ∧ vn = .slice qb (nmB (D.take k)).length cb ∧ Duo w wr (.slice qa (16 * k) ca) (tabS D k) (.slice qb (nmB (D.take k)).length cb) (nmB (D.take k))
/-- At a region that draws: bytes appended to a row of one's own that has come so far. -/
theorem step_append_to {base : Nat} {ops : Array Oper} {o : Oper} {a : Act} {K : Act → World → Prop} {Q : Exit → Act → World → Prop} {E : Prop} (hgd : o.guard = none) (s x : Operand)
    (ho : o.op = .call { callee := .builtin .append, args := #[s, x], argTypes := #[22, 22] }) (hty : o.type = 22)
    {w0 : World} {v0 v : Value} {xs : List Int} (hs : a.eval s = v) (hr : RowTo w0 w base v0 v xs) (news : List Int) (m : Nat) (hm : news.length = m) {q : Option Addr} {c : Nat} (hx : a.eval x = .slice q m c) (hb : IsBytes w q c news)
    (h63 : xs.length + m ≤ 140737488355328) (hbase : base ≤ w.heap.size)
    (h : ∀ q' c' w', RowTo w0 w' base v0 (.slice q' (xs.length + m) c') (xs ++ news) → K (a.put o.dst (.slice q' (xs.length + m) c')) w') :
    if Region.wanted o (yielded ops a.tmps) = true then Oper.wp Try.prog o a w K Q else E := by
  have hw : Region.wanted o (yielded ops a.tmps) = true := by simp [Region.wanted, hgd]
  rw [if_pos hw]
  subst hm
  have key : ∃ v' w', (Builtin.append_ #[22, 22] 22 #[v, .slice q news.length c]).run Try.prog w = .ok v' w' ∧ w'.ownsRow base 5 1 v' (xs.length + news.length) (xs.map (Value.int .u8) ++ news.map (Value.int .u8)) ∧ w.grownBy w' v.ownBlock ∧ (v'.ownBlock = v.ownBlock ∨ v'.ownBlock = some w.heap.size) := by
    obtain ⟨i, hi, hz0, hz1, hz2⟩ := info_parts info_u8
    rcases hb.ways with ⟨rfl, rfl, rfl⟩ | ⟨ad, rfl, hc⟩
    · exact ⟨v, w, run_append_none v _ _ hr.own, by simpa using hr.own, grown_refl _ _, .inl rfl⟩
    · obtain ⟨v', w', h1, h2, h3, _, h5⟩ := run_append_own_at (P := Try.prog) w base 22 22 5 i (.int .u8 0) 1 1 Try.underlying22 hi hz0 hz1 hz2 rfl (by decide) v xs.length _ hr.own ad news.length c (news.map (Value.int .u8)) (by simp) (by
        intro j u hu
        have hj : j < news.length := by
          rcases Nat.lt_or_ge j news.length with h | h
          · exact h
          · simp [h] at hu
        rw [hc j hj]
        simp [hj] at hu ⊢
        exact hu) (by
        intro u hu
        obtain ⟨y, _, rfl⟩ := List.mem_map.1 hu
        rfl) (by unfold maxLen; omega) (by omega) hbase
      exact ⟨v', w', h1, h2, h3, h5⟩
  obtain ⟨v', w', h1, h2, h3, h5⟩ := key
  obtain ⟨q', c', rfl⟩ := own_slice h2
  rw [← hty] at h1
  refine Lib.wp_append_run w s x _ _ ho _ _ hs hx _ _ (by rw [hty] at h1 ⊢; exact h1) (h q' c' w' (hr.trans ⟨by rw [List.length_append, List.map_append]; exact h2, h3, ?_⟩))
  rcases h5 with h5 | h5
  · exact .inl h5
  · exact .inr ⟨_, h5, Nat.le_refl _⟩
theorem ent_is (P : Nat) (x : Sy) : entS (P : Int) x = entV (P : Int) (kindS x) x.sec (descS x) x.value := rfl
set_option maxRecDepth 20000 in
set_option maxHeartbeats 6400000 in
theorem refMake10_any {q : Option Addr} {n c : Nat} (hn : D.length = n) (hD : SysAt w q D) (hfew : n ≤ 5000) (hm : ∀ y ∈ D, SyFits y.1 y.2 ∧ y.1.length ≤ 140737488355328) :
    Calls Try.prog 15 #[.slice q n c] w fun r w' => MkO w w' D r := by
  have HD := Lib.hid hD
  have HN := Lib.hid hn
  have HM := Lib.hid hm
  clear hD hm hn
  go_enter Try.func15, Try.ntmps15
  go_wp2
  go_loopw [5] (fun vi wr => Boxed10 (∃ k : Nat, k ≤ n ∧ vi = .int .i64 (k : Int) ∧ w.grownBy wr none ∧ ∀ (i : Nat) (y : Sym), i < k → D[i]? = some y → mayS y.1 y.2 = true)) (fun vi _ => n - (intOf vi).toNat)
  case atStart => exact .mk ⟨0, Nat.zero_le _, rfl, grown_refl _ _, fun i y h => by omega⟩
  case round =>
    obtain ⟨k, hk, rfl, hg, hmay⟩ := hrel.out
    have G := Lib.hid hg
    have MY := Lib.hid hmay
    by_cases hlt : k < n
    · obtain ⟨y, hy⟩ : ∃ y, D[k]? = some y := ⟨_, List.getElem?_eq_getElem (by rw [HN.out]; exact hlt)⟩
      obtain ⟨gq, oq, rfl, a0, a1, a2, a3⟩ := (HD.out.grown hg).at hy
      have hmy := HM.out y (List.mem_of_getElem? hy)
      have M := Lib.hid (refMay10_any (x := y.2) hmy.1.name hmy.2 wr)
      have dl : decide ((k : Int) < (n : Int)) = true := by simp; omega
      have hkI : (k : Int) < (n : Int) := by omega
      obtain ⟨b, hb⟩ : ∃ b, b = mayS y.1 y.2 := ⟨_, rfl⟩
      rw [← hb] at M
      have HB := Lib.hid hb
      have HYY := Lib.hid hy
      unfold syV syArr at M
      clear hg hmay hrel hy hmy hb
      go_wp2_with fail
      refine M.out.mono ?_
      rintro e w2 ⟨rfl, hg⟩
      have G2 := Lib.hid (grown_trans G.out hg)
      clear hg M a0 a1 a2 a3
      cases b
      · have EE := Lib.hid (show mkErr D = 2 by
          unfold mkErr
          rw [if_pos]
          unfold mayAll
          rw [List.all_eq_false]
          exact ⟨y, List.mem_of_getElem? HYY.out, by rw [← HB.out]; decide⟩)
        go_wp2
        go_ret3
        exact MkO.no G2.out EE.out (by decide)
      · have NW := Lib.hid (show Boxed10 (∃ k' : Nat, k' ≤ n ∧ Value.int .i64 ((k : Int) + 1) = .int .i64 (k' : Int) ∧ w.grownBy w2 none ∧ ∀ (i : Nat) (y : Sym), i < k' → D[i]? = some y → mayS y.1 y.2 = true) from .mk ⟨k + 1, hlt, by simp, G2.out, fun i z hi hz => by
          rcases Nat.lt_or_ge i k with h | h
          · exact MY.out i z h hz
          · obtain rfl : i = k := by omega
            rw [HYY.out] at hz
            injection hz with hz
            rw [← hz]; exact HB.out.symm⟩)
        go_wp2
        go_roundw
        case rel => exact NW.out
        case measure => simp [intOf]; omega
    · have hkn : n = k := by omega
      subst hkn
      have dl : decide ((n : Int) < (n : Int)) = false := by simp
      have ALL := Lib.hid (show ∀ y ∈ D, mayS y.1 y.2 = true from fun y hy => by
        obtain ⟨i, hi, rfl⟩ := List.getElem_of_mem hy
        exact hmay i _ (by rw [← HN.out]; exact hi) (List.getElem?_eq_getElem hi))
      have HA := Lib.hid (show mayAll D = true from by
        unfold mayAll
        rw [List.all_eq_true]
        exact ALL.out)
      have g1 := grown1 wr (.cells #[.int .u8 0] 5)
      have s1 : Duo w (wr.alloc (.cells #[.int .u8 0] 5)) (.slice none (16 * 0) 0) (tabS D 0) (.slice (some ⟨wr.heap.size, 0, none⟩) (nmB (D.take 0)).length 1) (nmB (D.take 0)) :=
        ⟨World.ownsRow_nil _ _ _ _, World.ownsRow_lit wr #[.int .u8 0] 1 hg.size (by decide) rfl, fun g hg => (by cases hg), grown_trans hg g1⟩
      have ST := Lib.hid (show MkL w (wr.alloc (.cells #[.int .u8 0] 5)) D n (.slice none 0 0) (.slice (some ⟨wr.heap.size, 0, none⟩) 1 1) (.int .i64 0) from ⟨⟨0, _, _, _, _, Nat.zero_le _, rfl, rfl, rfl, s1⟩⟩)
      clear hg hmay hrel g1 s1 MY G
      go_wp2
      go_loopw [6, 7, 8] (fun vt vn vi wr => MkL w wr D n vt vn vi) (fun _ _ vi _ => n - (intOf vi).toNat)
      case atStart => exact ST.out
      case round =>
        obtain ⟨⟨i, qa, ca, qb, cb, hi, rfl, rfl, rfl, hduo⟩⟩ := hrel
        have DU := Lib.hid hduo
        by_cases hlt : i < n
        · obtain ⟨y, hy⟩ : ∃ y, D[i]? = some y := ⟨_, List.getElem?_eq_getElem (by rw [HN.out]; exact hlt)⟩
          obtain ⟨gq, oq, rfl, a0, a1, a2, a3⟩ := (HD.out.grown hduo.grown).at hy
          have hmy := ALL.out y (List.mem_of_getElem? hy)
          obtain ⟨m1, m2, m3, m4, m5⟩ := mayS_is hmy
          have hfy := (HM.out y (List.mem_of_getElem? hy)).1
          have BY := Lib.hid hfy.name
          have hst : (strOfNums y.1).size = y.1.length := strOfNums_size _
          have TT := Lib.hid (tabS_take hy)
          have NT := Lib.hid (nmB_take hy)
          have nl := nmB_len_le (l := D.take i) (fun y hy => (mayS_is (ALL.out y (List.mem_of_mem_take hy))).2.1)
          rw [List.length_take] at nl
          have dl : decide ((i : Int) < (n : Int)) = true := by simp; omega
          have hiI : (i : Int) < (n : Int) := by omega
          obtain ⟨P, hP⟩ : ∃ P, P = (nmB (D.take i)).length := ⟨_, rfl⟩
          obtain ⟨Tn, hTn⟩ : ∃ T, T = 16 * i := ⟨_, rfl⟩
          have hkd : (decide (0 < y.2.sec) = true ∧ kindS y.2 = 15) ∨ (decide (0 < y.2.sec) = false ∧ kindS y.2 = 3) := by
            unfold kindS
            by_cases h : y.2.sec = 0
            · exact .inr ⟨by simp; omega, by rw [if_pos h]⟩
            · exact .inl ⟨by simp; omega, by rw [if_neg h]⟩
          have hds : (y.2.weak = true ∧ descS y.2 = 128) ∨ (y.2.weak = false ∧ descS y.2 = 0) := by
            unfold descS
            cases y.2.weak
            · exact .inr ⟨rfl, rfl⟩
            · exact .inl ⟨rfl, rfl⟩
          have EN := Lib.hid (fun (V : World) => entry10_any P (by omega) (kindS y.2) (by unfold kindS; split <;> decide) y.2.sec (by omega) (descS y.2) (by unfold descS; split <;> decide) y.2.value hfy.value V)
          rw [hP, ← ent_is, ← hP] at EN
          rw [← hP, ← hTn]
          rw [← hP, ← hTn] at hduo
          obtain ⟨EV, hEV⟩ : ∃ EV, EV = entS (P : Int) y.2 := ⟨_, rfl⟩
          rw [← hEV] at EN
          have LE := Lib.hid (show EV.length = 16 by rw [hEV]; exact entS_len _ _)
          rw [← hP, ← hEV] at TT
          obtain ⟨TS, hTS⟩ : ∃ TS, TS = tabS D i := ⟨_, rfl⟩
          rw [← hTS] at TT hduo
          have LT := Lib.hid (show TS.length = Tn by rw [hTS, tabS_len, hTn])
          have DD := Lib.hid (show Duo w wr.drew _ _ _ _ from hduo.past (show wr.grownBy wr.drew none from grown_drewN (grown_refl wr none) 1))
          have GR := Lib.hid (show wr.grownBy wr.drew none from grown_drewN (grown_refl wr none) 1)
          have KK := Lib.hid (And.intro hkd hds)
          have HP := Lib.hid hP
          have HT := Lib.hid hTn
          have hPI : (P : Int) ≤ 1400000 := by omega
          have hTI : Tn ≤ 80000 := by omega
          obtain ⟨g', o', e', z0, z1, z2, z3⟩ := HD.out.at hy
          injection e' with e'
          injection e' with e1 e2 _
          subst e1 e2
          have Z0 := Lib.hid z0
          have Z1 := Lib.hid z1
          have Z2 := Lib.hid z2
          clear z0 z1 z2 z3
          clear hduo hy hmy m1 m3 hP hTn hfy DU nl
          rcases hkd with ⟨hk1, hk2⟩ | ⟨hk1, hk2⟩ <;> rcases hds with ⟨hd1, hd2⟩ | ⟨hd1, hd2⟩
          all_goals
            rw [hk2, hd2] at EN
            rw [hd1] at a3
            clear hk2 hd2
            have RC := Lib.hid (RowTo.refl DD.out.a)
            have BC := Lib.hid DD.out.grown.size
            have y1 : wr.drew.cell? ⟨gq, oq + i * 4 + 1, none⟩ = some (.int .i64 y.2.sec) := a1
            have y2 : wr.drew.cell? ⟨gq, oq + i * 4 + 2, none⟩ = some (.int .u64 y.2.value) := a2
            have Y1 := Lib.hid y1
            have Y2 := Lib.hid y2
            go_wp2
            go_region_held3 (fun X => X.cell? ⟨gq, oq + i * 4 + 1, none⟩ = some (.int .i64 y.2.sec) ∧ X.cell? ⟨gq, oq + i * 4 + 2, none⟩ = some (.int .u64 y.2.value))
              (exact ⟨y1, y2⟩)
              (first
                | (go_simp; go_at_call 18; (with_reducible refine (EN.out _).mono ?_); rintro e x1 ⟨⟨qe, ce, rfl, hoe⟩, hge⟩; rw [LE.out] at hoe ⊢; have BE := Lib.hid (IsBytes.of_own LE.out hoe); have RD := Lib.hid (RC.out.past hge); have BD := Lib.hid (Nat.le_trans BC.out hge.size); clear y1 y2; have y1 := grown_cell hge Y1.out; have y2 := grown_cell hge Y2.out)
                | (refine step_append_to (by with_reducible rfl) _ _ (by with_reducible rfl) (by with_reducible rfl) (v := .slice qa Tn ca) (by rfl) RD.out EV 16 LE.out (by rfl) BE.out (by rw [LT.out]; omega) BD.out ?_; intro q2 c2 x2 hr2; rw [LT.out, ← TT.out] at hr2; rw [LT.out]; have D2 := DD.out.step hr2; clear y1 y2; have y1 := grown_cell D2.grown Z1.out; have y2 := grown_cell D2.grown Z2.out))
            have D3 := Lib.hid D2
            have B3 := Lib.hid D2.grown.size
            have RB := Lib.hid (RowTo.refl D2.symm.a)
            have b0 := grown_cell D2.grown Z0.out
            have HPB := Lib.hid (show (nmB (D.take i)).length + y.1.length ≤ 140737488355328 by rw [← HP.out]; omega)
            clear hr2 D2 y1 y2 BE RD BD RC BC DD
            go_wp2_with (at_builtin; refine wp_append_sto rfl (.tmp 60) (.tmp 65) rfl rfl (v := .slice qb P cb) (by rfl) RB.out y.1 BY.out (by rfl) HPB.out B3.out ?_)
            intro q4 c4 w4 hr4
            rw [← HP.out] at hr4 ⊢
            have R4 := Lib.hid (RowTo.past hr4 (grown1 w4 (.cells #[.int .u8 0] 5)))
            have B4 := Lib.hid (Nat.le_trans B3.out (Nat.le_trans hr4.grown.size (grown1 w4 (.cells #[.int .u8 0] 5)).size))
            have IB := Lib.hid (one_byte w4 0)
            have L4 := Lib.hid (show (nmB (D.take i) ++ y.1).length = P + y.1.length by rw [List.length_append, ← HP.out])
            have HP4 := Lib.hid (show (nmB (D.take i) ++ y.1).length + 1 ≤ 140737488355328 by rw [L4.out]; omega)
            clear hr4 b0
            go_wp2_with (at_builtin; refine wp_append_to rfl (.tmp 66) (.tmp 67) rfl rfl (v := .slice q4 (P + y.1.length) c4) (by rfl) R4.out [0] 1 rfl rfl IB.out HP4.out B4.out ?_)
            intro q5 c5 w5 hr5
            rw [← HP.out, ← NT.out] at hr5
            rw [← HP.out]
            have L5 := Lib.hid hr5.len
            have D5 := D3.out.symm.step hr5
            have DE := Lib.hid D5.symm
            clear hr5 D5
            go_wp2
            go_roundw
            case rel => exact ⟨⟨i + 1, q2, c2, q5, c5, hlt, by simp, by rw [HT.out]; rfl, by rw [L5.out], by rw [L5.out, show 16 * (i + 1) = Tn + 16 by rw [HT.out]; omega]; exact DE.out⟩⟩
            case measure => simp [intOf]; omega
        · have hin : n = i := by omega
          subst hin
          have dl : decide ((n : Int) < (n : Int)) = false := by simp
          have htk : nmB (D.take n) = nmB D := by rw [← HN.out, List.take_length]
          rw [htk] at hduo ⊢
          obtain ⟨P, hP⟩ : ∃ P, P = (nmB D).length := ⟨_, rfl⟩
          obtain ⟨Tn, hTn⟩ : ∃ T, T = 16 * n := ⟨_, rfl⟩
          rw [← hP, ← hTn] at hduo ⊢
          have D3 := Lib.hid hduo
          have G3 := Lib.hid hduo.grown
          have HP := Lib.hid hP
          have HT := Lib.hid hTn
          have nl := nmB_len_le (l := D) (fun y hy => (mayS_is (ALL.out y hy)).2.1)
          rw [HN.out, ← hP] at nl
          have hPI : P ≤ 1400000 := by omega
          clear hduo htk hP hTn DU nl
          by_cases h4 : 4096 < n
          · have d4 : decide ((4096 : Int) < (n : Int)) = true := by simp; omega
            have EE := Lib.hid (show mkErr D = 11 by unfold mkErr; rw [if_neg (by rw [HA.out]; decide), if_pos (.inl (by rw [HN.out]; exact h4))])
            clear h4
            go_wp2
            go_ret3
            exact MkO.no G3.out EE.out (by decide)
          · have d4 : decide ((4096 : Int) < (n : Int)) = false := by simp; omega
            by_cases hb : 1048576 < P
            · have db : decide ((1048576 : Int) < (P : Int)) = true := by simp; omega
              have EE := Lib.hid (show mkErr D = 11 by unfold mkErr; rw [if_neg (by rw [HA.out]; decide), if_pos (.inr (by rw [← HP.out]; exact hb))])
              clear h4 hb
              go_wp2
              go_ret3
              exact MkO.no G3.out EE.out (by decide)
            · have db : decide ((1048576 : Int) < (P : Int)) = false := by simp; omega
              have HE := Lib.hid (show mkErr D = if twB D = true then 21 else 0 by unfold mkErr; rw [if_neg (by rw [HA.out]; decide), if_neg (fun h => h.elim (fun h => h4 (by rw [← HN.out]; exact h)) (fun h => hb (by rw [HP.out]; exact h)))])
              have ST3 := Lib.hid (show MkI wr wr D n (.int .i64 0) from ⟨⟨0, Nat.zero_le _, rfl, fun i j x y _ h => by omega⟩, grown_refl _ _⟩)
              clear h4 hb
              go_wp2
              obtain ⟨w3, hw3⟩ : ∃ W, W = wr := ⟨_, rfl⟩
              rw [← hw3] at ST3 G3 D3
              have SD3 := Lib.hid (HD.out.grown G3.out)
              rw [← hw3]
              go_loopw [11] (fun vi wr => MkI w3 wr D n vi) (fun vi _ => n - (intOf vi).toNat)
              case atStart => exact ST3.out
              case round =>
                obtain ⟨⟨k, hk, rfl, hdis⟩, hg⟩ := hrel
                have GG := Lib.hid hg
                have DI := Lib.hid hdis
                by_cases hlt : k < n
                · obtain ⟨y, hy⟩ : ∃ y, D[k]? = some y := ⟨_, List.getElem?_eq_getElem (by rw [HN.out]; exact hlt)⟩
                  have dl : decide ((k : Int) < (n : Int)) = true := by simp; omega
                  have dl2 : decide (k < n) = true := decide_eq_true hlt
                  have hkI : (k : Int) < (n : Int) := by omega
                  have HYY := Lib.hid hy
                  have BYN := Lib.hid (HM.out y (List.mem_of_getElem? hy)).1.name
                  have STJ := Lib.hid (show MkJ w3 wr D k y (.int .i64 0) from ⟨⟨0, Nat.zero_le _, rfl, fun j x h => by omega⟩, GG.out⟩)
                  clear hg hdis hy
                  go_wp2
                  go_loopw [12] (fun vk wr => MkJ w3 wr D k y vk) (fun vk _ => k - (intOf vk).toNat)
                  case atStart => exact STJ.out
                  case round =>
                    obtain ⟨⟨j, hj, rfl, hno⟩, hgj⟩ := hrel
                    have GJ := Lib.hid hgj
                    have NO := Lib.hid hno
                    by_cases hjk : j < k
                    · obtain ⟨x, hx⟩ : ∃ x, D[j]? = some x := ⟨_, List.getElem?_eq_getElem (by rw [HN.out]; omega)⟩
                      obtain ⟨g1, o1, e1, a0, a1, a2, a3⟩ := (SD3.out.grown hgj).at hx
                      obtain ⟨g2, o2, e2, b0, b1, b2, b3⟩ := (SD3.out.grown hgj).at HYY.out
                      rw [e1] at e2
                      injection e2 with e2
                      injection e2 with e3 e4 _
                      subst e1 e3 e4
                      have dj : decide ((j : Int) < (k : Int)) = true := by simp; omega
                      have dj2 : decide (j < k) = true := decide_eq_true hjk
                      have hjI : (j : Int) < (n : Int) := by omega
                      have ee := text_same (HM.out x (List.mem_of_getElem? hx)).1.name BYN.out
                      have HXX := Lib.hid hx
                      clear hx hno hgj a1 a2 a3 b1 b2 b3
                      by_cases hs : x.1 = y.1
                      · rw [decide_eq_true hs] at ee
                        have EE := Lib.hid (show mkErr D = 21 by
                          rw [HE.out, if_pos]
                          cases h : twB D with
                          | true => rfl
                          | false =>
                            have hp := twB_no h
                            obtain ⟨h1, r1⟩ := List.getElem?_eq_some_iff.1 HXX.out
                            obtain ⟨h2, r2⟩ := List.getElem?_eq_some_iff.1 HYY.out
                            have := List.pairwise_iff_getElem.1 hp j k h1 h2 hjk
                            rw [r1, r2] at this
                            exact absurd hs this)
                        have GF := Lib.hid (grown_trans G3.out GJ.out)
                        clear hs
                        go_wp2
                        go_quiet (fail)
                        go_wp2
                        go_ret3
                        exact MkO.no (grown_drewN GF.out _) EE.out (by decide)
                      · rw [decide_eq_false hs] at ee
                        have HS := Lib.hid hs
                        have NW := Lib.hid (fun m => (⟨⟨j + 1, hjk, by simp, fun i' z hi hz => by
                          rcases Nat.lt_or_ge i' j with h | h
                          · exact NO.out i' z h hz
                          · obtain rfl : i' = j := by omega
                            rw [HXX.out] at hz
                            injection hz with hz
                            rw [← hz]; exact HS.out⟩, grown_drewN GJ.out m⟩ : MkJ w3 (wr.drewN m) D k y (.int .i64 ((j : Int) + 1))))
                        clear hs
                        go_wp2
                        go_quiet (fail)
                        go_wp2
                        go_roundw
                        case rel => exact NW.out _
                        case measure => simp [intOf]; omega
                    · have hjk2 : j = k := by omega
                      subst hjk2
                      have dj : decide ((j : Int) < (j : Int)) = false := by simp
                      have NW := Lib.hid (show MkI w3 wr D n (.int .i64 ((j : Int) + 1)) from ⟨⟨j + 1, hlt, by simp, fun i1 i2 x z h1 h2 hx hz => by
                        rcases Nat.lt_or_ge i2 j with h | h
                        · exact DI.out i1 i2 x z h1 h hx hz
                        · obtain rfl : i2 = j := by omega
                          rw [HYY.out] at hz
                          injection hz with hz
                          rw [← hz]; exact NO.out i1 x h1 hx⟩, GJ.out⟩)
                      clear hno hgj
                      go_wp2
                      go_roundw
                      case rel => exact NW.out
                      case measure => simp [intOf]; omega
                · have hkn : n = k := by omega
                  subst hkn
                  have dl : decide ((n : Int) < (n : Int)) = false := by simp
                  have EE := Lib.hid (show mkErr D = 0 by
                    rw [HE.out, if_neg]
                    intro h
                    refine twB_yes h (List.pairwise_iff_getElem.2 fun i j hi hj hij => ?_)
                    exact hdis i j _ _ hij (by rw [← HN.out]; exact hj) (List.getElem?_eq_getElem hi) (List.getElem?_eq_getElem hj))
                  have DF := Lib.hid (D3.out.past hg)
                  clear hg hdis
                  go_wp2
                  go_ret3
                  have hd := DF.out
                  obtain rfl := HP.out
                  obtain rfl := HT.out
                  have e1 : mkT D = tabS D n := by unfold mkT; rw [if_pos EE.out, HN.out]
                  have e2 : mkN D = nmB D := by unfold mkN; rw [if_pos EE.out]
                  have tl : (tabS D n).length = 16 * n := tabS_len _ _
                  have ha := hd.a
                  rw [tl] at ha
                  have ca' := own_cap ha
                  have cb' := own_cap hd.b
                  refine ⟨⟨qa, ca, qb, cb, by rw [e1, e2, EE.out, tl]; rfl, ?_, ?_, ?_⟩, hd.grown⟩
                  · rw [e1]; exact IsBytes.of_own tl ha
                  · rw [e2]; exact IsBytes.of_own rfl hd.b
                  · rw [e1, e2, tl]; exact ⟨ca'.1, ca'.2, cb'.1, cb'.2⟩
end Go.Proofs.Ytlmgkofbjcahaaa
