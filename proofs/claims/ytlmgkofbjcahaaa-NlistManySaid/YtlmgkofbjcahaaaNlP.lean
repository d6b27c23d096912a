/- All symbols of a table, as the program tells them: nlist.All; two lists of the same symbols are the same. Conditions: the bytes lie in memory. -/
import Derived.Test.YtlmgkofbjcahaaaNlC
import Derived.Test.YtlmgkofbjcahaaaNlR
namespace Go.Proofs.Ytlmgkofbjcahaaa
open Go.RowKit Go.Maps
variable {w w' : World} {ys t : List Int} {n : Int}

/-- Where the loop over entries stands. -/
structure PaL (w wr : World) (g a lo hi m : Nat) (t ys : List Int) (n : Int) (R : Int × Syms) (N : Nat) (vi : Value) : Prop where
  ex : ∃ (k : Nat) (D : Syms) (v : Value) (p : Nat), k ≤ N ∧ vi = .int .i64 ((16 * k : Nat) : Int) ∧ TelAt wr w.heap.size g a lo hi m v ys n p D ∧ nlRun ys n ((ents t).drop k) D = R ∧ SymsOk D
  below : Below w.heap.size w wr
set_option maxRecDepth 20000 in
set_option maxHeartbeats 3200000 in
theorem allP_any {q q2 : Option Addr} {c c2 L N : Nat} (hb : IsBytes w q c t) (hL : t.length = L) (hbigL : L ≤ 140737488355328) (hc : L ≤ c) (hcm : c ≤ 9223372036854775807) (ht : Byt t)
    (hb2 : IsBytes w q2 c2 ys) (hN : ys.length = N) (hbig : N ≤ 140737488355328) (hy : Byt ys) :
    Calls Try.prog 9 #[.slice q L c, .slice q2 N c2, .int .i64 n] w fun r w' => AlO w w' (nlAll t ys n) r := by
  obtain ⟨R, hR⟩ : ∃ R, R = nlAll t ys n := ⟨_, rfl⟩
  rw [← hR]
  unfold nlAll at hR
  rw [hL] at hR
  by_cases h16 : L % 16 = 0
  · have d16 : (((L : Int) % 16) != 0) = false := by simp; omega
    rw [if_pos h16] at hR
    obtain ⟨M, hM⟩ : ∃ M, M = L / 16 := ⟨_, rfl⟩
    have hLM : L = 16 * M := by omega
    have BL := Lib.hid (fun (V : World) (hV : Below w.heap.size w V) (k : Nat) (hk : k < M) => (by
      obtain ⟨b, o, e, hx⟩ := hb.2 (by omega)
      refine ⟨b, o, e, ?_⟩
      have h1 : IsBytes w (some ⟨b, o + 16 * k, none⟩) 16 (entAt t k) := IsBytes.mk_at fun i hi => by
        have hl : (entAt t k).length = 16 := entAt_len (by omega)
        rw [hl] at hi
        rw [Nat.add_assoc, hx (16 * k + i) (by omega)]
        simp [List.getD, entAt, List.getElem?_drop, hi]
      exact h1.below hV : ∃ b o, q = some ⟨b, o, none⟩ ∧ IsBytes V (some ⟨b, o + 16 * k, none⟩) 16 (entAt t k)))
    have EAT := Lib.hid (fun (k : Nat) (hk : k < M) => (show (ents t).drop k = entAt t k :: (ents t).drop (k + 1) from ents_at t (by omega)))
    have END := Lib.hid (show (ents t).drop M = [] from by rw [hM, ← hL]; exact ents_end t)
    have TK := Lib.hid (fun (V : World) (g a lo hi m p : Nat) (v : Value) (D : Syms) (h : TelAt V w.heap.size g a lo hi m v ys n p D) (hok : SymsOk D) (k : Nat) (hk : k < M) (b o : Nat) (hb : IsBytes V (some ⟨b, o + 16 * k, none⟩) 16 (entAt t k)) =>
      take_any10 h hok hy hb (entAt_len (by omega)) (entAt_byt ht k))
    have NXT := Lib.hid (fun (k : Nat) (D : Syms) (h : SymsOk D) (h0 : nlE ys n D (entAt t k) = 0) => h.next hy (entAt_byt ht k) h0)
    have NW := Lib.hid (pen_new hb2 hN hbig hy false)
    have hLi : (L : Int) = 16 * (M : Int) := by omega
    have HLM := Lib.hid hLi
    have HR0 := Lib.hid hR
    clear h16 hR hM hLM hb hb2 hy ht hN hL hLi
    go_enter Try.func9, Try.ntmps9
    go_wp2_with fail
    refine NW.out.mono ?_
    rintro r w1 ⟨a, rfl, hp1, hbel⟩
    have gm := grown1 w1 (.map #[] 0)
    have nm := MetN.made w1
    obtain ⟨W1, hW1⟩ : ∃ W, W = w1.alloc (.map #[] 0) := ⟨_, rfl⟩
    obtain ⟨m, hm⟩ : ∃ m, m = w1.heap.size := ⟨_, rfl⟩
    rw [← hW1] at gm nm
    rw [← hm] at nm
    have hlm : w1.heap.size ≤ W1.heap.size := gm.size
    have gt := grown1 W1 (.cells #[.pointer (some ⟨a, 0, none⟩), .int .i64 n, .slice none 0 0, .map (some m)] 51)
    have bt := heap_alloc_new W1 (.cells #[.pointer (some ⟨a, 0, none⟩), .int .i64 n, .slice none 0 0, .map (some m)] 51)
    obtain ⟨W2, hW2⟩ : ∃ W, W = W1.alloc (.cells #[.pointer (some ⟨a, 0, none⟩), .int .i64 n, .slice none 0 0, .map (some m)] 51) := ⟨_, rfl⟩
    obtain ⟨g, hgg⟩ : ∃ g, g = W1.heap.size := ⟨_, rfl⟩
    rw [← hW2] at gt bt
    rw [← hgg] at bt
    have T0 : TelAt W2 w.heap.size g a w.heap.size w1.heap.size m (.slice none 0 0) ys n 0 [] :=
      ⟨bt, (hp1.same gm).same gt, World.ownsRow_nil _ _ _ _, nm.kept gt (by simp), Nat.le_refl _, by omega, by omega⟩
    have B2 : Below w.heap.size w W2 := hbel.trans (below_grown (grown_trans gm gt) hbel.size (by simp))
    have ST := Lib.hid (show PaL w W2 g a w.heap.size w1.heap.size m t ys n R M (.int .i64 0) from ⟨⟨0, [], _, _, Nat.zero_le _, rfl, T0, HR0.out.symm, SymsOk.nil⟩, B2⟩)
    obtain ⟨hi, hhi⟩ : ∃ hi, hi = w1.heap.size := ⟨_, rfl⟩
    rw [← hhi] at ST
    have HM := Lib.hid hm
    have HW1 := Lib.hid hW1
    have HW2 := Lib.hid hW2
    have HG := Lib.hid (show m + 1 = g by rw [hgg, hW1, hm]; simp)
    clear hm hW1 hW2 hgg gm gt nm bt T0 B2 hbel hp1 hlm hhi
    have hmm := @run_makeMap Try.prog
    go_upto_region 4 with fail
    rw [← HW1.out, ← HM.out, ← HW2.out, HG.out]
    clear hmm HW1 HW2 HM HG
    go_wp2
    go_loopw [9] (fun vi wr => PaL w wr g a w.heap.size hi m t ys n R M vi) (fun vi _ => L - (intOf vi).toNat)
    case atStart => exact ST.out
    case round =>
      obtain ⟨⟨k, D, v, p0, hk, rfl, htel, hrun, hok⟩, hbw⟩ := hrel
      have TE := Lib.hid htel
      have RN := Lib.hid hrun
      have OK := Lib.hid hok
      have BW := Lib.hid hbw
      obtain ⟨p, hp⟩ : ∃ p, p = 16 * k := ⟨_, rfl⟩
      rw [← hp]
      have HP := Lib.hid hp
      by_cases hlt : k < M
      · obtain ⟨b, o, rfl, hib⟩ := BL.out wr hbw k hlt
        have tk := TK.out wr g a w.heap.size hi m p0 v D htel hok k hlt b o hib
        rw [← hp] at tk
        have hpL : p + 16 ≤ L := by have := HLM.out; omega
        have dl : decide ((p : Int) < (L : Int)) = true := by simp; omega
        have dl2 : decide (p < L) = true := by simp; omega
        have hpl3 : (p : Int) + 16 ≤ (L : Int) := by omega
        have hpl4 : (p : Int) + 16 ≤ (c : Int) := by omega
        have hb47 : (L : Int) ≤ 140737488355328 := by omega
        have hcI : (c : Int) ≤ 9223372036854775807 := by omega
        have TKK := Lib.hid tk
        have HRN := RN.out
        rw [EAT.out k hlt, nlRun_cons] at HRN
        have NX := Lib.hid (fun h0 => NXT.out k D OK.out h0)
        generalize nlE ys n D (entAt t k) = E at *
        generalize nlD ys D (entAt t k) = D2 at *
        have HRX := Lib.hid HRN
        clear htel hrun hok hbw hib hp tk HRN
        go_wp2_with fail
        refine TKK.out.mono ?_
        rintro r w2 ⟨rfl, hbl, hte⟩
        have B2 := Lib.hid (BW.out.trans hbl)
        by_cases hE : E = 0
        · have dE : (E != 0) = false := by rw [hE]; rfl
          obtain ⟨v', p', te⟩ := hte hE
          have hR := HRX.out
          rw [if_pos hE] at hR
          have NEW := Lib.hid (show PaL w w2 g a w.heap.size hi m t ys n R M (.int .i64 ((p : Int) + 16)) from ⟨⟨k + 1, D2, v', p', hlt, by rw [HP.out]; congr 1, te, hR, NX.out hE⟩, B2.out⟩)
          clear hE hte te hR hbl
          go_wp2
          go_roundw
          case rel => exact NEW.out
          case measure => simp [intOf]; omega
        · have dE : (E != 0) = true := by simpa using hE
          have hR := HRX.out
          rw [if_neg hE] at hR
          have HR := Lib.hid hR.symm
          clear hE hte hR hbl
          go_wp2
          go_ret2
          rw [HR.out]
          exact ⟨⟨_, _, rfl, SysAt.nil, Nat.le_refl _, by omega⟩, B2.out⟩
      · have hkM : k = M := by omega
        subst hkM
        have hpL : p = L := by have := HLM.out; omega
        subst hpL
        have dl : decide ((p : Int) < (p : Int)) = false := by simp
        rw [END.out] at hrun
        have HF := Lib.hid (show R = (0, D) from hrun.symm)
        obtain ⟨qv, cv, rfl⟩ := own_slice htel.row
        have C := Lib.hid (own_cap htel.row)
        have SA := Lib.hid (SysAt.of htel.row)
        have c2 := htel.c.2.2.1
        have gl := htel.lt
        clear htel hrun hok hbw hp
        go_wp2
        go_ret2
        rw [HF.out]
        exact ⟨⟨_, _, rfl, SA.out, C.out.1, C.out.2⟩, BW.out⟩
  · have d16 : (((L : Int) % 16) != 0) = true := by simp; omega
    rw [if_neg h16] at hR
    have HR := Lib.hid hR
    clear hR h16 hb hb2 ht hy
    go_enter Try.func9, Try.ntmps9
    go_wp2
    go_ret2
    exact AlO.none (grown_refl _ _) HR.out
end Go.Proofs.Ytlmgkofbjcahaaa
