/- All symbols of a table, as the document tells them: clevisref10.All. Conditions: the bytes lie in memory. -/
import Derived.Test.YtlmgkofbjcahaaaNlH
namespace Go.Proofs.Ytlmgkofbjcahaaa
open Go.RowKit
variable {w w' : World} {ys t : List Int} {n : Int}

/-- What all comes to. -/
structure AlO (w w' : World) (R : Int × Syms) (r : Ending) : Prop where
  ex : ∃ q c, r = .returned (.tuple #[.slice q R.2.length c, .int .i64 R.1]) ∧ SysAt w' q R.2 ∧ R.2.length ≤ c ∧ c ≤ 9223372036854775807
  below : Below w.heap.size w w'
/-- Where the loop over entries stands. -/
structure RaL (w wr : World) (t ys : List Int) (n : Int) (R : Int × Syms) (N : Nat) (vo vi : Value) : Prop where
  ex : ∃ (k : Nat) (D : Syms) (q : Option Addr) (c : Nat), k ≤ N ∧ vi = .int .i64 ((16 * k : Nat) : Int) ∧ vo = .slice q D.length c ∧ wr.ownsRow w.heap.size 32 4 (.slice q D.length c) D.length (D.flatMap syCs) ∧ nlRun ys n ((ents t).drop k) D = R ∧ SymsOk D
  grown : w.grownBy wr none
/-- Where the loop over what was told stands. -/
structure RaI (w3 : World) (X : Nat) (y : Sym) (D : Syms) (vj : Value) (wl : World) : Prop where
  ex : ∃ j : Nat, j ≤ D.length ∧ vj = .int .i64 (j : Int) ∧ ∀ (i : Nat) (d : Sym), i < j → D[i]? = some d → d.1 ≠ y.1
  sy : SyAt wl X (strOfNums y.1) y.2
  grown : w3.grownBy wl none
theorem AlO.none (hg : w.grownBy w' Option.none) {E : Int} {R : Int × Syms} (hR : R = (E, [])) : AlO w w' R (.returned (.tuple #[.slice Option.none 0 0, .int .i64 E])) := by
  subst hR
  exact ⟨⟨_, _, rfl, SysAt.nil, Nat.le_refl _, by omega⟩, below_grown hg (Nat.le_refl _) (by simp)⟩
theorem own_cap {base n c : Nat} {q : Option Addr} {T : TypeId} {k : Nat} {l : List Value} (h : w.ownsRow base T k (.slice q n c) n l) : n ≤ c ∧ c ≤ 9223372036854775807 := by
  rcases h.2 with ⟨e, h0⟩ | ⟨g, cap, cur, e, _, _, hle, hm, _⟩
  · injection e with _ e2 e3
    omega
  · injection e with _ e2 e3
    subst e3
    unfold maxLen at hm
    omega
set_option maxRecDepth 20000 in
set_option maxHeartbeats 3200000 in
theorem all10_any {q q2 : Option Addr} {c c2 L N : Nat} (hb : IsBytes w q c t) (hL : t.length = L) (hbigL : L ≤ 140737488355328) (hc : L ≤ c) (hcm : c ≤ 9223372036854775807) (ht : Byt t)
    (hb2 : IsBytes w q2 c2 ys) (hN : ys.length = N) (hbig : N ≤ 140737488355328) (hc2 : N ≤ c2) (hy : Byt ys) :
    Calls Try.prog 10 #[.slice q L c, .slice q2 N c2, .int .i64 n] w fun r w' => AlO w w' (nlAll t ys n) r := by
  obtain ⟨R, hR⟩ : ∃ R, R = nlAll t ys n := ⟨_, rfl⟩
  rw [← hR]
  unfold nlAll at hR
  rw [hL] at hR
  by_cases h16 : L % 16 = 0
  · have d16 : (((L : Int) % 16) != 0) = false := by simp; omega
    rw [if_pos h16] at hR
    obtain ⟨M, hM⟩ : ∃ M, M = L / 16 := ⟨_, rfl⟩
    have hLM : L = 16 * M := by omega
    have hbl := fun (V : World) (hV : w.grownBy V none) (k : Nat) (hk : k < M) => (by
      obtain ⟨b, o, e, hx⟩ := hb.2 (by omega)
      refine ⟨b, o, e, grown_cell hV (hx (16 * k + 4) (by omega)), fun W => ?_, ?_⟩
      · have := cut_run (T := 22) (by kernel_rfl) size_u8 b o L c (16 * k) 16 (by omega) hc (by omega) ((16 * k : Nat) : Int) (((16 * k : Nat) : Int) + 16) rfl rfl W
        exact this
      · have h1 : IsBytes w (some ⟨b, o + 16 * k, none⟩) (c - 16 * k) (entAt t k) := IsBytes.mk_at fun i hi => by
          have hl : (entAt t k).length = 16 := entAt_len (by omega)
          rw [hl] at hi
          rw [Nat.add_assoc, hx (16 * k + i) (by omega)]
          simp [List.getD, entAt, List.getElem?_drop, hi]
        exact h1.kept hV (by simp) : ∃ b o, q = some ⟨b, o, none⟩ ∧ V.cell? ⟨b, o + (16 * k + 4), none⟩ = some (.int .u8 (t.getD (16 * k + 4) 0)) ∧ (∀ W, (Instr.slice 22 (.slice (some ⟨b, o, none⟩) L c) (some (.int .i64 ((16 * k : Nat) : Int))) (some (.int .i64 (((16 * k : Nat) : Int) + 16))) none).run Try.prog W = .ok (.slice (some ⟨b, o + 16 * k, none⟩) 16 (c - 16 * k)) W) ∧ IsBytes V (some ⟨b, o + 16 * k, none⟩) (c - 16 * k) (entAt t k))
    have BL := Lib.hid hbl
    have ONE := Lib.hid (fun (V : World) (hV : w.grownBy V none) (k : Nat) (hk : k < M) (b o : Nat) (h : IsBytes V (some ⟨b, o + 16 * k, none⟩) (c - 16 * k) (entAt t k)) (hto : nlTold (entAt t k) = true) =>
      one10_any (n := n) h (entAt_len (by omega)) (by omega) (by omega) (entAt_byt ht k) (hb2.kept hV (by simp)) hN hbig hc2 hto)
    have KND := Lib.hid (fun (k : Nat) (hk : k < M) => (show t.getD (16 * k + 4) 0 = nlKind (entAt t k) from by
      unfold nlKind entAt
      simp [List.getD, List.getElem?_drop]))
    have KB := Lib.hid (fun (k : Nat) => (show 0 ≤ nlKind (entAt t k) ∧ nlKind (entAt t k) < 256 from byt_at (entAt_byt ht k) 4))
    have TD := Lib.hid (fun (W : World) (k : Nat) => (show Calls Try.prog 21 #[.int .i64 (nlKind (entAt t k))] W fun e w' => e = .returned (.bool (nlTold (entAt t k))) ∧ w' = W from told10_any _ (byt_at (entAt_byt ht k) 4) W))
    have EAT := Lib.hid (fun (k : Nat) (hk : k < M) => (show (ents t).drop k = entAt t k :: (ents t).drop (k + 1) from ents_at t (by omega)))
    have END := Lib.hid (show (ents t).drop M = [] from by rw [hM, ← hL]; exact ents_end t)
    have NXT := Lib.hid (fun (k : Nat) (D : Syms) (h : SymsOk D) (h0 : nlE ys n D (entAt t k) = 0) => h.next hy (entAt_byt ht k) h0)
    have BYY := Lib.hid (fun (k : Nat) => Byt.pre (hy.drop (nlPlace (entAt t k)).toNat))
    have ST := Lib.hid (show RaL w w t ys n R M (.slice none 0 0) (.int .i64 0) from ⟨⟨0, [], none, 0, Nat.zero_le _, rfl, rfl, World.ownsRow_nil _ _ _ _, hR.symm, SymsOk.nil⟩, grown_refl _ _⟩)
    have hLi : (L : Int) = 16 * (M : Int) := by omega
    have HLM := Lib.hid hLi
    clear hbl h16 hR hM hLM hb hb2 hy ht hN hL hLi hbig hc2
    go_enter Try.func10, Try.ntmps10
    go_wp2
    go_loopw [8, 9] (fun vo vi wr => RaL w wr t ys n R M vo vi) (fun _ vi _ => L - (intOf vi).toNat)
    case atStart => exact ST.out
    case round =>
      obtain ⟨⟨k, D, qo, co, hk, rfl, rfl, hrow, hrun, hok⟩, hg⟩ := hrel
      have RW := Lib.hid hrow
      have RN := Lib.hid hrun
      have OK := Lib.hid hok
      have GR := Lib.hid hg
      obtain ⟨p, hp⟩ : ∃ p, p = 16 * k := ⟨_, rfl⟩
      rw [← hp]
      have HP := Lib.hid hp
      by_cases hlt : k < M
      · obtain ⟨b, o, rfl, c4, hcut, hib⟩ := BL.out wr hg k hlt
        rw [KND.out k hlt] at c4
        rw [← hp] at hcut c4 hib
        have hpL : p + 16 ≤ L := by have := HLM.out; omega
        have dl : decide ((p : Int) < (L : Int)) = true := by simp; omega
        have dl2 : decide (p < L) = true := by simp; omega
        have hpl3 : (p : Int) < (L : Int) := by omega
        have hi4 : (p : Int) + 4 < (L : Int) := by omega
        have hb47 : (L : Int) ≤ 140737488355328 := by omega
        have kb := KB.out k
        obtain ⟨kb0, kb1⟩ := kb
        have kbw : wrap64 (nlKind (entAt t k)) = nlKind (entAt t k) := IntWalk.wrap64_in _ (by omega)
        have IB := Lib.hid hib
        clear hrow hrun hok hg hib hp
        go_wp2_with fail
        refine (TD.out wr k).mono ?_
        rintro r w1 ⟨rfl, rfl⟩
        by_cases hto : nlTold (entAt t k) = true
        · have E0 := EAT.out k hlt
          have HRN := RN.out
          rw [E0, nlRun_cons] at HRN
          rw [hto]
          have ON0 := ONE.out w1 GR.out k hlt b o (by rw [← HP.out]; exact IB.out) hto
          rw [← HP.out] at ON0
          have ON := Lib.hid ON0
          clear ON0
          have e1 : nlE ys n D (entAt t k) = nlAdd ys n D (entAt t k) := by unfold nlE; rw [hto]; rfl
          have e2 : nlD ys D (entAt t k) = D ++ [nlNew ys (entAt t k)] := by unfold nlD; rw [hto]; rfl
          have NX := Lib.hid (fun h0 => NXT.out k D OK.out h0)
          rw [e1] at HRN NX
          rw [e2] at HRN NX
          have HA : nlAdd ys n D (entAt t k) = if nlErr ys n (entAt t k) ≠ 0 then nlErr ys n (entAt t k) else if nlHas D (nlNm ys (entAt t k)) = true then 21 else if D.length = 4096 then 11 else 0 := rfl
          have HV : nlErr ys n (entAt t k) = 0 → oneV ys n (entAt t k) = nlNew ys (entAt t k) := fun h => by unfold oneV; rw [if_pos h]
          have HN1 : (nlNew ys (entAt t k)).1 = nlNm ys (entAt t k) := rfl
          have BN := BYY.out k
          rw [show pre (ys.drop (nlPlace (entAt t k)).toNat) = (nlNew ys (entAt t k)).1 from rfl] at BN
          rw [← HN1] at HA
          clear HN1
          generalize nlAdd ys n D (entAt t k) = EA at *
          generalize nlErr ys n (entAt t k) = EE at *
          generalize oneV ys n (entAt t k) = y at *
          generalize nlNew ys (entAt t k) = z at *
          obtain ⟨RR, hRR⟩ : ∃ RR, RR = nlRun ys n ((ents t).drop (k + 1)) (D ++ [z]) := ⟨_, rfl⟩
          rw [← hRR] at HRN
          have HRR := Lib.hid hRR
          have HRX := Lib.hid HRN
          have HVV := Lib.hid HV
          have HAA := Lib.hid HA
          have NXX := Lib.hid NX
          have BNN := Lib.hid BN
          clear hRR E0 HRN HV HA NX BN e1 e2 hto c4 kb0 kb1 kbw
          unfold syV syArr at ON
          go_wp2_with fail
          refine ON.out.mono ?_
          rintro r w2 ⟨rfl, hg⟩
          have x3 := SyAt.new w2 (strOfNums y.1) y.2
          have g3 := grown_trans hg (grown1 w2 (.cells #[.string (strOfNums y.1), .int .i64 y.2.sec, .int .u64 y.2.value, .bool y.2.weak] 32))
          obtain ⟨w3, hw3⟩ : ∃ W, W = w2.alloc (.cells #[.string (strOfNums y.1), .int .i64 y.2.sec, .int .u64 y.2.value, .bool y.2.weak] 32) := ⟨_, rfl⟩
          obtain ⟨X, hX⟩ : ∃ X, X = w2.heap.size := ⟨_, rfl⟩
          rw [← hw3] at x3 g3
          rw [← hX] at x3
          have X3 := Lib.hid x3
          have G3 := Lib.hid g3
          clear x3 g3 hg ON hcut
          go_upto_region 9 with fail
          rw [← hw3, ← hX]
          clear hw3 hX
          by_cases hE : EE = 0
          · have dE : (EE != 0) = false := by rw [hE]; rfl
            have hA := HAA.out
            rw [if_neg (fun h => h hE)] at hA
            obtain rfl := HVV.out hE
            have HA2 := Lib.hid hA
            have GA := Lib.hid (grown_trans GR.out G3.out)
            have ROW3 := Lib.hid (own_grown RW.out G3.out)
            have hfew := OK.out.few
            have IN0 := Lib.hid (show RaI w3 X y D (.int .i64 0) w3 from ⟨⟨0, Nat.zero_le _, rfl, fun i d h _ => by omega⟩, X3.out, grown_refl _ _⟩)
            clear hA hE
            go_wp2
            go_loopw [12] (fun vj wl => RaI w3 X y D vj wl) (fun vj _ => D.length - (intOf vj).toNat)
            case atStart => exact IN0.out
            case round =>
              obtain ⟨⟨j, hj, rfl, hno⟩, hsx, hgl⟩ := hrel
              have NO := Lib.hid hno
              have SX := Lib.hid hsx
              have GL := Lib.hid hgl
              by_cases hjl : j < D.length
              · obtain ⟨d, hd⟩ : ∃ d, D[j]? = some d := ⟨_, List.getElem?_eq_getElem hjl⟩
                obtain ⟨gq, oq, rfl, a0, a1, a2, a3⟩ := (SysAt.of (own_grown ROW3.out hgl)).at hd
                have x0 := hsx.c.1
                have dj : decide ((j : Int) < (D.length : Int)) = true := by simp; omega
                have dj2 : decide (j < D.length) = true := by simp; omega
                have hjI : (j : Int) < (D.length : Int) := by omega
                have ee := text_same (OK.out.each d (List.mem_of_getElem? hd)).1 BNN.out
                have HDD := Lib.hid hd
                clear hd hno hsx hgl a1 a2 a3
                by_cases hs : d.1 = y.1
                · rw [decide_eq_true hs] at ee
                  have hh : nlHas D y.1 = true := nlHas_mem.2 ⟨d, List.mem_of_getElem? HDD.out, hs⟩
                  have hA := HA2.out
                  rw [if_pos hh] at hA
                  have hR := HRX.out
                  rw [if_neg (by rw [hA]; decide), hA] at hR
                  have HR := Lib.hid hR.symm
                  have GF := Lib.hid (grown_trans GA.out GL.out)
                  clear hs hh hA hR
                  go_wp2
                  go_quiet (fail)
                  go_wp2
                  go_ret2
                  exact AlO.none (grown_drewN GF.out _) HR.out
                · rw [decide_eq_false hs] at ee
                  have HS := Lib.hid hs
                  have NW := Lib.hid (fun k => (⟨⟨j + 1, hjl, by simp, fun i d' hi hd' => by
                    rcases Nat.lt_or_ge i j with h | h
                    · exact NO.out i d' h hd'
                    · obtain rfl : i = j := by omega
                      rw [HDD.out] at hd'
                      injection hd' with hd'
                      rw [← hd']; exact HS.out⟩, SX.out.kept (grown_drewN (grown_refl wr (Option.none)) k) (by simp), grown_drewN GL.out k⟩ : RaI w3 X y D (.int .i64 ((j : Int) + 1)) (wr.drewN k)))
                  clear hs
                  go_wp2
                  go_quiet (fail)
                  go_wp2
                  go_roundw
                  case rel => exact NW.out _
                  case measure => simp [intOf]; omega
              · have hjD : j = D.length := by omega
                subst hjD
                have dj : decide ((D.length : Int) < (D.length : Int)) = false := by simp
                have hh : ¬ nlHas D y.1 = true := fun h => by
                  obtain ⟨d, hd, e⟩ := nlHas_mem.1 h
                  obtain ⟨i, hi, rfl⟩ := List.getElem_of_mem hd
                  exact hno i _ hi (List.getElem?_eq_getElem hi) e
                have hA := HA2.out
                rw [if_neg hh] at hA
                have GF := Lib.hid (grown_trans GA.out GL.out)
                obtain ⟨x0, x1, x2, x3⟩ := hsx.c
                have xl := hsx.lt
                clear hh hno hsx hgl hj
                by_cases hfull : D.length = 4096
                · have d3 : ((D.length : Int) == 4096) = true := by rw [hfull]; rfl
                  rw [if_pos hfull] at hA
                  have hR := HRX.out
                  rw [if_neg (by rw [hA]; decide), hA] at hR
                  have HR := Lib.hid hR.symm
                  clear hfull hA hR hjl
                  go_wp2
                  go_ret2
                  exact AlO.none GF.out HR.out
                · have d3 : ((D.length : Int) == 4096) = false := by rw [beq_eq_false_iff_ne]; omega
                  rw [if_neg hfull] at hA
                  have hR := HRX.out
                  rw [if_pos hA, HRR.out] at hR
                  have HR := Lib.hid hR
                  have OK2 := Lib.hid (NXX.out hA)
                  have g9 := grown1 wr (.cells #[.string (strOfNums y.1), .int .i64 y.2.sec, .int .u64 y.2.value, .bool y.2.weak] 32)
                  have O9 := Lib.hid (own_grown (own_grown ROW3.out GL.out) g9)
                  have N9 := Lib.hid (heap_alloc_new wr (.cells #[.string (strOfNums y.1), .int .i64 y.2.sec, .int .u64 y.2.value, .bool y.2.weak] 32))
                  have G9 := Lib.hid (grown_trans GF.out g9)
                  have hw9 : w.heap.size ≤ (wr.alloc (.cells #[.string (strOfNums y.1), .int .i64 y.2.sec, .int .u64 y.2.value, .bool y.2.weak] 32)).heap.size := G9.out.size
                  have hf : (D.length + 1) * 40 ≤ 140737488355328 := by omega
                  have HW9 := Lib.hid hw9
                  clear g9 hfull hA hR hjl hw9
                  go_wp2_with (at_builtin; refine wp_append_st syType rfl _ _ rfl _ D.length _ rfl O9.out (syCs y) rfl wr.heap.size rfl N9.out (syCs_one y) hf (by decide) HW9.out ?_; intro v7 w7 ho hg7)
                  obtain ⟨q7, c7, rfl⟩ := own_slice ho
                  have NEW := Lib.hid (show RaL w w7 t ys n R M (.slice q7 (D.length + 1) c7) (.int .i64 ((p : Int) + 16)) from ⟨⟨k + 1, D ++ [y], q7, c7, hlt, by rw [HP.out]; congr 1, by rw [List.length_append]; rfl, by rw [List.length_append, List.flatMap_append, List.flatMap_singleton]; exact ho, HR.out, OK2.out⟩, grown_own G9.out hg7 (fun b hb => (O9.out.lt b hb).1) (Nat.le_refl _)⟩)
                  clear ho hg7
                  go_wp2
                  go_roundw
                  case rel => exact NEW.out
                  case measure => simp [intOf]; omega
          · have dE : (EE != 0) = true := by simpa using hE
            have hA := HAA.out
            rw [if_pos hE] at hA
            have hR := HRX.out
            rw [if_neg (by rw [hA]; exact hE), hA] at hR
            have HR := Lib.hid hR.symm
            have GZ := Lib.hid (grown_trans GR.out G3.out)
            clear hA hE hR
            go_wp2
            go_ret2
            exact AlO.none GZ.out HR.out
        · rw [Bool.not_eq_true] at hto
          have E0 := EAT.out k hlt
          have HRN := RN.out
          rw [E0, nlRun_cons] at HRN
          have e1 : nlE ys n D (entAt t k) = 0 := by unfold nlE; rw [hto]; rfl
          have e2 : nlD ys D (entAt t k) = D := by unfold nlD; rw [hto]; rfl
          rw [if_pos e1, e2] at HRN
          rw [hto]
          have NEW := Lib.hid (show RaL w w1 t ys n R M (.slice qo D.length co) (.int .i64 ((p : Int) + 16)) from ⟨⟨k + 1, D, qo, co, hlt, by rw [HP.out]; congr 1, rfl, RW.out, HRN, OK.out⟩, GR.out⟩)
          clear hto E0 HRN e1 e2
          go_wp2
          go_roundw
          case rel => exact NEW.out
          case measure => simp [intOf]; omega
      · have hkM : k = M := by omega
        subst hkM
        have hpL : p = L := by have := HLM.out; omega
        subst hpL
        have dl : decide ((p : Int) < (p : Int)) = false := by simp
        rw [END.out] at hrun
        have HF := Lib.hid (show R = (0, D) from hrun.symm)
        have C := Lib.hid (own_cap hrow)
        have SA := Lib.hid (SysAt.of hrow)
        clear hrow hrun hok hg hp
        go_wp2
        go_ret2
        rw [HF.out]
        exact ⟨⟨_, _, rfl, SA.out, C.out.1, C.out.2⟩, below_grown GR.out (Nat.le_refl _) (by simp)⟩
  · have d16 : (((L : Int) % 16) != 0) = true := by simp; omega
    rw [if_neg h16] at hR
    have HR := Lib.hid hR
    clear hR h16 hb hb2 ht hy
    go_enter Try.func10, Try.ntmps10
    go_wp2
    go_ret2
    exact AlO.none (grown_refl _ _) HR.out
end Go.Proofs.Ytlmgkofbjcahaaa
