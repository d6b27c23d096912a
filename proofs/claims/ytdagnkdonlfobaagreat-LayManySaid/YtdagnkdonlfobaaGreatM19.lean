import Derived.Test.YtdagnkdonlfobaaGreatM18
import Derived.Test.YtdagnkdonlfobaaGreatM17
import Derived.Shelf.Abstract
/- Which images may be, as the document has it: the whole. No condition but that numbers fit their types. -/
namespace Go.Proofs.YtdagnkdonlfobaaGreat
open Go.RowKit Go.Sort
variable {w w' : World} {h : Hx} {s : St} {sv dv : Value} {n hd : Int}

theorem run_loadImg0 {g : Nat} (k : ImgAt w g h s sv dv) : (loadVar 41 ⟨g, 0, none⟩).run Tryz.prog w = .ok (imgV h s sv dv) w :=
  run_loadVar_row w g _ _ _ _ _ k Tryz.underlying41 rfl (by kernel_rfl)
set_option maxHeartbeats 4000000 in
set_option maxRecDepth 20000 in
theorem rMay_any {l : List Sg} {qs : Option Addr} {cs : Nat} (k : ImgRows w s l qs cs) (hf : SegsFit s) (hs : SpFit s) (hn : U64 n) (hh : U64 hd) (hcap : ∀ x ∈ l, x.seg.secs.length ≤ x.c) :
    Calls Tryz.prog 24 #[imgV h s (.slice qs l.length cs) dv, .int .u64 n, .int .u64 hd] w fun e w' => e = .returned (.int .i64 (mayN h s n hd)) ∧ w.grownBy w' none := by
  have gB := grown1 w (.cells (imgArr h s (.slice qs l.length cs) dv) 41)
  have aA : ImgAt (w.alloc (.cells (imgArr h s (.slice qs l.length cs) dv) 41)) w.heap.size h s (.slice qs l.length cs) dv := heap_alloc_new w _
  obtain ⟨W, hW⟩ : ∃ W, w.alloc (.cells (imgArr h s (.slice qs l.length cs) dv) 41) = W := ⟨_, rfl⟩
  obtain ⟨b, hb⟩ : ∃ b, w.heap.size = b := ⟨_, rfl⟩
  rw [hW] at gB aA
  rw [hb] at aA
  have IA := Lib.hid aA
  have G := Lib.hid gB
  have SG := Lib.hid (rsegments_any (dv := dv) (h := h) (k.grown gB) hf hn hh)
  have SC := Lib.hid (fun (V : World) (hg : W.grownBy V none) (hz : segsOk s n hd = true) => rsections_any (dv := dv) (h := h) ((k.grown gB).grown hg) hf (fun x hx => (by
    unfold segsOk at hz
    simp only [Bool.and_eq_true] at hz
    have := List.all_eq_true.1 hz.1.1.2 x hx
    unfold sizeOk at this
    simp only [Bool.and_eq_true, decide_eq_true_eq] at this
    exact this.1.1.2)) hcap)
  have KK := Lib.hid (fun (V : World) (hg : W.grownBy V none) => (k.grown gB).grown hg)
  have SP := Lib.hid hs
  have NN := Lib.hid hn
  obtain ⟨r, hr⟩ : ∃ r, r = mayN h s n hd := ⟨_, rfl⟩
  rw [← hr]
  unfold mayN at hr
  clear k gB aA hf hs hn hh hcap
  rw [show imgV h s (.slice qs l.length cs) dv = .agg (imgArr h s (.slice qs l.length cs) dv) from rfl]
  unfold imgArr at hW ⊢
  go_enter Tryz.func24, Tryz.ntmps24
  go_upto_region 1 with fail
  clear hW hb
  generalize Value.agg #[.int .i64 h.kd, .int .i64 h.sb, .int .u32 h.fl, .string (strOfNums s.name), .slice qs l.length cs, dv, .int .u64 s.rb.1, .int .u64 s.rb.2, .int .u64 s.bd.1, .int .u64 s.bd.2, .int .u64 s.wk.1, .int .u64 s.wk.2, .int .u64 s.lz.1, .int .u64 s.lz.2, .int .u64 s.tr.1, .int .u64 s.tr.2, .int .u64 s.ch.1, .int .u64 s.ch.2, .int .u64 s.sy.1, .int .u64 s.sy.2, .int .u64 s.st.1, .int .u64 s.st.2, .int .u64 s.entry, .bool s.has] = v0
  go_wp2_with (first | refine wpList_load_imgI rfl _ rfl rfl IA.out ?_ | fail)
  refine SG.out.mono ?_
  rintro e w2 ⟨rfl, hg2⟩
  have G2 := Lib.hid hg2
  clear SG
  cases hso : segsOk s n hd
  · have HR := Lib.hid (hr.trans (by rw [hso]; rfl) : r = 8)
    clear hr hg2
    rw [if_neg (by decide)]
    go_wp2
    go_ret
    exact ⟨ret_int HR.out.symm, grown_trans G.out G2.out⟩
  rw [hso, if_neg (by decide)] at hr
  rw [if_pos rfl]
  have I2 := Lib.hid (IA.out.kept hg2 (by simp))
  have S2 := Lib.hid (SC.out w2 hg2 hso)
  clear hg2 SC
  go_wp2_with (first | refine wpList_load_imgI rfl _ rfl rfl I2.out ?_ | fail)
  refine S2.out.mono ?_
  rintro e w3 ⟨rfl, hg3⟩
  have G3 := Lib.hid (grown_trans G2.out hg3)
  clear S2
  cases hsc : secsOk s
  · have HR := Lib.hid (hr.trans (by rw [hsc]; rfl) : r = 9)
    clear hr hg3
    rw [if_neg (by decide)]
    go_wp2
    go_ret
    exact ⟨ret_int HR.out.symm, grown_trans G.out G3.out⟩
  rw [hsc, if_neg (by decide)] at hr
  rw [if_pos rfl]
  have I3 := I2.out.kept hg3 (by simp)
  clear hg3 I2
  have HR := Lib.hid hr
  clear hr
  have c6 := I3.c 6 (.int .u64 s.rb.1) rfl
  have c7 := I3.c 7 (.int .u64 s.rb.2) rfl
  have c8 := I3.c 8 (.int .u64 s.bd.1) rfl
  have c9 := I3.c 9 (.int .u64 s.bd.2) rfl
  have c10 := I3.c 10 (.int .u64 s.wk.1) rfl
  have c11 := I3.c 11 (.int .u64 s.wk.2) rfl
  have c12 := I3.c 12 (.int .u64 s.lz.1) rfl
  have c13 := I3.c 13 (.int .u64 s.lz.2) rfl
  have c14 := I3.c 14 (.int .u64 s.tr.1) rfl
  have c15 := I3.c 15 (.int .u64 s.tr.2) rfl
  have c16 := I3.c 16 (.int .u64 s.ch.1) rfl
  have c17 := I3.c 17 (.int .u64 s.ch.2) rfl
  have c18 := I3.c 18 (.int .u64 s.sy.1) rfl
  have c19 := I3.c 19 (.int .u64 s.sy.2) rfl
  have c20 := I3.c 20 (.int .u64 s.st.1) rfl
  have c21 := I3.c 21 (.int .u64 s.st.2) rfl
  have gl := lt_of_block I3
  have II3 := Lib.hid I3
  clear I3
  go_upto_region 8 with fail
  have R4 := RowSp.of_arr (heap_alloc_new w3 (.cells #[.int .u64 s.rb.1, .int .u64 s.rb.2, .int .u64 s.bd.1, .int .u64 s.bd.2, .int .u64 s.wk.1, .int .u64 s.wk.2, .int .u64 s.lz.1, .int .u64 s.lz.2, .int .u64 s.tr.1, .int .u64 s.tr.2, .int .u64 s.ch.1, .int .u64 s.ch.2, .int .u64 s.sy.1, .int .u64 s.sy.2, .int .u64 s.st.1, .int .u64 s.st.2] 39))
  have g4 := grown1 w3 (.cells #[.int .u64 s.rb.1, .int .u64 s.rb.2, .int .u64 s.bd.1, .int .u64 s.bd.2, .int .u64 s.wk.1, .int .u64 s.wk.2, .int .u64 s.lz.1, .int .u64 s.lz.2, .int .u64 s.tr.1, .int .u64 s.tr.2, .int .u64 s.ch.1, .int .u64 s.ch.2, .int .u64 s.sy.1, .int .u64 s.sy.2, .int .u64 s.st.1, .int .u64 s.st.2] 39)
  obtain ⟨W4, hW4⟩ : ∃ W4, w3.alloc (.cells #[.int .u64 s.rb.1, .int .u64 s.rb.2, .int .u64 s.bd.1, .int .u64 s.bd.2, .int .u64 s.wk.1, .int .u64 s.wk.2, .int .u64 s.lz.1, .int .u64 s.lz.2, .int .u64 s.tr.1, .int .u64 s.tr.2, .int .u64 s.ch.1, .int .u64 s.ch.2, .int .u64 s.sy.1, .int .u64 s.sy.2, .int .u64 s.st.1, .int .u64 s.st.2] 39) = W4 := ⟨_, rfl⟩
  rw [hW4] at R4 g4 ⊢
  have G4 := Lib.hid (grown_trans G3.out g4)
  have RR := Lib.hid R4
  clear hW4 R4 g4 c6 c7 c8 c9 c10 c11 c12 c13 c14 c15 c16 c17 c18 c19 c20 c21 gl II3
  obtain ⟨p4, hp4⟩ : ∃ p, w3.heap.size = p := ⟨_, rfl⟩
  rw [hp4] at RR ⊢
  clear hp4
  go_wp2_with fail
  go_loopw [10] (fun i wr => ∃ m : Nat, m ≤ 8 ∧ i = .int .i64 m ∧ W4.grownBy wr none ∧ ∀ j x, j < m → (spansList s)[j]? = some x → withinN x.1 x.2 n = true) (fun i _ => 8 - (intOf i).toNat)
  case atStart => exact ⟨0, Nat.zero_le _, rfl, grown_refl _ _, fun j x hj => by omega⟩
  case round =>
    obtain ⟨m, hm, rfl, hg, hall⟩ := hrel
    have AL := Lib.hid hall
    have GB := Lib.hid (grown_trans G4.out hg)
    have GA := Lib.hid (grown_trans G.out GB.out)
    have GX := Lib.hid hg
    by_cases hmt : m < 8
    · obtain ⟨⟨X, Y⟩, hx⟩ : ∃ x, (spansList s)[m]? = some x := ⟨_, List.getElem?_eq_getElem (by exact hmt)⟩
      obtain ⟨g', hq', e0, e1⟩ := (RR.out.grown hg) m _ hx
      obtain rfl : p4 = g' := by injection hq' with e; injection e
      simp only [] at e0 e1
      have FX := SP.out _ (List.mem_of_getElem? hx)
      have WI := Lib.hid (fun V => (withinR_any X Y n FX.1 FX.2 NN.out V).mono (fun _ _ h => (⟨h.1, h.2.symm⟩ : _ ∧ _)))
      have HX := Lib.hid hx
      have dm : decide ((m : Int) < 8) = true := by simp; omega
      have hm8 : (m : Int) < 8 := by omega
      obtain ⟨v, hv⟩ : ∃ v, v = withinN X Y n := ⟨_, rfl⟩
      rw [← hv] at WI
      have HV := Lib.hid hv
      clear hall hx hq' FX hv hg
      cases v
      · have HE := Lib.hid (HR.out.trans (show (if (spansOk s n && (s.sy.2 % 16 == 0) && entryOk s) = false then 4 else if nameOk h s = false then 10 else 0 : Int) = 4 by
          rw [if_pos]
          have : spansOk s n = false := by
            unfold spansOk
            rw [List.all_eq_false]
            exact ⟨_, List.mem_of_getElem? HX.out, by rw [← HV.out]; decide⟩
          rw [this]; rfl))
        go_wp2
        go_quiet ((go_at_call 48; exact Calls.quiet_of_same (WI.out _)))
        go_wp2
        go_ret
        exact ⟨ret_int HE.out.symm, grown_drewN GA.out _⟩
      · go_wp2
        go_quiet ((go_at_call 48; exact Calls.quiet_of_same (WI.out _)))
        go_wp2
        go_roundw
        case rel =>
          refine ⟨m + 1, hmt, by go_num, grown_drewN GX.out _, fun j x hj hjx => ?_⟩
          rcases Nat.lt_or_ge j m with z1 | z1
          · exact AL.out j x z1 hjx
          · obtain rfl : j = m := by omega
            rw [HX.out] at hjx
            injection hjx with hjx
            rw [← hjx]; exact HV.out.symm
        case measure => simp [intOf]; omega
    · have hm' : m = 8 := by omega
      subst hm'
      have SOKS : spansOk s n = true := by
        unfold spansOk
        rw [List.all_eq_true]
        intro x hx
        obtain ⟨j, hj, rfl⟩ := List.getElem_of_mem hx
        exact hall j _ hj (List.getElem?_eq_getElem hj)
      have HR := HR.out
      rw [SOKS, Bool.true_and] at HR
      have iR := IA.out.kept GB.out (by simp)
      have gl := lt_of_block iR
      have q19 := iR.c 19 (.int .u64 s.sy.2) rfl
      have q22 := iR.c 22 (.int .u64 s.entry) rfl
      have q23 := iR.c 23 (.bool s.has) rfl
      have k19 := fun d os => cell_regrown q19 d os
      have k22 := fun d os => cell_regrown q22 d os
      have k23 := fun d os => cell_regrown q23 d os
      have KG := fun d os => grown_below (below_regrown wr d os) none
      have LH := Lib.hid (fun d os => Calls.regrown_of ((rHigh_any (h := h) (dv := dv) (KK.out _ (grown_trans GB.out (KG d os)))).mono (fun _ _ h => (⟨h.1, below_grown h.2 (Nat.le_refl _) (by simp)⟩ : _ ∧ _))))
      have LL := Lib.hid (fun d os => Calls.regrown_of ((rLow_any (h := h) (dv := dv) (KK.out _ (grown_trans GB.out (KG d os)))).mono (fun _ _ h => (⟨h.1, below_grown h.2 (Nat.le_refl _) (by simp)⟩ : _ ∧ _))))
      have LD := Lib.hid (fun (V : World) (hV : ∃ p : Regrown, V = grow (redrawn wr p.d) p.os) => (by obtain ⟨p, rfl⟩ := hV; exact run_loadImg0 (iR.kept (KG p.d p.os) (by simp)) : (loadVar 41 ⟨b, 0, none⟩).run Tryz.prog V = .ok (imgV h s (.slice qs l.length cs) dv) V))
      have hsy := (SP.out s.sy (by unfold spansList; simp)).2
      have t1 : s.sy.2.tmod 16 = s.sy.2 % 16 := Int.tmod_eq_emod_of_nonneg hsy.1
      obtain ⟨r1, hr1⟩ : ∃ r, s.sy.2 % 16 = r := ⟨_, rfl⟩
      have m1 : IntKind.u64.wrap r1 = r1 := by rw [IntKind.wrap_u64]; omega
      have m3 : r1 % 18446744073709551616 = r1 := by omega
      rw [hr1] at t1 HR
      unfold entryOk at HR
      obtain ⟨H, hH⟩ : ∃ H, highN s.segs = H := ⟨_, rfl⟩
      obtain ⟨L, hL⟩ : ∃ L, lowN s.segs = L := ⟨_, rfl⟩
      rw [hH] at LH HR
      rw [hL] at LL HR
      obtain ⟨T, hT⟩ : ∃ T, (H - L) % 18446744073709551616 = T := ⟨_, rfl⟩
      have hT2 : IntKind.u64.wrap (H - L) = T := by rw [IntKind.wrap_u64]; exact hT
      rw [hT] at HR
      obtain ⟨hs2, hhs⟩ : ∃ b, s.has = b := ⟨_, rfl⟩
      rw [hhs] at HR q23 k23
      clear hall hg iR KG hsy hr1 hH hL SOKS q19 q22 q23 hhs
      generalize hWR : wr = WR at *
      clear hWR
      by_cases e1 : r1 = 0
      rotate_left
      · have HE := Lib.hid (HR.trans (by rw [show (r1 == 0) = false by simpa using e1]; rfl) : r = 4)
        have d1 : (r1 != 0) = true := by simpa using e1
        clear e1 HR
        go_wp2_with fail
        refine wp_region_quiet_below (by kernel_rfl) (by kernel_rfl) ?_
        refine WpQ.out ?_
        iterate 6 (refine WpQ.step (fun K hK => ?_); go_simp; first | (refine hK _ ?_; clear hK K) | (apply Exists.intro; refine ⟨fun _ => ?_, hK _ ?_⟩; clear hK K))
        iterate 12 (refine WpQ.skip (by kernel_rfl) ?_)
        (refine WpQ.step (fun K hK => ?_); go_simp; first | (refine hK _ ?_; clear hK K) | (apply Exists.intro; refine ⟨fun _ => ?_, hK _ ?_⟩; clear hK K))
        refine WpQ.nil ?_
        intro _ hw'
        obtain ⟨⟨dq, osq⟩, hw''⟩ := hw'
        subst hw''
        have GQ := Lib.hid (grown_trans GA.out (grown_below (below_regrown WR dq osq) none))
        clear LH LL LD k22 k23 k19
        go_wp2
        go_ret
        exact ⟨ret_int HE.out.symm, GQ.out⟩
      have d1 : (r1 != 0) = false := by simpa using e1
      rw [show (r1 == 0) = true by simpa using e1, Bool.true_and] at HR
      clear e1
      cases hs2
      · rw [show (!false || decide (s.entry < T)) = true from rfl, if_neg (by decide)] at HR
        have HR := Lib.hid HR
        go_wp2_with fail
        refine wp_region_quiet_below (by kernel_rfl) (by kernel_rfl) ?_
        refine WpQ.out ?_
        iterate 9 (refine WpQ.step (fun K hK => ?_); go_simp; first | (refine hK _ ?_; clear hK K) | (apply Exists.intro; refine ⟨fun _ => ?_, hK _ ?_⟩; clear hK K))
        iterate 8 (refine WpQ.skip (by kernel_rfl) ?_)
        iterate 2 (refine WpQ.step (fun K hK => ?_); go_simp; first | (refine hK _ ?_; clear hK K) | (apply Exists.intro; refine ⟨fun _ => ?_, hK _ ?_⟩; clear hK K))
        refine WpQ.nil ?_
        intro _ hw'
        obtain ⟨⟨dq, osq⟩, hw''⟩ := hw'
        subst hw''
        have GQ := Lib.hid (grown_trans GA.out (grown_below (below_regrown WR dq osq) none))
        clear LH LL LD k22 k23 k19
        have IQ := IA.out.kept (grown_trans GB.out (grown_below (below_regrown WR dq osq) none)) (by simp)
        have c0 := IQ.c 0 (.int .i64 h.kd) rfl
        have c3 := IQ.c 3 (.string (strOfNums s.name)) rfl
        have ql := lt_of_block IQ
        clear IQ
        cases hk6 : (h.kd == 6)
        · have hk6n : (h.kd != 6) = true := by unfold bne; rw [hk6]; rfl
          cases hnm : (strOfNums s.name).toList.isEmpty
          · have HE := Lib.hid (HR.out.trans (show (if (nameOk h s) = false then 10 else 0 : Int) = 10 by unfold nameOk; rw [hk6, hnm]; rfl))
            go_wp2
            go_ret
            exact ⟨ret_int HE.out.symm, GQ.out⟩
          · have HE := Lib.hid (HR.out.trans (show (if (nameOk h s) = false then 10 else 0 : Int) = 0 by unfold nameOk; rw [hk6, hnm]; rfl))
            go_wp2
            go_ret
            exact ⟨ret_int HE.out.symm, GQ.out⟩
        · have hk6n : (h.kd != 6) = false := by unfold bne; rw [hk6]; rfl
          cases hnm : (strOfNums s.name).toList.isEmpty
          · have HE := Lib.hid (HR.out.trans (show (if (nameOk h s) = false then 10 else 0 : Int) = 0 by unfold nameOk; rw [hk6, hnm]; rfl))
            go_wp2
            go_ret
            exact ⟨ret_int HE.out.symm, GQ.out⟩
          · have HE := Lib.hid (HR.out.trans (show (if (nameOk h s) = false then 10 else 0 : Int) = 10 by unfold nameOk; rw [hk6, hnm]; rfl))
            go_wp2
            go_ret
            exact ⟨ret_int HE.out.symm, GQ.out⟩
      · cases hE : decide (s.entry < T)
        · have dE : decide (T ≤ s.entry) = true := by have := of_decide_eq_false hE; simp; omega
          have HE := Lib.hid (HR.trans (by rw [hE]; rfl) : r = 4)
          clear HR hE
          go_wp2_with fail
          refine wp_region_quiet_below (by kernel_rfl) (by kernel_rfl) ?_
          iterate 11 (quiet_step (fail))
          refine wpQuiet_load_img rfl _ rfl rfl LD.out ?_
          quiet_step (with_reducible exact LH.out _ _)
          refine wpQuiet_load_img rfl _ rfl rfl LD.out ?_
          quiet_step (with_reducible exact LL.out _ _)
          iterate 4 (quiet_step (fail))
          refine wpQuiet_nil ?_
          intro _ hw'
          obtain ⟨⟨dq, osq⟩, hw''⟩ := hw'
          subst hw''
          have GQ := Lib.hid (grown_trans GA.out (grown_below (below_regrown WR dq osq) none))
          clear LH LL LD k22 k23 k19
          go_wp2
          go_ret
          exact ⟨ret_int HE.out.symm, GQ.out⟩
        · have dE : decide (T ≤ s.entry) = false := by have := of_decide_eq_true hE; simp; omega
          rw [hE, if_neg (by decide)] at HR
          have HR := Lib.hid HR
          clear hE
          go_wp2_with fail
          refine wp_region_quiet_below (by kernel_rfl) (by kernel_rfl) ?_
          iterate 11 (quiet_step (fail))
          refine wpQuiet_load_img rfl _ rfl rfl LD.out ?_
          quiet_step (with_reducible exact LH.out _ _)
          refine wpQuiet_load_img rfl _ rfl rfl LD.out ?_
          quiet_step (with_reducible exact LL.out _ _)
          iterate 4 (quiet_step (fail))
          refine wpQuiet_nil ?_
          intro _ hw'
          obtain ⟨⟨dq, osq⟩, hw''⟩ := hw'
          subst hw''
          have GQ := Lib.hid (grown_trans GA.out (grown_below (below_regrown WR dq osq) none))
          clear LH LL LD k22 k23 k19
          have IQ := IA.out.kept (grown_trans GB.out (grown_below (below_regrown WR dq osq) none)) (by simp)
          have c0 := IQ.c 0 (.int .i64 h.kd) rfl
          have c3 := IQ.c 3 (.string (strOfNums s.name)) rfl
          have ql := lt_of_block IQ
          clear IQ
          cases hk6 : (h.kd == 6)
          · have hk6n : (h.kd != 6) = true := by unfold bne; rw [hk6]; rfl
            cases hnm : (strOfNums s.name).toList.isEmpty
            · have HE := Lib.hid (HR.out.trans (show (if (nameOk h s) = false then 10 else 0 : Int) = 10 by unfold nameOk; rw [hk6, hnm]; rfl))
              go_wp2
              go_ret
              exact ⟨ret_int HE.out.symm, GQ.out⟩
            · have HE := Lib.hid (HR.out.trans (show (if (nameOk h s) = false then 10 else 0 : Int) = 0 by unfold nameOk; rw [hk6, hnm]; rfl))
              go_wp2
              go_ret
              exact ⟨ret_int HE.out.symm, GQ.out⟩
          · have hk6n : (h.kd != 6) = false := by unfold bne; rw [hk6]; rfl
            cases hnm : (strOfNums s.name).toList.isEmpty
            · have HE := Lib.hid (HR.out.trans (show (if (nameOk h s) = false then 10 else 0 : Int) = 0 by unfold nameOk; rw [hk6, hnm]; rfl))
              go_wp2
              go_ret
              exact ⟨ret_int HE.out.symm, GQ.out⟩
            · have HE := Lib.hid (HR.out.trans (show (if (nameOk h s) = false then 10 else 0 : Int) = 10 by unfold nameOk; rw [hk6, hnm]; rfl))
              go_wp2
              go_ret
              exact ⟨ret_int HE.out.symm, GQ.out⟩
end Go.Proofs.YtdagnkdonlfobaaGreat

/- What must be so of an image, in memory: the rows of rules. No condition. -/
namespace Go.Proofs.YtdagnkdonlfobaaGreat
open Go.RowKit
variable {w w' : World} {h : Hx} {s : St} {sv dv : Value} {n hd : Int}

/-- An error, and the rules of it: each one's function, and whether it is so. -/
abbrev Dem := Int × List (Nat × Bool)
def demandsN (h : Hx) (s : St) (n hd : Int) : List Dem :=
  [(8, [(127, s.segs.all protOk), (128, s.segs.all (fun x => sizeOk x n)), (129, diffN s.segs), (130, riseN 0 s.segs), (131, frontOk s.segs hd)]),
   (9, [(132, s.segs.all (fun z => z.secs.all (secOk z)))]), (4, [(133, (s.sy.2 % 16 == 0) && spansOk s n), (134, entryOk s)]), (10, [(135, nameOk h s)])]
def askN : List Dem → Int
  | [] => 0
  | d :: l => if d.2.all (·.2) = true then askN l else d.1
def DemsAt (w : World) (b : Nat) (l : List Dem) : Prop := ∀ i d, l[i]? = some d → ∃ g, w.cell? ⟨b, i * 2, none⟩ = some (.int .i64 d.1) ∧ w.cell? ⟨b, i * 2 + 1, none⟩ = some (.slice (some ⟨g, 0, none⟩) d.2.length d.2.length) ∧ ∀ j x, d.2[j]? = some x → w.cell? ⟨g, j, none⟩ = some (.func (.func x.1) #[] #[])
theorem DemsAt.grown {b : Nat} {l : List Dem} (k : DemsAt w b l) (hg : w.grownBy w' none) : DemsAt w' b l := fun i d hd => by
  obtain ⟨g, c0, c1, c2⟩ := k i d hd
  exact ⟨g, grown_cell hg c0, grown_cell hg c1, fun j x hx => grown_cell hg (c2 j x hx)⟩
theorem cell_new {w : World} {cs : Array Value} {t : TypeId} (i : Nat) (v : Value) (hv : cs[i]? = some v) : (w.alloc (.cells cs t)).cell? ⟨w.heap.size, i, none⟩ = some v := by rw [cell_of (heap_alloc_new w _)]; exact hv
theorem cell_keep {w : World} {a : Addr} {v : Value} (h : w.cell? a = some v) (o : Obj) : (w.alloc o).cell? a = some v := grown_cell (grown1 w o) h
theorem demands_any (h : Hx) (s : St) (n hd : Int) : Calls Tryz.prog 94 #[] w fun e w' => ∃ b, e = .returned (.slice (some ⟨b, 0, none⟩) 4 4) ∧ DemsAt w' b (demandsN h s n hd) ∧ w.grownBy w' none := by
  go_enter Tryz.func94, Tryz.ntmps94
  go_wp2
  go_ret
  refine ⟨w.heap.size + 1 + 1 + 1 + 1, rfl, ?_, ?_⟩
  · obtain ⟨w1, h1⟩ : ∃ w1, w1 = w.alloc (.cells #[.func (.func 127) #[] #[], .func (.func 128) #[] #[], .func (.func 129) #[] #[], .func (.func 130) #[] #[], .func (.func 131) #[] #[]] 171) := ⟨_, rfl⟩
    obtain ⟨w2, h2⟩ : ∃ w2, w2 = w1.alloc (.cells #[.func (.func 132) #[] #[]] 171) := ⟨_, rfl⟩
    obtain ⟨w3, h3⟩ : ∃ w3, w3 = w2.alloc (.cells #[.func (.func 133) #[] #[], .func (.func 134) #[] #[]] 171) := ⟨_, rfl⟩
    obtain ⟨w4, h4⟩ : ∃ w4, w4 = w3.alloc (.cells #[.func (.func 135) #[] #[]] 171) := ⟨_, rfl⟩
    have s1 : w1.heap.size = w.heap.size + 1 := by rw [h1]; simp
    have s2 : w2.heap.size = w1.heap.size + 1 := by rw [h2]; simp
    have s3 : w3.heap.size = w2.heap.size + 1 := by rw [h3]; simp
    have s4 : w4.heap.size = w3.heap.size + 1 := by rw [h4]; simp
    rw [← h1, ← h2, ← h3, ← h4, ← s1, ← s2, ← s3, ← s4]
    intro i d hd'
    unfold demandsN at hd'
    match i, hd' with
    | 0, hd' =>
      injection hd' with hd'
      subst hd'
      refine ⟨w.heap.size, cell_new 0 _ rfl, cell_new 1 _ rfl, fun j x hx => ?_⟩
      refine cell_keep ?_ _
      rw [h4]; refine cell_keep ?_ _
      rw [h3]; refine cell_keep ?_ _
      rw [h2]; refine cell_keep ?_ _
      rw [h1]
      match j, hx with
      | 0, hx => injection hx with hx; subst hx; exact cell_new 0 _ rfl
      | 1, hx => injection hx with hx; subst hx; exact cell_new 1 _ rfl
      | 2, hx => injection hx with hx; subst hx; exact cell_new 2 _ rfl
      | 3, hx => injection hx with hx; subst hx; exact cell_new 3 _ rfl
      | 4, hx => injection hx with hx; subst hx; exact cell_new 4 _ rfl
      | k + 5, hx => simp at hx
    | 1, hd' =>
      injection hd' with hd'
      subst hd'
      refine ⟨w1.heap.size, cell_new 2 _ rfl, cell_new 3 _ rfl, fun j x hx => ?_⟩
      refine cell_keep ?_ _
      rw [h4]; refine cell_keep ?_ _
      rw [h3]; refine cell_keep ?_ _
      rw [h2]
      match j, hx with
      | 0, hx => injection hx with hx; subst hx; exact cell_new 0 _ rfl
      | k + 1, hx => simp at hx
    | 2, hd' =>
      injection hd' with hd'
      subst hd'
      refine ⟨w2.heap.size, cell_new 4 _ rfl, cell_new 5 _ rfl, fun j x hx => ?_⟩
      refine cell_keep ?_ _
      rw [h4]; refine cell_keep ?_ _
      rw [h3]
      match j, hx with
      | 0, hx => injection hx with hx; subst hx; exact cell_new 0 _ rfl
      | 1, hx => injection hx with hx; subst hx; exact cell_new 1 _ rfl
      | k + 2, hx => simp at hx
    | 3, hd' =>
      injection hd' with hd'
      subst hd'
      refine ⟨w3.heap.size, cell_new 6 _ rfl, cell_new 7 _ rfl, fun j x hx => ?_⟩
      refine cell_keep ?_ _
      rw [h4]
      match j, hx with
      | 0, hx => injection hx with hx; subst hx; exact cell_new 0 _ rfl
      | k + 1, hx => simp at hx
    | k + 4, hd' => simp at hd'
  · exact grown_trans (grown_trans (grown_trans (grown_trans (grown1 _ _) (grown1 _ _)) (grown1 _ _)) (grown1 _ _)) (grown1 _ _)
end Go.Proofs.YtdagnkdonlfobaaGreat

/- The program's May, whole. No condition but that numbers fit their types. -/
namespace Go.Proofs.YtdagnkdonlfobaaGreat
open Go.RowKit
variable {w w' : World} {h : Hx} {s : St} {sv dv : Value} {n hd : Int}

theorem askInfo : (Tryz.prog.info? 165).map (·.size) = some 26 := by kernel_rfl
theorem askArr_one (h : Hx) (s : St) (n hd : Int) {sv dv : Value} (h1 : ∃ q n c, sv = .slice q n c) (h2 : ∃ q n c, dv = .slice q n c) : (askArr h s sv dv n hd).all (·.oneCell') = true := by
  obtain ⟨q, n, c, rfl⟩ := h1
  obtain ⟨q', n', c', rfl⟩ := h2
  simp [askArr, Value.oneCell']
theorem wpList_store_ask {g : Nat} {old : Array Value} {ops : Array Oper} {rest : List Oper} {o : Oper} {a : Act} {Q : Exit → Act → World → Prop} (hgd : o.guard = none) (x y : Operand) (ho : o.op = .store 165 x y)
    (hx : a.eval x = .pointer (some ⟨g, 0, none⟩)) (hy : a.eval y = askV h s sv dv n hd) (k : w.heap[g]? = some (.cells old 165 (0, 0))) (hs : old.size = 26) (h1 : ∃ q n c, sv = .slice q n c) (h2 : ∃ q n c, dv = .slice q n c)
    (hK : wpList Tryz.prog ops Q rest (a.put o.dst undef) (w.setRow g (askArr h s sv dv n hd))) : wpList Tryz.prog ops Q (o :: rest) a w :=
  wpList_store_row hgd _ x y ho g (askArr h s sv dv n hd) hx hy _ _ k askInfo hs (askArr_one h s n hd h1 h2) hK
theorem wpList_load_ask {g : Nat} {ops : Array Oper} {rest : List Oper} {o : Oper} {a : Act} {Q : Exit → Act → World → Prop} (hgd : o.guard = none) (x : Operand) (ho : o.op = .load 165 x)
    (hx : a.eval x = .pointer (some ⟨g, 0, none⟩)) (k : AskAt w g h s sv dv n hd) (hK : wpList Tryz.prog ops Q rest (a.put o.dst (askV h s sv dv n hd)) w) : wpList Tryz.prog ops Q (o :: rest) a w :=
  BigFrame.wpList_want (by unfold Region.wanted; rw [hgd]) fun _ hK' => wp_load_row _ x ho g hx _ _ _ _ k Tryz.underlying165 rfl (by kernel_rfl) (hK' _ _ hK)

theorem drop_dem {D : List Dem} {k : Nat} {d : Dem} (hd : D[k]? = some d) : D.drop k = d :: D.drop (k + 1) := by
  obtain ⟨hk, rfl⟩ := List.getElem?_eq_some_iff.1 hd
  exact List.drop_eq_getElem_cons hk
theorem askN_cons (d : Dem) (l : List Dem) : askN (d :: l) = if d.2.all (·.2) = true then askN l else d.1 := rfl
/-- What each rule answers, wherever it is asked. -/
structure Rule (w : World) (h : Hx) (s : St) (sv dv : Value) (n hd : Int) (x : Nat × Bool) : Prop where
  enter : ∀ args W, (callFunc x.1 args).run Tryz.prog W = .ok (.enter x.1 args) W
  ask : ∀ W, w.grownBy W none → Calls Tryz.prog x.1 #[askV h s sv dv n hd] W fun e w' => e = .returned (.bool x.2) ∧ W.grownBy w' none
set_option maxRecDepth 20000 in
set_option maxHeartbeats 400000 in
theorem May_dem {qs : Option Addr} {len cs : Nat} (D : List Dem) (hD : D.length = 4) (h47 : ∀ d ∈ D, d.2.length ≤ 1000) (h2 : ∃ q n c, dv = .slice q n c) (hR : ∀ d ∈ D, ∀ x ∈ d.2, Rule w h s (.slice qs len cs) dv n hd x)
    (hDem : ∀ W, Calls Tryz.prog 94 #[] W fun e w' => ∃ b, e = .returned (.slice (some ⟨b, 0, none⟩) 4 4) ∧ DemsAt w' b D ∧ W.grownBy w' none) :
    Calls Tryz.prog 58 #[imgV h s (.slice qs len cs) dv, .int .u64 n, .int .u64 hd] w fun e w' => e = .returned (.int .i64 (askN D)) ∧ w.grownBy w' none := by
  have gB := grown1 w (.cells (imgArr h s (.slice qs len cs) dv) 41)
  have aA : ImgAt (w.alloc (.cells (imgArr h s (.slice qs len cs) dv) 41)) w.heap.size h s (.slice qs len cs) dv := heap_alloc_new w _
  obtain ⟨W, hW⟩ : ∃ W, w.alloc (.cells (imgArr h s (.slice qs len cs) dv) 41) = W := ⟨_, rfl⟩
  obtain ⟨b, hb⟩ : ∃ b, w.heap.size = b := ⟨_, rfl⟩
  rw [hW] at gB aA
  rw [hb] at aA
  have AA := Lib.hid aA
  have G := Lib.hid gB
  have gl := lt_of_block aA
  have ZA := Lib.hid (heap_alloc_new W (.cells #[.int .i64 0, .int .i64 0, .int .u32 0, .string ⟨#[]⟩, .slice none 0 0, .slice none 0 0, .int .u64 0, .int .u64 0, .int .u64 0, .int .u64 0, .int .u64 0, .int .u64 0, .int .u64 0, .int .u64 0, .int .u64 0, .int .u64 0, .int .u64 0, .int .u64 0, .int .u64 0, .int .u64 0, .int .u64 0, .int .u64 0, .int .u64 0, .bool false, .int .u64 0, .int .u64 0] 165))
  have DM := Lib.hid hDem
  have RL := Lib.hid hR
  have H2 := Lib.hid h2
  have HL := Lib.hid hD
  have H47 := Lib.hid h47
  clear gB aA hDem hR h2 hD h47
  rw [show imgV h s (.slice qs len cs) dv = .agg (imgArr h s (.slice qs len cs) dv) from rfl]
  unfold imgArr at hW ⊢
  go_enter Tryz.func58, Tryz.ntmps58
  go_wp2_with fail
  go_step3
  clear hW hb
  go_upto_region 2 with (first | (refine wpList_load_imgI rfl _ rfl rfl AA.out ?_; unfold imgV imgArr) | refine wpList_store_ask (h := h) (s := s) (sv := .slice qs len cs) (dv := dv) (n := n) (hd := hd) rfl _ _ rfl rfl rfl ZA.out rfl ⟨_, _, _, rfl⟩ H2.out ?_ | fail)
  have A2 : AskAt ((W.alloc (.cells #[.int .i64 0, .int .i64 0, .int .u32 0, .string ⟨#[]⟩, .slice none 0 0, .slice none 0 0, .int .u64 0, .int .u64 0, .int .u64 0, .int .u64 0, .int .u64 0, .int .u64 0, .int .u64 0, .int .u64 0, .int .u64 0, .int .u64 0, .int .u64 0, .int .u64 0, .int .u64 0, .int .u64 0, .int .u64 0, .int .u64 0, .int .u64 0, .bool false, .int .u64 0, .int .u64 0] 165)).setRow W.heap.size (askArr h s (.slice qs len cs) dv n hd)) W.heap.size h s (.slice qs len cs) dv n hd := setRow_heap _ _ _ _ _ _ ZA.out
  have g2 := grown_new (grown1 W (.cells #[.int .i64 0, .int .i64 0, .int .u32 0, .string ⟨#[]⟩, .slice none 0 0, .slice none 0 0, .int .u64 0, .int .u64 0, .int .u64 0, .int .u64 0, .int .u64 0, .int .u64 0, .int .u64 0, .int .u64 0, .int .u64 0, .int .u64 0, .int .u64 0, .int .u64 0, .int .u64 0, .int .u64 0, .int .u64 0, .int .u64 0, .int .u64 0, .bool false, .int .u64 0, .int .u64 0] 165)) (grown_setRow (g := W.heap.size) (W.alloc (.cells #[.int .i64 0, .int .i64 0, .int .u32 0, .string ⟨#[]⟩, .slice none 0 0, .slice none 0 0, .int .u64 0, .int .u64 0, .int .u64 0, .int .u64 0, .int .u64 0, .int .u64 0, .int .u64 0, .int .u64 0, .int .u64 0, .int .u64 0, .int .u64 0, .int .u64 0, .int .u64 0, .int .u64 0, .int .u64 0, .int .u64 0, .int .u64 0, .bool false, .int .u64 0, .int .u64 0] 165)) (askArr h s (.slice qs len cs) dv n hd)) (Nat.le_refl _)
  obtain ⟨W2, hW2⟩ : ∃ W2, (W.alloc (.cells #[.int .i64 0, .int .i64 0, .int .u32 0, .string ⟨#[]⟩, .slice none 0 0, .slice none 0 0, .int .u64 0, .int .u64 0, .int .u64 0, .int .u64 0, .int .u64 0, .int .u64 0, .int .u64 0, .int .u64 0, .int .u64 0, .int .u64 0, .int .u64 0, .int .u64 0, .int .u64 0, .int .u64 0, .int .u64 0, .int .u64 0, .int .u64 0, .bool false, .int .u64 0, .int .u64 0] 165)).setRow W.heap.size (askArr h s (.slice qs len cs) dv n hd) = W2 := ⟨_, rfl⟩
  rw [hW2] at A2 g2 ⊢
  have G2 := Lib.hid (grown_trans G.out g2)
  have AA2 := Lib.hid A2
  clear hW2 g2 ZA gl A2 AA
  generalize W.heap.size = p at *
  generalize Value.agg #[.int .i64 h.kd, .int .i64 h.sb, .int .u32 h.fl, .string (strOfNums s.name), .slice qs len cs, dv, .int .u64 s.rb.1, .int .u64 s.rb.2, .int .u64 s.bd.1, .int .u64 s.bd.2, .int .u64 s.wk.1, .int .u64 s.wk.2, .int .u64 s.lz.1, .int .u64 s.lz.2, .int .u64 s.tr.1, .int .u64 s.tr.2, .int .u64 s.ch.1, .int .u64 s.ch.2, .int .u64 s.sy.1, .int .u64 s.sy.2, .int .u64 s.st.1, .int .u64 s.st.2, .int .u64 s.entry, .bool s.has] = v0
  generalize Value.agg #[.int .i64 h.kd, .int .i64 h.sb, .int .u32 h.fl, .string (strOfNums s.name), .slice qs len cs, dv, .int .u64 s.rb.1, .int .u64 s.rb.2, .int .u64 s.bd.1, .int .u64 s.bd.2, .int .u64 s.wk.1, .int .u64 s.wk.2, .int .u64 s.lz.1, .int .u64 s.lz.2, .int .u64 s.tr.1, .int .u64 s.tr.2, .int .u64 s.ch.1, .int .u64 s.ch.2, .int .u64 s.sy.1, .int .u64 s.sy.2, .int .u64 s.st.1, .int .u64 s.st.2, .int .u64 s.entry, .bool s.has, .int .u64 n, .int .u64 hd] = v1
  go_wp2_with fail
  go_step3
  go_wp2_with fail
  refine (DM.out _).mono ?_
  rintro e w3 ⟨bd, rfl, hda, hg⟩
  have G3 := Lib.hid (grown_trans G2.out hg)
  have AA3 := Lib.hid (AA2.out.kept hg (by simp))
  have DA := Lib.hid hda
  clear hda hg AA2 G2 DM
  go_wp2_with fail
  go_loopw [8, 19] (fun e i wr => ∃ k : Nat, k ≤ 4 ∧ i = .int .i64 k ∧ e = .int .i64 0 ∧ w3.grownBy wr none ∧ askN D = askN (D.drop k)) (fun _ i _ => 4 - (intOf i).toNat)
  case atStart => exact ⟨0, Nat.zero_le _, rfl, rfl, grown_refl _ _, rfl⟩
  case round =>
    obtain ⟨k, hk, rfl, rfl, hg, ha⟩ := hrel
    have G4 := Lib.hid hg
    have HA := Lib.hid ha
    by_cases hlt : k < 4
    · obtain ⟨⟨er, rs⟩, hd2⟩ : ∃ d, D[k]? = some d := ⟨_, List.getElem?_eq_getElem (by rw [HL.out]; exact hlt)⟩
      obtain ⟨g, c0, c1, c2⟩ := (DA.out.grown hg) k _ hd2
      have HD := Lib.hid hd2
      have CC := Lib.hid c2
      have dl : decide ((k : Int) < 4) = true := by simp; omega
      simp only [] at c0 c1
      have L5 := H47.out _ (List.mem_of_getElem? hd2)
      have NX := Lib.hid (drop_dem hd2)
      simp only [] at L5
      clear hd2 c2 hg ha
      go_wp2_with fail
      have g5 := grown1 wr (.cells #[.int .i64 er, .slice (some ⟨g, 0, none⟩) rs.length rs.length] 170)
      have e0 : (wr.alloc (.cells #[.int .i64 er, .slice (some ⟨g, 0, none⟩) rs.length rs.length] 170)).cell? ⟨wr.heap.size, 0, none⟩ = some (.int .i64 er) := cell_new 0 _ rfl
      obtain ⟨wd, hwd⟩ : ∃ wd, wr.alloc (.cells #[.int .i64 er, .slice (some ⟨g, 0, none⟩) rs.length rs.length] 170) = wd := ⟨_, rfl⟩
      rw [hwd] at g5 e0 ⊢
      obtain ⟨pd, hpd⟩ : ∃ pd, wr.heap.size = pd := ⟨_, rfl⟩
      rw [hpd] at e0 ⊢
      have G5 := Lib.hid (grown_trans G4.out g5)
      have E0 := Lib.hid e0
      have CD := Lib.hid (fun j x hx => grown_cell g5 (CC.out j x hx))
      have RD := Lib.hid (fun x hx => RL.out (er, rs) (List.mem_of_getElem? HD.out) x hx)
      clear c0 c1 hwd hpd e0 g5
      go_loopw [8, 26] (fun e i wx => ∃ m : Nat, m ≤ rs.length ∧ i = .int .i64 m ∧ e = .int .i64 0 ∧ wd.grownBy wx none ∧ ∀ j x, j < m → rs[j]? = some x → x.2 = true) (fun _ i _ => rs.length - (intOf i).toNat)
      case atStart => exact ⟨0, Nat.zero_le _, rfl, rfl, grown_refl _ _, fun j x hj => by omega⟩
      case round =>
        obtain ⟨m, hm, rfl, rfl, hg, hall⟩ := hrel
        have AL := Lib.hid hall
        have GH := Lib.hid hg
        have G6 := Lib.hid (grown_trans G5.out hg)
        have AA6 := Lib.hid (AA3.out.kept G6.out (by simp))
        have e0 := grown_cell hg E0.out
        have el := block_lt_of_cell e0
        simp only [] at el
        by_cases hmt : m < rs.length
        · obtain ⟨⟨f, bx⟩, hx⟩ : ∃ x, rs[m]? = some x := ⟨_, List.getElem?_eq_getElem hmt⟩
          have c3 := grown_cell hg (CD.out m _ hx)
          have R := RD.out _ (List.mem_of_getElem? hx)
          have en := R.enter
          have AK := Lib.hid (R.ask wr (grown_trans G3.out G6.out))
          have HX := Lib.hid hx
          have dm : decide ((m : Int) < (rs.length : Int)) = true := by simp; omega
          have hml : (m : Int) < (rs.length : Int) := by omega
          simp only [] at c3 en AK
          clear hg hall R hx
          generalize rs.length = N at *
          go_wp2_with (first | refine wpList_load_ask rfl _ rfl rfl AA6.out ?_ | fail)
          refine AK.out.mono ?_
          rintro e w7 ⟨rfl, hg7⟩
          have G7 := Lib.hid (grown_trans G6.out hg7)
          have GW := Lib.hid (grown_trans GH.out hg7)
          have e7 := grown_cell hg7 e0
          have l7 := Nat.lt_of_lt_of_le el hg7.size
          clear hg7 en
          cases bx
          · have HE : askN D = er := by
              rw [HA.out, NX.out, askN_cons, if_neg]
              intro hal
              rw [List.all_eq_true] at hal
              have := hal _ (List.mem_of_getElem? HX.out)
              cases this
            go_wp2
            rw [Exit.noGoto_ret]
            go_ret
            exact ⟨ret_int HE.symm, grown_trans G3.out G7.out⟩
          · go_wp2
            go_roundw
            case rel =>
              refine ⟨m + 1, hmt, by go_num, rfl, GW.out, fun j x hj hjx => ?_⟩
              rcases Nat.lt_or_ge j m with h1 | h1
              · exact AL.out j x h1 hjx
              · obtain rfl : j = m := by omega
                rw [HX.out] at hjx
                injection hjx with hjx
                rw [← hjx]
            case measure => simp [intOf]; omega
        · have hm' : m = rs.length := by omega
          have dm : decide ((m : Int) < (rs.length : Int)) = false := by simp; omega
          have HALL : rs.all (·.2) = true := by
            rw [List.all_eq_true]
            intro x hx
            obtain ⟨j, hj, rfl⟩ := List.getElem_of_mem hx
            exact hall j _ (by omega) (List.getElem?_eq_getElem hj)
          have HQ := Lib.hid HALL
          clear hg hall HALL
          generalize rs.length = N at *
          go_wp2
          go_roundw
          case rel =>
            refine ⟨k + 1, hlt, by go_num, rfl, G6.out, ?_⟩
            rw [HA.out, NX.out, askN_cons, if_pos HQ.out]
          case measure => simp [intOf]; omega
    · have hk4 : k = 4 := by omega
      subst hk4
      have HF : askN D = 0 := by rw [ha, List.drop_eq_nil_of_le (by rw [HL.out]; exact Nat.le_refl _)]; rfl
      clear hg ha
      go_wp2
      rw [Exit.noGoto_ret]
      go_ret
      exact ⟨ret_int HF.symm, grown_trans G3.out G4.out⟩

theorem ask_may (h : Hx) (s : St) (n hd : Int) (hf : ∀ x ∈ s.segs, 0 ≤ x.addr) : askN (demandsN h s n hd) = mayN h s n hd := by
  unfold mayN
  rw [segsOk_eq s n hd hf]
  unfold demandsN secsOk
  simp only [askN_cons, List.all_cons, List.all_nil, Bool.and_true]
  rw [show askN [] = 0 from rfl]
  generalize s.segs.all protOk = b1
  generalize s.segs.all (fun x => sizeOk x n) = b2
  generalize diffN s.segs = b3
  generalize riseN 0 s.segs = b4
  generalize frontOk s.segs hd = b5
  generalize (s.segs.all fun z => z.secs.all (secOk z)) = b6
  generalize (s.sy.2 % 16 == 0) = b7
  generalize spansOk s n = b8
  generalize entryOk s = b9
  generalize nameOk h s = b10
  cases b1 <;> cases b2 <;> cases b3 <;> cases b4 <;> cases b5 <;> try rfl
  cases b6 <;> cases b7 <;> cases b8 <;> cases b9 <;> cases b10 <;> rfl
theorem May_any {l : List Sg} {qs : Option Addr} {cs : Nat} (k : ImgRows w s l qs cs) (hf : SegsFit s) (hs : SpFit s) (hm : NmFit s) (hn : U64 n) (h2 : ∃ q n c, dv = .slice q n c) :
    Calls Tryz.prog 58 #[imgV h s (.slice qs l.length cs) dv, .int .u64 n, .int .u64 hd] w fun e w' => e = .returned (.int .i64 (mayN h s n hd)) ∧ w.grownBy w' none := by
  rw [← ask_may h s n hd (fun x hx => (hf.seg x hx).addr.1)]
  refine May_dem (demandsN h s n hd) rfl ?_ h2 ?_ (fun W => demands_any h s n hd)
  · intro d hd'
    unfold demandsN at hd'
    simp only [List.mem_cons, List.not_mem_nil, or_false] at hd'
    rcases hd' with rfl | rfl | rfl | rfl <;> (simp only [List.length_cons, List.length_nil]; decide)
  · intro d hd' x hx
    unfold demandsN at hd'
    simp only [List.mem_cons, List.not_mem_nil, or_false] at hd'
    rcases hd' with rfl | rfl | rfl | rfl
    · simp only [List.mem_cons, List.not_mem_nil, or_false] at hx
      rcases hx with rfl | rfl | rfl | rfl | rfl
      · exact ⟨enters_of Tryz.func127 (by kernel_rfl) rfl, fun W hg => protsMay_any (k.grown hg)⟩
      · exact ⟨enters_of Tryz.func128 (by kernel_rfl) rfl, fun W hg => sizesMay_any (k.grown hg) hf hn⟩
      · exact ⟨enters_of Tryz.func129 (by kernel_rfl) rfl, fun W hg => namesDiffer_any (k.grown hg) hm⟩
      · exact ⟨enters_of Tryz.func130 (by kernel_rfl) rfl, fun W hg => rise_any (k.grown hg)⟩
      · exact ⟨enters_of Tryz.func131 (by kernel_rfl) rfl, fun W hg => frontMay_any (k.grown hg)⟩
    · simp only [List.mem_cons, List.not_mem_nil, or_false] at hx
      subst hx
      exact ⟨enters_of Tryz.func132 (by kernel_rfl) rfl, fun W hg => sectionsMay_any (k.grown hg) hf⟩
    · simp only [List.mem_cons, List.not_mem_nil, or_false] at hx
      rcases hx with rfl | rfl
      · exact ⟨enters_of Tryz.func133 (by kernel_rfl) rfl, fun W _ => spansMay_any hs hn ⟨_, _, _, rfl⟩ h2⟩
      · exact ⟨enters_of Tryz.func134 (by kernel_rfl) rfl, fun W hg => entryMay_any (k.grown hg)⟩
    · simp only [List.mem_cons, List.not_mem_nil, or_false] at hx
      subst hx
      exact ⟨enters_of Tryz.func135 (by kernel_rfl) rfl, fun W _ => nameMay_any⟩
end Go.Proofs.YtdagnkdonlfobaaGreat

/- The numbers of an image that bytes are fit their types; its lists' rows have room. No condition. -/
namespace Go.Proofs.YtdagnkdonlfobaaGreat
open Go.RowKit
variable {w w' : World} {h : Hx} {s : St} {sv dv : Value} {n hd : Int}

theorem num_le {b : List Int} (hr : Small b) (p k : Nat) (hk : k ≤ 8) : U64 (numAt b p k) := by
  have hl : Small ((b.drop p).take k) := fun x hx => hr x (List.mem_of_mem_drop (List.mem_of_mem_take hx))
  have h1 := leN_bd _ hl
  have h2 : ((b.drop p).take k).length ≤ 8 := Nat.le_trans (List.length_take_le _ _) hk
  have h3 : (2 : Int) ^ (8 * ((b.drop p).take k).length) ≤ 2 ^ 64 := by
    have : (2 : Nat) ^ (8 * ((b.drop p).take k).length) ≤ 2 ^ 64 := Nat.pow_le_pow_right (by decide) (by omega)
    exact_mod_cast this
  exact ⟨h1.1, by unfold numAt; have : (2 : Int) ^ 64 = 18446744073709551616 := by decide
                  omega⟩
theorem field_len (b : List Int) (p : Nat) : (fieldAt b p).length ≤ 16 := by
  unfold fieldAt
  have := pre_le ((b.drop p).take 16)
  have := List.length_take_le 16 (b.drop p)
  omega
theorem span_fit {b : List Int} (hr : Small b) (p : Nat) {u : Int} (hu : 0 ≤ u ∧ u ≤ 16) : U64 (spanAt b p u).1 ∧ U64 (spanAt b p u).2 := by
  unfold spanAt
  have h1 := numAt_lt hr p
  have h2 := numAt_lt hr (p + 4)
  refine ⟨⟨h1.1, by simp only []; omega⟩, ?_, ?_⟩
  · exact Int.mul_nonneg h2.1 hu.1
  · have : numAt b (p + 4) 4 * u ≤ numAt b (p + 4) 4 * 16 := Int.mul_le_mul_of_nonneg_left hu.2 h2.1
    simp only []
    omega
/-- What holds of an image in the making. -/
structure StFit (s : St) : Prop where
  segs : SegsFit s
  spans : SpFit s
  names : NmFit s
theorem zero_spans : SpFit St.zero := by
  intro x hx
  unfold spansList St.zero at hx
  simp only [List.mem_cons, List.not_mem_nil, or_false] at hx
  rcases hx with rfl | rfl | rfl | rfl | rfl | rfl | rfl | rfl <;> exact ⟨⟨by decide, by decide⟩, by decide, by decide⟩
theorem StFit.zero : StFit St.zero := ⟨⟨fun x hx => (by cases hx), fun x hx => (by cases hx)⟩, zero_spans, fun x hx => (by cases hx)⟩
theorem StFit.as {s s' : St} (f : StFit s) (h1 : s'.segs = s.segs) (h2 : spansList s' = spansList s) : StFit s' :=
  ⟨⟨fun x hx => f.segs.seg x (h1 ▸ hx), fun x hx => f.segs.sec x (h1 ▸ hx)⟩, fun x hx => f.spans x (h2 ▸ hx), fun x hx => f.names x (h1 ▸ hx)⟩
theorem StFit.sp {s s' : St} (f : StFit s) (h1 : s'.segs = s.segs) (h2 : ∀ x ∈ spansList s', x ∈ spansList s ∨ (U64 x.1 ∧ U64 x.2)) : StFit s' :=
  ⟨⟨fun x hx => f.segs.seg x (h1 ▸ hx), fun x hx => f.segs.sec x (h1 ▸ hx)⟩, fun x hx => (h2 x hx).elim (f.spans x) id, fun x hx => f.names x (h1 ▸ hx)⟩
theorem seg_fit {b : List Int} (hr : Small b) : SegFit (segOf b) :=
  ⟨num_le hr 24 8 (by decide), num_le hr 32 8 (by decide), num_le hr 40 8 (by decide), num_le hr 48 8 (by decide), by
    have := numAt_lt hr 60
    show -9223372036854775808 ≤ numAt b 60 4 ∧ numAt b 60 4 ≤ 9223372036854775807
    omega⟩
theorem sec_fit {b : List Int} (hr : Small b) {y : Sec} (hy : y ∈ (segOf b).secs) : SecFit y := by
  obtain ⟨i, _, rfl⟩ := List.mem_map.1 (show y ∈ (List.range (manyAt b)).map fun i => secAt b (72 + 80 * i) from hy)
  exact ⟨num_le hr _ 8 (by decide), num_le hr _ 8 (by decide), num_le hr _ 4 (by decide)⟩
theorem StFit.seg {s : St} (f : StFit s) {b : List Int} (hr : Small b) : StFit (segS s b) := by
  refine ⟨⟨fun x hx => ?_, fun x hx y hy => ?_⟩, f.spans, fun x hx => ?_⟩
  · rcases List.mem_append.1 hx with hx | hx
    · exact f.segs.seg x hx
    · rw [List.mem_singleton.1 hx]; exact seg_fit hr
  · rcases List.mem_append.1 hx with hx | hx
    · exact f.segs.sec x hx y hy
    · rw [List.mem_singleton.1 hx] at hy; exact sec_fit hr hy
  · rcases List.mem_append.1 hx with hx | hx
    · exact f.names x hx
    · rw [List.mem_singleton.1 hx]
      exact Nat.le_trans (field_len b 8) (by decide)
theorem StFit.trie {s : St} (f : StFit s) {x : Int × Int} (hx : U64 x.1 ∧ U64 x.2) : StFit (trieS s x) := by
  unfold trieS
  split
  · exact f
  · refine f.sp rfl (fun y hy => ?_)
    unfold spansList St.meet at hy
    unfold spansList
    simp only [List.mem_cons, List.not_mem_nil, or_false] at hy ⊢
    rcases hy with rfl | rfl | rfl | rfl | rfl | rfl | rfl | rfl <;> simp [hx]
theorem StFit.step {s : St} (f : StFit s) {b : List Int} (hr : Small b) : StFit (stepS s b) := by
  have sp1 := fun p => span_fit hr p (u := 1) (by decide)
  have sp16 := fun p => span_fit hr p (u := 16) (by decide)
  unfold stepS
  split
  · exact f.seg hr
  split
  · exact f.as rfl rfl
  split
  · exact f.as rfl rfl
  split
  · unfold spS
    split
    · refine StFit.trie ?_ (sp1 40)
      refine f.sp rfl (fun y hy => ?_)
      unfold spansList infoS St.meet at hy
      unfold spansList
      simp only [List.mem_cons, List.not_mem_nil, or_false] at hy ⊢
      rcases hy with rfl | rfl | rfl | rfl | rfl | rfl | rfl | rfl <;> simp [sp1]
    split
    · exact f.trie (sp1 8)
    split
    · refine f.sp rfl (fun y hy => ?_)
      unfold spansList St.meet at hy
      unfold spansList
      simp only [List.mem_cons, List.not_mem_nil, or_false] at hy ⊢
      rcases hy with rfl | rfl | rfl | rfl | rfl | rfl | rfl | rfl <;> simp [sp1]
    · refine f.sp rfl (fun y hy => ?_)
      unfold spansList St.meet at hy
      unfold spansList
      simp only [List.mem_cons, List.not_mem_nil, or_false] at hy ⊢
      rcases hy with rfl | rfl | rfl | rfl | rfl | rfl | rfl | rfl <;> simp [sp1, sp16]
  split
  · exact f.as rfl rfl
  · exact f
theorem StFit.run {s : St} (f : StFit s) {l : List (List Int)} (hr : ∀ b ∈ l, Small b) : StFit (runS s l) := by
  induction l generalizing s with
  | nil => exact f
  | cons b l ih =>
    rw [runS]
    exact ih (f.step (hr b (List.mem_cons_self ..))) (fun c hc => hr c (List.mem_cons_of_mem _ hc))
theorem img_fit {ys : List Int} (hs : Small ys) : StFit (imgS ys) := by
  unfold imgS
  split
  · refine StFit.zero.run (fun b hb => ?_)
    obtain ⟨d, hd, rfl⟩ := List.mem_map.1 hb
    exact (readL_may hs d hd).2.1
  · exact StFit.zero
theorem own_room {lo n c : Nat} {q : Option Addr} {T : TypeId} {k : Nat} {xs : List Value} (hw : w.ownsRow lo T k (.slice q n c) n xs) : n ≤ c := by
  rcases hw.2 with ⟨e, e0⟩ | ⟨g, cap, cur, hv, _, _, h1, _⟩
  · rw [e0]; exact Nat.zero_le _
  · injection hv with _ _ e3; subst e3; exact h1
theorem ImgRows.of2 {lo : Nat} (L : Lists w lo s sv dv) : ∃ l qs cs, sv = .slice qs l.length cs ∧ ImgRows w s l qs cs ∧ ∀ x ∈ l, x.seg.secs.length ≤ x.c := by
  obtain ⟨l, a2, a3, a4⟩ := L.segs
  obtain ⟨qs, cs, rfl⟩ := own_slice a3
  refine ⟨l, qs, cs, rfl, ⟨a2, rowSg_of a3, fun x hx => rowSec_of (a4 x hx), own_most a3, fun x hx => own_most (a4 x hx), own_room a3⟩, fun x hx => own_room (a4 x hx)⟩
end Go.Proofs.YtdagnkdonlfobaaGreat
