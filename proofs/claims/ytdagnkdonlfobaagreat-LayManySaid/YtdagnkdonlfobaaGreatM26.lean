import Derived.Test.YtdagnkdonlfobaaGreatM24
import Derived.Test.YtdagnkdonlfobaaGreatM25
/- A command is taken into the document's image in the making. No condition but that it has at most 2^47 bytes. -/
namespace Go.Proofs.YtdagnkdonlfobaaGreat
open Go.RowKit
variable {w w' : World} {lo g : Nat} {h : Hx} {s : St}

theorem SeenOut.as {s1 s' : St} {f1 f' : Fl} {k1 k' er er' : Int} {e : Ending} (o : SeenOut w w' lo g h s1 f1 k1 er e) (he : er = er') (hs : er' = 0 → ({ s1 with met := [], secs := 0 } : St) = { s' with met := [], secs := 0 }) (hf : er' = 0 → f1 = f') (hk : er' = 0 → k1 = k') : SeenOut w w' lo g h s' f' k' er' e := by
  subst he
  exact ⟨o.val, fun hz => (o.good hz).as (hs hz) (hf hz) (hk hz), o.below⟩

structure StepOut (w w' : World) (lo g : Nat) (h : Hx) (s : St) (b : List Int) (e : Ending) : Prop where
  out : SeenOut w w' lo g h (stepS s b) (flOf (stepS s b)) (stepS s b).secs (stepE s b) e

set_option maxHeartbeats 3200000 in
set_option maxRecDepth 20000 in
theorem take5_any (H : HoldsR w lo g h s (flOf s) s.secs) (T : TrOk s) (h16 : s.segs.length ≤ 16) (h64 : 0 ≤ s.secs ∧ s.secs ≤ 64) (hd64 : s.deps.length ≤ 64) (b : List Int) (q : Option Addr) (c n : Nat) (hb : IsBytes w q c b) (hn : b.length = n) (hc : n ≤ c) (hcm : c ≤ 9223372036854775807) (hn47 : n ≤ 140737488355328) (hr : Small b) (h8 : 8 ≤ n) (hq : ∀ x, q = some x → x.block < lo) :
    Calls Tryz.prog 44 #[.pointer (some ⟨g, 0, none⟩), .slice q n c] w fun e w' => StepOut w w' lo g h s b e := by
  by_cases hs : shortB b
  · have SE := Lib.hid (step_short_err (s := s) hs (by omega))
    have CD := Lib.hid (cmd5_bad (w := w) b hb hn hc hcm hr hs)
    have BR := Lib.hid (Below.refl lo w)
    clear H hb hn hr hs T hq
    go_enter Tryz.func44, Tryz.ntmps44
    go_wp2_with fail
    refine CD.out.mono ?_
    rintro e w1 ⟨cm, rfl, rfl⟩
    go_wp2
    go_ret
    exact ⟨⟨by rw [SE.out]; rfl, fun hz => (by rw [SE.out] at hz; cases hz), BR.out⟩⟩
  have CD := Lib.hid (cmd5_any (w := w) b hb hn hc hcm hr hs)
  have hcb := numAt_lt hr 0
  obtain ⟨cm, hcm'⟩ : ∃ z, z = cmdAt b := ⟨_, rfl⟩
  have e1 : numAt b 0 4 = cm := hcm'.symm
  rw [← hcm'] at CD
  rw [e1] at hcb
  have CE := Lib.hid hcm'
  have LS := Lib.hid (fun w : World => least_any (w := w) cm)
  have DP := Lib.hid (fun w : World => dep_any (w := w) cm)
  clear hcm' e1
  rcases cmd_ways cm with ⟨hl, n25, n13, nd, nsp, nen⟩ | ⟨hl, hw⟩
  · -- an unknown one
    have hS : stepS s b = s := by
      unfold stepS
      rw [← CE.out, if_neg n25, if_neg n13, if_neg (by rw [nd]; simp), if_neg nsp, if_neg nen]
    have hE : stepE s b = if 2147483648 ≤ cm then 7 else 0 := by
      unfold stepE
      rw [← CE.out, if_neg n25, if_neg n13, if_neg (by rw [nd]; simp), if_neg nsp, if_neg nen]
    have fin : ∀ e, e = .returned (.int .i64 (if 2147483648 ≤ cm then 7 else 0)) → StepOut w w lo g h s b e := fun e he => ⟨by rw [hS, hE]; exact ⟨he, fun _ => H, Below.refl _ _⟩⟩
    have FIN := Lib.hid fin
    rw [hl] at LS
    clear H hb hn hr hs T hq hS hE fin n25 n13 nd nsp nen hl
    by_cases h31 : 2147483648 ≤ cm
    · have d1 : decide ((2147483648 : Int) ≤ cm) = true := by simpa using h31
      rw [if_pos h31] at FIN
      clear h31
      go_enter Tryz.func44, Tryz.ntmps44
      go_wp2_with fail
      refine CD.out.mono ?_
      rintro e w1 ⟨rfl, rfl⟩
      go_wp2_with (go_at_call 78; refine (LS.out _).mono ?_; rintro e w2 ⟨rfl, rfl⟩)
      go_ret
      exact FIN.out _ rfl
    · have d1 : decide ((2147483648 : Int) ≤ cm) = false := by simp; omega
      rw [if_neg h31] at FIN
      clear h31
      go_enter Tryz.func44, Tryz.ntmps44
      go_wp2_with fail
      refine CD.out.mono ?_
      rintro e w1 ⟨rfl, rfl⟩
      go_wp2_with (go_at_call 78; refine (LS.out _).mono ?_; rintro e w2 ⟨rfl, rfl⟩)
      go_ret
      exact FIN.out _ rfl
  obtain ⟨L, hL⟩ : ∃ L, L = leastN cm := ⟨_, rfl⟩
  rw [← hL] at LS hl
  clear hL
  have ns : ∀ (P : Prop) [Decidable P] (x y : Int), ¬ P → (if P then x else y) = y := fun P _ x y h => if_neg h
  clear ns
  rcases hw with rfl | rfl | ⟨n25, n13, hd⟩ | rfl | rfl | rfl | rfl | rfl | rfl
  · have SG := Lib.hid (rseg_any H b q c n hb hn hc hcm hn47 hr h16 h64)
    have hS : stepS s b = segS s b := by unfold stepS; rw [if_pos CE.out.symm]
    have hE : stepE s b = segE s b := by unfold stepE; rw [if_pos CE.out.symm]
    have FIN := Lib.hid (fun w' e (o : SeenOut w w' lo g h (segS s b) (flOf s) (s.secs + (segOf b).secs.length) (segE s b) e) => (⟨by rw [hS, hE]; exact o⟩ : StepOut w w' lo g h s b e))
    clear H hb hn hr hs T hq hS hE
    go_enter Tryz.func44, Tryz.ntmps44
    go_wp2_with fail
    refine CD.out.mono ?_
    rintro e w1 ⟨rfl, rfl⟩
    go_wp2_with (go_at_call 78; refine (LS.out _).mono ?_; rintro e w2 ⟨rfl, rfl⟩)
    refine SG.out.mono ?_
    intro e w2 hO
    have OO := Lib.hid hO
    obtain rfl := hO.val
    clear hO
    go_wp2
    go_ret
    exact FIN.out _ _ OO.out
  · have NA := Lib.hid (refName_all (w := w) b hb hn hc hcm hr)
    have hS : stepS s b = ownS s b := by unfold stepS; rw [if_neg (by rw [← CE.out]; decide), if_pos CE.out.symm]
    have hE : stepE s b = if nameErr b ≠ 0 then nameErr b else onceE s 13 := by unfold stepE; rw [if_neg (by rw [← CE.out]; decide), if_pos CE.out.symm]; rfl
    obtain ⟨E, hE2⟩ : ∃ E, E = nameErr b := ⟨_, rfl⟩
    have hNN : E = 0 → nameN b = nameOf b := fun h => by unfold nameN; rw [if_pos (by rw [← hE2]; exact h)]
    rw [← hE2] at NA hE
    obtain ⟨T', hT⟩ : ∃ T', T' = nameN b := ⟨_, rfl⟩
    rw [← hT] at NA hNN
    have HE := Lib.hid hE
    have HS := Lib.hid hS
    have HH := Lib.hid H
    have NN := Lib.hid hNN
    clear H hb hn hr hs T hq hS hE hE2 hT hNN
    by_cases h0 : E = 0
    rotate_left
    · have hne : (E != 0) = true := by simpa using h0
      have H0 := Lib.hid h0
      clear h0
      go_enter Tryz.func44, Tryz.ntmps44
      go_wp2_with fail
      refine CD.out.mono ?_
      rintro e w1 ⟨rfl, rfl⟩
      go_wp2_with (first | (go_at_call 78; refine (LS.out _).mono ?_; rintro e w2 ⟨rfl, rfl⟩) | (go_at_call 81; refine NA.out.mono ?_; rintro e w2 ⟨rfl, rfl⟩))
      go_ret
      have hE3 := HE.out.trans (if_pos H0.out)
      exact ⟨⟨by rw [hE3]; rfl, fun hz => absurd (hE3.symm.trans hz) H0.out, Below.refl _ _⟩⟩
    subst h0
    have hE3 := HE.out.trans (if_neg (by simp))
    have TN := Lib.hid (NN.out rfl)
    obtain ⟨sv, dv, a1⟩ := HH.out.at
    obtain ⟨fn, hfn⟩ : ∃ z, z = decide (13 ∈ s.met) := ⟨_, rfl⟩
    have c24 := a1.c 24 (.bool (decide (13 ∈ s.met))) rfl
    rw [← hfn] at c24
    have f24 := a1.fz 24
    have gl := a1.lt
    have ON := Lib.hid (once5_any c24 f24 gl)
    have gS := grown_setCell (i := 24) (grown_refl w (some g)) (.bool true)
    have H2 := Lib.hid (HH.out.cells (s' := s) (f' := flOf (s.meet 13)) (k' := s.secs) gS (fun sv dv a => by
      unfold SeenAt
      rw [heap_setCell_same w g 24 _ _ _ a]
      simp [seenArr, flOf, St.meet]) rfl rfl)
    have B2 := Lib.hid (below_of gS HH.out.lo1 HH.out.lt)
    have HX := Lib.hid hE3
    clear c24 f24 gS a1 hE3
    cases fn
    · have hE4 := Lib.hid (HX.out.trans (show onceE s 13 = 0 by unfold onceE; rw [if_neg (by simpa using hfn.symm)]))
      clear hfn
      go_enter Tryz.func44, Tryz.ntmps44
      go_wp2_with fail
      refine CD.out.mono ?_
      rintro e w1 ⟨rfl, rfl⟩
      go_wp2_with (first | (go_at_call 78; refine (LS.out _).mono ?_; rintro e w2 ⟨rfl, rfl⟩) | (go_at_call 81; refine NA.out.mono ?_; rintro e w2 ⟨rfl, rfl⟩))
      refine ON.out.mono ?_
      rintro e w2 ⟨rfl, rfl⟩
      obtain ⟨W, hW⟩ : ∃ W, w.setCell ⟨g, 24, none⟩ (.bool true) = W := ⟨_, rfl⟩
      rw [hW] at H2 B2 ⊢
      clear hW
      obtain ⟨sv2, dv2, a2⟩ := H2.out.at
      have c3 := a2.c 3 (.string (strOfNums s.name)) rfl
      have f3 := a2.fz 3
      have gl2 := a2.lt
      have gT := grown_setCell (i := 3) (grown_refl W (some g)) (.string (strOfNums T'))
      have H3 := Lib.hid (H2.out.cells (s' := { s with name := T' }) (f' := flOf (s.meet 13)) (k' := s.secs) gT (fun sv dv a => by
        unfold SeenAt
        rw [heap_setCell_same W g 3 _ _ _ a]
        rfl) rfl rfl)
      have B3 := Lib.hid (B2.out.trans (below_of gT H2.out.lo1 H2.out.lt))
      clear a2 gT
      go_wp2
      go_ret
      refine ⟨⟨by rw [hE4.out]; rfl, fun _ => ?_, B3.out⟩⟩
      rw [HS.out]
      refine H3.out.as ?_ ?_ rfl
      · unfold ownS St.meet
        rw [TN.out]
      · unfold ownS flOf St.meet; simp
    · have hE4 := Lib.hid (HX.out.trans (show onceE s 13 = 21 by unfold onceE; rw [if_pos (by simpa using hfn.symm)]))
      clear hfn
      go_enter Tryz.func44, Tryz.ntmps44
      go_wp2_with fail
      refine CD.out.mono ?_
      rintro e w1 ⟨rfl, rfl⟩
      go_wp2_with (first | (go_at_call 78; refine (LS.out _).mono ?_; rintro e w2 ⟨rfl, rfl⟩) | (go_at_call 81; refine NA.out.mono ?_; rintro e w2 ⟨rfl, rfl⟩))
      refine ON.out.mono ?_
      rintro e w2 ⟨rfl, rfl⟩
      go_wp2
      go_ret
      exact ⟨⟨by rw [hE4.out]; rfl, fun hz => (by rw [hE4.out] at hz; cases hz), B2.out⟩⟩
  · have NA := Lib.hid (refName_all (w := w) b hb hn hc hcm hr)
    have hS : stepS s b = depS s b (depKind cm) := by unfold stepS; rw [← CE.out, if_neg n25, if_neg n13, if_pos hd]
    have hE : stepE s b = if nameErr b ≠ 0 then nameErr b else if s.deps.length = 64 then 11 else 0 := by unfold stepE; rw [← CE.out, if_neg n25, if_neg n13, if_pos hd]; rfl
    obtain ⟨E, hE2⟩ : ∃ E, E = nameErr b := ⟨_, rfl⟩
    have hNN : E = 0 → nameN b = nameOf b := fun h => by unfold nameN; rw [if_pos (by rw [← hE2]; exact h)]
    rw [← hE2] at NA hE
    obtain ⟨T', hT⟩ : ∃ T', T' = nameN b := ⟨_, rfl⟩
    rw [← hT] at NA hNN
    have HE := Lib.hid hE
    have HS := Lib.hid hS
    have HH := Lib.hid H
    have NN := Lib.hid hNN
    have p1 : (cm == 25) = false := by simpa using n25
    have p2 : (cm == 13) = false := by simpa using n13
    obtain ⟨kk, hkk⟩ : ∃ z, z = depKind cm := ⟨_, rfl⟩
    rw [← hkk] at DP hd HS
    have p3 : (kk != 0) = true := by simpa using hd
    clear H hb hn hr hs T hq hS hE hE2 hT hNN n25 n13 hd hkk
    by_cases h0 : E = 0
    rotate_left
    · have hne : (E != 0) = true := by simpa using h0
      have H0 := Lib.hid h0
      clear h0
      go_enter Tryz.func44, Tryz.ntmps44
      go_wp2_with fail
      refine CD.out.mono ?_
      rintro e w1 ⟨rfl, rfl⟩
      go_wp2_with (first | (go_at_call 78; refine (LS.out _).mono ?_; rintro e w2 ⟨rfl, rfl⟩) | (go_at_call 80; refine (DP.out _).mono ?_; rintro e w2 ⟨rfl, rfl⟩) | (go_at_call 81; refine NA.out.mono ?_; rintro e w2 ⟨rfl, rfl⟩))
      go_ret
      have hE3 := HE.out.trans (if_pos H0.out)
      exact ⟨⟨by rw [hE3]; rfl, fun hz => absurd (hE3.symm.trans hz) H0.out, Below.refl _ _⟩⟩
    subst h0
    have hE3 := HE.out.trans (if_neg (by simp))
    have TN := Lib.hid (NN.out rfl)
    obtain ⟨sv, dv, l, a1, a2, a3, a4, a5⟩ := HH.out.ex
    obtain ⟨qd, cd, rfl⟩ := own_slice a5
    obtain ⟨D, hD⟩ : ∃ D, D = s.deps.length := ⟨_, rfl⟩
    have c5 := a1.c 5 (.slice qd s.deps.length cd) rfl
    have f5 := a1.fz 5
    have gl := a1.lt
    by_cases hfull : s.deps.length = 64
    · have OF := Lib.hid (hE3.trans (if_pos hfull))
      rw [hfull] at c5
      clear a1 a2 a3 a4 a5 hE3 hfull hD
      go_enter Tryz.func44, Tryz.ntmps44
      go_wp2_with fail
      refine CD.out.mono ?_
      rintro e w1 ⟨rfl, rfl⟩
      go_wp2_with (first | (go_at_call 78; refine (LS.out _).mono ?_; rintro e w2 ⟨rfl, rfl⟩) | (go_at_call 80; refine (DP.out _).mono ?_; rintro e w2 ⟨rfl, rfl⟩) | (go_at_call 81; refine NA.out.mono ?_; rintro e w2 ⟨rfl, rfl⟩))
      go_ret
      exact ⟨⟨by rw [OF.out]; rfl, fun hz => (by rw [OF.out] at hz; cases hz), Below.refl _ _⟩⟩
    have OF := Lib.hid (hE3.trans (if_neg hfull))
    have hd : ((s.deps.length : Int) == 64) = false := by simp; omega
    have hlt : s.deps.length < 64 := by omega
    have A5 := a5
    rw [← hD] at c5 hd hlt A5
    have DE := Lib.hid hD
    obtain ⟨gx, hgx⟩ : ∃ wx, wx = (w.alloc (.cells #[.string (strOfNums T'), .int .i64 kk] 141)).drew := ⟨_, rfl⟩
    have g2 : w.grownBy (w.alloc (.cells #[.string (strOfNums T'), .int .i64 kk] 141)).drew none := grown_drewN (grown1 w (.cells #[.string (strOfNums T'), .int .i64 kk] 141)) 1
    have HD := Lib.hid (fun (w3 : World) (dv' : Value) (ho : w3.ownsRow lo 141 2 dv' (D + 1) (s.deps.flatMap depCs ++ depCs (T', kk))) (hg : (w.alloc (.cells #[.string (strOfNums T'), .int .i64 kk] 141)).drew.grownBy w3 (Value.slice qd s.deps.length cd).ownBlock) =>
      holdsR_dep (x := (T', kk)) (a1.kept g2 (by simp)) a2 (own_grown a3 g2) (fun x hx => own_grown (a4 x hx) g2) (own_grown a5 g2) HH.out.lo1 (hD ▸ ho) hg)
    have NG := row_off (own_grown a5 g2) (a1.kept g2 (by simp)) seenApart.2.2.1
    have AK := Lib.hid (a1.kept g2 (by simp))
    have OWA := Lib.hid (own_grown A5 g2)
    have HNA := Lib.hid (show (w.alloc (.cells #[.string (strOfNums T'), .int .i64 kk] 141)).drew.heap[w.heap.size]? = some (.cells (depCs (T', kk)).toArray 141 (0, 0)) from heap_alloc_new w _)
    have HLO := Lib.hid (show lo ≤ (w.alloc (.cells #[.string (strOfNums T'), .int .i64 kk] 141)).drew.heap.size from Nat.le_trans HH.out.lt g2.size)
    have ng : (Value.slice qd D cd).ownBlock ≠ some g := by
      rw [hD]
      rcases NG with e | e
      · rw [e]; simp
      · exact e
    have NGH := Lib.hid ng
    have OW := Lib.hid A5
    have GA := Lib.hid g2
    obtain ⟨rows, hrows⟩ : ∃ r, r = s.deps.flatMap depCs := ⟨_, rfl⟩
    rw [← hrows] at HD OWA OW
    have hgx2 : (Value.slice qd s.deps.length cd).ownBlock = (Value.slice qd D cd).ownBlock := by rw [hD]
    have HD2 := Lib.hid (fun (w3 : World) (dv' : Value) ho (hg : (w.alloc (.cells #[.string (strOfNums T'), .int .i64 kk] 141)).drew.grownBy w3 (Value.slice qd D cd).ownBlock) => HD.out w3 dv' ho (by rw [hgx2]; exact hg))
    have AK2 := Lib.hid (show SeenAt (w.alloc (.cells #[.string (strOfNums T'), .int .i64 kk] 141)).drew g h s sv (.slice qd D cd) (flOf s) s.secs by rw [hD]; exact AK.out)
    clear hD a1 a2 a3 a4 a5 A5 g2 hfull hE3 hrows hgx2 HD AK NG ng hgx gx
    go_enter Tryz.func44, Tryz.ntmps44
    go_wp2_with fail
    refine CD.out.mono ?_
    rintro e w1 ⟨rfl, rfl⟩
    go_upto_region 21 with (first | (go_at_call 78; refine (LS.out _).mono ?_; rintro e w2 ⟨rfl, rfl⟩) | (go_at_call 80; refine (DP.out _).mono ?_; rintro e w2 ⟨rfl, rfl⟩) | (go_at_call 81; refine NA.out.mono ?_; rintro e w2 ⟨rfl, rfl⟩))
    go_region_law (first | (refine step_append_st depType (by with_reducible rfl) _ _ (by with_reducible rfl) _ D 1 rows (by rfl) OWA.out (depCs (T', kk)) rfl w.heap.size (by rfl) HNA.out (depCs_one _) (by omega) (by decide) HLO.out ?_; intro v5 w5 ho5 hg5; obtain ⟨q5, c5', rfl⟩ := own_slice ho5; have c4' := (AK2.out.kept hg5 NGH.out).c 5 (.slice qd D cd) rfl; have f4' := (AK2.out.kept hg5 NGH.out).fz 5; have gl' := (AK2.out.kept hg5 NGH.out).lt) | (go_simp; go_at_call 80; refine (DP.out _).mono ?_; rintro e w2 ⟨rfl, rfl⟩))
    all_goals
      have HF := Lib.hid (HD2.out _ _ ho5 hg5)
      have hlo := fun g' (e : (Value.slice qd D cd).ownBlock = some g') => (OW.out.lt g' e).1
      have B5 := Lib.hid (Below.trans (below_grown GA.out HH.out.lt (by simp)) (below_grown hg5 HLO.out hlo))
      have B6 := Lib.hid (B5.out.trans (below_of (grown_setCell (i := 5) (grown_refl w5 (some g)) (.slice q5 (D + 1) c5')) HH.out.lo1 (Nat.le_trans HLO.out hg5.size)))
      clear ho5 hg5 c4' f4' gl' B5
      go_wp2
      go_ret
      refine ⟨⟨by rw [OF.out]; rfl, fun _ => ?_, B6.out⟩⟩
      rw [HS.out]
      refine HF.out.as ?_ rfl rfl
      unfold depS
      rw [TN.out]
  · have RS := Lib.hid (rinfo_any H b 34 (.inl rfl) q c n hb hn hc hcm hr hs hq CE.out.symm)
    have hi : isInfo (cmdAt b) := by rw [← CE.out]; exact .inl rfl
    have hsp : spansErr b = 0 := by unfold spansErr; rw [if_neg hs, if_pos (.inl hi)]
    have hS : stepS s b = trieS (infoS s b) (spanAt b 40 1) := by unfold stepS; rw [if_neg (by rw [← CE.out]; decide), if_neg (by rw [← CE.out]; decide), if_neg (by rw [← CE.out]; decide), if_pos (.inl hi)]; unfold spS; rw [if_pos hi]
    have hE : stepE s b = if onceE s 34 ≠ 0 then onceE s 34 else trieE (infoS s b) (spanAt b 40 1) := by unfold stepE; rw [if_neg (by rw [← CE.out]; decide), if_neg (by rw [← CE.out]; decide), if_neg (by rw [← CE.out]; decide), if_pos (.inl hi)]; unfold spE; rw [if_neg (by rw [hsp]; simp), if_pos hi]
    have hX : (if (flOf s).sp = true then 21 else rtrieE ({ s with rb := spanAt b 8 1, bd := spanAt b 16 1, wk := spanAt b 24 1, lz := spanAt b 32 1 } : St) (spanAt b 40 1)) = stepE s b := by
      rw [hE, trie_both (T.info b) _ (spanAt_pos hr 40)]
      unfold onceE
      by_cases hm : (34 : Int) ∈ s.met
      · rw [if_pos (show (flOf s).sp = true from decide_eq_true hm), if_pos hm]; rfl
      · rw [if_neg (show ¬ (flOf s).sp = true by show ¬ decide (34 ∈ s.met) = true; simpa using hm), if_neg hm]; rfl
    have FIN := Lib.hid (fun w' e (o : SeenOut w w' lo g h (rtrieS ({ s with rb := spanAt b 8 1, bd := spanAt b 16 1, wk := spanAt b 24 1, lz := spanAt b 32 1 } : St) (spanAt b 40 1)) { flOf s with sp := true } s.secs (if (flOf s).sp = true then 21 else rtrieE ({ s with rb := spanAt b 8 1, bd := spanAt b 16 1, wk := spanAt b 24 1, lz := spanAt b 32 1 } : St) (spanAt b 40 1)) e) => (by
      refine o.as hX (fun _ => ?_) (fun _ => ?_) (fun _ => ?_)
      · rw [hS]; exact (trie_as ({ s with rb := spanAt b 8 1, bd := spanAt b 16 1, wk := spanAt b 24 1, lz := spanAt b 32 1 } : St) (spanAt b 40 1)).trans (by unfold trieS infoS St.meet; split <;> rfl)
      · rw [hS, trie_fl]; unfold infoS flOf St.meet; simp
      · rw [hS]; unfold trieS infoS St.meet; split <;> rfl
      : SeenOut w w' lo g h (stepS s b) (flOf (stepS s b)) (stepS s b).secs (stepE s b) e))
    clear hX
    obtain ⟨er, her⟩ : ∃ z : Int, z = (if (flOf s).sp = true then 21 else rtrieE ({ s with rb := spanAt b 8 1, bd := spanAt b 16 1, wk := spanAt b 24 1, lz := spanAt b 32 1 } : St) (spanAt b 40 1)) := ⟨_, rfl⟩
    rw [← her] at RS FIN
    clear her
    clear H hb hn hr hs T hq hE hS
    go_enter Tryz.func44, Tryz.ntmps44
    go_wp2_with fail
    refine CD.out.mono ?_
    rintro e w1 ⟨rfl, rfl⟩
    go_wp2_with (first | (go_at_call 78; refine (LS.out _).mono ?_; rintro e w2 ⟨rfl, rfl⟩) | (go_at_call 80; refine (DP.out _).mono ?_; rintro e w2 ⟨rfl, rfl⟩))
    refine RS.out.mono ?_
    intro e w2 hO
    have OO := Lib.hid (FIN.out _ _ hO)
    obtain rfl := hO.val
    clear hO
    go_wp2
    go_ret
    exact ⟨OO.out⟩
  · have RS := Lib.hid (rinfo_any H b 2147483682 (.inr rfl) q c n hb hn hc hcm hr hs hq CE.out.symm)
    have hi : isInfo (cmdAt b) := by rw [← CE.out]; exact .inr rfl
    have hsp : spansErr b = 0 := by unfold spansErr; rw [if_neg hs, if_pos (.inl hi)]
    have hS : stepS s b = trieS (infoS s b) (spanAt b 40 1) := by unfold stepS; rw [if_neg (by rw [← CE.out]; decide), if_neg (by rw [← CE.out]; decide), if_neg (by rw [← CE.out]; decide), if_pos (.inl hi)]; unfold spS; rw [if_pos hi]
    have hE : stepE s b = if onceE s 34 ≠ 0 then onceE s 34 else trieE (infoS s b) (spanAt b 40 1) := by unfold stepE; rw [if_neg (by rw [← CE.out]; decide), if_neg (by rw [← CE.out]; decide), if_neg (by rw [← CE.out]; decide), if_pos (.inl hi)]; unfold spE; rw [if_neg (by rw [hsp]; simp), if_pos hi]
    have hX : (if (flOf s).sp = true then 21 else rtrieE ({ s with rb := spanAt b 8 1, bd := spanAt b 16 1, wk := spanAt b 24 1, lz := spanAt b 32 1 } : St) (spanAt b 40 1)) = stepE s b := by
      rw [hE, trie_both (T.info b) _ (spanAt_pos hr 40)]
      unfold onceE
      by_cases hm : (34 : Int) ∈ s.met
      · rw [if_pos (show (flOf s).sp = true from decide_eq_true hm), if_pos hm]; rfl
      · rw [if_neg (show ¬ (flOf s).sp = true by show ¬ decide (34 ∈ s.met) = true; simpa using hm), if_neg hm]; rfl
    have FIN := Lib.hid (fun w' e (o : SeenOut w w' lo g h (rtrieS ({ s with rb := spanAt b 8 1, bd := spanAt b 16 1, wk := spanAt b 24 1, lz := spanAt b 32 1 } : St) (spanAt b 40 1)) { flOf s with sp := true } s.secs (if (flOf s).sp = true then 21 else rtrieE ({ s with rb := spanAt b 8 1, bd := spanAt b 16 1, wk := spanAt b 24 1, lz := spanAt b 32 1 } : St) (spanAt b 40 1)) e) => (by
      refine o.as hX (fun _ => ?_) (fun _ => ?_) (fun _ => ?_)
      · rw [hS]; exact (trie_as ({ s with rb := spanAt b 8 1, bd := spanAt b 16 1, wk := spanAt b 24 1, lz := spanAt b 32 1 } : St) (spanAt b 40 1)).trans (by unfold trieS infoS St.meet; split <;> rfl)
      · rw [hS, trie_fl]; unfold infoS flOf St.meet; simp
      · rw [hS]; unfold trieS infoS St.meet; split <;> rfl
      : SeenOut w w' lo g h (stepS s b) (flOf (stepS s b)) (stepS s b).secs (stepE s b) e))
    clear hX
    obtain ⟨er, her⟩ : ∃ z : Int, z = (if (flOf s).sp = true then 21 else rtrieE ({ s with rb := spanAt b 8 1, bd := spanAt b 16 1, wk := spanAt b 24 1, lz := spanAt b 32 1 } : St) (spanAt b 40 1)) := ⟨_, rfl⟩
    rw [← her] at RS FIN
    clear her
    clear H hb hn hr hs T hq hE hS
    go_enter Tryz.func44, Tryz.ntmps44
    go_wp2_with fail
    refine CD.out.mono ?_
    rintro e w1 ⟨rfl, rfl⟩
    go_wp2_with (first | (go_at_call 78; refine (LS.out _).mono ?_; rintro e w2 ⟨rfl, rfl⟩) | (go_at_call 80; refine (DP.out _).mono ?_; rintro e w2 ⟨rfl, rfl⟩))
    refine RS.out.mono ?_
    intro e w2 hO
    have OO := Lib.hid (FIN.out _ _ hO)
    obtain rfl := hO.val
    clear hO
    go_wp2
    go_ret
    exact ⟨OO.out⟩
  · have RS := Lib.hid (rtriec_any H b q c n hb hn hc hcm hr hs hq CE.out.symm)
    have hni : ¬ isInfo (cmdAt b) := by rw [← CE.out]; unfold isInfo; decide
    have hl : isInfo (cmdAt b) ∨ isLone (cmdAt b) ∨ cmdAt b = 2 := by rw [← CE.out]; exact .inr (.inl (.inl rfl))
    have hsp : spansErr b = 0 := by unfold spansErr; rw [if_neg hs, if_pos hl]
    have hS : stepS s b = trieS s (spanAt b 8 1) := by unfold stepS; rw [if_neg (by rw [← CE.out]; decide), if_neg (by rw [← CE.out]; decide), if_neg (by rw [← CE.out]; decide), if_pos hl]; unfold spS; rw [if_neg hni, if_pos CE.out.symm]
    have hE : stepE s b = trieE s (spanAt b 8 1) := by unfold stepE; rw [if_neg (by rw [← CE.out]; decide), if_neg (by rw [← CE.out]; decide), if_neg (by rw [← CE.out]; decide), if_pos hl]; unfold spE; rw [if_neg (by rw [hsp]; simp), if_neg hni, if_pos CE.out.symm]
    have FIN := Lib.hid (fun w' e (o : SeenOut w w' lo g h (rtrieS s (spanAt b 8 1)) (flOf s) s.secs (rtrieE s (spanAt b 8 1)) e) => (by
      refine o.as (by rw [hE, trie_both T _ (spanAt_pos hr 8)]) (fun _ => ?_) (fun _ => ?_) (fun _ => ?_)
      · rw [hS]; exact trie_as _ _
      · rw [hS, trie_fl]
      · rw [hS]; unfold trieS St.meet; split <;> rfl
      : SeenOut w w' lo g h (stepS s b) (flOf (stepS s b)) (stepS s b).secs (stepE s b) e))
    obtain ⟨er, her⟩ : ∃ z : Int, z = (rtrieE s (spanAt b 8 1)) := ⟨_, rfl⟩
    rw [← her] at RS FIN
    clear her
    clear H hb hn hr hs T hq hE hS
    go_enter Tryz.func44, Tryz.ntmps44
    go_wp2_with fail
    refine CD.out.mono ?_
    rintro e w1 ⟨rfl, rfl⟩
    go_wp2_with (first | (go_at_call 78; refine (LS.out _).mono ?_; rintro e w2 ⟨rfl, rfl⟩) | (go_at_call 80; refine (DP.out _).mono ?_; rintro e w2 ⟨rfl, rfl⟩))
    refine RS.out.mono ?_
    intro e w2 hO
    have OO := Lib.hid (FIN.out _ _ hO)
    obtain rfl := hO.val
    clear hO
    go_wp2
    go_ret
    exact ⟨OO.out⟩
  · have RS := Lib.hid (rchain_any H b q c n hb hn hc hcm hr hs hq CE.out.symm)
    have hni : ¬ isInfo (cmdAt b) := by rw [← CE.out]; unfold isInfo; decide
    have hl : isInfo (cmdAt b) ∨ isLone (cmdAt b) ∨ cmdAt b = 2 := by rw [← CE.out]; exact .inr (.inl (.inr rfl))
    have hsp : spansErr b = 0 := by unfold spansErr; rw [if_neg hs, if_pos hl]
    have hS : stepS s b = ({ s with ch := spanAt b 8 1 } : St).meet 2147483700 := by unfold stepS; rw [if_neg (by rw [← CE.out]; decide), if_neg (by rw [← CE.out]; decide), if_neg (by rw [← CE.out]; decide), if_pos hl]; unfold spS; rw [if_neg hni, if_neg (by rw [← CE.out]; decide), if_pos CE.out.symm, ← CE.out]
    have hE : stepE s b = onceE s 2147483700 := by unfold stepE; rw [if_neg (by rw [← CE.out]; decide), if_neg (by rw [← CE.out]; decide), if_neg (by rw [← CE.out]; decide), if_pos hl]; unfold spE; rw [if_neg (by rw [hsp]; simp), if_neg hni, if_neg (by rw [← CE.out]; decide), ← CE.out]
    have FIN := Lib.hid (fun w' e (o : SeenOut w w' lo g h ({ s with ch := spanAt b 8 1 }) { flOf s with ch := true } s.secs (if (flOf s).ch = true then 21 else 0) e) => (by
      refine o.as ?_ (fun _ => ?_) (fun _ => ?_) (fun _ => ?_)
      · rw [hE]; unfold onceE
        by_cases hm : (2147483700 : Int) ∈ s.met
        · rw [if_pos (show (flOf s).ch = true from decide_eq_true hm), if_pos hm]
        · rw [if_neg (show ¬ (flOf s).ch = true by show ¬ decide (2147483700 ∈ s.met) = true; simpa using hm), if_neg hm]
      · rw [hS]; rfl
      · rw [hS]; unfold flOf St.meet; simp
      · rw [hS]; rfl
      : SeenOut w w' lo g h (stepS s b) (flOf (stepS s b)) (stepS s b).secs (stepE s b) e))
    obtain ⟨er, her⟩ : ∃ z : Int, z = (if (flOf s).ch = true then 21 else 0) := ⟨_, rfl⟩
    rw [← her] at RS FIN
    clear her
    clear H hb hn hr hs T hq hE hS
    go_enter Tryz.func44, Tryz.ntmps44
    go_wp2_with fail
    refine CD.out.mono ?_
    rintro e w1 ⟨rfl, rfl⟩
    go_wp2_with (first | (go_at_call 78; refine (LS.out _).mono ?_; rintro e w2 ⟨rfl, rfl⟩) | (go_at_call 80; refine (DP.out _).mono ?_; rintro e w2 ⟨rfl, rfl⟩))
    refine RS.out.mono ?_
    intro e w2 hO
    have OO := Lib.hid (FIN.out _ _ hO)
    obtain rfl := hO.val
    clear hO
    go_wp2
    go_ret
    exact ⟨OO.out⟩
  · have RS := Lib.hid (rsym_any H b q c n hb hn hc hcm hr hs hq CE.out.symm)
    have hni : ¬ isInfo (cmdAt b) := by rw [← CE.out]; unfold isInfo; decide
    have hl : isInfo (cmdAt b) ∨ isLone (cmdAt b) ∨ cmdAt b = 2 := by rw [← CE.out]; exact .inr (.inr rfl)
    have hsp : spansErr b = 0 := by unfold spansErr; rw [if_neg hs, if_pos hl]
    have hS : stepS s b = ({ s with sy := spanAt b 8 16, st := spanAt b 16 1 } : St).meet 2 := by unfold stepS; rw [if_neg (by rw [← CE.out]; decide), if_neg (by rw [← CE.out]; decide), if_neg (by rw [← CE.out]; decide), if_pos hl]; unfold spS; rw [if_neg hni, if_neg (by rw [← CE.out]; decide), if_neg (by rw [← CE.out]; decide), ← CE.out]
    have hE : stepE s b = onceE s 2 := by unfold stepE; rw [if_neg (by rw [← CE.out]; decide), if_neg (by rw [← CE.out]; decide), if_neg (by rw [← CE.out]; decide), if_pos hl]; unfold spE; rw [if_neg (by rw [hsp]; simp), if_neg hni, if_neg (by rw [← CE.out]; decide), ← CE.out]
    have FIN := Lib.hid (fun w' e (o : SeenOut w w' lo g h ({ s with sy := spanAt b 8 16, st := spanAt b 16 1 }) { flOf s with sy := true } s.secs (if (flOf s).sy = true then 21 else 0) e) => (by
      refine o.as ?_ (fun _ => ?_) (fun _ => ?_) (fun _ => ?_)
      · rw [hE]; unfold onceE
        by_cases hm : (2 : Int) ∈ s.met
        · rw [if_pos (show (flOf s).sy = true from decide_eq_true hm), if_pos hm]
        · rw [if_neg (show ¬ (flOf s).sy = true by show ¬ decide (2 ∈ s.met) = true; simpa using hm), if_neg hm]
      · rw [hS]; rfl
      · rw [hS]; unfold flOf St.meet; simp
      · rw [hS]; rfl
      : SeenOut w w' lo g h (stepS s b) (flOf (stepS s b)) (stepS s b).secs (stepE s b) e))
    obtain ⟨er, her⟩ : ∃ z : Int, z = (if (flOf s).sy = true then 21 else 0) := ⟨_, rfl⟩
    rw [← her] at RS FIN
    clear her
    clear H hb hn hr hs T hq hE hS
    go_enter Tryz.func44, Tryz.ntmps44
    go_wp2_with fail
    refine CD.out.mono ?_
    rintro e w1 ⟨rfl, rfl⟩
    go_wp2_with (first | (go_at_call 78; refine (LS.out _).mono ?_; rintro e w2 ⟨rfl, rfl⟩) | (go_at_call 80; refine (DP.out _).mono ?_; rintro e w2 ⟨rfl, rfl⟩))
    refine RS.out.mono ?_
    intro e w2 hO
    have OO := Lib.hid (FIN.out _ _ hO)
    obtain rfl := hO.val
    clear hO
    go_wp2
    go_ret
    exact ⟨OO.out⟩
  · have RS := Lib.hid (rentry_any H b q c n hb hn hc hcm hr hs hq CE.out.symm)
    have hl : ¬ (isInfo (cmdAt b) ∨ isLone (cmdAt b) ∨ cmdAt b = 2) := by rw [← CE.out]; unfold isInfo isLone; decide
    have hS : stepS s b = ({ s with entry := numAt b 8 8, has := true } : St).meet 2147483688 := by unfold stepS; rw [if_neg (by rw [← CE.out]; decide), if_neg (by rw [← CE.out]; decide), if_neg (by rw [← CE.out]; decide), if_neg hl, if_pos CE.out.symm]; rfl
    have hE : stepE s b = onceE s 2147483688 := by unfold stepE; rw [if_neg (by rw [← CE.out]; decide), if_neg (by rw [← CE.out]; decide), if_neg (by rw [← CE.out]; decide), if_neg hl, if_pos CE.out.symm]; unfold entE; rw [if_neg hs]
    have FIN := Lib.hid (fun w' e (o : SeenOut w w' lo g h ({ s with entry := numAt b 8 8, has := true }) { flOf s with en := true } s.secs (if (flOf s).en = true then 21 else 0) e) => (by
      refine o.as ?_ (fun _ => ?_) (fun _ => ?_) (fun _ => ?_)
      · rw [hE]; unfold onceE
        by_cases hm : (2147483688 : Int) ∈ s.met
        · rw [if_pos (show (flOf s).en = true from decide_eq_true hm), if_pos hm]
        · rw [if_neg (show ¬ (flOf s).en = true by show ¬ decide (2147483688 ∈ s.met) = true; simpa using hm), if_neg hm]
      · rw [hS]; rfl
      · rw [hS]; unfold flOf St.meet; simp
      · rw [hS]; rfl
      : SeenOut w w' lo g h (stepS s b) (flOf (stepS s b)) (stepS s b).secs (stepE s b) e))
    obtain ⟨er, her⟩ : ∃ z : Int, z = (if (flOf s).en = true then 21 else 0) := ⟨_, rfl⟩
    rw [← her] at RS FIN
    clear her
    clear H hb hn hr hs T hq hE hS
    go_enter Tryz.func44, Tryz.ntmps44
    go_wp2_with fail
    refine CD.out.mono ?_
    rintro e w1 ⟨rfl, rfl⟩
    go_wp2_with (first | (go_at_call 78; refine (LS.out _).mono ?_; rintro e w2 ⟨rfl, rfl⟩) | (go_at_call 80; refine (DP.out _).mono ?_; rintro e w2 ⟨rfl, rfl⟩))
    refine RS.out.mono ?_
    intro e w2 hO
    have OO := Lib.hid (FIN.out _ _ hO)
    obtain rfl := hO.val
    clear hO
    go_wp2
    go_ret
    exact ⟨OO.out⟩
end Go.Proofs.YtdagnkdonlfobaaGreat

/- The document's image, whole. No condition but that there are at most 2^47 bytes. -/
namespace Go.Proofs.YtdagnkdonlfobaaGreat
open Go.RowKit
variable {w w' : World}

/-- The image of a Seen, at once. -/
theorem run_loadImgR {g : Nat} {h : Hx} {s : St} {sv dv : Value} {f : Fl} {k : Int} (a : SeenAt w g h s sv dv f k) : (loadVar 41 ⟨g, 0, none⟩).run Tryz.prog w = .ok (imgV h s sv dv) w := by
  have hl : (loadCells ⟨g, 0, none⟩ (imgArr h s sv dv).toList.length).run Tryz.prog w = .ok (imgArr h s sv dv).toList.toArray w :=
    run_loadCells_list (P := Tryz.prog) w ⟨g, 0, none⟩ (imgArr h s sv dv).toList (fun j v hv => by
      have hadd : (⟨g, 0, none⟩ : Addr).add j = ⟨g, j, none⟩ := by unfold Addr.add; split <;> simp_all
      rw [hadd, cell_of a]
      have hj : j < 24 := by
        rcases Nat.lt_or_ge j 24 with h1 | h1
        · exact h1
        · rw [List.getElem?_eq_none (by exact h1)] at hv; cases hv
      rw [← hv]
      match j, hj with
      | 0, _ => rfl
      | 1, _ => rfl
      | 2, _ => rfl
      | 3, _ => rfl
      | 4, _ => rfl
      | 5, _ => rfl
      | 6, _ => rfl
      | 7, _ => rfl
      | 8, _ => rfl
      | 9, _ => rfl
      | 10, _ => rfl
      | 11, _ => rfl
      | 12, _ => rfl
      | 13, _ => rfl
      | 14, _ => rfl
      | 15, _ => rfl
      | 16, _ => rfl
      | 17, _ => rfl
      | 18, _ => rfl
      | 19, _ => rfl
      | 20, _ => rfl
      | 21, _ => rfl
      | 22, _ => rfl
      | 23, _ => rfl
      )
  cases hq : Tryz.prog.info? 41 with
  | none => have := imgInfo; simp [hq] at this
  | some i =>
    have hs : i.size = 24 := by have := imgInfo; simpa [hq] using this
    have hagg : (isAgg 41).run Tryz.prog w = .ok true w := by
      unfold isAgg
      rw [Sem.run_bind, run_underlying Tryz.underlying41 w]
      rfl
    have hl' : (loadCells ⟨g, 0, none⟩ 24).run Tryz.prog w = .ok (imgArr h s sv dv) w := hl
    simp [loadVar, Sem.run_bind, hagg, sizeOf, typeInfo, hq, hs, hl', imgV]
theorem wpList_load_imgR {g : Nat} {h : Hx} {s : St} {sv dv : Value} {f : Fl} {k : Int} {ops : Array Oper} {rest : List Oper} {o : Oper} {a : Act} {Q : Exit → Act → World → Prop} (hgd : o.guard = none) (x : Operand) (ho : o.op = .load 41 x)
    (hx : a.eval x = .pointer (some ⟨g, 0, none⟩)) (i : SeenAt w g h s sv dv f k) (hK : wpList Tryz.prog ops Q rest (a.put o.dst (imgV h s sv dv)) w) : wpList Tryz.prog ops Q (o :: rest) a w := by
  refine wpList_plain hgd fun _ hK' => ?_
  unfold Oper.wp execOp
  simp only [ho, hx, Instr.loadAt, Instr.sureAddr, Sem.run_bind, Sem.run_pure, Result.andThen_ok, run_loadImgR i]
  exact hK' _ _ hK

theorem IsBytes.under {q : Option Addr} {c : Nat} {ys : List Int} {lo : Nat} (h : IsBytes w q c ys) (hb : Below lo w w') (hq : ∀ x, q = some x → x.block < lo) : IsBytes w' q c ys := by
  refine ⟨h.1, fun hl => ?_⟩
  obtain ⟨b, o, e, hc⟩ := h.2 hl
  exact ⟨b, o, e, fun i hi => by rw [hb.cell (show (⟨b, o + i, none⟩ : Addr).block < lo from hq ⟨b, o, none⟩ e)]; exact hc i hi⟩
theorem ImgAt.under {g : Nat} {h : Hx} {s : St} {sv dv : Value} {lo : Nat} (k : ImgAt w g h s sv dv) (hb : Below lo w w') (hl : g < lo) : ImgAt w' g h s sv dv := (hb.block g hl).trans k
theorem cell_in {a : Addr} {v : Value} (h : w.cell? a = some v) : a.block < w.heap.size := by
  unfold World.cell? at h
  split at h
  · rename_i hx
    rcases Nat.lt_or_ge a.block w.heap.size with h1 | h1
    · exact h1
    · rw [Array.getElem?_eq_none h1] at hx; cases hx
  · cases h
/-- What holds of a run, step by step. -/
theorem trok_step {s : St} {b : List Int} (T : TrOk s) (hr : Small b) : TrOk (stepS s b) := by
  have meet : ∀ (s : St) (k : Int), k ≠ 2147483699 → TrOk s → TrOk (s.meet k) := fun s k hk h => ⟨by
    show 2147483699 ∈ s.met ++ [k] ↔ s.tr.2 ≠ 0
    rw [List.mem_append, ← h.iff]
    simp [Ne.symm hk], h.pos⟩
  unfold stepS
  split
  · exact ⟨T.iff, T.pos⟩
  split
  · exact meet _ _ (by decide) ⟨T.iff, T.pos⟩
  split
  · exact ⟨T.iff, T.pos⟩
  split
  · unfold spS
    split
    · exact trie_ok (T.info b) _ (spanAt_pos hr 40)
    split
    · exact trie_ok T _ (spanAt_pos hr 8)
    rename_i n1 n2
    split
    · exact meet _ _ n2 ⟨T.iff, T.pos⟩
    · exact meet _ _ n2 ⟨T.iff, T.pos⟩
  split
  · exact meet _ _ (by decide) ⟨T.iff, T.pos⟩
  · exact T

set_option maxHeartbeats 6400000 in
set_option maxRecDepth 20000 in
theorem RefImage_all (ys : List Int) (q : Option Addr) (c n : Nat) (h : IsBytes w q c ys) (hn : ys.length = n) (hc : n ≤ c) (hcm : c ≤ 9223372036854775807) (hn47 : n ≤ 140737488355328) (hr : Small ys) :
    Calls Tryz.prog 22 #[.slice q n c] w fun e w' => ∃ sv dv lo, e = .returned (.tuple #[imgV (imgH ys) (imgS ys) sv dv, .int .i64 (imgErr ys)]) ∧ Lists w' lo (imgS ys) sv dv ∧ w.grownBy w' none := by
  have g0 := grown1 w (.cells #[.int .i64 0, .int .i64 0, .int .u32 0, .string ⟨#[]⟩, .slice none 0 0, .slice none 0 0, .int .u64 0, .int .u64 0, .int .u64 0, .int .u64 0, .int .u64 0, .int .u64 0, .int .u64 0, .int .u64 0, .int .u64 0, .int .u64 0, .int .u64 0, .int .u64 0, .int .u64 0, .int .u64 0, .int .u64 0, .int .u64 0, .int .u64 0, .bool false] 41)
  have RD := Lib.hid (RefRead_all (w := w.alloc (.cells #[.int .i64 0, .int .i64 0, .int .u32 0, .string ⟨#[]⟩, .slice none 0 0, .slice none 0 0, .int .u64 0, .int .u64 0, .int .u64 0, .int .u64 0, .int .u64 0, .int .u64 0, .int .u64 0, .int .u64 0, .int .u64 0, .int .u64 0, .int .u64 0, .int .u64 0, .int .u64 0, .int .u64 0, .int .u64 0, .int .u64 0, .int .u64 0, .bool false] 41)) ys q c n (h.kept g0 (by simp)) hn hc hcm hn47 hr)
  have Z0 := Lib.hid (ImgAt.new w)
  have G0 := Lib.hid g0
  have RM := Lib.hid (readL_may hr)
  have RL := Lib.hid (readL_len ys)
  have HN := Lib.hid hn
  obtain ⟨⟨hs, hk, hf⟩, hh⟩ : ∃ z, z = readH ys := ⟨_, rfl⟩
  rw [← hh] at RD
  have HX := Lib.hid (show imgHx ys = ⟨hk, hs, hf⟩ by unfold imgHx; rw [← hh])
  have IE := Lib.hid (show imgErr ys = if rdErr ys ≠ 0 then rdErr ys else runE St.zero (imgBs ys) from rfl)
  have IS := Lib.hid (show imgSt ys = runS St.zero (imgBs ys) from rfl)
  have no : ∀ (er : Int) (W : World), imgErr ys = er → er ≠ 0 → w.grownBy W none → ∃ sv dv lo, Ending.returned (.tuple #[imgV Hx.zero St.zero (.slice none 0 0) (.slice none 0 0), .int .i64 er]) = Ending.returned (.tuple #[imgV (imgH ys) (imgS ys) sv dv, .int .i64 (imgErr ys)]) ∧ Lists W lo (imgS ys) sv dv ∧ w.grownBy W none := fun er W h1 h2 hg => by
    unfold imgH imgS
    rw [if_neg (by rw [h1]; exact h2), if_neg (by rw [h1]; exact h2), h1]
    exact ⟨_, _, W.heap.size, rfl, ⟨⟨[], rfl, World.ownsRow_nil _ _ _ _, fun x hx => by cases hx⟩, World.ownsRow_nil _ _ _ _⟩, hg⟩
  have NO := Lib.hid no
  obtain ⟨er, her⟩ : ∃ z, z = rdErr ys := ⟨_, rfl⟩
  obtain ⟨Zr, hzr⟩ : ∃ z, z = readZ ys := ⟨_, rfl⟩
  rw [← her] at RD IE
  rw [← hzr] at RD
  clear h hr g0 hh her hn hzr no
  unfold Hd.v at RD
  simp only [] at RD
  by_cases h0 : er = 0
  rotate_left
  · have HE := Lib.hid (IE.out.trans (if_pos h0))
    have HNZ := Lib.hid h0
    have hne : (er != 0) = true := by simpa using h0
    clear h0
    go_enter Tryz.func22, Tryz.ntmps22
    go_wp2_with fail
    refine RD.out.mono ?_
    rintro e w2 ⟨pre, qa, ca, hpl, rfl, hI, hpc, hcm2, hF, hg⟩
    have hgn := grown_trans hg (grown1 w2 (.cells #[.int .i64 hs, .int .i64 hk, .int .u32 hf] 68))
    have G2 := Lib.hid (grown_trans G0.out hgn)
    have ZA := Lib.hid (Z0.out.kept hgn (by simp))
    clear hg hgn hpl hI hF hpc hcm2
    go_wp2_with (refine wpList_store_img (h := Hx.zero) (s := St.zero) (sv := .slice none 0 0) (dv := .slice none 0 0) rfl _ _ rfl rfl rfl ZA.out ⟨_, _, _, rfl⟩ ⟨_, _, _, rfl⟩ ?_)
    go_wp2
    refine bodyPost_ret (results_img (v := .int .i64 er) rfl rfl rfl (ZA.out.put (h := Hx.zero) (s := St.zero) (sv := .slice none 0 0) (dv := .slice none 0 0))) rfl ?_
    exact NO.out _ _ HE.out HNZ.out (grown_new G2.out (grown_setRow _ _) (Nat.le_refl _))
  subst h0
  have IE0 := Lib.hid (IE.out.trans (if_neg (by simp)))
  clear IE
  go_enter Tryz.func22, Tryz.ntmps22
  go_wp2_with fail
  refine RD.out.mono ?_
  rintro e w2 ⟨pre, qa, ca, hpl, rfl, hI, hpc, hcm2, hF, hg⟩
  have gh := grown1 w2 (.cells #[.int .i64 hs, .int .i64 hk, .int .u32 hf] 68)
  have hgn := grown_trans hg gh
  have G3 := Lib.hid (grown_trans G0.out hgn)
  have ZA := Lib.hid (Z0.out.kept hgn (by simp))
  have HD := Lib.hid (HdAt.new w2 ⟨hs, hk, hf⟩)
  have I3 := Lib.hid (hI.grown gh)
  have PL := Lib.hid hpl
  have FF := Lib.hid hF
  have ZL := Lib.hid (show w.heap.size < (w2.alloc (.cells #[.int .i64 hs, .int .i64 hk, .int .u32 hf] 68)).heap.size from lt_of_block (Z0.out.kept hgn (by simp)))
  clear hg hgn hpl hI hF gh
  go_upto_region 4 with fail
  obtain ⟨w3, hw3⟩ : ∃ w3, w2.alloc (.cells #[.int .i64 hs, .int .i64 hk, .int .u32 hf] 68) = w3 := ⟨_, rfl⟩
  obtain ⟨hb, hhb⟩ : ∃ z, w2.heap.size = z := ⟨_, rfl⟩
  rw [hw3] at G3 ZA HD I3 ZL ⊢
  rw [hhb] at HD
  simp only [hhb]
  clear hw3 hhb
  have k0 := HD.out.c0
  have k1 := HD.out.c1
  have k2 := HD.out.c2
  simp only [] at k0 k1 k2
  go_upto_region 5 with fail
  have gA := grown1 w3 (.cells #[.int .i64 hk, .int .i64 hs, .int .u32 hf, .string ⟨#[]⟩, .slice none 0 0, .slice none 0 0, .int .u64 0, .int .u64 0, .int .u64 0, .int .u64 0, .int .u64 0, .int .u64 0, .int .u64 0, .int .u64 0, .int .u64 0, .int .u64 0, .int .u64 0, .int .u64 0, .int .u64 0, .int .u64 0, .int .u64 0, .int .u64 0, .int .u64 0, .bool false, .bool false, .bool false, .bool false, .bool false, .bool false, .int .i64 0] 106)
  have HS := Lib.hid (show HoldsR (w3.alloc (.cells #[.int .i64 hk, .int .i64 hs, .int .u32 hf, .string ⟨#[]⟩, .slice none 0 0, .slice none 0 0, .int .u64 0, .int .u64 0, .int .u64 0, .int .u64 0, .int .u64 0, .int .u64 0, .int .u64 0, .int .u64 0, .int .u64 0, .int .u64 0, .int .u64 0, .int .u64 0, .int .u64 0, .int .u64 0, .int .u64 0, .int .u64 0, .int .u64 0, .bool false, .bool false, .bool false, .bool false, .bool false, .bool false, .int .i64 0] 106)) w3.heap.size w3.heap.size ⟨hk, hs, hf⟩ St.zero (flOf St.zero) 0 from
    ⟨⟨.slice none 0 0, .slice none 0 0, [], heap_alloc_new w3 _, rfl, World.ownsRow_nil _ _ _ _, fun x hx => (by cases hx), World.ownsRow_nil _ _ _ _⟩, Nat.le_refl _⟩)
  have GW := Lib.hid (grown_trans G3.out gA)
  have ZW := Lib.hid (ZA.out.kept gA (by simp))
  have IW := Lib.hid (I3.out.grown gA)
  have OLD := Lib.hid (fun (m : Cm) (hm : m ∈ pre) => (show ∀ x, m.q = some x → x.block < w3.heap.size from fun x hx => by
    obtain ⟨k, hk⟩ := List.getElem?_of_mem hm
    obtain ⟨b0, o0, _, hc⟩ := I3.out (List.length_pos_of_mem hm)
    have hib := (hc k m hk).2
    have hm8 : 8 ≤ m.bytes.length := (of_decide_eq_true (RM.out m.d (by rw [← PL.out]; exact List.mem_map_of_mem hm)).2.2).1
    obtain ⟨b1, o1, e1, hc1⟩ := hib.2 (by omega)
    rw [hx] at e1
    injection e1 with e1
    subst e1
    exact cell_in (hc1 0 (by omega))))
  have OQ := Lib.hid (fun (hl : 0 < pre.length) => (show ∀ x, qa = some x → x.block < w3.heap.size from fun x hx => by
    obtain ⟨b0, o0, e0, hc⟩ := I3.out hl
    rw [hx] at e0
    injection e0 with e0
    subst e0
    exact cell_in (hc 0 _ (List.getElem?_eq_getElem hl)).1.1))
  clear gA k0 k1 k2
  obtain ⟨lo, hlo⟩ : ∃ lo, w3.heap.size = lo := ⟨_, rfl⟩
  obtain ⟨W, hW⟩ : ∃ W, w3.alloc (.cells #[.int .i64 hk, .int .i64 hs, .int .u32 hf, .string ⟨#[]⟩, .slice none 0 0, .slice none 0 0, .int .u64 0, .int .u64 0, .int .u64 0, .int .u64 0, .int .u64 0, .int .u64 0, .int .u64 0, .int .u64 0, .int .u64 0, .int .u64 0, .int .u64 0, .int .u64 0, .int .u64 0, .int .u64 0, .int .u64 0, .int .u64 0, .int .u64 0, .bool false, .bool false, .bool false, .bool false, .bool false, .bool false, .int .i64 0] 106) = W := ⟨_, rfl⟩
  have WL := Lib.hid (show lo ≤ W.heap.size by rw [← hW, ← hlo, World.size_alloc]; exact Nat.le_succ _)
  rw [hW, hlo] at HS
  rw [hW] at GW ZW IW ⊢
  rw [hlo] at ZL OLD OQ
  simp only [hlo]
  clear hW hlo HD G3 ZA I3
  obtain ⟨N, hNp⟩ : ∃ N, N = pre.length := ⟨_, rfl⟩
  have hpc' : N ≤ ca := by rw [hNp]; exact hpc
  have PN := Lib.hid hNp
  rw [← hNp]
  have BE := Lib.hid (show imgBs ys = pre.map Cm.bytes by unfold imgBs; rw [← PL.out, List.map_map]; rfl)
  have N256 := Lib.hid (show N ≤ 256 by rw [hNp, ← List.length_map (f := Cm.d), PL.out]; exact RL.out.1)
  clear hNp hpc
  go_wp2
  go_loopw [9] (fun i wr => ∃ k : Nat, k ≤ N ∧ i = .int .i64 k ∧ HoldsR wr lo lo ⟨hk, hs, hf⟩ (runS St.zero ((imgBs ys).take k)) (flOf (runS St.zero ((imgBs ys).take k))) (runS St.zero ((imgBs ys).take k)).secs ∧ runE St.zero ((imgBs ys).take k) = 0 ∧ TrOk (runS St.zero ((imgBs ys).take k)) ∧ FineK k (runS St.zero ((imgBs ys).take k)) ∧ Below lo W wr) (fun i _ => N - (intOf i).toNat)
  case atStart => exact ⟨0, Nat.zero_le _, rfl, HS.out, rfl, TrOk.zero, FineK.zero, Below.refl _ _⟩
  case round =>
    obtain ⟨k, hk1, rfl, hH, hE, hT, hF, hB⟩ := hrel
    have n256 := N256.out
    by_cases hlt : k < N
    · obtain ⟨m, hm⟩ : ∃ m, pre[k]? = some m := ⟨_, List.getElem?_eq_getElem (by rw [← PN.out]; exact hlt)⟩
      have hmem := List.mem_of_getElem? hm
      obtain ⟨b0, o0, rfl, hcc⟩ := IW.out (List.length_pos_of_mem hmem)
      obtain ⟨⟨c0, c1⟩, hib⟩ := hcc k m hm
      have hq := OLD.out m hmem
      have hq0 := OQ.out (List.length_pos_of_mem hmem) _ rfl
      have hfit := FF.out m hmem
      have hmay := RM.out m.d (by rw [← PL.out]; exact List.mem_map_of_mem hmem)
      have hm8 : 8 ≤ m.bytes.length := (of_decide_eq_true hmay.2.2).1
      have hmn : m.bytes.length ≤ ys.length := RL.out.2 m.d (by rw [← PL.out]; exact List.mem_map_of_mem hmem)
      have hnn := HN.out
      have d0 : wr.cell? ⟨b0, o0 + k * 2 + 1, none⟩ = some (.slice m.q m.bytes.length m.cap) := by rw [hB.cell (by exact hq0)]; exact c1
      have hbk : (imgBs ys)[k]? = some m.bytes := by rw [BE.out, List.getElem?_map, hm]; rfl
      have htk : (imgBs ys).take (k + 1) = (imgBs ys).take k ++ [m.bytes] := take_snoc hbk
      obtain ⟨s, hs'⟩ : ∃ s, s = runS St.zero ((imgBs ys).take k) := ⟨_, rfl⟩
      rw [← hs'] at hH hT hF
      have hS1 : runS St.zero ((imgBs ys).take (k + 1)) = stepS s m.bytes := by rw [htk, runS_snoc, hs']
      have hE1 : runE St.zero ((imgBs ys).take (k + 1)) = stepE s m.bytes := by rw [htk, runE_snoc _ _ _ hE, hs']
      have hstop : stepE s m.bytes ≠ 0 → imgErr ys = stepE s m.bytes := fun h => by
        rw [IE0.out, ← hE1]
        conv => lhs; rw [← List.take_append_drop (k + 1) (imgBs ys)]
        exact runE_stop _ _ _ (by rw [hE1]; exact h)
      have TK := Lib.hid (take5_any hH hT hF.segs ⟨hF.secs.1, hF.secs.2⟩ hF.deps m.bytes m.q m.cap m.bytes.length (hib.under hB hq) rfl hfit.len hfit.cap (by omega) hfit.bytes hm8 hq)
      have FS := Lib.hid (fun h0 => fine_step (b := m.bytes) hF h0)
      have TS := Lib.hid (trok_step (b := m.bytes) hT hfit.bytes)
      have S1 := Lib.hid hS1
      have E1 := Lib.hid hE1
      have ST := Lib.hid hstop
      have BB := Lib.hid hB
      have dl : decide ((k : Int) < (N : Int)) = true := by simp; omega
      have hkc : (k : Int) < (ca : Int) := by omega
      clear hm hmem hcc c0 c1 hib hq hq0 hfit hmay hm8 hmn hnn hbk htk hs' hH hT hF hE hS1 hE1 hstop hB
      obtain ⟨er, her⟩ : ∃ z, z = stepE s m.bytes := ⟨_, rfl⟩
      go_wp2_with fail
      refine TK.out.mono ?_
      intro e w4 hO
      have OO := Lib.hid hO.out
      obtain rfl := hO.out.val
      rw [← her]
      by_cases h0 : er = 0
      · have SE := Lib.hid (her.symm.trans h0)
        subst h0
        clear hO her
        go_wp2
        refine ⟨⟨k + 1, hlt, by go_num, ?_, by rw [E1.out]; exact SE.out, by rw [S1.out]; exact TS.out, by rw [S1.out]; exact FS.out SE.out, BB.out.trans OO.out.below⟩, by simp [intOf]; omega⟩
        rw [S1.out]
        exact OO.out.good SE.out
      · have hne : (er != 0) = true := by simpa using h0
        have HER := Lib.hid (show imgErr ys = er by rw [her]; exact ST.out (by rw [← her]; exact h0))
        have H0 := Lib.hid h0
        have ZF := Lib.hid (ZW.out.under (BB.out.trans OO.out.below) ZL.out)
        have GF := Lib.hid (show w.grownBy w4 none from grown_below ((below_grown GW.out (Nat.le_refl _) (by simp)).trans ((BB.out.trans OO.out.below).mono (Nat.le_of_lt ZL.out))) none)
        clear hO her h0
        go_wp2_with (refine wpList_store_img (h := Hx.zero) (s := St.zero) (sv := .slice none 0 0) (dv := .slice none 0 0) rfl _ _ rfl rfl rfl ZF.out ⟨_, _, _, rfl⟩ ⟨_, _, _, rfl⟩ ?_)
        go_wp2
        refine bodyPost_ret (results_img (v := .int .i64 er) rfl rfl rfl (ZF.out.put (h := Hx.zero) (s := St.zero) (sv := .slice none 0 0) (dv := .slice none 0 0))) rfl ?_
        exact NO.out _ _ HER.out H0.out (grown_new GF.out (grown_setRow _ _) (Nat.le_refl _))
    · have hkn : k = N := by omega
      subst hkn
      have hall : (imgBs ys).take k = imgBs ys := by rw [PN.out, show pre.length = (imgBs ys).length by rw [BE.out, List.length_map], List.take_length]
      rw [hall] at hH hE
      rw [← IS.out] at hH
      rw [← IE0.out] at hE
      have dl : decide ((k : Int) < (k : Int)) = false := by simp
      have EZ := Lib.hid hE
      have ZF := Lib.hid (ZW.out.under hB ZL.out)
      have GF := Lib.hid (show w.grownBy wr none from grown_below ((below_grown GW.out (Nat.le_refl _) (by simp)).trans (hB.mono (Nat.le_of_lt ZL.out))) none)
      obtain ⟨sv, dv, l, a1, a2, a3, a4, a5⟩ := hH.ex
      have hapart : lo ≠ w.heap.size := fun e => by have := ZL.out; omega
      have LS := Lib.hid (show Lists wr lo (imgSt ys) sv dv from ⟨⟨l, a2, a3, a4⟩, a5⟩)
      obtain ⟨qs, cs, rfl⟩ := own_slice a3
      obtain ⟨qd, cd, rfl⟩ := own_slice a5
      have A1 := Lib.hid a1
      clear a1 a2 a3 a4 a5 hH hall hE hB hT hF
      obtain ⟨S, hS⟩ : ∃ S, S = imgSt ys := ⟨_, rfl⟩
      rw [← hS] at A1 LS
      have SE := Lib.hid hS
      clear hS
      go_wp2_with (first | refine wpList_load_imgR rfl _ rfl rfl A1.out ?_ | refine wpList_store_img (h := ⟨hk, hs, hf⟩) (s := S) (sv := .slice qs l.length cs) (dv := .slice qd S.deps.length cd) rfl _ _ rfl rfl rfl ZF.out ⟨_, _, _, rfl⟩ ⟨_, _, _, rfl⟩ ?_)
      go_wp2
      refine bodyPost_ret (results_img (v := .int .i64 0) rfl rfl rfl (ZF.out.put (h := ⟨hk, hs, hf⟩) (s := S) (sv := .slice qs l.length cs) (dv := .slice qd S.deps.length cd))) rfl ?_
      have gR : wr.grownBy (wr.setRow w.heap.size (imgArr ⟨hk, hs, hf⟩ S (.slice qs l.length cs) (.slice qd S.deps.length cd))) (some w.heap.size) := grown_setRow _ _
      refine ⟨.slice qs l.length cs, .slice qd S.deps.length cd, lo, ?_, ?_, grown_new GF.out gR (Nat.le_refl _)⟩
      · rw [EZ.out]
        unfold imgH imgS
        rw [if_pos EZ.out, if_pos EZ.out, HX.out, SE.out]
      · unfold imgS
        rw [if_pos EZ.out, ← SE.out]
        exact LS.out.kept gR ZF.out
end Go.Proofs.YtdagnkdonlfobaaGreat
