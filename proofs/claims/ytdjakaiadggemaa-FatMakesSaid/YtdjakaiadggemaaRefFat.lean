/- The document's own slices of a fat file: one contract. No condition but that a file's bytes are not beyond the form's bound. -/
import Derived.Test.YtdjakaiadggemaaRefBase
namespace Go.Proofs.Ytdjakaiadggemaa
open Go.RowKit Go.Sort
variable {w w' : World}

set_option maxHeartbeats 6400000 in
set_option maxRecDepth 20000 in
theorem refslices_fat (ys : List Int) (q : Option Addr) (c n : Nat) (h : IsBytes w q c ys) (hn : ys.length = n) (h1 : ¬ 1048576 < n) (h4 : ¬ n < 4) (hc : n ≤ c) (hcm : c ≤ 9223372036854775807) (hr : Small ys) (hm : ys.take 4 = [202, 254, 186, 190]) :
    Calls Try.prog 10 #[.slice q n c] w fun e w' => SlOut w w' (listN false ys) e := by
  have NB := Lib.hid (fun (w1 : World) (hg : w.grownBy w1 none) z (p k : Nat) hz hs hk => refnum_at (w := w1) ys (h.kept hg (by simp)) hn hc hcm hr z p k hz hs hk)
  have SM := Lib.hid hr
  have hnn : (ys.length : Int) = n := by omega
  obtain ⟨r, hrr⟩ : ∃ r, r = listN false ys := ⟨_, rfl⟩
  rw [← hrr]
  unfold listN at hrr
  have hs4 : Small (ys.take 4) := fun x hx => hr x (List.mem_of_mem_take hx)
  have t1 : ((strOfNums (ys.take 4)).toList == [207, 250, 237, 254]) = decide (ys.take 4 = [207, 250, 237, 254]) := text_is (ys := [207, 250, 237, 254]) hs4 (small_lit rfl)
  have t2 : ((strOfNums (ys.take 4)).toList == [202, 254, 186, 190]) = decide (ys.take 4 = [202, 254, 186, 190]) := text_is (ys := [202, 254, 186, 190]) hs4 (small_lit rfl)
  have t3 : ((strOfNums (ys.take 4)).toList == [202, 254, 186, 191]) = decide (ys.take 4 = [202, 254, 186, 191]) := text_is (ys := [202, 254, 186, 191]) hs4 (small_lit rfl)
  rw [hm, decide_eq_false (by decide)] at t3
  rw [hm, decide_eq_true (by decide)] at t2
  rw [hm, decide_eq_false (by decide)] at t1
  have hq : ∃ x, q = some x := by
    obtain ⟨b, o, e, _⟩ := h.2 (by omega)
    exact ⟨_, e⟩
  obtain ⟨x, rfl⟩ := hq
  have cv2 : (convert 22 9 (.slice (some x) 4 c)).run Try.prog w = .ok (.string (strOfNums (ys.take 4))) w := (h.take 4 (fun e => by cases e)).text (by simp; omega)
  rw [hm] at cv2
  have t2n : ((strOfNums [202, 254, 186, 190]).toList != [202, 254, 186, 190]) = false := by rw [bne, t2]; rfl
  clear h hr hs4 hm
  generalize strOfNums [202, 254, 186, 190] = T at *
  have hes : esize false = 20 := rfl
  have hpl : plc false = 4 := rfl
  by_cases h8 : n < 8
  · rw [if_pos (by omega)] at hrr
    have R := Lib.hid hrr
    clear hrr
    go_enter Try.func10, Try.ntmps10
    go_wp2
    go_ret2
    rw [R.out]
    exact slOut_nil (grown_refl _ _)
  · rw [if_neg (by omega)] at hrr
    have P0 := Lib.hid (NB.out w (grown_refl _ _) 4 4 4 (by omega) (.inl rfl) (by omega))
    have abd := at_bd4 SM.out 4
    generalize hx : at' ys 4 4 = X at *
    obtain ⟨N, hN⟩ := Int.eq_ofNat_of_zero_le abd.1
    subst hN
    have hwr : wrap64 (N : Int) = N := by unfold wrap64; omega
    clear hx
    by_cases h32 : (32 : Int) < N
    · rw [if_pos h32] at hrr
      have R := Lib.hid hrr
      clear hrr
      go_enter Try.func10, Try.ntmps10
      go_wp2_with fail
      refine P0.out.mono ?_
      rintro e w1 ⟨rfl, hg1⟩
      have G1 := Lib.hid hg1
      clear hg1
      go_wp2
      go_ret2
      rw [R.out]
      exact slOut_nil G1.out
    · rw [if_neg h32, Int.toNat_natCast] at hrr
      by_cases hsh : n < 8 + N * 20
      · rw [if_pos (by rw [hes]; omega)] at hrr
        have R := Lib.hid hrr
        clear hrr
        go_enter Try.func10, Try.ntmps10
        go_wp2_with fail
        refine P0.out.mono ?_
        rintro e w1 ⟨rfl, hg1⟩
        have G1 := Lib.hid hg1
        clear hg1
        go_wp2
        go_ret2
        rw [R.out]
        exact slOut_nil G1.out
      · rw [if_neg (by rw [hes]; omega)] at hrr
        have R := Lib.hid hrr
        clear hrr
        have EL := entries_len false ys N
        have EF := Lib.hid (entries_fit SM.out false N)
        have EA := Lib.hid (fun i (hi : i < N) => entries_at false ys N i hi)
        go_enter Try.func10, Try.ntmps10
        go_wp2_with fail
        refine P0.out.mono ?_
        rintro e w1 ⟨rfl, hg1⟩
        have O0 : ORel w w1 false ys N (.slice none 0 0) (.int .i64 0) 0 :=
          ⟨Nat.zero_le _, World.ownsRow_nil _ _ _ _, congrArg (Value.int .i64) (cls_none _ _ (fun ⟨j, h, _⟩ => by omega) (fun ⟨j, h, _⟩ => by omega)).symm, hg1⟩
        clear hg1
        go_wp2
        go_loopw [8, 9, 10] (fun v ev i wr => ∃ i' : Nat, i = .int .i64 i' ∧ ORel w wr false ys N v ev i') (fun _ _ i _ => N - (intOf i).toNat)
        case atStart => exact ⟨0, rfl, O0⟩
        case round =>
          obtain ⟨i, rfl, hor⟩ := hrel
          have hiN := hor.le
          obtain ⟨qv, cv, rfl⟩ := own_slice hor.own
          have herr := hor.err
          obtain ⟨E1, hE1⟩ : ∃ z : Int, z = cls (BadBelow (entries false ys N) (8 + (N : Int) * (esize false : Nat)) ys.length i) (TwinBelow (entries false ys N) i) := ⟨_, rfl⟩
          rw [← hE1] at herr
          subst herr
          have HE1 := Lib.hid hE1
          clear hE1
          have K := Lib.hid hor
          clear hor O0
          by_cases hi : i < N
          · obtain ⟨LL, hLL⟩ : ∃ z, z = entries false ys N := ⟨_, rfl⟩
            obtain ⟨s, hs⟩ : ∃ z, z = entry false ys (8 + i * 20) := ⟨_, rfl⟩
            have SI := Lib.hid (show LL[i]? = some s by rw [hLL, EA.out i hi, hs, hes])
            have SF := Lib.hid (show s.Fits by rw [hs]; exact entry_fits SM.out _ _)
            have LT := Lib.hid (show ∀ k, k < i → ∃ t, LL[k]? = some t ∧ t.Fits from fun k hk => ⟨_, by rw [hLL]; exact EA.out k (by omega), entry_fits SM.out _ _⟩)
            have sc : s.cpu = at' ys (8 + i * 20) 4 := by rw [hs]; rfl
            have ss : s.sub = at' ys (8 + i * 20 + 4) 4 := by rw [hs]; rfl
            have so : s.off = at' ys (8 + i * 20 + 8) 4 := by rw [hs]; rfl
            have sz : s.size = at' ys (8 + i * 20 + 8 + 4) 4 := by rw [hs]; rfl
            have sa : s.align = at' ys (8 + i * 20 + 8 + 2 * 4) 4 := by rw [hs]; rfl
            have N1 := Lib.hid (fun wr (hg : w.grownBy wr none) z (hz : z = ((8 + i * 20 + 8 + 2 * 4 : Nat) : Int)) => NB.out wr hg z _ 4 hz (.inl rfl) (by omega))
            have N2 := Lib.hid (fun wr (hg : w.grownBy wr none) z (hz : z = ((8 + i * 20 : Nat) : Int)) => NB.out wr hg z _ 4 hz (.inl rfl) (by omega))
            have N3 := Lib.hid (fun wr (hg : w.grownBy wr none) z (hz : z = ((8 + i * 20 + 4 : Nat) : Int)) => NB.out wr hg z _ 4 hz (.inl rfl) (by omega))
            have N4 := Lib.hid (fun wr (hg : w.grownBy wr none) z (hz : z = ((8 + i * 20 + 8 : Nat) : Int)) => NB.out wr hg z _ 4 hz (by omega) (by omega))
            have N5 := Lib.hid (fun wr (hg : w.grownBy wr none) z (hz : z = ((8 + i * 20 + 8 + 4 : Nat) : Int)) => NB.out wr hg z _ 4 hz (by omega) (by omega))
            rw [← sa] at N1
            rw [← sc] at N2
            rw [← ss] at N3
            rw [← so] at N4
            rw [← sz] at N5
            have m0 : s.cpu % 4294967296 = s.cpu := by have := SF.out.cpu; omega
            have m1 : s.sub % 4294967296 = s.sub := by have := SF.out.sub; omega
            have ab : 0 ≤ s.align ∧ s.align < 4294967296 := by rw [sa]; exact at_bd4 SM.out _
            have m4 : wrap64 s.align = s.align := by unfold wrap64; omega
            have HS := Lib.hid hs
            have HF := Lib.hid (show (8 + (N : Int) * 20) = 8 + (N : Int) * (esize false : Nat) by rw [hes]; omega)
            have HLL := Lib.hid hLL
            have HNN := Lib.hid hnn
            have SE := Lib.hid (show entry false ys (8 + i * esize false) = s by rw [hs, hes])
            have MA := Lib.hid (fun wr => rmay_any (w := wr) s SF.out ab (8 + N * 20) n (by omega) (by omega))
            rw [show ((8 + N * 20 : Nat) : Int) = 8 + (N : Int) * 20 by omega] at MA
            unfold Sl.v at MA
            clear hs hLL sc ss so sz sa hnn
            go_wp2_with fail
            refine (N1.out wr K.out.grown _ (by omega)).mono ?_
            rintro e x1 ⟨rfl, y1⟩
            have g1 := grown_trans K.out.grown y1
            have Y1 := Lib.hid y1
            clear y1
            go_wp2_with fail
            refine (N2.out x1 g1 _ (by omega)).mono ?_
            rintro e x2 ⟨rfl, y2⟩
            have g2 := grown_trans g1 y2
            have Y2 := Lib.hid (grown_trans Y1.out y2)
            clear y2 g1
            go_wp2_with fail
            refine (N3.out x2 g2 _ (by omega)).mono ?_
            rintro e x3 ⟨rfl, y3⟩
            have z3 := y3.size
            have y3' := grown_trans y3 (grown1 x3 (.cells #[.int .u32 s.cpu, .int .u32 s.sub, .int .u64 0, .int .u64 0, .int .i64 s.align] 42))
            have g3 := grown_trans g2 y3'
            have Y3 := Lib.hid (grown_trans Y2.out y3')
            have S3 := Lib.hid (SlAt.new x3 ⟨s.cpu, s.sub, 0, 0, s.align⟩)
            clear y3 y3' g2
            go_wp2_with fail
            refine (N4.out _ g3 _ (by omega)).mono ?_
            rintro e x4 ⟨rfl, y4⟩
            have g4 := grown_trans g3 y4
            have Y4 := Lib.hid (grown_trans Y3.out y4)
            have S4 := Lib.hid (S3.out.grown y4)
            clear y4 g3 S3
            go_wp2_with fail
            refine (N5.out x4 g4 _ (by omega)).mono ?_
            rintro e x5 ⟨rfl, y5⟩
            have h5 := S4.out.grown y5
            have f2 := h5.f 2
            have f3 := h5.f 3
            have c0 := h5.c0
            have c1 := h5.c1
            have c2 := h5.c2
            have c3 := h5.c3
            have c4 := h5.c4
            have hset : SlAt ((x5.setCell ⟨x3.heap.size, 2, none⟩ (.int .u64 s.off)).setCell ⟨x3.heap.size, 3, none⟩ (.int .u64 s.size)) x3.heap.size s := (h5.set2 s.off).set3 s.size
            have H5 := Lib.hid hset
            have Z3 : wr.heap.size ≤ x3.heap.size := Nat.le_trans Y2.out.size z3
            have Y5 := Lib.hid (grown_new (grown_trans Y4.out y5) (grown_put2' (g := x3.heap.size) x5 2 3 (.int .u64 s.off) (.int .u64 s.size)) Z3)
            clear y5 g4 h5 hset S4 Y1 Y2 Y3 Y4
            go_wp2_with fail
            refine (MA.out _).mono ?_
            generalize hW : (x5.setCell _ _).setCell _ _ = W at *
            clear hW f2 f3 c0 c1 c2 c3 c4
            rintro e W5 ⟨rfl, y6⟩
            have S5 := Lib.hid (H5.out.grown y6)
            have G5 := Lib.hid (grown_trans Y5.out y6)
            have O5 := Lib.hid (own_grown K.out.own G5.out)
            have SL5 := Lib.hid (IsSl.of_own (entries_len false ys i) O5.out).1
            clear y6 H5 Y5 N1 N2 N3 N4 N5 MA
            have hM0 := cls_may (MB_zero LL (8 + (N : Int) * 20) n i s) (TB_zero LL i s)
            have K0 := Lib.hid (show cls (BadBelow LL (8 + (N : Int) * 20) n i) (TwinBelow LL i) = E1 by rw [HE1.out, HLL.out, HF.out, HNN.out])
            rw [K0.out] at hM0
            have HM := Lib.hid hM0
            clear hM0
            generalize s.may (8 + (N : Int) * 20) n = my at *
            clear m0 m1 m4
            cases my
            · have E0 := Lib.hid (show (4 : Int) = cls (MB LL (8 + (N : Int) * 20) n i s 0) (TB LL i s 0) by rw [HM.out]; rfl)
              clear HM
              go_wp2_with fail
              go_loopw [9, 14] (fun e k wr => ∃ k' : Nat, k' ≤ i ∧ k = .int .i64 k' ∧ e = .int .i64 (cls (MB LL (8 + (N : Int) * 20) n i s k') (TB LL i s k')) ∧ W5.grownBy wr none) (fun _ k _ => i - (intOf k).toNat)
              case atStart => exact ⟨0, Nat.zero_le _, rfl, congrArg (Value.int .i64) E0.out, grown_refl _ _⟩
              case round =>
                obtain ⟨k, hk, rfl, rfl, hgr⟩ := hrel
                by_cases hki : k < i
                · obtain ⟨t, ht, htF⟩ := LT.out k hki
                  obtain ⟨b, o, rfl, hc⟩ := (SL5.out.grown hgr) (by rw [entries_len]; omega)
                  obtain ⟨c0, c1, c2, c3, c4⟩ := hc k t (by rw [entries_at _ _ _ _ hki, ← entries_at _ _ N k (by omega), ← HLL.out]; exact ht)
                  have hz := S5.out.grown hgr
                  have s0 := hz.c0
                  have s1 := hz.c1
                  have s2 := hz.c2
                  have s3 := hz.c3
                  have s4 := hz.c4
                  have hMS := MB_succ (e := (8 + (N : Int) * 20)) (all := n) (i := i) (s := s) ht
                  have hTS := TB_succ (i := i) (s := s) ht
                  have NX := Lib.hid (cls_next (meetB t.off t.size s.off s.size) (t.alike s) hMS hTS)
                  have G := Lib.hid hgr
                  have cM := Lib.hid (fun (W : World) => (rmeet_any (w := W) t.off t.size s.off s.size htF.off htF.size SF.out.off SF.out.size).mono (fun _ _ h => (⟨h.1, below_grown h.2 (Nat.le_refl _) (by simp)⟩ : _ ∧ Below W.heap.size W _)))
                  have cA := Lib.hid (fun (W : World) => (alike_any (w := W) t s htF SF.out).mono (fun _ _ h => (⟨h.1, below_grown h.2 (Nat.le_refl _) (by simp)⟩ : _ ∧ Below W.heap.size W _)))
                  unfold Sl.v at cA
                  generalize cls (MB LL (8 + (N : Int) * 20) n i s k) (TB LL i s k) = E at *
                  generalize meetB t.off t.size s.off s.size = m at *
                  generalize t.alike s = al at *
                  clear hc hz hMS hTS hgr ht
                  go_upto_region 36 with fail
                  have k2 := cell_regrown c2
                  have k3 := cell_regrown c3
                  have j2 := cell_regrown s2
                  have j3 := cell_regrown s3
                  have CM := fun d os => Calls.regrown_of (cM.out (grow (redrawn wr d) os))
                  refine wp_region_quiet_below (by kernel_rfl) (by kernel_rfl) ?_
                  repeat (quiet_step (exact CM _ _))
                  refine wpQuiet_nil ?_
                  intro _ hw'
                  obtain ⟨⟨dq, osq⟩, hw''⟩ := hw'
                  subst hw''
                  have hg1 := grown_below (below_regrown wr dq osq) none
                  clear k2 k3 j2 j3 CM
                  have c0 := grown_cell hg1 c0
                  have c1 := grown_cell hg1 c1
                  have c2 := grown_cell hg1 c2
                  have c3 := grown_cell hg1 c3
                  have c4 := grown_cell hg1 c4
                  have s0 := grown_cell hg1 s0
                  have s1 := grown_cell hg1 s1
                  have s2 := grown_cell hg1 s2
                  have s3 := grown_cell hg1 s3
                  have s4 := grown_cell hg1 s4
                  have G1 := Lib.hid (grown_trans G.out hg1)
                  generalize grow (redrawn wr dq) osq = W1 at *
                  clear hg1 G
                  have k0 := cell_regrown c0
                  have k1 := cell_regrown c1
                  have k2 := cell_regrown c2
                  have k3 := cell_regrown c3
                  have k4 := cell_regrown c4
                  have j0 := cell_regrown s0
                  have j1 := cell_regrown s1
                  have j2 := cell_regrown s2
                  have j3 := cell_regrown s3
                  have j4 := cell_regrown s4
                  have CA := fun d os => Calls.regrown_of (cA.out (grow (redrawn W1 d) os))
                  have CAH := Lib.hid CA
                  clear CA cA cM
                  cases m
                  · cases al
                    · go_upto_region 38 with fail
                      refine wp_region_quiet_below (by kernel_rfl) (by kernel_rfl) ?_
                      repeat (quiet_step (exact CAH.out _ _))
                      refine wpQuiet_nil ?_
                      intro _ hw'
                      obtain ⟨⟨dq, osq⟩, hw''⟩ := hw'
                      subst hw''
                      clear k0 k1 k2 k3 k4 j0 j1 j2 j3 j4
                      go_wp2
                      go_roundw
                      case rel => exact ⟨k + 1, by omega, by go_num, congrArg (Value.int .i64) (by rw [NX.out]; simp), grown_trans G1.out (grown_below (below_regrown W1 dq osq) none)⟩
                      case measure => simp [intOf]; omega
                    · by_cases hE : E = 0
                      · subst hE
                        go_upto_region 38 with fail
                        refine wp_region_quiet_below (by kernel_rfl) (by kernel_rfl) ?_
                        repeat (quiet_step (exact CAH.out _ _))
                        refine wpQuiet_nil ?_
                        intro _ hw'
                        obtain ⟨⟨dq, osq⟩, hw''⟩ := hw'
                        subst hw''
                        clear k0 k1 k2 k3 k4 j0 j1 j2 j3 j4
                        go_wp2
                        go_roundw
                        case rel => exact ⟨k + 1, by omega, by go_num, congrArg (Value.int .i64) (by rw [NX.out]; simp), grown_trans G1.out (grown_below (below_regrown W1 dq osq) none)⟩
                        case measure => simp [intOf]; omega
                      · have hE2 : (E == 0) = false := by simpa using hE
                        go_upto_region 38 with fail
                        refine wp_region_quiet_below (by kernel_rfl) (by kernel_rfl) ?_
                        repeat (quiet_step (exact CAH.out _ _))
                        refine wpQuiet_nil ?_
                        intro _ hw'
                        obtain ⟨⟨dq, osq⟩, hw''⟩ := hw'
                        subst hw''
                        clear k0 k1 k2 k3 k4 j0 j1 j2 j3 j4
                        go_wp2
                        go_roundw
                        case rel => exact ⟨k + 1, by omega, by go_num, congrArg (Value.int .i64) (by rw [NX.out]; simp [hE]), grown_trans G1.out (grown_below (below_regrown W1 dq osq) none)⟩
                        case measure => simp [intOf]; omega
                  · cases al
                    · go_upto_region 38 with fail
                      refine wp_region_quiet_below (by kernel_rfl) (by kernel_rfl) ?_
                      repeat (quiet_step (exact CAH.out _ _))
                      refine wpQuiet_nil ?_
                      intro _ hw'
                      obtain ⟨⟨dq, osq⟩, hw''⟩ := hw'
                      subst hw''
                      clear k0 k1 k2 k3 k4 j0 j1 j2 j3 j4
                      go_wp2
                      go_roundw
                      case rel => exact ⟨k + 1, by omega, by go_num, congrArg (Value.int .i64) (by rw [NX.out]; simp), grown_trans G1.out (grown_below (below_regrown W1 dq osq) none)⟩
                      case measure => simp [intOf]; omega
                    · go_upto_region 38 with fail
                      refine wp_region_quiet_below (by kernel_rfl) (by kernel_rfl) ?_
                      repeat (quiet_step (exact CAH.out _ _))
                      refine wpQuiet_nil ?_
                      intro _ hw'
                      obtain ⟨⟨dq, osq⟩, hw''⟩ := hw'
                      subst hw''
                      clear k0 k1 k2 k3 k4 j0 j1 j2 j3 j4
                      go_wp2
                      go_roundw
                      case rel => exact ⟨k + 1, by omega, by go_num, congrArg (Value.int .i64) (by rw [NX.out]; simp), grown_trans G1.out (grown_below (below_regrown W1 dq osq) none)⟩
                      case measure => simp [intOf]; omega
                · have hki' : k = i := by omega
                  subst hki'
                  have hE := cls_congr (MB_all (e := (8 + (N : Int) * 20)) (all := n) SI.out) (TB_all SI.out)
                  have EE := Lib.hid hE
                  have hz := S5.out.grown hgr
                  have s0 := hz.c0
                  have s1 := hz.c1
                  have s2 := hz.c2
                  have s3 := hz.c3
                  have s4 := hz.c4
                  have OA := Lib.hid ((own_grown O5.out hgr).alloc (.cells #[.int .u32 s.cpu, .int .u32 s.sub, .int .u64 s.off, .int .u64 s.size, .int .i64 s.align] 42))
                  have GR := Lib.hid (grown_trans (grown_trans K.out.grown G5.out) (grown_trans hgr (grown1 wr (.cells #[.int .u32 s.cpu, .int .u32 s.sub, .int .u64 s.off, .int .u64 s.size, .int .i64 s.align] 42))))
                  clear hz hgr hE
                  generalize cls (MB LL (8 + (N : Int) * 20) n k s k) (TB LL k s k) = E at *
                  go_wp2_with (at_builtin; refine wp_append_sl rfl _ _ rfl _ _ (entries false ys k) rfl OA.out s wr.heap.size rfl (SlAt.new wr s) (by omega) GR.out.size ?_)
                  intro v' w6 ho6 hg6
                  obtain ⟨q6, c6, rfl⟩ := own_slice ho6
                  have NO : ORel w w6 false ys N (.slice q6 (k + 1) c6) (.int .i64 E) (k + 1) := by
                    refine ⟨by omega, ?_, ?_, grown_own GR.out hg6 (fun g hg => (OA.out.lt g hg).1) (Nat.le_refl _)⟩
                    · rw [entries_succ, SE.out]; exact ho6
                    · rw [EE.out, HF.out, HLL.out, HNN.out]
                  have NX := Lib.hid NO
                  clear ho6 hg6 NO
                  go_wp2
                  go_roundw
                  case rel => exact ⟨k + 1, by go_num, NX.out⟩
                  case measure => simp [intOf]; omega
            · have E0 := Lib.hid (show (E1 : Int) = cls (MB LL (8 + (N : Int) * 20) n i s 0) (TB LL i s 0) by rw [HM.out]; rfl)
              clear HM
              go_wp2_with fail
              go_loopw [9, 14] (fun e k wr => ∃ k' : Nat, k' ≤ i ∧ k = .int .i64 k' ∧ e = .int .i64 (cls (MB LL (8 + (N : Int) * 20) n i s k') (TB LL i s k')) ∧ W5.grownBy wr none) (fun _ k _ => i - (intOf k).toNat)
              case atStart => exact ⟨0, Nat.zero_le _, rfl, congrArg (Value.int .i64) E0.out, grown_refl _ _⟩
              case round =>
                obtain ⟨k, hk, rfl, rfl, hgr⟩ := hrel
                by_cases hki : k < i
                · obtain ⟨t, ht, htF⟩ := LT.out k hki
                  obtain ⟨b, o, rfl, hc⟩ := (SL5.out.grown hgr) (by rw [entries_len]; omega)
                  obtain ⟨c0, c1, c2, c3, c4⟩ := hc k t (by rw [entries_at _ _ _ _ hki, ← entries_at _ _ N k (by omega), ← HLL.out]; exact ht)
                  have hz := S5.out.grown hgr
                  have s0 := hz.c0
                  have s1 := hz.c1
                  have s2 := hz.c2
                  have s3 := hz.c3
                  have s4 := hz.c4
                  have hMS := MB_succ (e := (8 + (N : Int) * 20)) (all := n) (i := i) (s := s) ht
                  have hTS := TB_succ (i := i) (s := s) ht
                  have NX := Lib.hid (cls_next (meetB t.off t.size s.off s.size) (t.alike s) hMS hTS)
                  have G := Lib.hid hgr
                  have cM := Lib.hid (fun (W : World) => (rmeet_any (w := W) t.off t.size s.off s.size htF.off htF.size SF.out.off SF.out.size).mono (fun _ _ h => (⟨h.1, below_grown h.2 (Nat.le_refl _) (by simp)⟩ : _ ∧ Below W.heap.size W _)))
                  have cA := Lib.hid (fun (W : World) => (alike_any (w := W) t s htF SF.out).mono (fun _ _ h => (⟨h.1, below_grown h.2 (Nat.le_refl _) (by simp)⟩ : _ ∧ Below W.heap.size W _)))
                  unfold Sl.v at cA
                  generalize cls (MB LL (8 + (N : Int) * 20) n i s k) (TB LL i s k) = E at *
                  generalize meetB t.off t.size s.off s.size = m at *
                  generalize t.alike s = al at *
                  clear hc hz hMS hTS hgr ht
                  go_upto_region 36 with fail
                  have k2 := cell_regrown c2
                  have k3 := cell_regrown c3
                  have j2 := cell_regrown s2
                  have j3 := cell_regrown s3
                  have CM := fun d os => Calls.regrown_of (cM.out (grow (redrawn wr d) os))
                  refine wp_region_quiet_below (by kernel_rfl) (by kernel_rfl) ?_
                  repeat (quiet_step (exact CM _ _))
                  refine wpQuiet_nil ?_
                  intro _ hw'
                  obtain ⟨⟨dq, osq⟩, hw''⟩ := hw'
                  subst hw''
                  have hg1 := grown_below (below_regrown wr dq osq) none
                  clear k2 k3 j2 j3 CM
                  have c0 := grown_cell hg1 c0
                  have c1 := grown_cell hg1 c1
                  have c2 := grown_cell hg1 c2
                  have c3 := grown_cell hg1 c3
                  have c4 := grown_cell hg1 c4
                  have s0 := grown_cell hg1 s0
                  have s1 := grown_cell hg1 s1
                  have s2 := grown_cell hg1 s2
                  have s3 := grown_cell hg1 s3
                  have s4 := grown_cell hg1 s4
                  have G1 := Lib.hid (grown_trans G.out hg1)
                  generalize grow (redrawn wr dq) osq = W1 at *
                  clear hg1 G
                  have k0 := cell_regrown c0
                  have k1 := cell_regrown c1
                  have k2 := cell_regrown c2
                  have k3 := cell_regrown c3
                  have k4 := cell_regrown c4
                  have j0 := cell_regrown s0
                  have j1 := cell_regrown s1
                  have j2 := cell_regrown s2
                  have j3 := cell_regrown s3
                  have j4 := cell_regrown s4
                  have CA := fun d os => Calls.regrown_of (cA.out (grow (redrawn W1 d) os))
                  have CAH := Lib.hid CA
                  clear CA cA cM
                  cases m
                  · cases al
                    · go_upto_region 38 with fail
                      refine wp_region_quiet_below (by kernel_rfl) (by kernel_rfl) ?_
                      repeat (quiet_step (exact CAH.out _ _))
                      refine wpQuiet_nil ?_
                      intro _ hw'
                      obtain ⟨⟨dq, osq⟩, hw''⟩ := hw'
                      subst hw''
                      clear k0 k1 k2 k3 k4 j0 j1 j2 j3 j4
                      go_wp2
                      go_roundw
                      case rel => exact ⟨k + 1, by omega, by go_num, congrArg (Value.int .i64) (by rw [NX.out]; simp), grown_trans G1.out (grown_below (below_regrown W1 dq osq) none)⟩
                      case measure => simp [intOf]; omega
                    · by_cases hE : E = 0
                      · subst hE
                        go_upto_region 38 with fail
                        refine wp_region_quiet_below (by kernel_rfl) (by kernel_rfl) ?_
                        repeat (quiet_step (exact CAH.out _ _))
                        refine wpQuiet_nil ?_
                        intro _ hw'
                        obtain ⟨⟨dq, osq⟩, hw''⟩ := hw'
                        subst hw''
                        clear k0 k1 k2 k3 k4 j0 j1 j2 j3 j4
                        go_wp2
                        go_roundw
                        case rel => exact ⟨k + 1, by omega, by go_num, congrArg (Value.int .i64) (by rw [NX.out]; simp), grown_trans G1.out (grown_below (below_regrown W1 dq osq) none)⟩
                        case measure => simp [intOf]; omega
                      · have hE2 : (E == 0) = false := by simpa using hE
                        go_upto_region 38 with fail
                        refine wp_region_quiet_below (by kernel_rfl) (by kernel_rfl) ?_
                        repeat (quiet_step (exact CAH.out _ _))
                        refine wpQuiet_nil ?_
                        intro _ hw'
                        obtain ⟨⟨dq, osq⟩, hw''⟩ := hw'
                        subst hw''
                        clear k0 k1 k2 k3 k4 j0 j1 j2 j3 j4
                        go_wp2
                        go_roundw
                        case rel => exact ⟨k + 1, by omega, by go_num, congrArg (Value.int .i64) (by rw [NX.out]; simp [hE]), grown_trans G1.out (grown_below (below_regrown W1 dq osq) none)⟩
                        case measure => simp [intOf]; omega
                  · cases al
                    · go_upto_region 38 with fail
                      refine wp_region_quiet_below (by kernel_rfl) (by kernel_rfl) ?_
                      repeat (quiet_step (exact CAH.out _ _))
                      refine wpQuiet_nil ?_
                      intro _ hw'
                      obtain ⟨⟨dq, osq⟩, hw''⟩ := hw'
                      subst hw''
                      clear k0 k1 k2 k3 k4 j0 j1 j2 j3 j4
                      go_wp2
                      go_roundw
                      case rel => exact ⟨k + 1, by omega, by go_num, congrArg (Value.int .i64) (by rw [NX.out]; simp), grown_trans G1.out (grown_below (below_regrown W1 dq osq) none)⟩
                      case measure => simp [intOf]; omega
                    · go_upto_region 38 with fail
                      refine wp_region_quiet_below (by kernel_rfl) (by kernel_rfl) ?_
                      repeat (quiet_step (exact CAH.out _ _))
                      refine wpQuiet_nil ?_
                      intro _ hw'
                      obtain ⟨⟨dq, osq⟩, hw''⟩ := hw'
                      subst hw''
                      clear k0 k1 k2 k3 k4 j0 j1 j2 j3 j4
                      go_wp2
                      go_roundw
                      case rel => exact ⟨k + 1, by omega, by go_num, congrArg (Value.int .i64) (by rw [NX.out]; simp), grown_trans G1.out (grown_below (below_regrown W1 dq osq) none)⟩
                      case measure => simp [intOf]; omega
                · have hki' : k = i := by omega
                  subst hki'
                  have hE := cls_congr (MB_all (e := (8 + (N : Int) * 20)) (all := n) SI.out) (TB_all SI.out)
                  have EE := Lib.hid hE
                  have hz := S5.out.grown hgr
                  have s0 := hz.c0
                  have s1 := hz.c1
                  have s2 := hz.c2
                  have s3 := hz.c3
                  have s4 := hz.c4
                  have OA := Lib.hid ((own_grown O5.out hgr).alloc (.cells #[.int .u32 s.cpu, .int .u32 s.sub, .int .u64 s.off, .int .u64 s.size, .int .i64 s.align] 42))
                  have GR := Lib.hid (grown_trans (grown_trans K.out.grown G5.out) (grown_trans hgr (grown1 wr (.cells #[.int .u32 s.cpu, .int .u32 s.sub, .int .u64 s.off, .int .u64 s.size, .int .i64 s.align] 42))))
                  clear hz hgr hE
                  generalize cls (MB LL (8 + (N : Int) * 20) n k s k) (TB LL k s k) = E at *
                  go_wp2_with (at_builtin; refine wp_append_sl rfl _ _ rfl _ _ (entries false ys k) rfl OA.out s wr.heap.size rfl (SlAt.new wr s) (by omega) GR.out.size ?_)
                  intro v' w6 ho6 hg6
                  obtain ⟨q6, c6, rfl⟩ := own_slice ho6
                  have NO : ORel w w6 false ys N (.slice q6 (k + 1) c6) (.int .i64 E) (k + 1) := by
                    refine ⟨by omega, ?_, ?_, grown_own GR.out hg6 (fun g hg => (OA.out.lt g hg).1) (Nat.le_refl _)⟩
                    · rw [entries_succ, SE.out]; exact ho6
                    · rw [EE.out, HF.out, HLL.out, HNN.out]
                  have NX := Lib.hid NO
                  clear ho6 hg6 NO
                  go_wp2
                  go_roundw
                  case rel => exact ⟨k + 1, by go_num, NX.out⟩
                  case measure => simp [intOf]; omega
          · have hiN' : i = N := by omega
            subst hiN'
            have hE := cls_congr (bad_all (l := entries false ys i) (e := 8 + (i : Int) * (esize false : Nat)) (all := ys.length)) (twin_all (l := entries false ys i))
            rw [EL] at hE
            have HE := Lib.hid hE
            obtain ⟨hsl, hc1, hc2⟩ := IsSl.of_own EL K.out.own
            have SL := Lib.hid hsl
            rw [HE1.out.trans hE]
            clear hE hsl
            have R2 := R.out
            by_cases hbad : Bad (entries false ys i) (8 + (i : Int) * (esize false : Nat)) ys.length
            · rw [if_pos hbad] at R2
              have e4 : cls (Bad (entries false ys i) (8 + (i : Int) * (esize false : Nat)) ys.length) (Twin (entries false ys i)) = 4 := by unfold cls; rw [if_pos hbad]
              rw [e4]
              have R3 := Lib.hid R2
              clear R2 hbad e4
              go_wp2
              go_ret2
              rw [R3.out]
              exact slOut_nil K.out.grown
            · rw [if_neg hbad] at R2
              by_cases htw : Twin (entries false ys i)
              · rw [if_pos htw] at R2
                have e4 : cls (Bad (entries false ys i) (8 + (i : Int) * (esize false : Nat)) ys.length) (Twin (entries false ys i)) = 21 := by unfold cls; rw [if_neg hbad, if_pos htw]
                rw [e4]
                have R3 := Lib.hid R2
                clear R2 hbad htw e4
                go_wp2
                go_ret2
                rw [R3.out]
                exact slOut_nil K.out.grown
              · rw [if_neg htw] at R2
                have e4 : cls (Bad (entries false ys i) (8 + (i : Int) * (esize false : Nat)) ys.length) (Twin (entries false ys i)) = 0 := by unfold cls; rw [if_neg hbad, if_neg htw]
                rw [e4]
                have R3 := Lib.hid R2
                clear R2 hbad htw e4
                go_wp2
                go_ret2
                rw [R3.out]
                exact ⟨⟨qv, cv, by rw [EL]; rfl, SL.out, by rw [EL]; exact hc1, hc2⟩, K.out.grown⟩
end Go.Proofs.Ytdjakaiadggemaa
