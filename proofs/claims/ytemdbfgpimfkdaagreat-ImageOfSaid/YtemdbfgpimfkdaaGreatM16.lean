import Derived.Test.YtemdbfgpimfkdaaGreatM15
import Derived.Test.YtemdbfgpimfkdaaGreatM14
import Derived.Shelf.Abstract
/- Which segments may be, as the document has it: the walk. No condition but that numbers fit their types. -/
namespace Go.Proofs.YtemdbfgpimfkdaaGreat
open Go.RowKit
variable {w w' : World} {h : Hx} {s : St} {sv dv : Value} {n hd : Int}

set_option maxHeartbeats 4000000 in
set_option maxRecDepth 20000 in
theorem rsegments_any {l : List Sg} {qs : Option Addr} {cs : Nat} (k : ImgRows w s l qs cs) (hf : SegsFit s) (hn : U64 n) (_hh : U64 hd) :
    Calls Tryz.prog 24 #[imgV h s (.slice qs l.length cs) dv, .int .u64 n, .int .u64 hd] w fun e w' => e = .returned (.int .i64 (if segsOk s n hd = true then 0 else 8)) ∧ w.grownBy w' none := by
  have gB := grown1 w (.cells (imgArr h s (.slice qs l.length cs) dv) 32)
  have aA : ImgAt (w.alloc (.cells (imgArr h s (.slice qs l.length cs) dv) 32)) w.heap.size h s (.slice qs l.length cs) dv := heap_alloc_new w _
  obtain ⟨W, hW⟩ : ∃ W, w.alloc (.cells (imgArr h s (.slice qs l.length cs) dv) 32) = W := ⟨_, rfl⟩
  obtain ⟨b, hb⟩ : ∃ b, w.heap.size = b := ⟨_, rfl⟩
  rw [hW] at gB aA
  rw [hb] at aA
  have RW := Lib.hid (fun (V : World) (hg : W.grownBy V none) => (k.grown gB).row.grown hg)
  have G := Lib.hid gB
  have AA := Lib.hid aA
  have CP := Lib.hid k.cap
  have FW := Lib.hid k.few
  have FF := Lib.hid (fun (x : Sg) (hx : x ∈ l) => (k.fit hf hx).1)
  have NN := Lib.hid hn
  obtain ⟨r, hr⟩ : ∃ r : Int, r = if segsOk s n hd = true then 0 else 8 := ⟨_, rfl⟩
  rw [← hr]
  have R8 := Lib.hid (fun (hs : segsOk s n hd = false) => (show r = 8 by rw [hr, hs]; rfl))
  have NPR := Lib.hid (fun (x : Sg) (hx : x ∈ l) (hs : protOk x.seg = false) => R8.out (segs_prot k.segs hx hs))
  have NSZ := Lib.hid (fun (x : Sg) (hx : x ∈ l) (hs : sizeOk x.seg n = false) => R8.out (segs_size k.segs hx hs))
  have NRI := Lib.hid (fun (a b : Nat) (x y : Sg) (hab : a < b) (hx : l[a]? = some x) (hy : l[b]? = some y) (hs : ¬ RiseR x.seg y.seg) => R8.out (segs_rise k.segs hab hx hy hs))
  have RALL := Lib.hid (fun (f : FineS l n l.length) => (show r = if frontOk s.segs hd = true then 0 else 8 by rw [hr, segs_all k.segs f]))
  have FNO := Lib.hid (fun hz => front_none (hd := hd) k.segs hz)
  have FSO := Lib.hid (fun (a : Nat) (x : Sg) hz => front_some (hd := hd) (k := a) (x := x) k.segs hz)
  clear k gB aA hr hf hn _hh R8
  rw [show imgV h s (.slice qs l.length cs) dv = .agg (imgArr h s (.slice qs l.length cs) dv) from rfl]
  unfold imgArr at hW ⊢
  go_enter Tryz.func24, Tryz.ntmps24
  go_upto_region 1 with fail
  clear hW hb
  generalize Value.agg #[.int .i64 h.kd, .int .i64 h.sb, .int .u32 h.fl, .string (strOfNums s.name), .slice qs l.length cs, dv, .int .u64 s.rb.1, .int .u64 s.rb.2, .int .u64 s.bd.1, .int .u64 s.bd.2, .int .u64 s.wk.1, .int .u64 s.wk.2, .int .u64 s.lz.1, .int .u64 s.lz.2, .int .u64 s.tr.1, .int .u64 s.tr.2, .int .u64 s.ch.1, .int .u64 s.ch.2, .int .u64 s.sy.1, .int .u64 s.sy.2, .int .u64 s.st.1, .int .u64 s.st.2, .int .u64 s.entry, .bool s.has] = v0
  go_wp2
  go_loopw [7, 8] (fun fi i wr => ∃ (i1 : Nat) (F : Int), i1 ≤ l.length ∧ i = .int .i64 i1 ∧ fi = .int .i64 F ∧ W.grownBy wr none ∧ FineS l n i1 ∧ FirstOf l i1 F) (fun _ i _ => l.length - (intOf i).toNat)
  case atStart => exact ⟨0, -1, Nat.zero_le _, rfl, rfl, grown_refl _ _, FineS.zero l n, .inl ⟨rfl, fun j y h => by omega⟩⟩
  case round =>
    obtain ⟨i1, F, hi, rfl, rfl, hg, hfine, hfirst⟩ := hrel
    have FI := Lib.hid hfine
    have F1 := Lib.hid hfirst
    have G3 := Lib.hid hg
    have c4 := (AA.out.kept hg (by simp)).c 4 (.slice qs l.length cs) rfl
    have gl := lt_of_block (AA.out.kept hg (by simp))
    have hfw : l.length ≤ 9223372036854775807 := FW.out
    by_cases hlt : i1 < l.length
    · obtain ⟨x, hx⟩ : ∃ x, l[i1]? = some x := ⟨_, List.getElem?_eq_getElem hlt⟩
      obtain ⟨g, rfl, a0, a1, a2, a3, a4, a5, a6⟩ := (RW.out wr hg).at hx
      have hxm := List.mem_of_getElem? hx
      have HX := Lib.hid hx
      have dl : decide ((i1 : Int) < (l.length : Int)) = true := by simp; omega
      have hil : (i1 : Int) < (l.length : Int) := by omega
      have hcp : l.length ≤ cs := CP.out
      have NP := NPR.out x hxm
      have NS := NSZ.out x hxm
      have FX := FF.out x hxm
      have LD := Lib.hid (fun (V : World) => hole_any (w := V) x.seg x.q x.seg.secs.length x.c)
      obtain ⟨⟨nm, ad, sz, of, fs, pr, sl⟩, q1, c1⟩ := x
      simp only [] at a0 a1 a2 a3 a4 a5 a6 NP NS LD
      unfold segV segArr at LD
      obtain ⟨⟨f1, f2⟩, ⟨f3, f4⟩, ⟨f5, f6⟩, ⟨f7, f8⟩, f9, f10⟩ := (⟨FX.addr, FX.size, FX.off, FX.fsize, FX.prot⟩ : U64 ad ∧ U64 sz ∧ U64 of ∧ U64 fs ∧ (-9223372036854775808 ≤ pr ∧ pr ≤ 9223372036854775807))
      have g5 := grown_trans hg (grown1 wr (.cells #[.string (strOfNums nm), .int .u64 ad, .int .u64 sz, .int .u64 of, .int .u64 fs, .int .i64 pr, .slice q1 sl.length c1] 42))
      have p5 : SegAt (wr.alloc (.cells #[.string (strOfNums nm), .int .u64 ad, .int .u64 sz, .int .u64 of, .int .u64 fs, .int .i64 pr, .slice q1 sl.length c1] 42)) wr.heap.size ⟨nm, ad, sz, of, fs, pr, sl⟩ (.slice q1 sl.length c1) := heap_alloc_new wr _
      obtain ⟨wd, hwd⟩ : ∃ wd, wr.alloc (.cells #[.string (strOfNums nm), .int .u64 ad, .int .u64 sz, .int .u64 of, .int .u64 fs, .int .i64 pr, .slice q1 sl.length c1] 42) = wd := ⟨_, rfl⟩
      obtain ⟨pd, hpd⟩ : ∃ pd, wr.heap.size = pd := ⟨_, rfl⟩
      rw [hwd] at g5 p5
      rw [hpd] at p5
      have P5 := Lib.hid p5
      have G5 := Lib.hid g5
      clear hg hx g5 hxm FX hfine hfirst p5
      have NP := Lib.hid NP
      have NS := Lib.hid NS
      generalize hN : l.length = N at *
      have HN := Lib.hid hN
      clear hN
      go_upto_region 6 with fail
      clear hwd hpd
      obtain ⟨y0, y1, y2, y3, y4, y5, y6⟩ := P5.out.c
      have yl := P5.out.lt
      simp only [] at y0 y1 y2 y3 y4 y5
      by_cases hA : pr < 0
      · have NEQ := Lib.hid (NP.out (by unfold protOk; simp; omega))
        have dA : decide (pr < 0) = true := by simpa using hA
        clear f1 f2 f3 f4 f5 f6 f7 f8 f9 f10 hA
        go_wp2
        go_ret
        exact ⟨ret_int NEQ.out.symm, grown_trans G.out G5.out⟩

      have dA : decide (pr < 0) = false := by simpa using hA
      by_cases hB : 7 < pr
      · have NEQ := Lib.hid (NP.out (by unfold protOk; simp; omega))
        have dB : decide (7 < pr) = true := by simpa using hB
        clear f1 f2 f3 f4 f5 f6 f7 f8 f9 f10 hA hB
        go_wp2
        go_ret
        exact ⟨ret_int NEQ.out.symm, grown_trans G.out G5.out⟩

      have dB : decide (7 < pr) = false := by simpa using hB
      by_cases hC : pr = 0
      · have dC : (pr == 0) = true := by simpa using hC
        by_cases hD : fs = 0
        · have dD : (fs != 0) = false := by simpa using hD
          have POK := Lib.hid (show protOk ⟨nm, ad, sz, of, fs, pr, sl⟩ = true by unfold protOk; simp; omega)
          clear hA hB hC hD
          go_upto_region 8 with fail
          have ST := Lib.hid (show sizeOk ⟨nm, ad, sz, of, fs, pr, sl⟩ n = ((ad % 4096 == 0) && (sz % 4096 == 0) && decide (0 < sz) && decide (fs ≤ sz) && withinN of fs n && withinN ad sz 140737488355328) from rfl)
          have t1 : ad.tmod 4096 = ad % 4096 := Int.tmod_eq_emod_of_nonneg f1
          have t2 : sz.tmod 4096 = sz % 4096 := Int.tmod_eq_emod_of_nonneg f3
          obtain ⟨r1, hr1⟩ : ∃ r, ad % 4096 = r := ⟨_, rfl⟩
          obtain ⟨r2, hr2⟩ : ∃ r, sz % 4096 = r := ⟨_, rfl⟩
          have m1 : IntKind.u64.wrap r1 = r1 := by rw [IntKind.wrap_u64]; omega
          have m2 : IntKind.u64.wrap r2 = r2 := by rw [IntKind.wrap_u64]; omega
          have m3 : r1 % 18446744073709551616 = r1 := by omega
          have m4 : r2 % 18446744073709551616 = r2 := by omega
          rw [hr1] at t1
          rw [hr2] at t2
          rw [hr1, hr2] at ST
          have W1 := Lib.hid (fun w => withinR_any of fs n ⟨f5, f6⟩ ⟨f7, f8⟩ NN.out w)
          have W2 := Lib.hid (fun w => withinR_any ad sz 140737488355328 ⟨f1, f2⟩ ⟨f3, f4⟩ ⟨by decide, by decide⟩ w)
          obtain ⟨v1, hv1⟩ : ∃ v, v = withinN of fs n := ⟨_, rfl⟩
          obtain ⟨v2, hv2⟩ : ∃ v, v = withinN ad sz 140737488355328 := ⟨_, rfl⟩
          rw [← hv1] at W1 ST
          rw [← hv2] at W2 ST
          have H3 := Lib.hid f3
          clear hr1 hr2 hv1 hv2 f1 f2 f3 f4 f5 f6 f7 f8 f9 f10
          by_cases e1 : r1 = 0
          rotate_left
          · have NEQ := Lib.hid (NS.out (by rw [ST.out, show (r1 == 0) = false by simpa using e1]; rfl))
            have d1 : (r1 != 0) = true := by simpa using e1
            clear e1
            go_wp2
            go_ret
            exact ⟨ret_int NEQ.out.symm, grown_trans G.out G5.out⟩

          have d1 : (r1 != 0) = false := by simpa using e1
          rw [show (r1 == 0) = true by simpa using e1] at ST
          clear e1
          by_cases e2 : r2 = 0
          rotate_left
          · have NEQ := Lib.hid (NS.out (by rw [ST.out, show (r2 == 0) = false by simpa using e2]; rfl))
            have d2 : (r2 != 0) = true := by simpa using e2
            clear e2
            go_wp2
            go_ret
            exact ⟨ret_int NEQ.out.symm, grown_trans G.out G5.out⟩

          have d2 : (r2 != 0) = false := by simpa using e2
          rw [show (r2 == 0) = true by simpa using e2] at ST
          clear e2
          by_cases e3 : sz = 0
          · have NEQ := Lib.hid (NS.out (by rw [ST.out, show decide (0 < sz) = false by simp; omega]; rfl))
            have d3 : (sz == 0) = true := by simpa using e3
            clear e3
            go_wp2
            go_ret
            exact ⟨ret_int NEQ.out.symm, grown_trans G.out G5.out⟩

          have d3 : (sz == 0) = false := by simpa using e3
          rw [show decide (0 < sz) = true by have := H3.out; simp; omega] at ST
          clear e3
          by_cases e4 : sz < fs
          · have NEQ := Lib.hid (NS.out (by rw [ST.out, show decide (fs ≤ sz) = false by simp; omega]; rfl))
            have d4 : decide (sz < fs) = true := by simpa using e4
            clear e4
            go_wp2
            go_ret
            exact ⟨ret_int NEQ.out.symm, grown_trans G.out G5.out⟩

          have d4 : decide (sz < fs) = false := by simpa using e4
          rw [show decide (fs ≤ sz) = true by simp; omega] at ST
          clear e4
          cases v1
          · have NEQ := Lib.hid (NS.out (by rw [ST.out]; rfl))
            go_wp2_with fail
            refine (W1.out _).mono ?_
            rintro e w8 ⟨rfl, rfl⟩
            go_wp2
            go_ret
            exact ⟨ret_int NEQ.out.symm, grown_trans G.out G5.out⟩

          cases v2
          · have NEQ := Lib.hid (NS.out (by rw [ST.out]; rfl))
            go_wp2_with fail
            refine (W1.out _).mono ?_
            rintro e w8 ⟨rfl, rfl⟩
            go_wp2_with fail
            refine (W2.out _).mono ?_
            rintro e w8 ⟨rfl, rfl⟩
            go_wp2
            go_ret
            exact ⟨ret_int NEQ.out.symm, grown_trans G.out G5.out⟩

          have SOK := Lib.hid (show sizeOk ⟨nm, ad, sz, of, fs, pr, sl⟩ n = true by rw [ST.out]; rfl)
          go_wp2_with fail
          refine (W1.out _).mono ?_
          rintro e w8 ⟨rfl, rfl⟩
          go_wp2_with fail
          refine (W2.out _).mono ?_
          rintro e w8 ⟨rfl, rfl⟩
          clear ST W1 W2 d1 d2 d3 d4 t1 t2 m1 m2 m3 m4
          go_wp2_with fail
          go_loopw [10] (fun i wx => ∃ m : Nat, m ≤ i1 ∧ i = .int .i64 m ∧ wd.grownBy wx none ∧ ∀ a y, a < m → l[a]? = some y → RiseR y.seg ⟨nm, ad, sz, of, fs, pr, sl⟩) (fun i _ => i1 - (intOf i).toNat)
          case atStart => exact ⟨0, Nat.zero_le _, rfl, grown_refl _ _, fun a y ha => by omega⟩
          case round =>
            obtain ⟨m, hm, rfl, hg, hall⟩ := hrel
            have AL := Lib.hid hall
            have GH := Lib.hid hg
            have g6 := grown_trans G5.out hg
            have G6 := Lib.hid g6
            have P6 := Lib.hid (P5.out.kept hg (by simp))
            by_cases hmt : m < i1
            · obtain ⟨y, hy⟩ : ∃ y, l[m]? = some y := ⟨_, List.getElem?_eq_getElem (by rw [HN.out]; omega)⟩
              obtain ⟨g', hq', b0, b1, b2, b3, b4, b5, b6⟩ := (RW.out wr g6).at hy
              obtain rfl : g = g' := by injection hq' with e; injection e
              have c5 := (AA.out.kept g6 (by simp)).c 4 (.slice (some ⟨g, 0, none⟩) N cs) rfl
              have cl := lt_of_block (AA.out.kept g6 (by simp))
              have dm : decide ((m : Int) < (i1 : Int)) = true := by simp; omega
              have hml : (m : Int) < (N : Int) := by omega
              have HY := Lib.hid hy
              have SY := FI.out.size m y hmt hy
              have FY := FF.out y (List.mem_of_getElem? hy)
              have NR := Lib.hid (NRI.out m i1 y _ hmt hy HX.out)
              obtain ⟨⟨nm2, ad2, sz2, of2, fs2, pr2, sl2⟩, q2, c2⟩ := y
              simp only [] at b0 b1 b2 b3 b4 b5 b6
              have T2 : ad2 + sz2 ≤ 140737488355328 := by
                unfold sizeOk withinN at SY
                simp only [Bool.and_eq_true, decide_eq_true_eq] at SY
                exact SY.2
              have k1 : U64 ad2 := FY.addr
              have k2 : U64 sz2 := FY.size
              have k3 := k1.1
              have k4 := k2.1
              obtain ⟨E, hE⟩ : ∃ E, ad2 + sz2 = E := ⟨_, rfl⟩
              have HE := Lib.hid hE
              have m7 : (ad2 + sz2) % 18446744073709551616 = E := by omega
              have m8 : IntKind.u64.wrap (ad2 + sz2) = E := by rw [IntKind.wrap_u64]; exact m7
              have g7 := grown1 wr (.cells #[.string (strOfNums nm2), .int .u64 ad2, .int .u64 sz2, .int .u64 of2, .int .u64 fs2, .int .i64 pr2, .slice q2 sl2.length c2] 42)
              have q7 : SegAt (wr.alloc (.cells #[.string (strOfNums nm2), .int .u64 ad2, .int .u64 sz2, .int .u64 of2, .int .u64 fs2, .int .i64 pr2, .slice q2 sl2.length c2] 42)) wr.heap.size ⟨nm2, ad2, sz2, of2, fs2, pr2, sl2⟩ (.slice q2 sl2.length c2) := heap_alloc_new wr _
              have p7 := P6.out.kept g7 (by simp)
              obtain ⟨wx, hwx⟩ : ∃ wx, wr.alloc (.cells #[.string (strOfNums nm2), .int .u64 ad2, .int .u64 sz2, .int .u64 of2, .int .u64 fs2, .int .i64 pr2, .slice q2 sl2.length c2] 42) = wx := ⟨_, rfl⟩
              obtain ⟨px, hpx⟩ : ∃ px, wr.heap.size = px := ⟨_, rfl⟩
              rw [hwx] at g7 q7 p7
              rw [hpx] at q7
              have GX := Lib.hid (grown_trans hg g7)
              have GY := Lib.hid (grown_trans g6 g7)
              have Q7 := Lib.hid q7
              have P7 := Lib.hid p7
              clear hg hall g6 hy SY FY k1 k2 k3 k4 hE T2 g7 q7 p7 hq'
              go_upto_region 14 with fail
              clear hwx hpx
              obtain ⟨y0, y1, y2, y3, y4, y5, y6⟩ := P7.out.c
              obtain ⟨t0, t1, t2, t3, t4, t5, t6⟩ := Q7.out.c
              have yl := P7.out.lt
              have tl := Q7.out.lt
              simp only [] at y0 y1 y2 y3 y4 y5 t0 t1 t2 t3 t4 t5
              by_cases hnp : (strOfNums nm2).toList = (strOfNums nm).toList
              rotate_left
              · have hnn : ((strOfNums nm2).toList == (strOfNums nm).toList) = false := by simpa using hnp
                cases hae : decide (ad < E)
                · have YES : RiseR ⟨nm2, ad2, sz2, of2, fs2, pr2, sl2⟩ ⟨nm, ad, sz, of, fs, pr, sl⟩ := by
                    refine ⟨by unfold nmOf; exact hnp, ?_⟩
                    have := of_decide_eq_false hae
                    have := HE.out
                    simp only []
                    omega
                  go_wp2
                  go_roundw
                  case rel =>
                    refine ⟨m + 1, hmt, by go_num, GX.out, fun a y ha hay => ?_⟩
                    rcases Nat.lt_or_ge a m with e1 | e1
                    · exact AL.out a y e1 hay
                    · obtain rfl : a = m := by omega
                      rw [HY.out] at hay
                      injection hay with hay
                      rw [← hay]; exact YES
                  case measure => simp [intOf]; omega
                · have NEQ := Lib.hid (NR.out (fun hz => by
                    have := of_decide_eq_true hae
                    have := HE.out
                    have := hz.2
                    simp only [] at this
                    omega))
                  go_wp2
                  go_ret
                  exact ⟨ret_int NEQ.out.symm, grown_trans G.out GY.out⟩
              · have hnn : ((strOfNums nm2).toList == (strOfNums nm).toList) = true := by simpa using hnp
                have NEQ := Lib.hid (NR.out (fun hz => hz.1 (by unfold nmOf; exact hnp)))
                go_wp2
                go_ret
                exact ⟨ret_int NEQ.out.symm, grown_trans G.out GY.out⟩
            · have hm' : m = i1 := by omega
              subst hm'
              have dm : decide ((m : Int) < (m : Int)) = false := by simp
              obtain ⟨y0, y1, y2, y3, y4, y5, y6⟩ := P6.out.c
              have yl := P6.out.lt
              simp only [] at y0 y1 y2 y3 y4 y5
              have FN := Lib.hid (FI.out.next HX.out POK.out SOK.out hall)
              clear hg hall g6
              rcases F1.out with ⟨rfl, hno⟩ | ⟨a, z, rfl, ha, hz, hlz, hno⟩
              · have NO := Lib.hid hno
                clear hno
                obtain ⟨bx, hbx⟩ : ∃ bx, bx = laidS ⟨nm, ad, sz, of, fs, pr, sl⟩ := ⟨_, rfl⟩
                rw [← hbx] at LD
                have HB := Lib.hid hbx
                clear hbx
                go_wp2_with fail
                refine (LD.out _).mono ?_
                rintro e w8 ⟨rfl, hg8⟩
                have G8 := Lib.hid (grown_trans G6.out hg8)
                clear hg8
                cases bx
                · go_wp2
                  go_roundw
                  case rel =>
                    refine ⟨m + 1, -1, hlt, by go_num, rfl, G8.out, FN.out, .inl ⟨rfl, fun j y hj hjy => ?_⟩⟩
                    rcases Nat.lt_or_ge j m with e1 | e1
                    · exact NO.out j y e1 hjy
                    · obtain rfl : j = m := by omega
                      rw [HX.out] at hjy
                      injection hjy with hjy
                      rw [← hjy]; exact HB.out.symm
                  case measure => simp [intOf]; omega
                · go_wp2
                  go_roundw
                  case rel => exact ⟨m + 1, m, hlt, by go_num, rfl, G8.out, FN.out, .inr ⟨m, _, rfl, Nat.lt_succ_self m, HX.out, HB.out.symm, NO.out⟩⟩
                  case measure => simp [intOf]; omega
              · have NO := Lib.hid hno
                have HZ := Lib.hid hz
                have HL := Lib.hid hlz
                have da : decide ((a : Int) < 0) = false := by simp
                clear hno hz hlz
                go_wp2
                go_roundw
                case rel => exact ⟨m + 1, a, hlt, by go_num, rfl, G6.out, FN.out, .inr ⟨a, z, rfl, Nat.lt_succ_of_lt ha, HZ.out, HL.out, NO.out⟩⟩
                case measure => simp [intOf]; omega
        · have NEQ := Lib.hid (NP.out (by unfold protOk; simp; omega))
          have dD : (fs != 0) = true := by simpa using hD
          clear f1 f2 f3 f4 f5 f6 f7 f8 f9 f10 hA hB hC hD
          go_wp2
          go_ret
          exact ⟨ret_int NEQ.out.symm, grown_trans G.out G5.out⟩

      · have dC : (pr == 0) = false := by simpa using hC
        have POK := Lib.hid (show protOk ⟨nm, ad, sz, of, fs, pr, sl⟩ = true by unfold protOk; simp; omega)
        clear hA hB hC
        go_upto_region 8 with fail
        have ST := Lib.hid (show sizeOk ⟨nm, ad, sz, of, fs, pr, sl⟩ n = ((ad % 4096 == 0) && (sz % 4096 == 0) && decide (0 < sz) && decide (fs ≤ sz) && withinN of fs n && withinN ad sz 140737488355328) from rfl)
        have t1 : ad.tmod 4096 = ad % 4096 := Int.tmod_eq_emod_of_nonneg f1
        have t2 : sz.tmod 4096 = sz % 4096 := Int.tmod_eq_emod_of_nonneg f3
        obtain ⟨r1, hr1⟩ : ∃ r, ad % 4096 = r := ⟨_, rfl⟩
        obtain ⟨r2, hr2⟩ : ∃ r, sz % 4096 = r := ⟨_, rfl⟩
        have m1 : IntKind.u64.wrap r1 = r1 := by rw [IntKind.wrap_u64]; omega
        have m2 : IntKind.u64.wrap r2 = r2 := by rw [IntKind.wrap_u64]; omega
        have m3 : r1 % 18446744073709551616 = r1 := by omega
        have m4 : r2 % 18446744073709551616 = r2 := by omega
        rw [hr1] at t1
        rw [hr2] at t2
        rw [hr1, hr2] at ST
        have W1 := Lib.hid (fun w => withinR_any of fs n ⟨f5, f6⟩ ⟨f7, f8⟩ NN.out w)
        have W2 := Lib.hid (fun w => withinR_any ad sz 140737488355328 ⟨f1, f2⟩ ⟨f3, f4⟩ ⟨by decide, by decide⟩ w)
        obtain ⟨v1, hv1⟩ : ∃ v, v = withinN of fs n := ⟨_, rfl⟩
        obtain ⟨v2, hv2⟩ : ∃ v, v = withinN ad sz 140737488355328 := ⟨_, rfl⟩
        rw [← hv1] at W1 ST
        rw [← hv2] at W2 ST
        have H3 := Lib.hid f3
        clear hr1 hr2 hv1 hv2 f1 f2 f3 f4 f5 f6 f7 f8 f9 f10
        by_cases e1 : r1 = 0
        rotate_left
        · have NEQ := Lib.hid (NS.out (by rw [ST.out, show (r1 == 0) = false by simpa using e1]; rfl))
          have d1 : (r1 != 0) = true := by simpa using e1
          clear e1
          go_wp2
          go_ret
          exact ⟨ret_int NEQ.out.symm, grown_trans G.out G5.out⟩

        have d1 : (r1 != 0) = false := by simpa using e1
        rw [show (r1 == 0) = true by simpa using e1] at ST
        clear e1
        by_cases e2 : r2 = 0
        rotate_left
        · have NEQ := Lib.hid (NS.out (by rw [ST.out, show (r2 == 0) = false by simpa using e2]; rfl))
          have d2 : (r2 != 0) = true := by simpa using e2
          clear e2
          go_wp2
          go_ret
          exact ⟨ret_int NEQ.out.symm, grown_trans G.out G5.out⟩

        have d2 : (r2 != 0) = false := by simpa using e2
        rw [show (r2 == 0) = true by simpa using e2] at ST
        clear e2
        by_cases e3 : sz = 0
        · have NEQ := Lib.hid (NS.out (by rw [ST.out, show decide (0 < sz) = false by simp; omega]; rfl))
          have d3 : (sz == 0) = true := by simpa using e3
          clear e3
          go_wp2
          go_ret
          exact ⟨ret_int NEQ.out.symm, grown_trans G.out G5.out⟩

        have d3 : (sz == 0) = false := by simpa using e3
        rw [show decide (0 < sz) = true by have := H3.out; simp; omega] at ST
        clear e3
        by_cases e4 : sz < fs
        · have NEQ := Lib.hid (NS.out (by rw [ST.out, show decide (fs ≤ sz) = false by simp; omega]; rfl))
          have d4 : decide (sz < fs) = true := by simpa using e4
          clear e4
          go_wp2
          go_ret
          exact ⟨ret_int NEQ.out.symm, grown_trans G.out G5.out⟩

        have d4 : decide (sz < fs) = false := by simpa using e4
        rw [show decide (fs ≤ sz) = true by simp; omega] at ST
        clear e4
        cases v1
        · have NEQ := Lib.hid (NS.out (by rw [ST.out]; rfl))
          go_wp2_with fail
          refine (W1.out _).mono ?_
          rintro e w8 ⟨rfl, rfl⟩
          go_wp2
          go_ret
          exact ⟨ret_int NEQ.out.symm, grown_trans G.out G5.out⟩

        cases v2
        · have NEQ := Lib.hid (NS.out (by rw [ST.out]; rfl))
          go_wp2_with fail
          refine (W1.out _).mono ?_
          rintro e w8 ⟨rfl, rfl⟩
          go_wp2_with fail
          refine (W2.out _).mono ?_
          rintro e w8 ⟨rfl, rfl⟩
          go_wp2
          go_ret
          exact ⟨ret_int NEQ.out.symm, grown_trans G.out G5.out⟩

        have SOK := Lib.hid (show sizeOk ⟨nm, ad, sz, of, fs, pr, sl⟩ n = true by rw [ST.out]; rfl)
        go_wp2_with fail
        refine (W1.out _).mono ?_
        rintro e w8 ⟨rfl, rfl⟩
        go_wp2_with fail
        refine (W2.out _).mono ?_
        rintro e w8 ⟨rfl, rfl⟩
        clear ST W1 W2 d1 d2 d3 d4 t1 t2 m1 m2 m3 m4
        go_wp2_with fail
        go_loopw [10] (fun i wx => ∃ m : Nat, m ≤ i1 ∧ i = .int .i64 m ∧ wd.grownBy wx none ∧ ∀ a y, a < m → l[a]? = some y → RiseR y.seg ⟨nm, ad, sz, of, fs, pr, sl⟩) (fun i _ => i1 - (intOf i).toNat)
        case atStart => exact ⟨0, Nat.zero_le _, rfl, grown_refl _ _, fun a y ha => by omega⟩
        case round =>
          obtain ⟨m, hm, rfl, hg, hall⟩ := hrel
          have AL := Lib.hid hall
          have GH := Lib.hid hg
          have g6 := grown_trans G5.out hg
          have G6 := Lib.hid g6
          have P6 := Lib.hid (P5.out.kept hg (by simp))
          by_cases hmt : m < i1
          · obtain ⟨y, hy⟩ : ∃ y, l[m]? = some y := ⟨_, List.getElem?_eq_getElem (by rw [HN.out]; omega)⟩
            obtain ⟨g', hq', b0, b1, b2, b3, b4, b5, b6⟩ := (RW.out wr g6).at hy
            obtain rfl : g = g' := by injection hq' with e; injection e
            have c5 := (AA.out.kept g6 (by simp)).c 4 (.slice (some ⟨g, 0, none⟩) N cs) rfl
            have cl := lt_of_block (AA.out.kept g6 (by simp))
            have dm : decide ((m : Int) < (i1 : Int)) = true := by simp; omega
            have hml : (m : Int) < (N : Int) := by omega
            have HY := Lib.hid hy
            have SY := FI.out.size m y hmt hy
            have FY := FF.out y (List.mem_of_getElem? hy)
            have NR := Lib.hid (NRI.out m i1 y _ hmt hy HX.out)
            obtain ⟨⟨nm2, ad2, sz2, of2, fs2, pr2, sl2⟩, q2, c2⟩ := y
            simp only [] at b0 b1 b2 b3 b4 b5 b6
            have T2 : ad2 + sz2 ≤ 140737488355328 := by
              unfold sizeOk withinN at SY
              simp only [Bool.and_eq_true, decide_eq_true_eq] at SY
              exact SY.2
            have k1 : U64 ad2 := FY.addr
            have k2 : U64 sz2 := FY.size
            have k3 := k1.1
            have k4 := k2.1
            obtain ⟨E, hE⟩ : ∃ E, ad2 + sz2 = E := ⟨_, rfl⟩
            have HE := Lib.hid hE
            have m7 : (ad2 + sz2) % 18446744073709551616 = E := by omega
            have m8 : IntKind.u64.wrap (ad2 + sz2) = E := by rw [IntKind.wrap_u64]; exact m7
            have g7 := grown1 wr (.cells #[.string (strOfNums nm2), .int .u64 ad2, .int .u64 sz2, .int .u64 of2, .int .u64 fs2, .int .i64 pr2, .slice q2 sl2.length c2] 42)
            have q7 : SegAt (wr.alloc (.cells #[.string (strOfNums nm2), .int .u64 ad2, .int .u64 sz2, .int .u64 of2, .int .u64 fs2, .int .i64 pr2, .slice q2 sl2.length c2] 42)) wr.heap.size ⟨nm2, ad2, sz2, of2, fs2, pr2, sl2⟩ (.slice q2 sl2.length c2) := heap_alloc_new wr _
            have p7 := P6.out.kept g7 (by simp)
            obtain ⟨wx, hwx⟩ : ∃ wx, wr.alloc (.cells #[.string (strOfNums nm2), .int .u64 ad2, .int .u64 sz2, .int .u64 of2, .int .u64 fs2, .int .i64 pr2, .slice q2 sl2.length c2] 42) = wx := ⟨_, rfl⟩
            obtain ⟨px, hpx⟩ : ∃ px, wr.heap.size = px := ⟨_, rfl⟩
            rw [hwx] at g7 q7 p7
            rw [hpx] at q7
            have GX := Lib.hid (grown_trans hg g7)
            have GY := Lib.hid (grown_trans g6 g7)
            have Q7 := Lib.hid q7
            have P7 := Lib.hid p7
            clear hg hall g6 hy SY FY k1 k2 k3 k4 hE T2 g7 q7 p7 hq'
            go_upto_region 14 with fail
            clear hwx hpx
            obtain ⟨y0, y1, y2, y3, y4, y5, y6⟩ := P7.out.c
            obtain ⟨t0, t1, t2, t3, t4, t5, t6⟩ := Q7.out.c
            have yl := P7.out.lt
            have tl := Q7.out.lt
            simp only [] at y0 y1 y2 y3 y4 y5 t0 t1 t2 t3 t4 t5
            by_cases hnp : (strOfNums nm2).toList = (strOfNums nm).toList
            rotate_left
            · have hnn : ((strOfNums nm2).toList == (strOfNums nm).toList) = false := by simpa using hnp
              cases hae : decide (ad < E)
              · have YES : RiseR ⟨nm2, ad2, sz2, of2, fs2, pr2, sl2⟩ ⟨nm, ad, sz, of, fs, pr, sl⟩ := by
                  refine ⟨by unfold nmOf; exact hnp, ?_⟩
                  have := of_decide_eq_false hae
                  have := HE.out
                  simp only []
                  omega
                go_wp2
                go_roundw
                case rel =>
                  refine ⟨m + 1, hmt, by go_num, GX.out, fun a y ha hay => ?_⟩
                  rcases Nat.lt_or_ge a m with e1 | e1
                  · exact AL.out a y e1 hay
                  · obtain rfl : a = m := by omega
                    rw [HY.out] at hay
                    injection hay with hay
                    rw [← hay]; exact YES
                case measure => simp [intOf]; omega
              · have NEQ := Lib.hid (NR.out (fun hz => by
                  have := of_decide_eq_true hae
                  have := HE.out
                  have := hz.2
                  simp only [] at this
                  omega))
                go_wp2
                go_ret
                exact ⟨ret_int NEQ.out.symm, grown_trans G.out GY.out⟩
            · have hnn : ((strOfNums nm2).toList == (strOfNums nm).toList) = true := by simpa using hnp
              have NEQ := Lib.hid (NR.out (fun hz => hz.1 (by unfold nmOf; exact hnp)))
              go_wp2
              go_ret
              exact ⟨ret_int NEQ.out.symm, grown_trans G.out GY.out⟩
          · have hm' : m = i1 := by omega
            subst hm'
            have dm : decide ((m : Int) < (m : Int)) = false := by simp
            obtain ⟨y0, y1, y2, y3, y4, y5, y6⟩ := P6.out.c
            have yl := P6.out.lt
            simp only [] at y0 y1 y2 y3 y4 y5
            have FN := Lib.hid (FI.out.next HX.out POK.out SOK.out hall)
            clear hg hall g6
            rcases F1.out with ⟨rfl, hno⟩ | ⟨a, z, rfl, ha, hz, hlz, hno⟩
            · have NO := Lib.hid hno
              clear hno
              obtain ⟨bx, hbx⟩ : ∃ bx, bx = laidS ⟨nm, ad, sz, of, fs, pr, sl⟩ := ⟨_, rfl⟩
              rw [← hbx] at LD
              have HB := Lib.hid hbx
              clear hbx
              go_wp2_with fail
              refine (LD.out _).mono ?_
              rintro e w8 ⟨rfl, hg8⟩
              have G8 := Lib.hid (grown_trans G6.out hg8)
              clear hg8
              cases bx
              · go_wp2
                go_roundw
                case rel =>
                  refine ⟨m + 1, -1, hlt, by go_num, rfl, G8.out, FN.out, .inl ⟨rfl, fun j y hj hjy => ?_⟩⟩
                  rcases Nat.lt_or_ge j m with e1 | e1
                  · exact NO.out j y e1 hjy
                  · obtain rfl : j = m := by omega
                    rw [HX.out] at hjy
                    injection hjy with hjy
                    rw [← hjy]; exact HB.out.symm
                case measure => simp [intOf]; omega
              · go_wp2
                go_roundw
                case rel => exact ⟨m + 1, m, hlt, by go_num, rfl, G8.out, FN.out, .inr ⟨m, _, rfl, Nat.lt_succ_self m, HX.out, HB.out.symm, NO.out⟩⟩
                case measure => simp [intOf]; omega
            · have NO := Lib.hid hno
              have HZ := Lib.hid hz
              have HL := Lib.hid hlz
              have da : decide ((a : Int) < 0) = false := by simp
              clear hno hz hlz
              go_wp2
              go_roundw
              case rel => exact ⟨m + 1, a, hlt, by go_num, rfl, G6.out, FN.out, .inr ⟨a, z, rfl, Nat.lt_succ_of_lt ha, HZ.out, HL.out, NO.out⟩⟩
              case measure => simp [intOf]; omega
    · have hi' : i1 = l.length := by omega
      subst hi'
      have dl : decide ((l.length : Int) < (l.length : Int)) = false := by simp
      have RA := Lib.hid (RALL.out hfine)
      rcases hfirst with ⟨rfl, hno⟩ | ⟨a, z, rfl, ha, hz, hlz, hno⟩
      · have NEQ := Lib.hid (show r = 8 from by rw [RA.out, FNO.out hno]; rfl)
        clear hg hno hfine
        generalize l.length = N at *
        go_wp2
        go_ret
        exact ⟨ret_int NEQ.out.symm, grown_trans G.out G3.out⟩
      · have FZ := Lib.hid (FSO.out a z hno hz hlz)
        obtain ⟨g, rfl, a0, a1, a2, a3, a4, a5, a6⟩ := (RW.out wr hg).at hz
        have PZ := FI.out.prot a z ha hz
        have da : decide ((a : Int) < 0) = false := by simp
        have hcp : l.length ≤ cs := CP.out
        have hal : (a : Int) < (l.length : Int) := by omega
        obtain ⟨⟨nm, ad, sz, of, fs, pr, sl⟩, q1, c1⟩ := z
        simp only [] at a0 a1 a2 a3 a4 a5 a6
        have HP : 0 ≤ pr ∧ pr ≤ 7 := by unfold protOk at PZ; simp at PZ; omega
        have g5 := grown_trans hg (grown1 wr (.cells #[.string (strOfNums nm), .int .u64 ad, .int .u64 sz, .int .u64 of, .int .u64 fs, .int .i64 pr, .slice q1 sl.length c1] 42))
        have p5 : SegAt (wr.alloc (.cells #[.string (strOfNums nm), .int .u64 ad, .int .u64 sz, .int .u64 of, .int .u64 fs, .int .i64 pr, .slice q1 sl.length c1] 42)) wr.heap.size ⟨nm, ad, sz, of, fs, pr, sl⟩ (.slice q1 sl.length c1) := heap_alloc_new wr _
        obtain ⟨wd, hwd⟩ : ∃ wd, wr.alloc (.cells #[.string (strOfNums nm), .int .u64 ad, .int .u64 sz, .int .u64 of, .int .u64 fs, .int .i64 pr, .slice q1 sl.length c1] 42) = wd := ⟨_, rfl⟩
        obtain ⟨pd, hpd⟩ : ∃ pd, wr.heap.size = pd := ⟨_, rfl⟩
        rw [hwd] at g5 p5
        rw [hpd] at p5
        have P5 := Lib.hid p5
        have G5 := Lib.hid g5
        have FZ2 : r = if ((of == 0) && decide (hd ≤ fs) && (pr % 2 == 1) && !wrOk ⟨nm, ad, sz, of, fs, pr, sl⟩) = true then 0 else 8 := by rw [RA.out, FZ.out]
        have FZ := Lib.hid FZ2
        clear hg hno hfine hz hlz PZ g5 p5 RA FZ2
        generalize l.length = N at *
        go_upto_region 21 with fail
        clear hwd hpd
        obtain ⟨y0, y1, y2, y3, y4, y5, y6⟩ := P5.out.c
        have yl := P5.out.lt
        simp only [] at y0 y1 y2 y3 y4 y5
        by_cases e1 : of = 0
        rotate_left
        · have NEQ := Lib.hid (show r = 8 from by rw [FZ.out, show (of == 0) = false by simpa using e1]; rfl)
          have d1 : (of != 0) = true := by simpa using e1
          clear e1
          go_wp2
          go_ret
          exact ⟨ret_int NEQ.out.symm, grown_trans G.out G5.out⟩

        have d1 : (of != 0) = false := by simpa using e1
        by_cases e2 : fs < hd
        · have NEQ := Lib.hid (show r = 8 from by rw [FZ.out, show decide (hd ≤ fs) = false by simp; omega]; simp)
          have d2 : decide (fs < hd) = true := by simpa using e2
          clear e1 e2
          go_wp2
          go_ret
          exact ⟨ret_int NEQ.out.symm, grown_trans G.out G5.out⟩

        have d2 : decide (fs < hd) = false := by simpa using e2
        have FZ3 : r = if ((pr % 2 == 1) && !wrOk ⟨nm, ad, sz, of, fs, pr, sl⟩) = true then 0 else 8 := by rw [FZ.out, show (of == 0) = true by simpa using e1, show decide (hd ≤ fs) = true by simp; omega]; rfl
        clear e1 e2 FZ
        rcases (show pr = 0 ∨ pr = 1 ∨ pr = 2 ∨ pr = 3 ∨ pr = 4 ∨ pr = 5 ∨ pr = 6 ∨ pr = 7 by omega) with rfl | rfl | rfl | rfl | rfl | rfl | rfl | rfl
        · have NEQ := Lib.hid (show r = 8 from by rw [FZ3]; rfl)
          clear FZ3 HP
          go_wp2
          go_ret
          exact ⟨ret_int NEQ.out.symm, grown_trans G.out G5.out⟩
        · have NEQ := Lib.hid (show r = 0 from by rw [FZ3]; rfl)
          clear FZ3 HP
          go_wp2
          go_ret
          exact ⟨ret_int NEQ.out.symm, grown_trans G.out G5.out⟩
        · have NEQ := Lib.hid (show r = 8 from by rw [FZ3]; rfl)
          clear FZ3 HP
          go_wp2
          go_ret
          exact ⟨ret_int NEQ.out.symm, grown_trans G.out G5.out⟩
        · have NEQ := Lib.hid (show r = 8 from by rw [FZ3]; rfl)
          clear FZ3 HP
          go_wp2
          go_ret
          exact ⟨ret_int NEQ.out.symm, grown_trans G.out G5.out⟩
        · have NEQ := Lib.hid (show r = 8 from by rw [FZ3]; rfl)
          clear FZ3 HP
          go_wp2
          go_ret
          exact ⟨ret_int NEQ.out.symm, grown_trans G.out G5.out⟩
        · have NEQ := Lib.hid (show r = 0 from by rw [FZ3]; rfl)
          clear FZ3 HP
          go_wp2
          go_ret
          exact ⟨ret_int NEQ.out.symm, grown_trans G.out G5.out⟩
        · have NEQ := Lib.hid (show r = 8 from by rw [FZ3]; rfl)
          clear FZ3 HP
          go_wp2
          go_ret
          exact ⟨ret_int NEQ.out.symm, grown_trans G.out G5.out⟩
        · have NEQ := Lib.hid (show r = 8 from by rw [FZ3]; rfl)
          clear FZ3 HP
          go_wp2
          go_ret
          exact ⟨ret_int NEQ.out.symm, grown_trans G.out G5.out⟩
end Go.Proofs.YtemdbfgpimfkdaaGreat

/- Which images may be, as the document has it: the whole. No condition but that numbers fit their types. -/
namespace Go.Proofs.YtemdbfgpimfkdaaGreat
open Go.RowKit Go.Sort
variable {w w' : World} {h : Hx} {s : St} {sv dv : Value} {n hd : Int}

theorem run_loadImg0 {g : Nat} (k : ImgAt w g h s sv dv) : (loadVar 32 ⟨g, 0, none⟩).run Tryz.prog w = .ok (imgV h s sv dv) w :=
  run_loadVar_row w g _ _ _ _ _ k Tryz.underlying32 rfl (by kernel_rfl)
set_option maxHeartbeats 4000000 in
set_option maxRecDepth 20000 in
theorem rMay_any {l : List Sg} {qs : Option Addr} {cs : Nat} (k : ImgRows w s l qs cs) (hf : SegsFit s) (hs : SpFit s) (hn : U64 n) (hh : U64 hd) (hcap : ∀ x ∈ l, x.seg.secs.length ≤ x.c) :
    Calls Tryz.prog 15 #[imgV h s (.slice qs l.length cs) dv, .int .u64 n, .int .u64 hd] w fun e w' => e = .returned (.int .i64 (mayN h s n hd)) ∧ w.grownBy w' none := by
  have gB := grown1 w (.cells (imgArr h s (.slice qs l.length cs) dv) 32)
  have aA : ImgAt (w.alloc (.cells (imgArr h s (.slice qs l.length cs) dv) 32)) w.heap.size h s (.slice qs l.length cs) dv := heap_alloc_new w _
  obtain ⟨W, hW⟩ : ∃ W, w.alloc (.cells (imgArr h s (.slice qs l.length cs) dv) 32) = W := ⟨_, rfl⟩
  obtain ⟨b, hb⟩ : ∃ b, w.heap.size = b := ⟨_, rfl⟩
  rw [hW] at gB aA
  rw [hb] at aA
  have IA := Lib.hid aA
  have G := Lib.hid gB
  have SG := Lib.hid (rsegments_any (dv := dv) (h := h) (k.grown gB) hf hn hh)
  have SC := Lib.hid (fun (V : World) (hg : W.grownBy V none) (hz : segsOk s n hd = true) => rsections_any (dv := dv) (h := h) ((k.grown gB).grown hg) hf (fun x hx => (by
    unfold segsOk at hz
    simp only [Bool.and_eq_true] at hz
    have := List.all_eq_true.1 hz.1.1.2 x hx
    unfold sizeOk at this
    simp only [Bool.and_eq_true, decide_eq_true_eq] at this
    exact this.1.1.2)) hcap)
  have KK := Lib.hid (fun (V : World) (hg : W.grownBy V none) => (k.grown gB).grown hg)
  have SP := Lib.hid hs
  have NN := Lib.hid hn
  obtain ⟨r, hr⟩ : ∃ r, r = mayN h s n hd := ⟨_, rfl⟩
  rw [← hr]
  unfold mayN at hr
  clear k gB aA hf hs hn hh hcap
  rw [show imgV h s (.slice qs l.length cs) dv = .agg (imgArr h s (.slice qs l.length cs) dv) from rfl]
  unfold imgArr at hW ⊢
  go_enter Tryz.func15, Tryz.ntmps15
  go_upto_region 1 with fail
  clear hW hb
  generalize Value.agg #[.int .i64 h.kd, .int .i64 h.sb, .int .u32 h.fl, .string (strOfNums s.name), .slice qs l.length cs, dv, .int .u64 s.rb.1, .int .u64 s.rb.2, .int .u64 s.bd.1, .int .u64 s.bd.2, .int .u64 s.wk.1, .int .u64 s.wk.2, .int .u64 s.lz.1, .int .u64 s.lz.2, .int .u64 s.tr.1, .int .u64 s.tr.2, .int .u64 s.ch.1, .int .u64 s.ch.2, .int .u64 s.sy.1, .int .u64 s.sy.2, .int .u64 s.st.1, .int .u64 s.st.2, .int .u64 s.entry, .bool s.has] = v0
  go_wp2_with (first | refine wpList_load_imgI rfl _ rfl rfl IA.out ?_ | fail)
  refine SG.out.mono ?_
  rintro e w2 ⟨rfl, hg2⟩
  have G2 := Lib.hid hg2
  clear SG
  cases hso : segsOk s n hd
  · have HR := Lib.hid (hr.trans (by rw [hso]; rfl) : r = 8)
    clear hr hg2
    rw [if_neg (by decide)]
    go_wp2
    go_ret
    exact ⟨ret_int HR.out.symm, grown_trans G.out G2.out⟩
  rw [hso, if_neg (by decide)] at hr
  rw [if_pos rfl]
  have I2 := Lib.hid (IA.out.kept hg2 (by simp))
  have S2 := Lib.hid (SC.out w2 hg2 hso)
  clear hg2 SC
  go_wp2_with (first | refine wpList_load_imgI rfl _ rfl rfl I2.out ?_ | fail)
  refine S2.out.mono ?_
  rintro e w3 ⟨rfl, hg3⟩
  have G3 := Lib.hid (grown_trans G2.out hg3)
  clear S2
  cases hsc : secsOk s
  · have HR := Lib.hid (hr.trans (by rw [hsc]; rfl) : r = 9)
    clear hr hg3
    rw [if_neg (by decide)]
    go_wp2
    go_ret
    exact ⟨ret_int HR.out.symm, grown_trans G.out G3.out⟩
  rw [hsc, if_neg (by decide)] at hr
  rw [if_pos rfl]
  have I3 := I2.out.kept hg3 (by simp)
  clear hg3 I2
  have HR := Lib.hid hr
  clear hr
  have c6 := I3.c 6 (.int .u64 s.rb.1) rfl
  have c7 := I3.c 7 (.int .u64 s.rb.2) rfl
  have c8 := I3.c 8 (.int .u64 s.bd.1) rfl
  have c9 := I3.c 9 (.int .u64 s.bd.2) rfl
  have c10 := I3.c 10 (.int .u64 s.wk.1) rfl
  have c11 := I3.c 11 (.int .u64 s.wk.2) rfl
  have c12 := I3.c 12 (.int .u64 s.lz.1) rfl
  have c13 := I3.c 13 (.int .u64 s.lz.2) rfl
  have c14 := I3.c 14 (.int .u64 s.tr.1) rfl
  have c15 := I3.c 15 (.int .u64 s.tr.2) rfl
  have c16 := I3.c 16 (.int .u64 s.ch.1) rfl
  have c17 := I3.c 17 (.int .u64 s.ch.2) rfl
  have c18 := I3.c 18 (.int .u64 s.sy.1) rfl
  have c19 := I3.c 19 (.int .u64 s.sy.2) rfl
  have c20 := I3.c 20 (.int .u64 s.st.1) rfl
  have c21 := I3.c 21 (.int .u64 s.st.2) rfl
  have gl := lt_of_block I3
  have II3 := Lib.hid I3
  clear I3
  go_upto_region 8 with fail
  have R4 := RowSp.of_arr (heap_alloc_new w3 (.cells #[.int .u64 s.rb.1, .int .u64 s.rb.2, .int .u64 s.bd.1, .int .u64 s.bd.2, .int .u64 s.wk.1, .int .u64 s.wk.2, .int .u64 s.lz.1, .int .u64 s.lz.2, .int .u64 s.tr.1, .int .u64 s.tr.2, .int .u64 s.ch.1, .int .u64 s.ch.2, .int .u64 s.sy.1, .int .u64 s.sy.2, .int .u64 s.st.1, .int .u64 s.st.2] 30))
  have g4 := grown1 w3 (.cells #[.int .u64 s.rb.1, .int .u64 s.rb.2, .int .u64 s.bd.1, .int .u64 s.bd.2, .int .u64 s.wk.1, .int .u64 s.wk.2, .int .u64 s.lz.1, .int .u64 s.lz.2, .int .u64 s.tr.1, .int .u64 s.tr.2, .int .u64 s.ch.1, .int .u64 s.ch.2, .int .u64 s.sy.1, .int .u64 s.sy.2, .int .u64 s.st.1, .int .u64 s.st.2] 30)
  obtain ⟨W4, hW4⟩ : ∃ W4, w3.alloc (.cells #[.int .u64 s.rb.1, .int .u64 s.rb.2, .int .u64 s.bd.1, .int .u64 s.bd.2, .int .u64 s.wk.1, .int .u64 s.wk.2, .int .u64 s.lz.1, .int .u64 s.lz.2, .int .u64 s.tr.1, .int .u64 s.tr.2, .int .u64 s.ch.1, .int .u64 s.ch.2, .int .u64 s.sy.1, .int .u64 s.sy.2, .int .u64 s.st.1, .int .u64 s.st.2] 30) = W4 := ⟨_, rfl⟩
  rw [hW4] at R4 g4 ⊢
  have G4 := Lib.hid (grown_trans G3.out g4)
  have RR := Lib.hid R4
  clear hW4 R4 g4 c6 c7 c8 c9 c10 c11 c12 c13 c14 c15 c16 c17 c18 c19 c20 c21 gl II3
  obtain ⟨p4, hp4⟩ : ∃ p, w3.heap.size = p := ⟨_, rfl⟩
  rw [hp4] at RR ⊢
  clear hp4
  go_wp2_with fail
  go_loopw [10] (fun i wr => ∃ m : Nat, m ≤ 8 ∧ i = .int .i64 m ∧ W4.grownBy wr none ∧ ∀ j x, j < m → (spansList s)[j]? = some x → withinN x.1 x.2 n = true) (fun i _ => 8 - (intOf i).toNat)
  case atStart => exact ⟨0, Nat.zero_le _, rfl, grown_refl _ _, fun j x hj => by omega⟩
  case round =>
    obtain ⟨m, hm, rfl, hg, hall⟩ := hrel
    have AL := Lib.hid hall
    have GB := Lib.hid (grown_trans G4.out hg)
    have GA := Lib.hid (grown_trans G.out GB.out)
    have GX := Lib.hid hg
    by_cases hmt : m < 8
    · obtain ⟨⟨X, Y⟩, hx⟩ : ∃ x, (spansList s)[m]? = some x := ⟨_, List.getElem?_eq_getElem (by exact hmt)⟩
      obtain ⟨g', hq', e0, e1⟩ := (RR.out.grown hg) m _ hx
      obtain rfl : p4 = g' := by injection hq' with e; injection e
      simp only [] at e0 e1
      have FX := SP.out _ (List.mem_of_getElem? hx)
      have WI := Lib.hid (fun V => (withinR_any X Y n FX.1 FX.2 NN.out V).mono (fun _ _ h => (⟨h.1, h.2.symm⟩ : _ ∧ _)))
      have HX := Lib.hid hx
      have dm : decide ((m : Int) < 8) = true := by simp; omega
      have hm8 : (m : Int) < 8 := by omega
      obtain ⟨v, hv⟩ : ∃ v, v = withinN X Y n := ⟨_, rfl⟩
      rw [← hv] at WI
      have HV := Lib.hid hv
      clear hall hx hq' FX hv hg
      cases v
      · have HE := Lib.hid (HR.out.trans (show (if (spansOk s n && (s.sy.2 % 16 == 0) && entryOk s) = false then 4 else if nameOk h s = false then 10 else 0 : Int) = 4 by
          rw [if_pos]
          have : spansOk s n = false := by
            unfold spansOk
            rw [List.all_eq_false]
            exact ⟨_, List.mem_of_getElem? HX.out, by rw [← HV.out]; decide⟩
          rw [this]; rfl))
        go_wp2
        go_quiet ((go_at_call 26; exact Calls.quiet_of_same (WI.out _)))
        go_wp2
        go_ret
        exact ⟨ret_int HE.out.symm, grown_drewN GA.out _⟩
      · go_wp2
        go_quiet ((go_at_call 26; exact Calls.quiet_of_same (WI.out _)))
        go_wp2
        go_roundw
        case rel =>
          refine ⟨m + 1, hmt, by go_num, grown_drewN GX.out _, fun j x hj hjx => ?_⟩
          rcases Nat.lt_or_ge j m with z1 | z1
          · exact AL.out j x z1 hjx
          · obtain rfl : j = m := by omega
            rw [HX.out] at hjx
            injection hjx with hjx
            rw [← hjx]; exact HV.out.symm
        case measure => simp [intOf]; omega
    · have hm' : m = 8 := by omega
      subst hm'
      have SOKS : spansOk s n = true := by
        unfold spansOk
        rw [List.all_eq_true]
        intro x hx
        obtain ⟨j, hj, rfl⟩ := List.getElem_of_mem hx
        exact hall j _ hj (List.getElem?_eq_getElem hj)
      have HR := HR.out
      rw [SOKS, Bool.true_and] at HR
      have iR := IA.out.kept GB.out (by simp)
      have gl := lt_of_block iR
      have q19 := iR.c 19 (.int .u64 s.sy.2) rfl
      have q22 := iR.c 22 (.int .u64 s.entry) rfl
      have q23 := iR.c 23 (.bool s.has) rfl
      have k19 := fun d os => cell_regrown q19 d os
      have k22 := fun d os => cell_regrown q22 d os
      have k23 := fun d os => cell_regrown q23 d os
      have KG := fun d os => grown_below (below_regrown wr d os) none
      have LH := Lib.hid (fun d os => Calls.regrown_of ((rHigh_any (h := h) (dv := dv) (KK.out _ (grown_trans GB.out (KG d os)))).mono (fun _ _ h => (⟨h.1, below_grown h.2 (Nat.le_refl _) (by simp)⟩ : _ ∧ _))))
      have LL := Lib.hid (fun d os => Calls.regrown_of ((rLow_any (h := h) (dv := dv) (KK.out _ (grown_trans GB.out (KG d os)))).mono (fun _ _ h => (⟨h.1, below_grown h.2 (Nat.le_refl _) (by simp)⟩ : _ ∧ _))))
      have LD := Lib.hid (fun (V : World) (hV : ∃ p : Regrown, V = grow (redrawn wr p.d) p.os) => (by obtain ⟨p, rfl⟩ := hV; exact run_loadImg0 (iR.kept (KG p.d p.os) (by simp)) : (loadVar 32 ⟨b, 0, none⟩).run Tryz.prog V = .ok (imgV h s (.slice qs l.length cs) dv) V))
      have hsy := (SP.out s.sy (by unfold spansList; simp)).2
      have t1 : s.sy.2.tmod 16 = s.sy.2 % 16 := Int.tmod_eq_emod_of_nonneg hsy.1
      obtain ⟨r1, hr1⟩ : ∃ r, s.sy.2 % 16 = r := ⟨_, rfl⟩
      have m1 : IntKind.u64.wrap r1 = r1 := by rw [IntKind.wrap_u64]; omega
      have m3 : r1 % 18446744073709551616 = r1 := by omega
      rw [hr1] at t1 HR
      unfold entryOk at HR
      obtain ⟨H, hH⟩ : ∃ H, highN s.segs = H := ⟨_, rfl⟩
      obtain ⟨L, hL⟩ : ∃ L, lowN s.segs = L := ⟨_, rfl⟩
      rw [hH] at LH HR
      rw [hL] at LL HR
      obtain ⟨T, hT⟩ : ∃ T, (H - L) % 18446744073709551616 = T := ⟨_, rfl⟩
      have hT2 : IntKind.u64.wrap (H - L) = T := by rw [IntKind.wrap_u64]; exact hT
      rw [hT] at HR
      obtain ⟨hs2, hhs⟩ : ∃ b, s.has = b := ⟨_, rfl⟩
      rw [hhs] at HR q23 k23
      clear hall hg iR KG hsy hr1 hH hL SOKS q19 q22 q23 hhs
      generalize hWR : wr = WR at *
      clear hWR
      by_cases e1 : r1 = 0
      rotate_left
      · have HE := Lib.hid (HR.trans (by rw [show (r1 == 0) = false by simpa using e1]; rfl) : r = 4)
        have d1 : (r1 != 0) = true := by simpa using e1
        clear e1 HR
        go_wp2_with fail
        refine wp_region_quiet_below (by kernel_rfl) (by kernel_rfl) ?_
        refine WpQ.out ?_
        iterate 6 (refine WpQ.step (fun K hK => ?_); go_simp; first | (refine hK _ ?_; clear hK K) | (apply Exists.intro; refine ⟨fun _ => ?_, hK _ ?_⟩; clear hK K))
        iterate 12 (refine WpQ.skip (by kernel_rfl) ?_)
        (refine WpQ.step (fun K hK => ?_); go_simp; first | (refine hK _ ?_; clear hK K) | (apply Exists.intro; refine ⟨fun _ => ?_, hK _ ?_⟩; clear hK K))
        refine WpQ.nil ?_
        intro _ hw'
        obtain ⟨⟨dq, osq⟩, hw''⟩ := hw'
        subst hw''
        have GQ := Lib.hid (grown_trans GA.out (grown_below (below_regrown WR dq osq) none))
        clear LH LL LD k22 k23 k19
        go_wp2
        go_ret
        exact ⟨ret_int HE.out.symm, GQ.out⟩
      have d1 : (r1 != 0) = false := by simpa using e1
      rw [show (r1 == 0) = true by simpa using e1, Bool.true_and] at HR
      clear e1
      cases hs2
      · rw [show (!false || decide (s.entry < T)) = true from rfl, if_neg (by decide)] at HR
        have HR := Lib.hid HR
        go_wp2_with fail
        refine wp_region_quiet_below (by kernel_rfl) (by kernel_rfl) ?_
        refine WpQ.out ?_
        iterate 9 (refine WpQ.step (fun K hK => ?_); go_simp; first | (refine hK _ ?_; clear hK K) | (apply Exists.intro; refine ⟨fun _ => ?_, hK _ ?_⟩; clear hK K))
        iterate 8 (refine WpQ.skip (by kernel_rfl) ?_)
        iterate 2 (refine WpQ.step (fun K hK => ?_); go_simp; first | (refine hK _ ?_; clear hK K) | (apply Exists.intro; refine ⟨fun _ => ?_, hK _ ?_⟩; clear hK K))
        refine WpQ.nil ?_
        intro _ hw'
        obtain ⟨⟨dq, osq⟩, hw''⟩ := hw'
        subst hw''
        have GQ := Lib.hid (grown_trans GA.out (grown_below (below_regrown WR dq osq) none))
        clear LH LL LD k22 k23 k19
        have IQ := IA.out.kept (grown_trans GB.out (grown_below (below_regrown WR dq osq) none)) (by simp)
        have c0 := IQ.c 0 (.int .i64 h.kd) rfl
        have c3 := IQ.c 3 (.string (strOfNums s.name)) rfl
        have ql := lt_of_block IQ
        clear IQ
        cases hk6 : (h.kd == 6)
        · have hk6n : (h.kd != 6) = true := by unfold bne; rw [hk6]; rfl
          cases hnm : (strOfNums s.name).toList.isEmpty
          · have HE := Lib.hid (HR.out.trans (show (if (nameOk h s) = false then 10 else 0 : Int) = 10 by unfold nameOk; rw [hk6, hnm]; rfl))
            go_wp2
            go_ret
            exact ⟨ret_int HE.out.symm, GQ.out⟩
          · have HE := Lib.hid (HR.out.trans (show (if (nameOk h s) = false then 10 else 0 : Int) = 0 by unfold nameOk; rw [hk6, hnm]; rfl))
            go_wp2
            go_ret
            exact ⟨ret_int HE.out.symm, GQ.out⟩
        · have hk6n : (h.kd != 6) = false := by unfold bne; rw [hk6]; rfl
          cases hnm : (strOfNums s.name).toList.isEmpty
          · have HE := Lib.hid (HR.out.trans (show (if (nameOk h s) = false then 10 else 0 : Int) = 0 by unfold nameOk; rw [hk6, hnm]; rfl))
            go_wp2
            go_ret
            exact ⟨ret_int HE.out.symm, GQ.out⟩
          · have HE := Lib.hid (HR.out.trans (show (if (nameOk h s) = false then 10 else 0 : Int) = 10 by unfold nameOk; rw [hk6, hnm]; rfl))
            go_wp2
            go_ret
            exact ⟨ret_int HE.out.symm, GQ.out⟩
      · cases hE : decide (s.entry < T)
        · have dE : decide (T ≤ s.entry) = true := by have := of_decide_eq_false hE; simp; omega
          have HE := Lib.hid (HR.trans (by rw [hE]; rfl) : r = 4)
          clear HR hE
          go_wp2_with fail
          refine wp_region_quiet_below (by kernel_rfl) (by kernel_rfl) ?_
          iterate 11 (quiet_step (fail))
          refine wpQuiet_load_img rfl _ rfl rfl LD.out ?_
          quiet_step (with_reducible exact LH.out _ _)
          refine wpQuiet_load_img rfl _ rfl rfl LD.out ?_
          quiet_step (with_reducible exact LL.out _ _)
          iterate 4 (quiet_step (fail))
          refine wpQuiet_nil ?_
          intro _ hw'
          obtain ⟨⟨dq, osq⟩, hw''⟩ := hw'
          subst hw''
          have GQ := Lib.hid (grown_trans GA.out (grown_below (below_regrown WR dq osq) none))
          clear LH LL LD k22 k23 k19
          go_wp2
          go_ret
          exact ⟨ret_int HE.out.symm, GQ.out⟩
        · have dE : decide (T ≤ s.entry) = false := by have := of_decide_eq_true hE; simp; omega
          rw [hE, if_neg (by decide)] at HR
          have HR := Lib.hid HR
          clear hE
          go_wp2_with fail
          refine wp_region_quiet_below (by kernel_rfl) (by kernel_rfl) ?_
          iterate 11 (quiet_step (fail))
          refine wpQuiet_load_img rfl _ rfl rfl LD.out ?_
          quiet_step (with_reducible exact LH.out _ _)
          refine wpQuiet_load_img rfl _ rfl rfl LD.out ?_
          quiet_step (with_reducible exact LL.out _ _)
          iterate 4 (quiet_step (fail))
          refine wpQuiet_nil ?_
          intro _ hw'
          obtain ⟨⟨dq, osq⟩, hw''⟩ := hw'
          subst hw''
          have GQ := Lib.hid (grown_trans GA.out (grown_below (below_regrown WR dq osq) none))
          clear LH LL LD k22 k23 k19
          have IQ := IA.out.kept (grown_trans GB.out (grown_below (below_regrown WR dq osq) none)) (by simp)
          have c0 := IQ.c 0 (.int .i64 h.kd) rfl
          have c3 := IQ.c 3 (.string (strOfNums s.name)) rfl
          have ql := lt_of_block IQ
          clear IQ
          cases hk6 : (h.kd == 6)
          · have hk6n : (h.kd != 6) = true := by unfold bne; rw [hk6]; rfl
            cases hnm : (strOfNums s.name).toList.isEmpty
            · have HE := Lib.hid (HR.out.trans (show (if (nameOk h s) = false then 10 else 0 : Int) = 10 by unfold nameOk; rw [hk6, hnm]; rfl))
              go_wp2
              go_ret
              exact ⟨ret_int HE.out.symm, GQ.out⟩
            · have HE := Lib.hid (HR.out.trans (show (if (nameOk h s) = false then 10 else 0 : Int) = 0 by unfold nameOk; rw [hk6, hnm]; rfl))
              go_wp2
              go_ret
              exact ⟨ret_int HE.out.symm, GQ.out⟩
          · have hk6n : (h.kd != 6) = false := by unfold bne; rw [hk6]; rfl
            cases hnm : (strOfNums s.name).toList.isEmpty
            · have HE := Lib.hid (HR.out.trans (show (if (nameOk h s) = false then 10 else 0 : Int) = 0 by unfold nameOk; rw [hk6, hnm]; rfl))
              go_wp2
              go_ret
              exact ⟨ret_int HE.out.symm, GQ.out⟩
            · have HE := Lib.hid (HR.out.trans (show (if (nameOk h s) = false then 10 else 0 : Int) = 10 by unfold nameOk; rw [hk6, hnm]; rfl))
              go_wp2
              go_ret
              exact ⟨ret_int HE.out.symm, GQ.out⟩
end Go.Proofs.YtemdbfgpimfkdaaGreat

/- What must be so of an image, in memory: the rows of rules. No condition. -/
namespace Go.Proofs.YtemdbfgpimfkdaaGreat
open Go.RowKit
variable {w w' : World} {h : Hx} {s : St} {sv dv : Value} {n hd : Int}

/-- An error, and the rules of it: each one's function, and whether it is so. -/
abbrev Dem := Int × List (Nat × Bool)
def demandsN (h : Hx) (s : St) (n hd : Int) : List Dem :=
  [(8, [(29, s.segs.all protOk), (30, s.segs.all (fun x => sizeOk x n)), (31, diffN s.segs), (32, riseN 0 s.segs), (33, frontOk s.segs hd)]),
   (9, [(34, s.segs.all (fun z => z.secs.all (secOk z)))]), (4, [(35, (s.sy.2 % 16 == 0) && spansOk s n), (36, entryOk s)]), (10, [(37, nameOk h s)])]
def askN : List Dem → Int
  | [] => 0
  | d :: l => if d.2.all (·.2) = true then askN l else d.1
def DemsAt (w : World) (b : Nat) (l : List Dem) : Prop := ∀ i d, l[i]? = some d → ∃ g, w.cell? ⟨b, i * 2, none⟩ = some (.int .i64 d.1) ∧ w.cell? ⟨b, i * 2 + 1, none⟩ = some (.slice (some ⟨g, 0, none⟩) d.2.length d.2.length) ∧ ∀ j x, d.2[j]? = some x → w.cell? ⟨g, j, none⟩ = some (.func (.func x.1) #[] #[])
theorem DemsAt.grown {b : Nat} {l : List Dem} (k : DemsAt w b l) (hg : w.grownBy w' none) : DemsAt w' b l := fun i d hd => by
  obtain ⟨g, c0, c1, c2⟩ := k i d hd
  exact ⟨g, grown_cell hg c0, grown_cell hg c1, fun j x hx => grown_cell hg (c2 j x hx)⟩
theorem cell_new {w : World} {cs : Array Value} {t : TypeId} (i : Nat) (v : Value) (hv : cs[i]? = some v) : (w.alloc (.cells cs t)).cell? ⟨w.heap.size, i, none⟩ = some v := by rw [cell_of (heap_alloc_new w _)]; exact hv
theorem cell_keep {w : World} {a : Addr} {v : Value} (h : w.cell? a = some v) (o : Obj) : (w.alloc o).cell? a = some v := grown_cell (grown1 w o) h
theorem demands_any (h : Hx) (s : St) (n hd : Int) : Calls Tryz.prog 17 #[] w fun e w' => ∃ b, e = .returned (.slice (some ⟨b, 0, none⟩) 4 4) ∧ DemsAt w' b (demandsN h s n hd) ∧ w.grownBy w' none := by
  go_enter Tryz.func17, Tryz.ntmps17
  go_wp2
  go_ret
  refine ⟨w.heap.size + 1 + 1 + 1 + 1, rfl, ?_, ?_⟩
  · obtain ⟨w1, h1⟩ : ∃ w1, w1 = w.alloc (.cells #[.func (.func 29) #[] #[], .func (.func 30) #[] #[], .func (.func 31) #[] #[], .func (.func 32) #[] #[], .func (.func 33) #[] #[]] 65) := ⟨_, rfl⟩
    obtain ⟨w2, h2⟩ : ∃ w2, w2 = w1.alloc (.cells #[.func (.func 34) #[] #[]] 65) := ⟨_, rfl⟩
    obtain ⟨w3, h3⟩ : ∃ w3, w3 = w2.alloc (.cells #[.func (.func 35) #[] #[], .func (.func 36) #[] #[]] 65) := ⟨_, rfl⟩
    obtain ⟨w4, h4⟩ : ∃ w4, w4 = w3.alloc (.cells #[.func (.func 37) #[] #[]] 65) := ⟨_, rfl⟩
    have s1 : w1.heap.size = w.heap.size + 1 := by rw [h1]; simp
    have s2 : w2.heap.size = w1.heap.size + 1 := by rw [h2]; simp
    have s3 : w3.heap.size = w2.heap.size + 1 := by rw [h3]; simp
    have s4 : w4.heap.size = w3.heap.size + 1 := by rw [h4]; simp
    rw [← h1, ← h2, ← h3, ← h4, ← s1, ← s2, ← s3, ← s4]
    intro i d hd'
    unfold demandsN at hd'
    match i, hd' with
    | 0, hd' =>
      injection hd' with hd'
      subst hd'
      refine ⟨w.heap.size, cell_new 0 _ rfl, cell_new 1 _ rfl, fun j x hx => ?_⟩
      refine cell_keep ?_ _
      rw [h4]; refine cell_keep ?_ _
      rw [h3]; refine cell_keep ?_ _
      rw [h2]; refine cell_keep ?_ _
      rw [h1]
      match j, hx with
      | 0, hx => injection hx with hx; subst hx; exact cell_new 0 _ rfl
      | 1, hx => injection hx with hx; subst hx; exact cell_new 1 _ rfl
      | 2, hx => injection hx with hx; subst hx; exact cell_new 2 _ rfl
      | 3, hx => injection hx with hx; subst hx; exact cell_new 3 _ rfl
      | 4, hx => injection hx with hx; subst hx; exact cell_new 4 _ rfl
      | k + 5, hx => simp at hx
    | 1, hd' =>
      injection hd' with hd'
      subst hd'
      refine ⟨w1.heap.size, cell_new 2 _ rfl, cell_new 3 _ rfl, fun j x hx => ?_⟩
      refine cell_keep ?_ _
      rw [h4]; refine cell_keep ?_ _
      rw [h3]; refine cell_keep ?_ _
      rw [h2]
      match j, hx with
      | 0, hx => injection hx with hx; subst hx; exact cell_new 0 _ rfl
      | k + 1, hx => simp at hx
    | 2, hd' =>
      injection hd' with hd'
      subst hd'
      refine ⟨w2.heap.size, cell_new 4 _ rfl, cell_new 5 _ rfl, fun j x hx => ?_⟩
      refine cell_keep ?_ _
      rw [h4]; refine cell_keep ?_ _
      rw [h3]
      match j, hx with
      | 0, hx => injection hx with hx; subst hx; exact cell_new 0 _ rfl
      | 1, hx => injection hx with hx; subst hx; exact cell_new 1 _ rfl
      | k + 2, hx => simp at hx
    | 3, hd' =>
      injection hd' with hd'
      subst hd'
      refine ⟨w3.heap.size, cell_new 6 _ rfl, cell_new 7 _ rfl, fun j x hx => ?_⟩
      refine cell_keep ?_ _
      rw [h4]
      match j, hx with
      | 0, hx => injection hx with hx; subst hx; exact cell_new 0 _ rfl
      | k + 1, hx => simp at hx
    | k + 4, hd' => simp at hd'
  · exact grown_trans (grown_trans (grown_trans (grown_trans (grown1 _ _) (grown1 _ _)) (grown1 _ _)) (grown1 _ _)) (grown1 _ _)
end Go.Proofs.YtemdbfgpimfkdaaGreat
