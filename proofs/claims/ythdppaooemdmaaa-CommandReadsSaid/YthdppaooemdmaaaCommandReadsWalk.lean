/- The walk of CommandReads: what any bytes are as a header and commands, or why they are none; each command may be; its bytes are its own. -/
import Derived.Test.YthdppaooemdmaaaGotW
import Derived.Test.YthdppaooemdmaaaKnown4
import Derived.Test.YthdppaooemdmaaaMay
import Derived.StillTailTactics
namespace Go.Proofs.Ythdppaooemdmaaa.commandReads
open Go.RowKit

theorem fits_of {w : World} {base : Nat} {m : Cm} (h : Taken w base m) (hd : (0 ≤ m.d.1 ∧ m.d.1 < 4294967296) ∧ Small m.d.2 ∧ mayB m.d.1 m.d.2 = true) : m.Fits := by
  obtain ⟨g, hq, ho⟩ := h
  exact ⟨hd.1, hd.2.1, ho.le, by have := ho.most; unfold maxLen at this; omega⟩

set_option maxHeartbeats 3200000 in
set_option maxRecDepth 20000 in
theorem walk (a0 : Option Addr) (len0 cap0 : Nat) (z0 : List Int) (w : World) (w0 : IsRow .u8 w a0 len0 cap0 z0) :
    Calls Try.prog 3 #[.slice a0 len0 cap0] w fun e w' => e = .returned (.bool true) ∧ Below w.heap.size w w' := by
  have hcap : len0 ≤ cap0 ∧ cap0 ≤ 9223372036854775807 := by
    rcases w0 with ⟨_, rfl, rfl, _⟩ | ⟨_, _, h1, h2, _⟩
    · omega
    · unfold maxLen at h2; omega
  obtain ⟨ys, rfl, hys, hb, _⟩ := w0.bytes
  have K := Lib.hid (fun w : World => known_any (w := w))
  by_cases h20 : 20000 < ys.length
  · have hd : decide ((20000 : Int) < ys.length) = true := by simp; omega
    go_enter Try.func3, Try.ntmps3
    go_wp2_with fail
    refine (K.out _).mono ?_
    rintro e w' ⟨rfl, hbel⟩
    have B := Lib.hid hbel
    clear hbel
    go_wp2
    go_ret
    exact ⟨rfl, B.out⟩
  · have hd : decide ((20000 : Int) < ys.length) = false := by simp; omega
    have HB := Lib.hid hb
    have SA := Lib.hid (fun (w1 : World) (q : Option Addr) (c : Nat) (h : IsBytes w1 q c ys) (hc : ys.length ≤ c) (hcm : c ≤ 9223372036854775807) => Read_all (w := w1) ys q c ys.length h rfl hc hcm (by omega) hys)
    have SB := Lib.hid (fun (w1 : World) (hg : w.grownBy w1 none) => RefRead_all (w := w1) ys a0 cap0 ys.length (hb.kept hg (by simp)) rfl hcap.1 hcap.2 (by omega) hys)
    have SC := Lib.hid (fun (w1 : World) (q : Option Addr) (c : Nat) (h : IsBytes w1 q c ys) (hc : ys.length ≤ c) (hcm : c ≤ 9223372036854775807) => Size_all (w := w1) ys q c ys.length h rfl hc hcm (by omega) hys)
    have RM := Lib.hid (readL_may hys)
    have hZ := readZ_lt hys
    clear hys hb w0
    obtain ⟨l, hl⟩ : ∃ l, l = readL ys := ⟨_, rfl⟩
    rw [← hl] at SA SB RM
    obtain ⟨⟨h1, h2, h3⟩, hh⟩ : ∃ z, z = readH ys := ⟨_, rfl⟩
    rw [← hh] at SA SB
    obtain ⟨Z, hz⟩ : ∃ Z, Z = readZ ys := ⟨_, rfl⟩
    rw [← hz] at SB SC hZ
    obtain ⟨er, her⟩ : ∃ z, z = rdErr ys := ⟨_, rfl⟩
    rw [← her] at SA SB SC
    clear hl hh hz her
    unfold Hd.v at SA SB
    simp only [] at SA SB SC
    go_enter Try.func3, Try.ntmps3
    go_wp2_with (at_builtin; refine wp_append_bytes rfl _ _ rfl rfl _ _ _ rfl (World.ownsRow_nil w w.heap.size _ _) ys ys.length rfl rfl HB.out (by omega) (Nat.le_refl _) ?_)
    intro v' w1 ho hg0
    obtain ⟨qo, co, rfl⟩ := own_slice ho
    have hco : ys.length ≤ co ∧ co ≤ 9223372036854775807 := by
      rcases ho.2 with ⟨e, e0⟩ | ⟨g, cap, cur, hv, _, _, h1, h2, _⟩
      · injection e with _ _ e3; subst e3; omega
      · injection hv with _ _ e3; subst e3; unfold maxLen at h2; omega
    have OB := Lib.hid (IsBytes.of_own rfl ho)
    have G0 := Lib.hid (show w.grownBy w1 none from hg0)
    clear ho hg0
    go_wp2_with fail
    refine (SA.out w1 qo co OB.out hco.1 hco.2).mono ?_
    rintro e w2 ⟨pre, qa, ca, base, hpl, rfl, hbs, hG, hg⟩
    have hgn := grown_trans hg (grown1 w2 (.cells #[.int .i64 h1, .int .i64 h2, .int .u32 h3] 27))
    have G2 := Lib.hid hgn
    have PL := Lib.hid hpl
    have BS := Lib.hid hbs
    have GO := Lib.hid (hG.over (Over.of_grown (hi := base) (grown1 w2 (.cells #[.int .i64 h1, .int .i64 h2, .int .u32 h3] 27)) (by simp)) (Nat.le_refl _))
    have S2 := Lib.hid (HdAt.new w2 ⟨h1, h2, h3⟩)
    clear hg hgn hpl hbs hG
    go_wp2_with fail
    refine (SB.out _ (grown_trans G0.out G2.out)).mono ?_
    rintro e w3 ⟨pr2, qb, cb, hpl, rfl, hI, hc1, hc2, hF, hg⟩
    have hn := grown1 w3 (.cells #[.int .i64 h1, .int .i64 h2, .int .u32 h3] 27)
    have hgn := grown_trans hg hn
    have P2 := Lib.hid hpl
    have FT := Lib.hid hF
    have I3 := Lib.hid (hI.grown hn)
    have G3 := Lib.hid (grown_trans G2.out hgn)
    have GP := Lib.hid (GO.out.over (Over.of_grown (hi := base) hgn (by simp)) (Nat.le_refl _))
    have S3 := Lib.hid (S2.out.grown hgn)
    have T3 := Lib.hid (HdAt.new w3 ⟨h1, h2, h3⟩)
    have L23 := hg.size
    clear hg hgn hpl hF hI hn GO S2 G2
    go_wp2_with fail
    refine (SC.out _ qo co (OB.out.kept G3.out (by simp)) hco.1 hco.2).mono ?_
    rintro e w5 ⟨rfl, hg⟩
    have L35 := hg.size
    have S5 := S3.out.grown hg
    have T5 := T3.out.grown hg
    have c0 := S5.c0
    have c1 := S5.c1
    have c2 := S5.c2
    have d0 := T5.c0
    have d1 := T5.c1
    have d2 := T5.c2
    have G5 := Lib.hid (grown_trans G3.out hg)
    have O5 := OB.out.kept G5.out (by simp)
    have B5 := HB.out.kept (grown_trans G0.out G5.out) (by simp)
    have cv1 := O5.text rfl
    have cv2 := B5.text rfl
    have GQ := Lib.hid (GP.out.over (Over.of_grown (hi := base) hg (by simp)) (Nat.le_refl _))
    have I5 := Lib.hid (I3.out.grown hg)
    have hzz : ((Z : Int) % 18446744073709551616) = Z := by omega
    have hzw : IntKind.u64.wrap (Z : Int) = Z := by rw [IntKind.wrap_u64]; exact hzz
    have ZZ := Lib.hid hzz
    have ZW := Lib.hid hzw
    obtain ⟨hcmA, hcA⟩ := (GQ.out.cms rfl).2
    have lt1 := S5.lt
    have lt2 := T5.lt
    clear hg S3 T3 GP I3 G3 S5 T5 O5 B5
    go_wp2_with fail
    refine (same_any pre pr2 pre.length pr2.length rfl rfl qa qb ca cb (GQ.out.cms rfl).1 I5.out ?_ FT.out (by omega)).mono ?_
    · exact fun x hx => fits_of (GQ.out.each x hx) (RM.out _ (by rw [← PL.out]; exact List.mem_map_of_mem hx))
    rintro e w6 ⟨rfl, hg⟩
    rw [PL.out, P2.out, decide_eq_true (rfl : l = l)]
    have G6 := Lib.hid (grown_trans G5.out hg)
    have G60 := Lib.hid (GQ.out.over (Over.of_grown (hi := base) hg (by simp)) (Nat.le_refl _))
    have W2 : w1.heap.size ≤ base := BS.out
    clear hg cv1 cv2 c0 c1 c2 d0 d1 d2 GQ I5 FT G5
    go_wp2
    have hmem : ∀ (k : Nat) (m : Cm), pre[k]? = some m → (0 ≤ m.d.1 ∧ m.d.1 < 4294967296) ∧ Small m.d.2 ∧ mayB m.d.1 m.d.2 = true := fun k m h => RM.out _ (by rw [← PL.out]; exact List.mem_map_of_mem (List.mem_of_getElem? h))
    have MM := Lib.hid hmem
    clear hmem
    go_loopw [13, 14] (fun i _ wr => ∃ (k : Nat) (pr : List Cm), k ≤ pre.length ∧ i = .int .i64 k ∧ w1.grownBy wr none ∧ Got wr base pr (.slice qa pre.length ca) ∧ pr.length = pre.length ∧ ∀ j, k ≤ j → pr[j]? = pre[j]?) (fun i _ _ => pre.length - (intOf i).toNat)
    case atStart => exact ⟨0, pre, Nat.zero_le _, rfl, G6.out, G60.out, rfl, fun _ _ => rfl⟩
    case round =>
      obtain ⟨k, pr, hk, rfl, hgr, hgot, hpl, hsame⟩ := hrel
      by_cases hlt : k < pre.length
      · obtain ⟨m, hm⟩ : ∃ m, pre[k]? = some m := ⟨_, List.getElem?_eq_getElem hlt⟩
        have hpk : pr[k]? = some m := (hsame k (Nat.le_refl _)).trans hm
        have hd := MM.out k m hm
        have htk := hgot.each m (List.mem_of_getElem? hpk)
        have hfit := fits_of htk hd
        have hmb : mayB m.cmd m.bytes = true := hd.2.2
        obtain ⟨g, hq, ho⟩ := htk
        have hbs : IsBytes wr m.q m.cap m.bytes := by rw [hq]; exact ho.bytes _
        obtain ⟨b, o, hqa, hc⟩ := (hgot.cms hpl).1 (by omega)
        subst hqa
        obtain ⟨⟨c0, c1⟩, _⟩ := hc k m hpk
        have MA := Lib.hid (fun (w1 : World) (hg : wr.grownBy w1 none) => may_any (w := w1) m hfit (hbs.kept hg (by simp)))
        have MB := Lib.hid (fun (w1 : World) (hg : wr.grownBy w1 none) => refmay_any (w := w1) m hfit (hbs.kept hg (by simp)))
        rw [hmb] at MA MB
        have GW := Lib.hid hgr
        have GT := Lib.hid hgot
        have SM := Lib.hid hsame
        have PK := Lib.hid hpk
        have QE := Lib.hid hq
        have PN := Lib.hid hpl
        clear hgr hgot hsame hpk hq hpl hm hd hfit hmb ho hbs hc
        go_wp2_with fail
        refine (MA.out _ (grown_refl _ _)).mono ?_
        rintro e w7 ⟨rfl, hg⟩
        have e0 := grown_cell hg c0
        have e1 := grown_cell hg c1
        have H7 := Lib.hid hg
        clear c0 c1 hg
        go_wp2_with fail
        refine (MB.out _ H7.out).mono ?_
        rintro e w8 ⟨rfl, hg⟩
        have H8 := Lib.hid (grown_trans H7.out hg)
        clear e0 e1 hg H7 MA MB
        go_wp2
        go_loopw [14] (fun kk wx => ∃ (n : Nat) (px : List Cm) (mx : Cm), n ≤ m.bytes.length ∧ kk = .int .i64 n ∧ w1.grownBy wx none ∧ Got wx base px (.slice (some ⟨b, o, none⟩) pre.length ca) ∧ px.length = pre.length ∧ (∀ j, k + 1 ≤ j → px[j]? = pre[j]?) ∧ px[k]? = some mx ∧ mx.q = some ⟨g, 0, none⟩ ∧ mx.bytes.length = m.bytes.length) (fun kk _ => m.bytes.length - (intOf kk).toNat)
        case atStart => exact ⟨0, pr, m, Nat.zero_le _, rfl, grown_trans GW.out H8.out, GT.out.over (Over.of_grown (hi := base) H8.out (by simp)) (Nat.le_refl _), PN.out, fun j hj => SM.out j (by omega), PK.out, QE.out, rfl⟩
        case round =>
          obtain ⟨n, px, mx, hn, rfl, hgx, hgot, hpl, hsame, hpk, hq, hml⟩ := hrel
          obtain ⟨b', o', hqa, hc⟩ := (hgot.cms hpl).1 (by omega)
          injection hqa with hqa
          injection hqa with e1 e2
          subst e1 e2
          obtain ⟨⟨c0, c1⟩, _⟩ := hc k mx hpk
          rw [hml, hq] at c1
          by_cases hnl : n < m.bytes.length
          · obtain ⟨g', hq', ho⟩ := hgot.each mx (List.mem_of_getElem? hpk)
            obtain rfl : g' = g := by rw [hq] at hq'; injection hq' with e; injection e with e; exact e.symm
            have x0 := ho.cell n (by omega)
            have x1 := ho.free n (by have := ho.le; omega)
            have xl := ho.lt
            have hmx : m.bytes.length ≤ 9223372036854775807 := by have h1 := ho.le; have h2 := ho.most; unfold maxLen at h2; omega
            have GW2 := Lib.hid hgx
            have GT2 := Lib.hid hgot
            have SM2 := Lib.hid hsame
            have PK2 := Lib.hid hpk
            have QE2 := Lib.hid hq
            have PN2 := Lib.hid hpl
            have ML2 := Lib.hid hml
            clear hgx hgot hsame hpk hq hpl hml hq' ho hc c0
            go_wp2
            go_still_tail 16, (by kernel_rfl)
            change wpList _ _ _ _ _ wr.drew
            have x0' : wr.drew.cell? ⟨g', n, none⟩ = some (.int .u8 (mx.bytes.getD n 0)) := x0
            have x1' : wr.drew.frozen? ⟨g', n, none⟩ = false := x1
            have xl' : g' < wr.drew.heap.size := xl
            have GD := Lib.hid (show w1.grownBy wr.drew none from grown_drewN GW2.out 1)
            have GE := Lib.hid (GT2.out.over (Over.of_grown (hi := base) (show wr.grownBy wr.drew none from grown_drewN (grown_refl wr none) 1) (by simp)) (Nat.le_refl _))
            clear x0 x1 xl c1 GW2 GT2
            generalize wr.drew = w9 at *
            go_wp2
            have hlo := (GE.out.lt (List.mem_of_getElem? PK2.out) QE2.out).1
            have hkl : k < px.length := by rw [PN2.out]; exact hlt
            refine ⟨⟨n + 1, px.set k (mx.with (mx.bytes.set n ((mx.bytes[n]?.getD 0 + 1) % 256))), mx.with (mx.bytes.set n ((mx.bytes[n]?.getD 0 + 1) % 256)), by omega, by go_num, ?_, GE.out.write PK2.out QE2.out (by rw [ML2.out]; exact hnl) _, by rw [List.length_set]; exact PN2.out, fun j hj => (set_other (by omega)).trans (SM2.out j hj), ?_, QE2.out, ?_⟩, by simp [intOf]; omega⟩
            · exact grown_new GD.out (grown_setCell (i := n) (grown_refl w9 (some g')) _) (by omega)
            · rw [List.getElem?_set_self hkl]
            · show (mx.bytes.set n _).length = _
              rw [List.length_set]; exact ML2.out
          · have hnn : n = m.bytes.length := by omega
            subst hnn
            have GW2 := Lib.hid hgx
            have GT2 := Lib.hid hgot
            have SM2 := Lib.hid hsame
            have PN2 := Lib.hid hpl
            clear hgx hgot hsame hpk hq hpl hml hc c0
            go_wp2
            refine ⟨⟨k + 1, px, by omega, by go_num, GW2.out, GT2.out, PN2.out, SM2.out⟩, by simp [intOf]; omega⟩
      · have hkn : k = pre.length := by omega
        subst hkn
        have cv1 := (OB.out.kept hgr (by simp)).text rfl
        have cv2 := (HB.out.kept (grown_trans G0.out hgr) (by simp)).text rfl
        have GA := Lib.hid (grown_trans G0.out hgr)
        clear hgr hgot hsame hpl
        go_wp2_with fail
        refine (K.out _).mono ?_
        rintro e w' ⟨rfl, bel⟩
        have B := Lib.hid ((below_grown GA.out (Nat.le_refl _) (by simp)).trans (bel.mono GA.out.size))
        clear bel
        go_wp2
        go_ret
        exact ⟨rfl, B.out⟩
end Go.Proofs.Ythdppaooemdmaaa.commandReads
