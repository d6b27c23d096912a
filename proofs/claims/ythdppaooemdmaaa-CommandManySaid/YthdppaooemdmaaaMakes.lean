/- A header and commands as bytes, and read again: 'CommandMakes' with nothing behind them. Few commands (at most 300, of 2000 bytes). -/
import Derived.Test.YthdppaooemdmaaaMade
import Derived.Test.YthdppaooemdmaaaKnown4
namespace Go.Proofs.Ythdppaooemdmaaa
open Go.RowKit
variable {w w' : World}

theorem fits_of {w : World} {base : Nat} {m : Cm} (h : Taken w base m) (hd : (0 ≤ m.d.1 ∧ m.d.1 < 4294967296) ∧ Small m.d.2 ∧ mayB m.d.1 m.d.2 = true) : m.Fits := by
  obtain ⟨g, hq, ho⟩ := h
  exact ⟨hd.1, hd.2.1, ho.le, by have := ho.most; unfold maxLen at this; omega⟩

set_option maxHeartbeats 3200000 in
set_option maxRecDepth 20000 in
theorem makes_any (s0 k0 f0 : Int) (hfl : 0 ≤ f0 ∧ f0 < 4294967296) (l : List Cm) (n : Nat) (hn : l.length = n) (hfit : ∀ m ∈ l, m.Fits) (p : Option Addr) (c : Nat) (hp : IsCms w p l) (hlc : n ≤ c) (hcx : c ≤ 9223372036854775807) (hfew : fewB l 300 = true) :
    Calls Try.prog 15 #[.agg #[.int .i64 s0, .int .i64 k0, .int .u32 f0], .slice p n c, .slice none 0 0] w fun e w' => e = .returned (.bool true) ∧ Below w.heap.size w w' := by
  have gX := grown1 w (.cells #[.int .i64 s0, .int .i64 k0, .int .u32 f0] 27)
  have GX := Lib.hid gX
  have HX := Lib.hid (HdAt.new w ⟨s0, k0, f0⟩)
  have K := Lib.hid (fun w : World => known_any (w := w))
  have FE := Lib.hid (few_any (w := w.alloc (.cells #[.int .i64 s0, .int .i64 k0, .int .u32 f0] 27)) l n hn p c (hp.grown gX) hlc hcx hfit 300)
  rw [hfew] at FE
  have h300 : n ≤ 300 := by have := (fewB_le hfew).2; omega
  have MA := Lib.hid (fun (w1 : World) (hg : w.grownBy w1 none) => make_any (w := w1) s0 k0 f0 hfl l n hn (by omega) hfit p c (hp.grown hg))
  have MB := Lib.hid (fun (w1 : World) (hg : w.grownBy w1 none) => refmake_any (w := w1) s0 k0 f0 hfl l n hn (by omega) hfit p c (hp.grown hg))
  have SM := Lib.hid (makeN_small s0 k0 f0 hfit)
  have MBAD := Lib.hid (made_bad (sub := s0) (kind := k0) (flags := f0) (l := l))
  have MRD := Lib.hid (fun h => made_read (sub := s0) (kind := k0) hfl (l := l) h)
  have MOF := Lib.hid (fun h => (made_of (sub := s0) (kind := k0) (flags := f0) (l := l) h))
  have hlen : (makeN s0 k0 f0 l).1.length ≤ 1048576 := by
    unfold makeN
    split
    · simp
    · split
      · simp
      · show (laidN _ _ _).length ≤ _
        rw [laidN_len, headN_len, List.take_length]; omega
  obtain ⟨⟨ys, er⟩, hr⟩ : ∃ r, r = makeN s0 k0 f0 l := ⟨_, rfl⟩
  rw [← hr] at MA MB SM MBAD MRD hlen
  simp only [] at SM MBAD MRD hlen
  have IP := Lib.hid (fun (w1 : World) (hg : w.grownBy w1 none) => hp.grown hg)
  have FT := Lib.hid hfit
  have HN := Lib.hid hn
  clear hr hfew hfit hp gX MOF hn
  go_enter Try.func15, Try.ntmps15
  go_wp2_with fail
  refine FE.out.mono ?_
  rintro e w1 ⟨rfl, hg⟩
  have hz := HX.out.grown hg
  have d0 := hz.c0
  have d1 := hz.c1
  have d2 := hz.c2
  have H1 := Lib.hid hz
  have G1 := Lib.hid (grown_trans GX.out hg)
  clear hg hz
  go_wp2_with fail
  refine (MA.out _ G1.out).mono ?_
  rintro e w2 ⟨⟨qa, ca, rfl, hb, hya, hca⟩, hg⟩
  have hz := H1.out.grown hg
  have e0 := hz.c0
  have e1 := hz.c1
  have e2 := hz.c2
  have H2 := Lib.hid hz
  have G2 := Lib.hid (grown_trans G1.out hg)
  have B2 := Lib.hid hb
  clear hg hz hb d0 d1 d2 H1
  simp only [] at hya B2 ⊢
  go_wp2_with fail
  refine (MB.out _ G2.out).mono ?_
  rintro e w3 ⟨⟨qb, cb, rfl, hb, hyb, hcb⟩, hg⟩
  have hz := H2.out.grown hg
  have H3 := Lib.hid hz
  have G3 := Lib.hid (grown_trans G2.out hg)
  have A3 := B2.out.kept hg (by simp)
  have B3 := hb
  simp only [] at B3
  have cv1 := A3.text rfl
  have cv2 := B3.text rfl
  have BA := Lib.hid A3
  clear hg hz hb e0 e1 e2 H2 B2 A3 B3
  simp only [] at hyb ⊢
  by_cases her : er = 0
  · subst her
    obtain ⟨r1, r2, r3, r4⟩ := MRD.out rfl
    have SA := Lib.hid (fun (w1 : World) (q : Option Addr) (c : Nat) (h : IsBytes w1 q c ys) (hc : ys.length ≤ c) (hcm : c ≤ 9223372036854775807) => Read_all (w := w1) ys q c ys.length h rfl hc hcm (by omega) SM.out)
    have SC := Lib.hid (fun (w1 : World) (q : Option Addr) (c : Nat) (h : IsBytes w1 q c ys) (hc : ys.length ≤ c) (hcm : c ≤ 9223372036854775807) => Size_all (w := w1) ys q c ys.length h rfl hc hcm (by omega) SM.out)
    have RM := Lib.hid (readL_may SM.out)
    rw [r3] at RM
    rw [r1, r2, r3] at SA
    rw [r1, r4] at SC
    unfold Hd.v at SA
    simp only [] at SA
    clear r1 r2 r3 r4
    go_wp2_with (at_builtin; refine wp_append_bytes rfl _ _ rfl rfl _ _ _ rfl (World.ownsRow_nil w3 w3.heap.size _ _) ys ys.length rfl rfl BA.out (by omega) (Nat.le_refl _) ?_)
    intro v' w4 ho hg0
    have OW := Lib.hid ho
    have G4 := Lib.hid (show w3.grownBy w4 none from hg0)
    clear ho hg0 cv1 cv2
    go_wp2_with (at_builtin; refine wp_append_bytes rfl _ _ rfl rfl _ _ _ rfl OW.out [] 0 rfl rfl IsBytes.nil (by omega) G4.out.size ?_)
    intro v' w5 ho hg0
    obtain ⟨qo, co, rfl⟩ := own_slice ho
    have hco : ys.length ≤ co ∧ co ≤ 9223372036854775807 := by
      rcases ho.2 with ⟨e, e0⟩ | ⟨g, cap, cur, hv, _, _, h1, h2, _⟩
      · injection e with _ _ e3; subst e3; omega
      · injection hv with _ _ e3; subst e3; unfold maxLen at h2; omega
    have OB := Lib.hid (IsBytes.of_own rfl ho)
    have hg35 := grown_own G4.out hg0 (fun g hg => (OW.out.lt g hg).1) (Nat.le_refl _)
    have G5 := Lib.hid (grown_trans G3.out hg35)
    have H5 := Lib.hid (H3.out.grown hg35)
    clear ho hg0 hg35 OW G4 BA H3
    go_wp2_with fail
    refine (SA.out w5 qo co OB.out hco.1 hco.2).mono ?_
    rintro e w6 ⟨pre, qr, cr, base, hpl, rfl, hbs, hG, hg⟩
    have hn := grown1 w6 (.cells #[.int .i64 s0, .int .i64 k0, .int .u32 f0] 27)
    have hgn := grown_trans hg hn
    have G6 := Lib.hid hgn
    have PL := Lib.hid hpl
    have GO := Lib.hid (hG.over (Over.of_grown (hi := base) hn (by simp)) (Nat.le_refl _))
    have S6 := Lib.hid (HdAt.new w6 ⟨s0, k0, f0⟩)
    have H6 := Lib.hid (H5.out.grown hgn)
    have L56 := hg.size
    clear hg hgn hpl hbs hG hn
    go_wp2_with fail
    refine (SC.out _ qo co (OB.out.kept G6.out (by simp)) hco.1 hco.2).mono ?_
    rintro e w7 ⟨rfl, hg⟩
    have S7 := S6.out.grown hg
    have H7 := H6.out.grown hg
    have c0 := S7.c0
    have c1 := S7.c1
    have c2 := S7.c2
    have d0 := H7.c0
    have d1 := H7.c1
    have d2 := H7.c2
    have lt1 := S7.lt
    have lt2 := H7.lt
    have GQ := Lib.hid (GO.out.over (Over.of_grown (hi := base) hg (by simp)) (Nat.le_refl _))
    have G7 := Lib.hid (grown_trans G5.out (grown_trans G6.out hg))
    have hzz : ((ys.length : Int) % 18446744073709551616) = ys.length := by omega
    have hzw : IntKind.u64.wrap (ys.length : Int) = ys.length := by rw [IntKind.wrap_u64]; exact hzz
    obtain ⟨hcmA, hcA⟩ := (GQ.out.cms rfl).2
    clear hg S7 H7 GO S6 H6
    go_wp2_with fail
    refine (same_any pre l pre.length n rfl HN.out qr p cr c (GQ.out.cms rfl).1 (IP.out _ G7.out) ?_ FT.out (by omega)).mono ?_
    · exact fun x hx => fits_of (GQ.out.each x hx) (RM.out _ (by rw [← PL.out]; exact List.mem_map_of_mem hx))
    rintro e w8 ⟨rfl, hg⟩
    rw [PL.out, decide_eq_true (rfl : l.map Cm.d = l.map Cm.d)]
    have G8 := Lib.hid (grown_trans G7.out hg)
    clear hg c0 c1 c2 d0 d1 d2
    go_wp2_with fail
    refine (K.out _).mono ?_
    rintro e w9 ⟨rfl, hbk⟩
    have B := Lib.hid ((below_grown G8.out (Nat.le_refl _) (by simp)).trans (hbk.mono G8.out.size))
    clear hbk
    go_wp2
    go_ret
    exact ⟨rfl, B.out⟩
  · have hne : (er == 0) = false := by simpa using her
    have hne2 : (er != 0) = true := by simpa using her
    have hy0 := MBAD.out her
    have hb0 : ((ys.length : Int) == 0) = true := by rw [hy0]; rfl
    clear hy0
    go_wp2_with fail
    refine (K.out _).mono ?_
    rintro e w8 ⟨rfl, hbk⟩
    have B := Lib.hid ((below_grown G3.out (Nat.le_refl _) (by simp)).trans (hbk.mono G3.out.size))
    clear hbk
    go_wp2
    go_ret
    exact ⟨rfl, B.out⟩
end Go.Proofs.Ythdppaooemdmaaa
