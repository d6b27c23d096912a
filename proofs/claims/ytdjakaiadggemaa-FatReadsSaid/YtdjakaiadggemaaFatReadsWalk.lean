/- The walk of FatReads: the slices of any bytes, and which one is taken; each one that is told stands in the file. -/
import Derived.Test.YtdjakaiadggemaaKnown3
import Derived.Test.YtdjakaiadggemaaSame
import Derived.Test.YtdjakaiadggemaaRefAll
import Derived.Deep.Cut
import Derived.Deep.CutRange
namespace Go.Proofs.Ytdjakaiadggemaa.fatReads
open Go.RowKit

set_option maxHeartbeats 1600000 in
set_option maxRecDepth 20000 in
theorem walk (a0 : Option Addr) (len0 cap0 : Nat) (z0 : List Int) (a1 : Int) (w : World) (w0 : IsRow .u8 w a0 len0 cap0 z0) (_w1 : (Lit.int .i64 a1).wf = true) :
    Calls Try.prog 3 #[.slice a0 len0 cap0, .int .i64 a1] w fun e w' => e = .returned (.bool true) ∧ Below w.heap.size w w' := by
  have hcap : len0 ≤ cap0 ∧ cap0 ≤ 9223372036854775807 := by
    rcases w0 with ⟨_, rfl, rfl, _⟩ | ⟨_, _, h1, h2, _⟩
    · omega
    · unfold maxLen at h2; omega
  obtain ⟨ys, rfl, hys, hb, _⟩ := w0.bytes
  have K := Lib.hid (fun w : World => known_any (w := w))
  by_cases h40 : 40000 < ys.length
  · have hd : decide ((40000 : Int) < ys.length) = true := by simp; omega
    go_enter Try.func3, Try.ntmps3
    go_wp2_with fail
    refine (K.out _).mono ?_
    rintro e w' ⟨rfl, hbel⟩
    have B := Lib.hid hbel
    clear hbel
    go_wp2
    go_ret
    exact ⟨rfl, B.out⟩
  · have hd : decide ((40000 : Int) < ys.length) = false := by simp; omega
    have H1 := Lib.hid hys
    have HB := Lib.hid hb
    have SA := Lib.hid (fun (w1 : World) (q : Option Addr) (c : Nat) (h : IsBytes w1 q c ys) (hc : ys.length ≤ c) (hcm : c ≤ 9223372036854775807) => slices_any (w := w1) ys q c ys.length h rfl hc hcm hys)
    have SB := Lib.hid (fun (w1 : World) (hg : w.grownBy w1 none) => refslices_any (w := w1) ys a0 cap0 ys.length (hb.kept hg (by simp)) rfl hcap.1 hcap.2 hys)
    have TA := Lib.hid (fun (w1 : World) (q : Option Addr) (c : Nat) (h : IsBytes w1 q c ys) (hc : ys.length ≤ c) (hcm : c ≤ 9223372036854775807) => slice_any (w := w1) ys q c ys.length h rfl hc hcm hys a1)
    have TB := Lib.hid (fun (w1 : World) (hg : w.grownBy w1 none) => refslice_any (w := w1) ys a0 cap0 ys.length (hb.kept hg (by simp)) rfl hcap.1 hcap.2 hys a1)
    have hl32 := (slicesN_fits hys).2
    have FT := Lib.hid (slicesN_fits hys).1
    have IN := Lib.hid (slicesN_in (ys := ys))
    have XF := Lib.hid (sliceN_fits hys a1)
    have XI := Lib.hid (sliceN_in ys a1)
    clear hys hb w0
    obtain ⟨⟨l, x⟩, hlx⟩ : ∃ z, z = slicesN ys := ⟨_, rfl⟩
    rw [← hlx] at SA SB hl32 FT IN
    obtain ⟨⟨o1, o2, o3⟩, ho⟩ : ∃ z, z = sliceN ys a1 := ⟨_, rfl⟩
    rw [← ho] at TA TB XF XI
    clear hlx ho
    simp only [] at hl32 FT IN TA TB XF XI
    go_enter Try.func3, Try.ntmps3
    go_wp2_with (at_builtin; refine wp_append_bytes rfl _ _ rfl rfl _ _ _ rfl (World.ownsRow_nil w w.heap.size _ _) ys ys.length rfl rfl HB.out (by omega) (Nat.le_refl _) ?_)
    intro v' w1 ho hg0
    obtain ⟨qo, co, rfl⟩ := own_slice ho
    have hco : ys.length ≤ co ∧ co ≤ 9223372036854775807 := by
      rcases ho.2 with ⟨e, e0⟩ | ⟨g, cap, cur, hv, _, _, h1, h2, _⟩
      · injection e with _ _ e3; subst e3; omega
      · injection hv with _ _ e3; subst e3; unfold maxLen at h2; omega
    have OB := Lib.hid (IsBytes.of_own rfl ho)
    have G0 := Lib.hid (show w.grownBy w1 none from hg0)
    clear ho hg0
    go_wp2_with fail
    refine (SA.out w1 qo co OB.out hco.1 hco.2).mono ?_
    rintro e w2 ⟨⟨qa, ca, rfl, hsa, hca, _⟩, hg⟩
    have B2 := Lib.hid (OB.out.kept hg (by simp))
    have LA := Lib.hid hsa
    have G2 := Lib.hid (grown_trans G0.out hg)
    clear hsa hg
    simp only [] at LA hca ⊢
    go_wp2_with fail
    refine (SB.out w2 G2.out).mono ?_
    rintro e w3 ⟨⟨qb, cb, rfl, hsb, hcb, _⟩, hg⟩
    have B3 := Lib.hid (B2.out.kept hg (by simp))
    have LA3 := Lib.hid (LA.out.grown hg)
    have LB3 := Lib.hid hsb
    have G3 := Lib.hid (grown_trans G2.out hg)
    clear hsb hg
    simp only [] at LB3 hcb ⊢
    go_wp2_with fail
    refine (TA.out w3 qo co B3.out hco.1 hco.2).mono ?_
    rintro e w4 ⟨rfl, hg⟩
    have hgn := grown_trans hg (grown1 w4 (.cells #[.int .u64 o1, .int .u64 o2] 33))
    have B4 := Lib.hid (B3.out.kept hgn (by simp))
    have LA4 := Lib.hid (LA3.out.grown hgn)
    have LB4 := Lib.hid (LB3.out.grown hgn)
    have S4 := Lib.hid (SpAt.new w4 o1 o2)
    have G4 := Lib.hid (grown_trans G3.out hgn)
    clear hg hgn
    go_wp2_with fail
    refine (TB.out _ G4.out).mono ?_
    rintro e w5 ⟨rfl, hg⟩
    have hz := S4.out.grown hg
    have hn := grown1 w5 (.cells #[.int .u64 o1, .int .u64 o2] 33)
    have hgn := grown_trans hg hn
    have B5 := Lib.hid (B4.out.kept hgn (by simp))
    have LA5 := Lib.hid (LA4.out.grown hgn)
    have LB5 := Lib.hid (LB4.out.grown hgn)
    have G5 := Lib.hid (grown_trans G4.out hgn)
    have S5 := Lib.hid (hz.grown hn)
    have T5 := Lib.hid (SpAt.new w5 o1 o2)
    have L45 := hg.size
    clear hg hgn hz hn
    go_wp2_with fail
    refine (same_any l l.length rfl hl32 qa qb ca cb LA5.out LB5.out).mono ?_
    rintro e w6 ⟨rfl, hg⟩
    have hA6 := (HB.out.kept (grown_trans G5.out hg) (by simp))
    have hz := S5.out.grown hg
    have ht := T5.out.grown hg
    have z0 := hz.c0
    have z1 := hz.c1
    have t0 := ht.c0
    have t1 := ht.c1
    have hlt := lt_of_block hz
    have hlt2 := lt_of_block ht
    have B6 := B5.out.kept hg (by simp)
    have cv1 := B6.text rfl
    have cv2 := hA6.text rfl
    have LA6 := Lib.hid (LA5.out.grown hg)
    have G6 := Lib.hid (grown_trans G5.out hg)
    have S6 := Lib.hid hz
    clear hg hz ht B6 hA6
    go_wp2
    clear z0 z1 t0 t1 cv1 cv2
    have u1 : ((ys.length : Int) % 18446744073709551616) = ys.length := by omega
    have u2 : IntKind.u64.wrap (ys.length : Int) = ys.length := by rw [IntKind.wrap_u64]; exact u1
    go_loopw [14] (fun i wr => ∃ k : Nat, i = .int .i64 k ∧ w6.grownBy wr none) (fun i _ => l.length - (intOf i).toNat)
    case atStart => exact ⟨0, rfl, grown_refl _ _⟩
    case round =>
      obtain ⟨k, rfl, hg⟩ := hrel
      by_cases hlt : k < l.length
      · obtain ⟨s, hs⟩ : ∃ s, l[k]? = some s := ⟨_, List.getElem?_eq_getElem hlt⟩
        obtain ⟨b, o, rfl, hc⟩ := (LA6.out.grown hg) (by omega)
        obtain ⟨c0, c1, c2, c3, c4⟩ := hc k s hs
        have hfs := FT.out s (List.mem_of_getElem? hs)
        have hin := IN.out s (List.mem_of_getElem? hs)
        have WI := Lib.hid (fun W => rwithin_any (w := W) s.off s.size ys.length hfs.off hfs.size (by omega))
        rw [decide_eq_true hin] at WI
        have G := Lib.hid hg
        clear hc hs hg hfs hin
        go_wp2
        go_quiet ((go_at_call 14; exact Calls.quiet_of_same (WI.out _)))
        go_wp2
        go_roundw
        case rel => exact ⟨k + 1, by go_num, grown_drewN G.out _⟩
        case measure => simp [intOf]; omega
      · have hz := S6.out.grown hg
        have z0 := hz.c0
        have z1 := hz.c1
        have WI := Lib.hid (fun W => rwithin_any (w := W) o1 o2 ys.length XF.out.1 XF.out.2 (by omega))
        rw [decide_eq_true XI.out] at WI
        have GA := Lib.hid (grown_trans G6.out hg)
        clear hz hg
        go_wp2_with fail
        refine (WI.out _).mono ?_
        rintro e w7 ⟨rfl, rfl⟩
        go_wp2_with fail
        refine (K.out _).mono ?_
        rintro e w8 ⟨rfl, hbk⟩
        have B := Lib.hid ((below_grown GA.out (Nat.le_refl _) (by simp)).trans (hbk.mono GA.out.size))
        clear hbk
        go_wp2
        go_ret
        exact ⟨rfl, B.out⟩
end Go.Proofs.Ytdjakaiadggemaa.fatReads
