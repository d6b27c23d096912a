/- The document's symbol of an entry of which a name is told: clevisref10.one. Conditions: the bytes lie in memory. -/
import Derived.Test.YtlmgkofbjcahaaaNlG
import Derived.Deep.Cut
import Derived.Deep.CutRange
namespace Go.Proofs.Ytlmgkofbjcahaaa
open Go.RowKit
variable {w w' : World} {ys e : List Int} {n : Int}

def oneV (ys : List Int) (n : Int) (e : List Int) : Sym := if nlErr ys n e = 0 then nlNew ys e else ([], Sy.zero)
theorem div_le_0 (n : Nat) : (0 : Int) ≤ (n : Int) := by omega
set_option maxRecDepth 20000 in
set_option maxHeartbeats 1600000 in
theorem one10_any {q q2 : Option Addr} {c c2 N : Nat} (hb : IsBytes w q c e) (hl : e.length = 16) (hc : 16 ≤ c) (hcm : c ≤ 9223372036854775807) (he : Byt e)
    (hb2 : IsBytes w q2 c2 ys) (hN : ys.length = N) (hbig : N ≤ 140737488355328) (hc2 : N ≤ c2) (ht : nlTold e = true) :
    Calls Try.prog 22 #[.slice q 16 c, .slice q2 N c2, .int .i64 n] w fun r w' => r = .returned (.tuple #[syV (strOfNums (oneV ys n e).1) (oneV ys n e).2, .int .i64 (nlErr ys n e)]) ∧ w.grownBy w' none := by
  have Q8 := Lib.hid (fun (V : World) (hV : w.grownBy V none) => get10_any e (hb.kept hV (by simp)) hl hc hcm he 8 8 (by decide) (by omega))
  have Q6 := Lib.hid (fun (V : World) (hV : w.grownBy V none) => get10_any e (hb.kept hV (by simp)) hl hc hcm he 6 2 (by decide) (by omega))
  have Q0 := Lib.hid (fun (V : World) (hV : w.grownBy V none) => get10_any e (hb.kept hV (by simp)) hl hc hcm he 0 4 (by decide) (by omega))
  rw [show leN ((e.drop 8).take 8) = nlVal e from rfl] at Q8
  rw [show leN ((e.drop 6).take 2) = nlDesc e from rfl] at Q6
  rw [show leN ((e.drop 0).take 4) = nlPlace e from rfl] at Q0
  obtain ⟨b, o, rfl, hcell⟩ := hb.2 (by omega)
  have C4 := Lib.hid (show w.cell? ⟨b, o + 4, none⟩ = some (.int .u8 (nlKind e)) from hcell 4 (by omega))
  have C5 := Lib.hid (show w.cell? ⟨b, o + 5, none⟩ = some (.int .u8 (nlSec e)) from hcell 5 (by omega))
  have bp := nlPlace_bd he
  have bd := nlDesc_bd he
  have bv := nlVal_bd he
  have b5 : 0 ≤ nlSec e ∧ nlSec e < 256 := byt_at he 5
  obtain ⟨P, hP⟩ : ∃ P : Nat, nlPlace e = P := ⟨(nlPlace e).toNat, by omega⟩
  have NM := Lib.hid (fun (V : World) (hV : w.grownBy V none) (b2 o2 : Nat) (hq : q2 = some ⟨b2, o2, none⟩) (h : P < N) =>
    name01_any (w := V) b2 (o2 + P) (c2 - P) (N - P) (ys.drop P) (by
      have := (hb2.kept hV (by simp)).2 (by omega)
      obtain ⟨b', o', e', hx⟩ := this
      rw [hq] at e'
      injection e' with e'
      injection e' with e1 e2 _
      subst e1 e2
      refine IsBytes.mk_at fun i hi => ?_
      rw [List.length_drop] at hi
      rw [Nat.add_assoc, hx (P + i) (by omega)]
      simp [List.getD, List.getElem?_drop]) (by rw [List.length_drop, hN]) (by omega) (by omega))
  have HQ := Lib.hid (fun (h : P < N) => (by
    obtain ⟨b', o', e', hx⟩ := hb2.2 (by omega)
    obtain ⟨V, hV, _, h3⟩ := cut_bytes (c := c2) (p := P) hx (by omega) (by omega) .u64
    rw [h3 (by omega), hN] at hV
    exact ⟨b', o', e', hV⟩ : ∃ b2 o2, q2 = some ⟨b2, o2, none⟩ ∧ ∀ W, (Instr.slice 22 (.slice (some ⟨b2, o2, none⟩) N c2) (some (.int .u64 (P : Int))) none none).run Try.prog W = .ok (.slice (some ⟨b2, o2 + P, none⟩) (N - P) (c2 - P)) W))
  obtain ⟨E, hE⟩ : ∃ E, E = nlErr ys n e := ⟨_, rfl⟩
  obtain ⟨y, hyv⟩ : ∃ y, y = oneV ys n e := ⟨_, rfl⟩
  rw [← hE, ← hyv]
  have Y1 := Lib.hid (show E ≠ 0 → y = ([], Sy.zero) from fun h => by rw [hyv]; unfold oneV; rw [← hE, if_neg h])
  have Y0 := Lib.hid (show E = 0 → y = (pre (ys.drop P), ⟨if nlKind e = 15 then nlSec e else 0, nlVal e, decide (nlDesc e / 128 % 2 = 1)⟩) from fun h => by
    rw [hyv]; unfold oneV; rw [← hE, if_pos h]; unfold nlNew nlNm nlSy; rw [hP, Int.toNat_natCast])
  unfold nlErr nlNm at hE
  rw [hP, Int.toNat_natCast, hN, List.length_drop, hN] at hE
  have hk : nlKind e = 15 ∨ nlKind e = 3 := by
    unfold nlTold at ht
    simpa using ht
  obtain ⟨Wk, hWk⟩ : ∃ W, W = decide (nlDesc e / 128 % 2 = 1) := ⟨_, rfl⟩
  have hw1 : (nlDesc e / 128 % 2 == 1) = Wk := by rw [hWk]; rfl
  rw [← hWk] at Y0
  rw [hP] at Q0 bp
  generalize nlKind e = K at *
  generalize nlSec e = S at *
  generalize nlVal e = Vl at *
  generalize nlDesc e = De at *
  have hTl := pre_le (ys.drop P)
  rw [List.length_drop, hN] at hTl
  have n1 := text_nil (pre (ys.drop P))
  have hsz : (strOfNums (pre (ys.drop P))).size = (pre (ys.drop P)).length := strOfNums_size _
  generalize pre (ys.drop P) = T at *
  have HE := Lib.hid hE
  have g0 := grown1 w (.cells #[.string ⟨#[]⟩, .int .i64 0, .int .u64 0, .bool false] 32)
  have s0 := SyAt.new w ⟨#[]⟩ Sy.zero
  have SI := Lib.hid (fun (V : World) (hV : w.grownBy V none) (kl : IntKind) (hp : P < N) => (cut_lo (T := 22) (k := 1) (by kernel_rfl) (fun W => by kernel_rfl) 0 0 N c2 P kl (Nat.le_of_lt hp)))
  clear SI
  obtain ⟨R, hR⟩ : ∃ R, R = w.heap.size := ⟨_, rfl⟩
  have hRw : w.heap.size ≤ R := by rw [hR]; exact Nat.le_refl _
  obtain ⟨w1, hw1'⟩ : ∃ W, W = w.alloc (.cells #[.string ⟨#[]⟩, .int .i64 0, .int .u64 0, .bool false] 32) := ⟨_, rfl⟩
  rw [← hR] at s0
  simp only [Sy.zero] at s0
  rw [← hw1'] at s0 g0
  have hRl : R < w1.heap.size := lt_of_block s0
  have S0 := Lib.hid s0
  have G0 := Lib.hid g0
  clear hb hb2 hl he hE hyv hWk ht s0 g0 hcell hN
  go_enter Try.func22, Try.ntmps22
  go_upto_region 1 with fail
  rw [← hw1', ← hR]
  clear hw1' hR
  go_wp2_with fail
  refine (Q8.out _ G0.out).mono ?_
  rintro r w2 ⟨rfl, hg⟩
  have G2 := Lib.hid (grown_trans G0.out hg)
  have S2 := Lib.hid (S0.out.kept hg (by simp))
  clear hg S0
  go_wp2_with fail
  refine (Q6.out _ G2.out).mono ?_
  rintro r w3 ⟨rfl, hg⟩
  have G3 := Lib.hid (grown_trans G2.out hg)
  have S3 := Lib.hid (S2.out.kept hg (by simp))
  have hl3 : R < w3.heap.size := S3.out.lt
  clear hg S2 G2 Q8 Q6
  have g4 := grown1 w3 (.cells #[.string ⟨#[]⟩, .int .i64 0, .int .u64 Vl, .bool Wk] 32)
  have x4 := SyAt.new w3 ⟨#[]⟩ ⟨0, Vl, Wk⟩
  obtain ⟨w4, hw4⟩ : ∃ W, W = w3.alloc (.cells #[.string ⟨#[]⟩, .int .i64 0, .int .u64 Vl, .bool Wk] 32) := ⟨_, rfl⟩
  obtain ⟨X, hX⟩ : ∃ X, X = w3.heap.size := ⟨_, rfl⟩
  rw [← hX] at x4
  rw [← hw4] at g4 x4
  have G4 := Lib.hid (grown_trans G3.out g4)
  have S4 := Lib.hid (S3.out.kept g4 (by simp))
  have X4 := Lib.hid x4
  have hRX : R ≠ X := by omega
  have hwX : w.heap.size ≤ X := by rw [hX]; exact G3.out.size
  have hXl := x4.lt
  have hRl4 := S4.out.lt
  go_upto_region 2 with fail
  rw [← hw4, ← hX]
  clear hw4 hX g4 x4 S3 G3 hl3 hRl
  have c4 := grown_cell G4.out C4.out
  have c5 := grown_cell G4.out C5.out
  have he0 := HE.out
  rcases hk with rfl | rfl
  · rw [if_pos rfl] at Y0
    obtain ⟨hS0, hS1⟩ := b5
    have hS2 : S ≤ 9223372036854775807 := by omega
    have hSw : wrap64 S = S := IntWalk.wrap64_in S (by omega)
    have xq := X4.out.c
    simp only [] at xq
    obtain ⟨xq0, xq1, xq2, xq3⟩ := xq
    have xqf := X4.out.fz 1
    have gs := grown_setCell (i := 1) (grown_refl w4 (some X)) (.int .i64 S)
    have X5 := Lib.hid (X4.out.s1 S)
    have S5 := Lib.hid (S4.out.kept gs (fun e => by injection e with e; exact hRX e.symm))
    have G5 := Lib.hid (grown_new G4.out gs hwX)
    clear gs
    obtain ⟨w5, hw5⟩ : ∃ W, W = w4.setCell ⟨X, 1, none⟩ (.int .i64 S) := ⟨_, rfl⟩
    rw [← hw5] at X5 S5 G5
    go_upto_region 4 with fail
    rw [← hw5]
    clear hw5 xq0 xq1 xq2 xq3 xqf c4 c5 hRl4 hXl
    have xq := X5.out.c
    simp only [] at xq
    obtain ⟨xq0, xq1, xq2, xq3⟩ := xq
    have hXl := X5.out.lt
    have hRl4 := S5.out.lt
    by_cases hs0 : S = 0
    · have ds : decide (S < 1) = true := by simp; omega
      rw [if_pos ⟨rfl, .inl hs0⟩] at he0
      have EE := Lib.hid he0
      clear he0 hs0
      have xr := S5.out.c
      simp only [] at xr
      obtain ⟨r0, r1, r2, r3⟩ := xr
      have rf := S5.out.fz
      have SE := Lib.hid (S5.out.put ⟨#[]⟩ Sy.zero)
      have GE := Lib.hid (grown_new G5.out (grown_put4 (grown_refl _ (some R)) (.string ⟨#[]⟩) (.int .i64 0) (.int .u64 0) (.bool false)) hRw)
      simp only [Sy.zero] at SE
      go_wp2
      refine bodyPost_ret (results_sy2 rfl rfl rfl SE.out) rfl ?_
      refine ⟨?_, GE.out⟩
      rw [Y1.out (by rw [EE.out]; decide), EE.out]
      rfl
    · have ds : decide (S < 1) = false := by simp; omega
      by_cases hsn : n < S
      · have dn : decide (n < S) = true := decide_eq_true hsn
        rw [if_pos ⟨rfl, .inr hsn⟩] at he0
        have EE := Lib.hid he0
        clear he0 hs0 hsn
        have xr := S5.out.c
        simp only [] at xr
        obtain ⟨r0, r1, r2, r3⟩ := xr
        have rf := S5.out.fz
        have SE := Lib.hid (S5.out.put ⟨#[]⟩ Sy.zero)
        have GE := Lib.hid (grown_new G5.out (grown_put4 (grown_refl _ (some R)) (.string ⟨#[]⟩) (.int .i64 0) (.int .u64 0) (.bool false)) hRw)
        simp only [Sy.zero] at SE
        go_wp2
        refine bodyPost_ret (results_sy2 rfl rfl rfl SE.out) rfl ?_
        refine ⟨?_, GE.out⟩
        rw [Y1.out (by rw [EE.out]; decide), EE.out]
        rfl
      · have dn : decide (n < S) = false := decide_eq_false hsn
        rw [if_neg (fun h => h.2.elim hs0 hsn)] at he0
        clear hs0 hsn
        go_wp2_with fail
        refine (Q0.out _ G5.out).mono ?_
        rintro r wB ⟨rfl, hg⟩
        have GB := Lib.hid (grown_trans G5.out hg)
        have XB := Lib.hid (X5.out.kept hg (by simp))
        have SB := Lib.hid (S5.out.kept hg (by simp))
        clear hg
        by_cases hNP : N ≤ P
        · have dNP : decide ((N : Int) ≤ (P : Int)) = true := by simp; omega
          have dNQ : decide (N ≤ P) = true := decide_eq_true hNP
          rw [if_pos (by omega)] at he0
          have EE := Lib.hid he0
          clear he0 hNP
          have xr := SB.out.c
          simp only [] at xr
          obtain ⟨r0, r1, r2, r3⟩ := xr
          have rf := SB.out.fz
          have SE := Lib.hid (SB.out.put ⟨#[]⟩ Sy.zero)
          have GE := Lib.hid (grown_new GB.out (grown_put4 (grown_refl _ (some R)) (.string ⟨#[]⟩) (.int .i64 0) (.int .u64 0) (.bool false)) hRw)
          simp only [Sy.zero] at SE
          go_wp2
          refine bodyPost_ret (results_sy2 rfl rfl rfl SE.out) rfl ?_
          refine ⟨?_, GE.out⟩
          rw [Y1.out (by rw [EE.out]; decide), EE.out]
          rfl
        · have dNP : decide ((N : Int) ≤ (P : Int)) = false := by simp; omega
          have dNQ : decide (N ≤ P) = false := decide_eq_false hNP
          rw [if_neg (by omega)] at he0
          obtain ⟨b2, o2, rfl, hcut⟩ := HQ.out (by omega)
          have hcut := hcut wB
          have NB := Lib.hid (NM.out _ GB.out b2 o2 rfl (by omega))
          have xb := XB.out.c
          simp only [] at xb
          obtain ⟨xb0, xb1, xb2, xb3⟩ := xb
          have xf := XB.out.fz 0
          have xl := XB.out.lt
          have gs := grown_setCell (i := 0) (grown_refl wB (some X)) (.string (strOfNums T))
          have XC := Lib.hid (XB.out.s0 (strOfNums T))
          have SC := Lib.hid (SB.out.kept gs (fun e => by injection e with e; exact hRX e.symm))
          have GC := Lib.hid (grown_new GB.out gs hwX)
          clear gs
          have hNP2 : (P : Int) ≤ 9223372036854775807 := by omega
          go_wp2_with fail
          refine NB.out.mono ?_
          rintro r wD ⟨rfl, rfl⟩
          obtain ⟨wC, hwC⟩ : ∃ W, W = wD.setCell ⟨X, 0, none⟩ (.string (strOfNums T)) := ⟨_, rfl⟩
          rw [← hwC] at XC SC GC
          go_upto_region 10 with fail
          rw [← hwC]
          clear hwC hcut xb0 xb1 xb2 xb3 xf xl
          have xc := XC.out.c
          simp only [] at xc
          obtain ⟨xc0, xc1, xc2, xc3⟩ := xc
          have xcl := XC.out.lt
          have sl := SC.out.lt
          by_cases hT0 : T = []
          · rw [decide_eq_true hT0] at n1
            rw [if_pos (.inl hT0)] at he0
            have EE := Lib.hid he0
            clear he0 hNP hT0
            have xr := SC.out.c
            simp only [] at xr
            obtain ⟨r0, r1, r2, r3⟩ := xr
            have rf := SC.out.fz
            have SE := Lib.hid (SC.out.put ⟨#[]⟩ Sy.zero)
            have GE := Lib.hid (grown_new GC.out (grown_put4 (grown_refl _ (some R)) (.string ⟨#[]⟩) (.int .i64 0) (.int .u64 0) (.bool false)) hRw)
            simp only [Sy.zero] at SE
            go_wp2
            refine bodyPost_ret (results_sy2 rfl rfl rfl SE.out) rfl ?_
            refine ⟨?_, GE.out⟩
            rw [Y1.out (by rw [EE.out]; decide), EE.out]
            rfl
          · rw [decide_eq_false hT0] at n1
            by_cases hEnd : N - P ≤ T.length
            · have dEnd : ((P : Int) + (T.length : Int) == (N : Int)) = true := by rw [beq_iff_eq]; omega
              rw [if_pos (.inr hEnd)] at he0
              have EE := Lib.hid he0
              clear he0 hNP hT0 hEnd
              have xr := SC.out.c
              simp only [] at xr
              obtain ⟨r0, r1, r2, r3⟩ := xr
              have rf := SC.out.fz
              have SE := Lib.hid (SC.out.put ⟨#[]⟩ Sy.zero)
              have GE := Lib.hid (grown_new GC.out (grown_put4 (grown_refl _ (some R)) (.string ⟨#[]⟩) (.int .i64 0) (.int .u64 0) (.bool false)) hRw)
              simp only [Sy.zero] at SE
              go_wp2
              refine bodyPost_ret (results_sy2 rfl rfl rfl SE.out) rfl ?_
              refine ⟨?_, GE.out⟩
              rw [Y1.out (by rw [EE.out]; decide), EE.out]
              rfl
            · have dEnd : ((P : Int) + (T.length : Int) == (N : Int)) = false := by rw [beq_eq_false_iff_ne]; omega
              rw [if_neg (fun h => h.elim hT0 hEnd)] at he0
              by_cases hLong : 255 < T.length
              · have dLong : decide ((255 : Int) < (T.length : Int)) = true := by simp; omega
                rw [if_pos hLong] at he0
                have EE := Lib.hid he0
                clear he0 hNP hT0 hEnd hLong
                have xr := SC.out.c
                simp only [] at xr
                obtain ⟨r0, r1, r2, r3⟩ := xr
                have rf := SC.out.fz
                have SE := Lib.hid (SC.out.put ⟨#[]⟩ Sy.zero)
                have GE := Lib.hid (grown_new GC.out (grown_put4 (grown_refl _ (some R)) (.string ⟨#[]⟩) (.int .i64 0) (.int .u64 0) (.bool false)) hRw)
                simp only [Sy.zero] at SE
                go_wp2
                refine bodyPost_ret (results_sy2 rfl rfl rfl SE.out) rfl ?_
                refine ⟨?_, GE.out⟩
                rw [Y1.out (by rw [EE.out]; decide), EE.out]
                rfl
              · have dLong : decide ((255 : Int) < (T.length : Int)) = false := by simp; omega
                rw [if_neg hLong] at he0
                have EE := Lib.hid he0
                clear he0 hNP hT0 hEnd hLong
                have xr := SC.out.c
                simp only [] at xr
                obtain ⟨r0, r1, r2, r3⟩ := xr
                have rf := SC.out.fz
                have SE := Lib.hid (SC.out.put (strOfNums T) ⟨S, Vl, Wk⟩)
                have GE := Lib.hid (grown_new GC.out (grown_put4 (grown_refl _ (some R)) (.string (strOfNums T)) (.int .i64 S) (.int .u64 Vl) (.bool Wk)) hRw)
                simp only [] at SE
                go_wp2
                refine bodyPost_ret (results_sy2 rfl rfl rfl SE.out) rfl ?_
                refine ⟨?_, GE.out⟩
                rw [Y0.out EE.out, EE.out]
                rfl
  · rw [if_neg (fun h => absurd h.1 (by decide))] at he0
    rw [if_neg (by decide)] at Y0
    go_wp2_with fail
    refine (Q0.out _ G4.out).mono ?_
    rintro r wB ⟨rfl, hg⟩
    have GB := Lib.hid (grown_trans G4.out hg)
    have XB := Lib.hid (X4.out.kept hg (by simp))
    have SB := Lib.hid (S4.out.kept hg (by simp))
    clear hg
    by_cases hNP : N ≤ P
    · have dNP : decide ((N : Int) ≤ (P : Int)) = true := by simp; omega
      have dNQ : decide (N ≤ P) = true := decide_eq_true hNP
      rw [if_pos (by omega)] at he0
      have EE := Lib.hid he0
      clear he0 hNP
      have xr := SB.out.c
      simp only [] at xr
      obtain ⟨r0, r1, r2, r3⟩ := xr
      have rf := SB.out.fz
      have SE := Lib.hid (SB.out.put ⟨#[]⟩ Sy.zero)
      have GE := Lib.hid (grown_new GB.out (grown_put4 (grown_refl _ (some R)) (.string ⟨#[]⟩) (.int .i64 0) (.int .u64 0) (.bool false)) hRw)
      simp only [Sy.zero] at SE
      go_wp2
      refine bodyPost_ret (results_sy2 rfl rfl rfl SE.out) rfl ?_
      refine ⟨?_, GE.out⟩
      rw [Y1.out (by rw [EE.out]; decide), EE.out]
      rfl
    · have dNP : decide ((N : Int) ≤ (P : Int)) = false := by simp; omega
      have dNQ : decide (N ≤ P) = false := decide_eq_false hNP
      rw [if_neg (by omega)] at he0
      obtain ⟨b2, o2, rfl, hcut⟩ := HQ.out (by omega)
      have hcut := hcut wB
      have NB := Lib.hid (NM.out _ GB.out b2 o2 rfl (by omega))
      have xb := XB.out.c
      simp only [] at xb
      obtain ⟨xb0, xb1, xb2, xb3⟩ := xb
      have xf := XB.out.fz 0
      have xl := XB.out.lt
      have gs := grown_setCell (i := 0) (grown_refl wB (some X)) (.string (strOfNums T))
      have XC := Lib.hid (XB.out.s0 (strOfNums T))
      have SC := Lib.hid (SB.out.kept gs (fun e => by injection e with e; exact hRX e.symm))
      have GC := Lib.hid (grown_new GB.out gs hwX)
      clear gs
      have hNP2 : (P : Int) ≤ 9223372036854775807 := by omega
      go_wp2_with fail
      refine NB.out.mono ?_
      rintro r wD ⟨rfl, rfl⟩
      obtain ⟨wC, hwC⟩ : ∃ W, W = wD.setCell ⟨X, 0, none⟩ (.string (strOfNums T)) := ⟨_, rfl⟩
      rw [← hwC] at XC SC GC
      go_upto_region 10 with fail
      rw [← hwC]
      clear hwC hcut xb0 xb1 xb2 xb3 xf xl
      have xc := XC.out.c
      simp only [] at xc
      obtain ⟨xc0, xc1, xc2, xc3⟩ := xc
      have xcl := XC.out.lt
      have sl := SC.out.lt
      by_cases hT0 : T = []
      · rw [decide_eq_true hT0] at n1
        rw [if_pos (.inl hT0)] at he0
        have EE := Lib.hid he0
        clear he0 hNP hT0
        have xr := SC.out.c
        simp only [] at xr
        obtain ⟨r0, r1, r2, r3⟩ := xr
        have rf := SC.out.fz
        have SE := Lib.hid (SC.out.put ⟨#[]⟩ Sy.zero)
        have GE := Lib.hid (grown_new GC.out (grown_put4 (grown_refl _ (some R)) (.string ⟨#[]⟩) (.int .i64 0) (.int .u64 0) (.bool false)) hRw)
        simp only [Sy.zero] at SE
        go_wp2
        refine bodyPost_ret (results_sy2 rfl rfl rfl SE.out) rfl ?_
        refine ⟨?_, GE.out⟩
        rw [Y1.out (by rw [EE.out]; decide), EE.out]
        rfl
      · rw [decide_eq_false hT0] at n1
        by_cases hEnd : N - P ≤ T.length
        · have dEnd : ((P : Int) + (T.length : Int) == (N : Int)) = true := by rw [beq_iff_eq]; omega
          rw [if_pos (.inr hEnd)] at he0
          have EE := Lib.hid he0
          clear he0 hNP hT0 hEnd
          have xr := SC.out.c
          simp only [] at xr
          obtain ⟨r0, r1, r2, r3⟩ := xr
          have rf := SC.out.fz
          have SE := Lib.hid (SC.out.put ⟨#[]⟩ Sy.zero)
          have GE := Lib.hid (grown_new GC.out (grown_put4 (grown_refl _ (some R)) (.string ⟨#[]⟩) (.int .i64 0) (.int .u64 0) (.bool false)) hRw)
          simp only [Sy.zero] at SE
          go_wp2
          refine bodyPost_ret (results_sy2 rfl rfl rfl SE.out) rfl ?_
          refine ⟨?_, GE.out⟩
          rw [Y1.out (by rw [EE.out]; decide), EE.out]
          rfl
        · have dEnd : ((P : Int) + (T.length : Int) == (N : Int)) = false := by rw [beq_eq_false_iff_ne]; omega
          rw [if_neg (fun h => h.elim hT0 hEnd)] at he0
          by_cases hLong : 255 < T.length
          · have dLong : decide ((255 : Int) < (T.length : Int)) = true := by simp; omega
            rw [if_pos hLong] at he0
            have EE := Lib.hid he0
            clear he0 hNP hT0 hEnd hLong
            have xr := SC.out.c
            simp only [] at xr
            obtain ⟨r0, r1, r2, r3⟩ := xr
            have rf := SC.out.fz
            have SE := Lib.hid (SC.out.put ⟨#[]⟩ Sy.zero)
            have GE := Lib.hid (grown_new GC.out (grown_put4 (grown_refl _ (some R)) (.string ⟨#[]⟩) (.int .i64 0) (.int .u64 0) (.bool false)) hRw)
            simp only [Sy.zero] at SE
            go_wp2
            refine bodyPost_ret (results_sy2 rfl rfl rfl SE.out) rfl ?_
            refine ⟨?_, GE.out⟩
            rw [Y1.out (by rw [EE.out]; decide), EE.out]
            rfl
          · have dLong : decide ((255 : Int) < (T.length : Int)) = false := by simp; omega
            rw [if_neg hLong] at he0
            have EE := Lib.hid he0
            clear he0 hNP hT0 hEnd hLong
            have xr := SC.out.c
            simp only [] at xr
            obtain ⟨r0, r1, r2, r3⟩ := xr
            have rf := SC.out.fz
            have SE := Lib.hid (SC.out.put (strOfNums T) ⟨0, Vl, Wk⟩)
            have GE := Lib.hid (grown_new GC.out (grown_put4 (grown_refl _ (some R)) (.string (strOfNums T)) (.int .i64 0) (.int .u64 Vl) (.bool Wk)) hRw)
            simp only [] at SE
            go_wp2
            refine bodyPost_ret (results_sy2 rfl rfl rfl SE.out) rfl ?_
            refine ⟨?_, GE.out⟩
            rw [Y0.out EE.out, EE.out]
            rfl
end Go.Proofs.Ytlmgkofbjcahaaa
