/- An entry taken in: (*nlist.telling).take. Conditions: the telling is in memory; the entry's bytes lie in memory. -/
import Derived.Test.YtlmgkofbjcahaaaNlB
namespace Go.Proofs.Ytlmgkofbjcahaaa
open Go.RowKit Go.Maps
variable {w w' : World} {B g a lo hi m : Nat} {v : Value} {ys : List Int} {n : Int} {p : Nat} {D : Syms}

theorem addE_none {q : Nat} (hq : ¬ (q ≤ ys.length ∧ (pre (ys.drop q)).length < (ys.drop q).length)) : addE ys D q = 13 := by
  unfold addE nmErr
  rw [Int.toNat_natCast]
  by_cases h1 : (ys.length : Int) ≤ (q : Int)
  · rw [if_pos h1]; rfl
  · rw [if_neg h1]
    have h2 : (pre (ys.drop q) = [] ∨ (ys.drop q).length ≤ (pre (ys.drop q)).length) := .inr (by have : ¬ _ := fun h => hq ⟨by omega, h⟩; omega)
    rw [if_pos h2]; rfl
theorem add_any (h : TelAt w B g a lo hi m v ys n p D) (hok : SymsOk D) (hy : Byt ys) (q : Nat) (h32 : (q : Int) < 4294967296) (x : Sy) :
    Calls Try.prog 34 #[.pointer (some ⟨g, 0, none⟩), syV ⟨#[]⟩ x, .int .u64 q] w fun e w' => AddOut w w' B g a lo hi m ys n D (D ++ [(pre (ys.drop q), x)]) (addE ys D q) e := by
  by_cases hq : q ≤ ys.length ∧ (pre (ys.drop q)).length < (ys.drop q).length
  · exact add_some h hok hy q hq h32 x
  · refine (add_none h (fun y hy => (hok.each y hy).1) q hq h32 _ x).mono ?_
    rintro e w' ⟨rfl, hb⟩
    rw [addE_none hq]
    exact ⟨rfl, hb, fun h => by cases h⟩
/-- A cursor of the call's own, beside the telling. -/
theorem TelAt.beside (h : TelAt w B g a lo hi m v ys n p D) {w1 : World} (k : Below w.heap.size w w1) {b : Nat} (hb : w.heap.size ≤ b) {w2 : World} (k2 : w1.grownBy w2 (some b)) : TelAt w2 B g a lo hi m v ys n p D :=
  h.grown (grown_new (grown_below k none) k2 hb)
set_option maxRecDepth 20000 in
set_option maxHeartbeats 1600000 in
theorem take_any10 (h : TelAt w B g a lo hi m v ys n p D) (hok : SymsOk D) (hy : Byt ys) {e : List Int} {q : Option Addr} {c : Nat} (hb : IsBytes w q c e) (hl : e.length = 16) (he : Byt e) :
    Calls Try.prog 20 #[.pointer (some ⟨g, 0, none⟩), .slice q 16 c] w fun r w' => AddOut w w' B g a lo hi m ys n D (nlD ys D e) (nlE ys n D e) r := by
  have hBhi : B ≤ hi := Nat.le_trans h.lo (Nat.le_of_lt (Nat.lt_of_le_of_lt h.pen.lw h.pen.up))
  have hBw : B ≤ w.heap.size := Nat.le_trans hBhi h.pen.sz
  have NW := Lib.hid (pen_new hb hl (by omega) he false)
  have H := Lib.hid h
  have HOK := Lib.hid hok
  have HY := Lib.hid hy
  have HE := Lib.hid he
  have HL := Lib.hid hl
  have N0 := Lib.hid (fun (V : World) (lo hi b : Nat) (hp : Pen V lo hi b e 0 false false) => pen_num hp 4 (by decide) (by omega))
  have N4 := Lib.hid (fun (V : World) (lo hi b : Nat) (hp : Pen V lo hi b e 4 false false) => pen_num hp 1 (by decide) (by omega))
  have N5 := Lib.hid (fun (V : World) (lo hi b : Nat) (hp : Pen V lo hi b e 5 false false) => pen_num hp 1 (by decide) (by omega))
  have N6 := Lib.hid (fun (V : World) (lo hi b : Nat) (hp : Pen V lo hi b e 6 false false) => pen_num hp 2 (by decide) (by omega))
  have N8 := Lib.hid (fun (V : World) (lo hi b : Nat) (hp : Pen V lo hi b e 8 false false) => pen_num hp 8 (by decide) (by omega))
  rw [show numOf false ((e.drop 0).take 4) = nlPlace e from rfl] at N0
  rw [one_at (show 4 < e.length by omega), show numOf false [e.getD 4 0] = nlKind e from le_one _] at N4
  rw [one_at (show 5 < e.length by omega), show numOf false [e.getD 5 0] = nlSec e from le_one _] at N5
  rw [show numOf false ((e.drop 6).take 2) = nlDesc e from rfl] at N6
  rw [show numOf false ((e.drop 8).take 8) = nlVal e from rfl] at N8
  have b4 : 0 ≤ nlKind e ∧ nlKind e < 256 := byt_at he 4
  have b5 : 0 ≤ nlSec e ∧ nlSec e < 256 := byt_at he 5
  have bp := nlPlace_bd he
  have bd := nlDesc_bd he
  have bv := nlVal_bd he
  have AD := Lib.hid (fun (V : World) (hV : w.grownBy V none) (x : Sy) (P : Nat) (hP : (P : Int) < 4294967296) => add_any (h.grown hV) hok hy P hP x)
  obtain ⟨P, hP⟩ : ∃ P : Nat, nlPlace e = P := ⟨(nlPlace e).toNat, by omega⟩
  have EB : nlKind e = 15 → (nlSec e = 0 ∨ n < nlSec e) → nlE ys n D e = 13 := fun h1 h2 => by
    have ht : nlTold e = true := by unfold nlTold; simp [h1]
    unfold nlE
    rw [if_pos ht, nlAdd_is, if_pos ⟨h1, h2⟩]
  have EG : (nlKind e = 3 ∨ (nlKind e = 15 ∧ ¬ (nlSec e = 0 ∨ n < nlSec e))) → nlE ys n D e = addE ys D P ∧ nlD ys D e = D ++ [(pre (ys.drop P), ⟨if nlKind e = 15 then nlSec e else 0, nlVal e, decide (nlDesc e / 128 % 2 = 1)⟩)] := fun h1 => by
    have ht : nlTold e = true := by unfold nlTold; rcases h1 with h1 | h1 <;> simp [h1]
    unfold nlE nlD
    rw [if_pos ht, if_pos ht, nlAdd_is, if_neg (fun h2 => by rcases h1 with h1 | h1; (rw [h1] at h2; exact absurd h2.1 (by decide)); exact h1.2 h2.2), hP]
    refine ⟨rfl, ?_⟩
    unfold nlNew nlNm nlSy
    rw [hP, Int.toNat_natCast]
  have EN : ¬ nlKind e = 15 → ¬ nlKind e = 3 → nlE ys n D e = 0 ∧ nlD ys D e = D := fun h1 h2 => by
    have ht : ¬ nlTold e = true := by unfold nlTold; simp [h1, h2]
    unfold nlE nlD
    rw [if_neg ht, if_neg ht]
    exact ⟨rfl, rfl⟩
  rw [hP] at N0 bp
  obtain ⟨E, hE⟩ : ∃ E, E = nlE ys n D e := ⟨_, rfl⟩
  obtain ⟨D', hD'⟩ : ∃ D', D' = nlD ys D e := ⟨_, rfl⟩
  rw [← hE, ← hD'] at EG EN ⊢
  rw [← hE] at EB
  generalize nlKind e = K at *
  generalize nlSec e = S at *
  generalize nlVal e = Vl at *
  generalize nlDesc e = De at *
  have B1 := Lib.hid EB
  have B2 := Lib.hid EG
  have B3 := Lib.hid EN
  have b2 : (P : Int) < 4294967296 := bp.2
  obtain ⟨Wk, hWk⟩ : ∃ W, W = decide (De / 128 % 2 = 1) := ⟨_, rfl⟩
  have hAnd : bits .and .u64 De 128 = De / 128 % 2 * 128 := and128 De (by omega)
  have hz : ((De / 128 % 2 * 128) != 0) = Wk := by
    rw [hWk]
    by_cases h : De / 128 % 2 = 1
    · rw [h]; rfl
    · have : De / 128 % 2 = 0 := by omega
      rw [this]; rfl
  rw [← hWk] at B2
  obtain ⟨Z, hZ⟩ : ∃ Z, Z = De / 128 % 2 * 128 := ⟨_, rfl⟩
  rw [← hZ] at hAnd hz
  clear hZ hWk
  obtain ⟨hS0, hS1⟩ := b5
  have hS2 : S ≤ 9223372036854775807 := by omega
  have hSw : wrap64 S = S := IntWalk.wrap64_in S (by omega)
  clear EB EG EN hE hD' hP he hl hb hok hy h bp hS1
  go_enter Try.func20, Try.ntmps20
  go_wp2_with fail
  refine NW.out.mono ?_
  rintro r w1 ⟨b, rfl, hp1, hbel⟩
  have G1 := Lib.hid (grown_below hbel none)
  obtain ⟨hh, hhh⟩ : ∃ hh, hh = w1.heap.size := ⟨_, rfl⟩
  rw [← hhh] at hp1
  have LB := hp1.lw
  have UB := hp1.up
  have P1 := Lib.hid hp1
  clear hp1 hbel NW hhh
  go_wp2_with fail
  refine (N0.out _ _ _ _ P1.out).mono ?_
  rintro r w2 ⟨rfl, hp2, hg⟩
  have G2 := Lib.hid (grown_new G1.out hg LB)
  have P2 := Lib.hid hp2
  clear hp2 hg N0 P1 G1
  go_wp2_with fail
  refine (N4.out _ _ _ _ P2.out).mono ?_
  rintro r w3 ⟨rfl, hp3, hg⟩
  have G3 := Lib.hid (grown_new G2.out hg LB)
  have P3 := Lib.hid hp3
  clear hp3 hg N4 P2 G2
  go_wp2_with fail
  refine (N5.out _ _ _ _ P3.out).mono ?_
  rintro r w4 ⟨rfl, hp4, hg⟩
  have G4 := Lib.hid (grown_new G3.out hg LB)
  have P4 := Lib.hid hp4
  clear hp4 hg N5 P3 G3
  obtain ⟨w5, hw5⟩ : ∃ W, W = w4.alloc (.cells #[.string ⟨#[]⟩, .int .i64 0, .int .u64 0, .bool false] 32) := ⟨_, rfl⟩
  have g5 : w4.grownBy w5 none := by rw [hw5]; exact grown1 w4 _
  have s5 : SyAt w5 w4.heap.size ⟨#[]⟩ Sy.zero := by rw [hw5]; exact SyAt.new w4 ⟨#[]⟩ Sy.zero
  have G5 := Lib.hid (grown_trans G4.out g5)
  have P5 := Lib.hid (P4.out.same g5)
  have S5 := Lib.hid s5
  have c1 := (H.out.grown G5.out).c.2.1
  have gl := (H.out.grown G5.out).lt
  obtain ⟨X, hX⟩ : ∃ X, X = w4.heap.size := ⟨_, rfl⟩
  have hXw : w.heap.size ≤ X := by rw [hX]; exact G4.out.size
  have hbX : hh ≤ X := by rw [hX]; exact P4.out.sz
  rw [← hX] at S5
  clear g5 s5 G4 P4
  go_upto_region 6 with fail
  rw [← hw5, ← hX]
  clear hw5 hX
  clear b4
  by_cases k15 : K = 15
  · have d15 : (K == 15) = true := by rw [k15]; rfl
    by_cases ks0 : S = 0
    · have ds0 : (S == 0) = true := by rw [ks0]; rfl
      have EE := Lib.hid (B1.out k15 (.inl ks0))
      clear k15 ks0
      go_wp2
      go_ret
      exact ⟨by rw [EE.out]; rfl, below_grown G5.out hBw (by simp), fun h => by rw [EE.out] at h; cases h⟩
    · have ds0 : (S == 0) = false := by rw [beq_eq_false_iff_ne]; exact ks0
      by_cases kn : n < S
      · have dn : decide (n < S) = true := decide_eq_true kn
        have EE := Lib.hid (B1.out k15 (.inr kn))
        clear k15 ks0
        go_wp2
        go_ret
        exact ⟨by rw [EE.out]; rfl, below_grown G5.out hBw (by simp), fun h => by rw [EE.out] at h; cases h⟩
      · have dn : decide (n < S) = false := decide_eq_false kn
        have E2 := B2.out (.inr ⟨k15, fun h => h.elim ks0 kn⟩)
        rw [if_pos k15] at E2
        have EE := Lib.hid E2
        have f5 := S5.out.fz 1
        have x5 := S5.out.c.2.1
        have l5 := S5.out.lt
        have gs := grown_setCell (i := 1) (grown_refl w5 (some X)) (.int .i64 S)
        have S6 := Lib.hid (S5.out.s1 S)
        have P6 := Lib.hid (P5.out.kept gs (.inr hbX))
        have G6 := Lib.hid (grown_new G5.out gs hXw)
        simp only [Sy.zero] at x5
        clear k15 ks0 kn E2 gs
        go_wp2_with fail
        refine (N6.out _ _ _ _ P6.out).mono ?_
        rintro r w7 ⟨rfl, hp7, hg⟩
        have G7 := Lib.hid (grown_new G6.out hg LB)
        have P7 := Lib.hid hp7
        have S7 := S6.out.kept hg (fun e => by injection e with e; omega)
        have f7 := S7.fz 3
        have x7 := S7.c.2.2.2
        have l7 := S7.lt
        have gs7 := grown_setCell (i := 3) (grown_refl w7 (some X)) (.bool Wk)
        have S8 := Lib.hid (S7.s3 Wk)
        have P8 := Lib.hid (P7.out.kept gs7 (.inr hbX))
        have G8 := Lib.hid (grown_new G7.out gs7 hXw)
        have HSZ := Lib.hid S7
        clear hp7 hg gs7 S7
        try simp only [Sy.zero] at x7
        go_wp2_with fail
        clear x7 f7 l7
        refine (N8.out _ _ _ _ P8.out).mono ?_
        rintro r w9 ⟨rfl, hp9, hg⟩
        have G9 := Lib.hid (grown_new G8.out hg LB)
        have S9 := S8.out.kept hg (fun e => by injection e with e; omega)
        have f9 := S9.fz 2
        have x9 := S9.c.2.2.1
        have l9 := S9.lt
        have gs9 := grown_setCell (i := 2) (grown_refl w9 (some X)) (.int .u64 Vl)
        have SA := S9.s2 Vl
        have GA := Lib.hid (grown_new G9.out gs9 hXw)
        have AA := AD.out _ GA.out ⟨S, Vl, Wk⟩ P b2
        unfold syV syArr at AA
        obtain ⟨y0, y1, y2, y3⟩ := SA.c
        have yl := SA.lt
        have AH := Lib.hid AA
        try simp only [] at y1
        try simp only [] at y2
        try simp only [] at y3
        try simp only [Sy.zero] at x9
        clear hp9 hg gs9 S9 SA AA
        go_wp2_with fail
        refine AH.out.mono ?_
        rintro r w' ⟨rfl, hb, ht⟩
        have BF := Lib.hid (Below.trans (below_grown GA.out hBw (by simp)) hb)
        have TF := Lib.hid ht
        clear hb ht
        go_wp2
        go_ret
        rw [EE.out.1, EE.out.2]
        exact ⟨rfl, BF.out, TF.out⟩
  · have d15 : (K == 15) = false := by rw [beq_eq_false_iff_ne]; exact k15
    by_cases k3 : K = 3
    · have d3 : (K == 3) = true := by rw [k3]; rfl
      have E2 := B2.out (.inl k3)
      rw [if_neg k15] at E2
      have EE := Lib.hid E2
      clear k15 k3 E2
      go_wp2_with fail
      refine (N6.out _ _ _ _ P5.out).mono ?_
      rintro r w7 ⟨rfl, hp7, hg⟩
      have G7 := Lib.hid (grown_new G5.out hg LB)
      have P7 := Lib.hid hp7
      have S7 := S5.out.kept hg (fun e => by injection e with e; omega)
      have f7 := S7.fz 3
      have x7 := S7.c.2.2.2
      have l7 := S7.lt
      have gs7 := grown_setCell (i := 3) (grown_refl w7 (some X)) (.bool Wk)
      have S8 := Lib.hid (S7.s3 Wk)
      have P8 := Lib.hid (P7.out.kept gs7 (.inr hbX))
      have G8 := Lib.hid (grown_new G7.out gs7 hXw)
      have HSZ := Lib.hid S7
      clear hp7 hg gs7 S7
      try simp only [Sy.zero] at x7
      go_wp2_with fail
      clear x7 f7 l7
      refine (N8.out _ _ _ _ P8.out).mono ?_
      rintro r w9 ⟨rfl, hp9, hg⟩
      have G9 := Lib.hid (grown_new G8.out hg LB)
      have S9 := S8.out.kept hg (fun e => by injection e with e; omega)
      have f9 := S9.fz 2
      have x9 := S9.c.2.2.1
      have l9 := S9.lt
      have gs9 := grown_setCell (i := 2) (grown_refl w9 (some X)) (.int .u64 Vl)
      have SA := S9.s2 Vl
      have GA := Lib.hid (grown_new G9.out gs9 hXw)
      have AA := AD.out _ GA.out ⟨0, Vl, Wk⟩ P b2
      unfold syV syArr at AA
      obtain ⟨y0, y1, y2, y3⟩ := SA.c
      have yl := SA.lt
      have AH := Lib.hid AA
      try simp only [Sy.zero] at y1
      try simp only [] at y2
      try simp only [] at y3
      try simp only [Sy.zero] at x9
      clear hp9 hg gs9 S9 SA AA
      go_wp2_with fail
      refine AH.out.mono ?_
      rintro r w' ⟨rfl, hb, ht⟩
      have BF := Lib.hid (Below.trans (below_grown GA.out hBw (by simp)) hb)
      have TF := Lib.hid ht
      clear hb ht
      go_wp2
      go_ret
      rw [EE.out.1, EE.out.2]
      exact ⟨rfl, BF.out, TF.out⟩
    · have d3 : (K == 3) = false := by rw [beq_eq_false_iff_ne]; exact k3
      have EE := Lib.hid (B3.out k15 k3)
      clear k15 k3
      go_wp2
      go_ret
      rw [EE.out.1, EE.out.2]
      exact ⟨rfl, below_grown G5.out hBw (by simp), fun _ => ⟨_, _, H.out.grown G5.out⟩⟩
end Go.Proofs.Ytlmgkofbjcahaaa
