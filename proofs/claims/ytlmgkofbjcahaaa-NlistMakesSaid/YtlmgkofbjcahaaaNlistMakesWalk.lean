/- The walk of NlistMakes: the table and strings of symbols are the document's, and are told as they were made. -/
import Derived.Test.YtlmgkofbjcahaaaNlRk
import Derived.Test.YtlmgkofbjcahaaaNlFw
import Derived.Test.YtlmgkofbjcahaaaNlS
namespace Go.Proofs.Ytlmgkofbjcahaaa.nlistMakes
open Go.RowKit
theorem made {D : Syms} (hf : ∀ y ∈ D, SyFits y.1 y.2) (h : mkErr D = 0) : mkT D = tabS D D.length ∧ mkN D = nmB D ∧ (∀ y ∈ D, mayS y.1 y.2 = true) ∧ nlAll (mkT D) (mkN D) 255 = (0, D) := by
  have e1 : mkT D = tabS D D.length := by unfold mkT; rw [if_pos h]
  have e2 : mkN D = nmB D := by unfold mkN; rw [if_pos h]
  unfold mkErr at h
  split at h
  · cases h
  · rename_i h1
    split at h
    · cases h
    · rename_i h2
      split at h
      · cases h
      · rename_i h3
        have hm : ∀ y ∈ D, mayS y.1 y.2 = true := by
          have : mayAll D = true := by simpa using h1
          unfold mayAll at this
          rw [List.all_eq_true] at this
          exact this
        rw [e1, e2]
        exact ⟨rfl, rfl, hm, made_all hm (fun y hy => (hf y hy).value) (by have : ¬ 4096 < D.length := fun h => h2 (.inl h); omega) (twB_no (by simpa using h3))⟩
theorem few_is {D : Syms} {m : Nat} (h : fewB D m = true) : (∀ y ∈ D, y.1.length ≤ 400) ∧ D.length ≤ m := by
  unfold fewB at h
  rw [Bool.and_eq_true, List.all_eq_true, decide_eq_true_eq] at h
  exact ⟨fun y hy => of_decide_eq_true (h.1 y hy), h.2⟩
set_option maxHeartbeats 6400000 in
set_option maxRecDepth 20000 in
theorem walk (a0 : Option Addr) (len0 cap0 : Nat) (n : Int) (w : World) (w0 : ∃ D : Syms, D.length = len0 ∧ SysAt w a0 D ∧ (∀ y ∈ D, SyFits y.1 y.2) ∧ len0 ≤ cap0 ∧ cap0 ≤ 9223372036854775807) :
    Calls Try.prog 4 #[.slice a0 len0 cap0, .int .i64 n] w fun e w' => e = .returned (.bool true) ∧ Below w.heap.size w w' := by
  obtain ⟨D, hn, hD, hf, hc, hcm⟩ := w0
  have K := Lib.hid (fun w : World => known10_any w)
  have BL := Lib.hid (fun (w' : World) (h : w.grownBy w' none) => (below_grown h (Nat.le_refl _) (fun k e => by cases e) : Below w.heap.size w w'))
  have FW := Lib.hid (show Calls Try.prog 13 #[.slice a0 len0 cap0, .int .i64 60] w fun e w' => e = .returned (.bool (fewB D 60)) ∧ w' = w from few10_any hn hD (by omega))
  obtain ⟨fb, hfb⟩ : ∃ b, b = fewB D 60 := ⟨_, rfl⟩
  rw [← hfb] at FW
  cases fb
  · clear hn hD hf hc hcm hfb
    go_enter Try.func4, Try.ntmps4
    go_wp2_with fail
    refine FW.out.mono ?_
    rintro e w1 ⟨rfl, rfl⟩
    go_wp2_with fail
    refine (K.out _).mono ?_
    rintro e w2 ⟨rfl, hg⟩
    have B := Lib.hid (BL.out _ hg)
    clear hg
    go_wp2
    go_ret
    exact ⟨rfl, B.out⟩
  obtain ⟨f1, f2⟩ := few_is hfb.symm
  rw [hn] at f2
  have MP := Lib.hid (Make10_any (w := w) (c := cap0) hn hD (by omega) hf)
  have MR := Lib.hid (fun (V : World) (hV : w.grownBy V none) => refMake10_any (w := V) (c := cap0) hn (hD.grown hV) (by omega) (fun y hy => ⟨hf y hy, by have := f1 y hy; omega⟩))
  have HD := Lib.hid hD
  have HN := Lib.hid hn
  have HF := Lib.hid hf
  have F2 := Lib.hid f2
  clear hn hD hf hc hcm hfb f1 f2
  go_enter Try.func4, Try.ntmps4
  go_wp2_with fail
  refine FW.out.mono ?_
  rintro e w1 ⟨rfl, rfl⟩
  go_wp2_with fail
  refine MP.out.mono ?_
  rintro r x2 ⟨⟨qa, ca, qb, cb, rfl, ha, hb, h1, h2, h3, h4⟩, hg⟩
  have G2 := Lib.hid hg
  have A2 := Lib.hid ha
  have B2 := Lib.hid hb
  have C2 := Lib.hid (And.intro (And.intro h1 h2) (And.intro h3 h4))
  clear ha hb h1 h2 h3 h4 hg
  go_wp2_with fail
  refine (MR.out x2 G2.out).mono ?_
  rintro r x3 ⟨⟨qc, cc, qd, cd, rfl, ha, hb, h1, h2, h3, h4⟩, hg⟩
  have G3 := Lib.hid (grown_trans G2.out hg)
  have A3 := Lib.hid (A2.out.kept hg (by simp))
  have B3 := Lib.hid (B2.out.kept hg (by simp))
  have U3 := Lib.hid ha
  have V3 := Lib.hid hb
  have C3 := Lib.hid (And.intro (And.intro h1 h2) (And.intro h3 h4))
  clear ha hb h1 h2 h3 h4 hg A2 B2
  have cv1 := A3.out.text rfl
  have cv2 := B3.out.text rfl
  have cv3 := U3.out.text rfl
  have cv4 := V3.out.text rfl
  by_cases hE : mkErr D = 0
  · obtain ⟨e1, e2, hmay, hall⟩ := made HF.out hE
    rw [hE]
    have BT : Byt (mkT D) := by rw [e1]; exact tabS_byt _ _
    have BN : Byt (mkN D) := by rw [e2]; exact nmB_byt (fun y hy => (HF.out y hy).name)
    have f2 := F2.out
    have LT : (mkT D).length ≤ 5000 := by rw [e1, tabS_len, HN.out]; omega
    have LN : (mkN D).length ≤ 500000 := by
      rw [e2]
      have := nmB_len_le (l := D) (fun y hy => (mayS_is (hmay y hy)).2.1)
      rw [HN.out] at this
      omega
    have A1 := Lib.hid (fun (V : World) (hV : x3.grownBy V none) => allP_any (w := V) (n := 255) (A3.out.kept hV (by simp)) rfl (by omega) C2.out.1.1 C2.out.1.2 BT (B3.out.kept hV (by simp)) rfl (by omega) BN)
    have A2 := Lib.hid (fun (V : World) (hV : x3.grownBy V none) => allP_any (w := V) (n := n) (A3.out.kept hV (by simp)) rfl (by omega) C2.out.1.1 C2.out.1.2 BT (B3.out.kept hV (by simp)) rfl (by omega) BN)
    have RA := Lib.hid (fun (V : World) (hV : x3.grownBy V none) => all10_any (w := V) (n := n) (U3.out.kept hV (by simp)) rfl (by omega) C3.out.1.1 C3.out.1.2 BT (V3.out.kept hV (by simp)) rfl (by omega) C3.out.2.1 BN)
    rw [hall] at A1
    have OK := Lib.hid (nlAll_ok (n := n) BT BN).few
    generalize nlAll (mkT D) (mkN D) n = R at *
    have HT := Lib.hid LT
    clear hmay hall e1 e2 BT BN LT LN hE
    generalize mkT D = MT at *
    generalize mkN D = MN at *
    go_wp2_with fail
    refine (A1.out x3 (grown_refl _ _)).mono ?_
    rintro r x4 ⟨⟨q4, c4, rfl, hsa, -, -⟩, hbel⟩
    have g4 := grown_below hbel none
    have G4 := Lib.hid (grown_trans G3.out g4)
    have GO4 := Lib.hid g4
    have SM := Lib.hid (same10_any D len0 HN.out q4 a0 c4 cap0 (by omega) hsa (HD.out.grown G4.out))
    simp only [] at *
    rw [HN.out]
    clear hsa hbel g4 cv1 cv2 cv3 cv4
    go_wp2_with fail
    refine SM.out.mono ?_
    rintro e x5 ⟨rfl, hg⟩
    have G5 := Lib.hid (grown_trans G4.out hg)
    have GO5 := Lib.hid (grown_trans GO4.out hg)
    clear hg SM
    go_wp2_with fail
    refine (A2.out x5 GO5.out).mono ?_
    rintro r x6 ⟨⟨q6, c6, rfl, hsa, -, -⟩, hbel⟩
    have g6 := grown_below hbel none
    have G6 := Lib.hid (grown_trans G5.out g6)
    have GO6 := Lib.hid (grown_trans GO5.out g6)
    have S6 := Lib.hid hsa
    clear hsa hbel g6
    go_wp2_with fail
    refine (RA.out x6 GO6.out).mono ?_
    rintro r x7 ⟨⟨q7, c7, rfl, hsa, -, -⟩, hbel⟩
    have g7 := grown_below hbel none
    have G7 := Lib.hid (grown_trans G6.out g7)
    have SM := Lib.hid (same10_any R.2 R.2.length rfl q6 q7 c6 c7 (by have := OK.out; omega) (S6.out.grown g7) hsa)
    clear hsa hbel g7
    obtain ⟨E, D2⟩ := R
    simp only [] at *
    obtain ⟨L, hL⟩ : ∃ L, L = D2.length := ⟨_, rfl⟩
    rw [← hL] at SM ⊢
    clear hL
    go_wp2_with fail
    refine SM.out.mono ?_
    rintro e x8 ⟨rfl, hg⟩
    have G8 := Lib.hid (grown_trans G7.out hg)
    clear hg SM
    go_wp2_with fail
    refine (K.out _).mono ?_
    rintro e x9 ⟨rfl, hg⟩
    have B := Lib.hid (BL.out _ (grown_trans G8.out hg))
    clear hg
    go_wp2
    go_ret
    exact ⟨rfl, B.out⟩
  · have dE : (mkErr D != 0) = true := by simpa using hE
    have l1 : (mkT D).length = 0 := by unfold mkT; rw [if_neg hE]; rfl
    have l2 : (mkN D).length = 0 := by unfold mkN; rw [if_neg hE]; rfl
    rw [l1] at cv1 cv3
    rw [l2] at cv2 cv4
    rw [l1, l2]
    clear hE l1 l2
    generalize mkErr D = E at *
    go_wp2_with fail
    refine (K.out _).mono ?_
    rintro e x9 ⟨rfl, hg⟩
    have B := Lib.hid (BL.out _ (grown_trans G3.out hg))
    clear hg
    go_wp2
    go_ret
    exact ⟨rfl, B.out⟩
end Go.Proofs.Ytlmgkofbjcahaaa.nlistMakes
