/- The walk of FatShort: of each file that is cut short what is told is the document's. -/
import Derived.Test.YtdjakaiadggemaaMkFacts
import Derived.Test.YtdjakaiadggemaaKnown3
import Derived.Test.YtdjakaiadggemaaRefAll
namespace Go.Proofs.Ytdjakaiadggemaa.fatShort
open Go.RowKit

theorem fewB_le {l : List Mb} {most : Int} (h : fewB l most = true) : (∀ m ∈ l, m.bytes.length ≤ 3000) ∧ (l.length : Int) ≤ most := by
  unfold fewB at h
  rw [Bool.and_eq_true] at h
  refine ⟨fun m hm => ?_, by simpa using h.2⟩
  have := List.all_eq_true.1 h.1 m hm
  simpa using this

set_option maxHeartbeats 1600000 in
set_option maxRecDepth 20000 in
theorem walk (a0 : Bool) (a1 : Option Addr) (len1 cap1 : Nat) (a2 a3 : Int) (w : World)
    (w1 : ∃ l : List Mb, l.length = len1 ∧ IsMbs w a1 l ∧ (∀ m ∈ l, m.Fits) ∧ len1 ≤ cap1 ∧ cap1 ≤ 9223372036854775807) (_w2 : (Lit.int .i64 a2).wf = true) (_w3 : (Lit.int .i64 a3).wf = true) :
    Calls Try.prog 7 #[.bool a0, .slice a1 len1 cap1, .int .i64 a2, .int .i64 a3] w fun e w' => e = .returned (.bool true) ∧ Below w.heap.size w w' := by
  obtain ⟨l, hn, hmb, hfit, hlc, hcm⟩ := w1
  have K := Lib.hid (fun w : World => known_any (w := w))
  have FE := Lib.hid (few_any (w := w) l len1 hn a1 cap1 hmb hlc hcm hfit 6)
  by_cases hfew : fewB l 6 = true
  · rw [hfew] at FE
    by_cases hneg : a2 < 0
    · have hd : decide (a2 < 0) = true := by simpa using hneg
      clear hfew
      go_enter Try.func7, Try.ntmps7
      go_wp2_with fail
      refine FE.out.mono ?_
      rintro e w1 ⟨rfl, hg⟩
      have G := Lib.hid hg
      clear hg
      go_wp2_with fail
      refine (K.out _).mono ?_
      rintro e w2 ⟨rfl, hbk⟩
      have B := Lib.hid ((below_grown G.out (Nat.le_refl _) (by simp)).trans (hbk.mono G.out.size))
      clear hbk
      go_wp2
      go_ret
      exact ⟨rfl, B.out⟩
    · have hd : decide (a2 < 0) = false := by simp; omega
      obtain ⟨h3, h6⟩ := fewB_le hfew
      have MK := Lib.hid (fun (w1 : World) (hg : w.grownBy w1 none) => refmake_any (w := w1) a0 l len1 hn (by omega) a1 cap1 (hmb.grown hg) hfit (fun m hm => by have := h3 m hm; omega))
      have SM := Lib.hid (makeN_small a0 hfit)
      obtain ⟨hm1, hm2, hm3, hm4, hm5⟩ := makeN_len a0 l
      obtain ⟨⟨ys, er⟩, hr⟩ : ∃ r, r = makeN a0 l := ⟨_, rfl⟩
      rw [← hr] at MK SM hm1 hm2 hm3 hm4 hm5
      simp only [] at SM hm1 hm2 hm3 hm4 hm5
      obtain ⟨k, hk⟩ := Int.eq_ofNat_of_zero_le (show 0 ≤ a2 by omega)
      subst hk
      have M2 := Lib.hid hm2
      clear hfew hr hm2 hm3 h3 h6 hfit hmb hn hneg
      go_enter Try.func7, Try.ntmps7
      go_wp2_with fail
      refine FE.out.mono ?_
      rintro e w1 ⟨rfl, hg⟩
      have G := Lib.hid hg
      clear hg
      go_wp2_with fail
      refine (MK.out _ G.out).mono ?_
      rintro e w2 ⟨⟨q, c, rfl, hb, hyc, hc⟩, hg⟩
      have G2 := Lib.hid (grown_trans G.out hg)
      have BY := Lib.hid hb
      clear hg hb
      simp only [] at hyc BY ⊢
      by_cases her : er = 0
      · subst her
        have h8 := M2.out rfl
        by_cases hkl : k ≤ ys.length
        · have hd2 : decide ((ys.length : Int) < k) = false := by simp; omega
          have BT := Lib.hid (BY.out.take (c' := c) k (fun e => by
            rcases BY.out.ways with ⟨_, h, _⟩ | ⟨x, h, _⟩
            · rw [h] at h8; simp at h8
            · rw [h] at e; cases e))
          have SMT := Lib.hid (show Small (ys.take k) from fun x hx => SM.out x (List.mem_of_mem_take hx))
          have TL := Lib.hid (show (ys.take k).length = k by rw [List.length_take]; omega)
          have hkc : k ≤ c := by omega
          have SA := Lib.hid (fun (w3 : World) (hg : w2.grownBy w3 none) => slice_any (w := w3) (ys.take k) q c k (BT.out.kept hg (by simp)) TL.out hkc hc SMT.out a3)
          have SB := Lib.hid (fun (w3 : World) (hg : w2.grownBy w3 none) => refslice_any (w := w3) (ys.take k) q c k (BT.out.kept hg (by simp)) TL.out hkc hc SMT.out a3)
          obtain ⟨⟨o1, o2, o3⟩, ho⟩ : ∃ z, z = sliceN (ys.take k) a3 := ⟨_, rfl⟩
          rw [← ho] at SA SB
          simp only [] at SA SB
          clear ho M2
          go_wp2_with fail
          refine (SA.out _ (grown_refl _ _)).mono ?_
          rintro e w3 ⟨rfl, hg⟩
          have S4 := Lib.hid (SpAt.new w3 o1 o2)
          have G4 := Lib.hid (grown_trans hg (grown1 w3 (.cells #[.int .u64 o1, .int .u64 o2] 33)))
          clear hg
          go_wp2_with fail
          refine (SB.out _ G4.out).mono ?_
          rintro e w5 ⟨rfl, hg⟩
          have hz := S4.out.grown hg
          have z0 := hz.c0
          have z1 := hz.c1
          have hlt := lt_of_block hz
          have G5 := Lib.hid (grown_trans (grown_trans G2.out (grown_trans G4.out hg)) (grown1 w5 (.cells #[.int .u64 o1, .int .u64 o2] 33)))
          clear hg hz
          go_wp2_with fail
          refine (K.out _).mono ?_
          rintro e w8 ⟨rfl, hbk⟩
          have B := Lib.hid ((below_grown G5.out (Nat.le_refl _) (by simp)).trans (hbk.mono G5.out.size))
          clear hbk z0 z1
          go_wp2
          go_ret
          exact ⟨rfl, B.out⟩
        · have hd2 : decide ((ys.length : Int) < k) = true := by simp; omega
          go_wp2_with fail
          refine (K.out _).mono ?_
          rintro e w8 ⟨rfl, hbk⟩
          have B := Lib.hid ((below_grown G2.out (Nat.le_refl _) (by simp)).trans (hbk.mono G2.out.size))
          clear hbk
          go_wp2
          go_ret
          exact ⟨rfl, B.out⟩
      · have hne : (er == 0) = false := by simpa using her
        have hne2 : (er != 0) = true := by simpa using her
        go_wp2_with fail
        refine (K.out _).mono ?_
        rintro e w8 ⟨rfl, hbk⟩
        have B := Lib.hid ((below_grown G2.out (Nat.le_refl _) (by simp)).trans (hbk.mono G2.out.size))
        clear hbk
        go_wp2
        go_ret
        exact ⟨rfl, B.out⟩
  · have hfew' : fewB l 6 = false := by simpa using hfew
    rw [hfew'] at FE
    clear hfew hfew'
    go_enter Try.func7, Try.ntmps7
    go_wp2_with fail
    refine FE.out.mono ?_
    rintro e w1 ⟨rfl, hg⟩
    have G := Lib.hid hg
    clear hg
    go_wp2_with fail
    refine (K.out _).mono ?_
    rintro e w2 ⟨rfl, hbk⟩
    have B := Lib.hid ((below_grown G.out (Nat.le_refl _) (by simp)).trans (hbk.mono G.out.size))
    clear hbk
    go_wp2
    go_ret
    exact ⟨rfl, B.out⟩
end Go.Proofs.Ytdjakaiadggemaa.fatShort
