/- The walk of CommandLong: no more bytes are made than a file may have. -/
import Derived.Test.YtcclfbeojaaepaaKnown4
import Derived.Deep.Cut
import Derived.Deep.CutRange
import Derived.Laws.OwnMore
namespace Go.Proofs.Ytcclfbeojaaepaa.commandLong
open Go.RowKit

theorem oneN_may (cmd : Int) (hc : 0 ≤ cmd ∧ cmd < 4294967296) (ys : List Int) (hl : ys.length ≤ 2000000) : mayB cmd (oneN cmd ys) = true := by
  have hb := upTo8_bd (8 + ys.length)
  have hlen := oneN_len cmd ys
  unfold mayB
  refine decide_eq_true ⟨by omega, by omega, ?_, ?_⟩
  · rw [show (oneN cmd ys).take 4 = le4 cmd by unfold oneN; simp [le4]]
    exact leN_le4 hc
  · rw [show ((oneN cmd ys).drop 4).take 4 = le4 (upTo8 (8 + ys.length)) by unfold oneN; simp [le4], hlen]
    exact leN_le4 (by omega)
theorem makeN_one (m : Cm) (hm : m.odd = false) : makeN 0 6 0 [m] = if 1048576 < 32 + m.bytes.length then ([], 11) else (laidN (headN 0 6 1 m.bytes.length 0) [m] 1, 0) := by
  unfold makeN
  rw [if_neg (by simp [hm])]
  have hs : sizeN [m] = m.bytes.length := by simp [sizeN]
  rw [hs]
  by_cases h : 1048576 < 32 + m.bytes.length
  · rw [if_pos (.inr h), if_pos h]
  · rw [if_neg (by simp; omega), if_neg h]; rfl
/-- The zeros that were made. -/
theorem zeros_bytes {w1 : World} {g N : Nat} (h : w1.ownsRow g 5 1 (.slice (some ⟨g, 0, none⟩) N N) N (List.replicate N (.int .u8 0))) : IsBytes w1 (some ⟨g, 0, none⟩) N (List.replicate N 0) :=
  IsBytes.of_own (n := N) (by simp) (by rw [List.map_replicate]; exact h)

set_option maxHeartbeats 1600000 in
set_option maxRecDepth 20000 in
theorem walk (a0 a1 : Int) (w : World) (_w0 : (Lit.int .i64 a0).wf = true) (w1 : (Lit.int .u32 a1).wf = true) :
    Calls Try.prog 5 #[.int .i64 a0, .int .u32 a1] w fun e w' => e = .returned (.bool true) ∧ Below w.heap.size w w' := by
  have hcmd := u32_range w1
  have K := Lib.hid (fun w : World => known_any (w := w))
  by_cases hlo : a0 < 1048516
  · go_enter Try.func5, Try.ntmps5
    go_wp2_with fail
    refine (K.out _).mono ?_
    rintro e w' ⟨rfl, hbel⟩
    have B := Lib.hid hbel
    clear hbel
    go_wp2
    go_ret
    exact ⟨rfl, B.out⟩
  by_cases hhi : 1048596 < a0
  · go_enter Try.func5, Try.ntmps5
    go_wp2_with fail
    refine (K.out _).mono ?_
    rintro e w' ⟨rfl, hbel⟩
    have B := Lib.hid hbel
    clear hbel
    go_wp2
    go_ret
    exact ⟨rfl, B.out⟩
  obtain ⟨N, hN⟩ : ∃ N : Nat, a0 = (N : Int) := ⟨a0.toNat, by omega⟩
  subst hN
  have hN1 : (N : Int) ≤ 1048596 := by omega
  have HJ := Lib.hid (show N ≤ 1048596 by omega)
  obtain ⟨iu, hiu, hz0, hz1, hz2⟩ := info_parts info_u8
  obtain ⟨ys, hys⟩ : ∃ ys : List Int, ys = List.replicate N 0 := ⟨_, rfl⟩
  have hyl : ys.length = N := by rw [hys]; simp
  have hbd := upTo8_bd (8 + ys.length)
  have hmay := oneN_may a1 hcmd ys (by omega)
  have hol := oneN_len a1 ys
  have hsm := oneN_small a1 (ys := ys) (by rw [hys]; exact zeros_small N)
  obtain ⟨S, hS⟩ : ∃ S, S = upTo8 (8 + ys.length) := ⟨_, rfl⟩
  rw [← hS] at hbd hol
  rw [hyl] at hbd
  have OA := Lib.hid (fun (w2 : World) (q : Option Addr) (c : Nat) (h : IsBytes w2 q c ys) => one_any (w := w2) a1 hcmd ys q c N h hyl (by omega))
  have MA := Lib.hid (fun (w2 : World) (g p c : Nat) (h : CmAt w2 p ⟨a1, some ⟨g, 0, none⟩, c, oneN a1 ys⟩) (hb : IsBytes w2 (some ⟨g, 0, none⟩) c (oneN a1 ys)) (hc1 : S ≤ c) (hc2 : c ≤ 9223372036854775807) =>
    make_any (w := w2) 0 6 0 (by decide) [⟨a1, some ⟨g, 0, none⟩, c, oneN a1 ys⟩] 1 rfl (by decide) (by
      intro m hm
      rw [List.mem_singleton.1 hm]
      exact ⟨hcmd, hsm, by rw [hol]; exact hc1, hc2⟩) (some ⟨p, 0, none⟩) 1 (isCms_one h hb))
  have MN := Lib.hid (fun (g c : Nat) => makeN_one (⟨a1, some ⟨g, 0, none⟩, c, oneN a1 ys⟩ : Cm) (by unfold Cm.odd; rw [hmay]; rfl))
  have HS := Lib.hid hS
  have HY := Lib.hid hys
  have HYL := Lib.hid hyl
  have HOL := Lib.hid hol
  have hd1 : decide ((N : Int) < 1048516) = false := decide_eq_false hlo
  have hd2 : decide ((1048596 : Int) < N) = false := decide_eq_false hhi
  clear hlo hhi w1 hS hys hyl hmay hol hsm
  go_enter Try.func5, Try.ntmps5
  go_wp2_with (at_make; refine wpList_make_full _ rfl _ _ 22 rfl w.heap.size 5 iu (.int .u8 0) 1 Try.underlying22 hiu hz0 hz1 .i64 .i64 _ _ N rfl rfl rfl rfl (by rw [hz2]; omega) (by unfold maxLen; omega) (Nat.le_refl _) ?_; (intro w1 hown hg1; have hown2 : w1.ownsRow w.heap.size 5 1 (.slice (some ⟨w.heap.size, 0, none⟩) N N) N (List.replicate N (.int .u8 0)) := (by have := hown; rw [Nat.mul_one, show (Value.int IntKind.u8 0).cells = #[Value.int IntKind.u8 0] from rfl, toList_madeCells_one] at this; exact this); have BY := Lib.hid (show IsBytes w1 (some ⟨w.heap.size, 0, none⟩) N ys by rw [HY.out]; exact zeros_bytes hown2); have G1 := Lib.hid hg1; clear hown hown2 hg1 hiu hz0 hz1 hz2))
  refine (OA.out _ _ _ BY.out).mono ?_
  rintro e w2 ⟨hno, hyes, hg⟩
  rw [HYL.out] at hno hyes
  have G2 := Lib.hid (grown_trans G1.out hg)
  clear hg
  have hdm : ∀ z : Int, 0 ≤ z → z.tmod 8 = z % 8 := fun z hz => Int.tmod_eq_emod_of_nonneg hz
  by_cases hfit : 8 + N ≤ 1048576
  · obtain ⟨g, c, e, ho⟩ := hyes hfit
    subst e
    have hown : OwnM w2 w1.heap.size g S c (oneN a1 ys) := by
      have := ho
      rw [show upTo8 (8 + N) = S by rw [HS.out, HYL.out]] at this
      exact this
    rw [show upTo8 (8 + N) = S by rw [HS.out, HYL.out]]
    have hcap := hown.le
    have hmost : c ≤ 9223372036854775807 := by have := hown.most; unfold maxLen at this; omega
    have gm := grown1 w2 (.cells #[.int .u32 a1, .slice (some ⟨g, 0, none⟩) S c] 40)
    have Z0 : CmAt (w2.alloc (.cells #[.int .u32 a1, .slice (some ⟨g, 0, none⟩) S c] 40)) w2.heap.size ⟨a1, some ⟨g, 0, none⟩, c, oneN a1 ys⟩ := by
      have := CmAt.new w2 ⟨a1, some ⟨g, 0, none⟩, c, oneN a1 ys⟩
      unfold CmAt at this ⊢
      simp only [HOL.out] at this ⊢
      exact this
    have BO := Lib.hid ((hown.grown gm).bytes c)
    have Z := Lib.hid Z0
    have G3 := Lib.hid (grown_trans G2.out gm)
    have MN := Lib.hid (MN.out g c)
    have hSb : decide ((1048576 : Int) < S) = false := by simp; omega
    clear hno hyes ho hown gm Z0
    go_wp2
    go_loop [7] (fun z => ∃ k : Int, 8 + (N : Int) ≤ k ∧ k ≤ S ∧ z = .int .i64 k) (fun z => ((S : Int) - intOf z).toNat)
    case atStart => exact ⟨_, Int.le_refl _, by omega, rfl⟩
    case round =>
      obtain ⟨k, hk1, hk2, rfl⟩ := hrel
      by_cases hlt : k < S
      · have hz : (k % 8 != 0) = true := by simp; omega
        go_wp2
        go_round
        case rel => exact ⟨k + 1, by omega, by omega, rfl⟩
        case measure => simp [intOf]; omega
      · obtain rfl : k = (S : Int) := by omega
        have hz : ((S : Int) % 8 != 0) = false := by simp; omega
        have hc0 := Z.out.c0
        have hc1 : (w2.alloc (.cells #[.int .u32 a1, .slice (some ⟨g, 0, none⟩) S c] 40)).cell? ⟨w2.heap.size, 1, none⟩ = some (.slice (some ⟨g, 0, none⟩) S c) := by
          have := Z.out.c1
          simp only [HOL.out] at this
          exact this
        have Z4 : CmAt ((w2.alloc (.cells #[.int .u32 a1, .slice (some ⟨g, 0, none⟩) S c] 40)).alloc (.cells #[.int .u32 a1, .slice (some ⟨g, 0, none⟩) S c] 40)) (w2.heap.size + 1) ⟨a1, some ⟨g, 0, none⟩, c, oneN a1 ys⟩ := by
          have := CmAt.new (w2.alloc (.cells #[.int .u32 a1, .slice (some ⟨g, 0, none⟩) S c] 40)) ⟨a1, some ⟨g, 0, none⟩, c, oneN a1 ys⟩
          unfold CmAt at this ⊢
          simp only [HOL.out] at this ⊢
          simpa using this
        have gn := grown1 (w2.alloc (.cells #[.int .u32 a1, .slice (some ⟨g, 0, none⟩) S c] 40)) (.cells #[.int .u32 a1, .slice (some ⟨g, 0, none⟩) S c] 40)
        have MC := Lib.hid (MA.out _ g _ c Z4 (BO.out.kept gn (by simp)) hcap hmost)
        rw [MN.out] at MC
        rw [HOL.out] at MC
        have G4 := Lib.hid (grown_trans G3.out gn)
        clear Z4 gn hc0 hc1
        have hc0 := Z.out.c0
        have hc1 := Z.out.c1
        simp only [HOL.out] at hc1
        by_cases hmany : 1048576 < 32 + S
        · rw [if_pos hmany] at MC
          have hSm : decide ((1048576 : Int) < (S : Int) + 32) = true := by simp; omega
          go_wp2_with fail
          refine MC.out.mono ?_
          rintro e w5 ⟨⟨q5, c5, rfl, _, _, _⟩, hg⟩
          have G5 := Lib.hid (grown_trans G4.out hg)
          clear hg hc0 hc1
          simp only [List.length_nil]
          go_wp2_with fail
          refine (K.out _).mono ?_
          rintro e w8 ⟨rfl, hbk⟩
          have B := Lib.hid ((below_grown G5.out (Nat.le_refl _) (by simp)).trans (hbk.mono G5.out.size))
          clear hbk
          go_wp2
          go_ret
          exact ⟨rfl, B.out⟩
        · rw [if_neg hmany] at MC
          have hSm : decide ((1048576 : Int) < (S : Int) + 32) = false := by simp; omega
          have hlen : (laidN (headN 0 6 1 S 0) [(⟨a1, some ⟨g, 0, none⟩, c, oneN a1 ys⟩ : Cm)] 1).length = 32 + S := by
            rw [laidN_len, headN_len]
            simp [sizeN, HOL.out]
          go_wp2_with fail
          refine MC.out.mono ?_
          rintro e w5 ⟨⟨q5, c5, rfl, _, _, _⟩, hg⟩
          have G5 := Lib.hid (grown_trans G4.out hg)
          clear hg hc0 hc1
          simp only [hlen]
          clear hlen
          go_wp2_with fail
          refine (K.out _).mono ?_
          rintro e w8 ⟨rfl, hbk⟩
          have B := Lib.hid ((below_grown G5.out (Nat.le_refl _) (by simp)).trans (hbk.mono G5.out.size))
          clear hbk
          go_wp2
          go_ret
          exact ⟨rfl, B.out⟩
  · have e := hno (by omega)
    subst e
    clear hno hyes
    have hSb : decide ((1048576 : Int) < S) = true := by simp; omega
    have Z := Lib.hid (CmAt.new w2 Cm.zero)
    have G3 := Lib.hid (grown_trans G2.out (grown1 w2 (.cells #[.int .u32 0, .slice none 0 0] 40)))
    have c1 := Z.out.c1
    go_wp2
    go_loop [7] (fun z => ∃ k : Int, 8 + (N : Int) ≤ k ∧ k ≤ S ∧ z = .int .i64 k) (fun z => ((S : Int) - intOf z).toNat)
    case atStart => exact ⟨_, Int.le_refl _, by omega, rfl⟩
    case round =>
      obtain ⟨k, hk1, hk2, rfl⟩ := hrel
      by_cases hlt : k < S
      · have hz : (k % 8 != 0) = true := by simp; omega
        go_wp2
        go_round
        case rel => exact ⟨k + 1, by omega, by omega, rfl⟩
        case measure => simp [intOf]; omega
      · obtain rfl : k = (S : Int) := by omega
        have hz : ((S : Int) % 8 != 0) = false := by simp; omega
        go_wp2_with fail
        refine (K.out _).mono ?_
        rintro e w8 ⟨rfl, hbk⟩
        have B := Lib.hid ((below_grown G3.out (Nat.le_refl _) (by simp)).trans (hbk.mono G3.out.size))
        clear hbk
        go_wp2
        go_ret
        exact ⟨rfl, B.out⟩
end Go.Proofs.Ytcclfbeojaaepaa.commandLong
