/- The walk of CommandShort: bytes that are cut short are none of what they were. -/
import Derived.Test.YtcclfbeojaaepaaReadNo
import Derived.Test.YtcclfbeojaaepaaRefMakeC
import Derived.Test.YtcclfbeojaaepaaKnown4
namespace Go.Proofs.Ytcclfbeojaaepaa.commandShort
open Go.RowKit

theorem fewB_le {l : List Cm} {most : Int} (h : fewB l most = true) : (∀ m ∈ l, m.bytes.length ≤ 2000) ∧ (l.length : Int) ≤ most := by
  unfold fewB at h
  rw [Bool.and_eq_true] at h
  refine ⟨fun m hm => ?_, by simpa using h.2⟩
  have := List.all_eq_true.1 h.1 m hm
  simpa using this
theorem puts4_small (ns : List Int) : Small (puts4 ns) := small_flat fun n _ => le4_small n
theorem makeN_small (sub kind flags : Int) {l : List Cm} (hfit : ∀ m ∈ l, m.Fits) : Small (makeN sub kind flags l).1 := by
  unfold makeN
  split
  · intro x hx; cases hx
  · split
    · intro x hx; cases hx
    · exact small_app (puts4_small _) (small_flat fun m hm => (hfit m (List.mem_of_mem_take hm)).bytes)
/-- A word of what was made. -/
theorem word_made (ns T : List Int) (hns : ∀ x ∈ ns, 0 ≤ x ∧ x < 4294967296) (k : Nat) (x : Int) (hx : ns[k]? = some x) : leN (((puts4 ns ++ T).drop (4 * k)).take 4) = x := by
  induction ns generalizing k with
  | nil => cases hx
  | cons y ns ih =>
    cases k with
    | zero =>
      injection hx with hx
      subst hx
      have : ((puts4 (y :: ns) ++ T).drop (4 * 0)).take 4 = le4 y := by
        show (List.drop 0 ((le4 y ++ puts4 ns) ++ T)).take 4 = _
        rw [List.drop_zero, List.append_assoc, List.take_append_of_le_length (by rw [le4_len]; exact Nat.le_refl _), List.take_of_length_le (by rw [le4_len]; exact Nat.le_refl _)]
      rw [this]
      exact leN_le4 (hns y (List.mem_cons_self ..))
    | succ k =>
      have h1 : (puts4 (y :: ns) ++ T).drop (4 * (k + 1)) = (puts4 ns ++ T).drop (4 * k) := by
        show ((le4 y ++ puts4 ns) ++ T).drop _ = _
        rw [List.append_assoc, List.drop_append, le4_len, List.drop_eq_nil_of_le (by rw [le4_len]; omega), List.nil_append]
        congr 1
      rw [h1]
      exact ih (fun x hx => hns x (List.mem_cons_of_mem _ hx)) k hx
theorem cut_short {sub kind flags : Int} (hfl : 0 ≤ flags ∧ flags < 4294967296) {l : List Cm} (h0 : (makeN sub kind flags l).2 = 0) (k : Nat) (hk : k < (makeN sub kind flags l).1.length) :
    frErr (((makeN sub kind flags l).1.take k).take 32) k = 3 := by
  revert h0 hk
  unfold makeN
  by_cases h1 : ¬ (sub = 0 ∨ sub = 2) ∨ ¬ (kind = 2 ∨ kind = 6) ∨ l.any Cm.odd = true
  · rw [if_pos h1]; intro h; cases h
  rw [if_neg h1]
  by_cases h2 : 256 < l.length ∨ 1048576 < 32 + sizeN l
  · rw [if_pos h2]; intro h; cases h
  rw [if_neg h2]
  intro _ hk
  have hk' : k < (laidN (headN sub kind l.length (sizeN l) flags) l l.length).length := hk
  rw [laidN_len, headN_len, List.take_length] at hk'
  unfold frErr
  by_cases hs : k < 32
  · rw [if_pos]
    rw [List.length_take, List.length_take]; omega
  have hlen : (laidN (headN sub kind l.length (sizeN l) flags) l l.length).length = 32 + sizeN l := by rw [laidN_len, headN_len, List.take_length]
  show (if (((laidN (headN sub kind l.length (sizeN l) flags) l l.length).take k).take 32).length < 32 then (3 : Int) else _) = 3
  have hsub : sub = 0 ∨ sub = 2 := by omega
  have hkind : kind = 2 ∨ kind = 6 := by omega
  have hW : ∀ (j : Nat) (x : Int), j < 8 → [4277009103, 16777228, sub, kind, (l.length : Int), (sizeN l : Int), flags, 0][j]? = some x →
      wordN (((laidN (headN sub kind l.length (sizeN l) flags) l l.length).take k).take 32) j = x := fun j x hj hx => by
    rw [List.take_take, show min 32 k = 32 by omega, wordN_take (by omega) j hj]
    unfold laidN headN
    exact word_made _ _ (by
      intro x hx
      simp at hx
      omega) j x hx
  have w0 := hW 0 _ (by omega) rfl
  have w1 := hW 1 _ (by omega) rfl
  have w2 := hW 2 _ (by omega) rfl
  have w3 := hW 3 _ (by omega) rfl
  have w4 := hW 4 _ (by omega) rfl
  have w5 := hW 5 _ (by omega) rfl
  show (if _ then (3 : Int) else if wordN (((laidN (headN sub kind l.length (sizeN l) flags) l l.length).take k).take 32) 0 ≠ 4277009103 then 5 else
    if wordN (((laidN (headN sub kind l.length (sizeN l) flags) l l.length).take k).take 32) 1 ≠ 16777228 ∨ ¬ (wordN (((laidN (headN sub kind l.length (sizeN l) flags) l l.length).take k).take 32) 2 % 16777216 = 0 ∨ wordN (((laidN (headN sub kind l.length (sizeN l) flags) l l.length).take k).take 32) 2 % 16777216 = 2) then 6 else
    if ¬ (wordN (((laidN (headN sub kind l.length (sizeN l) flags) l l.length).take k).take 32) 3 = 2 ∨ wordN (((laidN (headN sub kind l.length (sizeN l) flags) l l.length).take k).take 32) 3 = 6) then 7 else
    if 256 < wordN (((laidN (headN sub kind l.length (sizeN l) flags) l l.length).take k).take 32) 4 then 11 else
    if ¬ 32 + wordN (((laidN (headN sub kind l.length (sizeN l) flags) l l.length).take k).take 32) 5 ≤ (k : Int) then 3 else 0) = 3
  rw [w0, w1, w2, w3, w4, w5]
  rw [if_neg (by rw [List.length_take, List.length_take]; omega), if_neg (by omega), if_neg (by omega), if_neg (by omega), if_neg (by omega), if_pos (by omega)]

set_option maxHeartbeats 1600000 in
set_option maxRecDepth 20000 in
theorem walk (s0 k0 f0 : Int) (a1 : Option Addr) (len1 cap1 : Nat) (a2 : Int) (w : World)
    (w0 : 0 ≤ f0 ∧ f0 < 4294967296) (w1 : ∃ l : List Cm, l.length = len1 ∧ IsCms w a1 l ∧ (∀ m ∈ l, m.Fits) ∧ len1 ≤ cap1 ∧ cap1 ≤ 9223372036854775807) (_w2 : (Lit.int .i64 a2).wf = true) :
    Calls Try.prog 6 #[.agg #[.int .i64 s0, .int .i64 k0, .int .u32 f0], .slice a1 len1 cap1, .int .i64 a2] w fun e w' => e = .returned (.bool true) ∧ Below w.heap.size w w' := by
  obtain ⟨l, hn, hcm, hfit, hlc, hcmx⟩ := w1
  have gX := grown1 w (.cells #[.int .i64 s0, .int .i64 k0, .int .u32 f0] 27)
  have GX := Lib.hid gX
  have HX := Lib.hid (show HdAt (w.alloc (.cells #[.int .i64 s0, .int .i64 k0, .int .u32 f0] 27)) w.heap.size ⟨s0, k0, f0⟩ from heap_alloc_new w _)
  have K := Lib.hid (fun w : World => known_any (w := w))
  have FE := Lib.hid (few_any (w := w.alloc (.cells #[.int .i64 s0, .int .i64 k0, .int .u32 f0] 27)) l len1 hn a1 cap1 (hcm.grown gX) hlc hcmx hfit 20)
  clear gX
  by_cases hfew : fewB l 20 = true
  · rw [hfew] at FE
    by_cases hneg : a2 < 0
    · have hd : decide (a2 < 0) = true := by simpa using hneg
      clear hfew
      go_enter Try.func6, Try.ntmps6
      go_wp2_with fail
      refine FE.out.mono ?_
      rintro e w1 ⟨rfl, hg⟩
      have G := Lib.hid (grown_trans GX.out hg)
      clear hg
      go_wp2_with fail
      refine (K.out _).mono ?_
      rintro e w8 ⟨rfl, hbk⟩
      have B := Lib.hid ((below_grown G.out (Nat.le_refl _) (by simp)).trans (hbk.mono G.out.size))
      clear hbk
      go_wp2
      go_ret
      exact ⟨rfl, B.out⟩
    · have hd : decide (a2 < 0) = false := by simp; omega
      obtain ⟨h3, h6⟩ := fewB_le hfew
      have MK := Lib.hid (fun (w1 : World) (hg : w.grownBy w1 none) => refmake_any (w := w1) s0 k0 f0 w0 l len1 hn (by omega) hfit a1 cap1 (hcm.grown hg))
      have SM := Lib.hid (makeN_small s0 k0 f0 hfit)
      have CS := Lib.hid (fun h0 k hk => cut_short (sub := s0) (kind := k0) w0 (l := l) h0 k hk)
      have hlen : (makeN s0 k0 f0 l).1.length ≤ 1048576 := by
        unfold makeN
        split
        · simp
        · split
          · simp
          · show (laidN _ _ _).length ≤ _
            rw [laidN_len, headN_len, List.take_length]; omega
      obtain ⟨⟨ys, er⟩, hr⟩ : ∃ r, r = makeN s0 k0 f0 l := ⟨_, rfl⟩
      rw [← hr] at MK SM CS hlen
      simp only [] at SM CS hlen
      obtain ⟨k, hk⟩ := Int.eq_ofNat_of_zero_le (show 0 ≤ a2 by omega)
      subst hk
      clear hfew hr h3 h6 hfit hcm hn hneg
      go_enter Try.func6, Try.ntmps6
      go_wp2_with fail
      refine FE.out.mono ?_
      rintro e w1 ⟨rfl, hg⟩
      have hH : w1.heap[w.heap.size]? = some (.cells #[.int .i64 s0, .int .i64 k0, .int .u32 f0] 27 (0, 0)) := (hg.block _ (lt_of_block HX.out) (by simp)).trans HX.out
      have d0 : w1.cell? ⟨w.heap.size, 0, none⟩ = some (.int .i64 s0) := by rw [cell_of hH]; rfl
      have d1 : w1.cell? ⟨w.heap.size, 1, none⟩ = some (.int .i64 k0) := by rw [cell_of hH]; rfl
      have d2 : w1.cell? ⟨w.heap.size, 2, none⟩ = some (.int .u32 f0) := by rw [cell_of hH]; rfl
      have G := Lib.hid (grown_trans GX.out hg)
      clear hg hH
      go_wp2_with fail
      refine (MK.out _ G.out).mono ?_
      rintro e w2 ⟨⟨q, c, rfl, hb, hyc, hc⟩, hg⟩
      have G2 := Lib.hid (grown_trans G.out hg)
      have BY := Lib.hid hb
      clear hg hb d0 d1 d2
      simp only [] at hyc BY ⊢
      by_cases her : er = 0
      · subst her
        by_cases hkl : k < ys.length
        · have hd2 : decide ((ys.length : Int) ≤ k) = false := by simp; omega
          have BT := Lib.hid (BY.out.take (c' := c) k (fun e => by
            rcases BY.out.ways with ⟨_, h, _⟩ | ⟨x, h, _⟩
            · rw [h] at hkl; simp at hkl
            · rw [h] at e; cases e))
          have RD := Lib.hid (Read_no (w := w2) (ys.take k) q c k BT.out (by rw [List.length_take]; omega) (by omega) hc (by omega) (fun x hx => SM.out x (List.mem_of_mem_take hx)) 3 (CS.out rfl k hkl) (by decide))
          have hkc : (k : Int) ≤ c := by omega
          go_wp2_with fail
          refine RD.out.mono ?_
          rintro e w3 ⟨rfl, hg⟩
          have G3 := Lib.hid (grown_trans (grown_trans G2.out hg) (grown1 w3 (.cells #[.int .i64 0, .int .i64 0, .int .u32 0] 27)))
          clear hg
          go_wp2_with fail
          refine (K.out _).mono ?_
          rintro e w8 ⟨rfl, hbk⟩
          have B := Lib.hid ((below_grown G3.out (Nat.le_refl _) (by simp)).trans (hbk.mono G3.out.size))
          clear hbk
          go_wp2
          go_ret
          exact ⟨rfl, B.out⟩
        · have hd2 : decide ((ys.length : Int) ≤ k) = true := by simp; omega
          go_wp2_with fail
          refine (K.out _).mono ?_
          rintro e w8 ⟨rfl, hbk⟩
          have B := Lib.hid ((below_grown G2.out (Nat.le_refl _) (by simp)).trans (hbk.mono G2.out.size))
          clear hbk
          go_wp2
          go_ret
          exact ⟨rfl, B.out⟩
      · have hne : (er == 0) = false := by simpa using her
        have hne2 : (er != 0) = true := by simpa using her
        go_wp2_with fail
        refine (K.out _).mono ?_
        rintro e w8 ⟨rfl, hbk⟩
        have B := Lib.hid ((below_grown G2.out (Nat.le_refl _) (by simp)).trans (hbk.mono G2.out.size))
        clear hbk
        go_wp2
        go_ret
        exact ⟨rfl, B.out⟩
  · have hfew' : fewB l 20 = false := by simpa using hfew
    rw [hfew'] at FE
    clear hfew hfew'
    go_enter Try.func6, Try.ntmps6
    go_wp2_with fail
    refine FE.out.mono ?_
    rintro e w1 ⟨rfl, hg⟩
    have G := Lib.hid (grown_trans GX.out hg)
    clear hg
    go_wp2_with fail
    refine (K.out _).mono ?_
    rintro e w8 ⟨rfl, hbk⟩
    have B := Lib.hid ((below_grown G.out (Nat.le_refl _) (by simp)).trans (hbk.mono G.out.size))
    clear hbk
    go_wp2
    go_ret
    exact ⟨rfl, B.out⟩
end Go.Proofs.Ytcclfbeojaaepaa.commandShort
