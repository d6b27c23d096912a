/- A number taken group by group (layer 2's take, Uleb and Sleb): the document's number, or the cursor has failed where it would begin. No condition but that there is such a cursor in memory. -/
import Derived.Test.YtblfighfahffkaaClo
import Derived.Test.YtblfighfahffkaaNum
import Derived.Test.YtblfighfahffkaaSeek
import Derived.WalkMore
namespace Go.Proofs.Ytblfighfahffkaa
open Go.RowKit
variable {w : World} {base a : Nat} {q : Option Addr} {c : Nat} {xs : List Int} {p : Nat} {big : Bool}

/-- One byte, as a number. -/
theorem number1 (h : Cur w base a q c xs p big false) (hp : p < xs.length) {x : Int} (hx : xs.getD p 0 = x) :
    Calls Try.prog 91 #[.pointer (some ⟨a, 0, none⟩), .int .i64 1] w fun e w' =>
      e = .returned (.int .u64 x) ∧ Cur w' base a q c xs (p + 1) big false ∧ w.grownBy w' (some a) := by
  have h1 : numOf big ((xs.drop p).take 1) = x := by
    subst hx
    rw [List.drop_eq_getElem_cons hp, show (xs[p] :: xs.drop (p + 1)).take 1 = [xs[p]] from rfl, show xs.getD p 0 = xs[p] by simp [hp]]
    cases big <;> simp [numOf, beN, leN]
  have := number_ok h 1 (.inl rfl) (by omega)
  rw [h1] at this
  exact this

theorem uleb_no {l : List Int} (h : szN 10 l = 0 ∨ 18446744073709551616 ≤ valN (l.take (szN 10 l))) : ulebN l = (0, 0) := by
  unfold ulebN
  rcases h with h | h
  · rw [h]; simp [valN]
  · rw [if_neg (by omega)]
theorem uleb_yes {l : List Int} {k : Nat} {v : Int} (h : szN 10 l = k) (hv : valN (l.take k) = v) (h2 : v < 18446744073709551616) : ulebN l = (v, k) := by
  unfold ulebN
  rw [h, hv, if_pos h2]

/-- What holds ahead of a round. -/
structure URel (w0 w : World) (base a : Nat) (q : Option Addr) (c : Nat) (xs : List Int) (p : Nat) (big : Bool) (bn k : Nat) : Prop where
  le : k ≤ 10
  len : p + k ≤ xs.length
  more : More (xs.drop p) k
  cur : Cur w base a q c xs (p + k) big false
  cell : ∃ N' : Int, w.heap[bn]? = some (.cells #[.int .u64 N'] 31 (0, 0)) ∧ (k ≤ 9 → N' = valN ((xs.drop p).take k))
  kept : KeptBut w0 w [a, bn]

def UEnd (w0 w : World) (base a : Nat) (q : Option Addr) (c : Nat) (xs : List Int) (p : Nat) (big : Bool) (bn : Nat) (e : Ending) : Prop :=
  e = .returned (.bool (decide (0 < (ulebN (xs.drop p)).2))) ∧ Cur w base a q c xs (p + (ulebN (xs.drop p)).2) big (decide ((ulebN (xs.drop p)).2 = 0)) ∧
    (0 < (ulebN (xs.drop p)).2 → w.heap[bn]? = some (.cells #[.int .u64 (ulebN (xs.drop p)).1] 31 (0, 0))) ∧ KeptBut w0 w [a, bn]

theorem uend_no {w0 w1 : World} {bn : Nat} (hn : ulebN (xs.drop p) = (0, 0)) (hc : Cur w1 base a q c xs p big true) (hk : KeptBut w0 w1 [a, bn]) : UEnd w0 w1 base a q c xs p big bn (.returned (.bool false)) := by
  refine ⟨by rw [hn]; rfl, by rw [hn]; exact hc, fun h => ?_, hk⟩
  rw [hn] at h; exact absurd h (by decide)

/-- Behind as many groups as may be: none. -/
theorem uleb_long {l : List Int} (h : More l 10) : ulebN l = (0, 0) := uleb_no (.inl (szN_long 10 l h))
theorem uleb_short {l : List Int} (h : More l l.length) : ulebN l = (0, 0) := uleb_no (.inl (szN_short 10 l h))
/-- A tenth group without room. -/
theorem uleb_room {l : List Int} (h : More l 9) (hl : 9 < l.length) (hx : 1 < l.getD 9 0 % 128) : ulebN l = (0, 0) := by
  by_cases h1 : l.getD 9 0 < 128
  · have hs := szN_end 10 9 l (by omega) hl h h1
    refine uleb_no (.inr ?_)
    rw [hs, valN_take hl]
    have := valN_bd (l.take 9)
    omega
  · exact uleb_long (h.succ (by omega))
theorem uleb_last {l : List Int} {k : Nat} {N : Int} (hk : k ≤ 9) (h : More l k) (hl : k < l.length) (hx : l.getD k 0 < 128) (h0 : 0 ≤ l.getD k 0) (hok : k < 9 ∨ l.getD k 0 ≤ 1)
    (hN : N = valN (l.take k)) : ulebN l = (N + l.getD k 0 * 128 ^ k, k + 1) := by
  have hs := szN_end 10 k l (by omega) hl h hx
  have hb := valN_bd (l.take k)
  rw [List.length_take, Nat.min_eq_left (Nat.le_of_lt hl)] at hb
  refine uleb_yes hs ?_ ?_
  · rw [valN_take hl, hN, Int.emod_eq_of_lt h0 hx]
  · subst hN
    rcases Nat.lt_or_ge k 9 with h9 | h9
    · have h1 := p128_8 h9
      have : l.getD k 0 * 128 ^ k ≤ 127 * 128 ^ k := Int.mul_le_mul_of_nonneg_right (by omega) (Int.le_of_lt (p128 k))
      omega
    · obtain rfl : k = 9 := by omega
      have : l.getD 9 0 ≤ 1 := by omega
      generalize l.getD 9 0 = y at *
      have : (128 : Int) ^ 9 = 9223372036854775808 := by decide
      omega
theorem uend_yes {w0 w1 : World} {bn k : Nat} {V : Int} (hn : ulebN (xs.drop p) = (V, k + 1)) (hc : Cur w1 base a q c xs (p + k + 1) big false) (hcell : w1.heap[bn]? = some (.cells #[.int .u64 V] 31 (0, 0)))
    (hk : KeptBut w0 w1 [a, bn]) : UEnd w0 w1 base a q c xs p big bn (.returned (.bool true)) := by
  refine ⟨by rw [hn]; simp, by rw [hn]; exact hc, fun _ => by rw [hn]; exact hcell, hk⟩

set_option maxHeartbeats 800000 in
theorem takeu_any (h : Cur w base a q c xs p big false) (bn : Nat) (hb : w.heap[bn]? = some (.cells #[.int .u64 0] 31 (0, 0))) (hne : bn ≠ a) (hq : (Value.slice q xs.length c).ownBlock ≠ some bn) :
    Calls Try.prog 103 #[.pointer (some ⟨a, 0, none⟩), .func (.func 104) #[] #[.pointer (some ⟨bn, 0, none⟩)]] w fun e w' => UEnd w w' base a q c xs p big bn e := by
  have R0 : URel w w base a q c xs p big bn 0 := ⟨by omega, h.le, fun i hi => by omega, h, ⟨0, hb, fun _ => rfl⟩, KeptBut.refl _ _⟩
  have hple := h.le
  have hbig := h.big
  have B := Lib.hid h.bytes
  have NE := Lib.hid hne
  have HQ := Lib.hid hq
  clear hb hne hq
  go_enter Try.func103, Try.ntmps103
  go_wp2_with fail
  go_step3
  go_wp2_with fail
  refine (err_any h).mono ?_
  rintro e w' ⟨rfl, rfl⟩
  go_wp2_with fail
  refine (at_any h).mono ?_
  rintro e w' ⟨rfl, rfl⟩
  go_wp2_with fail
  go_step3
  go_wp2_with fail
  go_loopw [13] (fun i wr => ∃ k : Nat, i = .int .i64 k ∧ URel w wr base a q c xs p big bn k) (fun i _ => 10 - (intOf i).toNat)
  case atStart => exact ⟨0, rfl, R0⟩
  case round =>
    obtain ⟨k, rfl, hk, hlen, hmore, hcur, ⟨N, hcell, hN⟩, hkept⟩ := hrel
    have hrl : (xs.drop p).length = xs.length - p := by simp
    have M := Lib.hid hmore
    have KP := Lib.hid hkept
    have HN := Lib.hid hN
    have RL := Lib.hid hrl
    have HC := Lib.hid hcell
    clear hmore hkept hN hrl hcell
    by_cases h10 : k = 10
    · subst h10
      go_wp2_with fail
      refine (seek_ok (hcur) p (by omega)).mono ?_
      rintro e w5 ⟨rfl, hc5, hg5⟩
      go_wp2_with fail
      refine (fail_any hc5).mono ?_
      rintro e w6 ⟨rfl, hc6, hg6⟩
      have E := Lib.hid (uend_no (uleb_long M.out) hc6 (((KP.out).trans (.of_grown hg5 (by simp))).trans (.of_grown hg6 (by simp))))
      clear hc5 hg5 hg6
      go_wp2
      (try rw [Exit.noGoto_ret])
      go_ret
      exact E.out
    by_cases hend : p + k = xs.length
    · have hl0 : (xs.length : Int) - ((p + k : Nat) : Int) = 0 := by omega
      have Z := Lib.hid hl0
      clear hl0
      go_wp2_with fail
      refine (left_any hcur).mono ?_
      rintro e w' ⟨rfl, n, rfl⟩
      rw [Z.out]
      go_wp2_with fail
      refine (seek_ok (hcur.drewN n) p (by omega)).mono ?_
      rintro e w5 ⟨rfl, hc5, hg5⟩
      go_wp2_with fail
      refine (fail_any hc5).mono ?_
      rintro e w6 ⟨rfl, hc6, hg6⟩
      have E := Lib.hid (uend_no (uleb_short (by rw [RL.out, show xs.length - p = k by omega]; exact M.out)) hc6 (((KP.out.drewN n).trans (.of_grown hg5 (by simp))).trans (.of_grown hg6 (by simp))))
      clear hc5 hg5 hg6
      go_wp2
      (try rw [Exit.noGoto_ret])
      go_ret
      exact E.out
    · obtain ⟨m, hm⟩ : ∃ m : Nat, (xs.length : Int) - ((p + k : Nat) : Int) = (m : Int) := ⟨xs.length - (p + k), by omega⟩
      have hm0 : 0 < m := by omega
      have Z := Lib.hid hm
      clear hm
      have hkl : p + k < xs.length := by omega
      have hx0 := B.out (xs.getD (p + k) 0) (by simp [List.getD, hkl, List.getElem_mem])
      have hgd : (xs.drop p).getD k 0 = xs.getD (p + k) 0 := by simp [List.getD, List.getElem?_drop]
      have NUM := fun n => number1 (hcur.drewN n) hkl rfl
      generalize hxx : xs.getD (p + k) 0 = x at *
      have GD := Lib.hid hgd
      have NM := Lib.hid NUM
      clear hgd NUM hxx
      go_wp2_with fail
      refine (left_any hcur).mono ?_
      rintro e w' ⟨rfl, n, rfl⟩
      rw [Z.out]
      go_wp2_with fail
      refine (NM.out n).mono ?_
      rintro e w2 ⟨rfl, hc2, hg2⟩
      have hcell2 : w2.heap[bn]? = some (.cells #[.int .u64 N] 31 (0, 0)) := (hg2.block bn (by simpa using lt_of_block HC.out) (fun e => NE.out (by simpa using e))).trans HC.out
      have CL := uclo_any bn N (x % 128) k (by omega) (by omega) (by rw [HN.out (by omega)]; have := valN_bd ((xs.drop p).take k); rwa [List.length_take, RL.out, Nat.min_eq_left (by omega)] at this) hcell2
      have C2 := Lib.hid CL
      clear CL hcell2
      have K2 := Lib.hid ((KP.out.drewN n).trans (.of_grown hg2 (by simp)))
      clear hg2
      by_cases hok : k < 9 ∨ x % 128 ≤ 1
      · have hd : decide (k < 9 ∨ x % 128 ≤ 1) = true := by simpa using hok
        rw [hd] at C2
        clear hd
        by_cases hx : x < 128
        · go_wp2_with fail
          refine C2.out.mono ?_
          rintro e w3 ⟨rfl, ⟨V, hV, hVN⟩, hg3⟩
          have hc3 := hc2.kept hg3 (by simpa using NE.out) (.inr HQ.out)
          have hv := hVN hok
          rw [Int.emod_eq_of_lt hx0.1 hx] at hv hok
          subst hv
          have GD' := GD.out
          have hu : ulebN (xs.drop p) = (N + x * 128 ^ k, k + 1) := by
            have := uleb_last (N := N) (l := xs.drop p) (k := k) (by omega) M.out (by rw [RL.out]; omega) (by rw [GD']; exact hx) (by rw [GD']; exact hx0.1) (by rw [GD']; exact hok) (HN.out (by omega))
            rwa [GD'] at this
          have E := Lib.hid (uend_yes hu hc3 hV (K2.out.trans (.of_grown hg3 (by simp))))
          clear GD' hu hV hVN hg3 hc3
          go_wp2
          (try rw [Exit.noGoto_ret])
          go_ret
          exact E.out
        · have hx2 : 128 ≤ x := by omega
          go_wp2_with fail
          refine C2.out.mono ?_
          rintro e w3 ⟨rfl, ⟨V, hV, hVN⟩, hg3⟩
          have hc3 := hc2.kept hg3 (by simpa using NE.out) (.inr HQ.out)
          have hv := hVN hok
          have R : URel w w3 base a q c xs p big bn (k + 1) := ⟨by omega, by omega, M.out.succ (by rw [GD.out]; exact hx2), hc3, ⟨V, hV, fun h9 => by
            rw [valN_take (by rw [RL.out]; omega), GD.out, hv, HN.out (by omega)]⟩, K2.out.trans (.of_grown hg3 (by simp))⟩
          have RR := Lib.hid R
          clear R hV hVN hg3 hc3 hv
          go_wp2
          go_roundw
          case rel => exact ⟨k + 1, by go_num, RR.out⟩
          case measure => simp [intOf]; omega
      · have hd : decide (k < 9 ∨ x % 128 ≤ 1) = false := by simpa using hok
        rw [hd] at C2
        clear hd
        obtain rfl : k = 9 := by omega
        go_wp2_with fail
        refine C2.out.mono ?_
        rintro e w3 ⟨rfl, ⟨V, hV, hVN⟩, hg3⟩
        have hc3 := hc2.kept hg3 (by simpa using NE.out) (.inr HQ.out)
        have K3 := Lib.hid (K2.out.trans (.of_grown hg3 (by simp)))
        clear hV hVN hg3
        go_wp2_with fail
        refine (seek_ok (hc3) p (by omega)).mono ?_
        rintro e w5 ⟨rfl, hc5, hg5⟩
        go_wp2_with fail
        refine (fail_any hc5).mono ?_
        rintro e w6 ⟨rfl, hc6, hg6⟩
        have E := Lib.hid (uend_no (uleb_room M.out (by rw [RL.out]; omega) (by rw [GD.out]; omega)) hc6 (((K3.out).trans (.of_grown hg5 (by simp))).trans (.of_grown hg6 (by simp))))
        clear hc5 hg5 hg6
        go_wp2
        (try rw [Exit.noGoto_ret])
        go_ret
        exact E.out

/- The same of a signed number. -/
theorem KeptBut.more {w w' : World} {S S' : List Nat} (h : KeptBut w w' S) (hs : ∀ i ∈ S, i ∈ S') : KeptBut w w' S' := ⟨h.os, h.tape, h.output, h.size, fun i hi hr => h.block i hi (fun hm => hr (hs i hm))⟩
structure SRel (w0 w : World) (base a : Nat) (q : Option Addr) (c : Nat) (xs : List Int) (p : Nat) (big : Bool) (bn ba k : Nat) : Prop where
  le : k ≤ 10
  len : p + k ≤ xs.length
  more : More (xs.drop p) k
  cur : Cur w base a q c xs (p + k) big false
  cell : ∃ N' A' : Int, w.heap[bn]? = some (.cells #[.int .i64 N'] 2 (0, 0)) ∧ w.heap[ba]? = some (.cells #[.int .i64 A'] 2 (0, 0)) ∧ (k ≤ 9 → N' = valN ((xs.drop p).take k))
  kept : KeptBut w0 w [a, bn, ba]
def SEnd (w0 w : World) (base a : Nat) (q : Option Addr) (c : Nat) (xs : List Int) (p : Nat) (big : Bool) (bn ba : Nat) (e : Ending) : Prop :=
  e = .returned (.bool (decide (0 < (slebN (xs.drop p)).2))) ∧ Cur w base a q c xs (p + (slebN (xs.drop p)).2) big (decide ((slebN (xs.drop p)).2 = 0)) ∧
    (0 < (slebN (xs.drop p)).2 → ∃ V T : Int, w.heap[bn]? = some (.cells #[.int .i64 V] 2 (0, 0)) ∧ w.heap[ba]? = some (.cells #[.int .i64 T] 2 (0, 0)) ∧ bits .or .i64 V T = (slebN (xs.drop p)).1) ∧ KeptBut w0 w [a, bn, ba]
theorem send_no {w0 w1 : World} {bn ba : Nat} (hn : slebN (xs.drop p) = (0, 0)) (hc : Cur w1 base a q c xs p big true) (hk : KeptBut w0 w1 [a, bn, ba]) : SEnd w0 w1 base a q c xs p big bn ba (.returned (.bool false)) := by
  refine ⟨by rw [hn]; rfl, by rw [hn]; exact hc, fun h => ?_, hk⟩
  rw [hn] at h; exact absurd h (by decide)
theorem send_yes {w0 w1 : World} {bn ba k : Nat} {V T : Int} (hn : slebN (xs.drop p) = (bits .or .i64 V T, k + 1)) (hc : Cur w1 base a q c xs (p + k + 1) big false) (hcell : w1.heap[bn]? = some (.cells #[.int .i64 V] 2 (0, 0)))
    (hcell2 : w1.heap[ba]? = some (.cells #[.int .i64 T] 2 (0, 0))) (hk : KeptBut w0 w1 [a, bn, ba]) : SEnd w0 w1 base a q c xs p big bn ba (.returned (.bool true)) := by
  refine ⟨by rw [hn]; simp, by rw [hn]; exact hc, fun _ => ⟨V, T, hcell, hcell2, by rw [hn]⟩, hk⟩
theorem sleb_no {l : List Int} (h : szN 10 l = 0 ∨ ¬ (-9223372036854775808 ≤ svalN (l.take (szN 10 l)) ∧ svalN (l.take (szN 10 l)) < 9223372036854775808)) : slebN l = (0, 0) := by
  unfold slebN
  rcases h with h | h
  · rw [h]; simp [svalN]
  · rw [if_neg h]
theorem sleb_long {l : List Int} (h : More l 10) : slebN l = (0, 0) := sleb_no (.inl (szN_long 10 l h))
theorem sleb_short {l : List Int} (h : More l l.length) : slebN l = (0, 0) := sleb_no (.inl (szN_short 10 l h))
theorem svalN_take {l : List Int} {k : Nat} (h : k < l.length) : svalN (l.take (k + 1)) = if 64 ≤ l.getD k 0 % 128 then valN (l.take k) + l.getD k 0 % 128 * 128 ^ k - 128 ^ (k + 1) else valN (l.take k) + l.getD k 0 % 128 * 128 ^ k := by
  have hv := valN_take h
  rw [take_snoc h] at hv ⊢
  rw [svalN_snoc, hv]
  simp only [List.length_take, Nat.min_eq_left (Nat.le_of_lt h)]
theorem sleb_room {l : List Int} (h : More l 9) (hl : 9 < l.length) (hx : l.getD 9 0 % 128 ≠ 0 ∧ l.getD 9 0 % 128 ≠ 127) : slebN l = (0, 0) := by
  by_cases h1 : l.getD 9 0 < 128
  · have hs := szN_end 10 9 l (by omega) hl h h1
    refine sleb_no (.inr ?_)
    rw [hs, svalN_take hl]
    have := valN_bd (l.take 9)
    rw [List.length_take, Nat.min_eq_left (Nat.le_of_lt hl)] at this
    have hg : 0 ≤ l.getD 9 0 % 128 ∧ l.getD 9 0 % 128 < 128 := ⟨Int.emod_nonneg _ (by decide), Int.emod_lt_of_pos _ (by decide)⟩
    generalize l.getD 9 0 % 128 = g at *
    have e1 : (128 : Int) ^ 9 = 9223372036854775808 := by decide
    have e2 : (128 : Int) ^ (9 + 1) = 1180591620717411303424 := by decide
    rw [e1, e2] at *
    split <;> omega
  · exact sleb_long (h.succ (by omega))
theorem sleb_last {l : List Int} {k : Nat} {N V T x : Int} (hk : k ≤ 9) (h : More l k) (hl : k < l.length) (hgd : l.getD k 0 = x) (hx : x < 128) (h0 : 0 ≤ x) (hok : k < 9 ∨ x = 0 ∨ x = 127)
    (hN : N = valN (l.take k)) (hVT : SFine N V T x k) : slebN l = (bits .or .i64 V T, k + 1) := by
  have hs := szN_end 10 k l (by omega) hl h (by rw [hgd]; exact hx)
  have hb := valN_bd (l.take k)
  rw [List.length_take, Nat.min_eq_left (Nat.le_of_lt hl), ← hN] at hb
  have hsv := svalN_take hl
  rw [hgd, ← hN, Int.emod_eq_of_lt h0 hx] at hsv
  unfold slebN
  rw [hs, hsv]
  rcases Nat.lt_or_ge k 9 with h9 | h9
  · obtain ⟨rfl, rfl⟩ := hVT.1 h9
    have h1 := p128_8 h9
    have h3 : x * 128 ^ k ≤ 127 * 128 ^ k := Int.mul_le_mul_of_nonneg_right (by omega) (Int.le_of_lt (p128 k))
    have h4 : 0 ≤ x * 128 ^ k := Int.mul_nonneg h0 (Int.le_of_lt (p128 k))
    have hp : (128 : Int) ^ (k + 1) = 2 ^ (7 * (k + 1)) := p128_two (k + 1)
    have hs1 : (128 : Int) ^ (k + 1) = 128 ^ k * 128 := Int.pow_succ ..
    by_cases h64 : 64 ≤ x
    · have h5 : 64 * 128 ^ k ≤ x * 128 ^ k := Int.mul_le_mul_of_nonneg_right h64 (Int.le_of_lt (p128 k))
      rw [if_pos h64, if_pos h64, or_signed (7 * (k + 1)) (by omega) _ _ (by omega) (by rw [← hp]; omega) (by rw [← hp, Int.neg_emod_self]) (by omega) (by omega), if_pos (by omega)]
      rfl
    · rw [if_neg h64, if_neg h64, or_signed (7 * (k + 1)) (by omega) _ _ (by omega) (by rw [← hp]; omega) (by simp) (by omega) (by omega), if_pos (by omega), Int.add_zero]
  · obtain rfl : k = 9 := by omega
    obtain ⟨rfl, hz, hm⟩ := hVT.2 rfl
    have e1 : (128 : Int) ^ 9 = 9223372036854775808 := by decide
    have e2 : (128 : Int) ^ (9 + 1) = 1180591620717411303424 := by decide
    rw [e1] at hb
    rw [e1, e2]
    have oz : ∀ y : Int, -9223372036854775808 ≤ y → y < 9223372036854775808 → bits .or .i64 y 0 = y := fun y h1 h2 => by
      have hc : bits .or .i64 y 0 = bits .or .i64 0 y := by simp only [bits, BitVec.or_comm]
      rw [hc, or_signed 0 (by decide) 0 y (by decide) (by decide) (by simp) h1 h2, Int.zero_add]
    rcases hok with hbad | rfl | rfl
    · omega
    · rw [hz rfl, oz _ (by omega) (by omega), if_neg (show ¬ (64 : Int) ≤ 0 by decide), if_pos (by omega)]
      simp
    · rw [hm rfl, oz _ (by omega) (by omega), if_pos (show (64 : Int) ≤ 127 by decide), if_pos (by omega), show N + 127 * 9223372036854775808 - 1180591620717411303424 = N - 9223372036854775808 by omega]

end Go.Proofs.Ytblfighfahffkaa
