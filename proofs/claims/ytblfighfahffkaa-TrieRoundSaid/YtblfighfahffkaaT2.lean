import Derived.Test.YtblfighfahffkaaT1
import Derived.WalkMore
import Derived.Laws.BytesArg
import Derived.Shelf.Bytes.SlEqualAll
import Derived.Lib.SlFresh
import Derived.Maps.AppendAt
import Derived.Deep.AppendSrc
import Derived.Deep.Upon
import Derived.Lib.AppendZeros
import Derived.Laws.IdiomStrings
import Derived.Lib.AppendZerosOnto
import Derived.Laws.StructEq
import Derived.Below
import Derived.Shelf.Abstract
import Derived.Laws.ResultCell
import Derived.Deep.Slices
import Derived.ChangeSame
import Derived.Laws.OwnMore
/- A number taken group by group (layer 2's take, Uleb and Sleb): the document's number, or the cursor has failed where it would begin. No condition but that there is such a cursor in memory. -/
namespace Go.Proofs.Ytblfighfahffkaa
open Go.RowKit
variable {w : World} {base a : Nat} {q : Option Addr} {c : Nat} {xs : List Int} {p : Nat} {big : Bool}

/-- One byte, as a number. -/
theorem number1 (h : Cur w base a q c xs p big false) (hp : p < xs.length) {x : Int} (hx : xs.getD p 0 = x) :
    Calls Try.prog 91 #[.pointer (some ⟨a, 0, none⟩), .int .i64 1] w fun e w' =>
      e = .returned (.int .u64 x) ∧ Cur w' base a q c xs (p + 1) big false ∧ w.grownBy w' (some a) := by
  have h1 : numOf big ((xs.drop p).take 1) = x := by
    subst hx
    rw [List.drop_eq_getElem_cons hp, show (xs[p] :: xs.drop (p + 1)).take 1 = [xs[p]] from rfl, show xs.getD p 0 = xs[p] by simp [hp]]
    cases big <;> simp [numOf, beN, leN]
  have := number_ok h 1 (.inl rfl) (by omega)
  rw [h1] at this
  exact this

theorem uleb_no {l : List Int} (h : szN 10 l = 0 ∨ 18446744073709551616 ≤ valN (l.take (szN 10 l))) : ulebN l = (0, 0) := by
  unfold ulebN
  rcases h with h | h
  · rw [h]; simp [valN]
  · rw [if_neg (by omega)]
theorem uleb_yes {l : List Int} {k : Nat} {v : Int} (h : szN 10 l = k) (hv : valN (l.take k) = v) (h2 : v < 18446744073709551616) : ulebN l = (v, k) := by
  unfold ulebN
  rw [h, hv, if_pos h2]

/-- What holds ahead of a round. -/
structure URel (w0 w : World) (base a : Nat) (q : Option Addr) (c : Nat) (xs : List Int) (p : Nat) (big : Bool) (bn k : Nat) : Prop where
  le : k ≤ 10
  len : p + k ≤ xs.length
  more : More (xs.drop p) k
  cur : Cur w base a q c xs (p + k) big false
  cell : ∃ N' : Int, w.heap[bn]? = some (.cells #[.int .u64 N'] 31 (0, 0)) ∧ (k ≤ 9 → N' = valN ((xs.drop p).take k))
  kept : KeptBut w0 w [a, bn]

def UEnd (w0 w : World) (base a : Nat) (q : Option Addr) (c : Nat) (xs : List Int) (p : Nat) (big : Bool) (bn : Nat) (e : Ending) : Prop :=
  e = .returned (.bool (decide (0 < (ulebN (xs.drop p)).2))) ∧ Cur w base a q c xs (p + (ulebN (xs.drop p)).2) big (decide ((ulebN (xs.drop p)).2 = 0)) ∧
    (0 < (ulebN (xs.drop p)).2 → w.heap[bn]? = some (.cells #[.int .u64 (ulebN (xs.drop p)).1] 31 (0, 0))) ∧ KeptBut w0 w [a, bn]

theorem uend_no {w0 w1 : World} {bn : Nat} (hn : ulebN (xs.drop p) = (0, 0)) (hc : Cur w1 base a q c xs p big true) (hk : KeptBut w0 w1 [a, bn]) : UEnd w0 w1 base a q c xs p big bn (.returned (.bool false)) := by
  refine ⟨by rw [hn]; rfl, by rw [hn]; exact hc, fun h => ?_, hk⟩
  rw [hn] at h; exact absurd h (by decide)

/-- Behind as many groups as may be: none. -/
theorem uleb_long {l : List Int} (h : More l 10) : ulebN l = (0, 0) := uleb_no (.inl (szN_long 10 l h))
theorem uleb_short {l : List Int} (h : More l l.length) : ulebN l = (0, 0) := uleb_no (.inl (szN_short 10 l h))
/-- A tenth group without room. -/
theorem uleb_room {l : List Int} (h : More l 9) (hl : 9 < l.length) (hx : 1 < l.getD 9 0 % 128) : ulebN l = (0, 0) := by
  by_cases h1 : l.getD 9 0 < 128
  · have hs := szN_end 10 9 l (by omega) hl h h1
    refine uleb_no (.inr ?_)
    rw [hs, valN_take hl]
    have := valN_bd (l.take 9)
    omega
  · exact uleb_long (h.succ (by omega))
theorem uleb_last {l : List Int} {k : Nat} {N : Int} (hk : k ≤ 9) (h : More l k) (hl : k < l.length) (hx : l.getD k 0 < 128) (h0 : 0 ≤ l.getD k 0) (hok : k < 9 ∨ l.getD k 0 ≤ 1)
    (hN : N = valN (l.take k)) : ulebN l = (N + l.getD k 0 * 128 ^ k, k + 1) := by
  have hs := szN_end 10 k l (by omega) hl h hx
  have hb := valN_bd (l.take k)
  rw [List.length_take, Nat.min_eq_left (Nat.le_of_lt hl)] at hb
  refine uleb_yes hs ?_ ?_
  · rw [valN_take hl, hN, Int.emod_eq_of_lt h0 hx]
  · subst hN
    rcases Nat.lt_or_ge k 9 with h9 | h9
    · have h1 := p128_8 h9
      have : l.getD k 0 * 128 ^ k ≤ 127 * 128 ^ k := Int.mul_le_mul_of_nonneg_right (by omega) (Int.le_of_lt (p128 k))
      omega
    · obtain rfl : k = 9 := by omega
      have : l.getD 9 0 ≤ 1 := by omega
      generalize l.getD 9 0 = y at *
      have : (128 : Int) ^ 9 = 9223372036854775808 := by decide
      omega
theorem uend_yes {w0 w1 : World} {bn k : Nat} {V : Int} (hn : ulebN (xs.drop p) = (V, k + 1)) (hc : Cur w1 base a q c xs (p + k + 1) big false) (hcell : w1.heap[bn]? = some (.cells #[.int .u64 V] 31 (0, 0)))
    (hk : KeptBut w0 w1 [a, bn]) : UEnd w0 w1 base a q c xs p big bn (.returned (.bool true)) := by
  refine ⟨by rw [hn]; simp, by rw [hn]; exact hc, fun _ => by rw [hn]; exact hcell, hk⟩

set_option maxHeartbeats 800000 in
theorem takeu_any (h : Cur w base a q c xs p big false) (bn : Nat) (hb : w.heap[bn]? = some (.cells #[.int .u64 0] 31 (0, 0))) (hne : bn ≠ a) (hq : (Value.slice q xs.length c).ownBlock ≠ some bn) :
    Calls Try.prog 103 #[.pointer (some ⟨a, 0, none⟩), .func (.func 104) #[] #[.pointer (some ⟨bn, 0, none⟩)]] w fun e w' => UEnd w w' base a q c xs p big bn e := by
  have R0 : URel w w base a q c xs p big bn 0 := ⟨by omega, h.le, fun i hi => by omega, h, ⟨0, hb, fun _ => rfl⟩, KeptBut.refl _ _⟩
  have hple := h.le
  have hbig := h.big
  have B := Lib.hid h.bytes
  have NE := Lib.hid hne
  have HQ := Lib.hid hq
  clear hb hne hq
  go_enter Try.func103, Try.ntmps103
  go_wp2_with fail
  go_step3
  go_wp2_with fail
  refine (err_any h).mono ?_
  rintro e w' ⟨rfl, rfl⟩
  go_wp2_with fail
  refine (at_any h).mono ?_
  rintro e w' ⟨rfl, rfl⟩
  go_wp2_with fail
  go_step3
  go_wp2_with fail
  go_loopw [13] (fun i wr => ∃ k : Nat, i = .int .i64 k ∧ URel w wr base a q c xs p big bn k) (fun i _ => 10 - (intOf i).toNat)
  case atStart => exact ⟨0, rfl, R0⟩
  case round =>
    obtain ⟨k, rfl, hk, hlen, hmore, hcur, ⟨N, hcell, hN⟩, hkept⟩ := hrel
    have hrl : (xs.drop p).length = xs.length - p := by simp
    have M := Lib.hid hmore
    have KP := Lib.hid hkept
    have HN := Lib.hid hN
    have RL := Lib.hid hrl
    have HC := Lib.hid hcell
    clear hmore hkept hN hrl hcell
    by_cases h10 : k = 10
    · subst h10
      go_wp2_with fail
      refine (seek_ok (hcur) p (by omega)).mono ?_
      rintro e w5 ⟨rfl, hc5, hg5⟩
      go_wp2_with fail
      refine (fail_any hc5).mono ?_
      rintro e w6 ⟨rfl, hc6, hg6⟩
      have E := Lib.hid (uend_no (uleb_long M.out) hc6 (((KP.out).trans (.of_grown hg5 (by simp))).trans (.of_grown hg6 (by simp))))
      clear hc5 hg5 hg6
      go_wp2
      (try rw [Exit.noGoto_ret])
      go_ret
      exact E.out
    by_cases hend : p + k = xs.length
    · have hl0 : (xs.length : Int) - ((p + k : Nat) : Int) = 0 := by omega
      have Z := Lib.hid hl0
      clear hl0
      go_wp2_with fail
      refine (left_any hcur).mono ?_
      rintro e w' ⟨rfl, n, rfl⟩
      rw [Z.out]
      go_wp2_with fail
      refine (seek_ok (hcur.drewN n) p (by omega)).mono ?_
      rintro e w5 ⟨rfl, hc5, hg5⟩
      go_wp2_with fail
      refine (fail_any hc5).mono ?_
      rintro e w6 ⟨rfl, hc6, hg6⟩
      have E := Lib.hid (uend_no (uleb_short (by rw [RL.out, show xs.length - p = k by omega]; exact M.out)) hc6 (((KP.out.drewN n).trans (.of_grown hg5 (by simp))).trans (.of_grown hg6 (by simp))))
      clear hc5 hg5 hg6
      go_wp2
      (try rw [Exit.noGoto_ret])
      go_ret
      exact E.out
    · obtain ⟨m, hm⟩ : ∃ m : Nat, (xs.length : Int) - ((p + k : Nat) : Int) = (m : Int) := ⟨xs.length - (p + k), by omega⟩
      have hm0 : 0 < m := by omega
      have Z := Lib.hid hm
      clear hm
      have hkl : p + k < xs.length := by omega
      have hx0 := B.out (xs.getD (p + k) 0) (by simp [List.getD, hkl, List.getElem_mem])
      have hgd : (xs.drop p).getD k 0 = xs.getD (p + k) 0 := by simp [List.getD, List.getElem?_drop]
      have NUM := fun n => number1 (hcur.drewN n) hkl rfl
      generalize hxx : xs.getD (p + k) 0 = x at *
      have GD := Lib.hid hgd
      have NM := Lib.hid NUM
      clear hgd NUM hxx
      go_wp2_with fail
      refine (left_any hcur).mono ?_
      rintro e w' ⟨rfl, n, rfl⟩
      rw [Z.out]
      go_wp2_with fail
      refine (NM.out n).mono ?_
      rintro e w2 ⟨rfl, hc2, hg2⟩
      have hcell2 : w2.heap[bn]? = some (.cells #[.int .u64 N] 31 (0, 0)) := (hg2.block bn (by simpa using lt_of_block HC.out) (fun e => NE.out (by simpa using e))).trans HC.out
      have CL := uclo_any bn N (x % 128) k (by omega) (by omega) (by rw [HN.out (by omega)]; have := valN_bd ((xs.drop p).take k); rwa [List.length_take, RL.out, Nat.min_eq_left (by omega)] at this) hcell2
      have C2 := Lib.hid CL
      clear CL hcell2
      have K2 := Lib.hid ((KP.out.drewN n).trans (.of_grown hg2 (by simp)))
      clear hg2
      by_cases hok : k < 9 ∨ x % 128 ≤ 1
      · have hd : decide (k < 9 ∨ x % 128 ≤ 1) = true := by simpa using hok
        rw [hd] at C2
        clear hd
        by_cases hx : x < 128
        · go_wp2_with fail
          refine C2.out.mono ?_
          rintro e w3 ⟨rfl, ⟨V, hV, hVN⟩, hg3⟩
          have hc3 := hc2.kept hg3 (by simpa using NE.out) (.inr HQ.out)
          have hv := hVN hok
          rw [Int.emod_eq_of_lt hx0.1 hx] at hv hok
          subst hv
          have GD' := GD.out
          have hu : ulebN (xs.drop p) = (N + x * 128 ^ k, k + 1) := by
            have := uleb_last (N := N) (l := xs.drop p) (k := k) (by omega) M.out (by rw [RL.out]; omega) (by rw [GD']; exact hx) (by rw [GD']; exact hx0.1) (by rw [GD']; exact hok) (HN.out (by omega))
            rwa [GD'] at this
          have E := Lib.hid (uend_yes hu hc3 hV (K2.out.trans (.of_grown hg3 (by simp))))
          clear GD' hu hV hVN hg3 hc3
          go_wp2
          (try rw [Exit.noGoto_ret])
          go_ret
          exact E.out
        · have hx2 : 128 ≤ x := by omega
          go_wp2_with fail
          refine C2.out.mono ?_
          rintro e w3 ⟨rfl, ⟨V, hV, hVN⟩, hg3⟩
          have hc3 := hc2.kept hg3 (by simpa using NE.out) (.inr HQ.out)
          have hv := hVN hok
          have R : URel w w3 base a q c xs p big bn (k + 1) := ⟨by omega, by omega, M.out.succ (by rw [GD.out]; exact hx2), hc3, ⟨V, hV, fun h9 => by
            rw [valN_take (by rw [RL.out]; omega), GD.out, hv, HN.out (by omega)]⟩, K2.out.trans (.of_grown hg3 (by simp))⟩
          have RR := Lib.hid R
          clear R hV hVN hg3 hc3 hv
          go_wp2
          go_roundw
          case rel => exact ⟨k + 1, by go_num, RR.out⟩
          case measure => simp [intOf]; omega
      · have hd : decide (k < 9 ∨ x % 128 ≤ 1) = false := by simpa using hok
        rw [hd] at C2
        clear hd
        obtain rfl : k = 9 := by omega
        go_wp2_with fail
        refine C2.out.mono ?_
        rintro e w3 ⟨rfl, ⟨V, hV, hVN⟩, hg3⟩
        have hc3 := hc2.kept hg3 (by simpa using NE.out) (.inr HQ.out)
        have K3 := Lib.hid (K2.out.trans (.of_grown hg3 (by simp)))
        clear hV hVN hg3
        go_wp2_with fail
        refine (seek_ok (hc3) p (by omega)).mono ?_
        rintro e w5 ⟨rfl, hc5, hg5⟩
        go_wp2_with fail
        refine (fail_any hc5).mono ?_
        rintro e w6 ⟨rfl, hc6, hg6⟩
        have E := Lib.hid (uend_no (uleb_room M.out (by rw [RL.out]; omega) (by rw [GD.out]; omega)) hc6 (((K3.out).trans (.of_grown hg5 (by simp))).trans (.of_grown hg6 (by simp))))
        clear hc5 hg5 hg6
        go_wp2
        (try rw [Exit.noGoto_ret])
        go_ret
        exact E.out

/- The same of a signed number. -/
theorem KeptBut.more {w w' : World} {S S' : List Nat} (h : KeptBut w w' S) (hs : ∀ i ∈ S, i ∈ S') : KeptBut w w' S' := ⟨h.os, h.tape, h.output, h.size, fun i hi hr => h.block i hi (fun hm => hr (hs i hm))⟩
structure SRel (w0 w : World) (base a : Nat) (q : Option Addr) (c : Nat) (xs : List Int) (p : Nat) (big : Bool) (bn ba k : Nat) : Prop where
  le : k ≤ 10
  len : p + k ≤ xs.length
  more : More (xs.drop p) k
  cur : Cur w base a q c xs (p + k) big false
  cell : ∃ N' A' : Int, w.heap[bn]? = some (.cells #[.int .i64 N'] 2 (0, 0)) ∧ w.heap[ba]? = some (.cells #[.int .i64 A'] 2 (0, 0)) ∧ (k ≤ 9 → N' = valN ((xs.drop p).take k))
  kept : KeptBut w0 w [a, bn, ba]
def SEnd (w0 w : World) (base a : Nat) (q : Option Addr) (c : Nat) (xs : List Int) (p : Nat) (big : Bool) (bn ba : Nat) (e : Ending) : Prop :=
  e = .returned (.bool (decide (0 < (slebN (xs.drop p)).2))) ∧ Cur w base a q c xs (p + (slebN (xs.drop p)).2) big (decide ((slebN (xs.drop p)).2 = 0)) ∧
    (0 < (slebN (xs.drop p)).2 → ∃ V T : Int, w.heap[bn]? = some (.cells #[.int .i64 V] 2 (0, 0)) ∧ w.heap[ba]? = some (.cells #[.int .i64 T] 2 (0, 0)) ∧ bits .or .i64 V T = (slebN (xs.drop p)).1) ∧ KeptBut w0 w [a, bn, ba]
theorem send_no {w0 w1 : World} {bn ba : Nat} (hn : slebN (xs.drop p) = (0, 0)) (hc : Cur w1 base a q c xs p big true) (hk : KeptBut w0 w1 [a, bn, ba]) : SEnd w0 w1 base a q c xs p big bn ba (.returned (.bool false)) := by
  refine ⟨by rw [hn]; rfl, by rw [hn]; exact hc, fun h => ?_, hk⟩
  rw [hn] at h; exact absurd h (by decide)
theorem send_yes {w0 w1 : World} {bn ba k : Nat} {V T : Int} (hn : slebN (xs.drop p) = (bits .or .i64 V T, k + 1)) (hc : Cur w1 base a q c xs (p + k + 1) big false) (hcell : w1.heap[bn]? = some (.cells #[.int .i64 V] 2 (0, 0)))
    (hcell2 : w1.heap[ba]? = some (.cells #[.int .i64 T] 2 (0, 0))) (hk : KeptBut w0 w1 [a, bn, ba]) : SEnd w0 w1 base a q c xs p big bn ba (.returned (.bool true)) := by
  refine ⟨by rw [hn]; simp, by rw [hn]; exact hc, fun _ => ⟨V, T, hcell, hcell2, by rw [hn]⟩, hk⟩
theorem sleb_no {l : List Int} (h : szN 10 l = 0 ∨ ¬ (-9223372036854775808 ≤ svalN (l.take (szN 10 l)) ∧ svalN (l.take (szN 10 l)) < 9223372036854775808)) : slebN l = (0, 0) := by
  unfold slebN
  rcases h with h | h
  · rw [h]; simp [svalN]
  · rw [if_neg h]
theorem sleb_long {l : List Int} (h : More l 10) : slebN l = (0, 0) := sleb_no (.inl (szN_long 10 l h))
theorem sleb_short {l : List Int} (h : More l l.length) : slebN l = (0, 0) := sleb_no (.inl (szN_short 10 l h))
theorem svalN_take {l : List Int} {k : Nat} (h : k < l.length) : svalN (l.take (k + 1)) = if 64 ≤ l.getD k 0 % 128 then valN (l.take k) + l.getD k 0 % 128 * 128 ^ k - 128 ^ (k + 1) else valN (l.take k) + l.getD k 0 % 128 * 128 ^ k := by
  have hv := valN_take h
  rw [take_snoc h] at hv ⊢
  rw [svalN_snoc, hv]
  simp only [List.length_take, Nat.min_eq_left (Nat.le_of_lt h)]
theorem sleb_room {l : List Int} (h : More l 9) (hl : 9 < l.length) (hx : l.getD 9 0 % 128 ≠ 0 ∧ l.getD 9 0 % 128 ≠ 127) : slebN l = (0, 0) := by
  by_cases h1 : l.getD 9 0 < 128
  · have hs := szN_end 10 9 l (by omega) hl h h1
    refine sleb_no (.inr ?_)
    rw [hs, svalN_take hl]
    have := valN_bd (l.take 9)
    rw [List.length_take, Nat.min_eq_left (Nat.le_of_lt hl)] at this
    have hg : 0 ≤ l.getD 9 0 % 128 ∧ l.getD 9 0 % 128 < 128 := ⟨Int.emod_nonneg _ (by decide), Int.emod_lt_of_pos _ (by decide)⟩
    generalize l.getD 9 0 % 128 = g at *
    have e1 : (128 : Int) ^ 9 = 9223372036854775808 := by decide
    have e2 : (128 : Int) ^ (9 + 1) = 1180591620717411303424 := by decide
    rw [e1, e2] at *
    split <;> omega
  · exact sleb_long (h.succ (by omega))
theorem sleb_last {l : List Int} {k : Nat} {N V T x : Int} (hk : k ≤ 9) (h : More l k) (hl : k < l.length) (hgd : l.getD k 0 = x) (hx : x < 128) (h0 : 0 ≤ x) (hok : k < 9 ∨ x = 0 ∨ x = 127)
    (hN : N = valN (l.take k)) (hVT : SFine N V T x k) : slebN l = (bits .or .i64 V T, k + 1) := by
  have hs := szN_end 10 k l (by omega) hl h (by rw [hgd]; exact hx)
  have hb := valN_bd (l.take k)
  rw [List.length_take, Nat.min_eq_left (Nat.le_of_lt hl), ← hN] at hb
  have hsv := svalN_take hl
  rw [hgd, ← hN, Int.emod_eq_of_lt h0 hx] at hsv
  unfold slebN
  rw [hs, hsv]
  rcases Nat.lt_or_ge k 9 with h9 | h9
  · obtain ⟨rfl, rfl⟩ := hVT.1 h9
    have h1 := p128_8 h9
    have h3 : x * 128 ^ k ≤ 127 * 128 ^ k := Int.mul_le_mul_of_nonneg_right (by omega) (Int.le_of_lt (p128 k))
    have h4 : 0 ≤ x * 128 ^ k := Int.mul_nonneg h0 (Int.le_of_lt (p128 k))
    have hp : (128 : Int) ^ (k + 1) = 2 ^ (7 * (k + 1)) := p128_two (k + 1)
    have hs1 : (128 : Int) ^ (k + 1) = 128 ^ k * 128 := Int.pow_succ ..
    by_cases h64 : 64 ≤ x
    · have h5 : 64 * 128 ^ k ≤ x * 128 ^ k := Int.mul_le_mul_of_nonneg_right h64 (Int.le_of_lt (p128 k))
      rw [if_pos h64, if_pos h64, or_signed (7 * (k + 1)) (by omega) _ _ (by omega) (by rw [← hp]; omega) (by rw [← hp, Int.neg_emod_self]) (by omega) (by omega), if_pos (by omega)]
      rfl
    · rw [if_neg h64, if_neg h64, or_signed (7 * (k + 1)) (by omega) _ _ (by omega) (by rw [← hp]; omega) (by simp) (by omega) (by omega), if_pos (by omega), Int.add_zero]
  · obtain rfl : k = 9 := by omega
    obtain ⟨rfl, hz, hm⟩ := hVT.2 rfl
    have e1 : (128 : Int) ^ 9 = 9223372036854775808 := by decide
    have e2 : (128 : Int) ^ (9 + 1) = 1180591620717411303424 := by decide
    rw [e1] at hb
    rw [e1, e2]
    have oz : ∀ y : Int, -9223372036854775808 ≤ y → y < 9223372036854775808 → bits .or .i64 y 0 = y := fun y h1 h2 => by
      have hc : bits .or .i64 y 0 = bits .or .i64 0 y := by simp only [bits, BitVec.or_comm]
      rw [hc, or_signed 0 (by decide) 0 y (by decide) (by decide) (by simp) h1 h2, Int.zero_add]
    rcases hok with hbad | rfl | rfl
    · omega
    · rw [hz rfl, oz _ (by omega) (by omega), if_neg (show ¬ (64 : Int) ≤ 0 by decide), if_pos (by omega)]
      simp
    · rw [hm rfl, oz _ (by omega) (by omega), if_pos (show (64 : Int) ≤ 127 by decide), if_pos (by omega), show N + 127 * 9223372036854775808 - 1180591620717411303424 = N - 9223372036854775808 by omega]

end Go.Proofs.Ytblfighfahffkaa

/- Layer 2's Uleb and Sleb, one contract each: on a cursor, on one that has failed, on none. No condition but that there is such a cursor in memory. -/
namespace Go.Proofs.Ytblfighfahffkaa
open Go.RowKit
variable {w : World} {base a : Nat} {q : Option Addr} {c : Nat} {xs : List Int} {p : Nat} {big : Bool}

theorem uleb_none {l : List Int} (h : (ulebN l).2 = 0) : (ulebN l).1 = 0 := by
  unfold ulebN at *
  split at h
  · simp only at h; rw [if_pos (by assumption), h]; rfl
  · rw [if_neg (by assumption)]
theorem sleb_none {l : List Int} (h : (slebN l).2 = 0) : (slebN l).1 = 0 := by
  unfold slebN at *
  split at h
  · simp only at h; rw [if_pos (by assumption), h]; rfl
  · rw [if_neg (by assumption)]

/-- Uleb: the document's number; where none stands, 0, and the cursor has failed there. -/
theorem uleb_any (h : Cur w base a q c xs p big false) :
    Calls Try.prog 89 #[.pointer (some ⟨a, 0, none⟩)] w fun e w' =>
      e = .returned (.int .u64 (ulebN (xs.drop p)).1) ∧ Cur w' base a q c xs (p + (ulebN (xs.drop p)).2) big (decide ((ulebN (xs.drop p)).2 = 0)) ∧ w.grownBy w' (some a) := by
  have hlt := h.lt
  have h1 : Cur (w.alloc (.cells #[.int .u64 0] 31)) base a q c xs p big false := h.kept (World.grownBy_alloc w _ none) (by simp) (by cases (Value.slice q xs.length c).ownBlock <;> simp)
  have T := takeu_any h1 w.heap.size (heap_alloc_new w _) (by omega) (fun e => by have := (h.own.lt _ e).2; omega)
  have Z := uleb_none (l := xs.drop p)
  unfold UEnd at T
  generalize ulebN (xs.drop p) = r at *
  obtain ⟨v, n⟩ := r
  simp only at T Z ⊢
  have TT := Lib.hid T
  clear T
  go_enter Try.func89, Try.ntmps89
  go_wp2_with fail
  refine TT.out.mono ?_
  rintro e w2 ⟨he, hc, hcell, hk⟩
  have G := KeptBut.grown (World.grownBy_alloc w (.cells #[.int .u64 0] 31) none) hk (a := a) (by simp)
  by_cases hn : n = 0
  · subst hn
    obtain rfl := Z rfl
    have E := Lib.hid (And.intro hc G)
    subst he
    clear hcell hk hc G
    go_wp2
    go_ret
    exact ⟨rfl, E.out.1, E.out.2⟩
  · have hd : decide (0 < n) = true := by simp; omega
    have c0 : w2.cell? ⟨w.heap.size, 0, none⟩ = some (.int .u64 v) := by rw [cell_of (hcell (by omega))]; rfl
    rw [hd] at he
    subst he
    have E := Lib.hid (And.intro hc G)
    clear hcell hk hc G hd
    go_wp2
    go_ret
    exact ⟨rfl, E.out.1, E.out.2⟩

theorem err_none (w : World) : Calls Try.prog 68 #[.pointer none] w fun e w' => e = .returned (.int .i64 1) ∧ w = w' := by
  go_enter Try.func68, Try.ntmps68
  go_wp2
  go_ret
  exact ⟨rfl, rfl⟩
theorem take_bad (h : Cur w base a q c xs p big true) (f : Value) :
    Calls Try.prog 103 #[.pointer (some ⟨a, 0, none⟩), f] w fun e w' => e = .returned (.bool false) ∧ w = w' := by
  go_enter Try.func103, Try.ntmps103
  go_wp2_with fail
  go_step3
  go_wp2_with fail
  refine (err_any h).mono ?_
  rintro e w' ⟨rfl, rfl⟩
  go_wp2
  (try rw [Exit.noGoto_ret])
  go_ret
  exact ⟨rfl, rfl⟩
theorem take_nil_any (f : Value) (w : World) :
    Calls Try.prog 103 #[.pointer none, f] w fun e w' => e = .returned (.bool false) ∧ w = w' := by
  go_enter Try.func103, Try.ntmps103
  go_wp2_with fail
  go_step3
  go_wp2_with fail
  refine (err_none w).mono ?_
  rintro e w' ⟨rfl, rfl⟩
  go_wp2
  (try rw [Exit.noGoto_ret])
  go_ret
  exact ⟨rfl, rfl⟩

theorem uleb_bad (h : Cur w base a q c xs p big true) :
    Calls Try.prog 89 #[.pointer (some ⟨a, 0, none⟩)] w fun e w' => e = .returned (.int .u64 0) ∧ Cur w' base a q c xs p big true ∧ w.grownBy w' none := by
  have h1 : Cur (w.alloc (.cells #[.int .u64 0] 31)) base a q c xs p big true := h.kept (World.grownBy_alloc w _ none) (by simp) (by cases (Value.slice q xs.length c).ownBlock <;> simp)
  go_enter Try.func89, Try.ntmps89
  go_wp2_with fail
  refine (take_bad h1 _).mono ?_
  rintro e w' ⟨rfl, rfl⟩
  go_wp2
  go_ret
  exact ⟨rfl, h1, World.grownBy_alloc _ _ _⟩
theorem uleb_nil (w : World) :
    Calls Try.prog 89 #[.pointer none] w fun e w' => e = .returned (.int .u64 0) ∧ w.grownBy w' none := by
  go_enter Try.func89, Try.ntmps89
  go_wp2_with fail
  refine (take_nil_any _ _).mono ?_
  rintro e w' ⟨rfl, rfl⟩
  go_wp2
  go_ret
  exact ⟨rfl, World.grownBy_alloc _ _ _⟩

end Go.Proofs.Ytblfighfahffkaa

/- Bytes that are turned into a text. No condition. -/
namespace Go.Proofs.Ytblfighfahffkaa
open Go.RowKit
variable {w : World}

theorem IsBytes.text {q : Option Addr} {c : Nat} {ys : List Int} (h : IsBytes w q c ys) {n : Nat} (hn : ys.length = n) :
    (convert 22 9 (.slice q n c)).run Try.prog w = .ok (.string (strOfNums ys)) w := by
  subst hn
  exact Lib.BytesIn.convert (fun hl => h.2 hl) rfl c _ _ _ Try.underlying22 Try.underlying5 Try.underlying9

end Go.Proofs.Ytblfighfahffkaa

/- A text of layer 1 (cursor): what stands up to the next 0; and the calls that take one. No condition. -/
namespace Go.Proofs.Ytblfighfahffkaa
open Go.RowKit
variable {w : World} {base a : Nat} {q : Option Addr} {c : Nat} {xs : List Int} {p : Nat} {big bad : Bool}

/-- What stands ahead of the first 0. -/
def pre : List Int → List Int
  | [] => []
  | x :: l => if x = 0 then [] else x :: pre l
theorem pre_le (l : List Int) : (pre l).length ≤ l.length := by
  induction l with
  | nil => simp [pre]
  | cons x l ih => simp only [pre]; split <;> simp; omega
theorem pre_take (l : List Int) : pre l = l.take (pre l).length := by
  induction l with
  | nil => simp [pre]
  | cons x l ih =>
    simp only [pre]
    split
    · simp
    · rw [List.length_cons, List.take_succ_cons, ← ih]
/-- How many bytes the next text has; below 0: none stands that may be taken. -/
def textLen (l : List Int) (m : Int) : Int := if (pre l).length < l.length ∧ ((pre l).length : Int) ≤ m then (pre l).length else -1
theorem index_pre (l : List Int) (h : ∀ x ∈ l, 0 ≤ x ∧ x < 256) : Lib.indexByte (Lib.bytesOf l) (0 : Int).toNat.toUInt8 = if (pre l).length < l.length then ((pre l).length : Int) else -1 := by
  induction l with
  | nil => simp [pre, Lib.bytesOf, Lib.indexByte]
  | cons x l ih =>
    have h1 := ih (fun y hy => h y (List.mem_cons_of_mem _ hy))
    have h2 := h x (List.mem_cons_self ..)
    have e : Lib.bytesOf (x :: l) = UInt8.ofNat x.toNat :: Lib.bytesOf l := rfl
    rw [e]
    unfold Lib.indexByte
    rw [h1]
    by_cases hx : x = 0
    · subst hx; simp [pre]
    · have hb : (UInt8.ofNat x.toNat == (0 : Int).toNat.toUInt8) = false := by
        rw [beq_eq_false_iff_ne]
        intro e
        have := congrArg UInt8.toNat e
        simp at this
        omega
      rw [hb]
      simp only [pre, if_neg hx, List.length_cons, Bool.false_eq_true, if_false, Nat.add_lt_add_iff_right]
      by_cases hl : (pre l).length < l.length
      · rw [if_pos hl, if_pos hl]
        rw [if_neg (by simp)]
        omega
      · rw [if_neg hl, if_neg hl]; rfl
theorem textLen_take (l : List Int) : ∀ m : Nat, (if (pre (l.take (m + 1))).length < (l.take (m + 1)).length then ((pre (l.take (m + 1))).length : Int) else -1) = textLen l m := by
  induction l with
  | nil => intro m; simp [pre, textLen]
  | cons x l ih =>
    intro m
    simp only [List.take_succ_cons, textLen, pre]
    by_cases hx : x = 0
    · simp [hx]
    · simp only [if_neg hx, List.length_cons, Nat.add_lt_add_iff_right]
      cases m with
      | zero => simp [pre]; omega
      | succ m =>
        have h := ih m
        simp only [textLen] at h
        by_cases h1 : (pre (l.take (m + 1))).length < (l.take (m + 1)).length
        · rw [if_pos h1] at h ⊢
          by_cases h2 : (pre l).length < l.length ∧ ((pre l).length : Int) ≤ m
          · rw [if_pos h2] at h
            rw [if_pos (by omega)]
            omega
          · rw [if_neg h2] at h; omega
        · rw [if_neg h1] at h ⊢
          by_cases h2 : (pre l).length < l.length ∧ ((pre l).length : Int) ≤ m
          · rw [if_pos h2] at h; omega
          · rw [if_neg (by omega)]
theorem textLen_all (l : List Int) (m : Int) (h : l.length ≤ m) : (if (pre l).length < l.length then ((pre l).length : Int) else -1) = textLen l m := by
  have := pre_le l
  unfold textLen
  by_cases h1 : (pre l).length < l.length
  · rw [if_pos h1, if_pos (by omega)]
  · rw [if_neg h1, if_neg (by omega)]

theorem IsBytes.index {q : Option Addr} {c : Nat} {ys : List Int} (h : IsBytes w q c ys) (hr : ∀ x ∈ ys, 0 ≤ x ∧ x < 256) :
    Calls Try.prog 114 #[.slice q ys.length c, .int .u8 0] w fun e w' => e = .returned (.int .i64 (if (pre ys).length < ys.length then ((pre ys).length : Int) else -1)) ∧ w = w' := by
  rw [← index_pre ys hr]
  rcases h.ways with ⟨rfl, rfl, rfl⟩ | ⟨x, rfl, hc⟩
  · exact (Try.bytes_IndexByte_nil 0 w).mono fun e w' ⟨h1, h2⟩ => ⟨h1, h2.symm⟩
  · exact (Try.bytes_IndexByte_at x ys.length c ys 0 w rfl hc).mono fun e w' ⟨h1, h2⟩ => ⟨h1, h2.symm⟩

theorem textSize_any (h : Cur w base a q c xs p big bad) (m : Int) :
    Calls Try.prog 107 #[.pointer (some ⟨a, 0, none⟩), .int .i64 m] w fun e w' =>
      e = .returned (.int .i64 (textLen (xs.drop p) m)) ∧ ∃ n, w.drewN n = w' := by
  have hle := h.le
  have hbig := h.big
  have hlen : (xs.drop p).length = xs.length - p := by simp
  have hr : ∀ x ∈ xs.drop p, 0 ≤ x ∧ x < 256 := fun x hx => h.bytes x (List.mem_of_mem_drop hx)
  by_cases hneg : m < 0
  · have e : textLen (xs.drop p) m = -1 := by unfold textLen; rw [if_neg (by omega)]
    rw [e]
    clear e hr hlen
    go_enter Try.func107, Try.ntmps107
    go_wp2
    go_ret
    exact ⟨rfl, 0, rfl⟩
  · have hrest := rest_any h
    rw [← hlen] at hrest
    by_cases hlt : m < (xs.drop p).length
    · obtain ⟨k, rfl⟩ := Int.eq_ofNat_of_zero_le (Int.not_lt.1 hneg)
      have hlt' : k < xs.length - p := by omega
      have hk := textLen_take (xs.drop p) k
      have hl2 : ((xs.drop p).take (k + 1)).length = k + 1 := by simp; omega
      have hr2 : ∀ x ∈ (xs.drop p).take (k + 1), 0 ≤ x ∧ x < 256 := fun x hx => hr x (List.mem_of_mem_take hx)
      rw [hl2] at hk
      have K := Lib.hid hk
      have R := Lib.hid hr2
      have L := Lib.hid hl2
      have LL := Lib.hid hlen
      rw [hlen] at hlt
      clear hk hr2 hl2 hr
      go_enter Try.func107, Try.ntmps107
      go_wp2_with fail
      refine hrest.mono ?_
      rintro e w' ⟨⟨q', rfl, hb⟩, n, rfl⟩
      have hcap : k + 1 ≤ c - p := by
        rcases h.form with ⟨_, h2, _⟩ | ⟨_, _, h3, _⟩
        · subst h2; simp at hlt'
        · omega
      have hb2 := hb.take (k + 1) (c' := c - p) (fun hq => by
        rcases hb.ways with ⟨_, h2, _⟩ | ⟨_, h3, _⟩
        · rw [h2] at hlen; simp at hlen; omega
        · rw [h3] at hq; cases hq)
      have I := (hb2.drewN n).index R.out
      rw [L.out] at I
      have IH := Lib.hid I
      clear I hb2
      rw [hlen]
      clear hlen
      go_wp2_with fail
      refine IH.out.mono ?_
      rintro e w' ⟨rfl, rfl⟩
      rw [K.out]
      clear hrest
      go_wp2
      go_ret
      exact ⟨rfl, n, rfl⟩
    · have hall := textLen_all (xs.drop p) m (by omega)
      rw [hlen] at hall
      have K := Lib.hid hall
      have R := Lib.hid hr
      clear hall hr
      go_enter Try.func107, Try.ntmps107
      go_wp2_with fail
      refine hrest.mono ?_
      rintro e w' ⟨⟨q', rfl, hb⟩, n, rfl⟩
      have I := (hb.drewN n).index R.out
      rw [hlen] at I hlt
      rw [hlen]
      have IH := Lib.hid I
      clear I hlen
      go_wp2_with fail
      refine IH.out.mono ?_
      rintro e w' ⟨rfl, rfl⟩
      rw [K.out]
      clear hrest
      go_wp2
      go_ret
      exact ⟨rfl, n, rfl⟩

/-- No text that may be taken: nothing, and the cursor has failed. -/
theorem text_no (h : Cur w base a q c xs p big bad) (m : Int) (hn : bad = true ∨ textLen (xs.drop p) m = -1) :
    Calls Try.prog 92 #[.pointer (some ⟨a, 0, none⟩), .int .i64 m] w fun e w' =>
      e = .returned (.string ByteArray.empty) ∧ Cur w' base a q c xs p big true ∧ w.grownBy w' (some a) := by
  have hb : bad = true ∨ textLen (xs.drop p) m < 0 ∨ (xs.length : Int) - p < textLen (xs.drop p) m := by
    rcases hn with h1 | h1
    · exact .inl h1
    · exact .inr (.inl (by omega))
  have B := Lib.hid hb
  have T := Lib.hid (textSize_any h m)
  generalize textLen (xs.drop p) m = t at *
  clear hn hb
  go_enter Try.func92, Try.ntmps92
  go_wp2_with fail
  refine T.out.mono ?_
  rintro e w1 ⟨rfl, n, rfl⟩
  go_wp2_with fail
  refine (take_no (h.drewN n) t B.out).mono ?_
  rintro e w2 ⟨rfl, hc2, hg2⟩
  have cv := run_convert_bytes_nil (P := Try.prog) w2 _ _ Try.underlying22 Try.underlying5 0 0 _ Try.underlying9
  go_wp2_with fail
  refine (take_no hc2 1 (.inl rfl)).mono ?_
  rintro e w3 ⟨rfl, hc3, hg3⟩
  have hg := grown_trans (grown_trans (grown_drewN (grown_refl w (some a)) n) hg2) hg3
  clear cv
  go_wp2
  go_ret
  exact ⟨rfl, hc3, hg⟩

/-- A text that may be taken, and the 0 behind it. -/
theorem text_ok (h : Cur w base a q c xs p big false) (m : Int) (hn : (pre (xs.drop p)).length < (xs.drop p).length ∧ ((pre (xs.drop p)).length : Int) ≤ m) :
    Calls Try.prog 92 #[.pointer (some ⟨a, 0, none⟩), .int .i64 m] w fun e w' =>
      e = .returned (.string (strOfNums (pre (xs.drop p)))) ∧ Cur w' base a q c xs (p + (pre (xs.drop p)).length + 1) big false ∧ w.grownBy w' (some a) := by
  have ht : textLen (xs.drop p) m = (pre (xs.drop p)).length := by unfold textLen; rw [if_pos hn]
  have hs := textSize_any h m
  rw [ht] at hs
  have hl : (xs.drop p).length = xs.length - p := by simp
  have hle := h.le
  have h1 : p + (pre (xs.drop p)).length ≤ xs.length := by omega
  have h2 : p + (pre (xs.drop p)).length + 1 ≤ xs.length := by omega
  have hpt := pre_take (xs.drop p)
  have htk := fun n => take_ok (h.drewN n) _ h1
  rw [← hpt] at htk
  generalize pre (xs.drop p) = t at *
  have T := Lib.hid hs
  have K := Lib.hid htk
  clear ht hs hl hpt htk hn
  go_enter Try.func92, Try.ntmps92
  go_wp2_with fail
  refine T.out.mono ?_
  rintro e w1 ⟨rfl, n, rfl⟩
  go_wp2_with fail
  refine (K.out n).mono ?_
  rintro e w2 ⟨⟨q', rfl, hb, _⟩, hc2, hg2⟩
  have cv := hb.text rfl
  go_wp2_with fail
  refine (take_ok hc2 1 h2).mono ?_
  rintro e w3 ⟨⟨q3, rfl, _, _⟩, hc3, hg3⟩
  have hg := grown_trans (grown_trans (grown_drewN (grown_refl w (some a)) n) hg2) hg3
  clear cv
  go_wp2
  go_ret
  exact ⟨rfl, hc3, hg⟩
end Go.Proofs.Ytblfighfahffkaa

/- Tries, as the document says them: nodes at places of plain lists of bytes, and walks over them; no program. No condition. -/
namespace Go.Proofs.Ytblfighfahffkaa
open Go.RowKit

/-- What takes a value off the front of bytes, with how many bytes; or nothing stands there. -/
abbrev Ps (α : Type) := List Int → Option (α × Nat)
/-- It hangs on the bytes that it takes alone. -/
def Loc {α : Type} (f : Ps α) : Prop := ∀ l v n, f l = some (v, n) → n ≤ l.length ∧ ∀ l' : List Int, n ≤ l'.length → l'.take n = l.take n → f l' = some (v, n)
def psR {α : Type} (v : α) : Ps α := fun _ => some (v, 0)
def psF {α : Type} : Ps α := fun _ => none
def psB {α β : Type} (f : Ps α) (g : α → Ps β) : Ps β := fun l =>
  match f l with
  | none => none
  | some (v, n) => match g v (l.drop n) with
    | none => none
    | some (u, m) => some (u, n + m)
/-- .. of just so many bytes. -/
def psZ {α : Type} (f : Ps α) (k : Int) : Ps α := fun l =>
  match f l with
  | none => none
  | some (v, n) => if (n : Int) = k then some (v, n) else none
def ulP : Ps Int := fun l => if (ulebN l).2 = 0 then none else some (ulebN l)
def txP : Ps (List Int) := fun l => if (pre l).length < l.length ∧ (pre l).length ≤ 255 then some (pre l, (pre l).length + 1) else none
def byP : Ps Int := fun l => match l with
  | [] => none
  | x :: _ => some (x, 1)

section
variable {α β : Type}
theorem loc_R (v : α) : Loc (psR v) := fun l u n h => by
  injection h with h; injection h with h1 h2; subst h1 h2; exact ⟨Nat.zero_le _, fun _ _ _ => rfl⟩
theorem loc_F : Loc (psF : Ps α) := fun l u n h => by cases h
theorem loc_B {f : Ps α} {g : α → Ps β} (hf : Loc f) (hg : ∀ v, Loc (g v)) : Loc (psB f g) := by
  intro l u k h
  unfold psB at h
  cases h1 : f l with
  | none => rw [h1] at h; cases h
  | some a =>
    obtain ⟨v, n⟩ := a
    rw [h1] at h
    simp only [] at h
    cases h2 : g v (l.drop n) with
    | none => rw [h2] at h; cases h
    | some b =>
      obtain ⟨u', m⟩ := b
      rw [h2] at h
      simp only [Option.some.injEq, Prod.mk.injEq] at h
      obtain ⟨rfl, rfl⟩ := h
      obtain ⟨a1, a2⟩ := hf l v n h1
      obtain ⟨b1, b2⟩ := hg v (l.drop n) u' m h2
      rw [List.length_drop] at b1
      refine ⟨by omega, fun l' hl ht => ?_⟩
      have t1 : l'.take n = l.take n := by
        have := congrArg (List.take n) ht
        rwa [List.take_take, List.take_take, Nat.min_eq_left (Nat.le_add_right _ _)] at this
      have t2 : (l'.drop n).take m = (l.drop n).take m := by
        have := congrArg (List.drop n) ht
        rwa [List.drop_take, List.drop_take, Nat.add_sub_cancel_left] at this
      unfold psB
      rw [a2 l' (by omega) t1]
      simp only []
      rw [b2 (l'.drop n) (by rw [List.length_drop]; omega) t2]
theorem loc_Z {f : Ps α} (hf : Loc f) (k : Int) : Loc (psZ f k) := by
  intro l u n h
  unfold psZ at h
  cases h1 : f l with
  | none => rw [h1] at h; cases h
  | some a =>
    obtain ⟨v, m⟩ := a
    rw [h1] at h
    simp only [] at h
    split at h
    · rename_i hm
      simp only [Option.some.injEq, Prod.mk.injEq] at h
      obtain ⟨rfl, rfl⟩ := h
      obtain ⟨a1, a2⟩ := hf l v m h1
      refine ⟨a1, fun l' hl ht => ?_⟩
      unfold psZ
      rw [a2 l' hl ht]
      simp only []
      rw [if_pos hm]
    · cases h
theorem loc_by : Loc byP := by
  intro l v n h
  cases l with
  | nil => cases h
  | cons x l =>
    injection h with h; injection h with h1 h2; subst h1 h2
    refine ⟨by simp, fun l' hl ht => ?_⟩
    cases l' with
    | nil => simp at hl
    | cons y l' => simp at ht; subst ht; rfl
theorem szN_take (k : Nat) : ∀ (l l' : List Int) (n : Nat), szN k l = n → 0 < n → l'.take n = l.take n → szN k l' = n := by
  induction k with
  | zero => intro l l' n h h0; simp [szN] at h; omega
  | succ k ih =>
    intro l l' n h h0 ht
    cases l with
    | nil => simp [szN] at h; omega
    | cons b l =>
      obtain ⟨n, rfl⟩ : ∃ m, n = m + 1 := ⟨n - 1, by omega⟩
      cases l' with
      | nil => simp at ht
      | cons b' l' =>
        simp only [List.take_succ_cons, List.cons.injEq] at ht
        obtain ⟨rfl, ht⟩ := ht
        simp only [szN] at h ⊢
        by_cases hb : b' < 128
        · rw [if_pos hb] at h ⊢; exact h
        · rw [if_neg hb] at h ⊢
          by_cases hz : szN k l = 0
          · rw [if_pos hz] at h; omega
          · rw [if_neg hz] at h
            have := ih l l' n (by omega) (by omega) ht
            rw [if_neg (by omega), this]
theorem uleb_size {l : List Int} (h : (ulebN l).2 ≠ 0) : szN 10 l = (ulebN l).2 ∧ (ulebN l).1 = valN (l.take (szN 10 l)) ∧ valN (l.take (szN 10 l)) < 18446744073709551616 := by
  unfold ulebN at *
  split at h
  · rename_i h1; rw [if_pos h1]; exact ⟨rfl, rfl, h1⟩
  · simp at h
theorem loc_ul : Loc ulP := by
  intro l v n h
  unfold ulP at h
  split at h
  · cases h
  · rename_i h0
    injection h with h
    obtain ⟨h1, h2, h3⟩ := uleb_size h0
    rw [h] at h1 h0 h2
    simp only [] at h1 h0 h2
    refine ⟨by have := (szN_le 10 l).2; omega, fun l' hl ht => ?_⟩
    have hs := szN_take 10 l l' n h1 (by omega) ht
    unfold ulP
    have e : ulebN l' = (v, n) := by
      refine uleb_yes hs ?_ ?_
      · rw [ht, ← h1]; exact h2.symm
      · rw [h2]; exact h3
    rw [e]
    simp [h0]
theorem pre_take_eq : ∀ (l l' : List Int), (pre l).length < l.length → (pre l).length < l'.length → l'.take ((pre l).length + 1) = l.take ((pre l).length + 1) → pre l' = pre l := by
  intro l
  induction l with
  | nil => intro l' h; simp at h
  | cons x l ih =>
    intro l' h h' ht
    cases l' with
    | nil => simp at h'
    | cons y l' =>
      simp only [List.take_succ_cons, List.cons.injEq] at ht
      obtain ⟨rfl, ht⟩ := ht
      simp only [pre] at h h' ht ⊢
      by_cases hy : y = 0
      · rw [if_pos hy, if_pos hy]
      · rw [if_neg hy] at h h' ht ⊢
        rw [if_neg hy]
        simp only [List.length_cons, Nat.add_lt_add_iff_right] at h h' ht
        rw [ih l' h h' ht]
theorem loc_tx : Loc txP := by
  intro l v n h
  unfold txP at h
  split at h
  · rename_i h0
    injection h with h; injection h with h1 h2; subst h1 h2
    refine ⟨by omega, fun l' hl ht => ?_⟩
    have := pre_take_eq l l' h0.1 (by omega) ht
    unfold txP
    rw [this, if_pos ⟨by omega, h0.2⟩]
  · cases h
/-- Of a front of the bytes: nothing else, if it is long enough; else nothing. -/
theorem loc_front {f : Ps α} (hf : Loc f) {l : List Int} {k : Nat} {v : α} {n : Nat} (h : f (l.take k) = some (v, n)) : f l = some (v, n) ∧ n ≤ k ∧ n ≤ l.length := by
  obtain ⟨h1, h2⟩ := hf _ _ _ h
  rw [List.length_take] at h1
  refine ⟨h2 l (by omega) ?_, by omega, by omega⟩
  rw [List.take_take, Nat.min_eq_left (by omega)]
theorem loc_back {f : Ps α} (hf : Loc f) {l : List Int} {k : Nat} {v : α} {n : Nat} (h : f l = some (v, n)) (hk : n ≤ k) : f (l.take k) = some (v, n) := by
  obtain ⟨h1, h2⟩ := hf _ _ _ h
  refine h2 _ (by rw [List.length_take]; omega) ?_
  rw [List.take_take, Nat.min_eq_left hk]
end

/-! The same, step by step over a cursor that stands at a place, and has failed or not. -/
abbrev Cs := Nat × Bool
/-- What was done to the cursor is what f takes. -/
structure Sim {α : Type} (f : Ps α) (xs : List Int) (s : Cs) (v : α) (s' : Cs) : Prop where
  le : s.1 ≤ s'.1
  ok : s'.2 = false → s.2 = false ∧ f (xs.drop s.1) = some (v, s'.1 - s.1)
  no : s.2 = false → s'.2 = true → f (xs.drop s.1) = none
section
variable {α β : Type} {xs : List Int} {s s1 s2 : Cs} {v : α} {u : β}
theorem Sim.R (v : α) (s : Cs) : Sim (psR v) xs s v s := ⟨Nat.le_refl _, fun h => ⟨h, (by unfold psR; rw [Nat.sub_self])⟩, fun h h' => (by rw [h] at h'; cases h')⟩
theorem Sim.F (v : α) (h1 : s.1 ≤ s1.1) (h2 : s1.2 = true) : Sim psF xs s v s1 := ⟨h1, fun h => (by rw [h] at h2; cases h2), fun _ _ => rfl⟩
theorem Sim.B {f : Ps α} {g : α → Ps β} (h : Sim f xs s v s1) (k : Sim (g v) xs s1 u s2) : Sim (psB f g) xs s u s2 := by
  have h0 := h.le
  have k0 := k.le
  refine ⟨by omega, fun e => ?_, fun e e' => ?_⟩
  · obtain ⟨k1, k2⟩ := k.ok e
    obtain ⟨h1, h2⟩ := h.ok k1
    refine ⟨h1, ?_⟩
    unfold psB
    rw [h2]
    simp only []
    rw [List.drop_drop, show s.1 + (s1.1 - s.1) = s1.1 by omega, k2]
    simp only [Option.some.injEq, Prod.mk.injEq, true_and]
    omega
  · unfold psB
    cases hb : s1.2 with
    | true => rw [h.no e hb]
    | false =>
      rw [(h.ok hb).2]
      simp only []
      rw [List.drop_drop, show s.1 + (s1.1 - s.1) = s1.1 by omega, k.no hb e']
/-- The cursor has failed in the end, whatever was taken. -/
theorem Sim.bad {f : Ps α} (h1 : s.1 ≤ s1.1) (h2 : s1.2 = true) (h3 : s.2 = false → f (xs.drop s.1) = none) : Sim f xs s v s1 := ⟨h1, fun h => (by rw [h] at h2; cases h2), fun h _ => h3 h⟩
theorem Sim.Z {f : Ps α} {k : Int} (h : Sim f xs s v s1) : Sim (psZ f k) xs s v (s1.1, s1.2 || !decide (((s1.1 - s.1 : Nat) : Int) = k)) := by
  refine ⟨h.le, fun e => ?_, fun e e' => ?_⟩
  · simp only [Bool.or_eq_false_iff, Bool.not_eq_false', decide_eq_true_eq] at e
    obtain ⟨h1, h2⟩ := h.ok e.1
    refine ⟨h1, ?_⟩
    unfold psZ
    rw [h2]
    simp only []
    rw [if_pos e.2]
  · unfold psZ
    cases hb : s1.2 with
    | true => rw [h.no e hb]
    | false =>
      rw [(h.ok hb).2]
      simp only [hb, Bool.false_or, Bool.not_eq_true', decide_eq_false_iff_not] at e' ⊢
      rw [if_neg e']
end
/-- A number, at the cursor's place. -/
def ulS (xs : List Int) (s : Cs) : Int × Cs := if s.2 then (0, s) else ((ulebN (xs.drop s.1)).1, (s.1 + (ulebN (xs.drop s.1)).2, decide ((ulebN (xs.drop s.1)).2 = 0)))
def txS (xs : List Int) (s : Cs) : List Int × Cs :=
  if s.2 = false ∧ (pre (xs.drop s.1)).length < (xs.drop s.1).length ∧ (pre (xs.drop s.1)).length ≤ 255 then (pre (xs.drop s.1), (s.1 + (pre (xs.drop s.1)).length + 1, false)) else ([], (s.1, true))
def byS (xs : List Int) (s : Cs) : Int × Cs := if s.2 = false ∧ s.1 < xs.length then (xs.getD s.1 0, (s.1 + 1, false)) else (0, (s.1, true))
theorem sim_ul (xs : List Int) (s : Cs) : Sim ulP xs s (ulS xs s).1 (ulS xs s).2 := by
  unfold ulS
  cases hb : s.2 with
  | true => exact Sim.bad (Nat.le_refl _) hb (fun h => by rw [h] at hb; cases hb)
  | false =>
    refine ⟨Nat.le_add_right _ _, fun e => ⟨hb, ?_⟩, fun _ e => ?_⟩
    · simp only [Bool.false_eq_true, if_false, decide_eq_false_iff_not] at e ⊢
      unfold ulP
      rw [if_neg e, Nat.add_sub_cancel_left]
    · simp only [Bool.false_eq_true, if_false, decide_eq_true_eq] at e
      unfold ulP
      rw [if_pos e]
theorem sim_tx (xs : List Int) (s : Cs) : Sim txP xs s (txS xs s).1 (txS xs s).2 := by
  unfold txS
  split
  · rename_i h
    refine ⟨by simp only []; omega, fun _ => ⟨h.1, ?_⟩, fun _ e => by cases e⟩
    unfold txP
    rw [if_pos h.2]
    simp only [Option.some.injEq, Prod.mk.injEq, true_and]
    omega
  · rename_i h
    refine Sim.bad (Nat.le_refl _) rfl (fun e => ?_)
    unfold txP
    rw [if_neg (fun h2 => h ⟨e, h2⟩)]
theorem sim_by (xs : List Int) (s : Cs) : Sim byP xs s (byS xs s).1 (byS xs s).2 := by
  unfold byS
  split
  · rename_i h
    refine ⟨Nat.le_succ _, fun _ => ⟨h.1, ?_⟩, fun _ e => by cases e⟩
    rw [List.drop_eq_getElem_cons h.2]
    simp only [byP, Option.some.injEq, Prod.mk.injEq]
    exact ⟨by simp [h.2], by omega⟩
  · rename_i h
    refine Sim.bad (Nat.le_refl _) rfl (fun e => ?_)
    rw [List.drop_eq_nil_of_le (by simp [e] at h; omega)]
    rfl
theorem ulS_bd {xs : List Int} {s : Cs} : 0 ≤ (ulS xs s).1 ∧ (ulS xs s).1 < 18446744073709551616 := by
  unfold ulS
  split
  · simp
  · simp only []
    by_cases h : (ulebN (xs.drop s.1)).2 = 0
    · rw [uleb_none h]; simp
    · obtain ⟨_, h2, h3⟩ := uleb_size h
      have := valN_bd ((xs.drop s.1).take (szN 10 (xs.drop s.1)))
      omega
theorem byS_bd {xs : List Int} {s : Cs} (h : ∀ x ∈ xs, 0 ≤ x ∧ x < 256) : 0 ≤ (byS xs s).1 ∧ (byS xs s).1 < 256 := by
  unfold byS
  split
  · rename_i h1
    have e : xs.getD s.1 0 = xs[s.1]'h1.2 := by simp [h1.2]
    simp only [e]
    exact h _ (List.getElem_mem h1.2)
  · simp
theorem ulS_le {xs : List Int} {s : Cs} (h : s.1 ≤ xs.length) : (ulS xs s).2.1 ≤ xs.length := by
  unfold ulS
  split
  · exact h
  · simp only []
    by_cases h0 : (ulebN (xs.drop s.1)).2 = 0
    · omega
    · obtain ⟨h1, _⟩ := uleb_size h0
      have := (szN_le 10 (xs.drop s.1)).2
      rw [List.length_drop] at this
      omega

/-! Nodes. -/
/-- What is said of a name. -/
structure Ex where
  kind : Int
  weak : Bool
  value : Int
  resolver : Int
  ordinal : Int
  other : List Int
deriving DecidableEq
def Ex.zero : Ex := ⟨0, false, 0, 0, 0, []⟩
abbrev Kid := List Int × Int
structure Nd where
  ex : Option Ex
  kids : List Kid
/-- Of flags: is it weak; and those beside that. -/
def wkN (f : Int) : Bool := decide (f / 4 % 2 = 1)
def knN (f : Int) : Int := if f / 4 % 2 = 1 then f - 4 else f
def sayK (f : Int) : Ps Ex :=
  if knN f = 0 then psB ulP fun v => psR ⟨1, wkN f, v, 0, 0, []⟩
  else if knN f = 2 then psB ulP fun v => psR ⟨2, wkN f, v, 0, 0, []⟩
  else if knN f = 8 then psB ulP fun o => psB txP fun t => psR ⟨3, wkN f, 0, 0, o, t⟩
  else if knN f = 16 then psB ulP fun v => psB ulP fun r => psR ⟨4, wkN f, v, r, 0, []⟩
  else psF
def sayP : Ps Ex := psB ulP sayK
/-- Does an edge begin as one of some does? -/
def meets (e : List Int) (l : List Kid) : Bool := l.any fun k => k.1.getD 0 0 == e.getD 0 0
def kidsP : Nat → List Kid → Ps (List Kid)
  | 0, acc => psR acc
  | k + 1, acc => psB txP fun e => psB ulP fun pl => if e = [] ∨ meets e acc = true then psF else kidsP k (acc ++ [(e, pl)])
def exP (n : Int) : Ps (Option Ex) := if n = 0 then psR none else psB (psZ sayP n) fun x => psR (some x)
def nodeP : Ps Nd := psB ulP fun n => psB (exP n) fun x => psB byP fun m => psB (kidsP m.toNat []) fun k => psR ⟨x, k⟩
theorem loc_sayK (f : Int) : Loc (sayK f) := by
  unfold sayK
  split
  · exact loc_B loc_ul fun _ => loc_R _
  split
  · exact loc_B loc_ul fun _ => loc_R _
  split
  · exact loc_B loc_ul fun _ => loc_B loc_tx fun _ => loc_R _
  split
  · exact loc_B loc_ul fun _ => loc_B loc_ul fun _ => loc_R _
  · exact loc_F
theorem loc_say : Loc sayP := loc_B loc_ul loc_sayK
theorem loc_kids (k : Nat) : ∀ acc, Loc (kidsP k acc) := by
  induction k with
  | zero => exact fun acc => loc_R _
  | succ k ih =>
    refine fun acc => loc_B loc_tx fun e => loc_B loc_ul fun pl => ?_
    split
    · exact loc_F
    · exact ih _
theorem loc_ex (n : Int) : Loc (exP n) := by
  unfold exP
  split
  · exact loc_R _
  · exact loc_B (loc_Z loc_say n) fun _ => loc_R _
theorem loc_node : Loc nodeP := loc_B loc_ul fun n => loc_B (loc_ex n) fun _ => loc_B loc_by fun _ => loc_B (loc_kids _ _) fun _ => loc_R _
/-- The node at a place. -/
def ndAt (xs : List Int) (p : Int) : Option Nd := if 0 ≤ p ∧ p < xs.length then (nodeP (xs.drop p.toNat)).map Prod.fst else none
end Go.Proofs.Ytblfighfahffkaa

/- A cursor in blocks of its own, and the calls on it of layers 1 and 2, step by step: whether it has failed or not. No condition. -/
namespace Go.Proofs.Ytblfighfahffkaa
open Go.RowKit
variable {w w' : World} {lo hi a : Nat} {xs : List Int} {s : Cs} {big : Bool}

/-- The cursor, in that state. -/
abbrev PenS (w : World) (lo hi a : Nat) (xs : List Int) (s : Cs) (big : Bool) : Prop := Pen w lo hi a xs s.1 big s.2
theorem pen_ul (h : PenS w lo hi a xs s big) :
    Calls Try.prog 89 #[.pointer (some ⟨a, 0, none⟩)] w fun e w' => e = .returned (.int .u64 (ulS xs s).1) ∧ PenS w' lo hi a xs (ulS xs s).2 big ∧ w.grownBy w' (some a) := by
  obtain ⟨p, bad⟩ := s
  have h' := h
  obtain ⟨⟨base, q, c, hc, hl, ho⟩, h1, h2, h3⟩ := h
  unfold ulS
  simp only [] at hc ⊢
  cases bad with
  | true =>
    refine (uleb_bad hc).mono ?_
    rintro e w' ⟨rfl, hc', hg⟩
    exact ⟨rfl, Pen.same h' hg, grown_any hg _⟩
  | false =>
    refine (uleb_any hc).mono ?_
    rintro e w' ⟨rfl, hc', hg⟩
    exact ⟨rfl, ⟨⟨_, _, _, hc', hl, ho⟩, h1, h2, Nat.le_trans h3 hg.size⟩, hg⟩
theorem pen_tx (h : PenS w lo hi a xs s big) :
    Calls Try.prog 92 #[.pointer (some ⟨a, 0, none⟩), .int .i64 255] w fun e w' => e = .returned (.string (strOfNums (txS xs s).1)) ∧ PenS w' lo hi a xs (txS xs s).2 big ∧ w.grownBy w' (some a) := by
  obtain ⟨p, bad⟩ := s
  obtain ⟨⟨base, q, c, hc, hl, ho⟩, h1, h2, h3⟩ := h
  unfold txS
  simp only [] at hc ⊢
  by_cases hx : bad = false ∧ (pre (xs.drop p)).length < (xs.drop p).length ∧ (pre (xs.drop p)).length ≤ 255
  · rw [if_pos hx]
    obtain ⟨rfl, hx⟩ := hx
    refine (text_ok hc 255 ⟨hx.1, by omega⟩).mono ?_
    rintro e w' ⟨rfl, hc', hg⟩
    exact ⟨rfl, ⟨⟨_, _, _, hc', hl, ho⟩, h1, h2, Nat.le_trans h3 hg.size⟩, hg⟩
  · rw [if_neg hx]
    refine (text_no hc 255 ?_).mono ?_
    · cases bad with
      | true => exact .inl rfl
      | false => exact .inr (by unfold textLen; rw [if_neg (fun h => hx ⟨rfl, h.1, by omega⟩)])
    · rintro e w' ⟨rfl, hc', hg⟩
      exact ⟨rfl, ⟨⟨_, _, _, hc', hl, ho⟩, h1, h2, Nat.le_trans h3 hg.size⟩, hg⟩
theorem pen_by (h : PenS w lo hi a xs s big) :
    Calls Try.prog 91 #[.pointer (some ⟨a, 0, none⟩), .int .i64 1] w fun e w' => e = .returned (.int .u64 (byS xs s).1) ∧ PenS w' lo hi a xs (byS xs s).2 big ∧ w.grownBy w' (some a) := by
  obtain ⟨p, bad⟩ := s
  have h' := h
  obtain ⟨⟨base, q, c, hc, hl, ho⟩, h1, h2, h3⟩ := h
  unfold byS
  simp only [] at hc h' ⊢
  by_cases hx : bad = false ∧ p < xs.length
  · rw [if_pos hx]
    obtain ⟨rfl, hx⟩ := hx
    refine (number1 hc hx rfl).mono ?_
    rintro e w' ⟨rfl, hc', hg⟩
    exact ⟨rfl, ⟨⟨_, _, _, hc', hl, ho⟩, h1, h2, Nat.le_trans h3 hg.size⟩, hg⟩
  · rw [if_neg hx]
    refine (number_no hc 1 ?_).mono ?_
    · cases bad with
      | true => exact .inl rfl
      | false => exact .inr (.inr (by have h1 : ¬ p < xs.length := fun h => hx ⟨rfl, h⟩; omega))
    · rintro e w' ⟨rfl, hc', hg⟩
      exact ⟨rfl, ⟨⟨_, _, _, hc', hl, ho⟩, h1, h2, Nat.le_trans h3 hg.size⟩, hg⟩
theorem pen_fl (h : PenS w lo hi a xs s big) :
    Calls Try.prog 94 #[.pointer (some ⟨a, 0, none⟩)] w fun e w' => e = .returned (.tuple #[]) ∧ PenS w' lo hi a xs (s.1, true) big ∧ w.grownBy w' (some a) := by
  obtain ⟨⟨base, q, c, hc, hl, ho⟩, h1, h2, h3⟩ := h
  refine (fail_any hc).mono ?_
  rintro e w' ⟨rfl, hc', hg⟩
  exact ⟨rfl, ⟨⟨_, _, _, hc', hl, ho⟩, h1, h2, Nat.le_trans h3 hg.size⟩, hg⟩
end Go.Proofs.Ytblfighfahffkaa

/- Bytes appended to bytes of the call's own, wherever the former lie, nil too: one law for the walk. -/
namespace Go.Proofs.Ytblfighfahffkaa
open Go.RowKit
variable {w : World} {base : Nat} {q : Option Addr} {c : Nat}

theorem info_u8 : (Try.prog.info? 5).map (fun i => (i.zero, i.size, i.bytes)) = some (some (.int .u8 0), 1, 1) := by kernel_rfl

theorem run_append_none (v : Value) (n : Nat) (xs : List Value) (h : w.ownsRow base 5 1 v n xs) :
    (Builtin.append_ #[22, 22] 22 #[v, .slice none 0 0]).run Try.prog w = .ok v w := by
  obtain ⟨i, hi, hz, hs, hb⟩ := info_parts info_u8
  rcases h.2 with ⟨rfl, _⟩ | ⟨g, cap, cur, rfl, _, hg, hn, hm, hc, _⟩
  · simp [Builtin.append_, run_underlying Try.underlying22, sizeOf, typeInfo, hi, Builtin.lenOf, Builtin.firstCells, Result.andThen]
  · simp [Builtin.append_, run_underlying Try.underlying22, sizeOf, typeInfo, hi, Builtin.lenOf, hn, Builtin.firstCells, storeCells, Result.andThen]

theorem wp_append_bytes {ops : Array Oper} {rest : List Oper} {o : Oper} {a : Act} {Q : Exit → Act → World → Prop} (hgd : o.guard = none) (s x : Operand)
    (ho : o.op = .call { callee := .builtin .append, args := #[s, x], argTypes := #[22, 22] }) (hty : o.type = 22)
    (v : Value) (n : Nat) (xs : List Value) (hs : a.eval s = v) (hown : w.ownsRow base 5 1 v n xs)
    (news : List Int) (m : Nat) (hm : news.length = m) (hx : a.eval x = .slice q m c) (hb : IsBytes w q c news)
    (h63 : n + m ≤ 140737488355328) (hbase : base ≤ w.heap.size)
    (h : ∀ v' w', w'.ownsRow base 5 1 v' (n + m) (xs ++ news.map (Value.int .u8)) → w.grownBy w' v.ownBlock → wpList Try.prog ops Q rest (a.put o.dst v') w') : wpList Try.prog ops Q (o :: rest) a w := by
  subst hm
  obtain ⟨i, hi, hz0, hz1, hz2⟩ := info_parts info_u8
  rcases hb.ways with ⟨rfl, rfl, rfl⟩ | ⟨ad, rfl, hc⟩
  · refine Lib.wpList_append_run_sl w hgd s x _ ho v (.slice none 0 0) hs hx (by rw [hty]; exact run_append_none v n xs hown) ?_
    exact h v w (by simpa using hown) (grown_refl w _)
  · refine wpList_append_own w hgd s x _ ho base 5 i (.int .u8 0) 1 1 Try.underlying22 hi hz0 hz1 hz2 rfl (by decide) v n xs hs hown ad news.length c (news.map (Value.int .u8)) hx (by simp) ?_ ?_ (by unfold maxLen; omega) (by omega) hbase ?_
    · intro j u hu
      have hj : j < news.length := by
        rcases Nat.lt_or_ge j news.length with h | h
        · exact h
        · simp [h] at hu
      rw [hc j hj]
      simp [hj] at hu ⊢
      exact hu
    · intro u hu
      obtain ⟨y, _, rfl⟩ := List.mem_map.1 hu
      rfl
    · intro v' w' h1 h2 _
      exact h v' w' h1 h2

/-- The same, and where the new slice lies: in the old one's block, or in the one just made. -/
theorem wp_append_at {ops : Array Oper} {rest : List Oper} {o : Oper} {a : Act} {Q : Exit → Act → World → Prop} (hgd : o.guard = none) (s x : Operand)
    (ho : o.op = .call { callee := .builtin .append, args := #[s, x], argTypes := #[22, 22] }) (hty : o.type = 22)
    (v : Value) (n : Nat) (xs : List Value) (hs : a.eval s = v) (hown : w.ownsRow base 5 1 v n xs)
    (news : List Int) (m : Nat) (hm : news.length = m) (hx : a.eval x = .slice q m c) (hb : IsBytes w q c news)
    (h63 : n + m ≤ 140737488355328) (hbase : base ≤ w.heap.size)
    (h : ∀ v' w', w'.ownsRow base 5 1 v' (n + m) (xs ++ news.map (Value.int .u8)) → w.grownBy w' v.ownBlock → (v'.ownBlock = v.ownBlock ∨ v'.ownBlock = some w.heap.size) → wpList Try.prog ops Q rest (a.put o.dst v') w') : wpList Try.prog ops Q (o :: rest) a w := by
  subst hm
  obtain ⟨i, hi, hz0, hz1, hz2⟩ := info_parts info_u8
  rcases hb.ways with ⟨rfl, rfl, rfl⟩ | ⟨ad, rfl, hc⟩
  · refine Lib.wpList_append_run_sl w hgd s x _ ho v (.slice none 0 0) hs hx (by rw [hty]; exact run_append_none v n xs hown) ?_
    exact h v w (by simpa using hown) (grown_refl w _) (.inl rfl)
  · refine wpList_append_own_at w hgd s x _ ho base 5 i (.int .u8 0) 1 1 Try.underlying22 hi hz0 hz1 hz2 rfl (by decide) v n xs hs hown ad news.length c (news.map (Value.int .u8)) hx (by simp) ?_ ?_ (by unfold maxLen; omega) (by omega) hbase ?_
    · intro j u hu
      have hj : j < news.length := by
        rcases Nat.lt_or_ge j news.length with h | h
        · exact h
        · simp [h] at hu
      rw [hc j hj]
      simp [hj] at hu ⊢
      exact hu
    · intro u hu
      obtain ⟨y, _, rfl⟩ := List.mem_map.1 hu
      rfl
    · intro v' w' h1 h2 _ h5
      exact h v' w' h1 h2 h5
end Go.Proofs.Ytblfighfahffkaa

/- Bytes of the call's own, whatever mark their row bears (a text's bytes bear one behind their last cell): bytes appended to them. No condition but that they are at most 2^47. -/
namespace Go.Proofs.Ytblfighfahffkaa
open Go.RowKit
variable {w w' : World} {base : Nat}

/-- A row of the call's own: its first n bytes; none of its cells is frozen. -/
structure OwnM (w : World) (base g n cap : Nat) (xs : List Int) : Prop where
  lo : base ≤ g
  lt : g < w.heap.size
  le : n ≤ cap
  len : xs.length = n
  most : cap ≤ maxLen
  there : ∀ j, j < cap → (w.cell? ⟨g, j, none⟩).isSome = true
  free : ∀ j, j < cap → w.frozen? ⟨g, j, none⟩ = false
  cell : ∀ j, j < n → w.cell? ⟨g, j, none⟩ = some (.int .u8 (xs.getD j 0))
theorem OwnM.kept {g n cap : Nat} {xs : List Int} {row : Option Nat} (h : OwnM w base g n cap xs) (hg : w.grownBy w' row) (hr : row ≠ some g) : OwnM w' base g n cap xs := by
  have hb : w'.heap[g]? = w.heap[g]? := hg.block g h.lt (fun e => hr e.symm)
  have hc : ∀ j, w'.cell? ⟨g, j, none⟩ = w.cell? ⟨g, j, none⟩ := fun j => World.cell?_of_block (a := ⟨g, j, none⟩) hb
  exact ⟨h.lo, Nat.lt_of_lt_of_le h.lt hg.size, h.le, h.len, h.most, fun j hj => by rw [hc]; exact h.there j hj, fun j hj => (World.frozen?_of_block (a := ⟨g, j, none⟩) hb).trans (h.free j hj), fun j hj => by rw [hc]; exact h.cell j hj⟩
theorem OwnM.grown {g n cap : Nat} {xs : List Int} (h : OwnM w base g n cap xs) (hg : w.grownBy w' none) : OwnM w' base g n cap xs := h.kept hg (by simp)
theorem OwnM.bytes {g n cap : Nat} {xs : List Int} (h : OwnM w base g n cap xs) (c : Nat) : IsBytes w (some ⟨g, 0, none⟩) c xs :=
  IsBytes.mk_at fun i hi => by rw [Nat.zero_add]; exact h.cell i (by rw [← h.len]; exact hi)

theorem grown_setCells {g : Nat} {w0 : World} : ∀ (vs : List Value) (o : Nat) (w : World), w0.grownBy w (some g) → w0.grownBy (w.setCells g o vs) (some g)
  | [], _, _, h => h
  | v :: r, o, _, h => grown_setCells r (o + 1) _ (grown_setCell (i := o) h v)

theorem run_appendM {g n cap : Nat} {xs : List Int} (h : OwnM w base g n cap xs) (news : List Int) (m : Nat) (hm : news.length = m) (q : Option Addr) (c : Nat) (hb : IsBytes w q c news) (h63 : n + m ≤ 140737488355328) :
    ∃ g' cap' w', (Builtin.append_ #[22, 22] 22 #[.slice (some ⟨g, 0, none⟩) n cap, .slice q m c]).run Try.prog w = .ok (.slice (some ⟨g', 0, none⟩) (n + m) cap') w' ∧
      OwnM w' base g' (n + m) cap' (xs ++ news) ∧ w.grownBy w' (some g) ∧ (g' = g ∨ g' = w.heap.size) := by
  subst hm
  obtain ⟨i, hi, hz0, hz1, hz2⟩ := info_parts info_u8
  have src : Src Try.prog i.size 22 (.slice q news.length c) news.length (news.map (Value.int .u8)) w := by
    rw [hz1]
    rcases hb.ways with ⟨rfl, rfl, rfl⟩ | ⟨x, rfl, hc⟩
    · exact Src.ofNil w Try.underlying22 0
    · refine Src.ofSlice w Try.underlying22 x news.length c _ (by simp) (fun j u hu => ?_) (fun u hu => ?_)
      · have hj : j < news.length := by
          rcases Nat.lt_or_ge j news.length with h | h
          · exact h
          · simp [h] at hu
        rw [hc j hj]
        simp [hj] at hu ⊢
        exact hu
      · obtain ⟨y, _, rfl⟩ := List.mem_map.1 hu
        rfl
  by_cases hroom : n + news.length ≤ cap
  · refine ⟨g, cap, w.setCells g n (news.map (Value.int .u8)), ?_, ?_, ?_, .inl rfl⟩
    · have hr := run_append_room_src w 22 22 22 5 i Try.underlying22 hi g 0 n cap _ news.length _ src hroom
        (fun j hj => h.there _ (by rw [hz1]; simp at hj; omega)) (fun j hj => h.free _ (by rw [hz1]; simp at hj; omega))
      rw [hz1, Nat.zero_add, Nat.mul_one] at hr
      exact hr
    · have hin : ∀ j, j < (news.map (Value.int .u8)).length → (w.cell? ⟨g, n + j, none⟩).isSome = true := fun j hj => h.there _ (by simp at hj; omega)
      have hcin := World.cell?_setCells_in g (news.map (Value.int .u8)) n w hin
      have hsz := (grown_setCells (news.map (Value.int .u8)) n w (grown_refl w (some g))).size
      refine ⟨h.lo, Nat.lt_of_lt_of_le h.lt hsz, hroom, by rw [List.length_append, h.len], h.most, fun j hj => ?_, fun j hj => by rw [World.frozen?_setCells]; exact h.free j hj, fun j hj => ?_⟩
      · by_cases h1 : j < n ∨ n + news.length ≤ j
        · rw [World.cell?_setCells_out g _ n w ⟨g, j, none⟩ (fun _ _ => by simpa using h1)]
          exact h.there j hj
        · have := hcin (j - n) (by simp; omega)
          rw [show n + (j - n) = j by omega] at this
          rw [this]; rfl
      · by_cases h1 : j < n
        · rw [World.cell?_setCells_out g _ n w ⟨g, j, none⟩ (fun _ _ => .inl h1), h.cell j h1]
          rw [List.getD_eq_getElem?_getD, List.getD_eq_getElem?_getD, List.getElem?_append_left (by rw [h.len]; exact h1)]
        · have := hcin (j - n) (by simp; omega)
          rw [show n + (j - n) = j by omega] at this
          rw [this, List.getD_eq_getElem?_getD, List.getElem?_append_right (by rw [h.len]; omega), h.len, List.getElem?_eq_getElem (show j - n < news.length by omega)]
          simp
    · exact grown_setCells _ _ _ (grown_refl _ _)
  · have hold : (Builtin.firstCells i.size n (.slice (some ⟨g, 0, none⟩) n cap)).run Try.prog w.drew = .ok (xs.map (Value.int .u8)).toArray w.drew := by
      rw [hz1]
      refine run_firstCells_some w.drew 1 n ⟨g, 0, none⟩ n cap (xs.map (Value.int .u8)) (by simp [h.len]) (fun j u hu => ?_)
      have hj : j < n := by
        rcases Nat.lt_or_ge j n with h1 | h1
        · exact h1
        · simp [h.len, h1] at hu
      rw [add_flat, Nat.zero_add]
      show w.cell? ⟨g, j, none⟩ = some u
      rw [h.cell j hj]
      simp [show j < xs.length by rw [h.len]; exact hj] at hu ⊢
      exact hu
    have hr := run_append_grow_src w 22 22 22 5 i (.int .u8 0) Try.underlying22 hi hz0 (some ⟨g, 0, none⟩) n cap (xs.map (Value.int .u8)) hold _ news.length _ src (by omega) (by omega)
      (growslice_fits (by omega) (by rw [hz2]; omega))
    obtain ⟨cap', hcap⟩ : ∃ z, z = grownCap w (n + news.length) cap 5 := ⟨_, rfl⟩
    rw [← hcap] at hr
    have hge : n + news.length ≤ cap' := by rw [hcap]; exact grownCap_ge w _ _ _
    have hle : cap' ≤ maxLen := by rw [hcap]; exact grownCap_le_maxLen w _ _ _ (by unfold maxLen; omega)
    refine ⟨w.heap.size, cap', _, hr, ?_, ?_, .inr rfl⟩
    · have hnew : (w.drew.alloc (.cells ((xs.map (Value.int .u8) ++ news.map (Value.int .u8)).toArray ++ Builtin.zeroCells (Value.int .u8 0).cells (cap' - (n + news.length))) 5)).heap[w.heap.size]? = some (.cells ((xs.map (Value.int .u8) ++ news.map (Value.int .u8)).toArray ++ Builtin.zeroCells (Value.int .u8 0).cells (cap' - (n + news.length))) 5 (0, 0)) := heap_alloc_new w.drew _
      have hsize : ((xs.map (Value.int .u8) ++ news.map (Value.int .u8)).toArray ++ Builtin.zeroCells (Value.int .u8 0).cells (cap' - (n + news.length))).size = cap' := by
        simp [size_zeroCells, Value.cells, h.len]; omega
      refine ⟨Nat.le_trans h.lo (Nat.le_of_lt h.lt), lt_of_block hnew, hge, by rw [List.length_append, h.len], hle, fun j hj => ?_, fun j _ => free_of hnew, fun j hj => ?_⟩
      · rw [cell_of hnew, Array.getElem?_eq_getElem (by rw [hsize]; exact hj)]; rfl
      · rw [cell_of hnew, Array.getElem?_append_left (by simp [h.len]; omega)]
        rw [← List.map_append, List.getElem?_toArray, List.getElem?_map, List.getD_eq_getElem?_getD, List.getElem?_eq_getElem (show j < (xs ++ news).length by rw [List.length_append, h.len]; exact hj)]
        rfl
    · exact grown_any (grown_alloc (grown_drewN (grown_refl w none) 1) _) _

/-- The operation, for the walk. -/
theorem wp_appendM {ops : Array Oper} {rest : List Oper} {o : Oper} {a : Act} {Q : Exit → Act → World → Prop} (hgd : o.guard = none) (s x : Operand)
    (ho : o.op = .call { callee := .builtin .append, args := #[s, x], argTypes := #[22, 22] }) (hty : o.type = 22)
    {g n cap : Nat} {xs : List Int} (hs : a.eval s = .slice (some ⟨g, 0, none⟩) n cap) (hown : OwnM w base g n cap xs)
    (news : List Int) (m : Nat) (hm : news.length = m) {q : Option Addr} {c : Nat} (hx : a.eval x = .slice q m c) (hb : IsBytes w q c news) (h63 : n + m ≤ 140737488355328)
    (h : ∀ g' cap' w', OwnM w' base g' (n + m) cap' (xs ++ news) → w.grownBy w' (some g) → (g' = g ∨ g' = w.heap.size) → wpList Try.prog ops Q rest (a.put o.dst (.slice (some ⟨g', 0, none⟩) (n + m) cap')) w') : wpList Try.prog ops Q (o :: rest) a w := by
  obtain ⟨g', cap', w', hr, h1, h2, h3⟩ := run_appendM hown news m hm q c hb h63
  exact Lib.wpList_append_run w hgd s x _ _ ho _ _ hs hx _ _ (by rw [hty]; exact hr) (h g' cap' w' h1 h2 h3)

/-- A text's bytes are such a row. -/
theorem ownM_text (s : ByteArray) (xs : List Int) (hx : s.data.toList.map (fun b => (b.toNat : Int)) = xs) (hs : s.size ≤ 1000) :
    ∃ cap w', (convert 9 22 (.string s)).run Try.prog w = .ok (.slice (some ⟨w.heap.size, 0, none⟩) s.size cap) w' ∧ OwnM w' w.heap.size w.heap.size s.size cap xs ∧ w.grownBy w' none := by
  have hr := run_bytes_of_string (P := Try.prog) w 9 22 5 s Try.underlying9 Try.underlying22 Try.underlying5
  refine ⟨_, _, hr, ?_, grown_alloc (grown_drewN (grown_refl w none) 1) _⟩
  obtain ⟨cap, hcap⟩ : ∃ z, z = grownCap w s.size 0 5 := ⟨_, rfl⟩
  rw [← hcap]
  have hge : s.size ≤ cap := by rw [hcap]; exact grownCap_ge w _ _ _
  have hle : cap ≤ maxLen := by rw [hcap]; exact grownCap_le_maxLen w _ _ _ (by unfold maxLen; omega)
  have hsd : s.data.size = s.size := rfl
  have hsz : (bytesRow s cap).size = cap := by unfold bytesRow; simp; omega
  have hnew : (w.drew.alloc (.cells (bytesRow s cap) 5 ((bytesRow s cap).size, (bytesRow s cap).size + 1))).heap[w.heap.size]? = some (.cells (bytesRow s cap) 5 ((bytesRow s cap).size, (bytesRow s cap).size + 1)) := heap_alloc_new w.drew _
  refine ⟨Nat.le_refl _, lt_of_block hnew, hge, by rw [← hx]; simp [hsd], hle, fun j hj => ?_, fun j hj => ?_, fun j hj => ?_⟩
  · rw [cell_of_row _ _ _ _ _ _ hnew, Array.getElem?_eq_getElem (by rw [hsz]; exact hj)]; rfl
  · rw [hsz] at hnew ⊢
    simp only [World.frozen?, hnew]
    simp; omega
  · rw [cell_of_row _ _ _ _ _ _ hnew]
    unfold bytesRow
    rw [Array.getElem?_append_left (by simp [hsd]; exact hj), Array.getElem?_map, Array.getElem?_eq_getElem (by rw [hsd]; exact hj), ← hx]
    simp [List.getD, hsd, hj]
end Go.Proofs.Ytblfighfahffkaa

/- Noughts appended to bytes of the call's own (append of a make). No condition but that they are at most 2^47. -/
namespace Go.Proofs.Ytblfighfahffkaa
open Go.RowKit
variable {w w' : World} {base : Nat}

theorem run_zeros_room {g n cap : Nat} {xs : List Int} (h : OwnM w base g n cap xs) (k : Nat) (hroom : n + k ≤ cap) (h63 : n + k ≤ 140737488355328) :
    (Builtin.append_ #[22, 31] 22 #[.slice (some ⟨g, 0, none⟩) n cap, .int .u64 k]).run Try.prog w = .ok (.slice (some ⟨g, 0, none⟩) (n + k) cap) (w.setCells g n (List.replicate k (.int .u8 0))) := by
  obtain ⟨i, hi, hz0, hz1, hz2⟩ := info_parts info_u8
  have hst := run_storeCells_cells (P := Try.prog) g n (List.replicate k (Value.int .u8 0)) 0 w (fun j hj => h.there _ (by simp at hj; omega)) (fun j hj => h.free _ (by simp at hj; omega)) (fun u hu => by rw [List.eq_of_mem_replicate hu]; rfl)
  have hw : IntKind.i64.wrap (k : Int) = k := by rw [IntKind.wrap_i64]; omega
  have hneg : ¬ ((k : Int) < 0) := by omega
  have h48i : ¬ (281474976710656 < (k : Int)) := by omega
  simp only [Nat.add_zero] at hst
  simp [Builtin.append_, run_underlying Try.underlying22, run_underlying Try.underlying31, sizeOf, typeInfo, zeroValue, hi, hz0, hz1, hz2, asInt, asIntOf, hw, hneg, hroom, h48i]
  have hzc : (Builtin.zeroCells (Value.int .u8 0).cells k).toList = List.replicate k (Value.int .u8 0) := by
    apply List.ext_getElem?
    intro j
    by_cases hj : j < k
    · simp [Builtin.zeroCells, Value.cells, hj, Nat.mod_one]
    · simp [Builtin.zeroCells, Value.cells, hj]
  rw [hzc, add_flat, Nat.zero_add, hst]
  by_cases hk : k = 0
  · subst hk
    rw [if_pos rfl]
    rfl
  · rw [if_neg hk]
    rfl

theorem ownM_room {g n cap : Nat} {xs : List Int} (h : OwnM w base g n cap xs) (news : List Int) (hroom : n + news.length ≤ cap) : OwnM (w.setCells g n (news.map (Value.int .u8))) base g (n + news.length) cap (xs ++ news) := by
  have hin : ∀ j, j < (news.map (Value.int .u8)).length → (w.cell? ⟨g, n + j, none⟩).isSome = true := fun j hj => h.there _ (by simp at hj; omega)
  have hcin := World.cell?_setCells_in g (news.map (Value.int .u8)) n w hin
  have hsz := (grown_setCells (news.map (Value.int .u8)) n w (grown_refl w (some g))).size
  refine ⟨h.lo, Nat.lt_of_lt_of_le h.lt hsz, hroom, by rw [List.length_append, h.len], h.most, fun j hj => ?_, fun j hj => by rw [World.frozen?_setCells]; exact h.free j hj, fun j hj => ?_⟩
  · by_cases h1 : j < n ∨ n + news.length ≤ j
    · rw [World.cell?_setCells_out g _ n w ⟨g, j, none⟩ (fun _ _ => by simpa using h1)]
      exact h.there j hj
    · have := hcin (j - n) (by simp; omega)
      rw [show n + (j - n) = j by omega] at this
      rw [this]; rfl
  · by_cases h1 : j < n
    · rw [World.cell?_setCells_out g _ n w ⟨g, j, none⟩ (fun _ _ => .inl h1), h.cell j h1]
      rw [List.getD_eq_getElem?_getD, List.getD_eq_getElem?_getD, List.getElem?_append_left (by rw [h.len]; exact h1)]
    · have := hcin (j - n) (by simp; omega)
      rw [show n + (j - n) = j by omega] at this
      rw [this, List.getD_eq_getElem?_getD, List.getElem?_append_right (by rw [h.len]; omega), h.len, List.getElem?_eq_getElem (show j - n < news.length by omega)]
      simp

theorem zeroCells_at (k j : Nat) (hj : j < k) : (Builtin.zeroCells (Value.int .u8 0).cells k)[j]? = some (.int .u8 0) := by
  simp [Builtin.zeroCells, Value.cells, hj, Nat.mod_one]
theorem run_zerosM {g n cap : Nat} {xs : List Int} (h : OwnM w base g n cap xs) (k : Nat) (h63 : n + k ≤ 140737488355328) :
    ∃ g' cap' w', (Builtin.append_ #[22, 31] 22 #[.slice (some ⟨g, 0, none⟩) n cap, .int .u64 k]).run Try.prog w = .ok (.slice (some ⟨g', 0, none⟩) (n + k) cap') w' ∧
      OwnM w' base g' (n + k) cap' (xs ++ List.replicate k 0) ∧ w.grownBy w' (some g) ∧ (g' = g ∨ g' = w.heap.size) := by
  by_cases hroom : n + k ≤ cap
  · refine ⟨g, cap, _, run_zeros_room h k hroom h63, ?_, grown_setCells _ _ _ (grown_refl _ _), .inl rfl⟩
    have := ownM_room h (List.replicate k 0) (by simpa using hroom)
    simpa using this
  · obtain ⟨i, hi, hz0, hz1, hz2⟩ := info_parts info_u8
    have hold : (Builtin.firstCells i.size n (.slice (some ⟨g, 0, none⟩) n cap)).run Try.prog w.drew = .ok (xs.map (Value.int .u8)).toArray w.drew := by
      rw [hz1]
      refine run_firstCells_some w.drew 1 n ⟨g, 0, none⟩ n cap (xs.map (Value.int .u8)) (by simp [h.len]) (fun j u hu => ?_)
      have hj : j < n := by
        rcases Nat.lt_or_ge j n with h1 | h1
        · exact h1
        · simp [h.len, h1] at hu
      rw [add_flat, Nat.zero_add]
      show w.cell? ⟨g, j, none⟩ = some u
      rw [h.cell j hj]
      simp [show j < xs.length by rw [h.len]; exact hj] at hu ⊢
      exact hu
    have hle0 := h.le
    have hr := Lib.run_append_grow_zeros w 22 31 22 5 i (.int .u8 0) .u64 .u64 Try.underlying22 Try.underlying31 hi hz0 (some ⟨g, 0, none⟩) n cap (xs.map (Value.int .u8)) hold k (by omega) (by omega) (by omega) (by omega) (by rw [hz2]; omega)
      (growslice_fits (by omega) (by rw [hz2]; omega))
    obtain ⟨cap', hcap⟩ : ∃ z, z = grownCap w (n + k) cap 5 := ⟨_, rfl⟩
    rw [← hcap] at hr
    have hge : n + k ≤ cap' := by rw [hcap]; exact grownCap_ge w _ _ _
    have hle : cap' ≤ maxLen := by rw [hcap]; exact grownCap_le_maxLen w _ _ _ (by unfold maxLen; omega)
    refine ⟨w.heap.size, cap', _, hr, ?_, grown_any (grown_alloc (grown_drewN (grown_refl w none) 1) _) _, .inr rfl⟩
    obtain ⟨C, hC⟩ : ∃ C, C = (xs.map (Value.int .u8)).toArray ++ Builtin.zeroCells (Value.int .u8 0).cells k ++ Builtin.zeroCells (Value.int .u8 0).cells (cap' - (n + k)) := ⟨_, rfl⟩
    have hsize : C.size = cap' := by
      rw [hC]
      simp [size_zeroCells, Value.cells, h.len]; omega
    have hcell : ∀ j, j < n + k → C[j]? = some (.int .u8 ((xs ++ List.replicate k 0).getD j 0)) := fun j hj => by
      rw [hC, Array.getElem?_append_left (by simp [size_zeroCells, Value.cells, h.len]; omega)]
      by_cases h1 : j < n
      · rw [Array.getElem?_append_left (by simp [h.len]; exact h1), List.getD_eq_getElem?_getD, List.getElem?_append_left (by rw [h.len]; exact h1)]
        simp [show j < xs.length by rw [h.len]; exact h1]
      · rw [Array.getElem?_append_right (by simp [h.len]; omega), List.getD_eq_getElem?_getD, List.getElem?_append_right (by rw [h.len]; omega)]
        rw [zeroCells_at _ _ (by simp [h.len]; omega), List.getElem?_replicate, if_pos (by rw [h.len]; omega)]
        rfl
    rw [← hC]
    have hnew : (w.drew.alloc (.cells C 5)).heap[w.heap.size]? = some (.cells C 5 (0, 0)) := heap_alloc_new w.drew _
    exact ⟨Nat.le_trans h.lo (Nat.le_of_lt h.lt), lt_of_block hnew, hge, by simp [h.len], hle, fun j hj => by rw [cell_of hnew, Array.getElem?_eq_getElem (by rw [hsize]; exact hj)]; rfl, fun j _ => free_of hnew, fun j hj => by rw [cell_of hnew]; exact hcell j hj⟩

/-- The operation, for the walk. -/
theorem wp_zerosM {ops : Array Oper} {rest : List Oper} {o : Oper} {a : Act} {Q : Exit → Act → World → Prop} (hgd : o.guard = none) (s x : Operand)
    (ho : o.op = .call { callee := .builtin .append, args := #[s, x], argTypes := #[22, 31] }) (hty : o.type = 22)
    {g n cap : Nat} {xs : List Int} (hs : a.eval s = .slice (some ⟨g, 0, none⟩) n cap) (hown : OwnM w base g n cap xs) (k : Nat) {z : Int} (hz : z = k) (hx : a.eval x = .int .u64 z) (h63 : n + k ≤ 140737488355328)
    (h : ∀ g' cap' w', OwnM w' base g' (n + k) cap' (xs ++ List.replicate k 0) → w.grownBy w' (some g) → (g' = g ∨ g' = w.heap.size) → wpList Try.prog ops Q rest (a.put o.dst (.slice (some ⟨g', 0, none⟩) (n + k) cap')) w') : wpList Try.prog ops Q (o :: rest) a w := by
  subst hz
  obtain ⟨g', cap', w', hr, h1, h2, h3⟩ := run_zerosM hown k h63
  exact Lib.wpList_append_run w hgd s x _ _ ho _ _ hs hx _ _ (by rw [hty]; exact hr) (h g' cap' w' h1 h2 h3)
end Go.Proofs.Ytblfighfahffkaa

/- Small laws of worlds that grow, rows of one's own, bytes, and ranges: shared by the seats from layer 4 on. No condition. -/
namespace Go.Proofs.Ytblfighfahffkaa
open Go.RowKit Go.ChangeShapes Go.WideShapes Go.Deep
variable {w w' : World} {base g : Nat}

/-- What the call itself has made, it may turn. -/
theorem grown_new {w1 : World} (h : w.grownBy w1 none) (k : w1.grownBy w' (some g)) (hg : w.heap.size ≤ g) : w.grownBy w' none :=
  ⟨k.os.trans h.os, k.tape.trans h.tape, k.output.trans h.output, Nat.le_trans h.size k.size, fun i hi _ =>
    (k.block i (Nat.lt_of_lt_of_le hi h.size) (fun e => by injection e with e; omega)).trans (h.block i hi (by simp))⟩
theorem grown1 (w : World) (o : Obj) : w.grownBy (w.alloc o) none := World.grownBy_alloc w o none
theorem grown2 (w : World) (o o' : Obj) : w.grownBy ((w.alloc o).alloc o') none := grown_alloc (grown1 w o) o'
theorem grown_cell {a : Addr} {v : Value} (hg : w.grownBy w' none) (h : w.cell? a = some v) : w'.cell? a = some v := hg.cell h (by simp)
/-- A value that is a row's is a slice. -/
theorem own_slice {v : Value} {n : Nat} {xs : List Value} {T : TypeId} {k : Nat} (h : w.ownsRow base T k v n xs) : ∃ q c, v = .slice q n c := by
  rcases h.2 with ⟨rfl, rfl⟩ | ⟨g, cap, cur, rfl, _⟩
  · exact ⟨_, _, rfl⟩
  · exact ⟨_, _, rfl⟩
theorem grown_own {w1 w2 : World} {v : Value} {B : Nat} (h : w.grownBy w1 none) (hg : w1.grownBy w2 v.ownBlock) (hv : ∀ g, v.ownBlock = some g → B ≤ g) (hB : w.heap.size ≤ B) : w.grownBy w2 none := by
  cases hb : v.ownBlock with
  | none => rw [hb] at hg; exact grown_trans h hg
  | some g => rw [hb] at hg; exact grown_new h hg (Nat.le_trans hB (hv g hb))
theorem own_grown {wr : World} {v : Value} {n B : Nat} {xs : List Value} {T : TypeId} {z : Nat} (h : wr.ownsRow B T z v n xs) (hg : wr.grownBy w' none) : w'.ownsRow B T z v n xs :=
  h.kept hg (by cases v.ownBlock <;> simp)
theorem bytes_inj : ∀ {xs ys : List Int}, Small xs → Small ys → Lib.bytesOf xs = Lib.bytesOf ys → xs = ys
  | [], [], _, _, _ => rfl
  | [], _ :: _, _, _, h => by simp [Lib.bytesOf] at h
  | _ :: _, [], _, _, h => by simp [Lib.bytesOf] at h
  | x :: xs, y :: ys, hx, hy, h => by
    simp only [Lib.bytesOf, List.map_cons, List.cons.injEq] at h
    have a := hx x (List.mem_cons_self ..)
    have b := hy y (List.mem_cons_self ..)
    have e : (UInt8.ofNat x.toNat).toNat = (UInt8.ofNat y.toNat).toNat := by rw [h.1]
    simp only [UInt8.toNat_ofNat'] at e
    rw [bytes_inj (fun z hz => hx z (List.mem_cons_of_mem _ hz)) (fun z hz => hy z (List.mem_cons_of_mem _ hz)) h.2, show x = y by omega]
theorem small_lit {l : List Int} (h : l.all (fun x => decide (0 ≤ x) && decide (x < 256)) = true) : Small l := fun x hx => by
  have := List.all_eq_true.1 h x hx
  simpa using this
/-- Does a text begin so? By its bytes. -/
theorem text_is {xs ys : List Int} (hx : Small xs) (hy : Small ys) : ((strOfNums xs).toList == Lib.bytesOf ys) = decide (xs = ys) := by
  rw [Lib.strOfNums_toList]
  by_cases h : xs = ys
  · subst h; simp
  · rw [decide_eq_false h, beq_eq_false_iff_ne]
    exact fun e => h (bytes_inj hx hy e)
theorem u32_range {n : Int} (h : (Lit.int .u32 n).wf = true) : 0 ≤ n ∧ n < 4294967296 := by
  have : 0 ≤ n ∧ n ≤ 4294967295 := by simpa [Lit.wf, IntKind.min, IntKind.max, IntKind.signed, IntKind.bits] using h
  omega
theorem u64_range {n : Int} (h : (Lit.int .u64 n).wf = true) : 0 ≤ n ∧ n < 18446744073709551616 := by
  have : 0 ≤ n ∧ n ≤ 18446744073709551615 := by simpa [Lit.wf, IntKind.min, IntKind.max, IntKind.signed, IntKind.bits] using h
  omega

/-- One element's five cells. -/
theorem list_of' {α : Type} (z : α) (n : Nat) (P : Nat → α → Prop) (h : ∀ i, i < n → ∃ s, P i s) : ∃ l : List α, l.length = n ∧ ∀ i s, l[i]? = some s → P i s := by
  have h' : ∀ i, ∃ s, i < n → P i s := fun i => by
    by_cases hi : i < n
    · obtain ⟨s, hs⟩ := h i hi; exact ⟨s, fun _ => hs⟩
    · exact ⟨z, fun h => absurd h hi⟩
  refine ⟨(List.range n).map fun i => Classical.choose (h' i), by simp, fun i s hs => ?_⟩
  rw [List.getElem?_map] at hs
  rcases Nat.lt_or_ge i n with hi | hi
  · rw [List.getElem?_range hi] at hs
    injection hs with hs
    rw [← hs]
    exact Classical.choose_spec (h' i) hi
  · rw [List.getElem?_eq_none (by simpa using hi)] at hs
    cases hs

/-- A slice of parts that came in. -/
theorem one_byte' (w : World) (v : Int) : IsBytes (w.alloc (.cells #[.int .u8 v] 5)) (some ⟨w.heap.size, 0, none⟩) 1 [v] := by
  refine IsBytes.mk_at fun i hi => ?_
  obtain rfl : i = 0 := by simpa using hi
  rw [cell_of (heap_alloc_new w _)]
  rfl
theorem small_app {xs ys : List Int} (h : Small xs) (k : Small ys) : Small (xs ++ ys) := fun x hx => by
  rcases List.mem_append.1 hx with h1 | h1
  · exact h x h1
  · exact k x h1
theorem small_flat {α : Type} {f : α → List Int} {l : List α} (h : ∀ a ∈ l, Small (f a)) : Small (l.flatMap f) := fun x hx => by
  obtain ⟨a, ha, hxa⟩ := List.mem_flatMap.1 hx
  exact h a ha x hxa
theorem zeros_small (n : Nat) : Small (List.replicate n 0) := fun x hx => by
  rw [List.eq_of_mem_replicate hx]; decide
theorem grown_app {w1 w2 : World} {g g1 : Nat} (h : w.grownBy w1 (some g)) (k : w1.grownBy w2 (some g1)) (hr : g1 = g ∨ w.heap.size ≤ g1) : w.grownBy w2 (some g) :=
  ⟨k.os.trans h.os, k.tape.trans h.tape, k.output.trans h.output, Nat.le_trans h.size k.size, fun i hi hn =>
    (k.block i (Nat.lt_of_lt_of_le hi h.size) (fun e => by
      injection e with e
      rcases hr with rfl | hg
      · exact hn (by rw [e])
      · omega)).trans (h.block i hi hn)⟩

/-- A row of bytes behind what was appended to it: its bytes, and that nothing else of old memory has turned. -/
theorem shr_div (n : Int) (k : Nat) : n >>> k = n / 2 ^ k := Int.shiftRight_eq_div_pow n k
end Go.Proofs.Ytblfighfahffkaa

/- One cell in a block of its own; a block that stays. No condition. -/
namespace Go.Proofs.Ytblfighfahffkaa
open Go.RowKit
variable {w w' : World}
/-- One cell, in a block of its own. -/
def OneAt (w : World) (g : Nat) (v : Value) (T : TypeId) : Prop := w.heap[g]? = some (.cells #[v] T (0, 0))
section
variable {g : Nat} {v : Value} {T : TypeId}
theorem OneAt.c (h : OneAt w g v T) : w.cell? ⟨g, 0, none⟩ = some v := by rw [cell_of h]; rfl
theorem OneAt.f (h : OneAt w g v T) : w.frozen? ⟨g, 0, none⟩ = false := free_of h
theorem OneAt.lt (h : OneAt w g v T) : g < w.heap.size := lt_of_block h
theorem OneAt.kept {row : Option Nat} (h : OneAt w g v T) (hg : w.grownBy w' row) (hr : row ≠ some g) : OneAt w' g v T := (hg.block g (lt_of_block h) (fun e => hr e.symm)).trans h
theorem OneAt.grown (h : OneAt w g v T) (hg : w.grownBy w' none) : OneAt w' g v T := h.kept hg (by simp)
theorem OneAt.set (h : OneAt w g v T) (u : Value) : OneAt (w.setCell ⟨g, 0, none⟩ u) g u T := by unfold OneAt; rw [heap_setCell_same w g 0 _ _ _ h]; rfl
theorem OneAt.new (w : World) (v : Value) (T : TypeId) : OneAt (w.alloc (.cells #[v] T)) w.heap.size v T := heap_alloc_new w _
end
theorem grown_obj {r : Option Nat} {W W' : World} {k : Nat} {o : Obj} (hg : W.grownBy W' r) (h : W.heap[k]? = some o) (hr : r ≠ some k) : W'.heap[k]? = some o :=
  (hg.block k (Array.getElem?_eq_some_iff.1 h).1 (fun e => hr e.symm)).trans h
end Go.Proofs.Ytblfighfahffkaa
