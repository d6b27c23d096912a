/- The document's own bytes of a number, the highest first: one contract. No condition but that the number is of 64 bits. -/
import Derived.Test.YtdjakaiadggemaaRefMay
import Derived.Test.YtdjakaiadggemaaApp
import Derived.Test.YtdjakaiadggemaaRowSl
import Derived.Test.YtdjakaiadggemaaSlices
import Derived.Test.YtdjakaiadggemaaListed
namespace Go.Proofs.Ytdjakaiadggemaa
open Go.RowKit
variable {w w' : World}

theorem two_le {j k : Nat} (h : j ≤ k) : (2 : Int) ^ j ≤ 2 ^ k := by
  have : (2 : Nat) ^ j ≤ 2 ^ k := Nat.pow_le_pow_right (by decide) h
  exact_mod_cast this
theorem power_at (z : Int) (k : Nat) (hz : z = k) (hk : k ≤ 63) : Calls Try.prog 36 #[.int .u64 z] w fun e w' => e = .returned (.int .u64 (2 ^ k)) ∧ w' = w := by
  subst hz
  go_enter Try.func36, Try.ntmps36
  go_wp2
  go_loop [3, 4] (fun p i => ∃ j : Nat, j ≤ k ∧ i = .int .u64 j ∧ p = .int .u64 (2 ^ j)) (fun _ i => k - (intOf i).toNat)
  case atStart => exact ⟨0, Nat.zero_le _, rfl, rfl⟩
  case round =>
    obtain ⟨j, hj, rfl, rfl⟩ := hrel
    by_cases hlt : j < k
    · have hb := two_le (show j + 1 ≤ 63 by omega)
      have h63 : (2 : Int) ^ 63 = 9223372036854775808 := by decide
      have h0 : (0 : Int) < 2 ^ j := Int.pow_pos (by decide)
      have hs : (2 : Int) ^ (j + 1) = 2 * 2 ^ j := by rw [Int.pow_succ]; omega
      have S := Lib.hid hs
      have hb' : 2 * (2 : Int) ^ j ≤ 9223372036854775808 := by omega
      clear hs hb h63
      generalize (2 : Int) ^ j = P at *
      go_wp2
      go_round
      case rel => exact ⟨j + 1, by omega, by go_num, by rw [S.out]⟩
      case measure => simp [intOf]; omega
    · have hjk : j = k := by omega
      subst hjk
      go_wp2
      go_ret
      exact ⟨rfl, rfl⟩

def bigN (n : Int) (size : Nat) : List Int := (List.range size).map fun j => n / 2 ^ (8 * (size - 1 - j)) % 256
theorem bigN_take (n : Int) (size j : Nat) (h : j < size) : (bigN n size).take (j + 1) = (bigN n size).take j ++ [n / 2 ^ (8 * (size - 1 - j)) % 256] := by
  rw [List.take_succ_eq_append_getElem (by simpa [bigN] using h)]
  simp [bigN]
theorem bigN_len (n : Int) (size : Nat) : (bigN n size).length = size := by simp [bigN]
theorem bigN_small (n : Int) (size : Nat) : Small (bigN n size) := by
  intro x hx
  obtain ⟨j, _, rfl⟩ := List.mem_map.1 hx
  omega

theorem one_byte' (w : World) (v : Int) : IsBytes (w.alloc (.cells #[.int .u8 v] 5)) (some ⟨w.heap.size, 0, none⟩) 1 [v] := by
  refine IsBytes.mk_at fun i hi => ?_
  obtain rfl : i = 0 := by simpa using hi
  rw [cell_of (heap_alloc_new w _)]
  rfl

theorem big_any (n : Int) (hn : 0 ≤ n ∧ n < 18446744073709551616) (size : Nat) (hs : size = 4 ∨ size = 8) :
    Calls Try.prog 37 #[.int .u64 n, .int .i64 size] w fun e w' =>
      ∃ q c, e = .returned (.slice q size c) ∧ w'.ownsRow w.heap.size 5 1 (.slice q size c) size ((bigN n size).map (Value.int .u8)) ∧ w.grownBy w' none := by
  have hs8 : size ≤ 8 := by omega
  have hn0 := hn.1
  have hn1 := hn.2
  clear hn
  go_enter Try.func37, Try.ntmps37
  go_wp2
  go_loopw [5, 6] (fun v i wr => ∃ j : Nat, j ≤ size ∧ i = .int .i64 ((size : Int) - 1 - j) ∧ wr.ownsRow w.heap.size 5 1 v j (((bigN n size).take j).map (Value.int .u8)) ∧ w.grownBy wr none) (fun _ i _ => (intOf i + 1).toNat)
  case atStart => exact ⟨0, Nat.zero_le _, by simp, World.ownsRow_nil _ _ _ _, grown_refl _ _⟩
  case round =>
    obtain ⟨j, hj, rfl, hown, hg⟩ := hrel
    obtain ⟨q, c, rfl⟩ := own_slice hown
    by_cases hlt : j < size
    · have hp0 : (0 : Int) < 2 ^ (8 * (size - 1 - j)) := Int.pow_pos (by decide)
      have hne : ((2 : Int) ^ (8 * (size - 1 - j)) == 0) = false := by simp; omega
      have hne' : ¬ (2 : Int) ^ (8 * (size - 1 - j)) = 0 := by omega
      have PW := Lib.hid (fun (w : World) z (hz : z = ((8 * (size - 1 - j) : Nat) : Int)) => power_at (w := w) z _ hz (by omega))
      have TK := Lib.hid (bigN_take n size j hlt)
      have hdv : 0 ≤ n / 2 ^ (8 * (size - 1 - j)) := Int.ediv_nonneg hn0 (Int.le_of_lt hp0)
      have hdt : n.tdiv (2 ^ (8 * (size - 1 - j))) = n / 2 ^ (8 * (size - 1 - j)) := Int.tdiv_eq_ediv_of_nonneg hn0
      have hdl : n / 2 ^ (8 * (size - 1 - j)) ≤ n := Int.ediv_le_self _ hn0
      have OW := Lib.hid hown
      have G := Lib.hid hg
      clear hown hg
      generalize (2 : Int) ^ (8 * (size - 1 - j)) = P at *
      go_wp2_with fail
      refine (PW.out _ _ (by omega)).mono ?_
      rintro e w1 ⟨rfl, rfl⟩
      generalize hD : n / P = D at *
      have OA := Lib.hid (OW.out.alloc (.cells #[.int .u8 (D % 256)] 5))
      have OB := Lib.hid (one_byte' w1 (D % 256))
      have GN := Lib.hid (grown_trans G.out (grown1 w1 (.cells #[.int .u8 (D % 256)] 5)))
      go_wp2_with (at_builtin; refine wp_append_bytes rfl _ _ rfl rfl _ _ _ rfl OA.out [D % 256] 1 rfl rfl OB.out (by omega) GN.out.size ?_)
      intro v' w2 ho hg2
      obtain ⟨q', c', rfl⟩ := own_slice ho
      have E := Lib.hid (show w2.ownsRow w.heap.size 5 1 (.slice q' (j + 1) c') (j + 1) (((bigN n size).take (j + 1)).map (Value.int .u8)) by rw [TK.out, List.map_append, List.map_take]; exact ho)
      have GE := Lib.hid (grown_own GN.out hg2 (fun g hg => (OA.out.lt g hg).1) (Nat.le_refl _))
      clear ho hg2
      go_wp2
      go_roundw
      case rel => exact ⟨j + 1, by omega, by go_num, E.out, GE.out⟩
      case measure => simp [intOf]; omega
    · have hjs : j = size := by omega
      subst hjs
      have E := Lib.hid (show wr.ownsRow w.heap.size 5 1 (.slice q j c) j ((bigN n j).map (Value.int .u8)) by
        have := hown
        rwa [List.take_of_length_le (by rw [bigN_len]; exact Nat.le_refl _)] at this)
      have G := Lib.hid hg
      clear hown hg
      go_wp2
      go_ret
      exact ⟨_, _, rfl, E.out, G.out⟩
end Go.Proofs.Ytdjakaiadggemaa
