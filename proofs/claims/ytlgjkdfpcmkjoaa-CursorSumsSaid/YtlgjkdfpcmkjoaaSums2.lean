/- Checked sums, products and spans of layer 1 (cursor): one contract each. No condition but that the numbers are of 64 bits. -/
import Derived.Test.YtlgjkdfpcmkjoaaSums
import Derived.Test.YtlgjkdfpcmkjoaaShelf
namespace Go.Proofs.Ytlgjkdfpcmkjoaa
open Go.RowKit

theorem add64_run (x y : Nat) (w : World) (hx : x < 18446744073709551616) (hy : y < 18446744073709551616) :
    (callFunc 28 #[.int .u64 x, .int .u64 y, .int .u64 0]).run Try.prog w =
      .ok (.value (.tuple #[.int .u64 (((x + y) % 18446744073709551616 : Nat) : Int), .int .u64 (((x + y) / 18446744073709551616 : Nat) : Int)])) w := by
  rw [run_callFunc_extern Try.func28 (by kernel_rfl) (by kernel_rfl) (by kernel_rfl) (e := add64Entry) (by kernel_rfl), run_add64 x y 0 (by omega) (by omega) (by omega) (by omega)]
  simp only [Result.andThen]
  congr 5 <;> omega

theorem add_any (a b : Nat) (ha : a < 18446744073709551616) (hb : b < 18446744073709551616) (w : World) :
    Calls Try.prog 14 #[.int .u64 a, .int .u64 b] w fun e w' => e = .returned (sumV a b) ∧ w = w' := by
  have hr := add64_run a b w ha hb
  by_cases h : a + b < 18446744073709551616
  · rw [sumV_yes h]
    rw [Nat.mod_eq_of_lt h, Nat.div_eq_of_lt h] at hr
    go_enter Try.func14, Try.ntmps14
    go_wp2
    go_ret2
    exact ⟨rfl, rfl⟩
  · rw [sumV_no h]
    rw [show (a + b) / 18446744073709551616 = 1 by omega] at hr
    go_enter Try.func14, Try.ntmps14
    go_wp2
    go_ret2
    exact ⟨rfl, rfl⟩

theorem mul_any (a b : Nat) (ha : a < 18446744073709551616) (hb : b < 18446744073709551616) (w : World) :
    Calls Try.prog 16 #[.int .u64 a, .int .u64 b] w fun e w' => e = .returned (prodV a b) ∧ w = w' := by
  have hr := Try.bits_Mul64 a b ha hb w
  by_cases h : a * b < 18446744073709551616
  · rw [prodV_yes h]
    rw [Nat.mod_eq_of_lt h, Nat.div_eq_of_lt h] at hr
    go_enter Try.func16, Try.ntmps16
    go_wp2_with fail
    refine hr.mono ?_
    rintro e w' ⟨rfl, rfl⟩
    go_wp2
    go_ret2
    exact ⟨rfl, rfl⟩
  · rw [prodV_no h]
    have hne : ((((a * b / 18446744073709551616 : Nat) : Int) != 0)) = true := by
      have := Nat.div_pos (Nat.not_lt.1 h) (by omega)
      simp
      omega
    generalize a * b / 18446744073709551616 = x at *
    generalize a * b % 18446744073709551616 = y at *
    go_enter Try.func16, Try.ntmps16
    go_wp2_with fail
    refine hr.mono ?_
    rintro e w' ⟨rfl, rfl⟩
    go_wp2
    go_ret2
    exact ⟨rfl, rfl⟩

theorem within_any (a b c : Nat) (ha : a < 18446744073709551616) (hb : b < 18446744073709551616) (hc : c < 18446744073709551616) (w : World) :
    Calls Try.prog 18 #[.int .u64 a, .int .u64 b, .int .u64 c] w fun e w' => e = .returned (.bool (withinB a b c)) ∧ w = w' := by
  have hs := add_any a b ha hb w
  by_cases h : a + b < 18446744073709551616
  · rw [sumV_yes h] at hs
    go_enter Try.func18, Try.ntmps18
    go_wp2_with fail
    refine hs.mono ?_
    rintro e w' ⟨rfl, rfl⟩
    go_wp2
    go_ret
    exact ⟨ret_bool (by simp [withinB]; omega), rfl⟩
  · rw [sumV_no h] at hs
    have e : withinB a b c = false := by simp [withinB]; omega
    rw [e]
    clear e
    go_enter Try.func18, Try.ntmps18
    go_wp2_with fail
    refine hs.mono ?_
    rintro e w' ⟨rfl, rfl⟩
    go_wp2
    go_ret
    exact ⟨rfl, rfl⟩
end Go.Proofs.Ytlgjkdfpcmkjoaa
