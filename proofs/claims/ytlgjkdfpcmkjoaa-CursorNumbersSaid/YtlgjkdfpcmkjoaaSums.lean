/- Plain sums and products of layer 1 (cursor), and the document's own: one contract for each, over the seat's translation. No condition but that the numbers are of 64 bits. -/
import Derived.Test.YtlgjkdfpcmkjoaaRows
import Derived.WalkKit
import Derived.WalkSpells
import Derived.WalkLawsBesides
import Derived.BigQuiet
import Derived.Deep.QuietTactic
import Derived.Lib.Hide
import Derived.IntWalk
import Derived.Laws.Externs
namespace Go.Proofs.Ytlgjkdfpcmkjoaa
open Go.RowKit
def sumV (a b : Nat) : Value := .tuple #[.int .u64 (if a + b < 18446744073709551616 then ((a + b : Nat) : Int) else 0), .bool (decide (a + b < 18446744073709551616))]
def prodV (a b : Nat) : Value := .tuple #[.int .u64 (if a * b < 18446744073709551616 then ((a * b : Nat) : Int) else 0), .bool (decide (a * b < 18446744073709551616))]
def withinB (a b c : Nat) : Bool := decide (a + b ≤ c)
theorem sumV_yes {a b : Nat} (h : a + b < 18446744073709551616) : sumV a b = .tuple #[.int .u64 ((a : Int) + b), .bool true] := by
  simp [sumV, h]
theorem sumV_no {a b : Nat} (h : ¬ a + b < 18446744073709551616) : sumV a b = .tuple #[.int .u64 0, .bool false] := by
  simp [sumV, h]
theorem prodV_yes {a b : Nat} (h : a * b < 18446744073709551616) : prodV a b = .tuple #[.int .u64 ((a : Int) * b), .bool true] := by
  simp [prodV, h]
theorem prodV_no {a b : Nat} (h : ¬ a * b < 18446744073709551616) : prodV a b = .tuple #[.int .u64 0, .bool false] := by
  simp [prodV, h]

theorem ret_bool {a b : Bool} (h : a = b) : Ending.returned (.bool a) = .returned (.bool b) := by rw [h]
theorem ret_int {k : IntKind} {a b : Int} (h : a = b) : Ending.returned (.int k a) = .returned (.int k b) := by rw [h]

theorem refsum_any (a b : Nat) (ha : a < 18446744073709551616) (hb : b < 18446744073709551616) (w : World) :
    Calls Try.prog 15 #[.int .u64 a, .int .u64 b] w fun e w' => e = .returned (sumV a b) ∧ w = w' := by
  by_cases h : a + b < 18446744073709551616
  · rw [sumV_yes h]
    go_enter Try.func15, Try.ntmps15
    go_wp2
    go_ret2
    exact ⟨rfl, rfl⟩
  · rw [sumV_no h]
    go_enter Try.func15, Try.ntmps15
    go_wp2
    go_ret2
    exact ⟨rfl, rfl⟩

theorem refwithin_any (a b c : Nat) (ha : a < 18446744073709551616) (hb : b < 18446744073709551616) (hc : c < 18446744073709551616) (w : World) :
    Calls Try.prog 19 #[.int .u64 a, .int .u64 b, .int .u64 c] w fun e w' => e = .returned (.bool (withinB a b c)) ∧ w = w' := by
  by_cases h1 : a ≤ c
  · go_enter Try.func19, Try.ntmps19
    go_wp2
    go_ret
    exact ⟨ret_bool (by simp [withinB]; omega), rfl⟩
  · go_enter Try.func19, Try.ntmps19
    go_wp2
    go_ret
    exact ⟨ret_bool (by simp [withinB]; omega), rfl⟩

theorem le_divI (a b : Nat) (h : 0 < a) : ((b : Int) ≤ 18446744073709551615 / (a : Int)) ↔ a * b < 18446744073709551616 := by
  rw [Int.le_ediv_iff_mul_le (by omega), Int.mul_comm, ← Int.natCast_mul]; omega

theorem ret_numbool {k : IntKind} {a b : Int} {x y : Bool} (h : a = b) (h2 : x = y) : Ending.returned (.tuple #[.int k a, .bool x]) = .returned (.tuple #[.int k b, .bool y]) := by rw [h, h2]

theorem refprod_any (a b : Nat) (ha : a < 18446744073709551616) (_hb : b < 18446744073709551616) (w : World) :
    Calls Try.prog 17 #[.int .u64 a, .int .u64 b] w fun e w' => e = .returned (prodV a b) ∧ w = w' := by
  by_cases h0 : a = 0
  · subst h0
    rw [prodV_yes (by omega)]
    go_enter Try.func17, Try.ntmps17
    go_wp2
    go_ret2
    exact ⟨ret_numbool (by simp) rfl, rfl⟩
  · have hp : 0 < a := by omega
    have hz2 : ((a : Int) != 0) = true := by simp; omega
    have hz : ((a : Int) == 0) = false := by simp; omega
    by_cases h : a * b < 18446744073709551616
    · rw [prodV_yes h]
      have hdi := (le_divI a b hp).2 h
      have hm : IntKind.u64.wrap ((a : Int) * b) = (a : Int) * b := by
        rw [IntKind.wrap_u64, ← Int.natCast_mul]; omega
      clear h
      go_enter Try.func17, Try.ntmps17
      go_wp2
      go_ret2
      exact ⟨rfl, rfl⟩
    · rw [prodV_no h]
      have hd : 18446744073709551615 / (a : Int) < (b : Int) := Int.not_le.1 fun k => h ((le_divI a b hp).1 k)
      clear h
      go_enter Try.func17, Try.ntmps17
      go_wp2
      go_ret2
      exact ⟨rfl, rfl⟩
end Go.Proofs.Ytlgjkdfpcmkjoaa
