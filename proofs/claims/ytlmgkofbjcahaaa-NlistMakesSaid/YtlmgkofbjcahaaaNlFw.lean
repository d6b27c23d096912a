/- Are there few symbols, of short names: clevislaw10.few. Conditions: they lie in memory. -/
import Derived.Test.YtlmgkofbjcahaaaNlM
import Derived.Laws.StructEq
namespace Go.Proofs.Ytlmgkofbjcahaaa
open Go.RowKit
variable {w w' : World} {D : Syms}
def fewB (D : Syms) (m : Nat) : Bool := (D.all fun y => decide (y.1.length ≤ 400)) && decide (D.length ≤ m)
set_option maxRecDepth 20000 in
set_option maxHeartbeats 1600000 in
theorem few10_any {q : Option Addr} {n c m : Nat} (hn : D.length = n) (hD : SysAt w q D) (hbig : n ≤ 9223372036854775807) :
    Calls Try.prog 13 #[.slice q n c, .int .i64 m] w fun e w' => e = .returned (.bool (fewB D m)) ∧ w' = w := by
  have HD := Lib.hid hD
  have HN := Lib.hid hn
  clear hD hn
  go_enter Try.func13, Try.ntmps13
  go_wp2
  go_loop [5] (fun vi => ∃ k : Nat, k ≤ n ∧ vi = .int .i64 (k : Int) ∧ Hid (∀ (i : Nat) (y : Sym), i < k → D[i]? = some y → y.1.length ≤ 400)) (fun vi => n - (intOf vi).toNat)
  case atStart => exact ⟨0, Nat.zero_le _, rfl, Lib.hid (fun i y h => by omega)⟩
  case round =>
    obtain ⟨k, hk, rfl, NO⟩ := hrel
    by_cases hlt : k < n
    · obtain ⟨y, hy⟩ : ∃ y, D[k]? = some y := ⟨_, List.getElem?_eq_getElem (by rw [HN.out]; exact hlt)⟩
      obtain ⟨gq, oq, rfl, a0, a1, a2, a3⟩ := HD.out.at hy
      have hst : (strOfNums y.1).size = y.1.length := strOfNums_size _
      have dl : decide ((k : Int) < (n : Int)) = true := by simp; omega
      have dl2 : decide (k < n) = true := decide_eq_true hlt
      have hkI : (k : Int) < (n : Int) := by omega
      have HYY := Lib.hid hy
      clear hy a1 a2 a3
      by_cases h4 : 400 < y.1.length
      · have d4 : decide ((400 : Int) < (y.1.length : Int)) = true := by simp; omega
        have FF := Lib.hid (show fewB D m = false by
          unfold fewB
          rw [Bool.and_eq_false_iff]
          left
          rw [List.all_eq_false]
          exact ⟨y, List.mem_of_getElem? HYY.out, by simp; omega⟩)
        clear h4
        go_wp2
        go_ret
        rw [FF.out]
        exact ⟨rfl, rfl⟩
      · have d4 : decide ((400 : Int) < (y.1.length : Int)) = false := by simp; omega
        have N2 := Lib.hid (show ∀ (i : Nat) (z : Sym), i < k + 1 → D[i]? = some z → z.1.length ≤ 400 from fun i z hi hz => by
          rcases Nat.lt_or_ge i k with h | h
          · exact NO.out i z h hz
          · obtain rfl : i = k := by omega
            rw [HYY.out] at hz
            injection hz with hz
            rw [← hz]; omega)
        clear h4
        go_wp2
        go_round
        case rel => exact ⟨k + 1, hlt, by go_num, N2⟩
        case measure => simp [intOf]; omega
    · have hkn : n = k := by omega
      subst hkn
      have dl : decide ((n : Int) < (n : Int)) = false := by simp
      have FF := Lib.hid (show fewB D m = decide (n ≤ m) by
        unfold fewB
        rw [HN.out, show (D.all fun y => decide (y.1.length ≤ 400)) = true from by
          rw [List.all_eq_true]
          intro y hy
          obtain ⟨i, hi, rfl⟩ := List.getElem_of_mem hy
          exact decide_eq_true (NO.out i _ (by rw [← HN.out]; exact hi) (List.getElem?_eq_getElem hi)), Bool.true_and])
      clear hlt
      go_wp2
      go_ret
      rw [FF.out]
      exact ⟨ret_bool (decide_eq_decide.2 (by omega)), rfl⟩
end Go.Proofs.Ytlmgkofbjcahaaa
