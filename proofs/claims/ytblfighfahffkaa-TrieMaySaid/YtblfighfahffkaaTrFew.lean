/- One export, of short names: few. -/
import Derived.Test.YtblfighfahffkaaTrK
import Derived.Test.YtblfighfahffkaaTrMay
namespace Go.Proofs.Ytblfighfahffkaa
open Go.RowKit
variable {w w' W V : World} {xs : List Int}

def fewB (nm : List Int) (x : Ex) : Bool := decide (nm.length ≤ 400) && decide (x.other.length ≤ 400)
set_option maxRecDepth 20000 in
set_option maxHeartbeats 1600000 in
theorem few_one {nm : List Int} {x : Ex} {g c : Nat} (h : ExAt w g (strOfNums nm) x) :
    Calls Try.prog 14 #[.slice (some ⟨g, 0, none⟩) 1 c, .int .i64 1] w fun e w' => e = .returned (.bool (fewB nm x)) ∧ w' = w := by
  obtain ⟨c0, c1, c2, c3, c4, c5, c6⟩ := h.c
  have s0 : (strOfNums nm).size = nm.length := strOfNums_size _
  have s6 : (strOfNums x.other).size = x.other.length := strOfNums_size _
  clear h
  by_cases h4 : nm.length ≤ 400
  · have d4 : decide ((400 : Int) < (nm.length : Int)) = false := by simp; omega
    by_cases h5 : x.other.length ≤ 400
    · have d5 : decide ((400 : Int) < (x.other.length : Int)) = false := by simp; omega
      rw [show fewB nm x = true by simp [fewB, h4, h5]]
      clear h4 h5
      go_enter Try.func14, Try.ntmps14
      go_wp2_with fail
      go_loopw [5] (fun i wr => ∃ k : Nat, k ≤ 1 ∧ i = .int .i64 k ∧ wr = w) (fun i _ => 1 - (intOf i).toNat)
      case atStart => exact ⟨0, by omega, rfl, rfl⟩
      case round =>
        obtain ⟨k, hk, rfl, rfl⟩ := hrel
        by_cases hlt : k = 0
        · subst hlt
          go_wp2
          go_roundw
          case rel => exact ⟨1, by omega, by go_num, trivial⟩
          case measure => simp [intOf]
        · obtain rfl : k = 1 := by omega
          go_wp2
          go_ret
          exact ⟨rfl, rfl⟩
    · have d5 : decide ((400 : Int) < (x.other.length : Int)) = true := by simp; omega
      rw [show fewB nm x = false by simp [fewB, h4, h5]]
      clear h4
      go_enter Try.func14, Try.ntmps14
      go_wp2_with fail
      go_loopw [5] (fun i wr => i = .int .i64 0 ∧ wr = w) (fun i _ => 0)
      case atStart => exact ⟨rfl, rfl⟩
      case round =>
        obtain ⟨rfl, rfl⟩ := hrel
        go_wp2
        go_ret
        exact ⟨rfl, rfl⟩
  · have d4 : decide ((400 : Int) < (nm.length : Int)) = true := by simp; omega
    rw [show fewB nm x = false by simp [fewB, h4]]
    clear h4
    go_enter Try.func14, Try.ntmps14
    go_wp2_with fail
    go_loopw [5] (fun i wr => i = .int .i64 0 ∧ wr = w) (fun i _ => 0)
    case atStart => exact ⟨rfl, rfl⟩
    case round =>
      obtain ⟨rfl, rfl⟩ := hrel
      go_wp2
      go_ret
      exact ⟨rfl, rfl⟩
end Go.Proofs.Ytblfighfahffkaa
