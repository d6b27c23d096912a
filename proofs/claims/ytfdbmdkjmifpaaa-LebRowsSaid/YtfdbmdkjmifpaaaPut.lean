/- The shortest bytes of a number, as the document says them; and what is done for each group (the closures of layer 2's Put and PutSigned). No condition. -/
import Derived.Test.YtfdbmdkjmifpaaaClo
import Derived.Test.YtfdbmdkjmifpaaaApp
import Derived.Laws.Bits128
namespace Go.Proofs.Ytfdbmdkjmifpaaa
open Go.RowKit
variable {w : World}

def encU (n : Nat) : List Int := if n < 128 then [(n : Int)] else (((n % 128 : Nat) : Int) + 128) :: encU (n / 128)
termination_by n
decreasing_by omega
def encS (n : Int) : List Int := if -64 ≤ n ∧ n < 64 then [n % 128] else (n % 128 + 128) :: encS (n / 128)
termination_by n.natAbs
decreasing_by omega
theorem encU_small {n : Nat} (h : n < 128) : encU n = [(n : Int)] := by rw [encU, if_pos h]
theorem encU_big {n : Nat} (h : ¬ n < 128) : encU n = (((n % 128 : Nat) : Int) + 128) :: encU (n / 128) := by rw [encU, if_neg h]
theorem encS_small {n : Int} (h : -64 ≤ n ∧ n < 64) : encS n = [n % 128] := by rw [encS, if_pos h]
theorem encS_big {n : Int} (h : ¬ (-64 ≤ n ∧ n < 64)) : encS n = (n % 128 + 128) :: encS (n / 128) := by rw [encS, if_neg h]

theorem putclo_any (bn m : Nat) (hb : w.heap[bn]? = some (.cells #[.int .u64 m] 27 (0, 0))) :
    Calls Try.prog 30 #[.pointer (some ⟨bn, 0, none⟩)] w fun e w' =>
      e = .returned (.tuple #[.int .u8 ((m % 128 : Nat) : Int), .bool (decide (m < 128))]) ∧ w'.heap[bn]? = some (.cells #[.int .u64 ((m / 128 : Nat) : Int)] 27 (0, 0)) ∧ w.grownBy w' (some bn) := by
  have c0 : w.cell? ⟨bn, 0, none⟩ = some (.int .u64 m) := by rw [cell_of hb]; rfl
  have f0 := free_of (i := 0) hb
  have hl : decide (m < 128) = ((m : Int) / 128 == 0) := by
    by_cases h : m < 128
    · rw [decide_eq_true h, Eq.comm, beq_iff_eq]; omega
    · rw [decide_eq_false h, Eq.comm, beq_eq_false_iff_ne]; omega
  rw [show ((m / 128 : Nat) : Int) = (m : Int) / 128 by omega, show ((m % 128 : Nat) : Int) = (m : Int) % 128 by omega, hl]
  have E := Lib.hid (And.intro (block_setCell hb (.int .u64 ((m : Int) / 128))) (grown_setCell (i := 0) (grown_refl w (some bn)) (.int .u64 ((m : Int) / 128))))
  clear hl hb
  go_enter Try.func30, Try.ntmps30
  go_wp2
  go_quiet (fail)
  go_wp2
  go_ret2
  exact ⟨rfl, E.out.1, grown_drewN E.out.2 _⟩

theorem putsclo_any (bn : Nat) (m : Int) (hb : w.heap[bn]? = some (.cells #[.int .i64 m] 2 (0, 0))) :
    Calls Try.prog 31 #[.pointer (some ⟨bn, 0, none⟩)] w fun e w' =>
      e = .returned (.tuple #[.int .u8 (m % 128), .bool (decide (-64 ≤ m ∧ m < 64))]) ∧ w'.heap[bn]? = some (.cells #[.int .i64 (m / 128)] 2 (0, 0)) ∧ w.grownBy w' (some bn) := by
  have c0 : w.cell? ⟨bn, 0, none⟩ = some (.int .i64 m) := by rw [cell_of hb]; rfl
  have f0 := free_of (i := 0) hb
  have h127 := i64_and127 m
  have E := Lib.hid (And.intro (block_setCell hb (.int .i64 (m / 128))) (grown_setCell (i := 0) (grown_refl w (some bn)) (.int .i64 (m / 128))))
  clear hb
  by_cases hlo : m % 128 < 64
  · have hd : decide (64 ≤ m % 128) = false := by simp; omega
    by_cases hz : m / 128 = 0
    · have hl : decide (-64 ≤ m ∧ m < 64) = true := by simp; omega
      rw [hl]
      have hz' : (m / 128 == 0) = true := by simpa using hz
      have Z := Lib.hid hz
      clear hl hz
      go_enter Try.func31, Try.ntmps31
      go_wp2
      go_quiet (fail)
      go_wp2
      go_ret2
      exact ⟨rfl, E.out.1, grown_drewN E.out.2 _⟩
    · have hl : decide (-64 ≤ m ∧ m < 64) = false := by simp; omega
      rw [hl]
      have hz' : (m / 128 == 0) = false := by simpa using hz
      clear hl hz
      go_enter Try.func31, Try.ntmps31
      go_wp2
      go_quiet (fail)
      go_wp2
      go_ret2
      exact ⟨rfl, E.out.1, grown_drewN E.out.2 _⟩
  · have hd : decide (m % 128 < 64) = false := by simp; omega
    by_cases hz : m / 128 = -1
    · have hl : decide (-64 ≤ m ∧ m < 64) = true := by simp; omega
      rw [hl]
      have hz' : (m / 128 == -1) = true := by simpa using hz
      have Z := Lib.hid hz
      clear hl hz
      go_enter Try.func31, Try.ntmps31
      go_wp2
      go_quiet (fail)
      go_wp2
      go_ret2
      exact ⟨rfl, E.out.1, grown_drewN E.out.2 _⟩
    · have hl : decide (-64 ≤ m ∧ m < 64) = false := by simp; omega
      rw [hl]
      have hz' : (m / 128 == -1) = false := by simpa using hz
      clear hl hz
      go_enter Try.func31, Try.ntmps31
      go_wp2
      go_quiet (fail)
      go_wp2
      go_ret2
      exact ⟨rfl, E.out.1, grown_drewN E.out.2 _⟩
end Go.Proofs.Ytfdbmdkjmifpaaa
