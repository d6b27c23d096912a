/- Free, and what it asks: a range's end, its pages' numbers, how many pages there are. No condition. -/
import Derived.Test.YtiolcpnhabipaaaLay2
import Derived.Test.YtiolcpnhabipaaaRet
import Derived.Maps.RangeWalk
import Derived.BigGuard
namespace Go.Proofs.Ytiolcpnhabipaaa
open Go.RowKit Go.Maps Go.ChangeMaps
variable {w w' W : World} {F : Nat → Prop} {σ : Spc}

def belowB (a s : Nat) : Bool := decide (s ≤ 140737488355328) && decide (a ≤ 140737488355328 - s)
theorem belowB_iff {a s : Nat} : belowB a s = true ↔ a + s ≤ 140737488355328 := by unfold belowB; simp; omega
theorem isBelow_any (a s : Nat) (w : World) : Calls Try.prog 41 #[.int .u64 a, .int .u64 s] w fun e w' => e = .returned (.bool (belowB a s)) ∧ w = w' := by
  by_cases h1 : s ≤ 140737488355328
  · have hd : decide ((s : Int) ≤ 140737488355328) = true := by simp; omega
    have hw : IntKind.u64.wrap (140737488355328 - (s : Int)) = 140737488355328 - (s : Int) := IntWalk.u64_in _ (by omega)
    by_cases h2 : a ≤ 140737488355328 - s
    · have h2' : (a : Int) ≤ 140737488355328 - s := by omega
      have hb := Lib.hid (show belowB a s = true from belowB_iff.2 (by omega))
      go_enter Try.func41, Try.ntmps41
      go_wp2
      go_ret
      exact ⟨ret_bool (by rw [hb.out]), rfl⟩
    · have h2' : ¬ (a : Int) ≤ 140737488355328 - s := by omega
      have hb := Lib.hid (show belowB a s = false from by cases e : belowB a s; rfl; have := belowB_iff.1 e; omega)
      go_enter Try.func41, Try.ntmps41
      go_wp2
      go_ret
      exact ⟨ret_bool (by rw [hb.out]), rfl⟩
  · have hb := Lib.hid (show belowB a s = false from by cases e : belowB a s; rfl; have := belowB_iff.1 e; omega)
    have hd : decide ((s : Int) ≤ 140737488355328) = false := by simp; omega
    go_enter Try.func41, Try.ntmps41
    go_wp2
    go_ret
    exact ⟨ret_bool (by rw [hb.out]), rfl⟩

theorem numbers_any (a s : Nat) (hs : 1 ≤ s) (hb : a + s ≤ 140737488355328) (w : World) : Calls Try.prog 42 #[.int .u64 a, .int .u64 s] w fun e w' => e = .returned (.tuple #[.int .u64 ((a / 4096 : Nat) : Int), .int .u64 (((a + s - 1) / 4096 : Nat) : Int)]) ∧ w = w' := by
  go_enter Try.func42, Try.ntmps42
  go_wp2
  go_ret2
  have e1 : ((a / 4096 : Nat) : Int) = (a : Int) / 4096 := by omega
  have e2 : (((a + s - 1) / 4096 : Nat) : Int) = ((a : Int) + s - 1) / 4096 := by omega
  exact ⟨by rw [e1, e2]; rfl, rfl⟩

theorem pages_any {a : Nat} (h : SpcAt w F a σ) : Calls Try.prog 11 #[.pointer (some ⟨a, 0, none⟩)] w fun e w' => e = .returned (.int .i64 σ.K) ∧ w = w' := by
  obtain ⟨_, _, mp, mq, hb, hm⟩ := h
  have c0 : w.cell? ⟨a, 0, none⟩ = some mp := by rw [cell_of hb]; rfl
  have hl := fun ty => hm.len ty
  go_enter Try.func11, Try.ntmps11
  go_wp2
  go_ret
  exact ⟨rfl, rfl⟩
theorem pages_nil (w : World) : Calls Try.prog 11 #[.pointer none] w fun e w' => e = .returned (.int .i64 0) ∧ w = w' := by
  go_enter Try.func11, Try.ntmps11
  go_wp2
  go_ret
  exact ⟨rfl, rfl⟩
end Go.Proofs.Ytiolcpnhabipaaa
