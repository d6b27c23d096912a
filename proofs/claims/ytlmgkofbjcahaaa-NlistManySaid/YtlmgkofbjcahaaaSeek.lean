/- The call that sets where a cursor stands. No condition but that there is such a cursor in memory. -/
import Derived.Test.YtlmgkofbjcahaaaOps
namespace Go.Proofs.Ytlmgkofbjcahaaa
open Go.RowKit
variable {w : World} {base a : Nat} {q : Option Addr} {c : Nat} {xs : List Int} {p : Nat} {big bad : Bool}

/-- A place that is within the bytes. -/
theorem seek_ok (h : Cur w base a q c xs p big false) (n : Nat) (hn : n ≤ xs.length) :
    Calls Try.prog 40 #[.pointer (some ⟨a, 0, none⟩), .int .i64 n] w fun e w' => e = .returned (.tuple #[]) ∧ Cur w' base a q c xs n big false ∧ w.grownBy w' (some a) := by
  have h0 := h.c0
  have h1 := h.c1
  have h3 := h.c3
  have f1 := h.f1
  have hbig := h.big
  have F := Lib.hid (h.setAt hn)
  have G := Lib.hid (grown_setCell (i := 1) (grown_refl w (some a)) (.int .i64 (n : Int)))
  have d1 : decide ((n : Int) < 0) = false := by simp
  have d2 : decide (xs.length < n) = false := by simp; omega
  go_enter Try.func40, Try.ntmps40
  go_wp2
  go_end0
  exact ⟨rfl, F.out, G.out⟩
/-- One that has failed stays where it is. -/
theorem seek_bad (h : Cur w base a q c xs p big true) (n : Int) :
    Calls Try.prog 40 #[.pointer (some ⟨a, 0, none⟩), .int .i64 n] w fun e w' => e = .returned (.tuple #[]) ∧ w = w' := by
  have h3 := h.c3
  go_enter Try.func40, Try.ntmps40
  go_wp2
  refine bodyPost_ret (results_none rfl _ _ _) rfl ?_
  exact ⟨rfl, rfl⟩
end Go.Proofs.Ytlmgkofbjcahaaa
