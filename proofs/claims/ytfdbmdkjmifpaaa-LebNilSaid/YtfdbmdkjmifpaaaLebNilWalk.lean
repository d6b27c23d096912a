/- The walk of LebNil: of a cursor that is not there, and of one without bytes, nothing is taken. -/
import Derived.Test.YtfdbmdkjmifpaaaKnown2
namespace Go.Proofs.Ytfdbmdkjmifpaaa.lebNil
open Go.RowKit

theorem walk (w : World) : Calls Try.prog 8 #[] w fun e w' => e = .returned (.bool true) ∧ Below w.heap.size w w' := by
  have K := Lib.hid known_any
  go_enter Try.func8, Try.ntmps8
  go_wp2_with fail
  refine (pen_new (w := w) (ys := []) (c := 0) IsBytes.nil rfl (by decide) (by simp) false).mono ?_
  rintro e w1 ⟨a, rfl, p1, b1⟩
  go_wp2_with fail
  refine (uleb_nil w1).mono ?_
  rintro e w2 ⟨rfl, g2⟩
  have p2 := p1.same g2
  have B2 := Lib.hid (b1.trans (p1.frame0 (Nat.le_refl _) g2))
  clear g2 p1 b1
  go_wp2_with fail
  refine (sleb_nil w2).mono ?_
  rintro e w3 ⟨rfl, g3⟩
  have p3 := p2.same g3
  have B3 := Lib.hid (B2.out.trans (p2.frame0 (Nat.le_refl _) g3))
  clear g3 p2
  go_wp2_with fail
  refine (pen_uleb p3 (v := 0) (n := 0) (by decide +kernel)).mono ?_
  rintro e w4 ⟨rfl, p4, g4⟩
  have B4 := Lib.hid (B3.out.trans (p3.frame (Nat.le_refl _) g4))
  clear g4 p3
  go_wp2_with fail
  refine (pen_err3 p4 rfl).mono ?_
  rintro e w' ⟨rfl, rfl⟩
  go_wp2_with fail
  refine (pen_sleb_bad p4 rfl).mono ?_
  rintro e w5 ⟨rfl, p5, g5⟩
  have B5 := Lib.hid (B4.out.trans (p4.frame0 (Nat.le_refl _) g5))
  clear g5 p4
  go_wp2_with fail
  refine (K.out w5).mono ?_
  rintro e w6 ⟨rfl, b6⟩
  go_wp2
  go_ret
  exact ⟨rfl, B5.out.trans (b6.mono B5.out.size)⟩
end Go.Proofs.Ytfdbmdkjmifpaaa.lebNil
