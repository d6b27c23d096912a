/- The document's 'less', its Value, and the program's. No condition. -/
import Derived.Test.YtmffpnhdnaokhaaDoorFxC
import Derived.Test.YtmffpnhdnaokhaaDoorFxS
namespace Go.Proofs.YtmffpnhdnaokhaaDoor
open Go.RowKit
variable {w w' W V : World}

set_option maxRecDepth 20000 in
set_option maxHeartbeats 1600000 in
theorem less_any (a b : Fx) (w : World) : Calls Tryd.prog 10 #[fxV a, fxV b] w fun e w' => e = .returned (.bool (fxLess a b)) ∧ w.grownBy w' none := by
  obtain ⟨W, hW, ha, hb, hg⟩ := two_new w a b
  obtain ⟨a0, a1, a2, a3, a4, a5, a6⟩ := ha.c
  obtain ⟨b0, b1, b2, b3, b4, b5, b6⟩ := hb.c
  obtain ⟨r, hr⟩ : ∃ r, r = fxLess a b := ⟨_, rfl⟩
  rw [← hr]
  have HR := Lib.hid hr
  clear ha hb hr
  have G := Lib.hid hg
  clear hg
  unfold fxLess at HR
  obtain ⟨p0, p1, p2, p3, p4, p5, p6⟩ := a
  obtain ⟨q0, q1, q2, q3, q4, q5, q6⟩ := b
  simp only [fxV, fxArr] at HR a0 a1 a2 a3 a4 a5 a6 b0 b1 b2 b3 b4 b5 b6 hW ⊢
  by_cases h0 : p0 = q0
  rotate_left
  · have n0 : decide (p0 = q0) = false := decide_eq_false h0
    go_enter Tryd.func10, Tryd.ntmps10
    go_upto_region 1 with fail
    clear hW
    go_wp2
    go_ret
    exact ⟨by rw [HR.out, if_pos h0]; rfl, G.out⟩
  subst h0
  by_cases h1 : p1 = q1
  rotate_left
  · have n1 : decide (p1 = q1) = false := decide_eq_false h1
    go_enter Tryd.func10, Tryd.ntmps10
    go_upto_region 1 with fail
    clear hW
    go_wp2
    go_ret
    exact ⟨by rw [HR.out, if_neg (by simp), if_pos h1]; rfl, G.out⟩
  subst h1
  by_cases h2 : p2 = q2
  rotate_left
  · have n2 : decide (p2 = q2) = false := decide_eq_false h2
    go_enter Tryd.func10, Tryd.ntmps10
    go_upto_region 1 with fail
    clear hW
    go_wp2
    go_ret
    exact ⟨by rw [HR.out, if_neg (by simp), if_neg (by simp), if_pos h2]; rfl, G.out⟩
  subst h2
  by_cases h3 : p3 = q3
  rotate_left
  · have n3 : decide (p3 = q3) = false := decide_eq_false h3
    go_enter Tryd.func10, Tryd.ntmps10
    go_upto_region 1 with fail
    clear hW
    go_wp2
    go_ret
    exact ⟨by rw [HR.out, if_neg (by simp), if_neg (by simp), if_neg (by simp), if_pos h3]; rfl, G.out⟩
  subst h3
  by_cases h4 : p4 = q4
  rotate_left
  · have n4 : (p4.toList == q4.toList) = false := beq_eq_false_iff_ne.2 fun e => h4 (sym_ext e)
    go_enter Tryd.func10, Tryd.ntmps10
    go_upto_region 1 with fail
    clear hW
    go_wp2
    go_ret
    exact ⟨by rw [HR.out, if_neg (by simp), if_neg (by simp), if_neg (by simp), if_neg (by simp), if_pos h4]; rfl, G.out⟩
  subst h4
  by_cases h5 : p5 = q5
  rotate_left
  · have n5 : decide (p5 = q5) = false := decide_eq_false h5
    go_enter Tryd.func10, Tryd.ntmps10
    go_upto_region 1 with fail
    clear hW
    go_wp2
    go_ret
    exact ⟨by rw [HR.out, if_neg (by simp), if_neg (by simp), if_neg (by simp), if_neg (by simp), if_neg (by simp), if_pos h5]; rfl, G.out⟩
  subst h5
  have n4 : (p4.toList == p4.toList) = true := beq_self_eq_true _
  cases p6 <;> cases q6 <;>
  · go_enter Tryd.func10, Tryd.ntmps10
    go_upto_region 1 with fail
    clear hW
    go_wp2
    go_ret
    exact ⟨by rw [HR.out, if_neg (by simp), if_neg (by simp), if_neg (by simp), if_neg (by simp), if_neg (by simp), if_neg (by simp)]; rfl, G.out⟩
end Go.Proofs.YtmffpnhdnaokhaaDoor
