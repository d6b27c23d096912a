import Derived.Test.YtdagnkdonlfobaaGreatM20
import Derived.Test.YtdagnkdonlfobaaGreatM27
import Derived.ProofKit
import Derived.OpenShut
import Derived.ShutString
import Derived.ChangeOld
import Derived.Below
import Derived.ChangeSame
import Derived.Lib.SmallJoins
/- The walk of LayNil: what is refused ahead of all. No condition. -/
namespace Go.Proofs.YtdagnkdonlfobaaGreat.layNil
open Go.RowKit Go.Sort
variable {w w' W : World}

theorem lay_nil (q : Option Addr) (n c sl : Nat) (w : World) : Calls Tryz.prog 12 #[.pointer none, .slice q n c, .int .u64 sl] w fun e w' => e = .returned (.int .i64 1) ∧ w = w' := by
  have MA := Lib.hid (fun V => mayAsk_any none sl V)
  rw [show askErr none sl = 1 from rfl] at MA
  go_enter Tryz.func12, Tryz.ntmps12
  go_wp2_with fail
  refine (MA.out _).mono ?_
  rintro e w1 ⟨rfl, rfl⟩
  go_wp2
  go_ret
  exact ⟨rfl, rfl⟩
set_option maxRecDepth 20000 in
theorem fits_nil (sl : Nat) (w : World) : Calls Tryz.prog 10 #[.pointer none, .agg #[.int .i64 0, .int .i64 0, .int .u32 0, .string ⟨#[]⟩, .slice none 0 0, .slice none 0 0, .int .u64 0, .int .u64 0, .int .u64 0, .int .u64 0, .int .u64 0, .int .u64 0, .int .u64 0, .int .u64 0, .int .u64 0, .int .u64 0, .int .u64 0, .int .u64 0, .int .u64 0, .int .u64 0, .int .u64 0, .int .u64 0, .int .u64 0, .bool false], .int .u64 sl] w fun e w' => e = .returned (.int .i64 1) ∧ w.grownBy w' none := by
  have MA := Lib.hid (fun V => mayAsk_any none sl V)
  rw [show askErr none sl = 1 from rfl] at MA
  have G := Lib.hid (grown1 w (.cells #[.int .i64 0, .int .i64 0, .int .u32 0, .string ⟨#[]⟩, .slice none 0 0, .slice none 0 0, .int .u64 0, .int .u64 0, .int .u64 0, .int .u64 0, .int .u64 0, .int .u64 0, .int .u64 0, .int .u64 0, .int .u64 0, .int .u64 0, .int .u64 0, .int .u64 0, .int .u64 0, .int .u64 0, .int .u64 0, .int .u64 0, .int .u64 0, .bool false] 41))
  go_enter Tryz.func10, Tryz.ntmps10
  go_upto_region 1 with fail
  generalize w.alloc (.cells #[.int .i64 0, .int .i64 0, .int .u32 0, .string ⟨#[]⟩, .slice none 0 0, .slice none 0 0, .int .u64 0, .int .u64 0, .int .u64 0, .int .u64 0, .int .u64 0, .int .u64 0, .int .u64 0, .int .u64 0, .int .u64 0, .int .u64 0, .int .u64 0, .int .u64 0, .int .u64 0, .int .u64 0, .int .u64 0, .int .u64 0, .int .u64 0, .bool false] 41) = W at *
  go_wp2_with fail
  go_step3
  go_wp2_with fail
  refine (MA.out _).mono ?_
  rintro e w1 ⟨rfl, rfl⟩
  go_wp2
  rw [Exit.noGoto_ret]
  go_ret
  exact ⟨rfl, G.out⟩
def zIm : Im := ⟨Hx.zero, St.zero, [], none, 0, none, 0, 0⟩
theorem z_at {b : Nat} (h : w.heap[b]? = some (.cells #[.int .i64 0, .int .i64 0, .int .u32 0, .string ⟨#[]⟩, .slice none 0 0, .slice none 0 0, .int .u64 0, .int .u64 0, .int .u64 0, .int .u64 0, .int .u64 0, .int .u64 0, .int .u64 0, .int .u64 0, .int .u64 0, .int .u64 0, .int .u64 0, .int .u64 0, .int .u64 0, .int .u64 0, .int .u64 0, .int .u64 0, .int .u64 0, .bool false] 41 (0, 0))) : ∀ i x, [zIm][i]? = some x → ImAt w b (i * 24) x := by
  intro i x hx
  match i, hx with
  | 0, hx =>
    injection hx with hx; subst hx
    refine ⟨fun j v hv => ?_, ⟨rfl, fun i x hx => (by simp [zIm] at hx), fun x hx => (by simp [zIm] at hx), Nat.zero_le _, fun x hx => (by simp [zIm] at hx), Nat.le_refl _⟩, ⟨by decide, by decide⟩, ⟨by decide, by decide⟩⟩
    have hj : j < 24 := (Array.getElem?_eq_some_iff.1 hv).1
    rw [Nat.zero_mul, Nat.zero_add, cell_of h]
    match j, hj with
    | 0, _ => exact hv
    | 1, _ => exact hv
    | 2, _ => exact hv
    | 3, _ => exact hv
    | 4, _ => exact hv
    | 5, _ => exact hv
    | 6, _ => exact hv
    | 7, _ => exact hv
    | 8, _ => exact hv
    | 9, _ => exact hv
    | 10, _ => exact hv
    | 11, _ => exact hv
    | 12, _ => exact hv
    | 13, _ => exact hv
    | 14, _ => exact hv
    | 15, _ => exact hv
    | 16, _ => exact hv
    | 17, _ => exact hv
    | 18, _ => exact hv
    | 19, _ => exact hv
    | 20, _ => exact hv
    | 21, _ => exact hv
    | 22, _ => exact hv
    | 23, _ => exact hv
  | j + 1, hx => simp at hx
theorem z_err : slErrOf (plSeq 0 [zIm] 0) zIm = 8 := rfl
theorem e_of : ofErr [] ≠ 0 := by
  have h : rdErr [] ≠ 0 := by decide +kernel
  have h1 : imgErr [] ≠ 0 := by unfold imgErr; rw [if_pos h]; exact h
  unfold ofErr
  rw [if_pos h1]; exact h1

set_option maxRecDepth 20000 in
set_option maxHeartbeats 1600000 in
theorem walk (w : World) : Calls Tryz.prog 5 #[] w fun e w' => e = .returned (.bool true) ∧ Below w.heap.size w w' := by
  have K := Lib.hid (fun V => known8_any V)
  go_enter Tryz.func5, Tryz.ntmps5
  go_wp2_with fail
  refine (slides_arg 0 none 0 0 (by decide) (.inl rfl) w).mono ?_
  rintro e w1 ⟨rfl, rfl⟩
  go_wp2_with fail
  have g1 := grown1 w (.cells #[.int .i64 0, .int .i64 0, .int .u32 0, .string ⟨#[]⟩, .slice none 0 0, .slice none 0 0, .int .u64 0, .int .u64 0, .int .u64 0, .int .u64 0, .int .u64 0, .int .u64 0, .int .u64 0, .int .u64 0, .int .u64 0, .int .u64 0, .int .u64 0, .int .u64 0, .int .u64 0, .int .u64 0, .int .u64 0, .int .u64 0, .int .u64 0, .bool false] 41)
  obtain ⟨V1, hV1⟩ : ∃ V, w.alloc (.cells #[.int .i64 0, .int .i64 0, .int .u32 0, .string ⟨#[]⟩, .slice none 0 0, .slice none 0 0, .int .u64 0, .int .u64 0, .int .u64 0, .int .u64 0, .int .u64 0, .int .u64 0, .int .u64 0, .int .u64 0, .int .u64 0, .int .u64 0, .int .u64 0, .int .u64 0, .int .u64 0, .int .u64 0, .int .u64 0, .int .u64 0, .int .u64 0, .bool false] 41) = V := ⟨_, rfl⟩
  rw [hV1] at g1 ⊢
  have G1 := Lib.hid g1
  clear g1 hV1
  refine (slides_arg 1 _ 1 1 (by decide) (.inr (.inl (by decide))) V1).mono ?_
  rintro e w2 ⟨rfl, rfl⟩
  go_wp2_with fail
  have g2 := grown1 V1 (.cells #[.int .i64 0, .int .i64 0, .int .u32 0, .string ⟨#[]⟩, .slice none 0 0, .slice none 0 0, .int .u64 0, .int .u64 0, .int .u64 0, .int .u64 0, .int .u64 0, .int .u64 0, .int .u64 0, .int .u64 0, .int .u64 0, .int .u64 0, .int .u64 0, .int .u64 0, .int .u64 0, .int .u64 0, .int .u64 0, .int .u64 0, .int .u64 0, .bool false] 41)
  have h2 := heap_alloc_new V1 (.cells #[.int .i64 0, .int .i64 0, .int .u32 0, .string ⟨#[]⟩, .slice none 0 0, .slice none 0 0, .int .u64 0, .int .u64 0, .int .u64 0, .int .u64 0, .int .u64 0, .int .u64 0, .int .u64 0, .int .u64 0, .int .u64 0, .int .u64 0, .int .u64 0, .int .u64 0, .int .u64 0, .int .u64 0, .int .u64 0, .int .u64 0, .int .u64 0, .bool false] 41)
  obtain ⟨V2, hV2⟩ : ∃ V, V1.alloc (.cells #[.int .i64 0, .int .i64 0, .int .u32 0, .string ⟨#[]⟩, .slice none 0 0, .slice none 0 0, .int .u64 0, .int .u64 0, .int .u64 0, .int .u64 0, .int .u64 0, .int .u64 0, .int .u64 0, .int .u64 0, .int .u64 0, .int .u64 0, .int .u64 0, .int .u64 0, .int .u64 0, .int .u64 0, .int .u64 0, .int .u64 0, .int .u64 0, .bool false] 41) = V := ⟨_, rfl⟩
  rw [hV2] at g2 h2 ⊢
  have G2 := Lib.hid (grown_trans G1.out g2)
  have SL := Lib.hid (slides_any 0 V1.heap.size 1 1 [zIm] rfl (by decide) (by decide) (by decide) (by decide) ⟨by decide, by decide⟩ (by decide) (z_at h2))
  clear g2 h2 hV2
  refine SL.out.mono ?_
  rintro e w3 ⟨hbad, _, hg⟩
  obtain rfl := hbad 0 zIm rfl (fun j x hj => by omega) (by rw [z_err]; decide)
  rw [z_err]
  have G3 := Lib.hid (grown_trans G2.out hg)
  clear hbad hg SL
  go_wp2_with fail
  refine (lay_nil none 0 0 1 w3).mono ?_
  rintro e w4 ⟨rfl, rfl⟩
  go_wp2_with fail
  refine (fits_nil 0 w3).mono ?_
  rintro e w4 ⟨rfl, hg⟩
  have G4 := Lib.hid (grown_trans G3.out hg)
  clear hg
  go_wp2_with fail
  refine (spnew_any w4).mono ?_
  rintro e w5 ⟨rfl, s5, hb⟩
  have G5 := Lib.hid (grown_trans G4.out (grown_below hb none))
  have LA := Lib.hid (Lay_any (w := w5) [] none 0 0 w4.heap.size IsBytes.nil rfl (by decide) (by decide) (by decide) (fun x hx => by cases hx) 1 (by decide) s5 (fun k hk => hk.2) (fun _ x hx => by cases hx))
  clear s5 hb
  go_wp2_with fail
  refine LA.out.mono ?_
  rintro e w6 ⟨rfl, _, _, hch⟩
  rw [show layErr Spc.zero [] 1 = 2 from rfl]
  have G6 := Lib.hid (grown_chg G5.out hch (fun k hk => Nat.le_trans G4.out.size hk.1))
  clear hch LA
  go_wp2_with fail
  refine (spnew_any w6).mono ?_
  rintro e w7 ⟨rfl, s7, hb⟩
  have G7 := Lib.hid (grown_trans G6.out (grown_below hb none))
  have LA := Lib.hid (Lay_any (w := w7) [] none 0 0 w6.heap.size IsBytes.nil rfl (by decide) (by decide) (by decide) (fun x hx => by cases hx) 0 (by decide) s7 (fun k hk => hk.2) (fun _ x hx => by cases hx))
  clear s7 hb
  go_wp2_with fail
  refine LA.out.mono ?_
  rintro e w8 ⟨rfl, _, _, hch⟩
  have G8 := Lib.hid (grown_chg G7.out hch (fun k hk => Nat.le_trans G6.out.size hk.1))
  have hle : layErr Spc.zero [] 0 ≠ 0 := by
    have : layErr Spc.zero [] 0 = ofErr [] := (if_neg (by decide)).trans (if_pos e_of)
    rw [this]; exact e_of
  generalize layErr Spc.zero [] 0 = le at *
  have dle : (le == 0) = false := by simpa using hle
  have dne : (le != 0) = true := by simpa using hle
  clear hch LA
  go_wp2_with fail
  refine (K.out _).mono ?_
  rintro e w9 ⟨rfl, hg⟩
  have G9 := Lib.hid (grown_trans G8.out hg)
  clear hg
  go_wp2
  go_ret
  exact ⟨rfl, below_grown G9.out (Nat.le_refl _) (by simp)⟩
end Go.Proofs.YtdagnkdonlfobaaGreat.layNil

/- 'LayNil': for every input the call returns true, and what was handed in reads as it did. The form's own reach is the one condition. -/
namespace Go.Proofs.YtdagnkdonlfobaaGreat.layNil
open Go.ChangeShapes Go.WideShapes Go.ChangeAt Go.RowKit
open Go.ChangeMaps (open_string shut_string)

theorem own : ownKnob Tryz.prog.godebug = none := by kernel_rfl
theorem laidOut : laidOutB Tryz.prog = true := by kernel_rfl

set_option maxRecDepth 100000 in
theorem lifted (os : Os) (started : os.Started) (H : Type) (enc : TypeId × Value → H) :
    ReturnsInHanded {} Tryz.checked os 5 .any (Rows.layNilSpec.pre6 enc Tryz.prog Tryz.f5 Rows.layNilRow.domain false) (Rows.layNilSpec.post enc Tryz.prog Tryz.f5 false true false false) := by
  refine returnsInHanded_of_change (C := Tryz.checked) own started (by kernel_rfl) Tryz.func5
    (ChangeSpec.witness6 (enc := enc) (C := Tryz.checked) false ⟨#[], #[], []⟩ 8 (by kernel_rfl) (by kernel_rfl) (by kernel_rfl) (by kernel_rfl)) ?_
  intro W base args ds gs before hval0 hW hcnd _
  have hW' := hW
  obtain ⟨p, q, hA0, hV, rfl, hfz, hnd⟩ := hW
  have hA : DataW.TrodAll enc Tryz.prog W 0 (fun _ => true) true Tryz.f5.params.toList args.toList ds p := hA0
  rw [Tryz.params5] at hA
  obtain ⟨hargs, rfl, rfl⟩ := trodAll_nil hA
  obtain rfl : args = #[] := by cases args; simp_all
  obtain ⟨rfl, rfl⟩ := trodVars_none hV
  clear hA0
  refine (walk  W ).mono fun e W' ⟨he, bel⟩ => ?_
  subst he
  exact ⟨_, rfl, _, _, _, [], _, [], hW', trodAll_mk1 (shut_bool Tryz.underlying4 _), trodAll_mk0, rfl, bel.frame _, fun h => by cases h⟩

theorem proved : Rows.LayNilSaid :=
  OpenClaim.holds_of_wide 5 Tryz.f5 rfl rfl rfl rfl rfl rfl rfl ⟨rfl, rfl, rfl, rfl, rfl⟩ rfl rfl rfl rfl rfl (by kernel_rfl) Tryz.func5 (by kernel_rfl)
    (of_decide_eq_true (by kernel_rfl)) (by unfold Func.isWrapper; first | (rw [if_pos (by decide +kernel)]; kernel_rfl) | (rw [if_neg (by decide +kernel)]; exact ⟨rfl, rfl⟩))
    (fun os started H enc _ => lifted os started H enc)
end Go.Proofs.YtdagnkdonlfobaaGreat.layNil
