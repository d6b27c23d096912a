/- errors.Is of a Wrong and of the Errno that it wraps: yes; of no error: no; and the cursor's own Wrong. No condition but that the cursor is there. -/
import Derived.Test.YthdppaooemdmaaaPenC
import Derived.Test.YthdppaooemdmaaaGrow
import Derived.Stop.Asserts
namespace Go.Proofs.Ythdppaooemdmaaa
open Go.RowKit Go.Extern.Stop Go.Stop Go.Extern
variable {w w' : World}

theorem un_wrong (v : Value) (w : World) : (Instr.typeAssert (.iface 156 v) 114 165 true).run Try.prog w = .ok (.tuple #[.iface 156 v, .bool true]) w :=
  run_typeAssert_hasB Try.underlying165 (by kernel_rfl) v _ w
theorem me_wrong (a : Addr) (w : World) : (method 311 156 (.pointer (some a)) "Unwrap").run Try.prog w = .ok (114, .pointer (some a)) w := by kernel_rfl
theorem tyE (v : Value) (w : World) : (ReflectliteType.typeOf #[.iface 29 v]).run Try.prog w = .ok (.iface 160 (.agg #[.pointer (some ⟨1, 29, none⟩)])) w := by kernel_rfl
theorem mCmp (h : Value) (w : World) : (Go.method 311 160 (.agg #[h]) "Comparable").run Try.prog w = .ok (118, .agg #[h]) w := by kernel_rfl
theorem lkI_wrong (v : Value) (w : World) : (Instr.typeAssert (.iface 156 v) 114 162 true).run Try.prog w = .ok (.tuple #[.nilIface, .bool false]) w :=
  run_typeAssert_lacksB Try.underlying162 (by kernel_rfl) (by kernel_rfl) v _ w
theorem eq_we (v u : Value) (w : World) : (binOp .eql 114 (.iface 156 v) (.iface 29 u)).run Try.prog w = .ok (.bool false) w :=
  run_eql_iface_types _ _ v u Try.underlying114 (by decide) w
theorem compE : (Try.prog.info? 29).map (·.comparable) = some true := by kernel_rfl
theorem eq_ee (e : Int) (w : World) : (binOp .eql 114 (.iface 29 (.int .i64 e)) (.iface 29 (.int .i64 e))).run Try.prog w = .ok (.bool true) w := by
  obtain ⟨i, hi, hc⟩ := Option.map_eq_some_iff.1 compE
  have h : ∀ d : Nat, (Op.equalIn (d + 2) 114 (.iface 29 (.int .i64 e)) (.iface 29 (.int .i64 e))).run Try.prog w = .ok true w := fun d => by
    simp [Op.equalIn, run_underlying Try.underlying114, run_underlying Try.underlying29, typeInfo, hi, hc]
  simp only [binOp]
  simp [Op.equal, Op.maxDepth, h 9998]
set_option maxHeartbeats 4000000 in
theorem is_in (b : Nat) (e : Int) (w : World) (hc : w.cell? ⟨b, 1, none⟩ = some (.int .i64 e)) :
    Calls Try.prog 73 #[.iface 156 (.pointer (some ⟨b, 0, none⟩)), .iface 29 (.int .i64 e), .bool true] w fun r w' => r = .returned (.bool true) ∧ w = w' := by
  have f3 := lkI_wrong (.pointer (some ⟨b, 0, none⟩))
  have f4 := un_wrong (.pointer (some ⟨b, 0, none⟩))
  have f5 := me_wrong ⟨b, 0, none⟩
  have f6 := eq_we (.pointer (some ⟨b, 0, none⟩)) (.int .i64 e)
  have f7 := eq_ee e
  go_enter Try.func73, Try.ntmps73
  go_wp2
  refine wp_loop_rounds 2 ?_
  rw [rounds_succ]
  go_wp2
  rw [rounds_succ]
  go_wp2
  go_ret
  exact ⟨rfl, rfl⟩
theorem cE (w : World) : (ReflectliteType.method (fun t => do Rtype.noPackHeld "Comparable" t; (fun a : TypeInfo => Value.bool a.comparable) <$> typeInfo t) #[.agg #[.pointer (some ⟨1, 29, none⟩)]]).run Try.prog w = .ok (.bool true) w := by kernel_rfl
set_option maxHeartbeats 4000000 in
set_option maxRecDepth 20000 in
theorem is_wrong (b : Nat) (e : Int) (w : World) (hc : w.cell? ⟨b, 1, none⟩ = some (.int .i64 e)) :
    Calls Try.prog 51 #[.iface 156 (.pointer (some ⟨b, 0, none⟩)), .iface 29 (.int .i64 e)] w fun r w' => r = .returned (.bool true) ∧ w = w' := by
  have hT := @run_callFunc_extern Try.prog 72 _ ReflectliteType.typeOf Try.func72 (by kernel_rfl) (by kernel_rfl) (by kernel_rfl) (by kernel_rfl)
  have hC := @run_callFunc_extern Try.prog 118 _ (ReflectliteType.method (fun t => do Rtype.noPackHeld "Comparable" t; pure (.bool (← typeInfo t).comparable))) Try.func118 (by kernel_rfl) (by kernel_rfl) (by kernel_rfl) (by kernel_rfl)
  have f1 := tyE
  have f2 := mCmp
  have f3 := cE
  have I := Lib.hid (is_in b e w hc)
  clear hc
  go_enter Try.func51, Try.ntmps51
  go_wp2_with fail
  refine I.out.mono ?_
  rintro r w' ⟨rfl, rfl⟩
  go_wp2
  go_ret
  exact ⟨rfl, rfl⟩

theorem eq_nn (w : World) : (binOp .eql 114 .nilIface .nilIface).run Try.prog w = .ok (.bool true) w := by kernel_rfl
theorem eq_ne (v : Value) (w : World) : (binOp .eql 114 .nilIface (.iface 29 v)).run Try.prog w = .ok (.bool false) w := by kernel_rfl
theorem is_nil (e : Int) (w : World) : Calls Try.prog 51 #[.nilIface, .iface 29 (.int .i64 e)] w fun r w' => r = .returned (.bool false) ∧ w = w' := by
  have f1 := eq_nn
  have f2 := eq_ne (.int .i64 e)
  go_enter Try.func51, Try.ntmps51
  go_wp2
  go_ret
  exact ⟨rfl, rfl⟩
section
variable {lo hi a : Nat} {xs : List Int} {p : Nat} {big : Bool}
theorem wrong_no (h : Pen w lo hi a xs p big false) :
    Calls Try.prog 69 #[.pointer (some ⟨a, 0, none⟩)] w fun e w' => e = .returned .nilIface ∧ w = w' := by
  have E := Lib.hid (pen_err h)
  clear h
  go_enter Try.func69, Try.ntmps69
  go_wp2_with fail
  refine E.out.mono ?_
  rintro e w1 ⟨rfl, rfl⟩
  go_wp2
  go_ret
  exact ⟨rfl, rfl⟩
theorem wrong_yes (h : Pen w lo hi a xs p big true) :
    Calls Try.prog 69 #[.pointer (some ⟨a, 0, none⟩)] w fun e w' => ∃ b, e = .returned (.iface 156 (.pointer (some ⟨b, 0, none⟩))) ∧ w'.cell? ⟨b, 1, none⟩ = some (.int .i64 3) ∧ w.grownBy w' none := by
  have E := Lib.hid (pen_err h)
  have T := Lib.hid (pen_at h)
  clear h
  go_enter Try.func69, Try.ntmps69
  go_wp2_with fail
  refine E.out.mono ?_
  rintro e w1 ⟨rfl, rfl⟩
  go_wp2_with fail
  refine T.out.mono ?_
  rintro e w1 ⟨rfl, rfl⟩
  go_wp2
  go_ret
  exact ⟨_, rfl, by rw [cell_of (heap_alloc_new w _)]; rfl, grown1 _ _⟩
end
end Go.Proofs.Ythdppaooemdmaaa
