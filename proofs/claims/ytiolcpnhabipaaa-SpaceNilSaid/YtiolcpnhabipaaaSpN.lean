/- What is answered of a space that is not there. No condition. -/
import Derived.Test.YtiolcpnhabipaaaSpK
import Derived.Lib.QuietBelow
namespace Go.Proofs.Ytiolcpnhabipaaa
open Go.RowKit Go.Maps Go.ChangeMaps
attribute [local go_sem] Oper.semAt_some
variable {w w' W : World} {F : Nat → Prop} {σ : Spc}

set_option maxRecDepth 20000 in
theorem setWord_nil (a : Nat) (n : Nat) (hn : n < 18446744073709551616) (w : World) : Calls Try.prog 24 #[.pointer none, .int .u64 a, .int .u64 n] w fun e w' => e = .returned (.int .i64 1) ∧ w.grownBy w' none := by
  have WR := Lib.hid (write_nil a (some ⟨w.heap.size, 0, none⟩) 8 8 (by omega) (w.alloc (.cells (wordArr n) 84)))
  have G := Lib.hid (grown1 w (.cells (wordArr n) 84))
  unfold wordArr at WR G
  go_enter Try.func24, Try.ntmps24
  go_wp2
  refine wp_loop_rounds 9 ?_
  rw [rounds_succ]
  go_wp2
  rw [rounds_succ]
  go_wp2
  rw [rounds_succ]
  go_wp2
  rw [rounds_succ]
  go_wp2
  rw [rounds_succ]
  go_wp2
  rw [rounds_succ]
  go_wp2
  rw [rounds_succ]
  go_wp2
  rw [rounds_succ]
  go_wp2
  rw [rounds_succ]
  go_wp2_with fail
  refine WR.out.mono ?_
  rintro e w1 ⟨rfl, hg⟩
  have HG := Lib.hid (grown_trans G.out hg)
  clear hg
  go_wp2
  go_ret
  exact ⟨rfl, HG.out⟩
theorem prot_nil (a : Nat) (w : World) : Calls Try.prog 25 #[.pointer none, .int .u64 a] w fun e w' => e = .returned (.int .i64 0) ∧ w = w' := by
  go_enter Try.func25, Try.ntmps25
  go_wp2
  go_ret
  exact ⟨rfl, rfl⟩
theorem copy_nil (w : World) : Calls Try.prog 16 #[.pointer none] w fun e w' => e = .returned (.pointer none) ∧ w = w' := by
  go_enter Try.func16, Try.ntmps16
  go_wp2
  go_ret
  exact ⟨rfl, rfl⟩
theorem same_nn (w : World) : Calls Try.prog 18 #[.pointer none, .pointer none] w fun e w' => e = .returned (.bool true) ∧ w = w' := by
  go_enter Try.func18, Try.ntmps18
  go_wp2
  go_ret
  exact ⟨rfl, rfl⟩
theorem spc_ptr : Try.prog.underlying 26 = some (.pointer (Try.prog.pointee 26)) := by kernel_rfl
theorem equalIn_none_some (d b : Nat) (w : World) : (Op.equalIn (d + 1) 26 (.pointer none) (.pointer (some ⟨b, 0, none⟩))).run Try.prog w = .ok false w := by
  simp [Op.equalIn, run_underlying spc_ptr]
theorem eql_none_some (b : Nat) (w : World) : (binOp .eql 26 (.pointer none) (.pointer (some ⟨b, 0, none⟩))).run Try.prog w = .ok (.bool false) w := by
  have h : (Op.equal 26 (.pointer none) (.pointer (some ⟨b, 0, none⟩))).run Try.prog w = .ok false w := equalIn_none_some 9999 b w
  simp only [binOp]
  simp [h]
set_option maxRecDepth 20000 in
theorem same_ns (b : Nat) (w : World) : Calls Try.prog 18 #[.pointer none, .pointer (some ⟨b, 0, none⟩)] w fun e w' => e = .returned (.bool false) ∧ w = w' := by
  have q := eql_none_some b w
  go_enter Try.func18, Try.ntmps18
  go_wp2
  go_ret
  exact ⟨rfl, rfl⟩
set_option maxRecDepth 20000 in
theorem same_sn (b : Nat) (w : World) : Calls Try.prog 18 #[.pointer (some ⟨b, 0, none⟩), .pointer none] w fun e w' => e = .returned (.bool false) ∧ w = w' := by
  go_enter Try.func18, Try.ntmps18
  go_wp2
  go_ret
  exact ⟨rfl, rfl⟩
set_option maxRecDepth 20000 in
theorem spfree_nil (w : World) : Calls Try.prog 26 #[.pointer none, .int .u64 0, .int .u64 4096] w fun e w' => e = .returned (.bool true) ∧ w = w' := by
  go_enter Try.func26, Try.ntmps26
  go_wp2_with fail
  refine (isBelow_any 0 4096 w).mono ?_
  rw [show belowB 0 4096 = true by decide]
  rintro e w1 ⟨rfl, rfl⟩
  go_wp2_with fail
  refine (numbers_any 0 4096 (by omega) (by omega) w).mono ?_
  rintro e w1 ⟨rfl, rfl⟩
  rw [show ((0 / 4096 : Nat) : Int) = 0 from rfl]
  go_wp2_with fail
  refine (pages_nil w).mono ?_
  rintro e w1 ⟨rfl, rfl⟩
  go_wp2_with fail
  refine (isApart_nil 0 0 w).mono ?_
  rintro e w1 ⟨rfl, rfl⟩
  go_wp2
  go_ret
  exact ⟨rfl, rfl⟩
/-- The maps of two new spaces are the same. -/
theorem equal_bare (w : World) : Calls Try.prog 38 #[.map none, .map none] w fun e w' => e = .returned (.bool true) ∧ Below w.heap.size w w' := by
  have hl := fun ty => Maps.len_nil (P := Try.prog) (w := w) Try.underlying63 ty
  have hrg := run_range_nilMap (P := Try.prog) w 63 24 3 Try.underlying63
  have hnx : ∀ ty, (Instr.next (.pointer (some ⟨w.heap.size, 0, none⟩)) false ty).run Try.prog (w.alloc (.mapIter none 0 #[] 0)) = _ := fun ty => run_next_nilMap w ty 0 0 #[]
  go_enter Try.func38, Try.ntmps38
  go_wp2
  refine wp_loop_rounds 1 ?_
  rw [rounds_succ]
  go_wp2
  go_ret
  exact ⟨rfl, (Below.refl _ _).alloc (Nat.le_refl _) _⟩
theorem equalFunc_bare (f : Value) (w : World) : Calls Try.prog 39 #[.map none, .map none, f] w fun e w' => e = .returned (.bool true) ∧ Below w.heap.size w w' := by
  have hl := fun ty => Maps.len_nil (P := Try.prog) (w := w) Try.underlying62 ty
  have hrg := run_range_nilMap (P := Try.prog) w 62 24 73 Try.underlying62
  have hnx : ∀ ty, (Instr.next (.pointer (some ⟨w.heap.size, 0, none⟩)) false ty).run Try.prog (w.alloc (.mapIter none 0 #[] 0)) = _ := fun ty => run_next_nilMap w ty 0 0 #[]
  go_enter Try.func39, Try.ntmps39
  go_wp2
  refine wp_loop_rounds 1 ?_
  rw [rounds_succ]
  go_wp2
  go_ret
  exact ⟨rfl, (Below.refl _ _).alloc (Nat.le_refl _) _⟩

set_option maxRecDepth 20000 in
theorem same_bare {a b : Nat} (ha : w.heap[a]? = some (.cells #[.map none, .map none] 65 (0, 0))) (hb : w.heap[b]? = some (.cells #[.map none, .map none] 65 (0, 0))) :
    Calls Try.prog 18 #[.pointer (some ⟨a, 0, none⟩), .pointer (some ⟨b, 0, none⟩)] w fun e w' => e = .returned (.bool true) ∧ Below w.heap.size w w' := by
  have C0 := Lib.hid (fun d os => cell_regrown (w := w) (a := ⟨a, 0, none⟩) (v := .map none) (by rw [cell_of ha]; rfl) d os)
  have C1 := Lib.hid (fun d os => cell_regrown (w := w) (a := ⟨a, 1, none⟩) (v := .map none) (by rw [cell_of ha]; rfl) d os)
  have D0 := Lib.hid (fun d os => cell_regrown (w := w) (a := ⟨b, 0, none⟩) (v := .map none) (by rw [cell_of hb]; rfl) d os)
  have D1 := Lib.hid (fun d os => cell_regrown (w := w) (a := ⟨b, 1, none⟩) (v := .map none) (by rw [cell_of hb]; rfl) d os)
  have EQ := Lib.hid (fun d os => Calls.regrown_of (equal_bare (Go.Sort.grow (redrawn w d) os)))
  have EF := Lib.hid (fun d os => Calls.regrown_of (equalFunc_bare (.func (.func 40) #[] #[]) (Go.Sort.grow (redrawn w d) os)))
  clear ha hb
  go_enter Try.func18, Try.ntmps18
  go_wp2
  have c0 := C0.out
  have c1 := C1.out
  have d0 := D0.out
  have d1 := D1.out
  refine wp_region_quiet_below (by kernel_rfl) (by kernel_rfl) ?_
  repeat (quiet_step (first | exact EQ.out _ _ | exact EF.out _ _))
  refine wpQuiet_nil ?_
  intro _ hw'
  obtain ⟨⟨dq, osq⟩, hw''⟩ := hw'
  subst hw''
  go_wp2
  go_ret
  exact ⟨rfl, below_regrown w dq osq⟩
end Go.Proofs.Ytiolcpnhabipaaa
