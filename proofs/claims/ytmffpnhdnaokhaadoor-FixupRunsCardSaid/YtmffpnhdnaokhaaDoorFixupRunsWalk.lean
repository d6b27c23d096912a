/- FixupRuns: what rebases and binds write, slid there and back, and as much further as the addends say. Condition: the library's table reads as it was laid. -/
import Derived.Test.YtmffpnhdnaokhaaDoorFxW
import Derived.Lib.QuietBelow
namespace Go.Proofs.YtmffpnhdnaokhaaDoor.fixupRuns
open Go.RowKit
variable {w w' W V : World}

theorem quiet_load {ops : Array Oper} {C : World → Prop} {Q : Act → Prop} {a : Act} {o : Oper} {rest : List Oper} {T : TypeId} {ad : Addr} {v : Value} (hw : Region.wanted o (yielded ops a.tmps) = true) (x : Operand) (ho : o.op = .load T x)
    (hx : a.eval x = .pointer (some ad)) (hl : ∀ w, C w → (loadVar T ad).run Tryd.prog w = .ok v w) (hK : wpQuiet Tryd.prog ops C Q rest (a.put o.dst v)) : wpQuiet Tryd.prog ops C Q (o :: rest) a := by
  refine wpQuiet_step fun K hK' => ?_
  rw [if_pos hw]
  refine ⟨v, fun W hW => ?_, hK' _ hK⟩
  unfold Oper.quietAt execOp
  simp only [ho, hx, Instr.loadAt, Instr.sureAddr, Sem.run_bind, Sem.run_pure, Result.andThen_ok, hl W hW]
  exact ⟨rfl, rfl⟩

theorem back (T S : Int) :
    (T / 72057594037927936 * 72057594037927936 + (T + S) % 72057594037927936) / 72057594037927936 * 72057594037927936 + ((T / 72057594037927936 * 72057594037927936 + (T + S) % 72057594037927936) + (-S) % 18446744073709551616) % 72057594037927936 = T := by omega
theorem ok_r (T : Int) (hT : 0 ≤ T ∧ T < 18446744073709551616) : FxOk ⟨0, 1, T, 0, ⟨#[]⟩, 0, false⟩ := by
  constructor <;> simp only [] <;> first | omega | decide
theorem ok_b (A : Int) (hA : -9223372036854775808 ≤ A ∧ A ≤ 9223372036854775807) : FxOk ⟨0, 2, 0, 0, ⟨#[97]⟩, A, false⟩ := by
  constructor <;> simp only [] <;> first | omega | decide
set_option maxRecDepth 20000 in
set_option maxHeartbeats 3200000 in
theorem walk (T S A M : Int) (hT : 0 ≤ T ∧ T < 18446744073709551616) (hS : 0 ≤ S ∧ S < 18446744073709551616) (hA : -9223372036854775808 ≤ A ∧ A ≤ 9223372036854775807) (w : World) (ht : TabOk w) :
    Calls Tryd.prog 6 #[.int .u64 T, .int .u64 S, .int .i64 A, .int .i64 M] w fun e w' => e = .returned (.bool true) ∧ w.grownBy w' none := by
  obtain ⟨f, hf⟩ : ∃ f : Fx, f = ⟨0, 1, T, 0, ⟨#[]⟩, 0, false⟩ := ⟨_, rfl⟩
  have okf : FxOk f := by rw [hf]; exact ok_r T hT
  obtain ⟨U, hU⟩ : ∃ U, U = valN f S 0 := ⟨_, rfl⟩
  have u64 : 0 ≤ U ∧ U < 18446744073709551616 := by rw [hU, hf]; simp only [valN, if_pos]; omega
  obtain ⟨g, hg⟩ : ∃ f : Fx, f = ⟨0, 1, U, 0, ⟨#[]⟩, 0, false⟩ := ⟨_, rfl⟩
  have okg : FxOk g := by rw [hg]; exact ok_r U u64
  have V1 := Lib.hid (fun (V : World) => val_any f okf S 0 V)
  rw [← hU] at V1
  obtain ⟨N, hN⟩ : ∃ N, N = IntKind.u64.wrap (-S) := ⟨_, rfl⟩
  have V2 := Lib.hid (fun (V : World) => val_any g okg N 0 V)
  have e2 : valN g N 0 = T := by
    have := back T S
    rw [hg, hN, IntKind.wrap_u64]
    simp only [valN, if_pos]
    rw [hU, hf]
    simp only [valN, if_pos]
    exact this
  rw [e2] at V2
  obtain ⟨B, hB⟩ : ∃ B, B = wrap64 (A + M) := ⟨_, rfl⟩
  have hB' : B = IntKind.i64.wrap (A + M) := by rw [hB, IntKind.wrap_i64]; unfold wrap64; omega
  have b64 : -9223372036854775808 ≤ B ∧ B ≤ 9223372036854775807 := by rw [hB', IntKind.wrap_i64]; omega
  obtain ⟨p, hp⟩ : ∃ f : Fx, f = ⟨0, 2, 0, 0, ⟨#[97]⟩, A, false⟩ := ⟨_, rfl⟩
  obtain ⟨q, hq⟩ : ∃ f : Fx, f = ⟨0, 2, 0, 0, ⟨#[97]⟩, B, false⟩ := ⟨_, rfl⟩
  have okp : FxOk p := by rw [hp]; exact ok_b A hA
  have okq : FxOk q := by rw [hq]; exact ok_b B b64
  have V3 := Lib.hid (fun (V : World) => val_any q okq 0 T V)
  have V4 := Lib.hid (fun (V : World) => val_any p okp 0 T V)
  obtain ⟨x, hx⟩ : ∃ x, x = valN q 0 T := ⟨_, rfl⟩
  obtain ⟨y, hy⟩ : ∃ x, x = valN p 0 T := ⟨_, rfl⟩
  rw [← hx] at V3
  rw [← hy] at V4
  have exy : IntKind.u64.wrap (x - y) = IntKind.u64.wrap M := by
    rw [hx, hy, hq, hp, hB']
    simp only [valN]
    rw [if_neg (by decide), if_neg (by decide), IntKind.wrap_u64, IntKind.wrap_u64, IntKind.wrap_i64]
    omega
  have HN := Lib.hid hN
  have HB := Lib.hid hB
  have HF := Lib.hid hf
  have HG := Lib.hid hg
  have HP := Lib.hid hp
  have HQ := Lib.hid hq
  have T0 := Lib.hid ht
  rw [hf] at V1
  rw [hg] at V2
  rw [hq] at V3
  rw [hp] at V4
  unfold fxV fxArr at V1 V2 V3 V4
  simp only [] at V1 V2 V3 V4
  clear okf okg okp okq e2 hU u64 hN hB' hB hx hy hf hg hp hq b64 hA ht hS hT
  go_enter Tryd.func6, Tryd.ntmps6
  go_upto_region 2 with fail
  have g1 := grown1 w (.cells #[.int .u64 0, .int .i64 1, .int .u64 T, .int .i64 0, .string ⟨#[]⟩, .int .i64 0, .bool false] 26)
  have n1 := FxAt.new w ⟨0, 1, T, 0, ⟨#[]⟩, 0, false⟩
  simp only [] at n1
  obtain ⟨w1, hw1⟩ : ∃ V, V = w.alloc (.cells #[.int .u64 0, .int .i64 1, .int .u64 T, .int .i64 0, .string ⟨#[]⟩, .int .i64 0, .bool false] 26) := ⟨_, rfl⟩
  rw [← hw1] at g1 n1 ⊢
  have C1 := n1.c
  simp only [] at C1
  obtain ⟨c0, c1, c2, c3, c4, c5, c6⟩ := C1
  have G1 := Lib.hid g1
  have N1 := Lib.hid n1
  clear g1 hw1 n1
  obtain ⟨b1, hb1⟩ : ∃ b, w.heap.size = b := ⟨_, rfl⟩
  rw [hb1] at N1 c0 c1 c2 c3 c4 c5 c6
  have HB1 := Lib.hid hb1
  clear hb1
  rw [HB1.out]
  go_upto_region 3 with (go_at_call 19; refine (V1.out _).mono ?_; rintro e w2 ⟨rfl, hg⟩; have G2 := Lib.hid (grown_trans G1.out hg); have N2 := Lib.hid (N1.out.grown hg); clear hg)
  have g3 := grown1 w2 (.cells #[.int .u64 0, .int .i64 1, .int .u64 U, .int .i64 0, .string ⟨#[]⟩, .int .i64 0, .bool false] 26)
  have n3 := FxAt.new w2 ⟨0, 1, U, 0, ⟨#[]⟩, 0, false⟩
  simp only [] at n3
  obtain ⟨w3, hw3⟩ : ∃ V, V = w2.alloc (.cells #[.int .u64 0, .int .i64 1, .int .u64 U, .int .i64 0, .string ⟨#[]⟩, .int .i64 0, .bool false] 26) := ⟨_, rfl⟩
  obtain ⟨b3, hb3⟩ : ∃ b, w2.heap.size = b := ⟨_, rfl⟩
  rw [← hw3] at g3 n3 ⊢
  rw [hb3] at n3 ⊢
  have N3 := Lib.hid n3
  have G3 := Lib.hid (grown_trans G2.out g3)
  have S3 := Lib.hid g3
  clear g3 hw3 n3 hb3
  clear c0 c1 c2 c3 c4 c5 c6
  go_upto_region 4 with fail
  have g4 := grown1 w3 (.cells #[.int .u64 0, .int .i64 2, .int .u64 0, .int .i64 0, .string ⟨#[97]⟩, .int .i64 A, .bool false] 26)
  have n4 := FxAt.new w3 ⟨0, 2, 0, 0, ⟨#[97]⟩, A, false⟩
  simp only [] at n4
  obtain ⟨w4, hw4⟩ : ∃ V, V = w3.alloc (.cells #[.int .u64 0, .int .i64 2, .int .u64 0, .int .i64 0, .string ⟨#[97]⟩, .int .i64 A, .bool false] 26) := ⟨_, rfl⟩
  obtain ⟨b4, hb4⟩ : ∃ b, w3.heap.size = b := ⟨_, rfl⟩
  rw [← hw4] at g4 n4 ⊢
  rw [hb4] at n4 ⊢
  have N4 := Lib.hid n4
  have G4 := Lib.hid (grown_trans G3.out g4)
  have S4 := Lib.hid g4
  clear g4 hw4 n4 hb4
  go_upto_region 5 with fail
  rw [← HB.out]
  have g5 := grown1 w4 (.cells #[.int .u64 0, .int .i64 2, .int .u64 0, .int .i64 0, .string ⟨#[97]⟩, .int .i64 B, .bool false] 26)
  have n5 := FxAt.new w4 ⟨0, 2, 0, 0, ⟨#[97]⟩, B, false⟩
  simp only [] at n5
  obtain ⟨w5, hw5⟩ : ∃ V, V = w4.alloc (.cells #[.int .u64 0, .int .i64 2, .int .u64 0, .int .i64 0, .string ⟨#[97]⟩, .int .i64 B, .bool false] 26) := ⟨_, rfl⟩
  obtain ⟨b5, hb5⟩ : ∃ b, w4.heap.size = b := ⟨_, rfl⟩
  rw [← hw5] at g5 n5 ⊢
  rw [hb5] at n5 ⊢
  have N5 := Lib.hid n5
  have G5 := Lib.hid (grown_trans G4.out g5)
  have S5 := Lib.hid g5
  clear g5 hw5 n5 hb5
  have N35 := Lib.hid (N3.out.grown (grown_trans S4.out S5.out))
  have N45 := Lib.hid (N4.out.grown S5.out)
  have KG := fun d os => grown_below (below_regrown w5 d os) none
  have TK := Lib.hid (fun d os => Calls.regrown_of ((known_any ((T0.out.grown G5.out).grown (KG d os))).mono (fun _ _ h => (⟨h.1, below_grown h.2 (Nat.le_refl _) (by simp)⟩ : _ ∧ _))))
  have Q2 := Lib.hid (fun d os => Calls.regrown_of ((V2.out (Go.Sort.grow (redrawn w5 d) os)).mono (fun _ _ h => (⟨h.1, below_grown h.2 (Nat.le_refl _) (by simp)⟩ : _ ∧ _))))
  have Q3 := Lib.hid (fun d os => Calls.regrown_of ((V3.out (Go.Sort.grow (redrawn w5 d) os)).mono (fun _ _ h => (⟨h.1, below_grown h.2 (Nat.le_refl _) (by simp)⟩ : _ ∧ _))))
  have Q4 := Lib.hid (fun d os => Calls.regrown_of ((V4.out (Go.Sort.grow (redrawn w5 d) os)).mono (fun _ _ h => (⟨h.1, below_grown h.2 (Nat.le_refl _) (by simp)⟩ : _ ∧ _))))
  have L3 := Lib.hid (fun (V : World) (hV : ∃ p : Regrown, V = Go.Sort.grow (redrawn w5 p.d) p.os) => (by obtain ⟨p, rfl⟩ := hV; exact load_fx (N35.out.grown (KG p.d p.os)) : (loadVar 26 ⟨b3, 0, none⟩).run Tryd.prog V = .ok _ V))
  have L4 := Lib.hid (fun (V : World) (hV : ∃ p : Regrown, V = Go.Sort.grow (redrawn w5 p.d) p.os) => (by obtain ⟨p, rfl⟩ := hV; exact load_fx (N45.out.grown (KG p.d p.os)) : (loadVar 26 ⟨b4, 0, none⟩).run Tryd.prog V = .ok _ V))
  have L5 := Lib.hid (fun (V : World) (hV : ∃ p : Regrown, V = Go.Sort.grow (redrawn w5 p.d) p.os) => (by obtain ⟨p, rfl⟩ := hV; exact load_fx (N5.out.grown (KG p.d p.os)) : (loadVar 26 ⟨b5, 0, none⟩).run Tryd.prog V = .ok _ V))
  unfold fxV fxArr at L3 L4 L5
  simp only [] at L3 L4 L5
  rw [HN.out] at Q2
  have HK := Lib.hid KG
  clear KG
  refine wp_region_quiet_below (by kernel_rfl) (by kernel_rfl) ?_
  refine quiet_load rfl _ rfl rfl L3.out ?_
  iterate 2 (quiet_step (fail))
  quiet_step (with_reducible exact Q2.out _ _)
  iterate 3 (quiet_step (fail))
  refine quiet_load (by rfl) _ rfl rfl L5.out ?_
  iterate 1 (quiet_step (fail))
  quiet_step (with_reducible exact Q3.out _ _)
  refine quiet_load (by rfl) _ rfl rfl L4.out ?_
  iterate 1 (quiet_step (fail))
  quiet_step (with_reducible exact Q4.out _ _)
  iterate 6 (quiet_step (fail))
  quiet_step (with_reducible exact TK.out _ _)
  repeat (quiet_step (fail))
  refine wpQuiet_nil ?_
  intro _ hw'
  obtain ⟨⟨dq, osq⟩, hw''⟩ := hw'
  subst hw''
  have G9 := Lib.hid (grown_trans G5.out (HK.out dq osq))
  go_wp2
  go_ret
  exact ⟨rfl, G9.out⟩
end Go.Proofs.YtmffpnhdnaokhaaDoor.fixupRuns
