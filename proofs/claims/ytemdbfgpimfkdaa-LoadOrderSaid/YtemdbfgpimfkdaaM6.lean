import Derived.Test.YtemdbfgpimfkdaaM5
import Derived.Test.YtemdbfgpimfkdaaM4
import Derived.Stop.Asserts
import Derived.Laws.Externs
import Derived.Laws.Bits128
/- errors.Is of a Wrong and of the Errno that it wraps: yes; of no error: no; and the cursor's own Wrong. No condition but that the cursor is there. -/
namespace Go.Proofs.Ytemdbfgpimfkdaa
open Go.RowKit Go.Extern.Stop Go.Stop Go.Extern
variable {w w' : World}

theorem un_wrong (v : Value) (w : World) : (Instr.typeAssert (.iface 135 v) 111 147 true).run Try.prog w = .ok (.tuple #[.iface 135 v, .bool true]) w :=
  run_typeAssert_hasB Try.underlying147 (by kernel_rfl) v _ w
theorem me_wrong (a : Addr) (w : World) : (method 291 135 (.pointer (some a)) "Unwrap").run Try.prog w = .ok (94, .pointer (some a)) w := by kernel_rfl
theorem tyE (v : Value) (w : World) : (ReflectliteType.typeOf #[.iface 33 v]).run Try.prog w = .ok (.iface 142 (.agg #[.pointer (some ⟨1, 33, none⟩)])) w := by kernel_rfl
theorem mCmp (h : Value) (w : World) : (Go.method 291 142 (.agg #[h]) "Comparable").run Try.prog w = .ok (98, .agg #[h]) w := by kernel_rfl
theorem lkI_wrong (v : Value) (w : World) : (Instr.typeAssert (.iface 135 v) 111 144 true).run Try.prog w = .ok (.tuple #[.nilIface, .bool false]) w :=
  run_typeAssert_lacksB Try.underlying144 (by kernel_rfl) (by kernel_rfl) v _ w
theorem eq_we (v u : Value) (w : World) : (binOp .eql 111 (.iface 135 v) (.iface 33 u)).run Try.prog w = .ok (.bool false) w :=
  run_eql_iface_types _ _ v u Try.underlying111 (by decide) w
theorem compE : (Try.prog.info? 33).map (·.comparable) = some true := by kernel_rfl
theorem eq_ee (e : Int) (w : World) : (binOp .eql 111 (.iface 33 (.int .i64 e)) (.iface 33 (.int .i64 e))).run Try.prog w = .ok (.bool true) w := by
  obtain ⟨i, hi, hc⟩ := Option.map_eq_some_iff.1 compE
  have h : ∀ d : Nat, (Op.equalIn (d + 2) 111 (.iface 33 (.int .i64 e)) (.iface 33 (.int .i64 e))).run Try.prog w = .ok true w := fun d => by
    simp [Op.equalIn, run_underlying Try.underlying111, run_underlying Try.underlying33, typeInfo, hi, hc]
  simp only [binOp]
  simp [Op.equal, Op.maxDepth, h 9998]
set_option maxHeartbeats 4000000 in
theorem is_in (b : Nat) (e : Int) (w : World) (hc : w.cell? ⟨b, 1, none⟩ = some (.int .i64 e)) :
    Calls Try.prog 60 #[.iface 135 (.pointer (some ⟨b, 0, none⟩)), .iface 33 (.int .i64 e), .bool true] w fun r w' => r = .returned (.bool true) ∧ w = w' := by
  have f3 := lkI_wrong (.pointer (some ⟨b, 0, none⟩))
  have f4 := un_wrong (.pointer (some ⟨b, 0, none⟩))
  have f5 := me_wrong ⟨b, 0, none⟩
  have f6 := eq_we (.pointer (some ⟨b, 0, none⟩)) (.int .i64 e)
  have f7 := eq_ee e
  go_enter Try.func60, Try.ntmps60
  go_wp2
  refine wp_loop_rounds 2 ?_
  rw [rounds_succ]
  go_wp2
  rw [rounds_succ]
  go_wp2
  go_ret
  exact ⟨rfl, rfl⟩
theorem cE (w : World) : (ReflectliteType.method (fun t => do Rtype.noPackHeld "Comparable" t; (fun a : TypeInfo => Value.bool a.comparable) <$> typeInfo t) #[.agg #[.pointer (some ⟨1, 33, none⟩)]]).run Try.prog w = .ok (.bool true) w := by kernel_rfl
set_option maxHeartbeats 4000000 in
set_option maxRecDepth 20000 in
theorem is_wrong (b : Nat) (e : Int) (w : World) (hc : w.cell? ⟨b, 1, none⟩ = some (.int .i64 e)) :
    Calls Try.prog 43 #[.iface 135 (.pointer (some ⟨b, 0, none⟩)), .iface 33 (.int .i64 e)] w fun r w' => r = .returned (.bool true) ∧ w = w' := by
  have hT := @run_callFunc_extern Try.prog 59 _ ReflectliteType.typeOf Try.func59 (by kernel_rfl) (by kernel_rfl) (by kernel_rfl) (by kernel_rfl)
  have hC := @run_callFunc_extern Try.prog 98 _ (ReflectliteType.method (fun t => do Rtype.noPackHeld "Comparable" t; pure (.bool (← typeInfo t).comparable))) Try.func98 (by kernel_rfl) (by kernel_rfl) (by kernel_rfl) (by kernel_rfl)
  have f1 := tyE
  have f2 := mCmp
  have f3 := cE
  have I := Lib.hid (is_in b e w hc)
  clear hc
  go_enter Try.func43, Try.ntmps43
  go_wp2_with fail
  refine I.out.mono ?_
  rintro r w' ⟨rfl, rfl⟩
  go_wp2
  go_ret
  exact ⟨rfl, rfl⟩

theorem eq_nn (w : World) : (binOp .eql 111 .nilIface .nilIface).run Try.prog w = .ok (.bool true) w := by kernel_rfl
theorem eq_ne (v : Value) (w : World) : (binOp .eql 111 .nilIface (.iface 33 v)).run Try.prog w = .ok (.bool false) w := by kernel_rfl
theorem is_nil (e : Int) (w : World) : Calls Try.prog 43 #[.nilIface, .iface 33 (.int .i64 e)] w fun r w' => r = .returned (.bool false) ∧ w = w' := by
  have f1 := eq_nn
  have f2 := eq_ne (.int .i64 e)
  go_enter Try.func43, Try.ntmps43
  go_wp2
  go_ret
  exact ⟨rfl, rfl⟩
section
variable {lo hi a : Nat} {xs : List Int} {p : Nat} {big : Bool}
theorem wrong_no (h : Pen w lo hi a xs p big false) :
    Calls Try.prog 53 #[.pointer (some ⟨a, 0, none⟩)] w fun e w' => e = .returned .nilIface ∧ w = w' := by
  have E := Lib.hid (pen_err h)
  clear h
  go_enter Try.func53, Try.ntmps53
  go_wp2_with fail
  refine E.out.mono ?_
  rintro e w1 ⟨rfl, rfl⟩
  go_wp2
  go_ret
  exact ⟨rfl, rfl⟩
theorem wrong_yes (h : Pen w lo hi a xs p big true) :
    Calls Try.prog 53 #[.pointer (some ⟨a, 0, none⟩)] w fun e w' => ∃ b, e = .returned (.iface 135 (.pointer (some ⟨b, 0, none⟩))) ∧ w'.cell? ⟨b, 1, none⟩ = some (.int .i64 3) ∧ w.grownBy w' none := by
  have E := Lib.hid (pen_err h)
  have T := Lib.hid (pen_at h)
  clear h
  go_enter Try.func53, Try.ntmps53
  go_wp2_with fail
  refine E.out.mono ?_
  rintro e w1 ⟨rfl, rfl⟩
  go_wp2_with fail
  refine T.out.mono ?_
  rintro e w1 ⟨rfl, rfl⟩
  go_wp2
  go_ret
  exact ⟨_, rfl, by rw [cell_of (heap_alloc_new w _)]; rfl, grown1 _ _⟩
end
end Go.Proofs.Ytemdbfgpimfkdaa

/- May a command be, by the program; which subtypes and kinds there are. No condition. -/
namespace Go.Proofs.Ytemdbfgpimfkdaa
open Go.RowKit
variable {w w' : World}

theorem submay_any (s : Int) : Calls Try.prog 54 #[.int .i64 s] w fun e w' => e = .returned (.bool (decide (s = 0 ∨ s = 2))) ∧ w = w' := by
  by_cases h0 : s = 0
  · subst h0
    go_enter Try.func54, Try.ntmps54
    go_wp2
    go_ret
    exact ⟨rfl, rfl⟩
  · have e0 : (s == 0) = false := by simpa using h0
    have hv : decide (s = 0 ∨ s = 2) = (s == 2) := by
      rw [Bool.eq_iff_iff]; simp [h0]
    rw [hv]
    clear hv h0
    go_enter Try.func54, Try.ntmps54
    go_wp2
    go_ret
    exact ⟨rfl, rfl⟩
theorem kindmay_any (s : Int) : Calls Try.prog 55 #[.int .i64 s] w fun e w' => e = .returned (.bool (decide (s = 2 ∨ s = 6))) ∧ w = w' := by
  by_cases h0 : s = 2
  · subst h0
    go_enter Try.func55, Try.ntmps55
    go_wp2
    go_ret
    exact ⟨rfl, rfl⟩
  · have e0 : (s == 2) = false := by simpa using h0
    have hv : decide (s = 2 ∨ s = 6) = (s == 6) := by
      rw [Bool.eq_iff_iff]; simp [h0]
    rw [hv]
    clear hv h0
    go_enter Try.func55, Try.ntmps55
    go_wp2
    go_ret
    exact ⟨rfl, rfl⟩

/-- A number that may not be there: it has failed then; else it is the bytes' own. -/
theorem pen_num_may {lo hi a : Nat} {xs : List Int} {p : Nat} {big bad : Bool} (h : Pen w lo hi a xs p big bad) (n : Nat) (hs : n = 1 ∨ n = 2 ∨ n = 4 ∨ n = 8) :
    Calls Try.prog 24 #[.pointer (some ⟨a, 0, none⟩), .int .i64 n] w fun e w' =>
      ∃ p', e = .returned (.int .u64 (if bad || decide (xs.length < p + n) then 0 else numOf big ((xs.drop p).take n))) ∧ Pen w' lo hi a xs p' big (bad || decide (xs.length < p + n)) ∧ w.grownBy w' (some a) ∧ ((bad || decide (xs.length < p + n)) = false → p' = p + n) := by
  cases bad
  · by_cases hn : p + n ≤ xs.length
    · refine (pen_num h n hs hn).mono ?_
      rintro e w' ⟨rfl, hp, hg⟩
      have e : decide (xs.length < p + n) = false := by simp; omega
      rw [e]
      exact ⟨_, rfl, hp, hg, fun _ => rfl⟩
    · refine (pen_num_no h n (.inr (.inr (by omega)))).mono ?_
      rintro e w' ⟨rfl, hp, hg⟩
      have e : decide (xs.length < p + n) = true := by simp; omega
      rw [e]
      exact ⟨_, rfl, hp, hg, fun h => by cases h⟩
  · refine (pen_num_no h n (.inl rfl)).mono ?_
    rintro e w' ⟨rfl, hp, hg⟩
    exact ⟨_, rfl, hp, hg, fun h => by cases h⟩

theorem take8 (ys : List Int) : ((ys.take 8).drop 0).take 4 = ys.take 4 ∧ ((ys.take 8).drop (0 + 4)).take 4 = (ys.drop 4).take 4 := by
  constructor
  · rw [List.drop_zero, List.take_take]; rfl
  · rw [List.drop_take, List.take_take]; rfl
theorem may_any (m : Cm) (hf : m.Fits) (hb : IsBytes w m.q m.cap m.bytes) :
    Calls Try.prog 67 #[m.v] w fun e w' => e = .returned (.bool (mayB m.cmd m.bytes)) ∧ w.grownBy w' none := by
  have hcap := hf.cap
  have hlen := hf.len
  have hq : m.q = none → m.cap = 0 := fun e => by
    rcases hb.ways with ⟨_, _, h⟩ | ⟨x, h, _⟩
    · exact h
    · rw [h] at e; cases e
  have N := Lib.hid (fun (k : Nat) (hk : k ≤ m.bytes.length) (hk8 : k ≤ 8) (w1 : World) (hg : w.grownBy w1 none) => pen_new (w := w1) (n := k) ((hb.kept hg (by simp)).take (c' := m.cap) k hq) (by rw [List.length_take]; omega) (by omega) (fun x hx => hf.bytes x (List.mem_of_mem_take hx)) false)
  have hz := CmAt.new w m
  have hgr := grown1 w (.cells #[.int .u32 m.cmd, .slice m.q m.bytes.length m.cap] 44)
  have HB : Hid (mayB m.cmd m.bytes = decide (8 ≤ m.bytes.length ∧ m.bytes.length % 8 = 0 ∧ leN (m.bytes.take 4) = m.cmd ∧ leN ((m.bytes.drop 4).take 4) = m.bytes.length)) := Lib.hid rfl
  have Z := Lib.hid hz
  have GR := Lib.hid hgr
  have c1 := hz.c1
  have hB0 := leN4_bd hf.bytes 0
  rw [List.drop_zero] at hB0
  unfold Cm.v
  by_cases h8 : 8 ≤ m.bytes.length
  · obtain ⟨V0, hV0⟩ : ∃ V, V = leN (m.bytes.take 4) := ⟨_, rfl⟩
    obtain ⟨V4, hV4⟩ : ∃ V, V = leN ((m.bytes.drop 4).take 4) := ⟨_, rfl⟩
    rw [← hV0] at hB0 HB
    rw [← hV4] at HB
    have T0 := Lib.hid (show numOf false (((m.bytes.take 8).drop 0).take 4) = V0 by rw [(take8 m.bytes).1, hV0]; rfl)
    have T4 := Lib.hid (show numOf false (((m.bytes.take 8).drop (0 + 4)).take 4) = V4 by rw [(take8 m.bytes).2, hV4]; rfl)
    have u0 : (V0 % 4294967296) = V0 := by omega
    have u1 : IntKind.u32.wrap V0 = V0 := by rw [IntKind.wrap_u32]; exact u0
    clear hV0 hV4 hB0
    have N := Lib.hid (N.out 8 h8 (by omega))
    have hmin : min (m.bytes.length : Int) 8 = 8 := by omega
    clear hb hf hgr hz
    go_enter Try.func67, Try.ntmps67
    go_wp2_with fail
    refine (N.out _ GR.out).mono ?_
    rintro e w1 ⟨a, rfl, hp, hbel⟩
    have G1 := Lib.hid (grown_trans GR.out (grown_below hbel none))
    have Z1 := Lib.hid (grown_below hbel none)
    have la := hp.lw
    have P1 := Lib.hid hp
    clear hp hbel
    go_wp2_with fail
    refine (pen_num P1.out 4 (.inr (.inr (.inl rfl))) (by rw [List.length_take]; omega)).mono ?_
    rintro e w2 ⟨rfl, hp, hg⟩
    rw [T0.out]
    have G2 := Lib.hid (grown_new G1.out hg (Nat.le_trans GR.out.size la))
    have Z2 := Lib.hid (grown_new Z1.out hg la)
    have P2 := Lib.hid hp
    clear hp hg
    go_wp2_with fail
    refine (pen_num P2.out 4 (.inr (.inr (.inl rfl))) (by rw [List.length_take]; omega)).mono ?_
    rintro e w3 ⟨rfl, hp, hg⟩
    rw [T4.out]
    have G3 := Lib.hid (grown_new G2.out hg (Nat.le_trans GR.out.size la))
    have GZ := Lib.hid (grown_new Z2.out hg la)
    have P3 := Lib.hid hp
    clear hp hg
    clear c1
    go_wp2_with fail
    refine (pen_err P3.out).mono ?_
    rintro e w4 ⟨rfl, rfl⟩
    have G4 := Lib.hid G3.out
    have hz4 := CmAt.grown Z.out (show (w.alloc (.cells #[.int .u32 m.cmd, .slice m.q m.bytes.length m.cap] 44)).grownBy w3 none from GZ.out)
    have c0 := hz4.c0
    have c1 := hz4.c1
    clear hz4
    by_cases hm8 : m.bytes.length % 8 = 0
    · by_cases h4 : V4 = (m.bytes.length : Int)
      · by_cases h0 : V0 = m.cmd
        · have dm : ((m.bytes.length : Int) % 8 == 0) = true := by simp; omega
          have dc : (V0 == m.cmd) = true := by simp; omega
          have dl : (V4 == (m.bytes.length : Int)) = true := by simp; omega
          have HV := Lib.hid (show mayB m.cmd m.bytes = true by rw [HB.out]; simp; omega)
          clear HB h4 h0 hm8 h8
          go_wp2
          go_ret
          exact ⟨ret_bool (by rw [HV.out]), G4.out⟩
        · have dm : ((m.bytes.length : Int) % 8 == 0) = true := by simp; omega
          have dc : (V0 == m.cmd) = false := by simp; omega
          have dl : (V4 == (m.bytes.length : Int)) = true := by simp; omega
          have HV := Lib.hid (show mayB m.cmd m.bytes = false by rw [HB.out]; simp; omega)
          clear HB h4 h0 hm8 h8
          go_wp2
          go_ret
          exact ⟨ret_bool (by rw [HV.out]), G4.out⟩
      · have dm : ((m.bytes.length : Int) % 8 == 0) = true := by simp; omega
        have dl : (V4 == (m.bytes.length : Int)) = false := by simp; omega
        have HV := Lib.hid (show mayB m.cmd m.bytes = false by rw [HB.out]; simp; omega)
        clear HB h4 hm8 h8
        go_wp2
        go_ret
        exact ⟨ret_bool (by rw [HV.out]), G4.out⟩
    · have dm : ((m.bytes.length : Int) % 8 == 0) = false := by simp; omega
      have HV := Lib.hid (show mayB m.cmd m.bytes = false by rw [HB.out]; simp; omega)
      clear HB hm8 h8
      go_wp2
      go_ret
      exact ⟨ret_bool (by rw [HV.out]), G4.out⟩
  · have N := Lib.hid (N.out m.bytes.length (Nat.le_refl _) (by omega))
    have hmin : min (m.bytes.length : Int) 8 = m.bytes.length := by omega
    have HV := Lib.hid (show mayB m.cmd m.bytes = false by rw [HB.out]; simp; omega)
    have HT := Lib.hid (List.take_of_length_le (Nat.le_refl m.bytes.length))
    rw [HT.out] at N
    clear hb hf hgr hz HB
    by_cases h4 : m.bytes.length < 4
    · go_enter Try.func67, Try.ntmps67
      go_wp2_with fail
      refine (N.out _ GR.out).mono ?_
      rintro e w1 ⟨a, rfl, hp, hbel⟩
      have G1 := Lib.hid (grown_trans GR.out (grown_below hbel none))
      have Z1 := Lib.hid (grown_below hbel none)
      have la := hp.lw
      have P1 := Lib.hid hp
      clear hp hbel
      go_wp2_with fail
      refine (pen_num_no P1.out 4 (.inr (.inr (by omega)))).mono ?_
      rintro e w2 ⟨rfl, hp, hg⟩
      have G2 := Lib.hid (grown_new G1.out hg (Nat.le_trans GR.out.size la))
      have Z2 := Lib.hid (grown_new Z1.out hg la)
      have P2 := Lib.hid hp
      clear hp hg
      go_wp2_with fail
      refine (pen_num_no P2.out 4 (.inl rfl)).mono ?_
      rintro e w3 ⟨rfl, hp, hg⟩
      have G3 := Lib.hid (grown_new G2.out hg (Nat.le_trans GR.out.size la))
      have GZ := Lib.hid (grown_new Z2.out hg la)
      have P3 := Lib.hid hp
      clear hp hg
      clear c1
      go_wp2_with fail
      refine (pen_err P3.out).mono ?_
      rintro e w4 ⟨rfl, rfl⟩
      clear h8 h4
      go_wp2
      go_ret
      exact ⟨ret_bool (by rw [HV.out]), G3.out⟩
    · obtain ⟨V0, hV0⟩ : ∃ V, V = leN (m.bytes.take 4) := ⟨_, rfl⟩
      rw [← hV0] at hB0
      have T0 := Lib.hid (show numOf false (((m.bytes).drop 0).take 4) = V0 by rw [List.drop_zero, hV0]; rfl)
      have u0 : (V0 % 4294967296) = V0 := by omega
      have u1 : IntKind.u32.wrap V0 = V0 := by rw [IntKind.wrap_u32]; exact u0
      clear hV0 hB0
      go_enter Try.func67, Try.ntmps67
      go_wp2_with fail
      refine (N.out _ GR.out).mono ?_
      rintro e w1 ⟨a, rfl, hp, hbel⟩
      have G1 := Lib.hid (grown_trans GR.out (grown_below hbel none))
      have Z1 := Lib.hid (grown_below hbel none)
      have la := hp.lw
      have P1 := Lib.hid hp
      clear hp hbel
      go_wp2_with fail
      refine (pen_num P1.out 4 (.inr (.inr (.inl rfl))) (by omega)).mono ?_
      rintro e w2 ⟨rfl, hp, hg⟩
      rw [T0.out]
      have G2 := Lib.hid (grown_new G1.out hg (Nat.le_trans GR.out.size la))
      have Z2 := Lib.hid (grown_new Z1.out hg la)
      have P2 := Lib.hid hp
      clear hp hg
      go_wp2_with fail
      refine (pen_num_no P2.out 4 (.inr (.inr (by omega)))).mono ?_
      rintro e w3 ⟨rfl, hp, hg⟩
      have G3 := Lib.hid (grown_new G2.out hg (Nat.le_trans GR.out.size la))
      have GZ := Lib.hid (grown_new Z2.out hg la)
      have P3 := Lib.hid hp
      clear hp hg
      clear c1
      go_wp2_with fail
      refine (pen_err P3.out).mono ?_
      rintro e w4 ⟨rfl, rfl⟩
      clear h8 h4
      go_wp2
      go_ret
      exact ⟨ret_bool (by rw [HV.out]), G3.out⟩
end Go.Proofs.Ytemdbfgpimfkdaa

/- Sums that are within: the program's Add and Within. No condition but the ranges of their kind. -/
namespace Go.Proofs.Ytemdbfgpimfkdaa
open Go.RowKit
variable {w w' : World}

theorem add64i_run (x y : Int) (w : World) (hx : 0 ≤ x ∧ x < 18446744073709551616) (hy : 0 ≤ y ∧ y < 18446744073709551616) :
    (callFunc 69 #[.int .u64 x, .int .u64 y, .int .u64 0]).run Try.prog w =
      .ok (.value (.tuple #[.int .u64 ((x + y) % 18446744073709551616), .int .u64 ((x + y) / 18446744073709551616)])) w := by
  obtain ⟨m, rfl⟩ := Int.eq_ofNat_of_zero_le hx.1
  obtain ⟨n, rfl⟩ := Int.eq_ofNat_of_zero_le hy.1
  rw [run_callFunc_extern Try.func69 (by kernel_rfl) (by kernel_rfl) (by kernel_rfl) (e := add64Entry) (by kernel_rfl), run_add64 m n 0 (by omega) (by omega) (by omega) (by omega)]
  simp only [Result.andThen]
  congr 5 <;> omega
theorem addi_yes (a b : Int) (ha : 0 ≤ a ∧ a < 18446744073709551616) (hb : 0 ≤ b ∧ b < 18446744073709551616) (h : a + b < 18446744073709551616) (w : World) :
    Calls Try.prog 65 #[.int .u64 a, .int .u64 b] w fun e w' => e = .returned (.tuple #[.int .u64 (a + b), .bool true]) ∧ w = w' := by
  have hr := add64i_run a b w ha hb
  rw [show (a + b) % 18446744073709551616 = a + b by omega, show (a + b) / 18446744073709551616 = 0 by omega] at hr
  go_enter Try.func65, Try.ntmps65
  go_wp2
  go_ret2
  exact ⟨rfl, rfl⟩
theorem addi_no (a b : Int) (ha : 0 ≤ a ∧ a < 18446744073709551616) (hb : 0 ≤ b ∧ b < 18446744073709551616) (h : ¬ a + b < 18446744073709551616) (w : World) :
    Calls Try.prog 65 #[.int .u64 a, .int .u64 b] w fun e w' => e = .returned (.tuple #[.int .u64 0, .bool false]) ∧ w = w' := by
  have hr := add64i_run a b w ha hb
  rw [show (a + b) / 18446744073709551616 = 1 by omega] at hr
  go_enter Try.func65, Try.ntmps65
  go_wp2
  go_ret2
  exact ⟨rfl, rfl⟩
theorem withini_any (a b c : Int) (ha : 0 ≤ a ∧ a < 18446744073709551616) (hb : 0 ≤ b ∧ b < 18446744073709551616) (hc : 0 ≤ c ∧ c < 18446744073709551616) (w : World) :
    Calls Try.prog 56 #[.int .u64 a, .int .u64 b, .int .u64 c] w fun e w' => e = .returned (.bool (decide (a + b ≤ c))) ∧ w = w' := by
  by_cases h : a + b < 18446744073709551616
  · have hs := Lib.hid (addi_yes a b ha hb h w)
    go_enter Try.func56, Try.ntmps56
    go_wp2_with fail
    refine hs.out.mono ?_
    rintro e w' ⟨rfl, rfl⟩
    go_wp2
    go_ret
    exact ⟨ret_bool (by simp), rfl⟩
  · have hs := Lib.hid (addi_no a b ha hb h w)
    have e : decide (a + b ≤ c) = false := by simp; omega
    rw [e]
    clear e
    go_enter Try.func56, Try.ntmps56
    go_wp2_with fail
    refine hs.out.mono ?_
    rintro e w' ⟨rfl, rfl⟩
    go_wp2
    go_ret
    exact ⟨rfl, rfl⟩
end Go.Proofs.Ytemdbfgpimfkdaa
