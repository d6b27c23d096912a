import Derived.Test.YtemdbfgpimfkdaaM24
/- The chapter's rows, as layer 5's statements have them. No condition. -/
namespace Go.Proofs.Ytemdbfgpimfkdaa
open Go.RowKit
variable {w w' : World} {base : Nat}

set_option maxRecDepth 20000 in
theorem put5_any (n : Int) (hn : 0 ≤ n ∧ n < 4294967296) {q : Option Addr} {k c : Nat} {xs : List Int} (ho : w.ownsRow base 5 1 (.slice q k c) k (xs.map (Value.int .u8))) (hk : k ≤ 1000) (hb : base ≤ w.heap.size) :
    Calls Try.prog 12 #[.slice q k c, .int .u32 n] w fun e w' => ∃ q' c', e = .returned (.slice q' (k + 4) c') ∧ w'.ownsRow base 5 1 (.slice q' (k + 4) c') (k + 4) ((xs ++ le4 n).map (Value.int .u8)) ∧ w.grownBy w' (Value.slice q k c).ownBlock := by
  have hle : le4 n = [n % 256, n / 256 % 256, n / 65536 % 256, n / 16777216] := by
    unfold le4
    rw [show n / 16777216 % 256 = n / 16777216 by omega]
  have LE := Lib.hid hle
  have FB := Lib.hid (four_bytes w (n % 256) (n / 256 % 256) (n / 65536 % 256) (n / 16777216))
  have OW := Lib.hid (own_grown ho (grown1 w (.cells #[.int .u8 (n % 256), .int .u8 (n / 256 % 256), .int .u8 (n / 65536 % 256), .int .u8 (n / 16777216)] 5)))
  have hlt := fun g (e : (Value.slice q k c).ownBlock = some g) => (ho.lt g e).2
  clear ho hle
  go_enter Try.func12, Try.ntmps12
  go_wp2_with (at_builtin; refine wp_append_bytes rfl _ _ rfl rfl _ k _ rfl OW.out [n % 256, n / 256 % 256, n / 65536 % 256, n / 16777216] 4 rfl rfl FB.out (by omega) ?_ ?_)
  · rw [World.size_alloc]; omega
  intro v' w2 ho hg
  obtain ⟨q2, c2, rfl⟩ := own_slice ho
  have HO := Lib.hid ho
  have HG := Lib.hid (grown_first (grown1 w _) hg)
  clear ho hg
  go_wp2
  go_ret
  refine ⟨q2, c2, rfl, ?_, HG.out⟩
  rw [LE.out, List.map_append]
  exact HO.out

/-- What a row of numbers is, put one behind the other from nothing on. -/
def Row5 (w0 w : World) (v : Value) (xs : List Int) : Prop := ∃ q c, v = .slice q xs.length c ∧ w.ownsRow w0.heap.size 5 1 (.slice q xs.length c) xs.length (xs.map (Value.int .u8)) ∧ w0.grownBy w none
theorem Row5.start (w : World) : Row5 w w (.slice none 0 0) [] := ⟨none, 0, rfl, World.ownsRow_nil _ _ _ _, grown_refl _ _⟩
theorem Row5.next {w0 w : World} {v : Value} {xs : List Int} (h : Row5 w0 w v xs) (n : Int) (hn : 0 ≤ n ∧ n < 4294967296) (hk : xs.length ≤ 1000) :
    Calls Try.prog 12 #[v, .int .u32 n] w fun e w' => ∃ v', e = .returned v' ∧ Row5 w0 w' v' (xs ++ le4 n) := by
  obtain ⟨q, c, rfl, ho, hg⟩ := h
  refine (put5_any n hn ho hk hg.size).mono ?_
  rintro e w' ⟨q', c', rfl, ho', hg'⟩
  exact ⟨_, rfl, q', c', by rw [List.length_append]; rfl, by rw [List.length_append]; exact ho', grown_own hg hg' (fun g e => (ho.lt g e).1) (Nat.le_refl _)⟩
-- KNOWN
open Go.Maps
/-- Which keys a map has. -/
def Has (D : DataW Unit) (F : Int → Int) : Prop := IsMap D ∧ ∀ c, Maps.has D (.int .u32 c) = decide (F c ≠ 0)
theorem Has.start : Has (.map []) (fun _ => 0) := ⟨⟨_, rfl⟩, fun _ => rfl⟩
theorem Has.put {D : DataW Unit} {F : Int → Int} (h : Has D F) (k v : Int) (hv : v ≠ 0) (hk : WideAt.IsKeyLit (.int .u32 k)) (d : DataW Unit) : Has (D.put (.int .u32 k) d) (fun c => if c = k then v else F c) := by
  refine ⟨h.1.put _ _, fun c => ?_⟩
  show _ = decide ((if c = k then v else F c) ≠ 0)
  by_cases hc : c = k
  · subst hc
    rw [has_put_same h.1 hk, if_pos rfl, decide_eq_true hv]
  · rw [has_put_other (fun e => hc (by injection e)), h.2 c, if_neg hc]
def NeedsHas (w : World) (b : Nat) : Prop := ∃ n D, w.ownsMap Try.prog 25 (plainElem Try.prog 3) b n D ∧ Has D leastN
set_option maxRecDepth 20000 in
theorem needs_has : Calls Try.prog 27 #[] w fun e w' => e = .returned (.map (some w.heap.size)) ∧ NeedsHas w' w.heap.size ∧ w.grownBy w' none := by
  have o0 := World.ownsMap_made w Try.prog 25 (plainElem (H := Unit) Try.prog 3)
  have t0 := Has.start
  have g0 := grown1 w (.map #[] 0)
  obtain ⟨w1, r1, o1, h1⟩ := o0.update u32keyed Try.underlying86 (by unfold maxLen; omega) (keyOf_int_mk Try.underlying25 (a := 25) (by decide)) (plainElem_int Try.underlying3 (a := 72) (by decide))
  have t1 := t0.put 25 72 (by decide) (by trivial) (.lit (.int .i64 72))
  have g1 := grown_new g0 h1 (Nat.le_refl _)
  obtain ⟨w2, r2, o2, h2⟩ := o1.update u32keyed Try.underlying86 (by unfold maxLen; omega) (keyOf_int_mk Try.underlying25 (a := 13) (by decide)) (plainElem_int Try.underlying3 (a := 24) (by decide))
  have t2 := t1.put 13 24 (by decide) (by trivial) (.lit (.int .i64 24))
  have g2 := grown_new g1 h2 (Nat.le_refl _)
  obtain ⟨w3, r3, o3, h3⟩ := o2.update u32keyed Try.underlying86 (by unfold maxLen; omega) (keyOf_int_mk Try.underlying25 (a := 12) (by decide)) (plainElem_int Try.underlying3 (a := 24) (by decide))
  have t3 := t2.put 12 24 (by decide) (by trivial) (.lit (.int .i64 24))
  have g3 := grown_new g2 h3 (Nat.le_refl _)
  obtain ⟨w4, r4, o4, h4⟩ := o3.update u32keyed Try.underlying86 (by unfold maxLen; omega) (keyOf_int_mk Try.underlying25 (a := 2147483672) (by decide)) (plainElem_int Try.underlying3 (a := 24) (by decide))
  have t4 := t3.put 2147483672 24 (by decide) (by trivial) (.lit (.int .i64 24))
  have g4 := grown_new g3 h4 (Nat.le_refl _)
  obtain ⟨w5, r5, o5, h5⟩ := o4.update u32keyed Try.underlying86 (by unfold maxLen; omega) (keyOf_int_mk Try.underlying25 (a := 2147483679) (by decide)) (plainElem_int Try.underlying3 (a := 24) (by decide))
  have t5 := t4.put 2147483679 24 (by decide) (by trivial) (.lit (.int .i64 24))
  have g5 := grown_new g4 h5 (Nat.le_refl _)
  obtain ⟨w6, r6, o6, h6⟩ := o5.update u32keyed Try.underlying86 (by unfold maxLen; omega) (keyOf_int_mk Try.underlying25 (a := 2147483683) (by decide)) (plainElem_int Try.underlying3 (a := 24) (by decide))
  have t6 := t5.put 2147483683 24 (by decide) (by trivial) (.lit (.int .i64 24))
  have g6 := grown_new g5 h6 (Nat.le_refl _)
  obtain ⟨w7, r7, o7, h7⟩ := o6.update u32keyed Try.underlying86 (by unfold maxLen; omega) (keyOf_int_mk Try.underlying25 (a := 34) (by decide)) (plainElem_int Try.underlying3 (a := 48) (by decide))
  have t7 := t6.put 34 48 (by decide) (by trivial) (.lit (.int .i64 48))
  have g7 := grown_new g6 h7 (Nat.le_refl _)
  obtain ⟨w8, r8, o8, h8⟩ := o7.update u32keyed Try.underlying86 (by unfold maxLen; omega) (keyOf_int_mk Try.underlying25 (a := 2147483682) (by decide)) (plainElem_int Try.underlying3 (a := 48) (by decide))
  have t8 := t7.put 2147483682 48 (by decide) (by trivial) (.lit (.int .i64 48))
  have g8 := grown_new g7 h8 (Nat.le_refl _)
  obtain ⟨w9, r9, o9, h9⟩ := o8.update u32keyed Try.underlying86 (by unfold maxLen; omega) (keyOf_int_mk Try.underlying25 (a := 2147483699) (by decide)) (plainElem_int Try.underlying3 (a := 16) (by decide))
  have t9 := t8.put 2147483699 16 (by decide) (by trivial) (.lit (.int .i64 16))
  have g9 := grown_new g8 h9 (Nat.le_refl _)
  obtain ⟨w10, r10, o10, h10⟩ := o9.update u32keyed Try.underlying86 (by unfold maxLen; omega) (keyOf_int_mk Try.underlying25 (a := 2147483700) (by decide)) (plainElem_int Try.underlying3 (a := 16) (by decide))
  have t10 := t9.put 2147483700 16 (by decide) (by trivial) (.lit (.int .i64 16))
  have g10 := grown_new g9 h10 (Nat.le_refl _)
  obtain ⟨w11, r11, o11, h11⟩ := o10.update u32keyed Try.underlying86 (by unfold maxLen; omega) (keyOf_int_mk Try.underlying25 (a := 2) (by decide)) (plainElem_int Try.underlying3 (a := 24) (by decide))
  have t11 := t10.put 2 24 (by decide) (by trivial) (.lit (.int .i64 24))
  have g11 := grown_new g10 h11 (Nat.le_refl _)
  obtain ⟨w12, r12, o12, h12⟩ := o11.update u32keyed Try.underlying86 (by unfold maxLen; omega) (keyOf_int_mk Try.underlying25 (a := 2147483688) (by decide)) (plainElem_int Try.underlying3 (a := 24) (by decide))
  have t12 := t11.put 2147483688 24 (by decide) (by trivial) (.lit (.int .i64 24))
  have g12 := grown_new g11 h12 (Nat.le_refl _)
  clear h1 h2 h3 h4 h5 h6 h7 h8 h9 h10 h11 h12
  have HO := Lib.hid o12
  have HT := Lib.hid t12
  have HG := Lib.hid g12
  clear o0 o1 o2 o3 o4 o5 o6 o7 o8 o9 o10 o11 o12 t0 t1 t2 t3 t4 t5 t6 t7 t8 t9 t10 t11 t12 g0 g1 g2 g3 g4 g5 g6 g7 g8 g9 g10 g11 g12
  have hmm := @run_makeMap Try.prog
  go_enter Try.func27, Try.ntmps27
  go_wp2
  go_ret
  exact ⟨rfl, ⟨_, _, HO.out, HT.out⟩, HG.out⟩
theorem NeedsHas.look {b : Nat} (h : NeedsHas w b) {c : Int} (hc : 0 ≤ c ∧ c < 4294967296) : ∃ v : Int, (Instr.lookup 86 (.map (some b)) (.int .u32 c) true).run Try.prog w = .ok (.tuple #[.int .i64 v, .bool (decide (leastN c ≠ 0))]) w := by
  obtain ⟨n, D, ho, ht⟩ := h
  obtain ⟨v, ps, hr, hv⟩ := ho.look_ok u32keyed Try.underlying86 (zeroInt w) (plainElem_int Try.underlying3 (a := 0) (by decide)) (keyOf_int_mk Try.underlying25 (a := c) (u32_wf hc))
  obtain ⟨x, rfl, _, _⟩ := plainElem_int_inv Try.underlying3 hv
  exact ⟨x, by rw [hr, ht.2]⟩
set_option maxRecDepth 20000 in
theorem Known_any (c : Int) (hc : 0 ≤ c ∧ c < 4294967296) : Calls Try.prog 15 #[.int .u32 c] w fun e w' => e = .returned (.bool (decide (leastN c ≠ 0))) ∧ w.grownBy w' none := by
  have ND := Lib.hid (needs_has (w := w))
  obtain ⟨B, hB⟩ : ∃ B, B = decide (leastN c ≠ 0) := ⟨_, rfl⟩
  rw [← hB]
  have HB := Lib.hid hB
  clear hB
  go_enter Try.func15, Try.ntmps15
  go_wp2_with fail
  refine ND.out.mono ?_
  rintro e w1 ⟨rfl, hN, hg⟩
  obtain ⟨v, hl⟩ := hN.look hc
  rw [← HB.out] at hl
  have G := Lib.hid hg
  clear hN hg
  go_wp2
  go_ret
  exact ⟨rfl, by first | exact G.out | exact grown_trans G.out (grown1 _ _)⟩
theorem eight_bytes (w : World) (a b : Int) : IsBytes (w.alloc (.cells #[.int .u8 a, .int .u8 b, .int .u8 0, .int .u8 0, .int .u8 0, .int .u8 0, .int .u8 0, .int .u8 0] 5)) (some ⟨w.heap.size, 0, none⟩) 8 [a, b, 0, 0, 0, 0, 0, 0] := by
  refine IsBytes.mk_at fun i hi => ?_
  rw [cell_of (heap_alloc_new w _), Nat.zero_add]
  have hi8 : i < 8 := hi
  match i, hi8 with
  | 0, _ => rfl
  | 1, _ => rfl
  | 2, _ => rfl
  | 3, _ => rfl
  | 4, _ => rfl
  | 5, _ => rfl
  | 6, _ => rfl
  | 7, _ => rfl
theorem lone_byte (w : World) : IsBytes (w.alloc (.cells #[.int .u8 1] 5)) (some ⟨w.heap.size, 0, none⟩) 1 [1] := by
  refine IsBytes.mk_at fun i hi => ?_
  rw [cell_of (heap_alloc_new w _), Nat.zero_add]
  have hi8 : i < 1 := hi
  match i, hi8 with
  | 0, _ => rfl
theorem Row5.grown {w0 w w' : World} {v : Value} {xs : List Int} (h : Row5 w0 w v xs) (hg : w.grownBy w' none) : Row5 w0 w' v xs := by
  obtain ⟨q, c, rfl, ho, h1⟩ := h
  exact ⟨q, c, rfl, own_grown ho hg, grown_trans h1 hg⟩

set_option maxHeartbeats 3200000 in
set_option maxRecDepth 20000 in
theorem known5_any : Calls Try.prog 4 #[] w fun e w' => e = .returned (.bool true) ∧ Below w.heap.size w w' := by
  have R := Lib.hid (Row5.start w)
  go_enter Try.func4, Try.ntmps4
  go_wp2_with fail
  refine (R.out.next 12 (by decide) (by decide)).mono ?_
  rintro e w1 ⟨v, rfl, hr⟩
  have R' := Lib.hid hr
  clear R hr
  have R := R'
  clear R'
  go_wp2_with fail
  refine (R.out.next 32 (by decide) (by decide)).mono ?_
  rintro e w2 ⟨v, rfl, hr⟩
  have R' := Lib.hid hr
  clear R hr
  have R := R'
  clear R'
  go_wp2_with fail
  refine (R.out.next 24 (by decide) (by decide)).mono ?_
  rintro e w3 ⟨v, rfl, hr⟩
  have R' := Lib.hid hr
  clear R hr
  have R := R'
  clear R'
  go_wp2_with fail
  refine (R.out.next 0 (by decide) (by decide)).mono ?_
  rintro e w4 ⟨v, rfl, hr⟩
  have R' := Lib.hid hr
  clear R hr
  have R := R'
  clear R'
  go_wp2_with fail
  refine (R.out.next 0 (by decide) (by decide)).mono ?_
  rintro e w5 ⟨v, rfl, hr⟩
  have R' := Lib.hid hr
  clear R hr
  have R := R'
  clear R'
  go_wp2_with fail
  refine (R.out.next 0 (by decide) (by decide)).mono ?_
  rintro e w6 ⟨v, rfl, hr⟩
  have R' := Lib.hid hr
  clear R hr
  have R := R'
  clear R'
  obtain ⟨q, c, rfl, ho, hg⟩ := R.out
  have B1 := Lib.hid (show (([] ++ le4 12 ++ le4 32 ++ le4 24 ++ le4 0 ++ le4 0 ++ le4 0) : List Int).length = 24 from rfl)
  rw [B1.out] at ho ⊢
  have OW := Lib.hid (own_grown ho (grown1 w6 (.cells #[.int .u8 97, .int .u8 98, .int .u8 0, .int .u8 0, .int .u8 0, .int .u8 0, .int .u8 0, .int .u8 0] 5)))
  have GG := Lib.hid hg
  have OL := Lib.hid (fun g e => (ho.lt g e).1)
  clear ho hg R
  go_wp2_with (at_builtin; refine wp_append_bytes rfl _ _ rfl rfl _ 24 _ rfl OW.out [97, 98, 0, 0, 0, 0, 0, 0] 8 rfl rfl (eight_bytes w6 97 98) (by omega) ?_ ?_)
  · rw [World.size_alloc]; have := GG.out.size; omega
  intro v' wa ho hg
  obtain ⟨q1, c1, rfl⟩ := own_slice ho
  have GA := Lib.hid (grown_own (grown_trans GG.out (grown1 w6 _)) hg (fun g e => OL.out g e) (Nat.le_refl _))
  have ho2 : wa.ownsRow w.heap.size 5 1 (.slice q1 32 c1) 32 (([12, 0, 0, 0, 32, 0, 0, 0, 24, 0, 0, 0, 0, 0, 0, 0, 0, 0, 0, 0, 0, 0, 0, 0, 97, 98, 0, 0, 0, 0, 0, 0] : List Int).map (Value.int .u8)) := ho
  have IB := Lib.hid (IsBytes.of_own (by rfl) ho2)
  have NA0 := Name_any (w := wa) [12, 0, 0, 0, 32, 0, 0, 0, 24, 0, 0, 0, 0, 0, 0, 0, 0, 0, 0, 0, 0, 0, 0, 0, 97, 98, 0, 0, 0, 0, 0, 0] q1 c1 32 IB.out (by rfl) (by decide) (by exact small_lit (by decide))
  rw [show nameV [12, 0, 0, 0, 32, 0, 0, 0, 24, 0, 0, 0, 0, 0, 0, 0, 0, 0, 0, 0, 0, 0, 0, 0, 97, 98, 0, 0, 0, 0, 0, 0] = [97, 98] by decide, show nameErr [12, 0, 0, 0, 32, 0, 0, 0, 24, 0, 0, 0, 0, 0, 0, 0, 0, 0, 0, 0, 0, 0, 0, 0, 97, 98, 0, 0, 0, 0, 0, 0] = 0 by decide] at NA0
  have NA := Lib.hid NA0
  clear ho hg ho2 NA0
  go_wp2_with fail
  refine NA.out.mono ?_
  rintro e wb ⟨rfl, hg⟩
  have GB := Lib.hid (grown_trans GA.out hg)
  have R := Lib.hid (Row5.start wb)
  clear hg OL
  go_wp2_with fail
  refine (R.out.next 153 (by decide) (by decide)).mono ?_
  rintro e w7 ⟨v, rfl, hr⟩
  have R' := Lib.hid hr
  clear R hr
  have R := R'
  clear R'
  go_wp2_with fail
  refine (R.out.next 8 (by decide) (by decide)).mono ?_
  rintro e w8 ⟨v, rfl, hr⟩
  have R' := Lib.hid hr
  clear R hr
  have R := R'
  clear R'
  obtain ⟨q, c, rfl, ho, hg⟩ := R.out
  have ho2 : (w8).ownsRow wb.heap.size 5 1 (.slice q 8 c) 8 (([153, 0, 0, 0, 8, 0, 0, 0] : List Int).map (Value.int .u8)) := ho
  have IB2 := Lib.hid (IsBytes.of_own (by rfl) ho2)
  have NA0 := Name_any (w := w8) [153, 0, 0, 0, 8, 0, 0, 0] q c 8 IB2.out (by rfl) (by decide) (by exact small_lit (by decide))
  rw [show nameV [153, 0, 0, 0, 8, 0, 0, 0] = [] by decide, show nameErr [153, 0, 0, 0, 8, 0, 0, 0] = 7 by decide] at NA0
  have NB := Lib.hid NA0
  have GC := Lib.hid (grown_trans GB.out hg)
  have BL2 := Lib.hid (show (([] ++ le4 153 ++ le4 8) : List Int).length = 8 from rfl)
  rw [BL2.out]
  clear ho hg ho2 NA0 R
  go_wp2_with fail
  refine NB.out.mono ?_
  rintro e wc ⟨rfl, hg⟩
  have GD := Lib.hid (grown_trans GC.out hg)
  have R := Lib.hid (Row5.start wc)
  clear hg
  go_wp2_with fail
  refine (R.out.next 2147483700 (by decide) (by decide)).mono ?_
  rintro e w9 ⟨v, rfl, hr⟩
  have R' := Lib.hid hr
  clear R hr
  have R := R'
  clear R'
  go_wp2_with fail
  refine (R.out.next 16 (by decide) (by decide)).mono ?_
  rintro e w10 ⟨v, rfl, hr⟩
  have R' := Lib.hid hr
  clear R hr
  have R := R'
  clear R'
  go_wp2_with fail
  refine (R.out.next 7 (by decide) (by decide)).mono ?_
  rintro e w11 ⟨v, rfl, hr⟩
  have R' := Lib.hid hr
  clear R hr
  have R := R'
  clear R'
  go_wp2_with fail
  refine (R.out.next 9 (by decide) (by decide)).mono ?_
  rintro e w12 ⟨v, rfl, hr⟩
  have R' := Lib.hid hr
  clear R hr
  have R := R'
  clear R'
  obtain ⟨q, c, rfl, ho, hg⟩ := R.out
  have BL3 := Lib.hid (show (([] ++ le4 2147483700 ++ le4 16 ++ le4 7 ++ le4 9) : List Int).length = 16 from rfl)
  rw [BL3.out] at ho ⊢
  have OW3 := Lib.hid (own_grown ho (grown1 w12 (.cells #[.int .u8 1] 5)))
  have GE := Lib.hid hg
  have OL3 := Lib.hid (fun g e => (ho.lt g e).1)
  clear ho hg R
  go_wp2_with (at_builtin; refine wp_append_bytes rfl _ _ rfl rfl _ 16 _ rfl OW3.out [1] 1 rfl rfl (lone_byte w12) (by omega) ?_ ?_)
  · rw [World.size_alloc]; have := GE.out.size; omega
  intro v' wd ho hg
  obtain ⟨q3, c3, rfl⟩ := own_slice ho
  have ho3 : wd.ownsRow wc.heap.size 5 1 (.slice q3 17 c3) 17 (([52, 0, 0, 128, 16, 0, 0, 0, 7, 0, 0, 0, 9, 0, 0, 0, 1] : List Int).map (Value.int .u8)) := ho
  have IB3 := Lib.hid (IsBytes.of_own (by rfl) ho3)
  have GF := Lib.hid (grown_trans GD.out (grown_own (grown_trans GE.out (grown1 w12 _)) hg (fun g e => OL3.out g e) (Nat.le_refl _)))
  have SP := Lib.hid (Spans_any (w := wd) [52, 0, 0, 128, 16, 0, 0, 0, 7, 0, 0, 0, 9, 0, 0, 0, 1] q3 c3 17 IB3.out (by rfl) (by decide) (by exact small_lit (by decide)))
  clear ho hg ho3
  go_wp2_with fail
  refine SP.out.mono ?_
  rintro e we ⟨_, hgood, hg⟩
  obtain ⟨q4, N, c4, base, hN, rfl, hown, hbase⟩ := hgood (by decide)
  rw [show spansOf [52, 0, 0, 128, 16, 0, 0, 0, 7, 0, 0, 0, 9, 0, 0, 0, 1] = [(7, 9)] by decide] at hN hown
  obtain rfl : N = 1 := hN
  obtain ⟨r, rfl, r0, r1⟩ := span_cells hown (i := 0) rfl
  have GG2 := Lib.hid (grown_trans GF.out hg)
  simp only [] at r0 r1
  have e1 : (strOfNums [97, 98]) = ⟨#[97, 98]⟩ := rfl
  clear hgood hg hown hbase
  have K1 := Lib.hid (fun w : World => Known_any (w := w) 25 (by decide))
  have K2 := Lib.hid (fun w : World => Known_any (w := w) 153 (by decide))
  go_wp2_with fail
  refine (K1.out _).mono ?_
  rintro e wf ⟨rfl, hg⟩
  rw [show decide (leastN 25 ≠ 0) = true by decide]
  have GH := Lib.hid (grown_trans GG2.out hg)
  clear hg r0 r1
  go_wp2_with fail
  refine (K2.out _).mono ?_
  rintro e wg ⟨rfl, hg⟩
  rw [show decide (leastN 153 ≠ 0) = false by decide]
  have GI := Lib.hid (grown_trans GH.out hg)
  clear hg
  go_wp2
  go_ret
  exact ⟨rfl, below_grown GI.out (Nat.le_refl _) (by simp)⟩
end Go.Proofs.Ytemdbfgpimfkdaa
