/- FixupOrders: the order of any two fixups, and that it is one. Condition: the library's table reads as it was laid. -/
import Derived.Test.YtmffpnhdnaokhaaDoorFxW
import Derived.Test.YtmffpnhdnaokhaaDoorFxD
import Derived.Test.YtmffpnhdnaokhaaDoorFxE
import Derived.Test.YtmffpnhdnaokhaaDoorFxQ
namespace Go.Proofs.YtmffpnhdnaokhaaDoor.fixupOrders
open Go.RowKit
variable {w w' W V : World}

theorem three_new (w : World) (a b c : Fx) : ∃ W, ((w.alloc (.cells #[.int .u64 a.at_, .int .i64 a.kind, .int .u64 a.target, .int .i64 a.ord, .string a.sym, .int .i64 a.add, .bool a.weak] 26)).alloc (.cells #[.int .u64 b.at_, .int .i64 b.kind, .int .u64 b.target, .int .i64 b.ord, .string b.sym, .int .i64 b.add, .bool b.weak] 26)).alloc (.cells #[.int .u64 c.at_, .int .i64 c.kind, .int .u64 c.target, .int .i64 c.ord, .string c.sym, .int .i64 c.add, .bool c.weak] 26) = W ∧ FxAt W w.heap.size a ∧ FxAt W (w.heap.size + 1) b ∧ FxAt W (w.heap.size + 2) c ∧ w.grownBy W none := by
  obtain ⟨V, hV, ha, hb, hg⟩ := two_new w a b
  refine ⟨_, rfl, ?_, ?_, ?_, ?_⟩
  · rw [hV]; exact ha.grown (grown1 _ _)
  · rw [hV]; exact hb.grown (grown1 _ _)
  · rw [hV]
    have := FxAt.new V c
    have hs : V.heap.size = w.heap.size + 2 := by rw [← hV]; simp [World.size_alloc]
    rw [hs] at this
    exact this
  · rw [hV]; exact grown_trans hg (grown1 _ _)
set_option maxRecDepth 20000 in
set_option maxHeartbeats 3200000 in
theorem walk (a b c : Fx) (w : World) (ht : TabOk w) : Calls Tryd.prog 4 #[fxV a, fxV b, fxV c] w fun e w' => e = .returned (.bool true) ∧ w.grownBy w' none := by
  obtain ⟨W, hW, ha, hb, hc, hg⟩ := three_new w a b c
  obtain ⟨r, hr⟩ : ∃ r, r = ordN a b := ⟨_, rfl⟩
  obtain ⟨s, hs⟩ : ∃ s, s = ordN b c := ⟨_, rfl⟩
  obtain ⟨t, hT⟩ : ∃ t, t = ordN a c := ⟨_, rfl⟩
  have A := Lib.hid (fun (V : World) (h : W.grownBy V none) => (ha.grown h).c)
  have B := Lib.hid (fun (V : World) (h : W.grownBy V none) => (hb.grown h).c)
  have C := Lib.hid (fun (V : World) (h : W.grownBy V none) => (hc.grown h).c)
  have TK := Lib.hid (fun (V : World) (h : W.grownBy V none) => known_any ((ht.grown hg).grown h))
  have hba : ordN b a = -r := by rw [hr]; exact held_ord.anti a b
  have L1 := Lib.hid (fun V => less_any a b V)
  have L2 := Lib.hid (fun V => less_any b a V)
  have O1 := Lib.hid (fun V => order_any a b V)
  have O2 := Lib.hid (fun V => order_any b a V)
  have O3 := Lib.hid (fun V => order_any a a V)
  have O4 := Lib.hid (fun V => order_any b c V)
  have O5 := Lib.hid (fun V => order_any a c V)
  rw [less_ord, ← hr] at L1
  rw [less_ord, hba] at L2
  rw [← hr] at O1
  rw [hba] at O2
  rw [ord_self] at O3
  rw [← hs] at O4
  rw [← hT] at O5
  have TRI := Lib.hid (show r ≤ 0 → s ≤ 0 → t ≤ 0 by rw [hr, hs, hT]; exact held_ord.trans a b c)
  have ONE := Lib.hid (show r = -1 ∨ r = 0 ∨ r = 1 by rw [hr]; exact held_ord.one a b)
  have EQ := Lib.hid (show r = 0 ↔ a = b by rw [hr]; exact ord_iff)
  have G := Lib.hid hg
  have HW := Lib.hid hW
  obtain ⟨g, hgg⟩ : ∃ g, w.heap.size = g := ⟨_, rfl⟩
  rw [hgg] at A B C
  have HGG := Lib.hid hgg
  unfold fxV fxArr at L1 L2 O1 O2 O3 O4 O5 ⊢
  clear ha hb hc hg hW hr hs hT hba ht hgg
  go_enter Tryd.func4, Tryd.ntmps4
  go_upto_region 1 with fail
  rw [HW.out, HGG.out]

  obtain ⟨w0, hw0⟩ : ∃ V, V = W := ⟨_, rfl⟩
  have G0 := Lib.hid (show W.grownBy w0 none by rw [hw0]; exact grown_refl _ _)
  rw [← hw0]
  clear hw0
  rcases ONE.out with hr | hr | hr

  · subst hr
    rw [show (-(-1) : Int) = 1 from rfl, show decide ((1 : Int) < 0) = false from rfl] at L2
    rw [show (-(-1) : Int) = 1 from rfl] at O2
    rw [show decide ((-1 : Int) < 0) = true from rfl] at L1
    obtain ⟨a0, a1, a2, a3, a4, a5, a6⟩ := A.out w0 G0.out
    obtain ⟨b0, b1, b2, b3, b4, b5, b6⟩ := B.out w0 G0.out
    go_wp2_with fail
    refine (L1.out _).mono ?_
    rintro e w1 ⟨rfl, hg⟩
    have G1 := Lib.hid (grown_trans G0.out hg)
    clear hg
    clear a0 a1 a2 a3 a4 a5 a6 b0 b1 b2 b3 b4 b5 b6
    obtain ⟨a0, a1, a2, a3, a4, a5, a6⟩ := A.out w1 G1.out
    obtain ⟨b0, b1, b2, b3, b4, b5, b6⟩ := B.out w1 G1.out
    go_wp2_with fail
    refine (L2.out _).mono ?_
    rintro e w2 ⟨rfl, hg⟩
    have G2 := Lib.hid (grown_trans G1.out hg)
    clear hg
    clear b0 b1 b2 b3 b4 b5 b6 a0 a1 a2 a3 a4 a5 a6
    obtain ⟨a0, a1, a2, a3, a4, a5, a6⟩ := A.out w2 G2.out
    obtain ⟨b0, b1, b2, b3, b4, b5, b6⟩ := B.out w2 G2.out
    go_wp2_with fail
    refine (O1.out _).mono ?_
    rintro e w3 ⟨rfl, hg⟩
    have G3 := Lib.hid (grown_trans G2.out hg)
    clear hg
    clear a0 a1 a2 a3 a4 a5 a6 b0 b1 b2 b3 b4 b5 b6
    obtain ⟨a0, a1, a2, a3, a4, a5, a6⟩ := A.out w3 G3.out
    obtain ⟨b0, b1, b2, b3, b4, b5, b6⟩ := B.out w3 G3.out
    go_wp2_with fail
    refine (O2.out _).mono ?_
    rintro e w4 ⟨rfl, hg⟩
    have G4 := Lib.hid (grown_trans G3.out hg)
    clear hg
    clear b0 b1 b2 b3 b4 b5 b6 a0 a1 a2 a3 a4 a5 a6
    have eqr : ∀ V, (binOp .eql 26 (fxV a) (fxV b)).run Tryd.prog V = .ok (.bool false) V := fun V => by
      rw [eql_fx, decide_eq_false (fun h => absurd (EQ.out.2 h) (by decide))]
    unfold fxV fxArr at eqr
    obtain ⟨a0, a1, a2, a3, a4, a5, a6⟩ := A.out w4 G4.out
    obtain ⟨b0, b1, b2, b3, b4, b5, b6⟩ := B.out w4 G4.out
    go_wp2_with fail
    refine (O3.out _).mono ?_
    rintro e w5 ⟨rfl, hg⟩
    have G5 := Lib.hid (grown_trans G4.out hg)
    clear hg
    clear a0 a1 a2 a3 a4 a5 a6 b0 b1 b2 b3 b4 b5 b6
    clear eqr
    obtain ⟨a0, a1, a2, a3, a4, a5, a6⟩ := A.out w5 G5.out
    obtain ⟨b0, b1, b2, b3, b4, b5, b6⟩ := B.out w5 G5.out
    go_wp2_with fail
    refine (O1.out _).mono ?_
    rintro e w6 ⟨rfl, hg⟩
    have G6 := Lib.hid (grown_trans G5.out hg)
    clear hg
    clear a0 a1 a2 a3 a4 a5 a6 b0 b1 b2 b3 b4 b5 b6
    obtain ⟨b0, b1, b2, b3, b4, b5, b6⟩ := B.out w6 G6.out
    obtain ⟨c0, c1, c2, c3, c4, c5, c6⟩ := C.out w6 G6.out
    go_wp2_with fail
    refine (O4.out _).mono ?_
    rintro e w7 ⟨rfl, hg⟩
    have G7 := Lib.hid (grown_trans G6.out hg)
    clear hg
    clear b0 b1 b2 b3 b4 b5 b6 c0 c1 c2 c3 c4 c5 c6
    by_cases hs : 0 < s
    · have d1 : decide (0 < s) = true := decide_eq_true hs
      go_wp2_with fail
      refine (TK.out _ G7.out).mono ?_
      rintro e w9 ⟨rfl, hg⟩
      have G9 := Lib.hid (grown_trans G.out (grown_trans G7.out hg))
      clear hg
      go_wp2
      go_ret
      exact ⟨rfl, G9.out⟩
    · have d1 : decide (0 < s) = false := decide_eq_false hs
      have d2 : decide (t ≤ 0) = true := decide_eq_true (TRI.out (by decide) (by omega))
      obtain ⟨a0, a1, a2, a3, a4, a5, a6⟩ := A.out w7 G7.out
      obtain ⟨c0, c1, c2, c3, c4, c5, c6⟩ := C.out w7 G7.out
      go_wp2_with fail
      refine (O5.out _).mono ?_
      rintro e w8 ⟨rfl, hg⟩
      have G8 := Lib.hid (grown_trans G7.out hg)
      clear hg
      clear a0 a1 a2 a3 a4 a5 a6 c0 c1 c2 c3 c4 c5 c6
      go_wp2_with fail
      refine (TK.out _ G8.out).mono ?_
      rintro e w9 ⟨rfl, hg⟩
      have G9 := Lib.hid (grown_trans G.out (grown_trans G8.out hg))
      clear hg
      go_wp2
      go_ret
      exact ⟨rfl, G9.out⟩
  · subst hr
    rw [show (-(0) : Int) = 0 from rfl, show decide ((0 : Int) < 0) = false from rfl] at L2
    rw [show (-(0) : Int) = 0 from rfl] at O2
    rw [show decide ((0 : Int) < 0) = false from rfl] at L1
    obtain ⟨a0, a1, a2, a3, a4, a5, a6⟩ := A.out w0 G0.out
    obtain ⟨b0, b1, b2, b3, b4, b5, b6⟩ := B.out w0 G0.out
    go_wp2_with fail
    refine (L1.out _).mono ?_
    rintro e w1 ⟨rfl, hg⟩
    have G1 := Lib.hid (grown_trans G0.out hg)
    clear hg
    clear a0 a1 a2 a3 a4 a5 a6 b0 b1 b2 b3 b4 b5 b6
    obtain ⟨a0, a1, a2, a3, a4, a5, a6⟩ := A.out w1 G1.out
    obtain ⟨b0, b1, b2, b3, b4, b5, b6⟩ := B.out w1 G1.out
    go_wp2_with fail
    refine (L2.out _).mono ?_
    rintro e w2 ⟨rfl, hg⟩
    have G2 := Lib.hid (grown_trans G1.out hg)
    clear hg
    clear b0 b1 b2 b3 b4 b5 b6 a0 a1 a2 a3 a4 a5 a6
    obtain ⟨a0, a1, a2, a3, a4, a5, a6⟩ := A.out w2 G2.out
    obtain ⟨b0, b1, b2, b3, b4, b5, b6⟩ := B.out w2 G2.out
    go_wp2_with fail
    refine (O1.out _).mono ?_
    rintro e w3 ⟨rfl, hg⟩
    have G3 := Lib.hid (grown_trans G2.out hg)
    clear hg
    clear a0 a1 a2 a3 a4 a5 a6 b0 b1 b2 b3 b4 b5 b6
    obtain ⟨a0, a1, a2, a3, a4, a5, a6⟩ := A.out w3 G3.out
    obtain ⟨b0, b1, b2, b3, b4, b5, b6⟩ := B.out w3 G3.out
    go_wp2_with fail
    refine (O2.out _).mono ?_
    rintro e w4 ⟨rfl, hg⟩
    have G4 := Lib.hid (grown_trans G3.out hg)
    clear hg
    clear b0 b1 b2 b3 b4 b5 b6 a0 a1 a2 a3 a4 a5 a6
    have eqr : ∀ V, (binOp .eql 26 (fxV a) (fxV b)).run Tryd.prog V = .ok (.bool true) V := fun V => by
      rw [eql_fx, decide_eq_true (EQ.out.1 (by trivial))]
    unfold fxV fxArr at eqr
    obtain ⟨a0, a1, a2, a3, a4, a5, a6⟩ := A.out w4 G4.out
    obtain ⟨b0, b1, b2, b3, b4, b5, b6⟩ := B.out w4 G4.out
    go_wp2_with fail
    refine (O3.out _).mono ?_
    rintro e w5 ⟨rfl, hg⟩
    have G5 := Lib.hid (grown_trans G4.out hg)
    clear hg
    clear a0 a1 a2 a3 a4 a5 a6 b0 b1 b2 b3 b4 b5 b6
    clear eqr
    obtain ⟨a0, a1, a2, a3, a4, a5, a6⟩ := A.out w5 G5.out
    obtain ⟨b0, b1, b2, b3, b4, b5, b6⟩ := B.out w5 G5.out
    go_wp2_with fail
    refine (O1.out _).mono ?_
    rintro e w6 ⟨rfl, hg⟩
    have G6 := Lib.hid (grown_trans G5.out hg)
    clear hg
    clear a0 a1 a2 a3 a4 a5 a6 b0 b1 b2 b3 b4 b5 b6
    obtain ⟨b0, b1, b2, b3, b4, b5, b6⟩ := B.out w6 G6.out
    obtain ⟨c0, c1, c2, c3, c4, c5, c6⟩ := C.out w6 G6.out
    go_wp2_with fail
    refine (O4.out _).mono ?_
    rintro e w7 ⟨rfl, hg⟩
    have G7 := Lib.hid (grown_trans G6.out hg)
    clear hg
    clear b0 b1 b2 b3 b4 b5 b6 c0 c1 c2 c3 c4 c5 c6
    by_cases hs : 0 < s
    · have d1 : decide (0 < s) = true := decide_eq_true hs
      go_wp2_with fail
      refine (TK.out _ G7.out).mono ?_
      rintro e w9 ⟨rfl, hg⟩
      have G9 := Lib.hid (grown_trans G.out (grown_trans G7.out hg))
      clear hg
      go_wp2
      go_ret
      exact ⟨rfl, G9.out⟩
    · have d1 : decide (0 < s) = false := decide_eq_false hs
      have d2 : decide (t ≤ 0) = true := decide_eq_true (TRI.out (by decide) (by omega))
      obtain ⟨a0, a1, a2, a3, a4, a5, a6⟩ := A.out w7 G7.out
      obtain ⟨c0, c1, c2, c3, c4, c5, c6⟩ := C.out w7 G7.out
      go_wp2_with fail
      refine (O5.out _).mono ?_
      rintro e w8 ⟨rfl, hg⟩
      have G8 := Lib.hid (grown_trans G7.out hg)
      clear hg
      clear a0 a1 a2 a3 a4 a5 a6 c0 c1 c2 c3 c4 c5 c6
      go_wp2_with fail
      refine (TK.out _ G8.out).mono ?_
      rintro e w9 ⟨rfl, hg⟩
      have G9 := Lib.hid (grown_trans G.out (grown_trans G8.out hg))
      clear hg
      go_wp2
      go_ret
      exact ⟨rfl, G9.out⟩
  · subst hr
    rw [show decide ((-1 : Int) < 0) = true from rfl] at L2
    rw [show decide ((1 : Int) < 0) = false from rfl] at L1
    obtain ⟨a0, a1, a2, a3, a4, a5, a6⟩ := A.out w0 G0.out
    obtain ⟨b0, b1, b2, b3, b4, b5, b6⟩ := B.out w0 G0.out
    go_wp2_with fail
    refine (L1.out _).mono ?_
    rintro e w1 ⟨rfl, hg⟩
    have G1 := Lib.hid (grown_trans G0.out hg)
    clear hg
    clear a0 a1 a2 a3 a4 a5 a6 b0 b1 b2 b3 b4 b5 b6
    obtain ⟨a0, a1, a2, a3, a4, a5, a6⟩ := A.out w1 G1.out
    obtain ⟨b0, b1, b2, b3, b4, b5, b6⟩ := B.out w1 G1.out
    go_wp2_with fail
    refine (L2.out _).mono ?_
    rintro e w2 ⟨rfl, hg⟩
    have G2 := Lib.hid (grown_trans G1.out hg)
    clear hg
    clear b0 b1 b2 b3 b4 b5 b6 a0 a1 a2 a3 a4 a5 a6
    obtain ⟨a0, a1, a2, a3, a4, a5, a6⟩ := A.out w2 G2.out
    obtain ⟨b0, b1, b2, b3, b4, b5, b6⟩ := B.out w2 G2.out
    go_wp2_with fail
    refine (O1.out _).mono ?_
    rintro e w3 ⟨rfl, hg⟩
    have G3 := Lib.hid (grown_trans G2.out hg)
    clear hg
    clear a0 a1 a2 a3 a4 a5 a6 b0 b1 b2 b3 b4 b5 b6
    obtain ⟨a0, a1, a2, a3, a4, a5, a6⟩ := A.out w3 G3.out
    obtain ⟨b0, b1, b2, b3, b4, b5, b6⟩ := B.out w3 G3.out
    go_wp2_with fail
    refine (O2.out _).mono ?_
    rintro e w4 ⟨rfl, hg⟩
    have G4 := Lib.hid (grown_trans G3.out hg)
    clear hg
    clear b0 b1 b2 b3 b4 b5 b6 a0 a1 a2 a3 a4 a5 a6
    have eqr : ∀ V, (binOp .eql 26 (fxV a) (fxV b)).run Tryd.prog V = .ok (.bool false) V := fun V => by
      rw [eql_fx, decide_eq_false (fun h => absurd (EQ.out.2 h) (by decide))]
    unfold fxV fxArr at eqr
    obtain ⟨a0, a1, a2, a3, a4, a5, a6⟩ := A.out w4 G4.out
    obtain ⟨b0, b1, b2, b3, b4, b5, b6⟩ := B.out w4 G4.out
    go_wp2_with fail
    refine (O3.out _).mono ?_
    rintro e w5 ⟨rfl, hg⟩
    have G5 := Lib.hid (grown_trans G4.out hg)
    clear hg
    clear a0 a1 a2 a3 a4 a5 a6 b0 b1 b2 b3 b4 b5 b6
    clear eqr
    obtain ⟨a0, a1, a2, a3, a4, a5, a6⟩ := A.out w5 G5.out
    obtain ⟨b0, b1, b2, b3, b4, b5, b6⟩ := B.out w5 G5.out
    go_wp2_with fail
    refine (O1.out _).mono ?_
    rintro e w6 ⟨rfl, hg⟩
    have G6 := Lib.hid (grown_trans G5.out hg)
    clear hg
    clear a0 a1 a2 a3 a4 a5 a6 b0 b1 b2 b3 b4 b5 b6
    go_wp2_with fail
    refine (TK.out _ G6.out).mono ?_
    rintro e w9 ⟨rfl, hg⟩
    have G9 := Lib.hid (grown_trans G.out (grown_trans G6.out hg))
    clear hg
    go_wp2
    go_ret
    exact ⟨rfl, G9.out⟩
end Go.Proofs.YtmffpnhdnaokhaaDoor.fixupOrders
