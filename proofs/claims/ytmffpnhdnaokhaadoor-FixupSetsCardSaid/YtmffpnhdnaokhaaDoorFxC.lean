/- Two fixups held against each other: cmp.Compare at each kind, the program's seven looks and its order, the document's 'less'. No condition. -/
import Derived.Test.YtmffpnhdnaokhaaDoorFxM
import Derived.Deep.Cut
import Derived.Laws.EntriesVeiled
namespace Go.Proofs.YtmffpnhdnaokhaaDoor
open Go.RowKit
variable {w w' W V : World}

theorem nanU (x : Int) (w : World) : Calls Tryd.prog 79 #[.int .u64 x] w fun e w' => e = .returned (.bool false) ∧ w' = w := by
  go_enter Tryd.func79, Tryd.ntmps79
  go_wp2
  go_ret
  exact ⟨by simp, rfl⟩
set_option maxHeartbeats 1000000 in
theorem cmpU (x y : Int) (w : World) : Calls Tryd.prog 50 #[.int .u64 x, .int .u64 y] w fun e w' => e = .returned (.int .i64 (cmpI x y)) ∧ w' = w := by
  obtain ⟨r, hr⟩ : ∃ r, r = cmpI x y := ⟨_, rfl⟩
  rw [← hr]
  have HR := Lib.hid hr
  clear hr
  by_cases h1 : x < y
  · have e1 : r = -1 := by rw [HR.out]; unfold cmpI; rw [if_pos h1]
    have d1 : decide (x < y) = true := decide_eq_true h1
    go_enter Tryd.func50, Tryd.ntmps50
    go_wp2_with (go_at_call 79; refine (nanU _ _).mono ?_; rintro e w' ⟨rfl, rfl⟩)
    go_ret
    exact ⟨by rw [e1]; rfl, rfl⟩
  · have d1 : decide (x < y) = false := decide_eq_false h1
    by_cases h2 : y < x
    · have e1 : r = 1 := by rw [HR.out]; unfold cmpI; rw [if_neg h1, if_pos h2]
      have d2 : decide (y < x) = true := decide_eq_true h2
      go_enter Tryd.func50, Tryd.ntmps50
      go_wp2_with (go_at_call 79; refine (nanU _ _).mono ?_; rintro e w' ⟨rfl, rfl⟩)
      go_ret
      exact ⟨by rw [e1]; rfl, rfl⟩
    · have e1 : r = 0 := by rw [HR.out]; unfold cmpI; rw [if_neg h1, if_neg h2]
      have d2 : decide (y < x) = false := decide_eq_false h2
      go_enter Tryd.func50, Tryd.ntmps50
      go_wp2_with (go_at_call 79; refine (nanU _ _).mono ?_; rintro e w' ⟨rfl, rfl⟩)
      go_ret
      exact ⟨by rw [e1]; rfl, rfl⟩
theorem nanK (x : Int) (w : World) : Calls Tryd.prog 80 #[.int .i64 x] w fun e w' => e = .returned (.bool false) ∧ w' = w := by
  go_enter Tryd.func80, Tryd.ntmps80
  go_wp2
  go_ret
  exact ⟨by simp, rfl⟩
set_option maxHeartbeats 1000000 in
theorem cmpK (x y : Int) (w : World) : Calls Tryd.prog 52 #[.int .i64 x, .int .i64 y] w fun e w' => e = .returned (.int .i64 (cmpI x y)) ∧ w' = w := by
  obtain ⟨r, hr⟩ : ∃ r, r = cmpI x y := ⟨_, rfl⟩
  rw [← hr]
  have HR := Lib.hid hr
  clear hr
  by_cases h1 : x < y
  · have e1 : r = -1 := by rw [HR.out]; unfold cmpI; rw [if_pos h1]
    have d1 : decide (x < y) = true := decide_eq_true h1
    go_enter Tryd.func52, Tryd.ntmps52
    go_wp2_with (go_at_call 80; refine (nanK _ _).mono ?_; rintro e w' ⟨rfl, rfl⟩)
    go_ret
    exact ⟨by rw [e1]; rfl, rfl⟩
  · have d1 : decide (x < y) = false := decide_eq_false h1
    by_cases h2 : y < x
    · have e1 : r = 1 := by rw [HR.out]; unfold cmpI; rw [if_neg h1, if_pos h2]
      have d2 : decide (y < x) = true := decide_eq_true h2
      go_enter Tryd.func52, Tryd.ntmps52
      go_wp2_with (go_at_call 80; refine (nanK _ _).mono ?_; rintro e w' ⟨rfl, rfl⟩)
      go_ret
      exact ⟨by rw [e1]; rfl, rfl⟩
    · have e1 : r = 0 := by rw [HR.out]; unfold cmpI; rw [if_neg h1, if_neg h2]
      have d2 : decide (y < x) = false := decide_eq_false h2
      go_enter Tryd.func52, Tryd.ntmps52
      go_wp2_with (go_at_call 80; refine (nanK _ _).mono ?_; rintro e w' ⟨rfl, rfl⟩)
      go_ret
      exact ⟨by rw [e1]; rfl, rfl⟩
theorem nanN (x : Int) (w : World) : Calls Tryd.prog 81 #[.int .i64 x] w fun e w' => e = .returned (.bool false) ∧ w' = w := by
  go_enter Tryd.func81, Tryd.ntmps81
  go_wp2
  go_ret
  exact ⟨by simp, rfl⟩
set_option maxHeartbeats 1000000 in
theorem cmpN (x y : Int) (w : World) : Calls Tryd.prog 55 #[.int .i64 x, .int .i64 y] w fun e w' => e = .returned (.int .i64 (cmpI x y)) ∧ w' = w := by
  obtain ⟨r, hr⟩ : ∃ r, r = cmpI x y := ⟨_, rfl⟩
  rw [← hr]
  have HR := Lib.hid hr
  clear hr
  by_cases h1 : x < y
  · have e1 : r = -1 := by rw [HR.out]; unfold cmpI; rw [if_pos h1]
    have d1 : decide (x < y) = true := decide_eq_true h1
    go_enter Tryd.func55, Tryd.ntmps55
    go_wp2_with (go_at_call 81; refine (nanN _ _).mono ?_; rintro e w' ⟨rfl, rfl⟩)
    go_ret
    exact ⟨by rw [e1]; rfl, rfl⟩
  · have d1 : decide (x < y) = false := decide_eq_false h1
    by_cases h2 : y < x
    · have e1 : r = 1 := by rw [HR.out]; unfold cmpI; rw [if_neg h1, if_pos h2]
      have d2 : decide (y < x) = true := decide_eq_true h2
      go_enter Tryd.func55, Tryd.ntmps55
      go_wp2_with (go_at_call 81; refine (nanN _ _).mono ?_; rintro e w' ⟨rfl, rfl⟩)
      go_ret
      exact ⟨by rw [e1]; rfl, rfl⟩
    · have e1 : r = 0 := by rw [HR.out]; unfold cmpI; rw [if_neg h1, if_neg h2]
      have d2 : decide (y < x) = false := decide_eq_false h2
      go_enter Tryd.func55, Tryd.ntmps55
      go_wp2_with (go_at_call 81; refine (nanN _ _).mono ?_; rintro e w' ⟨rfl, rfl⟩)
      go_ret
      exact ⟨by rw [e1]; rfl, rfl⟩
theorem nanA (x : Int) (w : World) : Calls Tryd.prog 83 #[.int .i64 x] w fun e w' => e = .returned (.bool false) ∧ w' = w := by
  go_enter Tryd.func83, Tryd.ntmps83
  go_wp2
  go_ret
  exact ⟨by simp, rfl⟩
set_option maxHeartbeats 1000000 in
theorem cmpA (x y : Int) (w : World) : Calls Tryd.prog 59 #[.int .i64 x, .int .i64 y] w fun e w' => e = .returned (.int .i64 (cmpI x y)) ∧ w' = w := by
  obtain ⟨r, hr⟩ : ∃ r, r = cmpI x y := ⟨_, rfl⟩
  rw [← hr]
  have HR := Lib.hid hr
  clear hr
  by_cases h1 : x < y
  · have e1 : r = -1 := by rw [HR.out]; unfold cmpI; rw [if_pos h1]
    have d1 : decide (x < y) = true := decide_eq_true h1
    go_enter Tryd.func59, Tryd.ntmps59
    go_wp2_with (go_at_call 83; refine (nanA _ _).mono ?_; rintro e w' ⟨rfl, rfl⟩)
    go_ret
    exact ⟨by rw [e1]; rfl, rfl⟩
  · have d1 : decide (x < y) = false := decide_eq_false h1
    by_cases h2 : y < x
    · have e1 : r = 1 := by rw [HR.out]; unfold cmpI; rw [if_neg h1, if_pos h2]
      have d2 : decide (y < x) = true := decide_eq_true h2
      go_enter Tryd.func59, Tryd.ntmps59
      go_wp2_with (go_at_call 83; refine (nanA _ _).mono ?_; rintro e w' ⟨rfl, rfl⟩)
      go_ret
      exact ⟨by rw [e1]; rfl, rfl⟩
    · have e1 : r = 0 := by rw [HR.out]; unfold cmpI; rw [if_neg h1, if_neg h2]
      have d2 : decide (y < x) = false := decide_eq_false h2
      go_enter Tryd.func59, Tryd.ntmps59
      go_wp2_with (go_at_call 83; refine (nanA _ _).mono ?_; rintro e w' ⟨rfl, rfl⟩)
      go_ret
      exact ⟨by rw [e1]; rfl, rfl⟩
theorem nanS (x : ByteArray) (w : World) : Calls Tryd.prog 82 #[.string x] w fun e w' => e = .returned (.bool false) ∧ w' = w := by
  go_enter Tryd.func82, Tryd.ntmps82
  go_wp2
  go_ret
  exact ⟨by simp, rfl⟩
theorem gtr_is (x y : ByteArray) : (!(Op.bytesLess x.toList y.toList || (x.toList == y.toList))) = Op.bytesLess y.toList x.toList := by
  cases h : Op.bytesLess x.toList y.toList with
  | true => rw [less_asym h]; rfl
  | false =>
    cases k : Op.bytesLess y.toList x.toList with
    | true =>
      have : (x.toList == y.toList) = false := beq_eq_false_iff_ne.2 fun e => by rw [e, less_irr] at k; cases k
      rw [this]; rfl
    | false => rw [less_tri h k, beq_self_eq_true]; rfl
set_option maxHeartbeats 1000000 in
theorem cmpStr (x y : ByteArray) (w : World) : Calls Tryd.prog 57 #[.string x, .string y] w fun e w' => e = .returned (.int .i64 (cmpS x y)) ∧ w' = w := by
  obtain ⟨r, hr⟩ : ∃ r, r = cmpS x y := ⟨_, rfl⟩
  have hg := gtr_is x y
  rw [← hr]
  have HR := Lib.hid hr
  clear hr
  cases h1 : Op.bytesLess x.toList y.toList with
  | true =>
    have e1 : r = -1 := by rw [HR.out]; unfold cmpS; rw [if_pos h1]
    clear hg
    go_enter Tryd.func57, Tryd.ntmps57
    go_wp2_with (go_at_call 82; refine (nanS _ _).mono ?_; rintro e w' ⟨rfl, rfl⟩)
    go_ret
    exact ⟨by rw [e1]; rfl, rfl⟩
  | false =>
    cases h2 : Op.bytesLess y.toList x.toList with
    | true =>
      have e1 : r = 1 := by rw [HR.out]; unfold cmpS; rw [if_neg (by simp [h1]), if_pos h2]
      rw [h2, h1] at hg
      rw [Bool.false_or, Bool.not_eq_true'] at hg
      go_enter Tryd.func57, Tryd.ntmps57
      go_wp2_with (go_at_call 82; refine (nanS _ _).mono ?_; rintro e w' ⟨rfl, rfl⟩)
      go_ret
      exact ⟨by rw [e1]; rfl, rfl⟩
    | false =>
      have e1 : r = 0 := by rw [HR.out]; unfold cmpS; rw [if_neg (by simp [h1]), if_neg (by simp [h2])]
      rw [h2, h1] at hg
      rw [Bool.false_or, Bool.not_eq_false'] at hg
      go_enter Tryd.func57, Tryd.ntmps57
      go_wp2_with (go_at_call 82; refine (nanS _ _).mono ?_; rintro e w' ⟨rfl, rfl⟩)
      go_ret
      exact ⟨by rw [e1]; rfl, rfl⟩
theorem cmpWeak (x y : Bool) (w : World) : Calls Tryd.prog 61 #[.bool x, .bool y] w fun e w' => e = .returned (.int .i64 (cmpB x y)) ∧ w' = w := by
  cases x <;> cases y <;>
  · go_enter Tryd.func61, Tryd.ntmps61
    go_wp2
    go_ret
    exact ⟨rfl, rfl⟩
theorem setCell_drawn (w : World) (a : Addr) (v : Value) : (w.setCell a v).drawn = w.drawn := rfl
/-- Blocks are laid, nothing is turned or drawn. -/
structure Grew (w w' : World) : Prop where
  g : w.grownBy w' none
  d : w'.drawn = w.drawn
theorem Grew.refl (w : World) : Grew w w := ⟨grown_refl _ _, rfl⟩
theorem Grew.trans (h : Grew w W) (k : Grew W V) : Grew w V := ⟨grown_trans h.g k.g, k.d.trans h.d⟩
/-- Two fixups, each boxed. -/
theorem two_grew (w : World) (a b : Fx) : ∃ W, (w.alloc (.cells #[.int .u64 a.at_, .int .i64 a.kind, .int .u64 a.target, .int .i64 a.ord, .string a.sym, .int .i64 a.add, .bool a.weak] 26)).alloc (.cells #[.int .u64 b.at_, .int .i64 b.kind, .int .u64 b.target, .int .i64 b.ord, .string b.sym, .int .i64 b.add, .bool b.weak] 26) = W ∧ FxAt W w.heap.size a ∧ FxAt W (w.heap.size + 1) b ∧ Grew w W := by
  refine ⟨_, rfl, ?_, ?_, grown2 w _ _, rfl⟩
  · exact (FxAt.new w a).grown (grown1 _ _)
  · have := FxAt.new (w.alloc (.cells #[.int .u64 a.at_, .int .i64 a.kind, .int .u64 a.target, .int .i64 a.ord, .string a.sym, .int .i64 a.add, .bool a.weak] 26)) b
    rw [World.size_alloc] at this
    exact this
theorem two_new (w : World) (a b : Fx) : ∃ W, (w.alloc (.cells #[.int .u64 a.at_, .int .i64 a.kind, .int .u64 a.target, .int .i64 a.ord, .string a.sym, .int .i64 a.add, .bool a.weak] 26)).alloc (.cells #[.int .u64 b.at_, .int .i64 b.kind, .int .u64 b.target, .int .i64 b.ord, .string b.sym, .int .i64 b.add, .bool b.weak] 26) = W ∧ FxAt W w.heap.size a ∧ FxAt W (w.heap.size + 1) b ∧ w.grownBy W none := by
  obtain ⟨W, h1, h2, h3, h4⟩ := two_grew w a b
  exact ⟨W, h1, h2, h3, h4.g⟩
set_option maxHeartbeats 1000000 in
theorem look1 (a b : Fx) (w : World) : Calls Tryd.prog 49 #[fxV a, fxV b] w fun e w' => e = .returned (.int .i64 (lookN 0 a b)) ∧ Grew w w' := by
  obtain ⟨W, hW, ha, hb, hg⟩ := two_grew w a b
  obtain ⟨a0, a1, a2, a3, a4, a5, a6⟩ := ha.c
  obtain ⟨b0, b1, b2, b3, b4, b5, b6⟩ := hb.c
  clear ha hb
  have G := Lib.hid hg
  clear hg
  unfold fxV fxArr
  go_enter Tryd.func49, Tryd.ntmps49
  go_upto_region 1 with fail
  clear hW
  go_wp2_with (go_at_call 50; refine (cmpU _ _ _).mono ?_; rintro e w' ⟨rfl, rfl⟩)
  go_ret
  exact ⟨rfl, G.out⟩
set_option maxHeartbeats 1000000 in
theorem look2 (a b : Fx) (w : World) : Calls Tryd.prog 51 #[fxV a, fxV b] w fun e w' => e = .returned (.int .i64 (lookN 1 a b)) ∧ Grew w w' := by
  obtain ⟨W, hW, ha, hb, hg⟩ := two_grew w a b
  obtain ⟨a0, a1, a2, a3, a4, a5, a6⟩ := ha.c
  obtain ⟨b0, b1, b2, b3, b4, b5, b6⟩ := hb.c
  clear ha hb
  have G := Lib.hid hg
  clear hg
  unfold fxV fxArr
  go_enter Tryd.func51, Tryd.ntmps51
  go_upto_region 1 with fail
  clear hW
  go_wp2_with (go_at_call 52; refine (cmpK _ _ _).mono ?_; rintro e w' ⟨rfl, rfl⟩)
  go_ret
  exact ⟨rfl, G.out⟩
set_option maxHeartbeats 1000000 in
theorem look3 (a b : Fx) (w : World) : Calls Tryd.prog 53 #[fxV a, fxV b] w fun e w' => e = .returned (.int .i64 (lookN 2 a b)) ∧ Grew w w' := by
  obtain ⟨W, hW, ha, hb, hg⟩ := two_grew w a b
  obtain ⟨a0, a1, a2, a3, a4, a5, a6⟩ := ha.c
  obtain ⟨b0, b1, b2, b3, b4, b5, b6⟩ := hb.c
  clear ha hb
  have G := Lib.hid hg
  clear hg
  unfold fxV fxArr
  go_enter Tryd.func53, Tryd.ntmps53
  go_upto_region 1 with fail
  clear hW
  go_wp2_with (go_at_call 50; refine (cmpU _ _ _).mono ?_; rintro e w' ⟨rfl, rfl⟩)
  go_ret
  exact ⟨rfl, G.out⟩
set_option maxHeartbeats 1000000 in
theorem look4 (a b : Fx) (w : World) : Calls Tryd.prog 54 #[fxV a, fxV b] w fun e w' => e = .returned (.int .i64 (lookN 3 a b)) ∧ Grew w w' := by
  obtain ⟨W, hW, ha, hb, hg⟩ := two_grew w a b
  obtain ⟨a0, a1, a2, a3, a4, a5, a6⟩ := ha.c
  obtain ⟨b0, b1, b2, b3, b4, b5, b6⟩ := hb.c
  clear ha hb
  have G := Lib.hid hg
  clear hg
  unfold fxV fxArr
  go_enter Tryd.func54, Tryd.ntmps54
  go_upto_region 1 with fail
  clear hW
  go_wp2_with (go_at_call 55; refine (cmpN _ _ _).mono ?_; rintro e w' ⟨rfl, rfl⟩)
  go_ret
  exact ⟨rfl, G.out⟩
set_option maxHeartbeats 1000000 in
theorem look5 (a b : Fx) (w : World) : Calls Tryd.prog 56 #[fxV a, fxV b] w fun e w' => e = .returned (.int .i64 (lookN 4 a b)) ∧ Grew w w' := by
  obtain ⟨W, hW, ha, hb, hg⟩ := two_grew w a b
  obtain ⟨a0, a1, a2, a3, a4, a5, a6⟩ := ha.c
  obtain ⟨b0, b1, b2, b3, b4, b5, b6⟩ := hb.c
  clear ha hb
  have G := Lib.hid hg
  clear hg
  unfold fxV fxArr
  go_enter Tryd.func56, Tryd.ntmps56
  go_upto_region 1 with fail
  clear hW
  go_wp2_with (go_at_call 57; refine (cmpStr _ _ _).mono ?_; rintro e w' ⟨rfl, rfl⟩)
  go_ret
  exact ⟨rfl, G.out⟩
set_option maxHeartbeats 1000000 in
theorem look6 (a b : Fx) (w : World) : Calls Tryd.prog 58 #[fxV a, fxV b] w fun e w' => e = .returned (.int .i64 (lookN 5 a b)) ∧ Grew w w' := by
  obtain ⟨W, hW, ha, hb, hg⟩ := two_grew w a b
  obtain ⟨a0, a1, a2, a3, a4, a5, a6⟩ := ha.c
  obtain ⟨b0, b1, b2, b3, b4, b5, b6⟩ := hb.c
  clear ha hb
  have G := Lib.hid hg
  clear hg
  unfold fxV fxArr
  go_enter Tryd.func58, Tryd.ntmps58
  go_upto_region 1 with fail
  clear hW
  go_wp2_with (go_at_call 59; refine (cmpA _ _ _).mono ?_; rintro e w' ⟨rfl, rfl⟩)
  go_ret
  exact ⟨rfl, G.out⟩
set_option maxHeartbeats 1000000 in
theorem look7 (a b : Fx) (w : World) : Calls Tryd.prog 60 #[fxV a, fxV b] w fun e w' => e = .returned (.int .i64 (lookN 6 a b)) ∧ Grew w w' := by
  obtain ⟨W, hW, ha, hb, hg⟩ := two_grew w a b
  obtain ⟨a0, a1, a2, a3, a4, a5, a6⟩ := ha.c
  obtain ⟨b0, b1, b2, b3, b4, b5, b6⟩ := hb.c
  clear ha hb
  have G := Lib.hid hg
  clear hg
  unfold fxV fxArr
  go_enter Tryd.func60, Tryd.ntmps60
  go_upto_region 1 with fail
  clear hW
  go_wp2_with (go_at_call 61; refine (cmpWeak _ _ _).mono ?_; rintro e w' ⟨rfl, rfl⟩)
  go_ret
  exact ⟨rfl, G.out⟩
def fnV (f : Nat) : Value := .func (.func f) #[] #[]
def lookFs : Array Value := #[fnV 49, fnV 51, fnV 53, fnV 54, fnV 56, fnV 58, fnV 60]
theorem results_row {fn : Func} {p : Tmp} {T : TypeId} {g : Nat} {v : Value} (hr : fn.results = #[.cell p T]) {tmps : Array Value} (hp : tmps.getD p undef = .pointer (some ⟨g, 0, none⟩)) (hl : (loadVar T ⟨g, 0, none⟩).run Tryd.prog w = .ok v w) :
    (results fn tmps).run Tryd.prog w = .ok v w := by
  have e : (asAddr (.pointer (some ⟨g, 0, none⟩)) : Sem Addr).run Tryd.prog w = .ok ⟨g, 0, none⟩ w := rfl
  simp only [Array.getD_eq_getD_getElem?] at hp
  simp only [results, hr]
  simp [Sem.run_bind, Result.andThen, hp, e, hl]
theorem funs_put {g : Nat} {T : TypeId} {z : Array Value} (h : w.heap[g]? = some (.cells z T (0, 0))) (hz : z.size = 7) (v0 v1 v2 v3 v4 v5 v6 : Value) :
    ((((((((w.setCell ⟨g, 0, none⟩ v0).setCell ⟨g, 1, none⟩ v1).setCell ⟨g, 2, none⟩ v2).setCell ⟨g, 3, none⟩ v3).setCell ⟨g, 4, none⟩ v4).setCell ⟨g, 5, none⟩ v5).setCell ⟨g, 6, none⟩ v6)).heap[g]? = some (.cells #[v0, v1, v2, v3, v4, v5, v6] T (0, 0)) := by
  rw [heap_setCell_same _ g 6 _ _ _ (heap_setCell_same _ g 5 _ _ _ (heap_setCell_same _ g 4 _ _ _ (heap_setCell_same _ g 3 _ _ _ (heap_setCell_same _ g 2 _ _ _ (heap_setCell_same _ g 1 _ _ _ (heap_setCell_same w g 0 _ _ _ h))))))]
  obtain ⟨l⟩ := z
  match l, hz with
  | [a0, a1, a2, a3, a4, a5, a6], _ => rfl
set_option maxHeartbeats 1000000 in
theorem looks_any (w : World) : Calls Tryd.prog 30 #[] w fun e w' => e = .returned (.agg lookFs) ∧ Grew w w' := by
  obtain ⟨g, hg⟩ : ∃ g, w.heap.size = g := ⟨_, rfl⟩
  obtain ⟨W, hW⟩ : ∃ W, w.alloc (.cells #[Value.nilFunc, Value.nilFunc, Value.nilFunc, Value.nilFunc, Value.nilFunc, Value.nilFunc, Value.nilFunc] 53) = W := ⟨_, rfl⟩
  have g0 := grown1 w (.cells #[Value.nilFunc, Value.nilFunc, Value.nilFunc, Value.nilFunc, Value.nilFunc, Value.nilFunc, Value.nilFunc] 53)
  have h0 := heap_alloc_new w (.cells #[Value.nilFunc, Value.nilFunc, Value.nilFunc, Value.nilFunc, Value.nilFunc, Value.nilFunc, Value.nilFunc] 53)
  rw [hW] at g0 h0
  rw [hg] at h0
  have fz : ∀ i, W.frozen? ⟨g, i, none⟩ = false := fun i => free_of h0
  have f0 := fz 0
  have f1 := fz 1
  have f2 := fz 2
  have f3 := fz 3
  have f4 := fz 4
  have f5 := fz 5
  have f6 := fz 6
  have c0 : W.cell? ⟨g, 0, none⟩ = some Value.nilFunc := by rw [cell_of h0]; rfl
  have c1 : W.cell? ⟨g, 1, none⟩ = some Value.nilFunc := by rw [cell_of h0]; rfl
  have c2 : W.cell? ⟨g, 2, none⟩ = some Value.nilFunc := by rw [cell_of h0]; rfl
  have c3 : W.cell? ⟨g, 3, none⟩ = some Value.nilFunc := by rw [cell_of h0]; rfl
  have c4 : W.cell? ⟨g, 4, none⟩ = some Value.nilFunc := by rw [cell_of h0]; rfl
  have c5 : W.cell? ⟨g, 5, none⟩ = some Value.nilFunc := by rw [cell_of h0]; rfl
  have c6 : W.cell? ⟨g, 6, none⟩ = some Value.nilFunc := by rw [cell_of h0]; rfl
  have GG := Lib.hid g0
  have DD := Lib.hid (show W.drawn = w.drawn by rw [← hW]; rfl)
  have HH := Lib.hid (funs_put h0 rfl (fnV 49) (fnV 51) (fnV 53) (fnV 54) (fnV 56) (fnV 58) (fnV 60))
  have HS := Lib.hid hg
  clear g0 h0 fz
  go_enter Tryd.func30, Tryd.ntmps30
  go_upto_region 1 with fail
  clear hW hg
  go_wp2
  refine bodyPost_ret (results_row rfl rfl (run_loadVar_row _ g _ _ _ _ _ HH.out Tryd.underlying53 rfl (by kernel_rfl))) rfl ?_
  refine ⟨rfl, ?_⟩
  have := HS.out
  subst this
  exact ⟨grown_new GG.out (grown_setCell (grown_setCell (grown_setCell (grown_setCell (grown_setCell (grown_setCell (grown_setCell (grown_refl W _) _) _) _) _) _) _) _) (Nat.le_refl _), by rw [setCell_drawn, setCell_drawn, setCell_drawn, setCell_drawn, setCell_drawn, setCell_drawn, setCell_drawn]; exact DD.out⟩

end Go.Proofs.YtmffpnhdnaokhaaDoor
