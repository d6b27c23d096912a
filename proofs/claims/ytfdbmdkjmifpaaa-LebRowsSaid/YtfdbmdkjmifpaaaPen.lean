/- A cursor in blocks of its own, from lo up to hi: what is done elsewhere turns nothing of it; and the calls of layers 1 and 2 on it. No condition. -/
import Derived.Test.YtfdbmdkjmifpaaaUleb
import Derived.Test.YtfdbmdkjmifpaaaMake
import Derived.Test.YtfdbmdkjmifpaaaArgs
namespace Go.Proofs.Ytfdbmdkjmifpaaa
open Go.RowKit
variable {w w' : World} {lo hi a : Nat} {xs : List Int} {p : Nat} {big bad : Bool}

structure Pen (w : World) (lo hi a : Nat) (xs : List Int) (p : Nat) (big bad : Bool) : Prop where
  cur : ∃ base q c, Cur w base a q c xs p big bad ∧ lo ≤ base ∧ ∀ g, (Value.slice q xs.length c).ownBlock = some g → g < hi
  lw : lo ≤ a
  up : a < hi
  sz : hi ≤ w.heap.size

theorem Pen.kept (h : Pen w lo hi a xs p big bad) {b : Nat} (hg : w.grownBy w' (some b)) (hb : b < lo ∨ hi ≤ b) : Pen w' lo hi a xs p big bad := by
  obtain ⟨⟨base, q, c, hc, hl, ho⟩, h1, h2, h3⟩ := h
  refine ⟨⟨base, q, c, hc.kept hg (fun e => by injection e with e; omega) ?_, hl, ho⟩, h1, h2, Nat.le_trans h3 hg.size⟩
  cases hq : (Value.slice q xs.length c).ownBlock with
  | none => exact .inl rfl
  | some g => exact .inr (fun e => by injection e with e; have := ho g hq; have := (hc.own.lt g hq).1; omega)
theorem Pen.same (h : Pen w lo hi a xs p big bad) (hg : w.grownBy w' none) : Pen w' lo hi a xs p big bad := by
  obtain ⟨⟨base, q, c, hc, hl, ho⟩, h1, h2, h3⟩ := h
  refine ⟨⟨base, q, c, hc.kept hg (by simp) ?_, hl, ho⟩, h1, h2, Nat.le_trans h3 hg.size⟩
  cases (Value.slice q xs.length c).ownBlock <;> simp
theorem Pen.below (h : Pen w lo hi a xs p big bad) (hb : Below w.heap.size w w') : Pen w' lo hi a xs p big bad := h.same (grown_below hb none)
theorem Pen.drewN (h : Pen w lo hi a xs p big bad) (n : Nat) : Pen (w.drewN n) lo hi a xs p big bad := h.same (grown_drewN (grown_refl w none) n)
theorem Pen.frame (h : Pen w lo hi a xs p big bad) {B : Nat} (hB : B ≤ lo) (hg : w.grownBy w' (some a)) : Below B w w' :=
  below_grown hg (by have := h.lw; have := h.up; have := h.sz; omega) (fun k hk => by injection hk with hk; have := h.lw; omega)
theorem Pen.frame0 (h : Pen w lo hi a xs p big bad) {B : Nat} (hB : B ≤ lo) (hg : w.grownBy w' none) : Below B w w' :=
  below_grown hg (by have := h.lw; have := h.up; have := h.sz; omega) (fun k hk => by cases hk)
theorem Pen.le (h : Pen w lo hi a xs p big bad) : p ≤ xs.length := by obtain ⟨_, _, _, hc, _⟩ := h.cur; exact hc.le
theorem Pen.most (h : Pen w lo hi a xs p big bad) : xs.length ≤ 140737488355328 := by obtain ⟨_, _, _, hc, _⟩ := h.cur; exact hc.big

theorem pen_new {q : Option Addr} {c n : Nat} {ys : List Int} (h : IsBytes w q c ys) (hn : ys.length = n) (hb : n ≤ 140737488355328) (hr : ∀ x ∈ ys, 0 ≤ x ∧ x < 256) (big : Bool) :
    Calls Try.prog 10 #[.slice q n c, .bool big] w fun e w' =>
      ∃ a, e = .returned (.pointer (some ⟨a, 0, none⟩)) ∧ Pen w' w.heap.size w'.heap.size a ys 0 big false ∧ Below w.heap.size w w' := by
  subst hn
  refine (new_any h hb hr big).mono ?_
  rintro e w' ⟨⟨a, q', c', rfl, ha, hc, _⟩, hbel⟩
  exact ⟨a, rfl, ⟨⟨_, _, _, hc, Nat.le_refl _, fun g hg => (hc.own.lt g hg).2⟩, ha, hc.lt, Nat.le_refl _⟩, hbel⟩

theorem pen_seek (h : Pen w lo hi a xs p big false) (n : Nat) (hn : n ≤ xs.length) :
    Calls Try.prog 11 #[.pointer (some ⟨a, 0, none⟩), .int .i64 n] w fun e w' => e = .returned (.tuple #[]) ∧ Pen w' lo hi a xs n big false ∧ w.grownBy w' (some a) := by
  obtain ⟨⟨base, q, c, hc, hl, ho⟩, h1, h2, h3⟩ := h
  refine (seek_ok hc n hn).mono ?_
  rintro e w' ⟨rfl, hc', hg⟩
  exact ⟨rfl, ⟨⟨_, _, _, hc', hl, ho⟩, h1, h2, Nat.le_trans h3 hg.size⟩, hg⟩
theorem pen_fail (h : Pen w lo hi a xs p big bad) :
    Calls Try.prog 18 #[.pointer (some ⟨a, 0, none⟩)] w fun e w' => e = .returned (.tuple #[]) ∧ Pen w' lo hi a xs p big true ∧ w.grownBy w' (some a) := by
  obtain ⟨⟨base, q, c, hc, hl, ho⟩, h1, h2, h3⟩ := h
  refine (fail_any hc).mono ?_
  rintro e w' ⟨rfl, hc', hg⟩
  exact ⟨rfl, ⟨⟨_, _, _, hc', hl, ho⟩, h1, h2, Nat.le_trans h3 hg.size⟩, hg⟩
theorem pen_at (h : Pen w lo hi a xs p big bad) :
    Calls Try.prog 15 #[.pointer (some ⟨a, 0, none⟩)] w fun e w' => e = .returned (.int .i64 p) ∧ w = w' := by
  obtain ⟨⟨base, q, c, hc, hl, ho⟩, h1, h2, h3⟩ := h
  exact at_any hc
theorem pen_err (h : Pen w lo hi a xs p big bad) :
    Calls Try.prog 16 #[.pointer (some ⟨a, 0, none⟩)] w fun e w' => e = .returned (.int .i64 (if bad then 3 else 0)) ∧ w = w' := by
  obtain ⟨⟨base, q, c, hc, hl, ho⟩, h1, h2, h3⟩ := h
  exact err_any hc
/-- One that has failed. -/
theorem pen_err3 (h : Pen w lo hi a xs p big bad) (hb : bad = true) :
    Calls Try.prog 16 #[.pointer (some ⟨a, 0, none⟩)] w fun e w' => e = .returned (.int .i64 3) ∧ w = w' := by
  subst hb; exact pen_err h
theorem pen_err0 (h : Pen w lo hi a xs p big bad) (hb : bad = false) :
    Calls Try.prog 16 #[.pointer (some ⟨a, 0, none⟩)] w fun e w' => e = .returned (.int .i64 0) ∧ w = w' := by
  subst hb; exact pen_err h
theorem pen_left (h : Pen w lo hi a xs p big bad) {n : Nat} (hn : p + n = xs.length) :
    Calls Try.prog 23 #[.pointer (some ⟨a, 0, none⟩)] w fun e w' => e = .returned (.int .i64 n) ∧ Pen w' lo hi a xs p big bad ∧ w.grownBy w' none := by
  have h' := h
  obtain ⟨⟨base, q, c, hc, hl, ho⟩, h1, h2, h3⟩ := h
  refine (left_any hc).mono ?_
  rintro e w' ⟨rfl, k, rfl⟩
  exact ⟨ret_int (by omega), h'.drewN k, grown_drewN (grown_refl w none) k⟩
theorem pen_uleb (h : Pen w lo hi a xs p big false) {v : Int} {n : Nat} (hv : ulebN (xs.drop p) = (v, n)) :
    Calls Try.prog 14 #[.pointer (some ⟨a, 0, none⟩)] w fun e w' => e = .returned (.int .u64 v) ∧ Pen w' lo hi a xs (p + n) big (decide (n = 0)) ∧ w.grownBy w' (some a) := by
  obtain ⟨⟨base, q, c, hc, hl, ho⟩, h1, h2, h3⟩ := h
  refine (uleb_any hc).mono ?_
  rw [hv]
  rintro e w' ⟨rfl, hc', hg⟩
  exact ⟨rfl, ⟨⟨_, _, _, hc', hl, ho⟩, h1, h2, Nat.le_trans h3 hg.size⟩, hg⟩
theorem pen_sleb (h : Pen w lo hi a xs p big false) {v : Int} {n : Nat} (hv : slebN (xs.drop p) = (v, n)) :
    Calls Try.prog 17 #[.pointer (some ⟨a, 0, none⟩)] w fun e w' => e = .returned (.int .i64 v) ∧ Pen w' lo hi a xs (p + n) big (decide (n = 0)) ∧ w.grownBy w' (some a) := by
  obtain ⟨⟨base, q, c, hc, hl, ho⟩, h1, h2, h3⟩ := h
  refine (sleb_any hc).mono ?_
  rw [hv]
  rintro e w' ⟨rfl, hc', hg⟩
  exact ⟨rfl, ⟨⟨_, _, _, hc', hl, ho⟩, h1, h2, Nat.le_trans h3 hg.size⟩, hg⟩
theorem pen_uleb_bad (h : Pen w lo hi a xs p big bad) (hb : bad = true) :
    Calls Try.prog 14 #[.pointer (some ⟨a, 0, none⟩)] w fun e w' => e = .returned (.int .u64 0) ∧ Pen w' lo hi a xs p big true ∧ w.grownBy w' none := by
  subst hb
  have h' := h
  obtain ⟨⟨base, q, c, hc, hl, ho⟩, h1, h2, h3⟩ := h
  refine (uleb_bad hc).mono ?_
  rintro e w' ⟨rfl, hc', hg⟩
  exact ⟨rfl, h'.same hg, hg⟩
theorem pen_sleb_bad (h : Pen w lo hi a xs p big bad) (hb : bad = true) :
    Calls Try.prog 17 #[.pointer (some ⟨a, 0, none⟩)] w fun e w' => e = .returned (.int .i64 0) ∧ Pen w' lo hi a xs p big true ∧ w.grownBy w' none := by
  subst hb
  have h' := h
  obtain ⟨⟨base, q, c, hc, hl, ho⟩, h1, h2, h3⟩ := h
  refine (sleb_bad hc).mono ?_
  rintro e w' ⟨rfl, hc', hg⟩
  exact ⟨rfl, h'.same hg, hg⟩
end Go.Proofs.Ytfdbmdkjmifpaaa
