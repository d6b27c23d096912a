/- A cursor in blocks of its own, from lo up to hi: what is done elsewhere turns nothing of it; and the calls of layer 1 on it (for seats without layer 2: the same names as Pen's). No condition. -/
import Derived.Test.YtlmgkofbjcahaaaNum
import Derived.Test.YtlmgkofbjcahaaaMake
import Derived.Test.YtlmgkofbjcahaaaSeek
import Derived.Test.YtlmgkofbjcahaaaArgs
namespace Go.Proofs.Ytlmgkofbjcahaaa
open Go.RowKit
variable {w w' : World} {lo hi a : Nat} {xs : List Int} {p : Nat} {big bad : Bool}

structure Pen (w : World) (lo hi a : Nat) (xs : List Int) (p : Nat) (big bad : Bool) : Prop where
  cur : ∃ base q c, Cur w base a q c xs p big bad ∧ lo ≤ base ∧ ∀ g, (Value.slice q xs.length c).ownBlock = some g → g < hi
  lw : lo ≤ a
  up : a < hi
  sz : hi ≤ w.heap.size

theorem Pen.kept (h : Pen w lo hi a xs p big bad) {b : Nat} (hg : w.grownBy w' (some b)) (hb : b < lo ∨ hi ≤ b) : Pen w' lo hi a xs p big bad := by
  obtain ⟨⟨base, q, c, hc, hl, ho⟩, h1, h2, h3⟩ := h
  refine ⟨⟨base, q, c, hc.kept hg (fun e => by injection e with e; omega) ?_, hl, ho⟩, h1, h2, Nat.le_trans h3 hg.size⟩
  cases hq : (Value.slice q xs.length c).ownBlock with
  | none => exact .inl rfl
  | some g => exact .inr (fun e => by injection e with e; have := ho g hq; have := (hc.own.lt g hq).1; omega)
theorem Pen.same (h : Pen w lo hi a xs p big bad) (hg : w.grownBy w' none) : Pen w' lo hi a xs p big bad := by
  obtain ⟨⟨base, q, c, hc, hl, ho⟩, h1, h2, h3⟩ := h
  refine ⟨⟨base, q, c, hc.kept hg (by simp) ?_, hl, ho⟩, h1, h2, Nat.le_trans h3 hg.size⟩
  cases (Value.slice q xs.length c).ownBlock <;> simp
theorem Pen.below (h : Pen w lo hi a xs p big bad) (hb : Below w.heap.size w w') : Pen w' lo hi a xs p big bad := h.same (grown_below hb none)
theorem Pen.le (h : Pen w lo hi a xs p big bad) : p ≤ xs.length := by obtain ⟨_, _, _, hc, _⟩ := h.cur; exact hc.le
theorem Pen.most (h : Pen w lo hi a xs p big bad) : xs.length ≤ 140737488355328 := by obtain ⟨_, _, _, hc, _⟩ := h.cur; exact hc.big
theorem Pen.small (h : Pen w lo hi a xs p big bad) : Small xs := by obtain ⟨_, _, _, hc, _⟩ := h.cur; exact hc.bytes
theorem Pen.lt (h : Pen w lo hi a xs p big bad) : a < w.heap.size := Nat.lt_of_lt_of_le h.up h.sz

theorem pen_new {q : Option Addr} {c n : Nat} {ys : List Int} (h : IsBytes w q c ys) (hn : ys.length = n) (hb : n ≤ 140737488355328) (hr : ∀ x ∈ ys, 0 ≤ x ∧ x < 256) (big : Bool) :
    Calls Try.prog 19 #[.slice q n c, .bool big] w fun e w' =>
      ∃ a, e = .returned (.pointer (some ⟨a, 0, none⟩)) ∧ Pen w' w.heap.size w'.heap.size a ys 0 big false ∧ Below w.heap.size w w' := by
  subst hn
  refine (new_any h hb hr big).mono ?_
  rintro e w' ⟨⟨a, q', c', rfl, ha, hc, _⟩, hbel⟩
  exact ⟨a, rfl, ⟨⟨_, _, _, hc, Nat.le_refl _, fun g hg => (hc.own.lt g hg).2⟩, ha, hc.lt, Nat.le_refl _⟩, hbel⟩

theorem pen_seek (h : Pen w lo hi a xs p big false) (n : Nat) (hn : n ≤ xs.length) :
    Calls Try.prog 40 #[.pointer (some ⟨a, 0, none⟩), .int .i64 n] w fun e w' => e = .returned (.tuple #[]) ∧ Pen w' lo hi a xs n big false ∧ w.grownBy w' (some a) := by
  obtain ⟨⟨base, q, c, hc, hl, ho⟩, h1, h2, h3⟩ := h
  refine (seek_ok hc n hn).mono ?_
  rintro e w' ⟨rfl, hc', hg⟩
  exact ⟨rfl, ⟨⟨_, _, _, hc', hl, ho⟩, h1, h2, Nat.le_trans h3 hg.size⟩, hg⟩
theorem pen_num (h : Pen w lo hi a xs p big false) (n : Nat) (hs : n = 1 ∨ n = 2 ∨ n = 4 ∨ n = 8) (hn : p + n ≤ xs.length) :
    Calls Try.prog 33 #[.pointer (some ⟨a, 0, none⟩), .int .i64 n] w fun e w' =>
      e = .returned (.int .u64 (numOf big ((xs.drop p).take n))) ∧ Pen w' lo hi a xs (p + n) big false ∧ w.grownBy w' (some a) := by
  obtain ⟨⟨base, q, c, hc, hl, ho⟩, h1, h2, h3⟩ := h
  refine (number_ok hc n hs hn).mono ?_
  rintro e w' ⟨rfl, hc', hg⟩
  exact ⟨rfl, ⟨⟨_, _, _, hc', hl, ho⟩, h1, h2, Nat.le_trans h3 hg.size⟩, hg⟩
/-- What is no number: 0, and it has failed. -/
theorem pen_num_no (h : Pen w lo hi a xs p big bad) (n : Nat) (hn : bad = true ∨ (n ≠ 1 ∧ n ≠ 2 ∧ n ≠ 4 ∧ n ≠ 8) ∨ xs.length < p + n) :
    Calls Try.prog 33 #[.pointer (some ⟨a, 0, none⟩), .int .i64 n] w fun e w' =>
      e = .returned (.int .u64 0) ∧ Pen w' lo hi a xs p big true ∧ w.grownBy w' (some a) := by
  obtain ⟨⟨base, q, c, hc, hl, ho⟩, h1, h2, h3⟩ := h
  have hle := hc.le
  refine (number_no hc n (by rcases hn with h | h | h; exact .inl h; exact .inr (.inl (by omega)); exact .inr (.inr (by omega)))).mono ?_
  rintro e w' ⟨rfl, hc', hg⟩
  exact ⟨rfl, ⟨⟨_, _, _, hc', hl, ho⟩, h1, h2, Nat.le_trans h3 hg.size⟩, hg⟩
/-- Either way: it has failed then, or it stands so much further. -/
theorem pen_num_any (h : Pen w lo hi a xs p big bad) (n : Nat) (hs : n = 1 ∨ n = 2 ∨ n = 4 ∨ n = 8) :
    Calls Try.prog 33 #[.pointer (some ⟨a, 0, none⟩), .int .i64 n] w fun e w' =>
      ∃ m p' bad', e = .returned (.int .u64 m) ∧ Pen w' lo hi a xs p' big bad' ∧ w.grownBy w' (some a) ∧ (bad' = true ∨ (bad = false ∧ p' = p + n)) := by
  cases bad
  · by_cases hn : p + n ≤ xs.length
    · refine (pen_num h n hs hn).mono ?_
      rintro e w' ⟨rfl, hp, hg⟩
      exact ⟨_, _, _, rfl, hp, hg, .inr ⟨rfl, rfl⟩⟩
    · refine (pen_num_no h n (.inr (.inr (by omega)))).mono ?_
      rintro e w' ⟨rfl, hp, hg⟩
      exact ⟨_, _, _, rfl, hp, hg, .inl rfl⟩
  · refine (pen_num_no h n (.inl rfl)).mono ?_
    rintro e w' ⟨rfl, hp, hg⟩
    exact ⟨_, _, _, rfl, hp, hg, .inl rfl⟩

theorem pen_seek_no (h : Pen w lo hi a xs p big false) (n : Nat) (hn : xs.length < n) :
    Calls Try.prog 40 #[.pointer (some ⟨a, 0, none⟩), .int .i64 n] w fun e w' => e = .returned (.tuple #[]) ∧ Pen w' lo hi a xs p big true ∧ w.grownBy w' (some a) := by
  obtain ⟨⟨base, q, c, hc, hl, ho⟩, i1, i2, i3⟩ := h
  have h0 := hc.c0
  have h1 := hc.c1
  have h3 := hc.c3
  have f3 := hc.f3
  have hbig := hc.big
  have F := Lib.hid hc.setBad
  have G := Lib.hid (grown_setCell (i := 3) (grown_refl w (some a)) (.bool true))
  have PN := Lib.hid (fun (w' : World) (h : Cur w' base a q c xs p big true) (hg : w.grownBy w' (some a)) => (⟨⟨base, q, c, h, hl, ho⟩, i1, i2, Nat.le_trans i3 hg.size⟩ : Pen w' lo hi a xs p big true))
  have d1 : decide ((n : Int) < 0) = false := by simp
  have d2 : decide (xs.length < n) = true := by simp; omega
  clear hc hl ho
  go_enter Try.func40, Try.ntmps40
  go_wp2
  refine bodyPost_ret (results_none rfl _ _ _) rfl ?_
  exact ⟨rfl, PN.out _ F.out G.out, G.out⟩
end Go.Proofs.Ytlmgkofbjcahaaa
