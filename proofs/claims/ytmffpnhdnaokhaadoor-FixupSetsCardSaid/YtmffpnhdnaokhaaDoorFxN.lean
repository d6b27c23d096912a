/- Fixups, and their order, in numbers: no program. No condition. -/
import Derived.Test.YtmffpnhdnaokhaaDoorRows
import Derived.WalkKit
import Derived.Sort.Walk0
namespace Go.Proofs.YtmffpnhdnaokhaaDoor

/-- A fixup. -/
structure Fx where
  at_ : Int
  kind : Int
  target : Int
  ord : Int
  sym : ByteArray
  add : Int
  weak : Bool
deriving DecidableEq
def fxCs (x : Fx) : List Value := [.int .u64 x.at_, .int .i64 x.kind, .int .u64 x.target, .int .i64 x.ord, .string x.sym, .int .i64 x.add, .bool x.weak]
def fxArr (x : Fx) : Array Value := #[.int .u64 x.at_, .int .i64 x.kind, .int .u64 x.target, .int .i64 x.ord, .string x.sym, .int .i64 x.add, .bool x.weak]
def fxV (x : Fx) : Value := .agg (fxArr x)
theorem fxCs_inj {x y : Fx} (h : fxCs x = fxCs y) : x = y := by
  cases x; cases y
  simp only [fxCs, List.cons.injEq, Value.int.injEq, Value.string.injEq, Value.bool.injEq, true_and, and_true] at h
  obtain ⟨rfl, rfl, rfl, rfl, rfl, rfl, rfl⟩ := h
  rfl
/-- The numbers are of their kinds. -/
structure FxOk (x : Fx) : Prop where
  at_ : 0 ≤ x.at_ ∧ x.at_ < 18446744073709551616
  kind : -9223372036854775808 ≤ x.kind ∧ x.kind ≤ 9223372036854775807
  target : 0 ≤ x.target ∧ x.target < 18446744073709551616
  ord : -9223372036854775808 ≤ x.ord ∧ x.ord ≤ 9223372036854775807
  add : -9223372036854775808 ≤ x.add ∧ x.add ≤ 9223372036854775807
  sym : x.sym.size ≤ 9223372036854775807

/-! How two are held against each other. -/
def cmpI (a b : Int) : Int := if a < b then -1 else if b < a then 1 else 0
def cmpS (a b : ByteArray) : Int := if Op.bytesLess a.toList b.toList then -1 else if Op.bytesLess b.toList a.toList then 1 else 0
def cmpB (a b : Bool) : Int := if a = b then 0 else if b then -1 else 1
def thn (x y : Int) : Int := if x ≠ 0 then x else y
def lookN : Nat → Fx → Fx → Int
  | 0, a, b => cmpI a.at_ b.at_
  | 1, a, b => cmpI a.kind b.kind
  | 2, a, b => cmpI a.target b.target
  | 3, a, b => cmpI a.ord b.ord
  | 4, a, b => cmpS a.sym b.sym
  | 5, a, b => cmpI a.add b.add
  | _, a, b => cmpB a.weak b.weak
/-- The first of those from the k-th on that tells them apart. -/
def ordK (a b : Fx) : Nat → Nat → Int
  | 0, _ => 0
  | n + 1, k => thn (lookN k a b) (ordK a b n (k + 1))
def ordN (a b : Fx) : Int := ordK a b 7 0

structure Held (c : Fx → Fx → Int) : Prop where
  one : ∀ a b, c a b = -1 ∨ c a b = 0 ∨ c a b = 1
  anti : ∀ a b, c b a = - c a b
  trans : ∀ a b d, c a b ≤ 0 → c b d ≤ 0 → c a d ≤ 0
theorem Held.then {c d : Fx → Fx → Int} (h : Held c) (k : Held d) : Held fun a b => thn (c a b) (d a b) := by
  refine ⟨fun a b => ?_, fun a b => ?_, fun a b e h1 h2 => ?_⟩
  · have := h.one a b; have := k.one a b
    simp only [thn]; split <;> omega
  · have h1 := h.anti a b; have h2 := k.anti a b
    simp only [thn]
    by_cases h0 : c a b = 0
    · rw [if_neg (by omega), if_neg (by omega)]; exact h2
    · rw [if_pos (by omega), if_pos h0]; exact h1
  · simp only [thn] at h1 h2 ⊢
    have o1 := h.one a b; have o2 := h.one b e; have o3 := h.one a e
    have a1 := h.anti a b; have a2 := h.anti b e; have a3 := h.anti a e
    by_cases p0 : c a b = 0
    · rw [if_neg (by omega)] at h1
      by_cases q0 : c b e = 0
      · rw [if_neg (by omega)] at h2
        have t1 := h.trans a b e (by omega) (by omega)
        have t2 := h.trans e b a (by omega) (by omega)
        rw [if_neg (by omega)]
        exact k.trans a b e h1 h2
      · rw [if_pos q0] at h2
        have t1 := h.trans a b e (by omega) (by omega)
        by_cases r0 : c a e = 0
        · have t2 := h.trans e a b (by omega) (by omega)
          omega
        · rw [if_pos r0]; exact t1
    · rw [if_pos p0] at h1
      by_cases q0 : c b e = 0
      · rw [if_neg (by omega)] at h2
        have t1 := h.trans a b e (by omega) (by omega)
        by_cases r0 : c a e = 0
        · have t2 := h.trans b e a (by omega) (by omega)
          omega
        · rw [if_pos r0]; exact t1
      · rw [if_pos q0] at h2
        have t1 := h.trans a b e (by omega) (by omega)
        by_cases r0 : c a e = 0
        · have t2 := h.trans e a b (by omega) (by omega)
          omega
        · rw [if_pos r0]; exact t1
theorem held_zero : Held fun _ _ => 0 := ⟨fun _ _ => .inr (.inl rfl), fun _ _ => rfl, fun _ _ _ _ _ => Int.le_refl 0⟩
theorem held_int (f : Fx → Int) : Held fun a b => cmpI (f a) (f b) := by
  refine ⟨fun a b => ?_, fun a b => ?_, fun a b e => ?_⟩ <;> simp only [cmpI] <;> repeat' split
  all_goals omega
theorem held_bool (f : Fx → Bool) : Held fun a b => cmpB (f a) (f b) := by
  refine ⟨fun a b => ?_, fun a b => ?_, fun a b e => ?_⟩
  · cases f a <;> cases f b <;> decide
  · cases f a <;> cases f b <;> decide
  · cases f a <;> cases f b <;> cases f e <;> decide
theorem less_irr (x : List UInt8) : Op.bytesLess x x = false := by rw [bytesLess_eq]; exact decide_eq_false (List.lt_irrefl x)
theorem less_trans {x y z : List UInt8} (h : Op.bytesLess x y = true) (k : Op.bytesLess y z = true) : Op.bytesLess x z = true := by
  rw [bytesLess_eq] at h k ⊢
  exact decide_eq_true (List.lt_trans (of_decide_eq_true h) (of_decide_eq_true k))
theorem less_tri : ∀ {x y : List UInt8}, Op.bytesLess x y = false → Op.bytesLess y x = false → x = y
  | [], [], _, _ => rfl
  | [], _ :: _, h, _ => by simp [Op.bytesLess] at h
  | _ :: _, [], _, h => by simp [Op.bytesLess] at h
  | a :: x, b :: y, h, k => by
    simp only [Op.bytesLess, Bool.or_eq_false_iff, Bool.and_eq_false_iff, decide_eq_false_iff_not, beq_eq_false_iff_ne] at h k
    have e : a = b := by
      apply UInt8.toNat_inj.1
      have h1 : ¬ a.toNat < b.toNat := fun q => h.1 (UInt8.lt_iff_toNat_lt.2 q)
      have h2 : ¬ b.toNat < a.toNat := fun q => k.1 (UInt8.lt_iff_toNat_lt.2 q)
      omega
    subst e
    have h3 := h.2.resolve_left (fun q => q rfl)
    have h4 := k.2.resolve_left (fun q => q rfl)
    rw [less_tri h3 h4]
theorem less_asym {x y : List UInt8} (h : Op.bytesLess x y = true) : Op.bytesLess y x = false := by
  cases k : Op.bytesLess y x with
  | false => rfl
  | true => have := less_trans h k; rw [less_irr] at this; cases this
theorem sym_ext {a b : ByteArray} (h : a.toList = b.toList) : a = b := by
  rw [Lib.toList_data, Lib.toList_data] at h
  exact ByteArray.ext (Array.toList_inj.1 h)
theorem held_sym (f : Fx → ByteArray) : Held fun a b => cmpS (f a) (f b) := by
  refine ⟨fun a b => ?_, fun a b => ?_, fun a b e => ?_⟩
  · simp only [cmpS]; repeat' split
    all_goals omega
  · simp only [cmpS]
    cases h1 : Op.bytesLess (f a).toList (f b).toList with
    | true => simp [less_asym h1]
    | false => simp; split <;> rfl
  · simp only [cmpS]
    intro h k
    have h1 : Op.bytesLess (f b).toList (f a).toList = false := by
      cases q : Op.bytesLess (f b).toList (f a).toList with
      | false => rfl
      | true => rw [less_asym q, q] at h; simp at h
    have k1 : Op.bytesLess (f e).toList (f b).toList = false := by
      cases q : Op.bytesLess (f e).toList (f b).toList with
      | false => rfl
      | true => rw [less_asym q, q] at k; simp at k
    have r1 : Op.bytesLess (f e).toList (f a).toList = false := by
      cases q : Op.bytesLess (f e).toList (f a).toList with
      | false => rfl
      | true =>
        cases p : Op.bytesLess (f a).toList (f b).toList with
        | true => rw [less_trans q p] at k1; cases k1
        | false =>
          have := less_tri p h1
          rw [this] at q
          rw [q] at k1; cases k1
    rw [r1]
    split <;> simp
theorem held_look : ∀ k, Held (lookN k)
  | 0 => held_int (·.at_)
  | 1 => held_int (·.kind)
  | 2 => held_int (·.target)
  | 3 => held_int (·.ord)
  | 4 => held_sym (·.sym)
  | 5 => held_int (·.add)
  | _ + 6 => held_bool (·.weak)
theorem held_ordK : ∀ n k, Held fun a b => ordK a b n k
  | 0, _ => held_zero
  | n + 1, k => (held_look k).then (held_ordK n (k + 1))
theorem held_ord : Held ordN := held_ordK 7 0
theorem cmpI_0 {a b : Int} (h : cmpI a b = 0) : a = b := by
  unfold cmpI at h
  repeat' split at h
  all_goals omega
theorem cmpS_0 {a b : ByteArray} (h : cmpS a b = 0) : a = b := by
  unfold cmpS at h
  split at h
  · cases h
  · split at h
    · cases h
    · rename_i h1 h2
      exact sym_ext (less_tri (by simpa using h1) (by simpa using h2))
theorem cmpB_0 {a b : Bool} (h : cmpB a b = 0) : a = b := by cases a <;> cases b <;> simp_all [cmpB]
theorem thn_0 {x y : Int} (h : thn x y = 0) : x = 0 ∧ y = 0 := by
  unfold thn at h
  split at h
  · rename_i h1; exact absurd h h1
  · rename_i h1; exact ⟨by omega, h⟩
theorem ord_0 {a b : Fx} (h : ordN a b = 0) : a = b := by
  unfold ordN at h
  simp only [ordK] at h
  obtain ⟨h0, h⟩ := thn_0 h
  obtain ⟨h1, h⟩ := thn_0 h
  obtain ⟨h2, h⟩ := thn_0 h
  obtain ⟨h3, h⟩ := thn_0 h
  obtain ⟨h4, h⟩ := thn_0 h
  obtain ⟨h5, h⟩ := thn_0 h
  obtain ⟨h6, -⟩ := thn_0 h
  have e0 := cmpI_0 h0
  have e1 := cmpI_0 h1
  have e2 := cmpI_0 h2
  have e3 := cmpI_0 h3
  have e4 := cmpS_0 h4
  have e5 := cmpI_0 h5
  have e6 := cmpB_0 h6
  cases a; cases b
  simp only [] at e0 e1 e2 e3 e4 e5 e6
  subst e0 e1 e2 e3 e4 e5 e6
  rfl
theorem ord_self (a : Fx) : ordN a a = 0 := by have := held_ord.anti a a; omega
theorem ord_iff {a b : Fx} : ordN a b = 0 ↔ a = b := ⟨ord_0, fun h => by rw [h]; exact ord_self b⟩
/-- The document's 'less'. -/
def fxLess (a b : Fx) : Bool :=
  if a.at_ ≠ b.at_ then decide (a.at_ < b.at_) else if a.kind ≠ b.kind then decide (a.kind < b.kind) else if a.target ≠ b.target then decide (a.target < b.target)
  else if a.ord ≠ b.ord then decide (a.ord < b.ord) else if a.sym ≠ b.sym then Op.bytesLess a.sym.toList b.sym.toList else if a.add ≠ b.add then decide (a.add < b.add) else !a.weak && b.weak
theorem thn_I (a b y : Int) : decide (thn (cmpI a b) y < 0) = if a ≠ b then decide (a < b) else decide (y < 0) := by
  unfold thn cmpI
  by_cases h : a < b
  · rw [if_pos h, if_pos (by decide), if_pos (by omega), decide_eq_true h]; rfl
  · by_cases k : b < a
    · rw [if_neg h, if_pos k, if_pos (by decide), if_pos (by omega), decide_eq_false h]; rfl
    · rw [if_neg h, if_neg k, if_neg (by decide), if_neg (by omega)]
theorem thn_S (a b : ByteArray) (y : Int) : decide (thn (cmpS a b) y < 0) = if a ≠ b then Op.bytesLess a.toList b.toList else decide (y < 0) := by
  by_cases e : a = b
  · subst e
    rw [if_neg (by simp)]
    simp [thn, cmpS, less_irr]
  · rw [if_pos e]
    cases h : Op.bytesLess a.toList b.toList with
    | true => simp [thn, cmpS, h]
    | false =>
      cases k : Op.bytesLess b.toList a.toList with
      | true => simp [thn, cmpS, h, k]
      | false => exact absurd (sym_ext (less_tri h k)) e
theorem less_ord (a b : Fx) : fxLess a b = decide (ordN a b < 0) := by
  unfold ordN fxLess
  simp only [ordK, lookN]
  rw [thn_I, thn_I, thn_I, thn_I, thn_S, thn_I]
  congr 6
  cases a.weak <;> cases b.weak <;> decide
end Go.Proofs.YtmffpnhdnaokhaaDoor
