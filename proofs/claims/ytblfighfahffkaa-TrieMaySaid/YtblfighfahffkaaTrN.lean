/- Tries, as the document says them: nodes at places of plain lists of bytes, and walks over them; no program. No condition. -/
import Derived.Test.YtblfighfahffkaaUleb
import Derived.Test.YtblfighfahffkaaText
namespace Go.Proofs.Ytblfighfahffkaa
open Go.RowKit

/-- What takes a value off the front of bytes, with how many bytes; or nothing stands there. -/
abbrev Ps (α : Type) := List Int → Option (α × Nat)
/-- It hangs on the bytes that it takes alone. -/
def Loc {α : Type} (f : Ps α) : Prop := ∀ l v n, f l = some (v, n) → n ≤ l.length ∧ ∀ l' : List Int, n ≤ l'.length → l'.take n = l.take n → f l' = some (v, n)
def psR {α : Type} (v : α) : Ps α := fun _ => some (v, 0)
def psF {α : Type} : Ps α := fun _ => none
def psB {α β : Type} (f : Ps α) (g : α → Ps β) : Ps β := fun l =>
  match f l with
  | none => none
  | some (v, n) => match g v (l.drop n) with
    | none => none
    | some (u, m) => some (u, n + m)
/-- .. of just so many bytes. -/
def psZ {α : Type} (f : Ps α) (k : Int) : Ps α := fun l =>
  match f l with
  | none => none
  | some (v, n) => if (n : Int) = k then some (v, n) else none
def ulP : Ps Int := fun l => if (ulebN l).2 = 0 then none else some (ulebN l)
def txP : Ps (List Int) := fun l => if (pre l).length < l.length ∧ (pre l).length ≤ 255 then some (pre l, (pre l).length + 1) else none
def byP : Ps Int := fun l => match l with
  | [] => none
  | x :: _ => some (x, 1)

section
variable {α β : Type}
theorem loc_R (v : α) : Loc (psR v) := fun l u n h => by
  injection h with h; injection h with h1 h2; subst h1 h2; exact ⟨Nat.zero_le _, fun _ _ _ => rfl⟩
theorem loc_F : Loc (psF : Ps α) := fun l u n h => by cases h
theorem loc_B {f : Ps α} {g : α → Ps β} (hf : Loc f) (hg : ∀ v, Loc (g v)) : Loc (psB f g) := by
  intro l u k h
  unfold psB at h
  cases h1 : f l with
  | none => rw [h1] at h; cases h
  | some a =>
    obtain ⟨v, n⟩ := a
    rw [h1] at h
    simp only [] at h
    cases h2 : g v (l.drop n) with
    | none => rw [h2] at h; cases h
    | some b =>
      obtain ⟨u', m⟩ := b
      rw [h2] at h
      simp only [Option.some.injEq, Prod.mk.injEq] at h
      obtain ⟨rfl, rfl⟩ := h
      obtain ⟨a1, a2⟩ := hf l v n h1
      obtain ⟨b1, b2⟩ := hg v (l.drop n) u' m h2
      rw [List.length_drop] at b1
      refine ⟨by omega, fun l' hl ht => ?_⟩
      have t1 : l'.take n = l.take n := by
        have := congrArg (List.take n) ht
        rwa [List.take_take, List.take_take, Nat.min_eq_left (Nat.le_add_right _ _)] at this
      have t2 : (l'.drop n).take m = (l.drop n).take m := by
        have := congrArg (List.drop n) ht
        rwa [List.drop_take, List.drop_take, Nat.add_sub_cancel_left] at this
      unfold psB
      rw [a2 l' (by omega) t1]
      simp only []
      rw [b2 (l'.drop n) (by rw [List.length_drop]; omega) t2]
theorem loc_Z {f : Ps α} (hf : Loc f) (k : Int) : Loc (psZ f k) := by
  intro l u n h
  unfold psZ at h
  cases h1 : f l with
  | none => rw [h1] at h; cases h
  | some a =>
    obtain ⟨v, m⟩ := a
    rw [h1] at h
    simp only [] at h
    split at h
    · rename_i hm
      simp only [Option.some.injEq, Prod.mk.injEq] at h
      obtain ⟨rfl, rfl⟩ := h
      obtain ⟨a1, a2⟩ := hf l v m h1
      refine ⟨a1, fun l' hl ht => ?_⟩
      unfold psZ
      rw [a2 l' hl ht]
      simp only []
      rw [if_pos hm]
    · cases h
theorem loc_by : Loc byP := by
  intro l v n h
  cases l with
  | nil => cases h
  | cons x l =>
    injection h with h; injection h with h1 h2; subst h1 h2
    refine ⟨by simp, fun l' hl ht => ?_⟩
    cases l' with
    | nil => simp at hl
    | cons y l' => simp at ht; subst ht; rfl
theorem szN_take (k : Nat) : ∀ (l l' : List Int) (n : Nat), szN k l = n → 0 < n → l'.take n = l.take n → szN k l' = n := by
  induction k with
  | zero => intro l l' n h h0; simp [szN] at h; omega
  | succ k ih =>
    intro l l' n h h0 ht
    cases l with
    | nil => simp [szN] at h; omega
    | cons b l =>
      obtain ⟨n, rfl⟩ : ∃ m, n = m + 1 := ⟨n - 1, by omega⟩
      cases l' with
      | nil => simp at ht
      | cons b' l' =>
        simp only [List.take_succ_cons, List.cons.injEq] at ht
        obtain ⟨rfl, ht⟩ := ht
        simp only [szN] at h ⊢
        by_cases hb : b' < 128
        · rw [if_pos hb] at h ⊢; exact h
        · rw [if_neg hb] at h ⊢
          by_cases hz : szN k l = 0
          · rw [if_pos hz] at h; omega
          · rw [if_neg hz] at h
            have := ih l l' n (by omega) (by omega) ht
            rw [if_neg (by omega), this]
theorem uleb_size {l : List Int} (h : (ulebN l).2 ≠ 0) : szN 10 l = (ulebN l).2 ∧ (ulebN l).1 = valN (l.take (szN 10 l)) ∧ valN (l.take (szN 10 l)) < 18446744073709551616 := by
  unfold ulebN at *
  split at h
  · rename_i h1; rw [if_pos h1]; exact ⟨rfl, rfl, h1⟩
  · simp at h
theorem loc_ul : Loc ulP := by
  intro l v n h
  unfold ulP at h
  split at h
  · cases h
  · rename_i h0
    injection h with h
    obtain ⟨h1, h2, h3⟩ := uleb_size h0
    rw [h] at h1 h0 h2
    simp only [] at h1 h0 h2
    refine ⟨by have := (szN_le 10 l).2; omega, fun l' hl ht => ?_⟩
    have hs := szN_take 10 l l' n h1 (by omega) ht
    unfold ulP
    have e : ulebN l' = (v, n) := by
      refine uleb_yes hs ?_ ?_
      · rw [ht, ← h1]; exact h2.symm
      · rw [h2]; exact h3
    rw [e]
    simp [h0]
theorem pre_take_eq : ∀ (l l' : List Int), (pre l).length < l.length → (pre l).length < l'.length → l'.take ((pre l).length + 1) = l.take ((pre l).length + 1) → pre l' = pre l := by
  intro l
  induction l with
  | nil => intro l' h; simp at h
  | cons x l ih =>
    intro l' h h' ht
    cases l' with
    | nil => simp at h'
    | cons y l' =>
      simp only [List.take_succ_cons, List.cons.injEq] at ht
      obtain ⟨rfl, ht⟩ := ht
      simp only [pre] at h h' ht ⊢
      by_cases hy : y = 0
      · rw [if_pos hy, if_pos hy]
      · rw [if_neg hy] at h h' ht ⊢
        rw [if_neg hy]
        simp only [List.length_cons, Nat.add_lt_add_iff_right] at h h' ht
        rw [ih l' h h' ht]
theorem loc_tx : Loc txP := by
  intro l v n h
  unfold txP at h
  split at h
  · rename_i h0
    injection h with h; injection h with h1 h2; subst h1 h2
    refine ⟨by omega, fun l' hl ht => ?_⟩
    have := pre_take_eq l l' h0.1 (by omega) ht
    unfold txP
    rw [this, if_pos ⟨by omega, h0.2⟩]
  · cases h
/-- Of a front of the bytes: nothing else, if it is long enough; else nothing. -/
theorem loc_front {f : Ps α} (hf : Loc f) {l : List Int} {k : Nat} {v : α} {n : Nat} (h : f (l.take k) = some (v, n)) : f l = some (v, n) ∧ n ≤ k ∧ n ≤ l.length := by
  obtain ⟨h1, h2⟩ := hf _ _ _ h
  rw [List.length_take] at h1
  refine ⟨h2 l (by omega) ?_, by omega, by omega⟩
  rw [List.take_take, Nat.min_eq_left (by omega)]
theorem loc_back {f : Ps α} (hf : Loc f) {l : List Int} {k : Nat} {v : α} {n : Nat} (h : f l = some (v, n)) (hk : n ≤ k) : f (l.take k) = some (v, n) := by
  obtain ⟨h1, h2⟩ := hf _ _ _ h
  refine h2 _ (by rw [List.length_take]; omega) ?_
  rw [List.take_take, Nat.min_eq_left hk]
end

/-! The same, step by step over a cursor that stands at a place, and has failed or not. -/
abbrev Cs := Nat × Bool
/-- What was done to the cursor is what f takes. -/
structure Sim {α : Type} (f : Ps α) (xs : List Int) (s : Cs) (v : α) (s' : Cs) : Prop where
  le : s.1 ≤ s'.1
  ok : s'.2 = false → s.2 = false ∧ f (xs.drop s.1) = some (v, s'.1 - s.1)
  no : s.2 = false → s'.2 = true → f (xs.drop s.1) = none
section
variable {α β : Type} {xs : List Int} {s s1 s2 : Cs} {v : α} {u : β}
theorem Sim.R (v : α) (s : Cs) : Sim (psR v) xs s v s := ⟨Nat.le_refl _, fun h => ⟨h, (by unfold psR; rw [Nat.sub_self])⟩, fun h h' => (by rw [h] at h'; cases h')⟩
theorem Sim.F (v : α) (h1 : s.1 ≤ s1.1) (h2 : s1.2 = true) : Sim psF xs s v s1 := ⟨h1, fun h => (by rw [h] at h2; cases h2), fun _ _ => rfl⟩
theorem Sim.B {f : Ps α} {g : α → Ps β} (h : Sim f xs s v s1) (k : Sim (g v) xs s1 u s2) : Sim (psB f g) xs s u s2 := by
  have h0 := h.le
  have k0 := k.le
  refine ⟨by omega, fun e => ?_, fun e e' => ?_⟩
  · obtain ⟨k1, k2⟩ := k.ok e
    obtain ⟨h1, h2⟩ := h.ok k1
    refine ⟨h1, ?_⟩
    unfold psB
    rw [h2]
    simp only []
    rw [List.drop_drop, show s.1 + (s1.1 - s.1) = s1.1 by omega, k2]
    simp only [Option.some.injEq, Prod.mk.injEq, true_and]
    omega
  · unfold psB
    cases hb : s1.2 with
    | true => rw [h.no e hb]
    | false =>
      rw [(h.ok hb).2]
      simp only []
      rw [List.drop_drop, show s.1 + (s1.1 - s.1) = s1.1 by omega, k.no hb e']
/-- The cursor has failed in the end, whatever was taken. -/
theorem Sim.bad {f : Ps α} (h1 : s.1 ≤ s1.1) (h2 : s1.2 = true) (h3 : s.2 = false → f (xs.drop s.1) = none) : Sim f xs s v s1 := ⟨h1, fun h => (by rw [h] at h2; cases h2), fun h _ => h3 h⟩
theorem Sim.Z {f : Ps α} {k : Int} (h : Sim f xs s v s1) : Sim (psZ f k) xs s v (s1.1, s1.2 || !decide (((s1.1 - s.1 : Nat) : Int) = k)) := by
  refine ⟨h.le, fun e => ?_, fun e e' => ?_⟩
  · simp only [Bool.or_eq_false_iff, Bool.not_eq_false', decide_eq_true_eq] at e
    obtain ⟨h1, h2⟩ := h.ok e.1
    refine ⟨h1, ?_⟩
    unfold psZ
    rw [h2]
    simp only []
    rw [if_pos e.2]
  · unfold psZ
    cases hb : s1.2 with
    | true => rw [h.no e hb]
    | false =>
      rw [(h.ok hb).2]
      simp only [hb, Bool.false_or, Bool.not_eq_true', decide_eq_false_iff_not] at e' ⊢
      rw [if_neg e']
end
/-- A number, at the cursor's place. -/
def ulS (xs : List Int) (s : Cs) : Int × Cs := if s.2 then (0, s) else ((ulebN (xs.drop s.1)).1, (s.1 + (ulebN (xs.drop s.1)).2, decide ((ulebN (xs.drop s.1)).2 = 0)))
def txS (xs : List Int) (s : Cs) : List Int × Cs :=
  if s.2 = false ∧ (pre (xs.drop s.1)).length < (xs.drop s.1).length ∧ (pre (xs.drop s.1)).length ≤ 255 then (pre (xs.drop s.1), (s.1 + (pre (xs.drop s.1)).length + 1, false)) else ([], (s.1, true))
def byS (xs : List Int) (s : Cs) : Int × Cs := if s.2 = false ∧ s.1 < xs.length then (xs.getD s.1 0, (s.1 + 1, false)) else (0, (s.1, true))
theorem sim_ul (xs : List Int) (s : Cs) : Sim ulP xs s (ulS xs s).1 (ulS xs s).2 := by
  unfold ulS
  cases hb : s.2 with
  | true => exact Sim.bad (Nat.le_refl _) hb (fun h => by rw [h] at hb; cases hb)
  | false =>
    refine ⟨Nat.le_add_right _ _, fun e => ⟨hb, ?_⟩, fun _ e => ?_⟩
    · simp only [Bool.false_eq_true, if_false, decide_eq_false_iff_not] at e ⊢
      unfold ulP
      rw [if_neg e, Nat.add_sub_cancel_left]
    · simp only [Bool.false_eq_true, if_false, decide_eq_true_eq] at e
      unfold ulP
      rw [if_pos e]
theorem sim_tx (xs : List Int) (s : Cs) : Sim txP xs s (txS xs s).1 (txS xs s).2 := by
  unfold txS
  split
  · rename_i h
    refine ⟨by simp only []; omega, fun _ => ⟨h.1, ?_⟩, fun _ e => by cases e⟩
    unfold txP
    rw [if_pos h.2]
    simp only [Option.some.injEq, Prod.mk.injEq, true_and]
    omega
  · rename_i h
    refine Sim.bad (Nat.le_refl _) rfl (fun e => ?_)
    unfold txP
    rw [if_neg (fun h2 => h ⟨e, h2⟩)]
theorem sim_by (xs : List Int) (s : Cs) : Sim byP xs s (byS xs s).1 (byS xs s).2 := by
  unfold byS
  split
  · rename_i h
    refine ⟨Nat.le_succ _, fun _ => ⟨h.1, ?_⟩, fun _ e => by cases e⟩
    rw [List.drop_eq_getElem_cons h.2]
    simp only [byP, Option.some.injEq, Prod.mk.injEq]
    exact ⟨by simp [h.2], by omega⟩
  · rename_i h
    refine Sim.bad (Nat.le_refl _) rfl (fun e => ?_)
    rw [List.drop_eq_nil_of_le (by simp [e] at h; omega)]
    rfl
theorem ulS_bd {xs : List Int} {s : Cs} : 0 ≤ (ulS xs s).1 ∧ (ulS xs s).1 < 18446744073709551616 := by
  unfold ulS
  split
  · simp
  · simp only []
    by_cases h : (ulebN (xs.drop s.1)).2 = 0
    · rw [uleb_none h]; simp
    · obtain ⟨_, h2, h3⟩ := uleb_size h
      have := valN_bd ((xs.drop s.1).take (szN 10 (xs.drop s.1)))
      omega
theorem byS_bd {xs : List Int} {s : Cs} (h : ∀ x ∈ xs, 0 ≤ x ∧ x < 256) : 0 ≤ (byS xs s).1 ∧ (byS xs s).1 < 256 := by
  unfold byS
  split
  · rename_i h1
    have e : xs.getD s.1 0 = xs[s.1]'h1.2 := by simp [h1.2]
    simp only [e]
    exact h _ (List.getElem_mem h1.2)
  · simp
theorem ulS_le {xs : List Int} {s : Cs} (h : s.1 ≤ xs.length) : (ulS xs s).2.1 ≤ xs.length := by
  unfold ulS
  split
  · exact h
  · simp only []
    by_cases h0 : (ulebN (xs.drop s.1)).2 = 0
    · omega
    · obtain ⟨h1, _⟩ := uleb_size h0
      have := (szN_le 10 (xs.drop s.1)).2
      rw [List.length_drop] at this
      omega

/-! Nodes. -/
/-- What is said of a name. -/
structure Ex where
  kind : Int
  weak : Bool
  value : Int
  resolver : Int
  ordinal : Int
  other : List Int
deriving DecidableEq
def Ex.zero : Ex := ⟨0, false, 0, 0, 0, []⟩
abbrev Kid := List Int × Int
structure Nd where
  ex : Option Ex
  kids : List Kid
/-- Of flags: is it weak; and those beside that. -/
def wkN (f : Int) : Bool := decide (f / 4 % 2 = 1)
def knN (f : Int) : Int := if f / 4 % 2 = 1 then f - 4 else f
def sayK (f : Int) : Ps Ex :=
  if knN f = 0 then psB ulP fun v => psR ⟨1, wkN f, v, 0, 0, []⟩
  else if knN f = 2 then psB ulP fun v => psR ⟨2, wkN f, v, 0, 0, []⟩
  else if knN f = 8 then psB ulP fun o => psB txP fun t => psR ⟨3, wkN f, 0, 0, o, t⟩
  else if knN f = 16 then psB ulP fun v => psB ulP fun r => psR ⟨4, wkN f, v, r, 0, []⟩
  else psF
def sayP : Ps Ex := psB ulP sayK
/-- Does an edge begin as one of some does? -/
def meets (e : List Int) (l : List Kid) : Bool := l.any fun k => k.1.getD 0 0 == e.getD 0 0
def kidsP : Nat → List Kid → Ps (List Kid)
  | 0, acc => psR acc
  | k + 1, acc => psB txP fun e => psB ulP fun pl => if e = [] ∨ meets e acc = true then psF else kidsP k (acc ++ [(e, pl)])
def exP (n : Int) : Ps (Option Ex) := if n = 0 then psR none else psB (psZ sayP n) fun x => psR (some x)
def nodeP : Ps Nd := psB ulP fun n => psB (exP n) fun x => psB byP fun m => psB (kidsP m.toNat []) fun k => psR ⟨x, k⟩
theorem loc_sayK (f : Int) : Loc (sayK f) := by
  unfold sayK
  split
  · exact loc_B loc_ul fun _ => loc_R _
  split
  · exact loc_B loc_ul fun _ => loc_R _
  split
  · exact loc_B loc_ul fun _ => loc_B loc_tx fun _ => loc_R _
  split
  · exact loc_B loc_ul fun _ => loc_B loc_ul fun _ => loc_R _
  · exact loc_F
theorem loc_say : Loc sayP := loc_B loc_ul loc_sayK
theorem loc_kids (k : Nat) : ∀ acc, Loc (kidsP k acc) := by
  induction k with
  | zero => exact fun acc => loc_R _
  | succ k ih =>
    refine fun acc => loc_B loc_tx fun e => loc_B loc_ul fun pl => ?_
    split
    · exact loc_F
    · exact ih _
theorem loc_ex (n : Int) : Loc (exP n) := by
  unfold exP
  split
  · exact loc_R _
  · exact loc_B (loc_Z loc_say n) fun _ => loc_R _
theorem loc_node : Loc nodeP := loc_B loc_ul fun n => loc_B (loc_ex n) fun _ => loc_B loc_by fun _ => loc_B (loc_kids _ _) fun _ => loc_R _
/-- The node at a place. -/
def ndAt (xs : List Int) (p : Int) : Option Nd := if 0 ≤ p ∧ p < xs.length then (nodeP (xs.drop p.toNat)).map Prod.fst else none
end Go.Proofs.Ytblfighfahffkaa
