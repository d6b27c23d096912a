/- The document's own slices of a file: one contract. No condition but that a file's bytes are not beyond the form's bound. -/
import Derived.Test.YtdjakaiadggemaaRefMay
import Derived.Test.YtdjakaiadggemaaListed
namespace Go.Proofs.Ytdjakaiadggemaa
open Go.RowKit Go.Sort
variable {w w' : World}

open Classical in
/-- Which error stands, where so many were looked at. -/
noncomputable def cls (B T : Prop) : Int := if B then 4 else if T then 21 else 0
theorem cls_congr {B B' T T' : Prop} (h : B ↔ B') (k : T ↔ T') : cls B T = cls B' T' := by
  have e1 : B = B' := propext h
  have e2 : T = T' := propext k
  subst e1 e2; rfl
theorem cls_next (m a : Bool) {B B' T T' : Prop} (hB : B' ↔ B ∨ m = true) (hT : T' ↔ T ∨ a = true) :
    cls B' T' = if a = true ∧ (if m = true then 4 else cls B T) = 0 then 21 else (if m = true then 4 else cls B T) := by
  rw [cls_congr hB hT]
  unfold cls
  by_cases b : B <;> by_cases t : T <;> cases m <;> cases a <;> simp [b, t]
theorem cls_may {m : Bool} {B B' T T' : Prop} (hB : B' ↔ B ∨ m = false) (hT : T' ↔ T) : cls B' T' = if m = true then cls B T else 4 := by
  rw [cls_congr hB hT]
  unfold cls
  by_cases b : B <;> by_cases t : T <;> cases m <;> simp [b, t]
theorem meetB_comm (a b c d : Int) : meetB a b c d = meetB c d a b := by
  unfold meetB
  rw [decide_eq_decide]
  omega

def BadBelow (l : List Sl) (e all : Int) (i : Nat) : Prop := ∃ j, j < i ∧ BadAt l e all j
def TwinBelow (l : List Sl) (i : Nat) : Prop := ∃ j, j < i ∧ TwinAt l j
def MB (l : List Sl) (e all : Int) (i : Nat) (s : Sl) (k : Nat) : Prop := BadBelow l e all i ∨ s.may e all = false ∨ ∃ j t, j < k ∧ l[j]? = some t ∧ s.meet t = true
def TB (l : List Sl) (i : Nat) (s : Sl) (k : Nat) : Prop := TwinBelow l i ∨ ∃ j t, j < k ∧ l[j]? = some t ∧ t.alike s = true
theorem MB_zero (l : List Sl) (e all : Int) (i : Nat) (s : Sl) : MB l e all i s 0 ↔ BadBelow l e all i ∨ s.may e all = false :=
  ⟨fun h => by rcases h with h | h | ⟨_, _, h, _⟩; exact .inl h; exact .inr h; omega, fun h => by rcases h with h | h; exact .inl h; exact .inr (.inl h)⟩
theorem TB_zero (l : List Sl) (i : Nat) (s : Sl) : TB l i s 0 ↔ TwinBelow l i :=
  ⟨fun h => by rcases h with h | ⟨_, _, h, _⟩; exact h; omega, fun h => .inl h⟩
theorem MB_succ {l : List Sl} {e all : Int} {i k : Nat} {s t : Sl} (ht : l[k]? = some t) : MB l e all i s (k + 1) ↔ MB l e all i s k ∨ meetB t.off t.size s.off s.size = true := by
  rw [meetB_comm]
  constructor
  · rintro (h | h | ⟨j, u, hj, hu, hm⟩)
    · exact .inl (.inl h)
    · exact .inl (.inr (.inl h))
    · rcases Nat.lt_or_ge j k with h | h
      · exact .inl (.inr (.inr ⟨j, u, h, hu, hm⟩))
      · obtain rfl : j = k := by omega
        rw [ht] at hu
        injection hu with hu
        subst hu
        exact .inr hm
  · rintro ((h | h | ⟨j, u, hj, hu, hm⟩) | h)
    · exact .inl h
    · exact .inr (.inl h)
    · exact .inr (.inr ⟨j, u, by omega, hu, hm⟩)
    · exact .inr (.inr ⟨k, t, by omega, ht, h⟩)
theorem TB_succ {l : List Sl} {i k : Nat} {s t : Sl} (ht : l[k]? = some t) : TB l i s (k + 1) ↔ TB l i s k ∨ t.alike s = true := by
  constructor
  · rintro (h | ⟨j, u, hj, hu, hm⟩)
    · exact .inl (.inl h)
    · rcases Nat.lt_or_ge j k with h | h
      · exact .inl (.inr ⟨j, u, h, hu, hm⟩)
      · obtain rfl : j = k := by omega
        rw [ht] at hu
        injection hu with hu
        subst hu
        exact .inr hm
  · rintro ((h | ⟨j, u, hj, hu, hm⟩) | h)
    · exact .inl h
    · exact .inr ⟨j, u, by omega, hu, hm⟩
    · exact .inr ⟨k, t, by omega, ht, h⟩
theorem MB_all {l : List Sl} {e all : Int} {i : Nat} {s : Sl} (hs : l[i]? = some s) : MB l e all i s i ↔ BadBelow l e all (i + 1) := by
  constructor
  · rintro (⟨j, hj, h⟩ | h | h)
    · exact ⟨j, by omega, h⟩
    · exact ⟨i, by omega, s, hs, .inl h⟩
    · exact ⟨i, by omega, s, hs, .inr h⟩
  · rintro ⟨j, hj, h⟩
    rcases Nat.lt_or_ge j i with h1 | h1
    · exact .inl ⟨j, h1, h⟩
    · obtain rfl : j = i := by omega
      obtain ⟨s', hs', h⟩ := h
      rw [hs] at hs'
      injection hs' with hs'
      subst hs'
      rcases h with h | h
      · exact .inr (.inl h)
      · exact .inr (.inr h)
theorem TB_all {l : List Sl} {i : Nat} {s : Sl} (hs : l[i]? = some s) : TB l i s i ↔ TwinBelow l (i + 1) := by
  constructor
  · rintro (⟨j, hj, h⟩ | h)
    · exact ⟨j, by omega, h⟩
    · exact ⟨i, by omega, s, hs, h⟩
  · rintro ⟨j, hj, h⟩
    rcases Nat.lt_or_ge j i with h1 | h1
    · exact .inl ⟨j, h1, h⟩
    · obtain rfl : j = i := by omega
      obtain ⟨s', hs', h⟩ := h
      rw [hs] at hs'
      injection hs' with hs'
      subst hs'
      exact .inr h
theorem bad_all {l : List Sl} {e all : Int} : BadBelow l e all l.length ↔ Bad l e all := by
  constructor
  · rintro ⟨j, _, h⟩; exact ⟨j, h⟩
  · rintro ⟨j, h⟩
    refine ⟨j, ?_, h⟩
    obtain ⟨s, hs, _⟩ := h
    rcases Nat.lt_or_ge j l.length with h | h
    · exact h
    · simp [h] at hs
theorem twin_all {l : List Sl} : TwinBelow l l.length ↔ Twin l := by
  constructor
  · rintro ⟨j, _, h⟩; exact ⟨j, h⟩
  · rintro ⟨j, h⟩
    refine ⟨j, ?_, h⟩
    obtain ⟨s, hs, _⟩ := h
    rcases Nat.lt_or_ge j l.length with h | h
    · exact h
    · simp [h] at hs
theorem cls_none (B T : Prop) (hB : ¬ B) (hT : ¬ T) : cls B T = 0 := by unfold cls; rw [if_neg hB, if_neg hT]
theorem entries_at (wide : Bool) (ys : List Int) (N i : Nat) (h : i < N) : (entries wide ys N)[i]? = some (entry wide ys (8 + i * esize wide)) := by
  unfold entries
  rw [List.getElem?_map, List.getElem?_range h]
  rfl

/-- The document's number, at a place told as it comes. -/
theorem refnum_at (ys : List Int) {q : Option Addr} {n c : Nat} (h : IsBytes w q c ys) (hn : ys.length = n) (hc : n ≤ c) (hcm : c ≤ 9223372036854775807) (hy : Small ys) (z : Int) (p k : Nat) (hz : z = p) (hs : k = 4 ∨ k = 8) (hk : p + k ≤ n) :
    Calls Try.prog 23 #[.slice q n c, .int .i64 z, .int .i64 k, .bool true] w fun e w' => e = .returned (.int .u64 (at' ys p k)) ∧ w.grownBy w' none := by
  subst hz
  exact refnum_any ys h hn hc hcm hy p k hs hk true
theorem refnum_le (ys : List Int) {q : Option Addr} {n c : Nat} (h : IsBytes w q c ys) (hn : ys.length = n) (hc : n ≤ c) (hcm : c ≤ 9223372036854775807) (hy : Small ys) (p : Nat) (hk : p + 4 ≤ n) :
    Calls Try.prog 23 #[.slice q n c, .int .i64 p, .int .i64 4, .bool false] w fun e w' => e = .returned (.int .u64 (leN ((ys.drop p).take 4))) ∧ w.grownBy w' none :=
  refnum_any ys h hn hc hcm hy p 4 (.inl rfl) hk false

/-- So many entries were gone over. -/
structure ORel (w wr : World) (wide : Bool) (ys : List Int) (N : Nat) (v ev : Value) (i : Nat) : Prop where
  le : i ≤ N
  own : wr.ownsRow w.heap.size 42 5 v i (rowOf (entries wide ys i))
  err : ev = .int .i64 (cls (BadBelow (entries wide ys N) (8 + (N : Int) * (esize wide : Nat)) ys.length i) (TwinBelow (entries wide ys N) i))
  grown : w.grownBy wr none
theorem own_grown {wr : World} {v : Value} {n B : Nat} {xs : List Value} {T : TypeId} {z : Nat} (h : wr.ownsRow B T z v n xs) (hg : wr.grownBy w' none) : w'.ownsRow B T z v n xs :=
  h.kept hg (by cases v.ownBlock <;> simp)

theorem grown_put2' {g : Nat} (w : World) (i j : Nat) (v0 v1 : Value) : w.grownBy ((w.setCell ⟨g, i, none⟩ v0).setCell ⟨g, j, none⟩ v1) (some g) := grown_setCell (grown_setCell (grown_refl _ _) _) _

end Go.Proofs.Ytdjakaiadggemaa
