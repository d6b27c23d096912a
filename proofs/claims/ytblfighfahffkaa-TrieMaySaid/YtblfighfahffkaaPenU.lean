/- A cursor in blocks of its own, and the calls on it of layers 1 and 2, step by step: whether it has failed or not. No condition. -/
import Derived.Test.YtblfighfahffkaaPenC
import Derived.Test.YtblfighfahffkaaTrN
namespace Go.Proofs.Ytblfighfahffkaa
open Go.RowKit
variable {w w' : World} {lo hi a : Nat} {xs : List Int} {s : Cs} {big : Bool}

/-- The cursor, in that state. -/
abbrev PenS (w : World) (lo hi a : Nat) (xs : List Int) (s : Cs) (big : Bool) : Prop := Pen w lo hi a xs s.1 big s.2
theorem pen_ul (h : PenS w lo hi a xs s big) :
    Calls Try.prog 89 #[.pointer (some ⟨a, 0, none⟩)] w fun e w' => e = .returned (.int .u64 (ulS xs s).1) ∧ PenS w' lo hi a xs (ulS xs s).2 big ∧ w.grownBy w' (some a) := by
  obtain ⟨p, bad⟩ := s
  have h' := h
  obtain ⟨⟨base, q, c, hc, hl, ho⟩, h1, h2, h3⟩ := h
  unfold ulS
  simp only [] at hc ⊢
  cases bad with
  | true =>
    refine (uleb_bad hc).mono ?_
    rintro e w' ⟨rfl, hc', hg⟩
    exact ⟨rfl, Pen.same h' hg, grown_any hg _⟩
  | false =>
    refine (uleb_any hc).mono ?_
    rintro e w' ⟨rfl, hc', hg⟩
    exact ⟨rfl, ⟨⟨_, _, _, hc', hl, ho⟩, h1, h2, Nat.le_trans h3 hg.size⟩, hg⟩
theorem pen_tx (h : PenS w lo hi a xs s big) :
    Calls Try.prog 92 #[.pointer (some ⟨a, 0, none⟩), .int .i64 255] w fun e w' => e = .returned (.string (strOfNums (txS xs s).1)) ∧ PenS w' lo hi a xs (txS xs s).2 big ∧ w.grownBy w' (some a) := by
  obtain ⟨p, bad⟩ := s
  obtain ⟨⟨base, q, c, hc, hl, ho⟩, h1, h2, h3⟩ := h
  unfold txS
  simp only [] at hc ⊢
  by_cases hx : bad = false ∧ (pre (xs.drop p)).length < (xs.drop p).length ∧ (pre (xs.drop p)).length ≤ 255
  · rw [if_pos hx]
    obtain ⟨rfl, hx⟩ := hx
    refine (text_ok hc 255 ⟨hx.1, by omega⟩).mono ?_
    rintro e w' ⟨rfl, hc', hg⟩
    exact ⟨rfl, ⟨⟨_, _, _, hc', hl, ho⟩, h1, h2, Nat.le_trans h3 hg.size⟩, hg⟩
  · rw [if_neg hx]
    refine (text_no hc 255 ?_).mono ?_
    · cases bad with
      | true => exact .inl rfl
      | false => exact .inr (by unfold textLen; rw [if_neg (fun h => hx ⟨rfl, h.1, by omega⟩)])
    · rintro e w' ⟨rfl, hc', hg⟩
      exact ⟨rfl, ⟨⟨_, _, _, hc', hl, ho⟩, h1, h2, Nat.le_trans h3 hg.size⟩, hg⟩
theorem pen_by (h : PenS w lo hi a xs s big) :
    Calls Try.prog 91 #[.pointer (some ⟨a, 0, none⟩), .int .i64 1] w fun e w' => e = .returned (.int .u64 (byS xs s).1) ∧ PenS w' lo hi a xs (byS xs s).2 big ∧ w.grownBy w' (some a) := by
  obtain ⟨p, bad⟩ := s
  have h' := h
  obtain ⟨⟨base, q, c, hc, hl, ho⟩, h1, h2, h3⟩ := h
  unfold byS
  simp only [] at hc h' ⊢
  by_cases hx : bad = false ∧ p < xs.length
  · rw [if_pos hx]
    obtain ⟨rfl, hx⟩ := hx
    refine (number1 hc hx rfl).mono ?_
    rintro e w' ⟨rfl, hc', hg⟩
    exact ⟨rfl, ⟨⟨_, _, _, hc', hl, ho⟩, h1, h2, Nat.le_trans h3 hg.size⟩, hg⟩
  · rw [if_neg hx]
    refine (number_no hc 1 ?_).mono ?_
    · cases bad with
      | true => exact .inl rfl
      | false => exact .inr (.inr (by have h1 : ¬ p < xs.length := fun h => hx ⟨rfl, h⟩; omega))
    · rintro e w' ⟨rfl, hc', hg⟩
      exact ⟨rfl, ⟨⟨_, _, _, hc', hl, ho⟩, h1, h2, Nat.le_trans h3 hg.size⟩, hg⟩
theorem pen_fl (h : PenS w lo hi a xs s big) :
    Calls Try.prog 94 #[.pointer (some ⟨a, 0, none⟩)] w fun e w' => e = .returned (.tuple #[]) ∧ PenS w' lo hi a xs (s.1, true) big ∧ w.grownBy w' (some a) := by
  obtain ⟨⟨base, q, c, hc, hl, ho⟩, h1, h2, h3⟩ := h
  refine (fail_any hc).mono ?_
  rintro e w' ⟨rfl, hc', hg⟩
  exact ⟨rfl, ⟨⟨_, _, _, hc', hl, ho⟩, h1, h2, Nat.le_trans h3 hg.size⟩, hg⟩
end Go.Proofs.Ytblfighfahffkaa
