/- A cursor in blocks of its own: a text, wherever it ends; what is left. No condition. -/
import Derived.Test.YtlmgkofbjcahaaaPenC
import Derived.Test.YtlmgkofbjcahaaaText
namespace Go.Proofs.Ytlmgkofbjcahaaa
open Go.RowKit
variable {w w' : World} {lo hi a : Nat} {xs : List Int} {p : Nat} {big bad : Bool}

theorem pen_text_ok (h : Pen w lo hi a xs p big false) (m : Int) (hn : (pre (xs.drop p)).length < (xs.drop p).length ∧ ((pre (xs.drop p)).length : Int) ≤ m) :
    Calls Try.prog 41 #[.pointer (some ⟨a, 0, none⟩), .int .i64 m] w fun e w' =>
      e = .returned (.string (strOfNums (pre (xs.drop p)))) ∧ Pen w' lo hi a xs (p + (pre (xs.drop p)).length + 1) big false ∧ w.grownBy w' (some a) := by
  obtain ⟨⟨base, q, c, hc, hl, ho⟩, h1, h2, h3⟩ := h
  refine (text_ok hc m hn).mono ?_
  rintro e w' ⟨rfl, hc', hg⟩
  exact ⟨rfl, ⟨⟨_, _, _, hc', hl, ho⟩, h1, h2, Nat.le_trans h3 hg.size⟩, hg⟩
theorem pen_text_no (h : Pen w lo hi a xs p big bad) (m : Int) (hn : bad = true ∨ textLen (xs.drop p) m = -1) :
    Calls Try.prog 41 #[.pointer (some ⟨a, 0, none⟩), .int .i64 m] w fun e w' =>
      e = .returned (.string ByteArray.empty) ∧ Pen w' lo hi a xs p big true ∧ w.grownBy w' (some a) := by
  obtain ⟨⟨base, q, c, hc, hl, ho⟩, h1, h2, h3⟩ := h
  refine (text_no hc m hn).mono ?_
  rintro e w' ⟨rfl, hc', hg⟩
  exact ⟨rfl, ⟨⟨_, _, _, hc', hl, ho⟩, h1, h2, Nat.le_trans h3 hg.size⟩, hg⟩
theorem pen_left (h : Pen w lo hi a xs p big bad) :
    Calls Try.prog 42 #[.pointer (some ⟨a, 0, none⟩)] w fun e w' => e = .returned (.int .i64 ((xs.length : Int) - p)) ∧ ∃ n, w.drewN n = w' := by
  obtain ⟨⟨base, q, c, hc, hl, ho⟩, h1, h2, h3⟩ := h
  exact left_any hc
end Go.Proofs.Ytlmgkofbjcahaaa
