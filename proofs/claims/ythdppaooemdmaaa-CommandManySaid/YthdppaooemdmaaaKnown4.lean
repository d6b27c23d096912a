/- The chapter's rows. No condition. -/
import Derived.Test.YthdppaooemdmaaaMakeC
import Derived.Test.YthdppaooemdmaaaStr
namespace Go.Proofs.Ythdppaooemdmaaa
open Go.RowKit
variable {w w' : World}

theorem three_bytes (w : World) : IsBytes (w.alloc (.cells #[.int .u8 1, .int .u8 2, .int .u8 3] 5)) (some ⟨w.heap.size, 0, none⟩) 3 [1, 2, 3] := by
  refine IsBytes.mk_at fun i hi => ?_
  rw [cell_of (heap_alloc_new w _), Nat.zero_add]
  have hi4 : i < 3 := hi
  match i, hi4 with
  | 0, _ => rfl
  | 1, _ => rfl
  | 2, _ => rfl
theorem makeN_none (kind : Int) (hk : kind = 2 ∨ kind = 6) (flags : Int) : makeN 0 kind flags [] = (headN 0 kind 0 0 flags, 0) := by
  unfold makeN
  rw [if_neg (by simp [hk]), if_neg (by simp [sizeN])]
  simp [laidN, sizeN]
theorem one_row : oneN 27 [1, 2, 3] = [27, 0, 0, 0, 16, 0, 0, 0, 1, 2, 3, 0, 0, 0, 0, 0] := by decide
set_option maxRecDepth 20000 in
theorem known_any : Calls Try.prog 7 #[] w fun e w' => e = .returned (.bool true) ∧ Below w.heap.size w w' := by
  have A := Lib.hid (one_any (w := w.alloc (.cells #[.int .u8 1, .int .u8 2, .int .u8 3] 5)) 27 (by decide) [1, 2, 3] (some ⟨w.heap.size, 0, none⟩) 3 3 (three_bytes w) rfl (by decide))
  have M := Lib.hid (fun (w : World) => make_any (w := w) 0 2 0 (by decide) [] 0 rfl (by decide) (fun m h => by cases h) none 0 (fun h => by cases h))
  rw [makeN_none 2 (.inl rfl) 0] at M
  have G0 := Lib.hid (grown1 w (.cells #[.int .u8 1, .int .u8 2, .int .u8 3] 5))
  go_enter Try.func7, Try.ntmps7
  go_wp2_with fail
  refine A.out.mono ?_
  rintro e w1 ⟨_, hy, hg⟩
  obtain ⟨g, c, rfl, ho⟩ := hy (by decide)
  rw [one_row, show upTo8 (8 + ([1, 2, 3] : List Int).length) = 16 by decide] at ho
  rw [show upTo8 (8 + ([1, 2, 3] : List Int).length) = 16 by decide]
  have gm := grown1 w1 (.cells #[.int .u32 27, .slice (some ⟨g, 0, none⟩) 16 c] 40)
  have B1 := Lib.hid ((ho.grown gm).bytes c)
  have Z1 := Lib.hid (show CmAt (w1.alloc (.cells #[.int .u32 27, .slice (some ⟨g, 0, none⟩) 16 c] 40)) w1.heap.size ⟨27, some ⟨g, 0, none⟩, c, [27, 0, 0, 0, 16, 0, 0, 0, 1, 2, 3, 0, 0, 0, 0, 0]⟩ from CmAt.new w1 ⟨27, some ⟨g, 0, none⟩, c, [27, 0, 0, 0, 16, 0, 0, 0, 1, 2, 3, 0, 0, 0, 0, 0]⟩)
  have G1 := Lib.hid (grown_trans G0.out (grown_trans hg gm))
  clear ho hy hg gm A
  go_wp2_with fail
  refine (M.out _).mono ?_
  rintro e w2 ⟨⟨q, c', rfl, _, _, _⟩, hg⟩
  have hz := Z1.out.grown hg
  have c0 := hz.c0
  have c1 := hz.c1
  have hlt := lt_of_block hz
  have cv := (B1.out.kept hg (by simp)).text rfl
  rw [show strOfNums [27, 0, 0, 0, 16, 0, 0, 0, 1, 2, 3, 0, 0, 0, 0, 0] = ⟨#[27, 0, 0, 0, 16, 0, 0, 0, 1, 2, 3, 0, 0, 0, 0, 0]⟩ from rfl] at cv
  have G2 := Lib.hid (grown_trans G1.out hg)
  simp only [List.length_cons, List.length_nil, Nat.zero_add, Nat.reduceAdd] at cv c1
  have hl : (headN 0 2 0 0 0).length = 32 := rfl
  simp only [hl]
  clear hg hz hl
  go_wp2
  go_ret
  exact ⟨rfl, below_grown G2.out (Nat.le_refl _) (by simp)⟩
end Go.Proofs.Ythdppaooemdmaaa
