/- The chapter's own rows, answered as it says: known() is true, and all that was in memory stays. -/
import Derived.Test.YtlgjkdfpcmkjoaaNew
namespace Go.Proofs.Ytlgjkdfpcmkjoaa
open Go.RowKit
variable {w : World} {base a : Nat} {q : Option Addr} {c : Nat} {xs : List Int} {p : Nat} {big bad : Bool}

theorem word3 (w : World) : Calls Try.prog 56 #[.int .i64 3] w fun e w' => e = .returned (.string ⟨#[115, 104, 111, 114, 116]⟩) ∧ w = w' := by
  go_enter Try.func56, Try.ntmps56
  go_wp2
  go_ret
  exact ⟨rfl, rfl⟩

def wrongText (p : Nat) (l : List UInt8) : ByteArray := ⟨([97, 116, 32] ++ Lib.decDigits p ++ [58, 32] ++ l).toArray⟩

/-- What the error tells, where Itoa and Word give these texts. -/
theorem error_of (b : Nat) (p k : Int) (l m : List UInt8) (hl : (l.length : Int) ≤ 100) (hm : (m.length : Int) ≤ 100) (w : World)
    (hI : ∀ W : World, Calls Try.prog 58 #[.int .i64 p] W fun e w' => e = .returned (.string ⟨l.toArray⟩) ∧ w' = W)
    (hW : ∀ W : World, Calls Try.prog 56 #[.int .i64 k] W fun e w' => e = .returned (.string ⟨m.toArray⟩) ∧ w' = W)
    (h0 : w.cell? ⟨b, 0, none⟩ = some (.int .i64 p)) (h1 : w.cell? ⟨b, 1, none⟩ = some (.int .i64 k)) :
    Calls Try.prog 57 #[.pointer (some ⟨b, 0, none⟩)] w fun e w' => e = .returned (.string ⟨([97, 116, 32] ++ l ++ [58, 32] ++ m).toArray⟩) ∧ ∃ n, w.drewN n = w' := by
  have I := Lib.hid hI
  have D := Lib.hid hW
  clear hI hW
  go_enter Try.func57, Try.ntmps57
  go_wp2
  go_quiet ((first | (go_at_call 58; exact Calls.quiet_of_same (I.out _)) | (go_at_call 56; exact Calls.quiet_of_same (D.out _))))
  go_wp2
  go_ret
  refine ⟨?_, _, rfl⟩
  show Ending.returned (.string (ByteArray.mk [97, 116, 32].toArray ++ ByteArray.mk l.toArray ++ ByteArray.mk [58, 32].toArray ++ ByteArray.mk m.toArray)) = _
  simp only [ByteArray.mk_append_mk, List.cons_append, List.nil_append]

theorem known_bytes (w W : World) (h : W = w.alloc (.cells #[.int .u8 1, .int .u8 2, .int .u8 3, .int .u8 0, .int .u8 5] 5)) : IsBytes W (some ⟨w.heap.size, 0, none⟩) 5 [1, 2, 3, 0, 5] := by
  subst h
  refine IsBytes.mk_at fun i hi => ?_
  rw [cell_of (heap_alloc_new w _)]
  have : i = 0 ∨ i = 1 ∨ i = 2 ∨ i = 3 ∨ i = 4 := by simp at hi; omega
  rcases this with rfl | rfl | rfl | rfl | rfl <;> rfl
theorem known_range : ∀ x ∈ ([1, 2, 3, 0, 5] : List Int), 0 ≤ x ∧ x < 256 := by decide

theorem known_num (h : Cur w base a q c [1, 2, 3, 0, 5] 0 false false) :
    Calls Try.prog 13 #[.pointer (some ⟨a, 0, none⟩), .int .i64 2] w fun e w' =>
      e = .returned (.int .u64 513) ∧ Cur w' base a q c [1, 2, 3, 0, 5] 2 false false ∧ w.grownBy w' (some a) := by
  have := number_ok h 2 (by omega) (by decide)
  rwa [show numOf false (([1, 2, 3, 0, 5] : List Int).drop 0 |>.take 2) = 513 from by decide] at this
theorem known_text (h : Cur w base a q c [1, 2, 3, 0, 5] 2 false false) :
    Calls Try.prog 23 #[.pointer (some ⟨a, 0, none⟩), .int .i64 9] w fun e w' =>
      e = .returned (.string ⟨#[3]⟩) ∧ Cur w' base a q c [1, 2, 3, 0, 5] 4 false false ∧ w.grownBy w' (some a) := by
  have := text_ok h 9 (by decide)
  rwa [show pre (([1, 2, 3, 0, 5] : List Int).drop 2) = [3] from by decide, show strOfNums [3] = ⟨#[3]⟩ from rfl] at this
theorem known_num4 (h : Cur w base a q c [1, 2, 3, 0, 5] 4 false false) :
    Calls Try.prog 13 #[.pointer (some ⟨a, 0, none⟩), .int .i64 4] w fun e w' =>
      e = .returned (.int .u64 0) ∧ Cur w' base a q c [1, 2, 3, 0, 5] 4 false true ∧ w.grownBy w' (some a) :=
  number_no h 4 (.inr (.inr (by decide)))
theorem digits4 : Lib.decDigits 4 = [52] := by unfold Lib.decDigits; rfl
theorem known_error (b : Nat) (w : World) (h : w.heap[b]? = some (.cells #[.int .i64 ((4 : Nat) : Int), .int .i64 3] 58 (0, 0))) :
    Calls Try.prog 57 #[.pointer (some ⟨b, 0, none⟩)] w fun e w' => e = .returned (.string ⟨#[97, 116, 32, 52, 58, 32, 115, 104, 111, 114, 116]⟩) ∧ ∃ n, w.drewN n = w' :=
  error_of b 4 3 [52] [115, 104, 111, 114, 116] (by decide) (by decide) w
    (fun W => by have := Try.strconv_Itoa_small 4 (by omega) W; rwa [digits4] at this)
    (fun W => (word3 W).mono fun e w' ⟨h1, h2⟩ => ⟨h1, h2.symm⟩)
    (by rw [cell_of h]; rfl) (by rw [cell_of h]; rfl)
/-- The method of the error that a Wrong is. (The number: how deep the model looks for it.) -/
theorem method_error (a : Addr) (w : World) : (method 193 56 (.pointer (some a)) "Error").run Try.prog w = .ok (57, .pointer (some a)) w := by kernel_rfl

set_option maxHeartbeats 400000 in
/-- The chapter's rows. -/
theorem known_any (w : World) : Calls Try.prog 7 #[] w fun e w' => e = .returned (.bool true) ∧ Below w.heap.size w w' := by
  have hb := known_bytes w _ rfl
  have B := Lib.hid hb
  clear hb
  go_enter Try.func7, Try.ntmps7
  go_wp2_with fail
  refine (new_any (ys := [1, 2, 3, 0, 5]) B.out (by decide) known_range false).mono ?_
  rintro e w1 ⟨⟨a, q, c, rfl, ha, hc1, _⟩, hb1⟩
  go_wp2_with fail
  refine (known_num hc1).mono ?_
  rintro e w2 ⟨rfl, hc2, hg2⟩
  go_wp2_with fail
  refine (known_text hc2).mono ?_
  rintro e w3 ⟨rfl, hc3, hg3⟩
  go_wp2_with fail
  refine (known_num4 hc3).mono ?_
  rintro e w4 ⟨rfl, hc4, hg4⟩
  go_wp2_with fail
  refine (err_any hc4).mono ?_
  rintro e w5 ⟨rfl, rfl⟩
  go_wp2_with fail
  refine (at_any hc4).mono ?_
  rintro e w5 ⟨rfl, rfl⟩
  go_wp2_with fail
  refine (wrong_no hc4).mono ?_
  rintro e w5 ⟨rfl, rfl⟩
  have me := method_error ⟨w4.heap.size, 0, none⟩
  go_wp2_with fail
  refine (known_error _ _ (heap_alloc_new w4 _)).mono ?_
  rintro e w6 ⟨rfl, n, rfl⟩
  go_wp2
  go_ret
  refine ⟨rfl, ?_⟩
  have hb0 : Below w.heap.size w w1 := ((Below.refl _ _).alloc (Nat.le_refl _) _).trans (hb1.mono (by simp))
  have ha' : w.heap.size ≤ a := Nat.le_trans (by simp) ha
  have g : ∀ {u u' : World}, u.grownBy u' (some a) → w.heap.size ≤ u.heap.size → Below w.heap.size u u' := fun h hs => below_grown h hs (fun k hk => by simp at hk; omega)
  have hz1 := hb0.size
  have hz2 := Nat.le_trans hz1 hg2.size
  have hz3 := Nat.le_trans hz2 hg3.size
  have hz4 := Nat.le_trans hz3 hg4.size
  exact below_drewN ((((hb0.trans (g hg2 hz1)).trans (g hg3 hz2)).trans (g hg4 hz3)).alloc hz4 _) n
end Go.Proofs.Ytlgjkdfpcmkjoaa
