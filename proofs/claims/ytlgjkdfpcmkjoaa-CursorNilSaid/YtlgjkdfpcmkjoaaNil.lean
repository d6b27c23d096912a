/- The calls of layer 1 on a cursor that is not there: noughts, and nothing turns. -/
import Derived.Test.YtlgjkdfpcmkjoaaKnown
namespace Go.Proofs.Ytlgjkdfpcmkjoaa
open Go.RowKit

theorem err_nil (w : World) : Calls Try.prog 11 #[.pointer none] w fun e w' => e = .returned (.int .i64 1) ∧ w = w' := by
  go_enter Try.func11, Try.ntmps11
  go_wp2
  go_ret
  exact ⟨rfl, rfl⟩
theorem at_nil (w : World) : Calls Try.prog 12 #[.pointer none] w fun e w' => e = .returned (.int .i64 0) ∧ w = w' := by
  go_enter Try.func12, Try.ntmps12
  go_wp2
  go_ret
  exact ⟨rfl, rfl⟩
theorem rest_nil (w : World) : Calls Try.prog 26 #[.pointer none] w fun e w' => e = .returned (.slice none 0 0) ∧ w = w' := by
  go_enter Try.func26, Try.ntmps26
  go_wp2
  go_ret
  exact ⟨rfl, rfl⟩
theorem left_nil (w : World) : Calls Try.prog 9 #[.pointer none] w fun e w' => e = .returned (.int .i64 0) ∧ w = w' := by
  go_enter Try.func9, Try.ntmps9
  go_wp2_with fail
  refine (rest_nil w).mono ?_
  rintro e w' ⟨rfl, rfl⟩
  go_wp2
  go_ret
  exact ⟨rfl, rfl⟩
theorem fail_nil (w : World) : Calls Try.prog 21 #[.pointer none] w fun e w' => e = .returned (.tuple #[]) ∧ w = w' := by
  go_enter Try.func21, Try.ntmps21
  go_wp2
  go_end0
  exact ⟨rfl, rfl⟩
theorem seek_nil (n : Int) (w : World) : Calls Try.prog 20 #[.pointer none, .int .i64 n] w fun e w' => e = .returned (.tuple #[]) ∧ w = w' := by
  go_enter Try.func20, Try.ntmps20
  go_wp2
  refine bodyPost_ret (results_none rfl _ _ _) rfl ?_
  exact ⟨rfl, rfl⟩
theorem take_nil (n : Int) (w : World) : Calls Try.prog 27 #[.pointer none, .int .i64 n] w fun e w' => e = .returned (.slice none 0 0) ∧ w = w' := by
  go_enter Try.func27, Try.ntmps27
  go_wp2
  go_ret
  exact ⟨rfl, rfl⟩
theorem bytes_nil (n : Int) (w : World) : Calls Try.prog 10 #[.pointer none, .int .i64 n] w fun e w' => e = .returned (.slice none 0 0) ∧ w = w' := by
  go_enter Try.func10, Try.ntmps10
  go_wp2_with fail
  refine (take_nil n w).mono ?_
  rintro e w' ⟨rfl, rfl⟩
  go_wp2_with fail
  refine (Try.bytes_Clone_nil 0 0 w).mono ?_
  rintro e w' ⟨rfl, hw⟩
  have hw2 := hw.symm
  subst hw2
  go_wp2
  go_ret
  exact ⟨rfl, rfl⟩
theorem number_nil1 (w : World) : Calls Try.prog 13 #[.pointer none, .int .i64 1] w fun e w' => e = .returned (.int .u64 0) ∧ w = w' := by
  go_enter Try.func13, Try.ntmps13
  go_wp2_with fail
  refine (take_nil 1 w).mono ?_
  rintro e w' ⟨rfl, rfl⟩
  go_wp2
  refine wp_loop_rounds 1 ?_
  rw [rounds_succ]
  go_wp2
  go_ret
  exact ⟨rfl, rfl⟩
theorem textSize_nil (n : Int) (hn : 0 ≤ n) (w : World) : Calls Try.prog 31 #[.pointer none, .int .i64 n] w fun e w' => e = .returned (.int .i64 (-1)) ∧ w = w' := by
  go_enter Try.func31, Try.ntmps31
  go_wp2_with fail
  refine (rest_nil w).mono ?_
  rintro e w' ⟨rfl, rfl⟩
  go_wp2_with fail
  refine (Try.bytes_IndexByte_nil 0 w).mono ?_
  rintro e w' ⟨rfl, hw⟩
  have hw2 := hw.symm
  subst hw2
  go_wp2
  go_ret
  exact ⟨rfl, rfl⟩
theorem text_nil (n : Int) (hn : 0 ≤ n) (w : World) : Calls Try.prog 23 #[.pointer none, .int .i64 n] w fun e w' => e = .returned (.string ByteArray.empty) ∧ w = w' := by
  have cv := run_convert_bytes_nil (P := Try.prog) w _ _ Try.underlying22 Try.underlying5 0 0 _ Try.underlying9
  go_enter Try.func23, Try.ntmps23
  go_wp2_with fail
  refine (textSize_nil n hn w).mono ?_
  rintro e w' ⟨rfl, rfl⟩
  go_wp2_with fail
  refine (take_nil (-1) w).mono ?_
  rintro e w' ⟨rfl, rfl⟩
  go_wp2_with fail
  refine (take_nil 1 w).mono ?_
  rintro e w' ⟨rfl, rfl⟩
  go_wp2
  go_ret
  exact ⟨rfl, rfl⟩
theorem field_nil (n : Int) (w : World) : Calls Try.prog 22 #[.pointer none, .int .i64 n] w fun e w' => e = .returned (.string ByteArray.empty) ∧ Below w.heap.size w w' := by
  go_enter Try.func22, Try.ntmps22
  go_wp2_with fail
  refine (take_nil n w).mono ?_
  rintro e w' ⟨rfl, rfl⟩
  go_wp2_with fail
  have hz : (w.alloc (.cells #[.int .u8 0] 5)).cell? ⟨w.heap.size, 0, none⟩ = some (.int .u8 0) := by rw [cell_of (heap_alloc_new w _)]; rfl
  have hcut := Try.bytes_Cut_of none (some ⟨w.heap.size, 0, none⟩) 0 0 1 1 (-1) (w.alloc (.cells #[.int .u8 0] 5)) (by omega) (by omega) (by omega) (by omega) ((Try.bytes_Index_one_nil w.heap.size 0 1 0 _ hz).mono fun e w' ⟨h1, h2⟩ => ⟨h1, 0, h2⟩)
  rw [show Lib.cutV none 0 0 1 (-1) = .tuple #[.slice none 0 0, .slice none 0 0, .bool false] from rfl] at hcut
  refine hcut.mono ?_
  rintro e w' ⟨rfl, n, hw⟩
  subst hw
  have cv := fun W : World => run_convert_bytes_nil (P := Try.prog) W _ _ Try.underlying22 Try.underlying5 0 0 _ Try.underlying9
  clear hz hcut
  go_wp2
  go_ret
  exact ⟨rfl, below_drewN ((Below.refl _ _).alloc (Nat.le_refl _) _) n⟩
theorem wrong_nil (w : World) : Calls Try.prog 24 #[.pointer none] w fun e w' =>
      e = .returned (.iface 56 (.pointer (some ⟨w.heap.size, 0, none⟩))) ∧ w.alloc (.cells #[.int .i64 ((0 : Nat) : Int), .int .i64 1] 58) = w' := by
  go_enter Try.func24, Try.ntmps24
  go_wp2_with fail
  refine (err_nil w).mono ?_
  rintro e w1 ⟨rfl, rfl⟩
  go_wp2_with fail
  refine (at_nil w).mono ?_
  rintro e w1 ⟨rfl, rfl⟩
  go_wp2
  go_ret
  exact ⟨rfl, rfl⟩
theorem word1 (w : World) : Calls Try.prog 56 #[.int .i64 1] w fun e w' => e = .returned (.string ⟨#[110, 105, 108]⟩) ∧ w = w' := by
  go_enter Try.func56, Try.ntmps56
  go_wp2
  go_ret
  exact ⟨rfl, rfl⟩
theorem digits0 : Lib.decDigits 0 = [48] := by unfold Lib.decDigits; rfl
theorem nil_error (b : Nat) (w : World) (h : w.heap[b]? = some (.cells #[.int .i64 ((0 : Nat) : Int), .int .i64 1] 58 (0, 0))) :
    Calls Try.prog 57 #[.pointer (some ⟨b, 0, none⟩)] w fun e w' => e = .returned (.string ⟨#[97, 116, 32, 48, 58, 32, 110, 105, 108]⟩) ∧ ∃ n, w.drewN n = w' :=
  error_of b 0 1 [48] [110, 105, 108] (by decide) (by decide) w
    (fun W => by have := Try.strconv_Itoa_small 0 (by omega) W; rwa [digits0] at this)
    (fun W => (word1 W).mono fun e w' ⟨h1, h2⟩ => ⟨h1, h2.symm⟩)
    (by rw [cell_of h]; rfl) (by rw [cell_of h]; rfl)
end Go.Proofs.Ytlgjkdfpcmkjoaa
