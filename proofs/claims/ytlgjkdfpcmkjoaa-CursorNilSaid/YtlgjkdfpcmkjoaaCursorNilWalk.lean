/- The walk of CursorNil: what a cursor that is not there, and a zero one, answer. -/
import Derived.Test.YtlgjkdfpcmkjoaaNil
namespace Go.Proofs.Ytlgjkdfpcmkjoaa.cursorNil
open Go.RowKit

theorem zero_cur (w : World) : Cur (w.alloc (.cells #[.slice none 0 0, .int .i64 0, .bool false, .bool false] 47)) w.heap.size w.heap.size none 0 [] 0 false false :=
  ⟨heap_alloc_new w _, World.ownsRow_nil _ _ _ _, Nat.le_refl _, by simp [Value.ownBlock], by simp, by simp⟩

set_option maxHeartbeats 800000 in
theorem walk (w : World) :
    Calls Try.prog 6 #[] w fun e w' => e = .returned (.bool true) ∧ Below w.heap.size w w' := by
  go_enter Try.func6, Try.ntmps6
  go_wp2_with fail
  refine (seek_nil 0 w).mono ?_
  rintro e w' ⟨rfl, rfl⟩
  go_wp2_with fail
  refine (fail_nil w).mono ?_
  rintro e w' ⟨rfl, rfl⟩
  go_wp2_with fail
  refine (number_nil1 w).mono ?_
  rintro e w' ⟨rfl, rfl⟩
  go_wp2_with fail
  refine (bytes_nil 0 w).mono ?_
  rintro e w' ⟨rfl, rfl⟩
  go_wp2_with fail
  refine (field_nil 0 w).mono ?_
  rintro e w1 ⟨rfl, hb1⟩
  go_wp2_with fail
  refine (text_nil 5 (by omega) w1).mono ?_
  rintro e w' ⟨rfl, rfl⟩
  go_wp2_with fail
  refine (at_nil w1).mono ?_
  rintro e w' ⟨rfl, rfl⟩
  go_wp2_with fail
  refine (left_nil w1).mono ?_
  rintro e w' ⟨rfl, rfl⟩
  go_wp2_with fail
  refine (err_nil w1).mono ?_
  rintro e w' ⟨rfl, rfl⟩
  go_wp2_with fail
  refine (wrong_nil w1).mono ?_
  rintro e w' ⟨rfl, rfl⟩
  have hb2 : Below w.heap.size w (w1.alloc (.cells #[.int .i64 ((0 : Nat) : Int), .int .i64 1] 58)) := hb1.alloc hb1.size _
  generalize w1.alloc (.cells #[.int .i64 ((0 : Nat) : Int), .int .i64 1] 58) = w2 at *
  go_wp2_with fail
  refine (wrong_nil w2).mono ?_
  rintro e w' ⟨rfl, rfl⟩
  have me := method_error ⟨w2.heap.size, 0, none⟩
  go_wp2_with fail
  refine (nil_error _ _ (heap_alloc_new w2 _)).mono ?_
  rintro e w' ⟨rfl, n, rfl⟩
  have hb3 : Below w.heap.size w ((w2.alloc (.cells #[.int .i64 ((0 : Nat) : Int), .int .i64 1] 58)).drewN n) := below_drewN (hb2.alloc hb2.size _) n
  generalize (w2.alloc (.cells #[.int .i64 ((0 : Nat) : Int), .int .i64 1] 58)).drewN n = w3 at *
  clear me hb1 hb2
  go_wp2_with fail
  have hz := zero_cur w3
  refine (err_any hz).mono ?_
  rintro e w' ⟨rfl, rfl⟩
  go_wp2_with fail
  refine (left_any hz).mono ?_
  rintro e w' ⟨rfl, n, rfl⟩
  have hz1 := hz.drewN n
  go_wp2_with fail
  refine (wrong_ok hz1).mono ?_
  rintro e w' ⟨rfl, rfl⟩
  go_wp2_with fail
  refine (number_no hz1 1 (.inr (.inr (by decide)))).mono ?_
  rintro e w4 ⟨rfl, hz2, hg4⟩
  go_wp2_with fail
  refine (err_any hz2).mono ?_
  rintro e w' ⟨rfl, rfl⟩
  go_wp2_with fail
  have hb4 : Below w.heap.size w w4 := (below_drewN (hb3.alloc hb3.size _) n).trans (below_grown hg4 (Nat.le_trans hb3.size (by simp)) (fun k hk => by have := hb3.size; simp at hk; omega))
  refine (known_any w4).mono ?_
  rintro e w5 ⟨rfl, hb5⟩
  go_wp2
  go_ret
  exact ⟨rfl, hb4.trans (hb5.mono hb4.size)⟩
end Go.Proofs.Ytlgjkdfpcmkjoaa.cursorNil
