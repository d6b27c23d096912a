/- The walk of TrieMay: both tell the same of one export. -/
import Derived.Test.YtblfighfahffkaaTrFew
import Derived.Deep.RegionHeld3
import Derived.Deep.RegionWith
namespace Go.Proofs.Ytblfighfahffkaa.trieMay
open Go.RowKit
set_option maxRecDepth 20000 in
set_option maxHeartbeats 3200000 in
theorem walk (nm : List Int) (x : Ex) (w : World) (hn : Byt nm) (ho : Byt x.other) :
    Calls Try.prog 6 #[exV (strOfNums nm) x] w fun e w' => e = .returned (.bool true) ∧ Below w.heap.size w w' := by
  have K := Lib.hid (fun w : World => known9_any w)
  have BL := Lib.hid (fun (w' : World) (h : w.grownBy w' none) => (below_grown h (Nat.le_refl _) (fun k e => by cases e) : Below w.heap.size w w'))
  have g1 := grown1 w (.cells (exArr (strOfNums nm) x) 33)
  have E3 : ExAt (w.alloc (.cells (exArr (strOfNums nm) x) 33)) w.heap.size (strOfNums nm) x := heap_alloc_new w _
  obtain ⟨w1, hw1⟩ : ∃ w1, w.alloc (.cells (exArr (strOfNums nm) x) 33) = w1 := ⟨_, rfl⟩
  rw [hw1] at g1 E3
  obtain ⟨c0, c1, c2, c3, c4, c5, c6⟩ := E3.c
  have HE := Lib.hid E3
  have HG := Lib.hid g1
  clear E3 g1
  have D1 := Lib.hid (fun o : Obj => (grown_trans (grown_drewN (grown_refl w1 _) 1) (grown1 w1.drew o) : w1.grownBy (w1.drew.alloc o) none))
  cases hf : fewB nm x
  · have FW := Lib.hid (fun W g c (h : ExAt W g (strOfNums nm) x) => (few_one (c := c) h).mono (R' := fun e w' => e = .returned (.bool false) ∧ w' = W) (fun e w' h => ⟨by rw [h.1, hf], h.2⟩))
    clear hf
    go_enter Try.func6, Try.ntmps6
    simp only [exV, exArr] at hw1 ⊢
    go_wp2_with fail
    clear c0 c1 c2 c3 c4 c5 c6
    have Gw1 := HG
    have sw1 := HE.out
    refine wp_region_held_drew (S := fun W => ExAt W w.heap.size (strOfNums nm) x) (by kernel_rfl) HE.out (fun hS => ?_)
    refine wpAnyH_take (i := 0) (oi := ⟨some 3, _, _, _, _, _⟩) (v := exV (strOfNums nm) x) rfl (by kernel_rfl) (by kernel_rfl) (by kernel_rfl) (fun _ _ _ h => h) (Or.inl ⟨by rfl, fun W hW => ?_⟩) hS ?_
    · obtain ⟨c0, c1, c2, c3, c4, c5, c6⟩ := hW.c
      go_simp
      rfl
    try simp only [Act.put, List.setIfInBounds_toArray, List.set_cons_zero, List.set_cons_succ]
    refine wpAnyH_ready (rs := [1]) (by kernel_rfl) (by simp) ?_
    refine AllReadyH.cons (o := ⟨some 4, _, _, _, _, _⟩) rfl (fun K' hK' => ?_) AllReadyH.nil
    simp only [exV, exArr]
    go_simp
    have t2 : ExAt (w1.alloc (.cells (exArr (strOfNums nm) x) 33)).drew w.heap.size (strOfNums nm) x := by
      have t0 := sw1.kept (grown1 w1 (.cells (exArr (strOfNums nm) x) 33)) (by simp)
      exact t0
    have n2 : ExAt (w1.alloc (.cells (exArr (strOfNums nm) x) 33)).drew w1.heap.size (strOfNums nm) x := heap_alloc_new w1 _
    have G2 := Lib.hid (grown_trans Gw1.out (grown_drewN (grown1 w1 (.cells (exArr (strOfNums nm) x) 33)) 1))
    simp only [exArr] at t2 n2 G2
    obtain ⟨w2, hw2⟩ : ∃ W, W = (w1.alloc (.cells #[.string (strOfNums nm), .int .i64 x.kind, .bool x.weak, .int .u64 x.value, .int .u64 x.resolver, .int .u64 x.ordinal, .string (strOfNums x.other)] 33)).drew := ⟨_, rfl⟩
    have Gw2 : Hid (w.grownBy w2 none) := Lib.hid (by rw [hw2]; exact G2.out)
    have sw2 : ExAt w2 w.heap.size (strOfNums nm) x := by rw [hw2]; exact t2
    have xw2 : ExAt w2 w1.heap.size (strOfNums nm) x := by rw [hw2]; exact n2
    rw [← hw2]
    clear t2 n2 G2 hw2
    refine hK'.out _ _ sw2 (fun hS => ?_)
    clear hK' K'
    try simp only [Act.put, List.setIfInBounds_toArray, List.set_cons_zero, List.set_cons_succ]
    refine wpAnyH_ready (rs := [2]) (by kernel_rfl) (by simp) ?_
    refine AllReadyH.cons (o := ⟨some 5, _, _, _, _, _⟩) rfl (fun K' hK' => ?_) AllReadyH.nil
    go_simp
    go_at_call 14
    refine (FW.out _ _ _ xw2).mono ?_
    rintro e w' ⟨rfl, rfl⟩
    refine hK'.out _ _ sw2 (fun hS => ?_)
    clear hK' K'
    try simp only [Act.put, List.setIfInBounds_toArray, List.set_cons_zero, List.set_cons_succ]
    refine wpAnyH_take (i := 3) (oi := ⟨some 6, _, _, _, _, _⟩) (v := .bool true) rfl (by kernel_rfl) (by kernel_rfl) (by kernel_rfl) (fun _ _ _ h => h) (Or.inl ⟨by rfl, fun W hW => ?_⟩) hS ?_
    · go_simp
    try simp only [Act.put, List.setIfInBounds_toArray, List.set_cons_zero, List.set_cons_succ]
    refine wpAnyH_take (i := 4) (oi := ⟨some 7, _, _, _, _, _⟩) (v := .bool true) rfl (by kernel_rfl) (by kernel_rfl) (by kernel_rfl) (fun _ _ _ h => h) (Or.inl ⟨by rfl, fun W hW => ?_⟩) hS ?_
    · go_simp
    try simp only [Act.put, List.setIfInBounds_toArray, List.set_cons_zero, List.set_cons_succ]
    refine wpAnyH_ready (rs := [5]) (by kernel_rfl) (by simp) ?_
    refine AllReadyH.cons (o := ⟨some 8, _, _, _, _, _⟩) rfl (fun K' hK' => ?_) AllReadyH.nil
    go_simp
    go_at_call 8
    refine (K.out _).mono ?_
    rintro e w3 ⟨rfl, hg⟩
    have sw3 := sw2.kept hg (by simp)
    have Gw3 := Lib.hid (grown_trans Gw2.out hg)
    clear hg
    refine hK'.out _ _ sw3 (fun hS => ?_)
    clear hK' K'
    try simp only [Act.put, List.setIfInBounds_toArray, List.set_cons_zero, List.set_cons_succ]
    refine wpAnyH_take (i := 6) (oi := ⟨some 9, _, _, _, _, _⟩) (v := .bool true) rfl (by kernel_rfl) (by kernel_rfl) (by kernel_rfl) (fun _ _ _ h => h) (Or.inl ⟨by rfl, fun W hW => ?_⟩) hS ?_
    · go_simp
    try simp only [Act.put, List.setIfInBounds_toArray, List.set_cons_zero, List.set_cons_succ]
    refine wpAnyH_take (i := 7) (oi := ⟨some 10, _, _, _, _, _⟩) (v := .bool true) rfl (by kernel_rfl) (by kernel_rfl) (by kernel_rfl) (fun _ _ _ h => h) (Or.inl ⟨by rfl, fun W hW => ?_⟩) hS ?_
    · go_simp
    try simp only [Act.put, List.setIfInBounds_toArray, List.set_cons_zero, List.set_cons_succ]
    refine wpAnyH_take (i := 8) (oi := ⟨some 11, _, _, _, _, _⟩) (v := undef) rfl (by kernel_rfl) (by kernel_rfl) (by kernel_rfl) (fun _ _ _ h => h) (Or.inr ⟨by rfl, rfl⟩) hS ?_
    try simp only [Act.put, List.setIfInBounds_toArray, List.set_cons_zero, List.set_cons_succ]
    refine wpAnyH_take (i := 9) (oi := ⟨some 12, _, _, _, _, _⟩) (v := undef) rfl (by kernel_rfl) (by kernel_rfl) (by kernel_rfl) (fun _ _ _ h => h) (Or.inr ⟨by rfl, rfl⟩) hS ?_
    try simp only [Act.put, List.setIfInBounds_toArray, List.set_cons_zero, List.set_cons_succ]
    refine wpAnyH_take (i := 10) (oi := ⟨some 13, _, _, _, _, _⟩) (v := undef) rfl (by kernel_rfl) (by kernel_rfl) (by kernel_rfl) (fun _ _ _ h => h) (Or.inr ⟨by rfl, rfl⟩) hS ?_
    try simp only [Act.put, List.setIfInBounds_toArray, List.set_cons_zero, List.set_cons_succ]
    refine wpAnyH_take (i := 11) (oi := ⟨some 14, _, _, _, _, _⟩) (v := undef) rfl (by kernel_rfl) (by kernel_rfl) (by kernel_rfl) (fun _ _ _ h => h) (Or.inr ⟨by rfl, rfl⟩) hS ?_
    try simp only [Act.put, List.setIfInBounds_toArray, List.set_cons_zero, List.set_cons_succ]
    refine wpAnyH_take (i := 12) (oi := ⟨some 15, _, _, _, _, _⟩) (v := undef) rfl (by kernel_rfl) (by kernel_rfl) (by kernel_rfl) (fun _ _ _ h => h) (Or.inr ⟨by rfl, rfl⟩) hS ?_
    try simp only [Act.put, List.setIfInBounds_toArray, List.set_cons_zero, List.set_cons_succ]
    refine wpAnyH_take (i := 13) (oi := ⟨some 16, _, _, _, _, _⟩) (v := undef) rfl (by kernel_rfl) (by kernel_rfl) (by kernel_rfl) (fun _ _ _ h => h) (Or.inr ⟨by rfl, rfl⟩) hS ?_
    try simp only [Act.put, List.setIfInBounds_toArray, List.set_cons_zero, List.set_cons_succ]
    refine wpAnyH_take (i := 14) (oi := ⟨some 17, _, _, _, _, _⟩) (v := undef) rfl (by kernel_rfl) (by kernel_rfl) (by kernel_rfl) (fun _ _ _ h => h) (Or.inr ⟨by rfl, rfl⟩) hS ?_
    try simp only [Act.put, List.setIfInBounds_toArray, List.set_cons_zero, List.set_cons_succ]
    refine wpAnyH_take (i := 15) (oi := ⟨some 18, _, _, _, _, _⟩) (v := undef) rfl (by kernel_rfl) (by kernel_rfl) (by kernel_rfl) (fun _ _ _ h => h) (Or.inr ⟨by rfl, rfl⟩) hS ?_
    try simp only [Act.put, List.setIfInBounds_toArray, List.set_cons_zero, List.set_cons_succ]
    refine wpAnyH_take (i := 16) (oi := ⟨some 19, _, _, _, _, _⟩) (v := undef) rfl (by kernel_rfl) (by kernel_rfl) (by kernel_rfl) (fun _ _ _ h => h) (Or.inr ⟨by rfl, rfl⟩) hS ?_
    try simp only [Act.put, List.setIfInBounds_toArray, List.set_cons_zero, List.set_cons_succ]
    refine wpAnyH_take (i := 17) (oi := ⟨some 20, _, _, _, _, _⟩) (v := undef) rfl (by kernel_rfl) (by kernel_rfl) (by kernel_rfl) (fun _ _ _ h => h) (Or.inr ⟨by rfl, rfl⟩) hS ?_
    try simp only [Act.put, List.setIfInBounds_toArray, List.set_cons_zero, List.set_cons_succ]
    refine wpAnyH_take (i := 18) (oi := ⟨some 21, _, _, _, _, _⟩) (v := undef) rfl (by kernel_rfl) (by kernel_rfl) (by kernel_rfl) (fun _ _ _ h => h) (Or.inr ⟨by rfl, rfl⟩) hS ?_
    try simp only [Act.put, List.setIfInBounds_toArray, List.set_cons_zero, List.set_cons_succ]
    refine wpAnyH_take (i := 19) (oi := ⟨some 22, _, _, _, _, _⟩) (v := undef) rfl (by kernel_rfl) (by kernel_rfl) (by kernel_rfl) (fun _ _ _ h => h) (Or.inr ⟨by rfl, rfl⟩) hS ?_
    try simp only [Act.put, List.setIfInBounds_toArray, List.set_cons_zero, List.set_cons_succ]
    refine wpAnyH_take (i := 20) (oi := ⟨some 23, _, _, _, _, _⟩) (v := undef) rfl (by kernel_rfl) (by kernel_rfl) (by kernel_rfl) (fun _ _ _ h => h) (Or.inr ⟨by rfl, rfl⟩) hS ?_
    try simp only [Act.put, List.setIfInBounds_toArray, List.set_cons_zero, List.set_cons_succ]
    refine wpAnyH_take (i := 21) (oi := ⟨some 24, _, _, _, _, _⟩) (v := .bool true) rfl (by kernel_rfl) (by kernel_rfl) (by kernel_rfl) (fun _ _ _ h => h) (Or.inl ⟨by rfl, fun W hW => ?_⟩) hS ?_
    · go_simp
    try simp only [Act.put, List.setIfInBounds_toArray, List.set_cons_zero, List.set_cons_succ]
    refine wpAnyH_take (i := 22) (oi := ⟨some 2, _, _, _, _, _⟩) (v := .bool true) rfl (by kernel_rfl) (by kernel_rfl) (by kernel_rfl) (fun _ _ _ h => h) (Or.inl ⟨by rfl, fun W hW => ?_⟩) hS ?_
    · go_simp
    try simp only [Act.put, List.setIfInBounds_toArray, List.set_cons_zero, List.set_cons_succ]
    refine wpAnyH_done (by kernel_rfl) ?_ _
    go_wp2
    go_ret
    exact ⟨rfl, BL.out _ Gw3.out⟩
  · have FW := Lib.hid (fun W g c (h : ExAt W g (strOfNums nm) x) => (few_one (c := c) h).mono (R' := fun e w' => e = .returned (.bool true) ∧ w' = W) (fun e w' h => ⟨by rw [h.1, hf], h.2⟩))
    have hl : nm.length ≤ 400 ∧ x.other.length ≤ 400 := by unfold fewB at hf; simpa using hf
    have MA := Lib.hid (fun W => May_any (x := x) hn ho (by omega) (by omega) W)
    have RM := Lib.hid (fun W => refMay_any (x := x) hn ho (by omega) (by omega) W)
    clear hf hl hn ho
    generalize mayE nm x = r at *
    go_enter Try.func6, Try.ntmps6
    simp only [exV, exArr] at hw1 ⊢
    go_wp2_with fail
    clear c0 c1 c2 c3 c4 c5 c6
    have Gw1 := HG
    have sw1 := HE.out
    refine wp_region_held_drew (S := fun W => ExAt W w.heap.size (strOfNums nm) x) (by kernel_rfl) HE.out (fun hS => ?_)
    refine wpAnyH_take (i := 0) (oi := ⟨some 3, _, _, _, _, _⟩) (v := exV (strOfNums nm) x) rfl (by kernel_rfl) (by kernel_rfl) (by kernel_rfl) (fun _ _ _ h => h) (Or.inl ⟨by rfl, fun W hW => ?_⟩) hS ?_
    · obtain ⟨c0, c1, c2, c3, c4, c5, c6⟩ := hW.c
      go_simp
      rfl
    try simp only [Act.put, List.setIfInBounds_toArray, List.set_cons_zero, List.set_cons_succ]
    refine wpAnyH_ready (rs := [1]) (by kernel_rfl) (by simp) ?_
    refine AllReadyH.cons (o := ⟨some 4, _, _, _, _, _⟩) rfl (fun K' hK' => ?_) AllReadyH.nil
    simp only [exV, exArr]
    go_simp
    have t2 : ExAt (w1.alloc (.cells (exArr (strOfNums nm) x) 33)).drew w.heap.size (strOfNums nm) x := by
      have t0 := sw1.kept (grown1 w1 (.cells (exArr (strOfNums nm) x) 33)) (by simp)
      exact t0
    have n2 : ExAt (w1.alloc (.cells (exArr (strOfNums nm) x) 33)).drew w1.heap.size (strOfNums nm) x := heap_alloc_new w1 _
    have G2 := Lib.hid (grown_trans Gw1.out (grown_drewN (grown1 w1 (.cells (exArr (strOfNums nm) x) 33)) 1))
    simp only [exArr] at t2 n2 G2
    obtain ⟨w2, hw2⟩ : ∃ W, W = (w1.alloc (.cells #[.string (strOfNums nm), .int .i64 x.kind, .bool x.weak, .int .u64 x.value, .int .u64 x.resolver, .int .u64 x.ordinal, .string (strOfNums x.other)] 33)).drew := ⟨_, rfl⟩
    have Gw2 : Hid (w.grownBy w2 none) := Lib.hid (by rw [hw2]; exact G2.out)
    have sw2 : ExAt w2 w.heap.size (strOfNums nm) x := by rw [hw2]; exact t2
    have xw2 : ExAt w2 w1.heap.size (strOfNums nm) x := by rw [hw2]; exact n2
    rw [← hw2]
    clear t2 n2 G2 hw2
    refine hK'.out _ _ sw2 (fun hS => ?_)
    clear hK' K'
    try simp only [Act.put, List.setIfInBounds_toArray, List.set_cons_zero, List.set_cons_succ]
    refine wpAnyH_ready (rs := [2]) (by kernel_rfl) (by simp) ?_
    refine AllReadyH.cons (o := ⟨some 5, _, _, _, _, _⟩) rfl (fun K' hK' => ?_) AllReadyH.nil
    go_simp
    go_at_call 14
    refine (FW.out _ _ _ xw2).mono ?_
    rintro e w2 ⟨rfl, rfl⟩
    refine hK'.out _ _ sw2 (fun hS => ?_)
    clear hK' K'
    try simp only [Act.put, List.setIfInBounds_toArray, List.set_cons_zero, List.set_cons_succ]
    refine wpAnyH_take (i := 3) (oi := ⟨some 6, _, _, _, _, _⟩) (v := .bool false) rfl (by kernel_rfl) (by kernel_rfl) (by kernel_rfl) (fun _ _ _ h => h) (Or.inl ⟨by rfl, fun W hW => ?_⟩) hS ?_
    · go_simp
    try simp only [Act.put, List.setIfInBounds_toArray, List.set_cons_zero, List.set_cons_succ]
    refine wpAnyH_take (i := 4) (oi := ⟨some 7, _, _, _, _, _⟩) (v := .bool false) rfl (by kernel_rfl) (by kernel_rfl) (by kernel_rfl) (fun _ _ _ h => h) (Or.inl ⟨by rfl, fun W hW => ?_⟩) hS ?_
    · go_simp
    try simp only [Act.put, List.setIfInBounds_toArray, List.set_cons_zero, List.set_cons_succ]
    refine wpAnyH_take (i := 5) (oi := ⟨some 8, _, _, _, _, _⟩) (v := undef) rfl (by kernel_rfl) (by kernel_rfl) (by kernel_rfl) (fun _ _ _ h => h) (Or.inr ⟨by rfl, rfl⟩) hS ?_
    try simp only [Act.put, List.setIfInBounds_toArray, List.set_cons_zero, List.set_cons_succ]
    refine wpAnyH_take (i := 6) (oi := ⟨some 9, _, _, _, _, _⟩) (v := .bool false) rfl (by kernel_rfl) (by kernel_rfl) (by kernel_rfl) (fun _ _ _ h => h) (Or.inl ⟨by rfl, fun W hW => ?_⟩) hS ?_
    · go_simp
    try simp only [Act.put, List.setIfInBounds_toArray, List.set_cons_zero, List.set_cons_succ]
    refine wpAnyH_take (i := 7) (oi := ⟨some 10, _, _, _, _, _⟩) (v := .bool false) rfl (by kernel_rfl) (by kernel_rfl) (by kernel_rfl) (fun _ _ _ h => h) (Or.inl ⟨by rfl, fun W hW => ?_⟩) hS ?_
    · go_simp
    try simp only [Act.put, List.setIfInBounds_toArray, List.set_cons_zero, List.set_cons_succ]
    refine wpAnyH_take (i := 8) (oi := ⟨some 11, _, _, _, _, _⟩) (v := exV (strOfNums nm) x) rfl (by kernel_rfl) (by kernel_rfl) (by kernel_rfl) (fun _ _ _ h => h) (Or.inl ⟨by rfl, fun W hW => ?_⟩) hS ?_
    · obtain ⟨c0, c1, c2, c3, c4, c5, c6⟩ := hW.c
      go_simp
      rfl
    try simp only [Act.put, List.setIfInBounds_toArray, List.set_cons_zero, List.set_cons_succ]
    refine wpAnyH_ready (rs := [9]) (by kernel_rfl) (by simp) ?_
    refine AllReadyH.cons (o := ⟨some 12, _, _, _, _, _⟩) rfl (fun K' hK' => ?_) AllReadyH.nil
    simp only [exV, exArr]
    go_simp
    have t3 : ExAt (w2.alloc (.cells (exArr (strOfNums nm) x) 33)) w.heap.size (strOfNums nm) x := by
      have t0 := sw2.kept (grown1 w2 (.cells (exArr (strOfNums nm) x) 33)) (by simp)
      exact t0
    have n3 : ExAt (w2.alloc (.cells (exArr (strOfNums nm) x) 33)) w2.heap.size (strOfNums nm) x := heap_alloc_new w2 _
    have G3 := Lib.hid (grown_trans Gw2.out (grown1 w2 (.cells (exArr (strOfNums nm) x) 33)))
    simp only [exArr] at t3 n3 G3
    obtain ⟨w3, hw3⟩ : ∃ W, W = (w2.alloc (.cells #[.string (strOfNums nm), .int .i64 x.kind, .bool x.weak, .int .u64 x.value, .int .u64 x.resolver, .int .u64 x.ordinal, .string (strOfNums x.other)] 33)) := ⟨_, rfl⟩
    have Gw3 : Hid (w.grownBy w3 none) := Lib.hid (by rw [hw3]; exact G3.out)
    have sw3 : ExAt w3 w.heap.size (strOfNums nm) x := by rw [hw3]; exact t3
    have xw3 : ExAt w3 w2.heap.size (strOfNums nm) x := by rw [hw3]; exact n3
    rw [← hw3]
    clear t3 n3 G3 hw3
    refine hK'.out _ _ sw3 (fun hS => ?_)
    clear hK' K'
    try simp only [Act.put, List.setIfInBounds_toArray, List.set_cons_zero, List.set_cons_succ]
    refine wpAnyH_ready (rs := [10]) (by kernel_rfl) (by simp) ?_
    refine AllReadyH.cons (o := ⟨some 13, _, _, _, _, _⟩) rfl (fun K' hK' => ?_) AllReadyH.nil
    go_simp
    go_at_call 14
    refine (FW.out _ _ _ xw3).mono ?_
    rintro e w3 ⟨rfl, rfl⟩
    refine hK'.out _ _ sw3 (fun hS => ?_)
    clear hK' K'
    try simp only [Act.put, List.setIfInBounds_toArray, List.set_cons_zero, List.set_cons_succ]
    refine wpAnyH_take (i := 11) (oi := ⟨some 14, _, _, _, _, _⟩) (v := .bool true) rfl (by kernel_rfl) (by kernel_rfl) (by kernel_rfl) (fun _ _ _ h => h) (Or.inl ⟨by rfl, fun W hW => ?_⟩) hS ?_
    · go_simp
    try simp only [Act.put, List.setIfInBounds_toArray, List.set_cons_zero, List.set_cons_succ]
    refine wpAnyH_take (i := 12) (oi := ⟨some 15, _, _, _, _, _⟩) (v := exV (strOfNums nm) x) rfl (by kernel_rfl) (by kernel_rfl) (by kernel_rfl) (fun _ _ _ h => h) (Or.inl ⟨by rfl, fun W hW => ?_⟩) hS ?_
    · obtain ⟨c0, c1, c2, c3, c4, c5, c6⟩ := hW.c
      go_simp
      rfl
    try simp only [Act.put, List.setIfInBounds_toArray, List.set_cons_zero, List.set_cons_succ]
    refine wpAnyH_take (i := 14) (oi := ⟨some 17, _, _, _, _, _⟩) (v := exV (strOfNums nm) x) rfl (by kernel_rfl) (by kernel_rfl) (by kernel_rfl) (fun _ _ _ h => h) (Or.inl ⟨by rfl, fun W hW => ?_⟩) hS ?_
    · obtain ⟨c0, c1, c2, c3, c4, c5, c6⟩ := hW.c
      go_simp
      rfl
    try simp only [Act.put, List.setIfInBounds_toArray, List.set_cons_zero, List.set_cons_succ]
    refine wpAnyH_ready (rs := [13]) (by kernel_rfl) (by simp) ?_
    refine AllReadyH.cons (o := ⟨some 16, _, _, _, _, _⟩) rfl (fun K' hK' => ?_) AllReadyH.nil
    simp only [exV, exArr]
    go_simp
    go_at_call 18
    refine (MA.out _).mono ?_
    rintro e w4 ⟨rfl, hg⟩
    have sw4 := sw3.kept hg (by simp)
    have Gw4 := Lib.hid (grown_trans Gw3.out hg)
    clear hg
    refine hK'.out _ _ sw4 (fun hS => ?_)
    clear hK' K'
    try simp only [Act.put, List.setIfInBounds_toArray, List.set_cons_zero, List.set_cons_succ]
    refine wpAnyH_ready (rs := [15]) (by kernel_rfl) (by simp) ?_
    refine AllReadyH.cons (o := ⟨some 18, _, _, _, _, _⟩) rfl (fun K' hK' => ?_) AllReadyH.nil
    go_simp
    go_at_call 19
    refine (RM.out _).mono ?_
    rintro e w5 ⟨rfl, hg⟩
    have sw5 := sw4.kept hg (by simp)
    have Gw5 := Lib.hid (grown_trans Gw4.out hg)
    clear hg
    refine hK'.out _ _ sw5 (fun hS => ?_)
    clear hK' K'
    try simp only [Act.put, List.setIfInBounds_toArray, List.set_cons_zero, List.set_cons_succ]
    refine wpAnyH_take (i := 16) (oi := ⟨some 19, _, _, _, _, _⟩) (v := .bool true) rfl (by kernel_rfl) (by kernel_rfl) (by kernel_rfl) (fun _ _ _ h => h) (Or.inl ⟨by rfl, fun W hW => ?_⟩) hS ?_
    · go_simp
    try simp only [Act.put, List.setIfInBounds_toArray, List.set_cons_zero, List.set_cons_succ]
    refine wpAnyH_take (i := 17) (oi := ⟨some 20, _, _, _, _, _⟩) (v := .bool true) rfl (by kernel_rfl) (by kernel_rfl) (by kernel_rfl) (fun _ _ _ h => h) (Or.inl ⟨by rfl, fun W hW => ?_⟩) hS ?_
    · go_simp
    try simp only [Act.put, List.setIfInBounds_toArray, List.set_cons_zero, List.set_cons_succ]
    refine wpAnyH_take (i := 18) (oi := ⟨some 21, _, _, _, _, _⟩) (v := .bool true) rfl (by kernel_rfl) (by kernel_rfl) (by kernel_rfl) (fun _ _ _ h => h) (Or.inl ⟨by rfl, fun W hW => ?_⟩) hS ?_
    · go_simp
    try simp only [Act.put, List.setIfInBounds_toArray, List.set_cons_zero, List.set_cons_succ]
    refine wpAnyH_ready (rs := [19]) (by kernel_rfl) (by simp) ?_
    refine AllReadyH.cons (o := ⟨some 22, _, _, _, _, _⟩) rfl (fun K' hK' => ?_) AllReadyH.nil
    go_simp
    go_at_call 8
    refine (K.out _).mono ?_
    rintro e w6 ⟨rfl, hg⟩
    have sw6 := sw5.kept hg (by simp)
    have Gw6 := Lib.hid (grown_trans Gw5.out hg)
    clear hg
    refine hK'.out _ _ sw6 (fun hS => ?_)
    clear hK' K'
    try simp only [Act.put, List.setIfInBounds_toArray, List.set_cons_zero, List.set_cons_succ]
    refine wpAnyH_take (i := 20) (oi := ⟨some 23, _, _, _, _, _⟩) (v := .bool true) rfl (by kernel_rfl) (by kernel_rfl) (by kernel_rfl) (fun _ _ _ h => h) (Or.inl ⟨by rfl, fun W hW => ?_⟩) hS ?_
    · go_simp
    try simp only [Act.put, List.setIfInBounds_toArray, List.set_cons_zero, List.set_cons_succ]
    refine wpAnyH_take (i := 21) (oi := ⟨some 24, _, _, _, _, _⟩) (v := .bool true) rfl (by kernel_rfl) (by kernel_rfl) (by kernel_rfl) (fun _ _ _ h => h) (Or.inl ⟨by rfl, fun W hW => ?_⟩) hS ?_
    · go_simp
    try simp only [Act.put, List.setIfInBounds_toArray, List.set_cons_zero, List.set_cons_succ]
    refine wpAnyH_take (i := 22) (oi := ⟨some 2, _, _, _, _, _⟩) (v := .bool true) rfl (by kernel_rfl) (by kernel_rfl) (by kernel_rfl) (fun _ _ _ h => h) (Or.inl ⟨by rfl, fun W hW => ?_⟩) hS ?_
    · go_simp
    try simp only [Act.put, List.setIfInBounds_toArray, List.set_cons_zero, List.set_cons_succ]
    refine wpAnyH_done (by kernel_rfl) ?_ _
    go_wp2
    go_ret
    exact ⟨rfl, BL.out _ Gw6.out⟩
end Go.Proofs.Ytblfighfahffkaa.trieMay
