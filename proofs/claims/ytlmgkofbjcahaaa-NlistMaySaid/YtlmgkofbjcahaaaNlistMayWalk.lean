/- The walk of NlistMay: both tell the same of one symbol. -/
import Derived.Test.YtlmgkofbjcahaaaNlS
import Derived.Test.YtlmgkofbjcahaaaNlY
import Derived.Deep.RegionHeld3
import Derived.Deep.RegionWith
namespace Go.Proofs.Ytlmgkofbjcahaaa.nlistMay
open Go.RowKit
set_option maxRecDepth 20000 in
set_option maxHeartbeats 3200000 in
theorem walk (nm : List Int) (x : Sy) (w : World) (hf : SyFits nm x) :
    Calls Try.prog 6 #[syV (strOfNums nm) x] w fun e w' => e = .returned (.bool true) ∧ Below w.heap.size w w' := by
  have K := Lib.hid (fun w : World => known10_any w)
  have BL := Lib.hid (fun (w' : World) (h : w.grownBy w' none) => (below_grown h (Nat.le_refl _) (fun k e => by cases e) : Below w.heap.size w w'))
  have g1 := grown1 w (.cells (syArr (strOfNums nm) x) 32)
  have E3 : SyAt (w.alloc (.cells (syArr (strOfNums nm) x) 32)) w.heap.size (strOfNums nm) x := heap_alloc_new w _
  obtain ⟨w1, hw1⟩ : ∃ w1, w1 = w.alloc (.cells (syArr (strOfNums nm) x) 32) := ⟨_, rfl⟩
  obtain ⟨X, hX⟩ : ∃ X, X = w.heap.size := ⟨_, rfl⟩
  rw [← hw1] at g1 E3
  rw [← hX] at E3
  have hst : (strOfNums nm).size = nm.length := strOfNums_size _
  obtain ⟨c0, c1, c2, c3⟩ := E3.c
  have HE := Lib.hid E3
  have HG := Lib.hid g1
  have HW := Lib.hid hw1
  have HX := Lib.hid hX
  clear E3 g1 hw1 hX
  by_cases h4 : 400 < nm.length
  · have d4 : decide ((400 : Int) < (nm.length : Int)) = true := by simp; omega
    clear hf
    simp only [syV, syArr] at *
    go_enter Try.func6, Try.ntmps6
    go_upto_region 1 with fail
    rw [← HW.out, ← HX.out]
    clear HW HX
    go_wp2_with fail
    refine (K.out _).mono ?_
    rintro e w2 ⟨rfl, hg⟩
    have B2 := Lib.hid (BL.out _ (grown_trans HG.out hg))
    clear hg
    go_wp2
    go_ret
    exact ⟨rfl, B2.out⟩
  · have d4 : decide ((400 : Int) < (nm.length : Int)) = false := by simp; omega
    have MA := Lib.hid (fun W => May10_any (x := x) hf.name hf.len W)
    have RM := Lib.hid (fun W => refMay10_any (x := x) hf.name (by omega) W)
    clear hf
    generalize mayS nm x = r at *
    simp only [syV, syArr] at *
    go_enter Try.func6, Try.ntmps6
    go_upto_region 1 with fail
    rw [← HW.out, ← HX.out]
    clear HW HX
    go_wp2_with fail
    have sw := HE.out
    have GW := HG
    clear c0 c1 c2 c3 HE HG
    refine wp_region_held_drew (S := fun W => SyAt W X (strOfNums nm) x) (by kernel_rfl) sw (fun hS => ?_)
    have sw : SyAt w1.drew X (strOfNums nm) x := sw
    have GW := Lib.hid (show w.grownBy w1.drew none from grown_drewN GW.out 1)
    refine wpAnyH_take (i := 0) (oi := ⟨some 8, _, _, _, _, _⟩) (v := Value.agg #[.string (strOfNums nm), .int .i64 x.sec, .int .u64 x.value, .bool x.weak]) rfl (by kernel_rfl) (by kernel_rfl) (by kernel_rfl) (fun _ _ _ h => h) (Or.inl ⟨by rfl, fun W hW => ?_⟩) hS ?_
    · obtain ⟨c0, c1, c2, c3⟩ := hW.c
      go_simp
      try rfl
    try simp only [Act.put, List.setIfInBounds_toArray, List.set_cons_zero, List.set_cons_succ]
    refine wpAnyH_take (i := 2) (oi := ⟨some 10, _, _, _, _, _⟩) (v := Value.agg #[.string (strOfNums nm), .int .i64 x.sec, .int .u64 x.value, .bool x.weak]) rfl (by kernel_rfl) (by kernel_rfl) (by kernel_rfl) (fun _ _ _ h => h) (Or.inl ⟨by rfl, fun W hW => ?_⟩) hS ?_
    · obtain ⟨c0, c1, c2, c3⟩ := hW.c
      go_simp
      try rfl
    try simp only [Act.put, List.setIfInBounds_toArray, List.set_cons_zero, List.set_cons_succ]
    refine wpAnyH_ready (rs := [1]) (by kernel_rfl) (by simp) ?_
    refine AllReadyH.cons (o := ⟨some 9, _, _, _, _, _⟩) rfl (fun K' hK' => ?_) AllReadyH.nil
    go_simp
    go_at_call 16
    refine (MA.out _).mono ?_
    rintro e w2 ⟨rfl, hg⟩
    have sw := sw.kept hg (by simp)
    have GW := Lib.hid (grown_trans GW.out hg)
    clear hg
    refine hK'.out _ _ sw (fun hS => ?_)
    clear hK' K'
    try simp only [Act.put, List.setIfInBounds_toArray, List.set_cons_zero, List.set_cons_succ]
    refine wpAnyH_ready (rs := [3]) (by kernel_rfl) (by simp) ?_
    refine AllReadyH.cons (o := ⟨some 11, _, _, _, _, _⟩) rfl (fun K' hK' => ?_) AllReadyH.nil
    go_simp
    go_at_call 17
    refine (RM.out _).mono ?_
    rintro e w3 ⟨rfl, hg⟩
    have sw := sw.kept hg (by simp)
    have GW := Lib.hid (grown_trans GW.out hg)
    clear hg
    refine hK'.out _ _ sw (fun hS => ?_)
    clear hK' K'
    try simp only [Act.put, List.setIfInBounds_toArray, List.set_cons_zero, List.set_cons_succ]
    refine wpAnyH_take (i := 4) (oi := ⟨some 12, _, _, _, _, _⟩) (v := .bool true) rfl (by kernel_rfl) (by kernel_rfl) (by kernel_rfl) (fun _ _ _ h => h) (Or.inl ⟨by rfl, fun W hW => ?_⟩) hS ?_
    · obtain ⟨c0, c1, c2, c3⟩ := hW.c
      go_simp
      try rfl
    try simp only [Act.put, List.setIfInBounds_toArray, List.set_cons_zero, List.set_cons_succ]
    refine wpAnyH_take (i := 5) (oi := ⟨some 13, _, _, _, _, _⟩) (v := .bool true) rfl (by kernel_rfl) (by kernel_rfl) (by kernel_rfl) (fun _ _ _ h => h) (Or.inl ⟨by rfl, fun W hW => ?_⟩) hS ?_
    · obtain ⟨c0, c1, c2, c3⟩ := hW.c
      go_simp
      try rfl
    try simp only [Act.put, List.setIfInBounds_toArray, List.set_cons_zero, List.set_cons_succ]
    refine wpAnyH_ready (rs := [6]) (by kernel_rfl) (by simp) ?_
    refine AllReadyH.cons (o := ⟨some 14, _, _, _, _, _⟩) rfl (fun K' hK' => ?_) AllReadyH.nil
    go_simp
    go_at_call 8
    refine (K.out _).mono ?_
    rintro e w4 ⟨rfl, hg⟩
    have sw := sw.kept hg (by simp)
    have GW := Lib.hid (grown_trans GW.out hg)
    clear hg
    refine hK'.out _ _ sw (fun hS => ?_)
    clear hK' K'
    try simp only [Act.put, List.setIfInBounds_toArray, List.set_cons_zero, List.set_cons_succ]
    refine wpAnyH_take (i := 7) (oi := ⟨some 15, _, _, _, _, _⟩) (v := .bool true) rfl (by kernel_rfl) (by kernel_rfl) (by kernel_rfl) (fun _ _ _ h => h) (Or.inl ⟨by rfl, fun W hW => ?_⟩) hS ?_
    · obtain ⟨c0, c1, c2, c3⟩ := hW.c
      go_simp
      try rfl
    try simp only [Act.put, List.setIfInBounds_toArray, List.set_cons_zero, List.set_cons_succ]
    refine wpAnyH_take (i := 8) (oi := ⟨some 2, _, _, _, _, _⟩) (v := .bool true) rfl (by kernel_rfl) (by kernel_rfl) (by kernel_rfl) (fun _ _ _ h => h) (Or.inl ⟨by rfl, fun W hW => ?_⟩) hS ?_
    · obtain ⟨c0, c1, c2, c3⟩ := hW.c
      go_simp
      try rfl
    try simp only [Act.put, List.setIfInBounds_toArray, List.set_cons_zero, List.set_cons_succ]
    refine wpAnyH_done (by kernel_rfl) ?_ _
    go_wp2
    go_ret
    exact ⟨rfl, BL.out _ GW.out⟩
end Go.Proofs.Ytlmgkofbjcahaaa.nlistMay
