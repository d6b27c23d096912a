/- The pieces of a space that is not there: none. No condition. -/
import Derived.Test.YtiolcpnhabipaaaSpN
namespace Go.Proofs.Ytiolcpnhabipaaa
open Go.RowKit Go.Maps Go.ChangeMaps
attribute [local go_sem] Oper.semAt_some
variable {w w' W : World} {F : Nat → Prop} {σ : Spc}

theorem rising_nil (w : World) : Calls Try.prog 53 #[.pointer none] w fun e w' => e = .returned (.slice none 0 0) ∧ w = w' := by
  go_enter Try.func53, Try.ntmps53
  go_wp2
  go_ret
  exact ⟨rfl, rfl⟩
theorem pieces_any (q : Option Addr) (w : World) : Calls Try.prog 36 #[.pointer q] w fun e w' =>
      e = .returned (.func (.func 52) #[] #[.pointer (some ⟨w.heap.size, 0, none⟩)]) ∧ OneAt w' w.heap.size (.pointer q) 26 ∧ w.grownBy w' none := by
  go_enter Try.func36, Try.ntmps36
  go_wp2
  go_ret
  exact ⟨rfl, OneAt.new w _ _, grown1 _ _⟩
set_option maxRecDepth 20000 in
theorem pieces1_nil (l bs : Nat) (h : OneAt w bs (.pointer none) 26) : Calls Try.prog 52 #[.func (.yield l) #[] #[], .pointer (some ⟨bs, 0, none⟩)] w fun e w' => (∃ v, e = .returned v) ∧ w = w' := by
  have hc := h.c
  clear h
  go_enter Try.func52, Try.ntmps52
  go_wp2_with fail
  refine (rising_nil w).mono ?_
  rintro e w1 ⟨rfl, rfl⟩
  go_wp2
  refine wp_loop_rounds 1 ?_
  rw [rounds_succ]
  go_wp2
  go_end0
  exact ⟨⟨_, rfl⟩, rfl⟩
set_option maxRecDepth 20000 in
set_option maxHeartbeats 800000 in
theorem appendSeq_nil (bs : Nat) (h : OneAt w bs (.pointer none) 26) : Calls Try.prog 51 #[.slice none 0 0, .func (.func 52) #[] #[.pointer (some ⟨bs, 0, none⟩)]] w fun e w' =>
      e = .returned (.slice none 0 0) ∧ w.grownBy w' none := by
  refine (callsIn_wide (n := 1)).1 (callsIn_of_wp_marks Try.func51 rfl trivial ((wpIn_wide).2 ?_))
  simp only [Try.ntmps51, List.size_toArray, List.length_cons, List.length_nil, Nat.reduceAdd, Nat.reduceSub, Array.replicate_succ, Array.replicate_zero, List.push_toArray, List.append_toArray, List.nil_append, List.cons_append]
  obtain ⟨W2, hW2⟩ : ∃ W2, w.alloc (.cells #[.slice none 0 0] 39) = W2 := ⟨_, rfl⟩
  have hbx : OneAt W2 w.heap.size (.slice none 0 0) 39 := by rw [← hW2]; exact OneAt.new w _ _
  have g12 : w.grownBy W2 none := by rw [← hW2]; exact grown1 _ _
  have HO := Lib.hid (h.grown g12)
  have HX := Lib.hid hbx
  have HG := Lib.hid g12
  clear h hbx g12
  go_wp2
  clear hW2
  refine wp_rangeFunc_rec (gf := 52) (lb := #[.pointer (some ⟨bs, 0, none⟩)]) rfl (enters_of Try.func52 (by kernel_rfl) rfl) ?_
  intro rec YR ER OR
  obtain ⟨W1, hW1⟩ : ∃ W1, (W2.alloc (.deferred (some []))).alloc (.loop (rec .ready none)) = W1 := ⟨_, rfl⟩
  have g31 : W2.grownBy W1 none := by rw [← hW1]; exact grown2 _ _ _
  have hlp : W1.heap[W2.heap.size + 1]? = some (.loop (rec .ready none)) := by
    rw [← hW1]; have := World.alloc_heap_new (W2.alloc (.deferred (some []))) (.loop (rec .ready none)); rwa [World.size_alloc] at this
  have hdf : W1.heap[W2.heap.size]? = some (.deferred (some [])) := by
    rw [← hW1]; exact (Below.heap_alloc _ _ _ (by simp)).trans (World.alloc_heap_new W2 _)
  rw [hW1]
  refine (pieces1_nil (W2.heap.size + 1) bs (HO.out.grown g31)).mono ?_
  rintro e w5 ⟨⟨v, rfl⟩, rfl⟩
  refine ⟨none, _, OR _ _ _ _ (by simp) hlp, ?_⟩
  have gR := grownBy_putObj' W1 (W2.heap.size + 1) (.loop (rec .exhausted none))
  have hs2 := HX.out.lt
  have hbC := (HX.out.grown g31).kept gR (by simp; omega)
  have hdC := grown_obj gR hdf (by simp)
  have G2 := Lib.hid (grown_trans HG.out g31)
  obtain ⟨V, hV⟩ : ∃ V, W1.putObj (W2.heap.size + 1) (.loop (rec .exhausted none)) = V := ⟨_, rfl⟩
  have GV := Lib.hid (show w.grownBy V none from grown_new G2.out (hV ▸ gR) (by omega))
  rw [hV] at hbC hdC ⊢
  have kb := hbC.c
  have DV := Lib.hid hdC
  clear hbC hdC gR hV hlp hdf hW1
  go_wp2
  have gD := grownBy_putObj' V W2.heap.size (.deferred none)
  refine ⟨by simp, .inl ⟨_, _, rfl, run_takeDeferred DV.out, ?_⟩⟩
  refine ⟨_, results_tmp rfl _ _ _, ?_⟩
  exact ⟨rfl, grown_new GV.out gD (by omega)⟩
theorem collect_nil (bs : Nat) (h : OneAt w bs (.pointer none) 26) : Calls Try.prog 35 #[.func (.func 52) #[] #[.pointer (some ⟨bs, 0, none⟩)]] w fun e w' =>
      e = .returned (.slice none 0 0) ∧ w.grownBy w' none := by
  have HA := Lib.hid (appendSeq_nil bs h)
  clear h
  go_enter Try.func35, Try.ntmps35
  go_wp2_with fail
  refine HA.out.mono ?_
  rintro e w1 ⟨rfl, hg⟩
  go_wp2
  go_ret
  exact ⟨rfl, hg⟩
theorem dump_nil (w : World) : Calls Try.prog 12 #[.pointer none] w fun e w' => e = .returned (.slice none 0 0) ∧ w.grownBy w' none := by
  go_enter Try.func12, Try.ntmps12
  go_wp2_with fail
  refine (pieces_any none w).mono ?_
  rintro e w1 ⟨rfl, ho, hg⟩
  go_wp2_with fail
  refine (collect_nil w.heap.size ho).mono ?_
  rintro e w2 ⟨rfl, hg2⟩
  have HG := Lib.hid (grown_trans hg hg2)
  clear hg hg2 ho
  go_wp2
  go_ret
  exact ⟨rfl, HG.out⟩
theorem all_any (q : Option Addr) (w : World) : Calls Try.prog 27 #[.pointer q] w fun e w' =>
      e = .returned (.func (.func 48) #[] #[.pointer (some ⟨w.heap.size, 0, none⟩)]) ∧ OneAt w' w.heap.size (.pointer q) 26 ∧ w.grownBy w' none := by
  go_enter Try.func27, Try.ntmps27
  go_wp2
  go_ret
  exact ⟨rfl, OneAt.new w _ _, grown1 _ _⟩
set_option maxRecDepth 20000 in
theorem all1_nil (l bs : Nat) (h : OneAt w bs (.pointer none) 26) : Calls Try.prog 48 #[.func (.yield l) #[] #[], .pointer (some ⟨bs, 0, none⟩)] w fun e w' => (∃ v, e = .returned v) ∧ w.grownBy w' none := by
  have hc := h.c
  clear h
  go_enter Try.func48, Try.ntmps48
  go_wp2_with fail
  refine (dump_nil w).mono ?_
  rintro e w1 ⟨rfl, hg⟩
  have HG := Lib.hid hg
  clear hg
  go_wp2
  refine wp_loop_rounds 1 ?_
  rw [rounds_succ]
  go_wp2
  go_end0
  exact ⟨⟨_, rfl⟩, HG.out⟩
end Go.Proofs.Ytiolcpnhabipaaa
