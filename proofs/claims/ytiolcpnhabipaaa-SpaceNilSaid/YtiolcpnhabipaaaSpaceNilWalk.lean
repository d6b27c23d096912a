/- The walk of SpaceNil: what is answered of a space that is not there, and of a zero one. No condition. -/
import Derived.Test.YtiolcpnhabipaaaSpQ
namespace Go.Proofs.Ytiolcpnhabipaaa.spaceNil
open Go.RowKit Go.Maps
attribute [local go_sem] Oper.semAt_some
variable {w w' W : World}

theorem results_one {fn : Func} {p : Tmp} {ty : TypeId} (h : fn.results = #[.cell p ty]) (tmps : Array Value) (P : Program) (w : World) {a : Addr} {x : Value} (ha : tmps.getD p undef = .pointer (some a)) (hx : (loadVar ty a).run P w = .ok x w) : (results fn tmps).run P w = .ok x w := by
  have e : ∀ d : Addr, (asAddr (.pointer (some d)) : Sem Addr).run P w = .ok d w := fun d => rfl
  simp only [Array.getD_eq_getD_getElem?] at ha
  simp only [results, h]
  simp [Sem.run_bind, Result.andThen, ha, e, hx]
theorem load_bool {g : Nat} {v : Value} (h : w.cell? ⟨g, 0, none⟩ = some v) : (loadVar 4 ⟨g, 0, none⟩).run Try.prog w = .ok v w := by
  have ha : (isAgg 4).run Try.prog w = .ok false w := by kernel_rfl
  simp [loadVar, Sem.run_bind, ha, Result.andThen, h]

theorem equalIn_func (d f : Nat) (lb : Array Value) (w : World) : (Op.equalIn (d + 1) 60 (.func (.func f) #[] lb) .nilFunc).run Try.prog w = .ok false w := by
  simp [Op.equalIn, run_underlying Try.underlying60]
theorem eql_func (f : Nat) (lb : Array Value) (w : World) : (binOp .eql 60 (.func (.func f) #[] lb) .nilFunc).run Try.prog w = .ok (.bool false) w := by
  have h : (Op.equal 60 (.func (.func f) #[] lb) .nilFunc).run Try.prog w = .ok false w := equalIn_func 9999 f lb w
  simp only [binOp]
  simp [h]
/-- What the walk keeps: the result's cell, and what was there. -/
structure Hold (w W : World) : Prop where
  res : OneAt W w.heap.size (.bool false) 4
  below : Below w.heap.size w W
theorem Hold.grown (h : Hold w W) (hg : W.grownBy w' none) : Hold w w' :=
  ⟨h.res.grown hg, h.below.trans ⟨hg.os, hg.tape, hg.output, hg.size, fun k hk => hg.block k (Nat.lt_of_lt_of_le hk h.below.size) (by simp)⟩⟩
theorem Hold.turned {F : Nat → Prop} (h : Hold w W) (hg : Chg F W w') (hF : ∀ k, F k → w.heap.size < k) : Hold w w' :=
  ⟨(hg.block _ h.res.lt (fun e => by have := hF _ e; omega)).trans h.res, h.below.trans ⟨hg.os, hg.tape, hg.output, hg.size, fun k hk => hg.block k (Nat.lt_of_lt_of_le hk h.below.size) (fun e => by have := hF _ e; omega)⟩⟩

/-- .. and the block of what is deferred. -/
structure Held (w W : World) (D : Nat) : Prop where
  hold : Hold w W
  dfr : W.heap[D]? = some (.deferred (some []))
  lt : w.heap.size < D
theorem Held.grown {D : Nat} (h : Held w W D) (hg : W.grownBy w' none) : Held w w' D := ⟨h.hold.grown hg, grown_obj hg h.dfr (by simp), h.lt⟩
theorem Held.turned {F : Nat → Prop} {D : Nat} (h : Held w W D) (hg : Chg F W w') (hF : ∀ k, F k → D < k) : Held w w' D :=
  ⟨h.hold.turned hg (fun k hk => Nat.lt_trans h.lt (hF k hk)), (hg.block _ (Array.getElem?_eq_some_iff.1 h.dfr).1 (fun e => by have := hF _ e; omega)).trans h.dfr, h.lt⟩
theorem Held.size {D : Nat} (h : Held w W D) : D < W.heap.size := (Array.getElem?_eq_some_iff.1 h.dfr).1

theorem spnew_raw (w : World) : Calls Try.prog 9 #[] w fun e w' => e = .returned (.pointer (some ⟨w.heap.size, 0, none⟩)) ∧ w'.heap[w.heap.size]? = some (.cells #[.map none, .map none] 65 (0, 0)) ∧ w.grownBy w' none := by
  go_enter Try.func9, Try.ntmps9
  go_wp2
  go_ret
  exact ⟨rfl, heap_alloc_new w _, grown1 _ _⟩
def nl1 : Spc := Spc.zero.lays (140737488351232 / 4096) (4096 / 4096) 7
def nl2 : Spc := nl1.put 140737488355327 [9]
theorem nl_read : readErr Spc.zero 0 1 = 4 := by decide +kernel
theorem nl_map : mapErr Spc.zero 140737488351232 4096 7 = 0 := by decide +kernel
theorem nl_far : mapErr nl1 140737488355328 4096 7 = 4 := by decide +kernel
theorem nl_huge : mapErr nl1 9223372036854775808 9223372036854775808 7 = 4 := by decide +kernel
theorem nl_prot : nl1.P (140737488355327 / 4096) = 7 := by decide +kernel
theorem nl_end : mayErr nl1 140737488355327 [(1 : Int), 2].length 0 = 4 := by decide +kernel
theorem nl_fill : mayErr nl1 140737488355327 [(9 : Int)].length 0 = 0 := by decide +kernel
theorem nl_free : freeOf nl2 140737488355327 1 = false := by decide +kernel

set_option maxRecDepth 20000 in
set_option maxHeartbeats 1600000 in
theorem walk (w : World) : Calls Try.prog 6 #[] w fun e w' => e = .returned (.bool true) ∧ Below w.heap.size w w' := by
  have K := Lib.hid known7_any
  refine (callsIn_wide (n := 1)).1 (callsIn_of_wp_marks Try.func6 rfl trivial ((wpIn_wide).2 ?_))
  simp only [Try.ntmps6, List.size_toArray, List.length_nil, Nat.reduceSub, Array.replicate_succ, Array.replicate_zero, List.push_toArray, List.append_toArray, List.nil_append, List.cons_append]
  obtain ⟨W0, hW0⟩ : ∃ W0, w.alloc (.cells #[.bool false] 4) = W0 := ⟨_, rfl⟩
  have H0 := Lib.hid (show Hold w W0 from by rw [← hW0]; exact ⟨OneAt.new w _ _, (Below.refl _ _).alloc (Nat.le_refl _) _⟩)
  go_wp2_with fail
  refine (spread_nil 0 8 W0).mono ?_
  rintro e w1 ⟨rfl, rfl⟩
  clear hW0
  go_wp2_with fail
  refine (word_nil 0 W0).mono ?_
  rintro e w1 ⟨rfl, rfl⟩
  go_wp2_with fail
  refine (map_nil 0 4096 1 W0).mono ?_
  rintro e w1 ⟨rfl, rfl⟩
  go_wp2_with fail
  refine (fill_nil 0 none 0 0 (by omega) W0).mono ?_
  rintro e w1 ⟨rfl, hg⟩
  have H1 := Lib.hid (H0.out.grown hg)
  clear hg
  go_wp2_with fail
  refine (write_nil 0 none 0 0 (by omega) w1).mono ?_
  rintro e w2 ⟨rfl, hg⟩
  have H2 := Lib.hid (H1.out.grown hg)
  clear hg
  go_wp2_with fail
  refine (setWord_nil 0 1 (by omega) w2).mono ?_
  rintro e w3 ⟨rfl, hg⟩
  have H3 := Lib.hid (H2.out.grown hg)
  clear hg
  go_wp2_with fail
  refine (prot_nil 0 w3).mono ?_
  rintro e w4 ⟨rfl, rfl⟩
  go_wp2_with fail
  refine (spfree_nil w3).mono ?_
  rintro e w4 ⟨rfl, rfl⟩
  go_wp2_with fail
  refine (pages_nil w3).mono ?_
  rintro e w4 ⟨rfl, rfl⟩
  go_wp2_with fail
  refine (dump_nil w3).mono ?_
  rintro e w4 ⟨rfl, hg⟩
  have H4 := Lib.hid (H3.out.grown hg)
  clear hg
  go_wp2_with fail
  refine (copy_nil w4).mono ?_
  rintro e w5 ⟨rfl, rfl⟩
  go_wp2_with fail
  refine (same_nn w4).mono ?_
  rintro e w5 ⟨rfl, rfl⟩
  go_wp2_with fail
  refine (spnew_any w4).mono ?_
  rintro e w5 ⟨rfl, _, hb⟩
  have H5 := Lib.hid (H4.out.grown (grown_below hb none))
  clear hb
  go_wp2_with fail
  refine (same_ns w4.heap.size w5).mono ?_
  rintro e w6 ⟨rfl, rfl⟩
  go_wp2_with fail
  refine (spnew_any w5).mono ?_
  rintro e w6 ⟨rfl, _, hb⟩
  have H6 := Lib.hid (H5.out.grown (grown_below hb none))
  clear hb
  go_wp2_with fail
  refine (same_sn w5.heap.size w6).mono ?_
  rintro e w7 ⟨rfl, rfl⟩
  go_wp2_with fail
  refine (all_any none w6).mono ?_
  rintro e w7 ⟨rfl, _, hg⟩
  have H7 := Lib.hid (H6.out.grown hg)
  clear hg
  have qf := eql_func 48 #[.pointer (some ⟨w6.heap.size, 0, none⟩)] w7
  go_wp2_with fail
  refine (all_any none w7).mono ?_
  rintro e w8 ⟨rfl, ho, hg⟩
  have H8 := Lib.hid (H7.out.grown hg)
  have HO := Lib.hid ho
  clear hg ho
  go_wp2
  refine wp_rangeFunc_rec (gf := 48) (lb := #[.pointer (some ⟨w7.heap.size, 0, none⟩)]) rfl (enters_of Try.func48 (by kernel_rfl) rfl) ?_
  intro rec YR ER OR
  obtain ⟨W1, hW1⟩ : ∃ W1, (w8.alloc (.deferred (some []))).alloc (.loop (rec .ready none)) = W1 := ⟨_, rfl⟩
  have g31 : w8.grownBy W1 none := by rw [← hW1]; exact grown2 _ _ _
  have hlp : W1.heap[w8.heap.size + 1]? = some (.loop (rec .ready none)) := by
    rw [← hW1]; have := World.alloc_heap_new (w8.alloc (.deferred (some []))) (.loop (rec .ready none)); rwa [World.size_alloc] at this
  have hdf : W1.heap[w8.heap.size]? = some (.deferred (some [])) := by
    rw [← hW1]; exact (Below.heap_alloc _ _ _ (by simp)).trans (World.alloc_heap_new w8 _)
  rw [hW1]
  have HD := Lib.hid (show Held w W1 w8.heap.size from ⟨H8.out.grown g31, hdf, by have := H8.out.res.lt; omega⟩)
  refine (all1_nil (w8.heap.size + 1) w7.heap.size (HO.out.grown g31)).mono ?_
  rintro e w9 ⟨⟨v, rfl⟩, hg9⟩
  have hlp9 := grown_obj hg9 hlp (by simp)
  refine ⟨none, _, OR _ _ _ _ (by simp) hlp9, ?_⟩
  have gR := grownBy_putObj' w9 (w8.heap.size + 1) (.loop (rec .exhausted none))
  have HE := Lib.hid ((HD.out.grown hg9).turned (Chg.of_grown (F := fun x => x = w8.heap.size + 1) gR (fun x e => by injection e with e; exact .inl e.symm)) (fun k hk => by omega))
  obtain ⟨V, hV⟩ : ∃ V, w9.putObj (w8.heap.size + 1) (.loop (rec .exhausted none)) = V := ⟨_, rfl⟩
  rw [hV] at HE ⊢
  clear gR hV hlp9 hlp hdf hW1 hg9 g31 HD
  obtain ⟨Z, hZ⟩ : ∃ Z, V.alloc (.cells #[.map none, .map none] 65) = Z := ⟨_, rfl⟩
  have gZ : V.grownBy Z none := by rw [← hZ]; exact grown1 _ _
  have bZ : Z.heap[V.heap.size]? = some (.cells #[.map none, .map none] 65 (0, 0)) := by rw [← hZ]; exact heap_alloc_new _ _
  have HZ := Lib.hid (HE.out.grown gZ)
  have SZ := Lib.hid (show SpcAt Z (Span V Z) V.heap.size Spc.zero from spc_zero bZ ⟨Nat.le_refl _, lt_of_block bZ⟩)
  have BZ := Lib.hid bZ
  have LV := Lib.hid HE.out.size
  clear gZ bZ
  go_wp2_with fail
  clear hZ
  refine (read_any SZ.out 0 (by omega) 1).mono ?_
  rintro e x1 ⟨_, hl, hg⟩
  have he := hl (by rw [nl_read]; decide)
  rw [nl_read] at he
  subst he
  have HX1 := Lib.hid (HZ.out.grown hg)
  have SX1 := Lib.hid (show SpcAt x1 (Span V x1) V.heap.size Spc.zero from (SZ.out.kept (Chg.of_grown hg (F := fun _ => False) (fun _ h => by cases h)) (fun _ _ h => h)).mono (span_up hg.size))
  have BX1 := Lib.hid (grown_obj hg BZ.out (by simp))
  clear hl hg
  go_wp2_with fail
  refine (spnew_raw x1).mono ?_
  rintro e x2 ⟨rfl, hb2, hg⟩
  have HX2 := Lib.hid (HX1.out.grown hg)
  have SX2 := Lib.hid (show SpcAt x2 (Span V x2) V.heap.size Spc.zero from (SX1.out.kept (Chg.of_grown hg (F := fun _ => False) (fun _ h => by cases h)) (fun _ _ h => h)).mono (span_up hg.size))
  have BX2 := Lib.hid (And.intro (grown_obj hg BX1.out (by simp)) hb2)
  clear hb2 hg
  go_wp2_with fail
  refine (same_bare BX2.out.1 BX2.out.2).mono ?_
  rintro e x3 ⟨rfl, hb⟩
  have hg := grown_below hb none
  have HX3 := Lib.hid (HX2.out.grown hg)
  have SX3 := Lib.hid (show SpcAt x3 (Span V x3) V.heap.size Spc.zero from (SX2.out.kept (Chg.of_grown hg (F := fun _ => False) (fun _ h => by cases h)) (fun _ _ h => h)).mono (span_up hg.size))
  have VX3 := Lib.hid (show V.heap.size ≤ x3.heap.size by have := SX3.out.lt; omega)
  clear hb hg
  go_wp2_with fail
  refine (map_any SX3.out 140737488351232 4096 7).mono ?_
  rintro e x4 ⟨rfl, hd, _, ch⟩
  have HX4 := Lib.hid (HX3.out.turned ch (fun k hk => Nat.lt_of_lt_of_le LV.out hk.1))
  have SX4 := Lib.hid (show SpcAt x4 (Span V x4) V.heap.size nl1 from (hd nl_map).mono (span_foot VX3.out ch.size))
  have VX4 := Lib.hid (Nat.le_trans VX3.out ch.size)
  rw [nl_map]
  clear hd ch
  go_wp2_with fail
  refine (map_any SX4.out 140737488355328 4096 7).mono ?_
  rintro e x5 ⟨rfl, _, hl, ch⟩
  have HX5 := Lib.hid (HX4.out.turned ch (fun k hk => Nat.lt_of_lt_of_le LV.out hk.1))
  have SX5 := Lib.hid (show SpcAt x5 (Span V x5) V.heap.size nl1 from (hl (by rw [nl_far]; decide)).mono (span_foot VX4.out ch.size))
  have VX5 := Lib.hid (Nat.le_trans VX4.out ch.size)
  rw [nl_far]
  clear hl ch
  go_wp2_with fail
  refine (map_any SX5.out 9223372036854775808 9223372036854775808 7).mono ?_
  rintro e x6 ⟨rfl, _, hl, ch⟩
  have HX6 := Lib.hid (HX5.out.turned ch (fun k hk => Nat.lt_of_lt_of_le LV.out hk.1))
  have SX6 := Lib.hid (show SpcAt x6 (Span V x6) V.heap.size nl1 from (hl (by rw [nl_huge]; decide)).mono (span_foot VX5.out ch.size))
  have VX6 := Lib.hid (Nat.le_trans VX5.out ch.size)
  rw [nl_huge]
  clear hl ch
  go_wp2_with fail
  refine (prot_any SX6.out 140737488355327 (by omega)).mono ?_
  rw [nl_prot]
  rintro e x7 ⟨rfl, rfl⟩
  go_wp2_with fail
  have g7 := grown1 x6 (.cells #[.int .u8 1, .int .u8 2] 5)
  have a7 : Apart (x6.alloc (.cells #[.int .u8 1, .int .u8 2] 5)) (Span V x6) (some ⟨x6.heap.size, 0, none⟩) 2 [(1 : Int), 2] :=
    ⟨fun h => (by cases h), fun _ => ⟨x6.heap.size, 0, rfl, by simp, fun h => by unfold Span at h; omega, fun i hi => by
      have hi' : i < 2 := hi
      rw [cell_of (heap_alloc_new x6 _)]
      match i, hi' with
      | 0, _ => rfl
      | 1, _ => rfl⟩⟩
  refine (fill_any (SX6.out.kept (Chg.of_grown g7 (F := fun _ => False) (fun _ h => by cases h)) (fun _ _ h => h)) 140737488355327 (by omega) [(1 : Int), 2] 2 rfl (some ⟨x6.heap.size, 0, none⟩) 2 (by omega) (by omega) (fun x hx => (by
    rcases List.mem_cons.1 hx with rfl | hx
    · decide
    · obtain rfl : x = 2 := (by simpa using hx)
      decide)) a7 (fun k hk => Nat.lt_of_lt_of_le hk.2 g7.size)).mono ?_
  rintro e x7 ⟨rfl, _, hl, ch⟩
  have HX7 := Lib.hid ((HX6.out.grown g7).turned ch (fun k hk => Nat.lt_of_lt_of_le LV.out hk.1))
  have SX7 := Lib.hid (show SpcAt x7 (Span V x7) V.heap.size nl1 from (hl (by rw [nl_end]; decide)).mono (span_up (Nat.le_trans g7.size ch.size)))
  have VX7 := Lib.hid (Nat.le_trans VX6.out (Nat.le_trans g7.size ch.size))
  rw [nl_end]
  clear hl ch g7 a7
  go_wp2_with fail
  have g8 := grown1 x7 (.cells #[.int .u8 9] 5)
  have a8 : Apart (x7.alloc (.cells #[.int .u8 9] 5)) (Span V x7) (some ⟨x7.heap.size, 0, none⟩) 1 [(9 : Int)] :=
    ⟨fun h => (by cases h), fun _ => ⟨x7.heap.size, 0, rfl, by simp, fun h => by unfold Span at h; omega, fun i hi => by
      obtain rfl : i = 0 := by simpa using hi
      rw [cell_of (heap_alloc_new x7 _)]; rfl⟩⟩
  refine (fill_any (SX7.out.kept (Chg.of_grown g8 (F := fun _ => False) (fun _ h => by cases h)) (fun _ _ h => h)) 140737488355327 (by omega) [(9 : Int)] 1 rfl (some ⟨x7.heap.size, 0, none⟩) 1 (by omega) (by omega) (fun x hx => (by obtain rfl : x = 9 := (by simpa using hx); decide)) a8 (fun k hk => Nat.lt_of_lt_of_le hk.2 g8.size)).mono ?_
  rintro e x8 ⟨rfl, hd, _, ch⟩
  have HX8 := Lib.hid ((HX7.out.grown g8).turned ch (fun k hk => Nat.lt_of_lt_of_le LV.out hk.1))
  have SX8 := Lib.hid (show SpcAt x8 (Span V x8) V.heap.size nl2 from (hd nl_fill).mono (span_up (Nat.le_trans g8.size ch.size)))
  rw [nl_fill]
  clear hd ch g8 a8
  go_wp2_with fail
  refine (free_any SX8.out 140737488355327 1).mono ?_
  rw [nl_free]
  rintro e x9 ⟨rfl, hg⟩
  have HX9 := Lib.hid (HX8.out.grown hg)
  have SX9 := Lib.hid (show SpcAt x9 (Span V x9) V.heap.size nl2 from (SX8.out.kept (Chg.of_grown hg (F := fun _ => False) (fun _ h => by cases h)) (fun _ _ h => h)).mono (span_up hg.size))
  clear hg
  go_wp2_with fail
  refine (free_any SX9.out 18446744073709551615 0).mono ?_
  rw [freeOf_zero]
  rintro e y0 ⟨rfl, hg⟩
  have HY0 := Lib.hid (HX9.out.grown hg)
  clear hg
  go_wp2_with fail
  refine (K.out y0).mono ?_
  rintro e y1 ⟨rfl, hb⟩
  have HY1 := Lib.hid (HY0.out.grown (grown_below hb none))
  clear hb
  have r0 := HY1.out.hold.res.c
  have r1 := HY1.out.hold.res.f
  go_wp2
  have gS := grown_setCell (i := 0) (grown_refl y1 (some w.heap.size)) (.bool true)
  have hlt := HY1.out.lt
  have hb1 := HY1.out.hold.res.set (.bool true)
  have hd1 := grown_obj gS HY1.out.dfr (by intro e; injection e with e; omega)
  have bel := HY1.out.hold.below.trans ⟨gS.os, gS.tape, gS.output, gS.size, fun k hk => gS.block k (Nat.lt_of_lt_of_le hk HY1.out.hold.below.size) (by simp; omega)⟩
  obtain ⟨y2, hy2⟩ : ∃ y2, y1.setCell ⟨w.heap.size, 0, none⟩ (.bool true) = y2 := ⟨_, rfl⟩
  rw [hy2] at hb1 hd1 bel gS ⊢
  have gD := grownBy_putObj' y2 w8.heap.size (.deferred none)
  refine ⟨by simp, .inl ⟨_, _, rfl, run_takeDeferred hd1, ?_⟩⟩
  refine ⟨_, results_one rfl _ _ _ rfl (load_bool (hb1.kept gD (by simp; omega)).c), ?_⟩
  exact ⟨rfl, bel.trans ⟨gD.os, gD.tape, gD.output, gD.size, fun k hk => gD.block k (Nat.lt_of_lt_of_le hk bel.size) (by simp; omega)⟩⟩
end Go.Proofs.Ytiolcpnhabipaaa.spaceNil
