/- The walk of CursorNumbers: the same bytes, turned round, are the same number the other way. -/
import Derived.Test.YtlgjkdfpcmkjoaaKnown
import Derived.Test.YtlgjkdfpcmkjoaaArgs
import Derived.Deep.RegionWith
namespace Go.Proofs.Ytlgjkdfpcmkjoaa.cursorNumbers
open Go.RowKit

def arr (b0 b1 b2 b3 b4 b5 b6 b7 : Int) : List Int := [b0, b1, b2, b3, b4, b5, b6, b7]
def cells (b0 b1 b2 b3 b4 b5 b6 b7 : Int) : Array Value := #[.int .u8 b0, .int .u8 b1, .int .u8 b2, .int .u8 b3, .int .u8 b4, .int .u8 b5, .int .u8 b6, .int .u8 b7]
theorem arr_bytes {w : World} {g : Nat} {t : TypeId} {b0 b1 b2 b3 b4 b5 b6 b7 : Int} (h : w.heap[g]? = some (.cells #[.int .u8 b0, .int .u8 b1, .int .u8 b2, .int .u8 b3, .int .u8 b4, .int .u8 b5, .int .u8 b6, .int .u8 b7] t (0, 0))) :
    IsBytes w (some ⟨g, 0, none⟩) 8 [b0, b1, b2, b3, b4, b5, b6, b7] := by
  refine IsBytes.mk_at fun i hi => ?_
  rw [cell_of h]
  have : i = 0 ∨ i = 1 ∨ i = 2 ∨ i = 3 ∨ i = 4 ∨ i = 5 ∨ i = 6 ∨ i = 7 := by simp at hi; omega
  rcases this with rfl | rfl | rfl | rfl | rfl | rfl | rfl | rfl <;> rfl

set_option maxHeartbeats 800000 in
theorem walk_no (b0 b1 b2 b3 b4 b5 b6 b7 n : Int) (w : World) (hb : ∀ x ∈ [b0, b1, b2, b3, b4, b5, b6, b7], 0 ≤ x ∧ x < 256) (hn : n ≠ 1 ∧ n ≠ 2 ∧ n ≠ 4 ∧ n ≠ 8) :
    Calls Try.prog 4 #[.agg #[.int .u8 b0, .int .u8 b1, .int .u8 b2, .int .u8 b3, .int .u8 b4, .int .u8 b5, .int .u8 b6, .int .u8 b7], .int .i64 n] w fun e w' => e = .returned (.bool true) ∧ Below w.heap.size w w' := by
  have e1 : (n != 1) = true := by simpa using hn.1
  have e2 : (n != 2) = true := by simpa using hn.2.1
  have e4 : (n != 4) = true := by simpa using hn.2.2.1
  have e8 : (n != 8) = true := by simpa using hn.2.2.2
  have H := Lib.hid hb
  have N := Lib.hid hn
  clear hb hn
  go_enter Try.func4, Try.ntmps4
  go_wp2_with fail
  refine (new_any (ys := [b0, b1, b2, b3, b4, b5, b6, b7]) (arr_bytes (heap_alloc_new w _)) (by simp) H.out true).mono ?_
  rintro e w1 ⟨⟨a, q, c, rfl, ha, hc1, _⟩, hb1⟩
  go_wp2_with fail
  refine (number_no hc1 n (.inr (.inl N.out))).mono ?_
  rintro e w2 ⟨rfl, hc2, hg2⟩
  go_wp2_with fail
  refine (err_any hc2).mono ?_
  rintro e w' ⟨rfl, rfl⟩
  go_wp2_with fail
  refine (at_any hc2).mono ?_
  rintro e w' ⟨rfl, rfl⟩
  go_wp2_with fail
  refine (known_any w2).mono ?_
  rintro e w3 ⟨rfl, hbk⟩
  have hb0 : Below w.heap.size w w1 := ((Below.refl _ _).alloc (Nat.le_refl _) _).trans (hb1.mono (by simp))
  have hb2 : Below w.heap.size w w2 := hb0.trans (below_grown hg2 hb0.size (fun k hk => by simp at hk ha; omega))
  have B := Lib.hid (hb2.trans (hbk.mono hb2.size))
  clear hb0 hb2 hbk hg2 hb1
  go_wp2
  go_ret
  exact ⟨rfl, B.out⟩

theorem num_at {w : World} {base a : Nat} {q : Option Addr} {c : Nat} {xs : List Int} {big : Bool} (h : Cur w base a q c xs 0 big false) (s : Nat) (hs : s = 1 ∨ s = 2 ∨ s = 4 ∨ s = 8) (hl : s ≤ xs.length) {N : Int} (hN : numOf big (xs.take s) = N) :
    Calls Try.prog 13 #[.pointer (some ⟨a, 0, none⟩), .int .i64 s] w fun e w' =>
      e = .returned (.int .u64 N) ∧ Cur w' base a q c xs s big false ∧ w.grownBy w' (some a) := by
  have := number_ok h s hs (by omega)
  rw [List.drop_zero, hN, Nat.zero_add] at this
  exact this

/-- Two cursors beside one another. -/
structure Two (w0 w : World) (ax : Nat) (xs : List Int) (ay : Nat) (ys : List Int) : Prop where
  x : ∃ base q c, Cur w base ax q c xs 0 false false ∧ (Value.slice q xs.length c).ownBlock ≠ some ay
  y : ∃ base q c, Cur w base ay q c ys 0 true false ∧ (Value.slice q ys.length c).ownBlock ≠ some ax
  ne : ax ≠ ay
  bel : Below w0.heap.size w0 w
  ox : w0.heap.size ≤ ax
  oy : w0.heap.size ≤ ay

/-- One made behind the other. -/
theorem two_xy {w0 w1 w2 w3 : World} {ax ay : Nat} {xs ys : List Int} {qx qy : Option Addr} {cx cy : Nat} (h0 : Below w0.heap.size w0 w1)
    (hx : Cur w2 w1.heap.size ax qx cx xs 0 false false) (lx : w1.heap.size ≤ ax) (bx : Below w1.heap.size w1 w2)
    (hy : Cur w3 w2.heap.size ay qy cy ys 0 true false) (ly : w2.heap.size ≤ ay) (by' : Below w2.heap.size w2 w3) : Two w0 w3 ax xs ay ys := by
  have l1 := hx.lt
  have hx3 := hx.kept (grown_below by' none) (by simp) (by cases (Value.slice qx xs.length cx).ownBlock <;> simp)
  refine ⟨⟨_, qx, cx, hx3, fun e => ?_⟩, ⟨_, qy, cy, hy, fun e => ?_⟩, by omega, (h0.trans (bx.mono h0.size)).trans (by'.mono (Nat.le_trans h0.size bx.size)), Nat.le_trans h0.size lx, Nat.le_trans (Nat.le_trans h0.size bx.size) ly⟩
  · have := (hx.own.lt _ e).2; omega
  · have := (hy.own.lt _ e).1; omega
theorem two_yx {w0 w1 w2 w3 : World} {ax ay : Nat} {xs ys : List Int} {qx qy : Option Addr} {cx cy : Nat} (h0 : Below w0.heap.size w0 w1)
    (hy : Cur w2 w1.heap.size ay qy cy ys 0 true false) (ly : w1.heap.size ≤ ay) (by' : Below w1.heap.size w1 w2)
    (hx : Cur w3 w2.heap.size ax qx cx xs 0 false false) (lx : w2.heap.size ≤ ax) (bx : Below w2.heap.size w2 w3) : Two w0 w3 ax xs ay ys := by
  have l1 := hy.lt
  have hy3 := hy.kept (grown_below bx none) (by simp) (by cases (Value.slice qy ys.length cy).ownBlock <;> simp)
  refine ⟨⟨_, qx, cx, hx, fun e => ?_⟩, ⟨_, qy, cy, hy3, fun e => ?_⟩, by omega, (h0.trans (by'.mono h0.size)).trans (bx.mono (Nat.le_trans h0.size by'.size)), Nat.le_trans (Nat.le_trans h0.size by'.size) lx, Nat.le_trans h0.size ly⟩
  · have := (hx.own.lt _ e).1; omega
  · have := (hy.own.lt _ e).2; omega
/-- A new cursor, in whatever world still holds the bytes. -/
theorem new_in {w0 w : World} {g : Nat} {xs : List Int} (hb : IsBytes w0 (some ⟨g, 0, none⟩) 8 xs) (hl : xs.length = 8) (hr : ∀ x ∈ xs, 0 ≤ x ∧ x < 256) (big : Bool) (h : Below w0.heap.size w0 w) :
    Calls Try.prog 8 #[.slice (some ⟨g, 0, none⟩) 8 8, .bool big] w fun e w' =>
      ∃ a q' c', e = .returned (.pointer (some ⟨a, 0, none⟩)) ∧ w.heap.size ≤ a ∧ Cur w' w.heap.size a q' c' xs 0 big false ∧ Below w.heap.size w w' := by
  have := new_any (hb.below h) (by omega) hr big
  rw [hl] at this
  refine this.mono ?_
  rintro e w' ⟨⟨a, q', c', he, ha, hc, _⟩, hb⟩
  exact ⟨a, q', c', he, ha, hc, hb⟩

set_option maxHeartbeats 1600000 in
theorem walk_1 (b0 b1 b2 b3 b4 b5 b6 b7 : Int) (w : World) (hb : ∀ x ∈ [b0, b1, b2, b3, b4, b5, b6, b7], 0 ≤ x ∧ x < 256) :
    Calls Try.prog 4 #[.agg #[.int .u8 b0, .int .u8 b1, .int .u8 b2, .int .u8 b3, .int .u8 b4, .int .u8 b5, .int .u8 b6, .int .u8 b7], .int .i64 1] w fun e w' => e = .returned (.bool true) ∧ Below w.heap.size w w' := by
  have hk : ∀ x ∈ [b0, 0, 0, 0, 0, 0, 0, 0], 0 ≤ x ∧ x < 256 := by simp at hb ⊢; omega
  have hN : numOf true ([b0, 0, 0, 0, 0, 0, 0, 0].take 1) = numOf false ([b0, b1, b2, b3, b4, b5, b6, b7].take 1) := by simp [numOf, beN, leN] <;> omega
  have hlt : numOf false ([b0, b1, b2, b3, b4, b5, b6, b7].take 1) < 2 ^ (8 * 1) := (numOf_bd false _ (fun x hx => hb x (List.mem_of_mem_take hx))).2
  have NX := fun (w : World) (base a : Nat) (q : Option Addr) (c : Nat) (h : Cur w base a q c [b0, b1, b2, b3, b4, b5, b6, b7] 0 false false) => num_at h 1 (by decide) (by simp) rfl
  have NY := fun (w : World) (base a : Nat) (q : Option Addr) (c : Nat) (h : Cur w base a q c [b0, 0, 0, 0, 0, 0, 0, 0] 0 true false) => num_at h 1 (by decide) (by simp) hN
  generalize numOf false ([b0, b1, b2, b3, b4, b5, b6, b7].take 1) = N at *
  have H := Lib.hid hb
  have K := Lib.hid hk
  have LX := Lib.hid NX
  have LY := Lib.hid NY
  clear hb hk hN NX NY
  go_enter Try.func4, Try.ntmps4
  go_wp2
  refine wp_loop_rounds 2 ?_
  rw [rounds_succ]
  go_wp2
  rw [rounds_succ]
  go_wp2
  have hB : Below w.heap.size w ((w.alloc (.cells #[.int .u8 b0, .int .u8 b1, .int .u8 b2, .int .u8 b3, .int .u8 b4, .int .u8 b5, .int .u8 b6, .int .u8 b7] 32)).alloc (.cells #[.int .u8 b0, .int .u8 0, .int .u8 0, .int .u8 0, .int .u8 0, .int .u8 0, .int .u8 0, .int .u8 0] 32)) :=
    ((Below.refl _ _).alloc (Nat.le_refl _) _).alloc (by simp) _
  have hX : IsBytes ((w.alloc (.cells #[.int .u8 b0, .int .u8 b1, .int .u8 b2, .int .u8 b3, .int .u8 b4, .int .u8 b5, .int .u8 b6, .int .u8 b7] 32)).alloc (.cells #[.int .u8 b0, .int .u8 0, .int .u8 0, .int .u8 0, .int .u8 0, .int .u8 0, .int .u8 0, .int .u8 0] 32)) (some ⟨w.heap.size, 0, none⟩) 8 [b0, b1, b2, b3, b4, b5, b6, b7] :=
    arr_bytes ((heap_alloc_old _ _ (by simp)).trans (heap_alloc_new w _))
  have hY : IsBytes ((w.alloc (.cells #[.int .u8 b0, .int .u8 b1, .int .u8 b2, .int .u8 b3, .int .u8 b4, .int .u8 b5, .int .u8 b6, .int .u8 b7] 32)).alloc (.cells #[.int .u8 b0, .int .u8 0, .int .u8 0, .int .u8 0, .int .u8 0, .int .u8 0, .int .u8 0, .int .u8 0] 32)) (some ⟨w.heap.size + 1, 0, none⟩) 8 [b0, 0, 0, 0, 0, 0, 0, 0] := by
    have := heap_alloc_new (w.alloc (.cells #[.int .u8 b0, .int .u8 b1, .int .u8 b2, .int .u8 b3, .int .u8 b4, .int .u8 b5, .int .u8 b6, .int .u8 b7] 32)) (.cells #[.int .u8 b0, .int .u8 0, .int .u8 0, .int .u8 0, .int .u8 0, .int .u8 0, .int .u8 0, .int .u8 0] 32)
    exact arr_bytes (by simpa using this)
  generalize (w.alloc (.cells #[.int .u8 b0, .int .u8 b1, .int .u8 b2, .int .u8 b3, .int .u8 b4, .int .u8 b5, .int .u8 b6, .int .u8 b7] 32)).alloc (.cells #[.int .u8 b0, .int .u8 0, .int .u8 0, .int .u8 0, .int .u8 0, .int .u8 0, .int .u8 0, .int .u8 0] 32) = w0 at *
  have X := Lib.hid fun (W : World) (h : Below w0.heap.size w0 W) => new_in hX rfl H.out false h
  have Y := Lib.hid fun (W : World) (h : Below w0.heap.size w0 W) => new_in hY rfl K.out true h
  have T := Lib.hid fun (W : World) (h : Below w0.heap.size w0 W) => known_any W
  clear hX hY
  have hdrew : Below w0.heap.size w0 w0.drew := (Below.refl _ _).drew
  go_region_with (first | (go_at_call_of 8 (Value.bool false); refine (X.out _ ?_).mono ?_; (first | exact Below.refl _ _ | exact hdrew); rintro e w1 ⟨ax, qx, cx, rfl, lx, hx, bx⟩) | (go_at_call_of 8 (Value.bool true); refine (Y.out _ ?_).mono ?_; (first | exact bx | exact hdrew.trans bx); rintro e w2 ⟨ay, qy, cy, rfl, ly, hy, by'⟩))
  all_goals
    have T2 : Two w w2 ax [b0, b1, b2, b3, b4, b5, b6, b7] ay [b0, 0, 0, 0, 0, 0, 0, 0] := by
      first | exact two_xy hB hx lx bx hy ly by' | exact two_xy hB.drew hx lx bx hy ly by'
    obtain ⟨⟨_, _, _, hcx, nx⟩, ⟨_, _, _, hcy, ny⟩, hne, hbel, ox, oy⟩ := T2
    clear hx hy bx by' lx ly hB hdrew
    go_wp2_with fail
    refine (LX.out _ _ _ _ _ hcx).mono ?_
    rintro e w3 ⟨rfl, hcx3, hg3⟩
    have hcy3 := hcy.kept hg3 (by simpa using hne) (.inr ny)
    have hb3 : Below w.heap.size w w3 := hbel.trans (below_grown hg3 hbel.size (fun k hk => by simp at hk; omega))
    clear hcx hcy hg3 hbel
    go_wp2_with fail
    refine (LY.out _ _ _ _ _ hcy3).mono ?_
    rintro e w4 ⟨rfl, hcy4, hg4⟩
    have hb4 : Below w.heap.size w w4 := hb3.trans (below_grown hg4 hb3.size (fun k hk => by simp at hk; omega))
    have hcx4 := hcx3.kept hg4 (by simpa using fun e => hne e.symm) (.inr nx)
    clear hcx3 hcy3 hg4 hb3 nx ny
    go_wp2_with fail
    refine (at_any hcx4).mono ?_
    rintro e w' ⟨rfl, rfl⟩
    go_wp2_with fail
    refine (err_any hcy4).mono ?_
    rintro e w' ⟨rfl, rfl⟩
    go_wp2_with fail
    refine (known_any w4).mono ?_
    rintro e w5 ⟨rfl, hbk⟩
    have B := Lib.hid (hb4.trans (hbk.mono hb4.size))
    clear hcx4 hcy4 hb4 hbk
    go_wp2
    go_ret
    exact ⟨rfl, B.out⟩

set_option maxHeartbeats 1600000 in
theorem walk_2 (b0 b1 b2 b3 b4 b5 b6 b7 : Int) (w : World) (hb : ∀ x ∈ [b0, b1, b2, b3, b4, b5, b6, b7], 0 ≤ x ∧ x < 256) :
    Calls Try.prog 4 #[.agg #[.int .u8 b0, .int .u8 b1, .int .u8 b2, .int .u8 b3, .int .u8 b4, .int .u8 b5, .int .u8 b6, .int .u8 b7], .int .i64 2] w fun e w' => e = .returned (.bool true) ∧ Below w.heap.size w w' := by
  have hk : ∀ x ∈ [b1, b0, 0, 0, 0, 0, 0, 0], 0 ≤ x ∧ x < 256 := by simp at hb ⊢; omega
  have hN : numOf true ([b1, b0, 0, 0, 0, 0, 0, 0].take 2) = numOf false ([b0, b1, b2, b3, b4, b5, b6, b7].take 2) := by simp [numOf, beN, leN] <;> omega
  have hlt : numOf false ([b0, b1, b2, b3, b4, b5, b6, b7].take 2) < 2 ^ (8 * 2) := (numOf_bd false _ (fun x hx => hb x (List.mem_of_mem_take hx))).2
  have NX := fun (w : World) (base a : Nat) (q : Option Addr) (c : Nat) (h : Cur w base a q c [b0, b1, b2, b3, b4, b5, b6, b7] 0 false false) => num_at h 2 (by decide) (by simp) rfl
  have NY := fun (w : World) (base a : Nat) (q : Option Addr) (c : Nat) (h : Cur w base a q c [b1, b0, 0, 0, 0, 0, 0, 0] 0 true false) => num_at h 2 (by decide) (by simp) hN
  generalize numOf false ([b0, b1, b2, b3, b4, b5, b6, b7].take 2) = N at *
  have H := Lib.hid hb
  have K := Lib.hid hk
  have LX := Lib.hid NX
  have LY := Lib.hid NY
  clear hb hk hN NX NY
  go_enter Try.func4, Try.ntmps4
  go_wp2
  refine wp_loop_rounds 3 ?_
  rw [rounds_succ]
  go_wp2
  rw [rounds_succ]
  go_wp2
  rw [rounds_succ]
  go_wp2
  have hB : Below w.heap.size w ((w.alloc (.cells #[.int .u8 b0, .int .u8 b1, .int .u8 b2, .int .u8 b3, .int .u8 b4, .int .u8 b5, .int .u8 b6, .int .u8 b7] 32)).alloc (.cells #[.int .u8 b1, .int .u8 b0, .int .u8 0, .int .u8 0, .int .u8 0, .int .u8 0, .int .u8 0, .int .u8 0] 32)) :=
    ((Below.refl _ _).alloc (Nat.le_refl _) _).alloc (by simp) _
  have hX : IsBytes ((w.alloc (.cells #[.int .u8 b0, .int .u8 b1, .int .u8 b2, .int .u8 b3, .int .u8 b4, .int .u8 b5, .int .u8 b6, .int .u8 b7] 32)).alloc (.cells #[.int .u8 b1, .int .u8 b0, .int .u8 0, .int .u8 0, .int .u8 0, .int .u8 0, .int .u8 0, .int .u8 0] 32)) (some ⟨w.heap.size, 0, none⟩) 8 [b0, b1, b2, b3, b4, b5, b6, b7] :=
    arr_bytes ((heap_alloc_old _ _ (by simp)).trans (heap_alloc_new w _))
  have hY : IsBytes ((w.alloc (.cells #[.int .u8 b0, .int .u8 b1, .int .u8 b2, .int .u8 b3, .int .u8 b4, .int .u8 b5, .int .u8 b6, .int .u8 b7] 32)).alloc (.cells #[.int .u8 b1, .int .u8 b0, .int .u8 0, .int .u8 0, .int .u8 0, .int .u8 0, .int .u8 0, .int .u8 0] 32)) (some ⟨w.heap.size + 1, 0, none⟩) 8 [b1, b0, 0, 0, 0, 0, 0, 0] := by
    have := heap_alloc_new (w.alloc (.cells #[.int .u8 b0, .int .u8 b1, .int .u8 b2, .int .u8 b3, .int .u8 b4, .int .u8 b5, .int .u8 b6, .int .u8 b7] 32)) (.cells #[.int .u8 b1, .int .u8 b0, .int .u8 0, .int .u8 0, .int .u8 0, .int .u8 0, .int .u8 0, .int .u8 0] 32)
    exact arr_bytes (by simpa using this)
  generalize (w.alloc (.cells #[.int .u8 b0, .int .u8 b1, .int .u8 b2, .int .u8 b3, .int .u8 b4, .int .u8 b5, .int .u8 b6, .int .u8 b7] 32)).alloc (.cells #[.int .u8 b1, .int .u8 b0, .int .u8 0, .int .u8 0, .int .u8 0, .int .u8 0, .int .u8 0, .int .u8 0] 32) = w0 at *
  have X := Lib.hid fun (W : World) (h : Below w0.heap.size w0 W) => new_in hX rfl H.out false h
  have Y := Lib.hid fun (W : World) (h : Below w0.heap.size w0 W) => new_in hY rfl K.out true h
  have T := Lib.hid fun (W : World) (h : Below w0.heap.size w0 W) => known_any W
  clear hX hY
  have hdrew : Below w0.heap.size w0 w0.drew := (Below.refl _ _).drew
  go_region_with (first | (go_at_call_of 8 (Value.bool false); refine (X.out _ ?_).mono ?_; (first | exact Below.refl _ _ | exact hdrew); rintro e w1 ⟨ax, qx, cx, rfl, lx, hx, bx⟩) | (go_at_call_of 8 (Value.bool true); refine (Y.out _ ?_).mono ?_; (first | exact bx | exact hdrew.trans bx); rintro e w2 ⟨ay, qy, cy, rfl, ly, hy, by'⟩))
  all_goals
    have T2 : Two w w2 ax [b0, b1, b2, b3, b4, b5, b6, b7] ay [b1, b0, 0, 0, 0, 0, 0, 0] := by
      first | exact two_xy hB hx lx bx hy ly by' | exact two_xy hB.drew hx lx bx hy ly by'
    obtain ⟨⟨_, _, _, hcx, nx⟩, ⟨_, _, _, hcy, ny⟩, hne, hbel, ox, oy⟩ := T2
    clear hx hy bx by' lx ly hB hdrew
    go_wp2_with fail
    refine (LX.out _ _ _ _ _ hcx).mono ?_
    rintro e w3 ⟨rfl, hcx3, hg3⟩
    have hcy3 := hcy.kept hg3 (by simpa using hne) (.inr ny)
    have hb3 : Below w.heap.size w w3 := hbel.trans (below_grown hg3 hbel.size (fun k hk => by simp at hk; omega))
    clear hcx hcy hg3 hbel
    go_wp2_with fail
    refine (LY.out _ _ _ _ _ hcy3).mono ?_
    rintro e w4 ⟨rfl, hcy4, hg4⟩
    have hb4 : Below w.heap.size w w4 := hb3.trans (below_grown hg4 hb3.size (fun k hk => by simp at hk; omega))
    have hcx4 := hcx3.kept hg4 (by simpa using fun e => hne e.symm) (.inr nx)
    clear hcx3 hcy3 hg4 hb3 nx ny
    go_wp2_with fail
    refine (at_any hcx4).mono ?_
    rintro e w' ⟨rfl, rfl⟩
    go_wp2_with fail
    refine (err_any hcy4).mono ?_
    rintro e w' ⟨rfl, rfl⟩
    go_wp2_with fail
    refine (known_any w4).mono ?_
    rintro e w5 ⟨rfl, hbk⟩
    have B := Lib.hid (hb4.trans (hbk.mono hb4.size))
    clear hcx4 hcy4 hb4 hbk
    go_wp2
    go_ret
    exact ⟨rfl, B.out⟩

set_option maxHeartbeats 1600000 in
theorem walk_4 (b0 b1 b2 b3 b4 b5 b6 b7 : Int) (w : World) (hb : ∀ x ∈ [b0, b1, b2, b3, b4, b5, b6, b7], 0 ≤ x ∧ x < 256) :
    Calls Try.prog 4 #[.agg #[.int .u8 b0, .int .u8 b1, .int .u8 b2, .int .u8 b3, .int .u8 b4, .int .u8 b5, .int .u8 b6, .int .u8 b7], .int .i64 4] w fun e w' => e = .returned (.bool true) ∧ Below w.heap.size w w' := by
  have hk : ∀ x ∈ [b3, b2, b1, b0, 0, 0, 0, 0], 0 ≤ x ∧ x < 256 := by simp at hb ⊢; omega
  have hN : numOf true ([b3, b2, b1, b0, 0, 0, 0, 0].take 4) = numOf false ([b0, b1, b2, b3, b4, b5, b6, b7].take 4) := by simp [numOf, beN, leN] <;> omega
  have hlt : numOf false ([b0, b1, b2, b3, b4, b5, b6, b7].take 4) < 2 ^ (8 * 4) := (numOf_bd false _ (fun x hx => hb x (List.mem_of_mem_take hx))).2
  have NX := fun (w : World) (base a : Nat) (q : Option Addr) (c : Nat) (h : Cur w base a q c [b0, b1, b2, b3, b4, b5, b6, b7] 0 false false) => num_at h 4 (by decide) (by simp) rfl
  have NY := fun (w : World) (base a : Nat) (q : Option Addr) (c : Nat) (h : Cur w base a q c [b3, b2, b1, b0, 0, 0, 0, 0] 0 true false) => num_at h 4 (by decide) (by simp) hN
  generalize numOf false ([b0, b1, b2, b3, b4, b5, b6, b7].take 4) = N at *
  have H := Lib.hid hb
  have K := Lib.hid hk
  have LX := Lib.hid NX
  have LY := Lib.hid NY
  clear hb hk hN NX NY
  go_enter Try.func4, Try.ntmps4
  go_wp2
  refine wp_loop_rounds 5 ?_
  rw [rounds_succ]
  go_wp2
  rw [rounds_succ]
  go_wp2
  rw [rounds_succ]
  go_wp2
  rw [rounds_succ]
  go_wp2
  rw [rounds_succ]
  go_wp2
  have hB : Below w.heap.size w ((w.alloc (.cells #[.int .u8 b0, .int .u8 b1, .int .u8 b2, .int .u8 b3, .int .u8 b4, .int .u8 b5, .int .u8 b6, .int .u8 b7] 32)).alloc (.cells #[.int .u8 b3, .int .u8 b2, .int .u8 b1, .int .u8 b0, .int .u8 0, .int .u8 0, .int .u8 0, .int .u8 0] 32)) :=
    ((Below.refl _ _).alloc (Nat.le_refl _) _).alloc (by simp) _
  have hX : IsBytes ((w.alloc (.cells #[.int .u8 b0, .int .u8 b1, .int .u8 b2, .int .u8 b3, .int .u8 b4, .int .u8 b5, .int .u8 b6, .int .u8 b7] 32)).alloc (.cells #[.int .u8 b3, .int .u8 b2, .int .u8 b1, .int .u8 b0, .int .u8 0, .int .u8 0, .int .u8 0, .int .u8 0] 32)) (some ⟨w.heap.size, 0, none⟩) 8 [b0, b1, b2, b3, b4, b5, b6, b7] :=
    arr_bytes ((heap_alloc_old _ _ (by simp)).trans (heap_alloc_new w _))
  have hY : IsBytes ((w.alloc (.cells #[.int .u8 b0, .int .u8 b1, .int .u8 b2, .int .u8 b3, .int .u8 b4, .int .u8 b5, .int .u8 b6, .int .u8 b7] 32)).alloc (.cells #[.int .u8 b3, .int .u8 b2, .int .u8 b1, .int .u8 b0, .int .u8 0, .int .u8 0, .int .u8 0, .int .u8 0] 32)) (some ⟨w.heap.size + 1, 0, none⟩) 8 [b3, b2, b1, b0, 0, 0, 0, 0] := by
    have := heap_alloc_new (w.alloc (.cells #[.int .u8 b0, .int .u8 b1, .int .u8 b2, .int .u8 b3, .int .u8 b4, .int .u8 b5, .int .u8 b6, .int .u8 b7] 32)) (.cells #[.int .u8 b3, .int .u8 b2, .int .u8 b1, .int .u8 b0, .int .u8 0, .int .u8 0, .int .u8 0, .int .u8 0] 32)
    exact arr_bytes (by simpa using this)
  generalize (w.alloc (.cells #[.int .u8 b0, .int .u8 b1, .int .u8 b2, .int .u8 b3, .int .u8 b4, .int .u8 b5, .int .u8 b6, .int .u8 b7] 32)).alloc (.cells #[.int .u8 b3, .int .u8 b2, .int .u8 b1, .int .u8 b0, .int .u8 0, .int .u8 0, .int .u8 0, .int .u8 0] 32) = w0 at *
  have X := Lib.hid fun (W : World) (h : Below w0.heap.size w0 W) => new_in hX rfl H.out false h
  have Y := Lib.hid fun (W : World) (h : Below w0.heap.size w0 W) => new_in hY rfl K.out true h
  have T := Lib.hid fun (W : World) (h : Below w0.heap.size w0 W) => known_any W
  clear hX hY
  have hdrew : Below w0.heap.size w0 w0.drew := (Below.refl _ _).drew
  go_region_with (first | (go_at_call_of 8 (Value.bool false); refine (X.out _ ?_).mono ?_; (first | exact Below.refl _ _ | exact hdrew); rintro e w1 ⟨ax, qx, cx, rfl, lx, hx, bx⟩) | (go_at_call_of 8 (Value.bool true); refine (Y.out _ ?_).mono ?_; (first | exact bx | exact hdrew.trans bx); rintro e w2 ⟨ay, qy, cy, rfl, ly, hy, by'⟩))
  all_goals
    have T2 : Two w w2 ax [b0, b1, b2, b3, b4, b5, b6, b7] ay [b3, b2, b1, b0, 0, 0, 0, 0] := by
      first | exact two_xy hB hx lx bx hy ly by' | exact two_xy hB.drew hx lx bx hy ly by'
    obtain ⟨⟨_, _, _, hcx, nx⟩, ⟨_, _, _, hcy, ny⟩, hne, hbel, ox, oy⟩ := T2
    clear hx hy bx by' lx ly hB hdrew
    go_wp2_with fail
    refine (LX.out _ _ _ _ _ hcx).mono ?_
    rintro e w3 ⟨rfl, hcx3, hg3⟩
    have hcy3 := hcy.kept hg3 (by simpa using hne) (.inr ny)
    have hb3 : Below w.heap.size w w3 := hbel.trans (below_grown hg3 hbel.size (fun k hk => by simp at hk; omega))
    clear hcx hcy hg3 hbel
    go_wp2_with fail
    refine (LY.out _ _ _ _ _ hcy3).mono ?_
    rintro e w4 ⟨rfl, hcy4, hg4⟩
    have hb4 : Below w.heap.size w w4 := hb3.trans (below_grown hg4 hb3.size (fun k hk => by simp at hk; omega))
    have hcx4 := hcx3.kept hg4 (by simpa using fun e => hne e.symm) (.inr nx)
    clear hcx3 hcy3 hg4 hb3 nx ny
    go_wp2_with fail
    refine (at_any hcx4).mono ?_
    rintro e w' ⟨rfl, rfl⟩
    go_wp2_with fail
    refine (err_any hcy4).mono ?_
    rintro e w' ⟨rfl, rfl⟩
    go_wp2_with fail
    refine (known_any w4).mono ?_
    rintro e w5 ⟨rfl, hbk⟩
    have B := Lib.hid (hb4.trans (hbk.mono hb4.size))
    clear hcx4 hcy4 hb4 hbk
    go_wp2
    go_ret
    exact ⟨rfl, B.out⟩

set_option maxHeartbeats 1600000 in
theorem walk_8 (b0 b1 b2 b3 b4 b5 b6 b7 : Int) (w : World) (hb : ∀ x ∈ [b0, b1, b2, b3, b4, b5, b6, b7], 0 ≤ x ∧ x < 256) :
    Calls Try.prog 4 #[.agg #[.int .u8 b0, .int .u8 b1, .int .u8 b2, .int .u8 b3, .int .u8 b4, .int .u8 b5, .int .u8 b6, .int .u8 b7], .int .i64 8] w fun e w' => e = .returned (.bool true) ∧ Below w.heap.size w w' := by
  have hk : ∀ x ∈ [b7, b6, b5, b4, b3, b2, b1, b0], 0 ≤ x ∧ x < 256 := by simp at hb ⊢; omega
  have hN : numOf true ([b7, b6, b5, b4, b3, b2, b1, b0].take 8) = numOf false ([b0, b1, b2, b3, b4, b5, b6, b7].take 8) := by simp [numOf, beN, leN] <;> omega
  have hlt : numOf false ([b0, b1, b2, b3, b4, b5, b6, b7].take 8) < 2 ^ (8 * 8) := (numOf_bd false _ (fun x hx => hb x (List.mem_of_mem_take hx))).2
  have NX := fun (w : World) (base a : Nat) (q : Option Addr) (c : Nat) (h : Cur w base a q c [b0, b1, b2, b3, b4, b5, b6, b7] 0 false false) => num_at h 8 (by decide) (by simp) rfl
  have NY := fun (w : World) (base a : Nat) (q : Option Addr) (c : Nat) (h : Cur w base a q c [b7, b6, b5, b4, b3, b2, b1, b0] 0 true false) => num_at h 8 (by decide) (by simp) hN
  generalize numOf false ([b0, b1, b2, b3, b4, b5, b6, b7].take 8) = N at *
  have H := Lib.hid hb
  have K := Lib.hid hk
  have LX := Lib.hid NX
  have LY := Lib.hid NY
  clear hb hk hN NX NY
  go_enter Try.func4, Try.ntmps4
  go_wp2
  refine wp_loop_rounds 9 ?_
  rw [rounds_succ]
  go_wp2
  rw [rounds_succ]
  go_wp2
  rw [rounds_succ]
  go_wp2
  rw [rounds_succ]
  go_wp2
  rw [rounds_succ]
  go_wp2
  rw [rounds_succ]
  go_wp2
  rw [rounds_succ]
  go_wp2
  rw [rounds_succ]
  go_wp2
  rw [rounds_succ]
  go_wp2
  have hB : Below w.heap.size w ((w.alloc (.cells #[.int .u8 b0, .int .u8 b1, .int .u8 b2, .int .u8 b3, .int .u8 b4, .int .u8 b5, .int .u8 b6, .int .u8 b7] 32)).alloc (.cells #[.int .u8 b7, .int .u8 b6, .int .u8 b5, .int .u8 b4, .int .u8 b3, .int .u8 b2, .int .u8 b1, .int .u8 b0] 32)) :=
    ((Below.refl _ _).alloc (Nat.le_refl _) _).alloc (by simp) _
  have hX : IsBytes ((w.alloc (.cells #[.int .u8 b0, .int .u8 b1, .int .u8 b2, .int .u8 b3, .int .u8 b4, .int .u8 b5, .int .u8 b6, .int .u8 b7] 32)).alloc (.cells #[.int .u8 b7, .int .u8 b6, .int .u8 b5, .int .u8 b4, .int .u8 b3, .int .u8 b2, .int .u8 b1, .int .u8 b0] 32)) (some ⟨w.heap.size, 0, none⟩) 8 [b0, b1, b2, b3, b4, b5, b6, b7] :=
    arr_bytes ((heap_alloc_old _ _ (by simp)).trans (heap_alloc_new w _))
  have hY : IsBytes ((w.alloc (.cells #[.int .u8 b0, .int .u8 b1, .int .u8 b2, .int .u8 b3, .int .u8 b4, .int .u8 b5, .int .u8 b6, .int .u8 b7] 32)).alloc (.cells #[.int .u8 b7, .int .u8 b6, .int .u8 b5, .int .u8 b4, .int .u8 b3, .int .u8 b2, .int .u8 b1, .int .u8 b0] 32)) (some ⟨w.heap.size + 1, 0, none⟩) 8 [b7, b6, b5, b4, b3, b2, b1, b0] := by
    have := heap_alloc_new (w.alloc (.cells #[.int .u8 b0, .int .u8 b1, .int .u8 b2, .int .u8 b3, .int .u8 b4, .int .u8 b5, .int .u8 b6, .int .u8 b7] 32)) (.cells #[.int .u8 b7, .int .u8 b6, .int .u8 b5, .int .u8 b4, .int .u8 b3, .int .u8 b2, .int .u8 b1, .int .u8 b0] 32)
    exact arr_bytes (by simpa using this)
  generalize (w.alloc (.cells #[.int .u8 b0, .int .u8 b1, .int .u8 b2, .int .u8 b3, .int .u8 b4, .int .u8 b5, .int .u8 b6, .int .u8 b7] 32)).alloc (.cells #[.int .u8 b7, .int .u8 b6, .int .u8 b5, .int .u8 b4, .int .u8 b3, .int .u8 b2, .int .u8 b1, .int .u8 b0] 32) = w0 at *
  have X := Lib.hid fun (W : World) (h : Below w0.heap.size w0 W) => new_in hX rfl H.out false h
  have Y := Lib.hid fun (W : World) (h : Below w0.heap.size w0 W) => new_in hY rfl K.out true h
  have T := Lib.hid fun (W : World) (h : Below w0.heap.size w0 W) => known_any W
  clear hX hY
  have hdrew : Below w0.heap.size w0 w0.drew := (Below.refl _ _).drew
  go_region_with (first | (go_at_call_of 8 (Value.bool false); refine (X.out _ ?_).mono ?_; (first | exact Below.refl _ _ | exact hdrew); rintro e w1 ⟨ax, qx, cx, rfl, lx, hx, bx⟩) | (go_at_call_of 8 (Value.bool true); refine (Y.out _ ?_).mono ?_; (first | exact bx | exact hdrew.trans bx); rintro e w2 ⟨ay, qy, cy, rfl, ly, hy, by'⟩))
  all_goals
    have T2 : Two w w2 ax [b0, b1, b2, b3, b4, b5, b6, b7] ay [b7, b6, b5, b4, b3, b2, b1, b0] := by
      first | exact two_xy hB hx lx bx hy ly by' | exact two_xy hB.drew hx lx bx hy ly by'
    obtain ⟨⟨_, _, _, hcx, nx⟩, ⟨_, _, _, hcy, ny⟩, hne, hbel, ox, oy⟩ := T2
    clear hx hy bx by' lx ly hB hdrew
    go_wp2_with fail
    refine (LX.out _ _ _ _ _ hcx).mono ?_
    rintro e w3 ⟨rfl, hcx3, hg3⟩
    have hcy3 := hcy.kept hg3 (by simpa using hne) (.inr ny)
    have hb3 : Below w.heap.size w w3 := hbel.trans (below_grown hg3 hbel.size (fun k hk => by simp at hk; omega))
    clear hcx hcy hg3 hbel
    go_wp2_with fail
    refine (LY.out _ _ _ _ _ hcy3).mono ?_
    rintro e w4 ⟨rfl, hcy4, hg4⟩
    have hb4 : Below w.heap.size w w4 := hb3.trans (below_grown hg4 hb3.size (fun k hk => by simp at hk; omega))
    have hcx4 := hcx3.kept hg4 (by simpa using fun e => hne e.symm) (.inr nx)
    clear hcx3 hcy3 hg4 hb3 nx ny
    go_wp2_with fail
    refine (at_any hcx4).mono ?_
    rintro e w' ⟨rfl, rfl⟩
    go_wp2_with fail
    refine (err_any hcy4).mono ?_
    rintro e w' ⟨rfl, rfl⟩
    go_wp2_with fail
    refine (known_any w4).mono ?_
    rintro e w5 ⟨rfl, hbk⟩
    have B := Lib.hid (hb4.trans (hbk.mono hb4.size))
    clear hcx4 hcy4 hb4 hbk
    go_wp2
    go_ret
    exact ⟨rfl, B.out⟩

theorem walk (bs : List Int) (n : Int) (w : World) (hl : bs.length = 8) (hb : ∀ b ∈ bs, 0 ≤ b ∧ b < 256) (_w1 : (Lit.int .i64 n).wf = true) :
    Calls Try.prog 4 #[.agg (bs.map (Value.int .u8)).toArray, .int .i64 n] w fun e w' => e = .returned (.bool true) ∧ Below w.heap.size w w' := by
  match bs, hl with
  | [b0, b1, b2, b3, b4, b5, b6, b7], _ =>
    by_cases h : n ≠ 1 ∧ n ≠ 2 ∧ n ≠ 4 ∧ n ≠ 8
    · exact walk_no b0 b1 b2 b3 b4 b5 b6 b7 n w hb h
    · have : n = 1 ∨ n = 2 ∨ n = 4 ∨ n = 8 := by omega
      rcases this with rfl | rfl | rfl | rfl
      · exact walk_1 b0 b1 b2 b3 b4 b5 b6 b7 w hb
      · exact walk_2 b0 b1 b2 b3 b4 b5 b6 b7 w hb
      · exact walk_4 b0 b1 b2 b3 b4 b5 b6 b7 w hb
      · exact walk_8 b0 b1 b2 b3 b4 b5 b6 b7 w hb
end Go.Proofs.Ytlgjkdfpcmkjoaa.cursorNumbers
