/- Fixups in order, neighbours that are alike put together: slices.CompactFunc. Condition: they lie in a row of one's own. -/
import Derived.Test.YtmffpnhdnaokhaaDoorFxR
import Derived.Test.YtmffpnhdnaokhaaDoorFxA
import Derived.Test.YtmffpnhdnaokhaaDoorFxP
import Derived.Test.YtmffpnhdnaokhaaDoorOwnS
import Derived.Lib.SliceRun
import Derived.Deep.MidRow
namespace Go.Proofs.YtmffpnhdnaokhaaDoor
open Go.RowKit
variable {w w' W V : World}

/-! Cells of a row, some written one behind the other. -/
def setL : List Value → Nat → List Value → List Value
  | xs, _, [] => xs
  | xs, o, v :: vs => setL (xs.set o v) (o + 1) vs
theorem setL_mid : ∀ (vs A B C : List Value) (o : Nat), A.length = o → B.length = vs.length → setL (A ++ (B ++ C)) o vs = A ++ (vs ++ C)
  | [], A, B, C, o, _, hB => by
    have : B = [] := List.length_eq_zero_iff.1 (by simpa using hB)
    subst this; rfl
  | v :: vs, A, B, C, o, hA, hB => by
    cases B with
    | nil => simp at hB
    | cons b B =>
      unfold setL
      rw [List.set_append_right _ _ (by omega), show o - A.length = 0 by omega]
      simp only [List.cons_append, List.set_cons_zero]
      have := setL_mid vs (A ++ [v]) B C (o + 1) (by rw [List.length_append]; simp; omega) (by simpa using hB)
      simp only [List.append_assoc, List.cons_append, List.nil_append] at this
      exact this
theorem setL_take : ∀ (vs xs : List Value) (o : Nat), (setL xs o vs).take o = xs.take o
  | [], _, _ => rfl
  | v :: vs, xs, o => by
    unfold setL
    have h := setL_take vs (xs.set o v) (o + 1)
    have h2 := congrArg (List.take o) h
    rw [List.take_take, List.take_take, Nat.min_eq_left (Nat.le_succ o)] at h2
    rw [h2]
    apply List.ext_getElem?
    intro j
    by_cases c : j < o
    · rw [List.getElem?_take_of_lt c, List.getElem?_take_of_lt c, List.getElem?_set_ne (by omega)]
    · rw [List.getElem?_eq_none (by rw [List.length_take]; omega), List.getElem?_eq_none (by rw [List.length_take]; omega)]
theorem own_setCells {B n k c g : Nat} {T : TypeId} : ∀ (vs xs : List Value) (o : Nat) (W : World), W.ownsRow B T k (.slice (some ⟨g, 0, none⟩) n c) n xs → (W.setCells g o vs).ownsRow B T k (.slice (some ⟨g, 0, none⟩) n c) n (setL xs o vs)
  | [], _, _, _, h => h
  | v :: vs, xs, o, W, h => own_setCells vs (xs.set o v) (o + 1) (W.setCell ⟨g, o, none⟩ v) (own_set h v)
/-- One of a row is written anew. -/
theorem own_putF {B n c g i : Nat} {X : List Fx} (h : W.ownsRow B 26 7 (.slice (some ⟨g, 0, none⟩) n c) n (X.flatMap fxCs)) (hi : i < X.length) (y : Fx) : (W.setCells g (i * 7) (fxCs y)).ownsRow B 26 7 (.slice (some ⟨g, 0, none⟩) n c) n ((X.set i y).flatMap fxCs) := by
  have := own_setCells (fxCs y) (X.flatMap fxCs) (i * 7) W h
  have e : setL (X.flatMap fxCs) (i * 7) (fxCs y) = (X.set i y).flatMap fxCs := by
    have e1 : X = X.take i ++ X[i] :: X.drop (i + 1) := by rw [← List.drop_eq_getElem_cons hi, List.take_append_drop]
    have e2 : X.set i y = X.take i ++ y :: X.drop (i + 1) := List.set_eq_take_append_cons_drop.trans (if_pos hi)
    rw [e2]
    conv => lhs; rw [e1]
    rw [List.flatMap_append, List.flatMap_cons, List.flatMap_append, List.flatMap_cons]
    exact setL_mid (fxCs y) _ (fxCs X[i]) _ (i * 7) (by rw [flat_len fxCs_len, List.length_take]; omega) rfl
  rwa [e] at this
/-- The cells of nothing, so many times. -/
def zerosF (m : Nat) : List Value := (Builtin.zeroCells #[.int .u64 0, .int .i64 0, .int .u64 0, .int .i64 0, .string ⟨#[]⟩, .int .i64 0, .bool false] m).toList
theorem zerosF_len (m : Nat) : (zerosF m).length = m * 7 := by simp [zerosF, Builtin.zeroCells]
theorem zerosF_one (m : Nat) : ∀ u ∈ zerosF m, u.oneCell' = true := by
  intro u hu
  simp only [zerosF, Builtin.zeroCells, Array.toList_map, List.mem_map] at hu
  obtain ⟨i, _, rfl⟩ := hu
  have h : i % 7 < 7 := Nat.mod_lt _ (by decide)
  show Value.oneCell' (_ : Array Value)[i % 7]! = true
  rcases (show i % 7 = 0 ∨ i % 7 = 1 ∨ i % 7 = 2 ∨ i % 7 = 3 ∨ i % 7 = 4 ∨ i % 7 = 5 ∨ i % 7 = 6 by omega) with e | e | e | e | e | e | e <;> rw [e] <;> rfl
theorem clear_fx (w : World) (ty : TypeId) (b o m c : Nat) (hm : 0 < m) (hc : ∀ j, j < m * 7 → (w.cell? ⟨b, o + j, none⟩).isSome = true) (hf : ∀ j, j < m * 7 → w.frozen? ⟨b, o + j, none⟩ = false) :
    (Builtin.clear_ #[36] ty #[.slice (some ⟨b, o, none⟩) m c]).run Tryd.prog w = .ok (.tuple #[]) (w.setCells b o (zerosF m)) := by
  have hz : ∀ V, (zeroValue 26).run Tryd.prog V = .ok (.agg #[.int .u64 0, .int .i64 0, .int .u64 0, .int .i64 0, .string ⟨#[]⟩, .int .i64 0, .bool false]) V := fun V => by kernel_rfl
  have hst := run_storeCells_cells (P := Tryd.prog) b o (zerosF m) 0 w (by simpa [zerosF_len] using hc) (by simpa [zerosF_len] using hf) (zerosF_one m)
  simp only [Nat.add_zero] at hst
  unfold zerosF at hst
  obtain ⟨k, rfl⟩ : ∃ k, m = k + 1 := ⟨m - 1, by omega⟩
  simp [Builtin.clear_, run_underlying Tryd.underlying36, hz, Value.cells, hst, zerosF]
theorem own_cell {B n c g t : Nat} {X : List Fx} (h : W.ownsRow B 26 7 (.slice (some ⟨g, 0, none⟩) n c) n (X.flatMap fxCs)) (ht : t < n * 7) : (W.cell? ⟨g, t, none⟩).isSome = true := by
  obtain ⟨h1, ⟨e, _⟩ | ⟨g', cap, cur, e, hb, hg, hn, hc, hs, hx⟩⟩ := h
  · cases e
  · injection e with e _ ec
    injection e with e
    injection e with e _ _
    subst e ec
    rw [cell_of hg, Array.getElem?_eq_getElem (by rw [hs]; omega)]
    rfl
/-! Are two alike: the closure. -/
set_option maxRecDepth 20000 in
theorem alikeF_any {g : Nat} (hg : OneAt w g (.func (.func 11) #[] #[]) 34) (x y : Fx) :
    Calls Tryd.prog 65 #[fxV x, fxV y, .pointer (some ⟨g, 0, none⟩)] w fun e w' => e = .returned (.bool (decide (ordN x y = 0))) ∧ w.grownBy w' none := by
  obtain ⟨W, hW, ha, hb, hgr⟩ := two_new w x y
  have e1 : ∀ args V, (callFunc 11 args).run Tryd.prog V = .ok (.enter 11 args) V := Go.Proofs.enters_of Tryd.func11 (by kernel_rfl) rfl
  have O := Lib.hid (order_any x y W)
  have c := (hg.grown hgr).c
  obtain ⟨a0, a1, a2, a3, a4, a5, a6⟩ := ha.c
  obtain ⟨b0, b1, b2, b3, b4, b5, b6⟩ := hb.c
  have G := Lib.hid hgr
  obtain ⟨b1', hb1⟩ : ∃ g, w.heap.size = g := ⟨_, rfl⟩
  rw [hb1] at a0 a1 a2 a3 a4 a5 a6 b0 b1 b2 b3 b4 b5 b6
  clear ha hb hgr hg
  unfold fxV fxArr at O ⊢
  generalize ordN x y = r at *
  go_enter Tryd.func65, Tryd.ntmps65
  go_upto_region 1 with fail
  clear hW hb1
  go_wp2_with fail
  refine O.out.mono ?_
  rintro e w2 ⟨rfl, hg⟩
  have G2 := Lib.hid (grown_trans G.out hg)
  clear hg
  go_wp2
  go_ret
  exact ⟨rfl, G2.out⟩
end Go.Proofs.YtmffpnhdnaokhaaDoor
