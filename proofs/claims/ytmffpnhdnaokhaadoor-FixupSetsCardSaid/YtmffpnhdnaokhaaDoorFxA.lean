/- A clone of fixups: slices.Clone. Condition: they lie in memory. -/
import Derived.Test.YtmffpnhdnaokhaaDoorFxG
import Derived.Test.YtmffpnhdnaokhaaDoorApR
import Derived.Lib.Hide
namespace Go.Proofs.YtmffpnhdnaokhaaDoor
open Go.RowKit
variable {w w' W V : World}

theorem fxCs_flat_one (D : List Fx) : ∀ u ∈ D.flatMap fxCs, u.oneCell' = true := fun u hu => by
  obtain ⟨x, _, h⟩ := List.mem_flatMap.1 hu
  exact fxCs_one x u h
theorem FxsAt.cells {q : Option Addr} {D : List Fx} (h : FxsAt w q D) (j : Nat) (u : Value) (hu : (D.flatMap fxCs)[j]? = some u) : ∃ g o, q = some ⟨g, o, none⟩ ∧ w.cell? ⟨g, o + j, none⟩ = some u := by
  have hj : j < (D.flatMap fxCs).length := (List.getElem?_eq_some_iff.1 hu).1
  rw [flat_len fxCs_len] at hj
  have hi : j / 7 < D.length := Nat.div_lt_of_lt_mul (by omega)
  have hm : j % 7 < 7 := Nat.mod_lt _ (by decide)
  have hy : D[j / 7]? = some (D[j / 7]'hi) := List.getElem?_eq_getElem hi
  obtain ⟨g, o, e, hc⟩ := h _ _ hy
  refine ⟨g, o, e, ?_⟩
  have h1 := hc (j % 7) hm
  have h2 := flat_at fxCs_len D (j / 7) (j % 7) _ hy hm
  rw [show j / 7 * 7 + j % 7 = j by omega] at h2
  rw [show o + j / 7 * 7 + j % 7 = o + j by omega] at h1
  rw [h1, ← h2, hu]
theorem empty_run (W : World) : (Instr.buildSlice 36 0 #[]).run Tryd.prog W = .ok (.slice (some ⟨W.heap.size, 0, none⟩) 0 0) (W.alloc (.cells #[] 26 (0, 0))) := by kernel_rfl
theorem nilF_no (a : Addr) (n c : Nat) (w : World) : (binOp .eql 36 (.slice (some a) n c) (.slice none 0 0)).run Tryd.prog w = .ok (.bool false) w := by kernel_rfl
theorem nilF_yes (n c : Nat) (w : World) : (binOp .eql 36 (.slice none n c) (.slice none 0 0)).run Tryd.prog w = .ok (.bool true) w := by kernel_rfl
theorem empty_own (W : World) : (W.alloc (.cells #[] 26 (0, 0))).ownsRow W.heap.size 26 7 (.slice (some ⟨W.heap.size, 0, none⟩) 0 0) 0 [] :=
  ⟨rfl, .inr ⟨W.heap.size, 0, #[], rfl, Nat.le_refl _, heap_alloc_new W _, Nat.le_refl _, by decide, rfl, rfl⟩⟩
/-- A row of one's own, of these. -/
structure OwnF (w w' : World) (D : List Fx) (e : Ending) : Prop where
  ex : ∃ q c, e = .returned (.slice q D.length c) ∧ w'.ownsRow w.heap.size 26 7 (.slice q D.length c) D.length (D.flatMap fxCs)
  grown : w.grownBy w' none
set_option maxRecDepth 20000 in
theorem clone_any {D : List Fx} {n c : Nat} {q : Option Addr} (hD : D.length = n) (hn : n ≤ 1000000000) (h : FxsAt w q D) :
    Calls Tryd.prog 62 #[.slice q n c] w fun e w' => OwnF w w' D e := by
  cases q with
  | none =>
    have hD0 : D = [] := by
      cases D with
      | nil => rfl
      | cons x D => obtain ⟨g, o, e, _⟩ := h 0 x rfl; cases e
    subst hD0
    have NY := nilF_yes n c
    clear h
    go_enter Tryd.func62, Tryd.ntmps62
    go_wp2
    go_ret
    exact ⟨⟨_, _, rfl, World.ownsRow_nil _ _ _ _⟩, grown_refl _ _⟩
  | some a =>
    have g1 := grown1 w (.cells #[] 26 (0, 0))
    have O1 := Lib.hid (empty_own w)
    have G1 := Lib.hid g1
    have HH := Lib.hid ((h.same g1).cells)
    have HL := Lib.hid (show (D.flatMap fxCs).length = n * 7 by rw [flat_len fxCs_len, hD])
    have HO := Lib.hid (fxCs_flat_one D)
    have HD := Lib.hid hD
    have HBS := Lib.hid g1.size
    have NN := nilF_no a n c
    clear g1 h hD
    go_enter Tryd.func62, Tryd.ntmps62
    go_wp2_with (at_builtin; refine wp_append_rows fxType rfl _ _ rfl rfl (.slice (some ⟨w.heap.size, 0, none⟩) 0 0) 0 [] rfl O1.out (some a) n c rfl (D.flatMap fxCs) HL.out HH.out HO.out (by omega) (by decide) HBS.out ?_)
    intro v' w' ho hg hv
    try rw [Nat.zero_add] at ho
    try rw [List.nil_append] at ho
    obtain ⟨q', c', rfl⟩ := own_slice ho
    have F := Lib.hid (show OwnF w w' D (.returned (.slice q' n c')) from ⟨⟨q', c', by rw [HD.out], by rw [HD.out]; exact ho⟩, grown_opt G1.out hg (fun g e => by simp only [Value.ownBlock, Option.some.injEq] at e; omega)⟩)
    clear ho hg hv
    go_wp2
    go_ret
    exact F.out
end Go.Proofs.YtmffpnhdnaokhaaDoor
