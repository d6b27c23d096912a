/- The program's sets of fixups: set, Set, Same, Meet. Conditions: what is handed in lies in memory. -/
import Derived.Test.YtmffpnhdnaokhaaDoorFxF
namespace Go.Proofs.YtmffpnhdnaokhaaDoor
open Go.RowKit
variable {w w' W V : World}

/-- The set of fixups. -/
def setF (l : List Fx) : List Fx := dedF (l.mergeSort fun a b => decide (ordN a b ≤ 0))
theorem setF_is (l : List Fx) : IsSet (setF l) l := by
  refine set_ded (List.mergeSort_perm _ _) ?_
  have h : (l.mergeSort fun a b => decide (ordN a b ≤ 0)).Pairwise fun a b => (decide (ordN a b ≤ 0)) = true := List.pairwise_mergeSort (fun a b c h k => by
    simp only [decide_eq_true_eq] at h k ⊢
    exact held_ord.trans a b c h k) (fun a b => by
    have := held_ord.anti a b
    by_cases c : ordN a b ≤ 0
    · simp [c]
    · have d : ordN b a ≤ 0 := by omega
      simp [d]) l
  exact h.imp fun h => by simpa using h
theorem own_low {B B' n k : Nat} {T : TypeId} {v : Value} {xs : List Value} (h : W.ownsRow B T k v n xs) (hb : B' ≤ B) : W.ownsRow B' T k v n xs := by
  obtain ⟨h1, h2 | ⟨g, cap, cur, e, hg, r⟩⟩ := h
  · exact ⟨h1, .inl h2⟩
  · exact ⟨h1, .inr ⟨g, cap, cur, e, Nat.le_trans hb hg, r⟩⟩
/-- A set that is told, in a row of one's own. -/
structure SetO (w w' : World) (D : List Fx) (e : Ending) : Prop where
  ex : ∃ q c, e = .returned (.slice q (setF D).length c) ∧ w'.ownsRow w.heap.size 26 7 (.slice q (setF D).length c) (setF D).length ((setF D).flatMap fxCs)
  grown : w.grownBy w' none
set_option maxRecDepth 20000 in
set_option maxHeartbeats 1600000 in
theorem setGen_any {D : List Fx} {n c : Nat} {q : Option Addr} (hD : D.length = n) (hn : n ≤ 1000000000) (h : FxsAt w q D) :
    Calls Tryd.prog 31 #[.slice q n c, .func (.func 11) #[] #[]] w fun e w' => SetO w w' D e := by
  have o1 : OrdAt (w.alloc (.cells #[.func (.func 11) #[] #[]] 34)) w.heap.size := OneAt.new w _ _
  have g1 := grown1 w (.cells #[.func (.func 11) #[] #[]] 34)
  obtain ⟨w1, hw1⟩ : ∃ W, w.alloc (.cells #[.func (.func 11) #[] #[]] 34) = W := ⟨_, rfl⟩
  have hsz : w1.heap.size = w.heap.size + 1 := by rw [← hw1, World.size_alloc]
  obtain ⟨gc, hgc⟩ : ∃ g, w.heap.size = g := ⟨_, rfl⟩
  rw [hw1] at o1 g1
  rw [hgc] at o1
  have CL := Lib.hid (clone_any (c := c) hD hn (h.same g1))
  have O1 := Lib.hid o1
  have G1 := Lib.hid g1
  have HD := Lib.hid hD
  have HS := Lib.hid (And.intro hsz hgc)
  have SF := Lib.hid (setF_is D)
  clear o1 g1 hsz h hD
  go_enter Tryd.func31, Tryd.ntmps31
  go_upto_region 1 with fail
  clear hw1 hgc
  go_wp2_with fail
  refine CL.out.mono ?_
  rintro e w2 ⟨⟨q2, c2, rfl, ho⟩, hg⟩
  rw [HD.out] at ho ⊢
  have G2 := Lib.hid (grown_trans G1.out hg)
  have O2 := Lib.hid (O1.out.grown hg)
  have OW := Lib.hid ho
  have c0 := O2.out.c
  have cm := Lib.hid (own_capF ho)
  clear hg CL
  by_cases h0 : n = 0
  · subst h0
    have hD0 : D = [] := List.length_eq_zero_iff.1 HD.out
    have hS0 : Hid (setF D = []) := Lib.hid (by
      have := SF.out.len
      rw [HD.out] at this
      exact List.length_eq_zero_iff.1 (by omega))
    clear hD0 ho
    go_wp2_with fail
    refine (sortNoneF q2 c2 w2).mono ?_
    rintro e w3 ⟨rfl, hw3⟩
    have hw3' := hw3.symm
    subst hw3'
    clear hw3
    go_wp2_with fail
    refine (compact_few (by decide) _ w2).mono ?_
    rintro e w3 ⟨rfl, hw3⟩
    have hw3' := hw3.symm
    subst hw3'
    clear hw3
    go_wp2
    go_ret
    exact ⟨⟨q2, c2, by rw [hS0.out]; rfl, by rw [hS0.out]; have := own_low OW.out (B' := w.heap.size) G1.out.size; rw [List.length_eq_zero_iff.1 HD.out] at this; exact this⟩, G2.out⟩
  · obtain ⟨g, rfl, hgl⟩ : ∃ g, q2 = some ⟨g, 0, none⟩ ∧ w1.heap.size ≤ g := by
      rcases ho.2 with ⟨_, e0⟩ | ⟨g, cap, cur, e, hb, _⟩
      · exact absurd e0 h0
      · injection e with e _ _
        exact ⟨g, e, hb⟩
    have SO := Lib.hid (sortF_any OW.out HD.out hn)
    have NE := Lib.hid (show g ≠ gc by have := HS.out; omega)
    have GL := Lib.hid (show w.heap.size ≤ g by have := HS.out; omega)
    clear hgl ho
    go_wp2_with fail
    refine SO.out.mono ?_
    rintro e w3 ⟨rfl, ⟨R, hp, hr, ho3⟩, hg3⟩
    have O3 := Lib.hid (show OrdAt w3 gc from O2.out.kept hg3 (fun e => NE.out (by simpa [Value.ownBlock] using e)))
    have EQ := Lib.hid (show setF D = dedF R from SF.out.one (set_ded hp hr))
    have CO := Lib.hid (compact_any (by rw [hp.length_eq, HD.out]) hn ho3 O3.out NE.out)
    have G3 := Lib.hid (grown_new G2.out hg3 GL.out)
    clear hp hr ho3 hg3 SO
    unfold alikeV at CO
    go_wp2_with fail
    refine CO.out.mono ?_
    rintro e w4 ⟨rfl, ho4, hg4⟩
    rw [← EQ.out] at ho4 ⊢
    have F := Lib.hid (show SetO w w4 D (.returned (.slice (some ⟨g, 0, none⟩) (setF D).length c2)) from ⟨⟨_, _, rfl, own_low ho4 G1.out.size⟩, grown_new G3.out hg4 GL.out⟩)
    clear ho4 hg4
    go_wp2
    go_ret
    exact F.out
theorem Set_any {D : List Fx} {n c : Nat} {q : Option Addr} (hD : D.length = n) (hn : n ≤ 1000000000) (h : FxsAt w q D) :
    Calls Tryd.prog 12 #[.slice q n c] w fun e w' => SetO w w' D e := by
  have S := Lib.hid (setGen_any (c := c) hD hn h)
  clear h hD
  go_enter Tryd.func12, Tryd.ntmps12
  go_wp2_with fail
  refine S.out.mono ?_
  rintro e w2 ⟨⟨q2, c2, rfl, ho⟩, hg⟩
  have F := Lib.hid (show SetO w w2 D (.returned (.slice q2 (setF D).length c2)) from ⟨⟨q2, c2, rfl, ho⟩, hg⟩)
  clear ho hg
  generalize (setF D).length = N at *
  go_wp2
  go_ret
  exact F.out
theorem setF_len (D : List Fx) : (setF D).length ≤ D.length := (setF_is D).len
theorem Same_any {A B : List Fx} {n m ca cb : Nat} {qa qb : Option Addr} (hA : A.length = n) (hB : B.length = m) (hn : n ≤ 1000000000) (hm : m ≤ 1000000000) (h1 : FxsAt w qa A) (h2 : FxsAt w qb B) :
    Calls Tryd.prog 15 #[.slice qa n ca, .slice qb m cb] w fun e w' => e = .returned (.bool (decide (setF A = setF B))) ∧ w.grownBy w' none := by
  obtain ⟨r, hr⟩ : ∃ r, r = decide (setF A = setF B) := ⟨_, rfl⟩
  rw [← hr]
  have HRR := Lib.hid hr
  clear hr
  have SA := Lib.hid (Set_any (c := ca) hA hn h1)
  have SB := Lib.hid (fun (V : World) (hV : w.grownBy V none) => Set_any (w := V) (c := cb) hB hm (h2.same hV))
  have LA := Lib.hid (show (setF A).length ≤ 1000000000 by have := setF_len A; omega)
  have LB := Lib.hid (show (setF B).length ≤ 1000000000 by have := setF_len B; omega)
  clear h1 h2 hA hB
  go_enter Tryd.func15, Tryd.ntmps15
  go_wp2_with fail
  refine SA.out.mono ?_
  rintro e w2 ⟨⟨q2, c2, rfl, ho⟩, hg⟩
  have G2 := Lib.hid hg
  have A2 := Lib.hid (FxsAt.of ho)
  clear ho hg SA
  go_wp2_with fail
  refine (SB.out w2 G2.out).mono ?_
  rintro e w3 ⟨⟨q3, c3, rfl, ho⟩, hg⟩
  have G3 := Lib.hid (grown_trans G2.out hg)
  have EQ0 := slEqual_any (ca := c2) (cb := c3) rfl rfl (by have := LA.out; omega) (by have := LB.out; omega) (A2.out.same hg) (FxsAt.of ho)
  rw [← HRR.out] at EQ0
  have EQ := Lib.hid EQ0
  clear ho hg SB A2 EQ0
  generalize (setF A).length = N1 at *
  generalize (setF B).length = N2 at *
  go_wp2_with fail
  refine EQ.out.mono ?_
  rintro e w4 ⟨rfl, hg⟩
  have G4 := Lib.hid (grown_trans G3.out hg)
  clear hg
  go_wp2
  go_ret
  exact ⟨rfl, G4.out⟩
end Go.Proofs.YtmffpnhdnaokhaaDoor
