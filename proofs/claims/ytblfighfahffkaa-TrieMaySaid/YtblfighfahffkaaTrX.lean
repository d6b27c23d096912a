/- What all names of a trie are: each once; and that looking for one finds what all tell of it. No program. No condition. -/
import Derived.Test.YtblfighfahffkaaTrW
namespace Go.Proofs.Ytblfighfahffkaa
open Go.RowKit

section
variable {S : Type} {rec : List Int → Int → Nat × S → Int × (Nat × S)} {name : List Int} {st st' : Nat × S}
theorem visK_cons {x : Kid} {l : List Kid} {e : Int} (h : visK rec name (x :: l) e st = (0, st')) : ∃ st1, rec (name ++ x.1) x.2 st = (0, st1) ∧ visK rec name l 0 st1 = (0, st') := by
  unfold visK at h
  by_cases h0 : (rec (name ++ x.1) x.2 st).1 = 0
  · rw [if_neg (by simp [h0])] at h
    exact ⟨_, by rw [← h0], h⟩
  · rw [if_pos h0] at h
    rw [h] at h0
    exact absurd rfl h0
end
def Named (t : List Int) (l : Out) : Option (List Int × Ex) := l.find? fun y => decide (y.1 = t)
theorem named_app (t : List Int) (a b : Out) (h : ∀ y ∈ a, y.1 ≠ t) : Named t (a ++ b) = Named t b := by
  unfold Named
  rw [List.find?_append, List.find?_eq_none.2 (fun y hy => by simpa using h y hy)]
  rfl
theorem named_front (t : List Int) (a b : Out) (h : ∀ y ∈ b, y.1 ≠ t) : Named t (a ++ b) = Named t a := by
  have hb : b.find? (fun y => decide (y.1 = t)) = none := List.find?_eq_none.2 (fun y hy => by simpa using h y hy)
  unfold Named
  rw [List.find?_append, hb]
  cases List.find? (fun y => decide (y.1 = t)) a <;> rfl
theorem named_none (t : List Int) (a : Out) (h : ∀ y ∈ a, y.1 ≠ t) : Named t a = none := List.find?_eq_none.2 (fun y hy => by simpa using h y hy)
theorem first_eq {e e' s s' : List Int} (h : e ++ s = e' ++ s') (he : e ≠ []) (he' : e' ≠ []) : e.getD 0 0 = e'.getD 0 0 := by
  cases e with
  | nil => exact absurd rfl he
  | cons x e =>
    cases e' with
    | nil => exact absurd rfl he'
    | cons y e' =>
      simp only [List.cons_append, List.cons.injEq] at h
      simp [h.1]
/-- What one walk from a node adds. -/
structure Adds (name : List Int) (out out' new : Out) : Prop where
  eq : out' = out ++ new
  pre : ∀ y ∈ new, ∃ s, y.1 = name ++ s
  once : new.Pairwise fun a b => a.1 ≠ b.1
section
variable {xs : List Int}
theorem visK_all {rec : List Int → Int → Nat × Out → Int × (Nat × Out)} (name : List Int)
    (IH : ∀ nm pl m out m' out', rec nm pl (m, out) = (0, (m', out')) → ∃ new, Adds nm out out' new) :
    ∀ (l : List Kid), KidsOk l → ∀ m out m' out', visK rec name l 0 (m, out) = (0, (m', out')) → ∃ new, Adds name out out' new ∧ (∀ y ∈ new, ∃ k ∈ l, ∃ s, y.1 = name ++ (k.1 ++ s)) ∧
      ∀ rest : List Int, (l.find? (fun k => pfx k.1 rest) = none ∧ Named (name ++ rest) new = none) ∨
        ∃ k, l.find? (fun k => pfx k.1 rest) = some k ∧ ∃ mi oi mi' oi' ni, rec (name ++ k.1) k.2 (mi, oi) = (0, (mi', oi')) ∧ Adds (name ++ k.1) oi oi' ni ∧ Named (name ++ rest) new = Named (name ++ rest) ni := by
  intro l
  induction l with
  | nil =>
    intro _ m out m' out' h
    simp only [visK, Prod.mk.injEq, true_and] at h
    exact ⟨[], ⟨(by rw [List.append_nil]; exact h.2.symm), fun y hy => (by cases hy), List.Pairwise.nil⟩, fun y hy => (by cases hy), fun rest => .inl ⟨rfl, rfl⟩⟩
  | cons x l ih =>
    intro hk m out m' out' h
    obtain ⟨⟨m1, o1⟩, h1, h2⟩ := visK_cons h
    obtain ⟨n1, A1⟩ := IH _ _ _ _ _ _ h1
    have hx := hk.each x (List.mem_cons_self ..)
    have hp := List.pairwise_cons.1 hk.apart
    obtain ⟨n2, A2, P2, F2⟩ := ih ⟨fun k hk' => hk.each k (List.mem_cons_of_mem _ hk'), hp.2⟩ _ _ _ _ h2
    have hmem1 : ∀ y ∈ n1, ∃ s, y.1 = name ++ (x.1 ++ s) := fun y hy => by
      obtain ⟨s, e⟩ := A1.pre y hy
      exact ⟨s, by rw [e, List.append_assoc]⟩
    refine ⟨n1 ++ n2, ⟨by rw [A2.eq, A1.eq, List.append_assoc], ?_, ?_⟩, ?_, ?_⟩
    · intro y hy
      rcases List.mem_append.1 hy with hy | hy
      · obtain ⟨s, e⟩ := hmem1 y hy; exact ⟨_, e⟩
      · exact A2.pre y hy
    · rw [List.pairwise_append]
      refine ⟨A1.once, A2.once, fun a ha b hb e => ?_⟩
      obtain ⟨s, e1⟩ := hmem1 a ha
      obtain ⟨k, hkl, s', e2⟩ := P2 b hb
      rw [e1, e2] at e
      have := List.append_cancel_left e
      exact hp.1 k hkl (first_eq this hx.ne (hk.each k (List.mem_cons_of_mem _ hkl)).ne)
    · intro y hy
      rcases List.mem_append.1 hy with hy | hy
      · obtain ⟨s, e⟩ := hmem1 y hy
        exact ⟨x, List.mem_cons_self .., s, e⟩
      · obtain ⟨k, hkl, s', e2⟩ := P2 y hy
        exact ⟨k, List.mem_cons_of_mem _ hkl, s', e2⟩
    · intro rest
      by_cases hpx : pfx x.1 rest = true
      · refine .inr ⟨x, List.find?_cons_of_pos (p := fun k : Kid => pfx k.1 rest) hpx, m, out, m1, o1, n1, h1, A1, ?_⟩
        refine named_front _ _ _ fun y hy e => ?_
        obtain ⟨k, hkl, s', e2⟩ := P2 y hy
        rw [e2] at e
        have e3 := List.append_cancel_left e
        obtain ⟨s, e4⟩ := pfx_iff.1 hpx
        rw [e4] at e3
        exact hp.1 k hkl (first_eq e3 (hk.each k (List.mem_cons_of_mem _ hkl)).ne hx.ne).symm
      · have hn : Named (name ++ rest) (n1 ++ n2) = Named (name ++ rest) n2 := by
          refine named_app _ _ _ fun y hy e => ?_
          obtain ⟨s, e1⟩ := hmem1 y hy
          rw [e1] at e
          exact hpx (pfx_iff.2 ⟨s, (List.append_cancel_left e).symm⟩)
        rw [hn, List.find?_cons_of_neg (p := fun k : Kid => pfx k.1 rest) hpx]
        exact F2 rest

theorem outN_adds (out : Out) (name : List Int) (nd : Nd) : ∃ own, outN out name nd = out ++ own ∧ (own = [] ∧ nd.ex = none ∨ ∃ x, own = [(name, x)] ∧ nd.ex = some x) := by
  unfold outN
  cases nd.ex with
  | none => exact ⟨[], by simp, .inl ⟨rfl, rfl⟩⟩
  | some x => exact ⟨[(name, x)], rfl, .inr ⟨x, rfl, rfl⟩⟩
/-- A walk that comes to its end adds each name once; and a name that is looked for from there is found by what was added. -/
theorem vis_all (hb : Byt xs) : ∀ (k : Nat) (way name : List Int) (pl : Int) (m : Nat) (out : Out) (m' : Nat) (out' : Out), vis xs mtAll k way name pl (m, out) = (0, (m', out')) →
    ∃ new, Adds name out out' new ∧ ∀ (rest : List Int) (j : Nat), (name ++ rest).length ≤ 255 → j ≤ name.length → ∃ j', vis xs (mtFind (name ++ rest)) k way name pl (j, none) = (0, (j', (Named (name ++ rest) new).map (·.2))) := by
  intro k
  induction k with
  | zero => intro way name pl m out m' out' h; simp [vis] at h
  | succ k ih =>
    intro way name pl m out m' out' h
    unfold vis at h
    split at h
    · simp at h
    rename_i c1
    split at h
    · simp at h
    rename_i c2
    split at h
    · simp at h
    rename_i c3
    cases hnd : ndAt xs pl with
    | none => rw [hnd] at h; simp at h
    | some nd =>
      rw [hnd] at h
      have hok := ndAt_ok hb hnd
      simp only [] at h
      by_cases c4 : 4096 < (outN out name nd).length
      · have e : mtAll out name nd = (outN out name nd, [], 11) := if_pos c4
        rw [e] at h
        simp [visK] at h
      have em : mtAll out name nd = (outN out name nd, nd.kids, 0) := if_neg c4
      rw [em] at h
      simp only [] at h
      obtain ⟨own, eo, ho⟩ := outN_adds out name nd
      obtain ⟨n2, A2, P2, F2⟩ := visK_all (rec := vis xs mtAll k (way ++ [pl])) name (fun nm p m out m' out' h => (ih (way ++ [pl]) nm p m out m' out' h).imp fun _ h => h.1) nd.kids hok.kids _ _ _ _ h
      have hne : ∀ y ∈ n2, ∃ z s, y.1 = name ++ (z :: s) := fun y hy => by
        obtain ⟨k, hk, s, e⟩ := P2 y hy
        have hk' := (hok.kids.each k hk).ne
        cases hk1 : k.1 with
        | nil => exact absurd hk1 hk'
        | cons z e' => exact ⟨z, e' ++ s, by rw [e, hk1]; rfl⟩
      refine ⟨own ++ n2, ⟨by rw [A2.eq, eo, List.append_assoc], ?_, ?_⟩, ?_⟩
      · intro y hy
        rcases List.mem_append.1 hy with hy | hy
        · rcases ho with ⟨rfl, _⟩ | ⟨x, rfl, _⟩
          · cases hy
          · rw [List.mem_singleton.1 hy]; exact ⟨[], by simp⟩
        · exact A2.pre y hy
      · rw [List.pairwise_append]
        refine ⟨?_, A2.once, fun a ha b hb2 e => ?_⟩
        · rcases ho with ⟨rfl, _⟩ | ⟨x, rfl, _⟩
          · exact List.Pairwise.nil
          · exact List.pairwise_singleton _ _
        · rcases ho with ⟨rfl, _⟩ | ⟨x, rfl, _⟩
          · cases ha
          · rw [List.mem_singleton.1 ha] at e
            obtain ⟨z, s, e2⟩ := hne b hb2
            rw [e2] at e
            simp at e
      · intro rest j hl hj
        have hlen : name.length + rest.length ≤ 255 := by rwa [List.length_append] at hl
        have hd : (name ++ rest).drop name.length = rest := by simp
        have hstep : vis xs (mtFind (name ++ rest)) (k + 1) way name pl (j, none) = visK (vis xs (mtFind (name ++ rest)) k (way ++ [pl])) name (mtFind (name ++ rest) none name nd).2.1 (mtFind (name ++ rest) none name nd).2.2 (j + 1, (mtFind (name ++ rest) none name nd).1) := by
          conv => lhs; unfold vis
          rw [if_neg c1, if_neg c2, if_neg (by simp only []; omega), hnd]
        rw [hstep]
        by_cases hr : rest = []
        · have e : mtFind (name ++ rest) none name nd = (nd.ex, [], 0) := if_pos (hd.trans hr)
          rw [e]
          subst hr
          simp only [visK, List.append_nil]
          have e : Named name (own ++ n2) = Named name own := named_front _ _ _ fun y hy e => by
            obtain ⟨z, s, e2⟩ := hne y hy
            rw [e2] at e
            simp at e
          refine ⟨j + 1, ?_⟩
          rw [e]
          rcases ho with ⟨rfl, hx⟩ | ⟨x, rfl, hx⟩
          · rw [hx]; rfl
          · rw [hx]; simp [Named]
        · have ef : mtFind (name ++ rest) none name nd = (none, leadN nd.kids rest, 0) := by
            unfold mtFind
            rw [hd, if_neg hr]
          rw [ef]
          have e : Named (name ++ rest) (own ++ n2) = Named (name ++ rest) n2 := named_app _ _ _ fun y hy e => by
            rcases ho with ⟨rfl, _⟩ | ⟨x, rfl, _⟩
            · cases hy
            · rw [List.mem_singleton.1 hy] at e
              exact hr (by simpa using e.symm)
          rw [e]
          simp only []
          unfold leadN
          rcases F2 rest with ⟨f1, f2⟩ | ⟨kd, f1, mi, oi, mi', oi', ni, f3, f4, f5⟩
          · rw [f1, f2]
            exact ⟨j + 1, rfl⟩
          · rw [f1, f5]
            simp only [visK]
            obtain ⟨s, hs⟩ := pfx_iff.1 (List.find?_some (p := fun k : Kid => pfx k.1 rest) f1)
            have hkd := hok.kids.each kd (List.mem_of_find?_eq_some f1)
            obtain ⟨ni', A', G'⟩ := ih (way ++ [pl]) (name ++ kd.1) kd.2 mi oi mi' oi' f3
            have en : ni' = ni := by
              have := A'.eq.symm.trans f4.eq
              exact List.append_cancel_left this
            subst en
            have hk1 : 1 ≤ kd.1.length := by
              cases hk : kd.1 with
              | nil => exact absurd hk hkd.ne
              | cons z e' => simp
            have hname : name ++ rest = (name ++ kd.1) ++ s := by rw [hs, List.append_assoc]
            obtain ⟨j', hj'⟩ := G' s (j + 1) (by rw [← hname]; exact hl) (by rw [List.length_append]; omega)
            rw [← hname] at hj'
            exact ⟨j', by rw [hj']; rfl⟩
end
end Go.Proofs.Ytblfighfahffkaa
