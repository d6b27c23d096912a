/- Sets of fixups, in numbers: what one is, that there is one alone, and when two of one meet. No condition. -/
import Derived.Test.YtmffpnhdnaokhaaDoorFxN
namespace Go.Proofs.YtmffpnhdnaokhaaDoor

def LtF (a b : Fx) : Prop := ordN a b < 0
theorem ltF_trans {a b c : Fx} (h : LtF a b) (k : LtF b c) : LtF a c := by
  unfold LtF at *
  have t := held_ord.trans a b c (by omega) (by omega)
  rcases Int.lt_or_eq_of_le t with e | e
  · exact e
  · have := ord_0 e
    subst this
    have := held_ord.anti a b
    omega
theorem ltF_irr (a : Fx) : ¬ LtF a a := by unfold LtF; rw [ord_self]; omega
theorem ltF_tri {a b : Fx} (h : ¬ LtF a b) (k : ¬ LtF b a) : a = b := by
  unfold LtF at *
  have := held_ord.anti a b
  exact ord_0 (by omega)
theorem ltF_at {a b : Fx} (h : LtF a b) : a.at_ ≤ b.at_ := by
  unfold LtF ordN at h
  simp only [ordK, lookN, thn, cmpI] at h
  by_cases q : b.at_ < a.at_
  · rw [if_pos (by rw [if_neg (by omega), if_pos q]; decide), if_neg (by omega), if_pos q] at h
    omega
  · omega
/-- S is the set of l's. -/
structure IsSet (S l : List Fx) : Prop where
  up : S.Pairwise LtF
  mem : ∀ x, x ∈ S ↔ x ∈ l
theorem up_one : ∀ {S T : List Fx}, S.Pairwise LtF → T.Pairwise LtF → (∀ x, x ∈ S ↔ x ∈ T) → S = T
  | [], [], _, _, _ => rfl
  | [], y :: T, _, _, h => by have := (h y).2 (by simp); cases this
  | x :: S, [], _, _, h => by have := (h x).1 (by simp); cases this
  | x :: S, y :: T, hs, ht, h => by
    obtain ⟨s1, s2⟩ := List.pairwise_cons.1 hs
    obtain ⟨t1, t2⟩ := List.pairwise_cons.1 ht
    have e : x = y := by
      rcases List.mem_cons.1 ((h x).1 (by simp)) with e | e
      · exact e
      · rcases List.mem_cons.1 ((h y).2 (by simp)) with f | f
        · exact f.symm
        · exact absurd (ltF_trans (s1 y f) (t1 x e)) (ltF_irr x)
    subst e
    congr 1
    refine up_one s2 t2 fun z => ⟨fun hz => ?_, fun hz => ?_⟩
    · rcases List.mem_cons.1 ((h z).1 (List.mem_cons_of_mem _ hz)) with f | f
      · subst f; exact absurd (s1 z hz) (ltF_irr z)
      · exact f
    · rcases List.mem_cons.1 ((h z).2 (List.mem_cons_of_mem _ hz)) with f | f
      · subst f; exact absurd (t1 z hz) (ltF_irr z)
      · exact f
theorem IsSet.one {S T l : List Fx} (h : IsSet S l) (k : IsSet T l) : S = T := up_one h.up k.up fun x => (h.mem x).trans (k.mem x).symm
theorem IsSet.again {S T l : List Fx} (h : IsSet S l) (k : IsSet T S) : T = S := up_one k.up h.up fun x => k.mem x
theorem len_sub : ∀ (S l : List Fx), S.Pairwise (fun a b => a ≠ b) → (∀ x ∈ S, x ∈ l) → S.length ≤ l.length
  | [], l, _, _ => Nat.zero_le _
  | a :: S, l, hn, hs => by
    obtain ⟨h1, h2⟩ := List.pairwise_cons.1 hn
    have ha := hs a (by simp)
    have h3 := len_sub S (l.erase a) h2 (fun x hx => (List.mem_erase_of_ne (fun e => h1 x hx e.symm)).2 (hs x (List.mem_cons_of_mem _ hx)))
    rw [List.length_erase_of_mem ha] at h3
    have := List.length_pos_of_mem ha
    simp only [List.length_cons]
    omega
theorem IsSet.len {S l : List Fx} (h : IsSet S l) : S.length ≤ l.length :=
  len_sub S l (h.up.imp fun {a b} hab (e : a = b) => ltF_irr b (by rw [e] at hab; exact hab)) (fun x hx => (h.mem x).1 hx)

/-! Neighbours that are alike are put together. -/
def dedF : List Fx → List Fx
  | [] => []
  | [x] => [x]
  | x :: y :: l => if ordN y x = 0 then dedF (y :: l) else x :: dedF (y :: l)
theorem dedF_mem : ∀ (l : List Fx) (x : Fx), x ∈ dedF l ↔ x ∈ l
  | [], _ => Iff.rfl
  | [_], _ => Iff.rfl
  | a :: b :: l, x => by
    have ih := dedF_mem (b :: l) x
    unfold dedF
    split
    · rename_i h
      rw [ih]
      have := ord_0 h
      subst this
      simp
    · rw [List.mem_cons, ih, List.mem_cons (a := x) (b := a)]
theorem dedF_up : ∀ {l : List Fx}, l.Pairwise (fun a b => ordN a b ≤ 0) → (dedF l).Pairwise LtF
  | [], _ => List.Pairwise.nil
  | [_], _ => List.pairwise_singleton ..
  | a :: b :: l, h => by
    obtain ⟨h1, h2⟩ := List.pairwise_cons.1 h
    have ih := dedF_up h2
    unfold dedF
    split
    · exact ih
    · rename_i hn
      refine List.pairwise_cons.2 ⟨fun x hx => ?_, ih⟩
      have hx' := (dedF_mem (b :: l) x).1 hx
      have hab := h1 b (by simp)
      have anti := held_ord.anti a b
      have lab : LtF a b := by unfold LtF; omega
      rcases List.mem_cons.1 hx' with e | e
      · subst e; exact lab
      · have hbx := (List.pairwise_cons.1 h2).1 x e
        by_cases q : LtF b x
        · exact ltF_trans lab q
        · have : ordN b x = 0 := by unfold LtF at q; omega
          have := ord_0 this
          subst this
          exact lab
theorem set_ded {l R : List Fx} (hp : R.Perm l) (hr : R.Pairwise fun a b => ordN a b ≤ 0) : IsSet (dedF R) l := ⟨dedF_up hr, fun x => (dedF_mem R x).trans hp.mem_iff⟩

/-! Two of a set meet. -/
def near (a b : Fx) : Prop := a ≠ b ∧ (if a.at_ > b.at_ then a.at_ - b.at_ else b.at_ - a.at_) < 8
def MeetL (l : List Fx) : Prop := ∃ a b, a ∈ l ∧ b ∈ l ∧ near a b
theorem near_symm {a b : Fx} (h : near a b) : near b a := by
  refine ⟨h.1.symm, ?_⟩
  have := h.2
  split at this <;> split <;> omega
/-- One of its neighbours is near. -/
def MeetN (S : List Fx) : Prop := ∃ i a b, S[i]? = some a ∧ S[i + 1]? = some b ∧ b.at_ - a.at_ < 8
theorem meet_one {S l : List Fx} (h : IsSet S l) : MeetL l ↔ MeetN S := by
  have up := List.pairwise_iff_getElem.1 h.up
  constructor
  · rintro ⟨a, b, ha, hb, hn⟩
    obtain ⟨i, hi, rfl⟩ := List.getElem_of_mem ((h.mem a).2 ha)
    obtain ⟨j, hj, rfl⟩ := List.getElem_of_mem ((h.mem b).2 hb)
    have go : ∀ i j (hi : i < S.length) (hj : j < S.length), i < j → near S[i] S[j] → MeetN S := by
      intro i j hi hj hij hn
      refine ⟨i, S[i], S[i + 1]'(by omega), List.getElem?_eq_getElem hi, List.getElem?_eq_getElem _, ?_⟩
      have h1 := ltF_at (up i j hi hj hij)
      have h2 : (S[i + 1]'(by omega)).at_ ≤ S[j].at_ := by
        rcases Nat.lt_or_ge (i + 1) j with q | q
        · exact ltF_at (up (i + 1) j (by omega) hj q)
        · have : j = i + 1 := by omega
          subst this; exact Int.le_refl _
      have := hn.2
      split at this <;> omega
    rcases Nat.lt_trichotomy i j with q | q | q
    · exact go i j hi hj q hn
    · subst q; exact absurd rfl hn.1
    · exact go j i hj hi q (near_symm hn)
  · rintro ⟨i, a, b, ha, hb, hn⟩
    obtain ⟨hi, rfl⟩ := List.getElem?_eq_some_iff.1 ha
    obtain ⟨hj, rfl⟩ := List.getElem?_eq_some_iff.1 hb
    have l1 := up i (i + 1) hi hj (by omega)
    refine ⟨_, _, (h.mem _).1 (List.getElem_mem hi), (h.mem _).1 (List.getElem_mem hj), fun e => ltF_irr _ (e ▸ l1), ?_⟩
    have := ltF_at l1
    split <;> omega
end Go.Proofs.YtmffpnhdnaokhaaDoor
