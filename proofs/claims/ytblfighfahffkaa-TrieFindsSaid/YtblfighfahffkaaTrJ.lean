/- What looking for a name finds, where all names are told: no program. No condition. -/
import Derived.Test.YtblfighfahffkaaTrG
import Derived.Test.YtblfighfahffkaaTrH
namespace Go.Proofs.Ytblfighfahffkaa
open Go.RowKit
variable {xs : List Int}

/-- A name that is told: few bytes. -/
def Told (y : List Int × Ex) : Prop := Byt y.1 ∧ y.1.length ≤ 255
theorem visK_told {rec : List Int → Int → Nat × Out → Int × (Nat × Out)} (name : List Int) (hn : Byt name)
    (IH : ∀ nm pl m out m' out', Byt nm → rec nm pl (m, out) = (0, (m', out')) → (∀ y ∈ out, Told y) → ∀ y ∈ out', Told y) :
    ∀ (l : List Kid), (∀ k ∈ l, Byt k.1) → ∀ m out m' out', visK rec name l 0 (m, out) = (0, (m', out')) → (∀ y ∈ out, Told y) → ∀ y ∈ out', Told y := by
  intro l
  induction l with
  | nil =>
    intro _ m out m' out' h ho
    simp only [visK, Prod.mk.injEq, true_and] at h
    rw [← h.2]; exact ho
  | cons x l ih =>
    intro hk m out m' out' h ho
    obtain ⟨⟨m1, o1⟩, h1, h2⟩ := visK_cons h
    exact ih (fun k hk' => hk k (List.mem_cons_of_mem _ hk')) _ _ _ _ h2 (IH _ _ _ _ _ _ (hn.app (hk x (List.mem_cons_self ..))) h1 ho)
theorem vis_told (hb : Byt xs) : ∀ (k : Nat) (way name : List Int) (pl : Int) (m : Nat) (out : Out) (m' : Nat) (out' : Out), Byt name → vis xs mtAll k way name pl (m, out) = (0, (m', out')) → (∀ y ∈ out, Told y) → ∀ y ∈ out', Told y := by
  intro k
  induction k with
  | zero => intro way name pl m out m' out' _ h; simp [vis] at h
  | succ k ih =>
    intro way name pl m out m' out' hn h ho
    by_cases hl : 255 < name.length
    · have e : vis xs mtAll (k + 1) way name pl (m, out) = (10, (m + 1, out)) := by unfold vis; rw [if_pos hl]
      rw [e] at h; simp at h
    · rw [vis_go hl] at h
      split at h
      · simp at h
      split at h
      · simp at h
      cases hnd : ndAt xs pl with
      | none => rw [hnd] at h; simp at h
      | some nd =>
        rw [hnd] at h
        simp only [] at h
        have hok := ndAt_ok hb hnd
        have h1 : ∀ y ∈ outN out name nd, Told y := by
          intro y hy
          unfold outN at hy
          cases hx : nd.ex with
          | none => rw [hx] at hy; exact ho y hy
          | some x =>
            rw [hx] at hy
            rcases List.mem_append.1 hy with hy | hy
            · exact ho y hy
            · rw [List.mem_singleton.1 hy]; exact ⟨hn, by show name.length ≤ 255; omega⟩
        by_cases c4 : 4096 < (outN out name nd).length
        · have e : mtAll out name nd = (outN out name nd, [], 11) := if_pos c4
          rw [e] at h
          simp [visK] at h
        · have e : mtAll out name nd = (outN out name nd, nd.kids, 0) := if_neg c4
          rw [e] at h
          exact visK_told (rec := vis xs mtAll k (way ++ [pl])) name hn (fun nm p m o m' o' hb' h ho => ih _ nm p m o m' o' hb' h ho) nd.kids (fun k hk => (hok.kids.each k hk).byt) _ _ _ _ h h1
/-- Where all is told. -/
structure Whole (xs : List Int) (out : Out) : Prop where
  once : out.Pairwise fun a b => a.1 ≠ b.1
  told : ∀ y ∈ out, Told y
  find : ∀ t : List Int, t.length ≤ 255 → findW xs t = (0, (Named t out).map (·.2))
theorem whole_of (hb : Byt xs) {out : Out} (h : walkN xs mtAll [] = (0, out)) : Whole xs out := by
  unfold walkN at h
  by_cases hx : xs = []
  · rw [if_pos hx] at h
    injection h with _ h
    subst h
    refine ⟨List.Pairwise.nil, fun y hy => (by cases hy), fun t ht => ?_⟩
    unfold findW walkN
    rw [if_neg (by omega), if_pos hx]
    rfl
  · rw [if_neg hx] at h
    obtain ⟨⟨er, m', o'⟩, hr⟩ : ∃ r, r = vis xs mtAll 257 [] [] 0 (0, []) := ⟨_, rfl⟩
    rw [← hr] at h
    simp only [Prod.mk.injEq] at h
    obtain ⟨rfl, rfl⟩ := h
    obtain ⟨new, A, F⟩ := vis_all hb 257 [] [] 0 0 [] m' o' hr.symm
    have e : o' = new := by rw [A.eq]; rfl
    refine ⟨e ▸ A.once, vis_told hb 257 [] [] 0 0 [] m' o' (fun x hx => by cases hx) hr.symm (fun y hy => by cases hy), fun t ht => ?_⟩
    obtain ⟨j', hj⟩ := F t 0 (by simpa using ht) (Nat.le_refl _)
    unfold findW walkN
    rw [if_neg (by omega), if_neg hx]
    simp only [List.nil_append] at hj
    rw [hj, e]
theorem Whole.of_mem {out : Out} (h : Whole xs out) {y : List Int × Ex} (hy : y ∈ out) : findW xs y.1 = (0, some y.2) := by
  rw [h.find y.1 (h.told y hy).2]
  have e : Named y.1 out = some y := by
    unfold Named
    obtain ⟨i, hi, rfl⟩ := List.getElem_of_mem hy
    rw [List.find?_eq_some_iff_getElem]
    refine ⟨by simp, i, hi, rfl, fun j hj => ?_⟩
    have := (List.pairwise_iff_getElem.1 h.once) j i (by omega) hi hj
    simpa using this
  rw [e]; rfl
theorem Whole.there {out D : Out} (h : Whole xs out) (hp : D.Perm out) {t : List Int} (ht : t.length ≤ 255) : (findW xs t).1 = 0 ∧ (findW xs t).2.isSome = D.any (fun y => decide (y.1 = t)) := by
  rw [h.find t ht]
  refine ⟨rfl, ?_⟩
  have e : D.any (fun y => decide (y.1 = t)) = out.any (fun y => decide (y.1 = t)) := by
    rw [Bool.eq_iff_iff, List.any_eq_true, List.any_eq_true]
    exact ⟨fun ⟨y, hy, h⟩ => ⟨y, hp.mem_iff.1 hy, h⟩, fun ⟨y, hy, h⟩ => ⟨y, hp.mem_iff.2 hy, h⟩⟩
  rw [e]
  unfold Named
  simp only [Option.isSome_map]
  rw [Bool.eq_iff_iff, List.find?_isSome, List.any_eq_true]
end Go.Proofs.Ytblfighfahffkaa
