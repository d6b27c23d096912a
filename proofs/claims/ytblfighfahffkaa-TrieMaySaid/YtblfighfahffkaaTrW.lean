/- Walks over tries, as the document says them; no program. No condition. -/
import Derived.Test.YtblfighfahffkaaTrN
namespace Go.Proofs.Ytblfighfahffkaa
open Go.RowKit

theorem psB_some {α β : Type} {f : Ps α} {g : α → Ps β} {l : List Int} {u : β} {n : Nat} (h : psB f g l = some (u, n)) : ∃ v m m', f l = some (v, m) ∧ g v (l.drop m) = some (u, m') ∧ n = m + m' := by
  unfold psB at h
  cases h1 : f l with
  | none => rw [h1] at h; cases h
  | some a =>
    obtain ⟨v, m⟩ := a
    rw [h1] at h
    simp only [] at h
    cases h2 : g v (l.drop m) with
    | none => rw [h2] at h; cases h
    | some b =>
      obtain ⟨u', m'⟩ := b
      rw [h2] at h
      simp only [Option.some.injEq, Prod.mk.injEq] at h
      obtain ⟨rfl, rfl⟩ := h
      exact ⟨v, m, m', rfl, h2, rfl⟩
def Byt (l : List Int) : Prop := ∀ x ∈ l, 0 ≤ x ∧ x < 256
theorem Byt.drop {l : List Int} (h : Byt l) (n : Nat) : Byt (l.drop n) := fun x hx => h x (List.mem_of_mem_drop hx)
theorem Byt.take {l : List Int} (h : Byt l) (n : Nat) : Byt (l.take n) := fun x hx => h x (List.mem_of_mem_take hx)
theorem Byt.app {l m : List Int} (h : Byt l) (k : Byt m) : Byt (l ++ m) := fun x hx => (List.mem_append.1 hx).elim (h x) (k x)
theorem pre_mem {l : List Int} {x : Int} (h : x ∈ pre l) : x ∈ l := by rw [pre_take] at h; exact List.mem_of_mem_take h
theorem Byt.pre {l : List Int} (h : Byt l) : Byt (pre l) := fun x hx => h x (pre_mem hx)
/-- What children are. -/
structure KidOk (k : Kid) : Prop where
  ne : k.1 ≠ []
  len : k.1.length ≤ 255
  byt : Byt k.1
  lo : 0 ≤ k.2
  hi : k.2 < 18446744073709551616
structure KidsOk (l : List Kid) : Prop where
  each : ∀ k ∈ l, KidOk k
  apart : l.Pairwise fun a b => a.1.getD 0 0 ≠ b.1.getD 0 0
theorem KidsOk.nil : KidsOk [] := ⟨fun k h => (by cases h), List.Pairwise.nil⟩
theorem ul_bd {l : List Int} {v : Int} {n : Nat} (h : ulP l = some (v, n)) : 0 ≤ v ∧ v < 18446744073709551616 := by
  unfold ulP at h
  split at h
  · cases h
  · rename_i h0
    injection h with h
    obtain ⟨_, h2, h3⟩ := uleb_size h0
    rw [h] at h2
    simp only [] at h2
    have := valN_bd (l.take (szN 10 l))
    omega
theorem KidsOk.snoc {l : List Kid} (h : KidsOk l) {k : Kid} (hk : KidOk k) (hm : meets k.1 l = false) : KidsOk (l ++ [k]) := by
  refine ⟨fun x hx => ?_, ?_⟩
  · rcases List.mem_append.1 hx with hx | hx
    · exact h.each x hx
    · rw [List.mem_singleton.1 hx]; exact hk
  · rw [List.pairwise_append]
    refine ⟨h.apart, List.pairwise_singleton _ _, fun a ha b hb => ?_⟩
    rw [List.mem_singleton.1 hb]
    unfold meets at hm
    rw [List.any_eq_false] at hm
    have := hm a ha
    simpa using this
theorem kidsP_ok : ∀ (k : Nat) (acc : List Kid) (l : List Int) (r : List Kid) (n : Nat), Byt l → KidsOk acc → kidsP k acc l = some (r, n) → KidsOk r ∧ r.length = acc.length + k := by
  intro k
  induction k with
  | zero =>
    intro acc l r n _ ha h
    injection h with h; injection h with h1 h2; subst h1
    exact ⟨ha, rfl⟩
  | succ k ih =>
    intro acc l r n hb ha h
    obtain ⟨e, m, m', h1, h2, -⟩ := psB_some h
    obtain ⟨pl, j, j', h3, h4, -⟩ := psB_some h2
    split at h4
    · cases h4
    · rename_i hn
      rw [not_or] at hn
      have he : Byt e ∧ e.length ≤ 255 := by
        unfold txP at h1
        split at h1
        · rename_i h0
          injection h1 with h1; injection h1 with h1 _; subst h1
          exact ⟨hb.pre, h0.2⟩
        · cases h1
      have hp := ul_bd h3
      have := ih (acc ++ [(e, pl)]) _ r j' ((hb.drop m).drop j) (ha.snoc ⟨hn.1, he.2, he.1, hp.1, hp.2⟩ (by simpa using hn.2)) h4
      refine ⟨this.1, ?_⟩
      rw [this.2, List.length_append, List.length_singleton]
      omega
structure NdOk (nd : Nd) : Prop where
  kids : KidsOk nd.kids
  few : nd.kids.length ≤ 255
theorem ndAt_some {xs : List Int} {p : Int} {nd : Nd} (h : ndAt xs p = some nd) : 0 ≤ p ∧ p < xs.length ∧ ∃ n, nodeP (xs.drop p.toNat) = some (nd, n) := by
  unfold ndAt at h
  split at h
  · rename_i h0
    cases h1 : nodeP (xs.drop p.toNat) with
    | none => rw [h1] at h; cases h
    | some a =>
      obtain ⟨v, n⟩ := a
      rw [h1] at h
      simp only [Option.map_some, Option.some.injEq] at h
      subst h
      exact ⟨h0.1, h0.2, n, rfl⟩
  · cases h
theorem ndAt_ok {xs : List Int} (hb : Byt xs) {p : Int} {nd : Nd} (h : ndAt xs p = some nd) : NdOk nd := by
  obtain ⟨_, _, n, h1⟩ := ndAt_some h
  obtain ⟨a, m1, m1', _, h2, -⟩ := psB_some h1
  obtain ⟨x, m2, m2', _, h3, -⟩ := psB_some h2
  obtain ⟨m, m3, m3', h4, h5, -⟩ := psB_some h3
  obtain ⟨r, m4, m4', h6, h7, -⟩ := psB_some h5
  injection h7 with h7; injection h7 with h7 _
  have h8 := kidsP_ok _ _ _ _ _ ((((hb.drop _).drop _).drop _).drop _) KidsOk.nil h6
  have hm : 0 ≤ m ∧ m < 256 := by
    have hb2 := (((hb.drop p.toNat).drop m1).drop m2)
    cases hl : ((xs.drop p.toNat).drop m1).drop m2 with
    | nil => rw [hl] at h4; cases h4
    | cons y l =>
      rw [hl] at h4 hb2
      injection h4 with h4; injection h4 with h4 _; subst h4
      exact hb2 _ (List.mem_cons_self ..)
  subst h7
  exact ⟨h8.1, by rw [h8.2]; simp; omega⟩

/-! The walk. What is met is told a state; it tells which children the walk goes on by, and an error. -/
abbrev Mt (S : Type) := S → List Int → Nd → S × List Kid × Int
section
variable {S : Type}
def visK (rec : List Int → Int → Nat × S → Int × (Nat × S)) (name : List Int) : List Kid → Int → Nat × S → Int × (Nat × S)
  | [], err, st => (err, st)
  | x :: l, _, st => if (rec (name ++ x.1) x.2 st).1 ≠ 0 then rec (name ++ x.1) x.2 st else visK rec name l 0 (rec (name ++ x.1) x.2 st).2
def vis (xs : List Int) (mt : Mt S) : Nat → List Int → List Int → Int → Nat × S → Int × (Nat × S)
  | 0, _, _, _, st => (10, (st.1 + 1, st.2))
  | k + 1, way, name, pl, st =>
    if 255 < name.length then (10, (st.1 + 1, st.2))
    else if pl ∈ way then (12, (st.1 + 1, st.2))
    else if 8192 < st.1 + 1 then (11, (st.1 + 1, st.2))
    else match ndAt xs pl with
      | none => (12, (st.1 + 1, st.2))
      | some nd => visK (vis xs mt k (way ++ [pl])) name (mt st.2 name nd).2.1 (mt st.2 name nd).2.2 (st.1 + 1, (mt st.2 name nd).1)
end
abbrev Out := List (List Int × Ex)
def outN (out : Out) (name : List Int) (nd : Nd) : Out := match nd.ex with
  | none => out
  | some x => out ++ [(name, x)]
def mtAll : Mt Out := fun out name nd => if 4096 < (outN out name nd).length then (outN out name nd, [], 11) else (outN out name nd, nd.kids, 0)
def pfx (e rest : List Int) : Bool := decide (e.length ≤ rest.length) && decide (rest.take e.length = e)
def leadN (l : List Kid) (rest : List Int) : List Kid := match l.find? (fun k => pfx k.1 rest) with
  | none => []
  | some k => [k]
def mtFind (t : List Int) : Mt (Option Ex) := fun own name nd => if t.drop name.length = [] then (nd.ex, [], 0) else (own, leadN nd.kids (t.drop name.length), 0)
/-- All: unsorted; an error. -/
def allN (xs : List Int) : Out × Int := if xs = [] then ([], 0) else if (vis xs mtAll 257 [] [] 0 (0, [])).1 ≠ 0 then ([], (vis xs mtAll 257 [] [] 0 (0, [])).1) else ((vis xs mtAll 257 [] [] 0 (0, [])).2.2, 0)
def findN (xs t : List Int) : Option Ex × Int := if 255 < t.length then (none, 10) else if xs = [] then (none, 0) else if (vis xs (mtFind t) 257 [] [] 0 (0, none)).1 ≠ 0 then (none, (vis xs (mtFind t) 257 [] [] 0 (0, none)).1) else ((vis xs (mtFind t) 257 [] [] 0 (0, none)).2.2, 0)

theorem pfx_iff {e r : List Int} : pfx e r = true ↔ ∃ s, r = e ++ s := by
  unfold pfx
  simp only [Bool.and_eq_true, decide_eq_true_eq]
  constructor
  · rintro ⟨_, h⟩
    refine ⟨r.drop e.length, ?_⟩
    have h2 := List.take_append_drop e.length r
    rw [h] at h2
    exact h2.symm
  · rintro ⟨s, rfl⟩
    simp
end Go.Proofs.Ytblfighfahffkaa
