/- Names of a table, as lists: entries, what is told of them, and in which order; no program. No condition. -/
import Derived.Test.YtlmgkofbjcahaaaNam
namespace Go.Proofs.Ytlmgkofbjcahaaa
open Go.RowKit

/-- A symbol but for its name. -/
structure Sy where
  sec : Int
  value : Int
  weak : Bool
def Sy.zero : Sy := ⟨0, 0, false⟩
abbrev Sym := List Int × Sy
abbrev Syms := List Sym

def nlPlace (e : List Int) : Int := leN (e.take 4)
def nlKind (e : List Int) : Int := e.getD 4 0
def nlSec (e : List Int) : Int := e.getD 5 0
def nlDesc (e : List Int) : Int := leN ((e.drop 6).take 2)
def nlVal (e : List Int) : Int := leN ((e.drop 8).take 8)
/-- Is a name told of an entry? -/
def nlTold (e : List Int) : Bool := decide (nlKind e = 15) || decide (nlKind e = 3)
def nlSy (e : List Int) : Sy := ⟨if nlKind e = 15 then nlSec e else 0, nlVal e, decide (nlDesc e / 128 % 2 = 1)⟩
def nlNm (ys e : List Int) : List Int := pre (ys.drop (nlPlace e).toNat)
/-- An entry's own error. -/
def nlErr (ys : List Int) (n : Int) (e : List Int) : Int :=
  if nlKind e = 15 ∧ (nlSec e = 0 ∨ n < nlSec e) then 13
  else if (ys.length : Int) ≤ nlPlace e then 13
  else if nlNm ys e = [] ∨ (ys.drop (nlPlace e).toNat).length ≤ (nlNm ys e).length then 13
  else if 255 < (nlNm ys e).length then 10 else 0
def nlHas (D : Syms) (t : List Int) : Bool := D.any fun y => decide (y.1 = t)
/-- Its error behind others. -/
def nlAdd (ys : List Int) (n : Int) (D : Syms) (e : List Int) : Int :=
  if nlErr ys n e ≠ 0 then nlErr ys n e else if nlHas D (nlNm ys e) = true then 21 else if D.length = 4096 then 11 else 0
def nlNew (ys e : List Int) : Sym := (nlNm ys e, nlSy e)
def nlRun (ys : List Int) (n : Int) : List (List Int) → Syms → Int × Syms
  | [], D => (0, D)
  | e :: r, D => if nlTold e then (if nlAdd ys n D e = 0 then nlRun ys n r (D ++ [nlNew ys e]) else (nlAdd ys n D e, [])) else nlRun ys n r D
def entAt (t : List Int) (i : Nat) : List Int := (t.drop (16 * i)).take 16
def ents (t : List Int) : List (List Int) := (List.range (t.length / 16)).map (entAt t)
/-- All of a table, and the error. -/
def nlAll (t ys : List Int) (n : Int) : Int × Syms := if t.length % 16 = 0 then nlRun ys n (ents t) [] else (13, [])

theorem ents_len (t : List Int) : (ents t).length = t.length / 16 := by simp [ents]
theorem ents_at (t : List Int) {k : Nat} (h : k < t.length / 16) : (ents t).drop k = entAt t k :: (ents t).drop (k + 1) := by
  rw [List.drop_eq_getElem_cons (by rw [ents_len]; exact h)]
  simp [ents]
theorem ents_end (t : List Int) : (ents t).drop (t.length / 16) = [] := List.drop_eq_nil_of_le (by rw [ents_len]; exact Nat.le_refl _)
theorem entAt_len {t : List Int} {k : Nat} (h : k < t.length / 16) : (entAt t k).length = 16 := by
  unfold entAt
  rw [List.length_take, List.length_drop]
  have := Nat.div_mul_le_self t.length 16
  omega
theorem entAt_byt {t : List Int} (h : Byt t) (k : Nat) : Byt (entAt t k) := (h.drop _).take _

/-- What is kept of all that were told so far. -/
structure SymsOk (D : Syms) : Prop where
  few : D.length ≤ 4096
  apart : D.Pairwise fun a b => a.1 ≠ b.1
  each : ∀ y ∈ D, Byt y.1 ∧ 0 < y.1.length ∧ y.1.length ≤ 255 ∧ (0 ≤ y.2.sec ∧ y.2.sec < 256) ∧ (0 ≤ y.2.value ∧ y.2.value < 18446744073709551616)
theorem SymsOk.nil : SymsOk [] := ⟨by simp, List.Pairwise.nil, fun y h => (by cases h)⟩
theorem nlAdd_0 {ys : List Int} {n : Int} {D : Syms} {e : List Int} (h : nlAdd ys n D e = 0) : nlErr ys n e = 0 ∧ nlHas D (nlNm ys e) = false ∧ D.length ≠ 4096 := by
  unfold nlAdd at h
  split at h
  · rename_i h1; exact absurd h h1
  · rename_i h1
    split at h
    · cases h
    · rename_i h2
      split at h
      · cases h
      · rename_i h3
        exact ⟨by omega, by simpa using h2, h3⟩
theorem nlErr_0 {ys : List Int} {n : Int} {e : List Int} (h : nlErr ys n e = 0) : ¬ (nlKind e = 15 ∧ (nlSec e = 0 ∨ n < nlSec e)) ∧ nlPlace e < ys.length ∧ nlNm ys e ≠ [] ∧ (nlNm ys e).length < (ys.drop (nlPlace e).toNat).length ∧ (nlNm ys e).length ≤ 255 := by
  unfold nlErr at h
  split at h
  · cases h
  · rename_i h1
    split at h
    · cases h
    · rename_i h2
      split at h
      · cases h
      · rename_i h3
        split at h
        · cases h
        · rename_i h4
          exact ⟨h1, by omega, fun e => h3 (.inl e), by have : ¬ _ := fun h => h3 (.inr h); omega, by omega⟩
theorem nlHas_mem {D : Syms} {t : List Int} : nlHas D t = true ↔ ∃ y ∈ D, y.1 = t := by
  unfold nlHas
  rw [List.any_eq_true]
  simp
theorem byt_at {e : List Int} (h : Byt e) (i : Nat) : 0 ≤ e.getD i 0 ∧ e.getD i 0 < 256 := by
  rw [List.getD_eq_getElem?_getD]
  rcases Nat.lt_or_ge i e.length with hi | hi
  · rw [List.getElem?_eq_getElem hi]; exact h _ (List.getElem_mem hi)
  · rw [List.getElem?_eq_none hi]; simp
theorem leN_lt {l : List Int} (h : Byt l) {k : Nat} (hk : l.length ≤ k) : 0 ≤ leN l ∧ leN l < 2 ^ (8 * k) := by
  have h1 := leN_bd l h
  refine ⟨h1.1, Int.lt_of_lt_of_le h1.2 ?_⟩
  have : (2 : Nat) ^ (8 * l.length) ≤ 2 ^ (8 * k) := Nat.pow_le_pow_right (by decide) (by omega)
  exact_mod_cast this
theorem nlPlace_bd {e : List Int} (h : Byt e) : 0 ≤ nlPlace e ∧ nlPlace e < 4294967296 := leN_lt (h.take 4) (k := 4) (by simp; omega)
theorem nlDesc_bd {e : List Int} (h : Byt e) : 0 ≤ nlDesc e ∧ nlDesc e < 65536 := leN_lt ((h.drop 6).take 2) (k := 2) (by simp; omega)
theorem nlVal_bd {e : List Int} (h : Byt e) : 0 ≤ nlVal e ∧ nlVal e < 18446744073709551616 := leN_lt ((h.drop 8).take 8) (k := 8) (by simp; omega)
theorem SymsOk.add {ys : List Int} {n : Int} {D : Syms} {e : List Int} (h : SymsOk D) (hy : Byt ys) (he : Byt e) (h0 : nlAdd ys n D e = 0) : SymsOk (D ++ [nlNew ys e]) := by
  obtain ⟨h1, h2, h3⟩ := nlAdd_0 h0
  obtain ⟨_, _, h4, _, h5⟩ := nlErr_0 h1
  refine ⟨?_, ?_, ?_⟩
  · rw [List.length_append, List.length_singleton]
    have := h.few
    omega
  · rw [List.pairwise_append]
    refine ⟨h.apart, List.pairwise_singleton _ _, fun a ha b hb => ?_⟩
    rw [List.mem_singleton] at hb
    subst hb
    intro e1
    have : nlHas D (nlNm ys e) = true := nlHas_mem.2 ⟨a, ha, e1⟩
    rw [h2] at this
    cases this
  · intro y hm
    rcases List.mem_append.1 hm with hm | hm
    · exact h.each y hm
    · rw [List.mem_singleton] at hm
      subst hm
      refine ⟨Byt.pre (hy.drop _), List.length_pos_iff.2 h4, h5, ?_, nlVal_bd he⟩
      unfold nlNew nlSy
      simp only []
      split
      · exact byt_at he 5
      · omega
/-- The tail of what is told. -/
theorem nlRun_ok {ys : List Int} {n : Int} (hy : Byt ys) : ∀ (l : List (List Int)) (D : Syms), (∀ e ∈ l, Byt e) → SymsOk D → SymsOk (nlRun ys n l D).2
  | [], D, _, h => h
  | e :: r, D, hl, h => by
    unfold nlRun
    split
    · split
      · rename_i h0
        exact nlRun_ok hy r _ (fun x hx => hl x (List.mem_cons_of_mem _ hx)) (h.add hy (hl e (List.mem_cons_self ..)) h0)
      · exact SymsOk.nil
    · exact nlRun_ok hy r _ (fun x hx => hl x (List.mem_cons_of_mem _ hx)) h
theorem nlAll_ok {t ys : List Int} {n : Int} (ht : Byt t) (hy : Byt ys) : SymsOk (nlAll t ys n).2 := by
  unfold nlAll
  split
  · refine nlRun_ok hy _ _ (fun e he => ?_) SymsOk.nil
    obtain ⟨i, _, rfl⟩ := List.mem_map.1 he
    exact entAt_byt ht i
  · exact SymsOk.nil
theorem nlRun_err {ys : List Int} {n : Int} : ∀ (l : List (List Int)) (D : Syms), (nlRun ys n l D).1 ≠ 0 → (nlRun ys n l D).2 = []
  | [], D, h => absurd rfl h
  | e :: r, D, h => by
    unfold nlRun at h ⊢
    split
    · rename_i h1
      rw [if_pos h1] at h
      split
      · rename_i h0
        rw [if_pos h0] at h
        exact nlRun_err r _ h
      · rfl
    · rename_i h1
      rw [if_neg h1] at h
      exact nlRun_err r _ h
theorem nlAll_err {t ys : List Int} {n : Int} (h : (nlAll t ys n).1 ≠ 0) : (nlAll t ys n).2 = [] := by
  unfold nlAll at h ⊢
  split
  · rename_i h1
    rw [if_pos h1] at h
    exact nlRun_err _ _ h
  · rfl
/-- One more entry. -/
def nlE (ys : List Int) (n : Int) (D : Syms) (e : List Int) : Int := if nlTold e then nlAdd ys n D e else 0
def nlD (ys : List Int) (D : Syms) (e : List Int) : Syms := if nlTold e then D ++ [nlNew ys e] else D
theorem nlRun_cons (ys : List Int) (n : Int) (e : List Int) (r : List (List Int)) (D : Syms) : nlRun ys n (e :: r) D = if nlE ys n D e = 0 then nlRun ys n r (nlD ys D e) else (nlE ys n D e, []) := by
  unfold nlE nlD
  rw [nlRun]
  by_cases h : nlTold e = true
  · rw [if_pos h, if_pos h, if_pos h]
  · rw [if_neg h, if_neg h, if_neg h, if_pos rfl]
theorem SymsOk.next {ys : List Int} {n : Int} {D : Syms} {e : List Int} (h : SymsOk D) (hy : Byt ys) (he : Byt e) (h0 : nlE ys n D e = 0) : SymsOk (nlD ys D e) := by
  unfold nlE at h0
  unfold nlD
  split
  · rename_i h1
    rw [if_pos h1] at h0
    exact h.add hy he h0
  · exact h
theorem one_at {e : List Int} {i : Nat} (h : i < e.length) : (e.drop i).take 1 = [e.getD i 0] := by
  rw [List.drop_eq_getElem_cons h, List.take_succ_cons, List.take_zero, List.getD_eq_getElem?_getD, List.getElem?_eq_getElem h]
  rfl
theorem le_one (x : Int) : leN [x] = x := by simp [leN]
/-- The bit of a weak one. -/
theorem nat_and128 (n : Nat) : n &&& 128 = n / 128 % 2 * 128 := by
  apply Nat.eq_of_testBit_eq
  intro i
  rw [Nat.testBit_and, show (128 : Nat) = 2 ^ 7 by decide, Nat.testBit_two_pow]
  rcases Nat.mod_two_eq_zero_or_one (n / 2 ^ 7) with h | h
  · rw [h, Nat.zero_mul, Nat.zero_testBit]
    by_cases hi : 7 = i
    · subst hi
      rw [Nat.testBit_eq_decide_div_mod_eq, h]; rfl
    · rw [decide_eq_false hi, Bool.and_false]
  · rw [h, Nat.one_mul, Nat.testBit_two_pow]
    by_cases hi : 7 = i
    · subst hi
      rw [Nat.testBit_eq_decide_div_mod_eq, h]; rfl
    · rw [decide_eq_false hi, Bool.and_false]
theorem and128 (F : Int) (h : 0 ≤ F ∧ F < 18446744073709551616) : bits .and .u64 F 128 = F / 128 % 2 * 128 := by
  obtain ⟨n, rfl⟩ := Int.eq_ofNat_of_zero_le h.1
  have e : ((n : Int) % ((2 ^ 64 : Nat) : Int)).toNat = n := by omega
  have key : (BitVec.ofInt 64 (n : Int) &&& BitVec.ofInt 64 128).toNat = n / 128 % 2 * 128 := by
    rw [BitVec.toNat_and, BitVec.toNat_ofInt, e, show (BitVec.ofInt 64 128).toNat = 128 by decide, nat_and128]
  show IntKind.u64.wrap ((BitVec.ofInt 64 (n : Int) &&& BitVec.ofInt 64 128).toNat : Nat) = _
  rw [key, IntKind.wrap_u64]
  omega
end Go.Proofs.Ytlmgkofbjcahaaa
