/- A table and strings, as lists: entries and names of symbols, one behind the other; that they are told as they were made. No condition. -/
import Derived.Test.YtlmgkofbjcahaaaNlPt
import Derived.Test.YtlmgkofbjcahaaaNlY
namespace Go.Proofs.Ytlmgkofbjcahaaa
open Go.RowKit

def nmB (l : Syms) : List Int := 0 :: l.flatMap fun y => y.1 ++ [0]
def tabS (l : Syms) : Nat → List Int
  | 0 => []
  | k + 1 => tabS l k ++ entS ((nmB (l.take k)).length : Int) (l.getD k ([], Sy.zero)).2
theorem tabS_len (l : Syms) (k : Nat) : (tabS l k).length = 16 * k := by
  induction k with
  | zero => rfl
  | succ k ih => rw [tabS, List.length_append, ih, entS_len]; omega
theorem tabS_byt (l : Syms) (k : Nat) : Byt (tabS l k) := by
  induction k with
  | zero => intro x hx; cases hx
  | succ k ih => exact ih.app (entS_byt _ _)
theorem nmB_take {l : Syms} {k : Nat} {y : Sym} (h : l[k]? = some y) : nmB (l.take (k + 1)) = nmB (l.take k) ++ (y.1 ++ [0]) := by
  obtain ⟨hk, rfl⟩ := List.getElem?_eq_some_iff.1 h
  unfold nmB
  rw [List.take_succ_eq_append_getElem hk, List.flatMap_append, List.flatMap_singleton, List.cons_append]
theorem tabS_take {l : Syms} {k : Nat} {y : Sym} (h : l[k]? = some y) : tabS l (k + 1) = tabS l k ++ entS ((nmB (l.take k)).length : Int) y.2 := by
  rw [tabS, List.getD_eq_getElem?_getD, h]
  rfl
theorem nmB_byt {l : Syms} (h : ∀ y ∈ l, Byt y.1) : Byt (nmB l) := by
  intro x hx
  rcases List.mem_cons.1 hx with rfl | hx
  · omega
  · obtain ⟨y, hy, hx⟩ := List.mem_flatMap.1 hx
    rcases List.mem_append.1 hx with hx | hx
    · exact h y hy x hx
    · rw [List.mem_singleton] at hx; omega
theorem nmB_len_le {l : Syms} (h : ∀ y ∈ l, y.1.length ≤ 255) : (nmB l).length ≤ 1 + 256 * l.length := by
  induction l with
  | nil => simp [nmB]
  | cons y l ih =>
    have h1 := h y (List.mem_cons_self ..)
    have h2 := ih (fun z hz => h z (List.mem_cons_of_mem _ hz))
    unfold nmB at h2 ⊢
    rw [List.flatMap_cons]
    simp only [List.length_cons, List.length_append, List.length_nil] at h2 ⊢
    omega
theorem nmB_pos (l : Syms) : 1 ≤ (nmB l).length := by simp [nmB]
theorem nmB_split {l : Syms} {k : Nat} {y : Sym} (h : l[k]? = some y) : ∃ r, nmB l = nmB (l.take k) ++ (y.1 ++ 0 :: r) := by
  obtain ⟨hk, rfl⟩ := List.getElem?_eq_some_iff.1 h
  refine ⟨(l.drop (k + 1)).flatMap fun y => y.1 ++ [0], ?_⟩
  unfold nmB
  conv => lhs; rw [← List.take_append_drop k l, List.drop_eq_getElem_cons hk]
  rw [List.flatMap_append, List.flatMap_cons, List.cons_append]
  simp
theorem pre_none : ∀ {t : List Int} (r : List Int), (0 : Int) ∉ t → pre (t ++ 0 :: r) = t
  | [], r, _ => by simp [pre]
  | x :: t, r, h => by
    have h1 : ¬ x = 0 := fun e => h (by rw [e]; exact List.mem_cons_self ..)
    rw [List.cons_append, pre, if_neg h1, pre_none r (fun h2 => h (List.mem_cons_of_mem _ h2))]
theorem ent_at (l : Syms) {n k : Nat} (h : k < n) : entAt (tabS l n) k = entS ((nmB (l.take k)).length : Int) (l.getD k ([], Sy.zero)).2 := by
  induction n with
  | zero => omega
  | succ n ih =>
    unfold entAt at ih ⊢
    rw [tabS]
    rcases Nat.lt_or_ge k n with h1 | h1
    · rw [← ih h1, List.drop_append_of_le_length (by rw [tabS_len]; omega), List.take_append_of_le_length (by rw [List.length_drop, tabS_len]; omega)]
    · obtain rfl : k = n := by omega
      rw [List.drop_append_of_le_length (by rw [tabS_len]; omega), List.drop_eq_nil_of_le (by rw [tabS_len]; omega), List.nil_append, List.take_of_length_le (by rw [entS_len]; omega)]
theorem mayS_is {nm : List Int} {x : Sy} (h : mayS nm x = true) : nm ≠ [] ∧ nm.length ≤ 255 ∧ (0 : Int) ∉ nm ∧ 0 ≤ x.sec ∧ x.sec ≤ 255 := by
  unfold mayS at h
  simp only [Bool.and_eq_true, Bool.not_eq_true', decide_eq_false_iff_not, decide_eq_true_eq] at h
  exact ⟨h.1.1.1.1, h.1.1.1.2, h.1.1.2, h.1.2, h.2⟩
theorem ent_reads (p : Int) (x : Sy) (hp : 0 ≤ p ∧ p < 4294967296) (hx : 0 ≤ x.sec ∧ x.sec ≤ 255) (hv : 0 ≤ x.value ∧ x.value < 18446744073709551616) :
    nlPlace (entS p x) = p ∧ nlKind (entS p x) = kindS x ∧ nlSec (entS p x) = x.sec ∧ nlDesc (entS p x) = descS x ∧ nlVal (entS p x) = x.value := by
  have e : entS p x = [p % 256, p / 256 % 256, p / 256 / 256 % 256, p / 256 / 256 / 256 % 256, kindS x % 256, x.sec % 256, descS x % 256, descS x / 256 % 256] ++ lowB 8 x.value := rfl
  have hk : kindS x % 256 = kindS x := by unfold kindS; split <;> rfl
  have hd : 0 ≤ descS x ∧ descS x < 256 ^ 2 := by unfold descS; split <;> decide
  refine ⟨?_, ?_, ?_, ?_, ?_⟩
  · exact lowB_le 4 p hp.1 (by simpa using hp.2)
  · rw [← hk]; rfl
  · show x.sec % 256 = x.sec
    omega
  · exact lowB_le 2 (descS x) hd.1 hd.2
  · exact lowB_le 8 x.value hv.1 (by simpa using hv.2)
/-- What stands in an entry that was made of a name that is there. -/
theorem made_parts {l : Syms} {k : Nat} {n : Int} {y : Sym} (hy : l[k]? = some y) {x : Sy} (hm : mayS y.1 x = true) (hn : x.sec ≤ n) (hv : 0 ≤ x.value ∧ x.value < 18446744073709551616) (hp : (nmB (l.take k)).length < 4294967296) :
    nlTold (entS ((nmB (l.take k)).length : Int) x) = true ∧ nlErr (nmB l) n (entS ((nmB (l.take k)).length : Int) x) = 0 ∧ nlNm (nmB l) (entS ((nmB (l.take k)).length : Int) x) = y.1 ∧ nlSy (entS ((nmB (l.take k)).length : Int) x) = x := by
  obtain ⟨m1, m2, m3, m4, m5⟩ := mayS_is hm
  obtain ⟨r1, r2, r3, r4, r5⟩ := ent_reads ((nmB (l.take k)).length : Int) x (by omega) ⟨m4, m5⟩ hv
  obtain ⟨r, hr⟩ := nmB_split hy
  have hdr : (nmB l).drop (nmB (l.take k)).length = y.1 ++ 0 :: r := by rw [hr, List.drop_left]
  have hN : nlNm (nmB l) (entS ((nmB (l.take k)).length : Int) x) = y.1 := by
    unfold nlNm
    rw [r1, Int.toNat_natCast, hdr, pre_none r m3]
  refine ⟨?_, ?_, hN, ?_⟩
  · unfold nlTold
    rw [r2]
    unfold kindS
    split <;> simp
  · unfold nlErr
    rw [hN, r1, r2, r3, Int.toNat_natCast, hdr]
    have a1 : ¬ (kindS x = 15 ∧ (x.sec = 0 ∨ n < x.sec)) := by
      unfold kindS
      rintro ⟨h1, h2⟩
      split at h1
      · cases h1
      · rename_i h3
        rcases h2 with h2 | h2
        · exact h3 h2
        · omega
    have a2 : ¬ (((nmB l).length : Int) ≤ ((nmB (l.take k)).length : Int)) := by
      have := congrArg List.length hr
      rw [List.length_append, List.length_append, List.length_cons] at this
      omega
    have a3 : ¬ (y.1 = [] ∨ (y.1 ++ 0 :: r).length ≤ y.1.length) := by
      rintro (h | h)
      · exact m1 h
      · rw [List.length_append, List.length_cons] at h; omega
    rw [if_neg a1, if_neg a2, if_neg a3, if_neg (by omega)]
  · unfold nlSy
    rw [r2, r3, r4, r5]
    obtain ⟨sec, value, weak⟩ := x
    simp only [kindS, descS]
    congr 1
    · by_cases h : sec = 0 <;> simp [h]
    · cases weak <;> rfl
theorem made_new {l : Syms} {k : Nat} {y : Sym} (hy : l[k]? = some y) (hd : l.Pairwise fun a b => a.1 ≠ b.1) : ¬ nlHas (l.take k) y.1 = true := by
  obtain ⟨hk, hyk⟩ := List.getElem?_eq_some_iff.1 hy
  intro h
  obtain ⟨z, hz, e⟩ := nlHas_mem.1 h
  obtain ⟨i, hi, rfl⟩ := List.getElem_of_mem hz
  rw [List.length_take] at hi
  rw [List.getElem_take] at e
  have := List.pairwise_iff_getElem.1 hd i k (by omega) hk (by omega)
  rw [hyk] at this
  exact this e
/-- One entry that was made, read behind those ahead of it. -/
theorem made_next {l : Syms} {k : Nat} {n : Int} {y : Sym} (hy : l[k]? = some y) (hm : mayS y.1 y.2 = true) (hn : y.2.sec ≤ n) (hv : 0 ≤ y.2.value ∧ y.2.value < 18446744073709551616) (hf : k < 4096) (hd : l.Pairwise fun a b => a.1 ≠ b.1) (hp : (nmB (l.take k)).length < 4294967296) :
    nlE (nmB l) n (l.take k) (entS ((nmB (l.take k)).length : Int) y.2) = 0 ∧ nlD (nmB l) (l.take k) (entS ((nmB (l.take k)).length : Int) y.2) = l.take (k + 1) := by
  obtain ⟨hT, hE, hN, hS⟩ := made_parts hy hm hn hv hp
  obtain ⟨hk, hyk⟩ := List.getElem?_eq_some_iff.1 hy
  have hA : nlAdd (nmB l) n (l.take k) (entS ((nmB (l.take k)).length : Int) y.2) = 0 := by
    unfold nlAdd
    rw [hE, hN, if_neg (by decide), if_neg (made_new hy hd), if_neg (by rw [List.length_take]; omega)]
  unfold nlE nlD
  rw [hT, if_pos rfl, if_pos rfl, hA]
  refine ⟨rfl, ?_⟩
  unfold nlNew
  rw [hN, hS, List.take_succ_eq_append_getElem hk, hyk]
/-- What was made is told as it was made. -/
theorem made_all {l : Syms} (hm : ∀ y ∈ l, mayS y.1 y.2 = true) (hv : ∀ y ∈ l, 0 ≤ y.2.value ∧ y.2.value < 18446744073709551616) (hf : l.length ≤ 4096) (hd : l.Pairwise fun a b => a.1 ≠ b.1) : nlAll (tabS l l.length) (nmB l) 255 = (0, l) := by
  have hL := tabS_len l l.length
  have hN := nmB_len_le (l := l) (fun y hy => (mayS_is (hm y hy)).2.1)
  have key : ∀ j k, k + j = l.length → nlRun (nmB l) 255 ((ents (tabS l l.length)).drop k) (l.take k) = (0, l) := by
    intro j
    induction j with
    | zero =>
      intro k hk
      have : (ents (tabS l l.length)).drop k = [] := by
        refine List.drop_eq_nil_of_le ?_
        rw [ents_len, hL]
        omega
      rw [this, nlRun, List.take_of_length_le (by omega)]
    | succ j ih =>
      intro k hk
      have hlt : k < l.length := by omega
      rw [ents_at _ (by rw [hL]; omega), nlRun_cons, ent_at l hlt]
      have hy : l[k]? = some l[k] := List.getElem?_eq_getElem hlt
      have hg : l.getD k ([], Sy.zero) = l[k] := by rw [List.getD_eq_getElem?_getD, hy]; rfl
      have hp := nmB_len_le (l := l.take k) (fun y hy => (mayS_is (hm y (List.mem_of_mem_take hy))).2.1)
      rw [List.length_take] at hp
      obtain ⟨e1, e2⟩ := made_next (n := 255) hy (hm _ (List.getElem_mem hlt)) (mayS_is (hm _ (List.getElem_mem hlt))).2.2.2.2 (hv _ (List.getElem_mem hlt)) (by omega) hd (by omega)
      rw [hg, e1, if_pos rfl, e2]
      exact ih (k + 1) (by omega)
  have := key l.length 0 (by omega)
  rw [List.drop_zero, List.take_zero] at this
  unfold nlAll
  rw [if_pos (by rw [hL]; omega)]
  exact this
end Go.Proofs.Ytlmgkofbjcahaaa
