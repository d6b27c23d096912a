/- What the shortest bytes of a number are: no number's are another one's beginning, a greater one has no fewer, and they mean the number. Plain lists, no program. No condition. -/
import Derived.Test.YtfdbmdkjmifpaaaPuts
import Derived.Test.YtfdbmdkjmifpaaaStr
import Derived.Test.YtfdbmdkjmifpaaaArgs
namespace Go.Proofs.Ytfdbmdkjmifpaaa
open Go.RowKit

theorem encU_ne (n : Nat) : 0 < (encU n).length := by
  by_cases h : n < 128
  · rw [encU_small h]; simp
  · rw [encU_big h]; simp
theorem encS_ne (n : Int) : 0 < (encS n).length := by
  by_cases h : -64 ≤ n ∧ n < 64
  · rw [encS_small h]; simp
  · rw [encS_big h]; simp
theorem encU_range : ∀ k n : Nat, n < k → ∀ x ∈ encU n, 0 ≤ x ∧ x < 256 := by
  intro k
  induction k with
  | zero => intro n h; omega
  | succ k ih =>
    intro n hk x hx
    by_cases h : n < 128
    · rw [encU_small h] at hx
      have := List.mem_singleton.1 hx
      omega
    · rw [encU_big h] at hx
      rcases List.mem_cons.1 hx with e | e
      · omega
      · exact ih (n / 128) (by omega) x e
theorem encS_range : ∀ (k : Nat) (n : Int), n.natAbs < k → ∀ x ∈ encS n, 0 ≤ x ∧ x < 256 := by
  intro k
  induction k with
  | zero => intro n h; omega
  | succ k ih =>
    intro n hk x hx
    by_cases h : -64 ≤ n ∧ n < 64
    · rw [encS_small h] at hx
      have := List.mem_singleton.1 hx
      omega
    · rw [encS_big h] at hx
      rcases List.mem_cons.1 hx with e | e
      · omega
      · exact ih (n / 128) (by omega) x e
theorem encU_bytes (n : Nat) : ∀ x ∈ encU n, 0 ≤ x ∧ x < 256 := encU_range (n + 1) n (by omega)
theorem encS_bytes (n : Int) : ∀ x ∈ encS n, 0 ≤ x ∧ x < 256 := encS_range (n.natAbs + 1) n (by omega)
/-- No number's bytes are the beginning of another one's. -/
theorem encU_pre : ∀ k n m : Nat, n < k → (encU m).take (encU n).length = encU n → n = m := by
  intro k
  induction k with
  | zero => intro n m h; omega
  | succ k ih =>
    intro n m hk h
    by_cases hn : n < 128
    · by_cases hm : m < 128
      · rw [encU_small hn, encU_small hm] at h
        simp at h; omega
      · rw [encU_small hn, encU_big hm] at h
        simp at h; omega
    · by_cases hm : m < 128
      · rw [encU_big hn, encU_small hm] at h
        simp at h; omega
      · rw [encU_big hn, encU_big hm, List.length_cons, List.take_succ_cons] at h
        injection h with h1 h2
        have := ih (n / 128) (m / 128) (by omega) h2
        omega
theorem encU_mono : ∀ k n m : Nat, n < k → n ≤ m → (encU n).length ≤ (encU m).length := by
  intro k
  induction k with
  | zero => intro n m h; omega
  | succ k ih =>
    intro n m hk h
    by_cases hn : n < 128
    · rw [encU_small hn]; have := encU_ne m; simp; omega
    · rw [encU_big hn, encU_big (show ¬ m < 128 by omega)]
      have := ih (n / 128) (m / 128) (by omega) (by omega)
      simpa using this
theorem str_inj {xs ys : List Int} (hx : ∀ x ∈ xs, 0 ≤ x ∧ x < 256) (hy : ∀ x ∈ ys, 0 ≤ x ∧ x < 256) (h : strOfNums xs = strOfNums ys) : xs = ys := by
  have h1 : xs.map (fun n => UInt8.ofNat n.toNat) = ys.map (fun n => UInt8.ofNat n.toNat) := by
    rw [← strOfNums_data, ← strOfNums_data, h]
  clear h
  induction xs generalizing ys with
  | nil => cases ys with
    | nil => rfl
    | cons y ys => simp at h1
  | cons x xs ih => cases ys with
    | nil => simp at h1
    | cons y ys =>
      simp only [List.map_cons, List.cons.injEq] at h1
      have a := hx x (List.mem_cons_self ..)
      have b := hy y (List.mem_cons_self ..)
      have e : (UInt8.ofNat x.toNat).toNat = (UInt8.ofNat y.toNat).toNat := by rw [h1.1]
      simp only [UInt8.toNat_ofNat'] at e
      rw [ih (fun z hz => hx z (List.mem_cons_of_mem _ hz)) (fun z hz => hy z (List.mem_cons_of_mem _ hz)) h1.2, show x = y by omega]
theorem str_ne {xs ys : List Int} (hx : ∀ x ∈ xs, 0 ≤ x ∧ x < 256) (hy : ∀ x ∈ ys, 0 ≤ x ∧ x < 256) (h : ¬ xs = ys) : ((strOfNums xs).toList == (strOfNums ys).toList) = false := by
  rw [beq_eq_false_iff_ne]
  intro e
  rw [Lib.strOfNums_toList, Lib.strOfNums_toList] at e
  refine h (str_inj hx hy ?_)
  have e' : (strOfNums xs).data.toList = (strOfNums ys).data.toList := e
  cases hs : strOfNums xs; cases ht : strOfNums ys
  rw [hs, ht] at e'
  exact congrArg ByteArray.mk (Array.toList_inj.1 e')
/-- A row of its own that is not empty lies somewhere. -/
theorem own_some {w : World} {base n : Nat} {q : Option Addr} {c : Nat} {xs : List Value} (h : w.ownsRow base 5 1 (.slice q n c) n xs) (hn : 0 < n) : ∃ g, q = some ⟨g, 0, none⟩ ∧ base ≤ g ∧ g < w.heap.size ∧ n ≤ c := by
  have h' := h
  rcases h.2 with ⟨_, h0⟩ | ⟨g, cap, cur, hv, hb, hg, hle, _⟩
  · omega
  · injection hv with e1 e2 e3
    subst e1 e3
    exact ⟨g, rfl, hb, (h'.lt g rfl).2, hle⟩
end Go.Proofs.Ytfdbmdkjmifpaaa
