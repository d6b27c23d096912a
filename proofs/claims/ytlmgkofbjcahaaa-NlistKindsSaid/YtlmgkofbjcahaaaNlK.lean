/- Which types of entries tell a name: one entry, of any type, as lists. No condition. -/
import Derived.Test.YtlmgkofbjcahaaaNlS
namespace Go.Proofs.Ytlmgkofbjcahaaa
open Go.RowKit
variable {w w' : World}

def strK : List Int := [120, 0, 97, 98, 0]
def knL (z : List Int) (K : Int) : List Int := ((((z.set 0 2).set 1 0).set 2 0).set 3 0).set 4 K
theorem knL_len (z : List Int) (K : Int) : (knL z K).length = z.length := by simp [knL]
theorem set_byt {z : List Int} (h : Byt z) (i : Nat) {x : Int} (hx : 0 ≤ x ∧ x < 256) : Byt (z.set i x) := fun y hy => by
  rcases List.mem_or_eq_of_mem_set hy with h1 | h1
  · exact h y h1
  · rw [h1]; exact hx
theorem knL_byt {z : List Int} (h : Byt z) {K : Int} (hK : 0 ≤ K ∧ K < 256) : Byt (knL z K) :=
  set_byt (set_byt (set_byt (set_byt (set_byt h 0 (by decide)) 1 (by decide)) 2 (by decide)) 3 (by decide)) 4 hK
/-- What one entry of a type tells. -/
def knR (z : List Int) (K : Int) : Int × Syms :=
  if K = 15 ∨ K = 3 then (if K = 15 ∧ z.getD 5 0 = 0 then (13, []) else (0, [([97, 98], ⟨if K = 15 then z.getD 5 0 else 0, leN ((z.drop 8).take 8), decide (128 ≤ z.getD 6 0)⟩)])) else (0, [])
theorem kn_all {z : List Int} (hl : z.length = 16) (hb : Byt z) {K : Int} : nlAll (knL z K) strK 255 = knR z K := by
  match z, hl with
  | [z0, z1, z2, z3, z4, z5, z6, z7, z8, z9, za, zb, zc, zd, ze, zf], _ =>
    have b5 := hb z5 (by simp)
    have b6 := hb z6 (by simp)
    have b7 := hb z7 (by simp)
    have hE : ents (knL [z0, z1, z2, z3, z4, z5, z6, z7, z8, z9, za, zb, zc, zd, ze, zf] K) = [[2, 0, 0, 0, K, z5, z6, z7, z8, z9, za, zb, zc, zd, ze, zf]] := by
      unfold ents
      rw [knL_len]
      simp [List.range_succ, entAt, knL]
    have hA : nlAll (knL [z0, z1, z2, z3, z4, z5, z6, z7, z8, z9, za, zb, zc, zd, ze, zf] K) strK 255 = nlRun strK 255 [[2, 0, 0, 0, K, z5, z6, z7, z8, z9, za, zb, zc, zd, ze, zf]] [] := by
      unfold nlAll
      rw [hE, if_pos (by rw [knL_len]; simp)]
    rw [hA, nlRun_cons]
    have hP : nlPlace [2, 0, 0, 0, K, z5, z6, z7, z8, z9, za, zb, zc, zd, ze, zf] = 2 := rfl
    have hKi : nlKind [2, 0, 0, 0, K, z5, z6, z7, z8, z9, za, zb, zc, zd, ze, zf] = K := rfl
    have hS : nlSec [2, 0, 0, 0, K, z5, z6, z7, z8, z9, za, zb, zc, zd, ze, zf] = z5 := rfl
    have hV : nlVal [2, 0, 0, 0, K, z5, z6, z7, z8, z9, za, zb, zc, zd, ze, zf] = leN [z8, z9, za, zb, zc, zd, ze, zf] := rfl
    have hD : nlDesc [2, 0, 0, 0, K, z5, z6, z7, z8, z9, za, zb, zc, zd, ze, zf] = z6 + 256 * z7 := by
      show leN [z6, z7] = _
      simp [leN]
    have hN : nlNm strK [2, 0, 0, 0, K, z5, z6, z7, z8, z9, za, zb, zc, zd, ze, zf] = [97, 98] := rfl
    have hEr : nlErr strK 255 [2, 0, 0, 0, K, z5, z6, z7, z8, z9, za, zb, zc, zd, ze, zf] = if K = 15 ∧ z5 = 0 then 13 else 0 := by
      unfold nlErr
      rw [hKi, hS, hP, hN]
      by_cases h : K = 15 ∧ z5 = 0
      · rw [if_pos ⟨h.1, .inl h.2⟩, if_pos h]
      · rw [if_neg (fun h1 => h ⟨h1.1, h1.2.elim id (fun h2 => by omega)⟩), if_neg h]
        rfl
    have hSy : nlNew strK [2, 0, 0, 0, K, z5, z6, z7, z8, z9, za, zb, zc, zd, ze, zf] = ([97, 98], ⟨if K = 15 then z5 else 0, leN [z8, z9, za, zb, zc, zd, ze, zf], decide (128 ≤ z6)⟩) := by
      unfold nlNew nlSy
      rw [hN, hKi, hS, hV, hD, decide_eq_decide.2 (show (z6 + 256 * z7) / 128 % 2 = 1 ↔ 128 ≤ z6 by omega)]
    have hR : knR [z0, z1, z2, z3, z4, z5, z6, z7, z8, z9, za, zb, zc, zd, ze, zf] K = if K = 15 ∨ K = 3 then (if K = 15 ∧ z5 = 0 then (13, []) else (0, [([97, 98], ⟨if K = 15 then z5 else 0, leN [z8, z9, za, zb, zc, zd, ze, zf], decide (128 ≤ z6)⟩)])) else (0, []) := rfl
    rw [hR]
    by_cases hT : K = 15 ∨ K = 3
    · have ht : nlTold [2, 0, 0, 0, K, z5, z6, z7, z8, z9, za, zb, zc, zd, ze, zf] = true := by
        unfold nlTold
        rw [hKi]
        rcases hT with h | h <;> simp [h]
      rw [if_pos hT]
      unfold nlE nlD
      rw [if_pos ht, if_pos ht]
      unfold nlAdd
      rw [hEr]
      by_cases h : K = 15 ∧ z5 = 0
      · rw [if_pos h, if_pos h]
        rfl
      · rw [if_neg h, if_neg h, hSy]
        rfl
    · have ht : ¬ nlTold [2, 0, 0, 0, K, z5, z6, z7, z8, z9, za, zb, zc, zd, ze, zf] = true := by
        unfold nlTold
        rw [hKi]
        simp only [Bool.or_eq_true, decide_eq_true_eq]
        exact hT
      rw [if_neg hT]
      unfold nlE nlD
      rw [if_neg ht, if_neg ht]
      rfl
/-! Bits of a type. -/
theorem kb1 (K : Nat) (h : K < 256) : (bits .and .i64 (K : Int) 1 == 1) = decide (K % 2 = 1) := by
  have : ∀ K : Fin 256, (bits .and .i64 (K.val : Int) 1 == 1) = decide (K.val % 2 = 1) := by decide +kernel
  exact this ⟨K, h⟩
theorem kb2 (K : Nat) (h : K < 256) : (bits .and .i64 (K : Int) 240 == 0) = decide (K / 16 = 0) := by
  have : ∀ K : Fin 256, (bits .and .i64 (K.val : Int) 240 == 0) = decide (K.val / 16 = 0) := by decide +kernel
  exact this ⟨K, h⟩
theorem kb3 (K : Nat) (h : K < 256) : (bits .and .i64 (K : Int) 14 == 14) = decide (K / 2 % 8 = 7) := by
  have : ∀ K : Fin 256, (bits .and .i64 (K.val : Int) 14 == 14) = decide (K.val / 2 % 8 = 7) := by decide +kernel
  exact this ⟨K, h⟩
theorem kb4 (K : Nat) (h : K < 256) : (bits .and .i64 (K : Int) 14 == 2) = decide (K / 2 % 8 = 1) := by
  have : ∀ K : Fin 256, (bits .and .i64 (K.val : Int) 14 == 2) = decide (K.val / 2 % 8 = 1) := by decide +kernel
  exact this ⟨K, h⟩
end Go.Proofs.Ytlmgkofbjcahaaa
