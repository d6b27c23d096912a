/- A number's hexadecimal digits: strconv.FormatUint at base 16, whole. Condition: the library's table reads as it was laid. -/
import Derived.Test.YtmffpnhdnaokhaaDoorFxC
import Derived.Laws.BytesArg
import Derived.Laws.BytesString
import Derived.Laws.Bits128
import Derived.Lib.EndianBits
namespace Go.Proofs.YtmffpnhdnaokhaaDoor
open Go.RowKit
variable {w w' W V : World}

/-- The table's one cell that is looked up. -/
def TabOk (w : World) : Prop := w.cell? ⟨7, 15, none⟩ = some (.int .u8 4)
theorem TabOk.grown (h : TabOk w) (hg : w.grownBy w' none) : TabOk w' := grown_cell hg h
theorem tz64 (h : TabOk w) : Calls Tryd.prog 140 #[.int .u64 16] w fun e w' => e = .returned (.int .i64 4) ∧ w' = w := by
  unfold TabOk at h
  have e1 : IntKind.u64.wrap (-16) = 18446744073709551600 := by decide
  have e2 : bits .and .u64 16 18446744073709551600 = 16 := by decide
  have e3 : IntKind.u64.wrap (16 * 285870213051353865) = 4573923408821661840 := by decide
  go_enter Tryd.func140, Tryd.ntmps140
  go_wp2
  go_ret
  exact ⟨rfl, rfl⟩
theorem tz_16 (h : TabOk w) : Calls Tryd.prog 121 #[.int .u64 16] w fun e w' => e = .returned (.int .i64 4) ∧ w' = w := by
  go_enter Tryd.func121, Tryd.ntmps121
  go_wp2_with (go_at_call 140; refine (tz64 h).mono ?_; rintro e w' ⟨rfl, rfl⟩)
  go_ret
  exact ⟨rfl, rfl⟩
theorem pow_16 (w : World) : Calls Tryd.prog 120 #[.int .i64 16] w fun e w' => e = .returned (.bool true) ∧ w' = w := by
  go_enter Tryd.func120, Tryd.ntmps120
  go_wp2
  go_ret
  exact ⟨rfl, rfl⟩

/-- A digit's letter. -/
def dgN (d : Nat) : Int := if d < 10 then (48 + d : Nat) else (87 + d : Nat)
/-- A number's digits, at most so many behind the first. -/
def hexF : Nat → Nat → List Int
  | 0, n => [dgN n]
  | f + 1, n => if n < 16 then [dgN n] else hexF f (n / 16) ++ [dgN (n % 16)]
def hexL (n : Nat) : List Int := hexF 15 n
theorem dgN_byte {d : Nat} (h : d < 16) : 0 ≤ dgN d ∧ dgN d < 256 := by unfold dgN; split <;> omega
theorem hexF_len : ∀ (f n : Nat), (hexF f n).length ≤ f + 1 ∧ 0 < (hexF f n).length
  | 0, n => by simp [hexF]
  | f + 1, n => by
    unfold hexF
    split
    · simp
    · have := hexF_len f (n / 16)
      simp only [List.length_append, List.length_singleton]
      omega
theorem hexF_byte : ∀ (f n : Nat), n < 16 ^ (f + 1) → ∀ x ∈ hexF f n, 0 ≤ x ∧ x < 256
  | 0, n, h, x, hx => by
    rw [hexF, List.mem_singleton] at hx
    subst hx
    exact dgN_byte (by omega)
  | f + 1, n, h, x, hx => by
    unfold hexF at hx
    split at hx
    · rename_i h1
      rw [List.mem_singleton] at hx
      subst hx
      exact dgN_byte h1
    · rcases List.mem_append.1 hx with hx | hx
      · exact hexF_byte f (n / 16) (Nat.div_lt_of_lt_mul (by rw [Nat.pow_succ] at h; omega)) x hx
      · rw [List.mem_singleton] at hx
        subst hx
        exact dgN_byte (Nat.mod_lt _ (by decide))
theorem and15 (n : Nat) (h : n < 18446744073709551616) : bits .and .u64 (n : Int) 15 = ((n % 16 : Nat) : Int) := by
  have h15 : (BitVec.ofInt 64 15).toNat = 2 ^ 4 - 1 := by decide
  have e : ((n : Int) % ((2 ^ 64 : Nat) : Int)).toNat = n := by omega
  have key : (BitVec.ofInt 64 (n : Int) &&& BitVec.ofInt 64 15).toNat = n % 16 := by
    rw [BitVec.toNat_and, BitVec.toNat_ofInt, e, h15, Nat.and_two_pow_sub_one_eq_mod]
  show IntKind.u64.wrap ((BitVec.ofInt 64 (n : Int) &&& BitVec.ofInt 64 15).toNat : Nat) = _
  rw [key, IntKind.wrap_u64]
  omega
def dgS : ByteArray := ⟨#[48, 49, 50, 51, 52, 53, 54, 55, 56, 57, 97, 98, 99, 100, 101, 102, 103, 104, 105, 106, 107, 108, 109, 110, 111, 112, 113, 114, 115, 116, 117, 118, 119, 120, 121, 122]⟩
theorem idx_dg {k : IntKind} (d : Nat) (hd : d < 16) (W : World) : (Instr.index 9 (.string dgS) (.int k (d : Int))).run Tryd.prog W = .ok (.int .u8 (dgN d)) W := by
  rw [run_index_string W 9 dgS k d Tryd.underlying9, dif_pos ⟨Int.natCast_nonneg _, by show (d : Int) < ((36 : Nat) : Int); omega⟩]
  rcases (show d = 0 ∨ d = 1 ∨ d = 2 ∨ d = 3 ∨ d = 4 ∨ d = 5 ∨ d = 6 ∨ d = 7 ∨ d = 8 ∨ d = 9 ∨ d = 10 ∨ d = 11 ∨ d = 12 ∨ d = 13 ∨ d = 14 ∨ d = 15 by omega) with rfl | rfl | rfl | rfl | rfl | rfl | rfl | rfl | rfl | rfl | rfl | rfl | rfl | rfl | rfl | rfl <;> rfl
theorem dg_at (d : Nat) (hd : d < 16) : ((dgS)[d]'(by show d < 36; omega)).toNat = dgN d := by
  rcases (show d = 0 ∨ d = 1 ∨ d = 2 ∨ d = 3 ∨ d = 4 ∨ d = 5 ∨ d = 6 ∨ d = 7 ∨ d = 8 ∨ d = 9 ∨ d = 10 ∨ d = 11 ∨ d = 12 ∨ d = 13 ∨ d = 14 ∨ d = 15 by omega) with rfl | rfl | rfl | rfl | rfl | rfl | rfl | rfl | rfl | rfl | rfl | rfl | rfl | rfl | rfl | rfl <;> rfl
/-- The digits so far, at the end of 65 bytes. -/
def HxAt (w : World) (g i : Nat) (D : List Int) : Prop := w.heap[g]? = some (.cells ((List.replicate i (0 : Int) ++ D).map (Value.int .u8)).toArray 126 (0, 0))
theorem HxAt.put {g i : Nat} {D : List Int} (h : HxAt w g (i + 1) D) (d : Int) : HxAt (w.setCell ⟨g, i, none⟩ (.int .u8 d)) g i (d :: D) := by
  unfold HxAt at h ⊢
  rw [heap_setCell_same w g i _ _ _ h]
  congr 2
  apply Array.toList_inj.1
  simp only [Array.toList_setIfInBounds]
  rw [← List.map_set (f := Value.int .u8)]
  congr 1
  rw [List.set_append_left _ _ (by simp), List.replicate_succ', List.set_append_right _ _ (by simp)]
  simp
theorem HxAt.c {g i : Nat} {D : List Int} (h : HxAt w g i D) {j : Nat} (hj : j < D.length) : w.cell? ⟨g, i + j, none⟩ = some (.int .u8 (D.getD j 0)) := by
  rw [cell_of h]
  simp [hj, List.getD_eq_getElem?_getD]
theorem HxAt.any {g i : Nat} {D : List Int} (h : HxAt w g i D) {j : Nat} (hj : j < i + D.length) : ∃ x, w.cell? ⟨g, j, none⟩ = some (.int .u8 x) := by
  rw [cell_of h]
  simp only [List.getElem?_toArray, List.getElem?_map]
  rw [List.getElem?_eq_getElem (show j < (List.replicate i (0 : Int) ++ D).length by simpa using hj)]
  exact ⟨_, rfl⟩
end Go.Proofs.YtmffpnhdnaokhaaDoor
