/- What a fixup writes, and the chapter's rows. Condition: the library's table reads as it was laid. -/
import Derived.Test.YtmffpnhdnaokhaaDoorFxU
import Derived.Laws.BitsLemmas
namespace Go.Proofs.YtmffpnhdnaokhaaDoor
open Go.RowKit
variable {w w' W V : World}

theorem and56 (F : Int) (h : 0 ≤ F ∧ F < 18446744073709551616) : bits .and .u64 F 72057594037927935 = F % 72057594037927936 := by
  obtain ⟨n, rfl⟩ := Int.eq_ofNat_of_zero_le h.1
  have e : ((n : Int) % ((2 ^ 64 : Nat) : Int)).toNat = n := by omega
  have hc : (BitVec.ofInt 64 72057594037927935).toNat = 2 ^ 56 - 1 := by decide
  have key : (BitVec.ofInt 64 (n : Int) &&& BitVec.ofInt 64 72057594037927935).toNat = n % 2 ^ 56 := by
    rw [BitVec.toNat_and, BitVec.toNat_ofInt, e, hc, Nat.and_two_pow_sub_one_eq_mod]
  show IntKind.u64.wrap ((BitVec.ofInt 64 (n : Int) &&& BitVec.ofInt 64 72057594037927935).toNat : Nat) = _
  rw [key, IntKind.wrap_u64]
  omega
theorem andNot56 (F : Int) (h : 0 ≤ F ∧ F < 18446744073709551616) : bits .andNot .u64 F 72057594037927935 = F / 72057594037927936 * 72057594037927936 := by
  obtain ⟨n, rfl⟩ := Int.eq_ofNat_of_zero_le h.1
  have e : ((n : Int) % ((2 ^ 64 : Nat) : Int)).toNat = n := by omega
  have h1 : (BitVec.ofInt 64 (n : Int) &&& BitVec.ofInt 64 72057594037927935).toNat = n % 2 ^ 56 := by
    rw [BitVec.toNat_and, BitVec.toNat_ofInt, e, show (BitVec.ofInt 64 72057594037927935).toNat = 2 ^ 56 - 1 by decide, Nat.and_two_pow_sub_one_eq_mod]
  have key : (BitVec.ofInt 64 (n : Int) &&& ~~~ BitVec.ofInt 64 72057594037927935).toNat + n % 2 ^ 56 = n := by
    rw [← h1]
    have h2 : (BitVec.ofInt 64 (n : Int) &&& ~~~ BitVec.ofInt 64 72057594037927935) + (BitVec.ofInt 64 (n : Int) &&& BitVec.ofInt 64 72057594037927935) = BitVec.ofInt 64 (n : Int) := by
      rw [BitVec.add_eq_or_of_and_eq_zero]
      · ext i hi
        simp only [BitVec.getElem_or, BitVec.getElem_and, BitVec.getElem_not]
        cases (BitVec.ofInt 64 (n : Int))[i] <;> cases (BitVec.ofInt 64 72057594037927935)[i] <;> rfl
      · ext i hi
        simp only [BitVec.getElem_and, BitVec.getElem_not, BitVec.getElem_zero]
        cases (BitVec.ofInt 64 (n : Int))[i] <;> cases (BitVec.ofInt 64 72057594037927935)[i] <;> rfl
    have h3 := congrArg BitVec.toNat h2
    rw [BitVec.toNat_add, BitVec.toNat_ofInt, e] at h3
    have h4 : (BitVec.ofInt 64 (n : Int) &&& ~~~ BitVec.ofInt 64 72057594037927935).toNat ≤ n := by
      rw [BitVec.toNat_and, BitVec.toNat_ofInt, e]; exact Nat.and_le_left
    have h5 : (BitVec.ofInt 64 (n : Int) &&& BitVec.ofInt 64 72057594037927935).toNat < 2 ^ 56 := by rw [h1]; exact Nat.mod_lt _ (by decide)
    rcases Nat.lt_or_ge ((BitVec.ofInt 64 (n : Int) &&& ~~~ BitVec.ofInt 64 72057594037927935).toNat + (BitVec.ofInt 64 (n : Int) &&& BitVec.ofInt 64 72057594037927935).toNat) (2 ^ 64) with h6 | h6
    · rw [Nat.mod_eq_of_lt h6] at h3; exact h3
    · rw [Nat.mod_eq_sub_mod h6, Nat.mod_eq_of_lt (by omega)] at h3
      omega
  show IntKind.u64.wrap ((BitVec.ofInt 64 (n : Int) &&& ~~~ BitVec.ofInt 64 72057594037927935).toNat : Nat) = _
  rw [IntKind.wrap_u64]
  omega
theorem or56 (F G : Int) (h : 0 ≤ F ∧ F < 18446744073709551616) : bits .or .u64 (F / 72057594037927936 * 72057594037927936) (G % 72057594037927936) = F / 72057594037927936 * 72057594037927936 + G % 72057594037927936 := by
  refine bits_join .u64 64 (by decide) (fun n h0 h1 => by rw [IntKind.wrap_u64]; omega) 56 _ _ (by omega) (by omega) (by omega) (by omega) (by omega) (by omega)
/-- What is written. -/
def valN (x : Fx) (s t : Int) : Int := if x.kind = 1 then x.target / 72057594037927936 * 72057594037927936 + (x.target + s) % 72057594037927936 else (t + x.add) % 18446744073709551616
set_option maxRecDepth 20000 in
set_option maxHeartbeats 1600000 in
theorem val_any (x : Fx) (hx : FxOk x) (s t : Int) (w : World) : Calls Tryd.prog 19 #[fxV x, .int .u64 s, .int .u64 t] w fun e w' => e = .returned (.int .u64 (valN x s t)) ∧ w.grownBy w' none := by
  have ok := hx
  obtain ⟨p0, p1, p2, p3, p4, p5, p6⟩ := x
  have hn := FxAt.new w ⟨p0, p1, p2, p3, p4, p5, p6⟩
  have hg := grown1 w (.cells #[.int .u64 p0, .int .i64 p1, .int .u64 p2, .int .i64 p3, .string p4, .int .i64 p5, .bool p6] 26)
  obtain ⟨W, hW⟩ : ∃ W, w.alloc (.cells #[.int .u64 p0, .int .i64 p1, .int .u64 p2, .int .i64 p3, .string p4, .int .i64 p5, .bool p6] 26) = W := ⟨_, rfl⟩
  obtain ⟨g, hgg⟩ : ∃ g, w.heap.size = g := ⟨_, rfl⟩
  simp only [] at hn
  rw [hW] at hn hg
  rw [hgg] at hn
  obtain ⟨c0, c1, c2, c3, c4, c5, c6⟩ := hn.c
  simp only [] at c0 c1 c2 c3 c4 c5 c6
  unfold fxV fxArr
  obtain ⟨r, hr⟩ : ∃ r, r = valN ⟨p0, p1, p2, p3, p4, p5, p6⟩ s t := ⟨_, rfl⟩
  rw [← hr]
  have HR := Lib.hid hr
  have o2 := ok.target
  have o5 := ok.add
  simp only [] at o2 o5 ⊢
  have G := Lib.hid hg
  clear hn hg hr ok hx
  by_cases hk : p1 = 1
  · subst hk
    have b1 := andNot56 p2 o2
    have b2 : bits .and .u64 (IntKind.u64.wrap (p2 + s)) 72057594037927935 = (p2 + s) % 72057594037927936 := by
      rw [and56 _ (by rw [IntKind.wrap_u64]; omega), IntKind.wrap_u64]
      omega
    have b3 := or56 p2 (p2 + s) o2
    have e : r = p2 / 72057594037927936 * 72057594037927936 + (p2 + s) % 72057594037927936 := by rw [HR.out, valN, if_pos rfl]
    have E := Lib.hid e
    clear e
    go_enter Tryd.func19, Tryd.ntmps19
    go_upto_region 1 with fail
    clear hW hgg
    go_wp2
    go_ret
    exact ⟨by rw [E.out]; simp, G.out⟩
  · have d1 : decide (p1 = 1) = false := decide_eq_false hk
    have e : r = IntKind.u64.wrap (t + IntKind.u64.wrap p5) := by rw [HR.out, valN, if_neg hk, IntKind.wrap_u64, IntKind.wrap_u64]; simp only []; omega
    have E := Lib.hid e
    clear e
    go_enter Tryd.func19, Tryd.ntmps19
    go_upto_region 1 with fail
    clear hW hgg
    go_wp2
    go_ret
    exact ⟨by rw [E.out]; rfl, G.out⟩
end Go.Proofs.YtmffpnhdnaokhaaDoor
