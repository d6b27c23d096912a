/- Numbers of any length, as the document says them: groups of seven bits, the lowest first; plain lists of bytes, no program. No condition. -/
import Derived.Test.YtblfighfahffkaaRows
import Derived.Lib.EndianBits
namespace Go.Proofs.Ytblfighfahffkaa

/-- What groups mean, the lowest first. -/
def valN : List Int → Int
  | [] => 0
  | b :: l => b % 128 + 128 * valN l
/-- What they mean where the last one has a sign. -/
def svalN : List Int → Int
  | [] => 0
  | [b] => if 64 ≤ b % 128 then b % 128 - 128 else b % 128
  | b :: b' :: l => b % 128 + 128 * svalN (b' :: l)
/-- How many bytes the number ahead has, of at most k (0: none stands there). -/
def szN : Nat → List Int → Nat
  | 0, _ => 0
  | _ + 1, [] => 0
  | k + 1, b :: l => if b < 128 then 1 else if szN k l = 0 then 0 else szN k l + 1
def ulebN (l : List Int) : Int × Nat := if valN (l.take (szN 10 l)) < 18446744073709551616 then (valN (l.take (szN 10 l)), szN 10 l) else (0, 0)
def slebN (l : List Int) : Int × Nat :=
  if -9223372036854775808 ≤ svalN (l.take (szN 10 l)) ∧ svalN (l.take (szN 10 l)) < 9223372036854775808 then (svalN (l.take (szN 10 l)), szN 10 l) else (0, 0)

theorem p128 (k : Nat) : (0 : Int) < 128 ^ k := Int.pow_pos (by decide)
theorem valN_bd (l : List Int) : 0 ≤ valN l ∧ valN l < 128 ^ l.length := by
  induction l with
  | nil => simp [valN]
  | cons b l ih =>
    simp only [valN, List.length_cons, Int.pow_succ]
    have := p128 l.length
    omega
theorem valN_snoc (l : List Int) (b : Int) : valN (l ++ [b]) = valN l + b % 128 * 128 ^ l.length := by
  induction l with
  | nil => simp [valN]
  | cons x l ih =>
    simp only [List.cons_append, valN, List.length_cons, ih, Int.pow_succ, Int.mul_add]
    rw [← Int.mul_assoc (b % 128), Int.mul_comm 128 (b % 128 * 128 ^ l.length)]
    omega
theorem take_snoc {l : List Int} {k : Nat} (h : k < l.length) : l.take (k + 1) = l.take k ++ [l.getD k 0] := by
  rw [List.take_succ_eq_append_getElem h]; simp [h]
theorem valN_take {l : List Int} {k : Nat} (h : k < l.length) : valN (l.take (k + 1)) = valN (l.take k) + l.getD k 0 % 128 * 128 ^ k := by
  rw [take_snoc h, valN_snoc]
  simp only [List.length_take, Nat.min_eq_left (Nat.le_of_lt h)]
theorem svalN_snoc (l : List Int) (b : Int) : svalN (l ++ [b]) = if 64 ≤ b % 128 then valN (l ++ [b]) - 128 ^ (l.length + 1) else valN (l ++ [b]) := by
  induction l with
  | nil => simp only [List.nil_append, svalN, valN, List.length_nil]; split <;> omega
  | cons x l ih =>
    have e : svalN (x :: l ++ [b]) = x % 128 + 128 * svalN (l ++ [b]) := by cases l <;> rfl
    rw [e, ih]
    simp only [List.cons_append, valN, List.length_cons, Int.pow_succ]
    split <;> omega

/-- While all groups ahead say that another one follows. -/
def More (l : List Int) (k : Nat) : Prop := ∀ i, i < k → 128 ≤ l.getD i 0
theorem szN_end (n : Nat) : ∀ (k : Nat) (l : List Int), k < n → k < l.length → More l k → l.getD k 0 < 128 → szN n l = k + 1 := by
  induction n with
  | zero => intro k l h; omega
  | succ n ih =>
    intro k l hk hl hm hb
    cases l with
    | nil => simp at hl
    | cons b l =>
      cases k with
      | zero => simp at hb; simp [szN, hb]
      | succ k =>
        have h0 := hm 0 (by omega)
        simp at h0
        have := ih k l (by omega) (by simpa using hl) (fun i hi => by have := hm (i + 1) (by omega); simpa using this) (by simpa using hb)
        simp [szN, this]; omega
theorem szN_short (n : Nat) : ∀ (l : List Int), More l l.length → szN n l = 0 := by
  induction n with
  | zero => intro l _; simp [szN]
  | succ n ih =>
    intro l hm
    cases l with
    | nil => rfl
    | cons b l =>
      have h0 := hm 0 (by simp)
      simp at h0
      have := ih l (fun i hi => by have := hm (i + 1) (by simpa using hi); simpa using this)
      simp [szN, this]; omega
theorem szN_long (n : Nat) : ∀ (l : List Int), More l n → szN n l = 0 := by
  induction n with
  | zero => intro l _; simp [szN]
  | succ n ih =>
    intro l hm
    cases l with
    | nil => rfl
    | cons b l =>
      have h0 := hm 0 (by simp)
      simp at h0
      have := ih l (fun i hi => by have := hm (i + 1) (by omega); simpa using this)
      simp [szN, this]; omega
theorem szN_le (n : Nat) : ∀ (l : List Int), szN n l ≤ n ∧ szN n l ≤ l.length := by
  induction n with
  | zero => intro l; simp [szN]
  | succ n ih =>
    intro l
    cases l with
    | nil => simp [szN]
    | cons b l =>
      have := ih l
      simp only [szN, List.length_cons]
      split
      · omega
      · split <;> omega
theorem More.succ {l : List Int} {k : Nat} (h : More l k) (hb : 128 ≤ l.getD k 0) : More l (k + 1) := fun i hi => by
  rcases Nat.lt_or_ge i k with h1 | h1
  · exact h i h1
  · rw [show i = k by omega]; exact hb

/-- Signed numbers side by side: what is below 2^i, or-ed with a multiple of it. -/
theorem or_i64 (x y : Int) : bits .or .i64 x y = IntKind.i64.wrap (bits .or .u64 (x % 18446744073709551616) (y % 18446744073709551616)) := by
  have e : ∀ z : Int, BitVec.ofInt 64 (z % 18446744073709551616) = BitVec.ofInt 64 z := fun z => by
    apply BitVec.eq_of_toInt_eq
    simp only [BitVec.toInt_ofInt]
    rw [show (18446744073709551616 : Int) = ((2 ^ 64 : Nat) : Int) by decide, Int.emod_bmod]
  show IntKind.i64.wrap ((BitVec.ofInt 64 x ||| BitVec.ofInt 64 y).toNat : Nat) = IntKind.i64.wrap (IntKind.u64.wrap ((BitVec.ofInt 64 (x % 18446744073709551616) ||| BitVec.ofInt 64 (y % 18446744073709551616)).toNat : Nat))
  have hlt : ((BitVec.ofInt 64 x ||| BitVec.ofInt 64 y).toNat : Int) < 2 ^ 64 := by exact_mod_cast (BitVec.isLt _)
  rw [e, e, wraps_u64 _ (Int.natCast_nonneg _) hlt]
theorem or_signed (i : Nat) (hi : i ≤ 63) (x y : Int) (hx : 0 ≤ x) (hx1 : x < 2 ^ i) (hy : y % 2 ^ i = 0) (hy1 : -9223372036854775808 ≤ y) (hy2 : y < 9223372036854775808) :
    bits .or .i64 x y = x + y := by
  have hp : (2 : Int) ^ i ≤ 2 ^ 63 := by
    have : (2 : Nat) ^ i ≤ 2 ^ 63 := Nat.pow_le_pow_right (by decide) hi
    exact_mod_cast this
  have hpos : (0 : Int) < 2 ^ i := Int.pow_pos (by decide)
  obtain ⟨m, hm⟩ : ∃ m : Int, (18446744073709551616 : Int) = 2 ^ i * m := ⟨2 ^ (64 - i), by
    rw [← Int.pow_add, show i + (64 - i) = 64 by omega]; decide⟩
  obtain ⟨t, ht⟩ := Int.dvd_of_emod_eq_zero hy
  have hy' : (y % 18446744073709551616) % 2 ^ i = 0 := by
    rw [hm, Int.emod_emod_of_dvd _ ⟨m, rfl⟩]; exact hy
  rw [or_i64, Int.emod_eq_of_lt hx (by omega)]
  have hz := Int.emod_nonneg y (show (18446744073709551616 : Int) ≠ 0 by decide)
  have hz2 := Int.emod_lt_of_pos y (show (0 : Int) < 18446744073709551616 by decide)
  have hsum : x + y % 18446744073709551616 < 18446744073709551616 ∧ x + y < 9223372036854775808 := by
    -- the next multiple of 2^i is at or below the bound
    obtain ⟨u, hu⟩ := Int.dvd_of_emod_eq_zero hy'
    obtain ⟨h63, hh⟩ : ∃ h : Int, (9223372036854775808 : Int) = 2 ^ i * h := ⟨2 ^ (63 - i), by
      rw [← Int.pow_add, show i + (63 - i) = 63 by omega]; decide⟩
    constructor
    · have h1 : u < m := by
        apply Int.lt_of_mul_lt_mul_left (a := 2 ^ i) _ (Int.le_of_lt hpos); omega
      have h2 : 2 ^ i * (u + 1) ≤ 2 ^ i * m := Int.mul_le_mul_of_nonneg_left (by omega) (Int.le_of_lt hpos)
      rw [Int.mul_add] at h2
      omega
    · have h1 : t < h63 := by
        apply Int.lt_of_mul_lt_mul_left (a := 2 ^ i) _ (Int.le_of_lt hpos); omega
      have h2 : 2 ^ i * (t + 1) ≤ 2 ^ i * h63 := Int.mul_le_mul_of_nonneg_left (by omega) (Int.le_of_lt hpos)
      rw [Int.mul_add] at h2
      omega
  rw [bits_join_low .u64 64 (by decide) wraps_u64 i _ _ hx hx1 (by simp; omega) hz hy' (by simpa using hz2), IntKind.wrap_i64]
  omega
end Go.Proofs.Ytblfighfahffkaa
