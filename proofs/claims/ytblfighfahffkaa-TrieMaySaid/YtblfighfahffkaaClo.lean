/- What is done with each group of a number (the closures of layer 2's Uleb and Sleb): one contract each. No condition but that the variables that they hold are in memory. -/
import Derived.Test.YtblfighfahffkaaLeb
import Derived.Test.YtblfighfahffkaaOps
import Derived.RegionTactic
import Derived.ChangeAlike
namespace Go.Proofs.Ytblfighfahffkaa
open Go.RowKit
variable {w : World}

theorem p128_two (k : Nat) : (128 : Int) ^ k = 2 ^ (7 * k) := by rw [Int.pow_mul]; rfl
theorem block_setCell {w : World} {bn : Nat} {v : Value} {t : TypeId} (h : w.heap[bn]? = some (.cells #[v] t (0, 0))) (v' : Value) : (w.setCell ⟨bn, 0, none⟩ v').heap[bn]? = some (.cells #[v'] t (0, 0)) := by
  rw [heap_setCell_same w bn 0 _ _ _ h]; rfl
theorem or_group {N g : Int} {k : Nat} (hg : 0 ≤ g) (hN : 0 ≤ N ∧ N < 128 ^ k) (hgk : g * 128 ^ k < 18446744073709551616) (hk : k ≤ 9) :
    bits .or .u64 N (IntKind.u64.wrap (g * 2 ^ (7 * k))) = N + g * 128 ^ k := by
  rw [p128_two] at *
  have hp : (0 : Int) < 2 ^ (7 * k) := Int.pow_pos (by decide)
  have h0 : 0 ≤ g * 2 ^ (7 * k) := Int.mul_nonneg hg (Int.le_of_lt hp)
  have hb : (2 : Int) ^ (7 * k) ≤ 2 ^ 63 := by
    have : (2 : Nat) ^ (7 * k) ≤ 2 ^ 63 := Nat.pow_le_pow_right (by decide) (by omega)
    exact_mod_cast this
  rw [u64_wrap_id _ h0 hgk]
  exact bits_join_low .u64 64 (by decide) wraps_u64 (7 * k) _ _ hN.1 hN.2 (by simp; omega) h0 (Int.mul_emod_left ..) (by simpa using hgk)
theorem p128_8 {k : Nat} (h : k < 9) : (128 : Int) ^ k * 128 ≤ 9223372036854775808 := by
  have : (128 : Nat) ^ (k + 1) ≤ 128 ^ 9 := Nat.pow_le_pow_right (by decide) (by omega)
  have h2 : (128 : Int) ^ (k + 1) ≤ 128 ^ 9 := by exact_mod_cast this
  rw [Int.pow_succ] at h2
  exact h2

/-- The one captured variable of Uleb's closure, behind a group. -/
def UCell (w w' : World) (bn : Nat) (N g : Int) (k : Nat) : Prop :=
  (∃ N' : Int, w'.heap[bn]? = some (.cells #[.int .u64 N'] 31 (0, 0)) ∧ (k < 9 ∨ g ≤ 1 → N' = N + g * 128 ^ k)) ∧ w.grownBy w' (some bn)
theorem ucell (bn : Nat) {N g V : Int} {k : Nat} (hb : w.heap[bn]? = some (.cells #[.int .u64 N] 31 (0, 0))) (hV : k < 9 ∨ g ≤ 1 → V = N + g * 128 ^ k) :
    UCell w (w.setCell ⟨bn, 0, none⟩ (.int .u64 V)).drew bn N g k :=
  ⟨⟨V, block_setCell hb _, hV⟩, grown_drewN (grown_setCell (i := 0) (grown_refl w (some bn)) (.int .u64 V)) 1⟩

theorem uclo_any (bn : Nat) (N g : Int) (k : Nat) (hk : k ≤ 9) (hg : 0 ≤ g ∧ g < 128) (hN : 0 ≤ N ∧ N < 128 ^ k) (hb : w.heap[bn]? = some (.cells #[.int .u64 N] 31 (0, 0))) :
    Calls Try.prog 104 #[.int .i64 k, .int .u64 g, .pointer (some ⟨bn, 0, none⟩)] w fun e w' =>
      e = .returned (.bool (decide (k < 9 ∨ g ≤ 1))) ∧ UCell w w' bn N g k := by
  have c0 : w.cell? ⟨bn, 0, none⟩ = some (.int .u64 N) := by rw [cell_of hb]; rfl
  have f0 := free_of (i := 0) hb
  have hV : k < 9 ∨ g ≤ 1 → bits .or .u64 N (IntKind.u64.wrap (g * 2 ^ (7 * k))) = N + g * 128 ^ k := fun h => by
    refine or_group hg.1 hN ?_ hk
    rcases Nat.lt_or_ge k 9 with h9 | h9
    · have h1 := p128_8 h9
      have : g * 128 ^ k ≤ 127 * 128 ^ k := Int.mul_le_mul_of_nonneg_right (by omega) (Int.le_of_lt (p128 k))
      omega
    · obtain rfl : k = 9 := by omega
      simp at h ⊢; omega
  have C := Lib.hid (ucell (V := bits .or .u64 N (IntKind.u64.wrap (g * 2 ^ (7 * k)))) bn hb hV)
  clear hV hN hb
  by_cases h9 : k < 9
  · go_enter Try.func104, Try.ntmps104
    go_wp2
    go_region
    all_goals go_wp2
    all_goals go_ret
    all_goals exact ⟨ret_bool (by simp), C.out⟩
  · have h9' : decide ((k : Int) < 9) = false := by simp; omega
    go_enter Try.func104, Try.ntmps104
    go_wp2
    go_region
    all_goals go_wp2
    all_goals go_ret
    all_goals exact ⟨ret_bool (by simp [h9]), C.out⟩

/-- All blocks but these are as they were. -/
structure KeptBut (w w' : World) (S : List Nat) : Prop where
  os : w'.os = w.os
  tape : w'.tape = w.tape
  output : w'.output = w.output
  size : w.heap.size ≤ w'.heap.size
  block : ∀ i, i < w.heap.size → i ∉ S → w'.heap[i]? = w.heap[i]?
theorem KeptBut.refl (w : World) (S : List Nat) : KeptBut w w S := ⟨rfl, rfl, rfl, Nat.le_refl _, fun _ _ _ => rfl⟩
theorem KeptBut.trans {a b c : World} {S : List Nat} (h : KeptBut a b S) (k : KeptBut b c S) : KeptBut a c S :=
  ⟨k.os.trans h.os, k.tape.trans h.tape, k.output.trans h.output, Nat.le_trans h.size k.size, fun i hi hr => (k.block i (Nat.lt_of_lt_of_le hi h.size) hr).trans (h.block i hi hr)⟩
theorem KeptBut.of_grown {w w' : World} {a : Nat} {S : List Nat} (h : w.grownBy w' (some a)) (ha : a ∈ S) : KeptBut w w' S :=
  ⟨h.os, h.tape, h.output, h.size, fun i hi hr => h.block i hi (fun e => by injection e with e; exact hr (e ▸ ha))⟩
theorem KeptBut.of_same {w w' : World} {S : List Nat} (h : w.grownBy w' none) : KeptBut w w' S :=
  ⟨h.os, h.tape, h.output, h.size, fun i hi _ => h.block i hi (by simp)⟩
theorem KeptBut.drewN {w w' : World} {S : List Nat} (h : KeptBut w w' S) (n : Nat) : KeptBut w (w'.drewN n) S := ⟨h.os, h.tape, h.output, h.size, h.block⟩
theorem KeptBut.setCell {w w' : World} {S : List Nat} (h : KeptBut w w' S) {b : Nat} (hb : b ∈ S) (v : Value) : KeptBut w (w'.setCell ⟨b, 0, none⟩ v) S :=
  h.trans (.of_grown (grown_setCell (i := 0) (grown_refl w' (some b)) v) hb)
/-- What lies in blocks that the call itself made, behind its own call. -/
theorem KeptBut.grown {w w1 w2 : World} {S : List Nat} {a : Nat} (h0 : w.grownBy w1 none) (h : KeptBut w1 w2 S) (hS : ∀ i ∈ S, i = a ∨ w.heap.size ≤ i) : w.grownBy w2 (some a) :=
  ⟨h.os.trans h0.os, h.tape.trans h0.tape, h.output.trans h0.output, Nat.le_trans h0.size h.size, fun i hi hr =>
    (h.block i (Nat.lt_of_lt_of_le hi h0.size) (fun hm => by rcases hS i hm with e | e; exact hr (by rw [e]); omega)).trans (h0.block i hi (by simp))⟩
theorem KeptBut.cur {w w' : World} {S : List Nat} {base a : Nat} {q : Option Addr} {c : Nat} {xs : List Int} {p : Nat} {big bad : Bool} (h : Cur w base a q c xs p big bad) (k : KeptBut w w' S) (ha : a ∉ S)
    (hq : ∀ g, (Value.slice q xs.length c).ownBlock = some g → g ∉ S) : Cur w' base a q c xs p big bad := by
  have hown : w'.ownsRow base 5 1 (.slice q xs.length c) xs.length (xs.map (Value.int .u8)) := by
    refine ⟨h.own.1, ?_⟩
    rcases h.own.2 with hn | ⟨g, cap, cur, hv, hg, hrest⟩
    · exact .inl hn
    · obtain ⟨h1, h2, h3, h4⟩ := hrest
      have hgl : g < w.heap.size := (h.own.lt g (by rw [hv]; simp [Value.ownBlock])).2
      refine .inr ⟨g, cap, cur, hv, hg, ?_, h2, h3, h4⟩
      rw [k.block g hgl (hq g (by rw [hv]; simp [Value.ownBlock]))]; exact h1
  exact ⟨(k.block a h.lt ha).trans h.blk, hown, h.le, h.ne, h.big, h.bytes⟩

/-- What they hold then: all groups' sum, and what the sign fills above it; at the tenth group only where there is room. -/
def SFine (N V T g : Int) (k : Nat) : Prop :=
  (k < 9 → V = N + g * 128 ^ k ∧ T = if 64 ≤ g then -(128 ^ (k + 1)) else 0) ∧ (k = 9 → T = 0 ∧ (g = 0 → V = N) ∧ (g = 127 → V = N - 9223372036854775808))
/-- The two captured variables of Sleb's closure, behind a group. -/
def SCell (w w' : World) (bn ba : Nat) (N g : Int) (k : Nat) : Prop :=
  (∃ N' A' : Int, w'.heap[bn]? = some (.cells #[.int .i64 N'] 2 (0, 0)) ∧ w'.heap[ba]? = some (.cells #[.int .i64 A'] 2 (0, 0)) ∧ SFine N N' A' g k) ∧ KeptBut w w' [bn, ba]

theorem w64_id (n : Int) (h : -9223372036854775808 ≤ n ∧ n ≤ 9223372036854775807) : wrap64 n = n := by unfold wrap64; omega
theorem or_group_s {N g : Int} {k : Nat} (hk : k < 9) (hg : 0 ≤ g ∧ g < 128) (hN : 0 ≤ N ∧ N < 128 ^ k) :
    bits .or .i64 N (wrap64 (g * 2 ^ (7 * k))) = N + g * 128 ^ k := by
  have h1 := p128_8 hk
  have h2 := p128 k
  have h3 : g * 128 ^ k ≤ 127 * 128 ^ k := Int.mul_le_mul_of_nonneg_right (by omega) (Int.le_of_lt h2)
  have h0 : 0 ≤ g * 128 ^ k := Int.mul_nonneg hg.1 (Int.le_of_lt h2)
  rw [← p128_two, w64_id _ (by omega)]
  refine or_signed (7 * k) (by omega) _ _ hN.1 (by rw [← p128_two]; exact hN.2) ?_ (by omega) (by omega)
  rw [← p128_two]; exact Int.mul_emod_left ..
theorem or_last0 {N : Int} (hN : 0 ≤ N ∧ N < 128 ^ 9) : bits .or .i64 N (wrap64 (0 * 2 ^ (7 * 9))) = N := by
  rw [show wrap64 (0 * 2 ^ (7 * 9)) = 0 by unfold wrap64; decide, or_signed 63 (by decide) _ _ hN.1 hN.2 (by decide) (by decide) (by decide)]; omega
theorem or_last127 {N : Int} (hN : 0 ≤ N ∧ N < 128 ^ 9) : bits .or .i64 N (wrap64 (127 * 2 ^ (7 * 9))) = N - 9223372036854775808 := by
  rw [show wrap64 (127 * 2 ^ (7 * 9)) = -9223372036854775808 by unfold wrap64; decide, or_signed 63 (by decide) _ _ hN.1 hN.2 (by decide) (by decide) (by decide)]; omega
theorem above_in {k : Nat} (hk : k < 9) : wrap64 (-2 ^ (7 * (k + 1))) = -(128 ^ (k + 1)) := by
  have h1 := p128_8 hk
  have h2 := p128 (k + 1)
  rw [← p128_two, w64_id _ (by rw [Int.pow_succ] at *; omega)]

theorem sfine_n {N T g : Int} {k : Nat} (hk : k ≤ 9) (hg : 0 ≤ g ∧ g < 128) (hN : 0 ≤ N ∧ N < 128 ^ k) (hT : (k < 9 → T = if 64 ≤ g then -(128 ^ (k + 1)) else 0) ∧ (k = 9 → T = 0)) :
    SFine N (bits .or .i64 N (wrap64 (g * 2 ^ (7 * k)))) T g k := by
  refine ⟨fun h => ⟨or_group_s h hg hN, hT.1 h⟩, fun h => ?_⟩
  subst h
  refine ⟨hT.2 rfl, ?_, ?_⟩
  · rintro rfl; exact or_last0 hN
  · rintro rfl; exact or_last127 hN
theorem scell0 {bn ba : Nat} {N A V g : Int} {k : Nat} (hne : bn ≠ ba) (hb : w.heap[bn]? = some (.cells #[.int .i64 N] 2 (0, 0))) (ha : w.heap[ba]? = some (.cells #[.int .i64 A] 2 (0, 0)))
    (h : SFine N V 0 g k) : SCell w ((w.setCell ⟨bn, 0, none⟩ (.int .i64 V)).setCell ⟨ba, 0, none⟩ (.int .i64 0)).drew bn ba N g k := by
  have h1 := block_setCell hb (.int .i64 V)
  have h2 : (w.setCell ⟨bn, 0, none⟩ (.int .i64 V)).heap[ba]? = some (.cells #[.int .i64 A] 2 (0, 0)) := (heap_setCell_other w _ ba _ (by simpa using fun e => hne e.symm)).trans ha
  refine ⟨⟨V, 0, (heap_setCell_other _ _ bn _ (by simpa using hne)).trans h1, block_setCell h2 _, h⟩, (((KeptBut.refl w _).setCell (by simp) _).setCell (by simp) _).drewN 1⟩
theorem scell1 {bn ba : Nat} {N A V T g : Int} {k : Nat} (hne : bn ≠ ba) (hb : w.heap[bn]? = some (.cells #[.int .i64 N] 2 (0, 0))) (ha : w.heap[ba]? = some (.cells #[.int .i64 A] 2 (0, 0)))
    (h : SFine N V T g k) : SCell w (((w.setCell ⟨bn, 0, none⟩ (.int .i64 V)).setCell ⟨ba, 0, none⟩ (.int .i64 0)).setCell ⟨ba, 0, none⟩ (.int .i64 T)).drew bn ba N g k := by
  have h1 := block_setCell hb (.int .i64 V)
  have h2 : (w.setCell ⟨bn, 0, none⟩ (.int .i64 V)).heap[ba]? = some (.cells #[.int .i64 A] 2 (0, 0)) := (heap_setCell_other w _ ba _ (by simpa using fun e => hne e.symm)).trans ha
  have h3 := block_setCell h2 (.int .i64 0)
  have h4 := (heap_setCell_other (w.setCell ⟨bn, 0, none⟩ (.int .i64 V)) ⟨ba, 0, none⟩ bn (.int .i64 0) (by simpa using hne)).trans h1
  refine ⟨⟨V, T, (heap_setCell_other _ _ bn _ (by simpa using hne)).trans h4, block_setCell h3 _, h⟩, ((((KeptBut.refl w _).setCell (by simp) _).setCell (by simp) _).setCell (by simp) _).drewN 1⟩
theorem and64_lo {g : Int} (h0 : 0 ≤ g) (h : g < 64) : bits .and .u64 g 64 = 0 := by
  obtain ⟨n, rfl⟩ := Int.eq_ofNat_of_zero_le h0
  have := (bits_nat .u64 64 (by decide) wraps_u64 n 64 (by omega) (by decide)).1
  have k : ∀ n : Nat, n < 64 → n &&& 64 = 0 := by decide
  rw [k n (by omega)] at this
  exact this
theorem and64_hi {g : Int} (h0 : 64 ≤ g) (h : g < 128) : bits .and .u64 g 64 = 64 := by
  obtain ⟨n, rfl⟩ := Int.eq_ofNat_of_zero_le (show 0 ≤ g by omega)
  have := (bits_nat .u64 64 (by decide) wraps_u64 n 64 (by omega) (by decide)).1
  have k : ∀ n : Nat, n < 128 → 64 ≤ n → n &&& 64 = 64 := by decide
  rw [k n (by omega) (by omega)] at this
  exact this

end Go.Proofs.Ytblfighfahffkaa
