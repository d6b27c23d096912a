/- May a range be read, or written: is each of its bytes there, and has its page all of a protection? No condition. -/
import Derived.Test.YtiolcpnhabipaaaSpM
namespace Go.Proofs.Ytiolcpnhabipaaa
open Go.RowKit Go.Maps Go.ChangeMaps
variable {w w' W : World} {F : Nat → Prop} {σ : Spc}

def lackB (x p : Int) : Bool := bits BinOp.and IntKind.i64 x p != p
def lackAny (σ : Spc) (f k : Nat) (p : Int) : Bool := (List.range k).any fun i => lackB (σ.P (f + i)) p
def thereB (σ : Spc) (f k : Nat) : Bool := (List.range k).all fun i => decide (σ.P (f + i) ≠ 0)
theorem lackAny_succ (f k : Nat) (p : Int) : lackAny σ f (k + 1) p = (lackAny σ f k p || lackB (σ.P (f + k)) p) := by
  unfold lackAny
  rw [List.range_succ, List.any_append]
  simp
theorem thereB_succ (f k : Nat) : thereB σ f (k + 1) = (thereB σ f k && decide (σ.P (f + k) ≠ 0)) := by
  unfold thereB
  rw [List.range_succ, List.all_append]
  simp
theorem thereB_iff {f k : Nat} : thereB σ f k = true ↔ ∀ n, f ≤ n → n < f + k → σ.P n ≠ 0 := by
  unfold thereB
  rw [List.all_eq_true]
  constructor
  · intro h n h1 h2
    have := h (n - f) (List.mem_range.2 (by omega))
    rw [decide_eq_true_iff, show f + (n - f) = n by omega] at this
    exact this
  · intro h i hi
    rw [List.mem_range] at hi
    exact decide_eq_true (h _ (by omega) (by omega))
theorem thereB_no {f k n : Nat} (h1 : f ≤ n) (h2 : n < f + k) (h : σ.P n = 0) : thereB σ f k = false := by
  cases e : thereB σ f k
  · rfl
  · exact absurd h (thereB_iff.1 e n h1 h2)
def errOf (b : Bool) : Int := if b then 19 else 0
def spanK (a s : Nat) : Nat := (a + s - 1) / 4096 + 1 - a / 4096
/-- What a range's reading, or writing, is answered. -/
def mayErr (σ : Spc) (a s : Nat) (p : Int) : Int :=
  if s = 0 then 0 else if belowB a s = false then 4 else if thereB σ (a / 4096) (spanK a s) = false then 4 else errOf (lackAny σ (a / 4096) (spanK a s) p)
theorem mayErr_zero {a : Nat} {p : Int} : mayErr σ a 0 p = 0 := rfl
theorem mayErr_far {a s : Nat} {p : Int} (hs : s ≠ 0) (h : belowB a s = false) : mayErr σ a s p = 4 := by unfold mayErr; rw [if_neg hs, if_pos h]
theorem mayErr_gap {a s : Nat} {p : Int} (hs : s ≠ 0) (hb : belowB a s = true) (h : thereB σ (a / 4096) (spanK a s) = false) : mayErr σ a s p = 4 := by unfold mayErr; rw [if_neg hs, if_neg (by rw [hb]; simp), if_pos h]
theorem mayErr_is {a s : Nat} {p : Int} (hs : s ≠ 0) (hb : belowB a s = true) (h : thereB σ (a / 4096) (spanK a s) = true) : mayErr σ a s p = errOf (lackAny σ (a / 4096) (spanK a s) p) := by unfold mayErr; rw [if_neg hs, if_neg (by rw [hb]; simp), if_neg (by rw [h]; simp)]

def MayRel (σ : Spc) (f k : Nat) (p : Int) (er i : Value) : Prop := ∃ j : Nat, i = .int .u64 ((f + j : Nat) : Int) ∧ j ≤ k ∧ er = .int .i64 (errOf (lackAny σ f j p)) ∧ thereB σ f j = true

set_option maxRecDepth 20000 in
theorem spmay_any {a : Nat} (h : SpcAt w F a σ) (at' s : Nat) (p : Int) :
    Calls Try.prog 43 #[.pointer (some ⟨a, 0, none⟩), .int .u64 at', .int .u64 s, .int .i64 p] w fun e w' => e = .returned (.int .i64 (mayErr σ at' s p)) ∧ w = w' := by
  have hf := h.fits
  obtain ⟨_, _, mp, mq, hb, hm⟩ := h
  have c1 : w.cell? ⟨a, 1, none⟩ = some mq := by rw [cell_of hb]; rfl
  have HM := Lib.hid (fun (n : Nat) (h : n < 18446744073709551616) => hm.prot_ok h)
  clear hb hm
  rcases Nat.eq_zero_or_pos s with h0 | h3
  · subst h0
    go_enter Try.func43, Try.ntmps43
    go_wp2
    go_ret
    exact ⟨rfl, rfl⟩
  have q1 : ((s : Int) == 0) = false := by simp; omega
  cases hbl : belowB at' s
  · have E := Lib.hid (mayErr_far (σ := σ) (p := p) (by omega : s ≠ 0) hbl)
    have HB := Lib.hid hbl
    clear hbl
    go_enter Try.func43, Try.ntmps43
    go_wp2_with fail
    refine (isBelow_any at' s w).mono ?_
    rw [HB.out]
    rintro e w1 ⟨rfl, rfl⟩
    go_wp2
    go_ret
    exact ⟨by rw [E.out]; rfl, rfl⟩
  · have h6 := belowB_iff.1 hbl
    have EG := Lib.hid (mayErr_gap (σ := σ) (p := p) (by omega : s ≠ 0) hbl)
    have EI := Lib.hid (mayErr_is (σ := σ) (p := p) (by omega : s ≠ 0) hbl)
    have HB := Lib.hid hbl
    have N1 := Lib.hid (fun W => numbers_any at' s h3 h6 W)
    have hk : at' / 4096 + spanK at' s = (at' + s - 1) / 4096 + 1 := by unfold spanK; have : at' / 4096 ≤ (at' + s - 1) / 4096 := Nat.div_le_div_right (by omega); omega
    have htop : (at' + s - 1) / 4096 < 34359738368 := by omega
    clear hbl
    obtain ⟨f, hf'⟩ : ∃ f, f = at' / 4096 := ⟨_, rfl⟩
    obtain ⟨l, hl'⟩ : ∃ l, l = (at' + s - 1) / 4096 := ⟨_, rfl⟩
    obtain ⟨k, hk'⟩ : ∃ k, k = spanK at' s := ⟨_, rfl⟩
    rw [← hf', ← hl'] at N1
    rw [← hf', ← hl', ← hk'] at hk
    rw [← hl'] at htop
    rw [← hf', ← hk'] at EG EI
    clear hf' hl' hk'
    go_enter Try.func43, Try.ntmps43
    go_wp2_with fail
    refine (isBelow_any at' s w).mono ?_
    rw [HB.out]
    rintro e w1 ⟨rfl, rfl⟩
    go_wp2_with fail
    refine (N1.out _).mono ?_
    rintro e w2 ⟨rfl, rfl⟩
    go_wp2_with fail
    go_loop [9, 12, 13, 14] (fun er i _ _ => MayRel σ f k p er i) (fun _ i _ _ => f + k - (intOf i).toNat)
    case atStart => exact ⟨0, rfl, Nat.zero_le _, rfl, rfl⟩
    case round =>
      obtain ⟨j, rfl, hj, rfl, hth⟩ := hrel
      have HT := Lib.hid hth
      clear hth
      obtain ⟨E0, hE0⟩ : ∃ x, x = errOf (lackAny σ f j p) := ⟨_, rfl⟩
      rw [← hE0]
      have HE := Lib.hid hE0
      clear hE0
      obtain ⟨m, hm⟩ : ∃ m : Nat, f + j = m := ⟨_, rfl⟩
      have hmj : m + 1 = f + (j + 1) := by omega
      have MJ := Lib.hid (show ((m : Int) + 1) = ((f + (j + 1) : Nat) : Int) by omega)
      rw [hm]
      by_cases hjk : j < k
      · have hle : (m : Int) ≤ l := by omega
        have hl := HM.out m (by omega)
        by_cases hP : σ.P m = 0
        · have hd : decide (σ.P m ≠ 0) = false := decide_eq_false (fun h => h hP)
          have E := Lib.hid (EG.out (thereB_no (by omega) (by omega) hP))
          rw [hd, hP] at hl
          clear hd hP hm hmj
          go_wp2
          go_ret
          exact ⟨by rw [E.out]; rfl, rfl⟩
        · have hd : decide (σ.P m ≠ 0) = true := decide_eq_true hP
          have HT1 := Lib.hid (show thereB σ f (j + 1) = true from by rw [thereB_succ, HT.out, hm, hd]; rfl)
          rw [hd] at hl
          have hs := lackAny_succ (σ := σ) f j p
          rw [hm] at hs
          have hh : 0 ≤ σ.P m ∧ σ.P m ≤ 7 := hf.prot _
          clear hd hP
          generalize σ.P m = x at *
          cases hlk : lackB x p
          · have hlk' : (bits BinOp.and IntKind.i64 x p != p) = false := hlk
            rw [hlk, Bool.or_false] at hs
            have HS := Lib.hid (show E0 = errOf (lackAny σ f (j + 1) p) from by rw [hs]; exact HE.out)
            clear hs hlk hm hmj
            go_wp2
            go_round
            case rel => exact ⟨j + 1, by rw [MJ.out], hjk, by rw [← HS.out], HT1.out⟩
            case measure => simp [intOf]; omega
          · have hlk' : (bits BinOp.and IntKind.i64 x p != p) = true := hlk
            rw [hlk, Bool.or_true] at hs
            have HS := Lib.hid (show (19 : Int) = errOf (lackAny σ f (j + 1) p) from by rw [hs]; rfl)
            clear hs hlk hm hmj
            go_wp2
            go_round
            case rel => exact ⟨j + 1, by rw [MJ.out], hjk, by rw [← HS.out], HT1.out⟩
            case measure => simp [intOf]; omega
      · obtain rfl : k = j := by omega
        have hle : ¬ (m : Int) ≤ l := by omega
        have E := Lib.hid (EI.out HT.out)
        clear hm hmj
        go_wp2
        go_ret
        exact ⟨by rw [E.out, HE.out]; rfl, rfl⟩
theorem spmay_nil (at' s : Nat) (p : Int) (w : World) : Calls Try.prog 43 #[.pointer none, .int .u64 at', .int .u64 s, .int .i64 p] w fun e w' => e = .returned (.int .i64 1) ∧ w = w' := by
  go_enter Try.func43, Try.ntmps43
  go_wp2
  go_ret
  exact ⟨rfl, rfl⟩
end Go.Proofs.Ytiolcpnhabipaaa
