/- Map: the error, or pages of noughts. No condition. -/
import Derived.Test.YtiolcpnhabipaaaSpH
namespace Go.Proofs.Ytiolcpnhabipaaa
open Go.RowKit Go.Maps Go.ChangeMaps
variable {w w' W : World} {F : Nat → Prop} {σ : Spc}

theorem foot_foot {w1 w2 : World} (h1 : w.heap.size ≤ w1.heap.size) (h2 : w1.heap.size ≤ w2.heap.size) (k : Nat) (h : Foot (Foot F w w1) w1 w2 k) : Foot F w w2 k := by
  unfold Foot at *
  rcases h with (h | h) | h
  · exact .inl h
  · exact .inr (by omega)
  · exact .inr (by omega)
def Spc.lays (σ : Spc) (f k : Nat) (p : Int) : Spc := ⟨fun m => if f ≤ m ∧ m < f + k then p else σ.P m, fun x => if f ≤ x / 4096 ∧ x / 4096 < f + k then 0 else σ.B x, σ.K + k⟩
theorem lays_zero (σ : Spc) (f : Nat) (p : Int) : σ.lays f 0 p = σ := by
  unfold Spc.lays
  cases σ
  congr 1
  · funext m; rw [if_neg (by omega)]
  · funext m; rw [if_neg (by omega)]
theorem lays_succ (σ : Spc) (f k : Nat) (p : Int) : (σ.lays f k p).lay (f + k) p (fun _ => 0) = σ.lays f (k + 1) p := by
  have e1 : ((σ.lays f k p).lay (f + k) p (fun _ => 0)).P = (σ.lays f (k + 1) p).P := by
    funext m
    show (if m = f + k then p else if f ≤ m ∧ m < f + k then p else σ.P m) = if f ≤ m ∧ m < f + (k + 1) then p else σ.P m
    by_cases h : m = f + k
    · rw [if_pos h, if_pos (by omega)]
    · rw [if_neg h]
      by_cases h' : f ≤ m ∧ m < f + k
      · rw [if_pos h', if_pos (by omega)]
      · rw [if_neg h', if_neg (by omega)]
  have e2 : ((σ.lays f k p).lay (f + k) p (fun _ => 0)).B = (σ.lays f (k + 1) p).B := by
    funext x
    show (if x / 4096 = f + k then 0 else if f ≤ x / 4096 ∧ x / 4096 < f + k then 0 else σ.B x) = if f ≤ x / 4096 ∧ x / 4096 < f + (k + 1) then 0 else σ.B x
    by_cases h : x / 4096 = f + k
    · rw [if_pos h, if_pos (by omega)]
    · rw [if_neg h]
      by_cases h' : f ≤ x / 4096 ∧ x / 4096 < f + k
      · rw [if_pos h', if_pos (by omega)]
      · rw [if_neg h', if_neg (by omega)]
  exact congr (congrArg (fun a b => (Spc.mk a b (σ.K + k + 1))) e1) e2
theorem lays_P {f k n : Nat} {p : Int} (h : ¬ (f ≤ n ∧ n < f + k)) : (σ.lays f k p).P n = σ.P n := if_neg h
theorem lays_in {f k n : Nat} {p : Int} (h : f ≤ n ∧ n < f + k) : (σ.lays f k p).P n = p := if_pos h

def mapArg (a s : Nat) (p : Int) : Prop := a % 4096 ≠ 0 ∨ s % 4096 ≠ 0 ∨ s = 0 ∨ p < 1 ∨ 7 < p
theorem mapArg_not {a s : Nat} {p : Int} (h : ¬ mapArg a s p) : a % 4096 = 0 ∧ s % 4096 = 0 ∧ 0 < s ∧ 1 ≤ p ∧ p ≤ 7 := by unfold mapArg at h; omega

theorem zero_page : Try.zeroCells76 = pageVals (fun _ => 0) := by kernel_rfl
/-- What Map's rounds keep. -/
def MapRel (w : World) (F : Nat → Prop) (a : Nat) (σ : Spc) (f k : Nat) (p : Int) (i : Value) (wr : World) : Prop :=
  ∃ j : Nat, i = .int .u64 ((f + j : Nat) : Int) ∧ j ≤ k ∧ SpcAt wr (Foot F w wr) a (σ.lays f j p) ∧ Chg F w wr

set_option maxRecDepth 20000 in
theorem map_ok {a : Nat} (h : SpcAt w F a σ) (at' s : Nat) (p : Int) (ha : ¬ mapArg at' s p) (h7 : belowB at' s = true) (h8 : freeOf σ at' s = true) (h9 : s / 4096 ≤ 8192 - σ.K) :
    Calls Try.prog 19 #[.pointer (some ⟨a, 0, none⟩), .int .u64 at', .int .u64 s, .int .i64 p] w fun e w' => e = .returned (.int .i64 0) ∧ SpcAt w' (Foot F w w') a (σ.lays (at' / 4096) (s / 4096) p) ∧ Chg F w w' := by
  obtain ⟨h1, h2, h3, h4, h5⟩ := mapArg_not ha
  have h6 := belowB_iff.1 h7
  have hfree := freeB_iff.1 ((freeOf_is (by omega) h7).symm.trans h8)
  have g1 : (at' : Int) % 4096 = 0 := by omega
  have g2 : (s : Int) % 4096 = 0 := by omega
  have q1 : ((s : Int) == 0) = false := by simp; omega
  have q2 : decide (p < 1) = false := by simp; omega
  have q3 : decide (7 < p) = false := by simp; omega
  have hK := h.fits.few
  have HB := Lib.hid h7
  have HF := Lib.hid h8
  have N1 := Lib.hid (fun W => numbers_any at' s h3 h6 W)
  have hl : (at' + s - 1) / 4096 + 1 = at' / 4096 + s / 4096 := by omega
  have hf : at' / 4096 + s / 4096 ≤ 34359738368 := by omega
  have hs9 : (s : Int) / 4096 ≤ 8192 - σ.K := by omega
  have hk1 : 1 ≤ s / 4096 := by omega
  obtain ⟨f, hf'⟩ : ∃ f, f = at' / 4096 := ⟨_, rfl⟩
  obtain ⟨l, hl'⟩ : ∃ l, l = (at' + s - 1) / 4096 := ⟨_, rfl⟩
  obtain ⟨k, hk'⟩ : ∃ k, k = s / 4096 := ⟨_, rfl⟩
  rw [← hf', ← hl'] at N1
  rw [← hf', ← hl', ← hk'] at hl
  rw [← hf', ← hk'] at hf
  rw [← hf', ← hl'] at hfree
  rw [← hk'] at h9 hk1
  have HFR := Lib.hid hfree
  rw [← hf', ← hk']
  clear h7 h8 hfree hf' hl' hk' ha
  go_enter Try.func19, Try.ntmps19
  go_wp2_with fail
  refine (isBelow_any at' s w).mono ?_
  rw [HB.out]
  rintro e w1 ⟨rfl, rfl⟩
  go_wp2_with fail
  refine (free_any h at' s).mono ?_
  rw [HF.out]
  rintro e w1 ⟨rfl, hg1⟩
  have C1 : Chg F w w1 := Chg.of_grown hg1 (fun _ h => by cases h)
  have S1 := h.kept (Chg.of_grown hg1 (F := fun _ => False) (fun _ h => by cases h)) (fun _ _ h => h)
  clear hg1
  go_wp2_with fail
  refine (pages_any S1).mono ?_
  rintro e w2 ⟨rfl, rfl⟩
  go_wp2_with fail
  refine (N1.out _).mono ?_
  rintro e w2 ⟨rfl, rfl⟩
  go_wp2_with fail
  go_loopw [11] (fun i wr => MapRel w F a σ f k p i wr) (fun i _ => f + k - (intOf i).toNat)
  case atStart => exact ⟨0, by simp, Nat.zero_le _, by rw [lays_zero]; exact S1.mono (fun _ h => .inl h), C1⟩
  case round =>
    obtain ⟨j, rfl, hj, hS, hC⟩ := hrel
    by_cases hjk : j < k
    · have hle : ((f + j : Nat) : Int) ≤ l := by omega
      have hz := zero_page
      have hlay := lay_any (n := f + j) (p := p) (c := fun _ => 0) hS (by omega) (by rw [lays_P (by omega)]; exact HFR.out _ (by omega) (by omega)) ⟨h4, h5⟩ (fun _ => by omega) (show σ.K + j < 8192 by omega)
      rw [lays_succ, ← hz] at hlay
      have HL := Lib.hid hlay
      clear hlay hz
      go_wp2_with fail
      refine (HL.out).mono ?_
      rintro e w2 ⟨rfl, hS2, hC2⟩
      have HS2 := Lib.hid (hS2.mono (fun x hx => foot_foot hC.size hC2.size x hx))
      have HC2 := Lib.hid (hC.then hC2)
      clear hS2 hC2 hS hC HL
      go_wp2
      go_roundw
      case rel => exact ⟨j + 1, by go_num, hjk, HS2.out, HC2.out⟩
      case measure => simp [intOf]; omega
    · obtain rfl : k = j := by omega
      have hle : ¬ ((f + k : Nat) : Int) ≤ l := by omega
      go_wp2
      go_ret
      exact ⟨rfl, hS, hC⟩

instance (a s : Nat) (p : Int) : Decidable (mapArg a s p) := by unfold mapArg; infer_instance
/-- Map's answer. -/
def mapErr (σ : Spc) (a s : Nat) (p : Int) : Int :=
  if mapArg a s p then 2 else if belowB a s = false then 4 else if freeOf σ a s = false then 21 else if 8192 - σ.K < s / 4096 then 11 else 0
theorem mapErr_arg {a s : Nat} {p : Int} (h : mapArg a s p) : mapErr σ a s p = 2 := if_pos h
theorem mapErr_far {a s : Nat} {p : Int} (h : ¬ mapArg a s p) (h1 : belowB a s = false) : mapErr σ a s p = 4 := by unfold mapErr; rw [if_neg h, if_pos h1]
theorem mapErr_twice {a s : Nat} {p : Int} (h : ¬ mapArg a s p) (h1 : belowB a s = true) (h2 : freeOf σ a s = false) : mapErr σ a s p = 21 := by unfold mapErr; rw [if_neg h, if_neg (by rw [h1]; simp), if_pos h2]
theorem mapErr_many {a s : Nat} {p : Int} (h : ¬ mapArg a s p) (h1 : belowB a s = true) (h2 : freeOf σ a s = true) (h3 : 8192 - σ.K < s / 4096) : mapErr σ a s p = 11 := by unfold mapErr; rw [if_neg h, if_neg (by rw [h1]; simp), if_neg (by rw [h2]; simp), if_pos h3]
theorem mapErr_ok {a s : Nat} {p : Int} (h : ¬ mapArg a s p) (h1 : belowB a s = true) (h2 : freeOf σ a s = true) (h3 : ¬ 8192 - σ.K < s / 4096) : mapErr σ a s p = 0 := by unfold mapErr; rw [if_neg h, if_neg (by rw [h1]; simp), if_neg (by rw [h2]; simp), if_neg h3]

set_option maxRecDepth 20000 in
theorem map_arg {a : Nat} (at' s : Nat) (p : Int) (ha : mapArg at' s p) (w : World) :
    Calls Try.prog 19 #[.pointer (some ⟨a, 0, none⟩), .int .u64 at', .int .u64 s, .int .i64 p] w fun e w' => e = .returned (.int .i64 2) ∧ w = w' := by
  unfold mapArg at ha
  by_cases c1 : at' % 4096 = 0
  · have g1 : (at' : Int) % 4096 = 0 := by omega
    by_cases c2 : s % 4096 = 0
    · have g2 : (s : Int) % 4096 = 0 := by omega
      by_cases c3 : s = 0
      · subst c3
        clear ha c2 g2
        go_enter Try.func19, Try.ntmps19
        go_wp2
        go_ret
        exact ⟨rfl, rfl⟩
      · have q1 : ((s : Int) == 0) = false := by simp; omega
        by_cases c4 : p < 1
        · have q2 : decide (p < 1) = true := by simp; omega
          clear ha
          go_enter Try.func19, Try.ntmps19
          go_wp2
          go_ret
          exact ⟨rfl, rfl⟩
        · have q2 : decide (p < 1) = false := by simp; omega
          have q3 : decide (7 < p) = true := by simp; omega
          clear ha
          go_enter Try.func19, Try.ntmps19
          go_wp2
          go_ret
          exact ⟨rfl, rfl⟩
    · have g2 : ((s : Int) % 4096 != 0) = true := by simp; omega
      have g3 : ((s : Int) % 4096 == 0) = false := by simp; omega
      clear ha
      go_enter Try.func19, Try.ntmps19
      go_wp2
      go_ret
      exact ⟨rfl, rfl⟩
  · have g2 : ((at' : Int) % 4096 != 0) = true := by simp; omega
    have g3 : ((at' : Int) % 4096 == 0) = false := by simp; omega
    clear ha
    go_enter Try.func19, Try.ntmps19
    go_wp2
    go_ret
    exact ⟨rfl, rfl⟩

/-- Map, whole. -/
structure MapOut (w w' : World) (F : Nat → Prop) (a : Nat) (σ : Spc) (at' s : Nat) (p : Int) (e : Ending) : Prop where
  ret : e = .returned (.int .i64 (mapErr σ at' s p))
  done : mapErr σ at' s p = 0 → SpcAt w' (Foot F w w') a (σ.lays (at' / 4096) (s / 4096) p)
  left : mapErr σ at' s p ≠ 0 → SpcAt w' (Foot F w w') a σ
  chg : Chg F w w'

set_option maxRecDepth 20000 in
theorem map_any {a : Nat} (h : SpcAt w F a σ) (at' s : Nat) (p : Int) :
    Calls Try.prog 19 #[.pointer (some ⟨a, 0, none⟩), .int .u64 at', .int .u64 s, .int .i64 p] w fun e w' => MapOut w w' F a σ at' s p e := by
  by_cases ha : mapArg at' s p
  · refine (map_arg at' s p ha w).mono ?_
    rintro e w1 ⟨rfl, rfl⟩
    have e2 := mapErr_arg (σ := σ) ha
    exact ⟨by rw [e2], fun h0 => absurd h0 (by rw [e2]; decide), fun _ => h.mono fun _ h => .inl h, Chg.refl _ _⟩
  · obtain ⟨h1, h2, h3, h4, h5⟩ := mapArg_not ha
    have g1 : (at' : Int) % 4096 = 0 := by omega
    have g2 : (s : Int) % 4096 = 0 := by omega
    have q1 : ((s : Int) == 0) = false := by simp; omega
    have q2 : decide (p < 1) = false := by simp; omega
    have q3 : decide (7 < p) = false := by simp; omega
    have hK := h.fits.few
    cases hb : belowB at' s
    · have E := Lib.hid (mapErr_far (σ := σ) ha hb)
      have HB := Lib.hid hb
      have HS := Lib.hid (show SpcAt w (Foot F w w) a σ from h.mono fun _ h => .inl h)
      clear hb h ha
      go_enter Try.func19, Try.ntmps19
      go_wp2_with fail
      refine (isBelow_any at' s w).mono ?_
      rw [HB.out]
      rintro e w1 ⟨rfl, rfl⟩
      go_wp2
      go_ret
      exact ⟨by rw [E.out]; rfl, fun h0 => absurd h0 (by rw [E.out]; decide), fun _ => HS.out, Chg.refl _ _⟩
    · cases hfr : freeOf σ at' s
      · have E := Lib.hid (mapErr_twice ha hb hfr)
        have HB := Lib.hid hb
        have HF := Lib.hid hfr
        clear hb hfr ha
        go_enter Try.func19, Try.ntmps19
        go_wp2_with fail
        refine (isBelow_any at' s w).mono ?_
        rw [HB.out]
        rintro e w1 ⟨rfl, rfl⟩
        go_wp2_with fail
        refine (free_any h at' s).mono ?_
        rw [HF.out]
        rintro e w1 ⟨rfl, hg1⟩
        have C1 : Chg F w w1 := Chg.of_grown hg1 (fun _ h => by cases h)
        have S1 := h.kept (Chg.of_grown hg1 (F := fun _ => False) (fun _ h => by cases h)) (fun _ _ h => h)
        have HS := Lib.hid (show SpcAt w1 (Foot F w w1) a σ from S1.mono fun _ h => .inl h)
        clear hg1 S1
        go_wp2
        go_ret
        exact ⟨by rw [E.out]; rfl, fun h0 => absurd h0 (by rw [E.out]; decide), fun _ => HS.out, C1⟩
      · by_cases h9 : 8192 - σ.K < s / 4096
        · have h6 := belowB_iff.1 hb
          have E := Lib.hid (mapErr_many ha hb hfr h9)
          have HB := Lib.hid hb
          have HF := Lib.hid hfr
          have h9' : 8192 - (σ.K : Int) < (s : Int) / 4096 := by omega
          clear hb hfr ha h9
          go_enter Try.func19, Try.ntmps19
          go_wp2_with fail
          refine (isBelow_any at' s w).mono ?_
          rw [HB.out]
          rintro e w1 ⟨rfl, rfl⟩
          go_wp2_with fail
          refine (free_any h at' s).mono ?_
          rw [HF.out]
          rintro e w1 ⟨rfl, hg1⟩
          have C1 : Chg F w w1 := Chg.of_grown hg1 (fun _ h => by cases h)
          have S1 := h.kept (Chg.of_grown hg1 (F := fun _ => False) (fun _ h => by cases h)) (fun _ _ h => h)
          have HS := Lib.hid (show SpcAt w1 (Foot F w w1) a σ from S1.mono fun _ h => .inl h)
          clear hg1
          go_wp2_with fail
          refine (pages_any S1).mono ?_
          rintro e w2 ⟨rfl, rfl⟩
          go_wp2
          go_ret
          exact ⟨by rw [E.out]; rfl, fun h0 => absurd h0 (by rw [E.out]; decide), fun _ => HS.out, C1⟩
        · have E := mapErr_ok ha hb hfr h9
          refine (map_ok h at' s p ha hb hfr (by omega)).mono ?_
          rintro e w1 ⟨rfl, hS, hC⟩
          exact ⟨by rw [E], fun _ => hS, fun h0 => absurd E h0, hC⟩
theorem map_nil (at' s : Nat) (p : Int) (w : World) : Calls Try.prog 19 #[.pointer none, .int .u64 at', .int .u64 s, .int .i64 p] w fun e w' => e = .returned (.int .i64 1) ∧ w = w' := by
  go_enter Try.func19, Try.ntmps19
  go_wp2
  go_ret
  exact ⟨rfl, rfl⟩
end Go.Proofs.Ytiolcpnhabipaaa
