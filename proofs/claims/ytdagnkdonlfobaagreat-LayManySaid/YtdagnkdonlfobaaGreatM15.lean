import Derived.Test.YtdagnkdonlfobaaGreatM14
import Derived.Test.YtdagnkdonlfobaaGreatM9
import Derived.Deep.CutRange
import Derived.Test.YtdagnkdonlfobaaGreatM4
import Derived.Maps.OwnIn
/- Free: is no page there? By the numbers, and by the pages. No condition. -/
namespace Go.Proofs.YtdagnkdonlfobaaGreat
open Go.RowKit Go.Maps Go.ChangeMaps
variable {w w' W : World} {F : Nat → Prop} {σ : Spc}

def freeB (σ : Spc) (f l : Nat) : Bool := (List.range (l + 1 - f)).all fun i => decide (σ.P (f + i) = 0)
theorem freeB_iff {f l : Nat} : freeB σ f l = true ↔ ∀ n, f ≤ n → n ≤ l → σ.P n = 0 := by
  unfold freeB
  rw [List.all_eq_true]
  constructor
  · intro h n h1 h2
    have := h (n - f) (List.mem_range.2 (by omega))
    rw [decide_eq_true_iff, show f + (n - f) = n by omega] at this
    exact this
  · intro h i hi
    rw [List.mem_range] at hi
    exact decide_eq_true (h _ (by omega) (by omega))
theorem freeB_no {f l n : Nat} (h1 : f ≤ n) (h2 : n ≤ l) (h : σ.P n ≠ 0) : freeB σ f l = false := by
  cases e : freeB σ f l
  · rfl
  · exact absurd (freeB_iff.1 e n h1 h2) h

set_option maxRecDepth 20000 in
theorem isBare_any {a : Nat} (h : SpcAt w F a σ) (f l : Nat) (hl : l < 34359738368) : Calls Tryz.prog 69 #[.pointer (some ⟨a, 0, none⟩), .int .u64 f, .int .u64 l] w fun e w' => e = .returned (.bool (freeB σ f l)) ∧ w = w' := by
  obtain ⟨_, _, mp, mq, hb, hm⟩ := h
  have c0 : w.cell? ⟨a, 0, none⟩ = some mp := by rw [cell_of hb]; rfl
  have HN := Lib.hid (fun (n : Nat) (h : n < 18446744073709551616) (h0 : σ.P n = 0) => hm.no h h0)
  have HP := Lib.hid (fun (n : Nat) (h : n < 18446744073709551616) (h0 : σ.P n ≠ 0) => hm.page h h0)
  clear hb hm
  go_enter Tryz.func69, Tryz.ntmps69
  go_wp2
  go_loop [7] (fun i => ∃ k : Nat, i = .int .u64 k ∧ f ≤ k ∧ (k ≤ l + 1 ∨ k = f) ∧ ∀ n, f ≤ n → n < k → σ.P n = 0) (fun i => (l + 1 - (intOf i).toNat))
  case atStart => exact ⟨f, rfl, Nat.le_refl _, .inr rfl, fun n h1 h2 => absurd h1 (by omega)⟩
  case round =>
    obtain ⟨k, rfl, hk1, hk2, hk3⟩ := hrel
    have HK := Lib.hid hk3
    clear hk3
    by_cases hkl : k ≤ l
    · have hlt : (k : Int) ≤ l := by omega
      by_cases h0 : σ.P k = 0
      · have hlook := HN.out k (by omega) h0
        have H0 := Lib.hid h0
        clear h0
        go_wp2
        go_round
        case rel => exact ⟨k + 1, by go_num, by omega, by omega, fun n h1 h2 => by
          by_cases e : n = k
          · rw [e]; exact H0.out
          · exact HK.out n h1 (by omega)⟩
        case measure => simp [intOf]; omega
      · obtain ⟨b, hlook, _, _⟩ := HP.out k (by omega) h0
        have hb := Lib.hid (freeB_no (f := f) hk1 hkl h0)
        clear h0
        go_wp2
        go_ret
        exact ⟨ret_bool (by rw [hb.out]), rfl⟩
    · have hlt : ¬ (k : Int) ≤ l := by omega
      have hb := Lib.hid (show freeB σ f l = true from freeB_iff.2 fun n h1 h2 => HK.out n h1 (by omega))
      go_wp2
      go_ret
      exact ⟨ret_bool (by rw [hb.out]), rfl⟩

set_option maxRecDepth 20000 in
theorem isApart_nil (f l : Nat) (w : World) : Calls Tryz.prog 70 #[.pointer none, .int .u64 f, .int .u64 l] w fun e w' => e = .returned (.bool true) ∧ w = w' := by
  go_enter Tryz.func70, Tryz.ntmps70
  go_wp2
  go_ret
  exact ⟨rfl, rfl⟩

set_option maxRecDepth 20000 in
theorem isApart_bare {a : Nat} (hb : w.heap[a]? = some (.cells #[.map none, .map none] 66 (0, 0))) (f l : Nat) : Calls Tryz.prog 70 #[.pointer (some ⟨a, 0, none⟩), .int .u64 f, .int .u64 l] w fun e w' => e = .returned (.bool true) ∧ w.grownBy w' none := by
  have c0 : w.cell? ⟨a, 0, none⟩ = some (.map none) := by rw [cell_of hb]; rfl
  have hg := Lib.hid (grown1 w (.mapIter none 0 #[] 0))
  have hrg := run_range_nilMap (P := Tryz.prog) w 63 33 128 Tryz.underlying63
  have hnx : ∀ ty, (Instr.next (.pointer (some ⟨w.heap.size, 0, none⟩)) false ty).run Tryz.prog (w.alloc (.mapIter none 0 #[] 0)) = _ := fun ty => run_next_nilMap w ty 0 0 #[]
  clear hb
  go_enter Tryz.func70, Tryz.ntmps70
  go_wp2
  refine wp_loop_rounds 1 ?_
  rw [rounds_succ]
  go_wp2
  go_ret
  exact ⟨rfl, hg.out⟩
end Go.Proofs.YtdagnkdonlfobaaGreat

/- Free goes over the pages, and is asked whole. No condition. -/
namespace Go.Proofs.YtdagnkdonlfobaaGreat
open Go.RowKit Go.Maps Go.ChangeMaps
variable {w w' W : World} {F : Nat → Prop} {σ : Spc}

/-- None of the pages that were met lies in the range. -/
def NoneMet (σ : Spc) (f l : Nat) (left : Lit → Bool) : Prop := ∀ n, σ.P n ≠ 0 → left (keyN n) = false → ¬ (f ≤ n ∧ n ≤ l)
def ApartRel (w : World) (bp n0 : Nat) (D : DataW Unit) (σ : Spc) (f l : Nat) (wr : World) : Prop :=
  ∃ left cnt, wr.ranges Tryz.prog 33 ptrElem bp w.heap.size n0 D left cnt ∧ w.grownBy wr none ∧ NoneMet σ f l left

set_option maxRecDepth 20000 in
theorem isApart_full {a bp bq : Nat} {g : Nat → Nat} {Dp Dq : DataW Unit} (hb : w.heap[a]? = some (.cells #[.map (some bp), .map (some bq)] 66 (0, 0))) (hp : PMap w bp σ.K Dp) (hm : MapsOf σ g Dp Dq) (hlow : ∀ n, σ.P n ≠ 0 → n < 34359738368) (f l : Nat) :
    Calls Tryz.prog 70 #[.pointer (some ⟨a, 0, none⟩), .int .u64 f, .int .u64 l] w fun e w' => e = .returned (.bool (freeB σ f l)) ∧ w.grownBy w' none := by
  have c0 : w.cell? ⟨a, 0, none⟩ = some (.map (some bp)) := by rw [cell_of hb]; rfl
  have hp' : w.ownsMap (H := Unit) Tryz.prog 33 ptrElem bp σ.K Dp := hp
  have HM := Lib.hid hm
  have HL := Lib.hid hlow
  have hbp := hp'.lt
  clear hb hp hm hlow
  go_enter Tryz.func70, Tryz.ntmps70
  go_wp2_with (first
    | (at_range; refine wpList_range_own _ rfl _ 63 rfl 33 128 u64keyed Tryz.underlying63 _ bp σ.K _ rfl hp' ?_; intro w0 hrg0 hg0 hs0)
    | go_in)
  go_frame
  clear hs0
  go_loopw [7] (fun _ wr => ApartRel w bp σ.K Dp σ f l wr) (fun _ wr => wr.rangeLeft bp w.heap.size)
  case atStart =>
    refine ⟨_, _, hrg0, hg0, fun n hn hh => ?_⟩
    rw [(HM.out.hasp _).2 ⟨n, rfl, hn⟩] at hh
    cases hh
  case round =>
    obtain ⟨left, cnt, hrg, hgw, hnone⟩ := hrel
    have HN := Lib.hid hnone
    clear hnone
    go_wp2_with (first
      | (at_next; refine wpList_next_ranges _ rfl _ rfl 33 u64keyed ptrElem (fun x : Int => Value.int .u64 x) (id : Value → Value) (fun key kl hk => by obtain ⟨x, hx, _⟩ := keyOf_int_inv Tryz.underlying33 hk; exact ⟨x, hx⟩) (fun v y _ => ⟨v, rfl⟩) bp w.heap.size σ.K _ _ _ rfl hrg ?_ ?_)
      | go_in)
    · intro _ hl0
      have hb := Lib.hid (show freeB σ f l = true from freeB_iff.2 fun n h1 h2 => by
        by_cases h : σ.P n = 0
        · exact h
        · exact absurd ⟨h1, h2⟩ (HN.out n h (hl0 _)))
      clear hl0
      go_wp2
      go_ret
      exact ⟨ret_bool (by rw [hb.out]), hgw⟩
    · intro x c kl yd yp w1 cnt1 hkey hlk hR hat hrg1 hlt hg1 hs1 hen
      obtain ⟨x', ex, rfl, hwf⟩ := keyOf_int_inv Tryz.underlying33 hkey
      obtain rfl : x = x' := by injection ex
      obtain ⟨n, hn, hPn⟩ := (HM.out.hasp _).1 (has_true_of_atKey hat)
      obtain rfl : x = n := by unfold keyN at hn; injection hn
      have hgw1 := hgw.andThen hg1 (fun j hj => by cases hj; exact Or.inl (Nat.le_refl _))
      have HH := Lib.hid hPn
      have HE := Lib.hid hat
      have hnlt := HL.out n hPn
      clear hs1 hPn hat hn hkey ex hwf
      by_cases h1 : f ≤ n
      · have h1' : (f : Int) ≤ n := by omega
        by_cases h2 : n ≤ l
        · have h2' : (n : Int) ≤ l := by omega
          have hb := Lib.hid (freeB_no h1 h2 HH.out)
          go_wp2
          go_ret
          exact ⟨ret_bool (by rw [hb.out]), hgw1⟩
        · have h2' : ¬ (n : Int) ≤ l := by omega
          go_wp2
          go_roundw
          case rel =>
            refine ⟨_, cnt1, hrg1, hgw1, fun m hm hh => ?_⟩
            by_cases e : m = n
            · subst e; omega
            · refine HN.out m hm ?_
              rw [show (Lit.int .u64 (n : Int)) = keyN n from rfl] at hh
              simp only [sameKey_ne (fun h => e (keyN_inj h))] at hh
              simpa using hh
          case measure => rw [hrg1.left_eq, hrg.left_eq]; exact hlt
      · have h1' : ¬ (f : Int) ≤ n := by omega
        have hd : decide ((f : Int) ≤ n) = false := by simp; omega
        go_wp2
        go_roundw
        case rel =>
          refine ⟨_, cnt1, hrg1, hgw1, fun m hm hh => ?_⟩
          by_cases e : m = n
          · subst e; omega
          · refine HN.out m hm ?_
            rw [show (Lit.int .u64 (n : Int)) = keyN n from rfl] at hh
            simp only [sameKey_ne (fun h => e (keyN_inj h))] at hh
            simpa using hh
        case measure => rw [hrg1.left_eq, hrg.left_eq]; exact hlt

theorem isApart_any {a : Nat} (h : SpcAt w F a σ) (f l : Nat) : Calls Tryz.prog 70 #[.pointer (some ⟨a, 0, none⟩), .int .u64 f, .int .u64 l] w fun e w' => e = .returned (.bool (freeB σ f l)) ∧ w.grownBy w' none := by
  obtain ⟨_, hf, mp, mq, hb, hmaps⟩ := h
  cases hmaps with
  | bare h0 hK =>
    have e : freeB σ f l = true := freeB_iff.2 fun n _ _ => h0 n
    rw [e]
    exact isApart_bare hb f l
  | full bp bq g Dp Dq hne hp hq hm fp fq fg => exact isApart_full hb hp hm hf.low f l

def freeOf (σ : Spc) (a s : Nat) : Bool := s == 0 || (belowB a s && freeB σ (a / 4096) ((a + s - 1) / 4096))
theorem freeOf_zero {a : Nat} : freeOf σ a 0 = true := rfl
theorem freeOf_far {a s : Nat} (hs : s ≠ 0) (hb : belowB a s = false) : freeOf σ a s = false := by unfold freeOf; rw [hb]; simp [hs]
theorem freeOf_is {a s : Nat} (hs : s ≠ 0) (hb : belowB a s = true) : freeOf σ a s = freeB σ (a / 4096) ((a + s - 1) / 4096) := by unfold freeOf; rw [hb]; simp [hs]

set_option maxRecDepth 20000 in
theorem free_any {at' : Nat} (h : SpcAt w F at' σ) (a s : Nat) : Calls Tryz.prog 40 #[.pointer (some ⟨at', 0, none⟩), .int .u64 a, .int .u64 s] w fun e w' => e = .returned (.bool (freeOf σ a s)) ∧ w.grownBy w' none := by
  have B1 := fun (b : Bool) (hb : belowB a s = b) (W : World) => (isBelow_any a s W)
  have hg := Lib.hid (grown_refl w none)
  rcases Nat.eq_zero_or_pos s with h0 | h0
  · subst h0
    go_enter Tryz.func40, Tryz.ntmps40
    go_wp2
    go_ret
    exact ⟨rfl, hg.out⟩
  have hs : ((s : Int) == 0) = false := by simp; omega
  have hK := h.fits.few
  cases hb : belowB a s
  · have E := Lib.hid (freeOf_far (σ := σ) (by omega : s ≠ 0) hb)
    have HB := Lib.hid hb
    clear B1 hb
    go_enter Tryz.func40, Tryz.ntmps40
    go_wp2_with fail
    refine (isBelow_any a s w).mono ?_
    rw [HB.out]
    rintro e w1 ⟨rfl, rfl⟩
    go_wp2
    go_ret
    exact ⟨ret_bool (by rw [E.out]), hg.out⟩
  · have E := Lib.hid (freeOf_is (σ := σ) (by omega : s ≠ 0) hb)
    have hbl := belowB_iff.1 hb
    have HB := Lib.hid hb
    have hmono : a / 4096 ≤ (a + s - 1) / 4096 := Nat.div_le_div_right (by omega)
    have htop : (a + s - 1) / 4096 < 34359738368 := by omega
    clear B1 hb
    have N1 := Lib.hid (numbers_any a s h0 hbl w)
    generalize a / 4096 = f at *
    generalize (a + s - 1) / 4096 = l at *
    by_cases hc : l - f < σ.K
    · have hc' : (l : Int) - f < σ.K := by omega
      go_enter Tryz.func40, Tryz.ntmps40
      go_wp2_with fail
      refine (isBelow_any a s w).mono ?_
      rw [HB.out]
      rintro e w1 ⟨rfl, rfl⟩
      go_wp2_with fail
      refine N1.out.mono ?_
      rintro e w1 ⟨rfl, rfl⟩
      go_wp2_with fail
      refine (pages_any h).mono ?_
      rintro e w1 ⟨rfl, rfl⟩
      go_wp2_with fail
      refine (isBare_any h f l htop).mono ?_
      rintro e w1 ⟨rfl, rfl⟩
      go_wp2
      go_ret
      exact ⟨ret_bool (by rw [E.out]), hg.out⟩
    · have hc' : ¬ (l : Int) - f < σ.K := by omega
      go_enter Tryz.func40, Tryz.ntmps40
      go_wp2_with fail
      refine (isBelow_any a s w).mono ?_
      rw [HB.out]
      rintro e w1 ⟨rfl, rfl⟩
      go_wp2_with fail
      refine N1.out.mono ?_
      rintro e w1 ⟨rfl, rfl⟩
      go_wp2_with fail
      refine (pages_any h).mono ?_
      rintro e w1 ⟨rfl, rfl⟩
      go_wp2_with fail
      refine (isApart_any h f l).mono ?_
      rintro e w1 ⟨rfl, hg1⟩
      go_wp2
      go_ret
      exact ⟨ret_bool (by rw [E.out]), hg1⟩
end Go.Proofs.YtdagnkdonlfobaaGreat

/- Map: the error, or pages of noughts. No condition. -/
namespace Go.Proofs.YtdagnkdonlfobaaGreat
open Go.RowKit Go.Maps Go.ChangeMaps
variable {w w' W : World} {F : Nat → Prop} {σ : Spc}

theorem foot_foot {w1 w2 : World} (h1 : w.heap.size ≤ w1.heap.size) (h2 : w1.heap.size ≤ w2.heap.size) (k : Nat) (h : Foot (Foot F w w1) w1 w2 k) : Foot F w w2 k := by
  unfold Foot at *
  rcases h with (h | h) | h
  · exact .inl h
  · exact .inr (by omega)
  · exact .inr (by omega)
def Spc.lays (σ : Spc) (f k : Nat) (p : Int) : Spc := ⟨fun m => if f ≤ m ∧ m < f + k then p else σ.P m, fun x => if f ≤ x / 4096 ∧ x / 4096 < f + k then 0 else σ.B x, σ.K + k⟩
theorem lays_zero (σ : Spc) (f : Nat) (p : Int) : σ.lays f 0 p = σ := by
  unfold Spc.lays
  cases σ
  congr 1
  · funext m; rw [if_neg (by omega)]
  · funext m; rw [if_neg (by omega)]
theorem lays_succ (σ : Spc) (f k : Nat) (p : Int) : (σ.lays f k p).lay (f + k) p (fun _ => 0) = σ.lays f (k + 1) p := by
  have e1 : ((σ.lays f k p).lay (f + k) p (fun _ => 0)).P = (σ.lays f (k + 1) p).P := by
    funext m
    show (if m = f + k then p else if f ≤ m ∧ m < f + k then p else σ.P m) = if f ≤ m ∧ m < f + (k + 1) then p else σ.P m
    by_cases h : m = f + k
    · rw [if_pos h, if_pos (by omega)]
    · rw [if_neg h]
      by_cases h' : f ≤ m ∧ m < f + k
      · rw [if_pos h', if_pos (by omega)]
      · rw [if_neg h', if_neg (by omega)]
  have e2 : ((σ.lays f k p).lay (f + k) p (fun _ => 0)).B = (σ.lays f (k + 1) p).B := by
    funext x
    show (if x / 4096 = f + k then 0 else if f ≤ x / 4096 ∧ x / 4096 < f + k then 0 else σ.B x) = if f ≤ x / 4096 ∧ x / 4096 < f + (k + 1) then 0 else σ.B x
    by_cases h : x / 4096 = f + k
    · rw [if_pos h, if_pos (by omega)]
    · rw [if_neg h]
      by_cases h' : f ≤ x / 4096 ∧ x / 4096 < f + k
      · rw [if_pos h', if_pos (by omega)]
      · rw [if_neg h', if_neg (by omega)]
  exact congr (congrArg (fun a b => (Spc.mk a b (σ.K + k + 1))) e1) e2
theorem lays_P {f k n : Nat} {p : Int} (h : ¬ (f ≤ n ∧ n < f + k)) : (σ.lays f k p).P n = σ.P n := if_neg h
theorem lays_in {f k n : Nat} {p : Int} (h : f ≤ n ∧ n < f + k) : (σ.lays f k p).P n = p := if_pos h

def mapArg (a s : Nat) (p : Int) : Prop := a % 4096 ≠ 0 ∨ s % 4096 ≠ 0 ∨ s = 0 ∨ p < 1 ∨ 7 < p
theorem mapArg_not {a s : Nat} {p : Int} (h : ¬ mapArg a s p) : a % 4096 = 0 ∧ s % 4096 = 0 ∧ 0 < s ∧ 1 ≤ p ∧ p ≤ 7 := by unfold mapArg at h; omega

theorem zero_page : Tryz.zeroCells99 = pageVals (fun _ => 0) := by kernel_rfl
/-- What Map's rounds keep. -/
def MapRel (w : World) (F : Nat → Prop) (a : Nat) (σ : Spc) (f k : Nat) (p : Int) (i : Value) (wr : World) : Prop :=
  ∃ j : Nat, i = .int .u64 ((f + j : Nat) : Int) ∧ j ≤ k ∧ SpcAt wr (Foot F w wr) a (σ.lays f j p) ∧ Chg F w wr

set_option maxRecDepth 20000 in
theorem map_ok {a : Nat} (h : SpcAt w F a σ) (at' s : Nat) (p : Int) (ha : ¬ mapArg at' s p) (h7 : belowB at' s = true) (h8 : freeOf σ at' s = true) (h9 : s / 4096 ≤ 8192 - σ.K) :
    Calls Tryz.prog 17 #[.pointer (some ⟨a, 0, none⟩), .int .u64 at', .int .u64 s, .int .i64 p] w fun e w' => e = .returned (.int .i64 0) ∧ SpcAt w' (Foot F w w') a (σ.lays (at' / 4096) (s / 4096) p) ∧ Chg F w w' := by
  obtain ⟨h1, h2, h3, h4, h5⟩ := mapArg_not ha
  have h6 := belowB_iff.1 h7
  have hfree := freeB_iff.1 ((freeOf_is (by omega) h7).symm.trans h8)
  have g1 : (at' : Int) % 4096 = 0 := by omega
  have g2 : (s : Int) % 4096 = 0 := by omega
  have q1 : ((s : Int) == 0) = false := by simp; omega
  have q2 : decide (p < 1) = false := by simp; omega
  have q3 : decide (7 < p) = false := by simp; omega
  have hK := h.fits.few
  have HB := Lib.hid h7
  have HF := Lib.hid h8
  have N1 := Lib.hid (fun W => numbers_any at' s h3 h6 W)
  have hl : (at' + s - 1) / 4096 + 1 = at' / 4096 + s / 4096 := by omega
  have hf : at' / 4096 + s / 4096 ≤ 34359738368 := by omega
  have hs9 : (s : Int) / 4096 ≤ 8192 - σ.K := by omega
  have hk1 : 1 ≤ s / 4096 := by omega
  obtain ⟨f, hf'⟩ : ∃ f, f = at' / 4096 := ⟨_, rfl⟩
  obtain ⟨l, hl'⟩ : ∃ l, l = (at' + s - 1) / 4096 := ⟨_, rfl⟩
  obtain ⟨k, hk'⟩ : ∃ k, k = s / 4096 := ⟨_, rfl⟩
  rw [← hf', ← hl'] at N1
  rw [← hf', ← hl', ← hk'] at hl
  rw [← hf', ← hk'] at hf
  rw [← hf', ← hl'] at hfree
  rw [← hk'] at h9 hk1
  have HFR := Lib.hid hfree
  rw [← hf', ← hk']
  clear h7 h8 hfree hf' hl' hk' ha
  go_enter Tryz.func17, Tryz.ntmps17
  go_wp2_with fail
  refine (isBelow_any at' s w).mono ?_
  rw [HB.out]
  rintro e w1 ⟨rfl, rfl⟩
  go_wp2_with fail
  refine (free_any h at' s).mono ?_
  rw [HF.out]
  rintro e w1 ⟨rfl, hg1⟩
  have C1 : Chg F w w1 := Chg.of_grown hg1 (fun _ h => by cases h)
  have S1 := h.kept (Chg.of_grown hg1 (F := fun _ => False) (fun _ h => by cases h)) (fun _ _ h => h)
  clear hg1
  go_wp2_with fail
  refine (pages_any S1).mono ?_
  rintro e w2 ⟨rfl, rfl⟩
  go_wp2_with fail
  refine (N1.out _).mono ?_
  rintro e w2 ⟨rfl, rfl⟩
  go_wp2_with fail
  go_loopw [11] (fun i wr => MapRel w F a σ f k p i wr) (fun i _ => f + k - (intOf i).toNat)
  case atStart => exact ⟨0, by simp, Nat.zero_le _, by rw [lays_zero]; exact S1.mono (fun _ h => .inl h), C1⟩
  case round =>
    obtain ⟨j, rfl, hj, hS, hC⟩ := hrel
    by_cases hjk : j < k
    · have hle : ((f + j : Nat) : Int) ≤ l := by omega
      have hz := zero_page
      have hlay := lay_any (n := f + j) (p := p) (c := fun _ => 0) hS (by omega) (by rw [lays_P (by omega)]; exact HFR.out _ (by omega) (by omega)) ⟨h4, h5⟩ (fun _ => by omega) (show σ.K + j < 8192 by omega)
      rw [lays_succ, ← hz] at hlay
      have HL := Lib.hid hlay
      clear hlay hz
      go_wp2_with fail
      refine (HL.out).mono ?_
      rintro e w2 ⟨rfl, hS2, hC2⟩
      have HS2 := Lib.hid (hS2.mono (fun x hx => foot_foot hC.size hC2.size x hx))
      have HC2 := Lib.hid (hC.then hC2)
      clear hS2 hC2 hS hC HL
      go_wp2
      go_roundw
      case rel => exact ⟨j + 1, by go_num, hjk, HS2.out, HC2.out⟩
      case measure => simp [intOf]; omega
    · obtain rfl : k = j := by omega
      have hle : ¬ ((f + k : Nat) : Int) ≤ l := by omega
      go_wp2
      go_ret
      exact ⟨rfl, hS, hC⟩

instance (a s : Nat) (p : Int) : Decidable (mapArg a s p) := by unfold mapArg; infer_instance
/-- Map's answer. -/
def mapErr (σ : Spc) (a s : Nat) (p : Int) : Int :=
  if mapArg a s p then 2 else if belowB a s = false then 4 else if freeOf σ a s = false then 21 else if 8192 - σ.K < s / 4096 then 11 else 0
theorem mapErr_arg {a s : Nat} {p : Int} (h : mapArg a s p) : mapErr σ a s p = 2 := if_pos h
theorem mapErr_far {a s : Nat} {p : Int} (h : ¬ mapArg a s p) (h1 : belowB a s = false) : mapErr σ a s p = 4 := by unfold mapErr; rw [if_neg h, if_pos h1]
theorem mapErr_twice {a s : Nat} {p : Int} (h : ¬ mapArg a s p) (h1 : belowB a s = true) (h2 : freeOf σ a s = false) : mapErr σ a s p = 21 := by unfold mapErr; rw [if_neg h, if_neg (by rw [h1]; simp), if_pos h2]
theorem mapErr_many {a s : Nat} {p : Int} (h : ¬ mapArg a s p) (h1 : belowB a s = true) (h2 : freeOf σ a s = true) (h3 : 8192 - σ.K < s / 4096) : mapErr σ a s p = 11 := by unfold mapErr; rw [if_neg h, if_neg (by rw [h1]; simp), if_neg (by rw [h2]; simp), if_pos h3]
theorem mapErr_ok {a s : Nat} {p : Int} (h : ¬ mapArg a s p) (h1 : belowB a s = true) (h2 : freeOf σ a s = true) (h3 : ¬ 8192 - σ.K < s / 4096) : mapErr σ a s p = 0 := by unfold mapErr; rw [if_neg h, if_neg (by rw [h1]; simp), if_neg (by rw [h2]; simp), if_neg h3]

set_option maxRecDepth 20000 in
theorem map_arg {a : Nat} (at' s : Nat) (p : Int) (ha : mapArg at' s p) (w : World) :
    Calls Tryz.prog 17 #[.pointer (some ⟨a, 0, none⟩), .int .u64 at', .int .u64 s, .int .i64 p] w fun e w' => e = .returned (.int .i64 2) ∧ w = w' := by
  unfold mapArg at ha
  by_cases c1 : at' % 4096 = 0
  · have g1 : (at' : Int) % 4096 = 0 := by omega
    by_cases c2 : s % 4096 = 0
    · have g2 : (s : Int) % 4096 = 0 := by omega
      by_cases c3 : s = 0
      · subst c3
        clear ha c2 g2
        go_enter Tryz.func17, Tryz.ntmps17
        go_wp2
        go_ret
        exact ⟨rfl, rfl⟩
      · have q1 : ((s : Int) == 0) = false := by simp; omega
        by_cases c4 : p < 1
        · have q2 : decide (p < 1) = true := by simp; omega
          clear ha
          go_enter Tryz.func17, Tryz.ntmps17
          go_wp2
          go_ret
          exact ⟨rfl, rfl⟩
        · have q2 : decide (p < 1) = false := by simp; omega
          have q3 : decide (7 < p) = true := by simp; omega
          clear ha
          go_enter Tryz.func17, Tryz.ntmps17
          go_wp2
          go_ret
          exact ⟨rfl, rfl⟩
    · have g2 : ((s : Int) % 4096 != 0) = true := by simp; omega
      have g3 : ((s : Int) % 4096 == 0) = false := by simp; omega
      clear ha
      go_enter Tryz.func17, Tryz.ntmps17
      go_wp2
      go_ret
      exact ⟨rfl, rfl⟩
  · have g2 : ((at' : Int) % 4096 != 0) = true := by simp; omega
    have g3 : ((at' : Int) % 4096 == 0) = false := by simp; omega
    clear ha
    go_enter Tryz.func17, Tryz.ntmps17
    go_wp2
    go_ret
    exact ⟨rfl, rfl⟩

/-- Map, whole. -/
structure MapOut (w w' : World) (F : Nat → Prop) (a : Nat) (σ : Spc) (at' s : Nat) (p : Int) (e : Ending) : Prop where
  ret : e = .returned (.int .i64 (mapErr σ at' s p))
  done : mapErr σ at' s p = 0 → SpcAt w' (Foot F w w') a (σ.lays (at' / 4096) (s / 4096) p)
  left : mapErr σ at' s p ≠ 0 → SpcAt w' (Foot F w w') a σ
  chg : Chg F w w'

set_option maxRecDepth 20000 in
theorem map_any {a : Nat} (h : SpcAt w F a σ) (at' s : Nat) (p : Int) :
    Calls Tryz.prog 17 #[.pointer (some ⟨a, 0, none⟩), .int .u64 at', .int .u64 s, .int .i64 p] w fun e w' => MapOut w w' F a σ at' s p e := by
  by_cases ha : mapArg at' s p
  · refine (map_arg at' s p ha w).mono ?_
    rintro e w1 ⟨rfl, rfl⟩
    have e2 := mapErr_arg (σ := σ) ha
    exact ⟨by rw [e2], fun h0 => absurd h0 (by rw [e2]; decide), fun _ => h.mono fun _ h => .inl h, Chg.refl _ _⟩
  · obtain ⟨h1, h2, h3, h4, h5⟩ := mapArg_not ha
    have g1 : (at' : Int) % 4096 = 0 := by omega
    have g2 : (s : Int) % 4096 = 0 := by omega
    have q1 : ((s : Int) == 0) = false := by simp; omega
    have q2 : decide (p < 1) = false := by simp; omega
    have q3 : decide (7 < p) = false := by simp; omega
    have hK := h.fits.few
    cases hb : belowB at' s
    · have E := Lib.hid (mapErr_far (σ := σ) ha hb)
      have HB := Lib.hid hb
      have HS := Lib.hid (show SpcAt w (Foot F w w) a σ from h.mono fun _ h => .inl h)
      clear hb h ha
      go_enter Tryz.func17, Tryz.ntmps17
      go_wp2_with fail
      refine (isBelow_any at' s w).mono ?_
      rw [HB.out]
      rintro e w1 ⟨rfl, rfl⟩
      go_wp2
      go_ret
      exact ⟨by rw [E.out]; rfl, fun h0 => absurd h0 (by rw [E.out]; decide), fun _ => HS.out, Chg.refl _ _⟩
    · cases hfr : freeOf σ at' s
      · have E := Lib.hid (mapErr_twice ha hb hfr)
        have HB := Lib.hid hb
        have HF := Lib.hid hfr
        clear hb hfr ha
        go_enter Tryz.func17, Tryz.ntmps17
        go_wp2_with fail
        refine (isBelow_any at' s w).mono ?_
        rw [HB.out]
        rintro e w1 ⟨rfl, rfl⟩
        go_wp2_with fail
        refine (free_any h at' s).mono ?_
        rw [HF.out]
        rintro e w1 ⟨rfl, hg1⟩
        have C1 : Chg F w w1 := Chg.of_grown hg1 (fun _ h => by cases h)
        have S1 := h.kept (Chg.of_grown hg1 (F := fun _ => False) (fun _ h => by cases h)) (fun _ _ h => h)
        have HS := Lib.hid (show SpcAt w1 (Foot F w w1) a σ from S1.mono fun _ h => .inl h)
        clear hg1 S1
        go_wp2
        go_ret
        exact ⟨by rw [E.out]; rfl, fun h0 => absurd h0 (by rw [E.out]; decide), fun _ => HS.out, C1⟩
      · by_cases h9 : 8192 - σ.K < s / 4096
        · have h6 := belowB_iff.1 hb
          have E := Lib.hid (mapErr_many ha hb hfr h9)
          have HB := Lib.hid hb
          have HF := Lib.hid hfr
          have h9' : 8192 - (σ.K : Int) < (s : Int) / 4096 := by omega
          clear hb hfr ha h9
          go_enter Tryz.func17, Tryz.ntmps17
          go_wp2_with fail
          refine (isBelow_any at' s w).mono ?_
          rw [HB.out]
          rintro e w1 ⟨rfl, rfl⟩
          go_wp2_with fail
          refine (free_any h at' s).mono ?_
          rw [HF.out]
          rintro e w1 ⟨rfl, hg1⟩
          have C1 : Chg F w w1 := Chg.of_grown hg1 (fun _ h => by cases h)
          have S1 := h.kept (Chg.of_grown hg1 (F := fun _ => False) (fun _ h => by cases h)) (fun _ _ h => h)
          have HS := Lib.hid (show SpcAt w1 (Foot F w w1) a σ from S1.mono fun _ h => .inl h)
          clear hg1
          go_wp2_with fail
          refine (pages_any S1).mono ?_
          rintro e w2 ⟨rfl, rfl⟩
          go_wp2
          go_ret
          exact ⟨by rw [E.out]; rfl, fun h0 => absurd h0 (by rw [E.out]; decide), fun _ => HS.out, C1⟩
        · have E := mapErr_ok ha hb hfr h9
          refine (map_ok h at' s p ha hb hfr (by omega)).mono ?_
          rintro e w1 ⟨rfl, hS, hC⟩
          exact ⟨by rw [E], fun _ => hS, fun h0 => absurd E h0, hC⟩
theorem map_nil (at' s : Nat) (p : Int) (w : World) : Calls Tryz.prog 17 #[.pointer none, .int .u64 at', .int .u64 s, .int .i64 p] w fun e w' => e = .returned (.int .i64 1) ∧ w = w' := by
  go_enter Tryz.func17, Tryz.ntmps17
  go_wp2
  go_ret
  exact ⟨rfl, rfl⟩
end Go.Proofs.YtdagnkdonlfobaaGreat

/- May a range be read, or written: is each of its bytes there, and has its page all of a protection? No condition. -/
namespace Go.Proofs.YtdagnkdonlfobaaGreat
open Go.RowKit Go.Maps Go.ChangeMaps
variable {w w' W : World} {F : Nat → Prop} {σ : Spc}

def lackB (x p : Int) : Bool := bits BinOp.and IntKind.i64 x p != p
def lackAny (σ : Spc) (f k : Nat) (p : Int) : Bool := (List.range k).any fun i => lackB (σ.P (f + i)) p
def thereB (σ : Spc) (f k : Nat) : Bool := (List.range k).all fun i => decide (σ.P (f + i) ≠ 0)
theorem lackAny_succ (f k : Nat) (p : Int) : lackAny σ f (k + 1) p = (lackAny σ f k p || lackB (σ.P (f + k)) p) := by
  unfold lackAny
  rw [List.range_succ, List.any_append]
  simp
theorem thereB_succ (f k : Nat) : thereB σ f (k + 1) = (thereB σ f k && decide (σ.P (f + k) ≠ 0)) := by
  unfold thereB
  rw [List.range_succ, List.all_append]
  simp
theorem thereB_iff {f k : Nat} : thereB σ f k = true ↔ ∀ n, f ≤ n → n < f + k → σ.P n ≠ 0 := by
  unfold thereB
  rw [List.all_eq_true]
  constructor
  · intro h n h1 h2
    have := h (n - f) (List.mem_range.2 (by omega))
    rw [decide_eq_true_iff, show f + (n - f) = n by omega] at this
    exact this
  · intro h i hi
    rw [List.mem_range] at hi
    exact decide_eq_true (h _ (by omega) (by omega))
theorem thereB_no {f k n : Nat} (h1 : f ≤ n) (h2 : n < f + k) (h : σ.P n = 0) : thereB σ f k = false := by
  cases e : thereB σ f k
  · rfl
  · exact absurd h (thereB_iff.1 e n h1 h2)
def errOf (b : Bool) : Int := if b then 19 else 0
def spanK (a s : Nat) : Nat := (a + s - 1) / 4096 + 1 - a / 4096
/-- What a range's reading, or writing, is answered. -/
def mayErr (σ : Spc) (a s : Nat) (p : Int) : Int :=
  if s = 0 then 0 else if belowB a s = false then 4 else if thereB σ (a / 4096) (spanK a s) = false then 4 else errOf (lackAny σ (a / 4096) (spanK a s) p)
theorem mayErr_zero {a : Nat} {p : Int} : mayErr σ a 0 p = 0 := rfl
theorem mayErr_far {a s : Nat} {p : Int} (hs : s ≠ 0) (h : belowB a s = false) : mayErr σ a s p = 4 := by unfold mayErr; rw [if_neg hs, if_pos h]
theorem mayErr_gap {a s : Nat} {p : Int} (hs : s ≠ 0) (hb : belowB a s = true) (h : thereB σ (a / 4096) (spanK a s) = false) : mayErr σ a s p = 4 := by unfold mayErr; rw [if_neg hs, if_neg (by rw [hb]; simp), if_pos h]
theorem mayErr_is {a s : Nat} {p : Int} (hs : s ≠ 0) (hb : belowB a s = true) (h : thereB σ (a / 4096) (spanK a s) = true) : mayErr σ a s p = errOf (lackAny σ (a / 4096) (spanK a s) p) := by unfold mayErr; rw [if_neg hs, if_neg (by rw [hb]; simp), if_neg (by rw [h]; simp)]

def MayRel (σ : Spc) (f k : Nat) (p : Int) (er i : Value) : Prop := ∃ j : Nat, i = .int .u64 ((f + j : Nat) : Int) ∧ j ≤ k ∧ er = .int .i64 (errOf (lackAny σ f j p)) ∧ thereB σ f j = true

set_option maxRecDepth 20000 in
theorem spmay_any {a : Nat} (h : SpcAt w F a σ) (at' s : Nat) (p : Int) :
    Calls Tryz.prog 95 #[.pointer (some ⟨a, 0, none⟩), .int .u64 at', .int .u64 s, .int .i64 p] w fun e w' => e = .returned (.int .i64 (mayErr σ at' s p)) ∧ w = w' := by
  have hf := h.fits
  obtain ⟨_, _, mp, mq, hb, hm⟩ := h
  have c1 : w.cell? ⟨a, 1, none⟩ = some mq := by rw [cell_of hb]; rfl
  have HM := Lib.hid (fun (n : Nat) (h : n < 18446744073709551616) => hm.prot_ok h)
  clear hb hm
  rcases Nat.eq_zero_or_pos s with h0 | h3
  · subst h0
    go_enter Tryz.func95, Tryz.ntmps95
    go_wp2
    go_ret
    exact ⟨rfl, rfl⟩
  have q1 : ((s : Int) == 0) = false := by simp; omega
  cases hbl : belowB at' s
  · have E := Lib.hid (mayErr_far (σ := σ) (p := p) (by omega : s ≠ 0) hbl)
    have HB := Lib.hid hbl
    clear hbl
    go_enter Tryz.func95, Tryz.ntmps95
    go_wp2_with fail
    refine (isBelow_any at' s w).mono ?_
    rw [HB.out]
    rintro e w1 ⟨rfl, rfl⟩
    go_wp2
    go_ret
    exact ⟨by rw [E.out]; rfl, rfl⟩
  · have h6 := belowB_iff.1 hbl
    have EG := Lib.hid (mayErr_gap (σ := σ) (p := p) (by omega : s ≠ 0) hbl)
    have EI := Lib.hid (mayErr_is (σ := σ) (p := p) (by omega : s ≠ 0) hbl)
    have HB := Lib.hid hbl
    have N1 := Lib.hid (fun W => numbers_any at' s h3 h6 W)
    have hk : at' / 4096 + spanK at' s = (at' + s - 1) / 4096 + 1 := by unfold spanK; have : at' / 4096 ≤ (at' + s - 1) / 4096 := Nat.div_le_div_right (by omega); omega
    have htop : (at' + s - 1) / 4096 < 34359738368 := by omega
    clear hbl
    obtain ⟨f, hf'⟩ : ∃ f, f = at' / 4096 := ⟨_, rfl⟩
    obtain ⟨l, hl'⟩ : ∃ l, l = (at' + s - 1) / 4096 := ⟨_, rfl⟩
    obtain ⟨k, hk'⟩ : ∃ k, k = spanK at' s := ⟨_, rfl⟩
    rw [← hf', ← hl'] at N1
    rw [← hf', ← hl', ← hk'] at hk
    rw [← hl'] at htop
    rw [← hf', ← hk'] at EG EI
    clear hf' hl' hk'
    go_enter Tryz.func95, Tryz.ntmps95
    go_wp2_with fail
    refine (isBelow_any at' s w).mono ?_
    rw [HB.out]
    rintro e w1 ⟨rfl, rfl⟩
    go_wp2_with fail
    refine (N1.out _).mono ?_
    rintro e w2 ⟨rfl, rfl⟩
    go_wp2_with fail
    go_loop [9, 12, 13, 14] (fun er i _ _ => MayRel σ f k p er i) (fun _ i _ _ => f + k - (intOf i).toNat)
    case atStart => exact ⟨0, rfl, Nat.zero_le _, rfl, rfl⟩
    case round =>
      obtain ⟨j, rfl, hj, rfl, hth⟩ := hrel
      have HT := Lib.hid hth
      clear hth
      obtain ⟨E0, hE0⟩ : ∃ x, x = errOf (lackAny σ f j p) := ⟨_, rfl⟩
      rw [← hE0]
      have HE := Lib.hid hE0
      clear hE0
      obtain ⟨m, hm⟩ : ∃ m : Nat, f + j = m := ⟨_, rfl⟩
      have hmj : m + 1 = f + (j + 1) := by omega
      have MJ := Lib.hid (show ((m : Int) + 1) = ((f + (j + 1) : Nat) : Int) by omega)
      rw [hm]
      by_cases hjk : j < k
      · have hle : (m : Int) ≤ l := by omega
        have hl := HM.out m (by omega)
        by_cases hP : σ.P m = 0
        · have hd : decide (σ.P m ≠ 0) = false := decide_eq_false (fun h => h hP)
          have E := Lib.hid (EG.out (thereB_no (by omega) (by omega) hP))
          rw [hd, hP] at hl
          clear hd hP hm hmj
          go_wp2
          go_ret
          exact ⟨by rw [E.out]; rfl, rfl⟩
        · have hd : decide (σ.P m ≠ 0) = true := decide_eq_true hP
          have HT1 := Lib.hid (show thereB σ f (j + 1) = true from by rw [thereB_succ, HT.out, hm, hd]; rfl)
          rw [hd] at hl
          have hs := lackAny_succ (σ := σ) f j p
          rw [hm] at hs
          have hh : 0 ≤ σ.P m ∧ σ.P m ≤ 7 := hf.prot _
          clear hd hP
          generalize σ.P m = x at *
          cases hlk : lackB x p
          · have hlk' : (bits BinOp.and IntKind.i64 x p != p) = false := hlk
            rw [hlk, Bool.or_false] at hs
            have HS := Lib.hid (show E0 = errOf (lackAny σ f (j + 1) p) from by rw [hs]; exact HE.out)
            clear hs hlk hm hmj
            go_wp2
            go_round
            case rel => exact ⟨j + 1, by rw [MJ.out], hjk, by rw [← HS.out], HT1.out⟩
            case measure => simp [intOf]; omega
          · have hlk' : (bits BinOp.and IntKind.i64 x p != p) = true := hlk
            rw [hlk, Bool.or_true] at hs
            have HS := Lib.hid (show (19 : Int) = errOf (lackAny σ f (j + 1) p) from by rw [hs]; rfl)
            clear hs hlk hm hmj
            go_wp2
            go_round
            case rel => exact ⟨j + 1, by rw [MJ.out], hjk, by rw [← HS.out], HT1.out⟩
            case measure => simp [intOf]; omega
      · obtain rfl : k = j := by omega
        have hle : ¬ (m : Int) ≤ l := by omega
        have E := Lib.hid (EI.out HT.out)
        clear hm hmj
        go_wp2
        go_ret
        exact ⟨by rw [E.out, HE.out]; rfl, rfl⟩
theorem spmay_nil (at' s : Nat) (p : Int) (w : World) : Calls Tryz.prog 95 #[.pointer none, .int .u64 at', .int .u64 s, .int .i64 p] w fun e w' => e = .returned (.int .i64 1) ∧ w = w' := by
  go_enter Tryz.func95, Tryz.ntmps95
  go_wp2
  go_ret
  exact ⟨rfl, rfl⟩
end Go.Proofs.YtdagnkdonlfobaaGreat

/- The iterator over a range's parts, page by page, whatever is done with them, if it keeps the space's maps. No condition but that the range's pages are there. -/
namespace Go.Proofs.YtdagnkdonlfobaaGreat
open Go.RowKit Go.Maps Go.ChangeMaps
attribute [local go_sem] Oper.semAt_some
variable {w w' W : World} {F : Nat → Prop} {σ : Spc}

/-- How many bytes the part has that begins k bytes behind an address, of n. -/
def partLen (a n k : Nat) : Nat := min (4096 - (a + k) % 4096) (n - k)
theorem partLen_pos {a n k : Nat} (h : k < n) : 0 < partLen a n k ∧ k + partLen a n k ≤ n := by
  unfold partLen
  have : (a + k) % 4096 < 4096 := Nat.mod_lt _ (by omega)
  omega

theorem page_arr : Tryz.prog.underlying 99 = some (.array (Tryz.prog.arrayLen 99) (Tryz.prog.elem 99)) := by kernel_rfl
theorem page_len : Tryz.prog.arrayLen 99 = 4096 := by kernel_rfl
theorem page_elem (w : World) : (sizeOf (Tryz.prog.elem 99)).run Tryz.prog w = .ok 1 w := by kernel_rfl
/-- A page's bytes from one on. -/
theorem slice_page (G q : Nat) (w : World) : (Instr.sliceAt 99 (.pointer (some ⟨G, 0, none⟩)) (some (.int .u64 ((q : Int) % 4096))) none none).run Tryz.prog w = .ok (.slice (some ⟨G, q % 4096, none⟩) (4096 - q % 4096) (4096 - q % 4096)) w := by
  have hlt : q % 4096 < 4096 := Nat.mod_lt _ (by omega)
  rw [run_sliceAt_array_l w 99 ⟨G, 0, none⟩ page_arr .u64 _ (by omega) (by rw [page_len]; omega), page_elem, page_len]
  show Result.ok (slicedAt _ _ _ _ _) w = _
  unfold slicedAt
  have e : ((q : Int) % 4096).toNat = q % 4096 := by omega
  rw [e, if_neg (by omega), Nat.mul_one, add_flat, Nat.zero_add]
/-- What a round may rely on, and must keep. -/
structure PartsOk (P : Program) (l a : Nat) (n : Nat) (g : Nat → Nat) (bs sp : Nat) (mp : Value) (J : Nat → World → Prop) : Prop where
  reads : ∀ k W, J k W → W.cell? ⟨bs, 0, none⟩ = some (.pointer (some ⟨sp, 0, none⟩)) ∧ W.cell? ⟨sp, 0, none⟩ = some mp ∧
    ∀ m, 0 < n → a / 4096 ≤ m → m ≤ (a + n - 1) / 4096 → (Instr.lookup 63 mp (.int .u64 m) false).run P W = .ok (.pointer (some ⟨g m, 0, none⟩)) W
  round : ∀ k W, J k W → k < n → YieldAt Fence.wide 0 P l #[.slice (some ⟨g ((a + k) / 4096), (a + k) % 4096, none⟩) (partLen a n k) (4096 - (a + k) % 4096)] W fun e W' => e = .returned (.bool true) ∧ J (k + partLen a n k) W'
  draws : ∀ k W m, J k W → J k (W.drewN m)

set_option maxRecDepth 20000 in
set_option maxHeartbeats 1600000 in
theorem parts1_any (l a n : Nat) (h64 : a < 18446744073709551616) (h47 : 0 < n → a + n ≤ 140737488355328) (g : Nat → Nat) (ba bn bs sp : Nat) (mp : Value) (J : Nat → World → Prop)
    (ha : w.cell? ⟨ba, 0, none⟩ = some (.int .u64 a)) (hn : w.cell? ⟨bn, 0, none⟩ = some (.int .u64 n)) (hJ : PartsOk Tryz.prog l a n g bs sp mp J) (h0 : J 0 w) :
    Calls Tryz.prog 136 #[.func (.yield l) #[] #[], .pointer (some ⟨ba, 0, none⟩), .pointer (some ⟨bn, 0, none⟩), .pointer (some ⟨bs, 0, none⟩)] w fun e w' => (∃ v, e = .returned v) ∧ J n w' := by
  have JO := Lib.hid hJ
  have J0 := Lib.hid (fun m => hJ.draws 0 w m h0)
  clear hJ h0
  have hw := Lib.hid (show IntKind.u64.wrap ((a : Int) + n) = a + n from IntWalk.u64_in _ (by rcases Nat.eq_zero_or_pos n with h | h; omega; have := h47 h; omega))
  have H47 := Lib.hid h47
  clear h47
  have hw' := hw.out
  go_enter Tryz.func136, Tryz.ntmps136
  go_wp2
  go_quiet (fail)
  clear ha hn hw'
  have J1 := Lib.hid (J0.out nq)
  clear J0
  go_wp2
  go_loopw [5, 7] (fun i _ wr => ∃ k q : Nat, i = .int .u64 (q : Int) ∧ q = a + k ∧ k ≤ n ∧ J k wr) (fun i _ _ => a + n - (intOf i).toNat)
  case atStart => exact ⟨0, a, rfl, rfl, Nat.zero_le _, J1.out⟩
  case round =>
    obtain ⟨k, q, rfl, hq, hk, hj⟩ := hrel
    by_cases hkn : k < n
    · have hlt : (q : Int) < (a : Int) + n := by omega
      have h47 := H47.out (by omega)
      obtain ⟨c1, c2, c3⟩ := JO.out.reads k wr hj
      obtain ⟨G, hG⟩ : ∃ G, G = g (q / 4096) := ⟨_, rfl⟩
      have hl : (Instr.lookup 63 mp (.int .u64 ((q : Int) / 4096)) false).run Tryz.prog wr = .ok (.pointer (some ⟨G, 0, none⟩)) wr := by
        rw [hG]
        have h1 := c3 (q / 4096) (by omega) (Nat.div_le_div_right (by omega)) (Nat.div_le_div_right (by omega))
        rw [show ((q / 4096 : Nat) : Int) = (q : Int) / 4096 by omega] at h1
        exact h1
      have JW := Lib.hid hj
      clear c3 hj
      have HG := Lib.hid hG
      have HQ := Lib.hid hq
      have hq47 : q ≤ 140737488355328 := by omega
      clear hG hq
      have hsl := slice_page G q wr
      have hm4 : q % 4096 < 4096 := Nat.mod_lt _ (by omega)
      obtain ⟨m, hm⟩ : ∃ m, m = partLen a n k := ⟨_, rfl⟩
      have hmp := partLen_pos (a := a) hkn
      rw [← hm] at hmp
      have hmin : (min ((4096 - q % 4096 : Nat) : Int) ((a : Int) + n - q)).toNat = m := by
        rw [hm]; unfold partLen; rw [HQ.out]; omega
      obtain ⟨fn, tm, sg, bo, hy, hR⟩ := JO.out.round k wr JW.out hkn
      rw [← HQ.out, ← hm, ← HG.out, ← hmin] at hy
      have HM := Lib.hid hmin
      clear hmin
      rw [← hm] at hR
      have HR := Lib.hid hR
      have hqm := Lib.hid (show q + m = a + (k + m) by have := HQ.out; omega)
      have hqm2 : q + m ≤ 140737488355328 := by have := HQ.out; omega
      have HY := Lib.hid hy
      clear hR hm hy
      go_upto_region 4 with (fail)
      have hy := HY.out
      refine (wpIn_wide (n := 1)).1 ?_
      gi_wp2
      refine HR.out.mono ?_
      rintro e w2 ⟨rfl, hj2⟩
      have J2 := Lib.hid hj2
      clear hj2 hy c1 c2 hl HR
      simp only [HM.out]
      gi_wp2
      go_wp2
      go_roundw
      case rel => exact ⟨k + m, q + m, by go_num, hqm.out, hmp.2, J2.out⟩
      case measure => simp [intOf]; omega
    · obtain rfl : n = k := by omega
      have hlt : ¬ (q : Int) < (a : Int) + n := by omega
      have HQ := Lib.hid hq
      have JW := Lib.hid hj
      clear hq hj
      go_wp2
      go_end0
      exact ⟨⟨_, rfl⟩, JW.out⟩
end Go.Proofs.YtdagnkdonlfobaaGreat

/- A range's bytes, copied out: told. Condition: the range's pages are there. -/
namespace Go.Proofs.YtdagnkdonlfobaaGreat
open Go.RowKit Go.Maps Go.ChangeMaps
attribute [local go_sem] Oper.semAt_some
variable {w w' W : World} {F : Nat → Prop} {σ : Spc}

/-- The closure over a range's parts. -/
theorem parts_any (q : Option Addr) (a n : Int) (w : World) :
    Calls Tryz.prog 96 #[.pointer q, .int .u64 a, .int .u64 n] w fun e w' =>
      e = .returned (.func (.func 136) #[] #[.pointer (some ⟨w.heap.size + 1, 0, none⟩), .pointer (some ⟨w.heap.size + 1 + 1, 0, none⟩), .pointer (some ⟨w.heap.size, 0, none⟩)]) ∧
      OneAt w' w.heap.size (.pointer q) 25 ∧ OneAt w' (w.heap.size + 1) (.int .u64 a) 33 ∧ OneAt w' (w.heap.size + 1 + 1) (.int .u64 n) 33 ∧ w.grownBy w' none := by
  go_enter Tryz.func96, Tryz.ntmps96
  go_wp2
  go_ret
  have h1 := OneAt.new w (.pointer q) 25
  have h2 := OneAt.new (w.alloc (.cells #[.pointer q] 25)) (.int .u64 a) 33
  have h3 := OneAt.new ((w.alloc (.cells #[.pointer q] 25)).alloc (.cells #[.int .u64 a] 33)) (.int .u64 n) 33
  refine ⟨rfl, (h1.grown (grown1 _ _)).grown (grown1 _ _), ?_, ?_, grown_trans (grown2 _ _ _) (grown1 _ _)⟩
  · have := h2.grown (grown1 _ (.cells #[.int .u64 n] 33)); simpa using this
  · simpa using h3

/-- So many bytes, from an address on. -/
def bytesOf (σ : Spc) (a n : Nat) : List Int := (List.range n).map fun i => σ.B (a + i)
theorem bytesOf_len (a n : Nat) : (bytesOf σ a n).length = n := by simp [bytesOf]
theorem bytesOf_add (a k m : Nat) : bytesOf σ a (k + m) = bytesOf σ a k ++ bytesOf σ (a + k) m := by
  unfold bytesOf
  rw [List.range_add, List.map_append, List.map_map]
  congr 1
  exact List.map_congr_left fun i _ => by show σ.B (a + (k + i)) = _; rw [Nat.add_assoc]
theorem bytesOf_get (a n : Nat) {i : Nat} (h : i < n) : (bytesOf σ a n).getD i 0 = σ.B (a + i) := by simp [bytesOf, h]

/-- What is read of a space, in whatever world that has turned none of its blocks. -/
theorem SpcAt.told {a : Nat} (h : SpcAt w F a σ) : ∃ (mp : Value) (g : Nat → Nat), ∀ W : World, (∀ k, k < w.heap.size → W.heap[k]? = w.heap[k]?) → W.cell? ⟨a, 0, none⟩ = some mp ∧
    ∀ m, m < 18446744073709551616 → σ.P m ≠ 0 → (Instr.lookup 63 mp (.int .u64 m) false).run Tryz.prog W = .ok (.pointer (some ⟨g m, 0, none⟩)) W ∧ W.heap[g m]? = some (.cells (pageArr σ.B m) 99 (0, 0)) := by
  obtain ⟨_, _, mp, mq, hb, hm⟩ := h
  cases hm with
  | bare h0 _ =>
    refine ⟨.map none, fun _ => 0, fun W hW => ⟨?_, fun m _ hP => absurd (h0 m) hP⟩⟩
    rw [cell_of ((hW a (lt_of_block hb)).trans hb)]; rfl
  | full bp bq g Dp Dq hne hp hq hm fp fq fg =>
    refine ⟨.map (some bp), g, fun W hW => ⟨?_, fun m hm64 hP => ⟨?_, (hW _ (lt_of_block (fg m hP).2)).trans (fg m hP).2⟩⟩⟩
    · rw [cell_of ((hW a (lt_of_block hb)).trans hb)]; rfl
    · have hp' : PMap W bp σ.K Dp := owns_at hp (hW _ (World.ownsMap.lt hp))
      obtain ⟨v, ps, h1, h2⟩ := World.ownsMap.lookup hp' u64keyed Tryz.underlying63 (zeroPtr W) (zd := .nil) (zp := []) rfl (key_of hm64)
      rw [hm.atp m _ hP] at h2
      rw [h1, ptrElem_inv h2]

/-- A page's bytes, from one on, as far as the page goes. -/
theorem page_bytes {G p o m : Nat} (h : W.heap[G]? = some (.cells (pageArr σ.B p) 99 (0, 0))) (ho : o + m ≤ 4096) (c : Nat) : IsBytes W (some ⟨G, o, none⟩) c (bytesOf σ (4096 * p + o) m) :=
  IsBytes.mk_at fun i hi => by
    rw [bytesOf_len] at hi
    rw [cell_of h, bytesOf_get _ _ hi]
    have := pageVals_get (fun i => σ.B (4096 * p + i)) (show o + i < 4096 by omega)
    rw [Nat.add_assoc]
    exact this

/-- append of bytes, in a round. -/
theorem wpIn_append_bytes {Fe : Fence} {fu : Nat} {ops : Array Oper} {rest : List Oper} {o : Oper} {a : Act} {Q : Exit → Act → World → Prop} {base : Nat} (hgd : o.guard = none) (s x : Operand)
    (ho : o.op = .call { callee := .builtin .append, args := #[s, x], argTypes := #[31, 31] })
    (v : Value) (n : Nat) (xs : List Value) (hs : a.eval s = v) (hown : w.ownsRow base 5 1 v n xs)
    (b oo c : Nat) (news : List Int) (m : Nat) (hm : news.length = m) (h0 : 0 < m) (hx : a.eval x = .slice (some ⟨b, oo, none⟩) m c) (hb : IsBytes w (some ⟨b, oo, none⟩) c news)
    (h63 : n + m ≤ 140737488355328) (hbase : base ≤ w.heap.size)
    (h : ∀ v' w', w'.ownsRow base 5 1 v' (n + m) (xs ++ news.map (Value.int .u8)) → w.grownBy w' v.ownBlock → (v'.ownBlock = v.ownBlock ∨ v'.ownBlock = some w.heap.size) → wpListIn Fe fu Tryz.prog ops Q rest (a.put o.dst v') w') : wpListIn Fe fu Tryz.prog ops Q (o :: rest) a w := by
  subst hm
  obtain ⟨i, hi, hz0, hz1, hz2⟩ := info_parts info_u8
  obtain ⟨b', o', e, hc⟩ := hb.2 h0
  injection e with e
  injection e with e1 e2
  subst e1 e2
  refine wpListIn_append_own_at w hgd s x _ ho base 5 i (.int .u8 0) 1 1 Tryz.underlying31 hi hz0 hz1 hz2 rfl (by decide) v n xs hs hown ⟨b, oo, none⟩ news.length c (news.map (Value.int .u8)) hx (by simp) ?_ ?_ (by unfold maxLen; omega) (by omega) hbase ?_
  · intro j u hu
    rw [List.getElem?_map] at hu
    obtain ⟨z, hz, rfl⟩ := Option.map_eq_some_iff.1 hu
    obtain ⟨hj, hz⟩ := List.getElem?_eq_some_iff.1 hz
    rw [add_flat, hc j hj]
    simp [List.getD, hj, hz]
  · intro u hu
    obtain ⟨z, _, rfl⟩ := List.mem_map.1 hu
    rfl
  · intro v' w' h1 h2 _ h4
    exact h v' w' h1 h2 h4

/-- What told's rounds may turn. -/
def TlG (r0 bb rc : Nat) (x : Nat) : Prop := x = r0 ∨ x = bb ∨ x = rc
structure TlJ (lo r0 bb rc : Nat) (W1 : World) (rv : Loop) (bs : Nat → List Int) (k : Nat) (W : World) : Prop where
  chg : Chg (TlG r0 bb rc) W1 W
  box : ∃ q c, OneAt W bb (.slice q k c) 31 ∧ W.ownsRow lo 5 1 (.slice q k c) k ((bs k).map (Value.int .u8)) ∧ ∀ g, (Value.slice q k c).ownBlock = some g → g = r0 ∨ W1.heap.size ≤ g
  lp : W.heap[rc]? = some (.loop rv)

set_option maxHeartbeats 1600000 in
set_option maxRecDepth 20000 in
theorem told_any {a : Nat} (h : SpcAt w F a σ) (at' n : Nat) (h64 : at' < 18446744073709551616) (hn47 : n ≤ 140737488355328) (h47 : 0 < n → at' + n ≤ 140737488355328) (hth : 0 < n → thereB σ (at' / 4096) (spanK at' n) = true) :
    Calls Tryz.prog 100 #[.pointer (some ⟨a, 0, none⟩), .int .u64 at', .int .u64 n] w fun e w' =>
      ∃ q c, e = .returned (.slice q n c) ∧ w'.ownsRow w.heap.size 5 1 (.slice q n c) n ((bytesOf σ at' n).map (Value.int .u8)) ∧ w.grownBy w' none := by
  obtain ⟨mp, g, hTold⟩ := h.told
  have HT := Lib.hid hTold
  have HH := Lib.hid hth
  have H47 := Lib.hid h47
  clear hTold hth h47
  obtain ⟨iu, hiu, hz0, hz1, hz2⟩ := info_parts info_u8
  refine (callsIn_wide (n := 1)).1 (callsIn_of_wp_marks Tryz.func100 rfl trivial ((wpIn_wide).2 ?_))
  simp only [Tryz.ntmps100, List.size_toArray, List.length_cons, List.length_nil, Nat.reduceAdd, Nat.reduceSub, Array.replicate_succ, Array.replicate_zero, List.push_toArray, List.append_toArray, List.nil_append, List.cons_append]
  have BN := Lib.hid (show w.heap.size ≤ w.heap.size from Nat.le_refl _)
  have q0 : (0 : Int) ≤ n := by omega
  go_wp2_with (at_make; refine wpList_make_own _ rfl _ _ 31 rfl w.heap.size 5 iu (.int .u8 0) 1 Tryz.underlying31 hiu hz0 hz1 .i64 .u64 _ n rfl rfl rfl (by rw [hz2]; omega) (by unfold maxLen; omega) (Nat.le_refl _) ?_; (intro w1 hown hg1; have O1 := Lib.hid hown; have G1 := Lib.hid hg1; clear hown hg1))
  clear hz0 hz1 hz2 hiu
  obtain ⟨W2, hW2⟩ : ∃ W2, w1.alloc (.cells #[.slice (some ⟨w.heap.size, 0, none⟩) 0 n] 31) = W2 := ⟨_, rfl⟩
  rw [hW2]
  refine (parts_any (some ⟨a, 0, none⟩) at' n W2).mono ?_
  rintro e w3 ⟨rfl, hb1, hb2, hb3, hg3⟩
  have hbx : OneAt W2 w1.heap.size (.slice (some ⟨w.heap.size, 0, none⟩) 0 n) 31 := by rw [← hW2]; exact OneAt.new w1 _ _
  have g12 : w1.grownBy W2 none := by rw [← hW2]; exact grown1 _ _
  have hlt1 : w.heap.size < w1.heap.size := O1.out.lt w.heap.size rfl |>.2
  have hlt2 : w1.heap.size < W2.heap.size := hbx.lt
  have B1 := Lib.hid hb1
  have B2 := Lib.hid hb2
  have B3 := Lib.hid hb3
  have BX := Lib.hid (hbx.grown hg3)
  have G3 := Lib.hid (grown_trans (grown_trans G1.out g12) hg3)
  have OW := Lib.hid (own_grown (own_grown O1.out g12) hg3)
  have hlt3 : W2.heap.size + 1 + 1 < w3.heap.size := hb3.lt
  clear hb1 hb2 hb3 hg3 hbx g12 hW2 O1 G1
  go_wp2
  refine wp_rangeFunc_rec (gf := 136) (lb := #[.pointer (some ⟨W2.heap.size + 1, 0, none⟩), .pointer (some ⟨W2.heap.size + 1 + 1, 0, none⟩), .pointer (some ⟨W2.heap.size, 0, none⟩)]) rfl (enters_of Tryz.func136 (by kernel_rfl) rfl) ?_
  intro rec YR ER OR
  obtain ⟨W1, hW1⟩ : ∃ W1, (w3.alloc (.deferred (some []))).alloc (.loop (rec .ready none)) = W1 := ⟨_, rfl⟩
  have g31 : w3.grownBy W1 none := by rw [← hW1]; exact grown2 _ _ _
  have hlp : W1.heap[w3.heap.size + 1]? = some (.loop (rec .ready none)) := by
    rw [← hW1]; have := World.alloc_heap_new (w3.alloc (.deferred (some []))) (.loop (rec .ready none)); rwa [World.size_alloc] at this
  have hdf : W1.heap[w3.heap.size]? = some (.deferred (some [])) := by
    rw [← hW1]; exact (Below.heap_alloc _ _ _ (by simp)).trans (World.alloc_heap_new w3 _)
  have hW1s : w3.heap.size + 1 < W1.heap.size := (Array.getElem?_eq_some_iff.1 hlp).1
  rw [hW1]
  have gW1 := grown_trans G3.out g31
  obtain ⟨r0, hr0⟩ : ∃ r0, r0 = w.heap.size := ⟨_, rfl⟩
  have JZ : TlJ w.heap.size w.heap.size w1.heap.size (w3.heap.size + 1) W1 (rec .ready none) (bytesOf σ at') 0 W1 :=
    ⟨Chg.refl _ _, ⟨_, _, BX.out.grown g31, own_grown OW.out g31, fun g e => by injection e with e; exact .inl e.symm⟩, hlp⟩
  have IO : PartsOk Tryz.prog (w3.heap.size + 1) at' n g W2.heap.size a mp (fun k W => TlJ w.heap.size w.heap.size w1.heap.size (w3.heap.size + 1) W1 (rec .ready none) (bytesOf σ at') k W) := by
    have hold : ∀ k W, TlJ w.heap.size w.heap.size w1.heap.size (w3.heap.size + 1) W1 (rec .ready none) (bytesOf σ at') k W → ∀ x, x < w.heap.size → W.heap[x]? = w.heap[x]? := fun k W hJ x hx =>
      (hJ.chg.block x (by have := gW1.size; omega) (fun e => by unfold TlG at e; omega)).trans (gW1.block x hx (by simp))
    refine ⟨fun k W hJ => ?_, fun k W hJ hk => ?_, fun k W m hJ => ?_⟩
    · obtain ⟨c1, c2⟩ := HT.out W (hold k W hJ)
      refine ⟨?_, c1, fun m h0 h1 h2 => (c2 m (by have := H47.out h0; omega) (thereB_iff.1 (HH.out h0) m h1 (by unfold spanK; omega))).1⟩
      have hbs := B1.out.grown g31
      exact (OneAt.c (T := 25) (show OneAt W W2.heap.size _ _ from (hJ.chg.block W2.heap.size (by omega) (fun e => by unfold TlG at e; omega)).trans hbs))
    · have hpl := partLen_pos (a := at') hk
      have h47 := H47.out (by omega)
      have hK := Lib.hid hk
      obtain ⟨_, c2⟩ := HT.out W (hold k W hJ)
      have hq : at' + k < at' + n := by omega
      obtain ⟨_, hpg⟩ := c2 ((at' + k) / 4096) (by omega) (thereB_iff.1 (HH.out (by omega)) _ (Nat.div_le_div_right (by omega)) (by unfold spanK; have : (at' + k) / 4096 ≤ (at' + n - 1) / 4096 := Nat.div_le_div_right (by omega); have : at' / 4096 ≤ (at' + k) / 4096 := Nat.div_le_div_right (by omega); omega))
      have hfit : (at' + k) % 4096 + partLen at' n k ≤ 4096 := by unfold partLen; have : (at' + k) % 4096 < 4096 := Nat.mod_lt _ (by omega); omega
      have hdm : 4096 * ((at' + k) / 4096) + (at' + k) % 4096 = at' + k := Nat.div_add_mod _ _
      obtain ⟨G, hG⟩ : ∃ G, G = g ((at' + k) / 4096) := ⟨_, rfl⟩
      obtain ⟨m, hm⟩ : ∃ m, m = partLen at' n k := ⟨_, rfl⟩
      obtain ⟨o, ho⟩ : ∃ o, o = (at' + k) % 4096 := ⟨_, rfl⟩
      obtain ⟨p, hp⟩ : ∃ p, p = (at' + k) / 4096 := ⟨_, rfl⟩
      have HB := Lib.hid (show bytesOf σ at' (k + m) = bytesOf σ at' k ++ bytesOf σ (4096 * p + o) m by rw [hp, ho, hdm, bytesOf_add])
      rw [← hG, ← hm, ← ho]
      rw [← hG, ← hp] at hpg
      rw [← ho, ← hm] at hfit
      rw [← hm] at hpl
      have HPG := Lib.hid hpg
      have HN := Lib.hid (show n ≤ 140737488355328 by omega)
      clear hG hm ho hp hdm hpg c2 hq hk
      refine YR _ _ _ _ hJ.lp rfl ?_
      gi_wp2
      refine ⟨hJ.lp, fun _ => ?_⟩
      obtain ⟨q, c, hbx, how, hwh⟩ := hJ.box
      have gP := grownBy_putObj' W (w3.heap.size + 1) (.loop (rec .busy none))
      have hlpB : (W.putObj (w3.heap.size + 1) (.loop (rec .busy none))).heap[w3.heap.size + 1]? = some (.loop (rec .busy none)) := World.putObj_heap_same (Array.getElem?_eq_some_iff.1 hJ.lp).1
      have hWs : W1.heap.size ≤ W.heap.size := hJ.chg.size
      have hnr : ∀ b, (Value.slice q k c).ownBlock = some b → b ≠ w3.heap.size + 1 ∧ b ≠ w1.heap.size := fun b e => by rcases hwh b e with h | h <;> omega
      have hbC := hbx.kept gP (by simp; omega)
      have how2 := how.kept gP (by cases e : (Value.slice q k c).ownBlock with | none => exact .inl rfl | some b => exact .inr (by have := (hnr b e).1; simpa using this))
      have hpgC := grown_obj gP HPG.out (fun e => by
        have e1 : w3.heap.size + 1 = G := by injection e
        have h1 := HPG.out
        have h2 := hJ.lp
        rw [← e1, h2] at h1
        injection h1 with h1
        cases h1)
      have CP := Lib.hid (show Chg (TlG w.heap.size w1.heap.size (w3.heap.size + 1)) W1 (W.putObj (w3.heap.size + 1) (.loop (rec .busy none))) from hJ.chg.trans (Chg.of_grown gP (fun b e => by injection e with e; exact .inl (.inr (.inr e.symm)))))
      obtain ⟨Wc, hWc⟩ : ∃ Wc, W.putObj (w3.heap.size + 1) (.loop (rec .busy none)) = Wc := ⟨_, rfl⟩
      rw [hWc] at hlpB hbC how2 hpgC CP ⊢
      have kb := hbC.c
      have kf := hbC.f
      have OWN := Lib.hid how2
      have HBX := Lib.hid hbC
      have HLP := Lib.hid hlpB
      have HNR := Lib.hid hnr
      have HWH := Lib.hid hwh
      have BY := Lib.hid (fun c => page_bytes (σ := σ) (m := m) hpgC (o := o) hfit c)
      have hszc : w.heap.size ≤ Wc.heap.size := by have := gW1.size; have := CP.out.size; omega
      clear hbC how2 hlpB hbx how hpgC gP hWc hnr hwh
      gi_wp2_with (gi_at_builtin; refine wpIn_append_bytes rfl _ _ rfl (.slice q k c) k ((bytesOf σ at' k).map (Value.int .u8)) rfl OWN.out G o _ (bytesOf σ (4096 * p + o) m) m (bytesOf_len _ _) hpl.1 rfl (BY.out _) (by have := HN.out; omega) hszc ?_)
      intro v' w6 ho6 hg6 hat6
      obtain ⟨q6, c6, rfl⟩ := own_slice ho6
      have nb : ∀ x, (Value.slice q k c).ownBlock = some x → x ≠ w3.heap.size + 1 ∧ x ≠ w1.heap.size := HNR.out
      have hb6 := HBX.out.kept hg6 (fun e => (nb _ e).2 rfl)
      have kb6 := hb6.c
      have kf6 := hb6.f
      have hL6 := grown_obj hg6 HLP.out (fun e => (nb _ e).1 rfl)
      have C6 : Chg (TlG w.heap.size w1.heap.size (w3.heap.size + 1)) W1 w6 :=
        ⟨hg6.os.trans CP.out.os, hg6.tape.trans CP.out.tape, hg6.output.trans CP.out.output, Nat.le_trans CP.out.size hg6.size, fun x hx hn => (hg6.block x (Nat.lt_of_lt_of_le hx CP.out.size) (fun e => by
          rcases HWH.out x e.symm with h | h
          · exact hn (.inl h)
          · omega)).trans (CP.out.block x hx hn)⟩
      have HW6 : ∀ x, (Value.slice q6 (k + m) c6).ownBlock = some x → x = w.heap.size ∨ W1.heap.size ≤ x := fun x e => by
        rcases hat6 with h | h
        · rw [h] at e; exact HWH.out x e
        · rw [h] at e; injection e with e; have := CP.out.size; omega
      have O6 := Lib.hid ho6
      have X6 := Lib.hid hb6
      have L6 := Lib.hid hL6
      have D6 := Lib.hid C6
      have V6 := Lib.hid HW6
      clear ho6 hg6 hat6 hb6 hL6 C6 HW6 nb
      gi_wp2
      have gS := grown_setCell (i := 0) (grown_refl w6 (some w1.heap.size)) (.slice q6 (k + m) c6)
      have nr6 : ∀ x, (Value.slice q6 (k + m) c6).ownBlock = some x → x ≠ w1.heap.size ∧ x ≠ w3.heap.size + 1 := fun x e => by have := V6.out x e; omega
      have hb7 := X6.out.set (.slice q6 (k + m) c6)
      have L7 := grown_obj gS L6.out (by simp; omega)
      have O7 := O6.out.kept gS (by cases e : (Value.slice q6 (k + m) c6).ownBlock with | none => exact .inl rfl | some b => exact .inr (by have := (nr6 b e).1; simpa using this))
      have C7 := D6.out.trans (Chg.of_grown gS (fun b e => by injection e with e; exact .inl (.inr (.inl e.symm))))
      obtain ⟨w7, hw7⟩ : ∃ w7, w6.setCell ⟨w1.heap.size, 0, none⟩ (.slice q6 (k + m) c6) = w7 := ⟨_, rfl⟩
      rw [hw7] at hb7 L7 O7 C7 ⊢
      have g8 := grownBy_putObj' w7 (w3.heap.size + 1) (.loop (rec .ready none))
      refine ⟨_, _, ER _ _ none L7, rfl, ⟨C7.trans (Chg.of_grown g8 (fun b e => by injection e with e; exact .inl (.inr (.inr e.symm)))), ⟨q6, c6, hb7.kept g8 (by simp; omega), ?_, V6.out⟩, World.putObj_heap_same (Array.getElem?_eq_some_iff.1 L7).1⟩⟩
      have O8 := O7.kept g8 (by cases e : (Value.slice q6 (k + m) c6).ownBlock with | none => exact .inl rfl | some b => exact .inr (by have := (nr6 b e).2; simpa using this))
      rw [HB.out, List.map_append]
      exact O8
    · exact ⟨⟨hJ.chg.os, hJ.chg.tape, hJ.chg.output, hJ.chg.size, hJ.chg.block⟩, hJ.box, hJ.lp⟩
  refine (parts1_any (w := W1) (w3.heap.size + 1) at' n h64 H47.out g (W2.heap.size + 1) (W2.heap.size + 1 + 1) W2.heap.size a mp _ (B2.out.grown g31).c (B3.out.grown g31).c IO JZ).mono ?_
  rintro e w5 ⟨⟨v, rfl⟩, hJ⟩
  refine ⟨none, _, OR _ _ _ _ (by simp) hJ.lp, ?_⟩
  obtain ⟨q, c, hbx, how, hwh⟩ := hJ.box
  have gR := grownBy_putObj' w5 (w3.heap.size + 1) (.loop (rec .exhausted none))
  have hws : W1.heap.size ≤ w5.heap.size := hJ.chg.size
  have hbC := hbx.kept gR (by simp; omega)
  have how2 := how.kept gR (by cases e : (Value.slice q n c).ownBlock with | none => exact .inl rfl | some b => exact .inr (by have := hwh b e; simp; omega))
  have hdC := grown_obj gR ((hJ.chg.block w3.heap.size (by omega) (fun e => by unfold TlG at e; omega)).trans hdf) (by simp)
  have CC := hJ.chg.trans (Chg.of_grown gR (fun b e => by injection e with e; exact .inl (.inr (.inr e.symm))))
  obtain ⟨V, hV⟩ : ∃ V, w5.putObj (w3.heap.size + 1) (.loop (rec .exhausted none)) = V := ⟨_, rfl⟩
  rw [hV] at hbC how2 hdC CC ⊢
  have kb := hbC.c
  have OV := Lib.hid how2
  have DV := Lib.hid hdC
  have CV := Lib.hid CC
  have WV := Lib.hid hwh
  clear hbC how2 hdC CC hwh hbx how gR hV hJ
  go_wp2
  have gD := grownBy_putObj' V w3.heap.size (.deferred none)
  refine ⟨by simp, .inl ⟨_, _, rfl, run_takeDeferred DV.out, ?_⟩⟩
  refine ⟨_, results_tmp rfl _ _ _, ?_⟩
  refine ⟨q, c, rfl, OV.out.kept gD (by cases e : (Value.slice q n c).ownBlock with | none => exact .inl rfl | some b => exact .inr (by have := WV.out b e; simp; omega)), ?_⟩
  have hg : Chg (fun _ => False) w (V.putObj w3.heap.size (.deferred none)) :=
    ⟨gD.os.trans (CV.out.os.trans gW1.os), gD.tape.trans (CV.out.tape.trans gW1.tape), gD.output.trans (CV.out.output.trans gW1.output), Nat.le_trans gW1.size (Nat.le_trans CV.out.size gD.size), fun x hx _ => by
      have hs := gW1.size
      have := CV.out.size
      exact (gD.block x (by omega) (by simp; omega)).trans ((CV.out.block x (by omega) (fun e => by unfold TlG at e; omega)).trans (gW1.block x hx (by simp)))⟩
  exact hg.grown
end Go.Proofs.YtdagnkdonlfobaaGreat
