/- Free goes over the pages, and is asked whole. No condition. -/
import Derived.Test.YtiolcpnhabipaaaSpG
namespace Go.Proofs.Ytiolcpnhabipaaa
open Go.RowKit Go.Maps Go.ChangeMaps
variable {w w' W : World} {F : Nat → Prop} {σ : Spc}

/-- None of the pages that were met lies in the range. -/
def NoneMet (σ : Spc) (f l : Nat) (left : Lit → Bool) : Prop := ∀ n, σ.P n ≠ 0 → left (keyN n) = false → ¬ (f ≤ n ∧ n ≤ l)
def ApartRel (w : World) (bp n0 : Nat) (D : DataW Unit) (σ : Spc) (f l : Nat) (wr : World) : Prop :=
  ∃ left cnt, wr.ranges Try.prog 24 ptrElem bp w.heap.size n0 D left cnt ∧ w.grownBy wr none ∧ NoneMet σ f l left

set_option maxRecDepth 20000 in
theorem isApart_full {a bp bq : Nat} {g : Nat → Nat} {Dp Dq : DataW Unit} (hb : w.heap[a]? = some (.cells #[.map (some bp), .map (some bq)] 65 (0, 0))) (hp : PMap w bp σ.K Dp) (hm : MapsOf σ g Dp Dq) (hlow : ∀ n, σ.P n ≠ 0 → n < 34359738368) (f l : Nat) :
    Calls Try.prog 47 #[.pointer (some ⟨a, 0, none⟩), .int .u64 f, .int .u64 l] w fun e w' => e = .returned (.bool (freeB σ f l)) ∧ w.grownBy w' none := by
  have c0 : w.cell? ⟨a, 0, none⟩ = some (.map (some bp)) := by rw [cell_of hb]; rfl
  have hp' : w.ownsMap (H := Unit) Try.prog 24 ptrElem bp σ.K Dp := hp
  have HM := Lib.hid hm
  have HL := Lib.hid hlow
  have hbp := hp'.lt
  clear hb hp hm hlow
  go_enter Try.func47, Try.ntmps47
  go_wp2_with (first
    | (at_range; refine wpList_range_own _ rfl _ 62 rfl 24 73 u64keyed Try.underlying62 _ bp σ.K _ rfl hp' ?_; intro w0 hrg0 hg0 hs0)
    | go_in)
  go_frame
  clear hs0
  go_loopw [7] (fun _ wr => ApartRel w bp σ.K Dp σ f l wr) (fun _ wr => wr.rangeLeft bp w.heap.size)
  case atStart =>
    refine ⟨_, _, hrg0, hg0, fun n hn hh => ?_⟩
    rw [(HM.out.hasp _).2 ⟨n, rfl, hn⟩] at hh
    cases hh
  case round =>
    obtain ⟨left, cnt, hrg, hgw, hnone⟩ := hrel
    have HN := Lib.hid hnone
    clear hnone
    go_wp2_with (first
      | (at_next; refine wpList_next_ranges _ rfl _ rfl 24 u64keyed ptrElem (fun x : Int => Value.int .u64 x) (id : Value → Value) (fun key kl hk => by obtain ⟨x, hx, _⟩ := keyOf_int_inv Try.underlying24 hk; exact ⟨x, hx⟩) (fun v y _ => ⟨v, rfl⟩) bp w.heap.size σ.K _ _ _ rfl hrg ?_ ?_)
      | go_in)
    · intro _ hl0
      have hb := Lib.hid (show freeB σ f l = true from freeB_iff.2 fun n h1 h2 => by
        by_cases h : σ.P n = 0
        · exact h
        · exact absurd ⟨h1, h2⟩ (HN.out n h (hl0 _)))
      clear hl0
      go_wp2
      go_ret
      exact ⟨ret_bool (by rw [hb.out]), hgw⟩
    · intro x c kl yd yp w1 cnt1 hkey hlk hR hat hrg1 hlt hg1 hs1 hen
      obtain ⟨x', ex, rfl, hwf⟩ := keyOf_int_inv Try.underlying24 hkey
      obtain rfl : x = x' := by injection ex
      obtain ⟨n, hn, hPn⟩ := (HM.out.hasp _).1 (has_true_of_atKey hat)
      obtain rfl : x = n := by unfold keyN at hn; injection hn
      have hgw1 := hgw.andThen hg1 (fun j hj => by cases hj; exact Or.inl (Nat.le_refl _))
      have HH := Lib.hid hPn
      have HE := Lib.hid hat
      have hnlt := HL.out n hPn
      clear hs1 hPn hat hn hkey ex hwf
      by_cases h1 : f ≤ n
      · have h1' : (f : Int) ≤ n := by omega
        by_cases h2 : n ≤ l
        · have h2' : (n : Int) ≤ l := by omega
          have hb := Lib.hid (freeB_no h1 h2 HH.out)
          go_wp2
          go_ret
          exact ⟨ret_bool (by rw [hb.out]), hgw1⟩
        · have h2' : ¬ (n : Int) ≤ l := by omega
          go_wp2
          go_roundw
          case rel =>
            refine ⟨_, cnt1, hrg1, hgw1, fun m hm hh => ?_⟩
            by_cases e : m = n
            · subst e; omega
            · refine HN.out m hm ?_
              rw [show (Lit.int .u64 (n : Int)) = keyN n from rfl] at hh
              simp only [sameKey_ne (fun h => e (keyN_inj h))] at hh
              simpa using hh
          case measure => rw [hrg1.left_eq, hrg.left_eq]; exact hlt
      · have h1' : ¬ (f : Int) ≤ n := by omega
        have hd : decide ((f : Int) ≤ n) = false := by simp; omega
        go_wp2
        go_roundw
        case rel =>
          refine ⟨_, cnt1, hrg1, hgw1, fun m hm hh => ?_⟩
          by_cases e : m = n
          · subst e; omega
          · refine HN.out m hm ?_
            rw [show (Lit.int .u64 (n : Int)) = keyN n from rfl] at hh
            simp only [sameKey_ne (fun h => e (keyN_inj h))] at hh
            simpa using hh
        case measure => rw [hrg1.left_eq, hrg.left_eq]; exact hlt

theorem isApart_any {a : Nat} (h : SpcAt w F a σ) (f l : Nat) : Calls Try.prog 47 #[.pointer (some ⟨a, 0, none⟩), .int .u64 f, .int .u64 l] w fun e w' => e = .returned (.bool (freeB σ f l)) ∧ w.grownBy w' none := by
  obtain ⟨_, hf, mp, mq, hb, hmaps⟩ := h
  cases hmaps with
  | bare h0 hK =>
    have e : freeB σ f l = true := freeB_iff.2 fun n _ _ => h0 n
    rw [e]
    exact isApart_bare hb f l
  | full bp bq g Dp Dq hne hp hq hm fp fq fg => exact isApart_full hb hp hm hf.low f l

def freeOf (σ : Spc) (a s : Nat) : Bool := s == 0 || (belowB a s && freeB σ (a / 4096) ((a + s - 1) / 4096))
theorem freeOf_zero {a : Nat} : freeOf σ a 0 = true := rfl
theorem freeOf_far {a s : Nat} (hs : s ≠ 0) (hb : belowB a s = false) : freeOf σ a s = false := by unfold freeOf; rw [hb]; simp [hs]
theorem freeOf_is {a s : Nat} (hs : s ≠ 0) (hb : belowB a s = true) : freeOf σ a s = freeB σ (a / 4096) ((a + s - 1) / 4096) := by unfold freeOf; rw [hb]; simp [hs]

set_option maxRecDepth 20000 in
theorem free_any {at' : Nat} (h : SpcAt w F at' σ) (a s : Nat) : Calls Try.prog 26 #[.pointer (some ⟨at', 0, none⟩), .int .u64 a, .int .u64 s] w fun e w' => e = .returned (.bool (freeOf σ a s)) ∧ w.grownBy w' none := by
  have B1 := fun (b : Bool) (hb : belowB a s = b) (W : World) => (isBelow_any a s W)
  have hg := Lib.hid (grown_refl w none)
  rcases Nat.eq_zero_or_pos s with h0 | h0
  · subst h0
    go_enter Try.func26, Try.ntmps26
    go_wp2
    go_ret
    exact ⟨rfl, hg.out⟩
  have hs : ((s : Int) == 0) = false := by simp; omega
  have hK := h.fits.few
  cases hb : belowB a s
  · have E := Lib.hid (freeOf_far (σ := σ) (by omega : s ≠ 0) hb)
    have HB := Lib.hid hb
    clear B1 hb
    go_enter Try.func26, Try.ntmps26
    go_wp2_with fail
    refine (isBelow_any a s w).mono ?_
    rw [HB.out]
    rintro e w1 ⟨rfl, rfl⟩
    go_wp2
    go_ret
    exact ⟨ret_bool (by rw [E.out]), hg.out⟩
  · have E := Lib.hid (freeOf_is (σ := σ) (by omega : s ≠ 0) hb)
    have hbl := belowB_iff.1 hb
    have HB := Lib.hid hb
    have hmono : a / 4096 ≤ (a + s - 1) / 4096 := Nat.div_le_div_right (by omega)
    have htop : (a + s - 1) / 4096 < 34359738368 := by omega
    clear B1 hb
    have N1 := Lib.hid (numbers_any a s h0 hbl w)
    generalize a / 4096 = f at *
    generalize (a + s - 1) / 4096 = l at *
    by_cases hc : l - f < σ.K
    · have hc' : (l : Int) - f < σ.K := by omega
      go_enter Try.func26, Try.ntmps26
      go_wp2_with fail
      refine (isBelow_any a s w).mono ?_
      rw [HB.out]
      rintro e w1 ⟨rfl, rfl⟩
      go_wp2_with fail
      refine N1.out.mono ?_
      rintro e w1 ⟨rfl, rfl⟩
      go_wp2_with fail
      refine (pages_any h).mono ?_
      rintro e w1 ⟨rfl, rfl⟩
      go_wp2_with fail
      refine (isBare_any h f l htop).mono ?_
      rintro e w1 ⟨rfl, rfl⟩
      go_wp2
      go_ret
      exact ⟨ret_bool (by rw [E.out]), hg.out⟩
    · have hc' : ¬ (l : Int) - f < σ.K := by omega
      go_enter Try.func26, Try.ntmps26
      go_wp2_with fail
      refine (isBelow_any a s w).mono ?_
      rw [HB.out]
      rintro e w1 ⟨rfl, rfl⟩
      go_wp2_with fail
      refine N1.out.mono ?_
      rintro e w1 ⟨rfl, rfl⟩
      go_wp2_with fail
      refine (pages_any h).mono ?_
      rintro e w1 ⟨rfl, rfl⟩
      go_wp2_with fail
      refine (isApart_any h f l).mono ?_
      rintro e w1 ⟨rfl, hg1⟩
      go_wp2
      go_ret
      exact ⟨ret_bool (by rw [E.out]), hg1⟩
end Go.Proofs.Ytiolcpnhabipaaa
