/- Why slices may not stand in a file: the program's own calls, one contract each. No condition. -/
import Derived.Test.YtdjakaiadggemaaSl
import Derived.Test.YtdjakaiadggemaaShelf
import Derived.Laws.Externs
namespace Go.Proofs.Ytdjakaiadggemaa
open Go.RowKit
variable {w w' : World}

/-- Have two slices a byte in common? -/
def meetB (ao az bo bz : Int) : Bool := decide (ao + az < 18446744073709551616 ∧ bo + bz < 18446744073709551616 ∧ 0 < az ∧ 0 < bz ∧ ao < bo + bz ∧ bo < ao + az)
def Sl.meet (a b : Sl) : Bool := meetB a.off a.size b.off b.size
/-- May a slice be, in a file of so many bytes, whose entries end at a place? -/
def Sl.may (s : Sl) (e all : Int) : Bool := decide (s.off + s.size ≤ all ∧ e ≤ s.off ∧ 0 ≤ s.align ∧ s.align ≤ 15 ∧ s.off % 2 ^ s.align.toNat = 0)
def BadAt (l : List Sl) (e all : Int) (i : Nat) : Prop := ∃ s, l[i]? = some s ∧ (s.may e all = false ∨ ∃ j t, j < i ∧ l[j]? = some t ∧ s.meet t = true)
def Bad (l : List Sl) (e all : Int) : Prop := ∃ i, BadAt l e all i
def TwinAt (l : List Sl) (i : Nat) : Prop := ∃ s, l[i]? = some s ∧ ∃ j t, j < i ∧ l[j]? = some t ∧ t.alike s = true
def Twin (l : List Sl) : Prop := ∃ i, TwinAt l i

theorem add64i_run (x y : Int) (w : World) (hx : 0 ≤ x ∧ x < 18446744073709551616) (hy : 0 ≤ y ∧ y < 18446744073709551616) :
    (callFunc 71 #[.int .u64 x, .int .u64 y, .int .u64 0]).run Try.prog w =
      .ok (.value (.tuple #[.int .u64 ((x + y) % 18446744073709551616), .int .u64 ((x + y) / 18446744073709551616)])) w := by
  obtain ⟨m, rfl⟩ := Int.eq_ofNat_of_zero_le hx.1
  obtain ⟨n, rfl⟩ := Int.eq_ofNat_of_zero_le hy.1
  rw [run_callFunc_extern Try.func71 (by kernel_rfl) (by kernel_rfl) (by kernel_rfl) (e := add64Entry) (by kernel_rfl), run_add64 m n 0 (by omega) (by omega) (by omega) (by omega)]
  simp only [Result.andThen]
  congr 5 <;> omega
theorem addi_yes (a b : Int) (ha : 0 ≤ a ∧ a < 18446744073709551616) (hb : 0 ≤ b ∧ b < 18446744073709551616) (h : a + b < 18446744073709551616) (w : World) :
    Calls Try.prog 67 #[.int .u64 a, .int .u64 b] w fun e w' => e = .returned (.tuple #[.int .u64 (a + b), .bool true]) ∧ w = w' := by
  have hr := add64i_run a b w ha hb
  rw [show (a + b) % 18446744073709551616 = a + b by omega, show (a + b) / 18446744073709551616 = 0 by omega] at hr
  go_enter Try.func67, Try.ntmps67
  go_wp2
  go_ret2
  exact ⟨rfl, rfl⟩
theorem addi_no (a b : Int) (ha : 0 ≤ a ∧ a < 18446744073709551616) (hb : 0 ≤ b ∧ b < 18446744073709551616) (h : ¬ a + b < 18446744073709551616) (w : World) :
    Calls Try.prog 67 #[.int .u64 a, .int .u64 b] w fun e w' => e = .returned (.tuple #[.int .u64 0, .bool false]) ∧ w = w' := by
  have hr := add64i_run a b w ha hb
  rw [show (a + b) / 18446744073709551616 = 1 by omega] at hr
  go_enter Try.func67, Try.ntmps67
  go_wp2
  go_ret2
  exact ⟨rfl, rfl⟩
theorem withini_any (a b c : Int) (ha : 0 ≤ a ∧ a < 18446744073709551616) (hb : 0 ≤ b ∧ b < 18446744073709551616) (hc : 0 ≤ c ∧ c < 18446744073709551616) (w : World) :
    Calls Try.prog 55 #[.int .u64 a, .int .u64 b, .int .u64 c] w fun e w' => e = .returned (.bool (decide (a + b ≤ c))) ∧ w = w' := by
  by_cases h : a + b < 18446744073709551616
  · have hs := Lib.hid (addi_yes a b ha hb h w)
    go_enter Try.func55, Try.ntmps55
    go_wp2_with fail
    refine hs.out.mono ?_
    rintro e w' ⟨rfl, rfl⟩
    go_wp2
    go_ret
    exact ⟨ret_bool (by simp), rfl⟩
  · have hs := Lib.hid (addi_no a b ha hb h w)
    have e : decide (a + b ≤ c) = false := by simp; omega
    rw [e]
    clear e
    go_enter Try.func55, Try.ntmps55
    go_wp2_with fail
    refine hs.out.mono ?_
    rintro e w' ⟨rfl, rfl⟩
    go_wp2
    go_ret
    exact ⟨rfl, rfl⟩

theorem cmeet_any (ao az bo bz : Int) (h1 : 0 ≤ ao ∧ ao < 18446744073709551616) (h2 : 0 ≤ az ∧ az < 18446744073709551616) (h3 : 0 ≤ bo ∧ bo < 18446744073709551616) (h4 : 0 ≤ bz ∧ bz < 18446744073709551616) :
    Calls Try.prog 70 #[.agg #[.int .u64 ao, .int .u64 az], .agg #[.int .u64 bo, .int .u64 bz]] w fun e w' => e = .returned (.bool (meetB ao az bo bz)) ∧ w.grownBy w' none := by
  have HA := Lib.hid (fun w (h : ao + az < 18446744073709551616) => addi_yes ao az h1 h2 h w)
  have HA' := Lib.hid (fun w (h : ¬ ao + az < 18446744073709551616) => addi_no ao az h1 h2 h w)
  have HB := Lib.hid (fun w (h : bo + bz < 18446744073709551616) => addi_yes bo bz h3 h4 h w)
  have HB' := Lib.hid (fun w (h : ¬ bo + bz < 18446744073709551616) => addi_no bo bz h3 h4 h w)
  by_cases ha : ao + az < 18446744073709551616
  · by_cases hb : bo + bz < 18446744073709551616
    · go_enter Try.func70, Try.ntmps70
      go_wp2_with fail
      refine (HA.out _ ha).mono ?_
      rintro e w' ⟨rfl, rfl⟩
      go_wp2_with fail
      refine (HB.out _ hb).mono ?_
      rintro e w' ⟨rfl, rfl⟩
      go_wp2
      go_ret
      exact ⟨ret_bool (by unfold meetB; rw [decide_eq_decide]; omega), grown2 _ _ _⟩
    · go_enter Try.func70, Try.ntmps70
      go_wp2_with fail
      refine (HA.out _ ha).mono ?_
      rintro e w' ⟨rfl, rfl⟩
      go_wp2_with fail
      refine (HB'.out _ hb).mono ?_
      rintro e w' ⟨rfl, rfl⟩
      go_wp2
      go_ret
      exact ⟨ret_bool (by unfold meetB; symm; rw [decide_eq_false_iff_not]; omega), grown2 _ _ _⟩
  · by_cases hb : bo + bz < 18446744073709551616
    · go_enter Try.func70, Try.ntmps70
      go_wp2_with fail
      refine (HA'.out _ ha).mono ?_
      rintro e w' ⟨rfl, rfl⟩
      go_wp2_with fail
      refine (HB.out _ hb).mono ?_
      rintro e w' ⟨rfl, rfl⟩
      go_wp2
      go_ret
      exact ⟨ret_bool (by unfold meetB; symm; rw [decide_eq_false_iff_not]; omega), grown2 _ _ _⟩
    · go_enter Try.func70, Try.ntmps70
      go_wp2_with fail
      refine (HA'.out _ ha).mono ?_
      rintro e w' ⟨rfl, rfl⟩
      go_wp2_with fail
      refine (HB'.out _ hb).mono ?_
      rintro e w' ⟨rfl, rfl⟩
      go_wp2
      go_ret
      exact ⟨ret_bool (by unfold meetB; symm; rw [decide_eq_false_iff_not]; omega), grown2 _ _ _⟩

theorem wrap_two (k : Nat) (hk : k ≤ 15) : IntKind.u64.wrap (2 ^ k) = 2 ^ k := by
  have h1 : (2 : Int) ^ k ≤ 2 ^ 15 := by
    have : (2 : Nat) ^ k ≤ 2 ^ 15 := Nat.pow_le_pow_right (by decide) hk
    exact_mod_cast this
  have h0 : (0 : Int) < 2 ^ k := Int.pow_pos (by decide)
  rw [IntKind.wrap_u64]
  omega
theorem unit_any (k : Nat) (hk : k ≤ 15) : Calls Try.prog 54 #[.int .i64 k] w fun e w' => e = .returned (.int .u64 (2 ^ k)) ∧ w = w' := by
  go_enter Try.func54, Try.ntmps54
  go_wp2
  go_ret
  exact ⟨ret_int (wrap_two k hk), rfl⟩
theorem alignMay_any (n : Int) : Calls Try.prog 31 #[.int .i64 n] w fun e w' => e = .returned (.bool (decide (0 ≤ n ∧ n ≤ 15))) ∧ w = w' := by
  by_cases h : 0 ≤ n
  all_goals
    go_enter Try.func31, Try.ntmps31
    go_wp2
    go_ret
    exact ⟨ret_bool (by simp [h] <;> omega), rfl⟩

theorem may_any (s : Sl) (hs : s.Fits) (e all : Int) (_he : 0 ≤ e ∧ e < 18446744073709551616) (ha : 0 ≤ all ∧ all < 18446744073709551616) :
    Calls Try.prog 62 #[s.v, .int .u64 e, .int .u64 all] w fun x w' => x = .returned (.bool (s.may e all)) ∧ w.grownBy w' none := by
  have H1 := Lib.hid (fun w => (withini_any s.off s.size all hs.off hs.size ha w).mono (fun _ _ h => (⟨h.1, h.2.symm⟩ : _ ∧ _)))
  have H2 := Lib.hid (fun w => (alignMay_any (w := w) s.align).mono (fun _ _ h => (⟨h.1, h.2.symm⟩ : _ ∧ _)))
  have hoff := hs.off
  clear ha hs
  obtain ⟨b, hb⟩ : ∃ b, b = s.may e all := ⟨_, rfl⟩
  rw [← hb]
  have HB := Lib.hid hb
  rw [show s.v = .agg #[.int .u32 s.cpu, .int .u32 s.sub, .int .u64 s.off, .int .u64 s.size, .int .i64 s.align] from rfl]
  clear hb
  by_cases c1 : s.off + s.size ≤ all
  · rw [decide_eq_true c1] at H1
    by_cases c2 : e ≤ s.off
    · by_cases c3 : 0 ≤ s.align ∧ s.align ≤ 15
      · rw [decide_eq_true c3] at H2
        obtain ⟨k, hk⟩ := Int.eq_ofNat_of_zero_le c3.1
        have hk15 : k ≤ 15 := by omega
        have H3 := Lib.hid (fun w => (unit_any (w := w) k hk15).mono (fun _ _ h => (⟨h.1, h.2.symm⟩ : _ ∧ _)))
        have hp : (0 : Int) < 2 ^ k := Int.pow_pos (by decide)
        have hne : ((2 : Int) ^ k == 0) = false := by simp; omega
        have hne' : ¬ (2 : Int) ^ k = 0 := by omega
        have hbe : b = (s.off % 2 ^ k == 0) := by
          rw [HB.out]
          unfold Sl.may
          rw [hk, Bool.eq_iff_iff, decide_eq_true_iff, beq_iff_eq, Int.toNat_natCast]
          exact ⟨fun h => h.2.2.2.2, fun h => ⟨c1, c2, by omega, by omega, h⟩⟩
        rw [hbe]
        rw [hk] at H2 ⊢
        generalize (2 : Int) ^ k = P at *
        clear HB hbe c3 hk
        go_enter Try.func62, Try.ntmps62
        go_wp2_with fail
        go_quiet (first | (go_at_call 55; exact Calls.quiet_of_same (H1.out _)) | (go_at_call 31; exact Calls.quiet_of_same (H2.out _)) | (go_at_call 54; exact Calls.quiet_of_same (H3.out _)))
        go_wp2
        go_ret
        exact ⟨rfl, grown_drewN (grown1 _ _) _⟩
      · rw [decide_eq_false c3] at H2
        have hbe : b = false := by
          rw [HB.out]
          unfold Sl.may
          rw [decide_eq_false_iff_not]
          exact fun h => c3 ⟨h.2.2.1, h.2.2.2.1⟩
        rw [hbe]
        clear HB hbe
        go_enter Try.func62, Try.ntmps62
        go_wp2_with fail
        go_quiet (first | (go_at_call 55; exact Calls.quiet_of_same (H1.out _)) | (go_at_call 31; exact Calls.quiet_of_same (H2.out _)))
        go_wp2
        go_ret
        exact ⟨rfl, grown_drewN (grown1 _ _) _⟩
    · have c2' : decide (e ≤ s.off) = false := decide_eq_false c2
      have hbe : b = false := by
        rw [HB.out]
        unfold Sl.may
        rw [decide_eq_false_iff_not]
        exact fun h => c2 h.2.1
      rw [hbe]
      clear HB hbe
      go_enter Try.func62, Try.ntmps62
      go_wp2_with fail
      go_quiet (first | (go_at_call 55; exact Calls.quiet_of_same (H1.out _)) | (go_at_call 31; exact Calls.quiet_of_same (H2.out _)))
      go_wp2
      go_ret
      exact ⟨rfl, grown_drewN (grown1 _ _) _⟩
  · rw [decide_eq_false c1] at H1
    have hbe : b = false := by
      rw [HB.out]
      unfold Sl.may
      rw [decide_eq_false_iff_not]
      exact fun h => c1 h.1
    rw [hbe]
    clear HB hbe
    go_enter Try.func62, Try.ntmps62
    go_wp2_with fail
    go_quiet (first | (go_at_call 55; exact Calls.quiet_of_same (H1.out _)) | (go_at_call 31; exact Calls.quiet_of_same (H2.out _)))
    go_wp2
    go_ret
    exact ⟨rfl, grown_drewN (grown1 _ _) _⟩

/-- The closures: of one architecture with another one? Has it a byte in common with another one? -/
theorem twice1_any (s : Sl) (hs : s.Fits) (bn : Nat) (t : Sl) (ht : t.Fits) (hb : SlAt w bn t) :
    Calls Try.prog 57 #[s.v, .pointer (some ⟨bn, 0, none⟩)] w fun e w' => e = .returned (.bool (s.alike t)) ∧ w.grownBy w' none := by
  have I := Lib.hid (fun (w : World) => isOf_any (w := w) s hs t.cpu t.sub ht.sub)
  have c0 := hb.c0
  have c1 := hb.c1
  have hlt := hb.lt
  clear hs hb ht
  unfold Sl.alike
  rw [show s.v = .agg #[.int .u32 s.cpu, .int .u32 s.sub, .int .u64 s.off, .int .u64 s.size, .int .i64 s.align] from rfl]
  go_enter Try.func57, Try.ntmps57
  go_wp2_with fail
  refine (I.out _).mono ?_
  rintro e w' ⟨rfl, hg⟩
  have G := Lib.hid (grown_trans (grown1 _ _) hg)
  clear hg
  go_wp2
  go_ret
  exact ⟨rfl, G.out⟩
theorem meets1_any (s : Sl) (hs : s.Fits) (bn : Nat) (t : Sl) (ht : t.Fits) (hb : SlAt w bn t) :
    Calls Try.prog 69 #[s.v, .pointer (some ⟨bn, 0, none⟩)] w fun e w' => e = .returned (.bool (t.meet s)) ∧ w.grownBy w' none := by
  have I := Lib.hid (fun (w : World) => cmeet_any (w := w) t.off t.size s.off s.size ht.off ht.size hs.off hs.size)
  have c0 := hb.c2
  have c1 := hb.c3
  have hlt := hb.lt
  clear hs hb ht
  unfold Sl.meet
  rw [show s.v = .agg #[.int .u32 s.cpu, .int .u32 s.sub, .int .u64 s.off, .int .u64 s.size, .int .i64 s.align] from rfl]
  go_enter Try.func69, Try.ntmps69
  go_wp2_with fail
  refine (I.out _).mono ?_
  rintro e w' ⟨rfl, hg⟩
  have G := Lib.hid (grown_trans (grown1 _ _) hg)
  clear hg
  go_wp2
  go_ret
  exact ⟨rfl, G.out⟩

/-- slices.ContainsFunc, of such a closure. -/
theorem contains_any (l : List Sl) (n : Nat) (hn : l.length = n) (hl : n ≤ 1152921504606846976) (p : Option Addr) (c : Nat) (hp : IsSl w p l) (f : Nat) (ent : ∀ args w, (callFunc f args).run Try.prog w = .ok (.enter f args) w) (bn : Nat) (pr : Sl → Bool)
    (hf : ∀ s ∈ l, ∀ w', w.grownBy w' none → Calls Try.prog f #[s.v, .pointer (some ⟨bn, 0, none⟩)] w' fun e w'' => e = .returned (.bool (pr s)) ∧ w'.grownBy w'' none) :
    Calls Try.prog 56 #[.slice p n c, .func (.func f) #[] #[.pointer (some ⟨bn, 0, none⟩)]] w fun e w' =>
      e = .returned (.bool (l.any pr)) ∧ w.grownBy w' none := by
  subst hn
  have I := Lib.hid (index_any l hl p c hp f ent bn pr hf)
  have hb : l.any pr = decide (0 ≤ Sl.findI pr l) := by
    unfold Sl.findI
    split
    · rename_i h
      rw [decide_eq_true (by omega)]
      rw [List.findIdx_lt_length] at h
      exact List.any_eq_true.2 h
    · rename_i h
      rw [decide_eq_false (by omega), Bool.eq_false_iff]
      rw [List.findIdx_lt_length] at h
      exact fun e => h (List.any_eq_true.1 e)
  rw [hb]
  clear hf hp hb
  generalize Sl.findI pr l = z at *
  go_enter Try.func56, Try.ntmps56
  go_wp2_with fail
  refine I.out.mono ?_
  rintro e w' ⟨rfl, hg⟩
  have G := Lib.hid hg
  clear hg
  go_wp2
  go_ret
  exact ⟨rfl, G.out⟩

theorem meetsAny_any (s : Sl) (hs : s.Fits) (l : List Sl) (n : Nat) (hn : l.length = n) (hl : n ≤ 1152921504606846976) (hfit : ∀ t ∈ l, t.Fits) (p : Option Addr) (c : Nat) (hp : IsSl w p l) :
    Calls Try.prog 63 #[s.v, .slice p n c] w fun e w' => e = .returned (.bool (l.any (fun t => s.meet t))) ∧ w.grownBy w' none := by
  have I := Lib.hid (fun (w1 : World) (g : Nat) (hg : w.grownBy w1 none) (ha : SlAt w1 g s) => contains_any (w := w1) l n hn hl p c (hp.grown hg) 69 (enters_of Try.func69 (by kernel_rfl) rfl) g (fun t => s.meet t) (fun t ht w' hg' => meets1_any t (hfit t ht) g s hs (ha.grown hg')))
  have S := Lib.hid (SlAt.new w s)
  clear hs hfit hp
  rw [show s.v = .agg #[.int .u32 s.cpu, .int .u32 s.sub, .int .u64 s.off, .int .u64 s.size, .int .i64 s.align] from rfl]
  go_enter Try.func63, Try.ntmps63
  go_wp2_with fail
  refine (I.out _ _ (grown1 _ _) S.out).mono ?_
  rintro e w' ⟨rfl, hg⟩
  have G := Lib.hid (grown_trans (grown1 _ _) hg)
  clear hg
  go_wp2
  go_ret
  exact ⟨rfl, G.out⟩
end Go.Proofs.Ytdjakaiadggemaa
