/- The walk of SpaceMany: just so many pages are there as may be. No condition. -/
import Derived.Test.YtiolcpnhabipaaaSpK
namespace Go.Proofs.Ytiolcpnhabipaaa.spaceMany
open Go.RowKit
variable {w w' W : World}

theorem free_zero (a s : Nat) (hs : s ≠ 0) (hb : belowB a s = true) : freeOf Spc.zero a s = true := by
  rw [freeOf_is hs hb]; exact freeB_iff.2 fun _ _ _ => rfl
theorem arg_no {a n : Nat} {p : Int} (ha : a % 4096 = 0) (hn : 0 < n) (hp : 1 ≤ p ∧ p ≤ 7) : ¬ mapArg a (n * 4096) p := by unfold mapArg; omega
theorem first_many {n : Nat} (h : 8192 < n) (hn : n ≤ 8194) : mapErr Spc.zero 0 (n * 4096) 1 = 11 :=
  mapErr_many (arg_no rfl (by omega) ⟨by decide, by decide⟩) (belowB_iff.2 (by omega)) (free_zero _ _ (by omega) (belowB_iff.2 (by omega))) (by show 8192 - 0 < _; omega)
theorem first_ok {n : Nat} (h : n ≤ 8192) (hn : 0 < n) : mapErr Spc.zero 0 (n * 4096) 1 = 0 :=
  mapErr_ok (arg_no rfl (by omega) ⟨by decide, by decide⟩) (belowB_iff.2 (by omega)) (free_zero _ _ (by omega) (belowB_iff.2 (by omega))) (by show ¬ 8192 - 0 < _; omega)
theorem free_more {n m : Nat} (hn : n ≤ 8192) (hm0 : 0 < m) (hm : m ≤ 8192) : freeOf (Spc.zero.lays 0 n 1) 1099511627776 (m * 4096) = true := by
  rw [freeOf_is (by omega) (belowB_iff.2 (by omega))]
  refine freeB_iff.2 fun x hx _ => ?_
  rw [lays_P (by omega)]
  rfl
theorem more_many {n m : Nat} (hn : n ≤ 8192) (hm0 : 0 < m) (hm : m ≤ 8192) (h : 8192 < n + m) : mapErr (Spc.zero.lays 0 n 1) 1099511627776 (m * 4096) 2 = 11 :=
  mapErr_many (arg_no (by omega) hm0 ⟨by decide, by decide⟩) (belowB_iff.2 (by omega)) (free_more hn hm0 hm) (by show 8192 - (0 + n) < _; omega)
theorem more_ok {n m : Nat} (hn : n ≤ 8192) (hm0 : 0 < m) (hm : m ≤ 8192) (h : n + m ≤ 8192) : mapErr (Spc.zero.lays 0 n 1) 1099511627776 (m * 4096) 2 = 0 :=
  mapErr_ok (arg_no (by omega) hm0 ⟨by decide, by decide⟩) (belowB_iff.2 (by omega)) (free_more hn hm0 hm) (by show ¬ 8192 - (0 + n) < _; omega)

set_option maxRecDepth 20000 in
theorem walk (n m : Nat) (w : World) : Calls Try.prog 5 #[.int .u64 n, .int .u64 m] w fun e w' => e = .returned (.bool true) ∧ Below w.heap.size w w' := by
  have K := Lib.hid known7_any
  by_cases c1 : n < 1
  · have d1 : decide ((n : Int) < 1) = true := by simp; omega
    go_enter Try.func5, Try.ntmps5
    go_wp2_with fail
    refine (K.out w).mono ?_
    rintro e w1 ⟨rfl, hb⟩
    go_wp2
    go_ret
    exact ⟨rfl, hb⟩
  have d1 : decide ((n : Int) < 1) = false := by simp; omega
  by_cases c2 : 8194 < n
  · have d2 : decide ((8194 : Int) < n) = true := by simp; omega
    go_enter Try.func5, Try.ntmps5
    go_wp2_with fail
    refine (K.out w).mono ?_
    rintro e w1 ⟨rfl, hb⟩
    go_wp2
    go_ret
    exact ⟨rfl, hb⟩
  have d2 : decide ((8194 : Int) < n) = false := by simp; omega
  by_cases c3 : m < 1
  · have d3 : decide ((m : Int) < 1) = true := by simp; omega
    go_enter Try.func5, Try.ntmps5
    go_wp2_with fail
    refine (K.out w).mono ?_
    rintro e w1 ⟨rfl, hb⟩
    go_wp2
    go_ret
    exact ⟨rfl, hb⟩
  have d3 : decide ((m : Int) < 1) = false := by simp; omega
  by_cases c4 : 8192 < m
  · have d4 : decide ((8192 : Int) < m) = true := by simp; omega
    go_enter Try.func5, Try.ntmps5
    go_wp2_with fail
    refine (K.out w).mono ?_
    rintro e w1 ⟨rfl, hb⟩
    go_wp2
    go_ret
    exact ⟨rfl, hb⟩
  have d4 : decide ((8192 : Int) < m) = false := by simp; omega
  by_cases c5 : 8192 < n
  · have d5 : decide ((8192 : Int) < n) = true := by simp; omega
    have E := Lib.hid (first_many c5 (by omega))
    go_enter Try.func5, Try.ntmps5
    go_wp2_with fail
    refine (spnew_any w).mono ?_
    rintro e w1 ⟨rfl, s1, b1⟩
    go_wp2_with fail
    have M1 := map_any s1 0 (n * 4096) 1
    rw [show ((n * 4096 : Nat) : Int) = (n : Int) * 4096 from by omega] at M1
    refine M1.mono ?_
    rintro e w2 ⟨rfl, hd, hl, ch⟩
    have s2 := (hl (by rw [E.out]; decide)).mono (span_foot b1.size ch.size)
    have b2 := span_below b1 ch
    rw [E.out]
    have S2 := Lib.hid s2
    have B2 := Lib.hid b2
    clear hd hl ch s1 b1 s2 b2 M1
    go_wp2_with fail
    refine (pages_any S2.out).mono ?_
    rintro e w3 ⟨rfl, rfl⟩
    rw [show ((Spc.zero.K : Nat) : Int) = 0 from rfl]
    go_wp2_with fail
    refine (K.out w2).mono ?_
    rintro e w3 ⟨rfl, hb⟩
    have HB := Lib.hid (B2.out.trans (hb.mono B2.out.size))
    clear hb
    go_wp2
    go_ret
    exact ⟨rfl, HB.out⟩
  have d5 : decide ((8192 : Int) < n) = false := by simp; omega
  have c5' : n ≤ 8192 := by omega
  have c1' : 0 < n := by omega
  have c3' : 0 < m := by omega
  have c4' : m ≤ 8192 := by omega
  have E1 := Lib.hid (first_ok c5' c1')
  have hcp : (n : Int) * 4096 / 4096 = n := by omega
  by_cases c6 : 8192 < n + m
  · have d6 : (8192 : Int) < (n : Int) + m := by omega
    have E2 := Lib.hid (more_many c5' c3' c4' c6)
    go_enter Try.func5, Try.ntmps5
    go_wp2_with fail
    refine (spnew_any w).mono ?_
    rintro e w1 ⟨rfl, s1, b1⟩
    go_wp2_with fail
    have M1 := map_any s1 0 (n * 4096) 1
    rw [show ((n * 4096 : Nat) : Int) = (n : Int) * 4096 from by omega] at M1
    refine M1.mono ?_
    rintro e w2 ⟨rfl, hd, hl, ch⟩
    have s2 := (hd E1.out).mono (span_foot b1.size ch.size)
    rw [show 0 / 4096 = 0 from rfl, show n * 4096 / 4096 = n by omega] at s2
    have b2 := span_below b1 ch
    rw [E1.out]
    have S2 := Lib.hid s2
    have B2 := Lib.hid b2
    clear hd hl ch s1 b1 s2 b2 M1
    go_wp2_with fail
    have M2 := map_any S2.out 1099511627776 (m * 4096) 2
    rw [show ((m * 4096 : Nat) : Int) = (m : Int) * 4096 from by omega] at M2
    refine M2.mono ?_
    rintro e w3 ⟨rfl, hd, hl, ch⟩
    have s3 := (hl (by rw [E2.out]; decide)).mono (span_foot B2.out.size ch.size)
    have b3 := span_below B2.out ch
    rw [E2.out]
    have S3 := Lib.hid s3
    have B3 := Lib.hid b3
    clear hd hl ch s3 b3 M2
    go_wp2_with fail
    refine (pages_any S3.out).mono ?_
    rintro e w4 ⟨rfl, rfl⟩
    rw [show (((Spc.zero.lays 0 n 1).K : Nat) : Int) = n from by show ((0 + n : Nat) : Int) = n; omega]
    go_wp2_with fail
    refine (K.out w3).mono ?_
    rintro e w4 ⟨rfl, hb⟩
    have HB := Lib.hid (B3.out.trans (hb.mono B3.out.size))
    clear hb
    go_wp2
    go_ret
    exact ⟨rfl, HB.out⟩
  · have d6 : ¬ (8192 : Int) < (n : Int) + m := by omega
    have E2 := Lib.hid (more_ok c5' c3' c4' (by omega))
    go_enter Try.func5, Try.ntmps5
    go_wp2_with fail
    refine (spnew_any w).mono ?_
    rintro e w1 ⟨rfl, s1, b1⟩
    go_wp2_with fail
    have M1 := map_any s1 0 (n * 4096) 1
    rw [show ((n * 4096 : Nat) : Int) = (n : Int) * 4096 from by omega] at M1
    refine M1.mono ?_
    rintro e w2 ⟨rfl, hd, hl, ch⟩
    have s2 := (hd E1.out).mono (span_foot b1.size ch.size)
    rw [show 0 / 4096 = 0 from rfl, show n * 4096 / 4096 = n by omega] at s2
    have b2 := span_below b1 ch
    rw [E1.out]
    have S2 := Lib.hid s2
    have B2 := Lib.hid b2
    clear hd hl ch s1 b1 s2 b2 M1
    go_wp2_with fail
    have M2 := map_any S2.out 1099511627776 (m * 4096) 2
    rw [show ((m * 4096 : Nat) : Int) = (m : Int) * 4096 from by omega] at M2
    refine M2.mono ?_
    rintro e w3 ⟨rfl, hd, hl, ch⟩
    have s3 := (hd E2.out).mono (span_foot B2.out.size ch.size)
    have b3 := span_below B2.out ch
    rw [E2.out]
    have S3 := Lib.hid s3
    have B3 := Lib.hid b3
    clear hd hl ch s3 b3 M2
    go_wp2_with fail
    refine (pages_any S3.out).mono ?_
    rintro e w4 ⟨rfl, rfl⟩
    rw [show ((((Spc.zero.lays 0 n 1).lays (1099511627776 / 4096) (m * 4096 / 4096) 2).K : Nat) : Int) = (n : Int) + m from by show ((0 + n + m * 4096 / 4096 : Nat) : Int) = (n : Int) + m; omega]
    go_wp2_with fail
    refine (K.out w3).mono ?_
    rintro e w4 ⟨rfl, hb⟩
    have HB := Lib.hid (B3.out.trans (hb.mono B3.out.size))
    clear hb
    go_wp2
    go_ret
    exact ⟨rfl, HB.out⟩
end Go.Proofs.Ytiolcpnhabipaaa.spaceMany
