/- The document's cursor, and a number at a place of bytes: for seats from layer 4 on. No condition but that the place is within them. -/
import Derived.Test.YtlmgkofbjcahaaaGrow
import Derived.StillTailTactics
import Derived.RegionTactic
import Derived.BigQuiet
import Derived.Deep.QuietTactic
import Derived.Deep.Cut
import Derived.Deep.CutRange
namespace Go.Proofs.Ytlmgkofbjcahaaa
open Go.RowKit
variable {w w' : World}

/-- The document's cursor in a block of its own. -/
def RCur (w : World) (a : Nat) (q : Option Addr) (n c : Nat) (p : Int) (big bad : Bool) : Prop := w.heap[a]? = some (.cells #[.slice q n c, .int .i64 p, .bool big, .bool bad] 81 (0, 0))
section
variable {a : Nat} {q : Option Addr} {n c : Nat} {p : Int} {big bad : Bool}
theorem RCur.c0 (h : RCur w a q n c p big bad) : w.cell? ⟨a, 0, none⟩ = some (.slice q n c) := by rw [cell_of h]; rfl
theorem RCur.c1 (h : RCur w a q n c p big bad) : w.cell? ⟨a, 1, none⟩ = some (.int .i64 p) := by rw [cell_of h]; rfl
theorem RCur.c2 (h : RCur w a q n c p big bad) : w.cell? ⟨a, 2, none⟩ = some (.bool big) := by rw [cell_of h]; rfl
theorem RCur.c3 (h : RCur w a q n c p big bad) : w.cell? ⟨a, 3, none⟩ = some (.bool bad) := by rw [cell_of h]; rfl
theorem RCur.f (h : RCur w a q n c p big bad) (i : Nat) : w.frozen? ⟨a, i, none⟩ = false := free_of h
theorem RCur.set1 (h : RCur w a q n c p big bad) (k : Int) : RCur (w.setCell ⟨a, 1, none⟩ (.int .i64 k)) a q n c k big bad := by unfold RCur; rw [heap_setCell_same w a 1 _ _ _ h]; rfl
theorem RCur.set3 (h : RCur w a q n c p big bad) (b : Bool) : RCur (w.setCell ⟨a, 3, none⟩ (.bool b)) a q n c p big b := by unfold RCur; rw [heap_setCell_same w a 3 _ _ _ h]; rfl

theorem need_ok (h : RCur w a q n c p big false) :
    Calls Try.prog 48 #[.pointer (some ⟨a, 0, none⟩), .bool true] w fun e w' => e = .returned (.bool false) ∧ RCur w' a q n c p big false ∧ w.grownBy w' (some a) := by
  have c3 := h.c3
  have f3 := h.f 3
  have F := Lib.hid (h.set3 false)
  have G := Lib.hid (grown_setCell (i := 3) (grown_refl w (some a)) (.bool false))
  clear h
  go_enter Try.func48, Try.ntmps48
  go_wp2
  go_ret
  exact ⟨rfl, F.out, G.out⟩

set_option maxRecDepth 20000 in
set_option maxHeartbeats 1600000 in
theorem rbytes_ok {x : Addr} (h : RCur w a (some x) n c 0 big false) (k : Nat) (h0 : 0 < k) (hk : k ≤ n) (hn : n ≤ c) (hc : c ≤ 9223372036854775807) :
    Calls Try.prog 49 #[.pointer (some ⟨a, 0, none⟩), .int .i64 k] w fun e w' => e = .returned (.slice (some x) k c) ∧ RCur w' a (some x) n c k big false ∧ w.grownBy w' (some a) := by
  have c0 := h.c0
  have c1 := h.c1
  have c3 := h.c3
  have N := Lib.hid (fun (w1 : World) (hh : RCur w1 a (some x) n c 0 big false) => need_ok hh)
  have H := Lib.hid (show RCur w.drew a (some x) n c 0 big false from h)
  have D := Lib.hid (show w.grownBy w.drew (some a) from grown_drewN (grown_refl w (some a)) 1)
  clear h
  go_enter Try.func49, Try.ntmps49
  go_wp2
  go_still_tail 17, (by kernel_rfl)
  change wpList _ _ _ _ _ w.drew
  generalize w.drew = w1 at *
  go_wp2_with fail
  rw [show decide ((k : Int) ≤ (n : Int)) = true from decide_eq_true (by omega)]
  refine (N.out _ H.out).mono ?_
  rintro e w2 ⟨rfl, h2, hg2⟩
  have d0 := h2.c0
  have d1 := h2.c1
  have g1 := h2.f 1
  have hcne : ¬ c = 0 := by omega
  have G2 := Lib.hid (grown_trans D.out hg2)
  have G := Lib.hid (fun (w' : World) (hg : w.grownBy w' (some a)) => grown_setCell (i := 1) hg (.int .i64 (k : Int)))
  have F := Lib.hid (fun m => RCur.set1 (show RCur (w2.drewN m) a (some x) n c 0 big false from h2) k)
  clear h2 hg2 N H D c0 c1 c3
  go_wp2
  go_quiet (fail)
  go_wp2
  go_ret
  exact ⟨rfl, F.out _, G.out _ (grown_drewN G2.out _)⟩

/-- What has been read of a number behind so many rounds. -/
def acc (big : Bool) (ys : List Int) (j : Nat) : Int := if big then beN (ys.take j) else leN (ys.drop (ys.length - j))
theorem acc_bd {ys : List Int} (hy : Small ys) (big : Bool) (j : Nat) (hj : j ≤ ys.length) : 0 ≤ acc big ys j ∧ acc big ys j < 2 ^ (8 * j) := by
  cases big
  · have := leN_bd (ys.drop (ys.length - j)) (fun x hx => hy x (List.mem_of_mem_drop hx))
    rw [List.length_drop, show ys.length - (ys.length - j) = j by omega] at this
    exact this
  · have := beN_bd (ys.take j) (fun x hx => hy x (List.mem_of_mem_take hx))
    rw [List.length_take, Nat.min_eq_left hj] at this
    exact this
theorem acc_big (ys : List Int) (j : Nat) (hj : j < ys.length) : acc true ys (j + 1) = acc true ys j * 256 + ys.getD j 0 := by
  unfold acc
  rw [if_pos rfl, if_pos rfl, List.take_succ_eq_append_getElem hj, beN_snoc]
  simp [hj]
theorem acc_little (ys : List Int) (j : Nat) (hj : j < ys.length) : acc false ys (j + 1) = acc false ys j * 256 + ys.getD (ys.length - 1 - j) 0 := by
  unfold acc
  rw [if_neg (by simp), if_neg (by simp), List.drop_eq_getElem_cons (show ys.length - (j + 1) < ys.length by omega), show ys.length - (j + 1) + 1 = ys.length - j by omega]
  simp only [leN]
  rw [show ys.length - 1 - j = ys.length - (j + 1) by omega, List.getD_eq_getElem?_getD, List.getElem?_eq_getElem (by omega)]
  simp only [Option.getD_some]
  omega
theorem acc_all (big : Bool) (ys : List Int) : acc big ys ys.length = numOf big ys := by cases big <;> simp [acc, numOf]

theorem rnumber_248 {b o : Nat} (ys : List Int) (h : RCur w a (some ⟨b, o, none⟩) n c 0 big false) (k : Nat) (hs : k = 2 ∨ k = 4 ∨ k = 8) (hk : k ≤ n) (hn : n ≤ c) (hc : c ≤ 9223372036854775807) (hl : ys.length = k) (hy : Small ys)
    (hb : ∀ i, i < k → ∀ w', w.grownBy w' (some a) → w'.cell? ⟨b, o + i, none⟩ = some (.int .u8 (ys.getD i 0))) :
    Calls Try.prog 43 #[.pointer (some ⟨a, 0, none⟩), .int .i64 k] w fun e w' => e = .returned (.int .u64 (numOf big ys)) ∧ w.grownBy w' (some a) := by
  have N := Lib.hid (need_ok h)
  have B := Lib.hid (fun w1 (h1 : RCur w1 a (some ⟨b, o, none⟩) n c 0 big false) => rbytes_ok h1 k (by omega) hk hn hc)
  have C := Lib.hid hb
  have Y := Lib.hid hy
  have L := Lib.hid hl
  have E := Lib.hid (acc_all big ys)
  clear h hb hy
  rcases hs with rfl | rfl | rfl
  all_goals
    go_enter Try.func43, Try.ntmps43
    go_wp2_with fail
    refine N.out.mono ?_
    rintro e w1 ⟨rfl, h1, hg1⟩
    have B1 := Lib.hid (B.out w1 h1)
    clear h1
    go_wp2_with fail
    refine B1.out.mono ?_
    rintro e w2 ⟨rfl, h2, hg2⟩
    have hg := grown_trans hg1 hg2
    have d2 := h2.c2
    have C2 := Lib.hid (fun i hi => C.out i hi w2 hg)
    have G := Lib.hid hg
    clear h2 hg1 hg2 hg hl
    go_wp2
    go_loop [6, 7] (fun n i => ∃ j : Nat, j ≤ ys.length ∧ i = .int .i64 j ∧ n = .int .u64 (acc big ys j)) (fun _ i => 8 - (intOf i).toNat)
    case atStart => exact ⟨0, Nat.zero_le _, rfl, by cases big <;> simp [acc, beN, leN]⟩
    case round =>
      obtain ⟨j, hj, rfl, rfl⟩ := hrel
      have hl := L.out
      by_cases hlt : j < ys.length
      · have hbd := acc_bd Y.out big j hj
        have hbd2 := acc_bd Y.out big (j + 1) hlt
        have hp : (2 : Int) ^ (8 * (j + 1)) ≤ 2 ^ 64 := by
          have : (2 : Nat) ^ (8 * (j + 1)) ≤ 2 ^ 64 := Nat.pow_le_pow_right (by decide) (by omega)
          exact_mod_cast this
        have hp64 : (2 : Int) ^ 64 = 18446744073709551616 := by decide
        have hb2 : acc big ys (j + 1) < 18446744073709551616 := by omega
        have hb0 := hbd2.1
        clear hbd2 hp hp64
        cases big
        · have hs := acc_little ys j hlt
          have cj := C2.out (ys.length - 1 - j) (by omega)
          have hx := Y.out _ (List.getElem_mem (show ys.length - 1 - j < ys.length by omega))
          rw [show ys[ys.length - 1 - j] = ys.getD (ys.length - 1 - j) 0 by rw [List.getD_eq_getElem?_getD, List.getElem?_eq_getElem (by omega)]; rfl] at hx
          have hi1 : ys.length - 1 - j = ys.length - 1 - j := rfl
          generalize ys.getD (ys.length - 1 - j) 0 = y at *
          rw [hl] at cj
          have S := Lib.hid hs
          have hA0 := hbd.1
          have hA1 : acc false ys j * 256 + y < 18446744073709551616 := by omega
          clear hbd hs hi1 hb2 hb0
          generalize acc false ys j = A at *
          go_wp2
          go_round
          case rel => exact ⟨j + 1, by omega, by go_num, by rw [S.out]⟩
          case measure => simp [intOf]; omega
        · have hs := acc_big ys j hlt
          have cj := C2.out j (by omega)
          have hx := Y.out _ (List.getElem_mem hlt)
          rw [show ys[j] = ys.getD j 0 by rw [List.getD_eq_getElem?_getD, List.getElem?_eq_getElem hlt]; rfl] at hx
          generalize ys.getD j 0 = y at *
          have S := Lib.hid hs
          have hA0 := hbd.1
          have hA1 : acc true ys j * 256 + y < 18446744073709551616 := by omega
          clear hbd hs hb2 hb0
          generalize acc true ys j = A at *
          go_wp2
          go_round
          case rel => exact ⟨j + 1, by omega, by go_num, by rw [S.out]⟩
          case measure => simp [intOf]; omega
      · have hjl : j = ys.length := by omega
        subst hjl
        go_wp2
        go_ret
        have hE := E.out
        rw [L.out] at hE
        exact ⟨congrArg (fun z => Ending.returned (Value.int .u64 z)) hE, G.out⟩
theorem rnumber_ok {b o : Nat} (ys : List Int) (h : RCur w a (some ⟨b, o, none⟩) n c 0 big false) (k : Nat) (hs : k = 4 ∨ k = 8) (hk : k ≤ n) (hn : n ≤ c) (hc : c ≤ 9223372036854775807) (hl : ys.length = k) (hy : Small ys)
    (hb : ∀ i, i < k → ∀ w', w.grownBy w' (some a) → w'.cell? ⟨b, o + i, none⟩ = some (.int .u8 (ys.getD i 0))) :
    Calls Try.prog 43 #[.pointer (some ⟨a, 0, none⟩), .int .i64 k] w fun e w' => e = .returned (.int .u64 (numOf big ys)) ∧ w.grownBy w' (some a) :=
  rnumber_248 ys h k (.inr hs) hk hn hc hl hy hb

end
end Go.Proofs.Ytlmgkofbjcahaaa
