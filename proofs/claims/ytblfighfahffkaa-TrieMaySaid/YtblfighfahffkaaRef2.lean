/- The document's own layer 2 (Size, Uleb, Sleb over bytes), one contract each: what it says of any bytes. No condition but that the bytes lie in memory. -/
import Derived.Test.YtblfighfahffkaaTake
import Derived.Deep.LoopGhost
namespace Go.Proofs.Ytblfighfahffkaa
open Go.RowKit
variable {w : World} {q : Option Addr} {c : Nat} {ys : List Int}

theorem refsize_any (h : IsBytes w q c ys) (hr : ∀ x ∈ ys, 0 ≤ x ∧ x < 256) (hb : ys.length ≤ 140737488355328) :
    Calls Try.prog 101 #[.slice q ys.length c] w fun e w' => e = .returned (.int .i64 (szN 10 ys)) ∧ w = w' := by
  have hcell : ∀ k, k < ys.length → ∃ x : Addr, q = some x ∧ w.cell? (x.add k) = some (.int .u8 (ys.getD k 0)) := by
    intro k hk
    rcases h.ways with ⟨_, rfl, _⟩ | ⟨x, rfl, hc⟩
    · simp at hk
    · exact ⟨x, rfl, hc k hk⟩
  have C := Lib.hid hcell
  have HR := Lib.hid hr
  clear hcell hr h
  go_enter Try.func101, Try.ntmps101
  go_wp2
  go_loop [3] (fun i => ∃ k : Nat, i = .int .i64 k ∧ k ≤ 10 ∧ k ≤ ys.length ∧ Hid (More ys k)) (fun i => 10 - (intOf i).toNat)
  case atStart => exact ⟨0, rfl, by omega, by omega, Lib.hid (fun i hi => by omega)⟩
  case round =>
    obtain ⟨k, rfl, hk, hl, M⟩ := hrel
    by_cases hend : k = 10
    · have hz := szN_long 10 ys (hend ▸ M.out)
      have Z := Lib.hid hz
      clear hz
      have hd : decide ((k : Int) < 10) = false := by simp; omega
      by_cases he : k < ys.length
      · go_wp2
        go_ret
        exact ⟨ret_int (by rw [Z.out]; rfl), rfl⟩
      · go_wp2
        go_ret
        exact ⟨ret_int (by rw [Z.out]; rfl), rfl⟩
    · by_cases he : k < ys.length
      · obtain ⟨x, rfl, hc⟩ := C.out k he
        have hx := HR.out (ys.getD k 0) (by simp [List.getD, he, List.getElem_mem])
        have hs : ys.getD k 0 < 128 → szN 10 ys = k + 1 := fun hlt => szN_end 10 k ys (by omega) he M.out hlt
        have hn : 128 ≤ ys.getD k 0 → More ys (k + 1) := fun h => M.out.succ h
        generalize ys.getD k 0 = y at *
        have S := Lib.hid hs
        have HN := Lib.hid hn
        clear hs hn
        by_cases hlt : y < 128
        · go_wp2
          go_ret
          exact ⟨ret_int (by rw [S.out hlt]; omega), rfl⟩
        · have hge : 128 ≤ y := by omega
          go_wp2
          go_round
          case rel => exact ⟨k + 1, by go_num, by omega, by omega, Lib.hid (HN.out hge)⟩
          case measure => simp [intOf]; omega
      · have hz := szN_short 10 ys (by rw [show ys.length = k by omega]; exact M.out)
        have Z := Lib.hid hz
        clear hz
        go_wp2
        go_ret
        exact ⟨ret_int (by rw [Z.out]; rfl), rfl⟩

theorem valN_drop_le (l : List Int) : ∀ j, valN (l.drop j) ≤ valN l := by
  induction l with
  | nil => intro j; simp
  | cons b l ih =>
    intro j
    cases j with
    | zero => exact Int.le_refl _
    | succ j =>
      have h1 := ih j
      have h2 := valN_bd l
      simp only [List.drop_succ_cons, valN]
      omega
theorem valN_drop_lt (l : List Int) (j : Nat) (hj : 1 ≤ j) : 128 * valN (l.drop j) ≤ valN l := by
  cases l with
  | nil => cases j <;> simp [valN]
  | cons b l =>
    obtain ⟨j, rfl⟩ : ∃ i, j = i + 1 := ⟨j - 1, by omega⟩
    have h1 := valN_drop_le l j
    simp only [List.drop_succ_cons, valN]
    omega
theorem drop_cons {l : List Int} {i : Nat} (h : i < l.length) : l.drop i = l.getD i 0 :: l.drop (i + 1) := by
  rw [List.drop_eq_getElem_cons h]; simp [h]
theorem getD_take {l : List Int} {s i : Nat} (h : i < s) : (l.take s).getD i 0 = l.getD i 0 := by simp [List.getD, h]
theorem uleb_eq {l : List Int} (h : valN (l.take (szN 10 l)) < 18446744073709551616) : ulebN l = (valN (l.take (szN 10 l)), szN 10 l) := by unfold ulebN; rw [if_pos h]
theorem uleb_ge {l : List Int} (h : 18446744073709551616 ≤ valN (l.take (szN 10 l))) : ulebN l = (0, 0) := uleb_no (.inr h)

theorem refuleb_any (h : IsBytes w q c ys) (hr : ∀ x ∈ ys, 0 ≤ x ∧ x < 256) (hb : ys.length ≤ 140737488355328) :
    Calls Try.prog 81 #[.slice q ys.length c] w fun e w' => e = .returned (.tuple #[.int .u64 (ulebN ys).1, .int .i64 (ulebN ys).2]) ∧ w = w' := by
  have SZ := Lib.hid (refsize_any h hr hb)
  have hcell : ∀ k, k < ys.length → ∃ x : Addr, q = some x ∧ w.cell? (x.add k) = some (.int .u8 (ys.getD k 0)) := by
    intro k hk
    rcases h.ways with ⟨_, rfl, _⟩ | ⟨x, rfl, hc⟩
    · simp at hk
    · exact ⟨x, rfl, hc k hk⟩
  have C := Lib.hid hcell
  have HR := Lib.hid hr
  have hs := szN_le 10 ys
  have YE := Lib.hid (uleb_eq (l := ys))
  have NO := Lib.hid (uleb_ge (l := ys))
  generalize szN 10 ys = s at *
  generalize ulebN ys = r at *
  clear hcell hr h
  go_enter Try.func81, Try.ntmps81
  go_wp2_with fail
  refine SZ.out.mono ?_
  rintro e w' ⟨rfl, rfl⟩
  go_wp2
  go_loop [4, 6] (fun n i => ∃ (j : Nat) (v : Int), i = .int .i64 ((j : Int) - 1) ∧ n = .int .u64 v ∧ j ≤ s ∧ 0 ≤ v ∧ v < 18446744073709551616 ∧ Hid (v = valN ((ys.take s).drop j))) (fun _ i => (intOf i + 1).toNat)
  case atStart => exact ⟨s, 0, by go_num, rfl, by omega, by omega, by omega, Lib.hid (by rw [List.drop_eq_nil_of_le (by simp; omega)]; rfl)⟩
  case round =>
    obtain ⟨j, v, rfl, rfl, hj, hv0, hv1, V⟩ := hrel
    rcases Nat.eq_zero_or_pos j with rfl | hpos
    · have hv := V.out
      rw [List.drop_zero] at hv
      have hy := YE.out (by rw [← hv]; exact hv1)
      rw [← hv] at hy
      have Y := Lib.hid hy
      clear hv hy
      go_wp2
      go_ret2
      rw [Y.out]
      exact ⟨rfl, rfl⟩
    · obtain ⟨i, rfl⟩ : ∃ i, j = i + 1 := ⟨j - 1, by omega⟩
      have e1 : ((i + 1 : Nat) : Int) - 1 = (i : Int) := by omega
      rw [e1]
      by_cases hbig : 144115188075855872 ≤ v
      · have hn := NO.out (by have := valN_drop_lt (ys.take s) (i + 1) (by omega); rw [← V.out] at this; omega)
        have N := Lib.hid hn
        clear hn e1
        go_wp2
        go_ret2
        rw [N.out]
        exact ⟨rfl, rfl⟩
      · obtain ⟨x, rfl, hc⟩ := C.out i (by omega)
        have hx := HR.out (ys.getD i 0) (by simp [List.getD, show i < ys.length by omega, List.getElem_mem])
        have hd : (ys.take s).drop i = ys.getD i 0 :: (ys.take s).drop (i + 1) := by rw [drop_cons (by simp; omega), getD_take (by omega)]
        generalize ys.getD i 0 = y at *
        have D := Lib.hid hd
        clear hd e1
        go_wp2
        go_round
        case rel => exact ⟨i, v * 128 + y % 128, by go_num, by go_num, by omega, by omega, by omega, Lib.hid (by rw [D.out, V.out]; simp only [valN]; omega)⟩
        case measure => simp [intOf]

theorem svalN_cons (b : Int) {l : List Int} (h : l ≠ []) : svalN (b :: l) = b % 128 + 128 * svalN l := by
  cases l with
  | nil => exact absurd rfl h
  | cons x l => rfl
theorem sval_hi (l : List Int) : ∀ j, 72057594037927936 ≤ svalN (l.drop (j + 1)) → 9223372036854775808 ≤ svalN l := by
  induction l with
  | nil => intro j h; simp [svalN] at h
  | cons b l ih =>
    intro j h
    rw [List.drop_succ_cons] at h
    have h1 : 72057594037927936 ≤ svalN l := by
      cases j with
      | zero => simpa using h
      | succ j => have := ih j h; omega
    have hne : l ≠ [] := by rintro rfl; simp [svalN] at h1
    rw [svalN_cons b hne]; omega
theorem sval_lo (l : List Int) : ∀ j, svalN (l.drop (j + 1)) < -72057594037927936 → svalN l < -9223372036854775808 := by
  induction l with
  | nil => intro j h; simp [svalN] at h
  | cons b l ih =>
    intro j h
    rw [List.drop_succ_cons] at h
    have h1 : svalN l < -72057594037927936 := by
      cases j with
      | zero => simpa using h
      | succ j => have := ih j h; omega
    have hne : l ≠ [] := by rintro rfl; simp [svalN] at h1
    rw [svalN_cons b hne]; omega
theorem sleb_eq {l : List Int} (h : -9223372036854775808 ≤ svalN (l.take (szN 10 l)) ∧ svalN (l.take (szN 10 l)) < 9223372036854775808) : slebN l = (svalN (l.take (szN 10 l)), szN 10 l) := by unfold slebN; rw [if_pos h]
theorem sleb_out {l : List Int} (h : svalN (l.take (szN 10 l)) < -9223372036854775808 ∨ 9223372036854775808 ≤ svalN (l.take (szN 10 l))) : slebN l = (0, 0) := sleb_no (.inr (by omega))

end Go.Proofs.Ytblfighfahffkaa
