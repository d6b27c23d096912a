import Derived.Test.YtemdbfgpimfkdaaM14
/- The document's numbers and fields of a command, and what it is. No condition but that it has at most 2^47 bytes. -/
namespace Go.Proofs.Ytemdbfgpimfkdaa
open Go.RowKit
variable {w w' : World}

theorem leN_step {ys : List Int} {i : Nat} {x : Int} (h : ys[i]? = some x) : leN (ys.drop i) = x + 256 * leN (ys.drop (i + 1)) := by
  rw [List.drop_eq_getElem?_toList_append, h]
  rfl
set_option maxRecDepth 20000 in
theorem get5_any (ys : List Int) {q : Option Addr} {c n : Nat} (h : IsBytes w q c ys) (hn : ys.length = n) (h8 : n ≤ 8) (hr : Small ys) :
    Calls Try.prog 35 #[.slice q n c] w fun e w' => e = .returned (.int .u64 (leN ys)) ∧ w = w' := by
  have HB := Lib.hid h
  have HN := Lib.hid hn
  have HR := Lib.hid hr
  have hbd : ∀ k, k ≤ n → 0 ≤ leN (ys.drop k) ∧ leN (ys.drop k) < 18446744073709551616 := fun k hk => by
    have := leN_bd (ys.drop k) (fun x hx => hr x (List.mem_of_mem_drop hx))
    have hl : (ys.drop k).length ≤ 8 := by rw [List.length_drop]; omega
    have : (2 : Int) ^ (8 * (ys.drop k).length) ≤ 18446744073709551616 := by
      have h1 : (2 : Nat) ^ (8 * (ys.drop k).length) ≤ 2 ^ 64 := Nat.pow_le_pow_right (by decide) (by omega)
      have h2 : ((2 ^ (8 * (ys.drop k).length) : Nat) : Int) ≤ ((2 ^ 64 : Nat) : Int) := by exact_mod_cast h1
      have h3 : ((2 ^ (8 * (ys.drop k).length) : Nat) : Int) = (2 : Int) ^ (8 * (ys.drop k).length) := by simp
      rw [h3] at h2
      exact h2
    omega
  have BD := Lib.hid hbd
  clear h hn hr hbd
  go_enter Try.func35, Try.ntmps35
  go_wp2
  go_loopw [3, 4] (fun v i wr => ∃ k : Nat, k ≤ n ∧ i = .int .i64 ((k : Int) - 1) ∧ v = .int .u64 (leN (ys.drop k)) ∧ wr = w) (fun _ i _ => (intOf i + 1).toNat)
  case atStart => exact ⟨n, Nat.le_refl _, rfl, by rw [List.drop_of_length_le (by rw [HN.out]; exact Nat.le_refl _)]; rfl, rfl⟩
  case round =>
    obtain ⟨k, hk, rfl, rfl, rfl⟩ := hrel
    by_cases h0 : 0 < k
    · obtain ⟨j, rfl⟩ : ∃ j, k = j + 1 := ⟨k - 1, by omega⟩
      obtain ⟨x, hx⟩ : ∃ x, ys[j]? = some x := ⟨_, List.getElem?_eq_getElem (by rw [HN.out]; omega)⟩
      have hst := leN_step hx
      have hb1 := BD.out (j + 1) hk
      have hb0 := BD.out j (by omega)
      have hxs := HR.out x (List.mem_of_getElem? hx)
      obtain ⟨b, o, rfl, hc⟩ := HB.out.2 (by rw [HN.out]; omega)
      have c0 := hc j (by rw [HN.out]; omega)
      rw [show ys.getD j 0 = x by simp [List.getD, hx]] at c0
      obtain ⟨L1, hL1⟩ : ∃ L, L = leN (ys.drop (j + 1)) := ⟨_, rfl⟩
      obtain ⟨L0, hL0⟩ : ∃ L, L = leN (ys.drop j) := ⟨_, rfl⟩
      rw [← hL1] at hst hb1 ⊢
      rw [← hL0] at hst hb0
      have hm : (L1 * 256) % 18446744073709551616 = L1 * 256 := by omega
      have hm2 : IntKind.u64.wrap (L1 * 256) = L1 * 256 := by rw [IntKind.wrap_u64]; exact hm
      have ha : (L1 * 256 + x) % 18446744073709551616 = L0 := by omega
      have ha2 : IntKind.u64.wrap (L1 * 256 + x) = L0 := by rw [IntKind.wrap_u64]; exact ha
      have i0 : ((j + 1 : Nat) : Int) - 1 = (j : Int) := by omega
      have hjn : (j : Int) < (n : Int) := by omega
      have E0 := Lib.hid hL0
      rw [i0]
      clear hc hx hst hL1 hL0 HB
      go_wp2
      refine ⟨⟨j, by omega, rfl, by rw [E0.out], trivial⟩, by simp [intOf]⟩
    · have hk0 : k = 0 := by omega
      subst hk0
      go_wp2
      go_ret
      exact ⟨by rw [List.drop_zero]; rfl, rfl⟩

set_option maxRecDepth 20000 in
theorem least_any (cm : Int) : Calls Try.prog 20 #[.int .u32 cm] w fun e w' => e = .returned (.int .i64 (leastN cm)) ∧ w = w' := by
  by_cases h : cm = 25 ∨ cm = 34 ∨ cm = 2147483682 ∨ cm = 2 ∨ cm = 12 ∨ cm = 13 ∨ cm = 2147483672 ∨ cm = 2147483679 ∨ cm = 2147483683 ∨ cm = 2147483688 ∨ cm = 2147483699 ∨ cm = 2147483700
  · rcases h with rfl | rfl | rfl | rfl | rfl | rfl | rfl | rfl | rfl | rfl | rfl | rfl
    all_goals
      go_enter Try.func20, Try.ntmps20
      go_wp2
      go_ret
      exact ⟨rfl, rfl⟩
  · simp only [not_or] at h
    obtain ⟨n1, n2, n3, n4, n5, n6, n7, n8, n9, n10, n11, n12⟩ := h
    have L0 := Lib.hid (show leastN cm = 0 by unfold leastN; simp [n1, n2, n3, n4, n5, n6, n7, n8, n9, n10, n11, n12])
    have b1 : (cm == 25) = false := by simpa using n1
    have b2 : (cm == 34) = false := by simpa using n2
    have b3 : (cm == 2147483682) = false := by simpa using n3
    have b4 : (cm == 2) = false := by simpa using n4
    have b5 : (cm == 12) = false := by simpa using n5
    have b6 : (cm == 13) = false := by simpa using n6
    have b7 : (cm == 2147483672) = false := by simpa using n7
    have b8 : (cm == 2147483679) = false := by simpa using n8
    have b9 : (cm == 2147483683) = false := by simpa using n9
    have b10 : (cm == 2147483688) = false := by simpa using n10
    have b11 : (cm == 2147483699) = false := by simpa using n11
    have b12 : (cm == 2147483700) = false := by simpa using n12
    rw [L0.out]
    clear n1 n2 n3 n4 n5 n6 n7 n8 n9 n10 n11 n12
    go_enter Try.func20, Try.ntmps20
    go_wp2
    go_ret
    exact ⟨rfl, rfl⟩
theorem dep_any (cm : Int) : Calls Try.prog 10 #[.int .u32 cm] w fun e w' => e = .returned (.int .i64 (depKind cm)) ∧ w = w' := by
  by_cases h : cm = 12 ∨ cm = 2147483672 ∨ cm = 2147483679 ∨ cm = 2147483683
  · rcases h with rfl | rfl | rfl | rfl
    all_goals
      go_enter Try.func10, Try.ntmps10
      go_wp2
      go_ret
      exact ⟨rfl, rfl⟩
  · simp only [not_or] at h
    obtain ⟨n1, n2, n3, n4⟩ := h
    have L0 := Lib.hid (show depKind cm = 0 by unfold depKind; simp [n1, n2, n3, n4])
    have b1 : (cm == 12) = false := by simpa using n1
    have b2 : (cm == 2147483672) = false := by simpa using n2
    have b3 : (cm == 2147483679) = false := by simpa using n3
    have b4 : (cm == 2147483683) = false := by simpa using n4
    rw [L0.out]
    clear n1 n2 n3 n4
    go_enter Try.func10, Try.ntmps10
    go_wp2
    go_ret
    exact ⟨rfl, rfl⟩

/-- A number at a place. -/
theorem numat_any (ys : List Int) {q : Option Addr} {c n : Nat} (h : IsBytes w q c ys) (hn : ys.length = n) (hc : n ≤ c) (hcm : c ≤ 9223372036854775807) (hr : Small ys) (p m : Nat) (hm : 0 < m ∧ m ≤ 8) (hp : p + m ≤ n) :
    Calls Try.prog 19 #[.slice q n c, .int .i64 p, .int .i64 m] w fun e w' => e = .returned (.int .u64 (numAt ys p m)) ∧ w = w' := by
  obtain ⟨b, o, rfl, hcell⟩ := h.2 (by omega)
  have hib : IsBytes w (some ⟨b, o + p, none⟩) (c - p) ((ys.drop p).take m) := IsBytes.mk_at fun i hi => by
    have hi' : i < m := by rw [List.length_take] at hi; omega
    rw [Nat.add_assoc, hcell (p + i) (by omega)]
    simp [List.getD, List.getElem?_drop, hi']
  have GT := Lib.hid (get5_any (w := w) ((ys.drop p).take m) hib (by rw [List.length_take, List.length_drop]; omega) hm.2 (fun x hx => hr x (List.mem_of_mem_drop (List.mem_of_mem_take hx))))
  have i1 : (p : Int) + (m : Int) ≤ (c : Int) := by omega
  have i2 : (p : Int) ≤ (p : Int) + (m : Int) := by omega
  have i3 : ¬ c = p := by omega
  have i5 : ((p : Int) + (m : Int)).toNat - p = m := by omega
  have i6 : IntKind.i64.wrap ((p : Int) + (m : Int)) = (p : Int) + (m : Int) := IntWalk.i64_in _ (by omega)
  have hm0 := hm.1
  clear h hcell hib hr hm
  go_enter Try.func19, Try.ntmps19
  go_wp2_with fail
  refine GT.out.mono ?_
  rintro e w1 ⟨rfl, rfl⟩
  go_wp2
  go_ret
  exact ⟨rfl, rfl⟩

set_option maxHeartbeats 1600000 in
theorem cmd5_any (ys : List Int) {q : Option Addr} {c n : Nat} (h : IsBytes w q c ys) (hn : ys.length = n) (hc : n ≤ c) (hcm : c ≤ 9223372036854775807) (hr : Small ys) (hs : ¬ shortB ys) :
    Calls Try.prog 7 #[.slice q n c] w fun e w' => e = .returned (.tuple #[.int .u32 (cmdAt ys), .int .i64 0]) ∧ w = w' := by
  have h8 : 8 ≤ n := by
    rcases Nat.lt_or_ge n 8 with h1 | h1
    · exact absurd (.inl (by omega)) hs
    · exact h1
  have hle : ¬ ((n : Int) < leastN (cmdAt ys)) := fun h => hs (.inr (by rw [hn]; exact h))
  have AT := Lib.hid (numat_any (w := w) ys h hn hc hcm hr 0 4 ⟨by decide, by decide⟩ (by omega))
  have hcb := numAt_lt hr 0
  obtain ⟨cm, hcm'⟩ : ∃ z, z = cmdAt ys := ⟨_, rfl⟩
  have e1 : numAt ys 0 4 = cm := hcm'.symm
  rw [← hcm'] at hle ⊢
  rw [e1] at AT hcb
  have LS := Lib.hid (fun w : World => least_any (w := w) cm)
  obtain ⟨L, hL⟩ : ∃ L, L = leastN cm := ⟨_, rfl⟩
  rw [← hL] at hle LS
  have d1 : decide ((n : Int) < 8) = false := by simp; omega
  have d2 : decide ((n : Int) < L) = false := by simpa using hle
  clear h hr hs hL hle hcm' e1 hn
  go_enter Try.func7, Try.ntmps7
  go_wp2_with fail
  refine AT.out.mono ?_
  rintro e w1 ⟨rfl, rfl⟩
  go_wp2_with fail
  refine (LS.out _).mono ?_
  rintro e w2 ⟨rfl, rfl⟩
  go_wp2
  go_ret2
  exact ⟨rfl, rfl⟩

theorem pre_step {L : List Int} {k : Nat} {x : Int} (h : L[k]? = some x) (hx : x ≠ 0) : pre (L.drop k) = x :: pre (L.drop (k + 1)) := by
  rw [List.drop_eq_getElem?_toList_append, h]
  show (if x = 0 then [] else x :: pre (L.drop (k + 1))) = _
  rw [if_neg hx]
theorem pre_stop {L : List Int} {k : Nat} (h : L[k]? = some 0) : pre (L.drop k) = [] := by
  rw [List.drop_eq_getElem?_toList_append, h]
  rfl
theorem pre_inv_step {L : List Int} {k : Nat} {x : Int} (hi : pre L = L.take k ++ pre (L.drop k)) (h : L[k]? = some x) (hx : x ≠ 0) : pre L = L.take (k + 1) ++ pre (L.drop (k + 1)) := by
  rw [hi, pre_step h hx, List.take_add_one, h]
  simp
theorem pre_inv_stop {L : List Int} {k : Nat} (hi : pre L = L.take k ++ pre (L.drop k)) (h : L[k]? = some 0) : pre L = L.take k := by
  rw [hi, pre_stop h, List.append_nil]

set_option maxRecDepth 20000 in
theorem field5_any (ys : List Int) {q : Option Addr} {c n : Nat} (h : IsBytes w q c ys) (hn : ys.length = n) (hc : n ≤ c) (hcm : c ≤ 9223372036854775807) (_hr : Small ys) (p : Nat) (hp : p + 16 ≤ n) :
    Calls Try.prog 21 #[.slice q n c, .int .i64 p] w fun e w' => e = .returned (.string (strOfNums (fieldAt ys p))) ∧ w = w' := by
  obtain ⟨b, o, rfl, hcell⟩ := h.2 (by omega)
  obtain ⟨L, hL⟩ : ∃ L, L = (ys.drop p).take 16 := ⟨_, rfl⟩
  have hLl : L.length = 16 := by rw [hL, List.length_take, List.length_drop]; omega
  have HC := Lib.hid (fun (k : Nat) (x : Int) (hk : L[k]? = some x) => (show w.cell? ⟨b, o + (p + k), none⟩ = some (.int .u8 x) from by
    have hk16 : k < 16 := by
      rcases Nat.lt_or_ge k 16 with h1 | h1
      · exact h1
      · rw [List.getElem?_eq_none (by omega)] at hk; cases hk
    rw [hcell (p + k) (by omega)]
    rw [hL, List.getElem?_take, if_pos hk16, List.getElem?_drop] at hk
    simp [List.getD, hk]))
  have FA := Lib.hid (show fieldAt ys p = pre L by rw [hL]; rfl)
  have IB := Lib.hid (show IsBytes w (some ⟨b, o + p, none⟩) (c - p) L from IsBytes.mk_at fun i hi => by
    have hi' : i < 16 := by omega
    rw [Nat.add_assoc, hcell (p + i) (by omega), hL]
    simp [List.getD, List.getElem?_drop, hi'])
  have HL := Lib.hid hLl
  have i3 : ¬ c = p := by omega
  have hpc : (p : Int) + 16 ≤ (c : Int) := by omega
  rw [FA.out]
  clear h hcell hL hLl
  go_enter Try.func21, Try.ntmps21
  go_wp2
  go_loopw [5] (fun i wr => ∃ k : Nat, k ≤ 16 ∧ i = .int .i64 k ∧ wr = w ∧ pre L = L.take k ++ pre (L.drop k)) (fun i _ => 16 - (intOf i).toNat)
  case atStart => exact ⟨0, by omega, rfl, rfl, by simp⟩
  case round =>
    obtain ⟨k, hk, rfl, rfl, hi⟩ := hrel
    have HI := Lib.hid hi
    have j1 : (p : Int) + (k : Int) ≤ (c : Int) := by omega
    have j2 : (p : Int) ≤ (p : Int) + (k : Int) := by omega
    have j3 : ((p : Int) + (k : Int)).toNat - p = k := by omega
    have j4 : IntKind.i64.wrap ((p : Int) + (k : Int)) = (p : Int) + (k : Int) := IntWalk.i64_in _ (by omega)
    have j5 : ((p : Int) + (k : Int)).toNat = p + k := by omega
    have cv := (IB.out.take (c' := c - p) k (fun h => by cases h)).text (n := k) (by rw [List.length_take, HL.out]; omega)
    clear hi
    by_cases hlt : k < 16
    · obtain ⟨x, hx⟩ : ∃ x, L[k]? = some x := ⟨_, List.getElem?_eq_getElem (by rw [HL.out]; exact hlt)⟩
      have c0 := HC.out k x hx
      have HX := Lib.hid hx
      have j6 : (p : Int) + (k : Int) < (n : Int) := by omega
      have d1 : decide ((k : Int) < 16) = true := by simp; omega
      clear hx
      by_cases hx0 : x = 0
      · subst hx0
        have PE := Lib.hid (pre_inv_stop HI.out HX.out)
        rw [← PE.out] at cv
        go_wp2
        go_ret
        exact ⟨rfl, rfl⟩
      · have hx1 : (x != 0) = true := by simpa using hx0
        have PE := Lib.hid (pre_inv_step HI.out HX.out hx0)
        clear hx0 cv
        go_wp2
        refine ⟨⟨k + 1, by omega, by go_num, trivial, PE.out⟩, by simp [intOf]; omega⟩
    · have hk16 : k = 16 := by omega
      subst hk16
      have PE := Lib.hid (show pre L = L.take 16 by rw [HI.out, List.drop_of_length_le (by rw [HL.out]; exact Nat.le_refl _)]; simp [pre])
      rw [← PE.out] at cv
      go_wp2
      go_ret
      exact ⟨rfl, rfl⟩
end Go.Proofs.Ytemdbfgpimfkdaa
