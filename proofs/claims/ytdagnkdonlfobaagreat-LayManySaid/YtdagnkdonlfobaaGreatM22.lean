import Derived.Test.YtdagnkdonlfobaaGreatM7
import Derived.Deep.RegionHeld3
import Derived.Test.YtdagnkdonlfobaaGreatM8
/- The document's numbers and fields of a command, and what it is. No condition but that it has at most 2^47 bytes. -/
namespace Go.Proofs.YtdagnkdonlfobaaGreat
open Go.RowKit
variable {w w' : World}

theorem leN_step {ys : List Int} {i : Nat} {x : Int} (h : ys[i]? = some x) : leN (ys.drop i) = x + 256 * leN (ys.drop (i + 1)) := by
  rw [List.drop_eq_getElem?_toList_append, h]
  rfl
set_option maxRecDepth 20000 in
theorem get5_any (ys : List Int) {q : Option Addr} {c n : Nat} (h : IsBytes w q c ys) (hn : ys.length = n) (h8 : n ≤ 8) (hr : Small ys) :
    Calls Tryz.prog 142 #[.slice q n c] w fun e w' => e = .returned (.int .u64 (leN ys)) ∧ w = w' := by
  have HB := Lib.hid h
  have HN := Lib.hid hn
  have HR := Lib.hid hr
  have hbd : ∀ k, k ≤ n → 0 ≤ leN (ys.drop k) ∧ leN (ys.drop k) < 18446744073709551616 := fun k hk => by
    have := leN_bd (ys.drop k) (fun x hx => hr x (List.mem_of_mem_drop hx))
    have hl : (ys.drop k).length ≤ 8 := by rw [List.length_drop]; omega
    have : (2 : Int) ^ (8 * (ys.drop k).length) ≤ 18446744073709551616 := by
      have h1 : (2 : Nat) ^ (8 * (ys.drop k).length) ≤ 2 ^ 64 := Nat.pow_le_pow_right (by decide) (by omega)
      have h2 : ((2 ^ (8 * (ys.drop k).length) : Nat) : Int) ≤ ((2 ^ 64 : Nat) : Int) := by exact_mod_cast h1
      have h3 : ((2 ^ (8 * (ys.drop k).length) : Nat) : Int) = (2 : Int) ^ (8 * (ys.drop k).length) := by simp
      rw [h3] at h2
      exact h2
    omega
  have BD := Lib.hid hbd
  clear h hn hr hbd
  go_enter Tryz.func142, Tryz.ntmps142
  go_wp2
  go_loopw [3, 4] (fun v i wr => ∃ k : Nat, k ≤ n ∧ i = .int .i64 ((k : Int) - 1) ∧ v = .int .u64 (leN (ys.drop k)) ∧ wr = w) (fun _ i _ => (intOf i + 1).toNat)
  case atStart => exact ⟨n, Nat.le_refl _, rfl, by rw [List.drop_of_length_le (by rw [HN.out]; exact Nat.le_refl _)]; rfl, rfl⟩
  case round =>
    obtain ⟨k, hk, rfl, rfl, rfl⟩ := hrel
    by_cases h0 : 0 < k
    · obtain ⟨j, rfl⟩ : ∃ j, k = j + 1 := ⟨k - 1, by omega⟩
      obtain ⟨x, hx⟩ : ∃ x, ys[j]? = some x := ⟨_, List.getElem?_eq_getElem (by rw [HN.out]; omega)⟩
      have hst := leN_step hx
      have hb1 := BD.out (j + 1) hk
      have hb0 := BD.out j (by omega)
      have hxs := HR.out x (List.mem_of_getElem? hx)
      obtain ⟨b, o, rfl, hc⟩ := HB.out.2 (by rw [HN.out]; omega)
      have c0 := hc j (by rw [HN.out]; omega)
      rw [show ys.getD j 0 = x by simp [List.getD, hx]] at c0
      obtain ⟨L1, hL1⟩ : ∃ L, L = leN (ys.drop (j + 1)) := ⟨_, rfl⟩
      obtain ⟨L0, hL0⟩ : ∃ L, L = leN (ys.drop j) := ⟨_, rfl⟩
      rw [← hL1] at hst hb1 ⊢
      rw [← hL0] at hst hb0
      have hm : (L1 * 256) % 18446744073709551616 = L1 * 256 := by omega
      have hm2 : IntKind.u64.wrap (L1 * 256) = L1 * 256 := by rw [IntKind.wrap_u64]; exact hm
      have ha : (L1 * 256 + x) % 18446744073709551616 = L0 := by omega
      have ha2 : IntKind.u64.wrap (L1 * 256 + x) = L0 := by rw [IntKind.wrap_u64]; exact ha
      have i0 : ((j + 1 : Nat) : Int) - 1 = (j : Int) := by omega
      have hjn : (j : Int) < (n : Int) := by omega
      have E0 := Lib.hid hL0
      rw [i0]
      clear hc hx hst hL1 hL0 HB
      go_wp2
      refine ⟨⟨j, by omega, rfl, by rw [E0.out], trivial⟩, by simp [intOf]⟩
    · have hk0 : k = 0 := by omega
      subst hk0
      go_wp2
      go_ret
      exact ⟨by rw [List.drop_zero]; rfl, rfl⟩

set_option maxRecDepth 20000 in
theorem least_any (cm : Int) : Calls Tryz.prog 78 #[.int .u32 cm] w fun e w' => e = .returned (.int .i64 (leastN cm)) ∧ w = w' := by
  by_cases h : cm = 25 ∨ cm = 34 ∨ cm = 2147483682 ∨ cm = 2 ∨ cm = 12 ∨ cm = 13 ∨ cm = 2147483672 ∨ cm = 2147483679 ∨ cm = 2147483683 ∨ cm = 2147483688 ∨ cm = 2147483699 ∨ cm = 2147483700
  · rcases h with rfl | rfl | rfl | rfl | rfl | rfl | rfl | rfl | rfl | rfl | rfl | rfl
    all_goals
      go_enter Tryz.func78, Tryz.ntmps78
      go_wp2
      go_ret
      exact ⟨rfl, rfl⟩
  · simp only [not_or] at h
    obtain ⟨n1, n2, n3, n4, n5, n6, n7, n8, n9, n10, n11, n12⟩ := h
    have L0 := Lib.hid (show leastN cm = 0 by unfold leastN; simp [n1, n2, n3, n4, n5, n6, n7, n8, n9, n10, n11, n12])
    have b1 : (cm == 25) = false := by simpa using n1
    have b2 : (cm == 34) = false := by simpa using n2
    have b3 : (cm == 2147483682) = false := by simpa using n3
    have b4 : (cm == 2) = false := by simpa using n4
    have b5 : (cm == 12) = false := by simpa using n5
    have b6 : (cm == 13) = false := by simpa using n6
    have b7 : (cm == 2147483672) = false := by simpa using n7
    have b8 : (cm == 2147483679) = false := by simpa using n8
    have b9 : (cm == 2147483683) = false := by simpa using n9
    have b10 : (cm == 2147483688) = false := by simpa using n10
    have b11 : (cm == 2147483699) = false := by simpa using n11
    have b12 : (cm == 2147483700) = false := by simpa using n12
    rw [L0.out]
    clear n1 n2 n3 n4 n5 n6 n7 n8 n9 n10 n11 n12
    go_enter Tryz.func78, Tryz.ntmps78
    go_wp2
    go_ret
    exact ⟨rfl, rfl⟩
theorem dep_any (cm : Int) : Calls Tryz.prog 80 #[.int .u32 cm] w fun e w' => e = .returned (.int .i64 (depKind cm)) ∧ w = w' := by
  by_cases h : cm = 12 ∨ cm = 2147483672 ∨ cm = 2147483679 ∨ cm = 2147483683
  · rcases h with rfl | rfl | rfl | rfl
    all_goals
      go_enter Tryz.func80, Tryz.ntmps80
      go_wp2
      go_ret
      exact ⟨rfl, rfl⟩
  · simp only [not_or] at h
    obtain ⟨n1, n2, n3, n4⟩ := h
    have L0 := Lib.hid (show depKind cm = 0 by unfold depKind; simp [n1, n2, n3, n4])
    have b1 : (cm == 12) = false := by simpa using n1
    have b2 : (cm == 2147483672) = false := by simpa using n2
    have b3 : (cm == 2147483679) = false := by simpa using n3
    have b4 : (cm == 2147483683) = false := by simpa using n4
    rw [L0.out]
    clear n1 n2 n3 n4
    go_enter Tryz.func80, Tryz.ntmps80
    go_wp2
    go_ret
    exact ⟨rfl, rfl⟩

/-- A number at a place. -/
theorem numat_any (ys : List Int) {q : Option Addr} {c n : Nat} (h : IsBytes w q c ys) (hn : ys.length = n) (hc : n ≤ c) (hcm : c ≤ 9223372036854775807) (hr : Small ys) (p m : Nat) (hm : 0 < m ∧ m ≤ 8) (hp : p + m ≤ n) :
    Calls Tryz.prog 103 #[.slice q n c, .int .i64 p, .int .i64 m] w fun e w' => e = .returned (.int .u64 (numAt ys p m)) ∧ w = w' := by
  obtain ⟨b, o, rfl, hcell⟩ := h.2 (by omega)
  have hib : IsBytes w (some ⟨b, o + p, none⟩) (c - p) ((ys.drop p).take m) := IsBytes.mk_at fun i hi => by
    have hi' : i < m := by rw [List.length_take] at hi; omega
    rw [Nat.add_assoc, hcell (p + i) (by omega)]
    simp [List.getD, List.getElem?_drop, hi']
  have GT := Lib.hid (get5_any (w := w) ((ys.drop p).take m) hib (by rw [List.length_take, List.length_drop]; omega) hm.2 (fun x hx => hr x (List.mem_of_mem_drop (List.mem_of_mem_take hx))))
  have i1 : (p : Int) + (m : Int) ≤ (c : Int) := by omega
  have i2 : (p : Int) ≤ (p : Int) + (m : Int) := by omega
  have i3 : ¬ c = p := by omega
  have i5 : ((p : Int) + (m : Int)).toNat - p = m := by omega
  have i6 : IntKind.i64.wrap ((p : Int) + (m : Int)) = (p : Int) + (m : Int) := IntWalk.i64_in _ (by omega)
  have hm0 := hm.1
  clear h hcell hib hr hm
  go_enter Tryz.func103, Tryz.ntmps103
  go_wp2_with fail
  refine GT.out.mono ?_
  rintro e w1 ⟨rfl, rfl⟩
  go_wp2
  go_ret
  exact ⟨rfl, rfl⟩

set_option maxHeartbeats 1600000 in
theorem cmd5_any (ys : List Int) {q : Option Addr} {c n : Nat} (h : IsBytes w q c ys) (hn : ys.length = n) (hc : n ≤ c) (hcm : c ≤ 9223372036854775807) (hr : Small ys) (hs : ¬ shortB ys) :
    Calls Tryz.prog 77 #[.slice q n c] w fun e w' => e = .returned (.tuple #[.int .u32 (cmdAt ys), .int .i64 0]) ∧ w = w' := by
  have h8 : 8 ≤ n := by
    rcases Nat.lt_or_ge n 8 with h1 | h1
    · exact absurd (.inl (by omega)) hs
    · exact h1
  have hle : ¬ ((n : Int) < leastN (cmdAt ys)) := fun h => hs (.inr (by rw [hn]; exact h))
  have AT := Lib.hid (numat_any (w := w) ys h hn hc hcm hr 0 4 ⟨by decide, by decide⟩ (by omega))
  have hcb := numAt_lt hr 0
  obtain ⟨cm, hcm'⟩ : ∃ z, z = cmdAt ys := ⟨_, rfl⟩
  have e1 : numAt ys 0 4 = cm := hcm'.symm
  rw [← hcm'] at hle ⊢
  rw [e1] at AT hcb
  have LS := Lib.hid (fun w : World => least_any (w := w) cm)
  obtain ⟨L, hL⟩ : ∃ L, L = leastN cm := ⟨_, rfl⟩
  rw [← hL] at hle LS
  have d1 : decide ((n : Int) < 8) = false := by simp; omega
  have d2 : decide ((n : Int) < L) = false := by simpa using hle
  clear h hr hs hL hle hcm' e1 hn
  go_enter Tryz.func77, Tryz.ntmps77
  go_wp2_with fail
  refine AT.out.mono ?_
  rintro e w1 ⟨rfl, rfl⟩
  go_wp2_with fail
  refine (LS.out _).mono ?_
  rintro e w2 ⟨rfl, rfl⟩
  go_wp2
  go_ret2
  exact ⟨rfl, rfl⟩

theorem pre_step {L : List Int} {k : Nat} {x : Int} (h : L[k]? = some x) (hx : x ≠ 0) : pre (L.drop k) = x :: pre (L.drop (k + 1)) := by
  rw [List.drop_eq_getElem?_toList_append, h]
  show (if x = 0 then [] else x :: pre (L.drop (k + 1))) = _
  rw [if_neg hx]
theorem pre_stop {L : List Int} {k : Nat} (h : L[k]? = some 0) : pre (L.drop k) = [] := by
  rw [List.drop_eq_getElem?_toList_append, h]
  rfl
theorem pre_inv_step {L : List Int} {k : Nat} {x : Int} (hi : pre L = L.take k ++ pre (L.drop k)) (h : L[k]? = some x) (hx : x ≠ 0) : pre L = L.take (k + 1) ++ pre (L.drop (k + 1)) := by
  rw [hi, pre_step h hx, List.take_add_one, h]
  simp
theorem pre_inv_stop {L : List Int} {k : Nat} (hi : pre L = L.take k ++ pre (L.drop k)) (h : L[k]? = some 0) : pre L = L.take k := by
  rw [hi, pre_stop h, List.append_nil]

set_option maxRecDepth 20000 in
theorem field5_any (ys : List Int) {q : Option Addr} {c n : Nat} (h : IsBytes w q c ys) (hn : ys.length = n) (hc : n ≤ c) (hcm : c ≤ 9223372036854775807) (_hr : Small ys) (p : Nat) (hp : p + 16 ≤ n) :
    Calls Tryz.prog 143 #[.slice q n c, .int .i64 p] w fun e w' => e = .returned (.string (strOfNums (fieldAt ys p))) ∧ w = w' := by
  obtain ⟨b, o, rfl, hcell⟩ := h.2 (by omega)
  obtain ⟨L, hL⟩ : ∃ L, L = (ys.drop p).take 16 := ⟨_, rfl⟩
  have hLl : L.length = 16 := by rw [hL, List.length_take, List.length_drop]; omega
  have HC := Lib.hid (fun (k : Nat) (x : Int) (hk : L[k]? = some x) => (show w.cell? ⟨b, o + (p + k), none⟩ = some (.int .u8 x) from by
    have hk16 : k < 16 := by
      rcases Nat.lt_or_ge k 16 with h1 | h1
      · exact h1
      · rw [List.getElem?_eq_none (by omega)] at hk; cases hk
    rw [hcell (p + k) (by omega)]
    rw [hL, List.getElem?_take, if_pos hk16, List.getElem?_drop] at hk
    simp [List.getD, hk]))
  have FA := Lib.hid (show fieldAt ys p = pre L by rw [hL]; rfl)
  have IB := Lib.hid (show IsBytes w (some ⟨b, o + p, none⟩) (c - p) L from IsBytes.mk_at fun i hi => by
    have hi' : i < 16 := by omega
    rw [Nat.add_assoc, hcell (p + i) (by omega), hL]
    simp [List.getD, List.getElem?_drop, hi'])
  have HL := Lib.hid hLl
  have i3 : ¬ c = p := by omega
  have hpc : (p : Int) + 16 ≤ (c : Int) := by omega
  rw [FA.out]
  clear h hcell hL hLl
  go_enter Tryz.func143, Tryz.ntmps143
  go_wp2
  go_loopw [5] (fun i wr => ∃ k : Nat, k ≤ 16 ∧ i = .int .i64 k ∧ wr = w ∧ pre L = L.take k ++ pre (L.drop k)) (fun i _ => 16 - (intOf i).toNat)
  case atStart => exact ⟨0, by omega, rfl, rfl, by simp⟩
  case round =>
    obtain ⟨k, hk, rfl, rfl, hi⟩ := hrel
    have HI := Lib.hid hi
    have j1 : (p : Int) + (k : Int) ≤ (c : Int) := by omega
    have j2 : (p : Int) ≤ (p : Int) + (k : Int) := by omega
    have j3 : ((p : Int) + (k : Int)).toNat - p = k := by omega
    have j4 : IntKind.i64.wrap ((p : Int) + (k : Int)) = (p : Int) + (k : Int) := IntWalk.i64_in _ (by omega)
    have j5 : ((p : Int) + (k : Int)).toNat = p + k := by omega
    have cv := (IB.out.take (c' := c - p) k (fun h => by cases h)).text (n := k) (by rw [List.length_take, HL.out]; omega)
    clear hi
    by_cases hlt : k < 16
    · obtain ⟨x, hx⟩ : ∃ x, L[k]? = some x := ⟨_, List.getElem?_eq_getElem (by rw [HL.out]; exact hlt)⟩
      have c0 := HC.out k x hx
      have HX := Lib.hid hx
      have j6 : (p : Int) + (k : Int) < (n : Int) := by omega
      have d1 : decide ((k : Int) < 16) = true := by simp; omega
      clear hx
      by_cases hx0 : x = 0
      · subst hx0
        have PE := Lib.hid (pre_inv_stop HI.out HX.out)
        rw [← PE.out] at cv
        go_wp2
        go_ret
        exact ⟨rfl, rfl⟩
      · have hx1 : (x != 0) = true := by simpa using hx0
        have PE := Lib.hid (pre_inv_step HI.out HX.out hx0)
        clear hx0 cv
        go_wp2
        refine ⟨⟨k + 1, by omega, by go_num, trivial, PE.out⟩, by simp [intOf]; omega⟩
    · have hk16 : k = 16 := by omega
      subst hk16
      have PE := Lib.hid (show pre L = L.take 16 by rw [HI.out, List.drop_of_length_le (by rw [HL.out]; exact Nat.le_refl _)]; simp [pre])
      rw [← PE.out] at cv
      go_wp2
      go_ret
      exact ⟨rfl, rfl⟩
end Go.Proofs.YtdagnkdonlfobaaGreat

/- The document's segment of a command that is one. No condition but that it has at most 2^47 bytes. -/
namespace Go.Proofs.YtdagnkdonlfobaaGreat
open Go.RowKit
variable {w w' : World}

theorem seg_facts {ys : List Int} (h : segErr ys = 0) : ¬ shortB ys ∧ cmdAt ys = 25 ∧ manyAt ys ≤ (ys.length - 72) / 80 ∧ numAt ys 60 4 ≤ 7 ∧ oddSec ys (manyAt ys) = false ∧ manyAt ys ≤ 64 := by
  unfold segErr at h
  split at h; cases h
  rename_i h1
  split at h; cases h
  rename_i h2
  split at h; cases h
  rename_i h3
  split at h; cases h
  rename_i h4
  split at h; cases h
  rename_i h5
  split at h; cases h
  rename_i h6
  exact ⟨h1, Classical.byContradiction h2, by omega, by omega, by simpa using h5, by omega⟩
theorem sub_num (ys : List Int) (a p m : Nat) (h : p + m ≤ 80) : numAt ((ys.drop a).take 80) p m = numAt ys (a + p) m := by
  unfold numAt
  rw [List.drop_take, List.drop_drop, List.take_take, Nat.min_eq_left (by omega)]
theorem sub_field (ys : List Int) (a p : Nat) (h : p + 16 ≤ 80) : fieldAt ((ys.drop a).take 80) p = fieldAt ys (a + p) := by
  unfold fieldAt
  rw [List.drop_take, List.drop_drop, List.take_take, Nat.min_eq_left (by omega)]
theorem odd_each {b : List Int} {M k : Nat} (h : oddSec b M = false) (hk : k < M) : (secAt b (72 + 80 * k)).seg = fieldAt b 8 := by
  unfold oddSec at h
  rw [List.any_eq_false] at h
  have := h _ (List.mem_map.2 ⟨k, List.mem_range.2 hk, rfl⟩)
  simpa using this

set_option maxHeartbeats 6400000 in
set_option maxRecDepth 20000 in
theorem refSegment_any (ys : List Int) {q : Option Addr} {c n : Nat} (h : IsBytes w q c ys) (hn : ys.length = n) (hc : n ≤ c) (hcm : c ≤ 9223372036854775807) (hn47 : n ≤ 140737488355328) (hr : Small ys) (he : segErr ys = 0) :
    Calls Tryz.prog 104 #[.slice q n c] w fun e w' => ∃ q1 N c1 base, N = (segOf ys).secs.length ∧ e = .returned (.tuple #[segV (segOf ys) (.slice q1 N c1), .int .i64 0]) ∧
      w'.ownsRow base 148 6 (.slice q1 N c1) N ((segOf ys).secs.flatMap secCs) ∧ w.heap.size ≤ base ∧ w.grownBy w' none := by
  obtain ⟨hs, hcmd, hmany, hprot, hodd, h64⟩ := seg_facts he
  have h72 : 72 ≤ n := by
    have h1 : ¬ ((ys.length : Int) < leastN (cmdAt ys)) := fun h => hs (.inr h)
    rw [hcmd, show leastN 25 = 72 by decide] at h1
    omega
  obtain ⟨b, o, hq, hcell⟩ := h.2 (by omega)
  have HC := Lib.hid hcell
  have QE := Lib.hid hq
  have CD := Lib.hid (fun (w1 : World) (hg : w.grownBy w1 none) => cmd5_any (w := w1) ys (h.kept hg (by simp)) hn hc hcm hr hs)
  rw [hcmd] at CD
  have AT := Lib.hid (fun (w1 : World) (hg : w.grownBy w1 none) (p m : Nat) (hm : 0 < m ∧ m ≤ 8) (hp : p + m ≤ n) => numat_any (w := w1) ys (h.kept hg (by simp)) hn hc hcm hr p m hm hp)
  have FD := Lib.hid (fun (w1 : World) (hg : w.grownBy w1 none) (p : Nat) (hp : p + 16 ≤ n) => field5_any (w := w1) ys (h.kept hg (by simp)) hn hc hcm hr p hp)
  have HB := Lib.hid h
  have HR := Lib.hid hr
  have HN := Lib.hid hn
  have OD := Lib.hid hodd
  obtain ⟨⟨nm, ad, sz, of, fs, pr, sl⟩, hseg⟩ : ∃ s, s = segOf ys := ⟨_, rfl⟩
  have SE := Lib.hid hseg
  have epr : numAt ys 60 4 = pr := (congrArg Seg.prot SE.out).symm
  have hpb := numAt_lt hr 60
  have hmb := numAt_lt hr 64
  rw [epr] at hpb hprot
  obtain ⟨M, hM⟩ : ∃ M, M = manyAt ys := ⟨_, rfl⟩
  have hMi : numAt ys 64 4 = M := by rw [hM]; unfold manyAt; omega
  have ME := Lib.hid hM
  rw [← hM, hn] at hmany
  rw [← hM] at h64
  have NM := Lib.hid (show fieldAt ys 8 = nm from (congrArg Seg.name SE.out).symm)
  have F1 := Lib.hid (fun w1 hg => (by have := FD.out w1 hg 8 (by omega); rw [NM.out] at this; exact this : Calls Tryz.prog 143 #[.slice q n c, .int .i64 8] w1 fun e w' => e = .returned (.string (strOfNums nm)) ∧ w1 = w'))
  have A1 := Lib.hid (fun w1 hg => (by have := AT.out w1 hg 24 8 ⟨by decide, by decide⟩ (by omega); rw [show numAt ys 24 8 = ad from (congrArg Seg.addr SE.out).symm] at this; exact this : Calls Tryz.prog 103 #[.slice q n c, .int .i64 24, .int .i64 8] w1 fun e w' => e = .returned (.int .u64 ad) ∧ w1 = w'))
  have A2 := Lib.hid (fun w1 hg => (by have := AT.out w1 hg 32 8 ⟨by decide, by decide⟩ (by omega); rw [show numAt ys 32 8 = sz from (congrArg Seg.size SE.out).symm] at this; exact this : Calls Tryz.prog 103 #[.slice q n c, .int .i64 32, .int .i64 8] w1 fun e w' => e = .returned (.int .u64 sz) ∧ w1 = w'))
  have A3 := Lib.hid (fun w1 hg => (by have := AT.out w1 hg 40 8 ⟨by decide, by decide⟩ (by omega); rw [show numAt ys 40 8 = of from (congrArg Seg.off SE.out).symm] at this; exact this : Calls Tryz.prog 103 #[.slice q n c, .int .i64 40, .int .i64 8] w1 fun e w' => e = .returned (.int .u64 of) ∧ w1 = w'))
  have A4 := Lib.hid (fun w1 hg => (by have := AT.out w1 hg 48 8 ⟨by decide, by decide⟩ (by omega); rw [show numAt ys 48 8 = fs from (congrArg Seg.fsize SE.out).symm] at this; exact this : Calls Tryz.prog 103 #[.slice q n c, .int .i64 48, .int .i64 8] w1 fun e w' => e = .returned (.int .u64 fs) ∧ w1 = w'))
  have A5 := Lib.hid (fun w1 hg => (by have := AT.out w1 hg 60 4 ⟨by decide, by decide⟩ (by omega); rw [epr] at this; exact this : Calls Tryz.prog 103 #[.slice q n c, .int .i64 60, .int .i64 4] w1 fun e w' => e = .returned (.int .u64 pr) ∧ w1 = w'))
  have A6 := Lib.hid (fun w1 hg => (by have := AT.out w1 hg 64 4 ⟨by decide, by decide⟩ (by omega); rw [hMi] at this; exact this : Calls Tryz.prog 103 #[.slice q n c, .int .i64 64, .int .i64 4] w1 fun e w' => e = .returned (.int .u64 M) ∧ w1 = w'))
  have g0 := grown1 w (.cells #[.string ⟨#[]⟩, .int .u64 0, .int .u64 0, .int .u64 0, .int .u64 0, .int .i64 0, .slice none 0 0] 58)
  have G := Lib.hid g0
  have Z0 := Lib.hid (show SegAt (w.alloc (.cells #[.string ⟨#[]⟩, .int .u64 0, .int .u64 0, .int .u64 0, .int .u64 0, .int .i64 0, .slice none 0 0] 58)) w.heap.size Seg.zero (.slice none 0 0) from heap_alloc_new w _)
  have hprw : IntKind.i64.wrap pr = pr := IntWalk.i64_in _ (by omega)
  have m1 : ((n : Int) - 72) % 18446744073709551616 = (n : Int) - 72 := by omega
  have m2 : IntKind.u64.wrap ((n : Int) - 72) = (n : Int) - 72 := by rw [IntKind.wrap_u64]; exact m1
  obtain ⟨R, hR⟩ : ∃ R, R = (n - 72) / 80 := ⟨_, rfl⟩
  have m3 : ((n : Int) - 72) / 80 = (R : Int) := by omega
  have m4 : ((n : Int) - 72).tdiv 80 = (R : Int) := by rw [Int.tdiv_eq_ediv_of_nonneg (by omega)]; omega
  have d1 : decide (R < M) = false := by simp; omega
  have d2 : decide (7 < pr) = false := by simp; omega
  have d3 : decide (64 < M) = false := by simp; omega
  have hRn : 72 + 80 * M ≤ n := by omega
  have mw : IntKind.i64.wrap (M : Int) = (M : Int) := IntWalk.i64_in _ (by omega)
  clear h hr hn hcell hq hs hcmd hmany hodd he hseg hM hMi g0 hmb hR AT FD
  go_enter Tryz.func104, Tryz.ntmps104
  go_upto_region 7 with (first
    | (go_at_call 77; refine (CD.out _ G.out).mono ?_; rintro e w3 ⟨rfl, rfl⟩)
    | (go_at_call 143; refine (F1.out _ G.out).mono ?_; rintro e w3 ⟨rfl, rfl⟩)
    | (go_at_call 103; (first | with_reducible refine (A1.out _ G.out).mono ?_ | with_reducible refine (A2.out _ G.out).mono ?_ | with_reducible refine (A3.out _ G.out).mono ?_ | with_reducible refine (A4.out _ G.out).mono ?_ | with_reducible refine (A5.out _ G.out).mono ?_); rintro e w3 ⟨rfl, rfl⟩))
  have g7 := grown1 (w.alloc (.cells #[.string ⟨#[]⟩, .int .u64 0, .int .u64 0, .int .u64 0, .int .u64 0, .int .i64 0, .slice none 0 0] 58)) (.cells #[.string (strOfNums nm), .int .u64 ad, .int .u64 sz, .int .u64 of, .int .u64 fs, .int .i64 pr, .slice none 0 0] 58)
  have G2 := Lib.hid (grown_trans G.out g7)
  have ZA := Lib.hid (Z0.out.kept g7 (by simp))
  have SA := Lib.hid (show SegAt ((w.alloc (.cells #[.string ⟨#[]⟩, .int .u64 0, .int .u64 0, .int .u64 0, .int .u64 0, .int .i64 0, .slice none 0 0] 58)).alloc (.cells #[.string (strOfNums nm), .int .u64 ad, .int .u64 sz, .int .u64 of, .int .u64 fs, .int .i64 pr, .slice none 0 0] 58)) (w.heap.size + 1) ⟨nm, ad, sz, of, fs, pr, []⟩ (.slice none 0 0) from by have := heap_alloc_new (w.alloc (.cells #[.string ⟨#[]⟩, .int .u64 0, .int .u64 0, .int .u64 0, .int .u64 0, .int .i64 0, .slice none 0 0] 58)) (.cells #[.string (strOfNums nm), .int .u64 ad, .int .u64 sz, .int .u64 of, .int .u64 fs, .int .i64 pr, .slice none 0 0] 58); rw [World.size_alloc] at this; exact this)
  obtain ⟨wy, hwy⟩ : ∃ wy, (w.alloc (.cells #[.string ⟨#[]⟩, .int .u64 0, .int .u64 0, .int .u64 0, .int .u64 0, .int .i64 0, .slice none 0 0] 58)).alloc (.cells #[.string (strOfNums nm), .int .u64 ad, .int .u64 sz, .int .u64 of, .int .u64 fs, .int .i64 pr, .slice none 0 0] 58) = wy := ⟨_, rfl⟩
  have WS := Lib.hid (show wy.heap.size = w.heap.size + 2 by rw [← hwy, World.size_alloc, World.size_alloc])
  rw [hwy] at G2 SA ZA ⊢
  clear hwy g7 G Z0 F1 A1 A2 A3 A4 CD
  go_upto_region 11 with (go_at_call 103; (first | with_reducible refine (A5.out _ G2.out).mono ?_ | with_reducible refine (A6.out _ G2.out).mono ?_); rintro e w3 ⟨rfl, rfl⟩)
  clear A5 A6
  go_wp2
  go_loopw [8, 9, 10, 11] (fun bd i _ _ wr => ∃ (k : Nat) (q' : Option Addr) (c' : Nat), k ≤ M ∧ bd = .bool false ∧ i = .int .i64 k ∧ SegAt wr (w.heap.size + 1) ⟨nm, ad, sz, of, fs, pr, []⟩ (.slice q' k c') ∧ SegAt wr w.heap.size Seg.zero (.slice none 0 0) ∧ wr.ownsRow (w.heap.size + 2) 148 6 (.slice q' k c') k ((secsN ys k).flatMap secCs) ∧ w.grownBy wr none ∧ w.heap.size + 2 ≤ wr.heap.size) (fun _ i _ _ _ => M - (intOf i).toNat)
  case atStart => exact ⟨0, none, 0, Nat.zero_le _, rfl, rfl, SA.out, ZA.out, World.ownsRow_nil _ _ _ _, G2.out, by rw [WS.out]; exact Nat.le_refl _⟩
  case round =>
    obtain ⟨k, q', c', hk, rfl, rfl, hsa, hza, hown, hgr, hBs⟩ := hrel
    have SA' := Lib.hid hsa
    have ZA' := Lib.hid hza
    have G := Lib.hid hgr
    have OW := Lib.hid hown
    clear hsa hza hgr hown SA ZA
    have SA := SA'
    have ZA := ZA'
    clear SA' ZA'
    by_cases hlt : k < M
    · obtain ⟨A, hA⟩ : ∃ A, A = 72 + 80 * k := ⟨_, rfl⟩
      obtain ⟨B, hB⟩ : ∃ B, B = 80 * k := ⟨_, rfl⟩
      obtain ⟨D, hD⟩ : ∃ D, D = A + 80 := ⟨_, rfl⟩
      have hAn : A + 80 ≤ n := by omega
      have a1 : (80 : Int) * (k : Int) = (B : Int) := by omega
      have a2 : (72 : Int) + (B : Int) = (A : Int) := by omega
      have a3 : (152 : Int) + (B : Int) = (D : Int) := by omega
      have a4 : IntKind.i64.wrap (B : Int) = (B : Int) := IntWalk.i64_in _ (by omega)
      have a5 : IntKind.i64.wrap (A : Int) = (A : Int) := IntWalk.i64_in _ (by omega)
      have a6 : IntKind.i64.wrap (D : Int) = (D : Int) := IntWalk.i64_in _ (by omega)
      have i1 : (D : Int) ≤ (c : Int) := by omega
      have i2 : (A : Int) ≤ (D : Int) := by omega
      have i3 : ¬ c = A := by omega
      have i4 : D - A = 80 := by omega
      have HA := Lib.hid hA
      have HB := Lib.hid hB
      have HD := Lib.hid hD
      clear hA hB hD
      have hq := QE.out
      subst hq
      obtain ⟨⟨sn, ss, sa, sb, so, sk⟩, hX⟩ : ∃ s, s = secAt ys A := ⟨_, rfl⟩
      have XE := Lib.hid hX
      have hsub : IsBytes w (some ⟨b, o + A, none⟩) (c - A) ((ys.drop A).take 80) := IsBytes.mk_at fun i hi => by
        have hi' : i < 80 := by rw [List.length_take] at hi; omega
        rw [Nat.add_assoc, HC.out (A + i) (by have := HN.out; omega)]
        simp [List.getD, List.getElem?_drop, hi']
      have hsl : ((ys.drop A).take 80).length = 80 := by have := HN.out; rw [List.length_take, List.length_drop]; omega
      have hsr : Small ((ys.drop A).take 80) := fun x hx => HR.out x (List.mem_of_mem_drop (List.mem_of_mem_take hx))
      have B1 := Lib.hid (fun w1 (hg : w.grownBy w1 none) => (by have := field5_any (w := w1) _ (hsub.kept hg (by simp)) hsl (show 80 ≤ c - A by omega) (by omega) hsr 0 (by decide); rw [sub_field ys A 0 (by decide), Nat.add_zero, show fieldAt ys A = sn from (congrArg Sec.name XE.out).symm] at this; exact this : Calls Tryz.prog 143 #[.slice (some ⟨b, o + A, none⟩) 80 (c - A), .int .i64 0] w1 fun e w' => e = .returned (.string (strOfNums sn)) ∧ w1 = w'))
      have B2 := Lib.hid (fun w1 (hg : w.grownBy w1 none) => (by have := field5_any (w := w1) _ (hsub.kept hg (by simp)) hsl (show 80 ≤ c - A by omega) (by omega) hsr 16 (by decide); rw [sub_field ys A 16 (by decide), show fieldAt ys (A + 16) = ss from (congrArg Sec.seg XE.out).symm] at this; exact this : Calls Tryz.prog 143 #[.slice (some ⟨b, o + A, none⟩) 80 (c - A), .int .i64 16] w1 fun e w' => e = .returned (.string (strOfNums ss)) ∧ w1 = w'))
      have B3 := Lib.hid (fun w1 (hg : w.grownBy w1 none) => (by have := numat_any (w := w1) _ (hsub.kept hg (by simp)) hsl (show 80 ≤ c - A by omega) (by omega) hsr 32 8 ⟨by decide, by decide⟩ (by decide); rw [sub_num ys A 32 8 (by decide), show numAt ys (A + 32) 8 = sa from (congrArg Sec.addr XE.out).symm] at this; exact this : Calls Tryz.prog 103 #[.slice (some ⟨b, o + A, none⟩) 80 (c - A), .int .i64 32, .int .i64 8] w1 fun e w' => e = .returned (.int .u64 sa) ∧ w1 = w'))
      have B4 := Lib.hid (fun w1 (hg : w.grownBy w1 none) => (by have := numat_any (w := w1) _ (hsub.kept hg (by simp)) hsl (show 80 ≤ c - A by omega) (by omega) hsr 40 8 ⟨by decide, by decide⟩ (by decide); rw [sub_num ys A 40 8 (by decide), show numAt ys (A + 40) 8 = sb from (congrArg Sec.size XE.out).symm] at this; exact this : Calls Tryz.prog 103 #[.slice (some ⟨b, o + A, none⟩) 80 (c - A), .int .i64 40, .int .i64 8] w1 fun e w' => e = .returned (.int .u64 sb) ∧ w1 = w'))
      have B5 := Lib.hid (fun w1 (hg : w.grownBy w1 none) => (by have := numat_any (w := w1) _ (hsub.kept hg (by simp)) hsl (show 80 ≤ c - A by omega) (by omega) hsr 48 4 ⟨by decide, by decide⟩ (by decide); rw [sub_num ys A 48 4 (by decide), show numAt ys (A + 48) 4 = so from (congrArg Sec.off XE.out).symm] at this; exact this : Calls Tryz.prog 103 #[.slice (some ⟨b, o + A, none⟩) 80 (c - A), .int .i64 48, .int .i64 4] w1 fun e w' => e = .returned (.int .u64 so) ∧ w1 = w'))
      have hAl : A + 64 < ys.length := by have := HN.out; omega
      have hsk : numAt ys (A + 64) 1 = ys.getD (A + 64) 0 := by
        unfold numAt
        have h1 : (ys.drop (A + 64)).take 1 = [ys[A + 64]] := by rw [List.drop_eq_getElem_cons hAl]; rfl
        rw [h1]
        simp [List.getD, hAl, leN]
      have hkb : w.cell? ⟨b, o + (A + 64), none⟩ = some (.int .u8 sk) := by
        rw [HC.out (A + 64) hAl, ← hsk, show numAt ys (A + 64) 1 = sk from (congrArg Sec.kind XE.out).symm]
      have hsk8 : 0 ≤ sk ∧ sk < 256 := by
        rw [show sk = numAt ys (A + 64) 1 from congrArg Sec.kind XE.out, hsk]
        have := HR.out (ys.getD (A + 64) 0) (by rw [List.getD_eq_getElem?_getD, List.getElem?_eq_getElem hAl]; exact List.getElem_mem hAl)
        exact this
      have skw : IntKind.i64.wrap sk = sk := IntWalk.i64_in _ (by omega)
      have hk0 : wr.cell? ⟨b, o + A + 64, none⟩ = some (.int .u8 sk) := by rw [Nat.add_assoc]; exact G.out.cell hkb (by simp)
      have GD := Lib.hid (show w.grownBy wr.drew none from grown_drewN G.out 1)
      have hk1 : wr.drew.cell? ⟨b, o + A + 64, none⟩ = some (.int .u8 sk) := hk0
      have ga := grown_drewN (grown1 wr (.cells #[.string ⟨#[]⟩, .string ⟨#[]⟩, .int .u64 0, .int .u64 0, .int .u64 0, .int .i64 0] 148)) 1
      have GA := Lib.hid (show w.grownBy (wr.alloc (.cells #[.string ⟨#[]⟩, .string ⟨#[]⟩, .int .u64 0, .int .u64 0, .int .u64 0, .int .i64 0] 148)).drew none from grown_trans G.out ga)
      have hk2 : (wr.alloc (.cells #[.string ⟨#[]⟩, .string ⟨#[]⟩, .int .u64 0, .int .u64 0, .int .u64 0, .int .i64 0] 148)).drew.cell? ⟨b, o + A + 64, none⟩ = some (.int .u8 sk) := grown_cell ga hk0
      have gx := grown_drewN (grown1 wr (.cells #[.string (strOfNums sn), .string (strOfNums ss), .int .u64 sa, .int .u64 sb, .int .u64 so, .int .i64 sk] 148)) 1
      have hk3 : (wr.alloc (.cells #[.string (strOfNums sn), .string (strOfNums ss), .int .u64 sa, .int .u64 sb, .int .u64 so, .int .i64 sk] 148)).drew.cell? ⟨b, o + A + 64, none⟩ = some (.int .u8 sk) := grown_cell gx hk0
      clear ga gx
      clear hsub hsl hsr hAl hsk hkb hsk8 hX
      go_upto_region 15 with fail
      clear hk0
      go_region_held3 (fun X => X.cell? ⟨b, o + A + 64, none⟩ = some (.int .u8 sk))
        (first | exact hk1 | exact hk2 | exact hk3)
        (first
          | (go_at_call 143; (first | with_reducible refine (B1.out _ GD.out).mono ?_ | with_reducible refine (B1.out _ GA.out).mono ?_ | with_reducible refine (B2.out _ GD.out).mono ?_ | with_reducible refine (B2.out _ GA.out).mono ?_); rintro e w3 ⟨rfl, rfl⟩)
          | (go_at_call 103; (first | with_reducible refine (B3.out _ GD.out).mono ?_ | with_reducible refine (B3.out _ GA.out).mono ?_ | with_reducible refine (B4.out _ GD.out).mono ?_ | with_reducible refine (B4.out _ GA.out).mono ?_ | with_reducible refine (B5.out _ GD.out).mono ?_ | with_reducible refine (B5.out _ GA.out).mono ?_); rintro e w3 ⟨rfl, rfl⟩))
      all_goals
        clear hk1 hk2 hk3 B1 B2 B3 B4 B5 GD GA
        have g3 : wr.grownBy (wr.alloc (.cells #[.string (strOfNums sn), .string (strOfNums ss), .int .u64 sa, .int .u64 sb, .int .u64 so, .int .i64 sk] 148)).drew none := grown_drewN (grown1 wr (.cells #[.string (strOfNums sn), .string (strOfNums ss), .int .u64 sa, .int .u64 sb, .int .u64 so, .int .i64 sk] 148)) 1
        have SX := Lib.hid (show SecAt (wr.alloc (.cells #[.string (strOfNums sn), .string (strOfNums ss), .int .u64 sa, .int .u64 sb, .int .u64 so, .int .i64 sk] 148)).drew wr.heap.size ⟨sn, ss, sa, sb, so, sk⟩ from heap_alloc_new wr _)
        have SA' := Lib.hid (SA.out.kept g3 (by simp))
        have ZA' := Lib.hid (ZA.out.kept g3 (by simp))
        have G' := Lib.hid (grown_trans G.out g3)
        have OW' := Lib.hid (own_grown OW.out g3)
        have hB2 : w.heap.size + 2 ≤ (wr.alloc (.cells #[.string (strOfNums sn), .string (strOfNums ss), .int .u64 sa, .int .u64 sb, .int .u64 so, .int .i64 sk] 148)).drew.heap.size := by have := g3.size; omega
        obtain ⟨w3, hw3⟩ : ∃ w3, (wr.alloc (.cells #[.string (strOfNums sn), .string (strOfNums ss), .int .u64 sa, .int .u64 sb, .int .u64 so, .int .i64 sk] 148)).drew = w3 := ⟨_, rfl⟩
        obtain ⟨x, hx⟩ : ∃ x, wr.heap.size = x := ⟨_, rfl⟩
        rw [hw3] at SA' ZA' G' OW' SX hB2 ⊢
        rw [hx] at SX
        simp only [hx]
        clear hw3 hx g3 SA ZA G OW
        have SA := SA'
        have ZA := ZA'
        have G := G'
        have OW := OW'
        clear SA' ZA' G' OW'
        have hsn : ss = nm := by
          have h1 := odd_each OD.out (show k < manyAt ys by rw [← ME.out]; exact hlt)
          rw [← HA.out, ← XE.out, NM.out] at h1
          exact h1
        subst hsn
        obtain ⟨c0, c1, c2, c3, c4, c5⟩ := SX.out.c
        obtain ⟨s0, s1, s2, s3, s4, s5, s6⟩ := SA.out.c
        simp only [] at c0 c1 c2 c3 c4 c5 s0 s1 s2 s3 s4 s5
        have sf := SA.out.fz 6
        have sl' := SA.out.lt
        go_wp2_with (at_builtin; refine wp_append_st secType rfl _ _ rfl _ k _ rfl (own_grown OW.out (grown1 w3 (.cells #[.string (strOfNums sn), .string (strOfNums ss), .int .u64 sa, .int .u64 sb, .int .u64 so, .int .i64 sk] 148))) (secCs ⟨sn, ss, sa, sb, so, sk⟩) rfl w3.heap.size rfl (heap_alloc_new w3 _) (secCs_one _) (by omega) (by decide) ?_ ?_)
        · rw [World.size_alloc]; omega
        intro v' w4 ho hg4
        obtain ⟨q4, c4', rfl⟩ := own_slice ho
        have hlo := fun (g' : Nat) (e : (Value.slice q' k c').ownBlock = some g') => (OW.out.lt g' e).1
        have R4 := Lib.hid (show w4.ownsRow (w.heap.size + 2) 148 6 (.slice q4 (k + 1) c4') (k + 1) ((secsN ys (k + 1)).flatMap secCs) by
          rw [secsN_succ, List.flatMap_append, ← HA.out, ← XE.out]
          exact ho)
        have g3 := grown1 w3 (.cells #[.string (strOfNums sn), .string (strOfNums ss), .int .u64 sa, .int .u64 sb, .int .u64 so, .int .i64 sk] 148)
        have SA' := Lib.hid ((SA.out.kept g3 (by simp)).kept hg4 (fun e => by have := hlo _ e; omega))
        have ZA' := Lib.hid ((ZA.out.kept g3 (by simp)).kept hg4 (fun e => by have := hlo _ e; omega))
        have G' := Lib.hid (grown_own (grown_trans G.out g3) hg4 hlo (by omega))
        have hB4 : w.heap.size + 2 ≤ w4.heap.size := by have h1 := hg4.size; rw [World.size_alloc] at h1; omega
        clear g3 ho hg4 SX c0 c1 c2 c3 c4 c5 s0 s1 s2 s3 s4 s5 s6 sf sl' SA ZA G
        have s6 := SA'.out.c.2.2.2.2.2.2
        have sf := SA'.out.fz 6
        have sl' := SA'.out.lt
        go_wp2
        have gS := grown_setCell (i := 6) (grown_refl w4 (some (w.heap.size + 1))) (.slice q4 (k + 1) c4')
        have hno : some w.heap.size ≠ some (w.heap.size + 1) := by intro e; injection e with e; omega
        exact ⟨⟨k + 1, q4, c4', hlt, rfl, by go_num, SA'.out.secs _, ZA'.out.kept gS (fun e => hno e.symm), R4.out.kept gS (.inr (fun e => by have := (R4.out.lt _ e).1; omega)), grown_new G'.out gS (by omega), Nat.le_trans hB4 gS.size⟩, by simp [intOf]; omega⟩
    · have hkm : k = M := by omega
      subst hkm
      obtain ⟨s0, s1, s2, s3, s4, s5, s6⟩ := SA.out.c
      obtain ⟨d0, d1', d2', d3', d4, d5, d6⟩ := ZA.out.c
      have f0 := ZA.out.fz 0
      have f1 := ZA.out.fz 1
      have f2 := ZA.out.fz 2
      have f3 := ZA.out.fz 3
      have f4 := ZA.out.fz 4
      have f5 := ZA.out.fz 5
      have f6 := ZA.out.fz 6
      have hl := ZA.out.lt
      have hl2 := SA.out.lt
      simp only [] at s0 s1 s2 s3 s4 s5
      go_wp2
      have PA := ZA.out.put ⟨nm, ad, sz, of, fs, pr, []⟩ (.slice q' k c')
      have gP := grown_put7 (grown_refl wr (some w.heap.size)) (.string (strOfNums nm)) (.int .u64 ad) (.int .u64 sz) (.int .u64 of) (.int .u64 fs) (.int .i64 pr) (.slice q' k c')
      refine bodyPost_ret (results_seg rfl rfl rfl PA) rfl ?_
      refine ⟨q', k, c', w.heap.size + 2, ?_, ?_, ?_, by omega, grown_new G.out gP (Nat.le_refl _)⟩
      · show k = (secsN ys (manyAt ys)).length
        rw [← ME.out]; unfold secsN; simp
      · rw [← SE.out]; rfl
      · have := OW.out.kept gP (.inr (fun e => by have := (OW.out.lt _ e).1; omega))
        show World.ownsRow _ _ _ _ _ _ ((secsN ys (manyAt ys)).flatMap secCs)
        rw [← ME.out]
        exact this
end Go.Proofs.YtdagnkdonlfobaaGreat

/- The document's name of a command that has one. No condition but that it has at most 2^47 bytes. -/
namespace Go.Proofs.YtdagnkdonlfobaaGreat
open Go.RowKit
variable {w w' : World}

theorem name_facts {ys : List Int} (h : nameErr ys = 0) : ¬ shortB ys ∧ named (cmdAt ys) ∧ ¬ ((ys.length : Int) < numAt ys 8 4) ∧ nameOf ys = pre (ys.drop (numAt ys 8 4).toNat) ∧ pre (ys.drop (numAt ys 8 4).toNat) ≠ [] ∧
    (pre (ys.drop (numAt ys 8 4).toNat)).length < (ys.drop (numAt ys 8 4).toNat).length ∧ (pre (ys.drop (numAt ys 8 4).toNat)).length ≤ 255 := by
  unfold nameErr at h
  split at h; cases h
  rename_i h1
  split at h; cases h
  rename_i h2
  split at h; cases h
  rename_i h3
  have h2' : named (cmdAt ys) := Classical.byContradiction h2
  unfold nameOf at h3 ⊢
  split at h3; exact absurd rfl h3
  rename_i h4
  rw [if_neg h4]
  unfold textOf at h3 ⊢
  split at h3
  · rename_i h5
    rw [if_pos h5]
    exact ⟨h1, h2', h4, rfl, h3, h5.1, h5.2⟩
  · exact absurd rfl h3

set_option maxHeartbeats 1600000 in
set_option maxRecDepth 20000 in
theorem refName_any (ys : List Int) {q : Option Addr} {c n : Nat} (h : IsBytes w q c ys) (hn : ys.length = n) (hc : n ≤ c) (hcm : c ≤ 9223372036854775807) (hr : Small ys) (he : nameErr ys = 0) :
    Calls Tryz.prog 81 #[.slice q n c] w fun e w' => e = .returned (.tuple #[.string (strOfNums (nameOf ys)), .int .i64 0]) ∧ w = w' := by
  obtain ⟨hs, hnm, hF, hT, hT0, hT1, hT2⟩ := name_facts he
  have CD := Lib.hid (cmd5_any (w := w) ys h hn hc hcm hr hs)
  have h24 : 24 ≤ n := by
    have h1 : ¬ ((ys.length : Int) < leastN (cmdAt ys)) := fun h => hs (.inr h)
    have : leastN (cmdAt ys) = 24 := by rcases hnm with h | h | h | h | h <;> rw [h] <;> decide
    omega
  have AT := Lib.hid (numat_any (w := w) ys h hn hc hcm hr 8 4 ⟨by decide, by decide⟩ (by omega))
  obtain ⟨b, o, rfl, hcell⟩ := h.2 (by omega)
  have hfb := numAt_lt hr 8
  obtain ⟨F, hFe⟩ : ∃ F : Nat, numAt ys 8 4 = F := ⟨(numAt ys 8 4).toNat, by omega⟩
  rw [hFe] at AT hF hT hT0 hT1 hT2 hfb
  simp only [Int.toNat_natCast] at hT hT0 hT1 hT2
  obtain ⟨L, hL⟩ : ∃ L, L = ys.drop F := ⟨_, rfl⟩
  rw [← hL] at hT hT0 hT1 hT2
  have hLl : L.length = n - F := by rw [hL, List.length_drop, hn]
  have hFn : F < n := by omega
  have HC := Lib.hid (fun (k : Nat) (x : Int) (hk : L[k]? = some x) => (show w.cell? ⟨b, o + F + k, none⟩ = some (.int .u8 x) from by
    have hk16 : k < n - F := by
      rcases Nat.lt_or_ge k (n - F) with h1 | h1
      · exact h1
      · rw [List.getElem?_eq_none (by omega)] at hk; cases hk
    rw [Nat.add_assoc, hcell (F + k) (by omega)]
    rw [hL, List.getElem?_drop] at hk
    simp [List.getD, hk]))
  have IB := Lib.hid (show IsBytes w (some ⟨b, o + F, none⟩) (c - F) L from IsBytes.mk_at fun i hi => by
    rw [Nat.add_assoc, hcell (F + i) (by omega), hL]
    simp [List.getD, List.getElem?_drop])
  have HL := Lib.hid hLl
  have i3 : ¬ c = F := by omega
  have hpc : (F : Int) ≤ (n : Int) := by omega
  have hpc2 : (n : Int) ≤ (c : Int) := by omega
  have m1 : ((n : Int) % 18446744073709551616) = n := by omega
  have m2 : IntKind.u64.wrap (n : Int) = n := by rw [IntKind.wrap_u64]; exact m1
  have d1 : decide (n < F) = false := by simp; omega
  have d2 : decide ((n : Int) < (F : Int)) = false := by simp; omega
  obtain ⟨R, hR⟩ : ∃ R, R = n - F := ⟨_, rfl⟩
  have hRi : (n : Int) - (F : Int) = (R : Int) := by omega
  have hRn : n - F = R := hR.symm
  rw [hRn] at HL
  have T0 := Lib.hid hT0
  have T1 := Lib.hid (show (pre L).length < R by rw [hLl, hRn] at hT1; exact hT1)
  have T2 := Lib.hid hT2
  obtain ⟨T, hTT⟩ : ∃ T, T = nameOf ys := ⟨_, rfl⟩
  rw [← hTT] at hT ⊢
  have TE := Lib.hid hT
  obtain ⟨cm, hcm'⟩ : ∃ z, z = cmdAt ys := ⟨_, rfl⟩
  rw [← hcm'] at CD hnm
  have DP := Lib.hid (fun w : World => dep_any (w := w) cm)
  have hb : (cm != 13) = false ∨ ((cm != 13) = true ∧ (depKind cm == 0) = false) := by
    rcases hnm with h | h | h | h | h
    · exact .inl (by rw [h]; rfl)
    all_goals exact .inr ⟨by rw [h]; rfl, by rw [h]; rfl⟩
  obtain ⟨dk, hdk⟩ : ∃ dk, dk = depKind cm := ⟨_, rfl⟩
  rw [← hdk] at DP hb
  have RR := Lib.hid (show (R : Int) ≤ 9223372036854775807 by omega)
  clear h hr hcell hL hLl hs hnm hF hT hT0 hT1 hT2 he hTT hcm' hdk hFe hR hn
  rcases hb with b1 | ⟨b1, b2⟩
  all_goals
    go_enter Tryz.func81, Tryz.ntmps81
    go_wp2_with fail
    refine CD.out.mono ?_
    rintro e w1 ⟨rfl, rfl⟩
    go_wp2_with (first | (go_at_call 80; refine (DP.out _).mono ?_; rintro e w2 ⟨rfl, rfl⟩) | (go_at_call 103; refine AT.out.mono ?_; rintro e w3 ⟨rfl, rfl⟩))
    go_loopw [8] (fun i wr => ∃ k : Nat, k ≤ R ∧ i = .int .i64 k ∧ wr = w ∧ pre L = L.take k ++ pre (L.drop k)) (fun i _ => R - (intOf i).toNat)
    case atStart => exact ⟨0, by omega, rfl, rfl, by simp⟩
    case round =>
      obtain ⟨k, hk, rfl, rfl, hi⟩ := hrel
      have HI := Lib.hid hi
      have hR63 := RR.out
      have cv := (IB.out.take (c' := c - F) k (fun h => by cases h)).text (n := k) (by rw [List.length_take, HL.out]; omega)
      clear hi
      by_cases hlt : k < R
      · obtain ⟨x, hx⟩ : ∃ x, L[k]? = some x := ⟨_, List.getElem?_eq_getElem (by rw [HL.out]; exact hlt)⟩
        have c0 := HC.out k x hx
        have HX := Lib.hid hx
        have dl : decide (k < R) = true := by simpa using hlt
        clear hx
        by_cases hx0 : x = 0
        · subst hx0
          have PE := Lib.hid (pre_inv_stop HI.out HX.out)
          have hlen : (pre L).length = k := by rw [PE.out, List.length_take, HL.out]; omega
          have hk0 : k ≠ 0 := fun e => T0.out (List.eq_nil_of_length_eq_zero (hlen.trans e))
          have hk255 : k ≤ 255 := by rw [← hlen]; exact T2.out
          have q1 : ((k : Int) == (R : Int)) = false := by simp; omega
          have q2 : ((k : Int) == 0) = false := by simp; omega
          have q3 : decide (255 < k) = false := by simp; omega
          have hkc : (k : Int) ≤ ((c - F : Nat) : Int) := by omega
          rw [← PE.out, ← TE.out] at cv
          clear hlen
          go_wp2
          go_ret2
          exact ⟨rfl, rfl⟩
        · have hx1 : (x != 0) = true := by simpa using hx0
          have PE := Lib.hid (pre_inv_step HI.out HX.out hx0)
          clear hx0 cv
          go_wp2
          refine ⟨⟨k + 1, by omega, by go_num, trivial, PE.out⟩, by simp [intOf]; omega⟩
      · exfalso
        have hkR : k = R := by omega
        subst hkR
        have h1 : pre L = L := by
          rw [HI.out, List.drop_of_length_le (by rw [HL.out]; exact Nat.le_refl _), List.take_of_length_le (by rw [HL.out]; exact Nat.le_refl _)]
          simp [pre]
        have := T1.out
        rw [h1, HL.out] at this
        omega
end Go.Proofs.YtdagnkdonlfobaaGreat

/- The document's command, name and spans where they are none: the errors. No condition but that it has at most 2^47 bytes. -/
namespace Go.Proofs.YtdagnkdonlfobaaGreat
open Go.RowKit
variable {w w' : World}

set_option maxHeartbeats 1600000 in
theorem cmd5_bad (ys : List Int) {q : Option Addr} {c n : Nat} (h : IsBytes w q c ys) (hn : ys.length = n) (hc : n ≤ c) (hcm : c ≤ 9223372036854775807) (hr : Small ys) (hs : shortB ys) :
    Calls Tryz.prog 77 #[.slice q n c] w fun e w' => ∃ cm, e = .returned (.tuple #[.int .u32 cm, .int .i64 3]) ∧ w = w' := by
  by_cases h8 : n < 8
  · have d1 : decide ((n : Int) < 8) = true := by simp; omega
    clear h hr hs h8
    go_enter Tryz.func77, Tryz.ntmps77
    go_wp2
    go_ret2
    exact ⟨_, rfl, rfl⟩
  · have hle : (n : Int) < leastN (cmdAt ys) := by
      rcases hs with h1 | h1
      · omega
      · rw [hn] at h1; exact h1
    have AT := Lib.hid (numat_any (w := w) ys h hn hc hcm hr 0 4 ⟨by decide, by decide⟩ (by omega))
    have hcb := numAt_lt hr 0
    obtain ⟨cm, hcm'⟩ : ∃ z, z = cmdAt ys := ⟨_, rfl⟩
    have e1 : numAt ys 0 4 = cm := hcm'.symm
    rw [← hcm'] at hle
    rw [e1] at AT hcb
    have LS := Lib.hid (fun w : World => least_any (w := w) cm)
    obtain ⟨L, hL⟩ : ∃ L, L = leastN cm := ⟨_, rfl⟩
    rw [← hL] at hle LS
    have d1 : decide ((n : Int) < 8) = false := by simp; omega
    have d2 : decide ((n : Int) < L) = true := by simpa using hle
    clear h hr hs hL hle hcm' e1 hn h8
    go_enter Tryz.func77, Tryz.ntmps77
    go_wp2_with fail
    refine AT.out.mono ?_
    rintro e w1 ⟨rfl, rfl⟩
    go_wp2_with fail
    refine (LS.out _).mono ?_
    rintro e w2 ⟨rfl, rfl⟩
    go_wp2
    go_ret2
    exact ⟨_, rfl, rfl⟩

def nameN (ys : List Int) : List Int := if nameErr ys = 0 then nameOf ys else []
set_option maxHeartbeats 3200000 in
set_option maxRecDepth 20000 in
theorem refName_all (ys : List Int) {q : Option Addr} {c n : Nat} (h : IsBytes w q c ys) (hn : ys.length = n) (hc : n ≤ c) (hcm : c ≤ 9223372036854775807) (hr : Small ys) :
    Calls Tryz.prog 81 #[.slice q n c] w fun e w' => e = .returned (.tuple #[.string (strOfNums (nameN ys)), .int .i64 (nameErr ys)]) ∧ w = w' := by
  by_cases he : nameErr ys = 0
  · refine (refName_any ys h hn hc hcm hr he).mono ?_
    rintro e w' ⟨rfl, rfl⟩
    rw [he]; unfold nameN; rw [if_pos he]
    exact ⟨rfl, rfl⟩
  have hN : nameN ys = [] := by unfold nameN; rw [if_neg he]
  rw [hN]
  by_cases hs : shortB ys
  · have hE : nameErr ys = 3 := by unfold nameErr; rw [if_pos hs]
    have CD := Lib.hid (cmd5_bad (w := w) ys h hn hc hcm hr hs)
    rw [hE]
    clear h hr hs hN he hE hn
    go_enter Tryz.func81, Tryz.ntmps81
    go_wp2_with fail
    refine CD.out.mono ?_
    rintro e w1 ⟨cm, rfl, rfl⟩
    go_wp2
    go_ret2
    exact ⟨rfl, rfl⟩
  have CD := Lib.hid (cmd5_any (w := w) ys h hn hc hcm hr hs)
  by_cases hnm : named (cmdAt ys)
  rotate_left
  · have hE : nameErr ys = 7 := by unfold nameErr; rw [if_neg hs, if_pos hnm]
    obtain ⟨cm, hcm'⟩ : ∃ z, z = cmdAt ys := ⟨_, rfl⟩
    rw [← hcm'] at CD hnm
    have DP := Lib.hid (fun w : World => dep_any (w := w) cm)
    have b1 : (cm != 13) = true := by unfold named at hnm; simp only [not_or] at hnm; simpa using hnm.1
    have b2 : depKind cm = 0 := by
      unfold named at hnm; simp only [not_or] at hnm
      obtain ⟨n1, n2, n3, n4, n5⟩ := hnm
      unfold depKind; simp [n2, n3, n4, n5]
    rw [b2] at DP
    rw [hE]
    clear h hr hs hN he hE hn hnm hcm' b2
    go_enter Tryz.func81, Tryz.ntmps81
    go_wp2_with fail
    refine CD.out.mono ?_
    rintro e w1 ⟨rfl, rfl⟩
    go_wp2_with (go_at_call 80; refine (DP.out _).mono ?_; rintro e w2 ⟨rfl, rfl⟩)
    go_ret2
    exact ⟨rfl, rfl⟩
  have hno : nameOf ys = [] := by
    unfold nameErr at he
    rw [if_neg hs, if_neg (by simpa using hnm)] at he
    exact Classical.byContradiction fun h1 => he (if_neg h1)
  have hE : nameErr ys = 10 := by unfold nameErr; rw [if_neg hs, if_neg (by simpa using hnm), if_pos hno]
  have h24 : 24 ≤ n := by
    have h1 : ¬ ((ys.length : Int) < leastN (cmdAt ys)) := fun h => hs (.inr h)
    have : leastN (cmdAt ys) = 24 := by rcases hnm with h | h | h | h | h <;> rw [h] <;> decide
    omega
  have AT := Lib.hid (numat_any (w := w) ys h hn hc hcm hr 8 4 ⟨by decide, by decide⟩ (by omega))
  obtain ⟨b, o, rfl, hcell⟩ := h.2 (by omega)
  have hfb := numAt_lt hr 8
  obtain ⟨F, hFe⟩ : ∃ F : Nat, numAt ys 8 4 = F := ⟨(numAt ys 8 4).toNat, by omega⟩
  obtain ⟨cm, hcm'⟩ : ∃ z, z = cmdAt ys := ⟨_, rfl⟩
  rw [← hcm'] at CD hnm
  have DP := Lib.hid (fun w : World => dep_any (w := w) cm)
  have hb : (cm != 13) = false ∨ ((cm != 13) = true ∧ (depKind cm == 0) = false) := by
    rcases hnm with h | h | h | h | h
    · exact .inl (by rw [h]; rfl)
    all_goals exact .inr ⟨by rw [h]; rfl, by rw [h]; rfl⟩
  obtain ⟨dk, hdk⟩ : ∃ dk, dk = depKind cm := ⟨_, rfl⟩
  rw [← hdk] at DP hb
  rw [hFe] at AT hfb
  have m1 : ((n : Int) % 18446744073709551616) = n := by omega
  have m2 : IntKind.u64.wrap (n : Int) = n := by rw [IntKind.wrap_u64]; exact m1
  rw [hE]
  unfold nameOf at hno
  rw [hFe, hn] at hno
  by_cases hF : (n : Int) < (F : Int)
  · have d1 : decide (n < F) = true := by simp; omega
    have d2 : decide ((n : Int) < (F : Int)) = true := by simp; omega
    clear h hr hcell hs hno hE he hN hFe hn hnm hcm' hdk hF
    rcases hb with b1 | ⟨b1, b2⟩
    all_goals
      go_enter Tryz.func81, Tryz.ntmps81
      go_wp2_with fail
      refine CD.out.mono ?_
      rintro e w1 ⟨rfl, rfl⟩
      go_wp2_with (first | (go_at_call 80; refine (DP.out _).mono ?_; rintro e w2 ⟨rfl, rfl⟩) | (go_at_call 103; refine AT.out.mono ?_; rintro e w3 ⟨rfl, rfl⟩))
      go_ret2
      exact ⟨rfl, rfl⟩
  rw [if_neg hF] at hno
  simp only [Int.toNat_natCast] at hno
  obtain ⟨L, hL⟩ : ∃ L, L = ys.drop F := ⟨_, rfl⟩
  rw [← hL] at hno
  have hLl : L.length = n - F := by rw [hL, List.length_drop, hn]
  have HC := Lib.hid (fun (k : Nat) (x : Int) (hk : L[k]? = some x) => (show w.cell? ⟨b, o + F + k, none⟩ = some (.int .u8 x) from by
    have hk16 : k < n - F := by
      rcases Nat.lt_or_ge k (n - F) with h1 | h1
      · exact h1
      · rw [List.getElem?_eq_none (by omega)] at hk; cases hk
    rw [Nat.add_assoc, hcell (F + k) (by omega)]
    rw [hL, List.getElem?_drop] at hk
    simp [List.getD, hk]))
  have HL := Lib.hid hLl
  have hpc : (F : Int) ≤ (n : Int) := by omega
  have hpc2 : (n : Int) ≤ (c : Int) := by omega
  have d1 : decide (n < F) = false := by simp; omega
  have d2 : decide ((n : Int) < (F : Int)) = false := by simp; omega
  obtain ⟨R, hR⟩ : ∃ R, R = n - F := ⟨_, rfl⟩
  have hRi : (n : Int) - (F : Int) = (R : Int) := by omega
  have hRn : n - F = R := hR.symm
  rw [hRn] at HL
  have hnot : ¬ ((pre L).length < R ∧ (pre L).length ≤ 255 ∧ pre L ≠ []) := fun ⟨h1, h2, h3⟩ => by
    unfold textOf at hno
    rw [if_pos ⟨by rw [hLl, hRn]; exact h1, h2⟩] at hno
    exact h3 hno
  have NT := Lib.hid hnot
  have RR := Lib.hid (show (R : Int) ≤ 9223372036854775807 by omega)
  -- the text is empty, or has no end, or is too long
  by_cases hR0 : R = 0
  · have hF2 : F = n := by omega
    have hw : c = n ∨ c ≠ n := by omega
    clear h hr hcell hs hno hE he hN hFe hn hnm hcm' hdk hF hnot hL hLl hR HC HL NT hpc hRi hRn RR h24 hfb
    subst hR0
    subst hF2
    rcases hw with hw | hw
    · subst hw
      rcases hb with b1 | ⟨b1, b2⟩
      all_goals
        go_enter Tryz.func81, Tryz.ntmps81
        go_wp2_with fail
        refine CD.out.mono ?_
        rintro e w1 ⟨rfl, rfl⟩
        go_wp2_with (first | (go_at_call 80; refine (DP.out _).mono ?_; rintro e w2 ⟨rfl, rfl⟩) | (go_at_call 103; refine AT.out.mono ?_; rintro e w3 ⟨rfl, rfl⟩))
        go_loopw [8] (fun i wr => i = .int .i64 0 ∧ wr = w) (fun i _ => 0)
        case atStart => exact ⟨rfl, rfl⟩
        case round =>
          obtain ⟨rfl, rfl⟩ := hrel
          go_wp2
          go_ret2
          exact ⟨rfl, rfl⟩
    · rcases hb with b1 | ⟨b1, b2⟩
      all_goals
        go_enter Tryz.func81, Tryz.ntmps81
        go_wp2_with fail
        refine CD.out.mono ?_
        rintro e w1 ⟨rfl, rfl⟩
        go_wp2_with (first | (go_at_call 80; refine (DP.out _).mono ?_; rintro e w2 ⟨rfl, rfl⟩) | (go_at_call 103; refine AT.out.mono ?_; rintro e w3 ⟨rfl, rfl⟩))
        go_loopw [8] (fun i wr => i = .int .i64 0 ∧ wr = w) (fun i _ => 0)
        case atStart => exact ⟨rfl, rfl⟩
        case round =>
          obtain ⟨rfl, rfl⟩ := hrel
          go_wp2
          go_ret2
          exact ⟨rfl, rfl⟩
  have i3 : ¬ c = F := by omega
  clear h hr hcell hs hno hE he hN hFe hn hnm hcm' hdk hF hnot hL hLl hR
  rcases hb with b1 | ⟨b1, b2⟩
  all_goals
    go_enter Tryz.func81, Tryz.ntmps81
    go_wp2_with fail
    refine CD.out.mono ?_
    rintro e w1 ⟨rfl, rfl⟩
    go_wp2_with (first | (go_at_call 80; refine (DP.out _).mono ?_; rintro e w2 ⟨rfl, rfl⟩) | (go_at_call 103; refine AT.out.mono ?_; rintro e w3 ⟨rfl, rfl⟩))
    go_loopw [8] (fun i wr => ∃ k : Nat, k ≤ R ∧ i = .int .i64 k ∧ wr = w ∧ pre L = L.take k ++ pre (L.drop k)) (fun i _ => R - (intOf i).toNat)
    case atStart => exact ⟨0, by omega, rfl, rfl, by simp⟩
    case round =>
      obtain ⟨k, hk, rfl, rfl, hi⟩ := hrel
      have HI := Lib.hid hi
      have hR63 := RR.out
      clear hi
      have fin : ∀ (hT : pre L = L.take k), ((k : Int) == (R : Int)) = true ∨ (((k : Int) == (R : Int)) = false ∧ ((k : Int) == 0) = true) ∨ (((k : Int) == (R : Int)) = false ∧ ((k : Int) == 0) = false ∧ decide (255 < k) = true) := fun hT => by
        have hlen : (pre L).length = k := by rw [hT, List.length_take, HL.out]; omega
        by_cases q1 : k = R
        · exact .inl (by simp; omega)
        by_cases q2 : k = 0
        · exact .inr (.inl ⟨by simp; omega, by simp; omega⟩)
        refine .inr (.inr ⟨by simp; omega, by simp; omega, ?_⟩)
        have : ¬ k ≤ 255 := fun q3 => NT.out ⟨by omega, by omega, fun e => q2 (by rw [e] at hlen; exact hlen.symm)⟩
        simp; omega
      by_cases hlt : k < R
      · obtain ⟨x, hx⟩ : ∃ x, L[k]? = some x := ⟨_, List.getElem?_eq_getElem (by rw [HL.out]; exact hlt)⟩
        have c0 := HC.out k x hx
        have HX := Lib.hid hx
        have dl : decide (k < R) = true := by simpa using hlt
        clear hx
        by_cases hx0 : x = 0
        · subst hx0
          have PE := pre_inv_stop HI.out HX.out
          rcases fin PE with q1 | ⟨q1, q2⟩ | ⟨q1, q2, q3⟩
          · exfalso; simp at q1; omega
          · clear PE fin
            go_wp2
            go_ret2
            exact ⟨rfl, rfl⟩
          · have q3' : (255 < k) = True := by simpa using q3
            have q4 : (255 : Int) < (k : Int) := by simp at q3; omega
            have q5 : decide ((255 : Int) < (k : Int)) = true := by simp; omega
            clear PE fin
            go_wp2
            go_ret2
            exact ⟨rfl, rfl⟩
        · have hx1 : (x != 0) = true := by simpa using hx0
          have PE := Lib.hid (pre_inv_step HI.out HX.out hx0)
          clear hx0 fin
          go_wp2
          refine ⟨⟨k + 1, by omega, by go_num, trivial, PE.out⟩, by simp [intOf]; omega⟩
      · have hkR : k = R := by omega
        subst hkR
        clear fin HI NT HC HL hk hlt RR
        have dl : decide (k < k) = false := by simp
        have q0 : ((k : Int) == (k : Int)) = true := by simp
        go_wp2
        go_ret2
        exact ⟨rfl, rfl⟩
end Go.Proofs.YtdagnkdonlfobaaGreat
