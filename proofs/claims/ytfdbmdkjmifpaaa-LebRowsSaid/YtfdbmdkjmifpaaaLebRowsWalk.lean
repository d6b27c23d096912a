/- The walk of LebRows: numbers that were put one behind the other are taken so, and of the row less its last byte one is none. -/
import Derived.Test.YtfdbmdkjmifpaaaKnown2
import Derived.Test.YtfdbmdkjmifpaaaRowsL
import Derived.Test.YtfdbmdkjmifpaaaPuts
import Derived.Deep.RegionHeld
namespace Go.Proofs.Ytfdbmdkjmifpaaa.lebRows
open Go.RowKit

/-- A slice of numbers that came in. -/
structure Nums (w : World) (a : Option Addr) (us : List Int) : Prop where
  range : ∀ k, 0 ≤ us.getD k 0 ∧ us.getD k 0 < 18446744073709551616
  at_ : ∃ b o, b < w.heap.size + (if us = [] then b + 1 else 0) ∧ ∀ k, k < us.length → a = some ⟨b, o, none⟩ ∧ w.cell? ⟨b, o + k, none⟩ = some (.int .u64 (us.getD k 0))
theorem u64_range {n : Int} (h : (Lit.int .u64 n).wf = true) : 0 ≤ n ∧ n < 18446744073709551616 := by
  have : 0 ≤ n ∧ n ≤ 18446744073709551615 := by simpa [Lit.wf, IntKind.min, IntKind.max, IntKind.signed, IntKind.bits] using h
  omega
theorem nums_of {w : World} {a : Option Addr} {len cap : Nat} {zs : List Int} (h : IsRow .u64 w a len cap zs) : ∃ us : List Int, us.length = len ∧ Nums w a us := by
  rcases h with ⟨rfl, rfl, rfl, rfl⟩ | ⟨x, rfl, hl, _, hz, hc, hw⟩
  · exact ⟨[], rfl, by simp, 0, 0, by simp, by simp⟩
  · refine ⟨zs.take len, by simp; omega, fun k => ?_, ?_⟩
    · rw [List.getD_eq_getElem?_getD]
      cases hk : (zs.take len)[k]? with
      | none => simp
      | some z => exact u64_range (hw z (List.mem_of_mem_take (List.mem_of_getElem? hk)))
    · rcases Nat.eq_zero_or_pos len with rfl | h0
      · exact ⟨0, 0, by simp, by simp⟩
      · obtain ⟨b, o, rfl⟩ := flat_of_cell (hc 0 (by omega))
        have hb := World.block_lt_of_cell? w _ (hc 0 (by omega))
        rw [add_flat] at hb
        refine ⟨b, o, by simp at hb; omega, fun k hk => ⟨rfl, ?_⟩⟩
        simp only [List.length_take] at hk
        rw [← add_flat, hc k (by omega)]
        simp [List.getD, show k < len by omega]

/-- Ahead of a round of the first loop. -/
def Rel1 (w0 w : World) (us : List Int) (v i : Value) : Prop :=
  ∃ (k : Nat) (q : Option Addr) (c : Nat), k ≤ us.length ∧ i = .int .i64 k ∧ v = .slice q (cat us k).length c ∧
    w.ownsRow w0.heap.size 5 1 v (cat us k).length ((cat us k).map (Value.int .u8)) ∧ Below w0.heap.size w0 w
theorem Rel1.next {w0 w2 w' : World} {us A B : List Int} {k : Nat} {v v' : Value} (hk : k < us.length) (hA : cat us k = A) (hB : item k (us.getD k 0) = B)
    (hv : w2.ownsRow w0.heap.size 5 1 v A.length (A.map (Value.int .u8))) (hb : Below w0.heap.size w0 w2)
    (h1 : w'.ownsRow w0.heap.size 5 1 v' (A.length + B.length) (A.map (Value.int .u8) ++ B.map (Value.int .u8))) (h2 : w2.grownBy w' v.ownBlock) :
    Rel1 w0 w' us v' (.int .i64 ((k : Int) + 1)) := by
  obtain ⟨q, c, rfl⟩ := own_slice h1
  have hc : cat us (k + 1) = A ++ B := by rw [cat, hA, hB]
  have hl : (cat us (k + 1)).length = A.length + B.length := by rw [hc, List.length_append]
  refine ⟨k + 1, q, c, hk, by go_num, by rw [hl], by rw [hl, hc, List.map_append]; exact h1, hb.trans (below_grown h2 hb.size (fun g hg => (hv.lt g hg).1))⟩

set_option maxHeartbeats 3200000 in
theorem walk (a0 : Option Addr) (len0 cap0 : Nat) (z0 : List Int) (w : World) (w0 : IsRow .u64 w a0 len0 cap0 z0) :
    Calls Try.prog 6 #[.slice a0 len0 cap0] w fun e w' => e = .returned (.bool true) ∧ Below w.heap.size w w' := by
  obtain ⟨us, rfl, hr, b0, o0, hb0, hcell⟩ := nums_of w0
  clear w0
  have K := Lib.hid known_any
  have R := Lib.hid hr
  have C := Lib.hid (fun k (hk : k < us.length) W (h : Below w.heap.size w W) => (show a0 = some ⟨b0, o0, none⟩ ∧ b0 < w.heap.size ∧ W.cell? ⟨b0, o0 + k, none⟩ = some (.int .u64 (us.getD k 0)) from by
    have hne : us ≠ [] := by rintro rfl; simp at hk
    rw [if_neg hne] at hb0
    exact ⟨(hcell k hk).1, by omega, (h.cell (p := ⟨b0, o0 + k, none⟩) (by simp; omega)).trans (hcell k hk).2⟩))
  have L := Lib.hid (fun k (hk : k ≤ us.length) => (show (cat us k).length ≤ 10 * k from cat_len us hr k))
  clear hr hcell hb0
  by_cases h1 : 120 < us.length
  · go_enter Try.func6, Try.ntmps6
    go_wp2_with fail
    refine (K.out w).mono ?_
    rintro e w' ⟨rfl, hb⟩
    go_wp2
    go_ret
    exact ⟨rfl, hb⟩
  go_enter Try.func6, Try.ntmps6
  go_wp2_with fail
  go_loopw [3, 4] (fun v i wr => Rel1 w wr us v i) (fun _ i _ => 120 - (intOf i).toNat)
  case atStart => exact ⟨0, none, 0, Nat.zero_le _, rfl, rfl, World.ownsRow_nil _ _ _ _, Below.refl _ _⟩
  case round =>
    obtain ⟨k, q, c, hk, rfl, rfl, hown, hbel⟩ := hrel
    have hlk := L.out k hk
    by_cases hlt : k < us.length
    · obtain ⟨rfl, _, hc⟩ := C.out k hlt wr hbel
      have hu := R.out k
      have nx := fun w2 v v' w' => Rel1.next (w0 := w) (w2 := w2) (w' := w') (us := us) (v := v) (v' := v') hlt rfl rfl
      have l10 := item_10 k _ hu
      have HO := Lib.hid hown
      have HB := Lib.hid hbel
      by_cases hev : k % 2 = 0
      · have d1 : ((k : Int) % 2 == 0) = true := by simp; omega
        rw [item_even hev] at nx l10
        obtain ⟨n, hn⟩ := Int.eq_ofNat_of_zero_le hu.1
        rw [hn] at hc nx hu l10
        rw [show ((n : Int)).toNat = n by omega] at nx l10
        have PU := Lib.hid (putU_any n (by omega) wr)
        have NX := Lib.hid nx
        generalize cat us k = A at *
        generalize encU n = B at *
        clear hown hbel nx hn
        go_wp2_with fail
        refine PU.out.mono ?_
        rintro e w2 ⟨⟨q2, c2, rfl, o2⟩, b2⟩
        have hb2 := HB.out.trans (b2.mono HB.out.size)
        have O1 := Lib.hid (HO.out.kept (grown_below b2 none) (by simp [Value.ownBlock]; cases q <;> simp))
        have I2 := Lib.hid (IsBytes.of_own rfl o2)
        have B2 := Lib.hid hb2
        clear o2 b2 hb2
        go_wp2_with (at_builtin; refine wp_append_bytes rfl _ _ rfl rfl _ _ _ rfl O1.out B B.length rfl rfl I2.out ?_ ?_ ?_)
        · omega
        · exact B2.out.size
        · intro v' w3 e1 e2
          have RR := Lib.hid (NX.out w2 _ v' w3 O1.out B2.out e1 e2)
          clear e1 e2
          go_wp2
          go_roundw
          case rel => exact RR.out
          case measure => simp [intOf]; omega
      · have d1 : ((k : Int) % 2 == 0) = false := by rw [beq_eq_false_iff_ne]; omega
        rw [item_odd hev] at nx l10
        have hw := w64_range (us.getD k 0)
        have PS := Lib.hid (putS_any (wrap64 (us.getD k 0)) hw wr)
        have NX := Lib.hid nx
        generalize us.getD k 0 = u at *
        generalize cat us k = A at *
        generalize encS (wrap64 u) = B at *
        clear hown hbel nx
        go_wp2_with fail
        refine PS.out.mono ?_
        rintro e w2 ⟨⟨q2, c2, rfl, o2⟩, b2⟩
        have hb2 := HB.out.trans (b2.mono HB.out.size)
        have O1 := Lib.hid (HO.out.kept (grown_below b2 none) (by simp [Value.ownBlock]; cases q <;> simp))
        have I2 := Lib.hid (IsBytes.of_own rfl o2)
        have B2 := Lib.hid hb2
        clear o2 b2 hb2
        go_wp2_with (at_builtin; refine wp_append_bytes rfl _ _ rfl rfl _ _ _ rfl O1.out B B.length rfl rfl I2.out ?_ ?_ ?_)
        · omega
        · exact B2.out.size
        · intro v' w3 e1 e2
          have RR := Lib.hid (NX.out w2 _ v' w3 O1.out B2.out e1 e2)
          clear e1 e2
          go_wp2
          go_roundw
          case rel => exact RR.out
          case measure => simp [intOf]; omega
    · obtain rfl : k = us.length := by omega
      rename World => y0
      have T10 := L.out us.length (Nat.le_refl _)
      have hb := cat_bytes us us.length
      have HBY := Lib.hid (IsBytes.of_own rfl hown)
      have NW := Lib.hid (pen_new HBY.out rfl (by omega) hb false)
      have HCP := Lib.hid (fun h : 0 < (cat us us.length).length => own_some hown h)
      have HB := Lib.hid hbel
      have BY := Lib.hid hb
      clear hown hbel hlk hb hk hlt
      have at2 := fun k (hk : k < us.length) => cat_at us hk
      have le2 := fun k (hk : k ≤ us.length) => cat_le us hk
      have A2 := Lib.hid at2
      have LE2 := Lib.hid le2
      have CL := Lib.hid (fun k => cut_last us k)
      have CA := Lib.hid (fun k (hk : k + 1 < us.length) => cut_at us hk)
      have NE := Lib.hid (fun (h : us.length ≠ 0) => (show (cat us us.length).length ≠ 0 from by
        obtain ⟨r, e⟩ := cat_at us (k := 0) (n := us.length) (by omega)
        intro h0
        have h3 := congrArg List.length e
        have := item_ne 0 (us.getD 0 0)
        simp only [List.length_drop, List.length_append] at h3
        omega))
      clear at2 le2
      go_wp2_with fail
      refine NW.out.mono ?_
      rintro e x1 ⟨ac, rfl, pc, bc⟩
      have hx1 := bc.size
      have R0 : ∃ k : Nat, k ≤ us.length ∧ (Value.int .i64 0) = .int .i64 k ∧ Pen x1 y0.heap.size x1.heap.size ac (cat us us.length) (cat us k).length false false ∧ Below y0.heap.size y0 x1 := ⟨0, Nat.zero_le _, rfl, pc, bc⟩
      clear pc bc
      go_wp2_with fail
      go_loopw [6] (fun i W => ∃ k : Nat, k ≤ us.length ∧ i = .int .i64 k ∧ Pen W y0.heap.size x1.heap.size ac (cat us us.length) (cat us k).length false false ∧ Below y0.heap.size y0 W) (fun i _ => 120 - (intOf i).toNat)
      case atStart => exact R0
      case round =>
        obtain ⟨k, hk, rfl, pk, bk⟩ := hrel
        by_cases hlt : k < us.length
        · obtain ⟨rfl, hb0, hc⟩ := C.out k hlt wr (HB.out.trans (bk.mono HB.out.size))
          have hu := R.out k
          obtain ⟨r, hdr⟩ := A2.out k hlt
          have hcat : (cat us (k + 1)).length = (cat us k).length + (item k (us.getD k 0)).length := by rw [cat, List.length_append]
          have hne := item_ne k (us.getD k 0)
          have s0 : wr.drew.cell? ⟨b0, o0 + k, none⟩ = some (.int .u64 (us.getD k 0)) := hc
          have p0 : Pen wr.drew y0.heap.size x1.heap.size ac (cat us us.length) (cat us k).length false false := pk.drewN 1
          have k1 : (k : Int) < (us.length : Int) := by omega
          have k0 : (0 : Int) ≤ (k : Int) := by omega
          have hy := HB.out.size
          by_cases hev : k % 2 = 0
          · have d1 : ((k : Int) % 2 == 0) = true := by simp; omega
            have d2 : ((k : Int) % 2 == 1) = false := by rw [beq_eq_false_iff_ne]; omega
            have d3 : ((k : Int).tmod 2 == 0) = true := by rw [Int.tmod_eq_emod_of_nonneg k0]; exact d1
            have d4 : ((k : Int).tmod 2 == 1) = false := by rw [Int.tmod_eq_emod_of_nonneg k0]; exact d2
            have hv := at_even (r := r) hev hu
            rw [← hdr] at hv
            have UV := Lib.hid hv
            have HCAT := Lib.hid hcat
            have HNE := Lib.hid hne
            have PP := Lib.hid p0
            have BK := Lib.hid bk
            clear hv hdr hcat hne pk bk hc p0
            generalize us.getD k 0 = u at *
            go_wp2_with fail
            refine wp_region_held_drew (S := fun W => W.cell? ⟨b0, o0 + k, none⟩ = some (.int .u64 u)) (by kernel_rfl) s0 (fun hS => ?_)
            refine wpAnyH_take (i := 0) (oi := ⟨some 45, _, _, _, _, _⟩) (v := .int .i64 k) rfl (by kernel_rfl) (by kernel_rfl) (by kernel_rfl) (fun _ _ _ h => h) (Or.inl ⟨by rfl, fun W hW => ?_⟩) hS ?_
            · go_simp
            try simp only [Act.put, List.setIfInBounds_toArray, List.set_cons_zero, List.set_cons_succ]
            refine wpAnyH_take (i := 1) (oi := ⟨some 46, _, _, _, _, _⟩) (v := .int .i64 ((k : Int).tmod 2)) rfl (by kernel_rfl) (by kernel_rfl) (by kernel_rfl) (fun _ _ _ h => h) (Or.inl ⟨by rfl, fun W hW => ?_⟩) hS ?_
            · go_simp
            try simp only [Act.put, List.setIfInBounds_toArray, List.set_cons_zero, List.set_cons_succ]
            refine wpAnyH_take (i := 2) (oi := ⟨some 47, _, _, _, _, _⟩) (v := .bool true) rfl (by kernel_rfl) (by kernel_rfl) (by kernel_rfl) (fun _ _ _ h => h) (Or.inl ⟨by rfl, fun W hW => ?_⟩) hS ?_
            · go_simp
            try simp only [Act.put, List.setIfInBounds_toArray, List.set_cons_zero, List.set_cons_succ]
            refine wpAnyH_take (i := 3) (oi := ⟨some 48, _, _, _, _, _⟩) (v := .bool true) rfl (by kernel_rfl) (by kernel_rfl) (by kernel_rfl) (fun _ _ _ h => h) (Or.inl ⟨by rfl, fun W hW => ?_⟩) hS ?_
            · go_simp
            try simp only [Act.put, List.setIfInBounds_toArray, List.set_cons_zero, List.set_cons_succ]
            refine wpAnyH_take (i := 4) (oi := ⟨some 49, _, _, _, _, _⟩) (v := .pointer (some ⟨ac, 0, none⟩)) rfl (by kernel_rfl) (by kernel_rfl) (by kernel_rfl) (fun _ _ _ h => h) (Or.inl ⟨by rfl, fun W hW => ?_⟩) hS ?_
            · go_simp
            try simp only [Act.put, List.setIfInBounds_toArray, List.set_cons_zero, List.set_cons_succ]
            refine wpAnyH_take (i := 6) (oi := ⟨some 51, _, _, _, _, _⟩) (v := .slice (some ⟨b0, o0, none⟩) us.length cap0) rfl (by kernel_rfl) (by kernel_rfl) (by kernel_rfl) (fun _ _ _ h => h) (Or.inl ⟨by rfl, fun W hW => ?_⟩) hS ?_
            · go_simp
            try simp only [Act.put, List.setIfInBounds_toArray, List.set_cons_zero, List.set_cons_succ]
            refine wpAnyH_take (i := 7) (oi := ⟨some 52, _, _, _, _, _⟩) (v := .int .i64 k) rfl (by kernel_rfl) (by kernel_rfl) (by kernel_rfl) (fun _ _ _ h => h) (Or.inl ⟨by rfl, fun W hW => ?_⟩) hS ?_
            · go_simp
            try simp only [Act.put, List.setIfInBounds_toArray, List.set_cons_zero, List.set_cons_succ]
            refine wpAnyH_take (i := 8) (oi := ⟨some 53, _, _, _, _, _⟩) (v := .pointer (some ⟨b0, o0 + k, none⟩)) rfl (by kernel_rfl) (by kernel_rfl) (by kernel_rfl) (fun _ _ _ h => h) (Or.inl ⟨by rfl, fun W hW => ?_⟩) hS ?_
            · go_simp
            try simp only [Act.put, List.setIfInBounds_toArray, List.set_cons_zero, List.set_cons_succ]
            refine wpAnyH_take (i := 9) (oi := ⟨some 54, _, _, _, _, _⟩) (v := .int .u64 u) rfl (by kernel_rfl) (by kernel_rfl) (by kernel_rfl) (fun _ _ _ h => h) (Or.inl ⟨by rfl, fun W hW => ?_⟩) hS ?_
            · go_simp
            try simp only [Act.put, List.setIfInBounds_toArray, List.set_cons_zero, List.set_cons_succ]
            refine wpAnyH_ready (rs := [5]) (by kernel_rfl) (by simp) ?_
            refine AllReadyH.cons (o := ⟨some 50, _, _, _, _, _⟩) rfl (fun K hK => ?_) AllReadyH.nil
            go_simp
            go_at_call 14
            refine (pen_uleb PP.out UV.out).mono ?_
            rintro e w3 ⟨rfl, p3, g3⟩
            have s1 : w3.cell? ⟨b0, o0 + k, none⟩ = some (.int .u64 u) := g3.cell s0 (fun e => by injection e with e; have := PP.out.lw; simp at e; omega)
            refine hK.out _ _ s1 (fun hS1 => ?_)
            clear hK K
            try simp only [Act.put, List.setIfInBounds_toArray, List.set_cons_zero, List.set_cons_succ]
            refine wpAnyH_take (i := 10) (oi := ⟨some 55, _, _, _, _, _⟩) (v := .bool false) rfl (by kernel_rfl) (by kernel_rfl) (by kernel_rfl) (fun _ _ _ h => h) (Or.inl ⟨by rfl, fun W hW => ?_⟩) hS1 ?_
            · go_simp
            try simp only [Act.put, List.setIfInBounds_toArray, List.set_cons_zero, List.set_cons_succ]
            refine wpAnyH_take (i := 11) (oi := ⟨some 56, _, _, _, _, _⟩) (v := .bool false) rfl (by kernel_rfl) (by kernel_rfl) (by kernel_rfl) (fun _ _ _ h => h) (Or.inl ⟨by rfl, fun W hW => ?_⟩) hS1 ?_
            · go_simp
            try simp only [Act.put, List.setIfInBounds_toArray, List.set_cons_zero, List.set_cons_succ]
            refine wpAnyH_take (i := 12) (oi := ⟨some 57, _, _, _, _, _⟩) (v := .bool false) rfl (by kernel_rfl) (by kernel_rfl) (by kernel_rfl) (fun _ _ _ h => h) (Or.inl ⟨by rfl, fun W hW => ?_⟩) hS1 ?_
            · go_simp
            try simp only [Act.put, List.setIfInBounds_toArray, List.set_cons_zero, List.set_cons_succ]
            refine wpAnyH_take (i := 13) (oi := ⟨some 58, _, _, _, _, _⟩) (v := .int .i64 k) rfl (by kernel_rfl) (by kernel_rfl) (by kernel_rfl) (fun _ _ _ h => h) (Or.inl ⟨by rfl, fun W hW => ?_⟩) hS1 ?_
            · go_simp
            try simp only [Act.put, List.setIfInBounds_toArray, List.set_cons_zero, List.set_cons_succ]
            refine wpAnyH_take (i := 14) (oi := ⟨some 59, _, _, _, _, _⟩) (v := .int .i64 ((k : Int).tmod 2)) rfl (by kernel_rfl) (by kernel_rfl) (by kernel_rfl) (fun _ _ _ h => h) (Or.inl ⟨by rfl, fun W hW => ?_⟩) hS1 ?_
            · go_simp
            try simp only [Act.put, List.setIfInBounds_toArray, List.set_cons_zero, List.set_cons_succ]
            refine wpAnyH_take (i := 15) (oi := ⟨some 60, _, _, _, _, _⟩) (v := .bool false) rfl (by kernel_rfl) (by kernel_rfl) (by kernel_rfl) (fun _ _ _ h => h) (Or.inl ⟨by rfl, fun W hW => ?_⟩) hS1 ?_
            · go_simp
            try simp only [Act.put, List.setIfInBounds_toArray, List.set_cons_zero, List.set_cons_succ]
            refine wpAnyH_take (i := 16) (oi := ⟨some 61, _, _, _, _, _⟩) (v := .bool false) rfl (by kernel_rfl) (by kernel_rfl) (by kernel_rfl) (fun _ _ _ h => h) (Or.inl ⟨by rfl, fun W hW => ?_⟩) hS1 ?_
            · go_simp
            try simp only [Act.put, List.setIfInBounds_toArray, List.set_cons_zero, List.set_cons_succ]
            refine wpAnyH_take (i := 17) (oi := ⟨some 62, _, _, _, _, _⟩) (v := undef) rfl (by kernel_rfl) (by kernel_rfl) (by kernel_rfl) (fun _ _ _ h => h) (Or.inr ⟨by rfl, rfl⟩) hS1 ?_
            try simp only [Act.put, List.setIfInBounds_toArray, List.set_cons_zero, List.set_cons_succ]
            refine wpAnyH_take (i := 18) (oi := ⟨some 63, _, _, _, _, _⟩) (v := undef) rfl (by kernel_rfl) (by kernel_rfl) (by kernel_rfl) (fun _ _ _ h => h) (Or.inr ⟨by rfl, rfl⟩) hS1 ?_
            try simp only [Act.put, List.setIfInBounds_toArray, List.set_cons_zero, List.set_cons_succ]
            refine wpAnyH_take (i := 19) (oi := ⟨some 64, _, _, _, _, _⟩) (v := undef) rfl (by kernel_rfl) (by kernel_rfl) (by kernel_rfl) (fun _ _ _ h => h) (Or.inr ⟨by rfl, rfl⟩) hS1 ?_
            try simp only [Act.put, List.setIfInBounds_toArray, List.set_cons_zero, List.set_cons_succ]
            refine wpAnyH_take (i := 20) (oi := ⟨some 65, _, _, _, _, _⟩) (v := undef) rfl (by kernel_rfl) (by kernel_rfl) (by kernel_rfl) (fun _ _ _ h => h) (Or.inr ⟨by rfl, rfl⟩) hS1 ?_
            try simp only [Act.put, List.setIfInBounds_toArray, List.set_cons_zero, List.set_cons_succ]
            refine wpAnyH_take (i := 21) (oi := ⟨some 66, _, _, _, _, _⟩) (v := undef) rfl (by kernel_rfl) (by kernel_rfl) (by kernel_rfl) (fun _ _ _ h => h) (Or.inr ⟨by rfl, rfl⟩) hS1 ?_
            try simp only [Act.put, List.setIfInBounds_toArray, List.set_cons_zero, List.set_cons_succ]
            refine wpAnyH_take (i := 22) (oi := ⟨some 67, _, _, _, _, _⟩) (v := undef) rfl (by kernel_rfl) (by kernel_rfl) (by kernel_rfl) (fun _ _ _ h => h) (Or.inr ⟨by rfl, rfl⟩) hS1 ?_
            try simp only [Act.put, List.setIfInBounds_toArray, List.set_cons_zero, List.set_cons_succ]
            refine wpAnyH_take (i := 23) (oi := ⟨some 68, _, _, _, _, _⟩) (v := undef) rfl (by kernel_rfl) (by kernel_rfl) (by kernel_rfl) (fun _ _ _ h => h) (Or.inr ⟨by rfl, rfl⟩) hS1 ?_
            try simp only [Act.put, List.setIfInBounds_toArray, List.set_cons_zero, List.set_cons_succ]
            refine wpAnyH_take (i := 24) (oi := ⟨some 69, _, _, _, _, _⟩) (v := undef) rfl (by kernel_rfl) (by kernel_rfl) (by kernel_rfl) (fun _ _ _ h => h) (Or.inr ⟨by rfl, rfl⟩) hS1 ?_
            try simp only [Act.put, List.setIfInBounds_toArray, List.set_cons_zero, List.set_cons_succ]
            refine wpAnyH_take (i := 25) (oi := ⟨some 70, _, _, _, _, _⟩) (v := .bool false) rfl (by kernel_rfl) (by kernel_rfl) (by kernel_rfl) (fun _ _ _ h => h) (Or.inl ⟨by rfl, fun W hW => ?_⟩) hS1 ?_
            · go_simp
            try simp only [Act.put, List.setIfInBounds_toArray, List.set_cons_zero, List.set_cons_succ]
            refine wpAnyH_take (i := 26) (oi := ⟨some 71, _, _, _, _, _⟩) (v := .bool false) rfl (by kernel_rfl) (by kernel_rfl) (by kernel_rfl) (fun _ _ _ h => h) (Or.inl ⟨by rfl, fun W hW => ?_⟩) hS1 ?_
            · go_simp
            try simp only [Act.put, List.setIfInBounds_toArray, List.set_cons_zero, List.set_cons_succ]
            refine wpAnyH_done (by kernel_rfl) ?_ _
            have R2 : Pen w3 y0.heap.size x1.heap.size ac (cat us us.length) (cat us (k + 1)).length false false ∧ Below y0.heap.size y0 w3 := by
              rw [HCAT.out]
              rw [decide_eq_false (show ¬ (item k u).length = 0 by have := HNE.out; omega)] at p3
              exact ⟨p3, BK.out.trans ((Below.refl _ _).drew.trans (PP.out.frame (Nat.le_refl _) g3))⟩
            have RR := Lib.hid R2
            clear R2 p3 g3
            go_wp2
            go_roundw
            case rel => exact ⟨k + 1, by omega, by go_num, RR.out.1, RR.out.2⟩
            case measure => simp [intOf]; omega
          · have d1 : ((k : Int) % 2 == 0) = false := by rw [beq_eq_false_iff_ne]; omega
            have d2 : ((k : Int) % 2 == 1) = true := by simp; omega
            have d3 : ((k : Int).tmod 2 == 0) = false := by rw [Int.tmod_eq_emod_of_nonneg k0]; exact d1
            have d4 : ((k : Int).tmod 2 == 1) = true := by rw [Int.tmod_eq_emod_of_nonneg k0]; exact d2
            have hv := at_odd (r := r) (u := us.getD k 0) hev
            rw [← hdr] at hv
            have UV := Lib.hid hv
            have HCAT := Lib.hid hcat
            have HNE := Lib.hid hne
            have PP := Lib.hid p0
            have BK := Lib.hid bk
            clear hv hdr hcat hne pk bk hc p0
            generalize us.getD k 0 = u at *
            go_wp2_with fail
            refine wp_region_held_drew (S := fun W => W.cell? ⟨b0, o0 + k, none⟩ = some (.int .u64 u)) (by kernel_rfl) s0 (fun hS => ?_)
            refine wpAnyH_take (i := 0) (oi := ⟨some 45, _, _, _, _, _⟩) (v := .int .i64 k) rfl (by kernel_rfl) (by kernel_rfl) (by kernel_rfl) (fun _ _ _ h => h) (Or.inl ⟨by rfl, fun W hW => ?_⟩) hS ?_
            · go_simp
            try simp only [Act.put, List.setIfInBounds_toArray, List.set_cons_zero, List.set_cons_succ]
            refine wpAnyH_take (i := 1) (oi := ⟨some 46, _, _, _, _, _⟩) (v := .int .i64 ((k : Int).tmod 2)) rfl (by kernel_rfl) (by kernel_rfl) (by kernel_rfl) (fun _ _ _ h => h) (Or.inl ⟨by rfl, fun W hW => ?_⟩) hS ?_
            · go_simp
            try simp only [Act.put, List.setIfInBounds_toArray, List.set_cons_zero, List.set_cons_succ]
            refine wpAnyH_take (i := 2) (oi := ⟨some 47, _, _, _, _, _⟩) (v := .bool false) rfl (by kernel_rfl) (by kernel_rfl) (by kernel_rfl) (fun _ _ _ h => h) (Or.inl ⟨by rfl, fun W hW => ?_⟩) hS ?_
            · go_simp
            try simp only [Act.put, List.setIfInBounds_toArray, List.set_cons_zero, List.set_cons_succ]
            refine wpAnyH_take (i := 3) (oi := ⟨some 48, _, _, _, _, _⟩) (v := .bool false) rfl (by kernel_rfl) (by kernel_rfl) (by kernel_rfl) (fun _ _ _ h => h) (Or.inl ⟨by rfl, fun W hW => ?_⟩) hS ?_
            · go_simp
            try simp only [Act.put, List.setIfInBounds_toArray, List.set_cons_zero, List.set_cons_succ]
            refine wpAnyH_take (i := 4) (oi := ⟨some 49, _, _, _, _, _⟩) (v := undef) rfl (by kernel_rfl) (by kernel_rfl) (by kernel_rfl) (fun _ _ _ h => h) (Or.inr ⟨by rfl, rfl⟩) hS ?_
            try simp only [Act.put, List.setIfInBounds_toArray, List.set_cons_zero, List.set_cons_succ]
            refine wpAnyH_take (i := 5) (oi := ⟨some 50, _, _, _, _, _⟩) (v := undef) rfl (by kernel_rfl) (by kernel_rfl) (by kernel_rfl) (fun _ _ _ h => h) (Or.inr ⟨by rfl, rfl⟩) hS ?_
            try simp only [Act.put, List.setIfInBounds_toArray, List.set_cons_zero, List.set_cons_succ]
            refine wpAnyH_take (i := 6) (oi := ⟨some 51, _, _, _, _, _⟩) (v := undef) rfl (by kernel_rfl) (by kernel_rfl) (by kernel_rfl) (fun _ _ _ h => h) (Or.inr ⟨by rfl, rfl⟩) hS ?_
            try simp only [Act.put, List.setIfInBounds_toArray, List.set_cons_zero, List.set_cons_succ]
            refine wpAnyH_take (i := 7) (oi := ⟨some 52, _, _, _, _, _⟩) (v := undef) rfl (by kernel_rfl) (by kernel_rfl) (by kernel_rfl) (fun _ _ _ h => h) (Or.inr ⟨by rfl, rfl⟩) hS ?_
            try simp only [Act.put, List.setIfInBounds_toArray, List.set_cons_zero, List.set_cons_succ]
            refine wpAnyH_take (i := 8) (oi := ⟨some 53, _, _, _, _, _⟩) (v := undef) rfl (by kernel_rfl) (by kernel_rfl) (by kernel_rfl) (fun _ _ _ h => h) (Or.inr ⟨by rfl, rfl⟩) hS ?_
            try simp only [Act.put, List.setIfInBounds_toArray, List.set_cons_zero, List.set_cons_succ]
            refine wpAnyH_take (i := 9) (oi := ⟨some 54, _, _, _, _, _⟩) (v := undef) rfl (by kernel_rfl) (by kernel_rfl) (by kernel_rfl) (fun _ _ _ h => h) (Or.inr ⟨by rfl, rfl⟩) hS ?_
            try simp only [Act.put, List.setIfInBounds_toArray, List.set_cons_zero, List.set_cons_succ]
            refine wpAnyH_take (i := 10) (oi := ⟨some 55, _, _, _, _, _⟩) (v := undef) rfl (by kernel_rfl) (by kernel_rfl) (by kernel_rfl) (fun _ _ _ h => h) (Or.inr ⟨by rfl, rfl⟩) hS ?_
            try simp only [Act.put, List.setIfInBounds_toArray, List.set_cons_zero, List.set_cons_succ]
            refine wpAnyH_take (i := 11) (oi := ⟨some 56, _, _, _, _, _⟩) (v := .bool false) rfl (by kernel_rfl) (by kernel_rfl) (by kernel_rfl) (fun _ _ _ h => h) (Or.inl ⟨by rfl, fun W hW => ?_⟩) hS ?_
            · go_simp
            try simp only [Act.put, List.setIfInBounds_toArray, List.set_cons_zero, List.set_cons_succ]
            refine wpAnyH_take (i := 12) (oi := ⟨some 57, _, _, _, _, _⟩) (v := .bool false) rfl (by kernel_rfl) (by kernel_rfl) (by kernel_rfl) (fun _ _ _ h => h) (Or.inl ⟨by rfl, fun W hW => ?_⟩) hS ?_
            · go_simp
            try simp only [Act.put, List.setIfInBounds_toArray, List.set_cons_zero, List.set_cons_succ]
            refine wpAnyH_take (i := 13) (oi := ⟨some 58, _, _, _, _, _⟩) (v := .int .i64 k) rfl (by kernel_rfl) (by kernel_rfl) (by kernel_rfl) (fun _ _ _ h => h) (Or.inl ⟨by rfl, fun W hW => ?_⟩) hS ?_
            · go_simp
            try simp only [Act.put, List.setIfInBounds_toArray, List.set_cons_zero, List.set_cons_succ]
            refine wpAnyH_take (i := 14) (oi := ⟨some 59, _, _, _, _, _⟩) (v := .int .i64 ((k : Int).tmod 2)) rfl (by kernel_rfl) (by kernel_rfl) (by kernel_rfl) (fun _ _ _ h => h) (Or.inl ⟨by rfl, fun W hW => ?_⟩) hS ?_
            · go_simp
            try simp only [Act.put, List.setIfInBounds_toArray, List.set_cons_zero, List.set_cons_succ]
            refine wpAnyH_take (i := 15) (oi := ⟨some 60, _, _, _, _, _⟩) (v := .bool true) rfl (by kernel_rfl) (by kernel_rfl) (by kernel_rfl) (fun _ _ _ h => h) (Or.inl ⟨by rfl, fun W hW => ?_⟩) hS ?_
            · go_simp
            try simp only [Act.put, List.setIfInBounds_toArray, List.set_cons_zero, List.set_cons_succ]
            refine wpAnyH_take (i := 16) (oi := ⟨some 61, _, _, _, _, _⟩) (v := .bool true) rfl (by kernel_rfl) (by kernel_rfl) (by kernel_rfl) (fun _ _ _ h => h) (Or.inl ⟨by rfl, fun W hW => ?_⟩) hS ?_
            · go_simp
            try simp only [Act.put, List.setIfInBounds_toArray, List.set_cons_zero, List.set_cons_succ]
            refine wpAnyH_take (i := 17) (oi := ⟨some 62, _, _, _, _, _⟩) (v := .pointer (some ⟨ac, 0, none⟩)) rfl (by kernel_rfl) (by kernel_rfl) (by kernel_rfl) (fun _ _ _ h => h) (Or.inl ⟨by rfl, fun W hW => ?_⟩) hS ?_
            · go_simp
            try simp only [Act.put, List.setIfInBounds_toArray, List.set_cons_zero, List.set_cons_succ]
            refine wpAnyH_take (i := 19) (oi := ⟨some 64, _, _, _, _, _⟩) (v := .slice (some ⟨b0, o0, none⟩) us.length cap0) rfl (by kernel_rfl) (by kernel_rfl) (by kernel_rfl) (fun _ _ _ h => h) (Or.inl ⟨by rfl, fun W hW => ?_⟩) hS ?_
            · go_simp
            try simp only [Act.put, List.setIfInBounds_toArray, List.set_cons_zero, List.set_cons_succ]
            refine wpAnyH_take (i := 20) (oi := ⟨some 65, _, _, _, _, _⟩) (v := .int .i64 k) rfl (by kernel_rfl) (by kernel_rfl) (by kernel_rfl) (fun _ _ _ h => h) (Or.inl ⟨by rfl, fun W hW => ?_⟩) hS ?_
            · go_simp
            try simp only [Act.put, List.setIfInBounds_toArray, List.set_cons_zero, List.set_cons_succ]
            refine wpAnyH_take (i := 21) (oi := ⟨some 66, _, _, _, _, _⟩) (v := .pointer (some ⟨b0, o0 + k, none⟩)) rfl (by kernel_rfl) (by kernel_rfl) (by kernel_rfl) (fun _ _ _ h => h) (Or.inl ⟨by rfl, fun W hW => ?_⟩) hS ?_
            · go_simp
            try simp only [Act.put, List.setIfInBounds_toArray, List.set_cons_zero, List.set_cons_succ]
            refine wpAnyH_take (i := 22) (oi := ⟨some 67, _, _, _, _, _⟩) (v := .int .u64 u) rfl (by kernel_rfl) (by kernel_rfl) (by kernel_rfl) (fun _ _ _ h => h) (Or.inl ⟨by rfl, fun W hW => ?_⟩) hS ?_
            · go_simp
            try simp only [Act.put, List.setIfInBounds_toArray, List.set_cons_zero, List.set_cons_succ]
            refine wpAnyH_take (i := 23) (oi := ⟨some 68, _, _, _, _, _⟩) (v := .int .i64 (wrap64 u)) rfl (by kernel_rfl) (by kernel_rfl) (by kernel_rfl) (fun _ _ _ h => h) (Or.inl ⟨by rfl, fun W hW => ?_⟩) hS ?_
            · go_simp; unfold wrap64; exact IntKind.wrap_i64 _
            try simp only [Act.put, List.setIfInBounds_toArray, List.set_cons_zero, List.set_cons_succ]
            refine wpAnyH_ready (rs := [18]) (by kernel_rfl) (by simp) ?_
            refine AllReadyH.cons (o := ⟨some 63, _, _, _, _, _⟩) rfl (fun K hK => ?_) AllReadyH.nil
            go_simp
            go_at_call 17
            refine (pen_sleb PP.out UV.out).mono ?_
            rintro e w3 ⟨rfl, p3, g3⟩
            have s1 : w3.cell? ⟨b0, o0 + k, none⟩ = some (.int .u64 u) := g3.cell s0 (fun e => by injection e with e; have := PP.out.lw; simp at e; omega)
            refine hK.out _ _ s1 (fun hS1 => ?_)
            clear hK K
            try simp only [Act.put, List.setIfInBounds_toArray, List.set_cons_zero, List.set_cons_succ]
            refine wpAnyH_take (i := 24) (oi := ⟨some 69, _, _, _, _, _⟩) (v := .bool false) rfl (by kernel_rfl) (by kernel_rfl) (by kernel_rfl) (fun _ _ _ h => h) (Or.inl ⟨by rfl, fun W hW => ?_⟩) hS1 ?_
            · go_simp
            try simp only [Act.put, List.setIfInBounds_toArray, List.set_cons_zero, List.set_cons_succ]
            refine wpAnyH_take (i := 25) (oi := ⟨some 70, _, _, _, _, _⟩) (v := .bool false) rfl (by kernel_rfl) (by kernel_rfl) (by kernel_rfl) (fun _ _ _ h => h) (Or.inl ⟨by rfl, fun W hW => ?_⟩) hS1 ?_
            · go_simp
            try simp only [Act.put, List.setIfInBounds_toArray, List.set_cons_zero, List.set_cons_succ]
            refine wpAnyH_take (i := 26) (oi := ⟨some 71, _, _, _, _, _⟩) (v := .bool false) rfl (by kernel_rfl) (by kernel_rfl) (by kernel_rfl) (fun _ _ _ h => h) (Or.inl ⟨by rfl, fun W hW => ?_⟩) hS1 ?_
            · go_simp
            try simp only [Act.put, List.setIfInBounds_toArray, List.set_cons_zero, List.set_cons_succ]
            refine wpAnyH_done (by kernel_rfl) ?_ _
            have R2 : Pen w3 y0.heap.size x1.heap.size ac (cat us us.length) (cat us (k + 1)).length false false ∧ Below y0.heap.size y0 w3 := by
              rw [HCAT.out]
              rw [decide_eq_false (show ¬ (item k u).length = 0 by have := HNE.out; omega)] at p3
              exact ⟨p3, BK.out.trans ((Below.refl _ _).drew.trans (PP.out.frame (Nat.le_refl _) g3))⟩
            have RR := Lib.hid R2
            clear R2 p3 g3
            go_wp2
            go_roundw
            case rel => exact ⟨k + 1, by omega, by go_num, RR.out.1, RR.out.2⟩
            case measure => simp [intOf]; omega
        · obtain rfl : k = us.length := by omega
          rename World => y1
          have hle := LE2.out us.length (Nat.le_refl _)
          go_wp2_with fail
          refine (pen_left (n := 0) pk (by omega)).mono ?_
          rintro e y2 ⟨rfl, p2, g2⟩
          have BK2 := Lib.hid (bk.trans (pk.frame0 (Nat.le_refl _) g2))
          clear pk bk g2
          go_wp2_with fail
          refine (pen_err0 p2 rfl).mono ?_
          rintro e w' ⟨rfl, rfl⟩
          have hy := HB.out.size
          by_cases ht : (cat us us.length).length = 0
          · have e0 : (((cat us us.length).length : Int) == 0) = true := by rw [beq_iff_eq]; omega
            go_wp2_with fail
            refine (K.out y2).mono ?_
            rintro e w' ⟨rfl, bb⟩
            have BB := HB.out.trans (BK2.out.mono hy)
            go_wp2
            go_ret
            exact ⟨rfl, BB.trans (bb.mono BB.size)⟩
          · have e0 : (((cat us us.length).length : Int) == 0) = false := by rw [beq_eq_false_iff_ne]; omega
            have hn0 : us.length ≠ 0 := fun e => ht (by rw [e]; rfl)
            obtain ⟨g, rfl, _, _, hcp⟩ := HCP.out (by omega)
            obtain ⟨m, hm⟩ : ∃ m, (cat us us.length).length = m + 1 := ⟨(cat us us.length).length - 1, by omega⟩
            have hdl : (cat us us.length).dropLast = (cat us us.length).take m := by rw [List.dropLast_eq_take, hm]; rfl
            have hlen : (cat us us.length).dropLast.length = m := by rw [List.length_dropLast, hm]; rfl
            have hib : IsBytes y2 (some ⟨g, 0, none⟩) c (cat us us.length).dropLast := by rw [hdl]; exact (HBY.out.below BK2.out).take m (fun e => by cases e)
            have hbd : ∀ x ∈ (cat us us.length).dropLast, 0 ≤ x ∧ x < 256 := fun x hx => BY.out x (List.mem_of_mem_take (by rw [hdl] at hx; exact hx))
            have ND := Lib.hid (pen_new hib hlen (by omega) hbd false)
            have i1 : (m : Int) ≤ (c : Int) := by omega
            have i2 : (0 : Int) ≤ (m : Int) := by omega
            have i3 : (m : Int) ≤ 1200 := by omega
            have P0 : (cat us 0).length = 0 := rfl
            have CLn := Lib.hid (show (cat us us.length).dropLast.drop (cat us (us.length - 1)).length = (item (us.length - 1) (us.getD (us.length - 1) 0)).dropLast from by
              have := CL.out (us.length - 1)
              rwa [show us.length - 1 + 1 = us.length by omega] at this)
            have LN := Lib.hid (fun k => (show (cat us (k + 1)).length = (cat us k).length + (item k (us.getD k 0)).length from by rw [cat, List.length_append]))
            clear hib hbd hdl hlen p2 ht hle NW T10 LE2 A2 NE HCP CL HBY
            rw [hm] at e0 ⊢
            generalize cat us us.length = TT at *
            generalize TT.dropLast = D at *
            go_wp2_with fail
            refine ND.out.mono ?_
            rintro e y3 ⟨ad, rfl, pd, bd⟩
            have hx3 := BK2.out.size
            have R3 : ∃ (k p : Nat) (bad : Bool), k ≤ us.length ∧ (Value.int .i64 0) = .int .i64 k ∧ Pen y3 y2.heap.size y3.heap.size ad D p false bad ∧ (k < us.length → p = (cat us k).length ∧ bad = false) ∧ (k = us.length → bad = true) ∧ Below y0.heap.size y0 y3 :=
              ⟨0, 0, false, Nat.zero_le _, rfl, pd, fun _ => ⟨rfl, rfl⟩, fun h => absurd h.symm hn0, BK2.out.trans (bd.mono hx3)⟩
            clear pd bd
            go_wp2_with fail
            go_loopw [8] (fun i W => ∃ (k p : Nat) (bad : Bool), k ≤ us.length ∧ i = .int .i64 k ∧ Pen W y2.heap.size y3.heap.size ad D p false bad ∧ (k < us.length → p = (cat us k).length ∧ bad = false) ∧ (k = us.length → bad = true) ∧ Below y0.heap.size y0 W) (fun i _ => 120 - (intOf i).toNat)
            case atStart => exact R3
            case round =>
              obtain ⟨k, p, bad, hk, rfl, pk, hok, hbad, bk⟩ := hrel
              by_cases hlt : k < us.length
              · obtain ⟨rfl, rfl⟩ := hok hlt
                have hne := item_ne k (us.getD k 0)
                have hln := LN.out k
                have hu := R.out k
                have hval : ∃ v m', (if k % 2 = 0 then ulebN (D.drop (cat us k).length) else slebN (D.drop (cat us k).length)) = (v, m') ∧ (k + 1 < us.length → (cat us k).length + m' = (cat us (k + 1)).length ∧ decide (m' = 0) = false) ∧ (k + 1 = us.length → decide (m' = 0) = true) := by
                  by_cases hk1 : k + 1 < us.length
                  · obtain ⟨r, hr⟩ := CA.out k hk1
                    rw [hr]
                    by_cases hev : k % 2 = 0
                    · rw [if_pos hev, at_even hev hu]
                      exact ⟨_, _, rfl, fun _ => ⟨hln.symm, decide_eq_false (by omega)⟩, fun h => by omega⟩
                    · rw [if_neg hev, at_odd hev]
                      exact ⟨_, _, rfl, fun _ => ⟨hln.symm, decide_eq_false (by omega)⟩, fun h => by omega⟩
                  · have hk2 : us.length - 1 = k := by omega
                    have hr := CLn.out
                    rw [hk2] at hr
                    rw [hr]
                    by_cases hev : k % 2 = 0
                    · rw [if_pos hev, cut_even hev]
                      exact ⟨_, _, rfl, fun h => by omega, fun _ => rfl⟩
                    · rw [if_neg hev, cut_odd hev]
                      exact ⟨_, _, rfl, fun h => by omega, fun _ => rfl⟩
                obtain ⟨v, m', hvm, hv1, hv2⟩ := hval
                have V1 := Lib.hid hv1
                have V2 := Lib.hid hv2
                have PK := Lib.hid pk
                have BK3 := Lib.hid bk
                clear hv1 hv2 hok hbad hln hne hu pk bk
                by_cases hev : k % 2 = 0
                · rw [if_pos hev] at hvm
                  have VM := Lib.hid hvm
                  have d1 : ((k : Int) % 2 == 0) = true := by simp; omega
                  clear hvm
                  go_wp2_with fail
                  refine (pen_uleb PK.out VM.out).mono ?_
                  rintro e y4 ⟨rfl, p4, g4⟩
                  have b4 := BK3.out.trans (PK.out.frame hx3 g4)
                  have RR := Lib.hid (And.intro p4 b4)
                  clear p4 b4 g4
                  go_wp2
                  go_roundw
                  case rel => exact ⟨k + 1, _, _, by omega, by go_num, RR.out.1, V1.out, V2.out, RR.out.2⟩
                  case measure => simp [intOf]; omega
                · rw [if_neg hev] at hvm
                  have VM := Lib.hid hvm
                  have d1 : ((k : Int) % 2 == 0) = false := by rw [beq_eq_false_iff_ne]; omega
                  clear hvm
                  go_wp2_with fail
                  refine (pen_sleb PK.out VM.out).mono ?_
                  rintro e y4 ⟨rfl, p4, g4⟩
                  have b4 := BK3.out.trans (PK.out.frame hx3 g4)
                  have RR := Lib.hid (And.intro p4 b4)
                  clear p4 b4 g4
                  go_wp2
                  go_roundw
                  case rel => exact ⟨k + 1, _, _, by omega, by go_num, RR.out.1, V1.out, V2.out, RR.out.2⟩
                  case measure => simp [intOf]; omega
              · obtain rfl : k = us.length := by omega
                have hb := hbad rfl
                go_wp2_with fail
                refine (pen_err3 pk hb).mono ?_
                rintro e w' ⟨rfl, rfl⟩
                go_wp2_with fail
                refine (K.out _).mono ?_
                rintro e y5 ⟨rfl, b5⟩
                have BB := HB.out.trans (bk.mono hy)
                go_wp2
                go_ret
                exact ⟨rfl, BB.trans (b5.mono BB.size)⟩
end Go.Proofs.Ytfdbmdkjmifpaaa.lebRows
