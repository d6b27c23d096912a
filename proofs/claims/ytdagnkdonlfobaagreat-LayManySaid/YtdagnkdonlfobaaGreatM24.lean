import Derived.Test.YtdagnkdonlfobaaGreatM23
import Derived.Test.YtdagnkdonlfobaaGreatM7
import Derived.Test.YtdagnkdonlfobaaGreatM12
import Derived.Deep.RegionLaw
import Derived.StillTailTactics
/- The document's spans of a command that has some. No condition but that it has at most 2^47 bytes. -/
namespace Go.Proofs.YtdagnkdonlfobaaGreat
open Go.RowKit
variable {w w' : World}

/-- Spans as cells of one block. -/
def SpanRow (w : World) (g : Nat) (l : List (Int × Int)) : Prop := ∀ i x, l[i]? = some x → w.cell? ⟨g, i * 2, none⟩ = some (.int .u64 x.1) ∧ w.cell? ⟨g, i * 2 + 1, none⟩ = some (.int .u64 x.2)
theorem SpanRow.of_own {lo n c g : Nat} {l : List (Int × Int)} (h : w.ownsRow lo 39 2 (.slice (some ⟨g, 0, none⟩) n c) n (l.flatMap spanCs)) : SpanRow w g l := fun i x hx => by
  obtain ⟨g1, e1, h1⟩ := row_cell spanCs_len h hx (show 0 < 2 by decide)
  obtain ⟨g2, e2, h2⟩ := row_cell spanCs_len h hx (show 1 < 2 by decide)
  injection e1 with e1; injection e1 with e1; subst e1
  injection e2 with e2; injection e2 with e2; subst e2
  exact ⟨h1, h2⟩
theorem SpanRow.grown {g : Nat} {l : List (Int × Int)} (h : SpanRow w g l) (hg : w.grownBy w' none) : SpanRow w' g l := fun i x hx => ⟨grown_cell hg (h i x hx).1, grown_cell hg (h i x hx).2⟩
theorem SpanRow.kept {g : Nat} {l : List (Int × Int)} {r : Option Nat} (h : SpanRow w g l) (hg : w.grownBy w' r) (hr : r ≠ some g) : SpanRow w' g l := fun i x hx => ⟨hg.cell (h i x hx).1 (fun e => hr e.symm), hg.cell (h i x hx).2 (fun e => hr e.symm)⟩

theorem refSpans_none (ys : List Int) {q : Option Addr} {c n : Nat} (h : IsBytes w q c ys) (hn : ys.length = n) (hc : n ≤ c) (hcm : c ≤ 9223372036854775807) (hr : Small ys) (hs : ¬ shortB ys) (he : cmdAt ys = 2147483688) :
    Calls Tryz.prog 105 #[.slice q n c] w fun e w' => e = .returned (.tuple #[.slice none 0 0, .int .i64 7]) ∧ w = w' := by
  have CD := Lib.hid (cmd5_any (w := w) ys h hn hc hcm hr hs)
  rw [he] at CD
  clear h hr hs he hn
  go_enter Tryz.func105, Tryz.ntmps105
  go_wp2_with fail
  refine CD.out.mono ?_
  rintro e w1 ⟨rfl, rfl⟩
  go_wp2
  go_ret2
  exact ⟨rfl, rfl⟩

def spanL (ys : List Int) (k : Nat) : List (Int × Int) := (List.range k).map (fun i => spanAt ys (8 + 8 * i) 1)
theorem spanL_succ (ys : List Int) (k : Nat) : spanL ys (k + 1) = spanL ys k ++ [spanAt ys (8 + 8 * k) 1] := by unfold spanL; rw [List.range_succ, List.map_append]; rfl

structure RefSp (w w' : World) (ys : List Int) (e : Ending) : Prop where
  out : ∃ g c, e = .returned (.tuple #[.slice (some ⟨g, 0, none⟩) (spansOf ys).length c, .int .i64 0]) ∧ w.heap.size ≤ g ∧ g < w'.heap.size ∧ SpanRow w' g (spansOf ys)
  grown : w.grownBy w' none
set_option maxHeartbeats 3200000 in
set_option maxRecDepth 20000 in
theorem refSpans_any (ys : List Int) {q : Option Addr} {c n : Nat} (h : IsBytes w q c ys) (hn : ys.length = n) (hc : n ≤ c) (hcm : c ≤ 9223372036854775807) (hr : Small ys) (hs : ¬ shortB ys) (he : isInfo (cmdAt ys) ∨ isLone (cmdAt ys) ∨ cmdAt ys = 2) :
    Calls Tryz.prog 105 #[.slice q n c] w fun e w' => RefSp w w' ys e := by
  have CD := Lib.hid (cmd5_any (w := w) ys h hn hc hcm hr hs)
  have AT := Lib.hid (fun (w1 : World) (hg : w.grownBy w1 none) (p : Nat) (hp : p + 4 ≤ n) => (by have := numat_any (w := w1) ys (h.kept hg (by simp)) hn hc hcm hr p 4 ⟨by decide, by decide⟩ hp; exact this : Calls Tryz.prog 103 #[.slice q n c, .int .i64 p, .int .i64 4] w1 fun e w' => e = .returned (.int .u64 (numAt ys p 4)) ∧ w1 = w'))
  have hlen : ¬ ((ys.length : Int) < leastN (cmdAt ys)) := fun h => hs (.inr h)
  have NB := Lib.hid (numAt_lt hr 12)
  rw [hn] at hlen
  clear h hr hs hn
  have key : ∀ M, (M = 5 ∧ isInfo (cmdAt ys)) ∨ (M = 1 ∧ isLone (cmdAt ys)) → spansOf ys = spanL ys M := fun M hM => by
    rcases hM with ⟨rfl, h⟩ | ⟨rfl, h⟩
    · unfold spansOf; rw [if_pos h]; rfl
    · unfold spansOf
      have : ¬ isInfo (cmdAt ys) := fun h2 => by rcases h with h | h <;> rcases h2 with h2 | h2 <;> rw [h] at h2 <;> cases h2
      rw [if_neg this, if_pos h]; rfl
  have KEY := Lib.hid key
  have K2 := Lib.hid (fun (h : cmdAt ys = 2) => (show spansOf ys = [((spanAt ys 8 1).1, (spanAt ys 8 1).2 * 16), spanAt ys 16 1] by
    unfold spansOf
    rw [if_neg (by rw [h]; unfold isInfo; decide), if_neg (by rw [h]; unfold isLone; decide), if_pos h]
    simp only [spanAt, Int.mul_one]))
  obtain ⟨cm, hcm'⟩ : ∃ z, z = cmdAt ys := ⟨_, rfl⟩
  have CE := Lib.hid hcm'
  rw [← hcm'] at CD he hlen
  clear key hcm'
  rcases he with (rfl | rfl) | (rfl | rfl) | rfl
  · have HM := Lib.hid (show 48 ≤ n by rw [show leastN 34 = 48 by decide] at hlen; omega)
    have SE := Lib.hid (KEY.out 5 (.inl ⟨rfl, by rw [← CE.out]; unfold isInfo; decide⟩))
    clear KEY K2 hlen CE
    go_enter Tryz.func105, Tryz.ntmps105
    go_wp2_with fail
    refine CD.out.mono ?_
    rintro e w1 ⟨rfl, rfl⟩
    clear CD
    go_wp2
    go_loopw [7, 8] (fun l i wr => ∃ (k : Nat) (q' : Option Addr) (c' : Nat), k ≤ 5 ∧ i = .int .i64 k ∧ l = .slice q' k c' ∧ wr.ownsRow w.heap.size 39 2 (.slice q' k c') k ((spanL ys k).flatMap spanCs) ∧ w.grownBy wr none) (fun _ i _ => 5 - (intOf i).toNat)
    case atStart => exact ⟨0, none, 0, by omega, rfl, rfl, World.ownsRow_nil _ _ _ _, grown_refl _ _⟩
    case round =>
      obtain ⟨k, q', c', hk, rfl, rfl, hown, hg⟩ := hrel
      have OW := Lib.hid hown
      have G := Lib.hid hg
      clear hown hg
      by_cases hlt : k < 5
      · obtain ⟨A, hA⟩ : ∃ A, A = 8 + 8 * k := ⟨_, rfl⟩
        obtain ⟨B, hB⟩ : ∃ B, B = 8 * k := ⟨_, rfl⟩
        obtain ⟨D, hD⟩ : ∃ D, D = 12 + 8 * k := ⟨_, rfl⟩
        have a1 : (8 : Int) * (k : Int) = (B : Int) := by omega
        have a2 : (8 : Int) + (B : Int) = (A : Int) := by omega
        have a3 : (12 : Int) + (B : Int) = (D : Int) := by omega
        have a4 : IntKind.i64.wrap (B : Int) = (B : Int) := IntWalk.i64_in _ (by omega)
        have a5 : IntKind.i64.wrap (A : Int) = (A : Int) := IntWalk.i64_in _ (by omega)
        have a6 : IntKind.i64.wrap (D : Int) = (D : Int) := IntWalk.i64_in _ (by omega)
        have hx : spanAt ys (8 + 8 * k) 1 = (numAt ys A 4, numAt ys D 4) := by unfold spanAt; rw [hA, hD, show 8 + 8 * k + 4 = 12 + 8 * k by omega, Int.mul_one]
        have N1 := Lib.hid (AT.out _ G.out A (by have := HM.out; omega))
        have N2 := Lib.hid (AT.out _ G.out D (by have := HM.out; omega))
        obtain ⟨x1, hx1⟩ : ∃ z, z = numAt ys A 4 := ⟨_, rfl⟩
        obtain ⟨x2, hx2⟩ : ∃ z, z = numAt ys D 4 := ⟨_, rfl⟩
        rw [← hx1] at N1 hx
        rw [← hx2] at N2 hx
        have HX := Lib.hid hx
        clear hA hB hD hx hx1 hx2
        go_wp2_with (first | (go_at_call 103; (first | with_reducible refine N1.out.mono ?_ | with_reducible refine N2.out.mono ?_); rintro e w3 ⟨rfl, rfl⟩) | (at_builtin; refine wp_append_st spanType rfl _ _ rfl _ k _ rfl (own_grown OW.out (grown1 wr (.cells #[.int .u64 x1, .int .u64 x2] 39))) (spanCs (x1, x2)) rfl wr.heap.size rfl (heap_alloc_new wr _) (spanCs_one _) (by omega) (by decide) ?_ ?_))
        · exact Nat.le_trans G.out.size (by rw [World.size_alloc]; exact Nat.le_succ _)
        intro v' w3 ho hg3
        obtain ⟨q3, c3, rfl⟩ := own_slice ho
        have R3 := Lib.hid (show w3.ownsRow w.heap.size 39 2 (.slice q3 (k + 1) c3) (k + 1) ((spanL ys (k + 1)).flatMap spanCs) by
          rw [spanL_succ, List.flatMap_append, HX.out]
          simpa using ho)
        have hlo := fun g (e : (Value.slice q' k c').ownBlock = some g) => (OW.out.lt g e).1
        have G4 := Lib.hid (grown_own (grown_trans G.out (grown1 wr (.cells #[.int .u64 x1, .int .u64 x2] 39))) hg3 hlo (Nat.le_refl _))
        clear ho hg3 N1 N2
        go_wp2
        refine ⟨⟨k + 1, q3, c3, by omega, by go_num, rfl, R3.out, G4.out⟩, by simp [intOf]; omega⟩
      · have hk2 : k = 5 := by omega
        subst hk2
        obtain ⟨g, hq⟩ : ∃ g, q' = some ⟨g, 0, none⟩ := by
          rcases OW.out.2 with ⟨e, e0⟩ | ⟨g, cap, cur, hv, _⟩
          · cases e0
          · injection hv with e1 _ _; exact ⟨g, e1⟩
        subst hq
        have SR := Lib.hid (SpanRow.of_own OW.out)
        have LO := Lib.hid ((OW.out.lt g rfl).1)
        have LT := Lib.hid ((OW.out.lt g rfl).2)
        go_wp2
        go_ret2
        exact ⟨⟨g, c', by rw [SE.out]; rfl, LO.out, LT.out, by rw [SE.out]; exact SR.out⟩, G.out⟩
  · have HM := Lib.hid (show 48 ≤ n by rw [show leastN 2147483682 = 48 by decide] at hlen; omega)
    have SE := Lib.hid (KEY.out 5 (.inl ⟨rfl, by rw [← CE.out]; unfold isInfo; decide⟩))
    clear KEY K2 hlen CE
    go_enter Tryz.func105, Tryz.ntmps105
    go_wp2_with fail
    refine CD.out.mono ?_
    rintro e w1 ⟨rfl, rfl⟩
    clear CD
    go_wp2
    go_loopw [7, 8] (fun l i wr => ∃ (k : Nat) (q' : Option Addr) (c' : Nat), k ≤ 5 ∧ i = .int .i64 k ∧ l = .slice q' k c' ∧ wr.ownsRow w.heap.size 39 2 (.slice q' k c') k ((spanL ys k).flatMap spanCs) ∧ w.grownBy wr none) (fun _ i _ => 5 - (intOf i).toNat)
    case atStart => exact ⟨0, none, 0, by omega, rfl, rfl, World.ownsRow_nil _ _ _ _, grown_refl _ _⟩
    case round =>
      obtain ⟨k, q', c', hk, rfl, rfl, hown, hg⟩ := hrel
      have OW := Lib.hid hown
      have G := Lib.hid hg
      clear hown hg
      by_cases hlt : k < 5
      · obtain ⟨A, hA⟩ : ∃ A, A = 8 + 8 * k := ⟨_, rfl⟩
        obtain ⟨B, hB⟩ : ∃ B, B = 8 * k := ⟨_, rfl⟩
        obtain ⟨D, hD⟩ : ∃ D, D = 12 + 8 * k := ⟨_, rfl⟩
        have a1 : (8 : Int) * (k : Int) = (B : Int) := by omega
        have a2 : (8 : Int) + (B : Int) = (A : Int) := by omega
        have a3 : (12 : Int) + (B : Int) = (D : Int) := by omega
        have a4 : IntKind.i64.wrap (B : Int) = (B : Int) := IntWalk.i64_in _ (by omega)
        have a5 : IntKind.i64.wrap (A : Int) = (A : Int) := IntWalk.i64_in _ (by omega)
        have a6 : IntKind.i64.wrap (D : Int) = (D : Int) := IntWalk.i64_in _ (by omega)
        have hx : spanAt ys (8 + 8 * k) 1 = (numAt ys A 4, numAt ys D 4) := by unfold spanAt; rw [hA, hD, show 8 + 8 * k + 4 = 12 + 8 * k by omega, Int.mul_one]
        have N1 := Lib.hid (AT.out _ G.out A (by have := HM.out; omega))
        have N2 := Lib.hid (AT.out _ G.out D (by have := HM.out; omega))
        obtain ⟨x1, hx1⟩ : ∃ z, z = numAt ys A 4 := ⟨_, rfl⟩
        obtain ⟨x2, hx2⟩ : ∃ z, z = numAt ys D 4 := ⟨_, rfl⟩
        rw [← hx1] at N1 hx
        rw [← hx2] at N2 hx
        have HX := Lib.hid hx
        clear hA hB hD hx hx1 hx2
        go_wp2_with (first | (go_at_call 103; (first | with_reducible refine N1.out.mono ?_ | with_reducible refine N2.out.mono ?_); rintro e w3 ⟨rfl, rfl⟩) | (at_builtin; refine wp_append_st spanType rfl _ _ rfl _ k _ rfl (own_grown OW.out (grown1 wr (.cells #[.int .u64 x1, .int .u64 x2] 39))) (spanCs (x1, x2)) rfl wr.heap.size rfl (heap_alloc_new wr _) (spanCs_one _) (by omega) (by decide) ?_ ?_))
        · exact Nat.le_trans G.out.size (by rw [World.size_alloc]; exact Nat.le_succ _)
        intro v' w3 ho hg3
        obtain ⟨q3, c3, rfl⟩ := own_slice ho
        have R3 := Lib.hid (show w3.ownsRow w.heap.size 39 2 (.slice q3 (k + 1) c3) (k + 1) ((spanL ys (k + 1)).flatMap spanCs) by
          rw [spanL_succ, List.flatMap_append, HX.out]
          simpa using ho)
        have hlo := fun g (e : (Value.slice q' k c').ownBlock = some g) => (OW.out.lt g e).1
        have G4 := Lib.hid (grown_own (grown_trans G.out (grown1 wr (.cells #[.int .u64 x1, .int .u64 x2] 39))) hg3 hlo (Nat.le_refl _))
        clear ho hg3 N1 N2
        go_wp2
        refine ⟨⟨k + 1, q3, c3, by omega, by go_num, rfl, R3.out, G4.out⟩, by simp [intOf]; omega⟩
      · have hk2 : k = 5 := by omega
        subst hk2
        obtain ⟨g, hq⟩ : ∃ g, q' = some ⟨g, 0, none⟩ := by
          rcases OW.out.2 with ⟨e, e0⟩ | ⟨g, cap, cur, hv, _⟩
          · cases e0
          · injection hv with e1 _ _; exact ⟨g, e1⟩
        subst hq
        have SR := Lib.hid (SpanRow.of_own OW.out)
        have LO := Lib.hid ((OW.out.lt g rfl).1)
        have LT := Lib.hid ((OW.out.lt g rfl).2)
        go_wp2
        go_ret2
        exact ⟨⟨g, c', by rw [SE.out]; rfl, LO.out, LT.out, by rw [SE.out]; exact SR.out⟩, G.out⟩
  · have HM := Lib.hid (show 16 ≤ n by rw [show leastN 2147483699 = 16 by decide] at hlen; omega)
    have SE := Lib.hid (KEY.out 1 (.inr ⟨rfl, by rw [← CE.out]; unfold isLone; decide⟩))
    clear KEY K2 hlen CE
    go_enter Tryz.func105, Tryz.ntmps105
    go_wp2_with fail
    refine CD.out.mono ?_
    rintro e w1 ⟨rfl, rfl⟩
    clear CD
    go_wp2
    go_loopw [7, 8] (fun l i wr => ∃ (k : Nat) (q' : Option Addr) (c' : Nat), k ≤ 1 ∧ i = .int .i64 k ∧ l = .slice q' k c' ∧ wr.ownsRow w.heap.size 39 2 (.slice q' k c') k ((spanL ys k).flatMap spanCs) ∧ w.grownBy wr none) (fun _ i _ => 1 - (intOf i).toNat)
    case atStart => exact ⟨0, none, 0, by omega, rfl, rfl, World.ownsRow_nil _ _ _ _, grown_refl _ _⟩
    case round =>
      obtain ⟨k, q', c', hk, rfl, rfl, hown, hg⟩ := hrel
      have OW := Lib.hid hown
      have G := Lib.hid hg
      clear hown hg
      by_cases hlt : k < 1
      · obtain ⟨A, hA⟩ : ∃ A, A = 8 + 8 * k := ⟨_, rfl⟩
        obtain ⟨B, hB⟩ : ∃ B, B = 8 * k := ⟨_, rfl⟩
        obtain ⟨D, hD⟩ : ∃ D, D = 12 + 8 * k := ⟨_, rfl⟩
        have a1 : (8 : Int) * (k : Int) = (B : Int) := by omega
        have a2 : (8 : Int) + (B : Int) = (A : Int) := by omega
        have a3 : (12 : Int) + (B : Int) = (D : Int) := by omega
        have a4 : IntKind.i64.wrap (B : Int) = (B : Int) := IntWalk.i64_in _ (by omega)
        have a5 : IntKind.i64.wrap (A : Int) = (A : Int) := IntWalk.i64_in _ (by omega)
        have a6 : IntKind.i64.wrap (D : Int) = (D : Int) := IntWalk.i64_in _ (by omega)
        have hx : spanAt ys (8 + 8 * k) 1 = (numAt ys A 4, numAt ys D 4) := by unfold spanAt; rw [hA, hD, show 8 + 8 * k + 4 = 12 + 8 * k by omega, Int.mul_one]
        have N1 := Lib.hid (AT.out _ G.out A (by have := HM.out; omega))
        have N2 := Lib.hid (AT.out _ G.out D (by have := HM.out; omega))
        obtain ⟨x1, hx1⟩ : ∃ z, z = numAt ys A 4 := ⟨_, rfl⟩
        obtain ⟨x2, hx2⟩ : ∃ z, z = numAt ys D 4 := ⟨_, rfl⟩
        rw [← hx1] at N1 hx
        rw [← hx2] at N2 hx
        have HX := Lib.hid hx
        clear hA hB hD hx hx1 hx2
        go_wp2_with (first | (go_at_call 103; (first | with_reducible refine N1.out.mono ?_ | with_reducible refine N2.out.mono ?_); rintro e w3 ⟨rfl, rfl⟩) | (at_builtin; refine wp_append_st spanType rfl _ _ rfl _ k _ rfl (own_grown OW.out (grown1 wr (.cells #[.int .u64 x1, .int .u64 x2] 39))) (spanCs (x1, x2)) rfl wr.heap.size rfl (heap_alloc_new wr _) (spanCs_one _) (by omega) (by decide) ?_ ?_))
        · exact Nat.le_trans G.out.size (by rw [World.size_alloc]; exact Nat.le_succ _)
        intro v' w3 ho hg3
        obtain ⟨q3, c3, rfl⟩ := own_slice ho
        have R3 := Lib.hid (show w3.ownsRow w.heap.size 39 2 (.slice q3 (k + 1) c3) (k + 1) ((spanL ys (k + 1)).flatMap spanCs) by
          rw [spanL_succ, List.flatMap_append, HX.out]
          simpa using ho)
        have hlo := fun g (e : (Value.slice q' k c').ownBlock = some g) => (OW.out.lt g e).1
        have G4 := Lib.hid (grown_own (grown_trans G.out (grown1 wr (.cells #[.int .u64 x1, .int .u64 x2] 39))) hg3 hlo (Nat.le_refl _))
        clear ho hg3 N1 N2
        go_wp2
        refine ⟨⟨k + 1, q3, c3, by omega, by go_num, rfl, R3.out, G4.out⟩, by simp [intOf]; omega⟩
      · have hk2 : k = 1 := by omega
        subst hk2
        obtain ⟨g, hq⟩ : ∃ g, q' = some ⟨g, 0, none⟩ := by
          rcases OW.out.2 with ⟨e, e0⟩ | ⟨g, cap, cur, hv, _⟩
          · cases e0
          · injection hv with e1 _ _; exact ⟨g, e1⟩
        subst hq
        have SR := Lib.hid (SpanRow.of_own OW.out)
        have LO := Lib.hid ((OW.out.lt g rfl).1)
        have LT := Lib.hid ((OW.out.lt g rfl).2)
        go_wp2
        go_ret2
        exact ⟨⟨g, c', by rw [SE.out]; rfl, LO.out, LT.out, by rw [SE.out]; exact SR.out⟩, G.out⟩
  · have HM := Lib.hid (show 16 ≤ n by rw [show leastN 2147483700 = 16 by decide] at hlen; omega)
    have SE := Lib.hid (KEY.out 1 (.inr ⟨rfl, by rw [← CE.out]; unfold isLone; decide⟩))
    clear KEY K2 hlen CE
    go_enter Tryz.func105, Tryz.ntmps105
    go_wp2_with fail
    refine CD.out.mono ?_
    rintro e w1 ⟨rfl, rfl⟩
    clear CD
    go_wp2
    go_loopw [7, 8] (fun l i wr => ∃ (k : Nat) (q' : Option Addr) (c' : Nat), k ≤ 1 ∧ i = .int .i64 k ∧ l = .slice q' k c' ∧ wr.ownsRow w.heap.size 39 2 (.slice q' k c') k ((spanL ys k).flatMap spanCs) ∧ w.grownBy wr none) (fun _ i _ => 1 - (intOf i).toNat)
    case atStart => exact ⟨0, none, 0, by omega, rfl, rfl, World.ownsRow_nil _ _ _ _, grown_refl _ _⟩
    case round =>
      obtain ⟨k, q', c', hk, rfl, rfl, hown, hg⟩ := hrel
      have OW := Lib.hid hown
      have G := Lib.hid hg
      clear hown hg
      by_cases hlt : k < 1
      · obtain ⟨A, hA⟩ : ∃ A, A = 8 + 8 * k := ⟨_, rfl⟩
        obtain ⟨B, hB⟩ : ∃ B, B = 8 * k := ⟨_, rfl⟩
        obtain ⟨D, hD⟩ : ∃ D, D = 12 + 8 * k := ⟨_, rfl⟩
        have a1 : (8 : Int) * (k : Int) = (B : Int) := by omega
        have a2 : (8 : Int) + (B : Int) = (A : Int) := by omega
        have a3 : (12 : Int) + (B : Int) = (D : Int) := by omega
        have a4 : IntKind.i64.wrap (B : Int) = (B : Int) := IntWalk.i64_in _ (by omega)
        have a5 : IntKind.i64.wrap (A : Int) = (A : Int) := IntWalk.i64_in _ (by omega)
        have a6 : IntKind.i64.wrap (D : Int) = (D : Int) := IntWalk.i64_in _ (by omega)
        have hx : spanAt ys (8 + 8 * k) 1 = (numAt ys A 4, numAt ys D 4) := by unfold spanAt; rw [hA, hD, show 8 + 8 * k + 4 = 12 + 8 * k by omega, Int.mul_one]
        have N1 := Lib.hid (AT.out _ G.out A (by have := HM.out; omega))
        have N2 := Lib.hid (AT.out _ G.out D (by have := HM.out; omega))
        obtain ⟨x1, hx1⟩ : ∃ z, z = numAt ys A 4 := ⟨_, rfl⟩
        obtain ⟨x2, hx2⟩ : ∃ z, z = numAt ys D 4 := ⟨_, rfl⟩
        rw [← hx1] at N1 hx
        rw [← hx2] at N2 hx
        have HX := Lib.hid hx
        clear hA hB hD hx hx1 hx2
        go_wp2_with (first | (go_at_call 103; (first | with_reducible refine N1.out.mono ?_ | with_reducible refine N2.out.mono ?_); rintro e w3 ⟨rfl, rfl⟩) | (at_builtin; refine wp_append_st spanType rfl _ _ rfl _ k _ rfl (own_grown OW.out (grown1 wr (.cells #[.int .u64 x1, .int .u64 x2] 39))) (spanCs (x1, x2)) rfl wr.heap.size rfl (heap_alloc_new wr _) (spanCs_one _) (by omega) (by decide) ?_ ?_))
        · exact Nat.le_trans G.out.size (by rw [World.size_alloc]; exact Nat.le_succ _)
        intro v' w3 ho hg3
        obtain ⟨q3, c3, rfl⟩ := own_slice ho
        have R3 := Lib.hid (show w3.ownsRow w.heap.size 39 2 (.slice q3 (k + 1) c3) (k + 1) ((spanL ys (k + 1)).flatMap spanCs) by
          rw [spanL_succ, List.flatMap_append, HX.out]
          simpa using ho)
        have hlo := fun g (e : (Value.slice q' k c').ownBlock = some g) => (OW.out.lt g e).1
        have G4 := Lib.hid (grown_own (grown_trans G.out (grown1 wr (.cells #[.int .u64 x1, .int .u64 x2] 39))) hg3 hlo (Nat.le_refl _))
        clear ho hg3 N1 N2
        go_wp2
        refine ⟨⟨k + 1, q3, c3, by omega, by go_num, rfl, R3.out, G4.out⟩, by simp [intOf]; omega⟩
      · have hk2 : k = 1 := by omega
        subst hk2
        obtain ⟨g, hq⟩ : ∃ g, q' = some ⟨g, 0, none⟩ := by
          rcases OW.out.2 with ⟨e, e0⟩ | ⟨g, cap, cur, hv, _⟩
          · cases e0
          · injection hv with e1 _ _; exact ⟨g, e1⟩
        subst hq
        have SR := Lib.hid (SpanRow.of_own OW.out)
        have LO := Lib.hid ((OW.out.lt g rfl).1)
        have LT := Lib.hid ((OW.out.lt g rfl).2)
        go_wp2
        go_ret2
        exact ⟨⟨g, c', by rw [SE.out]; rfl, LO.out, LT.out, by rw [SE.out]; exact SR.out⟩, G.out⟩
  · have HM := Lib.hid (show 24 ≤ n by rw [show leastN 2 = 24 by decide] at hlen; omega)
    have SE := Lib.hid (K2.out CE.out.symm)
    clear KEY K2 hlen CE
    go_enter Tryz.func105, Tryz.ntmps105
    go_wp2_with fail
    refine CD.out.mono ?_
    rintro e w1 ⟨rfl, rfl⟩
    clear CD
    go_wp2
    go_loopw [7, 8] (fun l i wr => ∃ (k : Nat) (q' : Option Addr) (c' : Nat), k ≤ 2 ∧ i = .int .i64 k ∧ l = .slice q' k c' ∧ wr.ownsRow w.heap.size 39 2 (.slice q' k c') k ((spanL ys k).flatMap spanCs) ∧ w.grownBy wr none) (fun _ i _ => 2 - (intOf i).toNat)
    case atStart => exact ⟨0, none, 0, by omega, rfl, rfl, World.ownsRow_nil _ _ _ _, grown_refl _ _⟩
    case round =>
      obtain ⟨k, q', c', hk, rfl, rfl, hown, hg⟩ := hrel
      have OW := Lib.hid hown
      have G := Lib.hid hg
      clear hown hg
      by_cases hlt : k < 2
      · obtain ⟨A, hA⟩ : ∃ A, A = 8 + 8 * k := ⟨_, rfl⟩
        obtain ⟨B, hB⟩ : ∃ B, B = 8 * k := ⟨_, rfl⟩
        obtain ⟨D, hD⟩ : ∃ D, D = 12 + 8 * k := ⟨_, rfl⟩
        have a1 : (8 : Int) * (k : Int) = (B : Int) := by omega
        have a2 : (8 : Int) + (B : Int) = (A : Int) := by omega
        have a3 : (12 : Int) + (B : Int) = (D : Int) := by omega
        have a4 : IntKind.i64.wrap (B : Int) = (B : Int) := IntWalk.i64_in _ (by omega)
        have a5 : IntKind.i64.wrap (A : Int) = (A : Int) := IntWalk.i64_in _ (by omega)
        have a6 : IntKind.i64.wrap (D : Int) = (D : Int) := IntWalk.i64_in _ (by omega)
        have hx : spanAt ys (8 + 8 * k) 1 = (numAt ys A 4, numAt ys D 4) := by unfold spanAt; rw [hA, hD, show 8 + 8 * k + 4 = 12 + 8 * k by omega, Int.mul_one]
        have N1 := Lib.hid (AT.out _ G.out A (by have := HM.out; omega))
        have N2 := Lib.hid (AT.out _ G.out D (by have := HM.out; omega))
        obtain ⟨x1, hx1⟩ : ∃ z, z = numAt ys A 4 := ⟨_, rfl⟩
        obtain ⟨x2, hx2⟩ : ∃ z, z = numAt ys D 4 := ⟨_, rfl⟩
        rw [← hx1] at N1 hx
        rw [← hx2] at N2 hx
        have HX := Lib.hid hx
        clear hA hB hD hx hx1 hx2
        go_wp2_with (first | (go_at_call 103; (first | with_reducible refine N1.out.mono ?_ | with_reducible refine N2.out.mono ?_); rintro e w3 ⟨rfl, rfl⟩) | (at_builtin; refine wp_append_st spanType rfl _ _ rfl _ k _ rfl (own_grown OW.out (grown1 wr (.cells #[.int .u64 x1, .int .u64 x2] 39))) (spanCs (x1, x2)) rfl wr.heap.size rfl (heap_alloc_new wr _) (spanCs_one _) (by omega) (by decide) ?_ ?_))
        · exact Nat.le_trans G.out.size (by rw [World.size_alloc]; exact Nat.le_succ _)
        intro v' w3 ho hg3
        obtain ⟨q3, c3, rfl⟩ := own_slice ho
        have R3 := Lib.hid (show w3.ownsRow w.heap.size 39 2 (.slice q3 (k + 1) c3) (k + 1) ((spanL ys (k + 1)).flatMap spanCs) by
          rw [spanL_succ, List.flatMap_append, HX.out]
          simpa using ho)
        have hlo := fun g (e : (Value.slice q' k c').ownBlock = some g) => (OW.out.lt g e).1
        have G4 := Lib.hid (grown_own (grown_trans G.out (grown1 wr (.cells #[.int .u64 x1, .int .u64 x2] 39))) hg3 hlo (Nat.le_refl _))
        clear ho hg3 N1 N2
        go_wp2
        refine ⟨⟨k + 1, q3, c3, by omega, by go_num, rfl, R3.out, G4.out⟩, by simp [intOf]; omega⟩
      · have hk2 : k = 2 := by omega
        subst hk2
        obtain ⟨g, hq⟩ : ∃ g, q' = some ⟨g, 0, none⟩ := by
          rcases OW.out.2 with ⟨e, e0⟩ | ⟨g, cap, cur, hv, _⟩
          · cases e0
          · injection hv with e1 _ _; exact ⟨g, e1⟩
        subst hq
        have SR := Lib.hid (SpanRow.of_own OW.out)
        have LO := Lib.hid ((OW.out.lt g rfl).1)
        have LT := Lib.hid ((OW.out.lt g rfl).2)
        obtain ⟨s0, s1⟩ := SR.out 0 _ rfl
        obtain ⟨s2, s3⟩ := SR.out 1 _ rfl
        have hb := NB.out
        have e12 : (spanAt ys 8 1).2 = numAt ys 12 4 := by simp [spanAt]
        simp only [Nat.zero_mul, Nat.zero_add, Nat.one_mul] at s0 s1 s2 s3
        have fz : wr.frozen? ⟨g, 1, none⟩ = false := OW.out.frozenAt 1
        obtain ⟨x0, hx0⟩ : ∃ z, z = (spanAt ys 8 1).1 := ⟨_, rfl⟩
        obtain ⟨x1, hx1⟩ : ∃ z, z = (spanAt ys 8 1).2 := ⟨_, rfl⟩
        rw [← hx0] at SE
        rw [← hx1] at SE e12
        have t1 : wr.cell? ⟨g, 1, none⟩ = some (.int .u64 x1) := by rw [hx1]; exact s1
        have t0 : wr.cell? ⟨g, 0, none⟩ = some (.int .u64 x0) := by rw [hx0]; exact s0
        have m1 : (16 * x1) % 18446744073709551616 = 16 * x1 := by omega
        have m2 : IntKind.u64.wrap (16 * x1) = 16 * x1 := by rw [IntKind.wrap_u64]; exact m1
        have T0 := Lib.hid t0
        have S2 := Lib.hid s2
        have S3 := Lib.hid s3
        have LT2 := LT.out
        clear s0 s1 s2 s3 hx0 hx1 hb e12
        go_wp2
        go_ret2
        have gS := grown_setCell (i := 1) (grown_refl wr (some g)) (.int .u64 (16 * x1))
        have hth : (wr.cell? ⟨g, 1, none⟩).isSome = true := by rw [t1]; rfl
        refine ⟨⟨g, c', by rw [SE.out]; rfl, LO.out, Nat.lt_of_lt_of_le LT.out gS.size, ?_⟩, grown_new G.out gS LO.out⟩
        rw [SE.out]
        have other : ∀ j v, j ≠ 1 → wr.cell? ⟨g, j, none⟩ = some v → (wr.setCell ⟨g, 1, none⟩ (.int .u64 (16 * x1))).cell? ⟨g, j, none⟩ = some v := fun j v hj hv => by
          rw [World.cell?_setCell_other _ ⟨g, 1, none⟩ ⟨g, j, none⟩ _ (fun e => hj (by injection e with _ e _; exact e.symm))]; exact hv
        intro i x hx
        match i, hx with
        | 0, hx =>
          injection hx with hx; subst hx
          exact ⟨other 0 _ (by decide) T0.out, by rw [show 0 * 2 + 1 = 1 from rfl, World.cell?_setCell_same' _ _ _ hth]; simp only [Int.mul_comm]⟩
        | 1, hx =>
          injection hx with hx; subst hx
          exact ⟨other 2 _ (by decide) S2.out, other 3 _ (by decide) S3.out⟩
        | (j + 2), hx => cases hx
end Go.Proofs.YtdagnkdonlfobaaGreat

/- The document's image in the making, in memory: its cells, its rows; 'once', 'trie'. No condition. -/
namespace Go.Proofs.YtdagnkdonlfobaaGreat
open Go.RowKit
variable {w w' : World} {lo g : Nat} {h : Hx} {s : St}

/-- What was there already. -/
structure Fl where
  nm : Bool
  ch : Bool
  sy : Bool
  en : Bool
  sp : Bool
def seenArr (h : Hx) (s : St) (sv dv : Value) (f : Fl) (k : Int) : Array Value := #[.int .i64 h.kd, .int .i64 h.sb, .int .u32 h.fl, .string (strOfNums s.name), sv, dv, .int .u64 s.rb.1, .int .u64 s.rb.2, .int .u64 s.bd.1, .int .u64 s.bd.2, .int .u64 s.wk.1, .int .u64 s.wk.2, .int .u64 s.lz.1, .int .u64 s.lz.2, .int .u64 s.tr.1, .int .u64 s.tr.2, .int .u64 s.ch.1, .int .u64 s.ch.2, .int .u64 s.sy.1, .int .u64 s.sy.2, .int .u64 s.st.1, .int .u64 s.st.2, .int .u64 s.entry, .bool s.has, .bool f.nm, .bool f.ch, .bool f.sy, .bool f.en, .bool f.sp, .int .i64 k]
def SeenAt (w : World) (g : Nat) (h : Hx) (s : St) (sv dv : Value) (f : Fl) (k : Int) : Prop := w.heap[g]? = some (.cells (seenArr h s sv dv f k) 106 (0, 0))
section
variable {sv dv : Value} {f : Fl} {k : Int}
theorem SeenAt.kept {r : Option Nat} (a : SeenAt w g h s sv dv f k) (hg : w.grownBy w' r) (hr : r ≠ some g) : SeenAt w' g h s sv dv f k := (hg.block g (lt_of_block a) (fun e => hr e.symm)).trans a
theorem SeenAt.lt (a : SeenAt w g h s sv dv f k) : g < w.heap.size := lt_of_block a
theorem SeenAt.fz (a : SeenAt w g h s sv dv f k) (i : Nat) : w.frozen? ⟨g, i, none⟩ = false := free_of a
theorem SeenAt.c (a : SeenAt w g h s sv dv f k) (i : Nat) (v : Value) (hv : (seenArr h s sv dv f k)[i]? = some v) : w.cell? ⟨g, i, none⟩ = some v := by rw [cell_of a]; exact hv
end
theorem seenApart : 58 ≠ 106 ∧ 148 ≠ 106 ∧ 141 ≠ 106 ∧ 148 ≠ 58 ∧ 141 ≠ 58 ∧ 58 ≠ 141 ∧ 148 ≠ 141 := by decide
structure HoldsR (w : World) (lo g : Nat) (h : Hx) (s : St) (f : Fl) (k : Int) : Prop where
  ex : ∃ (sv dv : Value) (l : List Sg), SeenAt w g h s sv dv f k ∧ l.map Sg.seg = s.segs ∧ w.ownsRow lo 58 7 sv l.length (l.flatMap sgCs) ∧ (∀ x ∈ l, w.ownsRow lo 148 6 x.v x.seg.secs.length (x.seg.secs.flatMap secCs)) ∧
    w.ownsRow lo 141 2 dv s.deps.length (s.deps.flatMap depCs)
  lo1 : lo ≤ g
theorem HoldsR.grown {f : Fl} {k : Int} (H : HoldsR w lo g h s f k) (hg : w.grownBy w' none) : HoldsR w' lo g h s f k := by
  obtain ⟨sv, dv, l, h1, h2, h3, h4, h5⟩ := H.ex
  exact ⟨⟨sv, dv, l, h1.kept hg (by simp), h2, own_grown h3 hg, fun x hx => own_grown (h4 x hx) hg, own_grown h5 hg⟩, H.lo1⟩
theorem HoldsR.at {f : Fl} {k : Int} (H : HoldsR w lo g h s f k) : ∃ sv dv, SeenAt w g h s sv dv f k := by obtain ⟨sv, dv, _, a1, _⟩ := H.ex; exact ⟨sv, dv, a1⟩
theorem HoldsR.lt {f : Fl} {k : Int} (H : HoldsR w lo g h s f k) : lo ≤ w.heap.size := by obtain ⟨_, _, a1⟩ := H.at; exact Nat.le_trans H.lo1 (Nat.le_of_lt a1.lt)
/-- Cells of its own block alone are written: its lists stay. -/
theorem HoldsR.cells {f f' : Fl} {k k' : Int} {s' : St} (H : HoldsR w lo g h s f k) (hg : w.grownBy w' (some g)) (hc : ∀ sv dv, SeenAt w g h s sv dv f k → SeenAt w' g h s' sv dv f' k') (h1 : s'.segs = s.segs) (h2 : s'.deps = s.deps) : HoldsR w' lo g h s' f' k' := by
  obtain ⟨sv, dv, l, a1, a2, a3, a4, a5⟩ := H.ex
  refine ⟨⟨sv, dv, l, hc sv dv a1, a2.trans h1.symm, a3.kept hg (row_off a3 a1 seenApart.1), fun x hx => (a4 x hx).kept hg (row_off (a4 x hx) a1 seenApart.2.1), ?_⟩, H.lo1⟩
  rw [h2]; exact a5.kept hg (row_off a5 a1 seenApart.2.2.1)
/-- What taking something in tells. -/
structure SeenOut (w w' : World) (lo g : Nat) (h : Hx) (s' : St) (f' : Fl) (k' : Int) (er : Int) (e : Ending) : Prop where
  val : e = .returned (.int .i64 er)
  good : er = 0 → HoldsR w' lo g h s' f' k'
  below : Below lo w w'
theorem SeenOut.after {w1 : World} {s' : St} {f' : Fl} {k' er : Int} {e : Ending} (hb : Below lo w w1) (k : SeenOut w1 w' lo g h s' f' k' er e) : SeenOut w w' lo g h s' f' k' er e := ⟨k.val, k.good, hb.trans k.below⟩

theorem once5_any {g i : Nat} {b : Bool} (hc : w.cell? ⟨g, i, none⟩ = some (.bool b)) (hf : w.frozen? ⟨g, i, none⟩ = false) (_hl : g < w.heap.size) :
    Calls Tryz.prog 82 #[.pointer (some ⟨g, i, none⟩)] w fun e w' => e = .returned (.bool (!b)) ∧ w' = w.setCell ⟨g, i, none⟩ (.bool true) := by
  go_enter Tryz.func82, Tryz.ntmps82
  go_wp2
  go_ret
  exact ⟨rfl, rfl⟩

def rtrieE (s : St) (x : Int × Int) : Int := if x.2 = 0 then 0 else if 0 < s.tr.2 then 21 else 0
def rtrieS (s : St) (x : Int × Int) : St := if x.2 = 0 then s else { s with tr := x }
set_option maxRecDepth 20000 in
theorem rtrie_any {f : Fl} {k : Int} (H : HoldsR w lo g h s f k) (x : Int × Int) :
    Calls Tryz.prog 106 #[.pointer (some ⟨g, 0, none⟩), spanV x] w fun e w' => SeenOut w w' lo g h (rtrieS s x) f k (rtrieE s x) e := by
  obtain ⟨X, Y⟩ := x
  unfold spanV
  have gA := grown1 w (.cells #[.int .u64 X, .int .u64 Y] 39)
  have HA := Lib.hid (H.grown gA)
  have SA := Lib.hid (show SpanAt (w.alloc (.cells #[.int .u64 X, .int .u64 Y] 39)) w.heap.size (X, Y) from heap_alloc_new w _)
  have BA := Lib.hid (below_grown gA H.lt (by simp) : Below lo w (w.alloc (.cells #[.int .u64 X, .int .u64 Y] 39)))
  have LO := Lib.hid HA.out.lt
  obtain ⟨sv, dv, a1⟩ := HA.out.at
  clear H gA
  obtain ⟨wA, hwA⟩ : ∃ wA, w.alloc (.cells #[.int .u64 X, .int .u64 Y] 39) = wA := ⟨_, rfl⟩
  obtain ⟨b, hb⟩ : ∃ b, w.heap.size = b := ⟨_, rfl⟩
  rw [hwA] at HA SA BA LO a1
  rw [hb] at SA
  have s0 : wA.cell? ⟨b, 0, none⟩ = some (.int .u64 X) := by rw [cell_of SA.out]; rfl
  have s1 : wA.cell? ⟨b, 1, none⟩ = some (.int .u64 Y) := by rw [cell_of SA.out]; rfl
  have sl := lt_of_block SA.out
  have c14 := a1.c 14 (.int .u64 s.tr.1) rfl
  have c15 := a1.c 15 (.int .u64 s.tr.2) rfl
  have f14 := a1.fz 14
  have f15 := a1.fz 15
  have gl := a1.lt
  clear a1
  have OT := Lib.hid (show rtrieE s (X, Y) = if Y = 0 then 0 else if 0 < s.tr.2 then 21 else 0 from rfl)
  have ST := Lib.hid (show rtrieS s (X, Y) = if Y = 0 then s else { s with tr := (X, Y) } from rfl)
  by_cases h0 : Y = 0
  · have OE := Lib.hid (OT.out.trans (if_pos h0))
    have SE := Lib.hid (ST.out.trans (if_pos h0))
    have hd : (Y == 0) = true := by simpa using h0
    clear h0
    go_enter Tryz.func106, Tryz.ntmps106
    go_wp2
    go_ret
    exact ⟨by rw [OE.out]; rfl, fun _ => by rw [SE.out]; exact HA.out, BA.out⟩
  have OE := Lib.hid (OT.out.trans (if_neg h0))
  have SE := Lib.hid (ST.out.trans (if_neg h0))
  have hd : (Y == 0) = false := by simpa using h0
  clear h0 OT ST
  obtain ⟨T, hT⟩ : ∃ T, T = s.tr.2 := ⟨_, rfl⟩
  rw [← hT] at OE c15
  by_cases h1 : 0 < T
  · have OF := Lib.hid (OE.out.trans (if_pos h1))
    have hd1 : decide (0 < T) = true := by simpa using h1
    clear h1 hT
    go_enter Tryz.func106, Tryz.ntmps106
    go_wp2
    go_ret
    exact ⟨by rw [OF.out]; rfl, fun hz => (by rw [OF.out] at hz; cases hz), BA.out⟩
  · have OF := Lib.hid (OE.out.trans (if_neg h1))
    have hd1 : decide (0 < T) = false := by simpa using h1
    have gS := grown_setCell (i := 15) (grown_setCell (i := 14) (grown_refl wA (some g)) (.int .u64 X)) (.int .u64 Y)
    have HB := Lib.hid (HA.out.cells (s' := { s with tr := (X, Y) }) (f' := f) (k' := k) gS (fun sv dv a => by
      unfold SeenAt
      rw [heap_setCell_same _ g 15 _ _ _ (heap_setCell_same wA g 14 _ _ _ a)]
      rfl) rfl rfl)
    have BB := Lib.hid (BA.out.trans (below_of gS HA.out.lo1 LO.out))
    clear h1 gS hT
    go_enter Tryz.func106, Tryz.ntmps106
    go_wp2
    go_ret
    exact ⟨by rw [OF.out]; rfl, fun _ => by rw [SE.out]; exact HB.out, BB.out⟩

/-- A segment more, in its row; and the cell that leads to it. -/
theorem holdsR_seg {wA w3 : World} {sv dv sv' : Value} {l : List Sg} {x : Sg} {f : Fl} {k : Int} (a1 : SeenAt wA g h s sv dv f k) (a2 : l.map Sg.seg = s.segs) (a3 : wA.ownsRow lo 58 7 sv l.length (l.flatMap sgCs))
    (a4 : ∀ x ∈ l, wA.ownsRow lo 148 6 x.v x.seg.secs.length (x.seg.secs.flatMap secCs)) (a5 : wA.ownsRow lo 141 2 dv s.deps.length (s.deps.flatMap depCs)) (l1 : lo ≤ g)
    (ax : wA.ownsRow lo 148 6 x.v x.seg.secs.length (x.seg.secs.flatMap secCs))
    (ho : w3.ownsRow lo 58 7 sv' (l.length + 1) (l.flatMap sgCs ++ sgCs x)) (hg : wA.grownBy w3 sv.ownBlock) : HoldsR (w3.setCell ⟨g, 4, none⟩ sv') lo g h { s with segs := s.segs ++ [x.seg] } f k := by
  have hT := seenApart
  have ng : sv.ownBlock ≠ some g := by
    rcases row_off a3 a1 hT.1 with e | e
    · rw [e]; simp
    · exact e
  have b1 := a1.kept hg ng
  have b5 := a5.kept hg (rows_apart hT.2.2.2.2.1 a5 a3)
  have b4 : ∀ y ∈ l ++ [x], w3.ownsRow lo 148 6 y.v y.seg.secs.length (y.seg.secs.flatMap secCs) := fun y hy => by
    rcases List.mem_append.1 hy with hy | hy
    · exact (a4 y hy).kept hg (rows_apart hT.2.2.2.1 (a4 y hy) a3)
    · rw [List.mem_singleton.1 hy]
      exact ax.kept hg (rows_apart hT.2.2.2.1 ax a3)
  have gS := grown_setCell (i := 4) (grown_refl w3 (some g)) sv'
  refine ⟨⟨sv', dv, l ++ [x], ?_, by rw [List.map_append, a2]; rfl, ?_, fun y hy => (b4 y hy).kept gS (row_off (b4 y hy) b1 hT.2.1), b5.kept gS (row_off b5 b1 hT.2.2.1)⟩, l1⟩
  · unfold SeenAt
    rw [heap_setCell_same w3 g 4 _ _ _ b1]
    rfl
  · have := ho.kept gS (row_off ho b1 hT.1)
    rw [List.length_append, List.flatMap_append]
    simpa using this
theorem holdsR_dep {wA w3 : World} {sv dv dv' : Value} {l : List Sg} {x : List Int × Int} {f : Fl} {k : Int} (a1 : SeenAt wA g h s sv dv f k) (a2 : l.map Sg.seg = s.segs) (a3 : wA.ownsRow lo 58 7 sv l.length (l.flatMap sgCs))
    (a4 : ∀ x ∈ l, wA.ownsRow lo 148 6 x.v x.seg.secs.length (x.seg.secs.flatMap secCs)) (a5 : wA.ownsRow lo 141 2 dv s.deps.length (s.deps.flatMap depCs)) (l1 : lo ≤ g)
    (ho : w3.ownsRow lo 141 2 dv' (s.deps.length + 1) (s.deps.flatMap depCs ++ depCs x)) (hg : wA.grownBy w3 dv.ownBlock) : HoldsR (w3.setCell ⟨g, 5, none⟩ dv') lo g h { s with deps := s.deps ++ [x] } f k := by
  have hT := seenApart
  have ng : dv.ownBlock ≠ some g := by
    rcases row_off a5 a1 hT.2.2.1 with e | e
    · rw [e]; simp
    · exact e
  have b1 := a1.kept hg ng
  have b3 := a3.kept hg (rows_apart hT.2.2.2.2.2.1 a3 a5)
  have b4 : ∀ x ∈ l, w3.ownsRow lo 148 6 x.v x.seg.secs.length (x.seg.secs.flatMap secCs) := fun x hx => (a4 x hx).kept hg (rows_apart hT.2.2.2.2.2.2 (a4 x hx) a5)
  have gS := grown_setCell (i := 5) (grown_refl w3 (some g)) dv'
  refine ⟨⟨sv, dv', l, ?_, a2, b3.kept gS (row_off b3 b1 hT.1), fun x hx => (b4 x hx).kept gS (row_off (b4 x hx) b1 hT.2.1), ?_⟩, l1⟩
  · unfold SeenAt
    rw [heap_setCell_same w3 g 5 _ _ _ b1]
    rfl
  · have := ho.kept gS (row_off ho b1 hT.2.2.1)
    show World.ownsRow _ _ _ _ _ (s.deps ++ [x]).length ((s.deps ++ [x]).flatMap depCs)
    rw [List.length_append, List.flatMap_append]
    simpa using this
end Go.Proofs.YtdagnkdonlfobaaGreat

/- What a command does to an image, by its number: the document's flags and the program's row of what was met, as one. No condition. -/
namespace Go.Proofs.YtdagnkdonlfobaaGreat
open Go.RowKit

def flOf (s : St) : Fl := ⟨decide (13 ∈ s.met), decide (2147483700 ∈ s.met), decide (2 ∈ s.met), decide (2147483688 ∈ s.met), decide (34 ∈ s.met)⟩
structure TrOk (s : St) : Prop where
  iff : 2147483699 ∈ s.met ↔ s.tr.2 ≠ 0
  pos : 0 ≤ s.tr.2
theorem TrOk.zero : TrOk St.zero := ⟨by simp [St.zero], by simp [St.zero]⟩
theorem spanAt_pos {b : List Int} (hr : Small b) (p : Nat) : 0 ≤ (spanAt b p 1).2 := by
  have := numAt_lt hr (p + 4)
  show 0 ≤ numAt b (p + 4) 4 * 1
  omega
theorem trie_both {s : St} (h : TrOk s) (x : Int × Int) (_hx : 0 ≤ x.2) : trieE s x = rtrieE s x := by
  unfold trieE rtrieE onceE
  by_cases h0 : x.2 = 0
  · rw [if_pos h0, if_pos h0]
  · rw [if_neg h0, if_neg h0]
    by_cases h1 : 0 < s.tr.2
    · rw [if_pos h1, if_pos (h.iff.2 (by omega))]
    · rw [if_neg h1, if_neg (fun hm => by have := h.iff.1 hm; have := h.pos; omega)]
theorem trie_ok {s : St} (h : TrOk s) (x : Int × Int) (hx : 0 ≤ x.2) : TrOk (trieS s x) := by
  unfold trieS
  split
  · exact h
  · rename_i h0
    exact ⟨⟨fun _ => h0, fun _ => by simp [St.meet]⟩, hx⟩
theorem trie_fl (s : St) (x : Int × Int) : flOf (trieS s x) = flOf s := by
  unfold trieS
  split
  · rfl
  · unfold flOf St.meet; simp
theorem trie_as (s : St) (x : Int × Int) : ({ rtrieS s x with met := [], secs := 0 } : St) = { trieS s x with met := [], secs := 0 } := by
  unfold rtrieS trieS
  split <;> rfl
theorem TrOk.info {s : St} (h : TrOk s) (b : List Int) : TrOk (infoS s b) := by
  refine ⟨?_, h.pos⟩
  show 2147483699 ∈ s.met ++ [34] ↔ s.tr.2 ≠ 0
  rw [List.mem_append]
  simp [h.iff]

theorem step_short_err {s : St} {b : List Int} (hs : shortB b) (h8 : 8 ≤ b.length) : stepE s b = 3 := by
  have h3 : segErr b = 3 := by unfold segErr; rw [if_pos hs]
  have h4 : nameErr b = 3 := by unfold nameErr; rw [if_pos hs]
  have h5 : spansErr b = 3 := by unfold spansErr; rw [if_pos hs]
  have e1 : segE s b = 3 := by unfold segE; rw [h3]; rfl
  have e2 : ownE s b = 3 := by unfold ownE; rw [h4]; rfl
  have e3 : depE s b = 3 := by unfold depE; rw [h4]; rfl
  have e4 : spE s b = 3 := by unfold spE; rw [h5]; rfl
  have e5 : entE s b = 3 := by unfold entE; rw [if_pos hs]
  unfold stepE
  rw [e1, e2, e3, e4, e5]
  by_cases c1 : cmdAt b = 25
  · rw [if_pos c1]
  rw [if_neg c1]
  by_cases c2 : cmdAt b = 13
  · rw [if_pos c2]
  rw [if_neg c2]
  by_cases c3 : depKind (cmdAt b) ≠ 0
  · rw [if_pos c3]
  rw [if_neg c3]
  by_cases c4 : isInfo (cmdAt b) ∨ isLone (cmdAt b) ∨ cmdAt b = 2
  · rw [if_pos c4]
  rw [if_neg c4]
  by_cases c5 : cmdAt b = 2147483688
  · rw [if_pos c5]
  exfalso
  have hl : leastN (cmdAt b) = 0 := by
    have hd' : depKind (cmdAt b) = 0 := Classical.byContradiction c3
    unfold isInfo isLone at c4
    simp only [not_or] at c4
    obtain ⟨⟨a1, a2⟩, ⟨a3, a4⟩, a5⟩ := c4
    unfold depKind at hd'
    split at hd'; cases hd'
    split at hd'; cases hd'
    split at hd'; cases hd'
    split at hd'; cases hd'
    unfold leastN
    simp [*]
  rcases hs with h | h
  · omega
  · rw [hl] at h; omega

/-- The kinds of commands. -/
theorem cmd_ways (cm : Int) : (leastN cm = 0 ∧ cm ≠ 25 ∧ cm ≠ 13 ∧ depKind cm = 0 ∧ ¬ (isInfo cm ∨ isLone cm ∨ cm = 2) ∧ cm ≠ 2147483688) ∨
    ((leastN cm == 0) = false ∧ (cm = 25 ∨ cm = 13 ∨ (cm ≠ 25 ∧ cm ≠ 13 ∧ depKind cm ≠ 0) ∨ cm = 34 ∨ cm = 2147483682 ∨ cm = 2147483699 ∨ cm = 2147483700 ∨ cm = 2 ∨ cm = 2147483688)) := by
  by_cases h : cm = 25 ∨ cm = 34 ∨ cm = 2147483682 ∨ cm = 2 ∨ cm = 12 ∨ cm = 13 ∨ cm = 2147483672 ∨ cm = 2147483679 ∨ cm = 2147483683 ∨ cm = 2147483688 ∨ cm = 2147483699 ∨ cm = 2147483700
  · right
    rcases h with rfl | rfl | rfl | rfl | rfl | rfl | rfl | rfl | rfl | rfl | rfl | rfl <;> decide
  · simp only [not_or] at h
    obtain ⟨n1, n2, n3, n4, n5, n6, n7, n8, n9, n10, n11, n12⟩ := h
    left
    refine ⟨by unfold leastN; simp [*], n1, n6, by unfold depKind; simp [*], ?_, n10⟩
    unfold isInfo isLone
    simp [*]
end Go.Proofs.YtdagnkdonlfobaaGreat

/- A segment is taken into the document's image in the making. No condition but that its command has at most 2^47 bytes. -/
namespace Go.Proofs.YtdagnkdonlfobaaGreat
open Go.RowKit
variable {w w' : World} {lo g : Nat} {h : Hx} {s : St}

set_option maxHeartbeats 3200000 in
set_option maxRecDepth 20000 in
theorem rseg_any {f : Fl} (H : HoldsR w lo g h s f s.secs) (b : List Int) (q : Option Addr) (c n : Nat) (hb : IsBytes w q c b) (hn : b.length = n) (hc : n ≤ c) (hcm : c ≤ 9223372036854775807) (hn47 : n ≤ 140737488355328) (hr : Small b) (h16 : s.segs.length ≤ 16) (h64 : 0 ≤ s.secs ∧ s.secs ≤ 64) :
    Calls Tryz.prog 79 #[.pointer (some ⟨g, 0, none⟩), .slice q n c] w fun e w' => SeenOut w w' lo g h (segS s b) f (s.secs + (segOf b).secs.length) (segE s b) e := by
  have SG := Lib.hid (refSegment_all (w := w) b hb hn hc hcm hn47 hr)
  have SN := Lib.hid (show segN b = if segErr b = 0 then segOf b else Seg.zero from rfl)
  have HH := Lib.hid H
  have OT := Lib.hid (show segE s b = if segErr b ≠ 0 then segErr b else if s.segs.length = 16 ∨ 64 < s.secs + (segOf b).secs.length then 11 else 0 from rfl)
  have ST := Lib.hid (show segS s b = { s with secs := s.secs + (segOf b).secs.length, segs := s.segs ++ [segOf b] } from rfl)
  clear H hb hn hr
  by_cases h0 : segErr b = 0
  · have OE := Lib.hid (OT.out.trans (if_neg (fun h => h h0)))
    have H0 := Lib.hid h0
    clear h0 OT
    go_enter Tryz.func79, Tryz.ntmps79
    go_wp2_with fail
    refine SG.out.mono ?_
    rintro e w1 ⟨q1, N, c1, base, hN, rfl, hown, hbase, hg⟩
    rw [SN.out, if_pos H0.out] at hN hown ⊢
    rw [H0.out]
    have hN64 : N ≤ 64 := by rw [hN]; exact seg_many H0.out
    have NE := Lib.hid hN
    obtain ⟨⟨nm, ad, sz, of, fs, pr, sl⟩, hS⟩ : ∃ z, z = segOf b := ⟨_, rfl⟩
    rw [← hS] at hN hown ⊢
    have SE := Lib.hid hS
    unfold segV segArr
    have hlw := HH.out.lt
    have g2 := grown1 w1 (.cells #[.string (strOfNums nm), .int .u64 ad, .int .u64 sz, .int .u64 of, .int .u64 fs, .int .i64 pr, .slice q1 N c1] 58)
    have X2 := Lib.hid (show SegAt (w1.alloc (.cells #[.string (strOfNums nm), .int .u64 ad, .int .u64 sz, .int .u64 of, .int .u64 fs, .int .i64 pr, .slice q1 N c1] 58)) w1.heap.size ⟨nm, ad, sz, of, fs, pr, sl⟩ (.slice q1 N c1) from heap_alloc_new w1 _)
    have H2 := Lib.hid (HH.out.grown (grown_trans hg g2))
    have B2 := Lib.hid (below_grown (grown_trans hg g2) hlw (by simp) : Below lo w _)
    have R2 := Lib.hid (own_grown (own_lower hown (Nat.le_trans hlw hbase)) g2)
    have hxg : g < w1.heap.size := by obtain ⟨_, _, a1⟩ := HH.out.at; exact Nat.lt_of_lt_of_le a1.lt hg.size
    clear hg hown hbase hS hN g2 hlw
    simp only []
    go_upto_region 2 with fail
    obtain ⟨w2, hw2⟩ : ∃ w2, w1.alloc (.cells #[.string (strOfNums nm), .int .u64 ad, .int .u64 sz, .int .u64 of, .int .u64 fs, .int .i64 pr, .slice q1 N c1] 58) = w2 := ⟨_, rfl⟩
    obtain ⟨x, hx⟩ : ∃ x, w1.heap.size = x := ⟨_, rfl⟩
    rw [hw2, hx] at X2
    rw [hw2] at H2 B2 R2 ⊢
    simp only [hx] at hxg ⊢
    clear hw2 hx
    obtain ⟨sv, dv, l, a1, a2, a3, a4, a5⟩ := H2.out.ex
    have c29 := a1.c 29 (.int .i64 s.secs) rfl
    have f29 := a1.fz 29
    have gl := a1.lt
    have x6 := X2.out.c.2.2.2.2.2.2
    have xl := X2.out.lt
    have i1 : s.secs + (N : Int) ≤ 9223372036854775807 := by omega
    clear a1 a2 a3 a4 a5
    go_wp2
    go_still_tail 10, (by kernel_rfl)
    change wpList _ _ _ _ _ w2.drew
    have gD : w2.grownBy w2.drew none := grown_drewN (grown_refl w2 none) 1
    have H3 := Lib.hid (H2.out.grown gD)
    have B3 := Lib.hid (B2.out.trans (below_grown gD H2.out.lt (by simp)))
    have R3 := Lib.hid (own_grown R2.out gD)
    have X3 := Lib.hid (X2.out.grown gD)
    clear c29 f29 gl x6 xl gD H2 B2 R2 X2 sv dv l
    generalize w2.drew = w3 at *
    obtain ⟨sv, dv, l, a1, a2, a3, a4, a5⟩ := H3.out.ex
    have c29 := a1.c 29 (.int .i64 s.secs) rfl
    have f29 := a1.fz 29
    have gl := a1.lt
    have gS := grown_setCell (i := 29) (grown_refl w3 (some g)) (.int .i64 (s.secs + N))
    have H4 := Lib.hid (H3.out.cells (s' := { s with secs := s.secs + N }) (f' := f) (k' := s.secs + N) gS (fun sv dv a => by
      unfold SeenAt
      rw [heap_setCell_same w3 g 29 _ _ _ a]
      rfl) rfl rfl)
    have B4 := Lib.hid (B3.out.trans (below_of gS H3.out.lo1 H3.out.lt))
    have R4 := Lib.hid (R3.out.kept gS (row_off R3.out a1 seenApart.2.1))
    have X4 := Lib.hid (X3.out.kept gS (fun e => by injection e with e; omega))
    clear a1 a2 a3 a4 a5 sv dv l gS
    go_upto_region 5 with fail
    obtain ⟨w4, hw4⟩ : ∃ w4, w3.setCell ⟨g, 29, none⟩ (.int .i64 (s.secs + N)) = w4 := ⟨_, rfl⟩
    rw [hw4] at H4 B4 R4 X4 ⊢
    clear hw4 c29 f29 gl H3 B3 R3 X3
    obtain ⟨sv, dv, l, a1, a2, a3, a4, a5⟩ := H4.out.ex
    obtain ⟨qs, cs, rfl⟩ := own_slice a3
    have hll : l.length = s.segs.length := by rw [← List.length_map (f := Sg.seg), a2]
    have c4 := a1.c 4 (.slice qs l.length cs) rfl
    have c29 := a1.c 29 (.int .i64 (s.secs + N)) rfl
    have gl := a1.lt
    have hNE : (segOf b).secs.length = N := NE.out.symm
    by_cases hfull : s.segs.length = 16 ∨ 64 < s.secs + (N : Int)
    · have OF := Lib.hid (OE.out.trans (if_pos (by rw [hNE]; exact hfull)))
      have hb2 : ((l.length : Int) == 16) = true ∨ (((l.length : Int) == 16) = false ∧ decide (64 < s.secs + (N : Int)) = true) := by
        rw [← hll] at hfull
        by_cases h : l.length = 16
        · exact .inl (by simp; omega)
        · exact .inr ⟨by simp; omega, by simp; omega⟩
      have B5 := Lib.hid B4.out
      clear a1 a2 a3 a4 a5 hfull hll
      generalize l.length = D at *
      rcases hb2 with d1 | ⟨d1, d2⟩
      all_goals
        go_wp2
        go_ret
        exact ⟨by rw [OF.out]; rfl, fun hz => (by rw [OF.out] at hz; cases hz), B5.out⟩
    · have OF := Lib.hid (OE.out.trans (if_neg (by rw [hNE]; exact hfull)))
      have d1 : ((l.length : Int) == 16) = false := by rw [hll]; simp; omega
      have d2 : decide (64 < s.secs + (N : Int)) = false := by simp; omega
      have hlt : l.length < 16 := by omega
      have hsl : sl.length = N := by rw [NE.out, ← SE.out]
      have HSG := Lib.hid (fun (wA w5 : World) (v' : Value) (gA : w4.grownBy wA none) (ho : w5.ownsRow lo 58 7 v' (l.length + 1) (l.flatMap sgCs ++ [.string (strOfNums nm), .int .u64 ad, .int .u64 sz, .int .u64 of, .int .u64 fs, .int .i64 pr, .slice q1 N c1])) (hg : wA.grownBy w5 (Value.slice qs l.length cs).ownBlock) =>
        holdsR_seg (x := ⟨⟨nm, ad, sz, of, fs, pr, sl⟩, q1, c1⟩) (a1.kept gA (by simp)) a2 (own_grown a3 gA) (fun x hx => own_grown (a4 x hx) gA) (own_grown a5 gA) H4.out.lo1 (by
          have := own_grown R4.out gA
          show World.ownsRow _ _ _ _ (Value.slice q1 sl.length c1) sl.length _
          rw [hsl]
          exact this) (by
          rw [show sgCs ⟨⟨nm, ad, sz, of, fs, pr, sl⟩, q1, c1⟩ = [.string (strOfNums nm), .int .u64 ad, .int .u64 sz, .int .u64 of, .int .u64 fs, .int .i64 pr, .slice q1 N c1] by unfold sgCs Sg.v; simp only []; rw [hsl]]
          exact ho) hg)
      have AK := Lib.hid a1
      have OW := Lib.hid a3
      have NG := Lib.hid (row_off a3 a1 seenApart.1)
      have hr : (l.flatMap sgCs).length = l.length * 7 := flat_len sgCs_len l
      obtain ⟨rows, hrows⟩ : ∃ r, r = l.flatMap sgCs := ⟨_, rfl⟩
      rw [← hrows] at HSG OW
      obtain ⟨D, hD⟩ : ∃ D, D = l.length := ⟨_, rfl⟩
      rw [← hD] at HSG OW c4 d1 hlt NG AK
      clear a1 a2 a3 a4 a5 hfull hll hr hrows hD
      obtain ⟨x0, x1, x2, x3, x4, x5, x6⟩ := X4.out.c
      simp only [] at x0 x1 x2 x3 x4 x5
      have xl := X4.out.lt
      have f4 := AK.out.fz 4
      go_wp2
      have gA : w4.grownBy (w4.alloc (.cells #[.string (strOfNums nm), .int .u64 ad, .int .u64 sz, .int .u64 of, .int .u64 fs, .int .i64 pr, .slice q1 N c1] 58)).drew none := grown_drewN (grown1 w4 _) 1
      have OWA := Lib.hid (own_grown OW.out gA)
      have HNA := Lib.hid (show (w4.alloc (.cells #[.string (strOfNums nm), .int .u64 ad, .int .u64 sz, .int .u64 of, .int .u64 fs, .int .i64 pr, .slice q1 N c1] 58)).drew.heap[w4.heap.size]? = some (.cells ([.string (strOfNums nm), .int .u64 ad, .int .u64 sz, .int .u64 of, .int .u64 fs, .int .i64 pr, .slice q1 N c1] : List Value).toArray 58 (0, 0)) from heap_alloc_new w4 _)
      have hlw4 := H4.out.lt
      have HLO := Lib.hid (show lo ≤ (w4.alloc (.cells #[.string (strOfNums nm), .int .u64 ad, .int .u64 sz, .int .u64 of, .int .u64 fs, .int .i64 pr, .slice q1 N c1] 58)).drew.heap.size from Nat.le_trans hlw4 gA.size)
      have ONE := Lib.hid (show ∀ u ∈ ([.string (strOfNums nm), .int .u64 ad, .int .u64 sz, .int .u64 of, .int .u64 fs, .int .i64 pr, .slice q1 N c1] : List Value), u.oneCell' = true from by
        intro u hu
        simp only [List.mem_cons, List.not_mem_nil, or_false] at hu
        rcases hu with rfl | rfl | rfl | rfl | rfl | rfl | rfl <;> rfl)
      have GA := Lib.hid gA
      have ng : (Value.slice qs D cs).ownBlock ≠ some g := by
        rcases NG.out with e | e
        · rw [e]; simp
        · exact e
      have NGH := Lib.hid ng
      clear gA ng
      go_region_law (refine step_append_st segType (by with_reducible rfl) _ _ (by with_reducible rfl) _ D 1 rows (by rfl) OWA.out [.string (strOfNums nm), .int .u64 ad, .int .u64 sz, .int .u64 of, .int .u64 fs, .int .i64 pr, .slice q1 N c1] rfl w4.heap.size (by rfl) HNA.out ONE.out (by omega) (by decide) HLO.out ?_; intro v5 w5 ho5 hg5; obtain ⟨q5, c5, rfl⟩ := own_slice ho5; have c4' := ((AK.out.kept GA.out (by simp)).kept hg5 NGH.out).c 4 (.slice qs D cs) rfl; have f4' := ((AK.out.kept GA.out (by simp)).kept hg5 NGH.out).fz 4; have gl' := ((AK.out.kept GA.out (by simp)).kept hg5 NGH.out).lt)
      all_goals
        have HF := Lib.hid (HSG.out _ _ _ GA.out ho5 hg5)
        have hlo := fun g' (e : (Value.slice qs D cs).ownBlock = some g') => (OW.out.lt g' e).1
        have B5 := Lib.hid (B4.out.trans (Below.trans (below_grown GA.out hlw4 (by simp)) (below_grown hg5 HLO.out hlo)))
        have B6 := Lib.hid (B5.out.trans (below_of (grown_setCell (i := 4) (grown_refl w5 (some g)) (.slice q5 (D + 1) c5)) H4.out.lo1 (Nat.le_trans HLO.out hg5.size)))
        clear ho5 hg5 c4' f4' gl' B5
        go_wp2
        go_ret
        refine ⟨by rw [OF.out]; rfl, fun _ => ?_, B6.out⟩
        rw [ST.out, hNE, ← SE.out]
        exact HF.out
  · have OE := Lib.hid (OT.out.trans (if_pos h0))
    have H0 := Lib.hid h0
    have hne : (segErr b != 0) = true := by simpa using h0
    clear h0
    obtain ⟨E, hE⟩ : ∃ E, E = segErr b := ⟨_, rfl⟩
    rw [← hE] at hne
    have EE := Lib.hid hE
    go_enter Tryz.func79, Tryz.ntmps79
    go_wp2_with fail
    refine SG.out.mono ?_
    rintro e w1 ⟨q1, N, c1, base, hN, rfl, _, _, hg⟩
    have B1 := Lib.hid (below_grown hg HH.out.lt (by simp) : Below lo w w1)
    rw [SN.out, if_neg H0.out] at hN ⊢
    obtain rfl : N = 0 := hN
    rw [← hE]
    unfold segV segArr Seg.zero
    have B2 := Lib.hid (B1.out.trans (below_grown (grown1 w1 (.cells #[.string (strOfNums []), .int .u64 0, .int .u64 0, .int .u64 0, .int .u64 0, .int .i64 0, .slice q1 0 c1] 58)) (Nat.le_trans HH.out.lt hg.size) (by simp)))
    clear hg hE
    go_wp2
    go_ret
    exact ⟨by rw [OE.out, ← EE.out]; rfl, fun hz => absurd (OE.out.symm.trans hz) H0.out, B2.out⟩
end Go.Proofs.YtdagnkdonlfobaaGreat
