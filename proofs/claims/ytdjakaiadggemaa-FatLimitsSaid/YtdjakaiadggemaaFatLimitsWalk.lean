/- The walk of FatLimits: a file has just so many bytes as may be, and what would be one has, too. -/
import Derived.Test.YtdjakaiadggemaaMkFacts
import Derived.Test.YtdjakaiadggemaaKnown3
import Derived.Test.YtdjakaiadggemaaRefAll
import Derived.Laws.OwnMore
namespace Go.Proofs.Ytdjakaiadggemaa.fatLimits
open Go.RowKit

theorem u8_range {n : Int} (h : (Lit.int .u8 n).wf = true) : 0 ≤ n ∧ n < 256 := by
  simp [Lit.wf, IntKind.min, IntKind.max, IntKind.bits, IntKind.signed] at h
  omega
theorem small_zf (j : Nat) {f : Int} (hf : 0 ≤ f ∧ f < 256) : Small (List.replicate j 0 ++ [f]) := fun x hx => by
  rcases List.mem_append.1 hx with h | h
  · rw [List.eq_of_mem_replicate h]; decide
  · rw [List.mem_singleton.1 h]; exact hf
/-- The block of bytes, behind the store. -/
theorem zf_bytes {w1 : World} {g j c : Nat} {f : Int} (h : w1.ownsRow g 5 1 (.slice (some ⟨g, 0, none⟩) (j + 1) (j + 1)) (j + 1) (List.replicate (j + 1) (.int .u8 0))) :
    IsBytes (w1.setCell ⟨g, j, none⟩ (.int .u8 f)) (some ⟨g, 0, none⟩) c (List.replicate j 0 ++ [f]) ∧ w1.cell? ⟨g, j, none⟩ = some (.int .u8 0) ∧ w1.frozen? ⟨g, j, none⟩ = false ∧ g < w1.heap.size := by
  obtain ⟨_, hn | ⟨g', cap, cur, hv, _, hg, hle, hm, hs, ht⟩⟩ := h
  · obtain ⟨e, _⟩ := hn
    injection e with e; cases e
  injection hv with e1 _ e3
  injection e1 with e1
  injection e1 with e1
  subst e1 e3
  have hcur : cur = (List.replicate (j + 1) (Value.int .u8 0)).toArray := by
    have : cur.toList = List.replicate (j + 1) (Value.int .u8 0) := by
      rw [← ht, List.take_of_length_le (by simp [hs])]
    rw [← this]
  subst hcur
  have hset := heap_setCell_same w1 g j _ _ (.int .u8 f) hg
  refine ⟨IsBytes.mk_at fun i hi => ?_, ?_, ?_, lt_of_block hg⟩
  · rw [cell_of hset, Nat.zero_add]
    have hi' : i < j + 1 := by simpa using hi
    by_cases hij : i = j
    · subst hij
      simp
    · rw [Array.getElem?_setIfInBounds_ne (by omega)]
      simp [hi', List.getD_eq_getElem?_getD, show i < j by omega]
  · rw [cell_of hg]; simp
  · simp only [World.frozen?, hg]; simp
/-- One part, in a block of its own. -/
def part (q : Option Addr) (c : Nat) (ys : List Int) : Mb := ⟨16777228, 0, 0, q, c, ys⟩
theorem part_at {w1 : World} {g n : Nat} {q : Option Addr} {c : Nat} {ys : List Int} {T : TypeId} (hn : ys.length = n) (h : w1.heap[g]? = some (.cells #[.int .u32 16777228, .int .u32 0, .int .i64 0, .slice q n c] T (0, 0))) (hb : IsBytes w1 q c ys) :
    IsMbs w1 (some ⟨g, 0, none⟩) [part q c ys] := by
  subst hn
  intro _
  refine ⟨g, 0, rfl, fun i m hm => ?_⟩
  have hi : i = 0 := by
    rcases Nat.eq_zero_or_pos i with h | h
    · exact h
    · rw [List.getElem?_eq_none (by simp; omega)] at hm; cases hm
  subst hi
  injection hm with hm
  subst hm
  exact ⟨⟨by rw [cell_of h]; rfl, by rw [cell_of h]; rfl, by rw [cell_of h]; rfl, by rw [cell_of h]; rfl⟩, hb⟩

set_option maxHeartbeats 1600000 in
set_option maxRecDepth 20000 in
theorem walk (a0 a1 : Int) (a2 : Bool) (w : World) (_w0 : (Lit.int .i64 a0).wf = true) (w1 : (Lit.int .u8 a1).wf = true) :
    Calls Try.prog 6 #[.int .i64 a0, .int .u8 a1, .bool a2] w fun e w' => e = .returned (.bool true) ∧ Below w.heap.size w w' := by
  have hf : 0 ≤ a1 ∧ a1 < 256 := u8_range w1
  have K := Lib.hid (fun w : World => known_any (w := w))
  by_cases hlo : a0 < 1048536
  · go_enter Try.func6, Try.ntmps6
    go_wp2_with fail
    refine (K.out _).mono ?_
    rintro e w' ⟨rfl, hbel⟩
    have B := Lib.hid hbel
    clear hbel
    go_wp2
    go_ret
    exact ⟨rfl, B.out⟩
  by_cases hhi : 1048586 < a0
  · go_enter Try.func6, Try.ntmps6
    go_wp2_with fail
    refine (K.out _).mono ?_
    rintro e w' ⟨rfl, hbel⟩
    have B := Lib.hid hbel
    clear hbel
    go_wp2
    go_ret
    exact ⟨rfl, B.out⟩
  obtain ⟨N, hN⟩ : ∃ N : Nat, a0 = (N : Int) := ⟨a0.toNat, by omega⟩
  subst hN
  obtain ⟨j, hj⟩ : ∃ j : Nat, N = j + 1 := ⟨N - 1, by omega⟩
  have hsub : (N : Int) - 1 = j := by omega
  have hN1 : (N : Int) ≤ 1048586 := by omega
  have hjN : (j : Int) < N := by omega
  have NJ := Lib.hid hj
  obtain ⟨iu, hiu, hz0, hz1, hz2⟩ := info_parts info_u8
  have FF := Lib.hid hf
  have SM := Lib.hid (small_zf j hf)
  have HL := Lib.hid (show (List.replicate j (0 : Int) ++ [a1]).length = N by simp; omega)
  have HJ := Lib.hid (show N ≤ 1048586 by omega)
  clear w1 hf hj
  go_enter Try.func6, Try.ntmps6
  go_upto_region 4 with (at_make; refine wpList_make_full _ rfl _ _ 22 rfl w.heap.size 5 iu (.int .u8 0) 1 Try.underlying22 hiu hz0 hz1 .i64 .i64 _ _ N rfl rfl rfl rfl (by rw [hz2]; omega) (by unfold maxLen; omega) (Nat.le_refl _) ?_; (intro w1 hown hg1; clear hlo hhi; have hown2 : w1.ownsRow w.heap.size 5 1 (.slice (some ⟨w.heap.size, 0, none⟩) N N) N (List.replicate N (.int .u8 0)) := (by have := hown; rw [Nat.mul_one, show (Value.int IntKind.u8 0).cells = #[Value.int IntKind.u8 0] from rfl, toList_madeCells_one] at this; exact this); have ZF := Lib.hid (fun c => zf_bytes (f := a1) (c := c) (j := j) (by rw [← NJ.out]; exact hown2)); clear hown hown2; obtain ⟨_, y0, y1, y2⟩ := ZF.out 0; have G1 := Lib.hid hg1; clear hg1 hiu hz0 hz1 hz2))
  go_upto_region 5 with fail
  have hBY := (ZF.out N).1
  have hGW := grown_new G1.out (grown_setCell (i := j) (grown_refl w1 _) (.int .u8 a1)) (Nat.le_refl _)
  have hsz : w.heap.size < (w1.setCell ⟨w.heap.size, j, none⟩ (.int .u8 a1)).heap.size := by simpa using y2
  obtain ⟨W, hW⟩ : ∃ W, W = w1.setCell ⟨w.heap.size, j, none⟩ (.int .u8 a1) := ⟨_, rfl⟩
  rw [← hW] at hBY hGW hsz
  rw [← hW]
  obtain ⟨ys, hys⟩ : ∃ ys, ys = List.replicate j 0 ++ [a1] := ⟨_, rfl⟩
  rw [← hys] at hBY SM HL
  have BY := Lib.hid hBY
  have GW := Lib.hid hGW
  clear hBY hGW hsz hW hys ZF y0 y1 y2 G1
  have MK := Lib.hid (fun (w2 : World) (g : Nat) (hg : W.grownBy w2 none) (h : w2.heap[g]? = some (.cells #[.int .u32 16777228, .int .u32 0, .int .i64 0, .slice (some ⟨w.heap.size, 0, none⟩) N N] 56 (0, 0))) =>
    make_any (w := w2) a2 [part (some ⟨w.heap.size, 0, none⟩) N ys] 1 rfl (by omega) (some ⟨g, 0, none⟩) 1 (part_at HL.out h (BY.out.kept hg (by simp))) (by
      intro m hm
      rw [List.mem_singleton.1 hm]
      exact ⟨(by decide : (0 : Int) ≤ 16777228 ∧ (16777228 : Int) < 4294967296), (by decide : (0 : Int) ≤ 0 ∧ (0 : Int) < 4294967296), (by decide : (-9223372036854775808 : Int) ≤ 0 ∧ (0 : Int) ≤ 9223372036854775807), SM.out, by have := HL.out; show ys.length ≤ N; omega, by have := HJ.out; show N ≤ _; omega⟩) (by omega) (by omega))
  have MR := Lib.hid (fun (w2 : World) (g : Nat) (hg : W.grownBy w2 none) (h : w2.heap[g]? = some (.cells #[.int .u32 16777228, .int .u32 0, .int .i64 0, .slice (some ⟨w.heap.size, 0, none⟩) N N] 56 (0, 0))) =>
    refmake_any (w := w2) a2 [part (some ⟨w.heap.size, 0, none⟩) N ys] 1 rfl (by omega) (some ⟨g, 0, none⟩) 1 (part_at HL.out h (BY.out.kept hg (by simp))) (by
      intro m hm
      rw [List.mem_singleton.1 hm]
      exact ⟨(by decide : (0 : Int) ≤ 16777228 ∧ (16777228 : Int) < 4294967296), (by decide : (0 : Int) ≤ 0 ∧ (0 : Int) < 4294967296), (by decide : (-9223372036854775808 : Int) ≤ 0 ∧ (0 : Int) ≤ 9223372036854775807), SM.out, by have := HL.out; show ys.length ≤ N; omega, by have := HJ.out; show N ≤ _; omega⟩) (by
      intro m hm
      rw [List.mem_singleton.1 hm]
      have := HJ.out; have := HL.out
      show ys.length ≤ 1100000; omega))
  obtain ⟨hm1, hm2, hm3, hm4, hm5⟩ := makeN_len a2 [part (some ⟨w.heap.size, 0, none⟩) N ys]
  obtain ⟨⟨zs, er⟩, hr⟩ : ∃ r, r = makeN a2 [part (some ⟨w.heap.size, 0, none⟩) N ys] := ⟨_, rfl⟩
  rw [← hr] at MK MR hm1 hm2 hm3 hm4 hm5
  simp only [] at hm1 hm2 hm3 hm4 hm5
  have M2 := Lib.hid hm2
  have M3 := Lib.hid hm3
  have SA := Lib.hid (fun (w2 : World) (hg : W.grownBy w2 none) => slices_any (w := w2) ys (some ⟨w.heap.size, 0, none⟩) N N (BY.out.kept hg (by simp)) HL.out (Nat.le_refl _) (by omega) SM.out)
  have SB := Lib.hid (fun (w2 : World) (hg : W.grownBy w2 none) => refslices_any (w := w2) ys (some ⟨w.heap.size, 0, none⟩) N N (BY.out.kept hg (by simp)) HL.out (Nat.le_refl _) (by omega) SM.out)
  obtain ⟨⟨sl, se⟩, hs⟩ : ∃ r, r = slicesN ys := ⟨_, rfl⟩
  rw [← hs] at SA SB
  clear hr hs hm2 hm3
  go_wp2_with fail
  refine (MK.out _ W.heap.size (grown1 W _) (heap_alloc_new W _)).mono ?_
  rintro e w2 ⟨⟨q, c, rfl, _, _, _⟩, hg⟩
  have hG2 := grown_trans (grown1 W _) hg
  have G2 := Lib.hid hG2
  clear hg hG2
  simp only []
  go_wp2_with fail
  refine (MR.out _ w2.heap.size (grown_trans G2.out (grown1 w2 _)) (heap_alloc_new w2 _)).mono ?_
  rintro e w3 ⟨⟨q', c', rfl, _, _, _⟩, hg⟩
  have hG3 := grown_trans (grown_trans G2.out (grown1 w2 _)) hg
  have G3 := Lib.hid hG3
  clear hg hG3
  simp only []
  by_cases her : er = 0
  · subst her
    have h8 := M2.out rfl
    have hzl : (0 : Int) < zs.length := by omega
    have hd : decide (0 < zs.length) = true := by simp; omega
    clear hzl
    have HZ := Lib.hid h8
    go_wp2_with fail
    refine (SA.out _ G3.out).mono ?_
    rintro e w4 ⟨⟨qs, cs, rfl, _, _, _⟩, hg⟩
    have G4 := Lib.hid (grown_trans G3.out hg)
    clear hg
    simp only []
    go_wp2_with fail
    refine (SB.out _ G4.out).mono ?_
    rintro e w5 ⟨⟨qt, ct, rfl, _, _, _⟩, hg⟩
    have G5 := Lib.hid (grown_trans G4.out hg)
    clear hg
    simp only []
    go_wp2_with fail
    refine (K.out _).mono ?_
    rintro e w8 ⟨rfl, hbk⟩
    have hG := grown_trans GW.out G5.out
    have B := Lib.hid ((below_grown hG (Nat.le_refl _) (by simp)).trans (hbk.mono hG.size))
    clear hbk hG
    go_wp2
    go_ret
    exact ⟨rfl, B.out⟩
  · have hne : (er == 0) = false := by simpa using her
    have hzn : zs = [] := M3.out her
    subst hzn
    go_wp2_with fail
    refine (SA.out _ G3.out).mono ?_
    rintro e w4 ⟨⟨qs, cs, rfl, _, _, _⟩, hg⟩
    have G4 := Lib.hid (grown_trans G3.out hg)
    clear hg
    simp only []
    go_wp2_with fail
    refine (SB.out _ G4.out).mono ?_
    rintro e w5 ⟨⟨qt, ct, rfl, _, _, _⟩, hg⟩
    have G5 := Lib.hid (grown_trans G4.out hg)
    clear hg
    simp only []
    go_wp2_with fail
    refine (K.out _).mono ?_
    rintro e w8 ⟨rfl, hbk⟩
    have hG := grown_trans GW.out G5.out
    have B := Lib.hid ((below_grown hG (Nat.le_refl _) (by simp)).trans (hbk.mono hG.size))
    clear hbk hG
    go_wp2
    go_ret
    exact ⟨rfl, B.out⟩
end Go.Proofs.Ytdjakaiadggemaa.fatLimits
