/- Two lists of the same symbols are the same; and the chapter's own rows of layer 10, answered as it says: known() is true, and all that was in memory stays. No condition. -/
import Derived.Test.YtlmgkofbjcahaaaNlP
namespace Go.Proofs.Ytlmgkofbjcahaaa
open Go.RowKit Go.Maps
variable {w w' W V : World}

set_option maxRecDepth 20000 in
set_option maxHeartbeats 1600000 in
theorem same10_any (D : Syms) (n : Nat) (hn : D.length = n) (q1 q2 : Option Addr) (c1 c2 : Nat) (hm : n ≤ 9223372036854775807) (h1 : SysAt w q1 D) (h2 : SysAt w q2 D) :
    Calls Try.prog 12 #[.slice q1 n c1, .slice q2 n c2] w fun e w' => e = .returned (.bool true) ∧ w.grownBy w' none := by
  have P := Lib.hid h1
  have Q := Lib.hid h2
  have HN := Lib.hid hn
  clear h1 h2 hn
  go_enter Try.func12, Try.ntmps12
  go_wp2
  go_loopw [5] (fun i wr => ∃ k : Nat, k ≤ n ∧ i = .int .i64 k ∧ w.grownBy wr none) (fun i _ => n - (intOf i).toNat)
  case atStart => exact ⟨0, Nat.zero_le _, rfl, grown_refl _ _⟩
  case round =>
    obtain ⟨k, hk, rfl, hg⟩ := hrel
    by_cases hlt : k < n
    · obtain ⟨y, hy⟩ : ∃ y, D[k]? = some y := ⟨_, List.getElem?_eq_getElem (by rw [HN.out]; exact hlt)⟩
      obtain ⟨g, o, rfl, a0, a1, a2, a3⟩ := (P.out.grown hg).at hy
      obtain ⟨g', o', rfl, b0, b1, b2, b3⟩ := (Q.out.grown hg).at hy
      have G := Lib.hid hg
      clear hy hg
      go_wp2
      go_quiet (fail)
      go_wp2
      go_roundw
      case rel => exact ⟨k + 1, hlt, by go_num, grown_drewN G.out _⟩
      case measure => simp [intOf]; omega
    · have G := Lib.hid hg
      clear hg
      go_wp2
      go_ret
      exact ⟨rfl, G.out⟩

def rowE (k : Int) : List Int := [1, 0, 0, 0, k, 1, 0, 0, 8, 0, 0, 0, 0, 0, 0, 0]
def strE : List Int := [0, 97, 0]
def othE : List Int := [14, 31, 1, 47]
theorem rowE_all : nlAll (rowE 15) strE 1 = (0, [([97], ⟨1, 8, false⟩)]) := by kernel_rfl
theorem rowE_no : ∀ k ∈ othE, nlAll (rowE k) strE 1 = (0, []) := by
  intro k hk
  simp only [othE, List.mem_cons, List.not_mem_nil, or_false] at hk
  rcases hk with rfl | rfl | rfl | rfl <;> kernel_rfl
def BlkU (w : World) (g : Nat) (l : List Int) : Prop := w.heap[g]? = some (.cells (l.map (Value.int .u8)).toArray 5 (0, 0))
theorem BlkU.bytes {g : Nat} {l : List Int} (h : BlkU w g l) (c : Nat) : IsBytes w (some ⟨g, 0, none⟩) c l := by
  refine IsBytes.mk_at fun i hi => ?_
  rw [cell_of h]
  simp [hi]
theorem BlkU.kept {g : Nat} {l : List Int} {r : Option Nat} (h : BlkU w g l) (hg : w.grownBy w' r) (hr : r ≠ some g) : BlkU w' g l := (hg.block g (lt_of_block h) (fun e => hr e.symm)).trans h
theorem BlkU.below {g B : Nat} {l : List Int} (h : BlkU w g l) (hg : Below B w w') (hB : g < B) : BlkU w' g l := (hg.block g hB).trans h
theorem BlkU.new (w : World) (l : List Int) : BlkU (w.alloc (.cells (l.map (Value.int .u8)).toArray 5)) w.heap.size l := heap_alloc_new w _
theorem BlkU.set {g : Nat} {k j : Int} (h : BlkU w g (rowE k)) : BlkU (w.setCell ⟨g, 4, none⟩ (.int .u8 j)) g (rowE j) := by
  unfold BlkU at h ⊢
  rw [heap_setCell_same w g 4 _ _ _ h]
  rfl
/-- Where the loop over the other types stands. -/
structure KnL (w wr : World) (b1 b2 b3 : Nat) (vi : Value) : Prop where
  ex : ∃ (i : Nat) (k : Int), i ≤ 4 ∧ vi = .int .i64 (i : Int) ∧ BlkU wr b1 (rowE k)
  b2 : BlkU wr b2 strE
  b3 : BlkU wr b3 othE
  below : Below w.heap.size w wr
set_option maxRecDepth 20000 in
set_option maxHeartbeats 1600000 in
theorem known10_any (w : World) : Calls Try.prog 8 #[] w fun e w' => e = .returned (.bool true) ∧ w.grownBy w' none := by
  have BA : ∀ k, 0 ≤ k ∧ k < 256 → Byt (rowE k) := by intro k hk x hx; simp [rowE] at hx; omega
  have BB : Byt strE := by intro x hx; simp [strE] at hx; omega
  have b1 := BlkU.new w (rowE 15)
  have g1 := grown1 w (.cells ((rowE 15).map (Value.int .u8)).toArray 5)
  obtain ⟨w1, hw1⟩ : ∃ W, W = w.alloc (.cells ((rowE 15).map (Value.int .u8)).toArray 5) := ⟨_, rfl⟩
  rw [← hw1] at b1 g1
  have b2 := BlkU.new w1 strE
  have g2 := grown1 w1 (.cells (strE.map (Value.int .u8)).toArray 5)
  obtain ⟨w2, hw2⟩ : ∃ W, W = w1.alloc (.cells (strE.map (Value.int .u8)).toArray 5) := ⟨_, rfl⟩
  rw [← hw2] at b2 g2
  have b1' := b1.kept g2 (by simp)
  obtain ⟨x1, hx1⟩ : ∃ x, x = w.heap.size := ⟨_, rfl⟩
  obtain ⟨x2, hx2⟩ : ∃ x, x = w1.heap.size := ⟨_, rfl⟩
  rw [← hx1] at b1'
  rw [← hx2] at b2
  have hx12 : x1 + 1 = x2 := by rw [hx1, hx2, hw1]; simp
  have AF := Lib.hid (allP_any (n := 1) (b1'.bytes 16) rfl (by decide) (Nat.le_refl _) (by decide) (BA 15 (by decide)) (b2.bytes 3) rfl (by decide) BB)
  rw [rowE_all] at AF
  have G2 := Lib.hid (grown_trans g1 g2)
  have B1 := Lib.hid b1'
  have B2 := Lib.hid b2
  have hl2 : x2 < w2.heap.size := lt_of_block b2
  have HW1 := Lib.hid (show w.alloc (.cells #[.int .u8 1, .int .u8 0, .int .u8 0, .int .u8 0, .int .u8 15, .int .u8 1, .int .u8 0, .int .u8 0, .int .u8 8, .int .u8 0, .int .u8 0, .int .u8 0, .int .u8 0, .int .u8 0, .int .u8 0, .int .u8 0] 5) = w1 from hw1.symm)
  have HW2 := Lib.hid (show w1.alloc (.cells #[.int .u8 0, .int .u8 97, .int .u8 0] 5) = w2 from hw2.symm)
  have HX1 := Lib.hid hx1.symm
  have HX2 := Lib.hid hx12
  have hwx : w.heap.size ≤ x1 := by omega
  clear b1 g1 b2 g2 b1' hw1 hw2 hx1 hx2
  go_enter Try.func8, Try.ntmps8
  go_upto_region 3 with fail
  rw [HW1.out, HW2.out, HX1.out, HX2.out]
  clear HW1 HW2 HX1 HX2
  go_wp2_with fail
  refine AF.out.mono ?_
  rintro r w3 ⟨⟨q, c, rfl, hsa, hlc, hcm⟩, hbel⟩
  have G3 := Lib.hid (grown_trans G2.out (grown_below hbel none))
  have SA := Lib.hid hsa
  have B13 := Lib.hid (B1.out.kept (grown_below hbel none) (by simp))
  have B23 := Lib.hid (B2.out.kept (grown_below hbel none) (by simp))
  clear hsa hlc hcm hbel AF
  have g4 := grown1 w3 (.cells #[.string ⟨#[97]⟩, .int .i64 1, .int .u64 8, .bool false] 32)
  have s4 := SyAt.new w3 ⟨#[97]⟩ ⟨1, 8, false⟩
  obtain ⟨w4, hw4⟩ : ∃ W, W = w3.alloc (.cells #[.string ⟨#[97]⟩, .int .i64 1, .int .u64 8, .bool false] 32) := ⟨_, rfl⟩
  rw [← hw4] at g4 s4
  have SM := Lib.hid (same10_any [([97], ⟨1, 8, false⟩)] 1 rfl q (some ⟨w3.heap.size, 0, none⟩) c 1 (by decide) (SA.out.grown g4) (by
    intro i y hy
    match i, hy with
    | 0, hy =>
      injection hy with hy
      subst hy
      refine ⟨_, _, rfl, fun j hj => ?_⟩
      rw [Nat.zero_mul, Nat.zero_add, cell_of s4]
      match j, hj with
      | 0, _ => rfl
      | 1, _ => rfl
      | 2, _ => rfl
      | 3, _ => rfl))
  have G4 := Lib.hid (grown_trans G3.out g4)
  have B14 := Lib.hid (B13.out.kept g4 (by simp))
  have B24 := Lib.hid (B23.out.kept g4 (by simp))
  have HW4 := Lib.hid hw4
  have hR1 : List.length [(([97], ⟨1, 8, false⟩) : Sym)] = 1 := rfl
  rw [hR1]
  clear g4 s4 hw4 hR1 B13 B23 G3
  go_wp2_with fail
  rw [← HW4.out]
  refine SM.out.mono ?_
  rintro r w5 ⟨rfl, hg⟩
  have G5 := Lib.hid (grown_trans G4.out hg)
  have g6 := grown1 w5 (.cells (othE.map (Value.int .u8)).toArray 5)
  have b6 := BlkU.new w5 othE
  have HW6 : w5.alloc (.cells #[.int .u8 14, .int .u8 31, .int .u8 1, .int .u8 47] 5) = w5.alloc (.cells (othE.map (Value.int .u8)).toArray 5) := rfl
  obtain ⟨w6, hw6⟩ : ∃ W, W = w5.alloc (.cells (othE.map (Value.int .u8)).toArray 5) := ⟨_, rfl⟩
  obtain ⟨x3, hx3⟩ : ∃ x, x = w5.heap.size := ⟨_, rfl⟩
  rw [← hx3] at b6
  rw [← hw6] at g6 b6 HW6
  have hl5 : x2 < w5.heap.size := Nat.lt_of_lt_of_le (lt_of_block B24.out) hg.size
  have hx23 : x2 < x3 := by omega
  have KN := Lib.hid (show KnL w w6 x1 x2 x3 (.int .i64 0) from ⟨⟨0, 15, by decide, rfl, (B14.out.kept hg (by simp)).kept g6 (by simp)⟩, (B24.out.kept hg (by simp)).kept g6 (by simp), b6, below_grown (grown_trans G5.out g6) (Nat.le_refl _) (by simp)⟩)
  have HW := Lib.hid HW6
  have HX3 := Lib.hid hx3.symm
  clear hg g6 b6 hw6 HW6 hx3 SM HW4 SA G4 B14 B24
  go_upto_region 7 with fail
  rw [HW.out, HX3.out]
  clear HW HX3
  have AN := Lib.hid (fun (V : World) (k : Int) (hk : k ∈ othE) (h1 : BlkU V x1 (rowE k)) (h2 : BlkU V x2 strE) =>
    (show Calls Try.prog 9 #[.slice (some ⟨x1, 0, none⟩) 16 16, .slice (some ⟨x2, 0, none⟩) 3 3, .int .i64 1] V fun r w' => AlO V w' (0, []) r from by
      have := allP_any (n := 1) (L := 16) (h1.bytes 16) rfl (by decide) (Nat.le_refl _) (by decide) (BA k (by simp [othE] at hk; omega)) (h2.bytes 3) rfl (by decide) BB
      rw [rowE_no k hk] at this
      exact this))
  have hx13 : x1 ≠ x3 := by omega
  have hx12' : x1 ≠ x2 := by omega
  have MEM := Lib.hid (fun (i : Nat) (hi : i < 4) => (show othE.getD i 0 ∈ othE from by
    match i, hi with
    | 0, _ => simp [othE]
    | 1, _ => simp [othE]
    | 2, _ => simp [othE]
    | 3, _ => simp [othE]))
  have HWX := Lib.hid hwx
  clear BA BB hx23 hl5 hl2 hx12
  go_wp2
  go_loopw [6] (fun vi wr => KnL w wr x1 x2 x3 vi) (fun vi _ => 4 - (intOf vi).toNat)
  case atStart => exact KN.out
  case round =>
    obtain ⟨⟨i, k, hi, rfl, h1⟩, h2, h3, hb⟩ := hrel
    have H2 := Lib.hid h2
    have H3 := Lib.hid h3
    have HB := Lib.hid hb
    have G := Lib.hid (grown_below hb none)
    by_cases hlt : i < 4
    · have hm := MEM.out i hlt
      have c3 : wr.cell? ⟨x3, i, none⟩ = some (.int .u8 (othE.getD i 0)) := by
        rw [cell_of h3]
        simp [othE] at hlt ⊢
        match i, hlt with
        | 0, _ => rfl
        | 1, _ => rfl
        | 2, _ => rfl
        | 3, _ => rfl
      generalize othE.getD i 0 = kk at *
      have c1 : wr.cell? ⟨x1, 4, none⟩ = some (.int .u8 k) := by rw [cell_of h1]; rfl
      have f1 := free_of (i := 4) h1
      have gs := grown_setCell (i := 4) (grown_refl wr (some x1)) (.int .u8 kk)
      have h1s := h1.set (j := kk)
      have h2s := h2.kept gs (fun e => by injection e with e; exact hx12' e)
      have h3s := h3.kept gs (fun e => by injection e with e; exact hx13 e)
      have hbs := hb.trans (below_grown gs hb.size (by simp; exact HWX.out))
      have A1 := Lib.hid (AN.out _ kk hm h1s h2s)
      have dl : decide ((i : Int) < 4) = true := by simp; omega
      have NX := Lib.hid (fun (w7 : World) (hb7 : Below (wr.setCell ⟨x1, 4, none⟩ (.int .u8 kk)).heap.size (wr.setCell ⟨x1, 4, none⟩ (.int .u8 kk)) w7) => (show KnL w w7 x1 x2 x3 (.int .i64 ((i : Int) + 1)) from
        ⟨⟨i + 1, kk, hlt, by simp, h1s.kept (grown_below hb7 none) (by simp)⟩, h2s.kept (grown_below hb7 none) (by simp), h3s.kept (grown_below hb7 none) (by simp), hbs.trans (below_grown (grown_below hb7 none) hbs.size (by simp))⟩))
      have hiI : (i : Int) < 4 := by omega
      clear h1 h2 h3 hb gs h1s h2s h3s hbs hm
      go_wp2_with fail
      refine A1.out.mono ?_
      rintro r w7 ⟨⟨q7, c7, rfl, _, _, _⟩, hb7⟩
      have N7 := Lib.hid (NX.out w7 hb7)
      clear hb7 c1 c3 f1
      go_wp2
      go_roundw
      case rel => exact N7.out
      case measure => simp [intOf]; omega
    · have dl : decide ((i : Int) < 4) = false := by simp; omega
      clear h1 h2 h3 hb
      go_wp2
      go_ret
      exact ⟨rfl, G.out⟩
end Go.Proofs.Ytlmgkofbjcahaaa
