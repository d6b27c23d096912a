import Derived.Test.YtemdbfgpimfkdaaM16
import Derived.BigRegion
/- Spans are taken into an image in the making. No condition but that the command has at most 2^47 bytes. -/
namespace Go.Proofs.Ytemdbfgpimfkdaa
open Go.RowKit
variable {w w' : World} {lo g bm : Nat} {h : Hx} {s : St}

theorem spanApart : 30 ≠ 69 := by decide
/-- Of a row of spans: the cells of one. -/
theorem span_cells {base n c : Nat} {q : Option Addr} {l : List (Int × Int)} (hw : w.ownsRow base 30 2 (.slice q n c) n (l.flatMap spanCs)) {i : Nat} {x : Int × Int} (hx : l[i]? = some x) :
    ∃ r, q = some ⟨r, 0, none⟩ ∧ w.cell? ⟨r, i * 2, none⟩ = some (.int .u64 x.1) ∧ w.cell? ⟨r, i * 2 + 1, none⟩ = some (.int .u64 x.2) := by
  obtain ⟨r, hq, h0⟩ := row_cell spanCs_len hw hx (show 0 < 2 by decide)
  obtain ⟨r', hq', h1⟩ := row_cell spanCs_len hw hx (show 1 < 2 by decide)
  rw [hq] at hq'
  injection hq' with e
  injection e with e
  subst e
  exact ⟨r, hq, h0, h1⟩
theorem own_cap {base n c : Nat} {q : Option Addr} {T : TypeId} {k : Nat} {xs : List Value} (hw : w.ownsRow base T k (.slice q n c) n xs) : n ≤ c := by
  rcases hw.2 with ⟨e, e0⟩ | ⟨g, cap, cur, hv, _, _, h1, _⟩
  · injection e with _ _ e3; omega
  · injection hv with _ _ e3; omega

theorem MkgAt.put_rb {sv dv : Value} (k : MkgAt w g h s sv dv bm) (X Y : Int) : MkgAt ((w.setCell ⟨g, 6, none⟩ (.int .u64 X)).setCell ⟨g, 7, none⟩ (.int .u64 Y)) g h { s with rb := (X, Y) } sv dv bm := by
  unfold MkgAt
  rw [heap_setCell_same _ g 7 _ _ _ (heap_setCell_same w g 6 _ _ _ k)]
  rfl
theorem MkgAt.put_bd {sv dv : Value} (k : MkgAt w g h s sv dv bm) (X Y : Int) : MkgAt ((w.setCell ⟨g, 8, none⟩ (.int .u64 X)).setCell ⟨g, 9, none⟩ (.int .u64 Y)) g h { s with bd := (X, Y) } sv dv bm := by
  unfold MkgAt
  rw [heap_setCell_same _ g 9 _ _ _ (heap_setCell_same w g 8 _ _ _ k)]
  rfl
theorem MkgAt.put_wk {sv dv : Value} (k : MkgAt w g h s sv dv bm) (X Y : Int) : MkgAt ((w.setCell ⟨g, 10, none⟩ (.int .u64 X)).setCell ⟨g, 11, none⟩ (.int .u64 Y)) g h { s with wk := (X, Y) } sv dv bm := by
  unfold MkgAt
  rw [heap_setCell_same _ g 11 _ _ _ (heap_setCell_same w g 10 _ _ _ k)]
  rfl
theorem MkgAt.put_lz {sv dv : Value} (k : MkgAt w g h s sv dv bm) (X Y : Int) : MkgAt ((w.setCell ⟨g, 12, none⟩ (.int .u64 X)).setCell ⟨g, 13, none⟩ (.int .u64 Y)) g h { s with lz := (X, Y) } sv dv bm := by
  unfold MkgAt
  rw [heap_setCell_same _ g 13 _ _ _ (heap_setCell_same w g 12 _ _ _ k)]
  rfl
theorem MkgAt.drew {sv dv : Value} (k : MkgAt w g h s sv dv bm) : MkgAt w.drew g h s sv dv bm := k
theorem holds_info (H : Holds w lo g bm h s) (X0 Y0 X1 Y1 X2 Y2 X3 Y3 : Int) : Holds ((((((((w.setCell ⟨g, 6, none⟩ (.int .u64 X0)).setCell ⟨g, 7, none⟩ (.int .u64 Y0)).setCell ⟨g, 8, none⟩ (.int .u64 X1)).setCell ⟨g, 9, none⟩ (.int .u64 Y1)).setCell ⟨g, 10, none⟩ (.int .u64 X2)).setCell ⟨g, 11, none⟩ (.int .u64 Y2)).setCell ⟨g, 12, none⟩ (.int .u64 X3)).setCell ⟨g, 13, none⟩ (.int .u64 Y3)).drew lo g bm h { s with rb := (X0, Y0), bd := (X1, Y1), wk := (X2, Y2), lz := (X3, Y3) } ∧ w.grownBy ((((((((w.setCell ⟨g, 6, none⟩ (.int .u64 X0)).setCell ⟨g, 7, none⟩ (.int .u64 Y0)).setCell ⟨g, 8, none⟩ (.int .u64 X1)).setCell ⟨g, 9, none⟩ (.int .u64 Y1)).setCell ⟨g, 10, none⟩ (.int .u64 X2)).setCell ⟨g, 11, none⟩ (.int .u64 Y2)).setCell ⟨g, 12, none⟩ (.int .u64 X3)).setCell ⟨g, 13, none⟩ (.int .u64 Y3)).drew (some g) := by
  have gS : w.grownBy ((((((((w.setCell ⟨g, 6, none⟩ (.int .u64 X0)).setCell ⟨g, 7, none⟩ (.int .u64 Y0)).setCell ⟨g, 8, none⟩ (.int .u64 X1)).setCell ⟨g, 9, none⟩ (.int .u64 Y1)).setCell ⟨g, 10, none⟩ (.int .u64 X2)).setCell ⟨g, 11, none⟩ (.int .u64 Y2)).setCell ⟨g, 12, none⟩ (.int .u64 X3)).setCell ⟨g, 13, none⟩ (.int .u64 Y3)).drew (some g) := grown_drewN (grown_setCell (grown_setCell (grown_setCell (grown_setCell (grown_setCell (grown_setCell (grown_setCell (grown_setCell (grown_refl w (some g)) _) _) _) _) _) _) _) _) 1
  exact ⟨H.cells gS (fun sv dv a => ((((a.put_rb X0 Y0).put_bd X1 Y1).put_wk X2 Y2).put_lz X3 Y3).drew) rfl rfl rfl, gS⟩
/-- What the spans' command needs: what it is, and where it lies. -/
structure SpArg (w : World) (m : Cm) : Prop where
  cmd : m.cmd = cmdAt m.bytes
  fits : m.Fits
  at' : IsBytes w m.q m.cap m.bytes
  len : m.bytes.length ≤ 140737488355328
  kind : isInfo m.cmd ∨ isLone m.cmd ∨ m.cmd = 2

set_option maxHeartbeats 3200000 in
set_option maxRecDepth 20000 in
theorem addSpans_any (H : Holds w lo g bm h s) (m : Cm) (A : SpArg w m) (hl' : s.met.length < 900000) :
    Calls Try.prog 32 #[.pointer (some ⟨g, 0, none⟩), m.v] w fun e w' => AddOut w w' lo g bm h (spS s m.bytes) (spE s m.bytes) e := by
  have hl : s.met.length < 1000000 := by omega
  obtain ⟨cm, q, c, b⟩ := m
  obtain ⟨hcm, hfit, hib, hb47, hkind⟩ := A
  simp only [] at hcm hfit hib hb47 hkind
  unfold Cm.v
  simp only []
  obtain ⟨n, hn⟩ : ∃ n, b.length = n := ⟨_, rfl⟩
  rw [hn] at hb47 ⊢
  have g1 := grown1 w (.cells #[.int .u32 cm, .slice q n c] 44)
  have HA := Lib.hid (H.grown g1)
  have CA := Lib.hid (show (w.alloc (.cells #[.int .u32 cm, .slice q n c] 44)).heap[w.heap.size]? = some (.cells #[.int .u32 cm, .slice q n c] 44 (0, 0)) from heap_alloc_new w _)
  have BA := Lib.hid (below_grown g1 H.lt (by simp) : Below lo w (w.alloc (.cells #[.int .u32 cm, .slice q n c] 44)))
  have IA := Lib.hid (hib.kept g1 (by simp))
  obtain ⟨wA, hwA⟩ : ∃ wA, w.alloc (.cells #[.int .u32 cm, .slice q n c] 44) = wA := ⟨_, rfl⟩
  obtain ⟨x, hx⟩ : ∃ x, w.heap.size = x := ⟨_, rfl⟩
  rw [hwA] at HA CA BA IA
  rw [hx] at CA
  have SP := Lib.hid (Spans_any (w := wA) b q c n IA.out hn hb47 hfit.bytes)
  have CM := Lib.hid hcm
  have k0 : wA.cell? ⟨x, 0, none⟩ = some (.int .u32 cm) := by rw [cell_of CA.out]; rfl
  have k1 : wA.cell? ⟨x, 1, none⟩ = some (.slice q n c) := by rw [cell_of CA.out]; rfl
  have kl := lt_of_block CA.out
  have OT := Lib.hid (show spE s b = if spansErr b ≠ 0 then spansErr b else if isInfo (cmdAt b) then (if onceE s 34 ≠ 0 then onceE s 34 else trieE (infoS s b) (spanAt b 40 1)) else if cmdAt b = 2147483699 then trieE s (spanAt b 8 1) else onceE s (cmdAt b) from rfl)
  have ST := Lib.hid (show spS s b = if isInfo (cmdAt b) then trieS (infoS s b) (spanAt b 40 1) else if cmdAt b = 2147483699 then trieS s (spanAt b 8 1) else if cmdAt b = 2147483700 then { s with ch := spanAt b 8 1 }.meet (cmdAt b) else { s with sy := spanAt b 8 16, st := spanAt b 16 1 }.meet (cmdAt b) from rfl)
  have FO := Lib.hid (show spansOf b = if isInfo (cmdAt b) then [spanAt b 8 1, spanAt b 16 1, spanAt b 24 1, spanAt b 32 1, spanAt b 40 1] else if isLone (cmdAt b) then [spanAt b 8 1] else if cmdAt b = 2 then [spanAt b 8 16, spanAt b 16 1] else [] from rfl)
  rw [← hcm] at OT ST FO
  clear H hib hfit hcm g1 hn
  by_cases h0 : spansErr b = 0
  rotate_left
  · have OE := Lib.hid (OT.out.trans (if_pos h0))
    have H0 := Lib.hid h0
    have hne : (spansErr b != 0) = true := by simpa using h0
    obtain ⟨E, hE⟩ : ∃ E, E = spansErr b := ⟨_, rfl⟩
    rw [← hE] at hne
    have EE := Lib.hid hE
    clear h0 hE
    go_enter Try.func32, Try.ntmps32
    go_wp2_with fail
    refine SP.out.mono ?_
    rintro e w1 ⟨hbad, _, hg⟩
    have B1 := Lib.hid (BA.out.trans (below_grown hg HA.out.lt (by simp)))
    obtain rfl := hbad H0.out
    rw [← EE.out]
    clear hbad hg
    go_wp2
    go_ret
    exact ⟨by rw [OE.out, ← EE.out]; rfl, fun hz => absurd (OE.out.symm.trans hz) H0.out, B1.out⟩
  have OE := Lib.hid (OT.out.trans (if_neg (fun h => h h0)))
  have H0 := Lib.hid h0
  clear h0 OT
  by_cases hi : isInfo cm
  · have OI := Lib.hid (OE.out.trans (if_pos hi))
    have SI := Lib.hid (ST.out.trans (if_pos hi))
    have FI := Lib.hid (FO.out.trans (if_pos hi))
    have hbs : (cm == 34) = true ∨ ((cm == 34) = false ∧ (cm == 2147483682) = true) := by
      rcases hi with rfl | rfl
      · exact .inl rfl
      · exact .inr ⟨rfl, rfl⟩
    have OI0 := Lib.hid (show onceE s 34 = if (34 : Int) ∈ s.met then 21 else 0 from rfl)
    clear OE ST FO hi hkind
    rcases hbs with b1 | ⟨b1, b2⟩
    all_goals
      go_enter Try.func32, Try.ntmps32
      go_wp2_with fail
      refine SP.out.mono ?_
      rintro e w1 ⟨_, hgood, hg⟩
      obtain ⟨q1, N, c1, base, hN, rfl, hown, hbase⟩ := hgood H0.out
      rw [FI.out] at hN hown
      obtain rfl : N = 5 := hN
      have e0 := grown_cell hg k0
      have e1 := grown_cell hg k1
      have H1 := Lib.hid (HA.out.grown hg)
      have B1 := Lib.hid (BA.out.trans (below_grown hg HA.out.lt (by simp)))
      have OW := Lib.hid hown
      have ON := Lib.hid (once_both H1.out 34 (by decide) hl)
      clear hgood hg hown hbase
      go_wp2_with fail
      refine ON.out.mono ?_
      rintro e w2 ⟨hO, hgm⟩
      have OO := Lib.hid hO
      have RB := Lib.hid (OW.out.kept hgm (row_off_map OW.out H1.out.met))
      obtain rfl := hO.val
      have B2 := Lib.hid (B1.out.trans OO.out.below)
      clear hO hgm ON
      by_cases hin : (34 : Int) ∈ s.met
      · have E21 := OI0.out.trans (if_pos hin)
        rw [E21]
        have OZ := Lib.hid (OI.out.trans (if_pos (by rw [E21]; decide)))
        have EH := Lib.hid E21
        clear E21 hin e0 e1
        go_wp2
        go_ret
        exact ⟨by rw [OZ.out, EH.out]; rfl, fun hz => (by rw [OZ.out, EH.out] at hz; cases hz), B2.out⟩
      · have E0 := OI0.out.trans (if_neg hin)
        rw [E0]
        have OZ := Lib.hid (OI.out.trans (if_neg (by rw [E0]; decide)))
        have H2 := Lib.hid (OO.out.good E0)
        obtain ⟨⟨X0, Y0⟩, h0e⟩ : ∃ z, z = spanAt b 8 1 := ⟨_, rfl⟩
        obtain ⟨⟨X1, Y1⟩, h1e⟩ : ∃ z, z = spanAt b 16 1 := ⟨_, rfl⟩
        obtain ⟨⟨X2, Y2⟩, h2e⟩ : ∃ z, z = spanAt b 24 1 := ⟨_, rfl⟩
        obtain ⟨⟨X3, Y3⟩, h3e⟩ : ∃ z, z = spanAt b 32 1 := ⟨_, rfl⟩
        obtain ⟨⟨X4, Y4⟩, h4e⟩ : ∃ z, z = spanAt b 40 1 := ⟨_, rfl⟩
        have IS := Lib.hid (show infoS s b = { s.meet 34 with rb := spanAt b 8 1, bd := spanAt b 16 1, wk := spanAt b 24 1, lz := spanAt b 32 1 } from rfl)
        rw [← h0e, ← h1e, ← h2e, ← h3e] at IS
        rw [← h0e, ← h1e, ← h2e, ← h3e, ← h4e] at RB
        rw [← h4e] at OZ SI
        obtain ⟨r, rfl, r0, r1⟩ := span_cells RB.out (i := 0) rfl
        obtain ⟨r', hr', r2, r3⟩ := span_cells RB.out (i := 1) rfl
        obtain rfl : r' = r := by injection hr' with e; injection e with e; exact e.symm
        obtain ⟨r'', hr'', r4, r5⟩ := span_cells RB.out (i := 2) rfl
        obtain rfl : r'' = r' := by injection hr'' with e; injection e with e; exact e.symm
        obtain ⟨ra, hra, r6, r7⟩ := span_cells RB.out (i := 3) rfl
        obtain rfl : ra = r'' := by injection hra with e; injection e with e; exact e.symm
        obtain ⟨rb, hrb, r8, r9⟩ := span_cells RB.out (i := 4) rfl
        obtain rfl : rb = ra := by injection hrb with e; injection e with e; exact e.symm
        simp only [] at r0 r1 r2 r3 r4 r5 r6 r7 r8 r9
        have hcap := own_cap RB.out
        have hc4 : ¬ c1 = 4 := by omega
        have hc5 : (5 : Int) ≤ (c1 : Int) := by omega
        have e0' : True := trivial
        obtain ⟨sv, dv, a1⟩ := H2.out.at
        have c6 := a1.c 6 (.int .u64 s.rb.1) rfl
        have c7 := a1.c 7 (.int .u64 s.rb.2) rfl
        have c8 := a1.c 8 (.int .u64 s.bd.1) rfl
        have c9 := a1.c 9 (.int .u64 s.bd.2) rfl
        have c10 := a1.c 10 (.int .u64 s.wk.1) rfl
        have c11 := a1.c 11 (.int .u64 s.wk.2) rfl
        have c12 := a1.c 12 (.int .u64 s.lz.1) rfl
        have c13 := a1.c 13 (.int .u64 s.lz.2) rfl
        have f6 := a1.fz 6
        have f7 := a1.fz 7
        have f8 := a1.fz 8
        have f9 := a1.fz 9
        have f10 := a1.fz 10
        have f11 := a1.fz 11
        have f12 := a1.fz 12
        have f13 := a1.fz 13
        have gl := a1.lt
        clear h0e h1e h2e h3e h4e hr' hr'' hra hrb E0 hin e0 e1 a1 e0'
        go_upto_region 13 with fail
        go_region
        obtain ⟨H3, gS⟩ := holds_info H2.out X0 Y0 X1 Y1 X2 Y2 X3 Y3
        have H3 := (IS.out ▸ H3 : Holds _ lo g bm h (infoS s b))
        have B3 := B2.out.trans (below_of gS H2.out.lo1 H2.out.lt)
        have hne : (some g : Option Nat) ≠ some rb := by
          obtain ⟨sv, dv, a1⟩ := H2.out.at
          rcases row_off RB.out a1 spanApart with e | e
          · simp [Value.ownBlock] at e
          · intro e'
            exact e (by simp only [Value.ownBlock]; exact e'.symm)
        have q8 := gS.cell r8 hne.symm
        have q9 := gS.cell r9 hne.symm
        obtain ⟨W, hW⟩ : ∃ W, ((((((((w2.setCell ⟨g, 6, none⟩ (.int .u64 X0)).setCell ⟨g, 7, none⟩ (.int .u64 Y0)).setCell ⟨g, 8, none⟩ (.int .u64 X1)).setCell ⟨g, 9, none⟩ (.int .u64 Y1)).setCell ⟨g, 10, none⟩ (.int .u64 X2)).setCell ⟨g, 11, none⟩ (.int .u64 Y2)).setCell ⟨g, 12, none⟩ (.int .u64 X3)).setCell ⟨g, 13, none⟩ (.int .u64 Y3)).drew = W := ⟨_, rfl⟩
        rw [hW] at H3 B3 q8 q9 ⊢
        have TR := Lib.hid (addTrie_any H3 (X4, Y4) (show (infoS s b).met.length < 1000000 by rw [IS.out]; show (s.met ++ [34]).length < _; rw [List.length_append]; show s.met.length + 1 < _; omega))
        unfold spanV at TR
        simp only [] at TR
        have BB := Lib.hid B3
        clear hW gS H3 B3 r0 r1 r2 r3 r4 r5 r6 r7 r8 r9 c6 c7 c8 c9 c10 c11 c12 c13 f6 f7 f8 f9 f10 f11 f12 f13 gl hne
        go_wp2_with fail
        refine TR.out.mono ?_
        intro e w4 hO
        have OO2 := Lib.hid (hO.after BB.out)
        obtain rfl := hO.val
        clear hO
        go_wp2
        go_ret
        exact ⟨by rw [OZ.out]; rfl, fun hz => by rw [SI.out]; exact OO2.out.good (OZ.out.symm.trans hz), OO2.out.below⟩
  by_cases h99 : cm = 2147483699
  · have OI := Lib.hid (OE.out.trans ((if_neg hi).trans (if_pos h99)))
    have SI := Lib.hid (ST.out.trans ((if_neg hi).trans (if_pos h99)))
    have FI := Lib.hid (FO.out.trans ((if_neg hi).trans (if_pos (.inl h99))))
    subst h99
    clear OE ST FO hi hkind
    go_enter Try.func32, Try.ntmps32
    go_wp2_with fail
    refine SP.out.mono ?_
    rintro e w1 ⟨_, hgood, hg⟩
    obtain ⟨q1, N, c1, base, hN, rfl, hown, hbase⟩ := hgood H0.out
    rw [FI.out] at hN hown
    obtain rfl : N = 1 := hN
    obtain ⟨r, rfl, r0, r1⟩ := span_cells hown (i := 0) rfl
    have e0 := grown_cell hg k0
    have e1 := grown_cell hg k1
    have H1 := Lib.hid (HA.out.grown hg)
    have B1 := Lib.hid (BA.out.trans (below_grown hg HA.out.lt (by simp)))
    have TR := Lib.hid (addTrie_any H1.out (spanAt b 8 1) hl)
    unfold spanV at TR
    obtain ⟨⟨X, Y⟩, hXY⟩ : ∃ z, z = spanAt b 8 1 := ⟨_, rfl⟩
    rw [← hXY] at r0 r1 TR OI SI
    simp only [] at r0 r1 TR
    clear hgood hg hown hbase hXY k0 k1
    go_wp2_with fail
    refine TR.out.mono ?_
    intro e w2 hO
    have OO := Lib.hid (hO.after B1.out)
    obtain rfl := hO.val
    clear hO
    go_wp2
    go_ret
    exact ⟨by rw [OI.out]; rfl, fun hz => by rw [SI.out]; exact OO.out.good (OI.out.symm.trans hz), OO.out.below⟩
  by_cases h70 : cm = 2147483700
  · have OI := Lib.hid (OE.out.trans ((if_neg hi).trans (if_neg h99)))
    have SI := Lib.hid (ST.out.trans ((if_neg hi).trans ((if_neg h99).trans (if_pos h70))))
    have FI := Lib.hid (FO.out.trans ((if_neg hi).trans (if_pos (.inr h70))))
    subst h70
    clear OE ST FO hi hkind h99
    go_enter Try.func32, Try.ntmps32
    go_wp2_with fail
    refine SP.out.mono ?_
    rintro e w1 ⟨_, hgood, hg⟩
    obtain ⟨q1, N, c1, base, hN, rfl, hown, hbase⟩ := hgood H0.out
    rw [FI.out] at hN hown
    obtain rfl : N = 1 := hN
    obtain ⟨r, rfl, r0, r1⟩ := span_cells hown (i := 0) rfl
    have e0 := grown_cell hg k0
    have e1 := grown_cell hg k1
    have H1 := Lib.hid (HA.out.grown hg)
    have B1 := Lib.hid (BA.out.trans (below_grown hg HA.out.lt (by simp)))
    obtain ⟨⟨X, Y⟩, hXY⟩ : ∃ z, z = spanAt b 8 1 := ⟨_, rfl⟩
    rw [← hXY] at r0 r1 SI
    simp only [] at r0 r1
    obtain ⟨sv, dv, a1⟩ := H1.out.at
    have c16 := a1.c 16 (.int .u64 s.ch.1) rfl
    have c17 := a1.c 17 (.int .u64 s.ch.2) rfl
    have f16 := a1.fz 16
    have f17 := a1.fz 17
    have gl := a1.lt
    have gS := grown_setCell (i := 17) (grown_setCell (i := 16) (grown_refl w1 (some g)) (.int .u64 X)) (.int .u64 Y)
    have H2 := Lib.hid (H1.out.cells (s' := { s with ch := (X, Y) }) gS (fun sv dv a => by
      unfold MkgAt
      rw [heap_setCell_same _ g 17 _ _ _ (heap_setCell_same w1 g 16 _ _ _ a)]
      rfl) rfl rfl rfl)
    have B2 := Lib.hid (B1.out.trans (below_of gS H1.out.lo1 H1.out.lt))
    have ON := Lib.hid (once_any H2.out 2147483700 (by decide) hl)
    clear hgood hg hown hbase hXY k0 k1 a1 gS
    go_wp2_with fail
    refine ON.out.mono ?_
    intro e w2 hO
    have OO := Lib.hid (hO.after B2.out)
    obtain rfl := hO.val
    clear hO
    go_wp2
    go_ret
    exact ⟨by rw [OI.out]; rfl, fun hz => by rw [SI.out]; exact OO.out.good (OI.out.symm.trans hz), OO.out.below⟩
  have h2 : cm = 2 := by
    rcases hkind with h | h | h
    · exact absurd h hi
    · rcases h with h | h
      · exact absurd h h99
      · exact absurd h h70
    · exact h
  have OI := Lib.hid (OE.out.trans ((if_neg hi).trans (if_neg h99)))
  have SI := Lib.hid (ST.out.trans ((if_neg hi).trans ((if_neg h99).trans (if_neg h70))))
  have FI := Lib.hid (FO.out.trans ((if_neg hi).trans ((if_neg (by rintro (h | h); exact h99 h; exact h70 h)).trans (if_pos h2))))
  subst h2
  clear OE ST FO hi hkind h99 h70
  go_enter Try.func32, Try.ntmps32
  go_wp2_with fail
  refine SP.out.mono ?_
  rintro e w1 ⟨_, hgood, hg⟩
  obtain ⟨q1, N, c1, base, hN, rfl, hown, hbase⟩ := hgood H0.out
  rw [FI.out] at hN hown
  obtain rfl : N = 2 := hN
  obtain ⟨r, rfl, r0, r1⟩ := span_cells hown (i := 0) rfl
  obtain ⟨r', hr', r2, r3⟩ := span_cells hown (i := 1) rfl
  obtain rfl : r' = r := by injection hr' with e; injection e with e; exact e.symm
  have e0 := grown_cell hg k0
  have e1 := grown_cell hg k1
  have H1 := Lib.hid (HA.out.grown hg)
  have B1 := Lib.hid (BA.out.trans (below_grown hg HA.out.lt (by simp)))
  obtain ⟨⟨X, Y⟩, hXY⟩ : ∃ z, z = spanAt b 8 16 := ⟨_, rfl⟩
  obtain ⟨⟨Z, V⟩, hZV⟩ : ∃ z, z = spanAt b 16 1 := ⟨_, rfl⟩
  rw [← hXY] at r0 r1 SI
  rw [← hZV] at r2 r3 SI
  simp only [] at r0 r1 r2 r3
  clear hgood hg hown hbase hXY hZV k0 k1 hr'
  go_upto_region 17 with fail
  have gD : w1.grownBy w1.drew none := grown_drewN (grown_refl w1 none) 1
  have H2 := Lib.hid (H1.out.grown gD)
  have B2 := Lib.hid (B1.out.trans (below_grown gD H1.out.lt (by simp)))
  clear gD
  obtain ⟨sv, dv, a1⟩ := H1.out.at
  have c18 := a1.c 18 (.int .u64 s.sy.1) rfl
  have c19 := a1.c 19 (.int .u64 s.sy.2) rfl
  have c20 := a1.c 20 (.int .u64 s.st.1) rfl
  have c21 := a1.c 21 (.int .u64 s.st.2) rfl
  have f18 := a1.fz 18
  have f19 := a1.fz 19
  have f20 := a1.fz 20
  have f21 := a1.fz 21
  have gl := a1.lt
  clear a1
  have gS : w1.grownBy ((((w1.setCell ⟨g, 18, none⟩ (.int .u64 X)).setCell ⟨g, 19, none⟩ (.int .u64 Y)).setCell ⟨g, 20, none⟩ (.int .u64 Z)).setCell ⟨g, 21, none⟩ (.int .u64 V)).drew (some g) :=
    grown_drewN (grown_setCell (grown_setCell (grown_setCell (grown_setCell (grown_refl w1 (some g)) _) _) _) _) 1
  have H3 := Lib.hid (H1.out.cells (s' := { s with sy := (X, Y), st := (Z, V) }) gS (fun sv dv a => by
    unfold MkgAt
    show ((((w1.setCell ⟨g, 18, none⟩ (.int .u64 X)).setCell ⟨g, 19, none⟩ (.int .u64 Y)).setCell ⟨g, 20, none⟩ (.int .u64 Z)).setCell ⟨g, 21, none⟩ (.int .u64 V)).heap[g]? = _
    rw [heap_setCell_same _ g 21 _ _ _ (heap_setCell_same _ g 20 _ _ _ (heap_setCell_same _ g 19 _ _ _ (heap_setCell_same w1 g 18 _ _ _ a)))]
    rfl) rfl rfl rfl)
  have B3 := Lib.hid (B1.out.trans (below_of gS H1.out.lo1 H1.out.lt))
  have ON := Lib.hid (once_any H3.out 2 (by decide) hl)
  clear gS H2 B2
  go_region
  go_wp2_with fail
  refine ON.out.mono ?_
  intro e w2 hO
  have OO := Lib.hid (hO.after B3.out)
  obtain rfl := hO.val
  clear hO
  go_wp2
  go_ret
  exact ⟨by rw [OI.out]; rfl, fun hz => by rw [SI.out]; exact OO.out.good (OI.out.symm.trans hz), OO.out.below⟩
end Go.Proofs.Ytemdbfgpimfkdaa
