import Derived.Test.YtdagnkdonlfobaaGreatM24
import Derived.BigRegion
/- Spans and the entry are taken into the document's image in the making. No condition but that the command has at most 2^47 bytes. -/
namespace Go.Proofs.YtdagnkdonlfobaaGreat
open Go.RowKit
variable {w w' : World} {lo g : Nat} {h : Hx} {s : St}

theorem HoldsR.as {s' : St} {f f' : Fl} {k k' : Int} (H : HoldsR w lo g h s f k) (hs : { s with met := [], secs := 0 } = { s' with met := [], secs := 0 }) (hf : f = f') (hk : k = k') : HoldsR w lo g h s' f' k' := by
  subst hf hk
  obtain ⟨a1, a2, a3, a4, a5, a6, a7, a8, a9, a10, a11, a12, a13, a14, a15⟩ := s
  obtain ⟨b1, b2, b3, b4, b5, b6, b7, b8, b9, b10, b11, b12, b13, b14, b15⟩ := s'
  simp only [St.mk.injEq, and_true] at hs
  obtain ⟨rfl, rfl, rfl, rfl, rfl, rfl, rfl, rfl, rfl, rfl, rfl, rfl, rfl⟩ := hs
  exact ⟨H.ex, H.lo1⟩
theorem IsBytes.old {w w' : World} {q : Option Addr} {c g : Nat} {ys : List Int} {lo : Nat} (h : IsBytes w q c ys) (hq : ∀ x, q = some x → x.block < lo) (hl : lo ≤ g) (hg : w.grownBy w' (some g)) : IsBytes w' q c ys :=
  h.kept hg (fun x hx e => by injection e with e; have := hq x hx; omega)

set_option maxRecDepth 20000 in
theorem rentry_any {f : Fl} {k : Int} (H : HoldsR w lo g h s f k) (b : List Int) (q : Option Addr) (c n : Nat) (hb : IsBytes w q c b) (hn : b.length = n) (hc : n ≤ c) (hcm : c ≤ 9223372036854775807) (hr : Small b) (hs : ¬ shortB b) (hq : ∀ x, q = some x → x.block < lo) (he : cmdAt b = 2147483688) :
    Calls Tryz.prog 83 #[.pointer (some ⟨g, 0, none⟩), .int .u32 2147483688, .slice q n c] w fun e w' => SeenOut w w' lo g h ({ s with entry := numAt b 8 8, has := true }) { f with en := true } k (if f.en = true then 21 else 0) e := by
  have SP := Lib.hid (refSpans_none (w := w) b hb hn hc hcm hr hs he)
  have h24 : 24 ≤ n := by
    have h1 : ¬ ((b.length : Int) < leastN (cmdAt b)) := fun h => hs (.inr h)
    rw [he, show leastN 2147483688 = 24 by decide] at h1
    omega
  have AT := Lib.hid (fun (w1 : World) (i : IsBytes w1 q c b) => (by have := numat_any (w := w1) b i hn hc hcm hr 8 8 ⟨by decide, by decide⟩ (by omega); exact this : Calls Tryz.prog 103 #[.slice q n c, .int .i64 8, .int .i64 8] w1 fun e w' => e = .returned (.int .u64 (numAt b 8 8)) ∧ w1 = w'))
  obtain ⟨V, hV⟩ : ∃ V, V = numAt b 8 8 := ⟨_, rfl⟩
  rw [← hV] at AT ⊢
  obtain ⟨fn, fc, fy, fe, fp⟩ := f
  have HH := Lib.hid H
  have IB := Lib.hid hb
  have HQ := Lib.hid hq
  clear H hb hn hr hs he h24 hV hq
  obtain ⟨sv, dv, a1⟩ := HH.out.at
  have c27 := a1.c 27 (.bool fe) rfl
  have f27 := a1.fz 27
  have gl := a1.lt
  have ON := Lib.hid (once5_any c27 f27 gl)
  have gS := grown_setCell (i := 27) (grown_refl w (some g)) (.bool true)
  have H2 := Lib.hid (HH.out.cells (s' := s) (f' := ⟨fn, fc, fy, true, fp⟩) (k' := k) gS (fun sv dv a => by
      unfold SeenAt
      rw [heap_setCell_same w g 27 _ _ _ a]
      rfl) rfl rfl)
  have GS := Lib.hid gS
  have BS := Lib.hid (below_of GS.out HH.out.lo1 HH.out.lt)
  have I2 := Lib.hid (IB.out.old HQ.out HH.out.lo1 GS.out)
  clear a1 gS c27 f27
  cases fe
  · go_enter Tryz.func83, Tryz.ntmps83
    go_wp2_with fail
    refine SP.out.mono ?_
    rintro e w1 ⟨rfl, rfl⟩
    go_wp2_with fail
    refine ON.out.mono ?_
    rintro e w2 ⟨rfl, rfl⟩
    obtain ⟨W, hW⟩ : ∃ W, w.setCell ⟨g, 27, none⟩ (.bool true) = W := ⟨_, rfl⟩
    rw [hW] at H2 I2 BS ⊢
    clear hW
    obtain ⟨sv2, dv2, a2⟩ := H2.out.at
    have c22 := a2.c 22 (.int .u64 s.entry) rfl
    have c23 := a2.c 23 (.bool s.has) rfl
    have f22 := a2.fz 22
    have f23 := a2.fz 23
    have gl2 := a2.lt
    have gT := grown_setCell (i := 23) (grown_setCell (i := 22) (grown_refl W (some g)) (.int .u64 V)) (.bool true)
    have H3 := Lib.hid (H2.out.cells (s' := { s with entry := V, has := true }) (f' := ⟨fn, fc, fy, true, fp⟩) (k' := k) gT (fun sv dv a => by
      unfold SeenAt
      rw [heap_setCell_same _ g 23 _ _ _ (heap_setCell_same W g 22 _ _ _ a)]
      rfl) rfl rfl)
    have B3 := Lib.hid (BS.out.trans (below_of gT H2.out.lo1 H2.out.lt))
    clear a2 gT
    go_wp2_with fail
    refine (AT.out _ I2.out).mono ?_
    rintro e w3 ⟨rfl, rfl⟩
    go_wp2
    go_ret
    exact ⟨rfl, fun _ => H3.out, B3.out⟩
  · go_enter Tryz.func83, Tryz.ntmps83
    go_wp2_with fail
    refine SP.out.mono ?_
    rintro e w1 ⟨rfl, rfl⟩
    go_wp2_with fail
    refine ON.out.mono ?_
    rintro e w2 ⟨rfl, rfl⟩
    go_wp2
    go_ret
    exact ⟨rfl, fun hz => (by cases hz), BS.out⟩
set_option maxHeartbeats 3200000 in
set_option maxRecDepth 20000 in
theorem rtriec_any {f : Fl} {k : Int} (H : HoldsR w lo g h s f k) (b : List Int) (q : Option Addr) (c n : Nat) (hb : IsBytes w q c b) (hn : b.length = n) (hc : n ≤ c) (hcm : c ≤ 9223372036854775807) (hr : Small b) (hs : ¬ shortB b) (_hq : ∀ x, q = some x → x.block < lo) (he : cmdAt b = 2147483699) :
    Calls Tryz.prog 83 #[.pointer (some ⟨g, 0, none⟩), .int .u32 2147483699, .slice q n c] w fun e w' => SeenOut w w' lo g h (rtrieS s (spanAt b 8 1)) f k (rtrieE s (spanAt b 8 1)) e := by
  have SP := Lib.hid (refSpans_any (w := w) b hb hn hc hcm hr hs (by rw [he]; exact .inr (.inl (.inl rfl))))
  have SPE := Lib.hid (show spansOf b = [spanAt b 8 1] by unfold spansOf; rw [he]; rfl)
  obtain ⟨fn, fc, fy, fe, fp⟩ := f
  have HH := Lib.hid H
  obtain ⟨⟨X0, Y0⟩, e0⟩ : ∃ z, z = spanAt b 8 1 := ⟨_, rfl⟩
  rw [← e0] at SPE ⊢
  clear H hb hn hr hs he _hq e0
  go_enter Tryz.func83, Tryz.ntmps83
  go_wp2_with fail
  refine SP.out.mono ?_
  rintro e w1 ⟨⟨rb, cb, rfl, hlo, hlt, hrow⟩, hg⟩
  rw [SPE.out] at hrow ⊢
  have H1 := Lib.hid (HH.out.grown hg)
  have B1 := Lib.hid (below_grown hg HH.out.lt (by simp) : Below lo w w1)
  have hrg : rb ≠ g := by
    obtain ⟨sv, dv, a1⟩ := HH.out.at
    have := a1.lt
    omega
  obtain ⟨r0, r1⟩ := hrow 0 (X0, Y0) rfl
  simp only [Nat.zero_mul, Nat.zero_add] at r0 r1
  clear hlo hrow hg
  simp only [List.length_cons, List.length_nil]
  have TR := Lib.hid (rtrie_any H1.out (X0, Y0))
  unfold spanV at TR
  simp only [] at TR
  go_wp2_with fail
  refine TR.out.mono ?_
  intro e w4 hO
  have OO := Lib.hid (hO.after B1.out)
  obtain rfl := hO.val
  clear hO
  go_wp2
  go_ret
  exact OO.out
set_option maxHeartbeats 3200000 in
set_option maxRecDepth 20000 in
theorem rchain_any {f : Fl} {k : Int} (H : HoldsR w lo g h s f k) (b : List Int) (q : Option Addr) (c n : Nat) (hb : IsBytes w q c b) (hn : b.length = n) (hc : n ≤ c) (hcm : c ≤ 9223372036854775807) (hr : Small b) (hs : ¬ shortB b) (_hq : ∀ x, q = some x → x.block < lo) (he : cmdAt b = 2147483700) :
    Calls Tryz.prog 83 #[.pointer (some ⟨g, 0, none⟩), .int .u32 2147483700, .slice q n c] w fun e w' => SeenOut w w' lo g h ({ s with ch := spanAt b 8 1 }) { f with ch := true } k (if f.ch = true then 21 else 0) e := by
  have SP := Lib.hid (refSpans_any (w := w) b hb hn hc hcm hr hs (by rw [he]; exact .inr (.inl (.inr rfl))))
  have SPE := Lib.hid (show spansOf b = [spanAt b 8 1] by unfold spansOf; rw [he]; rfl)
  obtain ⟨fn, fc, fy, fe, fp⟩ := f
  have HH := Lib.hid H
  obtain ⟨⟨X0, Y0⟩, e0⟩ : ∃ z, z = spanAt b 8 1 := ⟨_, rfl⟩
  rw [← e0] at SPE ⊢
  clear H hb hn hr hs he _hq e0
  cases fc
  · go_enter Tryz.func83, Tryz.ntmps83
    go_wp2_with fail
    refine SP.out.mono ?_
    rintro e w1 ⟨⟨rb, cb, rfl, hlo, hlt, hrow⟩, hg⟩
    rw [SPE.out] at hrow ⊢
    have H1 := Lib.hid (HH.out.grown hg)
    have B1 := Lib.hid (below_grown hg HH.out.lt (by simp) : Below lo w w1)
    have hrg : rb ≠ g := by
      obtain ⟨sv, dv, a1⟩ := HH.out.at
      have := a1.lt
      omega
    obtain ⟨r0, r1⟩ := hrow 0 (X0, Y0) rfl
    simp only [Nat.zero_mul, Nat.zero_add] at r0 r1
    clear hlo hrow hg
    simp only [List.length_cons, List.length_nil]
    obtain ⟨sv, dv, a1⟩ := H1.out.at
    have c25 := a1.c 25 (.bool false) rfl
    have f25 := a1.fz 25
    have gl := a1.lt
    have ON := Lib.hid (once5_any c25 f25 gl)
    have gS := grown_setCell (i := 25) (grown_refl w1 (some g)) (.bool true)
    have H2 := Lib.hid (H1.out.cells (s' := s) (f' := ⟨fn, true, fy, fe, fp⟩) (k' := k) gS (fun sv dv a => by
        unfold SeenAt
        rw [heap_setCell_same w1 g 25 _ _ _ a]
        rfl) rfl rfl)
    have GS := Lib.hid gS
    have BS := Lib.hid (B1.out.trans (below_of GS.out H1.out.lo1 H1.out.lt))
    have q0 := gS.cell r0 (fun e => hrg (by injection e))
    have q1 := gS.cell r1 (fun e => hrg (by injection e))
    clear a1 gS c25 f25 r0 r1
    go_wp2_with fail
    refine ON.out.mono ?_
    rintro e w2 ⟨rfl, rfl⟩
    obtain ⟨W, hW⟩ : ∃ W, w1.setCell ⟨g, 25, none⟩ (.bool true) = W := ⟨_, rfl⟩
    rw [hW] at H2 BS q0 q1 ⊢
    clear hW
    obtain ⟨sv2, dv2, a2⟩ := H2.out.at
    have c16 := a2.c 16 (.int .u64 s.ch.1) rfl
    have f16 := a2.fz 16
    have c17 := a2.c 17 (.int .u64 s.ch.2) rfl
    have f17 := a2.fz 17
    have gl2 := a2.lt
    have gT := grown_setCell (i := 17) (grown_setCell (i := 16) (grown_refl W (some g)) (.int .u64 X0)) (.int .u64 Y0)
    have H3 := Lib.hid (H2.out.cells (s' := { s with ch := (X0, Y0) }) (f' := ⟨fn, true, fy, fe, fp⟩) (k' := k) gT (fun sv dv a => by
      unfold SeenAt
      rw [heap_setCell_same _ g 17 _ _ _ (heap_setCell_same W g 16 _ _ _ a)]
      rfl) rfl rfl)
    have B3 := Lib.hid (BS.out.trans (below_of gT H2.out.lo1 H2.out.lt))
    clear a2 gT
    go_wp2
    go_ret
    exact ⟨rfl, fun _ => H3.out, B3.out⟩
  · go_enter Tryz.func83, Tryz.ntmps83
    go_wp2_with fail
    refine SP.out.mono ?_
    rintro e w1 ⟨⟨rb, cb, rfl, hlo, hlt, hrow⟩, hg⟩
    rw [SPE.out] at hrow ⊢
    have H1 := Lib.hid (HH.out.grown hg)
    have B1 := Lib.hid (below_grown hg HH.out.lt (by simp) : Below lo w w1)
    have hrg : rb ≠ g := by
      obtain ⟨sv, dv, a1⟩ := HH.out.at
      have := a1.lt
      omega
    obtain ⟨r0, r1⟩ := hrow 0 (X0, Y0) rfl
    simp only [Nat.zero_mul, Nat.zero_add] at r0 r1
    clear hlo hrow hg
    simp only [List.length_cons, List.length_nil]
    obtain ⟨sv, dv, a1⟩ := H1.out.at
    have c25 := a1.c 25 (.bool true) rfl
    have f25 := a1.fz 25
    have gl := a1.lt
    have ON := Lib.hid (once5_any c25 f25 gl)
    have gS := grown_setCell (i := 25) (grown_refl w1 (some g)) (.bool true)
    have H2 := Lib.hid (H1.out.cells (s' := s) (f' := ⟨fn, true, fy, fe, fp⟩) (k' := k) gS (fun sv dv a => by
        unfold SeenAt
        rw [heap_setCell_same w1 g 25 _ _ _ a]
        rfl) rfl rfl)
    have GS := Lib.hid gS
    have BS := Lib.hid (B1.out.trans (below_of GS.out H1.out.lo1 H1.out.lt))
    have q0 := gS.cell r0 (fun e => hrg (by injection e))
    have q1 := gS.cell r1 (fun e => hrg (by injection e))
    clear a1 gS c25 f25 r0 r1
    go_wp2_with fail
    refine ON.out.mono ?_
    rintro e w2 ⟨rfl, rfl⟩
    go_wp2
    go_ret
    exact ⟨rfl, fun hz => (by cases hz), BS.out⟩
set_option maxHeartbeats 3200000 in
set_option maxRecDepth 20000 in
theorem rsym_any {f : Fl} {k : Int} (H : HoldsR w lo g h s f k) (b : List Int) (q : Option Addr) (c n : Nat) (hb : IsBytes w q c b) (hn : b.length = n) (hc : n ≤ c) (hcm : c ≤ 9223372036854775807) (hr : Small b) (hs : ¬ shortB b) (_hq : ∀ x, q = some x → x.block < lo) (he : cmdAt b = 2) :
    Calls Tryz.prog 83 #[.pointer (some ⟨g, 0, none⟩), .int .u32 2, .slice q n c] w fun e w' => SeenOut w w' lo g h ({ s with sy := spanAt b 8 16, st := spanAt b 16 1 }) { f with sy := true } k (if f.sy = true then 21 else 0) e := by
  have SP := Lib.hid (refSpans_any (w := w) b hb hn hc hcm hr hs (by rw [he]; exact .inr (.inr rfl)))
  have SPE := Lib.hid (show spansOf b = [spanAt b 8 16, spanAt b 16 1] by unfold spansOf; rw [he]; rfl)
  obtain ⟨fn, fc, fy, fe, fp⟩ := f
  have HH := Lib.hid H
  obtain ⟨⟨X0, Y0⟩, e0⟩ : ∃ z, z = spanAt b 8 16 := ⟨_, rfl⟩
  rw [← e0] at SPE ⊢
  obtain ⟨⟨X1, Y1⟩, e1⟩ : ∃ z, z = spanAt b 16 1 := ⟨_, rfl⟩
  rw [← e1] at SPE ⊢
  clear H hb hn hr hs he _hq e0 e1
  cases fy
  · go_enter Tryz.func83, Tryz.ntmps83
    go_wp2_with fail
    refine SP.out.mono ?_
    rintro e w1 ⟨⟨rb, cb, rfl, hlo, hlt, hrow⟩, hg⟩
    rw [SPE.out] at hrow ⊢
    have H1 := Lib.hid (HH.out.grown hg)
    have B1 := Lib.hid (below_grown hg HH.out.lt (by simp) : Below lo w w1)
    have hrg : rb ≠ g := by
      obtain ⟨sv, dv, a1⟩ := HH.out.at
      have := a1.lt
      omega
    obtain ⟨r0, r1⟩ := hrow 0 (X0, Y0) rfl
    obtain ⟨r2, r3⟩ := hrow 1 (X1, Y1) rfl
    simp only [Nat.zero_mul, Nat.zero_add, Nat.reduceAdd, Nat.one_mul] at r0 r1 r2 r3
    clear hlo hrow hg
    simp only [List.length_cons, List.length_nil]
    obtain ⟨sv, dv, a1⟩ := H1.out.at
    have c26 := a1.c 26 (.bool false) rfl
    have f26 := a1.fz 26
    have gl := a1.lt
    have ON := Lib.hid (once5_any c26 f26 gl)
    have gS := grown_setCell (i := 26) (grown_refl w1 (some g)) (.bool true)
    have H2 := Lib.hid (H1.out.cells (s' := s) (f' := ⟨fn, fc, true, fe, fp⟩) (k' := k) gS (fun sv dv a => by
        unfold SeenAt
        rw [heap_setCell_same w1 g 26 _ _ _ a]
        rfl) rfl rfl)
    have GS := Lib.hid gS
    have BS := Lib.hid (B1.out.trans (below_of GS.out H1.out.lo1 H1.out.lt))
    have q0 := gS.cell r0 (fun e => hrg (by injection e))
    have q1 := gS.cell r1 (fun e => hrg (by injection e))
    have q2 := gS.cell r2 (fun e => hrg (by injection e))
    have q3 := gS.cell r3 (fun e => hrg (by injection e))
    clear a1 gS c26 f26 r0 r1 r2 r3
    go_wp2_with fail
    refine ON.out.mono ?_
    rintro e w2 ⟨rfl, rfl⟩
    obtain ⟨W, hW⟩ : ∃ W, w1.setCell ⟨g, 26, none⟩ (.bool true) = W := ⟨_, rfl⟩
    rw [hW] at H2 BS q0 q1 q2 q3 ⊢
    clear hW
    have H2d := Lib.hid (H2.out.grown (show W.grownBy W.drew none from grown_drewN (grown_refl W none) 1))
    obtain ⟨sv2, dv2, a2⟩ := H2d.out.at
    have c18 := a2.c 18 (.int .u64 s.sy.1) rfl
    have f18 := a2.fz 18
    have c19 := a2.c 19 (.int .u64 s.sy.2) rfl
    have f19 := a2.fz 19
    have c20 := a2.c 20 (.int .u64 s.st.1) rfl
    have f20 := a2.fz 20
    have c21 := a2.c 21 (.int .u64 s.st.2) rfl
    have f21 := a2.fz 21
    have gl2 := a2.lt
    have gT := grown_setCell (i := 21) (grown_setCell (i := 20) (grown_setCell (i := 19) (grown_setCell (i := 18) (grown_refl W.drew (some g)) (.int .u64 X0)) (.int .u64 Y0)) (.int .u64 X1)) (.int .u64 Y1)
    have H3 := Lib.hid (H2d.out.cells (s' := { s with sy := (X0, Y0), st := (X1, Y1) }) (f' := ⟨fn, fc, true, fe, fp⟩) (k' := k) gT (fun sv dv a => by
      unfold SeenAt
      rw [heap_setCell_same _ g 21 _ _ _ (heap_setCell_same _ g 20 _ _ _ (heap_setCell_same _ g 19 _ _ _ (heap_setCell_same W.drew g 18 _ _ _ a)))]
      rfl) rfl rfl)
    have B3 := Lib.hid ((BS.out.trans (below_drewN (Below.refl _ _) 1)).trans (below_of gT H2d.out.lo1 H2d.out.lt))
    clear gT
    obtain ⟨sv3, dv3, a3⟩ := H2.out.at
    have d18 := a3.c 18 (.int .u64 s.sy.1) rfl
    have d19 := a3.c 19 (.int .u64 s.sy.2) rfl
    have d20 := a3.c 20 (.int .u64 s.st.1) rfl
    have d21 := a3.c 21 (.int .u64 s.st.2) rfl
    have e18 := a3.fz 18
    have e19 := a3.fz 19
    have e20 := a3.fz 20
    have e21 := a3.fz 21
    have gl3 := a3.lt
    clear a2 a3
    go_wp2
    go_region
    go_wp2
    go_ret
    exact ⟨rfl, fun _ => H3.out, B3.out⟩
  · go_enter Tryz.func83, Tryz.ntmps83
    go_wp2_with fail
    refine SP.out.mono ?_
    rintro e w1 ⟨⟨rb, cb, rfl, hlo, hlt, hrow⟩, hg⟩
    rw [SPE.out] at hrow ⊢
    have H1 := Lib.hid (HH.out.grown hg)
    have B1 := Lib.hid (below_grown hg HH.out.lt (by simp) : Below lo w w1)
    have hrg : rb ≠ g := by
      obtain ⟨sv, dv, a1⟩ := HH.out.at
      have := a1.lt
      omega
    obtain ⟨r0, r1⟩ := hrow 0 (X0, Y0) rfl
    obtain ⟨r2, r3⟩ := hrow 1 (X1, Y1) rfl
    simp only [Nat.zero_mul, Nat.zero_add, Nat.reduceAdd, Nat.one_mul] at r0 r1 r2 r3
    clear hlo hrow hg
    simp only [List.length_cons, List.length_nil]
    obtain ⟨sv, dv, a1⟩ := H1.out.at
    have c26 := a1.c 26 (.bool true) rfl
    have f26 := a1.fz 26
    have gl := a1.lt
    have ON := Lib.hid (once5_any c26 f26 gl)
    have gS := grown_setCell (i := 26) (grown_refl w1 (some g)) (.bool true)
    have H2 := Lib.hid (H1.out.cells (s' := s) (f' := ⟨fn, fc, true, fe, fp⟩) (k' := k) gS (fun sv dv a => by
        unfold SeenAt
        rw [heap_setCell_same w1 g 26 _ _ _ a]
        rfl) rfl rfl)
    have GS := Lib.hid gS
    have BS := Lib.hid (B1.out.trans (below_of GS.out H1.out.lo1 H1.out.lt))
    have q0 := gS.cell r0 (fun e => hrg (by injection e))
    have q1 := gS.cell r1 (fun e => hrg (by injection e))
    have q2 := gS.cell r2 (fun e => hrg (by injection e))
    have q3 := gS.cell r3 (fun e => hrg (by injection e))
    clear a1 gS c26 f26 r0 r1 r2 r3
    go_wp2_with fail
    refine ON.out.mono ?_
    rintro e w2 ⟨rfl, rfl⟩
    go_wp2
    go_ret
    exact ⟨rfl, fun hz => (by cases hz), BS.out⟩
set_option maxHeartbeats 3200000 in
set_option maxRecDepth 20000 in
theorem rinfo_any {f : Fl} {k : Int} (H : HoldsR w lo g h s f k) (b : List Int) (cm : Int) (hcmd : cm = 34 ∨ cm = 2147483682) (q : Option Addr) (c n : Nat) (hb : IsBytes w q c b) (hn : b.length = n) (hc : n ≤ c) (hcm : c ≤ 9223372036854775807) (hr : Small b) (hs : ¬ shortB b) (_hq : ∀ x, q = some x → x.block < lo) (he : cmdAt b = cm) :
    Calls Tryz.prog 83 #[.pointer (some ⟨g, 0, none⟩), .int .u32 cm, .slice q n c] w fun e w' => SeenOut w w' lo g h (rtrieS { s with rb := spanAt b 8 1, bd := spanAt b 16 1, wk := spanAt b 24 1, lz := spanAt b 32 1 } (spanAt b 40 1)) { f with sp := true } k (if f.sp = true then 21 else rtrieE { s with rb := spanAt b 8 1, bd := spanAt b 16 1, wk := spanAt b 24 1, lz := spanAt b 32 1 } (spanAt b 40 1)) e := by
  have SP := Lib.hid (refSpans_any (w := w) b hb hn hc hcm hr hs (by rw [he]; exact .inl hcmd))
  have SPE := Lib.hid (show spansOf b = [spanAt b 8 1, spanAt b 16 1, spanAt b 24 1, spanAt b 32 1, spanAt b 40 1] by unfold spansOf; rw [he]; rcases hcmd with rfl | rfl <;> rfl)
  obtain ⟨fn, fc, fy, fe, fp⟩ := f
  have HH := Lib.hid H
  obtain ⟨⟨X0, Y0⟩, e0⟩ : ∃ z, z = spanAt b 8 1 := ⟨_, rfl⟩
  rw [← e0] at SPE ⊢
  obtain ⟨⟨X1, Y1⟩, e1⟩ : ∃ z, z = spanAt b 16 1 := ⟨_, rfl⟩
  rw [← e1] at SPE ⊢
  obtain ⟨⟨X2, Y2⟩, e2⟩ : ∃ z, z = spanAt b 24 1 := ⟨_, rfl⟩
  rw [← e2] at SPE ⊢
  obtain ⟨⟨X3, Y3⟩, e3⟩ : ∃ z, z = spanAt b 32 1 := ⟨_, rfl⟩
  rw [← e3] at SPE ⊢
  obtain ⟨⟨X4, Y4⟩, e4⟩ : ∃ z, z = spanAt b 40 1 := ⟨_, rfl⟩
  rw [← e4] at SPE ⊢
  clear H hb hn hr hs he _hq e0 e1 e2 e3 e4
  rcases hcmd with rfl | rfl
  · cases fp
    · go_enter Tryz.func83, Tryz.ntmps83
      go_wp2_with fail
      refine SP.out.mono ?_
      rintro e w1 ⟨⟨rb, cb, rfl, hlo, hlt, hrow⟩, hg⟩
      rw [SPE.out] at hrow ⊢
      have H1 := Lib.hid (HH.out.grown hg)
      have B1 := Lib.hid (below_grown hg HH.out.lt (by simp) : Below lo w w1)
      have hrg : rb ≠ g := by
        obtain ⟨sv, dv, a1⟩ := HH.out.at
        have := a1.lt
        omega
      obtain ⟨r0, r1⟩ := hrow 0 (X0, Y0) rfl
      obtain ⟨r2, r3⟩ := hrow 1 (X1, Y1) rfl
      obtain ⟨r4, r5⟩ := hrow 2 (X2, Y2) rfl
      obtain ⟨r6, r7⟩ := hrow 3 (X3, Y3) rfl
      obtain ⟨r8, r9⟩ := hrow 4 (X4, Y4) rfl
      simp only [Nat.zero_mul, Nat.zero_add, Nat.reduceAdd, Nat.one_mul, Nat.reduceMul] at r0 r1 r2 r3 r4 r5 r6 r7 r8 r9
      clear hlo hrow hg
      simp only [List.length_cons, List.length_nil]
      obtain ⟨sv, dv, a1⟩ := H1.out.at
      have c28 := a1.c 28 (.bool false) rfl
      have f28 := a1.fz 28
      have gl := a1.lt
      have ON := Lib.hid (once5_any c28 f28 gl)
      have gS := grown_setCell (i := 28) (grown_refl w1 (some g)) (.bool true)
      have H2 := Lib.hid (H1.out.cells (s' := s) (f' := ⟨fn, fc, fy, fe, true⟩) (k' := k) gS (fun sv dv a => by
          unfold SeenAt
          rw [heap_setCell_same w1 g 28 _ _ _ a]
          rfl) rfl rfl)
      have GS := Lib.hid gS
      have BS := Lib.hid (B1.out.trans (below_of GS.out H1.out.lo1 H1.out.lt))
      have q0 := gS.cell r0 (fun e => hrg (by injection e))
      have q1 := gS.cell r1 (fun e => hrg (by injection e))
      have q2 := gS.cell r2 (fun e => hrg (by injection e))
      have q3 := gS.cell r3 (fun e => hrg (by injection e))
      have q4 := gS.cell r4 (fun e => hrg (by injection e))
      have q5 := gS.cell r5 (fun e => hrg (by injection e))
      have q6 := gS.cell r6 (fun e => hrg (by injection e))
      have q7 := gS.cell r7 (fun e => hrg (by injection e))
      have q8 := gS.cell r8 (fun e => hrg (by injection e))
      have q9 := gS.cell r9 (fun e => hrg (by injection e))
      clear a1 gS c28 f28 r0 r1 r2 r3 r4 r5 r6 r7 r8 r9
      go_wp2_with fail
      refine ON.out.mono ?_
      rintro e w2 ⟨rfl, rfl⟩
      obtain ⟨W, hW⟩ : ∃ W, w1.setCell ⟨g, 28, none⟩ (.bool true) = W := ⟨_, rfl⟩
      rw [hW] at H2 BS q0 q1 q2 q3 q4 q5 q6 q7 q8 q9 ⊢
      clear hW
      obtain ⟨sv2, dv2, a2⟩ := H2.out.at
      have c6 := a2.c 6 (.int .u64 s.rb.1) rfl
      have f6 := a2.fz 6
      have c7 := a2.c 7 (.int .u64 s.rb.2) rfl
      have f7 := a2.fz 7
      have c8 := a2.c 8 (.int .u64 s.bd.1) rfl
      have f8 := a2.fz 8
      have c9 := a2.c 9 (.int .u64 s.bd.2) rfl
      have f9 := a2.fz 9
      have c10 := a2.c 10 (.int .u64 s.wk.1) rfl
      have f10 := a2.fz 10
      have c11 := a2.c 11 (.int .u64 s.wk.2) rfl
      have f11 := a2.fz 11
      have c12 := a2.c 12 (.int .u64 s.lz.1) rfl
      have f12 := a2.fz 12
      have c13 := a2.c 13 (.int .u64 s.lz.2) rfl
      have f13 := a2.fz 13
      have gl2 := a2.lt
      have gT := grown_setCell (i := 13) (grown_setCell (i := 12) (grown_setCell (i := 11) (grown_setCell (i := 10) (grown_setCell (i := 9) (grown_setCell (i := 8) (grown_setCell (i := 7) (grown_setCell (i := 6) (grown_refl W (some g)) (.int .u64 X0)) (.int .u64 Y0)) (.int .u64 X1)) (.int .u64 Y1)) (.int .u64 X2)) (.int .u64 Y2)) (.int .u64 X3)) (.int .u64 Y3)
      have H3 := Lib.hid (H2.out.cells (s' := { s with rb := (X0, Y0), bd := (X1, Y1), wk := (X2, Y2), lz := (X3, Y3) }) (f' := ⟨fn, fc, fy, fe, true⟩) (k' := k) gT (fun sv dv a => by
        unfold SeenAt
        rw [heap_setCell_same _ g 13 _ _ _ (heap_setCell_same _ g 12 _ _ _ (heap_setCell_same _ g 11 _ _ _ (heap_setCell_same _ g 10 _ _ _ (heap_setCell_same _ g 9 _ _ _ (heap_setCell_same _ g 8 _ _ _ (heap_setCell_same _ g 7 _ _ _ (heap_setCell_same W g 6 _ _ _ a)))))))]
        rfl) rfl rfl)
      have gT2 := grown_drewN gT 1
      have H3d := Lib.hid (H3.out.grown (grown_drewN (grown_refl _ none) 1))
      have B3 := Lib.hid (BS.out.trans (below_of gT2 H2.out.lo1 H2.out.lt))
      have t8 := gT2.cell q8 (fun e => hrg (by injection e))
      have t9 := gT2.cell q9 (fun e => hrg (by injection e))
      clear gT gT2
      obtain ⟨sv3, dv3, a3⟩ := H2.out.at
      have d6 := a3.c 6 (.int .u64 s.rb.1) rfl
      have e6 := a3.fz 6
      have d7 := a3.c 7 (.int .u64 s.rb.2) rfl
      have e7 := a3.fz 7
      have d8 := a3.c 8 (.int .u64 s.bd.1) rfl
      have e8 := a3.fz 8
      have d9 := a3.c 9 (.int .u64 s.bd.2) rfl
      have e9 := a3.fz 9
      have d10 := a3.c 10 (.int .u64 s.wk.1) rfl
      have e10 := a3.fz 10
      have d11 := a3.c 11 (.int .u64 s.wk.2) rfl
      have e11 := a3.fz 11
      have d12 := a3.c 12 (.int .u64 s.lz.1) rfl
      have e12 := a3.fz 12
      have d13 := a3.c 13 (.int .u64 s.lz.2) rfl
      have e13 := a3.fz 13
      have gl3 := a3.lt
      clear a2 a3
      go_upto_region 5 with fail
      go_region
      obtain ⟨W3, hW3⟩ : ∃ W3, (((((((((W.setCell ⟨g, 6, none⟩ (.int .u64 X0)).setCell ⟨g, 7, none⟩ (.int .u64 Y0)).setCell ⟨g, 8, none⟩ (.int .u64 X1)).setCell ⟨g, 9, none⟩ (.int .u64 Y1)).setCell ⟨g, 10, none⟩ (.int .u64 X2)).setCell ⟨g, 11, none⟩ (.int .u64 Y2)).setCell ⟨g, 12, none⟩ (.int .u64 X3)).setCell ⟨g, 13, none⟩ (.int .u64 Y3)).drew) = W3 := ⟨_, rfl⟩
      have H3d : HoldsR W3 lo g h { s with rb := (X0, Y0), bd := (X1, Y1), wk := (X2, Y2), lz := (X3, Y3) } ⟨fn, fc, fy, fe, true⟩ k := by rw [← hW3]; exact H3d.out
      rw [show World.drewN _ 1 = W3 from hW3] at B3 t8 t9
      rw [hW3]
      have TR := Lib.hid (rtrie_any H3d (X4, Y4))
      unfold spanV at TR
      simp only [] at TR
      clear hW3 d6 e6 c6 f6 d7 e7 c7 f7 d8 e8 c8 f8 d9 e9 c9 f9 d10 e10 c10 f10 d11 e11 c11 f11 d12 e12 c12 f12 d13 e13 c13 f13 q0 q1 q2 q3 q4 q5 q6 q7 q8 q9
      go_wp2_with fail
      refine TR.out.mono ?_
      intro e w4 hO
      have OO := Lib.hid (hO.after B3.out)
      obtain rfl := hO.val
      clear hO
      go_wp2
      go_ret
      exact OO.out
    · go_enter Tryz.func83, Tryz.ntmps83
      go_wp2_with fail
      refine SP.out.mono ?_
      rintro e w1 ⟨⟨rb, cb, rfl, hlo, hlt, hrow⟩, hg⟩
      rw [SPE.out] at hrow ⊢
      have H1 := Lib.hid (HH.out.grown hg)
      have B1 := Lib.hid (below_grown hg HH.out.lt (by simp) : Below lo w w1)
      have hrg : rb ≠ g := by
        obtain ⟨sv, dv, a1⟩ := HH.out.at
        have := a1.lt
        omega
      obtain ⟨r0, r1⟩ := hrow 0 (X0, Y0) rfl
      obtain ⟨r2, r3⟩ := hrow 1 (X1, Y1) rfl
      obtain ⟨r4, r5⟩ := hrow 2 (X2, Y2) rfl
      obtain ⟨r6, r7⟩ := hrow 3 (X3, Y3) rfl
      obtain ⟨r8, r9⟩ := hrow 4 (X4, Y4) rfl
      simp only [Nat.zero_mul, Nat.zero_add, Nat.reduceAdd, Nat.one_mul, Nat.reduceMul] at r0 r1 r2 r3 r4 r5 r6 r7 r8 r9
      clear hlo hrow hg
      simp only [List.length_cons, List.length_nil]
      obtain ⟨sv, dv, a1⟩ := H1.out.at
      have c28 := a1.c 28 (.bool true) rfl
      have f28 := a1.fz 28
      have gl := a1.lt
      have ON := Lib.hid (once5_any c28 f28 gl)
      have gS := grown_setCell (i := 28) (grown_refl w1 (some g)) (.bool true)
      have H2 := Lib.hid (H1.out.cells (s' := s) (f' := ⟨fn, fc, fy, fe, true⟩) (k' := k) gS (fun sv dv a => by
          unfold SeenAt
          rw [heap_setCell_same w1 g 28 _ _ _ a]
          rfl) rfl rfl)
      have GS := Lib.hid gS
      have BS := Lib.hid (B1.out.trans (below_of GS.out H1.out.lo1 H1.out.lt))
      have q0 := gS.cell r0 (fun e => hrg (by injection e))
      have q1 := gS.cell r1 (fun e => hrg (by injection e))
      have q2 := gS.cell r2 (fun e => hrg (by injection e))
      have q3 := gS.cell r3 (fun e => hrg (by injection e))
      have q4 := gS.cell r4 (fun e => hrg (by injection e))
      have q5 := gS.cell r5 (fun e => hrg (by injection e))
      have q6 := gS.cell r6 (fun e => hrg (by injection e))
      have q7 := gS.cell r7 (fun e => hrg (by injection e))
      have q8 := gS.cell r8 (fun e => hrg (by injection e))
      have q9 := gS.cell r9 (fun e => hrg (by injection e))
      clear a1 gS c28 f28 r0 r1 r2 r3 r4 r5 r6 r7 r8 r9
      go_wp2_with fail
      refine ON.out.mono ?_
      rintro e w2 ⟨rfl, rfl⟩
      go_wp2
      go_ret
      exact ⟨rfl, fun hz => (by cases hz), BS.out⟩
  · cases fp
    · go_enter Tryz.func83, Tryz.ntmps83
      go_wp2_with fail
      refine SP.out.mono ?_
      rintro e w1 ⟨⟨rb, cb, rfl, hlo, hlt, hrow⟩, hg⟩
      rw [SPE.out] at hrow ⊢
      have H1 := Lib.hid (HH.out.grown hg)
      have B1 := Lib.hid (below_grown hg HH.out.lt (by simp) : Below lo w w1)
      have hrg : rb ≠ g := by
        obtain ⟨sv, dv, a1⟩ := HH.out.at
        have := a1.lt
        omega
      obtain ⟨r0, r1⟩ := hrow 0 (X0, Y0) rfl
      obtain ⟨r2, r3⟩ := hrow 1 (X1, Y1) rfl
      obtain ⟨r4, r5⟩ := hrow 2 (X2, Y2) rfl
      obtain ⟨r6, r7⟩ := hrow 3 (X3, Y3) rfl
      obtain ⟨r8, r9⟩ := hrow 4 (X4, Y4) rfl
      simp only [Nat.zero_mul, Nat.zero_add, Nat.reduceAdd, Nat.one_mul, Nat.reduceMul] at r0 r1 r2 r3 r4 r5 r6 r7 r8 r9
      clear hlo hrow hg
      simp only [List.length_cons, List.length_nil]
      obtain ⟨sv, dv, a1⟩ := H1.out.at
      have c28 := a1.c 28 (.bool false) rfl
      have f28 := a1.fz 28
      have gl := a1.lt
      have ON := Lib.hid (once5_any c28 f28 gl)
      have gS := grown_setCell (i := 28) (grown_refl w1 (some g)) (.bool true)
      have H2 := Lib.hid (H1.out.cells (s' := s) (f' := ⟨fn, fc, fy, fe, true⟩) (k' := k) gS (fun sv dv a => by
          unfold SeenAt
          rw [heap_setCell_same w1 g 28 _ _ _ a]
          rfl) rfl rfl)
      have GS := Lib.hid gS
      have BS := Lib.hid (B1.out.trans (below_of GS.out H1.out.lo1 H1.out.lt))
      have q0 := gS.cell r0 (fun e => hrg (by injection e))
      have q1 := gS.cell r1 (fun e => hrg (by injection e))
      have q2 := gS.cell r2 (fun e => hrg (by injection e))
      have q3 := gS.cell r3 (fun e => hrg (by injection e))
      have q4 := gS.cell r4 (fun e => hrg (by injection e))
      have q5 := gS.cell r5 (fun e => hrg (by injection e))
      have q6 := gS.cell r6 (fun e => hrg (by injection e))
      have q7 := gS.cell r7 (fun e => hrg (by injection e))
      have q8 := gS.cell r8 (fun e => hrg (by injection e))
      have q9 := gS.cell r9 (fun e => hrg (by injection e))
      clear a1 gS c28 f28 r0 r1 r2 r3 r4 r5 r6 r7 r8 r9
      go_wp2_with fail
      refine ON.out.mono ?_
      rintro e w2 ⟨rfl, rfl⟩
      obtain ⟨W, hW⟩ : ∃ W, w1.setCell ⟨g, 28, none⟩ (.bool true) = W := ⟨_, rfl⟩
      rw [hW] at H2 BS q0 q1 q2 q3 q4 q5 q6 q7 q8 q9 ⊢
      clear hW
      obtain ⟨sv2, dv2, a2⟩ := H2.out.at
      have c6 := a2.c 6 (.int .u64 s.rb.1) rfl
      have f6 := a2.fz 6
      have c7 := a2.c 7 (.int .u64 s.rb.2) rfl
      have f7 := a2.fz 7
      have c8 := a2.c 8 (.int .u64 s.bd.1) rfl
      have f8 := a2.fz 8
      have c9 := a2.c 9 (.int .u64 s.bd.2) rfl
      have f9 := a2.fz 9
      have c10 := a2.c 10 (.int .u64 s.wk.1) rfl
      have f10 := a2.fz 10
      have c11 := a2.c 11 (.int .u64 s.wk.2) rfl
      have f11 := a2.fz 11
      have c12 := a2.c 12 (.int .u64 s.lz.1) rfl
      have f12 := a2.fz 12
      have c13 := a2.c 13 (.int .u64 s.lz.2) rfl
      have f13 := a2.fz 13
      have gl2 := a2.lt
      have gT := grown_setCell (i := 13) (grown_setCell (i := 12) (grown_setCell (i := 11) (grown_setCell (i := 10) (grown_setCell (i := 9) (grown_setCell (i := 8) (grown_setCell (i := 7) (grown_setCell (i := 6) (grown_refl W (some g)) (.int .u64 X0)) (.int .u64 Y0)) (.int .u64 X1)) (.int .u64 Y1)) (.int .u64 X2)) (.int .u64 Y2)) (.int .u64 X3)) (.int .u64 Y3)
      have H3 := Lib.hid (H2.out.cells (s' := { s with rb := (X0, Y0), bd := (X1, Y1), wk := (X2, Y2), lz := (X3, Y3) }) (f' := ⟨fn, fc, fy, fe, true⟩) (k' := k) gT (fun sv dv a => by
        unfold SeenAt
        rw [heap_setCell_same _ g 13 _ _ _ (heap_setCell_same _ g 12 _ _ _ (heap_setCell_same _ g 11 _ _ _ (heap_setCell_same _ g 10 _ _ _ (heap_setCell_same _ g 9 _ _ _ (heap_setCell_same _ g 8 _ _ _ (heap_setCell_same _ g 7 _ _ _ (heap_setCell_same W g 6 _ _ _ a)))))))]
        rfl) rfl rfl)
      have gT2 := grown_drewN gT 1
      have H3d := Lib.hid (H3.out.grown (grown_drewN (grown_refl _ none) 1))
      have B3 := Lib.hid (BS.out.trans (below_of gT2 H2.out.lo1 H2.out.lt))
      have t8 := gT2.cell q8 (fun e => hrg (by injection e))
      have t9 := gT2.cell q9 (fun e => hrg (by injection e))
      clear gT gT2
      obtain ⟨sv3, dv3, a3⟩ := H2.out.at
      have d6 := a3.c 6 (.int .u64 s.rb.1) rfl
      have e6 := a3.fz 6
      have d7 := a3.c 7 (.int .u64 s.rb.2) rfl
      have e7 := a3.fz 7
      have d8 := a3.c 8 (.int .u64 s.bd.1) rfl
      have e8 := a3.fz 8
      have d9 := a3.c 9 (.int .u64 s.bd.2) rfl
      have e9 := a3.fz 9
      have d10 := a3.c 10 (.int .u64 s.wk.1) rfl
      have e10 := a3.fz 10
      have d11 := a3.c 11 (.int .u64 s.wk.2) rfl
      have e11 := a3.fz 11
      have d12 := a3.c 12 (.int .u64 s.lz.1) rfl
      have e12 := a3.fz 12
      have d13 := a3.c 13 (.int .u64 s.lz.2) rfl
      have e13 := a3.fz 13
      have gl3 := a3.lt
      clear a2 a3
      go_upto_region 5 with fail
      go_region
      obtain ⟨W3, hW3⟩ : ∃ W3, (((((((((W.setCell ⟨g, 6, none⟩ (.int .u64 X0)).setCell ⟨g, 7, none⟩ (.int .u64 Y0)).setCell ⟨g, 8, none⟩ (.int .u64 X1)).setCell ⟨g, 9, none⟩ (.int .u64 Y1)).setCell ⟨g, 10, none⟩ (.int .u64 X2)).setCell ⟨g, 11, none⟩ (.int .u64 Y2)).setCell ⟨g, 12, none⟩ (.int .u64 X3)).setCell ⟨g, 13, none⟩ (.int .u64 Y3)).drew) = W3 := ⟨_, rfl⟩
      have H3d : HoldsR W3 lo g h { s with rb := (X0, Y0), bd := (X1, Y1), wk := (X2, Y2), lz := (X3, Y3) } ⟨fn, fc, fy, fe, true⟩ k := by rw [← hW3]; exact H3d.out
      rw [show World.drewN _ 1 = W3 from hW3] at B3 t8 t9
      rw [hW3]
      have TR := Lib.hid (rtrie_any H3d (X4, Y4))
      unfold spanV at TR
      simp only [] at TR
      clear hW3 d6 e6 c6 f6 d7 e7 c7 f7 d8 e8 c8 f8 d9 e9 c9 f9 d10 e10 c10 f10 d11 e11 c11 f11 d12 e12 c12 f12 d13 e13 c13 f13 q0 q1 q2 q3 q4 q5 q6 q7 q8 q9
      go_wp2_with fail
      refine TR.out.mono ?_
      intro e w4 hO
      have OO := Lib.hid (hO.after B3.out)
      obtain rfl := hO.val
      clear hO
      go_wp2
      go_ret
      exact OO.out
    · go_enter Tryz.func83, Tryz.ntmps83
      go_wp2_with fail
      refine SP.out.mono ?_
      rintro e w1 ⟨⟨rb, cb, rfl, hlo, hlt, hrow⟩, hg⟩
      rw [SPE.out] at hrow ⊢
      have H1 := Lib.hid (HH.out.grown hg)
      have B1 := Lib.hid (below_grown hg HH.out.lt (by simp) : Below lo w w1)
      have hrg : rb ≠ g := by
        obtain ⟨sv, dv, a1⟩ := HH.out.at
        have := a1.lt
        omega
      obtain ⟨r0, r1⟩ := hrow 0 (X0, Y0) rfl
      obtain ⟨r2, r3⟩ := hrow 1 (X1, Y1) rfl
      obtain ⟨r4, r5⟩ := hrow 2 (X2, Y2) rfl
      obtain ⟨r6, r7⟩ := hrow 3 (X3, Y3) rfl
      obtain ⟨r8, r9⟩ := hrow 4 (X4, Y4) rfl
      simp only [Nat.zero_mul, Nat.zero_add, Nat.reduceAdd, Nat.one_mul, Nat.reduceMul] at r0 r1 r2 r3 r4 r5 r6 r7 r8 r9
      clear hlo hrow hg
      simp only [List.length_cons, List.length_nil]
      obtain ⟨sv, dv, a1⟩ := H1.out.at
      have c28 := a1.c 28 (.bool true) rfl
      have f28 := a1.fz 28
      have gl := a1.lt
      have ON := Lib.hid (once5_any c28 f28 gl)
      have gS := grown_setCell (i := 28) (grown_refl w1 (some g)) (.bool true)
      have H2 := Lib.hid (H1.out.cells (s' := s) (f' := ⟨fn, fc, fy, fe, true⟩) (k' := k) gS (fun sv dv a => by
          unfold SeenAt
          rw [heap_setCell_same w1 g 28 _ _ _ a]
          rfl) rfl rfl)
      have GS := Lib.hid gS
      have BS := Lib.hid (B1.out.trans (below_of GS.out H1.out.lo1 H1.out.lt))
      have q0 := gS.cell r0 (fun e => hrg (by injection e))
      have q1 := gS.cell r1 (fun e => hrg (by injection e))
      have q2 := gS.cell r2 (fun e => hrg (by injection e))
      have q3 := gS.cell r3 (fun e => hrg (by injection e))
      have q4 := gS.cell r4 (fun e => hrg (by injection e))
      have q5 := gS.cell r5 (fun e => hrg (by injection e))
      have q6 := gS.cell r6 (fun e => hrg (by injection e))
      have q7 := gS.cell r7 (fun e => hrg (by injection e))
      have q8 := gS.cell r8 (fun e => hrg (by injection e))
      have q9 := gS.cell r9 (fun e => hrg (by injection e))
      clear a1 gS c28 f28 r0 r1 r2 r3 r4 r5 r6 r7 r8 r9
      go_wp2_with fail
      refine ON.out.mono ?_
      rintro e w2 ⟨rfl, rfl⟩
      go_wp2
      go_ret
      exact ⟨rfl, fun hz => (by cases hz), BS.out⟩
end Go.Proofs.YtdagnkdonlfobaaGreat
