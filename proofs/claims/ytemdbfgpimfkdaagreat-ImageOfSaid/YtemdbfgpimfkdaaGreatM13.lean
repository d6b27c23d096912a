import Derived.Test.YtemdbfgpimfkdaaGreatM12
import Derived.Deep.RegionHeld3
/- Two images that are the same in everything are told so. No condition. -/
namespace Go.Proofs.YtemdbfgpimfkdaaGreat
open Go.RowKit
variable {w w' : World}

/-- The cells of one of a row's. -/
theorem sec_cells {lo n c : Nat} {q : Option Addr} {l : List Sec} (h : w.ownsRow lo 88 6 (.slice q n c) n (l.flatMap secCs)) {i : Nat} {x : Sec} (hx : l[i]? = some x) :
    ∃ g, q = some ⟨g, 0, none⟩ ∧ w.cell? ⟨g, i * 6, none⟩ = some (.string (strOfNums x.name)) ∧ w.cell? ⟨g, i * 6 + 1, none⟩ = some (.string (strOfNums x.seg)) ∧ w.cell? ⟨g, i * 6 + 2, none⟩ = some (.int .u64 x.addr) ∧
      w.cell? ⟨g, i * 6 + 3, none⟩ = some (.int .u64 x.size) ∧ w.cell? ⟨g, i * 6 + 4, none⟩ = some (.int .u64 x.off) ∧ w.cell? ⟨g, i * 6 + 5, none⟩ = some (.int .i64 x.kind) := by
  obtain ⟨g, hq, h0⟩ := row_cell secCs_len h hx (show 0 < 6 by decide)
  have key : ∀ j, j < 6 → w.cell? ⟨g, i * 6 + j, none⟩ = (secCs x)[j]? := fun j hj => by
    obtain ⟨g', hq', h1⟩ := row_cell secCs_len h hx hj
    rw [hq] at hq'
    injection hq' with e
    injection e with e
    subst e
    exact h1
  exact ⟨g, hq, h0, key 1 (by decide), key 2 (by decide), key 3 (by decide), key 4 (by decide), key 5 (by decide)⟩
theorem sg_cells {lo n c : Nat} {q : Option Addr} {l : List Sg} (h : w.ownsRow lo 42 7 (.slice q n c) n (l.flatMap sgCs)) {i : Nat} {x : Sg} (hx : l[i]? = some x) :
    ∃ g, q = some ⟨g, 0, none⟩ ∧ w.cell? ⟨g, i * 7, none⟩ = some (.string (strOfNums x.seg.name)) ∧ w.cell? ⟨g, i * 7 + 1, none⟩ = some (.int .u64 x.seg.addr) ∧ w.cell? ⟨g, i * 7 + 2, none⟩ = some (.int .u64 x.seg.size) ∧
      w.cell? ⟨g, i * 7 + 3, none⟩ = some (.int .u64 x.seg.off) ∧ w.cell? ⟨g, i * 7 + 4, none⟩ = some (.int .u64 x.seg.fsize) ∧ w.cell? ⟨g, i * 7 + 5, none⟩ = some (.int .i64 x.seg.prot) ∧ w.cell? ⟨g, i * 7 + 6, none⟩ = some x.v := by
  obtain ⟨g, hq, h0⟩ := row_cell sgCs_len h hx (show 0 < 7 by decide)
  have key : ∀ j, j < 7 → w.cell? ⟨g, i * 7 + j, none⟩ = (sgCs x)[j]? := fun j hj => by
    obtain ⟨g', hq', h1⟩ := row_cell sgCs_len h hx hj
    rw [hq] at hq'
    injection hq' with e
    injection e with e
    subst e
    exact h1
  exact ⟨g, hq, h0, key 1 (by decide), key 2 (by decide), key 3 (by decide), key 4 (by decide), key 5 (by decide), key 6 (by decide)⟩
theorem dep_cells {lo n c : Nat} {q : Option Addr} {l : List (List Int × Int)} (h : w.ownsRow lo 57 2 (.slice q n c) n (l.flatMap depCs)) {i : Nat} {x : List Int × Int} (hx : l[i]? = some x) :
    ∃ g, q = some ⟨g, 0, none⟩ ∧ w.cell? ⟨g, i * 2, none⟩ = some (.string (strOfNums x.1)) ∧ w.cell? ⟨g, i * 2 + 1, none⟩ = some (.int .i64 x.2) := by
  obtain ⟨g, hq, h0⟩ := row_cell depCs_len h hx (show 0 < 2 by decide)
  obtain ⟨g', hq', h1⟩ := row_cell depCs_len h hx (show 1 < 2 by decide)
  rw [hq] at hq'
  injection hq' with e
  injection e with e
  subst e
  exact ⟨g, hq, h0, h1⟩
theorem own_most {lo n c : Nat} {q : Option Addr} {T : TypeId} {k : Nat} {xs : List Value} (hw : w.ownsRow lo T k (.slice q n c) n xs) : n ≤ 9223372036854775807 := by
  rcases hw.2 with ⟨e, e0⟩ | ⟨g, cap, cur, hv, _, _, h1, h2, _⟩
  · omega
  · unfold maxLen at h2; omega

set_option maxHeartbeats 1600000 in
set_option maxRecDepth 20000 in
theorem sameSegment_any (s : Seg) {lo lo' n c c' : Nat} {q q' : Option Addr} (hn : n = s.secs.length) (h1 : w.ownsRow lo 88 6 (.slice q n c) n (s.secs.flatMap secCs)) (h2 : w.ownsRow lo' 88 6 (.slice q' n c') n (s.secs.flatMap secCs)) :
    Calls Tryz.prog 16 #[segV s (.slice q n c), segV s (.slice q' n c')] w fun e w' => e = .returned (.bool true) ∧ w.grownBy w' none := by
  have hmx := own_most h1
  obtain ⟨nm, ad, sz, of, fs, pr, sl⟩ := s
  unfold segV segArr
  simp only [] at hn h1 h2 ⊢
  have g1 := grown1 w (.cells #[.string (strOfNums nm), .int .u64 ad, .int .u64 sz, .int .u64 of, .int .u64 fs, .int .i64 pr, .slice q n c] 42)
  have g2 := grown1 (w.alloc (.cells #[.string (strOfNums nm), .int .u64 ad, .int .u64 sz, .int .u64 of, .int .u64 fs, .int .i64 pr, .slice q n c] 42)) (.cells #[.string (strOfNums nm), .int .u64 ad, .int .u64 sz, .int .u64 of, .int .u64 fs, .int .i64 pr, .slice q' n c'] 42)
  have gg := grown_trans g1 g2
  have A0 : SegAt _ w.heap.size ⟨nm, ad, sz, of, fs, pr, sl⟩ (.slice q n c) := SegAt.kept (w := w.alloc (.cells #[.string (strOfNums nm), .int .u64 ad, .int .u64 sz, .int .u64 of, .int .u64 fs, .int .i64 pr, .slice q n c] 42)) (heap_alloc_new w _) g2 (by simp)
  have B0 : SegAt ((w.alloc (.cells #[.string (strOfNums nm), .int .u64 ad, .int .u64 sz, .int .u64 of, .int .u64 fs, .int .i64 pr, .slice q n c] 42)).alloc (.cells #[.string (strOfNums nm), .int .u64 ad, .int .u64 sz, .int .u64 of, .int .u64 fs, .int .i64 pr, .slice q' n c'] 42)) (w.heap.size + 1) ⟨nm, ad, sz, of, fs, pr, sl⟩ (.slice q' n c') := by
    have := heap_alloc_new (w.alloc (.cells #[.string (strOfNums nm), .int .u64 ad, .int .u64 sz, .int .u64 of, .int .u64 fs, .int .i64 pr, .slice q n c] 42)) (.cells #[.string (strOfNums nm), .int .u64 ad, .int .u64 sz, .int .u64 of, .int .u64 fs, .int .i64 pr, .slice q' n c'] 42 (0, 0))
    rw [World.size_alloc] at this
    exact this
  have A := Lib.hid A0
  have B := Lib.hid B0
  have G := Lib.hid gg
  have R1 := Lib.hid h1
  have R2 := Lib.hid h2
  have HN := Lib.hid hn
  clear g1 g2 gg A0 B0 h1 h2 hn
  go_enter Tryz.func16, Tryz.ntmps16
  go_upto_region 4 with fail
  obtain ⟨W, hW⟩ : ∃ W, (w.alloc (.cells #[.string (strOfNums nm), .int .u64 ad, .int .u64 sz, .int .u64 of, .int .u64 fs, .int .i64 pr, .slice q n c] 42)).alloc (.cells #[.string (strOfNums nm), .int .u64 ad, .int .u64 sz, .int .u64 of, .int .u64 fs, .int .i64 pr, .slice q' n c'] 42) = W := ⟨_, rfl⟩
  rw [hW] at A B G ⊢
  obtain ⟨x, hx⟩ : ∃ x, w.heap.size = x := ⟨_, rfl⟩
  rw [hx] at A B
  simp only [hx]
  clear hW hx
  go_loopw [5] (fun i wr => ∃ k : Nat, k ≤ n ∧ i = .int .i64 k ∧ W.grownBy wr none) (fun i _ => n - (intOf i).toNat)
  case atStart => exact ⟨0, Nat.zero_le _, rfl, grown_refl _ _⟩
  case round =>
    obtain ⟨k, hk, rfl, hg⟩ := hrel
    have a6 := (A.out.kept hg (by simp)).c.2.2.2.2.2.2
    have b6 := (B.out.kept hg (by simp)).c.2.2.2.2.2.2
    have al := (A.out.kept hg (by simp)).lt
    have bl := (B.out.kept hg (by simp)).lt
    have GR := Lib.hid hg
    by_cases hlt : k < n
    · obtain ⟨s, hs⟩ : ∃ s, sl[k]? = some s := ⟨_, List.getElem?_eq_getElem (by rw [← HN.out]; exact hlt)⟩
      have gw := grown_trans G.out hg
      obtain ⟨g, rfl, c0, c1, c2, c3, c4, c5⟩ := sec_cells (own_grown R1.out gw) hs
      obtain ⟨g', rfl, d0, d1, d2, d3, d4, d5⟩ := sec_cells (own_grown R2.out gw) hs
      clear hg gw hs
      go_wp2
      go_quiet (fail)
      go_wp2
      go_roundw
      case rel => exact ⟨k + 1, hlt, by go_num, grown_drewN GR.out _⟩
      case measure => simp [intOf]; omega
    · have hkn : k = n := by omega
      subst hkn
      have GF := Lib.hid (grown_trans G.out hg)
      clear hg
      go_wp2
      go_ret
      exact ⟨rfl, GF.out⟩
-- SAME
set_option maxHeartbeats 6400000 in
set_option maxRecDepth 20000 in
theorem same5_any (h : Hx) (s : St) {lo lo' : Nat} {sv dv sv' dv' : Value} (L1 : Lists w lo s sv dv) (L2 : Lists w lo' s sv' dv') :
    Calls Tryz.prog 7 #[imgV h s sv dv, imgV h s sv' dv'] w fun e w' => e = .returned (.bool true) ∧ w.grownBy w' none := by
  obtain ⟨l, ll, a3, a4⟩ := L1.segs
  obtain ⟨l', ll', b3, b4⟩ := L2.segs
  have a5 := L1.deps
  have b5 := L2.deps
  obtain ⟨q, c, rfl⟩ := own_slice a3
  obtain ⟨q', c', rfl⟩ := own_slice b3
  obtain ⟨r, d, rfl⟩ := own_slice a5
  obtain ⟨r', d', rfl⟩ := own_slice b5
  have hl : l'.length = l.length := by rw [← List.length_map (f := Sg.seg), ll', ← ll, List.length_map]
  rw [hl] at b3 ⊢
  have hm1 := own_most a3
  have hm2 := own_most a5
  obtain ⟨N, hN⟩ : ∃ N, N = l.length := ⟨_, rfl⟩
  obtain ⟨M, hM⟩ : ∃ M, M = s.deps.length := ⟨_, rfl⟩
  rw [← hN] at a3 b3 hm1 ⊢
  rw [← hM] at a5 b5 hm2 ⊢
  have HN := Lib.hid hN
  have HM := Lib.hid hM
  have HL := Lib.hid (show l'.length = N by rw [hl, hN])
  have LL := Lib.hid ll
  have LL' := Lib.hid ll'
  have A3 := Lib.hid a3
  have A4 := Lib.hid a4
  have A5 := Lib.hid a5
  have B3 := Lib.hid b3
  have B4 := Lib.hid b4
  have B5 := Lib.hid b5
  have g1 := grown1 w (.cells (imgArr h s (.slice q N c) (.slice r M d)) 32)
  have g2 := grown1 (w.alloc (.cells (imgArr h s (.slice q N c) (.slice r M d)) 32)) (.cells (imgArr h s (.slice q' N c') (.slice r' M d')) 32)
  have G0 := Lib.hid (grown_trans g1 g2)
  have X0 := Lib.hid (ImgAt.kept (w := w.alloc (.cells (imgArr h s (.slice q N c) (.slice r M d)) 32)) (g := w.heap.size) (h := h) (s := s) (sv := .slice q N c) (dv := .slice r M d) (heap_alloc_new w _) g2 (by simp))
  have Y0 := Lib.hid (show ImgAt ((w.alloc (.cells (imgArr h s (.slice q N c) (.slice r M d)) 32)).alloc (.cells (imgArr h s (.slice q' N c') (.slice r' M d')) 32)) (w.heap.size + 1) h s (.slice q' N c') (.slice r' M d') from by
    have := heap_alloc_new (w.alloc (.cells (imgArr h s (.slice q N c) (.slice r M d)) 32)) (.cells (imgArr h s (.slice q' N c') (.slice r' M d')) 32 (0, 0))
    rw [World.size_alloc] at this
    exact this)
  clear hN hM hl ll ll' a3 a4 a5 b3 b4 b5 L1 L2 g1 g2
  unfold imgV
  go_enter Tryz.func7, Tryz.ntmps7
  go_upto_region 1 with fail
  obtain ⟨W, hW⟩ : ∃ W, (w.alloc (.cells (imgArr h s (.slice q N c) (.slice r M d)) 32)).alloc (.cells (imgArr h s (.slice q' N c') (.slice r' M d')) 32) = W := ⟨_, rfl⟩
  obtain ⟨x, hx⟩ : ∃ x, w.heap.size = x := ⟨_, rfl⟩
  unfold imgArr at hW ⊢
  rw [hW]
  rw [hx] at X0 Y0
  simp only [hx]
  have hW' : (w.alloc (.cells (imgArr h s (.slice q N c) (.slice r M d)) 32)).alloc (.cells (imgArr h s (.slice q' N c') (.slice r' M d')) 32) = W := hW
  rw [hW'] at X0 Y0 G0
  clear hW hW' hx
  have p0 := X0.out.c 0 (.int .i64 h.kd) rfl
  have t0 := Y0.out.c 0 (.int .i64 h.kd) rfl
  have p1 := X0.out.c 1 (.int .i64 h.sb) rfl
  have t1 := Y0.out.c 1 (.int .i64 h.sb) rfl
  have p2 := X0.out.c 2 (.int .u32 h.fl) rfl
  have t2 := Y0.out.c 2 (.int .u32 h.fl) rfl
  have p3 := X0.out.c 3 (.string (strOfNums s.name)) rfl
  have t3 := Y0.out.c 3 (.string (strOfNums s.name)) rfl
  have p4 := X0.out.c 4 (.slice q N c) rfl
  have t4 := Y0.out.c 4 (.slice q' N c') rfl
  have p5 := X0.out.c 5 (.slice r M d) rfl
  have t5 := Y0.out.c 5 (.slice r' M d') rfl
  have p6 := X0.out.c 6 (.int .u64 s.rb.1) rfl
  have t6 := Y0.out.c 6 (.int .u64 s.rb.1) rfl
  have p7 := X0.out.c 7 (.int .u64 s.rb.2) rfl
  have t7 := Y0.out.c 7 (.int .u64 s.rb.2) rfl
  have p8 := X0.out.c 8 (.int .u64 s.bd.1) rfl
  have t8 := Y0.out.c 8 (.int .u64 s.bd.1) rfl
  have p9 := X0.out.c 9 (.int .u64 s.bd.2) rfl
  have t9 := Y0.out.c 9 (.int .u64 s.bd.2) rfl
  have p10 := X0.out.c 10 (.int .u64 s.wk.1) rfl
  have t10 := Y0.out.c 10 (.int .u64 s.wk.1) rfl
  have p11 := X0.out.c 11 (.int .u64 s.wk.2) rfl
  have t11 := Y0.out.c 11 (.int .u64 s.wk.2) rfl
  have p12 := X0.out.c 12 (.int .u64 s.lz.1) rfl
  have t12 := Y0.out.c 12 (.int .u64 s.lz.1) rfl
  have p13 := X0.out.c 13 (.int .u64 s.lz.2) rfl
  have t13 := Y0.out.c 13 (.int .u64 s.lz.2) rfl
  have p14 := X0.out.c 14 (.int .u64 s.tr.1) rfl
  have t14 := Y0.out.c 14 (.int .u64 s.tr.1) rfl
  have p15 := X0.out.c 15 (.int .u64 s.tr.2) rfl
  have t15 := Y0.out.c 15 (.int .u64 s.tr.2) rfl
  have p16 := X0.out.c 16 (.int .u64 s.ch.1) rfl
  have t16 := Y0.out.c 16 (.int .u64 s.ch.1) rfl
  have p17 := X0.out.c 17 (.int .u64 s.ch.2) rfl
  have t17 := Y0.out.c 17 (.int .u64 s.ch.2) rfl
  have p18 := X0.out.c 18 (.int .u64 s.sy.1) rfl
  have t18 := Y0.out.c 18 (.int .u64 s.sy.1) rfl
  have p19 := X0.out.c 19 (.int .u64 s.sy.2) rfl
  have t19 := Y0.out.c 19 (.int .u64 s.sy.2) rfl
  have p20 := X0.out.c 20 (.int .u64 s.st.1) rfl
  have t20 := Y0.out.c 20 (.int .u64 s.st.1) rfl
  have p21 := X0.out.c 21 (.int .u64 s.st.2) rfl
  have t21 := Y0.out.c 21 (.int .u64 s.st.2) rfl
  have p22 := X0.out.c 22 (.int .u64 s.entry) rfl
  have t22 := Y0.out.c 22 (.int .u64 s.entry) rfl
  have p23 := X0.out.c 23 (.bool s.has) rfl
  have t23 := Y0.out.c 23 (.bool s.has) rfl
  have xl := lt_of_block X0.out
  have yl := lt_of_block Y0.out
  go_upto_region 6 with fail
  clear p0 t0 p1 t1 p2 t2 p3 t3 p4 t4 p5 t5 p6 t6 p7 t7 p8 t8 p9 t9 p10 t10 p11 t11 p12 t12 p13 t13 p14 t14 p15 t15 p16 t16 p17 t17 p18 t18 p19 t19 p20 t20 p21 t21 p22 t22 p23 t23
  go_loopw [5] (fun i wr => ∃ k : Nat, k ≤ N ∧ i = .int .i64 k ∧ W.grownBy wr none) (fun i _ => N - (intOf i).toNat)
  case atStart => exact ⟨0, Nat.zero_le _, rfl, grown_refl _ _⟩
  case round =>
    obtain ⟨k, hk, rfl, hg⟩ := hrel
    have GR := Lib.hid hg
    have p4 := (X0.out.kept hg (by simp)).c 4 (.slice q N c) rfl
    have t4 := (Y0.out.kept hg (by simp)).c 4 (.slice q' N c') rfl
    have xl2 := lt_of_block (X0.out.kept hg (by simp))
    have yl2 := lt_of_block (Y0.out.kept hg (by simp))
    by_cases hlt : k < N
    · obtain ⟨⟨sg, q1, c1⟩, hs⟩ : ∃ z, l[k]? = some z := ⟨_, List.getElem?_eq_getElem (by rw [← HN.out]; exact hlt)⟩
      obtain ⟨⟨sg', q2, c2⟩, hs'⟩ : ∃ z, l'[k]? = some z := ⟨_, List.getElem?_eq_getElem (by rw [HL.out]; exact hlt)⟩
      obtain rfl : sg' = sg := by
        have e1 : (l.map Sg.seg)[k]? = some sg := by rw [List.getElem?_map, hs]; rfl
        have e2 : (l'.map Sg.seg)[k]? = some sg' := by rw [List.getElem?_map, hs']; rfl
        rw [LL.out] at e1
        rw [LL'.out, e1] at e2
        exact (Option.some.inj e2).symm
      have gw := grown_trans G0.out hg
      obtain ⟨g1, rfl, u0, u1, u2, u3, u4, u5, u6⟩ := sg_cells (own_grown A3.out gw) hs
      obtain ⟨g2, rfl, v0, v1, v2, v3, v4, v5, v6⟩ := sg_cells (own_grown B3.out gw) hs'
      simp only [Sg.v] at u6 v6
      have SM := Lib.hid (fun (X : World) (hX : wr.grownBy X none) => sameSegment_any (w := X) sg' rfl (own_grown (A4.out _ (List.mem_of_getElem? hs)) (grown_trans gw hX)) (own_grown (B4.out _ (List.mem_of_getElem? hs')) (grown_trans gw hX)))
      simp only [] at u0 u1 u2 u3 u4 u5 v0 v1 v2 v3 v4 v5
      obtain ⟨nm, ad, sz, of, fs, pr, sl⟩ := sg'
      unfold segV segArr at SM
      simp only [] at u0 u1 u2 u3 u4 u5 u6 v0 v1 v2 v3 v4 v5 v6 SM
      have hn1 : (k : Int) < (N : Int) := by omega
      clear hg gw hs hs'
      go_wp2
      have gD : wr.grownBy wr.drew none := grown_drewN (grown_refl wr none) 1
      have p4' := grown_cell gD p4
      have t4' := grown_cell gD t4
      have u0' := grown_cell gD u0
      have u1' := grown_cell gD u1
      have u2' := grown_cell gD u2
      have u3' := grown_cell gD u3
      have u4' := grown_cell gD u4
      have u5' := grown_cell gD u5
      have u6' := grown_cell gD u6
      have v0' := grown_cell gD v0
      have v1' := grown_cell gD v1
      have v2' := grown_cell gD v2
      have v3' := grown_cell gD v3
      have v4' := grown_cell gD v4
      have v5' := grown_cell gD v5
      have v6' := grown_cell gD v6
      clear p4 t4 u0 u1 u2 u3 u4 u5 u6 v0 v1 v2 v3 v4 v5 v6
      go_region_held3 (fun X => X.cell? ⟨x, 4, none⟩ = some (.slice (some ⟨g1, 0, none⟩) N c) ∧ X.cell? ⟨x + 1, 4, none⟩ = some (.slice (some ⟨g2, 0, none⟩) N c') ∧ X.cell? ⟨g1, k * 7, none⟩ = some (.string (strOfNums nm)) ∧ X.cell? ⟨g1, k * 7 + 1, none⟩ = some (.int .u64 ad) ∧ X.cell? ⟨g1, k * 7 + 2, none⟩ = some (.int .u64 sz) ∧ X.cell? ⟨g1, k * 7 + 3, none⟩ = some (.int .u64 of) ∧ X.cell? ⟨g1, k * 7 + 4, none⟩ = some (.int .u64 fs) ∧ X.cell? ⟨g1, k * 7 + 5, none⟩ = some (.int .i64 pr) ∧ X.cell? ⟨g1, k * 7 + 6, none⟩ = some (.slice q1 sl.length c1) ∧ X.cell? ⟨g2, k * 7, none⟩ = some (.string (strOfNums nm)) ∧ X.cell? ⟨g2, k * 7 + 1, none⟩ = some (.int .u64 ad) ∧ X.cell? ⟨g2, k * 7 + 2, none⟩ = some (.int .u64 sz) ∧ X.cell? ⟨g2, k * 7 + 3, none⟩ = some (.int .u64 of) ∧ X.cell? ⟨g2, k * 7 + 4, none⟩ = some (.int .u64 fs) ∧ X.cell? ⟨g2, k * 7 + 5, none⟩ = some (.int .i64 pr) ∧ X.cell? ⟨g2, k * 7 + 6, none⟩ = some (.slice q2 sl.length c2))
        (first | exact ⟨p4', t4', u0', u1', u2', u3', u4', u5', u6', v0', v1', v2', v3', v4', v5', v6'⟩ | exact ⟨grown_cell hg1 p4', grown_cell hg1 t4', grown_cell hg1 u0', grown_cell hg1 u1', grown_cell hg1 u2', grown_cell hg1 u3', grown_cell hg1 u4', grown_cell hg1 u5', grown_cell hg1 u6', grown_cell hg1 v0', grown_cell hg1 v1', grown_cell hg1 v2', grown_cell hg1 v3', grown_cell hg1 v4', grown_cell hg1 v5', grown_cell hg1 v6'⟩)
        (first
          | (go_simp; go_at_call 16; refine (SM.out _ gD).mono ?_; rintro e x1 ⟨rfl, hg1⟩))
      have GN := Lib.hid (grown_trans (grown_trans GR.out gD) hg1)
      clear hg1 gD p4' t4' u0' u1' u2' u3' u4' u5' u6' v0' v1' v2' v3' v4' v5' v6'
      go_wp2
      go_roundw
      case rel => exact ⟨k + 1, hlt, by go_num, GN.out⟩
      case measure => simp [intOf]; omega
    · have hkn : k = N := by omega
      subst hkn
      clear hg
      go_upto_region 11 with fail
      clear p4 t4 xl2 yl2
      go_loopw [6] (fun i wr2 => ∃ j : Nat, j ≤ M ∧ i = .int .i64 j ∧ wr.grownBy wr2 none) (fun i _ => M - (intOf i).toNat)
      case atStart => exact ⟨0, Nat.zero_le _, rfl, grown_refl _ _⟩
      case round =>
        obtain ⟨j, hj, rfl, hg⟩ := hrel
        have gw := grown_trans GR.out hg
        have p5 := (X0.out.kept gw (by simp)).c 5 (.slice r M d) rfl
        have t5 := (Y0.out.kept gw (by simp)).c 5 (.slice r' M d') rfl
        have G2 := Lib.hid hg
        by_cases hlt : j < M
        · obtain ⟨⟨dn, dk⟩, hs⟩ : ∃ z, s.deps[j]? = some z := ⟨_, List.getElem?_eq_getElem (by rw [← HM.out]; exact hlt)⟩
          obtain ⟨g1, rfl, u0, u1⟩ := dep_cells (own_grown A5.out (grown_trans G0.out gw)) hs
          obtain ⟨g2, rfl, v0, v1⟩ := dep_cells (own_grown B5.out (grown_trans G0.out gw)) hs
          have hn1 : (j : Int) < (M : Int) := by omega
          simp only [] at u0 u1 v0 v1
          clear hg gw hs
          go_wp2
          go_quiet (fail)
          go_wp2
          go_roundw
          case rel => exact ⟨j + 1, hlt, by go_num, grown_drewN G2.out _⟩
          case measure => simp [intOf]; omega
        · have hjm : j = M := by omega
          subst hjm
          have GF := Lib.hid (grown_trans G0.out gw)
          clear hg gw
          go_wp2
          go_ret
          exact ⟨rfl, GF.out⟩
end Go.Proofs.YtemdbfgpimfkdaaGreat

/- Lists that are gone over by a function: slices.IndexFunc, slices.ContainsFunc, image.all, over segments, sections and spans. The function by its contract. -/
namespace Go.Proofs.YtemdbfgpimfkdaaGreat
open Go.RowKit
variable {w w' : World}

/-- The first of a list of which it is so. -/
def Idx {α : Type} (l : List α) (P : α → Bool) (z : Int) : Prop := (z = -1 ∧ l.any P = false) ∨ ∃ k x, z = (k : Nat) ∧ l[k]? = some x ∧ P x = true ∧ ∀ i y, i < k → l[i]? = some y → P y = false
theorem Idx.any {α : Type} {l : List α} {P : α → Bool} {z : Int} (h : Idx l P z) : decide (0 ≤ z) = l.any P := by
  rcases h with ⟨rfl, h⟩ | ⟨k, x, rfl, hx, hp, _⟩
  · rw [h]; rfl
  · rw [List.any_eq_true.2 ⟨x, List.mem_of_getElem? hx, hp⟩]; simp
theorem any_not {α : Type} (l : List α) (P : α → Bool) : (!l.any (fun x => !P x)) = l.all P := by
  induction l with
  | nil => rfl
  | cons x l ih => simp only [List.any_cons, List.all_cons, Bool.not_or, Bool.not_not, ih]
theorem none_any {α : Type} {l : List α} {P : α → Bool} (h : ∀ i x, i < l.length → l[i]? = some x → P x = false) : l.any P = false := by
  rw [List.any_eq_false]
  intro x hx
  obtain ⟨i, hi, rfl⟩ := List.getElem_of_mem hx
  rw [h i _ hi (List.getElem?_eq_getElem hi)]; simp
/-- Rows by their cells. -/
def RowSg (w : World) (q : Option Addr) (l : List Sg) : Prop := ∀ i x, l[i]? = some x → ∃ g, q = some ⟨g, 0, none⟩ ∧ w.cell? ⟨g, i * 7, none⟩ = some (.string (strOfNums x.seg.name)) ∧ w.cell? ⟨g, i * 7 + 1, none⟩ = some (.int .u64 x.seg.addr) ∧ w.cell? ⟨g, i * 7 + 2, none⟩ = some (.int .u64 x.seg.size) ∧
      w.cell? ⟨g, i * 7 + 3, none⟩ = some (.int .u64 x.seg.off) ∧ w.cell? ⟨g, i * 7 + 4, none⟩ = some (.int .u64 x.seg.fsize) ∧ w.cell? ⟨g, i * 7 + 5, none⟩ = some (.int .i64 x.seg.prot) ∧ w.cell? ⟨g, i * 7 + 6, none⟩ = some x.v
theorem RowSg.grown {q : Option Addr} {l : List Sg} (h : RowSg w q l) (hg : w.grownBy w' none) : RowSg w' q l := fun i x hx => by
  obtain ⟨g, e, c0, c1, c2, c3, c4, c5, c6⟩ := h i x hx
  exact ⟨g, e, grown_cell hg c0, grown_cell hg c1, grown_cell hg c2, grown_cell hg c3, grown_cell hg c4, grown_cell hg c5, grown_cell hg c6⟩
def RowSec (w : World) (q : Option Addr) (l : List Sec) : Prop := ∀ i x, l[i]? = some x → ∃ g, q = some ⟨g, 0, none⟩ ∧ w.cell? ⟨g, i * 6, none⟩ = some (.string (strOfNums x.name)) ∧ w.cell? ⟨g, i * 6 + 1, none⟩ = some (.string (strOfNums x.seg)) ∧ w.cell? ⟨g, i * 6 + 2, none⟩ = some (.int .u64 x.addr) ∧
      w.cell? ⟨g, i * 6 + 3, none⟩ = some (.int .u64 x.size) ∧ w.cell? ⟨g, i * 6 + 4, none⟩ = some (.int .u64 x.off) ∧ w.cell? ⟨g, i * 6 + 5, none⟩ = some (.int .i64 x.kind)
theorem RowSec.grown {q : Option Addr} {l : List Sec} (h : RowSec w q l) (hg : w.grownBy w' none) : RowSec w' q l := fun i x hx => by
  obtain ⟨g, e, c0, c1, c2, c3, c4, c5⟩ := h i x hx
  exact ⟨g, e, grown_cell hg c0, grown_cell hg c1, grown_cell hg c2, grown_cell hg c3, grown_cell hg c4, grown_cell hg c5⟩
def RowSp (w : World) (q : Option Addr) (l : List (Int × Int)) : Prop := ∀ i x, l[i]? = some x → ∃ g, q = some ⟨g, 0, none⟩ ∧ w.cell? ⟨g, i * 2, none⟩ = some (.int .u64 x.1) ∧ w.cell? ⟨g, i * 2 + 1, none⟩ = some (.int .u64 x.2)
theorem RowSp.grown {q : Option Addr} {l : List (Int × Int)} (h : RowSp w q l) (hg : w.grownBy w' none) : RowSp w' q l := fun i x hx => by
  obtain ⟨g, e, c0, c1⟩ := h i x hx
  exact ⟨g, e, grown_cell hg c0, grown_cell hg c1⟩
theorem rowSg_of {lo n c : Nat} {q : Option Addr} {l : List Sg} (h : w.ownsRow lo 42 7 (.slice q n c) n (l.flatMap sgCs)) : RowSg w q l := fun _ _ hx => sg_cells h hx
theorem rowSec_of {lo n c : Nat} {q : Option Addr} {l : List Sec} (h : w.ownsRow lo 88 6 (.slice q n c) n (l.flatMap secCs)) : RowSec w q l := fun _ _ hx => sec_cells h hx

theorem indexSeg_any (l : List Sg) (n : Nat) (hn : l.length = n) (hl : n ≤ 9223372036854775807) (P : Sg → Bool) {b : Nat} (q : Option Addr) (c : Nat) (hr : RowSg w q l) (hF : ∀ (W : World) (x : Sg), x ∈ l → w.grownBy W none → Calls Tryz.prog 91 #[segV x.seg x.v, .pointer (some ⟨b, 0, none⟩)] W fun e w' => e = .returned (.bool (P x)) ∧ W.grownBy w' none) :
    Calls Tryz.prog 93 #[.slice q n c, .func (.func 91) #[] #[.pointer (some ⟨b, 0, none⟩)]] w fun e w' => (∃ z : Int, e = .returned (.int .i64 z) ∧ Idx l P z) ∧ w.grownBy w' none := by
  subst hn
  have RR := Lib.hid hr
  have FF := Lib.hid hF
  clear hr hF
  go_enter Tryz.func93, Tryz.ntmps93
  go_wp2
  go_loopw [8] (fun i wr => ∃ k : Nat, k ≤ l.length ∧ i = .int .i64 k ∧ w.grownBy wr none ∧ ∀ i y, i < k → l[i]? = some y → P y = false) (fun i _ => l.length - (intOf i).toNat)
  case atStart => exact ⟨0, Nat.zero_le _, rfl, grown_refl _ _, fun i y h => by omega⟩
  case round =>
    obtain ⟨k, hk, rfl, hg, hno⟩ := hrel
    have G := Lib.hid hg
    have NO := Lib.hid hno
    by_cases hlt : k < l.length
    · obtain ⟨x, hx⟩ : ∃ x, l[k]? = some x := ⟨_, List.getElem?_eq_getElem hlt⟩
      obtain ⟨g, rfl, c0, c1, c2, c3, c4, c5, c6⟩ := (RR.out.grown hg) k x hx
      have M1 := Lib.hid (FF.out wr x (List.mem_of_getElem? hx) hg)
      have HX := Lib.hid hx
      have dl : decide ((k : Int) < (l.length : Int)) = true := by simp; omega
      obtain ⟨bx, hbx⟩ : ∃ bx, bx = P x := ⟨_, rfl⟩
      rw [← hbx] at M1
      have PX := Lib.hid hbx
      have hkl : (k : Int) < (l.length : Int) := by omega
      obtain ⟨⟨nm, ad, sz, of, fs, pr, sl⟩, q1, k1⟩ := x
      unfold segV segArr Sg.v at M1
      simp only [Sg.v] at c0 c1 c2 c3 c4 c5 c6 M1
      clear hg hno hx hbx
      generalize l.length = N at *
      go_wp2_with fail
      refine M1.out.mono ?_
      rintro e w3 ⟨rfl, hg⟩
      have G3 := Lib.hid (grown_trans G.out hg)
      clear hg
      cases bx
      · go_wp2
        go_roundw
        case rel =>
          refine ⟨k + 1, hlt, by go_num, G3.out, fun i y hi hy => ?_⟩
          rcases Nat.lt_or_ge i k with h | h
          · exact NO.out i y h hy
          · obtain rfl : i = k := by omega
            rw [HX.out] at hy
            injection hy with hy
            rw [← hy]; exact PX.out.symm
        case measure => simp [intOf]; omega
      · go_wp2
        go_ret
        exact ⟨⟨k, rfl, .inr ⟨k, _, rfl, HX.out, PX.out.symm, NO.out⟩⟩, G3.out⟩
    · have hk' : k = l.length := by omega
      have NA := Lib.hid (none_any (P := P) (l := l) (fun i x hi hx => hno i x (by omega) hx))
      have dl : decide ((k : Int) < (l.length : Int)) = false := by simp; omega
      clear hno hg
      generalize l.length = N at *
      go_wp2
      go_ret
      exact ⟨⟨-1, rfl, .inl ⟨rfl, NA.out⟩⟩, G.out⟩

theorem containsSeg_any (l : List Sg) (n : Nat) (hn : l.length = n) (hl : n ≤ 9223372036854775807) (P : Sg → Bool) {b : Nat} (q : Option Addr) (c : Nat) (hr : RowSg w q l) (hF : ∀ (W : World) (x : Sg), x ∈ l → w.grownBy W none → Calls Tryz.prog 91 #[segV x.seg x.v, .pointer (some ⟨b, 0, none⟩)] W fun e w' => e = .returned (.bool (P x)) ∧ W.grownBy w' none) :
    Calls Tryz.prog 90 #[.slice q n c, .func (.func 91) #[] #[.pointer (some ⟨b, 0, none⟩)]] w fun e w' => e = .returned (.bool (l.any P)) ∧ w.grownBy w' none := by
  have I := Lib.hid (indexSeg_any l n hn hl P q c hr hF)
  clear hr hF
  go_enter Tryz.func90, Tryz.ntmps90
  go_wp2_with fail
  refine I.out.mono ?_
  rintro e w' ⟨⟨z, rfl, hz⟩, hg⟩
  have G := Lib.hid hg
  have Z := Lib.hid hz
  clear hg hz
  go_wp2
  go_ret
  exact ⟨ret_bool Z.out.any, G.out⟩

theorem indexLaid_any (l : List Sg) (n : Nat) (hn : l.length = n) (hl : n ≤ 9223372036854775807) (P : Sg → Bool) (q : Option Addr) (c : Nat) (hr : RowSg w q l) (hF : ∀ (W : World) (x : Sg), x ∈ l → w.grownBy W none → Calls Tryz.prog 18 #[segV x.seg x.v] W fun e w' => e = .returned (.bool (P x)) ∧ W.grownBy w' none) :
    Calls Tryz.prog 93 #[.slice q n c, .func (.func 18) #[] #[]] w fun e w' => (∃ z : Int, e = .returned (.int .i64 z) ∧ Idx l P z) ∧ w.grownBy w' none := by
  subst hn
  have RR := Lib.hid hr
  have FF := Lib.hid hF
  clear hr hF
  go_enter Tryz.func93, Tryz.ntmps93
  go_wp2
  go_loopw [8] (fun i wr => ∃ k : Nat, k ≤ l.length ∧ i = .int .i64 k ∧ w.grownBy wr none ∧ ∀ i y, i < k → l[i]? = some y → P y = false) (fun i _ => l.length - (intOf i).toNat)
  case atStart => exact ⟨0, Nat.zero_le _, rfl, grown_refl _ _, fun i y h => by omega⟩
  case round =>
    obtain ⟨k, hk, rfl, hg, hno⟩ := hrel
    have G := Lib.hid hg
    have NO := Lib.hid hno
    by_cases hlt : k < l.length
    · obtain ⟨x, hx⟩ : ∃ x, l[k]? = some x := ⟨_, List.getElem?_eq_getElem hlt⟩
      obtain ⟨g, rfl, c0, c1, c2, c3, c4, c5, c6⟩ := (RR.out.grown hg) k x hx
      have M1 := Lib.hid (FF.out wr x (List.mem_of_getElem? hx) hg)
      have HX := Lib.hid hx
      have dl : decide ((k : Int) < (l.length : Int)) = true := by simp; omega
      obtain ⟨bx, hbx⟩ : ∃ bx, bx = P x := ⟨_, rfl⟩
      rw [← hbx] at M1
      have PX := Lib.hid hbx
      have hkl : (k : Int) < (l.length : Int) := by omega
      obtain ⟨⟨nm, ad, sz, of, fs, pr, sl⟩, q1, k1⟩ := x
      unfold segV segArr Sg.v at M1
      simp only [Sg.v] at c0 c1 c2 c3 c4 c5 c6 M1
      clear hg hno hx hbx
      generalize l.length = N at *
      go_wp2_with fail
      refine M1.out.mono ?_
      rintro e w3 ⟨rfl, hg⟩
      have G3 := Lib.hid (grown_trans G.out hg)
      clear hg
      cases bx
      · go_wp2
        go_roundw
        case rel =>
          refine ⟨k + 1, hlt, by go_num, G3.out, fun i y hi hy => ?_⟩
          rcases Nat.lt_or_ge i k with h | h
          · exact NO.out i y h hy
          · obtain rfl : i = k := by omega
            rw [HX.out] at hy
            injection hy with hy
            rw [← hy]; exact PX.out.symm
        case measure => simp [intOf]; omega
      · go_wp2
        go_ret
        exact ⟨⟨k, rfl, .inr ⟨k, _, rfl, HX.out, PX.out.symm, NO.out⟩⟩, G3.out⟩
    · have hk' : k = l.length := by omega
      have NA := Lib.hid (none_any (P := P) (l := l) (fun i x hi hx => hno i x (by omega) hx))
      have dl : decide ((k : Int) < (l.length : Int)) = false := by simp; omega
      clear hno hg
      generalize l.length = N at *
      go_wp2
      go_ret
      exact ⟨⟨-1, rfl, .inl ⟨rfl, NA.out⟩⟩, G.out⟩

theorem indexSec_any (l : List Sec) (n : Nat) (hn : l.length = n) (hl : n ≤ 9223372036854775807) (P : Sec → Bool) {b : Nat} (q : Option Addr) (c : Nat) (hr : RowSec w q l) (hF : ∀ (W : World) (x : Sec), x ∈ l → w.grownBy W none → Calls Tryz.prog 95 #[secV x, .pointer (some ⟨b, 0, none⟩)] W fun e w' => e = .returned (.bool (P x)) ∧ W.grownBy w' none) :
    Calls Tryz.prog 114 #[.slice q n c, .func (.func 95) #[] #[.pointer (some ⟨b, 0, none⟩)]] w fun e w' => (∃ z : Int, e = .returned (.int .i64 z) ∧ Idx l P z) ∧ w.grownBy w' none := by
  subst hn
  have RR := Lib.hid hr
  have FF := Lib.hid hF
  clear hr hF
  go_enter Tryz.func114, Tryz.ntmps114
  go_wp2
  go_loopw [8] (fun i wr => ∃ k : Nat, k ≤ l.length ∧ i = .int .i64 k ∧ w.grownBy wr none ∧ ∀ i y, i < k → l[i]? = some y → P y = false) (fun i _ => l.length - (intOf i).toNat)
  case atStart => exact ⟨0, Nat.zero_le _, rfl, grown_refl _ _, fun i y h => by omega⟩
  case round =>
    obtain ⟨k, hk, rfl, hg, hno⟩ := hrel
    have G := Lib.hid hg
    have NO := Lib.hid hno
    by_cases hlt : k < l.length
    · obtain ⟨x, hx⟩ : ∃ x, l[k]? = some x := ⟨_, List.getElem?_eq_getElem hlt⟩
      obtain ⟨g, rfl, c0, c1, c2, c3, c4, c5⟩ := (RR.out.grown hg) k x hx
      have M1 := Lib.hid (FF.out wr x (List.mem_of_getElem? hx) hg)
      have HX := Lib.hid hx
      have dl : decide ((k : Int) < (l.length : Int)) = true := by simp; omega
      obtain ⟨bx, hbx⟩ : ∃ bx, bx = P x := ⟨_, rfl⟩
      rw [← hbx] at M1
      have PX := Lib.hid hbx
      have hkl : (k : Int) < (l.length : Int) := by omega
      obtain ⟨sn, ss, sa, sb, so, sk⟩ := x
      unfold secV at M1
      simp only [] at c0 c1 c2 c3 c4 c5 M1
      clear hg hno hx hbx
      generalize l.length = N at *
      go_wp2_with fail
      refine M1.out.mono ?_
      rintro e w3 ⟨rfl, hg⟩
      have G3 := Lib.hid (grown_trans G.out hg)
      clear hg
      cases bx
      · go_wp2
        go_roundw
        case rel =>
          refine ⟨k + 1, hlt, by go_num, G3.out, fun i y hi hy => ?_⟩
          rcases Nat.lt_or_ge i k with h | h
          · exact NO.out i y h hy
          · obtain rfl : i = k := by omega
            rw [HX.out] at hy
            injection hy with hy
            rw [← hy]; exact PX.out.symm
        case measure => simp [intOf]; omega
      · go_wp2
        go_ret
        exact ⟨⟨k, rfl, .inr ⟨k, _, rfl, HX.out, PX.out.symm, NO.out⟩⟩, G3.out⟩
    · have hk' : k = l.length := by omega
      have NA := Lib.hid (none_any (P := P) (l := l) (fun i x hi hx => hno i x (by omega) hx))
      have dl : decide ((k : Int) < (l.length : Int)) = false := by simp; omega
      clear hno hg
      generalize l.length = N at *
      go_wp2
      go_ret
      exact ⟨⟨-1, rfl, .inl ⟨rfl, NA.out⟩⟩, G.out⟩

theorem containsSec_any (l : List Sec) (n : Nat) (hn : l.length = n) (hl : n ≤ 9223372036854775807) (P : Sec → Bool) {b : Nat} (q : Option Addr) (c : Nat) (hr : RowSec w q l) (hF : ∀ (W : World) (x : Sec), x ∈ l → w.grownBy W none → Calls Tryz.prog 95 #[secV x, .pointer (some ⟨b, 0, none⟩)] W fun e w' => e = .returned (.bool (P x)) ∧ W.grownBy w' none) :
    Calls Tryz.prog 94 #[.slice q n c, .func (.func 95) #[] #[.pointer (some ⟨b, 0, none⟩)]] w fun e w' => e = .returned (.bool (l.any P)) ∧ w.grownBy w' none := by
  have I := Lib.hid (indexSec_any l n hn hl P q c hr hF)
  clear hr hF
  go_enter Tryz.func94, Tryz.ntmps94
  go_wp2_with fail
  refine I.out.mono ?_
  rintro e w' ⟨⟨z, rfl, hz⟩, hg⟩
  have G := Lib.hid hg
  have Z := Lib.hid hz
  clear hg hz
  go_wp2
  go_ret
  exact ⟨ret_bool Z.out.any, G.out⟩

theorem indexSp_any (l : List (Int × Int)) (n : Nat) (hn : l.length = n) (hl : n ≤ 9223372036854775807) (P : (Int × Int) → Bool) {b : Nat} (q : Option Addr) (c : Nat) (hr : RowSp w q l) (hF : ∀ (W : World) (x : (Int × Int)), x ∈ l → w.grownBy W none → Calls Tryz.prog 97 #[spanV x, .pointer (some ⟨b, 0, none⟩)] W fun e w' => e = .returned (.bool (P x)) ∧ W.grownBy w' none) :
    Calls Tryz.prog 115 #[.slice q n c, .func (.func 97) #[] #[.pointer (some ⟨b, 0, none⟩)]] w fun e w' => (∃ z : Int, e = .returned (.int .i64 z) ∧ Idx l P z) ∧ w.grownBy w' none := by
  subst hn
  have RR := Lib.hid hr
  have FF := Lib.hid hF
  clear hr hF
  go_enter Tryz.func115, Tryz.ntmps115
  go_wp2
  go_loopw [8] (fun i wr => ∃ k : Nat, k ≤ l.length ∧ i = .int .i64 k ∧ w.grownBy wr none ∧ ∀ i y, i < k → l[i]? = some y → P y = false) (fun i _ => l.length - (intOf i).toNat)
  case atStart => exact ⟨0, Nat.zero_le _, rfl, grown_refl _ _, fun i y h => by omega⟩
  case round =>
    obtain ⟨k, hk, rfl, hg, hno⟩ := hrel
    have G := Lib.hid hg
    have NO := Lib.hid hno
    by_cases hlt : k < l.length
    · obtain ⟨x, hx⟩ : ∃ x, l[k]? = some x := ⟨_, List.getElem?_eq_getElem hlt⟩
      obtain ⟨g, rfl, c0, c1⟩ := (RR.out.grown hg) k x hx
      have M1 := Lib.hid (FF.out wr x (List.mem_of_getElem? hx) hg)
      have HX := Lib.hid hx
      have dl : decide ((k : Int) < (l.length : Int)) = true := by simp; omega
      obtain ⟨bx, hbx⟩ : ∃ bx, bx = P x := ⟨_, rfl⟩
      rw [← hbx] at M1
      have PX := Lib.hid hbx
      have hkl : (k : Int) < (l.length : Int) := by omega
      obtain ⟨X, Y⟩ := x
      unfold spanV at M1
      simp only [] at c0 c1 M1
      clear hg hno hx hbx
      generalize l.length = N at *
      go_wp2_with fail
      refine M1.out.mono ?_
      rintro e w3 ⟨rfl, hg⟩
      have G3 := Lib.hid (grown_trans G.out hg)
      clear hg
      cases bx
      · go_wp2
        go_roundw
        case rel =>
          refine ⟨k + 1, hlt, by go_num, G3.out, fun i y hi hy => ?_⟩
          rcases Nat.lt_or_ge i k with h | h
          · exact NO.out i y h hy
          · obtain rfl : i = k := by omega
            rw [HX.out] at hy
            injection hy with hy
            rw [← hy]; exact PX.out.symm
        case measure => simp [intOf]; omega
      · go_wp2
        go_ret
        exact ⟨⟨k, rfl, .inr ⟨k, _, rfl, HX.out, PX.out.symm, NO.out⟩⟩, G3.out⟩
    · have hk' : k = l.length := by omega
      have NA := Lib.hid (none_any (P := P) (l := l) (fun i x hi hx => hno i x (by omega) hx))
      have dl : decide ((k : Int) < (l.length : Int)) = false := by simp; omega
      clear hno hg
      generalize l.length = N at *
      go_wp2
      go_ret
      exact ⟨⟨-1, rfl, .inl ⟨rfl, NA.out⟩⟩, G.out⟩

theorem containsSp_any (l : List (Int × Int)) (n : Nat) (hn : l.length = n) (hl : n ≤ 9223372036854775807) (P : (Int × Int) → Bool) {b : Nat} (q : Option Addr) (c : Nat) (hr : RowSp w q l) (hF : ∀ (W : World) (x : (Int × Int)), x ∈ l → w.grownBy W none → Calls Tryz.prog 97 #[spanV x, .pointer (some ⟨b, 0, none⟩)] W fun e w' => e = .returned (.bool (P x)) ∧ W.grownBy w' none) :
    Calls Tryz.prog 96 #[.slice q n c, .func (.func 97) #[] #[.pointer (some ⟨b, 0, none⟩)]] w fun e w' => e = .returned (.bool (l.any P)) ∧ w.grownBy w' none := by
  have I := Lib.hid (indexSp_any l n hn hl P q c hr hF)
  clear hr hF
  go_enter Tryz.func96, Tryz.ntmps96
  go_wp2_with fail
  refine I.out.mono ?_
  rintro e w' ⟨⟨z, rfl, hz⟩, hg⟩
  have G := Lib.hid hg
  have Z := Lib.hid hz
  clear hg hz
  go_wp2
  go_ret
  exact ⟨ret_bool Z.out.any, G.out⟩

theorem all1Prot_any (x : Sg) (r : Bool) {g : Nat} (hc : w.cell? ⟨g, 0, none⟩ = some (.func (.func 56) #[] #[])) (hl : g < w.heap.size)
    (hF : ∀ W, w.grownBy W none → Calls Tryz.prog 56 #[segV x.seg x.v] W fun e w' => e = .returned (.bool r) ∧ W.grownBy w' none) :
    Calls Tryz.prog 91 #[segV x.seg x.v, .pointer (some ⟨g, 0, none⟩)] w fun e w' => e = .returned (.bool (!r)) ∧ w.grownBy w' none := by
  obtain ⟨⟨nm, ad, sz, of, fs, pr, sl⟩, q1, k1⟩ := x
  have gB := grown1 w (.cells #[.string (strOfNums nm), .int .u64 ad, .int .u64 sz, .int .u64 of, .int .u64 fs, .int .i64 pr, .slice q1 sl.length k1] 42)
  have G := Lib.hid gB
  have c0 := grown_cell gB hc
  have gl : g < (w.alloc (.cells #[.string (strOfNums nm), .int .u64 ad, .int .u64 sz, .int .u64 of, .int .u64 fs, .int .i64 pr, .slice q1 sl.length k1] 42)).heap.size := Nat.lt_of_lt_of_le hl gB.size
  have M1 := Lib.hid (hF _ gB)
  unfold segV segArr Sg.v at M1
  unfold segV segArr Sg.v
  simp only [] at M1 ⊢
  clear gB hc hl hF
  go_enter Tryz.func91, Tryz.ntmps91
  go_wp2_with fail
  refine M1.out.mono ?_
  rintro e w3 ⟨rfl, hg⟩
  have GF := Lib.hid (grown_trans G.out hg)
  clear hg
  go_wp2
  go_ret
  exact ⟨rfl, GF.out⟩
theorem allProt_any (l : List Sg) (n : Nat) (hn : l.length = n) (hl : n ≤ 9223372036854775807) (P : Sg → Bool) (q : Option Addr) (c : Nat) (hr : RowSg w q l) (hF : ∀ (W : World) (x : Sg), x ∈ l → w.grownBy W none → Calls Tryz.prog 56 #[segV x.seg x.v] W fun e w' => e = .returned (.bool (P x)) ∧ W.grownBy w' none) :
    Calls Tryz.prog 55 #[.slice q n c, .func (.func 56) #[] #[]] w fun e w' => e = .returned (.bool (l.all P)) ∧ w.grownBy w' none := by
  have gB := grown1 w (.cells #[.func (.func 56) #[] #[]] 66)
  have G := Lib.hid gB
  have CF := Lib.hid (containsSeg_any (w := w.alloc (.cells #[.func (.func 56) #[] #[]] 66)) (b := w.heap.size) l n hn hl (fun x => !P x) q c (hr.grown gB) (fun W x hx hg => all1Prot_any (g := w.heap.size) x (P x) (grown_cell hg (by rw [cell_of (heap_alloc_new w _)]; rfl)) (Nat.lt_of_lt_of_le (by rw [World.size_alloc]; exact Nat.lt_succ_self _) hg.size) (fun W2 h2 => hF W2 x hx (grown_trans gB (grown_trans hg h2)))))
  have AN := Lib.hid (any_not l P)
  obtain ⟨r, hr2⟩ : ∃ r, r = l.any (fun x => !P x) := ⟨_, rfl⟩
  rw [← hr2] at CF AN
  clear hr hF gB hr2
  go_enter Tryz.func55, Tryz.ntmps55
  go_wp2_with fail
  refine CF.out.mono ?_
  rintro e w3 ⟨rfl, hg⟩
  have GF := Lib.hid (grown_trans G.out hg)
  clear hg
  go_wp2
  go_ret
  exact ⟨by rw [← AN.out]; rfl, GF.out⟩

theorem all1Size_any (x : Sg) (r : Bool) {b : Nat} {g : Nat} (hc : w.cell? ⟨g, 0, none⟩ = some (.func (.func 57) #[] #[.pointer (some ⟨b, 0, none⟩)])) (hl : g < w.heap.size)
    (hF : ∀ W, w.grownBy W none → Calls Tryz.prog 57 #[segV x.seg x.v, .pointer (some ⟨b, 0, none⟩)] W fun e w' => e = .returned (.bool r) ∧ W.grownBy w' none) :
    Calls Tryz.prog 91 #[segV x.seg x.v, .pointer (some ⟨g, 0, none⟩)] w fun e w' => e = .returned (.bool (!r)) ∧ w.grownBy w' none := by
  obtain ⟨⟨nm, ad, sz, of, fs, pr, sl⟩, q1, k1⟩ := x
  have gB := grown1 w (.cells #[.string (strOfNums nm), .int .u64 ad, .int .u64 sz, .int .u64 of, .int .u64 fs, .int .i64 pr, .slice q1 sl.length k1] 42)
  have G := Lib.hid gB
  have c0 := grown_cell gB hc
  have gl : g < (w.alloc (.cells #[.string (strOfNums nm), .int .u64 ad, .int .u64 sz, .int .u64 of, .int .u64 fs, .int .i64 pr, .slice q1 sl.length k1] 42)).heap.size := Nat.lt_of_lt_of_le hl gB.size
  have M1 := Lib.hid (hF _ gB)
  unfold segV segArr Sg.v at M1
  unfold segV segArr Sg.v
  simp only [] at M1 ⊢
  clear gB hc hl hF
  go_enter Tryz.func91, Tryz.ntmps91
  go_wp2_with fail
  refine M1.out.mono ?_
  rintro e w3 ⟨rfl, hg⟩
  have GF := Lib.hid (grown_trans G.out hg)
  clear hg
  go_wp2
  go_ret
  exact ⟨rfl, GF.out⟩
theorem allSize_any (l : List Sg) (n : Nat) (hn : l.length = n) (hl : n ≤ 9223372036854775807) (P : Sg → Bool) {b : Nat} (q : Option Addr) (c : Nat) (hr : RowSg w q l) (hF : ∀ (W : World) (x : Sg), x ∈ l → w.grownBy W none → Calls Tryz.prog 57 #[segV x.seg x.v, .pointer (some ⟨b, 0, none⟩)] W fun e w' => e = .returned (.bool (P x)) ∧ W.grownBy w' none) :
    Calls Tryz.prog 55 #[.slice q n c, .func (.func 57) #[] #[.pointer (some ⟨b, 0, none⟩)]] w fun e w' => e = .returned (.bool (l.all P)) ∧ w.grownBy w' none := by
  have gB := grown1 w (.cells #[.func (.func 57) #[] #[.pointer (some ⟨b, 0, none⟩)]] 66)
  have G := Lib.hid gB
  have CF := Lib.hid (containsSeg_any (w := w.alloc (.cells #[.func (.func 57) #[] #[.pointer (some ⟨b, 0, none⟩)]] 66)) (b := w.heap.size) l n hn hl (fun x => !P x) q c (hr.grown gB) (fun W x hx hg => all1Size_any (g := w.heap.size) x (P x) (grown_cell hg (by rw [cell_of (heap_alloc_new w _)]; rfl)) (Nat.lt_of_lt_of_le (by rw [World.size_alloc]; exact Nat.lt_succ_self _) hg.size) (fun W2 h2 => hF W2 x hx (grown_trans gB (grown_trans hg h2)))))
  have AN := Lib.hid (any_not l P)
  obtain ⟨r, hr2⟩ : ∃ r, r = l.any (fun x => !P x) := ⟨_, rfl⟩
  rw [← hr2] at CF AN
  clear hr hF gB hr2
  go_enter Tryz.func55, Tryz.ntmps55
  go_wp2_with fail
  refine CF.out.mono ?_
  rintro e w3 ⟨rfl, hg⟩
  have GF := Lib.hid (grown_trans G.out hg)
  clear hg
  go_wp2
  go_ret
  exact ⟨by rw [← AN.out]; rfl, GF.out⟩

theorem all1Secs_any (x : Sg) (r : Bool) {g : Nat} (hc : w.cell? ⟨g, 0, none⟩ = some (.func (.func 61) #[] #[])) (hl : g < w.heap.size)
    (hF : ∀ W, w.grownBy W none → Calls Tryz.prog 61 #[segV x.seg x.v] W fun e w' => e = .returned (.bool r) ∧ W.grownBy w' none) :
    Calls Tryz.prog 91 #[segV x.seg x.v, .pointer (some ⟨g, 0, none⟩)] w fun e w' => e = .returned (.bool (!r)) ∧ w.grownBy w' none := by
  obtain ⟨⟨nm, ad, sz, of, fs, pr, sl⟩, q1, k1⟩ := x
  have gB := grown1 w (.cells #[.string (strOfNums nm), .int .u64 ad, .int .u64 sz, .int .u64 of, .int .u64 fs, .int .i64 pr, .slice q1 sl.length k1] 42)
  have G := Lib.hid gB
  have c0 := grown_cell gB hc
  have gl : g < (w.alloc (.cells #[.string (strOfNums nm), .int .u64 ad, .int .u64 sz, .int .u64 of, .int .u64 fs, .int .i64 pr, .slice q1 sl.length k1] 42)).heap.size := Nat.lt_of_lt_of_le hl gB.size
  have M1 := Lib.hid (hF _ gB)
  unfold segV segArr Sg.v at M1
  unfold segV segArr Sg.v
  simp only [] at M1 ⊢
  clear gB hc hl hF
  go_enter Tryz.func91, Tryz.ntmps91
  go_wp2_with fail
  refine M1.out.mono ?_
  rintro e w3 ⟨rfl, hg⟩
  have GF := Lib.hid (grown_trans G.out hg)
  clear hg
  go_wp2
  go_ret
  exact ⟨rfl, GF.out⟩
theorem allSecs_any (l : List Sg) (n : Nat) (hn : l.length = n) (hl : n ≤ 9223372036854775807) (P : Sg → Bool) (q : Option Addr) (c : Nat) (hr : RowSg w q l) (hF : ∀ (W : World) (x : Sg), x ∈ l → w.grownBy W none → Calls Tryz.prog 61 #[segV x.seg x.v] W fun e w' => e = .returned (.bool (P x)) ∧ W.grownBy w' none) :
    Calls Tryz.prog 55 #[.slice q n c, .func (.func 61) #[] #[]] w fun e w' => e = .returned (.bool (l.all P)) ∧ w.grownBy w' none := by
  have gB := grown1 w (.cells #[.func (.func 61) #[] #[]] 66)
  have G := Lib.hid gB
  have CF := Lib.hid (containsSeg_any (w := w.alloc (.cells #[.func (.func 61) #[] #[]] 66)) (b := w.heap.size) l n hn hl (fun x => !P x) q c (hr.grown gB) (fun W x hx hg => all1Secs_any (g := w.heap.size) x (P x) (grown_cell hg (by rw [cell_of (heap_alloc_new w _)]; rfl)) (Nat.lt_of_lt_of_le (by rw [World.size_alloc]; exact Nat.lt_succ_self _) hg.size) (fun W2 h2 => hF W2 x hx (grown_trans gB (grown_trans hg h2)))))
  have AN := Lib.hid (any_not l P)
  obtain ⟨r, hr2⟩ : ∃ r, r = l.any (fun x => !P x) := ⟨_, rfl⟩
  rw [← hr2] at CF AN
  clear hr hF gB hr2
  go_enter Tryz.func55, Tryz.ntmps55
  go_wp2_with fail
  refine CF.out.mono ?_
  rintro e w3 ⟨rfl, hg⟩
  have GF := Lib.hid (grown_trans G.out hg)
  clear hg
  go_wp2
  go_ret
  exact ⟨by rw [← AN.out]; rfl, GF.out⟩

theorem all1Sec_any (x : Sec) (r : Bool) {b : Nat} {g : Nat} (hc : w.cell? ⟨g, 0, none⟩ = some (.func (.func 63) #[] #[.pointer (some ⟨b, 0, none⟩)])) (hl : g < w.heap.size)
    (hF : ∀ W, w.grownBy W none → Calls Tryz.prog 63 #[secV x, .pointer (some ⟨b, 0, none⟩)] W fun e w' => e = .returned (.bool r) ∧ W.grownBy w' none) :
    Calls Tryz.prog 95 #[secV x, .pointer (some ⟨g, 0, none⟩)] w fun e w' => e = .returned (.bool (!r)) ∧ w.grownBy w' none := by
  obtain ⟨sn, ss, sa, sb, so, sk⟩ := x
  have gB := grown1 w (.cells #[.string (strOfNums sn), .string (strOfNums ss), .int .u64 sa, .int .u64 sb, .int .u64 so, .int .i64 sk] 88)
  have G := Lib.hid gB
  have c0 := grown_cell gB hc
  have gl : g < (w.alloc (.cells #[.string (strOfNums sn), .string (strOfNums ss), .int .u64 sa, .int .u64 sb, .int .u64 so, .int .i64 sk] 88)).heap.size := Nat.lt_of_lt_of_le hl gB.size
  have M1 := Lib.hid (hF _ gB)
  unfold secV at M1
  unfold secV
  simp only [] at M1 ⊢
  clear gB hc hl hF
  go_enter Tryz.func95, Tryz.ntmps95
  go_wp2_with fail
  refine M1.out.mono ?_
  rintro e w3 ⟨rfl, hg⟩
  have GF := Lib.hid (grown_trans G.out hg)
  clear hg
  go_wp2
  go_ret
  exact ⟨rfl, GF.out⟩
theorem allSec_any (l : List Sec) (n : Nat) (hn : l.length = n) (hl : n ≤ 9223372036854775807) (P : Sec → Bool) {b : Nat} (q : Option Addr) (c : Nat) (hr : RowSec w q l) (hF : ∀ (W : World) (x : Sec), x ∈ l → w.grownBy W none → Calls Tryz.prog 63 #[secV x, .pointer (some ⟨b, 0, none⟩)] W fun e w' => e = .returned (.bool (P x)) ∧ W.grownBy w' none) :
    Calls Tryz.prog 62 #[.slice q n c, .func (.func 63) #[] #[.pointer (some ⟨b, 0, none⟩)]] w fun e w' => e = .returned (.bool (l.all P)) ∧ w.grownBy w' none := by
  have gB := grown1 w (.cells #[.func (.func 63) #[] #[.pointer (some ⟨b, 0, none⟩)]] 119)
  have G := Lib.hid gB
  have CF := Lib.hid (containsSec_any (w := w.alloc (.cells #[.func (.func 63) #[] #[.pointer (some ⟨b, 0, none⟩)]] 119)) (b := w.heap.size) l n hn hl (fun x => !P x) q c (hr.grown gB) (fun W x hx hg => all1Sec_any (g := w.heap.size) x (P x) (grown_cell hg (by rw [cell_of (heap_alloc_new w _)]; rfl)) (Nat.lt_of_lt_of_le (by rw [World.size_alloc]; exact Nat.lt_succ_self _) hg.size) (fun W2 h2 => hF W2 x hx (grown_trans gB (grown_trans hg h2)))))
  have AN := Lib.hid (any_not l P)
  obtain ⟨r, hr2⟩ : ∃ r, r = l.any (fun x => !P x) := ⟨_, rfl⟩
  rw [← hr2] at CF AN
  clear hr hF gB hr2
  go_enter Tryz.func62, Tryz.ntmps62
  go_wp2_with fail
  refine CF.out.mono ?_
  rintro e w3 ⟨rfl, hg⟩
  have GF := Lib.hid (grown_trans G.out hg)
  clear hg
  go_wp2
  go_ret
  exact ⟨by rw [← AN.out]; rfl, GF.out⟩

theorem all1Span_any (x : (Int × Int)) (r : Bool) {b : Nat} {g : Nat} (hc : w.cell? ⟨g, 0, none⟩ = some (.func (.func 66) #[] #[.pointer (some ⟨b, 0, none⟩)])) (hl : g < w.heap.size)
    (hF : ∀ W, w.grownBy W none → Calls Tryz.prog 66 #[spanV x, .pointer (some ⟨b, 0, none⟩)] W fun e w' => e = .returned (.bool r) ∧ W.grownBy w' none) :
    Calls Tryz.prog 97 #[spanV x, .pointer (some ⟨g, 0, none⟩)] w fun e w' => e = .returned (.bool (!r)) ∧ w.grownBy w' none := by
  obtain ⟨X, Y⟩ := x
  have gB := grown1 w (.cells #[.int .u64 X, .int .u64 Y] 30)
  have G := Lib.hid gB
  have c0 := grown_cell gB hc
  have gl : g < (w.alloc (.cells #[.int .u64 X, .int .u64 Y] 30)).heap.size := Nat.lt_of_lt_of_le hl gB.size
  have M1 := Lib.hid (hF _ gB)
  unfold spanV at M1
  unfold spanV
  simp only [] at M1 ⊢
  clear gB hc hl hF
  go_enter Tryz.func97, Tryz.ntmps97
  go_wp2_with fail
  refine M1.out.mono ?_
  rintro e w3 ⟨rfl, hg⟩
  have GF := Lib.hid (grown_trans G.out hg)
  clear hg
  go_wp2
  go_ret
  exact ⟨rfl, GF.out⟩
theorem allSpan_any (l : List (Int × Int)) (n : Nat) (hn : l.length = n) (hl : n ≤ 9223372036854775807) (P : (Int × Int) → Bool) {b : Nat} (q : Option Addr) (c : Nat) (hr : RowSp w q l) (hF : ∀ (W : World) (x : (Int × Int)), x ∈ l → w.grownBy W none → Calls Tryz.prog 66 #[spanV x, .pointer (some ⟨b, 0, none⟩)] W fun e w' => e = .returned (.bool (P x)) ∧ W.grownBy w' none) :
    Calls Tryz.prog 65 #[.slice q n c, .func (.func 66) #[] #[.pointer (some ⟨b, 0, none⟩)]] w fun e w' => e = .returned (.bool (l.all P)) ∧ w.grownBy w' none := by
  have gB := grown1 w (.cells #[.func (.func 66) #[] #[.pointer (some ⟨b, 0, none⟩)]] 121)
  have G := Lib.hid gB
  have CF := Lib.hid (containsSp_any (w := w.alloc (.cells #[.func (.func 66) #[] #[.pointer (some ⟨b, 0, none⟩)]] 121)) (b := w.heap.size) l n hn hl (fun x => !P x) q c (hr.grown gB) (fun W x hx hg => all1Span_any (g := w.heap.size) x (P x) (grown_cell hg (by rw [cell_of (heap_alloc_new w _)]; rfl)) (Nat.lt_of_lt_of_le (by rw [World.size_alloc]; exact Nat.lt_succ_self _) hg.size) (fun W2 h2 => hF W2 x hx (grown_trans gB (grown_trans hg h2)))))
  have AN := Lib.hid (any_not l P)
  obtain ⟨r, hr2⟩ : ∃ r, r = l.any (fun x => !P x) := ⟨_, rfl⟩
  rw [← hr2] at CF AN
  clear hr hF gB hr2
  go_enter Tryz.func65, Tryz.ntmps65
  go_wp2_with fail
  refine CF.out.mono ?_
  rintro e w3 ⟨rfl, hg⟩
  have GF := Lib.hid (grown_trans G.out hg)
  clear hg
  go_wp2
  go_ret
  exact ⟨by rw [← AN.out]; rfl, GF.out⟩

end Go.Proofs.YtemdbfgpimfkdaaGreat

/- The rules of what an image may be, one by one: protections, sizes, sections, names. No condition but that numbers fit their types. -/
namespace Go.Proofs.YtemdbfgpimfkdaaGreat
open Go.RowKit
variable {w w' : World} {h : Hx} {s : St} {sv dv : Value} {n hd : Int}

structure SegsFit (s : St) : Prop where
  seg : ∀ x ∈ s.segs, SegFit x
  sec : ∀ x ∈ s.segs, ∀ y ∈ x.secs, SecFit y
/-- An image's lists, by their cells. -/
structure ImgRows (w : World) (s : St) (l : List Sg) (qs : Option Addr) (cs : Nat) : Prop where
  segs : l.map Sg.seg = s.segs
  row : RowSg w qs l
  secs : ∀ x ∈ l, RowSec w x.q x.seg.secs
  few : l.length ≤ 9223372036854775807
  many : ∀ x ∈ l, x.seg.secs.length ≤ 9223372036854775807
  cap : l.length ≤ cs
theorem ImgRows.grown {l : List Sg} {qs : Option Addr} {cs : Nat} (k : ImgRows w s l qs cs) (hg : w.grownBy w' none) : ImgRows w' s l qs cs := ⟨k.segs, k.row.grown hg, fun x hx => (k.secs x hx).grown hg, k.few, k.many, k.cap⟩
theorem ImgRows.of {lo : Nat} (L : Lists w lo s sv dv) : ∃ l qs cs, sv = .slice qs l.length cs ∧ ImgRows w s l qs cs := by
  obtain ⟨l, a2, a3, a4⟩ := L.segs
  obtain ⟨qs, cs, rfl⟩ := own_slice a3
  refine ⟨l, qs, cs, rfl, a2, rowSg_of a3, fun x hx => rowSec_of (a4 x hx), own_most a3, fun x hx => own_most (a4 x hx), ?_⟩
  rcases a3.2 with ⟨e, e0⟩ | ⟨g, cap, cur, hv, _, _, h1, _⟩
  · rw [e0]; exact Nat.zero_le _
  · injection hv with _ _ e3; subst e3; exact h1
theorem ImgRows.fit {l : List Sg} {qs : Option Addr} {cs : Nat} (k : ImgRows w s l qs cs) (hf : SegsFit s) {x : Sg} (hx : x ∈ l) : SegFit x.seg ∧ ∀ y ∈ x.seg.secs, SecFit y :=
  have hm : x.seg ∈ s.segs := by rw [← k.segs]; exact List.mem_map_of_mem hx
  ⟨hf.seg _ hm, hf.sec _ hm⟩
theorem all_seg {l : List Sg} (hl : l.map Sg.seg = s.segs) (P : Seg → Bool) : l.all (fun x => P x.seg) = s.segs.all P := by rw [← hl, List.all_map]; rfl
def DvOk (dv : Value) : Prop := ∃ q n c, dv = .slice q n c
theorem askNew (w : World) : AskAt (w.alloc (.cells (askArr h s sv dv n hd) 59)) w.heap.size h s sv dv n hd := heap_alloc_new w _

set_option maxRecDepth 20000 in
theorem protsMay_any {l : List Sg} {qs : Option Addr} {cs : Nat} (k : ImgRows w s l qs cs) : Calls Tryz.prog 29 #[askV h s (.slice qs l.length cs) dv n hd] w fun e w' => e = .returned (.bool (s.segs.all protOk)) ∧ w.grownBy w' none := by
  have gB := grown1 w (.cells (askArr h s (.slice qs l.length cs) dv n hd) 59)
  have G := Lib.hid gB
  have AA := Lib.hid (askNew (h := h) (s := s) (sv := .slice qs l.length cs) (dv := dv) (n := n) (hd := hd) w)
  have c4 := AA.out.c 4 (.slice qs l.length cs) rfl
  have gl := AA.out.lt
  have AL := Lib.hid (by have := allProt_any (w := w.alloc (.cells (askArr h s (.slice qs l.length cs) dv n hd) 59)) l l.length rfl k.few (fun x => protOk x.seg) qs cs (k.grown gB).row (fun W x hx hg => protsMay1_any x.seg x.q x.seg.secs.length x.c); rw [all_seg k.segs protOk] at this; exact this)
  obtain ⟨r, hr⟩ : ∃ r, r = s.segs.all protOk := ⟨_, rfl⟩
  rw [← hr] at AL ⊢
  clear hr k gB
  unfold askV
  go_enter Tryz.func29, Tryz.ntmps29
  go_upto_region 1 with fail
  unfold askArr at c4 gl AA AL G
  obtain ⟨W, hW⟩ : ∃ W, w.alloc (.cells (askArr h s (.slice qs l.length cs) dv n hd) 59) = W := ⟨_, rfl⟩
  obtain ⟨b, hb⟩ : ∃ b, w.heap.size = b := ⟨_, rfl⟩
  unfold askArr at hW ⊢
  rw [hW] at c4 gl AL G ⊢
  simp only [hb] at c4 gl AL ⊢
  clear hW hb AA
  generalize l.length = N at *
  go_wp2_with fail
  refine AL.out.mono ?_
  rintro e w3 ⟨rfl, hg⟩
  have GF := Lib.hid (grown_trans G.out hg)
  clear hg
  go_wp2
  go_ret
  exact ⟨rfl, GF.out⟩

set_option maxRecDepth 20000 in
theorem sizesMay_any {l : List Sg} {qs : Option Addr} {cs : Nat} (k : ImgRows w s l qs cs) (hf : SegsFit s) (hn : U64 n) : Calls Tryz.prog 30 #[askV h s (.slice qs l.length cs) dv n hd] w fun e w' => e = .returned (.bool (s.segs.all (fun x => sizeOk x n))) ∧ w.grownBy w' none := by
  have gB := grown1 w (.cells (askArr h s (.slice qs l.length cs) dv n hd) 59)
  have G := Lib.hid gB
  have AA := Lib.hid (askNew (h := h) (s := s) (sv := .slice qs l.length cs) (dv := dv) (n := n) (hd := hd) w)
  have c4 := AA.out.c 4 (.slice qs l.length cs) rfl
  have gl := AA.out.lt
  have AL := Lib.hid (by have := allSize_any (w := w.alloc (.cells (askArr h s (.slice qs l.length cs) dv n hd) 59)) (b := w.heap.size) l l.length rfl k.few (fun x => sizeOk x.seg n) qs cs (k.grown gB).row (fun W x hx hg => sizesMay1_any x.seg x.q x.seg.secs.length x.c (k.fit hf hx).1 hn (AA.out.kept hg (by simp))); rw [all_seg k.segs (fun x => sizeOk x n)] at this; exact this)
  obtain ⟨r, hr⟩ : ∃ r, r = s.segs.all (fun x => sizeOk x n) := ⟨_, rfl⟩
  rw [← hr] at AL ⊢
  clear hr k hf gB hn
  unfold askV
  go_enter Tryz.func30, Tryz.ntmps30
  go_upto_region 1 with fail
  unfold askArr at c4 gl AA AL G
  obtain ⟨W, hW⟩ : ∃ W, w.alloc (.cells (askArr h s (.slice qs l.length cs) dv n hd) 59) = W := ⟨_, rfl⟩
  obtain ⟨b, hb⟩ : ∃ b, w.heap.size = b := ⟨_, rfl⟩
  unfold askArr at hW ⊢
  rw [hW] at c4 gl AL G ⊢
  simp only [hb] at c4 gl AL ⊢
  clear hW hb AA
  generalize l.length = N at *
  go_wp2_with fail
  refine AL.out.mono ?_
  rintro e w3 ⟨rfl, hg⟩
  have GF := Lib.hid (grown_trans G.out hg)
  clear hg
  go_wp2
  go_ret
  exact ⟨rfl, GF.out⟩

set_option maxRecDepth 20000 in
theorem sectionsMay1_any (x : Sg) (hf : SegFit x.seg) (hs : ∀ y ∈ x.seg.secs, SecFit y) (hm : x.seg.secs.length ≤ 9223372036854775807) (hr : RowSec w x.q x.seg.secs) :
    Calls Tryz.prog 61 #[segV x.seg x.v] w fun e w' => e = .returned (.bool (x.seg.secs.all (secOk x.seg))) ∧ w.grownBy w' none := by
  obtain ⟨⟨nm, ad, sz, of, fs, pr, sl⟩, q, c⟩ := x
  simp only [] at hf hs hm hr
  have gB := grown1 w (.cells #[.string (strOfNums nm), .int .u64 ad, .int .u64 sz, .int .u64 of, .int .u64 fs, .int .i64 pr, .slice q sl.length c] 42)
  have G := Lib.hid gB
  have A : SegAt (w.alloc (.cells #[.string (strOfNums nm), .int .u64 ad, .int .u64 sz, .int .u64 of, .int .u64 fs, .int .i64 pr, .slice q sl.length c] 42)) w.heap.size ⟨nm, ad, sz, of, fs, pr, sl⟩ (.slice q sl.length c) := heap_alloc_new w _
  have c6 := A.c.2.2.2.2.2.2
  have gl := A.lt
  have AL := Lib.hid (allSec_any (w := w.alloc (.cells #[.string (strOfNums nm), .int .u64 ad, .int .u64 sz, .int .u64 of, .int .u64 fs, .int .i64 pr, .slice q sl.length c] 42)) (b := w.heap.size) sl sl.length rfl hm (secOk ⟨nm, ad, sz, of, fs, pr, sl⟩) q c (hr.grown gB) (fun W y hy hg => sectionsMay11_any ⟨nm, ad, sz, of, fs, pr, sl⟩ q sl.length c y hf (hs y hy) (A.kept hg (by simp))))
  obtain ⟨r, hr2⟩ : ∃ r, r = sl.all (secOk ⟨nm, ad, sz, of, fs, pr, sl⟩) := ⟨_, rfl⟩
  unfold segV segArr Sg.v
  simp only []
  rw [← hr2] at AL ⊢
  clear hr2 hf hs hm hr gB A
  generalize sl.length = M at *
  go_enter Tryz.func61, Tryz.ntmps61
  go_wp2_with fail
  refine AL.out.mono ?_
  rintro e w3 ⟨rfl, hg⟩
  have GF := Lib.hid (grown_trans G.out hg)
  clear hg
  go_wp2
  go_ret
  exact ⟨rfl, GF.out⟩

set_option maxRecDepth 20000 in
theorem sectionsMay_any {l : List Sg} {qs : Option Addr} {cs : Nat} (k : ImgRows w s l qs cs) (hf : SegsFit s) : Calls Tryz.prog 34 #[askV h s (.slice qs l.length cs) dv n hd] w fun e w' => e = .returned (.bool (s.segs.all (fun z => z.secs.all (secOk z)))) ∧ w.grownBy w' none := by
  have gB := grown1 w (.cells (askArr h s (.slice qs l.length cs) dv n hd) 59)
  have G := Lib.hid gB
  have AA := Lib.hid (askNew (h := h) (s := s) (sv := .slice qs l.length cs) (dv := dv) (n := n) (hd := hd) w)
  have c4 := AA.out.c 4 (.slice qs l.length cs) rfl
  have gl := AA.out.lt
  have AL := Lib.hid (by have := allSecs_any (w := w.alloc (.cells (askArr h s (.slice qs l.length cs) dv n hd) 59)) l l.length rfl k.few (fun x => x.seg.secs.all (secOk x.seg)) qs cs (k.grown gB).row (fun W x hx hg => sectionsMay1_any x (k.fit hf hx).1 (k.fit hf hx).2 (k.many x hx) (((k.grown gB).grown hg).secs x hx)); rw [all_seg k.segs (fun z => z.secs.all (secOk z))] at this; exact this)
  obtain ⟨r, hr⟩ : ∃ r, r = s.segs.all (fun z => z.secs.all (secOk z)) := ⟨_, rfl⟩
  rw [← hr] at AL ⊢
  clear hr k hf gB
  unfold askV
  go_enter Tryz.func34, Tryz.ntmps34
  go_upto_region 1 with fail
  unfold askArr at c4 gl AA AL G
  obtain ⟨W, hW⟩ : ∃ W, w.alloc (.cells (askArr h s (.slice qs l.length cs) dv n hd) 59) = W := ⟨_, rfl⟩
  obtain ⟨b, hb⟩ : ∃ b, w.heap.size = b := ⟨_, rfl⟩
  unfold askArr at hW ⊢
  rw [hW] at c4 gl AL G ⊢
  simp only [hb] at c4 gl AL ⊢
  clear hW hb AA
  generalize l.length = N at *
  go_wp2_with fail
  refine AL.out.mono ?_
  rintro e w3 ⟨rfl, hg⟩
  have GF := Lib.hid (grown_trans G.out hg)
  clear hg
  go_wp2
  go_ret
  exact ⟨rfl, GF.out⟩

end Go.Proofs.YtemdbfgpimfkdaaGreat
