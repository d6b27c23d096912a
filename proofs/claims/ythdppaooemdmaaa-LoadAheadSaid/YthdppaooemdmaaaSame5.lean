/- Two images that are the same in everything are told so. No condition. -/
import Derived.Test.YthdppaooemdmaaaImg
import Derived.Deep.RegionHeld3
namespace Go.Proofs.Ythdppaooemdmaaa
open Go.RowKit
variable {w w' : World}

/-- The cells of one of a row's. -/
theorem sec_cells {lo n c : Nat} {q : Option Addr} {l : List Sec} (h : w.ownsRow lo 101 6 (.slice q n c) n (l.flatMap secCs)) {i : Nat} {x : Sec} (hx : l[i]? = some x) :
    ∃ g, q = some ⟨g, 0, none⟩ ∧ w.cell? ⟨g, i * 6, none⟩ = some (.string (strOfNums x.name)) ∧ w.cell? ⟨g, i * 6 + 1, none⟩ = some (.string (strOfNums x.seg)) ∧ w.cell? ⟨g, i * 6 + 2, none⟩ = some (.int .u64 x.addr) ∧
      w.cell? ⟨g, i * 6 + 3, none⟩ = some (.int .u64 x.size) ∧ w.cell? ⟨g, i * 6 + 4, none⟩ = some (.int .u64 x.off) ∧ w.cell? ⟨g, i * 6 + 5, none⟩ = some (.int .i64 x.kind) := by
  obtain ⟨g, hq, h0⟩ := row_cell secCs_len h hx (show 0 < 6 by decide)
  have key : ∀ j, j < 6 → w.cell? ⟨g, i * 6 + j, none⟩ = (secCs x)[j]? := fun j hj => by
    obtain ⟨g', hq', h1⟩ := row_cell secCs_len h hx hj
    rw [hq] at hq'
    injection hq' with e
    injection e with e
    subst e
    exact h1
  exact ⟨g, hq, h0, key 1 (by decide), key 2 (by decide), key 3 (by decide), key 4 (by decide), key 5 (by decide)⟩
theorem sg_cells {lo n c : Nat} {q : Option Addr} {l : List Sg} (h : w.ownsRow lo 59 7 (.slice q n c) n (l.flatMap sgCs)) {i : Nat} {x : Sg} (hx : l[i]? = some x) :
    ∃ g, q = some ⟨g, 0, none⟩ ∧ w.cell? ⟨g, i * 7, none⟩ = some (.string (strOfNums x.seg.name)) ∧ w.cell? ⟨g, i * 7 + 1, none⟩ = some (.int .u64 x.seg.addr) ∧ w.cell? ⟨g, i * 7 + 2, none⟩ = some (.int .u64 x.seg.size) ∧
      w.cell? ⟨g, i * 7 + 3, none⟩ = some (.int .u64 x.seg.off) ∧ w.cell? ⟨g, i * 7 + 4, none⟩ = some (.int .u64 x.seg.fsize) ∧ w.cell? ⟨g, i * 7 + 5, none⟩ = some (.int .i64 x.seg.prot) ∧ w.cell? ⟨g, i * 7 + 6, none⟩ = some x.v := by
  obtain ⟨g, hq, h0⟩ := row_cell sgCs_len h hx (show 0 < 7 by decide)
  have key : ∀ j, j < 7 → w.cell? ⟨g, i * 7 + j, none⟩ = (sgCs x)[j]? := fun j hj => by
    obtain ⟨g', hq', h1⟩ := row_cell sgCs_len h hx hj
    rw [hq] at hq'
    injection hq' with e
    injection e with e
    subst e
    exact h1
  exact ⟨g, hq, h0, key 1 (by decide), key 2 (by decide), key 3 (by decide), key 4 (by decide), key 5 (by decide), key 6 (by decide)⟩
theorem dep_cells {lo n c : Nat} {q : Option Addr} {l : List (List Int × Int)} (h : w.ownsRow lo 68 2 (.slice q n c) n (l.flatMap depCs)) {i : Nat} {x : List Int × Int} (hx : l[i]? = some x) :
    ∃ g, q = some ⟨g, 0, none⟩ ∧ w.cell? ⟨g, i * 2, none⟩ = some (.string (strOfNums x.1)) ∧ w.cell? ⟨g, i * 2 + 1, none⟩ = some (.int .i64 x.2) := by
  obtain ⟨g, hq, h0⟩ := row_cell depCs_len h hx (show 0 < 2 by decide)
  obtain ⟨g', hq', h1⟩ := row_cell depCs_len h hx (show 1 < 2 by decide)
  rw [hq] at hq'
  injection hq' with e
  injection e with e
  subst e
  exact ⟨g, hq, h0, h1⟩
theorem own_most {lo n c : Nat} {q : Option Addr} {T : TypeId} {k : Nat} {xs : List Value} (hw : w.ownsRow lo T k (.slice q n c) n xs) : n ≤ 9223372036854775807 := by
  rcases hw.2 with ⟨e, e0⟩ | ⟨g, cap, cur, hv, _, _, h1, h2, _⟩
  · omega
  · unfold maxLen at h2; omega

set_option maxHeartbeats 1600000 in
set_option maxRecDepth 20000 in
theorem sameSegment_any (s : Seg) {lo lo' n c c' : Nat} {q q' : Option Addr} (hn : n = s.secs.length) (h1 : w.ownsRow lo 101 6 (.slice q n c) n (s.secs.flatMap secCs)) (h2 : w.ownsRow lo' 101 6 (.slice q' n c') n (s.secs.flatMap secCs)) :
    Calls Try.prog 21 #[segV s (.slice q n c), segV s (.slice q' n c')] w fun e w' => e = .returned (.bool true) ∧ w.grownBy w' none := by
  have hmx := own_most h1
  obtain ⟨nm, ad, sz, of, fs, pr, sl⟩ := s
  unfold segV segArr
  simp only [] at hn h1 h2 ⊢
  have g1 := grown1 w (.cells #[.string (strOfNums nm), .int .u64 ad, .int .u64 sz, .int .u64 of, .int .u64 fs, .int .i64 pr, .slice q n c] 59)
  have g2 := grown1 (w.alloc (.cells #[.string (strOfNums nm), .int .u64 ad, .int .u64 sz, .int .u64 of, .int .u64 fs, .int .i64 pr, .slice q n c] 59)) (.cells #[.string (strOfNums nm), .int .u64 ad, .int .u64 sz, .int .u64 of, .int .u64 fs, .int .i64 pr, .slice q' n c'] 59)
  have gg := grown_trans g1 g2
  have A0 : SegAt _ w.heap.size ⟨nm, ad, sz, of, fs, pr, sl⟩ (.slice q n c) := SegAt.kept (w := w.alloc (.cells #[.string (strOfNums nm), .int .u64 ad, .int .u64 sz, .int .u64 of, .int .u64 fs, .int .i64 pr, .slice q n c] 59)) (heap_alloc_new w _) g2 (by simp)
  have B0 : SegAt ((w.alloc (.cells #[.string (strOfNums nm), .int .u64 ad, .int .u64 sz, .int .u64 of, .int .u64 fs, .int .i64 pr, .slice q n c] 59)).alloc (.cells #[.string (strOfNums nm), .int .u64 ad, .int .u64 sz, .int .u64 of, .int .u64 fs, .int .i64 pr, .slice q' n c'] 59)) (w.heap.size + 1) ⟨nm, ad, sz, of, fs, pr, sl⟩ (.slice q' n c') := by
    have := heap_alloc_new (w.alloc (.cells #[.string (strOfNums nm), .int .u64 ad, .int .u64 sz, .int .u64 of, .int .u64 fs, .int .i64 pr, .slice q n c] 59)) (.cells #[.string (strOfNums nm), .int .u64 ad, .int .u64 sz, .int .u64 of, .int .u64 fs, .int .i64 pr, .slice q' n c'] 59 (0, 0))
    rw [World.size_alloc] at this
    exact this
  have A := Lib.hid A0
  have B := Lib.hid B0
  have G := Lib.hid gg
  have R1 := Lib.hid h1
  have R2 := Lib.hid h2
  have HN := Lib.hid hn
  clear g1 g2 gg A0 B0 h1 h2 hn
  go_enter Try.func21, Try.ntmps21
  go_upto_region 4 with fail
  obtain ⟨W, hW⟩ : ∃ W, (w.alloc (.cells #[.string (strOfNums nm), .int .u64 ad, .int .u64 sz, .int .u64 of, .int .u64 fs, .int .i64 pr, .slice q n c] 59)).alloc (.cells #[.string (strOfNums nm), .int .u64 ad, .int .u64 sz, .int .u64 of, .int .u64 fs, .int .i64 pr, .slice q' n c'] 59) = W := ⟨_, rfl⟩
  rw [hW] at A B G ⊢
  obtain ⟨x, hx⟩ : ∃ x, w.heap.size = x := ⟨_, rfl⟩
  rw [hx] at A B
  simp only [hx]
  clear hW hx
  go_loopw [5] (fun i wr => ∃ k : Nat, k ≤ n ∧ i = .int .i64 k ∧ W.grownBy wr none) (fun i _ => n - (intOf i).toNat)
  case atStart => exact ⟨0, Nat.zero_le _, rfl, grown_refl _ _⟩
  case round =>
    obtain ⟨k, hk, rfl, hg⟩ := hrel
    have a6 := (A.out.kept hg (by simp)).c.2.2.2.2.2.2
    have b6 := (B.out.kept hg (by simp)).c.2.2.2.2.2.2
    have al := (A.out.kept hg (by simp)).lt
    have bl := (B.out.kept hg (by simp)).lt
    have GR := Lib.hid hg
    by_cases hlt : k < n
    · obtain ⟨s, hs⟩ : ∃ s, sl[k]? = some s := ⟨_, List.getElem?_eq_getElem (by rw [← HN.out]; exact hlt)⟩
      have gw := grown_trans G.out hg
      obtain ⟨g, rfl, c0, c1, c2, c3, c4, c5⟩ := sec_cells (own_grown R1.out gw) hs
      obtain ⟨g', rfl, d0, d1, d2, d3, d4, d5⟩ := sec_cells (own_grown R2.out gw) hs
      clear hg gw hs
      go_wp2
      go_quiet (fail)
      go_wp2
      go_roundw
      case rel => exact ⟨k + 1, hlt, by go_num, grown_drewN GR.out _⟩
      case measure => simp [intOf]; omega
    · have hkn : k = n := by omega
      subst hkn
      have GF := Lib.hid (grown_trans G.out hg)
      clear hg
      go_wp2
      go_ret
      exact ⟨rfl, GF.out⟩
-- SAME
set_option maxHeartbeats 6400000 in
set_option maxRecDepth 20000 in
theorem same5_any (h : Hx) (s : St) {lo lo' : Nat} {sv dv sv' dv' : Value} (L1 : Lists w lo s sv dv) (L2 : Lists w lo' s sv' dv') :
    Calls Try.prog 18 #[imgV h s sv dv, imgV h s sv' dv'] w fun e w' => e = .returned (.bool true) ∧ w.grownBy w' none := by
  obtain ⟨l, ll, a3, a4⟩ := L1.segs
  obtain ⟨l', ll', b3, b4⟩ := L2.segs
  have a5 := L1.deps
  have b5 := L2.deps
  obtain ⟨q, c, rfl⟩ := own_slice a3
  obtain ⟨q', c', rfl⟩ := own_slice b3
  obtain ⟨r, d, rfl⟩ := own_slice a5
  obtain ⟨r', d', rfl⟩ := own_slice b5
  have hl : l'.length = l.length := by rw [← List.length_map (f := Sg.seg), ll', ← ll, List.length_map]
  rw [hl] at b3 ⊢
  have hm1 := own_most a3
  have hm2 := own_most a5
  obtain ⟨N, hN⟩ : ∃ N, N = l.length := ⟨_, rfl⟩
  obtain ⟨M, hM⟩ : ∃ M, M = s.deps.length := ⟨_, rfl⟩
  rw [← hN] at a3 b3 hm1 ⊢
  rw [← hM] at a5 b5 hm2 ⊢
  have HN := Lib.hid hN
  have HM := Lib.hid hM
  have HL := Lib.hid (show l'.length = N by rw [hl, hN])
  have LL := Lib.hid ll
  have LL' := Lib.hid ll'
  have A3 := Lib.hid a3
  have A4 := Lib.hid a4
  have A5 := Lib.hid a5
  have B3 := Lib.hid b3
  have B4 := Lib.hid b4
  have B5 := Lib.hid b5
  have g1 := grown1 w (.cells (imgArr h s (.slice q N c) (.slice r M d)) 50)
  have g2 := grown1 (w.alloc (.cells (imgArr h s (.slice q N c) (.slice r M d)) 50)) (.cells (imgArr h s (.slice q' N c') (.slice r' M d')) 50)
  have G0 := Lib.hid (grown_trans g1 g2)
  have X0 := Lib.hid (ImgAt.kept (w := w.alloc (.cells (imgArr h s (.slice q N c) (.slice r M d)) 50)) (g := w.heap.size) (h := h) (s := s) (sv := .slice q N c) (dv := .slice r M d) (heap_alloc_new w _) g2 (by simp))
  have Y0 := Lib.hid (show ImgAt ((w.alloc (.cells (imgArr h s (.slice q N c) (.slice r M d)) 50)).alloc (.cells (imgArr h s (.slice q' N c') (.slice r' M d')) 50)) (w.heap.size + 1) h s (.slice q' N c') (.slice r' M d') from by
    have := heap_alloc_new (w.alloc (.cells (imgArr h s (.slice q N c) (.slice r M d)) 50)) (.cells (imgArr h s (.slice q' N c') (.slice r' M d')) 50 (0, 0))
    rw [World.size_alloc] at this
    exact this)
  clear hN hM hl ll ll' a3 a4 a5 b3 b4 b5 L1 L2 g1 g2
  unfold imgV
  go_enter Try.func18, Try.ntmps18
  go_upto_region 1 with fail
  obtain ⟨W, hW⟩ : ∃ W, (w.alloc (.cells (imgArr h s (.slice q N c) (.slice r M d)) 50)).alloc (.cells (imgArr h s (.slice q' N c') (.slice r' M d')) 50) = W := ⟨_, rfl⟩
  obtain ⟨x, hx⟩ : ∃ x, w.heap.size = x := ⟨_, rfl⟩
  unfold imgArr at hW ⊢
  rw [hW]
  rw [hx] at X0 Y0
  simp only [hx]
  have hW' : (w.alloc (.cells (imgArr h s (.slice q N c) (.slice r M d)) 50)).alloc (.cells (imgArr h s (.slice q' N c') (.slice r' M d')) 50) = W := hW
  rw [hW'] at X0 Y0 G0
  clear hW hW' hx
  have p0 := X0.out.c 0 (.int .i64 h.kd) rfl
  have t0 := Y0.out.c 0 (.int .i64 h.kd) rfl
  have p1 := X0.out.c 1 (.int .i64 h.sb) rfl
  have t1 := Y0.out.c 1 (.int .i64 h.sb) rfl
  have p2 := X0.out.c 2 (.int .u32 h.fl) rfl
  have t2 := Y0.out.c 2 (.int .u32 h.fl) rfl
  have p3 := X0.out.c 3 (.string (strOfNums s.name)) rfl
  have t3 := Y0.out.c 3 (.string (strOfNums s.name)) rfl
  have p4 := X0.out.c 4 (.slice q N c) rfl
  have t4 := Y0.out.c 4 (.slice q' N c') rfl
  have p5 := X0.out.c 5 (.slice r M d) rfl
  have t5 := Y0.out.c 5 (.slice r' M d') rfl
  have p6 := X0.out.c 6 (.int .u64 s.rb.1) rfl
  have t6 := Y0.out.c 6 (.int .u64 s.rb.1) rfl
  have p7 := X0.out.c 7 (.int .u64 s.rb.2) rfl
  have t7 := Y0.out.c 7 (.int .u64 s.rb.2) rfl
  have p8 := X0.out.c 8 (.int .u64 s.bd.1) rfl
  have t8 := Y0.out.c 8 (.int .u64 s.bd.1) rfl
  have p9 := X0.out.c 9 (.int .u64 s.bd.2) rfl
  have t9 := Y0.out.c 9 (.int .u64 s.bd.2) rfl
  have p10 := X0.out.c 10 (.int .u64 s.wk.1) rfl
  have t10 := Y0.out.c 10 (.int .u64 s.wk.1) rfl
  have p11 := X0.out.c 11 (.int .u64 s.wk.2) rfl
  have t11 := Y0.out.c 11 (.int .u64 s.wk.2) rfl
  have p12 := X0.out.c 12 (.int .u64 s.lz.1) rfl
  have t12 := Y0.out.c 12 (.int .u64 s.lz.1) rfl
  have p13 := X0.out.c 13 (.int .u64 s.lz.2) rfl
  have t13 := Y0.out.c 13 (.int .u64 s.lz.2) rfl
  have p14 := X0.out.c 14 (.int .u64 s.tr.1) rfl
  have t14 := Y0.out.c 14 (.int .u64 s.tr.1) rfl
  have p15 := X0.out.c 15 (.int .u64 s.tr.2) rfl
  have t15 := Y0.out.c 15 (.int .u64 s.tr.2) rfl
  have p16 := X0.out.c 16 (.int .u64 s.ch.1) rfl
  have t16 := Y0.out.c 16 (.int .u64 s.ch.1) rfl
  have p17 := X0.out.c 17 (.int .u64 s.ch.2) rfl
  have t17 := Y0.out.c 17 (.int .u64 s.ch.2) rfl
  have p18 := X0.out.c 18 (.int .u64 s.sy.1) rfl
  have t18 := Y0.out.c 18 (.int .u64 s.sy.1) rfl
  have p19 := X0.out.c 19 (.int .u64 s.sy.2) rfl
  have t19 := Y0.out.c 19 (.int .u64 s.sy.2) rfl
  have p20 := X0.out.c 20 (.int .u64 s.st.1) rfl
  have t20 := Y0.out.c 20 (.int .u64 s.st.1) rfl
  have p21 := X0.out.c 21 (.int .u64 s.st.2) rfl
  have t21 := Y0.out.c 21 (.int .u64 s.st.2) rfl
  have p22 := X0.out.c 22 (.int .u64 s.entry) rfl
  have t22 := Y0.out.c 22 (.int .u64 s.entry) rfl
  have p23 := X0.out.c 23 (.bool s.has) rfl
  have t23 := Y0.out.c 23 (.bool s.has) rfl
  have xl := lt_of_block X0.out
  have yl := lt_of_block Y0.out
  go_upto_region 6 with fail
  clear p0 t0 p1 t1 p2 t2 p3 t3 p4 t4 p5 t5 p6 t6 p7 t7 p8 t8 p9 t9 p10 t10 p11 t11 p12 t12 p13 t13 p14 t14 p15 t15 p16 t16 p17 t17 p18 t18 p19 t19 p20 t20 p21 t21 p22 t22 p23 t23
  go_loopw [5] (fun i wr => ∃ k : Nat, k ≤ N ∧ i = .int .i64 k ∧ W.grownBy wr none) (fun i _ => N - (intOf i).toNat)
  case atStart => exact ⟨0, Nat.zero_le _, rfl, grown_refl _ _⟩
  case round =>
    obtain ⟨k, hk, rfl, hg⟩ := hrel
    have GR := Lib.hid hg
    have p4 := (X0.out.kept hg (by simp)).c 4 (.slice q N c) rfl
    have t4 := (Y0.out.kept hg (by simp)).c 4 (.slice q' N c') rfl
    have xl2 := lt_of_block (X0.out.kept hg (by simp))
    have yl2 := lt_of_block (Y0.out.kept hg (by simp))
    by_cases hlt : k < N
    · obtain ⟨⟨sg, q1, c1⟩, hs⟩ : ∃ z, l[k]? = some z := ⟨_, List.getElem?_eq_getElem (by rw [← HN.out]; exact hlt)⟩
      obtain ⟨⟨sg', q2, c2⟩, hs'⟩ : ∃ z, l'[k]? = some z := ⟨_, List.getElem?_eq_getElem (by rw [HL.out]; exact hlt)⟩
      obtain rfl : sg' = sg := by
        have e1 : (l.map Sg.seg)[k]? = some sg := by rw [List.getElem?_map, hs]; rfl
        have e2 : (l'.map Sg.seg)[k]? = some sg' := by rw [List.getElem?_map, hs']; rfl
        rw [LL.out] at e1
        rw [LL'.out, e1] at e2
        exact (Option.some.inj e2).symm
      have gw := grown_trans G0.out hg
      obtain ⟨g1, rfl, u0, u1, u2, u3, u4, u5, u6⟩ := sg_cells (own_grown A3.out gw) hs
      obtain ⟨g2, rfl, v0, v1, v2, v3, v4, v5, v6⟩ := sg_cells (own_grown B3.out gw) hs'
      simp only [Sg.v] at u6 v6
      have SM := Lib.hid (fun (X : World) (hX : wr.grownBy X none) => sameSegment_any (w := X) sg' rfl (own_grown (A4.out _ (List.mem_of_getElem? hs)) (grown_trans gw hX)) (own_grown (B4.out _ (List.mem_of_getElem? hs')) (grown_trans gw hX)))
      simp only [] at u0 u1 u2 u3 u4 u5 v0 v1 v2 v3 v4 v5
      obtain ⟨nm, ad, sz, of, fs, pr, sl⟩ := sg'
      unfold segV segArr at SM
      simp only [] at u0 u1 u2 u3 u4 u5 u6 v0 v1 v2 v3 v4 v5 v6 SM
      have hn1 : (k : Int) < (N : Int) := by omega
      clear hg gw hs hs'
      go_wp2
      have gD : wr.grownBy wr.drew none := grown_drewN (grown_refl wr none) 1
      have p4' := grown_cell gD p4
      have t4' := grown_cell gD t4
      have u0' := grown_cell gD u0
      have u1' := grown_cell gD u1
      have u2' := grown_cell gD u2
      have u3' := grown_cell gD u3
      have u4' := grown_cell gD u4
      have u5' := grown_cell gD u5
      have u6' := grown_cell gD u6
      have v0' := grown_cell gD v0
      have v1' := grown_cell gD v1
      have v2' := grown_cell gD v2
      have v3' := grown_cell gD v3
      have v4' := grown_cell gD v4
      have v5' := grown_cell gD v5
      have v6' := grown_cell gD v6
      clear p4 t4 u0 u1 u2 u3 u4 u5 u6 v0 v1 v2 v3 v4 v5 v6
      go_region_held3 (fun X => X.cell? ⟨x, 4, none⟩ = some (.slice (some ⟨g1, 0, none⟩) N c) ∧ X.cell? ⟨x + 1, 4, none⟩ = some (.slice (some ⟨g2, 0, none⟩) N c') ∧ X.cell? ⟨g1, k * 7, none⟩ = some (.string (strOfNums nm)) ∧ X.cell? ⟨g1, k * 7 + 1, none⟩ = some (.int .u64 ad) ∧ X.cell? ⟨g1, k * 7 + 2, none⟩ = some (.int .u64 sz) ∧ X.cell? ⟨g1, k * 7 + 3, none⟩ = some (.int .u64 of) ∧ X.cell? ⟨g1, k * 7 + 4, none⟩ = some (.int .u64 fs) ∧ X.cell? ⟨g1, k * 7 + 5, none⟩ = some (.int .i64 pr) ∧ X.cell? ⟨g1, k * 7 + 6, none⟩ = some (.slice q1 sl.length c1) ∧ X.cell? ⟨g2, k * 7, none⟩ = some (.string (strOfNums nm)) ∧ X.cell? ⟨g2, k * 7 + 1, none⟩ = some (.int .u64 ad) ∧ X.cell? ⟨g2, k * 7 + 2, none⟩ = some (.int .u64 sz) ∧ X.cell? ⟨g2, k * 7 + 3, none⟩ = some (.int .u64 of) ∧ X.cell? ⟨g2, k * 7 + 4, none⟩ = some (.int .u64 fs) ∧ X.cell? ⟨g2, k * 7 + 5, none⟩ = some (.int .i64 pr) ∧ X.cell? ⟨g2, k * 7 + 6, none⟩ = some (.slice q2 sl.length c2))
        (first | exact ⟨p4', t4', u0', u1', u2', u3', u4', u5', u6', v0', v1', v2', v3', v4', v5', v6'⟩ | exact ⟨grown_cell hg1 p4', grown_cell hg1 t4', grown_cell hg1 u0', grown_cell hg1 u1', grown_cell hg1 u2', grown_cell hg1 u3', grown_cell hg1 u4', grown_cell hg1 u5', grown_cell hg1 u6', grown_cell hg1 v0', grown_cell hg1 v1', grown_cell hg1 v2', grown_cell hg1 v3', grown_cell hg1 v4', grown_cell hg1 v5', grown_cell hg1 v6'⟩)
        (first
          | (go_simp; go_at_call 21; refine (SM.out _ gD).mono ?_; rintro e x1 ⟨rfl, hg1⟩))
      have GN := Lib.hid (grown_trans (grown_trans GR.out gD) hg1)
      clear hg1 gD p4' t4' u0' u1' u2' u3' u4' u5' u6' v0' v1' v2' v3' v4' v5' v6'
      go_wp2
      go_roundw
      case rel => exact ⟨k + 1, hlt, by go_num, GN.out⟩
      case measure => simp [intOf]; omega
    · have hkn : k = N := by omega
      subst hkn
      clear hg
      go_upto_region 11 with fail
      clear p4 t4 xl2 yl2
      go_loopw [6] (fun i wr2 => ∃ j : Nat, j ≤ M ∧ i = .int .i64 j ∧ wr.grownBy wr2 none) (fun i _ => M - (intOf i).toNat)
      case atStart => exact ⟨0, Nat.zero_le _, rfl, grown_refl _ _⟩
      case round =>
        obtain ⟨j, hj, rfl, hg⟩ := hrel
        have gw := grown_trans GR.out hg
        have p5 := (X0.out.kept gw (by simp)).c 5 (.slice r M d) rfl
        have t5 := (Y0.out.kept gw (by simp)).c 5 (.slice r' M d') rfl
        have G2 := Lib.hid hg
        by_cases hlt : j < M
        · obtain ⟨⟨dn, dk⟩, hs⟩ : ∃ z, s.deps[j]? = some z := ⟨_, List.getElem?_eq_getElem (by rw [← HM.out]; exact hlt)⟩
          obtain ⟨g1, rfl, u0, u1⟩ := dep_cells (own_grown A5.out (grown_trans G0.out gw)) hs
          obtain ⟨g2, rfl, v0, v1⟩ := dep_cells (own_grown B5.out (grown_trans G0.out gw)) hs
          have hn1 : (j : Int) < (M : Int) := by omega
          simp only [] at u0 u1 v0 v1
          clear hg gw hs
          go_wp2
          go_quiet (fail)
          go_wp2
          go_roundw
          case rel => exact ⟨j + 1, hlt, by go_num, grown_drewN G2.out _⟩
          case measure => simp [intOf]; omega
        · have hjm : j = M := by omega
          subst hjm
          have GF := Lib.hid (grown_trans G0.out gw)
          clear hg gw
          go_wp2
          go_ret
          exact ⟨rfl, GF.out⟩
end Go.Proofs.Ythdppaooemdmaaa
