import Derived.Test.YtdagnkdonlfobaaGreatM10
import Derived.Deep.Cut
import Derived.Deep.CutRange
import Derived.Test.YtdagnkdonlfobaaGreatM7
/- What the document's own Read reads. No condition but that there are at most 2^47 bytes. -/
namespace Go.Proofs.YtdagnkdonlfobaaGreat
open Go.RowKit
variable {w w' : World}

theorem results_cell_tmp3 {fn : Func} {p q r s : Tmp} {tp : TypeId} (h : fn.results = #[.cell p tp, .tmp q, .tmp r, .tmp s]) (tmps : Array Value) (P : Program) (w : World)
    {a : Addr} {x y z u : Value} (ha : tmps.getD p undef = .pointer (some a)) (hb : tmps.getD q undef = y) (hc : tmps.getD r undef = z) (hd : tmps.getD s undef = u)
    (hx : (loadVar tp a).run P w = .ok x w) : (results fn tmps).run P w = .ok (.tuple #[x, y, z, u]) w := by
  have e : ∀ d : Addr, (asAddr (.pointer (some d)) : Sem Addr).run P w = .ok d w := fun d => rfl
  simp only [Array.getD_eq_getD_getElem?] at ha hb hc hd
  simp only [results, h]
  simp [Sem.run_bind, Result.andThen, ha, hb, hc, hd, e, hx]
theorem HdAt.c0 {g : Nat} {h : Hd} (k : HdAt w g h) : w.cell? ⟨g, 0, none⟩ = some (.int .i64 h.sub) := by rw [cell_of k]; rfl
theorem HdAt.c1 {g : Nat} {h : Hd} (k : HdAt w g h) : w.cell? ⟨g, 1, none⟩ = some (.int .i64 h.kind) := by rw [cell_of k]; rfl
theorem HdAt.c2 {g : Nat} {h : Hd} (k : HdAt w g h) : w.cell? ⟨g, 2, none⟩ = some (.int .u32 h.flags) := by rw [cell_of k]; rfl
theorem HdAt.fz {g : Nat} {h : Hd} (k : HdAt w g h) (i : Nat) : w.frozen? ⟨g, i, none⟩ = false := free_of k
theorem HdAt.lt {g : Nat} {h : Hd} (k : HdAt w g h) : g < w.heap.size := lt_of_block k
theorem HdAt.kept {g : Nat} {h : Hd} {row : Option Nat} (k : HdAt w g h) (hg : w.grownBy w' row) (hr : row ≠ some g) : HdAt w' g h := (hg.block g (lt_of_block k) (fun e => hr e.symm)).trans k
theorem HdAt.grown {g : Nat} {h : Hd} (k : HdAt w g h) (hg : w.grownBy w' none) : HdAt w' g h := k.kept hg (by simp)
theorem HdAt.new (w : World) (h : Hd) : HdAt (w.alloc (.cells #[.int .i64 h.sub, .int .i64 h.kind, .int .u32 h.flags] 68)) w.heap.size h := heap_alloc_new w _

structure RefOut (w w' : World) (ys : List Int) (e : Ending) : Prop where
  bad : rdErr ys ≠ 0 → e = .returned (.tuple #[(Hd.mk 0 0 0).v, .slice none 0 0, .int .i64 0, .int .i64 (rdErr ys)])
  good : rdErr ys = 0 → ∃ pre q c, readN ys = some (pre.map Cm.d) ∧ e = .returned (.tuple #[(Hd.of (frOf (ys.take 32))).v, .slice q pre.length c, .int .i64 (32 + sizeF ys), .int .i64 0]) ∧ IsCms w' q pre ∧ pre.length ≤ c ∧ c ≤ 9223372036854775807 ∧ ∀ m ∈ pre, m.Fits
  grown : w.grownBy w' none
theorem RefOut.no {ys : List Int} {er : Int} (hE : rdErr ys = er) (h0 : er ≠ 0) (hg : w.grownBy w' none) : RefOut w w' ys (.returned (.tuple #[.agg #[.int .i64 0, .int .i64 0, .int .u32 0], .slice none 0 0, .int .i64 0, .int .i64 er])) :=
  ⟨fun _ => by rw [hE]; rfl, fun h => absurd (hE ▸ h) h0, hg⟩

/-- The header's words. -/
def wd (ys : List Int) (k : Nat) : Int := leN ((ys.drop (4 * k)).take 4)
theorem rdErr_short {ys : List Int} (h : ys.length < 32) : rdErr ys = 3 := by
  have hl : (ys.take 32).length < 32 := by rw [List.length_take]; omega
  have : frErr (ys.take 32) ys.length = 3 := by unfold frErr; rw [if_pos hl]
  unfold rdErr
  rw [this, if_neg (by decide)]
theorem rdErr_long {ys : List Int} (h : 32 ≤ ys.length) : frErr (ys.take 32) ys.length = (if wd ys 0 ≠ 4277009103 then 5 else if wd ys 1 ≠ 16777228 ∨ ¬ (wd ys 2 % 16777216 = 0 ∨ wd ys 2 % 16777216 = 2) then 6 else
    if ¬ (wd ys 3 = 2 ∨ wd ys 3 = 6) then 7 else if 256 < wd ys 4 then 11 else if ¬ 32 + wd ys 5 ≤ ys.length then 3 else 0) := by
  have hl : ¬ (ys.take 32).length < 32 := by rw [List.length_take]; omega
  unfold frErr
  rw [if_neg hl]
  simp only [wordN_take h, show (0 : Nat) < 8 from by decide, show (1 : Nat) < 8 from by decide, show (2 : Nat) < 8 from by decide, show (3 : Nat) < 8 from by decide, show (4 : Nat) < 8 from by decide, show (5 : Nat) < 8 from by decide]
  rfl
theorem rdErr_of {ys : List Int} {er : Int} (h : frErr (ys.take 32) ys.length = er) (h0 : er ≠ 0) : rdErr ys = er := by
  unfold rdErr
  rw [h, if_neg h0]

/-- What stands between two rounds. -/
structure RfJ (w wx wr : World) (zs : List Int) (K S k p : Nat) (pre : List Cm) (lq : Option Addr) (lc : Nat) (qr : Option Addr) (cr : Nat) : Prop where
  came : Came zs K k p pre
  ps : p ≤ S
  pc : S - p ≤ cr
  crm : cr ≤ 9223372036854775807
  rest : IsBytes w qr cr (zs.drop p)
  own : wr.ownsRow wx.heap.size 109 2 (.slice lq k lc) k (rowC pre)
  grown : wx.grownBy wr none
  each : ∀ m ∈ pre, m.Fits ∧ IsBytes w m.q m.cap m.bytes

set_option maxHeartbeats 16000000 in
set_option maxRecDepth 20000 in
theorem RefRead_any (ys : List Int) (q : Option Addr) (c n : Nat) (h : IsBytes w q c ys) (hn : ys.length = n) (hc : n ≤ c) (hcm : c ≤ 9223372036854775807) (hn47 : n ≤ 140737488355328) (hr : Small ys) :
    Calls Tryz.prog 23 #[.slice q n c] w fun e w' => RefOut w w' ys e := by
  have GT := Lib.hid (fun (p : Int) (w1 : World) (hg : w.grownBy w1 none) (hp : 0 ≤ p ∧ p.toNat + 4 ≤ n) => (by
    have h := get_any (w := w1) ys (h.kept hg (by simp)) hn hc hcm hr p.toNat hp.2
    rw [Int.toNat_of_nonneg hp.1] at h
    exact h : Calls Tryz.prog 45 #[.slice q n c, .int .i64 p] w1 fun e w' => e = .returned (.int .i64 (leN ((ys.drop p.toNat).take 4))) ∧ w1.grownBy w' none))
  have HI := Lib.hid h
  have HN := Lib.hid hn
  have HR := Lib.hid hr
  have ZA0 : HdAt ((w.alloc (.cells #[.int .i64 0, .int .i64 0, .int .u32 0] 68)).alloc (.cells #[.int .i64 0, .int .i64 0, .int .u32 0] 68)) w.heap.size ⟨0, 0, 0⟩ := (HdAt.new w ⟨0, 0, 0⟩).grown (grown1 _ _)
  have ZB0 : HdAt ((w.alloc (.cells #[.int .i64 0, .int .i64 0, .int .u32 0] 68)).alloc (.cells #[.int .i64 0, .int .i64 0, .int .u32 0] 68)) (w.heap.size + 1) ⟨0, 0, 0⟩ := by
    have := HdAt.new (w.alloc (.cells #[.int .i64 0, .int .i64 0, .int .u32 0] 68)) ⟨0, 0, 0⟩
    simpa using this
  have ZA := Lib.hid ZA0
  have ZB := Lib.hid ZB0
  have G := Lib.hid (grown2 w (.cells #[.int .i64 0, .int .i64 0, .int .u32 0] 68) (.cells #[.int .i64 0, .int .i64 0, .int .u32 0] 68))
  clear h hr ZA0 ZB0 hn
  by_cases hlen : n < 32
  · have LEN := Lib.hid hlen
    have d0 : decide ((n : Int) < 32) = true := by simp; omega
    go_enter Tryz.func23, Tryz.ntmps23
    have HE := Lib.hid (show rdErr ys = 3 from rdErr_short (by rw [HN.out]; exact LEN.out))
    have a0 := ZB.out.c0
    have a1 := ZB.out.c1
    have a2 := ZB.out.c2
    have z0 := ZA.out.c0
    have z1 := ZA.out.c1
    have z2 := ZA.out.c2
    have f0 := ZA.out.fz 0
    have f1 := ZA.out.fz 1
    have f2 := ZA.out.fz 2
    have lta := ZA.out.lt
    go_wp2
    have PA := ZA.out.put ⟨0, 0, 0⟩
    first | refine bodyPost_ret (results_cell_tmp3 rfl _ _ _ rfl rfl rfl rfl (load_hd PA)) rfl ?_ | refine bodyPost_ret (results_cell_tmp3 rfl _ _ _ rfl rfl rfl rfl (load_hd ZA.out)) rfl ?_
    exact RefOut.no HE.out (by decide) (by first | exact grown_new G.out (grown_put3 (grown_refl _ _) _ _ _) (Nat.le_refl _) | exact G.out)
  · have d0 : decide ((n : Int) < 32) = false := by simp; omega
    have FE := Lib.hid (rdErr_long (ys := ys) (by rw [HN.out]; omega))
    obtain ⟨b, o, rfl, hcells⟩ := HI.out.2 (by rw [HN.out]; omega)
    have HC := Lib.hid hcells
    clear hcells
    obtain ⟨V, hV⟩ : ∃ V : Nat → Int, V = wd ys := ⟨_, rfl⟩
    have VE := Lib.hid hV
    have hb : ∀ k, 0 ≤ V k ∧ V k < 4294967296 := fun k => by rw [hV]; exact leN4_bd HR.out (4 * k)
    rw [← hV] at FE
    have GT0 := Lib.hid (fun (w1 : World) (hg : w.grownBy w1 none) => (by have h := GT.out 0 w1 hg ⟨by decide, by simp; omega⟩; rw [hV]; exact h : Calls Tryz.prog 45 #[.slice (some ⟨b, o, none⟩) n c, .int .i64 0] w1 fun e w' => e = .returned (.int .i64 (V 0)) ∧ w1.grownBy w' none))
    have GT1 := Lib.hid (fun (w1 : World) (hg : w.grownBy w1 none) => (by have h := GT.out 4 w1 hg ⟨by decide, by simp; omega⟩; rw [hV]; exact h : Calls Tryz.prog 45 #[.slice (some ⟨b, o, none⟩) n c, .int .i64 4] w1 fun e w' => e = .returned (.int .i64 (V 1)) ∧ w1.grownBy w' none))
    have GT2 := Lib.hid (fun (w1 : World) (hg : w.grownBy w1 none) => (by have h := GT.out 8 w1 hg ⟨by decide, by simp; omega⟩; rw [hV]; exact h : Calls Tryz.prog 45 #[.slice (some ⟨b, o, none⟩) n c, .int .i64 8] w1 fun e w' => e = .returned (.int .i64 (V 2)) ∧ w1.grownBy w' none))
    have GT3 := Lib.hid (fun (w1 : World) (hg : w.grownBy w1 none) => (by have h := GT.out 12 w1 hg ⟨by decide, by simp; omega⟩; rw [hV]; exact h : Calls Tryz.prog 45 #[.slice (some ⟨b, o, none⟩) n c, .int .i64 12] w1 fun e w' => e = .returned (.int .i64 (V 3)) ∧ w1.grownBy w' none))
    have GT4 := Lib.hid (fun (w1 : World) (hg : w.grownBy w1 none) => (by have h := GT.out 16 w1 hg ⟨by decide, by simp; omega⟩; rw [hV]; exact h : Calls Tryz.prog 45 #[.slice (some ⟨b, o, none⟩) n c, .int .i64 16] w1 fun e w' => e = .returned (.int .i64 (V 4)) ∧ w1.grownBy w' none))
    have GT5 := Lib.hid (fun (w1 : World) (hg : w.grownBy w1 none) => (by have h := GT.out 20 w1 hg ⟨by decide, by simp; omega⟩; rw [hV]; exact h : Calls Tryz.prog 45 #[.slice (some ⟨b, o, none⟩) n c, .int .i64 20] w1 fun e w' => e = .returned (.int .i64 (V 5)) ∧ w1.grownBy w' none))
    have GT6 := Lib.hid (fun (w1 : World) (hg : w.grownBy w1 none) => (by have h := GT.out 24 w1 hg ⟨by decide, by simp; omega⟩; rw [hV]; exact h : Calls Tryz.prog 45 #[.slice (some ⟨b, o, none⟩) n c, .int .i64 24] w1 fun e w' => e = .returned (.int .i64 (V 6)) ∧ w1.grownBy w' none))
    have b0 := hb 0
    have b1 := hb 1
    have b2 := hb 2
    have b3 := hb 3
    have b4 := hb 4
    have b5 := hb 5
    have b6 := hb 6
    clear hV hb
    obtain ⟨V0, e0⟩ : ∃ x, x = V 0 := ⟨_, rfl⟩
    obtain ⟨V1, e1⟩ : ∃ x, x = V 1 := ⟨_, rfl⟩
    obtain ⟨V2, e2⟩ : ∃ x, x = V 2 := ⟨_, rfl⟩
    obtain ⟨V3, e3⟩ : ∃ x, x = V 3 := ⟨_, rfl⟩
    obtain ⟨V4, e4⟩ : ∃ x, x = V 4 := ⟨_, rfl⟩
    obtain ⟨V5, e5⟩ : ∃ x, x = V 5 := ⟨_, rfl⟩
    obtain ⟨V6, e6⟩ : ∃ x, x = V 6 := ⟨_, rfl⟩
    rw [← e0] at b0 GT0 FE
    rw [← e1] at b1 GT1 FE
    rw [← e2] at b2 GT2 FE
    rw [← e3] at b3 GT3 FE
    rw [← e4] at b4 GT4 FE
    rw [← e5] at b5 GT5 FE
    rw [← e6] at b6 GT6
    have EV := Lib.hid (And.intro e2 (And.intro e3 (And.intro e4 (And.intro e5 e6))))
    clear e0 e1 e2 e3 e4 e5 e6 GT
    go_enter Tryz.func23, Tryz.ntmps23
    go_wp2_with fail
    refine (GT0.out _ G.out).mono ?_
    rintro e wx ⟨rfl, hg⟩
    have ZA' := Lib.hid (ZA.out.grown hg)
    have ZB' := Lib.hid (ZB.out.grown hg)
    have G' := Lib.hid (grown_trans G.out hg)
    clear ZA ZB G hg
    have ZA := ZA'
    have ZB := ZB'
    have G := G'
    clear ZA' ZB' G'
    by_cases h0 : V0 = 4277009103
    · have d1 : (V0 != 4277009103) = false := by rw [h0]; rfl
      have FE0 := Lib.hid (FE.out.trans (if_neg (by rw [h0]; decide)))
      clear FE
      have c1 : V2.tmod 16777216 = V2 % 16777216 := Int.tmod_eq_emod_of_nonneg b2.1
      have c3 : V6 % 4294967296 = V6 := by omega
      have c4 : IntKind.u32.wrap V6 = V6 := by rw [IntKind.wrap_u32]; exact c3
      obtain ⟨s, hs⟩ : ∃ s, s = V2 % 16777216 := ⟨_, rfl⟩
      rw [← hs] at c1 FE0
      have HS := Lib.hid hs
      clear hs
      go_wp2_with fail
      refine (GT2.out _ G.out).mono ?_
      rintro e wx ⟨rfl, hg⟩
      have ZA' := Lib.hid (ZA.out.grown hg)
      have ZB' := Lib.hid (ZB.out.grown hg)
      have G' := Lib.hid (grown_trans G.out hg)
      clear ZA ZB G hg
      have ZA := ZA'
      have ZB := ZB'
      have G := G'
      clear ZA' ZB' G'
      go_wp2_with fail
      refine (GT3.out _ G.out).mono ?_
      rintro e wx ⟨rfl, hg⟩
      have ZA' := Lib.hid (ZA.out.grown hg)
      have ZB' := Lib.hid (ZB.out.grown hg)
      have G' := Lib.hid (grown_trans G.out hg)
      clear ZA ZB G hg
      have ZA := ZA'
      have ZB := ZB'
      have G := G'
      clear ZA' ZB' G'
      go_wp2_with fail
      refine (GT6.out _ G.out).mono ?_
      rintro e wx ⟨rfl, hg⟩
      have ZA' := Lib.hid (ZA.out.grown hg)
      have ZB' := Lib.hid (ZB.out.grown hg)
      have G' := Lib.hid (grown_trans G.out hg)
      clear ZA ZB G hg
      have ZA := ZA'
      have ZB := ZB'
      have G := G'
      clear ZA' ZB' G'
      have hd : HdAt (wx.alloc (.cells #[.int .i64 s, .int .i64 V3, .int .u32 V6] 68)) wx.heap.size ⟨s, V3, V6⟩ := HdAt.new wx ⟨s, V3, V6⟩
      have gh := grown1 wx (.cells #[.int .i64 s, .int .i64 V3, .int .u32 V6] 68)
      have hgt : w.heap.size + 1 < wx.heap.size := ZB.out.lt
      have ZA' := Lib.hid (ZA.out.grown gh)
      have ZB' := Lib.hid (ZB.out.grown gh)
      have ZD := Lib.hid hd
      have G' := Lib.hid (grown_trans G.out gh)
      clear ZA ZB G hd gh
      have ZA := ZA'
      have ZB := ZB'
      have G := G'
      clear ZA' ZB' G'
      go_upto_region 7 with fail
      obtain ⟨wh, hwh⟩ : ∃ wh, wx.alloc (.cells #[.int .i64 s, .int .i64 V3, .int .u32 V6] 68) = wh := ⟨_, rfl⟩
      obtain ⟨bh, hbh⟩ : ∃ bh, wx.heap.size = bh := ⟨_, rfl⟩
      rw [hwh, hbh] at ZD
      rw [hwh] at ZA ZB G
      rw [hwh]
      simp only [hbh] at hgt ⊢
      clear hwh hbh
      go_wp2_with fail
      refine (GT1.out _ G.out).mono ?_
      rintro e wy ⟨rfl, hg⟩
      have ZA' := Lib.hid (ZA.out.grown hg)
      have ZB' := Lib.hid (ZB.out.grown hg)
      have ZD' := Lib.hid (ZD.out.grown hg)
      have G' := Lib.hid (grown_trans G.out hg)
      clear ZA ZB G ZD hg
      have ZA := ZA'
      have ZB := ZB'
      have ZD := ZD'
      have G := G'
      clear ZA' ZB' G' ZD'
      have k0 := ZD.out.c0
      have k1 := ZD.out.c1
      by_cases h1 : V1 = 16777228
      · have d2 : (V1 != 16777228) = false := by rw [h1]; rfl
        by_cases h2 : s = 0 ∨ s = 2
        · have hsv : (s != 0) = false ∨ ((s != 0) = true ∧ (s != 2) = false) := by
            rcases h2 with rfl | rfl
            · exact .inl rfl
            · exact .inr ⟨rfl, rfl⟩
          have FE1 := Lib.hid (FE0.out.trans (if_neg (by rintro (h | h); exact h h1; exact h h2)))
          by_cases h3 : V3 = 2 ∨ V3 = 6
          · have hkv : (V3 != 2) = false ∨ ((V3 != 2) = true ∧ (V3 != 6) = false) := by
              rcases h3 with rfl | rfl
              · exact .inl rfl
              · exact .inr ⟨rfl, rfl⟩
            have FE2 := Lib.hid (FE1.out.trans (if_neg (fun h => h h3)))
            clear FE0 FE1 h1 h2 h3
            rcases hsv with s1 | ⟨s1, s2⟩ <;> rcases hkv with k1' | ⟨k1', k2'⟩
            all_goals
              go_wp2_with fail
              refine (GT4.out _ G.out).mono ?_
              rintro e wx ⟨rfl, hg⟩
              have ZA' := Lib.hid (ZA.out.grown hg)
              have ZB' := Lib.hid (ZB.out.grown hg)
              have ZD' := Lib.hid (ZD.out.grown hg)
              have G' := Lib.hid (grown_trans G.out hg)
              clear ZA ZB ZD G hg
              have ZA := ZA'
              have ZB := ZB'
              have ZD := ZD'
              have G := G'
              clear ZA' ZB' ZD' G'
              go_wp2_with fail
              refine (GT5.out _ G.out).mono ?_
              rintro e wx ⟨rfl, hg⟩
              have ZA' := Lib.hid (ZA.out.grown hg)
              have ZB' := Lib.hid (ZB.out.grown hg)
              have ZD' := Lib.hid (ZD.out.grown hg)
              have G' := Lib.hid (grown_trans G.out hg)
              clear ZA ZB ZD G hg
              have ZA := ZA'
              have ZB := ZB'
              have ZD := ZD'
              have G := G'
              clear ZA' ZB' ZD' G'
              by_cases h4 : 256 < V4
              · have d4 : decide (256 < V4) = true := by simpa using h4
                have FE3 := Lib.hid (FE2.out.trans (if_pos h4))
                have HE := Lib.hid (show rdErr ys = 11 from rdErr_of FE3.out (by decide))
                have a0 := ZB.out.c0
                have a1 := ZB.out.c1
                have a2 := ZB.out.c2
                have z0 := ZA.out.c0
                have z1 := ZA.out.c1
                have z2 := ZA.out.c2
                have f0 := ZA.out.fz 0
                have f1 := ZA.out.fz 1
                have f2 := ZA.out.fz 2
                have lta := ZA.out.lt
                go_wp2
                have PA := ZA.out.put ⟨0, 0, 0⟩
                first | refine bodyPost_ret (results_cell_tmp3 rfl _ _ _ rfl rfl rfl rfl (load_hd PA)) rfl ?_ | refine bodyPost_ret (results_cell_tmp3 rfl _ _ _ rfl rfl rfl rfl (load_hd ZA.out)) rfl ?_
                exact RefOut.no HE.out (by decide) (by first | exact grown_new G.out (grown_put3 (grown_refl _ _) _ _ _) (Nat.le_refl _) | exact G.out)
              · have d4 : decide (256 < V4) = false := by simpa using h4
                have FE3 := Lib.hid (FE2.out.trans (if_neg h4))
                by_cases h5 : (n : Int) - 32 < V5
                · have d5 : decide ((n : Int) - 32 < V5) = true := by simpa using h5
                  have FE4 := Lib.hid (FE3.out.trans (if_pos (by rw [HN.out]; omega)))
                  have HE := Lib.hid (show rdErr ys = 3 from rdErr_of FE4.out (by decide))
                  have a0 := ZB.out.c0
                  have a1 := ZB.out.c1
                  have a2 := ZB.out.c2
                  have z0 := ZA.out.c0
                  have z1 := ZA.out.c1
                  have z2 := ZA.out.c2
                  have f0 := ZA.out.fz 0
                  have f1 := ZA.out.fz 1
                  have f2 := ZA.out.fz 2
                  have lta := ZA.out.lt
                  go_wp2
                  have PA := ZA.out.put ⟨0, 0, 0⟩
                  first | refine bodyPost_ret (results_cell_tmp3 rfl _ _ _ rfl rfl rfl rfl (load_hd PA)) rfl ?_ | refine bodyPost_ret (results_cell_tmp3 rfl _ _ _ rfl rfl rfl rfl (load_hd ZA.out)) rfl ?_
                  exact RefOut.no HE.out (by decide) (by first | exact grown_new G.out (grown_put3 (grown_refl _ _) _ _ _) (Nat.le_refl _) | exact G.out)
                · have d5 : decide ((n : Int) - 32 < V5) = false := by simpa using h5
                  have FE4 := Lib.hid (FE3.out.trans (if_neg (by rw [HN.out]; omega)))
                  obtain ⟨K, hK⟩ : ∃ K : Nat, V4 = K := ⟨V4.toNat, by omega⟩
                  obtain ⟨S, hS⟩ : ∃ S : Nat, V5 = S := ⟨V5.toNat, by omega⟩
                  have EQ := Lib.hid (And.intro (hK ▸ EV.out.2.2.1) (hS ▸ EV.out.2.2.2.1))
                  subst hK hS
                  have hsz : sizeF ys = S := by
                    unfold sizeF
                    rw [wordN_take (by rw [HN.out]; omega) 5 (by decide)]
                    show (wd ys 5).toNat = S
                    rw [← congrFun VE.out 5, ← EQ.out.2]
                    simp
                  have hcn : cntF ys = K := by
                    unfold cntF
                    rw [wordN_take (by rw [HN.out]; omega) 4 (by decide)]
                    show (wd ys 4).toNat = K
                    rw [← congrFun VE.out 4, ← EQ.out.1]
                    simp
                  have hfr : frOf (ys.take 32) = ⟨s, V3, V6, K, S⟩ := by
                    unfold frOf
                    rw [wordN_take (by rw [HN.out]; omega) 2 (by decide), wordN_take (by rw [HN.out]; omega) 3 (by decide), wordN_take (by rw [HN.out]; omega) 6 (by decide), wordN_take (by rw [HN.out]; omega) 4 (by decide), wordN_take (by rw [HN.out]; omega) 5 (by decide)]
                    show Fr.mk (wd ys 2 % 16777216) (wd ys 3) (wd ys 6) (wd ys 4) (wd ys 5) = _
                    rw [← VE.out, ← EV.out.1, ← EV.out.2.1, ← EQ.out.1, ← EQ.out.2, ← EV.out.2.2.2.2, ← HS.out]
                  obtain ⟨zs, hzs⟩ : ∃ zs, zs = (ys.drop 32).take S := ⟨_, rfl⟩
                  have hzl : zs.length = S := by rw [hzs, List.length_take, List.length_drop, HN.out]; omega
                  have hzm : Small zs := by rw [hzs]; exact fun x hx => HR.out x (List.mem_of_mem_drop (List.mem_of_mem_take hx))
                  have RN := Lib.hid (show readN ys = cmdsN zs K 0 from by unfold readN; rw [hsz, hcn, hzs])
                  have ZB0 : ∀ c', IsBytes w (some ⟨b, o + 32, none⟩) c' zs := fun c' => IsBytes.mk_at fun i hi => by
                    have hi' : 32 + i < ys.length := by rw [HN.out]; omega
                    rw [Nat.add_assoc, HC.out (32 + i) hi', hzs]
                    simp [List.getD, List.getElem?_drop, show i < S by omega]
                  obtain ⟨qq, hqq⟩ : ∃ qq, (if c = 32 then some (⟨b, o, none⟩ : Addr) else some ⟨b, o + 32, none⟩) = qq := ⟨_, rfl⟩
                  have hqb : IsBytes w qq (c - 32) (zs.drop 0) := by
                    rw [← hqq, List.drop_zero]
                    split
                    · rw [List.eq_nil_of_length_eq_zero (show zs.length = 0 by rw [hzl]; omega)]
                      exact IsBytes.empty
                    · exact ZB0 _
                  have RF0 : RfJ w wx wx zs K S 0 0 [] none 0 qq (c - 32) := ⟨Came.start zs K, by omega, by omega, by omega, hqb, World.ownsRow_nil _ _ _ _, grown_refl _ _, fun m hm => (by cases hm)⟩
                  have RF := Lib.hid RF0
                  have ZM := Lib.hid hzm
                  have ZL := Lib.hid hzl
                  have FR := Lib.hid hfr
                  have SZ := Lib.hid hsz
                  have i1 : (32 : Int) ≤ 32 + (S : Int) := by omega
                  have i2 : 32 + (S : Int) ≤ c := by omega
                  have i4 : IntKind.i64.wrap (32 + (S : Int)) = 32 + (S : Int) := IntWalk.i64_in _ (by omega)
                  have i5 : (32 + (S : Int)).toNat - 32 = S := by omega
                  have hgx : bh < wx.heap.size := ZD.out.lt
                  have WX := Lib.hid (show w.heap.size ≤ wx.heap.size from G.out.size)
                  clear RF0 hzm hzl hfr hsz hcn hzs ZB0 hqb k0 k1 FE2 FE3 h4 h5 d1 d2 b0 b1 b2 b3 b6 c1 c3 c4 HS EV EQ VE
                  go_wp2
                  go_loopw [10, 11, 12] (fun out rest i wr => ∃ (k p : Nat) (pre : List Cm) (lq : Option Addr) (lc : Nat) (qr : Option Addr) (cr : Nat), i = .int .i64 k ∧ out = .slice lq k lc ∧ rest = .slice qr (S - p : Nat) cr ∧ RfJ w wx wr zs K S k p pre lq lc qr cr) (fun _ _ i _ => K - (intOf i).toNat)
                  case atStart => exact ⟨0, 0, [], none, 0, qq, c - 32, rfl, rfl, rfl, RF.out⟩
                  case round =>
                    obtain ⟨k, p, pre, lq, lc, qr, cr, rfl, rfl, rfl, hj⟩ := hrel
                    have J := Lib.hid hj
                    have ZA' := Lib.hid (ZA.out.grown hj.grown)
                    have ZB' := Lib.hid (ZB.out.grown hj.grown)
                    have ZD' := Lib.hid (ZD.out.grown hj.grown)
                    have G' := Lib.hid (grown_trans G.out hj.grown)
                    have hps := hj.ps
                    have hpc := hj.pc
                    have hcr := hj.crm
                    clear ZA ZB ZD G hj RF
                    have ZA := ZA'
                    have ZB := ZB'
                    have ZD := ZD'
                    have G := G'
                    clear ZA' ZB' ZD' G'
                    by_cases hlt : k < K
                    · by_cases h8 : p + 8 ≤ S
                      · have d8 : decide (((S - p : Nat) : Int) < 8) = false := by simp; omega
                        obtain ⟨bq, oq, rfl, hcq⟩ := J.out.rest.2 (by rw [List.length_drop, ZL.out]; omega)
                        have HQ := Lib.hid hcq
                        clear hcq
                        have hsm : Small (zs.drop p) := fun x hx => ZM.out x (List.mem_of_mem_drop hx)
                        have RT0 := Lib.hid (fun (w1 : World) (hg : w.grownBy w1 none) => (by
                          have h := get_any (w := w1) (zs.drop p) (J.out.rest.kept hg (by simp)) (by rw [List.length_drop, ZL.out]) hpc hcr hsm 0 (by omega)
                          rw [List.drop_zero] at h
                          exact h : Calls Tryz.prog 45 #[.slice (some ⟨bq, oq, none⟩) (S - p : Nat) cr, .int .i64 0] w1 fun e w' => e = .returned (.int .i64 (leN ((zs.drop p).take 4))) ∧ w1.grownBy w' none))
                        have RT4 := Lib.hid (fun (w1 : World) (hg : w.grownBy w1 none) => (by
                          have h := get_any (w := w1) (zs.drop p) (J.out.rest.kept hg (by simp)) (by rw [List.length_drop, ZL.out]) hpc hcr hsm 4 (by omega)
                          rw [List.drop_drop] at h
                          exact h : Calls Tryz.prog 45 #[.slice (some ⟨bq, oq, none⟩) (S - p : Nat) cr, .int .i64 4] w1 fun e w' => e = .returned (.int .i64 (szN zs p)) ∧ w1.grownBy w' none))
                        have hz := leN4_bd ZM.out p
                        have hy := leN4_bd ZM.out (p + 4)
                        obtain ⟨N, hN⟩ : ∃ N : Nat, szN zs p = N := ⟨(szN zs p).toNat, by unfold szN; omega⟩
                        have hNb : N < 4294967296 := by unfold szN at hN; omega
                        have NE := Lib.hid hN
                        rw [hN] at RT4
                        obtain ⟨V, hV⟩ : ∃ V, leN ((zs.drop p).take 4) = V := ⟨_, rfl⟩
                        have VQ := Lib.hid hV
                        rw [hV] at RT0 hz
                        clear hN hV hy hsm
                        have t1 : (N : Int).tmod 8 = ((N % 8 : Nat) : Int) := by rw [Int.tmod_eq_emod_of_nonneg (by omega)]; omega
                        by_cases hA : N < 8
                        · have dA : decide ((N : Int) < 8) = true := by simp; omega
                          have NO := Lib.hid (J.out.came.bad hlt (fun h => by have := h.2.1; rw [NE.out] at this; omega))
                          go_wp2_with fail
                          refine (RT4.out _ G.out).mono ?_
                          rintro e wy ⟨rfl, hg⟩
                          have ZA' := Lib.hid (ZA.out.grown hg)
                          have ZB' := Lib.hid (ZB.out.grown hg)
                          have ZD' := Lib.hid (ZD.out.grown hg)
                          have G' := Lib.hid (grown_trans G.out hg)
                          have GY := Lib.hid hg
                          clear ZA ZB ZD G hg
                          have ZA := ZA'
                          have ZB := ZB'
                          have ZD := ZD'
                          have G := G'
                          clear ZA' ZB' ZD' G'
                          have HE := Lib.hid (show rdErr ys = 7 from (by unfold rdErr; rw [if_pos FE4.out, RN.out, if_pos NO.out]))
                          have a0 := ZB.out.c0
                          have a1 := ZB.out.c1
                          have a2 := ZB.out.c2
                          have z0 := ZA.out.c0
                          have z1 := ZA.out.c1
                          have z2 := ZA.out.c2
                          have f0 := ZA.out.fz 0
                          have f1 := ZA.out.fz 1
                          have f2 := ZA.out.fz 2
                          have lta := ZA.out.lt
                          go_wp2
                          have PA := ZA.out.put ⟨0, 0, 0⟩
                          first | refine bodyPost_ret (results_cell_tmp3 rfl _ _ _ rfl rfl rfl rfl (load_hd PA)) rfl ?_ | refine bodyPost_ret (results_cell_tmp3 rfl _ _ _ rfl rfl rfl rfl (load_hd ZA.out)) rfl ?_
                          exact RefOut.no HE.out (by decide) (by first | exact grown_new G.out (grown_put3 (grown_refl _ _) _ _ _) (Nat.le_refl _) | exact G.out)
                        · have dA : decide ((N : Int) < 8) = false := by simp; omega
                          by_cases hB : N % 8 = 0
                          · have dB : (((N % 8 : Nat) : Int) != 0) = false := by rw [hB]; rfl
                            by_cases hC : S - p < N
                            · have dC : decide (((S - p : Nat) : Int) < (N : Int)) = true := by simp; omega
                              have NO := Lib.hid (J.out.came.bad hlt (fun h => by have := h.2.2.2; rw [NE.out, ZL.out] at this; omega))
                              go_wp2_with fail
                              refine (RT4.out _ G.out).mono ?_
                              rintro e wy ⟨rfl, hg⟩
                              have ZA' := Lib.hid (ZA.out.grown hg)
                              have ZB' := Lib.hid (ZB.out.grown hg)
                              have ZD' := Lib.hid (ZD.out.grown hg)
                              have G' := Lib.hid (grown_trans G.out hg)
                              have GY := Lib.hid hg
                              clear ZA ZB ZD G hg
                              have ZA := ZA'
                              have ZB := ZB'
                              have ZD := ZD'
                              have G := G'
                              clear ZA' ZB' ZD' G'
                              have HE := Lib.hid (show rdErr ys = 7 from (by unfold rdErr; rw [if_pos FE4.out, RN.out, if_pos NO.out]))
                              have a0 := ZB.out.c0
                              have a1 := ZB.out.c1
                              have a2 := ZB.out.c2
                              have z0 := ZA.out.c0
                              have z1 := ZA.out.c1
                              have z2 := ZA.out.c2
                              have f0 := ZA.out.fz 0
                              have f1 := ZA.out.fz 1
                              have f2 := ZA.out.fz 2
                              have lta := ZA.out.lt
                              go_wp2
                              have PA := ZA.out.put ⟨0, 0, 0⟩
                              first | refine bodyPost_ret (results_cell_tmp3 rfl _ _ _ rfl rfl rfl rfl (load_hd PA)) rfl ?_ | refine bodyPost_ret (results_cell_tmp3 rfl _ _ _ rfl rfl rfl rfl (load_hd ZA.out)) rfl ?_
                              exact RefOut.no HE.out (by decide) (by first | exact grown_new G.out (grown_put3 (grown_refl _ _) _ _ _) (Nat.le_refl _) | exact G.out)
                            · have dC : decide (((S - p : Nat) : Int) < (N : Int)) = false := by simp; omega
                              have OK := Lib.hid (show okN zs p from ⟨by rw [ZL.out]; exact h8, by rw [NE.out]; omega, by rw [NE.out]; omega, by rw [NE.out, ZL.out]; omega⟩)
                              go_wp2_with fail
                              refine (RT4.out _ G.out).mono ?_
                              rintro e wy ⟨rfl, hg⟩
                              have ZA' := Lib.hid (ZA.out.grown hg)
                              have ZB' := Lib.hid (ZB.out.grown hg)
                              have ZD' := Lib.hid (ZD.out.grown hg)
                              have G' := Lib.hid (grown_trans G.out hg)
                              have GY := Lib.hid hg
                              clear ZA ZB ZD G hg
                              have ZA := ZA'
                              have ZB := ZB'
                              have ZD := ZD'
                              have G := G'
                              clear ZA' ZB' ZD' G'
                              obtain ⟨m, hm⟩ : ∃ m : Cm, m = ⟨V, some ⟨bq, oq, none⟩, cr, (zs.drop p).take N⟩ := ⟨_, rfl⟩
                              have hml : m.bytes.length = N := by rw [hm]; show ((zs.drop p).take N).length = N; rw [List.length_take, List.length_drop, ZL.out]; omega
                              have m1 : m.cmd = V := by rw [hm]
                              have m2 : m.q = some ⟨bq, oq, none⟩ := by rw [hm]
                              have m3 : m.cap = cr := by rw [hm]
                              have CN := Lib.hid (fun (X : World) => (by
                                have h := CmAt.new X m
                                rw [hml, m1, m2, m3] at h
                                exact h : CmAt (X.alloc (.cells #[.int .u32 V, .slice (some ⟨bq, oq, none⟩) N cr] 109)) X.heap.size m))
                              have BS := Lib.hid (Nat.le_trans J.out.grown.size GY.out.size)
                              have KB := Lib.hid (show (K : Int) ≤ 256 by simpa using d4)
                              have ME := Lib.hid hm
                              clear m1 m2 m3
                              have ML := Lib.hid hml
                              have n0 : (0 : Int) ≤ (N : Int) := by omega
                              have n1 : (N : Int) ≤ (cr : Int) := by omega
                              have v1 : V % 4294967296 = V := by omega
                              have v2 : IntKind.u32.wrap V = V := by rw [IntKind.wrap_u32]; exact v1
                              clear hm hml
                              go_wp2
                              have OW := Lib.hid (own_grown J.out.own GY.out)
                              have GD := Lib.hid (show w.grownBy wy.drew none from grown_drewN G.out 1)
                              have ZA' := Lib.hid (ZA.out.grown (grown_drewN (grown_refl wy none) 1))
                              have ZB' := Lib.hid (ZB.out.grown (grown_drewN (grown_refl wy none) 1))
                              have ZD' := Lib.hid (ZD.out.grown (grown_drewN (grown_refl wy none) 1))
                              clear ZA ZB ZD
                              go_region_held3 (fun _ => True)
                                (exact trivial)
                                (first
                                  | (go_simp; go_at_call 45; refine (RT0.out _ GD.out).mono ?_; rintro e x1 ⟨rfl, hg1⟩; have OX := Lib.hid (own_grown OW.out (grown_trans (grown_drewN (grown_refl wy none) 1) hg1)))
                                  | (refine step_append_cm (by with_reducible rfl) _ _ (by with_reducible rfl) _ k pre (by rfl) (own_grown OX.out (grown1 _ _)) m x1.heap.size (by rfl) (CN.out x1) (by have := KB.out; omega) (by rw [World.size_alloc]; have := BS.out; have h : wy.heap.size ≤ x1.heap.size := hg1.size; omega) ?_; intro v' w6 ho6 hg6))
                              obtain ⟨q6, c6, rfl⟩ := own_slice ho6
                              obtain ⟨qt, hqt⟩ : ∃ qt, (if cr = N then some (⟨bq, oq, none⟩ : Addr) else some ⟨bq, oq + N, none⟩) = qt := ⟨_, rfl⟩
                              have HQT := Lib.hid hqt
                              have VB := Lib.hid hz
                              clear hqt
                              go_wp2
                              have hs : S - p - N = S - (p + N) := by omega
                              have hmb : m.bytes = (zs.drop p).take N := by rw [ME.out]
                              have hmc : m.cmd = V := by rw [ME.out]
                              have hib : IsBytes w m.q m.cap m.bytes := by
                                rw [hmb, ME.out]
                                exact J.out.rest.take N (fun h => by cases h)
                              refine ⟨⟨k + 1, p + N, pre ++ [m], q6, c6, qt, cr - N, by simp, rfl, by rw [hs, HQT.out], ?_⟩, by simp [intOf]; omega⟩
                              refine ⟨?_, by omega, by omega, by omega, ?_, ho6, ?_, ?_⟩
                              · have := J.out.came.step hlt OK.out (m := m) (by rw [hmc]; exact VQ.out.symm) (by rw [hmb, NE.out]; rfl)
                                rw [NE.out] at this
                                exact this
                              · rw [← HQT.out]
                                split
                                · rw [List.eq_nil_of_length_eq_zero (show (zs.drop (p + N)).length = 0 by rw [List.length_drop, ZL.out]; omega)]
                                  exact IsBytes.empty
                                · exact IsBytes.mk_at fun i hi => by
                                    rw [List.length_drop, ZL.out] at hi
                                    rw [Nat.add_assoc, HQ.out (N + i) (by rw [List.length_drop, ZL.out]; omega)]
                                    simp [List.getD, List.getElem?_drop, Nat.add_assoc]
                              · exact grown_own (grown_trans (grown_trans J.out.grown (grown_trans GY.out (grown_trans (grown_drewN (grown_refl wy none) 1) hg1))) (grown1 x1 _)) hg6 (fun g hg => (OX.out.lt g hg).1) (Nat.le_refl _)
                              · intro m' hm'
                                rcases List.mem_append.1 hm' with h | h
                                · exact J.out.each m' h
                                · rw [List.mem_singleton.1 h]
                                  exact ⟨⟨by rw [hmc]; exact VB.out, by rw [hmb]; exact fun x hx => ZM.out x (List.mem_of_mem_drop (List.mem_of_mem_take hx)), by rw [ML.out, ME.out]; show N ≤ cr; omega, by rw [ME.out]; exact hcr⟩, hib⟩
                          · have dB : (((N % 8 : Nat) : Int) != 0) = true := by simp; omega
                            have NO := Lib.hid (J.out.came.bad hlt (fun h => by have := h.2.2.1; rw [NE.out] at this; omega))
                            go_wp2_with fail
                            refine (RT4.out _ G.out).mono ?_
                            rintro e wy ⟨rfl, hg⟩
                            have ZA' := Lib.hid (ZA.out.grown hg)
                            have ZB' := Lib.hid (ZB.out.grown hg)
                            have ZD' := Lib.hid (ZD.out.grown hg)
                            have G' := Lib.hid (grown_trans G.out hg)
                            have GY := Lib.hid hg
                            clear ZA ZB ZD G hg
                            have ZA := ZA'
                            have ZB := ZB'
                            have ZD := ZD'
                            have G := G'
                            clear ZA' ZB' ZD' G'
                            have HE := Lib.hid (show rdErr ys = 7 from (by unfold rdErr; rw [if_pos FE4.out, RN.out, if_pos NO.out]))
                            have a0 := ZB.out.c0
                            have a1 := ZB.out.c1
                            have a2 := ZB.out.c2
                            have z0 := ZA.out.c0
                            have z1 := ZA.out.c1
                            have z2 := ZA.out.c2
                            have f0 := ZA.out.fz 0
                            have f1 := ZA.out.fz 1
                            have f2 := ZA.out.fz 2
                            have lta := ZA.out.lt
                            go_wp2
                            have PA := ZA.out.put ⟨0, 0, 0⟩
                            first | refine bodyPost_ret (results_cell_tmp3 rfl _ _ _ rfl rfl rfl rfl (load_hd PA)) rfl ?_ | refine bodyPost_ret (results_cell_tmp3 rfl _ _ _ rfl rfl rfl rfl (load_hd ZA.out)) rfl ?_
                            exact RefOut.no HE.out (by decide) (by first | exact grown_new G.out (grown_put3 (grown_refl _ _) _ _ _) (Nat.le_refl _) | exact G.out)
                      · have d8 : decide (((S - p : Nat) : Int) < 8) = true := by simp; omega
                        have NO := Lib.hid (J.out.came.bad hlt (fun h => by have := h.1; rw [ZL.out] at this; omega))
                        have HE := Lib.hid (show rdErr ys = 7 from (by unfold rdErr; rw [if_pos FE4.out, RN.out, if_pos NO.out]))
                        have a0 := ZB.out.c0
                        have a1 := ZB.out.c1
                        have a2 := ZB.out.c2
                        have z0 := ZA.out.c0
                        have z1 := ZA.out.c1
                        have z2 := ZA.out.c2
                        have f0 := ZA.out.fz 0
                        have f1 := ZA.out.fz 1
                        have f2 := ZA.out.fz 2
                        have lta := ZA.out.lt
                        go_wp2
                        have PA := ZA.out.put ⟨0, 0, 0⟩
                        first | refine bodyPost_ret (results_cell_tmp3 rfl _ _ _ rfl rfl rfl rfl (load_hd PA)) rfl ?_ | refine bodyPost_ret (results_cell_tmp3 rfl _ _ _ rfl rfl rfl rfl (load_hd ZA.out)) rfl ?_
                        exact RefOut.no HE.out (by decide) (by first | exact grown_new G.out (grown_put3 (grown_refl _ _) _ _ _) (Nat.le_refl _) | exact G.out)
                    · have hkk : k = K := by have := J.out.came.1.1; omega
                      subst hkk
                      have DN := Lib.hid J.out.came.done
                      have i1 : (32 : Int) + (S : Int) ≤ 9223372036854775807 := by omega
                      have x0 := ZD.out.c0
                      have x1 := ZD.out.c1
                      have x2 := ZD.out.c2
                      have a0 := ZA.out.c0
                      have a1 := ZA.out.c1
                      have a2 := ZA.out.c2
                      have f0 := ZA.out.fz 0
                      have f1 := ZA.out.fz 1
                      have f2 := ZA.out.fz 2
                      have lta := ZA.out.lt
                      have ltd := ZD.out.lt
                      go_wp2
                      have PA := ZA.out.put ⟨s, V3, V6⟩
                      have gP := grown_put3 (grown_refl wr (some w.heap.size)) (.int .i64 s) (.int .i64 V3) (.int .u32 V6)
                      refine bodyPost_ret (results_cell_tmp3 rfl _ _ _ rfl rfl rfl rfl (load_hd PA)) rfl ?_
                      have hz : rdErr ys = 0 := by unfold rdErr; rw [if_pos FE4.out, RN.out, DN.out, if_neg (by simp)]
                      have hgw := grown_new G.out gP (Nat.le_refl _)
                      have hown := J.out.own
                      have hpl : pre.length = k := J.out.came.1.2
                      obtain ⟨hcs, h1, h2⟩ := IsCms.of_own hpl (hown.kept gP (.inr (fun e => by have := (hown.lt _ e).1; omega))) (fun m hm => (J.out.each m hm).2.kept hgw (by simp))
                      refine ⟨fun h => absurd hz h, fun _ => ⟨pre, lq, lc, RN.out.trans DN.out, ?_, hcs, by omega, h2, fun m hm => (J.out.each m hm).1⟩, hgw⟩
                      rw [FR.out, SZ.out, hpl]
                      rfl
          · have p1 : (V3 != 2) = true := by simpa using fun h => h3 (.inl h)
            have p2 : (V3 != 6) = true := by simpa using fun h => h3 (.inr h)
            have FE2 := Lib.hid (FE1.out.trans (if_pos h3))
            rcases hsv with s1 | ⟨s1, s2⟩
            all_goals
              have HE := Lib.hid (show rdErr ys = 7 from rdErr_of FE2.out (by decide))
              have a0 := ZB.out.c0
              have a1 := ZB.out.c1
              have a2 := ZB.out.c2
              have z0 := ZA.out.c0
              have z1 := ZA.out.c1
              have z2 := ZA.out.c2
              have f0 := ZA.out.fz 0
              have f1 := ZA.out.fz 1
              have f2 := ZA.out.fz 2
              have lta := ZA.out.lt
              go_wp2
              have PA := ZA.out.put ⟨0, 0, 0⟩
              first | refine bodyPost_ret (results_cell_tmp3 rfl _ _ _ rfl rfl rfl rfl (load_hd PA)) rfl ?_ | refine bodyPost_ret (results_cell_tmp3 rfl _ _ _ rfl rfl rfl rfl (load_hd ZA.out)) rfl ?_
              exact RefOut.no HE.out (by decide) (by first | exact grown_new G.out (grown_put3 (grown_refl _ _) _ _ _) (Nat.le_refl _) | exact G.out)
        · have s1 : (s != 0) = true := by simpa using fun h => h2 (.inl h)
          have s2 : (s != 2) = true := by simpa using fun h => h2 (.inr h)
          have FE1 := Lib.hid (FE0.out.trans (if_pos (.inr h2)))
          have HE := Lib.hid (show rdErr ys = 6 from rdErr_of FE1.out (by decide))
          have a0 := ZB.out.c0
          have a1 := ZB.out.c1
          have a2 := ZB.out.c2
          have z0 := ZA.out.c0
          have z1 := ZA.out.c1
          have z2 := ZA.out.c2
          have f0 := ZA.out.fz 0
          have f1 := ZA.out.fz 1
          have f2 := ZA.out.fz 2
          have lta := ZA.out.lt
          go_wp2
          have PA := ZA.out.put ⟨0, 0, 0⟩
          first | refine bodyPost_ret (results_cell_tmp3 rfl _ _ _ rfl rfl rfl rfl (load_hd PA)) rfl ?_ | refine bodyPost_ret (results_cell_tmp3 rfl _ _ _ rfl rfl rfl rfl (load_hd ZA.out)) rfl ?_
          exact RefOut.no HE.out (by decide) (by first | exact grown_new G.out (grown_put3 (grown_refl _ _) _ _ _) (Nat.le_refl _) | exact G.out)
      · have d2 : (V1 != 16777228) = true := by simpa using h1
        have FE1 := Lib.hid (FE0.out.trans (if_pos (.inl h1)))
        have HE := Lib.hid (show rdErr ys = 6 from rdErr_of FE1.out (by decide))
        have a0 := ZB.out.c0
        have a1 := ZB.out.c1
        have a2 := ZB.out.c2
        have z0 := ZA.out.c0
        have z1 := ZA.out.c1
        have z2 := ZA.out.c2
        have f0 := ZA.out.fz 0
        have f1 := ZA.out.fz 1
        have f2 := ZA.out.fz 2
        have lta := ZA.out.lt
        go_wp2
        have PA := ZA.out.put ⟨0, 0, 0⟩
        first | refine bodyPost_ret (results_cell_tmp3 rfl _ _ _ rfl rfl rfl rfl (load_hd PA)) rfl ?_ | refine bodyPost_ret (results_cell_tmp3 rfl _ _ _ rfl rfl rfl rfl (load_hd ZA.out)) rfl ?_
        exact RefOut.no HE.out (by decide) (by first | exact grown_new G.out (grown_put3 (grown_refl _ _) _ _ _) (Nat.le_refl _) | exact G.out)
    · have d1 : (V0 != 4277009103) = true := by simpa using h0
      have FE0 := Lib.hid (FE.out.trans (if_pos h0))
      have HE := Lib.hid (show rdErr ys = 5 from rdErr_of FE0.out (by decide))
      have a0 := ZB.out.c0
      have a1 := ZB.out.c1
      have a2 := ZB.out.c2
      have z0 := ZA.out.c0
      have z1 := ZA.out.c1
      have z2 := ZA.out.c2
      have f0 := ZA.out.fz 0
      have f1 := ZA.out.fz 1
      have f2 := ZA.out.fz 2
      have lta := ZA.out.lt
      go_wp2
      have PA := ZA.out.put ⟨0, 0, 0⟩
      first | refine bodyPost_ret (results_cell_tmp3 rfl _ _ _ rfl rfl rfl rfl (load_hd PA)) rfl ?_ | refine bodyPost_ret (results_cell_tmp3 rfl _ _ _ rfl rfl rfl rfl (load_hd ZA.out)) rfl ?_
      exact RefOut.no HE.out (by decide) (by first | exact grown_new G.out (grown_put3 (grown_refl _ _) _ _ _) (Nat.le_refl _) | exact G.out)
end Go.Proofs.YtdagnkdonlfobaaGreat

/- What the program's Read and the document's tell of any bytes, in one form. No condition but that there are at most 2^47 bytes. -/
namespace Go.Proofs.YtdagnkdonlfobaaGreat
open Go.RowKit
variable {w w' : World}

theorem cmdsN_may {xs : List Int} (hs : Small xs) : ∀ (n p : Nat) (l : List (Int × List Int)), cmdsN xs n p = some l → ∀ d ∈ l, (0 ≤ d.1 ∧ d.1 < 4294967296) ∧ Small d.2 ∧ mayB d.1 d.2 = true
  | 0, _, l, h, d, hd => by
    rw [cmdsN] at h
    injection h with h
    subst h
    cases hd
  | n + 1, p, l, h, d, hd => by
    rw [cmdsN] at h
    by_cases ho : okN xs p
    · rw [if_pos ho] at h
      obtain ⟨l', hl', rfl⟩ := Option.map_eq_some_iff.1 h
      rcases List.mem_cons.1 hd with rfl | hd
      · refine ⟨leN4_bd hs p, fun x hx => hs x (List.mem_of_mem_drop (List.mem_of_mem_take hx)), may_of_ok ?_ ho⟩
        have := ho.2.1
        omega
      · exact cmdsN_may hs n _ l' hl' d hd
    · rw [if_neg ho] at h
      cases h

def readL (ys : List Int) : List (Int × List Int) := if rdErr ys = 0 then (readN ys).getD [] else []
def readH (ys : List Int) : Hd := if rdErr ys = 0 then Hd.of (frOf (ys.take 32)) else ⟨0, 0, 0⟩
def readZ (ys : List Int) : Nat := if rdErr ys = 0 then 32 + sizeF ys else 0
theorem readL_may {ys : List Int} (hs : Small ys) : ∀ d ∈ readL ys, (0 ≤ d.1 ∧ d.1 < 4294967296) ∧ Small d.2 ∧ mayB d.1 d.2 = true := by
  intro d hd
  unfold readL at hd
  split at hd
  · cases h : readN ys with
    | none => rw [h] at hd; cases hd
    | some l =>
      rw [h] at hd
      exact cmdsN_may (fun x hx => hs x (List.mem_of_mem_drop (List.mem_of_mem_take hx))) _ _ l h d hd
  · cases hd
theorem readZ_lt {ys : List Int} (hs : Small ys) : readZ ys < 4294967328 := by
  unfold readZ
  have w5 := wordN_bd (show Small (ys.take 32) from fun x hx => hs x (List.mem_of_mem_take hx)) 5
  have : sizeF ys < 4294967296 := by unfold sizeF; omega
  split <;> omega

theorem Read_all (ys : List Int) (q : Option Addr) (c n : Nat) (h : IsBytes w q c ys) (hn : ys.length = n) (hc : n ≤ c) (hcm : c ≤ 9223372036854775807) (hn47 : n ≤ 140737488355328) (hr : Small ys) :
    Calls Tryz.prog 91 #[.slice q n c] w fun e w' => ∃ pre q' c' base, pre.map Cm.d = readL ys ∧ e = .returned (.tuple #[(readH ys).v, .slice q' pre.length c', .int .i64 (rdErr ys)]) ∧ w.heap.size ≤ base ∧ Got w' base pre (.slice q' pre.length c') ∧ w.grownBy w' none := by
  refine (Read_any ys q c n h hn hc hcm hn47 hr).mono ?_
  rintro e w' ⟨hbad, hgood, hg⟩
  by_cases h0 : rdErr ys = 0
  · obtain ⟨pre, q', c', base, hp, rfl, hb, hG⟩ := hgood h0
    unfold readL readH
    rw [if_pos h0, if_pos h0, hp, h0]
    exact ⟨pre, q', c', base, rfl, rfl, hb, hG, hg⟩
  · rw [hbad h0]
    unfold readL readH
    rw [if_neg h0, if_neg h0]
    exact ⟨[], none, 0, w'.heap.size, rfl, rfl, hg.size, Got.start _ _, hg⟩

theorem RefRead_all (ys : List Int) (q : Option Addr) (c n : Nat) (h : IsBytes w q c ys) (hn : ys.length = n) (hc : n ≤ c) (hcm : c ≤ 9223372036854775807) (hn47 : n ≤ 140737488355328) (hr : Small ys) :
    Calls Tryz.prog 23 #[.slice q n c] w fun e w' => ∃ pre q' c', pre.map Cm.d = readL ys ∧ e = .returned (.tuple #[(readH ys).v, .slice q' pre.length c', .int .i64 (readZ ys), .int .i64 (rdErr ys)]) ∧ IsCms w' q' pre ∧ pre.length ≤ c' ∧ c' ≤ 9223372036854775807 ∧ (∀ m ∈ pre, m.Fits) ∧ w.grownBy w' none := by
  refine (RefRead_any ys q c n h hn hc hcm hn47 hr).mono ?_
  rintro e w' ⟨hbad, hgood, hg⟩
  by_cases h0 : rdErr ys = 0
  · obtain ⟨pre, q', c', hp, rfl, hI, h1, h2, hF⟩ := hgood h0
    unfold readL readH readZ
    rw [if_pos h0, if_pos h0, if_pos h0, hp, h0]
    exact ⟨pre, q', c', rfl, rfl, hI, h1, h2, hF, hg⟩
  · rw [hbad h0]
    unfold readL readH readZ
    rw [if_neg h0, if_neg h0, if_neg h0]
    exact ⟨[], none, 0, rfl, rfl, (fun h => by cases h), by simp, by omega, (fun m h => by cases h), hg⟩

theorem Size_all (ys : List Int) (q : Option Addr) (c n : Nat) (h : IsBytes w q c ys) (hn : ys.length = n) (hc : n ≤ c) (hcm : c ≤ 9223372036854775807) (hn47 : n ≤ 140737488355328) (hr : Small ys) :
    Calls Tryz.prog 57 #[.slice q n c] w fun e w' => e = .returned (.tuple #[.int .u64 (readZ ys), .int .i64 (rdErr ys)]) ∧ w.grownBy w' none := by
  refine (Size_any ys q c n h hn hc hcm hn47 hr).mono ?_
  rintro e w' ⟨rfl, hg⟩
  unfold readZ
  refine ⟨?_, hg⟩
  by_cases h0 : rdErr ys = 0
  · rw [if_pos h0, if_pos h0]; rfl
  · rw [if_neg h0, if_neg h0]; rfl

/-- A byte of a row of one's own is written. -/
theorem OwnM.set {base g n cap : Nat} {xs : List Int} (h : OwnM w base g n cap xs) {i : Nat} (hi : i < n) (x : Int) : OwnM (w.setCell ⟨g, i, none⟩ (.int .u8 x)) base g n cap (xs.set i x) := by
  have hsz := (grown_setCell (i := i) (grown_refl w (some g)) (.int .u8 x)).size
  have hthere : ∀ j, ((w.setCell ⟨g, i, none⟩ (.int .u8 x)).cell? ⟨g, j, none⟩) = if j = i then some (.int .u8 x) else w.cell? ⟨g, j, none⟩ := fun j => by
    by_cases hj : j = i
    · subst hj
      rw [if_pos rfl, World.cell?_setCell_same' _ _ _ (h.there j (by have := h.le; omega))]
    · rw [if_neg hj, World.cell?_setCell_other _ ⟨g, i, none⟩ ⟨g, j, none⟩ _ (fun e => hj (by injection e with _ e _; exact e.symm))]
  refine ⟨h.lo, Nat.lt_of_lt_of_le h.lt hsz, h.le, by rw [List.length_set, h.len], h.most, fun j hj => ?_, fun j hj => ?_, fun j hj => ?_⟩
  · rw [hthere]
    split
    · rfl
    · exact h.there j hj
  · rw [World.frozen?_setCell]; exact h.free j hj
  · rw [hthere]
    by_cases e : j = i
    · subst e
      rw [if_pos rfl]
      simp [List.getD, h.len, hj]
    · rw [if_neg e, h.cell j hj]
      simp [List.getD, Ne.symm e]
end Go.Proofs.YtdagnkdonlfobaaGreat
