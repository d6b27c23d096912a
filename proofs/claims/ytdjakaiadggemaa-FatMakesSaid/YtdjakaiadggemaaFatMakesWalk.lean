/- The walk of FatMakes: the fat file of parts, or why there is none; its slices are its parts, in order. -/
import Derived.Test.YtdjakaiadggemaaMkRead
import Derived.Test.YtdjakaiadggemaaKnown3
import Derived.Test.YtdjakaiadggemaaRefAll
import Derived.Deep.QuietTactic
import Derived.BigQuiet
namespace Go.Proofs.Ytdjakaiadggemaa.fatMakes
open Go.RowKit

theorem fewB_le {l : List Mb} {most : Int} (h : fewB l most = true) : (∀ m ∈ l, m.bytes.length ≤ 3000) ∧ (l.length : Int) ≤ most := by
  unfold fewB at h
  rw [Bool.and_eq_true] at h
  refine ⟨fun m hm => ?_, by simpa using h.2⟩
  have := List.all_eq_true.1 h.1 m hm
  simpa using this
/-- What is taken of a made file. -/
theorem sliceN_made {wide : Bool} {l : List Mb} {n : Nat} (h : Made wide l n) (arch : Int) :
    sliceN (fileN wide l n) arch = ((pickN (spots (e0N wide n) l n) arch).1.off, (pickN (spots (e0N wide n) l n) arch).1.size, (pickN (spots (e0N wide n) l n) arch).2) := by
  unfold sliceN
  by_cases ha : arch ≠ 1 ∧ arch ≠ 2
  · rw [if_pos ha, pickN_arg ha.1 ha.2]; rfl
  · rw [if_neg ha, h.slices, if_neg (by simp)]

/-- A part of the file: the slice, and its bytes. -/
theorem cut_at {w : World} {b o c so k : Nat} {F ys : List Int} (h : IsBytes w (some ⟨b, o, none⟩) c F) (hFc : F.length ≤ c) (hk : ys.length = k) (hend : so + k ≤ F.length) (hcut : (F.drop so).take k = ys) :
    ∃ V : Option Addr, (∀ W, (Instr.slice 22 (.slice (some ⟨b, o, none⟩) F.length c) (some (.int .u64 (so : Int))) (some (.int .u64 ((so : Int) + (k : Int)))) none).run Try.prog W = .ok (.slice V k (c - so)) W) ∧ IsBytes w V (c - so) ys := by
  by_cases hc : c = so
  · refine ⟨some ⟨b, o, none⟩, fun W => ?_, ?_⟩
    · rw [run_slice_lh (P := Try.prog) W 22 (some ⟨b, o, none⟩) F.length c (by kernel_rfl) .u64 .u64 (so : Int) ((so : Int) + (k : Int)) (by omega) (by omega) (by omega)]
      have hs : ((sizeOf (Try.prog.elem 22)).run Try.prog W) = .ok 1 W := by kernel_rfl
      rw [hs]
      simp only [Result.andThen, sliced]
      rw [if_pos (by omega), show ((so : Int) + (k : Int)).toNat - (so : Int).toNat = k by omega, show ((so : Int)).toNat = so by omega]
    · have : ys = [] := List.eq_nil_of_length_eq_zero (by omega)
      rw [this]
      exact IsBytes.empty
  · refine ⟨some ⟨b, o + so, none⟩, fun W => ?_, ?_⟩
    · rw [run_slice_lh (P := Try.prog) W 22 (some ⟨b, o, none⟩) F.length c (by kernel_rfl) .u64 .u64 (so : Int) ((so : Int) + (k : Int)) (by omega) (by omega) (by omega)]
      have hs : ((sizeOf (Try.prog.elem 22)).run Try.prog W) = .ok 1 W := by kernel_rfl
      rw [hs]
      simp only [Result.andThen, sliced]
      rw [if_neg (by omega), show ((so : Int) + (k : Int)).toNat - (so : Int).toNat = k by omega, show ((so : Int)).toNat = so by omega]
      simp only [Option.map_some, add_flat, Nat.mul_one]
    · refine IsBytes.mk_at fun i hi => ?_
      obtain ⟨b', o', e, hx⟩ := h.2 (by omega)
      injection e with e
      injection e with e1 e2
      subst e1 e2
      rw [Nat.add_assoc, hx (so + i) (by omega), ← hcut]
      simp [List.getD, List.getElem?_drop, show i < k by omega]

set_option maxHeartbeats 1600000 in
set_option maxRecDepth 20000 in
theorem walk (a0 : Bool) (a1 : Option Addr) (len1 cap1 : Nat) (a2 : Int) (w : World)
    (w1 : ∃ l : List Mb, l.length = len1 ∧ IsMbs w a1 l ∧ (∀ m ∈ l, m.Fits) ∧ len1 ≤ cap1 ∧ cap1 ≤ 9223372036854775807) (_w2 : (Lit.int .i64 a2).wf = true) :
    Calls Try.prog 5 #[.bool a0, .slice a1 len1 cap1, .int .i64 a2] w fun e w' => e = .returned (.bool true) ∧ Below w.heap.size w w' := by
  obtain ⟨l, hn, hmb, hfit, hlc, hcm⟩ := w1
  have K := Lib.hid (fun w : World => known_any (w := w))
  have FE := Lib.hid (few_any (w := w) l len1 hn a1 cap1 hmb hlc hcm hfit 40)
  by_cases hfew : fewB l 40 = true
  · rw [hfew] at FE
    obtain ⟨h3, h6⟩ := fewB_le hfew
    have MA := Lib.hid (fun (w1 : World) (hg : w.grownBy w1 none) => make_any (w := w1) a0 l len1 hn (by omega) a1 cap1 (hmb.grown hg) hfit hlc hcm)
    have MK := Lib.hid (fun (w1 : World) (hg : w.grownBy w1 none) => refmake_any (w := w1) a0 l len1 hn (by omega) a1 cap1 (hmb.grown hg) hfit (fun m hm => by have := h3 m hm; omega))
    have SM := Lib.hid (makeN_small a0 hfit)
    obtain ⟨hm1, hm2, hm3, hm4, hm5⟩ := makeN_len a0 l
    have MD := Lib.hid (makeN_made (wide := a0) (l := l) hfit)
    obtain ⟨⟨F, er⟩, hr⟩ : ∃ r, r = makeN a0 l := ⟨_, rfl⟩
    rw [← hr] at MK MA SM hm1 hm2 hm3 hm4 hm5 MD
    simp only [] at SM hm1 hm2 hm3 hm4 hm5 MD
    have MB := Lib.hid hmb
    have HN := Lib.hid hn
    have H3 := Lib.hid h3
    have M2 := Lib.hid hm2
    have M3 := Lib.hid hm3
    clear hfew hr h3 h6 hfit hmb hm2 hm3
    by_cases her : er = 0
    · subst her
      have h8 := M2.out rfl
      obtain ⟨hFile, made⟩ := MD.out rfl
      rw [hn] at hFile made
      have hSI := sliceN_made made a2
      have hSL := made.slices
      rw [← hFile] at hSI hSL
      have PT := Lib.hid (fun i (hi : i < len1) m (hm : l[i]? = some m) => (by
        obtain ⟨p1, p2, p3, p4, p5, p6⟩ := made.place hi hm
        have p7 := made.part hi hm
        have he := e0N_bd a0 len1 made.few
        rw [← hFile] at p5 p7
        obtain ⟨so, hso⟩ := Int.eq_ofNat_of_zero_le (show 0 ≤ (spot (endN (e0N a0 len1) (l.take i)) m).off by omega)
        rw [hso] at p4 p7
        refine ⟨so, ?_, by omega, p7⟩
        rw [p1, ← hso]; rfl : ∃ so : Nat, (spots (e0N a0 len1) l len1)[i]? = some ⟨m.cpu, m.sub, so, m.bytes.length, m.align⟩ ∧ so + m.bytes.length ≤ F.length ∧ (F.drop so).take m.bytes.length = m.bytes))
      have hSf : ∀ s ∈ spots (e0N a0 len1) l len1, s.Fits := fun s hs => by
        have := (slicesN_fits SM.out).1 s (by rw [hSL]; exact hs)
        exact this
      have hSn := spots_len (e0N a0 len1) l len1
      have hfw := made.few
      obtain ⟨S, hS⟩ : ∃ S, S = spots (e0N a0 len1) l len1 := ⟨_, rfl⟩
      rw [← hS] at hSI hSL hSf hSn PT
      have SA := Lib.hid (fun (w1 : World) (q : Option Addr) (c : Nat) (h : IsBytes w1 q c F) (hc : F.length ≤ c) (hcm : c ≤ 9223372036854775807) => slices_any (w := w1) F q c F.length h rfl hc hcm SM.out)
      have TA := Lib.hid (fun (w1 : World) (q : Option Addr) (c : Nat) (h : IsBytes w1 q c F) (hc : F.length ≤ c) (hcm : c ≤ 9223372036854775807) => slice_any (w := w1) F q c F.length h rfl hc hcm SM.out a2)
      have PB := Lib.hid (fun (w1 : World) (q : Option Addr) (c : Nat) (h : IsSl w1 q S) => pick2_any (w := w1) S (by rw [hSn]; omega) hSf q c h a2)
      rw [hSL] at SA
      rw [hSI] at TA
      rw [hSn] at PB
      obtain ⟨⟨sp, se⟩, hp⟩ : ∃ z, z = pickN S a2 := ⟨_, rfl⟩
      rw [← hp] at TA PB
      simp only [] at TA PB
      have SN := Lib.hid hSn
      clear hp hSI hSL hS hFile made hSf hSn MD M2 M3 H3
      clear hn
      go_enter Try.func5, Try.ntmps5
      go_wp2_with fail
      refine FE.out.mono ?_
      rintro e w1 ⟨rfl, hg⟩
      have G1 := Lib.hid hg
      clear hg
      go_wp2_with fail
      refine (MA.out _ G1.out).mono ?_
      rintro e w2 ⟨⟨q, c, rfl, hb, hFc, hc⟩, hg⟩
      have B2 := Lib.hid hb
      have G2 := Lib.hid (grown_trans G1.out hg)
      clear hb hg
      simp only [] at B2 hFc hc ⊢
      go_wp2_with fail
      refine (MK.out _ G2.out).mono ?_
      rintro e w3 ⟨⟨q', c', rfl, hb, _, _⟩, hg⟩
      have B3 := Lib.hid (B2.out.kept hg (by simp))
      have G3 := Lib.hid (grown_trans G2.out hg)
      have cv1 := B3.out.text rfl
      have cv2 := hb.text rfl
      clear hb hg
      simp only [] at cv1 cv2 ⊢
      go_wp2_with fail
      refine (SA.out _ _ _ B3.out hFc hc).mono ?_
      rintro e w4 ⟨⟨qa, ca, rfl, hsl, hca, _⟩, hg⟩
      obtain ⟨b, o, rfl, _⟩ := B3.out.2 (by omega)
      have B4 := Lib.hid (B3.out.kept hg (by simp))
      have G4 := Lib.hid (grown_trans G3.out hg)
      have L4 := Lib.hid hsl
      have hz := SN.out
      clear hg hsl cv1 cv2
      simp only [hz] at L4 hca ⊢
      clear hz
      go_wp2
      go_loopw [13, 14] (fun i _ wr => ∃ k : Nat, k ≤ len1 ∧ i = .int .i64 k ∧ w4.grownBy wr none) (fun i _ _ => len1 - (intOf i).toNat)
      case atStart => exact ⟨0, Nat.zero_le _, rfl, grown_refl _ _⟩
      case round =>
        obtain ⟨k, hk, rfl, hgr⟩ := hrel
        by_cases hlt : k < len1
        · obtain ⟨m, hm⟩ : ∃ m, l[k]? = some m := ⟨_, List.getElem?_eq_getElem (by rw [HN.out]; exact hlt)⟩
          obtain ⟨so, hs, hend, hcut⟩ := PT.out k hlt m hm
          obtain ⟨bs, os, rfl, hcl⟩ := (L4.out.grown hgr) (by rw [SN.out]; omega)
          obtain ⟨c0, c1, c2, c3, c4⟩ := hcl k _ hs
          obtain ⟨bm, om, rfl, hclm⟩ := (MB.out.grown (grown_trans G4.out hgr)) (by rw [HN.out]; omega)
          obtain ⟨⟨y0, y1, y2, y3⟩, hmb⟩ := hclm k m hm
          have GR := Lib.hid hgr
          have BF := Lib.hid (B4.out.kept hgr (by simp))
          simp only [] at c0 c1 c2 c3 c4
          have gX := grown1 wr (.cells #[.int .u32 m.cpu, .int .u32 m.sub, .int .u64 (so : Int), .int .u64 (m.bytes.length : Int), .int .i64 m.align] 42)
          have SX := Lib.hid (SlAt.new wr ⟨m.cpu, m.sub, so, m.bytes.length, m.align⟩)
          have GX := Lib.hid gX
          have x0 := Lib.hid (And.intro (grown_cell gX y0) (And.intro (grown_cell gX y1) (And.intro (grown_cell gX y2) (grown_cell gX y3))))
          obtain ⟨V, hV, hVb⟩ := cut_at BF.out hFc rfl hend hcut
          have MX := Lib.hid (hmb.kept gX (by simp))
          have VX := Lib.hid (hVb.kept gX (by simp))
          have HV := Lib.hid hV
          clear hcl hclm hs hm hgr hmb y0 y1 y2 y3 gX hVb hV
          go_wp2
          generalize hX : wr.alloc _ = X at *
          have hS := SX.out
          have z0 := hS.c0
          have z1 := hS.c1
          have z2 := hS.c2
          have z3 := hS.c3
          have z4 := hS.c4
          obtain ⟨y0, y1, y2, y3⟩ := x0.out
          have hV := HV.out
          have t1 := fun n => (MX.out.drewN n).text rfl
          have t2 := fun n => (VX.out.drewN n).text rfl
          have u1 : ((F.length : Int) % 18446744073709551616) = F.length := by omega
          have u2 : IntKind.u64.wrap (F.length : Int) = F.length := by rw [IntKind.wrap_u64]; exact u1
          have u3 : (((so : Int) + m.bytes.length) % 18446744073709551616) = (so : Int) + m.bytes.length := by omega
          have u4 : IntKind.u64.wrap ((so : Int) + m.bytes.length) = (so : Int) + m.bytes.length := by rw [IntKind.wrap_u64]; exact u3
          have u5 : decide ((F.length : Int) < (so : Int) + m.bytes.length) = false := by simp; omega
          clear hS
          go_quiet (fail)
          have E := Lib.hid (grown_trans GR.out GX.out)
          clear z0 z1 z2 z3 z4 y0 y1 y2 y3 hV t1 t2 u1 u2 u3 u4 u5
          go_wp2
          go_roundw
          case rel => exact ⟨k + 1, by omega, by go_num, grown_drewN E.out _⟩
          case measure => simp [intOf]; omega
        · have hkn : k = len1 := by omega
          subst hkn
          have BF := Lib.hid (B4.out.kept hgr (by simp))
          have LF := Lib.hid (L4.out.grown hgr)
          have G5 := Lib.hid (grown_trans G4.out hgr)
          unfold Sl.v at PB
          clear hgr
          go_wp2_with fail
          refine (TA.out _ _ _ BF.out hFc hc).mono ?_
          rintro e w5 ⟨rfl, hg⟩
          have S5 := Lib.hid (SpAt.new w5 sp.off sp.size)
          have hgn := grown_trans hg (grown1 w5 (.cells #[.int .u64 sp.off, .int .u64 sp.size] 33))
          have G6 := Lib.hid (grown_trans G5.out hgn)
          have L6 := Lib.hid (LF.out.grown hgn)
          clear hg hgn
          go_wp2_with fail
          refine (PB.out _ _ _ L6.out).mono ?_
          rintro e w6 ⟨rfl, hg⟩
          have hn1 := grown1 w6 (.cells #[.int .u32 sp.cpu, .int .u32 sp.sub, .int .u64 sp.off, .int .u64 sp.size, .int .i64 sp.align] 42)
          have hz := (S5.out.grown hg).grown hn1
          have hs := SlAt.new w6 sp
          have z0 := hz.c0
          have z1 := hz.c1
          have s2 := hs.c2
          have s3 := hs.c3
          have hlt1 := lt_of_block (S5.out.grown hg)
          have G7 := Lib.hid (grown_trans G6.out (grown_trans hg hn1))
          clear hg hn1 hz hs
          go_wp2_with fail
          refine (K.out _).mono ?_
          rintro e w8 ⟨rfl, hbk⟩
          have B := Lib.hid ((below_grown G7.out (Nat.le_refl _) (by simp)).trans (hbk.mono G7.out.size))
          clear hbk z0 z1 s2 s3
          go_wp2
          go_ret
          exact ⟨rfl, B.out⟩
    · have hF : F = [] := M3.out her
      subst hF
      have hne : (er == 0) = false := by simpa using her
      have hne2 : (er != 0) = true := by simpa using her
      clear hn
      go_enter Try.func5, Try.ntmps5
      go_wp2_with fail
      refine FE.out.mono ?_
      rintro e w1 ⟨rfl, hg⟩
      have G1 := Lib.hid hg
      clear hg
      go_wp2_with fail
      refine (MA.out _ G1.out).mono ?_
      rintro e w2 ⟨⟨q, c, rfl, hb, _, _⟩, hg⟩
      have B2 := Lib.hid hb
      have G2 := Lib.hid (grown_trans G1.out hg)
      clear hb hg
      simp only [] at B2 ⊢
      go_wp2_with fail
      refine (MK.out _ G2.out).mono ?_
      rintro e w3 ⟨⟨q', c', rfl, hb, _, _⟩, hg⟩
      have B3 := Lib.hid (B2.out.kept hg (by simp))
      have G3 := Lib.hid (grown_trans G2.out hg)
      have cv1 := B3.out.text rfl
      have cv2 := hb.text rfl
      clear hb hg
      simp only [List.length_nil] at cv1 cv2 ⊢
      go_wp2_with fail
      refine (K.out _).mono ?_
      rintro e w8 ⟨rfl, hbk⟩
      have B := Lib.hid ((below_grown G3.out (Nat.le_refl _) (by simp)).trans (hbk.mono G3.out.size))
      clear hbk cv1 cv2
      go_wp2
      go_ret
      exact ⟨rfl, B.out⟩
  · have hfew' : fewB l 40 = false := by simpa using hfew
    rw [hfew'] at FE
    clear hfew hfew'
    go_enter Try.func5, Try.ntmps5
    go_wp2_with fail
    refine FE.out.mono ?_
    rintro e w1 ⟨rfl, hg⟩
    have G := Lib.hid hg
    clear hg
    go_wp2_with fail
    refine (K.out _).mono ?_
    rintro e w2 ⟨rfl, hbk⟩
    have B := Lib.hid ((below_grown G.out (Nat.le_refl _) (by simp)).trans (hbk.mono G.out.size))
    clear hbk
    go_wp2
    go_ret
    exact ⟨rfl, B.out⟩
end Go.Proofs.Ytdjakaiadggemaa.fatMakes
