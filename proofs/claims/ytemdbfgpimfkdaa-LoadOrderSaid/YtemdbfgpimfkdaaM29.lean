import Derived.Test.YtemdbfgpimfkdaaM25
import Derived.Test.YtemdbfgpimfkdaaM26
import Derived.Test.YtemdbfgpimfkdaaM28
import Derived.BigFrame
import Derived.Deep.RegionHeld3
import Derived.StillTailTactics
import Derived.ProofKit
import Derived.OpenShut
import Derived.ShutString
import Derived.ChangeOld
import Derived.Below
import Derived.ChangeSame
import Derived.Lib.SmallJoins
/- The walk of LoadOrder: segments and dependencies stand in the order of their commands. -/
namespace Go.Proofs.Ytemdbfgpimfkdaa.loadOrder
open Go.RowKit

set_option maxHeartbeats 6400000 in
set_option maxRecDepth 20000 in
theorem walk (a0 : Option Addr) (len0 cap0 : Nat) (z0 : List Int) (w : World) (w0 : IsRow .u8 w a0 len0 cap0 z0) :
    Calls Try.prog 3 #[.slice a0 len0 cap0] w fun e w' => e = .returned (.bool true) ∧ Below w.heap.size w w' := by
  have hcap0 : len0 ≤ cap0 ∧ cap0 ≤ 9223372036854775807 := by
    rcases w0 with ⟨_, rfl, rfl, _⟩ | ⟨_, _, h1, h2, _⟩
    · omega
    · unfold maxLen at h2; omega
  obtain ⟨ys, rfl, hys, hb, _⟩ := w0.bytes
  have K := Lib.hid (fun w : World => known5_any (w := w))
  by_cases hbig : 20000 < ys.length
  · have d1 : decide ((20000 : Int) < ys.length) = true := by simp; omega
    clear hbig hb w0 hys
    go_enter Try.func3, Try.ntmps3
    go_wp2_with fail
    refine (K.out _).mono ?_
    rintro e w' ⟨rfl, hbel⟩
    have B := Lib.hid hbel
    clear hbel
    go_wp2
    go_ret
    exact ⟨rfl, B.out⟩
  have d1 : decide ((20000 : Int) < ys.length) = false := by simp; omega
  have hn47 : ys.length ≤ 140737488355328 := by omega
  have IM := Lib.hid (Image_all (w := w) ys a0 cap0 ys.length hb rfl hcap0.1 hcap0.2 hn47 hys)
  have RD := Lib.hid (fun (w1 : World) (hg : w.grownBy w1 none) => RefRead_all (w := w1) ys a0 cap0 ys.length (hb.kept hg (by simp)) rfl hcap0.1 hcap0.2 hn47 hys)
  have MAY := Lib.hid (readL_may hys)
  have LEN := Lib.hid (readL_len ys)
  have TS := Lib.hid (fun h => @to_step ys h)
  have TA := Lib.hid (to_all ys)
  have T0 := Lib.hid (to_zero ys)
  have RE := Lib.hid (fun h => @img_read ys h)
  have hH : ∃ h, h = imgH ys := ⟨_, rfl⟩
  obtain ⟨h, hhx⟩ := hH
  obtain ⟨s, hsx⟩ : ∃ z, z = imgS ys := ⟨_, rfl⟩
  obtain ⟨E, hE⟩ : ∃ E, E = imgErr ys := ⟨_, rfl⟩
  have SX := Lib.hid (fun (h0 : E = 0) => (show s = imgSt ys by rw [hsx]; unfold imgS; rw [← hE, if_pos h0]))
  rw [← hhx, ← hsx, ← hE] at IM
  have EE := Lib.hid hE
  obtain ⟨⟨h1, h2, h3⟩, hh⟩ : ∃ z, z = readH ys := ⟨_, rfl⟩
  rw [← hh] at RD
  obtain ⟨Z, hz⟩ : ∃ Z, Z = readZ ys := ⟨_, rfl⟩
  rw [← hz] at RD
  unfold Hd.v at RD
  simp only [] at RD
  clear hbig hb w0 hys hhx hsx hE hh hz
  by_cases h0 : E = 0
  rotate_left
  · have hne : (E != 0) = true := by simpa using h0
    clear h0 SX EE TS TA T0 RE
    go_enter Try.func3, Try.ntmps3
    go_wp2_with fail
    refine IM.out.mono ?_
    rintro e w3 ⟨sv, dv, lo, rfl, hL, hg⟩
    have G3 := Lib.hid hg
    obtain ⟨qs, cs, ns, rfl⟩ : ∃ q c n, sv = .slice q n c := by obtain ⟨l, _, a3, _⟩ := hL.segs; obtain ⟨q, c, rfl⟩ := own_slice a3; exact ⟨q, c, _, rfl⟩
    obtain ⟨qd, cd, nd, rfl⟩ : ∃ q c n, dv = .slice q n c := by obtain ⟨q, c, rfl⟩ := own_slice hL.deps; exact ⟨q, c, _, rfl⟩
    have Z3 := Lib.hid (ImgAt.new w3)
    have gX : w3.grownBy ((w3.alloc (.cells #[.int .i64 0, .int .i64 0, .int .u32 0, .string ⟨#[]⟩, .slice none 0 0, .slice none 0 0, .int .u64 0, .int .u64 0, .int .u64 0, .int .u64 0, .int .u64 0, .int .u64 0, .int .u64 0, .int .u64 0, .int .u64 0, .int .u64 0, .int .u64 0, .int .u64 0, .int .u64 0, .int .u64 0, .int .u64 0, .int .u64 0, .int .u64 0, .bool false] 32)).setRow w3.heap.size (imgArr h s (.slice qs ns cs) (.slice qd nd cd))) none := grown_new (grown1 w3 _) (grown_setRow _ _) (Nat.le_refl _)
    have GX := Lib.hid (grown_trans G3.out gX)
    clear hL hg gX
    go_wp2_with (refine wpList_store_img (h := h) (s := s) (sv := .slice qs ns cs) (dv := .slice qd nd cd) rfl _ _ rfl rfl rfl Z3.out ⟨_, _, _, rfl⟩ ⟨_, _, _, rfl⟩ ?_)
    refine (K.out _).mono ?_
    rintro e w' ⟨rfl, hbel⟩
    have B := Lib.hid ((below_grown GX.out (Nat.le_refl _) (by simp)).trans (hbel.mono GX.out.size))
    clear hbel
    go_wp2
    go_ret
    exact ⟨rfl, B.out⟩
  subst h0
  have hsx := SX.out rfl
  obtain ⟨hre, _⟩ := RE.out EE.out.symm
  rw [hre] at RD
  have TS' := Lib.hid (fun (k : Nat) (b : List Int) (hb : (imgBs ys)[k]? = some b) (h8 : 8 ≤ b.length) => TS.out EE.out.symm hb h8)
  rw [← hsx] at TS' TA
  obtain ⟨A, hA⟩ : ∃ A, A = segsTo ys := ⟨_, rfl⟩
  obtain ⟨D, hD⟩ : ∃ D, D = depsTo ys := ⟨_, rfl⟩
  rw [← hA] at TS' TA T0
  rw [← hD] at TS' TA T0
  clear hsx hre SX EE RE TS hA hD
  have TS := TS'
  clear TS'
  go_enter Try.func3, Try.ntmps3
  go_wp2_with fail
  refine IM.out.mono ?_
  rintro e w3 ⟨sv, dv, lo, rfl, hL, hg⟩
  have G3 := Lib.hid hg
  obtain ⟨l, hl, a3, a4⟩ := hL.segs
  have a5 := hL.deps
  obtain ⟨qs, cs, rfl⟩ := own_slice a3
  obtain ⟨qd, cd, rfl⟩ := own_slice a5
  obtain ⟨ns, hns⟩ : ∃ n, n = l.length := ⟨_, rfl⟩
  obtain ⟨nd, hnd⟩ : ∃ n, n = s.deps.length := ⟨_, rfl⟩
  rw [← hns] at a3 ⊢
  rw [← hnd] at a5 ⊢
  have NS := Lib.hid (show s.segs.length = ns by rw [← hl, hns, List.length_map])
  have ND := Lib.hid hnd
  have hm1 := own_most a3
  have hm2 := own_most a5
  have Z3 := Lib.hid (ImgAt.new w3)
  have gX : w3.grownBy ((w3.alloc (.cells #[.int .i64 0, .int .i64 0, .int .u32 0, .string ⟨#[]⟩, .slice none 0 0, .slice none 0 0, .int .u64 0, .int .u64 0, .int .u64 0, .int .u64 0, .int .u64 0, .int .u64 0, .int .u64 0, .int .u64 0, .int .u64 0, .int .u64 0, .int .u64 0, .int .u64 0, .int .u64 0, .int .u64 0, .int .u64 0, .int .u64 0, .int .u64 0, .bool false] 32)).setRow w3.heap.size (imgArr h s (.slice qs ns cs) (.slice qd nd cd))) none := grown_new (grown1 w3 _) (grown_setRow _ _) (Nat.le_refl _)
  have MX := Lib.hid (Z3.out.put (h := h) (s := s) (sv := .slice qs ns cs) (dv := .slice qd nd cd))
  have GX := Lib.hid (grown_trans G3.out gX)
  have AX := Lib.hid (own_grown a3 gX)
  have BX := Lib.hid (fun x hx => own_grown (a4 x hx) gX)
  have CX := Lib.hid (own_grown a5 gX)
  have HL := Lib.hid hl
  clear hL hg gX a3 a4 a5 hl hns hnd
  go_wp2_with (refine wpList_store_img (h := h) (s := s) (sv := .slice qs ns cs) (dv := .slice qd nd cd) rfl _ _ rfl rfl rfl Z3.out ⟨_, _, _, rfl⟩ ⟨_, _, _, rfl⟩ ?_)
  refine (RD.out _ GX.out).mono ?_
  rintro e w4 ⟨pre, qb, cb, hp, rfl, hI, hpc, hcm, hF, hg⟩
  have g5 := grown_trans hg (grown1 w4 (.cells #[.int .i64 h1, .int .i64 h2, .int .u32 h3] 37))
  have M5 := Lib.hid (MX.out.kept g5 (by simp))
  have A5 := Lib.hid (own_grown AX.out g5)
  have B5 := Lib.hid (fun x hx => own_grown (BX.out x hx) g5)
  have C5 := Lib.hid (own_grown CX.out g5)
  have G5 := Lib.hid (grown_trans GX.out g5)
  have I5 := Lib.hid (hI.grown (grown1 w4 (.cells #[.int .i64 h1, .int .i64 h2, .int .u32 h3] 37)))
  have PL := Lib.hid (show imgBs ys = pre.map Cm.bytes by unfold imgBs; rw [← hp, List.map_map]; rfl)
  have PM := Lib.hid (fun m (hm : m ∈ pre) => (show 8 ≤ m.bytes.length from by
    obtain ⟨_, _, h3⟩ := MAY.out m.d (by rw [← hp]; exact List.mem_map_of_mem hm)
    exact (of_decide_eq_true h3).1))
  have PS := Lib.hid (fun m (hm : m ∈ pre) => (show m.bytes.length ≤ ys.length from LEN.out.2 m.d (by rw [← hp]; exact List.mem_map_of_mem hm)))
  have FF := Lib.hid hF
  obtain ⟨N, hN⟩ : ∃ N, N = pre.length := ⟨_, rfl⟩
  rw [← hN] at hpc ⊢
  have HN := Lib.hid hN
  have hNc : N ≤ 9223372036854775807 := by omega
  clear g5 hp hI hg hF hN MX AX BX CX Z3 G3 GX MAY LEN IM RD
  go_upto_region 10 with fail
  obtain ⟨X, hX⟩ : ∃ X, w3.heap.size = X := ⟨_, rfl⟩
  rw [hX] at M5
  simp only [hX]
  obtain ⟨W, hW⟩ : ∃ W, w4.alloc (.cells #[.int .i64 h1, .int .i64 h2, .int .u32 h3] 37) = W := ⟨_, rfl⟩
  rw [hW] at M5 A5 B5 C5 G5 I5 ⊢
  clear hW hX
  go_wp2
  go_loopw [9, 10, 11] (fun sg dp i wr => ∃ k : Nat, k ≤ N ∧ sg = .int .i64 (A k : Nat) ∧ dp = .int .i64 (D k : Nat) ∧ i = .int .i64 k ∧ W.grownBy wr none) (fun _ _ i _ => N - (intOf i).toNat)
  case atStart => exact ⟨0, Nat.zero_le _, by rw [T0.out.1]; rfl, by rw [T0.out.2]; rfl, rfl, grown_refl _ _⟩
  case round =>
    obtain ⟨k, hk, rfl, rfl, rfl, hg⟩ := hrel
    have GR := Lib.hid hg
    have x4 := (M5.out.kept hg (by simp)).c 4 (.slice qs ns cs) rfl
    have x5 := (M5.out.kept hg (by simp)).c 5 (.slice qd nd cd) rfl
    have xl := lt_of_block (M5.out.kept hg (by simp))
    obtain ⟨Ak, hAk⟩ : ∃ x, x = A k := ⟨_, rfl⟩
    obtain ⟨Dk, hDk⟩ : ∃ x, x = D k := ⟨_, rfl⟩
    rw [← hAk, ← hDk]
    have EA := Lib.hid hAk
    have ED := Lib.hid hDk
    clear hAk hDk
    by_cases hlt : k < N
    · obtain ⟨m, hm⟩ : ∃ m, pre[k]? = some m := ⟨_, List.getElem?_eq_getElem (by rw [← HN.out]; exact hlt)⟩
      have hmem := List.mem_of_getElem? hm
      obtain ⟨b0, o0, rfl, hc⟩ := (I5.out.grown hg) (by rw [← HN.out]; omega)
      obtain ⟨⟨c0, c1⟩, hbm⟩ := hc k m hm
      have hfit := FF.out m hmem
      have h8 := PM.out m hmem
      have hms := PS.out m hmem
      obtain ⟨hns, hway⟩ := TS.out k m.bytes (by rw [PL.out, List.getElem?_map, hm]; rfl) h8
      have CD := Lib.hid (cmd5_any (w := wr) m.bytes hbm rfl hfit.len hfit.cap hfit.bytes hns)
      have HB := Lib.hid hbm
      have FT := Lib.hid hfit
      have MS := Lib.hid (show m.bytes.length ≤ 140737488355328 by omega)
      have dl : decide ((k : Int) < (N : Int)) = true := by simp; omega
      have hkc : (k : Int) < (cb : Int) := by omega
      clear hm hmem hc hbm hfit h8 hms hns hg
      obtain ⟨cm, hcm'⟩ : ∃ z, z = cmdAt m.bytes := ⟨_, rfl⟩
      rw [← hcm'] at CD hway
      have EC := Lib.hid hcm'
      have DP := Lib.hid (fun w : World => dep_any (w := w) cm)
      clear hcm'
      rcases hway with ⟨hc25, hk0, hse, hx, ha, hd⟩ | ⟨hc25, hk0, hne, hx, ha, hd⟩ | ⟨hc25, hk0, ha, hd⟩
      · subst hc25
        rw [hk0] at DP
        have HA := Lib.hid (show A (k + 1) = Ak + 1 by rw [ha, EA.out])
        have HD := Lib.hid (show D (k + 1) = Dk by rw [hd, ED.out])
        rw [← EA.out] at hx
        have hAn : Ak < ns := by
          rcases Nat.lt_or_ge Ak ns with h | h
          · exact h
          · rw [List.getElem?_eq_none (by rw [NS.out]; exact h)] at hx; cases hx
        obtain ⟨⟨sg, q2, c2⟩, hs⟩ : ∃ z, l[Ak]? = some z := ⟨_, List.getElem?_eq_getElem (by rw [← List.length_map (f := Sg.seg), HL.out, NS.out]; exact hAn)⟩
        obtain rfl : sg = segOf m.bytes := by
          have e1 : (l.map Sg.seg)[Ak]? = some sg := by rw [List.getElem?_map, hs]; rfl
          rw [HL.out, hx] at e1
          exact (Option.some.inj e1).symm
        obtain ⟨g1, rfl, u0, u1, u2, u3, u4, u5, u6⟩ := sg_cells (own_grown A5.out GR.out) hs
        simp only [Sg.v] at u0 u1 u2 u3 u4 u5 u6
        have SG := Lib.hid (refSegment_any (w := wr) m.bytes HB.out rfl FT.out.len FT.out.cap MS.out FT.out.bytes hse)
        have SM := Lib.hid (fun (X : World) (hX : wr.grownBy X none) {lo' : Nat} {q1 : Option Addr} {c1 : Nat} (h2 : X.ownsRow lo' 76 6 (.slice q1 (segOf m.bytes).secs.length c1) (segOf m.bytes).secs.length ((segOf m.bytes).secs.flatMap secCs)) => sameSegment_any (w := X) (segOf m.bytes) rfl (own_grown (B5.out _ (List.mem_of_getElem? hs)) (grown_trans GR.out hX)) h2)
        obtain ⟨⟨nm, ad, sz, of, fs, pr, sl⟩, hsg⟩ : ∃ z, z = segOf m.bytes := ⟨_, rfl⟩
        rw [← hsg] at SG SM u0 u1 u2 u3 u4 u5 u6
        unfold segV segArr at SG SM
        simp only [] at SG SM u0 u1 u2 u3 u4 u5 u6
        have q3 : decide ((ns : Int) ≤ (Ak : Int)) = false := by simp; omega
        have q3n : decide (ns ≤ Ak) = false := by simp; omega
        have q4 : (Ak : Int) < (ns : Int) := by omega
        have q5 : IntKind.i64.wrap ((Ak : Int) + 1) = ((Ak + 1 : Nat) : Int) := IntWalk.i64_in _ (by omega)
        clear hk0 ha hd hx hse hsg hs
        go_wp2_with (first | (go_at_call 7; refine CD.out.mono ?_; rintro e w2 ⟨rfl, rfl⟩))
        refine SG.out.mono ?_
        rintro e w6 ⟨q1, N1, c1, base, rfl, rfl, hown, hbs, hg⟩
        have g7 := grown_trans hg (grown1 w6 (.cells #[.string (strOfNums nm), .int .u64 ad, .int .u64 sz, .int .u64 of, .int .u64 fs, .int .i64 pr, .slice q1 sl.length c1] 47))
        have TT := Lib.hid (show SegAt (w6.alloc (.cells #[.string (strOfNums nm), .int .u64 ad, .int .u64 sz, .int .u64 of, .int .u64 fs, .int .i64 pr, .slice q1 sl.length c1] 47)) w6.heap.size ⟨nm, ad, sz, of, fs, pr, sl⟩ (.slice q1 sl.length c1) from heap_alloc_new w6 _)
        have OW := Lib.hid (own_grown hown (grown1 w6 (.cells #[.string (strOfNums nm), .int .u64 ad, .int .u64 sz, .int .u64 of, .int .u64 fs, .int .i64 pr, .slice q1 sl.length c1] 47)))
        have G7 := Lib.hid g7
        have x4' := grown_cell g7 x4
        have u0' := grown_cell g7 u0
        have u1' := grown_cell g7 u1
        have u2' := grown_cell g7 u2
        have u3' := grown_cell g7 u3
        have u4' := grown_cell g7 u4
        have u5' := grown_cell g7 u5
        have u6' := grown_cell g7 u6
        clear x4 x5 xl u0 u1 u2 u3 u4 u5 u6 hg g7 hown hbs
        go_upto_region 16 with fail
        obtain ⟨W7, hW7⟩ : ∃ W7, w6.alloc (.cells #[.string (strOfNums nm), .int .u64 ad, .int .u64 sz, .int .u64 of, .int .u64 fs, .int .i64 pr, .slice q1 sl.length c1] 47) = W7 := ⟨_, rfl⟩
        obtain ⟨y, hy⟩ : ∃ y, w6.heap.size = y := ⟨_, rfl⟩
        rw [hW7] at TT OW G7 x4' u0' u1' u2' u3' u4' u5' u6' ⊢
        rw [hy] at TT
        simp only [hy]
        clear hW7 hy
        have gD : W7.grownBy W7.drew none := grown_drewN (grown_refl W7 none) 1
        obtain ⟨v0', v1', v2', v3', v4', v5', v6'⟩ := TT.out.c
        simp only [] at v0' v1' v2' v3' v4' v5'
        have SM' := Lib.hid (fun (Y : World) (hY : W7.grownBy Y none) => SM.out Y (grown_trans G7.out hY) (own_grown OW.out hY))
        have k_x4 := grown_cell gD x4'
        have k_u0 := grown_cell gD u0'
        have k_u1 := grown_cell gD u1'
        have k_u2 := grown_cell gD u2'
        have k_u3 := grown_cell gD u3'
        have k_u4 := grown_cell gD u4'
        have k_u5 := grown_cell gD u5'
        have k_u6 := grown_cell gD u6'
        have k_v0 := grown_cell gD v0'
        have k_v1 := grown_cell gD v1'
        have k_v2 := grown_cell gD v2'
        have k_v3 := grown_cell gD v3'
        have k_v4 := grown_cell gD v4'
        have k_v5 := grown_cell gD v5'
        have k_v6 := grown_cell gD v6'
        clear x4' u0' u1' u2' u3' u4' u5' u6' v0' v1' v2' v3' v4' v5' v6' SM OW TT
        go_region_held3 (fun X' => X'.cell? ⟨X, 4, none⟩ = some (.slice (some ⟨g1, 0, none⟩) ns cs) ∧ X'.cell? ⟨g1, Ak * 7, none⟩ = some (.string (strOfNums nm)) ∧ X'.cell? ⟨g1, Ak * 7 + 1, none⟩ = some (.int .u64 ad) ∧ X'.cell? ⟨g1, Ak * 7 + 2, none⟩ = some (.int .u64 sz) ∧ X'.cell? ⟨g1, Ak * 7 + 3, none⟩ = some (.int .u64 of) ∧ X'.cell? ⟨g1, Ak * 7 + 4, none⟩ = some (.int .u64 fs) ∧ X'.cell? ⟨g1, Ak * 7 + 5, none⟩ = some (.int .i64 pr) ∧ X'.cell? ⟨g1, Ak * 7 + 6, none⟩ = some (.slice q2 sl.length c2) ∧ X'.cell? ⟨y, 0, none⟩ = some (.string (strOfNums nm)) ∧ X'.cell? ⟨y, 1, none⟩ = some (.int .u64 ad) ∧ X'.cell? ⟨y, 2, none⟩ = some (.int .u64 sz) ∧ X'.cell? ⟨y, 3, none⟩ = some (.int .u64 of) ∧ X'.cell? ⟨y, 4, none⟩ = some (.int .u64 fs) ∧ X'.cell? ⟨y, 5, none⟩ = some (.int .i64 pr) ∧ X'.cell? ⟨y, 6, none⟩ = some (.slice q1 sl.length c1))
          (first | exact ⟨k_x4, k_u0, k_u1, k_u2, k_u3, k_u4, k_u5, k_u6, k_v0, k_v1, k_v2, k_v3, k_v4, k_v5, k_v6⟩ | exact ⟨grown_cell hg1 k_x4, grown_cell hg1 k_u0, grown_cell hg1 k_u1, grown_cell hg1 k_u2, grown_cell hg1 k_u3, grown_cell hg1 k_u4, grown_cell hg1 k_u5, grown_cell hg1 k_u6, grown_cell hg1 k_v0, grown_cell hg1 k_v1, grown_cell hg1 k_v2, grown_cell hg1 k_v3, grown_cell hg1 k_v4, grown_cell hg1 k_v5, grown_cell hg1 k_v6⟩)
          (first
            | (go_simp; go_at_call 9; refine (SM'.out _ gD).mono ?_; rintro e x1 ⟨rfl, hg1⟩))
        have GN := Lib.hid (grown_trans (grown_trans (grown_trans GR.out G7.out) gD) hg1)
        clear hg1 gD k_x4 k_u0 k_u1 k_u2 k_u3 k_u4 k_u5 k_u6 k_v0 k_v1 k_v2 k_v3 k_v4 k_v5 k_v6
        go_wp2_with (go_at_call 10; refine (DP.out _).mono ?_; rintro e w2 ⟨rfl, rfl⟩)
        refine ⟨⟨k + 1, hlt, by rw [HA.out]; rfl, by rw [HD.out], by go_num, GN.out⟩, by simp [intOf]; omega⟩
      · have q1 : (cm == 25) = false := by simpa using hc25
        obtain ⟨kk, hkk⟩ : ∃ z, z = depKind cm := ⟨_, rfl⟩
        rw [← hkk] at DP hk0 hx
        have q2 : (kk != 0) = true := by simpa using hk0
        have HA := Lib.hid (show A (k + 1) = Ak by rw [ha, EA.out])
        have HD := Lib.hid (show D (k + 1) = Dk + 1 by rw [hd, ED.out])
        rw [← ED.out] at hx
        have hDn : Dk < nd := by
          rcases Nat.lt_or_ge Dk nd with h | h
          · exact h
          · rw [List.getElem?_eq_none (by rw [← ND.out]; exact h)] at hx; cases hx
        obtain ⟨g, rfl, u0, u1⟩ := dep_cells (own_grown C5.out GR.out) hx
        simp only [] at u0 u1
        have NM := Lib.hid (refName_any (w := wr) m.bytes HB.out rfl FT.out.len FT.out.cap FT.out.bytes hne)
        obtain ⟨nm, hnm⟩ : ∃ z, z = nameOf m.bytes := ⟨_, rfl⟩
        rw [← hnm] at NM u0
        have q3 : decide ((nd : Int) ≤ (Dk : Int)) = false := by simp; omega
        have q4 : (Dk : Int) < (nd : Int) := by omega
        have q5 : IntKind.i64.wrap ((Dk : Int) + 1) = ((Dk + 1 : Nat) : Int) := IntWalk.i64_in _ (by omega)
        clear hc25 hk0 ha hd hx hne hkk hnm x4
        go_wp2_with (first | (go_at_call 7; refine CD.out.mono ?_; rintro e w2 ⟨rfl, rfl⟩) | (go_at_call 10; refine (DP.out _).mono ?_; rintro e w2 ⟨rfl, rfl⟩) | (go_at_call 11; refine NM.out.mono ?_; rintro e w2 ⟨rfl, rfl⟩))
        refine ⟨⟨k + 1, hlt, by rw [HA.out], by rw [HD.out]; rfl, by go_num, GR.out⟩, by simp [intOf]; omega⟩
      · have q1 : (cm == 25) = false := by simpa using hc25
        rw [hk0] at DP
        have HA := Lib.hid (show A (k + 1) = Ak by rw [ha, EA.out])
        have HD := Lib.hid (show D (k + 1) = Dk by rw [hd, ED.out])
        clear hc25 hk0 ha hd x4 x5 xl
        go_wp2_with (first | (go_at_call 7; refine CD.out.mono ?_; rintro e w2 ⟨rfl, rfl⟩) | (go_at_call 10; refine (DP.out _).mono ?_; rintro e w2 ⟨rfl, rfl⟩))
        refine ⟨⟨k + 1, hlt, by rw [HA.out], by rw [HD.out], by go_num, GR.out⟩, by simp [intOf]; omega⟩
    · have hkn : k = N := by omega
      subst hkn
      have hA2 : Ak = ns := by rw [EA.out, HN.out, ← NS.out, ← TA.out.1, PL.out, List.length_map]
      have hD2 : Dk = nd := by rw [ED.out, HN.out, ND.out, ← TA.out.2, PL.out, List.length_map]
      subst hA2 hD2
      have dl : decide ((k : Int) < (k : Int)) = false := by simp
      have GF := Lib.hid (grown_trans G5.out hg)
      clear hg
      go_wp2_with fail
      refine (K.out _).mono ?_
      rintro e w' ⟨rfl, hbel⟩
      have B9 := Lib.hid ((below_grown GF.out (Nat.le_refl _) (by simp)).trans (hbel.mono GF.out.size))
      clear hbel
      go_wp2
      go_ret
      exact ⟨rfl, B9.out⟩
end Go.Proofs.Ytemdbfgpimfkdaa.loadOrder

/- 'LoadOrder': for every input the call returns true, and what was handed in reads as it did. The form's own reach is the one condition. -/
namespace Go.Proofs.Ytemdbfgpimfkdaa.loadOrder
open Go.ChangeShapes Go.WideShapes Go.ChangeAt Go.RowKit
open Go.ChangeMaps (open_string shut_string)

theorem own : ownKnob Try.prog.godebug = none := by kernel_rfl
theorem laidOut : laidOutB Try.prog = true := by kernel_rfl

set_option maxRecDepth 100000 in
theorem lifted (os : Os) (started : os.Started) (H : Type) (enc : TypeId × Value → H) :
    ReturnsInHanded {} Try.checked os 3 .any (Rows.loadOrderSpec.pre6 enc Try.prog Try.f3 Rows.loadOrderRow.domain false) (Rows.loadOrderSpec.post enc Try.prog Try.f3 false true false false) := by
  refine returnsInHanded_of_change (C := Try.checked) own started (by kernel_rfl) Try.func3
    (ChangeSpec.witness6 (enc := enc) (C := Try.checked) false ⟨#[], #[.slice none 0 0], []⟩ 8 (by kernel_rfl) (by kernel_rfl) (by kernel_rfl) (by kernel_rfl)) ?_
  intro W base args ds gs before hval0 hW hcnd _
  have hval : ∀ (j : Nat) t v, Try.f3.params[j]? = some t → args[j]? = some v → Value.okWide Try.prog W .any base t v := hval0
  have hW' := hW
  obtain ⟨p, q, hA0, hV, rfl, hfz, hnd⟩ := hW
  have hA : DataW.TrodAll enc Try.prog W 0 (fun _ => true) true Try.f3.params.toList args.toList ds p := hA0
  rw [Try.params3] at hA hval
  obtain ⟨v0, vs0, d0, ds0, p0, q0, hargs, rfl, rfl, h0, r0⟩ := trodAll_cons hA
  obtain ⟨rfl, rfl, rfl⟩ := trodAll_nil r0
  obtain rfl : args = #[v0] := by cases args; simp_all
  obtain ⟨rfl, rfl⟩ := trodVars_none hV
  obtain ⟨a0, len0, cap0, rfl⟩ := okWide_slice Try.underlying22 (hval 0 22 v0 rfl rfl)
  have k0 := h0
  have lt0 : ∀ x ∈ p0, x.block < W.heap.size := by obtain ⟨m, hm⟩ := k0; exact DataW.trod_lt m _ _ _ hm
  obtain ⟨z0, w0⟩ : ∃ zs, IsRow .u8 W a0 len0 cap0 zs := by
    obtain ⟨fuel, hf⟩ := h0
    rcases open_ints Try.underlying22 Try.underlying5 (by kernel_rfl) hf with ⟨hcs, _⟩ | ⟨x, l, c, zs, hcs, _, hl, hm, hz, _, hcell, hwz⟩
    · simp [Value.cells] at hcs
      obtain ⟨rfl, rfl, rfl⟩ := hcs
      exact ⟨[], .inl ⟨rfl, rfl, rfl, rfl⟩⟩
    · simp [Value.cells] at hcs
      obtain ⟨rfl, rfl, rfl⟩ := hcs
      exact ⟨zs, .inr ⟨_, rfl, hl, hm, by simpa using hz, hcell, hwz⟩⟩
  clear hA0 hval0
  refine (walk a0 len0 cap0 z0 W w0).mono fun e W' ⟨he, bel⟩ => ?_
  subst he
  exact ⟨_, rfl, _, _, _, [], _, [], hW', trodAll_mk1 (shut_bool Try.underlying4 _), (trodAll_cons_mk (Below.trod laidOut (by kernel_rfl) (of_decide_eq_true (by kernel_rfl)) k0 bel lt0) trodAll_mk0), rfl, bel.frame _, fun h => by cases h⟩

theorem proved : Rows.LoadOrderSaid :=
  OpenClaim.holds_of_wide 3 Try.f3 rfl rfl rfl rfl rfl rfl rfl ⟨rfl, rfl, rfl, rfl, rfl⟩ rfl rfl rfl rfl rfl (by kernel_rfl) Try.func3 (by kernel_rfl)
    (of_decide_eq_true (by kernel_rfl)) (by unfold Func.isWrapper; first | (rw [if_pos (by decide +kernel)]; kernel_rfl) | (rw [if_neg (by decide +kernel)]; exact ⟨rfl, rfl⟩))
    (fun os started H enc _ => lifted os started H enc)
end Go.Proofs.Ytemdbfgpimfkdaa.loadOrder
