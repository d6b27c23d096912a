import Derived.Test.YtdagnkdonlfobaaGreatM22
/- The document's segment where a command is none: the errors. No condition but that it has at most 2^47 bytes. -/
namespace Go.Proofs.YtdagnkdonlfobaaGreat
open Go.RowKit
variable {w w' : World}

theorem zeroName : strOfNums Seg.zero.name = ⟨#[]⟩ := rfl
theorem SegAt.clear {g : Nat} {s : Seg} {sv : Value} (h : SegAt w g s sv) : SegAt (((((((w.setCell ⟨g, 0, none⟩ (.string ⟨#[]⟩)).setCell ⟨g, 1, none⟩ (.int .u64 0)).setCell ⟨g, 2, none⟩ (.int .u64 0)).setCell ⟨g, 3, none⟩ (.int .u64 0)).setCell ⟨g, 4, none⟩ (.int .u64 0)).setCell ⟨g, 5, none⟩ (.int .i64 0)).setCell ⟨g, 6, none⟩ (.slice none 0 0)) g Seg.zero (.slice none 0 0) := by
  have k := h.put Seg.zero (.slice none 0 0)
  rw [zeroName] at k
  exact k
def ErrSeg (ys : List Int) : Prop := segErr ys ≠ 0 ∧ segErr ys = (if 7 < numAt ys 60 4 then 9 else if oddSec ys (manyAt ys) = true then 9 else if 64 < manyAt ys then 11 else 0)
set_option maxHeartbeats 6400000 in
set_option maxRecDepth 20000 in
theorem refSegment_bad (ys : List Int) {q : Option Addr} {c n : Nat} (h : IsBytes w q c ys) (hn : ys.length = n) (hc : n ≤ c) (hcm : c ≤ 9223372036854775807) (hn47 : n ≤ 140737488355328) (hr : Small ys) (hs : ¬ shortB ys) (hcmd : cmdAt ys = 25) (hmany : manyAt ys ≤ (ys.length - 72) / 80) (hE : ErrSeg ys) :
    Calls Tryz.prog 104 #[.slice q n c] w fun e w' => e = .returned (.tuple #[segV Seg.zero (.slice none 0 0), .int .i64 (segErr ys)]) ∧ w.grownBy w' none := by
  have h72 : 72 ≤ n := by
    have h1 : ¬ ((ys.length : Int) < leastN (cmdAt ys)) := fun h => hs (.inr h)
    rw [hcmd, show leastN 25 = 72 by decide] at h1
    omega
  obtain ⟨b, o, hq, hcell⟩ := h.2 (by omega)
  have HC := Lib.hid hcell
  have QE := Lib.hid hq
  have CD := Lib.hid (fun (w1 : World) (hg : w.grownBy w1 none) => cmd5_any (w := w1) ys (h.kept hg (by simp)) hn hc hcm hr hs)
  rw [hcmd] at CD
  have AT := Lib.hid (fun (w1 : World) (hg : w.grownBy w1 none) (p m : Nat) (hm : 0 < m ∧ m ≤ 8) (hp : p + m ≤ n) => numat_any (w := w1) ys (h.kept hg (by simp)) hn hc hcm hr p m hm hp)
  have FD := Lib.hid (fun (w1 : World) (hg : w.grownBy w1 none) (p : Nat) (hp : p + 16 ≤ n) => field5_any (w := w1) ys (h.kept hg (by simp)) hn hc hcm hr p hp)
  have HB := Lib.hid h
  have HR := Lib.hid hr
  have HN := Lib.hid hn
  have EF := Lib.hid hE
  obtain ⟨⟨nm, ad, sz, of, fs, pr, sl⟩, hseg⟩ : ∃ s, s = segOf ys := ⟨_, rfl⟩
  have SE := Lib.hid hseg
  have epr : numAt ys 60 4 = pr := (congrArg Seg.prot SE.out).symm
  have hpb := numAt_lt hr 60
  have hmb := numAt_lt hr 64
  rw [epr] at hpb
  obtain ⟨M, hM⟩ : ∃ M, M = manyAt ys := ⟨_, rfl⟩
  have hMi : numAt ys 64 4 = M := by rw [hM]; unfold manyAt; omega
  have ME := Lib.hid hM
  rw [← hM, hn] at hmany
  have NM := Lib.hid (show fieldAt ys 8 = nm from (congrArg Seg.name SE.out).symm)
  have F1 := Lib.hid (fun w1 hg => (by have := FD.out w1 hg 8 (by omega); rw [NM.out] at this; exact this : Calls Tryz.prog 143 #[.slice q n c, .int .i64 8] w1 fun e w' => e = .returned (.string (strOfNums nm)) ∧ w1 = w'))
  have A1 := Lib.hid (fun w1 hg => (by have := AT.out w1 hg 24 8 ⟨by decide, by decide⟩ (by omega); rw [show numAt ys 24 8 = ad from (congrArg Seg.addr SE.out).symm] at this; exact this : Calls Tryz.prog 103 #[.slice q n c, .int .i64 24, .int .i64 8] w1 fun e w' => e = .returned (.int .u64 ad) ∧ w1 = w'))
  have A2 := Lib.hid (fun w1 hg => (by have := AT.out w1 hg 32 8 ⟨by decide, by decide⟩ (by omega); rw [show numAt ys 32 8 = sz from (congrArg Seg.size SE.out).symm] at this; exact this : Calls Tryz.prog 103 #[.slice q n c, .int .i64 32, .int .i64 8] w1 fun e w' => e = .returned (.int .u64 sz) ∧ w1 = w'))
  have A3 := Lib.hid (fun w1 hg => (by have := AT.out w1 hg 40 8 ⟨by decide, by decide⟩ (by omega); rw [show numAt ys 40 8 = of from (congrArg Seg.off SE.out).symm] at this; exact this : Calls Tryz.prog 103 #[.slice q n c, .int .i64 40, .int .i64 8] w1 fun e w' => e = .returned (.int .u64 of) ∧ w1 = w'))
  have A4 := Lib.hid (fun w1 hg => (by have := AT.out w1 hg 48 8 ⟨by decide, by decide⟩ (by omega); rw [show numAt ys 48 8 = fs from (congrArg Seg.fsize SE.out).symm] at this; exact this : Calls Tryz.prog 103 #[.slice q n c, .int .i64 48, .int .i64 8] w1 fun e w' => e = .returned (.int .u64 fs) ∧ w1 = w'))
  have A5 := Lib.hid (fun w1 hg => (by have := AT.out w1 hg 60 4 ⟨by decide, by decide⟩ (by omega); rw [epr] at this; exact this : Calls Tryz.prog 103 #[.slice q n c, .int .i64 60, .int .i64 4] w1 fun e w' => e = .returned (.int .u64 pr) ∧ w1 = w'))
  have A6 := Lib.hid (fun w1 hg => (by have := AT.out w1 hg 64 4 ⟨by decide, by decide⟩ (by omega); rw [hMi] at this; exact this : Calls Tryz.prog 103 #[.slice q n c, .int .i64 64, .int .i64 4] w1 fun e w' => e = .returned (.int .u64 M) ∧ w1 = w'))
  have g0 := grown1 w (.cells #[.string ⟨#[]⟩, .int .u64 0, .int .u64 0, .int .u64 0, .int .u64 0, .int .i64 0, .slice none 0 0] 58)
  have G := Lib.hid g0
  have Z0 := Lib.hid (show SegAt (w.alloc (.cells #[.string ⟨#[]⟩, .int .u64 0, .int .u64 0, .int .u64 0, .int .u64 0, .int .i64 0, .slice none 0 0] 58)) w.heap.size Seg.zero (.slice none 0 0) from heap_alloc_new w _)
  have hprw : IntKind.i64.wrap pr = pr := IntWalk.i64_in _ (by omega)
  have m1 : ((n : Int) - 72) % 18446744073709551616 = (n : Int) - 72 := by omega
  have m2 : IntKind.u64.wrap ((n : Int) - 72) = (n : Int) - 72 := by rw [IntKind.wrap_u64]; exact m1
  obtain ⟨R, hR⟩ : ∃ R, R = (n - 72) / 80 := ⟨_, rfl⟩
  have m3 : ((n : Int) - 72) / 80 = (R : Int) := by omega
  have m4 : ((n : Int) - 72).tdiv 80 = (R : Int) := by rw [Int.tdiv_eq_ediv_of_nonneg (by omega)]; omega
  have d1 : decide (R < M) = false := by simp; omega
  obtain ⟨P, hP⟩ : ∃ P : Bool, P = decide (7 < pr) := ⟨_, rfl⟩
  have d2 : decide (7 < pr) = P := hP.symm
  have d2' : decide ((7 : Int) < pr) = P := hP.symm
  have PE7 := Lib.hid (show P = decide (7 < numAt ys 60 4) by rw [epr]; exact hP)
  obtain ⟨BB, hBB⟩ : ∃ BB : Nat → Bool, BB = fun k => P || oddSec ys k := ⟨_, rfl⟩
  have B0 := Lib.hid (show BB 0 = P by rw [hBB]; simp [oddSec, secsN])
  have BN := Lib.hid (fun k (b : Bool) (h : b = (BB k || decide ((secAt ys (72 + 80 * k)).seg ≠ fieldAt ys 8))) => (show BB (k + 1) = b from by rw [h, hBB]; simp only [oddSec]; rw [secsN_succ, List.any_append, Bool.or_assoc]; simp))
  have BF := Lib.hid (show BB M = (P || oddSec ys (manyAt ys)) by rw [hBB, hM])
  have hRn : 72 + 80 * M ≤ n := by omega
  have mw : IntKind.i64.wrap (M : Int) = (M : Int) := IntWalk.i64_in _ (by omega)
  clear h hr hn hcell hq hs hcmd hmany hE hP hBB hseg hM hMi g0 hmb hR AT FD
  go_enter Tryz.func104, Tryz.ntmps104
  go_upto_region 7 with (first
    | (go_at_call 77; refine (CD.out _ G.out).mono ?_; rintro e w3 ⟨rfl, rfl⟩)
    | (go_at_call 143; refine (F1.out _ G.out).mono ?_; rintro e w3 ⟨rfl, rfl⟩)
    | (go_at_call 103; (first | with_reducible refine (A1.out _ G.out).mono ?_ | with_reducible refine (A2.out _ G.out).mono ?_ | with_reducible refine (A3.out _ G.out).mono ?_ | with_reducible refine (A4.out _ G.out).mono ?_ | with_reducible refine (A5.out _ G.out).mono ?_); rintro e w3 ⟨rfl, rfl⟩))
  have g7 := grown1 (w.alloc (.cells #[.string ⟨#[]⟩, .int .u64 0, .int .u64 0, .int .u64 0, .int .u64 0, .int .i64 0, .slice none 0 0] 58)) (.cells #[.string (strOfNums nm), .int .u64 ad, .int .u64 sz, .int .u64 of, .int .u64 fs, .int .i64 pr, .slice none 0 0] 58)
  have G2 := Lib.hid (grown_trans G.out g7)
  have ZA := Lib.hid (Z0.out.kept g7 (by simp))
  have SA := Lib.hid (show SegAt ((w.alloc (.cells #[.string ⟨#[]⟩, .int .u64 0, .int .u64 0, .int .u64 0, .int .u64 0, .int .i64 0, .slice none 0 0] 58)).alloc (.cells #[.string (strOfNums nm), .int .u64 ad, .int .u64 sz, .int .u64 of, .int .u64 fs, .int .i64 pr, .slice none 0 0] 58)) (w.heap.size + 1) ⟨nm, ad, sz, of, fs, pr, []⟩ (.slice none 0 0) from by have := heap_alloc_new (w.alloc (.cells #[.string ⟨#[]⟩, .int .u64 0, .int .u64 0, .int .u64 0, .int .u64 0, .int .i64 0, .slice none 0 0] 58)) (.cells #[.string (strOfNums nm), .int .u64 ad, .int .u64 sz, .int .u64 of, .int .u64 fs, .int .i64 pr, .slice none 0 0] 58); rw [World.size_alloc] at this; exact this)
  obtain ⟨wy, hwy⟩ : ∃ wy, (w.alloc (.cells #[.string ⟨#[]⟩, .int .u64 0, .int .u64 0, .int .u64 0, .int .u64 0, .int .i64 0, .slice none 0 0] 58)).alloc (.cells #[.string (strOfNums nm), .int .u64 ad, .int .u64 sz, .int .u64 of, .int .u64 fs, .int .i64 pr, .slice none 0 0] 58) = wy := ⟨_, rfl⟩
  have WS := Lib.hid (show wy.heap.size = w.heap.size + 2 by rw [← hwy, World.size_alloc, World.size_alloc])
  rw [hwy] at G2 SA ZA ⊢
  clear hwy g7 G Z0 F1 A1 A2 A3 A4 CD
  go_upto_region 11 with (go_at_call 103; (first | with_reducible refine (A5.out _ G2.out).mono ?_ | with_reducible refine (A6.out _ G2.out).mono ?_); rintro e w3 ⟨rfl, rfl⟩)
  clear A5 A6
  go_wp2
  go_loopw [8, 9, 10, 11] (fun bd i _ _ wr => ∃ (k : Nat) (q' : Option Addr) (c' : Nat), k ≤ M ∧ bd = .bool (BB k) ∧ i = .int .i64 k ∧ SegAt wr (w.heap.size + 1) ⟨nm, ad, sz, of, fs, pr, []⟩ (.slice q' k c') ∧ SegAt wr w.heap.size Seg.zero (.slice none 0 0) ∧ wr.ownsRow (w.heap.size + 2) 148 6 (.slice q' k c') k ((secsN ys k).flatMap secCs) ∧ w.grownBy wr none ∧ w.heap.size + 2 ≤ wr.heap.size) (fun _ i _ _ _ => M - (intOf i).toNat)
  case atStart => exact ⟨0, none, 0, Nat.zero_le _, by rw [B0.out], rfl, SA.out, ZA.out, World.ownsRow_nil _ _ _ _, G2.out, by rw [WS.out]; exact Nat.le_refl _⟩
  case round =>
    obtain ⟨k, q', c', hk, rfl, rfl, hsa, hza, hown, hgr, hBs⟩ := hrel
    have SA' := Lib.hid hsa
    have ZA' := Lib.hid hza
    have G := Lib.hid hgr
    have OW := Lib.hid hown
    clear hsa hza hgr hown SA ZA
    have SA := SA'
    have ZA := ZA'
    clear SA' ZA'
    obtain ⟨bk, hbk⟩ : ∃ b, b = BB k := ⟨_, rfl⟩
    rw [← hbk]
    have EB := Lib.hid hbk
    clear hbk
    by_cases hlt : k < M
    · obtain ⟨A, hA⟩ : ∃ A, A = 72 + 80 * k := ⟨_, rfl⟩
      obtain ⟨B, hB⟩ : ∃ B, B = 80 * k := ⟨_, rfl⟩
      obtain ⟨D, hD⟩ : ∃ D, D = A + 80 := ⟨_, rfl⟩
      have hAn : A + 80 ≤ n := by omega
      have a1 : (80 : Int) * (k : Int) = (B : Int) := by omega
      have a2 : (72 : Int) + (B : Int) = (A : Int) := by omega
      have a3 : (152 : Int) + (B : Int) = (D : Int) := by omega
      have a4 : IntKind.i64.wrap (B : Int) = (B : Int) := IntWalk.i64_in _ (by omega)
      have a5 : IntKind.i64.wrap (A : Int) = (A : Int) := IntWalk.i64_in _ (by omega)
      have a6 : IntKind.i64.wrap (D : Int) = (D : Int) := IntWalk.i64_in _ (by omega)
      have i1 : (D : Int) ≤ (c : Int) := by omega
      have i2 : (A : Int) ≤ (D : Int) := by omega
      have i3 : ¬ c = A := by omega
      have i4 : D - A = 80 := by omega
      have HA := Lib.hid hA
      have HB := Lib.hid hB
      have HD := Lib.hid hD
      clear hA hB hD
      have hq := QE.out
      subst hq
      obtain ⟨⟨sn, ss, sa, sb, so, sk⟩, hX⟩ : ∃ s, s = secAt ys A := ⟨_, rfl⟩
      have XE := Lib.hid hX
      have hsub : IsBytes w (some ⟨b, o + A, none⟩) (c - A) ((ys.drop A).take 80) := IsBytes.mk_at fun i hi => by
        have hi' : i < 80 := by rw [List.length_take] at hi; omega
        rw [Nat.add_assoc, HC.out (A + i) (by have := HN.out; omega)]
        simp [List.getD, List.getElem?_drop, hi']
      have hsl : ((ys.drop A).take 80).length = 80 := by have := HN.out; rw [List.length_take, List.length_drop]; omega
      have hsr : Small ((ys.drop A).take 80) := fun x hx => HR.out x (List.mem_of_mem_drop (List.mem_of_mem_take hx))
      have B1 := Lib.hid (fun w1 (hg : w.grownBy w1 none) => (by have := field5_any (w := w1) _ (hsub.kept hg (by simp)) hsl (show 80 ≤ c - A by omega) (by omega) hsr 0 (by decide); rw [sub_field ys A 0 (by decide), Nat.add_zero, show fieldAt ys A = sn from (congrArg Sec.name XE.out).symm] at this; exact this : Calls Tryz.prog 143 #[.slice (some ⟨b, o + A, none⟩) 80 (c - A), .int .i64 0] w1 fun e w' => e = .returned (.string (strOfNums sn)) ∧ w1 = w'))
      have B2 := Lib.hid (fun w1 (hg : w.grownBy w1 none) => (by have := field5_any (w := w1) _ (hsub.kept hg (by simp)) hsl (show 80 ≤ c - A by omega) (by omega) hsr 16 (by decide); rw [sub_field ys A 16 (by decide), show fieldAt ys (A + 16) = ss from (congrArg Sec.seg XE.out).symm] at this; exact this : Calls Tryz.prog 143 #[.slice (some ⟨b, o + A, none⟩) 80 (c - A), .int .i64 16] w1 fun e w' => e = .returned (.string (strOfNums ss)) ∧ w1 = w'))
      have B3 := Lib.hid (fun w1 (hg : w.grownBy w1 none) => (by have := numat_any (w := w1) _ (hsub.kept hg (by simp)) hsl (show 80 ≤ c - A by omega) (by omega) hsr 32 8 ⟨by decide, by decide⟩ (by decide); rw [sub_num ys A 32 8 (by decide), show numAt ys (A + 32) 8 = sa from (congrArg Sec.addr XE.out).symm] at this; exact this : Calls Tryz.prog 103 #[.slice (some ⟨b, o + A, none⟩) 80 (c - A), .int .i64 32, .int .i64 8] w1 fun e w' => e = .returned (.int .u64 sa) ∧ w1 = w'))
      have B4 := Lib.hid (fun w1 (hg : w.grownBy w1 none) => (by have := numat_any (w := w1) _ (hsub.kept hg (by simp)) hsl (show 80 ≤ c - A by omega) (by omega) hsr 40 8 ⟨by decide, by decide⟩ (by decide); rw [sub_num ys A 40 8 (by decide), show numAt ys (A + 40) 8 = sb from (congrArg Sec.size XE.out).symm] at this; exact this : Calls Tryz.prog 103 #[.slice (some ⟨b, o + A, none⟩) 80 (c - A), .int .i64 40, .int .i64 8] w1 fun e w' => e = .returned (.int .u64 sb) ∧ w1 = w'))
      have B5 := Lib.hid (fun w1 (hg : w.grownBy w1 none) => (by have := numat_any (w := w1) _ (hsub.kept hg (by simp)) hsl (show 80 ≤ c - A by omega) (by omega) hsr 48 4 ⟨by decide, by decide⟩ (by decide); rw [sub_num ys A 48 4 (by decide), show numAt ys (A + 48) 4 = so from (congrArg Sec.off XE.out).symm] at this; exact this : Calls Tryz.prog 103 #[.slice (some ⟨b, o + A, none⟩) 80 (c - A), .int .i64 48, .int .i64 4] w1 fun e w' => e = .returned (.int .u64 so) ∧ w1 = w'))
      have hAl : A + 64 < ys.length := by have := HN.out; omega
      have hsk : numAt ys (A + 64) 1 = ys.getD (A + 64) 0 := by
        unfold numAt
        have h1 : (ys.drop (A + 64)).take 1 = [ys[A + 64]] := by rw [List.drop_eq_getElem_cons hAl]; rfl
        rw [h1]
        simp [List.getD, hAl, leN]
      have hkb : w.cell? ⟨b, o + (A + 64), none⟩ = some (.int .u8 sk) := by
        rw [HC.out (A + 64) hAl, ← hsk, show numAt ys (A + 64) 1 = sk from (congrArg Sec.kind XE.out).symm]
      have hsk8 : 0 ≤ sk ∧ sk < 256 := by
        rw [show sk = numAt ys (A + 64) 1 from congrArg Sec.kind XE.out, hsk]
        have := HR.out (ys.getD (A + 64) 0) (by rw [List.getD_eq_getElem?_getD, List.getElem?_eq_getElem hAl]; exact List.getElem_mem hAl)
        exact this
      have skw : IntKind.i64.wrap sk = sk := IntWalk.i64_in _ (by omega)
      have hk0 : wr.cell? ⟨b, o + A + 64, none⟩ = some (.int .u8 sk) := by rw [Nat.add_assoc]; exact G.out.cell hkb (by simp)
      have GD := Lib.hid (show w.grownBy wr.drew none from grown_drewN G.out 1)
      have hk1 : wr.drew.cell? ⟨b, o + A + 64, none⟩ = some (.int .u8 sk) := hk0
      have ga := grown_drewN (grown1 wr (.cells #[.string ⟨#[]⟩, .string ⟨#[]⟩, .int .u64 0, .int .u64 0, .int .u64 0, .int .i64 0] 148)) 1
      have GA := Lib.hid (show w.grownBy (wr.alloc (.cells #[.string ⟨#[]⟩, .string ⟨#[]⟩, .int .u64 0, .int .u64 0, .int .u64 0, .int .i64 0] 148)).drew none from grown_trans G.out ga)
      have hk2 : (wr.alloc (.cells #[.string ⟨#[]⟩, .string ⟨#[]⟩, .int .u64 0, .int .u64 0, .int .u64 0, .int .i64 0] 148)).drew.cell? ⟨b, o + A + 64, none⟩ = some (.int .u8 sk) := grown_cell ga hk0
      have gx := grown_drewN (grown1 wr (.cells #[.string (strOfNums sn), .string (strOfNums ss), .int .u64 sa, .int .u64 sb, .int .u64 so, .int .i64 sk] 148)) 1
      have hk3 : (wr.alloc (.cells #[.string (strOfNums sn), .string (strOfNums ss), .int .u64 sa, .int .u64 sb, .int .u64 so, .int .i64 sk] 148)).drew.cell? ⟨b, o + A + 64, none⟩ = some (.int .u8 sk) := grown_cell gx hk0
      clear ga gx
      clear hsub hsl hsr hAl hsk hkb hsk8 hX
      go_upto_region 15 with fail
      clear hk0
      go_region_held3 (fun X => X.cell? ⟨b, o + A + 64, none⟩ = some (.int .u8 sk))
        (first | exact hk1 | exact hk2 | exact hk3)
        (first
          | (go_at_call 143; (first | with_reducible refine (B1.out _ GD.out).mono ?_ | with_reducible refine (B1.out _ GA.out).mono ?_ | with_reducible refine (B2.out _ GD.out).mono ?_ | with_reducible refine (B2.out _ GA.out).mono ?_); rintro e w3 ⟨rfl, rfl⟩)
          | (go_at_call 103; (first | with_reducible refine (B3.out _ GD.out).mono ?_ | with_reducible refine (B3.out _ GA.out).mono ?_ | with_reducible refine (B4.out _ GD.out).mono ?_ | with_reducible refine (B4.out _ GA.out).mono ?_ | with_reducible refine (B5.out _ GD.out).mono ?_ | with_reducible refine (B5.out _ GA.out).mono ?_); rintro e w3 ⟨rfl, rfl⟩))
      all_goals
        clear hk1 hk2 hk3 B1 B2 B3 B4 B5 GD GA
        have g3 : wr.grownBy (wr.alloc (.cells #[.string (strOfNums sn), .string (strOfNums ss), .int .u64 sa, .int .u64 sb, .int .u64 so, .int .i64 sk] 148)).drew none := grown_drewN (grown1 wr (.cells #[.string (strOfNums sn), .string (strOfNums ss), .int .u64 sa, .int .u64 sb, .int .u64 so, .int .i64 sk] 148)) 1
        have SX := Lib.hid (show SecAt (wr.alloc (.cells #[.string (strOfNums sn), .string (strOfNums ss), .int .u64 sa, .int .u64 sb, .int .u64 so, .int .i64 sk] 148)).drew wr.heap.size ⟨sn, ss, sa, sb, so, sk⟩ from heap_alloc_new wr _)
        have SA' := Lib.hid (SA.out.kept g3 (by simp))
        have ZA' := Lib.hid (ZA.out.kept g3 (by simp))
        have G' := Lib.hid (grown_trans G.out g3)
        have OW' := Lib.hid (own_grown OW.out g3)
        have hB2 : w.heap.size + 2 ≤ (wr.alloc (.cells #[.string (strOfNums sn), .string (strOfNums ss), .int .u64 sa, .int .u64 sb, .int .u64 so, .int .i64 sk] 148)).drew.heap.size := by have := g3.size; omega
        obtain ⟨w3, hw3⟩ : ∃ w3, (wr.alloc (.cells #[.string (strOfNums sn), .string (strOfNums ss), .int .u64 sa, .int .u64 sb, .int .u64 so, .int .i64 sk] 148)).drew = w3 := ⟨_, rfl⟩
        obtain ⟨x, hx⟩ : ∃ x, wr.heap.size = x := ⟨_, rfl⟩
        rw [hw3] at SA' ZA' G' OW' SX hB2 ⊢
        rw [hx] at SX
        simp only [hx]
        clear hw3 hx g3 SA ZA G OW
        have SA := SA'
        have ZA := ZA'
        have G := G'
        have OW := OW'
        clear SA' ZA' G' OW'
        have hss : ss = fieldAt ys (A + 16) := congrArg Sec.seg XE.out
        have te := text_eq (xs := ss) (ys := nm) (by rw [hss]; exact small_field HR.out _) (by rw [← NM.out]; exact small_field HR.out _)
        have hnx := BN.out k (bk || decide (ss ≠ nm)) (by rw [← EB.out, ← HA.out, ← XE.out, NM.out])
        have hcase : ∃ nb, BB (k + 1) = nb ∧ ((bk = true ∧ nb = true) ∨ (bk = false ∧ ss = nm ∧ nb = false) ∨ (bk = false ∧ decide (ss = nm) = false ∧ nb = true)) := by
          refine ⟨_, hnx, ?_⟩
          cases bk
          · by_cases h : ss = nm
            · exact .inr (.inl ⟨rfl, h, by simp [h]⟩)
            · exact .inr (.inr ⟨rfl, decide_eq_false h, by simp [h]⟩)
          · exact .inl ⟨rfl, rfl⟩
        obtain ⟨nb, hnb, hcase⟩ := hcase
        have NB := Lib.hid hnb
        clear hnb hnx hss
        obtain ⟨c0, c1, c2, c3, c4, c5⟩ := SX.out.c
        obtain ⟨s0, s1, s2, s3, s4, s5, s6⟩ := SA.out.c
        simp only [] at c0 c1 c2 c3 c4 c5 s0 s1 s2 s3 s4 s5
        have sf := SA.out.fz 6
        have sl' := SA.out.lt
        rcases hcase with hc | hc | hc
        · obtain ⟨rfl, rfl⟩ := hc; clear te
          go_wp2_with (at_builtin; refine wp_append_st secType rfl _ _ rfl _ k _ rfl (own_grown OW.out (grown1 w3 (.cells #[.string (strOfNums sn), .string (strOfNums ss), .int .u64 sa, .int .u64 sb, .int .u64 so, .int .i64 sk] 148))) (secCs ⟨sn, ss, sa, sb, so, sk⟩) rfl w3.heap.size rfl (heap_alloc_new w3 _) (secCs_one _) (by omega) (by decide) ?_ ?_)
          · rw [World.size_alloc]; omega
          intro v' w4 ho hg4
          obtain ⟨q4, c4', rfl⟩ := own_slice ho
          have hlo := fun (g' : Nat) (e : (Value.slice q' k c').ownBlock = some g') => (OW.out.lt g' e).1
          have R4 := Lib.hid (show w4.ownsRow (w.heap.size + 2) 148 6 (.slice q4 (k + 1) c4') (k + 1) ((secsN ys (k + 1)).flatMap secCs) by
            rw [secsN_succ, List.flatMap_append, ← HA.out, ← XE.out]
            exact ho)
          have g3 := grown1 w3 (.cells #[.string (strOfNums sn), .string (strOfNums ss), .int .u64 sa, .int .u64 sb, .int .u64 so, .int .i64 sk] 148)
          have SA' := Lib.hid ((SA.out.kept g3 (by simp)).kept hg4 (fun e => by have := hlo _ e; omega))
          have ZA' := Lib.hid ((ZA.out.kept g3 (by simp)).kept hg4 (fun e => by have := hlo _ e; omega))
          have G' := Lib.hid (grown_own (grown_trans G.out g3) hg4 hlo (by omega))
          have hB4 : w.heap.size + 2 ≤ w4.heap.size := by have h1 := hg4.size; rw [World.size_alloc] at h1; omega
          clear g3 ho hg4 SX c0 c1 c2 c3 c4 c5 s0 s1 s2 s3 s4 s5 s6 sf sl' SA ZA G
          have s6 := SA'.out.c.2.2.2.2.2.2
          have sf := SA'.out.fz 6
          have sl' := SA'.out.lt
          go_wp2
          have gS := grown_setCell (i := 6) (grown_refl w4 (some (w.heap.size + 1))) (.slice q4 (k + 1) c4')
          have hno : some w.heap.size ≠ some (w.heap.size + 1) := by intro e; injection e with e; omega
          exact ⟨⟨k + 1, q4, c4', hlt, by rw [NB.out], by go_num, SA'.out.secs _, ZA'.out.kept gS (fun e => hno e.symm), R4.out.kept gS (.inr (fun e => by have := (R4.out.lt _ e).1; omega)), grown_new G'.out gS (by omega), Nat.le_trans hB4 gS.size⟩, by simp [intOf]; omega⟩
        · obtain ⟨rfl, rfl, rfl⟩ := hc; clear te
          go_wp2_with (at_builtin; refine wp_append_st secType rfl _ _ rfl _ k _ rfl (own_grown OW.out (grown1 w3 (.cells #[.string (strOfNums sn), .string (strOfNums ss), .int .u64 sa, .int .u64 sb, .int .u64 so, .int .i64 sk] 148))) (secCs ⟨sn, ss, sa, sb, so, sk⟩) rfl w3.heap.size rfl (heap_alloc_new w3 _) (secCs_one _) (by omega) (by decide) ?_ ?_)
          · rw [World.size_alloc]; omega
          intro v' w4 ho hg4
          obtain ⟨q4, c4', rfl⟩ := own_slice ho
          have hlo := fun (g' : Nat) (e : (Value.slice q' k c').ownBlock = some g') => (OW.out.lt g' e).1
          have R4 := Lib.hid (show w4.ownsRow (w.heap.size + 2) 148 6 (.slice q4 (k + 1) c4') (k + 1) ((secsN ys (k + 1)).flatMap secCs) by
            rw [secsN_succ, List.flatMap_append, ← HA.out, ← XE.out]
            exact ho)
          have g3 := grown1 w3 (.cells #[.string (strOfNums sn), .string (strOfNums ss), .int .u64 sa, .int .u64 sb, .int .u64 so, .int .i64 sk] 148)
          have SA' := Lib.hid ((SA.out.kept g3 (by simp)).kept hg4 (fun e => by have := hlo _ e; omega))
          have ZA' := Lib.hid ((ZA.out.kept g3 (by simp)).kept hg4 (fun e => by have := hlo _ e; omega))
          have G' := Lib.hid (grown_own (grown_trans G.out g3) hg4 hlo (by omega))
          have hB4 : w.heap.size + 2 ≤ w4.heap.size := by have h1 := hg4.size; rw [World.size_alloc] at h1; omega
          clear g3 ho hg4 SX c0 c1 c2 c3 c4 c5 s0 s1 s2 s3 s4 s5 s6 sf sl' SA ZA G
          have s6 := SA'.out.c.2.2.2.2.2.2
          have sf := SA'.out.fz 6
          have sl' := SA'.out.lt
          go_wp2
          have gS := grown_setCell (i := 6) (grown_refl w4 (some (w.heap.size + 1))) (.slice q4 (k + 1) c4')
          have hno : some w.heap.size ≠ some (w.heap.size + 1) := by intro e; injection e with e; omega
          exact ⟨⟨k + 1, q4, c4', hlt, by rw [NB.out], by go_num, SA'.out.secs _, ZA'.out.kept gS (fun e => hno e.symm), R4.out.kept gS (.inr (fun e => by have := (R4.out.lt _ e).1; omega)), grown_new G'.out gS (by omega), Nat.le_trans hB4 gS.size⟩, by simp [intOf]; omega⟩
        · obtain ⟨rfl, hne, rfl⟩ := hc; rw [hne] at te
          go_wp2_with (at_builtin; refine wp_append_st secType rfl _ _ rfl _ k _ rfl (own_grown OW.out (grown1 w3 (.cells #[.string (strOfNums sn), .string (strOfNums ss), .int .u64 sa, .int .u64 sb, .int .u64 so, .int .i64 sk] 148))) (secCs ⟨sn, ss, sa, sb, so, sk⟩) rfl w3.heap.size rfl (heap_alloc_new w3 _) (secCs_one _) (by omega) (by decide) ?_ ?_)
          · rw [World.size_alloc]; omega
          intro v' w4 ho hg4
          obtain ⟨q4, c4', rfl⟩ := own_slice ho
          have hlo := fun (g' : Nat) (e : (Value.slice q' k c').ownBlock = some g') => (OW.out.lt g' e).1
          have R4 := Lib.hid (show w4.ownsRow (w.heap.size + 2) 148 6 (.slice q4 (k + 1) c4') (k + 1) ((secsN ys (k + 1)).flatMap secCs) by
            rw [secsN_succ, List.flatMap_append, ← HA.out, ← XE.out]
            exact ho)
          have g3 := grown1 w3 (.cells #[.string (strOfNums sn), .string (strOfNums ss), .int .u64 sa, .int .u64 sb, .int .u64 so, .int .i64 sk] 148)
          have SA' := Lib.hid ((SA.out.kept g3 (by simp)).kept hg4 (fun e => by have := hlo _ e; omega))
          have ZA' := Lib.hid ((ZA.out.kept g3 (by simp)).kept hg4 (fun e => by have := hlo _ e; omega))
          have G' := Lib.hid (grown_own (grown_trans G.out g3) hg4 hlo (by omega))
          have hB4 : w.heap.size + 2 ≤ w4.heap.size := by have h1 := hg4.size; rw [World.size_alloc] at h1; omega
          clear g3 ho hg4 SX c0 c1 c2 c3 c4 c5 s0 s1 s2 s3 s4 s5 s6 sf sl' SA ZA G
          have s6 := SA'.out.c.2.2.2.2.2.2
          have sf := SA'.out.fz 6
          have sl' := SA'.out.lt
          go_wp2
          have gS := grown_setCell (i := 6) (grown_refl w4 (some (w.heap.size + 1))) (.slice q4 (k + 1) c4')
          have hno : some w.heap.size ≠ some (w.heap.size + 1) := by intro e; injection e with e; omega
          exact ⟨⟨k + 1, q4, c4', hlt, by rw [NB.out], by go_num, SA'.out.secs _, ZA'.out.kept gS (fun e => hno e.symm), R4.out.kept gS (.inr (fun e => by have := (R4.out.lt _ e).1; omega)), grown_new G'.out gS (by omega), Nat.le_trans hB4 gS.size⟩, by simp [intOf]; omega⟩
    · have hkm : k = M := by omega
      subst hkm
      obtain ⟨d0, d1', d2'', d3', d4, d5, d6⟩ := ZA.out.c
      have f0 := ZA.out.fz 0
      have f1 := ZA.out.fz 1
      have f2 := ZA.out.fz 2
      have f3 := ZA.out.fz 3
      have f4 := ZA.out.fz 4
      have f5 := ZA.out.fz 5
      have f6 := ZA.out.fz 6
      have hl := ZA.out.lt
      have PA := ZA.out.clear
      have gP := grown_put7 (grown_refl wr (some w.heap.size)) (.string ⟨#[]⟩) (.int .u64 0) (.int .u64 0) (.int .u64 0) (.int .u64 0) (.int .i64 0) (.slice none 0 0)
      have GF := Lib.hid (grown_new G.out gP (Nat.le_refl _))
      have PP := Lib.hid PA
      have hfin : (bk = true ∧ segErr ys = 9) ∨ (bk = false ∧ decide (64 < k) = true ∧ segErr ys = 11) := by
        have hb := EB.out
        rw [BF.out, PE7.out] at hb
        have hE := EF.out
        unfold ErrSeg at hE
        have hmk : manyAt ys = k := ME.out.symm
        cases bk
        · have h1 : ¬ 7 < numAt ys 60 4 := fun h => by simp [h] at hb
          have h2 : oddSec ys (manyAt ys) = false := by
            cases h : oddSec ys (manyAt ys)
            · rfl
            · simp [h] at hb
          rw [if_neg h1, if_neg (by rw [h2]; simp)] at hE
          have h64 : 64 < manyAt ys := Classical.byContradiction fun h => hE.1 (by rw [hE.2, if_neg h])
          exact .inr ⟨rfl, by rw [← hmk]; simpa using h64, by rw [hE.2, if_pos h64]⟩
        · refine .inl ⟨rfl, ?_⟩
          rw [hE.2]
          by_cases h1 : 7 < numAt ys 60 4
          · rw [if_pos h1]
          · rw [if_neg h1]
            have h2 : oddSec ys (manyAt ys) = true := by simpa [h1] using hb.symm
            rw [if_pos h2]
      clear gP PA ZA
      rcases hfin with ⟨rfl, hE⟩ | ⟨rfl, d64, hE⟩
      · have HE := Lib.hid hE
        clear hE
        go_wp2
        refine bodyPost_ret (results_seg (v := .int .i64 9) rfl rfl rfl PP.out) rfl ?_
        exact ⟨by rw [HE.out], GF.out⟩
      · have HE := Lib.hid hE
        clear hE
        have d64a : decide ((64 : Int) < (k : Int)) = true := by simp at d64 ⊢; omega
        clear d2 d2' hRn m3 m4 m1 m2 epr hpb
        go_wp2
        refine bodyPost_ret (results_seg (v := .int .i64 11) rfl rfl rfl PP.out) rfl ?_
        exact ⟨by rw [HE.out], GF.out⟩
end Go.Proofs.YtdagnkdonlfobaaGreat

/- The document's segment, whole. No condition but that it has at most 2^47 bytes. -/
namespace Go.Proofs.YtdagnkdonlfobaaGreat
open Go.RowKit
variable {w w' : World}

def segN (ys : List Int) : Seg := if segErr ys = 0 then segOf ys else Seg.zero
set_option maxHeartbeats 1600000 in
set_option maxRecDepth 20000 in
theorem refSegment_all (ys : List Int) {q : Option Addr} {c n : Nat} (h : IsBytes w q c ys) (hn : ys.length = n) (hc : n ≤ c) (hcm : c ≤ 9223372036854775807) (hn47 : n ≤ 140737488355328) (hr : Small ys) :
    Calls Tryz.prog 104 #[.slice q n c] w fun e w' => ∃ q1 N c1 base, N = (segN ys).secs.length ∧ e = .returned (.tuple #[segV (segN ys) (.slice q1 N c1), .int .i64 (segErr ys)]) ∧
      w'.ownsRow base 148 6 (.slice q1 N c1) N ((segN ys).secs.flatMap secCs) ∧ w.heap.size ≤ base ∧ w.grownBy w' none := by
  by_cases he : segErr ys = 0
  · unfold segN
    rw [if_pos he, he]
    exact refSegment_any ys h hn hc hcm hn47 hr he
  have hN : segN ys = Seg.zero := by unfold segN; rw [if_neg he]
  rw [hN]
  have fin : ∀ (W : World) (er : Int), segErr ys = er → w.grownBy W none → ∃ q1 N c1 base, N = Seg.zero.secs.length ∧ Ending.returned (.tuple #[segV Seg.zero (.slice none 0 0), .int .i64 er]) = Ending.returned (.tuple #[segV Seg.zero (.slice q1 N c1), .int .i64 (segErr ys)]) ∧
      W.ownsRow base 148 6 (.slice q1 N c1) N (Seg.zero.secs.flatMap secCs) ∧ w.heap.size ≤ base ∧ w.grownBy W none := fun W er h1 hg => ⟨none, 0, 0, w.heap.size, rfl, by rw [h1], World.ownsRow_nil _ _ _ _, Nat.le_refl _, hg⟩
  have FIN := Lib.hid fin
  clear fin
  have g0 := grown1 w (.cells #[.string ⟨#[]⟩, .int .u64 0, .int .u64 0, .int .u64 0, .int .u64 0, .int .i64 0, .slice none 0 0] 58)
  have Z0 : SegAt (w.alloc (.cells #[.string ⟨#[]⟩, .int .u64 0, .int .u64 0, .int .u64 0, .int .u64 0, .int .i64 0, .slice none 0 0] 58)) w.heap.size Seg.zero (.slice none 0 0) := heap_alloc_new w _
  have gP := grown_put7 (grown_refl (w.alloc (.cells #[.string ⟨#[]⟩, .int .u64 0, .int .u64 0, .int .u64 0, .int .u64 0, .int .i64 0, .slice none 0 0] 58)) (some w.heap.size)) (.string ⟨#[]⟩) (.int .u64 0) (.int .u64 0) (.int .u64 0) (.int .u64 0) (.int .i64 0) (.slice none 0 0)
  have GP := Lib.hid (grown_new g0 gP (Nat.le_refl _))
  have PP := Lib.hid (Z0.clear)
  by_cases hs : shortB ys
  · have hE : segErr ys = 3 := by unfold segErr; rw [if_pos hs]
    have CD := Lib.hid (cmd5_bad (w := w.alloc (.cells #[.string ⟨#[]⟩, .int .u64 0, .int .u64 0, .int .u64 0, .int .u64 0, .int .i64 0, .slice none 0 0] 58)) ys (h.kept g0 (by simp)) hn hc hcm hr hs)
    have HE := Lib.hid hE
    have ZZ := Lib.hid Z0
    clear h hr hs he hN hE hn g0 gP Z0
    go_enter Tryz.func104, Tryz.ntmps104
    go_wp2_with fail
    refine CD.out.mono ?_
    rintro e w1 ⟨cm, rfl, rfl⟩
    obtain ⟨W0, hW0⟩ : ∃ W0, w.alloc (.cells #[.string ⟨#[]⟩, .int .u64 0, .int .u64 0, .int .u64 0, .int .u64 0, .int .i64 0, .slice none 0 0] 58) = W0 := ⟨_, rfl⟩
    rw [hW0] at ZZ GP PP ⊢
    clear hW0 CD
    obtain ⟨d0, d1', d2'', d3', d4, d5, d6⟩ := ZZ.out.c
    have f0 := ZZ.out.fz 0
    have f1 := ZZ.out.fz 1
    have f2 := ZZ.out.fz 2
    have f3 := ZZ.out.fz 3
    have f4 := ZZ.out.fz 4
    have f5 := ZZ.out.fz 5
    have f6 := ZZ.out.fz 6
    have hl := ZZ.out.lt
    go_wp2
    refine bodyPost_ret (results_seg (v := .int .i64 3) rfl rfl rfl PP.out) rfl ?_
    exact FIN.out _ _ HE.out GP.out
  by_cases hcmd : cmdAt ys = 25
  rotate_left
  · have hE : segErr ys = 7 := by unfold segErr; rw [if_neg hs, if_pos hcmd]
    have CD := Lib.hid (cmd5_any (w := w.alloc (.cells #[.string ⟨#[]⟩, .int .u64 0, .int .u64 0, .int .u64 0, .int .u64 0, .int .i64 0, .slice none 0 0] 58)) ys (h.kept g0 (by simp)) hn hc hcm hr hs)
    obtain ⟨cm, hcm'⟩ : ∃ z, z = cmdAt ys := ⟨_, rfl⟩
    rw [← hcm'] at CD hcmd
    have b1 : (cm != 25) = true := by simpa using hcmd
    have HE := Lib.hid hE
    have ZZ := Lib.hid Z0
    clear h hr hs he hN hE hn g0 gP Z0 hcmd hcm'
    go_enter Tryz.func104, Tryz.ntmps104
    go_wp2_with fail
    refine CD.out.mono ?_
    rintro e w1 ⟨rfl, rfl⟩
    obtain ⟨W0, hW0⟩ : ∃ W0, w.alloc (.cells #[.string ⟨#[]⟩, .int .u64 0, .int .u64 0, .int .u64 0, .int .u64 0, .int .i64 0, .slice none 0 0] 58) = W0 := ⟨_, rfl⟩
    rw [hW0] at ZZ GP PP ⊢
    clear hW0 CD
    obtain ⟨d0, d1', d2'', d3', d4, d5, d6⟩ := ZZ.out.c
    have f0 := ZZ.out.fz 0
    have f1 := ZZ.out.fz 1
    have f2 := ZZ.out.fz 2
    have f3 := ZZ.out.fz 3
    have f4 := ZZ.out.fz 4
    have f5 := ZZ.out.fz 5
    have f6 := ZZ.out.fz 6
    have hl := ZZ.out.lt
    go_wp2
    refine bodyPost_ret (results_seg (v := .int .i64 7) rfl rfl rfl PP.out) rfl ?_
    exact FIN.out _ _ HE.out GP.out
  by_cases hmany : manyAt ys ≤ (ys.length - 72) / 80
  · have hE : ErrSeg ys := ⟨he, by unfold segErr; rw [if_neg hs, if_neg (by rw [hcmd]; simp), if_neg (by omega)]⟩
    refine (refSegment_bad ys h hn hc hcm hn47 hr hs hcmd hmany hE).mono ?_
    rintro e w' ⟨rfl, hg⟩
    exact FIN.out _ _ rfl hg
  have hE : segErr ys = 3 := by unfold segErr; rw [if_neg hs, if_neg (by rw [hcmd]; simp), if_pos (by omega)]
  have h72 : 72 ≤ n := by
    have h1 : ¬ ((ys.length : Int) < leastN (cmdAt ys)) := fun h => hs (.inr h)
    rw [hcmd, show leastN 25 = 72 by decide] at h1
    omega
  have HE := Lib.hid hE
  have CD := Lib.hid (fun (w1 : World) (hg : w.grownBy w1 none) => cmd5_any (w := w1) ys (h.kept hg (by simp)) hn hc hcm hr hs)
  rw [hcmd] at CD
  have A1 := Lib.hid (fun (w1 : World) (hg : w.grownBy w1 none) => (by have := numat_any (w := w1) ys (h.kept hg (by simp)) hn hc hcm hr 24 8 ⟨by decide, by decide⟩ (by omega); exact this : Calls Tryz.prog 103 #[.slice q n c, .int .i64 24, .int .i64 8] w1 fun e w' => e = .returned (.int .u64 (numAt ys 24 8)) ∧ w1 = w'))
  have A2 := Lib.hid (fun (w1 : World) (hg : w.grownBy w1 none) => (by have := numat_any (w := w1) ys (h.kept hg (by simp)) hn hc hcm hr 32 8 ⟨by decide, by decide⟩ (by omega); exact this : Calls Tryz.prog 103 #[.slice q n c, .int .i64 32, .int .i64 8] w1 fun e w' => e = .returned (.int .u64 (numAt ys 32 8)) ∧ w1 = w'))
  have A3 := Lib.hid (fun (w1 : World) (hg : w.grownBy w1 none) => (by have := numat_any (w := w1) ys (h.kept hg (by simp)) hn hc hcm hr 40 8 ⟨by decide, by decide⟩ (by omega); exact this : Calls Tryz.prog 103 #[.slice q n c, .int .i64 40, .int .i64 8] w1 fun e w' => e = .returned (.int .u64 (numAt ys 40 8)) ∧ w1 = w'))
  have A4 := Lib.hid (fun (w1 : World) (hg : w.grownBy w1 none) => (by have := numat_any (w := w1) ys (h.kept hg (by simp)) hn hc hcm hr 48 8 ⟨by decide, by decide⟩ (by omega); exact this : Calls Tryz.prog 103 #[.slice q n c, .int .i64 48, .int .i64 8] w1 fun e w' => e = .returned (.int .u64 (numAt ys 48 8)) ∧ w1 = w'))
  have A5 := Lib.hid (fun (w1 : World) (hg : w.grownBy w1 none) => (by have := numat_any (w := w1) ys (h.kept hg (by simp)) hn hc hcm hr 60 4 ⟨by decide, by decide⟩ (by omega); exact this : Calls Tryz.prog 103 #[.slice q n c, .int .i64 60, .int .i64 4] w1 fun e w' => e = .returned (.int .u64 (numAt ys 60 4)) ∧ w1 = w'))
  have A6 := Lib.hid (fun (w1 : World) (hg : w.grownBy w1 none) => (by have := numat_any (w := w1) ys (h.kept hg (by simp)) hn hc hcm hr 64 4 ⟨by decide, by decide⟩ (by omega); exact this : Calls Tryz.prog 103 #[.slice q n c, .int .i64 64, .int .i64 4] w1 fun e w' => e = .returned (.int .u64 (numAt ys 64 4)) ∧ w1 = w'))
  have F1 := Lib.hid (fun (w1 : World) (hg : w.grownBy w1 none) => (by have := field5_any (w := w1) ys (h.kept hg (by simp)) hn hc hcm hr 8 (by omega); exact this : Calls Tryz.prog 143 #[.slice q n c, .int .i64 8] w1 fun e w' => e = .returned (.string (strOfNums (fieldAt ys 8))) ∧ w1 = w'))
  have hpb := numAt_lt hr 60
  have hmb := numAt_lt hr 64
  obtain ⟨pr, hpr⟩ : ∃ z, z = numAt ys 60 4 := ⟨_, rfl⟩
  obtain ⟨M, hM⟩ : ∃ M : Nat, numAt ys 64 4 = M := ⟨(numAt ys 64 4).toNat, by omega⟩
  have hMm : manyAt ys = M := by unfold manyAt; omega
  rw [← hpr] at A5 hpb
  rw [hM] at A6 hmb
  rw [hMm, hn] at hmany
  obtain ⟨ad, had⟩ : ∃ z, z = numAt ys 24 8 := ⟨_, rfl⟩
  obtain ⟨sz, hsz⟩ : ∃ z, z = numAt ys 32 8 := ⟨_, rfl⟩
  obtain ⟨of, hof⟩ : ∃ z, z = numAt ys 40 8 := ⟨_, rfl⟩
  obtain ⟨fs, hfs⟩ : ∃ z, z = numAt ys 48 8 := ⟨_, rfl⟩
  obtain ⟨nm, hnm⟩ : ∃ z, z = fieldAt ys 8 := ⟨_, rfl⟩
  rw [← had] at A1
  rw [← hsz] at A2
  rw [← hof] at A3
  rw [← hfs] at A4
  rw [← hnm] at F1
  have G := Lib.hid g0
  have hprw : IntKind.i64.wrap pr = pr := IntWalk.i64_in _ (by omega)
  have m1 : ((n : Int) - 72) % 18446744073709551616 = (n : Int) - 72 := by omega
  have m2 : IntKind.u64.wrap ((n : Int) - 72) = (n : Int) - 72 := by rw [IntKind.wrap_u64]; exact m1
  obtain ⟨R, hR⟩ : ∃ R, R = (n - 72) / 80 := ⟨_, rfl⟩
  have m3 : ((n : Int) - 72) / 80 = (R : Int) := by omega
  have m4 : ((n : Int) - 72).tdiv 80 = (R : Int) := by rw [Int.tdiv_eq_ediv_of_nonneg (by omega)]; omega
  have d1 : decide (R < M) = true := by simp; omega
  have ZZ := Lib.hid Z0
  clear h hr hn hs hcmd he hmany hM hMm hpr had hsz hof hfs hnm g0 hR hE hN gP Z0 GP PP hmb
  go_enter Tryz.func104, Tryz.ntmps104
  go_upto_region 7 with (first
    | (go_at_call 77; refine (CD.out _ G.out).mono ?_; rintro e w3 ⟨rfl, rfl⟩)
    | (go_at_call 143; refine (F1.out _ G.out).mono ?_; rintro e w3 ⟨rfl, rfl⟩)
    | (go_at_call 103; (first | with_reducible refine (A1.out _ G.out).mono ?_ | with_reducible refine (A2.out _ G.out).mono ?_ | with_reducible refine (A3.out _ G.out).mono ?_ | with_reducible refine (A4.out _ G.out).mono ?_ | with_reducible refine (A5.out _ G.out).mono ?_); rintro e w3 ⟨rfl, rfl⟩))
  have g7 := grown1 (w.alloc (.cells #[.string ⟨#[]⟩, .int .u64 0, .int .u64 0, .int .u64 0, .int .u64 0, .int .i64 0, .slice none 0 0] 58)) (.cells #[.string (strOfNums nm), .int .u64 ad, .int .u64 sz, .int .u64 of, .int .u64 fs, .int .i64 pr, .slice none 0 0] 58)
  have G2 := Lib.hid (grown_trans G.out g7)
  have ZA := Lib.hid (ZZ.out.kept g7 (by simp))
  obtain ⟨wy, hwy⟩ : ∃ wy, (w.alloc (.cells #[.string ⟨#[]⟩, .int .u64 0, .int .u64 0, .int .u64 0, .int .u64 0, .int .i64 0, .slice none 0 0] 58)).alloc (.cells #[.string (strOfNums nm), .int .u64 ad, .int .u64 sz, .int .u64 of, .int .u64 fs, .int .i64 pr, .slice none 0 0] 58) = wy := ⟨_, rfl⟩
  rw [hwy] at G2 ZA ⊢
  clear hwy g7 G F1 A1 A2 A3 A4 CD ZZ
  obtain ⟨d0, d1', d2'', d3', d4, d5, d6⟩ := ZA.out.c
  have f0 := ZA.out.fz 0
  have f1 := ZA.out.fz 1
  have f2 := ZA.out.fz 2
  have f3 := ZA.out.fz 3
  have f4 := ZA.out.fz 4
  have f5 := ZA.out.fz 5
  have f6 := ZA.out.fz 6
  have hl := ZA.out.lt
  go_wp2_with (go_at_call 103; (first | with_reducible refine (A5.out _ G2.out).mono ?_ | with_reducible refine (A6.out _ G2.out).mono ?_); rintro e w3 ⟨rfl, rfl⟩)
  have PA := ZA.out.clear
  have gQ := grown_put7 (grown_refl wy (some w.heap.size)) (.string ⟨#[]⟩) (.int .u64 0) (.int .u64 0) (.int .u64 0) (.int .u64 0) (.int .i64 0) (.slice none 0 0)
  refine bodyPost_ret (results_seg (v := .int .i64 3) rfl rfl rfl PA) rfl ?_
  exact FIN.out _ _ HE.out (grown_new G2.out gQ (Nat.le_refl _))
end Go.Proofs.YtdagnkdonlfobaaGreat
