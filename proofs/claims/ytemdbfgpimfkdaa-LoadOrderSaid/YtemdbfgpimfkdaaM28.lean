import Derived.Test.YtemdbfgpimfkdaaM27
import Derived.Deep.RegionHeld3
import Derived.Test.YtemdbfgpimfkdaaM15
/- The document's segment of a command that is one. No condition but that it has at most 2^47 bytes. -/
namespace Go.Proofs.Ytemdbfgpimfkdaa
open Go.RowKit
variable {w w' : World}

theorem seg_facts {ys : List Int} (h : segErr ys = 0) : ¬ shortB ys ∧ cmdAt ys = 25 ∧ manyAt ys ≤ (ys.length - 72) / 80 ∧ numAt ys 60 4 ≤ 7 ∧ oddSec ys (manyAt ys) = false ∧ manyAt ys ≤ 64 := by
  unfold segErr at h
  split at h; cases h
  rename_i h1
  split at h; cases h
  rename_i h2
  split at h; cases h
  rename_i h3
  split at h; cases h
  rename_i h4
  split at h; cases h
  rename_i h5
  split at h; cases h
  rename_i h6
  exact ⟨h1, Classical.byContradiction h2, by omega, by omega, by simpa using h5, by omega⟩
theorem sub_num (ys : List Int) (a p m : Nat) (h : p + m ≤ 80) : numAt ((ys.drop a).take 80) p m = numAt ys (a + p) m := by
  unfold numAt
  rw [List.drop_take, List.drop_drop, List.take_take, Nat.min_eq_left (by omega)]
theorem sub_field (ys : List Int) (a p : Nat) (h : p + 16 ≤ 80) : fieldAt ((ys.drop a).take 80) p = fieldAt ys (a + p) := by
  unfold fieldAt
  rw [List.drop_take, List.drop_drop, List.take_take, Nat.min_eq_left (by omega)]
theorem odd_each {b : List Int} {M k : Nat} (h : oddSec b M = false) (hk : k < M) : (secAt b (72 + 80 * k)).seg = fieldAt b 8 := by
  unfold oddSec at h
  rw [List.any_eq_false] at h
  have := h _ (List.mem_map.2 ⟨k, List.mem_range.2 hk, rfl⟩)
  simpa using this

set_option maxHeartbeats 6400000 in
set_option maxRecDepth 20000 in
theorem refSegment_any (ys : List Int) {q : Option Addr} {c n : Nat} (h : IsBytes w q c ys) (hn : ys.length = n) (hc : n ≤ c) (hcm : c ≤ 9223372036854775807) (hn47 : n ≤ 140737488355328) (hr : Small ys) (he : segErr ys = 0) :
    Calls Try.prog 8 #[.slice q n c] w fun e w' => ∃ q1 N c1 base, N = (segOf ys).secs.length ∧ e = .returned (.tuple #[segV (segOf ys) (.slice q1 N c1), .int .i64 0]) ∧
      w'.ownsRow base 76 6 (.slice q1 N c1) N ((segOf ys).secs.flatMap secCs) ∧ w.heap.size ≤ base ∧ w.grownBy w' none := by
  obtain ⟨hs, hcmd, hmany, hprot, hodd, h64⟩ := seg_facts he
  have h72 : 72 ≤ n := by
    have h1 : ¬ ((ys.length : Int) < leastN (cmdAt ys)) := fun h => hs (.inr h)
    rw [hcmd, show leastN 25 = 72 by decide] at h1
    omega
  obtain ⟨b, o, hq, hcell⟩ := h.2 (by omega)
  have HC := Lib.hid hcell
  have QE := Lib.hid hq
  have CD := Lib.hid (fun (w1 : World) (hg : w.grownBy w1 none) => cmd5_any (w := w1) ys (h.kept hg (by simp)) hn hc hcm hr hs)
  rw [hcmd] at CD
  have AT := Lib.hid (fun (w1 : World) (hg : w.grownBy w1 none) (p m : Nat) (hm : 0 < m ∧ m ≤ 8) (hp : p + m ≤ n) => numat_any (w := w1) ys (h.kept hg (by simp)) hn hc hcm hr p m hm hp)
  have FD := Lib.hid (fun (w1 : World) (hg : w.grownBy w1 none) (p : Nat) (hp : p + 16 ≤ n) => field5_any (w := w1) ys (h.kept hg (by simp)) hn hc hcm hr p hp)
  have HB := Lib.hid h
  have HR := Lib.hid hr
  have HN := Lib.hid hn
  have OD := Lib.hid hodd
  obtain ⟨⟨nm, ad, sz, of, fs, pr, sl⟩, hseg⟩ : ∃ s, s = segOf ys := ⟨_, rfl⟩
  have SE := Lib.hid hseg
  have epr : numAt ys 60 4 = pr := (congrArg Seg.prot SE.out).symm
  have hpb := numAt_lt hr 60
  have hmb := numAt_lt hr 64
  rw [epr] at hpb hprot
  obtain ⟨M, hM⟩ : ∃ M, M = manyAt ys := ⟨_, rfl⟩
  have hMi : numAt ys 64 4 = M := by rw [hM]; unfold manyAt; omega
  have ME := Lib.hid hM
  rw [← hM, hn] at hmany
  rw [← hM] at h64
  have NM := Lib.hid (show fieldAt ys 8 = nm from (congrArg Seg.name SE.out).symm)
  have F1 := Lib.hid (fun w1 hg => (by have := FD.out w1 hg 8 (by omega); rw [NM.out] at this; exact this : Calls Try.prog 21 #[.slice q n c, .int .i64 8] w1 fun e w' => e = .returned (.string (strOfNums nm)) ∧ w1 = w'))
  have A1 := Lib.hid (fun w1 hg => (by have := AT.out w1 hg 24 8 ⟨by decide, by decide⟩ (by omega); rw [show numAt ys 24 8 = ad from (congrArg Seg.addr SE.out).symm] at this; exact this : Calls Try.prog 19 #[.slice q n c, .int .i64 24, .int .i64 8] w1 fun e w' => e = .returned (.int .u64 ad) ∧ w1 = w'))
  have A2 := Lib.hid (fun w1 hg => (by have := AT.out w1 hg 32 8 ⟨by decide, by decide⟩ (by omega); rw [show numAt ys 32 8 = sz from (congrArg Seg.size SE.out).symm] at this; exact this : Calls Try.prog 19 #[.slice q n c, .int .i64 32, .int .i64 8] w1 fun e w' => e = .returned (.int .u64 sz) ∧ w1 = w'))
  have A3 := Lib.hid (fun w1 hg => (by have := AT.out w1 hg 40 8 ⟨by decide, by decide⟩ (by omega); rw [show numAt ys 40 8 = of from (congrArg Seg.off SE.out).symm] at this; exact this : Calls Try.prog 19 #[.slice q n c, .int .i64 40, .int .i64 8] w1 fun e w' => e = .returned (.int .u64 of) ∧ w1 = w'))
  have A4 := Lib.hid (fun w1 hg => (by have := AT.out w1 hg 48 8 ⟨by decide, by decide⟩ (by omega); rw [show numAt ys 48 8 = fs from (congrArg Seg.fsize SE.out).symm] at this; exact this : Calls Try.prog 19 #[.slice q n c, .int .i64 48, .int .i64 8] w1 fun e w' => e = .returned (.int .u64 fs) ∧ w1 = w'))
  have A5 := Lib.hid (fun w1 hg => (by have := AT.out w1 hg 60 4 ⟨by decide, by decide⟩ (by omega); rw [epr] at this; exact this : Calls Try.prog 19 #[.slice q n c, .int .i64 60, .int .i64 4] w1 fun e w' => e = .returned (.int .u64 pr) ∧ w1 = w'))
  have A6 := Lib.hid (fun w1 hg => (by have := AT.out w1 hg 64 4 ⟨by decide, by decide⟩ (by omega); rw [hMi] at this; exact this : Calls Try.prog 19 #[.slice q n c, .int .i64 64, .int .i64 4] w1 fun e w' => e = .returned (.int .u64 M) ∧ w1 = w'))
  have g0 := grown1 w (.cells #[.string ⟨#[]⟩, .int .u64 0, .int .u64 0, .int .u64 0, .int .u64 0, .int .i64 0, .slice none 0 0] 47)
  have G := Lib.hid g0
  have Z0 := Lib.hid (show SegAt (w.alloc (.cells #[.string ⟨#[]⟩, .int .u64 0, .int .u64 0, .int .u64 0, .int .u64 0, .int .i64 0, .slice none 0 0] 47)) w.heap.size Seg.zero (.slice none 0 0) from heap_alloc_new w _)
  have hprw : IntKind.i64.wrap pr = pr := IntWalk.i64_in _ (by omega)
  have m1 : ((n : Int) - 72) % 18446744073709551616 = (n : Int) - 72 := by omega
  have m2 : IntKind.u64.wrap ((n : Int) - 72) = (n : Int) - 72 := by rw [IntKind.wrap_u64]; exact m1
  obtain ⟨R, hR⟩ : ∃ R, R = (n - 72) / 80 := ⟨_, rfl⟩
  have m3 : ((n : Int) - 72) / 80 = (R : Int) := by omega
  have m4 : ((n : Int) - 72).tdiv 80 = (R : Int) := by rw [Int.tdiv_eq_ediv_of_nonneg (by omega)]; omega
  have d1 : decide (R < M) = false := by simp; omega
  have d2 : decide (7 < pr) = false := by simp; omega
  have d3 : decide (64 < M) = false := by simp; omega
  have hRn : 72 + 80 * M ≤ n := by omega
  have mw : IntKind.i64.wrap (M : Int) = (M : Int) := IntWalk.i64_in _ (by omega)
  clear h hr hn hcell hq hs hcmd hmany hodd he hseg hM hMi g0 hmb hR AT FD
  go_enter Try.func8, Try.ntmps8
  go_upto_region 7 with (first
    | (go_at_call 7; refine (CD.out _ G.out).mono ?_; rintro e w3 ⟨rfl, rfl⟩)
    | (go_at_call 21; refine (F1.out _ G.out).mono ?_; rintro e w3 ⟨rfl, rfl⟩)
    | (go_at_call 19; (first | with_reducible refine (A1.out _ G.out).mono ?_ | with_reducible refine (A2.out _ G.out).mono ?_ | with_reducible refine (A3.out _ G.out).mono ?_ | with_reducible refine (A4.out _ G.out).mono ?_ | with_reducible refine (A5.out _ G.out).mono ?_); rintro e w3 ⟨rfl, rfl⟩))
  have g7 := grown1 (w.alloc (.cells #[.string ⟨#[]⟩, .int .u64 0, .int .u64 0, .int .u64 0, .int .u64 0, .int .i64 0, .slice none 0 0] 47)) (.cells #[.string (strOfNums nm), .int .u64 ad, .int .u64 sz, .int .u64 of, .int .u64 fs, .int .i64 pr, .slice none 0 0] 47)
  have G2 := Lib.hid (grown_trans G.out g7)
  have ZA := Lib.hid (Z0.out.kept g7 (by simp))
  have SA := Lib.hid (show SegAt ((w.alloc (.cells #[.string ⟨#[]⟩, .int .u64 0, .int .u64 0, .int .u64 0, .int .u64 0, .int .i64 0, .slice none 0 0] 47)).alloc (.cells #[.string (strOfNums nm), .int .u64 ad, .int .u64 sz, .int .u64 of, .int .u64 fs, .int .i64 pr, .slice none 0 0] 47)) (w.heap.size + 1) ⟨nm, ad, sz, of, fs, pr, []⟩ (.slice none 0 0) from by have := heap_alloc_new (w.alloc (.cells #[.string ⟨#[]⟩, .int .u64 0, .int .u64 0, .int .u64 0, .int .u64 0, .int .i64 0, .slice none 0 0] 47)) (.cells #[.string (strOfNums nm), .int .u64 ad, .int .u64 sz, .int .u64 of, .int .u64 fs, .int .i64 pr, .slice none 0 0] 47); rw [World.size_alloc] at this; exact this)
  obtain ⟨wy, hwy⟩ : ∃ wy, (w.alloc (.cells #[.string ⟨#[]⟩, .int .u64 0, .int .u64 0, .int .u64 0, .int .u64 0, .int .i64 0, .slice none 0 0] 47)).alloc (.cells #[.string (strOfNums nm), .int .u64 ad, .int .u64 sz, .int .u64 of, .int .u64 fs, .int .i64 pr, .slice none 0 0] 47) = wy := ⟨_, rfl⟩
  have WS := Lib.hid (show wy.heap.size = w.heap.size + 2 by rw [← hwy, World.size_alloc, World.size_alloc])
  rw [hwy] at G2 SA ZA ⊢
  clear hwy g7 G Z0 F1 A1 A2 A3 A4 CD
  go_upto_region 11 with (go_at_call 19; (first | with_reducible refine (A5.out _ G2.out).mono ?_ | with_reducible refine (A6.out _ G2.out).mono ?_); rintro e w3 ⟨rfl, rfl⟩)
  clear A5 A6
  go_wp2
  go_loopw [8, 9, 10, 11] (fun bd i _ _ wr => ∃ (k : Nat) (q' : Option Addr) (c' : Nat), k ≤ M ∧ bd = .bool false ∧ i = .int .i64 k ∧ SegAt wr (w.heap.size + 1) ⟨nm, ad, sz, of, fs, pr, []⟩ (.slice q' k c') ∧ SegAt wr w.heap.size Seg.zero (.slice none 0 0) ∧ wr.ownsRow (w.heap.size + 2) 76 6 (.slice q' k c') k ((secsN ys k).flatMap secCs) ∧ w.grownBy wr none ∧ w.heap.size + 2 ≤ wr.heap.size) (fun _ i _ _ _ => M - (intOf i).toNat)
  case atStart => exact ⟨0, none, 0, Nat.zero_le _, rfl, rfl, SA.out, ZA.out, World.ownsRow_nil _ _ _ _, G2.out, by rw [WS.out]; exact Nat.le_refl _⟩
  case round =>
    obtain ⟨k, q', c', hk, rfl, rfl, hsa, hza, hown, hgr, hBs⟩ := hrel
    have SA' := Lib.hid hsa
    have ZA' := Lib.hid hza
    have G := Lib.hid hgr
    have OW := Lib.hid hown
    clear hsa hza hgr hown SA ZA
    have SA := SA'
    have ZA := ZA'
    clear SA' ZA'
    by_cases hlt : k < M
    · obtain ⟨A, hA⟩ : ∃ A, A = 72 + 80 * k := ⟨_, rfl⟩
      obtain ⟨B, hB⟩ : ∃ B, B = 80 * k := ⟨_, rfl⟩
      obtain ⟨D, hD⟩ : ∃ D, D = A + 80 := ⟨_, rfl⟩
      have hAn : A + 80 ≤ n := by omega
      have a1 : (80 : Int) * (k : Int) = (B : Int) := by omega
      have a2 : (72 : Int) + (B : Int) = (A : Int) := by omega
      have a3 : (152 : Int) + (B : Int) = (D : Int) := by omega
      have a4 : IntKind.i64.wrap (B : Int) = (B : Int) := IntWalk.i64_in _ (by omega)
      have a5 : IntKind.i64.wrap (A : Int) = (A : Int) := IntWalk.i64_in _ (by omega)
      have a6 : IntKind.i64.wrap (D : Int) = (D : Int) := IntWalk.i64_in _ (by omega)
      have i1 : (D : Int) ≤ (c : Int) := by omega
      have i2 : (A : Int) ≤ (D : Int) := by omega
      have i3 : ¬ c = A := by omega
      have i4 : D - A = 80 := by omega
      have HA := Lib.hid hA
      have HB := Lib.hid hB
      have HD := Lib.hid hD
      clear hA hB hD
      have hq := QE.out
      subst hq
      obtain ⟨⟨sn, ss, sa, sb, so, sk⟩, hX⟩ : ∃ s, s = secAt ys A := ⟨_, rfl⟩
      have XE := Lib.hid hX
      have hsub : IsBytes w (some ⟨b, o + A, none⟩) (c - A) ((ys.drop A).take 80) := IsBytes.mk_at fun i hi => by
        have hi' : i < 80 := by rw [List.length_take] at hi; omega
        rw [Nat.add_assoc, HC.out (A + i) (by have := HN.out; omega)]
        simp [List.getD, List.getElem?_drop, hi']
      have hsl : ((ys.drop A).take 80).length = 80 := by have := HN.out; rw [List.length_take, List.length_drop]; omega
      have hsr : Small ((ys.drop A).take 80) := fun x hx => HR.out x (List.mem_of_mem_drop (List.mem_of_mem_take hx))
      have B1 := Lib.hid (fun w1 (hg : w.grownBy w1 none) => (by have := field5_any (w := w1) _ (hsub.kept hg (by simp)) hsl (show 80 ≤ c - A by omega) (by omega) hsr 0 (by decide); rw [sub_field ys A 0 (by decide), Nat.add_zero, show fieldAt ys A = sn from (congrArg Sec.name XE.out).symm] at this; exact this : Calls Try.prog 21 #[.slice (some ⟨b, o + A, none⟩) 80 (c - A), .int .i64 0] w1 fun e w' => e = .returned (.string (strOfNums sn)) ∧ w1 = w'))
      have B2 := Lib.hid (fun w1 (hg : w.grownBy w1 none) => (by have := field5_any (w := w1) _ (hsub.kept hg (by simp)) hsl (show 80 ≤ c - A by omega) (by omega) hsr 16 (by decide); rw [sub_field ys A 16 (by decide), show fieldAt ys (A + 16) = ss from (congrArg Sec.seg XE.out).symm] at this; exact this : Calls Try.prog 21 #[.slice (some ⟨b, o + A, none⟩) 80 (c - A), .int .i64 16] w1 fun e w' => e = .returned (.string (strOfNums ss)) ∧ w1 = w'))
      have B3 := Lib.hid (fun w1 (hg : w.grownBy w1 none) => (by have := numat_any (w := w1) _ (hsub.kept hg (by simp)) hsl (show 80 ≤ c - A by omega) (by omega) hsr 32 8 ⟨by decide, by decide⟩ (by decide); rw [sub_num ys A 32 8 (by decide), show numAt ys (A + 32) 8 = sa from (congrArg Sec.addr XE.out).symm] at this; exact this : Calls Try.prog 19 #[.slice (some ⟨b, o + A, none⟩) 80 (c - A), .int .i64 32, .int .i64 8] w1 fun e w' => e = .returned (.int .u64 sa) ∧ w1 = w'))
      have B4 := Lib.hid (fun w1 (hg : w.grownBy w1 none) => (by have := numat_any (w := w1) _ (hsub.kept hg (by simp)) hsl (show 80 ≤ c - A by omega) (by omega) hsr 40 8 ⟨by decide, by decide⟩ (by decide); rw [sub_num ys A 40 8 (by decide), show numAt ys (A + 40) 8 = sb from (congrArg Sec.size XE.out).symm] at this; exact this : Calls Try.prog 19 #[.slice (some ⟨b, o + A, none⟩) 80 (c - A), .int .i64 40, .int .i64 8] w1 fun e w' => e = .returned (.int .u64 sb) ∧ w1 = w'))
      have B5 := Lib.hid (fun w1 (hg : w.grownBy w1 none) => (by have := numat_any (w := w1) _ (hsub.kept hg (by simp)) hsl (show 80 ≤ c - A by omega) (by omega) hsr 48 4 ⟨by decide, by decide⟩ (by decide); rw [sub_num ys A 48 4 (by decide), show numAt ys (A + 48) 4 = so from (congrArg Sec.off XE.out).symm] at this; exact this : Calls Try.prog 19 #[.slice (some ⟨b, o + A, none⟩) 80 (c - A), .int .i64 48, .int .i64 4] w1 fun e w' => e = .returned (.int .u64 so) ∧ w1 = w'))
      have hAl : A + 64 < ys.length := by have := HN.out; omega
      have hsk : numAt ys (A + 64) 1 = ys.getD (A + 64) 0 := by
        unfold numAt
        have h1 : (ys.drop (A + 64)).take 1 = [ys[A + 64]] := by rw [List.drop_eq_getElem_cons hAl]; rfl
        rw [h1]
        simp [List.getD, hAl, leN]
      have hkb : w.cell? ⟨b, o + (A + 64), none⟩ = some (.int .u8 sk) := by
        rw [HC.out (A + 64) hAl, ← hsk, show numAt ys (A + 64) 1 = sk from (congrArg Sec.kind XE.out).symm]
      have hsk8 : 0 ≤ sk ∧ sk < 256 := by
        rw [show sk = numAt ys (A + 64) 1 from congrArg Sec.kind XE.out, hsk]
        have := HR.out (ys.getD (A + 64) 0) (by rw [List.getD_eq_getElem?_getD, List.getElem?_eq_getElem hAl]; exact List.getElem_mem hAl)
        exact this
      have skw : IntKind.i64.wrap sk = sk := IntWalk.i64_in _ (by omega)
      have hk0 : wr.cell? ⟨b, o + A + 64, none⟩ = some (.int .u8 sk) := by rw [Nat.add_assoc]; exact G.out.cell hkb (by simp)
      have GD := Lib.hid (show w.grownBy wr.drew none from grown_drewN G.out 1)
      have hk1 : wr.drew.cell? ⟨b, o + A + 64, none⟩ = some (.int .u8 sk) := hk0
      have ga := grown_drewN (grown1 wr (.cells #[.string ⟨#[]⟩, .string ⟨#[]⟩, .int .u64 0, .int .u64 0, .int .u64 0, .int .i64 0] 76)) 1
      have GA := Lib.hid (show w.grownBy (wr.alloc (.cells #[.string ⟨#[]⟩, .string ⟨#[]⟩, .int .u64 0, .int .u64 0, .int .u64 0, .int .i64 0] 76)).drew none from grown_trans G.out ga)
      have hk2 : (wr.alloc (.cells #[.string ⟨#[]⟩, .string ⟨#[]⟩, .int .u64 0, .int .u64 0, .int .u64 0, .int .i64 0] 76)).drew.cell? ⟨b, o + A + 64, none⟩ = some (.int .u8 sk) := grown_cell ga hk0
      have gx := grown_drewN (grown1 wr (.cells #[.string (strOfNums sn), .string (strOfNums ss), .int .u64 sa, .int .u64 sb, .int .u64 so, .int .i64 sk] 76)) 1
      have hk3 : (wr.alloc (.cells #[.string (strOfNums sn), .string (strOfNums ss), .int .u64 sa, .int .u64 sb, .int .u64 so, .int .i64 sk] 76)).drew.cell? ⟨b, o + A + 64, none⟩ = some (.int .u8 sk) := grown_cell gx hk0
      clear ga gx
      clear hsub hsl hsr hAl hsk hkb hsk8 hX
      go_upto_region 15 with fail
      clear hk0
      go_region_held3 (fun X => X.cell? ⟨b, o + A + 64, none⟩ = some (.int .u8 sk))
        (first | exact hk1 | exact hk2 | exact hk3)
        (first
          | (go_at_call 21; (first | with_reducible refine (B1.out _ GD.out).mono ?_ | with_reducible refine (B1.out _ GA.out).mono ?_ | with_reducible refine (B2.out _ GD.out).mono ?_ | with_reducible refine (B2.out _ GA.out).mono ?_); rintro e w3 ⟨rfl, rfl⟩)
          | (go_at_call 19; (first | with_reducible refine (B3.out _ GD.out).mono ?_ | with_reducible refine (B3.out _ GA.out).mono ?_ | with_reducible refine (B4.out _ GD.out).mono ?_ | with_reducible refine (B4.out _ GA.out).mono ?_ | with_reducible refine (B5.out _ GD.out).mono ?_ | with_reducible refine (B5.out _ GA.out).mono ?_); rintro e w3 ⟨rfl, rfl⟩))
      all_goals
        clear hk1 hk2 hk3 B1 B2 B3 B4 B5 GD GA
        have g3 : wr.grownBy (wr.alloc (.cells #[.string (strOfNums sn), .string (strOfNums ss), .int .u64 sa, .int .u64 sb, .int .u64 so, .int .i64 sk] 76)).drew none := grown_drewN (grown1 wr (.cells #[.string (strOfNums sn), .string (strOfNums ss), .int .u64 sa, .int .u64 sb, .int .u64 so, .int .i64 sk] 76)) 1
        have SX := Lib.hid (show SecAt (wr.alloc (.cells #[.string (strOfNums sn), .string (strOfNums ss), .int .u64 sa, .int .u64 sb, .int .u64 so, .int .i64 sk] 76)).drew wr.heap.size ⟨sn, ss, sa, sb, so, sk⟩ from heap_alloc_new wr _)
        have SA' := Lib.hid (SA.out.kept g3 (by simp))
        have ZA' := Lib.hid (ZA.out.kept g3 (by simp))
        have G' := Lib.hid (grown_trans G.out g3)
        have OW' := Lib.hid (own_grown OW.out g3)
        have hB2 : w.heap.size + 2 ≤ (wr.alloc (.cells #[.string (strOfNums sn), .string (strOfNums ss), .int .u64 sa, .int .u64 sb, .int .u64 so, .int .i64 sk] 76)).drew.heap.size := by have := g3.size; omega
        obtain ⟨w3, hw3⟩ : ∃ w3, (wr.alloc (.cells #[.string (strOfNums sn), .string (strOfNums ss), .int .u64 sa, .int .u64 sb, .int .u64 so, .int .i64 sk] 76)).drew = w3 := ⟨_, rfl⟩
        obtain ⟨x, hx⟩ : ∃ x, wr.heap.size = x := ⟨_, rfl⟩
        rw [hw3] at SA' ZA' G' OW' SX hB2 ⊢
        rw [hx] at SX
        simp only [hx]
        clear hw3 hx g3 SA ZA G OW
        have SA := SA'
        have ZA := ZA'
        have G := G'
        have OW := OW'
        clear SA' ZA' G' OW'
        have hsn : ss = nm := by
          have h1 := odd_each OD.out (show k < manyAt ys by rw [← ME.out]; exact hlt)
          rw [← HA.out, ← XE.out, NM.out] at h1
          exact h1
        subst hsn
        obtain ⟨c0, c1, c2, c3, c4, c5⟩ := SX.out.c
        obtain ⟨s0, s1, s2, s3, s4, s5, s6⟩ := SA.out.c
        simp only [] at c0 c1 c2 c3 c4 c5 s0 s1 s2 s3 s4 s5
        have sf := SA.out.fz 6
        have sl' := SA.out.lt
        go_wp2_with (at_builtin; refine wp_append_st secType rfl _ _ rfl _ k _ rfl (own_grown OW.out (grown1 w3 (.cells #[.string (strOfNums sn), .string (strOfNums ss), .int .u64 sa, .int .u64 sb, .int .u64 so, .int .i64 sk] 76))) (secCs ⟨sn, ss, sa, sb, so, sk⟩) rfl w3.heap.size rfl (heap_alloc_new w3 _) (secCs_one _) (by omega) (by decide) ?_ ?_)
        · rw [World.size_alloc]; omega
        intro v' w4 ho hg4
        obtain ⟨q4, c4', rfl⟩ := own_slice ho
        have hlo := fun (g' : Nat) (e : (Value.slice q' k c').ownBlock = some g') => (OW.out.lt g' e).1
        have R4 := Lib.hid (show w4.ownsRow (w.heap.size + 2) 76 6 (.slice q4 (k + 1) c4') (k + 1) ((secsN ys (k + 1)).flatMap secCs) by
          rw [secsN_succ, List.flatMap_append, ← HA.out, ← XE.out]
          exact ho)
        have g3 := grown1 w3 (.cells #[.string (strOfNums sn), .string (strOfNums ss), .int .u64 sa, .int .u64 sb, .int .u64 so, .int .i64 sk] 76)
        have SA' := Lib.hid ((SA.out.kept g3 (by simp)).kept hg4 (fun e => by have := hlo _ e; omega))
        have ZA' := Lib.hid ((ZA.out.kept g3 (by simp)).kept hg4 (fun e => by have := hlo _ e; omega))
        have G' := Lib.hid (grown_own (grown_trans G.out g3) hg4 hlo (by omega))
        have hB4 : w.heap.size + 2 ≤ w4.heap.size := by have h1 := hg4.size; rw [World.size_alloc] at h1; omega
        clear g3 ho hg4 SX c0 c1 c2 c3 c4 c5 s0 s1 s2 s3 s4 s5 s6 sf sl' SA ZA G
        have s6 := SA'.out.c.2.2.2.2.2.2
        have sf := SA'.out.fz 6
        have sl' := SA'.out.lt
        go_wp2
        have gS := grown_setCell (i := 6) (grown_refl w4 (some (w.heap.size + 1))) (.slice q4 (k + 1) c4')
        have hno : some w.heap.size ≠ some (w.heap.size + 1) := by intro e; injection e with e; omega
        exact ⟨⟨k + 1, q4, c4', hlt, rfl, by go_num, SA'.out.secs _, ZA'.out.kept gS (fun e => hno e.symm), R4.out.kept gS (.inr (fun e => by have := (R4.out.lt _ e).1; omega)), grown_new G'.out gS (by omega), Nat.le_trans hB4 gS.size⟩, by simp [intOf]; omega⟩
    · have hkm : k = M := by omega
      subst hkm
      obtain ⟨s0, s1, s2, s3, s4, s5, s6⟩ := SA.out.c
      obtain ⟨d0, d1', d2', d3', d4, d5, d6⟩ := ZA.out.c
      have f0 := ZA.out.fz 0
      have f1 := ZA.out.fz 1
      have f2 := ZA.out.fz 2
      have f3 := ZA.out.fz 3
      have f4 := ZA.out.fz 4
      have f5 := ZA.out.fz 5
      have f6 := ZA.out.fz 6
      have hl := ZA.out.lt
      have hl2 := SA.out.lt
      simp only [] at s0 s1 s2 s3 s4 s5
      go_wp2
      have PA := ZA.out.put ⟨nm, ad, sz, of, fs, pr, []⟩ (.slice q' k c')
      have gP := grown_put7 (grown_refl wr (some w.heap.size)) (.string (strOfNums nm)) (.int .u64 ad) (.int .u64 sz) (.int .u64 of) (.int .u64 fs) (.int .i64 pr) (.slice q' k c')
      refine bodyPost_ret (results_seg rfl rfl rfl PA) rfl ?_
      refine ⟨q', k, c', w.heap.size + 2, ?_, ?_, ?_, by omega, grown_new G.out gP (Nat.le_refl _)⟩
      · show k = (secsN ys (manyAt ys)).length
        rw [← ME.out]; unfold secsN; simp
      · rw [← SE.out]; rfl
      · have := OW.out.kept gP (.inr (fun e => by have := (OW.out.lt _ e).1; omega))
        show World.ownsRow _ _ _ _ _ _ ((secsN ys (manyAt ys)).flatMap secCs)
        rw [← ME.out]
        exact this
end Go.Proofs.Ytemdbfgpimfkdaa

/- The document's name of a command that has one. No condition but that it has at most 2^47 bytes. -/
namespace Go.Proofs.Ytemdbfgpimfkdaa
open Go.RowKit
variable {w w' : World}

theorem name_facts {ys : List Int} (h : nameErr ys = 0) : ¬ shortB ys ∧ named (cmdAt ys) ∧ ¬ ((ys.length : Int) < numAt ys 8 4) ∧ nameOf ys = pre (ys.drop (numAt ys 8 4).toNat) ∧ pre (ys.drop (numAt ys 8 4).toNat) ≠ [] ∧
    (pre (ys.drop (numAt ys 8 4).toNat)).length < (ys.drop (numAt ys 8 4).toNat).length ∧ (pre (ys.drop (numAt ys 8 4).toNat)).length ≤ 255 := by
  unfold nameErr at h
  split at h; cases h
  rename_i h1
  split at h; cases h
  rename_i h2
  split at h; cases h
  rename_i h3
  have h2' : named (cmdAt ys) := Classical.byContradiction h2
  unfold nameOf at h3 ⊢
  split at h3; exact absurd rfl h3
  rename_i h4
  rw [if_neg h4]
  unfold textOf at h3 ⊢
  split at h3
  · rename_i h5
    rw [if_pos h5]
    exact ⟨h1, h2', h4, rfl, h3, h5.1, h5.2⟩
  · exact absurd rfl h3

set_option maxHeartbeats 1600000 in
set_option maxRecDepth 20000 in
theorem refName_any (ys : List Int) {q : Option Addr} {c n : Nat} (h : IsBytes w q c ys) (hn : ys.length = n) (hc : n ≤ c) (hcm : c ≤ 9223372036854775807) (hr : Small ys) (he : nameErr ys = 0) :
    Calls Try.prog 11 #[.slice q n c] w fun e w' => e = .returned (.tuple #[.string (strOfNums (nameOf ys)), .int .i64 0]) ∧ w = w' := by
  obtain ⟨hs, hnm, hF, hT, hT0, hT1, hT2⟩ := name_facts he
  have CD := Lib.hid (cmd5_any (w := w) ys h hn hc hcm hr hs)
  have h24 : 24 ≤ n := by
    have h1 : ¬ ((ys.length : Int) < leastN (cmdAt ys)) := fun h => hs (.inr h)
    have : leastN (cmdAt ys) = 24 := by rcases hnm with h | h | h | h | h <;> rw [h] <;> decide
    omega
  have AT := Lib.hid (numat_any (w := w) ys h hn hc hcm hr 8 4 ⟨by decide, by decide⟩ (by omega))
  obtain ⟨b, o, rfl, hcell⟩ := h.2 (by omega)
  have hfb := numAt_lt hr 8
  obtain ⟨F, hFe⟩ : ∃ F : Nat, numAt ys 8 4 = F := ⟨(numAt ys 8 4).toNat, by omega⟩
  rw [hFe] at AT hF hT hT0 hT1 hT2 hfb
  simp only [Int.toNat_natCast] at hT hT0 hT1 hT2
  obtain ⟨L, hL⟩ : ∃ L, L = ys.drop F := ⟨_, rfl⟩
  rw [← hL] at hT hT0 hT1 hT2
  have hLl : L.length = n - F := by rw [hL, List.length_drop, hn]
  have hFn : F < n := by omega
  have HC := Lib.hid (fun (k : Nat) (x : Int) (hk : L[k]? = some x) => (show w.cell? ⟨b, o + F + k, none⟩ = some (.int .u8 x) from by
    have hk16 : k < n - F := by
      rcases Nat.lt_or_ge k (n - F) with h1 | h1
      · exact h1
      · rw [List.getElem?_eq_none (by omega)] at hk; cases hk
    rw [Nat.add_assoc, hcell (F + k) (by omega)]
    rw [hL, List.getElem?_drop] at hk
    simp [List.getD, hk]))
  have IB := Lib.hid (show IsBytes w (some ⟨b, o + F, none⟩) (c - F) L from IsBytes.mk_at fun i hi => by
    rw [Nat.add_assoc, hcell (F + i) (by omega), hL]
    simp [List.getD, List.getElem?_drop])
  have HL := Lib.hid hLl
  have i3 : ¬ c = F := by omega
  have hpc : (F : Int) ≤ (n : Int) := by omega
  have hpc2 : (n : Int) ≤ (c : Int) := by omega
  have m1 : ((n : Int) % 18446744073709551616) = n := by omega
  have m2 : IntKind.u64.wrap (n : Int) = n := by rw [IntKind.wrap_u64]; exact m1
  have d1 : decide (n < F) = false := by simp; omega
  have d2 : decide ((n : Int) < (F : Int)) = false := by simp; omega
  obtain ⟨R, hR⟩ : ∃ R, R = n - F := ⟨_, rfl⟩
  have hRi : (n : Int) - (F : Int) = (R : Int) := by omega
  have hRn : n - F = R := hR.symm
  rw [hRn] at HL
  have T0 := Lib.hid hT0
  have T1 := Lib.hid (show (pre L).length < R by rw [hLl, hRn] at hT1; exact hT1)
  have T2 := Lib.hid hT2
  obtain ⟨T, hTT⟩ : ∃ T, T = nameOf ys := ⟨_, rfl⟩
  rw [← hTT] at hT ⊢
  have TE := Lib.hid hT
  obtain ⟨cm, hcm'⟩ : ∃ z, z = cmdAt ys := ⟨_, rfl⟩
  rw [← hcm'] at CD hnm
  have DP := Lib.hid (fun w : World => dep_any (w := w) cm)
  have hb : (cm != 13) = false ∨ ((cm != 13) = true ∧ (depKind cm == 0) = false) := by
    rcases hnm with h | h | h | h | h
    · exact .inl (by rw [h]; rfl)
    all_goals exact .inr ⟨by rw [h]; rfl, by rw [h]; rfl⟩
  obtain ⟨dk, hdk⟩ : ∃ dk, dk = depKind cm := ⟨_, rfl⟩
  rw [← hdk] at DP hb
  have RR := Lib.hid (show (R : Int) ≤ 9223372036854775807 by omega)
  clear h hr hcell hL hLl hs hnm hF hT hT0 hT1 hT2 he hTT hcm' hdk hFe hR hn
  rcases hb with b1 | ⟨b1, b2⟩
  all_goals
    go_enter Try.func11, Try.ntmps11
    go_wp2_with fail
    refine CD.out.mono ?_
    rintro e w1 ⟨rfl, rfl⟩
    go_wp2_with (first | (go_at_call 10; refine (DP.out _).mono ?_; rintro e w2 ⟨rfl, rfl⟩) | (go_at_call 19; refine AT.out.mono ?_; rintro e w3 ⟨rfl, rfl⟩))
    go_loopw [8] (fun i wr => ∃ k : Nat, k ≤ R ∧ i = .int .i64 k ∧ wr = w ∧ pre L = L.take k ++ pre (L.drop k)) (fun i _ => R - (intOf i).toNat)
    case atStart => exact ⟨0, by omega, rfl, rfl, by simp⟩
    case round =>
      obtain ⟨k, hk, rfl, rfl, hi⟩ := hrel
      have HI := Lib.hid hi
      have hR63 := RR.out
      have cv := (IB.out.take (c' := c - F) k (fun h => by cases h)).text (n := k) (by rw [List.length_take, HL.out]; omega)
      clear hi
      by_cases hlt : k < R
      · obtain ⟨x, hx⟩ : ∃ x, L[k]? = some x := ⟨_, List.getElem?_eq_getElem (by rw [HL.out]; exact hlt)⟩
        have c0 := HC.out k x hx
        have HX := Lib.hid hx
        have dl : decide (k < R) = true := by simpa using hlt
        clear hx
        by_cases hx0 : x = 0
        · subst hx0
          have PE := Lib.hid (pre_inv_stop HI.out HX.out)
          have hlen : (pre L).length = k := by rw [PE.out, List.length_take, HL.out]; omega
          have hk0 : k ≠ 0 := fun e => T0.out (List.eq_nil_of_length_eq_zero (hlen.trans e))
          have hk255 : k ≤ 255 := by rw [← hlen]; exact T2.out
          have q1 : ((k : Int) == (R : Int)) = false := by simp; omega
          have q2 : ((k : Int) == 0) = false := by simp; omega
          have q3 : decide (255 < k) = false := by simp; omega
          have hkc : (k : Int) ≤ ((c - F : Nat) : Int) := by omega
          rw [← PE.out, ← TE.out] at cv
          clear hlen
          go_wp2
          go_ret2
          exact ⟨rfl, rfl⟩
        · have hx1 : (x != 0) = true := by simpa using hx0
          have PE := Lib.hid (pre_inv_step HI.out HX.out hx0)
          clear hx0 cv
          go_wp2
          refine ⟨⟨k + 1, by omega, by go_num, trivial, PE.out⟩, by simp [intOf]; omega⟩
      · exfalso
        have hkR : k = R := by omega
        subst hkR
        have h1 : pre L = L := by
          rw [HI.out, List.drop_of_length_le (by rw [HL.out]; exact Nat.le_refl _), List.take_of_length_le (by rw [HL.out]; exact Nat.le_refl _)]
          simp [pre]
        have := T1.out
        rw [h1, HL.out] at this
        omega
end Go.Proofs.Ytemdbfgpimfkdaa
