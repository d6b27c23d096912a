import Derived.Test.YtdagnkdonlfobaaGreatM19
import Derived.Test.YtdagnkdonlfobaaGreatM26
import Derived.Test.YtdagnkdonlfobaaGreatM21
import Derived.Deep.RegionHeld3
/- An image that bytes are: what the program and the document say, the same. No condition but that there are at most 2^47 bytes. -/
namespace Go.Proofs.YtdagnkdonlfobaaGreat
open Go.RowKit
variable {w w' : World}

noncomputable section
def ofErr (ys : List Int) : Int := if imgErr ys ≠ 0 then imgErr ys else mayN (imgH ys) (imgS ys) (ys.length : Int) (readZ ys : Int)
def ofH (ys : List Int) : Hx := if ofErr ys = 0 then imgH ys else Hx.zero
def ofS (ys : List Int) : St := if ofErr ys = 0 then imgS ys else St.zero
end
theorem img_read0 {ys : List Int} (h : imgErr ys = 0) : rdErr ys = 0 := by
  unfold imgErr at h
  split at h
  · rename_i h0; exact absurd h h0
  · rename_i h0; omega
theorem lists_zero (w : World) : Lists w w.heap.size St.zero (.slice none 0 0) (.slice none 0 0) := ⟨⟨[], rfl, World.ownsRow_nil _ _ _ _, fun x hx => (by cases hx)⟩, World.ownsRow_nil _ _ _ _⟩
/-- What is answered where there is an error. -/
theorem of_no {ys : List Int} {er : Int} (h : ofErr ys = er) (h0 : er ≠ 0) (W : World) (hg : w.grownBy W none) :
    ∃ sv dv lo, Ending.returned (.tuple #[imgV Hx.zero St.zero (.slice none 0 0) (.slice none 0 0), .int .i64 er]) = Ending.returned (.tuple #[imgV (ofH ys) (ofS ys) sv dv, .int .i64 (ofErr ys)]) ∧ Lists W lo (ofS ys) sv dv ∧ w.grownBy W none := by
  unfold ofH ofS
  rw [if_neg (by rw [h]; exact h0), if_neg (by rw [h]; exact h0), h]
  exact ⟨_, _, W.heap.size, rfl, lists_zero W, hg⟩
theorem of_yes {ys : List Int} (h : ofErr ys = 0) {sv dv : Value} {lo : Nat} {W : World} (hL : Lists W lo (imgS ys) sv dv) (hg : w.grownBy W none) :
    ∃ sv' dv' lo', Ending.returned (.tuple #[imgV (imgH ys) (imgS ys) sv dv, .int .i64 0]) = Ending.returned (.tuple #[imgV (ofH ys) (ofS ys) sv' dv', .int .i64 (ofErr ys)]) ∧ Lists W lo' (ofS ys) sv' dv' ∧ w.grownBy W none := by
  unfold ofH ofS
  rw [if_pos h, if_pos h, h]
  exact ⟨_, _, lo, rfl, hL, hg⟩
theorem imgApart2 : 58 ≠ 41 := by decide

set_option maxHeartbeats 6400000 in
set_option maxRecDepth 20000 in
theorem of_any (ys : List Int) (q : Option Addr) (c n : Nat) (h : IsBytes w q c ys) (hn : ys.length = n) (hc : n ≤ c) (hcm : c ≤ 9223372036854775807) (hn47 : n ≤ 140737488355328) (hr : Small ys) :
    Calls Tryz.prog 30 #[.slice q n c] w fun e w' => ∃ sv dv lo, e = .returned (.tuple #[imgV (ofH ys) (ofS ys) sv dv, .int .i64 (ofErr ys)]) ∧ Lists w' lo (ofS ys) sv dv ∧ w.grownBy w' none := by
  have g0 := grown1 w (.cells #[.int .i64 0, .int .i64 0, .int .u32 0, .string ⟨#[]⟩, .slice none 0 0, .slice none 0 0, .int .u64 0, .int .u64 0, .int .u64 0, .int .u64 0, .int .u64 0, .int .u64 0, .int .u64 0, .int .u64 0, .int .u64 0, .int .u64 0, .int .u64 0, .int .u64 0, .int .u64 0, .int .u64 0, .int .u64 0, .int .u64 0, .int .u64 0, .bool false] 41)
  have IM := Lib.hid (Image_all (w := w.alloc (.cells #[.int .i64 0, .int .i64 0, .int .u32 0, .string ⟨#[]⟩, .slice none 0 0, .slice none 0 0, .int .u64 0, .int .u64 0, .int .u64 0, .int .u64 0, .int .u64 0, .int .u64 0, .int .u64 0, .int .u64 0, .int .u64 0, .int .u64 0, .int .u64 0, .int .u64 0, .int .u64 0, .int .u64 0, .int .u64 0, .int .u64 0, .int .u64 0, .bool false] 41)) ys q c n (h.kept g0 (by simp)) hn hc hcm hn47 hr)
  have RD := Lib.hid (fun (V : World) (hg : w.grownBy V none) => Size_all (w := V) ys q c n (h.kept hg (by simp)) hn hc hcm hn47 hr)
  have Z0 := Lib.hid (ImgAt.new w)
  have G0 := Lib.hid g0
  have FT := Lib.hid (img_fit hr)
  have m1 : IntKind.u64.wrap (n : Int) = n := by rw [IntKind.wrap_u64]; omega
  have m2 : (n : Int) % 18446744073709551616 = n := by omega
  have UN := Lib.hid (show U64 (n : Int) from ⟨by omega, by omega⟩)
  have zl := readZ_lt hr
  have UZ := Lib.hid (show U64 (readZ ys : Int) from ⟨by omega, by omega⟩)
  have m3 : IntKind.u64.wrap (readZ ys : Int) = (readZ ys : Int) := by rw [IntKind.wrap_u64]; omega
  have m4 : (readZ ys : Int) % 18446744073709551616 = (readZ ys : Int) := by omega
  have OE := Lib.hid (show ofErr ys = if imgErr ys ≠ 0 then imgErr ys else mayN (imgH ys) (imgS ys) (n : Int) (readZ ys : Int) by rw [← hn]; rfl)
  have NO := Lib.hid (fun (er : Int) (W : World) (h1 : ofErr ys = er) (h0 : er ≠ 0) (hg : w.grownBy W none) => of_no h1 h0 W hg)
  have YES := Lib.hid (fun (h1 : ofErr ys = 0) (sv dv : Value) (lo : Nat) (W : World) (hL : Lists W lo (imgS ys) sv dv) (hg : w.grownBy W none) => of_yes h1 hL hg)
  have R0 := Lib.hid (fun hz => img_read0 (ys := ys) hz)
  obtain ⟨E, hE⟩ : ∃ E, E = imgErr ys := ⟨_, rfl⟩
  obtain ⟨RE, hRE⟩ : ∃ E, E = rdErr ys := ⟨_, rfl⟩
  obtain ⟨OEr, hOE⟩ : ∃ E, E = ofErr ys := ⟨_, rfl⟩
  obtain ⟨ZZ, hZZ⟩ : ∃ Z, Z = readZ ys := ⟨_, rfl⟩
  obtain ⟨H, hH⟩ : ∃ H, H = imgH ys := ⟨_, rfl⟩
  obtain ⟨S, hS⟩ : ∃ S, S = imgS ys := ⟨_, rfl⟩
  rw [← hE] at IM OE R0
  rw [← hRE] at RD R0
  rw [← hOE] at OE NO YES
  rw [← hZZ] at OE RD UZ m3 m4
  rw [← hH] at IM OE YES
  rw [← hS] at IM OE YES FT
  have HOE := Lib.hid hOE
  rw [← hOE]
  obtain ⟨OH, hOH⟩ : ∃ x, x = ofH ys := ⟨_, rfl⟩
  obtain ⟨OS, hOS⟩ : ∃ x, x = ofS ys := ⟨_, rfl⟩
  rw [← hOH] at NO YES ⊢
  rw [← hOS] at NO YES ⊢
  clear h hn hr g0 zl hE hRE hOE hZZ hH hS HOE hOH hOS hn47
  go_enter Tryz.func30, Tryz.ntmps30
  go_wp2_with fail
  refine IM.out.mono ?_
  rintro e w2 ⟨sv, dv, lo, rfl, hL, hg⟩
  obtain ⟨l, qs, cs, rfl, hk, hcap⟩ := ImgRows.of2 hL
  obtain ⟨qd, cd, rfl⟩ := own_slice hL.deps
  have GA := Lib.hid (grown_trans G0.out hg)
  have Z2 := Lib.hid (Z0.out.kept hg (by simp))
  have ZB := Lib.hid (ImgAt.new w2)
  have L2 := Lib.hid hL
  have K2 := Lib.hid hk
  have CAP := Lib.hid hcap
  clear hL hk hcap hg
  go_upto_region 2 with (refine wpList_store_img (h := H) (s := S) (sv := .slice qs l.length cs) (dv := .slice qd S.deps.length cd) rfl _ _ rfl rfl rfl ZB.out ⟨_, _, _, rfl⟩ ⟨_, _, _, rfl⟩ ?_)
  have gN := grown_new (grown1 w2 (.cells #[.int .i64 0, .int .i64 0, .int .u32 0, .string ⟨#[]⟩, .slice none 0 0, .slice none 0 0, .int .u64 0, .int .u64 0, .int .u64 0, .int .u64 0, .int .u64 0, .int .u64 0, .int .u64 0, .int .u64 0, .int .u64 0, .int .u64 0, .int .u64 0, .int .u64 0, .int .u64 0, .int .u64 0, .int .u64 0, .int .u64 0, .int .u64 0, .bool false] 41)) (grown_setRow (g := w2.heap.size) (w2.alloc (.cells #[.int .i64 0, .int .i64 0, .int .u32 0, .string ⟨#[]⟩, .slice none 0 0, .slice none 0 0, .int .u64 0, .int .u64 0, .int .u64 0, .int .u64 0, .int .u64 0, .int .u64 0, .int .u64 0, .int .u64 0, .int .u64 0, .int .u64 0, .int .u64 0, .int .u64 0, .int .u64 0, .int .u64 0, .int .u64 0, .int .u64 0, .int .u64 0, .bool false] 41)) (imgArr H S (.slice qs l.length cs) (.slice qd S.deps.length cd))) (Nat.le_refl _)
  have I3 := ZB.out.put (h := H) (s := S) (sv := .slice qs l.length cs) (dv := .slice qd S.deps.length cd)
  obtain ⟨w3, hw3⟩ : ∃ w3, (w2.alloc (.cells #[.int .i64 0, .int .i64 0, .int .u32 0, .string ⟨#[]⟩, .slice none 0 0, .slice none 0 0, .int .u64 0, .int .u64 0, .int .u64 0, .int .u64 0, .int .u64 0, .int .u64 0, .int .u64 0, .int .u64 0, .int .u64 0, .int .u64 0, .int .u64 0, .int .u64 0, .int .u64 0, .int .u64 0, .int .u64 0, .int .u64 0, .int .u64 0, .bool false] 41)).setRow w2.heap.size (imgArr H S (.slice qs l.length cs) (.slice qd S.deps.length cd)) = w3 := ⟨_, rfl⟩
  rw [hw3] at gN I3 ⊢
  have G3 := Lib.hid (grown_trans GA.out gN)
  have Z3 := Lib.hid (Z2.out.kept gN (by simp))
  have IM3 := Lib.hid I3
  have K3 := Lib.hid (K2.out.grown gN)
  have L3 := Lib.hid (L2.out.grown gN)
  clear gN I3 hw3 ZB Z2 GA L2 K2
  generalize w2.heap.size = p at *
  by_cases hE0 : E = 0
  rotate_left
  · have HNE := Lib.hid hE0
    have HX := Lib.hid (OE.out.trans (if_pos hE0))
    have d1 : (E != 0) = true := by simpa using hE0
    clear hE0
    go_wp2_with (refine wpList_store_img (h := Hx.zero) (s := St.zero) (sv := .slice none 0 0) (dv := .slice none 0 0) rfl _ _ rfl rfl rfl Z3.out ⟨_, _, _, rfl⟩ ⟨_, _, _, rfl⟩ ?_)
    go_wp2
    refine bodyPost_ret (results_img rfl rfl rfl (Z3.out.put (h := Hx.zero) (s := St.zero) (sv := .slice none 0 0) (dv := .slice none 0 0))) rfl ?_
    rw [HX.out]
    exact (HX.out ▸ NO.out E _ HX.out HNE.out (grown_new G3.out (grown_setRow _ _) (Nat.le_refl _)))
  subst hE0
  have OE := Lib.hid (OE.out.trans (if_neg (by decide)))
  have RE0 := R0.out rfl
  subst RE0
  clear R0
  go_wp2_with fail
  refine (RD.out _ G3.out).mono ?_
  rintro e w4 ⟨rfl, hg4⟩
  have G4 := Lib.hid (grown_trans G3.out hg4)
  have Z4 := Lib.hid (Z3.out.kept hg4 (by simp))
  have IM4 := Lib.hid (IM3.out.kept hg4 (by simp))
  have K4 := Lib.hid (K3.out.grown hg4)
  have L4 := Lib.hid (L3.out.grown hg4)
  clear hg4
  have MY := Lib.hid (May_any (h := H) (hd := (ZZ : Int)) (dv := .slice qd S.deps.length cd) K4.out FT.out.segs FT.out.spans FT.out.names UN.out ⟨_, _, _, rfl⟩)
  obtain ⟨M, hM⟩ : ∃ M, M = mayN H S (n : Int) (ZZ : Int) := ⟨_, rfl⟩
  rw [← hM] at MY OE
  clear hM
  go_wp2_with (first | refine wpList_load_imgI rfl _ rfl rfl IM4.out ?_ | fail)
  refine MY.out.mono ?_
  rintro e w5 ⟨rfl, hg5⟩
  have G5 := Lib.hid (grown_trans G4.out hg5)
  have Z5 := Lib.hid (Z4.out.kept hg5 (by simp))
  have IM5 := Lib.hid (IM4.out.kept hg5 (by simp))
  have L5 := Lib.hid (L4.out.grown hg5)
  clear hg5
  cases hm : (M != 0)
  rotate_left
  · have HNE := Lib.hid (show M ≠ 0 by simpa using hm)
    have HX := Lib.hid OE.out
    go_wp2_with (refine wpList_store_img (h := Hx.zero) (s := St.zero) (sv := .slice none 0 0) (dv := .slice none 0 0) rfl _ _ rfl rfl rfl Z5.out ⟨_, _, _, rfl⟩ ⟨_, _, _, rfl⟩ ?_)
    go_wp2
    refine bodyPost_ret (results_img rfl rfl rfl (Z5.out.put (h := Hx.zero) (s := St.zero) (sv := .slice none 0 0) (dv := .slice none 0 0))) rfl ?_
    rw [HX.out]
    exact (HX.out ▸ NO.out M _ HX.out HNE.out (grown_new G5.out (grown_setRow _ _) (Nat.le_refl _)))
  · have HX := Lib.hid (OE.out.trans (show M = 0 by simpa using hm))
    go_wp2_with (first | refine wpList_load_imgI rfl _ rfl rfl IM5.out ?_ | refine wpList_store_img (h := H) (s := S) (sv := .slice qs l.length cs) (dv := .slice qd S.deps.length cd) rfl _ _ rfl rfl rfl Z5.out ⟨_, _, _, rfl⟩ ⟨_, _, _, rfl⟩ ?_)
    go_wp2
    refine bodyPost_ret (results_img rfl rfl rfl (Z5.out.put (h := H) (s := S) (sv := .slice qs l.length cs) (dv := .slice qd S.deps.length cd))) rfl ?_
    rw [HX.out]
    exact (HX.out ▸ YES.out HX.out _ _ lo _ (L5.out.kept (grown_setRow _ _) Z5.out) (grown_new G5.out (grown_setRow _ _) (Nat.le_refl _)))

set_option maxHeartbeats 6400000 in
set_option maxRecDepth 20000 in
theorem rof_any (ys : List Int) (q : Option Addr) (c n : Nat) (h : IsBytes w q c ys) (hn : ys.length = n) (hc : n ≤ c) (hcm : c ≤ 9223372036854775807) (hn47 : n ≤ 140737488355328) (hr : Small ys) :
    Calls Tryz.prog 9 #[.slice q n c] w fun e w' => ∃ sv dv lo, e = .returned (.tuple #[imgV (ofH ys) (ofS ys) sv dv, .int .i64 (ofErr ys)]) ∧ Lists w' lo (ofS ys) sv dv ∧ w.grownBy w' none := by
  have g0 := grown1 w (.cells #[.int .i64 0, .int .i64 0, .int .u32 0, .string ⟨#[]⟩, .slice none 0 0, .slice none 0 0, .int .u64 0, .int .u64 0, .int .u64 0, .int .u64 0, .int .u64 0, .int .u64 0, .int .u64 0, .int .u64 0, .int .u64 0, .int .u64 0, .int .u64 0, .int .u64 0, .int .u64 0, .int .u64 0, .int .u64 0, .int .u64 0, .int .u64 0, .bool false] 41)
  have IM := Lib.hid (RefImage_all (w := w.alloc (.cells #[.int .i64 0, .int .i64 0, .int .u32 0, .string ⟨#[]⟩, .slice none 0 0, .slice none 0 0, .int .u64 0, .int .u64 0, .int .u64 0, .int .u64 0, .int .u64 0, .int .u64 0, .int .u64 0, .int .u64 0, .int .u64 0, .int .u64 0, .int .u64 0, .int .u64 0, .int .u64 0, .int .u64 0, .int .u64 0, .int .u64 0, .int .u64 0, .bool false] 41)) ys q c n (h.kept g0 (by simp)) hn hc hcm hn47 hr)
  have RD := Lib.hid (fun (V : World) (hg : w.grownBy V none) => RefRead_all (w := V) ys q c n (h.kept hg (by simp)) hn hc hcm hn47 hr)
  have Z0 := Lib.hid (ImgAt.new w)
  have G0 := Lib.hid g0
  have FT := Lib.hid (img_fit hr)
  have m1 : IntKind.u64.wrap (n : Int) = n := by rw [IntKind.wrap_u64]; omega
  have m2 : (n : Int) % 18446744073709551616 = n := by omega
  have UN := Lib.hid (show U64 (n : Int) from ⟨by omega, by omega⟩)
  have zl := readZ_lt hr
  have UZ := Lib.hid (show U64 (readZ ys : Int) from ⟨by omega, by omega⟩)
  have m3 : IntKind.u64.wrap (readZ ys : Int) = (readZ ys : Int) := by rw [IntKind.wrap_u64]; omega
  have m4 : (readZ ys : Int) % 18446744073709551616 = (readZ ys : Int) := by omega
  have OE := Lib.hid (show ofErr ys = if imgErr ys ≠ 0 then imgErr ys else mayN (imgH ys) (imgS ys) (n : Int) (readZ ys : Int) by rw [← hn]; rfl)
  have NO := Lib.hid (fun (er : Int) (W : World) (h1 : ofErr ys = er) (h0 : er ≠ 0) (hg : w.grownBy W none) => of_no h1 h0 W hg)
  have YES := Lib.hid (fun (h1 : ofErr ys = 0) (sv dv : Value) (lo : Nat) (W : World) (hL : Lists W lo (imgS ys) sv dv) (hg : w.grownBy W none) => of_yes h1 hL hg)
  have R0 := Lib.hid (fun hz => img_read0 (ys := ys) hz)
  obtain ⟨E, hE⟩ : ∃ E, E = imgErr ys := ⟨_, rfl⟩
  obtain ⟨RE, hRE⟩ : ∃ E, E = rdErr ys := ⟨_, rfl⟩
  obtain ⟨OEr, hOE⟩ : ∃ E, E = ofErr ys := ⟨_, rfl⟩
  obtain ⟨ZZ, hZZ⟩ : ∃ Z, Z = readZ ys := ⟨_, rfl⟩
  obtain ⟨H, hH⟩ : ∃ H, H = imgH ys := ⟨_, rfl⟩
  obtain ⟨S, hS⟩ : ∃ S, S = imgS ys := ⟨_, rfl⟩
  rw [← hE] at IM OE R0
  rw [← hRE] at RD R0
  rw [← hOE] at OE NO YES
  rw [← hZZ] at OE RD UZ m3 m4
  rw [← hH] at IM OE YES
  rw [← hS] at IM OE YES FT
  obtain ⟨⟨hs, hk, hf⟩, hh⟩ : ∃ z, z = readH ys := ⟨_, rfl⟩
  rw [← hh] at RD
  unfold Hd.v at RD
  simp only [] at RD
  clear hh
  have HOE := Lib.hid hOE
  rw [← hOE]
  obtain ⟨OH, hOH⟩ : ∃ x, x = ofH ys := ⟨_, rfl⟩
  obtain ⟨OS, hOS⟩ : ∃ x, x = ofS ys := ⟨_, rfl⟩
  rw [← hOH] at NO YES ⊢
  rw [← hOS] at NO YES ⊢
  clear h hn hr g0 zl hE hRE hOE hZZ hH hS HOE hOH hOS hn47
  go_enter Tryz.func9, Tryz.ntmps9
  go_wp2_with fail
  refine IM.out.mono ?_
  rintro e w2 ⟨sv, dv, lo, rfl, hL, hg⟩
  obtain ⟨l, qs, cs, rfl, hk, hcap⟩ := ImgRows.of2 hL
  obtain ⟨qd, cd, rfl⟩ := own_slice hL.deps
  have GA := Lib.hid (grown_trans G0.out hg)
  have Z2 := Lib.hid (Z0.out.kept hg (by simp))
  have ZB := Lib.hid (ImgAt.new w2)
  have L2 := Lib.hid hL
  have K2 := Lib.hid hk
  have CAP := Lib.hid hcap
  clear hL hk hcap hg
  go_upto_region 2 with (refine wpList_store_img (h := H) (s := S) (sv := .slice qs l.length cs) (dv := .slice qd S.deps.length cd) rfl _ _ rfl rfl rfl ZB.out ⟨_, _, _, rfl⟩ ⟨_, _, _, rfl⟩ ?_)
  have gN := grown_new (grown1 w2 (.cells #[.int .i64 0, .int .i64 0, .int .u32 0, .string ⟨#[]⟩, .slice none 0 0, .slice none 0 0, .int .u64 0, .int .u64 0, .int .u64 0, .int .u64 0, .int .u64 0, .int .u64 0, .int .u64 0, .int .u64 0, .int .u64 0, .int .u64 0, .int .u64 0, .int .u64 0, .int .u64 0, .int .u64 0, .int .u64 0, .int .u64 0, .int .u64 0, .bool false] 41)) (grown_setRow (g := w2.heap.size) (w2.alloc (.cells #[.int .i64 0, .int .i64 0, .int .u32 0, .string ⟨#[]⟩, .slice none 0 0, .slice none 0 0, .int .u64 0, .int .u64 0, .int .u64 0, .int .u64 0, .int .u64 0, .int .u64 0, .int .u64 0, .int .u64 0, .int .u64 0, .int .u64 0, .int .u64 0, .int .u64 0, .int .u64 0, .int .u64 0, .int .u64 0, .int .u64 0, .int .u64 0, .bool false] 41)) (imgArr H S (.slice qs l.length cs) (.slice qd S.deps.length cd))) (Nat.le_refl _)
  have I3 := ZB.out.put (h := H) (s := S) (sv := .slice qs l.length cs) (dv := .slice qd S.deps.length cd)
  obtain ⟨w3, hw3⟩ : ∃ w3, (w2.alloc (.cells #[.int .i64 0, .int .i64 0, .int .u32 0, .string ⟨#[]⟩, .slice none 0 0, .slice none 0 0, .int .u64 0, .int .u64 0, .int .u64 0, .int .u64 0, .int .u64 0, .int .u64 0, .int .u64 0, .int .u64 0, .int .u64 0, .int .u64 0, .int .u64 0, .int .u64 0, .int .u64 0, .int .u64 0, .int .u64 0, .int .u64 0, .int .u64 0, .bool false] 41)).setRow w2.heap.size (imgArr H S (.slice qs l.length cs) (.slice qd S.deps.length cd)) = w3 := ⟨_, rfl⟩
  rw [hw3] at gN I3 ⊢
  have G3 := Lib.hid (grown_trans GA.out gN)
  have Z3 := Lib.hid (Z2.out.kept gN (by simp))
  have IM3 := Lib.hid I3
  have K3 := Lib.hid (K2.out.grown gN)
  have L3 := Lib.hid (L2.out.grown gN)
  clear gN I3 hw3 ZB Z2 GA L2 K2
  generalize w2.heap.size = p at *
  by_cases hE0 : E = 0
  rotate_left
  · have HNE := Lib.hid hE0
    have HX := Lib.hid (OE.out.trans (if_pos hE0))
    have d1 : (E != 0) = true := by simpa using hE0
    clear hE0
    go_wp2_with (refine wpList_store_img (h := Hx.zero) (s := St.zero) (sv := .slice none 0 0) (dv := .slice none 0 0) rfl _ _ rfl rfl rfl Z3.out ⟨_, _, _, rfl⟩ ⟨_, _, _, rfl⟩ ?_)
    go_wp2
    refine bodyPost_ret (results_img rfl rfl rfl (Z3.out.put (h := Hx.zero) (s := St.zero) (sv := .slice none 0 0) (dv := .slice none 0 0))) rfl ?_
    rw [HX.out]
    exact (HX.out ▸ NO.out E _ HX.out HNE.out (grown_new G3.out (grown_setRow _ _) (Nat.le_refl _)))
  subst hE0
  have OE := Lib.hid (OE.out.trans (if_neg (by decide)))
  have RE0 := R0.out rfl
  subst RE0
  clear R0
  go_wp2_with fail
  refine (RD.out _ G3.out).mono ?_
  rintro e w4 ⟨pre, qa, ca, hpl, rfl, hI, hpc, hcm2, hF, hg4'⟩
  have hg4 := grown_trans hg4' (grown1 w4 (.cells #[.int .i64 hs, .int .i64 hk, .int .u32 hf] 68))
  have G4 := Lib.hid (grown_trans G3.out hg4)
  have Z4 := Lib.hid (Z3.out.kept hg4 (by simp))
  have IM4 := Lib.hid (IM3.out.kept hg4 (by simp))
  have K4 := Lib.hid (K3.out.grown hg4)
  have L4 := Lib.hid (L3.out.grown hg4)
  clear hg4 hg4' hpl hI hpc hcm2 hF
  have MY := Lib.hid (rMay_any (h := H) (hd := (ZZ : Int)) (dv := .slice qd S.deps.length cd) K4.out FT.out.segs FT.out.spans UN.out UZ.out CAP.out)
  obtain ⟨M, hM⟩ : ∃ M, M = mayN H S (n : Int) (ZZ : Int) := ⟨_, rfl⟩
  rw [← hM] at MY OE
  clear hM
  go_upto_region 5 with fail
  obtain ⟨w4', hw4⟩ : ∃ x, w4.alloc (.cells #[.int .i64 hs, .int .i64 hk, .int .u32 hf] 68) = x := ⟨_, rfl⟩
  rw [hw4] at G4 Z4 IM4 K4 L4 MY ⊢
  clear hw4
  go_wp2_with (first | refine wpList_load_imgI rfl _ rfl rfl IM4.out ?_ | fail)
  refine MY.out.mono ?_
  rintro e w5 ⟨rfl, hg5⟩
  have G5 := Lib.hid (grown_trans G4.out hg5)
  have Z5 := Lib.hid (Z4.out.kept hg5 (by simp))
  have IM5 := Lib.hid (IM4.out.kept hg5 (by simp))
  have L5 := Lib.hid (L4.out.grown hg5)
  clear hg5
  cases hm : (M != 0)
  rotate_left
  · have HNE := Lib.hid (show M ≠ 0 by simpa using hm)
    have HX := Lib.hid OE.out
    go_wp2_with (refine wpList_store_img (h := Hx.zero) (s := St.zero) (sv := .slice none 0 0) (dv := .slice none 0 0) rfl _ _ rfl rfl rfl Z5.out ⟨_, _, _, rfl⟩ ⟨_, _, _, rfl⟩ ?_)
    go_wp2
    refine bodyPost_ret (results_img rfl rfl rfl (Z5.out.put (h := Hx.zero) (s := St.zero) (sv := .slice none 0 0) (dv := .slice none 0 0))) rfl ?_
    rw [HX.out]
    exact (HX.out ▸ NO.out M _ HX.out HNE.out (grown_new G5.out (grown_setRow _ _) (Nat.le_refl _)))
  · have HX := Lib.hid (OE.out.trans (show M = 0 by simpa using hm))
    go_wp2_with (first | refine wpList_load_imgI rfl _ rfl rfl IM5.out ?_ | refine wpList_store_img (h := H) (s := S) (sv := .slice qs l.length cs) (dv := .slice qd S.deps.length cd) rfl _ _ rfl rfl rfl Z5.out ⟨_, _, _, rfl⟩ ⟨_, _, _, rfl⟩ ?_)
    go_wp2
    refine bodyPost_ret (results_img rfl rfl rfl (Z5.out.put (h := H) (s := S) (sv := .slice qs l.length cs) (dv := .slice qd S.deps.length cd))) rfl ?_
    rw [HX.out]
    exact (HX.out ▸ YES.out HX.out _ _ lo _ (L5.out.kept (grown_setRow _ _) Z5.out) (grown_new G5.out (grown_setRow _ _) (Nat.le_refl _)))
end Go.Proofs.YtdagnkdonlfobaaGreat

/- What an image's segments are, slid: they may be laid one after the other, none on another. Condition: the bytes are an image that may be. -/
namespace Go.Proofs.YtdagnkdonlfobaaGreat
variable {σ : Spc}

def layOf (ys : List Int) (sl : Int) (x : Seg) : LayS := ⟨(seatM sl x).1, (seatM sl x).2, x.prot, partN ys x.off x.fsize⟩
def laysOf (ys : List Int) (l : List Seg) (sl : Int) : List LayS := (l.filter laidS).map (layOf ys sl)
theorem solid_segs {l : List Sg} {segs : List Seg} (h : l.map Sg.seg = segs) : (solidSg l).map Sg.seg = segs.filter laidS := by
  rw [← h]; unfold solidSg
  rw [List.filter_map]; rfl
theorem lays_seats {l : List Sg} {segs : List Seg} (h : l.map Sg.seg = segs) (ys : List Int) (sl : Int) : (laysOf ys segs sl).map LayS.seat = seatsM l sl := by
  unfold laysOf seatsM
  rw [← solid_segs h, List.map_map, List.map_map]; rfl

/-- Segments that may be. -/
structure SegsMay (segs : List Seg) (n : Int) : Prop where
  prot : ∀ x ∈ segs, protOk x = true
  size : ∀ x ∈ segs, sizeOk x n = true
  rise : segs.Pairwise RiseR
  front : ∃ x ∈ segs, laidS x = true
  fit : ∀ x ∈ segs, SegFit x
theorem segs_may {ys : List Int} (hs : Small ys) (h : ofErr ys = 0) : SegsMay (ofS ys).segs ys.length := by
  have hi : imgErr ys = 0 := by
    rcases Classical.em (imgErr ys = 0) with e | e
    · exact e
    · unfold ofErr at h; rw [if_pos e] at h; exact absurd h e
  have hm : mayN (imgH ys) (imgS ys) ys.length (readZ ys : Int) = 0 := by
    unfold ofErr at h; rw [if_neg (by simp [hi])] at h; exact h
  have hsg : ofS ys = imgS ys := by unfold ofS; rw [if_pos h]
  rw [hsg]
  have hok : segsOk (imgS ys) ys.length (readZ ys) = true := by
    cases hk : segsOk (imgS ys) ys.length (readZ ys)
    · unfold mayN at hm; rw [if_pos hk] at hm; cases hm
    · rfl
  unfold segsOk at hok
  simp only [Bool.and_eq_true, decide_eq_true_eq] at hok
  obtain ⟨⟨⟨h1, h2⟩, h3⟩, h4⟩ := hok
  refine ⟨List.all_eq_true.1 h1, List.all_eq_true.1 h2, h3, ?_, (img_fit hs).segs.seg⟩
  unfold frontOk at h4
  cases hf : (imgS ys).segs.find? laidS with
  | none => rw [hf] at h4; cases h4
  | some x => exact ⟨x, List.mem_of_find?_eq_some hf, by simpa using List.find?_some hf⟩
theorem SegsMay.sizes {segs : List Seg} {n : Int} (m : SegsMay segs n) {x : Seg} (hx : x ∈ segs) : x.addr % 4096 = 0 ∧ x.size % 4096 = 0 ∧ 0 < x.size ∧ x.fsize ≤ x.size ∧ x.off + x.fsize ≤ n ∧ x.addr + x.size ≤ 140737488355328 ∧ 0 ≤ x.addr ∧ 0 ≤ x.off ∧ 0 ≤ x.fsize := by
  have h := m.size x hx
  have f := m.fit x hx
  have f1 := f.addr; have f2 := f.off; have f3 := f.fsize
  unfold sizeOk withinN at h
  simp only [Bool.and_eq_true, decide_eq_true_eq, beq_iff_eq] at h
  unfold U64 at f1 f2 f3
  obtain ⟨⟨⟨⟨⟨h1, h2⟩, h3⟩, h4⟩, h5⟩, h6⟩ := h
  exact ⟨h1, h2, h3, h4, h5, h6, f1.1, f2.1, f3.1⟩
theorem may_lay {ys : List Int} {segs : List Seg} (m : SegsMay segs ys.length) {sl : Nat} (hsl : sl % 4096 = 0) : ∀ y ∈ laysOf ys segs sl, MayLay y := by
  intro y hy
  obtain ⟨x, hx, rfl⟩ := List.mem_map.1 hy
  obtain ⟨hx1, hx2⟩ := List.mem_filter.1 hx
  obtain ⟨h1, h2, h3, h4, h5, h6, h7, h8, h9⟩ := m.sizes hx1
  have hp := m.prot x hx1
  refine ⟨⟨?_, ?_, ?_⟩, ?_, ?_⟩
  · show ((x.addr + sl) % 18446744073709551616).toNat % 4096 = 0
    omega
  · show x.size.toNat % 4096 = 0
    omega
  · show 0 < x.size.toNat
    omega
  · show 1 ≤ x.prot ∧ x.prot ≤ 7
    unfold protOk at hp
    unfold laidS at hx2
    simp only [Bool.or_eq_true, Bool.and_eq_true, decide_eq_true_eq, beq_iff_eq, bne_iff_ne] at hp hx2
    omega
  · show (partN ys x.off x.fsize).length ≤ x.size.toNat
    unfold partN
    split
    · simp; omega
    · simp
theorem seat_disj {segs : List Seg} {n : Int} (m : SegsMay segs n) (ys : List Int) (sl : Nat) (hb : ∀ x ∈ (laysOf ys segs sl).map LayS.seat, x.1 + x.2 ≤ 140737488355328) : ((laysOf ys segs sl).map LayS.seat).Pairwise Disj := by
  unfold laysOf at hb ⊢
  rw [List.map_map] at hb ⊢
  rw [List.pairwise_map]
  refine List.Pairwise.imp_of_mem ?_ (m.rise.filter laidS)
  intro x y hx hy hr
  have hx1 := (List.mem_filter.1 hx).1
  have hy1 := (List.mem_filter.1 hy).1
  obtain ⟨_, _, h3, _, _, h6, h7, _, _⟩ := m.sizes hx1
  obtain ⟨_, _, k3, _, _, k6, k7, _, _⟩ := m.sizes hy1
  have bx := hb _ (List.mem_map_of_mem hx)
  have by' := hb _ (List.mem_map_of_mem hy)
  have hr2 := hr.2
  left
  change ((x.addr + sl) % 18446744073709551616).toNat + x.size.toNat ≤ 140737488355328 at bx
  change ((y.addr + sl) % 18446744073709551616).toNat + y.size.toNat ≤ 140737488355328 at by'
  show ((x.addr + sl) % 18446744073709551616).toNat + x.size.toNat ≤ ((y.addr + sl) % 18446744073709551616).toNat
  omega
theorem solid_pos {segs : List Seg} {n : Int} (m : SegsMay segs n) {l : List Sg} (h : l.map Sg.seg = segs) : 0 < (solidSg l).length := by
  obtain ⟨x, hx, hl⟩ := m.front
  have : x ∈ (solidSg l).map Sg.seg := by rw [solid_segs h]; exact List.mem_filter.2 ⟨hx, hl⟩
  obtain ⟨y, hy, _⟩ := List.mem_map.1 this
  exact List.length_pos_of_mem hy
theorem solid_size {segs : List Seg} {n : Int} (m : SegsMay segs n) {l : List Sg} (h : l.map Sg.seg = segs) : ∀ x ∈ solidSg l, 0 ≤ x.seg.size := by
  intro x hx
  have h1 : x ∈ l := (List.mem_filter.1 hx).1
  have h2 : x.seg ∈ segs := by rw [← h]; exact List.mem_map_of_mem h1
  have := (m.sizes h2).2.2.1
  omega
/-- What lay.Fits answers. -/
theorem fits_is {ys : List Int} {segs : List Seg} (m : SegsMay segs ys.length) {l : List Sg} (h : l.map Sg.seg = segs) {sl : Nat} (hsl : sl % 4096 = 0) (hK : σ.K ≤ 8192) {xs : List (Nat × Nat)} (hp : xs.Perm (seatsM l sl)) (hs : xs.Pairwise (fun x y => x.1 ≤ y.1)) :
    fits3 σ xs = fitErr σ ((laysOf ys segs sl).map LayS.seat) := by
  rw [← lays_seats h ys sl] at hp
  refine fits_eq hp hs (fun x hx => ?_) (fun hb => seat_disj m ys sl hb) hK
  obtain ⟨y, hy, rfl⟩ := List.mem_map.1 hx
  exact (may_lay m hsl y hy).paged

theorem fine_run {l : List (List Int)} {k : Nat} {s : St} (h : FineK k s) (h0 : runE s l = 0) : FineK (k + l.length) (runS s l) := by
  induction l generalizing k s with
  | nil => exact h
  | cons b l ih =>
    have h1 : stepE s b = 0 := by
      rcases Classical.em (stepE s b = 0) with e | e
      · exact e
      · unfold runE at h0; rw [if_neg e] at h0; exact absurd h0 e
    have h2 : runE (stepS s b) l = 0 := by unfold runE at h0; rw [if_pos h1] at h0; exact h0
    have := ih (fine_step h h1) h2
    rw [List.length_cons, Nat.add_comm l.length 1, ← Nat.add_assoc]
    exact this
theorem few_segs (ys : List Int) : (ofS ys).segs.length ≤ 16 := by
  unfold ofS
  split
  · rename_i h
    have hi : imgErr ys = 0 := by
      rcases Classical.em (imgErr ys = 0) with e | e
      · exact e
      · unfold ofErr at h; rw [if_pos e] at h; exact absurd h e
    have e1 : imgS ys = imgSt ys := by unfold imgS; rw [if_pos hi]
    rw [e1]
    unfold imgSt
    have h0 : runE St.zero (imgBs ys) = 0 := by
      unfold imgErr at hi
      split at hi
      · rename_i hh; exact absurd hi hh
      · exact hi
    exact (fine_run FineK.zero h0).segs
  · exact Nat.zero_le _
end Go.Proofs.YtdagnkdonlfobaaGreat

/- lay.Lay, walked. Conditions: bytes, wherever they lie, but not in the space; a space in memory. -/
namespace Go.Proofs.YtdagnkdonlfobaaGreat
open Go.RowKit Go.Sort
variable {w w' W : World} {F : Nat → Prop} {σ : Spc} {h : Hx} {s : St} {sv dv : Value}

theorem RowSg.chg {q : Option Addr} {l : List Sg} (h : RowSg w q l) (hg : Chg F w w') (hb : ∀ g, q = some ⟨g, 0, none⟩ → ¬ F g) : RowSg w' q l := fun i x hx => by
  obtain ⟨g, e, c0, c1, c2, c3, c4, c5, c6⟩ := h i x hx
  have hk := fun (o : Nat) (v : Value) (hc : w.cell? ⟨g, o, none⟩ = some v) => ((cell_block (hg.block g (block_lt_of_cell hc) (hb g e))).trans hc : w'.cell? ⟨g, o, none⟩ = some v)
  exact ⟨g, e, hk _ _ c0, hk _ _ c1, hk _ _ c2, hk _ _ c3, hk _ _ c4, hk _ _ c5, hk _ _ c6⟩
theorem IsBytes.chg {q : Option Addr} {c : Nat} {ys : List Int} (h : IsBytes w q c ys) (hg : Chg F w w') (hb : 0 < ys.length → ∀ a, q = some a → ¬ F a.block) : IsBytes w' q c ys :=
  ⟨h.1, fun h0 => by
    obtain ⟨b, o, e, hc⟩ := h.2 h0
    exact ⟨b, o, e, fun i hi => (cell_block (hg.block b (block_lt_of_cell (hc i hi)) (hb h0 _ e))).trans (hc i hi)⟩⟩
/-- What is answered. -/
def layErr (σ : Spc) (ys : List Int) (sl : Nat) : Int := if sl % 4096 ≠ 0 then 2 else if ofErr ys ≠ 0 then ofErr ys else fitErr σ ((laysOf ys (ofS ys).segs sl).map LayS.seat)
structure LayOut (w w' : World) (F : Nat → Prop) (a : Nat) (σ : Spc) (ys : List Int) (sl : Nat) (e : Ending) : Prop where
  ret : e = .returned (.int .i64 (layErr σ ys sl))
  done : layErr σ ys sl = 0 → SpcAt w' (Foot F w w') a (layL σ (laysOf ys (ofS ys).segs sl))
  left : layErr σ ys sl ≠ 0 → SpcAt w' (Foot F w w') a σ
  chg : Chg F w w'
theorem lay_no {a : Nat} {ys : List Int} {sl : Nat} {er : Int} (hs : SpcAt w F a σ) (h : layErr σ ys sl = er) (h0 : er ≠ 0) (hg : w.grownBy w' none) : LayOut w w' F a σ ys sl (.returned (.int .i64 er)) :=
  ⟨by rw [h], fun e => absurd (h.symm.trans e) h0, fun _ => (spc_kept hs hg (by simp)).mono (fun k hk => .inl hk), Chg.of_grown hg (fun _ h => by cases h)⟩
/-- Bytes of one's own, as what is written. -/
theorem apart_own {q : Option Addr} {lo c : Nat} {ys : List Int} (h : w.ownsRow lo 5 1 (.slice q ys.length c) ys.length (ys.map (Value.int .u8))) (hF : ∀ k, F k → k < lo) : Apart w F q c ys := by
  obtain ⟨_, hn | ⟨g, cap, cur, hv, hlo, hg, hle, _, hs, ht⟩⟩ := h
  · injection hn.1 with h1 h2 h3
    exact ⟨fun _ => h3, fun h0 => absurd hn.2 (by omega)⟩
  · injection hv with h1 _ h3
    refine ⟨fun e => (by rw [h1] at e; cases e), fun h0 => ⟨g, 0, h1, lt_of_block hg, fun hf => (by have := hF g hf; omega), fun i hi => ?_⟩⟩
    rw [Nat.zero_add, cell_of hg]
    have : (ys.map (Value.int .u8))[i]? = some (.int .u8 (ys.getD i 0)) := by
      rw [List.getElem?_map, List.getElem?_eq_getElem hi]
      simp [List.getD, hi]
    rw [← ht, List.getElem?_take_of_lt (by omega)] at this
    simpa using this

set_option maxRecDepth 20000 in
set_option maxHeartbeats 3200000 in
theorem Lay_any (ys : List Int) (q : Option Addr) (c n a : Nat) (hb : IsBytes w q c ys) (hn : ys.length = n) (hc : n ≤ c) (hcm : c ≤ 9223372036854775807) (hn47 : n ≤ 1000000) (hr : Small ys) (sl : Nat) (hsl64 : sl < 18446744073709551616) (hs : SpcAt w F a σ) (hF : ∀ k, F k → k < w.heap.size) (hq : 0 < ys.length → ∀ x, q = some x → ¬ F x.block ∧ x.block < w.heap.size) :
    Calls Tryz.prog 12 #[.pointer (some ⟨a, 0, none⟩), .slice q n c, .int .u64 sl] w fun e w' => LayOut w w' F a σ ys sl e := by
  subst hn
  have MA := Lib.hid (fun V => mayAsk_any (some ⟨a, 0, none⟩) sl V)
  have SS := Lib.hid hs
  have FF := Lib.hid hF
  by_cases h4 : sl % 4096 = 0
  rotate_left
  · have E := Lib.hid (show askErr (some ⟨a, 0, none⟩) sl = 2 by unfold askErr; simp [h4])
    have L := Lib.hid (show layErr σ ys sl = 2 from if_pos h4)
    rw [E.out] at MA
    clear E hb hr hs hF hq h4
    go_enter Tryz.func12, Tryz.ntmps12
    go_wp2_with fail
    refine (MA.out _).mono ?_
    rintro e w1 ⟨rfl, rfl⟩
    go_wp2
    go_ret
    exact lay_no SS.out L.out (by decide) (grown_refl w none)
  have E := Lib.hid (show askErr (some ⟨a, 0, none⟩) sl = 0 by unfold askErr; simp [h4])
  rw [E.out] at MA
  have OF := Lib.hid (of_any ys q c ys.length hb rfl hc hcm (by omega) hr)
  have BY := Lib.hid hb
  have BQ := Lib.hid hq
  have SM := Lib.hid hr
  have H4 := Lib.hid h4
  have H64 := Lib.hid hsl64
  have HCC := Lib.hid hc
  have HCM := Lib.hid hcm
  have H47 := Lib.hid hn47
  have LE := Lib.hid (show layErr σ ys sl = if ofErr ys ≠ 0 then ofErr ys else fitErr σ ((laysOf ys (ofS ys).segs sl).map LayS.seat) from if_neg (by simpa using h4))
  obtain ⟨oe, hoe⟩ : ∃ x, x = ofErr ys := ⟨_, rfl⟩
  obtain ⟨oS, hoS⟩ : ∃ x, x = ofS ys := ⟨_, rfl⟩
  obtain ⟨oH, hoH⟩ : ∃ x, x = ofH ys := ⟨_, rfl⟩
  rw [← hoe, ← hoS] at LE
  rw [← hoe, ← hoS, ← hoH] at OF
  have OEr := Lib.hid hoe
  have OSr := Lib.hid hoS
  clear E hb hr hs hF hq h4 hsl64 hoe hoS hoH
  generalize hnn : ys.length = n at *
  have LNY := Lib.hid hnn
  clear hnn
  go_enter Tryz.func12, Tryz.ntmps12
  go_wp2_with fail
  refine (MA.out _).mono ?_
  rintro e w1 ⟨rfl, rfl⟩
  go_wp2_with fail
  refine OF.out.mono ?_
  rintro e w2 ⟨sv, dv, lo, rfl, hL, hg⟩
  obtain ⟨l, qs, cs, rfl, hk, hcap⟩ := ImgRows.of2 hL
  obtain ⟨qd, cd, rfl⟩ := own_slice hL.deps
  have GA := Lib.hid hg
  have ZB := Lib.hid (ImgAt.new w2)
  have K2 := Lib.hid hk
  clear hL hk hcap hg OF MA hc hcm hn47
  go_upto_region 5 with (refine wpList_store_img (h := oH) (s := oS) (sv := .slice qs l.length cs) (dv := .slice qd oS.deps.length cd) rfl _ _ rfl rfl rfl ZB.out ⟨_, _, _, rfl⟩ ⟨_, _, _, rfl⟩ ?_)
  have gN := grown_new (grown1 w2 (.cells #[.int .i64 0, .int .i64 0, .int .u32 0, .string ⟨#[]⟩, .slice none 0 0, .slice none 0 0, .int .u64 0, .int .u64 0, .int .u64 0, .int .u64 0, .int .u64 0, .int .u64 0, .int .u64 0, .int .u64 0, .int .u64 0, .int .u64 0, .int .u64 0, .int .u64 0, .int .u64 0, .int .u64 0, .int .u64 0, .int .u64 0, .int .u64 0, .bool false] 41)) (grown_setRow (g := w2.heap.size) (w2.alloc (.cells #[.int .i64 0, .int .i64 0, .int .u32 0, .string ⟨#[]⟩, .slice none 0 0, .slice none 0 0, .int .u64 0, .int .u64 0, .int .u64 0, .int .u64 0, .int .u64 0, .int .u64 0, .int .u64 0, .int .u64 0, .int .u64 0, .int .u64 0, .int .u64 0, .int .u64 0, .int .u64 0, .int .u64 0, .int .u64 0, .int .u64 0, .int .u64 0, .bool false] 41)) (imgArr oH oS (.slice qs l.length cs) (.slice qd oS.deps.length cd))) (Nat.le_refl _)
  have I3 := ZB.out.put (h := oH) (s := oS) (sv := .slice qs l.length cs) (dv := .slice qd oS.deps.length cd)
  obtain ⟨w3, hw3⟩ : ∃ w3, (w2.alloc (.cells #[.int .i64 0, .int .i64 0, .int .u32 0, .string ⟨#[]⟩, .slice none 0 0, .slice none 0 0, .int .u64 0, .int .u64 0, .int .u64 0, .int .u64 0, .int .u64 0, .int .u64 0, .int .u64 0, .int .u64 0, .int .u64 0, .int .u64 0, .int .u64 0, .int .u64 0, .int .u64 0, .int .u64 0, .int .u64 0, .int .u64 0, .int .u64 0, .bool false] 41)).setRow w2.heap.size (imgArr oH oS (.slice qs l.length cs) (.slice qd oS.deps.length cd)) = w3 := ⟨_, rfl⟩
  rw [hw3] at gN I3 ⊢
  have G3 := Lib.hid (grown_trans GA.out gN)
  have IM3 := Lib.hid I3
  have K3 := Lib.hid (K2.out.grown gN)
  clear gN I3 hw3 ZB GA K2
  generalize w2.heap.size = p at *
  by_cases hE0 : oe = 0
  rotate_left
  · have HNE := Lib.hid hE0
    have HX := Lib.hid (LE.out.trans (if_pos hE0))
    have d1 : (oe == 0) = false := by simpa using hE0
    clear hE0
    go_wp2
    go_ret
    exact lay_no SS.out HX.out HNE.out G3.out
  have LE2 := Lib.hid (LE.out.trans (if_neg (by simpa using hE0)))
  have SMY := Lib.hid (show SegsMay oS.segs ys.length from OSr.out ▸ segs_may SM.out (OEr.out ▸ hE0))
  have LN := Lib.hid (show l.length ≤ 16 by rw [← List.length_map (f := Sg.seg), K3.out.segs, OSr.out]; exact few_segs ys)
  have FI := Lib.hid (Fits_any (h := oH) (dv := .slice qd oS.deps.length cd) K3.out (Nat.le_trans LN.out (by decide)) sl (solid_pos SMY.out K3.out.segs) (solid_size SMY.out K3.out.segs) (spc_kept SS.out G3.out (by simp)) (fun k hk => Nat.lt_of_lt_of_le (FF.out k hk) G3.out.size))
  subst hE0
  clear LE
  go_wp2_with (first | refine wpList_load_imgI rfl _ rfl rfl IM3.out ?_ | fail)
  refine FI.out.mono ?_
  rintro e w4 ⟨⟨xs, hp, hso, rfl⟩, hg4⟩
  rw [if_pos H4.out, fits_is SMY.out K3.out.segs H4.out SS.out.fits.few hp hso, ← LE2.out]
  have G4 := Lib.hid (grown_trans G3.out hg4)
  have IM4 := Lib.hid (IM3.out.kept hg4 (by simp))
  have K4 := Lib.hid (K3.out.grown hg4)
  clear hp hso hg4 IM3 K3 FI
  obtain ⟨er, her⟩ : ∃ x, layErr σ ys sl = x := ⟨_, rfl⟩
  rw [her]
  by_cases he0 : er = 0
  rotate_left
  · have HER := Lib.hid her
    have HE0 := Lib.hid he0
    have d1 : (er == 0) = false := by simpa using he0
    clear her he0
    go_wp2
    go_ret
    exact lay_no SS.out HER.out HE0.out G4.out
  subst he0
  have LE3 := Lib.hid her
  have FE := Lib.hid (LE2.out.symm.trans her)
  have SO := Lib.hid (solid_any (h := oH) (dv := .slice qd oS.deps.length cd) K4.out (Nat.le_trans LN.out (by decide)))
  clear her LE2
  go_wp2_with (first | refine wpList_load_imgI rfl _ rfl rfl IM4.out ?_ | fail)
  refine SO.out.mono ?_
  rintro e w5 ⟨v, rfl, ho, hg5⟩
  obtain ⟨q2, c2, rfl⟩ := own_slice ho
  have R5 := Lib.hid (rowSg_of ho)
  have R5b := Lib.hid (fun g' (e : q2 = some ⟨g', 0, none⟩) => (show w.heap.size ≤ g' from Nat.le_trans G4.out.size (Nat.le_trans (Nat.le_succ _) (ho.lt g' (by rw [e]; rfl)).1)))
  have M5 := Lib.hid (own_most ho)
  have C5 := Lib.hid (own_room ho)
  have G5 := Lib.hid (grown_trans G4.out hg5)
  have S5 := Lib.hid (spc_kept SS.out G5.out (by simp))
  have SG := Lib.hid (solid_segs K4.out.segs)
  obtain ⟨L, hL⟩ : ∃ L, L = solidSg l := ⟨_, rfl⟩
  rw [← hL] at SG R5 M5 C5 ⊢
  obtain ⟨D, hD⟩ : ∃ D, D = laysOf ys oS.segs sl := ⟨_, rfl⟩
  have DM := Lib.hid (show D = L.map (fun x => layOf ys sl x.seg) by rw [hD]; unfold laysOf; rw [← SG.out, List.map_map]; rfl)
  have DN := Lib.hid (show D.length = L.length by rw [DM.out, List.length_map])
  have MAY := Lib.hid (show ∀ y ∈ D, MayLay y by rw [hD]; exact may_lay SMY.out H4.out)
  have ALL := Lib.hid (show fitErr σ (D.map LayS.seat) = 0 by rw [hD]; exact FE.out)
  have DIS := Lib.hid (show (D.map LayS.seat).Pairwise Disj by
    rw [hD]; refine seat_disj SMY.out ys sl ?_
    have := FE.out
    unfold fitErr at this
    split at this
    · cases this
    · rename_i hh; exact Classical.not_not.1 hh)
  have LFIT := Lib.hid (show ∀ x ∈ L, SegFit x.seg ∧ 0 < x.seg.size from fun x hx => by
    have : x.seg ∈ oS.segs := by
      have h1 : x.seg ∈ L.map Sg.seg := List.mem_map_of_mem hx
      rw [SG.out] at h1
      exact (List.mem_filter.1 h1).1
    exact ⟨SMY.out.fit _ this, (SMY.out.sizes this).2.2.1⟩)
  have FIN := Lib.hid (show laysOf ys (ofS ys).segs sl = D by rw [hD, OSr.out])
  clear ho hg5 hL hD SO IM4 K4 FE SMY SG G4 G3
  obtain ⟨N, hN⟩ : ∃ N, N = L.length := ⟨_, rfl⟩
  rw [← hN] at M5 C5 DN ⊢
  have HN := Lib.hid hN
  have hcN : N ≤ c2 := C5.out
  have hfN : N ≤ 9223372036854775807 := M5.out
  clear hN
  generalize imgV oH oS (.slice qs l.length cs) (.slice qd oS.deps.length cd) = v1 at *
  go_wp2
  go_loopw [37] (fun i wr => ∃ k1 : Nat, k1 ≤ N ∧ i = .int .i64 k1 ∧ SpcAt wr (Foot F w5 wr) a (layL σ (D.take k1)) ∧ Chg F w5 wr) (fun i _ => N - (intOf i).toNat)
  case atStart => exact ⟨0, Nat.zero_le _, rfl, S5.out.mono (fun k hk => .inl hk), Chg.refl _ _⟩
  case round =>
    obtain ⟨k1, hk, rfl, hsp, hch⟩ := hrel
    by_cases hlt : k1 < N
    · obtain ⟨x, hx⟩ : ∃ x, L[k1]? = some x := ⟨_, List.getElem?_eq_getElem (HN.out ▸ hlt)⟩
      obtain ⟨gq, rfl, a0, a1, a2, a3, a4, a5, a6⟩ := (R5.out.chg hch (fun g' e hf => by have := R5b.out g' e; have := FF.out g' hf; omega)).at hx
      have dl : decide ((k1 : Int) < (N : Int)) = true := by simp; omega
      have hkl : (k1 : Int) < (N : Int) := by omega
      have hmem := List.mem_of_getElem? hx
      obtain ⟨hfit, hpos⟩ := LFIT.out x hmem
      have XD : D[k1]? = some (layOf ys sl x.seg) := by rw [DM.out, List.getElem?_map, hx]; rfl
      obtain ⟨hkD, XDe⟩ := List.getElem?_eq_some_iff.1 XD
      have TK := Lib.hid (show layL σ (D.take (k1 + 1)) = layF (layL σ (D.take k1)) (layOf ys sl x.seg) by
        rw [List.take_succ_eq_append_getElem hkD, XDe, layL_snoc])
      have SPL : D = D.take k1 ++ layOf ys sl x.seg :: D.drop (k1 + 1) := by
        rw [← XDe, ← List.drop_eq_getElem_cons hkD, List.take_append_drop]
      obtain ⟨m1, m2, m3⟩ := lay_step SPL MAY.out DIS.out ALL.out
      obtain ⟨⟨nm, ad, sz, of, fs, pr, sc⟩, q1, c1⟩ := x
      obtain ⟨A, hA⟩ : ∃ A, A = (layOf ys sl ⟨nm, ad, sz, of, fs, pr, sc⟩).at' := ⟨_, rfl⟩
      obtain ⟨Z, hZ⟩ : ∃ Z, Z = (layOf ys sl ⟨nm, ad, sz, of, fs, pr, sc⟩).sz := ⟨_, rfl⟩
      obtain ⟨B, hB⟩ : ∃ B, B = (layOf ys sl ⟨nm, ad, sz, of, fs, pr, sc⟩).bs := ⟨_, rfl⟩
      have hpr : (layOf ys sl ⟨nm, ad, sz, of, fs, pr, sc⟩).pr = pr := rfl
      have TK2 := Lib.hid (show layL σ (D.take (k1 + 1)) = ((layL σ (D.take k1)).lays (A / 4096) (Z / 4096) pr).put A B by rw [TK.out, hA, hZ, hB]; rfl)
      rw [← hA, ← hZ, hpr] at m1
      rw [← hA, ← hZ, ← hB, hpr] at m2
      rw [← hA, ← hZ] at m3
      simp only [] at a0 a1 a2 a3 a4 a5 a6 hpos
      have f1 := hfit.addr; have f2 := hfit.size; have f3 := hfit.off; have f4 := hfit.fsize
      unfold U64 at f1 f2 f3 f4
      simp only [] at f1 f2 f3 f4
      have hA2 : IntKind.u64.wrap (ad + (sl : Int)) = (A : Int) := by
        rw [IntKind.wrap_u64, hA]
        show (ad + (sl : Int)) % 18446744073709551616 = (((ad + (sl : Int)) % 18446744073709551616).toNat : Int)
        omega
      have hZ2 : sz = (Z : Int) := by
        rw [hZ]; show sz = (sz.toNat : Int); omega
      obtain ⟨OFN, hof⟩ : ∃ n : Nat, of = n := ⟨of.toNat, by omega⟩
      obtain ⟨FSN, hfs⟩ : ∃ n : Nat, fs = n := ⟨fs.toNat, by omega⟩
      have hBP : B = partN ys OFN FSN := by rw [hB]; show partN ys of fs = _; rw [hof, hfs]
      have hlen : OFN < 18446744073709551616 ∧ FSN < 18446744073709551616 ∧ A < 18446744073709551616 := by omega
      clear hA hZ hB hpr XD hkD XDe SPL hfit hmem TK hpos f1 f2 f3 f4
      subst hZ2 hof hfs
      have p5 : SegAt (wr.alloc (.cells #[.string (strOfNums nm), .int .u64 ad, .int .u64 Z, .int .u64 OFN, .int .u64 FSN, .int .i64 pr, .slice q1 sc.length c1] 58)) wr.heap.size ⟨nm, ad, Z, OFN, FSN, pr, sc⟩ (.slice q1 sc.length c1) := heap_alloc_new wr _
      have g5 := grown1 wr (.cells #[.string (strOfNums nm), .int .u64 ad, .int .u64 Z, .int .u64 OFN, .int .u64 FSN, .int .i64 pr, .slice q1 sc.length c1] 58)
      have sp5 := spc_kept hsp g5 (by simp)
      have ch5 : Chg F w5 (wr.alloc (.cells #[.string (strOfNums nm), .int .u64 ad, .int .u64 Z, .int .u64 OFN, .int .u64 FSN, .int .i64 pr, .slice q1 sc.length c1] 58)) := hch.trans (Chg.of_grown g5 (fun _ h => by cases h))
      obtain ⟨V, hV⟩ : ∃ V, wr.alloc (.cells #[.string (strOfNums nm), .int .u64 ad, .int .u64 Z, .int .u64 OFN, .int .u64 FSN, .int .i64 pr, .slice q1 sc.length c1] 58) = V := ⟨_, rfl⟩
      obtain ⟨cb, hcb⟩ : ∃ c, wr.heap.size = c := ⟨_, rfl⟩
      have hVs : V.heap.size = cb + 1 := by rw [← hV, World.size_alloc, hcb]
      have hw5c : w5.heap.size ≤ cb := by rw [← hcb]; exact hch.size
      have hFc : ∀ k, Foot F w5 wr k → k < cb := fun k hk => hk.elim (fun h => by have := FF.out k h; have := G5.out.size; omega) (fun h => hcb ▸ h.2)
      rw [hV] at p5 sp5 ch5
      rw [hcb] at p5
      have P5 := Lib.hid p5
      have HV := Lib.hid hV
      have HC := Lib.hid hcb
      have MP := Lib.hid (map_any sp5 A Z pr)
      have ME := Lib.hid m1
      have NF := Lib.hid hFc
      have CH5 := Lib.hid ch5
      have FILL := Lib.hid (show ∀ w6 w7 V7 cc7, SpcAt w6 (Foot (Foot F w5 wr) V w6) a ((layL σ (D.take k1)).lays (A / 4096) (Z / 4096) pr) → Chg (Foot F w5 wr) V w6 → w6.grownBy w7 none → w7.ownsRow w6.heap.size 5 1 (.slice V7 B.length cc7) B.length (B.map (Value.int .u8)) →
          Calls Tryz.prog 32 #[.pointer (some ⟨a, 0, none⟩), .int .u64 A, .slice V7 B.length cc7] w7 fun e w8 => e = .returned (.int .i64 0) ∧ SpcAt w8 (Foot F w5 w8) a (layL σ (D.take (k1 + 1))) ∧ Chg F w5 w8 ∧ w8.heap[cb]? = w6.heap[cb]? from by
        intro w6 w7 V7 cc7 s6 ch6 hg7 ho7
        have hsz6 : cb < w6.heap.size := by have := ch6.size; omega
        have hF6 : ∀ k, Foot (Foot F w5 wr) V w6 k → k < w6.heap.size := fun k hk => hk.elim (fun h => by have := hFc k h; omega) (fun h => h.2)
        refine (fill_any (spc_kept s6 hg7 (by simp)) A hlen.2.2 B B.length rfl V7 cc7 (own_room ho7) (own_max ho7) (by rw [hBP]; exact partN_small SM.out _ _) (apart_own ho7 hF6) (fun k hk => Nat.lt_of_lt_of_le (hF6 k hk) hg7.size)).mono ?_
        rintro e w8 ⟨rfl, hd, _, ch8⟩
        rw [m2]
        refine ⟨rfl, ?_, ?_, ?_⟩
        · rw [TK2.out]
          refine (hd m2).mono (fun k hk => ?_)
          have h8 : w6.heap.size ≤ w8.heap.size := Nat.le_trans hg7.size ch8.size
          rcases hk with hk | hk
          · rcases hk with hk | hk
            · exact .inl hk
            · exact .inr ⟨hk.1, by have := hFc k (.inr hk); omega⟩
          · exact .inr ⟨by omega, by omega⟩
        · have hsz : w5.heap.size ≤ w6.heap.size := by omega
          refine ⟨?_, ?_, ?_, Nat.le_trans hsz (Nat.le_trans hg7.size ch8.size), fun k hk hf => ?_⟩
          · exact ch8.os.trans (hg7.os.trans (ch6.os.trans ch5.os))
          · exact ch8.tape.trans (hg7.tape.trans (ch6.tape.trans ch5.tape))
          · exact ch8.output.trans (hg7.output.trans (ch6.output.trans ch5.output))
          · have k1 : ¬ Foot F w5 wr k := fun h => h.elim hf (fun h => by omega)
            have k2 : ¬ Foot (Foot F w5 wr) V w6 k := fun h => h.elim k1 (fun h => by omega)
            have e8 := ch8.block k (Nat.lt_of_lt_of_le hk (Nat.le_trans hsz hg7.size)) k2
            have e7 := hg7.block k (Nat.lt_of_lt_of_le hk hsz) (by simp)
            have e6 := ch6.block k (by omega) k1
            have e5 := ch5.block k hk hf
            exact e8.trans (e7.trans (e6.trans e5))
        · have k2 : ¬ Foot (Foot F w5 wr) V w6 cb := fun h => h.elim (fun h => by have := hFc cb h; omega) (fun h => by omega)
          exact (ch8.block cb (Nat.lt_of_lt_of_le hsz6 hg7.size) k2).trans (hg7.block cb hsz6 (by simp)))
      have PART := Lib.hid (show ∀ w6 w6', Chg (Foot F w5 wr) V w6 → w6.grownBy w6' none → Calls Tryz.prog 33 #[.slice q n c, .agg #[.int .u64 OFN, .int .u64 FSN]] w6' fun e w7 => ∃ V7 cc, e = .returned (.slice V7 B.length cc) ∧ w7.ownsRow w6'.heap.size 5 1 (.slice V7 B.length cc) B.length (B.map (Value.int .u8)) ∧ w6'.grownBy w7 none from by
        intro w6 w6' ch6 hg6
        have hb5 := (BY.out.kept G5.out (by simp)).chg ch5 (fun h0 x hx => (BQ.out (LNY.out ▸ h0) x hx).1)
        have hb6 := (hb5.chg ch6 (fun h0 x hx hf => hf.elim (BQ.out (LNY.out ▸ h0) x hx).1 (fun h => by have := (BQ.out (LNY.out ▸ h0) x hx).2; have := G5.out.size; omega))).kept hg6 (by simp)
        have hp := Part_any hb6 (by rw [LNY.out]; exact HCC.out) HCM.out (by rw [LNY.out]; exact Nat.le_trans H47.out (by decide)) OFN FSN hlen.1 hlen.2.1
        rw [LNY.out, ← hBP] at hp
        exact hp)
      clear hch ch5 sp5 p5 g5 hsp hVs hw5c hFc hBP hlen m1 m2 m3 hV hcb hx
      go_upto_region 13 with fail
      rw [HV.out, HC.out]
      have gl5 := P5.out.lt
      obtain ⟨y0, y1, y2, y3, y4, y5, y6⟩ := P5.out.c
      simp only [] at y0 y1 y2 y3 y4 y5 y6
      clear a0 a1 a2 a3 a4 a5 a6
      go_wp2_with fail
      refine MP.out.mono ?_
      rintro e w6 ⟨rfl, hd, _, ch6⟩
      rw [ME.out]
      have S6 := Lib.hid (hd ME.out)
      have C6 := Lib.hid ch6
      have k6 : w6.heap[cb]? = V.heap[cb]? := ch6.block cb gl5 (fun h => by have := NF.out cb h; omega)
      have b6 : w6.heap[cb]? = some (.cells #[.string (strOfNums nm), .int .u64 ad, .int .u64 Z, .int .u64 OFN, .int .u64 FSN, .int .i64 pr, .slice q1 sc.length c1] 58 (0, 0)) := k6.trans P5.out
      have z1 : w6.cell? ⟨cb, 1, none⟩ = some (.int .u64 ad) := by rw [cell_of b6]; rfl
      have z3 : w6.cell? ⟨cb, 3, none⟩ = some (.int .u64 OFN) := by rw [cell_of b6]; rfl
      have z4 : w6.cell? ⟨cb, 4, none⟩ = some (.int .u64 FSN) := by rw [cell_of b6]; rfl
      have zl := lt_of_block b6
      have B6 := Lib.hid b6
      clear hd ch6 k6 b6 y0 y1 y2 y3 y4 y5 y6 gl5
      go_wp2_with fail
      have cz1 : w6.drew.cell? ⟨cb, 1, none⟩ = some (.int .u64 ad) := z1
      have cz3 : w6.drew.cell? ⟨cb, 3, none⟩ = some (.int .u64 OFN) := z3
      have cz4 : w6.drew.cell? ⟨cb, 4, none⟩ = some (.int .u64 FSN) := z4
      have czl : cb < w6.drew.heap.size := zl
      have PA := Lib.hid (PART.out w6 w6.drew C6.out (grown_drewN (grown_refl w6 none) 1))
      have FI := Lib.hid (fun w7 V7 cc7 (hg : w6.drew.grownBy w7 none) ho => FILL.out w6 w7 V7 cc7 S6.out C6.out (grown_trans (grown_drewN (grown_refl w6 none) 1) hg) ho)
      go_region_held3 (fun X => X.cell? ⟨cb, 1, none⟩ = some (.int .u64 ad) ∧ X.cell? ⟨cb, 3, none⟩ = some (.int .u64 OFN) ∧ X.cell? ⟨cb, 4, none⟩ = some (.int .u64 FSN))
        (first | exact ⟨cz1, cz3, cz4⟩ | exact ⟨e1, e3, e4⟩ | exact ⟨h1, h3, h4⟩)
        (first
          | (go_simp; go_at_call 33; refine PA.out.mono ?_; rintro e w7 ⟨V7, cc7, rfl, ho7, hg7⟩; have e1 := grown_cell hg7 cz1; have e3 := grown_cell hg7 cz3; have e4 := grown_cell hg7 cz4)
          | (go_simp; go_at_call 32; refine (FI.out w7 V7 cc7 hg7 ho7).mono ?_; rintro e w8 ⟨rfl, sp8, ch8, k8⟩; have b8 := k8.trans B6.out; have h1 : w8.cell? ⟨cb, 1, none⟩ = some (.int .u64 ad) := (by rw [cell_of b8]; rfl); have h3 : w8.cell? ⟨cb, 3, none⟩ = some (.int .u64 OFN) := (by rw [cell_of b8]; rfl); have h4 : w8.cell? ⟨cb, 4, none⟩ = some (.int .u64 FSN) := (by rw [cell_of b8]; rfl)))
      all_goals
        have SP8 := Lib.hid sp8
        have CH8 := Lib.hid ch8
        clear sp8 ch8 k8 b8 h1 h3 h4
        go_wp2
        go_roundw
      case rel => exact ⟨k1 + 1, hlt, by go_num, SP8.out, CH8.out⟩
      case measure => simp [intOf]; omega
    · have hk' : k1 = N := by omega
      subst hk'
      have dl : decide ((k1 : Int) < (k1 : Int)) = false := by simp
      have HF := Lib.hid (show layL σ (D.take k1) = layL σ (laysOf ys (ofS ys).segs sl) by rw [FIN.out, ← DN.out, List.take_length])
      have SP := Lib.hid hsp
      have CH := Lib.hid hch
      clear hsp hch
      go_wp2
      go_ret
      refine ⟨by rw [LE3.out]; rfl, fun _ => ?_, fun h => absurd LE3.out h, ?_⟩
      · rw [← HF.out]
        exact SP.out.mono (fun k hk => hk.elim .inl (fun h => .inr ⟨Nat.le_trans G5.out.size h.1, h.2⟩))
      · exact (Chg.of_grown G5.out (fun _ h => by cases h)).trans CH.out
end Go.Proofs.YtdagnkdonlfobaaGreat
