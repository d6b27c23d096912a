import Derived.Test.YtemdbfgpimfkdaaGreatM17
import Derived.Test.YtemdbfgpimfkdaaGreatM21
import Derived.Test.YtemdbfgpimfkdaaGreatM13
import Derived.ProofKit
import Derived.OpenShut
import Derived.ShutString
import Derived.ChangeOld
import Derived.Below
import Derived.ChangeSame
import Derived.Lib.SmallJoins
/- An image that bytes are: what the program and the document say, the same. No condition but that there are at most 2^47 bytes. -/
namespace Go.Proofs.YtemdbfgpimfkdaaGreat
open Go.RowKit
variable {w w' : World}

noncomputable section
def ofErr (ys : List Int) : Int := if imgErr ys ≠ 0 then imgErr ys else mayN (imgH ys) (imgS ys) (ys.length : Int) (readZ ys : Int)
def ofH (ys : List Int) : Hx := if ofErr ys = 0 then imgH ys else Hx.zero
def ofS (ys : List Int) : St := if ofErr ys = 0 then imgS ys else St.zero
end
theorem img_read0 {ys : List Int} (h : imgErr ys = 0) : rdErr ys = 0 := by
  unfold imgErr at h
  split at h
  · rename_i h0; exact absurd h h0
  · rename_i h0; omega
theorem lists_zero (w : World) : Lists w w.heap.size St.zero (.slice none 0 0) (.slice none 0 0) := ⟨⟨[], rfl, World.ownsRow_nil _ _ _ _, fun x hx => (by cases hx)⟩, World.ownsRow_nil _ _ _ _⟩
/-- What is answered where there is an error. -/
theorem of_no {ys : List Int} {er : Int} (h : ofErr ys = er) (h0 : er ≠ 0) (W : World) (hg : w.grownBy W none) :
    ∃ sv dv lo, Ending.returned (.tuple #[imgV Hx.zero St.zero (.slice none 0 0) (.slice none 0 0), .int .i64 er]) = Ending.returned (.tuple #[imgV (ofH ys) (ofS ys) sv dv, .int .i64 (ofErr ys)]) ∧ Lists W lo (ofS ys) sv dv ∧ w.grownBy W none := by
  unfold ofH ofS
  rw [if_neg (by rw [h]; exact h0), if_neg (by rw [h]; exact h0), h]
  exact ⟨_, _, W.heap.size, rfl, lists_zero W, hg⟩
theorem of_yes {ys : List Int} (h : ofErr ys = 0) {sv dv : Value} {lo : Nat} {W : World} (hL : Lists W lo (imgS ys) sv dv) (hg : w.grownBy W none) :
    ∃ sv' dv' lo', Ending.returned (.tuple #[imgV (imgH ys) (imgS ys) sv dv, .int .i64 0]) = Ending.returned (.tuple #[imgV (ofH ys) (ofS ys) sv' dv', .int .i64 (ofErr ys)]) ∧ Lists W lo' (ofS ys) sv' dv' ∧ w.grownBy W none := by
  unfold ofH ofS
  rw [if_pos h, if_pos h, h]
  exact ⟨_, _, lo, rfl, hL, hg⟩
theorem imgApart2 : 42 ≠ 32 := by decide

set_option maxHeartbeats 6400000 in
set_option maxRecDepth 20000 in
theorem of_any (ys : List Int) (q : Option Addr) (c n : Nat) (h : IsBytes w q c ys) (hn : ys.length = n) (hc : n ≤ c) (hcm : c ≤ 9223372036854775807) (hn47 : n ≤ 140737488355328) (hr : Small ys) :
    Calls Tryz.prog 5 #[.slice q n c] w fun e w' => ∃ sv dv lo, e = .returned (.tuple #[imgV (ofH ys) (ofS ys) sv dv, .int .i64 (ofErr ys)]) ∧ Lists w' lo (ofS ys) sv dv ∧ w.grownBy w' none := by
  have g0 := grown1 w (.cells #[.int .i64 0, .int .i64 0, .int .u32 0, .string ⟨#[]⟩, .slice none 0 0, .slice none 0 0, .int .u64 0, .int .u64 0, .int .u64 0, .int .u64 0, .int .u64 0, .int .u64 0, .int .u64 0, .int .u64 0, .int .u64 0, .int .u64 0, .int .u64 0, .int .u64 0, .int .u64 0, .int .u64 0, .int .u64 0, .int .u64 0, .int .u64 0, .bool false] 32)
  have IM := Lib.hid (Image_all (w := w.alloc (.cells #[.int .i64 0, .int .i64 0, .int .u32 0, .string ⟨#[]⟩, .slice none 0 0, .slice none 0 0, .int .u64 0, .int .u64 0, .int .u64 0, .int .u64 0, .int .u64 0, .int .u64 0, .int .u64 0, .int .u64 0, .int .u64 0, .int .u64 0, .int .u64 0, .int .u64 0, .int .u64 0, .int .u64 0, .int .u64 0, .int .u64 0, .int .u64 0, .bool false] 32)) ys q c n (h.kept g0 (by simp)) hn hc hcm hn47 hr)
  have RD := Lib.hid (fun (V : World) (hg : w.grownBy V none) => Size_all (w := V) ys q c n (h.kept hg (by simp)) hn hc hcm hn47 hr)
  have Z0 := Lib.hid (ImgAt.new w)
  have G0 := Lib.hid g0
  have FT := Lib.hid (img_fit hr)
  have m1 : IntKind.u64.wrap (n : Int) = n := by rw [IntKind.wrap_u64]; omega
  have m2 : (n : Int) % 18446744073709551616 = n := by omega
  have UN := Lib.hid (show U64 (n : Int) from ⟨by omega, by omega⟩)
  have zl := readZ_lt hr
  have UZ := Lib.hid (show U64 (readZ ys : Int) from ⟨by omega, by omega⟩)
  have m3 : IntKind.u64.wrap (readZ ys : Int) = (readZ ys : Int) := by rw [IntKind.wrap_u64]; omega
  have m4 : (readZ ys : Int) % 18446744073709551616 = (readZ ys : Int) := by omega
  have OE := Lib.hid (show ofErr ys = if imgErr ys ≠ 0 then imgErr ys else mayN (imgH ys) (imgS ys) (n : Int) (readZ ys : Int) by rw [← hn]; rfl)
  have NO := Lib.hid (fun (er : Int) (W : World) (h1 : ofErr ys = er) (h0 : er ≠ 0) (hg : w.grownBy W none) => of_no h1 h0 W hg)
  have YES := Lib.hid (fun (h1 : ofErr ys = 0) (sv dv : Value) (lo : Nat) (W : World) (hL : Lists W lo (imgS ys) sv dv) (hg : w.grownBy W none) => of_yes h1 hL hg)
  have R0 := Lib.hid (fun hz => img_read0 (ys := ys) hz)
  obtain ⟨E, hE⟩ : ∃ E, E = imgErr ys := ⟨_, rfl⟩
  obtain ⟨RE, hRE⟩ : ∃ E, E = rdErr ys := ⟨_, rfl⟩
  obtain ⟨OEr, hOE⟩ : ∃ E, E = ofErr ys := ⟨_, rfl⟩
  obtain ⟨ZZ, hZZ⟩ : ∃ Z, Z = readZ ys := ⟨_, rfl⟩
  obtain ⟨H, hH⟩ : ∃ H, H = imgH ys := ⟨_, rfl⟩
  obtain ⟨S, hS⟩ : ∃ S, S = imgS ys := ⟨_, rfl⟩
  rw [← hE] at IM OE R0
  rw [← hRE] at RD R0
  rw [← hOE] at OE NO YES
  rw [← hZZ] at OE RD UZ m3 m4
  rw [← hH] at IM OE YES
  rw [← hS] at IM OE YES FT
  have HOE := Lib.hid hOE
  rw [← hOE]
  obtain ⟨OH, hOH⟩ : ∃ x, x = ofH ys := ⟨_, rfl⟩
  obtain ⟨OS, hOS⟩ : ∃ x, x = ofS ys := ⟨_, rfl⟩
  rw [← hOH] at NO YES ⊢
  rw [← hOS] at NO YES ⊢
  clear h hn hr g0 zl hE hRE hOE hZZ hH hS HOE hOH hOS hn47
  go_enter Tryz.func5, Tryz.ntmps5
  go_wp2_with fail
  refine IM.out.mono ?_
  rintro e w2 ⟨sv, dv, lo, rfl, hL, hg⟩
  obtain ⟨l, qs, cs, rfl, hk, hcap⟩ := ImgRows.of2 hL
  obtain ⟨qd, cd, rfl⟩ := own_slice hL.deps
  have GA := Lib.hid (grown_trans G0.out hg)
  have Z2 := Lib.hid (Z0.out.kept hg (by simp))
  have ZB := Lib.hid (ImgAt.new w2)
  have L2 := Lib.hid hL
  have K2 := Lib.hid hk
  have CAP := Lib.hid hcap
  clear hL hk hcap hg
  go_upto_region 2 with (refine wpList_store_img (h := H) (s := S) (sv := .slice qs l.length cs) (dv := .slice qd S.deps.length cd) rfl _ _ rfl rfl rfl ZB.out ⟨_, _, _, rfl⟩ ⟨_, _, _, rfl⟩ ?_)
  have gN := grown_new (grown1 w2 (.cells #[.int .i64 0, .int .i64 0, .int .u32 0, .string ⟨#[]⟩, .slice none 0 0, .slice none 0 0, .int .u64 0, .int .u64 0, .int .u64 0, .int .u64 0, .int .u64 0, .int .u64 0, .int .u64 0, .int .u64 0, .int .u64 0, .int .u64 0, .int .u64 0, .int .u64 0, .int .u64 0, .int .u64 0, .int .u64 0, .int .u64 0, .int .u64 0, .bool false] 32)) (grown_setRow (g := w2.heap.size) (w2.alloc (.cells #[.int .i64 0, .int .i64 0, .int .u32 0, .string ⟨#[]⟩, .slice none 0 0, .slice none 0 0, .int .u64 0, .int .u64 0, .int .u64 0, .int .u64 0, .int .u64 0, .int .u64 0, .int .u64 0, .int .u64 0, .int .u64 0, .int .u64 0, .int .u64 0, .int .u64 0, .int .u64 0, .int .u64 0, .int .u64 0, .int .u64 0, .int .u64 0, .bool false] 32)) (imgArr H S (.slice qs l.length cs) (.slice qd S.deps.length cd))) (Nat.le_refl _)
  have I3 := ZB.out.put (h := H) (s := S) (sv := .slice qs l.length cs) (dv := .slice qd S.deps.length cd)
  obtain ⟨w3, hw3⟩ : ∃ w3, (w2.alloc (.cells #[.int .i64 0, .int .i64 0, .int .u32 0, .string ⟨#[]⟩, .slice none 0 0, .slice none 0 0, .int .u64 0, .int .u64 0, .int .u64 0, .int .u64 0, .int .u64 0, .int .u64 0, .int .u64 0, .int .u64 0, .int .u64 0, .int .u64 0, .int .u64 0, .int .u64 0, .int .u64 0, .int .u64 0, .int .u64 0, .int .u64 0, .int .u64 0, .bool false] 32)).setRow w2.heap.size (imgArr H S (.slice qs l.length cs) (.slice qd S.deps.length cd)) = w3 := ⟨_, rfl⟩
  rw [hw3] at gN I3 ⊢
  have G3 := Lib.hid (grown_trans GA.out gN)
  have Z3 := Lib.hid (Z2.out.kept gN (by simp))
  have IM3 := Lib.hid I3
  have K3 := Lib.hid (K2.out.grown gN)
  have L3 := Lib.hid (L2.out.grown gN)
  clear gN I3 hw3 ZB Z2 GA L2 K2
  generalize w2.heap.size = p at *
  by_cases hE0 : E = 0
  rotate_left
  · have HNE := Lib.hid hE0
    have HX := Lib.hid (OE.out.trans (if_pos hE0))
    have d1 : (E != 0) = true := by simpa using hE0
    clear hE0
    go_wp2_with (refine wpList_store_img (h := Hx.zero) (s := St.zero) (sv := .slice none 0 0) (dv := .slice none 0 0) rfl _ _ rfl rfl rfl Z3.out ⟨_, _, _, rfl⟩ ⟨_, _, _, rfl⟩ ?_)
    go_wp2
    refine bodyPost_ret (results_img rfl rfl rfl (Z3.out.put (h := Hx.zero) (s := St.zero) (sv := .slice none 0 0) (dv := .slice none 0 0))) rfl ?_
    rw [HX.out]
    exact (HX.out ▸ NO.out E _ HX.out HNE.out (grown_new G3.out (grown_setRow _ _) (Nat.le_refl _)))
  subst hE0
  have OE := Lib.hid (OE.out.trans (if_neg (by decide)))
  have RE0 := R0.out rfl
  subst RE0
  clear R0
  go_wp2_with fail
  refine (RD.out _ G3.out).mono ?_
  rintro e w4 ⟨rfl, hg4⟩
  have G4 := Lib.hid (grown_trans G3.out hg4)
  have Z4 := Lib.hid (Z3.out.kept hg4 (by simp))
  have IM4 := Lib.hid (IM3.out.kept hg4 (by simp))
  have K4 := Lib.hid (K3.out.grown hg4)
  have L4 := Lib.hid (L3.out.grown hg4)
  clear hg4
  have MY := Lib.hid (May_any (h := H) (hd := (ZZ : Int)) (dv := .slice qd S.deps.length cd) K4.out FT.out.segs FT.out.spans FT.out.names UN.out ⟨_, _, _, rfl⟩)
  obtain ⟨M, hM⟩ : ∃ M, M = mayN H S (n : Int) (ZZ : Int) := ⟨_, rfl⟩
  rw [← hM] at MY OE
  clear hM
  go_wp2_with (first | refine wpList_load_imgI rfl _ rfl rfl IM4.out ?_ | fail)
  refine MY.out.mono ?_
  rintro e w5 ⟨rfl, hg5⟩
  have G5 := Lib.hid (grown_trans G4.out hg5)
  have Z5 := Lib.hid (Z4.out.kept hg5 (by simp))
  have IM5 := Lib.hid (IM4.out.kept hg5 (by simp))
  have L5 := Lib.hid (L4.out.grown hg5)
  clear hg5
  cases hm : (M != 0)
  rotate_left
  · have HNE := Lib.hid (show M ≠ 0 by simpa using hm)
    have HX := Lib.hid OE.out
    go_wp2_with (refine wpList_store_img (h := Hx.zero) (s := St.zero) (sv := .slice none 0 0) (dv := .slice none 0 0) rfl _ _ rfl rfl rfl Z5.out ⟨_, _, _, rfl⟩ ⟨_, _, _, rfl⟩ ?_)
    go_wp2
    refine bodyPost_ret (results_img rfl rfl rfl (Z5.out.put (h := Hx.zero) (s := St.zero) (sv := .slice none 0 0) (dv := .slice none 0 0))) rfl ?_
    rw [HX.out]
    exact (HX.out ▸ NO.out M _ HX.out HNE.out (grown_new G5.out (grown_setRow _ _) (Nat.le_refl _)))
  · have HX := Lib.hid (OE.out.trans (show M = 0 by simpa using hm))
    go_wp2_with (first | refine wpList_load_imgI rfl _ rfl rfl IM5.out ?_ | refine wpList_store_img (h := H) (s := S) (sv := .slice qs l.length cs) (dv := .slice qd S.deps.length cd) rfl _ _ rfl rfl rfl Z5.out ⟨_, _, _, rfl⟩ ⟨_, _, _, rfl⟩ ?_)
    go_wp2
    refine bodyPost_ret (results_img rfl rfl rfl (Z5.out.put (h := H) (s := S) (sv := .slice qs l.length cs) (dv := .slice qd S.deps.length cd))) rfl ?_
    rw [HX.out]
    exact (HX.out ▸ YES.out HX.out _ _ lo _ (L5.out.kept (grown_setRow _ _) Z5.out) (grown_new G5.out (grown_setRow _ _) (Nat.le_refl _)))

set_option maxHeartbeats 6400000 in
set_option maxRecDepth 20000 in
theorem rof_any (ys : List Int) (q : Option Addr) (c n : Nat) (h : IsBytes w q c ys) (hn : ys.length = n) (hc : n ≤ c) (hcm : c ≤ 9223372036854775807) (hn47 : n ≤ 140737488355328) (hr : Small ys) :
    Calls Tryz.prog 6 #[.slice q n c] w fun e w' => ∃ sv dv lo, e = .returned (.tuple #[imgV (ofH ys) (ofS ys) sv dv, .int .i64 (ofErr ys)]) ∧ Lists w' lo (ofS ys) sv dv ∧ w.grownBy w' none := by
  have g0 := grown1 w (.cells #[.int .i64 0, .int .i64 0, .int .u32 0, .string ⟨#[]⟩, .slice none 0 0, .slice none 0 0, .int .u64 0, .int .u64 0, .int .u64 0, .int .u64 0, .int .u64 0, .int .u64 0, .int .u64 0, .int .u64 0, .int .u64 0, .int .u64 0, .int .u64 0, .int .u64 0, .int .u64 0, .int .u64 0, .int .u64 0, .int .u64 0, .int .u64 0, .bool false] 32)
  have IM := Lib.hid (RefImage_all (w := w.alloc (.cells #[.int .i64 0, .int .i64 0, .int .u32 0, .string ⟨#[]⟩, .slice none 0 0, .slice none 0 0, .int .u64 0, .int .u64 0, .int .u64 0, .int .u64 0, .int .u64 0, .int .u64 0, .int .u64 0, .int .u64 0, .int .u64 0, .int .u64 0, .int .u64 0, .int .u64 0, .int .u64 0, .int .u64 0, .int .u64 0, .int .u64 0, .int .u64 0, .bool false] 32)) ys q c n (h.kept g0 (by simp)) hn hc hcm hn47 hr)
  have RD := Lib.hid (fun (V : World) (hg : w.grownBy V none) => RefRead_all (w := V) ys q c n (h.kept hg (by simp)) hn hc hcm hn47 hr)
  have Z0 := Lib.hid (ImgAt.new w)
  have G0 := Lib.hid g0
  have FT := Lib.hid (img_fit hr)
  have m1 : IntKind.u64.wrap (n : Int) = n := by rw [IntKind.wrap_u64]; omega
  have m2 : (n : Int) % 18446744073709551616 = n := by omega
  have UN := Lib.hid (show U64 (n : Int) from ⟨by omega, by omega⟩)
  have zl := readZ_lt hr
  have UZ := Lib.hid (show U64 (readZ ys : Int) from ⟨by omega, by omega⟩)
  have m3 : IntKind.u64.wrap (readZ ys : Int) = (readZ ys : Int) := by rw [IntKind.wrap_u64]; omega
  have m4 : (readZ ys : Int) % 18446744073709551616 = (readZ ys : Int) := by omega
  have OE := Lib.hid (show ofErr ys = if imgErr ys ≠ 0 then imgErr ys else mayN (imgH ys) (imgS ys) (n : Int) (readZ ys : Int) by rw [← hn]; rfl)
  have NO := Lib.hid (fun (er : Int) (W : World) (h1 : ofErr ys = er) (h0 : er ≠ 0) (hg : w.grownBy W none) => of_no h1 h0 W hg)
  have YES := Lib.hid (fun (h1 : ofErr ys = 0) (sv dv : Value) (lo : Nat) (W : World) (hL : Lists W lo (imgS ys) sv dv) (hg : w.grownBy W none) => of_yes h1 hL hg)
  have R0 := Lib.hid (fun hz => img_read0 (ys := ys) hz)
  obtain ⟨E, hE⟩ : ∃ E, E = imgErr ys := ⟨_, rfl⟩
  obtain ⟨RE, hRE⟩ : ∃ E, E = rdErr ys := ⟨_, rfl⟩
  obtain ⟨OEr, hOE⟩ : ∃ E, E = ofErr ys := ⟨_, rfl⟩
  obtain ⟨ZZ, hZZ⟩ : ∃ Z, Z = readZ ys := ⟨_, rfl⟩
  obtain ⟨H, hH⟩ : ∃ H, H = imgH ys := ⟨_, rfl⟩
  obtain ⟨S, hS⟩ : ∃ S, S = imgS ys := ⟨_, rfl⟩
  rw [← hE] at IM OE R0
  rw [← hRE] at RD R0
  rw [← hOE] at OE NO YES
  rw [← hZZ] at OE RD UZ m3 m4
  rw [← hH] at IM OE YES
  rw [← hS] at IM OE YES FT
  obtain ⟨⟨hs, hk, hf⟩, hh⟩ : ∃ z, z = readH ys := ⟨_, rfl⟩
  rw [← hh] at RD
  unfold Hd.v at RD
  simp only [] at RD
  clear hh
  have HOE := Lib.hid hOE
  rw [← hOE]
  obtain ⟨OH, hOH⟩ : ∃ x, x = ofH ys := ⟨_, rfl⟩
  obtain ⟨OS, hOS⟩ : ∃ x, x = ofS ys := ⟨_, rfl⟩
  rw [← hOH] at NO YES ⊢
  rw [← hOS] at NO YES ⊢
  clear h hn hr g0 zl hE hRE hOE hZZ hH hS HOE hOH hOS hn47
  go_enter Tryz.func6, Tryz.ntmps6
  go_wp2_with fail
  refine IM.out.mono ?_
  rintro e w2 ⟨sv, dv, lo, rfl, hL, hg⟩
  obtain ⟨l, qs, cs, rfl, hk, hcap⟩ := ImgRows.of2 hL
  obtain ⟨qd, cd, rfl⟩ := own_slice hL.deps
  have GA := Lib.hid (grown_trans G0.out hg)
  have Z2 := Lib.hid (Z0.out.kept hg (by simp))
  have ZB := Lib.hid (ImgAt.new w2)
  have L2 := Lib.hid hL
  have K2 := Lib.hid hk
  have CAP := Lib.hid hcap
  clear hL hk hcap hg
  go_upto_region 2 with (refine wpList_store_img (h := H) (s := S) (sv := .slice qs l.length cs) (dv := .slice qd S.deps.length cd) rfl _ _ rfl rfl rfl ZB.out ⟨_, _, _, rfl⟩ ⟨_, _, _, rfl⟩ ?_)
  have gN := grown_new (grown1 w2 (.cells #[.int .i64 0, .int .i64 0, .int .u32 0, .string ⟨#[]⟩, .slice none 0 0, .slice none 0 0, .int .u64 0, .int .u64 0, .int .u64 0, .int .u64 0, .int .u64 0, .int .u64 0, .int .u64 0, .int .u64 0, .int .u64 0, .int .u64 0, .int .u64 0, .int .u64 0, .int .u64 0, .int .u64 0, .int .u64 0, .int .u64 0, .int .u64 0, .bool false] 32)) (grown_setRow (g := w2.heap.size) (w2.alloc (.cells #[.int .i64 0, .int .i64 0, .int .u32 0, .string ⟨#[]⟩, .slice none 0 0, .slice none 0 0, .int .u64 0, .int .u64 0, .int .u64 0, .int .u64 0, .int .u64 0, .int .u64 0, .int .u64 0, .int .u64 0, .int .u64 0, .int .u64 0, .int .u64 0, .int .u64 0, .int .u64 0, .int .u64 0, .int .u64 0, .int .u64 0, .int .u64 0, .bool false] 32)) (imgArr H S (.slice qs l.length cs) (.slice qd S.deps.length cd))) (Nat.le_refl _)
  have I3 := ZB.out.put (h := H) (s := S) (sv := .slice qs l.length cs) (dv := .slice qd S.deps.length cd)
  obtain ⟨w3, hw3⟩ : ∃ w3, (w2.alloc (.cells #[.int .i64 0, .int .i64 0, .int .u32 0, .string ⟨#[]⟩, .slice none 0 0, .slice none 0 0, .int .u64 0, .int .u64 0, .int .u64 0, .int .u64 0, .int .u64 0, .int .u64 0, .int .u64 0, .int .u64 0, .int .u64 0, .int .u64 0, .int .u64 0, .int .u64 0, .int .u64 0, .int .u64 0, .int .u64 0, .int .u64 0, .int .u64 0, .bool false] 32)).setRow w2.heap.size (imgArr H S (.slice qs l.length cs) (.slice qd S.deps.length cd)) = w3 := ⟨_, rfl⟩
  rw [hw3] at gN I3 ⊢
  have G3 := Lib.hid (grown_trans GA.out gN)
  have Z3 := Lib.hid (Z2.out.kept gN (by simp))
  have IM3 := Lib.hid I3
  have K3 := Lib.hid (K2.out.grown gN)
  have L3 := Lib.hid (L2.out.grown gN)
  clear gN I3 hw3 ZB Z2 GA L2 K2
  generalize w2.heap.size = p at *
  by_cases hE0 : E = 0
  rotate_left
  · have HNE := Lib.hid hE0
    have HX := Lib.hid (OE.out.trans (if_pos hE0))
    have d1 : (E != 0) = true := by simpa using hE0
    clear hE0
    go_wp2_with (refine wpList_store_img (h := Hx.zero) (s := St.zero) (sv := .slice none 0 0) (dv := .slice none 0 0) rfl _ _ rfl rfl rfl Z3.out ⟨_, _, _, rfl⟩ ⟨_, _, _, rfl⟩ ?_)
    go_wp2
    refine bodyPost_ret (results_img rfl rfl rfl (Z3.out.put (h := Hx.zero) (s := St.zero) (sv := .slice none 0 0) (dv := .slice none 0 0))) rfl ?_
    rw [HX.out]
    exact (HX.out ▸ NO.out E _ HX.out HNE.out (grown_new G3.out (grown_setRow _ _) (Nat.le_refl _)))
  subst hE0
  have OE := Lib.hid (OE.out.trans (if_neg (by decide)))
  have RE0 := R0.out rfl
  subst RE0
  clear R0
  go_wp2_with fail
  refine (RD.out _ G3.out).mono ?_
  rintro e w4 ⟨pre, qa, ca, hpl, rfl, hI, hpc, hcm2, hF, hg4'⟩
  have hg4 := grown_trans hg4' (grown1 w4 (.cells #[.int .i64 hs, .int .i64 hk, .int .u32 hf] 49))
  have G4 := Lib.hid (grown_trans G3.out hg4)
  have Z4 := Lib.hid (Z3.out.kept hg4 (by simp))
  have IM4 := Lib.hid (IM3.out.kept hg4 (by simp))
  have K4 := Lib.hid (K3.out.grown hg4)
  have L4 := Lib.hid (L3.out.grown hg4)
  clear hg4 hg4' hpl hI hpc hcm2 hF
  have MY := Lib.hid (rMay_any (h := H) (hd := (ZZ : Int)) (dv := .slice qd S.deps.length cd) K4.out FT.out.segs FT.out.spans UN.out UZ.out CAP.out)
  obtain ⟨M, hM⟩ : ∃ M, M = mayN H S (n : Int) (ZZ : Int) := ⟨_, rfl⟩
  rw [← hM] at MY OE
  clear hM
  go_upto_region 5 with fail
  obtain ⟨w4', hw4⟩ : ∃ x, w4.alloc (.cells #[.int .i64 hs, .int .i64 hk, .int .u32 hf] 49) = x := ⟨_, rfl⟩
  rw [hw4] at G4 Z4 IM4 K4 L4 MY ⊢
  clear hw4
  go_wp2_with (first | refine wpList_load_imgI rfl _ rfl rfl IM4.out ?_ | fail)
  refine MY.out.mono ?_
  rintro e w5 ⟨rfl, hg5⟩
  have G5 := Lib.hid (grown_trans G4.out hg5)
  have Z5 := Lib.hid (Z4.out.kept hg5 (by simp))
  have IM5 := Lib.hid (IM4.out.kept hg5 (by simp))
  have L5 := Lib.hid (L4.out.grown hg5)
  clear hg5
  cases hm : (M != 0)
  rotate_left
  · have HNE := Lib.hid (show M ≠ 0 by simpa using hm)
    have HX := Lib.hid OE.out
    go_wp2_with (refine wpList_store_img (h := Hx.zero) (s := St.zero) (sv := .slice none 0 0) (dv := .slice none 0 0) rfl _ _ rfl rfl rfl Z5.out ⟨_, _, _, rfl⟩ ⟨_, _, _, rfl⟩ ?_)
    go_wp2
    refine bodyPost_ret (results_img rfl rfl rfl (Z5.out.put (h := Hx.zero) (s := St.zero) (sv := .slice none 0 0) (dv := .slice none 0 0))) rfl ?_
    rw [HX.out]
    exact (HX.out ▸ NO.out M _ HX.out HNE.out (grown_new G5.out (grown_setRow _ _) (Nat.le_refl _)))
  · have HX := Lib.hid (OE.out.trans (show M = 0 by simpa using hm))
    go_wp2_with (first | refine wpList_load_imgI rfl _ rfl rfl IM5.out ?_ | refine wpList_store_img (h := H) (s := S) (sv := .slice qs l.length cs) (dv := .slice qd S.deps.length cd) rfl _ _ rfl rfl rfl Z5.out ⟨_, _, _, rfl⟩ ⟨_, _, _, rfl⟩ ?_)
    go_wp2
    refine bodyPost_ret (results_img rfl rfl rfl (Z5.out.put (h := H) (s := S) (sv := .slice qs l.length cs) (dv := .slice qd S.deps.length cd))) rfl ?_
    rw [HX.out]
    exact (HX.out ▸ YES.out HX.out _ _ lo _ (L5.out.kept (grown_setRow _ _) Z5.out) (grown_new G5.out (grown_setRow _ _) (Nat.le_refl _)))
end Go.Proofs.YtemdbfgpimfkdaaGreat

/- The chapter's rows of layer 6. No condition. -/
namespace Go.Proofs.YtemdbfgpimfkdaaGreat
open Go.RowKit
variable {w w' : World}

def kA : Seg := ⟨[97], 0, 4096, 0, 4096, 5, []⟩
def kB (nm : List Int) : Seg := ⟨nm, 4096, 8192, 0, 0, 3, []⟩
def kS (nm : List Int) : St := { St.zero with segs := [kA, kB nm] }
def kL (nm : List Int) : List Sg := [⟨kA, none, 0⟩, ⟨kB nm, none, 0⟩]
def kH : Hx := ⟨2, 0, 0⟩
theorem nm_eq (x : Seg) : nmOf x = Lib.bytesOf x.name := Lib.strOfNums_toList x.name
theorem k_name : nameOk kH (kS [98]) = true := by
  unfold nameOk
  rw [Lib.strOfNums_toList]
  decide
theorem k_diff1 : diffN [kA, kB [98]] = true := by
  unfold diffN
  rw [show [kA, kB [98]].map nmOf = [Lib.bytesOf [97], Lib.bytesOf [98]] by rw [List.map_cons, List.map_cons, nm_eq, nm_eq]; rfl]
  decide
theorem k_diff2 : diffN [kA, kB [97]] = false := by
  unfold diffN
  rw [show [kA, kB [97]].map nmOf = [Lib.bytesOf [97], Lib.bytesOf [97]] by rw [List.map_cons, List.map_cons, nm_eq, nm_eq]; rfl]
  decide
theorem kA_fit : SegFit kA := ⟨⟨by decide, by decide⟩, ⟨by decide, by decide⟩, ⟨by decide, by decide⟩, ⟨by decide, by decide⟩, by decide⟩
theorem kB_fit (nm : List Int) : SegFit (kB nm) := ⟨show U64 4096 from ⟨by decide, by decide⟩, show U64 8192 from ⟨by decide, by decide⟩, show U64 0 from ⟨by decide, by decide⟩, show U64 0 from ⟨by decide, by decide⟩, show -9223372036854775808 ≤ (3 : Int) ∧ (3 : Int) ≤ 9223372036854775807 by decide⟩
theorem k_addr (nm : List Int) : ∀ x ∈ (kS nm).segs, 0 ≤ x.addr := by
  intro x hx
  simp only [kS, List.mem_cons, List.not_mem_nil, or_false] at hx
  rcases hx with rfl | rfl
  · exact kA_fit.addr.1
  · exact (kB_fit nm).addr.1
theorem k_may1 : mayN kH (kS [98]) 4096 32 = 0 := by
  unfold mayN
  rw [segsOk_eq _ _ _ (k_addr [98]), show (kS [98]).segs = [kA, kB [98]] from rfl, k_diff1, k_name]
  decide
theorem k_may2 : mayN kH (kS [97]) 4096 32 = 8 := by
  unfold mayN
  rw [segsOk_eq _ _ _ (k_addr [97]), show (kS [97]).segs = [kA, kB [97]] from rfl, k_diff2, Bool.and_false, Bool.false_and, Bool.false_and]
  rfl
theorem k_high (nm : List Int) : highN (kS nm).segs = 12288 := by
  rw [highN_eq]
  rfl
theorem k_fit (nm : List Int) (h : nm.length ≤ 1000) : StFit (kS nm) := by
  refine ⟨⟨fun x hx => ?_, fun x hx y hy => ?_⟩, zero_spans, fun x hx => ?_⟩
  all_goals
    simp only [kS, List.mem_cons, List.not_mem_nil, or_false] at hx
  · rcases hx with rfl | rfl
    · exact kA_fit
    · exact kB_fit nm
  · rcases hx with rfl | rfl <;> cases hy
  · rcases hx with rfl | rfl
    · decide
    · exact h
theorem k_rows {g : Nat} {nm : List Int} (k : w.heap[g]? = some (.cells #[.string ⟨#[97]⟩, .int .u64 0, .int .u64 4096, .int .u64 0, .int .u64 4096, .int .i64 5, .slice none 0 0, .string (strOfNums nm), .int .u64 4096, .int .u64 8192, .int .u64 0, .int .u64 0, .int .i64 3, .slice none 0 0] 42)) :
    ImgRows w (kS nm) (kL nm) (some ⟨g, 0, none⟩) 2 := by
  refine ⟨rfl, ?_, ?_, show (2 : Nat) ≤ 9223372036854775807 by decide, ?_, show (2 : Nat) ≤ 2 by decide⟩
  · intro i x hx
    refine ⟨g, rfl, ?_⟩
    unfold kL at hx
    match i, hx with
    | 0, hx => injection hx with hx; subst hx; refine ⟨?_, ?_, ?_, ?_, ?_, ?_, ?_⟩ <;> (rw [cell_of k]; rfl)
    | 1, hx => injection hx with hx; subst hx; refine ⟨?_, ?_, ?_, ?_, ?_, ?_, ?_⟩ <;> (rw [cell_of k]; rfl)
    | j + 2, hx => simp at hx
  · intro x hx i y hy
    simp only [kL, List.mem_cons, List.not_mem_nil, or_false] at hx
    rcases hx with rfl | rfl <;> simp [kA, kB] at hy
  · intro x hx
    simp only [kL, List.mem_cons, List.not_mem_nil, or_false] at hx
    rcases hx with rfl | rfl <;> exact Nat.zero_le _

set_option maxRecDepth 20000 in
theorem place_any {h : Hx} {s : St} {dv : Value} {l : List Sg} {qs : Option Addr} {cs : Nat} (k : ImgRows w s l qs cs) (i : Nat) (x : Sg) (o : Int) (hx : l[i]? = some x) (hlx : laidS x.seg = true) (ho : o < x.seg.size) (hi : i < 1000) (hn : l.length < 1000) :
    Calls Tryz.prog 9 #[imgV h s (.slice qs l.length cs) dv, .int .u64 i, .int .u64 o] w fun e w' => e = .returned (.tuple #[.int .u64 ((x.seg.addr + o) % 18446744073709551616), .int .i64 0]) ∧ w.grownBy w' none := by
  have gB := grown1 w (.cells (imgArr h s (.slice qs l.length cs) dv) 32)
  have aA : ImgAt (w.alloc (.cells (imgArr h s (.slice qs l.length cs) dv) 32)) w.heap.size h s (.slice qs l.length cs) dv := heap_alloc_new w _
  obtain ⟨W, hW⟩ : ∃ W, w.alloc (.cells (imgArr h s (.slice qs l.length cs) dv) 32) = W := ⟨_, rfl⟩
  obtain ⟨b, hb⟩ : ∃ b, w.heap.size = b := ⟨_, rfl⟩
  rw [hW] at gB aA
  rw [hb] at aA
  have IA := Lib.hid aA
  have RW := Lib.hid (fun (V : World) (hg : W.grownBy V none) => (k.grown gB).row.grown hg)
  have G := Lib.hid gB
  obtain ⟨g, rfl, a0, a1, a2, a3, a4, a5, a6⟩ := (k.grown gB).row.at hx
  have c4 := aA.c 4 (.slice (some ⟨g, 0, none⟩) l.length cs) rfl
  have gl := lt_of_block aA
  have hil := (List.getElem?_eq_some_iff.1 hx).1
  have hcp := k.cap
  have LD := Lib.hid (fun (V : World) => isLaid_any (w := V) x.seg x.q x.seg.secs.length x.c)
  rw [hlx] at LD
  have HX := Lib.hid hx
  have hil2 : (i : Int) < (l.length : Int) := by omega
  have dg : decide ((l.length : Int) ≤ (i : Int)) = false := by simp; omega
  have m1 : IntKind.u64.wrap (l.length : Int) = l.length := by rw [IntKind.wrap_u64]; omega
  have m2 : (l.length : Int) % 18446744073709551616 = l.length := by omega
  obtain ⟨⟨nm, ad, sz, of, fs, pr, sl⟩, q1, c1⟩ := x
  simp only [] at a0 a1 a2 a3 a4 a5 a6 LD ho ⊢
  unfold segV segArr at LD
  obtain ⟨T, hT⟩ : ∃ T, (ad + o) % 18446744073709551616 = T := ⟨_, rfl⟩
  have hT2 : IntKind.u64.wrap (ad + o) = T := by rw [IntKind.wrap_u64]; exact hT
  rw [hT]
  have ds : decide (sz ≤ o) = false := by simp; omega
  clear k gB aA hlx ho hx
  rw [show imgV h s (.slice (some ⟨g, 0, none⟩) l.length cs) dv = .agg (imgArr h s (.slice (some ⟨g, 0, none⟩) l.length cs) dv) from rfl]
  unfold imgArr at hW ⊢
  go_enter Tryz.func9, Tryz.ntmps9
  go_upto_region 1 with fail
  clear hW hb
  generalize l.length = N at *
  go_wp2_with fail
  refine (LD.out _).mono ?_
  rintro e w3 ⟨rfl, hg⟩
  have G3 := Lib.hid (grown_trans G.out hg)
  obtain ⟨g', hq', b0, b1, b2, b3, b4, b5, b6⟩ := (RW.out w3 hg).at HX.out
  obtain rfl : g = g' := by injection hq' with e; injection e
  have c4 := grown_cell hg c4
  have gl := Nat.lt_of_lt_of_le gl hg.size
  simp only [] at b0 b1 b2 b3 b4 b5 b6
  have GF := Lib.hid (grown_trans G3.out (grown1 w3 (.cells #[.string (strOfNums nm), .int .u64 ad, .int .u64 sz, .int .u64 of, .int .u64 fs, .int .i64 pr, .slice q1 sl.length c1] 42)))
  clear hg hq'
  go_wp2
  go_ret2
  exact ⟨rfl, GF.out⟩

theorem str98 : strOfNums [98] = (⟨#[98]⟩ : ByteArray) := rfl
theorem str97 : strOfNums [97] = (⟨#[97]⟩ : ByteArray) := rfl
set_option maxHeartbeats 2000000 in
set_option maxRecDepth 20000 in
theorem known_any (w : World) : Calls Tryz.prog 4 #[] w fun e w' => e = .returned (.bool true) ∧ w.grownBy w' none := by
  have gR := grown1 w (.cells #[.string ⟨#[97]⟩, .int .u64 0, .int .u64 4096, .int .u64 0, .int .u64 4096, .int .i64 5, .slice none 0 0, .string ⟨#[98]⟩, .int .u64 4096, .int .u64 8192, .int .u64 0, .int .u64 0, .int .i64 3, .slice none 0 0] 42)
  have hR := heap_alloc_new w (.cells #[.string ⟨#[97]⟩, .int .u64 0, .int .u64 4096, .int .u64 0, .int .u64 4096, .int .i64 5, .slice none 0 0, .string ⟨#[98]⟩, .int .u64 4096, .int .u64 8192, .int .u64 0, .int .u64 0, .int .i64 3, .slice none 0 0] 42)
  obtain ⟨W, hW⟩ : ∃ W, w.alloc (.cells #[.string ⟨#[97]⟩, .int .u64 0, .int .u64 4096, .int .u64 0, .int .u64 4096, .int .i64 5, .slice none 0 0, .string ⟨#[98]⟩, .int .u64 4096, .int .u64 8192, .int .u64 0, .int .u64 0, .int .i64 3, .slice none 0 0] 42) = W := ⟨_, rfl⟩
  obtain ⟨g, hgg⟩ : ∃ g, w.heap.size = g := ⟨_, rfl⟩
  rw [hW] at gR hR
  rw [hgg] at hR
  have KR := Lib.hid (k_rows (nm := [98]) hR)
  have ZI := Lib.hid (ImgAt.new W)
  have G := Lib.hid gR
  have GS := Lib.hid hgg
  have HR := Lib.hid hR
  clear gR hR
  go_enter Tryz.func4, Tryz.ntmps4
  go_upto_region 2 with (refine wpList_store_img (h := kH) (s := kS [98]) (sv := .slice (some ⟨g, 0, none⟩) 2 2) (dv := .slice none 0 0) rfl _ _ rfl rfl rfl ZI.out ⟨_, _, _, rfl⟩ ⟨_, _, _, rfl⟩ ?_)
  have I2 : ImgAt ((W.alloc (.cells #[.int .i64 0, .int .i64 0, .int .u32 0, .string ⟨#[]⟩, .slice none 0 0, .slice none 0 0, .int .u64 0, .int .u64 0, .int .u64 0, .int .u64 0, .int .u64 0, .int .u64 0, .int .u64 0, .int .u64 0, .int .u64 0, .int .u64 0, .int .u64 0, .int .u64 0, .int .u64 0, .int .u64 0, .int .u64 0, .int .u64 0, .int .u64 0, .bool false] 32)).setRow W.heap.size (imgArr kH (kS [98]) (.slice (some ⟨g, 0, none⟩) 2 2) (.slice none 0 0))) W.heap.size kH (kS [98]) (.slice (some ⟨g, 0, none⟩) 2 2) (.slice none 0 0) := ZI.out.put
  have g2 := grown_new (grown1 W (.cells #[.int .i64 0, .int .i64 0, .int .u32 0, .string ⟨#[]⟩, .slice none 0 0, .slice none 0 0, .int .u64 0, .int .u64 0, .int .u64 0, .int .u64 0, .int .u64 0, .int .u64 0, .int .u64 0, .int .u64 0, .int .u64 0, .int .u64 0, .int .u64 0, .int .u64 0, .int .u64 0, .int .u64 0, .int .u64 0, .int .u64 0, .int .u64 0, .bool false] 32)) (grown_setRow (g := W.heap.size) (W.alloc (.cells #[.int .i64 0, .int .i64 0, .int .u32 0, .string ⟨#[]⟩, .slice none 0 0, .slice none 0 0, .int .u64 0, .int .u64 0, .int .u64 0, .int .u64 0, .int .u64 0, .int .u64 0, .int .u64 0, .int .u64 0, .int .u64 0, .int .u64 0, .int .u64 0, .int .u64 0, .int .u64 0, .int .u64 0, .int .u64 0, .int .u64 0, .int .u64 0, .bool false] 32)) (imgArr kH (kS [98]) (.slice (some ⟨g, 0, none⟩) 2 2) (.slice none 0 0))) (Nat.le_refl _)
  obtain ⟨w2, hw2⟩ : ∃ w2, (W.alloc (.cells #[.int .i64 0, .int .i64 0, .int .u32 0, .string ⟨#[]⟩, .slice none 0 0, .slice none 0 0, .int .u64 0, .int .u64 0, .int .u64 0, .int .u64 0, .int .u64 0, .int .u64 0, .int .u64 0, .int .u64 0, .int .u64 0, .int .u64 0, .int .u64 0, .int .u64 0, .int .u64 0, .int .u64 0, .int .u64 0, .int .u64 0, .int .u64 0, .bool false] 32)).setRow W.heap.size (imgArr kH (kS [98]) (.slice (some ⟨g, 0, none⟩) 2 2) (.slice none 0 0)) = w2 := ⟨_, rfl⟩
  rw [hw2] at I2 g2 ⊢
  have G2 := Lib.hid g2
  have IM2 := Lib.hid I2
  clear I2 g2 hw2 hW ZI hgg
  generalize W.heap.size = p at *
  have MY := Lib.hid (fun (V : World) (hg : W.grownBy V none) => (by
    have := May_any (h := kH) (n := 4096) (hd := 32) (dv := .slice none 0 0) (KR.out.grown hg) (k_fit [98] (by decide)).segs (k_fit [98] (by decide)).spans (k_fit [98] (by decide)).names ⟨by decide, by decide⟩ ⟨_, _, _, rfl⟩
    rw [k_may1] at this
    exact this : Calls Tryz.prog 8 #[imgV kH (kS [98]) (.slice (some ⟨g, 0, none⟩) 2 2) (.slice none 0 0), .int .u64 4096, .int .u64 32] V fun e w' => e = .returned (.int .i64 0) ∧ V.grownBy w' none))
  have PL := Lib.hid (fun (V : World) (hg : W.grownBy V none) => (place_any (h := kH) (dv := .slice none 0 0) (KR.out.grown hg) 1 ⟨kB [98], none, 0⟩ 8191 rfl rfl (by decide) (by decide) (by decide) :
    Calls Tryz.prog 9 #[imgV kH (kS [98]) (.slice (some ⟨g, 0, none⟩) 2 2) (.slice none 0 0), .int .u64 1, .int .u64 8191] V fun e w' => e = .returned (.tuple #[.int .u64 12287, .int .i64 0]) ∧ V.grownBy w' none))
  go_wp2_with (first | refine wpList_load_imgI rfl _ rfl rfl IM2.out ?_ | fail)
  refine (MY.out _ G2.out).mono ?_
  rintro e w3 ⟨rfl, hg3⟩
  have G3 := Lib.hid (grown_trans G2.out hg3)
  have IM3 := Lib.hid (IM2.out.kept hg3 (by simp))
  clear hg3
  go_wp2_with (first | refine wpList_load_imgI rfl _ rfl rfl IM3.out ?_ | fail)
  refine (PL.out _ G3.out).mono ?_
  rintro e w4 ⟨rfl, hg4⟩
  have G4 := Lib.hid (grown_trans G3.out hg4)
  have i4 := IM3.out.kept hg4 (by simp)
  clear hg4 PL MY IM2 IM3 G2 G3
  have h4 : w4.heap[g]? = some (.cells #[.string ⟨#[97]⟩, .int .u64 0, .int .u64 4096, .int .u64 0, .int .u64 4096, .int .i64 5, .slice none 0 0, .string ⟨#[98]⟩, .int .u64 4096, .int .u64 8192, .int .u64 0, .int .u64 0, .int .i64 3, .slice none 0 0] 42) := (G4.out.block g (lt_of_block HR.out) (by simp)).trans HR.out
  have d4 := i4.c 4 (.slice (some ⟨g, 0, none⟩) 2 2) rfl
  have dl := lt_of_block i4
  have e7 : w4.cell? ⟨g, 7, none⟩ = some (.string ⟨#[98]⟩) := by rw [cell_of h4]; rfl
  have f7 : w4.frozen? ⟨g, 7, none⟩ = false := free_of h4
  have l7 := lt_of_block h4
  have h5 : (w4.setCell ⟨g, 7, none⟩ (.string ⟨#[97]⟩)).heap[g]? = some (.cells #[.string ⟨#[97]⟩, .int .u64 0, .int .u64 4096, .int .u64 0, .int .u64 4096, .int .i64 5, .slice none 0 0, .string ⟨#[97]⟩, .int .u64 4096, .int .u64 8192, .int .u64 0, .int .u64 0, .int .i64 3, .slice none 0 0] 42) := by rw [heap_setCell_same w4 g 7 _ _ _ h4]; rfl
  have g5 : w4.grownBy (w4.setCell ⟨g, 7, none⟩ (.string ⟨#[97]⟩)) (some g) := grown_setCell (grown_refl _ _) _
  have K5 := Lib.hid (k_rows (nm := [97]) h5)
  have GW := Lib.hid (grown_new (grown_trans G.out G4.out) g5 (by rw [GS.out]; exact Nat.le_refl _))
  have hpg : p ≠ g := by
    intro e
    rw [e] at i4
    have := i4.symm.trans h4
    injection this with this
    injection this with _ h2
    exact absurd h2 (by decide)
  have i5 : ImgAt (w4.setCell ⟨g, 7, none⟩ (.string ⟨#[97]⟩)) p kH (kS [97]) (.slice (some ⟨g, 0, none⟩) 2 2) (.slice none 0 0) := i4.kept g5 (fun e => hpg (by injection e with e; exact e.symm))
  have IM5 := Lib.hid i5
  clear i4 h4 h5 g5 i5 HR hpg
  go_upto_region 5 with fail
  clear d4 dl e7 f7 l7
  obtain ⟨w5, hw5⟩ : ∃ w5, w4.setCell ⟨g, 7, none⟩ (.string ⟨#[97]⟩) = w5 := ⟨_, rfl⟩
  rw [hw5] at K5 GW IM5 ⊢
  clear hw5
  have MY := Lib.hid (by
    have := May_any (h := kH) (n := 4096) (hd := 32) (dv := .slice none 0 0) K5.out (k_fit [97] (by decide)).segs (k_fit [97] (by decide)).spans (k_fit [97] (by decide)).names ⟨by decide, by decide⟩ ⟨_, _, _, rfl⟩
    rw [k_may2] at this
    exact this : Calls Tryz.prog 8 #[imgV kH (kS [97]) (.slice (some ⟨g, 0, none⟩) 2 2) (.slice none 0 0), .int .u64 4096, .int .u64 32] w5 fun e w' => e = .returned (.int .i64 8) ∧ w5.grownBy w' none)
  have HI := Lib.hid (fun (V : World) (hg : w5.grownBy V none) => (by
    have := High_any (h := kH) (dv := .slice none 0 0) (K5.out.grown hg)
    rw [k_high] at this
    exact this : Calls Tryz.prog 10 #[imgV kH (kS [97]) (.slice (some ⟨g, 0, none⟩) 2 2) (.slice none 0 0)] V fun e w' => e = .returned (.int .u64 12288) ∧ V.grownBy w' none))
  go_wp2_with (first | refine wpList_load_imgW rfl _ rfl rfl IM5.out ?_ | fail)
  refine MY.out.mono ?_
  rintro e w6 ⟨rfl, hg6⟩
  have G6 := Lib.hid hg6
  have IM6 := Lib.hid (IM5.out.kept hg6 (by simp))
  clear hg6
  go_wp2_with (first | refine wpList_load_imgW rfl _ rfl rfl IM6.out ?_ | fail)
  refine (HI.out _ G6.out).mono ?_
  rintro e w7 ⟨rfl, hg7⟩
  have G7 := Lib.hid (grown_trans G6.out hg7)
  clear hg7
  go_wp2
  go_ret
  exact ⟨rfl, grown_trans GW.out G7.out⟩
end Go.Proofs.YtemdbfgpimfkdaaGreat

/- The walk of ImageOf: any bytes are the image that the document says, or none by the same error. -/
namespace Go.Proofs.YtemdbfgpimfkdaaGreat.imageOf
open Go.RowKit

set_option maxHeartbeats 6400000 in
set_option maxRecDepth 20000 in
theorem walk (a0 : Option Addr) (len0 cap0 : Nat) (z0 : List Int) (w : World) (w0 : IsRow .u8 w a0 len0 cap0 z0) :
    Calls Tryz.prog 3 #[.slice a0 len0 cap0] w fun e w' => e = .returned (.bool true) ∧ Below w.heap.size w w' := by
  have hcap0 : len0 ≤ cap0 ∧ cap0 ≤ 9223372036854775807 := by
    rcases w0 with ⟨_, rfl, rfl, _⟩ | ⟨_, _, h1, h2, _⟩
    · omega
    · unfold maxLen at h2; omega
  obtain ⟨ys, rfl, hys, hb, _⟩ := w0.bytes
  have K := Lib.hid (fun w : World => known_any w)
  by_cases hbig : 30000 < ys.length
  · have d1 : decide ((30000 : Int) < ys.length) = true := by simp; omega
    clear hbig hb w0 hys
    go_enter Tryz.func3, Tryz.ntmps3
    go_wp2_with fail
    refine (K.out _).mono ?_
    rintro e w' ⟨rfl, hg⟩
    have B := Lib.hid (below_grown hg (Nat.le_refl _) (by simp))
    clear hg
    go_wp2
    go_ret
    exact ⟨rfl, B.out⟩
  have d1 : decide ((30000 : Int) < ys.length) = false := by simp; omega
  have hn47 : ys.length ≤ 140737488355328 := by omega
  have OF := Lib.hid (of_any (w := w) ys a0 cap0 ys.length hb rfl hcap0.1 hcap0.2 hn47 hys)
  have RO := Lib.hid (fun (w1 : World) (hg : w.grownBy w1 none) => rof_any (w := w1) ys a0 cap0 ys.length (hb.kept hg (by simp)) rfl hcap0.1 hcap0.2 hn47 hys)
  obtain ⟨H, hH⟩ : ∃ H, H = ofH ys := ⟨_, rfl⟩
  obtain ⟨S, hS⟩ : ∃ S, S = ofS ys := ⟨_, rfl⟩
  obtain ⟨E, hE⟩ : ∃ E, E = ofErr ys := ⟨_, rfl⟩
  rw [← hH, ← hS, ← hE] at OF
  have RO := Lib.hid (fun (w1 : World) (hg : w.grownBy w1 none) => (by have := RO.out w1 hg; rw [← hH, ← hS, ← hE] at this; exact this : Calls Tryz.prog 6 #[.slice a0 ys.length cap0] w1 fun e w' => ∃ sv dv lo, e = .returned (.tuple #[imgV H S sv dv, .int .i64 E]) ∧ Lists w' lo S sv dv ∧ w1.grownBy w' none))
  clear hbig hb w0 hys hH hS hE hn47
  go_enter Tryz.func3, Tryz.ntmps3
  go_wp2_with fail
  refine OF.out.mono ?_
  rintro e w2 ⟨sv, dv, lo, rfl, hL, hg⟩
  obtain ⟨qs, cs, ns, rfl⟩ : ∃ q c n, sv = .slice q n c := by obtain ⟨l, _, a3, _⟩ := hL.segs; obtain ⟨q, c, rfl⟩ := own_slice a3; exact ⟨q, c, _, rfl⟩
  obtain ⟨qd, cd, nd, rfl⟩ : ∃ q c n, dv = .slice q n c := by obtain ⟨q, c, rfl⟩ := own_slice hL.deps; exact ⟨q, c, _, rfl⟩
  have G2 := Lib.hid hg
  have ZB := Lib.hid (ImgAt.new w2)
  have L2 := Lib.hid hL
  clear hL hg
  go_upto_region 4 with (refine wpList_store_img (h := H) (s := S) (sv := .slice qs ns cs) (dv := .slice qd nd cd) rfl _ _ rfl rfl rfl ZB.out ⟨_, _, _, rfl⟩ ⟨_, _, _, rfl⟩ ?_)
  have gN := grown_new (grown1 w2 (.cells #[.int .i64 0, .int .i64 0, .int .u32 0, .string ⟨#[]⟩, .slice none 0 0, .slice none 0 0, .int .u64 0, .int .u64 0, .int .u64 0, .int .u64 0, .int .u64 0, .int .u64 0, .int .u64 0, .int .u64 0, .int .u64 0, .int .u64 0, .int .u64 0, .int .u64 0, .int .u64 0, .int .u64 0, .int .u64 0, .int .u64 0, .int .u64 0, .bool false] 32)) (grown_setRow (g := w2.heap.size) (w2.alloc (.cells #[.int .i64 0, .int .i64 0, .int .u32 0, .string ⟨#[]⟩, .slice none 0 0, .slice none 0 0, .int .u64 0, .int .u64 0, .int .u64 0, .int .u64 0, .int .u64 0, .int .u64 0, .int .u64 0, .int .u64 0, .int .u64 0, .int .u64 0, .int .u64 0, .int .u64 0, .int .u64 0, .int .u64 0, .int .u64 0, .int .u64 0, .int .u64 0, .bool false] 32)) (imgArr H S (.slice qs ns cs) (.slice qd nd cd))) (Nat.le_refl _)
  have I3 := ZB.out.put (h := H) (s := S) (sv := .slice qs ns cs) (dv := .slice qd nd cd)
  obtain ⟨w3, hw3⟩ : ∃ w3, (w2.alloc (.cells #[.int .i64 0, .int .i64 0, .int .u32 0, .string ⟨#[]⟩, .slice none 0 0, .slice none 0 0, .int .u64 0, .int .u64 0, .int .u64 0, .int .u64 0, .int .u64 0, .int .u64 0, .int .u64 0, .int .u64 0, .int .u64 0, .int .u64 0, .int .u64 0, .int .u64 0, .int .u64 0, .int .u64 0, .int .u64 0, .int .u64 0, .int .u64 0, .bool false] 32)).setRow w2.heap.size (imgArr H S (.slice qs ns cs) (.slice qd nd cd)) = w3 := ⟨_, rfl⟩
  rw [hw3] at gN I3 ⊢
  have G3 := Lib.hid (grown_trans G2.out gN)
  have M3 := Lib.hid I3
  have L3 := Lib.hid (L2.out.grown gN)
  clear gN I3 hw3 ZB L2
  generalize w2.heap.size = p at *
  go_wp2_with fail
  refine (RO.out _ G3.out).mono ?_
  rintro e w4 ⟨sv2, dv2, lo2, rfl, hL, hg⟩
  obtain ⟨qs2, cs2, ns2, rfl⟩ : ∃ q c n, sv2 = .slice q n c := by obtain ⟨l, _, a3, _⟩ := hL.segs; obtain ⟨q, c, rfl⟩ := own_slice a3; exact ⟨q, c, _, rfl⟩
  obtain ⟨qd2, cd2, nd2, rfl⟩ : ∃ q c n, dv2 = .slice q n c := by obtain ⟨q, c, rfl⟩ := own_slice hL.deps; exact ⟨q, c, _, rfl⟩
  have G4 := Lib.hid (grown_trans G3.out hg)
  have M4 := Lib.hid (M3.out.kept hg (by simp))
  have L4 := Lib.hid (L3.out.grown hg)
  have ZB := Lib.hid (ImgAt.new w4)
  have N4 := Lib.hid hL
  clear hL hg
  go_upto_region 5 with (refine wpList_store_img (h := H) (s := S) (sv := .slice qs2 ns2 cs2) (dv := .slice qd2 nd2 cd2) rfl _ _ rfl rfl rfl ZB.out ⟨_, _, _, rfl⟩ ⟨_, _, _, rfl⟩ ?_)
  have gN := grown_new (grown1 w4 (.cells #[.int .i64 0, .int .i64 0, .int .u32 0, .string ⟨#[]⟩, .slice none 0 0, .slice none 0 0, .int .u64 0, .int .u64 0, .int .u64 0, .int .u64 0, .int .u64 0, .int .u64 0, .int .u64 0, .int .u64 0, .int .u64 0, .int .u64 0, .int .u64 0, .int .u64 0, .int .u64 0, .int .u64 0, .int .u64 0, .int .u64 0, .int .u64 0, .bool false] 32)) (grown_setRow (g := w4.heap.size) (w4.alloc (.cells #[.int .i64 0, .int .i64 0, .int .u32 0, .string ⟨#[]⟩, .slice none 0 0, .slice none 0 0, .int .u64 0, .int .u64 0, .int .u64 0, .int .u64 0, .int .u64 0, .int .u64 0, .int .u64 0, .int .u64 0, .int .u64 0, .int .u64 0, .int .u64 0, .int .u64 0, .int .u64 0, .int .u64 0, .int .u64 0, .int .u64 0, .int .u64 0, .bool false] 32)) (imgArr H S (.slice qs2 ns2 cs2) (.slice qd2 nd2 cd2))) (Nat.le_refl _)
  have I5 := ZB.out.put (h := H) (s := S) (sv := .slice qs2 ns2 cs2) (dv := .slice qd2 nd2 cd2)
  obtain ⟨w5, hw5⟩ : ∃ w5, (w4.alloc (.cells #[.int .i64 0, .int .i64 0, .int .u32 0, .string ⟨#[]⟩, .slice none 0 0, .slice none 0 0, .int .u64 0, .int .u64 0, .int .u64 0, .int .u64 0, .int .u64 0, .int .u64 0, .int .u64 0, .int .u64 0, .int .u64 0, .int .u64 0, .int .u64 0, .int .u64 0, .int .u64 0, .int .u64 0, .int .u64 0, .int .u64 0, .int .u64 0, .bool false] 32)).setRow w4.heap.size (imgArr H S (.slice qs2 ns2 cs2) (.slice qd2 nd2 cd2)) = w5 := ⟨_, rfl⟩
  rw [hw5] at gN I5 ⊢
  have G5 := Lib.hid (grown_trans G4.out gN)
  have M5 := Lib.hid (M4.out.kept gN (by simp))
  have N5 := Lib.hid I5
  have L5 := L4.out.grown gN
  have K5 := N4.out.grown gN
  have SA := Lib.hid (same5_any H S L5 K5)
  clear gN I5 hw5 ZB N4 M4 L4 L5 K5
  generalize w4.heap.size = p2 at *
  go_wp2_with (first | refine wpList_load_imgW rfl _ rfl rfl M5.out ?_ | refine wpList_load_imgW rfl _ rfl rfl N5.out ?_)
  refine SA.out.mono ?_
  rintro e w8 ⟨rfl, hg⟩
  have G8 := Lib.hid (grown_trans G5.out hg)
  clear hg
  go_wp2_with fail
  refine (K.out _).mono ?_
  rintro e w' ⟨rfl, hg⟩
  have B9 := Lib.hid (below_grown (grown_trans G8.out hg) (Nat.le_refl _) (by simp))
  clear hg
  go_wp2
  go_ret
  exact ⟨rfl, B9.out⟩
end Go.Proofs.YtemdbfgpimfkdaaGreat.imageOf

/- 'ImageOf': for every input the call returns true, and what was handed in reads as it did. The form's own reach is the one condition. -/
namespace Go.Proofs.YtemdbfgpimfkdaaGreat.imageOf
open Go.ChangeShapes Go.WideShapes Go.ChangeAt Go.RowKit
open Go.ChangeMaps (open_string shut_string)

theorem own : ownKnob Tryz.prog.godebug = none := by kernel_rfl
theorem laidOut : laidOutB Tryz.prog = true := by kernel_rfl

set_option maxRecDepth 100000 in
theorem lifted (os : Os) (started : os.Started) (H : Type) (enc : TypeId × Value → H) :
    ReturnsInHanded {} Tryz.checked os 3 .any (Rows.imageOfSpec.pre6 enc Tryz.prog Tryz.f3 Rows.imageOfRow.domain false) (Rows.imageOfSpec.post enc Tryz.prog Tryz.f3 false true false false) := by
  refine returnsInHanded_of_change (C := Tryz.checked) own started (by kernel_rfl) Tryz.func3
    (ChangeSpec.witness6 (enc := enc) (C := Tryz.checked) false ⟨#[], #[.slice none 0 0], []⟩ 8 (by kernel_rfl) (by kernel_rfl) (by kernel_rfl) (by kernel_rfl)) ?_
  intro W base args ds gs before hval0 hW hcnd _
  have hval : ∀ (j : Nat) t v, Tryz.f3.params[j]? = some t → args[j]? = some v → Value.okWide Tryz.prog W .any base t v := hval0
  have hW' := hW
  obtain ⟨p, q, hA0, hV, rfl, hfz, hnd⟩ := hW
  have hA : DataW.TrodAll enc Tryz.prog W 0 (fun _ => true) true Tryz.f3.params.toList args.toList ds p := hA0
  rw [Tryz.params3] at hA hval
  obtain ⟨v0, vs0, d0, ds0, p0, q0, hargs, rfl, rfl, h0, r0⟩ := trodAll_cons hA
  obtain ⟨rfl, rfl, rfl⟩ := trodAll_nil r0
  obtain rfl : args = #[v0] := by cases args; simp_all
  obtain ⟨rfl, rfl⟩ := trodVars_none hV
  obtain ⟨a0, len0, cap0, rfl⟩ := okWide_slice Tryz.underlying22 (hval 0 22 v0 rfl rfl)
  have k0 := h0
  have lt0 : ∀ x ∈ p0, x.block < W.heap.size := by obtain ⟨m, hm⟩ := k0; exact DataW.trod_lt m _ _ _ hm
  obtain ⟨z0, w0⟩ : ∃ zs, IsRow .u8 W a0 len0 cap0 zs := by
    obtain ⟨fuel, hf⟩ := h0
    rcases open_ints Tryz.underlying22 Tryz.underlying5 (by kernel_rfl) hf with ⟨hcs, _⟩ | ⟨x, l, c, zs, hcs, _, hl, hm, hz, _, hcell, hwz⟩
    · simp [Value.cells] at hcs
      obtain ⟨rfl, rfl, rfl⟩ := hcs
      exact ⟨[], .inl ⟨rfl, rfl, rfl, rfl⟩⟩
    · simp [Value.cells] at hcs
      obtain ⟨rfl, rfl, rfl⟩ := hcs
      exact ⟨zs, .inr ⟨_, rfl, hl, hm, by simpa using hz, hcell, hwz⟩⟩
  clear hA0 hval0
  refine (walk a0 len0 cap0 z0 W w0).mono fun e W' ⟨he, bel⟩ => ?_
  subst he
  exact ⟨_, rfl, _, _, _, [], _, [], hW', trodAll_mk1 (shut_bool Tryz.underlying4 _), (trodAll_cons_mk (Below.trod laidOut (by kernel_rfl) (of_decide_eq_true (by kernel_rfl)) k0 bel lt0) trodAll_mk0), rfl, bel.frame _, fun h => by cases h⟩

theorem proved : Rows.ImageOfSaid :=
  OpenClaim.holds_of_wide 3 Tryz.f3 rfl rfl rfl rfl rfl rfl rfl ⟨rfl, rfl, rfl, rfl, rfl⟩ rfl rfl rfl rfl rfl (by kernel_rfl) Tryz.func3 (by kernel_rfl)
    (of_decide_eq_true (by kernel_rfl)) (by unfold Func.isWrapper; first | (rw [if_pos (by decide +kernel)]; kernel_rfl) | (rw [if_neg (by decide +kernel)]; exact ⟨rfl, rfl⟩))
    (fun os started H enc _ => lifted os started H enc)
end Go.Proofs.YtemdbfgpimfkdaaGreat.imageOf
