import Derived.Test.YtdagnkdonlfobaaGreatM20
import Derived.Deep.RegionLaw
import Derived.Laws.Slices
/- Why a seat is refused: beyond, taken, tooMany, and their closures. Conditions: a seat's numbers; a range below 2^47 where it is asked. -/
namespace Go.Proofs.YtdagnkdonlfobaaGreat
open Go.RowKit Go.Sort
variable {w w' W : World} {F : Nat → Prop} {σ : Spc}

def beErr (x : Nat × Nat) : Int := if lbelow x.1 x.2 = true then 0 else 4
theorem beyond_any (x1 x2 : Nat) (w : World) : Calls Tryz.prog 53 #[.agg #[.int .u64 x1, .int .u64 x2]] w fun e w' => e = .returned (.int .i64 (beErr (x1, x2))) ∧ w.grownBy w' none := by
  have B := Lib.hid (fun V => lisBelow_any x1 x2 (by omega) V)
  have E := Lib.hid (show beErr (x1, x2) = if lbelow x1 x2 = true then 0 else 4 from rfl)
  cases h : lbelow x1 x2
  · rw [h] at B E
    go_enter Tryz.func53, Tryz.ntmps53
    go_wp2_with fail
    refine (B.out _).mono ?_
    rintro e w1 ⟨rfl, rfl⟩
    go_wp2
    go_ret
    exact ⟨ret_int E.out.symm, grown1 _ _⟩
  · rw [h] at B E
    go_enter Tryz.func53, Tryz.ntmps53
    go_wp2_with fail
    refine (B.out _).mono ?_
    rintro e w1 ⟨rfl, rfl⟩
    go_wp2
    go_ret
    exact ⟨ret_int E.out.symm, grown1 _ _⟩

def pgEnd (x : Nat × Nat) : Nat := (x.1 + x.2 - 1) / 4096 + 1
theorem pageEnd_any (x1 x2 : Nat) (h1 : 1 ≤ x2) (h2 : x1 + x2 ≤ 140737488355328) (w : World) : Calls Tryz.prog 89 #[.agg #[.int .u64 x1, .int .u64 x2]] w fun e w' => e = .returned (.int .u64 (pgEnd (x1, x2) : Nat)) ∧ w' = w.alloc (.cells #[.int .u64 x1, .int .u64 x2] 80) := by
  have e0 : ((pgEnd (x1, x2) : Nat) : Int) = ((x1 : Int) + x2 - 1) / 4096 + 1 := by unfold pgEnd; omega
  have hd : 0 ≤ ((x1 : Int) + x2 - 1) / 4096 ∧ ((x1 : Int) + x2 - 1) / 4096 ≤ 140737488355328 := by omega
  have e1 : IntKind.u64.wrap ((x1 : Int) + x2) = (x1 : Int) + x2 := IntWalk.u64_in _ (by omega)
  have e2 : IntKind.u64.wrap ((x1 : Int) + x2 - 1) = (x1 : Int) + x2 - 1 := IntWalk.u64_in _ (by omega)
  have e3 : IntKind.u64.wrap (((x1 : Int) + x2 - 1) / 4096 + 1) = ((x1 : Int) + x2 - 1) / 4096 + 1 := IntWalk.u64_in _ (by omega)
  have E := Lib.hid e0
  clear e0
  go_enter Tryz.func89, Tryz.ntmps89
  go_wp2
  go_ret
  exact ⟨ret_int (by rw [E.out]), rfl⟩

/-- What is asked of a seat whether its pages are taken: an error, and where the pages end then. -/
def tkStep (σ : Spc) (E : Nat) (x : Nat × Nat) : Int × Nat := if x.2 = 0 then (0, E) else if x.1 / 4096 < E then (21, E) else if freeOf σ x.1 x.2 = false then (21, E) else (0, pgEnd x)
theorem grown_some {p : Nat} (h : w.grownBy w' none) : w.grownBy w' (some p) := ⟨h.os, h.tape, h.output, h.size, fun i hi _ => h.block i hi (by simp)⟩
set_option maxRecDepth 20000 in
theorem taken1_any (x1 x2 E : Nat) (hb : x1 + x2 ≤ 140737488355328) {p bx a : Nat} (hp : OneAt w p (.int .u64 E) 33) (hx : OneAt w bx (.pointer (some ⟨a, 0, none⟩)) 25) (hs : SpcAt w F a σ) :
    Calls Tryz.prog 88 #[.agg #[.int .u64 x1, .int .u64 x2], .pointer (some ⟨p, 0, none⟩), .pointer (some ⟨bx, 0, none⟩)] w fun e w' => e = .returned (.int .i64 (tkStep σ E (x1, x2)).1) ∧ OneAt w' p (.int .u64 (tkStep σ E (x1, x2)).2) 33 ∧ w.grownBy w' (some p) := by
  have gB := grown1 w (.cells #[.int .u64 x1, .int .u64 x2] 80)
  have aA : (w.alloc (.cells #[.int .u64 x1, .int .u64 x2] 80)).heap[w.heap.size]? = some (.cells #[.int .u64 x1, .int .u64 x2] 80 (0, 0)) := heap_alloc_new w _
  obtain ⟨W, hW⟩ : ∃ W, w.alloc (.cells #[.int .u64 x1, .int .u64 x2] 80) = W := ⟨_, rfl⟩
  obtain ⟨b, hbb⟩ : ∃ b, w.heap.size = b := ⟨_, rfl⟩
  rw [hW] at gB aA
  rw [hbb] at aA
  have c0 : W.cell? ⟨b, 0, none⟩ = some (.int .u64 x1) := by rw [cell_of aA]; rfl
  have c1 : W.cell? ⟨b, 1, none⟩ = some (.int .u64 x2) := by rw [cell_of aA]; rfl
  have gl := lt_of_block aA
  have AA := Lib.hid aA
  have G := Lib.hid gB
  have P := Lib.hid (hp.grown gB)
  have X := Lib.hid (hx.grown gB)
  have S := Lib.hid (hs.kept (Chg.of_grown gB (F := fun _ => False) (fun _ h => by cases h)) (fun _ _ h => h))
  have PE := Lib.hid (fun (V : World) (h1 : 1 ≤ x2) => pageEnd_any x1 x2 h1 hb V)
  have hne : p ≠ b := by have := hp.lt; omega
  have cp := P.out.c
  have cpf := P.out.f
  have cx := X.out.c
  have px := P.out.lt
  clear aA gB hp hx hs
  by_cases h0 : x2 = 0
  · have E := Lib.hid (show tkStep σ E (x1, x2) = (0, E) from if_pos h0)
    have h0' : ((x2 : Int) == 0) = true := by simp; omega
    rw [E.out]
    clear h0 hb
    go_enter Tryz.func88, Tryz.ntmps88
    go_upto_region 1 with fail
    clear hW hbb
    go_wp2
    go_ret
    exact ⟨rfl, P.out, grown_some G.out⟩
  have h0' : ((x2 : Int) == 0) = false := by simp; omega
  have hdq : (x1 : Int) / 4096 = ((x1 / 4096 : Nat) : Int) := by omega
  have hwq : IntKind.u64.wrap ((x1 : Int) / 4096) = (x1 : Int) / 4096 := IntWalk.u64_in _ (by omega)
  by_cases h1 : x1 / 4096 < E
  · have ES := Lib.hid (show tkStep σ E (x1, x2) = (21, E) from (if_neg h0).trans (if_pos h1))
    have h1' : decide ((x1 : Int) / 4096 < (E : Int)) = true := by simp; omega
    rw [ES.out]
    clear h0 hb h1 hdq
    go_enter Tryz.func88, Tryz.ntmps88
    go_upto_region 1 with fail
    clear hW hbb
    go_wp2
    go_ret
    exact ⟨rfl, P.out, grown_some G.out⟩
  have h1' : decide ((x1 : Int) / 4096 < (E : Int)) = false := by simp; omega
  have FR := Lib.hid (free_any S.out x1 x2)
  cases h2 : freeOf σ x1 x2
  · have ES := Lib.hid (show tkStep σ E (x1, x2) = (21, E) from (if_neg h0).trans ((if_neg h1).trans (if_pos h2)))
    rw [h2] at FR
    rw [ES.out]
    clear h0 hb h1 hdq h2
    go_enter Tryz.func88, Tryz.ntmps88
    go_upto_region 1 with fail
    clear hW hbb
    go_wp2_with fail
    refine FR.out.mono ?_
    rintro e w1 ⟨rfl, hg⟩
    have P1 := Lib.hid (P.out.grown hg)
    have G1 := Lib.hid (grown_trans G.out hg)
    clear hg
    go_wp2
    go_ret
    exact ⟨rfl, P1.out, grown_some G1.out⟩
  · have ES := Lib.hid (show tkStep σ E (x1, x2) = (0, pgEnd (x1, x2)) from (if_neg h0).trans ((if_neg h1).trans (if_neg (by show ¬ freeOf σ x1 x2 = false; rw [h2]; decide))))
    rw [h2] at FR
    rw [ES.out]
    have PE' := Lib.hid (fun V => PE.out V (by omega))
    clear h0 hb h1 hdq h2 PE
    generalize pgEnd (x1, x2) = q at *
    go_enter Tryz.func88, Tryz.ntmps88
    go_upto_region 1 with fail
    clear hW hbb
    go_wp2_with fail
    refine FR.out.mono ?_
    rintro e w1 ⟨rfl, hg⟩
    have P1 := Lib.hid (P.out.grown hg)
    have G1 := Lib.hid (grown_trans G.out hg)
    have A1 := grown_obj hg AA.out (by simp)
    have d0 : w1.cell? ⟨b, 0, none⟩ = some (.int .u64 x1) := by rw [cell_of A1]; rfl
    have d1 : w1.cell? ⟨b, 1, none⟩ = some (.int .u64 x2) := by rw [cell_of A1]; rfl
    have dl := lt_of_block A1
    clear hg c0 c1 cp cpf cx gl A1 px
    go_wp2_with fail
    refine (PE'.out _).mono ?_
    rintro e w2 ⟨rfl, rfl⟩
    have P2 := Lib.hid (P1.out.grown (grown1 w1 (.cells #[.int .u64 x1, .int .u64 x2] 80)))
    have G2 := Lib.hid (grown_trans G1.out (grown1 w1 (.cells #[.int .u64 x1, .int .u64 x2] 80)))
    clear d0 d1 dl
    generalize w1.alloc (.cells #[.int .u64 x1, .int .u64 x2] 80) = w2 at *
    have cp := P2.out.c
    have cpf := P2.out.f
    go_wp2
    go_ret
    exact ⟨rfl, P2.out.set _, grown_same (grown_some G2.out) (grown_setCell (i := 0) (grown_refl w2 (some p)) _)⟩

theorem taken_any (a : Nat) (w : World) : Calls Tryz.prog 54 #[.pointer (some ⟨a, 0, none⟩)] w fun e w' => e = .returned (.func (.func 88) #[] #[.pointer (some ⟨w.heap.size + 1, 0, none⟩), .pointer (some ⟨w.heap.size, 0, none⟩)]) ∧ OneAt w' (w.heap.size + 1) (.int .u64 0) 33 ∧ OneAt w' w.heap.size (.pointer (some ⟨a, 0, none⟩)) 25 ∧ w.heap.size + 2 ≤ w'.heap.size ∧ w.grownBy w' none := by
  go_enter Tryz.func54, Tryz.ntmps54
  go_wp2
  go_ret
  refine ⟨rfl, ?_, ?_, by simp, grown2 _ _ _⟩
  · have := OneAt.new (w.alloc (.cells #[.pointer (some ⟨a, 0, none⟩)] 25)) (.int .u64 0) 33
    rwa [World.size_alloc] at this
  · exact (OneAt.new w _ _).grown (grown1 _ _)
theorem tooMany_any {a : Nat} (hs : SpcAt w F a σ) : Calls Tryz.prog 55 #[.pointer (some ⟨a, 0, none⟩)] w fun e w' => e = .returned (.func (.func 90) #[] #[.pointer (some ⟨w.heap.size, 0, none⟩)]) ∧ OneAt w' w.heap.size (.int .u64 σ.K) 33 ∧ w.heap.size + 1 ≤ w'.heap.size ∧ w.grownBy w' none := by
  have PA := Lib.hid (pages_any hs)
  have hk := hs.fits.few
  have hw : IntKind.u64.wrap (σ.K : Int) = σ.K := IntWalk.u64_in _ (by omega)
  clear hs
  go_enter Tryz.func55, Tryz.ntmps55
  go_wp2_with fail
  refine PA.out.mono ?_
  rintro e w1 ⟨rfl, rfl⟩
  go_wp2
  go_ret
  exact ⟨rfl, OneAt.new w _ _, by simp, grown1 _ _⟩

/-- What is asked of a seat whether there are too many pages: an error, and how many there are then. -/
def tmNext (K : Nat) (x : Nat × Nat) : Nat := if x.2 = 0 then K else K + (pgEnd x - x.1 / 4096)
def tmStep (K : Nat) (x : Nat × Nat) : Int × Nat := (if 8192 < tmNext K x then 11 else 0, tmNext K x)
set_option maxRecDepth 20000 in
theorem tooMany1_any (x1 x2 K : Nat) (hb : x1 + x2 ≤ 140737488355328) (hK : K ≤ 140737488355328) {p : Nat} (hp : OneAt w p (.int .u64 K) 33) :
    Calls Tryz.prog 90 #[.agg #[.int .u64 x1, .int .u64 x2], .pointer (some ⟨p, 0, none⟩)] w fun e w' => e = .returned (.int .i64 (tmStep K (x1, x2)).1) ∧ OneAt w' p (.int .u64 (tmStep K (x1, x2)).2) 33 ∧ w.grownBy w' (some p) := by
  have gB := grown1 w (.cells #[.int .u64 x1, .int .u64 x2] 80)
  have aA : (w.alloc (.cells #[.int .u64 x1, .int .u64 x2] 80)).heap[w.heap.size]? = some (.cells #[.int .u64 x1, .int .u64 x2] 80 (0, 0)) := heap_alloc_new w _
  obtain ⟨W, hW⟩ : ∃ W, w.alloc (.cells #[.int .u64 x1, .int .u64 x2] 80) = W := ⟨_, rfl⟩
  obtain ⟨b, hbb⟩ : ∃ b, w.heap.size = b := ⟨_, rfl⟩
  rw [hW] at gB aA
  rw [hbb] at aA
  have c0 : W.cell? ⟨b, 0, none⟩ = some (.int .u64 x1) := by rw [cell_of aA]; rfl
  have c1 : W.cell? ⟨b, 1, none⟩ = some (.int .u64 x2) := by rw [cell_of aA]; rfl
  have gl := lt_of_block aA
  have AA := Lib.hid aA
  have G := Lib.hid gB
  have P := Lib.hid (hp.grown gB)
  have PE := Lib.hid (fun (V : World) (h1 : 1 ≤ x2) => pageEnd_any x1 x2 h1 hb V)
  have hne : p ≠ b := by have := hp.lt; omega
  have cp := P.out.c
  have cpf := P.out.f
  have px := P.out.lt
  clear aA gB hp
  obtain ⟨M, hM⟩ : ∃ M, tmNext K (x1, x2) = M := ⟨_, rfl⟩
  unfold tmStep
  rw [hM]
  simp only []
  obtain ⟨r, hr⟩ : ∃ r : Int, r = if 8192 < M then 11 else 0 := ⟨_, rfl⟩
  rw [← hr]
  have HR := Lib.hid hr
  clear hr
  by_cases h0 : x2 = 0
  · have hMK : K = M := by rw [← hM]; exact (if_pos h0).symm
    have h0' : decide (0 < (x2 : Int)) = false := by simp; omega
    have h0n : decide (0 < x2) = false := by simp; omega
    have P' := Lib.hid (show OneAt W p (.int .u64 M) 33 by rw [← hMK]; exact P.out)
    rw [hMK] at cp
    clear hM hb
    by_cases h2 : 8192 < M
    · have E := Lib.hid (HR.out.trans (if_pos h2))
      have h2' : decide ((8192 : Int) < (M : Int)) = true := by simp; omega
      clear h0 hMK h2 hK
      go_enter Tryz.func90, Tryz.ntmps90
      go_upto_region 1 with fail
      clear hW hbb
      go_wp2
      go_ret
      exact ⟨ret_int E.out.symm, P'.out, grown_some G.out⟩
    · have E := Lib.hid (HR.out.trans (if_neg h2))
      have h2' : decide ((8192 : Int) < (M : Int)) = false := by simp; omega
      clear h0 hMK h2 hK
      go_enter Tryz.func90, Tryz.ntmps90
      go_upto_region 1 with fail
      clear hW hbb
      go_wp2
      go_ret
      exact ⟨ret_int E.out.symm, P'.out, grown_some G.out⟩
  have h0' : decide (0 < (x2 : Int)) = true := by simp; omega
  have h0n : decide (0 < x2) = true := by simp; omega
  have hM' : M = K + (pgEnd (x1, x2) - x1 / 4096) := by rw [← hM]; exact if_neg h0
  have hq1 : x1 / 4096 ≤ pgEnd (x1, x2) := by unfold pgEnd; simp only []; omega
  have hq2 : pgEnd (x1, x2) ≤ 140737488355328 := by unfold pgEnd; simp only []; omega
  have PE' := Lib.hid (fun V => PE.out V (by omega))
  obtain ⟨q, hq⟩ : ∃ q, pgEnd (x1, x2) = q := ⟨_, rfl⟩
  rw [hq] at hM' hq1 hq2 PE'
  have hdq : (x1 : Int) / 4096 = ((x1 / 4096 : Nat) : Int) := by omega
  have hwq : IntKind.u64.wrap ((x1 : Int) / 4096) = (x1 : Int) / 4096 := IntWalk.u64_in _ (by omega)
  have hwd : IntKind.u64.wrap ((q : Int) - (x1 : Int) / 4096) = (q : Int) - (x1 : Int) / 4096 := IntWalk.u64_in _ (by omega)
  have hws : IntKind.u64.wrap ((K : Int) + ((q : Int) - (x1 : Int) / 4096)) = (M : Int) := by rw [IntWalk.u64_in _ (by omega)]; omega
  clear PE hM hq
  go_enter Tryz.func90, Tryz.ntmps90
  go_upto_region 1 with fail
  clear hW hbb h0 hM' hq1 hq2 hdq hb
  go_wp2_with fail
  go_region_law (go_simp; go_at_call 89; refine (PE'.out _).mono ?_; rintro e w2 ⟨rfl, rfl⟩)
  all_goals
    have PF := Lib.hid (show OneAt (((W.setCell ⟨p, 0, none⟩ (.int .u64 M)).alloc (.cells #[.int .u64 x1, .int .u64 x2] 80)).drew) p (.int .u64 M) 33 from ((P.out.set _).grown (grown_drewN (grown1 _ _) 1)))
    have GF := Lib.hid (show w.grownBy (((W.setCell ⟨p, 0, none⟩ (.int .u64 M)).alloc (.cells #[.int .u64 x1, .int .u64 x2] 80)).drew) (some p) from grown_then (grown_same (grown_some G.out) (grown_setCell (i := 0) (grown_refl W (some p)) (.int .u64 M))) (grown_drewN (grown1 _ _) 1))
    clear P G AA PE' c0 c1 gl cp cpf px
    generalize ((W.setCell ⟨p, 0, none⟩ (.int .u64 M)).alloc (.cells #[.int .u64 x1, .int .u64 x2] 80)).drew = w5 at *
    have cp := PF.out.c
    have cpf := PF.out.f
    by_cases h2 : 8192 < M
    · have E := Lib.hid (HR.out.trans (if_pos h2))
      have h2' : decide ((8192 : Int) < (M : Int)) = true := by simp; omega
      clear h2 hK
      go_wp2
      go_ret
      exact ⟨ret_int E.out.symm, PF.out, GF.out⟩
    · have E := Lib.hid (HR.out.trans (if_neg h2))
      have h2' : decide ((8192 : Int) < (M : Int)) = false := by simp; omega
      clear h2 hK
      go_wp2
      go_ret
      exact ⟨ret_int E.out.symm, PF.out, GF.out⟩

/-- What the three ways to refuse are, in a row. -/
structure RefusOut (w w' : World) (a : Nat) (σ : Spc) (e : Ending) : Prop where
  ex : ∃ b ce bx cp, e = .returned (.slice (some ⟨b, 0, none⟩) 3 3) ∧ w'.cell? ⟨b, 0, none⟩ = some (.func (.func 53) #[] #[]) ∧ w'.cell? ⟨b, 1, none⟩ = some (.func (.func 88) #[] #[.pointer (some ⟨ce, 0, none⟩), .pointer (some ⟨bx, 0, none⟩)]) ∧ w'.cell? ⟨b, 2, none⟩ = some (.func (.func 90) #[] #[.pointer (some ⟨cp, 0, none⟩)]) ∧
    OneAt w' ce (.int .u64 0) 33 ∧ OneAt w' bx (.pointer (some ⟨a, 0, none⟩)) 25 ∧ OneAt w' cp (.int .u64 σ.K) 33 ∧ b ≠ ce ∧ b ≠ cp ∧ ce ≠ cp ∧ bx ≠ ce ∧ bx ≠ cp ∧ w.heap.size ≤ ce ∧ w.heap.size ≤ cp
  grown : w.grownBy w' none
theorem refusals_any {a : Nat} (hs : SpcAt w F a σ) : Calls Tryz.prog 27 #[.pointer (some ⟨a, 0, none⟩)] w fun e w' => RefusOut w w' a σ e := by
  have TA := Lib.hid (taken_any a w)
  have SS := Lib.hid hs
  clear hs
  go_enter Tryz.func27, Tryz.ntmps27
  go_wp2_with fail
  refine TA.out.mono ?_
  rintro e w1 ⟨rfl, h1, h2, h3, hg⟩
  have G1 := Lib.hid hg
  have H1 := Lib.hid (And.intro h1 (And.intro h2 h3))
  have TM := Lib.hid (tooMany_any (SS.out.kept (Chg.of_grown hg (F := fun _ => False) (fun _ h => by cases h)) (fun _ _ h => h)))
  clear hg h1 h2 h3
  go_wp2_with fail
  refine TM.out.mono ?_
  rintro e w2 ⟨rfl, h4, h5, hg⟩
  have G2 := Lib.hid (grown_trans G1.out hg)
  have H2 := Lib.hid (And.intro (H1.out.1.grown hg) (And.intro (H1.out.2.1.grown hg) (And.intro h4 h5)))
  clear hg h4 h5
  go_wp2
  go_ret
  have g3 := grown1 w2 (.cells #[.func (.func 53) #[] #[], .func (.func 88) #[] #[.pointer (some ⟨w.heap.size + 1, 0, none⟩), .pointer (some ⟨w.heap.size, 0, none⟩)], .func (.func 90) #[] #[.pointer (some ⟨w1.heap.size, 0, none⟩)]] 78)
  have hn := heap_alloc_new w2 (.cells #[.func (.func 53) #[] #[], .func (.func 88) #[] #[.pointer (some ⟨w.heap.size + 1, 0, none⟩), .pointer (some ⟨w.heap.size, 0, none⟩)], .func (.func 90) #[] #[.pointer (some ⟨w1.heap.size, 0, none⟩)]] 78)
  have s1 := H1.out.2.2
  have s2 := H2.out.2.2.2
  exact ⟨⟨w2.heap.size, w.heap.size + 1, w.heap.size, w1.heap.size, rfl, by rw [cell_of hn]; rfl, by rw [cell_of hn]; rfl, by rw [cell_of hn]; rfl, H2.out.1.grown g3, H2.out.2.1.grown g3, H2.out.2.2.1.grown g3, by omega, by omega, by omega, by omega, by omega, by omega, by omega⟩, grown_trans G2.out g3⟩
end Go.Proofs.YtdagnkdonlfobaaGreat

/- Would an image be laid: lay.Fits. Conditions: the image's lists, by their cells; it has a segment that is no hole. -/
namespace Go.Proofs.YtdagnkdonlfobaaGreat
open Go.RowKit Go.Sort
variable {w w' W : World} {F : Nat → Prop} {σ : Spc} {h : Hx} {s : St} {sv dv : Value}

/-- Seats, by numbers. -/
def seatM (sl : Int) (x : Seg) : Nat × Nat := (((x.addr + sl) % 18446744073709551616).toNat, x.size.toNat)
def seatsM (l : List Sg) (sl : Int) : List (Nat × Nat) := (solidSg l).map (fun x => seatM sl x.seg)
def natP (y : Int × Int) : Nat × Nat := (y.1.toNat, y.2.toNat)
def RowN (w : World) (g : Nat) (xs : List (Nat × Nat)) : Prop := ∀ i x, xs[i]? = some x → w.cell? ⟨g, i * 2, none⟩ = some (.int .u64 x.1) ∧ w.cell? ⟨g, i * 2 + 1, none⟩ = some (.int .u64 x.2)
theorem RowN.grown {g : Nat} {xs : List (Nat × Nat)} (h : RowN w g xs) (hg : w.grownBy w' none) : RowN w' g xs := fun i x hx => ⟨grown_cell hg (h i x hx).1, grown_cell hg (h i x hx).2⟩
theorem RowN.kept {g p : Nat} {xs : List (Nat × Nat)} (h : RowN w g xs) (hg : w.grownBy w' (some p)) (hp : p ≠ g) : RowN w' g xs := fun i x hx => ⟨hg.cell (h i x hx).1 (by simpa using hp.symm), hg.cell (h i x hx).2 (by simpa using hp.symm)⟩
theorem seats_nat {n : Nat} {l : List Sg} {sl : Int} {e : Ending} (h : SeatsOut w w' n (seatsN l sl) e) (hs : ∀ x ∈ solidSg l, 0 ≤ x.seg.size) :
    ∃ g c xs, e = .returned (.slice (some ⟨g, 0, none⟩) n c) ∧ n ≤ c ∧ c ≤ 9223372036854775807 ∧ g < w'.heap.size ∧ RowN w' g xs ∧ xs.length = n ∧ xs.Perm (seatsM l sl) ∧ xs.Pairwise (fun x y => x.1 ≤ y.1) := by
  obtain ⟨⟨g, c, d, he, hc, hm, hg, hr, hd, hp, hs'⟩, _⟩ := h
  have hnn : ∀ y ∈ d.toList, 0 ≤ y.1 ∧ 0 ≤ y.2 := by
    intro y hy
    have := hp.mem_iff.1 hy
    obtain ⟨x, hx, rfl⟩ := List.mem_map.1 this
    exact ⟨by show 0 ≤ (x.seg.addr + sl) % 18446744073709551616; omega, hs x hx⟩
  have hget : ∀ i, (hi : i < n) → d[i]! = d.toList[i]'(by simpa [hd] using hi) := fun i hi => by
    rw [getElem!_pos d i (by omega)]; simp
  refine ⟨g, c, d.toList.map natP, he, hc, hm, hg, ?_, by simp [hd], ?_, ?_⟩
  · intro i x hx
    rw [List.getElem?_map] at hx
    cases hy : d.toList[i]? with
    | none => rw [hy] at hx; cases hx
    | some y =>
      rw [hy] at hx
      injection hx with hx
      subst hx
      obtain ⟨hi, hy'⟩ := List.getElem?_eq_some_iff.1 hy
      have hi' : i < d.size := by simpa using hi
      have h2 := hnn y (by rw [← hy']; exact List.getElem_mem hi)
      have hr' := hr i hi'
      rw [hget i (by omega), hy'] at hr'
      have e1 : ((natP y).1 : Int) = y.1 := Int.toNat_of_nonneg h2.1
      have e2 : ((natP y).2 : Int) = y.2 := Int.toNat_of_nonneg h2.2
      rw [e1, e2]
      exact hr'
  · have := hp.map natP
    rw [show (seatsN l sl).map natP = seatsM l sl from by unfold seatsN seatsM; rw [List.map_map]; rfl] at this
    exact this
  · rw [List.pairwise_iff_getElem]
    intro i j hi hj hij
    have hi' : i < n := by simpa [hd] using hi
    have hj' : j < n := by simpa [hd] using hj
    have := hs' i j hij hj'
    rw [hget i hi', hget j hj'] at this
    simp only [List.getElem_map]
    unfold natP
    simp only []
    omega

/-- Seats asked one after the other; the first error. -/
def askRow (st : Nat → Nat × Nat → Int × Nat) : Nat → List (Nat × Nat) → Int
  | _, [] => 0
  | z, x :: l => if (st z x).1 ≠ 0 then (st z x).1 else askRow st (st z x).2 l
def stepOf (σ : Spc) : Nat → Nat → Nat × Nat → Int × Nat
  | 0 => fun z x => (beErr x, z)
  | 1 => tkStep σ
  | _ => tmStep
def fits3 (σ : Spc) (xs : List (Nat × Nat)) : Int :=
  if askRow (stepOf σ 0) 0 xs ≠ 0 then askRow (stepOf σ 0) 0 xs else if askRow (stepOf σ 1) 0 xs ≠ 0 then askRow (stepOf σ 1) 0 xs else askRow (stepOf σ 2) σ.K xs
/-- .. from the k-th way to refuse on. -/
def askFrom (σ : Spc) (z : Nat → Nat) (xs : List (Nat × Nat)) : Nat → Nat → Int
  | _, 0 => 0
  | k, m + 1 => if askRow (stepOf σ k) (z k) xs ≠ 0 then askRow (stepOf σ k) (z k) xs else askFrom σ z xs (k + 1) m
def z0 (σ : Spc) : Nat → Nat
  | 2 => σ.K
  | _ => 0
theorem fits3_eq (σ : Spc) (xs : List (Nat × Nat)) : fits3 σ xs = askFrom σ (z0 σ) xs 0 3 := by
  unfold fits3 askFrom askFrom askFrom askFrom
  simp only [z0]
  by_cases h : askRow (stepOf σ 2) σ.K xs = 0
  · simp [h]
  · simp [h]
theorem askRow_drop {st : Nat → Nat × Nat → Int × Nat} {xs : List (Nat × Nat)} {i z : Nat} {x : Nat × Nat} (h : xs[i]? = some x) : askRow st z (xs.drop i) = if (st z x).1 ≠ 0 then (st z x).1 else askRow st (st z x).2 (xs.drop (i + 1)) := by
  obtain ⟨hi, rfl⟩ := List.getElem?_eq_some_iff.1 h
  rw [List.drop_eq_getElem_cons hi]
  rfl
theorem be_all {σ : Spc} {xs : List (Nat × Nat)} {z : Nat} (h : askRow (stepOf σ 0) z xs = 0) : ∀ x ∈ xs, x.1 + x.2 ≤ 140737488355328 := by
  induction xs generalizing z with
  | nil => intro x hx; cases hx
  | cons y l ih =>
    unfold askRow at h
    by_cases hy : (stepOf σ 0 z y).1 = 0
    · rw [if_neg (by simp [hy])] at h
      intro x hx
      rcases List.mem_cons.1 hx with rfl | hx
      · change beErr x = 0 at hy
        unfold beErr at hy
        split at hy
        · rename_i hl
          have := lbelow_iff.1 hl
          omega
        · cases hy
      · exact ih h x hx
    · rw [if_pos hy] at h
      exact absurd h hy

/-- What stands still, and what goes on, while seats are asked. -/
structure FInv (w0 : World) (F : Nat → Prop) (σ : Spc) (a b g ce bx cp : Nat) (xs : List (Nat × Nat)) (z : Nat → Nat) (W : World) : Prop where
  row : RowN W g xs
  c0 : W.cell? ⟨b, 0, none⟩ = some (.func (.func 53) #[] #[])
  c1 : W.cell? ⟨b, 1, none⟩ = some (.func (.func 88) #[] #[.pointer (some ⟨ce, 0, none⟩), .pointer (some ⟨bx, 0, none⟩)])
  c2 : W.cell? ⟨b, 2, none⟩ = some (.func (.func 90) #[] #[.pointer (some ⟨cp, 0, none⟩)])
  ce : OneAt W ce (.int .u64 (z 1 : Nat)) 33
  bx : OneAt W bx (.pointer (some ⟨a, 0, none⟩)) 25
  cp : OneAt W cp (.int .u64 (z 2 : Nat)) 33
  few : z 2 ≤ 8192
  spc : SpcAt W F a σ
  grown : w0.grownBy W none
structure FApart (w0 : World) (F : Nat → Prop) (b g ce bx cp : Nat) : Prop where
  b1 : b ≠ ce
  b2 : b ≠ cp
  cc : ce ≠ cp
  x1 : bx ≠ ce
  x2 : bx ≠ cp
  g1 : g ≠ ce
  g2 : g ≠ cp
  e0 : w0.heap.size ≤ ce
  p0 : w0.heap.size ≤ cp
  foot : ∀ k, F k → k < w0.heap.size
section
variable {w0 : World} {a b g ce bx cp : Nat} {xs : List (Nat × Nat)} {z : Nat → Nat}
theorem spc_kept {r : Option Nat} (h : SpcAt W F a σ) (hg : W.grownBy w' r) (hr : ∀ k, F k → r ≠ some k) : SpcAt w' F a σ :=
  h.kept (Chg.of_grown hg (F := fun k => r = some k) (fun _ h => .inl h)) (fun k hk e => hr k hk e)
theorem FInv.grow (h : FInv w0 F σ a b g ce bx cp xs z W) (hg : W.grownBy w' none) : FInv w0 F σ a b g ce bx cp xs z w' :=
  ⟨h.row.grown hg, grown_cell hg h.c0, grown_cell hg h.c1, grown_cell hg h.c2, h.ce.grown hg, h.bx.grown hg, h.cp.grown hg, h.few, spc_kept h.spc hg (by simp), grown_trans h.grown hg⟩
theorem FInv.end (h : FInv w0 F σ a b g ce bx cp xs z W) (A : FApart w0 F b g ce bx cp) (n : Nat) (hg : W.grownBy w' (some ce)) (hc : OneAt w' ce (.int .u64 n) 33) : FInv w0 F σ a b g ce bx cp xs (fun k => if k = 1 then n else z k) w' :=
  ⟨h.row.kept hg A.g1.symm, hg.cell h.c0 (by simpa using A.b1), hg.cell h.c1 (by simpa using A.b1), hg.cell h.c2 (by simpa using A.b1), hc, h.bx.kept hg (by simpa using A.x1.symm), h.cp.kept hg (by simpa using A.cc), h.few,
    spc_kept h.spc hg (fun k hk e => by injection e with e; have := A.foot k hk; have := A.e0; omega), grown_new h.grown hg A.e0⟩
theorem FInv.pages (h : FInv w0 F σ a b g ce bx cp xs z W) (A : FApart w0 F b g ce bx cp) (n : Nat) (hn : n ≤ 8192) (hg : W.grownBy w' (some cp)) (hc : OneAt w' cp (.int .u64 n) 33) : FInv w0 F σ a b g ce bx cp xs (fun k => if k = 2 then n else z k) w' :=
  ⟨h.row.kept hg A.g2.symm, hg.cell h.c0 (by simpa using A.b2), hg.cell h.c1 (by simpa using A.b2), hg.cell h.c2 (by simpa using A.b2), h.ce.kept hg (by simpa using A.cc.symm), h.bx.kept hg (by simpa using A.x2.symm), hc, hn,
    spc_kept h.spc hg (fun k hk e => by injection e with e; have := A.foot k hk; have := A.p0; omega), grown_new h.grown hg A.p0⟩
end
end Go.Proofs.YtdagnkdonlfobaaGreat

/- lay.Fits, walked. Conditions: the image's lists, by their cells; it has a segment that is no hole. -/
namespace Go.Proofs.YtdagnkdonlfobaaGreat
open Go.RowKit Go.Sort
variable {w w' W : World} {F : Nat → Prop} {σ : Spc} {h : Hx} {s : St} {sv dv : Value}

structure AskOut (w0 : World) (F : Nat → Prop) (σ : Spc) (a b g ce bx cp : Nat) (xs : List (Nat × Nat)) (z : Nat → Nat) (k : Nat) (x : Nat × Nat) (e : Ending) (V : World) : Prop where
  ret : e = .returned (.int .i64 (stepOf σ k (z k) x).1)
  grown : w0.grownBy V none
  next : (stepOf σ k (z k) x).1 = 0 → ∃ z', FInv w0 F σ a b g ce bx cp xs z' V ∧ z' k = (stepOf σ k (z k) x).2 ∧ ∀ j, j ≠ k → z' j = z j
theorem ask_step {w0 : World} {a b g ce bx cp : Nat} {xs : List (Nat × Nat)} (A : FApart w0 F b g ce bx cp) {k : Nat} (hk : k < 3) (hall : 1 ≤ k → ∀ x ∈ xs, x.1 + x.2 ≤ 140737488355328) :
    ∃ f cb, (∀ z V, FInv w0 F σ a b g ce bx cp xs z V → V.cell? ⟨b, k, none⟩ = some (.func (.func f) #[] cb)) ∧ (∀ args V, (callFunc f args).run Tryz.prog V = .ok (.enter f args) V) ∧
      ∀ z V x, x ∈ xs → FInv w0 F σ a b g ce bx cp xs z V → Calls Tryz.prog f (#[.agg #[.int .u64 x.1, .int .u64 x.2]] ++ cb) V fun e V' => AskOut w0 F σ a b g ce bx cp xs z k x e V' := by
  match k, hk with
  | 0, _ =>
    refine ⟨_, _, fun z V I => I.c0, enters_of Tryz.func53 (by kernel_rfl) rfl, fun z V x hx I => (beyond_any x.1 x.2 V).mono ?_⟩
    rintro e V' ⟨rfl, hg⟩
    exact ⟨rfl, grown_trans I.grown hg, fun _ => ⟨z, I.grow hg, rfl, fun _ _ => rfl⟩⟩
  | 1, _ =>
    refine ⟨_, _, fun z V I => I.c1, enters_of Tryz.func88 (by kernel_rfl) rfl, fun z V x hx I => (taken1_any x.1 x.2 (z 1) (hall (Nat.le_refl _) x hx) I.ce I.bx I.spc).mono ?_⟩
    rintro e V' ⟨rfl, ho, hg⟩
    exact ⟨rfl, grown_new I.grown hg A.e0, fun _ => ⟨_, I.end A _ hg ho, rfl, fun j hj => by show (if j = 1 then _ else z j) = z j; rw [if_neg hj]⟩⟩
  | 2, _ =>
    refine ⟨_, _, fun z V I => I.c2, enters_of Tryz.func90 (by kernel_rfl) rfl, fun z V x hx I => (tooMany1_any x.1 x.2 (z 2) (hall (by decide) x hx) (Nat.le_trans I.few (by decide)) I.cp).mono ?_⟩
    rintro e V' ⟨rfl, ho, hg⟩
    refine ⟨rfl, grown_new I.grown hg A.p0, fun h0 => ⟨_, I.pages A _ ?_ hg ho, rfl, fun j hj => by show (if j = 2 then _ else z j) = z j; rw [if_neg hj]⟩⟩
    change (if 8192 < tmNext (z 2) (x.1, x.2) then (11 : Int) else 0) = 0 at h0
    split at h0
    · cases h0
    · rename_i hn
      exact Nat.le_of_not_lt hn

structure FitsOut (w w' : World) (σ : Spc) (l : List Sg) (sl : Nat) (e : Ending) : Prop where
  ex : ∃ xs, xs.Perm (seatsM l sl) ∧ xs.Pairwise (fun x y => x.1 ≤ y.1) ∧ e = .returned (.int .i64 (if sl % 4096 = 0 then fits3 σ xs else 2))
  grown : w.grownBy w' none

set_option maxRecDepth 20000 in
set_option maxHeartbeats 1600000 in
theorem Fits_any {l : List Sg} {qs : Option Addr} {cs a : Nat} (k : ImgRows w s l qs cs) (hn : l.length ≤ 1000000) (sl : Nat) (h0 : 0 < (solidSg l).length) (hsz : ∀ x ∈ solidSg l, 0 ≤ x.seg.size) (hs : SpcAt w F a σ) (hF : ∀ k, F k → k < w.heap.size) :
    Calls Tryz.prog 10 #[.pointer (some ⟨a, 0, none⟩), imgV h s (.slice qs l.length cs) dv, .int .u64 sl] w fun e w' => FitsOut w w' σ l sl e := by
  have gB := grown1 w (.cells (imgArr h s (.slice qs l.length cs) dv) 41)
  have aA : ImgAt (w.alloc (.cells (imgArr h s (.slice qs l.length cs) dv) 41)) w.heap.size h s (.slice qs l.length cs) dv := heap_alloc_new w _
  obtain ⟨W, hW⟩ : ∃ W, w.alloc (.cells (imgArr h s (.slice qs l.length cs) dv) 41) = W := ⟨_, rfl⟩
  obtain ⟨b, hb⟩ : ∃ b, w.heap.size = b := ⟨_, rfl⟩
  rw [hW] at gB aA
  rw [hb] at aA
  have G := Lib.hid gB
  have IA := Lib.hid aA
  have SS := Lib.hid (spc_kept hs gB (by simp))
  have FF := Lib.hid (fun k (hk : F k) => (Nat.lt_of_lt_of_le (hF k hk) gB.size : k < W.heap.size))
  have SE := Lib.hid (seats_any (h := h) (dv := dv) (k.grown gB) hn sl h0)
  have NS := Lib.hid hsz
  have MA := Lib.hid (fun V => mayAsk_any (some ⟨a, 0, none⟩) sl V)
  have LN := Lib.hid (Nat.le_trans (solid_len l) hn)
  clear k gB aA hs hF hsz h0 hn
  rw [show imgV h s (.slice qs l.length cs) dv = .agg (imgArr h s (.slice qs l.length cs) dv) from rfl]
  unfold imgArr at hW ⊢
  by_cases hsl : sl % 4096 = 0
  · have E := Lib.hid (show askErr (some ⟨a, 0, none⟩) sl = 0 by unfold askErr; simp [hsl])
    rw [E.out] at MA
    have HS := Lib.hid hsl
    clear E hsl
    go_enter Tryz.func10, Tryz.ntmps10
    go_upto_region 1 with fail
    clear hW hb
    generalize Value.agg #[.int .i64 h.kd, .int .i64 h.sb, .int .u32 h.fl, .string (strOfNums s.name), .slice qs l.length cs, dv, .int .u64 s.rb.1, .int .u64 s.rb.2, .int .u64 s.bd.1, .int .u64 s.bd.2, .int .u64 s.wk.1, .int .u64 s.wk.2, .int .u64 s.lz.1, .int .u64 s.lz.2, .int .u64 s.tr.1, .int .u64 s.tr.2, .int .u64 s.ch.1, .int .u64 s.ch.2, .int .u64 s.sy.1, .int .u64 s.sy.2, .int .u64 s.st.1, .int .u64 s.st.2, .int .u64 s.entry, .bool s.has] = v0
    go_wp2_with fail
    go_step3
    go_wp2_with fail
    refine (MA.out _).mono ?_
    rintro e w1 ⟨rfl, rfl⟩
    go_wp2_with (first | refine wpList_load_imgI rfl _ rfl rfl IA.out ?_ | fail)
    refine SE.out.mono ?_
    rintro e w2 hso
    have g2 := hso.grown
    obtain ⟨g, c, xs, rfl, hc, hcm, hg, hr, hl, hp, hso'⟩ := seats_nat hso NS.out
    have RA := Lib.hid (refusals_any (spc_kept SS.out g2 (by simp)))
    have ROW := Lib.hid hr
    have HG := Lib.hid hg
    have PM := Lib.hid (And.intro hp hso')
    have HL := Lib.hid hl
    have HC := Lib.hid (And.intro hc hcm)
    have G2 := Lib.hid (grown_trans G.out g2)
    have S2 := Lib.hid (spc_kept SS.out g2 (by simp))
    have F2 := Lib.hid (fun k (hk : F k) => (Nat.lt_of_lt_of_le (FF.out k hk) g2.size : k < w2.heap.size))
    clear hso g2 hc hcm hg hr hl hp hso' IA SE MA NS
    generalize (solidSg l).length = N at *
    generalize imgV h s (.slice qs l.length cs) dv = v1 at *
    go_wp2_with fail
    go_step3
    go_wp2_with fail
    refine RA.out.mono ?_
    rintro e w3 ⟨⟨b3, ce, bx, cp, rfl, r0, r1, r2, o1, o2, o3, n1, n2, n3, n4, n5, n6, n7⟩, hg3⟩
    have AP : FApart w2 F b3 g ce bx cp := ⟨n1, n2, n3, n4, n5, (by have := HG.out; omega), (by have := HG.out; omega), n6, n7, F2.out⟩
    have I3 : FInv w2 F σ a b3 g ce bx cp xs (z0 σ) w3 := ⟨ROW.out.grown hg3, r0, r1, r2, o1, o2, o3, S2.out.fits.few, spc_kept S2.out hg3 (by simp), hg3⟩
    have IH := Lib.hid I3
    have AH := Lib.hid AP
    clear r0 r1 r2 o1 o2 o3 n1 n2 n3 n4 n5 n6 n7 hg3 AP I3 RA ROW HG S2 F2
    go_wp2_with fail
    go_loopw [9, 26] (fun e i wr => ∃ (k : Nat) (z : Nat → Nat), k ≤ 3 ∧ i = .int .i64 k ∧ e = .int .i64 0 ∧ FInv w2 F σ a b3 g ce bx cp xs z wr ∧ (∀ j, k ≤ j → z j = z0 σ j) ∧ askFrom σ (z0 σ) xs 0 3 = askFrom σ (z0 σ) xs k (3 - k) ∧ (1 ≤ k → ∀ x ∈ xs, x.1 + x.2 ≤ 140737488355328)) (fun _ i _ => 3 - (intOf i).toNat)
    case atStart => exact ⟨0, z0 σ, Nat.zero_le _, rfl, rfl, IH.out, fun _ _ => rfl, rfl, fun h => absurd h (by decide)⟩
    case round =>
      obtain ⟨k, z, hk, rfl, rfl, hI, hz, ha, hall⟩ := hrel
      by_cases hlt : k < 3
      · obtain ⟨f, cb, q1, q2, q3⟩ := ask_step AH.out hlt hall
        have c3 := q1 z wr hI
        have Q1 := Lib.hid q1
        have Q3 := Lib.hid q3
        have I4 := Lib.hid hI
        have ALL := Lib.hid hall
        have HA := Lib.hid (show askFrom σ (z0 σ) xs 0 3 = if askRow (stepOf σ k) (z0 σ k) xs ≠ 0 then askRow (stepOf σ k) (z0 σ k) xs else askFrom σ (z0 σ) xs (k + 1) (3 - (k + 1)) by
          rw [ha, show 3 - k = (3 - (k + 1)) + 1 by omega]; rfl)
        have HZ := Lib.hid hz
        have dl : decide ((k : Int) < 3) = true := by simp; omega
        clear q1 q3 hI ha hall hz
        go_wp2_with fail
        go_loopw [9, 32] (fun e i wx => ∃ (m : Nat) (z' : Nat → Nat), m ≤ N ∧ i = .int .i64 m ∧ e = .int .i64 0 ∧ FInv w2 F σ a b3 g ce bx cp xs z' wx ∧ (∀ j, j ≠ k → z' j = z j) ∧ askRow (stepOf σ k) (z0 σ k) xs = askRow (stepOf σ k) (z' k) (xs.drop m)) (fun _ i _ => N - (intOf i).toNat)
        case atStart => exact ⟨0, z, Nat.zero_le _, rfl, rfl, I4.out, fun _ _ => rfl, by rw [HZ.out k (Nat.le_refl _)]; rfl⟩
        case round =>
          obtain ⟨m, z', hm, rfl, rfl, hI, hzz, har⟩ := hrel
          by_cases hmt : m < N
          · obtain ⟨x, hx⟩ : ∃ x, xs[m]? = some x := ⟨_, List.getElem?_eq_getElem (by rw [HL.out]; exact hmt)⟩
            have hr := hI.row m x hx
            have dm : decide ((m : Int) < (N : Int)) = true := by simp; omega
            have hml : (m : Int) < (N : Int) := by omega
            have hcN : N ≤ c := HC.out.1
            have hcM : c ≤ 9223372036854775807 := HC.out.2
            have AS := Lib.hid (har.trans (askRow_drop hx))
            have MX := Lib.hid (List.mem_of_getElem? hx)
            have I5 := Lib.hid hI
            have ZZ := Lib.hid hzz
            obtain ⟨x1, x2⟩ := x
            simp only [] at hr
            obtain ⟨y0, y1⟩ := hr
            clear hI hzz har hx
            go_wp2_with fail
            refine (Q3.out _ _ (x1, x2) MX.out (I5.out.grow (grown1 wr (.cells #[.int .u64 x1, .int .u64 x2] 80)))).mono ?_
            rintro e w7 ⟨rfl, hg7, hnx⟩
            have G7 := Lib.hid (grown_trans G2.out hg7)
            have AS' := AS.out
            clear hg7 y0 y1
            obtain ⟨r, hr⟩ : ∃ r, stepOf σ k (z' k) (x1, x2) = r := ⟨_, rfl⟩
            rw [hr] at AS' hnx ⊢
            obtain ⟨er, zn⟩ := r
            simp only [] at AS' hnx ⊢
            by_cases he : er = 0
            · obtain ⟨z2, hI2, hzk, hzj⟩ := hnx he
              subst he
              have I7 := Lib.hid hI2
              have HJ := Lib.hid (fun j (hj : j ≠ k) => (hzj j hj).trans (ZZ.out j hj))
              have AR := Lib.hid (show askRow (stepOf σ k) (z0 σ k) xs = askRow (stepOf σ k) (z2 k) (xs.drop (m + 1)) by rw [hzk]; exact AS'.trans (if_neg (by simp)))
              clear hnx hI2 hzk hzj AS' hr
              go_wp2
              go_roundw
              case rel => exact ⟨m + 1, z2, hmt, by go_num, rfl, I7.out, HJ.out, AR.out⟩
              case measure => simp [intOf]; omega
            · have hde : (er == 0) = false := by simpa using he
              have HE := Lib.hid (show fits3 σ xs = er by
                rw [if_pos he] at AS'
                rw [fits3_eq, HA.out, AS', if_pos he])
              clear hnx AS' hr he
              go_wp2
              rw [Exit.noGoto_ret]
              go_ret
              exact ⟨⟨xs, PM.out.1, PM.out.2, by rw [if_pos HS.out, HE.out]; rfl⟩, G7.out⟩
          · have hm' : m = N := by omega
            have dm : decide ((m : Int) < (N : Int)) = false := by simp; omega
            have har' : askRow (stepOf σ k) (z0 σ k) xs = 0 := by
              rw [har, hm', ← HL.out, List.drop_length]; rfl
            have I5 := Lib.hid hI
            have ZZ := Lib.hid hzz
            have HB := Lib.hid har'
            clear hI hzz har har' hm'
            go_wp2
            go_roundw
            case rel =>
              refine ⟨k + 1, z', hlt, by go_num, rfl, I5.out, fun j hj => (ZZ.out j (by omega)).trans (HZ.out j (by omega)), ?_, fun _ => ?_⟩
              · rw [HA.out, if_neg (by rw [HB.out]; decide)]
              · rcases Nat.eq_zero_or_pos k with e | e
                · subst e; exact be_all HB.out
                · exact ALL.out e
            case measure => simp [intOf]; omega
      · have hk3 : k = 3 := by omega
        subst hk3
        have G4 := Lib.hid (grown_trans G2.out hI.grown)
        have HE := Lib.hid (show fits3 σ xs = 0 by rw [fits3_eq, ha]; rfl)
        clear hI hz ha hall
        go_wp2
        rw [Exit.noGoto_ret]
        go_ret
        exact ⟨⟨xs, PM.out.1, PM.out.2, by rw [if_pos HS.out, HE.out]; rfl⟩, G4.out⟩
  · have E := Lib.hid (show askErr (some ⟨a, 0, none⟩) sl = 2 by unfold askErr; simp [hsl])
    rw [E.out] at MA
    have PP := Lib.hid SE.out
    have HS := Lib.hid hsl
    obtain ⟨xs, hxs⟩ : ∃ xs : List (Nat × Nat), xs.Perm (seatsM l sl) ∧ xs.Pairwise (fun x y => x.1 ≤ y.1) := by
      have tt : ∀ x y z : Nat × Nat, decide (x.1 ≤ y.1) = true → decide (y.1 ≤ z.1) = true → decide (x.1 ≤ z.1) = true := by
        intro x y z h1 h2; simp at *; omega
      have tot : ∀ x y : Nat × Nat, (decide (x.1 ≤ y.1) || decide (y.1 ≤ x.1)) = true := by
        intro x y; simp; omega
      refine ⟨(seatsM l sl).mergeSort (fun x y => decide (x.1 ≤ y.1)), List.mergeSort_perm _ _, ?_⟩
      exact (List.pairwise_mergeSort tt tot (seatsM l sl)).imp (fun h => by simpa using h)
    have XS := Lib.hid hxs
    clear E hsl SE hxs
    go_enter Tryz.func10, Tryz.ntmps10
    go_upto_region 1 with fail
    clear hW hb
    generalize Value.agg #[.int .i64 h.kd, .int .i64 h.sb, .int .u32 h.fl, .string (strOfNums s.name), .slice qs l.length cs, dv, .int .u64 s.rb.1, .int .u64 s.rb.2, .int .u64 s.bd.1, .int .u64 s.bd.2, .int .u64 s.wk.1, .int .u64 s.wk.2, .int .u64 s.lz.1, .int .u64 s.lz.2, .int .u64 s.tr.1, .int .u64 s.tr.2, .int .u64 s.ch.1, .int .u64 s.ch.2, .int .u64 s.sy.1, .int .u64 s.sy.2, .int .u64 s.st.1, .int .u64 s.st.2, .int .u64 s.entry, .bool s.has] = v0
    go_wp2_with fail
    go_step3
    go_wp2_with fail
    refine (MA.out _).mono ?_
    rintro e w1 ⟨rfl, rfl⟩
    go_wp2
    rw [Exit.noGoto_ret]
    go_ret
    exact ⟨⟨xs, XS.out.1, XS.out.2, by rw [if_neg HS.out]; rfl⟩, G.out⟩
end Go.Proofs.YtdagnkdonlfobaaGreat

/- A part of a slice, copied: image.Part; the document's Part. Conditions: bytes, wherever they lie; numbers of 64 bits. -/
namespace Go.Proofs.YtdagnkdonlfobaaGreat
open Go.RowKit
variable {w w' W : World}

def partN (ys : List Int) (off sz : Int) : List Int := if withinN off sz ys.length = true then (ys.drop off.toNat).take sz.toNat else []
theorem partN_in {ys : List Int} {off sz : Int} (h : withinN off sz ys.length = true) : partN ys off sz = (ys.drop off.toNat).take sz.toNat := if_pos h
theorem partN_no {ys : List Int} {off sz : Int} (h : withinN off sz ys.length = false) : partN ys off sz = [] := if_neg (by rw [h]; decide)
theorem partN_small {ys : List Int} (h : Small ys) (off sz : Int) : Small (partN ys off sz) := fun x hx => by
  unfold partN at hx
  split at hx
  · exact h x (List.mem_of_mem_drop (List.mem_of_mem_take hx))
  · cases hx
theorem sub_bytes {q : Option Addr} {c : Nat} {ys : List Int} (h : IsBytes w q c ys) (so k : Nat) (hend : so + k ≤ ys.length) (hk : 0 < k) : ∃ b o, q = some ⟨b, o, none⟩ ∧ IsBytes w (some ⟨b, o + so, none⟩) k ((ys.drop so).take k) := by
  obtain ⟨b, o, e, hx⟩ := h.2 (by omega)
  refine ⟨b, o, e, IsBytes.mk_at fun i hi => ?_⟩
  have hi' : i < k := by simp at hi; omega
  rw [Nat.add_assoc, hx (so + i) (by omega)]
  simp [List.getD, List.getElem?_drop, hi']
theorem cut3_at {q : Option Addr} {c : Nat} {ys : List Int} (h : IsBytes w q c ys) (hc : ys.length ≤ c) (so k : Nat) (hend : so + k ≤ ys.length) :
    ∃ V, (∀ W, (Instr.slice 31 (.slice q ys.length c) (some (.int .u64 (so : Int))) (some (.int .u64 ((so : Int) + (k : Int)))) (some (.int .u64 ((so : Int) + (k : Int))))).run Tryz.prog W = .ok (.slice V k k) W) ∧ IsBytes w V k ((ys.drop so).take k) := by
  have run : ∀ W, (Instr.slice 31 (.slice q ys.length c) (some (.int .u64 (so : Int))) (some (.int .u64 ((so : Int) + (k : Int)))) (some (.int .u64 ((so : Int) + (k : Int))))).run Tryz.prog W = .ok (sliced q so (so + k) (so + k) 1) W := fun W => by
    rw [run_slice_lhm (P := Tryz.prog) W 31 q ys.length c (by kernel_rfl) .u64 .u64 .u64 (so : Int) ((so : Int) + (k : Int)) ((so : Int) + (k : Int)) (by omega) (by omega) (by omega) (by omega)]
    have hs : ((sizeOf (Tryz.prog.elem 31)).run Tryz.prog W) = .ok 1 W := by kernel_rfl
    rw [hs]
    simp only [Result.andThen]
    rw [show ((so : Int) + (k : Int)).toNat = so + k by omega, show ((so : Int)).toNat = so by omega]
  rcases Nat.eq_zero_or_pos k with hk | hk
  · subst hk
    refine ⟨q, fun W => ?_, ?_⟩
    · rw [run W]; simp [sliced]
    · have e : (ys.drop so).take 0 = [] := rfl
      rw [e]
      exact ⟨fun _ => rfl, fun h => by simp at h⟩
  · obtain ⟨b, o, rfl, hb⟩ := sub_bytes h so k hend hk
    refine ⟨_, fun W => ?_, hb⟩
    rw [run W]
    unfold sliced
    rw [if_neg (by omega), show so + k - so = k by omega]
    simp only [Option.map_some, add_flat, Nat.mul_one]

theorem within_wn (a b n : Nat) (ha : a < 18446744073709551616) (hb : b < 18446744073709551616) (hn : n < 18446744073709551616) (V : World) : Calls Tryz.prog 97 #[.int .u64 a, .int .u64 b, .int .u64 n] V fun e w' => e = .returned (.bool (withinN a b n)) ∧ V = w' :=
  withini_any a b n (by omega) (by omega) (by omega) V
set_option maxRecDepth 20000 in
theorem cut_any {ys : List Int} {q : Option Addr} {c : Nat} (h : IsBytes w q c ys) (hc : ys.length ≤ c) (hcm : c ≤ 9223372036854775807) (off sz : Nat) (ho : off < 18446744073709551616) (hz : sz < 18446744073709551616) :
    Calls Tryz.prog 61 #[.slice q ys.length c, .agg #[.int .u64 off, .int .u64 sz]] w fun e w' => ∃ V cc, e = .returned (.slice V (partN ys off sz).length cc) ∧ IsBytes w' V cc (partN ys off sz) ∧ (partN ys off sz).length ≤ cc ∧ cc ≤ 9223372036854775807 ∧ w.grownBy w' none := by
  have gB := grown1 w (.cells #[.int .u64 off, .int .u64 sz] 39)
  have aA : (w.alloc (.cells #[.int .u64 off, .int .u64 sz] 39)).heap[w.heap.size]? = some (.cells #[.int .u64 off, .int .u64 sz] 39 (0, 0)) := heap_alloc_new w _
  obtain ⟨W, hW⟩ : ∃ W, w.alloc (.cells #[.int .u64 off, .int .u64 sz] 39) = W := ⟨_, rfl⟩
  obtain ⟨b, hb⟩ : ∃ b, w.heap.size = b := ⟨_, rfl⟩
  rw [hW] at gB aA
  rw [hb] at aA
  have c0 : W.cell? ⟨b, 0, none⟩ = some (.int .u64 off) := by rw [cell_of aA]; rfl
  have c1 : W.cell? ⟨b, 1, none⟩ = some (.int .u64 sz) := by rw [cell_of aA]; rfl
  have gl := lt_of_block aA
  have G := Lib.hid gB
  have WI := Lib.hid (fun V => within_wn off sz ys.length ho hz (by omega) V)
  have cv : IntKind.u64.wrap (ys.length : Int) = ys.length := IntWalk.u64_in _ (by omega)
  clear aA gB
  cases hw : withinN off sz ys.length
  · have E := Lib.hid (partN_no hw)
    rw [hw] at WI
    rw [E.out]
    clear hw h
    generalize ys.length = n at *
    go_enter Tryz.func61, Tryz.ntmps61
    go_upto_region 1 with fail
    clear hW hb
    go_wp2_with fail
    refine (WI.out _).mono ?_
    rintro e w1 ⟨rfl, rfl⟩
    go_wp2
    go_ret
    exact ⟨none, 0, rfl, IsBytes.nil, Nat.le_refl _, by omega, G.out⟩
  · have hle : off + sz ≤ ys.length := by unfold withinN at hw; simp at hw; omega
    have hl : (partN ys off sz).length = sz := by rw [partN_in hw]; simp; omega
    have hp : partN ys off sz = (ys.drop off).take sz := partN_in hw
    obtain ⟨V, hV, hB⟩ := cut3_at h hc off sz hle
    rw [hl, hp]
    have ws : IntKind.u64.wrap ((off : Int) + sz) = (off : Int) + sz := IntWalk.u64_in _ (by omega)
    have HB := Lib.hid (hB.kept G.out (by simp))
    have hsc : sz ≤ 9223372036854775807 := by omega
    rw [hw] at WI
    clear hw h hl hp hB hc
    generalize (ys.drop off).take sz = zs at *
    generalize ys.length = n at *
    go_enter Tryz.func61, Tryz.ntmps61
    go_upto_region 1 with fail
    clear hW hb
    go_wp2_with fail
    refine (WI.out _).mono ?_
    rintro e w1 ⟨rfl, rfl⟩
    go_wp2
    go_ret
    exact ⟨V, sz, rfl, HB.out, Nat.le_refl _, hsc, G.out⟩

set_option maxRecDepth 20000 in
theorem Part_any {ys : List Int} {q : Option Addr} {c : Nat} (h : IsBytes w q c ys) (hc : ys.length ≤ c) (hcm : c ≤ 9223372036854775807) (h47 : ys.length ≤ 140737488355328) (off sz : Nat) (ho : off < 18446744073709551616) (hz : sz < 18446744073709551616) :
    Calls Tryz.prog 33 #[.slice q ys.length c, .agg #[.int .u64 off, .int .u64 sz]] w fun e w' => ∃ V cc, e = .returned (.slice V (partN ys off sz).length cc) ∧ w'.ownsRow w.heap.size 5 1 (.slice V (partN ys off sz).length cc) (partN ys off sz).length ((partN ys off sz).map (Value.int .u8)) ∧ w.grownBy w' none := by
  have gB := grown1 w (.cells #[.int .u64 off, .int .u64 sz] 39)
  have aA : (w.alloc (.cells #[.int .u64 off, .int .u64 sz] 39)).heap[w.heap.size]? = some (.cells #[.int .u64 off, .int .u64 sz] 39 (0, 0)) := heap_alloc_new w _
  have CU := Lib.hid (cut_any (h.kept gB (by simp)) hc hcm off sz ho hz)
  have hpl : (partN ys off sz).length ≤ 140737488355328 := by
    unfold partN
    split
    · simp; omega
    · simp
  obtain ⟨W, hW⟩ : ∃ W, w.alloc (.cells #[.int .u64 off, .int .u64 sz] 39) = W := ⟨_, rfl⟩
  obtain ⟨b, hb⟩ : ∃ b, w.heap.size = b := ⟨_, rfl⟩
  rw [hW] at gB aA CU
  rw [hb] at aA ⊢
  have c0 : W.cell? ⟨b, 0, none⟩ = some (.int .u64 off) := by rw [cell_of aA]; rfl
  have c1 : W.cell? ⟨b, 1, none⟩ = some (.int .u64 sz) := by rw [cell_of aA]; rfl
  have gl := lt_of_block aA
  have G := Lib.hid gB
  have BW := Lib.hid (show b ≤ W.heap.size from Nat.le_of_lt gl)
  clear aA gB h hc h47
  generalize partN ys off sz = zs at *
  generalize ys.length = n at *
  go_enter Tryz.func33, Tryz.ntmps33
  go_upto_region 1 with fail
  clear hW hb
  go_wp2_with fail
  refine CU.out.mono ?_
  rintro e w1 ⟨V, cc, rfl, hib, hlc, hcc, hg⟩
  have CL := Lib.hid (clone_any hib hpl)
  have G1 := Lib.hid (grown_trans G.out hg)
  have B1 := Lib.hid (Nat.le_trans BW.out hg.size)
  clear hib hg c0 c1 gl CU
  go_wp2_with fail
  refine CL.out.mono ?_
  rintro e w2 ⟨⟨q', c', rfl, hown, _⟩, hbel⟩
  have O2 := Lib.hid (hown.mono B1.out)
  have G2 := Lib.hid (grown_trans G1.out (grown_below hbel none))
  clear hown hbel CL
  go_wp2
  go_ret
  exact ⟨q', c', rfl, O2.out, G2.out⟩
end Go.Proofs.YtdagnkdonlfobaaGreat

/- What it says that nothing is refused: the seats lie below, none on another, none on a page, and there are not too many. No condition. -/
namespace Go.Proofs.YtdagnkdonlfobaaGreat
variable {σ : Spc}

def pgs (x : Nat × Nat) : Nat := x.2 / 4096
def pgSum (xs : List (Nat × Nat)) : Nat := (xs.map pgs).sum
theorem tm_next {K : Nat} {x : Nat × Nat} (h1 : x.1 % 4096 = 0) (h2 : x.2 % 4096 = 0) : tmNext K x = K + pgs x := by
  unfold tmNext pgs pgEnd
  split
  · rename_i h; rw [h]; rfl
  · rename_i h; omega
theorem tm_all {xs : List (Nat × Nat)} {K : Nat} (hm : ∀ x ∈ xs, x.1 % 4096 = 0 ∧ x.2 % 4096 = 0) (hK : K ≤ 8192) : askRow (stepOf σ 2) K xs = if 8192 < K + pgSum xs then 11 else 0 := by
  induction xs generalizing K with
  | nil => unfold askRow; rw [if_neg (by simp [pgSum]; omega)]
  | cons y l ih =>
    obtain ⟨m1, m2⟩ := hm y (List.mem_cons_self ..)
    have hs : stepOf σ 2 K y = (if 8192 < K + pgs y then 11 else 0, K + pgs y) := by
      show tmStep K y = _
      unfold tmStep; rw [tm_next m1 m2]
    have hsum : pgSum (y :: l) = pgs y + pgSum l := by simp [pgSum]
    unfold askRow
    rw [hs, hsum]
    by_cases h : 8192 < K + pgs y
    · simp only [if_pos h]
      rw [if_pos (by decide), if_pos (by omega)]
    · simp only [if_neg h]
      rw [if_neg (by simp), ih (fun x hx => hm x (List.mem_cons_of_mem _ hx)) (by omega), Nat.add_assoc]
theorem be_iff {xs : List (Nat × Nat)} {z : Nat} : askRow (stepOf σ 0) z xs = if ∀ x ∈ xs, x.1 + x.2 ≤ 140737488355328 then 0 else 4 := by
  induction xs generalizing z with
  | nil => rw [if_pos (fun x hx => by cases hx)]; rfl
  | cons y l ih =>
    unfold askRow
    show (if beErr y ≠ 0 then beErr y else askRow (stepOf σ 0) z l) = _
    rw [ih]
    unfold beErr
    by_cases hy : y.1 + y.2 ≤ 140737488355328
    · rw [if_pos (lbelow_iff.2 (by omega)), if_neg (by simp)]
      by_cases hl : ∀ x ∈ l, x.1 + x.2 ≤ 140737488355328
      · rw [if_pos hl, if_pos (fun x hx => (List.mem_cons.1 hx).elim (fun e => e ▸ hy) (hl x))]
      · rw [if_neg hl, if_neg (fun h => hl (fun x hx => h x (List.mem_cons_of_mem _ hx)))]
    · have hf : ¬ lbelow y.1 y.2 = true := fun h => hy (by have := lbelow_iff.1 h; omega)
      simp only [if_neg hf]
      rw [if_pos (by decide), if_neg (fun h => hy (h y (List.mem_cons_self ..)))]

def Disj (x y : Nat × Nat) : Prop := x.1 + x.2 ≤ y.1 ∨ y.1 + y.2 ≤ x.1
theorem Disj.symm {x y : Nat × Nat} (h : Disj x y) : Disj y x := Or.symm h
structure Paged (x : Nat × Nat) : Prop where
  at' : x.1 % 4096 = 0
  size : x.2 % 4096 = 0
  pos : 0 < x.2
theorem pgEnd_eq {x : Nat × Nat} (h : Paged x) : pgEnd x = (x.1 + x.2) / 4096 := by
  have := h.at'; have := h.size; have := h.pos
  unfold pgEnd; omega
theorem tk_iff {xs : List (Nat × Nat)} {E : Nat} (hE : ∀ x ∈ xs, E ≤ x.1 / 4096) (hp : ∀ x ∈ xs, Paged x) (hs : xs.Pairwise (fun x y => x.1 ≤ y.1)) (hd : xs.Pairwise Disj) : askRow (stepOf σ 1) E xs = if ∀ x ∈ xs, freeOf σ x.1 x.2 = true then 0 else 21 := by
  induction xs generalizing E with
  | nil => rw [if_pos (fun x hx => by cases hx)]; rfl
  | cons y l ih =>
    have hy := hp y (List.mem_cons_self ..)
    rw [List.pairwise_cons] at hs hd
    unfold askRow
    show (if (tkStep σ E y).1 ≠ 0 then (tkStep σ E y).1 else askRow (stepOf σ 1) (tkStep σ E y).2 l) = _
    have hst : tkStep σ E y = if freeOf σ y.1 y.2 = false then (21, E) else (0, pgEnd y) := by
      unfold tkStep
      have h1 := hy.pos
      have h2 := hE y (List.mem_cons_self ..)
      rw [if_neg (show ¬ y.2 = 0 by omega), if_neg (show ¬ y.1 / 4096 < E by omega)]
    rw [hst]
    cases h2 : freeOf σ y.1 y.2
    · rw [if_pos rfl]
      simp only []
      rw [if_pos (by decide), if_neg (fun h => by have := h y (List.mem_cons_self ..); rw [h2] at this; cases this)]
    · rw [if_neg (show ¬ (true = false) by decide)]
      simp only []
      rw [if_neg (by decide), ih (fun x hx => ?_) (fun x hx => hp x (List.mem_cons_of_mem _ hx)) hs.2 hd.2]
      · by_cases hl : ∀ x ∈ l, freeOf σ x.1 x.2 = true
        · rw [if_pos hl, if_pos (fun x hx => (List.mem_cons.1 hx).elim (fun e => e ▸ h2) (hl x))]
        · rw [if_neg hl, if_neg (fun h => hl (fun x hx => h x (List.mem_cons_of_mem _ hx)))]
      · have hx' := hp x (List.mem_cons_of_mem _ hx)
        have h1 := hs.1 x hx
        have h3 := hd.1 x hx
        rw [pgEnd_eq hy]
        have := hx'.pos
        unfold Disj at h3
        exact Nat.div_le_div_right (by omega)
/-- Why seats are refused, in whatever order they are asked. -/
def fitErr (σ : Spc) (l : List (Nat × Nat)) : Int :=
  if ¬ ∀ x ∈ l, x.1 + x.2 ≤ 140737488355328 then 4 else if ¬ ∀ x ∈ l, freeOf σ x.1 x.2 = true then 21 else if 8192 < σ.K + pgSum l then 11 else 0
theorem fits_eq {xs l : List (Nat × Nat)} (hp : xs.Perm l) (hs : xs.Pairwise (fun x y => x.1 ≤ y.1)) (hl : ∀ x ∈ l, Paged x) (hd : (∀ x ∈ l, x.1 + x.2 ≤ 140737488355328) → l.Pairwise Disj) (hK : σ.K ≤ 8192) : fits3 σ xs = fitErr σ l := by
  unfold fits3 fitErr
  have hall : ∀ Q : Nat × Nat → Prop, (∀ x ∈ xs, Q x) ↔ ∀ x ∈ l, Q x := fun Q => ⟨fun h x hx => h x (hp.mem_iff.2 hx), fun h x hx => h x (hp.mem_iff.1 hx)⟩
  have hsum : pgSum xs = pgSum l := (hp.map pgs).sum_nat
  rw [be_iff]
  by_cases h1 : ∀ x ∈ xs, x.1 + x.2 ≤ 140737488355328
  · have h1' := (hall (fun x => x.1 + x.2 ≤ 140737488355328)).1 h1
    have hdx : xs.Pairwise Disj := (hp.pairwise_iff (fun h => Disj.symm h)).2 (hd h1')
    have hpx : ∀ x ∈ xs, Paged x := (hall Paged).2 hl
    rw [if_pos h1]
    refine (if_neg (by simp)).trans ?_
    refine Eq.trans ?_ (if_neg (fun h => h h1')).symm
    rw [tk_iff (fun x _ => Nat.zero_le _) hpx hs hdx]
    by_cases h2 : ∀ x ∈ xs, freeOf σ x.1 x.2 = true
    · have h2' := (hall (fun x => freeOf σ x.1 x.2 = true)).1 h2
      rw [if_pos h2]
      refine (if_neg (by simp)).trans ?_
      refine Eq.trans ?_ (if_neg (fun h => h h2')).symm
      rw [tm_all (fun x hx => ⟨(hpx x hx).at', (hpx x hx).size⟩) hK, hsum]
    · have h2' := fun h => h2 ((hall (fun x => freeOf σ x.1 x.2 = true)).2 h)
      rw [if_neg h2]
      refine (if_pos (by decide)).trans ?_
      exact (if_pos h2').symm
  · have h1' := fun h => h1 ((hall (fun x => x.1 + x.2 ≤ 140737488355328)).2 h)
    rw [if_neg h1]
    refine (if_pos (by decide)).trans ?_
    exact (if_pos h1').symm
end Go.Proofs.YtdagnkdonlfobaaGreat

/- Segments that may be laid one after the other are laid so: what each step is asked. No condition. -/
namespace Go.Proofs.YtdagnkdonlfobaaGreat
variable {σ : Spc}

/-- What is laid: where, how long, of which protection, and the bytes. -/
structure LayS where
  at' : Nat
  sz : Nat
  pr : Int
  bs : List Int
def LayS.seat (x : LayS) : Nat × Nat := (x.at', x.sz)
def layF (σ : Spc) (x : LayS) : Spc := (σ.lays (x.at' / 4096) (x.sz / 4096) x.pr).put x.at' x.bs
def layL (σ : Spc) (l : List LayS) : Spc := l.foldl layF σ
theorem layL_snoc (σ : Spc) (l : List LayS) (x : LayS) : layL σ (l ++ [x]) = layF (layL σ l) x := by unfold layL; rw [List.foldl_append]; rfl
theorem layF_K (x : LayS) : (layF σ x).K = σ.K + x.sz / 4096 := rfl
theorem layL_K (l : List LayS) : (layL σ l).K = σ.K + pgSum (l.map LayS.seat) := by
  induction l generalizing σ with
  | nil => rfl
  | cons x l ih =>
    show (layL (layF σ x) l).K = _
    rw [ih, layF_K]
    simp only [pgSum, List.map_cons, List.sum_cons]
    show σ.K + x.sz / 4096 + _ = σ.K + (x.sz / 4096 + _)
    omega
/-- A page's number lies in a seat. -/
def InS (x : Nat × Nat) (n : Nat) : Prop := x.1 / 4096 ≤ n ∧ n < x.1 / 4096 + x.2 / 4096
theorem layF_P {x : LayS} {n : Nat} (h : ¬ InS x.seat n) : (layF σ x).P n = σ.P n := if_neg h
theorem layL_P {l : List LayS} {n : Nat} (h : ∀ x ∈ l, ¬ InS x.seat n) : (layL σ l).P n = σ.P n := by
  induction l generalizing σ with
  | nil => rfl
  | cons x l ih =>
    show (layL (layF σ x) l).P n = _
    rw [ih (fun y hy => h y (List.mem_cons_of_mem _ hy)), layF_P (h x (List.mem_cons_self ..))]
theorem inS_apart {x y : Nat × Nat} (hx : Paged x) (hy : Paged y) (h : Disj x y) {n : Nat} (h1 : InS x n) : ¬ InS y n := by
  have := hx.at'; have := hx.size; have := hy.at'; have := hy.size
  unfold InS at *
  unfold Disj at h
  omega
theorem lackB_zero (x : Int) : lackB x 0 = false := by
  have key : (BitVec.ofInt 64 x &&& BitVec.ofInt 64 0).toNat = 0 := by
    rw [show BitVec.ofInt 64 0 = 0#64 from rfl, BitVec.and_zero]; rfl
  have e : bits BinOp.and IntKind.i64 x 0 = 0 := by
    show IntKind.i64.wrap ((BitVec.ofInt 64 x &&& BitVec.ofInt 64 0).toNat : Nat) = 0
    rw [key]; rfl
  unfold lackB
  rw [e]; rfl
theorem lack_zero (σ : Spc) (f k : Nat) : lackAny σ f k 0 = false := by
  unfold lackAny
  rw [List.any_eq_false]
  intro i _
  rw [lackB_zero]; decide
structure MayLay (x : LayS) : Prop where
  paged : Paged x.seat
  prot : 1 ≤ x.pr ∧ x.pr ≤ 7
  few : x.bs.length ≤ x.sz
theorem free_in {x : Nat × Nat} (hp : Paged x) (hb : x.1 + x.2 ≤ 140737488355328) : freeOf σ x.1 x.2 = true ↔ ∀ n, InS x n → σ.P n = 0 := by
  have h1 := hp.at'; have h2 := hp.size; have h3 := hp.pos
  rw [freeOf_is (by omega) (belowB_iff.2 hb), freeB_iff]
  constructor
  · intro h n hn
    unfold InS at hn
    exact h n hn.1 (by omega)
  · intro h n hn hn'
    exact h n ⟨hn, by omega⟩
theorem lay_step {l p r : List LayS} {x : LayS} (hl : l = p ++ x :: r) (hm : ∀ y ∈ l, MayLay y) (hd : (l.map LayS.seat).Pairwise Disj) (h0 : fitErr σ (l.map LayS.seat) = 0) :
    mapErr (layL σ p) x.at' x.sz x.pr = 0 ∧ mayErr ((layL σ p).lays (x.at' / 4096) (x.sz / 4096) x.pr) x.at' x.bs.length 0 = 0 ∧ x.at' + x.sz ≤ 140737488355328 := by
  have hx : x ∈ l := by rw [hl]; simp
  have hmx := hm x hx
  obtain ⟨q1, q2, q3⟩ := hmx.paged
  change x.at' % 4096 = 0 at q1
  change x.sz % 4096 = 0 at q2
  change 0 < x.sz at q3
  unfold fitErr at h0
  split at h0
  · cases h0
  rename_i hb
  split at h0
  · cases h0
  rename_i hf
  split at h0
  · cases h0
  rename_i hk
  have hb' : ∀ y ∈ l.map LayS.seat, y.1 + y.2 ≤ 140737488355328 := Classical.not_not.1 hb
  have hf' : ∀ y ∈ l.map LayS.seat, freeOf σ y.1 y.2 = true := Classical.not_not.1 hf
  have hbx : x.at' + x.sz ≤ 140737488355328 := hb' x.seat (List.mem_map_of_mem hx)
  have hfx := (free_in hmx.paged hbx).1 (hf' x.seat (List.mem_map_of_mem hx))
  have hdp : ∀ y ∈ p, Disj y.seat x.seat := by
    rw [hl, List.map_append, List.map_cons, List.pairwise_append] at hd
    intro y hy
    exact hd.2.2 _ (List.mem_map_of_mem hy) _ (List.mem_cons_self ..)
  have hmem : ∀ y ∈ p, y ∈ l := fun y hy => by rw [hl]; exact List.mem_append_left _ hy
  have hPn : ∀ n, InS x.seat n → (layL σ p).P n = 0 := fun n hn => by
    rw [layL_P (fun y hy hin => inS_apart (hm y (hmem y hy)).paged hmx.paged (hdp y hy) hin hn)]
    exact hfx n hn
  have hsum : pgSum (l.map LayS.seat) = pgSum (p.map LayS.seat) + (x.sz / 4096 + pgSum (r.map LayS.seat)) := by
    rw [hl]; simp only [pgSum, List.map_append, List.map_cons, List.sum_append, List.sum_cons]; rfl
  refine ⟨mapErr_ok ?_ (belowB_iff.2 hbx) ((free_in hmx.paged hbx).2 hPn) ?_, ?_, hbx⟩
  · have := hmx.prot
    unfold mapArg; omega
  · rw [layL_K]; omega
  · rcases Nat.eq_zero_or_pos x.bs.length with e | e
    · rw [e]; rfl
    · have hfew := hmx.few
      have hth : thereB ((layL σ p).lays (x.at' / 4096) (x.sz / 4096) x.pr) (x.at' / 4096) (spanK x.at' x.bs.length) = true := by
        rw [thereB_iff]
        intro n h1 h2
        unfold spanK at h2
        rw [lays_in ⟨h1, by omega⟩]
        have := hmx.prot; omega
      rw [mayErr_is (by omega) (belowB_iff.2 (by omega)) hth]
      have hla : lackAny ((layL σ p).lays (x.at' / 4096) (x.sz / 4096) x.pr) (x.at' / 4096) (spanK x.at' x.bs.length) 0 = false := lack_zero _ _ _
      rw [hla]; rfl
end Go.Proofs.YtdagnkdonlfobaaGreat
