/- A symbol taken in, whose name stands at a place of the strings: (*nlist.telling).add. Conditions: the telling is in memory; its names are bytes. -/
import Derived.Test.YtlmgkofbjcahaaaNlT
import Derived.Deep.RegionHeld3
import Derived.Deep.RegionLaw
import Derived.RegionTactic
import Derived.StillTailTactics
import Derived.BigQuiet
import Derived.Deep.Cut
import Derived.Deep.CutRange
import Derived.Deep.QuietTactic
namespace Go.Proofs.Ytlmgkofbjcahaaa
open Go.RowKit Go.Maps
variable {w w' : World} {B g a lo hi m : Nat} {v : Value} {ys : List Int} {n : Int} {p : Nat} {D : Syms}

theorem TelAt.kept {r : Nat} (h : TelAt w B g a lo hi m v ys n p D) (k : w.grownBy w' (some r)) (h1 : r ≠ g) (h2 : r ≠ m) (h3 : r < lo ∨ hi ≤ r) (h4 : v.ownBlock ≠ some r) : TelAt w' B g a lo hi m v ys n p D :=
  ⟨(k.block g (lt_of_block h.blk) (fun e => by injection e with e; exact h1 e.symm)).trans h.blk, h.pen.kept k h3, h.row.kept k (.inr h4), h.met.kept k (fun e => by injection e with e; exact h2 e), h.lo, h.hg, h.hm⟩
/-- A block that is new lies apart from all of it. -/
structure Apart4 (r g m lo hi : Nat) (v : Value) : Prop where
  g : r ≠ g
  m : r ≠ m
  c : r < lo ∨ hi ≤ r
  v : v.ownBlock ≠ some r
theorem TelAt.new (h : TelAt w B g a lo hi m v ys n p D) {r : Nat} (hr : w.heap.size ≤ r) : Apart4 r g m lo hi v := by
  have h1 := h.lt
  have h2 := h.pen.sz
  obtain ⟨es, clock, hb, _⟩ := h.met
  have h3 := (Array.getElem?_eq_some_iff.1 hb).1
  refine ⟨by omega, by omega, .inr (by omega), fun e => ?_⟩
  have := (h.row.lt r e).2
  omega
theorem TelAt.keptA {r : Nat} (h : TelAt w B g a lo hi m v ys n p D) (k : w.grownBy w' (some r)) (o : Apart4 r g m lo hi v) : TelAt w' B g a lo hi m v ys n p D := h.kept k o.g o.m o.c o.v

/-- The error of a name at a place. -/
def nmErr (ys : List Int) (p : Int) : Int :=
  if (ys.length : Int) ≤ p then 13
  else if pre (ys.drop p.toNat) = [] ∨ (ys.drop p.toNat).length ≤ (pre (ys.drop p.toNat)).length then 13
  else if 255 < (pre (ys.drop p.toNat)).length then 10 else 0
def addE (ys : List Int) (D : Syms) (p : Int) : Int :=
  if nmErr ys p ≠ 0 then nmErr ys p else if nlHas D (pre (ys.drop p.toNat)) = true then 21 else if D.length = 4096 then 11 else 0
theorem nlAdd_is (ys : List Int) (n : Int) (D : Syms) (e : List Int) : nlAdd ys n D e = if nlKind e = 15 ∧ (nlSec e = 0 ∨ n < nlSec e) then 13 else addE ys D (nlPlace e) := by
  unfold nlAdd nlErr addE nmErr nlNm
  split
  · simp
  · rfl
/-- Where no text ends: nothing is told. -/
theorem seek_none (h : Pen w lo hi a ys p false false) (q : Nat) (hq : ¬ (q ≤ ys.length ∧ (pre (ys.drop q)).length < (ys.drop q).length)) :
    Calls Try.prog 40 #[.pointer (some ⟨a, 0, none⟩), .int .i64 q] w fun e w' =>
      e = .returned (.tuple #[]) ∧ (∃ (p' : Nat) (bad : Bool) (m : Int), Pen w' lo hi a ys p' false bad ∧ m = (ys.length : Int) - p' ∧ (bad = true ∨ textLen (ys.drop p') m = -1)) ∧ w.grownBy w' (some a) := by
  by_cases h1 : q ≤ ys.length
  · refine (pen_seek h q h1).mono ?_
    rintro e w' ⟨rfl, hp, hg⟩
    refine ⟨rfl, ⟨q, false, _, hp, rfl, .inr ?_⟩, hg⟩
    unfold textLen
    rw [if_neg (fun h2 => hq ⟨h1, h2.1⟩)]
  · refine (pen_seek_no h q (by omega)).mono ?_
    rintro e w' ⟨rfl, hp, hg⟩
    exact ⟨rfl, ⟨p, true, _, hp, rfl, .inl rfl⟩, hg⟩

set_option maxRecDepth 20000 in
set_option maxHeartbeats 1600000 in
/-- No name stands at the place. -/
theorem add_none (h : TelAt w B g a lo hi m v ys n p D) (hD : ∀ y ∈ D, Byt y.1) (q : Nat) (hq : ¬ (q ≤ ys.length ∧ (pre (ys.drop q)).length < (ys.drop q).length)) (h32 : (q : Int) < 4294967296) (nm : ByteArray) (x : Sy) :
    Calls Try.prog 34 #[.pointer (some ⟨g, 0, none⟩), syV nm x, .int .u64 q] w fun e w' => e = .returned (.int .i64 13) ∧ Below B w w' := by
  have hBw : B ≤ w.heap.size := Nat.le_trans h.lo (Nat.le_trans (Nat.le_of_lt (Nat.lt_of_le_of_lt h.pen.lw h.pen.up)) h.pen.sz)
  have BA := Lib.hid (show B ≤ a from Nat.le_trans h.lo h.pen.lw)
  have g0 := grown1 w (.cells #[.string nm, .int .i64 x.sec, .int .u64 x.value, .bool x.weak] 32)
  have t0 := h.grown g0
  have s0 := SyAt.new w nm x
  have OFF := h.new (Nat.le_refl w.heap.size)
  obtain ⟨X, hX⟩ : ∃ X, X = w.heap.size := ⟨_, rfl⟩
  rw [← hX] at s0 OFF
  obtain ⟨W, hW⟩ : ∃ W, W = w.alloc (.cells #[.string nm, .int .i64 x.sec, .int .u64 x.value, .bool x.weak] 32) := ⟨_, rfl⟩
  rw [← hW] at g0 t0 s0
  have B0 := Lib.hid (below_grown g0 hBw (by simp) : Below B w W)
  have hBW : B ≤ W.heap.size := Nat.le_trans hBw g0.size
  have SK := Lib.hid (seek_none t0.pen q hq)
  have T0 := Lib.hid t0
  have c0 := t0.c.1
  have S0 := Lib.hid s0
  have HW := Lib.hid hW
  have HX := Lib.hid hX
  have gl := t0.lt
  have HD := Lib.hid hD
  have hXa : X ≠ a := fun e => by have := h.pen.lt; omega
  have hga : g ≠ a := fun e => by have := h.hg; have := h.pen.up; omega
  have hma : m ≠ a := fun e => by have := h.hm; have := h.pen.up; omega
  have hva : v.ownBlock ≠ some a := fun e => by have := (h.off a e).2.2; have := h.pen.up; omega
  clear h g0 t0 s0 hq hD
  unfold syV syArr
  go_enter Try.func34, Try.ntmps34
  go_upto_region 1 with fail
  rw [← HW.out, ← HX.out]
  clear HW HX hW
  go_wp2_with fail
  refine SK.out.mono ?_
  rintro e w1 ⟨rfl, ⟨p1, bad, M, hp, hM, hb⟩, hg⟩
  have PP := Lib.hid hp
  have k0 := hg.cell c0 (fun e => by injection e with e; exact hga e)
  have K1 := Lib.hid (hg.cell T0.out.c.2.2.2 (fun e => by injection e with e; exact hga e))
  have S1 := Lib.hid (S0.out.kept hg (fun e => by injection e with e; exact hXa e.symm))
  have M1 := Lib.hid (T0.out.met.kept hg (fun e => by injection e with e; exact hma e.symm))
  have B1 := Lib.hid (B0.out.trans (below_grown hg hBW (by simp; exact BA.out)) : Below B w w1)
  have hB1 : B ≤ w1.heap.size := Nat.le_trans hBW hg.size
  have hp' : Pen w1.drew lo hi a ys p1 false bad := hp.same (show w1.grownBy w1.drew none from grown_drewN (grown_refl w1 none) 1)
  have KK := Lib.hid (fun k w3 (hg3 : (w1.drewN k).grownBy w3 (some a)) => hg3.cell (show (w1.drewN k).cell? _ = _ from k0) (fun e => by injection e with e; exact hga e))
  have SS := Lib.hid (fun k w3 (hg3 : (w1.drewN k).grownBy w3 (some a)) => (S1.out.kept (grown_drewN (grown_refl w1 none) k) (by simp)).kept hg3 (fun e => by injection e with e; exact hXa e.symm))
  have KT := Lib.hid (fun k w3 (hg3 : (w1.drewN k).grownBy w3 (some a)) => (grown_setCell (i := 0) (grown_refl w3 (some X)) (.string ByteArray.empty)).cell (hg3.cell (show (w1.drewN k).cell? _ = _ from K1.out) (fun e => by injection e with e; exact hga e)) (fun e => by injection e with e; exact OFF.g e.symm))
  have XB := Lib.hid (show B ≤ X by rw [hX]; exact hBw)
  clear hX
  have LF := Lib.hid (pen_left hp')
  have TN := Lib.hid (fun j => pen_text_no (hp.same (grown_drewN (grown_refl w1 none) j)) M hb)
  rw [← hM] at LF
  clear hM hb hp hp'
  have hBd : B ≤ w1.drew.heap.size := hB1
  go_wp2
  go_region_held3 (fun V => V.cell? ⟨g, 0, none⟩ = some (.pointer (some ⟨a, 0, none⟩)))
    (first | exact k0 | exact k3 | exact k4)
    (first
      | (go_at_call 42; (with_reducible refine (LF.out).mono ?_); rintro e w2 ⟨rfl, j, rfl⟩)
      | (go_at_call 41; (with_reducible refine (TN.out _).mono ?_); rintro e w3 ⟨rfl, hp3, hg3⟩; have k3 := KK.out _ _ hg3; have S3 := SS.out _ _ hg3; have x3 := S3.c.1; have f3 := S3.fz 0; have l3 := S3.lt; have k4 := (grown_setCell (i := 0) (grown_refl w3 (some X)) (.string ByteArray.empty)).cell k3 (fun e => by injection e with e; exact OFF.g e.symm)))
  have g4 := grown_trans (grown_drewN (grown_refl w1 (some a)) (1 + j)) hg3
  have S4 := S3.s0 ByteArray.empty
  have MM := ((M1.out.kept (grown_drewN (grown_refl w1 none) (1 + j)) (by simp)).kept hg3 (fun e => by injection e with e; exact hma e.symm)).kept (grown_setCell (i := 0) (grown_refl w3 (some X)) (.string ByteArray.empty)) (fun e => by injection e with e; exact OFF.m e)
  have B4 := Lib.hid (B1.out.trans (below_grown (grown_trans (grown_drewN (grown_refl w1 (some a)) (1 + j)) hg3) hB1 (by simp; exact BA.out)) |>.trans (below_grown (grown_setCell (i := 0) (grown_refl w3 (some X)) (.string ByteArray.empty)) (Nat.le_trans hB1 hg3.size) (by simp; exact XB.out)) : Below B w _)
  have c3 := (KT.out _ _ hg3)
  have d0 := S4.c.1
  obtain ⟨W4, hW4⟩ : ∃ W4, W4 = w3.setCell ⟨X, 0, none⟩ (.string ByteArray.empty) := ⟨_, rfl⟩
  rw [← hW4] at B4 c3 d0 MM k4 ⊢
  have MW := Lib.hid MM
  have LX := Lib.hid (show X < W4.heap.size by rw [hW4]; exact S4.lt)
  have hl4 : B ≤ W4.heap.size := by have := B4.out.size; omega
  clear hW4 MM S4 S3 x3 f3 l3 g4 hp3 hg3 k3 k0
  have gA := grown1 W4 (.cells #[] 72)
  have c3a := grown_cell gA c3
  have d0a := grown_cell gA d0
  have LKd := (show MetN W4.drew m D.length D from MW.out.drewN 1).look HD.out (t := []) (fun _ h => by cases h) (by decide)
  have LKa := (show MetN (W4.alloc (.cells #[] 72)).drew m D.length D from (MW.out.kept gA (by simp)).drewN 1).look HD.out (t := []) (fun _ h => by cases h) (by decide)
  obtain ⟨b0, hb0⟩ : ∃ b, b = nlHas D [] := ⟨_, rfl⟩
  rw [← hb0, show strOfNums [] = ByteArray.empty from rfl] at LKd LKa
  have GA := Lib.hid gA
  clear hb0 gA
  have x4 := LX.out
  have BF := Lib.hid (B4.out.trans (below_drewN (below_grown GA.out hl4 (by simp)) 1))
  go_wp2
  go_region
  all_goals
    go_wp2
    go_ret
    exact ⟨rfl, BF.out⟩

theorem sy_off {base : Nat} {u : Value} {k : Nat} {l : List Value} {cs : Array Value} (h : w.ownsRow base 32 4 u k l) (hg : w.heap[g]? = some (.cells cs 51 (0, 0))) : u.ownBlock ≠ some g := by
  intro e
  rcases h.2 with ⟨rfl, _⟩ | ⟨b', cap, cur, rfl, _, hb, _⟩
  · cases e
  · simp only [Value.ownBlock, Option.some.injEq] at e
    subst e
    rw [hg] at hb
    injection hb with hb
    injection hb with _ e2 _
    revert e2
    decide +kernel
theorem sy_offm {base : Nat} {u : Value} {k j : Nat} {l : List Value} {E : Syms} (h : w.ownsRow base 32 4 u k l) (hm : MetN w m j E) : u.ownBlock ≠ some m := by
  intro e
  rcases h.2 with ⟨rfl, _⟩ | ⟨b', cap, cur, rfl, _, hb, _⟩
  · cases e
  · simp only [Value.ownBlock, Option.some.injEq] at e
    subst e
    obtain ⟨es, clock, hm, _⟩ := hm
    rw [hm] at hb
    injection hb with hb
    cases hb
theorem grown_own_any {w1 : World} {u : Value} (k : w.grownBy w1 u.ownBlock) {c : Nat} (hc : u.ownBlock ≠ some c) (hlt : c < w.heap.size) : w1.heap[c]? = w.heap[c]? := k.block c hlt (fun e => hc e.symm)
/-- One more symbol. -/
theorem TelAt.next (h : TelAt w B g a lo hi m v ys n p D) {w6 wa w7 : World} {v' : Value} (x : Sym) (k6 : w.grownBy w6 (some m)) (n6 : MetN w6 m (D.length + 1) (D ++ [x])) (ka : w6.grownBy wa none)
    (ho : w7.ownsRow hi 32 4 v' (D.length + 1) (D.flatMap syCs ++ syCs x)) (k7 : wa.grownBy w7 v.ownBlock) : TelAt (w7.setCell ⟨g, 2, none⟩ v') B g a lo hi m v' ys n p (D ++ [x]) := by
  have hmg := h.ne
  have hug := h.pen.up
  have hgh := h.hg
  have hmh := h.hm
  have hoff := h.off
  have b6 := (k6.block g (lt_of_block h.blk) (fun e => by injection e with e; exact hmg e.symm)).trans h.blk
  have ba := (ka.block g (lt_of_block b6) (by simp)).trans b6
  have hvg : v.ownBlock ≠ some g := fun e => (hoff g e).1 rfl
  have hvm : v.ownBlock ≠ some m := fun e => (hoff m e).2.1 rfl
  have b7 := (k7.block g (lt_of_block ba) (fun e => hvg e.symm)).trans ba
  have hvg' := sy_off ho b7
  have p6 := h.pen.kept k6 (.inr hmh)
  have pa := p6.same ka
  have p7 : Pen w7 lo hi a ys p false false := pa.row k7 (fun b hb => (hoff b hb).2.2)
  have m7 : MetN w7 m (D.length + 1) (D ++ [x]) := (n6.kept ka (by simp)).kept k7 hvm
  have gs := grown_setCell (i := 2) (grown_refl w7 (some g)) v'
  refine ⟨?_, p7.kept gs (.inr hgh), ?_, ?_, h.lo, hgh, hmh⟩
  · rw [heap_setCell_same w7 g 2 _ _ _ b7]; rfl
  · rw [List.length_append, List.length_singleton, List.flatMap_append, List.flatMap_singleton]
    exact ho.kept gs (.inr hvg')
  · rw [List.length_append, List.length_singleton]
    exact m7.kept gs (fun e => by injection e with e; exact hmg e.symm)
end Go.Proofs.Ytlmgkofbjcahaaa
