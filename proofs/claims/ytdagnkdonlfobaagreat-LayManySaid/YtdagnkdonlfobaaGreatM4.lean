import Derived.Test.YtdagnkdonlfobaaGreatM3
import Derived.Test.YtdagnkdonlfobaaGreatM2
import Derived.Lib.AppendZerosOnto
/- What a header says: the program's own call. No condition but that there are at most 2^47 bytes. -/
namespace Go.Proofs.YtdagnkdonlfobaaGreat
open Go.RowKit
variable {w w' : World}

/-- A header's number, the k-th one: nothing where there are too few bytes. -/
def wordN (xs : List Int) (k : Nat) : Int := if xs.length < 4 * (k + 1) then 0 else leN ((xs.drop (4 * k)).take 4)
theorem wordN_bd {xs : List Int} (h : Small xs) (k : Nat) : 0 ≤ wordN xs k ∧ wordN xs k < 4294967296 := by
  unfold wordN
  split
  · omega
  · exact leN4_bd h _
theorem wordN_take {ys : List Int} (h : 32 ≤ ys.length) (k : Nat) (hk : k < 8) : wordN (ys.take 32) k = leN ((ys.drop (4 * k)).take 4) := by
  unfold wordN
  rw [if_neg (by rw [List.length_take]; omega), List.drop_take, List.take_take, Nat.min_eq_left (by omega)]
structure Fr where
  sub : Int
  kind : Int
  flags : Int
  count : Int
  size : Int
def Fr.zero : Fr := ⟨0, 0, 0, 0, 0⟩
def Fr.v (f : Fr) : Value := .agg #[.int .i64 f.sub, .int .i64 f.kind, .int .u32 f.flags, .int .u64 f.count, .int .u64 f.size]
def FrAt (w : World) (g : Nat) (f : Fr) : Prop := w.heap[g]? = some (.cells #[.int .i64 f.sub, .int .i64 f.kind, .int .u32 f.flags, .int .u64 f.count, .int .u64 f.size] 161 (0, 0))
section
variable {g : Nat} {f : Fr}
theorem FrAt.c0 (h : FrAt w g f) : w.cell? ⟨g, 0, none⟩ = some (.int .i64 f.sub) := by rw [cell_of h]; rfl
theorem FrAt.c1 (h : FrAt w g f) : w.cell? ⟨g, 1, none⟩ = some (.int .i64 f.kind) := by rw [cell_of h]; rfl
theorem FrAt.c2 (h : FrAt w g f) : w.cell? ⟨g, 2, none⟩ = some (.int .u32 f.flags) := by rw [cell_of h]; rfl
theorem FrAt.c3 (h : FrAt w g f) : w.cell? ⟨g, 3, none⟩ = some (.int .u64 f.count) := by rw [cell_of h]; rfl
theorem FrAt.c4 (h : FrAt w g f) : w.cell? ⟨g, 4, none⟩ = some (.int .u64 f.size) := by rw [cell_of h]; rfl
theorem FrAt.fz (h : FrAt w g f) (i : Nat) : w.frozen? ⟨g, i, none⟩ = false := free_of h
theorem FrAt.new (w : World) (f : Fr) : FrAt (w.alloc (.cells #[.int .i64 f.sub, .int .i64 f.kind, .int .u32 f.flags, .int .u64 f.count, .int .u64 f.size] 161)) w.heap.size f := heap_alloc_new w _
theorem FrAt.kept {row : Option Nat} (h : FrAt w g f) (hg : w.grownBy w' row) (hr : row ≠ some g) : FrAt w' g f := (hg.block g (lt_of_block h) (fun e => hr e.symm)).trans h
theorem FrAt.grown (h : FrAt w g f) (hg : w.grownBy w' none) : FrAt w' g f := h.kept hg (by simp)
theorem FrAt.lt (h : FrAt w g f) : g < w.heap.size := lt_of_block h
theorem FrAt.set0 (h : FrAt w g f) (n : Int) : FrAt (w.setCell ⟨g, 0, none⟩ (.int .i64 n)) g { f with sub := n } := by unfold FrAt; rw [heap_setCell_same w g 0 _ _ _ h]; rfl
theorem FrAt.set1 (h : FrAt w g f) (n : Int) : FrAt (w.setCell ⟨g, 1, none⟩ (.int .i64 n)) g { f with kind := n } := by unfold FrAt; rw [heap_setCell_same w g 1 _ _ _ h]; rfl
theorem FrAt.set2 (h : FrAt w g f) (n : Int) : FrAt (w.setCell ⟨g, 2, none⟩ (.int .u32 n)) g { f with flags := n } := by unfold FrAt; rw [heap_setCell_same w g 2 _ _ _ h]; rfl
theorem FrAt.set3 (h : FrAt w g f) (n : Int) : FrAt (w.setCell ⟨g, 3, none⟩ (.int .u64 n)) g { f with count := n } := by unfold FrAt; rw [heap_setCell_same w g 3 _ _ _ h]; rfl
theorem FrAt.set4 (h : FrAt w g f) (n : Int) : FrAt (w.setCell ⟨g, 4, none⟩ (.int .u64 n)) g { f with size := n } := by unfold FrAt; rw [heap_setCell_same w g 4 _ _ _ h]; rfl
theorem FrAt.put (h : FrAt w g f) (t : Fr) : FrAt (((((w.setCell ⟨g, 0, none⟩ (.int .i64 t.sub)).setCell ⟨g, 1, none⟩ (.int .i64 t.kind)).setCell ⟨g, 2, none⟩ (.int .u32 t.flags)).setCell ⟨g, 3, none⟩ (.int .u64 t.count)).setCell ⟨g, 4, none⟩ (.int .u64 t.size)) g t :=
  ((((h.set0 t.sub).set1 t.kind).set2 t.flags).set3 t.count).set4 t.size
theorem grown_put5 (h : w.grownBy w' (some g)) (v0 v1 v2 v3 v4 : Value) : w.grownBy (((((w'.setCell ⟨g, 0, none⟩ v0).setCell ⟨g, 1, none⟩ v1).setCell ⟨g, 2, none⟩ v2).setCell ⟨g, 3, none⟩ v3).setCell ⟨g, 4, none⟩ v4) (some g) :=
  grown_setCell (grown_setCell (grown_setCell (grown_setCell (grown_setCell h _) _) _) _) _
theorem load_fr (h : FrAt w g f) : (loadVar 161 ⟨g, 0, none⟩).run Tryz.prog w = .ok f.v w :=
  run_loadVar_row w g _ _ _ _ _ h Tryz.underlying161 rfl (by kernel_rfl)
theorem results_fr {fn : Func} {p u : Tmp} (hr : fn.results = #[.cell p 161, .tmp u]) {tmps : Array Value} {v : Value} (hp : tmps.getD p undef = .pointer (some ⟨g, 0, none⟩)) (hu : tmps.getD u undef = v) (h : FrAt w g f) :
    (results fn tmps).run Tryz.prog w = .ok (.tuple #[f.v, v]) w := by
  rw [results_cell_tmp hr, hp, hu, show (asAddr (.pointer (some ⟨g, 0, none⟩)) : Sem Addr).run Tryz.prog w = .ok ⟨g, 0, none⟩ w from rfl, Result.andThen_ok, load_fr h, Result.andThen_ok]
end

theorem and24u (n : Int) (h : 0 ≤ n ∧ n < 4294967296) : bits .and .u64 n 16777215 = n % 16777216 := by
  have hm : (BitVec.ofInt 64 16777215).toNat = 2 ^ 24 - 1 := by decide
  have key : (BitVec.ofInt 64 n &&& BitVec.ofInt 64 16777215).toNat = (n % ((2 ^ 64 : Nat) : Int)).toNat % 2 ^ 24 := by
    rw [BitVec.toNat_and, BitVec.toNat_ofInt, hm, Nat.and_two_pow_sub_one_eq_mod]
  show IntKind.u64.wrap ((BitVec.ofInt 64 n &&& BitVec.ofInt 64 16777215).toNat : Nat) = n % 16777216
  rw [key, IntKind.wrap_u64]
  omega

section
variable {lo hi a : Nat} {xs : List Int} {p : Nat}
theorem pen_word {bad : Bool} (h : Pen w lo hi a xs p false bad) (k : Nat) (hb : bad = decide (xs.length < 4 * k)) (hp : ¬ xs.length < 4 * k → p = 4 * k) :
    Calls Tryz.prog 155 #[.pointer (some ⟨a, 0, none⟩), .int .i64 4] w fun e w' =>
      ∃ p', e = .returned (.int .u64 (wordN xs k)) ∧ Pen w' lo hi a xs p' false (decide (xs.length < 4 * (k + 1))) ∧ w.grownBy w' (some a) ∧ (¬ xs.length < 4 * (k + 1) → p' = 4 * (k + 1)) := by
  subst hb
  by_cases hk : xs.length < 4 * k
  · rw [decide_eq_true hk] at h
    refine (pen_num_no h 4 (.inl rfl)).mono ?_
    rintro e w' ⟨rfl, hp', hg⟩
    have e0 : wordN xs k = 0 := by unfold wordN; rw [if_pos (by omega)]
    rw [e0, decide_eq_true (show xs.length < 4 * (k + 1) by omega)]
    exact ⟨_, rfl, hp', hg, fun h => by omega⟩
  · have hpk := hp hk
    subst hpk
    rw [decide_eq_false hk] at h
    by_cases hk1 : xs.length < 4 * (k + 1)
    · refine (pen_num_no h 4 (.inr (.inr (by omega)))).mono ?_
      rintro e w' ⟨rfl, hp', hg⟩
      have e0 : wordN xs k = 0 := by unfold wordN; rw [if_pos hk1]
      rw [e0, decide_eq_true hk1]
      exact ⟨_, rfl, hp', hg, fun h => absurd hk1 h⟩
    · refine (pen_num h 4 (.inr (.inr (.inl rfl))) (by omega)).mono ?_
      rintro e w' ⟨rfl, hp', hg⟩
      have e0 : wordN xs k = numOf false ((xs.drop (4 * k)).take 4) := by unfold wordN; rw [if_neg hk1]; rfl
      rw [e0, decide_eq_false hk1]
      exact ⟨_, rfl, hp', hg, fun _ => by omega⟩

/-- What frontOf has by now. -/
structure FRel (w wr : World) (lo hi a : Nat) (xs : List Int) (p : Nat) (bad : Bool) (r g : Nat) (f : Fr) : Prop where
  res : FrAt wr r Fr.zero
  loc : FrAt wr g f
  pen : Pen wr lo hi a xs p false bad
  grown : w.grownBy wr none
  rlo : r < lo
  rw : w.heap.size ≤ r
  ghi : hi ≤ g
theorem FRel.step {wr w2 : World} {p2 : Nat} {bad bad2 : Bool} {r g : Nat} {f : Fr} (h : FRel w wr lo hi a xs p bad r g f) (hp : Pen w2 lo hi a xs p2 false bad2) (hg : wr.grownBy w2 (some a)) : FRel w w2 lo hi a xs p2 bad2 r g f := by
  have h1 := h.pen.lw
  have h2 := h.pen.up
  have h3 := h.rlo
  have h4 := h.rw
  have h5 := h.ghi
  exact ⟨h.res.kept hg (fun e => by injection e with e; omega), h.loc.kept hg (fun e => by injection e with e; omega), hp, grown_new h.grown hg (by omega), h3, h4, h5⟩
theorem FRel.set {wr : World} {bad : Bool} {r g : Nat} {f f' : Fr} (h : FRel w wr lo hi a xs p bad r g f) (i : Nat) (v : Value) (hf : FrAt (wr.setCell ⟨g, i, none⟩ v) g f') : FRel w (wr.setCell ⟨g, i, none⟩ v) lo hi a xs p bad r g f' := by
  have h3 := h.rlo
  have h4 := h.rw
  have h5 := h.ghi
  have h6 := h.pen.lw
  have h7 := h.pen.up
  have hg := grown_setCell (i := i) (grown_refl wr (some g)) v
  exact ⟨h.res.kept hg (fun e => by injection e with e; omega), hf, h.pen.kept hg (.inr h5), grown_new h.grown hg (by omega), h3, h4, h5⟩
end

/-- What a header says, and why it says nothing. -/
def frOf (xs : List Int) : Fr := ⟨wordN xs 2 % 16777216, wordN xs 3, wordN xs 6, wordN xs 4, wordN xs 5⟩
def frErr (xs : List Int) (n : Nat) : Int :=
  if xs.length < 32 then 3 else
  if wordN xs 0 ≠ 4277009103 then 5 else
  if wordN xs 1 ≠ 16777228 ∨ ¬ (wordN xs 2 % 16777216 = 0 ∨ wordN xs 2 % 16777216 = 2) then 6 else
  if ¬ (wordN xs 3 = 2 ∨ wordN xs 3 = 6) then 7 else
  if 256 < wordN xs 4 then 11 else
  if ¬ 32 + wordN xs 5 ≤ n then 3 else 0
structure FrOut (w w' : World) (f : Fr) (er : Int) (e : Ending) : Prop where
  no : er ≠ 0 → e = .returned (.tuple #[Fr.zero.v, .int .i64 er])
  yes : er = 0 → e = .returned (.tuple #[f.v, .int .i64 0])
  grown : w.grownBy w' none

set_option maxHeartbeats 3200000 in
set_option maxRecDepth 20000 in
theorem frontOf_any (ys : List Int) (q : Option Addr) (c n : Nat) (h : IsBytes w q c ys) (hn : ys.length = n) (hc : n ≤ c) (_hcm : c ≤ 9223372036854775807) (hn47 : n ≤ 140737488355328) (hr : Small ys) :
    Calls Tryz.prog 124 #[.slice q n c] w fun e w' => FrOut w w' (frOf (ys.take 32)) (frErr (ys.take 32) n) e := by
  have hq : q = none → c = 0 := fun e => by
    rcases h.ways with ⟨_, _, h⟩ | ⟨x, h, _⟩
    · exact h
    · rw [h] at e; cases e
  have Z0 : FrAt (w.alloc (.cells #[.int .i64 0, .int .i64 0, .int .u32 0, .int .u64 0, .int .u64 0] 161)) w.heap.size Fr.zero := FrAt.new w Fr.zero
  have g0 := grown1 w (.cells #[.int .i64 0, .int .i64 0, .int .u32 0, .int .u64 0, .int .u64 0] 161)
  obtain ⟨xs, hxs⟩ : ∃ xs, xs = ys.take 32 := ⟨_, rfl⟩
  have hxl : xs.length = min n 32 := by rw [hxs, List.length_take, hn]; omega
  have hsm : Small xs := by rw [hxs]; exact fun x hx => hr x (List.mem_of_mem_take hx)
  have N := Lib.hid (fun (k : Nat) (hk : xs.length = k) (w1 : World) (hg : w.grownBy w1 none) => pen_new (w := w1) (n := k) (ys := xs) (q := q) (c := c) (by
    have := (h.kept hg (by simp)).take (c' := c) 32 hq
    rw [← hxs] at this; exact this) hk (by omega) hsm false)
  rw [← hxs]
  have b0 := wordN_bd hsm 0
  have b1 := wordN_bd hsm 1
  have b2 := wordN_bd hsm 2
  have b3 := wordN_bd hsm 3
  have b4 := wordN_bd hsm 4
  have b5 := wordN_bd hsm 5
  have b6 := wordN_bd hsm 6
  have a2 := and24u _ b2
  have E0 := Lib.hid (show frErr xs n = (if xs.length < 32 then 3 else if wordN xs 0 ≠ 4277009103 then 5 else if wordN xs 1 ≠ 16777228 ∨ ¬ (wordN xs 2 % 16777216 = 0 ∨ wordN xs 2 % 16777216 = 2) then 6 else if ¬ (wordN xs 3 = 2 ∨ wordN xs 3 = 6) then 7 else if 256 < wordN xs 4 then 11 else if ¬ 32 + wordN xs 5 ≤ n then 3 else 0) from rfl)
  have F0 : Hid (frOf xs = ⟨wordN xs 2 % 16777216, wordN xs 3, wordN xs 6, wordN xs 4, wordN xs 5⟩) := Lib.hid rfl
  obtain ⟨er, her⟩ : ∃ er, er = frErr xs n := ⟨_, rfl⟩
  rw [← her] at E0 ⊢
  have ZZ := Lib.hid Z0
  have G0 := Lib.hid g0
  have XL := Lib.hid hxl
  have hmin : (min (n : Int) 32) = (xs.length : Int) := by omega
  clear Z0 g0 hxs her h hn hr
  go_enter Tryz.func124, Tryz.ntmps124
  go_wp2_with fail
  refine (N.out (min n 32) hxl _ G0.out).mono ?_
  rintro e w1 ⟨a, rfl, hp, hbel⟩
  obtain ⟨lo, hlo⟩ : ∃ lo, lo = (w.alloc (.cells #[.int .i64 0, .int .i64 0, .int .u32 0, .int .u64 0, .int .u64 0] 161)).heap.size := ⟨_, rfl⟩
  have hlo2 : w.heap.size < lo := by rw [hlo]; simp
  rw [← hlo] at hp
  obtain ⟨hi, hhi⟩ : ∃ hi, hi = w1.heap.size := ⟨_, rfl⟩
  rw [← hhi] at hp
  have R1 := Lib.hid (ZZ.out.grown (grown_below hbel none))
  have G1 := Lib.hid (grown_trans G0.out (grown_below hbel none))
  have P1 := Lib.hid hp
  have HI := Lib.hid hhi
  clear hp hbel hlo hhi N hmin
  go_wp2_with fail
  refine (pen_word P1.out 0 (by simp) (by omega)).mono ?_
  rintro e w2 ⟨p2, rfl, hp, hg, hp2⟩
  have R2 := Lib.hid (R1.out.kept hg (fun e => by injection e with e; have := P1.out.lw; omega))
  have G2 := Lib.hid (grown_new G1.out hg (by have := P1.out.lw; omega))
  have L2 := Lib.hid hg.size
  have P2 := Lib.hid hp
  have Q2 := Lib.hid hp2
  clear hp hg hp2
  go_wp2_with fail
  refine (pen_word P2.out 1 rfl Q2.out).mono ?_
  rintro e w3 ⟨p3, rfl, hp, hg, hp3⟩
  have hL3 : hi ≤ w3.heap.size := by have h1 := hg.size; have h2 := L2.out; have h3 := HI.out; omega
  have gA := grown1 w3 (.cells #[.int .i64 0, .int .i64 0, .int .u32 0, .int .u64 0, .int .u64 0] 161)
  have R3 := (R2.out.kept hg (fun e => by injection e with e; have := P2.out.lw; omega)).grown gA
  have G3 := grown_trans (grown_new G2.out hg (by have := P2.out.lw; omega)) gA
  have K3 := Lib.hid (show FRel w (w3.alloc (.cells #[.int .i64 0, .int .i64 0, .int .u32 0, .int .u64 0, .int .u64 0] 161)) lo hi a xs p3 (decide (xs.length < 4 * (1 + 1))) w.heap.size w3.heap.size Fr.zero from
    ⟨R3, FrAt.new w3 Fr.zero, hp.same gA, G3, hlo2, Nat.le_refl _, hL3⟩)
  have Q3 := Lib.hid hp3
  clear hp hg hp3 gA R3 G3 hL3
  go_wp2_with fail
  generalize hX3 : w3.alloc _ = X3 at *
  clear hX3
  refine (pen_word K3.out.pen 2 rfl Q3.out).mono ?_
  rintro e w4 ⟨p4, rfl, hp, hg, hp4⟩
  have hK := K3.out.step hp hg
  have l0 := hK.loc.c0
  have f0 := hK.loc.fz 0
  have hlt := hK.loc.lt
  have K4 := Lib.hid (hK.set 0 (.int .i64 (wordN xs 2 % 16777216)) (hK.loc.set0 (wordN xs 2 % 16777216)))
  have Q4 := Lib.hid hp4
  clear hp hg hp4 hK
  go_wp2_with fail
  refine (pen_word K4.out.pen 3 rfl Q4.out).mono ?_
  rintro e w5 ⟨p5, rfl, hp, hg, hp5⟩
  have hK := K4.out.step hp hg
  have l1 := hK.loc.c1
  have f1 := hK.loc.fz 1
  have hlt := hK.loc.lt
  have K5 := Lib.hid (hK.set 1 (.int .i64 (wordN xs 3)) (hK.loc.set1 (wordN xs 3)))
  have Q5 := Lib.hid hp5
  clear hp hg hp5 hK
  go_wp2_with fail
  refine (pen_word K5.out.pen 4 rfl Q5.out).mono ?_
  rintro e w6 ⟨p6, rfl, hp, hg, hp6⟩
  have hK := K5.out.step hp hg
  have l3 := hK.loc.c3
  have f3 := hK.loc.fz 3
  have hlt := hK.loc.lt
  have K6 := Lib.hid (hK.set 3 (.int .u64 (wordN xs 4)) (hK.loc.set3 (wordN xs 4)))
  have Q6 := Lib.hid hp6
  clear hp hg hp6 hK
  go_wp2_with fail
  refine (pen_word K6.out.pen 5 rfl Q6.out).mono ?_
  rintro e w7 ⟨p7, rfl, hp, hg, hp7⟩
  have hK := K6.out.step hp hg
  have l4 := hK.loc.c4
  have f4 := hK.loc.fz 4
  have hlt := hK.loc.lt
  have K7 := Lib.hid (hK.set 4 (.int .u64 (wordN xs 5)) (hK.loc.set4 (wordN xs 5)))
  have Q7 := Lib.hid hp7
  clear hp hg hp7 hK
  go_wp2_with fail
  refine (pen_word K7.out.pen 6 rfl Q7.out).mono ?_
  rintro e w8 ⟨p8, rfl, hp, hg, hp8⟩
  have hK := K7.out.step hp hg
  have l2 := hK.loc.c2
  have f2 := hK.loc.fz 2
  have hlt := hK.loc.lt
  have K8 := Lib.hid (hK.set 2 (.int .u32 (wordN xs 6)) (hK.loc.set2 (wordN xs 6)))
  have Q8 := Lib.hid hp8
  clear hp hg hp8 hK
  go_wp2_with fail
  refine (pen_word K8.out.pen 7 rfl Q8.out).mono ?_
  rintro e w9 ⟨p9, rfl, hp, hg, hp9⟩
  have K9 := Lib.hid (K8.out.step hp hg)
  have RZ := Lib.hid K9.out.res
  have GZ := Lib.hid K9.out.grown
  have PZ := Lib.hid hp
  clear hp hg hp9
  by_cases hsh : xs.length < 32
  · have ER := Lib.hid (show er = 3 by rw [E0.out, if_pos hsh])
    have WR := Lib.hid (wrong_yes (w := w9) (by have := PZ.out; rwa [decide_eq_true (show xs.length < 4 * (7 + 1) from hsh)] at this))
    clear hsh
    go_wp2_with fail
    refine WR.out.mono ?_
    rintro e w10 ⟨b, rfl, hb, hg⟩
    have RZ := Lib.hid (RZ.out.grown hg)
    have GZ := Lib.hid (grown_trans GZ.out hg)
    have IS := Lib.hid (is_wrong b 3 w10 hb)
    clear hb hg
    go_wp2_with fail
    refine IS.out.mono ?_
    rintro e w11 ⟨rfl, rfl⟩
    have r0 := RZ.out.c0
    have r1 := RZ.out.c1
    have r2 := RZ.out.c2
    have r3 := RZ.out.c3
    have r4 := RZ.out.c4
    have y0 := RZ.out.fz 0
    have y1 := RZ.out.fz 1
    have y2 := RZ.out.fz 2
    have y3 := RZ.out.fz 3
    have y4 := RZ.out.fz 4
    have hlt := RZ.out.lt
    go_wp2
    refine bodyPost_ret (results_fr (v := .int .i64 3) (f := Fr.zero) rfl rfl rfl (RZ.out.put Fr.zero)) rfl ?_
    exact ⟨fun _ => by rw [ER.out], fun h => by rw [ER.out] at h; omega, grown_new GZ.out (grown_put5 (grown_refl _ _) _ _ _ _ _) (Nat.le_refl _)⟩
  · have WR := Lib.hid (wrong_no (w := w9) (by have := PZ.out; rwa [decide_eq_false (show ¬ xs.length < 4 * (7 + 1) from hsh)] at this))
    have E1 := Lib.hid (E0.out.trans (if_neg hsh))
    clear hsh
    go_wp2_with fail
    refine WR.out.mono ?_
    rintro e w10 ⟨rfl, rfl⟩
    go_wp2_with fail
    refine (is_nil 3 w9).mono ?_
    rintro e w11 ⟨rfl, rfl⟩
    by_cases h0 : wordN xs 0 ≠ 4277009103
    · have ER := Lib.hid (E1.out.trans (if_pos h0))
      have d0 : (wordN xs 0 != 4277009103) = true := by simpa using h0
      clear h0
      have r0 := RZ.out.c0
      have r1 := RZ.out.c1
      have r2 := RZ.out.c2
      have r3 := RZ.out.c3
      have r4 := RZ.out.c4
      have y0 := RZ.out.fz 0
      have y1 := RZ.out.fz 1
      have y2 := RZ.out.fz 2
      have y3 := RZ.out.fz 3
      have y4 := RZ.out.fz 4
      have hlt := RZ.out.lt
      go_wp2
      refine bodyPost_ret (results_fr (v := .int .i64 5) (f := Fr.zero) rfl rfl rfl (RZ.out.put Fr.zero)) rfl ?_
      exact ⟨fun _ => by rw [ER.out], fun h => by rw [ER.out] at h; omega, grown_new GZ.out (grown_put5 (grown_refl _ _) _ _ _ _ _) (Nat.le_refl _)⟩
    · have E2 := Lib.hid (E1.out.trans (if_neg h0))
      have d0 : (wordN xs 0 != 4277009103) = false := by simpa using h0
      clear h0
      by_cases h1 : wordN xs 1 ≠ 16777228
      · have ER := Lib.hid (E2.out.trans (if_pos (.inl h1)))
        have d1 : (wordN xs 1 != 16777228) = true := by simpa using h1
        clear h1
        have r0 := RZ.out.c0
        have r1 := RZ.out.c1
        have r2 := RZ.out.c2
        have r3 := RZ.out.c3
        have r4 := RZ.out.c4
        have y0 := RZ.out.fz 0
        have y1 := RZ.out.fz 1
        have y2 := RZ.out.fz 2
        have y3 := RZ.out.fz 3
        have y4 := RZ.out.fz 4
        have hlt := RZ.out.lt
        go_wp2
        refine bodyPost_ret (results_fr (v := .int .i64 6) (f := Fr.zero) rfl rfl rfl (RZ.out.put Fr.zero)) rfl ?_
        exact ⟨fun _ => by rw [ER.out], fun h => by rw [ER.out] at h; omega, grown_new GZ.out (grown_put5 (grown_refl _ _) _ _ _ _ _) (Nat.le_refl _)⟩
      · have d1 : (wordN xs 1 != 16777228) = false := by simpa using h1
        have l0 := K9.out.loc.c0
        have SM := Lib.hid (submay_any (w := w9) (wordN xs 2 % 16777216))
        by_cases h2 : wordN xs 2 % 16777216 = 0 ∨ wordN xs 2 % 16777216 = 2
        · have E3 := Lib.hid (E2.out.trans (if_neg (by rintro (h | h); exact h1 h; exact h h2)))
          rw [decide_eq_true h2] at SM
          have l1 := K9.out.loc.c1
          have KM := Lib.hid (kindmay_any (w := w9) (wordN xs 3))
          clear h1 h2
          go_wp2_with fail
          refine SM.out.mono ?_
          rintro e w11 ⟨rfl, rfl⟩
          by_cases h3 : wordN xs 3 = 2 ∨ wordN xs 3 = 6
          · have E4 := Lib.hid (E3.out.trans (if_neg (fun h => h h3)))
            rw [decide_eq_true h3] at KM
            have l3 := K9.out.loc.c3
            clear h3
            go_wp2_with fail
            refine KM.out.mono ?_
            rintro e w11 ⟨rfl, rfl⟩
            by_cases h4 : 256 < wordN xs 4
            · have ER := Lib.hid (E4.out.trans (if_pos h4))
              have d4 : decide (256 < wordN xs 4) = true := decide_eq_true h4
              clear h4
              have r0 := RZ.out.c0
              have r1 := RZ.out.c1
              have r2 := RZ.out.c2
              have r3 := RZ.out.c3
              have r4 := RZ.out.c4
              have y0 := RZ.out.fz 0
              have y1 := RZ.out.fz 1
              have y2 := RZ.out.fz 2
              have y3 := RZ.out.fz 3
              have y4 := RZ.out.fz 4
              have hlt := RZ.out.lt
              go_wp2
              refine bodyPost_ret (results_fr (v := .int .i64 11) (f := Fr.zero) rfl rfl rfl (RZ.out.put Fr.zero)) rfl ?_
              exact ⟨fun _ => by rw [ER.out], fun h => by rw [ER.out] at h; omega, grown_new GZ.out (grown_put5 (grown_refl _ _) _ _ _ _ _) (Nat.le_refl _)⟩
            · have E5 := Lib.hid (E4.out.trans (if_neg h4))
              have d4 : decide (256 < wordN xs 4) = false := decide_eq_false h4
              have l4 := K9.out.loc.c4
              have WI := Lib.hid (withini_any 32 (wordN xs 5) n (by decide) ⟨by omega, by omega⟩ ⟨by omega, by omega⟩ w9)
              have u0 : (n : Int) % 18446744073709551616 = n := by omega
              have u1 : IntKind.u64.wrap (n : Int) = n := by rw [IntKind.wrap_u64]; exact u0
              clear h4
              by_cases h5 : 32 + wordN xs 5 ≤ n
              · have ER := Lib.hid (E5.out.trans (if_neg (by omega)))
                rw [decide_eq_true h5] at WI
                have l2 := K9.out.loc.c2
                clear h5
                go_wp2_with fail
                refine WI.out.mono ?_
                rintro e w11 ⟨rfl, rfl⟩
                have r0 := RZ.out.c0
                have r1 := RZ.out.c1
                have r2 := RZ.out.c2
                have r3 := RZ.out.c3
                have r4 := RZ.out.c4
                have y0 := RZ.out.fz 0
                have y1 := RZ.out.fz 1
                have y2 := RZ.out.fz 2
                have y3 := RZ.out.fz 3
                have y4 := RZ.out.fz 4
                have hlt := RZ.out.lt
                go_wp2
                refine bodyPost_ret (results_fr (v := .int .i64 0) (f := frOf xs) rfl rfl rfl (RZ.out.put (frOf xs))) rfl ?_
                exact ⟨fun h => absurd ER.out h, fun _ => rfl, grown_new GZ.out (grown_put5 (grown_refl _ _) _ _ _ _ _) (Nat.le_refl _)⟩
              · have ER := Lib.hid (E5.out.trans (if_pos (by omega)))
                rw [decide_eq_false h5] at WI
                clear h5
                go_wp2_with fail
                refine WI.out.mono ?_
                rintro e w11 ⟨rfl, rfl⟩
                have r0 := RZ.out.c0
                have r1 := RZ.out.c1
                have r2 := RZ.out.c2
                have r3 := RZ.out.c3
                have r4 := RZ.out.c4
                have y0 := RZ.out.fz 0
                have y1 := RZ.out.fz 1
                have y2 := RZ.out.fz 2
                have y3 := RZ.out.fz 3
                have y4 := RZ.out.fz 4
                have hlt := RZ.out.lt
                go_wp2
                refine bodyPost_ret (results_fr (v := .int .i64 3) (f := Fr.zero) rfl rfl rfl (RZ.out.put Fr.zero)) rfl ?_
                exact ⟨fun _ => by rw [ER.out], fun h => by rw [ER.out] at h; omega, grown_new GZ.out (grown_put5 (grown_refl _ _) _ _ _ _ _) (Nat.le_refl _)⟩
          · have ER := Lib.hid (E3.out.trans (if_pos h3))
            rw [decide_eq_false h3] at KM
            clear h3
            go_wp2_with fail
            refine KM.out.mono ?_
            rintro e w11 ⟨rfl, rfl⟩
            have r0 := RZ.out.c0
            have r1 := RZ.out.c1
            have r2 := RZ.out.c2
            have r3 := RZ.out.c3
            have r4 := RZ.out.c4
            have y0 := RZ.out.fz 0
            have y1 := RZ.out.fz 1
            have y2 := RZ.out.fz 2
            have y3 := RZ.out.fz 3
            have y4 := RZ.out.fz 4
            have hlt := RZ.out.lt
            go_wp2
            refine bodyPost_ret (results_fr (v := .int .i64 7) (f := Fr.zero) rfl rfl rfl (RZ.out.put Fr.zero)) rfl ?_
            exact ⟨fun _ => by rw [ER.out], fun h => by rw [ER.out] at h; omega, grown_new GZ.out (grown_put5 (grown_refl _ _) _ _ _ _ _) (Nat.le_refl _)⟩
        · have ER := Lib.hid (E2.out.trans (if_pos (.inr h2)))
          rw [decide_eq_false h2] at SM
          clear h1 h2
          go_wp2_with fail
          refine SM.out.mono ?_
          rintro e w11 ⟨rfl, rfl⟩
          have r0 := RZ.out.c0
          have r1 := RZ.out.c1
          have r2 := RZ.out.c2
          have r3 := RZ.out.c3
          have r4 := RZ.out.c4
          have y0 := RZ.out.fz 0
          have y1 := RZ.out.fz 1
          have y2 := RZ.out.fz 2
          have y3 := RZ.out.fz 3
          have y4 := RZ.out.fz 4
          have hlt := RZ.out.lt
          go_wp2
          refine bodyPost_ret (results_fr (v := .int .i64 6) (f := Fr.zero) rfl rfl rfl (RZ.out.put Fr.zero)) rfl ?_
          exact ⟨fun _ => by rw [ER.out], fun h => by rw [ER.out] at h; omega, grown_new GZ.out (grown_put5 (grown_refl _ _) _ _ _ _ _) (Nat.le_refl _)⟩
end Go.Proofs.YtdagnkdonlfobaaGreat

/- One cell in a block of its own; a block that stays. No condition. -/
namespace Go.Proofs.YtdagnkdonlfobaaGreat
open Go.RowKit
variable {w w' : World}
/-- One cell, in a block of its own. -/
def OneAt (w : World) (g : Nat) (v : Value) (T : TypeId) : Prop := w.heap[g]? = some (.cells #[v] T (0, 0))
section
variable {g : Nat} {v : Value} {T : TypeId}
theorem OneAt.c (h : OneAt w g v T) : w.cell? ⟨g, 0, none⟩ = some v := by rw [cell_of h]; rfl
theorem OneAt.f (h : OneAt w g v T) : w.frozen? ⟨g, 0, none⟩ = false := free_of h
theorem OneAt.lt (h : OneAt w g v T) : g < w.heap.size := lt_of_block h
theorem OneAt.kept {row : Option Nat} (h : OneAt w g v T) (hg : w.grownBy w' row) (hr : row ≠ some g) : OneAt w' g v T := (hg.block g (lt_of_block h) (fun e => hr e.symm)).trans h
theorem OneAt.grown (h : OneAt w g v T) (hg : w.grownBy w' none) : OneAt w' g v T := h.kept hg (by simp)
theorem OneAt.set (h : OneAt w g v T) (u : Value) : OneAt (w.setCell ⟨g, 0, none⟩ u) g u T := by unfold OneAt; rw [heap_setCell_same w g 0 _ _ _ h]; rfl
theorem OneAt.new (w : World) (v : Value) (T : TypeId) : OneAt (w.alloc (.cells #[v] T)) w.heap.size v T := heap_alloc_new w _
end
theorem grown_obj {r : Option Nat} {W W' : World} {k : Nat} {o : Obj} (hg : W.grownBy W' r) (h : W.heap[k]? = some o) (hr : r ≠ some k) : W'.heap[k]? = some o :=
  (hg.block k (Array.getElem?_eq_some_iff.1 h).1 (fun e => hr e.symm)).trans h
end Go.Proofs.YtdagnkdonlfobaaGreat

/- What is refused at its header is refused: read and Read. No condition but that there are at most 2^47 bytes. -/
namespace Go.Proofs.YtdagnkdonlfobaaGreat
open Go.RowKit
variable {w w' : World}

theorem results_cell3 {fn : Func} {p q r : Tmp} {tp tq tr : TypeId} (h : fn.results = #[.cell p tp, .cell q tq, .cell r tr]) (tmps : Array Value) (P : Program) (w : World)
    {a b c : Addr} {x y z : Value} (ha : tmps.getD p undef = .pointer (some a)) (hb : tmps.getD q undef = .pointer (some b)) (hc : tmps.getD r undef = .pointer (some c))
    (hx : (loadVar tp a).run P w = .ok x w) (hy : (loadVar tq b).run P w = .ok y w) (hz : (loadVar tr c).run P w = .ok z w) : (results fn tmps).run P w = .ok (.tuple #[x, y, z]) w := by
  have e : ∀ d : Addr, (asAddr (.pointer (some d)) : Sem Addr).run P w = .ok d w := fun d => rfl
  simp only [Array.getD_eq_getD_getElem?] at ha hb hc
  simp only [results, h]
  simp [Sem.run_bind, Result.andThen, ha, hb, hc, e, hx, hy, hz]
theorem results_cell_tmp2 {fn : Func} {p q r : Tmp} {tp : TypeId} (h : fn.results = #[.cell p tp, .tmp q, .tmp r]) (tmps : Array Value) (P : Program) (w : World)
    {a : Addr} {x y z : Value} (ha : tmps.getD p undef = .pointer (some a)) (hb : tmps.getD q undef = y) (hc : tmps.getD r undef = z)
    (hx : (loadVar tp a).run P w = .ok x w) : (results fn tmps).run P w = .ok (.tuple #[x, y, z]) w := by
  have e : ∀ d : Addr, (asAddr (.pointer (some d)) : Sem Addr).run P w = .ok d w := fun d => rfl
  simp only [Array.getD_eq_getD_getElem?] at ha hb hc
  simp only [results, h]
  simp [Sem.run_bind, Result.andThen, ha, hb, hc, e, hx]
theorem load_cms {g : Nat} {v : Value} (h : w.cell? ⟨g, 0, none⟩ = some v) : (loadVar 69 ⟨g, 0, none⟩).run Tryz.prog w = .ok v w := by
  have ha : (isAgg 69).run Tryz.prog w = .ok false w := by kernel_rfl
  simp [loadVar, Sem.run_bind, ha, Result.andThen, h]
theorem load_errno {g : Nat} {v : Value} (h : w.cell? ⟨g, 0, none⟩ = some v) : (loadVar 44 ⟨g, 0, none⟩).run Tryz.prog w = .ok v w := by
  have ha : (isAgg 44).run Tryz.prog w = .ok false w := by kernel_rfl
  simp [loadVar, Sem.run_bind, ha, Result.andThen, h]
structure Hd where
  sub : Int
  kind : Int
  flags : Int
def Hd.v (h : Hd) : Value := .agg #[.int .i64 h.sub, .int .i64 h.kind, .int .u32 h.flags]
def HdAt (w : World) (g : Nat) (h : Hd) : Prop := w.heap[g]? = some (.cells #[.int .i64 h.sub, .int .i64 h.kind, .int .u32 h.flags] 68 (0, 0))
theorem load_hd {g : Nat} {h : Hd} (hh : HdAt w g h) : (loadVar 68 ⟨g, 0, none⟩).run Tryz.prog w = .ok h.v w :=
  run_loadVar_row w g _ _ _ _ _ hh Tryz.underlying68 rfl (by kernel_rfl)
theorem HdAt.put {g : Nat} {h : Hd} (hh : HdAt w g h) (t : Hd) : HdAt (((w.setCell ⟨g, 0, none⟩ (.int .i64 t.sub)).setCell ⟨g, 1, none⟩ (.int .i64 t.kind)).setCell ⟨g, 2, none⟩ (.int .u32 t.flags)) g t := by
  unfold HdAt
  rw [heap_setCell_same _ g 2 _ _ _ (heap_setCell_same _ g 1 _ _ _ (heap_setCell_same w g 0 _ _ _ hh))]
  rfl
theorem grown_put3 {g : Nat} (h : w.grownBy w' (some g)) (v0 v1 v2 : Value) : w.grownBy (((w'.setCell ⟨g, 0, none⟩ v0).setCell ⟨g, 1, none⟩ v1).setCell ⟨g, 2, none⟩ v2) (some g) :=
  grown_setCell (grown_setCell (grown_setCell h _) _) _
set_option maxHeartbeats 800000 in
theorem read_no (ys : List Int) (q : Option Addr) (c n : Nat) (h : IsBytes w q c ys) (hn : ys.length = n) (hc : n ≤ c) (hcm : c ≤ 9223372036854775807) (hn47 : n ≤ 140737488355328) (hr : Small ys) (er : Int) (her : frErr (ys.take 32) n = er) (h0 : er ≠ 0) :
    Calls Tryz.prog 93 #[.slice q n c] w fun e w' => e = .returned (.tuple #[Fr.zero.v, .slice none 0 0, .int .i64 er]) ∧ w.grownBy w' none := by
  subst her
  have FO := Lib.hid (fun (w1 : World) (hg : w.grownBy w1 none) => frontOf_any (w := w1) ys q c n (h.kept hg (by simp)) hn hc hcm hn47 hr)
  obtain ⟨er, he⟩ : ∃ er, er = frErr (ys.take 32) n := ⟨_, rfl⟩
  rw [← he] at FO h0 ⊢
  obtain ⟨f, hf⟩ : ∃ f, f = frOf (ys.take 32) := ⟨_, rfl⟩
  rw [← hf] at FO
  have hne : (er != 0) = true := by simpa using h0
  have H0 := Lib.hid h0
  clear he hf h hn hr h0
  go_enter Tryz.func93, Tryz.ntmps93
  have ZA : FrAt (((w.alloc (.cells #[.int .i64 0, .int .i64 0, .int .u32 0, .int .u64 0, .int .u64 0] 161)).alloc (.cells #[.slice none 0 0] 69)).alloc (.cells #[.int .i64 0] 44)) w.heap.size Fr.zero :=
    (FrAt.new w Fr.zero).grown (grown2 _ _ _)
  have ZB : OneAt (((w.alloc (.cells #[.int .i64 0, .int .i64 0, .int .u32 0, .int .u64 0, .int .u64 0] 161)).alloc (.cells #[.slice none 0 0] 69)).alloc (.cells #[.int .i64 0] 44)) (w.heap.size + 1) (.slice none 0 0) 69 := by
    have := (OneAt.new (w.alloc (.cells #[.int .i64 0, .int .i64 0, .int .u32 0, .int .u64 0, .int .u64 0] 161)) (.slice none 0 0) 69).grown (grown1 _ (.cells #[.int .i64 0] 44))
    simpa using this
  have ZC : OneAt (((w.alloc (.cells #[.int .i64 0, .int .i64 0, .int .u32 0, .int .u64 0, .int .u64 0] 161)).alloc (.cells #[.slice none 0 0] 69)).alloc (.cells #[.int .i64 0] 44)) (w.heap.size + 1 + 1) (.int .i64 0) 44 := by
    have := OneAt.new ((w.alloc (.cells #[.int .i64 0, .int .i64 0, .int .u32 0, .int .u64 0, .int .u64 0] 161)).alloc (.cells #[.slice none 0 0] 69)) (.int .i64 0) 44
    simpa using this
  have gZ : w.grownBy (((w.alloc (.cells #[.int .i64 0, .int .i64 0, .int .u32 0, .int .u64 0, .int .u64 0] 161)).alloc (.cells #[.slice none 0 0] 69)).alloc (.cells #[.int .i64 0] 44)) none :=
    grown_trans (grown1 _ _) (grown2 _ _ _)
  have HA := Lib.hid ZA
  have HB := Lib.hid ZB
  have HC := Lib.hid ZC
  have GZ := Lib.hid gZ
  clear ZA ZB ZC gZ
  go_wp2_with fail
  refine (FO.out _ GZ.out).mono ?_
  rintro e w1 ⟨hno, _, hg⟩
  have he := hno H0.out
  subst he
  unfold Fr.v Fr.zero
  have gm := grown_trans hg (grown1 w1 (.cells #[.int .i64 0, .int .i64 0, .int .u32 0, .int .u64 0, .int .u64 0] 161))
  have ZA := Lib.hid (HA.out.grown gm)
  have ZB := Lib.hid (HB.out.grown gm)
  have ZC := Lib.hid (HC.out.grown gm)
  have G1 := Lib.hid (grown_trans GZ.out gm)
  have a0 := ZA.out.c0
  have a1 := ZA.out.c1
  have a2 := ZA.out.c2
  have a3 := ZA.out.c3
  have a4 := ZA.out.c4
  have y0 := ZA.out.fz 0
  have y1 := ZA.out.fz 1
  have y2 := ZA.out.fz 2
  have y3 := ZA.out.fz 3
  have y4 := ZA.out.fz 4
  have b0 := ZB.out.c
  have b1 := ZB.out.f
  have b2 := ZC.out.c
  have b3 := ZC.out.f
  clear hno hg gm
  go_wp2
  have PA := ZA.out.put Fr.zero
  have gA := grown_put5 (grown_refl (w1.alloc (.cells #[.int .i64 0, .int .i64 0, .int .u32 0, .int .u64 0, .int .u64 0] 161)) (some w.heap.size)) (.int .i64 0) (.int .i64 0) (.int .u32 0) (.int .u64 0) (.int .u64 0)
  have PB := (ZB.out.kept gA (by simp)).set (.slice none 0 0)
  have PC := ZC.out.kept gA (by simp; omega)
  obtain ⟨W, hW⟩ : ∃ W, W = (((((w1.alloc (.cells #[.int .i64 0, .int .i64 0, .int .u32 0, .int .u64 0, .int .u64 0] 161)).setCell ⟨w.heap.size, 0, none⟩ (.int .i64 0)).setCell ⟨w.heap.size, 1, none⟩ (.int .i64 0)).setCell ⟨w.heap.size, 2, none⟩ (.int .u32 0)).setCell ⟨w.heap.size, 3, none⟩ (.int .u64 0)).setCell ⟨w.heap.size, 4, none⟩ (.int .u64 0) := ⟨_, rfl⟩
  have PA : FrAt W w.heap.size Fr.zero := by rw [hW]; exact PA
  rw [← hW] at gA PB PC
  have GA := grown_new G1.out gA (Nat.le_refl _)
  rw [← hW]
  clear hW
  have gB := grown_setCell (i := 0) (grown_refl W (some (w.heap.size + 1))) (.slice none 0 0)
  have gC := grown_setCell (i := 0) (grown_refl (W.setCell ⟨w.heap.size + 1, 0, none⟩ (.slice none 0 0)) (some (w.heap.size + 1 + 1))) (.int .i64 er)
  refine bodyPost_ret (results_cell3 rfl _ _ _ rfl rfl rfl (load_fr ((PA.kept gB (by simp)).kept gC (by simp; omega))) (load_cms (PB.kept gC (by simp)).c) (load_errno ((PC.kept gB (by simp)).set _).c)) rfl ?_
  exact ⟨rfl, grown_new (grown_new GA gB (by omega)) gC (by omega)⟩

set_option maxHeartbeats 800000 in
theorem Read_no (ys : List Int) (q : Option Addr) (c n : Nat) (h : IsBytes w q c ys) (hn : ys.length = n) (hc : n ≤ c) (hcm : c ≤ 9223372036854775807) (hn47 : n ≤ 140737488355328) (hr : Small ys) (er : Int) (her : frErr (ys.take 32) n = er) (h0 : er ≠ 0) :
    Calls Tryz.prog 91 #[.slice q n c] w fun e w' => e = .returned (.tuple #[.agg #[.int .i64 0, .int .i64 0, .int .u32 0], .slice none 0 0, .int .i64 er]) ∧ w.grownBy w' none := by
  have RD := Lib.hid (fun (w1 : World) (hg : w.grownBy w1 none) => read_no (w := w1) ys q c n (h.kept hg (by simp)) hn hc hcm hn47 hr er her h0)
  have ZA : HdAt (w.alloc (.cells #[.int .i64 0, .int .i64 0, .int .u32 0] 68)) w.heap.size ⟨0, 0, 0⟩ := heap_alloc_new w _
  have HA := Lib.hid ZA
  have GA := Lib.hid (grown1 w (.cells #[.int .i64 0, .int .i64 0, .int .u32 0] 68))
  clear ZA h hn hr her h0
  go_enter Tryz.func91, Tryz.ntmps91
  go_wp2_with fail
  refine (RD.out _ GA.out).mono ?_
  rintro e w1 ⟨rfl, hg⟩
  unfold Fr.v Fr.zero
  have gm := grown_trans hg (grown1 w1 (.cells #[.int .i64 0, .int .i64 0, .int .u32 0, .int .u64 0, .int .u64 0] 161))
  have hA : (w1.alloc (.cells #[.int .i64 0, .int .i64 0, .int .u32 0, .int .u64 0, .int .u64 0] 161)).heap[w.heap.size]? = some (.cells #[.int .i64 0, .int .i64 0, .int .u32 0] 68 (0, 0)) := (gm.block _ (lt_of_block HA.out) (by simp)).trans HA.out
  have a0 : (w1.alloc (.cells #[.int .i64 0, .int .i64 0, .int .u32 0, .int .u64 0, .int .u64 0] 161)).cell? ⟨w.heap.size, 0, none⟩ = some (.int .i64 0) := by rw [cell_of hA]; rfl
  have a1 : (w1.alloc (.cells #[.int .i64 0, .int .i64 0, .int .u32 0, .int .u64 0, .int .u64 0] 161)).cell? ⟨w.heap.size, 1, none⟩ = some (.int .i64 0) := by rw [cell_of hA]; rfl
  have a2 : (w1.alloc (.cells #[.int .i64 0, .int .i64 0, .int .u32 0, .int .u64 0, .int .u64 0] 161)).cell? ⟨w.heap.size, 2, none⟩ = some (.int .u32 0) := by rw [cell_of hA]; rfl
  have y0 : ∀ i, (w1.alloc (.cells #[.int .i64 0, .int .i64 0, .int .u32 0, .int .u64 0, .int .u64 0] 161)).frozen? ⟨w.heap.size, i, none⟩ = false := fun i => free_of hA
  have f0 := y0 0
  have f1 := y0 1
  have f2 := y0 2
  have hlt := lt_of_block hA
  have G1 := Lib.hid (grown_trans GA.out gm)
  have BA := Lib.hid hA
  clear hg gm hA y0
  go_wp2
  have PA := HdAt.put (w := w1.alloc (.cells #[.int .i64 0, .int .i64 0, .int .u32 0, .int .u64 0, .int .u64 0] 161)) (g := w.heap.size) (h := ⟨0, 0, 0⟩) BA.out ⟨0, 0, 0⟩
  refine bodyPost_ret (results_cell_tmp2 rfl _ _ _ rfl rfl rfl (load_hd PA)) rfl ?_
  exact ⟨rfl, grown_new G1.out (grown_put3 (grown_refl _ _) _ _ _) (Nat.le_refl _)⟩
end Go.Proofs.YtdagnkdonlfobaaGreat

/- Numbers of four bytes laid one behind the other, by the program and by the document. No condition but that there are few. -/
namespace Go.Proofs.YtdagnkdonlfobaaGreat
open Go.RowKit
variable {w w' : World}

/-- Numbers, wherever they lie. -/
def IsU32s (w : World) (q : Option Addr) (ns : List Int) : Prop := 0 < ns.length → ∃ b o, q = some ⟨b, o, none⟩ ∧ ∀ i x, ns[i]? = some x → w.cell? ⟨b, o + i, none⟩ = some (.int .u32 x)
theorem IsU32s.grown {q : Option Addr} {ns : List Int} (h : IsU32s w q ns) (hg : w.grownBy w' none) : IsU32s w' q ns := fun hl => by
  obtain ⟨b, o, rfl, hc⟩ := h hl
  exact ⟨b, o, rfl, fun i x hx => hg.cell (hc i x hx) (by simp)⟩
theorem isU32s_at {g : Nat} {ns : List Int} {T : TypeId} (h : w.heap[g]? = some (.cells (ns.map (Value.int .u32)).toArray T (0, 0))) : IsU32s w (some ⟨g, 0, none⟩) ns := fun _ =>
  ⟨g, 0, rfl, fun i x hx => by rw [Nat.zero_add, cell_of h]; simp [hx]⟩
def puts4 (ns : List Int) : List Int := ns.flatMap le4
theorem puts4_len (ns : List Int) : (puts4 ns).length = 4 * ns.length := by
  induction ns with
  | nil => rfl
  | cons n ns ih => show (le4 n ++ puts4 ns).length = _; rw [List.length_append, ih, le4_len, List.length_cons]; omega
theorem puts4_take {ns : List Int} {k : Nat} {x : Int} (h : ns[k]? = some x) : puts4 (ns.take (k + 1)) = puts4 (ns.take k) ++ le4 x := by
  have hk : k < ns.length := by
    rcases Nat.lt_or_ge k ns.length with h1 | h1
    · exact h1
    · simp [h1] at h
  rw [List.getElem?_eq_getElem hk] at h
  injection h with h
  unfold puts4
  rw [List.take_succ_eq_append_getElem hk, List.flatMap_append, h]
  simp
theorem four_bytes (w : World) (a b c d : Int) : IsBytes (w.alloc (.cells #[.int .u8 a, .int .u8 b, .int .u8 c, .int .u8 d] 5)) (some ⟨w.heap.size, 0, none⟩) 4 [a, b, c, d] := by
  refine IsBytes.mk_at fun i hi => ?_
  rw [cell_of (heap_alloc_new w _), Nat.zero_add]
  have hi4 : i < 4 := hi
  match i, hi4 with
  | 0, _ => rfl
  | 1, _ => rfl
  | 2, _ => rfl
  | 3, _ => rfl
/-- A row of one's own that is not nil is one whatever mark it bears. -/
theorem OwnM.of_own {base n : Nat} {q : Option Addr} {c : Nat} {xs : List Int} (hn : 0 < n) (hl : xs.length = n) (h : w.ownsRow base 5 1 (.slice q n c) n (xs.map (Value.int .u8))) : ∃ g, q = some ⟨g, 0, none⟩ ∧ OwnM w base g n c xs := by
  have h' := h
  obtain ⟨_, hx | ⟨g, cap, cur, hv, hb, hg, hle, hm, hs, ht⟩⟩ := h
  · omega
  injection hv with e1 _ e3
  subst e1 e3
  refine ⟨g, rfl, hb, lt_of_block hg, hle, hl, hm, fun j hj => ?_, fun j _ => free_of hg, fun j hj => ?_⟩
  · rw [cell_of hg, Array.getElem?_eq_getElem (by rw [hs]; omega)]; rfl
  · have hc := h'.cells (g := g) rfl j (.int .u8 (xs.getD j 0)) (by simp [hl, hj])
    rw [add_flat, Nat.zero_add] at hc
    exact hc

end Go.Proofs.YtdagnkdonlfobaaGreat

/- Noughts appended to bytes of the call's own (append of a make). No condition but that they are at most 2^47. -/
namespace Go.Proofs.YtdagnkdonlfobaaGreat
open Go.RowKit
variable {w w' : World} {base : Nat}

theorem run_zeros_roomI {g n cap : Nat} {xs : List Int} (h : OwnM w base g n cap xs) (k : Nat) (hroom : n + k ≤ cap) (h63 : n + k ≤ 140737488355328) :
    (Builtin.append_ #[31, 3] 31 #[.slice (some ⟨g, 0, none⟩) n cap, .int .i64 k]).run Tryz.prog w = .ok (.slice (some ⟨g, 0, none⟩) (n + k) cap) (w.setCells g n (List.replicate k (.int .u8 0))) := by
  obtain ⟨i, hi, hz0, hz1, hz2⟩ := info_parts info_u8
  have hst := run_storeCells_cells (P := Tryz.prog) g n (List.replicate k (Value.int .u8 0)) 0 w (fun j hj => h.there _ (by simp at hj; omega)) (fun j hj => h.free _ (by simp at hj; omega)) (fun u hu => by rw [List.eq_of_mem_replicate hu]; rfl)
  have hw : IntKind.i64.wrap (k : Int) = k := by rw [IntKind.wrap_i64]; omega
  have hneg : ¬ ((k : Int) < 0) := by omega
  have h48i : ¬ (281474976710656 < (k : Int)) := by omega
  simp only [Nat.add_zero] at hst
  simp [Builtin.append_, run_underlying Tryz.underlying31, run_underlying Tryz.underlying3, sizeOf, typeInfo, zeroValue, hi, hz0, hz1, hz2, asInt, asIntOf, hw, hneg, hroom, h48i]
  have hzc : (Builtin.zeroCells (Value.int .u8 0).cells k).toList = List.replicate k (Value.int .u8 0) := by
    apply List.ext_getElem?
    intro j
    by_cases hj : j < k
    · simp [Builtin.zeroCells, Value.cells, hj, Nat.mod_one]
    · simp [Builtin.zeroCells, Value.cells, hj]
  rw [hzc, add_flat, Nat.zero_add, hst]
  by_cases hk : k = 0
  · subst hk
    rw [if_pos rfl]
    rfl
  · rw [if_neg hk]
    rfl

theorem run_zerosMI {g n cap : Nat} {xs : List Int} (h : OwnM w base g n cap xs) (k : Nat) (h63 : n + k ≤ 140737488355328) :
    ∃ g' cap' w', (Builtin.append_ #[31, 3] 31 #[.slice (some ⟨g, 0, none⟩) n cap, .int .i64 k]).run Tryz.prog w = .ok (.slice (some ⟨g', 0, none⟩) (n + k) cap') w' ∧
      OwnM w' base g' (n + k) cap' (xs ++ List.replicate k 0) ∧ w.grownBy w' (some g) ∧ (g' = g ∨ g' = w.heap.size) := by
  by_cases hroom : n + k ≤ cap
  · refine ⟨g, cap, _, run_zeros_roomI h k hroom h63, ?_, grown_setCells _ _ _ (grown_refl _ _), .inl rfl⟩
    have := ownM_room h (List.replicate k 0) (by simpa using hroom)
    simpa using this
  · obtain ⟨i, hi, hz0, hz1, hz2⟩ := info_parts info_u8
    have hold : (Builtin.firstCells i.size n (.slice (some ⟨g, 0, none⟩) n cap)).run Tryz.prog w.drew = .ok (xs.map (Value.int .u8)).toArray w.drew := by
      rw [hz1]
      refine run_firstCells_some w.drew 1 n ⟨g, 0, none⟩ n cap (xs.map (Value.int .u8)) (by simp [h.len]) (fun j u hu => ?_)
      have hj : j < n := by
        rcases Nat.lt_or_ge j n with h1 | h1
        · exact h1
        · simp [h.len, h1] at hu
      rw [add_flat, Nat.zero_add]
      show w.cell? ⟨g, j, none⟩ = some u
      rw [h.cell j hj]
      simp [show j < xs.length by rw [h.len]; exact hj] at hu ⊢
      exact hu
    have hle0 := h.le
    have hr := Lib.run_append_grow_zeros w 31 3 31 5 i (.int .u8 0) .i64 .i64 Tryz.underlying31 Tryz.underlying3 hi hz0 (some ⟨g, 0, none⟩) n cap (xs.map (Value.int .u8)) hold k (by omega) (by omega) (by omega) (by omega) (by rw [hz2]; omega)
      (growslice_fits (by omega) (by rw [hz2]; omega))
    obtain ⟨cap', hcap⟩ : ∃ z, z = grownCap w (n + k) cap 5 := ⟨_, rfl⟩
    rw [← hcap] at hr
    have hge : n + k ≤ cap' := by rw [hcap]; exact grownCap_ge w _ _ _
    have hle : cap' ≤ maxLen := by rw [hcap]; exact grownCap_le_maxLen w _ _ _ (by unfold maxLen; omega)
    refine ⟨w.heap.size, cap', _, hr, ?_, grown_any (grown_alloc (grown_drewN (grown_refl w none) 1) _) _, .inr rfl⟩
    obtain ⟨C, hC⟩ : ∃ C, C = (xs.map (Value.int .u8)).toArray ++ Builtin.zeroCells (Value.int .u8 0).cells k ++ Builtin.zeroCells (Value.int .u8 0).cells (cap' - (n + k)) := ⟨_, rfl⟩
    have hsize : C.size = cap' := by
      rw [hC]
      simp [size_zeroCells, Value.cells, h.len]; omega
    have hcell : ∀ j, j < n + k → C[j]? = some (.int .u8 ((xs ++ List.replicate k 0).getD j 0)) := fun j hj => by
      rw [hC, Array.getElem?_append_left (by simp [size_zeroCells, Value.cells, h.len]; omega)]
      by_cases h1 : j < n
      · rw [Array.getElem?_append_left (by simp [h.len]; exact h1), List.getD_eq_getElem?_getD, List.getElem?_append_left (by rw [h.len]; exact h1)]
        simp [show j < xs.length by rw [h.len]; exact h1]
      · rw [Array.getElem?_append_right (by simp [h.len]; omega), List.getD_eq_getElem?_getD, List.getElem?_append_right (by rw [h.len]; omega)]
        rw [zeroCells_at _ _ (by simp [h.len]; omega), List.getElem?_replicate, if_pos (by rw [h.len]; omega)]
        rfl
    rw [← hC]
    have hnew : (w.drew.alloc (.cells C 5)).heap[w.heap.size]? = some (.cells C 5 (0, 0)) := heap_alloc_new w.drew _
    exact ⟨Nat.le_trans h.lo (Nat.le_of_lt h.lt), lt_of_block hnew, hge, by simp [h.len], hle, fun j hj => by rw [cell_of hnew, Array.getElem?_eq_getElem (by rw [hsize]; exact hj)]; rfl, fun j _ => free_of hnew, fun j hj => by rw [cell_of hnew]; exact hcell j hj⟩

end Go.Proofs.YtdagnkdonlfobaaGreat

/- The command that says something: the program's own call. No condition but that there are at most 2^40 bytes. -/
namespace Go.Proofs.YtdagnkdonlfobaaGreat
open Go.RowKit
variable {w w' : World}

def upTo8 (n : Nat) : Nat := (n + 7) / 8 * 8
def oneN (cmd : Int) (ys : List Int) : List Int := le4 cmd ++ le4 (upTo8 (8 + ys.length)) ++ ys ++ List.replicate (upTo8 (8 + ys.length) - (8 + ys.length)) 0
theorem upTo8_bd (n : Nat) : n ≤ upTo8 n ∧ upTo8 n ≤ n + 7 ∧ upTo8 n % 8 = 0 := by unfold upTo8; omega
theorem oneN_len (cmd : Int) (ys : List Int) : (oneN cmd ys).length = upTo8 (8 + ys.length) := by
  have := upTo8_bd (8 + ys.length)
  unfold oneN
  simp only [List.length_append, le4_len, List.length_replicate]
  omega
theorem oneN_small (cmd : Int) {ys : List Int} (h : Small ys) : Small (oneN cmd ys) :=
  small_app (small_app (small_app (le4_small _) (le4_small _)) h) (zeros_small _)
theorem two_words (w : World) (a b : Int) : IsU32s (w.alloc (.cells #[.int .u32 a, .int .u32 b] 35)) (some ⟨w.heap.size, 0, none⟩) [a, b] :=
  isU32s_at (ns := [a, b]) (heap_alloc_new w _)

/-- What a call that makes a command tells: the command, and an error. -/
structure OneOut (w w' : World) (cmd : Int) (ys : List Int) (e : Ending) : Prop where
  no : 1048576 < 8 + ys.length → e = .returned (.tuple #[.agg #[.int .u32 0, .slice none 0 0], .int .i64 11])
  yes : 8 + ys.length ≤ 1048576 → ∃ g c, e = .returned (.tuple #[.agg #[.int .u32 cmd, .slice (some ⟨g, 0, none⟩) (upTo8 (8 + ys.length)) c], .int .i64 0]) ∧ OwnM w' w.heap.size g (upTo8 (8 + ys.length)) c (oneN cmd ys)
  grown : w.grownBy w' none

theorem load_cm {g : Nat} {m : Cm} (h : CmAt w g m) : (loadVar 109 ⟨g, 0, none⟩).run Tryz.prog w = .ok m.v w :=
  run_loadVar_row w g _ _ _ _ _ h Tryz.underlying109 rfl (by kernel_rfl)
theorem results_cm {fn : Func} {p u : Tmp} (hr : fn.results = #[.cell p 109, .tmp u]) {tmps : Array Value} {v : Value} {g : Nat} {m : Cm} (hp : tmps.getD p undef = .pointer (some ⟨g, 0, none⟩)) (hu : tmps.getD u undef = v) (h : CmAt w g m) :
    (results fn tmps).run Tryz.prog w = .ok (.tuple #[m.v, v]) w := by
  rw [results_cell_tmp hr, hp, hu, show (asAddr (.pointer (some ⟨g, 0, none⟩)) : Sem Addr).run Tryz.prog w = .ok ⟨g, 0, none⟩ w from rfl, Result.andThen_ok, load_cm h, Result.andThen_ok]
theorem CmAt.put {g : Nat} {m : Cm} (h : CmAt w g m) (t : Cm) : CmAt ((w.setCell ⟨g, 0, none⟩ (.int .u32 t.cmd)).setCell ⟨g, 1, none⟩ (.slice t.q t.bytes.length t.cap)) g t := by
  unfold CmAt
  rw [heap_setCell_same _ g 1 _ _ _ (heap_setCell_same w g 0 _ _ _ h)]
  rfl
theorem CmAt.f {g : Nat} {m : Cm} (h : CmAt w g m) (i : Nat) : w.frozen? ⟨g, i, none⟩ = false := free_of h
theorem grown_put2 {g : Nat} (h : w.grownBy w' (some g)) (v0 v1 : Value) : w.grownBy ((w'.setCell ⟨g, 0, none⟩ v0).setCell ⟨g, 1, none⟩ v1) (some g) := grown_setCell (grown_setCell h _) _
theorem OwnM.mono {b b' g n cap : Nat} {xs : List Int} (h : OwnM w b g n cap xs) (hb : b' ≤ b) : OwnM w b' g n cap xs := ⟨Nat.le_trans hb h.lo, h.lt, h.le, h.len, h.most, h.there, h.free, h.cell⟩

end Go.Proofs.YtdagnkdonlfobaaGreat
