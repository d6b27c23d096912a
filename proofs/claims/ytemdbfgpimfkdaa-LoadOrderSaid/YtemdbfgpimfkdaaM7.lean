import Derived.Test.YtemdbfgpimfkdaaM6
/- What a header says: the program's own call. No condition but that there are at most 2^47 bytes. -/
namespace Go.Proofs.Ytemdbfgpimfkdaa
open Go.RowKit
variable {w w' : World}

/-- A header's number, the k-th one: nothing where there are too few bytes. -/
def wordN (xs : List Int) (k : Nat) : Int := if xs.length < 4 * (k + 1) then 0 else leN ((xs.drop (4 * k)).take 4)
theorem wordN_bd {xs : List Int} (h : Small xs) (k : Nat) : 0 ≤ wordN xs k ∧ wordN xs k < 4294967296 := by
  unfold wordN
  split
  · omega
  · exact leN4_bd h _
theorem wordN_take {ys : List Int} (h : 32 ≤ ys.length) (k : Nat) (hk : k < 8) : wordN (ys.take 32) k = leN ((ys.drop (4 * k)).take 4) := by
  unfold wordN
  rw [if_neg (by rw [List.length_take]; omega), List.drop_take, List.take_take, Nat.min_eq_left (by omega)]
structure Fr where
  sub : Int
  kind : Int
  flags : Int
  count : Int
  size : Int
def Fr.zero : Fr := ⟨0, 0, 0, 0, 0⟩
def Fr.v (f : Fr) : Value := .agg #[.int .i64 f.sub, .int .i64 f.kind, .int .u32 f.flags, .int .u64 f.count, .int .u64 f.size]
def FrAt (w : World) (g : Nat) (f : Fr) : Prop := w.heap[g]? = some (.cells #[.int .i64 f.sub, .int .i64 f.kind, .int .u32 f.flags, .int .u64 f.count, .int .u64 f.size] 89 (0, 0))
section
variable {g : Nat} {f : Fr}
theorem FrAt.c0 (h : FrAt w g f) : w.cell? ⟨g, 0, none⟩ = some (.int .i64 f.sub) := by rw [cell_of h]; rfl
theorem FrAt.c1 (h : FrAt w g f) : w.cell? ⟨g, 1, none⟩ = some (.int .i64 f.kind) := by rw [cell_of h]; rfl
theorem FrAt.c2 (h : FrAt w g f) : w.cell? ⟨g, 2, none⟩ = some (.int .u32 f.flags) := by rw [cell_of h]; rfl
theorem FrAt.c3 (h : FrAt w g f) : w.cell? ⟨g, 3, none⟩ = some (.int .u64 f.count) := by rw [cell_of h]; rfl
theorem FrAt.c4 (h : FrAt w g f) : w.cell? ⟨g, 4, none⟩ = some (.int .u64 f.size) := by rw [cell_of h]; rfl
theorem FrAt.fz (h : FrAt w g f) (i : Nat) : w.frozen? ⟨g, i, none⟩ = false := free_of h
theorem FrAt.new (w : World) (f : Fr) : FrAt (w.alloc (.cells #[.int .i64 f.sub, .int .i64 f.kind, .int .u32 f.flags, .int .u64 f.count, .int .u64 f.size] 89)) w.heap.size f := heap_alloc_new w _
theorem FrAt.kept {row : Option Nat} (h : FrAt w g f) (hg : w.grownBy w' row) (hr : row ≠ some g) : FrAt w' g f := (hg.block g (lt_of_block h) (fun e => hr e.symm)).trans h
theorem FrAt.grown (h : FrAt w g f) (hg : w.grownBy w' none) : FrAt w' g f := h.kept hg (by simp)
theorem FrAt.lt (h : FrAt w g f) : g < w.heap.size := lt_of_block h
theorem FrAt.set0 (h : FrAt w g f) (n : Int) : FrAt (w.setCell ⟨g, 0, none⟩ (.int .i64 n)) g { f with sub := n } := by unfold FrAt; rw [heap_setCell_same w g 0 _ _ _ h]; rfl
theorem FrAt.set1 (h : FrAt w g f) (n : Int) : FrAt (w.setCell ⟨g, 1, none⟩ (.int .i64 n)) g { f with kind := n } := by unfold FrAt; rw [heap_setCell_same w g 1 _ _ _ h]; rfl
theorem FrAt.set2 (h : FrAt w g f) (n : Int) : FrAt (w.setCell ⟨g, 2, none⟩ (.int .u32 n)) g { f with flags := n } := by unfold FrAt; rw [heap_setCell_same w g 2 _ _ _ h]; rfl
theorem FrAt.set3 (h : FrAt w g f) (n : Int) : FrAt (w.setCell ⟨g, 3, none⟩ (.int .u64 n)) g { f with count := n } := by unfold FrAt; rw [heap_setCell_same w g 3 _ _ _ h]; rfl
theorem FrAt.set4 (h : FrAt w g f) (n : Int) : FrAt (w.setCell ⟨g, 4, none⟩ (.int .u64 n)) g { f with size := n } := by unfold FrAt; rw [heap_setCell_same w g 4 _ _ _ h]; rfl
theorem FrAt.put (h : FrAt w g f) (t : Fr) : FrAt (((((w.setCell ⟨g, 0, none⟩ (.int .i64 t.sub)).setCell ⟨g, 1, none⟩ (.int .i64 t.kind)).setCell ⟨g, 2, none⟩ (.int .u32 t.flags)).setCell ⟨g, 3, none⟩ (.int .u64 t.count)).setCell ⟨g, 4, none⟩ (.int .u64 t.size)) g t :=
  ((((h.set0 t.sub).set1 t.kind).set2 t.flags).set3 t.count).set4 t.size
theorem grown_put5 (h : w.grownBy w' (some g)) (v0 v1 v2 v3 v4 : Value) : w.grownBy (((((w'.setCell ⟨g, 0, none⟩ v0).setCell ⟨g, 1, none⟩ v1).setCell ⟨g, 2, none⟩ v2).setCell ⟨g, 3, none⟩ v3).setCell ⟨g, 4, none⟩ v4) (some g) :=
  grown_setCell (grown_setCell (grown_setCell (grown_setCell (grown_setCell h _) _) _) _) _
theorem load_fr (h : FrAt w g f) : (loadVar 89 ⟨g, 0, none⟩).run Try.prog w = .ok f.v w :=
  run_loadVar_row w g _ _ _ _ _ h Try.underlying89 rfl (by kernel_rfl)
theorem results_fr {fn : Func} {p u : Tmp} (hr : fn.results = #[.cell p 89, .tmp u]) {tmps : Array Value} {v : Value} (hp : tmps.getD p undef = .pointer (some ⟨g, 0, none⟩)) (hu : tmps.getD u undef = v) (h : FrAt w g f) :
    (results fn tmps).run Try.prog w = .ok (.tuple #[f.v, v]) w := by
  rw [results_cell_tmp hr, hp, hu, show (asAddr (.pointer (some ⟨g, 0, none⟩)) : Sem Addr).run Try.prog w = .ok ⟨g, 0, none⟩ w from rfl, Result.andThen_ok, load_fr h, Result.andThen_ok]
end

theorem and24u (n : Int) (h : 0 ≤ n ∧ n < 4294967296) : bits .and .u64 n 16777215 = n % 16777216 := by
  have hm : (BitVec.ofInt 64 16777215).toNat = 2 ^ 24 - 1 := by decide
  have key : (BitVec.ofInt 64 n &&& BitVec.ofInt 64 16777215).toNat = (n % ((2 ^ 64 : Nat) : Int)).toNat % 2 ^ 24 := by
    rw [BitVec.toNat_and, BitVec.toNat_ofInt, hm, Nat.and_two_pow_sub_one_eq_mod]
  show IntKind.u64.wrap ((BitVec.ofInt 64 n &&& BitVec.ofInt 64 16777215).toNat : Nat) = n % 16777216
  rw [key, IntKind.wrap_u64]
  omega

section
variable {lo hi a : Nat} {xs : List Int} {p : Nat}
theorem pen_word {bad : Bool} (h : Pen w lo hi a xs p false bad) (k : Nat) (hb : bad = decide (xs.length < 4 * k)) (hp : ¬ xs.length < 4 * k → p = 4 * k) :
    Calls Try.prog 24 #[.pointer (some ⟨a, 0, none⟩), .int .i64 4] w fun e w' =>
      ∃ p', e = .returned (.int .u64 (wordN xs k)) ∧ Pen w' lo hi a xs p' false (decide (xs.length < 4 * (k + 1))) ∧ w.grownBy w' (some a) ∧ (¬ xs.length < 4 * (k + 1) → p' = 4 * (k + 1)) := by
  subst hb
  by_cases hk : xs.length < 4 * k
  · rw [decide_eq_true hk] at h
    refine (pen_num_no h 4 (.inl rfl)).mono ?_
    rintro e w' ⟨rfl, hp', hg⟩
    have e0 : wordN xs k = 0 := by unfold wordN; rw [if_pos (by omega)]
    rw [e0, decide_eq_true (show xs.length < 4 * (k + 1) by omega)]
    exact ⟨_, rfl, hp', hg, fun h => by omega⟩
  · have hpk := hp hk
    subst hpk
    rw [decide_eq_false hk] at h
    by_cases hk1 : xs.length < 4 * (k + 1)
    · refine (pen_num_no h 4 (.inr (.inr (by omega)))).mono ?_
      rintro e w' ⟨rfl, hp', hg⟩
      have e0 : wordN xs k = 0 := by unfold wordN; rw [if_pos hk1]
      rw [e0, decide_eq_true hk1]
      exact ⟨_, rfl, hp', hg, fun h => absurd hk1 h⟩
    · refine (pen_num h 4 (.inr (.inr (.inl rfl))) (by omega)).mono ?_
      rintro e w' ⟨rfl, hp', hg⟩
      have e0 : wordN xs k = numOf false ((xs.drop (4 * k)).take 4) := by unfold wordN; rw [if_neg hk1]; rfl
      rw [e0, decide_eq_false hk1]
      exact ⟨_, rfl, hp', hg, fun _ => by omega⟩

/-- What frontOf has by now. -/
structure FRel (w wr : World) (lo hi a : Nat) (xs : List Int) (p : Nat) (bad : Bool) (r g : Nat) (f : Fr) : Prop where
  res : FrAt wr r Fr.zero
  loc : FrAt wr g f
  pen : Pen wr lo hi a xs p false bad
  grown : w.grownBy wr none
  rlo : r < lo
  rw : w.heap.size ≤ r
  ghi : hi ≤ g
theorem FRel.step {wr w2 : World} {p2 : Nat} {bad bad2 : Bool} {r g : Nat} {f : Fr} (h : FRel w wr lo hi a xs p bad r g f) (hp : Pen w2 lo hi a xs p2 false bad2) (hg : wr.grownBy w2 (some a)) : FRel w w2 lo hi a xs p2 bad2 r g f := by
  have h1 := h.pen.lw
  have h2 := h.pen.up
  have h3 := h.rlo
  have h4 := h.rw
  have h5 := h.ghi
  exact ⟨h.res.kept hg (fun e => by injection e with e; omega), h.loc.kept hg (fun e => by injection e with e; omega), hp, grown_new h.grown hg (by omega), h3, h4, h5⟩
theorem FRel.set {wr : World} {bad : Bool} {r g : Nat} {f f' : Fr} (h : FRel w wr lo hi a xs p bad r g f) (i : Nat) (v : Value) (hf : FrAt (wr.setCell ⟨g, i, none⟩ v) g f') : FRel w (wr.setCell ⟨g, i, none⟩ v) lo hi a xs p bad r g f' := by
  have h3 := h.rlo
  have h4 := h.rw
  have h5 := h.ghi
  have h6 := h.pen.lw
  have h7 := h.pen.up
  have hg := grown_setCell (i := i) (grown_refl wr (some g)) v
  exact ⟨h.res.kept hg (fun e => by injection e with e; omega), hf, h.pen.kept hg (.inr h5), grown_new h.grown hg (by omega), h3, h4, h5⟩
end

/-- What a header says, and why it says nothing. -/
def frOf (xs : List Int) : Fr := ⟨wordN xs 2 % 16777216, wordN xs 3, wordN xs 6, wordN xs 4, wordN xs 5⟩
def frErr (xs : List Int) (n : Nat) : Int :=
  if xs.length < 32 then 3 else
  if wordN xs 0 ≠ 4277009103 then 5 else
  if wordN xs 1 ≠ 16777228 ∨ ¬ (wordN xs 2 % 16777216 = 0 ∨ wordN xs 2 % 16777216 = 2) then 6 else
  if ¬ (wordN xs 3 = 2 ∨ wordN xs 3 = 6) then 7 else
  if 256 < wordN xs 4 then 11 else
  if ¬ 32 + wordN xs 5 ≤ n then 3 else 0
structure FrOut (w w' : World) (f : Fr) (er : Int) (e : Ending) : Prop where
  no : er ≠ 0 → e = .returned (.tuple #[Fr.zero.v, .int .i64 er])
  yes : er = 0 → e = .returned (.tuple #[f.v, .int .i64 0])
  grown : w.grownBy w' none

set_option maxHeartbeats 3200000 in
set_option maxRecDepth 20000 in
theorem frontOf_any (ys : List Int) (q : Option Addr) (c n : Nat) (h : IsBytes w q c ys) (hn : ys.length = n) (hc : n ≤ c) (_hcm : c ≤ 9223372036854775807) (hn47 : n ≤ 140737488355328) (hr : Small ys) :
    Calls Try.prog 41 #[.slice q n c] w fun e w' => FrOut w w' (frOf (ys.take 32)) (frErr (ys.take 32) n) e := by
  have hq : q = none → c = 0 := fun e => by
    rcases h.ways with ⟨_, _, h⟩ | ⟨x, h, _⟩
    · exact h
    · rw [h] at e; cases e
  have Z0 : FrAt (w.alloc (.cells #[.int .i64 0, .int .i64 0, .int .u32 0, .int .u64 0, .int .u64 0] 89)) w.heap.size Fr.zero := FrAt.new w Fr.zero
  have g0 := grown1 w (.cells #[.int .i64 0, .int .i64 0, .int .u32 0, .int .u64 0, .int .u64 0] 89)
  obtain ⟨xs, hxs⟩ : ∃ xs, xs = ys.take 32 := ⟨_, rfl⟩
  have hxl : xs.length = min n 32 := by rw [hxs, List.length_take, hn]; omega
  have hsm : Small xs := by rw [hxs]; exact fun x hx => hr x (List.mem_of_mem_take hx)
  have N := Lib.hid (fun (k : Nat) (hk : xs.length = k) (w1 : World) (hg : w.grownBy w1 none) => pen_new (w := w1) (n := k) (ys := xs) (q := q) (c := c) (by
    have := (h.kept hg (by simp)).take (c' := c) 32 hq
    rw [← hxs] at this; exact this) hk (by omega) hsm false)
  rw [← hxs]
  have b0 := wordN_bd hsm 0
  have b1 := wordN_bd hsm 1
  have b2 := wordN_bd hsm 2
  have b3 := wordN_bd hsm 3
  have b4 := wordN_bd hsm 4
  have b5 := wordN_bd hsm 5
  have b6 := wordN_bd hsm 6
  have a2 := and24u _ b2
  have E0 := Lib.hid (show frErr xs n = (if xs.length < 32 then 3 else if wordN xs 0 ≠ 4277009103 then 5 else if wordN xs 1 ≠ 16777228 ∨ ¬ (wordN xs 2 % 16777216 = 0 ∨ wordN xs 2 % 16777216 = 2) then 6 else if ¬ (wordN xs 3 = 2 ∨ wordN xs 3 = 6) then 7 else if 256 < wordN xs 4 then 11 else if ¬ 32 + wordN xs 5 ≤ n then 3 else 0) from rfl)
  have F0 : Hid (frOf xs = ⟨wordN xs 2 % 16777216, wordN xs 3, wordN xs 6, wordN xs 4, wordN xs 5⟩) := Lib.hid rfl
  obtain ⟨er, her⟩ : ∃ er, er = frErr xs n := ⟨_, rfl⟩
  rw [← her] at E0 ⊢
  have ZZ := Lib.hid Z0
  have G0 := Lib.hid g0
  have XL := Lib.hid hxl
  have hmin : (min (n : Int) 32) = (xs.length : Int) := by omega
  clear Z0 g0 hxs her h hn hr
  go_enter Try.func41, Try.ntmps41
  go_wp2_with fail
  refine (N.out (min n 32) hxl _ G0.out).mono ?_
  rintro e w1 ⟨a, rfl, hp, hbel⟩
  obtain ⟨lo, hlo⟩ : ∃ lo, lo = (w.alloc (.cells #[.int .i64 0, .int .i64 0, .int .u32 0, .int .u64 0, .int .u64 0] 89)).heap.size := ⟨_, rfl⟩
  have hlo2 : w.heap.size < lo := by rw [hlo]; simp
  rw [← hlo] at hp
  obtain ⟨hi, hhi⟩ : ∃ hi, hi = w1.heap.size := ⟨_, rfl⟩
  rw [← hhi] at hp
  have R1 := Lib.hid (ZZ.out.grown (grown_below hbel none))
  have G1 := Lib.hid (grown_trans G0.out (grown_below hbel none))
  have P1 := Lib.hid hp
  have HI := Lib.hid hhi
  clear hp hbel hlo hhi N hmin
  go_wp2_with fail
  refine (pen_word P1.out 0 (by simp) (by omega)).mono ?_
  rintro e w2 ⟨p2, rfl, hp, hg, hp2⟩
  have R2 := Lib.hid (R1.out.kept hg (fun e => by injection e with e; have := P1.out.lw; omega))
  have G2 := Lib.hid (grown_new G1.out hg (by have := P1.out.lw; omega))
  have L2 := Lib.hid hg.size
  have P2 := Lib.hid hp
  have Q2 := Lib.hid hp2
  clear hp hg hp2
  go_wp2_with fail
  refine (pen_word P2.out 1 rfl Q2.out).mono ?_
  rintro e w3 ⟨p3, rfl, hp, hg, hp3⟩
  have hL3 : hi ≤ w3.heap.size := by have h1 := hg.size; have h2 := L2.out; have h3 := HI.out; omega
  have gA := grown1 w3 (.cells #[.int .i64 0, .int .i64 0, .int .u32 0, .int .u64 0, .int .u64 0] 89)
  have R3 := (R2.out.kept hg (fun e => by injection e with e; have := P2.out.lw; omega)).grown gA
  have G3 := grown_trans (grown_new G2.out hg (by have := P2.out.lw; omega)) gA
  have K3 := Lib.hid (show FRel w (w3.alloc (.cells #[.int .i64 0, .int .i64 0, .int .u32 0, .int .u64 0, .int .u64 0] 89)) lo hi a xs p3 (decide (xs.length < 4 * (1 + 1))) w.heap.size w3.heap.size Fr.zero from
    ⟨R3, FrAt.new w3 Fr.zero, hp.same gA, G3, hlo2, Nat.le_refl _, hL3⟩)
  have Q3 := Lib.hid hp3
  clear hp hg hp3 gA R3 G3 hL3
  go_wp2_with fail
  generalize hX3 : w3.alloc _ = X3 at *
  clear hX3
  refine (pen_word K3.out.pen 2 rfl Q3.out).mono ?_
  rintro e w4 ⟨p4, rfl, hp, hg, hp4⟩
  have hK := K3.out.step hp hg
  have l0 := hK.loc.c0
  have f0 := hK.loc.fz 0
  have hlt := hK.loc.lt
  have K4 := Lib.hid (hK.set 0 (.int .i64 (wordN xs 2 % 16777216)) (hK.loc.set0 (wordN xs 2 % 16777216)))
  have Q4 := Lib.hid hp4
  clear hp hg hp4 hK
  go_wp2_with fail
  refine (pen_word K4.out.pen 3 rfl Q4.out).mono ?_
  rintro e w5 ⟨p5, rfl, hp, hg, hp5⟩
  have hK := K4.out.step hp hg
  have l1 := hK.loc.c1
  have f1 := hK.loc.fz 1
  have hlt := hK.loc.lt
  have K5 := Lib.hid (hK.set 1 (.int .i64 (wordN xs 3)) (hK.loc.set1 (wordN xs 3)))
  have Q5 := Lib.hid hp5
  clear hp hg hp5 hK
  go_wp2_with fail
  refine (pen_word K5.out.pen 4 rfl Q5.out).mono ?_
  rintro e w6 ⟨p6, rfl, hp, hg, hp6⟩
  have hK := K5.out.step hp hg
  have l3 := hK.loc.c3
  have f3 := hK.loc.fz 3
  have hlt := hK.loc.lt
  have K6 := Lib.hid (hK.set 3 (.int .u64 (wordN xs 4)) (hK.loc.set3 (wordN xs 4)))
  have Q6 := Lib.hid hp6
  clear hp hg hp6 hK
  go_wp2_with fail
  refine (pen_word K6.out.pen 5 rfl Q6.out).mono ?_
  rintro e w7 ⟨p7, rfl, hp, hg, hp7⟩
  have hK := K6.out.step hp hg
  have l4 := hK.loc.c4
  have f4 := hK.loc.fz 4
  have hlt := hK.loc.lt
  have K7 := Lib.hid (hK.set 4 (.int .u64 (wordN xs 5)) (hK.loc.set4 (wordN xs 5)))
  have Q7 := Lib.hid hp7
  clear hp hg hp7 hK
  go_wp2_with fail
  refine (pen_word K7.out.pen 6 rfl Q7.out).mono ?_
  rintro e w8 ⟨p8, rfl, hp, hg, hp8⟩
  have hK := K7.out.step hp hg
  have l2 := hK.loc.c2
  have f2 := hK.loc.fz 2
  have hlt := hK.loc.lt
  have K8 := Lib.hid (hK.set 2 (.int .u32 (wordN xs 6)) (hK.loc.set2 (wordN xs 6)))
  have Q8 := Lib.hid hp8
  clear hp hg hp8 hK
  go_wp2_with fail
  refine (pen_word K8.out.pen 7 rfl Q8.out).mono ?_
  rintro e w9 ⟨p9, rfl, hp, hg, hp9⟩
  have K9 := Lib.hid (K8.out.step hp hg)
  have RZ := Lib.hid K9.out.res
  have GZ := Lib.hid K9.out.grown
  have PZ := Lib.hid hp
  clear hp hg hp9
  by_cases hsh : xs.length < 32
  · have ER := Lib.hid (show er = 3 by rw [E0.out, if_pos hsh])
    have WR := Lib.hid (wrong_yes (w := w9) (by have := PZ.out; rwa [decide_eq_true (show xs.length < 4 * (7 + 1) from hsh)] at this))
    clear hsh
    go_wp2_with fail
    refine WR.out.mono ?_
    rintro e w10 ⟨b, rfl, hb, hg⟩
    have RZ := Lib.hid (RZ.out.grown hg)
    have GZ := Lib.hid (grown_trans GZ.out hg)
    have IS := Lib.hid (is_wrong b 3 w10 hb)
    clear hb hg
    go_wp2_with fail
    refine IS.out.mono ?_
    rintro e w11 ⟨rfl, rfl⟩
    have r0 := RZ.out.c0
    have r1 := RZ.out.c1
    have r2 := RZ.out.c2
    have r3 := RZ.out.c3
    have r4 := RZ.out.c4
    have y0 := RZ.out.fz 0
    have y1 := RZ.out.fz 1
    have y2 := RZ.out.fz 2
    have y3 := RZ.out.fz 3
    have y4 := RZ.out.fz 4
    have hlt := RZ.out.lt
    go_wp2
    refine bodyPost_ret (results_fr (v := .int .i64 3) (f := Fr.zero) rfl rfl rfl (RZ.out.put Fr.zero)) rfl ?_
    exact ⟨fun _ => by rw [ER.out], fun h => by rw [ER.out] at h; omega, grown_new GZ.out (grown_put5 (grown_refl _ _) _ _ _ _ _) (Nat.le_refl _)⟩
  · have WR := Lib.hid (wrong_no (w := w9) (by have := PZ.out; rwa [decide_eq_false (show ¬ xs.length < 4 * (7 + 1) from hsh)] at this))
    have E1 := Lib.hid (E0.out.trans (if_neg hsh))
    clear hsh
    go_wp2_with fail
    refine WR.out.mono ?_
    rintro e w10 ⟨rfl, rfl⟩
    go_wp2_with fail
    refine (is_nil 3 w9).mono ?_
    rintro e w11 ⟨rfl, rfl⟩
    by_cases h0 : wordN xs 0 ≠ 4277009103
    · have ER := Lib.hid (E1.out.trans (if_pos h0))
      have d0 : (wordN xs 0 != 4277009103) = true := by simpa using h0
      clear h0
      have r0 := RZ.out.c0
      have r1 := RZ.out.c1
      have r2 := RZ.out.c2
      have r3 := RZ.out.c3
      have r4 := RZ.out.c4
      have y0 := RZ.out.fz 0
      have y1 := RZ.out.fz 1
      have y2 := RZ.out.fz 2
      have y3 := RZ.out.fz 3
      have y4 := RZ.out.fz 4
      have hlt := RZ.out.lt
      go_wp2
      refine bodyPost_ret (results_fr (v := .int .i64 5) (f := Fr.zero) rfl rfl rfl (RZ.out.put Fr.zero)) rfl ?_
      exact ⟨fun _ => by rw [ER.out], fun h => by rw [ER.out] at h; omega, grown_new GZ.out (grown_put5 (grown_refl _ _) _ _ _ _ _) (Nat.le_refl _)⟩
    · have E2 := Lib.hid (E1.out.trans (if_neg h0))
      have d0 : (wordN xs 0 != 4277009103) = false := by simpa using h0
      clear h0
      by_cases h1 : wordN xs 1 ≠ 16777228
      · have ER := Lib.hid (E2.out.trans (if_pos (.inl h1)))
        have d1 : (wordN xs 1 != 16777228) = true := by simpa using h1
        clear h1
        have r0 := RZ.out.c0
        have r1 := RZ.out.c1
        have r2 := RZ.out.c2
        have r3 := RZ.out.c3
        have r4 := RZ.out.c4
        have y0 := RZ.out.fz 0
        have y1 := RZ.out.fz 1
        have y2 := RZ.out.fz 2
        have y3 := RZ.out.fz 3
        have y4 := RZ.out.fz 4
        have hlt := RZ.out.lt
        go_wp2
        refine bodyPost_ret (results_fr (v := .int .i64 6) (f := Fr.zero) rfl rfl rfl (RZ.out.put Fr.zero)) rfl ?_
        exact ⟨fun _ => by rw [ER.out], fun h => by rw [ER.out] at h; omega, grown_new GZ.out (grown_put5 (grown_refl _ _) _ _ _ _ _) (Nat.le_refl _)⟩
      · have d1 : (wordN xs 1 != 16777228) = false := by simpa using h1
        have l0 := K9.out.loc.c0
        have SM := Lib.hid (submay_any (w := w9) (wordN xs 2 % 16777216))
        by_cases h2 : wordN xs 2 % 16777216 = 0 ∨ wordN xs 2 % 16777216 = 2
        · have E3 := Lib.hid (E2.out.trans (if_neg (by rintro (h | h); exact h1 h; exact h h2)))
          rw [decide_eq_true h2] at SM
          have l1 := K9.out.loc.c1
          have KM := Lib.hid (kindmay_any (w := w9) (wordN xs 3))
          clear h1 h2
          go_wp2_with fail
          refine SM.out.mono ?_
          rintro e w11 ⟨rfl, rfl⟩
          by_cases h3 : wordN xs 3 = 2 ∨ wordN xs 3 = 6
          · have E4 := Lib.hid (E3.out.trans (if_neg (fun h => h h3)))
            rw [decide_eq_true h3] at KM
            have l3 := K9.out.loc.c3
            clear h3
            go_wp2_with fail
            refine KM.out.mono ?_
            rintro e w11 ⟨rfl, rfl⟩
            by_cases h4 : 256 < wordN xs 4
            · have ER := Lib.hid (E4.out.trans (if_pos h4))
              have d4 : decide (256 < wordN xs 4) = true := decide_eq_true h4
              clear h4
              have r0 := RZ.out.c0
              have r1 := RZ.out.c1
              have r2 := RZ.out.c2
              have r3 := RZ.out.c3
              have r4 := RZ.out.c4
              have y0 := RZ.out.fz 0
              have y1 := RZ.out.fz 1
              have y2 := RZ.out.fz 2
              have y3 := RZ.out.fz 3
              have y4 := RZ.out.fz 4
              have hlt := RZ.out.lt
              go_wp2
              refine bodyPost_ret (results_fr (v := .int .i64 11) (f := Fr.zero) rfl rfl rfl (RZ.out.put Fr.zero)) rfl ?_
              exact ⟨fun _ => by rw [ER.out], fun h => by rw [ER.out] at h; omega, grown_new GZ.out (grown_put5 (grown_refl _ _) _ _ _ _ _) (Nat.le_refl _)⟩
            · have E5 := Lib.hid (E4.out.trans (if_neg h4))
              have d4 : decide (256 < wordN xs 4) = false := decide_eq_false h4
              have l4 := K9.out.loc.c4
              have WI := Lib.hid (withini_any 32 (wordN xs 5) n (by decide) ⟨by omega, by omega⟩ ⟨by omega, by omega⟩ w9)
              have u0 : (n : Int) % 18446744073709551616 = n := by omega
              have u1 : IntKind.u64.wrap (n : Int) = n := by rw [IntKind.wrap_u64]; exact u0
              clear h4
              by_cases h5 : 32 + wordN xs 5 ≤ n
              · have ER := Lib.hid (E5.out.trans (if_neg (by omega)))
                rw [decide_eq_true h5] at WI
                have l2 := K9.out.loc.c2
                clear h5
                go_wp2_with fail
                refine WI.out.mono ?_
                rintro e w11 ⟨rfl, rfl⟩
                have r0 := RZ.out.c0
                have r1 := RZ.out.c1
                have r2 := RZ.out.c2
                have r3 := RZ.out.c3
                have r4 := RZ.out.c4
                have y0 := RZ.out.fz 0
                have y1 := RZ.out.fz 1
                have y2 := RZ.out.fz 2
                have y3 := RZ.out.fz 3
                have y4 := RZ.out.fz 4
                have hlt := RZ.out.lt
                go_wp2
                refine bodyPost_ret (results_fr (v := .int .i64 0) (f := frOf xs) rfl rfl rfl (RZ.out.put (frOf xs))) rfl ?_
                exact ⟨fun h => absurd ER.out h, fun _ => rfl, grown_new GZ.out (grown_put5 (grown_refl _ _) _ _ _ _ _) (Nat.le_refl _)⟩
              · have ER := Lib.hid (E5.out.trans (if_pos (by omega)))
                rw [decide_eq_false h5] at WI
                clear h5
                go_wp2_with fail
                refine WI.out.mono ?_
                rintro e w11 ⟨rfl, rfl⟩
                have r0 := RZ.out.c0
                have r1 := RZ.out.c1
                have r2 := RZ.out.c2
                have r3 := RZ.out.c3
                have r4 := RZ.out.c4
                have y0 := RZ.out.fz 0
                have y1 := RZ.out.fz 1
                have y2 := RZ.out.fz 2
                have y3 := RZ.out.fz 3
                have y4 := RZ.out.fz 4
                have hlt := RZ.out.lt
                go_wp2
                refine bodyPost_ret (results_fr (v := .int .i64 3) (f := Fr.zero) rfl rfl rfl (RZ.out.put Fr.zero)) rfl ?_
                exact ⟨fun _ => by rw [ER.out], fun h => by rw [ER.out] at h; omega, grown_new GZ.out (grown_put5 (grown_refl _ _) _ _ _ _ _) (Nat.le_refl _)⟩
          · have ER := Lib.hid (E3.out.trans (if_pos h3))
            rw [decide_eq_false h3] at KM
            clear h3
            go_wp2_with fail
            refine KM.out.mono ?_
            rintro e w11 ⟨rfl, rfl⟩
            have r0 := RZ.out.c0
            have r1 := RZ.out.c1
            have r2 := RZ.out.c2
            have r3 := RZ.out.c3
            have r4 := RZ.out.c4
            have y0 := RZ.out.fz 0
            have y1 := RZ.out.fz 1
            have y2 := RZ.out.fz 2
            have y3 := RZ.out.fz 3
            have y4 := RZ.out.fz 4
            have hlt := RZ.out.lt
            go_wp2
            refine bodyPost_ret (results_fr (v := .int .i64 7) (f := Fr.zero) rfl rfl rfl (RZ.out.put Fr.zero)) rfl ?_
            exact ⟨fun _ => by rw [ER.out], fun h => by rw [ER.out] at h; omega, grown_new GZ.out (grown_put5 (grown_refl _ _) _ _ _ _ _) (Nat.le_refl _)⟩
        · have ER := Lib.hid (E2.out.trans (if_pos (.inr h2)))
          rw [decide_eq_false h2] at SM
          clear h1 h2
          go_wp2_with fail
          refine SM.out.mono ?_
          rintro e w11 ⟨rfl, rfl⟩
          have r0 := RZ.out.c0
          have r1 := RZ.out.c1
          have r2 := RZ.out.c2
          have r3 := RZ.out.c3
          have r4 := RZ.out.c4
          have y0 := RZ.out.fz 0
          have y1 := RZ.out.fz 1
          have y2 := RZ.out.fz 2
          have y3 := RZ.out.fz 3
          have y4 := RZ.out.fz 4
          have hlt := RZ.out.lt
          go_wp2
          refine bodyPost_ret (results_fr (v := .int .i64 6) (f := Fr.zero) rfl rfl rfl (RZ.out.put Fr.zero)) rfl ?_
          exact ⟨fun _ => by rw [ER.out], fun h => by rw [ER.out] at h; omega, grown_new GZ.out (grown_put5 (grown_refl _ _) _ _ _ _ _) (Nat.le_refl _)⟩
end Go.Proofs.Ytemdbfgpimfkdaa
