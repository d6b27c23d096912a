/- A fat file's entry: what it says, and the call that takes it. No condition. -/
import Derived.Test.YtdjakaiadggemaaSl
import Derived.Test.YtdjakaiadggemaaPenC
namespace Go.Proofs.Ytdjakaiadggemaa
open Go.RowKit
variable {w w' : World} {lo hi a : Nat} {xs : List Int} {p : Nat} {big bad : Bool}

def esize (wide : Bool) : Nat := if wide then 32 else 20
def plc (wide : Bool) : Nat := if wide then 8 else 4
def rst (wide : Bool) : Nat := if wide then 4 else 0
def magicOf (wide : Bool) : ByteArray := if wide then ⟨#[202, 254, 186, 191]⟩ else ⟨#[202, 254, 186, 190]⟩
def at' (xs : List Int) (p n : Nat) : Int := beN ((xs.drop p).take n)
def entry (wide : Bool) (xs : List Int) (p : Nat) : Sl :=
  ⟨at' xs p 4, at' xs (p + 4) 4, at' xs (p + 8) (plc wide), at' xs (p + 8 + plc wide) (plc wide), at' xs (p + 8 + 2 * plc wide) 4⟩
theorem at_bd (h : Small xs) (p n : Nat) : 0 ≤ at' xs p n ∧ at' xs p n < 2 ^ (8 * ((xs.drop p).take n).length) :=
  beN_bd _ (fun x hx => h x (List.mem_of_mem_drop (List.mem_of_mem_take hx)))
theorem at_bd4 (h : Small xs) (p : Nat) : 0 ≤ at' xs p 4 ∧ at' xs p 4 < 4294967296 := by
  have h1 := at_bd h p 4
  have h2 : ((xs.drop p).take 4).length ≤ 4 := by simp; omega
  have h3 : (2 : Int) ^ (8 * ((xs.drop p).take 4).length) ≤ 2 ^ 32 := by
    have : (2 : Nat) ^ (8 * ((xs.drop p).take 4).length) ≤ 2 ^ 32 := Nat.pow_le_pow_right (by decide) (by omega)
    exact_mod_cast this
  exact ⟨h1.1, Int.lt_of_lt_of_le h1.2 h3⟩
theorem at_bd8 (h : Small xs) (p n : Nat) (hn : n ≤ 8) : 0 ≤ at' xs p n ∧ at' xs p n < 18446744073709551616 := by
  have h1 := at_bd h p n
  have h2 : ((xs.drop p).take n).length ≤ 8 := by simp; omega
  have h3 : (2 : Int) ^ (8 * ((xs.drop p).take n).length) ≤ 2 ^ 64 := by
    have : (2 : Nat) ^ (8 * ((xs.drop p).take n).length) ≤ 2 ^ 64 := Nat.pow_le_pow_right (by decide) (by omega)
    exact_mod_cast this
  exact ⟨h1.1, Int.lt_of_lt_of_le h1.2 h3⟩
theorem plc_le (wide : Bool) : plc wide ≤ 8 := by cases wide <;> decide
theorem entry_fits (h : Small xs) (wide : Bool) (p : Nat) : (entry wide xs p).Fits := by
  refine ⟨at_bd4 h _, at_bd4 h _, at_bd8 h _ _ (plc_le _), at_bd8 h _ _ (plc_le _), ?_⟩
  have := at_bd4 h (p + 8 + 2 * plc wide)
  show -9223372036854775808 ≤ at' xs (p + 8 + 2 * plc wide) 4 ∧ at' xs (p + 8 + 2 * plc wide) 4 ≤ 9223372036854775807
  omega
def shapeV (wide : Bool) : Value := .agg #[.string (magicOf wide), .int .i64 (plc wide), .int .i64 (rst wide)]

theorem shapeOf_any (wide : Bool) :
    Calls Try.prog 22 #[.bool wide] w fun e w' => e = .returned (shapeV wide) ∧ w.grownBy w' none := by
  cases wide
  · go_enter Try.func22, Try.ntmps22
    go_wp2
    refine bodyPost_ret (v := shapeV false) (by simp [results, Try.results22, go_sem, shapeV, magicOf, plc, rst]) rfl ?_
    exact ⟨rfl, grown1 _ _⟩
  · go_enter Try.func22, Try.ntmps22
    go_wp2
    refine bodyPost_ret (v := shapeV true) (by simp [results, Try.results22, go_sem, shapeV, magicOf, plc, rst]) rfl ?_
    exact ⟨rfl, grown1 _ _⟩

/-- What the call has taken so far. -/
structure TRel (w wr : World) (lo hi a : Nat) (xs : List Int) (p : Nat) (bad : Bool) (wide : Bool) (s : Sl) : Prop where
  shape : wr.heap[w.heap.size]? = some (.cells #[.string (magicOf wide), .int .i64 (plc wide), .int .i64 (rst wide)] 62 (0, 0))
  res : SlAt wr (w.heap.size + 1) Sl.zero
  loc : SlAt wr (w.heap.size + 1 + 1) s
  pen : Pen wr lo hi a xs p true bad
  grown : w.grownBy wr (some a)
  up : a < w.heap.size
  sz : hi ≤ w.heap.size
section
variable {w wr w2 : World} {s : Sl} {wide : Bool} {p2 : Nat} {bad2 : Bool}
theorem TRel.s1 (h : TRel w wr lo hi a xs p bad wide s) : wr.cell? ⟨w.heap.size, 1, none⟩ = some (.int .i64 (plc wide)) := by rw [cell_of h.shape]; rfl
theorem TRel.s2 (h : TRel w wr lo hi a xs p bad wide s) : wr.cell? ⟨w.heap.size, 2, none⟩ = some (.int .i64 (rst wide)) := by rw [cell_of h.shape]; rfl
theorem TRel.step (h : TRel w wr lo hi a xs p bad wide s) (hp : Pen w2 lo hi a xs p2 true bad2) (hg : wr.grownBy w2 (some a)) : TRel w w2 lo hi a xs p2 bad2 wide s :=
  ⟨(hg.block _ (lt_of_block h.shape) (fun e => by injection e with e; have := h.up; omega)).trans h.shape, h.res.kept hg (fun e => by injection e with e; have := h.up; omega), h.loc.kept hg (fun e => by injection e with e; have := h.up; omega), hp, grown_trans h.grown hg, h.up, h.sz⟩
theorem TRel.set (h : TRel w wr lo hi a xs p bad wide s) (i : Nat) (v : Value) {t : Sl} (ht : SlAt (wr.setCell ⟨w.heap.size + 1 + 1, i, none⟩ v) (w.heap.size + 1 + 1) t) : TRel w (wr.setCell ⟨w.heap.size + 1 + 1, i, none⟩ v) lo hi a xs p bad wide t := by
  have hg := grown_setCell (i := i) (grown_refl wr (some (w.heap.size + 1 + 1))) v
  refine ⟨(hg.block _ (lt_of_block h.shape) (fun e => by injection e with e; omega)).trans h.shape, h.res.kept hg (fun e => by injection e with e; omega), ht, h.pen.kept hg (.inr (by have := h.sz; omega)), ?_, h.up, h.sz⟩
  exact ⟨h.grown.os, h.grown.tape, h.grown.output, by simpa using h.grown.size, fun k hk hr => (hg.block k (Nat.lt_of_lt_of_le hk h.grown.size) (fun e => by injection e with e; omega)).trans (h.grown.block k hk hr)⟩
theorem TRel.done (h : TRel w wr lo hi a xs p bad wide s) (t : Sl) : 
    let W := ((((wr.setCell ⟨w.heap.size + 1, 0, none⟩ (.int .u32 t.cpu)).setCell ⟨w.heap.size + 1, 1, none⟩ (.int .u32 t.sub)).setCell ⟨w.heap.size + 1, 2, none⟩ (.int .u64 t.off)).setCell ⟨w.heap.size + 1, 3, none⟩ (.int .u64 t.size)).setCell ⟨w.heap.size + 1, 4, none⟩ (.int .i64 t.align)
    SlAt W (w.heap.size + 1) t ∧ Pen W lo hi a xs p true bad ∧ w.grownBy W (some a) := by
  have hg := grown_put (w := wr) (w' := wr) (g := w.heap.size + 1) (grown_refl _ _) (.int .u32 t.cpu) (.int .u32 t.sub) (.int .u64 t.off) (.int .u64 t.size) (.int .i64 t.align)
  refine ⟨h.res.put t, h.pen.kept hg (.inr (by have := h.sz; omega)), ?_⟩
  exact ⟨hg.os.trans h.grown.os, hg.tape.trans h.grown.tape, hg.output.trans h.grown.output, Nat.le_trans h.grown.size hg.size, fun k hk hr => (hg.block k (Nat.lt_of_lt_of_le hk h.grown.size) (fun e => by injection e with e; omega)).trans (h.grown.block k hk hr)⟩
end

theorem results_sl1 {fn : Func} {p : Tmp} {g : Nat} {s : Sl} (hr : fn.results = #[.cell p 42]) {tmps : Array Value} (hp : tmps.getD p undef = .pointer (some ⟨g, 0, none⟩)) (h : SlAt w g s) :
    (results fn tmps).run Try.prog w = .ok s.v w :=
  results_cell_row hr tmps w g _ _ _ _ hp h Try.underlying42 rfl (by kernel_rfl)

theorem trel_start (h : Pen w lo hi a xs p true bad) (wide : Bool) (A B C : Obj)
    (hA : A = .cells #[.string (magicOf wide), .int .i64 (plc wide), .int .i64 (rst wide)] 62)
    (hB : B = .cells #[.int .u32 0, .int .u32 0, .int .u64 0, .int .u64 0, .int .i64 0] 42) (hC : C = B) :
    TRel w (((w.alloc A).alloc B).alloc C) lo hi a xs p bad wide Sl.zero := by
  subst hA hB hC
  have h1 : (w.alloc (.cells #[.string (magicOf wide), .int .i64 (plc wide), .int .i64 (rst wide)] 62)).heap.size = w.heap.size + 1 := by simp
  refine ⟨?_, ?_, ?_, h.same (grown_alloc (grown2 _ _ _) _), grown_any (grown_alloc (grown2 _ _ _) _) _, h.lt, h.sz⟩
  · exact ((grown2 _ _ _).block _ (by simp) (by simp)).trans (heap_alloc_new _ _)
  · have := (SlAt.new (w.alloc (.cells #[.string (magicOf wide), .int .i64 (plc wide), .int .i64 (rst wide)] 62)) Sl.zero).grown (grown1 _ (.cells #[.int .u32 0, .int .u32 0, .int .u64 0, .int .u64 0, .int .i64 0] 42))
    rw [h1] at this
    exact this
  · have := SlAt.new ((w.alloc (.cells #[.string (magicOf wide), .int .i64 (plc wide), .int .i64 (rst wide)] 62)).alloc (.cells #[.int .u32 0, .int .u32 0, .int .u64 0, .int .u64 0, .int .i64 0] 42)) Sl.zero
    rw [show ((w.alloc (.cells #[.string (magicOf wide), .int .i64 (plc wide), .int .i64 (rst wide)] 62)).alloc (.cells #[.int .u32 0, .int .u32 0, .int .u64 0, .int .u64 0, .int .i64 0] 42)).heap.size = w.heap.size + 1 + 1 by simp] at this
    exact this

theorem pen_at' (h : Pen w lo hi a xs p true false) (n : Nat) (hs : n = 4 ∨ n = 8) (hn : p + n ≤ xs.length) :
    Calls Try.prog 40 #[.pointer (some ⟨a, 0, none⟩), .int .i64 n] w fun e w' =>
      e = .returned (.int .u64 (at' xs p n)) ∧ Pen w' lo hi a xs (p + n) true false ∧ w.grownBy w' (some a) := pen_num h n (by omega) hn
theorem at_mod (h : Small xs) (p : Nat) : at' xs p 4 % 4294967296 = at' xs p 4 := by have := at_bd4 h p; omega
theorem at_wrap (h : Small xs) (p : Nat) : wrap64 (at' xs p 4) = at' xs p 4 := by have := at_bd4 h p; unfold wrap64; omega

/-- An entry that is there. -/
theorem take_entry (h : Pen w lo hi a xs p true false) (wide : Bool) (hn : p + esize wide ≤ xs.length) :
    Calls Try.prog 42 #[shapeV wide, .pointer (some ⟨a, 0, none⟩)] w fun e w' =>
      e = .returned (entry wide xs p).v ∧ Pen w' lo hi a xs (p + esize wide) true false ∧ w.grownBy w' (some a) := by
  have T := Lib.hid (fun A B C hA hB hC => trel_start h wide A B C hA hB hC)
  have m0 := at_mod h.small p
  have m1 := at_mod h.small (p + 4)
  have m4 := at_wrap h.small (p + 8 + 2 * plc wide)
  have hE := Lib.hid (show entry wide xs p = ⟨at' xs p 4, at' xs (p + 4) 4, at' xs (p + 8) (plc wide), at' xs (p + 8 + plc wide) (plc wide), at' xs (p + 8 + 2 * plc wide) 4⟩ from rfl)
  clear h
  cases wide
  · simp only [esize, plc, if_false, Bool.false_eq_true] at hn m4
    rw [show p + 8 + 2 * 4 = p + 4 + 4 + 4 + 4 by omega] at m4
    unfold shapeV
    simp only [plc, rst, magicOf, if_false, Bool.false_eq_true] at T ⊢
    go_enter Try.func42, Try.ntmps42
    go_wp2_with fail
    have R := T.out _ _ _ rfl rfl rfl
    refine (pen_at' R.pen 4 (by omega) (by omega)).mono ?_
    rintro e w1 ⟨rfl, hp, hg⟩
    have R1 := R.step hp hg
    clear hp hg
    have c0 := R1.loc.c0
    have f0 := R1.loc.f 0
    go_wp2_with fail
    have Q1 := R1.set 0 _ (R1.loc.set0 (at' xs (p) 4))
    clear R1 c0 f0
    refine (pen_at' Q1.pen 4 (by omega) (by omega)).mono ?_
    rintro e w2 ⟨rfl, hp, hg⟩
    have R2 := Q1.step hp hg
    clear hp hg
    have c1 := R2.loc.c1
    have f1 := R2.loc.f 1
    have sh := R2.s1
    simp only [plc, if_false, Bool.false_eq_true] at sh
    go_wp2_with fail
    have Q2 := R2.set 1 _ (R2.loc.set1 (at' xs (p + 4) 4))
    clear R2 c1 f1 sh
    refine (pen_at' Q2.pen 4 (by omega) (by omega)).mono ?_
    rintro e w3 ⟨rfl, hp, hg⟩
    have R3 := Q2.step hp hg
    clear hp hg
    have c2 := R3.loc.c2
    have f2 := R3.loc.f 2
    have sh := R3.s1
    simp only [plc, if_false, Bool.false_eq_true] at sh
    go_wp2_with fail
    have Q3 := R3.set 2 _ (R3.loc.set2 (at' xs (p + 4 + 4) 4))
    clear R3 c2 f2 sh
    refine (pen_at' Q3.pen 4 (by omega) (by omega)).mono ?_
    rintro e w4 ⟨rfl, hp, hg⟩
    have R4 := Q3.step hp hg
    clear hp hg
    have c3 := R4.loc.c3
    have f3 := R4.loc.f 3
    go_wp2_with fail
    have Q4 := R4.set 3 _ (R4.loc.set3 (at' xs (p + 4 + 4 + 4) 4))
    clear R4 c3 f3
    refine (pen_at' Q4.pen 4 (by omega) (by omega)).mono ?_
    rintro e w5 ⟨rfl, hp, hg⟩
    have R5 := Q4.step hp hg
    clear hp hg
    have c4 := R5.loc.c4
    have f4 := R5.loc.f 4
    have sh := R5.s2
    simp only [rst, if_false, Bool.false_eq_true] at sh
    go_wp2_with fail
    have Q5 := R5.set 4 _ (R5.loc.set4 (at' xs (p + 4 + 4 + 4 + 4) 4))
    clear R5 c4 f4 sh
    refine (pen_bytes_any Q5.pen 0).mono ?_
    rintro e w6 ⟨q, m, c, p', bad', rfl, hp, hg, hh⟩
    have R6 := Q5.step hp hg
    clear hp hg
    have c0 := R6.loc.c0
    have c1 := R6.loc.c1
    have c2 := R6.loc.c2
    have c3 := R6.loc.c3
    have c4 := R6.loc.c4
    have z0 := R6.res.c0
    have z1 := R6.res.c1
    have z2 := R6.res.c2
    have z3 := R6.res.c3
    have z4 := R6.res.c4
    have f0 := R6.res.f 0
    have f1 := R6.res.f 1
    have f2 := R6.res.f 2
    have f3 := R6.res.f 3
    have f4 := R6.res.f 4
    have D := Lib.hid (R6.done (entry false xs p))
    have HH := Lib.hid hh
    clear R6 hh
    go_wp2
    refine bodyPost_ret (results_sl1 rfl rfl D.out.1) rfl ?_
    obtain ⟨-, dp, dg⟩ := D.out
    rcases HH.out with ⟨rfl, h | h⟩ | ⟨_, rfl, rfl⟩
    · cases h
    · omega
    · exact ⟨rfl, dp, dg⟩
  · simp only [esize, plc, if_true] at hn m4
    rw [show p + 8 + 2 * 8 = p + 4 + 4 + 8 + 8 by omega] at m4
    unfold shapeV
    simp only [plc, rst, magicOf, if_true] at T ⊢
    go_enter Try.func42, Try.ntmps42
    go_wp2_with fail
    have R := T.out _ _ _ rfl rfl rfl
    refine (pen_at' R.pen 4 (by omega) (by omega)).mono ?_
    rintro e w1 ⟨rfl, hp, hg⟩
    have R1 := R.step hp hg
    clear hp hg
    have c0 := R1.loc.c0
    have f0 := R1.loc.f 0
    go_wp2_with fail
    have Q1 := R1.set 0 _ (R1.loc.set0 (at' xs (p) 4))
    clear R1 c0 f0
    refine (pen_at' Q1.pen 4 (by omega) (by omega)).mono ?_
    rintro e w2 ⟨rfl, hp, hg⟩
    have R2 := Q1.step hp hg
    clear hp hg
    have c1 := R2.loc.c1
    have f1 := R2.loc.f 1
    have sh := R2.s1
    simp only [plc, if_true] at sh
    go_wp2_with fail
    have Q2 := R2.set 1 _ (R2.loc.set1 (at' xs (p + 4) 4))
    clear R2 c1 f1 sh
    refine (pen_at' Q2.pen 8 (by omega) (by omega)).mono ?_
    rintro e w3 ⟨rfl, hp, hg⟩
    have R3 := Q2.step hp hg
    clear hp hg
    have c2 := R3.loc.c2
    have f2 := R3.loc.f 2
    have sh := R3.s1
    simp only [plc, if_true] at sh
    go_wp2_with fail
    have Q3 := R3.set 2 _ (R3.loc.set2 (at' xs (p + 4 + 4) 8))
    clear R3 c2 f2 sh
    refine (pen_at' Q3.pen 8 (by omega) (by omega)).mono ?_
    rintro e w4 ⟨rfl, hp, hg⟩
    have R4 := Q3.step hp hg
    clear hp hg
    have c3 := R4.loc.c3
    have f3 := R4.loc.f 3
    go_wp2_with fail
    have Q4 := R4.set 3 _ (R4.loc.set3 (at' xs (p + 4 + 4 + 8) 8))
    clear R4 c3 f3
    refine (pen_at' Q4.pen 4 (by omega) (by omega)).mono ?_
    rintro e w5 ⟨rfl, hp, hg⟩
    have R5 := Q4.step hp hg
    clear hp hg
    have c4 := R5.loc.c4
    have f4 := R5.loc.f 4
    have sh := R5.s2
    simp only [rst, if_true] at sh
    go_wp2_with fail
    have Q5 := R5.set 4 _ (R5.loc.set4 (at' xs (p + 4 + 4 + 8 + 8) 4))
    clear R5 c4 f4 sh
    refine (pen_bytes_any Q5.pen 4).mono ?_
    rintro e w6 ⟨q, m, c, p', bad', rfl, hp, hg, hh⟩
    have R6 := Q5.step hp hg
    clear hp hg
    have c0 := R6.loc.c0
    have c1 := R6.loc.c1
    have c2 := R6.loc.c2
    have c3 := R6.loc.c3
    have c4 := R6.loc.c4
    have z0 := R6.res.c0
    have z1 := R6.res.c1
    have z2 := R6.res.c2
    have z3 := R6.res.c3
    have z4 := R6.res.c4
    have f0 := R6.res.f 0
    have f1 := R6.res.f 1
    have f2 := R6.res.f 2
    have f3 := R6.res.f 3
    have f4 := R6.res.f 4
    have D := Lib.hid (R6.done (entry true xs p))
    have HH := Lib.hid hh
    clear R6 hh
    go_wp2
    refine bodyPost_ret (results_sl1 rfl rfl D.out.1) rfl ?_
    obtain ⟨-, dp, dg⟩ := D.out
    rcases HH.out with ⟨rfl, h | h⟩ | ⟨_, rfl, rfl⟩
    · cases h
    · omega
    · exact ⟨rfl, dp, dg⟩

/-- One that is not there: whatever was taken, it has failed. -/
theorem take_fails (h : Pen w lo hi a xs p true bad) (wide : Bool) (hn : bad = true ∨ xs.length < p + esize wide) :
    Calls Try.prog 42 #[shapeV wide, .pointer (some ⟨a, 0, none⟩)] w fun e w' =>
      ∃ (s : Sl) (p' : Nat), e = .returned s.v ∧ Pen w' lo hi a xs p' true true ∧ w.grownBy w' (some a) := by
  have T := Lib.hid (fun A B C hA hB hC => trel_start h wide A B C hA hB hC)
  have hle := h.le
  clear h
  cases wide
  · simp only [esize, if_false, Bool.false_eq_true] at hn
    unfold shapeV
    simp only [plc, rst, magicOf, if_false, Bool.false_eq_true] at T ⊢
    go_enter Try.func42, Try.ntmps42
    go_wp2_with fail
    have R := T.out _ _ _ rfl rfl rfl
    refine (pen_num_any R.pen 4 (by omega)).mono ?_
    rintro e w1 ⟨m1, p1, b1, rfl, hp, hg, hh⟩
    have R1 := R.step hp hg
    have H1 := Lib.hid hh
    clear hp hg hh
    have c0 := R1.loc.c0
    have f0 := R1.loc.f 0
    go_wp2_with fail
    have Q1 := R1.set 0 _ (R1.loc.set0 (m1 % 4294967296))
    clear R1 c0 f0
    refine (pen_num_any Q1.pen 4 (by omega)).mono ?_
    rintro e w2 ⟨m2, p2, b2, rfl, hp, hg, hh⟩
    have R2 := Q1.step hp hg
    have H2 := Lib.hid hh
    clear hp hg hh
    have c1 := R2.loc.c1
    have f1 := R2.loc.f 1
    have sh := R2.s1
    simp only [plc, if_false, Bool.false_eq_true] at sh
    go_wp2_with fail
    have Q2 := R2.set 1 _ (R2.loc.set1 (m2 % 4294967296))
    clear R2 c1 f1 sh
    refine (pen_num_any Q2.pen 4 (by omega)).mono ?_
    rintro e w3 ⟨m3, p3, b3, rfl, hp, hg, hh⟩
    have R3 := Q2.step hp hg
    have H3 := Lib.hid hh
    clear hp hg hh
    have c2 := R3.loc.c2
    have f2 := R3.loc.f 2
    have sh := R3.s1
    simp only [plc, if_false, Bool.false_eq_true] at sh
    go_wp2_with fail
    have Q3 := R3.set 2 _ (R3.loc.set2 m3)
    clear R3 c2 f2 sh
    refine (pen_num_any Q3.pen 4 (by omega)).mono ?_
    rintro e w4 ⟨m4, p4, b4, rfl, hp, hg, hh⟩
    have R4 := Q3.step hp hg
    have H4 := Lib.hid hh
    clear hp hg hh
    have c3 := R4.loc.c3
    have f3 := R4.loc.f 3
    go_wp2_with fail
    have Q4 := R4.set 3 _ (R4.loc.set3 m4)
    clear R4 c3 f3
    refine (pen_num_any Q4.pen 4 (by omega)).mono ?_
    rintro e w5 ⟨m5, p5, b5, rfl, hp, hg, hh⟩
    have R5 := Q4.step hp hg
    have H5 := Lib.hid hh
    clear hp hg hh
    have c4 := R5.loc.c4
    have f4 := R5.loc.f 4
    have sh := R5.s2
    simp only [rst, if_false, Bool.false_eq_true] at sh
    go_wp2_with fail
    have Q5 := R5.set 4 _ (R5.loc.set4 (wrap64 m5))
    clear R5 c4 f4 sh
    refine (pen_bytes_any Q5.pen 0).mono ?_
    rintro e w6 ⟨q, m, c, p', bad', rfl, hp, hg, hh⟩
    have R6 := Q5.step hp hg
    have hl6 := hp.le
    clear hp hg
    have c0 := R6.loc.c0
    have c1 := R6.loc.c1
    have c2 := R6.loc.c2
    have c3 := R6.loc.c3
    have c4 := R6.loc.c4
    have z0 := R6.res.c0
    have z1 := R6.res.c1
    have z2 := R6.res.c2
    have z3 := R6.res.c3
    have z4 := R6.res.c4
    have f0 := R6.res.f 0
    have f1 := R6.res.f 1
    have f2 := R6.res.f 2
    have f3 := R6.res.f 3
    have f4 := R6.res.f 4
    have D := Lib.hid (R6.done ⟨m1 % 4294967296, m2 % 4294967296, m3, m4, wrap64 m5⟩)
    have HH := Lib.hid hh
    have HN := Lib.hid hn
    clear R6 hh hn
    go_wp2
    refine bodyPost_ret (results_sl1 rfl rfl D.out.1) rfl ?_
    obtain ⟨-, dp, dg⟩ := D.out
    have hbad : bad' = true := by
      have h0 := HN.out
      have h1 := H1.out
      have h2 := H2.out
      have h3 := H3.out
      have h4 := H4.out
      have h5 := H5.out
      have h6 := HH.out
      cases bad'
      · exfalso
        rcases h6 with ⟨h, _⟩ | ⟨rfl, _, rfl⟩
        · cases h
        · rcases h5 with h | ⟨rfl, rfl⟩
          · cases h
          rcases h4 with h | ⟨rfl, rfl⟩
          · cases h
          rcases h3 with h | ⟨rfl, rfl⟩
          · cases h
          rcases h2 with h | ⟨rfl, rfl⟩
          · cases h
          rcases h1 with h | ⟨rfl, rfl⟩
          · cases h
          rcases h0 with h | h
          · cases h
          omega
      · rfl
    subst hbad
    exact ⟨_, _, rfl, dp, dg⟩
  · simp only [esize, if_true] at hn
    unfold shapeV
    simp only [plc, rst, magicOf, if_true] at T ⊢
    go_enter Try.func42, Try.ntmps42
    go_wp2_with fail
    have R := T.out _ _ _ rfl rfl rfl
    refine (pen_num_any R.pen 4 (by omega)).mono ?_
    rintro e w1 ⟨m1, p1, b1, rfl, hp, hg, hh⟩
    have R1 := R.step hp hg
    have H1 := Lib.hid hh
    clear hp hg hh
    have c0 := R1.loc.c0
    have f0 := R1.loc.f 0
    go_wp2_with fail
    have Q1 := R1.set 0 _ (R1.loc.set0 (m1 % 4294967296))
    clear R1 c0 f0
    refine (pen_num_any Q1.pen 4 (by omega)).mono ?_
    rintro e w2 ⟨m2, p2, b2, rfl, hp, hg, hh⟩
    have R2 := Q1.step hp hg
    have H2 := Lib.hid hh
    clear hp hg hh
    have c1 := R2.loc.c1
    have f1 := R2.loc.f 1
    have sh := R2.s1
    simp only [plc, if_true] at sh
    go_wp2_with fail
    have Q2 := R2.set 1 _ (R2.loc.set1 (m2 % 4294967296))
    clear R2 c1 f1 sh
    refine (pen_num_any Q2.pen 8 (by omega)).mono ?_
    rintro e w3 ⟨m3, p3, b3, rfl, hp, hg, hh⟩
    have R3 := Q2.step hp hg
    have H3 := Lib.hid hh
    clear hp hg hh
    have c2 := R3.loc.c2
    have f2 := R3.loc.f 2
    have sh := R3.s1
    simp only [plc, if_true] at sh
    go_wp2_with fail
    have Q3 := R3.set 2 _ (R3.loc.set2 m3)
    clear R3 c2 f2 sh
    refine (pen_num_any Q3.pen 8 (by omega)).mono ?_
    rintro e w4 ⟨m4, p4, b4, rfl, hp, hg, hh⟩
    have R4 := Q3.step hp hg
    have H4 := Lib.hid hh
    clear hp hg hh
    have c3 := R4.loc.c3
    have f3 := R4.loc.f 3
    go_wp2_with fail
    have Q4 := R4.set 3 _ (R4.loc.set3 m4)
    clear R4 c3 f3
    refine (pen_num_any Q4.pen 4 (by omega)).mono ?_
    rintro e w5 ⟨m5, p5, b5, rfl, hp, hg, hh⟩
    have R5 := Q4.step hp hg
    have H5 := Lib.hid hh
    clear hp hg hh
    have c4 := R5.loc.c4
    have f4 := R5.loc.f 4
    have sh := R5.s2
    simp only [rst, if_true] at sh
    go_wp2_with fail
    have Q5 := R5.set 4 _ (R5.loc.set4 (wrap64 m5))
    clear R5 c4 f4 sh
    refine (pen_bytes_any Q5.pen 4).mono ?_
    rintro e w6 ⟨q, m, c, p', bad', rfl, hp, hg, hh⟩
    have R6 := Q5.step hp hg
    have hl6 := hp.le
    clear hp hg
    have c0 := R6.loc.c0
    have c1 := R6.loc.c1
    have c2 := R6.loc.c2
    have c3 := R6.loc.c3
    have c4 := R6.loc.c4
    have z0 := R6.res.c0
    have z1 := R6.res.c1
    have z2 := R6.res.c2
    have z3 := R6.res.c3
    have z4 := R6.res.c4
    have f0 := R6.res.f 0
    have f1 := R6.res.f 1
    have f2 := R6.res.f 2
    have f3 := R6.res.f 3
    have f4 := R6.res.f 4
    have D := Lib.hid (R6.done ⟨m1 % 4294967296, m2 % 4294967296, m3, m4, wrap64 m5⟩)
    have HH := Lib.hid hh
    have HN := Lib.hid hn
    clear R6 hh hn
    go_wp2
    refine bodyPost_ret (results_sl1 rfl rfl D.out.1) rfl ?_
    obtain ⟨-, dp, dg⟩ := D.out
    have hbad : bad' = true := by
      have h0 := HN.out
      have h1 := H1.out
      have h2 := H2.out
      have h3 := H3.out
      have h4 := H4.out
      have h5 := H5.out
      have h6 := HH.out
      cases bad'
      · exfalso
        rcases h6 with ⟨h, _⟩ | ⟨rfl, _, rfl⟩
        · cases h
        · rcases h5 with h | ⟨rfl, rfl⟩
          · cases h
          rcases h4 with h | ⟨rfl, rfl⟩
          · cases h
          rcases h3 with h | ⟨rfl, rfl⟩
          · cases h
          rcases h2 with h | ⟨rfl, rfl⟩
          · cases h
          rcases h1 with h | ⟨rfl, rfl⟩
          · cases h
          rcases h0 with h | h
          · cases h
          omega
      · rfl
    subst hbad
    exact ⟨_, _, rfl, dp, dg⟩
end Go.Proofs.Ytdjakaiadggemaa
