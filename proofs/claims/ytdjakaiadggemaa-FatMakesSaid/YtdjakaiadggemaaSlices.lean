/- The slices of a file: the program's own calls. No condition but that a file's bytes are not beyond the form's bound. -/
import Derived.Test.YtdjakaiadggemaaEntry
import Derived.Test.YtdjakaiadggemaaWrong
import Derived.Test.YtdjakaiadggemaaRowSl
import Derived.Test.YtdjakaiadggemaaStr
namespace Go.Proofs.Ytdjakaiadggemaa
open Go.RowKit
variable {w w' : World}

/-- Slices, and an error: what a call tells. -/
structure SlOut (w w' : World) (r : List Sl × Int) (e : Ending) : Prop where
  val : ∃ q c, e = .returned (.tuple #[.slice q r.1.length c, .int .i64 r.2]) ∧ IsSl w' q r.1 ∧ r.1.length ≤ c ∧ c ≤ 9223372036854775807
  grown : w.grownBy w' none
theorem slOut_nil {k : Int} (h : w.grownBy w' none) : SlOut w w' ([], k) (.returned (.tuple #[.slice none 0 0, .int .i64 k])) :=
  ⟨⟨_, _, rfl, fun h => (by cases h), Nat.zero_le _, by omega⟩, h⟩

def thin (ys : List Int) : Sl := ⟨leN ((ys.drop 4).take 4), leN ((ys.drop 8).take 4), 0, ys.length, 0⟩
def thinN (ys : List Int) : List Sl × Int := if ys.length < 12 then ([], 3) else ([thin ys], 0)
def entries (wide : Bool) (ys : List Int) (n : Nat) : List Sl := (List.range n).map fun i => entry wide ys (8 + i * esize wide)
open Classical in
noncomputable def listN (wide : Bool) (ys : List Int) : List Sl × Int :=
  if ys.length < 8 then ([], 3) else
  if 32 < at' ys 4 4 then ([], 11) else
  if ys.length < 8 + (at' ys 4 4).toNat * esize wide then ([], 3) else
  if Bad (entries wide ys (at' ys 4 4).toNat) (8 + (at' ys 4 4).toNat * esize wide) ys.length then ([], 4) else
  if Twin (entries wide ys (at' ys 4 4).toNat) then ([], 21) else (entries wide ys (at' ys 4 4).toNat, 0)
noncomputable def slicesN (ys : List Int) : List Sl × Int :=
  if 1048576 < ys.length then ([], 11) else
  if ys.length < 4 then ([], 3) else
  if ys.take 4 = [207, 250, 237, 254] then thinN ys else
  if ys.take 4 = [202, 254, 186, 190] then listN false ys else
  if ys.take 4 = [202, 254, 186, 191] then listN true ys else ([], 5)
theorem entries_succ (wide : Bool) (ys : List Int) (n : Nat) : entries wide ys (n + 1) = entries wide ys n ++ [entry wide ys (8 + n * esize wide)] := by
  simp [entries, List.range_succ]
theorem entries_len (wide : Bool) (ys : List Int) (n : Nat) : (entries wide ys n).length = n := by simp [entries]
theorem entries_fit {ys : List Int} (h : Small ys) (wide : Bool) (n : Nat) : ∀ s ∈ entries wide ys n, s.Fits := by
  intro s hs
  obtain ⟨i, _, rfl⟩ := List.mem_map.1 hs
  exact entry_fits h _ _

theorem lemod (l : List Int) (h : Small l) (hl : l.length ≤ 4) : leN l % 4294967296 = leN l := by
  have h1 := leN_bd l h
  have h3 : (2 : Int) ^ (8 * l.length) ≤ 2 ^ 32 := by
    have : (2 : Nat) ^ (8 * l.length) ≤ 2 ^ 32 := Nat.pow_le_pow_right (by decide) (by omega)
    exact_mod_cast this
  have : (2 : Int) ^ 32 = 4294967296 := by decide
  omega

/-- What the slice of a thin file is behind some calls: a block of the call's own beside the cursor's. -/
structure HRel (w wr : World) (lo hi a : Nat) (ys : List Int) (p : Nat) (bad : Bool) (g : Nat) (s : Sl) : Prop where
  pen : Pen wr lo hi a ys p false bad
  loc : SlAt wr g s
  up : hi ≤ g
  grown : w.grownBy wr none
  lo : w.heap.size ≤ lo
section
variable {wr w2 : World} {lo hi a : Nat} {ys : List Int} {p p2 : Nat} {bad bad2 : Bool} {g : Nat} {s : Sl}
theorem HRel.step (h : HRel w wr lo hi a ys p bad g s) (hp : Pen w2 lo hi a ys p2 false bad2) (hg : wr.grownBy w2 (some a)) : HRel w w2 lo hi a ys p2 bad2 g s :=
  ⟨hp, h.loc.kept hg (fun e => by injection e with e; have := h.up; have := h.pen.up; omega), h.up, grown_new h.grown hg (by have := h.pen.lw; have := h.lo; omega), h.lo⟩
theorem HRel.set (h : HRel w wr lo hi a ys p bad g s) (i : Nat) (v : Value) {t : Sl} (ht : SlAt (wr.setCell ⟨g, i, none⟩ v) g t) : HRel w (wr.setCell ⟨g, i, none⟩ v) lo hi a ys p bad g t := by
  have hg := grown_setCell (i := i) (grown_refl wr (some g)) v
  exact ⟨h.pen.kept hg (.inr h.up), ht, h.up, grown_new h.grown hg (by have := h.up; have := h.pen.lw; have := h.pen.up; have := h.lo; omega), h.lo⟩
end

theorem isSl_one {g : Nat} {s : Sl} (h : SlAt w g s) : IsSl w (some ⟨g, 0, none⟩) [s] := by
  intro _
  refine ⟨g, 0, rfl, fun i t hi => ?_⟩
  have h0 : i = 0 := by
    rcases Nat.eq_zero_or_pos i with h | h
    · exact h
    · rw [List.getElem?_eq_none (by simp; omega)] at hi; cases hi
  subst h0
  injection hi with hi
  subst hi
  exact ⟨h.c0, h.c1, h.c2, h.c3, h.c4⟩
theorem slOut_one {w1 w2 : World} {s : Sl} {k : Int} (hg : w.grownBy w1 none) (hw : w2 = w1.alloc (.cells #[.int .u32 s.cpu, .int .u32 s.sub, .int .u64 s.off, .int .u64 s.size, .int .i64 s.align] 42)) :
    SlOut w w2 ([s], k) (.returned (.tuple #[.slice (some ⟨w1.heap.size, 0, none⟩) 1 1, .int .i64 k])) := by
  subst hw
  exact ⟨⟨_, _, rfl, isSl_one (SlAt.new w1 s), Nat.le_refl _, by omega⟩, grown_alloc hg _⟩
theorem whole_any (ys : List Int) (q : Option Addr) (c n : Nat) (h : IsBytes w q c ys) (hn : ys.length = n) (h4 : 4 ≤ n) (hm : n ≤ 1048576) (hr : Small ys) :
    Calls Try.prog 20 #[.slice q n c] w fun e w' => SlOut w w' (thinN ys) e := by
  have C := Lib.hid (pen_new h hn (by omega) hr false)
  have l1 := lemod ((ys.drop 4).take 4) (fun x hx => hr x (List.mem_of_mem_drop (List.mem_of_mem_take hx))) (by simp; omega)
  have l2 := lemod ((ys.drop 8).take 4) (fun x hx => hr x (List.mem_of_mem_drop (List.mem_of_mem_take hx))) (by simp; omega)
  have L1 := Lib.hid l1
  have L2 := Lib.hid l2
  have HN := Lib.hid hn
  obtain ⟨r, hrr⟩ : ∃ r, r = thinN ys := ⟨_, rfl⟩
  rw [← hrr]
  have RR := Lib.hid hrr
  clear h l1 l2 hrr
  go_enter Try.func20, Try.ntmps20
  go_wp2_with fail
  refine C.out.mono ?_
  rintro e w1 ⟨a, rfl, hp, hb⟩
  have G1 := Lib.hid (grown_below hb none)
  have Z1 := Lib.hid hb.size
  clear hb
  go_wp2_with fail
  refine (pen_seek hp 4 (by omega)).mono ?_
  rintro e w2 ⟨rfl, hp2, hg2⟩
  have G2 := Lib.hid (grown_new G1.out hg2 hp.lw)
  clear hp hg2
  have hu : ((n : Int) % 18446744073709551616) = n := by omega
  have R0 : HRel w (w2.alloc (.cells #[.int .u32 0, .int .u32 0, .int .u64 0, .int .u64 n, .int .i64 0] 42)) w.heap.size w1.heap.size a ys 4 false w2.heap.size ⟨0, 0, 0, n, 0⟩ :=
    ⟨hp2.same (grown1 _ _), SlAt.new w2 ⟨0, 0, 0, n, 0⟩, hp2.sz, grown_alloc G2.out _, Nat.le_refl _⟩
  clear hp2
  by_cases h12 : n < 12
  · have e1 : thinN ys = ([], 3) := by unfold thinN; rw [if_pos (by omega)]
    have E1 := Lib.hid e1
    clear e1
    go_wp2_with fail
    refine (pen_num_any R0.pen 4 (by omega)).mono ?_
    rintro e w3 ⟨m1, p1, b1, rfl, hp, hg, hh⟩
    have R1 := R0.step hp hg
    have c0 := R1.loc.c0
    have f0 := R1.loc.f 0
    have H1 := Lib.hid hh
    clear R0 hp hg hh
    go_wp2_with fail
    have Q1 := R1.set 0 _ (R1.loc.set0 (m1 % 4294967296))
    clear R1 c0 f0
    refine (pen_num_any Q1.pen 4 (by omega)).mono ?_
    rintro e w4 ⟨m2, p2, b2, rfl, hp, hg, hh⟩
    have hl2 := hp.le
    have R2 := Q1.step hp hg
    have c1 := R2.loc.c1
    have f1 := R2.loc.f 1
    have hb2 : b2 = true := by
      have h1 := H1.out
      cases b2
      · exfalso
        rcases hh with h | ⟨rfl, rfl⟩
        · cases h
        · rcases h1 with h | ⟨_, rfl⟩
          · cases h
          · omega
      · rfl
    subst hb2
    clear Q1 hp hg hh hl2
    go_wp2_with fail
    have Q2 := R2.set 1 _ (R2.loc.set1 (m2 % 4294967296))
    clear R2 c1 f1
    refine (pen_err Q2.pen).mono ?_
    rintro e w5 ⟨rfl, rfl⟩
    have G := Lib.hid Q2.grown
    clear Q2
    go_wp2
    go_ret2
    rw [RR.out, E1.out]
    exact slOut_nil G.out
  · have e1 : thinN ys = ([thin ys], 0) := by unfold thinN; rw [if_neg (by omega)]
    have E1 := Lib.hid e1
    clear e1
    have m1 := L1.out
    have m2 := L2.out
    have T := Lib.hid (show thin ys = ⟨leN ((ys.drop 4).take 4), leN ((ys.drop 8).take 4), 0, n, 0⟩ by unfold thin; rw [hn])
    go_wp2_with fail
    refine (pen_num R0.pen 4 (by omega) (by omega)).mono ?_
    rw [show numOf false ((ys.drop 4).take 4) = leN ((ys.drop 4).take 4) from rfl]
    generalize leN ((ys.drop 4).take 4) = x1 at *
    rintro e w3 ⟨rfl, hp, hg⟩
    have R1 := R0.step hp hg
    have c0 := R1.loc.c0
    have f0 := R1.loc.f 0
    clear R0 hp hg
    go_wp2_with fail
    have Q1 := R1.set 0 _ (R1.loc.set0 x1)
    clear R1 c0 f0
    refine (pen_num Q1.pen 4 (by omega) (by omega)).mono ?_
    rw [show numOf false ((ys.drop (4 + 4)).take 4) = leN ((ys.drop 8).take 4) from rfl]
    generalize leN ((ys.drop 8).take 4) = x2 at *
    rintro e w4 ⟨rfl, hp, hg⟩
    have R2 := Q1.step hp hg
    have c1 := R2.loc.c1
    have f1 := R2.loc.f 1
    clear Q1 hp hg
    go_wp2_with fail
    have Q2 := R2.set 1 _ (R2.loc.set1 x2)
    clear R2 c1 f1
    refine (pen_err Q2.pen).mono ?_
    rintro e w5 ⟨rfl, rfl⟩
    have c0 := Q2.loc.c0
    have c1 := Q2.loc.c1
    have c2 := Q2.loc.c2
    have c3 := Q2.loc.c3
    have c4 := Q2.loc.c4
    have G := Lib.hid Q2.grown
    clear Q2
    generalize hW : w4.setCell _ _ = W at *
    clear hW
    go_wp2
    go_ret2
    rw [RR.out, E1.out, T.out]
    exact slOut_one G.out rfl
end Go.Proofs.Ytdjakaiadggemaa
