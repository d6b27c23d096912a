import Derived.Test.YtdagnkdonlfobaaGreatM1
import Derived.Test.YtdagnkdonlfobaaGreatM2
import Derived.Stop.Asserts
import Derived.Laws.Externs
import Derived.Laws.Bits128
/- What commands say, and an image: by numbers and bytes alone. No condition. -/
namespace Go.Proofs.YtdagnkdonlfobaaGreat
open Go.RowKit

/-- A number of n bytes at a place; the text of a field of 16 bytes. -/
def numAt (b : List Int) (p n : Nat) : Int := leN ((b.drop p).take n)
def fieldAt (b : List Int) (p : Nat) : List Int := pre ((b.drop p).take 16)
structure Sec where
  name : List Int
  seg : List Int
  addr : Int
  size : Int
  off : Int
  kind : Int
def secAt (b : List Int) (p : Nat) : Sec := ⟨fieldAt b p, fieldAt b (p + 16), numAt b (p + 32) 8, numAt b (p + 40) 8, numAt b (p + 48) 4, numAt b (p + 64) 1⟩
structure Seg where
  name : List Int
  addr : Int
  size : Int
  off : Int
  fsize : Int
  prot : Int
  secs : List Sec

/-- How many bytes a known command has at least (0: it is not known). -/
def leastN (cmd : Int) : Int :=
  if cmd = 2147483688 then 24 else if cmd = 2 then 24 else if cmd = 2147483700 then 16 else if cmd = 2147483699 then 16 else
  if cmd = 2147483682 then 48 else if cmd = 34 then 48 else if cmd = 2147483683 then 24 else if cmd = 2147483679 then 24 else
  if cmd = 2147483672 then 24 else if cmd = 12 then 24 else if cmd = 13 then 24 else if cmd = 25 then 72 else 0
def cmdAt (b : List Int) : Int := numAt b 0 4
def shortB (b : List Int) : Prop := b.length < 8 ∨ (b.length : Int) < leastN (cmdAt b)
instance (b : List Int) : Decidable (shortB b) := by unfold shortB; infer_instance

def manyAt (b : List Int) : Nat := (numAt b 64 4).toNat
def secsN (b : List Int) (n : Nat) : List Sec := (List.range n).map fun i => secAt b (72 + 80 * i)
def oddSec (b : List Int) (n : Nat) : Bool := (secsN b n).any fun s => decide (s.seg ≠ fieldAt b 8)
def segErr (b : List Int) : Int :=
  if shortB b then 3 else if cmdAt b ≠ 25 then 7 else
  if (b.length - 72) / 80 < manyAt b then 3 else
  if 7 < numAt b 60 4 then 9 else
  if oddSec b (manyAt b) = true then 9 else
  if 64 < manyAt b then 11 else 0
def segOf (b : List Int) : Seg := ⟨fieldAt b 8, numAt b 24 8, numAt b 32 8, numAt b 40 8, numAt b 48 8, numAt b 60 4, secsN b (manyAt b)⟩

def named (cmd : Int) : Prop := cmd = 13 ∨ cmd = 12 ∨ cmd = 2147483672 ∨ cmd = 2147483679 ∨ cmd = 2147483683
instance (cmd : Int) : Decidable (named cmd) := by unfold named; infer_instance
def textOf (l : List Int) : List Int := if (pre l).length < l.length ∧ (pre l).length ≤ 255 then pre l else []
def nameOf (b : List Int) : List Int := if (b.length : Int) < numAt b 8 4 then [] else textOf (b.drop (numAt b 8 4).toNat)
def nameErr (b : List Int) : Int := if shortB b then 3 else if ¬ named (cmdAt b) then 7 else if nameOf b = [] then 10 else 0

def spanAt (b : List Int) (p : Nat) (u : Int) : Int × Int := (numAt b p 4, numAt b (p + 4) 4 * u)
def isInfo (cmd : Int) : Prop := cmd = 34 ∨ cmd = 2147483682
instance (cmd : Int) : Decidable (isInfo cmd) := by unfold isInfo; infer_instance
def isLone (cmd : Int) : Prop := cmd = 2147483699 ∨ cmd = 2147483700
instance (cmd : Int) : Decidable (isLone cmd) := by unfold isLone; infer_instance
def spansOf (b : List Int) : List (Int × Int) :=
  if isInfo (cmdAt b) then [spanAt b 8 1, spanAt b 16 1, spanAt b 24 1, spanAt b 32 1, spanAt b 40 1] else
  if isLone (cmdAt b) then [spanAt b 8 1] else
  if cmdAt b = 2 then [spanAt b 8 16, spanAt b 16 1] else []
def spansErr (b : List Int) : Int := if shortB b then 3 else if isInfo (cmdAt b) ∨ isLone (cmdAt b) ∨ cmdAt b = 2 then 0 else 7

/-- An image in the making: what its commands have said so far, and what was met. -/
structure St where
  name : List Int
  segs : List Seg
  deps : List (List Int × Int)
  rb : Int × Int
  bd : Int × Int
  wk : Int × Int
  lz : Int × Int
  tr : Int × Int
  ch : Int × Int
  sy : Int × Int
  st : Int × Int
  entry : Int
  has : Bool
  met : List Int
  secs : Int
def St.zero : St := ⟨[], [], [], (0, 0), (0, 0), (0, 0), (0, 0), (0, 0), (0, 0), (0, 0), (0, 0), 0, false, [], 0⟩
def St.meet (s : St) (k : Int) : St := { s with met := s.met ++ [k] }
def onceE (s : St) (k : Int) : Int := if k ∈ s.met then 21 else 0

def depKind (cmd : Int) : Int := if cmd = 12 then 1 else if cmd = 2147483672 then 2 else if cmd = 2147483679 then 3 else if cmd = 2147483683 then 4 else 0
/-- A segment is taken in. -/
def segE (s : St) (b : List Int) : Int := if segErr b ≠ 0 then segErr b else if s.segs.length = 16 ∨ 64 < s.secs + (segOf b).secs.length then 11 else 0
def segS (s : St) (b : List Int) : St := { s with secs := s.secs + (segOf b).secs.length, segs := s.segs ++ [segOf b] }
/-- The image's own name. -/
def ownE (s : St) (b : List Int) : Int := if nameErr b ≠ 0 then nameErr b else onceE s 13
def ownS (s : St) (b : List Int) : St := { s with name := nameOf b }.meet 13
/-- A dependency. -/
def depE (s : St) (b : List Int) : Int := if nameErr b ≠ 0 then nameErr b else if s.deps.length = 64 then 11 else 0
def depS (s : St) (b : List Int) (k : Int) : St := { s with deps := s.deps ++ [(nameOf b, k)] }
/-- A trie. -/
def trieE (s : St) (x : Int × Int) : Int := if x.2 = 0 then 0 else onceE s 2147483699
def trieS (s : St) (x : Int × Int) : St := if x.2 = 0 then s else { s with tr := x }.meet 2147483699
/-- Spans. -/
def infoS (s : St) (b : List Int) : St := { s.meet 34 with rb := spanAt b 8 1, bd := spanAt b 16 1, wk := spanAt b 24 1, lz := spanAt b 32 1 }
def spE (s : St) (b : List Int) : Int :=
  if spansErr b ≠ 0 then spansErr b else
  if isInfo (cmdAt b) then (if onceE s 34 ≠ 0 then onceE s 34 else trieE (infoS s b) (spanAt b 40 1)) else
  if cmdAt b = 2147483699 then trieE s (spanAt b 8 1) else onceE s (cmdAt b)
def spS (s : St) (b : List Int) : St :=
  if isInfo (cmdAt b) then trieS (infoS s b) (spanAt b 40 1) else
  if cmdAt b = 2147483699 then trieS s (spanAt b 8 1) else
  if cmdAt b = 2147483700 then { s with ch := spanAt b 8 1 }.meet (cmdAt b) else { s with sy := spanAt b 8 16, st := spanAt b 16 1 }.meet (cmdAt b)
/-- The entry. -/
def entE (s : St) (b : List Int) : Int := if shortB b then 3 else onceE s 2147483688
def entS (s : St) (b : List Int) : St := { s with entry := numAt b 8 8, has := true }.meet 2147483688

def stepE (s : St) (b : List Int) : Int :=
  if cmdAt b = 25 then segE s b else if cmdAt b = 13 then ownE s b else if depKind (cmdAt b) ≠ 0 then depE s b else
  if isInfo (cmdAt b) ∨ isLone (cmdAt b) ∨ cmdAt b = 2 then spE s b else if cmdAt b = 2147483688 then entE s b else
  if 2147483648 ≤ cmdAt b then 7 else 0
def stepS (s : St) (b : List Int) : St :=
  if cmdAt b = 25 then segS s b else if cmdAt b = 13 then ownS s b else if depKind (cmdAt b) ≠ 0 then depS s b (depKind (cmdAt b)) else
  if isInfo (cmdAt b) ∨ isLone (cmdAt b) ∨ cmdAt b = 2 then spS s b else if cmdAt b = 2147483688 then entS s b else s
def runE : St → List (List Int) → Int
  | _, [] => 0
  | s, b :: l => if stepE s b = 0 then runE (stepS s b) l else stepE s b
def runS : St → List (List Int) → St
  | s, [] => s
  | s, b :: l => runS (stepS s b) l
theorem runE_snoc (s : St) (l : List (List Int)) (b : List Int) (h : runE s l = 0) : runE s (l ++ [b]) = stepE (runS s l) b := by
  induction l generalizing s with
  | nil =>
    show (if stepE s b = 0 then 0 else stepE s b) = stepE s b
    split
    · rename_i h; exact h.symm
    · rfl
  | cons x l ih =>
    simp only [runE, List.cons_append, runS] at h ⊢
    split at h
    · rename_i h0
      rw [if_pos h0]
      exact ih _ h
    · rename_i h0; exact absurd h h0
theorem runS_snoc (s : St) (l : List (List Int)) (b : List Int) : runS s (l ++ [b]) = stepS (runS s l) b := by
  induction l generalizing s with
  | nil => rfl
  | cons x l ih => exact ih _
theorem runE_stop (s : St) (l r : List (List Int)) (h : runE s l ≠ 0) : runE s (l ++ r) = runE s l := by
  induction l generalizing s with
  | nil => exact absurd rfl h
  | cons x l ih =>
    simp only [runE, List.cons_append] at h ⊢
    split
    · rename_i h0
      rw [if_pos h0] at h
      exact ih _ h
    · rfl
theorem numAt_lt {b : List Int} (h : Small b) (p : Nat) : 0 ≤ numAt b p 4 ∧ numAt b p 4 < 4294967296 := leN4_bd h p
end Go.Proofs.YtdagnkdonlfobaaGreat

/- The call that sets where a cursor stands. No condition but that there is such a cursor in memory. -/
namespace Go.Proofs.YtdagnkdonlfobaaGreat
open Go.RowKit
variable {w : World} {base a : Nat} {q : Option Addr} {c : Nat} {xs : List Int} {p : Nat} {big bad : Bool}

/-- A place that is within the bytes. -/
theorem seek_ok (h : Cur w base a q c xs p big false) (n : Nat) (hn : n ≤ xs.length) :
    Calls Tryz.prog 182 #[.pointer (some ⟨a, 0, none⟩), .int .i64 n] w fun e w' => e = .returned (.tuple #[]) ∧ Cur w' base a q c xs n big false ∧ w.grownBy w' (some a) := by
  have h0 := h.c0
  have h1 := h.c1
  have h3 := h.c3
  have f1 := h.f1
  have hbig := h.big
  have F := Lib.hid (h.setAt hn)
  have G := Lib.hid (grown_setCell (i := 1) (grown_refl w (some a)) (.int .i64 (n : Int)))
  have d1 : decide ((n : Int) < 0) = false := by simp
  have d2 : decide (xs.length < n) = false := by simp; omega
  go_enter Tryz.func182, Tryz.ntmps182
  go_wp2
  go_end0
  exact ⟨rfl, F.out, G.out⟩
/-- One that has failed stays where it is. -/
theorem seek_bad (h : Cur w base a q c xs p big true) (n : Int) :
    Calls Tryz.prog 182 #[.pointer (some ⟨a, 0, none⟩), .int .i64 n] w fun e w' => e = .returned (.tuple #[]) ∧ w = w' := by
  have h3 := h.c3
  go_enter Tryz.func182, Tryz.ntmps182
  go_wp2
  refine bodyPost_ret (results_none rfl _ _ _) rfl ?_
  exact ⟨rfl, rfl⟩
end Go.Proofs.YtdagnkdonlfobaaGreat

/- A cursor in blocks of its own, from lo up to hi: what is done elsewhere turns nothing of it; and the calls of layer 1 on it (for seats without layer 2: the same names as Pen's). No condition. -/
namespace Go.Proofs.YtdagnkdonlfobaaGreat
open Go.RowKit
variable {w w' : World} {lo hi a : Nat} {xs : List Int} {p : Nat} {big bad : Bool}

structure Pen (w : World) (lo hi a : Nat) (xs : List Int) (p : Nat) (big bad : Bool) : Prop where
  cur : ∃ base q c, Cur w base a q c xs p big bad ∧ lo ≤ base ∧ ∀ g, (Value.slice q xs.length c).ownBlock = some g → g < hi
  lw : lo ≤ a
  up : a < hi
  sz : hi ≤ w.heap.size

theorem Pen.kept (h : Pen w lo hi a xs p big bad) {b : Nat} (hg : w.grownBy w' (some b)) (hb : b < lo ∨ hi ≤ b) : Pen w' lo hi a xs p big bad := by
  obtain ⟨⟨base, q, c, hc, hl, ho⟩, h1, h2, h3⟩ := h
  refine ⟨⟨base, q, c, hc.kept hg (fun e => by injection e with e; omega) ?_, hl, ho⟩, h1, h2, Nat.le_trans h3 hg.size⟩
  cases hq : (Value.slice q xs.length c).ownBlock with
  | none => exact .inl rfl
  | some g => exact .inr (fun e => by injection e with e; have := ho g hq; have := (hc.own.lt g hq).1; omega)
theorem Pen.same (h : Pen w lo hi a xs p big bad) (hg : w.grownBy w' none) : Pen w' lo hi a xs p big bad := by
  obtain ⟨⟨base, q, c, hc, hl, ho⟩, h1, h2, h3⟩ := h
  refine ⟨⟨base, q, c, hc.kept hg (by simp) ?_, hl, ho⟩, h1, h2, Nat.le_trans h3 hg.size⟩
  cases (Value.slice q xs.length c).ownBlock <;> simp
theorem Pen.below (h : Pen w lo hi a xs p big bad) (hb : Below w.heap.size w w') : Pen w' lo hi a xs p big bad := h.same (grown_below hb none)
theorem Pen.le (h : Pen w lo hi a xs p big bad) : p ≤ xs.length := by obtain ⟨_, _, _, hc, _⟩ := h.cur; exact hc.le
theorem Pen.most (h : Pen w lo hi a xs p big bad) : xs.length ≤ 140737488355328 := by obtain ⟨_, _, _, hc, _⟩ := h.cur; exact hc.big
theorem Pen.small (h : Pen w lo hi a xs p big bad) : Small xs := by obtain ⟨_, _, _, hc, _⟩ := h.cur; exact hc.bytes
theorem Pen.lt (h : Pen w lo hi a xs p big bad) : a < w.heap.size := Nat.lt_of_lt_of_le h.up h.sz

theorem pen_new {q : Option Addr} {c n : Nat} {ys : List Int} (h : IsBytes w q c ys) (hn : ys.length = n) (hb : n ≤ 140737488355328) (hr : ∀ x ∈ ys, 0 ≤ x ∧ x < 256) (big : Bool) :
    Calls Tryz.prog 156 #[.slice q n c, .bool big] w fun e w' =>
      ∃ a, e = .returned (.pointer (some ⟨a, 0, none⟩)) ∧ Pen w' w.heap.size w'.heap.size a ys 0 big false ∧ Below w.heap.size w w' := by
  subst hn
  refine (new_any h hb hr big).mono ?_
  rintro e w' ⟨⟨a, q', c', rfl, ha, hc, _⟩, hbel⟩
  exact ⟨a, rfl, ⟨⟨_, _, _, hc, Nat.le_refl _, fun g hg => (hc.own.lt g hg).2⟩, ha, hc.lt, Nat.le_refl _⟩, hbel⟩

theorem pen_seek (h : Pen w lo hi a xs p big false) (n : Nat) (hn : n ≤ xs.length) :
    Calls Tryz.prog 182 #[.pointer (some ⟨a, 0, none⟩), .int .i64 n] w fun e w' => e = .returned (.tuple #[]) ∧ Pen w' lo hi a xs n big false ∧ w.grownBy w' (some a) := by
  obtain ⟨⟨base, q, c, hc, hl, ho⟩, h1, h2, h3⟩ := h
  refine (seek_ok hc n hn).mono ?_
  rintro e w' ⟨rfl, hc', hg⟩
  exact ⟨rfl, ⟨⟨_, _, _, hc', hl, ho⟩, h1, h2, Nat.le_trans h3 hg.size⟩, hg⟩
theorem pen_at (h : Pen w lo hi a xs p big bad) :
    Calls Tryz.prog 188 #[.pointer (some ⟨a, 0, none⟩)] w fun e w' => e = .returned (.int .i64 p) ∧ w = w' := by
  obtain ⟨⟨base, q, c, hc, hl, ho⟩, h1, h2, h3⟩ := h
  exact at_any hc
theorem pen_err (h : Pen w lo hi a xs p big bad) :
    Calls Tryz.prog 162 #[.pointer (some ⟨a, 0, none⟩)] w fun e w' => e = .returned (.int .i64 (if bad then 3 else 0)) ∧ w = w' := by
  obtain ⟨⟨base, q, c, hc, hl, ho⟩, h1, h2, h3⟩ := h
  exact err_any hc
theorem pen_num (h : Pen w lo hi a xs p big false) (n : Nat) (hs : n = 1 ∨ n = 2 ∨ n = 4 ∨ n = 8) (hn : p + n ≤ xs.length) :
    Calls Tryz.prog 155 #[.pointer (some ⟨a, 0, none⟩), .int .i64 n] w fun e w' =>
      e = .returned (.int .u64 (numOf big ((xs.drop p).take n))) ∧ Pen w' lo hi a xs (p + n) big false ∧ w.grownBy w' (some a) := by
  obtain ⟨⟨base, q, c, hc, hl, ho⟩, h1, h2, h3⟩ := h
  refine (number_ok hc n hs hn).mono ?_
  rintro e w' ⟨rfl, hc', hg⟩
  exact ⟨rfl, ⟨⟨_, _, _, hc', hl, ho⟩, h1, h2, Nat.le_trans h3 hg.size⟩, hg⟩
/-- What is no number: 0, and it has failed. -/
theorem pen_num_no (h : Pen w lo hi a xs p big bad) (n : Nat) (hn : bad = true ∨ (n ≠ 1 ∧ n ≠ 2 ∧ n ≠ 4 ∧ n ≠ 8) ∨ xs.length < p + n) :
    Calls Tryz.prog 155 #[.pointer (some ⟨a, 0, none⟩), .int .i64 n] w fun e w' =>
      e = .returned (.int .u64 0) ∧ Pen w' lo hi a xs p big true ∧ w.grownBy w' (some a) := by
  obtain ⟨⟨base, q, c, hc, hl, ho⟩, h1, h2, h3⟩ := h
  have hle := hc.le
  refine (number_no hc n (by rcases hn with h | h | h; exact .inl h; exact .inr (.inl (by omega)); exact .inr (.inr (by omega)))).mono ?_
  rintro e w' ⟨rfl, hc', hg⟩
  exact ⟨rfl, ⟨⟨_, _, _, hc', hl, ho⟩, h1, h2, Nat.le_trans h3 hg.size⟩, hg⟩
/-- Either way: it has failed then, or it stands so much further. -/
theorem pen_num_any (h : Pen w lo hi a xs p big bad) (n : Nat) (hs : n = 1 ∨ n = 2 ∨ n = 4 ∨ n = 8) :
    Calls Tryz.prog 155 #[.pointer (some ⟨a, 0, none⟩), .int .i64 n] w fun e w' =>
      ∃ m p' bad', e = .returned (.int .u64 m) ∧ Pen w' lo hi a xs p' big bad' ∧ w.grownBy w' (some a) ∧ (bad' = true ∨ (bad = false ∧ p' = p + n)) := by
  cases bad
  · by_cases hn : p + n ≤ xs.length
    · refine (pen_num h n hs hn).mono ?_
      rintro e w' ⟨rfl, hp, hg⟩
      exact ⟨_, _, _, rfl, hp, hg, .inr ⟨rfl, rfl⟩⟩
    · refine (pen_num_no h n (.inr (.inr (by omega)))).mono ?_
      rintro e w' ⟨rfl, hp, hg⟩
      exact ⟨_, _, _, rfl, hp, hg, .inl rfl⟩
  · refine (pen_num_no h n (.inl rfl)).mono ?_
    rintro e w' ⟨rfl, hp, hg⟩
    exact ⟨_, _, _, rfl, hp, hg, .inl rfl⟩

theorem cbytes_ok {base : Nat} {q : Option Addr} {c : Nat} (h : Cur w base a q c xs p big false) (n : Nat) (hn : p + n ≤ xs.length) :
    Calls Tryz.prog 189 #[.pointer (some ⟨a, 0, none⟩), .int .i64 n] w fun e w' =>
      (∃ q' c', e = .returned (.slice q' n c')) ∧ Cur w' base a q c xs (p + n) big false ∧ w.grownBy w' (some a) := by
  have T := Lib.hid (take_ok h n hn)
  have hl : ((xs.drop p).take n).length = n := by simp; omega
  have L := Lib.hid hl
  have hbig := h.big
  generalize (xs.drop p).take n = ys at *
  clear hl
  go_enter Tryz.func189, Tryz.ntmps189
  go_wp2_with fail
  refine T.out.mono ?_
  rintro e w1 ⟨⟨q', rfl, hb, hn1⟩, hc, hg⟩
  have hcl := clone_any hb (by rw [L.out]; omega)
  rw [L.out] at hcl
  have K := Lib.hid hcl
  clear hcl
  go_wp2_with fail
  refine K.out.mono ?_
  rintro e w2 ⟨⟨q2, c2, rfl, hown, hn2⟩, hbel⟩
  clear hn1 hn2 hown
  have hc2 := hc.kept (grown_below hbel none) (by simp) (by cases (Value.slice q xs.length c).ownBlock <;> simp)
  have hg2 := grown_trans hg (grown_below hbel (some a))
  go_wp2
  go_ret
  exact ⟨⟨_, _, rfl⟩, hc2, hg2⟩
theorem cbytes_no {base : Nat} {q : Option Addr} {c : Nat} (h : Cur w base a q c xs p big bad) (n : Int) (hn : bad = true ∨ n < 0 ∨ (xs.length : Int) - p < n) :
    Calls Tryz.prog 189 #[.pointer (some ⟨a, 0, none⟩), .int .i64 n] w fun e w' =>
      (e = .returned (.slice none 0 0)) ∧ Cur w' base a q c xs p big true ∧ w.grownBy w' (some a) := by
  have T := Lib.hid (take_no h n hn)
  clear hn
  go_enter Tryz.func189, Tryz.ntmps189
  go_wp2_with fail
  refine T.out.mono ?_
  rintro e w1 ⟨rfl, hc, hg⟩
  go_wp2_with fail
  refine (Tryz.bytes_Clone_nil 0 0 w1).mono ?_
  rintro e w2 ⟨rfl, rfl⟩
  go_wp2
  go_ret
  exact ⟨rfl, hc, hg⟩
theorem pen_bytes_any (h : Pen w lo hi a xs p big bad) (n : Nat) :
    Calls Tryz.prog 189 #[.pointer (some ⟨a, 0, none⟩), .int .i64 n] w fun e w' =>
      ∃ q m c p' bad', e = .returned (.slice q m c) ∧ Pen w' lo hi a xs p' big bad' ∧ w.grownBy w' (some a) ∧ ((bad' = true ∧ (bad = true ∨ xs.length < p + n)) ∨ (bad = false ∧ bad' = false ∧ p' = p + n)) := by
  obtain ⟨⟨base, q, c, hc, hl, ho⟩, h1, h2, h3⟩ := h
  have hle := hc.le
  by_cases hb : bad = true
  · refine (cbytes_no hc n (.inl hb)).mono ?_
    rintro e w' ⟨rfl, hc', hg⟩
    exact ⟨_, _, _, _, _, rfl, ⟨⟨_, _, _, hc', hl, ho⟩, h1, h2, Nat.le_trans h3 hg.size⟩, hg, .inl ⟨rfl, .inl hb⟩⟩
  · obtain rfl : bad = false := by simpa using hb
    by_cases hn : p + n ≤ xs.length
    · refine (cbytes_ok hc n hn).mono ?_
      rintro e w' ⟨⟨_, _, rfl⟩, hc', hg⟩
      exact ⟨_, _, _, _, _, rfl, ⟨⟨_, _, _, hc', hl, ho⟩, h1, h2, Nat.le_trans h3 hg.size⟩, hg, .inr ⟨rfl, rfl, rfl⟩⟩
    · refine (cbytes_no hc n (.inr (.inr (by omega)))).mono ?_
      rintro e w' ⟨rfl, hc', hg⟩
      exact ⟨_, _, _, _, _, rfl, ⟨⟨_, _, _, hc', hl, ho⟩, h1, h2, Nat.le_trans h3 hg.size⟩, hg, .inl ⟨rfl, .inr (by omega)⟩⟩
end Go.Proofs.YtdagnkdonlfobaaGreat

/- errors.Is of a Wrong and of the Errno that it wraps: yes; of no error: no; and the cursor's own Wrong. No condition but that the cursor is there. -/
namespace Go.Proofs.YtdagnkdonlfobaaGreat
open Go.RowKit Go.Extern.Stop Go.Stop Go.Extern
variable {w w' : World}

theorem un_wrong (v : Value) (w : World) : (Instr.typeAssert (.iface 266 v) 206 276 true).run Tryz.prog w = .ok (.tuple #[.iface 266 v, .bool true]) w :=
  run_typeAssert_hasB Tryz.underlying276 (by kernel_rfl) v _ w
theorem me_wrong (a : Addr) (w : World) : (method 431 266 (.pointer (some a)) "Unwrap").run Tryz.prog w = .ok (241, .pointer (some a)) w := by kernel_rfl
theorem tyE (v : Value) (w : World) : (ReflectliteType.typeOf #[.iface 44 v]).run Tryz.prog w = .ok (.iface 271 (.agg #[.pointer (some ⟨1, 44, none⟩)])) w := by kernel_rfl
theorem mCmp (h : Value) (w : World) : (Go.method 431 271 (.agg #[h]) "Comparable").run Tryz.prog w = .ok (245, .agg #[h]) w := by kernel_rfl
theorem lkI_wrong (v : Value) (w : World) : (Instr.typeAssert (.iface 266 v) 206 273 true).run Tryz.prog w = .ok (.tuple #[.nilIface, .bool false]) w :=
  run_typeAssert_lacksB Tryz.underlying273 (by kernel_rfl) (by kernel_rfl) v _ w
theorem eq_we (v u : Value) (w : World) : (binOp .eql 206 (.iface 266 v) (.iface 44 u)).run Tryz.prog w = .ok (.bool false) w :=
  run_eql_iface_types _ _ v u Tryz.underlying206 (by decide) w
theorem compE : (Tryz.prog.info? 44).map (·.comparable) = some true := by kernel_rfl
theorem eq_ee (e : Int) (w : World) : (binOp .eql 206 (.iface 44 (.int .i64 e)) (.iface 44 (.int .i64 e))).run Tryz.prog w = .ok (.bool true) w := by
  obtain ⟨i, hi, hc⟩ := Option.map_eq_some_iff.1 compE
  have h : ∀ d : Nat, (Op.equalIn (d + 2) 206 (.iface 44 (.int .i64 e)) (.iface 44 (.int .i64 e))).run Tryz.prog w = .ok true w := fun d => by
    simp [Op.equalIn, run_underlying Tryz.underlying206, run_underlying Tryz.underlying44, typeInfo, hi, hc]
  simp only [binOp]
  simp [Op.equal, Op.maxDepth, h 9998]
set_option maxHeartbeats 4000000 in
theorem is_in (b : Nat) (e : Int) (w : World) (hc : w.cell? ⟨b, 1, none⟩ = some (.int .i64 e)) :
    Calls Tryz.prog 164 #[.iface 266 (.pointer (some ⟨b, 0, none⟩)), .iface 44 (.int .i64 e), .bool true] w fun r w' => r = .returned (.bool true) ∧ w = w' := by
  have f3 := lkI_wrong (.pointer (some ⟨b, 0, none⟩))
  have f4 := un_wrong (.pointer (some ⟨b, 0, none⟩))
  have f5 := me_wrong ⟨b, 0, none⟩
  have f6 := eq_we (.pointer (some ⟨b, 0, none⟩)) (.int .i64 e)
  have f7 := eq_ee e
  go_enter Tryz.func164, Tryz.ntmps164
  go_wp2
  refine wp_loop_rounds 2 ?_
  rw [rounds_succ]
  go_wp2
  rw [rounds_succ]
  go_wp2
  go_ret
  exact ⟨rfl, rfl⟩
theorem cE (w : World) : (ReflectliteType.method (fun t => do Rtype.noPackHeld "Comparable" t; (fun a : TypeInfo => Value.bool a.comparable) <$> typeInfo t) #[.agg #[.pointer (some ⟨1, 44, none⟩)]]).run Tryz.prog w = .ok (.bool true) w := by kernel_rfl
set_option maxHeartbeats 4000000 in
set_option maxRecDepth 20000 in
theorem is_wrong (b : Nat) (e : Int) (w : World) (hc : w.cell? ⟨b, 1, none⟩ = some (.int .i64 e)) :
    Calls Tryz.prog 126 #[.iface 266 (.pointer (some ⟨b, 0, none⟩)), .iface 44 (.int .i64 e)] w fun r w' => r = .returned (.bool true) ∧ w = w' := by
  have hT := @run_callFunc_extern Tryz.prog 163 _ ReflectliteType.typeOf Tryz.func163 (by kernel_rfl) (by kernel_rfl) (by kernel_rfl) (by kernel_rfl)
  have hC := @run_callFunc_extern Tryz.prog 245 _ (ReflectliteType.method (fun t => do Rtype.noPackHeld "Comparable" t; pure (.bool (← typeInfo t).comparable))) Tryz.func245 (by kernel_rfl) (by kernel_rfl) (by kernel_rfl) (by kernel_rfl)
  have f1 := tyE
  have f2 := mCmp
  have f3 := cE
  have I := Lib.hid (is_in b e w hc)
  clear hc
  go_enter Tryz.func126, Tryz.ntmps126
  go_wp2_with fail
  refine I.out.mono ?_
  rintro r w' ⟨rfl, rfl⟩
  go_wp2
  go_ret
  exact ⟨rfl, rfl⟩

theorem eq_nn (w : World) : (binOp .eql 206 .nilIface .nilIface).run Tryz.prog w = .ok (.bool true) w := by kernel_rfl
theorem eq_ne (v : Value) (w : World) : (binOp .eql 206 .nilIface (.iface 44 v)).run Tryz.prog w = .ok (.bool false) w := by kernel_rfl
theorem is_nil (e : Int) (w : World) : Calls Tryz.prog 126 #[.nilIface, .iface 44 (.int .i64 e)] w fun r w' => r = .returned (.bool false) ∧ w = w' := by
  have f1 := eq_nn
  have f2 := eq_ne (.int .i64 e)
  go_enter Tryz.func126, Tryz.ntmps126
  go_wp2
  go_ret
  exact ⟨rfl, rfl⟩
section
variable {lo hi a : Nat} {xs : List Int} {p : Nat} {big : Bool}
theorem wrong_no (h : Pen w lo hi a xs p big false) :
    Calls Tryz.prog 157 #[.pointer (some ⟨a, 0, none⟩)] w fun e w' => e = .returned .nilIface ∧ w = w' := by
  have E := Lib.hid (pen_err h)
  clear h
  go_enter Tryz.func157, Tryz.ntmps157
  go_wp2_with fail
  refine E.out.mono ?_
  rintro e w1 ⟨rfl, rfl⟩
  go_wp2
  go_ret
  exact ⟨rfl, rfl⟩
theorem wrong_yes (h : Pen w lo hi a xs p big true) :
    Calls Tryz.prog 157 #[.pointer (some ⟨a, 0, none⟩)] w fun e w' => ∃ b, e = .returned (.iface 266 (.pointer (some ⟨b, 0, none⟩))) ∧ w'.cell? ⟨b, 1, none⟩ = some (.int .i64 3) ∧ w.grownBy w' none := by
  have E := Lib.hid (pen_err h)
  have T := Lib.hid (pen_at h)
  clear h
  go_enter Tryz.func157, Tryz.ntmps157
  go_wp2_with fail
  refine E.out.mono ?_
  rintro e w1 ⟨rfl, rfl⟩
  go_wp2_with fail
  refine T.out.mono ?_
  rintro e w1 ⟨rfl, rfl⟩
  go_wp2
  go_ret
  exact ⟨_, rfl, by rw [cell_of (heap_alloc_new w _)]; rfl, grown1 _ _⟩
end
end Go.Proofs.YtdagnkdonlfobaaGreat

/- May a command be, by the program; which subtypes and kinds there are. No condition. -/
namespace Go.Proofs.YtdagnkdonlfobaaGreat
open Go.RowKit
variable {w w' : World}

theorem submay_any (s : Int) : Calls Tryz.prog 158 #[.int .i64 s] w fun e w' => e = .returned (.bool (decide (s = 0 ∨ s = 2))) ∧ w = w' := by
  by_cases h0 : s = 0
  · subst h0
    go_enter Tryz.func158, Tryz.ntmps158
    go_wp2
    go_ret
    exact ⟨rfl, rfl⟩
  · have e0 : (s == 0) = false := by simpa using h0
    have hv : decide (s = 0 ∨ s = 2) = (s == 2) := by
      rw [Bool.eq_iff_iff]; simp [h0]
    rw [hv]
    clear hv h0
    go_enter Tryz.func158, Tryz.ntmps158
    go_wp2
    go_ret
    exact ⟨rfl, rfl⟩
theorem kindmay_any (s : Int) : Calls Tryz.prog 159 #[.int .i64 s] w fun e w' => e = .returned (.bool (decide (s = 2 ∨ s = 6))) ∧ w = w' := by
  by_cases h0 : s = 2
  · subst h0
    go_enter Tryz.func159, Tryz.ntmps159
    go_wp2
    go_ret
    exact ⟨rfl, rfl⟩
  · have e0 : (s == 2) = false := by simpa using h0
    have hv : decide (s = 2 ∨ s = 6) = (s == 6) := by
      rw [Bool.eq_iff_iff]; simp [h0]
    rw [hv]
    clear hv h0
    go_enter Tryz.func159, Tryz.ntmps159
    go_wp2
    go_ret
    exact ⟨rfl, rfl⟩

/-- A number that may not be there: it has failed then; else it is the bytes' own. -/
theorem pen_num_may {lo hi a : Nat} {xs : List Int} {p : Nat} {big bad : Bool} (h : Pen w lo hi a xs p big bad) (n : Nat) (hs : n = 1 ∨ n = 2 ∨ n = 4 ∨ n = 8) :
    Calls Tryz.prog 155 #[.pointer (some ⟨a, 0, none⟩), .int .i64 n] w fun e w' =>
      ∃ p', e = .returned (.int .u64 (if bad || decide (xs.length < p + n) then 0 else numOf big ((xs.drop p).take n))) ∧ Pen w' lo hi a xs p' big (bad || decide (xs.length < p + n)) ∧ w.grownBy w' (some a) ∧ ((bad || decide (xs.length < p + n)) = false → p' = p + n) := by
  cases bad
  · by_cases hn : p + n ≤ xs.length
    · refine (pen_num h n hs hn).mono ?_
      rintro e w' ⟨rfl, hp, hg⟩
      have e : decide (xs.length < p + n) = false := by simp; omega
      rw [e]
      exact ⟨_, rfl, hp, hg, fun _ => rfl⟩
    · refine (pen_num_no h n (.inr (.inr (by omega)))).mono ?_
      rintro e w' ⟨rfl, hp, hg⟩
      have e : decide (xs.length < p + n) = true := by simp; omega
      rw [e]
      exact ⟨_, rfl, hp, hg, fun h => by cases h⟩
  · refine (pen_num_no h n (.inl rfl)).mono ?_
    rintro e w' ⟨rfl, hp, hg⟩
    exact ⟨_, rfl, hp, hg, fun h => by cases h⟩

theorem take8 (ys : List Int) : ((ys.take 8).drop 0).take 4 = ys.take 4 ∧ ((ys.take 8).drop (0 + 4)).take 4 = (ys.drop 4).take 4 := by
  constructor
  · rw [List.drop_zero, List.take_take]; rfl
  · rw [List.drop_take, List.take_take]; rfl
theorem may_any (m : Cm) (hf : m.Fits) (hb : IsBytes w m.q m.cap m.bytes) :
    Calls Tryz.prog 190 #[m.v] w fun e w' => e = .returned (.bool (mayB m.cmd m.bytes)) ∧ w.grownBy w' none := by
  have hcap := hf.cap
  have hlen := hf.len
  have hq : m.q = none → m.cap = 0 := fun e => by
    rcases hb.ways with ⟨_, _, h⟩ | ⟨x, h, _⟩
    · exact h
    · rw [h] at e; cases e
  have N := Lib.hid (fun (k : Nat) (hk : k ≤ m.bytes.length) (hk8 : k ≤ 8) (w1 : World) (hg : w.grownBy w1 none) => pen_new (w := w1) (n := k) ((hb.kept hg (by simp)).take (c' := m.cap) k hq) (by rw [List.length_take]; omega) (by omega) (fun x hx => hf.bytes x (List.mem_of_mem_take hx)) false)
  have hz := CmAt.new w m
  have hgr := grown1 w (.cells #[.int .u32 m.cmd, .slice m.q m.bytes.length m.cap] 109)
  have HB : Hid (mayB m.cmd m.bytes = decide (8 ≤ m.bytes.length ∧ m.bytes.length % 8 = 0 ∧ leN (m.bytes.take 4) = m.cmd ∧ leN ((m.bytes.drop 4).take 4) = m.bytes.length)) := Lib.hid rfl
  have Z := Lib.hid hz
  have GR := Lib.hid hgr
  have c1 := hz.c1
  have hB0 := leN4_bd hf.bytes 0
  rw [List.drop_zero] at hB0
  unfold Cm.v
  by_cases h8 : 8 ≤ m.bytes.length
  · obtain ⟨V0, hV0⟩ : ∃ V, V = leN (m.bytes.take 4) := ⟨_, rfl⟩
    obtain ⟨V4, hV4⟩ : ∃ V, V = leN ((m.bytes.drop 4).take 4) := ⟨_, rfl⟩
    rw [← hV0] at hB0 HB
    rw [← hV4] at HB
    have T0 := Lib.hid (show numOf false (((m.bytes.take 8).drop 0).take 4) = V0 by rw [(take8 m.bytes).1, hV0]; rfl)
    have T4 := Lib.hid (show numOf false (((m.bytes.take 8).drop (0 + 4)).take 4) = V4 by rw [(take8 m.bytes).2, hV4]; rfl)
    have u0 : (V0 % 4294967296) = V0 := by omega
    have u1 : IntKind.u32.wrap V0 = V0 := by rw [IntKind.wrap_u32]; exact u0
    clear hV0 hV4 hB0
    have N := Lib.hid (N.out 8 h8 (by omega))
    have hmin : min (m.bytes.length : Int) 8 = 8 := by omega
    clear hb hf hgr hz
    go_enter Tryz.func190, Tryz.ntmps190
    go_wp2_with fail
    refine (N.out _ GR.out).mono ?_
    rintro e w1 ⟨a, rfl, hp, hbel⟩
    have G1 := Lib.hid (grown_trans GR.out (grown_below hbel none))
    have Z1 := Lib.hid (grown_below hbel none)
    have la := hp.lw
    have P1 := Lib.hid hp
    clear hp hbel
    go_wp2_with fail
    refine (pen_num P1.out 4 (.inr (.inr (.inl rfl))) (by rw [List.length_take]; omega)).mono ?_
    rintro e w2 ⟨rfl, hp, hg⟩
    rw [T0.out]
    have G2 := Lib.hid (grown_new G1.out hg (Nat.le_trans GR.out.size la))
    have Z2 := Lib.hid (grown_new Z1.out hg la)
    have P2 := Lib.hid hp
    clear hp hg
    go_wp2_with fail
    refine (pen_num P2.out 4 (.inr (.inr (.inl rfl))) (by rw [List.length_take]; omega)).mono ?_
    rintro e w3 ⟨rfl, hp, hg⟩
    rw [T4.out]
    have G3 := Lib.hid (grown_new G2.out hg (Nat.le_trans GR.out.size la))
    have GZ := Lib.hid (grown_new Z2.out hg la)
    have P3 := Lib.hid hp
    clear hp hg
    clear c1
    go_wp2_with fail
    refine (pen_err P3.out).mono ?_
    rintro e w4 ⟨rfl, rfl⟩
    have G4 := Lib.hid G3.out
    have hz4 := CmAt.grown Z.out (show (w.alloc (.cells #[.int .u32 m.cmd, .slice m.q m.bytes.length m.cap] 109)).grownBy w3 none from GZ.out)
    have c0 := hz4.c0
    have c1 := hz4.c1
    clear hz4
    by_cases hm8 : m.bytes.length % 8 = 0
    · by_cases h4 : V4 = (m.bytes.length : Int)
      · by_cases h0 : V0 = m.cmd
        · have dm : ((m.bytes.length : Int) % 8 == 0) = true := by simp; omega
          have dc : (V0 == m.cmd) = true := by simp; omega
          have dl : (V4 == (m.bytes.length : Int)) = true := by simp; omega
          have HV := Lib.hid (show mayB m.cmd m.bytes = true by rw [HB.out]; simp; omega)
          clear HB h4 h0 hm8 h8
          go_wp2
          go_ret
          exact ⟨ret_bool (by rw [HV.out]), G4.out⟩
        · have dm : ((m.bytes.length : Int) % 8 == 0) = true := by simp; omega
          have dc : (V0 == m.cmd) = false := by simp; omega
          have dl : (V4 == (m.bytes.length : Int)) = true := by simp; omega
          have HV := Lib.hid (show mayB m.cmd m.bytes = false by rw [HB.out]; simp; omega)
          clear HB h4 h0 hm8 h8
          go_wp2
          go_ret
          exact ⟨ret_bool (by rw [HV.out]), G4.out⟩
      · have dm : ((m.bytes.length : Int) % 8 == 0) = true := by simp; omega
        have dl : (V4 == (m.bytes.length : Int)) = false := by simp; omega
        have HV := Lib.hid (show mayB m.cmd m.bytes = false by rw [HB.out]; simp; omega)
        clear HB h4 hm8 h8
        go_wp2
        go_ret
        exact ⟨ret_bool (by rw [HV.out]), G4.out⟩
    · have dm : ((m.bytes.length : Int) % 8 == 0) = false := by simp; omega
      have HV := Lib.hid (show mayB m.cmd m.bytes = false by rw [HB.out]; simp; omega)
      clear HB hm8 h8
      go_wp2
      go_ret
      exact ⟨ret_bool (by rw [HV.out]), G4.out⟩
  · have N := Lib.hid (N.out m.bytes.length (Nat.le_refl _) (by omega))
    have hmin : min (m.bytes.length : Int) 8 = m.bytes.length := by omega
    have HV := Lib.hid (show mayB m.cmd m.bytes = false by rw [HB.out]; simp; omega)
    have HT := Lib.hid (List.take_of_length_le (Nat.le_refl m.bytes.length))
    rw [HT.out] at N
    clear hb hf hgr hz HB
    by_cases h4 : m.bytes.length < 4
    · go_enter Tryz.func190, Tryz.ntmps190
      go_wp2_with fail
      refine (N.out _ GR.out).mono ?_
      rintro e w1 ⟨a, rfl, hp, hbel⟩
      have G1 := Lib.hid (grown_trans GR.out (grown_below hbel none))
      have Z1 := Lib.hid (grown_below hbel none)
      have la := hp.lw
      have P1 := Lib.hid hp
      clear hp hbel
      go_wp2_with fail
      refine (pen_num_no P1.out 4 (.inr (.inr (by omega)))).mono ?_
      rintro e w2 ⟨rfl, hp, hg⟩
      have G2 := Lib.hid (grown_new G1.out hg (Nat.le_trans GR.out.size la))
      have Z2 := Lib.hid (grown_new Z1.out hg la)
      have P2 := Lib.hid hp
      clear hp hg
      go_wp2_with fail
      refine (pen_num_no P2.out 4 (.inl rfl)).mono ?_
      rintro e w3 ⟨rfl, hp, hg⟩
      have G3 := Lib.hid (grown_new G2.out hg (Nat.le_trans GR.out.size la))
      have GZ := Lib.hid (grown_new Z2.out hg la)
      have P3 := Lib.hid hp
      clear hp hg
      clear c1
      go_wp2_with fail
      refine (pen_err P3.out).mono ?_
      rintro e w4 ⟨rfl, rfl⟩
      clear h8 h4
      go_wp2
      go_ret
      exact ⟨ret_bool (by rw [HV.out]), G3.out⟩
    · obtain ⟨V0, hV0⟩ : ∃ V, V = leN (m.bytes.take 4) := ⟨_, rfl⟩
      rw [← hV0] at hB0
      have T0 := Lib.hid (show numOf false (((m.bytes).drop 0).take 4) = V0 by rw [List.drop_zero, hV0]; rfl)
      have u0 : (V0 % 4294967296) = V0 := by omega
      have u1 : IntKind.u32.wrap V0 = V0 := by rw [IntKind.wrap_u32]; exact u0
      clear hV0 hB0
      go_enter Tryz.func190, Tryz.ntmps190
      go_wp2_with fail
      refine (N.out _ GR.out).mono ?_
      rintro e w1 ⟨a, rfl, hp, hbel⟩
      have G1 := Lib.hid (grown_trans GR.out (grown_below hbel none))
      have Z1 := Lib.hid (grown_below hbel none)
      have la := hp.lw
      have P1 := Lib.hid hp
      clear hp hbel
      go_wp2_with fail
      refine (pen_num P1.out 4 (.inr (.inr (.inl rfl))) (by omega)).mono ?_
      rintro e w2 ⟨rfl, hp, hg⟩
      rw [T0.out]
      have G2 := Lib.hid (grown_new G1.out hg (Nat.le_trans GR.out.size la))
      have Z2 := Lib.hid (grown_new Z1.out hg la)
      have P2 := Lib.hid hp
      clear hp hg
      go_wp2_with fail
      refine (pen_num_no P2.out 4 (.inr (.inr (by omega)))).mono ?_
      rintro e w3 ⟨rfl, hp, hg⟩
      have G3 := Lib.hid (grown_new G2.out hg (Nat.le_trans GR.out.size la))
      have GZ := Lib.hid (grown_new Z2.out hg la)
      have P3 := Lib.hid hp
      clear hp hg
      clear c1
      go_wp2_with fail
      refine (pen_err P3.out).mono ?_
      rintro e w4 ⟨rfl, rfl⟩
      clear h8 h4
      go_wp2
      go_ret
      exact ⟨ret_bool (by rw [HV.out]), G3.out⟩
end Go.Proofs.YtdagnkdonlfobaaGreat

/- Sums that are within: the program's Add and Within. No condition but the ranges of their kind. -/
namespace Go.Proofs.YtdagnkdonlfobaaGreat
open Go.RowKit
variable {w w' : World}

theorem add64i_run (x y : Int) (w : World) (hx : 0 ≤ x ∧ x < 18446744073709551616) (hy : 0 ≤ y ∧ y < 18446744073709551616) :
    (callFunc 175 #[.int .u64 x, .int .u64 y, .int .u64 0]).run Tryz.prog w =
      .ok (.value (.tuple #[.int .u64 ((x + y) % 18446744073709551616), .int .u64 ((x + y) / 18446744073709551616)])) w := by
  obtain ⟨m, rfl⟩ := Int.eq_ofNat_of_zero_le hx.1
  obtain ⟨n, rfl⟩ := Int.eq_ofNat_of_zero_le hy.1
  rw [run_callFunc_extern Tryz.func175 (by kernel_rfl) (by kernel_rfl) (by kernel_rfl) (e := add64Entry) (by kernel_rfl), run_add64 m n 0 (by omega) (by omega) (by omega) (by omega)]
  simp only [Result.andThen]
  congr 5 <;> omega
theorem addi_yes (a b : Int) (ha : 0 ≤ a ∧ a < 18446744073709551616) (hb : 0 ≤ b ∧ b < 18446744073709551616) (h : a + b < 18446744073709551616) (w : World) :
    Calls Tryz.prog 137 #[.int .u64 a, .int .u64 b] w fun e w' => e = .returned (.tuple #[.int .u64 (a + b), .bool true]) ∧ w = w' := by
  have hr := add64i_run a b w ha hb
  rw [show (a + b) % 18446744073709551616 = a + b by omega, show (a + b) / 18446744073709551616 = 0 by omega] at hr
  go_enter Tryz.func137, Tryz.ntmps137
  go_wp2
  go_ret2
  exact ⟨rfl, rfl⟩
theorem addi_no (a b : Int) (ha : 0 ≤ a ∧ a < 18446744073709551616) (hb : 0 ≤ b ∧ b < 18446744073709551616) (h : ¬ a + b < 18446744073709551616) (w : World) :
    Calls Tryz.prog 137 #[.int .u64 a, .int .u64 b] w fun e w' => e = .returned (.tuple #[.int .u64 0, .bool false]) ∧ w = w' := by
  have hr := add64i_run a b w ha hb
  rw [show (a + b) / 18446744073709551616 = 1 by omega] at hr
  go_enter Tryz.func137, Tryz.ntmps137
  go_wp2
  go_ret2
  exact ⟨rfl, rfl⟩
theorem withini_any (a b c : Int) (ha : 0 ≤ a ∧ a < 18446744073709551616) (hb : 0 ≤ b ∧ b < 18446744073709551616) (hc : 0 ≤ c ∧ c < 18446744073709551616) (w : World) :
    Calls Tryz.prog 97 #[.int .u64 a, .int .u64 b, .int .u64 c] w fun e w' => e = .returned (.bool (decide (a + b ≤ c))) ∧ w = w' := by
  by_cases h : a + b < 18446744073709551616
  · have hs := Lib.hid (addi_yes a b ha hb h w)
    go_enter Tryz.func97, Tryz.ntmps97
    go_wp2_with fail
    refine hs.out.mono ?_
    rintro e w' ⟨rfl, rfl⟩
    go_wp2
    go_ret
    exact ⟨ret_bool (by simp), rfl⟩
  · have hs := Lib.hid (addi_no a b ha hb h w)
    have e : decide (a + b ≤ c) = false := by simp; omega
    rw [e]
    clear e
    go_enter Tryz.func97, Tryz.ntmps97
    go_wp2_with fail
    refine hs.out.mono ?_
    rintro e w' ⟨rfl, rfl⟩
    go_wp2
    go_ret
    exact ⟨rfl, rfl⟩
end Go.Proofs.YtdagnkdonlfobaaGreat
