import Derived.Test.YtemdbfgpimfkdaaM4
import Derived.Test.YtemdbfgpimfkdaaM2
import Derived.Test.YtemdbfgpimfkdaaM3
/- Commands as records in memory: how an argument that is a slice of them lies there; are they few; which may be. No condition. -/
namespace Go.Proofs.Ytemdbfgpimfkdaa
open Go.RowKit Go.ChangeShapes Go.WideShapes Go.Deep
variable {w w' : World}

structure Cm where
  cmd : Int
  q : Option Addr
  cap : Nat
  bytes : List Int
structure Cm.Fits (m : Cm) : Prop where
  cmd : 0 ≤ m.cmd ∧ m.cmd < 4294967296
  bytes : Small m.bytes
  len : m.bytes.length ≤ m.cap
  cap : m.cap ≤ 9223372036854775807
def Cm.zero : Cm := ⟨0, none, 0, []⟩
def Cm.v (m : Cm) : Value := .agg #[.int .u32 m.cmd, .slice m.q m.bytes.length m.cap]
/-- One command's two cells, and its bytes. -/
def CmCells (w : World) (a : Addr) (m : Cm) : Prop :=
  (w.cell? (a.add 0) = some (.int .u32 m.cmd) ∧ w.cell? (a.add 1) = some (.slice m.q m.bytes.length m.cap)) ∧ IsBytes w m.q m.cap m.bytes
def IsCms (w : World) (p : Option Addr) (l : List Cm) : Prop :=
  0 < l.length → ∃ b o, p = some ⟨b, o, none⟩ ∧ ∀ i m, l[i]? = some m →
    (w.cell? ⟨b, o + i * 2, none⟩ = some (.int .u32 m.cmd) ∧ w.cell? ⟨b, o + i * 2 + 1, none⟩ = some (.slice m.q m.bytes.length m.cap)) ∧
    IsBytes w m.q m.cap m.bytes
theorem IsCms.grown {p : Option Addr} {l : List Cm} (h : IsCms w p l) (hg : w.grownBy w' none) : IsCms w' p l := by
  intro hl
  obtain ⟨b, o, rfl, hc⟩ := h hl
  refine ⟨b, o, rfl, fun i m hm => ?_⟩
  obtain ⟨⟨h0, h1⟩, h4⟩ := hc i m hm
  exact ⟨⟨hg.cell h0 (by simp), hg.cell h1 (by simp)⟩, h4.kept hg (by simp)⟩
/-- One command, in a block of its own. -/
def CmAt (w : World) (g : Nat) (m : Cm) : Prop := w.heap[g]? = some (.cells #[.int .u32 m.cmd, .slice m.q m.bytes.length m.cap] 44 (0, 0))
theorem CmAt.c0 {g : Nat} {m : Cm} (h : CmAt w g m) : w.cell? ⟨g, 0, none⟩ = some (.int .u32 m.cmd) := by rw [cell_of h]; rfl
theorem CmAt.c1 {g : Nat} {m : Cm} (h : CmAt w g m) : w.cell? ⟨g, 1, none⟩ = some (.slice m.q m.bytes.length m.cap) := by rw [cell_of h]; rfl
theorem CmAt.new (w : World) (m : Cm) : CmAt (w.alloc (.cells #[.int .u32 m.cmd, .slice m.q m.bytes.length m.cap] 44)) w.heap.size m := heap_alloc_new w _
theorem CmAt.kept {g : Nat} {m : Cm} {row : Option Nat} (h : CmAt w g m) (hg : w.grownBy w' row) (hr : row ≠ some g) : CmAt w' g m := (hg.block g (lt_of_block h) (fun e => hr e.symm)).trans h
theorem CmAt.grown {g : Nat} {m : Cm} (h : CmAt w g m) (hg : w.grownBy w' none) : CmAt w' g m := h.kept hg (by simp)
theorem isCms_one {g : Nat} {m : Cm} (h : CmAt w g m) (hb : IsBytes w m.q m.cap m.bytes) : IsCms w (some ⟨g, 0, none⟩) [m] := by
  intro _
  refine ⟨g, 0, rfl, fun i s hs => ?_⟩
  have hi : i = 0 := by
    rcases Nat.eq_zero_or_pos i with h | h
    · exact h
    · rw [List.getElem?_eq_none (by simp; omega)] at hs; cases hs
  subst hi
  injection hs with hs
  subst hs
  exact ⟨⟨by rw [cell_of h]; rfl, by rw [cell_of h]; rfl⟩, hb⟩

set_option maxRecDepth 20000 in
theorem open_cm {H : Type} {enc : TypeId × Value → H} {base : Nat} {held : Bool} {fuel : Nat} {cs : List Value} {x : DataW H × List MemPlace} {a : Addr}
    (hc : w.cells? base a 2 = some cs) (h : DataW.trod enc Try.prog w base (fun _ => true) held fuel 44 cs = some x) : ∃ m : Cm, m.Fits ∧ CmCells w a m := by
  obtain ⟨_, hcl, hat⟩ := World.cells?_some hc
  obtain ⟨xs, n, _, _, _, hxl, hf⟩ := DataW.trod_struct Try.underlying44 h
  have q4 : Try.prog.cellsOf 25 = 1 := by kernel_rfl
  have qs : Try.prog.cellsOf 22 = 1 := by kernel_rfl
  match cs, hcl with
  | [c0, c3], _ =>
    have g0 : DataW.trod enc Try.prog w base (fun _ => true) held n 25 (([c0, c3].drop 0).take (Try.prog.cellsOf 25)) = xs[0]? := hf 0 _ rfl
    have g3 : DataW.trod enc Try.prog w base (fun _ => true) held n 22 (([c0, c3].drop 1).take (Try.prog.cellsOf 22)) = xs[1]? := hf 1 _ rfl
    have lx : xs.length = 2 := hxl
    rw [List.getElem?_eq_getElem (by omega)] at g0
    rw [List.getElem?_eq_getElem (by omega)] at g3
    rw [q4] at g0
    rw [qs] at g3
    obtain ⟨n0, e0, _, w0⟩ := DataW.trod_int Try.underlying25 g0
    obtain ⟨q, l, c, zs, e3, hrow⟩ : ∃ q l c zs, c3 = .slice q l c ∧ IsRow .u8 w q l c zs := by
      rcases open_ints Try.underlying22 Try.underlying5 (by kernel_rfl) g3 with ⟨hcs, _⟩ | ⟨y, l, c, zs, hcs, _, hl, hm, hz, _, hcell, hwz⟩
      · simp at hcs
        exact ⟨none, 0, 0, [], hcs, .inl ⟨rfl, rfl, rfl, rfl⟩⟩
      · simp at hcs
        exact ⟨some y, l, c, zs, hcs, .inr ⟨_, rfl, hl, hm, by simpa using hz, hcell, hwz⟩⟩
    have hlc : l ≤ c ∧ c ≤ 9223372036854775807 := by
      rcases hrow with ⟨_, rfl, rfl, _⟩ | ⟨_, _, h1, h2, _⟩
      · omega
      · unfold maxLen at h2; omega
    obtain ⟨ys, hyl, hys, hyb, _⟩ := hrow.bytes
    subst hyl
    simp at e0
    subst e0 e3
    exact ⟨⟨n0, q, c, ys⟩, ⟨u32_range w0, hys, hlc.1, hlc.2⟩, ⟨hat 0 (by decide), hat 1 (by decide)⟩, hyb⟩

/-- A slice of commands that came in. -/
theorem open_cms {H : Type} {enc : TypeId × Value → H} {base : Nat} {held : Bool} {fuel : Nat} {x : DataW H × List MemPlace} {a : Option Addr} {len cap : Nat}
    (h : DataW.trod enc Try.prog w base (fun _ => true) held fuel 38 [.slice a len cap] = some x) :
    ∃ l : List Cm, l.length = len ∧ IsCms w a l ∧ (∀ m ∈ l, m.Fits) ∧ len ≤ cap ∧ cap ≤ 9223372036854775807 := by
  rcases open_slice Try.underlying38 h with ⟨e, _⟩ | ⟨a', len', cap', m, n, D, Pl, hcs, hb, hl, hm, hmm, hx, hi⟩
  · injection e with e
    injection e with e1 e2 e3
    subst e1 e2 e3
    exact ⟨[], rfl, (fun h => by cases h), (fun s hs => by cases hs), Nat.le_refl _, by omega⟩
  · injection hcs with hcs
    injection hcs with e1 e2 e3
    subst e1 e2 e3
    simp only [if_true] at hmm
    subst hmm
    obtain ⟨l, hll, hlp⟩ := list_of' (⟨0, none, 0, []⟩ : Cm) len (fun i s => s.Fits ∧ CmCells w (a'.add (i * 2)) s) (fun i hil => by
      obtain ⟨cs', hc, ht⟩ := hi i (by omega)
      rw [show Try.prog.cellsOf 44 = 2 by kernel_rfl] at hc
      exact open_cm hc ht)
    refine ⟨l, hll, fun h0 => ?_, fun s hs => ?_, hl, by unfold maxLen at hm; omega⟩
    · obtain ⟨_, ⟨hc, _⟩, _⟩ := hlp 0 (l[0]'h0) (List.getElem?_eq_getElem h0)
      have hc' : w.cell? (a'.add 0) = some (.int .u32 (l[0]'h0).cmd) := by rw [Go.Deep.add_add] at hc; simpa using hc
      obtain ⟨b, o, rfl⟩ := flat_of_cell hc'
      refine ⟨b, o, rfl, fun i s hs => ?_⟩
      obtain ⟨_, ⟨c0, c1⟩, hbs⟩ := hlp i s hs
      simp only [add_flat] at c0 c1
      exact ⟨⟨c0, c1⟩, hbs⟩
    · obtain ⟨i, hi2, rfl⟩ := List.getElem_of_mem hs
      exact (hlp i _ (List.getElem?_eq_getElem hi2)).1

/-- May a command be? -/
def mayB (cmd : Int) (ys : List Int) : Bool := decide (8 ≤ ys.length ∧ ys.length % 8 = 0 ∧ leN (ys.take 4) = cmd ∧ leN ((ys.drop 4).take 4) = ys.length)
def Cm.odd (m : Cm) : Bool := !mayB m.cmd m.bytes
/-- A number's four bytes, the lowest first. -/
def le4 (n : Int) : List Int := [n % 256, n / 256 % 256, n / 65536 % 256, n / 16777216 % 256]
theorem le4_len (n : Int) : (le4 n).length = 4 := rfl
theorem le4_small (n : Int) : Small (le4 n) := fun x hx => by
  simp [le4] at hx
  omega
theorem leN_le4 {n : Int} (h : 0 ≤ n ∧ n < 4294967296) : leN (le4 n) = n := by
  simp only [le4, leN]; omega
theorem leN4_bd {ys : List Int} (h : Small ys) (p : Nat) : 0 ≤ leN ((ys.drop p).take 4) ∧ leN ((ys.drop p).take 4) < 4294967296 := by
  have h1 := leN_bd ((ys.drop p).take 4) (fun x hx => h x (List.mem_of_mem_drop (List.mem_of_mem_take hx)))
  have h2 : ((ys.drop p).take 4).length ≤ 4 := by simp; omega
  have h3 : (2 : Int) ^ (8 * ((ys.drop p).take 4).length) ≤ 2 ^ 32 := by
    have : (2 : Nat) ^ (8 * ((ys.drop p).take 4).length) ≤ 2 ^ 32 := Nat.pow_le_pow_right (by decide) (by omega)
    exact_mod_cast this
  exact ⟨h1.1, Int.lt_of_lt_of_le h1.2 h3⟩
/-- Few commands, of few bytes: at most so many, each of at most 2000 bytes. -/
def fewB (l : List Cm) (most : Int) : Bool := l.all (fun m => decide (m.bytes.length ≤ 2000)) && decide ((l.length : Int) ≤ most)
end Go.Proofs.Ytemdbfgpimfkdaa

/- What commands say, and an image: by numbers and bytes alone. No condition. -/
namespace Go.Proofs.Ytemdbfgpimfkdaa
open Go.RowKit

/-- A number of n bytes at a place; the text of a field of 16 bytes. -/
def numAt (b : List Int) (p n : Nat) : Int := leN ((b.drop p).take n)
def fieldAt (b : List Int) (p : Nat) : List Int := pre ((b.drop p).take 16)
structure Sec where
  name : List Int
  seg : List Int
  addr : Int
  size : Int
  off : Int
  kind : Int
def secAt (b : List Int) (p : Nat) : Sec := ⟨fieldAt b p, fieldAt b (p + 16), numAt b (p + 32) 8, numAt b (p + 40) 8, numAt b (p + 48) 4, numAt b (p + 64) 1⟩
structure Seg where
  name : List Int
  addr : Int
  size : Int
  off : Int
  fsize : Int
  prot : Int
  secs : List Sec

/-- How many bytes a known command has at least (0: it is not known). -/
def leastN (cmd : Int) : Int :=
  if cmd = 2147483688 then 24 else if cmd = 2 then 24 else if cmd = 2147483700 then 16 else if cmd = 2147483699 then 16 else
  if cmd = 2147483682 then 48 else if cmd = 34 then 48 else if cmd = 2147483683 then 24 else if cmd = 2147483679 then 24 else
  if cmd = 2147483672 then 24 else if cmd = 12 then 24 else if cmd = 13 then 24 else if cmd = 25 then 72 else 0
def cmdAt (b : List Int) : Int := numAt b 0 4
def shortB (b : List Int) : Prop := b.length < 8 ∨ (b.length : Int) < leastN (cmdAt b)
instance (b : List Int) : Decidable (shortB b) := by unfold shortB; infer_instance

def manyAt (b : List Int) : Nat := (numAt b 64 4).toNat
def secsN (b : List Int) (n : Nat) : List Sec := (List.range n).map fun i => secAt b (72 + 80 * i)
def oddSec (b : List Int) (n : Nat) : Bool := (secsN b n).any fun s => decide (s.seg ≠ fieldAt b 8)
def segErr (b : List Int) : Int :=
  if shortB b then 3 else if cmdAt b ≠ 25 then 7 else
  if (b.length - 72) / 80 < manyAt b then 3 else
  if 7 < numAt b 60 4 then 9 else
  if oddSec b (manyAt b) = true then 9 else
  if 64 < manyAt b then 11 else 0
def segOf (b : List Int) : Seg := ⟨fieldAt b 8, numAt b 24 8, numAt b 32 8, numAt b 40 8, numAt b 48 8, numAt b 60 4, secsN b (manyAt b)⟩

def named (cmd : Int) : Prop := cmd = 13 ∨ cmd = 12 ∨ cmd = 2147483672 ∨ cmd = 2147483679 ∨ cmd = 2147483683
instance (cmd : Int) : Decidable (named cmd) := by unfold named; infer_instance
def textOf (l : List Int) : List Int := if (pre l).length < l.length ∧ (pre l).length ≤ 255 then pre l else []
def nameOf (b : List Int) : List Int := if (b.length : Int) < numAt b 8 4 then [] else textOf (b.drop (numAt b 8 4).toNat)
def nameErr (b : List Int) : Int := if shortB b then 3 else if ¬ named (cmdAt b) then 7 else if nameOf b = [] then 10 else 0

def spanAt (b : List Int) (p : Nat) (u : Int) : Int × Int := (numAt b p 4, numAt b (p + 4) 4 * u)
def isInfo (cmd : Int) : Prop := cmd = 34 ∨ cmd = 2147483682
instance (cmd : Int) : Decidable (isInfo cmd) := by unfold isInfo; infer_instance
def isLone (cmd : Int) : Prop := cmd = 2147483699 ∨ cmd = 2147483700
instance (cmd : Int) : Decidable (isLone cmd) := by unfold isLone; infer_instance
def spansOf (b : List Int) : List (Int × Int) :=
  if isInfo (cmdAt b) then [spanAt b 8 1, spanAt b 16 1, spanAt b 24 1, spanAt b 32 1, spanAt b 40 1] else
  if isLone (cmdAt b) then [spanAt b 8 1] else
  if cmdAt b = 2 then [spanAt b 8 16, spanAt b 16 1] else []
def spansErr (b : List Int) : Int := if shortB b then 3 else if isInfo (cmdAt b) ∨ isLone (cmdAt b) ∨ cmdAt b = 2 then 0 else 7

/-- An image in the making: what its commands have said so far, and what was met. -/
structure St where
  name : List Int
  segs : List Seg
  deps : List (List Int × Int)
  rb : Int × Int
  bd : Int × Int
  wk : Int × Int
  lz : Int × Int
  tr : Int × Int
  ch : Int × Int
  sy : Int × Int
  st : Int × Int
  entry : Int
  has : Bool
  met : List Int
  secs : Int
def St.zero : St := ⟨[], [], [], (0, 0), (0, 0), (0, 0), (0, 0), (0, 0), (0, 0), (0, 0), (0, 0), 0, false, [], 0⟩
def St.meet (s : St) (k : Int) : St := { s with met := s.met ++ [k] }
def onceE (s : St) (k : Int) : Int := if k ∈ s.met then 21 else 0

def depKind (cmd : Int) : Int := if cmd = 12 then 1 else if cmd = 2147483672 then 2 else if cmd = 2147483679 then 3 else if cmd = 2147483683 then 4 else 0
/-- A segment is taken in. -/
def segE (s : St) (b : List Int) : Int := if segErr b ≠ 0 then segErr b else if s.segs.length = 16 ∨ 64 < s.secs + (segOf b).secs.length then 11 else 0
def segS (s : St) (b : List Int) : St := { s with secs := s.secs + (segOf b).secs.length, segs := s.segs ++ [segOf b] }
/-- The image's own name. -/
def ownE (s : St) (b : List Int) : Int := if nameErr b ≠ 0 then nameErr b else onceE s 13
def ownS (s : St) (b : List Int) : St := { s with name := nameOf b }.meet 13
/-- A dependency. -/
def depE (s : St) (b : List Int) : Int := if nameErr b ≠ 0 then nameErr b else if s.deps.length = 64 then 11 else 0
def depS (s : St) (b : List Int) (k : Int) : St := { s with deps := s.deps ++ [(nameOf b, k)] }
/-- A trie. -/
def trieE (s : St) (x : Int × Int) : Int := if x.2 = 0 then 0 else onceE s 2147483699
def trieS (s : St) (x : Int × Int) : St := if x.2 = 0 then s else { s with tr := x }.meet 2147483699
/-- Spans. -/
def infoS (s : St) (b : List Int) : St := { s.meet 34 with rb := spanAt b 8 1, bd := spanAt b 16 1, wk := spanAt b 24 1, lz := spanAt b 32 1 }
def spE (s : St) (b : List Int) : Int :=
  if spansErr b ≠ 0 then spansErr b else
  if isInfo (cmdAt b) then (if onceE s 34 ≠ 0 then onceE s 34 else trieE (infoS s b) (spanAt b 40 1)) else
  if cmdAt b = 2147483699 then trieE s (spanAt b 8 1) else onceE s (cmdAt b)
def spS (s : St) (b : List Int) : St :=
  if isInfo (cmdAt b) then trieS (infoS s b) (spanAt b 40 1) else
  if cmdAt b = 2147483699 then trieS s (spanAt b 8 1) else
  if cmdAt b = 2147483700 then { s with ch := spanAt b 8 1 }.meet (cmdAt b) else { s with sy := spanAt b 8 16, st := spanAt b 16 1 }.meet (cmdAt b)
/-- The entry. -/
def entE (s : St) (b : List Int) : Int := if shortB b then 3 else onceE s 2147483688
def entS (s : St) (b : List Int) : St := { s with entry := numAt b 8 8, has := true }.meet 2147483688

def stepE (s : St) (b : List Int) : Int :=
  if cmdAt b = 25 then segE s b else if cmdAt b = 13 then ownE s b else if depKind (cmdAt b) ≠ 0 then depE s b else
  if isInfo (cmdAt b) ∨ isLone (cmdAt b) ∨ cmdAt b = 2 then spE s b else if cmdAt b = 2147483688 then entE s b else
  if 2147483648 ≤ cmdAt b then 7 else 0
def stepS (s : St) (b : List Int) : St :=
  if cmdAt b = 25 then segS s b else if cmdAt b = 13 then ownS s b else if depKind (cmdAt b) ≠ 0 then depS s b (depKind (cmdAt b)) else
  if isInfo (cmdAt b) ∨ isLone (cmdAt b) ∨ cmdAt b = 2 then spS s b else if cmdAt b = 2147483688 then entS s b else s
def runE : St → List (List Int) → Int
  | _, [] => 0
  | s, b :: l => if stepE s b = 0 then runE (stepS s b) l else stepE s b
def runS : St → List (List Int) → St
  | s, [] => s
  | s, b :: l => runS (stepS s b) l
theorem runE_snoc (s : St) (l : List (List Int)) (b : List Int) (h : runE s l = 0) : runE s (l ++ [b]) = stepE (runS s l) b := by
  induction l generalizing s with
  | nil =>
    show (if stepE s b = 0 then 0 else stepE s b) = stepE s b
    split
    · rename_i h; exact h.symm
    · rfl
  | cons x l ih =>
    simp only [runE, List.cons_append, runS] at h ⊢
    split at h
    · rename_i h0
      rw [if_pos h0]
      exact ih _ h
    · rename_i h0; exact absurd h h0
theorem runS_snoc (s : St) (l : List (List Int)) (b : List Int) : runS s (l ++ [b]) = stepS (runS s l) b := by
  induction l generalizing s with
  | nil => rfl
  | cons x l ih => exact ih _
theorem runE_stop (s : St) (l r : List (List Int)) (h : runE s l ≠ 0) : runE s (l ++ r) = runE s l := by
  induction l generalizing s with
  | nil => exact absurd rfl h
  | cons x l ih =>
    simp only [runE, List.cons_append] at h ⊢
    split
    · rename_i h0
      rw [if_pos h0] at h
      exact ih _ h
    · rfl
theorem numAt_lt {b : List Int} (h : Small b) (p : Nat) : 0 ≤ numAt b p 4 ∧ numAt b p 4 < 4294967296 := leN4_bd h p
end Go.Proofs.Ytemdbfgpimfkdaa

/- The call that sets where a cursor stands. No condition but that there is such a cursor in memory. -/
namespace Go.Proofs.Ytemdbfgpimfkdaa
open Go.RowKit
variable {w : World} {base a : Nat} {q : Option Addr} {c : Nat} {xs : List Int} {p : Nat} {big bad : Bool}

/-- A place that is within the bytes. -/
theorem seek_ok (h : Cur w base a q c xs p big false) (n : Nat) (hn : n ≤ xs.length) :
    Calls Try.prog 23 #[.pointer (some ⟨a, 0, none⟩), .int .i64 n] w fun e w' => e = .returned (.tuple #[]) ∧ Cur w' base a q c xs n big false ∧ w.grownBy w' (some a) := by
  have h0 := h.c0
  have h1 := h.c1
  have h3 := h.c3
  have f1 := h.f1
  have hbig := h.big
  have F := Lib.hid (h.setAt hn)
  have G := Lib.hid (grown_setCell (i := 1) (grown_refl w (some a)) (.int .i64 (n : Int)))
  have d1 : decide ((n : Int) < 0) = false := by simp
  have d2 : decide (xs.length < n) = false := by simp; omega
  go_enter Try.func23, Try.ntmps23
  go_wp2
  go_end0
  exact ⟨rfl, F.out, G.out⟩
/-- One that has failed stays where it is. -/
theorem seek_bad (h : Cur w base a q c xs p big true) (n : Int) :
    Calls Try.prog 23 #[.pointer (some ⟨a, 0, none⟩), .int .i64 n] w fun e w' => e = .returned (.tuple #[]) ∧ w = w' := by
  have h3 := h.c3
  go_enter Try.func23, Try.ntmps23
  go_wp2
  refine bodyPost_ret (results_none rfl _ _ _) rfl ?_
  exact ⟨rfl, rfl⟩
end Go.Proofs.Ytemdbfgpimfkdaa

/- A cursor in blocks of its own, from lo up to hi: what is done elsewhere turns nothing of it; and the calls of layer 1 on it (for seats without layer 2: the same names as Pen's). No condition. -/
namespace Go.Proofs.Ytemdbfgpimfkdaa
open Go.RowKit
variable {w w' : World} {lo hi a : Nat} {xs : List Int} {p : Nat} {big bad : Bool}

structure Pen (w : World) (lo hi a : Nat) (xs : List Int) (p : Nat) (big bad : Bool) : Prop where
  cur : ∃ base q c, Cur w base a q c xs p big bad ∧ lo ≤ base ∧ ∀ g, (Value.slice q xs.length c).ownBlock = some g → g < hi
  lw : lo ≤ a
  up : a < hi
  sz : hi ≤ w.heap.size

theorem Pen.kept (h : Pen w lo hi a xs p big bad) {b : Nat} (hg : w.grownBy w' (some b)) (hb : b < lo ∨ hi ≤ b) : Pen w' lo hi a xs p big bad := by
  obtain ⟨⟨base, q, c, hc, hl, ho⟩, h1, h2, h3⟩ := h
  refine ⟨⟨base, q, c, hc.kept hg (fun e => by injection e with e; omega) ?_, hl, ho⟩, h1, h2, Nat.le_trans h3 hg.size⟩
  cases hq : (Value.slice q xs.length c).ownBlock with
  | none => exact .inl rfl
  | some g => exact .inr (fun e => by injection e with e; have := ho g hq; have := (hc.own.lt g hq).1; omega)
theorem Pen.same (h : Pen w lo hi a xs p big bad) (hg : w.grownBy w' none) : Pen w' lo hi a xs p big bad := by
  obtain ⟨⟨base, q, c, hc, hl, ho⟩, h1, h2, h3⟩ := h
  refine ⟨⟨base, q, c, hc.kept hg (by simp) ?_, hl, ho⟩, h1, h2, Nat.le_trans h3 hg.size⟩
  cases (Value.slice q xs.length c).ownBlock <;> simp
theorem Pen.below (h : Pen w lo hi a xs p big bad) (hb : Below w.heap.size w w') : Pen w' lo hi a xs p big bad := h.same (grown_below hb none)
theorem Pen.le (h : Pen w lo hi a xs p big bad) : p ≤ xs.length := by obtain ⟨_, _, _, hc, _⟩ := h.cur; exact hc.le
theorem Pen.most (h : Pen w lo hi a xs p big bad) : xs.length ≤ 140737488355328 := by obtain ⟨_, _, _, hc, _⟩ := h.cur; exact hc.big
theorem Pen.small (h : Pen w lo hi a xs p big bad) : Small xs := by obtain ⟨_, _, _, hc, _⟩ := h.cur; exact hc.bytes
theorem Pen.lt (h : Pen w lo hi a xs p big bad) : a < w.heap.size := Nat.lt_of_lt_of_le h.up h.sz

theorem pen_new {q : Option Addr} {c n : Nat} {ys : List Int} (h : IsBytes w q c ys) (hn : ys.length = n) (hb : n ≤ 140737488355328) (hr : ∀ x ∈ ys, 0 ≤ x ∧ x < 256) (big : Bool) :
    Calls Try.prog 36 #[.slice q n c, .bool big] w fun e w' =>
      ∃ a, e = .returned (.pointer (some ⟨a, 0, none⟩)) ∧ Pen w' w.heap.size w'.heap.size a ys 0 big false ∧ Below w.heap.size w w' := by
  subst hn
  refine (new_any h hb hr big).mono ?_
  rintro e w' ⟨⟨a, q', c', rfl, ha, hc, _⟩, hbel⟩
  exact ⟨a, rfl, ⟨⟨_, _, _, hc, Nat.le_refl _, fun g hg => (hc.own.lt g hg).2⟩, ha, hc.lt, Nat.le_refl _⟩, hbel⟩

theorem pen_seek (h : Pen w lo hi a xs p big false) (n : Nat) (hn : n ≤ xs.length) :
    Calls Try.prog 23 #[.pointer (some ⟨a, 0, none⟩), .int .i64 n] w fun e w' => e = .returned (.tuple #[]) ∧ Pen w' lo hi a xs n big false ∧ w.grownBy w' (some a) := by
  obtain ⟨⟨base, q, c, hc, hl, ho⟩, h1, h2, h3⟩ := h
  refine (seek_ok hc n hn).mono ?_
  rintro e w' ⟨rfl, hc', hg⟩
  exact ⟨rfl, ⟨⟨_, _, _, hc', hl, ho⟩, h1, h2, Nat.le_trans h3 hg.size⟩, hg⟩
theorem pen_at (h : Pen w lo hi a xs p big bad) :
    Calls Try.prog 64 #[.pointer (some ⟨a, 0, none⟩)] w fun e w' => e = .returned (.int .i64 p) ∧ w = w' := by
  obtain ⟨⟨base, q, c, hc, hl, ho⟩, h1, h2, h3⟩ := h
  exact at_any hc
theorem pen_err (h : Pen w lo hi a xs p big bad) :
    Calls Try.prog 37 #[.pointer (some ⟨a, 0, none⟩)] w fun e w' => e = .returned (.int .i64 (if bad then 3 else 0)) ∧ w = w' := by
  obtain ⟨⟨base, q, c, hc, hl, ho⟩, h1, h2, h3⟩ := h
  exact err_any hc
theorem pen_num (h : Pen w lo hi a xs p big false) (n : Nat) (hs : n = 1 ∨ n = 2 ∨ n = 4 ∨ n = 8) (hn : p + n ≤ xs.length) :
    Calls Try.prog 24 #[.pointer (some ⟨a, 0, none⟩), .int .i64 n] w fun e w' =>
      e = .returned (.int .u64 (numOf big ((xs.drop p).take n))) ∧ Pen w' lo hi a xs (p + n) big false ∧ w.grownBy w' (some a) := by
  obtain ⟨⟨base, q, c, hc, hl, ho⟩, h1, h2, h3⟩ := h
  refine (number_ok hc n hs hn).mono ?_
  rintro e w' ⟨rfl, hc', hg⟩
  exact ⟨rfl, ⟨⟨_, _, _, hc', hl, ho⟩, h1, h2, Nat.le_trans h3 hg.size⟩, hg⟩
/-- What is no number: 0, and it has failed. -/
theorem pen_num_no (h : Pen w lo hi a xs p big bad) (n : Nat) (hn : bad = true ∨ (n ≠ 1 ∧ n ≠ 2 ∧ n ≠ 4 ∧ n ≠ 8) ∨ xs.length < p + n) :
    Calls Try.prog 24 #[.pointer (some ⟨a, 0, none⟩), .int .i64 n] w fun e w' =>
      e = .returned (.int .u64 0) ∧ Pen w' lo hi a xs p big true ∧ w.grownBy w' (some a) := by
  obtain ⟨⟨base, q, c, hc, hl, ho⟩, h1, h2, h3⟩ := h
  have hle := hc.le
  refine (number_no hc n (by rcases hn with h | h | h; exact .inl h; exact .inr (.inl (by omega)); exact .inr (.inr (by omega)))).mono ?_
  rintro e w' ⟨rfl, hc', hg⟩
  exact ⟨rfl, ⟨⟨_, _, _, hc', hl, ho⟩, h1, h2, Nat.le_trans h3 hg.size⟩, hg⟩
/-- Either way: it has failed then, or it stands so much further. -/
theorem pen_num_any (h : Pen w lo hi a xs p big bad) (n : Nat) (hs : n = 1 ∨ n = 2 ∨ n = 4 ∨ n = 8) :
    Calls Try.prog 24 #[.pointer (some ⟨a, 0, none⟩), .int .i64 n] w fun e w' =>
      ∃ m p' bad', e = .returned (.int .u64 m) ∧ Pen w' lo hi a xs p' big bad' ∧ w.grownBy w' (some a) ∧ (bad' = true ∨ (bad = false ∧ p' = p + n)) := by
  cases bad
  · by_cases hn : p + n ≤ xs.length
    · refine (pen_num h n hs hn).mono ?_
      rintro e w' ⟨rfl, hp, hg⟩
      exact ⟨_, _, _, rfl, hp, hg, .inr ⟨rfl, rfl⟩⟩
    · refine (pen_num_no h n (.inr (.inr (by omega)))).mono ?_
      rintro e w' ⟨rfl, hp, hg⟩
      exact ⟨_, _, _, rfl, hp, hg, .inl rfl⟩
  · refine (pen_num_no h n (.inl rfl)).mono ?_
    rintro e w' ⟨rfl, hp, hg⟩
    exact ⟨_, _, _, rfl, hp, hg, .inl rfl⟩

theorem cbytes_ok {base : Nat} {q : Option Addr} {c : Nat} (h : Cur w base a q c xs p big false) (n : Nat) (hn : p + n ≤ xs.length) :
    Calls Try.prog 66 #[.pointer (some ⟨a, 0, none⟩), .int .i64 n] w fun e w' =>
      (∃ q' c', e = .returned (.slice q' n c')) ∧ Cur w' base a q c xs (p + n) big false ∧ w.grownBy w' (some a) := by
  have T := Lib.hid (take_ok h n hn)
  have hl : ((xs.drop p).take n).length = n := by simp; omega
  have L := Lib.hid hl
  have hbig := h.big
  generalize (xs.drop p).take n = ys at *
  clear hl
  go_enter Try.func66, Try.ntmps66
  go_wp2_with fail
  refine T.out.mono ?_
  rintro e w1 ⟨⟨q', rfl, hb, hn1⟩, hc, hg⟩
  have hcl := clone_any hb (by rw [L.out]; omega)
  rw [L.out] at hcl
  have K := Lib.hid hcl
  clear hcl
  go_wp2_with fail
  refine K.out.mono ?_
  rintro e w2 ⟨⟨q2, c2, rfl, hown, hn2⟩, hbel⟩
  clear hn1 hn2 hown
  have hc2 := hc.kept (grown_below hbel none) (by simp) (by cases (Value.slice q xs.length c).ownBlock <;> simp)
  have hg2 := grown_trans hg (grown_below hbel (some a))
  go_wp2
  go_ret
  exact ⟨⟨_, _, rfl⟩, hc2, hg2⟩
theorem cbytes_no {base : Nat} {q : Option Addr} {c : Nat} (h : Cur w base a q c xs p big bad) (n : Int) (hn : bad = true ∨ n < 0 ∨ (xs.length : Int) - p < n) :
    Calls Try.prog 66 #[.pointer (some ⟨a, 0, none⟩), .int .i64 n] w fun e w' =>
      (e = .returned (.slice none 0 0)) ∧ Cur w' base a q c xs p big true ∧ w.grownBy w' (some a) := by
  have T := Lib.hid (take_no h n hn)
  clear hn
  go_enter Try.func66, Try.ntmps66
  go_wp2_with fail
  refine T.out.mono ?_
  rintro e w1 ⟨rfl, hc, hg⟩
  go_wp2_with fail
  refine (Try.bytes_Clone_nil 0 0 w1).mono ?_
  rintro e w2 ⟨rfl, rfl⟩
  go_wp2
  go_ret
  exact ⟨rfl, hc, hg⟩
theorem pen_bytes_any (h : Pen w lo hi a xs p big bad) (n : Nat) :
    Calls Try.prog 66 #[.pointer (some ⟨a, 0, none⟩), .int .i64 n] w fun e w' =>
      ∃ q m c p' bad', e = .returned (.slice q m c) ∧ Pen w' lo hi a xs p' big bad' ∧ w.grownBy w' (some a) ∧ ((bad' = true ∧ (bad = true ∨ xs.length < p + n)) ∨ (bad = false ∧ bad' = false ∧ p' = p + n)) := by
  obtain ⟨⟨base, q, c, hc, hl, ho⟩, h1, h2, h3⟩ := h
  have hle := hc.le
  by_cases hb : bad = true
  · refine (cbytes_no hc n (.inl hb)).mono ?_
    rintro e w' ⟨rfl, hc', hg⟩
    exact ⟨_, _, _, _, _, rfl, ⟨⟨_, _, _, hc', hl, ho⟩, h1, h2, Nat.le_trans h3 hg.size⟩, hg, .inl ⟨rfl, .inl hb⟩⟩
  · obtain rfl : bad = false := by simpa using hb
    by_cases hn : p + n ≤ xs.length
    · refine (cbytes_ok hc n hn).mono ?_
      rintro e w' ⟨⟨_, _, rfl⟩, hc', hg⟩
      exact ⟨_, _, _, _, _, rfl, ⟨⟨_, _, _, hc', hl, ho⟩, h1, h2, Nat.le_trans h3 hg.size⟩, hg, .inr ⟨rfl, rfl, rfl⟩⟩
    · refine (cbytes_no hc n (.inr (.inr (by omega)))).mono ?_
      rintro e w' ⟨rfl, hc', hg⟩
      exact ⟨_, _, _, _, _, rfl, ⟨⟨_, _, _, hc', hl, ho⟩, h1, h2, Nat.le_trans h3 hg.size⟩, hg, .inl ⟨rfl, .inr (by omega)⟩⟩
end Go.Proofs.Ytemdbfgpimfkdaa
