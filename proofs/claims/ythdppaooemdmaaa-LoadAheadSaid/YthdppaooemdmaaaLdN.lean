/- What commands say, and an image: by numbers and bytes alone. No condition. -/
import Derived.Test.YthdppaooemdmaaaText
import Derived.Test.YthdppaooemdmaaaCm
namespace Go.Proofs.Ythdppaooemdmaaa
open Go.RowKit

/-- A number of n bytes at a place; the text of a field of 16 bytes. -/
def numAt (b : List Int) (p n : Nat) : Int := leN ((b.drop p).take n)
def fieldAt (b : List Int) (p : Nat) : List Int := pre ((b.drop p).take 16)
structure Sec where
  name : List Int
  seg : List Int
  addr : Int
  size : Int
  off : Int
  kind : Int
def secAt (b : List Int) (p : Nat) : Sec := ⟨fieldAt b p, fieldAt b (p + 16), numAt b (p + 32) 8, numAt b (p + 40) 8, numAt b (p + 48) 4, numAt b (p + 64) 1⟩
structure Seg where
  name : List Int
  addr : Int
  size : Int
  off : Int
  fsize : Int
  prot : Int
  secs : List Sec

/-- How many bytes a known command has at least (0: it is not known). -/
def leastN (cmd : Int) : Int :=
  if cmd = 2147483688 then 24 else if cmd = 2 then 24 else if cmd = 2147483700 then 16 else if cmd = 2147483699 then 16 else
  if cmd = 2147483682 then 48 else if cmd = 34 then 48 else if cmd = 2147483683 then 24 else if cmd = 2147483679 then 24 else
  if cmd = 2147483672 then 24 else if cmd = 12 then 24 else if cmd = 13 then 24 else if cmd = 25 then 72 else 0
def cmdAt (b : List Int) : Int := numAt b 0 4
def shortB (b : List Int) : Prop := b.length < 8 ∨ (b.length : Int) < leastN (cmdAt b)
instance (b : List Int) : Decidable (shortB b) := by unfold shortB; infer_instance

def manyAt (b : List Int) : Nat := (numAt b 64 4).toNat
def secsN (b : List Int) (n : Nat) : List Sec := (List.range n).map fun i => secAt b (72 + 80 * i)
def oddSec (b : List Int) (n : Nat) : Bool := (secsN b n).any fun s => decide (s.seg ≠ fieldAt b 8)
def segErr (b : List Int) : Int :=
  if shortB b then 3 else if cmdAt b ≠ 25 then 7 else
  if (b.length - 72) / 80 < manyAt b then 3 else
  if 7 < numAt b 60 4 then 9 else
  if oddSec b (manyAt b) = true then 9 else
  if 64 < manyAt b then 11 else 0
def segOf (b : List Int) : Seg := ⟨fieldAt b 8, numAt b 24 8, numAt b 32 8, numAt b 40 8, numAt b 48 8, numAt b 60 4, secsN b (manyAt b)⟩

def named (cmd : Int) : Prop := cmd = 13 ∨ cmd = 12 ∨ cmd = 2147483672 ∨ cmd = 2147483679 ∨ cmd = 2147483683
instance (cmd : Int) : Decidable (named cmd) := by unfold named; infer_instance
def textOf (l : List Int) : List Int := if (pre l).length < l.length ∧ (pre l).length ≤ 255 then pre l else []
def nameOf (b : List Int) : List Int := if (b.length : Int) < numAt b 8 4 then [] else textOf (b.drop (numAt b 8 4).toNat)
def nameErr (b : List Int) : Int := if shortB b then 3 else if ¬ named (cmdAt b) then 7 else if nameOf b = [] then 10 else 0

def spanAt (b : List Int) (p : Nat) (u : Int) : Int × Int := (numAt b p 4, numAt b (p + 4) 4 * u)
def isInfo (cmd : Int) : Prop := cmd = 34 ∨ cmd = 2147483682
instance (cmd : Int) : Decidable (isInfo cmd) := by unfold isInfo; infer_instance
def isLone (cmd : Int) : Prop := cmd = 2147483699 ∨ cmd = 2147483700
instance (cmd : Int) : Decidable (isLone cmd) := by unfold isLone; infer_instance
def spansOf (b : List Int) : List (Int × Int) :=
  if isInfo (cmdAt b) then [spanAt b 8 1, spanAt b 16 1, spanAt b 24 1, spanAt b 32 1, spanAt b 40 1] else
  if isLone (cmdAt b) then [spanAt b 8 1] else
  if cmdAt b = 2 then [spanAt b 8 16, spanAt b 16 1] else []
def spansErr (b : List Int) : Int := if shortB b then 3 else if isInfo (cmdAt b) ∨ isLone (cmdAt b) ∨ cmdAt b = 2 then 0 else 7

/-- An image in the making: what its commands have said so far, and what was met. -/
structure St where
  name : List Int
  segs : List Seg
  deps : List (List Int × Int)
  rb : Int × Int
  bd : Int × Int
  wk : Int × Int
  lz : Int × Int
  tr : Int × Int
  ch : Int × Int
  sy : Int × Int
  st : Int × Int
  entry : Int
  has : Bool
  met : List Int
  secs : Int
def St.zero : St := ⟨[], [], [], (0, 0), (0, 0), (0, 0), (0, 0), (0, 0), (0, 0), (0, 0), (0, 0), 0, false, [], 0⟩
def St.meet (s : St) (k : Int) : St := { s with met := s.met ++ [k] }
def onceE (s : St) (k : Int) : Int := if k ∈ s.met then 21 else 0

def depKind (cmd : Int) : Int := if cmd = 12 then 1 else if cmd = 2147483672 then 2 else if cmd = 2147483679 then 3 else if cmd = 2147483683 then 4 else 0
/-- A segment is taken in. -/
def segE (s : St) (b : List Int) : Int := if segErr b ≠ 0 then segErr b else if s.segs.length = 16 ∨ 64 < s.secs + (segOf b).secs.length then 11 else 0
def segS (s : St) (b : List Int) : St := { s with secs := s.secs + (segOf b).secs.length, segs := s.segs ++ [segOf b] }
/-- The image's own name. -/
def ownE (s : St) (b : List Int) : Int := if nameErr b ≠ 0 then nameErr b else onceE s 13
def ownS (s : St) (b : List Int) : St := { s with name := nameOf b }.meet 13
/-- A dependency. -/
def depE (s : St) (b : List Int) : Int := if nameErr b ≠ 0 then nameErr b else if s.deps.length = 64 then 11 else 0
def depS (s : St) (b : List Int) (k : Int) : St := { s with deps := s.deps ++ [(nameOf b, k)] }
/-- A trie. -/
def trieE (s : St) (x : Int × Int) : Int := if x.2 = 0 then 0 else onceE s 2147483699
def trieS (s : St) (x : Int × Int) : St := if x.2 = 0 then s else { s with tr := x }.meet 2147483699
/-- Spans. -/
def infoS (s : St) (b : List Int) : St := { s.meet 34 with rb := spanAt b 8 1, bd := spanAt b 16 1, wk := spanAt b 24 1, lz := spanAt b 32 1 }
def spE (s : St) (b : List Int) : Int :=
  if spansErr b ≠ 0 then spansErr b else
  if isInfo (cmdAt b) then (if onceE s 34 ≠ 0 then onceE s 34 else trieE (infoS s b) (spanAt b 40 1)) else
  if cmdAt b = 2147483699 then trieE s (spanAt b 8 1) else onceE s (cmdAt b)
def spS (s : St) (b : List Int) : St :=
  if isInfo (cmdAt b) then trieS (infoS s b) (spanAt b 40 1) else
  if cmdAt b = 2147483699 then trieS s (spanAt b 8 1) else
  if cmdAt b = 2147483700 then { s with ch := spanAt b 8 1 }.meet (cmdAt b) else { s with sy := spanAt b 8 16, st := spanAt b 16 1 }.meet (cmdAt b)
/-- The entry. -/
def entE (s : St) (b : List Int) : Int := if shortB b then 3 else onceE s 2147483688
def entS (s : St) (b : List Int) : St := { s with entry := numAt b 8 8, has := true }.meet 2147483688

def stepE (s : St) (b : List Int) : Int :=
  if cmdAt b = 25 then segE s b else if cmdAt b = 13 then ownE s b else if depKind (cmdAt b) ≠ 0 then depE s b else
  if isInfo (cmdAt b) ∨ isLone (cmdAt b) ∨ cmdAt b = 2 then spE s b else if cmdAt b = 2147483688 then entE s b else
  if 2147483648 ≤ cmdAt b then 7 else 0
def stepS (s : St) (b : List Int) : St :=
  if cmdAt b = 25 then segS s b else if cmdAt b = 13 then ownS s b else if depKind (cmdAt b) ≠ 0 then depS s b (depKind (cmdAt b)) else
  if isInfo (cmdAt b) ∨ isLone (cmdAt b) ∨ cmdAt b = 2 then spS s b else if cmdAt b = 2147483688 then entS s b else s
def runE : St → List (List Int) → Int
  | _, [] => 0
  | s, b :: l => if stepE s b = 0 then runE (stepS s b) l else stepE s b
def runS : St → List (List Int) → St
  | s, [] => s
  | s, b :: l => runS (stepS s b) l
theorem runE_snoc (s : St) (l : List (List Int)) (b : List Int) (h : runE s l = 0) : runE s (l ++ [b]) = stepE (runS s l) b := by
  induction l generalizing s with
  | nil =>
    show (if stepE s b = 0 then 0 else stepE s b) = stepE s b
    split
    · rename_i h; exact h.symm
    · rfl
  | cons x l ih =>
    simp only [runE, List.cons_append, runS] at h ⊢
    split at h
    · rename_i h0
      rw [if_pos h0]
      exact ih _ h
    · rename_i h0; exact absurd h h0
theorem runS_snoc (s : St) (l : List (List Int)) (b : List Int) : runS s (l ++ [b]) = stepS (runS s l) b := by
  induction l generalizing s with
  | nil => rfl
  | cons x l ih => exact ih _
theorem runE_stop (s : St) (l r : List (List Int)) (h : runE s l ≠ 0) : runE s (l ++ r) = runE s l := by
  induction l generalizing s with
  | nil => exact absurd rfl h
  | cons x l ih =>
    simp only [runE, List.cons_append] at h ⊢
    split
    · rename_i h0
      rw [if_pos h0] at h
      exact ih _ h
    · rfl
theorem numAt_lt {b : List Int} (h : Small b) (p : Nat) : 0 ≤ numAt b p 4 ∧ numAt b p 4 < 4294967296 := leN4_bd h p
end Go.Proofs.Ythdppaooemdmaaa
