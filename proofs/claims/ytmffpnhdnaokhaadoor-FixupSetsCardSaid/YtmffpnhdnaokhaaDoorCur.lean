/- A cursor in memory: its block of four cells, and the row of bytes that it owns; what keeps it, and what a store turns. No condition. -/
import Derived.Test.YtmffpnhdnaokhaaDoorRows
import Derived.Test.YtmffpnhdnaokhaaDoorShelf
import Derived.WalkKit
import Derived.WalkSpells
import Derived.WalkLawsBesides
import Derived.BigQuiet
import Derived.Deep.QuietTactic
import Derived.Lib.Hide
import Derived.IntWalk
import Derived.OneCell
import Derived.Laws.Rows
namespace Go.Proofs.YtmffpnhdnaokhaaDoor
open Go.RowKit

/-- A value that is a slice of these bytes (of the capacity c), wherever they lie; nil too. -/
def IsBytes (w : World) (p : Option Addr) (c : Nat) (ys : List Int) : Prop :=
  (p = none → c = 0) ∧ (0 < ys.length → ∃ b o, p = some ⟨b, o, none⟩ ∧ ∀ i, i < ys.length → w.cell? ⟨b, o + i, none⟩ = some (.int .u8 (ys.getD i 0)))

variable {w w' : World} {base a : Nat} {q : Option Addr} {c : Nat} {xs : List Int} {p : Nat} {big bad : Bool}

theorem cell_of {w : World} {a i : Nat} {cs : Array Value} {t : TypeId} (h : w.heap[a]? = some (.cells cs t (0, 0))) : w.cell? ⟨a, i, none⟩ = cs[i]? := by simp [World.cell?, h]
theorem free_of {w : World} {a i : Nat} {cs : Array Value} {t : TypeId} (h : w.heap[a]? = some (.cells cs t (0, 0))) : w.frozen? ⟨a, i, none⟩ = false := by simp [World.frozen?, h]

theorem add_flat (b o i : Nat) : ((⟨b, o, none⟩ : Addr).add i) = ⟨b, o + i, none⟩ := by unfold Addr.add; split <;> simp_all
theorem IsBytes.mk_at {b o c : Nat} {ys : List Int} (hc : ∀ i, i < ys.length → w.cell? ⟨b, o + i, none⟩ = some (.int .u8 (ys.getD i 0))) : IsBytes w (some ⟨b, o, none⟩) c ys :=
  ⟨fun h => (by cases h), fun _ => ⟨b, o, rfl, hc⟩⟩
theorem IsBytes.nil : IsBytes w none 0 [] := ⟨fun _ => rfl, fun h => (by simp at h)⟩
theorem IsBytes.empty {x : Addr} {c : Nat} : IsBytes w (some x) c [] := ⟨fun h => (by cases h), fun h => (by simp at h)⟩
/-- Nil; or at an address, with its cells. -/
theorem IsBytes.ways {q : Option Addr} {c : Nat} {ys : List Int} (h : IsBytes w q c ys) : (q = none ∧ ys = [] ∧ c = 0) ∨ ∃ x : Addr, q = some x ∧ ∀ i, i < ys.length → w.cell? (x.add i) = some (.int .u8 (ys.getD i 0)) := by
  cases q with
  | none =>
    refine .inl ⟨rfl, ?_, h.1 rfl⟩
    rcases Nat.eq_zero_or_pos ys.length with h0 | h0
    · exact List.eq_nil_of_length_eq_zero h0
    · obtain ⟨_, _, e, _⟩ := h.2 h0
      cases e
  | some x =>
    refine .inr ⟨x, rfl, fun i hi => ?_⟩
    obtain ⟨b, o, e, hc⟩ := h.2 (by omega)
    injection e with e
    subst e
    rw [add_flat]
    exact hc i hi
theorem IsBytes.cut {g : Nat} (hc : ∀ i, i < xs.length → w.cell? ⟨g, i, none⟩ = some (.int .u8 (xs.getD i 0))) (k n c : Nat) : IsBytes w (some ⟨g, k, none⟩) c ((xs.drop k).take n) :=
  IsBytes.mk_at fun i hi => by
    simp only [List.length_take, List.length_drop] at hi
    rw [hc (k + i) (by omega)]
    simp [List.getD, List.getElem?_drop, show i < n by omega]
theorem IsBytes.drop {g : Nat} (hc : ∀ i, i < xs.length → w.cell? ⟨g, i, none⟩ = some (.int .u8 (xs.getD i 0))) (k c : Nat) : IsBytes w (some ⟨g, k, none⟩) c (xs.drop k) := by
  have := IsBytes.cut (w := w) hc k (xs.length - k) c
  rwa [List.take_of_length_le (by simp)] at this
theorem IsBytes.take {q : Option Addr} {c c' : Nat} {ys : List Int} (h : IsBytes w q c ys) (k : Nat) (hc : q = none → c' = 0) : IsBytes w q c' (ys.take k) := by
  refine ⟨hc, fun hl => ?_⟩
  obtain ⟨b, o, rfl, hx⟩ := h.2 (by simp at hl; omega)
  refine ⟨b, o, rfl, fun i hi => ?_⟩
  simp only [List.length_take] at hi
  rw [hx i (by omega)]
  simp [List.getD, show i < k by omega]
theorem IsBytes.kept {row : Option Nat} {q : Option Addr} {c : Nat} {ys : List Int} (h : IsBytes w q c ys) (hg : w.grownBy w' row) (hr : ∀ b, q = some b → row ≠ some b.block) : IsBytes w' q c ys := by
  refine ⟨h.1, fun hl => ?_⟩
  obtain ⟨b, o, rfl, hc⟩ := h.2 hl
  exact ⟨b, o, rfl, fun i hi => hg.cell (hc i hi) (fun e => hr _ rfl e.symm)⟩
theorem IsBytes.drewN {q : Option Addr} {c : Nat} {ys : List Int} (h : IsBytes w q c ys) (n : Nat) : IsBytes (w.drewN n) q c ys := h

theorem grown_refl (w : World) (row : Option Nat) : w.grownBy w row := ⟨rfl, rfl, rfl, Nat.le_refl _, fun _ _ _ => rfl⟩
theorem grown_drewN {w w' : World} {row : Option Nat} (h : w.grownBy w' row) (n : Nat) : w.grownBy (w'.drewN n) row := ⟨h.os, h.tape, h.output, h.size, h.block⟩
theorem grown_trans {a b c : World} {row : Option Nat} (h : a.grownBy b row) (k : b.grownBy c row) : a.grownBy c row :=
  ⟨k.os.trans h.os, k.tape.trans h.tape, k.output.trans h.output, Nat.le_trans h.size k.size, fun i hi hr => (k.block i (Nat.lt_of_lt_of_le hi h.size) hr).trans (h.block i hi hr)⟩
theorem grown_setCell {w w' : World} {a i : Nat} (h : w.grownBy w' (some a)) (v : Value) : w.grownBy (w'.setCell ⟨a, i, none⟩ v) (some a) :=
  ⟨h.os, h.tape, h.output, by simpa using h.size, fun k hk hr => (heap_setCell_other w' _ k v (fun e => hr (by rw [e]))).trans (h.block k hk hr)⟩
theorem grown_alloc {w w' : World} {row : Option Nat} (h : w.grownBy w' row) (o : Obj) : w.grownBy (w'.alloc o) row :=
  grown_trans h (World.grownBy_alloc w' o row)
theorem grown_below {w w' : World} (h : Below w.heap.size w w') (row : Option Nat) : w.grownBy w' row := ⟨h.os, h.tape, h.output, h.size, fun k hk _ => h.block k hk⟩
theorem below_grown {w w' : World} {row : Option Nat} {B : Nat} (h : w.grownBy w' row) (hB : B ≤ w.heap.size) (hr : ∀ k, row = some k → B ≤ k) : Below B w w' :=
  ⟨h.os, h.tape, h.output, h.size, fun k hk => h.block k (Nat.lt_of_lt_of_le hk hB) (fun e => by have := hr k e.symm; omega)⟩
theorem below_drewN {B : Nat} {w w' : World} (h : Below B w w') (n : Nat) : Below B w (w'.drewN n) := ⟨h.os, h.tape, h.output, h.size, h.block⟩
theorem grown_any {w w' : World} (h : w.grownBy w' none) (row : Option Nat) : w.grownBy w' row := ⟨h.os, h.tape, h.output, h.size, fun k hk _ => h.block k hk (by simp)⟩
end Go.Proofs.YtmffpnhdnaokhaaDoor
