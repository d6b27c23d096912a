import Derived.Test.YtemdbfgpimfkdaaRows
import Derived.Test.YtemdbfgpimfkdaaM1
import Derived.WalkKit
import Derived.WalkSpells
import Derived.WalkLawsBesides
import Derived.BigQuiet
import Derived.Deep.QuietTactic
import Derived.Lib.Hide
import Derived.IntWalk
import Derived.OneCell
import Derived.Laws.Rows
import Derived.Laws.BytesArg
import Derived.Shelf.Bytes.SlEqualAll
/- A cursor in memory: its block of four cells, and the row of bytes that it owns; what keeps it, and what a store turns. No condition. -/
namespace Go.Proofs.Ytemdbfgpimfkdaa
open Go.RowKit

/-- A value that is a slice of these bytes (of the capacity c), wherever they lie; nil too. -/
def IsBytes (w : World) (p : Option Addr) (c : Nat) (ys : List Int) : Prop :=
  (p = none → c = 0) ∧ (0 < ys.length → ∃ b o, p = some ⟨b, o, none⟩ ∧ ∀ i, i < ys.length → w.cell? ⟨b, o + i, none⟩ = some (.int .u8 (ys.getD i 0)))

structure Cur (w : World) (base a : Nat) (q : Option Addr) (c : Nat) (xs : List Int) (p : Nat) (big bad : Bool) : Prop where
  blk : w.heap[a]? = some (.cells #[.slice q xs.length c, .int .i64 p, .bool big, .bool bad] 102 (0, 0))
  own : w.ownsRow base 5 1 (.slice q xs.length c) xs.length (xs.map (Value.int .u8))
  le : p ≤ xs.length
  ne : (Value.slice q xs.length c).ownBlock ≠ some a
  big : xs.length ≤ 140737488355328
  bytes : ∀ x ∈ xs, 0 ≤ x ∧ x < 256

variable {w w' : World} {base a : Nat} {q : Option Addr} {c : Nat} {xs : List Int} {p : Nat} {big bad : Bool}

theorem cell_of {w : World} {a i : Nat} {cs : Array Value} {t : TypeId} (h : w.heap[a]? = some (.cells cs t (0, 0))) : w.cell? ⟨a, i, none⟩ = cs[i]? := by simp [World.cell?, h]
theorem free_of {w : World} {a i : Nat} {cs : Array Value} {t : TypeId} (h : w.heap[a]? = some (.cells cs t (0, 0))) : w.frozen? ⟨a, i, none⟩ = false := by simp [World.frozen?, h]

theorem Cur.c0 (h : Cur w base a q c xs p big bad) : w.cell? ⟨a, 0, none⟩ = some (.slice q xs.length c) := by rw [cell_of h.blk]; rfl
theorem Cur.c1 (h : Cur w base a q c xs p big bad) : w.cell? ⟨a, 1, none⟩ = some (.int .i64 p) := by rw [cell_of h.blk]; rfl
theorem Cur.c2 (h : Cur w base a q c xs p big bad) : w.cell? ⟨a, 2, none⟩ = some (.bool big) := by rw [cell_of h.blk]; rfl
theorem Cur.c3 (h : Cur w base a q c xs p big bad) : w.cell? ⟨a, 3, none⟩ = some (.bool bad) := by rw [cell_of h.blk]; rfl
theorem Cur.f1 (h : Cur w base a q c xs p big bad) : w.frozen? ⟨a, 1, none⟩ = false := free_of h.blk
theorem Cur.f3 (h : Cur w base a q c xs p big bad) : w.frozen? ⟨a, 3, none⟩ = false := free_of h.blk

theorem Cur.kept {row : Option Nat} (h : Cur w base a q c xs p big bad) (hg : w.grownBy w' row) (h1 : row ≠ some a) (h2 : (Value.slice q xs.length c).ownBlock = none ∨ (Value.slice q xs.length c).ownBlock ≠ row) : Cur w' base a q c xs p big bad :=
  ⟨(hg.block a (lt_of_block h.blk) (fun e => h1 e.symm)).trans h.blk, h.own.kept hg h2, h.le, h.ne, h.big, h.bytes⟩
theorem Cur.drewN (h : Cur w base a q c xs p big bad) (n : Nat) : Cur (w.drewN n) base a q c xs p big bad := ⟨h.blk, h.own, h.le, h.ne, h.big, h.bytes⟩
theorem Cur.setAt (h : Cur w base a q c xs p big bad) {k : Nat} (hk : k ≤ xs.length) : Cur (w.setCell ⟨a, 1, none⟩ (.int .i64 k)) base a q c xs k big bad :=
  ⟨by rw [heap_setCell_same w a 1 _ _ _ h.blk]; rfl, ownsRow_setCell_other h.own h.ne _, hk, h.ne, h.big, h.bytes⟩
theorem Cur.setBad (h : Cur w base a q c xs p big bad) : Cur (w.setCell ⟨a, 3, none⟩ (.bool true)) base a q c xs p big true :=
  ⟨by rw [heap_setCell_same w a 3 _ _ _ h.blk]; rfl, ownsRow_setCell_other h.own h.ne _, h.le, h.ne, h.big, h.bytes⟩
theorem Cur.lt (h : Cur w base a q c xs p big bad) : a < w.heap.size := lt_of_block h.blk

/-- Nil, of no byte; or a row of its own. -/
theorem Cur.form (h : Cur w base a q c xs p big bad) : (q = none ∧ xs = [] ∧ c = 0) ∨ ∃ g, q = some ⟨g, 0, none⟩ ∧ xs.length ≤ c ∧ c ≤ 9223372036854775807 ∧ ∀ i, i < xs.length → w.cell? ⟨g, i, none⟩ = some (.int .u8 (xs.getD i 0)) := by
  obtain ⟨_, hn | ⟨g, cap, cur, hv, _, hg, hle, hm, hs, ht⟩⟩ := h.own
  · obtain ⟨e, h0⟩ := hn
    injection e with e1 e2 e3
    exact .inl ⟨e1, List.eq_nil_of_length_eq_zero h0, e3⟩
  · injection hv with e1 e2 e3
    subst e1 e3
    refine .inr ⟨g, rfl, hle, by unfold maxLen at hm; omega, fun i hi => ?_⟩
    have hc := h.own.cells (g := g) rfl i (.int .u8 (xs.getD i 0)) (by simp [hi])
    rw [show ((⟨g, 0, none⟩ : Addr).add i) = ⟨g, i, none⟩ from by unfold Addr.add; split <;> simp_all] at hc
    exact hc

theorem add_flat (b o i : Nat) : ((⟨b, o, none⟩ : Addr).add i) = ⟨b, o + i, none⟩ := by unfold Addr.add; split <;> simp_all
theorem IsBytes.mk_at {b o c : Nat} {ys : List Int} (hc : ∀ i, i < ys.length → w.cell? ⟨b, o + i, none⟩ = some (.int .u8 (ys.getD i 0))) : IsBytes w (some ⟨b, o, none⟩) c ys :=
  ⟨fun h => (by cases h), fun _ => ⟨b, o, rfl, hc⟩⟩
theorem IsBytes.nil : IsBytes w none 0 [] := ⟨fun _ => rfl, fun h => (by simp at h)⟩
theorem IsBytes.empty {x : Addr} {c : Nat} : IsBytes w (some x) c [] := ⟨fun h => (by cases h), fun h => (by simp at h)⟩
/-- Nil; or at an address, with its cells. -/
theorem IsBytes.ways {q : Option Addr} {c : Nat} {ys : List Int} (h : IsBytes w q c ys) : (q = none ∧ ys = [] ∧ c = 0) ∨ ∃ x : Addr, q = some x ∧ ∀ i, i < ys.length → w.cell? (x.add i) = some (.int .u8 (ys.getD i 0)) := by
  cases q with
  | none =>
    refine .inl ⟨rfl, ?_, h.1 rfl⟩
    rcases Nat.eq_zero_or_pos ys.length with h0 | h0
    · exact List.eq_nil_of_length_eq_zero h0
    · obtain ⟨_, _, e, _⟩ := h.2 h0
      cases e
  | some x =>
    refine .inr ⟨x, rfl, fun i hi => ?_⟩
    obtain ⟨b, o, e, hc⟩ := h.2 (by omega)
    injection e with e
    subst e
    rw [add_flat]
    exact hc i hi
theorem IsBytes.cut {g : Nat} (hc : ∀ i, i < xs.length → w.cell? ⟨g, i, none⟩ = some (.int .u8 (xs.getD i 0))) (k n c : Nat) : IsBytes w (some ⟨g, k, none⟩) c ((xs.drop k).take n) :=
  IsBytes.mk_at fun i hi => by
    simp only [List.length_take, List.length_drop] at hi
    rw [hc (k + i) (by omega)]
    simp [List.getD, List.getElem?_drop, show i < n by omega]
theorem IsBytes.drop {g : Nat} (hc : ∀ i, i < xs.length → w.cell? ⟨g, i, none⟩ = some (.int .u8 (xs.getD i 0))) (k c : Nat) : IsBytes w (some ⟨g, k, none⟩) c (xs.drop k) := by
  have := IsBytes.cut (w := w) hc k (xs.length - k) c
  rwa [List.take_of_length_le (by simp)] at this
theorem IsBytes.take {q : Option Addr} {c c' : Nat} {ys : List Int} (h : IsBytes w q c ys) (k : Nat) (hc : q = none → c' = 0) : IsBytes w q c' (ys.take k) := by
  refine ⟨hc, fun hl => ?_⟩
  obtain ⟨b, o, rfl, hx⟩ := h.2 (by simp at hl; omega)
  refine ⟨b, o, rfl, fun i hi => ?_⟩
  simp only [List.length_take] at hi
  rw [hx i (by omega)]
  simp [List.getD, show i < k by omega]
theorem IsBytes.kept {row : Option Nat} {q : Option Addr} {c : Nat} {ys : List Int} (h : IsBytes w q c ys) (hg : w.grownBy w' row) (hr : ∀ b, q = some b → row ≠ some b.block) : IsBytes w' q c ys := by
  refine ⟨h.1, fun hl => ?_⟩
  obtain ⟨b, o, rfl, hc⟩ := h.2 hl
  exact ⟨b, o, rfl, fun i hi => hg.cell (hc i hi) (fun e => hr _ rfl e.symm)⟩
theorem IsBytes.drewN {q : Option Addr} {c : Nat} {ys : List Int} (h : IsBytes w q c ys) (n : Nat) : IsBytes (w.drewN n) q c ys := h

theorem grown_refl (w : World) (row : Option Nat) : w.grownBy w row := ⟨rfl, rfl, rfl, Nat.le_refl _, fun _ _ _ => rfl⟩
theorem grown_drewN {w w' : World} {row : Option Nat} (h : w.grownBy w' row) (n : Nat) : w.grownBy (w'.drewN n) row := ⟨h.os, h.tape, h.output, h.size, h.block⟩
theorem grown_trans {a b c : World} {row : Option Nat} (h : a.grownBy b row) (k : b.grownBy c row) : a.grownBy c row :=
  ⟨k.os.trans h.os, k.tape.trans h.tape, k.output.trans h.output, Nat.le_trans h.size k.size, fun i hi hr => (k.block i (Nat.lt_of_lt_of_le hi h.size) hr).trans (h.block i hi hr)⟩
theorem grown_setCell {w w' : World} {a i : Nat} (h : w.grownBy w' (some a)) (v : Value) : w.grownBy (w'.setCell ⟨a, i, none⟩ v) (some a) :=
  ⟨h.os, h.tape, h.output, by simpa using h.size, fun k hk hr => (heap_setCell_other w' _ k v (fun e => hr (by rw [e]))).trans (h.block k hk hr)⟩
theorem grown_alloc {w w' : World} {row : Option Nat} (h : w.grownBy w' row) (o : Obj) : w.grownBy (w'.alloc o) row :=
  grown_trans h (World.grownBy_alloc w' o row)
theorem grown_below {w w' : World} (h : Below w.heap.size w w') (row : Option Nat) : w.grownBy w' row := ⟨h.os, h.tape, h.output, h.size, fun k hk _ => h.block k hk⟩
theorem below_grown {w w' : World} {row : Option Nat} {B : Nat} (h : w.grownBy w' row) (hB : B ≤ w.heap.size) (hr : ∀ k, row = some k → B ≤ k) : Below B w w' :=
  ⟨h.os, h.tape, h.output, h.size, fun k hk => h.block k (Nat.lt_of_lt_of_le hk hB) (fun e => by have := hr k e.symm; omega)⟩
theorem below_drewN {B : Nat} {w w' : World} (h : Below B w w') (n : Nat) : Below B w (w'.drewN n) := ⟨h.os, h.tape, h.output, h.size, h.block⟩
theorem grown_any {w w' : World} (h : w.grownBy w' none) (row : Option Nat) : w.grownBy w' row := ⟨h.os, h.tape, h.output, h.size, fun k hk _ => h.block k hk (by simp)⟩
end Go.Proofs.Ytemdbfgpimfkdaa

/- A Bool, or a number, that is answered under another spelling. No condition. -/
namespace Go.Proofs.Ytemdbfgpimfkdaa

theorem ret_bool {a b : Bool} (h : a = b) : Ending.returned (.bool a) = .returned (.bool b) := by rw [h]
theorem ret_int {k : IntKind} {a b : Int} (h : a = b) : Ending.returned (.int k a) = .returned (.int k b) := by rw [h]
end Go.Proofs.Ytemdbfgpimfkdaa

/- The calls of layer 1 (cursor), one contract each: what is answered, and what the cursor is then. No condition but that there is such a cursor in memory. -/
namespace Go.Proofs.Ytemdbfgpimfkdaa
open Go.RowKit
variable {w : World} {base a : Nat} {q : Option Addr} {c : Nat} {xs : List Int} {p : Nat} {big bad : Bool}

theorem err_any (h : Cur w base a q c xs p big bad) :
    Calls Try.prog 37 #[.pointer (some ⟨a, 0, none⟩)] w fun e w' => e = .returned (.int .i64 (if bad then 3 else 0)) ∧ w = w' := by
  have h3 := h.c3
  cases bad
  all_goals
    go_enter Try.func37, Try.ntmps37
    go_wp2
    go_ret
    exact ⟨rfl, rfl⟩

theorem at_any (h : Cur w base a q c xs p big bad) :
    Calls Try.prog 64 #[.pointer (some ⟨a, 0, none⟩)] w fun e w' => e = .returned (.int .i64 p) ∧ w = w' := by
  have h1 := h.c1
  go_enter Try.func64, Try.ntmps64
  go_wp2
  go_ret
  exact ⟨rfl, rfl⟩

theorem fail_any (h : Cur w base a q c xs p big bad) :
    Calls Try.prog 38 #[.pointer (some ⟨a, 0, none⟩)] w fun e w' => e = .returned (.tuple #[]) ∧ Cur w' base a q c xs p big true ∧ w.grownBy w' (some a) := by
  have h3 := h.c3
  have f3 := h.f3
  have hfin := h.setBad
  have hg := grown_setCell (i := 3) (grown_refl w (some a)) (.bool true)
  go_enter Try.func38, Try.ntmps38
  go_wp2
  go_end0
  exact ⟨rfl, hfin, hg⟩

theorem rest_any (h : Cur w base a q c xs p big bad) :
    Calls Try.prog 51 #[.pointer (some ⟨a, 0, none⟩)] w fun e w' => (∃ q', e = .returned (.slice q' (xs.length - p) (c - p)) ∧ IsBytes w q' (c - p) (xs.drop p)) ∧ ∃ n, w.drewN n = w' := by
  have h0 := h.c0
  have h1 := h.c1
  have hle := h.le
  have hbig := h.big
  rcases h.form with ⟨rfl, rfl, rfl⟩ | ⟨g, rfl, hc1, hc2, hcell⟩
  · obtain rfl : p = 0 := by simpa using hle
    go_enter Try.func51, Try.ntmps51
    go_wp2
    go_quiet (fail)
    go_wp2
    go_ret
    exact ⟨⟨_, rfl, IsBytes.nil⟩, _, rfl⟩
  · have hcut := IsBytes.drop (w := w) hcell p (c - p)
    have hcp : c = p → xs.drop p = [] := fun e => List.drop_eq_nil_of_le (by omega)
    have H1 := Lib.hid hcut
    have H2 := Lib.hid hcp
    have H3 := Lib.hid hcell
    clear hcut hcp hcell
    go_enter Try.func51, Try.ntmps51
    go_wp2
    go_quiet (fail)
    go_wp2
    · have hcp : c = p := by assumption
      go_ret
      exact ⟨⟨_, rfl, (by rw [H2.out hcp]; exact IsBytes.empty)⟩, _, rfl⟩
    · go_ret
      exact ⟨⟨_, rfl, H1.out⟩, _, rfl⟩

theorem left_any (h : Cur w base a q c xs p big bad) :
    Calls Try.prog 50 #[.pointer (some ⟨a, 0, none⟩)] w fun e w' => e = .returned (.int .i64 ((xs.length : Int) - p)) ∧ ∃ n, w.drewN n = w' := by
  have hle := h.le
  have hbig := h.big
  go_enter Try.func50, Try.ntmps50
  go_wp2_with fail
  refine (rest_any h).mono ?_
  rintro e w' ⟨⟨q', rfl, _⟩, n, rfl⟩
  go_wp2
  go_ret
  exact ⟨ret_int (by omega), n, rfl⟩

/-- What can't be taken: nothing, and it has failed. -/
theorem take_no (h : Cur w base a q c xs p big bad) (n : Int) (hn : bad = true ∨ n < 0 ∨ (xs.length : Int) - p < n) :
    Calls Try.prog 39 #[.pointer (some ⟨a, 0, none⟩), .int .i64 n] w fun e w' => e = .returned (.slice none 0 0) ∧ Cur w' base a q c xs p big true ∧ w.grownBy w' (some a) := by
  have h3 := h.c3
  cases bad
  · have hb : n < 0 ∨ (xs.length : Int) - p < n := by simpa using hn
    have f3 := h.f3
    clear hn
    by_cases hneg : n < 0
    · have hfin := h.setBad
      have hg := grown_setCell (i := 3) (grown_refl w (some a)) (.bool true)
      go_enter Try.func39, Try.ntmps39
      go_wp2
      go_ret
      exact ⟨rfl, hfin, hg⟩
    · have hlt : (xs.length : Int) - p < n := by omega
      clear hb
      have hfin := fun k : Nat => (h.drewN k).setBad
      have hg := fun k : Nat => grown_setCell (i := 3) (grown_drewN (grown_refl w (some a)) k) (.bool true)
      have F := Lib.hid hfin
      have G := Lib.hid hg
      clear hfin hg
      go_enter Try.func39, Try.ntmps39
      go_wp2_with fail
      refine (left_any h).mono ?_
      rintro e w' ⟨rfl, k, rfl⟩
      go_wp2
      go_ret
      exact ⟨rfl, F.out k, G.out k⟩
  · go_enter Try.func39, Try.ntmps39
    go_wp2
    go_ret
    exact ⟨rfl, h, grown_refl _ _⟩

/-- What can be taken: these bytes, in the cursor's own memory; it stands behind them. -/
theorem take_ok (h : Cur w base a q c xs p big false) (n : Nat) (hn : p + n ≤ xs.length) :
    Calls Try.prog 39 #[.pointer (some ⟨a, 0, none⟩), .int .i64 n] w fun e w' =>
      (∃ q', e = .returned (.slice q' n n) ∧ IsBytes w' q' n ((xs.drop p).take n) ∧ (q' = none ↔ q = none)) ∧ Cur w' base a q c xs (p + n) big false ∧ w.grownBy w' (some a) := by
  have h0 := h.c0
  have h1 := h.c1
  have h3 := h.c3
  have f1 := h.f1
  have hbig := h.big
  have hfin := fun k : Nat => (h.drewN k).setAt hn
  have hg := fun k : Nat => grown_setCell (i := 1) (grown_drewN (grown_refl w (some a)) k) (.int .i64 ((p + n : Nat) : Int))
  rw [show ((p + n : Nat) : Int) = (p : Int) + n by omega] at hfin hg
  rcases h.form with ⟨rfl, rfl, rfl⟩ | ⟨g, rfl, hc1, hc2, hcell⟩
  · have F := Lib.hid hfin
    have G := Lib.hid hg
    clear hfin hg
    obtain rfl : n = 0 := by simp at hn; omega
    obtain rfl : p = 0 := by simpa using hn
    go_enter Try.func39, Try.ntmps39
    go_wp2_with fail
    refine (left_any h).mono ?_
    rintro e w' ⟨rfl, k, rfl⟩
    go_wp2
    go_quiet (fail)
    go_wp2
    go_ret
    refine ⟨⟨_, rfl, by simpa using IsBytes.nil, by simp⟩, ?_, ?_⟩
    · exact F.out _
    · exact G.out _
  · have hne : g ≠ a := fun e => h.ne (by simp [Value.ownBlock, e])
    have hcut : ∀ k : Nat, IsBytes ((w.drewN k).setCell ⟨a, 1, none⟩ (.int .i64 ((p : Int) + n))) (some ⟨g, p, none⟩) n ((xs.drop p).take n) := fun k =>
      (IsBytes.cut (w := w) hcell p n n).kept (hg k) (fun b hb => by simp at hb; subst hb; simpa using fun e => hne e.symm)
    have H1 := Lib.hid hcut
    have H3 := Lib.hid hcell
    have F := Lib.hid hfin
    have G := Lib.hid hg
    clear hcut hcell hfin hg
    go_enter Try.func39, Try.ntmps39
    go_wp2_with fail
    refine (left_any h).mono ?_
    rintro e w' ⟨rfl, k, rfl⟩
    go_wp2
    go_quiet (fail)
    go_wp2
    all_goals
      go_ret
      first
        | exact ⟨⟨_, rfl, H1.out _, by simp⟩, F.out _, G.out _⟩
        | (obtain rfl : n = 0 := by omega
           exact ⟨⟨_, rfl, IsBytes.empty, by simp⟩, F.out _, G.out _⟩)
end Go.Proofs.Ytemdbfgpimfkdaa

/- Bytes that are turned into a text. No condition. -/
namespace Go.Proofs.Ytemdbfgpimfkdaa
open Go.RowKit
variable {w : World}

theorem IsBytes.text {q : Option Addr} {c : Nat} {ys : List Int} (h : IsBytes w q c ys) {n : Nat} (hn : ys.length = n) :
    (convert 22 9 (.slice q n c)).run Try.prog w = .ok (.string (strOfNums ys)) w := by
  subst hn
  exact Lib.BytesIn.convert (fun hl => h.2 hl) rfl c _ _ _ Try.underlying22 Try.underlying5 Try.underlying9

end Go.Proofs.Ytemdbfgpimfkdaa

/- A text of layer 1 (cursor): what stands up to the next 0; and the calls that take one. No condition. -/
namespace Go.Proofs.Ytemdbfgpimfkdaa
open Go.RowKit
variable {w : World} {base a : Nat} {q : Option Addr} {c : Nat} {xs : List Int} {p : Nat} {big bad : Bool}

/-- What stands ahead of the first 0. -/
def pre : List Int → List Int
  | [] => []
  | x :: l => if x = 0 then [] else x :: pre l
theorem pre_le (l : List Int) : (pre l).length ≤ l.length := by
  induction l with
  | nil => simp [pre]
  | cons x l ih => simp only [pre]; split <;> simp; omega
theorem pre_take (l : List Int) : pre l = l.take (pre l).length := by
  induction l with
  | nil => simp [pre]
  | cons x l ih =>
    simp only [pre]
    split
    · simp
    · rw [List.length_cons, List.take_succ_cons, ← ih]
/-- How many bytes the next text has; below 0: none stands that may be taken. -/
def textLen (l : List Int) (m : Int) : Int := if (pre l).length < l.length ∧ ((pre l).length : Int) ≤ m then (pre l).length else -1
theorem index_pre (l : List Int) (h : ∀ x ∈ l, 0 ≤ x ∧ x < 256) : Lib.indexByte (Lib.bytesOf l) (0 : Int).toNat.toUInt8 = if (pre l).length < l.length then ((pre l).length : Int) else -1 := by
  induction l with
  | nil => simp [pre, Lib.bytesOf, Lib.indexByte]
  | cons x l ih =>
    have h1 := ih (fun y hy => h y (List.mem_cons_of_mem _ hy))
    have h2 := h x (List.mem_cons_self ..)
    have e : Lib.bytesOf (x :: l) = UInt8.ofNat x.toNat :: Lib.bytesOf l := rfl
    rw [e]
    unfold Lib.indexByte
    rw [h1]
    by_cases hx : x = 0
    · subst hx; simp [pre]
    · have hb : (UInt8.ofNat x.toNat == (0 : Int).toNat.toUInt8) = false := by
        rw [beq_eq_false_iff_ne]
        intro e
        have := congrArg UInt8.toNat e
        simp at this
        omega
      rw [hb]
      simp only [pre, if_neg hx, List.length_cons, Bool.false_eq_true, if_false, Nat.add_lt_add_iff_right]
      by_cases hl : (pre l).length < l.length
      · rw [if_pos hl, if_pos hl]
        rw [if_neg (by simp)]
        omega
      · rw [if_neg hl, if_neg hl]; rfl
theorem textLen_take (l : List Int) : ∀ m : Nat, (if (pre (l.take (m + 1))).length < (l.take (m + 1)).length then ((pre (l.take (m + 1))).length : Int) else -1) = textLen l m := by
  induction l with
  | nil => intro m; simp [pre, textLen]
  | cons x l ih =>
    intro m
    simp only [List.take_succ_cons, textLen, pre]
    by_cases hx : x = 0
    · simp [hx]
    · simp only [if_neg hx, List.length_cons, Nat.add_lt_add_iff_right]
      cases m with
      | zero => simp [pre]; omega
      | succ m =>
        have h := ih m
        simp only [textLen] at h
        by_cases h1 : (pre (l.take (m + 1))).length < (l.take (m + 1)).length
        · rw [if_pos h1] at h ⊢
          by_cases h2 : (pre l).length < l.length ∧ ((pre l).length : Int) ≤ m
          · rw [if_pos h2] at h
            rw [if_pos (by omega)]
            omega
          · rw [if_neg h2] at h; omega
        · rw [if_neg h1] at h ⊢
          by_cases h2 : (pre l).length < l.length ∧ ((pre l).length : Int) ≤ m
          · rw [if_pos h2] at h; omega
          · rw [if_neg (by omega)]
theorem textLen_all (l : List Int) (m : Int) (h : l.length ≤ m) : (if (pre l).length < l.length then ((pre l).length : Int) else -1) = textLen l m := by
  have := pre_le l
  unfold textLen
  by_cases h1 : (pre l).length < l.length
  · rw [if_pos h1, if_pos (by omega)]
  · rw [if_neg h1, if_neg (by omega)]

theorem IsBytes.index {q : Option Addr} {c : Nat} {ys : List Int} (h : IsBytes w q c ys) (hr : ∀ x ∈ ys, 0 ≤ x ∧ x < 256) :
    Calls Try.prog 52 #[.slice q ys.length c, .int .u8 0] w fun e w' => e = .returned (.int .i64 (if (pre ys).length < ys.length then ((pre ys).length : Int) else -1)) ∧ w = w' := by
  rw [← index_pre ys hr]
  rcases h.ways with ⟨rfl, rfl, rfl⟩ | ⟨x, rfl, hc⟩
  · exact (Try.bytes_IndexByte_nil 0 w).mono fun e w' ⟨h1, h2⟩ => ⟨h1, h2.symm⟩
  · exact (Try.bytes_IndexByte_at x ys.length c ys 0 w rfl hc).mono fun e w' ⟨h1, h2⟩ => ⟨h1, h2.symm⟩

theorem textSize_any (h : Cur w base a q c xs p big bad) (m : Int) :
    Calls Try.prog 40 #[.pointer (some ⟨a, 0, none⟩), .int .i64 m] w fun e w' =>
      e = .returned (.int .i64 (textLen (xs.drop p) m)) ∧ ∃ n, w.drewN n = w' := by
  have hle := h.le
  have hbig := h.big
  have hlen : (xs.drop p).length = xs.length - p := by simp
  have hr : ∀ x ∈ xs.drop p, 0 ≤ x ∧ x < 256 := fun x hx => h.bytes x (List.mem_of_mem_drop hx)
  by_cases hneg : m < 0
  · have e : textLen (xs.drop p) m = -1 := by unfold textLen; rw [if_neg (by omega)]
    rw [e]
    clear e hr hlen
    go_enter Try.func40, Try.ntmps40
    go_wp2
    go_ret
    exact ⟨rfl, 0, rfl⟩
  · have hrest := rest_any h
    rw [← hlen] at hrest
    by_cases hlt : m < (xs.drop p).length
    · obtain ⟨k, rfl⟩ := Int.eq_ofNat_of_zero_le (Int.not_lt.1 hneg)
      have hlt' : k < xs.length - p := by omega
      have hk := textLen_take (xs.drop p) k
      have hl2 : ((xs.drop p).take (k + 1)).length = k + 1 := by simp; omega
      have hr2 : ∀ x ∈ (xs.drop p).take (k + 1), 0 ≤ x ∧ x < 256 := fun x hx => hr x (List.mem_of_mem_take hx)
      rw [hl2] at hk
      have K := Lib.hid hk
      have R := Lib.hid hr2
      have L := Lib.hid hl2
      have LL := Lib.hid hlen
      rw [hlen] at hlt
      clear hk hr2 hl2 hr
      go_enter Try.func40, Try.ntmps40
      go_wp2_with fail
      refine hrest.mono ?_
      rintro e w' ⟨⟨q', rfl, hb⟩, n, rfl⟩
      have hcap : k + 1 ≤ c - p := by
        rcases h.form with ⟨_, h2, _⟩ | ⟨_, _, h3, _⟩
        · subst h2; simp at hlt'
        · omega
      have hb2 := hb.take (k + 1) (c' := c - p) (fun hq => by
        rcases hb.ways with ⟨_, h2, _⟩ | ⟨_, h3, _⟩
        · rw [h2] at hlen; simp at hlen; omega
        · rw [h3] at hq; cases hq)
      have I := (hb2.drewN n).index R.out
      rw [L.out] at I
      have IH := Lib.hid I
      clear I hb2
      rw [hlen]
      clear hlen
      go_wp2_with fail
      refine IH.out.mono ?_
      rintro e w' ⟨rfl, rfl⟩
      rw [K.out]
      clear hrest
      go_wp2
      go_ret
      exact ⟨rfl, n, rfl⟩
    · have hall := textLen_all (xs.drop p) m (by omega)
      rw [hlen] at hall
      have K := Lib.hid hall
      have R := Lib.hid hr
      clear hall hr
      go_enter Try.func40, Try.ntmps40
      go_wp2_with fail
      refine hrest.mono ?_
      rintro e w' ⟨⟨q', rfl, hb⟩, n, rfl⟩
      have I := (hb.drewN n).index R.out
      rw [hlen] at I hlt
      rw [hlen]
      have IH := Lib.hid I
      clear I hlen
      go_wp2_with fail
      refine IH.out.mono ?_
      rintro e w' ⟨rfl, rfl⟩
      rw [K.out]
      clear hrest
      go_wp2
      go_ret
      exact ⟨rfl, n, rfl⟩

/-- No text that may be taken: nothing, and the cursor has failed. -/
theorem text_no (h : Cur w base a q c xs p big bad) (m : Int) (hn : bad = true ∨ textLen (xs.drop p) m = -1) :
    Calls Try.prog 25 #[.pointer (some ⟨a, 0, none⟩), .int .i64 m] w fun e w' =>
      e = .returned (.string ByteArray.empty) ∧ Cur w' base a q c xs p big true ∧ w.grownBy w' (some a) := by
  have hb : bad = true ∨ textLen (xs.drop p) m < 0 ∨ (xs.length : Int) - p < textLen (xs.drop p) m := by
    rcases hn with h1 | h1
    · exact .inl h1
    · exact .inr (.inl (by omega))
  have B := Lib.hid hb
  have T := Lib.hid (textSize_any h m)
  generalize textLen (xs.drop p) m = t at *
  clear hn hb
  go_enter Try.func25, Try.ntmps25
  go_wp2_with fail
  refine T.out.mono ?_
  rintro e w1 ⟨rfl, n, rfl⟩
  go_wp2_with fail
  refine (take_no (h.drewN n) t B.out).mono ?_
  rintro e w2 ⟨rfl, hc2, hg2⟩
  have cv := run_convert_bytes_nil (P := Try.prog) w2 _ _ Try.underlying22 Try.underlying5 0 0 _ Try.underlying9
  go_wp2_with fail
  refine (take_no hc2 1 (.inl rfl)).mono ?_
  rintro e w3 ⟨rfl, hc3, hg3⟩
  have hg := grown_trans (grown_trans (grown_drewN (grown_refl w (some a)) n) hg2) hg3
  clear cv
  go_wp2
  go_ret
  exact ⟨rfl, hc3, hg⟩

/-- A text that may be taken, and the 0 behind it. -/
theorem text_ok (h : Cur w base a q c xs p big false) (m : Int) (hn : (pre (xs.drop p)).length < (xs.drop p).length ∧ ((pre (xs.drop p)).length : Int) ≤ m) :
    Calls Try.prog 25 #[.pointer (some ⟨a, 0, none⟩), .int .i64 m] w fun e w' =>
      e = .returned (.string (strOfNums (pre (xs.drop p)))) ∧ Cur w' base a q c xs (p + (pre (xs.drop p)).length + 1) big false ∧ w.grownBy w' (some a) := by
  have ht : textLen (xs.drop p) m = (pre (xs.drop p)).length := by unfold textLen; rw [if_pos hn]
  have hs := textSize_any h m
  rw [ht] at hs
  have hl : (xs.drop p).length = xs.length - p := by simp
  have hle := h.le
  have h1 : p + (pre (xs.drop p)).length ≤ xs.length := by omega
  have h2 : p + (pre (xs.drop p)).length + 1 ≤ xs.length := by omega
  have hpt := pre_take (xs.drop p)
  have htk := fun n => take_ok (h.drewN n) _ h1
  rw [← hpt] at htk
  generalize pre (xs.drop p) = t at *
  have T := Lib.hid hs
  have K := Lib.hid htk
  clear ht hs hl hpt htk hn
  go_enter Try.func25, Try.ntmps25
  go_wp2_with fail
  refine T.out.mono ?_
  rintro e w1 ⟨rfl, n, rfl⟩
  go_wp2_with fail
  refine (K.out n).mono ?_
  rintro e w2 ⟨⟨q', rfl, hb, _⟩, hc2, hg2⟩
  have cv := hb.text rfl
  go_wp2_with fail
  refine (take_ok hc2 1 h2).mono ?_
  rintro e w3 ⟨⟨q3, rfl, _, _⟩, hc3, hg3⟩
  have hg := grown_trans (grown_trans (grown_drewN (grown_refl w (some a)) n) hg2) hg3
  clear cv
  go_wp2
  go_ret
  exact ⟨rfl, hc3, hg⟩
end Go.Proofs.Ytemdbfgpimfkdaa
