/- Small laws of worlds that grow, rows of one's own, bytes, and ranges: shared by the seats from layer 4 on. No condition. -/
import Derived.Test.YtmffpnhdnaokhaaDoorOps
import Derived.Test.YtmffpnhdnaokhaaDoorNum
import Derived.Test.YtmffpnhdnaokhaaDoorApp
import Derived.Test.YtmffpnhdnaokhaaDoorArgs
import Derived.Test.YtmffpnhdnaokhaaDoorMark
import Derived.Test.YtmffpnhdnaokhaaDoorZeros
import Derived.Laws.StructEq
import Derived.Below
import Derived.Shelf.Abstract
import Derived.Laws.ResultCell
import Derived.Deep.Slices
import Derived.ChangeSame
import Derived.Laws.OwnMore
namespace Go.Proofs.YtmffpnhdnaokhaaDoor
open Go.RowKit Go.ChangeShapes Go.WideShapes Go.Deep
variable {w w' : World} {base g : Nat}

/-- What the call itself has made, it may turn. -/
theorem grown_new {w1 : World} (h : w.grownBy w1 none) (k : w1.grownBy w' (some g)) (hg : w.heap.size ≤ g) : w.grownBy w' none :=
  ⟨k.os.trans h.os, k.tape.trans h.tape, k.output.trans h.output, Nat.le_trans h.size k.size, fun i hi _ =>
    (k.block i (Nat.lt_of_lt_of_le hi h.size) (fun e => by injection e with e; omega)).trans (h.block i hi (by simp))⟩
theorem grown1 (w : World) (o : Obj) : w.grownBy (w.alloc o) none := World.grownBy_alloc w o none
theorem grown2 (w : World) (o o' : Obj) : w.grownBy ((w.alloc o).alloc o') none := grown_alloc (grown1 w o) o'
theorem grown_cell {a : Addr} {v : Value} (hg : w.grownBy w' none) (h : w.cell? a = some v) : w'.cell? a = some v := hg.cell h (by simp)
/-- A value that is a row's is a slice. -/
theorem own_slice {v : Value} {n : Nat} {xs : List Value} {T : TypeId} {k : Nat} (h : w.ownsRow base T k v n xs) : ∃ q c, v = .slice q n c := by
  rcases h.2 with ⟨rfl, rfl⟩ | ⟨g, cap, cur, rfl, _⟩
  · exact ⟨_, _, rfl⟩
  · exact ⟨_, _, rfl⟩
theorem grown_own {w1 w2 : World} {v : Value} {B : Nat} (h : w.grownBy w1 none) (hg : w1.grownBy w2 v.ownBlock) (hv : ∀ g, v.ownBlock = some g → B ≤ g) (hB : w.heap.size ≤ B) : w.grownBy w2 none := by
  cases hb : v.ownBlock with
  | none => rw [hb] at hg; exact grown_trans h hg
  | some g => rw [hb] at hg; exact grown_new h hg (Nat.le_trans hB (hv g hb))
theorem own_grown {wr : World} {v : Value} {n B : Nat} {xs : List Value} {T : TypeId} {z : Nat} (h : wr.ownsRow B T z v n xs) (hg : wr.grownBy w' none) : w'.ownsRow B T z v n xs :=
  h.kept hg (by cases v.ownBlock <;> simp)
theorem bytes_inj : ∀ {xs ys : List Int}, Small xs → Small ys → Lib.bytesOf xs = Lib.bytesOf ys → xs = ys
  | [], [], _, _, _ => rfl
  | [], _ :: _, _, _, h => by simp [Lib.bytesOf] at h
  | _ :: _, [], _, _, h => by simp [Lib.bytesOf] at h
  | x :: xs, y :: ys, hx, hy, h => by
    simp only [Lib.bytesOf, List.map_cons, List.cons.injEq] at h
    have a := hx x (List.mem_cons_self ..)
    have b := hy y (List.mem_cons_self ..)
    have e : (UInt8.ofNat x.toNat).toNat = (UInt8.ofNat y.toNat).toNat := by rw [h.1]
    simp only [UInt8.toNat_ofNat'] at e
    rw [bytes_inj (fun z hz => hx z (List.mem_cons_of_mem _ hz)) (fun z hz => hy z (List.mem_cons_of_mem _ hz)) h.2, show x = y by omega]
theorem small_lit {l : List Int} (h : l.all (fun x => decide (0 ≤ x) && decide (x < 256)) = true) : Small l := fun x hx => by
  have := List.all_eq_true.1 h x hx
  simpa using this
/-- Does a text begin so? By its bytes. -/
theorem text_is {xs ys : List Int} (hx : Small xs) (hy : Small ys) : ((strOfNums xs).toList == Lib.bytesOf ys) = decide (xs = ys) := by
  rw [Lib.strOfNums_toList]
  by_cases h : xs = ys
  · subst h; simp
  · rw [decide_eq_false h, beq_eq_false_iff_ne]
    exact fun e => h (bytes_inj hx hy e)
theorem u32_range {n : Int} (h : (Lit.int .u32 n).wf = true) : 0 ≤ n ∧ n < 4294967296 := by
  have : 0 ≤ n ∧ n ≤ 4294967295 := by simpa [Lit.wf, IntKind.min, IntKind.max, IntKind.signed, IntKind.bits] using h
  omega
theorem u64_range {n : Int} (h : (Lit.int .u64 n).wf = true) : 0 ≤ n ∧ n < 18446744073709551616 := by
  have : 0 ≤ n ∧ n ≤ 18446744073709551615 := by simpa [Lit.wf, IntKind.min, IntKind.max, IntKind.signed, IntKind.bits] using h
  omega

/-- One element's five cells. -/
theorem list_of' {α : Type} (z : α) (n : Nat) (P : Nat → α → Prop) (h : ∀ i, i < n → ∃ s, P i s) : ∃ l : List α, l.length = n ∧ ∀ i s, l[i]? = some s → P i s := by
  have h' : ∀ i, ∃ s, i < n → P i s := fun i => by
    by_cases hi : i < n
    · obtain ⟨s, hs⟩ := h i hi; exact ⟨s, fun _ => hs⟩
    · exact ⟨z, fun h => absurd h hi⟩
  refine ⟨(List.range n).map fun i => Classical.choose (h' i), by simp, fun i s hs => ?_⟩
  rw [List.getElem?_map] at hs
  rcases Nat.lt_or_ge i n with hi | hi
  · rw [List.getElem?_range hi] at hs
    injection hs with hs
    rw [← hs]
    exact Classical.choose_spec (h' i) hi
  · rw [List.getElem?_eq_none (by simpa using hi)] at hs
    cases hs

/-- A slice of parts that came in. -/
theorem one_byte' (w : World) (v : Int) : IsBytes (w.alloc (.cells #[.int .u8 v] 5)) (some ⟨w.heap.size, 0, none⟩) 1 [v] := by
  refine IsBytes.mk_at fun i hi => ?_
  obtain rfl : i = 0 := by simpa using hi
  rw [cell_of (heap_alloc_new w _)]
  rfl
theorem small_app {xs ys : List Int} (h : Small xs) (k : Small ys) : Small (xs ++ ys) := fun x hx => by
  rcases List.mem_append.1 hx with h1 | h1
  · exact h x h1
  · exact k x h1
theorem small_flat {α : Type} {f : α → List Int} {l : List α} (h : ∀ a ∈ l, Small (f a)) : Small (l.flatMap f) := fun x hx => by
  obtain ⟨a, ha, hxa⟩ := List.mem_flatMap.1 hx
  exact h a ha x hxa
theorem zeros_small (n : Nat) : Small (List.replicate n 0) := fun x hx => by
  rw [List.eq_of_mem_replicate hx]; decide
theorem grown_app {w1 w2 : World} {g g1 : Nat} (h : w.grownBy w1 (some g)) (k : w1.grownBy w2 (some g1)) (hr : g1 = g ∨ w.heap.size ≤ g1) : w.grownBy w2 (some g) :=
  ⟨k.os.trans h.os, k.tape.trans h.tape, k.output.trans h.output, Nat.le_trans h.size k.size, fun i hi hn =>
    (k.block i (Nat.lt_of_lt_of_le hi h.size) (fun e => by
      injection e with e
      rcases hr with rfl | hg
      · exact hn (by rw [e])
      · omega)).trans (h.block i hi hn)⟩

/-- A row of bytes behind what was appended to it: its bytes, and that nothing else of old memory has turned. -/
theorem shr_div (n : Int) (k : Nat) : n >>> k = n / 2 ^ k := Int.shiftRight_eq_div_pow n k
end Go.Proofs.YtmffpnhdnaokhaaDoor
