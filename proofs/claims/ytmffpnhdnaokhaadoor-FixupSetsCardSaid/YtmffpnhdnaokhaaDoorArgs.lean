/- How an argument that is a slice of bytes, or of ints, lies in memory: from the form's words to the walks'. No condition. -/
import Derived.Test.YtmffpnhdnaokhaaDoorCur
import Derived.OpenShut
import Derived.ProofKit
namespace Go.Proofs.YtmffpnhdnaokhaaDoor
open Go.RowKit
variable {w w' : World}

/-- A slice of integers that came in: nil; or a row, the spare places too. -/
def IsRow (k : IntKind) (w : World) (a : Option Addr) (len cap : Nat) (zs : List Int) : Prop :=
  (a = none ∧ len = 0 ∧ cap = 0 ∧ zs = []) ∨
  ∃ x, a = some x ∧ len ≤ cap ∧ cap ≤ maxLen ∧ zs.length = cap ∧ (∀ i, i < zs.length → w.cell? (x.add i) = some (.int k (zs.getD i 0))) ∧ ∀ n ∈ zs, (Lit.int k n).wf = true

/-- A slice of ints: its cells, and that each is a number of 64 bits. -/
def IsInts (w : World) (p : Option Addr) (ys : List Int) : Prop :=
  (0 < ys.length → ∃ b o, p = some ⟨b, o, none⟩ ∧ b < w.heap.size ∧ ∀ i, i < ys.length → w.cell? ⟨b, o + i, none⟩ = some (.int .i64 (ys.getD i 0))) ∧ ∀ y ∈ ys, -9223372036854775808 ≤ y ∧ y ≤ 9223372036854775807

theorem flat_of_cell {x : Addr} {v : Value} (h : w.cell? (x.add 0) = some v) : ∃ b o, x = ⟨b, o, none⟩ := by
  obtain ⟨b, o, spot⟩ := x
  have : spot = none := by simpa [Addr.add] using World.cell?_spot h
  exact ⟨b, o, by rw [this]⟩

theorem u8_range {n : Int} (h : (Lit.int .u8 n).wf = true) : 0 ≤ n ∧ n < 256 := by
  have : 0 ≤ n ∧ n ≤ 255 := by simpa [Lit.wf, IntKind.min, IntKind.max, IntKind.signed, IntKind.bits] using h
  omega
theorem i64_range {n : Int} (h : (Lit.int .i64 n).wf = true) : -9223372036854775808 ≤ n ∧ n ≤ 9223372036854775807 := by
  simpa [Lit.wf, IntKind.min, IntKind.max, IntKind.signed, IntKind.bits] using h

theorem IsRow.bytes {a : Option Addr} {len cap : Nat} {zs : List Int} (h : IsRow .u8 w a len cap zs) :
    ∃ ys : List Int, ys.length = len ∧ (∀ y ∈ ys, 0 ≤ y ∧ y < 256) ∧ IsBytes w a cap ys ∧ (∀ x, a = some x → 0 < len → x.block < w.heap.size) := by
  rcases h with ⟨rfl, rfl, rfl, rfl⟩ | ⟨x, rfl, hl, _, hz, hc, hw⟩
  · exact ⟨[], rfl, by simp, IsBytes.nil, by simp⟩
  · refine ⟨zs.take len, by simp; omega, fun y hy => u8_range (hw y (List.mem_of_mem_take hy)), ⟨fun e => (by cases e), fun h0 => ?_⟩, fun x' hx h0 => ?_⟩
    · simp only [List.length_take] at h0
      obtain ⟨b, o, rfl⟩ := flat_of_cell (hc 0 (by omega))
      refine ⟨b, o, rfl, fun i hi => ?_⟩
      simp only [List.length_take] at hi
      rw [← add_flat, hc i (by omega)]
      simp [List.getD, show i < len by omega]
    · injection hx with hx
      subst hx
      obtain ⟨b, o, rfl⟩ := flat_of_cell (hc 0 (by omega))
      exact World.block_lt_of_cell? w _ (hc 0 (by omega))
theorem IsRow.ints {a : Option Addr} {len cap : Nat} {zs : List Int} (h : IsRow .i64 w a len cap zs) :
    ∃ ys : List Int, ys.length = len ∧ IsInts w a ys := by
  rcases h with ⟨rfl, rfl, rfl, rfl⟩ | ⟨x, rfl, hl, _, hz, hc, hw⟩
  · exact ⟨[], rfl, by simp, by simp⟩
  · refine ⟨zs.take len, by simp; omega, fun h0 => ?_, fun y hy => i64_range (hw y (List.mem_of_mem_take hy))⟩
    simp only [List.length_take] at h0
    obtain ⟨b, o, rfl⟩ := flat_of_cell (hc 0 (by omega))
    refine ⟨b, o, rfl, World.block_lt_of_cell? w _ (hc 0 (by omega)), fun i hi => ?_⟩
    simp only [List.length_take] at hi
    rw [← add_flat, hc i (by omega)]
    simp [List.getD, show i < len by omega]
theorem IsInts.below {p : Option Addr} {ys : List Int} (h : IsInts w p ys) (hb : Below w.heap.size w w') : IsInts w' p ys := by
  refine ⟨fun h0 => ?_, h.2⟩
  obtain ⟨b, o, rfl, hlt, hc⟩ := h.1 h0
  exact ⟨b, o, rfl, Nat.lt_of_lt_of_le hlt hb.size, fun i hi => by rw [hb.cell (p := ⟨b, o + i, none⟩) hlt]; exact hc i hi⟩
theorem IsBytes.below {p : Option Addr} {c : Nat} {ys : List Int} (h : IsBytes w p c ys) (hb : Below w.heap.size w w') : IsBytes w' p c ys :=
  h.kept (row := none) (grown_below hb none) (by simp)
/-- An array of bytes that came in by value. -/
theorem array_bytes {H : Type} {enc : TypeId × Value → H} {P : Program} {base spare} {held : Bool} {r : Reach} {b0 : Nat} {t e : TypeId} {n : Nat} {v : Value} {d : DataW H} {ps : List MemPlace}
    (ht : P.underlying t = some (.array n e)) (he : P.underlying e = some (.int .u8)) (hce : P.cellsOf e = 1) (hct : P.cellsOf t = n) (hval : Value.okWide P w r b0 t v) (hd : DataW.Trod enc P w base spare held t v d ps) :
    ∃ bs : List Int, v = .agg (bs.map (Value.int .u8)).toArray ∧ bs.length = n ∧ ∀ b ∈ bs, 0 ≤ b ∧ b < 256 := by
  simp only [Value.okWide, ht] at hval
  obtain ⟨cs, rfl, hsz, _⟩ := hval
  rw [hct] at hsz
  obtain ⟨fuel, hf⟩ := hd
  obtain ⟨xs, m, _, _, _, hxl, hx⟩ := DataW.trod_array ht hf
  have key : ∀ i (h : i < cs.size), ∃ b, cs[i] = .int .u8 b ∧ 0 ≤ b ∧ b < 256 := by
    intro i hi
    have h1 := hx i (by omega)
    rw [hce, List.getElem?_eq_getElem (by omega)] at h1
    obtain ⟨b, e1, _, hw⟩ := DataW.trod_int he h1
    refine ⟨b, ?_, u8_range hw⟩
    simp only [Value.cells, Nat.mul_one] at e1
    rw [List.drop_eq_getElem_cons (by simpa using hi)] at e1
    simpa using e1
  refine ⟨cs.toList.map intOf, ?_, by simpa using hsz, ?_⟩
  · congr 1
    apply Array.ext'
    rw [List.map_map]
    conv => lhs; rw [← List.map_id cs.toList]
    apply List.map_congr_left
    intro u hu
    obtain ⟨i, hi, rfl⟩ := List.getElem_of_mem hu
    obtain ⟨b, hb, _⟩ := key i (by simpa using hi)
    simp [hb, intOf]
  · intro b hb
    obtain ⟨u, hu, rfl⟩ := List.mem_map.1 hb
    obtain ⟨i, hi, rfl⟩ := List.getElem_of_mem hu
    obtain ⟨b, hb, hr⟩ := key i (by simpa using hi)
    simp only [Array.getElem_toList, hb, intOf]
    exact hr
/-- What the call owns reads as bytes. -/
theorem IsBytes.of_own {base : Nat} {p : Option Addr} {n c : Nat} {ys : List Int} (hl : ys.length = n) (h : w.ownsRow base 5 1 (.slice p n c) n (ys.map (Value.int .u8))) : IsBytes w p c ys := by
  subst hl
  have h' := h
  obtain ⟨_, hn | ⟨g, cap, cur, hv, _, hg, hle, hm, hs, ht⟩⟩ := h
  · obtain ⟨e, h0⟩ := hn
    injection e with e1 e2 e3
    subst e1 e3
    rw [List.eq_nil_of_length_eq_zero h0]
    exact IsBytes.nil
  · injection hv with e1 e2 e3
    subst e1 e3
    refine IsBytes.mk_at fun i hi => ?_
    have hc := h'.cells (g := g) rfl i (.int .u8 (ys.getD i 0)) (by simp [hi])
    rw [add_flat] at hc
    exact hc
end Go.Proofs.YtmffpnhdnaokhaaDoor
