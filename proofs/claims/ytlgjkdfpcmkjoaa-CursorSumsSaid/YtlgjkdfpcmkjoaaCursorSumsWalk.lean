/- The walk of CursorSums: two numbers' sum, product and span, held against the document's own. -/
import Derived.Test.YtlgjkdfpcmkjoaaSums2
import Derived.Test.YtlgjkdfpcmkjoaaKnown
namespace Go.Proofs.Ytlgjkdfpcmkjoaa.cursorSums
open Go.RowKit

theorem nat_of_u64 {a : Int} (h : (Lit.int .u64 a).wf = true) : ∃ n : Nat, a = n ∧ n < 18446744073709551616 := by
  have : 0 ≤ a ∧ a ≤ 18446744073709551615 := by simpa [Lit.wf, IntKind.min, IntKind.max, IntKind.signed, IntKind.bits] using h
  exact ⟨a.toNat, by omega, by omega⟩

theorem walk (a0 : Int) (w0 : (Lit.int .u64 a0).wf = true) (a1 : Int) (w1 : (Lit.int .u64 a1).wf = true) (a2 : Int) (w2 : (Lit.int .u64 a2).wf = true) (w : World) :
    Calls Try.prog 5 #[.int .u64 a0, .int .u64 a1, .int .u64 a2] w fun e w' => e = .returned (.bool true) ∧ Below w.heap.size w w' := by
  obtain ⟨a, rfl, ha⟩ := nat_of_u64 w0
  obtain ⟨b, rfl, hb⟩ := nat_of_u64 w1
  obtain ⟨c, rfl, hc⟩ := nat_of_u64 w2
  clear w0 w1 w2
  have h1 := add_any a b ha hb w
  have h2 := refsum_any a b ha hb w
  have h3 := mul_any a b ha hb w
  have h4 := refprod_any a b ha hb w
  have h5 := within_any a b c ha hb hc w
  have h6 := refwithin_any a b c ha hb hc w
  obtain ⟨s, t, hs⟩ : ∃ s t, sumV a b = .tuple #[.int .u64 s, .bool t] := ⟨_, _, rfl⟩
  obtain ⟨u, v, hu⟩ : ∃ s t, prodV a b = .tuple #[.int .u64 s, .bool t] := ⟨_, _, rfl⟩
  rw [hs] at h1 h2
  rw [hu] at h3 h4
  generalize withinB a b c = z at *
  have H1 := Lib.hid h1
  have H2 := Lib.hid h2
  have H3 := Lib.hid h3
  have H4 := Lib.hid h4
  have H5 := Lib.hid h5
  have H6 := Lib.hid h6
  clear h1 h2 h3 h4 h5 h6 hs hu ha hb hc
  go_enter Try.func5, Try.ntmps5
  go_wp2_with fail
  refine H1.out.mono ?_
  rintro e w' ⟨rfl, rfl⟩
  go_wp2_with fail
  refine H2.out.mono ?_
  rintro e w' ⟨rfl, rfl⟩
  go_wp2_with fail
  refine H3.out.mono ?_
  rintro e w' ⟨rfl, rfl⟩
  go_wp2_with fail
  refine H4.out.mono ?_
  rintro e w' ⟨rfl, rfl⟩
  go_wp2_with fail
  refine H5.out.mono ?_
  rintro e w' ⟨rfl, rfl⟩
  go_wp2_with fail
  refine H6.out.mono ?_
  rintro e w' ⟨rfl, rfl⟩
  go_wp2_with fail
  refine (known_any w).mono ?_
  rintro e w' ⟨rfl, hbel⟩
  go_wp2
  go_ret
  exact ⟨rfl, hbel⟩
end Go.Proofs.Ytlgjkdfpcmkjoaa.cursorSums
