/- A cursor made of bytes, which it has for itself. No condition but the form's own bound on how long the bytes are. -/
import Derived.Test.YtlmgkofbjcahaaaOps
namespace Go.Proofs.Ytlmgkofbjcahaaa
open Go.RowKit
variable {w : World} {base a : Nat} {q : Option Addr} {c : Nat} {xs : List Int} {p : Nat} {big bad : Bool}

/-- What bytes.Clone makes of bytes. -/
theorem clone_any {ys : List Int} (h : IsBytes w q c ys) (hb : ys.length ≤ 140737488355328) :
    Calls Try.prog 32 #[.slice q ys.length c] w fun e w' => (∃ q' c', e = .returned (.slice q' ys.length c') ∧ w'.ownsRow w.heap.size 5 1 (.slice q' ys.length c') ys.length (ys.map (Value.int .u8)) ∧ (q' = none ↔ q = none)) ∧ Below w.heap.size w w' := by
  rcases h.ways with ⟨rfl, rfl, rfl⟩ | ⟨x, rfl, hc⟩
  · refine (Try.bytes_Clone_nil 0 0 w).mono ?_
    rintro e w' ⟨rfl, rfl⟩
    exact ⟨⟨none, 0, rfl, World.ownsRow_nil _ _ _ _, Iff.rfl⟩, Below.refl _ _⟩
  · refine (Try.bytes_Clone_at x ys.length c ys w rfl hb hc).mono ?_
    · rintro e w' ⟨v', rfl, hown, hne, hbel⟩
      refine ⟨?_, hbel⟩
      rcases hown.2 with ⟨hv, _⟩ | ⟨g, cap, cur, hv, _⟩
      · exact absurd hv hne
      · subst hv
        exact ⟨_, cap, rfl, hown, by simp⟩

theorem new_any {ys : List Int} (h : IsBytes w q c ys) (hb : ys.length ≤ 140737488355328) (hr : ∀ x ∈ ys, 0 ≤ x ∧ x < 256) (big : Bool) :
    Calls Try.prog 19 #[.slice q ys.length c, .bool big] w fun e w' =>
      (∃ a q' c', e = .returned (.pointer (some ⟨a, 0, none⟩)) ∧ w.heap.size ≤ a ∧ Cur w' w.heap.size a q' c' ys 0 big false ∧ (q' = none ↔ q = none)) ∧ Below w.heap.size w w' := by
  have C := Lib.hid (clone_any h hb)
  go_enter Try.func19, Try.ntmps19
  go_wp2_with fail
  refine C.out.mono ?_
  rintro e w1 ⟨⟨q', c', rfl, hown, hnn⟩, hbel⟩
  have N := Lib.hid hnn
  clear hnn
  have hfin : ∀ o, o = Obj.cells #[.slice q' ys.length c', .int .i64 0, .bool big, .bool false] 66 → Cur (w1.alloc o) w.heap.size w1.heap.size q' c' ys 0 big false := by
    rintro o rfl
    exact ⟨heap_alloc_new w1 _, hown.alloc _, Nat.zero_le _, fun e => by have := (hown.lt _ e).2; omega, hb, hr⟩
  have F := Lib.hid hfin
  have B := Lib.hid hbel
  have O := Lib.hid hown
  clear hfin hbel hown
  go_wp2
  go_ret
  exact ⟨⟨_, _, _, rfl, B.out.size, F.out _ rfl, N.out⟩, (B.out).alloc B.out.size _⟩

end Go.Proofs.Ytlmgkofbjcahaaa
