/- A cursor made of bytes; its error, and what that tells. No condition but the form's own bound on how long the bytes are. -/
import Derived.Test.YtlgjkdfpcmkjoaaText
import Derived.Test.YtlgjkdfpcmkjoaaNum
namespace Go.Proofs.Ytlgjkdfpcmkjoaa
open Go.RowKit
variable {w : World} {base a : Nat} {q : Option Addr} {c : Nat} {xs : List Int} {p : Nat} {big bad : Bool}

/-- What bytes.Clone makes of bytes. -/
theorem clone_any {ys : List Int} (h : IsBytes w q c ys) (hb : ys.length ≤ 140737488355328) :
    Calls Try.prog 25 #[.slice q ys.length c] w fun e w' => (∃ q' c', e = .returned (.slice q' ys.length c') ∧ w'.ownsRow w.heap.size 5 1 (.slice q' ys.length c') ys.length (ys.map (Value.int .u8)) ∧ (q' = none ↔ q = none)) ∧ Below w.heap.size w w' := by
  rcases h.ways with ⟨rfl, rfl, rfl⟩ | ⟨x, rfl, hc⟩
  · refine (Try.bytes_Clone_nil 0 0 w).mono ?_
    rintro e w' ⟨rfl, rfl⟩
    exact ⟨⟨none, 0, rfl, World.ownsRow_nil _ _ _ _, Iff.rfl⟩, Below.refl _ _⟩
  · refine (Try.bytes_Clone_at x ys.length c ys w rfl hb hc).mono ?_
    · rintro e w' ⟨v', rfl, hown, hne, hbel⟩
      refine ⟨?_, hbel⟩
      rcases hown.2 with ⟨hv, _⟩ | ⟨g, cap, cur, hv, _⟩
      · exact absurd hv hne
      · subst hv
        exact ⟨_, cap, rfl, hown, by simp⟩

theorem new_any {ys : List Int} (h : IsBytes w q c ys) (hb : ys.length ≤ 140737488355328) (hr : ∀ x ∈ ys, 0 ≤ x ∧ x < 256) (big : Bool) :
    Calls Try.prog 8 #[.slice q ys.length c, .bool big] w fun e w' =>
      (∃ a q' c', e = .returned (.pointer (some ⟨a, 0, none⟩)) ∧ w.heap.size ≤ a ∧ Cur w' w.heap.size a q' c' ys 0 big false ∧ (q' = none ↔ q = none)) ∧ Below w.heap.size w w' := by
  have C := Lib.hid (clone_any h hb)
  go_enter Try.func8, Try.ntmps8
  go_wp2_with fail
  refine C.out.mono ?_
  rintro e w1 ⟨⟨q', c', rfl, hown, hnn⟩, hbel⟩
  have N := Lib.hid hnn
  clear hnn
  have hfin : ∀ o, o = Obj.cells #[.slice q' ys.length c', .int .i64 0, .bool big, .bool false] 47 → Cur (w1.alloc o) w.heap.size w1.heap.size q' c' ys 0 big false := by
    rintro o rfl
    exact ⟨heap_alloc_new w1 _, hown.alloc _, Nat.zero_le _, fun e => by have := (hown.lt _ e).2; omega, hb, hr⟩
  have F := Lib.hid hfin
  have B := Lib.hid hbel
  have O := Lib.hid hown
  clear hfin hbel hown
  go_wp2
  go_ret
  exact ⟨⟨_, _, _, rfl, B.out.size, F.out _ rfl, N.out⟩, (B.out).alloc B.out.size _⟩

theorem bytes_ok (h : Cur w base a q c xs p big false) (n : Nat) (hn : p + n ≤ xs.length) :
    Calls Try.prog 10 #[.pointer (some ⟨a, 0, none⟩), .int .i64 n] w fun e w' =>
      (∃ q' c', e = .returned (.slice q' n c') ∧ w'.ownsRow w.heap.size 5 1 (.slice q' n c') n (((xs.drop p).take n).map (Value.int .u8)) ∧ (q' = none ↔ q = none)) ∧ Cur w' base a q c xs (p + n) big false ∧ w.grownBy w' (some a) := by
  have T := Lib.hid (take_ok h n hn)
  have hl : ((xs.drop p).take n).length = n := by simp; omega
  have L := Lib.hid hl
  have hbig := h.big
  generalize (xs.drop p).take n = ys at *
  clear hl
  go_enter Try.func10, Try.ntmps10
  go_wp2_with fail
  refine T.out.mono ?_
  rintro e w1 ⟨⟨q', rfl, hb, hn1⟩, hc, hg⟩
  have hcl := clone_any hb (by rw [L.out]; omega)
  rw [L.out] at hcl
  have K := Lib.hid hcl
  clear hcl
  go_wp2_with fail
  refine K.out.mono ?_
  rintro e w2 ⟨⟨q2, c2, rfl, hown, hn2⟩, hbel⟩
  have N := Lib.hid (hn2.trans hn1)
  clear hn1 hn2
  have hlt := hc.lt
  have hc2 := hc.kept (grown_below hbel none) (by simp) (by cases (Value.slice q xs.length c).ownBlock <;> simp)
  have hg2 := grown_trans hg (grown_below hbel (some a))
  have hown2 : w2.ownsRow w.heap.size 5 1 (.slice q2 n c2) n (ys.map (Value.int .u8)) := by
    refine ⟨hown.1, ?_⟩
    rcases hown.2 with h1 | ⟨g, cap, cur, hv, hgg, rest⟩
    · exact .inl h1
    · exact .inr ⟨g, cap, cur, hv, Nat.le_trans hg.size hgg, rest⟩
  have O := Lib.hid hown2
  clear hown hown2
  go_wp2
  go_ret
  exact ⟨⟨_, _, rfl, O.out, N.out⟩, hc2, hg2⟩

theorem wrong_ok (h : Cur w base a q c xs p big false) :
    Calls Try.prog 24 #[.pointer (some ⟨a, 0, none⟩)] w fun e w' => e = .returned .nilIface ∧ w = w' := by
  go_enter Try.func24, Try.ntmps24
  go_wp2_with fail
  refine (err_any h).mono ?_
  rintro e w1 ⟨rfl, rfl⟩
  go_wp2
  go_ret
  exact ⟨rfl, rfl⟩

theorem wrong_no (h : Cur w base a q c xs p big true) :
    Calls Try.prog 24 #[.pointer (some ⟨a, 0, none⟩)] w fun e w' =>
      e = .returned (.iface 56 (.pointer (some ⟨w.heap.size, 0, none⟩))) ∧ w.alloc (.cells #[.int .i64 p, .int .i64 3] 58) = w' := by
  go_enter Try.func24, Try.ntmps24
  go_wp2_with fail
  refine (err_any h).mono ?_
  rintro e w1 ⟨rfl, rfl⟩
  go_wp2_with fail
  refine (at_any h).mono ?_
  rintro e w1 ⟨rfl, rfl⟩
  go_wp2
  go_ret
  exact ⟨rfl, rfl⟩
end Go.Proofs.Ytlgjkdfpcmkjoaa
