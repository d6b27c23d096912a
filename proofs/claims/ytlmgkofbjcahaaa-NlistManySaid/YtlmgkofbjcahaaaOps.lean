/- The calls of layer 1 (cursor), one contract each: what is answered, and what the cursor is then. No condition but that there is such a cursor in memory. -/
import Derived.Test.YtlmgkofbjcahaaaCur
import Derived.Test.YtlmgkofbjcahaaaRet
namespace Go.Proofs.Ytlmgkofbjcahaaa
open Go.RowKit
variable {w : World} {base a : Nat} {q : Option Addr} {c : Nat} {xs : List Int} {p : Nat} {big bad : Bool}

theorem fail_any (h : Cur w base a q c xs p big bad) :
    Calls Try.prog 38 #[.pointer (some ⟨a, 0, none⟩)] w fun e w' => e = .returned (.tuple #[]) ∧ Cur w' base a q c xs p big true ∧ w.grownBy w' (some a) := by
  have h3 := h.c3
  have f3 := h.f3
  have hfin := h.setBad
  have hg := grown_setCell (i := 3) (grown_refl w (some a)) (.bool true)
  go_enter Try.func38, Try.ntmps38
  go_wp2
  go_end0
  exact ⟨rfl, hfin, hg⟩

theorem rest_any (h : Cur w base a q c xs p big bad) :
    Calls Try.prog 47 #[.pointer (some ⟨a, 0, none⟩)] w fun e w' => (∃ q', e = .returned (.slice q' (xs.length - p) (c - p)) ∧ IsBytes w q' (c - p) (xs.drop p)) ∧ ∃ n, w.drewN n = w' := by
  have h0 := h.c0
  have h1 := h.c1
  have hle := h.le
  have hbig := h.big
  rcases h.form with ⟨rfl, rfl, rfl⟩ | ⟨g, rfl, hc1, hc2, hcell⟩
  · obtain rfl : p = 0 := by simpa using hle
    go_enter Try.func47, Try.ntmps47
    go_wp2
    go_quiet (fail)
    go_wp2
    go_ret
    exact ⟨⟨_, rfl, IsBytes.nil⟩, _, rfl⟩
  · have hcut := IsBytes.drop (w := w) hcell p (c - p)
    have hcp : c = p → xs.drop p = [] := fun e => List.drop_eq_nil_of_le (by omega)
    have H1 := Lib.hid hcut
    have H2 := Lib.hid hcp
    have H3 := Lib.hid hcell
    clear hcut hcp hcell
    go_enter Try.func47, Try.ntmps47
    go_wp2
    go_quiet (fail)
    go_wp2
    · have hcp : c = p := by assumption
      go_ret
      exact ⟨⟨_, rfl, (by rw [H2.out hcp]; exact IsBytes.empty)⟩, _, rfl⟩
    · go_ret
      exact ⟨⟨_, rfl, H1.out⟩, _, rfl⟩

theorem left_any (h : Cur w base a q c xs p big bad) :
    Calls Try.prog 42 #[.pointer (some ⟨a, 0, none⟩)] w fun e w' => e = .returned (.int .i64 ((xs.length : Int) - p)) ∧ ∃ n, w.drewN n = w' := by
  have hle := h.le
  have hbig := h.big
  go_enter Try.func42, Try.ntmps42
  go_wp2_with fail
  refine (rest_any h).mono ?_
  rintro e w' ⟨⟨q', rfl, _⟩, n, rfl⟩
  go_wp2
  go_ret
  exact ⟨ret_int (by omega), n, rfl⟩

/-- What can't be taken: nothing, and it has failed. -/
theorem take_no (h : Cur w base a q c xs p big bad) (n : Int) (hn : bad = true ∨ n < 0 ∨ (xs.length : Int) - p < n) :
    Calls Try.prog 39 #[.pointer (some ⟨a, 0, none⟩), .int .i64 n] w fun e w' => e = .returned (.slice none 0 0) ∧ Cur w' base a q c xs p big true ∧ w.grownBy w' (some a) := by
  have h3 := h.c3
  cases bad
  · have hb : n < 0 ∨ (xs.length : Int) - p < n := by simpa using hn
    have f3 := h.f3
    clear hn
    by_cases hneg : n < 0
    · have hfin := h.setBad
      have hg := grown_setCell (i := 3) (grown_refl w (some a)) (.bool true)
      go_enter Try.func39, Try.ntmps39
      go_wp2
      go_ret
      exact ⟨rfl, hfin, hg⟩
    · have hlt : (xs.length : Int) - p < n := by omega
      clear hb
      have hfin := fun k : Nat => (h.drewN k).setBad
      have hg := fun k : Nat => grown_setCell (i := 3) (grown_drewN (grown_refl w (some a)) k) (.bool true)
      have F := Lib.hid hfin
      have G := Lib.hid hg
      clear hfin hg
      go_enter Try.func39, Try.ntmps39
      go_wp2_with fail
      refine (left_any h).mono ?_
      rintro e w' ⟨rfl, k, rfl⟩
      go_wp2
      go_ret
      exact ⟨rfl, F.out k, G.out k⟩
  · go_enter Try.func39, Try.ntmps39
    go_wp2
    go_ret
    exact ⟨rfl, h, grown_refl _ _⟩

/-- What can be taken: these bytes, in the cursor's own memory; it stands behind them. -/
theorem take_ok (h : Cur w base a q c xs p big false) (n : Nat) (hn : p + n ≤ xs.length) :
    Calls Try.prog 39 #[.pointer (some ⟨a, 0, none⟩), .int .i64 n] w fun e w' =>
      (∃ q', e = .returned (.slice q' n n) ∧ IsBytes w' q' n ((xs.drop p).take n) ∧ (q' = none ↔ q = none)) ∧ Cur w' base a q c xs (p + n) big false ∧ w.grownBy w' (some a) := by
  have h0 := h.c0
  have h1 := h.c1
  have h3 := h.c3
  have f1 := h.f1
  have hbig := h.big
  have hfin := fun k : Nat => (h.drewN k).setAt hn
  have hg := fun k : Nat => grown_setCell (i := 1) (grown_drewN (grown_refl w (some a)) k) (.int .i64 ((p + n : Nat) : Int))
  rw [show ((p + n : Nat) : Int) = (p : Int) + n by omega] at hfin hg
  rcases h.form with ⟨rfl, rfl, rfl⟩ | ⟨g, rfl, hc1, hc2, hcell⟩
  · have F := Lib.hid hfin
    have G := Lib.hid hg
    clear hfin hg
    obtain rfl : n = 0 := by simp at hn; omega
    obtain rfl : p = 0 := by simpa using hn
    go_enter Try.func39, Try.ntmps39
    go_wp2_with fail
    refine (left_any h).mono ?_
    rintro e w' ⟨rfl, k, rfl⟩
    go_wp2
    go_quiet (fail)
    go_wp2
    go_ret
    refine ⟨⟨_, rfl, by simpa using IsBytes.nil, by simp⟩, ?_, ?_⟩
    · exact F.out _
    · exact G.out _
  · have hne : g ≠ a := fun e => h.ne (by simp [Value.ownBlock, e])
    have hcut : ∀ k : Nat, IsBytes ((w.drewN k).setCell ⟨a, 1, none⟩ (.int .i64 ((p : Int) + n))) (some ⟨g, p, none⟩) n ((xs.drop p).take n) := fun k =>
      (IsBytes.cut (w := w) hcell p n n).kept (hg k) (fun b hb => by simp at hb; subst hb; simpa using fun e => hne e.symm)
    have H1 := Lib.hid hcut
    have H3 := Lib.hid hcell
    have F := Lib.hid hfin
    have G := Lib.hid hg
    clear hcut hcell hfin hg
    go_enter Try.func39, Try.ntmps39
    go_wp2_with fail
    refine (left_any h).mono ?_
    rintro e w' ⟨rfl, k, rfl⟩
    go_wp2
    go_quiet (fail)
    go_wp2
    all_goals
      go_ret
      first
        | exact ⟨⟨_, rfl, H1.out _, by simp⟩, F.out _, G.out _⟩
        | (obtain rfl : n = 0 := by omega
           exact ⟨⟨_, rfl, IsBytes.empty, by simp⟩, F.out _, G.out _⟩)
end Go.Proofs.Ytlmgkofbjcahaaa
