/- Layer 2's Uleb and Sleb, one contract each: on a cursor, on one that has failed, on none. No condition but that there is such a cursor in memory. -/
import Derived.Test.YtblfighfahffkaaTake
namespace Go.Proofs.Ytblfighfahffkaa
open Go.RowKit
variable {w : World} {base a : Nat} {q : Option Addr} {c : Nat} {xs : List Int} {p : Nat} {big : Bool}

theorem uleb_none {l : List Int} (h : (ulebN l).2 = 0) : (ulebN l).1 = 0 := by
  unfold ulebN at *
  split at h
  · simp only at h; rw [if_pos (by assumption), h]; rfl
  · rw [if_neg (by assumption)]
theorem sleb_none {l : List Int} (h : (slebN l).2 = 0) : (slebN l).1 = 0 := by
  unfold slebN at *
  split at h
  · simp only at h; rw [if_pos (by assumption), h]; rfl
  · rw [if_neg (by assumption)]

/-- Uleb: the document's number; where none stands, 0, and the cursor has failed there. -/
theorem uleb_any (h : Cur w base a q c xs p big false) :
    Calls Try.prog 89 #[.pointer (some ⟨a, 0, none⟩)] w fun e w' =>
      e = .returned (.int .u64 (ulebN (xs.drop p)).1) ∧ Cur w' base a q c xs (p + (ulebN (xs.drop p)).2) big (decide ((ulebN (xs.drop p)).2 = 0)) ∧ w.grownBy w' (some a) := by
  have hlt := h.lt
  have h1 : Cur (w.alloc (.cells #[.int .u64 0] 31)) base a q c xs p big false := h.kept (World.grownBy_alloc w _ none) (by simp) (by cases (Value.slice q xs.length c).ownBlock <;> simp)
  have T := takeu_any h1 w.heap.size (heap_alloc_new w _) (by omega) (fun e => by have := (h.own.lt _ e).2; omega)
  have Z := uleb_none (l := xs.drop p)
  unfold UEnd at T
  generalize ulebN (xs.drop p) = r at *
  obtain ⟨v, n⟩ := r
  simp only at T Z ⊢
  have TT := Lib.hid T
  clear T
  go_enter Try.func89, Try.ntmps89
  go_wp2_with fail
  refine TT.out.mono ?_
  rintro e w2 ⟨he, hc, hcell, hk⟩
  have G := KeptBut.grown (World.grownBy_alloc w (.cells #[.int .u64 0] 31) none) hk (a := a) (by simp)
  by_cases hn : n = 0
  · subst hn
    obtain rfl := Z rfl
    have E := Lib.hid (And.intro hc G)
    subst he
    clear hcell hk hc G
    go_wp2
    go_ret
    exact ⟨rfl, E.out.1, E.out.2⟩
  · have hd : decide (0 < n) = true := by simp; omega
    have c0 : w2.cell? ⟨w.heap.size, 0, none⟩ = some (.int .u64 v) := by rw [cell_of (hcell (by omega))]; rfl
    rw [hd] at he
    subst he
    have E := Lib.hid (And.intro hc G)
    clear hcell hk hc G hd
    go_wp2
    go_ret
    exact ⟨rfl, E.out.1, E.out.2⟩

theorem err_none (w : World) : Calls Try.prog 68 #[.pointer none] w fun e w' => e = .returned (.int .i64 1) ∧ w = w' := by
  go_enter Try.func68, Try.ntmps68
  go_wp2
  go_ret
  exact ⟨rfl, rfl⟩
theorem take_bad (h : Cur w base a q c xs p big true) (f : Value) :
    Calls Try.prog 103 #[.pointer (some ⟨a, 0, none⟩), f] w fun e w' => e = .returned (.bool false) ∧ w = w' := by
  go_enter Try.func103, Try.ntmps103
  go_wp2_with fail
  go_step3
  go_wp2_with fail
  refine (err_any h).mono ?_
  rintro e w' ⟨rfl, rfl⟩
  go_wp2
  (try rw [Exit.noGoto_ret])
  go_ret
  exact ⟨rfl, rfl⟩
theorem take_nil_any (f : Value) (w : World) :
    Calls Try.prog 103 #[.pointer none, f] w fun e w' => e = .returned (.bool false) ∧ w = w' := by
  go_enter Try.func103, Try.ntmps103
  go_wp2_with fail
  go_step3
  go_wp2_with fail
  refine (err_none w).mono ?_
  rintro e w' ⟨rfl, rfl⟩
  go_wp2
  (try rw [Exit.noGoto_ret])
  go_ret
  exact ⟨rfl, rfl⟩

theorem uleb_bad (h : Cur w base a q c xs p big true) :
    Calls Try.prog 89 #[.pointer (some ⟨a, 0, none⟩)] w fun e w' => e = .returned (.int .u64 0) ∧ Cur w' base a q c xs p big true ∧ w.grownBy w' none := by
  have h1 : Cur (w.alloc (.cells #[.int .u64 0] 31)) base a q c xs p big true := h.kept (World.grownBy_alloc w _ none) (by simp) (by cases (Value.slice q xs.length c).ownBlock <;> simp)
  go_enter Try.func89, Try.ntmps89
  go_wp2_with fail
  refine (take_bad h1 _).mono ?_
  rintro e w' ⟨rfl, rfl⟩
  go_wp2
  go_ret
  exact ⟨rfl, h1, World.grownBy_alloc _ _ _⟩
theorem uleb_nil (w : World) :
    Calls Try.prog 89 #[.pointer none] w fun e w' => e = .returned (.int .u64 0) ∧ w.grownBy w' none := by
  go_enter Try.func89, Try.ntmps89
  go_wp2_with fail
  refine (take_nil_any _ _).mono ?_
  rintro e w' ⟨rfl, rfl⟩
  go_wp2
  go_ret
  exact ⟨rfl, World.grownBy_alloc _ _ _⟩

end Go.Proofs.Ytblfighfahffkaa
