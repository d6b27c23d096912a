/- Layer 2's Uleb and Sleb, one contract each: on a cursor, on one that has failed, on none. No condition but that there is such a cursor in memory. -/
import Derived.Test.YtfdbmdkjmifpaaaTake
namespace Go.Proofs.Ytfdbmdkjmifpaaa
open Go.RowKit
variable {w : World} {base a : Nat} {q : Option Addr} {c : Nat} {xs : List Int} {p : Nat} {big : Bool}

theorem uleb_none {l : List Int} (h : (ulebN l).2 = 0) : (ulebN l).1 = 0 := by
  unfold ulebN at *
  split at h
  · simp only at h; rw [if_pos (by assumption), h]; rfl
  · rw [if_neg (by assumption)]
theorem sleb_none {l : List Int} (h : (slebN l).2 = 0) : (slebN l).1 = 0 := by
  unfold slebN at *
  split at h
  · simp only at h; rw [if_pos (by assumption), h]; rfl
  · rw [if_neg (by assumption)]

/-- Uleb: the document's number; where none stands, 0, and the cursor has failed there. -/
theorem uleb_any (h : Cur w base a q c xs p big false) :
    Calls Try.prog 14 #[.pointer (some ⟨a, 0, none⟩)] w fun e w' =>
      e = .returned (.int .u64 (ulebN (xs.drop p)).1) ∧ Cur w' base a q c xs (p + (ulebN (xs.drop p)).2) big (decide ((ulebN (xs.drop p)).2 = 0)) ∧ w.grownBy w' (some a) := by
  have hlt := h.lt
  have h1 : Cur (w.alloc (.cells #[.int .u64 0] 27)) base a q c xs p big false := h.kept (World.grownBy_alloc w _ none) (by simp) (by cases (Value.slice q xs.length c).ownBlock <;> simp)
  have T := takeu_any h1 w.heap.size (heap_alloc_new w _) (by omega) (fun e => by have := (h.own.lt _ e).2; omega)
  have Z := uleb_none (l := xs.drop p)
  unfold UEnd at T
  generalize ulebN (xs.drop p) = r at *
  obtain ⟨v, n⟩ := r
  simp only at T Z ⊢
  have TT := Lib.hid T
  clear T
  go_enter Try.func14, Try.ntmps14
  go_wp2_with fail
  refine TT.out.mono ?_
  rintro e w2 ⟨he, hc, hcell, hk⟩
  have G := KeptBut.grown (World.grownBy_alloc w (.cells #[.int .u64 0] 27) none) hk (a := a) (by simp)
  by_cases hn : n = 0
  · subst hn
    obtain rfl := Z rfl
    have E := Lib.hid (And.intro hc G)
    subst he
    clear hcell hk hc G
    go_wp2
    go_ret
    exact ⟨rfl, E.out.1, E.out.2⟩
  · have hd : decide (0 < n) = true := by simp; omega
    have c0 : w2.cell? ⟨w.heap.size, 0, none⟩ = some (.int .u64 v) := by rw [cell_of (hcell (by omega))]; rfl
    rw [hd] at he
    subst he
    have E := Lib.hid (And.intro hc G)
    clear hcell hk hc G hd
    go_wp2
    go_ret
    exact ⟨rfl, E.out.1, E.out.2⟩

theorem err_none (w : World) : Calls Try.prog 16 #[.pointer none] w fun e w' => e = .returned (.int .i64 1) ∧ w = w' := by
  go_enter Try.func16, Try.ntmps16
  go_wp2
  go_ret
  exact ⟨rfl, rfl⟩
theorem take_bad (h : Cur w base a q c xs p big true) (f : Value) :
    Calls Try.prog 26 #[.pointer (some ⟨a, 0, none⟩), f] w fun e w' => e = .returned (.bool false) ∧ w = w' := by
  go_enter Try.func26, Try.ntmps26
  go_wp2_with fail
  go_step3
  go_wp2_with fail
  refine (err_any h).mono ?_
  rintro e w' ⟨rfl, rfl⟩
  go_wp2
  (try rw [Exit.noGoto_ret])
  go_ret
  exact ⟨rfl, rfl⟩
theorem take_nil_any (f : Value) (w : World) :
    Calls Try.prog 26 #[.pointer none, f] w fun e w' => e = .returned (.bool false) ∧ w = w' := by
  go_enter Try.func26, Try.ntmps26
  go_wp2_with fail
  go_step3
  go_wp2_with fail
  refine (err_none w).mono ?_
  rintro e w' ⟨rfl, rfl⟩
  go_wp2
  (try rw [Exit.noGoto_ret])
  go_ret
  exact ⟨rfl, rfl⟩

theorem uleb_bad (h : Cur w base a q c xs p big true) :
    Calls Try.prog 14 #[.pointer (some ⟨a, 0, none⟩)] w fun e w' => e = .returned (.int .u64 0) ∧ Cur w' base a q c xs p big true ∧ w.grownBy w' none := by
  have h1 : Cur (w.alloc (.cells #[.int .u64 0] 27)) base a q c xs p big true := h.kept (World.grownBy_alloc w _ none) (by simp) (by cases (Value.slice q xs.length c).ownBlock <;> simp)
  go_enter Try.func14, Try.ntmps14
  go_wp2_with fail
  refine (take_bad h1 _).mono ?_
  rintro e w' ⟨rfl, rfl⟩
  go_wp2
  go_ret
  exact ⟨rfl, h1, World.grownBy_alloc _ _ _⟩
theorem uleb_nil (w : World) :
    Calls Try.prog 14 #[.pointer none] w fun e w' => e = .returned (.int .u64 0) ∧ w.grownBy w' none := by
  go_enter Try.func14, Try.ntmps14
  go_wp2_with fail
  refine (take_nil_any _ _).mono ?_
  rintro e w' ⟨rfl, rfl⟩
  go_wp2
  go_ret
  exact ⟨rfl, World.grownBy_alloc _ _ _⟩

/-- Sleb: the document's number; where none stands, 0, and the cursor has failed there. -/
theorem sleb_any (h : Cur w base a q c xs p big false) :
    Calls Try.prog 17 #[.pointer (some ⟨a, 0, none⟩)] w fun e w' =>
      e = .returned (.int .i64 (slebN (xs.drop p)).1) ∧ Cur w' base a q c xs (p + (slebN (xs.drop p)).2) big (decide ((slebN (xs.drop p)).2 = 0)) ∧ w.grownBy w' (some a) := by
  have hlt := h.lt
  have h1 : Cur ((w.alloc (.cells #[.int .i64 0] 2)).alloc (.cells #[.int .i64 0] 2)) base a q c xs p big false := (h.kept (World.grownBy_alloc w _ none) (by simp) (by cases (Value.slice q xs.length c).ownBlock <;> simp)).kept (World.grownBy_alloc _ _ none) (by simp) (by cases (Value.slice q xs.length c).ownBlock <;> simp)
  have hw : w.grownBy ((w.alloc (.cells #[.int .i64 0] 2)).alloc (.cells #[.int .i64 0] 2)) none := grown_trans (World.grownBy_alloc w _ none) (World.grownBy_alloc _ _ none)
  have hb1 : ((w.alloc (.cells #[.int .i64 0] 2)).alloc (.cells #[.int .i64 0] 2)).heap[w.heap.size]? = some (.cells #[.int .i64 0] 2 (0, 0)) := (heap_alloc_old _ _ (by simp)).trans (heap_alloc_new w _)
  have hb2 : ((w.alloc (.cells #[.int .i64 0] 2)).alloc (.cells #[.int .i64 0] 2)).heap[w.heap.size + 1]? = some (.cells #[.int .i64 0] 2 (0, 0)) := by
    have := heap_alloc_new (w.alloc (.cells #[.int .i64 0] 2)) (.cells #[.int .i64 0] 2)
    simpa using this
  have T := takes_any h1 w.heap.size (w.heap.size + 1) hb1 hb2 (by omega) (by omega) (by omega) (fun e => by have := (h.own.lt _ e).2; omega) (fun e => by have := (h.own.lt _ e).2; omega)
  have Z := sleb_none (l := xs.drop p)
  unfold SEnd at T
  generalize slebN (xs.drop p) = r at *
  obtain ⟨v, n⟩ := r
  simp only at T Z ⊢
  have TT := Lib.hid T
  clear T
  go_enter Try.func17, Try.ntmps17
  go_wp2_with fail
  refine TT.out.mono ?_
  rintro e w2 ⟨he, hc, hcell, hk⟩
  have G := KeptBut.grown hw hk (a := a) (by simp)
  by_cases hn : n = 0
  · subst hn
    obtain rfl := Z rfl
    have E := Lib.hid (And.intro hc G)
    subst he
    clear hcell hk hc G
    go_wp2
    go_ret
    exact ⟨rfl, E.out.1, E.out.2⟩
  · have hd : decide (0 < n) = true := by simp; omega
    obtain ⟨V, T, hV, hT, rfl⟩ := hcell (by omega)
    have c0 : w2.cell? ⟨w.heap.size, 0, none⟩ = some (.int .i64 V) := by rw [cell_of hV]; rfl
    have c1 : w2.cell? ⟨w.heap.size + 1, 0, none⟩ = some (.int .i64 T) := by rw [cell_of hT]; rfl
    rw [hd] at he
    subst he
    have E := Lib.hid (And.intro hc G)
    clear hcell hV hT hk hc G hd
    go_wp2
    go_ret
    exact ⟨rfl, E.out.1, E.out.2⟩

theorem sleb_bad (h : Cur w base a q c xs p big true) :
    Calls Try.prog 17 #[.pointer (some ⟨a, 0, none⟩)] w fun e w' => e = .returned (.int .i64 0) ∧ Cur w' base a q c xs p big true ∧ w.grownBy w' none := by
  have h1 : Cur ((w.alloc (.cells #[.int .i64 0] 2)).alloc (.cells #[.int .i64 0] 2)) base a q c xs p big true := (h.kept (World.grownBy_alloc w _ none) (by simp) (by cases (Value.slice q xs.length c).ownBlock <;> simp)).kept (World.grownBy_alloc _ _ none) (by simp) (by cases (Value.slice q xs.length c).ownBlock <;> simp)
  go_enter Try.func17, Try.ntmps17
  go_wp2_with fail
  refine (take_bad h1 _).mono ?_
  rintro e w' ⟨rfl, rfl⟩
  go_wp2
  go_ret
  exact ⟨rfl, h1, grown_trans (World.grownBy_alloc w _ none) (World.grownBy_alloc _ _ none)⟩
theorem sleb_nil (w : World) :
    Calls Try.prog 17 #[.pointer none] w fun e w' => e = .returned (.int .i64 0) ∧ w.grownBy w' none := by
  go_enter Try.func17, Try.ntmps17
  go_wp2_with fail
  refine (take_nil_any _ _).mono ?_
  rintro e w' ⟨rfl, rfl⟩
  go_wp2
  go_ret
  exact ⟨rfl, grown_trans (World.grownBy_alloc w _ none) (World.grownBy_alloc _ _ none)⟩
end Go.Proofs.Ytfdbmdkjmifpaaa
