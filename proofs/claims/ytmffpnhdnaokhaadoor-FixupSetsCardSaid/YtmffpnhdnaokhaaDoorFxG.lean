/- Two lists of fixups: are they the same; the document's Equal, the library's. Conditions: they lie in memory. -/
import Derived.Test.YtmffpnhdnaokhaaDoorFxQ
import Derived.Test.YtmffpnhdnaokhaaDoorFxE
namespace Go.Proofs.YtmffpnhdnaokhaaDoor
open Go.RowKit
variable {w w' W V : World}

theorem FxsAt.at {q : Option Addr} {D : List Fx} (h : FxsAt w q D) {i : Nat} {y : Fx} (hy : D[i]? = some y) : ∃ g o, q = some ⟨g, o, none⟩ ∧ w.cell? ⟨g, o + i * 7, none⟩ = some (.int .u64 y.at_) ∧ w.cell? ⟨g, o + i * 7 + 1, none⟩ = some (.int .i64 y.kind) ∧ w.cell? ⟨g, o + i * 7 + 2, none⟩ = some (.int .u64 y.target) ∧ w.cell? ⟨g, o + i * 7 + 3, none⟩ = some (.int .i64 y.ord) ∧
    w.cell? ⟨g, o + i * 7 + 4, none⟩ = some (.string y.sym) ∧ w.cell? ⟨g, o + i * 7 + 5, none⟩ = some (.int .i64 y.add) ∧ w.cell? ⟨g, o + i * 7 + 6, none⟩ = some (.bool y.weak) := by
  obtain ⟨g, o, e, hc⟩ := h i y hy
  exact ⟨g, o, e, hc.c⟩
theorem FxsAt.drawn {q : Option Addr} {D : List Fx} (h : FxsAt w q D) (n : Nat) : FxsAt (w.drewN n) q D := h
/-- So many are alike. -/
structure EqL (w wr : World) (A B : List Fx) (n : Nat) (vi : Value) : Prop where
  ex : ∃ k : Nat, k ≤ n ∧ vi = .int .i64 (k : Int) ∧ ∀ j, j < k → A[j]? = B[j]?
  grown : w.grownBy wr none
theorem eq_all {A B : List Fx} {n : Nat} (ha : A.length = n) (hb : B.length = n) (h : ∀ j, j < n → A[j]? = B[j]?) : A = B := by
  apply List.ext_getElem?
  intro j
  by_cases c : j < n
  · exact h j c
  · rw [List.getElem?_eq_none (by omega), List.getElem?_eq_none (by omega)]
set_option maxRecDepth 20000 in
set_option maxHeartbeats 1600000 in
theorem refEqual_any {A B : List Fx} {n m ca cb : Nat} {qa qb : Option Addr} (ha : A.length = n) (hb : B.length = m) (hn : n ≤ 9223372036854775807) (hm : m ≤ 9223372036854775807) (h1 : FxsAt w qa A) (h2 : FxsAt w qb B) :
    Calls Tryd.prog 13 #[.slice qa n ca, .slice qb m cb] w fun e w' => e = .returned (.bool (decide (A = B))) ∧ w.grownBy w' none := by
  by_cases hnm : n = m
  rotate_left
  · have hAB : decide (A = B) = false := decide_eq_false fun e => hnm (by rw [← ha, ← hb, e])
    have d1 : decide ((n : Int) = (m : Int)) = false := by simp; omega
    have d2 : ((n : Int) == (m : Int)) = false := by simp; omega
    rw [hAB]
    clear h1 h2 ha hb hAB
    go_enter Tryd.func13, Tryd.ntmps13
    go_wp2
    go_ret
    exact ⟨rfl, grown_refl _ _⟩
  subst hnm
  have H1 := Lib.hid h1
  have H2 := Lib.hid h2
  have HA := Lib.hid ha
  have HB := Lib.hid hb
  clear h1 h2 ha hb
  go_enter Tryd.func13, Tryd.ntmps13
  go_wp2
  go_loopw [5] (fun vi wr => EqL w wr A B n vi) (fun vi _ => n - (intOf vi).toNat)
  case atStart => exact ⟨⟨0, Nat.zero_le _, rfl, fun j h => by omega⟩, grown_refl _ _⟩
  case round =>
    obtain ⟨⟨k, hk, rfl, hal⟩, hg⟩ := hrel
    have AL := Lib.hid hal
    have G := Lib.hid hg
    clear hal
    by_cases hlt : k < n
    · obtain ⟨x, hx⟩ : ∃ x, A[k]? = some x := ⟨_, List.getElem?_eq_getElem (by rw [HA.out]; exact hlt)⟩
      obtain ⟨y, hy⟩ : ∃ y, B[k]? = some y := ⟨_, List.getElem?_eq_getElem (by rw [HB.out]; exact hlt)⟩
      obtain ⟨ga, oa, rfl, a0, a1, a2, a3, a4, a5, a6⟩ := (H1.out.same hg).at hx
      obtain ⟨gb, ob, rfl, b0, b1, b2, b3, b4, b5, b6⟩ := (H2.out.same hg).at hy
      have XY := Lib.hid (And.intro hx hy)
      have dl : decide ((k : Int) < (n : Int)) = true := by simp; omega
      have hkI : (k : Int) < (n : Int) := by omega
      have NQ := fun V => neq_fx x y V
      unfold fxV fxArr at NQ
      clear hx hy hg
      by_cases he : x = y
      · rw [decide_eq_true he] at NQ
        have HE := Lib.hid he
        clear he
        go_wp2_with fail
        go_quiet (fail)
        go_wp2
        go_roundw
        case rel => exact ⟨⟨k + 1, hlt, by go_num, fun j hj => by
          rcases Nat.lt_or_ge j k with c | c
          · exact AL.out j c
          · obtain rfl : j = k := by omega
            rw [XY.out.1, XY.out.2, HE.out]⟩, grown_drewN G.out _⟩
        case measure => simp [intOf]; omega
      · rw [decide_eq_false he] at NQ
        have NE := Lib.hid (show decide (A = B) = false from decide_eq_false fun e => he (by
          have := XY.out.1
          rw [e, XY.out.2] at this
          injection this with this
          exact this.symm))
        clear he
        go_wp2_with fail
        go_quiet (fail)
        go_wp2
        go_ret
        exact ⟨by rw [NE.out]; rfl, grown_drewN G.out _⟩
    · obtain rfl : k = n := by omega
      have E := Lib.hid (eq_all HA.out HB.out AL.out)
      clear hg
      go_wp2
      go_ret
      exact ⟨by rw [decide_eq_true E.out]; rfl, G.out⟩
set_option maxRecDepth 20000 in
set_option maxHeartbeats 1600000 in
theorem slEqual_any {A B : List Fx} {n m ca cb : Nat} {qa qb : Option Addr} (ha : A.length = n) (hb : B.length = m) (hn : n ≤ 9223372036854775807) (hm : m ≤ 9223372036854775807) (h1 : FxsAt w qa A) (h2 : FxsAt w qb B) :
    Calls Tryd.prog 32 #[.slice qa n ca, .slice qb m cb] w fun e w' => e = .returned (.bool (decide (A = B))) ∧ w.grownBy w' none := by
  by_cases hnm : n = m
  rotate_left
  · have hAB : decide (A = B) = false := decide_eq_false fun e => hnm (by rw [← ha, ← hb, e])
    have d1 : decide ((n : Int) = (m : Int)) = false := by simp; omega
    have d2 : ((n : Int) == (m : Int)) = false := by simp; omega
    rw [hAB]
    clear h1 h2 ha hb hAB
    go_enter Tryd.func32, Tryd.ntmps32
    go_wp2
    go_ret
    exact ⟨rfl, grown_refl _ _⟩
  subst hnm
  have H1 := Lib.hid h1
  have H2 := Lib.hid h2
  have HA := Lib.hid ha
  have HB := Lib.hid hb
  clear h1 h2 ha hb
  go_enter Tryd.func32, Tryd.ntmps32
  go_wp2
  go_loopw [13] (fun vi wr => EqL w wr A B n vi) (fun vi _ => n - (intOf vi).toNat)
  case atStart => exact ⟨⟨0, Nat.zero_le _, rfl, fun j h => by omega⟩, grown_refl _ _⟩
  case round =>
    obtain ⟨⟨k, hk, rfl, hal⟩, hg⟩ := hrel
    have AL := Lib.hid hal
    have G := Lib.hid hg
    clear hal
    by_cases hlt : k < n
    · obtain ⟨x, hx⟩ : ∃ x, A[k]? = some x := ⟨_, List.getElem?_eq_getElem (by rw [HA.out]; exact hlt)⟩
      obtain ⟨y, hy⟩ : ∃ y, B[k]? = some y := ⟨_, List.getElem?_eq_getElem (by rw [HB.out]; exact hlt)⟩
      obtain ⟨ga, oa, rfl, a0, a1, a2, a3, a4, a5, a6⟩ := (H1.out.same hg).at hx
      obtain ⟨gb, ob, rfl, b0, b1, b2, b3, b4, b5, b6⟩ := (H2.out.same hg).at hy
      have XY := Lib.hid (And.intro hx hy)
      have dl : decide ((k : Int) < (n : Int)) = true := by simp; omega
      have hkI : (k : Int) < (n : Int) := by omega
      have NQ := fun V => neq_fx x y V
      unfold fxV fxArr at NQ
      clear hx hy hg
      by_cases he : x = y
      · rw [decide_eq_true he] at NQ
        have HE := Lib.hid he
        clear he
        go_wp2_with fail
        go_quiet (fail)
        go_wp2
        go_roundw
        case rel => exact ⟨⟨k + 1, hlt, by go_num, fun j hj => by
          rcases Nat.lt_or_ge j k with c | c
          · exact AL.out j c
          · obtain rfl : j = k := by omega
            rw [XY.out.1, XY.out.2, HE.out]⟩, grown_drewN G.out _⟩
        case measure => simp [intOf]; omega
      · rw [decide_eq_false he] at NQ
        have NE := Lib.hid (show decide (A = B) = false from decide_eq_false fun e => he (by
          have := XY.out.1
          rw [e, XY.out.2] at this
          injection this with this
          exact this.symm))
        clear he
        go_wp2_with fail
        go_quiet (fail)
        go_wp2
        go_ret
        exact ⟨by rw [NE.out]; rfl, grown_drewN G.out _⟩
    · obtain rfl : k = n := by omega
      have E := Lib.hid (eq_all HA.out HB.out AL.out)
      clear hg
      go_wp2
      go_ret
      exact ⟨by rw [decide_eq_true E.out]; rfl, G.out⟩
end Go.Proofs.YtmffpnhdnaokhaaDoor
