/- Two lists of the same exports are the same; and the chapter's own rows of layer 9, answered as it says: known() is true, and all that was in memory stays. No condition. -/
import Derived.Test.YtblfighfahffkaaTrG
import Derived.Deep.QuietTactic
import Derived.BigQuiet
namespace Go.Proofs.Ytblfighfahffkaa
open Go.RowKit
variable {w w' W V : World} {xs : List Int}

theorem RowEx.at {q : Option Addr} {D : Out} (h : RowEx w q D) {i : Nat} {y : List Int × Ex} (hy : D[i]? = some y) : ∃ g, q = some ⟨g, 0, none⟩ ∧ w.cell? ⟨g, i * 7, none⟩ = some (.string (strOfNums y.1)) ∧ w.cell? ⟨g, i * 7 + 1, none⟩ = some (.int .i64 y.2.kind) ∧ w.cell? ⟨g, i * 7 + 2, none⟩ = some (.bool y.2.weak) ∧
    w.cell? ⟨g, i * 7 + 3, none⟩ = some (.int .u64 y.2.value) ∧ w.cell? ⟨g, i * 7 + 4, none⟩ = some (.int .u64 y.2.resolver) ∧ w.cell? ⟨g, i * 7 + 5, none⟩ = some (.int .u64 y.2.ordinal) ∧ w.cell? ⟨g, i * 7 + 6, none⟩ = some (.string (strOfNums y.2.other)) := by
  obtain ⟨g, e, hc⟩ := h i y hy
  exact ⟨g, e, hc 0 (by decide), hc 1 (by decide), hc 2 (by decide), hc 3 (by decide), hc 4 (by decide), hc 5 (by decide), hc 6 (by decide)⟩
set_option maxRecDepth 20000 in
set_option maxHeartbeats 1600000 in
theorem same9_any (D : Out) (n : Nat) (hn : D.length = n) (q1 q2 : Option Addr) (c1 c2 : Nat) (hm : n ≤ 9223372036854775807) (h1 : RowEx w q1 D) (h2 : RowEx w q2 D) :
    Calls Try.prog 13 #[.slice q1 n c1, .slice q2 n c2] w fun e w' => e = .returned (.bool true) ∧ w.grownBy w' none := by
  have P := Lib.hid h1
  have Q := Lib.hid h2
  have HN := Lib.hid hn
  clear h1 h2 hn
  go_enter Try.func13, Try.ntmps13
  go_wp2
  go_loopw [5] (fun i wr => ∃ k : Nat, k ≤ n ∧ i = .int .i64 k ∧ w.grownBy wr none) (fun i _ => n - (intOf i).toNat)
  case atStart => exact ⟨0, Nat.zero_le _, rfl, grown_refl _ _⟩
  case round =>
    obtain ⟨k, hk, rfl, hg⟩ := hrel
    by_cases hlt : k < n
    · obtain ⟨y, hy⟩ : ∃ y, D[k]? = some y := ⟨_, List.getElem?_eq_getElem (by rw [HN.out]; exact hlt)⟩
      obtain ⟨g, rfl, a0, a1, a2, a3, a4, a5, a6⟩ := (P.out.grown hg).at hy
      obtain ⟨g', rfl, b0, b1, b2, b3, b4, b5, b6⟩ := (Q.out.grown hg).at hy
      have G := Lib.hid hg
      clear hy hg
      go_wp2
      go_quiet (fail)
      go_wp2
      go_roundw
      case rel => exact ⟨k + 1, hlt, by go_num, grown_drewN G.out _⟩
      case measure => simp [intOf]; omega
    · have G := Lib.hid hg
      clear hg
      go_wp2
      go_ret
      exact ⟨rfl, G.out⟩

def rowA : List Int := [0, 1, 97, 0, 5, 2, 0, 7, 0]
def rowB : List Int := [0, 1, 97, 0, 0]
theorem rowA_all : allN rowA = ([([97], ⟨1, false, 7, 0, 0, []⟩)], 0) := by decide +kernel
theorem rowB_all : (allN rowB).2 = 12 := by decide +kernel
theorem lit9 {v : List Int} {w W : World} (t : TypeId) (h : W = w.alloc (.cells (v.map (Value.int .u8)).toArray t)) (n : Nat) : IsBytes W (some ⟨w.heap.size, 0, none⟩) n v := by
  subst h
  refine IsBytes.mk_at fun i hi => ?_
  rw [cell_of (heap_alloc_new w _)]
  simp [hi]
set_option maxRecDepth 20000 in
set_option maxHeartbeats 800000 in
theorem known9_any (w : World) : Calls Try.prog 8 #[] w fun e w' => e = .returned (.bool true) ∧ w.grownBy w' none := by
  have LA := Lib.hid fun W : World => lit9 (v := rowA) (w := W) 5 rfl 9
  have LB := Lib.hid fun W : World => lit9 (v := rowB) (w := W) 5 rfl 5
  have BA : Byt rowA := by intro x hx; simp [rowA] at hx; omega
  have BB : Byt rowB := by intro x hx; simp [rowB] at hx; omega
  have AA := Lib.hid fun W => All_any (LA.out W) rfl BA (Nat.le_refl _) (by decide) (by decide)
  have AB := Lib.hid fun W => All_any (LB.out W) rfl BB (Nat.le_refl _) (by decide) (by decide)
  have GA := Lib.hid fun W : World => grown1 W (.cells (rowA.map (Value.int .u8)).toArray 5)
  have GB := Lib.hid fun W : World => grown1 W (.cells (rowB.map (Value.int .u8)).toArray 5)
  clear BA BB
  go_enter Try.func8, Try.ntmps8
  go_wp2_with fail
  refine (AA.out w).mono ?_
  rintro e w1 ⟨⟨D, q, c, rfl, hD, _, hP, hlc, hc63⟩, hg⟩
  have G1 := Lib.hid (grown_trans (GA.out w) hg)
  rw [rowA_all] at hP ⊢
  obtain rfl := List.perm_singleton.1 hP
  have R1 := Lib.hid hD
  clear hD hP hg hlc hc63
  go_wp2_with fail
  refine (AB.out w1).mono ?_
  rintro e w2 ⟨⟨D2, q2, c2, rfl, _, _, _, _, _⟩, hg⟩
  have G2 := Lib.hid (grown_trans (GB.out w1) hg)
  rw [rowB_all]
  clear hg
  have g3 := grown1 w2 (.cells #[.string ⟨#[97]⟩, .int .i64 1, .bool false, .int .u64 7, .int .u64 0, .int .u64 0, .string ⟨#[]⟩] 33)
  have R3 : RowEx (w2.alloc (.cells #[.string ⟨#[97]⟩, .int .i64 1, .bool false, .int .u64 7, .int .u64 0, .int .u64 0, .string ⟨#[]⟩] 33)) (some ⟨w2.heap.size, 0, none⟩) [([97], ⟨1, false, 7, 0, 0, []⟩)] := by
    intro i y hy
    match i, hy with
    | 0, hy =>
      injection hy with hy
      subst hy
      refine ⟨_, rfl, fun j hj => ?_⟩
      rw [Nat.zero_mul, Nat.zero_add, cell_of (heap_alloc_new w2 _)]
      match j, hj with
      | 0, _ => rfl
      | 1, _ => rfl
      | 2, _ => rfl
      | 3, _ => rfl
      | 4, _ => rfl
      | 5, _ => rfl
      | 6, _ => rfl
  have SM := Lib.hid (same9_any [([97], ⟨1, false, 7, 0, 0, []⟩)] 1 rfl q (some ⟨w2.heap.size, 0, none⟩) c 1 (by decide) ((R1.out.grown G2.out).grown g3) R3)
  have G3 := Lib.hid (grown_trans (grown_trans G1.out G2.out) g3)
  clear g3 R3
  go_wp2_with fail
  refine SM.out.mono ?_
  rintro e w3 ⟨rfl, hg⟩
  have G4 := Lib.hid (grown_trans G3.out hg)
  clear hg
  go_wp2
  go_ret
  exact ⟨rfl, G4.out⟩
end Go.Proofs.Ytblfighfahffkaa
