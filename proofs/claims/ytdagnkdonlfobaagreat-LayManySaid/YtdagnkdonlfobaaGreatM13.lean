import Derived.Test.YtdagnkdonlfobaaGreatM12
import Derived.Laws.Bits128
/- Lists that are gone over by a function: slices.IndexFunc, slices.ContainsFunc, image.all, over segments, sections and spans. The function by its contract. -/
namespace Go.Proofs.YtdagnkdonlfobaaGreat
open Go.RowKit
variable {w w' : World}

/-- The first of a list of which it is so. -/
def Idx {α : Type} (l : List α) (P : α → Bool) (z : Int) : Prop := (z = -1 ∧ l.any P = false) ∨ ∃ k x, z = (k : Nat) ∧ l[k]? = some x ∧ P x = true ∧ ∀ i y, i < k → l[i]? = some y → P y = false
theorem Idx.any {α : Type} {l : List α} {P : α → Bool} {z : Int} (h : Idx l P z) : decide (0 ≤ z) = l.any P := by
  rcases h with ⟨rfl, h⟩ | ⟨k, x, rfl, hx, hp, _⟩
  · rw [h]; rfl
  · rw [List.any_eq_true.2 ⟨x, List.mem_of_getElem? hx, hp⟩]; simp
theorem any_not {α : Type} (l : List α) (P : α → Bool) : (!l.any (fun x => !P x)) = l.all P := by
  induction l with
  | nil => rfl
  | cons x l ih => simp only [List.any_cons, List.all_cons, Bool.not_or, Bool.not_not, ih]
theorem none_any {α : Type} {l : List α} {P : α → Bool} (h : ∀ i x, i < l.length → l[i]? = some x → P x = false) : l.any P = false := by
  rw [List.any_eq_false]
  intro x hx
  obtain ⟨i, hi, rfl⟩ := List.getElem_of_mem hx
  rw [h i _ hi (List.getElem?_eq_getElem hi)]; simp
/-- Rows by their cells. -/
def RowSg (w : World) (q : Option Addr) (l : List Sg) : Prop := ∀ i x, l[i]? = some x → ∃ g, q = some ⟨g, 0, none⟩ ∧ w.cell? ⟨g, i * 7, none⟩ = some (.string (strOfNums x.seg.name)) ∧ w.cell? ⟨g, i * 7 + 1, none⟩ = some (.int .u64 x.seg.addr) ∧ w.cell? ⟨g, i * 7 + 2, none⟩ = some (.int .u64 x.seg.size) ∧
      w.cell? ⟨g, i * 7 + 3, none⟩ = some (.int .u64 x.seg.off) ∧ w.cell? ⟨g, i * 7 + 4, none⟩ = some (.int .u64 x.seg.fsize) ∧ w.cell? ⟨g, i * 7 + 5, none⟩ = some (.int .i64 x.seg.prot) ∧ w.cell? ⟨g, i * 7 + 6, none⟩ = some x.v
theorem RowSg.grown {q : Option Addr} {l : List Sg} (h : RowSg w q l) (hg : w.grownBy w' none) : RowSg w' q l := fun i x hx => by
  obtain ⟨g, e, c0, c1, c2, c3, c4, c5, c6⟩ := h i x hx
  exact ⟨g, e, grown_cell hg c0, grown_cell hg c1, grown_cell hg c2, grown_cell hg c3, grown_cell hg c4, grown_cell hg c5, grown_cell hg c6⟩
def RowSec (w : World) (q : Option Addr) (l : List Sec) : Prop := ∀ i x, l[i]? = some x → ∃ g, q = some ⟨g, 0, none⟩ ∧ w.cell? ⟨g, i * 6, none⟩ = some (.string (strOfNums x.name)) ∧ w.cell? ⟨g, i * 6 + 1, none⟩ = some (.string (strOfNums x.seg)) ∧ w.cell? ⟨g, i * 6 + 2, none⟩ = some (.int .u64 x.addr) ∧
      w.cell? ⟨g, i * 6 + 3, none⟩ = some (.int .u64 x.size) ∧ w.cell? ⟨g, i * 6 + 4, none⟩ = some (.int .u64 x.off) ∧ w.cell? ⟨g, i * 6 + 5, none⟩ = some (.int .i64 x.kind)
theorem RowSec.grown {q : Option Addr} {l : List Sec} (h : RowSec w q l) (hg : w.grownBy w' none) : RowSec w' q l := fun i x hx => by
  obtain ⟨g, e, c0, c1, c2, c3, c4, c5⟩ := h i x hx
  exact ⟨g, e, grown_cell hg c0, grown_cell hg c1, grown_cell hg c2, grown_cell hg c3, grown_cell hg c4, grown_cell hg c5⟩
def RowSp (w : World) (q : Option Addr) (l : List (Int × Int)) : Prop := ∀ i x, l[i]? = some x → ∃ g, q = some ⟨g, 0, none⟩ ∧ w.cell? ⟨g, i * 2, none⟩ = some (.int .u64 x.1) ∧ w.cell? ⟨g, i * 2 + 1, none⟩ = some (.int .u64 x.2)
theorem RowSp.grown {q : Option Addr} {l : List (Int × Int)} (h : RowSp w q l) (hg : w.grownBy w' none) : RowSp w' q l := fun i x hx => by
  obtain ⟨g, e, c0, c1⟩ := h i x hx
  exact ⟨g, e, grown_cell hg c0, grown_cell hg c1⟩
theorem rowSg_of {lo n c : Nat} {q : Option Addr} {l : List Sg} (h : w.ownsRow lo 58 7 (.slice q n c) n (l.flatMap sgCs)) : RowSg w q l := fun _ _ hx => sg_cells h hx
theorem rowSec_of {lo n c : Nat} {q : Option Addr} {l : List Sec} (h : w.ownsRow lo 148 6 (.slice q n c) n (l.flatMap secCs)) : RowSec w q l := fun _ _ hx => sec_cells h hx

theorem indexSeg_any (l : List Sg) (n : Nat) (hn : l.length = n) (hl : n ≤ 9223372036854775807) (P : Sg → Bool) {b : Nat} (q : Option Addr) (c : Nat) (hr : RowSg w q l) (hF : ∀ (W : World) (x : Sg), x ∈ l → w.grownBy W none → Calls Tryz.prog 192 #[segV x.seg x.v, .pointer (some ⟨b, 0, none⟩)] W fun e w' => e = .returned (.bool (P x)) ∧ W.grownBy w' none) :
    Calls Tryz.prog 141 #[.slice q n c, .func (.func 192) #[] #[.pointer (some ⟨b, 0, none⟩)]] w fun e w' => (∃ z : Int, e = .returned (.int .i64 z) ∧ Idx l P z) ∧ w.grownBy w' none := by
  subst hn
  have RR := Lib.hid hr
  have FF := Lib.hid hF
  clear hr hF
  go_enter Tryz.func141, Tryz.ntmps141
  go_wp2
  go_loopw [8] (fun i wr => ∃ k : Nat, k ≤ l.length ∧ i = .int .i64 k ∧ w.grownBy wr none ∧ ∀ i y, i < k → l[i]? = some y → P y = false) (fun i _ => l.length - (intOf i).toNat)
  case atStart => exact ⟨0, Nat.zero_le _, rfl, grown_refl _ _, fun i y h => by omega⟩
  case round =>
    obtain ⟨k, hk, rfl, hg, hno⟩ := hrel
    have G := Lib.hid hg
    have NO := Lib.hid hno
    by_cases hlt : k < l.length
    · obtain ⟨x, hx⟩ : ∃ x, l[k]? = some x := ⟨_, List.getElem?_eq_getElem hlt⟩
      obtain ⟨g, rfl, c0, c1, c2, c3, c4, c5, c6⟩ := (RR.out.grown hg) k x hx
      have M1 := Lib.hid (FF.out wr x (List.mem_of_getElem? hx) hg)
      have HX := Lib.hid hx
      have dl : decide ((k : Int) < (l.length : Int)) = true := by simp; omega
      obtain ⟨bx, hbx⟩ : ∃ bx, bx = P x := ⟨_, rfl⟩
      rw [← hbx] at M1
      have PX := Lib.hid hbx
      have hkl : (k : Int) < (l.length : Int) := by omega
      obtain ⟨⟨nm, ad, sz, of, fs, pr, sl⟩, q1, k1⟩ := x
      unfold segV segArr Sg.v at M1
      simp only [Sg.v] at c0 c1 c2 c3 c4 c5 c6 M1
      clear hg hno hx hbx
      generalize l.length = N at *
      go_wp2_with fail
      refine M1.out.mono ?_
      rintro e w3 ⟨rfl, hg⟩
      have G3 := Lib.hid (grown_trans G.out hg)
      clear hg
      cases bx
      · go_wp2
        go_roundw
        case rel =>
          refine ⟨k + 1, hlt, by go_num, G3.out, fun i y hi hy => ?_⟩
          rcases Nat.lt_or_ge i k with h | h
          · exact NO.out i y h hy
          · obtain rfl : i = k := by omega
            rw [HX.out] at hy
            injection hy with hy
            rw [← hy]; exact PX.out.symm
        case measure => simp [intOf]; omega
      · go_wp2
        go_ret
        exact ⟨⟨k, rfl, .inr ⟨k, _, rfl, HX.out, PX.out.symm, NO.out⟩⟩, G3.out⟩
    · have hk' : k = l.length := by omega
      have NA := Lib.hid (none_any (P := P) (l := l) (fun i x hi hx => hno i x (by omega) hx))
      have dl : decide ((k : Int) < (l.length : Int)) = false := by simp; omega
      clear hno hg
      generalize l.length = N at *
      go_wp2
      go_ret
      exact ⟨⟨-1, rfl, .inl ⟨rfl, NA.out⟩⟩, G.out⟩

theorem containsSeg_any (l : List Sg) (n : Nat) (hn : l.length = n) (hl : n ≤ 9223372036854775807) (P : Sg → Bool) {b : Nat} (q : Option Addr) (c : Nat) (hr : RowSg w q l) (hF : ∀ (W : World) (x : Sg), x ∈ l → w.grownBy W none → Calls Tryz.prog 192 #[segV x.seg x.v, .pointer (some ⟨b, 0, none⟩)] W fun e w' => e = .returned (.bool (P x)) ∧ W.grownBy w' none) :
    Calls Tryz.prog 191 #[.slice q n c, .func (.func 192) #[] #[.pointer (some ⟨b, 0, none⟩)]] w fun e w' => e = .returned (.bool (l.any P)) ∧ w.grownBy w' none := by
  have I := Lib.hid (indexSeg_any l n hn hl P q c hr hF)
  clear hr hF
  go_enter Tryz.func191, Tryz.ntmps191
  go_wp2_with fail
  refine I.out.mono ?_
  rintro e w' ⟨⟨z, rfl, hz⟩, hg⟩
  have G := Lib.hid hg
  have Z := Lib.hid hz
  clear hg hz
  go_wp2
  go_ret
  exact ⟨ret_bool Z.out.any, G.out⟩

theorem indexLaid_any (l : List Sg) (n : Nat) (hn : l.length = n) (hl : n ≤ 9223372036854775807) (P : Sg → Bool) (q : Option Addr) (c : Nat) (hr : RowSg w q l) (hF : ∀ (W : World) (x : Sg), x ∈ l → w.grownBy W none → Calls Tryz.prog 102 #[segV x.seg x.v] W fun e w' => e = .returned (.bool (P x)) ∧ W.grownBy w' none) :
    Calls Tryz.prog 141 #[.slice q n c, .func (.func 102) #[] #[]] w fun e w' => (∃ z : Int, e = .returned (.int .i64 z) ∧ Idx l P z) ∧ w.grownBy w' none := by
  subst hn
  have RR := Lib.hid hr
  have FF := Lib.hid hF
  clear hr hF
  go_enter Tryz.func141, Tryz.ntmps141
  go_wp2
  go_loopw [8] (fun i wr => ∃ k : Nat, k ≤ l.length ∧ i = .int .i64 k ∧ w.grownBy wr none ∧ ∀ i y, i < k → l[i]? = some y → P y = false) (fun i _ => l.length - (intOf i).toNat)
  case atStart => exact ⟨0, Nat.zero_le _, rfl, grown_refl _ _, fun i y h => by omega⟩
  case round =>
    obtain ⟨k, hk, rfl, hg, hno⟩ := hrel
    have G := Lib.hid hg
    have NO := Lib.hid hno
    by_cases hlt : k < l.length
    · obtain ⟨x, hx⟩ : ∃ x, l[k]? = some x := ⟨_, List.getElem?_eq_getElem hlt⟩
      obtain ⟨g, rfl, c0, c1, c2, c3, c4, c5, c6⟩ := (RR.out.grown hg) k x hx
      have M1 := Lib.hid (FF.out wr x (List.mem_of_getElem? hx) hg)
      have HX := Lib.hid hx
      have dl : decide ((k : Int) < (l.length : Int)) = true := by simp; omega
      obtain ⟨bx, hbx⟩ : ∃ bx, bx = P x := ⟨_, rfl⟩
      rw [← hbx] at M1
      have PX := Lib.hid hbx
      have hkl : (k : Int) < (l.length : Int) := by omega
      obtain ⟨⟨nm, ad, sz, of, fs, pr, sl⟩, q1, k1⟩ := x
      unfold segV segArr Sg.v at M1
      simp only [Sg.v] at c0 c1 c2 c3 c4 c5 c6 M1
      clear hg hno hx hbx
      generalize l.length = N at *
      go_wp2_with fail
      refine M1.out.mono ?_
      rintro e w3 ⟨rfl, hg⟩
      have G3 := Lib.hid (grown_trans G.out hg)
      clear hg
      cases bx
      · go_wp2
        go_roundw
        case rel =>
          refine ⟨k + 1, hlt, by go_num, G3.out, fun i y hi hy => ?_⟩
          rcases Nat.lt_or_ge i k with h | h
          · exact NO.out i y h hy
          · obtain rfl : i = k := by omega
            rw [HX.out] at hy
            injection hy with hy
            rw [← hy]; exact PX.out.symm
        case measure => simp [intOf]; omega
      · go_wp2
        go_ret
        exact ⟨⟨k, rfl, .inr ⟨k, _, rfl, HX.out, PX.out.symm, NO.out⟩⟩, G3.out⟩
    · have hk' : k = l.length := by omega
      have NA := Lib.hid (none_any (P := P) (l := l) (fun i x hi hx => hno i x (by omega) hx))
      have dl : decide ((k : Int) < (l.length : Int)) = false := by simp; omega
      clear hno hg
      generalize l.length = N at *
      go_wp2
      go_ret
      exact ⟨⟨-1, rfl, .inl ⟨rfl, NA.out⟩⟩, G.out⟩

theorem indexSec_any (l : List Sec) (n : Nat) (hn : l.length = n) (hl : n ≤ 9223372036854775807) (P : Sec → Bool) {b : Nat} (q : Option Addr) (c : Nat) (hr : RowSec w q l) (hF : ∀ (W : World) (x : Sec), x ∈ l → w.grownBy W none → Calls Tryz.prog 194 #[secV x, .pointer (some ⟨b, 0, none⟩)] W fun e w' => e = .returned (.bool (P x)) ∧ W.grownBy w' none) :
    Calls Tryz.prog 209 #[.slice q n c, .func (.func 194) #[] #[.pointer (some ⟨b, 0, none⟩)]] w fun e w' => (∃ z : Int, e = .returned (.int .i64 z) ∧ Idx l P z) ∧ w.grownBy w' none := by
  subst hn
  have RR := Lib.hid hr
  have FF := Lib.hid hF
  clear hr hF
  go_enter Tryz.func209, Tryz.ntmps209
  go_wp2
  go_loopw [8] (fun i wr => ∃ k : Nat, k ≤ l.length ∧ i = .int .i64 k ∧ w.grownBy wr none ∧ ∀ i y, i < k → l[i]? = some y → P y = false) (fun i _ => l.length - (intOf i).toNat)
  case atStart => exact ⟨0, Nat.zero_le _, rfl, grown_refl _ _, fun i y h => by omega⟩
  case round =>
    obtain ⟨k, hk, rfl, hg, hno⟩ := hrel
    have G := Lib.hid hg
    have NO := Lib.hid hno
    by_cases hlt : k < l.length
    · obtain ⟨x, hx⟩ : ∃ x, l[k]? = some x := ⟨_, List.getElem?_eq_getElem hlt⟩
      obtain ⟨g, rfl, c0, c1, c2, c3, c4, c5⟩ := (RR.out.grown hg) k x hx
      have M1 := Lib.hid (FF.out wr x (List.mem_of_getElem? hx) hg)
      have HX := Lib.hid hx
      have dl : decide ((k : Int) < (l.length : Int)) = true := by simp; omega
      obtain ⟨bx, hbx⟩ : ∃ bx, bx = P x := ⟨_, rfl⟩
      rw [← hbx] at M1
      have PX := Lib.hid hbx
      have hkl : (k : Int) < (l.length : Int) := by omega
      obtain ⟨sn, ss, sa, sb, so, sk⟩ := x
      unfold secV at M1
      simp only [] at c0 c1 c2 c3 c4 c5 M1
      clear hg hno hx hbx
      generalize l.length = N at *
      go_wp2_with fail
      refine M1.out.mono ?_
      rintro e w3 ⟨rfl, hg⟩
      have G3 := Lib.hid (grown_trans G.out hg)
      clear hg
      cases bx
      · go_wp2
        go_roundw
        case rel =>
          refine ⟨k + 1, hlt, by go_num, G3.out, fun i y hi hy => ?_⟩
          rcases Nat.lt_or_ge i k with h | h
          · exact NO.out i y h hy
          · obtain rfl : i = k := by omega
            rw [HX.out] at hy
            injection hy with hy
            rw [← hy]; exact PX.out.symm
        case measure => simp [intOf]; omega
      · go_wp2
        go_ret
        exact ⟨⟨k, rfl, .inr ⟨k, _, rfl, HX.out, PX.out.symm, NO.out⟩⟩, G3.out⟩
    · have hk' : k = l.length := by omega
      have NA := Lib.hid (none_any (P := P) (l := l) (fun i x hi hx => hno i x (by omega) hx))
      have dl : decide ((k : Int) < (l.length : Int)) = false := by simp; omega
      clear hno hg
      generalize l.length = N at *
      go_wp2
      go_ret
      exact ⟨⟨-1, rfl, .inl ⟨rfl, NA.out⟩⟩, G.out⟩

theorem containsSec_any (l : List Sec) (n : Nat) (hn : l.length = n) (hl : n ≤ 9223372036854775807) (P : Sec → Bool) {b : Nat} (q : Option Addr) (c : Nat) (hr : RowSec w q l) (hF : ∀ (W : World) (x : Sec), x ∈ l → w.grownBy W none → Calls Tryz.prog 194 #[secV x, .pointer (some ⟨b, 0, none⟩)] W fun e w' => e = .returned (.bool (P x)) ∧ W.grownBy w' none) :
    Calls Tryz.prog 193 #[.slice q n c, .func (.func 194) #[] #[.pointer (some ⟨b, 0, none⟩)]] w fun e w' => e = .returned (.bool (l.any P)) ∧ w.grownBy w' none := by
  have I := Lib.hid (indexSec_any l n hn hl P q c hr hF)
  clear hr hF
  go_enter Tryz.func193, Tryz.ntmps193
  go_wp2_with fail
  refine I.out.mono ?_
  rintro e w' ⟨⟨z, rfl, hz⟩, hg⟩
  have G := Lib.hid hg
  have Z := Lib.hid hz
  clear hg hz
  go_wp2
  go_ret
  exact ⟨ret_bool Z.out.any, G.out⟩

theorem indexSp_any (l : List (Int × Int)) (n : Nat) (hn : l.length = n) (hl : n ≤ 9223372036854775807) (P : (Int × Int) → Bool) {b : Nat} (q : Option Addr) (c : Nat) (hr : RowSp w q l) (hF : ∀ (W : World) (x : (Int × Int)), x ∈ l → w.grownBy W none → Calls Tryz.prog 196 #[spanV x, .pointer (some ⟨b, 0, none⟩)] W fun e w' => e = .returned (.bool (P x)) ∧ W.grownBy w' none) :
    Calls Tryz.prog 210 #[.slice q n c, .func (.func 196) #[] #[.pointer (some ⟨b, 0, none⟩)]] w fun e w' => (∃ z : Int, e = .returned (.int .i64 z) ∧ Idx l P z) ∧ w.grownBy w' none := by
  subst hn
  have RR := Lib.hid hr
  have FF := Lib.hid hF
  clear hr hF
  go_enter Tryz.func210, Tryz.ntmps210
  go_wp2
  go_loopw [8] (fun i wr => ∃ k : Nat, k ≤ l.length ∧ i = .int .i64 k ∧ w.grownBy wr none ∧ ∀ i y, i < k → l[i]? = some y → P y = false) (fun i _ => l.length - (intOf i).toNat)
  case atStart => exact ⟨0, Nat.zero_le _, rfl, grown_refl _ _, fun i y h => by omega⟩
  case round =>
    obtain ⟨k, hk, rfl, hg, hno⟩ := hrel
    have G := Lib.hid hg
    have NO := Lib.hid hno
    by_cases hlt : k < l.length
    · obtain ⟨x, hx⟩ : ∃ x, l[k]? = some x := ⟨_, List.getElem?_eq_getElem hlt⟩
      obtain ⟨g, rfl, c0, c1⟩ := (RR.out.grown hg) k x hx
      have M1 := Lib.hid (FF.out wr x (List.mem_of_getElem? hx) hg)
      have HX := Lib.hid hx
      have dl : decide ((k : Int) < (l.length : Int)) = true := by simp; omega
      obtain ⟨bx, hbx⟩ : ∃ bx, bx = P x := ⟨_, rfl⟩
      rw [← hbx] at M1
      have PX := Lib.hid hbx
      have hkl : (k : Int) < (l.length : Int) := by omega
      obtain ⟨X, Y⟩ := x
      unfold spanV at M1
      simp only [] at c0 c1 M1
      clear hg hno hx hbx
      generalize l.length = N at *
      go_wp2_with fail
      refine M1.out.mono ?_
      rintro e w3 ⟨rfl, hg⟩
      have G3 := Lib.hid (grown_trans G.out hg)
      clear hg
      cases bx
      · go_wp2
        go_roundw
        case rel =>
          refine ⟨k + 1, hlt, by go_num, G3.out, fun i y hi hy => ?_⟩
          rcases Nat.lt_or_ge i k with h | h
          · exact NO.out i y h hy
          · obtain rfl : i = k := by omega
            rw [HX.out] at hy
            injection hy with hy
            rw [← hy]; exact PX.out.symm
        case measure => simp [intOf]; omega
      · go_wp2
        go_ret
        exact ⟨⟨k, rfl, .inr ⟨k, _, rfl, HX.out, PX.out.symm, NO.out⟩⟩, G3.out⟩
    · have hk' : k = l.length := by omega
      have NA := Lib.hid (none_any (P := P) (l := l) (fun i x hi hx => hno i x (by omega) hx))
      have dl : decide ((k : Int) < (l.length : Int)) = false := by simp; omega
      clear hno hg
      generalize l.length = N at *
      go_wp2
      go_ret
      exact ⟨⟨-1, rfl, .inl ⟨rfl, NA.out⟩⟩, G.out⟩

theorem containsSp_any (l : List (Int × Int)) (n : Nat) (hn : l.length = n) (hl : n ≤ 9223372036854775807) (P : (Int × Int) → Bool) {b : Nat} (q : Option Addr) (c : Nat) (hr : RowSp w q l) (hF : ∀ (W : World) (x : (Int × Int)), x ∈ l → w.grownBy W none → Calls Tryz.prog 196 #[spanV x, .pointer (some ⟨b, 0, none⟩)] W fun e w' => e = .returned (.bool (P x)) ∧ W.grownBy w' none) :
    Calls Tryz.prog 195 #[.slice q n c, .func (.func 196) #[] #[.pointer (some ⟨b, 0, none⟩)]] w fun e w' => e = .returned (.bool (l.any P)) ∧ w.grownBy w' none := by
  have I := Lib.hid (indexSp_any l n hn hl P q c hr hF)
  clear hr hF
  go_enter Tryz.func195, Tryz.ntmps195
  go_wp2_with fail
  refine I.out.mono ?_
  rintro e w' ⟨⟨z, rfl, hz⟩, hg⟩
  have G := Lib.hid hg
  have Z := Lib.hid hz
  clear hg hz
  go_wp2
  go_ret
  exact ⟨ret_bool Z.out.any, G.out⟩

theorem all1Prot_any (x : Sg) (r : Bool) {g : Nat} (hc : w.cell? ⟨g, 0, none⟩ = some (.func (.func 166) #[] #[])) (hl : g < w.heap.size)
    (hF : ∀ W, w.grownBy W none → Calls Tryz.prog 166 #[segV x.seg x.v] W fun e w' => e = .returned (.bool r) ∧ W.grownBy w' none) :
    Calls Tryz.prog 192 #[segV x.seg x.v, .pointer (some ⟨g, 0, none⟩)] w fun e w' => e = .returned (.bool (!r)) ∧ w.grownBy w' none := by
  obtain ⟨⟨nm, ad, sz, of, fs, pr, sl⟩, q1, k1⟩ := x
  have gB := grown1 w (.cells #[.string (strOfNums nm), .int .u64 ad, .int .u64 sz, .int .u64 of, .int .u64 fs, .int .i64 pr, .slice q1 sl.length k1] 58)
  have G := Lib.hid gB
  have c0 := grown_cell gB hc
  have gl : g < (w.alloc (.cells #[.string (strOfNums nm), .int .u64 ad, .int .u64 sz, .int .u64 of, .int .u64 fs, .int .i64 pr, .slice q1 sl.length k1] 58)).heap.size := Nat.lt_of_lt_of_le hl gB.size
  have M1 := Lib.hid (hF _ gB)
  unfold segV segArr Sg.v at M1
  unfold segV segArr Sg.v
  simp only [] at M1 ⊢
  clear gB hc hl hF
  go_enter Tryz.func192, Tryz.ntmps192
  go_wp2_with fail
  refine M1.out.mono ?_
  rintro e w3 ⟨rfl, hg⟩
  have GF := Lib.hid (grown_trans G.out hg)
  clear hg
  go_wp2
  go_ret
  exact ⟨rfl, GF.out⟩
theorem allProt_any (l : List Sg) (n : Nat) (hn : l.length = n) (hl : n ≤ 9223372036854775807) (P : Sg → Bool) (q : Option Addr) (c : Nat) (hr : RowSg w q l) (hF : ∀ (W : World) (x : Sg), x ∈ l → w.grownBy W none → Calls Tryz.prog 166 #[segV x.seg x.v] W fun e w' => e = .returned (.bool (P x)) ∧ W.grownBy w' none) :
    Calls Tryz.prog 165 #[.slice q n c, .func (.func 166) #[] #[]] w fun e w' => e = .returned (.bool (l.all P)) ∧ w.grownBy w' none := by
  have gB := grown1 w (.cells #[.func (.func 166) #[] #[]] 55)
  have G := Lib.hid gB
  have CF := Lib.hid (containsSeg_any (w := w.alloc (.cells #[.func (.func 166) #[] #[]] 55)) (b := w.heap.size) l n hn hl (fun x => !P x) q c (hr.grown gB) (fun W x hx hg => all1Prot_any (g := w.heap.size) x (P x) (grown_cell hg (by rw [cell_of (heap_alloc_new w _)]; rfl)) (Nat.lt_of_lt_of_le (by rw [World.size_alloc]; exact Nat.lt_succ_self _) hg.size) (fun W2 h2 => hF W2 x hx (grown_trans gB (grown_trans hg h2)))))
  have AN := Lib.hid (any_not l P)
  obtain ⟨r, hr2⟩ : ∃ r, r = l.any (fun x => !P x) := ⟨_, rfl⟩
  rw [← hr2] at CF AN
  clear hr hF gB hr2
  go_enter Tryz.func165, Tryz.ntmps165
  go_wp2_with fail
  refine CF.out.mono ?_
  rintro e w3 ⟨rfl, hg⟩
  have GF := Lib.hid (grown_trans G.out hg)
  clear hg
  go_wp2
  go_ret
  exact ⟨by rw [← AN.out]; rfl, GF.out⟩

theorem all1Size_any (x : Sg) (r : Bool) {b : Nat} {g : Nat} (hc : w.cell? ⟨g, 0, none⟩ = some (.func (.func 167) #[] #[.pointer (some ⟨b, 0, none⟩)])) (hl : g < w.heap.size)
    (hF : ∀ W, w.grownBy W none → Calls Tryz.prog 167 #[segV x.seg x.v, .pointer (some ⟨b, 0, none⟩)] W fun e w' => e = .returned (.bool r) ∧ W.grownBy w' none) :
    Calls Tryz.prog 192 #[segV x.seg x.v, .pointer (some ⟨g, 0, none⟩)] w fun e w' => e = .returned (.bool (!r)) ∧ w.grownBy w' none := by
  obtain ⟨⟨nm, ad, sz, of, fs, pr, sl⟩, q1, k1⟩ := x
  have gB := grown1 w (.cells #[.string (strOfNums nm), .int .u64 ad, .int .u64 sz, .int .u64 of, .int .u64 fs, .int .i64 pr, .slice q1 sl.length k1] 58)
  have G := Lib.hid gB
  have c0 := grown_cell gB hc
  have gl : g < (w.alloc (.cells #[.string (strOfNums nm), .int .u64 ad, .int .u64 sz, .int .u64 of, .int .u64 fs, .int .i64 pr, .slice q1 sl.length k1] 58)).heap.size := Nat.lt_of_lt_of_le hl gB.size
  have M1 := Lib.hid (hF _ gB)
  unfold segV segArr Sg.v at M1
  unfold segV segArr Sg.v
  simp only [] at M1 ⊢
  clear gB hc hl hF
  go_enter Tryz.func192, Tryz.ntmps192
  go_wp2_with fail
  refine M1.out.mono ?_
  rintro e w3 ⟨rfl, hg⟩
  have GF := Lib.hid (grown_trans G.out hg)
  clear hg
  go_wp2
  go_ret
  exact ⟨rfl, GF.out⟩
theorem allSize_any (l : List Sg) (n : Nat) (hn : l.length = n) (hl : n ≤ 9223372036854775807) (P : Sg → Bool) {b : Nat} (q : Option Addr) (c : Nat) (hr : RowSg w q l) (hF : ∀ (W : World) (x : Sg), x ∈ l → w.grownBy W none → Calls Tryz.prog 167 #[segV x.seg x.v, .pointer (some ⟨b, 0, none⟩)] W fun e w' => e = .returned (.bool (P x)) ∧ W.grownBy w' none) :
    Calls Tryz.prog 165 #[.slice q n c, .func (.func 167) #[] #[.pointer (some ⟨b, 0, none⟩)]] w fun e w' => e = .returned (.bool (l.all P)) ∧ w.grownBy w' none := by
  have gB := grown1 w (.cells #[.func (.func 167) #[] #[.pointer (some ⟨b, 0, none⟩)]] 55)
  have G := Lib.hid gB
  have CF := Lib.hid (containsSeg_any (w := w.alloc (.cells #[.func (.func 167) #[] #[.pointer (some ⟨b, 0, none⟩)]] 55)) (b := w.heap.size) l n hn hl (fun x => !P x) q c (hr.grown gB) (fun W x hx hg => all1Size_any (g := w.heap.size) x (P x) (grown_cell hg (by rw [cell_of (heap_alloc_new w _)]; rfl)) (Nat.lt_of_lt_of_le (by rw [World.size_alloc]; exact Nat.lt_succ_self _) hg.size) (fun W2 h2 => hF W2 x hx (grown_trans gB (grown_trans hg h2)))))
  have AN := Lib.hid (any_not l P)
  obtain ⟨r, hr2⟩ : ∃ r, r = l.any (fun x => !P x) := ⟨_, rfl⟩
  rw [← hr2] at CF AN
  clear hr hF gB hr2
  go_enter Tryz.func165, Tryz.ntmps165
  go_wp2_with fail
  refine CF.out.mono ?_
  rintro e w3 ⟨rfl, hg⟩
  have GF := Lib.hid (grown_trans G.out hg)
  clear hg
  go_wp2
  go_ret
  exact ⟨by rw [← AN.out]; rfl, GF.out⟩

theorem all1Secs_any (x : Sg) (r : Bool) {g : Nat} (hc : w.cell? ⟨g, 0, none⟩ = some (.func (.func 169) #[] #[])) (hl : g < w.heap.size)
    (hF : ∀ W, w.grownBy W none → Calls Tryz.prog 169 #[segV x.seg x.v] W fun e w' => e = .returned (.bool r) ∧ W.grownBy w' none) :
    Calls Tryz.prog 192 #[segV x.seg x.v, .pointer (some ⟨g, 0, none⟩)] w fun e w' => e = .returned (.bool (!r)) ∧ w.grownBy w' none := by
  obtain ⟨⟨nm, ad, sz, of, fs, pr, sl⟩, q1, k1⟩ := x
  have gB := grown1 w (.cells #[.string (strOfNums nm), .int .u64 ad, .int .u64 sz, .int .u64 of, .int .u64 fs, .int .i64 pr, .slice q1 sl.length k1] 58)
  have G := Lib.hid gB
  have c0 := grown_cell gB hc
  have gl : g < (w.alloc (.cells #[.string (strOfNums nm), .int .u64 ad, .int .u64 sz, .int .u64 of, .int .u64 fs, .int .i64 pr, .slice q1 sl.length k1] 58)).heap.size := Nat.lt_of_lt_of_le hl gB.size
  have M1 := Lib.hid (hF _ gB)
  unfold segV segArr Sg.v at M1
  unfold segV segArr Sg.v
  simp only [] at M1 ⊢
  clear gB hc hl hF
  go_enter Tryz.func192, Tryz.ntmps192
  go_wp2_with fail
  refine M1.out.mono ?_
  rintro e w3 ⟨rfl, hg⟩
  have GF := Lib.hid (grown_trans G.out hg)
  clear hg
  go_wp2
  go_ret
  exact ⟨rfl, GF.out⟩
theorem allSecs_any (l : List Sg) (n : Nat) (hn : l.length = n) (hl : n ≤ 9223372036854775807) (P : Sg → Bool) (q : Option Addr) (c : Nat) (hr : RowSg w q l) (hF : ∀ (W : World) (x : Sg), x ∈ l → w.grownBy W none → Calls Tryz.prog 169 #[segV x.seg x.v] W fun e w' => e = .returned (.bool (P x)) ∧ W.grownBy w' none) :
    Calls Tryz.prog 165 #[.slice q n c, .func (.func 169) #[] #[]] w fun e w' => e = .returned (.bool (l.all P)) ∧ w.grownBy w' none := by
  have gB := grown1 w (.cells #[.func (.func 169) #[] #[]] 55)
  have G := Lib.hid gB
  have CF := Lib.hid (containsSeg_any (w := w.alloc (.cells #[.func (.func 169) #[] #[]] 55)) (b := w.heap.size) l n hn hl (fun x => !P x) q c (hr.grown gB) (fun W x hx hg => all1Secs_any (g := w.heap.size) x (P x) (grown_cell hg (by rw [cell_of (heap_alloc_new w _)]; rfl)) (Nat.lt_of_lt_of_le (by rw [World.size_alloc]; exact Nat.lt_succ_self _) hg.size) (fun W2 h2 => hF W2 x hx (grown_trans gB (grown_trans hg h2)))))
  have AN := Lib.hid (any_not l P)
  obtain ⟨r, hr2⟩ : ∃ r, r = l.any (fun x => !P x) := ⟨_, rfl⟩
  rw [← hr2] at CF AN
  clear hr hF gB hr2
  go_enter Tryz.func165, Tryz.ntmps165
  go_wp2_with fail
  refine CF.out.mono ?_
  rintro e w3 ⟨rfl, hg⟩
  have GF := Lib.hid (grown_trans G.out hg)
  clear hg
  go_wp2
  go_ret
  exact ⟨by rw [← AN.out]; rfl, GF.out⟩

theorem all1Sec_any (x : Sec) (r : Bool) {b : Nat} {g : Nat} (hc : w.cell? ⟨g, 0, none⟩ = some (.func (.func 171) #[] #[.pointer (some ⟨b, 0, none⟩)])) (hl : g < w.heap.size)
    (hF : ∀ W, w.grownBy W none → Calls Tryz.prog 171 #[secV x, .pointer (some ⟨b, 0, none⟩)] W fun e w' => e = .returned (.bool r) ∧ W.grownBy w' none) :
    Calls Tryz.prog 194 #[secV x, .pointer (some ⟨g, 0, none⟩)] w fun e w' => e = .returned (.bool (!r)) ∧ w.grownBy w' none := by
  obtain ⟨sn, ss, sa, sb, so, sk⟩ := x
  have gB := grown1 w (.cells #[.string (strOfNums sn), .string (strOfNums ss), .int .u64 sa, .int .u64 sb, .int .u64 so, .int .i64 sk] 148)
  have G := Lib.hid gB
  have c0 := grown_cell gB hc
  have gl : g < (w.alloc (.cells #[.string (strOfNums sn), .string (strOfNums ss), .int .u64 sa, .int .u64 sb, .int .u64 so, .int .i64 sk] 148)).heap.size := Nat.lt_of_lt_of_le hl gB.size
  have M1 := Lib.hid (hF _ gB)
  unfold secV at M1
  unfold secV
  simp only [] at M1 ⊢
  clear gB hc hl hF
  go_enter Tryz.func194, Tryz.ntmps194
  go_wp2_with fail
  refine M1.out.mono ?_
  rintro e w3 ⟨rfl, hg⟩
  have GF := Lib.hid (grown_trans G.out hg)
  clear hg
  go_wp2
  go_ret
  exact ⟨rfl, GF.out⟩
theorem allSec_any (l : List Sec) (n : Nat) (hn : l.length = n) (hl : n ≤ 9223372036854775807) (P : Sec → Bool) {b : Nat} (q : Option Addr) (c : Nat) (hr : RowSec w q l) (hF : ∀ (W : World) (x : Sec), x ∈ l → w.grownBy W none → Calls Tryz.prog 171 #[secV x, .pointer (some ⟨b, 0, none⟩)] W fun e w' => e = .returned (.bool (P x)) ∧ W.grownBy w' none) :
    Calls Tryz.prog 170 #[.slice q n c, .func (.func 171) #[] #[.pointer (some ⟨b, 0, none⟩)]] w fun e w' => e = .returned (.bool (l.all P)) ∧ w.grownBy w' none := by
  have gB := grown1 w (.cells #[.func (.func 171) #[] #[.pointer (some ⟨b, 0, none⟩)]] 248)
  have G := Lib.hid gB
  have CF := Lib.hid (containsSec_any (w := w.alloc (.cells #[.func (.func 171) #[] #[.pointer (some ⟨b, 0, none⟩)]] 248)) (b := w.heap.size) l n hn hl (fun x => !P x) q c (hr.grown gB) (fun W x hx hg => all1Sec_any (g := w.heap.size) x (P x) (grown_cell hg (by rw [cell_of (heap_alloc_new w _)]; rfl)) (Nat.lt_of_lt_of_le (by rw [World.size_alloc]; exact Nat.lt_succ_self _) hg.size) (fun W2 h2 => hF W2 x hx (grown_trans gB (grown_trans hg h2)))))
  have AN := Lib.hid (any_not l P)
  obtain ⟨r, hr2⟩ : ∃ r, r = l.any (fun x => !P x) := ⟨_, rfl⟩
  rw [← hr2] at CF AN
  clear hr hF gB hr2
  go_enter Tryz.func170, Tryz.ntmps170
  go_wp2_with fail
  refine CF.out.mono ?_
  rintro e w3 ⟨rfl, hg⟩
  have GF := Lib.hid (grown_trans G.out hg)
  clear hg
  go_wp2
  go_ret
  exact ⟨by rw [← AN.out]; rfl, GF.out⟩

theorem all1Span_any (x : (Int × Int)) (r : Bool) {b : Nat} {g : Nat} (hc : w.cell? ⟨g, 0, none⟩ = some (.func (.func 174) #[] #[.pointer (some ⟨b, 0, none⟩)])) (hl : g < w.heap.size)
    (hF : ∀ W, w.grownBy W none → Calls Tryz.prog 174 #[spanV x, .pointer (some ⟨b, 0, none⟩)] W fun e w' => e = .returned (.bool r) ∧ W.grownBy w' none) :
    Calls Tryz.prog 196 #[spanV x, .pointer (some ⟨g, 0, none⟩)] w fun e w' => e = .returned (.bool (!r)) ∧ w.grownBy w' none := by
  obtain ⟨X, Y⟩ := x
  have gB := grown1 w (.cells #[.int .u64 X, .int .u64 Y] 39)
  have G := Lib.hid gB
  have c0 := grown_cell gB hc
  have gl : g < (w.alloc (.cells #[.int .u64 X, .int .u64 Y] 39)).heap.size := Nat.lt_of_lt_of_le hl gB.size
  have M1 := Lib.hid (hF _ gB)
  unfold spanV at M1
  unfold spanV
  simp only [] at M1 ⊢
  clear gB hc hl hF
  go_enter Tryz.func196, Tryz.ntmps196
  go_wp2_with fail
  refine M1.out.mono ?_
  rintro e w3 ⟨rfl, hg⟩
  have GF := Lib.hid (grown_trans G.out hg)
  clear hg
  go_wp2
  go_ret
  exact ⟨rfl, GF.out⟩
theorem allSpan_any (l : List (Int × Int)) (n : Nat) (hn : l.length = n) (hl : n ≤ 9223372036854775807) (P : (Int × Int) → Bool) {b : Nat} (q : Option Addr) (c : Nat) (hr : RowSp w q l) (hF : ∀ (W : World) (x : (Int × Int)), x ∈ l → w.grownBy W none → Calls Tryz.prog 174 #[spanV x, .pointer (some ⟨b, 0, none⟩)] W fun e w' => e = .returned (.bool (P x)) ∧ W.grownBy w' none) :
    Calls Tryz.prog 173 #[.slice q n c, .func (.func 174) #[] #[.pointer (some ⟨b, 0, none⟩)]] w fun e w' => e = .returned (.bool (l.all P)) ∧ w.grownBy w' none := by
  have gB := grown1 w (.cells #[.func (.func 174) #[] #[.pointer (some ⟨b, 0, none⟩)]] 250)
  have G := Lib.hid gB
  have CF := Lib.hid (containsSp_any (w := w.alloc (.cells #[.func (.func 174) #[] #[.pointer (some ⟨b, 0, none⟩)]] 250)) (b := w.heap.size) l n hn hl (fun x => !P x) q c (hr.grown gB) (fun W x hx hg => all1Span_any (g := w.heap.size) x (P x) (grown_cell hg (by rw [cell_of (heap_alloc_new w _)]; rfl)) (Nat.lt_of_lt_of_le (by rw [World.size_alloc]; exact Nat.lt_succ_self _) hg.size) (fun W2 h2 => hF W2 x hx (grown_trans gB (grown_trans hg h2)))))
  have AN := Lib.hid (any_not l P)
  obtain ⟨r, hr2⟩ : ∃ r, r = l.any (fun x => !P x) := ⟨_, rfl⟩
  rw [← hr2] at CF AN
  clear hr hF gB hr2
  go_enter Tryz.func173, Tryz.ntmps173
  go_wp2_with fail
  refine CF.out.mono ?_
  rintro e w3 ⟨rfl, hg⟩
  have GF := Lib.hid (grown_trans G.out hg)
  clear hg
  go_wp2
  go_ret
  exact ⟨by rw [← AN.out]; rfl, GF.out⟩

end Go.Proofs.YtdagnkdonlfobaaGreat

/- The rules of what an image may be, one by one: protections, sizes, sections, names. No condition but that numbers fit their types. -/
namespace Go.Proofs.YtdagnkdonlfobaaGreat
open Go.RowKit
variable {w w' : World} {h : Hx} {s : St} {sv dv : Value} {n hd : Int}

structure SegsFit (s : St) : Prop where
  seg : ∀ x ∈ s.segs, SegFit x
  sec : ∀ x ∈ s.segs, ∀ y ∈ x.secs, SecFit y
/-- An image's lists, by their cells. -/
structure ImgRows (w : World) (s : St) (l : List Sg) (qs : Option Addr) (cs : Nat) : Prop where
  segs : l.map Sg.seg = s.segs
  row : RowSg w qs l
  secs : ∀ x ∈ l, RowSec w x.q x.seg.secs
  few : l.length ≤ 9223372036854775807
  many : ∀ x ∈ l, x.seg.secs.length ≤ 9223372036854775807
  cap : l.length ≤ cs
theorem ImgRows.grown {l : List Sg} {qs : Option Addr} {cs : Nat} (k : ImgRows w s l qs cs) (hg : w.grownBy w' none) : ImgRows w' s l qs cs := ⟨k.segs, k.row.grown hg, fun x hx => (k.secs x hx).grown hg, k.few, k.many, k.cap⟩
theorem ImgRows.of {lo : Nat} (L : Lists w lo s sv dv) : ∃ l qs cs, sv = .slice qs l.length cs ∧ ImgRows w s l qs cs := by
  obtain ⟨l, a2, a3, a4⟩ := L.segs
  obtain ⟨qs, cs, rfl⟩ := own_slice a3
  refine ⟨l, qs, cs, rfl, a2, rowSg_of a3, fun x hx => rowSec_of (a4 x hx), own_most a3, fun x hx => own_most (a4 x hx), ?_⟩
  rcases a3.2 with ⟨e, e0⟩ | ⟨g, cap, cur, hv, _, _, h1, _⟩
  · rw [e0]; exact Nat.zero_le _
  · injection hv with _ _ e3; subst e3; exact h1
theorem ImgRows.fit {l : List Sg} {qs : Option Addr} {cs : Nat} (k : ImgRows w s l qs cs) (hf : SegsFit s) {x : Sg} (hx : x ∈ l) : SegFit x.seg ∧ ∀ y ∈ x.seg.secs, SecFit y :=
  have hm : x.seg ∈ s.segs := by rw [← k.segs]; exact List.mem_map_of_mem hx
  ⟨hf.seg _ hm, hf.sec _ hm⟩
theorem all_seg {l : List Sg} (hl : l.map Sg.seg = s.segs) (P : Seg → Bool) : l.all (fun x => P x.seg) = s.segs.all P := by rw [← hl, List.all_map]; rfl
def DvOk (dv : Value) : Prop := ∃ q n c, dv = .slice q n c
theorem askNew (w : World) : AskAt (w.alloc (.cells (askArr h s sv dv n hd) 165)) w.heap.size h s sv dv n hd := heap_alloc_new w _

set_option maxRecDepth 20000 in
theorem protsMay_any {l : List Sg} {qs : Option Addr} {cs : Nat} (k : ImgRows w s l qs cs) : Calls Tryz.prog 127 #[askV h s (.slice qs l.length cs) dv n hd] w fun e w' => e = .returned (.bool (s.segs.all protOk)) ∧ w.grownBy w' none := by
  have gB := grown1 w (.cells (askArr h s (.slice qs l.length cs) dv n hd) 165)
  have G := Lib.hid gB
  have AA := Lib.hid (askNew (h := h) (s := s) (sv := .slice qs l.length cs) (dv := dv) (n := n) (hd := hd) w)
  have c4 := AA.out.c 4 (.slice qs l.length cs) rfl
  have gl := AA.out.lt
  have AL := Lib.hid (by have := allProt_any (w := w.alloc (.cells (askArr h s (.slice qs l.length cs) dv n hd) 165)) l l.length rfl k.few (fun x => protOk x.seg) qs cs (k.grown gB).row (fun W x hx hg => protsMay1_any x.seg x.q x.seg.secs.length x.c); rw [all_seg k.segs protOk] at this; exact this)
  obtain ⟨r, hr⟩ : ∃ r, r = s.segs.all protOk := ⟨_, rfl⟩
  rw [← hr] at AL ⊢
  clear hr k gB
  unfold askV
  go_enter Tryz.func127, Tryz.ntmps127
  go_upto_region 1 with fail
  unfold askArr at c4 gl AA AL G
  obtain ⟨W, hW⟩ : ∃ W, w.alloc (.cells (askArr h s (.slice qs l.length cs) dv n hd) 165) = W := ⟨_, rfl⟩
  obtain ⟨b, hb⟩ : ∃ b, w.heap.size = b := ⟨_, rfl⟩
  unfold askArr at hW ⊢
  rw [hW] at c4 gl AL G ⊢
  simp only [hb] at c4 gl AL ⊢
  clear hW hb AA
  generalize l.length = N at *
  go_wp2_with fail
  refine AL.out.mono ?_
  rintro e w3 ⟨rfl, hg⟩
  have GF := Lib.hid (grown_trans G.out hg)
  clear hg
  go_wp2
  go_ret
  exact ⟨rfl, GF.out⟩

set_option maxRecDepth 20000 in
theorem sizesMay_any {l : List Sg} {qs : Option Addr} {cs : Nat} (k : ImgRows w s l qs cs) (hf : SegsFit s) (hn : U64 n) : Calls Tryz.prog 128 #[askV h s (.slice qs l.length cs) dv n hd] w fun e w' => e = .returned (.bool (s.segs.all (fun x => sizeOk x n))) ∧ w.grownBy w' none := by
  have gB := grown1 w (.cells (askArr h s (.slice qs l.length cs) dv n hd) 165)
  have G := Lib.hid gB
  have AA := Lib.hid (askNew (h := h) (s := s) (sv := .slice qs l.length cs) (dv := dv) (n := n) (hd := hd) w)
  have c4 := AA.out.c 4 (.slice qs l.length cs) rfl
  have gl := AA.out.lt
  have AL := Lib.hid (by have := allSize_any (w := w.alloc (.cells (askArr h s (.slice qs l.length cs) dv n hd) 165)) (b := w.heap.size) l l.length rfl k.few (fun x => sizeOk x.seg n) qs cs (k.grown gB).row (fun W x hx hg => sizesMay1_any x.seg x.q x.seg.secs.length x.c (k.fit hf hx).1 hn (AA.out.kept hg (by simp))); rw [all_seg k.segs (fun x => sizeOk x n)] at this; exact this)
  obtain ⟨r, hr⟩ : ∃ r, r = s.segs.all (fun x => sizeOk x n) := ⟨_, rfl⟩
  rw [← hr] at AL ⊢
  clear hr k hf gB hn
  unfold askV
  go_enter Tryz.func128, Tryz.ntmps128
  go_upto_region 1 with fail
  unfold askArr at c4 gl AA AL G
  obtain ⟨W, hW⟩ : ∃ W, w.alloc (.cells (askArr h s (.slice qs l.length cs) dv n hd) 165) = W := ⟨_, rfl⟩
  obtain ⟨b, hb⟩ : ∃ b, w.heap.size = b := ⟨_, rfl⟩
  unfold askArr at hW ⊢
  rw [hW] at c4 gl AL G ⊢
  simp only [hb] at c4 gl AL ⊢
  clear hW hb AA
  generalize l.length = N at *
  go_wp2_with fail
  refine AL.out.mono ?_
  rintro e w3 ⟨rfl, hg⟩
  have GF := Lib.hid (grown_trans G.out hg)
  clear hg
  go_wp2
  go_ret
  exact ⟨rfl, GF.out⟩

set_option maxRecDepth 20000 in
theorem sectionsMay1_any (x : Sg) (hf : SegFit x.seg) (hs : ∀ y ∈ x.seg.secs, SecFit y) (hm : x.seg.secs.length ≤ 9223372036854775807) (hr : RowSec w x.q x.seg.secs) :
    Calls Tryz.prog 169 #[segV x.seg x.v] w fun e w' => e = .returned (.bool (x.seg.secs.all (secOk x.seg))) ∧ w.grownBy w' none := by
  obtain ⟨⟨nm, ad, sz, of, fs, pr, sl⟩, q, c⟩ := x
  simp only [] at hf hs hm hr
  have gB := grown1 w (.cells #[.string (strOfNums nm), .int .u64 ad, .int .u64 sz, .int .u64 of, .int .u64 fs, .int .i64 pr, .slice q sl.length c] 58)
  have G := Lib.hid gB
  have A : SegAt (w.alloc (.cells #[.string (strOfNums nm), .int .u64 ad, .int .u64 sz, .int .u64 of, .int .u64 fs, .int .i64 pr, .slice q sl.length c] 58)) w.heap.size ⟨nm, ad, sz, of, fs, pr, sl⟩ (.slice q sl.length c) := heap_alloc_new w _
  have c6 := A.c.2.2.2.2.2.2
  have gl := A.lt
  have AL := Lib.hid (allSec_any (w := w.alloc (.cells #[.string (strOfNums nm), .int .u64 ad, .int .u64 sz, .int .u64 of, .int .u64 fs, .int .i64 pr, .slice q sl.length c] 58)) (b := w.heap.size) sl sl.length rfl hm (secOk ⟨nm, ad, sz, of, fs, pr, sl⟩) q c (hr.grown gB) (fun W y hy hg => sectionsMay11_any ⟨nm, ad, sz, of, fs, pr, sl⟩ q sl.length c y hf (hs y hy) (A.kept hg (by simp))))
  obtain ⟨r, hr2⟩ : ∃ r, r = sl.all (secOk ⟨nm, ad, sz, of, fs, pr, sl⟩) := ⟨_, rfl⟩
  unfold segV segArr Sg.v
  simp only []
  rw [← hr2] at AL ⊢
  clear hr2 hf hs hm hr gB A
  generalize sl.length = M at *
  go_enter Tryz.func169, Tryz.ntmps169
  go_wp2_with fail
  refine AL.out.mono ?_
  rintro e w3 ⟨rfl, hg⟩
  have GF := Lib.hid (grown_trans G.out hg)
  clear hg
  go_wp2
  go_ret
  exact ⟨rfl, GF.out⟩

set_option maxRecDepth 20000 in
theorem sectionsMay_any {l : List Sg} {qs : Option Addr} {cs : Nat} (k : ImgRows w s l qs cs) (hf : SegsFit s) : Calls Tryz.prog 132 #[askV h s (.slice qs l.length cs) dv n hd] w fun e w' => e = .returned (.bool (s.segs.all (fun z => z.secs.all (secOk z)))) ∧ w.grownBy w' none := by
  have gB := grown1 w (.cells (askArr h s (.slice qs l.length cs) dv n hd) 165)
  have G := Lib.hid gB
  have AA := Lib.hid (askNew (h := h) (s := s) (sv := .slice qs l.length cs) (dv := dv) (n := n) (hd := hd) w)
  have c4 := AA.out.c 4 (.slice qs l.length cs) rfl
  have gl := AA.out.lt
  have AL := Lib.hid (by have := allSecs_any (w := w.alloc (.cells (askArr h s (.slice qs l.length cs) dv n hd) 165)) l l.length rfl k.few (fun x => x.seg.secs.all (secOk x.seg)) qs cs (k.grown gB).row (fun W x hx hg => sectionsMay1_any x (k.fit hf hx).1 (k.fit hf hx).2 (k.many x hx) (((k.grown gB).grown hg).secs x hx)); rw [all_seg k.segs (fun z => z.secs.all (secOk z))] at this; exact this)
  obtain ⟨r, hr⟩ : ∃ r, r = s.segs.all (fun z => z.secs.all (secOk z)) := ⟨_, rfl⟩
  rw [← hr] at AL ⊢
  clear hr k hf gB
  unfold askV
  go_enter Tryz.func132, Tryz.ntmps132
  go_upto_region 1 with fail
  unfold askArr at c4 gl AA AL G
  obtain ⟨W, hW⟩ : ∃ W, w.alloc (.cells (askArr h s (.slice qs l.length cs) dv n hd) 165) = W := ⟨_, rfl⟩
  obtain ⟨b, hb⟩ : ∃ b, w.heap.size = b := ⟨_, rfl⟩
  unfold askArr at hW ⊢
  rw [hW] at c4 gl AL G ⊢
  simp only [hb] at c4 gl AL ⊢
  clear hW hb AA
  generalize l.length = N at *
  go_wp2_with fail
  refine AL.out.mono ?_
  rintro e w3 ⟨rfl, hg⟩
  have GF := Lib.hid (grown_trans G.out hg)
  clear hg
  go_wp2
  go_ret
  exact ⟨rfl, GF.out⟩

end Go.Proofs.YtdagnkdonlfobaaGreat

/- Which images may be, in numbers: as the program asks it and as the document does. No condition. -/
namespace Go.Proofs.YtdagnkdonlfobaaGreat

/-- A name's bytes. -/
def nmOf (x : Seg) : List UInt8 := (strOfNums x.name).toList
def diffN (l : List Seg) : Bool := decide ((l.map nmOf).Nodup)
def riseN : Int → List Seg → Bool
  | _, [] => true
  | e, x :: l => decide (e ≤ x.addr) && riseN ((x.addr + x.size) % 18446744073709551616) l
def RiseR (x y : Seg) : Prop := nmOf x ≠ nmOf y ∧ x.addr + x.size ≤ y.addr
instance (x y : Seg) : Decidable (RiseR x y) := inferInstanceAs (Decidable (_ ∧ _))
def frontOk (l : List Seg) (hd : Int) : Bool := match l.find? laidS with
  | none => false
  | some x => (x.off == 0) && decide (hd ≤ x.fsize) && (x.prot % 2 == 1) && !wrOk x
def lowN (l : List Seg) : Int := match l.find? laidS with
  | none => 0
  | some x => x.addr
def highN (l : List Seg) : Int := l.foldl (fun a x => if laidS x = true then max a ((x.addr + x.size) % 18446744073709551616) else a) 0
def spansList (s : St) : List (Int × Int) := [s.rb, s.bd, s.wk, s.lz, s.tr, s.ch, s.sy, s.st]
def spansOk (s : St) (n : Int) : Bool := (spansList s).all (fun x => withinN x.1 x.2 n)
def entryOk (s : St) : Bool := !s.has || decide (s.entry < (highN s.segs - lowN s.segs) % 18446744073709551616)
def nameOk (h : Hx) (s : St) : Bool := (h.kd == 6) == !(strOfNums s.name).toList.isEmpty
def segsOk (s : St) (n hd : Int) : Bool := s.segs.all protOk && s.segs.all (fun x => sizeOk x n) && decide (s.segs.Pairwise RiseR) && frontOk s.segs hd
def secsOk (s : St) : Bool := s.segs.all (fun z => z.secs.all (secOk z))
/-- May it be? An error. -/
def mayN (h : Hx) (s : St) (n hd : Int) : Int :=
  if segsOk s n hd = false then 8 else if secsOk s = false then 9 else if (spansOk s n && (s.sy.2 % 16 == 0) && entryOk s) = false then 4 else if nameOk h s = false then 10 else 0

theorem rise_iff (l : List Seg) (n : Int) (h : l.all (fun x => sizeOk x n) = true) (hf : ∀ x ∈ l, 0 ≤ x.addr) (e : Int) : riseN e l = true ↔ (∀ x ∈ l, e ≤ x.addr) ∧ l.Pairwise (fun x y => x.addr + x.size ≤ y.addr) := by
  induction l generalizing e with
  | nil => simp [riseN]
  | cons x l ih =>
    rw [List.all_cons, Bool.and_eq_true] at h
    have hx := h.1
    unfold sizeOk withinN at hx
    simp only [Bool.and_eq_true, decide_eq_true_eq] at hx
    have h0 := hf x (List.mem_cons_self ..)
    have hm : (x.addr + x.size) % 18446744073709551616 = x.addr + x.size := by omega
    unfold riseN
    rw [hm, Bool.and_eq_true, decide_eq_true_eq, ih h.2 (fun y hy => hf y (List.mem_cons_of_mem _ hy)), List.pairwise_cons]
    constructor
    · rintro ⟨a, b, c⟩
      refine ⟨fun y hy => ?_, b, c⟩
      rcases List.mem_cons.1 hy with rfl | hy
      · exact a
      · have := b y hy; omega
    · rintro ⟨a, b, c⟩
      exact ⟨a x (List.mem_cons_self ..), b, c⟩
theorem pair_iff (l : List Seg) : l.Pairwise RiseR ↔ (l.map nmOf).Nodup ∧ l.Pairwise (fun x y => x.addr + x.size ≤ y.addr) := by
  unfold List.Nodup
  rw [List.pairwise_map, ← List.pairwise_and_iff]
  rfl
/-- The program's rows of rules, and the document's loops. -/
theorem segsOk_eq (s : St) (n hd : Int) (hf : ∀ x ∈ s.segs, 0 ≤ x.addr) : segsOk s n hd = (s.segs.all protOk && s.segs.all (fun x => sizeOk x n) && diffN s.segs && riseN 0 s.segs && frontOk s.segs hd) := by
  unfold segsOk diffN
  cases h : s.segs.all (fun x => sizeOk x n)
  · simp
  · have e : decide (s.segs.Pairwise RiseR) = (decide ((s.segs.map nmOf).Nodup) && riseN 0 s.segs) := by
      rw [Bool.eq_iff_iff, Bool.and_eq_true, decide_eq_true_eq, decide_eq_true_eq, rise_iff _ n h hf, pair_iff]
      exact ⟨fun a => ⟨a.1, fun x hx => hf x hx, a.2⟩, fun a => ⟨a.1, a.2.2⟩⟩
    rw [e]
    simp [Bool.and_assoc]
end Go.Proofs.YtdagnkdonlfobaaGreat

/- The front segment and the image's lowest address. No condition but that numbers fit their types. -/
namespace Go.Proofs.YtdagnkdonlfobaaGreat
open Go.RowKit
variable {w w' : World} {h : Hx} {s : St} {sv dv : Value} {n hd : Int}

theorem Idx.find {α : Type} {l : List α} {P : α → Bool} {z : Int} (h : Idx l P z) : (z = -1 ∧ l.find? P = none) ∨ ∃ k x, z = (k : Nat) ∧ k < l.length ∧ l[k]? = some x ∧ l.find? P = some x := by
  rcases h with ⟨e, h⟩ | ⟨k, x, e, hx, hp, ha⟩
  · refine .inl ⟨e, ?_⟩
    rw [List.find?_eq_none]
    rw [List.any_eq_false] at h
    exact h
  · refine .inr ⟨k, x, e, ?_, hx, ?_⟩
    · exact (List.getElem?_eq_some_iff.1 hx).1
    · rw [List.find?_eq_some_iff_getElem]
      obtain ⟨hk, he⟩ := List.getElem?_eq_some_iff.1 hx
      exact ⟨hp, k, hk, he, fun j hj => by rw [ha j _ hj (List.getElem?_eq_getElem (Nat.lt_trans hj hk))]; rfl⟩
def Sg.zero : Sg := ⟨Seg.zero, none, 0⟩
def frontSg (l : List Sg) : Sg := (l.find? (fun x => laidS x.seg)).getD Sg.zero
def frontS (l : List Seg) : Seg := (l.find? laidS).getD Seg.zero
theorem front_seg {l : List Sg} (hl : l.map Sg.seg = s.segs) : (frontSg l).seg = frontS s.segs := by
  unfold frontSg frontS
  rw [← hl, List.find?_map]
  show _ = (Option.map Sg.seg (l.find? (fun x => laidS x.seg))).getD Seg.zero
  cases l.find? (fun x => laidS x.seg) <;> rfl
theorem results_sg1 {fn : Func} {p : Tmp} {g : Nat} {x : Seg} {v : Value} (hr : fn.results = #[.cell p 58]) {tmps : Array Value} (hp : tmps.getD p undef = .pointer (some ⟨g, 0, none⟩)) (h : SegAt w g x v) :
    (results fn tmps).run Tryz.prog w = .ok (segV x v) w :=
  results_cell_row hr tmps w g _ _ _ _ hp h Tryz.underlying58 rfl (by kernel_rfl)
theorem SegAt.new (w : World) : SegAt (w.alloc (.cells #[.string ⟨#[]⟩, .int .u64 0, .int .u64 0, .int .u64 0, .int .u64 0, .int .i64 0, .slice none 0 0] 58)) w.heap.size Seg.zero (.slice none 0 0) := heap_alloc_new w _

set_option maxRecDepth 20000 in
theorem front_any {l : List Sg} {qs : Option Addr} {cs : Nat} (k : ImgRows w s l qs cs) : Calls Tryz.prog 101 #[imgV h s (.slice qs l.length cs) dv] w fun e w' => e = .returned (segV (frontSg l).seg (frontSg l).v) ∧ w.grownBy w' none := by
  have g1 := grown1 w (.cells (imgArr h s (.slice qs l.length cs) dv) 41)
  have IA : ImgAt (w.alloc (.cells (imgArr h s (.slice qs l.length cs) dv) 41)) w.heap.size h s (.slice qs l.length cs) dv := heap_alloc_new w _
  obtain ⟨W, hW⟩ : ∃ W, w.alloc (.cells (imgArr h s (.slice qs l.length cs) dv) 41) = W := ⟨_, rfl⟩
  obtain ⟨b, hb⟩ : ∃ b, w.heap.size = b := ⟨_, rfl⟩
  have c4 := IA.c 4 (.slice qs l.length cs) rfl
  have gl := lt_of_block IA
  rw [hW] at g1 c4 gl
  rw [hb] at c4 gl
  have g2 := grown1 W (.cells #[.string ⟨#[]⟩, .int .u64 0, .int .u64 0, .int .u64 0, .int .u64 0, .int .i64 0, .slice none 0 0] 58)
  have Z := Lib.hid (SegAt.new W)
  have K2 := (k.grown g1).grown g2
  have II := Lib.hid (indexLaid_any l l.length rfl k.few (fun x => laidS x.seg) qs cs K2.row (fun V x hx hg => isLaid_any x.seg x.q x.seg.secs.length x.c))
  have R := Lib.hid (fun (V : World) (hg : World.grownBy _ V none) => K2.row.grown hg)
  have c4' := grown_cell g2 c4
  have gl' := Nat.lt_of_lt_of_le gl g2.size
  have G := Lib.hid (grown_trans g1 g2)
  have GW := Lib.hid g1.size
  have CP := Lib.hid k.cap
  have FW := Lib.hid k.few
  obtain ⟨X, hX⟩ : ∃ X, X = frontSg l := ⟨_, rfl⟩
  rw [← hX]
  have HX := Lib.hid hX
  unfold imgV
  clear k K2 g1 g2 c4 gl hX
  unfold imgArr at hW ⊢
  go_enter Tryz.func101, Tryz.ntmps101
  go_upto_region 1 with fail
  clear hW hb
  generalize hN : l.length = N at *
  have HN := Lib.hid hN
  clear hN
  go_wp2_with fail
  refine II.out.mono ?_
  rintro e w3 ⟨⟨z, rfl, hz⟩, hg⟩
  have Z3 := Z.out.kept hg (by simp)
  have GF := Lib.hid (grown_trans G.out hg)
  have R3 := R.out _ hg
  have zl := Z3.lt
  have z0 := Z3.fz 0
  have z1 := Z3.fz 1
  have z2 := Z3.fz 2
  have z3 := Z3.fz 3
  have z4 := Z3.fz 4
  have z5 := Z3.fz 5
  have z6 := Z3.fz 6
  obtain ⟨y0, y1, y2, y3, y4, y5, y6⟩ := Z3.c
  have c4 := grown_cell hg c4'
  have gl := Nat.lt_of_lt_of_le gl' hg.size
  have Z4 := Lib.hid Z3
  clear hg Z3 Z c4' gl'
  rcases hz.find with ⟨rfl, hf⟩ | ⟨i, x, rfl, hi, hx, hf⟩
  · have HF : frontSg l = Sg.zero := by unfold frontSg; rw [hf]; rfl
    obtain rfl := HX.out.trans HF
    clear hz hf R3 HF
    go_wp2
    refine bodyPost_ret (results_sg1 rfl rfl (Z4.out.put Seg.zero (.slice none 0 0))) rfl ?_
    exact ⟨rfl, grown_new GF.out (grown_put7 (grown_refl _ _) _ _ _ _ _ _ _) GW.out⟩
  · have HF : frontSg l = x := by unfold frontSg; rw [hf]; rfl
    obtain rfl := HX.out.trans HF
    obtain ⟨g, rfl, a0, a1, a2, a3, a4, a5, a6⟩ := R3 i _ hx
    have hiN : i < N := by rw [← HN.out]; exact hi
    have hNc : N ≤ cs := CP.out
    have hN9 : N ≤ 9223372036854775807 := FW.out
    have dl : decide ((i : Int) < 0) = false := by simp
    have dn : decide ((i : Int) < (N : Int)) = true := by simp; omega
    have dz : decide (0 ≤ (i : Int)) = true := by simp
    clear HX
    obtain ⟨⟨nm, ad, sz, of, fs, pr, sl⟩, q1, k1⟩ := X
    unfold Sg.v at a6
    simp only [] at a0 a1 a2 a3 a4 a5 a6
    clear hz hf R3 hx HF
    go_wp2
    refine bodyPost_ret (results_sg1 rfl rfl (Z4.out.put ⟨nm, ad, sz, of, fs, pr, sl⟩ (.slice q1 sl.length k1))) rfl ?_
    exact ⟨rfl, grown_new GF.out (grown_put7 (grown_refl _ _) _ _ _ _ _ _ _) GW.out⟩

theorem wpList_load_imgI {g : Nat} {h : Hx} {s : St} {sv dv : Value} {ops : Array Oper} {rest : List Oper} {o : Oper} {a : Act} {Q : Exit → Act → World → Prop} (hgd : o.guard = none) (x : Operand) (ho : o.op = .load 41 x)
    (hx : a.eval x = .pointer (some ⟨g, 0, none⟩)) (k : ImgAt w g h s sv dv) (hK : wpList Tryz.prog ops Q rest (a.put o.dst (imgV h s sv dv)) w) : wpList Tryz.prog ops Q (o :: rest) a w :=
  wpList_load_imgW (by unfold Region.wanted; rw [hgd]) x ho hx k hK

theorem field_addr (nm : List Int) (ad sz of fs pr : Int) (v : Value) (w : World) : (Instr.field 58 (.agg #[.string (strOfNums nm), .int .u64 ad, .int .u64 sz, .int .u64 of, .int .u64 fs, .int .i64 pr, v]) 1).run Tryz.prog w = .ok (.int .u64 ad) w := by kernel_rfl
set_option maxRecDepth 20000 in
theorem Low_any {l : List Sg} {qs : Option Addr} {cs : Nat} (k : ImgRows w s l qs cs) : Calls Tryz.prog 72 #[imgV h s (.slice qs l.length cs) dv] w fun e w' => e = .returned (.int .u64 (lowN s.segs)) ∧ w.grownBy w' none := by
  have g1 := grown1 w (.cells (imgArr h s (.slice qs l.length cs) dv) 41)
  have IA := Lib.hid (show ImgAt (w.alloc (.cells (imgArr h s (.slice qs l.length cs) dv) 41)) w.heap.size h s (.slice qs l.length cs) dv from heap_alloc_new w _)
  obtain ⟨W, hW⟩ : ∃ W, w.alloc (.cells (imgArr h s (.slice qs l.length cs) dv) 41) = W := ⟨_, rfl⟩
  obtain ⟨b, hb⟩ : ∃ b, w.heap.size = b := ⟨_, rfl⟩
  rw [hW] at g1 IA
  rw [hb] at IA
  have FR := Lib.hid (front_any (h := h) (dv := dv) (k.grown g1))
  have G := Lib.hid g1
  have LW : lowN s.segs = (frontSg l).seg.addr := by
    rw [front_seg k.segs]
    unfold lowN frontS
    cases s.segs.find? laidS <;> rfl
  rw [LW]
  obtain ⟨⟨⟨nm, ad, sz, of, fs, pr, sl⟩, q1, k1⟩, hX⟩ : ∃ X, X = frontSg l := ⟨_, rfl⟩
  rw [← hX] at FR ⊢
  clear k g1 LW hX
  simp only [] at FR ⊢
  unfold segV segArr at FR
  have HW := Lib.hid hW
  rw [show imgV h s (.slice qs l.length cs) dv = .agg (imgArr h s (.slice qs l.length cs) dv) from rfl]
  unfold imgArr at hW ⊢
  go_enter Tryz.func72, Tryz.ntmps72
  go_upto_region 1 with fail
  clear hW hb
  go_wp2_with (first | refine wpList_load_imgI rfl _ rfl rfl IA.out ?_ | fail)
  refine FR.out.mono ?_
  rintro e w3 ⟨rfl, hg⟩
  have GF := Lib.hid (grown_trans G.out hg)
  clear hg
  have fa := field_addr nm ad sz of fs pr
  go_wp2
  go_ret
  exact ⟨rfl, GF.out⟩

/-- The image of what is asked about, at once. -/
theorem run_loadImgQ {g : Nat} {h : Hx} {s : St} {sv dv : Value} {n hd : Int} (a : AskAt w g h s sv dv n hd) : (loadVar 41 ⟨g, 0, none⟩).run Tryz.prog w = .ok (imgV h s sv dv) w := by
  have hl : (loadCells ⟨g, 0, none⟩ (imgArr h s sv dv).toList.length).run Tryz.prog w = .ok (imgArr h s sv dv).toList.toArray w :=
    run_loadCells_list (P := Tryz.prog) w ⟨g, 0, none⟩ (imgArr h s sv dv).toList (fun j v hv => by
      have hadd : (⟨g, 0, none⟩ : Addr).add j = ⟨g, j, none⟩ := by unfold Addr.add; split <;> simp_all
      rw [hadd, cell_of a]
      have hj : j < 24 := by
        rcases Nat.lt_or_ge j 24 with h1 | h1
        · exact h1
        · rw [List.getElem?_eq_none (by exact h1)] at hv; cases hv
      rw [← hv]
      match j, hj with
      | 0, _ => rfl
      | 1, _ => rfl
      | 2, _ => rfl
      | 3, _ => rfl
      | 4, _ => rfl
      | 5, _ => rfl
      | 6, _ => rfl
      | 7, _ => rfl
      | 8, _ => rfl
      | 9, _ => rfl
      | 10, _ => rfl
      | 11, _ => rfl
      | 12, _ => rfl
      | 13, _ => rfl
      | 14, _ => rfl
      | 15, _ => rfl
      | 16, _ => rfl
      | 17, _ => rfl
      | 18, _ => rfl
      | 19, _ => rfl
      | 20, _ => rfl
      | 21, _ => rfl
      | 22, _ => rfl
      | 23, _ => rfl
      )
  cases hq : Tryz.prog.info? 41 with
  | none => have := imgInfo; simp [hq] at this
  | some i =>
    have hs : i.size = 24 := by have := imgInfo; simpa [hq] using this
    have hagg : (isAgg 41).run Tryz.prog w = .ok true w := by
      unfold isAgg
      rw [Sem.run_bind, run_underlying Tryz.underlying41 w]
      rfl
    have hl' : (loadCells ⟨g, 0, none⟩ 24).run Tryz.prog w = .ok (imgArr h s sv dv) w := hl
    simp [loadVar, Sem.run_bind, hagg, sizeOf, typeInfo, hq, hs, hl', imgV]
theorem wpList_load_imgQ {g : Nat} {h : Hx} {s : St} {sv dv : Value} {n hd : Int} {ops : Array Oper} {rest : List Oper} {o : Oper} {a : Act} {Q : Exit → Act → World → Prop} (hw : Region.wanted o (yielded ops a.tmps) = true) (x : Operand) (ho : o.op = .load 41 x)
    (hx : a.eval x = .pointer (some ⟨g, 0, none⟩)) (i : AskAt w g h s sv dv n hd) (hK : wpList Tryz.prog ops Q rest (a.put o.dst (imgV h s sv dv)) w) : wpList Tryz.prog ops Q (o :: rest) a w := by
  refine BigFrame.wpList_want hw fun _ hK' => ?_
  unfold Oper.wp execOp
  simp only [ho, hx, Instr.loadAt, Instr.sureAddr, Sem.run_bind, Sem.run_pure, Result.andThen_ok, run_loadImgQ i]
  exact hK' _ _ hK
theorem and1_i64 (n : Int) : bits .and .i64 n 1 = n % 2 := by
  have h1 : (BitVec.ofInt 64 1).toNat = 2 ^ 1 - 1 := by decide
  have key : (BitVec.ofInt 64 n &&& BitVec.ofInt 64 1).toNat = (n % ((2 ^ 64 : Nat) : Int)).toNat % 2 ^ 1 := by
    rw [BitVec.toNat_and, BitVec.toNat_ofInt, h1, Nat.and_two_pow_sub_one_eq_mod]
  show IntKind.i64.wrap ((BitVec.ofInt 64 n &&& BitVec.ofInt 64 1).toNat : Nat) = n % 2
  rw [key, IntKind.wrap_i64]
  omega
theorem frontOk_eq (l : List Seg) (hd : Int) : frontOk l hd = (((frontS l).off == 0) && decide (hd ≤ (frontS l).fsize) && ((frontS l).prot % 2 == 1) && !wrOk (frontS l)) := by
  unfold frontOk frontS
  cases l.find? laidS with
  | none => simp [Seg.zero]
  | some x => rfl
set_option maxRecDepth 20000 in
theorem frontMay_any {l : List Sg} {qs : Option Addr} {cs : Nat} (k : ImgRows w s l qs cs) : Calls Tryz.prog 131 #[askV h s (.slice qs l.length cs) dv n hd] w fun e w' => e = .returned (.bool (frontOk s.segs hd)) ∧ w.grownBy w' none := by
  have gB := grown1 w (.cells (askArr h s (.slice qs l.length cs) dv n hd) 165)
  have aA := askNew (h := h) (s := s) (sv := .slice qs l.length cs) (dv := dv) (n := n) (hd := hd) w
  obtain ⟨W, hW⟩ : ∃ W, w.alloc (.cells (askArr h s (.slice qs l.length cs) dv n hd) 165) = W := ⟨_, rfl⟩
  obtain ⟨b, hb⟩ : ∃ b, w.heap.size = b := ⟨_, rfl⟩
  rw [hW] at gB aA
  rw [hb] at aA
  have AA := Lib.hid aA
  have FR := Lib.hid (front_any (h := h) (dv := dv) (k.grown gB))
  have G := Lib.hid gB
  rw [frontOk_eq, ← front_seg k.segs]
  obtain ⟨X, hX⟩ : ∃ X, X = frontSg l := ⟨_, rfl⟩
  rw [← hX] at FR ⊢
  have CW := Lib.hid (fun W => canWrite_any (w := W) X.seg X.q X.seg.secs.length X.c)
  obtain ⟨r, hr⟩ : ∃ r, r = wrOk X.seg := ⟨_, rfl⟩
  rw [← hr] at CW ⊢
  obtain ⟨⟨nm, ad, sz, of, fs, pr, sl⟩, q1, k1⟩ := X
  clear k gB hX aA hr
  simp only [Sg.v] at FR CW ⊢
  unfold segV segArr at FR CW
  unfold askV
  unfold askArr at hW ⊢
  go_enter Tryz.func131, Tryz.ntmps131
  go_upto_region 1 with fail
  clear hW hb
  go_wp2_with (first | refine wpList_load_imgQ rfl _ rfl rfl AA.out ?_ | fail)
  refine FR.out.mono ?_
  rintro e w3 ⟨rfl, hg⟩
  have GF := Lib.hid (grown_trans G.out hg)
  have hA := AA.out.kept hg (by simp)
  have c25 := hA.c 25 (.int .u64 hd) rfl
  have gl := hA.lt
  clear hg hA
  have g3 := grown1 w3 (.cells #[.string (strOfNums nm), .int .u64 ad, .int .u64 sz, .int .u64 of, .int .u64 fs, .int .i64 pr, .slice q1 sl.length k1] 58)
  have P4 : SegAt (w3.alloc (.cells #[.string (strOfNums nm), .int .u64 ad, .int .u64 sz, .int .u64 of, .int .u64 fs, .int .i64 pr, .slice q1 sl.length k1] 58)) w3.heap.size ⟨nm, ad, sz, of, fs, pr, sl⟩ (.slice q1 sl.length k1) := heap_alloc_new w3 _
  have c25' := grown_cell g3 c25
  have gl' := Nat.lt_of_lt_of_le gl g3.size
  have G4 := Lib.hid (grown_trans GF.out g3)
  have a1 := and1_i64 pr
  go_upto_region 2 with fail
  clear c25 gl
  obtain ⟨w4, h4⟩ : ∃ w4, w3.alloc (.cells #[.string (strOfNums nm), .int .u64 ad, .int .u64 sz, .int .u64 of, .int .u64 fs, .int .i64 pr, .slice q1 sl.length k1] 58) = w4 := ⟨_, rfl⟩
  rw [h4] at G4 P4 c25' gl' ⊢
  obtain ⟨y0, y1, y2, y3, y4, y5, y6⟩ := P4.c
  have yl := P4.lt
  clear h4 P4 g3
  generalize w3.heap.size = p at *
  have M : pr % 2 = 0 ∨ pr % 2 = 1 := by omega
  cases h1 : (of == 0)
  · clear M
    go_wp2
    go_ret
    exact ⟨rfl, G4.out⟩
  cases h2 : decide (hd ≤ fs)
  · clear M
    go_wp2
    go_ret
    exact ⟨rfl, G4.out⟩
  rcases M with M | M
  · rw [M] at a1
    have HM := Lib.hid M
    clear M
    go_wp2
    go_ret
    exact ⟨by rw [HM.out]; rfl, G4.out⟩
  · rw [M] at a1
    have HM := Lib.hid M
    clear M
    go_wp2_with fail
    refine (CW.out _).mono ?_
    rintro e w5 ⟨rfl, hg⟩
    have G5 := Lib.hid (grown_trans G4.out hg)
    clear hg
    go_wp2
    go_ret
    exact ⟨ret_bool (by rw [HM.out, h1, h2]; cases r <;> rfl), G5.out⟩
end Go.Proofs.YtdagnkdonlfobaaGreat
