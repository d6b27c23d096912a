/- The first of some symbols of which something is so: slices.IndexFunc, ContainsFunc; the symbol of a name: nlist.Find. Conditions: the bytes lie in memory. -/
import Derived.Test.YtlmgkofbjcahaaaNlP
import Derived.Shelf.Abstract
namespace Go.Proofs.Ytlmgkofbjcahaaa
open Go.RowKit Go.Maps
variable {w w' W V : World} {ys t : List Int} {n : Int}

set_option maxRecDepth 20000 in
set_option maxHeartbeats 1600000 in
theorem indexSy_any {f : Nat} {cbs : Array Value} (en : ∀ args V, (callFunc f args).run Try.prog V = .ok (.enter f args) V) (pr : Sym → Bool) (D : Syms) (n : Nat) (hn : D.length = n) (hbig : n ≤ 1000000000) (q : Option Addr) (c : Nat) (hr : SysAt w q D)
    (hcall : ∀ W y, w.grownBy W none → y ∈ D → Calls Try.prog f (#[syV (strOfNums y.1) y.2] ++ cbs) W fun e w' => e = .returned (.bool (pr y)) ∧ W.grownBy w' none) :
    Calls Try.prog 23 #[.slice q n c, .func (.func f) #[] cbs] w fun e w' =>
      ((e = .returned (.int .i64 (-1)) ∧ ∀ y ∈ D, pr y = false) ∨ ∃ (k : Nat) (x : Sym), k < n ∧ e = .returned (.int .i64 k) ∧ D[k]? = some x ∧ pr x = true ∧ ∀ i y, i < k → D[i]? = some y → pr y = false) ∧ w.grownBy w' none := by
  subst hn
  have RR := Lib.hid hr
  have HC := Lib.hid hcall
  clear hr hcall
  go_enter Try.func23, Try.ntmps23
  go_wp2
  go_loopw [8] (fun i wr => ∃ k : Nat, k ≤ D.length ∧ i = .int .i64 k ∧ w.grownBy wr none ∧ Hid (∀ (i : Nat) (y : Sym), i < k → D[i]? = some y → pr y = false)) (fun i _ => D.length - (intOf i).toNat)
  case atStart => exact ⟨0, Nat.zero_le _, rfl, grown_refl _ _, Lib.hid (fun i y h => by omega)⟩
  case round =>
    obtain ⟨k, hk, rfl, hg, NO⟩ := hrel
    have G := Lib.hid hg
    by_cases hlt : k < D.length
    · obtain ⟨x, hx⟩ : ∃ x, D[k]? = some x := ⟨_, List.getElem?_eq_getElem hlt⟩
      obtain ⟨gq, oq, rfl, a0, a1, a2, a3⟩ := (RR.out.grown hg).at hx
      have M1 := HC.out wr x hg (List.mem_of_getElem? hx)
      simp only [syV, syArr] at M1
      have M := Lib.hid M1
      have XX := Lib.hid hx
      have dl : decide ((k : Int) < (D.length : Int)) = true := by simp; omega
      have hkl : (k : Int) < (D.length : Int) := by omega
      obtain ⟨bx, hbx⟩ : ∃ bx, bx = pr x := ⟨_, rfl⟩
      rw [← hbx] at M
      have PX := Lib.hid hbx
      clear hg hx hbx M1
      go_wp2_with fail
      refine M.out.mono ?_
      rintro e w3 ⟨rfl, hg⟩
      have G3 := Lib.hid (grown_trans G.out hg)
      clear hg M a0 a1 a2 a3
      cases bx
      · go_wp2
        go_roundw
        case rel =>
          refine ⟨k + 1, hlt, by go_num, G3.out, Lib.hid (fun i y hi hy => ?_)⟩
          rcases Nat.lt_or_ge i k with h | h
          · exact NO.out i y h hy
          · obtain rfl : i = k := by omega
            rw [XX.out] at hy
            injection hy with hy
            rw [← hy]; exact PX.out.symm
        case measure => simp [intOf]; omega
      · go_wp2
        go_ret
        exact ⟨.inr ⟨k, _, hlt, rfl, XX.out, PX.out.symm, NO.out⟩, G3.out⟩
    · have NA := Lib.hid (show ∀ y ∈ D, pr y = false from fun y hy => by
        obtain ⟨i, hi, rfl⟩ := List.getElem_of_mem hy
        exact NO.out i _ (by omega) (List.getElem?_eq_getElem hi))
      have dl : decide ((k : Int) < (D.length : Int)) = false := by simp; omega
      have dl2 : decide (k < D.length) = false := by simp; omega
      clear NO hg hlt
      go_wp2
      go_ret
      exact ⟨.inl ⟨rfl, NA.out⟩, G.out⟩
set_option maxRecDepth 20000 in
theorem find1_any {nm t : List Int} (x : Sy) (hn : Byt nm) (ht : Byt t) {g : Nat} (W : World) (hg : OneAt W g (.string (strOfNums t)) 9) :
    Calls Try.prog 24 #[syV (strOfNums nm) x, .pointer (some ⟨g, 0, none⟩)] W fun e w' => e = .returned (.bool (decide (nm = t))) ∧ W.grownBy w' none := by
  have g1 := grown1 W (.cells #[.string (strOfNums nm), .int .i64 x.sec, .int .u64 x.value, .bool x.weak] 32)
  have c1 := (hg.grown g1).c
  have c0 := (SyAt.new W (strOfNums nm) x).c.1
  have ee := text_same hn ht
  obtain ⟨b, hb⟩ : ∃ b, b = decide (nm = t) := ⟨_, rfl⟩
  rw [← hb] at ee ⊢
  have G := Lib.hid g1
  clear g1 hb hg hn ht
  unfold syV syArr
  go_enter Try.func24, Try.ntmps24
  go_wp2
  go_ret
  exact ⟨rfl, G.out⟩
end Go.Proofs.Ytlmgkofbjcahaaa
