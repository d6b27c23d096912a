/- The table and strings of symbols, or why there are none: nlist.Make. Conditions: they lie in memory, and are few. -/
import Derived.Test.YtlmgkofbjcahaaaNlLy
import Derived.Test.YtlmgkofbjcahaaaNlTw
import Derived.Test.YtlmgkofbjcahaaaNlF
namespace Go.Proofs.Ytlmgkofbjcahaaa
open Go.RowKit
variable {w w' W V : World} {D : Syms}

/-- May all be? -/
def mayAll (D : Syms) : Bool := D.all fun y => mayS y.1 y.2
def mkErr (D : Syms) : Int :=
  if mayAll D = false then 2 else if 4096 < D.length ∨ 1048576 < (nmB D).length then 11 else if twB D = true then 21 else 0
def mkT (D : Syms) : List Int := if mkErr D = 0 then tabS D D.length else []
def mkN (D : Syms) : List Int := if mkErr D = 0 then nmB D else []
set_option maxRecDepth 20000 in
theorem make1S_any {y : Sym} (hn : Byt y.1) (hl : y.1.length ≤ 9223372036854775807) (W : World) :
    Calls Try.prog 26 #[syV (strOfNums y.1) y.2] W fun e w' => e = .returned (.bool (!mayS y.1 y.2)) ∧ W.grownBy w' none := by
  have M := Lib.hid (fun V => May10_any (x := y.2) hn hl V)
  have g1 := grown1 W (.cells #[.string (strOfNums y.1), .int .i64 y.2.sec, .int .u64 y.2.value, .bool y.2.weak] 32)
  have x1 := SyAt.new W (strOfNums y.1) y.2
  obtain ⟨c0, c1, c2, c3⟩ := x1.c
  have G := Lib.hid g1
  obtain ⟨r, hr⟩ : ∃ r, r = mayS y.1 y.2 := ⟨_, rfl⟩
  rw [← hr] at M ⊢
  clear g1 x1 hn hl hr
  unfold syV syArr at M ⊢
  go_enter Try.func26, Try.ntmps26
  go_wp2_with fail
  refine (M.out _).mono ?_
  rintro e w2 ⟨rfl, hg⟩
  have G2 := Lib.hid (grown_trans G.out hg)
  clear hg
  go_wp2
  go_ret
  exact ⟨rfl, G2.out⟩
set_option maxRecDepth 20000 in
theorem mayAll_any {q : Option Addr} {n c : Nat} (hn : D.length = n) (hD : SysAt w q D) (hfew : n ≤ 1000000000) (hm : ∀ y ∈ D, Byt y.1 ∧ y.1.length ≤ 9223372036854775807) :
    Calls Try.prog 25 #[.slice q n c, .func (.func 26) #[] #[]] w fun e w' => e = .returned (.bool (!mayAll D)) ∧ w.grownBy w' none := by
  have IX := Lib.hid (indexSy_any (w := w) (f := 26) (cbs := #[]) (enters_of Try.func26 (by kernel_rfl) rfl) (fun y => !mayS y.1 y.2) D n hn hfew q c hD (fun W y hW hy => by
    refine (make1S_any (hm y hy).1 (hm y hy).2 W).mono ?_
    rintro e w' ⟨rfl, hg⟩
    exact ⟨rfl, hg⟩))
  clear hn hD hm
  go_enter Try.func25, Try.ntmps25
  go_wp2_with fail
  refine IX.out.mono ?_
  rintro e w2 ⟨hr, hg⟩
  have G := Lib.hid hg
  clear hg
  rcases hr with ⟨rfl, hno⟩ | ⟨k, x, hk, rfl, hx, hpx, _⟩
  · have HA := Lib.hid (show mayAll D = true from by
      unfold mayAll
      rw [List.all_eq_true]
      intro y hy
      have := hno y hy
      simpa using this)
    clear hno
    go_wp2
    go_ret
    rw [HA.out]
    exact ⟨rfl, G.out⟩
  · have HA := Lib.hid (show mayAll D = false from by
      unfold mayAll
      rw [List.all_eq_false]
      exact ⟨x, List.mem_of_getElem? hx, by simpa using hpx⟩)
    have dk : decide ((0 : Int) ≤ (k : Int)) = true := by simp
    clear hx hpx
    go_wp2
    go_ret
    rw [HA.out]
    exact ⟨rfl, G.out⟩
/-- What Make answers. -/
structure MkO (w w' : World) (D : Syms) (r : Ending) : Prop where
  ex : ∃ qa ca qb cb, r = .returned (.tuple #[.slice qa (mkT D).length ca, .slice qb (mkN D).length cb, .int .i64 (mkErr D)]) ∧ IsBytes w' qa ca (mkT D) ∧ IsBytes w' qb cb (mkN D) ∧ (mkT D).length ≤ ca ∧ ca ≤ 9223372036854775807 ∧ (mkN D).length ≤ cb ∧ cb ≤ 9223372036854775807
  grown : w.grownBy w' none
theorem MkO.no (hg : w.grownBy w' none) {E : Int} (hE : mkErr D = E) (h0 : E ≠ 0) : MkO w w' D (.returned (.tuple #[.slice none 0 0, .slice none 0 0, .int .i64 E])) := by
  have hT : mkT D = [] := by unfold mkT; rw [if_neg (by rw [hE]; exact h0)]
  have hN : mkN D = [] := by unfold mkN; rw [if_neg (by rw [hE]; exact h0)]
  refine ⟨⟨none, 0, none, 0, ?_, ?_, ?_, ?_⟩, hg⟩
  · rw [hT, hN, hE]; rfl
  · rw [hT]; exact IsBytes.nil
  · rw [hN]; exact IsBytes.nil
  · rw [hT, hN]; simp
set_option maxRecDepth 20000 in
set_option maxHeartbeats 1600000 in
theorem Make10_any {q : Option Addr} {n c : Nat} (hn : D.length = n) (hD : SysAt w q D) (hfew : n ≤ 1000000) (hm : ∀ y ∈ D, SyFits y.1 y.2) :
    Calls Try.prog 14 #[.slice q n c] w fun r w' => MkO w w' D r := by
  have HD := Lib.hid hD
  have HN := Lib.hid hn
  have MA := Lib.hid (mayAll_any hn hD (by omega) (c := c) (fun y hy => ⟨(hm y hy).name, (hm y hy).len⟩))
  have HM := Lib.hid hm
  obtain ⟨b, hb⟩ : ∃ b, b = mayAll D := ⟨_, rfl⟩
  rw [← hb] at MA
  have HBB := Lib.hid hb
  clear hD hm hb
  cases b
  · have hE : mkErr D = 2 := by unfold mkErr; rw [if_pos HBB.out.symm]
    have EE := Lib.hid hE
    clear hE
    go_enter Try.func14, Try.ntmps14
    go_wp2_with fail
    refine MA.out.mono ?_
    rintro e w2 ⟨rfl, hg⟩
    have G := Lib.hid hg
    clear hg
    go_wp2
    go_ret3
    exact MkO.no G.out EE.out (by decide)
  · have HALL := Lib.hid (show ∀ y ∈ D, mayS y.1 y.2 = true from by
      have := HBB.out.symm
      unfold mayAll at this
      rw [List.all_eq_true] at this
      exact this)
    by_cases h4 : 4096 < n
    · have d4 : decide ((4096 : Int) < (n : Int)) = true := by simp; omega
      have hE : mkErr D = 11 := by unfold mkErr; rw [if_neg (by rw [← HBB.out]; decide), if_pos (.inl (by omega))]
      have EE := Lib.hid hE
      clear hE hn
      go_enter Try.func14, Try.ntmps14
      go_wp2_with fail
      refine MA.out.mono ?_
      rintro e w2 ⟨rfl, hg⟩
      have G := Lib.hid hg
      clear hg
      go_wp2
      go_ret3
      exact MkO.no G.out EE.out (by decide)
    · have d4 : decide ((4096 : Int) < (n : Int)) = false := by simp; omega
      have LY := Lib.hid (fun (V : World) (hV : w.grownBy V none) => lay_any (w := V) (c := c) hn (HD.out.grown hV) (by omega) (fun y hy => ⟨(HM.out y hy).name, HALL.out y hy⟩))
      have TW := Lib.hid (fun (V : World) (hV : w.grownBy V none) => twice_any (w := V) (c := c) hn (HD.out.grown hV) hfew (fun y hy => ⟨(HM.out y hy).name, (mayS_is (HALL.out y hy)).2.1⟩))
      have TL := Lib.hid (show (tabS D n).length ≤ 65536 by rw [tabS_len]; omega)
      have NLN := Lib.hid (show (nmB D).length ≤ 1280001 from by
        have := nmB_len_le (l := D) (fun y hy => (mayS_is (HALL.out y hy)).2.1)
        omega)
      obtain ⟨tw, htw⟩ : ∃ b, b = twB D := ⟨_, rfl⟩
      rw [← htw] at TW
      have HTW := Lib.hid htw
      have H4 := Lib.hid h4
      clear htw h4
      go_enter Try.func14, Try.ntmps14
      go_wp2_with fail
      refine MA.out.mono ?_
      rintro e w2 ⟨rfl, hg⟩
      have G2 := Lib.hid hg
      clear hg
      go_wp2_with fail
      refine (LY.out _ G2.out).mono ?_
      rintro e w3 ⟨qa, ca, qb, cb, rfl, hduo⟩
      have G3 := Lib.hid (grown_trans G2.out hduo.grown)
      have CA := Lib.hid (own_cap hduo.a)
      have CB := Lib.hid (own_cap hduo.b)
      have IA := Lib.hid (IsBytes.of_own rfl hduo.a)
      have IB := Lib.hid (IsBytes.of_own rfl hduo.b)
      have TT := Lib.hid (TW.out _ G3.out)
      obtain ⟨T, hT⟩ : ∃ T, T = (tabS D n).length := ⟨_, rfl⟩
      obtain ⟨P, hP⟩ : ∃ P, P = (nmB D).length := ⟨_, rfl⟩
      rw [← hT] at TL
      rw [← hP] at NLN
      rw [← hT, ← hP]
      have HT := Lib.hid hT
      have HP := Lib.hid hP
      have hTL := TL.out
      have hPL := NLN.out
      clear hduo hT hP hn
      by_cases hbig : 1048576 < P
      · have hmx : max (T : Int) (P : Int) = (P : Int) := by omega
        have dm : decide ((1048576 : Int) < (P : Int)) = true := by simp; omega
        have dm2 : decide (1048576 < P) = true := decide_eq_true hbig
        have hE : mkErr D = 11 := by unfold mkErr; rw [if_neg (by rw [← HBB.out]; decide), if_pos (.inr (by rw [← HP.out]; exact hbig))]
        have EE := Lib.hid hE
        clear hE
        go_wp2
        go_ret3
        exact MkO.no G3.out EE.out (by decide)
      · obtain ⟨Mx, hmx, hm2⟩ : ∃ Mx : Nat, max (T : Int) (P : Int) = (Mx : Int) ∧ Mx ≤ 1048576 := ⟨max T P, by omega, by omega⟩
        have dm : decide ((1048576 : Int) < (Mx : Int)) = false := by simp; omega
        have dm2 : decide (1048576 < Mx) = false := by simp; omega
        have HB2 := Lib.hid hbig
        clear hm2 hbig
        go_wp2_with fail
        refine TT.out.mono ?_
        rintro e w4 ⟨rfl, hg⟩
        have G4 := Lib.hid (grown_trans G3.out hg)
        have IA4 := Lib.hid (IA.out.kept hg (by simp))
        have IB4 := Lib.hid (IB.out.kept hg (by simp))
        clear hg IA IB
        cases tw
        · have EE := Lib.hid (show mkErr D = 0 by unfold mkErr; rw [if_neg (by rw [← HBB.out]; decide), if_neg (fun h => h.elim (fun h => H4.out (by rw [← HN.out]; exact h)) (fun h => HB2.out (by rw [HP.out]; exact h))), ← HTW.out, if_neg (by decide)])
          go_wp2
          go_ret3
          obtain rfl := HT.out
          obtain rfl := HP.out
          have e1 : mkT D = tabS D n := by unfold mkT; rw [if_pos EE.out, HN.out]
          have e2 : mkN D = nmB D := by unfold mkN; rw [if_pos EE.out]
          refine ⟨⟨qa, ca, qb, cb, by rw [e1, e2, EE.out]; rfl, ?_, ?_, ?_⟩, G4.out⟩
          · rw [e1]; exact IA4.out
          · rw [e2]; exact IB4.out
          · rw [e1, e2]; exact ⟨CA.out.1, CA.out.2, CB.out.1, CB.out.2⟩
        · have EE := Lib.hid (show mkErr D = 21 by unfold mkErr; rw [if_neg (by rw [← HBB.out]; decide), if_neg (fun h => h.elim (fun h => H4.out (by rw [← HN.out]; exact h)) (fun h => HB2.out (by rw [HP.out]; exact h))), ← HTW.out, if_pos rfl])
          go_wp2
          go_ret3
          exact MkO.no G4.out EE.out (by decide)
end Go.Proofs.Ytlmgkofbjcahaaa
