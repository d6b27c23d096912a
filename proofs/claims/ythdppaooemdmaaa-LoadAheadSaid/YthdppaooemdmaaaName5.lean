/- The name of a command. No condition but that it has at most 2^47 bytes. -/
import Derived.Test.YthdppaooemdmaaaField
namespace Go.Proofs.Ythdppaooemdmaaa
open Go.RowKit
variable {w w' : World} {lo hi a : Nat} {xs : List Int} {p : Nat} {big bad : Bool}

theorem pen_seek_no (h : Pen w lo hi a xs p big false) (n : Nat) (hn : xs.length < n) :
    Calls Try.prog 57 #[.pointer (some ⟨a, 0, none⟩), .int .i64 n] w fun e w' => e = .returned (.tuple #[]) ∧ Pen w' lo hi a xs p big true ∧ w.grownBy w' (some a) := by
  obtain ⟨⟨base, q, c, hc, hl, ho⟩, i1, i2, i3⟩ := h
  have h0 := hc.c0
  have h1 := hc.c1
  have h3 := hc.c3
  have f3 := hc.f3
  have hbig := hc.big
  have F := Lib.hid hc.setBad
  have G := Lib.hid (grown_setCell (i := 3) (grown_refl w (some a)) (.bool true))
  have PN := Lib.hid (fun (w' : World) (h : Cur w' base a q c xs p big true) (hg : w.grownBy w' (some a)) => (⟨⟨base, q, c, h, hl, ho⟩, i1, i2, Nat.le_trans i3 hg.size⟩ : Pen w' lo hi a xs p big true))
  have d1 : decide ((n : Int) < 0) = false := by simp
  have d2 : decide (xs.length < n) = true := by simp; omega
  clear hc hl ho
  go_enter Try.func57, Try.ntmps57
  go_wp2
  refine bodyPost_ret (results_none rfl _ _ _) rfl ?_
  exact ⟨rfl, PN.out _ F.out G.out, G.out⟩

/-- The name of a command, and the error, as one answer. -/
def nameV (ys : List Int) : List Int := if nameErr ys = 0 then nameOf ys else []
set_option maxHeartbeats 1600000 in
set_option maxRecDepth 20000 in
theorem Name_any (ys : List Int) (q : Option Addr) (c n : Nat) (h : IsBytes w q c ys) (hn : ys.length = n) (hb : n ≤ 140737488355328) (hr : Small ys) :
    Calls Try.prog 35 #[.slice q n c] w fun e w' => e = .returned (.tuple #[.string (strOfNums (nameV ys)), .int .i64 (nameErr ys)]) ∧ w.grownBy w' none := by
  have OP := Lib.hid (open_any (w := w) ys q c n h hn hb hr)
  have HN := Lib.hid hn
  have HR := Lib.hid hr
  clear h hr hn
  by_cases hs : shortB ys
  · have SH := Lib.hid hs
    clear hs
    go_enter Try.func35, Try.ntmps35
    go_wp2_with fail
    refine OP.out.mono ?_
    rintro e w1 ⟨hbad, _, hg⟩
    have G1 := Lib.hid hg
    obtain rfl := hbad SH.out
    clear hbad hg
    go_wp2
    go_ret2
    have hE : nameErr ys = 3 := by unfold nameErr; rw [if_pos SH.out]
    exact ⟨by unfold nameV; rw [hE]; rfl, G1.out⟩
  have SH := Lib.hid hs
  have hE : nameErr ys = if ¬ named (cmdAt ys) then 7 else if nameOf ys = [] then 10 else 0 := by unfold nameErr; rw [if_neg hs]
  have hlen : ¬ ((ys.length : Int) < leastN (cmdAt ys)) := fun h => hs (.inr h)
  obtain ⟨cm, hcm⟩ : ∃ z, z = cmdAt ys := ⟨_, rfl⟩
  rw [← hcm] at hE hlen
  have CM := Lib.hid hcm
  clear hs hcm
  by_cases hi : named cm
  · rw [if_neg (fun h => h hi)] at hE
    have h24 : 24 ≤ ys.length := by
      have : leastN cm = 24 := by rcases hi with rfl | rfl | rfl | rfl | rfl <;> decide
      omega
    have HE := Lib.hid hE
    have H24 := Lib.hid h24
    have hF := numAt_lt HR.out 8
    obtain ⟨F, hFe⟩ : ∃ F : Nat, numAt ys 8 4 = F := ⟨(numAt ys 8 4).toNat, by omega⟩
    have FE := Lib.hid hFe
    have hF2 : F < 4294967296 := by rw [hFe] at hF; omega
    have i1 : (F : Int) ≤ 9223372036854775807 := by omega
    have hw : IntKind.i64.wrap (F : Int) = F := IntWalk.i64_in _ (by omega)
    obtain ⟨T, hT⟩ : ∃ T, T = nameOf ys := ⟨_, rfl⟩
    have TE := Lib.hid hT
    have hTd : T = if ys.length < F then [] else textOf (ys.drop F) := by
      rw [hT]; unfold nameOf; rw [hFe]
      by_cases h : ys.length < F
      · rw [if_pos (by omega), if_pos h]
      · rw [if_neg (by omega), if_neg h]; rfl
    have TD := Lib.hid hTd
    rw [← hT] at HE
    have XF := Lib.hid (show nameErr ys = (if T = [] then 10 else 0) ∧ nameV ys = T by
      refine ⟨HE.out, ?_⟩
      unfold nameV
      rw [HE.out, ← hT]
      by_cases h : T = []
      · rw [if_pos h, if_neg (by decide), h]
      · rw [if_neg h, if_pos rfl])
    obtain ⟨E, hEE⟩ : ∃ E : Int, E = if T = [] then 10 else 0 := ⟨_, rfl⟩
    rw [XF.out.1, XF.out.2, ← hEE]
    have EE := Lib.hid hEE
    clear hEE
    clear hE h24 hF hFe hT hTd hlen HE
    have hte : ∀ t : List Int, (strOfNums t).toList.isEmpty = decide (t = []) := fun t => by
      rw [Lib.strOfNums_toList]
      cases t <;> simp [Lib.bytesOf]
    have TEQ := Lib.hid hte
    clear hte
    rcases hi with rfl | rfl | rfl | rfl | rfl
    all_goals
      go_enter Try.func35, Try.ntmps35
      go_wp2_with fail
      refine OP.out.mono ?_
      rintro e w1 ⟨_, hgood, hg⟩
      obtain ⟨a, hi, rfl, hp⟩ := hgood SH.out
      have G1 := Lib.hid hg
      have P1 := Lib.hid hp
      rw [← CM.out]
      clear hgood hg hp
      go_wp2_with fail
      refine (pen_num P1.out 4 (.inr (.inr (.inl rfl))) (by have := H24.out; omega)).mono ?_
      rintro e w2 ⟨rfl, hp, hg⟩
      rw [show numOf false ((ys.drop 8).take 4) = F from FE.out]
      have P2 := Lib.hid hp
      have G2 := Lib.hid (grown_new G1.out hg P1.out.lw)
      clear hp hg
      by_cases hlF : ys.length < F
      · have hTn := TD.out
        rw [if_pos hlF] at hTn
        go_wp2_with fail
        refine (pen_seek_no P2.out F hlF).mono ?_
        rintro e w3 ⟨rfl, hp, hg⟩
        have P3 := Lib.hid hp
        have G3 := Lib.hid (grown_new G2.out hg P1.out.lw)
        clear hp hg
        go_wp2_with fail
        refine (pen_text P3.out 255).mono ?_
        rintro e w4 ⟨rfl, hg⟩
        have G4 := Lib.hid (grown_new G3.out hg P1.out.lw)
        clear hg
        rw [if_neg (by simp)]
        have te : (strOfNums []).toList.isEmpty = true := by rw [TEQ.out]; rfl
        have TN := Lib.hid hTn
        clear hTn
        go_wp2
        go_ret2
        exact ⟨by rw [EE.out, TN.out]; rfl, G4.out⟩
      · have hTn := TD.out
        rw [if_neg hlF] at hTn
        go_wp2_with fail
        refine (pen_seek P2.out F (by omega)).mono ?_
        rintro e w3 ⟨rfl, hp, hg⟩
        have P3 := Lib.hid hp
        have G3 := Lib.hid (grown_new G2.out hg P1.out.lw)
        clear hp hg
        go_wp2_with fail
        refine (pen_text P3.out 255).mono ?_
        rintro e w4 ⟨rfl, hg⟩
        have G4 := Lib.hid (grown_new G3.out hg P1.out.lw)
        clear hg
        have hX : (if false = false ∧ (pre (ys.drop F)).length < (ys.drop F).length ∧ (pre (ys.drop F)).length ≤ 255 then pre (ys.drop F) else []) = T := by
          rw [hTn]; unfold textOf; simp
        rw [hX]
        clear hX hTn
        by_cases hT0 : T = []
        · have te : (strOfNums T).toList.isEmpty = true := by rw [TEQ.out, decide_eq_true hT0]
          have HT := Lib.hid hT0
          clear hT0
          go_wp2
          go_ret2
          exact ⟨by rw [EE.out, HT.out]; rfl, G4.out⟩
        · have te : (strOfNums T).toList.isEmpty = false := by rw [TEQ.out, decide_eq_false hT0]
          have HT := Lib.hid hT0
          clear hT0
          go_wp2
          go_ret2
          exact ⟨by rw [EE.out, if_neg HT.out]; rfl, G4.out⟩
  · rw [if_pos hi] at hE
    have b1 : (cm == 13) = false := by simpa using fun h => hi (.inl h)
    have b2 : (cm == 12) = false := by simpa using fun h => hi (.inr (.inl h))
    have b3 : (cm == 2147483672) = false := by simpa using fun h => hi (.inr (.inr (.inl h)))
    have b4 : (cm == 2147483679) = false := by simpa using fun h => hi (.inr (.inr (.inr (.inl h))))
    have b5 : (cm == 2147483683) = false := by simpa using fun h => hi (.inr (.inr (.inr (.inr h))))
    have XF := Lib.hid (show nameErr ys = 7 ∧ nameV ys = [] from ⟨hE, by unfold nameV; rw [hE]; rfl⟩)
    rw [XF.out.1, XF.out.2]
    clear hE hi hlen
    go_enter Try.func35, Try.ntmps35
    go_wp2_with fail
    refine OP.out.mono ?_
    rintro e w1 ⟨_, hgood, hg⟩
    obtain ⟨a, hi, rfl, hp⟩ := hgood SH.out
    have G1 := Lib.hid hg
    rw [← CM.out]
    clear hgood hg hp
    go_wp2
    go_ret2
    exact ⟨rfl, G1.out⟩
end Go.Proofs.Ythdppaooemdmaaa
