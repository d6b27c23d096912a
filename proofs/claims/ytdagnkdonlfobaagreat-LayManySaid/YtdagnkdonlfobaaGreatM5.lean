import Derived.Test.YtdagnkdonlfobaaGreatM4
import Derived.Lib.SmallJoins
import Derived.IntWalk
import Derived.Deep.Cut
import Derived.Deep.CutRange
import Derived.Test.YtdagnkdonlfobaaGreatM3
import Derived.Test.YtdagnkdonlfobaaGreatM2
import Derived.WalkArith
import Derived.Maps.Own
import Derived.Maps.OwnOps
import Derived.Maps.OwnSet
import Derived.Maps.Views
/- The command at a cursor's place: the program's take. No condition. -/
namespace Go.Proofs.YtdagnkdonlfobaaGreat
open Go.RowKit
variable {w w' : World}

section
variable {lo hi a : Nat} {xs : List Int} {p : Nat} {big bad : Bool}
/-- Bytes that can be taken: a row of their own. -/
theorem pen_bytes (h : Pen w lo hi a xs p big false) (n : Nat) (hn : p + n ≤ xs.length) :
    Calls Tryz.prog 189 #[.pointer (some ⟨a, 0, none⟩), .int .i64 n] w fun e w' =>
      ∃ q c, e = .returned (.slice q n c) ∧ w'.ownsRow w.heap.size 5 1 (.slice q n c) n (((xs.drop p).take n).map (Value.int .u8)) ∧ Pen w' lo hi a xs (p + n) big false ∧ w.grownBy w' (some a) := by
  obtain ⟨⟨base, q, c, hc, hl, ho⟩, h1, h2, h3⟩ := h
  have T := Lib.hid (take_ok hc n hn)
  have hlen : ((xs.drop p).take n).length = n := by simp; omega
  have L := Lib.hid hlen
  have hbig := hc.big
  generalize (xs.drop p).take n = ys at *
  have H := Lib.hid (And.intro hl ho)
  clear hlen hc hl ho
  go_enter Tryz.func189, Tryz.ntmps189
  go_wp2_with fail
  refine T.out.mono ?_
  rintro e w1 ⟨⟨q', rfl, hb, hn1⟩, hc, hg⟩
  have hcl := clone_any hb (by rw [L.out]; omega)
  rw [L.out] at hcl
  have K := Lib.hid hcl
  have GS := Lib.hid hg.size
  clear hcl
  go_wp2_with fail
  refine K.out.mono ?_
  rintro e w2 ⟨⟨q2, c2, rfl, hown, hn2⟩, hbel⟩
  have hc2 := hc.kept (grown_below hbel none) (by simp) (by cases (Value.slice q xs.length c).ownBlock <;> simp)
  have hg2 := grown_trans hg (grown_below hbel (some a))
  have O2 := Lib.hid (Go.Joins.ownsRow_le hown GS.out)
  have P2 := Lib.hid (show Pen w2 lo hi a xs (p + n) big false from ⟨⟨_, _, _, hc2, H.out.1, H.out.2⟩, h1, h2, Nat.le_trans h3 hg2.size⟩)
  have G2 := Lib.hid hg2
  clear hn1 hn2 hown hc2 hg2 hc hg hbel
  go_wp2
  go_ret
  exact ⟨_, _, rfl, O2.out, P2.out, G2.out⟩
theorem pen_bytes_no (h : Pen w lo hi a xs p big bad) (n : Int) (hn : bad = true ∨ n < 0 ∨ (xs.length : Int) - p < n) :
    Calls Tryz.prog 189 #[.pointer (some ⟨a, 0, none⟩), .int .i64 n] w fun e w' => e = .returned (.slice none 0 0) ∧ Pen w' lo hi a xs p big true ∧ w.grownBy w' (some a) := by
  obtain ⟨⟨base, q, c, hc, hl, ho⟩, h1, h2, h3⟩ := h
  refine (cbytes_no hc n hn).mono ?_
  rintro e w' ⟨rfl, hc', hg⟩
  exact ⟨rfl, ⟨⟨_, _, _, hc', hl, ho⟩, h1, h2, Nat.le_trans h3 hg.size⟩, hg⟩
theorem pen_fail (h : Pen w lo hi a xs p big bad) :
    Calls Tryz.prog 186 #[.pointer (some ⟨a, 0, none⟩)] w fun e w' => e = .returned (.tuple #[]) ∧ Pen w' lo hi a xs p big true ∧ w.grownBy w' (some a) := by
  obtain ⟨⟨base, q, c, hc, hl, ho⟩, h1, h2, h3⟩ := h
  refine (fail_any hc).mono ?_
  rintro e w' ⟨rfl, hc', hg⟩
  exact ⟨rfl, ⟨⟨_, _, _, hc', hl, ho⟩, h1, h2, Nat.le_trans h3 hg.size⟩, hg⟩
theorem pen_seek_bad (h : Pen w lo hi a xs p big true) (n : Int) :
    Calls Tryz.prog 182 #[.pointer (some ⟨a, 0, none⟩), .int .i64 n] w fun e w' => e = .returned (.tuple #[]) ∧ w = w' := by
  obtain ⟨⟨base, q, c, hc, hl, ho⟩, h1, h2, h3⟩ := h
  exact seek_bad hc n
end

theorem CmAt.fz {g : Nat} {m : Cm} (h : CmAt w g m) (i : Nat) : w.frozen? ⟨g, i, none⟩ = false := free_of h
/-- Is there a command at a place? How many bytes has it? -/
def szN (xs : List Int) (p : Nat) : Int := leN ((xs.drop (p + 4)).take 4)
def okN (xs : List Int) (p : Nat) : Prop := p + 8 ≤ xs.length ∧ 8 ≤ szN xs p ∧ szN xs p % 8 = 0 ∧ p + szN xs p ≤ xs.length
theorem may_of_ok {xs : List Int} {p k : Nat} (hk : szN xs p = k) (h : okN xs p) : mayB (leN ((xs.drop p).take 4)) ((xs.drop p).take k) = true := by
  obtain ⟨h1, h2, h3, h4⟩ := h
  have hl : ((xs.drop p).take k).length = k := by rw [List.length_take, List.length_drop]; omega
  unfold mayB
  refine decide_eq_true ⟨by omega, by omega, ?_, ?_⟩
  · rw [List.take_take, Nat.min_eq_left (by omega)]
  · rw [List.drop_take, List.take_take, Nat.min_eq_left (by omega), List.drop_drop, hl, ← hk]
    rfl
theorem may_not {cmd : Int} {xs : List Int} {p k : Nat} (hx : p + 8 ≤ xs.length) (hk : szN xs p = k) (hn : p + k ≤ xs.length) (h : ¬ okN xs p) : mayB cmd ((xs.drop p).take k) = false := by
  have hl : ((xs.drop p).take k).length = k := by rw [List.length_take, List.length_drop]; omega
  unfold mayB
  refine decide_eq_false fun ⟨a1, a2, _, _⟩ => h ⟨hx, by omega, by omega, by omega⟩
theorem may_nil (cmd : Int) : mayB cmd [] = false := by
  unfold mayB
  exact decide_eq_false fun h => by simp at h

/-- What take tells: the command, where there is one that may be. -/
structure TkOut (w w' : World) (lo hi a : Nat) (xs : List Int) (p : Nat) (e : Ending) : Prop where
  yes : okN xs p → ∃ g c, e = .returned (.agg #[.int .u32 (leN ((xs.drop p).take 4)), .slice (some ⟨g, 0, none⟩) (szN xs p).toNat c]) ∧ OwnM w' w.heap.size g (szN xs p).toNat c ((xs.drop p).take (szN xs p).toNat) ∧ Pen w' lo hi a xs (p + (szN xs p).toNat) false false
  no : ¬ okN xs p → ∃ cmd q n c p', e = .returned (.agg #[.int .u32 cmd, .slice q n c]) ∧ Pen w' lo hi a xs p' false true
  grown : w.grownBy w' (some a)

theorem results_cm1 {fn : Func} {p : Tmp} (hr : fn.results = #[.cell p 109]) {tmps : Array Value} {g : Nat} {m : Cm} (hp : tmps.getD p undef = .pointer (some ⟨g, 0, none⟩)) (h : CmAt w g m) :
    (results fn tmps).run Tryz.prog w = .ok m.v w := by
  have e : (asAddr (.pointer (some ⟨g, 0, none⟩)) : Sem Addr).run Tryz.prog w = .ok ⟨g, 0, none⟩ w := rfl
  simp only [Array.getD_eq_getD_getElem?] at hp
  simp only [results, hr]
  simp [Sem.run_bind, Result.andThen, hp, e, load_cm h]
set_option maxHeartbeats 1600000 in
set_option maxRecDepth 20000 in
theorem takec_any {lo hi a : Nat} {xs : List Int} {p : Nat} (h : Pen w lo hi a xs p false false) :
    Calls Tryz.prog 161 #[.pointer (some ⟨a, 0, none⟩)] w fun e w' => TkOut w w' lo hi a xs p e := by
  have Z0 : CmAt (w.alloc (.cells #[.int .u32 0, .slice none 0 0] 109)) w.heap.size Cm.zero := CmAt.new w Cm.zero
  have g0 := grown1 w (.cells #[.int .u32 0, .slice none 0 0] 109)
  have P0 := Lib.hid (h.same g0)
  have ZZ := Lib.hid Z0
  have G0 := Lib.hid g0
  have hsz := h.sz
  have hup := h.up
  have hle := h.le
  have hsm := h.small
  clear Z0 g0 h
  go_enter Tryz.func161, Tryz.ntmps161
  go_wp2_with fail
  refine (pen_at P0.out).mono ?_
  rintro e w1 ⟨rfl, rfl⟩
  by_cases hx : p + 8 ≤ xs.length
  · have HX := Lib.hid hx
    have hV0 := leN4_bd hsm p
    obtain ⟨V0, hv0⟩ : ∃ V, V = leN ((xs.drop p).take 4) := ⟨_, rfl⟩
    have V0E := Lib.hid hv0
    have N0 := Lib.hid (show numOf false ((xs.drop p).take 4) = V0 by rw [hv0]; rfl)
    rw [← hv0] at hV0
    clear hv0
    have hV1 : 0 ≤ szN xs p ∧ szN xs p < 4294967296 := leN4_bd hsm (p + 4)
    obtain ⟨k, hk⟩ := Int.eq_ofNat_of_zero_le hV1.1
    have N1 := Lib.hid (show numOf false ((xs.drop (p + 4)).take 4) = (k : Int) by rw [← hk]; rfl)
    have SK := Lib.hid hk
    rw [hk] at hV1
    have v0 : IntKind.i64.wrap (k : Int) = k := IntWalk.i64_in _ (by omega)
    clear hk
    have u0 : V0 % 4294967296 = V0 := by omega
    have u1 : IntKind.u32.wrap V0 = V0 := by rw [IntKind.wrap_u32]; exact u0
    go_wp2_with fail
    refine (pen_num P0.out 4 (.inr (.inr (.inl rfl))) (by omega)).mono ?_
    rintro e w1 ⟨rfl, hp, hg⟩
    rw [N0.out]
    have Z1 := Lib.hid (ZZ.out.kept hg (by intro e; injection e with e; omega))
    have gm := grown1 w1 (.cells #[.int .u32 V0, .slice none 0 0] 109)
    have P1 := Lib.hid (hp.same gm)
    have Z2 := Lib.hid (Z1.out.grown gm)
    have ZO := Lib.hid (CmAt.new w1 ⟨V0, none, 0, []⟩)
    have S1 := Lib.hid (show w.heap.size < w1.heap.size by have := hg.size; simp at this; omega)
    have GA := Lib.hid (grown_trans (grown_any G0.out (some a)) (grown_trans hg (grown_any gm (some a))))
    clear hp hg gm u0 u1
    go_wp2_with fail
    refine (pen_num P1.out 4 (.inr (.inr (.inl rfl))) (by omega)).mono ?_
    rintro e w2 ⟨rfl, hp, hg⟩
    rw [N1.out]
    have Z3 := Lib.hid (Z2.out.kept hg (by intro e; injection e with e; omega))
    have ZO2 := Lib.hid (ZO.out.kept hg (by intro e; injection e with e; have := S1.out; omega))
    have GA2 := Lib.hid (grown_trans GA.out hg)
    have P2 := Lib.hid hp
    clear hp hg
    go_wp2_with fail
    refine (pen_seek P2.out p (by omega)).mono ?_
    rintro e w3 ⟨rfl, hp, hg⟩
    have Z4 := Lib.hid (Z3.out.kept hg (by intro e; injection e with e; omega))
    have ZO3 := Lib.hid (ZO2.out.kept hg (by intro e; injection e with e; have := S1.out; omega))
    have GA3 := Lib.hid (grown_trans GA2.out hg)
    have P3 := Lib.hid hp
    clear hp hg
    by_cases hfit : p + k ≤ xs.length
    · have HKL := Lib.hid (show ((xs.drop p).take k).length = k by rw [List.length_take, List.length_drop]; omega)
      go_wp2_with fail
      refine (pen_bytes P3.out k hfit).mono ?_
      rintro e w4 ⟨q4, c4, rfl, hown, hp, hg⟩
      have Z5 := Lib.hid (Z4.out.kept hg (by intro e; injection e with e; omega))
      have ZO4 := Lib.hid (ZO3.out.kept hg (by intro e; injection e with e; have := S1.out; omega))
      have GA4 := Lib.hid (grown_trans GA3.out hg)
      have P4 := Lib.hid hp
      have OWN := Lib.hid hown
      have hcc : k ≤ c4 ∧ c4 ≤ 9223372036854775807 := by
        rcases hown.2 with ⟨e, e0⟩ | ⟨g, cap, cur, hv, _, _, h1, h2, _⟩
        · injection e with _ _ e3; omega
        · injection hv with _ _ e3; subst e3; unfold maxLen at h2; omega
      have BYS := Lib.hid (IsBytes.of_own HKL.out hown)
      have OWLT := Lib.hid (fun b (hb : (Value.slice q4 k c4).ownBlock = some b) => (show w.heap.size < b by
        have h0 := (hown.lt b hb).1
        have h1 := lt_of_block ZO3.out
        have h2 := S1.out
        omega))
      clear hp hg hown
      have olt := lt_of_block ZO4.out
      have gS := grown_setCell (i := 1) (grown_refl w4 (some w1.heap.size)) (.slice q4 k c4)
      have ZO5 : CmAt (w4.setCell ⟨w1.heap.size, 1, none⟩ (.slice q4 k c4)) w1.heap.size ⟨V0, q4, c4, (xs.drop p).take k⟩ := by
        unfold CmAt
        rw [heap_setCell_same w4 _ 1 _ _ _ ZO4.out]
        simp only [HKL.out]
        rfl
      have Z6 := Z5.out.kept gS (by intro e; injection e with e; have := S1.out; omega)
      have P5 := P4.out.kept gS (.inr (by have := S1.out; omega))
      have B5 := BYS.out.kept gS (fun b hb e => by
        injection e with e
        have h0 := (OWN.out.lt b.block (by rw [hb]; rfl)).1
        have h1 := lt_of_block ZO3.out
        omega)
      have MY := Lib.hid (may_any (w := w4.setCell ⟨w1.heap.size, 1, none⟩ (.slice q4 k c4)) ⟨V0, q4, c4, (xs.drop p).take k⟩ ⟨hV0, fun x hx => hsm x (List.mem_of_mem_drop (List.mem_of_mem_take hx)), by rw [HKL.out]; exact hcc.1, hcc.2⟩ B5)
      unfold Cm.v at MY
      simp only [HKL.out] at MY
      have GA5 := Lib.hid (grown_app GA4.out gS (.inr (Nat.le_of_lt S1.out)))
      have GSS := Lib.hid gS
      have o0 := ZO4.out.c0
      have o1 := ZO4.out.c1
      have of1 : w4.frozen? ⟨w1.heap.size, 1, none⟩ = false := free_of ZO4.out
      have ZO5 := Lib.hid ZO5
      have Z6 := Lib.hid Z6
      have P5 := Lib.hid P5
      clear gS B5
      go_upto_region 6 with fail
      clear o0 o1 of1
      have o0 := ZO5.out.c0
      have o1 : (w4.setCell ⟨w1.heap.size, 1, none⟩ (.slice q4 k c4)).cell? ⟨w1.heap.size, 1, none⟩ = some (.slice q4 k c4) := by
        have := ZO5.out.c1
        simp only [HKL.out] at this
        exact this
      by_cases hok : okN xs p
      · have OKK := Lib.hid hok
        have MYES := Lib.hid (show mayB V0 ((xs.drop p).take k) = true by rw [V0E.out]; exact may_of_ok SK.out hok)
        have hpos : 0 < k := by have := hok.2.1; rw [SK.out] at this; omega
        rw [MYES.out] at MY
        obtain ⟨g4, hg4, hO4⟩ := OwnM.of_own (by omega) HKL.out OWN.out
        subst hg4
        have GLO := Lib.hid (show w.heap.size < g4 from by have := hO4.lo; have := lt_of_block ZO3.out; have := S1.out; omega)
        have O5 := hO4.kept GSS.out (by intro e; injection e with e; have := hO4.lo; have := lt_of_block ZO3.out; omega)
        have OW5 := Lib.hid (O5.mono (show w.heap.size ≤ w3.heap.size from GA3.out.size))
        clear hok hpos hO4 O5
        go_wp2_with fail
        refine MY.out.mono ?_
        rintro e w5 ⟨rfl, hg⟩
        have ZF := Lib.hid (Z6.out.grown hg)
        have ZOF := Lib.hid (ZO5.out.grown hg)
        have PF := Lib.hid (P5.out.same hg)
        have GF := Lib.hid (grown_trans GA5.out (grown_any hg (some a)))
        have OF := Lib.hid ((OW5.out.grown hg).kept (grown_put2 (grown_refl w5 (some w.heap.size)) (.int .u32 V0) (.slice (some ⟨g4, 0, none⟩) k c4)) (by intro e; injection e with e; have := GLO.out; omega))
        clear hg o0 o1
        have x0 := ZF.out.c0
        have x1 := ZF.out.c1
        have y0 := ZOF.out.c0
        have z0 := ZF.out.fz 0
        have z1 := ZF.out.fz 1
        have zl := lt_of_block ZF.out
        have y1 : w5.cell? ⟨w1.heap.size, 1, none⟩ = some (Value.slice (some ⟨g4, 0, none⟩) k c4) := by have := ZOF.out.c1; simp only [HKL.out] at this; exact this
        go_wp2
        have hP := ZF.out.put ⟨V0, (some ⟨g4, 0, none⟩), c4, (xs.drop p).take k⟩
        refine bodyPost_ret (results_cm1 (m := ⟨V0, (some ⟨g4, 0, none⟩), c4, (xs.drop p).take k⟩) rfl rfl (by simpa only [HKL.out] using hP)) rfl ?_
        unfold Cm.v
        simp only [HKL.out]
        exact ⟨fun _ => ⟨_, _, by rw [SK.out, ← V0E.out]; rfl, by rw [SK.out]; exact OF.out, by rw [SK.out]; exact PF.out.kept (grown_put2 (grown_refl _ (some w.heap.size)) _ _) (.inr hsz)⟩, fun h => absurd OKK.out h, grown_app GF.out (grown_put2 (grown_refl _ (some w.heap.size)) _ _) (.inr (Nat.le_refl _))⟩
      · have NOK := Lib.hid hok
        have MNO := Lib.hid (show mayB V0 ((xs.drop p).take k) = false from may_not HX.out SK.out hfit hok)
        clear hok
        rw [MNO.out] at MY
        go_wp2_with fail
        refine MY.out.mono ?_
        rintro e w5 ⟨rfl, hg⟩
        have Z8 := Lib.hid (Z6.out.grown hg)
        have ZO8 := Lib.hid (ZO5.out.grown hg)
        have P8 := Lib.hid (P5.out.same hg)
        have GA8 := Lib.hid (grown_trans GA5.out (grown_any hg (some a)))
        clear hg o0 o1
        go_wp2_with fail
        refine (pen_fail P8.out).mono ?_
        rintro e w6 ⟨rfl, hp, hg⟩
        have ZF := Lib.hid (Z8.out.kept hg (by intro e; injection e with e; omega))
        have ZOF := Lib.hid (ZO8.out.kept hg (by intro e; injection e with e; have := S1.out; omega))
        have PF := Lib.hid hp
        have GF := Lib.hid (grown_trans GA8.out hg)
        clear hp hg
        have x0 := ZF.out.c0
        have x1 := ZF.out.c1
        have y0 := ZOF.out.c0
        have z0 := ZF.out.fz 0
        have z1 := ZF.out.fz 1
        have zl := lt_of_block ZF.out
        have y1 : w6.cell? ⟨w1.heap.size, 1, none⟩ = some (Value.slice q4 k c4) := by have := ZOF.out.c1; simp only [HKL.out] at this; exact this
        go_wp2
        have hP := ZF.out.put ⟨V0, q4, c4, (xs.drop p).take k⟩
        refine bodyPost_ret (results_cm1 (m := ⟨V0, q4, c4, (xs.drop p).take k⟩) rfl rfl (by simpa only [HKL.out] using hP)) rfl ?_
        unfold Cm.v
        simp only [HKL.out]
        exact ⟨fun h => absurd h NOK.out, fun _ => ⟨_, _, _, _, _, rfl, PF.out.kept (grown_put2 (grown_refl _ (some w.heap.size)) _ _) (.inr hsz)⟩, grown_app GF.out (grown_put2 (grown_refl _ (some w.heap.size)) _ _) (.inr (Nat.le_refl _))⟩
    · have NOK := Lib.hid (show ¬ okN xs p from fun h => by have := h.2.2.2; rw [SK.out] at this; omega)
      have HKL := Lib.hid (show ([] : List Int).length = 0 from rfl)
      go_wp2_with fail
      refine (pen_bytes_no P3.out (k : Int) (.inr (.inr (by omega)))).mono ?_
      rintro e w4 ⟨rfl, hp, hg⟩
      have Z5 := Lib.hid (Z4.out.kept hg (by intro e; injection e with e; omega))
      have ZO4 := Lib.hid (ZO3.out.kept hg (by intro e; injection e with e; have := S1.out; omega))
      have GA4 := Lib.hid (grown_trans GA3.out hg)
      have P4 := Lib.hid hp
      clear hp hg
      have olt := lt_of_block ZO4.out
      have gS := grown_setCell (i := 1) (grown_refl w4 (some w1.heap.size)) (.slice none 0 0)
      have ZO5 : CmAt (w4.setCell ⟨w1.heap.size, 1, none⟩ (.slice none 0 0)) w1.heap.size ⟨V0, none, 0, []⟩ := by
        unfold CmAt
        rw [heap_setCell_same w4 _ 1 _ _ _ ZO4.out]
        simp only [HKL.out]
        rfl
      have Z6 := Z5.out.kept gS (by intro e; injection e with e; have := S1.out; omega)
      have P5 := P4.out.kept gS (.inr (by have := S1.out; omega))
      have B5 : IsBytes (w4.setCell ⟨w1.heap.size, 1, none⟩ (.slice none 0 0)) none 0 [] := IsBytes.nil
      have MNO := Lib.hid (may_nil V0)
      have MY := Lib.hid (may_any (w := w4.setCell ⟨w1.heap.size, 1, none⟩ (.slice none 0 0)) ⟨V0, none, 0, []⟩ ⟨hV0, fun x hx => (by cases hx), Nat.le_refl _, by show (0 : Nat) ≤ 9223372036854775807; omega⟩ B5)
      unfold Cm.v at MY
      simp only [HKL.out] at MY
      have GA5 := Lib.hid (grown_app GA4.out gS (.inr (Nat.le_of_lt S1.out)))
      have GSS := Lib.hid gS
      have o0 := ZO4.out.c0
      have o1 := ZO4.out.c1
      have of1 : w4.frozen? ⟨w1.heap.size, 1, none⟩ = false := free_of ZO4.out
      have ZO5 := Lib.hid ZO5
      have Z6 := Lib.hid Z6
      have P5 := Lib.hid P5
      clear gS B5
      go_upto_region 6 with fail
      clear o0 o1 of1
      have o0 := ZO5.out.c0
      have o1 : (w4.setCell ⟨w1.heap.size, 1, none⟩ (.slice none 0 0)).cell? ⟨w1.heap.size, 1, none⟩ = some (.slice none 0 0) := by
        have := ZO5.out.c1
        simp only [HKL.out] at this
        exact this
      rw [MNO.out] at MY
      go_wp2_with fail
      refine MY.out.mono ?_
      rintro e w5 ⟨rfl, hg⟩
      have Z8 := Lib.hid (Z6.out.grown hg)
      have ZO8 := Lib.hid (ZO5.out.grown hg)
      have P8 := Lib.hid (P5.out.same hg)
      have GA8 := Lib.hid (grown_trans GA5.out (grown_any hg (some a)))
      clear hg o0 o1
      go_wp2_with fail
      refine (pen_fail P8.out).mono ?_
      rintro e w6 ⟨rfl, hp, hg⟩
      have ZF := Lib.hid (Z8.out.kept hg (by intro e; injection e with e; omega))
      have ZOF := Lib.hid (ZO8.out.kept hg (by intro e; injection e with e; have := S1.out; omega))
      have PF := Lib.hid hp
      have GF := Lib.hid (grown_trans GA8.out hg)
      clear hp hg
      have x0 := ZF.out.c0
      have x1 := ZF.out.c1
      have y0 := ZOF.out.c0
      have y1 := ZOF.out.c1
      have z0 := ZF.out.fz 0
      have z1 := ZF.out.fz 1
      have zl := lt_of_block ZF.out
      go_wp2
      have hP := ZF.out.put ⟨V0, none, 0, []⟩
      refine bodyPost_ret (results_cm1 (m := ⟨V0, none, 0, []⟩) rfl rfl (by simpa only [HKL.out] using hP)) rfl ?_
      unfold Cm.v
      simp only [HKL.out]
      exact ⟨fun h => absurd h NOK.out, fun _ => ⟨_, _, _, _, _, rfl, PF.out.kept (grown_put2 (grown_refl _ (some w.heap.size)) _ _) (.inr hsz)⟩, grown_app GF.out (grown_put2 (grown_refl _ (some w.heap.size)) _ _) (.inr (Nat.le_refl _))⟩
  · have NOK := Lib.hid (show ¬ okN xs p from fun h => hx h.1)
    by_cases hx4 : p + 4 ≤ xs.length
    · have hV0 := leN4_bd hsm p
      obtain ⟨V0, hv0⟩ : ∃ V, V = leN ((xs.drop p).take 4) := ⟨_, rfl⟩
      have V0E := Lib.hid hv0
      have N0 := Lib.hid (show numOf false ((xs.drop p).take 4) = V0 by rw [hv0]; rfl)
      rw [← hv0] at hV0
      clear hv0
      have u0 : V0 % 4294967296 = V0 := by omega
      have u1 : IntKind.u32.wrap V0 = V0 := by rw [IntKind.wrap_u32]; exact u0
      go_wp2_with fail
      refine (pen_num P0.out 4 (.inr (.inr (.inl rfl))) (by omega)).mono ?_
      rintro e w1 ⟨rfl, hp, hg⟩
      rw [N0.out]
      have Z1 := Lib.hid (ZZ.out.kept hg (by intro e; injection e with e; omega))
      have gm := grown1 w1 (.cells #[.int .u32 V0, .slice none 0 0] 109)
      have P1 := Lib.hid (hp.same gm)
      have Z2 := Lib.hid (Z1.out.grown gm)
      have ZO := Lib.hid (CmAt.new w1 ⟨V0, none, 0, []⟩)
      have S1 := Lib.hid (show w.heap.size < w1.heap.size by have := hg.size; simp at this; omega)
      have GA := Lib.hid (grown_trans (grown_any G0.out (some a)) (grown_trans hg (grown_any gm (some a))))
      clear hp hg gm u0 u1
      go_wp2_with fail
      refine (pen_num_no P1.out 4 (.inr (.inr (by omega)))).mono ?_
      rintro e w2 ⟨rfl, hp, hg⟩
      have Z3 := Lib.hid (Z2.out.kept hg (by intro e; injection e with e; omega))
      have ZO2 := Lib.hid (ZO.out.kept hg (by intro e; injection e with e; have := S1.out; omega))
      have GA2 := Lib.hid (grown_trans GA.out hg)
      have P2 := Lib.hid hp
      clear hp hg
      go_wp2_with fail
      refine (pen_seek_bad P2.out p).mono ?_
      rintro e w3 ⟨rfl, rfl⟩
      have Z4 := Z3
      have ZO3 := ZO2
      have GA3 := GA2
      have P3 := P2
      have HKL := Lib.hid (show ([] : List Int).length = 0 from rfl)
      go_wp2_with fail
      refine (pen_bytes_no P3.out 0 (.inl rfl)).mono ?_
      rintro e w4 ⟨rfl, hp, hg⟩
      have Z5 := Lib.hid (Z4.out.kept hg (by intro e; injection e with e; omega))
      have ZO4 := Lib.hid (ZO3.out.kept hg (by intro e; injection e with e; have := S1.out; omega))
      have GA4 := Lib.hid (grown_trans GA3.out hg)
      have P4 := Lib.hid hp
      clear hp hg
      have olt := lt_of_block ZO4.out
      have gS := grown_setCell (i := 1) (grown_refl w4 (some w1.heap.size)) (.slice none 0 0)
      have ZO5 : CmAt (w4.setCell ⟨w1.heap.size, 1, none⟩ (.slice none 0 0)) w1.heap.size ⟨V0, none, 0, []⟩ := by
        unfold CmAt
        rw [heap_setCell_same w4 _ 1 _ _ _ ZO4.out]
        simp only [HKL.out]
        rfl
      have Z6 := Z5.out.kept gS (by intro e; injection e with e; have := S1.out; omega)
      have P5 := P4.out.kept gS (.inr (by have := S1.out; omega))
      have B5 : IsBytes (w4.setCell ⟨w1.heap.size, 1, none⟩ (.slice none 0 0)) none 0 [] := IsBytes.nil
      have MNO := Lib.hid (may_nil V0)
      have MY := Lib.hid (may_any (w := w4.setCell ⟨w1.heap.size, 1, none⟩ (.slice none 0 0)) ⟨V0, none, 0, []⟩ ⟨hV0, fun x hx => (by cases hx), Nat.le_refl _, by show (0 : Nat) ≤ 9223372036854775807; omega⟩ B5)
      unfold Cm.v at MY
      simp only [HKL.out] at MY
      have GA5 := Lib.hid (grown_app GA4.out gS (.inr (Nat.le_of_lt S1.out)))
      have GSS := Lib.hid gS
      have o0 := ZO4.out.c0
      have o1 := ZO4.out.c1
      have of1 : w4.frozen? ⟨w1.heap.size, 1, none⟩ = false := free_of ZO4.out
      have ZO5 := Lib.hid ZO5
      have Z6 := Lib.hid Z6
      have P5 := Lib.hid P5
      clear gS B5
      go_upto_region 6 with fail
      clear o0 o1 of1
      have o0 := ZO5.out.c0
      have o1 : (w4.setCell ⟨w1.heap.size, 1, none⟩ (.slice none 0 0)).cell? ⟨w1.heap.size, 1, none⟩ = some (.slice none 0 0) := by
        have := ZO5.out.c1
        simp only [HKL.out] at this
        exact this
      rw [MNO.out] at MY
      go_wp2_with fail
      refine MY.out.mono ?_
      rintro e w5 ⟨rfl, hg⟩
      have Z8 := Lib.hid (Z6.out.grown hg)
      have ZO8 := Lib.hid (ZO5.out.grown hg)
      have P8 := Lib.hid (P5.out.same hg)
      have GA8 := Lib.hid (grown_trans GA5.out (grown_any hg (some a)))
      clear hg o0 o1
      go_wp2_with fail
      refine (pen_fail P8.out).mono ?_
      rintro e w6 ⟨rfl, hp, hg⟩
      have ZF := Lib.hid (Z8.out.kept hg (by intro e; injection e with e; omega))
      have ZOF := Lib.hid (ZO8.out.kept hg (by intro e; injection e with e; have := S1.out; omega))
      have PF := Lib.hid hp
      have GF := Lib.hid (grown_trans GA8.out hg)
      clear hp hg
      have x0 := ZF.out.c0
      have x1 := ZF.out.c1
      have y0 := ZOF.out.c0
      have y1 := ZOF.out.c1
      have z0 := ZF.out.fz 0
      have z1 := ZF.out.fz 1
      have zl := lt_of_block ZF.out
      go_wp2
      have hP := ZF.out.put ⟨V0, none, 0, []⟩
      refine bodyPost_ret (results_cm1 (m := ⟨V0, none, 0, []⟩) rfl rfl (by simpa only [HKL.out] using hP)) rfl ?_
      unfold Cm.v
      simp only [HKL.out]
      exact ⟨fun h => absurd h NOK.out, fun _ => ⟨_, _, _, _, _, rfl, PF.out.kept (grown_put2 (grown_refl _ (some w.heap.size)) _ _) (.inr hsz)⟩, grown_app GF.out (grown_put2 (grown_refl _ (some w.heap.size)) _ _) (.inr (Nat.le_refl _))⟩
    · go_wp2_with fail
      refine (pen_num_no P0.out 4 (.inr (.inr (by omega)))).mono ?_
      rintro e w1 ⟨rfl, hp, hg⟩
      have Z1 := Lib.hid (ZZ.out.kept hg (by intro e; injection e with e; omega))
      have gm := grown1 w1 (.cells #[.int .u32 0, .slice none 0 0] 109)
      have P1 := Lib.hid (hp.same gm)
      have Z2 := Lib.hid (Z1.out.grown gm)
      have ZO := Lib.hid (CmAt.new w1 ⟨0, none, 0, []⟩)
      have S1 := Lib.hid (show w.heap.size < w1.heap.size by have := hg.size; simp at this; omega)
      have GA := Lib.hid (grown_trans (grown_any G0.out (some a)) (grown_trans hg (grown_any gm (some a))))
      clear hp hg gm
      go_wp2_with fail
      refine (pen_num_no P1.out 4 (.inl rfl)).mono ?_
      rintro e w2 ⟨rfl, hp, hg⟩
      have Z3 := Lib.hid (Z2.out.kept hg (by intro e; injection e with e; omega))
      have ZO2 := Lib.hid (ZO.out.kept hg (by intro e; injection e with e; have := S1.out; omega))
      have GA2 := Lib.hid (grown_trans GA.out hg)
      have P2 := Lib.hid hp
      clear hp hg
      go_wp2_with fail
      refine (pen_seek_bad P2.out p).mono ?_
      rintro e w3 ⟨rfl, rfl⟩
      have Z4 := Z3
      have ZO3 := ZO2
      have GA3 := GA2
      have P3 := P2
      have HKL := Lib.hid (show ([] : List Int).length = 0 from rfl)
      go_wp2_with fail
      refine (pen_bytes_no P3.out 0 (.inl rfl)).mono ?_
      rintro e w4 ⟨rfl, hp, hg⟩
      have Z5 := Lib.hid (Z4.out.kept hg (by intro e; injection e with e; omega))
      have ZO4 := Lib.hid (ZO3.out.kept hg (by intro e; injection e with e; have := S1.out; omega))
      have GA4 := Lib.hid (grown_trans GA3.out hg)
      have P4 := Lib.hid hp
      clear hp hg
      have olt := lt_of_block ZO4.out
      have gS := grown_setCell (i := 1) (grown_refl w4 (some w1.heap.size)) (.slice none 0 0)
      have ZO5 : CmAt (w4.setCell ⟨w1.heap.size, 1, none⟩ (.slice none 0 0)) w1.heap.size ⟨0, none, 0, []⟩ := by
        unfold CmAt
        rw [heap_setCell_same w4 _ 1 _ _ _ ZO4.out]
        simp only [HKL.out]
        rfl
      have Z6 := Z5.out.kept gS (by intro e; injection e with e; have := S1.out; omega)
      have P5 := P4.out.kept gS (.inr (by have := S1.out; omega))
      have B5 : IsBytes (w4.setCell ⟨w1.heap.size, 1, none⟩ (.slice none 0 0)) none 0 [] := IsBytes.nil
      have MNO := Lib.hid (may_nil 0)
      have MY := Lib.hid (may_any (w := w4.setCell ⟨w1.heap.size, 1, none⟩ (.slice none 0 0)) ⟨0, none, 0, []⟩ ⟨(by decide : (0 : Int) ≤ 0 ∧ (0 : Int) < 4294967296), fun x hx => (by cases hx), Nat.le_refl _, by show (0 : Nat) ≤ 9223372036854775807; omega⟩ B5)
      unfold Cm.v at MY
      simp only [HKL.out] at MY
      have GA5 := Lib.hid (grown_app GA4.out gS (.inr (Nat.le_of_lt S1.out)))
      have GSS := Lib.hid gS
      have o0 := ZO4.out.c0
      have o1 := ZO4.out.c1
      have of1 : w4.frozen? ⟨w1.heap.size, 1, none⟩ = false := free_of ZO4.out
      have ZO5 := Lib.hid ZO5
      have Z6 := Lib.hid Z6
      have P5 := Lib.hid P5
      clear gS B5
      go_upto_region 6 with fail
      clear o0 o1 of1
      have o0 := ZO5.out.c0
      have o1 : (w4.setCell ⟨w1.heap.size, 1, none⟩ (.slice none 0 0)).cell? ⟨w1.heap.size, 1, none⟩ = some (.slice none 0 0) := by
        have := ZO5.out.c1
        simp only [HKL.out] at this
        exact this
      rw [MNO.out] at MY
      go_wp2_with fail
      refine MY.out.mono ?_
      rintro e w5 ⟨rfl, hg⟩
      have Z8 := Lib.hid (Z6.out.grown hg)
      have ZO8 := Lib.hid (ZO5.out.grown hg)
      have P8 := Lib.hid (P5.out.same hg)
      have GA8 := Lib.hid (grown_trans GA5.out (grown_any hg (some a)))
      clear hg o0 o1
      go_wp2_with fail
      refine (pen_fail P8.out).mono ?_
      rintro e w6 ⟨rfl, hp, hg⟩
      have ZF := Lib.hid (Z8.out.kept hg (by intro e; injection e with e; omega))
      have ZOF := Lib.hid (ZO8.out.kept hg (by intro e; injection e with e; have := S1.out; omega))
      have PF := Lib.hid hp
      have GF := Lib.hid (grown_trans GA8.out hg)
      clear hp hg
      have x0 := ZF.out.c0
      have x1 := ZF.out.c1
      have y0 := ZOF.out.c0
      have y1 := ZOF.out.c1
      have z0 := ZF.out.fz 0
      have z1 := ZF.out.fz 1
      have zl := lt_of_block ZF.out
      go_wp2
      have hP := ZF.out.put ⟨0, none, 0, []⟩
      refine bodyPost_ret (results_cm1 (m := ⟨0, none, 0, []⟩) rfl rfl (by simpa only [HKL.out] using hP)) rfl ?_
      unfold Cm.v
      simp only [HKL.out]
      exact ⟨fun h => absurd h NOK.out, fun _ => ⟨_, _, _, _, _, rfl, PF.out.kept (grown_put2 (grown_refl _ (some w.heap.size)) _ _) (.inr hsz)⟩, grown_app GF.out (grown_put2 (grown_refl _ (some w.heap.size)) _ _) (.inr (Nat.le_refl _))⟩
end Go.Proofs.YtdagnkdonlfobaaGreat

/- Which commands are known, and how many bytes each has at least: a map that the call makes. No condition. -/
namespace Go.Proofs.YtdagnkdonlfobaaGreat
open Go.RowKit Go.Maps
variable {w w' : World}

theorem u32keyed : Keyed Tryz.prog 35 := int_keyed Tryz.underlying35
theorem zeroInt (w : World) : (zeroValue 3).run Tryz.prog w = .ok (.int .i64 0) w := by kernel_rfl

/-- A map tells, of each number, this one. -/
def Tells (D : DataW Unit) (F : Int → Int) : Prop := IsMap D ∧ ∀ c, D.atKey (.int .u32 c) (.lit (.int .i64 0)) = .lit (.int .i64 (F c))
theorem Tells.start : Tells (.map []) (fun _ => 0) := ⟨⟨_, rfl⟩, fun _ => rfl⟩
theorem Tells.put {D : DataW Unit} {F : Int → Int} (h : Tells D F) (k v : Int) (hk : WideAt.IsKeyLit (.int .u32 k)) : Tells (D.put (.int .u32 k) (.lit (.int .i64 v))) (fun c => if c = k then v else F c) := by
  refine ⟨h.1.put _ _, fun c => ?_⟩
  show _ = DataW.lit (Lit.int .i64 (if c = k then v else F c))
  by_cases hc : c = k
  · subst hc
    rw [atKey_put_same h.1 hk, if_pos rfl]
  · rw [atKey_put_other (fun e => hc (by injection e)), h.2 c, if_neg hc]

/-- A map of what commands need. -/
def NeedsAt (w : World) (b : Nat) : Prop := ∃ n D, w.ownsMap Tryz.prog 35 (plainElem Tryz.prog 3) b n D ∧ Tells D leastN
set_option maxRecDepth 20000 in
theorem needs_any : Calls Tryz.prog 185 #[] w fun e w' => e = .returned (.map (some w.heap.size)) ∧ NeedsAt w' w.heap.size ∧ w.grownBy w' none := by
  have o0 := World.ownsMap_made w Tryz.prog 35 (plainElem (H := Unit) Tryz.prog 3)
  have t0 := Tells.start
  have g0 := grown1 w (.map #[] 0)
  obtain ⟨w1, r1, o1, h1⟩ := o0.update u32keyed Tryz.underlying262 (by unfold maxLen; omega) (keyOf_int_mk Tryz.underlying35 (a := 25) (by decide)) (plainElem_int Tryz.underlying3 (a := 72) (by decide))
  have t1 := t0.put 25 72 (by trivial)
  have g1 := grown_new g0 h1 (Nat.le_refl _)
  obtain ⟨w2, r2, o2, h2⟩ := o1.update u32keyed Tryz.underlying262 (by unfold maxLen; omega) (keyOf_int_mk Tryz.underlying35 (a := 13) (by decide)) (plainElem_int Tryz.underlying3 (a := 24) (by decide))
  have t2 := t1.put 13 24 (by trivial)
  have g2 := grown_new g1 h2 (Nat.le_refl _)
  obtain ⟨w3, r3, o3, h3⟩ := o2.update u32keyed Tryz.underlying262 (by unfold maxLen; omega) (keyOf_int_mk Tryz.underlying35 (a := 12) (by decide)) (plainElem_int Tryz.underlying3 (a := 24) (by decide))
  have t3 := t2.put 12 24 (by trivial)
  have g3 := grown_new g2 h3 (Nat.le_refl _)
  obtain ⟨w4, r4, o4, h4⟩ := o3.update u32keyed Tryz.underlying262 (by unfold maxLen; omega) (keyOf_int_mk Tryz.underlying35 (a := 2147483672) (by decide)) (plainElem_int Tryz.underlying3 (a := 24) (by decide))
  have t4 := t3.put 2147483672 24 (by trivial)
  have g4 := grown_new g3 h4 (Nat.le_refl _)
  obtain ⟨w5, r5, o5, h5⟩ := o4.update u32keyed Tryz.underlying262 (by unfold maxLen; omega) (keyOf_int_mk Tryz.underlying35 (a := 2147483679) (by decide)) (plainElem_int Tryz.underlying3 (a := 24) (by decide))
  have t5 := t4.put 2147483679 24 (by trivial)
  have g5 := grown_new g4 h5 (Nat.le_refl _)
  obtain ⟨w6, r6, o6, h6⟩ := o5.update u32keyed Tryz.underlying262 (by unfold maxLen; omega) (keyOf_int_mk Tryz.underlying35 (a := 2147483683) (by decide)) (plainElem_int Tryz.underlying3 (a := 24) (by decide))
  have t6 := t5.put 2147483683 24 (by trivial)
  have g6 := grown_new g5 h6 (Nat.le_refl _)
  obtain ⟨w7, r7, o7, h7⟩ := o6.update u32keyed Tryz.underlying262 (by unfold maxLen; omega) (keyOf_int_mk Tryz.underlying35 (a := 34) (by decide)) (plainElem_int Tryz.underlying3 (a := 48) (by decide))
  have t7 := t6.put 34 48 (by trivial)
  have g7 := grown_new g6 h7 (Nat.le_refl _)
  obtain ⟨w8, r8, o8, h8⟩ := o7.update u32keyed Tryz.underlying262 (by unfold maxLen; omega) (keyOf_int_mk Tryz.underlying35 (a := 2147483682) (by decide)) (plainElem_int Tryz.underlying3 (a := 48) (by decide))
  have t8 := t7.put 2147483682 48 (by trivial)
  have g8 := grown_new g7 h8 (Nat.le_refl _)
  obtain ⟨w9, r9, o9, h9⟩ := o8.update u32keyed Tryz.underlying262 (by unfold maxLen; omega) (keyOf_int_mk Tryz.underlying35 (a := 2147483699) (by decide)) (plainElem_int Tryz.underlying3 (a := 16) (by decide))
  have t9 := t8.put 2147483699 16 (by trivial)
  have g9 := grown_new g8 h9 (Nat.le_refl _)
  obtain ⟨w10, r10, o10, h10⟩ := o9.update u32keyed Tryz.underlying262 (by unfold maxLen; omega) (keyOf_int_mk Tryz.underlying35 (a := 2147483700) (by decide)) (plainElem_int Tryz.underlying3 (a := 16) (by decide))
  have t10 := t9.put 2147483700 16 (by trivial)
  have g10 := grown_new g9 h10 (Nat.le_refl _)
  obtain ⟨w11, r11, o11, h11⟩ := o10.update u32keyed Tryz.underlying262 (by unfold maxLen; omega) (keyOf_int_mk Tryz.underlying35 (a := 2) (by decide)) (plainElem_int Tryz.underlying3 (a := 24) (by decide))
  have t11 := t10.put 2 24 (by trivial)
  have g11 := grown_new g10 h11 (Nat.le_refl _)
  obtain ⟨w12, r12, o12, h12⟩ := o11.update u32keyed Tryz.underlying262 (by unfold maxLen; omega) (keyOf_int_mk Tryz.underlying35 (a := 2147483688) (by decide)) (plainElem_int Tryz.underlying3 (a := 24) (by decide))
  have t12 := t11.put 2147483688 24 (by trivial)
  have g12 := grown_new g11 h12 (Nat.le_refl _)
  clear h1 h2 h3 h4 h5 h6 h7 h8 h9 h10 h11 h12
  have HO := Lib.hid o12
  have HT := Lib.hid t12
  have HG := Lib.hid g12
  clear o0 o1 o2 o3 o4 o5 o6 o7 o8 o9 o10 o11 o12 t0 t1 t2 t3 t4 t5 t6 t7 t8 t9 t10 t11 t12 g0 g1 g2 g3 g4 g5 g6 g7 g8 g9 g10 g11 g12
  have hmm := @run_makeMap Tryz.prog
  go_enter Tryz.func185, Tryz.ntmps185
  go_wp2
  go_ret
  exact ⟨rfl, ⟨_, _, HO.out, HT.out⟩, HG.out⟩

theorem u32_wf {c : Int} (hc : 0 ≤ c ∧ c < 4294967296) : (Lit.int .u32 c).wf = true := WalkArith.wf_u32 (by omega)
def unlit : DataW Unit → Int
  | .lit (.int _ n) => n
  | _ => 0
theorem NeedsAt.look {b : Nat} (h : NeedsAt w b) {c : Int} (hc : 0 ≤ c ∧ c < 4294967296) : (Instr.lookup 262 (.map (some b)) (.int .u32 c) false).run Tryz.prog w = .ok (.int .i64 (leastN c)) w := by
  obtain ⟨n, D, ho, ht⟩ := h
  obtain ⟨x, hr, hx, _⟩ := ho.lookup_int u32keyed Tryz.underlying262 Tryz.underlying3 (zeroInt w) (keyOf_int_mk Tryz.underlying35 (a := c) (u32_wf hc))
  have hx' := congrArg unlit ((ht.2 c).symm.trans hx)
  rw [hr, show leastN c = x from hx']

/-- What a command's opening tells. -/
structure OpenOut (w w' : World) (ys : List Int) (e : Ending) : Prop where
  bad : shortB ys → e = .returned (.tuple #[.pointer none, .int .u32 0, .int .i64 3])
  good : ¬ shortB ys → ∃ a hi, e = .returned (.tuple #[.pointer (some ⟨a, 0, none⟩), .int .u32 (cmdAt ys), .int .i64 0]) ∧ Pen w' w.heap.size hi a ys 8 false false
  grown : w.grownBy w' none
theorem leN_take_bd {ys : List Int} (h : Small ys) (p n : Nat) : 0 ≤ leN ((ys.drop p).take n) := (leN_bd _ (fun x hx => h x (List.mem_of_mem_drop (List.mem_of_mem_take hx)))).1

set_option maxRecDepth 20000 in
theorem open_any (ys : List Int) (q : Option Addr) (c n : Nat) (h : IsBytes w q c ys) (hn : ys.length = n) (hb : n ≤ 140737488355328) (hr : Small ys) :
    Calls Tryz.prog 154 #[.slice q n c] w fun e w' => OpenOut w w' ys e := by
  have NW := Lib.hid (pen_new (w := w) h hn hb hr false)
  have ND := Lib.hid (fun w : World => needs_any (w := w))
  have HN := Lib.hid hn
  have hcm := numAt_lt hr 0
  obtain ⟨cm, hcm'⟩ : ∃ z, z = cmdAt ys := ⟨_, rfl⟩
  have hcz : numAt ys 0 4 = cm := hcm'.symm
  rw [hcz] at hcm
  have CM := Lib.hid hcm'
  clear h hr hcz hcm' hn
  by_cases h8 : n < 8
  · have SH := Lib.hid (show shortB ys from .inl (by rw [HN.out]; exact h8))
    go_enter Tryz.func154, Tryz.ntmps154
    go_wp2_with fail
    refine NW.out.mono ?_
    rintro e w1 ⟨a, rfl, hp, hbel⟩
    have P1 := Lib.hid hp
    have G1 := Lib.hid (grown_below hbel none)
    clear hp hbel
    go_wp2_with fail
    refine (pen_num_any P1.out 4 (.inr (.inr (.inl rfl)))).mono ?_
    rintro e w2 ⟨m, p2, bad2, rfl, hp, hg, ho⟩
    have P2 := Lib.hid hp
    have G2 := Lib.hid (grown_new G1.out hg P1.out.lw)
    have O2 := Lib.hid ho
    clear hp hg ho
    go_wp2_with fail
    refine (pen_num_any P2.out 4 (.inr (.inr (.inl rfl)))).mono ?_
    rintro e w3 ⟨m3, p3, bad3, rfl, hp, hg, ho⟩
    obtain rfl : bad3 = true := by
      rcases ho with h | ⟨rfl, h⟩
      · exact h
      · rcases O2.out with h' | ⟨_, h'⟩
        · cases h'
        · have := hp.le; rw [HN.out] at this; omega
    have P3 := Lib.hid hp
    have G3 := Lib.hid (grown_new G2.out hg P1.out.lw)
    clear hp hg ho
    go_wp2_with fail
    refine (pen_err P3.out).mono ?_
    rintro e w4 ⟨rfl, rfl⟩
    go_wp2
    go_ret3
    exact ⟨fun _ => rfl, fun h => absurd SH.out h, G3.out⟩
  · go_enter Tryz.func154, Tryz.ntmps154
    go_wp2_with fail
    refine NW.out.mono ?_
    rintro e w1 ⟨a, rfl, hp, hbel⟩
    have P1 := Lib.hid hp
    have G1 := Lib.hid (grown_below hbel none)
    clear hp hbel
    go_wp2_with fail
    refine (pen_num P1.out 4 (.inr (.inr (.inl rfl))) (by rw [HN.out]; omega)).mono ?_
    rintro e w2 ⟨rfl, hp, hg⟩
    have P2 := Lib.hid hp
    have G2 := Lib.hid (grown_new G1.out hg P1.out.lw)
    clear hp hg
    rw [show numOf false ((ys.drop 0).take 4) = cm from CM.out.symm]
    go_wp2_with fail
    refine (pen_num P2.out 4 (.inr (.inr (.inl rfl))) (by rw [HN.out]; omega)).mono ?_
    rintro e w3 ⟨rfl, hp, hg⟩
    have P3 := Lib.hid hp
    have G3 := Lib.hid (grown_new G2.out hg P1.out.lw)
    clear hp hg
    go_wp2_with fail
    refine (pen_err P3.out).mono ?_
    rintro e w4 ⟨rfl, rfl⟩
    go_wp2_with fail
    refine (ND.out w3).mono ?_
    rintro e w5 ⟨rfl, hN, hg⟩
    have hlook := hN.look hcm
    have P5 := Lib.hid (P3.out.same hg)
    have G5 := Lib.hid (grown_trans G3.out hg)
    clear hN hg
    by_cases hl : (n : Int) < leastN cm
    · have SH := Lib.hid (show shortB ys from .inr (by rw [HN.out, ← CM.out]; exact hl))
      have hd : decide ((n : Int) < leastN cm) = true := by simpa using hl
      obtain ⟨L, hL⟩ : ∃ L, leastN cm = L := ⟨_, rfl⟩
      rw [hL] at hlook hd
      clear hL hl
      go_wp2
      go_ret3
      exact ⟨fun _ => rfl, fun h => absurd SH.out h, G5.out⟩
    · have SH := Lib.hid (show ¬ shortB ys from fun h => by
        rcases h with h | h
        · rw [HN.out] at h; omega
        · rw [HN.out, ← CM.out] at h; exact hl h)
      have hd : decide ((n : Int) < leastN cm) = false := by simpa using hl
      obtain ⟨L, hL⟩ : ∃ L, leastN cm = L := ⟨_, rfl⟩
      rw [hL] at hlook hd
      clear hL hl
      go_wp2
      go_ret3
      exact ⟨fun h => absurd h SH.out, fun _ => ⟨a, _, by rw [← CM.out]; rfl, P5.out⟩, G5.out⟩
end Go.Proofs.YtdagnkdonlfobaaGreat
