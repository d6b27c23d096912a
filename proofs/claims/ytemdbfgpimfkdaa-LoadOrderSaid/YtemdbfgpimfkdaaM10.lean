import Derived.Test.YtemdbfgpimfkdaaM5
import Derived.Test.YtemdbfgpimfkdaaM4
import Derived.Test.YtemdbfgpimfkdaaM9
import Derived.WalkArith
import Derived.Maps.Own
import Derived.Maps.OwnOps
import Derived.Maps.OwnSet
import Derived.Maps.Views
/- Which commands are known, and how many bytes each has at least: a map that the call makes. No condition. -/
namespace Go.Proofs.Ytemdbfgpimfkdaa
open Go.RowKit Go.Maps
variable {w w' : World}

theorem u32keyed : Keyed Try.prog 25 := int_keyed Try.underlying25
theorem zeroInt (w : World) : (zeroValue 3).run Try.prog w = .ok (.int .i64 0) w := by kernel_rfl

/-- A map tells, of each number, this one. -/
def Tells (D : DataW Unit) (F : Int → Int) : Prop := IsMap D ∧ ∀ c, D.atKey (.int .u32 c) (.lit (.int .i64 0)) = .lit (.int .i64 (F c))
theorem Tells.start : Tells (.map []) (fun _ => 0) := ⟨⟨_, rfl⟩, fun _ => rfl⟩
theorem Tells.put {D : DataW Unit} {F : Int → Int} (h : Tells D F) (k v : Int) (hk : WideAt.IsKeyLit (.int .u32 k)) : Tells (D.put (.int .u32 k) (.lit (.int .i64 v))) (fun c => if c = k then v else F c) := by
  refine ⟨h.1.put _ _, fun c => ?_⟩
  show _ = DataW.lit (Lit.int .i64 (if c = k then v else F c))
  by_cases hc : c = k
  · subst hc
    rw [atKey_put_same h.1 hk, if_pos rfl]
  · rw [atKey_put_other (fun e => hc (by injection e)), h.2 c, if_neg hc]

/-- A map of what commands need. -/
def NeedsAt (w : World) (b : Nat) : Prop := ∃ n D, w.ownsMap Try.prog 25 (plainElem Try.prog 3) b n D ∧ Tells D leastN
set_option maxRecDepth 20000 in
theorem needs_any : Calls Try.prog 27 #[] w fun e w' => e = .returned (.map (some w.heap.size)) ∧ NeedsAt w' w.heap.size ∧ w.grownBy w' none := by
  have o0 := World.ownsMap_made w Try.prog 25 (plainElem (H := Unit) Try.prog 3)
  have t0 := Tells.start
  have g0 := grown1 w (.map #[] 0)
  obtain ⟨w1, r1, o1, h1⟩ := o0.update u32keyed Try.underlying86 (by unfold maxLen; omega) (keyOf_int_mk Try.underlying25 (a := 25) (by decide)) (plainElem_int Try.underlying3 (a := 72) (by decide))
  have t1 := t0.put 25 72 (by trivial)
  have g1 := grown_new g0 h1 (Nat.le_refl _)
  obtain ⟨w2, r2, o2, h2⟩ := o1.update u32keyed Try.underlying86 (by unfold maxLen; omega) (keyOf_int_mk Try.underlying25 (a := 13) (by decide)) (plainElem_int Try.underlying3 (a := 24) (by decide))
  have t2 := t1.put 13 24 (by trivial)
  have g2 := grown_new g1 h2 (Nat.le_refl _)
  obtain ⟨w3, r3, o3, h3⟩ := o2.update u32keyed Try.underlying86 (by unfold maxLen; omega) (keyOf_int_mk Try.underlying25 (a := 12) (by decide)) (plainElem_int Try.underlying3 (a := 24) (by decide))
  have t3 := t2.put 12 24 (by trivial)
  have g3 := grown_new g2 h3 (Nat.le_refl _)
  obtain ⟨w4, r4, o4, h4⟩ := o3.update u32keyed Try.underlying86 (by unfold maxLen; omega) (keyOf_int_mk Try.underlying25 (a := 2147483672) (by decide)) (plainElem_int Try.underlying3 (a := 24) (by decide))
  have t4 := t3.put 2147483672 24 (by trivial)
  have g4 := grown_new g3 h4 (Nat.le_refl _)
  obtain ⟨w5, r5, o5, h5⟩ := o4.update u32keyed Try.underlying86 (by unfold maxLen; omega) (keyOf_int_mk Try.underlying25 (a := 2147483679) (by decide)) (plainElem_int Try.underlying3 (a := 24) (by decide))
  have t5 := t4.put 2147483679 24 (by trivial)
  have g5 := grown_new g4 h5 (Nat.le_refl _)
  obtain ⟨w6, r6, o6, h6⟩ := o5.update u32keyed Try.underlying86 (by unfold maxLen; omega) (keyOf_int_mk Try.underlying25 (a := 2147483683) (by decide)) (plainElem_int Try.underlying3 (a := 24) (by decide))
  have t6 := t5.put 2147483683 24 (by trivial)
  have g6 := grown_new g5 h6 (Nat.le_refl _)
  obtain ⟨w7, r7, o7, h7⟩ := o6.update u32keyed Try.underlying86 (by unfold maxLen; omega) (keyOf_int_mk Try.underlying25 (a := 34) (by decide)) (plainElem_int Try.underlying3 (a := 48) (by decide))
  have t7 := t6.put 34 48 (by trivial)
  have g7 := grown_new g6 h7 (Nat.le_refl _)
  obtain ⟨w8, r8, o8, h8⟩ := o7.update u32keyed Try.underlying86 (by unfold maxLen; omega) (keyOf_int_mk Try.underlying25 (a := 2147483682) (by decide)) (plainElem_int Try.underlying3 (a := 48) (by decide))
  have t8 := t7.put 2147483682 48 (by trivial)
  have g8 := grown_new g7 h8 (Nat.le_refl _)
  obtain ⟨w9, r9, o9, h9⟩ := o8.update u32keyed Try.underlying86 (by unfold maxLen; omega) (keyOf_int_mk Try.underlying25 (a := 2147483699) (by decide)) (plainElem_int Try.underlying3 (a := 16) (by decide))
  have t9 := t8.put 2147483699 16 (by trivial)
  have g9 := grown_new g8 h9 (Nat.le_refl _)
  obtain ⟨w10, r10, o10, h10⟩ := o9.update u32keyed Try.underlying86 (by unfold maxLen; omega) (keyOf_int_mk Try.underlying25 (a := 2147483700) (by decide)) (plainElem_int Try.underlying3 (a := 16) (by decide))
  have t10 := t9.put 2147483700 16 (by trivial)
  have g10 := grown_new g9 h10 (Nat.le_refl _)
  obtain ⟨w11, r11, o11, h11⟩ := o10.update u32keyed Try.underlying86 (by unfold maxLen; omega) (keyOf_int_mk Try.underlying25 (a := 2) (by decide)) (plainElem_int Try.underlying3 (a := 24) (by decide))
  have t11 := t10.put 2 24 (by trivial)
  have g11 := grown_new g10 h11 (Nat.le_refl _)
  obtain ⟨w12, r12, o12, h12⟩ := o11.update u32keyed Try.underlying86 (by unfold maxLen; omega) (keyOf_int_mk Try.underlying25 (a := 2147483688) (by decide)) (plainElem_int Try.underlying3 (a := 24) (by decide))
  have t12 := t11.put 2147483688 24 (by trivial)
  have g12 := grown_new g11 h12 (Nat.le_refl _)
  clear h1 h2 h3 h4 h5 h6 h7 h8 h9 h10 h11 h12
  have HO := Lib.hid o12
  have HT := Lib.hid t12
  have HG := Lib.hid g12
  clear o0 o1 o2 o3 o4 o5 o6 o7 o8 o9 o10 o11 o12 t0 t1 t2 t3 t4 t5 t6 t7 t8 t9 t10 t11 t12 g0 g1 g2 g3 g4 g5 g6 g7 g8 g9 g10 g11 g12
  have hmm := @run_makeMap Try.prog
  go_enter Try.func27, Try.ntmps27
  go_wp2
  go_ret
  exact ⟨rfl, ⟨_, _, HO.out, HT.out⟩, HG.out⟩

theorem u32_wf {c : Int} (hc : 0 ≤ c ∧ c < 4294967296) : (Lit.int .u32 c).wf = true := WalkArith.wf_u32 (by omega)
def unlit : DataW Unit → Int
  | .lit (.int _ n) => n
  | _ => 0
theorem NeedsAt.look {b : Nat} (h : NeedsAt w b) {c : Int} (hc : 0 ≤ c ∧ c < 4294967296) : (Instr.lookup 86 (.map (some b)) (.int .u32 c) false).run Try.prog w = .ok (.int .i64 (leastN c)) w := by
  obtain ⟨n, D, ho, ht⟩ := h
  obtain ⟨x, hr, hx, _⟩ := ho.lookup_int u32keyed Try.underlying86 Try.underlying3 (zeroInt w) (keyOf_int_mk Try.underlying25 (a := c) (u32_wf hc))
  have hx' := congrArg unlit ((ht.2 c).symm.trans hx)
  rw [hr, show leastN c = x from hx']

/-- What a command's opening tells. -/
structure OpenOut (w w' : World) (ys : List Int) (e : Ending) : Prop where
  bad : shortB ys → e = .returned (.tuple #[.pointer none, .int .u32 0, .int .i64 3])
  good : ¬ shortB ys → ∃ a hi, e = .returned (.tuple #[.pointer (some ⟨a, 0, none⟩), .int .u32 (cmdAt ys), .int .i64 0]) ∧ Pen w' w.heap.size hi a ys 8 false false
  grown : w.grownBy w' none
theorem leN_take_bd {ys : List Int} (h : Small ys) (p n : Nat) : 0 ≤ leN ((ys.drop p).take n) := (leN_bd _ (fun x hx => h x (List.mem_of_mem_drop (List.mem_of_mem_take hx)))).1

set_option maxRecDepth 20000 in
theorem open_any (ys : List Int) (q : Option Addr) (c n : Nat) (h : IsBytes w q c ys) (hn : ys.length = n) (hb : n ≤ 140737488355328) (hr : Small ys) :
    Calls Try.prog 22 #[.slice q n c] w fun e w' => OpenOut w w' ys e := by
  have NW := Lib.hid (pen_new (w := w) h hn hb hr false)
  have ND := Lib.hid (fun w : World => needs_any (w := w))
  have HN := Lib.hid hn
  have hcm := numAt_lt hr 0
  obtain ⟨cm, hcm'⟩ : ∃ z, z = cmdAt ys := ⟨_, rfl⟩
  have hcz : numAt ys 0 4 = cm := hcm'.symm
  rw [hcz] at hcm
  have CM := Lib.hid hcm'
  clear h hr hcz hcm' hn
  by_cases h8 : n < 8
  · have SH := Lib.hid (show shortB ys from .inl (by rw [HN.out]; exact h8))
    go_enter Try.func22, Try.ntmps22
    go_wp2_with fail
    refine NW.out.mono ?_
    rintro e w1 ⟨a, rfl, hp, hbel⟩
    have P1 := Lib.hid hp
    have G1 := Lib.hid (grown_below hbel none)
    clear hp hbel
    go_wp2_with fail
    refine (pen_num_any P1.out 4 (.inr (.inr (.inl rfl)))).mono ?_
    rintro e w2 ⟨m, p2, bad2, rfl, hp, hg, ho⟩
    have P2 := Lib.hid hp
    have G2 := Lib.hid (grown_new G1.out hg P1.out.lw)
    have O2 := Lib.hid ho
    clear hp hg ho
    go_wp2_with fail
    refine (pen_num_any P2.out 4 (.inr (.inr (.inl rfl)))).mono ?_
    rintro e w3 ⟨m3, p3, bad3, rfl, hp, hg, ho⟩
    obtain rfl : bad3 = true := by
      rcases ho with h | ⟨rfl, h⟩
      · exact h
      · rcases O2.out with h' | ⟨_, h'⟩
        · cases h'
        · have := hp.le; rw [HN.out] at this; omega
    have P3 := Lib.hid hp
    have G3 := Lib.hid (grown_new G2.out hg P1.out.lw)
    clear hp hg ho
    go_wp2_with fail
    refine (pen_err P3.out).mono ?_
    rintro e w4 ⟨rfl, rfl⟩
    go_wp2
    go_ret3
    exact ⟨fun _ => rfl, fun h => absurd SH.out h, G3.out⟩
  · go_enter Try.func22, Try.ntmps22
    go_wp2_with fail
    refine NW.out.mono ?_
    rintro e w1 ⟨a, rfl, hp, hbel⟩
    have P1 := Lib.hid hp
    have G1 := Lib.hid (grown_below hbel none)
    clear hp hbel
    go_wp2_with fail
    refine (pen_num P1.out 4 (.inr (.inr (.inl rfl))) (by rw [HN.out]; omega)).mono ?_
    rintro e w2 ⟨rfl, hp, hg⟩
    have P2 := Lib.hid hp
    have G2 := Lib.hid (grown_new G1.out hg P1.out.lw)
    clear hp hg
    rw [show numOf false ((ys.drop 0).take 4) = cm from CM.out.symm]
    go_wp2_with fail
    refine (pen_num P2.out 4 (.inr (.inr (.inl rfl))) (by rw [HN.out]; omega)).mono ?_
    rintro e w3 ⟨rfl, hp, hg⟩
    have P3 := Lib.hid hp
    have G3 := Lib.hid (grown_new G2.out hg P1.out.lw)
    clear hp hg
    go_wp2_with fail
    refine (pen_err P3.out).mono ?_
    rintro e w4 ⟨rfl, rfl⟩
    go_wp2_with fail
    refine (ND.out w3).mono ?_
    rintro e w5 ⟨rfl, hN, hg⟩
    have hlook := hN.look hcm
    have P5 := Lib.hid (P3.out.same hg)
    have G5 := Lib.hid (grown_trans G3.out hg)
    clear hN hg
    by_cases hl : (n : Int) < leastN cm
    · have SH := Lib.hid (show shortB ys from .inr (by rw [HN.out, ← CM.out]; exact hl))
      have hd : decide ((n : Int) < leastN cm) = true := by simpa using hl
      obtain ⟨L, hL⟩ : ∃ L, leastN cm = L := ⟨_, rfl⟩
      rw [hL] at hlook hd
      clear hL hl
      go_wp2
      go_ret3
      exact ⟨fun _ => rfl, fun h => absurd SH.out h, G5.out⟩
    · have SH := Lib.hid (show ¬ shortB ys from fun h => by
        rcases h with h | h
        · rw [HN.out] at h; omega
        · rw [HN.out, ← CM.out] at h; exact hl h)
      have hd : decide ((n : Int) < leastN cm) = false := by simpa using hl
      obtain ⟨L, hL⟩ : ∃ L, leastN cm = L := ⟨_, rfl⟩
      rw [hL] at hlook hd
      clear hL hl
      go_wp2
      go_ret3
      exact ⟨fun h => absurd h SH.out, fun _ => ⟨a, _, by rw [← CM.out]; rfl, P5.out⟩, G5.out⟩
end Go.Proofs.Ytemdbfgpimfkdaa
