import Derived.Test.YtdagnkdonlfobaaGreatM9
import Derived.Deep.RegionHeld3
import Derived.Test.YtdagnkdonlfobaaGreatM2
import Derived.StillTailTactics
import Derived.RegionTactic
import Derived.BigQuiet
import Derived.Deep.QuietTactic
import Derived.Deep.Cut
import Derived.Deep.CutRange
import Derived.Lib.QuietBelow
/- What the program's read reads behind a good header: every command, in order; or that one of them is none. No condition but that there are at most 2^47 bytes. -/
namespace Go.Proofs.YtdagnkdonlfobaaGreat
open Go.RowKit
variable {w w' : World}
attribute [local go_sem] Oper.semAt_some

def sizeF (ys : List Int) : Nat := (wordN (ys.take 32) 5).toNat
def cntF (ys : List Int) : Nat := (wordN (ys.take 32) 4).toNat
def readN (ys : List Int) : Option (List (Int × List Int)) := cmdsN ((ys.drop 32).take (sizeF ys)) (cntF ys) 0

/-- What the rounds leave alone. -/
structure RdB (w0 : World) (r b5 D : Nat) (f : Fr) (W : World) : Prop where
  grown : w0.grownBy W none
  z2 : FrAt W r Fr.zero
  z3 : OneAt W (r + 1) (.slice none 0 0) 69
  z4 : OneAt W (r + 1 + 1) (.int .i64 0) 44
  fr : FrAt W b5 f
  dfr : W.heap[D]? = some (.deferred (some []))
theorem RdB.kept {w0 W W' : World} {r b5 D : Nat} {f : Fr} {row : Option Nat} (h : RdB w0 r b5 D f W) (hg : W.grownBy W' row) (hr : ∀ j, row = some j → w0.heap.size ≤ j ∧ j ≠ r ∧ j ≠ r + 1 ∧ j ≠ r + 1 + 1 ∧ j ≠ b5 ∧ j ≠ D) : RdB w0 r b5 D f W' := by
  have hG : w0.grownBy W' none := by
    cases hrow : row with
    | none => exact grown_trans h.grown (hrow ▸ hg)
    | some j => exact grown_new h.grown (hrow ▸ hg) (hr j hrow).1
  exact ⟨hG, h.z2.kept hg (fun e => (hr _ e).2.1 rfl), h.z3.kept hg (fun e => (hr _ e).2.2.1 rfl), h.z4.kept hg (fun e => (hr _ e).2.2.2.1 rfl), h.fr.kept hg (fun e => (hr _ e).2.2.2.2.1 rfl), grown_obj hg h.dfr (fun e => (hr _ e).2.2.2.2.2 rfl)⟩
/-- What stands between two rounds. -/
structure RdJ (w0 : World) (r b5 b7 D rc : Nat) (f : Fr) (rv : Loop) (lo hi : Nat) (pre : List Cm) (W : World) : Prop where
  ord : w0.heap.size ≤ r ∧ r + 2 < b5 ∧ b5 < b7 ∧ b7 < D ∧ D < rc ∧ rc < lo ∧ lo ≤ hi
  base : RdB w0 r b5 D f W
  box : ∃ lv, OneAt W b7 lv 69 ∧ Got W hi pre lv
  lp : W.heap[rc]? = some (.loop rv)
theorem RdJ.kept {w0 W W' : World} {r b5 b7 D rc : Nat} {f : Fr} {rv : Loop} {lo hi : Nat} {pre : List Cm} {row : Option Nat} (h : RdJ w0 r b5 b7 D rc f rv lo hi pre W) (hg : W.grownBy W' row) (hr : ∀ j, row = some j → lo ≤ j ∧ j < hi) : RdJ w0 r b5 b7 D rc f rv lo hi pre W' := by
  have ho := h.ord
  have ne : ∀ k, k < lo → row ≠ some k := fun k hk e => by have := hr k e; omega
  obtain ⟨lv, h1, h2⟩ := h.box
  exact ⟨ho, h.base.kept hg (fun j e => by have := hr j e; omega),
    ⟨lv, h1.kept hg (ne _ (by omega)), h2.over (Over.of_grown hg (fun j e => (hr j e).2)) (Nat.le_refl _)⟩, grown_obj hg h.lp (ne _ (by omega))⟩

structure RdOut (w w' : World) (ys : List Int) (e : Ending) : Prop where
  no : readN ys = none → e = .returned (.tuple #[Fr.zero.v, .slice none 0 0, .int .i64 7])
  yes : ∀ l, readN ys = some l → ∃ pre q c base, pre.map Cm.d = l ∧ e = .returned (.tuple #[(frOf (ys.take 32)).v, .slice q pre.length c, .int .i64 0]) ∧ w.heap.size ≤ base ∧ Got w' base pre (.slice q pre.length c)
  grown : w.grownBy w' none

theorem frErr_zero {xs : List Int} {n : Nat} (h : frErr xs n = 0) : 32 ≤ xs.length ∧ wordN xs 4 ≤ 256 ∧ 32 + wordN xs 5 ≤ n := by
  unfold frErr at h
  split at h
  · cases h
  split at h
  · cases h
  split at h
  · cases h
  split at h
  · cases h
  split at h
  · cases h
  split at h
  · cases h
  omega

set_option maxHeartbeats 1600000 in
set_option maxRecDepth 20000 in
theorem read_ok (ys : List Int) (q : Option Addr) (c n : Nat) (h : IsBytes w q c ys) (hn : ys.length = n) (hc : n ≤ c) (hcm : c ≤ 9223372036854775807) (hn47 : n ≤ 140737488355328) (hr : Small ys) (h0 : frErr (ys.take 32) n = 0) :
    Calls Tryz.prog 93 #[.slice q n c] w fun e w' => RdOut w w' ys e := by
  have FO := Lib.hid (fun (w1 : World) (hg : w.grownBy w1 none) => frontOf_any (w := w1) ys q c n (h.kept hg (by simp)) hn hc hcm hn47 hr)
  rw [h0] at FO
  obtain ⟨e1, e2, e3⟩ := frErr_zero h0
  rw [List.length_take] at e1
  obtain ⟨b, o, rfl, hcells⟩ := h.2 (by omega)
  have hsm : Small (ys.take 32) := fun x hx => hr x (List.mem_of_mem_take hx)
  have w4 := wordN_bd hsm 4
  have w5 := wordN_bd hsm 5
  have hK : wordN (ys.take 32) 4 = (cntF ys : Nat) := by unfold cntF; omega
  have hS : wordN (ys.take 32) 5 = (sizeF ys : Nat) := by unfold sizeF; omega
  have RN := Lib.hid (show readN ys = cmdsN ((ys.drop 32).take (sizeF ys)) (cntF ys) 0 from rfl)
  obtain ⟨K, hKK⟩ : ∃ K, K = cntF ys := ⟨_, rfl⟩
  obtain ⟨S, hSS⟩ : ∃ S, S = sizeF ys := ⟨_, rfl⟩
  rw [← hKK] at hK RN
  rw [← hSS] at hS RN
  obtain ⟨fs, fk, ff, hF⟩ : ∃ fs fk ff, frOf (ys.take 32) = ⟨fs, fk, ff, K, S⟩ := ⟨_, _, _, by unfold frOf; rw [hK, hS]⟩
  have k256 : K ≤ 256 := by omega
  have s32 : 32 + S ≤ n := by omega
  obtain ⟨zs, hzs⟩ : ∃ zs, zs = (ys.drop 32).take S := ⟨_, rfl⟩
  have hzl : zs.length = S := by rw [hzs, List.length_take, List.length_drop]; omega
  have hzm : Small zs := by rw [hzs]; exact fun x hx => hr x (List.mem_of_mem_drop (List.mem_of_mem_take hx))
  have ZB := Lib.hid (fun (w1 : World) (hg : w.grownBy w1 none) (c' : Nat) => (show IsBytes w1 (some ⟨b, o + 32, none⟩) c' zs from IsBytes.mk_at fun i hi => by
    have hi' : 32 + i < ys.length := by omega
    rw [Nat.add_assoc, grown_cell hg (hcells (32 + i) hi'), hzs]
    simp [List.getD, List.getElem?_drop, show i < S by omega]))
  rw [← hzs] at RN
  have FV := Lib.hid hF
  rw [hF] at FO
  have ZL := Lib.hid hzl
  have ZM := Lib.hid hzm
  clear hF hzl hzm hzs hSS hKK hK hS w4 w5 hsm hcells e1 e2 e3 h hr h0 hn
  refine (callsIn_wide (n := 1)).1 (callsIn_of_wp_marks Tryz.func93 rfl trivial ((wpIn_wide).2 ?_))
  simp only [Tryz.ntmps93, List.size_toArray, List.length_cons, List.length_nil, Nat.reduceAdd, Nat.reduceSub, Array.replicate_succ, Array.replicate_zero, List.push_toArray, List.append_toArray, List.nil_append, List.cons_append]
  have ZA : FrAt (((w.alloc (.cells #[.int .i64 0, .int .i64 0, .int .u32 0, .int .u64 0, .int .u64 0] 161)).alloc (.cells #[.slice none 0 0] 69)).alloc (.cells #[.int .i64 0] 44)) w.heap.size Fr.zero :=
    (FrAt.new w Fr.zero).grown (grown2 _ _ _)
  have ZC : OneAt (((w.alloc (.cells #[.int .i64 0, .int .i64 0, .int .u32 0, .int .u64 0, .int .u64 0] 161)).alloc (.cells #[.slice none 0 0] 69)).alloc (.cells #[.int .i64 0] 44)) (w.heap.size + 1) (.slice none 0 0) 69 := by
    have := (OneAt.new (w.alloc (.cells #[.int .i64 0, .int .i64 0, .int .u32 0, .int .u64 0, .int .u64 0] 161)) (.slice none 0 0) 69).grown (grown1 _ (.cells #[.int .i64 0] 44))
    simpa using this
  have ZD : OneAt (((w.alloc (.cells #[.int .i64 0, .int .i64 0, .int .u32 0, .int .u64 0, .int .u64 0] 161)).alloc (.cells #[.slice none 0 0] 69)).alloc (.cells #[.int .i64 0] 44)) (w.heap.size + 1 + 1) (.int .i64 0) 44 := by
    have := OneAt.new ((w.alloc (.cells #[.int .i64 0, .int .i64 0, .int .u32 0, .int .u64 0, .int .u64 0] 161)).alloc (.cells #[.slice none 0 0] 69)) (.int .i64 0) 44
    simpa using this
  have gZ : w.grownBy (((w.alloc (.cells #[.int .i64 0, .int .i64 0, .int .u32 0, .int .u64 0, .int .u64 0] 161)).alloc (.cells #[.slice none 0 0] 69)).alloc (.cells #[.int .i64 0] 44)) none :=
    grown_trans (grown1 _ _) (grown2 _ _ _)
  have HA := Lib.hid ZA
  have HC := Lib.hid ZC
  have HD := Lib.hid ZD
  have GZ := Lib.hid gZ
  clear ZA ZC ZD gZ
  go_wp2_with fail
  refine (FO.out _ GZ.out).mono ?_
  rintro e w1 ⟨_, hy, hg⟩
  have he := hy rfl
  subst he
  unfold Fr.v
  have ZA := Lib.hid (HA.out.grown hg)
  have ZC := Lib.hid (HC.out.grown hg)
  have ZD := Lib.hid (HD.out.grown hg)
  have G1 := Lib.hid (grown_trans GZ.out hg)
  have hsz1 : w.heap.size + 1 + 1 < w1.heap.size := ZD.out.lt
  clear hy hg HA HC HD GZ FO
  go_wp2
  obtain ⟨W, hW⟩ : ∃ W, (w1.alloc (.cells #[.int .i64 fs, .int .i64 fk, .int .u32 ff, .int .u64 K, .int .u64 S] 161)).alloc (.cells #[.slice none 0 0] 69) = W := ⟨_, rfl⟩
  have gW : w1.grownBy W none := by rw [← hW]; exact grown2 _ _ _
  have hF : FrAt W w1.heap.size ⟨fs, fk, ff, K, S⟩ := by rw [← hW]; exact (FrAt.new w1 ⟨fs, fk, ff, K, S⟩).grown (grown1 _ _)
  have hL : OneAt W (w1.heap.size + 1) (.slice none 0 0) 69 := by
    rw [← hW]
    have := OneAt.new (w1.alloc (.cells #[.int .i64 fs, .int .i64 fk, .int .u32 ff, .int .u64 K, .int .u64 S] 161)) (.slice none 0 0) 69
    simpa using this
  rw [hW]
  have c3 : W.cell? ⟨w1.heap.size, 3, none⟩ = some (.int .u64 K) := hF.c3
  have c4 : W.cell? ⟨w1.heap.size, 4, none⟩ = some (.int .u64 S) := hF.c4
  have YA := Lib.hid (ZA.out.grown gW)
  have YC := Lib.hid (ZC.out.grown gW)
  have YD := Lib.hid (ZD.out.grown gW)
  have YF := Lib.hid hF
  have YL := Lib.hid hL
  have G2 := Lib.hid (grown_trans G1.out gW)
  clear gW hF hL hW ZA ZC ZD
  have i1 : (32 : Int) ≤ 32 + (S : Int) := by omega
  have i2 : 32 + (S : Int) ≤ c := by omega
  have i3 : (32 + (S : Int)) % 18446744073709551616 = 32 + (S : Int) := by omega
  have i4 : IntKind.u64.wrap (32 + (S : Int)) = 32 + (S : Int) := by rw [IntKind.wrap_u64]; exact i3
  have i5 : (32 + (S : Int)).toNat - 32 = S := by omega
  obtain ⟨qq, hqq⟩ : ∃ qq, (if c = 32 then some (⟨b, o, none⟩ : Addr) else some ⟨b, o + 32, none⟩) = qq := ⟨_, rfl⟩
  have QB := Lib.hid (fun (w1 : World) (hg : w.grownBy w1 none) => (show IsBytes w1 qq (c - 32) zs from by
    rw [← hqq]
    split
    · have hz : zs = [] := List.eq_nil_of_length_eq_zero (by rw [ZL.out]; omega)
      rw [hz]
      exact IsBytes.empty
    · exact ZB.out w1 hg _))
  go_region_held3 (fun X => X.cell? ⟨w1.heap.size, 3, none⟩ = some (.int .u64 K) ∧ X.cell? ⟨w1.heap.size, 4, none⟩ = some (.int .u64 S))
    (first | exact ⟨c3, c4⟩ | exact ⟨k3, k4⟩)
    (first
      | (go_at_call 125; refine (commands_any qq S (c - 32) K W.drew).mono ?_; rintro e w3 ⟨rfl, hq3, hc3, hg3⟩; have k3 := hg3.cell c3 (by simp); have k4 := hg3.cell c4 (by simp)))
  have hd : W.grownBy w3 none := ⟨hg3.os, hg3.tape, hg3.output, hg3.size, hg3.block⟩
  have hW2 : w1.heap.size + 1 < W.heap.size := YL.out.lt
  have hq4 : OneAt w3 W.heap.size (.slice qq S (c - 32)) 31 := hq3
  have hc4 : OneAt w3 (W.heap.size + 1) (.int .u64 K) 33 := hc3
  have hW3 : W.heap.size + 1 < w3.heap.size := hc4.lt
  have XA := Lib.hid (YA.out.grown hd)
  have XC := Lib.hid (YC.out.grown hd)
  have XD := Lib.hid (YD.out.grown hd)
  have XF := Lib.hid (YF.out.grown hd)
  have XL := Lib.hid (YL.out.grown hd)
  have XQ := Lib.hid hq4
  have XN := Lib.hid hc4
  have G3 := Lib.hid (grown_trans G2.out hd)
  clear YA YC YD YF YL G2 hd hq3 hc3 hg3 k3 k4 c3 c4 hq4 hc4 hqq ZB G1 i1 i2 i3 i4 i5
  go_wp2
  refine wp_rangeFunc_rec (gf := 160) (lb := #[.pointer (some ⟨W.heap.size, 0, none⟩), .pointer (some ⟨W.heap.size + 1, 0, none⟩)]) rfl (enters_of Tryz.func160 (by kernel_rfl) rfl) ?_
  intro rec YR ER OR
  obtain ⟨W1, hW1⟩ : ∃ W1, (w3.alloc (.deferred (some []))).alloc (.loop (rec .ready none)) = W1 := ⟨_, rfl⟩
  have g31 : w3.grownBy W1 none := by rw [← hW1]; exact grown2 _ _ _
  have hlp : W1.heap[w3.heap.size + 1]? = some (.loop (rec .ready none)) := by
    rw [← hW1]; have := World.alloc_heap_new (w3.alloc (.deferred (some []))) (.loop (rec .ready none)); rwa [World.size_alloc] at this
  have hdf : W1.heap[w3.heap.size]? = some (.deferred (some [])) := by
    rw [← hW1]; exact (Below.heap_alloc _ _ _ (by simp)).trans (World.alloc_heap_new w3 _)
  have hW1s : w3.heap.size + 1 < W1.heap.size := (Array.getElem?_eq_some_iff.1 hlp).1
  rw [hW1]
  have JZ : ∀ lo hi W', W1.heap.size ≤ lo → lo ≤ hi → W1.grownBy W' none → RdJ w w.heap.size w1.heap.size (w1.heap.size + 1) w3.heap.size (w3.heap.size + 1) ⟨fs, fk, ff, K, S⟩ (rec .ready none) lo hi [] W' := fun lo hi W' h1 h2 h3 =>
    ⟨⟨Nat.le_refl _, hsz1, by omega, by omega, by omega, by omega, h2⟩, ⟨grown_trans G3.out (grown_trans g31 h3), XA.out.grown (grown_trans g31 h3), XC.out.grown (grown_trans g31 h3), XD.out.grown (grown_trans g31 h3), XF.out.grown (grown_trans g31 h3), grown_obj h3 hdf (by simp)⟩,
      ⟨_, XL.out.grown (grown_trans g31 h3), Got.start _ _⟩, grown_obj h3 hlp (by simp)⟩
  have IO : IterOk Tryz.prog (w3.heap.size + 1) K (fun lo hi pre W => RdJ w w.heap.size w1.heap.size (w1.heap.size + 1) w3.heap.size (w3.heap.size + 1) ⟨fs, fk, ff, K, S⟩ (rec .ready none) lo hi pre W)
      (fun W => w.grownBy W none ∧ FrAt W w.heap.size Fr.zero ∧ OneAt W (w.heap.size + 1) (.slice none 0 0) 69 ∧ OneAt W (w.heap.size + 1 + 1) (.int .i64 7) 44 ∧ W.heap[w3.heap.size + 1]? = some (.loop (rec .done (some .ret))) ∧ W.heap[w3.heap.size]? = some (.deferred (some []))) := by
    refine ⟨fun lo hi pre A B r h hg hr => h.kept hg hr, ?_, ?_⟩
    · intro lo hi pre m W0 W2 r hJ hlt hsz hg hr hT
      have hJW := hJ.kept hg hr
      unfold Cm.v
      refine YR _ _ _ _ hJW.lp rfl ?_
      have ho := hJW.ord
      have g2 := grown1 W2 (.cells #[.int .u32 m.cmd, .slice m.q m.bytes.length m.cap] 109)
      have hmA := CmAt.new W2 m
      have JB := hJW.kept g2 (by simp)
      gi_wp2
      obtain ⟨Wb, hWb⟩ : ∃ Wb, W2.alloc (.cells #[.int .u32 m.cmd, .slice m.q m.bytes.length m.cap] 109) = Wb := ⟨_, rfl⟩
      rw [hWb] at g2 hmA JB ⊢
      refine ⟨JB.lp, fun _ => ?_⟩
      have gP := grownBy_putObj' Wb (w3.heap.size + 1) (.loop (rec .busy none))
      have hlpB : (Wb.putObj (w3.heap.size + 1) (.loop (rec .busy none))).heap[w3.heap.size + 1]? = some (.loop (rec .busy none)) := World.putObj_heap_same (Array.getElem?_eq_some_iff.1 JB.lp).1
      obtain ⟨Wc, hWc⟩ : ∃ Wc, Wb.putObj (w3.heap.size + 1) (.loop (rec .busy none)) = Wc := ⟨_, rfl⟩
      rw [hWc] at gP hlpB ⊢
      obtain ⟨lv, hbx0, hgot0⟩ := hJ.box
      have hbx := (hbx0.kept hg (fun e => by have := hr _ e; omega)).grown g2
      have ov1 : Over hi W0 Wb := (Over.of_grown hg (fun j e => (hr j e).2)).trans (Over.of_grown g2 (by simp))
      have ov2 : Over hi Wb Wc := Over.of_grown gP (fun j e => by injection e with e; omega)
      have ov3 : Over W0.heap.size W2 Wc := (Over.of_grown g2 (by simp)).trans (Over.of_grown gP (fun j e => by injection e with e; omega))
      have ar1 : Around lo hi W2 Wc := (Around.of_grown g2 (by have := hg.size; omega) (by simp)).trans (Around.of_grown gP (by have := hg.size; have := g2.size; omega) (fun j e => by injection e with e; omega))
      have hbxC := hbx.kept gP (by simp; omega)
      have hmC := hmA.kept gP (by simp; have := hsz; have := hg.size; omega)
      have hgotC := hgot0.over (ov1.trans ov2) (Nat.le_refl hi)
      have BC := JB.base.kept gP (fun j e => by injection e with e; omega)
      obtain ⟨lq, lc, rfl⟩ := own_slice hgotC.own
      have k0 := hmC.c0
      have k1 := hmC.c1
      have kb := hbxC.c
      have kf := hbxC.f
      have OWN := Lib.hid (own_grown hgotC.own (grown1 Wc (.cells #[.int .u32 m.cmd, .slice m.q m.bytes.length m.cap] 109)))
      have OLT := Lib.hid (fun g (e : (Value.slice lq pre.length lc).ownBlock = some g) => hgotC.own.lt g e)
      have HB := Lib.hid hbxC
      have HG0 := Lib.hid hgot0
      have OV := Lib.hid (And.intro (ov1.trans ov2) (And.intro ov3 ar1))
      have HT := Lib.hid hT
      have szc : hi ≤ Wc.heap.size := by have := hg.size; have := g2.size; have := gP.size; omega
      have SZ0 := Lib.hid (show W0.heap.size ≤ W2.heap.size from hg.size)
      clear hbx0 hgot0 hbx ov1 ov2 ov3 ar1 hmA hT
      have BB := Lib.hid BC
      have HLP := Lib.hid hlpB
      gi_wp2_with fail
      refine ⟨trivial, rfl, (CallsIn.inRound _ (callsIn_wide.2 (is_nil 3 _))).mono ?_⟩
      rintro e w4 ⟨rfl, rfl⟩
      gi_wp2_with (gi_at_builtin; refine wpIn_append_cm rfl _ _ rfl _ pre.length pre rfl OWN.out m Wc.heap.size rfl ?_ ?_ ?_ ?_)
      · exact CmAt.new Wc m
      · omega
      · have := hg.size; have := g2.size; have := gP.size; simp; omega
      intro v' w6 ho6 hg6 hat6
      obtain ⟨q6, c6, rfl⟩ := own_slice ho6
      have gA := grown1 Wc (.cells #[.int .u32 m.cmd, .slice m.q m.bytes.length m.cap] 109)
      have hb6 := (HB.out.grown gA).kept hg6 (fun e => by have := (OLT.out _ e).1; omega)
      have kb6 := hb6.c
      have kf6 := hb6.f
      have HG6 := Lib.hid (And.intro ho6 (And.intro hg6 hat6))
      clear ho6 hat6
      gi_wp2
      have gS := grown_setCell (i := 0) (grown_refl w6 (some (w1.heap.size + 1))) (.slice q6 (pre.length + 1) c6)
      have hb7 := hb6.set (.slice q6 (pre.length + 1) c6)
      have sA := gA.size
      have s6 := hg6.size
      have B7 := ((BB.out.kept gA (by simp)).kept hg6 (fun j e => by have := (OLT.out j e).1; omega)).kept gS (fun j e => by injection e with e; omega)
      have L7 := grown_obj gS (grown_obj hg6 (grown_obj gA HLP.out (by simp)) (fun e => by have := (OLT.out _ e).1; omega)) (by simp; omega)
      have T6 := HG0.out.step hsz (OV.out.1.trans (Over.of_grown gA (by simp))) HT.out (OV.out.2.1.trans (Over.of_grown gA (by simp))) SZ0.out HG6.out.1 HG6.out.2.1 (by rw [World.size_alloc]; exact HG6.out.2.2)
      have A7 := ((OV.out.2.2.trans (Around.of_grown gA szc (by simp))).trans (Around.of_grown hg6 (by omega) (fun j e => .inr (OLT.out j e).1))).trans (Around.of_grown gS (by omega) (fun j e => by injection e with e; omega))
      have T7 := T6.over (Over.of_grown (hi := hi) gS (fun j e => by injection e with e; omega)) (Nat.le_refl _)
      have sS := gS.size
      obtain ⟨w7, hw7⟩ : ∃ w7, w6.setCell ⟨w1.heap.size + 1, 0, none⟩ (.slice q6 (pre.length + 1) c6) = w7 := ⟨_, rfl⟩
      rw [hw7] at hb7 B7 L7 A7 T7 sS
      rw [hw7]
      have g8 := grownBy_putObj' w7 (w3.heap.size + 1) (.loop (rec .ready none))
      refine ⟨_, _, ER _ _ none L7, rfl, ⟨ho, B7.kept g8 (fun j e => by injection e with e; omega), ⟨_, hb7.kept g8 (by simp; omega), T7.over (Over.of_grown g8 (fun j e => by injection e with e; omega)) (Nat.le_refl _)⟩, World.putObj_heap_same (Array.getElem?_eq_some_iff.1 L7).1⟩, A7.trans (Around.of_grown g8 (by omega) (fun j e => by injection e with e; omega))⟩
    · intro lo hi pre cmd q2 n2 c2 b2 W2 hJ hsz hc2
      refine YR _ _ _ _ hJ.lp rfl ?_
      have ho := hJ.ord
      have g2 := grown1 W2 (.cells #[.int .u32 cmd, .slice q2 n2 c2] 109)
      have JB := hJ.kept g2 (by simp)
      have hcB := g2.cell hc2 (by simp)
      gi_wp2
      obtain ⟨Wb, hWb⟩ : ∃ Wb, W2.alloc (.cells #[.int .u32 cmd, .slice q2 n2 c2] 109) = Wb := ⟨_, rfl⟩
      rw [hWb] at g2 JB hcB ⊢
      refine ⟨JB.lp, fun _ => ?_⟩
      have gP := grownBy_putObj' Wb (w3.heap.size + 1) (.loop (rec .busy none))
      have hlpB : (Wb.putObj (w3.heap.size + 1) (.loop (rec .busy none))).heap[w3.heap.size + 1]? = some (.loop (rec .busy none)) := World.putObj_heap_same (Array.getElem?_eq_some_iff.1 JB.lp).1
      obtain ⟨Wc, hWc⟩ : ∃ Wc, Wb.putObj (w3.heap.size + 1) (.loop (rec .busy none)) = Wc := ⟨_, rfl⟩
      rw [hWc] at gP hlpB ⊢
      have hb2 : b2 ≠ w3.heap.size + 1 := fun e => by
        have := JB.lp
        rw [← e] at this
        simp only [World.cell?, this] at hcB
        cases hcB
      have hcC := gP.cell hcB (fun e => hb2 (by injection e))
      have BC := JB.base.kept gP (fun j e => by injection e with e; omega)
      have BB := Lib.hid BC
      have HLP := Lib.hid hlpB
      have a0 := BC.z2.c0
      have a1 := BC.z2.c1
      have a2 := BC.z2.c2
      have a3 := BC.z2.c3
      have a4 := BC.z2.c4
      have f0 := BC.z2.fz 0
      have f1 := BC.z2.fz 1
      have f2 := BC.z2.fz 2
      have f3 := BC.z2.fz 3
      have f4 := BC.z2.fz 4
      have x0 := BC.z3.c
      have x1 := BC.z3.f
      have y0 := BC.z4.c
      have y1 := BC.z4.f
      have IS := Lib.hid (is_wrong b2 3 Wc hcC)
      clear BC hlpB JB hJ hcB hc2
      gi_wp2_with fail
      refine ⟨trivial, rfl, (CallsIn.inRound _ (callsIn_wide.2 IS.out)).mono ?_⟩
      rintro e w4 ⟨rfl, rfl⟩
      gi_wp2
      have PA := BB.out.z2.put Fr.zero
      have gA := grown_put5 (grown_refl Wc (some w.heap.size)) (.int .i64 0) (.int .i64 0) (.int .u32 0) (.int .u64 0) (.int .u64 0)
      obtain ⟨V, hV⟩ : ∃ V, V = ((((Wc.setCell ⟨w.heap.size, 0, none⟩ (.int .i64 0)).setCell ⟨w.heap.size, 1, none⟩ (.int .i64 0)).setCell ⟨w.heap.size, 2, none⟩ (.int .u32 0)).setCell ⟨w.heap.size, 3, none⟩ (.int .u64 0)).setCell ⟨w.heap.size, 4, none⟩ (.int .u64 0) := ⟨_, rfl⟩
      have PA : FrAt V w.heap.size Fr.zero := by rw [hV]; exact PA
      rw [← hV] at gA ⊢
      clear hV
      have PB := (BB.out.z3.kept gA (by simp)).set (.slice none 0 0)
      have PC := BB.out.z4.kept gA (by intro e; injection e with e; omega)
      have gB := grown_setCell (i := 0) (grown_refl V (some (w.heap.size + 1))) (.slice none 0 0)
      have PA2 := PA.kept gB (by simp)
      have PC2 := (PC.kept gB (by intro e; injection e with e; omega)).set (.int .i64 7)
      have G1 := grown_new (grown_new BB.out.grown gA (Nat.le_refl _)) gB (by omega)
      have L1 := grown_obj gB (grown_obj gA HLP.out (by intro e; injection e with e; omega)) (by intro e; injection e with e; omega)
      have D1 := grown_obj gB (grown_obj gA BB.out.dfr (by intro e; injection e with e; omega)) (by intro e; injection e with e; omega)
      obtain ⟨V2, hV2⟩ : ∃ V2, V.setCell ⟨w.heap.size + 1, 0, none⟩ (.slice none 0 0) = V2 := ⟨_, rfl⟩
      rw [hV2] at PA2 PB PC2 G1 L1 D1 ⊢
      have gC := grown_setCell (i := 0) (grown_refl V2 (some (w.heap.size + 1 + 1))) (.int .i64 7)
      have PA3 := PA2.kept gC (by intro e; injection e with e; omega)
      have PB3 := PB.kept gC (by simp)
      have L2 := grown_obj gC L1 (by intro e; injection e with e; omega)
      have D2 := grown_obj gC D1 (by intro e; injection e with e; omega)
      have G2 := grown_new G1 gC (by omega)
      obtain ⟨V3, hV3⟩ : ∃ V3, V2.setCell ⟨w.heap.size + 1 + 1, 0, none⟩ (.int .i64 7) = V3 := ⟨_, rfl⟩
      rw [hV3] at PA3 PB3 PC2 L2 D2 G2 ⊢
      have gR := grownBy_putObj' V3 (w3.heap.size + 1) (.loop (rec .done (some .ret)))
      exact ⟨_, _, ER _ _ (some .ret) L2, rfl, grown_new G2 gR (by omega), PA3.kept gR (by intro e; injection e with e; omega), PB3.kept gR (by intro e; injection e with e; omega), PC2.kept gR (by intro e; injection e with e; omega), World.putObj_heap_same (Array.getElem?_eq_some_iff.1 L2).1, grown_obj gR D2 (by simp)⟩
  have BX := Lib.hid (XQ.out.grown g31)
  have BN := Lib.hid (XN.out.grown g31)
  refine (iter_any (w := W1) (w3.heap.size + 1) (QB.out W1 (grown_trans G3.out g31)) ZL.out (by omega) ZM.out BX.out BN.out (by omega) _ _ JZ IO).mono ?_
  rintro e w5 ⟨⟨v, rfl⟩, hd⟩
  rcases hd with ⟨lo, hi, pre, hpre, hJ⟩ | ⟨hno, hG, hA, hB, hC, hL, hD⟩
  · refine ⟨none, _, OR _ _ _ _ (by simp) hJ.lp, ?_⟩
    have ho := hJ.ord
    obtain ⟨lv, hbx, hgot⟩ := hJ.box
    have gR := grownBy_putObj' w5 (w3.heap.size + 1) (.loop (rec .exhausted none))
    have hB := hJ.base.kept gR (fun j e => by injection e with e; omega)
    have hbx := hbx.kept gR (by intro e; injection e with e; omega)
    have hgot := hgot.over (Over.of_grown (hi := hi) gR (fun j e => by injection e with e; omega)) (Nat.le_refl _)
    obtain ⟨V, hV⟩ : ∃ V, w5.putObj (w3.heap.size + 1) (.loop (rec .exhausted none)) = V := ⟨_, rfl⟩
    rw [hV] at hB hbx hgot ⊢
    obtain ⟨lq, lc, rfl⟩ := own_slice hgot.own
    have RR := Lib.hid (RN.out.trans hpre)
    have HB := Lib.hid hB
    have HX := Lib.hid hbx
    have HG := Lib.hid hgot
    have a0 := hB.z2.c0
    have a1 := hB.z2.c1
    have a2 := hB.z2.c2
    have a3 := hB.z2.c3
    have a4 := hB.z2.c4
    have f0 := hB.z2.fz 0
    have f1 := hB.z2.fz 1
    have f2 := hB.z2.fz 2
    have f3 := hB.z2.fz 3
    have f4 := hB.z2.fz 4
    have x0 := hB.z3.c
    have x1 := hB.z3.f
    have y0 := hB.z4.c
    have y1 := hB.z4.f
    have b0 := hB.fr.c0
    have b1 := hB.fr.c1
    have b2 := hB.fr.c2
    have b3 := hB.fr.c3
    have b4 := hB.fr.c4
    have l0 := hbx.c
    clear hV gR hJ hpre hB hbx hgot
    go_wp2
    go_region
    all_goals go_wp2
    have PA := FrAt.put (w := V) (g := w.heap.size) (f := Fr.zero) HB.out.z2 ⟨fs, fk, ff, K, S⟩
    have gA : V.grownBy _ (some w.heap.size) := grown_put5 (grown_refl V (some w.heap.size)) (.int .i64 fs) (.int .i64 fk) (.int .u32 ff) (.int .u64 K) (.int .u64 S)
    obtain ⟨V1, hV1⟩ : ∃ V1, V1 = ((((V.setCell ⟨w.heap.size, 0, none⟩ (.int .i64 fs)).setCell ⟨w.heap.size, 1, none⟩ (.int .i64 fk)).setCell ⟨w.heap.size, 2, none⟩ (.int .u32 ff)).setCell ⟨w.heap.size, 3, none⟩ (.int .u64 K)).setCell ⟨w.heap.size, 4, none⟩ (.int .u64 S) := ⟨_, rfl⟩
    have PA : FrAt V1 w.heap.size ⟨fs, fk, ff, K, S⟩ := by rw [hV1]; exact PA
    rw [← hV1] at gA
    have PB := (HB.out.z3.kept gA (by intro e; injection e with e; omega)).set (.slice lq pre.length lc)
    have PC := HB.out.z4.kept gA (by intro e; injection e with e; omega)
    have gB := grown_setCell (i := 0) (grown_refl V1 (some (w.heap.size + 1))) (.slice lq pre.length lc)
    have PA2 := PA.kept gB (by intro e; injection e with e; omega)
    have PC1 := PC.kept gB (by intro e; injection e with e; omega)
    have G1 := grown_new (grown_new HB.out.grown gA (Nat.le_refl _)) gB (by omega)
    have D1 := grown_obj gB (grown_obj gA HB.out.dfr (by intro e; injection e with e; omega)) (by intro e; injection e with e; omega)
    have O1 := (HG.out.over (Over.of_grown (hi := hi) gA (fun j e => by injection e with e; omega)) (Nat.le_refl _)).over (Over.of_grown (hi := hi) gB (fun j e => by injection e with e; omega)) (Nat.le_refl _)
    obtain ⟨V2, hV2⟩ : ∃ V2, V1.setCell ⟨w.heap.size + 1, 0, none⟩ (.slice lq pre.length lc) = V2 := ⟨_, rfl⟩
    rw [hV2] at PA2 PB PC1 G1 D1 O1
    have PC2 : OneAt (V2.setCell ⟨w.heap.size + 1 + 1, 0, none⟩ (.int .i64 0)).drew (w.heap.size + 1 + 1) (.int .i64 0) 44 := PC1.set (.int .i64 0)
    have gC : V2.grownBy (V2.setCell ⟨w.heap.size + 1 + 1, 0, none⟩ (.int .i64 0)).drew (some (w.heap.size + 1 + 1)) := grown_drewN (grown_setCell (i := 0) (grown_refl V2 (some (w.heap.size + 1 + 1))) (.int .i64 0)) 1
    have PA3 := PA2.kept gC (by intro e; injection e with e; omega)
    have PB3 := PB.kept gC (by intro e; injection e with e; omega)
    have D2 := grown_obj gC D1 (by intro e; injection e with e; omega)
    have G2 := grown_new G1 gC (by omega)
    have O2 := O1.over (Over.of_grown (hi := hi) gC (fun j e => by injection e with e; omega)) (Nat.le_refl _)
    obtain ⟨V3, hV3⟩ : ∃ V3, (V2.setCell ⟨w.heap.size + 1 + 1, 0, none⟩ (.int .i64 0)).drew = V3 := ⟨_, rfl⟩
    rw [hV3] at PA3 PB3 PC2 D2 G2 O2
    have gR := grownBy_putObj' V3 w3.heap.size (.deferred none)
    have hend : (((((((V.setCell ⟨w.heap.size, 0, none⟩ (.int .i64 fs)).setCell ⟨w.heap.size, 1, none⟩ (.int .i64 fk)).setCell ⟨w.heap.size, 2, none⟩ (.int .u32 ff)).setCell ⟨w.heap.size, 3, none⟩ (.int .u64 K)).setCell ⟨w.heap.size, 4, none⟩ (.int .u64 S)).setCell ⟨w.heap.size + 1, 0, none⟩ (.slice lq pre.length lc)).setCell ⟨w.heap.size + 1 + 1, 0, none⟩ (.int .i64 0)).drew = V3 := by
      rw [← hV3, ← hV2, hV1]
    rw [hend]
    refine ⟨by simp, .inl ⟨_, _, rfl, run_takeDeferred D2, ?_⟩⟩
    refine ⟨_, results_cell3 rfl _ _ _ rfl rfl rfl (load_fr (PA3.kept gR (by intro e; injection e with e; omega))) (load_cms (PB3.kept gR (by intro e; injection e with e; omega)).c) (load_errno (PC2.kept gR (by intro e; injection e with e; omega)).c), ?_⟩
    refine ⟨fun h => (by rw [RR.out] at h; cases h), fun l h => ?_, grown_new G2 gR (by omega)⟩
    rw [RR.out] at h
    injection h with h
    exact ⟨pre, lq, lc, hi, h, by rw [FV.out], by omega, O2.over (Over.of_grown (hi := hi) gR (fun j e => by injection e with e; omega)) (Nat.le_refl _)⟩
  · refine ⟨some .ret, _, OR _ _ _ _ (by simp) hL, ?_⟩
    refine wpIn_ret ?_
    show bodyPostM _ _ _ _ _ Exit.ret _ _
    have RR := RN.out.trans hno
    have gE := grownBy_putObj' w5 (w3.heap.size + 1) (.loop (rec .exhausted (some .ret)))
    have D1 := grown_obj gE hD (by intro e; injection e with e; omega)
    have gR := grownBy_putObj' (w5.putObj (w3.heap.size + 1) (.loop (rec .exhausted (some .ret)))) w3.heap.size (.deferred none)
    refine ⟨by simp, .inl ⟨_, _, rfl, run_takeDeferred D1, ?_⟩⟩
    refine ⟨_, results_cell3 rfl _ _ _ rfl rfl rfl (load_fr ((hA.kept gE (by intro e; injection e with e; omega)).kept gR (by intro e; injection e with e; omega)))
      (load_cms ((hB.kept gE (by intro e; injection e with e; omega)).kept gR (by intro e; injection e with e; omega)).c) (load_errno ((hC.kept gE (by intro e; injection e with e; omega)).kept gR (by intro e; injection e with e; omega)).c), ?_⟩
    exact ⟨fun _ => rfl, fun l h => (by rw [RR] at h; cases h), grown_new (grown_new hG gE (by omega)) gR (by omega)⟩
end Go.Proofs.YtdagnkdonlfobaaGreat

/- The program's Read and Size, whole. No condition but that there are at most 2^47 bytes. -/
namespace Go.Proofs.YtdagnkdonlfobaaGreat
open Go.RowKit
variable {w w' : World}

def rdErr (ys : List Int) : Int := if frErr (ys.take 32) ys.length = 0 then (if readN ys = none then 7 else 0) else frErr (ys.take 32) ys.length
def Hd.of (f : Fr) : Hd := ⟨f.sub, f.kind, f.flags⟩

/-- What read tells, by the error. -/
structure RdAll (w w' : World) (ys : List Int) (e : Ending) : Prop where
  bad : rdErr ys ≠ 0 → e = .returned (.tuple #[Fr.zero.v, .slice none 0 0, .int .i64 (rdErr ys)])
  good : rdErr ys = 0 → ∃ pre q c base, readN ys = some (pre.map Cm.d) ∧ e = .returned (.tuple #[(frOf (ys.take 32)).v, .slice q pre.length c, .int .i64 0]) ∧ w.heap.size ≤ base ∧ Got w' base pre (.slice q pre.length c)
  grown : w.grownBy w' none
theorem read_any (ys : List Int) (q : Option Addr) (c n : Nat) (h : IsBytes w q c ys) (hn : ys.length = n) (hc : n ≤ c) (hcm : c ≤ 9223372036854775807) (hn47 : n ≤ 140737488355328) (hr : Small ys) :
    Calls Tryz.prog 93 #[.slice q n c] w fun e w' => RdAll w w' ys e := by
  by_cases h0 : frErr (ys.take 32) n = 0
  · refine (read_ok ys q c n h hn hc hcm hn47 hr h0).mono ?_
    rintro e w' ⟨h1, h2, hg⟩
    have hE : rdErr ys = if readN ys = none then 7 else 0 := by unfold rdErr; rw [hn, if_pos h0]
    refine ⟨fun hz => ?_, fun hz => ?_, hg⟩
    · rw [hE] at hz ⊢
      by_cases hx : readN ys = none
      · rw [if_pos hx]; exact h1 hx
      · rw [if_neg hx] at hz; exact absurd rfl hz
    · rw [hE] at hz
      cases hx : readN ys with
      | none => rw [if_pos hx] at hz; cases hz
      | some l =>
        obtain ⟨pre, q', c', base, hp, he, hb, hG⟩ := h2 l hx
        exact ⟨pre, q', c', base, by rw [hp], he, hb, hG⟩
  · refine (read_no ys q c n h hn hc hcm hn47 hr _ rfl h0).mono ?_
    rintro e w' ⟨rfl, hg⟩
    have hE : rdErr ys = frErr (ys.take 32) n := by unfold rdErr; rw [hn, if_neg h0]
    exact ⟨fun _ => by rw [hE], fun hz => absurd (hE ▸ hz) h0, hg⟩

structure ReadOut (w w' : World) (ys : List Int) (e : Ending) : Prop where
  bad : rdErr ys ≠ 0 → e = .returned (.tuple #[(Hd.mk 0 0 0).v, .slice none 0 0, .int .i64 (rdErr ys)])
  good : rdErr ys = 0 → ∃ pre q c base, readN ys = some (pre.map Cm.d) ∧ e = .returned (.tuple #[(Hd.of (frOf (ys.take 32))).v, .slice q pre.length c, .int .i64 0]) ∧ w.heap.size ≤ base ∧ Got w' base pre (.slice q pre.length c)
  grown : w.grownBy w' none

set_option maxHeartbeats 800000 in
theorem Read_any (ys : List Int) (q : Option Addr) (c n : Nat) (h : IsBytes w q c ys) (hn : ys.length = n) (hc : n ≤ c) (hcm : c ≤ 9223372036854775807) (hn47 : n ≤ 140737488355328) (hr : Small ys) :
    Calls Tryz.prog 91 #[.slice q n c] w fun e w' => ReadOut w w' ys e := by
  have RD := Lib.hid (fun (w1 : World) (hg : w.grownBy w1 none) => read_any (w := w1) ys q c n (h.kept hg (by simp)) hn hc hcm hn47 hr)
  have ZA : HdAt (w.alloc (.cells #[.int .i64 0, .int .i64 0, .int .u32 0] 68)) w.heap.size ⟨0, 0, 0⟩ := heap_alloc_new w _
  have HA := Lib.hid ZA
  have GA := Lib.hid (grown1 w (.cells #[.int .i64 0, .int .i64 0, .int .u32 0] 68))
  clear ZA h hn hr
  go_enter Tryz.func91, Tryz.ntmps91
  go_wp2_with fail
  refine (RD.out _ GA.out).mono ?_
  rintro e w1 ⟨hbad, hgood, hg⟩
  by_cases h0 : rdErr ys = 0
  · obtain ⟨pre, q', c', base, hp, rfl, hb, hG⟩ := hgood h0
    obtain ⟨⟨fs, fk, ff, K, S⟩, hf⟩ : ∃ f, f = frOf (ys.take 32) := ⟨_, rfl⟩
    rw [← hf]
    unfold Fr.v
    have gm := grown_trans hg (grown1 w1 (.cells #[.int .i64 fs, .int .i64 fk, .int .u32 ff, .int .u64 K, .int .u64 S] 161))
    have hA : (w1.alloc (.cells #[.int .i64 fs, .int .i64 fk, .int .u32 ff, .int .u64 K, .int .u64 S] 161)).heap[w.heap.size]? = some (.cells #[.int .i64 0, .int .i64 0, .int .u32 0] 68 (0, 0)) := (gm.block _ (lt_of_block HA.out) (by simp)).trans HA.out
    have a0 : (w1.alloc (.cells #[.int .i64 fs, .int .i64 fk, .int .u32 ff, .int .u64 K, .int .u64 S] 161)).cell? ⟨w.heap.size, 0, none⟩ = some (.int .i64 0) := by rw [cell_of hA]; rfl
    have a1 : (w1.alloc (.cells #[.int .i64 fs, .int .i64 fk, .int .u32 ff, .int .u64 K, .int .u64 S] 161)).cell? ⟨w.heap.size, 1, none⟩ = some (.int .i64 0) := by rw [cell_of hA]; rfl
    have a2 : (w1.alloc (.cells #[.int .i64 fs, .int .i64 fk, .int .u32 ff, .int .u64 K, .int .u64 S] 161)).cell? ⟨w.heap.size, 2, none⟩ = some (.int .u32 0) := by rw [cell_of hA]; rfl
    have y0 : ∀ i, (w1.alloc (.cells #[.int .i64 fs, .int .i64 fk, .int .u32 ff, .int .u64 K, .int .u64 S] 161)).frozen? ⟨w.heap.size, i, none⟩ = false := fun i => free_of hA
    have f0 := y0 0
    have f1 := y0 1
    have f2 := y0 2
    have hlt := lt_of_block hA
    have G1 := Lib.hid (grown_trans GA.out gm)
    have BA := Lib.hid hA
    have HG := Lib.hid (hG.over (Over.of_grown (hi := base) (grown1 w1 (.cells #[.int .i64 fs, .int .i64 fk, .int .u32 ff, .int .u64 K, .int .u64 S] 161)) (by simp)) (Nat.le_refl _))
    have HP := Lib.hid hp
    have HF := Lib.hid hf
    have HB := Lib.hid hb
    have H0 := Lib.hid h0
    have hbs : w.heap.size < base := by have := GA.out.size; simp at this hb; omega
    clear hg gm hA y0 hG hp hf hb hbad hgood h0
    go_wp2
    have PA := HdAt.put (w := w1.alloc (.cells #[.int .i64 fs, .int .i64 fk, .int .u32 ff, .int .u64 K, .int .u64 S] 161)) (g := w.heap.size) (h := ⟨0, 0, 0⟩) BA.out ⟨fs, fk, ff⟩
    have gP := grown_put3 (grown_refl (w1.alloc (.cells #[.int .i64 fs, .int .i64 fk, .int .u32 ff, .int .u64 K, .int .u64 S] 161)) (some w.heap.size)) (.int .i64 fs) (.int .i64 fk) (.int .u32 ff)
    refine bodyPost_ret (results_cell_tmp2 rfl _ _ _ rfl rfl rfl (load_hd PA)) rfl ?_
    refine ⟨fun hz => absurd H0.out hz, fun _ => ⟨pre, q', c', base, HP.out, ?_, by omega, HG.out.over (Over.of_grown (hi := base) gP (fun j e => by injection e with e; omega)) (Nat.le_refl _)⟩, grown_new G1.out gP (Nat.le_refl _)⟩
    rw [← HF.out]
    rfl
  · have he := hbad h0
    subst he
    obtain ⟨er, her⟩ : ∃ er, er = rdErr ys := ⟨_, rfl⟩
    have HE := Lib.hid her
    rw [← her] at h0 ⊢
    unfold Fr.v Fr.zero
    have gm := grown_trans hg (grown1 w1 (.cells #[.int .i64 0, .int .i64 0, .int .u32 0, .int .u64 0, .int .u64 0] 161))
    have hA : (w1.alloc (.cells #[.int .i64 0, .int .i64 0, .int .u32 0, .int .u64 0, .int .u64 0] 161)).heap[w.heap.size]? = some (.cells #[.int .i64 0, .int .i64 0, .int .u32 0] 68 (0, 0)) := (gm.block _ (lt_of_block HA.out) (by simp)).trans HA.out
    have a0 : (w1.alloc (.cells #[.int .i64 0, .int .i64 0, .int .u32 0, .int .u64 0, .int .u64 0] 161)).cell? ⟨w.heap.size, 0, none⟩ = some (.int .i64 0) := by rw [cell_of hA]; rfl
    have a1 : (w1.alloc (.cells #[.int .i64 0, .int .i64 0, .int .u32 0, .int .u64 0, .int .u64 0] 161)).cell? ⟨w.heap.size, 1, none⟩ = some (.int .i64 0) := by rw [cell_of hA]; rfl
    have a2 : (w1.alloc (.cells #[.int .i64 0, .int .i64 0, .int .u32 0, .int .u64 0, .int .u64 0] 161)).cell? ⟨w.heap.size, 2, none⟩ = some (.int .u32 0) := by rw [cell_of hA]; rfl
    have y0 : ∀ i, (w1.alloc (.cells #[.int .i64 0, .int .i64 0, .int .u32 0, .int .u64 0, .int .u64 0] 161)).frozen? ⟨w.heap.size, i, none⟩ = false := fun i => free_of hA
    have f0 := y0 0
    have f1 := y0 1
    have f2 := y0 2
    have hlt := lt_of_block hA
    have G1 := Lib.hid (grown_trans GA.out gm)
    have BA := Lib.hid hA
    have H0 := Lib.hid h0
    clear hg gm hA y0 hbad hgood her h0
    go_wp2
    have PA := HdAt.put (w := w1.alloc (.cells #[.int .i64 0, .int .i64 0, .int .u32 0, .int .u64 0, .int .u64 0] 161)) (g := w.heap.size) (h := ⟨0, 0, 0⟩) BA.out ⟨0, 0, 0⟩
    refine bodyPost_ret (results_cell_tmp2 rfl _ _ _ rfl rfl rfl (load_hd PA)) rfl ?_
    exact ⟨fun _ => (by rw [← HE.out]; rfl), fun hz => absurd (HE.out.trans hz) H0.out, grown_new G1.out (grown_put3 (grown_refl _ _) _ _ _) (Nat.le_refl _)⟩

theorem Size_any (ys : List Int) (q : Option Addr) (c n : Nat) (h : IsBytes w q c ys) (hn : ys.length = n) (hc : n ≤ c) (hcm : c ≤ 9223372036854775807) (hn47 : n ≤ 140737488355328) (hr : Small ys) :
    Calls Tryz.prog 57 #[.slice q n c] w fun e w' => e = .returned (.tuple #[.int .u64 (if rdErr ys = 0 then 32 + sizeF ys else 0), .int .i64 (rdErr ys)]) ∧ w.grownBy w' none := by
  have RD := Lib.hid (read_any (w := w) ys q c n h hn hc hcm hn47 hr)
  obtain ⟨r, hrr⟩ : ∃ r : Int, r = if rdErr ys = 0 then 32 + (sizeF ys : Int) else 0 := ⟨_, rfl⟩
  rw [← hrr]
  obtain ⟨er, her⟩ : ∃ er, er = rdErr ys := ⟨_, rfl⟩
  rw [← her]
  have w5 := wordN_bd (show Small (ys.take 32) from fun x hx => hr x (List.mem_of_mem_take hx)) 5
  have hS : wordN (ys.take 32) 5 = (sizeF ys : Nat) := by unfold sizeF; omega
  obtain ⟨S, hSS⟩ : ∃ S, S = sizeF ys := ⟨_, rfl⟩
  rw [← hSS] at hS hrr
  have HR := Lib.hid hrr
  have HE := Lib.hid her
  clear hrr her
  obtain ⟨fs, fk, ff, K, hF⟩ : ∃ fs fk ff K, frOf (ys.take 32) = ⟨fs, fk, ff, K, S⟩ := ⟨_, _, _, _, by unfold frOf; rw [hS]⟩
  have FV := Lib.hid hF
  have s32 : S < 4294967296 := by omega
  clear h hn hr hF hS hSS w5
  go_enter Tryz.func57, Tryz.ntmps57
  go_wp2_with fail
  refine RD.out.mono ?_
  rintro e w1 ⟨hbad, hgood, hg⟩
  have HG := Lib.hid hg
  by_cases h0 : rdErr ys = 0
  · obtain ⟨pre, q', c', base, hp, rfl, hb, hG⟩ := hgood h0
    rw [FV.out]
    unfold Fr.v
    have i3 : (32 + (S : Int)) % 18446744073709551616 = 32 + (S : Int) := by omega
    have i4 : IntKind.u64.wrap (32 + (S : Int)) = 32 + (S : Int) := by rw [IntKind.wrap_u64]; exact i3
    have H0 := Lib.hid h0
    clear hbad hgood h0 hp hG hg
    go_wp2
    go_ret2
    exact ⟨by rw [HR.out, HE.out, if_pos H0.out, H0.out]; rfl, grown_trans HG.out (grown1 _ _)⟩
  · have he := hbad h0
    subst he
    have H1 := Lib.hid h0
    rw [← HE.out] at h0 ⊢
    have hne : (er != 0) = true := by simpa using h0
    have H0 := Lib.hid h0
    unfold Fr.v Fr.zero
    clear hbad hgood h0 hg
    go_wp2
    go_ret2
    exact ⟨by rw [HR.out, if_neg H1.out]; rfl, grown_trans HG.out (grown1 _ _)⟩
end Go.Proofs.YtdagnkdonlfobaaGreat

/- The document's cursor, and a number at a place of bytes: for seats from layer 4 on. No condition but that the place is within them. -/
namespace Go.Proofs.YtdagnkdonlfobaaGreat
open Go.RowKit
variable {w w' : World}

/-- The document's cursor in a block of its own. -/
def RCur (w : World) (a : Nat) (q : Option Addr) (n c : Nat) (p : Int) (big bad : Bool) : Prop := w.heap[a]? = some (.cells #[.slice q n c, .int .i64 p, .bool big, .bool bad] 145 (0, 0))
section
variable {a : Nat} {q : Option Addr} {n c : Nat} {p : Int} {big bad : Bool}
theorem RCur.c0 (h : RCur w a q n c p big bad) : w.cell? ⟨a, 0, none⟩ = some (.slice q n c) := by rw [cell_of h]; rfl
theorem RCur.c1 (h : RCur w a q n c p big bad) : w.cell? ⟨a, 1, none⟩ = some (.int .i64 p) := by rw [cell_of h]; rfl
theorem RCur.c2 (h : RCur w a q n c p big bad) : w.cell? ⟨a, 2, none⟩ = some (.bool big) := by rw [cell_of h]; rfl
theorem RCur.c3 (h : RCur w a q n c p big bad) : w.cell? ⟨a, 3, none⟩ = some (.bool bad) := by rw [cell_of h]; rfl
theorem RCur.f (h : RCur w a q n c p big bad) (i : Nat) : w.frozen? ⟨a, i, none⟩ = false := free_of h
theorem RCur.set1 (h : RCur w a q n c p big bad) (k : Int) : RCur (w.setCell ⟨a, 1, none⟩ (.int .i64 k)) a q n c k big bad := by unfold RCur; rw [heap_setCell_same w a 1 _ _ _ h]; rfl
theorem RCur.set3 (h : RCur w a q n c p big bad) (b : Bool) : RCur (w.setCell ⟨a, 3, none⟩ (.bool b)) a q n c p big b := by unfold RCur; rw [heap_setCell_same w a 3 _ _ _ h]; rfl

theorem need_ok (h : RCur w a q n c p big false) :
    Calls Tryz.prog 107 #[.pointer (some ⟨a, 0, none⟩), .bool true] w fun e w' => e = .returned (.bool false) ∧ RCur w' a q n c p big false ∧ w.grownBy w' (some a) := by
  have c3 := h.c3
  have f3 := h.f 3
  have F := Lib.hid (h.set3 false)
  have G := Lib.hid (grown_setCell (i := 3) (grown_refl w (some a)) (.bool false))
  clear h
  go_enter Tryz.func107, Tryz.ntmps107
  go_wp2
  go_ret
  exact ⟨rfl, F.out, G.out⟩

set_option maxRecDepth 20000 in
set_option maxHeartbeats 1600000 in
theorem rbytes_ok {x : Addr} (h : RCur w a (some x) n c 0 big false) (k : Nat) (h0 : 0 < k) (hk : k ≤ n) (hn : n ≤ c) (hc : c ≤ 9223372036854775807) :
    Calls Tryz.prog 108 #[.pointer (some ⟨a, 0, none⟩), .int .i64 k] w fun e w' => e = .returned (.slice (some x) k c) ∧ RCur w' a (some x) n c k big false ∧ w.grownBy w' (some a) := by
  have c0 := h.c0
  have c1 := h.c1
  have c3 := h.c3
  have N := Lib.hid (fun (w1 : World) (hh : RCur w1 a (some x) n c 0 big false) => need_ok hh)
  have H := Lib.hid (show RCur w.drew a (some x) n c 0 big false from h)
  have D := Lib.hid (show w.grownBy w.drew (some a) from grown_drewN (grown_refl w (some a)) 1)
  clear h
  go_enter Tryz.func108, Tryz.ntmps108
  go_wp2
  go_still_tail 17, (by kernel_rfl)
  change wpList _ _ _ _ _ w.drew
  generalize w.drew = w1 at *
  go_wp2_with fail
  rw [show decide ((k : Int) ≤ (n : Int)) = true from decide_eq_true (by omega)]
  refine (N.out _ H.out).mono ?_
  rintro e w2 ⟨rfl, h2, hg2⟩
  have d0 := h2.c0
  have d1 := h2.c1
  have g1 := h2.f 1
  have hcne : ¬ c = 0 := by omega
  have G2 := Lib.hid (grown_trans D.out hg2)
  have G := Lib.hid (fun (w' : World) (hg : w.grownBy w' (some a)) => grown_setCell (i := 1) hg (.int .i64 (k : Int)))
  have F := Lib.hid (fun m => RCur.set1 (show RCur (w2.drewN m) a (some x) n c 0 big false from h2) k)
  clear h2 hg2 N H D c0 c1 c3
  go_wp2
  go_quiet (fail)
  go_wp2
  go_ret
  exact ⟨rfl, F.out _, G.out _ (grown_drewN G2.out _)⟩

/-- What has been read of a number behind so many rounds. -/
def acc (big : Bool) (ys : List Int) (j : Nat) : Int := if big then beN (ys.take j) else leN (ys.drop (ys.length - j))
theorem acc_bd {ys : List Int} (hy : Small ys) (big : Bool) (j : Nat) (hj : j ≤ ys.length) : 0 ≤ acc big ys j ∧ acc big ys j < 2 ^ (8 * j) := by
  cases big
  · have := leN_bd (ys.drop (ys.length - j)) (fun x hx => hy x (List.mem_of_mem_drop hx))
    rw [List.length_drop, show ys.length - (ys.length - j) = j by omega] at this
    exact this
  · have := beN_bd (ys.take j) (fun x hx => hy x (List.mem_of_mem_take hx))
    rw [List.length_take, Nat.min_eq_left hj] at this
    exact this
theorem acc_big (ys : List Int) (j : Nat) (hj : j < ys.length) : acc true ys (j + 1) = acc true ys j * 256 + ys.getD j 0 := by
  unfold acc
  rw [if_pos rfl, if_pos rfl, List.take_succ_eq_append_getElem hj, beN_snoc]
  simp [hj]
theorem acc_little (ys : List Int) (j : Nat) (hj : j < ys.length) : acc false ys (j + 1) = acc false ys j * 256 + ys.getD (ys.length - 1 - j) 0 := by
  unfold acc
  rw [if_neg (by simp), if_neg (by simp), List.drop_eq_getElem_cons (show ys.length - (j + 1) < ys.length by omega), show ys.length - (j + 1) + 1 = ys.length - j by omega]
  simp only [leN]
  rw [show ys.length - 1 - j = ys.length - (j + 1) by omega, List.getD_eq_getElem?_getD, List.getElem?_eq_getElem (by omega)]
  simp only [Option.getD_some]
  omega
theorem acc_all (big : Bool) (ys : List Int) : acc big ys ys.length = numOf big ys := by cases big <;> simp [acc, numOf]

theorem rnumber_ok {b o : Nat} (ys : List Int) (h : RCur w a (some ⟨b, o, none⟩) n c 0 big false) (k : Nat) (hs : k = 4 ∨ k = 8) (hk : k ≤ n) (hn : n ≤ c) (hc : c ≤ 9223372036854775807) (hl : ys.length = k) (hy : Small ys)
    (hb : ∀ i, i < k → ∀ w', w.grownBy w' (some a) → w'.cell? ⟨b, o + i, none⟩ = some (.int .u8 (ys.getD i 0))) :
    Calls Tryz.prog 84 #[.pointer (some ⟨a, 0, none⟩), .int .i64 k] w fun e w' => e = .returned (.int .u64 (numOf big ys)) ∧ w.grownBy w' (some a) := by
  have N := Lib.hid (need_ok h)
  have B := Lib.hid (fun w1 (h1 : RCur w1 a (some ⟨b, o, none⟩) n c 0 big false) => rbytes_ok h1 k (by omega) hk hn hc)
  have C := Lib.hid hb
  have Y := Lib.hid hy
  have L := Lib.hid hl
  have E := Lib.hid (acc_all big ys)
  clear h hb hy
  rcases hs with rfl | rfl
  all_goals
    go_enter Tryz.func84, Tryz.ntmps84
    go_wp2_with fail
    refine N.out.mono ?_
    rintro e w1 ⟨rfl, h1, hg1⟩
    have B1 := Lib.hid (B.out w1 h1)
    clear h1
    go_wp2_with fail
    refine B1.out.mono ?_
    rintro e w2 ⟨rfl, h2, hg2⟩
    have hg := grown_trans hg1 hg2
    have d2 := h2.c2
    have C2 := Lib.hid (fun i hi => C.out i hi w2 hg)
    have G := Lib.hid hg
    clear h2 hg1 hg2 hg hl
    go_wp2
    go_loop [6, 7] (fun n i => ∃ j : Nat, j ≤ ys.length ∧ i = .int .i64 j ∧ n = .int .u64 (acc big ys j)) (fun _ i => 8 - (intOf i).toNat)
    case atStart => exact ⟨0, Nat.zero_le _, rfl, by cases big <;> simp [acc, beN, leN]⟩
    case round =>
      obtain ⟨j, hj, rfl, rfl⟩ := hrel
      have hl := L.out
      by_cases hlt : j < ys.length
      · have hbd := acc_bd Y.out big j hj
        have hbd2 := acc_bd Y.out big (j + 1) hlt
        have hp : (2 : Int) ^ (8 * (j + 1)) ≤ 2 ^ 64 := by
          have : (2 : Nat) ^ (8 * (j + 1)) ≤ 2 ^ 64 := Nat.pow_le_pow_right (by decide) (by omega)
          exact_mod_cast this
        have hp64 : (2 : Int) ^ 64 = 18446744073709551616 := by decide
        have hb2 : acc big ys (j + 1) < 18446744073709551616 := by omega
        have hb0 := hbd2.1
        clear hbd2 hp hp64
        cases big
        · have hs := acc_little ys j hlt
          have cj := C2.out (ys.length - 1 - j) (by omega)
          have hx := Y.out _ (List.getElem_mem (show ys.length - 1 - j < ys.length by omega))
          rw [show ys[ys.length - 1 - j] = ys.getD (ys.length - 1 - j) 0 by rw [List.getD_eq_getElem?_getD, List.getElem?_eq_getElem (by omega)]; rfl] at hx
          have hi1 : ys.length - 1 - j = ys.length - 1 - j := rfl
          generalize ys.getD (ys.length - 1 - j) 0 = y at *
          rw [hl] at cj
          have S := Lib.hid hs
          have hA0 := hbd.1
          have hA1 : acc false ys j * 256 + y < 18446744073709551616 := by omega
          clear hbd hs hi1 hb2 hb0
          generalize acc false ys j = A at *
          go_wp2
          go_round
          case rel => exact ⟨j + 1, by omega, by go_num, by rw [S.out]⟩
          case measure => simp [intOf]; omega
        · have hs := acc_big ys j hlt
          have cj := C2.out j (by omega)
          have hx := Y.out _ (List.getElem_mem hlt)
          rw [show ys[j] = ys.getD j 0 by rw [List.getD_eq_getElem?_getD, List.getElem?_eq_getElem hlt]; rfl] at hx
          generalize ys.getD j 0 = y at *
          have S := Lib.hid hs
          have hA0 := hbd.1
          have hA1 : acc true ys j * 256 + y < 18446744073709551616 := by omega
          clear hbd hs hb2 hb0
          generalize acc true ys j = A at *
          go_wp2
          go_round
          case rel => exact ⟨j + 1, by omega, by go_num, by rw [S.out]⟩
          case measure => simp [intOf]; omega
      · have hjl : j = ys.length := by omega
        subst hjl
        go_wp2
        go_ret
        have hE := E.out
        rw [L.out] at hE
        exact ⟨congrArg (fun z => Ending.returned (Value.int .u64 z)) hE, G.out⟩

end
end Go.Proofs.YtdagnkdonlfobaaGreat

/- The document's number of four bytes at a place of bytes; may a command be, by the document. No condition but that the place is within them. -/
namespace Go.Proofs.YtdagnkdonlfobaaGreat
open Go.RowKit Go.Sort
variable {w w' : World}

/-- A piece of bytes, at a place that is there. -/
theorem cut_run {T : TypeId} (hT : Tryz.prog.underlying T = some (.slice (Tryz.prog.elem T))) (hs : ∀ W, (sizeOf (Tryz.prog.elem T)).run Tryz.prog W = .ok 1 W) (b o n c p k : Nat) (hk : p + k ≤ n) (hn : n ≤ c) (hp : 0 < k) (l h : Int) (hl : l = p) (hh : h = (p : Int) + k) (W : World) :
    (Instr.slice T (.slice (some ⟨b, o, none⟩) n c) (some (.int .i64 l)) (some (.int .i64 h)) none).run Tryz.prog W = .ok (.slice (some ⟨b, o + p, none⟩) k (c - p)) W := by
  rw [run_slice_lh (P := Tryz.prog) W T (some ⟨b, o, none⟩) n c hT .i64 .i64 l h (by omega) (by omega) (by omega), hs]
  simp only [Result.andThen, sliced]
  rw [if_neg (by omega), show h.toNat - l.toNat = k by omega, show l.toNat = p by omega]
  simp only [Option.map_some, add_flat, Nat.mul_one]
theorem size_u8 (W : World) : (sizeOf (Tryz.prog.elem 31)).run Tryz.prog W = .ok 1 W := by kernel_rfl

theorem get_any (ys : List Int) {q : Option Addr} {c n : Nat} (h : IsBytes w q c ys) (hn : ys.length = n) (hc : n ≤ c) (hcm : c ≤ 9223372036854775807) (hy : Small ys) (p : Nat) (hk : p + 4 ≤ n) :
    Calls Tryz.prog 45 #[.slice q n c, .int .i64 p] w fun e w' => e = .returned (.int .i64 (leN ((ys.drop p).take 4))) ∧ w.grownBy w' none := by
  obtain ⟨b, o, rfl, hcell⟩ := h.2 (by omega)
  have hbd := leN4_bd hy p
  have X := Lib.hid (fun (w1 : World) (a : Nat) (hw : w.grownBy w1 none) (ha : w.heap.size ≤ a) (hr : RCur w1 a (some ⟨b, o + p, none⟩) 4 (c - p) 0 false false) =>
    rnumber_ok ((ys.drop p).take 4) hr 4 (.inl rfl) (by omega) (by omega) (by omega) (by simp; omega) (fun x hx => hy x (List.mem_of_mem_drop (List.mem_of_mem_take hx))) (fun i hi w' hg => by
      have h1 := hcell (p + i) (by omega)
      have h2 : w'.cell? ⟨b, o + (p + i), none⟩ = some (.int .u8 (ys.getD (p + i) 0)) := (grown_new hw hg ha).cell h1 (by simp)
      rw [show o + p + i = o + (p + i) by omega, h2]
      simp [List.getD, hi]))
  have hS := fun W => cut_run (T := 31) (by kernel_rfl) size_u8 b o n c p 4 hk hc (by omega) (p : Int) ((p : Int) + 4) rfl rfl W
  have hb1 : (p : Int) + 4 ≤ 9223372036854775807 := by omega
  unfold numOf at X
  rw [if_neg (by simp)] at X
  clear h hcell hn hk hc hcm
  generalize leN ((ys.drop p).take 4) = V at *
  go_enter Tryz.func45, Tryz.ntmps45
  go_wp2_with fail
  have R : RCur (w.alloc (.cells #[.slice (some ⟨b, o + p, none⟩) 4 (c - p), .int .i64 0, .bool false, .bool false] 145)) w.heap.size (some ⟨b, o + p, none⟩) 4 (c - p) 0 false false := heap_alloc_new w _
  refine (X.out _ _ (grown1 _ _) (Nat.le_refl _) R).mono ?_
  rintro e w' ⟨rfl, hg⟩
  have G := Lib.hid (grown_new (grown1 _ _) hg (Nat.le_refl _))
  clear hg hS
  go_wp2
  go_ret
  exact ⟨rfl, G.out⟩

end Go.Proofs.YtdagnkdonlfobaaGreat
