/- What is said of a name, as the program takes it: trie.takeExport. No condition but that there is such a cursor. -/
import Derived.Test.YtblfighfahffkaaTrM
import Derived.Deep.Cut
import Derived.Deep.CutRange
namespace Go.Proofs.Ytblfighfahffkaa
open Go.RowKit
variable {w w' W : World} {lo hi a : Nat} {xs : List Int} {s s' : Cs}

structure TkI (w0 W : World) (lo hi a : Nat) (xs : List Int) (s : Cs) (g0 g1 : Nat) (nm : ByteArray) (x : Ex) : Prop where
  pen : PenS W lo hi a xs s false
  res : ExAt W g0 ⟨#[]⟩ Ex.zero
  ex : ExAt W g1 nm x
  grown : w0.grownBy W (some a)
  new0 : w0.heap.size ≤ g0
  new1 : w0.heap.size ≤ g1
  ne : g0 ≠ g1
  up : hi ≤ w0.heap.size
section
variable {w0 : World} {g0 g1 : Nat} {nm : ByteArray} {x x' : Ex}
theorem TkI.al (h : TkI w0 W lo hi a xs s g0 g1 nm x) : a < w0.heap.size := Nat.lt_of_lt_of_le h.pen.up h.up
theorem TkI.call (h : TkI w0 W lo hi a xs s g0 g1 nm x) (hp : PenS w' lo hi a xs s' false) (hg : W.grownBy w' (some a)) : TkI w0 w' lo hi a xs s' g0 g1 nm x := by
  have ha := h.al
  exact ⟨hp, h.res.kept hg (by intro e; injection e with e; have := h.new0; omega), h.ex.kept hg (by intro e; injection e with e; have := h.new1; omega), grown_same h.grown hg, h.new0, h.new1, h.ne, h.up⟩
theorem TkI.set (h : TkI w0 W lo hi a xs s g0 g1 nm x) (hg : W.grownBy w' (some g1)) (he : ExAt w' g1 nm x') : TkI w0 w' lo hi a xs s g0 g1 nm x' :=
  ⟨Pen.kept h.pen hg (.inr (Nat.le_trans h.up h.new1)), h.res.kept hg (by intro e; injection e with e; exact h.ne e.symm), he, grown_past h.grown hg h.new1, h.new0, h.new1, h.ne, h.up⟩
end
structure TxOut (w w' : World) (lo hi a : Nat) (xs : List Int) (s : Cs) (nm : ByteArray) (size : Int) (e : Ending) : Prop where
  ex : ∃ x s', e = .returned (exV nm x) ∧ PenS w' lo hi a xs s' false ∧ Sim (psZ sayP size) xs s x s'
  grown : w.grownBy w' (some a)

set_option maxRecDepth 20000 in
set_option maxHeartbeats 3200000 in
theorem takeExport_any (h : PenS w lo hi a xs s false) (nm : ByteArray) (size : Int) (hs : 0 ≤ size ∧ size < 18446744073709551616) :
    Calls Try.prog 90 #[.pointer (some ⟨a, 0, none⟩), .string nm, .int .u64 size] w fun e w' => TxOut w w' lo hi a xs s nm size e := by
  have hbig : xs.length ≤ 140737488355328 := Pen.most h
  have hhi : hi ≤ w.heap.size := h.sz
  have hal : a < w.heap.size := Nat.lt_of_lt_of_le h.up h.sz
  have hle : s.1 ≤ xs.length := Pen.le h
  have g1 := grown1 w (.cells #[.string ⟨#[]⟩, .int .i64 0, .bool false, .int .u64 0, .int .u64 0, .int .u64 0, .string ⟨#[]⟩] 33)
  have r1 : ExAt (w.alloc (.cells #[.string ⟨#[]⟩, .int .i64 0, .bool false, .int .u64 0, .int .u64 0, .int .u64 0, .string ⟨#[]⟩] 33)) w.heap.size ⟨#[]⟩ Ex.zero := heap_alloc_new w _
  obtain ⟨w1, hw1⟩ : ∃ w1, w.alloc (.cells #[.string ⟨#[]⟩, .int .i64 0, .bool false, .int .u64 0, .int .u64 0, .int .u64 0, .string ⟨#[]⟩] 33) = w1 := ⟨_, rfl⟩
  obtain ⟨g0, hg0⟩ : ∃ g0, w.heap.size = g0 := ⟨_, rfl⟩
  rw [hw1] at g1 r1
  rw [hg0] at r1
  have HW1 := Lib.hid hw1
  have HG0 := Lib.hid hg0
  have G1 := Lib.hid g1
  have R1 := Lib.hid r1
  have P1 := Lib.hid (Pen.same h g1)
  have g2 := grown1 w1 (.cells #[.string nm, .int .i64 0, .bool false, .int .u64 0, .int .u64 0, .int .u64 0, .string ⟨#[]⟩] 33)
  have r2 : ExAt (w1.alloc (.cells #[.string nm, .int .i64 0, .bool false, .int .u64 0, .int .u64 0, .int .u64 0, .string ⟨#[]⟩] 33)) w1.heap.size nm Ex.zero := heap_alloc_new w1 _
  have T2 := Lib.hid (show TkI w (w1.alloc (.cells #[.string nm, .int .i64 0, .bool false, .int .u64 0, .int .u64 0, .int .u64 0, .string ⟨#[]⟩] 33)) lo hi a xs s g0 w1.heap.size nm Ex.zero from
    ⟨Pen.same (Pen.same h g1) g2, r1.kept g2 (by simp), r2, grown_any (grown_trans g1 g2) _, by omega, g1.size, by have := r1.lt; omega, hhi⟩)
  obtain ⟨w2, hw2⟩ : ∃ w2, w1.alloc (.cells #[.string nm, .int .i64 0, .bool false, .int .u64 0, .int .u64 0, .int .u64 0, .string ⟨#[]⟩] 33) = w2 := ⟨_, rfl⟩
  obtain ⟨gx, hgx⟩ : ∃ gx, w1.heap.size = gx := ⟨_, rfl⟩
  rw [hw2, hgx] at T2
  have HW2 := Lib.hid hw2
  have HGX := Lib.hid hgx
  have S0 := Lib.hid (sim_ul xs s)
  have B0 := Lib.hid (ulS_bd (xs := xs) (s := s))
  have HS := Lib.hid hs
  clear h g1 g2 r1 r2 hw1 hg0 hw2 hgx hs
  go_enter Try.func90, Try.ntmps90
  go_upto_region 1 with fail
  rw [HW1.out, HG0.out]
  go_wp2_with fail
  refine (pen_at P1.out).mono ?_
  rintro e w1' ⟨rfl, rfl⟩
  go_upto_region 3 with fail
  rw [HW2.out, HGX.out]
  clear HW1 HG0 HW2 HGX P1 R1 G1
  go_wp2_with fail
  refine (pen_ul T2.out.pen).mono ?_
  rintro e w3 ⟨rfl, hp, hg⟩
  have T3 := Lib.hid (T2.out.call hp hg)
  clear hp hg T2
  obtain ⟨F, hF⟩ : ∃ F, F = (ulS xs s).1 := ⟨_, rfl⟩
  obtain ⟨s1, hs1⟩ : ∃ s1, s1 = (ulS xs s).2 := ⟨_, rfl⟩
  rw [← hF, ← hs1] at S0
  rw [← hF] at B0
  rw [← hs1] at T3
  rw [← hF]
  clear hF hs1
  have a4 := and4 F B0.out
  have n4 := andNot4 F B0.out
  obtain ⟨K, hK⟩ : ∃ K, K = knN F := ⟨_, rfl⟩
  obtain ⟨wk, hwk⟩ : ∃ wk, wk = wkN F := ⟨_, rfl⟩
  have hwb : (F / 4 % 2 * 4 != 0) = wk := by
    rw [hwk]
    unfold wkN
    by_cases h1 : F / 4 % 2 = 1
    · rw [decide_eq_true h1, h1]; rfl
    · rw [decide_eq_false h1, show F / 4 % 2 = 0 by omega]; rfl
  rw [← hK] at n4
  obtain ⟨A4, hA4⟩ : ∃ A, A = F / 4 % 2 * 4 := ⟨_, rfl⟩
  rw [← hA4] at a4 hwb
  have SK := Lib.hid (show sayK F = if K = 0 then psB ulP fun v => psR ⟨1, wk, v, 0, 0, []⟩
    else if K = 2 then psB ulP fun v => psR ⟨2, wk, v, 0, 0, []⟩
    else if K = 8 then psB ulP fun o => psB txP fun t => psR ⟨3, wk, 0, 0, o, t⟩
    else if K = 16 then psB ulP fun v => psB ulP fun r => psR ⟨4, wk, v, r, 0, []⟩
    else psF by rw [hK, hwk]; rfl)
  clear hK hwk hA4
  have f2 := T3.out.ex.fz 2
  have gl3 := T3.out.ex.lt
  have c2 := T3.out.ex.c.2.2.1
  go_upto_region 5 with fail
  have T4 := Lib.hid (T3.out.set (grown_setCell (i := 2) (grown_refl w3 (some gx)) (.bool wk)) (T3.out.ex.weak wk))
  obtain ⟨w4, hw4⟩ : ∃ w4, w3.setCell ⟨gx, 2, none⟩ (.bool wk) = w4 := ⟨_, rfl⟩
  rw [hw4] at T4
  (try rw [hw4])
  clear hw4 f2 gl3 c2 T3
  by_cases h0 : K = 0
  · subst h0
    rw [if_pos rfl] at SK
    have S1 := Lib.hid (sim_ul xs s1)
    go_wp2_with fail
    refine (pen_ul T4.out.pen).mono ?_
    rintro e w5 ⟨rfl, hp, hg⟩
    have Tw5 := Lib.hid (T4.out.call hp hg)
    clear hp hg T4
    obtain ⟨V, hV⟩ : ∃ z, z = (ulS xs s1).1 := ⟨_, rfl⟩
    obtain ⟨s2, hs2⟩ : ∃ z, z = (ulS xs s1).2 := ⟨_, rfl⟩
    rw [← hV, ← hs2] at S1
    rw [← hs2] at Tw5
    rw [← hV]
    clear hV hs2
    have f1 := Tw5.out.ex.fz
    have gl5 := Tw5.out.ex.lt
    have c5 := Tw5.out.ex.c
    go_upto_region 17 with fail
    have Tw5z0 := Lib.hid (Tw5.out.set (grown_setCell (i := 1) (grown_refl _ (some gx)) (.int .i64 1)) (Tw5.out.ex.kind 1))
    have Tw5z0z1 := Lib.hid (Tw5z0.out.set (grown_setCell (i := 3) (grown_refl _ (some gx)) (.int .u64 V)) (Tw5z0.out.ex.value V))
    obtain ⟨w5e, hwe⟩ : ∃ we, ((w5.setCell ⟨gx, 1, none⟩ (.int .i64 1)).setCell ⟨gx, 3, none⟩ (.int .u64 V)) = we := ⟨_, rfl⟩
    rw [hwe] at Tw5z0z1
    (try rw [hwe])
    have Tw5e := Lib.hid Tw5z0z1.out
    clear hwe f1 gl5 c5
    have SX := Lib.hid (show Sim sayP xs s (⟨1, wk, V, 0, 0, []⟩ : Ex) s2 from Sim.B S0.out (by rw [SK.out]; exact Sim.B S1.out (Sim.R _ _)))
    have hp9 : s.1 ≤ s2.1 := SX.out.le
    have hl9 : s2.1 ≤ xs.length := Pen.le Tw5e.out.pen
    obtain ⟨P, hP⟩ : ∃ P, P = s.1 := ⟨_, rfl⟩
    obtain ⟨Q, hQ⟩ : ∃ Q, Q = s2.1 := ⟨_, rfl⟩
    have PA := Lib.hid (pen_at Tw5e.out.pen)
    rw [← hQ] at PA
    rw [← hP, ← hQ] at hp9
    rw [← hQ] at hl9
    rw [← hP] at hle
    (try rw [← hP])
    have HPQ := Lib.hid (And.intro hP hQ)
    clear hP hQ
    go_wp2_with fail
    refine PA.out.mono ?_
    rintro e w9 ⟨rfl, rfl⟩
    obtain ⟨D, hD1, hD2, hD3, hD4⟩ : ∃ D : Int, (Q : Int) - (P : Int) = D ∧ D = ((Q - P : Nat) : Int) ∧ 0 ≤ D ∧ D ≤ 140737488355328 := ⟨_, rfl, by omega, by omega, by omega⟩
    have HD2 := Lib.hid hD2
    clear hD2
    by_cases hq : D = size
    · have Z := Lib.hid (show Sim (psZ sayP size) xs s (⟨1, wk, V, 0, 0, []⟩ : Ex) s2 by
        have h := SX.out.Z (k := size)
        rw [← HPQ.out.1, ← HPQ.out.2, ← HD2.out, hq, decide_eq_true rfl] at h
        simp only [Bool.not_true, Bool.or_false] at h
        rw [HPQ.out.2] at h
        exact h)
      have hqf : (D != size) = false := by rw [hq]; simp
      obtain ⟨c0, c1, c2, c3, c4, c5, c6⟩ := Tw5e.out.ex.c
      obtain ⟨d0, d1, d2, d3, d4, d5, d6⟩ := Tw5e.out.res.c
      have f := Tw5e.out.res.fz
      have rl := Tw5e.out.res.lt
      have xl := Tw5e.out.ex.lt
      clear hq
      go_wp2_with fail
      refine bodyPost_ret (results_ex rfl rfl (Tw5e.out.res.put nm ⟨1, wk, V, 0, 0, []⟩)) rfl ?_
      exact ⟨⟨_, _, rfl, Pen.kept Tw5e.out.pen (grown_put7 (grown_refl _ (some g0)) _ _ _ _ _ _ _) (.inr (Nat.le_trans Tw5e.out.up Tw5e.out.new0)), Z.out⟩, grown_past Tw5e.out.grown (grown_put7 (grown_refl _ (some g0)) _ _ _ _ _ _ _) Tw5e.out.new0⟩
    · have Z := Lib.hid (show Sim (psZ sayP size) xs s (⟨1, wk, V, 0, 0, []⟩ : Ex) (s2.1, true) by
        have h := SX.out.Z (k := size)
        rw [← HPQ.out.1, ← HPQ.out.2, ← HD2.out, decide_eq_false hq] at h
        simp only [Bool.not_false, Bool.or_true] at h
        rw [← HPQ.out.2]
        exact h)
      have hqf : (D != size) = true := by simpa using hq
      clear hq
      go_wp2_with fail
      refine (pen_fl Tw5e.out.pen).mono ?_
      rintro e wz ⟨rfl, hp, hg⟩
      have TZ := Lib.hid (Tw5e.out.call hp hg)
      clear hp hg
      obtain ⟨c0, c1, c2, c3, c4, c5, c6⟩ := TZ.out.ex.c
      obtain ⟨d0, d1, d2, d3, d4, d5, d6⟩ := TZ.out.res.c
      have f := TZ.out.res.fz
      have rl := TZ.out.res.lt
      have xl := TZ.out.ex.lt
      go_wp2_with fail
      refine bodyPost_ret (results_ex rfl rfl (TZ.out.res.put nm ⟨1, wk, V, 0, 0, []⟩)) rfl ?_
      exact ⟨⟨_, _, rfl, Pen.kept TZ.out.pen (grown_put7 (grown_refl _ (some g0)) _ _ _ _ _ _ _) (.inr (Nat.le_trans TZ.out.up TZ.out.new0)), Z.out⟩, grown_past TZ.out.grown (grown_put7 (grown_refl _ (some g0)) _ _ _ _ _ _ _) TZ.out.new0⟩
  by_cases h2 : K = 2
  · subst h2
    rw [if_neg (by decide), if_pos rfl] at SK
    have S1 := Lib.hid (sim_ul xs s1)
    go_wp2_with fail
    refine (pen_ul T4.out.pen).mono ?_
    rintro e w5 ⟨rfl, hp, hg⟩
    have Tw5 := Lib.hid (T4.out.call hp hg)
    clear hp hg T4
    obtain ⟨V, hV⟩ : ∃ z, z = (ulS xs s1).1 := ⟨_, rfl⟩
    obtain ⟨s2, hs2⟩ : ∃ z, z = (ulS xs s1).2 := ⟨_, rfl⟩
    rw [← hV, ← hs2] at S1
    rw [← hs2] at Tw5
    rw [← hV]
    clear hV hs2
    have f1 := Tw5.out.ex.fz
    have gl5 := Tw5.out.ex.lt
    have c5 := Tw5.out.ex.c
    go_upto_region 17 with fail
    have Tw5z0 := Lib.hid (Tw5.out.set (grown_setCell (i := 1) (grown_refl _ (some gx)) (.int .i64 2)) (Tw5.out.ex.kind 2))
    have Tw5z0z1 := Lib.hid (Tw5z0.out.set (grown_setCell (i := 3) (grown_refl _ (some gx)) (.int .u64 V)) (Tw5z0.out.ex.value V))
    obtain ⟨w5e, hwe⟩ : ∃ we, ((w5.setCell ⟨gx, 1, none⟩ (.int .i64 2)).setCell ⟨gx, 3, none⟩ (.int .u64 V)) = we := ⟨_, rfl⟩
    rw [hwe] at Tw5z0z1
    (try rw [hwe])
    have Tw5e := Lib.hid Tw5z0z1.out
    clear hwe f1 gl5 c5
    have SX := Lib.hid (show Sim sayP xs s (⟨2, wk, V, 0, 0, []⟩ : Ex) s2 from Sim.B S0.out (by rw [SK.out]; exact Sim.B S1.out (Sim.R _ _)))
    have hp9 : s.1 ≤ s2.1 := SX.out.le
    have hl9 : s2.1 ≤ xs.length := Pen.le Tw5e.out.pen
    obtain ⟨P, hP⟩ : ∃ P, P = s.1 := ⟨_, rfl⟩
    obtain ⟨Q, hQ⟩ : ∃ Q, Q = s2.1 := ⟨_, rfl⟩
    have PA := Lib.hid (pen_at Tw5e.out.pen)
    rw [← hQ] at PA
    rw [← hP, ← hQ] at hp9
    rw [← hQ] at hl9
    rw [← hP] at hle
    (try rw [← hP])
    have HPQ := Lib.hid (And.intro hP hQ)
    clear hP hQ
    go_wp2_with fail
    refine PA.out.mono ?_
    rintro e w9 ⟨rfl, rfl⟩
    obtain ⟨D, hD1, hD2, hD3, hD4⟩ : ∃ D : Int, (Q : Int) - (P : Int) = D ∧ D = ((Q - P : Nat) : Int) ∧ 0 ≤ D ∧ D ≤ 140737488355328 := ⟨_, rfl, by omega, by omega, by omega⟩
    have HD2 := Lib.hid hD2
    clear hD2
    by_cases hq : D = size
    · have Z := Lib.hid (show Sim (psZ sayP size) xs s (⟨2, wk, V, 0, 0, []⟩ : Ex) s2 by
        have h := SX.out.Z (k := size)
        rw [← HPQ.out.1, ← HPQ.out.2, ← HD2.out, hq, decide_eq_true rfl] at h
        simp only [Bool.not_true, Bool.or_false] at h
        rw [HPQ.out.2] at h
        exact h)
      have hqf : (D != size) = false := by rw [hq]; simp
      obtain ⟨c0, c1, c2, c3, c4, c5, c6⟩ := Tw5e.out.ex.c
      obtain ⟨d0, d1, d2, d3, d4, d5, d6⟩ := Tw5e.out.res.c
      have f := Tw5e.out.res.fz
      have rl := Tw5e.out.res.lt
      have xl := Tw5e.out.ex.lt
      clear hq
      go_wp2_with fail
      refine bodyPost_ret (results_ex rfl rfl (Tw5e.out.res.put nm ⟨2, wk, V, 0, 0, []⟩)) rfl ?_
      exact ⟨⟨_, _, rfl, Pen.kept Tw5e.out.pen (grown_put7 (grown_refl _ (some g0)) _ _ _ _ _ _ _) (.inr (Nat.le_trans Tw5e.out.up Tw5e.out.new0)), Z.out⟩, grown_past Tw5e.out.grown (grown_put7 (grown_refl _ (some g0)) _ _ _ _ _ _ _) Tw5e.out.new0⟩
    · have Z := Lib.hid (show Sim (psZ sayP size) xs s (⟨2, wk, V, 0, 0, []⟩ : Ex) (s2.1, true) by
        have h := SX.out.Z (k := size)
        rw [← HPQ.out.1, ← HPQ.out.2, ← HD2.out, decide_eq_false hq] at h
        simp only [Bool.not_false, Bool.or_true] at h
        rw [← HPQ.out.2]
        exact h)
      have hqf : (D != size) = true := by simpa using hq
      clear hq
      go_wp2_with fail
      refine (pen_fl Tw5e.out.pen).mono ?_
      rintro e wz ⟨rfl, hp, hg⟩
      have TZ := Lib.hid (Tw5e.out.call hp hg)
      clear hp hg
      obtain ⟨c0, c1, c2, c3, c4, c5, c6⟩ := TZ.out.ex.c
      obtain ⟨d0, d1, d2, d3, d4, d5, d6⟩ := TZ.out.res.c
      have f := TZ.out.res.fz
      have rl := TZ.out.res.lt
      have xl := TZ.out.ex.lt
      go_wp2_with fail
      refine bodyPost_ret (results_ex rfl rfl (TZ.out.res.put nm ⟨2, wk, V, 0, 0, []⟩)) rfl ?_
      exact ⟨⟨_, _, rfl, Pen.kept TZ.out.pen (grown_put7 (grown_refl _ (some g0)) _ _ _ _ _ _ _) (.inr (Nat.le_trans TZ.out.up TZ.out.new0)), Z.out⟩, grown_past TZ.out.grown (grown_put7 (grown_refl _ (some g0)) _ _ _ _ _ _ _) TZ.out.new0⟩
  by_cases h8 : K = 8
  · subst h8
    rw [if_neg (by decide), if_neg (by decide), if_pos rfl] at SK
    have S1 := Lib.hid (sim_ul xs s1)
    go_wp2_with fail
    refine (pen_ul T4.out.pen).mono ?_
    rintro e w5 ⟨rfl, hp, hg⟩
    have Tw5 := Lib.hid (T4.out.call hp hg)
    clear hp hg T4
    obtain ⟨V, hV⟩ : ∃ z, z = (ulS xs s1).1 := ⟨_, rfl⟩
    obtain ⟨s2, hs2⟩ : ∃ z, z = (ulS xs s1).2 := ⟨_, rfl⟩
    rw [← hV, ← hs2] at S1
    rw [← hs2] at Tw5
    rw [← hV]
    clear hV hs2
    have f1 := Tw5.out.ex.fz
    have gl5 := Tw5.out.ex.lt
    have c5 := Tw5.out.ex.c
    go_upto_region 13 with fail
    have Tw5z0 := Lib.hid (Tw5.out.set (grown_setCell (i := 1) (grown_refl _ (some gx)) (.int .i64 3)) (Tw5.out.ex.kind 3))
    have Tw5z0z1 := Lib.hid (Tw5z0.out.set (grown_setCell (i := 5) (grown_refl _ (some gx)) (.int .u64 V)) (Tw5z0.out.ex.ordinal V))
    obtain ⟨w5e, hwe⟩ : ∃ we, ((w5.setCell ⟨gx, 1, none⟩ (.int .i64 3)).setCell ⟨gx, 5, none⟩ (.int .u64 V)) = we := ⟨_, rfl⟩
    rw [hwe] at Tw5z0z1
    (try rw [hwe])
    have Tw5e := Lib.hid Tw5z0z1.out
    clear hwe f1 gl5 c5
    have S2 := Lib.hid (sim_tx xs s2)
    go_wp2_with fail
    refine (pen_tx Tw5e.out.pen).mono ?_
    rintro e w6 ⟨rfl, hp, hg⟩
    have Tw6 := Lib.hid (Tw5e.out.call hp hg)
    clear hp hg Tw5e
    obtain ⟨T, hV⟩ : ∃ z, z = (txS xs s2).1 := ⟨_, rfl⟩
    obtain ⟨s3, hs2⟩ : ∃ z, z = (txS xs s2).2 := ⟨_, rfl⟩
    rw [← hV, ← hs2] at S2
    rw [← hs2] at Tw6
    rw [← hV]
    clear hV hs2
    have f1 := Tw6.out.ex.fz
    have gl5 := Tw6.out.ex.lt
    have c5 := Tw6.out.ex.c
    go_upto_region 17 with fail
    have Tw6z0 := Lib.hid (Tw6.out.set (grown_setCell (i := 6) (grown_refl _ (some gx)) (.string (strOfNums T))) (Tw6.out.ex.other T))
    obtain ⟨w6e, hwe⟩ : ∃ we, (w6.setCell ⟨gx, 6, none⟩ (.string (strOfNums T))) = we := ⟨_, rfl⟩
    rw [hwe] at Tw6z0
    (try rw [hwe])
    have Tw6e := Lib.hid Tw6z0.out
    clear hwe f1 gl5 c5
    have SX := Lib.hid (show Sim sayP xs s (⟨3, wk, 0, 0, V, T⟩ : Ex) s3 from Sim.B S0.out (by rw [SK.out]; exact Sim.B S1.out (Sim.B S2.out (Sim.R _ _))))
    have hp9 : s.1 ≤ s3.1 := SX.out.le
    have hl9 : s3.1 ≤ xs.length := Pen.le Tw6e.out.pen
    obtain ⟨P, hP⟩ : ∃ P, P = s.1 := ⟨_, rfl⟩
    obtain ⟨Q, hQ⟩ : ∃ Q, Q = s3.1 := ⟨_, rfl⟩
    have PA := Lib.hid (pen_at Tw6e.out.pen)
    rw [← hQ] at PA
    rw [← hP, ← hQ] at hp9
    rw [← hQ] at hl9
    rw [← hP] at hle
    (try rw [← hP])
    have HPQ := Lib.hid (And.intro hP hQ)
    clear hP hQ
    go_wp2_with fail
    refine PA.out.mono ?_
    rintro e w9 ⟨rfl, rfl⟩
    obtain ⟨D, hD1, hD2, hD3, hD4⟩ : ∃ D : Int, (Q : Int) - (P : Int) = D ∧ D = ((Q - P : Nat) : Int) ∧ 0 ≤ D ∧ D ≤ 140737488355328 := ⟨_, rfl, by omega, by omega, by omega⟩
    have HD2 := Lib.hid hD2
    clear hD2
    by_cases hq : D = size
    · have Z := Lib.hid (show Sim (psZ sayP size) xs s (⟨3, wk, 0, 0, V, T⟩ : Ex) s3 by
        have h := SX.out.Z (k := size)
        rw [← HPQ.out.1, ← HPQ.out.2, ← HD2.out, hq, decide_eq_true rfl] at h
        simp only [Bool.not_true, Bool.or_false] at h
        rw [HPQ.out.2] at h
        exact h)
      have hqf : (D != size) = false := by rw [hq]; simp
      obtain ⟨c0, c1, c2, c3, c4, c5, c6⟩ := Tw6e.out.ex.c
      obtain ⟨d0, d1, d2, d3, d4, d5, d6⟩ := Tw6e.out.res.c
      have f := Tw6e.out.res.fz
      have rl := Tw6e.out.res.lt
      have xl := Tw6e.out.ex.lt
      clear hq
      go_wp2_with fail
      refine bodyPost_ret (results_ex rfl rfl (Tw6e.out.res.put nm ⟨3, wk, 0, 0, V, T⟩)) rfl ?_
      exact ⟨⟨_, _, rfl, Pen.kept Tw6e.out.pen (grown_put7 (grown_refl _ (some g0)) _ _ _ _ _ _ _) (.inr (Nat.le_trans Tw6e.out.up Tw6e.out.new0)), Z.out⟩, grown_past Tw6e.out.grown (grown_put7 (grown_refl _ (some g0)) _ _ _ _ _ _ _) Tw6e.out.new0⟩
    · have Z := Lib.hid (show Sim (psZ sayP size) xs s (⟨3, wk, 0, 0, V, T⟩ : Ex) (s3.1, true) by
        have h := SX.out.Z (k := size)
        rw [← HPQ.out.1, ← HPQ.out.2, ← HD2.out, decide_eq_false hq] at h
        simp only [Bool.not_false, Bool.or_true] at h
        rw [← HPQ.out.2]
        exact h)
      have hqf : (D != size) = true := by simpa using hq
      clear hq
      go_wp2_with fail
      refine (pen_fl Tw6e.out.pen).mono ?_
      rintro e wz ⟨rfl, hp, hg⟩
      have TZ := Lib.hid (Tw6e.out.call hp hg)
      clear hp hg
      obtain ⟨c0, c1, c2, c3, c4, c5, c6⟩ := TZ.out.ex.c
      obtain ⟨d0, d1, d2, d3, d4, d5, d6⟩ := TZ.out.res.c
      have f := TZ.out.res.fz
      have rl := TZ.out.res.lt
      have xl := TZ.out.ex.lt
      go_wp2_with fail
      refine bodyPost_ret (results_ex rfl rfl (TZ.out.res.put nm ⟨3, wk, 0, 0, V, T⟩)) rfl ?_
      exact ⟨⟨_, _, rfl, Pen.kept TZ.out.pen (grown_put7 (grown_refl _ (some g0)) _ _ _ _ _ _ _) (.inr (Nat.le_trans TZ.out.up TZ.out.new0)), Z.out⟩, grown_past TZ.out.grown (grown_put7 (grown_refl _ (some g0)) _ _ _ _ _ _ _) TZ.out.new0⟩
  by_cases h16 : K = 16
  · subst h16
    rw [if_neg (by decide), if_neg (by decide), if_neg (by decide), if_pos rfl] at SK
    have S1 := Lib.hid (sim_ul xs s1)
    go_wp2_with fail
    refine (pen_ul T4.out.pen).mono ?_
    rintro e w5 ⟨rfl, hp, hg⟩
    have Tw5 := Lib.hid (T4.out.call hp hg)
    clear hp hg T4
    obtain ⟨V, hV⟩ : ∃ z, z = (ulS xs s1).1 := ⟨_, rfl⟩
    obtain ⟨s2, hs2⟩ : ∃ z, z = (ulS xs s1).2 := ⟨_, rfl⟩
    rw [← hV, ← hs2] at S1
    rw [← hs2] at Tw5
    rw [← hV]
    clear hV hs2
    have f1 := Tw5.out.ex.fz
    have gl5 := Tw5.out.ex.lt
    have c5 := Tw5.out.ex.c
    go_upto_region 16 with fail
    have Tw5z0 := Lib.hid (Tw5.out.set (grown_setCell (i := 1) (grown_refl _ (some gx)) (.int .i64 4)) (Tw5.out.ex.kind 4))
    have Tw5z0z1 := Lib.hid (Tw5z0.out.set (grown_setCell (i := 3) (grown_refl _ (some gx)) (.int .u64 V)) (Tw5z0.out.ex.value V))
    obtain ⟨w5e, hwe⟩ : ∃ we, ((w5.setCell ⟨gx, 1, none⟩ (.int .i64 4)).setCell ⟨gx, 3, none⟩ (.int .u64 V)) = we := ⟨_, rfl⟩
    rw [hwe] at Tw5z0z1
    (try rw [hwe])
    have Tw5e := Lib.hid Tw5z0z1.out
    clear hwe f1 gl5 c5
    have S2 := Lib.hid (sim_ul xs s2)
    go_wp2_with fail
    refine (pen_ul Tw5e.out.pen).mono ?_
    rintro e w6 ⟨rfl, hp, hg⟩
    have Tw6 := Lib.hid (Tw5e.out.call hp hg)
    clear hp hg Tw5e
    obtain ⟨R, hV⟩ : ∃ z, z = (ulS xs s2).1 := ⟨_, rfl⟩
    obtain ⟨s3, hs2⟩ : ∃ z, z = (ulS xs s2).2 := ⟨_, rfl⟩
    rw [← hV, ← hs2] at S2
    rw [← hs2] at Tw6
    rw [← hV]
    clear hV hs2
    have f1 := Tw6.out.ex.fz
    have gl5 := Tw6.out.ex.lt
    have c5 := Tw6.out.ex.c
    go_upto_region 17 with fail
    have Tw6z0 := Lib.hid (Tw6.out.set (grown_setCell (i := 4) (grown_refl _ (some gx)) (.int .u64 R)) (Tw6.out.ex.resolver R))
    obtain ⟨w6e, hwe⟩ : ∃ we, (w6.setCell ⟨gx, 4, none⟩ (.int .u64 R)) = we := ⟨_, rfl⟩
    rw [hwe] at Tw6z0
    (try rw [hwe])
    have Tw6e := Lib.hid Tw6z0.out
    clear hwe f1 gl5 c5
    have SX := Lib.hid (show Sim sayP xs s (⟨4, wk, V, R, 0, []⟩ : Ex) s3 from Sim.B S0.out (by rw [SK.out]; exact Sim.B S1.out (Sim.B S2.out (Sim.R _ _))))
    have hp9 : s.1 ≤ s3.1 := SX.out.le
    have hl9 : s3.1 ≤ xs.length := Pen.le Tw6e.out.pen
    obtain ⟨P, hP⟩ : ∃ P, P = s.1 := ⟨_, rfl⟩
    obtain ⟨Q, hQ⟩ : ∃ Q, Q = s3.1 := ⟨_, rfl⟩
    have PA := Lib.hid (pen_at Tw6e.out.pen)
    rw [← hQ] at PA
    rw [← hP, ← hQ] at hp9
    rw [← hQ] at hl9
    rw [← hP] at hle
    (try rw [← hP])
    have HPQ := Lib.hid (And.intro hP hQ)
    clear hP hQ
    go_wp2_with fail
    refine PA.out.mono ?_
    rintro e w9 ⟨rfl, rfl⟩
    obtain ⟨D, hD1, hD2, hD3, hD4⟩ : ∃ D : Int, (Q : Int) - (P : Int) = D ∧ D = ((Q - P : Nat) : Int) ∧ 0 ≤ D ∧ D ≤ 140737488355328 := ⟨_, rfl, by omega, by omega, by omega⟩
    have HD2 := Lib.hid hD2
    clear hD2
    by_cases hq : D = size
    · have Z := Lib.hid (show Sim (psZ sayP size) xs s (⟨4, wk, V, R, 0, []⟩ : Ex) s3 by
        have h := SX.out.Z (k := size)
        rw [← HPQ.out.1, ← HPQ.out.2, ← HD2.out, hq, decide_eq_true rfl] at h
        simp only [Bool.not_true, Bool.or_false] at h
        rw [HPQ.out.2] at h
        exact h)
      have hqf : (D != size) = false := by rw [hq]; simp
      obtain ⟨c0, c1, c2, c3, c4, c5, c6⟩ := Tw6e.out.ex.c
      obtain ⟨d0, d1, d2, d3, d4, d5, d6⟩ := Tw6e.out.res.c
      have f := Tw6e.out.res.fz
      have rl := Tw6e.out.res.lt
      have xl := Tw6e.out.ex.lt
      clear hq
      go_wp2_with fail
      refine bodyPost_ret (results_ex rfl rfl (Tw6e.out.res.put nm ⟨4, wk, V, R, 0, []⟩)) rfl ?_
      exact ⟨⟨_, _, rfl, Pen.kept Tw6e.out.pen (grown_put7 (grown_refl _ (some g0)) _ _ _ _ _ _ _) (.inr (Nat.le_trans Tw6e.out.up Tw6e.out.new0)), Z.out⟩, grown_past Tw6e.out.grown (grown_put7 (grown_refl _ (some g0)) _ _ _ _ _ _ _) Tw6e.out.new0⟩
    · have Z := Lib.hid (show Sim (psZ sayP size) xs s (⟨4, wk, V, R, 0, []⟩ : Ex) (s3.1, true) by
        have h := SX.out.Z (k := size)
        rw [← HPQ.out.1, ← HPQ.out.2, ← HD2.out, decide_eq_false hq] at h
        simp only [Bool.not_false, Bool.or_true] at h
        rw [← HPQ.out.2]
        exact h)
      have hqf : (D != size) = true := by simpa using hq
      clear hq
      go_wp2_with fail
      refine (pen_fl Tw6e.out.pen).mono ?_
      rintro e wz ⟨rfl, hp, hg⟩
      have TZ := Lib.hid (Tw6e.out.call hp hg)
      clear hp hg
      obtain ⟨c0, c1, c2, c3, c4, c5, c6⟩ := TZ.out.ex.c
      obtain ⟨d0, d1, d2, d3, d4, d5, d6⟩ := TZ.out.res.c
      have f := TZ.out.res.fz
      have rl := TZ.out.res.lt
      have xl := TZ.out.ex.lt
      go_wp2_with fail
      refine bodyPost_ret (results_ex rfl rfl (TZ.out.res.put nm ⟨4, wk, V, R, 0, []⟩)) rfl ?_
      exact ⟨⟨_, _, rfl, Pen.kept TZ.out.pen (grown_put7 (grown_refl _ (some g0)) _ _ _ _ _ _ _) (.inr (Nat.le_trans TZ.out.up TZ.out.new0)), Z.out⟩, grown_past TZ.out.grown (grown_put7 (grown_refl _ (some g0)) _ _ _ _ _ _ _) TZ.out.new0⟩
  rw [if_neg h0, if_neg h2, if_neg h8, if_neg h16] at SK
  have b0 : (K == 0) = false := by simpa using h0
  have b2 : (K == 2) = false := by simpa using h2
  have b8 : (K == 8) = false := by simpa using h8
  have b16 : (K == 16) = false := by simpa using h16
  go_wp2_with fail
  refine (pen_fl T4.out.pen).mono ?_
  rintro e w5 ⟨rfl, hp, hg⟩
  have Tw5e := Lib.hid (T4.out.call hp hg)
  clear hp hg
  obtain ⟨s2, hs2⟩ : ∃ s2, s2 = (s1.1, true) := ⟨_, rfl⟩
  have SX := Lib.hid (show Sim sayP xs s (⟨0, wk, 0, 0, 0, []⟩ : Ex) s2 from Sim.B S0.out (by rw [SK.out, hs2]; exact Sim.F _ (Nat.le_refl _) rfl))
  rw [← hs2] at Tw5e
  clear hs2
  have hp9 : s.1 ≤ s2.1 := SX.out.le
  have hl9 : s2.1 ≤ xs.length := Pen.le Tw5e.out.pen
  obtain ⟨P, hP⟩ : ∃ P, P = s.1 := ⟨_, rfl⟩
  obtain ⟨Q, hQ⟩ : ∃ Q, Q = s2.1 := ⟨_, rfl⟩
  have PA := Lib.hid (pen_at Tw5e.out.pen)
  rw [← hQ] at PA
  rw [← hP, ← hQ] at hp9
  rw [← hQ] at hl9
  rw [← hP] at hle
  (try rw [← hP])
  have HPQ := Lib.hid (And.intro hP hQ)
  clear hP hQ
  go_wp2_with fail
  refine PA.out.mono ?_
  rintro e w9 ⟨rfl, rfl⟩
  obtain ⟨D, hD1, hD2, hD3, hD4⟩ : ∃ D : Int, (Q : Int) - (P : Int) = D ∧ D = ((Q - P : Nat) : Int) ∧ 0 ≤ D ∧ D ≤ 140737488355328 := ⟨_, rfl, by omega, by omega, by omega⟩
  have HD2 := Lib.hid hD2
  clear hD2
  by_cases hq : D = size
  · have Z := Lib.hid (show Sim (psZ sayP size) xs s (⟨0, wk, 0, 0, 0, []⟩ : Ex) s2 by
      have h := SX.out.Z (k := size)
      rw [← HPQ.out.1, ← HPQ.out.2, ← HD2.out, hq, decide_eq_true rfl] at h
      simp only [Bool.not_true, Bool.or_false] at h
      rw [HPQ.out.2] at h
      exact h)
    have hqf : (D != size) = false := by rw [hq]; simp
    obtain ⟨c0, c1, c2, c3, c4, c5, c6⟩ := Tw5e.out.ex.c
    obtain ⟨d0, d1, d2, d3, d4, d5, d6⟩ := Tw5e.out.res.c
    have f := Tw5e.out.res.fz
    have rl := Tw5e.out.res.lt
    have xl := Tw5e.out.ex.lt
    clear hq
    go_wp2_with fail
    refine bodyPost_ret (results_ex rfl rfl (Tw5e.out.res.put nm ⟨0, wk, 0, 0, 0, []⟩)) rfl ?_
    exact ⟨⟨_, _, rfl, Pen.kept Tw5e.out.pen (grown_put7 (grown_refl _ (some g0)) _ _ _ _ _ _ _) (.inr (Nat.le_trans Tw5e.out.up Tw5e.out.new0)), Z.out⟩, grown_past Tw5e.out.grown (grown_put7 (grown_refl _ (some g0)) _ _ _ _ _ _ _) Tw5e.out.new0⟩
  · have Z := Lib.hid (show Sim (psZ sayP size) xs s (⟨0, wk, 0, 0, 0, []⟩ : Ex) (s2.1, true) by
      have h := SX.out.Z (k := size)
      rw [← HPQ.out.1, ← HPQ.out.2, ← HD2.out, decide_eq_false hq] at h
      simp only [Bool.not_false, Bool.or_true] at h
      rw [← HPQ.out.2]
      exact h)
    have hqf : (D != size) = true := by simpa using hq
    clear hq
    go_wp2_with fail
    refine (pen_fl Tw5e.out.pen).mono ?_
    rintro e wz ⟨rfl, hp, hg⟩
    have TZ := Lib.hid (Tw5e.out.call hp hg)
    clear hp hg
    obtain ⟨c0, c1, c2, c3, c4, c5, c6⟩ := TZ.out.ex.c
    obtain ⟨d0, d1, d2, d3, d4, d5, d6⟩ := TZ.out.res.c
    have f := TZ.out.res.fz
    have rl := TZ.out.res.lt
    have xl := TZ.out.ex.lt
    go_wp2_with fail
    refine bodyPost_ret (results_ex rfl rfl (TZ.out.res.put nm ⟨0, wk, 0, 0, 0, []⟩)) rfl ?_
    exact ⟨⟨_, _, rfl, Pen.kept TZ.out.pen (grown_put7 (grown_refl _ (some g0)) _ _ _ _ _ _ _) (.inr (Nat.le_trans TZ.out.up TZ.out.new0)), Z.out⟩, grown_past TZ.out.grown (grown_put7 (grown_refl _ (some g0)) _ _ _ _ _ _ _) TZ.out.new0⟩
end Go.Proofs.Ytblfighfahffkaa
