/- A symbol taken in, where a text ends at its name's place: (*nlist.telling).add. Conditions: the telling is in memory; its names are bytes. -/
import Derived.Test.YtlmgkofbjcahaaaNlA
namespace Go.Proofs.Ytlmgkofbjcahaaa
open Go.RowKit Go.Maps
variable {w w' : World} {B g a lo hi m : Nat} {v : Value} {ys : List Int} {n : Int} {p : Nat} {D : Syms}

theorem addE_text {q : Nat} (hq : q ≤ ys.length ∧ (pre (ys.drop q)).length < (ys.drop q).length) :
    addE ys D q = if pre (ys.drop q) = [] then 13 else if 255 < (pre (ys.drop q)).length then 10 else if nlHas D (pre (ys.drop q)) = true then 21 else if D.length = 4096 then 11 else 0 := by
  have h2 := hq.2
  rw [List.length_drop] at h2
  unfold addE nmErr
  rw [Int.toNat_natCast, if_neg (show ¬ (ys.length : Int) ≤ (q : Int) by omega)]
  by_cases h : pre (ys.drop q) = []
  · have h3 : (pre (ys.drop q) = [] ∨ (ys.drop q).length ≤ (pre (ys.drop q)).length) := .inl h
    rw [if_pos h3, if_pos h]; rfl
  · have h3 : ¬ (pre (ys.drop q) = [] ∨ (ys.drop q).length ≤ (pre (ys.drop q)).length) := fun e => e.elim h (fun e => absurd hq.2 (by omega))
    rw [if_neg h3, if_neg h]
    by_cases h4 : 255 < (pre (ys.drop q)).length
    · rw [if_pos h4, if_pos h4]; rfl
    · rw [if_neg h4, if_neg h4]; rfl
/-- What taking in came to. -/
structure AddOut (w w' : World) (B g a lo hi m : Nat) (ys : List Int) (n : Int) (D D' : Syms) (E : Int) (e : Ending) : Prop where
  ret : e = .returned (.int .i64 E)
  below : Below B w w'
  tel : E = 0 → ∃ v' p', TelAt w' B g a lo hi m v' ys n p' D'
set_option maxRecDepth 20000 in
set_option maxHeartbeats 1600000 in
theorem add_some (h : TelAt w B g a lo hi m v ys n p D) (hok : SymsOk D) (hy : Byt ys) (q : Nat) (hq : q ≤ ys.length ∧ (pre (ys.drop q)).length < (ys.drop q).length) (h32 : (q : Int) < 4294967296) (x : Sy) :
    Calls Try.prog 34 #[.pointer (some ⟨g, 0, none⟩), syV ⟨#[]⟩ x, .int .u64 q] w fun e w' => AddOut w w' B g a lo hi m ys n D (D ++ [(pre (ys.drop q), x)]) (addE ys D q) e := by
  have hBw : B ≤ w.heap.size := Nat.le_trans h.lo (Nat.le_trans (Nat.le_of_lt (Nat.lt_of_le_of_lt h.pen.lw h.pen.up)) h.pen.sz)
  have hBa : B ≤ a := Nat.le_trans h.lo h.pen.lw
  have g0 := grown1 w (.cells #[.string ⟨#[]⟩, .int .i64 x.sec, .int .u64 x.value, .bool x.weak] 32)
  have t0 := h.grown g0
  have s0 := SyAt.new w ⟨#[]⟩ x
  have OFF := h.new (Nat.le_refl w.heap.size)
  obtain ⟨X, hX⟩ : ∃ X, X = w.heap.size := ⟨_, rfl⟩
  rw [← hX] at s0 OFF
  obtain ⟨W, hW⟩ : ∃ W, W = w.alloc (.cells #[.string ⟨#[]⟩, .int .i64 x.sec, .int .u64 x.value, .bool x.weak] 32) := ⟨_, rfl⟩
  rw [← hW] at g0 t0 s0
  have hBX : B ≤ X := by rw [hX]; exact hBw
  have B0 := Lib.hid (below_grown g0 hBw (by simp) : Below B w W)
  have hBW : B ≤ W.heap.size := Nat.le_trans hBw g0.size
  have hXa : X ≠ a := fun e => by have := h.pen.lt; omega
  have hga : g ≠ a := fun e => by have := h.hg; have := h.pen.up; omega
  have SK := Lib.hid (pen_seek t0.pen q hq.1)
  have LF := Lib.hid (fun (V : World) (hp : Pen V lo hi a ys q false false) => pen_left hp)
  have TX := Lib.hid (fun (V : World) (hp : Pen V lo hi a ys q false false) => pen_text_ok hp ((ys.length : Int) - q) ⟨hq.2, by have := hq.2; rw [List.length_drop] at this; omega⟩)
  have hT0 : Byt (pre (ys.drop q)) := (hy.drop q).pre
  have hTl : (pre (ys.drop q)).length < ys.length - q := by have := hq.2; rwa [List.length_drop] at this
  have hbig := h.pen.most
  obtain ⟨E, hE⟩ : ∃ E, E = addE ys D q := ⟨_, rfl⟩
  rw [← hE]
  rw [addE_text hq] at hE
  obtain ⟨T, hT⟩ : ∃ T, T = pre (ys.drop q) := ⟨_, rfl⟩
  rw [← hT] at TX hT0 hTl hE ⊢
  have T0 := Lib.hid t0
  have c0 := t0.c.1
  have S0 := Lib.hid s0
  have HW := Lib.hid hW
  have HX := Lib.hid hX
  have HO := Lib.hid hok
  have BT := Lib.hid hT0
  have HE := Lib.hid hE
  have n1 := text_nil T
  have hsz : (strOfNums T).size = T.length := strOfNums_size _
  have hTm : T.length ≤ 140737488355328 := by omega
  clear h g0 t0 s0 hq hok hy hT hE hT0 hTl hbig hBw
  unfold syV syArr
  go_enter Try.func34, Try.ntmps34
  go_upto_region 1 with fail
  rw [← HW.out, ← HX.out]
  clear HW HX hW hX
  go_wp2_with fail
  refine SK.out.mono ?_
  rintro e w1 ⟨rfl, hp, hg⟩
  have t1 := T0.out.moved hg hp
  have S1 := Lib.hid (S0.out.kept hg (fun e => by injection e with e; exact hXa e.symm))
  have B1 := Lib.hid (B0.out.trans (below_grown hg hBW (by simp; exact hBa)) : Below B w w1)
  have hB1 : B ≤ w1.heap.size := Nat.le_trans hBW hg.size
  have t1' : TelAt w1.drew B g a lo hi m v ys n q D := t1.grown (show w1.grownBy w1.drew none from grown_drewN (grown_refl w1 none) 1)
  have T1 := Lib.hid t1
  have k0 := t1.c.1
  have LF1 := Lib.hid (LF.out _ t1'.pen)
  have TX1 := Lib.hid (fun k => TX.out (w1.drewN k) (t1.drewN k).pen)
  have ST := Lib.hid (fun k w3 p3 (hg3 : (w1.drewN k).grownBy w3 (some a)) (hp3 : Pen w3 lo hi a ys p3 false false) => (t1.drewN k).moved hg3 hp3)
  have SS := Lib.hid (fun k w3 (hg3 : (w1.drewN k).grownBy w3 (some a)) => (S1.out.kept (grown_drewN (grown_refl w1 none) k) (by simp)).kept hg3 (fun e => by injection e with e; exact hXa e.symm))
  clear hg hp t1 t1' c0 SK LF TX T0 S0 B0
  go_wp2
  go_region_held3 (fun V => V.cell? ⟨g, 0, none⟩ = some (.pointer (some ⟨a, 0, none⟩)))
    (first | exact k0 | exact k3 | exact k4)
    (first
      | (go_at_call 42; (with_reducible refine (LF1.out).mono ?_); rintro e w2 ⟨rfl, j, rfl⟩)
      | (go_at_call 41; (with_reducible refine (TX1.out _).mono ?_); rintro e w3 ⟨rfl, hp3, hg3⟩; have t3 := ST.out _ _ _ hg3 hp3; have k3 := t3.c.1; have S3 := SS.out _ _ hg3; have x3 := S3.c.1; have f3 := S3.fz 0; have l3 := S3.lt; have k4 := (grown_setCell (i := 0) (grown_refl w3 (some X)) (.string (strOfNums T))).cell k3 (fun e => by injection e with e; exact OFF.g e.symm)))
  have S4 := S3.s0 (strOfNums T)
  have gs := grown_setCell (i := 0) (grown_refl w3 (some X)) (.string (strOfNums T))
  have t4 := t3.keptA gs OFF
  have B4 := Lib.hid (B1.out.trans (below_grown (grown_trans (grown_drewN (grown_refl w1 (some a)) (1 + j)) hg3) hB1 (by simp; exact hBa)) |>.trans (below_grown gs (Nat.le_trans hB1 hg3.size) (by simp; exact hBX)) : Below B w _)
  obtain ⟨W4, hW4⟩ : ∃ W4, W4 = w3.setCell ⟨X, 0, none⟩ (.string (strOfNums T)) := ⟨_, rfl⟩
  rw [← hW4] at B4 S4 t4 k4 ⊢
  have hl4 : B ≤ W4.heap.size := Nat.le_trans hBX (Nat.le_of_lt S4.lt)
  have gA := grown1 W4 (.cells #[] 72)
  have c3 := t4.c.2.2.2
  have d0 := S4.c.1
  have c3a := grown_cell gA c3
  have d0a := grown_cell gA d0
  have hDB : ∀ y ∈ D, Byt y.1 := fun y hy => (HO.out.each y hy).1
  have LKd := (show MetN W4.drew m D.length D from t4.met.drewN 1).look hDB BT.out hTm
  have t5 : TelAt (W4.alloc (.cells #[] 72)).drew B g a lo hi m v ys n _ D := (t4.grown gA).drewN 1
  have s5 : SyAt (W4.alloc (.cells #[] 72)).drew X (strOfNums T) x := S4.kept (grown_drewN gA 1) (by simp)
  have LKa := t5.met.look hDB BT.out hTm
  have B5 := Lib.hid (B4.out.trans (below_drewN (below_grown gA hl4 (by simp)) 1) : Below B w (W4.alloc (.cells #[] 72)).drew)
  have T5 := Lib.hid t5
  have S5 := Lib.hid s5
  have x4 := S4.lt
  obtain ⟨hs, hhs⟩ : ∃ b, b = nlHas D T := ⟨_, rfl⟩
  rw [← hhs] at LKd LKa
  have HH := Lib.hid hhs
  clear hW4 S4 S3 x3 f3 l3 hp3 hg3 k3 k0 t3 t4 gs t5 s5 gA hDB hhs k4 S1 B1 B4 T1 ST SS LF1 TX1
  go_wp2
  go_region
  all_goals
    clear LKd LKa c3 c3a d0 d0a
    have t5 := T5.out
    have d0 := S5.out.c.1
    have xl := S5.out.lt
    obtain ⟨W5, hW5⟩ : ∃ W5, W5 = (W4.alloc (.cells #[] 72)).drew := ⟨_, rfl⟩
    rw [← hW5] at T5 S5 B5 t5 d0 xl ⊢
    clear hW5
    have he := HE.out
    by_cases h1 : T = []
    · rw [decide_eq_true h1] at n1
      rw [if_pos h1] at he
      have EE := Lib.hid he
      clear h1 he t5
      go_wp2
      go_ret
      exact ⟨by rw [EE.out]; rfl, B5.out, fun h => by rw [EE.out] at h; cases h⟩
    · rw [decide_eq_false h1] at n1
      rw [if_neg h1] at he
      clear h1
      by_cases h2 : 255 < T.length
      · have d2 : decide ((255 : Int) < (T.length : Int)) = true := by simp; omega
        rw [if_pos h2] at he
        have EE := Lib.hid he
        clear h2 he t5
        go_wp2
        go_ret
        exact ⟨by rw [EE.out]; rfl, B5.out, fun h => by rw [EE.out] at h; cases h⟩
      · have d2 : decide ((255 : Int) < (T.length : Int)) = false := by simp; omega
        rw [if_neg h2, ← HH.out] at he
        clear h2
        cases hs
        · rw [if_neg (by simp)] at he
          obtain ⟨qs, cs, rfl⟩ := own_slice t5.row
          have c2 := t5.c.2.2.1
          have gl := t5.lt
          by_cases h3 : D.length = 4096
          · have d3 : ((D.length : Int) == 4096) = true := by rw [h3]; rfl
            rw [if_pos h3] at he
            have EE := Lib.hid he
            clear h3 he t5
            go_wp2
            go_ret
            exact ⟨by rw [EE.out]; rfl, B5.out, fun h => by rw [EE.out] at h; cases h⟩
          · have d3 : ((D.length : Int) == 4096) = false := by rw [beq_eq_false_iff_ne]; omega
            rw [if_neg h3] at he
            have EE := Lib.hid he
            have hfew := HO.out.few
            clear h3 he
            have c3 := t5.c.2.2.2
            obtain ⟨w6, hr6, n6, g6⟩ := (show MetN W5.drew m D.length D from t5.met.drewN 1).put (T, x) hTm (by unfold maxLen; omega)
            have g56 : W5.grownBy w6 (some m) := grown_trans (grown_drewN (grown_refl W5 (some m)) 1) g6
            have s6 := S5.out.kept g56 (fun e => by injection e with e; exact OFF.m e.symm)
            have NX := Lib.hid (fun (wa w7 : World) (v' : Value) (ka : w6.grownBy wa none) (ho : w7.ownsRow hi 32 4 v' (D.length + 1) (D.flatMap syCs ++ syCs (T, x))) (k7 : wa.grownBy w7 (Value.slice qs D.length cs).ownBlock) => t5.next (T, x) g56 n6 ka ho k7)
            have OW := Lib.hid (t5.row.kept g56 (.inr (fun e => (t5.off m e).2.1 rfl)))
            have OO := Lib.hid t5.off
            have hmg : g ≠ m := fun e => t5.ne e.symm
            have b6 := (g56.block g (lt_of_block t5.blk) (fun e => by injection e with e; exact hmg e)).trans t5.blk
            have hBhi : B ≤ hi := Nat.le_trans t5.lo (Nat.le_of_lt (Nat.lt_of_le_of_lt t5.pen.lw t5.pen.up))
            have hB5 : B ≤ W5.heap.size := Nat.le_trans hBhi t5.pen.sz
            have hB6 : B ≤ w6.heap.size := Nat.le_trans hB5 g56.size
            have hH6 : hi ≤ w6.heap.size := Nat.le_trans t5.pen.sz g56.size
            have hBg : B ≤ g := Nat.le_trans hBhi t5.hg
            have B6 := Lib.hid (B5.out.trans (below_grown g56 hB5 (by simp; exact Nat.le_trans hBhi t5.hm)) : Below B w w6)
            have BK := Lib.hid b6
            have e2 : w6.cell? ⟨g, 2, none⟩ = some (.slice qs D.length cs) := by rw [cell_of b6]; rfl
            have S6 := Lib.hid s6
            simp only [] at hr6
            clear t5 n6 g6 g56 s6 b6
            go_wp2
            go_region
            clear c3 hr6 d0 c2 gl xl n1 d2 d3
            obtain ⟨x0, x1, x2, x3⟩ := S6.out.c
            have xl := S6.out.lt
            have f2 := free_of (i := 2) BK.out
            have gl := lt_of_block BK.out
            have gA : w6.grownBy (w6.alloc (.cells #[.string (strOfNums T), .int .i64 x.sec, .int .u64 x.value, .bool x.weak] 32)).drew none := grown_drewN (grown1 w6 _) 1
            have OWA := Lib.hid (own_grown OW.out gA)
            have HNA := Lib.hid (show (w6.alloc (.cells #[.string (strOfNums T), .int .i64 x.sec, .int .u64 x.value, .bool x.weak] 32)).drew.heap[w6.heap.size]? = some (.cells ([.string (strOfNums T), .int .i64 x.sec, .int .u64 x.value, .bool x.weak] : List Value).toArray 32 (0, 0)) from heap_alloc_new w6 _)
            have ONE := Lib.hid (syCs_one (T, x))
            have GA := Lib.hid gA
            have BKA := Lib.hid (((gA.block g (lt_of_block BK.out) (by simp)).trans BK.out))
            have HLO := Lib.hid (show hi ≤ (w6.alloc (.cells #[.string (strOfNums T), .int .i64 x.sec, .int .u64 x.value, .bool x.weak] 32)).drew.heap.size from Nat.le_trans hH6 gA.size)
            have hf : (D.length + 1) * 40 ≤ 140737488355328 := by omega
            have NV := Lib.hid (fun e => (OO.out g e).1 rfl : (Value.slice qs D.length cs).ownBlock ≠ some g)
            obtain ⟨rows, hrows⟩ : ∃ r, r = D.flatMap syCs := ⟨_, rfl⟩
            rw [← hrows] at OWA NX OW
            obtain ⟨L, hL⟩ : ∃ L, L = D.length := ⟨_, rfl⟩
            rw [← hL] at OWA NX OW e2 hf OO NV BKA
            clear gA hrows hL hfew
            go_wp2
            go_region_law (refine step_append_st syType (by with_reducible rfl) _ _ (by with_reducible rfl) _ L 1 rows (by rfl) OWA.out [.string (strOfNums T), .int .i64 x.sec, .int .u64 x.value, .bool x.weak] rfl w6.heap.size (by rfl) HNA.out ONE.out hf (by decide) HLO.out ?_; intro v7 w7 ho7 hg7; obtain ⟨q7, c7, rfl⟩ := own_slice ho7; have b7 := (hg7.block g (lt_of_block BKA.out) (fun e => NV.out e.symm)).trans BKA.out; have e2' : w7.cell? ⟨g, 2, none⟩ = some (.slice qs L cs) := (by rw [cell_of b7]; rfl); have f2' := free_of (i := 2) b7; have gl' := lt_of_block b7)
            all_goals
              have TF := Lib.hid (NX.out _ w7 _ GA.out ho7 hg7)
              have BF := Lib.hid (B6.out.trans (below_grown GA.out hB6 (by simp)) |>.trans (below_grown hg7 (Nat.le_trans hB6 GA.out.size) (fun b hb => Nat.le_trans hBhi (OO.out b hb).2.2)) |>.trans (below_grown (grown_setCell (i := 2) (grown_refl w7 (some g)) (.slice q7 (L + 1) c7)) (Nat.le_trans hB6 (Nat.le_trans GA.out.size hg7.size)) (by simp; exact hBg)))
              clear ho7 hg7 b7 e2' f2' gl'
              go_wp2
              go_ret
              exact ⟨by rw [EE.out]; rfl, BF.out, fun _ => ⟨_, _, TF.out⟩⟩
        · rw [if_pos rfl] at he
          have EE := Lib.hid he
          clear he t5
          go_wp2
          go_ret
          exact ⟨by rw [EE.out]; rfl, B5.out, fun h => by rw [EE.out] at h; cases h⟩
end Go.Proofs.Ytlmgkofbjcahaaa
