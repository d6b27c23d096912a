/- The node at a cursor's place, as the program takes it: trie.take. No condition but that there is such a cursor. -/
import Derived.Test.YtblfighfahffkaaTrQ
namespace Go.Proofs.Ytblfighfahffkaa
open Go.RowKit
variable {w w' W : World} {lo hi a : Nat} {xs : List Int} {s s' : Cs}

def nmOf (nm : ByteArray) : Option Ex → ByteArray
  | none => ⟨#[]⟩
  | some _ => nm
def exOf : Option Ex → Ex
  | none => Ex.zero
  | some x => x
theorem own_ne {T T' : TypeId} {k n base g : Nat} {v : Value} {cs : Array Value} {ys : List Value} (h : w.ownsRow base T k v n ys) (hb : w.heap[g]? = some (.cells cs T' (0, 0))) (hT : T ≠ T') : v.ownBlock ≠ some g := by
  rcases h.2 with ⟨rfl, _⟩ | ⟨g', cap, cur, rfl, _, hg, _⟩
  · simp [Value.ownBlock]
  · intro e
    simp only [Value.ownBlock, Option.some.injEq] at e
    subst e
    rw [hg] at hb
    injection hb with hb
    injection hb with _ hb _
    exact hT hb
structure TnI (w0 W : World) (lo hi a : Nat) (xs : List Int) (s : Cs) (g0 g1 : Nat) (nm : ByteArray) (o : Option Ex) (l : List Kid) (v : Value) : Prop where
  pen : PenS W lo hi a xs s false
  res : NodeAt W g0 false ⟨#[]⟩ Ex.zero (.slice none 0 0)
  nod : NodeAt W g1 o.isSome (nmOf nm o) (exOf o) v
  own : W.ownsRow w0.heap.size 92 2 v l.length (l.flatMap kidCs)
  each : ∀ k ∈ l, k.1 ≠ [] ∧ Byt k.1
  grown : w0.grownBy W (some a)
  new0 : w0.heap.size ≤ g0
  new1 : w0.heap.size ≤ g1
  ne : g0 ≠ g1
  up : hi ≤ w0.heap.size
section
variable {w0 : World} {g0 g1 : Nat} {nm : ByteArray} {o : Option Ex} {l : List Kid} {v : Value}
theorem TnI.al (h : TnI w0 W lo hi a xs s g0 g1 nm o l v) : a < w0.heap.size := Nat.lt_of_lt_of_le h.pen.up h.up
theorem TnI.rowne (h : TnI w0 W lo hi a xs s g0 g1 nm o l v) : v.ownBlock = none ∨ v.ownBlock ≠ some a := by
  cases hb : v.ownBlock with
  | none => exact .inl rfl
  | some g => exact .inr (fun e => by injection e with e; have := (h.own.lt g hb).1; have := h.al; omega)
theorem TnI.call (h : TnI w0 W lo hi a xs s g0 g1 nm o l v) (hp : PenS w' lo hi a xs s' false) (hg : W.grownBy w' (some a)) : TnI w0 w' lo hi a xs s' g0 g1 nm o l v := by
  have ha := h.al
  exact ⟨hp, h.res.kept hg (by intro e; injection e with e; have := h.new0; omega), h.nod.kept hg (by intro e; injection e with e; have := h.new1; omega), h.own.kept hg h.rowne, h.each, grown_same h.grown hg, h.new0, h.new1, h.ne, h.up⟩
theorem TnI.same (h : TnI w0 W lo hi a xs s g0 g1 nm o l v) (hg : W.grownBy w' none) : TnI w0 w' lo hi a xs s g0 g1 nm o l v :=
  ⟨Pen.same h.pen hg, h.res.kept hg (by simp), h.nod.kept hg (by simp), own_grown h.own hg, h.each, grown_then h.grown hg, h.new0, h.new1, h.ne, h.up⟩
/-- Something else of the call's own has turned. -/
theorem TnI.mine (h : TnI w0 W lo hi a xs s g0 g1 nm o l v) {g : Nat} (hg : W.grownBy w' (some g)) (h0 : w0.heap.size ≤ g) (n0 : g ≠ g0) (n1 : g ≠ g1) (nv : v.ownBlock ≠ some g) : TnI w0 w' lo hi a xs s g0 g1 nm o l v :=
  ⟨Pen.kept h.pen hg (.inr (Nat.le_trans h.up h0)), h.res.kept hg (by intro e; injection e with e; exact n0 e), h.nod.kept hg (by intro e; injection e with e; exact n1 e), h.own.kept hg (.inr nv), h.each, grown_past h.grown hg h0, h.new0, h.new1, h.ne, h.up⟩
theorem TnI.said (h : TnI w0 W lo hi a xs s g0 g1 nm none l v) (x : Ex) (hg : W.grownBy w' (some g1)) (hn : NodeAt w' g1 true nm x v) : TnI w0 w' lo hi a xs s g0 g1 nm (some x) l v :=
  ⟨Pen.kept h.pen hg (.inr (Nat.le_trans h.up h.new1)), h.res.kept hg (by intro e; injection e with e; exact h.ne e.symm), hn, h.own.kept hg (.inr (own_ne h.own h.nod (by decide))), h.each, grown_past h.grown hg h.new1, h.new0, h.new1, h.ne, h.up⟩
/-- One child more: appended, then stored. -/
theorem TnI.more (h : TnI w0 W lo hi a xs s g0 g1 nm o l v) (k : Kid) (hk : k.1 ≠ [] ∧ Byt k.1) {w1 : World} {v' : Value} (ho : w1.ownsRow w0.heap.size 92 2 v' (l.length + 1) (l.flatMap kidCs ++ kidCs k)) (hg : W.grownBy w1 v.ownBlock) :
    TnI w0 (w1.setCell ⟨g1, 8, none⟩ v') lo hi a xs s g0 g1 nm o (l ++ [k]) v' := by
  have hv : ∀ g, v.ownBlock = some g → w0.heap.size ≤ g := fun g e => (h.own.lt g e).1
  have r1 : NodeAt w1 g0 false ⟨#[]⟩ Ex.zero (.slice none 0 0) := h.res.kept hg (own_ne h.own h.res (by decide))
  have n1 : NodeAt w1 g1 o.isSome (nmOf nm o) (exOf o) v := h.nod.kept hg (own_ne h.own h.nod (by decide))
  have gs := grown_setCell (i := 8) (grown_refl w1 (some g1)) v'
  have p1 := Pen.row h.pen hg (fun g e => Nat.le_trans h.up (hv g e))
  refine ⟨Pen.kept p1 gs (.inr (Nat.le_trans h.up h.new1)), r1.kept gs (by intro e; injection e with e; exact h.ne e.symm), n1.kids v', ?_, ?_, grown_past (grown_row h.grown hg (fun g e => hv g e)) gs h.new1, h.new0, h.new1, h.ne, h.up⟩
  · rw [List.length_append, List.length_singleton, List.flatMap_append, List.flatMap_singleton]
    exact ho.kept gs (.inr (own_ne ho n1 (by decide)))
  · intro x hx
    rcases List.mem_append.1 hx with hx | hx
    · exact h.each x hx
    · rw [List.mem_singleton.1 hx]; exact hk
theorem NodeAt.put (h : NodeAt W g0 false ⟨#[]⟩ Ex.zero (.slice none 0 0)) (b : Bool) (nm' : ByteArray) (y : Ex) (v' : Value) :
    NodeAt (((((((((W.setCell ⟨g0, 0, none⟩ (.bool b)).setCell ⟨g0, 1, none⟩ (.string nm')).setCell ⟨g0, 2, none⟩ (.int .i64 y.kind)).setCell ⟨g0, 3, none⟩ (.bool y.weak)).setCell ⟨g0, 4, none⟩ (.int .u64 y.value)).setCell ⟨g0, 5, none⟩ (.int .u64 y.resolver)).setCell ⟨g0, 6, none⟩ (.int .u64 y.ordinal)).setCell ⟨g0, 7, none⟩ (.string (strOfNums y.other))).setCell ⟨g0, 8, none⟩ v') g0 b nm' y v' :=
  ((((((((h.s0 b).s1 nm').s2 y.kind).s3 y.weak).s4 y.value).s5 y.resolver).s6 y.ordinal).s7 y.other).kids v'
theorem grown_put9 {w1 : World} {g : Nat} (h : W.grownBy w1 (some g)) (v0 v1 v2 v3 v4 v5 v6 v7 v8 : Value) : W.grownBy (((((((((w1.setCell ⟨g, 0, none⟩ v0).setCell ⟨g, 1, none⟩ v1).setCell ⟨g, 2, none⟩ v2).setCell ⟨g, 3, none⟩ v3).setCell ⟨g, 4, none⟩ v4).setCell ⟨g, 5, none⟩ v5).setCell ⟨g, 6, none⟩ v6).setCell ⟨g, 7, none⟩ v7).setCell ⟨g, 8, none⟩ v8) (some g) :=
  grown_setCell (grown_setCell (grown_setCell (grown_setCell (grown_setCell (grown_setCell (grown_setCell (grown_setCell (grown_setCell h _) _) _) _) _) _) _) _) _
theorem grown_put8 {w1 : World} {g : Nat} (h : W.grownBy w1 (some g)) (v0 v1 v2 v3 v4 v5 v6 v7 : Value) : W.grownBy ((((((((w1.setCell ⟨g, 0, none⟩ v0).setCell ⟨g, 1, none⟩ v1).setCell ⟨g, 2, none⟩ v2).setCell ⟨g, 3, none⟩ v3).setCell ⟨g, 4, none⟩ v4).setCell ⟨g, 5, none⟩ v5).setCell ⟨g, 6, none⟩ v6).setCell ⟨g, 7, none⟩ v7) (some g) :=
  grown_setCell (grown_setCell (grown_setCell (grown_setCell (grown_setCell (grown_setCell (grown_setCell (grown_setCell h _) _) _) _) _) _) _) _
end
/-- A node taken: its value, its children's row, the cursor. -/
structure TnOut (w w' : World) (lo hi a : Nat) (xs : List Int) (s : Cs) (nm : ByteArray) (e : Ending) : Prop where
  ex : ∃ nd v s', e = .returned (nodeV nd.ex.isSome (nmOf nm nd.ex) (exOf nd.ex) v) ∧ PenS w' lo hi a xs s' false ∧ Sim nodeP xs s nd s' ∧ w'.ownsRow w.heap.size 92 2 v nd.kids.length (nd.kids.flatMap kidCs)
  grown : w.grownBy w' (some a)

set_option maxRecDepth 20000 in
set_option maxHeartbeats 3200000 in
theorem taken_any (h : PenS w lo hi a xs s false) (nm : ByteArray) (hb : Byt xs) :
    Calls Try.prog 67 #[.pointer (some ⟨a, 0, none⟩), .string nm] w fun e w' => TnOut w w' lo hi a xs s nm e := by
  have hbig : xs.length ≤ 140737488355328 := Pen.most h
  have hhi : hi ≤ w.heap.size := h.sz
  have g1 := grown1 w (.cells #[.bool false, .string ⟨#[]⟩, .int .i64 0, .bool false, .int .u64 0, .int .u64 0, .int .u64 0, .string ⟨#[]⟩, .slice none 0 0] 53)
  have r1 : NodeAt (w.alloc (.cells #[.bool false, .string ⟨#[]⟩, .int .i64 0, .bool false, .int .u64 0, .int .u64 0, .int .u64 0, .string ⟨#[]⟩, .slice none 0 0] 53)) w.heap.size false ⟨#[]⟩ Ex.zero (.slice none 0 0) := heap_alloc_new w _
  obtain ⟨w1, hw1⟩ : ∃ w1, w.alloc (.cells #[.bool false, .string ⟨#[]⟩, .int .i64 0, .bool false, .int .u64 0, .int .u64 0, .int .u64 0, .string ⟨#[]⟩, .slice none 0 0] 53) = w1 := ⟨_, rfl⟩
  obtain ⟨g0, hg0⟩ : ∃ g0, w.heap.size = g0 := ⟨_, rfl⟩
  rw [hw1] at g1 r1
  rw [hg0] at r1
  have HW1 := Lib.hid hw1
  have HG0 := Lib.hid hg0
  have gl := r1.lt
  have g2 := grown1 w1 (.cells #[.bool false, .string ⟨#[]⟩, .int .i64 0, .bool false, .int .u64 0, .int .u64 0, .int .u64 0, .string ⟨#[]⟩, .slice none 0 0] 53)
  have r2 : NodeAt (w1.alloc (.cells #[.bool false, .string ⟨#[]⟩, .int .i64 0, .bool false, .int .u64 0, .int .u64 0, .int .u64 0, .string ⟨#[]⟩, .slice none 0 0] 53)) w1.heap.size false ⟨#[]⟩ Ex.zero (.slice none 0 0) := heap_alloc_new w1 _
  have T2 := Lib.hid (show TnI w (w1.alloc (.cells #[.bool false, .string ⟨#[]⟩, .int .i64 0, .bool false, .int .u64 0, .int .u64 0, .int .u64 0, .string ⟨#[]⟩, .slice none 0 0] 53)) lo hi a xs s g0 w1.heap.size nm none [] (.slice none 0 0) from
    ⟨Pen.same (Pen.same h g1) g2, r1.kept g2 (by simp), r2, World.ownsRow_nil _ _ _ _, fun k hk => (by cases hk), grown_any (grown_trans g1 g2) _, by omega, g1.size, by omega, hhi⟩)
  obtain ⟨w2, hw2⟩ : ∃ w2, w1.alloc (.cells #[.bool false, .string ⟨#[]⟩, .int .i64 0, .bool false, .int .u64 0, .int .u64 0, .int .u64 0, .string ⟨#[]⟩, .slice none 0 0] 53) = w2 := ⟨_, rfl⟩
  obtain ⟨gx, hgx⟩ : ∃ gx, w1.heap.size = gx := ⟨_, rfl⟩
  rw [hw2, hgx] at T2
  have HW2 := Lib.hid hw2
  have HGX := Lib.hid hgx
  have HB := Lib.hid hb
  clear h g1 g2 r1 r2 gl hw1 hg0 hw2 hgx hb
  go_enter Try.func67, Try.ntmps67
  go_upto_region 1 with fail
  rw [HW1.out, HG0.out]
  go_upto_region 2 with fail
  rw [HW2.out, HGX.out]
  clear HW1 HG0 HW2 HGX
  have S0 := Lib.hid (sim_ul xs s)
  have B0 := Lib.hid (ulS_bd (xs := xs) (s := s))
  go_wp2_with fail
  refine (pen_ul T2.out.pen).mono ?_
  rintro e w3 ⟨rfl, hp, hg⟩
  have T3 := Lib.hid (T2.out.call hp hg)
  clear hp hg T2
  obtain ⟨Z, hZ⟩ : ∃ z, z = (ulS xs s).1 := ⟨_, rfl⟩
  obtain ⟨s1, hs1⟩ : ∃ z, z = (ulS xs s).2 := ⟨_, rfl⟩
  rw [← hZ, ← hs1] at S0
  rw [← hZ] at B0
  rw [← hs1] at T3
  rw [← hZ]
  clear hZ hs1
  by_cases hz : 0 < Z
  · have hdz : decide (0 < Z) = true := decide_eq_true hz
    go_wp2_with fail
    refine (takeExport_any T3.out.pen nm Z B0.out).mono ?_
    rintro e w4 ⟨⟨x, s2, rfl, hp, hs⟩, hg⟩
    have T4 := Lib.hid (T3.out.call hp hg)
    have S1 := Lib.hid (show Sim (exP Z) xs s1 (some x) s2 by unfold exP; rw [if_neg (by omega)]; exact Sim.B hs (Sim.R _ _))
    clear hp hg hs T3
    obtain ⟨n0, n1, n2, n3, n4, n5, n6, n7, n8⟩ := T4.out.nod.c
    have nf := T4.out.nod.fz
    have nl := T4.out.nod.lt
    unfold exV exArr
    go_upto_region 5 with fail
    have T5 := Lib.hid (T4.out.said x (grown_put8 (grown_refl w4 (some gx)) (.bool true) (.string nm) (.int .i64 x.kind) (.bool x.weak) (.int .u64 x.value) (.int .u64 x.resolver) (.int .u64 x.ordinal) (.string (strOfNums x.other))) (T4.out.nod.said nm x))
    clear n0 n1 n2 n3 n4 n5 n6 n7 n8 nf nl T4
    obtain ⟨w5, hw5⟩ : ∃ w5, (((((((w4.setCell ⟨gx, 0, none⟩ (.bool true)).setCell ⟨gx, 1, none⟩ (.string nm)).setCell ⟨gx, 2, none⟩ (.int .i64 x.kind)).setCell ⟨gx, 3, none⟩ (.bool x.weak)).setCell ⟨gx, 4, none⟩ (.int .u64 x.value)).setCell ⟨gx, 5, none⟩ (.int .u64 x.resolver)).setCell ⟨gx, 6, none⟩ (.int .u64 x.ordinal)).setCell ⟨gx, 7, none⟩ (.string (strOfNums x.other)) = w5 := ⟨_, rfl⟩
    rw [hw5] at T5
    (try rw [hw5])
    clear hw5
    have S2 := Lib.hid (sim_by xs s2)
    have B2 := Lib.hid (byS_bd (s := s2) HB.out)
    go_wp2_with fail
    refine (pen_by T5.out.pen).mono ?_
    rintro e w6 ⟨rfl, hp, hg⟩
    have T6 := Lib.hid (T5.out.call hp hg)
    clear hp hg T5
    obtain ⟨M, hM⟩ : ∃ M : Nat, (M : Int) = (byS xs s2).1 := ⟨((byS xs s2).1).toNat, by have := B2.out; omega⟩
    obtain ⟨s3, hs3⟩ : ∃ z, z = (byS xs s2).2 := ⟨_, rfl⟩
    rw [← hM, ← hs3] at S2
    rw [← hM] at B2
    rw [← hs3] at T6
    rw [← hM]
    clear hM hs3
    have mM : M < 256 := by have := B2.out; omega
    clear B2
    go_wp2_with fail
    go_loopw [20] (fun i wr => ∃ (k : Nat) (l : List Kid) (v : Value) (sk : Cs), k ≤ M ∧ i = .int .u64 k ∧ l.length = k ∧ TnI w wr lo hi a xs sk g0 gx nm (some x) l v ∧ Hid (∀ r s', Sim (kidsP (M - k) l) xs sk r s' → Sim (kidsP M []) xs s3 r s')) (fun i _ => M - (intOf i).toNat)
    case atStart => exact ⟨0, [], _, s3, Nat.zero_le _, rfl, rfl, T6.out, Lib.hid (fun r s' h => h)⟩
    case round =>
      obtain ⟨k, l, v, sk, hk, rfl, hl, hT, CO⟩ := hrel
      obtain ⟨q, c, rfl⟩ := own_slice hT.own
      have T := Lib.hid hT
      have HL := Lib.hid hl
      clear hT hl T6
      by_cases hlt : k < M
      · have ST := Lib.hid (sim_tx xs sk)
        have CO2 := Lib.hid (show ∀ r s', Sim (kidsP (M - (k + 1) + 1) l) xs sk r s' → Sim (kidsP M []) xs s3 r s' by rw [show M - (k + 1) + 1 = M - k by omega]; exact CO.out)
        clear CO
        go_wp2_with fail
        refine (pen_tx T.out.pen).mono ?_
        rintro e w7 ⟨rfl, hp, hg⟩
        have T7 := Lib.hid (T.out.call hp hg)
        clear hp hg T
        obtain ⟨E, hE⟩ : ∃ z, z = (txS xs sk).1 := ⟨_, rfl⟩
        obtain ⟨s4, hs4⟩ : ∃ z, z = (txS xs sk).2 := ⟨_, rfl⟩
        have BE := Lib.hid (show Byt E by
          rw [hE]; unfold txS
          split
          · exact (HB.out.drop _).pre
          · intro x hx; cases hx)
        rw [← hE, ← hs4] at ST
        rw [← hs4] at T7
        rw [← hE]
        clear hE hs4
        have g8 := grown1 w7 (.cells #[.string (strOfNums E), .int .u64 0] 92)
        have k8 : KidIn (w7.alloc (.cells #[.string (strOfNums E), .int .u64 0] 92)) w7.heap.size (E, 0) := heap_alloc_new w7 _
        have T8 := Lib.hid (T7.out.same g8)
        have K8 := Lib.hid k8
        have LK := Lib.hid (show w.heap.size ≤ w7.heap.size from T7.out.grown.size)
        have LV := Lib.hid (fun g (e : (Value.slice q l.length c).ownBlock = some g) => ((T7.out.own.lt g e).2 : g < w7.heap.size))
        have L0 := Lib.hid (show g0 < w7.heap.size from T7.out.res.lt)
        have L1 := Lib.hid (show gx < w7.heap.size from T7.out.nod.lt)
        obtain ⟨w8, hw8⟩ : ∃ w8, w7.alloc (.cells #[.string (strOfNums E), .int .u64 0] 92) = w8 := ⟨_, rfl⟩
        obtain ⟨gk, hgk⟩ : ∃ gk, w7.heap.size = gk := ⟨_, rfl⟩
        rw [hw8] at T8 K8
        rw [hgk] at K8 LK LV L0 L1
        have HW8 := Lib.hid hw8
        have HGK := Lib.hid hgk
        clear g8 k8 hw8 hgk T7
        go_upto_region 8 with fail
        rw [HW8.out, HGK.out]
        clear HW8 HGK
        have SU := Lib.hid (sim_ul xs s4)
        have BU := Lib.hid (ulS_bd (xs := xs) (s := s4))
        go_wp2_with fail
        refine (pen_ul T8.out.pen).mono ?_
        rintro e w9 ⟨rfl, hp, hg⟩
        have T9 := Lib.hid (T8.out.call hp hg)
        have hak := T8.out.al
        have k9 := K8.out.kept hg (by intro e; injection e with e; have := LK.out; omega)
        have kf := k9.fz
        have kl := k9.lt
        have kc := k9.c1
        have K9 := Lib.hid k9
        clear hp hg T8 K8 hak k9
        obtain ⟨P, hP⟩ : ∃ z, z = (ulS xs s4).1 := ⟨_, rfl⟩
        obtain ⟨s5, hs5⟩ : ∃ z, z = (ulS xs s4).2 := ⟨_, rfl⟩
        rw [← hP, ← hs5] at SU
        rw [← hP] at BU
        rw [← hs5] at T9
        rw [← hP]
        clear hP hs5
        go_upto_region 9 with fail
        have gz := grown_setCell (i := 1) (grown_refl w9 (some gk)) (.int .u64 P)
        have T10 := Lib.hid (T9.out.mine gz LK.out (by have := L0.out; omega) (by have := L1.out; omega) (by intro e; have := LV.out gk e; omega))
        have K10 := Lib.hid (K9.out.place P)
        obtain ⟨wa, hwa⟩ : ∃ wa, w9.setCell ⟨gk, 1, none⟩ (.int .u64 P) = wa := ⟨_, rfl⟩
        rw [hwa] at T10 K10
        (try rw [hwa])
        clear hwa gz kf kl kc T9 K9
        have q0 := K10.out.c0
        have q1 := K10.out.c1
        have ql := K10.out.lt
        obtain ⟨m0, m1, m2, m3, m4, m5, m6, m7, m8⟩ := T10.out.nod.c
        have ml := T10.out.nod.lt
        have LE := Lib.hid (show s5.1 ≤ s5.1 ∧ s4.1 ≤ s5.1 from ⟨Nat.le_refl _, SU.out.le⟩)
        by_cases hE : E = []
        · have he : (strOfNums E).toList.isEmpty = true := by rw [hE, Lib.strOfNums_toList]; rfl
          have HE := Lib.hid hE
          clear hE
          go_wp2_with fail
          refine (pen_fl T10.out.pen).mono ?_
          rintro e wb ⟨rfl, hp, hg⟩
          have T11 := Lib.hid (T10.out.call hp hg)
          clear hp hg m0 m1 m2 m3 m4 m5 m6 m7 m8 ml q0 q1 ql
          have SX := Lib.hid (show Sim nodeP xs s (⟨(some x), l⟩ : Nd) (s5.1, true) from Sim.B S0.out (Sim.B S1.out (Sim.B S2.out (Sim.B (CO2.out l (s5.1, true) (Sim.B ST.out (Sim.B SU.out (by rw [if_pos (.inl HE.out)]; exact Sim.F _ (Nat.le_refl _) rfl)))) (Sim.R _ _)))))
          have TF := Lib.hid T11.out
          obtain ⟨m0, m1, m2, m3, m4, m5, m6, m7, m8⟩ := T11.out.nod.c
          obtain ⟨d0, d1, d2, d3, d4, d5, d6, d7, d8⟩ := T11.out.res.c
          have df := T11.out.res.fz
          have dl := T11.out.res.lt
          have ml := T11.out.nod.lt
          simp only [Option.isSome, nmOf, exOf] at m0 m1 m2 m3 m4 m5 m6 m7
          go_wp2_with fail
          refine bodyPost_ret (results_node rfl rfl (TF.out.res.put true nm x (.slice q l.length c))) rfl ?_
          have GP := fun W : World => grown_put9 (grown_refl W (some g0)) (.bool true) (.string nm) (.int .i64 (x : Ex).kind) (.bool (x : Ex).weak) (.int .u64 (x : Ex).value) (.int .u64 (x : Ex).resolver) (.int .u64 (x : Ex).ordinal) (.string (strOfNums (x : Ex).other)) (.slice q l.length c)
          exact ⟨⟨⟨(some x), l⟩, (.slice q l.length c), _, rfl, Pen.kept TF.out.pen (GP _) (.inr (Nat.le_trans TF.out.up TF.out.new0)), SX.out, TF.out.own.kept (GP _) (.inr (own_ne TF.out.own TF.out.res (by decide)))⟩, grown_past TF.out.grown (GP _) TF.out.new0⟩
        · have he : (strOfNums E).toList.isEmpty = false := by
            rw [Lib.strOfNums_toList]
            cases E with
            | nil => exact absurd rfl hE
            | cons => rfl
          have HE := Lib.hid hE
          have hln : l.length ≤ 9223372036854775807 := by have := HL.out; omega
          have MA := Lib.hid (meetsAny_any (w := wa) l l.length rfl hln q c (KidsAt.of T10.out.own) E P HE.out BE.out T10.out.each)
          clear hE hln
          go_wp2_with fail
          refine MA.out.mono ?_
          rintro e wb ⟨rfl, hg⟩
          have T11 := Lib.hid (T10.out.same hg)
          have K11 := Lib.hid (K10.out.grown hg)
          clear hg m0 m1 m2 m3 m4 m5 m6 m7 m8 ml q0 q1 ql MA T10 K10
          obtain ⟨bm, hbm⟩ : ∃ bm, bm = meets E l := ⟨_, rfl⟩
          rw [← hbm]
          have HM := Lib.hid hbm
          clear hbm
          cases bm with
          | true =>
            go_wp2_with fail
            refine (pen_fl T11.out.pen).mono ?_
            rintro e wc ⟨rfl, hp, hg⟩
            have T12 := Lib.hid (T11.out.call hp hg)
            clear hp hg
            have SX := Lib.hid (show Sim nodeP xs s (⟨(some x), l⟩ : Nd) (s5.1, true) from Sim.B S0.out (Sim.B S1.out (Sim.B S2.out (Sim.B (CO2.out l (s5.1, true) (Sim.B ST.out (Sim.B SU.out (by rw [if_pos (.inr HM.out.symm)]; exact Sim.F _ (Nat.le_refl _) rfl)))) (Sim.R _ _)))))
            have TF := Lib.hid T12.out
            obtain ⟨m0, m1, m2, m3, m4, m5, m6, m7, m8⟩ := T12.out.nod.c
            obtain ⟨d0, d1, d2, d3, d4, d5, d6, d7, d8⟩ := T12.out.res.c
            have df := T12.out.res.fz
            have dl := T12.out.res.lt
            have ml := T12.out.nod.lt
            simp only [Option.isSome, nmOf, exOf] at m0 m1 m2 m3 m4 m5 m6 m7
            go_wp2_with fail
            refine bodyPost_ret (results_node rfl rfl (TF.out.res.put true nm x (.slice q l.length c))) rfl ?_
            have GP := fun W : World => grown_put9 (grown_refl W (some g0)) (.bool true) (.string nm) (.int .i64 (x : Ex).kind) (.bool (x : Ex).weak) (.int .u64 (x : Ex).value) (.int .u64 (x : Ex).resolver) (.int .u64 (x : Ex).ordinal) (.string (strOfNums (x : Ex).other)) (.slice q l.length c)
            exact ⟨⟨⟨(some x), l⟩, (.slice q l.length c), _, rfl, Pen.kept TF.out.pen (GP _) (.inr (Nat.le_trans TF.out.up TF.out.new0)), SX.out, TF.out.own.kept (GP _) (.inr (own_ne TF.out.own TF.out.res (by decide)))⟩, grown_past TF.out.grown (GP _) TF.out.new0⟩
          | false =>
            have q0 := K11.out.c0
            have q1 := K11.out.c1
            have ql := K11.out.lt
            have m8 := T11.out.nod.c.2.2.2.2.2.2.2.2
            have ml := T11.out.nod.lt
            have gn := grown1 wb (.cells #[.string (strOfNums E), .int .u64 P] 92)
            have T12 := Lib.hid (T11.out.same gn)
            have N12 := Lib.hid (heap_alloc_new wb (.cells #[.string (strOfNums E), .int .u64 P] 92))
            have SZ := Lib.hid (show w.heap.size ≤ wb.heap.size from T11.out.grown.size)
            go_wp2_with (at_builtin; refine wp_append_st kidType rfl _ _ rfl _ l.length _ rfl T12.out.own [.string (strOfNums E), .int .u64 P] rfl wb.heap.size rfl N12.out (kidCs_one (E, P)) (by have := HL.out; omega) (by decide) ?_ ?_)
            · have := SZ.out; (try rw [World.size_alloc]); omega
            intro v' wd ho hg3
            obtain ⟨q', c', rfl⟩ := own_slice ho
            have nd3 : NodeAt wd gx _ _ _ _ := T12.out.nod.kept hg3 (own_ne T12.out.own T12.out.nod (by decide))
            have c8 := nd3.c.2.2.2.2.2.2.2.2
            have cf := nd3.fz
            have cl := nd3.lt
            have T13 := Lib.hid (T12.out.more (E, P) ⟨HE.out, BE.out⟩ ho hg3)
            clear nd3 ho hg3 m8 ml q0 q1 ql gn
            go_wp2
            go_roundw
            case rel => exact ⟨k + 1, l ++ [(E, P)], _, s5, hlt, by go_num, by rw [List.length_append, HL.out]; rfl, T13.out, Lib.hid (fun r s' h => CO2.out r s' (Sim.B ST.out (Sim.B SU.out (by rw [if_neg (fun h => h.elim HE.out (fun h => by rw [← HM.out] at h; cases h))]; exact h))))⟩
            case measure => simp [intOf]; omega
      · have hkM : k = M := by omega
        have CO3 := Lib.hid (show ∀ r s', Sim (kidsP 0 l) xs sk r s' → Sim (kidsP M []) xs s3 r s' by rw [show 0 = M - k by omega]; exact CO.out)
        have dk : decide ((k : Int) < (M : Int)) = false := by simp; omega
        clear CO hlt
        have SX := Lib.hid (show Sim nodeP xs s (⟨(some x), l⟩ : Nd) sk from Sim.B S0.out (Sim.B S1.out (Sim.B S2.out (Sim.B (CO3.out l sk (Sim.R _ _)) (Sim.R _ _)))))
        have TF := Lib.hid T.out
        obtain ⟨m0, m1, m2, m3, m4, m5, m6, m7, m8⟩ := T.out.nod.c
        obtain ⟨d0, d1, d2, d3, d4, d5, d6, d7, d8⟩ := T.out.res.c
        have df := T.out.res.fz
        have dl := T.out.res.lt
        have ml := T.out.nod.lt
        simp only [Option.isSome, nmOf, exOf] at m0 m1 m2 m3 m4 m5 m6 m7
        go_wp2_with fail
        refine bodyPost_ret (results_node rfl rfl (TF.out.res.put true nm x (.slice q l.length c))) rfl ?_
        have GP := fun W : World => grown_put9 (grown_refl W (some g0)) (.bool true) (.string nm) (.int .i64 (x : Ex).kind) (.bool (x : Ex).weak) (.int .u64 (x : Ex).value) (.int .u64 (x : Ex).resolver) (.int .u64 (x : Ex).ordinal) (.string (strOfNums (x : Ex).other)) (.slice q l.length c)
        exact ⟨⟨⟨(some x), l⟩, (.slice q l.length c), _, rfl, Pen.kept TF.out.pen (GP _) (.inr (Nat.le_trans TF.out.up TF.out.new0)), SX.out, TF.out.own.kept (GP _) (.inr (own_ne TF.out.own TF.out.res (by decide)))⟩, grown_past TF.out.grown (GP _) TF.out.new0⟩
    
  · have hdz : decide (0 < Z) = false := decide_eq_false hz
    have S1 := Lib.hid (show Sim (exP Z) xs s1 none s1 by unfold exP; rw [if_pos (by have := B0.out; omega)]; exact Sim.R _ _)
    go_upto_region 5 with fail
    have T5 := T3
    have S2 := Lib.hid (sim_by xs s1)
    have B2 := Lib.hid (byS_bd (s := s1) HB.out)
    go_wp2_with fail
    refine (pen_by T5.out.pen).mono ?_
    rintro e w6 ⟨rfl, hp, hg⟩
    have T6 := Lib.hid (T5.out.call hp hg)
    clear hp hg T5
    obtain ⟨M, hM⟩ : ∃ M : Nat, (M : Int) = (byS xs s1).1 := ⟨((byS xs s1).1).toNat, by have := B2.out; omega⟩
    obtain ⟨s3, hs3⟩ : ∃ z, z = (byS xs s1).2 := ⟨_, rfl⟩
    rw [← hM, ← hs3] at S2
    rw [← hM] at B2
    rw [← hs3] at T6
    rw [← hM]
    clear hM hs3
    have mM : M < 256 := by have := B2.out; omega
    clear B2
    go_wp2_with fail
    go_loopw [20] (fun i wr => ∃ (k : Nat) (l : List Kid) (v : Value) (sk : Cs), k ≤ M ∧ i = .int .u64 k ∧ l.length = k ∧ TnI w wr lo hi a xs sk g0 gx nm none l v ∧ Hid (∀ r s', Sim (kidsP (M - k) l) xs sk r s' → Sim (kidsP M []) xs s3 r s')) (fun i _ => M - (intOf i).toNat)
    case atStart => exact ⟨0, [], _, s3, Nat.zero_le _, rfl, rfl, T6.out, Lib.hid (fun r s' h => h)⟩
    case round =>
      obtain ⟨k, l, v, sk, hk, rfl, hl, hT, CO⟩ := hrel
      obtain ⟨q, c, rfl⟩ := own_slice hT.own
      have T := Lib.hid hT
      have HL := Lib.hid hl
      clear hT hl T6
      by_cases hlt : k < M
      · have ST := Lib.hid (sim_tx xs sk)
        have CO2 := Lib.hid (show ∀ r s', Sim (kidsP (M - (k + 1) + 1) l) xs sk r s' → Sim (kidsP M []) xs s3 r s' by rw [show M - (k + 1) + 1 = M - k by omega]; exact CO.out)
        clear CO
        go_wp2_with fail
        refine (pen_tx T.out.pen).mono ?_
        rintro e w7 ⟨rfl, hp, hg⟩
        have T7 := Lib.hid (T.out.call hp hg)
        clear hp hg T
        obtain ⟨E, hE⟩ : ∃ z, z = (txS xs sk).1 := ⟨_, rfl⟩
        obtain ⟨s4, hs4⟩ : ∃ z, z = (txS xs sk).2 := ⟨_, rfl⟩
        have BE := Lib.hid (show Byt E by
          rw [hE]; unfold txS
          split
          · exact (HB.out.drop _).pre
          · intro x hx; cases hx)
        rw [← hE, ← hs4] at ST
        rw [← hs4] at T7
        rw [← hE]
        clear hE hs4
        have g8 := grown1 w7 (.cells #[.string (strOfNums E), .int .u64 0] 92)
        have k8 : KidIn (w7.alloc (.cells #[.string (strOfNums E), .int .u64 0] 92)) w7.heap.size (E, 0) := heap_alloc_new w7 _
        have T8 := Lib.hid (T7.out.same g8)
        have K8 := Lib.hid k8
        have LK := Lib.hid (show w.heap.size ≤ w7.heap.size from T7.out.grown.size)
        have LV := Lib.hid (fun g (e : (Value.slice q l.length c).ownBlock = some g) => ((T7.out.own.lt g e).2 : g < w7.heap.size))
        have L0 := Lib.hid (show g0 < w7.heap.size from T7.out.res.lt)
        have L1 := Lib.hid (show gx < w7.heap.size from T7.out.nod.lt)
        obtain ⟨w8, hw8⟩ : ∃ w8, w7.alloc (.cells #[.string (strOfNums E), .int .u64 0] 92) = w8 := ⟨_, rfl⟩
        obtain ⟨gk, hgk⟩ : ∃ gk, w7.heap.size = gk := ⟨_, rfl⟩
        rw [hw8] at T8 K8
        rw [hgk] at K8 LK LV L0 L1
        have HW8 := Lib.hid hw8
        have HGK := Lib.hid hgk
        clear g8 k8 hw8 hgk T7
        go_upto_region 8 with fail
        rw [HW8.out, HGK.out]
        clear HW8 HGK
        have SU := Lib.hid (sim_ul xs s4)
        have BU := Lib.hid (ulS_bd (xs := xs) (s := s4))
        go_wp2_with fail
        refine (pen_ul T8.out.pen).mono ?_
        rintro e w9 ⟨rfl, hp, hg⟩
        have T9 := Lib.hid (T8.out.call hp hg)
        have hak := T8.out.al
        have k9 := K8.out.kept hg (by intro e; injection e with e; have := LK.out; omega)
        have kf := k9.fz
        have kl := k9.lt
        have kc := k9.c1
        have K9 := Lib.hid k9
        clear hp hg T8 K8 hak k9
        obtain ⟨P, hP⟩ : ∃ z, z = (ulS xs s4).1 := ⟨_, rfl⟩
        obtain ⟨s5, hs5⟩ : ∃ z, z = (ulS xs s4).2 := ⟨_, rfl⟩
        rw [← hP, ← hs5] at SU
        rw [← hP] at BU
        rw [← hs5] at T9
        rw [← hP]
        clear hP hs5
        go_upto_region 9 with fail
        have gz := grown_setCell (i := 1) (grown_refl w9 (some gk)) (.int .u64 P)
        have T10 := Lib.hid (T9.out.mine gz LK.out (by have := L0.out; omega) (by have := L1.out; omega) (by intro e; have := LV.out gk e; omega))
        have K10 := Lib.hid (K9.out.place P)
        obtain ⟨wa, hwa⟩ : ∃ wa, w9.setCell ⟨gk, 1, none⟩ (.int .u64 P) = wa := ⟨_, rfl⟩
        rw [hwa] at T10 K10
        (try rw [hwa])
        clear hwa gz kf kl kc T9 K9
        have q0 := K10.out.c0
        have q1 := K10.out.c1
        have ql := K10.out.lt
        obtain ⟨m0, m1, m2, m3, m4, m5, m6, m7, m8⟩ := T10.out.nod.c
        have ml := T10.out.nod.lt
        have LE := Lib.hid (show s5.1 ≤ s5.1 ∧ s4.1 ≤ s5.1 from ⟨Nat.le_refl _, SU.out.le⟩)
        by_cases hE : E = []
        · have he : (strOfNums E).toList.isEmpty = true := by rw [hE, Lib.strOfNums_toList]; rfl
          have HE := Lib.hid hE
          clear hE
          go_wp2_with fail
          refine (pen_fl T10.out.pen).mono ?_
          rintro e wb ⟨rfl, hp, hg⟩
          have T11 := Lib.hid (T10.out.call hp hg)
          clear hp hg m0 m1 m2 m3 m4 m5 m6 m7 m8 ml q0 q1 ql
          have SX := Lib.hid (show Sim nodeP xs s (⟨none, l⟩ : Nd) (s5.1, true) from Sim.B S0.out (Sim.B S1.out (Sim.B S2.out (Sim.B (CO2.out l (s5.1, true) (Sim.B ST.out (Sim.B SU.out (by rw [if_pos (.inl HE.out)]; exact Sim.F _ (Nat.le_refl _) rfl)))) (Sim.R _ _)))))
          have TF := Lib.hid T11.out
          obtain ⟨m0, m1, m2, m3, m4, m5, m6, m7, m8⟩ := T11.out.nod.c
          obtain ⟨d0, d1, d2, d3, d4, d5, d6, d7, d8⟩ := T11.out.res.c
          have df := T11.out.res.fz
          have dl := T11.out.res.lt
          have ml := T11.out.nod.lt
          simp only [Option.isSome, nmOf, exOf] at m0 m1 m2 m3 m4 m5 m6 m7
          go_wp2_with fail
          refine bodyPost_ret (results_node rfl rfl (TF.out.res.put false ⟨#[]⟩ Ex.zero (.slice q l.length c))) rfl ?_
          have GP := fun W : World => grown_put9 (grown_refl W (some g0)) (.bool false) (.string ⟨#[]⟩) (.int .i64 (Ex.zero : Ex).kind) (.bool (Ex.zero : Ex).weak) (.int .u64 (Ex.zero : Ex).value) (.int .u64 (Ex.zero : Ex).resolver) (.int .u64 (Ex.zero : Ex).ordinal) (.string (strOfNums (Ex.zero : Ex).other)) (.slice q l.length c)
          exact ⟨⟨⟨none, l⟩, (.slice q l.length c), _, rfl, Pen.kept TF.out.pen (GP _) (.inr (Nat.le_trans TF.out.up TF.out.new0)), SX.out, TF.out.own.kept (GP _) (.inr (own_ne TF.out.own TF.out.res (by decide)))⟩, grown_past TF.out.grown (GP _) TF.out.new0⟩
        · have he : (strOfNums E).toList.isEmpty = false := by
            rw [Lib.strOfNums_toList]
            cases E with
            | nil => exact absurd rfl hE
            | cons => rfl
          have HE := Lib.hid hE
          have hln : l.length ≤ 9223372036854775807 := by have := HL.out; omega
          have MA := Lib.hid (meetsAny_any (w := wa) l l.length rfl hln q c (KidsAt.of T10.out.own) E P HE.out BE.out T10.out.each)
          clear hE hln
          go_wp2_with fail
          refine MA.out.mono ?_
          rintro e wb ⟨rfl, hg⟩
          have T11 := Lib.hid (T10.out.same hg)
          have K11 := Lib.hid (K10.out.grown hg)
          clear hg m0 m1 m2 m3 m4 m5 m6 m7 m8 ml q0 q1 ql MA T10 K10
          obtain ⟨bm, hbm⟩ : ∃ bm, bm = meets E l := ⟨_, rfl⟩
          rw [← hbm]
          have HM := Lib.hid hbm
          clear hbm
          cases bm with
          | true =>
            go_wp2_with fail
            refine (pen_fl T11.out.pen).mono ?_
            rintro e wc ⟨rfl, hp, hg⟩
            have T12 := Lib.hid (T11.out.call hp hg)
            clear hp hg
            have SX := Lib.hid (show Sim nodeP xs s (⟨none, l⟩ : Nd) (s5.1, true) from Sim.B S0.out (Sim.B S1.out (Sim.B S2.out (Sim.B (CO2.out l (s5.1, true) (Sim.B ST.out (Sim.B SU.out (by rw [if_pos (.inr HM.out.symm)]; exact Sim.F _ (Nat.le_refl _) rfl)))) (Sim.R _ _)))))
            have TF := Lib.hid T12.out
            obtain ⟨m0, m1, m2, m3, m4, m5, m6, m7, m8⟩ := T12.out.nod.c
            obtain ⟨d0, d1, d2, d3, d4, d5, d6, d7, d8⟩ := T12.out.res.c
            have df := T12.out.res.fz
            have dl := T12.out.res.lt
            have ml := T12.out.nod.lt
            simp only [Option.isSome, nmOf, exOf] at m0 m1 m2 m3 m4 m5 m6 m7
            go_wp2_with fail
            refine bodyPost_ret (results_node rfl rfl (TF.out.res.put false ⟨#[]⟩ Ex.zero (.slice q l.length c))) rfl ?_
            have GP := fun W : World => grown_put9 (grown_refl W (some g0)) (.bool false) (.string ⟨#[]⟩) (.int .i64 (Ex.zero : Ex).kind) (.bool (Ex.zero : Ex).weak) (.int .u64 (Ex.zero : Ex).value) (.int .u64 (Ex.zero : Ex).resolver) (.int .u64 (Ex.zero : Ex).ordinal) (.string (strOfNums (Ex.zero : Ex).other)) (.slice q l.length c)
            exact ⟨⟨⟨none, l⟩, (.slice q l.length c), _, rfl, Pen.kept TF.out.pen (GP _) (.inr (Nat.le_trans TF.out.up TF.out.new0)), SX.out, TF.out.own.kept (GP _) (.inr (own_ne TF.out.own TF.out.res (by decide)))⟩, grown_past TF.out.grown (GP _) TF.out.new0⟩
          | false =>
            have q0 := K11.out.c0
            have q1 := K11.out.c1
            have ql := K11.out.lt
            have m8 := T11.out.nod.c.2.2.2.2.2.2.2.2
            have ml := T11.out.nod.lt
            have gn := grown1 wb (.cells #[.string (strOfNums E), .int .u64 P] 92)
            have T12 := Lib.hid (T11.out.same gn)
            have N12 := Lib.hid (heap_alloc_new wb (.cells #[.string (strOfNums E), .int .u64 P] 92))
            have SZ := Lib.hid (show w.heap.size ≤ wb.heap.size from T11.out.grown.size)
            go_wp2_with (at_builtin; refine wp_append_st kidType rfl _ _ rfl _ l.length _ rfl T12.out.own [.string (strOfNums E), .int .u64 P] rfl wb.heap.size rfl N12.out (kidCs_one (E, P)) (by have := HL.out; omega) (by decide) ?_ ?_)
            · have := SZ.out; (try rw [World.size_alloc]); omega
            intro v' wd ho hg3
            obtain ⟨q', c', rfl⟩ := own_slice ho
            have nd3 : NodeAt wd gx _ _ _ _ := T12.out.nod.kept hg3 (own_ne T12.out.own T12.out.nod (by decide))
            have c8 := nd3.c.2.2.2.2.2.2.2.2
            have cf := nd3.fz
            have cl := nd3.lt
            have T13 := Lib.hid (T12.out.more (E, P) ⟨HE.out, BE.out⟩ ho hg3)
            clear nd3 ho hg3 m8 ml q0 q1 ql gn
            go_wp2
            go_roundw
            case rel => exact ⟨k + 1, l ++ [(E, P)], _, s5, hlt, by go_num, by rw [List.length_append, HL.out]; rfl, T13.out, Lib.hid (fun r s' h => CO2.out r s' (Sim.B ST.out (Sim.B SU.out (by rw [if_neg (fun h => h.elim HE.out (fun h => by rw [← HM.out] at h; cases h))]; exact h))))⟩
            case measure => simp [intOf]; omega
      · have hkM : k = M := by omega
        have CO3 := Lib.hid (show ∀ r s', Sim (kidsP 0 l) xs sk r s' → Sim (kidsP M []) xs s3 r s' by rw [show 0 = M - k by omega]; exact CO.out)
        have dk : decide ((k : Int) < (M : Int)) = false := by simp; omega
        clear CO hlt
        have SX := Lib.hid (show Sim nodeP xs s (⟨none, l⟩ : Nd) sk from Sim.B S0.out (Sim.B S1.out (Sim.B S2.out (Sim.B (CO3.out l sk (Sim.R _ _)) (Sim.R _ _)))))
        have TF := Lib.hid T.out
        obtain ⟨m0, m1, m2, m3, m4, m5, m6, m7, m8⟩ := T.out.nod.c
        obtain ⟨d0, d1, d2, d3, d4, d5, d6, d7, d8⟩ := T.out.res.c
        have df := T.out.res.fz
        have dl := T.out.res.lt
        have ml := T.out.nod.lt
        simp only [Option.isSome, nmOf, exOf] at m0 m1 m2 m3 m4 m5 m6 m7
        go_wp2_with fail
        refine bodyPost_ret (results_node rfl rfl (TF.out.res.put false ⟨#[]⟩ Ex.zero (.slice q l.length c))) rfl ?_
        have GP := fun W : World => grown_put9 (grown_refl W (some g0)) (.bool false) (.string ⟨#[]⟩) (.int .i64 (Ex.zero : Ex).kind) (.bool (Ex.zero : Ex).weak) (.int .u64 (Ex.zero : Ex).value) (.int .u64 (Ex.zero : Ex).resolver) (.int .u64 (Ex.zero : Ex).ordinal) (.string (strOfNums (Ex.zero : Ex).other)) (.slice q l.length c)
        exact ⟨⟨⟨none, l⟩, (.slice q l.length c), _, rfl, Pen.kept TF.out.pen (GP _) (.inr (Nat.le_trans TF.out.up TF.out.new0)), SX.out, TF.out.own.kept (GP _) (.inr (own_ne TF.out.own TF.out.res (by decide)))⟩, grown_past TF.out.grown (GP _) TF.out.new0⟩
    
end Go.Proofs.Ytblfighfahffkaa
