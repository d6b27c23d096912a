/- Parts of the proof, put together: TrQ, TrT, TrU, Chg, TrY, TrZ. No condition beyond those that each part names. -/
import Derived.Shelf.Small.Bits
import Derived.Shelf.Small.Strs
import Derived.Shelf.Strconv.Itoa0
import Derived.Shelf.Strings.Search1
import Derived.Shelf.Bytes.SlIndexAt
import Derived.Shelf.Bytes.SlSearch0
import Derived.Ground.SlbCloneProg
import Derived.Shelf.Bytes.SlClone
import Derived.Shelf.Bytes.IndexByte
import Derived.Test.YtbnnlbdjjpmgeaaProg
import Derived.Test.YtbnnlbdjjpmgeaaRows
import Derived.WalkKit
import Derived.WalkSpells
import Derived.WalkLawsBesides
import Derived.BigQuiet
import Derived.Deep.QuietTactic
import Derived.Lib.Hide
import Derived.IntWalk
import Derived.OneCell
import Derived.Laws.Rows
import Derived.OpenShut
import Derived.ProofKit
import Derived.Lib.EndianBits
import Derived.RegionTactic
import Derived.ChangeAlike
import Derived.WalkMore
import Derived.Laws.BytesArg
import Derived.Shelf.Bytes.SlEqualAll
import Derived.Lib.SlFresh
import Derived.Maps.AppendAt
import Derived.Deep.AppendSrc
import Derived.Deep.Upon
import Derived.Lib.AppendZeros
import Derived.Laws.IdiomStrings
import Derived.Lib.AppendZerosOnto
import Derived.Laws.StructEq
import Derived.Below
import Derived.Shelf.Abstract
import Derived.Laws.ResultCell
import Derived.Deep.Slices
import Derived.ChangeSame
import Derived.Laws.OwnMore
import Derived.Laws.Slices
import Derived.Lib.ConvBytes
import Derived.StringKeys
import Derived.Maps.Own
import Derived.Maps.OwnOps
import Derived.Maps.OwnSet
import Derived.WideShapes
import Derived.Deep.Cut
import Derived.Deep.CutRange
import Derived.PlainAid
import Derived.Lib.SlBytesRow
import Derived.Deep.Onto
import Derived.Test.YtbnnlbdjjpmgeaaPT2
namespace Go.Proofs.Ytbnnlbdjjpmgeaa
open Go.RowKit Go.PlainAid
variable {w w' W : World} {lo hi a : Nat} {xs : List Int} {s s' : Cs}

def KidIn (w : World) (g : Nat) (k : Kid) : Prop := w.heap[g]? = some (.cells #[.string (strOfNums k.1), .int .u64 k.2] 86 (0, 0))
section
variable {g : Nat} {k : Kid}
theorem KidIn.kept {r : Option Nat} (h : KidIn w g k) (hg : w.grownBy w' r) (hr : r ≠ some g) : KidIn w' g k := (hg.block g (lt_of_block h) (fun e => hr e.symm)).trans h
theorem KidIn.grown (h : KidIn w g k) (hg : w.grownBy w' none) : KidIn w' g k := h.kept hg (by simp)
theorem KidIn.lt (h : KidIn w g k) : g < w.heap.size := lt_of_block h
theorem KidIn.fz (h : KidIn w g k) (i : Nat) : w.frozen? ⟨g, i, none⟩ = false := free_of h
theorem KidIn.c0 (h : KidIn w g k) : w.cell? ⟨g, 0, none⟩ = some (.string (strOfNums k.1)) := by rw [cell_of h]; rfl
theorem KidIn.c1 (h : KidIn w g k) : w.cell? ⟨g, 1, none⟩ = some (.int .u64 k.2) := by rw [cell_of h]; rfl
theorem KidIn.place (h : KidIn w g k) (n : Int) : KidIn (w.setCell ⟨g, 1, none⟩ (.int .u64 n)) g (k.1, n) := by unfold KidIn; rw [heap_setCell_same w g 1 _ _ _ h]; rfl
end

theorem bt_nums (x : Int) (l : List Int) (h : 0 ≤ x ∧ x < 256) : bt (strOfNums (x :: l)) 0 = x := by
  have h0 : 0 < (strOfNums (x :: l)).size := by rw [strOfNums_size]; simp
  unfold bt
  rw [dif_pos h0]
  show ((UInt8.ofNat x.toNat).toNat : Int) = x
  simp only [UInt8.toNat_ofNat']
  omega
set_option maxRecDepth 20000 in
theorem meets1_any (k1 k2 : Kid) (h1 : k1.1 ≠ []) (h2 : k2.1 ≠ []) (b1 : Byt k1.1) (b2 : Byt k2.1) {g : Nat} (hx : KidIn w g k2) :
    Calls Try.prog 95 #[.agg #[.string (strOfNums k1.1), .int .u64 k1.2], .pointer (some ⟨g, 0, none⟩)] w fun e w' => e = .returned (.bool (k1.1.getD 0 0 == k2.1.getD 0 0)) ∧ w.grownBy w' none := by
  have gB := grown1 w (.cells #[.string (strOfNums k1.1), .int .u64 k1.2] 86)
  have d0 := (hx.grown gB).c0
  have dl := (hx.grown gB).lt
  have G := Lib.hid gB
  obtain ⟨e1, p1⟩ := k1
  obtain ⟨e2, p2⟩ := k2
  cases e1 with
  | nil => exact absurd rfl h1
  | cons x1 e1 =>
  cases e2 with
  | nil => exact absurd rfl h2
  | cons x2 e2 =>
  have y1 := b1 x1 (List.mem_cons_self ..)
  have y2 := b2 x2 (List.mem_cons_self ..)
  clear gB hx h1 h2 b1 b2
  simp only [] at *
  rw [show (x1 :: e1).getD 0 0 = x1 from rfl, show (x2 :: e2).getD 0 0 = x2 from rfl]
  have t1 := bt_nums x1 e1 y1
  have t2 := bt_nums x2 e2 y2
  have z1 : 0 < (strOfNums (x1 :: e1)).size := by rw [strOfNums_size]; simp
  have z2 : 0 < (strOfNums (x2 :: e2)).size := by rw [strOfNums_size]; simp
  generalize strOfNums (x1 :: e1) = S1 at *
  generalize strOfNums (x2 :: e2) = S2 at *
  have k1 := get_bt S1
  have k2 := get_bt S2
  rw [← t1, ← t2]
  clear t1 t2 y1 y2
  go_enter Try.func95, Try.ntmps95
  go_wp2
  go_quiet (fail)
  go_wp2
  go_ret
  exact ⟨rfl, grown_drewN G.out _⟩
theorem any_kid (l : List Kid) (e : List Int) (k : Nat) (h : ∀ i y, i < k → l[i]? = some y → (y.1.getD 0 0 == e.getD 0 0) = false) (hk : l.length ≤ k) : meets e l = false := by
  unfold meets
  rw [List.any_eq_false]
  intro x hx
  obtain ⟨i, hi, rfl⟩ := List.getElem_of_mem hx
  rw [h i _ (by omega) (List.getElem?_eq_getElem hi)]
  simp
theorem KidsAt.at {q : Option Addr} {l : List Kid} (h : KidsAt w q l) (i : Nat) (x : Kid) (hx : l[i]? = some x) : ∃ g o, q = some ⟨g, o, none⟩ ∧ w.cell? ⟨g, o + i * 2, none⟩ = some (.string (strOfNums x.1)) ∧ w.cell? ⟨g, o + i * 2 + 1, none⟩ = some (.int .u64 x.2) := h i x hx
set_option maxRecDepth 20000 in
set_option maxHeartbeats 800000 in
theorem indexKid_any (l : List Kid) (n : Nat) (hn : l.length = n) (hl : n ≤ 9223372036854775807) (q : Option Addr) (c : Nat) (hr : KidsAt w q l) (e2 : List Int) {g : Nat} (k2 : Int) (hx : KidIn w g (e2, k2)) (h2 : e2 ≠ []) (b2 : Byt e2) (ho : ∀ k ∈ l, k.1 ≠ [] ∧ Byt k.1) :
    Calls Try.prog 48 #[.slice q n c, .func (.func 95) #[] #[.pointer (some ⟨g, 0, none⟩)]] w fun e w' => (∃ z : Int, e = .returned (.int .i64 z) ∧ decide (0 ≤ z) = meets e2 l) ∧ w.grownBy w' none := by
  subst hn
  have RR := Lib.hid hr
  have OO := Lib.hid ho
  have HX := Lib.hid hx
  have NE := Lib.hid h2
  have BB := Lib.hid b2
  clear hr ho hx h2 b2
  go_enter Try.func48, Try.ntmps48
  go_wp2
  go_loopw [8] (fun i wr => ∃ k : Nat, k ≤ l.length ∧ i = .int .i64 k ∧ w.grownBy wr none ∧ ∀ i y, i < k → l[i]? = some y → (y.1.getD 0 0 == e2.getD 0 0) = false) (fun i _ => l.length - (intOf i).toNat)
  case atStart => exact ⟨0, Nat.zero_le _, rfl, grown_refl _ _, fun i y h => by omega⟩
  case round =>
    obtain ⟨k, hk, rfl, hg, hno⟩ := hrel
    have G := Lib.hid hg
    have NO := Lib.hid hno
    by_cases hlt : k < l.length
    · obtain ⟨x, hx⟩ : ∃ x, l[k]? = some x := ⟨_, List.getElem?_eq_getElem hlt⟩
      obtain ⟨gq, oq, rfl, c0, c1⟩ := (RR.out.grown hg).at k x hx
      have xo := OO.out x (List.mem_of_getElem? hx)
      have M1 := Lib.hid (meets1_any x (e2, k2) xo.1 NE.out xo.2 BB.out (HX.out.grown hg))
      have XX := Lib.hid hx
      have dl : decide ((k : Int) < (l.length : Int)) = true := by simp; omega
      have hkl : (k : Int) < (l.length : Int) := by omega
      obtain ⟨bx, hbx⟩ : ∃ bx, bx = (x.1.getD 0 0 == e2.getD 0 0) := ⟨_, rfl⟩
      rw [← hbx] at M1
      have PX := Lib.hid hbx
      have ANY := Lib.hid (fun (h : bx = true) => (show meets e2 l = true by
        unfold meets
        rw [List.any_eq_true]
        exact ⟨x, List.mem_of_getElem? hx, by rw [← hbx, h]⟩))
      obtain ⟨xe, xp⟩ := x
      simp only [] at c0 c1 M1
      clear hg hno hx hbx xo
      generalize l.length = N at *
      go_wp2_with fail
      refine M1.out.mono ?_
      rintro e w3 ⟨rfl, hg⟩
      have G3 := Lib.hid (grown_trans G.out hg)
      clear hg
      cases bx
      · go_wp2
        go_roundw
        case rel =>
          refine ⟨k + 1, hlt, by go_num, G3.out, fun i y hi hy => ?_⟩
          rcases Nat.lt_or_ge i k with h | h
          · exact NO.out i y h hy
          · obtain rfl : i = k := by omega
            rw [XX.out] at hy
            injection hy with hy
            rw [← hy]; exact PX.out.symm
        case measure => simp [intOf]; omega
      · go_wp2
        go_ret
        exact ⟨⟨k, rfl, by rw [show meets e2 l = true from (by first | exact ANY.out rfl | exact ANY.out trivial)]; simp⟩, G3.out⟩
    · have NA := Lib.hid (any_kid l e2 k hno (by omega))
      have dl : decide ((k : Int) < (l.length : Int)) = false := by simp; omega
      clear hno hg
      generalize l.length = N at *
      go_wp2
      go_ret
      exact ⟨⟨-1, rfl, by rw [NA.out]; rfl⟩, G.out⟩
theorem containsKid_any (l : List Kid) (n : Nat) (hn : l.length = n) (hl : n ≤ 9223372036854775807) (q : Option Addr) (c : Nat) (hr : KidsAt w q l) (e2 : List Int) {g : Nat} (k2 : Int) (hx : KidIn w g (e2, k2)) (h2 : e2 ≠ []) (b2 : Byt e2) (ho : ∀ k ∈ l, k.1 ≠ [] ∧ Byt k.1) :
    Calls Try.prog 94 #[.slice q n c, .func (.func 95) #[] #[.pointer (some ⟨g, 0, none⟩)]] w fun e w' => e = .returned (.bool (meets e2 l)) ∧ w.grownBy w' none := by
  have I := Lib.hid (indexKid_any l n hn hl q c hr e2 k2 hx h2 b2 ho)
  clear hr hx ho h2 b2
  go_enter Try.func94, Try.ntmps94
  go_wp2_with fail
  refine I.out.mono ?_
  rintro e w' ⟨⟨z, rfl, hz⟩, hg⟩
  have G := Lib.hid hg
  have Z := Lib.hid hz
  clear hg hz
  go_wp2
  go_ret
  exact ⟨ret_bool Z.out, G.out⟩
theorem meetsAny_any (l : List Kid) (n : Nat) (hn : l.length = n) (hl : n ≤ 9223372036854775807) (q : Option Addr) (c : Nat) (hr : KidsAt w q l) (e2 : List Int) (k2 : Int) (h2 : e2 ≠ []) (b2 : Byt e2) (ho : ∀ k ∈ l, k.1 ≠ [] ∧ Byt k.1) :
    Calls Try.prog 81 #[.agg #[.string (strOfNums e2), .int .u64 k2], .slice q n c] w fun e w' => e = .returned (.bool (meets e2 l)) ∧ w.grownBy w' none := by
  have gB := grown1 w (.cells #[.string (strOfNums e2), .int .u64 k2] 86)
  have C := Lib.hid (containsKid_any (w := w.alloc (.cells #[.string (strOfNums e2), .int .u64 k2] 86)) (g := w.heap.size) l n hn hl q c (hr.grown gB) e2 k2 (heap_alloc_new w _) h2 b2 ho)
  have G := Lib.hid gB
  clear hr ho h2 b2 gB
  go_enter Try.func81, Try.ntmps81
  go_wp2_with fail
  refine C.out.mono ?_
  rintro e w' ⟨rfl, hg⟩
  have G2 := Lib.hid (grown_trans G.out hg)
  clear hg
  go_wp2
  go_ret
  exact ⟨rfl, G2.out⟩
end Go.Proofs.Ytbnnlbdjjpmgeaa


namespace Go.Proofs.Ytbnnlbdjjpmgeaa
open Go.RowKit
variable {w w' W : World} {lo hi a : Nat} {xs : List Int} {s s' : Cs}

def nmOf (nm : ByteArray) : Option Ex → ByteArray
  | none => ⟨#[]⟩
  | some _ => nm
def exOf : Option Ex → Ex
  | none => Ex.zero
  | some x => x
theorem own_ne {T T' : TypeId} {k n base g : Nat} {v : Value} {cs : Array Value} {ys : List Value} (h : w.ownsRow base T k v n ys) (hb : w.heap[g]? = some (.cells cs T' (0, 0))) (hT : T ≠ T') : v.ownBlock ≠ some g := by
  rcases h.2 with ⟨rfl, _⟩ | ⟨g', cap, cur, rfl, _, hg, _⟩
  · simp [Value.ownBlock]
  · intro e
    simp only [Value.ownBlock, Option.some.injEq] at e
    subst e
    rw [hg] at hb
    injection hb with hb
    injection hb with _ hb _
    exact hT hb
structure TnI (w0 W : World) (lo hi a : Nat) (xs : List Int) (s : Cs) (g0 g1 : Nat) (nm : ByteArray) (o : Option Ex) (l : List Kid) (v : Value) : Prop where
  pen : PenS W lo hi a xs s false
  res : NodeAt W g0 false ⟨#[]⟩ Ex.zero (.slice none 0 0)
  nod : NodeAt W g1 o.isSome (nmOf nm o) (exOf o) v
  own : W.ownsRow w0.heap.size 86 2 v l.length (l.flatMap kidCs)
  each : ∀ k ∈ l, k.1 ≠ [] ∧ Byt k.1
  grown : w0.grownBy W (some a)
  new0 : w0.heap.size ≤ g0
  new1 : w0.heap.size ≤ g1
  ne : g0 ≠ g1
  up : hi ≤ w0.heap.size
section
variable {w0 : World} {g0 g1 : Nat} {nm : ByteArray} {o : Option Ex} {l : List Kid} {v : Value}
theorem TnI.al (h : TnI w0 W lo hi a xs s g0 g1 nm o l v) : a < w0.heap.size := Nat.lt_of_lt_of_le h.pen.up h.up
theorem TnI.rowne (h : TnI w0 W lo hi a xs s g0 g1 nm o l v) : v.ownBlock = none ∨ v.ownBlock ≠ some a := by
  cases hb : v.ownBlock with
  | none => exact .inl rfl
  | some g => exact .inr (fun e => by injection e with e; have := (h.own.lt g hb).1; have := h.al; omega)
theorem TnI.call (h : TnI w0 W lo hi a xs s g0 g1 nm o l v) (hp : PenS w' lo hi a xs s' false) (hg : W.grownBy w' (some a)) : TnI w0 w' lo hi a xs s' g0 g1 nm o l v := by
  have ha := h.al
  exact ⟨hp, h.res.kept hg (by intro e; injection e with e; have := h.new0; omega), h.nod.kept hg (by intro e; injection e with e; have := h.new1; omega), h.own.kept hg h.rowne, h.each, grown_same h.grown hg, h.new0, h.new1, h.ne, h.up⟩
theorem TnI.same (h : TnI w0 W lo hi a xs s g0 g1 nm o l v) (hg : W.grownBy w' none) : TnI w0 w' lo hi a xs s g0 g1 nm o l v :=
  ⟨Pen.same h.pen hg, h.res.kept hg (by simp), h.nod.kept hg (by simp), own_grown h.own hg, h.each, grown_then h.grown hg, h.new0, h.new1, h.ne, h.up⟩
theorem TnI.mine (h : TnI w0 W lo hi a xs s g0 g1 nm o l v) {g : Nat} (hg : W.grownBy w' (some g)) (h0 : w0.heap.size ≤ g) (n0 : g ≠ g0) (n1 : g ≠ g1) (nv : v.ownBlock ≠ some g) : TnI w0 w' lo hi a xs s g0 g1 nm o l v :=
  ⟨Pen.kept h.pen hg (.inr (Nat.le_trans h.up h0)), h.res.kept hg (by intro e; injection e with e; exact n0 e), h.nod.kept hg (by intro e; injection e with e; exact n1 e), h.own.kept hg (.inr nv), h.each, grown_past h.grown hg h0, h.new0, h.new1, h.ne, h.up⟩
theorem TnI.said (h : TnI w0 W lo hi a xs s g0 g1 nm none l v) (x : Ex) (hg : W.grownBy w' (some g1)) (hn : NodeAt w' g1 true nm x v) : TnI w0 w' lo hi a xs s g0 g1 nm (some x) l v :=
  ⟨Pen.kept h.pen hg (.inr (Nat.le_trans h.up h.new1)), h.res.kept hg (by intro e; injection e with e; exact h.ne e.symm), hn, h.own.kept hg (.inr (own_ne h.own h.nod (by decide))), h.each, grown_past h.grown hg h.new1, h.new0, h.new1, h.ne, h.up⟩
theorem TnI.more (h : TnI w0 W lo hi a xs s g0 g1 nm o l v) (k : Kid) (hk : k.1 ≠ [] ∧ Byt k.1) {w1 : World} {v' : Value} (ho : w1.ownsRow w0.heap.size 86 2 v' (l.length + 1) (l.flatMap kidCs ++ kidCs k)) (hg : W.grownBy w1 v.ownBlock) :
    TnI w0 (w1.setCell ⟨g1, 8, none⟩ v') lo hi a xs s g0 g1 nm o (l ++ [k]) v' := by
  have hv : ∀ g, v.ownBlock = some g → w0.heap.size ≤ g := fun g e => (h.own.lt g e).1
  have r1 : NodeAt w1 g0 false ⟨#[]⟩ Ex.zero (.slice none 0 0) := h.res.kept hg (own_ne h.own h.res (by decide))
  have n1 : NodeAt w1 g1 o.isSome (nmOf nm o) (exOf o) v := h.nod.kept hg (own_ne h.own h.nod (by decide))
  have gs := grown_setCell (i := 8) (grown_refl w1 (some g1)) v'
  have p1 := Pen.row h.pen hg (fun g e => Nat.le_trans h.up (hv g e))
  refine ⟨Pen.kept p1 gs (.inr (Nat.le_trans h.up h.new1)), r1.kept gs (by intro e; injection e with e; exact h.ne e.symm), n1.kids v', ?_, ?_, grown_past (grown_row h.grown hg (fun g e => hv g e)) gs h.new1, h.new0, h.new1, h.ne, h.up⟩
  · rw [List.length_append, List.length_singleton, List.flatMap_append, List.flatMap_singleton]
    exact ho.kept gs (.inr (own_ne ho n1 (by decide)))
  · intro x hx
    rcases List.mem_append.1 hx with hx | hx
    · exact h.each x hx
    · rw [List.mem_singleton.1 hx]; exact hk
theorem NodeAt.put (h : NodeAt W g0 false ⟨#[]⟩ Ex.zero (.slice none 0 0)) (b : Bool) (nm' : ByteArray) (y : Ex) (v' : Value) :
    NodeAt (((((((((W.setCell ⟨g0, 0, none⟩ (.bool b)).setCell ⟨g0, 1, none⟩ (.string nm')).setCell ⟨g0, 2, none⟩ (.int .i64 y.kind)).setCell ⟨g0, 3, none⟩ (.bool y.weak)).setCell ⟨g0, 4, none⟩ (.int .u64 y.value)).setCell ⟨g0, 5, none⟩ (.int .u64 y.resolver)).setCell ⟨g0, 6, none⟩ (.int .u64 y.ordinal)).setCell ⟨g0, 7, none⟩ (.string (strOfNums y.other))).setCell ⟨g0, 8, none⟩ v') g0 b nm' y v' :=
  ((((((((h.s0 b).s1 nm').s2 y.kind).s3 y.weak).s4 y.value).s5 y.resolver).s6 y.ordinal).s7 y.other).kids v'
theorem grown_put9 {w1 : World} {g : Nat} (h : W.grownBy w1 (some g)) (v0 v1 v2 v3 v4 v5 v6 v7 v8 : Value) : W.grownBy (((((((((w1.setCell ⟨g, 0, none⟩ v0).setCell ⟨g, 1, none⟩ v1).setCell ⟨g, 2, none⟩ v2).setCell ⟨g, 3, none⟩ v3).setCell ⟨g, 4, none⟩ v4).setCell ⟨g, 5, none⟩ v5).setCell ⟨g, 6, none⟩ v6).setCell ⟨g, 7, none⟩ v7).setCell ⟨g, 8, none⟩ v8) (some g) :=
  grown_setCell (grown_setCell (grown_setCell (grown_setCell (grown_setCell (grown_setCell (grown_setCell (grown_setCell (grown_setCell h _) _) _) _) _) _) _) _) _
theorem grown_put8 {w1 : World} {g : Nat} (h : W.grownBy w1 (some g)) (v0 v1 v2 v3 v4 v5 v6 v7 : Value) : W.grownBy ((((((((w1.setCell ⟨g, 0, none⟩ v0).setCell ⟨g, 1, none⟩ v1).setCell ⟨g, 2, none⟩ v2).setCell ⟨g, 3, none⟩ v3).setCell ⟨g, 4, none⟩ v4).setCell ⟨g, 5, none⟩ v5).setCell ⟨g, 6, none⟩ v6).setCell ⟨g, 7, none⟩ v7) (some g) :=
  grown_setCell (grown_setCell (grown_setCell (grown_setCell (grown_setCell (grown_setCell (grown_setCell (grown_setCell h _) _) _) _) _) _) _) _
end
structure TnOut (w w' : World) (lo hi a : Nat) (xs : List Int) (s : Cs) (nm : ByteArray) (e : Ending) : Prop where
  ex : ∃ nd v s', e = .returned (nodeV nd.ex.isSome (nmOf nm nd.ex) (exOf nd.ex) v) ∧ PenS w' lo hi a xs s' false ∧ Sim nodeP xs s nd s' ∧ w'.ownsRow w.heap.size 86 2 v nd.kids.length (nd.kids.flatMap kidCs)
  grown : w.grownBy w' (some a)
set_option maxRecDepth 20000 in
set_option maxHeartbeats 3200000 in
theorem taken_any (h : PenS w lo hi a xs s false) (nm : ByteArray) (hb : Byt xs) :
    Calls Try.prog 61 #[.pointer (some ⟨a, 0, none⟩), .string nm] w fun e w' => TnOut w w' lo hi a xs s nm e := by
  have hbig : xs.length ≤ 140737488355328 := Pen.most h
  have hhi : hi ≤ w.heap.size := h.sz
  have g1 := grown1 w (.cells #[.bool false, .string ⟨#[]⟩, .int .i64 0, .bool false, .int .u64 0, .int .u64 0, .int .u64 0, .string ⟨#[]⟩, .slice none 0 0] 62)
  have r1 : NodeAt (w.alloc (.cells #[.bool false, .string ⟨#[]⟩, .int .i64 0, .bool false, .int .u64 0, .int .u64 0, .int .u64 0, .string ⟨#[]⟩, .slice none 0 0] 62)) w.heap.size false ⟨#[]⟩ Ex.zero (.slice none 0 0) := heap_alloc_new w _
  obtain ⟨w1, hw1⟩ : ∃ w1, w.alloc (.cells #[.bool false, .string ⟨#[]⟩, .int .i64 0, .bool false, .int .u64 0, .int .u64 0, .int .u64 0, .string ⟨#[]⟩, .slice none 0 0] 62) = w1 := ⟨_, rfl⟩
  obtain ⟨g0, hg0⟩ : ∃ g0, w.heap.size = g0 := ⟨_, rfl⟩
  rw [hw1] at g1 r1
  rw [hg0] at r1
  have HW1 := Lib.hid hw1
  have HG0 := Lib.hid hg0
  have gl := r1.lt
  have g2 := grown1 w1 (.cells #[.bool false, .string ⟨#[]⟩, .int .i64 0, .bool false, .int .u64 0, .int .u64 0, .int .u64 0, .string ⟨#[]⟩, .slice none 0 0] 62)
  have r2 : NodeAt (w1.alloc (.cells #[.bool false, .string ⟨#[]⟩, .int .i64 0, .bool false, .int .u64 0, .int .u64 0, .int .u64 0, .string ⟨#[]⟩, .slice none 0 0] 62)) w1.heap.size false ⟨#[]⟩ Ex.zero (.slice none 0 0) := heap_alloc_new w1 _
  have T2 := Lib.hid (show TnI w (w1.alloc (.cells #[.bool false, .string ⟨#[]⟩, .int .i64 0, .bool false, .int .u64 0, .int .u64 0, .int .u64 0, .string ⟨#[]⟩, .slice none 0 0] 62)) lo hi a xs s g0 w1.heap.size nm none [] (.slice none 0 0) from
    ⟨Pen.same (Pen.same h g1) g2, r1.kept g2 (by simp), r2, World.ownsRow_nil _ _ _ _, fun k hk => (by cases hk), grown_any (grown_trans g1 g2) _, by omega, g1.size, by omega, hhi⟩)
  obtain ⟨w2, hw2⟩ : ∃ w2, w1.alloc (.cells #[.bool false, .string ⟨#[]⟩, .int .i64 0, .bool false, .int .u64 0, .int .u64 0, .int .u64 0, .string ⟨#[]⟩, .slice none 0 0] 62) = w2 := ⟨_, rfl⟩
  obtain ⟨gx, hgx⟩ : ∃ gx, w1.heap.size = gx := ⟨_, rfl⟩
  rw [hw2, hgx] at T2
  have HW2 := Lib.hid hw2
  have HGX := Lib.hid hgx
  have HB := Lib.hid hb
  clear h g1 g2 r1 r2 gl hw1 hg0 hw2 hgx hb
  go_enter Try.func61, Try.ntmps61
  go_upto_region 1 with fail
  rw [HW1.out, HG0.out]
  go_upto_region 2 with fail
  rw [HW2.out, HGX.out]
  clear HW1 HG0 HW2 HGX
  have S0 := Lib.hid (sim_ul xs s)
  have B0 := Lib.hid (ulS_bd (xs := xs) (s := s))
  go_wp2_with fail
  refine (pen_ul T2.out.pen).mono ?_
  rintro e w3 ⟨rfl, hp, hg⟩
  have T3 := Lib.hid (T2.out.call hp hg)
  clear hp hg T2
  obtain ⟨Z, hZ⟩ : ∃ z, z = (ulS xs s).1 := ⟨_, rfl⟩
  obtain ⟨s1, hs1⟩ : ∃ z, z = (ulS xs s).2 := ⟨_, rfl⟩
  rw [← hZ, ← hs1] at S0
  rw [← hZ] at B0
  rw [← hs1] at T3
  rw [← hZ]
  clear hZ hs1
  by_cases hz : 0 < Z
  · have hdz : decide (0 < Z) = true := decide_eq_true hz
    go_wp2_with fail
    refine (takeExport_any T3.out.pen nm Z B0.out).mono ?_
    rintro e w4 ⟨⟨x, s2, rfl, hp, hs⟩, hg⟩
    have T4 := Lib.hid (T3.out.call hp hg)
    have S1 := Lib.hid (show Sim (exP Z) xs s1 (some x) s2 by unfold exP; rw [if_neg (by omega)]; exact Sim.B hs (Sim.R _ _))
    clear hp hg hs T3
    obtain ⟨n0, n1, n2, n3, n4, n5, n6, n7, n8⟩ := T4.out.nod.c
    have nf := T4.out.nod.fz
    have nl := T4.out.nod.lt
    unfold exV exArr
    go_upto_region 5 with fail
    have T5 := Lib.hid (T4.out.said x (grown_put8 (grown_refl w4 (some gx)) (.bool true) (.string nm) (.int .i64 x.kind) (.bool x.weak) (.int .u64 x.value) (.int .u64 x.resolver) (.int .u64 x.ordinal) (.string (strOfNums x.other))) (T4.out.nod.said nm x))
    clear n0 n1 n2 n3 n4 n5 n6 n7 n8 nf nl T4
    obtain ⟨w5, hw5⟩ : ∃ w5, (((((((w4.setCell ⟨gx, 0, none⟩ (.bool true)).setCell ⟨gx, 1, none⟩ (.string nm)).setCell ⟨gx, 2, none⟩ (.int .i64 x.kind)).setCell ⟨gx, 3, none⟩ (.bool x.weak)).setCell ⟨gx, 4, none⟩ (.int .u64 x.value)).setCell ⟨gx, 5, none⟩ (.int .u64 x.resolver)).setCell ⟨gx, 6, none⟩ (.int .u64 x.ordinal)).setCell ⟨gx, 7, none⟩ (.string (strOfNums x.other)) = w5 := ⟨_, rfl⟩
    rw [hw5] at T5
    (try rw [hw5])
    clear hw5
    have S2 := Lib.hid (sim_by xs s2)
    have B2 := Lib.hid (byS_bd (s := s2) HB.out)
    go_wp2_with fail
    refine (pen_by T5.out.pen).mono ?_
    rintro e w6 ⟨rfl, hp, hg⟩
    have T6 := Lib.hid (T5.out.call hp hg)
    clear hp hg T5
    obtain ⟨M, hM⟩ : ∃ M : Nat, (M : Int) = (byS xs s2).1 := ⟨((byS xs s2).1).toNat, by have := B2.out; omega⟩
    obtain ⟨s3, hs3⟩ : ∃ z, z = (byS xs s2).2 := ⟨_, rfl⟩
    rw [← hM, ← hs3] at S2
    rw [← hM] at B2
    rw [← hs3] at T6
    rw [← hM]
    clear hM hs3
    have mM : M < 256 := by have := B2.out; omega
    clear B2
    go_wp2_with fail
    go_loopw [20] (fun i wr => ∃ (k : Nat) (l : List Kid) (v : Value) (sk : Cs), k ≤ M ∧ i = .int .u64 k ∧ l.length = k ∧ TnI w wr lo hi a xs sk g0 gx nm (some x) l v ∧ Hid (∀ r s', Sim (kidsP (M - k) l) xs sk r s' → Sim (kidsP M []) xs s3 r s')) (fun i _ => M - (intOf i).toNat)
    case atStart => exact ⟨0, [], _, s3, Nat.zero_le _, rfl, rfl, T6.out, Lib.hid (fun r s' h => h)⟩
    case round =>
      obtain ⟨k, l, v, sk, hk, rfl, hl, hT, CO⟩ := hrel
      obtain ⟨q, c, rfl⟩ := own_slice hT.own
      have T := Lib.hid hT
      have HL := Lib.hid hl
      clear hT hl T6
      by_cases hlt : k < M
      · have ST := Lib.hid (sim_tx xs sk)
        have CO2 := Lib.hid (show ∀ r s', Sim (kidsP (M - (k + 1) + 1) l) xs sk r s' → Sim (kidsP M []) xs s3 r s' by rw [show M - (k + 1) + 1 = M - k by omega]; exact CO.out)
        clear CO
        go_wp2_with fail
        refine (pen_tx T.out.pen).mono ?_
        rintro e w7 ⟨rfl, hp, hg⟩
        have T7 := Lib.hid (T.out.call hp hg)
        clear hp hg T
        obtain ⟨E, hE⟩ : ∃ z, z = (txS xs sk).1 := ⟨_, rfl⟩
        obtain ⟨s4, hs4⟩ : ∃ z, z = (txS xs sk).2 := ⟨_, rfl⟩
        have BE := Lib.hid (show Byt E by
          rw [hE]; unfold txS
          split
          · exact (HB.out.drop _).pre
          · intro x hx; cases hx)
        rw [← hE, ← hs4] at ST
        rw [← hs4] at T7
        rw [← hE]
        clear hE hs4
        have g8 := grown1 w7 (.cells #[.string (strOfNums E), .int .u64 0] 86)
        have k8 : KidIn (w7.alloc (.cells #[.string (strOfNums E), .int .u64 0] 86)) w7.heap.size (E, 0) := heap_alloc_new w7 _
        have T8 := Lib.hid (T7.out.same g8)
        have K8 := Lib.hid k8
        have LK := Lib.hid (show w.heap.size ≤ w7.heap.size from T7.out.grown.size)
        have LV := Lib.hid (fun g (e : (Value.slice q l.length c).ownBlock = some g) => ((T7.out.own.lt g e).2 : g < w7.heap.size))
        have L0 := Lib.hid (show g0 < w7.heap.size from T7.out.res.lt)
        have L1 := Lib.hid (show gx < w7.heap.size from T7.out.nod.lt)
        obtain ⟨w8, hw8⟩ : ∃ w8, w7.alloc (.cells #[.string (strOfNums E), .int .u64 0] 86) = w8 := ⟨_, rfl⟩
        obtain ⟨gk, hgk⟩ : ∃ gk, w7.heap.size = gk := ⟨_, rfl⟩
        rw [hw8] at T8 K8
        rw [hgk] at K8 LK LV L0 L1
        have HW8 := Lib.hid hw8
        have HGK := Lib.hid hgk
        clear g8 k8 hw8 hgk T7
        go_upto_region 8 with fail
        rw [HW8.out, HGK.out]
        clear HW8 HGK
        have SU := Lib.hid (sim_ul xs s4)
        have BU := Lib.hid (ulS_bd (xs := xs) (s := s4))
        go_wp2_with fail
        refine (pen_ul T8.out.pen).mono ?_
        rintro e w9 ⟨rfl, hp, hg⟩
        have T9 := Lib.hid (T8.out.call hp hg)
        have hak := T8.out.al
        have k9 := K8.out.kept hg (by intro e; injection e with e; have := LK.out; omega)
        have kf := k9.fz
        have kl := k9.lt
        have kc := k9.c1
        have K9 := Lib.hid k9
        clear hp hg T8 K8 hak k9
        obtain ⟨P, hP⟩ : ∃ z, z = (ulS xs s4).1 := ⟨_, rfl⟩
        obtain ⟨s5, hs5⟩ : ∃ z, z = (ulS xs s4).2 := ⟨_, rfl⟩
        rw [← hP, ← hs5] at SU
        rw [← hP] at BU
        rw [← hs5] at T9
        rw [← hP]
        clear hP hs5
        go_upto_region 9 with fail
        have gz := grown_setCell (i := 1) (grown_refl w9 (some gk)) (.int .u64 P)
        have T10 := Lib.hid (T9.out.mine gz LK.out (by have := L0.out; omega) (by have := L1.out; omega) (by intro e; have := LV.out gk e; omega))
        have K10 := Lib.hid (K9.out.place P)
        obtain ⟨wa, hwa⟩ : ∃ wa, w9.setCell ⟨gk, 1, none⟩ (.int .u64 P) = wa := ⟨_, rfl⟩
        rw [hwa] at T10 K10
        (try rw [hwa])
        clear hwa gz kf kl kc T9 K9
        have q0 := K10.out.c0
        have q1 := K10.out.c1
        have ql := K10.out.lt
        obtain ⟨m0, m1, m2, m3, m4, m5, m6, m7, m8⟩ := T10.out.nod.c
        have ml := T10.out.nod.lt
        have LE := Lib.hid (show s5.1 ≤ s5.1 ∧ s4.1 ≤ s5.1 from ⟨Nat.le_refl _, SU.out.le⟩)
        by_cases hE : E = []
        · have he : (strOfNums E).toList.isEmpty = true := by rw [hE, Lib.strOfNums_toList]; rfl
          have HE := Lib.hid hE
          clear hE
          go_wp2_with fail
          refine (pen_fl T10.out.pen).mono ?_
          rintro e wb ⟨rfl, hp, hg⟩
          have T11 := Lib.hid (T10.out.call hp hg)
          clear hp hg m0 m1 m2 m3 m4 m5 m6 m7 m8 ml q0 q1 ql
          have SX := Lib.hid (show Sim nodeP xs s (⟨(some x), l⟩ : Nd) (s5.1, true) from Sim.B S0.out (Sim.B S1.out (Sim.B S2.out (Sim.B (CO2.out l (s5.1, true) (Sim.B ST.out (Sim.B SU.out (by rw [if_pos (.inl HE.out)]; exact Sim.F _ (Nat.le_refl _) rfl)))) (Sim.R _ _)))))
          have TF := Lib.hid T11.out
          obtain ⟨m0, m1, m2, m3, m4, m5, m6, m7, m8⟩ := T11.out.nod.c
          obtain ⟨d0, d1, d2, d3, d4, d5, d6, d7, d8⟩ := T11.out.res.c
          have df := T11.out.res.fz
          have dl := T11.out.res.lt
          have ml := T11.out.nod.lt
          simp only [Option.isSome, nmOf, exOf] at m0 m1 m2 m3 m4 m5 m6 m7
          go_wp2_with fail
          refine bodyPost_ret (results_node rfl rfl (TF.out.res.put true nm x (.slice q l.length c))) rfl ?_
          have GP := fun W : World => grown_put9 (grown_refl W (some g0)) (.bool true) (.string nm) (.int .i64 (x : Ex).kind) (.bool (x : Ex).weak) (.int .u64 (x : Ex).value) (.int .u64 (x : Ex).resolver) (.int .u64 (x : Ex).ordinal) (.string (strOfNums (x : Ex).other)) (.slice q l.length c)
          exact ⟨⟨⟨(some x), l⟩, (.slice q l.length c), _, rfl, Pen.kept TF.out.pen (GP _) (.inr (Nat.le_trans TF.out.up TF.out.new0)), SX.out, TF.out.own.kept (GP _) (.inr (own_ne TF.out.own TF.out.res (by decide)))⟩, grown_past TF.out.grown (GP _) TF.out.new0⟩
        · have he : (strOfNums E).toList.isEmpty = false := by
            rw [Lib.strOfNums_toList]
            cases E with
            | nil => exact absurd rfl hE
            | cons => rfl
          have HE := Lib.hid hE
          have hln : l.length ≤ 9223372036854775807 := by have := HL.out; omega
          have MA := Lib.hid (meetsAny_any (w := wa) l l.length rfl hln q c (KidsAt.of T10.out.own) E P HE.out BE.out T10.out.each)
          clear hE hln
          go_wp2_with fail
          refine MA.out.mono ?_
          rintro e wb ⟨rfl, hg⟩
          have T11 := Lib.hid (T10.out.same hg)
          have K11 := Lib.hid (K10.out.grown hg)
          clear hg m0 m1 m2 m3 m4 m5 m6 m7 m8 ml q0 q1 ql MA T10 K10
          obtain ⟨bm, hbm⟩ : ∃ bm, bm = meets E l := ⟨_, rfl⟩
          rw [← hbm]
          have HM := Lib.hid hbm
          clear hbm
          cases bm with
          | true =>
            go_wp2_with fail
            refine (pen_fl T11.out.pen).mono ?_
            rintro e wc ⟨rfl, hp, hg⟩
            have T12 := Lib.hid (T11.out.call hp hg)
            clear hp hg
            have SX := Lib.hid (show Sim nodeP xs s (⟨(some x), l⟩ : Nd) (s5.1, true) from Sim.B S0.out (Sim.B S1.out (Sim.B S2.out (Sim.B (CO2.out l (s5.1, true) (Sim.B ST.out (Sim.B SU.out (by rw [if_pos (.inr HM.out.symm)]; exact Sim.F _ (Nat.le_refl _) rfl)))) (Sim.R _ _)))))
            have TF := Lib.hid T12.out
            obtain ⟨m0, m1, m2, m3, m4, m5, m6, m7, m8⟩ := T12.out.nod.c
            obtain ⟨d0, d1, d2, d3, d4, d5, d6, d7, d8⟩ := T12.out.res.c
            have df := T12.out.res.fz
            have dl := T12.out.res.lt
            have ml := T12.out.nod.lt
            simp only [Option.isSome, nmOf, exOf] at m0 m1 m2 m3 m4 m5 m6 m7
            go_wp2_with fail
            refine bodyPost_ret (results_node rfl rfl (TF.out.res.put true nm x (.slice q l.length c))) rfl ?_
            have GP := fun W : World => grown_put9 (grown_refl W (some g0)) (.bool true) (.string nm) (.int .i64 (x : Ex).kind) (.bool (x : Ex).weak) (.int .u64 (x : Ex).value) (.int .u64 (x : Ex).resolver) (.int .u64 (x : Ex).ordinal) (.string (strOfNums (x : Ex).other)) (.slice q l.length c)
            exact ⟨⟨⟨(some x), l⟩, (.slice q l.length c), _, rfl, Pen.kept TF.out.pen (GP _) (.inr (Nat.le_trans TF.out.up TF.out.new0)), SX.out, TF.out.own.kept (GP _) (.inr (own_ne TF.out.own TF.out.res (by decide)))⟩, grown_past TF.out.grown (GP _) TF.out.new0⟩
          | false =>
            have q0 := K11.out.c0
            have q1 := K11.out.c1
            have ql := K11.out.lt
            have m8 := T11.out.nod.c.2.2.2.2.2.2.2.2
            have ml := T11.out.nod.lt
            have gn := grown1 wb (.cells #[.string (strOfNums E), .int .u64 P] 86)
            have T12 := Lib.hid (T11.out.same gn)
            have N12 := Lib.hid (heap_alloc_new wb (.cells #[.string (strOfNums E), .int .u64 P] 86))
            have SZ := Lib.hid (show w.heap.size ≤ wb.heap.size from T11.out.grown.size)
            go_wp2_with (at_builtin; refine wp_append_st kidType rfl _ _ rfl _ l.length _ rfl T12.out.own [.string (strOfNums E), .int .u64 P] rfl wb.heap.size rfl N12.out (kidCs_one (E, P)) (by have := HL.out; omega) (by decide) ?_ ?_)
            · have := SZ.out; (try rw [World.size_alloc]); omega
            intro v' wd ho hg3
            obtain ⟨q', c', rfl⟩ := own_slice ho
            have nd3 : NodeAt wd gx _ _ _ _ := T12.out.nod.kept hg3 (own_ne T12.out.own T12.out.nod (by decide))
            have c8 := nd3.c.2.2.2.2.2.2.2.2
            have cf := nd3.fz
            have cl := nd3.lt
            have T13 := Lib.hid (T12.out.more (E, P) ⟨HE.out, BE.out⟩ ho hg3)
            clear nd3 ho hg3 m8 ml q0 q1 ql gn
            go_wp2
            go_roundw
            case rel => exact ⟨k + 1, l ++ [(E, P)], _, s5, hlt, by go_num, by rw [List.length_append, HL.out]; rfl, T13.out, Lib.hid (fun r s' h => CO2.out r s' (Sim.B ST.out (Sim.B SU.out (by rw [if_neg (fun h => h.elim HE.out (fun h => by rw [← HM.out] at h; cases h))]; exact h))))⟩
            case measure => simp [intOf]; omega
      · have hkM : k = M := by omega
        have CO3 := Lib.hid (show ∀ r s', Sim (kidsP 0 l) xs sk r s' → Sim (kidsP M []) xs s3 r s' by rw [show 0 = M - k by omega]; exact CO.out)
        have dk : decide ((k : Int) < (M : Int)) = false := by simp; omega
        clear CO hlt
        have SX := Lib.hid (show Sim nodeP xs s (⟨(some x), l⟩ : Nd) sk from Sim.B S0.out (Sim.B S1.out (Sim.B S2.out (Sim.B (CO3.out l sk (Sim.R _ _)) (Sim.R _ _)))))
        have TF := Lib.hid T.out
        obtain ⟨m0, m1, m2, m3, m4, m5, m6, m7, m8⟩ := T.out.nod.c
        obtain ⟨d0, d1, d2, d3, d4, d5, d6, d7, d8⟩ := T.out.res.c
        have df := T.out.res.fz
        have dl := T.out.res.lt
        have ml := T.out.nod.lt
        simp only [Option.isSome, nmOf, exOf] at m0 m1 m2 m3 m4 m5 m6 m7
        go_wp2_with fail
        refine bodyPost_ret (results_node rfl rfl (TF.out.res.put true nm x (.slice q l.length c))) rfl ?_
        have GP := fun W : World => grown_put9 (grown_refl W (some g0)) (.bool true) (.string nm) (.int .i64 (x : Ex).kind) (.bool (x : Ex).weak) (.int .u64 (x : Ex).value) (.int .u64 (x : Ex).resolver) (.int .u64 (x : Ex).ordinal) (.string (strOfNums (x : Ex).other)) (.slice q l.length c)
        exact ⟨⟨⟨(some x), l⟩, (.slice q l.length c), _, rfl, Pen.kept TF.out.pen (GP _) (.inr (Nat.le_trans TF.out.up TF.out.new0)), SX.out, TF.out.own.kept (GP _) (.inr (own_ne TF.out.own TF.out.res (by decide)))⟩, grown_past TF.out.grown (GP _) TF.out.new0⟩
  · have hdz : decide (0 < Z) = false := decide_eq_false hz
    have S1 := Lib.hid (show Sim (exP Z) xs s1 none s1 by unfold exP; rw [if_pos (by have := B0.out; omega)]; exact Sim.R _ _)
    go_upto_region 5 with fail
    have T5 := T3
    have S2 := Lib.hid (sim_by xs s1)
    have B2 := Lib.hid (byS_bd (s := s1) HB.out)
    go_wp2_with fail
    refine (pen_by T5.out.pen).mono ?_
    rintro e w6 ⟨rfl, hp, hg⟩
    have T6 := Lib.hid (T5.out.call hp hg)
    clear hp hg T5
    obtain ⟨M, hM⟩ : ∃ M : Nat, (M : Int) = (byS xs s1).1 := ⟨((byS xs s1).1).toNat, by have := B2.out; omega⟩
    obtain ⟨s3, hs3⟩ : ∃ z, z = (byS xs s1).2 := ⟨_, rfl⟩
    rw [← hM, ← hs3] at S2
    rw [← hM] at B2
    rw [← hs3] at T6
    rw [← hM]
    clear hM hs3
    have mM : M < 256 := by have := B2.out; omega
    clear B2
    go_wp2_with fail
    go_loopw [20] (fun i wr => ∃ (k : Nat) (l : List Kid) (v : Value) (sk : Cs), k ≤ M ∧ i = .int .u64 k ∧ l.length = k ∧ TnI w wr lo hi a xs sk g0 gx nm none l v ∧ Hid (∀ r s', Sim (kidsP (M - k) l) xs sk r s' → Sim (kidsP M []) xs s3 r s')) (fun i _ => M - (intOf i).toNat)
    case atStart => exact ⟨0, [], _, s3, Nat.zero_le _, rfl, rfl, T6.out, Lib.hid (fun r s' h => h)⟩
    case round =>
      obtain ⟨k, l, v, sk, hk, rfl, hl, hT, CO⟩ := hrel
      obtain ⟨q, c, rfl⟩ := own_slice hT.own
      have T := Lib.hid hT
      have HL := Lib.hid hl
      clear hT hl T6
      by_cases hlt : k < M
      · have ST := Lib.hid (sim_tx xs sk)
        have CO2 := Lib.hid (show ∀ r s', Sim (kidsP (M - (k + 1) + 1) l) xs sk r s' → Sim (kidsP M []) xs s3 r s' by rw [show M - (k + 1) + 1 = M - k by omega]; exact CO.out)
        clear CO
        go_wp2_with fail
        refine (pen_tx T.out.pen).mono ?_
        rintro e w7 ⟨rfl, hp, hg⟩
        have T7 := Lib.hid (T.out.call hp hg)
        clear hp hg T
        obtain ⟨E, hE⟩ : ∃ z, z = (txS xs sk).1 := ⟨_, rfl⟩
        obtain ⟨s4, hs4⟩ : ∃ z, z = (txS xs sk).2 := ⟨_, rfl⟩
        have BE := Lib.hid (show Byt E by
          rw [hE]; unfold txS
          split
          · exact (HB.out.drop _).pre
          · intro x hx; cases hx)
        rw [← hE, ← hs4] at ST
        rw [← hs4] at T7
        rw [← hE]
        clear hE hs4
        have g8 := grown1 w7 (.cells #[.string (strOfNums E), .int .u64 0] 86)
        have k8 : KidIn (w7.alloc (.cells #[.string (strOfNums E), .int .u64 0] 86)) w7.heap.size (E, 0) := heap_alloc_new w7 _
        have T8 := Lib.hid (T7.out.same g8)
        have K8 := Lib.hid k8
        have LK := Lib.hid (show w.heap.size ≤ w7.heap.size from T7.out.grown.size)
        have LV := Lib.hid (fun g (e : (Value.slice q l.length c).ownBlock = some g) => ((T7.out.own.lt g e).2 : g < w7.heap.size))
        have L0 := Lib.hid (show g0 < w7.heap.size from T7.out.res.lt)
        have L1 := Lib.hid (show gx < w7.heap.size from T7.out.nod.lt)
        obtain ⟨w8, hw8⟩ : ∃ w8, w7.alloc (.cells #[.string (strOfNums E), .int .u64 0] 86) = w8 := ⟨_, rfl⟩
        obtain ⟨gk, hgk⟩ : ∃ gk, w7.heap.size = gk := ⟨_, rfl⟩
        rw [hw8] at T8 K8
        rw [hgk] at K8 LK LV L0 L1
        have HW8 := Lib.hid hw8
        have HGK := Lib.hid hgk
        clear g8 k8 hw8 hgk T7
        go_upto_region 8 with fail
        rw [HW8.out, HGK.out]
        clear HW8 HGK
        have SU := Lib.hid (sim_ul xs s4)
        have BU := Lib.hid (ulS_bd (xs := xs) (s := s4))
        go_wp2_with fail
        refine (pen_ul T8.out.pen).mono ?_
        rintro e w9 ⟨rfl, hp, hg⟩
        have T9 := Lib.hid (T8.out.call hp hg)
        have hak := T8.out.al
        have k9 := K8.out.kept hg (by intro e; injection e with e; have := LK.out; omega)
        have kf := k9.fz
        have kl := k9.lt
        have kc := k9.c1
        have K9 := Lib.hid k9
        clear hp hg T8 K8 hak k9
        obtain ⟨P, hP⟩ : ∃ z, z = (ulS xs s4).1 := ⟨_, rfl⟩
        obtain ⟨s5, hs5⟩ : ∃ z, z = (ulS xs s4).2 := ⟨_, rfl⟩
        rw [← hP, ← hs5] at SU
        rw [← hP] at BU
        rw [← hs5] at T9
        rw [← hP]
        clear hP hs5
        go_upto_region 9 with fail
        have gz := grown_setCell (i := 1) (grown_refl w9 (some gk)) (.int .u64 P)
        have T10 := Lib.hid (T9.out.mine gz LK.out (by have := L0.out; omega) (by have := L1.out; omega) (by intro e; have := LV.out gk e; omega))
        have K10 := Lib.hid (K9.out.place P)
        obtain ⟨wa, hwa⟩ : ∃ wa, w9.setCell ⟨gk, 1, none⟩ (.int .u64 P) = wa := ⟨_, rfl⟩
        rw [hwa] at T10 K10
        (try rw [hwa])
        clear hwa gz kf kl kc T9 K9
        have q0 := K10.out.c0
        have q1 := K10.out.c1
        have ql := K10.out.lt
        obtain ⟨m0, m1, m2, m3, m4, m5, m6, m7, m8⟩ := T10.out.nod.c
        have ml := T10.out.nod.lt
        have LE := Lib.hid (show s5.1 ≤ s5.1 ∧ s4.1 ≤ s5.1 from ⟨Nat.le_refl _, SU.out.le⟩)
        by_cases hE : E = []
        · have he : (strOfNums E).toList.isEmpty = true := by rw [hE, Lib.strOfNums_toList]; rfl
          have HE := Lib.hid hE
          clear hE
          go_wp2_with fail
          refine (pen_fl T10.out.pen).mono ?_
          rintro e wb ⟨rfl, hp, hg⟩
          have T11 := Lib.hid (T10.out.call hp hg)
          clear hp hg m0 m1 m2 m3 m4 m5 m6 m7 m8 ml q0 q1 ql
          have SX := Lib.hid (show Sim nodeP xs s (⟨none, l⟩ : Nd) (s5.1, true) from Sim.B S0.out (Sim.B S1.out (Sim.B S2.out (Sim.B (CO2.out l (s5.1, true) (Sim.B ST.out (Sim.B SU.out (by rw [if_pos (.inl HE.out)]; exact Sim.F _ (Nat.le_refl _) rfl)))) (Sim.R _ _)))))
          have TF := Lib.hid T11.out
          obtain ⟨m0, m1, m2, m3, m4, m5, m6, m7, m8⟩ := T11.out.nod.c
          obtain ⟨d0, d1, d2, d3, d4, d5, d6, d7, d8⟩ := T11.out.res.c
          have df := T11.out.res.fz
          have dl := T11.out.res.lt
          have ml := T11.out.nod.lt
          simp only [Option.isSome, nmOf, exOf] at m0 m1 m2 m3 m4 m5 m6 m7
          go_wp2_with fail
          refine bodyPost_ret (results_node rfl rfl (TF.out.res.put false ⟨#[]⟩ Ex.zero (.slice q l.length c))) rfl ?_
          have GP := fun W : World => grown_put9 (grown_refl W (some g0)) (.bool false) (.string ⟨#[]⟩) (.int .i64 (Ex.zero : Ex).kind) (.bool (Ex.zero : Ex).weak) (.int .u64 (Ex.zero : Ex).value) (.int .u64 (Ex.zero : Ex).resolver) (.int .u64 (Ex.zero : Ex).ordinal) (.string (strOfNums (Ex.zero : Ex).other)) (.slice q l.length c)
          exact ⟨⟨⟨none, l⟩, (.slice q l.length c), _, rfl, Pen.kept TF.out.pen (GP _) (.inr (Nat.le_trans TF.out.up TF.out.new0)), SX.out, TF.out.own.kept (GP _) (.inr (own_ne TF.out.own TF.out.res (by decide)))⟩, grown_past TF.out.grown (GP _) TF.out.new0⟩
        · have he : (strOfNums E).toList.isEmpty = false := by
            rw [Lib.strOfNums_toList]
            cases E with
            | nil => exact absurd rfl hE
            | cons => rfl
          have HE := Lib.hid hE
          have hln : l.length ≤ 9223372036854775807 := by have := HL.out; omega
          have MA := Lib.hid (meetsAny_any (w := wa) l l.length rfl hln q c (KidsAt.of T10.out.own) E P HE.out BE.out T10.out.each)
          clear hE hln
          go_wp2_with fail
          refine MA.out.mono ?_
          rintro e wb ⟨rfl, hg⟩
          have T11 := Lib.hid (T10.out.same hg)
          have K11 := Lib.hid (K10.out.grown hg)
          clear hg m0 m1 m2 m3 m4 m5 m6 m7 m8 ml q0 q1 ql MA T10 K10
          obtain ⟨bm, hbm⟩ : ∃ bm, bm = meets E l := ⟨_, rfl⟩
          rw [← hbm]
          have HM := Lib.hid hbm
          clear hbm
          cases bm with
          | true =>
            go_wp2_with fail
            refine (pen_fl T11.out.pen).mono ?_
            rintro e wc ⟨rfl, hp, hg⟩
            have T12 := Lib.hid (T11.out.call hp hg)
            clear hp hg
            have SX := Lib.hid (show Sim nodeP xs s (⟨none, l⟩ : Nd) (s5.1, true) from Sim.B S0.out (Sim.B S1.out (Sim.B S2.out (Sim.B (CO2.out l (s5.1, true) (Sim.B ST.out (Sim.B SU.out (by rw [if_pos (.inr HM.out.symm)]; exact Sim.F _ (Nat.le_refl _) rfl)))) (Sim.R _ _)))))
            have TF := Lib.hid T12.out
            obtain ⟨m0, m1, m2, m3, m4, m5, m6, m7, m8⟩ := T12.out.nod.c
            obtain ⟨d0, d1, d2, d3, d4, d5, d6, d7, d8⟩ := T12.out.res.c
            have df := T12.out.res.fz
            have dl := T12.out.res.lt
            have ml := T12.out.nod.lt
            simp only [Option.isSome, nmOf, exOf] at m0 m1 m2 m3 m4 m5 m6 m7
            go_wp2_with fail
            refine bodyPost_ret (results_node rfl rfl (TF.out.res.put false ⟨#[]⟩ Ex.zero (.slice q l.length c))) rfl ?_
            have GP := fun W : World => grown_put9 (grown_refl W (some g0)) (.bool false) (.string ⟨#[]⟩) (.int .i64 (Ex.zero : Ex).kind) (.bool (Ex.zero : Ex).weak) (.int .u64 (Ex.zero : Ex).value) (.int .u64 (Ex.zero : Ex).resolver) (.int .u64 (Ex.zero : Ex).ordinal) (.string (strOfNums (Ex.zero : Ex).other)) (.slice q l.length c)
            exact ⟨⟨⟨none, l⟩, (.slice q l.length c), _, rfl, Pen.kept TF.out.pen (GP _) (.inr (Nat.le_trans TF.out.up TF.out.new0)), SX.out, TF.out.own.kept (GP _) (.inr (own_ne TF.out.own TF.out.res (by decide)))⟩, grown_past TF.out.grown (GP _) TF.out.new0⟩
          | false =>
            have q0 := K11.out.c0
            have q1 := K11.out.c1
            have ql := K11.out.lt
            have m8 := T11.out.nod.c.2.2.2.2.2.2.2.2
            have ml := T11.out.nod.lt
            have gn := grown1 wb (.cells #[.string (strOfNums E), .int .u64 P] 86)
            have T12 := Lib.hid (T11.out.same gn)
            have N12 := Lib.hid (heap_alloc_new wb (.cells #[.string (strOfNums E), .int .u64 P] 86))
            have SZ := Lib.hid (show w.heap.size ≤ wb.heap.size from T11.out.grown.size)
            go_wp2_with (at_builtin; refine wp_append_st kidType rfl _ _ rfl _ l.length _ rfl T12.out.own [.string (strOfNums E), .int .u64 P] rfl wb.heap.size rfl N12.out (kidCs_one (E, P)) (by have := HL.out; omega) (by decide) ?_ ?_)
            · have := SZ.out; (try rw [World.size_alloc]); omega
            intro v' wd ho hg3
            obtain ⟨q', c', rfl⟩ := own_slice ho
            have nd3 : NodeAt wd gx _ _ _ _ := T12.out.nod.kept hg3 (own_ne T12.out.own T12.out.nod (by decide))
            have c8 := nd3.c.2.2.2.2.2.2.2.2
            have cf := nd3.fz
            have cl := nd3.lt
            have T13 := Lib.hid (T12.out.more (E, P) ⟨HE.out, BE.out⟩ ho hg3)
            clear nd3 ho hg3 m8 ml q0 q1 ql gn
            go_wp2
            go_roundw
            case rel => exact ⟨k + 1, l ++ [(E, P)], _, s5, hlt, by go_num, by rw [List.length_append, HL.out]; rfl, T13.out, Lib.hid (fun r s' h => CO2.out r s' (Sim.B ST.out (Sim.B SU.out (by rw [if_neg (fun h => h.elim HE.out (fun h => by rw [← HM.out] at h; cases h))]; exact h))))⟩
            case measure => simp [intOf]; omega
      · have hkM : k = M := by omega
        have CO3 := Lib.hid (show ∀ r s', Sim (kidsP 0 l) xs sk r s' → Sim (kidsP M []) xs s3 r s' by rw [show 0 = M - k by omega]; exact CO.out)
        have dk : decide ((k : Int) < (M : Int)) = false := by simp; omega
        clear CO hlt
        have SX := Lib.hid (show Sim nodeP xs s (⟨none, l⟩ : Nd) sk from Sim.B S0.out (Sim.B S1.out (Sim.B S2.out (Sim.B (CO3.out l sk (Sim.R _ _)) (Sim.R _ _)))))
        have TF := Lib.hid T.out
        obtain ⟨m0, m1, m2, m3, m4, m5, m6, m7, m8⟩ := T.out.nod.c
        obtain ⟨d0, d1, d2, d3, d4, d5, d6, d7, d8⟩ := T.out.res.c
        have df := T.out.res.fz
        have dl := T.out.res.lt
        have ml := T.out.nod.lt
        simp only [Option.isSome, nmOf, exOf] at m0 m1 m2 m3 m4 m5 m6 m7
        go_wp2_with fail
        refine bodyPost_ret (results_node rfl rfl (TF.out.res.put false ⟨#[]⟩ Ex.zero (.slice q l.length c))) rfl ?_
        have GP := fun W : World => grown_put9 (grown_refl W (some g0)) (.bool false) (.string ⟨#[]⟩) (.int .i64 (Ex.zero : Ex).kind) (.bool (Ex.zero : Ex).weak) (.int .u64 (Ex.zero : Ex).value) (.int .u64 (Ex.zero : Ex).resolver) (.int .u64 (Ex.zero : Ex).ordinal) (.string (strOfNums (Ex.zero : Ex).other)) (.slice q l.length c)
        exact ⟨⟨⟨none, l⟩, (.slice q l.length c), _, rfl, Pen.kept TF.out.pen (GP _) (.inr (Nat.le_trans TF.out.up TF.out.new0)), SX.out, TF.out.own.kept (GP _) (.inr (own_ne TF.out.own TF.out.res (by decide)))⟩, grown_past TF.out.grown (GP _) TF.out.new0⟩
end Go.Proofs.Ytbnnlbdjjpmgeaa


namespace Go.Proofs.Ytbnnlbdjjpmgeaa
open Go.RowKit
variable {w w' W : World} {xs : List Int}

structure NaOut (w w' : World) (xs : List Int) (p : Int) (nm : ByteArray) (e : Ending) : Prop where
  ex : (∃ nd v, ndAt xs p = some nd ∧ e = .returned (.tuple #[nodeV nd.ex.isSome (nmOf nm nd.ex) (exOf nd.ex) v, .bool true]) ∧ w'.ownsRow w.heap.size 86 2 v nd.kids.length (nd.kids.flatMap kidCs)) ∨
    (ndAt xs p = none ∧ e = .returned (.tuple #[nodeV false ⟨#[]⟩ Ex.zero (.slice none 0 0), .bool false]))
  grown : w.grownBy w' none
theorem ndAt_yes {p n : Nat} {nd : Nd} (hp : p < xs.length) (h : nodeP (xs.drop p) = some (nd, n)) : ndAt xs p = some nd := by
  unfold ndAt
  rw [if_pos ⟨by omega, by omega⟩, Int.toNat_natCast, h]
  rfl
theorem ndAt_no {p : Nat} (h : nodeP (xs.drop p) = none) : ndAt xs p = none := by
  unfold ndAt
  split
  · rw [Int.toNat_natCast, h]; rfl
  · rfl
set_option maxRecDepth 20000 in
set_option maxHeartbeats 3200000 in
theorem nodeAt_any {b o c : Nat} (hx : ∀ i, i < xs.length → w.cell? ⟨b, o + i, none⟩ = some (.int .u8 (xs.getD i 0))) (hc : xs.length ≤ c) (hcm : c ≤ 9223372036854775807) (hbig : xs.length ≤ 140737488355328) (hr : Byt xs) (p : Int) (hp0 : 0 ≤ p) (hp1 : p < 18446744073709551616) (nm : ByteArray) :
    Calls Try.prog 45 #[.slice (some ⟨b, o, none⟩) xs.length c, .int .u64 p, .string nm] w fun e w' => NaOut w w' xs p nm e := by
  have g1 := grown1 w (.cells #[.bool false, .string ⟨#[]⟩, .int .i64 0, .bool false, .int .u64 0, .int .u64 0, .int .u64 0, .string ⟨#[]⟩, .slice none 0 0] 62)
  have r1 : NodeAt (w.alloc (.cells #[.bool false, .string ⟨#[]⟩, .int .i64 0, .bool false, .int .u64 0, .int .u64 0, .int .u64 0, .string ⟨#[]⟩, .slice none 0 0] 62)) w.heap.size false ⟨#[]⟩ Ex.zero (.slice none 0 0) := heap_alloc_new w _
  have HX := Lib.hid (fun i hi => grown_cell g1 (hx i hi))
  obtain ⟨w1, hw1⟩ : ∃ w1, w.alloc (.cells #[.bool false, .string ⟨#[]⟩, .int .i64 0, .bool false, .int .u64 0, .int .u64 0, .int .u64 0, .string ⟨#[]⟩, .slice none 0 0] 62) = w1 := ⟨_, rfl⟩
  obtain ⟨g0, hg0⟩ : ∃ g0, w.heap.size = g0 := ⟨_, rfl⟩
  rw [hw1] at g1 r1 HX
  rw [hg0] at r1
  have HW1 := Lib.hid hw1
  have HG0 := Lib.hid hg0
  have HG0' := Lib.hid hg0
  have G1 := Lib.hid g1
  have R1 := Lib.hid r1
  clear g1 r1 hw1 hg0 hx
  by_cases hp : p < xs.length
  · obtain ⟨p, rfl⟩ := Int.eq_ofNat_of_zero_le hp0
    have hpn : p < xs.length := by omega
    obtain ⟨V, hV, hB, hV2⟩ := cut_bytes (p := p) HX.out hc (by omega) .u64
    obtain rfl := hV2 hpn
    have IB := Lib.hid hB
    have RE := Lib.hid (show Byt (xs.drop p) from hr.drop p)
    have YES := Lib.hid (fun nd n (h : nodeP (xs.drop p) = some (nd, n)) => ndAt_yes hpn h)
    have NO := Lib.hid (fun (h : nodeP (xs.drop p) = none) => ndAt_no h)
    have hlen : (xs.drop p).length = xs.length - p := by simp
    obtain ⟨R, hR⟩ : ∃ R, R = xs.drop p := ⟨_, rfl⟩
    rw [← hR] at IB RE YES NO hlen
    obtain ⟨L, hL⟩ : ∃ L, L = xs.length - p := ⟨_, rfl⟩
    rw [← hL] at hlen hV
    obtain ⟨C, hC⟩ : ∃ C, C = c - p := ⟨_, rfl⟩
    rw [← hC] at hV IB
    have LL := Lib.hid hlen
    have hLC : L ≤ C := by omega
    have hL47 : L ≤ 140737488355328 := by omega
    have hC63 : C ≤ 9223372036854775807 := by omega
    obtain ⟨o', ho'⟩ : ∃ o', o' = o + p := ⟨_, rfl⟩
    rw [← ho'] at hV IB
    have CH := Lib.hid (fun h (hh : h ≤ C) => cut_hi (T := 25) (k := 1) (by kernel_rfl) (fun W => by kernel_rfl) b o' L C h .i64 hh)
    have dp : decide ((xs.length : Int) ≤ (p : Int)) = false := by simp; omega
    have dpn : decide (xs.length ≤ p) = false := by simp; omega
    clear hR hL hC ho' hB hlen hr hp hp0
    have hxl : xs.length ≤ 140737488355328 := hbig
    go_enter Try.func45, Try.ntmps45
    go_upto_region 1 with fail
    rw [HW1.out, HG0.out]
    clear HW1 HG0
    go_wp2_with fail
    go_loopw [9] (fun i wr => ∃ z : Nat, i = .int .i64 z ∧ 128 ≤ z ∧ (z = 128 ∨ z < 2 * L) ∧ NodeAt wr g0 false ⟨#[]⟩ Ex.zero (.slice none 0 0) ∧ w1.grownBy wr none) (fun i _ => 2 * L + 128 - (intOf i).toNat)
    case atStart => exact ⟨128, rfl, Nat.le_refl _, .inl rfl, R1.out, grown_refl _ _⟩
    case round =>
      obtain ⟨z, rfl, hz, hz2, hN, hg⟩ := hrel
      have GR := Lib.hid hg
      have NR := Lib.hid hN
      have IBr := Lib.hid ((IB.out.kept hg (by simp)))
      clear hg hN
      obtain ⟨m, hm⟩ : ∃ m : Nat, min (z : Int) (L : Int) = (m : Int) := ⟨min z L, by omega⟩
      have hmL : m ≤ L := by omega
      have hmz : m = z ∨ m = L := by omega
      have HM := Lib.hid hmz
      have CZ := CH.out m (by omega)
      have PN := Lib.hid (pen_new (w := wr) (IBr.out.take (c' := C) m (fun e => by cases e)) (n := m) (by rw [List.length_take, LL.out]; omega) (by omega) (RE.out.take m) false)
      clear hmz
      go_wp2_with fail
      refine PN.out.mono ?_
      rintro e w2 ⟨gc, rfl, hpn2, hb2⟩
      have P2 := Lib.hid (show PenS w2 wr.heap.size w2.heap.size gc (R.take m) (0, false) false from hpn2)
      have G2 := Lib.hid (grown_trans GR.out (grown_below hb2 none))
      have N2 := Lib.hid (NR.out.kept (grown_below hb2 none) (by simp))
      have B2 := Lib.hid (show wr.heap.size ≤ gc from hpn2.lw)
      clear hpn2 hb2 CZ PN NR
      go_wp2_with fail
      refine (taken_any P2.out nm (RE.out.take m)).mono ?_
      rintro e w3 ⟨⟨nd, v, s', rfl, hp3, hs3, ho3⟩, hg3⟩
      obtain ⟨q, c2, rfl⟩ := own_slice ho3
      have G3 := Lib.hid (grown_new G2.out hg3 (Nat.le_trans GR.out.size B2.out))
      have hne : (some gc : Option Nat) ≠ some g0 := by intro e; injection e with e; have := R1.out.lt; have := GR.out.size; have := B2.out; omega
      have N3 := Lib.hid (N2.out.kept hg3 hne)
      have SZ3 := Lib.hid (show w1.heap.size ≤ w2.heap.size from G2.out.size)
      have SM := Lib.hid hs3
      have P3 := Lib.hid hp3
      have O3 := Lib.hid ho3
      clear hg3 hne hp3 hs3 ho3 N2 P2 G2
      obtain ⟨bn, hbn⟩ : ∃ z, z = nd.ex.isSome := ⟨_, rfl⟩
      obtain ⟨nn, hnn⟩ : ∃ z, z = nmOf nm nd.ex := ⟨_, rfl⟩
      obtain ⟨xn, hxn⟩ : ∃ z, z = exOf nd.ex := ⟨_, rfl⟩
      obtain ⟨kn, hkn⟩ : ∃ z, z = nd.kids.length := ⟨_, rfl⟩
      have EQ := Lib.hid (And.intro hbn (And.intro hnn (And.intro hxn hkn)))
      rw [← hbn, ← hnn, ← hxn, ← hkn]
      clear hbn hnn hxn hkn
      unfold nodeV
      have g4 := grown1 w3 (.cells #[.bool bn, .string nn, .int .i64 xn.kind, .bool xn.weak, .int .u64 xn.value, .int .u64 xn.resolver, .int .u64 xn.ordinal, .string (strOfNums xn.other), .slice q kn c2] 62)
      have M4 := Lib.hid (show NodeAt (w3.alloc (.cells #[.bool bn, .string nn, .int .i64 xn.kind, .bool xn.weak, .int .u64 xn.value, .int .u64 xn.resolver, .int .u64 xn.ordinal, .string (strOfNums xn.other), .slice q kn c2] 62)) w3.heap.size bn nn xn (.slice q kn c2) from heap_alloc_new w3 _)
      have P4 := Lib.hid (Pen.same P3.out g4)
      have N4 := Lib.hid (N3.out.kept g4 (by simp))
      have O4 := Lib.hid (own_grown O3.out g4)
      have G4 := Lib.hid (grown_trans G3.out g4)
      have NE4 := Lib.hid (show w3.heap.size ≠ g0 from fun e => by have := N3.out.lt; omega)
      obtain ⟨w4, hw4⟩ : ∃ w4, w3.alloc (.cells #[.bool bn, .string nn, .int .i64 xn.kind, .bool xn.weak, .int .u64 xn.value, .int .u64 xn.resolver, .int .u64 xn.ordinal, .string (strOfNums xn.other), .slice q kn c2] 62) = w4 := ⟨_, rfl⟩
      obtain ⟨gn, hgn⟩ : ∃ gn, w3.heap.size = gn := ⟨_, rfl⟩
      rw [hw4] at M4 P4 N4 O4 G4
      rw [hgn] at M4 NE4
      have HW4 := Lib.hid hw4
      have HGN := Lib.hid hgn
      clear g4 hw4 hgn N3 O3 G3 P3
      go_upto_region 9 with fail
      rw [HW4.out, HGN.out]
      clear HW4 HGN
      obtain ⟨ps, bd⟩ := s'
      have PE := Lib.hid (pen_err P4.out)
      obtain ⟨d0, d1, d2, d3, d4, d5, d6, d7, d8⟩ := N4.out.c
      obtain ⟨c0, c1, c2', c3, c4, c5, c6, c7, c8⟩ := M4.out.c
      have df := N4.out.fz
      have dl := N4.out.lt
      have ml := M4.out.lt
      cases bd with
      | false =>
        have SY := Lib.hid (YES.out nd _ (by have := (SM.out.ok rfl).2; rw [List.drop_zero] at this; exact (loc_front loc_node this).1))
        go_wp2_with fail
        refine PE.out.mono ?_
        rintro e w5 ⟨rfl, rfl⟩
        go_wp2
        refine bodyPost_ret (results_node2 rfl rfl rfl (N4.out.put bn nn xn (.slice q kn c2))) rfl ?_
        have GP := fun W : World => grown_put9 (grown_refl W (some g0)) (.bool bn) (.string nn) (.int .i64 xn.kind) (.bool xn.weak) (.int .u64 xn.value) (.int .u64 xn.resolver) (.int .u64 xn.ordinal) (.string (strOfNums xn.other)) (.slice q kn c2)
        have EO := EQ.out
        refine ⟨.inl ⟨nd, .slice q kn c2, SY.out, by rw [← EO.1, ← EO.2.1, ← EO.2.2.1]; rfl, ?_⟩, grown_new (grown_trans G1.out G4.out) (GP _) (by have := HG0'.out; omega)⟩
        have o5 := (O4.out.kept (GP _) (.inr (own_ne O4.out N4.out (by decide))))
        rw [← EO.2.2.2] at o5 ⊢
        exact o5.mono (by have := SZ3.out; have := G1.out.size; omega)
      | true =>
        by_cases hmL2 : m = L
        · have SN := Lib.hid (NO.out (by
            have := SM.out.no rfl rfl
            rw [List.drop_zero, hmL2, List.take_of_length_le (by rw [LL.out]; exact Nat.le_refl _)] at this
            exact this))
          have dm : ((m : Int) == (L : Int)) = true := by rw [hmL2]; simp
          have dm2 : (m == L) = true := by rw [hmL2]; simp
          clear hmL2
          go_wp2_with fail
          refine PE.out.mono ?_
          rintro e w5 ⟨rfl, rfl⟩
          go_wp2
          refine bodyPost_ret (results_node2 rfl rfl rfl (N4.out.put false ⟨#[]⟩ Ex.zero (.slice none 0 0))) rfl ?_
          have GP := fun W : World => grown_put9 (grown_refl W (some g0)) (.bool false) (.string ⟨#[]⟩) (.int .i64 Ex.zero.kind) (.bool Ex.zero.weak) (.int .u64 Ex.zero.value) (.int .u64 Ex.zero.resolver) (.int .u64 Ex.zero.ordinal) (.string (strOfNums Ex.zero.other)) (.slice none 0 0)
          exact ⟨.inr ⟨SN.out, rfl⟩, grown_new (grown_trans G1.out G4.out) (GP _) (by have := HG0'.out; omega)⟩
        · have dm : ((m : Int) == (L : Int)) = false := by rw [beq_eq_false_iff_ne]; omega
          have dm2 : (m == L) = false := by rw [beq_eq_false_iff_ne]; omega
          have hmz := HM.out
          obtain rfl : m = z := by omega
          go_wp2_with fail
          refine PE.out.mono ?_
          rintro e w5 ⟨rfl, rfl⟩
          go_wp2
          go_roundw
          case rel => exact ⟨2 * m, by go_num, by omega, .inr (by omega), N4.out, G4.out⟩
          case measure => simp [intOf]; omega
  · have NX := Lib.hid (show ndAt xs p = none by unfold ndAt; rw [if_neg (by omega)])
    have dp : decide ((xs.length : Int) ≤ p) = true := by simp; omega
    obtain ⟨d0, d1, d2, d3, d4, d5, d6, d7, d8⟩ := R1.out.c
    have df := R1.out.fz
    have dl := R1.out.lt
    clear hp
    go_enter Try.func45, Try.ntmps45
    go_upto_region 1 with fail
    rw [HW1.out, HG0.out]
    clear HW1 HG0
    go_wp2
    refine bodyPost_ret (results_node2 rfl rfl rfl (R1.out.put false ⟨#[]⟩ Ex.zero (.slice none 0 0))) rfl ?_
    have GP := fun W : World => grown_put9 (grown_refl W (some g0)) (.bool false) (.string ⟨#[]⟩) (.int .i64 Ex.zero.kind) (.bool Ex.zero.weak) (.int .u64 Ex.zero.value) (.int .u64 Ex.zero.resolver) (.int .u64 Ex.zero.ordinal) (.string (strOfNums Ex.zero.other)) (.slice none 0 0)
    exact ⟨.inr ⟨NX.out, rfl⟩, grown_new G1.out (GP _) (by have := HG0'.out; omega)⟩
end Go.Proofs.Ytbnnlbdjjpmgeaa


namespace Go.Proofs.Ytbnnlbdjjpmgeaa
open Go.RowKit
variable {w w' : World}

structure Chg (F : Nat → Prop) (w w' : World) : Prop where
  os : w'.os = w.os
  tape : w'.tape = w.tape
  output : w'.output = w.output
  size : w.heap.size ≤ w'.heap.size
  block : ∀ k, k < w.heap.size → ¬ F k → w'.heap[k]? = w.heap[k]?
def Foot (F : Nat → Prop) (w w' : World) (k : Nat) : Prop := F k ∨ (w.heap.size ≤ k ∧ k < w'.heap.size)
theorem Chg.trans {F : Nat → Prop} {w1 w2 w3 : World} (h : Chg F w1 w2) (k : Chg F w2 w3) : Chg F w1 w3 :=
  ⟨k.os.trans h.os, k.tape.trans h.tape, k.output.trans h.output, Nat.le_trans h.size k.size, fun i hi hf => (k.block i (Nat.lt_of_lt_of_le hi h.size) hf).trans (h.block i hi hf)⟩
theorem Chg.then {F : Nat → Prop} {w1 w2 w3 : World} (h : Chg F w1 w2) (k : Chg (Foot F w1 w2) w2 w3) : Chg F w1 w3 :=
  ⟨k.os.trans h.os, k.tape.trans h.tape, k.output.trans h.output, Nat.le_trans h.size k.size, fun i hi hf => (k.block i (Nat.lt_of_lt_of_le hi h.size) (fun e => e.elim hf (fun e => absurd e.1 (by omega)))).trans (h.block i hi hf)⟩
theorem Chg.mono {F G : Nat → Prop} (h : Chg F w w') (hs : ∀ k, F k → G k) : Chg G w w' := ⟨h.os, h.tape, h.output, h.size, fun k hk hg => h.block k hk (fun e => hg (hs k e))⟩
theorem Chg.of_grown {F : Nat → Prop} {r : Option Nat} (h : w.grownBy w' r) (hr : ∀ b, r = some b → F b ∨ w.heap.size ≤ b) : Chg F w w' :=
  ⟨h.os, h.tape, h.output, h.size, fun k hk hf => h.block k hk (fun e => (hr k e.symm).elim hf (fun h => absurd hk (by omega)))⟩
end Go.Proofs.Ytbnnlbdjjpmgeaa


namespace Go.Proofs.Ytbnnlbdjjpmgeaa
open Go.RowKit
variable {w w' W V : World} {xs : List Int}

theorem strOfNums_app (a b : List Int) : strOfNums a ++ strOfNums b = strOfNums (a ++ b) := by
  apply ByteArray.ext
  apply Array.ext'
  rw [ByteArray.data_append, Array.toList_append, strOfNums_data, strOfNums_data, strOfNums_data, List.map_append]
theorem u64Type : StType Try.prog 36 70 1 8 := .mk' Try.underlying70 (z := .int .u64 0) (by kernel_rfl) rfl (by decide)
def u64Cs (x : Int) : List Value := [.int .u64 x]
theorem own_less {T : TypeId} {k n base c : Nat} {q : Option Addr} {ys zs : List Value} (h : w.ownsRow base T k (.slice q (n + 1) c) (n + 1) (ys ++ zs)) (hy : ys.length = n * k) : w.ownsRow base T k (.slice q n c) n ys := by
  obtain ⟨_, hn | ⟨g, cap, cur, hv, hb, hg, hle, hm, hs, ht⟩⟩ := h
  · cases hn.2
  · injection hv with e1 e2 e3
    subst e1 e3
    refine ⟨hy, .inr ⟨g, c, cur, rfl, hb, hg, by omega, hm, hs, ?_⟩⟩
    have := congrArg (List.take (n * k)) ht
    rw [List.take_take, Nat.min_eq_left (Nat.mul_le_mul_right k (Nat.le_succ n)), ← hy, List.take_left] at this
    rw [← hy]; exact this
def U64At (w : World) (q : Option Addr) (l : List Int) : Prop := ∀ i x, l[i]? = some x → ∃ g, q = some ⟨g, 0, none⟩ ∧ w.cell? ⟨g, i, none⟩ = some (.int .u64 x)
theorem U64At.of {lo n c : Nat} {q : Option Addr} {l : List Int} (h : w.ownsRow lo 36 1 (.slice q n c) n (l.flatMap u64Cs)) : U64At w q l := fun i x hx => by
  obtain ⟨g, e, h0⟩ := row_cell (f := u64Cs) (k := 1) (fun _ => rfl) h hx (j := 0) (by decide)
  refine ⟨g, e, ?_⟩
  rw [Nat.mul_one, Nat.add_zero] at h0
  exact h0
theorem index64_any (l : List Int) (n : Nat) (hn : l.length = n) (hl : n ≤ 9223372036854775807) (q : Option Addr) (c : Nat) (hr : U64At w q l) (p : Int) :
    Calls Try.prog 59 #[.slice q n c, .int .u64 p] w fun e w' => (∃ z : Int, e = .returned (.int .i64 z) ∧ decide (0 ≤ z) = decide (p ∈ l)) ∧ w' = w := by
  subst hn
  have RR := Lib.hid hr
  clear hr
  go_enter Try.func59, Try.ntmps59
  go_wp2
  go_loop [8] (fun i => ∃ k : Nat, k ≤ l.length ∧ i = .int .i64 k ∧ ∀ j y, j < k → l[j]? = some y → p ≠ y) (fun i => l.length - (intOf i).toNat)
  case atStart => exact ⟨0, Nat.zero_le _, rfl, fun i y h => by omega⟩
  case round =>
    obtain ⟨k, hk, rfl, hno⟩ := hrel
    have NO := Lib.hid hno
    by_cases hlt : k < l.length
    · obtain ⟨x, hx⟩ : ∃ x, l[k]? = some x := ⟨_, List.getElem?_eq_getElem hlt⟩
      obtain ⟨gq, rfl, c0⟩ := RR.out k x hx
      have dl : decide ((k : Int) < (l.length : Int)) = true := by simp; omega
      have hkl : (k : Int) < (l.length : Int) := by omega
      have HX := Lib.hid hx
      have HM := Lib.hid (List.mem_of_getElem? hx)
      clear hx hno
      by_cases he : p = x
      · have de : (p == x) = true := by simpa using he
        have HE := Lib.hid (show p ∈ l by rw [he]; exact HM.out)
        generalize l.length = N at *
        clear he
        go_wp2
        go_ret
        exact ⟨⟨k, rfl, by first | exact iff_of_true (by omega) HE.out | (rw [decide_eq_true HE.out]; simp)⟩, rfl⟩
      · have de : (p == x) = false := by simpa using he
        have HE := Lib.hid he
        generalize l.length = N at *
        clear he
        go_wp2
        go_round
        case rel =>
          refine ⟨k + 1, hlt, by go_num, fun i y hi hy => ?_⟩
          rcases Nat.lt_or_ge i k with h | h
          · exact NO.out i y h hy
          · obtain rfl : i = k := by omega
            rw [HX.out] at hy
            injection hy with hy
            rw [← hy]; exact HE.out
        case measure => simp [intOf]; omega
    · have NA := Lib.hid (show ¬ p ∈ l from fun h => by
        obtain ⟨i, hi, e⟩ := List.getElem_of_mem h
        exact hno i _ (by omega) (List.getElem?_eq_getElem hi) e.symm)
      have dl : decide ((k : Int) < (l.length : Int)) = false := by simp; omega
      clear hno
      generalize l.length = N at *
      go_wp2
      go_ret
      exact ⟨⟨-1, rfl, by first | exact iff_of_false (by omega) NA.out | (rw [decide_eq_false NA.out]; rfl)⟩, rfl⟩
theorem contains64_any (l : List Int) (n : Nat) (hn : l.length = n) (hl : n ≤ 9223372036854775807) (q : Option Addr) (c : Nat) (hr : U64At w q l) (p : Int) :
    Calls Try.prog 44 #[.slice q n c, .int .u64 p] w fun e w' => e = .returned (.bool (decide (p ∈ l))) ∧ w' = w := by
  have I := Lib.hid (index64_any l n hn hl q c hr p)
  clear hr
  go_enter Try.func44, Try.ntmps44
  go_wp2_with fail
  refine I.out.mono ?_
  rintro e w' ⟨⟨z, rfl, hz⟩, rfl⟩
  have Z := Lib.hid hz
  clear hz
  go_wp2
  go_ret
  exact ⟨ret_bool Z.out, rfl⟩
theorem OneAt.chg {F : Nat → Prop} {g : Nat} {v : Value} {T : TypeId} (h : OneAt W g v T) (hg : Chg F W V) (hf : ¬ F g) : OneAt V g v T := (hg.block g (lt_of_block h) hf).trans h
theorem cell_chg {F : Nat → Prop} {b i : Nat} {v : Value} (h : W.cell? ⟨b, i, none⟩ = some v) (hg : Chg F W V) (hf : ¬ F b) : V.cell? ⟨b, i, none⟩ = some v := by
  have := hg.block b (World.block_lt_of_cell? W _ h) hf
  unfold World.cell? at h ⊢
  simp only [this]
  exact h
theorem KidsAt.chg {F : Nat → Prop} {q : Option Addr} {l : List Kid} (h : KidsAt W q l) (hg : Chg F W V) (hf : ∀ g o, q = some ⟨g, o, none⟩ → ¬ F g) : KidsAt V q l := fun i x hx => by
  obtain ⟨g, o, e, c0, c1⟩ := h i x hx
  exact ⟨g, o, e, cell_chg c0 hg (hf g o e), cell_chg c1 hg (hf g o e)⟩
structure MOut (S : Type) (mt : Mt S) (Inv : World → (Nat → Prop) → S → Prop) (s : S) (name : List Int) (nd : Nd) (v : Value) (G : Nat → Prop) (W W' : World) (e : Ending) : Prop where
  ex : ∃ q c G', e = .returned (.tuple #[.slice q (mt s name nd).2.1.length c, .int .i64 (mt s name nd).2.2]) ∧ Inv W' G' (mt s name nd).1 ∧ (∀ k, G' k → G k ∨ (W.heap.size ≤ k ∧ k < W'.heap.size)) ∧ KidsAt W' q (mt s name nd).2.1 ∧ (∀ g o, q = some ⟨g, o, none⟩ → v.ownBlock = some g) ∧ (mt s name nd).2.1.length ≤ c ∧ c ≤ 9223372036854775807
  chg : Chg G W W'
structure MeetOk (S : Type) (fm : Nat) (cbs : Array Value) (mt : Mt S) (Pre : List Int → Prop) (Fine : S → Prop) (Inv : World → (Nat → Prop) → S → Prop) : Prop where
  enters : ∀ args V, (callFunc fm args).run Try.prog V = .ok (.enter fm args) V
  kept : ∀ W V G s H, Inv W G s → Chg H W V → (∀ k, G k → ¬ H k) → Inv V G s
  sub : ∀ s name nd, ∀ x ∈ (mt s name nd).2.1, x ∈ nd.kids
  pre : ∀ s name nd, Pre name → ∀ x ∈ (mt s name nd).2.1, Pre (name ++ x.1)
  next : ∀ s name nd, Fine s → (mt s name nd).2.2 = 0 → Fine (mt s name nd).1
  stop : ∀ s name nd, (mt s name nd).2.2 ≠ 0 → (mt s name nd).2.1 = []
  call : ∀ W G s name nd v base, Inv W G s → Fine s → Pre name → name.length ≤ 255 → NdOk nd → W.ownsRow base 86 2 v nd.kids.length (nd.kids.flatMap kidCs) → (∀ g, v.ownBlock = some g → ¬ G g) → (∀ k, G k → k < W.heap.size) →
    Calls Try.prog fm (#[.string (strOfNums name), nodeV nd.ex.isSome (nmOf (strOfNums name) nd.ex) (exOf nd.ex) v] ++ cbs) W fun e W' => MOut S mt Inv s name nd v G W W' e
structure Wfx where
  B : Nat
  cmet : Nat
  cway : Nat
  cb : Nat
  cm : Nat
  cv : Nat
  b : Nat
  o : Nat
  c : Nat
  fm : Nat
  cbs : Array Value
def Wfx.caps (z : Wfx) : Array Value := #[.pointer (some ⟨z.cmet, 0, none⟩), .pointer (some ⟨z.cway, 0, none⟩), .pointer (some ⟨z.cb, 0, none⟩), .pointer (some ⟨z.cm, 0, none⟩), .pointer (some ⟨z.cv, 0, none⟩)]
structure Wk (S : Type) (z : Wfx) (xs : List Int) (Inv : World → (Nat → Prop) → S → Prop) (W : World) (F : Nat → Prop) (m : Nat) (way : List Int) (s : S) : Prop where
  met : OneAt W z.cmet (.int .i64 m) 3
  way : ∃ q cap, OneAt W z.cway (.slice q way.length cap) 70 ∧ W.ownsRow z.B 36 1 (.slice q way.length cap) way.length (way.flatMap u64Cs) ∧ (∀ g, (Value.slice q way.length cap).ownBlock = some g → F g)
  inv : ∃ G, (∀ k, G k → F k) ∧ Inv W G s ∧ ¬ G z.cmet ∧ ¬ G z.cway ∧ ∀ q n cap, W.cell? ⟨z.cway, 0, none⟩ = some (.slice q n cap) → ∀ g, (Value.slice q n cap).ownBlock = some g → ¬ G g
  fmet : F z.cmet
  fway : F z.cway
  fb : ∀ k, F k → z.B ≤ k ∧ k < W.heap.size
  bb : OneAt W z.cb (.slice (some ⟨z.b, z.o, none⟩) xs.length z.c) 25
  me : OneAt W z.cm (.func (.func z.fm) #[] z.cbs) 63
  vi : OneAt W z.cv (.func (.func 43) #[] z.caps) 80
  nb : ¬ F z.cb
  nm : ¬ F z.cm
  nv : ¬ F z.cv
  cell : ∀ i, i < xs.length → W.cell? ⟨z.b, z.o + i, none⟩ = some (.int .u8 (xs.getD i 0))
  nx : ¬ F z.b
  ne : z.cmet ≠ z.cway
  nz : 0 < xs.length
section
variable {S : Type} {fm : Nat} {cbs : Array Value} {mt : Mt S} {Pre : List Int → Prop} {Fine : S → Prop} {Inv : World → (Nat → Prop) → S → Prop} {z : Wfx} {F H : Nat → Prop} {m : Nat} {way : List Int} {s : S}
theorem Wk.kept (M : MeetOk S fm cbs mt Pre Fine Inv) (h : Wk S z xs Inv W F m way s) (hg : Chg H W V) (hd : ∀ k, F k → ¬ H k) (hb : ¬ H z.cb) (hm : ¬ H z.cm) (hv : ¬ H z.cv) (hx : ¬ H z.b) : Wk S z xs Inv V F m way s := by
  obtain ⟨q, cap, a1, a2, a3⟩ := h.way
  obtain ⟨G, b1, b2, b3, b4, b5⟩ := h.inv
  have a4 := a1.chg hg (hd _ h.fway)
  refine ⟨h.met.chg hg (hd _ h.fmet), ⟨q, cap, a4, ?_, a3⟩, ⟨G, b1, M.kept _ _ _ _ _ b2 hg (fun k hk => hd k (b1 k hk)), b3, b4, ?_⟩, h.fmet, h.fway, fun k hk => ⟨(h.fb k hk).1, Nat.lt_of_lt_of_le (h.fb k hk).2 hg.size⟩, h.bb.chg hg hb, h.me.chg hg hm, h.vi.chg hg hv, h.nb, h.nm, h.nv, fun i hi => cell_chg (h.cell i hi) hg hx, h.nx, h.ne, h.nz⟩
  · obtain ⟨x1, hn | ⟨g, cp, cur, y1, y2, y3, y4, y5, y6, y7⟩⟩ := a2
    · exact ⟨x1, .inl hn⟩
    · refine ⟨x1, .inr ⟨g, cp, cur, y1, y2, ?_, y4, y5, y6, y7⟩⟩
      rw [hg.block g (lt_of_block y3) (hd g (a3 g (by rw [y1]; rfl)))]
      exact y3
  · intro q' n' cap' e
    rw [a4.c] at e
    rw [a1.c] at b5
    exact b5 q' n' cap' e
theorem Wk.grown (M : MeetOk S fm cbs mt Pre Fine Inv) (h : Wk S z xs Inv W F m way s) (hg : W.grownBy V none) : Wk S z xs Inv V F m way s :=
  h.kept M (H := fun _ => False) (Chg.of_grown hg (fun b e => by cases e)) (fun _ _ e => e) (fun e => e) (fun e => e) (fun e => e) (fun e => e)
theorem Wk.setMet (M : MeetOk S fm cbs mt Pre Fine Inv) (h : Wk S z xs Inv W F m way s) (n : Nat) {N : Int} (hN : N = n) : Wk S z xs Inv (W.setCell ⟨z.cmet, 0, none⟩ (.int .i64 N)) F n way s := by
  subst hN
  have g1 : W.grownBy (W.setCell ⟨z.cmet, 0, none⟩ (.int .i64 (n : Nat))) (some z.cmet) := grown_setCell (grown_refl W _) _
  have c1 : Chg (fun k => k = z.cmet) W (W.setCell ⟨z.cmet, 0, none⟩ (.int .i64 (n : Nat))) := Chg.of_grown g1 (fun b e => by injection e with e; exact .inl e.symm)
  obtain ⟨q, cap, a1, a2, a3⟩ := h.way
  obtain ⟨G, b1, b2, b3, b4, b5⟩ := h.inv
  have a4 := a1.chg c1 h.ne.symm
  refine ⟨h.met.set _, ⟨q, cap, a4, a2.kept g1 (.inr (own_ne a2 h.met (by decide))), a3⟩, ⟨G, b1, M.kept _ _ _ _ _ b2 c1 (fun k hk e => b3 (e ▸ hk)), b3, b4, ?_⟩, h.fmet, h.fway, fun k hk => ⟨(h.fb k hk).1, Nat.lt_of_lt_of_le (h.fb k hk).2 g1.size⟩,
    h.bb.chg c1 (fun e => h.nb (e ▸ h.fmet)), h.me.chg c1 (fun e => h.nm (e ▸ h.fmet)), h.vi.chg c1 (fun e => h.nv (e ▸ h.fmet)), h.nb, h.nm, h.nv, fun i hi => cell_chg (h.cell i hi) c1 (fun e => h.nx (e ▸ h.fmet)), h.nx, h.ne, h.nz⟩
  intro q' n' cap' e
  rw [a4.c] at e
  rw [a1.c] at b5
  exact b5 q' n' cap' e
end
end Go.Proofs.Ytbnnlbdjjpmgeaa


namespace Go.Proofs.Ytbnnlbdjjpmgeaa
open Go.RowKit
variable {w w' W V : World} {xs : List Int}

theorem wp_append_sta {T TS : TypeId} {k by' : Nat} (st : StType Try.prog T TS k by') {base : Nat} {ops : Array Oper} {rest : List Oper} {o : Oper} {a : Act} {Q : Exit → Act → World → Prop} (hgd : o.guard = none) (s x : Operand)
    (ho : o.op = .call { callee := .builtin .append, args := #[s, x], argTypes := #[TS, TS] })
    (v : Value) (n : Nat) (ys : List Value) (hs : a.eval s = v) (hown : w.ownsRow base T k v n ys) (cs : List Value) (hl : cs.length = k) (g : Nat) (hx : a.eval x = .slice (some ⟨g, 0, none⟩) 1 1)
    (hb : w.heap[g]? = some (.cells cs.toArray T (0, 0))) (h1 : ∀ u ∈ cs, u.oneCell' = true)
    (h63 : (n + 1) * by' ≤ 140737488355328) (hby : 0 < by') (hbase : base ≤ w.heap.size)
    (h : ∀ v' w', w'.ownsRow base T k v' (n + 1) (ys ++ cs) → w.grownBy w' v.ownBlock → (v'.ownBlock = v.ownBlock ∨ v'.ownBlock = some w.heap.size) → wpList Try.prog ops Q rest (a.put o.dst v') w') : wpList Try.prog ops Q (o :: rest) a w := by
  obtain ⟨i, z, hi, hz0, hz1, hz2, hzs⟩ := st.info
  refine wpList_append_own_at w hgd s x _ ho base T i z k by' st.under hi hz0 hz1 hz2 hzs st.pos v n ys hs hown ⟨g, 0, none⟩ 1 1 cs hx (by rw [hl, Nat.one_mul]) ?_ h1 (by have := Nat.le_mul_of_pos_right (n + 1) hby; unfold maxLen; omega) h63 hbase ?_
  · intro j u hu
    rw [add_flat, cell_of hb, ← hu]
    simp
  · intro v' w' h2 h3 _ h4
    exact h v' w' h2 h3 h4
theorem ownsRow_chg {F : Nat → Prop} {base n k : Nat} {T : TypeId} {v : Value} {ys : List Value} (h : W.ownsRow base T k v n ys) (hg : Chg F W V) (hf : ∀ g, v.ownBlock = some g → ¬ F g) : V.ownsRow base T k v n ys := by
  obtain ⟨x1, hn | ⟨g, cp, cur, y1, y2, y3, y4⟩⟩ := h
  · exact ⟨x1, .inl hn⟩
  · refine ⟨x1, .inr ⟨g, cp, cur, y1, y2, ?_, y4⟩⟩
    rw [hg.block g (lt_of_block y3) (hf g (by rw [y1]; rfl))]
    exact y3
section
variable {S : Type} {fm : Nat} {cbs : Array Value} {mt : Mt S} {Pre : List Int → Prop} {Fine : S → Prop} {Inv : World → (Nat → Prop) → S → Prop} {z : Wfx} {F H : Nat → Prop} {m : Nat} {way : List Int} {s s' : S}
theorem Wk.base (h : Wk S z xs Inv W F m way s) : z.B ≤ W.heap.size := Nat.le_trans (h.fb _ h.fmet).1 (Nat.le_of_lt (h.fb _ h.fmet).2)
theorem Wk.told (h : Wk S z xs Inv W F m way s) {G G' : Nat → Prop} (b1 : ∀ k, G k → F k) (b3 : ¬ G z.cmet) (b4 : ¬ G z.cway) (b5 : ∀ q n cap, W.cell? ⟨z.cway, 0, none⟩ = some (.slice q n cap) → ∀ g, (Value.slice q n cap).ownBlock = some g → ¬ G g)
    (hi : Inv V G' s') (hG : ∀ k, G' k → G k ∨ (W.heap.size ≤ k ∧ k < V.heap.size)) (hg : Chg G W V) : Wk S z xs Inv V (Foot F W V) m way s' := by
  obtain ⟨q, cap, a1, a2, a3⟩ := h.way
  have o1 := a1.chg hg b4
  have old : ∀ k, k < W.heap.size → ¬ F k → ¬ Foot F W V k := fun k hk hf e => e.elim hf (fun e => by omega)
  have row : ∀ g, (Value.slice q way.length cap).ownBlock = some g → ¬ G g := b5 q way.length cap a1.c
  refine ⟨h.met.chg hg b3, ⟨q, cap, o1, ownsRow_chg a2 hg row, fun g e => .inl (a3 g e)⟩, ⟨G', fun k hk => ?_, hi, ?_, ?_, ?_⟩, .inl h.fmet, .inl h.fway, ?_, h.bb.chg hg (fun e => h.nb (b1 _ e)), h.me.chg hg (fun e => h.nm (b1 _ e)), h.vi.chg hg (fun e => h.nv (b1 _ e)),
    old _ h.bb.lt h.nb, old _ h.me.lt h.nm, old _ h.vi.lt h.nv, fun i hi => cell_chg (h.cell i hi) hg (fun e => h.nx (b1 _ e)), ?_, h.ne, h.nz⟩
  · rcases hG k hk with h1 | h1
    · exact .inl (b1 k h1)
    · exact .inr h1
  · intro e
    rcases hG _ e with h1 | h1
    · exact b3 h1
    · have := h.met.lt; omega
  · intro e
    rcases hG _ e with h1 | h1
    · exact b4 h1
    · have := a1.lt; omega
  · intro q' n' cap' e g eg hk
    rw [o1.c] at e
    injection e with e
    injection e with e1 e2 e3
    subst e1 e2 e3
    rcases hG _ hk with h1 | h1
    · exact row g eg h1
    · have := (a2.lt g eg).2; omega
  · intro k hk
    rcases hk with hk | hk
    · exact ⟨(h.fb k hk).1, Nat.lt_of_lt_of_le (h.fb k hk).2 hg.size⟩
    · exact ⟨Nat.le_trans h.base hk.1, hk.2⟩
  · intro e
    rcases e with e | e
    · exact h.nx e
    · have := World.block_lt_of_cell? W _ (h.cell 0 h.nz)
      simp only at this
      omega
theorem Wk.push (M : MeetOk S fm cbs mt Pre Fine Inv) (h : Wk S z xs Inv W F m way s) (pl : Int) {q : Option Addr} {cap : Nat} (hc : W.cell? ⟨z.cway, 0, none⟩ = some (.slice q way.length cap)) {W1 : World} {v' : Value} (g1 : W.grownBy W1 none)
    {W2 : World} (ho : W2.ownsRow z.B 36 1 v' (way.length + 1) (way.flatMap u64Cs ++ u64Cs pl)) (g2 : W1.grownBy W2 (Value.slice q way.length cap).ownBlock) (hv : v'.ownBlock = (Value.slice q way.length cap).ownBlock ∨ v'.ownBlock = some W1.heap.size) :
    Wk S z xs Inv (W2.setCell ⟨z.cway, 0, none⟩ v') (Foot F W (W2.setCell ⟨z.cway, 0, none⟩ v')) m (way ++ [pl]) s ∧ Chg F W (W2.setCell ⟨z.cway, 0, none⟩ v') := by
  obtain ⟨q', n', rfl⟩ := own_slice ho
  obtain ⟨q0, cap0, a1, a2, a3⟩ := h.way
  obtain ⟨G, b1, b2, b3, b4, b5⟩ := h.inv
  have e := hc.symm.trans a1.c
  injection e with e
  injection e with e1 _ e2
  subst e1 e2
  have g3 := grown_setCell (i := 0) (grown_refl W2 (some z.cway)) (.slice q' (way.length + 1) n')
  have c1 : Chg (fun k => (Value.slice q way.length cap).ownBlock = some k ∨ k = z.cway) W (W2.setCell ⟨z.cway, 0, none⟩ (.slice q' (way.length + 1) n')) :=
    ((Chg.of_grown g1 (fun b e => by cases e)).trans (Chg.of_grown g2 (fun b e => .inl (.inl e)))).trans (Chg.of_grown g3 (fun b e => by injection e with e; exact .inl (.inr e.symm)))
  have cF : Chg F W (W2.setCell ⟨z.cway, 0, none⟩ (.slice q' (way.length + 1) n')) := c1.mono (fun k hk => hk.elim (a3 k) (fun e => e ▸ h.fway))
  have hG : ∀ k, G k → ¬ ((Value.slice q way.length cap).ownBlock = some k ∨ k = z.cway) := fun k hk e => e.elim (fun e => b5 q way.length cap a1.c k e hk) (fun e => b4 (e ▸ hk))
  have old : ∀ k, k < W.heap.size → ¬ F k → ¬ Foot F W (W2.setCell ⟨z.cway, 0, none⟩ (.slice q' (way.length + 1) n')) k := fun k hk hf e => e.elim hf (fun e => by omega)
  have hne : (some z.cway : Option Nat) ≠ (Value.slice q way.length cap).ownBlock := fun e => own_ne a2 a1 (by decide) e.symm
  have o2 : OneAt W2 z.cway (.slice q way.length cap) 70 := (a1.grown g1).kept g2 (fun e => hne e.symm)
  have hq' : (Value.slice q' (way.length + 1) n').ownBlock ≠ some z.cway := own_ne ho o2 (by decide)
  have hsz : W.heap.size ≤ W1.heap.size := g1.size
  have rowold : ∀ g, (Value.slice q way.length cap).ownBlock = some g → g < W.heap.size := fun g e => (a2.lt g e).2
  have hFv : ∀ g, (Value.slice q' (way.length + 1) n').ownBlock = some g → Foot F W (W2.setCell ⟨z.cway, 0, none⟩ (.slice q' (way.length + 1) n')) g := fun g e => by
    rcases hv with h1 | h1
    · rw [h1] at e; exact .inl (a3 g e)
    · have hlt := (ho.lt g e).2
      rw [h1] at e
      injection e with e
      exact .inr ⟨by omega, Nat.lt_of_lt_of_le hlt g3.size⟩
  refine ⟨⟨h.met.chg c1 (fun e => e.elim (fun e => own_ne a2 h.met (by decide) e) (fun e => h.ne e)), ⟨q', n', ?_, ?_, ?_⟩, ⟨G, fun k hk => .inl (b1 k hk), M.kept _ _ _ _ _ b2 c1 hG, b3, b4, ?_⟩, .inl h.fmet, .inl h.fway, ?_,
    h.bb.chg cF h.nb, h.me.chg cF h.nm, h.vi.chg cF h.nv, old _ h.bb.lt h.nb, old _ h.me.lt h.nm, old _ h.vi.lt h.nv, fun i hi => cell_chg (h.cell i hi) cF h.nx, ?_, h.ne, h.nz⟩, cF⟩
  · rw [List.length_append, List.length_singleton]
    exact o2.set _
  · rw [List.length_append, List.length_singleton, List.flatMap_append, List.flatMap_singleton]
    exact ho.kept g3 (.inr hq')
  · rw [List.length_append, List.length_singleton]
    exact hFv
  · intro q2 n2 c2 e g eg hk
    rw [(o2.set (.slice q' (way.length + 1) n')).c] at e
    injection e with e
    injection e with e1 e2 e3
    subst e1 e2 e3
    rcases hv with h1 | h1
    · rw [h1] at eg
      exact b5 q way.length cap a1.c g eg hk
    · rw [h1] at eg
      injection eg with eg
      have := (h.fb g (b1 g hk)).2
      omega
  · intro k hk
    rcases hk with hk | hk
    · exact ⟨(h.fb k hk).1, Nat.lt_of_lt_of_le (h.fb k hk).2 cF.size⟩
    · exact ⟨Nat.le_trans h.base hk.1, hk.2⟩
  · intro e
    rcases e with e | e
    · exact h.nx e
    · have := World.block_lt_of_cell? W _ (h.cell 0 h.nz)
      simp only at this
      omega
theorem Wk.pop (M : MeetOk S fm cbs mt Pre Fine Inv) {pl : Int} (h : Wk S z xs Inv W F m (way ++ [pl]) s) {q : Option Addr} {cap : Nat} (hc : W.cell? ⟨z.cway, 0, none⟩ = some (.slice q (way ++ [pl]).length cap)) :
    Wk S z xs Inv (W.setCell ⟨z.cway, 0, none⟩ (.slice q way.length cap)) F m way s ∧ Chg F W (W.setCell ⟨z.cway, 0, none⟩ (.slice q way.length cap)) := by
  obtain ⟨q0, cap0, a1, a2, a3⟩ := h.way
  obtain ⟨G, b1, b2, b3, b4, b5⟩ := h.inv
  have e := hc.symm.trans a1.c
  injection e with e
  injection e with e1 _ e2
  subst e1 e2
  have g3 := grown_setCell (i := 0) (grown_refl W (some z.cway)) (.slice q way.length cap)
  have c1 : Chg (fun k => k = z.cway) W (W.setCell ⟨z.cway, 0, none⟩ (.slice q way.length cap)) := Chg.of_grown g3 (fun b e => by injection e with e; exact .inl e.symm)
  have cF : Chg F W (W.setCell ⟨z.cway, 0, none⟩ (.slice q way.length cap)) := c1.mono (fun k e => e ▸ h.fway)
  have a2' := a2
  rw [List.length_append, List.length_singleton, List.flatMap_append, List.flatMap_singleton] at a2'
  have ob : (Value.slice q way.length cap).ownBlock = (Value.slice q (way ++ [pl]).length cap).ownBlock := by cases q <;> rfl
  refine ⟨⟨h.met.chg c1 h.ne, ⟨q, cap, a1.set _, (own_less a2' (by rw [flat_len (f := u64Cs) (k := 1) (fun _ => rfl)])).kept g3 (.inr (by rw [ob]; exact own_ne a2 a1 (by decide))), fun g e => a3 g (ob ▸ e)⟩, ⟨G, b1, M.kept _ _ _ _ _ b2 c1 (fun k hk e => b4 (e ▸ hk)), b3, b4, ?_⟩, h.fmet, h.fway, fun k hk => ⟨(h.fb k hk).1, Nat.lt_of_lt_of_le (h.fb k hk).2 cF.size⟩,
    h.bb.chg cF h.nb, h.me.chg cF h.nm, h.vi.chg cF h.nv, h.nb, h.nm, h.nv, fun i hi => cell_chg (h.cell i hi) cF h.nx, h.nx, h.ne, h.nz⟩, cF⟩
  intro q2 n2 c2 e g eg hk
  rw [(a1.set (.slice q way.length cap)).c] at e
  injection e with e
  injection e with e1 e2 e3
  subst e1 e2 e3
  exact b5 q _ cap a1.c g (ob ▸ eg) hk
end
end Go.Proofs.Ytbnnlbdjjpmgeaa

