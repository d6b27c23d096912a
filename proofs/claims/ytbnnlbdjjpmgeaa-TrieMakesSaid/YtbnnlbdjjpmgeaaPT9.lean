/- Parts of the proof, put together: OwnS, MkP, MkPl, MkSt, MkM, MkMk, MkBy, TrFew, MkW. No condition beyond those that each part names. -/
import Derived.Shelf.Small.Bits
import Derived.Shelf.Small.Strs
import Derived.Shelf.Strconv.Itoa0
import Derived.Shelf.Strings.Search1
import Derived.Shelf.Bytes.SlIndexAt
import Derived.Shelf.Bytes.SlSearch0
import Derived.Ground.SlbCloneProg
import Derived.Shelf.Bytes.SlClone
import Derived.Shelf.Bytes.IndexByte
import Derived.Test.YtbnnlbdjjpmgeaaProg
import Derived.Test.YtbnnlbdjjpmgeaaRows
import Derived.WalkKit
import Derived.WalkSpells
import Derived.WalkLawsBesides
import Derived.BigQuiet
import Derived.Deep.QuietTactic
import Derived.Lib.Hide
import Derived.IntWalk
import Derived.OneCell
import Derived.Laws.Rows
import Derived.OpenShut
import Derived.ProofKit
import Derived.Lib.EndianBits
import Derived.RegionTactic
import Derived.ChangeAlike
import Derived.WalkMore
import Derived.Laws.BytesArg
import Derived.Shelf.Bytes.SlEqualAll
import Derived.Lib.SlFresh
import Derived.Maps.AppendAt
import Derived.Deep.AppendSrc
import Derived.Deep.Upon
import Derived.Lib.AppendZeros
import Derived.Laws.IdiomStrings
import Derived.Lib.AppendZerosOnto
import Derived.Laws.StructEq
import Derived.Below
import Derived.Shelf.Abstract
import Derived.Laws.ResultCell
import Derived.Deep.Slices
import Derived.ChangeSame
import Derived.Laws.OwnMore
import Derived.Laws.Slices
import Derived.Lib.ConvBytes
import Derived.StringKeys
import Derived.Maps.Own
import Derived.Maps.OwnOps
import Derived.Maps.OwnSet
import Derived.WideShapes
import Derived.Deep.Cut
import Derived.Deep.CutRange
import Derived.PlainAid
import Derived.Lib.SlBytesRow
import Derived.Deep.Onto
import Derived.Laws.EntriesVeiled
import Derived.Shelf.SlSortCmp.WholeK
import Derived.Shelf.SlGeneric
import Derived.Ground.SlsfProg
import Derived.Deep.LoopGhost
import Derived.StillTailTactics
import Derived.Deep.RegionWith
import Derived.Deep.RegionHeld3
import Derived.Lib.SmallJoins
import Derived.Laws.Bits128
import Derived.RangeFuncNested
import Derived.RangeFuncBound
import Derived.RangeFuncCalls
import Derived.Shelf.RegionOpen
import Derived.OwnWalkIn
import Derived.TacticsInMore
import Derived.RangeFuncIn
import Derived.RangeFuncLeaves
import Derived.Maps.OwnIn
import Derived.Laws.MakeOwn
import Derived.Deep.RegionLaw
import Derived.BigRegion
import Derived.Test.YtbnnlbdjjpmgeaaPT2
import Derived.Test.YtbnnlbdjjpmgeaaPT3
import Derived.Test.YtbnnlbdjjpmgeaaPT4
import Derived.Test.YtbnnlbdjjpmgeaaPT5
import Derived.Test.YtbnnlbdjjpmgeaaPT6
import Derived.Test.YtbnnlbdjjpmgeaaPT7
import Derived.Test.YtbnnlbdjjpmgeaaPT8
namespace Go.Proofs.Ytbnnlbdjjpmgeaa
open Go.RowKit
variable {w w' W V : World}

theorem own_set {B n k c g i : Nat} {T : TypeId} {xs : List Value} (h : W.ownsRow B T k (.slice (some ⟨g, 0, none⟩) n c) n xs) (u : Value) : (W.setCell ⟨g, i, none⟩ u).ownsRow B T k (.slice (some ⟨g, 0, none⟩) n c) n (xs.set i u) := by
  obtain ⟨h1, ⟨e, _⟩ | ⟨g', cap, cur, e, hb, hg, hn, hc, hs, ht⟩⟩ := h
  · cases e
  · injection e with e _ ec
    injection e with e
    injection e with e _ _
    subst e ec
    refine ⟨by rw [List.length_set]; exact h1, .inr ⟨g, c, cur.setIfInBounds i u, rfl, hb, heap_setCell_same W g i _ _ _ hg, hn, hc, by rw [Array.size_setIfInBounds]; exact hs, ?_⟩⟩
    rw [Array.toList_setIfInBounds, List.take_set, ht]
theorem own_shrink {B n m k c : Nat} {q : Option Addr} {T : TypeId} {xs : List Value} (h : W.ownsRow B T k (.slice q n c) n xs) (hm : m ≤ n) : W.ownsRow B T k (.slice q m c) m (xs.take (m * k)) := by
  have hk : m * k ≤ n * k := Nat.mul_le_mul_right k hm
  obtain ⟨h1, ⟨e, e0⟩ | ⟨g', cap, cur, e, hb, hg, hn, hc, hs, ht⟩⟩ := h
  · injection e with e2 e3 e4
    have hm0 : m = 0 := by omega
    subst e2 e4 hm0
    exact ⟨by rw [List.length_take]; omega, .inl ⟨rfl, rfl⟩⟩
  · injection e with e e2 ec
    subst e ec
    refine ⟨by rw [List.length_take]; omega, .inr ⟨g', c, cur, rfl, hb, hg, by omega, hc, hs, ?_⟩⟩
    rw [← ht, List.take_take, Nat.min_eq_left hk]
end Go.Proofs.Ytbnnlbdjjpmgeaa


namespace Go.Proofs.Ytbnnlbdjjpmgeaa
open Go.RowKit
variable {w w' W V : World}

def drV (p : Value × Value) : List Value := [p.1, p.2]
structure DrOf (W : World) (B : Nat) (p : Value × Value) (nd : PN) : Prop where
  f : W.ownsRow B 5 1 p.1 (frontB nd.says).length ((frontB nd.says).map (Value.int .u8))
  k : W.ownsRow B 78 2 p.2 nd.kids.length (nd.kids.flatMap brCs)
structure Pk (B cn ca : Nat) (W : World) (v : Value) (vs : List (Value × Value)) : Prop where
  c : OneAt W cn v 50
  row : W.ownsRow B 76 2 v vs.length (vs.flatMap drV)
  me : OneAt W ca (.func (.func 37) #[] #[.pointer (some ⟨cn, 0, none⟩), .pointer (some ⟨ca, 0, none⟩)]) 73
  bc : B ≤ cn
def Fp (cn : Nat) (v : Value) (g : Nat) : Prop := g = cn ∨ v.ownBlock = some g
section
variable {B cn ca : Nat} {v v' : Value} {vs : List (Value × Value)}
theorem Pk.off {T : TypeId} {k n b0 : Nat} {u : Value} {ys : List Value} (h : Pk B cn ca W v vs) (hr : W.ownsRow b0 T k u n ys) (h1 : T ≠ 76) (h2 : T ≠ 50) : ∀ g, u.ownBlock = some g → ¬ Fp cn v g := fun g e hf => by
  rcases hf with hf | hf
  · subst hf
    exact own_ne hr h.c h2 e
  · rcases rows_apart h1 hr h.row with e1 | e1
    · rw [e1] at e; cases e
    · exact e1 (e.trans hf.symm)
theorem Pk.ne (h : Pk B cn ca W v vs) : ¬ Fp cn v ca := fun hf => by
  rcases hf with hf | hf
  · have h1 := h.me
    have h2 := h.c
    rw [hf] at h1
    unfold OneAt at h1 h2
    rw [h1] at h2
    injection h2 with h2
    injection h2 with _ h2 _
    exact absurd h2 (by decide)
  · exact own_ne h.row h.me (by decide) hf
theorem DrOf.kept {b0 : Nat} {p : Value × Value} {nd : PN} (h : Pk B cn ca W v vs) (hd : DrOf W b0 p nd) (hg : Chg (Fp cn v) W V) : DrOf V b0 p nd :=
  ⟨ownsRow_chg hd.f hg (h.off hd.f (by decide) (by decide)), ownsRow_chg hd.k hg (h.off hd.k (by decide) (by decide))⟩
theorem DrOf.le {b b0 : Nat} {p : Value × Value} {nd : PN} (h : DrOf W b p nd) (hb : b0 ≤ b) : DrOf W b0 p nd := ⟨Go.Joins.ownsRow_le h.f hb, Go.Joins.ownsRow_le h.k hb⟩
theorem DrOf.grown {p : Value × Value} {nd : PN} (hd : DrOf W B p nd) (hg : W.grownBy V none) : DrOf V B p nd := ⟨own_grown hd.f hg, own_grown hd.k hg⟩
theorem Pk.grown (h : Pk B cn ca W v vs) (hg : W.grownBy V none) : Pk B cn ca V v vs := ⟨h.c.grown hg, own_grown h.row hg, h.me.grown hg, h.bc⟩
theorem Pk.low (h : Pk B cn ca W v vs) : ∀ g, g < B → ¬ Fp cn v g := fun g hg hf => by
  rcases hf with hf | hf
  · have := h.bc; omega
  · have := (h.row.lt g hf).1; omega
theorem Pk.chg {F : Nat → Prop} (h : Pk B cn ca W v vs) (hg : Chg F W V) (h1 : ¬ F cn) (h2 : ¬ F ca) (h3 : ∀ g, v.ownBlock = some g → ¬ F g) : Pk B cn ca V v vs :=
  ⟨h.c.chg hg h1, ownsRow_chg h.row hg h3, h.me.chg hg h2, h.bc⟩
theorem Pk.push (h : Pk B cn ca W v vs) {p : Value × Value} {W1 W2 : World} (g1 : W.grownBy W1 none) (ho : W2.ownsRow B 76 2 v' (vs.length + 1) (vs.flatMap drV ++ drV p)) (g2 : W1.grownBy W2 v.ownBlock) (hv : v'.ownBlock = v.ownBlock ∨ v'.ownBlock = some W1.heap.size) :
    Pk B cn ca (W2.setCell ⟨cn, 0, none⟩ v') v' (vs ++ [p]) ∧ Chg (Fp cn v) W (W2.setCell ⟨cn, 0, none⟩ v') ∧ (v'.ownBlock = v.ownBlock ∨ ∃ g, v'.ownBlock = some g ∧ W.heap.size ≤ g) := by
  have h1 := h.grown g1
  have hc2 : OneAt W2 cn v 50 := h1.c.kept g2 (fun e => own_ne h1.row h1.c (by decide) e)
  have hm2 := h1.me.kept g2 (fun e => own_ne h1.row h1.me (by decide) e)
  have g3 := grown_setCell (i := 0) (grown_refl W2 (some cn)) v'
  have hne : (some cn : Option Nat) ≠ some ca := fun e => by
    injection e with e
    exact h.ne (.inl e.symm)
  refine ⟨⟨hc2.set _, ?_, hm2.kept g3 hne, h.bc⟩, ?_, ?_⟩
  · rw [List.length_append, List.length_singleton, List.flatMap_append, List.flatMap_singleton]
    exact ho.kept g3 (.inr (own_ne ho hc2 (by decide)))
  · exact ((Chg.of_grown g1 (fun b e => by cases e)).trans (Chg.of_grown g2 (fun b e => .inl (.inr e)))).trans (Chg.of_grown g3 (fun b e => by injection e with e; exact .inl (.inl e.symm)))
  · rcases hv with h2 | h2
    · exact .inl h2
    · exact .inr ⟨_, h2, g1.size⟩
end
section
variable {B cn ca : Nat} {vs us : List (Value × Value)} {sv : Value × Value}
theorem seat_set (f b : Value) : (((vs ++ [sv] ++ us).flatMap drV).set (vs.length * 2) f).set (vs.length * 2 + 1) b = (vs ++ [(f, b)] ++ us).flatMap drV := by
  have hl : (vs.flatMap drV).length = vs.length * 2 := flat_len (f := drV) (k := 2) (fun _ => rfl) vs
  rw [List.append_assoc, List.append_assoc, List.flatMap_append, List.flatMap_append, List.flatMap_append, List.flatMap_append, List.flatMap_singleton, List.flatMap_singleton]
  rw [List.set_append_right _ _ (by omega), List.set_append_right _ _ (by omega), hl, Nat.sub_self, show vs.length * 2 + 1 - vs.length * 2 = 1 by omega]
  rfl
theorem Pk.seat {m c g : Nat} (h : Pk B cn ca W (.slice (some ⟨g, 0, none⟩) m c) (vs ++ [sv] ++ us)) (f b : Value) :
    Pk B cn ca ((W.setCell ⟨g, vs.length * 2, none⟩ f).setCell ⟨g, vs.length * 2 + 1, none⟩ b) (.slice (some ⟨g, 0, none⟩) m c) (vs ++ [(f, b)] ++ us) ∧ W.grownBy ((W.setCell ⟨g, vs.length * 2, none⟩ f).setCell ⟨g, vs.length * 2 + 1, none⟩ b) (some g) := by
  have hm : m = (vs ++ [sv] ++ us).length := by
    rcases h.row.2 with ⟨e, _⟩ | ⟨_, _, _, e, _⟩
    · cases e
    · injection e
  subst hm
  have g2 := grown_setCell (i := vs.length * 2 + 1) (grown_setCell (i := vs.length * 2) (grown_refl W (some g)) f) b
  refine ⟨⟨h.c.kept g2 (fun e => own_ne h.row h.c (by decide) e), ?_, h.me.kept g2 (fun e => own_ne h.row h.me (by decide) e), h.bc⟩, g2⟩
  have h3 := own_set (i := vs.length * 2 + 1) (own_set (i := vs.length * 2) h.row f) b
  rw [seat_set] at h3
  have hl : (vs ++ [(f, b)] ++ us).length = (vs ++ [sv] ++ us).length := by simp
  rw [hl]
  exact h3
end
theorem ExsAt.chg {F : Nat → Prop} {q : Option Addr} {D : Out} (h : ExsAt W q D) (hg : Chg F W V) (hf : ∀ g o, q = some ⟨g, o, none⟩ → ¬ F g) : ExsAt V q D := fun i y hy => by
  obtain ⟨g, o, e, hc⟩ := h i y hy
  refine ⟨g, o, e, fun j hj => ?_⟩
  rw [← hc j hj]
  have h0 := hc 0 (by decide)
  have hb := hg.block g (World.block_lt_of_cell? W _ h0) (hf g o e)
  unfold World.cell?
  simp only [hb]
structure PO (B cn ca : Nat) (W W' : World) (v : Value) (vs : List (Value × Value)) (nodes : List PN) (e : Ending) : Prop where
  ret : e = .returned (.int .i64 (vs.length : Int))
  ex : ∃ v' us, us.length = nodes.length ∧ Pk B cn ca W' v' (vs ++ us) ∧ (v'.ownBlock = v.ownBlock ∨ ∃ g, v'.ownBlock = some g ∧ W.heap.size ≤ g) ∧ ∀ (i : Nat) (p : Value × Value) (nd : PN), us[i]? = some p → nodes[i]? = some nd → DrOf W' W.heap.size p nd
  chg : Chg (Fp cn v) W W'
structure ExIn (W : World) (B : Nat) (q : Option Addr) (l : Out) : Prop where
  at' : ExsAt W q l
  low : ∀ g o, q = some ⟨g, o, none⟩ → g < B
theorem ExIn.grown {B : Nat} {q : Option Addr} {l : Out} (h : ExIn W B q l) (hg : W.grownBy V none) : ExIn V B q l := ⟨h.at'.grown hg, h.low⟩
def DrB (W : World) (g : Nat) (a b : Value) : Prop := W.heap[g]? = some (.cells #[a, b] 76 (0, 0))
section
variable {g : Nat} {a b : Value}
theorem DrB.kept {r : Option Nat} (h : DrB W g a b) (hg : W.grownBy V r) (hr : r ≠ some g) : DrB V g a b := (hg.block g (lt_of_block h) (fun e => hr e.symm)).trans h
theorem DrB.grown (h : DrB W g a b) (hg : W.grownBy V none) : DrB V g a b := h.kept hg (by simp)
theorem DrB.chg {F : Nat → Prop} (h : DrB W g a b) (hg : Chg F W V) (hf : ¬ F g) : DrB V g a b := (hg.block g (lt_of_block h) hf).trans h
theorem DrB.lt (h : DrB W g a b) : g < W.heap.size := lt_of_block h
theorem DrB.f (h : DrB W g a b) (i : Nat) : W.frozen? ⟨g, i, none⟩ = false := free_of h
theorem DrB.c (h : DrB W g a b) : W.cell? ⟨g, 0, none⟩ = some a ∧ W.cell? ⟨g, 1, none⟩ = some b := by
  refine ⟨?_, ?_⟩ <;> (rw [cell_of h]; rfl)
theorem DrB.s0 (h : DrB W g a b) (u : Value) : DrB (W.setCell ⟨g, 0, none⟩ u) g u b := by unfold DrB; rw [heap_setCell_same W g 0 _ _ _ h]; rfl
theorem DrB.s1 (h : DrB W g a b) (u : Value) : DrB (W.setCell ⟨g, 1, none⟩ u) g a u := by unfold DrB; rw [heap_setCell_same W g 1 _ _ _ h]; rfl
end
theorem DrB.ne {g b : Nat} {x y v : Value} {T : TypeId} (h : DrB W g x y) (k : OneAt W b v T) : b ≠ g := fun e => by
  unfold DrB at h
  unfold OneAt at k
  rw [e, h] at k
  injection k with k
  injection k with k _ _
  have := congrArg Array.size k
  simp at this
def lenSl : Value → Nat
  | .slice _ n _ => n
  | _ => 0
structure AddT (B cn ca X : Nat) (W0 : World) (v0 : Value) (vs : List (Value × Value)) (k : Nat) (p : List Int) (nd : PN) (sub : List PN) (wr : World) (vl : Value) : Prop where
  ex : ∃ (l2 : Out) (q2 : Option Addr) (c2 m : Nat) (K1 : List (List Int × Nat)) (N1 : List PN) (v : Value) (sv : Value × Value) (us : List (Value × Value)) (fv bv : Value),
    vl = .slice q2 l2.length c2 ∧ l2.length ≤ c2 ∧ c2 ≤ 9223372036854775807 ∧ l2.length ≤ 5000 ∧ ExIn wr B q2 l2 ∧ RiseL p l2 ∧ (∀ y ∈ l2, NameOk y.1 ∧ ExOk y.2) ∧ l2.length ≤ m ∧
    K1 ++ (planK (plan k) m l2 p.length (vs.length + 1 + N1.length)).1 = nd.kids ∧ N1 ++ (planK (plan k) m l2 p.length (vs.length + 1 + N1.length)).2 = sub ∧
    Pk B cn ca wr v (vs ++ [sv] ++ us) ∧ us.length = N1.length ∧ (∀ (i : Nat) (p : Value × Value) (nd : PN), us[i]? = some p → N1[i]? = some nd → DrOf wr W0.heap.size p nd ∧ ∀ g, p.2.ownBlock = some g → bv.ownBlock ≠ some g) ∧
    (v.ownBlock = v0.ownBlock ∨ ∃ g, v.ownBlock = some g ∧ W0.heap.size ≤ g) ∧ v.ownBlock ≠ some X ∧ DrB wr X fv bv ∧ DrOf wr W0.heap.size (fv, bv) ⟨nd.says, K1⟩
  chg : Chg (Fp cn v0) W0 wr
  xl : W0.heap.size ≤ X
theorem planK_few (rec : Out → Nat → Nat → List PN) : ∀ (n : Nat) (l : Out) (s b : Nat), (planK rec n l s b).1.length ≤ n := by
  intro n
  induction n with
  | zero => intro l s b; exact Nat.zero_le _
  | succ n ih =>
    intro l s b
    cases l with
    | nil => exact Nat.zero_le _
    | cons y l => exact Nat.succ_le_succ (ih _ _ _)
theorem restN_few (s : Nat) (l : Out) : (restN s l).length ≤ l.length := by
  cases l with
  | nil => exact Nat.le_refl _
  | cons y l =>
    show (if _ then _ else _ : Out).length ≤ _
    split
    · exact Nat.le_succ _
    · exact Nat.le_refl _
theorem DrOf.turned {b0 b1 X n : Nat} {p : Value × Value} {nd : PN} {u a b : Value} {ys : List Value} (hd : DrOf W b0 p nd) (c : Chg (fun g => u.ownBlock = some g ∨ g = X) W V) (hX : DrB W X a b) (hu : W.ownsRow b1 78 2 u n ys) (hs : ∀ g, p.2.ownBlock = some g → u.ownBlock ≠ some g) : DrOf V b0 p nd := by
  refine ⟨ownsRow_chg hd.f c ?_, ownsRow_chg hd.k c ?_⟩
  · intro g e h
    rcases h with h | h
    · rcases rows_apart (by decide) hd.f hu with e1 | e1
      · rw [e1] at e; cases e
      · exact e1 (e.trans h.symm)
    · exact own_ne hd.f hX (by decide) (h ▸ e)
  · intro g e h
    rcases h with h | h
    · exact hs g e h
    · exact own_ne hd.k hX (by decide) (h ▸ e)
theorem AddT.next {B cn ca X k : Nat} {W w3 W4 W7 : World} {v0 v v4 fv : Value} {vs us us4 : List (Value × Value)} {sv : Value × Value} {p edge : List Int} {nd : PN} {sub sub4 N1 : List PN} {K1 : List (List Int × Nat)} {L : Out} {A m n c gq oq K bs : Nat} {qk q7 : Option Addr} {ck c7 : Nat} {o : Obj}
    (hn : n = L.length) (hA1 : A ≤ n) (hc1 : n ≤ c) (hc2 : c ≤ 9223372036854775807) (hf : n ≤ 5000) (hm : n ≤ m + 1) (hA : 1 ≤ A)
    (hE : ExIn w3 B (some ⟨gq, oq, none⟩) L) (hR : RiseL p (L.drop A)) (hok : ∀ y ∈ L, NameOk y.1 ∧ ExOk y.2)
    (hbs : bs = vs.length + 1 + N1.length)
    (hK : K1 ++ ((edge, bs) :: (planK (plan k) m (L.drop A) p.length (bs + sub4.length)).1) = nd.kids)
    (hN : N1 ++ (sub4 ++ (planK (plan k) m (L.drop A) p.length (bs + sub4.length)).2) = sub)
    (hus : us.length = N1.length) (hu4 : us4.length = sub4.length)
    (hv : v.ownBlock = v0.ownBlock ∨ ∃ g, v.ownBlock = some g ∧ W.heap.size ≤ g) (hvX : v.ownBlock ≠ some X)
    (ho4 : v4.ownBlock = v.ownBlock ∨ ∃ g, v4.ownBlock = some g ∧ w3.heap.size ≤ g)
    (hdr : ∀ (i : Nat) (p : Value × Value) (nd : PN), us[i]? = some p → N1[i]? = some nd → DrOf w3 W.heap.size p nd ∧ ∀ g, p.2.ownBlock = some g → (Value.slice qk K ck).ownBlock ≠ some g)
    (hr4 : ∀ (i : Nat) (p : Value × Value) (nd : PN), us4[i]? = some p → sub4[i]? = some nd → DrOf W4 w3.heap.size p nd)
    (hC : Chg (Fp cn v0) W w3) (hC4 : Chg (Fp cn v) w3 W4)
    (hP : Pk B cn ca w3 v (vs ++ [sv] ++ us)) (hD : DrB w3 X fv (.slice qk K ck)) (hDO : DrOf w3 W.heap.size (fv, .slice qk K ck) ⟨nd.says, K1⟩) (hKl : K = K1.length)
    (g7 : (W4.alloc o).grownBy W7 (Value.slice qk K ck).ownBlock)
    (h7 : W7.ownsRow W.heap.size 78 2 (.slice q7 (K + 1) c7) (K + 1) (K1.flatMap brCs ++ [.string (strOfNums edge), .int .i64 (bs : Int)]))
    (hv7 : (Value.slice q7 (K + 1) c7).ownBlock = (Value.slice qk K ck).ownBlock ∨ (Value.slice q7 (K + 1) c7).ownBlock = some (W4.alloc o).heap.size)
    (hD7 : DrB W7 X fv (.slice qk K ck)) (hP8 : Pk B cn ca (W7.setCell ⟨X, 1, none⟩ (.slice q7 (K + 1) c7)) v4 (vs ++ [sv] ++ us ++ us4)) (xl : W.heap.size ≤ X) (hBW : B ≤ W.heap.size) :
    AddT B cn ca X W v0 vs k p nd sub (W7.setCell ⟨X, 1, none⟩ (.slice q7 (K + 1) c7)) (.slice (if c = A then some ⟨gq, oq, none⟩ else some ⟨gq, oq + A * 7, none⟩) (n - A) (c - A)) := by
  have xn : ¬ Fp cn v X := fun h => h.elim (fun e => hD.ne hP.c e.symm) (fun e => hvX e)
  have D4 := hD.chg hC4 xn
  have DO4 := DrOf.kept hP hDO hC4
  subst hKl
  have kw : ∀ g, (Value.slice qk K1.length ck).ownBlock = some g → W.heap.size ≤ g ∧ g < w3.heap.size := fun g e => hDO.k.lt g e
  have g8 := grown_setCell (i := 1) (grown_refl W7 (some X)) (.slice q7 (K1.length + 1) c7)
  have c48 : Chg (fun g => (Value.slice qk K1.length ck).ownBlock = some g ∨ g = X) W4 (W7.setCell ⟨X, 1, none⟩ (.slice q7 (K1.length + 1) c7)) :=
    ((Chg.of_grown (grown1 W4 o) (fun b e => by cases e)).trans (Chg.of_grown g7 (fun b e => .inl (.inl e)))).trans (Chg.of_grown g8 (fun b e => .inl (.inr (by injection e with e; exact e.symm))))
  have c38 : Chg (fun g => Fp cn v g ∨ ((Value.slice qk K1.length ck).ownBlock = some g ∨ g = X)) w3 (W7.setCell ⟨X, 1, none⟩ (.slice q7 (K1.length + 1) c7)) := (hC4.mono (fun g h => .inl h)).trans (c48.mono (fun g h => .inr h))
  have hlow : ∀ g, g < B → ¬ (Fp cn v g ∨ ((Value.slice qk K1.length ck).ownBlock = some g ∨ g = X)) := fun g hg h => by
    rcases h with h | h | h
    · exact hP.low g hg h
    · have := (kw g h).1; omega
    · omega
  have hdl : (L.drop A).length = n - A := by rw [List.length_drop, hn]
  refine ⟨⟨L.drop A, _, c - A, m, K1 ++ [(edge, bs)], N1 ++ sub4, v4, sv, us ++ us4, fv, .slice q7 (K1.length + 1) c7, by rw [hdl], by omega, by omega, by omega, ⟨?_, ?_⟩, hR, fun y hy => hok y (List.mem_of_mem_drop hy), by omega, ?_, ?_, ?_, ?_, ?_, ?_, ?_, hD7.s1 _, ?_⟩, hC.then (c38.mono ?_), xl⟩
  · split
    · have h0 : L.drop A = [] := List.eq_nil_of_length_eq_zero (by omega)
      rw [h0]
      exact ExsAt.nil
    · exact (hE.at'.drop A).chg c38 (fun g o e => hlow g (by injection e with e; injection e with e _ _; rw [← e]; exact hE.low gq oq rfl))
  · intro g o e
    have e1 : gq = g := by split at e <;> (injection e with e; injection e)
    rw [← e1]
    exact hE.low gq oq rfl
  · rw [List.append_assoc, ← hK, List.length_append, ← Nat.add_assoc, ← hbs]
    rfl
  · rw [List.append_assoc, ← hN, List.length_append, ← Nat.add_assoc, ← hbs]
  · rw [← List.append_assoc]
    exact hP8
  · rw [List.length_append, List.length_append, hus, hu4]
  · intro i p' nd' hi hnd
    rcases Nat.lt_or_ge i us.length with hlt | hge
    · rw [List.getElem?_append_left hlt] at hi
      rw [List.getElem?_append_left (by omega)] at hnd
      obtain ⟨d1, d2⟩ := hdr i p' nd' hi hnd
      have d4 := DrOf.kept hP d1 hC4
      refine ⟨d4.turned c48 D4 DO4.k d2, fun g e h => ?_⟩
      rcases hv7 with e7 | e7
      · exact d2 g e (e7 ▸ h)
      · have h1 := (d4.k.lt g e).2
        rw [h] at e7
        injection e7 with e7
        have h2 := (grown1 W4 o).size
        omega
    · rw [List.getElem?_append_right hge] at hi
      rw [List.getElem?_append_right (by omega)] at hnd
      rw [← hus] at hnd
      have d4 := hr4 _ p' nd' hi hnd
      have hsep : ∀ g, p'.2.ownBlock = some g → (Value.slice qk K1.length ck).ownBlock ≠ some g := fun g e h => by
        have h1 := (d4.k.lt g e).1
        have h2 := (kw g h).2
        omega
      refine ⟨(d4.turned c48 D4 DO4.k hsep).le hC.size, fun g e h => ?_⟩
      rcases hv7 with e7 | e7
      · exact hsep g e (e7 ▸ h)
      · have h1 := (d4.k.lt g e).2
        rw [h] at e7
        injection e7 with e7
        have h2 := (grown1 W4 o).size
        omega
  · rcases ho4 with e | ⟨g, e, hg⟩
    · rw [e]; exact hv
    · exact .inr ⟨g, e, Nat.le_trans hC.size hg⟩
  · intro e
    rcases ho4 with e1 | ⟨g, e1, hg⟩
    · exact hvX (e1 ▸ e)
    · rw [e1] at e
      injection e with e
      have := hD.lt
      omega
  · refine ⟨ownsRow_chg DO4.f c48 ?_, ?_⟩
    · intro g e h
      rcases h with h | h
      · rcases rows_apart (by decide) DO4.f DO4.k with e1 | e1
        · rw [e1] at e; cases e
        · exact e1 (e.trans h.symm)
      · exact own_ne DO4.f D4 (by decide) (h ▸ e)
    · have h8 := h7.kept g8 (.inr (own_ne h7 hD7 (by decide)))
      show World.ownsRow _ _ _ 2 _ (K1 ++ [(edge, bs)]).length ((K1 ++ [(edge, bs)]).flatMap brCs)
      rw [List.length_append, List.length_singleton, List.flatMap_append, List.flatMap_singleton]
      exact h8
  · intro g h
    rcases h with h | h | h
    · rcases h with h | h
      · exact .inl (.inl h)
      · rcases hv with e | ⟨g1, e, hg1⟩
        · exact .inl (.inr (e ▸ h))
        · have e2 : g1 = g := by rw [e] at h; injection h
          exact .inr ⟨e2 ▸ hg1, (hP.row.lt g h).2⟩
    · exact .inr (kw g h)
    · rw [h]; exact .inr ⟨xl, hD.lt⟩
set_option maxRecDepth 20000 in
set_option maxHeartbeats 3200000 in
theorem add_any {B cn ca : Nat} : ∀ (k : Nat) (W : World) (v : Value) (vs : List (Value × Value)) (l : Out) (p : List Int) (q : Option Addr) (n c s : Nat), l.length = n → p.length = s → n ≤ 5000 → n ≤ c → c ≤ 9223372036854775807 → l ≠ [] → Rise p l → (∀ y ∈ l, NameOk y.1 ∧ ExOk y.2) → 256 ≤ k + s → vs.length + (plan k l s vs.length).length ≤ 100000 → ExIn W B q l → Pk B cn ca W v vs →
    Calls Try.prog 37 #[.slice q n c, .int .i64 s, .pointer (some ⟨cn, 0, none⟩), .pointer (some ⟨ca, 0, none⟩)] W fun e W' => PO B cn ca W W' v vs (plan k l s vs.length) e := by
  intro k
  induction k with
  | zero =>
    intro W v vs l p q n c s hn hs _ _ _ hl hr hok hk _ _ _
    exfalso
    cases l with
    | nil => exact hl rfl
    | cons y l =>
      obtain ⟨t, e⟩ := hr.pre y (List.mem_cons_self ..)
      have h1 := (hok y (List.mem_cons_self ..)).1.len
      rw [e, List.length_append] at h1
      omega
  | succ k ih =>
    intro W v vs l p q n c s hn hs hfew hnc hc hl hr hok hk hbig hE hP
    obtain ⟨qv, cv, rfl⟩ := own_slice hP.row
    obtain ⟨base, hbase⟩ : ∃ b, b = vs.length := ⟨_, rfl⟩
    have IH := Lib.hid ih
    have PP := Lib.hid hP
    have EE := Lib.hid hE
    have RR := Lib.hid hr
    have OK := Lib.hid hok
    have HN := Lib.hid hn
    have HS := Lib.hid hs
    have NE := Lib.hid hl
    have HBG := Lib.hid hbig
    have HBS := Lib.hid hbase
    have c0 := hP.c.c
    have f0 := hP.c.f
    have l0 := hP.c.lt
    rw [← hbase] at c0 ⊢
    have hb1 : base ≤ 100000 := by omega
    clear ih hP hE hr hok hn hs hl hbig hbase
    go_enter Try.func37, Try.ntmps37
    obtain ⟨sv, hsv⟩ : ∃ x : Value × Value, x = (.slice none 0 0, .slice none 0 0) := ⟨_, rfl⟩
    have g1 := grown1 W (.cells #[.slice none 0 0, .slice none 0 0] 76)
    have P1 := Lib.hid (PP.out.grown g1)
    have N1 := Lib.hid (heap_alloc_new W (.cells #[.slice none 0 0, .slice none 0 0] 76))
    have S1 := Lib.hid (Nat.le_trans (Nat.le_trans PP.out.bc (Nat.le_of_lt l0)) g1.size)
    have GG := Lib.hid g1
    clear g1
    go_upto_region 2 with fail
    go_upto_region 3 with (at_builtin; refine wp_append_sta drType rfl _ _ rfl _ vs.length _ (by rw [HBS.out]; rfl) P1.out.row [.slice none 0 0, .slice none 0 0] rfl W.heap.size rfl N1.out (fun u hu => by simp at hu; subst hu; rfl) (by have := HBS.out; omega) (by decide) S1.out ?_; (intro v' W2 ho hg hv; obtain ⟨q2, c2, rfl⟩ := own_slice ho; have PU := PP.out.push (p := sv) GG.out (by rw [hsv]; exact ho) hg hv; have o2 := P1.out.c.kept hg (fun e => own_ne P1.out.row P1.out.c (by decide) e); have z0 := o2.c; have z1 := o2.f; have z2 := o2.lt; clear o2 ho hg hv))
    obtain ⟨W3, hW3⟩ : ∃ W3, W3 = W2.setCell ⟨cn, 0, none⟩ (.slice q2 (vs.length + 1) c2) := ⟨_, rfl⟩
    rw [← hW3] at PU ⊢
    have HU := Lib.hid PU
    have U3 := Lib.hid (put_out (n := 0) (by decide) W3)
    have HW3 := Lib.hid hW3
    clear PU hW3 z0 z1 z2 c0 f0 l0 N1 S1 GG P1
    go_upto_region 4 with (refine U3.out.mono ?_; rintro e w4 ⟨⟨qf, cf, rfl, ho4⟩, hg4⟩; have O4 := Lib.hid ho4; have G4 := Lib.hid hg4; clear ho4 hg4)
    obtain ⟨v3, hv3⟩ : ∃ v, v = Value.slice q2 (vs.length + 1) c2 := ⟨_, rfl⟩
    have he0 : encU 0 = [0] := encU_small (by decide)
    rw [he0] at O4 ⊢
    have g5 := grown1 w4 (.cells #[.slice qf 1 cf, .slice none 0 0] 76)
    have d5 : DrB (w4.alloc (.cells #[.slice qf 1 cf, .slice none 0 0] 76)) w4.heap.size (.slice qf 1 cf) (.slice none 0 0) := heap_alloc_new w4 _
    have g35 := grown_trans G4.out g5
    obtain ⟨u1, u2, u3⟩ := HU.out
    rw [← hv3] at u1 u3
    have C5 := Lib.hid (u2.trans (Chg.of_grown g35 (fun b e => by cases e)))
    have xo : v3.ownBlock ≠ some w4.heap.size := fun e => by have := ((u1.grown G4.out).row.lt _ e).2; omega
    have e5 : ExIn (w4.alloc (.cells #[.slice qf 1 cf, .slice none 0 0] 76)) B q l := ⟨EE.out.at'.chg C5.out (fun g o e => PP.out.low g (EE.out.low g o e)), EE.out.low⟩
    have r5 : DrOf (w4.alloc (.cells #[.slice qf 1 cf, .slice none 0 0] 76)) W.heap.size (.slice qf 1 cf, .slice none 0 0) ⟨none, []⟩ :=
      ⟨own_grown (Go.Joins.ownsRow_le O4.out u2.size) g5, World.ownsRow_nil _ _ _ _⟩
    have p5 := u1.grown g35
    have xl : W.heap.size ≤ w4.heap.size := Nat.le_trans u2.size G4.out.size
    obtain ⟨w5, hw5⟩ : ∃ w5, w5 = w4.alloc (.cells #[.slice qf 1 cf, .slice none 0 0] 76) := ⟨_, rfl⟩
    obtain ⟨X, hX⟩ : ∃ X, X = w4.heap.size := ⟨_, rfl⟩
    show Code.wp _ _ _ _ (w4.alloc (.cells #[.slice qf 1 cf, .slice none 0 0] 76))
    rw [← hw5] at e5 r5 p5 C5 d5 ⊢
    rw [← hX] at d5 xo xl ⊢
    obtain ⟨r, hr⟩ : ∃ r, r = planK (plan k) (restN s l).length (restN s l) s (vs.length + 1) := ⟨_, rfl⟩
    have PL := Lib.hid (show plan (k + 1) l s vs.length = ⟨ownN s l, r.1⟩ :: r.2 by rw [hr]; rfl)
    have D5 := Lib.hid d5
    have XO := Lib.hid xo
    have E5 := Lib.hid e5
    have R5 := Lib.hid r5
    have P5 := Lib.hid p5
    have UV := Lib.hid u3
    have XL := Lib.hid xl
    have HR := Lib.hid hr
    have HV3 := Lib.hid hv3
    clear d5 xo e5 r5 p5 xl hr hv3 g5 g35 u1 u2 u3 HU U3 O4 G4 HW3 he0 hw5 hX
    cases l with
    | nil => exact absurd rfl NE.out
    | cons y l =>
      obtain ⟨g0, o0, rfl, y0, y1, y2, y3, y4, y5, y6⟩ := E5.out.at'.head
      have hst : (strOfNums y.1).size = y.1.length := strOfNums_size _
      have hn0 : (0 : Int) < (n : Int) := by have := HN.out; simp only [List.length_cons] at this; omega
      have RO := Lib.hid (RR.out.own NE.out)
      have YOK := Lib.hid (OK.out y (List.mem_cons_self ..))
      by_cases hy : y.1.length = s
      case' neg =>
        have dy : decide ((y.1.length : Int) = (s : Int)) = false := by simp; omega
        have eo : ownN s (y :: l) = none := by show (if _ then _ else _) = _; rw [if_neg hy]
        have er : restN s (y :: l) = y :: l := by show (if _ then _ else _) = _; rw [if_neg hy]
        have ST := Lib.hid (show AddT B cn ca X W (.slice qv vs.length cv) vs k p ⟨ownN s (y :: l), r.1⟩ r.2 w5 (.slice (some ⟨g0, o0, none⟩) n c) from by
          have h1 := RO.out.1
          rw [HS.out, er] at h1
          refine ⟨⟨y :: l, _, c, (y :: l).length, [], [], v3, sv, [], _, _, by rw [HN.out], by rw [HN.out]; exact hnc, hc, by rw [HN.out]; exact hfew, E5.out, h1, OK.out, Nat.le_refl _, ?_, ?_, by rw [List.append_nil]; exact P5.out, rfl, fun i p nd h => by simp at h, UV.out, XO.out, D5.out, by rw [eo]; exact R5.out⟩, C5.out, XL.out⟩
          · rw [HR.out, er, HS.out]; rfl
          · rw [HR.out, er, HS.out]; rfl)
        have dy2 : ((y.1.length : Int) == (s : Int)) = false := by simp; omega
        have dy3 : decide (y.1.length = s) = false := by simp; omega
        clear eo er
        go_wp2
      case' pos =>
        have dy : decide ((y.1.length : Int) = (s : Int)) = true := by simp; omega
        have dy2 : ((y.1.length : Int) == (s : Int)) = true := by simp; omega
        have eo : ownN s (y :: l) = some y.2 := by show (if _ then _ else _) = _; rw [if_pos hy]
        have er : restN s (y :: l) = l := by show (if _ then _ else _) = _; rw [if_pos hy]
        have SY := Lib.hid (say_any (strOfNums y.1) y.2 YOK.out.2 w5)
        unfold exV exArr at SY
        have HY := Lib.hid (And.intro hy (And.intro eo er))
        clear eo er
        go_wp2_with fail
        refine SY.out.mono ?_
        rintro e w6 ⟨⟨q6, c6, rfl, ho6⟩, hg6⟩
        have sl := said_len YOK.out.2
        obtain ⟨sb, hsb⟩ : ∃ sb, sb = saidB y.2 := ⟨_, rfl⟩
        rw [← hsb] at sl ho6 ⊢
        have HSB := Lib.hid hsb
        have PT := Lib.hid (put_out (n := sb.length) (by omega) w6)
        have O6 := Lib.hid ho6
        have G6 := Lib.hid hg6
        have ls : sb.length < 18446744073709551616 := by omega
        have hpw : IntKind.u64.wrap (sb.length : Int) = sb.length := by rw [IntKind.wrap_u64]; omega
        clear hsb ho6 hg6 SY y0 y1 y2 y3 y4 y5 y6
        go_wp2_with fail
        refine PT.out.mono ?_
        rintro e w7 ⟨⟨q7, c7, rfl, ho7⟩, hg7⟩
        have R7 := Lib.hid (RowTo.refl ho7)
        have I7 := Lib.hid (IsBytes.of_own rfl (own_grown O6.out hg7))
        have G7 := Lib.hid (grown_trans G6.out hg7)
        have S7 := Lib.hid hg7.size
        have S6 := Lib.hid G6.out.size
        have el := encU_10 sb.length (by omega)
        have L7 := Lib.hid (show (encU sb.length).length + sb.length ≤ 140737488355328 by omega)
        clear ho7 hg7 O6 G6 PT
        have d7 := D5.out.grown G7.out
        obtain ⟨z0, z1⟩ := d7.c
        have zf := d7.f 0
        have zl := d7.lt
        clear d7
        go_wp2_with (at_builtin; refine wp_append_to rfl _ _ rfl rfl (v := .slice q7 (encU sb.length).length c7) (by rfl) R7.out sb sb.length rfl (by rfl) I7.out L7.out S7.out ?_)
        intro q8 c8 w8 hr8
        have ne7 : (Value.slice q7 (encU sb.length).length c7).ownBlock ≠ some X := fun e => by have h1 := (R7.out.own.lt X e).1; have h2 := D5.out.lt; have h3 := S6.out; omega
        have d8 := (D5.out.grown G7.out).kept hr8.grown ne7
        have ne8 := hr8.off (Nat.lt_of_lt_of_le D5.out.lt (Nat.le_trans S6.out S7.out)) ne7
        have c58 : Chg (fun g => g = X) w5 w8 := (Chg.of_grown G7.out (fun b e => by cases e)).then (Chg.of_grown hr8.grown (fun b e => .inl (.inr ⟨by have h1 := (R7.out.own.lt b e).1; have h3 := S6.out; omega, (R7.out.own.lt b e).2⟩)))
        have g9 := grown_setCell (i := 0) (grown_refl w8 (some X)) (.slice q8 ((encU sb.length).length + sb.length) c8)
        have c59 := c58.trans (Chg.of_grown g9 (fun b e => .inl (by injection e with e; exact e.symm)))
        have d9 := d8.s0 (.slice q8 ((encU sb.length).length + sb.length) c8)
        have f9 := (Go.Joins.ownsRow_le (base' := W.heap.size) hr8.own (by have h3 := XL.out; have h4 := D5.out.lt; have h5 := S6.out; omega)).kept g9 (.inr ne8)
        have hfr : frontB (some y.2) = encU sb.length ++ sb := by rw [HSB.out]; rfl
        rw [← hfr] at f9
        obtain ⟨W9, hW9⟩ : ∃ W9, W9 = w8.setCell ⟨X, 0, none⟩ (.slice q8 ((encU sb.length).length + sb.length) c8) := ⟨_, rfl⟩
        rw [← hW9] at c59 d9 f9
        have HW9 := Lib.hid hW9.symm
        have d80 := d8.c.1
        have d8f := d8.f 0
        have d8l := d8.lt
        have ST := Lib.hid (show ∀ o3, (o3 = o0 + 7 ∨ l = []) → ∀ c2, l.length ≤ c2 → c2 ≤ 9223372036854775807 → AddT B cn ca X W (.slice qv vs.length cv) vs k p ⟨ownN s (y :: l), r.1⟩ r.2 W9 (.slice (some ⟨g0, o3, none⟩) l.length c2) from fun o3 ho3 c2 hc1 hc2 => by
          have h1 := RO.out.1
          rw [HS.out, HY.out.2.2] at h1
          refine ⟨⟨l, _, c2, l.length, [], [], v3, sv, [], _, _, rfl, hc1, hc2, by have := HN.out; simp only [List.length_cons] at this; omega, ⟨?_, ?_⟩, h1, fun z hz => OK.out z (List.mem_cons_of_mem _ hz), Nat.le_refl _, ?_, ?_, ?_, rfl, fun i p nd h => by simp at h, UV.out, XO.out, d9, ⟨by rw [HY.out.2.1]; exact f9, World.ownsRow_nil _ _ _ _⟩⟩, C5.out.then (c59.mono (fun g e => .inr ⟨by rw [e]; exact XL.out, by rw [e]; exact D5.out.lt⟩)), XL.out⟩
          · rcases ho3 with rfl | rfl
            case inr => exact ExsAt.nil
            refine (E5.out.at'.drop 1).chg c59 ?_
            intro g o e hg
            injection e with e
            injection e with e _ _
            have h2 := E5.out.low g0 o0 rfl
            have h3 := PP.out.bc
            have h4 := PP.out.c.lt
            have h5 := XL.out
            omega
          · intro g o e
            injection e with e
            injection e with e _ _
            rw [← e]
            exact E5.out.low g0 o0 rfl
          · rw [HR.out, HY.out.2.2, HS.out]; rfl
          · rw [HR.out, HY.out.2.2, HS.out]; rfl
          · rw [List.append_nil]
            exact P5.out.chg c59 (D5.out.ne P5.out.c) (D5.out.ne P5.out.me) (fun g e h => XO.out (h ▸ e)))
        clear c58 c59 d9 f9 g9 d8 ne7 ne8 hr8 hfr z0 z1 zf zl hW9
        go_upto_region 7 with fail
        rw [HW9.out]
        clear HW9 d80 d8f d8l
        go_wp2
      all_goals
        first
          | have ST2 := Lib.hid (show AddT B cn ca X W (.slice qv vs.length cv) vs k p ⟨ownN s (y :: l), r.1⟩ r.2 w5 (.slice (some ⟨g0, o0, none⟩) n c) from ST.out)
          | have ST2 := Lib.hid (show AddT B cn ca X W (.slice qv vs.length cv) vs k p ⟨ownN s (y :: l), r.1⟩ r.2 W9 (.slice (some ⟨g0, o0, none⟩) (n - 1) 0) from by have hl := HN.out; simp only [List.length_cons] at hl; rw [show n - 1 = l.length by omega]; exact ST.out o0 (.inr (List.eq_nil_of_length_eq_zero (by omega))) 0 (by omega) (by omega))
          | have ST2 := Lib.hid (show AddT B cn ca X W (.slice qv vs.length cv) vs k p ⟨ownN s (y :: l), r.1⟩ r.2 W9 (.slice (some ⟨g0, o0 + 7, none⟩) (n - 1) (c - 1)) from by have hl := HN.out; simp only [List.length_cons] at hl; rw [show n - 1 = l.length by omega]; exact ST.out (o0 + 7) (.inl rfl) (c - 1) (by omega) (by omega))
        clear ST hst hy
        go_loopw [0] (fun vl wr => AddT B cn ca X W (.slice qv vs.length cv) vs k p ⟨ownN s (y :: l), r.1⟩ r.2 wr vl) (fun vl _ => lenSl vl)
        case atStart => exact ST2.out
        case round =>
          obtain ⟨⟨l2, q2', c2', m, K1, N1, v, sv', us, fv, bv, rfl, hl2, hc2, hf2, hE2, hR2, hok2, hm, hK, hN, hP2, hus, hdr, hv, hvX, hd, hdo⟩, hC, hX⟩ := hrel
          cases l2 with
          | nil =>
            obtain ⟨qv2, cv2, rfl⟩ := own_slice hP2.row
            have t0 := hP2.c.c
            have tl := hP2.c.lt
            obtain ⟨qf5, cf5, rfl⟩ := own_slice hdo.f
            obtain ⟨qk5, ck5, rfl⟩ := own_slice hdo.k
            obtain ⟨fl5, hfl5⟩ : ∃ x, x = (frontB (⟨ownN s (y :: l), K1⟩ : PN).says).length := ⟨_, rfl⟩
            obtain ⟨kl5, hkl5⟩ : ∃ x, x = (⟨ownN s (y :: l), K1⟩ : PN).kids.length := ⟨_, rfl⟩
            rw [← hfl5, ← hkl5] at hd
            obtain ⟨b0, b1⟩ := hd.c
            have xl2 := hd.lt
            obtain ⟨gv, rfl⟩ : ∃ gv, qv2 = some ⟨gv, 0, none⟩ := by
              rcases hP2.row.2 with ⟨e, h0⟩ | ⟨gv, _, _, e, _⟩
              · exfalso
                rw [List.length_append, List.length_append, List.length_singleton] at h0
                omega
              · injection e with e
                exact ⟨gv, e⟩
            have SE := hP2.seat (.slice qf5 fl5 cf5) (.slice qk5 kl5 ck5)
            rw [← HBS.out] at SE
            have zz : wr.cell? ⟨gv, base * 2, none⟩ = some sv'.1 ∧ wr.cell? ⟨gv, base * 2 + 1, none⟩ = some sv'.2 := by
              have hat : (vs ++ [sv'] ++ us)[base]? = some sv' := by rw [HBS.out]; simp
              obtain ⟨g1, e1, r0⟩ := row_cell (f := drV) (k := 2) (fun _ => rfl) hP2.row hat (j := 0) (by decide)
              obtain ⟨g2, e2, r1⟩ := row_cell (f := drV) (k := 2) (fun _ => rfl) hP2.row hat (j := 1) (by decide)
              injection e1 with e1
              injection e1 with e1 _ _
              injection e2 with e2
              injection e2 with e2 _ _
              subst e1
              rw [← e2] at r1
              exact ⟨r0, r1⟩
            obtain ⟨z0, z1⟩ := zz
            have zf : ∀ i, wr.frozen? ⟨gv, i, none⟩ = false := fun i => by
              rcases hP2.row.2 with ⟨e, h0⟩ | ⟨g1, _, _, e, _, hh, _⟩
              · cases e
              · injection e with e
                injection e with e
                injection e with e _ _
                rw [e]
                exact free_of hh
            obtain ⟨mm, hmm⟩ : ∃ mm, mm = (vs ++ [sv'] ++ us).length := ⟨_, rfl⟩
            have hbm : (base : Int) < (mm : Int) := by rw [hmm, List.length_append, List.length_append, List.length_singleton, HBS.out]; omega
            rw [← hmm] at t0 SE
            have SEE := Lib.hid SE
            have HMM := Lib.hid hmm
            have hbn : base < mm := by omega
            have zf0 := zf (base * 2)
            have zf1 := zf (base * 2 + 1)
            clear zf hmm SE
            go_wp2
            go_ret
            have hb := HBS.out
            subst hb
            subst hfl5 hkl5
            have hp0 : ∀ (b : Nat), planK (plan k) m [] p.length b = ([], []) := fun b => by cases m <;> rfl
            rw [hp0, List.append_nil] at hK hN
            have ck := Chg.of_grown (F := Fp cn (.slice (some ⟨gv, 0, none⟩) (vs ++ [sv'] ++ us).length cv2)) SEE.out.2 (fun b e => .inl (.inr e))
            have d1 := DrOf.kept hP2 hdo ck
            have hgl := (hP2.row.lt gv rfl).2
            refine ⟨rfl, ⟨.slice (some ⟨gv, 0, none⟩) (vs ++ [sv'] ++ us).length cv2, (.slice qf5 (frontB (ownN s (y :: l))).length cf5, .slice qk5 K1.length ck5) :: us, ?_, ?_, hv, ?_⟩, hC.then (Chg.of_grown SEE.out.2 (fun b e => .inl ?_))⟩
            · rw [PL.out, List.length_cons, List.length_cons, hus, hN]
            · have := SEE.out.1
              rw [HMM.out] at this
              have ea : ∀ z : Value × Value, vs ++ z :: us = vs ++ [z] ++ us := fun z => by simp
              rw [ea]
              exact this
            · intro i p' nd' hi hnd'
              rw [PL.out] at hnd'
              cases i with
              | zero =>
                injection hi with hi
                injection hnd' with hnd'
                rw [← hi, ← hnd', ← hK]
                exact d1
              | succ i => exact DrOf.kept hP2 (hdr i p' nd' hi (by rw [hN]; exact hnd')).1 ck
            · injection e with e
              subst e
              rcases hv with e | ⟨g1, e, hg1⟩
              · exact .inl (.inr e.symm)
              · have e2 : gv = g1 := by injection e with e
                exact .inr ⟨e2 ▸ hg1, hgl⟩
          | cons y2 l2 =>
            rw [HS.out] at hK hN
            obtain ⟨gr1, gr2, -, gr4⟩ := hR2.group
            obtain ⟨-, -, -, sp4⟩ := hR2.split
            have hap := alike_pos (n := s) (y := y2) (l := l2)
            rw [HS.out] at gr1 gr2 gr4 sp4
            obtain ⟨q3, hq3⟩ : ∃ q3, q3 = q2' := ⟨_, rfl⟩
            obtain ⟨nl, hnl⟩ : ∃ nl, nl = (y2 :: l2).length := ⟨_, rfl⟩
            have AL := Lib.hid (alike_any (w := wr) y2 l2 nl s hnl.symm (by omega) q2' c2' hE2.at' (fun z hz => ⟨(hok2 z hz).1.byt, by
              obtain ⟨c, t, e⟩ := hR2.pre z hz
              rw [e, List.length_append, HS.out, List.length_cons]
              omega, by have := (hok2 z hz).1.len; omega⟩))
            obtain ⟨A, hA⟩ : ∃ A, A = alikeN s (y2 :: l2) := ⟨_, rfl⟩
            rw [← hA] at AL hap gr1 gr2 gr4 sp4
            rw [← hnl] at hl2 hf2 hm hap ⊢
            have HH := Lib.hid (And.intro hE2 (And.intro hok2 (And.intro hP2 (And.intro hdr (And.intro hd (And.intro hdo hC))))))
            have KK := Lib.hid (And.intro hK (And.intro hN (And.intro hus (And.intro hv hvX))))
            have GR := Lib.hid (And.intro gr1 (And.intro gr2 (And.intro gr4 sp4)))
            have HA := Lib.hid hA
            have HNL := Lib.hid hnl
            have dpos : decide ((0 : Int) < (nl : Int)) = true := by simp; omega
            have dpos2 : (0 : Int) < (nl : Int) := by omega
            clear hE2 hok2 hP2 hdr hd hdo hC hK hN hus hv hvX gr1 gr2 gr4 sp4 hA hnl hR2 hq3
            go_wp2_with fail
            refine AL.out.mono ?_
            rintro e w2 ⟨rfl, hg2⟩
            obtain ⟨A', rfl⟩ : ∃ A', A = A' + 1 := ⟨A - 1, by omega⟩
            obtain ⟨gq, oq, rfl, nm0⟩ := (HH.out.1.at'.grown hg2).name (i := 0) rfl
            rw [Nat.zero_mul, Nat.add_zero] at nm0
            obtain ⟨z, hz⟩ : ∃ z, (y2 :: l2)[A']? = some z := ⟨_, List.getElem?_eq_getElem (by rw [← HNL.out]; omega)⟩
            obtain ⟨g', o', e', nm1⟩ := (HH.out.1.at'.grown hg2).name hz
            injection e' with e'
            injection e' with e1 e2 _
            subst e1 e2
            have lz : lastN ((y2 :: l2).take (A' + 1)) = z.1 := by
              unfold lastN
              rw [List.getLast?_eq_getElem?, List.length_take, List.getElem?_take, ← HNL.out, show min (A' + 1) nl - 1 = A' by omega, if_pos (by omega), hz]
              rfl
            have CM := Lib.hid (fun W => common_any y2.1 z.1 (HH.out.2.1 y2 (List.mem_cons_self ..)).1.byt (HH.out.2.1 z (List.mem_of_getElem? hz)).1.byt (by have := (HH.out.2.1 y2 (List.mem_cons_self ..)).1.len; omega) W)
            obtain ⟨en, hen⟩ : ∃ en, en = lcpN y2.1 z.1 := ⟨_, rfl⟩
            rw [← hen] at CM
            have HEN := Lib.hid (show en = lcpN y2.1 (lastN ((y2 :: l2).take (A' + 1))) by rw [lz]; exact hen)
            have G2 := Lib.hid hg2
            have hA0 : (A' : Int) < (nl : Int) := by omega
            have hA1 : (A' : Int) + 1 ≤ (nl : Int) := by omega
            have hcan : (A' : Int) + 1 - 1 = (A' : Int) := by omega
            clear hg2 hz lz hen AL
            go_wp2
            go_quiet (fail)
            go_wp2_with fail
            refine (CM.out _).mono ?_
            rintro e w3 ⟨rfl, hg3⟩
            have g3 : wr.grownBy w3 none := grown_trans (grown_drewN G2.out _) hg3
            have E3 := Lib.hid (HH.out.1.grown g3)
            have P3 := Lib.hid (HH.out.2.2.1.grown g3)
            have DR3 := Lib.hid (fun (i : Nat) (p' : Value × Value) (nd' : PN) h1 h2 => (And.intro ((HH.out.2.2.2.1 i p' nd' h1 h2).1.grown g3) (HH.out.2.2.2.1 i p' nd' h1 h2).2))
            have D3 := Lib.hid (HH.out.2.2.2.2.1.grown g3)
            have DO3 := Lib.hid (HH.out.2.2.2.2.2.1.grown g3)
            have C3 := Lib.hid (HH.out.2.2.2.2.2.2.trans (Chg.of_grown g3 (fun b e => by cases e)))
            have OK2 := Lib.hid HH.out.2.1
            clear HH g3 hg3 G2 CM nm0 nm1
            obtain ⟨qk5, ck5, rfl⟩ := own_slice DO3.out.k
            obtain ⟨K1l, hK1l⟩ : ∃ x, x = (⟨ownN s (y :: l), K1⟩ : PN).kids.length := ⟨_, rfl⟩
            rw [← hK1l] at D3
            have HK1 := Lib.hid hK1l
            clear hK1l
            have me3 := P3.out.me.c
            obtain ⟨b0, b1⟩ := D3.out.c
            have bf := D3.out.f 1
            have bl := D3.out.lt
            have hsz : (strOfNums y2.1).size = y2.1.length := strOfNums_size _
            have gr := GR.out
            have hse : (s : Int) ≤ (en : Int) := by have := HEN.out; omega
            have hel : (en : Int) ≤ (y2.1.length : Int) := by have := HEN.out; omega
            have hcut : (strOfNums y2.1).extract s en = strOfNums ((y2.1.drop s).take (en - s)) := by rw [strOf_cut, List.drop_take]
            clear gr
            go_upto_region 12 with fail
            obtain ⟨gr1, gr2, gr4, sp4⟩ := GR.out
            rw [← HEN.out] at gr1 gr2 gr4
            have gd : w3.grownBy w3.drew none := grown_drewN (grown_refl w3 none) 1
            have hbl2 : (vs ++ [sv'] ++ us).length = vs.length + 1 + N1.length := by rw [List.length_append, List.length_append, List.length_singleton, KK.out.2.2.1]
            obtain ⟨m', rfl⟩ : ∃ m', m = m' + 1 := ⟨m - 1, by omega⟩
            have hstep : planK (plan k) (m' + 1) (y2 :: l2) s (vs.length + 1 + N1.length) = (((y2.1.drop s).take (en - s), vs.length + 1 + N1.length) :: (planK (plan k) m' ((y2 :: l2).drop (A' + 1)) s (vs.length + 1 + N1.length + (plan k ((y2 :: l2).take (A' + 1)) en (vs.length + 1 + N1.length)).length)).1,
                plan k ((y2 :: l2).take (A' + 1)) en (vs.length + 1 + N1.length) ++ (planK (plan k) m' ((y2 :: l2).drop (A' + 1)) s (vs.length + 1 + N1.length + (plan k ((y2 :: l2).take (A' + 1)) en (vs.length + 1 + N1.length)).length)).2) := by
              rw [HEN.out, HA.out]
              rfl
            have hK := KK.out.1
            have hN := KK.out.2.1
            rw [hstep] at hK hN
            have hbnd : (vs ++ [sv'] ++ us).length + (plan k ((y2 :: l2).take (A' + 1)) en (vs ++ [sv'] ++ us).length).length ≤ 100000 := by
              have h1 := HBG.out
              rw [PL.out, List.length_cons, ← hN, List.length_append, List.length_append] at h1
              rw [hbl2]
              omega
            have hlt : (y2.1.take en).length = en := by rw [List.length_take]; omega
            have hgl : ((y2 :: l2).take (A' + 1)).length = A' + 1 := by rw [List.length_take, ← HNL.out]; omega
            have CALL := Lib.hid (IH.out w3.drew v (vs ++ [sv'] ++ us) ((y2 :: l2).take (A' + 1)) (y2.1.take en) (some ⟨gq, oq, none⟩) (A' + 1) c2' en hgl hlt (by omega) (by omega) hc2 (by simp) gr4 (fun x hx => OK2.out x (List.mem_of_mem_take hx)) (by omega) hbnd ⟨(E3.out.grown gd).at'.take (A' + 1), E3.out.low⟩ (P3.out.grown gd))
            have HHK := Lib.hid (And.intro hK hN)
            have HB2 := Lib.hid hbl2
            have LG := Lib.hid hgl
            have D3d := Lib.hid (D3.out.grown gd)
            have P3d := Lib.hid (P3.out.grown gd)
            have DO3d := Lib.hid (DO3.out.grown gd)
            have GRR := Lib.hid (And.intro gr1 (And.intro gr2 sp4))
            clear hK hN hstep hbnd hlt hgl gr1 gr2 gr4 sp4 hbl2 gd
            have y0 : w3.drew.cell? ⟨ca, 0, none⟩ = some (.func (.func 37) #[] #[.pointer (some ⟨cn, 0, none⟩), .pointer (some ⟨ca, 0, none⟩)]) := me3
            have y1 : w3.drew.cell? ⟨X, 1, none⟩ = some (.slice qk5 K1l ck5) := b1
            have y2' : w3.drew.frozen? ⟨X, 1, none⟩ = false := bf
            have y3 : X < w3.drew.heap.size := bl
            have hseI : (s : Int) ≤ (y2.1.length : Int) := by omega
            have hAc : A' + 1 ≤ c2' := by omega
            have hAcI : (A' : Int) + 1 ≤ (c2' : Int) := by omega
            have hAp : (0 : Int) ≤ (A' : Int) + 1 := by omega
            have hAn : ¬ (A' : Int) + 1 < 0 := by omega
            have hAn2 : ¬ (c2' : Int) < (A' : Int) + 1 := by omega
            have hAt : ((A' : Int) + 1).toNat = A' + 1 := by omega
            obtain ⟨bs, hbs⟩ : ∃ x, x = (vs ++ [sv'] ++ us).length := ⟨_, rfl⟩
            have HBB := Lib.hid hbs
            have FEWK := Lib.hid (show K1l ≤ 5000 from by
              have h1 := congrArg List.length HHK.out.1
              have h2 := planK_few (plan k) (restN s (y :: l)).length (restN s (y :: l)) s (vs.length + 1)
              rw [← HR.out] at h2
              have h3 := restN_few s (y :: l)
              have h4 := HN.out
              rw [HK1.out]
              rw [List.length_append] at h1
              omega)
            have BLE := Lib.hid (show W.heap.size ≤ w3.drew.heap.size from C3.out.size)
            clear hbs
            clear me3 b0 b1 bf bl
            refine wp_region_noPanic ?_
            refine wp_region_held_drew (S := fun V => V.cell? ⟨ca, 0, none⟩ = some (Value.func (.func 37) #[] #[.pointer (some ⟨cn, 0, none⟩), .pointer (some ⟨ca, 0, none⟩)])) (by kernel_rfl) y0 (fun hS => ?_)
            refine wpAnyH_take (i := 0) (oi := ⟨some 61, _, _, _, _, _⟩) (v := Value.pointer (some ⟨X, 1, none⟩)) rfl (by kernel_rfl) (by kernel_rfl) (by kernel_rfl) (fun _ _ _ h => h) (Or.inl ⟨by rfl, fun V hV => ?_⟩) hS ?_
            · (go_simp)
            try simp only [Act.put, List.setIfInBounds_toArray, List.set_cons_zero, List.set_cons_succ]
            refine wpAnyH_take (i := 2) (oi := ⟨some 63, _, _, _, _, _⟩) (v := Value.string (strOfNums y2.1)) rfl (by kernel_rfl) (by kernel_rfl) (by kernel_rfl) (fun _ _ _ h => h) (Or.inl ⟨by rfl, fun V hV => ?_⟩) hS ?_
            · (go_simp)
            try simp only [Act.put, List.setIfInBounds_toArray, List.set_cons_zero, List.set_cons_succ]
            refine wpAnyH_take (i := 3) (oi := ⟨some 64, _, _, _, _, _⟩) (v := Value.int .i64 (s : Int)) rfl (by kernel_rfl) (by kernel_rfl) (by kernel_rfl) (fun _ _ _ h => h) (Or.inl ⟨by rfl, fun V hV => ?_⟩) hS ?_
            · (go_simp)
            try simp only [Act.put, List.setIfInBounds_toArray, List.set_cons_zero, List.set_cons_succ]
            refine wpAnyH_take (i := 4) (oi := ⟨some 65, _, _, _, _, _⟩) (v := Value.int .i64 (en : Int)) rfl (by kernel_rfl) (by kernel_rfl) (by kernel_rfl) (fun _ _ _ h => h) (Or.inl ⟨by rfl, fun V hV => ?_⟩) hS ?_
            · (go_simp)
            try simp only [Act.put, List.setIfInBounds_toArray, List.set_cons_zero, List.set_cons_succ]
            refine wpAnyH_take (i := 5) (oi := ⟨some 66, _, _, _, _, _⟩) (v := Value.string (strOfNums ((y2.1.drop s).take (en - s)))) rfl (by kernel_rfl) (by kernel_rfl) (by kernel_rfl) (fun _ _ _ h => h) (Or.inl ⟨by rfl, fun V hV => ?_⟩) hS ?_
            · (go_simp)
            try simp only [Act.put, List.setIfInBounds_toArray, List.set_cons_zero, List.set_cons_succ]
            refine wpAnyH_take (i := 6) (oi := ⟨some 67, _, _, _, _, _⟩) (v := (Value.func (.func 37) #[] #[.pointer (some ⟨cn, 0, none⟩), .pointer (some ⟨ca, 0, none⟩)])) rfl (by kernel_rfl) (by kernel_rfl) (by kernel_rfl) (fun _ _ _ h => h) (Or.inl ⟨by rfl, fun V hV => ?_⟩) hS ?_
            · (dsimp only at hV; go_simp)
            try simp only [Act.put, List.setIfInBounds_toArray, List.set_cons_zero, List.set_cons_succ]
            refine wpAnyH_take (i := 7) (oi := ⟨some 68, _, _, _, _, _⟩) (v := Value.slice (some ⟨gq, oq, none⟩) nl c2') rfl (by kernel_rfl) (by kernel_rfl) (by kernel_rfl) (fun _ _ _ h => h) (Or.inl ⟨by rfl, fun V hV => ?_⟩) hS ?_
            · (go_simp)
            try simp only [Act.put, List.setIfInBounds_toArray, List.set_cons_zero, List.set_cons_succ]
            refine wpAnyH_take (i := 8) (oi := ⟨some 69, _, _, _, _, _⟩) (v := Value.int .i64 ((A' : Int) + 1)) rfl (by kernel_rfl) (by kernel_rfl) (by kernel_rfl) (fun _ _ _ h => h) (Or.inl ⟨by rfl, fun V hV => ?_⟩) hS ?_
            · (go_simp)
            try simp only [Act.put, List.setIfInBounds_toArray, List.set_cons_zero, List.set_cons_succ]
            refine wpAnyH_take (i := 9) (oi := ⟨some 70, _, _, _, _, _⟩) (v := Value.slice (some ⟨gq, oq, none⟩) (A' + 1) c2') rfl (by kernel_rfl) (by kernel_rfl) (by kernel_rfl) (fun _ _ _ h => h) (Or.inl ⟨by rfl, fun V hV => ?_⟩) hS ?_
            · (go_simp)
            try simp only [Act.put, List.setIfInBounds_toArray, List.set_cons_zero, List.set_cons_succ]
            refine wpAnyH_take (i := 10) (oi := ⟨some 71, _, _, _, _, _⟩) (v := Value.int .i64 (en : Int)) rfl (by kernel_rfl) (by kernel_rfl) (by kernel_rfl) (fun _ _ _ h => h) (Or.inl ⟨by rfl, fun V hV => ?_⟩) hS ?_
            · (go_simp)
            try simp only [Act.put, List.setIfInBounds_toArray, List.set_cons_zero, List.set_cons_succ]
            refine wpAnyH_ready (rs := [1, 11]) (by kernel_rfl) (by simp) ?_
            refine AllReadyH.cons (o := ⟨some 62, _, _, _, _, _⟩) rfl (fun K hK => ?_) (AllReadyH.cons (o := ⟨some 72, _, _, _, _, _⟩) rfl (fun K hK => ?_) AllReadyH.nil)
            go_simp
            refine hK.out _ _ hS (fun hS => ?_)
            clear hK K
            try simp only [Act.put, List.setIfInBounds_toArray, List.set_cons_zero, List.set_cons_succ]
            refine wpAnyH_ready (rs := [11]) (by kernel_rfl) (by simp) (AllReadyH.cons (o := ⟨some 72, _, _, _, _, _⟩) rfl (fun K hK => ?_) AllReadyH.nil)
            rotate_left
            all_goals
              go_simp
              go_at_call 37
              refine CALL.out.mono ?_
              (rintro e W4 ⟨e4, ⟨v4, us4, hu4, p4, o4, r4⟩, c4⟩; rw [← HBB.out] at e4; subst e4; (have xn : ¬ Fp cn v X := fun hf => hf.elim (fun e => D3d.out.ne P3d.out.c e.symm) (fun e => KK.out.2.2.2.2 e)); (have D4 := Lib.hid (D3d.out.chg c4 xn)); have P4 := Lib.hid p4; have O4 := Lib.hid o4; have R4 := Lib.hid (And.intro hu4 r4); (have DO4 := Lib.hid (DrOf.kept P3d.out DO3d.out c4)); (have DBK := Lib.hid (show W4.ownsRow W.heap.size 78 2 (.slice qk5 K1l ck5) K1l (K1.flatMap brCs) from by rw [HK1.out]; exact DO4.out.k)); have C4 := Lib.hid c4; clear y0 y1 y2' y3 p4 o4 r4 hu4 c4; have y0 := P4.out.me.c; have y1 := D4.out.c.2; have y2' := D4.out.f 1; have y3 := D4.out.lt)
              refine hK.out _ _ P4.out.me.c (fun hS => ?_)
              clear hK K
              try simp only [Act.put, List.setIfInBounds_toArray, List.set_cons_zero, List.set_cons_succ]
              refine wpAnyH_take (i := 12) (oi := ⟨some 73, _, _, _, _, _⟩) (v := Value.agg #[.string (strOfNums ((y2.1.drop s).take (en - s))), .int .i64 (bs : Int)]) rfl (by kernel_rfl) (by kernel_rfl) (by kernel_rfl) (fun _ _ _ h => h) (Or.inl ⟨by rfl, fun V hV => ?_⟩) hS ?_
              · (go_simp)
              try simp only [Act.put, List.setIfInBounds_toArray, List.set_cons_zero, List.set_cons_succ]
            refine wpAnyH_ready (rs := [1, 13]) (by kernel_rfl) (by simp) (AllReadyH.cons (o := ⟨some 62, _, _, _, _, _⟩) rfl (fun K hK => ?_) (AllReadyH.cons (o := ⟨some 74, _, _, _, _, _⟩) rfl (fun K hK => ?_) AllReadyH.nil))
            rotate_left
            rotate_left
            refine wpAnyH_ready (rs := [13]) (by kernel_rfl) (by simp) (AllReadyH.cons (o := ⟨some 74, _, _, _, _, _⟩) rfl (fun K hK => ?_) AllReadyH.nil)
            all_goals (go_simp; refine hK.out _ _ (by first | exact hS | exact (P4.out.grown (grown1 _ _)).me.c) (fun hS => ?_); clear hK K; (try simp only [Act.put, List.setIfInBounds_toArray, List.set_cons_zero, List.set_cons_succ]))
            rotate_left
            refine wpAnyH_ready (rs := [13]) (by kernel_rfl) (by simp) (AllReadyH.cons (o := ⟨some 74, _, _, _, _, _⟩) rfl (fun K hK => ?_) AllReadyH.nil)
            rotate_left
            refine wpAnyH_ready (rs := [1]) (by kernel_rfl) (by simp) (AllReadyH.cons (o := ⟨some 62, _, _, _, _, _⟩) rfl (fun K hK => ?_) AllReadyH.nil)
            go_simp
            refine hK.out _ _ hS (fun hS => ?_)
            clear hK K
            try simp only [Act.put, List.setIfInBounds_toArray, List.set_cons_zero, List.set_cons_succ]
            rotate_left
            rotate_left
            go_simp
            refine hK.out _ _ (P4.out.grown (grown1 _ _)).me.c (fun hS => ?_)
            clear hK K
            try simp only [Act.put, List.setIfInBounds_toArray, List.set_cons_zero, List.set_cons_succ]
            all_goals
              refine wpAnyH_ready (rs := [14]) (by kernel_rfl) (by simp) (AllReadyH.cons (o := ⟨some 75, _, _, _, _, _⟩) rfl (fun K hK => ?_) AllReadyH.nil)
              (refine step_append_sta brType (by with_reducible rfl) _ _ (by with_reducible rfl) (.slice qk5 K1l ck5) K1l 1 (K1.flatMap brCs) (by rfl) (own_grown DBK.out (grown1 _ _)) [.string (strOfNums ((y2.1.drop s).take (en - s))), .int .i64 (bs : Int)] rfl W4.heap.size (by rfl) (heap_alloc_new W4 _) (fun u hu => brCs_one ((y2.1.drop s).take (en - s), bs) u hu) (by have := FEWK.out; omega) (by decide) (by have h1 := BLE.out; have h2 := C4.out.size; (try rw [World.size_alloc]); omega) ?_; intro v7 W7 ho7 hg7 hv7; obtain ⟨q70, c70, rfl⟩ := own_slice ho7; clear y0 y1 y2' y3; have DB := DBK.out; (have dn : (Value.slice qk5 K1l ck5).ownBlock ≠ some X := own_ne DB D4.out (by decide)); (have D7 := Lib.hid ((D4.out.grown (grown1 _ _)).kept hg7 dn)); (have P7 := Lib.hid ((P4.out.grown (grown1 _ _)).chg (Chg.of_grown (F := fun g => (Value.slice qk5 K1l ck5).ownBlock = some g) hg7 (fun b e => .inl e)) (own_ne DB P4.out.c (by decide)) (own_ne DB P4.out.me (by decide)) (fun g e1 e2 => (rows_apart (by decide) DB P4.out.row).elim (fun h => by rw [h] at e2; cases e2) (fun h => h (e2.trans e1.symm))))); have y0 := P7.out.me.c; have y1 := D7.out.c.2; have y2' := D7.out.f 1; have y3 := D7.out.lt)
              refine hK.out _ _ P7.out.me.c (fun hS => ?_)
              clear hK K
              try simp only [Act.put, List.setIfInBounds_toArray, List.set_cons_zero, List.set_cons_succ]
              refine wpAnyH_take (i := 15) (oi := ⟨some 76, _, _, _, _, _⟩) (v := Value.pointer (some ⟨X, 1, none⟩)) rfl (by kernel_rfl) (by kernel_rfl) (by kernel_rfl) (fun _ _ _ h => h) (Or.inl ⟨by rfl, fun V hV => ?_⟩) hS ?_
              · (go_simp)
              try simp only [Act.put, List.setIfInBounds_toArray, List.set_cons_zero, List.set_cons_succ]
              refine wpAnyH_ready (rs := [16]) (by kernel_rfl) (by simp) ?_
              refine AllReadyH.cons (o := ⟨none, _, _, _, _, _⟩) rfl (fun K hK => ?_) AllReadyH.nil
              go_simp
              refine hK.out _ _ (P7.out.me.kept (grown_setCell (grown_refl W7 (some X)) _) (fun e => D7.out.ne P7.out.me (by injection e with e; exact e.symm))).c (fun hS => ?_)
              clear hK K
              try simp only [Act.put, List.setIfInBounds_toArray, List.set_cons_zero, List.set_cons_succ]
              refine wpAnyH_done (by kernel_rfl) ?_ _
              refine NoPanic.normal ?_
            all_goals
              have D8 := Lib.hid (D7.out.s1 (.slice q70 (K1l + 1) c70))
              have P8 := Lib.hid (P7.out.chg (Chg.of_grown (F := fun g => g = X) (grown_setCell (i := 1) (grown_refl W7 (some X)) (.slice q70 (K1l + 1) c70)) (fun b e => .inl (by injection e with e; exact e.symm))) (D7.out.ne P7.out.c) (D7.out.ne P7.out.me) (fun g e h => O4.out.elim (fun e1 => KK.out.2.2.2.2 (e1.symm.trans (h ▸ e))) (fun ⟨g1, e1, hg⟩ => by have e2 := e1.symm.trans e; injection e2 with e2; have h1 := D3d.out.lt; omega)))
              obtain ⟨W8, hW8⟩ : ∃ W8, W8 = W7.setCell ⟨X, 1, none⟩ (.slice q70 (K1l + 1) c70) := ⟨_, rfl⟩
              rw [← hW8] at D8 P8 ⊢
              have HW8 := Lib.hid hW8
              clear hW8 y0 y1 y2' y3
              go_wp2
              all_goals
                go_roundw
                case measure => simp only [lenSl]; omega
                case rel =>
                  obtain ⟨hu4, r4⟩ := R4.out
                  have eK : K1l = K1.length := HK1.out
                  have hk1 := HHK.out.1
                  have hn1 := HHK.out.2
                  have hb9 : bs = vs.length + 1 + N1.length := HBB.out.trans HB2.out
                  rw [← hb9] at hk1 hn1
                  rw [HB2.out, ← hb9] at hu4 r4
                  rw [HW8.out]
                  have FIN := AddT.next (k := k) (p := p) (sub := r.2) (nd := ⟨ownN s (y :: l), r.1⟩) (edge := (y2.1.drop s).take (en - s)) (sub4 := plan k ((y2 :: l2).take (A' + 1)) en bs) HNL.out hap.2 hl2 hc2 hf2 hm hap.1 (E3.out.grown (grown_drewN (grown_refl w3 none) 1)) GRR.out.2.2 OK2.out hb9 (by rw [HS.out]; exact hk1) (by rw [HS.out]; exact hn1) KK.out.2.2.1 hu4 KK.out.2.2.2.1 KK.out.2.2.2.2 O4.out (fun i p' nd' h1 h2 => ⟨(DR3.out i p' nd' h1 h2).1.grown (grown_drewN (grown_refl w3 none) 1), by rw [eK]; exact (DR3.out i p' nd' h1 h2).2⟩) r4 (C3.out.trans (Chg.of_grown (grown_drewN (grown_refl w3 none) 1) (fun b e => by cases e))) C4.out P3d.out D3d.out (by rw [eK]; exact DO3d.out) eK hg7 ho7 hv7 D7.out (HW8.out ▸ P8.out) XL.out (Nat.le_trans PP.out.bc (Nat.le_of_lt PP.out.c.lt))
                  first
                    | exact FIN
                    | (rw [if_pos (by omega), show c2' - (A' + 1) = 0 by omega] at FIN; exact FIN)
                    | (rw [if_neg (by omega)] at FIN; exact FIN)
end Go.Proofs.Ytbnnlbdjjpmgeaa


namespace Go.Proofs.Ytbnnlbdjjpmgeaa
open Go.RowKit
variable {w w' : World}
structure PlanO (w w' : World) (nodes : List PN) (e : Ending) : Prop where
  ex : ∃ (v : Value) (us : List (Value × Value)), e = .returned v ∧ us.length = nodes.length ∧ w'.ownsRow w.heap.size 76 2 v us.length (us.flatMap drV) ∧ ∀ (i : Nat) (p : Value × Value) (nd : PN), us[i]? = some p → nodes[i]? = some nd → DrOf w' w.heap.size p nd
  grown : w.grownBy w' none
theorem drs_of {B : Nat} {q : Option Addr} {c n : Nat} {us : List (Value × Value)} {nodes : List PN} (hu : us.length = nodes.length) (hr : w.ownsRow B 76 2 (.slice q n c) n (us.flatMap drV)) (hd : ∀ (i : Nat) (p : Value × Value) (nd : PN), us[i]? = some p → nodes[i]? = some nd → DrOf w B p nd) : DrsAt w q nodes := fun i nd hn => by
  have hi : i < us.length := by rw [hu]; exact (List.getElem?_eq_some_iff.1 hn).1
  obtain ⟨⟨a, b⟩, hp⟩ : ∃ p, us[i]? = some p := ⟨_, List.getElem?_eq_getElem hi⟩
  obtain ⟨g, e, h0⟩ := row_cell (f := drV) (k := 2) (fun _ => rfl) hr hp (j := 0) (by decide)
  obtain ⟨g', e', h1⟩ := row_cell (f := drV) (k := 2) (fun _ => rfl) hr hp (j := 1) (by decide)
  have eg : g' = g := by rw [e] at e'; injection e' with e'; injection e' with e' _ _; exact e'.symm
  subst eg
  have D := hd i (a, b) nd hp hn
  obtain ⟨qf, cf, rfl⟩ := own_slice D.f
  obtain ⟨qb, cb, rfl⟩ := own_slice D.k
  refine ⟨g', 0, qf, cf, qb, cb, e, by rw [Nat.zero_add]; exact h0, by rw [Nat.zero_add]; exact h1, ?_⟩
  first
    | exact ⟨IsBytes.of_own rfl D.f, BrsAt.of D.k⟩
    | exact ⟨BrsAt.of D.k, IsBytes.of_own rfl D.f⟩
set_option maxRecDepth 20000 in
theorem plan_nil {q : Option Addr} {c : Nat} : Calls Try.prog 20 #[.slice q 0 c] w fun e w' => PlanO w w' [] e := by
  go_enter Try.func20, Try.ntmps20
  go_wp2
  go_ret
  exact ⟨⟨_, [], rfl, rfl, World.ownsRow_nil _ _ _ _, fun i p nd h => by simp at h⟩, grown_refl _ _⟩
set_option maxRecDepth 20000 in
set_option maxHeartbeats 1600000 in
theorem plan_any {l : Out} {n c : Nat} {q : Option Addr} (hn : l.length = n) (hfew : n ≤ 5000) (hnc : n ≤ c) (hc : c ≤ 9223372036854775807) (hl : l ≠ []) (hr : Rise [] l) (hok : ∀ y ∈ l, NameOk y.1 ∧ ExOk y.2) (hbig : (plan 257 l 0 0).length ≤ 100000) (hE : ExsAt w q l) (hq : ∀ g o, q = some ⟨g, o, none⟩ → g < w.heap.size) :
    Calls Try.prog 20 #[.slice q n c] w fun e w' => PlanO w w' (plan 257 l 0 0) e := by
  have hn0 : (n : Int) ≠ 0 := by
    have : 0 < l.length := List.length_pos_iff.2 hl
    omega
  have hn1 : n ≠ 0 := by omega
  have dn : decide ((n : Int) = 0) = false := by simp; omega
  have dn2 : ((n : Int) == 0) = false := by simp; omega
  go_enter Try.func20, Try.ntmps20
  go_wp2_with fail
  have hz : (w.alloc (.cells #[.slice none 0 0] 50)).heap.size = w.heap.size + 1 := World.size_alloc _ _
  have g1 := grown1 w (.cells #[.slice none 0 0] 50)
  have o1 := OneAt.new w (.slice none 0 0) 50
  obtain ⟨fv, hfv⟩ : ∃ x, x = Value.func (.func 37) #[] #[.pointer (some ⟨w.heap.size, 0, none⟩), .pointer (some ⟨w.heap.size + 1, 0, none⟩)] := ⟨_, rfl⟩
  have o2 := OneAt.new (w.alloc (.cells #[.slice none 0 0] 50)) fv 73
  have g2 := grown1 (w.alloc (.cells #[.slice none 0 0] 50)) (.cells #[fv] 73)
  rw [hz] at o2
  obtain ⟨W2, hW2⟩ : ∃ W, W = (w.alloc (.cells #[.slice none 0 0] 50)).alloc (.cells #[fv] 73) := ⟨_, rfl⟩
  rw [← hW2] at o2 g2
  have PK : Pk w.heap.size w.heap.size (w.heap.size + 1) W2 (.slice none 0 0) [] := ⟨o1.grown g2, World.ownsRow_nil _ _ _ _, hfv ▸ o2, Nat.le_refl _⟩
  have g02 := grown_trans g1 g2
  have CALL := add_any 257 W2 (.slice none 0 0) [] l [] q n c 0 hn rfl hfew hnc hc hl hr hok (by decide) (by rw [List.length_nil, Nat.zero_add]; exact hbig) ⟨hE.grown g02, hq⟩ PK
  have hs02 := g02.size
  rw [← hfv, ← hW2]
  refine CALL.mono ?_
  rintro e W3 ⟨rfl, ⟨v3, us, hu, p3, -, d3⟩, c3⟩
  have k0 := p3.c.c
  have kl := p3.c.lt
  rw [List.nil_append] at p3
  have g3 : w.grownBy W3 none := by
    have c0 : Chg (fun g => g = w.heap.size) w W3 := (Chg.of_grown g02 (fun b e => by cases e)).trans (c3.mono (fun g h => h.elim (fun e => e) (fun e => by cases e)))
    exact ⟨c0.os, c0.tape, c0.output, c0.size, fun g hg _ => c0.block g hg (by omega)⟩
  clear CALL PK c3
  go_wp2
  go_ret
  exact ⟨⟨v3, us, rfl, hu, p3.row, fun i p nd h1 h2 => (d3 i p nd h1 h2).le hs02⟩, g3⟩
end Go.Proofs.Ytbnnlbdjjpmgeaa


namespace Go.Proofs.Ytbnnlbdjjpmgeaa
open Go.RowKit
theorem planK_seats {rec : Out → Nat → Nat → List PN} {p : List Int} {k : Nat} (hrec : ∀ (l : Out) (q : List Int) (base : Nat), l ≠ [] → Rise q l → (∀ y ∈ l, NameOk y.1 ∧ ExOk y.2) → 256 ≤ k + q.length → 0 < (rec l q.length base).length ∧ ∀ nd ∈ rec l q.length base, ∀ e ∈ nd.kids, e.2 < base + (rec l q.length base).length) (hk : 256 ≤ k + 1 + p.length) :
    ∀ (n : Nat) (l : Out) (base : Nat), RiseL p l → (∀ y ∈ l, NameOk y.1 ∧ ExOk y.2) →
    (∀ e ∈ (planK rec n l p.length base).1, e.2 < base + (planK rec n l p.length base).2.length) ∧ ∀ nd ∈ (planK rec n l p.length base).2, ∀ e ∈ nd.kids, e.2 < base + (planK rec n l p.length base).2.length := by
  intro n
  induction n with
  | zero => intro l base _ _; exact ⟨fun e h => (by cases h), fun nd h => (by cases h)⟩
  | succ n ih =>
    intro l base hr hn
    cases l with
    | nil => exact ⟨fun e h => (by cases h), fun nd h => (by cases h)⟩
    | cons y l =>
      obtain ⟨g1, g2, -, g4⟩ := hr.group
      obtain ⟨-, -, -, s4⟩ := hr.split
      have hap := alike_pos (n := p.length) (y := y) (l := l)
      have hlt : (y.1.take (lcpN y.1 (lastN ((y :: l).take (alikeN p.length (y :: l)))))).length = lcpN y.1 (lastN ((y :: l).take (alikeN p.length (y :: l)))) := by rw [List.length_take]; omega
      have H := hrec ((y :: l).take (alikeN p.length (y :: l))) _ base (by
        intro e
        have h1 := congrArg List.length e
        rw [List.length_take, List.length_nil] at h1
        simp only [List.length_cons] at h1 hap
        omega) g4 (fun z hz => hn z (List.mem_of_mem_take hz)) (by rw [hlt]; omega)
      rw [hlt] at H
      have IH := ih ((y :: l).drop (alikeN p.length (y :: l))) (base + (rec ((y :: l).take (alikeN p.length (y :: l))) (lcpN y.1 (lastN ((y :: l).take (alikeN p.length (y :: l))))) base).length) s4 (fun z hz => hn z (List.mem_of_mem_drop hz))
      unfold planK
      simp only []
      obtain ⟨sub, hsub⟩ : ∃ x, x = rec ((y :: l).take (alikeN p.length (y :: l))) (lcpN y.1 (lastN ((y :: l).take (alikeN p.length (y :: l))))) base := ⟨_, rfl⟩
      rw [← hsub] at H IH ⊢
      obtain ⟨R, hR⟩ : ∃ x, x = planK rec n ((y :: l).drop (alikeN p.length (y :: l))) p.length (base + sub.length) := ⟨_, rfl⟩
      rw [← hR] at IH ⊢
      rw [List.length_append]
      refine ⟨fun e he => ?_, fun nd hnd e he => ?_⟩
      · rcases List.mem_cons.1 he with e1 | he
        · rw [e1]
          have := H.1
          show base < _
          omega
        · have := IH.1 e he
          omega
      · rcases List.mem_append.1 hnd with h | h
        · have := H.2 nd h e he
          omega
        · have := IH.2 nd h e he
          omega
theorem plan_seats : ∀ (k : Nat) (l : Out) (p : List Int) (base : Nat), l ≠ [] → Rise p l → (∀ y ∈ l, NameOk y.1 ∧ ExOk y.2) → 256 ≤ k + p.length →
    0 < (plan k l p.length base).length ∧ ∀ nd ∈ plan k l p.length base, ∀ e ∈ nd.kids, e.2 < base + (plan k l p.length base).length := by
  intro k
  induction k with
  | zero =>
    intro l p base hl hr hok hk
    exfalso
    cases l with
    | nil => exact hl rfl
    | cons y l =>
      obtain ⟨t, e⟩ := hr.pre y (List.mem_cons_self ..)
      have h1 := (hok y (List.mem_cons_self ..)).1.len
      rw [e, List.length_append] at h1
      omega
  | succ k ih =>
    intro l p base hl hr hok hk
    obtain ⟨hrl, hown⟩ := hr.own hl
    have hsub : ∀ y ∈ restN p.length l, y ∈ l := by
      intro y hy
      cases l with
      | nil => exact absurd rfl hl
      | cons z l =>
        have : restN p.length (z :: l) = if z.1.length = p.length then l else z :: l := rfl
        rw [this] at hy
        split at hy
        · exact List.mem_cons_of_mem _ hy
        · exact hy
    have K := planK_seats (rec := plan k) (k := k) (p := p) (fun l q base h1 h2 h3 h4 => ih l q base h1 h2 h3 h4) hk (restN p.length l).length (restN p.length l) (base + 1) hrl (fun y hy => hok y (hsub y hy))
    have e : plan (k + 1) l p.length base = ⟨ownN p.length l, (planK (plan k) (restN p.length l).length (restN p.length l) p.length (base + 1)).1⟩ :: (planK (plan k) (restN p.length l).length (restN p.length l) p.length (base + 1)).2 := rfl
    rw [e, List.length_cons]
    refine ⟨Nat.succ_pos _, fun nd hnd x hx => ?_⟩
    rcases List.mem_cons.1 hnd with h | h
    · subst h
      have := K.1 x hx
      omega
    · have := K.2 nd h x hx
      omega
theorem plan_lay {l : Out} (hl : l ≠ []) (hr : Rise [] l) (hok : ∀ y ∈ l, NameOk y.1 ∧ ExOk y.2) : ∀ nd ∈ plan 257 l 0 0, LayOk (plan 257 l 0 0).length nd := fun nd hnd => by
  have h1 : PnOk nd := plan_ok 257 l [] 0 hl hr hok nd hnd
  have h2 := (plan_seats 257 l [] 0 hl hr hok (by decide)).2 nd hnd
  refine ⟨kids_few h1, fun k hk => ⟨(h1.edge k hk).byt, ?_⟩⟩
  have := h2 k hk
  rw [Nat.zero_add] at this
  exact this
variable {w : World}
theorem settle_plan {l : Out} (hl : l ≠ []) (hr : Rise [] l) (hok : ∀ y ∈ l, NameOk y.1 ∧ ExOk y.2) (hfew : l.length ≤ 4096) {B : Nat} {v : Value} {us : List (Value × Value)} (hu : us.length = (plan 257 l 0 0).length) (hv : w.ownsRow B 76 2 v us.length (us.flatMap drV)) (hd : ∀ (i : Nat) (p : Value × Value) (nd : PN), us[i]? = some p → (plan 257 l 0 0)[i]? = some nd → DrOf w B p nd) :
    Calls Try.prog 19 #[v] w fun e w' => StOut w w' (plan 257 l 0 0) e := by
  obtain ⟨q, c, rfl⟩ := own_slice hv
  have hlen : (plan 257 l 0 0).length ≤ 2 * l.length := plan_len0 256 l 0 hl hr (fun y hy => (hok y hy).1.ne)
  have hro := rounds_ok (nodes := plan 257 l 0 0) (fun nd h => plan_ok 257 l [] 0 hl hr hok nd h) (by omega)
  exact settle_any hu.symm (drs_of hu hv hd) (by rw [hu]; exact plan_lay hl hr hok) (fun t => by have := (hro t).2; omega) (by rw [hu]; omega)
end Go.Proofs.Ytbnnlbdjjpmgeaa


namespace Go.Proofs.Ytbnnlbdjjpmgeaa
open Go.RowKit
variable {w w' W V : World}

set_option maxRecDepth 20000 in
theorem make1_any {y : List Int × Ex} (hn : Byt y.1) (ho : Byt y.2.other) (hl : y.1.length ≤ 9223372036854775807) (hl2 : y.2.other.length ≤ 9223372036854775807) (W : World) :
    Calls Try.prog 13 #[exV (strOfNums y.1) y.2] W fun e w' => e = .returned (.bool (!mayE y.1 y.2)) ∧ W.grownBy w' none := by
  have M := Lib.hid (fun V => May_any hn ho hl hl2 V)
  have g1 := grown1 W (.cells (exArr (strOfNums y.1) y.2) 38)
  have E1 : ExAt (W.alloc (.cells (exArr (strOfNums y.1) y.2) 38)) W.heap.size (strOfNums y.1) y.2 := heap_alloc_new W _
  obtain ⟨w1, hw1⟩ : ∃ w1, W.alloc (.cells (exArr (strOfNums y.1) y.2) 38) = w1 := ⟨_, rfl⟩
  obtain ⟨gx, hg0⟩ : ∃ g, W.heap.size = g := ⟨_, rfl⟩
  rw [hw1] at g1 E1
  rw [hg0] at E1
  have HG := Lib.hid g1
  have HW1 := Lib.hid hw1
  have HG0 := Lib.hid hg0
  obtain ⟨c0, c1, c2, c3, c4, c5, c6⟩ := E1.c
  obtain ⟨b, hb⟩ : ∃ b, b = mayE y.1 y.2 := ⟨_, rfl⟩
  rw [← hb] at M ⊢
  clear E1 g1 hw1 hg0 hn ho hb
  go_enter Try.func13, Try.ntmps13
  simp only [exV, exArr] at HW1 M ⊢
  go_upto_region 1 with fail
  rw [HW1.out, HG0.out]
  clear HW1 HG0
  go_wp2_with fail
  refine (M.out _).mono ?_
  rintro e w2 ⟨rfl, hg⟩
  have G := Lib.hid (grown_trans HG.out hg)
  clear hg
  go_wp2
  go_ret
  exact ⟨rfl, G.out⟩
set_option maxRecDepth 20000 in
theorem may_all (D : Out) (n : Nat) (hn : D.length = n) (hbig : n ≤ 1000000000) (hb : ∀ y ∈ D, Byt y.1 ∧ Byt y.2.other ∧ y.1.length ≤ 9223372036854775807 ∧ y.2.other.length ≤ 9223372036854775807) (q : Option Addr) (c : Nat) (h : ExsAt w q D) :
    Calls Try.prog 12 #[.slice q n c, .func (.func 13) #[] #[]] w fun e w' => e = .returned (.bool (!D.all fun y => mayE y.1 y.2)) ∧ w.grownBy w' none := by
  have IX := Lib.hid (indexEx_any (w := w) (f := 13) (cbs := #[]) (enters_of Try.func13 (by kernel_rfl) rfl) (fun y => !mayE y.1 y.2) D n hn hbig q c h (fun W y _ hy => by
    have := hb y hy
    exact make1_any this.1 this.2.1 this.2.2.1 this.2.2.2 W))
  clear h hb
  go_enter Try.func12, Try.ntmps12
  go_wp2_with fail
  refine IX.out.mono ?_
  rintro e w2 ⟨hres, hg⟩
  have G := Lib.hid hg
  rcases hres with ⟨rfl, hall⟩ | ⟨k, x, hk, rfl, hx, hp, hno⟩
  · have E := Lib.hid (show (!D.all fun y => mayE y.1 y.2) = false by
      rw [Bool.not_eq_false', List.all_eq_true]
      intro y hy
      simpa using hall y hy)
    clear hall hg
    go_wp2
    go_ret
    exact ⟨by rw [E.out]; rfl, G.out⟩
  · have E := Lib.hid (show (!D.all fun y => mayE y.1 y.2) = true by
      rw [Bool.not_eq_true', List.all_eq_false]
      exact ⟨x, List.mem_of_getElem? hx, by simpa using hp⟩)
    clear hx hp hno hg
    go_wp2
    go_ret
    exact ⟨by rw [E.out]; rfl, G.out⟩
end Go.Proofs.Ytbnnlbdjjpmgeaa


namespace Go.Proofs.Ytbnnlbdjjpmgeaa
open Go.RowKit
variable {w w' W V : World}

set_option maxRecDepth 20000 in
set_option maxHeartbeats 3200000 in
theorem make_any {D : Out} {n : Nat} (hn : D.length = n) (hfit : ExsFit D) (hbig : n ≤ 1000000) (hlen : ∀ y ∈ D, y.1.length ≤ 9223372036854775807 ∧ y.2.other.length ≤ 9223372036854775807) {q : Option Addr} {c : Nat} (h : ExsAt w q D) :
    Calls Try.prog 6 #[.slice q n c] w fun e w' => RmO w w' D e := by
  have MA := Lib.hid (may_all (w := w) D n hn (by omega) (fun y hy => ⟨hfit.name y hy, hfit.other y hy, (hlen y hy).1, (hlen y hy).2⟩) q c h)
  have HN := Lib.hid hn
  have HF := Lib.hid hfit
  have HE := Lib.hid h
  clear hn hfit hlen h
  obtain ⟨ma, hma⟩ : ∃ b, b = D.all fun y => mayE y.1 y.2 := ⟨_, rfl⟩
  rw [← hma] at MA
  have HM := Lib.hid hma
  clear hma
  go_enter Try.func6, Try.ntmps6
  go_wp2_with fail
  refine MA.out.mono ?_
  rintro e w1 ⟨rfl, hg1⟩
  have G1 := Lib.hid hg1
  clear hg1 MA
  cases ma
  · have FN := Lib.hid (RmO.no (D := D) (E := 2) (by unfold mkE0 mayAllE; rw [← HM.out]; rfl) (by decide) G1.out)
    go_wp2
    go_ret2
    exact FN.out
  · by_cases h4 : 4096 < n
    · have d4 : decide ((4096 : Int) < (n : Int)) = true := by simp; omega
      have FN := Lib.hid (RmO.no (D := D) (E := 11) (by unfold mkE0 mayAllE; rw [← HM.out, HN.out, if_pos rfl, if_pos h4]) (by decide) G1.out)
      clear h4
      go_wp2
      go_ret2
      exact FN.out
    · have d4 : decide ((4096 : Int) < (n : Int)) = false := by simp; omega
      go_wp2_with fail
      refine (values_any q n c w1).mono ?_
      rintro e w2 ⟨rfl, hb, hg2⟩
      have SF := Lib.hid (sortedFunc_any (w := w2) D n HN.out (by omega) q c w1.heap.size hb.c (HE.out.grown (grown_trans G1.out hg2)))
      have G2 := Lib.hid (grown_trans G1.out hg2)
      clear hb hg2 G1
      go_wp2_with fail
      refine SF.out.mono ?_
      rintro e w3 ⟨⟨R, q3, c3, rfl, hR, ho, hp, hr⟩, hg3⟩
      have hbR : ∀ y ∈ R, Byt y.1 := fun y hy => HF.out.name y (hp.mem_iff.1 hy)
      have TW := Lib.hid (twice_any (w := w3) R n hR (by omega) hbR q3 c3 (RowEx.of ho).exs)
      have O3 := Lib.hid ho
      have G3 := Lib.hid (grown_trans G2.out hg3)
      have HP := Lib.hid (And.intro hR (And.intro hp (And.intro hr hbR)))
      clear ho hg3 SF G2 hp hr hbR hR
      go_wp2_with fail
      refine TW.out.mono ?_
      rintro e w4 ⟨⟨r, rfl, ht, hf⟩, hg4⟩
      have G4 := Lib.hid (grown_trans G3.out hg4)
      have O4 := Lib.hid (own_grown O3.out hg4)
      obtain ⟨hR, hp, hr, hbR⟩ := HP.out
      cases r
      · have hup : Up R := up_of hbR hr (hf rfl)
        have hm0 : mkE0 D = 0 := by
          unfold mkE0 mayAllE
          rw [← HM.out, HN.out, if_pos rfl, if_neg h4, if_pos (hup.apart hp)]
        have ME := Lib.hid hm0
        have hlt : ∀ g o, q3 = some ⟨g, o, none⟩ → g < w4.heap.size := fun g o e => by
          subst e
          exact (O4.out.lt g rfl).2
        have hnc : n ≤ c3 ∧ c3 ≤ 9223372036854775807 := ⟨own_room8 O4.out, own_max O4.out⟩
        by_cases hD : D = []
        · subst hD
          have hn0 : n = 0 := by rw [← HN.out]; rfl
          subst hn0
          have PL := Lib.hid (plan_nil (w := w4) (q := q3) (c := c3))
          have FX := Lib.hid (show ∀ B : List Int, B = [] → MkIs [] 0 B from fun B e => by subst e; exact mkIs_nil)
          clear hR hp hr hbR hup hm0 hlt hnc ht hf hg4 TW O3 G3
          go_wp2_with fail
          refine PL.out.mono ?_
          rintro e w5 ⟨⟨v, us, rfl, hu, ho5, hd5⟩, hg5⟩
          obtain ⟨q5, c5, rfl⟩ := own_slice ho5
          have hu0 : us.length = 0 := hu
          have SE := Lib.hid (settle_any (w := w5) (nodes := []) (n := us.length) hu0.symm (q := q5) (c := c5) (fun i nd h => by simp at h) (fun nd h => by cases h) (fun t => by
            have : layB (roundsN [] t) [] = [] := rfl
            rw [this]; decide) (by omega))
          have G5 := Lib.hid (grown_trans G4.out hg5)
          clear ho5 hd5 hg5 hu
          rw [hu0] at SE ⊢
          clear hu0
          go_wp2_with fail
          refine SE.out.mono ?_
          rintro e w6 ⟨⟨t, q6, c6, -, rfl, ho6⟩, hg6⟩
          have e0 : layB (roundsN [] t) [] = [] := rfl
          rw [e0] at ho6 ⊢
          have O6 := Lib.hid (own_low ho6 (grown_trans G5.out (grown_refl _ _)).size)
          have G6 := Lib.hid (grown_trans G5.out hg6)
          clear ho6 hg6 SE e0
          simp only [List.length_nil]
          go_wp2
          go_ret2
          exact ⟨⟨0, [], q6, c6, rfl, FX.out [] rfl, O6.out⟩, G6.out⟩
        · have hRn : R ≠ [] := fun e => hD (by subst e; exact hp.symm.eq_nil)
          have hok := HF.out.ok (show mayAllE D = true by unfold mayAllE; rw [← HM.out])
          have hokR : ∀ y ∈ R, NameOk y.1 ∧ ExOk y.2 := fun y hy => hok y (hp.mem_iff.1 hy)
          have hpl : (plan 257 R 0 0).length ≤ 2 * R.length := plan_len0 256 R 0 hRn hup.rise (fun y hy => (hokR y hy).1.ne)
          have PL := Lib.hid (plan_any (w := w4) (l := R) (n := n) (c := c3) (q := q3) hR (by omega) hnc.1 hnc.2 hRn hup.rise hokR (by omega) ((RowEx.of O4.out).exs) hlt)
          have MX := Lib.hid (show ∀ t, roundsN (plan 257 R 0 0) (t + 1) = roundsN (plan 257 R 0 0) t → ∀ E B, (1048576 < (lastB R t).length → E = 11 ∧ B = []) → ((lastB R t).length ≤ 1048576 → E = 0 ∧ B = lastB R t) → MkIs D E B from fun t hfx E B a b => ⟨fun h => absurd ME.out h, fun h => absurd h hD, fun _ _ => ⟨R, t, hp, hup, hfx, a, b⟩⟩)
          have ST := Lib.hid (fun (V : World) {v : Value} {us : List (Value × Value)} (hu : us.length = (plan 257 R 0 0).length) (hv : V.ownsRow w4.heap.size 76 2 v us.length (us.flatMap drV)) (hd : ∀ (i : Nat) (p : Value × Value) (nd : PN), us[i]? = some p → (plan 257 R 0 0)[i]? = some nd → DrOf V w4.heap.size p nd) =>
            settle_plan (w := V) hRn hup.rise hokR (by omega) hu hv hd)
          have LB := Lib.hid (show ∀ t, layB (roundsN (plan 257 R 0 0) t) (plan 257 R 0 0) = lastB R t from fun t => rfl)
          have RB := Lib.hid (show ∀ t, (lastB R t).length ≤ 1099511627776 from fun t => by
            have hro := rounds_ok (nodes := plan 257 R 0 0) (fun nd h => plan_ok 257 R [] 0 hRn hup.rise hokR nd h) (by omega)
            have := (hro t).2
            unfold lastB
            omega)
          clear hR hp hr hbR hup hm0 hlt hnc ht hf hg4 TW O3 G3 hRn hok hokR hpl hD
          obtain ⟨nodes, hnd⟩ : ∃ x, x = plan 257 R 0 0 := ⟨_, rfl⟩
          rw [← hnd] at PL MX ST LB
          clear hnd
          go_wp2_with fail
          refine PL.out.mono ?_
          rintro e w5 ⟨⟨v, us, rfl, hu, ho5, hd5⟩, hg5⟩
          have S5 := Lib.hid (ST.out w5 hu ho5 hd5)
          have G5 := Lib.hid (grown_trans G4.out hg5)
          clear ho5 hd5 hg5 hu ST PL
          go_wp2_with fail
          refine S5.out.mono ?_
          rintro e w6 ⟨⟨t, q6, c6, hfx, rfl, ho6⟩, hg6⟩
          rw [LB.out t] at ho6 ⊢
          have M6 := Lib.hid (MX.out t hfx)
          have O6 := Lib.hid (own_low ho6 G5.out.size)
          have G6 := Lib.hid (grown_trans G5.out hg6)
          have hbl := RB.out t
          clear ho6 hg6 S5 hfx
          obtain ⟨B, hB⟩ : ∃ B, B = lastB R t := ⟨_, rfl⟩
          rw [← hB] at M6 O6 hbl ⊢
          clear hB
          obtain ⟨nb, hnb⟩ : ∃ k, k = B.length := ⟨_, rfl⟩
          by_cases hl : 1048576 < nb
          · have dl : decide ((1048576 : Int) < (nb : Int)) = true := by simp; omega
            have FN := Lib.hid (show RmO w w6 D (.returned (.tuple #[.slice none 0 0, .int .i64 11])) from ⟨⟨11, [], none, 0, rfl, M6.out 11 [] (fun _ => ⟨rfl, rfl⟩) (fun h => by omega), World.ownsRow_nil _ _ _ _⟩, G6.out⟩)
            rw [← hnb] at hbl ⊢
            clear hnb hl
            go_wp2
            go_ret2
            exact FN.out
          · have dl : decide ((1048576 : Int) < (nb : Int)) = false := by simp; omega
            have FN := Lib.hid (show RmO w w6 D (.returned (.tuple #[.slice q6 nb c6, .int .i64 0])) from ⟨⟨0, B, q6, c6, by rw [hnb], M6.out 0 B (fun h => by omega) (fun _ => ⟨rfl, rfl⟩), O6.out⟩, G6.out⟩)
            rw [← hnb] at hbl ⊢
            clear hnb hl
            go_wp2
            go_ret2
            exact FN.out
      · have FN := Lib.hid (RmO.no (D := D) (E := 21) (by
          obtain ⟨j, a, b, h1, h2, h3⟩ := ht rfl
          unfold mkE0 mayAllE
          rw [← HM.out, HN.out, if_pos rfl, if_neg h4, if_neg (dup_no hp h1 h2 h3)]) (by decide) G4.out)
        clear hR hp hr hbR ht hf hg4 TW O3 G3
        go_wp2
        go_ret2
        exact FN.out
end Go.Proofs.Ytbnnlbdjjpmgeaa


namespace Go.Proofs.Ytbnnlbdjjpmgeaa
theorem byt_app {a b : List Int} (h : Byt a) (k : Byt b) : Byt (a ++ b) := fun x hx => by
  rcases List.mem_append.1 hx with e | e
  · exact h x e
  · exact k x e
theorem byt_enc (n : Nat) : Byt (encU n) := encU_bytes n
theorem byt_one {x : Int} (h : 0 ≤ x ∧ x < 256) : Byt [x] := fun y hy => by rw [List.mem_singleton] at hy; subst hy; exact h
theorem byt_said {x : Ex} (h : Byt x.other) : Byt (saidB x) := by
  unfold saidB
  refine byt_app (byt_enc _) ?_
  split
  · exact byt_app (byt_enc _) (byt_app h (byt_one (by decide)))
  · split
    · exact byt_app (byt_enc _) (byt_enc _)
    · exact byt_enc _
theorem byt_front {x : Option Ex} (h : ∀ y, x = some y → Byt y.other) : Byt (frontB x) := by
  cases x with
  | none => exact byt_one (by decide)
  | some y => exact byt_app (byt_enc _) (byt_said (h y rfl))
theorem byt_node {nd : PN} {pl : List Nat} (h : PnOk nd) : Byt (nodeB pl nd) := by
  unfold nodeB
  refine byt_app (byt_front fun y hy => (h.says y hy).other) (byt_app (byt_one (by have := kids_few h; omega)) ?_)
  intro z hz
  obtain ⟨k, hk, hz⟩ := List.mem_flatMap.1 hz
  unfold kidB at hz
  exact byt_app (byt_app (h.edge k hk).byt (byt_one (by decide))) (byt_enc _) z hz
theorem byt_lay {nodes : List PN} {pl : List Nat} (h : ∀ nd ∈ nodes, PnOk nd) : Byt (layB pl nodes) := by
  intro z hz
  obtain ⟨nd, hn, hz⟩ := List.mem_flatMap.1 hz
  exact byt_node (h nd hn) z hz
theorem byt_made {D : Out} {E : Int} {B : List Int} (h : MkIs D E B) (f : ExsFit D) : Byt B := by
  by_cases h0 : mkE0 D = 0
  · by_cases hn : D = []
    · rw [(h.nil hn).2]; intro x hx; cases hx
    · obtain ⟨R, t, p, u, _, a, b⟩ := h.yes h0 hn
      obtain ⟨m1, m2, m3⟩ := mkE0_0 h0
      rcases Nat.lt_or_ge 1048576 (lastB R t).length with hl | hl
      · rw [(a hl).2]; intro x hx; cases hx
      · rw [(b hl).2]
        have hok := f.ok m1
        have hR : R ≠ [] := fun e => hn (by subst e; exact p.symm.eq_nil)
        exact byt_lay (plan_ok 257 R [] 0 hR u.rise fun y hy => hok y (p.mem_iff.1 hy))
  · rw [(h.no h0).2]; intro x hx; cases hx
end Go.Proofs.Ytbnnlbdjjpmgeaa


namespace Go.Proofs.Ytbnnlbdjjpmgeaa
open Go.RowKit
variable {w w' W V : World} {xs : List Int}

def fewB (nm : List Int) (x : Ex) : Bool := decide (nm.length ≤ 400) && decide (x.other.length ≤ 400)
end Go.Proofs.Ytbnnlbdjjpmgeaa


namespace Go.Proofs.Ytbnnlbdjjpmgeaa
open Go.RowKit
variable {w w' W V : World}

set_option maxRecDepth 20000 in
set_option maxHeartbeats 1600000 in
theorem few_any (D : Out) (n m : Nat) (hn : D.length = n) (hbig : n ≤ 9223372036854775807) (q : Option Addr) (c : Nat) (h : ExsAt w q D) :
    Calls Try.prog 4 #[.slice q n c, .int .i64 m] w fun e w' => e = .returned (.bool ((D.all fun y => fewB y.1 y.2) && decide (n ≤ m))) ∧ w' = w := by
  subst hn
  have HH := Lib.hid h
  clear h
  go_enter Try.func4, Try.ntmps4
  go_wp2
  go_loop [5] (fun vi => ∃ i : Nat, i ≤ D.length ∧ vi = .int .i64 i ∧ Hid (∀ j y, j < i → D[j]? = some y → fewB y.1 y.2 = true)) (fun vi => D.length - (intOf vi).toNat)
  case atStart => exact ⟨0, Nat.zero_le _, rfl, Lib.hid (fun j y h => by omega)⟩
  case round =>
    obtain ⟨i, hi, rfl, NO⟩ := hrel
    by_cases hlt : i < D.length
    · obtain ⟨y, hy⟩ : ∃ y, D[i]? = some y := ⟨_, List.getElem?_eq_getElem hlt⟩
      obtain ⟨g, o, rfl, c0, c1, c2, c3, c4, c5, c6⟩ := HH.out.at hy
      have dl : decide ((i : Int) < (D.length : Int)) = true := by simp; omega
      have hil : (i : Int) < (D.length : Int) := by omega
      have s1 : (strOfNums y.1).size = y.1.length := strOfNums_size _
      have s2 : (strOfNums y.2.other).size = y.2.other.length := strOfNums_size _
      have HY := Lib.hid hy
      clear hy
      have BAD := Lib.hid (fun (hb : fewB y.1 y.2 = false) => (show ((D.all fun y => fewB y.1 y.2) && decide (D.length ≤ m)) = false by
        have : (D.all fun y => fewB y.1 y.2) = false := by
          rw [List.all_eq_false]
          exact ⟨y, List.mem_of_getElem? HY.out, by rw [hb]; simp⟩
        rw [this]; rfl))
      by_cases h1 : y.1.length ≤ 400
      · have d1 : decide ((400 : Int) < (y.1.length : Int)) = false := by simp; omega
        by_cases h2 : y.2.other.length ≤ 400
        · have d2 : decide ((400 : Int) < (y.2.other.length : Int)) = false := by simp; omega
          have hf : fewB y.1 y.2 = true := by simp [fewB, h1, h2]
          have NO2 := Lib.hid (show ∀ j x, j < i + 1 → D[j]? = some x → fewB x.1 x.2 = true from fun j x hj hx => by
            rcases Nat.lt_or_ge j i with h | h
            · exact NO.out j x h hx
            · obtain rfl : j = i := by omega
              rw [HY.out] at hx
              injection hx with hx
              rw [← hx]; exact hf)
          clear NO BAD hf
          go_wp2
          go_round
          case rel => exact ⟨i + 1, hlt, by go_num, Lib.hid NO2.out⟩
          case measure => simp [intOf]; omega
        · have d2 : decide ((400 : Int) < (y.2.other.length : Int)) = true := by simp; omega
          have B := Lib.hid (BAD.out (by simp [fewB, h2]))
          clear NO BAD
          go_wp2
          go_ret
          exact ⟨by rw [B.out]; rfl, rfl⟩
      · have d1 : decide ((400 : Int) < (y.1.length : Int)) = true := by simp; omega
        have B := Lib.hid (BAD.out (by simp [fewB, h1]))
        clear NO BAD
        go_wp2
        go_ret
        exact ⟨by rw [B.out]; rfl, rfl⟩
    · have dl : decide ((i : Int) < (D.length : Int)) = false := by simp; omega
      have dl2 : decide (i < D.length) = false := by simp; omega
      have E := Lib.hid (show ((D.all fun y => fewB y.1 y.2) && decide (D.length ≤ m)) = decide ((D.length : Int) ≤ (m : Int)) by
        have : (D.all fun y => fewB y.1 y.2) = true := by
          rw [List.all_eq_true]
          intro y hy
          obtain ⟨j, hj, rfl⟩ := List.getElem_of_mem hy
          exact NO.out j _ (by omega) (List.getElem?_eq_getElem hj)
        rw [this, Bool.true_and]
        by_cases h : D.length ≤ m
        · rw [decide_eq_true h, decide_eq_true (by omega)]
        · rw [decide_eq_false h, decide_eq_false (by omega)])
      clear NO hlt
      obtain ⟨b, hb⟩ : ∃ b, b = decide ((D.length : Int) ≤ (m : Int)) := ⟨_, rfl⟩
      rw [← hb] at E
      have hb2 := hb.symm
      go_wp2
      go_ret
      exact ⟨by rw [E.out, hb]; first | rfl | simp, rfl⟩
end Go.Proofs.Ytbnnlbdjjpmgeaa

