/- Parts of the proof, put together: TrE. No condition beyond those that each part names. -/
import Derived.Shelf.Small.Bits
import Derived.Shelf.Small.Strs
import Derived.Shelf.Strconv.Itoa0
import Derived.Shelf.Strings.Search1
import Derived.Shelf.Bytes.SlIndexAt
import Derived.Shelf.Bytes.SlSearch0
import Derived.Ground.SlbCloneProg
import Derived.Shelf.Bytes.SlClone
import Derived.Shelf.Bytes.IndexByte
import Derived.Test.YtbnnlbdjjpmgeaaGreatProg
import Derived.Test.YtbnnlbdjjpmgeaaGreatRows
import Derived.WalkKit
import Derived.WalkSpells
import Derived.WalkLawsBesides
import Derived.BigQuiet
import Derived.Deep.QuietTactic
import Derived.Lib.Hide
import Derived.IntWalk
import Derived.OneCell
import Derived.Laws.Rows
import Derived.OpenShut
import Derived.ProofKit
import Derived.Lib.EndianBits
import Derived.RegionTactic
import Derived.ChangeAlike
import Derived.WalkMore
import Derived.Laws.BytesArg
import Derived.Shelf.Bytes.SlEqualAll
import Derived.Lib.SlFresh
import Derived.Maps.AppendAt
import Derived.Deep.AppendSrc
import Derived.Deep.Upon
import Derived.Lib.AppendZeros
import Derived.Laws.IdiomStrings
import Derived.Lib.AppendZerosOnto
import Derived.Laws.StructEq
import Derived.Below
import Derived.Shelf.Abstract
import Derived.Laws.ResultCell
import Derived.Deep.Slices
import Derived.ChangeSame
import Derived.Laws.OwnMore
import Derived.Laws.Slices
import Derived.Lib.ConvBytes
import Derived.StringKeys
import Derived.Maps.Own
import Derived.Maps.OwnOps
import Derived.Maps.OwnSet
import Derived.WideShapes
import Derived.Deep.Cut
import Derived.Deep.CutRange
import Derived.PlainAid
import Derived.Lib.SlBytesRow
import Derived.Deep.Onto
import Derived.Laws.EntriesVeiled
import Derived.Shelf.SlSortCmp.WholeK
import Derived.Shelf.SlGeneric
import Derived.Ground.SlsfProg
import Derived.Deep.LoopGhost
import Derived.StillTailTactics
import Derived.Deep.RegionWith
import Derived.Deep.RegionHeld3
import Derived.Test.YtbnnlbdjjpmgeaaGreatPT3
import Derived.Test.YtbnnlbdjjpmgeaaGreatPT5
namespace Go.Proofs.YtbnnlbdjjpmgeaaGreat
open Go.RowKit Go.PlainAid
variable {w w' W V : World} {b o c : Nat} {xs : List Int} {s s' : Cs}

def KidRIn (w : World) (g : Nat) (k : Kid) : Prop := w.heap[g]? = some (.cells #[.string (strOfNums k.1), .int .i64 k.2] 151 (0, 0))
section
variable {g : Nat} {k : Kid}
theorem KidRIn.kept {r : Option Nat} (h : KidRIn w g k) (hg : w.grownBy w' r) (hr : r ≠ some g) : KidRIn w' g k := (hg.block g (lt_of_block h) (fun e => hr e.symm)).trans h
theorem KidRIn.lt (h : KidRIn w g k) : g < w.heap.size := lt_of_block h
theorem KidRIn.fz (h : KidRIn w g k) (i : Nat) : w.frozen? ⟨g, i, none⟩ = false := free_of h
theorem KidRIn.c0 (h : KidRIn w g k) : w.cell? ⟨g, 0, none⟩ = some (.string (strOfNums k.1)) := by rw [cell_of h]; rfl
theorem KidRIn.c1 (h : KidRIn w g k) : w.cell? ⟨g, 1, none⟩ = some (.int .i64 k.2) := by rw [cell_of h]; rfl
theorem KidRIn.place (h : KidRIn w g k) (n : Int) : KidRIn (w.setCell ⟨g, 1, none⟩ (.int .i64 n)) g (k.1, n) := by unfold KidRIn; rw [heap_setCell_same w g 1 _ _ _ h]; rfl
end
theorem own_roomE {T : TypeId} {k n c base : Nat} {q : Option Addr} {ys : List Value} (h : W.ownsRow base T k (.slice q n c) n ys) : n ≤ c := by
  rcases h.2 with ⟨hv, hn⟩ | ⟨g, cp, cur, hv, _, _, hle, _⟩
  · omega
  · injection hv with _ _ e; omega
theorem own_maxE {T : TypeId} {k n c base : Nat} {q : Option Addr} {ys : List Value} (h : W.ownsRow base T k (.slice q n c) n ys) : c ≤ 9223372036854775807 := by
  rcases h.2 with ⟨hv, hn⟩ | ⟨g, cp, cur, hv, _, _, hle, hm, _⟩
  · injection hv with _ _ e; omega
  · injection hv with _ _ e; unfold maxLen at hm; omega
theorem join {P : Prop} {G Facts : Nat → World → Ex → Bool → Prop} (main : (∀ g W x r, Facts g W x r → G g W x r) → P) (rest : ∀ g W x r, Facts g W x r → G g W x r) : P := main rest
theorem sim_none {α : Type} {f : Ps α} {v : α} (h : Sim f xs s v s') (hs : s.2 = false) (hb : s'.2 = true) : f (xs.drop s.1) = none := h.no hs hb
set_option maxRecDepth 20000 in
set_option maxHeartbeats 12000000 in
theorem read9_any (hx : ∀ i, i < xs.length → w.cell? ⟨b, o + i, none⟩ = some (.int .u8 (xs.getD i 0))) (hc : xs.length ≤ c) (hcm : c ≤ 9223372036854775807) (hb : b < w.heap.size) (hbig : xs.length ≤ 140737488355328) (hr : Byt xs) (p : Nat) (hp : p < xs.length) :
    Calls Tryz.prog 72 #[.slice (some ⟨b, o, none⟩) xs.length c, .int .i64 p] w fun e w' => RdOut w w' xs p e := by
  have g1 := grown1 w (.cells #[.bool false, .string ⟨#[]⟩, .int .i64 0, .bool false, .int .u64 0, .int .u64 0, .int .u64 0, .string ⟨#[]⟩, .slice none 0 0] 147)
  have r1 : NodeR (w.alloc (.cells #[.bool false, .string ⟨#[]⟩, .int .i64 0, .bool false, .int .u64 0, .int .u64 0, .int .u64 0, .string ⟨#[]⟩, .slice none 0 0] 147)) w.heap.size false ⟨#[]⟩ Ex.zero (.slice none 0 0) := heap_alloc_new w _
  obtain ⟨w1, hw1⟩ : ∃ w1, w.alloc (.cells #[.bool false, .string ⟨#[]⟩, .int .i64 0, .bool false, .int .u64 0, .int .u64 0, .int .u64 0, .string ⟨#[]⟩, .slice none 0 0] 147) = w1 := ⟨_, rfl⟩
  obtain ⟨g0, hg0⟩ : ∃ g0, w.heap.size = g0 := ⟨_, rfl⟩
  rw [hw1] at g1 r1
  rw [hg0] at r1
  have g2 := grown1 w1 (.cells #[.bool false, .string ⟨#[]⟩, .int .i64 0, .bool false, .int .u64 0, .int .u64 0, .int .u64 0, .string ⟨#[]⟩, .slice none 0 0] 147)
  have r2 : NodeR (w1.alloc (.cells #[.bool false, .string ⟨#[]⟩, .int .i64 0, .bool false, .int .u64 0, .int .u64 0, .int .u64 0, .string ⟨#[]⟩, .slice none 0 0] 147)) w1.heap.size false ⟨#[]⟩ Ex.zero (.slice none 0 0) := heap_alloc_new w1 _
  obtain ⟨w2, hw2⟩ : ∃ w2, w1.alloc (.cells #[.bool false, .string ⟨#[]⟩, .int .i64 0, .bool false, .int .u64 0, .int .u64 0, .int .u64 0, .string ⟨#[]⟩, .slice none 0 0] 147) = w2 := ⟨_, rfl⟩
  obtain ⟨gx, hgx⟩ : ∃ gx, w1.heap.size = gx := ⟨_, rfl⟩
  have l1 := r1.lt
  rw [hw2] at g2 r2
  rw [hgx] at r2 l1
  have g3 := grown1 w2 (.cells #[.slice (some ⟨b, o, none⟩) xs.length c, .int .i64 p, .bool false] 203)
  have l2 := r2.lt
  have T3 := Lib.hid (show RrI w (w2.alloc (.cells #[.slice (some ⟨b, o, none⟩) xs.length c, .int .i64 p, .bool false] 203)) w2.heap.size b o c xs (p, false) g0 gx none [] (.slice none 0 0) from
    ⟨⟨heap_alloc_new w2 _, fun i hi => grown_cell g3 (grown_cell g2 (grown_cell g1 (hx i hi))), hc, hcm, Nat.le_of_lt hp, hbig, hr, by have := (grown_trans g1 g2).size; omega⟩, (r1.kept g2 (by simp)).kept g3 (by simp), r2.kept g3 (by simp), World.ownsRow_nil _ _ _ _, fun k hk => (by cases hk), grown_trans (grown_trans g1 g2) g3, (grown_trans g1 g2).size, by omega, by have := g1.size; omega, by omega, by omega, by omega, hb⟩)
  obtain ⟨w3, hw3⟩ : ∃ w3, w2.alloc (.cells #[.slice (some ⟨b, o, none⟩) xs.length c, .int .i64 p, .bool false] 203) = w3 := ⟨_, rfl⟩
  obtain ⟨gc, hgc⟩ : ∃ gc, w2.heap.size = gc := ⟨_, rfl⟩
  rw [hw3, hgc] at T3
  have HW := Lib.hid (And.intro hw1 (And.intro hg0 (And.intro hw2 (And.intro hgx (And.intro hw3 hgc)))))
  have HR := Lib.hid hr
  have S0 := Lib.hid (simR_ul xs (p, false))
  have B0 := Lib.hid (ulR_bd (xs := xs) (s := (p, false)))
  have hl1 := ulR_le (xs := xs) (s := (p, false)) (Nat.le_of_lt hp)
  clear g1 r1 g2 r2 g3 l1 l2 hw1 hg0 hw2 hgx hw3 hgc hr hx
  go_enter Tryz.func72, Tryz.ntmps72
  go_upto_region 1 with fail
  rw [HW.out.1, HW.out.2.1]
  go_upto_region 2 with fail
  rw [HW.out.2.2.1, HW.out.2.2.2.1]
  go_upto_region 3 with fail
  rw [HW.out.2.2.2.2.1, HW.out.2.2.2.2.2]
  clear HW
  go_wp2_with fail
  refine (number9_any T3.out.rd).mono ?_
  rintro e w4 ⟨rfl, hp4, hg4⟩
  have T4 := Lib.hid (T3.out.call hp4 hg4)
  clear hp4 hg4 T3
  obtain ⟨Z, hZ⟩ : ∃ Z : Nat, (Z : Int) = (ulR xs (p, false)).1 := ⟨((ulR xs (p, false)).1).toNat, by have := B0.out; omega⟩
  obtain ⟨s1, hs1⟩ : ∃ z, z = (ulR xs (p, false)).2 := ⟨_, rfl⟩
  rw [← hZ, ← hs1] at S0
  rw [← hs1] at T4 hl1
  rw [← hZ] at B0 ⊢
  clear hZ hs1
  obtain ⟨p1, bad1⟩ := s1
  simp only [] at hl1
  have i0 := T4.out.rd.c0
  have i1 := T4.out.rd.c1
  have i2 := T4.out.rd.c2
  have iz := B0.out.2
  simp only [] at i1 i2
  cases bad1 with
  | true =>
    have NN := Lib.hid (show ndAt xs p = none from ndAt_no (sim_none (Sim.B S0.out (Sim.bad (v := (⟨none, []⟩ : Nd)) (Nat.le_refl _) rfl (fun h => by cases h))) rfl rfl))
    have FN := Lib.hid (T4.out.fin NN.out)
    obtain ⟨d0, d1, d2, d3, d4, d5, d6, d7, d8⟩ := T4.out.res.c
    have df := T4.out.res.fz
    have dl := T4.out.res.lt
    go_wp2_with fail
    refine bodyPost_ret (results_nodeR2 rfl rfl rfl FN.out.1) rfl ?_
    exact FN.out.2
  | false =>
    have hu : IntKind.u64.wrap ((xs.length : Int) - (p1 : Int)) = (xs.length : Int) - (p1 : Int) := by rw [IntKind.wrap_u64]; omega
    by_cases hbz : xs.length - p1 < Z
    · have dz : decide ((xs.length : Int) - (p1 : Int) < (Z : Int)) = true := by simp; omega
      have NX := Lib.hid (show nodeP (xs.drop p) = none by
        have e := exP_big (Z := Z) (l := xs.drop p1) (by rw [List.length_drop]; omega)
        exact sim_none (s := (p, false)) (Sim.B S0.out (Sim.B (Sim.bad (s := (p1, false)) (s1 := (p1, true)) (v := none) (Nat.le_refl _) rfl (fun _ => e)) (Sim.bad (v := (⟨none, []⟩ : Nd)) (Nat.le_refl _) rfl (fun h => by cases h)))) rfl rfl)
      clear hbz
      have NN := Lib.hid (show ndAt xs p = none from ndAt_no (NX.out))
      have FN := Lib.hid (T4.out.fin NN.out)
      obtain ⟨d0, d1, d2, d3, d4, d5, d6, d7, d8⟩ := T4.out.res.c
      have df := T4.out.res.fz
      have dl := T4.out.res.lt
      go_wp2_with fail
      refine bodyPost_ret (results_nodeR2 rfl rfl rfl FN.out.1) rfl ?_
      exact FN.out.2
    · have dz : decide ((xs.length : Int) - (p1 : Int) < (Z : Int)) = false := by simp; omega
      have hZn : p1 + Z ≤ xs.length := by omega
      clear hbz
      by_cases hz0 : 0 < Z
      · obtain ⟨Y, hY⟩ : ∃ Y, Y = (xs.drop p1).take Z := ⟨_, rfl⟩
        have hYl : Y.length = Z := by rw [hY, List.length_take, List.length_drop]; omega
        have SY := Lib.hid (fun (V : World) (hV : w4.grownBy V none) => (says_any (w := V) (b := b) (o := o + p1) (c := c - p1) (xs := Y) (fun i hi => by
          rw [hYl] at hi
          rw [Nat.add_assoc, grown_cell hV (T4.out.rd.cell (p1 + i) (by omega)), hY]
          simp [List.getD, hi, List.getElem?_drop]) (by omega) (by omega) (Nat.lt_of_lt_of_le T4.out.old (Nat.le_trans T4.out.grown.size hV.size)) (by omega) (by rw [hY]; exact (HR.out.drop _).take _)))
        rw [hYl] at SY
        have dzp : decide ((0 : Int) < (Z : Int)) = true := by simp; omega
        have dzn : decide (0 < Z) = true := by simp; omega
        have DZN := Lib.hid dzn
        have hcp : ¬ c = p1 := by omega
        obtain ⟨E, hE⟩ : ∃ E : Nat, (p1 : Int) + (Z : Int) = (E : Int) := ⟨p1 + Z, by omega⟩
        have hV : ∀ W, (Instr.slice 29 (.slice (some ⟨b, o, none⟩) xs.length c) (some (.int .i64 (p1 : Int))) (some (.int .i64 (E : Int))) none).run Tryz.prog W = .ok (.slice (some ⟨b, o + p1, none⟩) Z (c - p1)) W := fun W => by
          rw [run_slice_lh (P := Tryz.prog) W 29 (some ⟨b, o, none⟩) xs.length c (by kernel_rfl) .i64 .i64 (p1 : Int) (E : Int) (by omega) (by omega) (by omega)]
          have hs : ((sizeOf (Tryz.prog.elem 29)).run Tryz.prog W) = .ok 1 W := by kernel_rfl
          rw [hs]
          simp only [Result.andThen, sliced]
          rw [if_neg (by omega), show ((E : Int)).toNat - ((p1 : Int)).toNat = Z by omega, show ((p1 : Int)).toNat = p1 by omega]
          simp only [Option.map_some, add_flat, Nat.mul_one]
        have hwz : IntKind.i64.wrap (Z : Int) = (Z : Int) := IntWalk.i64_in _ (by omega)
        have hwE : IntKind.i64.wrap ((p1 : Int) + (Z : Int)) = (E : Int) := by rw [hE]; exact IntWalk.i64_in _ (by omega)
        have KEEP := Lib.hid (And.intro hc (And.intro hcm (And.intro hbig (And.intro hp (And.intro hl1 (And.intro hE (show p1 + Z ≤ xs.length from hZn)))))))
        have HYH := Lib.hid (And.intro hY hYl)
        clear hY hYl hz0 hcp hZn
        go_upto_region 7 with fail
        clear hc hcm hbig hp hl1 hE iz hu dz dzp dzn i2 hb
        have GD1 := Lib.hid (show w4.grownBy w4.drew none from grown_drewN (grown_refl _ _) 1)
        have GD2 := Lib.hid (show w4.grownBy (w4.alloc (.cells #[.string ⟨#[]⟩, .int .i64 0, .bool false, .int .u64 0, .int .u64 0, .int .u64 0, .string ⟨#[]⟩] 28)).drew none from grown_drewN (grown1 _ _) 1)
        have X2 := Lib.hid (show ExAt (w4.alloc (.cells #[.string ⟨#[]⟩, .int .i64 0, .bool false, .int .u64 0, .int .u64 0, .int .u64 0, .string ⟨#[]⟩] 28)).drew w4.heap.size ⟨#[]⟩ Ex.zero from heap_alloc_new w4 _)
        have NGC := Lib.hid (show gc ≠ w4.heap.size from fun e => by have := T4.out.rd.lt; omega)
        have SY2 := Lib.hid ((SY.out _ GD2.out).mono (fun e w' h => (show SayOut _ w' Y e ∧ ExAt w' w4.heap.size ⟨#[]⟩ Ex.zero from ⟨h, X2.out.kept h.grown (by simp)⟩)))
        have l4 := T4.out.rd.lt
        have l4n : ¬ gc = w4.heap.size := fun e => by omega
        apply join (Facts := fun g W x r => RrI w W gc b o c xs (p1, false) g0 gx none [] (.slice none 0 0) ∧ ExAt W g ⟨#[]⟩ x ∧ w.heap.size ≤ g ∧ g ≠ gc ∧ g ≠ g0 ∧ g ≠ gx ∧ (r = true → sayP Y = some (x, Y.length)) ∧ (r = false → ∀ y, sayP Y ≠ some (y, Y.length)))
        case main =>
         intro REST
         have RS := Lib.hid REST
         clear REST
         go_region_with (go_at_call 122; (first | (with_reducible refine (SY.out _ GD1.out).mono ?_; rintro e w5 ⟨⟨x, rr, rfl, hy, hno⟩, hg5⟩; unfold exV exArr) | (with_reducible refine SY2.out.mono ?_; rintro e w5 ⟨⟨⟨x, rr, rfl, hy, hno⟩, hg5⟩, hX5⟩; obtain ⟨x0, x1, x2, x3, x4, x5, x6⟩ := hX5.c; have xf := hX5.fz; have xl := hX5.lt; unfold exV exArr)))
         all_goals
          first
            | (have gB := grown_put7 (grown_refl w5 (some w4.heap.size)) (.string ⟨#[]⟩) (.int .i64 x.kind) (.bool x.weak) (.int .u64 x.value) (.int .u64 x.resolver) (.int .u64 x.ordinal) (.string (strOfNums x.other))
               have FB := Lib.hid (And.intro ((T4.out.same (grown_trans GD2.out hg5)).mine gB T4.out.grown.size (Ne.symm NGC.out) (fun e => by have := T4.out.res.lt; omega) (fun e => by have := T4.out.nod.lt; omega) (by simp [Value.ownBlock])) (And.intro (hX5.put ⟨#[]⟩ x) (And.intro T4.out.grown.size (And.intro (Ne.symm NGC.out) (And.intro (show w4.heap.size ≠ g0 from fun e => by have := T4.out.res.lt; omega) (And.intro (show w4.heap.size ≠ gx from fun e => by have := T4.out.nod.lt; omega) (And.intro hy hno)))))))
               obtain ⟨Wf, hWf⟩ : ∃ Wf, ((((((w5.setCell ⟨w4.heap.size, 0, none⟩ (.string ⟨#[]⟩)).setCell ⟨w4.heap.size, 1, none⟩ (.int .i64 x.kind)).setCell ⟨w4.heap.size, 2, none⟩ (.bool x.weak)).setCell ⟨w4.heap.size, 3, none⟩ (.int .u64 x.value)).setCell ⟨w4.heap.size, 4, none⟩ (.int .u64 x.resolver)).setCell ⟨w4.heap.size, 5, none⟩ (.int .u64 x.ordinal)).setCell ⟨w4.heap.size, 6, none⟩ (.string (strOfNums x.other)) = Wf := ⟨_, rfl⟩
               rw [hWf] at FB ⊢
               obtain ⟨gX, hgX⟩ : ∃ gX, w4.heap.size = gX := ⟨_, rfl⟩
               rw [hgX] at FB ⊢
               exact RS.out gX Wf x rr FB.out)
            | (have gA := grown1 w5 (.cells #[.string ⟨#[]⟩, .int .i64 x.kind, .bool x.weak, .int .u64 x.value, .int .u64 x.resolver, .int .u64 x.ordinal, .string (strOfNums x.other)] 28)
               have szA : gc < w5.heap.size ∧ g0 < w5.heap.size ∧ gx < w5.heap.size := ⟨(T4.out.same (grown_trans GD1.out hg5)).rd.lt, (T4.out.same (grown_trans GD1.out hg5)).res.lt, (T4.out.same (grown_trans GD1.out hg5)).nod.lt⟩
               have FA := Lib.hid (And.intro (T4.out.same (grown_trans GD1.out (grown_trans hg5 gA))) (And.intro (show ExAt _ w5.heap.size ⟨#[]⟩ x from heap_alloc_new w5 _) (And.intro (Nat.le_trans T4.out.grown.size (grown_trans GD1.out hg5).size) (And.intro (show w5.heap.size ≠ gc by omega) (And.intro (show w5.heap.size ≠ g0 by omega) (And.intro (show w5.heap.size ≠ gx by omega) (And.intro hy hno)))))))
               obtain ⟨Wf, hWf⟩ : ∃ Wf, w5.alloc (.cells #[.string ⟨#[]⟩, .int .i64 x.kind, .bool x.weak, .int .u64 x.value, .int .u64 x.resolver, .int .u64 x.ordinal, .string (strOfNums x.other)] 28) = Wf := ⟨_, rfl⟩
               rw [hWf] at FA ⊢
               obtain ⟨gX, hgX⟩ : ∃ gX, w5.heap.size = gX := ⟨_, rfl⟩
               rw [hgX] at FA ⊢
               exact RS.out gX Wf x rr FA.out)
        case rest =>
          intro gX W5 x rr ⟨t5, hX5, hgX, nXc, nX0, nXx, hy, hno⟩
          obtain ⟨hc, hcm, hbig, hp, hl1, hE, hZn⟩ := KEEP.out
          have T5 := Lib.hid t5
          have X5 := Lib.hid hX5
          have HY := Lib.hid hy
          have HNO := Lib.hid hno
          have NX := Lib.hid (And.intro hgX (And.intro nXc (And.intro nX0 nXx)))
          clear t5 hX5 hgX nXc nX0 nXx hy hno hV hwz hwE i0 i1 T4
          have hz0 : 0 < Z := by simpa using DZN.out
          cases rr with
          | false =>
            have NN0 := Lib.hid (show nodeP (xs.drop p) = none by
              have e : exP Z (xs.drop p1) = none := exP_no hz0 (by rw [List.length_drop]; omega) (by rw [← HYH.out.1]; exact HNO.out rfl)
              exact sim_none (s := (p, false)) (Sim.B S0.out (Sim.B (Sim.bad (s := (p1, false)) (s1 := (p1, true)) (v := none) (Nat.le_refl _) rfl (fun _ => e)) (Sim.bad (v := (⟨none, []⟩ : Nd)) (Nat.le_refl _) rfl (fun h => by cases h)))) rfl rfl)
            clear HY HNO hz0
            have NN := Lib.hid (show ndAt xs p = none from ndAt_no (NN0.out))
            have FN := Lib.hid (T5.out.fin NN.out)
            obtain ⟨d0, d1, d2, d3, d4, d5, d6, d7, d8⟩ := T5.out.res.c
            have df := T5.out.res.fz
            have dl := T5.out.res.lt
            go_wp2_with fail
            refine bodyPost_ret (results_nodeR2 rfl rfl rfl FN.out.1) rfl ?_
            exact FN.out.2
          | true =>
            have S1 := Lib.hid (show Sim (exP Z) xs (p1, false) (some x) (E, false) from
              ⟨by simp only []; omega, fun _ => ⟨rfl, by simp only []; rw [show E - p1 = Z by omega]; exact exP_yes hz0 (by rw [List.length_drop]; omega) (by rw [← HYH.out.1]; exact HY.out rfl)⟩, fun _ h => by cases h⟩)
            clear HY HNO hz0
            obtain ⟨n0, n1, n2, n3, n4, n5, n6, n7, n8⟩ := T5.out.nod.c
            obtain ⟨x0, x1, x2, x3, x4, x5, x6⟩ := X5.out.c
            have nf := T5.out.nod.fz
            have nl := T5.out.nod.lt
            have xl := X5.out.lt
            have nxx : ¬ gX = gx := NX.out.2.2.2
            have nxx' : ¬ gx = gX := fun e => NX.out.2.2.2 e.symm
            simp only [Option.isSome, exOf] at n0 n1 n2 n3 n4 n5 n6 n7
            have T6 := Lib.hid (T5.out.said x (grown_put8 (grown_refl W5 (some gx)) (.bool true) (.string ⟨#[]⟩) (.int .i64 x.kind) (.bool x.weak) (.int .u64 x.value) (.int .u64 x.resolver) (.int .u64 x.ordinal) (.string (strOfNums x.other))) (T5.out.nod.said ⟨#[]⟩ x))
            go_upto_region 12 with fail
            obtain ⟨W6, hW6⟩ : ∃ W6, (((((((W5.setCell ⟨gx, 0, none⟩ (.bool true)).setCell ⟨gx, 1, none⟩ (.string ⟨#[]⟩)).setCell ⟨gx, 2, none⟩ (.int .i64 x.kind)).setCell ⟨gx, 3, none⟩ (.bool x.weak)).setCell ⟨gx, 4, none⟩ (.int .u64 x.value)).setCell ⟨gx, 5, none⟩ (.int .u64 x.resolver)).setCell ⟨gx, 6, none⟩ (.int .u64 x.ordinal)).setCell ⟨gx, 7, none⟩ (.string (strOfNums x.other)) = W6 := ⟨_, rfl⟩
            rw [hW6] at T6 ⊢
            clear hW6 n0 n1 n2 n3 n4 n5 n6 n7 n8 x0 x1 x2 x3 x4 x5 x6 nf nl xl nxx nxx' T5 X5
            have j1 := T6.out.rd.c1
            have jf := T6.out.rd.f 1
            have jl := T6.out.rd.lt
            simp only [] at j1
            have hwz : IntKind.i64.wrap (Z : Int) = (Z : Int) := IntWalk.i64_in _ (by omega)
            have hwE : IntKind.i64.wrap ((p1 : Int) + (Z : Int)) = (E : Int) := by rw [hE]; exact IntWalk.i64_in _ (by omega)
            have hz63 : (Z : Int) ≤ 9223372036854775807 := by omega
            have TA := Lib.hid (T6.out.call (s' := (E, false)) (w' := W6.setCell ⟨gc, 1, none⟩ (.int .i64 (E : Int))) (by
              refine T6.out.rd.set (s' := (E, false)) (grown_setCell (grown_refl _ _) _) ?_ (by omega)
              rw [heap_setCell_same _ gc 1 _ _ _ T6.out.rd.blk]
              rfl) (grown_setCell (grown_refl _ _) _))
            go_upto_region 13 with fail
            obtain ⟨WA, hWA⟩ : ∃ WA, W6.setCell ⟨gc, 1, none⟩ (.int .i64 (E : Int)) = WA := ⟨_, rfl⟩
            rw [hWA] at TA ⊢
            obtain ⟨pQ, hpQ⟩ : ∃ z, z = E := ⟨_, rfl⟩
            rw [← hpQ] at TA S1
            clear hWA hpQ j1 jf jl hwz hwE hz63 T6 hE hZn
            have j0 := TA.out.rd.c0
            have j1 := TA.out.rd.c1
            simp only [] at j1
            have hpQl := TA.out.rd.le
            simp only [] at hpQl
            by_cases hend : pQ = xs.length
            · have dq : ((pQ : Int) == (xs.length : Int)) = true := by rw [hend]; simp
              have NN0 := Lib.hid (show nodeP (xs.drop p) = none by
                refine sim_none (s := (p, false)) (Sim.B S0.out (Sim.B S1.out (Sim.B (Sim.bad (s := (pQ, false)) (s1 := (pQ, true)) (v := 0) (Nat.le_refl _) rfl (fun _ => by rw [hend, List.drop_length]; rfl)) (Sim.bad (v := (⟨none, []⟩ : Nd)) (Nat.le_refl _) rfl (fun h => by cases h))))) rfl rfl)
              clear hend
              have NN := Lib.hid (show ndAt xs p = none from ndAt_no (NN0.out))
              have FN := Lib.hid (TA.out.fin NN.out)
              obtain ⟨d0, d1, d2, d3, d4, d5, d6, d7, d8⟩ := TA.out.res.c
              have df := TA.out.res.fz
              have dl := TA.out.res.lt
              go_wp2_with fail
              refine bodyPost_ret (results_nodeR2 rfl rfl rfl FN.out.1) rfl ?_
              exact FN.out.2
            · have dq : ((pQ : Int) == (xs.length : Int)) = false := by rw [beq_eq_false_iff_ne]; omega
              have hpQn : pQ < xs.length := by omega
              have jb := TA.out.rd.cell pQ hpQn
              have hM := HR.out (xs.getD pQ 0) (by simp [List.getD, hpQn, List.getElem_mem])
              have S2 := Lib.hid (show Sim byP xs (pQ, false) (xs.getD pQ 0) (pQ + 1, false) from
                ⟨Nat.le_succ _, fun _ => ⟨rfl, by rw [List.drop_eq_getElem_cons hpQn]; simp only [byP, Option.some.injEq, Prod.mk.injEq]; exact ⟨by simp [hpQn], by omega⟩⟩, fun _ h => by cases h⟩)
              obtain ⟨M, hMM⟩ : ∃ M : Nat, (M : Int) = xs.getD pQ 0 := ⟨(xs.getD pQ 0).toNat, by omega⟩
              rw [← hMM] at jb hM S2
              clear hMM hend
              have jf := TA.out.rd.f 1
              have jl := TA.out.rd.lt
              have T8 := Lib.hid (TA.out.call (s' := (pQ + 1, false)) (w' := WA.setCell ⟨gc, 1, none⟩ (.int .i64 ((pQ + 1 : Nat) : Int))) (by
                refine TA.out.rd.set (s' := (pQ + 1, false)) (grown_setCell (grown_refl _ _) _) ?_ hpQn
                rw [heap_setCell_same _ gc 1 _ _ _ TA.out.rd.blk]
                rfl) (grown_setCell (grown_refl _ _) _))
              rw [show ((pQ + 1 : Nat) : Int) = (pQ : Int) + 1 by omega] at T8
              have mM : M < 256 := by omega
              go_upto_region 17 with fail
              obtain ⟨w8, hw8⟩ : ∃ w8, WA.setCell ⟨gc, 1, none⟩ (.int .i64 ((pQ : Int) + 1)) = w8 := ⟨_, rfl⟩
              rw [hw8] at T8 ⊢
              clear hw8 j0 j1 jb jf jl TA hM
              have NONE := Lib.hid (fun (r : List Kid) (s' : Cs) (h : Sim (kidsP M []) xs (pQ + 1, false) r s') (hb : s'.2 = true) => (show nodeP (xs.drop p) = none from
                sim_none (s := (p, false)) (Sim.B S0.out (Sim.B S1.out (Sim.B S2.out (Sim.B h (Sim.bad (v := (⟨none, []⟩ : Nd)) (Nat.le_refl _) hb (fun h => by rw [hb] at h; cases h)))))) rfl hb))
              go_wp2_with fail
              go_loopw [12] (fun i wr => ∃ (k : Nat) (L : List Kid) (v : Value) (sk : Nat), k ≤ M ∧ i = .int .i64 k ∧ L.length = k ∧ RrI w wr gc b o c xs (sk, false) g0 gx (some x) L v ∧ Hid (∀ r s', Sim (kidsP (M - k) L) xs (sk, false) r s' → Sim (kidsP M []) xs (pQ + 1, false) r s')) (fun i _ => M - (intOf i).toNat)
              case atStart => exact ⟨0, [], _, pQ + 1, Nat.zero_le _, rfl, rfl, T8.out, Lib.hid (fun r s' h => h)⟩
              case round =>
                obtain ⟨k, L, v, sk, hk, rfl, hl, hT, CO⟩ := hrel
                obtain ⟨q, cq, rfl⟩ := own_slice hT.own
                have T := Lib.hid hT
                have HL := Lib.hid hl
                clear hT hl T8
                by_cases hlt : k < M
                · have ST := Lib.hid (simR_tx xs (sk, false))
                  have CO2 := Lib.hid (show ∀ r s', Sim (kidsP (M - (k + 1) + 1) L) xs (sk, false) r s' → Sim (kidsP M []) xs (pQ + 1, false) r s' by rw [show M - (k + 1) + 1 = M - k by omega]; exact CO.out)
                  have dkM : decide ((k : Int) < (M : Int)) = true := by simp; omega
                  have dkM2 : decide (k < M) = true := by simp; omega
                  clear CO
                  go_wp2_with fail
                  refine (text9_any T.out.rd).mono ?_
                  rintro e wa ⟨rfl, hp, hg⟩
                  have Ta := Lib.hid (T.out.call hp hg)
                  clear hp hg T
                  obtain ⟨E, hE⟩ : ∃ z, z = (txR xs (sk, false)).1 := ⟨_, rfl⟩
                  obtain ⟨s4, hs4⟩ : ∃ z, z = (txR xs (sk, false)).2 := ⟨_, rfl⟩
                  have BE := Lib.hid (show Byt E by
                    rw [hE]; unfold txR
                    split
                    · exact (HR.out.drop _).pre
                    · intro x hx; cases hx)
                  rw [← hE, ← hs4] at ST
                  rw [← hs4] at Ta
                  rw [← hE]
                  clear hE hs4
                  have gb := grown1 wa (.cells #[.string (strOfNums E), .int .i64 (-1)] 151)
                  have kb : KidRIn (wa.alloc (.cells #[.string (strOfNums E), .int .i64 (-1)] 151)) wa.heap.size (E, -1) := heap_alloc_new wa _
                  have Tb := Lib.hid (Ta.out.same gb)
                  have Kb := Lib.hid kb
                  have LK := Lib.hid (And.intro (show w.heap.size ≤ wa.heap.size from Ta.out.grown.size) (And.intro Ta.out.rd.lt (And.intro Ta.out.res.lt (And.intro Ta.out.nod.lt (fun g (e : (Value.slice q L.length cq).ownBlock = some g) => ((Ta.out.own.lt g e).2 : g < wa.heap.size))))))
                  obtain ⟨wb, hwb⟩ : ∃ wb, wa.alloc (.cells #[.string (strOfNums E), .int .i64 (-1)] 151) = wb := ⟨_, rfl⟩
                  obtain ⟨gk, hgk⟩ : ∃ gk, wa.heap.size = gk := ⟨_, rfl⟩
                  rw [hwb] at Tb Kb
                  rw [hgk] at Kb LK
                  have HWb := Lib.hid hwb
                  have HGK := Lib.hid hgk
                  clear gb kb hwb hgk Ta
                  go_upto_region 21 with fail
                  rw [HWb.out, HGK.out]
                  clear HWb HGK
                  have SU := Lib.hid (simR_ul xs s4)
                  have BU := Lib.hid (ulR_bd (xs := xs) (s := s4))
                  go_wp2_with fail
                  refine (number9_any Tb.out.rd).mono ?_
                  rintro e wc ⟨rfl, hp, hg⟩
                  have Tc := Lib.hid (Tb.out.call hp hg)
                  have kc := Kb.out.kept hg (by intro e; injection e with e; have := LK.out.2.1; omega)
                  have Kc := Lib.hid kc
                  have kf := kc.fz
                  have kl := kc.lt
                  have k1 := kc.c1
                  clear hp hg Tb Kb kc
                  obtain ⟨P, hP⟩ : ∃ z, z = (ulR xs s4).1 := ⟨_, rfl⟩
                  obtain ⟨s5, hs5⟩ : ∃ z, z = (ulR xs s4).2 := ⟨_, rfl⟩
                  rw [← hP, ← hs5] at SU
                  rw [← hP] at BU
                  rw [← hs5] at Tc
                  rw [← hP]
                  clear hP hs5
                  have LE := Lib.hid SU.out.le
                  have bu0 := BU.out.1
                  have bu1 := BU.out.2
                  by_cases hPn : P < (xs.length : Int)
                  · have dP : decide (P < (xs.length : Int)) = true := decide_eq_true hPn
                    have RK := Lib.hid (show rkid xs.length (E, P) = (E, P) by unfold rkid; rw [if_pos hPn])
                    have hwP : IntKind.i64.wrap P = P := IntWalk.i64_in _ (by omega)
                    have gz := grown_setCell (i := 1) (grown_refl wc (some gk)) (.int .i64 P)
                    have Td := Lib.hid (Tc.out.mine gz LK.out.1 (by have := LK.out.2.1; omega) (by have := LK.out.2.2.1; omega) (by have := LK.out.2.2.2.1; omega) (by intro e; have := LK.out.2.2.2.2 gk e; omega))
                    have Kd := Lib.hid (Kc.out.place P)
                    go_upto_region 24 with fail
                    obtain ⟨wd, hwd⟩ : ∃ wd, wc.setCell ⟨gk, 1, none⟩ (.int .i64 P) = wd := ⟨_, rfl⟩
                    rw [hwd] at Td Kd
                    (try rw [hwd])
                    clear hwd gz kf kl k1 Tc Kc hPn bu0 bu1 hwP dP
                    have i2 := Td.out.rd.c2
                    have q0 := Kd.out.c0
                    have q1 := Kd.out.c1
                    have ql := Kd.out.lt
                    obtain ⟨p5, bad5⟩ := s5
                    simp only [] at i2 LE
                    cases bad5 with
                    | true =>
                      have NN0 := Lib.hid (NONE.out [] (p5, true) (CO2.out _ _ (Sim.B ST.out (Sim.B SU.out (Sim.bad (Nat.le_refl _) rfl (fun h => by cases h))))) rfl)
                      have NN := Lib.hid (show ndAt xs p = none from ndAt_no (NN0.out))
                      have FN := Lib.hid (Td.out.fin NN.out)
                      obtain ⟨d0, d1, d2, d3, d4, d5, d6, d7, d8⟩ := Td.out.res.c
                      have df := Td.out.res.fz
                      have dl := Td.out.res.lt
                      go_wp2_with fail
                      refine bodyPost_ret (results_nodeR2 rfl rfl rfl FN.out.1) rfl ?_
                      exact FN.out.2
                    | false =>
                      by_cases hE : E = []
                      · have he : (strOfNums E).toList.isEmpty = true := by rw [hE, Lib.strOfNums_toList]; rfl
                        have NN0 := Lib.hid (NONE.out [] (p5, true) (CO2.out _ _ (Sim.B ST.out (Sim.B SU.out (by rw [if_pos (.inl hE)]; exact Sim.F _ (Nat.le_refl _) rfl)))) rfl)
                        clear hE
                        have NN := Lib.hid (show ndAt xs p = none from ndAt_no (NN0.out))
                        have FN := Lib.hid (Td.out.fin NN.out)
                        obtain ⟨d0, d1, d2, d3, d4, d5, d6, d7, d8⟩ := Td.out.res.c
                        have df := Td.out.res.fz
                        have dl := Td.out.res.lt
                        go_wp2_with fail
                        refine bodyPost_ret (results_nodeR2 rfl rfl rfl FN.out.1) rfl ?_
                        exact FN.out.2
                      · have he : (strOfNums E).toList.isEmpty = false := by
                          rw [Lib.strOfNums_toList]
                          cases E with
                          | nil => exact absurd rfl hE
                          | cons => rfl
                        have HE := Lib.hid hE
                        obtain ⟨m0, m1, m2, m3, m4, m5, m6, m7, m8⟩ := Td.out.nod.c
                        have ml := Td.out.nod.lt
                        clear hE m0 m1 m2 m3 m4 m5 m6 m7
                        go_wp2_with fail
                        go_loopw [15] (fun jj wi => ∃ (j : Nat), j ≤ L.length ∧ jj = .int .i64 j ∧ RrI w wi gc b o c xs (p5, false) g0 gx (some x) L (.slice q L.length cq) ∧ KidRIn wi gk (E, P) ∧ ∀ i y, i < j → L[i]? = some y → (y.1.getD 0 0 == E.getD 0 0) = false) (fun jj _ => L.length - (intOf jj).toNat)
                        case atStart => exact ⟨0, Nat.zero_le _, rfl, Td.out, Kd.out, fun i y h => by omega⟩
                        case round =>
                          obtain ⟨j, hj, rfl, hTi, hKi, hno⟩ := hrel
                          have Ti := Lib.hid hTi
                          have Ki := Lib.hid hKi
                          have NO := Lib.hid hno
                          obtain ⟨m0, m1, m2, m3, m4, m5, m6, m7, m8⟩ := hTi.nod.c
                          have ml := hTi.nod.lt
                          have q0 := hKi.c0
                          have q1 := hKi.c1
                          have ql := hKi.lt
                          clear hTi hKi hno m0 m1 m2 m3 m4 m5 m6 m7 i2
                          have hLk : L.length < 256 := by have := HL.out; omega
                          have hLc := own_roomE Ti.out.own
                          have hLm := own_maxE Ti.out.own
                          by_cases hjl : j < L.length
                          · obtain ⟨y, hy⟩ : ∃ y, L[j]? = some y := ⟨_, List.getElem?_eq_getElem hjl⟩
                            have hy2 : (L.map (rkid xs.length))[j]? = some (rkid xs.length y) := by rw [List.getElem?_map, hy]; rfl
                            obtain ⟨gq, rfl, c0, c1⟩ := KidsR.of Ti.out.own j _ hy2
                            have yo := Ti.out.each y (List.mem_of_getElem? hy)
                            have HY := Lib.hid hy
                            have dj : decide ((j : Int) < (L.length : Int)) = true := by simp; omega
                            have dj2 : decide (j < L.length) = true := by simp; omega
                            have hjli : (j : Int) < (L.length : Int) := by omega
                            have c0' : wr.cell? ⟨gq, j * 2, none⟩ = some (.string (strOfNums y.1)) := c0
                            have MT := Lib.hid (fun (h : (y.1.getD 0 0 == E.getD 0 0) = true) => (show meets E L = true by
                              unfold meets; rw [List.any_eq_true]; exact ⟨y, List.mem_of_getElem? hy, h⟩))
                            obtain ⟨ye, yp⟩ := y
                            simp only [] at c0' yo MT
                            cases ye with
                            | nil => exact absurd rfl yo.1
                            | cons yx ys =>
                            cases hEE : E with
                            | nil => exact absurd hEE HE.out
                            | cons ex es =>
                            have y1 := bt_nums yx ys (yo.2 yx (List.mem_cons_self ..))
                            have y2 := bt_nums ex es ((hEE ▸ BE.out : Byt (ex :: es)) ex (List.mem_cons_self ..))
                            have z1 : 0 < (strOfNums (yx :: ys)).size := by rw [strOfNums_size]; simp
                            have z2 : 0 < (strOfNums (ex :: es)).size := by rw [strOfNums_size]; simp
                            have HEE := Lib.hid hEE
                            simp only [] at q0
                            rw [hEE] at q0
                            obtain ⟨S1', hS1⟩ : ∃ z, z = strOfNums (yx :: ys) := ⟨_, rfl⟩
                            obtain ⟨S2', hS2⟩ : ∃ z, z = strOfNums (ex :: es) := ⟨_, rfl⟩
                            rw [← hS1] at c0' y1 z1
                            rw [← hS2] at q0 y2 z2
                            have b1 := get_bt S1'
                            have b2 := get_bt S2'
                            have BQ := Lib.hid (show ((yx :: ys).getD 0 0 == E.getD 0 0) = (bt S1' 0 == bt S2' 0) by rw [y1, y2, hEE]; rfl)
                            obtain ⟨bq, hbq⟩ : ∃ z, z = (bt S1' 0 == bt S2' 0) := ⟨_, rfl⟩
                            rw [← hbq] at BQ
                            have hbq' := hbq.symm
                            clear hEE c0 c1 hy hy2 yo y1 y2 hS1 hS2 hbq hjl
                            cases bq with
                            | true =>
                              have NN0 := Lib.hid (NONE.out [] (p5, true) (CO2.out _ _ (Sim.B ST.out (Sim.B SU.out (by rw [if_pos (.inr (MT.out BQ.out))]; exact Sim.F _ (Nat.le_refl _) rfl)))) rfl)
                              have NN := Lib.hid (show ndAt xs p = none from ndAt_no NN0.out)
                              have FN := Lib.hid (fun n => (Ti.out.same (grown_drewN (grown_refl wr none) n)).fin NN.out)
                              obtain ⟨d0, d1, d2, d3, d4, d5, d6, d7, d8⟩ := Ti.out.res.c
                              have df := Ti.out.res.fz
                              have dl := Ti.out.res.lt
                              go_wp2
                              go_quiet (fail)
                              go_wp2
                              refine bodyPost_ret (results_nodeR2 rfl rfl rfl (FN.out _).1) rfl ?_
                              exact (FN.out _).2
                            | false =>
                              go_wp2
                              go_quiet (fail)
                              go_wp2
                              go_roundw
                              case rel =>
                                rw [← HEE.out]
                                refine ⟨j + 1, by omega, by go_num, Ti.out.same (grown_drewN (grown_refl _ _) _), Ki.out.kept (r := none) (grown_drewN (grown_refl _ _) _) (by simp), fun i y hi hy => ?_⟩
                                rcases Nat.lt_or_ge i j with h | h
                                · exact NO.out i y h hy
                                · obtain rfl : i = j := by omega
                                  rw [HY.out] at hy
                                  injection hy with hy
                                  rw [← hy]; exact BQ.out
                              case measure => simp [intOf]; omega
                          · have NM := Lib.hid (any_kid L E j NO.out (by omega))
                            have dj : decide ((j : Int) < (L.length : Int)) = false := by simp; omega
                            have dj2 : decide (j < L.length) = false := by simp; omega
                            have gn := grown1 wr (.cells #[.string (strOfNums E), .int .i64 P] 151)
                            have T12 := Lib.hid (Ti.out.same gn)
                            have N12 := Lib.hid (heap_alloc_new wr (.cells #[.string (strOfNums E), .int .i64 P] 151))
                            have SZ := Lib.hid (show w.heap.size ≤ wr.heap.size from Ti.out.grown.size)
                            clear hjl gn
                            go_wp2_with (at_builtin; refine wp_append_st kidTypeR rfl _ _ rfl _ L.length _ rfl T12.out.own [.string (strOfNums E), .int .i64 P] rfl wr.heap.size rfl N12.out (kidCsR_one (E, P)) (by have := HL.out; omega) (by decide) ?_ ?_)
                            · have := SZ.out; (try rw [World.size_alloc]); omega
                            intro v' wz ho hg3
                            obtain ⟨q', c', rfl⟩ := own_slice ho
                            have nd3 := T12.out.nod.kept hg3 (own_ne T12.out.own T12.out.nod (by decide))
                            have c8 := nd3.c.2.2.2.2.2.2.2.2
                            have cf := nd3.fz
                            have cl := nd3.lt
                            have T13 := Lib.hid (T12.out.more (E, P) ⟨HE.out, BE.out⟩ (by rw [RK.out]; exact ho) hg3)
                            clear nd3 ho hg3 m8 ml q0 q1 ql
                            go_wp2
                            go_roundw
                            case rel => exact ⟨k + 1, L ++ [(E, P)], _, p5, hlt, by go_num, by rw [List.length_append, HL.out]; rfl, T13.out, Lib.hid (fun r s' h => CO2.out r s' (Sim.B ST.out (Sim.B SU.out (by rw [if_neg (fun h => h.elim HE.out (fun h => by rw [NM.out] at h; cases h))]; exact h))))⟩
                            case measure => simp [intOf]; omega
                  · have dP : decide (P < (xs.length : Int)) = false := decide_eq_false hPn
                    have RK := Lib.hid (show rkid xs.length (E, P) = (E, -1) by unfold rkid; rw [if_neg hPn])
                    have Td := Tc
                    have Kd := Kc
                    go_upto_region 24 with fail
                    clear kf kl k1 Tc Kc hPn bu0 bu1 dP
                    have i2 := Td.out.rd.c2
                    have q0 := Kd.out.c0
                    have q1 := Kd.out.c1
                    have ql := Kd.out.lt
                    obtain ⟨p5, bad5⟩ := s5
                    simp only [] at i2 LE
                    cases bad5 with
                    | true =>
                      have NN0 := Lib.hid (NONE.out [] (p5, true) (CO2.out _ _ (Sim.B ST.out (Sim.B SU.out (Sim.bad (Nat.le_refl _) rfl (fun h => by cases h))))) rfl)
                      have NN := Lib.hid (show ndAt xs p = none from ndAt_no (NN0.out))
                      have FN := Lib.hid (Td.out.fin NN.out)
                      obtain ⟨d0, d1, d2, d3, d4, d5, d6, d7, d8⟩ := Td.out.res.c
                      have df := Td.out.res.fz
                      have dl := Td.out.res.lt
                      go_wp2_with fail
                      refine bodyPost_ret (results_nodeR2 rfl rfl rfl FN.out.1) rfl ?_
                      exact FN.out.2
                    | false =>
                      by_cases hE : E = []
                      · have he : (strOfNums E).toList.isEmpty = true := by rw [hE, Lib.strOfNums_toList]; rfl
                        have NN0 := Lib.hid (NONE.out [] (p5, true) (CO2.out _ _ (Sim.B ST.out (Sim.B SU.out (by rw [if_pos (.inl hE)]; exact Sim.F _ (Nat.le_refl _) rfl)))) rfl)
                        clear hE
                        have NN := Lib.hid (show ndAt xs p = none from ndAt_no (NN0.out))
                        have FN := Lib.hid (Td.out.fin NN.out)
                        obtain ⟨d0, d1, d2, d3, d4, d5, d6, d7, d8⟩ := Td.out.res.c
                        have df := Td.out.res.fz
                        have dl := Td.out.res.lt
                        go_wp2_with fail
                        refine bodyPost_ret (results_nodeR2 rfl rfl rfl FN.out.1) rfl ?_
                        exact FN.out.2
                      · have he : (strOfNums E).toList.isEmpty = false := by
                          rw [Lib.strOfNums_toList]
                          cases E with
                          | nil => exact absurd rfl hE
                          | cons => rfl
                        have HE := Lib.hid hE
                        obtain ⟨m0, m1, m2, m3, m4, m5, m6, m7, m8⟩ := Td.out.nod.c
                        have ml := Td.out.nod.lt
                        clear hE m0 m1 m2 m3 m4 m5 m6 m7
                        go_wp2_with fail
                        go_loopw [15] (fun jj wi => ∃ (j : Nat), j ≤ L.length ∧ jj = .int .i64 j ∧ RrI w wi gc b o c xs (p5, false) g0 gx (some x) L (.slice q L.length cq) ∧ KidRIn wi gk (E, (-1)) ∧ ∀ i y, i < j → L[i]? = some y → (y.1.getD 0 0 == E.getD 0 0) = false) (fun jj _ => L.length - (intOf jj).toNat)
                        case atStart => exact ⟨0, Nat.zero_le _, rfl, Td.out, Kd.out, fun i y h => by omega⟩
                        case round =>
                          obtain ⟨j, hj, rfl, hTi, hKi, hno⟩ := hrel
                          have Ti := Lib.hid hTi
                          have Ki := Lib.hid hKi
                          have NO := Lib.hid hno
                          obtain ⟨m0, m1, m2, m3, m4, m5, m6, m7, m8⟩ := hTi.nod.c
                          have ml := hTi.nod.lt
                          have q0 := hKi.c0
                          have q1 := hKi.c1
                          have ql := hKi.lt
                          clear hTi hKi hno m0 m1 m2 m3 m4 m5 m6 m7 i2
                          have hLk : L.length < 256 := by have := HL.out; omega
                          have hLc := own_roomE Ti.out.own
                          have hLm := own_maxE Ti.out.own
                          by_cases hjl : j < L.length
                          · obtain ⟨y, hy⟩ : ∃ y, L[j]? = some y := ⟨_, List.getElem?_eq_getElem hjl⟩
                            have hy2 : (L.map (rkid xs.length))[j]? = some (rkid xs.length y) := by rw [List.getElem?_map, hy]; rfl
                            obtain ⟨gq, rfl, c0, c1⟩ := KidsR.of Ti.out.own j _ hy2
                            have yo := Ti.out.each y (List.mem_of_getElem? hy)
                            have HY := Lib.hid hy
                            have dj : decide ((j : Int) < (L.length : Int)) = true := by simp; omega
                            have dj2 : decide (j < L.length) = true := by simp; omega
                            have hjli : (j : Int) < (L.length : Int) := by omega
                            have c0' : wr.cell? ⟨gq, j * 2, none⟩ = some (.string (strOfNums y.1)) := c0
                            have MT := Lib.hid (fun (h : (y.1.getD 0 0 == E.getD 0 0) = true) => (show meets E L = true by
                              unfold meets; rw [List.any_eq_true]; exact ⟨y, List.mem_of_getElem? hy, h⟩))
                            obtain ⟨ye, yp⟩ := y
                            simp only [] at c0' yo MT
                            cases ye with
                            | nil => exact absurd rfl yo.1
                            | cons yx ys =>
                            cases hEE : E with
                            | nil => exact absurd hEE HE.out
                            | cons ex es =>
                            have y1 := bt_nums yx ys (yo.2 yx (List.mem_cons_self ..))
                            have y2 := bt_nums ex es ((hEE ▸ BE.out : Byt (ex :: es)) ex (List.mem_cons_self ..))
                            have z1 : 0 < (strOfNums (yx :: ys)).size := by rw [strOfNums_size]; simp
                            have z2 : 0 < (strOfNums (ex :: es)).size := by rw [strOfNums_size]; simp
                            have HEE := Lib.hid hEE
                            simp only [] at q0
                            rw [hEE] at q0
                            obtain ⟨S1', hS1⟩ : ∃ z, z = strOfNums (yx :: ys) := ⟨_, rfl⟩
                            obtain ⟨S2', hS2⟩ : ∃ z, z = strOfNums (ex :: es) := ⟨_, rfl⟩
                            rw [← hS1] at c0' y1 z1
                            rw [← hS2] at q0 y2 z2
                            have b1 := get_bt S1'
                            have b2 := get_bt S2'
                            have BQ := Lib.hid (show ((yx :: ys).getD 0 0 == E.getD 0 0) = (bt S1' 0 == bt S2' 0) by rw [y1, y2, hEE]; rfl)
                            obtain ⟨bq, hbq⟩ : ∃ z, z = (bt S1' 0 == bt S2' 0) := ⟨_, rfl⟩
                            rw [← hbq] at BQ
                            have hbq' := hbq.symm
                            clear hEE c0 c1 hy hy2 yo y1 y2 hS1 hS2 hbq hjl
                            cases bq with
                            | true =>
                              have NN0 := Lib.hid (NONE.out [] (p5, true) (CO2.out _ _ (Sim.B ST.out (Sim.B SU.out (by rw [if_pos (.inr (MT.out BQ.out))]; exact Sim.F _ (Nat.le_refl _) rfl)))) rfl)
                              have NN := Lib.hid (show ndAt xs p = none from ndAt_no NN0.out)
                              have FN := Lib.hid (fun n => (Ti.out.same (grown_drewN (grown_refl wr none) n)).fin NN.out)
                              obtain ⟨d0, d1, d2, d3, d4, d5, d6, d7, d8⟩ := Ti.out.res.c
                              have df := Ti.out.res.fz
                              have dl := Ti.out.res.lt
                              go_wp2
                              go_quiet (fail)
                              go_wp2
                              refine bodyPost_ret (results_nodeR2 rfl rfl rfl (FN.out _).1) rfl ?_
                              exact (FN.out _).2
                            | false =>
                              go_wp2
                              go_quiet (fail)
                              go_wp2
                              go_roundw
                              case rel =>
                                rw [← HEE.out]
                                refine ⟨j + 1, by omega, by go_num, Ti.out.same (grown_drewN (grown_refl _ _) _), Ki.out.kept (r := none) (grown_drewN (grown_refl _ _) _) (by simp), fun i y hi hy => ?_⟩
                                rcases Nat.lt_or_ge i j with h | h
                                · exact NO.out i y h hy
                                · obtain rfl : i = j := by omega
                                  rw [HY.out] at hy
                                  injection hy with hy
                                  rw [← hy]; exact BQ.out
                              case measure => simp [intOf]; omega
                          · have NM := Lib.hid (any_kid L E j NO.out (by omega))
                            have dj : decide ((j : Int) < (L.length : Int)) = false := by simp; omega
                            have dj2 : decide (j < L.length) = false := by simp; omega
                            have gn := grown1 wr (.cells #[.string (strOfNums E), .int .i64 (-1)] 151)
                            have T12 := Lib.hid (Ti.out.same gn)
                            have N12 := Lib.hid (heap_alloc_new wr (.cells #[.string (strOfNums E), .int .i64 (-1)] 151))
                            have SZ := Lib.hid (show w.heap.size ≤ wr.heap.size from Ti.out.grown.size)
                            clear hjl gn
                            go_wp2_with (at_builtin; refine wp_append_st kidTypeR rfl _ _ rfl _ L.length _ rfl T12.out.own [.string (strOfNums E), .int .i64 (-1)] rfl wr.heap.size rfl N12.out (kidCsR_one (E, (-1))) (by have := HL.out; omega) (by decide) ?_ ?_)
                            · have := SZ.out; (try rw [World.size_alloc]); omega
                            intro v' wz ho hg3
                            obtain ⟨q', c', rfl⟩ := own_slice ho
                            have nd3 := T12.out.nod.kept hg3 (own_ne T12.out.own T12.out.nod (by decide))
                            have c8 := nd3.c.2.2.2.2.2.2.2.2
                            have cf := nd3.fz
                            have cl := nd3.lt
                            have T13 := Lib.hid (T12.out.more (E, P) ⟨HE.out, BE.out⟩ (by rw [RK.out]; exact ho) hg3)
                            clear nd3 ho hg3 m8 ml q0 q1 ql
                            go_wp2
                            go_roundw
                            case rel => exact ⟨k + 1, L ++ [(E, P)], _, p5, hlt, by go_num, by rw [List.length_append, HL.out]; rfl, T13.out, Lib.hid (fun r s' h => CO2.out r s' (Sim.B ST.out (Sim.B SU.out (by rw [if_neg (fun h => h.elim HE.out (fun h => by rw [NM.out] at h; cases h))]; exact h))))⟩
                            case measure => simp [intOf]; omega
                · have hkM : k = M := by omega
                  have CO3 := Lib.hid (show ∀ r s', Sim (kidsP 0 L) xs (sk, false) r s' → Sim (kidsP M []) xs (pQ + 1, false) r s' by rw [show 0 = M - k by omega]; exact CO.out)
                  have dkM : decide ((k : Int) < (M : Int)) = false := by simp; omega
                  have dkM2 : decide (k < M) = false := by simp; omega
                  have YES := Lib.hid (show ndAt xs p = some ⟨(some x), L⟩ from by
                    have SX : Sim nodeP xs (p, false) (⟨(some x), L⟩ : Nd) (sk, false) := Sim.B S0.out (Sim.B S1.out (Sim.B S2.out (Sim.B (CO3.out L _ (Sim.R _ _)) (Sim.R _ _))))
                    exact ndAt_yes hp (SX.ok rfl).2)
                  clear CO hlt
                  have TF := Lib.hid T.out
                  obtain ⟨m0, m1, m2, m3, m4, m5, m6, m7, m8⟩ := T.out.nod.c
                  obtain ⟨d0, d1, d2, d3, d4, d5, d6, d7, d8⟩ := T.out.res.c
                  have df := T.out.res.fz
                  have dl := T.out.res.lt
                  have ml := T.out.nod.lt
                  simp only [Option.isSome, exOf] at m0 m1 m2 m3 m4 m5 m6 m7
                  go_wp2_with fail
                  refine bodyPost_ret (results_nodeR2 rfl rfl rfl (TF.out.res.put true ⟨#[]⟩ x (.slice q L.length cq))) rfl ?_
                  have GP := fun W : World => grown_put9 (grown_refl W (some g0)) (.bool true) (.string ⟨#[]⟩) (.int .i64 (x : Ex).kind) (.bool (x : Ex).weak) (.int .u64 (x : Ex).value) (.int .u64 (x : Ex).resolver) (.int .u64 (x : Ex).ordinal) (.string (strOfNums (x : Ex).other)) (.slice q L.length cq)
                  exact ⟨.inl ⟨⟨(some x), L⟩, .slice q L.length cq, YES.out, rfl, TF.out.own.kept (GP _) (.inr (own_ne TF.out.own TF.out.res (by decide)))⟩, grown_new TF.out.grown (GP _) TF.out.new0⟩
      · obtain rfl : Z = 0 := by omega
        have dzp : decide ((0 : Int) < ((0 : Nat) : Int)) = false := rfl
        have S1 := Lib.hid (show Sim (exP ((0 : Nat) : Int)) xs (p1, false) none (p1, false) from Sim.R _ _)
        have TA := T4
        go_upto_region 13 with fail
        clear hz0 dz hu i0 i1 i2 iz hZn
        have j0 := TA.out.rd.c0
        have j1 := TA.out.rd.c1
        simp only [] at j1
        have hp1l := TA.out.rd.le
        simp only [] at hp1l
        by_cases hend : p1 = xs.length
        · have dq : ((p1 : Int) == (xs.length : Int)) = true := by rw [hend]; simp
          have NN0 := Lib.hid (show nodeP (xs.drop p) = none by
            refine sim_none (s := (p, false)) (Sim.B S0.out (Sim.B S1.out (Sim.B (Sim.bad (s := (p1, false)) (s1 := (p1, true)) (v := 0) (Nat.le_refl _) rfl (fun _ => by rw [hend, List.drop_length]; rfl)) (Sim.bad (v := (⟨none, []⟩ : Nd)) (Nat.le_refl _) rfl (fun h => by cases h))))) rfl rfl)
          clear hend
          have NN := Lib.hid (show ndAt xs p = none from ndAt_no (NN0.out))
          have FN := Lib.hid (TA.out.fin NN.out)
          obtain ⟨d0, d1, d2, d3, d4, d5, d6, d7, d8⟩ := TA.out.res.c
          have df := TA.out.res.fz
          have dl := TA.out.res.lt
          go_wp2_with fail
          refine bodyPost_ret (results_nodeR2 rfl rfl rfl FN.out.1) rfl ?_
          exact FN.out.2
        · have dq : ((p1 : Int) == (xs.length : Int)) = false := by rw [beq_eq_false_iff_ne]; omega
          have hp1n : p1 < xs.length := by omega
          have jb := TA.out.rd.cell p1 hp1n
          have hM := HR.out (xs.getD p1 0) (by simp [List.getD, hp1n, List.getElem_mem])
          have S2 := Lib.hid (show Sim byP xs (p1, false) (xs.getD p1 0) (p1 + 1, false) from
            ⟨Nat.le_succ _, fun _ => ⟨rfl, by rw [List.drop_eq_getElem_cons hp1n]; simp only [byP, Option.some.injEq, Prod.mk.injEq]; exact ⟨by simp [hp1n], by omega⟩⟩, fun _ h => by cases h⟩)
          obtain ⟨M, hMM⟩ : ∃ M : Nat, (M : Int) = xs.getD p1 0 := ⟨(xs.getD p1 0).toNat, by omega⟩
          rw [← hMM] at jb hM S2
          clear hMM hend
          have jf := TA.out.rd.f 1
          have jl := TA.out.rd.lt
          have T8 := Lib.hid (TA.out.call (s' := (p1 + 1, false)) (w' := w4.setCell ⟨gc, 1, none⟩ (.int .i64 ((p1 + 1 : Nat) : Int))) (by
            refine TA.out.rd.set (s' := (p1 + 1, false)) (grown_setCell (grown_refl _ _) _) ?_ hp1n
            rw [heap_setCell_same _ gc 1 _ _ _ TA.out.rd.blk]
            rfl) (grown_setCell (grown_refl _ _) _))
          rw [show ((p1 + 1 : Nat) : Int) = (p1 : Int) + 1 by omega] at T8
          have mM : M < 256 := by omega
          go_upto_region 17 with fail
          obtain ⟨w8, hw8⟩ : ∃ w8, w4.setCell ⟨gc, 1, none⟩ (.int .i64 ((p1 : Int) + 1)) = w8 := ⟨_, rfl⟩
          rw [hw8] at T8 ⊢
          clear hw8 j0 j1 jb jf jl TA hM
          have NONE := Lib.hid (fun (r : List Kid) (s' : Cs) (h : Sim (kidsP M []) xs (p1 + 1, false) r s') (hb : s'.2 = true) => (show nodeP (xs.drop p) = none from
            sim_none (s := (p, false)) (Sim.B S0.out (Sim.B S1.out (Sim.B S2.out (Sim.B h (Sim.bad (v := (⟨none, []⟩ : Nd)) (Nat.le_refl _) hb (fun h => by rw [hb] at h; cases h)))))) rfl hb))
          go_wp2_with fail
          go_loopw [12] (fun i wr => ∃ (k : Nat) (L : List Kid) (v : Value) (sk : Nat), k ≤ M ∧ i = .int .i64 k ∧ L.length = k ∧ RrI w wr gc b o c xs (sk, false) g0 gx none L v ∧ Hid (∀ r s', Sim (kidsP (M - k) L) xs (sk, false) r s' → Sim (kidsP M []) xs (p1 + 1, false) r s')) (fun i _ => M - (intOf i).toNat)
          case atStart => exact ⟨0, [], _, p1 + 1, Nat.zero_le _, rfl, rfl, T8.out, Lib.hid (fun r s' h => h)⟩
          case round =>
            obtain ⟨k, L, v, sk, hk, rfl, hl, hT, CO⟩ := hrel
            obtain ⟨q, cq, rfl⟩ := own_slice hT.own
            have T := Lib.hid hT
            have HL := Lib.hid hl
            clear hT hl T8
            by_cases hlt : k < M
            · have ST := Lib.hid (simR_tx xs (sk, false))
              have CO2 := Lib.hid (show ∀ r s', Sim (kidsP (M - (k + 1) + 1) L) xs (sk, false) r s' → Sim (kidsP M []) xs (p1 + 1, false) r s' by rw [show M - (k + 1) + 1 = M - k by omega]; exact CO.out)
              have dkM : decide ((k : Int) < (M : Int)) = true := by simp; omega
              have dkM2 : decide (k < M) = true := by simp; omega
              clear CO
              go_wp2_with fail
              refine (text9_any T.out.rd).mono ?_
              rintro e wa ⟨rfl, hp, hg⟩
              have Ta := Lib.hid (T.out.call hp hg)
              clear hp hg T
              obtain ⟨E, hE⟩ : ∃ z, z = (txR xs (sk, false)).1 := ⟨_, rfl⟩
              obtain ⟨s4, hs4⟩ : ∃ z, z = (txR xs (sk, false)).2 := ⟨_, rfl⟩
              have BE := Lib.hid (show Byt E by
                rw [hE]; unfold txR
                split
                · exact (HR.out.drop _).pre
                · intro x hx; cases hx)
              rw [← hE, ← hs4] at ST
              rw [← hs4] at Ta
              rw [← hE]
              clear hE hs4
              have gb := grown1 wa (.cells #[.string (strOfNums E), .int .i64 (-1)] 151)
              have kb : KidRIn (wa.alloc (.cells #[.string (strOfNums E), .int .i64 (-1)] 151)) wa.heap.size (E, -1) := heap_alloc_new wa _
              have Tb := Lib.hid (Ta.out.same gb)
              have Kb := Lib.hid kb
              have LK := Lib.hid (And.intro (show w.heap.size ≤ wa.heap.size from Ta.out.grown.size) (And.intro Ta.out.rd.lt (And.intro Ta.out.res.lt (And.intro Ta.out.nod.lt (fun g (e : (Value.slice q L.length cq).ownBlock = some g) => ((Ta.out.own.lt g e).2 : g < wa.heap.size))))))
              obtain ⟨wb, hwb⟩ : ∃ wb, wa.alloc (.cells #[.string (strOfNums E), .int .i64 (-1)] 151) = wb := ⟨_, rfl⟩
              obtain ⟨gk, hgk⟩ : ∃ gk, wa.heap.size = gk := ⟨_, rfl⟩
              rw [hwb] at Tb Kb
              rw [hgk] at Kb LK
              have HWb := Lib.hid hwb
              have HGK := Lib.hid hgk
              clear gb kb hwb hgk Ta
              go_upto_region 21 with fail
              rw [HWb.out, HGK.out]
              clear HWb HGK
              have SU := Lib.hid (simR_ul xs s4)
              have BU := Lib.hid (ulR_bd (xs := xs) (s := s4))
              go_wp2_with fail
              refine (number9_any Tb.out.rd).mono ?_
              rintro e wc ⟨rfl, hp, hg⟩
              have Tc := Lib.hid (Tb.out.call hp hg)
              have kc := Kb.out.kept hg (by intro e; injection e with e; have := LK.out.2.1; omega)
              have Kc := Lib.hid kc
              have kf := kc.fz
              have kl := kc.lt
              have k1 := kc.c1
              clear hp hg Tb Kb kc
              obtain ⟨P, hP⟩ : ∃ z, z = (ulR xs s4).1 := ⟨_, rfl⟩
              obtain ⟨s5, hs5⟩ : ∃ z, z = (ulR xs s4).2 := ⟨_, rfl⟩
              rw [← hP, ← hs5] at SU
              rw [← hP] at BU
              rw [← hs5] at Tc
              rw [← hP]
              clear hP hs5
              have LE := Lib.hid SU.out.le
              have bu0 := BU.out.1
              have bu1 := BU.out.2
              by_cases hPn : P < (xs.length : Int)
              · have dP : decide (P < (xs.length : Int)) = true := decide_eq_true hPn
                have RK := Lib.hid (show rkid xs.length (E, P) = (E, P) by unfold rkid; rw [if_pos hPn])
                have hwP : IntKind.i64.wrap P = P := IntWalk.i64_in _ (by omega)
                have gz := grown_setCell (i := 1) (grown_refl wc (some gk)) (.int .i64 P)
                have Td := Lib.hid (Tc.out.mine gz LK.out.1 (by have := LK.out.2.1; omega) (by have := LK.out.2.2.1; omega) (by have := LK.out.2.2.2.1; omega) (by intro e; have := LK.out.2.2.2.2 gk e; omega))
                have Kd := Lib.hid (Kc.out.place P)
                go_upto_region 24 with fail
                obtain ⟨wd, hwd⟩ : ∃ wd, wc.setCell ⟨gk, 1, none⟩ (.int .i64 P) = wd := ⟨_, rfl⟩
                rw [hwd] at Td Kd
                (try rw [hwd])
                clear hwd gz kf kl k1 Tc Kc hPn bu0 bu1 hwP dP
                have i2 := Td.out.rd.c2
                have q0 := Kd.out.c0
                have q1 := Kd.out.c1
                have ql := Kd.out.lt
                obtain ⟨p5, bad5⟩ := s5
                simp only [] at i2 LE
                cases bad5 with
                | true =>
                  have NN0 := Lib.hid (NONE.out [] (p5, true) (CO2.out _ _ (Sim.B ST.out (Sim.B SU.out (Sim.bad (Nat.le_refl _) rfl (fun h => by cases h))))) rfl)
                  have NN := Lib.hid (show ndAt xs p = none from ndAt_no (NN0.out))
                  have FN := Lib.hid (Td.out.fin NN.out)
                  obtain ⟨d0, d1, d2, d3, d4, d5, d6, d7, d8⟩ := Td.out.res.c
                  have df := Td.out.res.fz
                  have dl := Td.out.res.lt
                  go_wp2_with fail
                  refine bodyPost_ret (results_nodeR2 rfl rfl rfl FN.out.1) rfl ?_
                  exact FN.out.2
                | false =>
                  by_cases hE : E = []
                  · have he : (strOfNums E).toList.isEmpty = true := by rw [hE, Lib.strOfNums_toList]; rfl
                    have NN0 := Lib.hid (NONE.out [] (p5, true) (CO2.out _ _ (Sim.B ST.out (Sim.B SU.out (by rw [if_pos (.inl hE)]; exact Sim.F _ (Nat.le_refl _) rfl)))) rfl)
                    clear hE
                    have NN := Lib.hid (show ndAt xs p = none from ndAt_no (NN0.out))
                    have FN := Lib.hid (Td.out.fin NN.out)
                    obtain ⟨d0, d1, d2, d3, d4, d5, d6, d7, d8⟩ := Td.out.res.c
                    have df := Td.out.res.fz
                    have dl := Td.out.res.lt
                    go_wp2_with fail
                    refine bodyPost_ret (results_nodeR2 rfl rfl rfl FN.out.1) rfl ?_
                    exact FN.out.2
                  · have he : (strOfNums E).toList.isEmpty = false := by
                      rw [Lib.strOfNums_toList]
                      cases E with
                      | nil => exact absurd rfl hE
                      | cons => rfl
                    have HE := Lib.hid hE
                    obtain ⟨m0, m1, m2, m3, m4, m5, m6, m7, m8⟩ := Td.out.nod.c
                    have ml := Td.out.nod.lt
                    clear hE m0 m1 m2 m3 m4 m5 m6 m7
                    go_wp2_with fail
                    go_loopw [15] (fun jj wi => ∃ (j : Nat), j ≤ L.length ∧ jj = .int .i64 j ∧ RrI w wi gc b o c xs (p5, false) g0 gx none L (.slice q L.length cq) ∧ KidRIn wi gk (E, P) ∧ ∀ i y, i < j → L[i]? = some y → (y.1.getD 0 0 == E.getD 0 0) = false) (fun jj _ => L.length - (intOf jj).toNat)
                    case atStart => exact ⟨0, Nat.zero_le _, rfl, Td.out, Kd.out, fun i y h => by omega⟩
                    case round =>
                      obtain ⟨j, hj, rfl, hTi, hKi, hno⟩ := hrel
                      have Ti := Lib.hid hTi
                      have Ki := Lib.hid hKi
                      have NO := Lib.hid hno
                      obtain ⟨m0, m1, m2, m3, m4, m5, m6, m7, m8⟩ := hTi.nod.c
                      have ml := hTi.nod.lt
                      have q0 := hKi.c0
                      have q1 := hKi.c1
                      have ql := hKi.lt
                      clear hTi hKi hno m0 m1 m2 m3 m4 m5 m6 m7 i2
                      have hLk : L.length < 256 := by have := HL.out; omega
                      have hLc := own_roomE Ti.out.own
                      have hLm := own_maxE Ti.out.own
                      by_cases hjl : j < L.length
                      · obtain ⟨y, hy⟩ : ∃ y, L[j]? = some y := ⟨_, List.getElem?_eq_getElem hjl⟩
                        have hy2 : (L.map (rkid xs.length))[j]? = some (rkid xs.length y) := by rw [List.getElem?_map, hy]; rfl
                        obtain ⟨gq, rfl, c0, c1⟩ := KidsR.of Ti.out.own j _ hy2
                        have yo := Ti.out.each y (List.mem_of_getElem? hy)
                        have HY := Lib.hid hy
                        have dj : decide ((j : Int) < (L.length : Int)) = true := by simp; omega
                        have dj2 : decide (j < L.length) = true := by simp; omega
                        have hjli : (j : Int) < (L.length : Int) := by omega
                        have c0' : wr.cell? ⟨gq, j * 2, none⟩ = some (.string (strOfNums y.1)) := c0
                        have MT := Lib.hid (fun (h : (y.1.getD 0 0 == E.getD 0 0) = true) => (show meets E L = true by
                          unfold meets; rw [List.any_eq_true]; exact ⟨y, List.mem_of_getElem? hy, h⟩))
                        obtain ⟨ye, yp⟩ := y
                        simp only [] at c0' yo MT
                        cases ye with
                        | nil => exact absurd rfl yo.1
                        | cons yx ys =>
                        cases hEE : E with
                        | nil => exact absurd hEE HE.out
                        | cons ex es =>
                        have y1 := bt_nums yx ys (yo.2 yx (List.mem_cons_self ..))
                        have y2 := bt_nums ex es ((hEE ▸ BE.out : Byt (ex :: es)) ex (List.mem_cons_self ..))
                        have z1 : 0 < (strOfNums (yx :: ys)).size := by rw [strOfNums_size]; simp
                        have z2 : 0 < (strOfNums (ex :: es)).size := by rw [strOfNums_size]; simp
                        have HEE := Lib.hid hEE
                        simp only [] at q0
                        rw [hEE] at q0
                        obtain ⟨S1', hS1⟩ : ∃ z, z = strOfNums (yx :: ys) := ⟨_, rfl⟩
                        obtain ⟨S2', hS2⟩ : ∃ z, z = strOfNums (ex :: es) := ⟨_, rfl⟩
                        rw [← hS1] at c0' y1 z1
                        rw [← hS2] at q0 y2 z2
                        have b1 := get_bt S1'
                        have b2 := get_bt S2'
                        have BQ := Lib.hid (show ((yx :: ys).getD 0 0 == E.getD 0 0) = (bt S1' 0 == bt S2' 0) by rw [y1, y2, hEE]; rfl)
                        obtain ⟨bq, hbq⟩ : ∃ z, z = (bt S1' 0 == bt S2' 0) := ⟨_, rfl⟩
                        rw [← hbq] at BQ
                        have hbq' := hbq.symm
                        clear hEE c0 c1 hy hy2 yo y1 y2 hS1 hS2 hbq hjl
                        cases bq with
                        | true =>
                          have NN0 := Lib.hid (NONE.out [] (p5, true) (CO2.out _ _ (Sim.B ST.out (Sim.B SU.out (by rw [if_pos (.inr (MT.out BQ.out))]; exact Sim.F _ (Nat.le_refl _) rfl)))) rfl)
                          have NN := Lib.hid (show ndAt xs p = none from ndAt_no NN0.out)
                          have FN := Lib.hid (fun n => (Ti.out.same (grown_drewN (grown_refl wr none) n)).fin NN.out)
                          obtain ⟨d0, d1, d2, d3, d4, d5, d6, d7, d8⟩ := Ti.out.res.c
                          have df := Ti.out.res.fz
                          have dl := Ti.out.res.lt
                          go_wp2
                          go_quiet (fail)
                          go_wp2
                          refine bodyPost_ret (results_nodeR2 rfl rfl rfl (FN.out _).1) rfl ?_
                          exact (FN.out _).2
                        | false =>
                          go_wp2
                          go_quiet (fail)
                          go_wp2
                          go_roundw
                          case rel =>
                            rw [← HEE.out]
                            refine ⟨j + 1, by omega, by go_num, Ti.out.same (grown_drewN (grown_refl _ _) _), Ki.out.kept (r := none) (grown_drewN (grown_refl _ _) _) (by simp), fun i y hi hy => ?_⟩
                            rcases Nat.lt_or_ge i j with h | h
                            · exact NO.out i y h hy
                            · obtain rfl : i = j := by omega
                              rw [HY.out] at hy
                              injection hy with hy
                              rw [← hy]; exact BQ.out
                          case measure => simp [intOf]; omega
                      · have NM := Lib.hid (any_kid L E j NO.out (by omega))
                        have dj : decide ((j : Int) < (L.length : Int)) = false := by simp; omega
                        have dj2 : decide (j < L.length) = false := by simp; omega
                        have gn := grown1 wr (.cells #[.string (strOfNums E), .int .i64 P] 151)
                        have T12 := Lib.hid (Ti.out.same gn)
                        have N12 := Lib.hid (heap_alloc_new wr (.cells #[.string (strOfNums E), .int .i64 P] 151))
                        have SZ := Lib.hid (show w.heap.size ≤ wr.heap.size from Ti.out.grown.size)
                        clear hjl gn
                        go_wp2_with (at_builtin; refine wp_append_st kidTypeR rfl _ _ rfl _ L.length _ rfl T12.out.own [.string (strOfNums E), .int .i64 P] rfl wr.heap.size rfl N12.out (kidCsR_one (E, P)) (by have := HL.out; omega) (by decide) ?_ ?_)
                        · have := SZ.out; (try rw [World.size_alloc]); omega
                        intro v' wz ho hg3
                        obtain ⟨q', c', rfl⟩ := own_slice ho
                        have nd3 := T12.out.nod.kept hg3 (own_ne T12.out.own T12.out.nod (by decide))
                        have c8 := nd3.c.2.2.2.2.2.2.2.2
                        have cf := nd3.fz
                        have cl := nd3.lt
                        have T13 := Lib.hid (T12.out.more (E, P) ⟨HE.out, BE.out⟩ (by rw [RK.out]; exact ho) hg3)
                        clear nd3 ho hg3 m8 ml q0 q1 ql
                        go_wp2
                        go_roundw
                        case rel => exact ⟨k + 1, L ++ [(E, P)], _, p5, hlt, by go_num, by rw [List.length_append, HL.out]; rfl, T13.out, Lib.hid (fun r s' h => CO2.out r s' (Sim.B ST.out (Sim.B SU.out (by rw [if_neg (fun h => h.elim HE.out (fun h => by rw [NM.out] at h; cases h))]; exact h))))⟩
                        case measure => simp [intOf]; omega
              · have dP : decide (P < (xs.length : Int)) = false := decide_eq_false hPn
                have RK := Lib.hid (show rkid xs.length (E, P) = (E, -1) by unfold rkid; rw [if_neg hPn])
                have Td := Tc
                have Kd := Kc
                go_upto_region 24 with fail
                clear kf kl k1 Tc Kc hPn bu0 bu1 dP
                have i2 := Td.out.rd.c2
                have q0 := Kd.out.c0
                have q1 := Kd.out.c1
                have ql := Kd.out.lt
                obtain ⟨p5, bad5⟩ := s5
                simp only [] at i2 LE
                cases bad5 with
                | true =>
                  have NN0 := Lib.hid (NONE.out [] (p5, true) (CO2.out _ _ (Sim.B ST.out (Sim.B SU.out (Sim.bad (Nat.le_refl _) rfl (fun h => by cases h))))) rfl)
                  have NN := Lib.hid (show ndAt xs p = none from ndAt_no (NN0.out))
                  have FN := Lib.hid (Td.out.fin NN.out)
                  obtain ⟨d0, d1, d2, d3, d4, d5, d6, d7, d8⟩ := Td.out.res.c
                  have df := Td.out.res.fz
                  have dl := Td.out.res.lt
                  go_wp2_with fail
                  refine bodyPost_ret (results_nodeR2 rfl rfl rfl FN.out.1) rfl ?_
                  exact FN.out.2
                | false =>
                  by_cases hE : E = []
                  · have he : (strOfNums E).toList.isEmpty = true := by rw [hE, Lib.strOfNums_toList]; rfl
                    have NN0 := Lib.hid (NONE.out [] (p5, true) (CO2.out _ _ (Sim.B ST.out (Sim.B SU.out (by rw [if_pos (.inl hE)]; exact Sim.F _ (Nat.le_refl _) rfl)))) rfl)
                    clear hE
                    have NN := Lib.hid (show ndAt xs p = none from ndAt_no (NN0.out))
                    have FN := Lib.hid (Td.out.fin NN.out)
                    obtain ⟨d0, d1, d2, d3, d4, d5, d6, d7, d8⟩ := Td.out.res.c
                    have df := Td.out.res.fz
                    have dl := Td.out.res.lt
                    go_wp2_with fail
                    refine bodyPost_ret (results_nodeR2 rfl rfl rfl FN.out.1) rfl ?_
                    exact FN.out.2
                  · have he : (strOfNums E).toList.isEmpty = false := by
                      rw [Lib.strOfNums_toList]
                      cases E with
                      | nil => exact absurd rfl hE
                      | cons => rfl
                    have HE := Lib.hid hE
                    obtain ⟨m0, m1, m2, m3, m4, m5, m6, m7, m8⟩ := Td.out.nod.c
                    have ml := Td.out.nod.lt
                    clear hE m0 m1 m2 m3 m4 m5 m6 m7
                    go_wp2_with fail
                    go_loopw [15] (fun jj wi => ∃ (j : Nat), j ≤ L.length ∧ jj = .int .i64 j ∧ RrI w wi gc b o c xs (p5, false) g0 gx none L (.slice q L.length cq) ∧ KidRIn wi gk (E, (-1)) ∧ ∀ i y, i < j → L[i]? = some y → (y.1.getD 0 0 == E.getD 0 0) = false) (fun jj _ => L.length - (intOf jj).toNat)
                    case atStart => exact ⟨0, Nat.zero_le _, rfl, Td.out, Kd.out, fun i y h => by omega⟩
                    case round =>
                      obtain ⟨j, hj, rfl, hTi, hKi, hno⟩ := hrel
                      have Ti := Lib.hid hTi
                      have Ki := Lib.hid hKi
                      have NO := Lib.hid hno
                      obtain ⟨m0, m1, m2, m3, m4, m5, m6, m7, m8⟩ := hTi.nod.c
                      have ml := hTi.nod.lt
                      have q0 := hKi.c0
                      have q1 := hKi.c1
                      have ql := hKi.lt
                      clear hTi hKi hno m0 m1 m2 m3 m4 m5 m6 m7 i2
                      have hLk : L.length < 256 := by have := HL.out; omega
                      have hLc := own_roomE Ti.out.own
                      have hLm := own_maxE Ti.out.own
                      by_cases hjl : j < L.length
                      · obtain ⟨y, hy⟩ : ∃ y, L[j]? = some y := ⟨_, List.getElem?_eq_getElem hjl⟩
                        have hy2 : (L.map (rkid xs.length))[j]? = some (rkid xs.length y) := by rw [List.getElem?_map, hy]; rfl
                        obtain ⟨gq, rfl, c0, c1⟩ := KidsR.of Ti.out.own j _ hy2
                        have yo := Ti.out.each y (List.mem_of_getElem? hy)
                        have HY := Lib.hid hy
                        have dj : decide ((j : Int) < (L.length : Int)) = true := by simp; omega
                        have dj2 : decide (j < L.length) = true := by simp; omega
                        have hjli : (j : Int) < (L.length : Int) := by omega
                        have c0' : wr.cell? ⟨gq, j * 2, none⟩ = some (.string (strOfNums y.1)) := c0
                        have MT := Lib.hid (fun (h : (y.1.getD 0 0 == E.getD 0 0) = true) => (show meets E L = true by
                          unfold meets; rw [List.any_eq_true]; exact ⟨y, List.mem_of_getElem? hy, h⟩))
                        obtain ⟨ye, yp⟩ := y
                        simp only [] at c0' yo MT
                        cases ye with
                        | nil => exact absurd rfl yo.1
                        | cons yx ys =>
                        cases hEE : E with
                        | nil => exact absurd hEE HE.out
                        | cons ex es =>
                        have y1 := bt_nums yx ys (yo.2 yx (List.mem_cons_self ..))
                        have y2 := bt_nums ex es ((hEE ▸ BE.out : Byt (ex :: es)) ex (List.mem_cons_self ..))
                        have z1 : 0 < (strOfNums (yx :: ys)).size := by rw [strOfNums_size]; simp
                        have z2 : 0 < (strOfNums (ex :: es)).size := by rw [strOfNums_size]; simp
                        have HEE := Lib.hid hEE
                        simp only [] at q0
                        rw [hEE] at q0
                        obtain ⟨S1', hS1⟩ : ∃ z, z = strOfNums (yx :: ys) := ⟨_, rfl⟩
                        obtain ⟨S2', hS2⟩ : ∃ z, z = strOfNums (ex :: es) := ⟨_, rfl⟩
                        rw [← hS1] at c0' y1 z1
                        rw [← hS2] at q0 y2 z2
                        have b1 := get_bt S1'
                        have b2 := get_bt S2'
                        have BQ := Lib.hid (show ((yx :: ys).getD 0 0 == E.getD 0 0) = (bt S1' 0 == bt S2' 0) by rw [y1, y2, hEE]; rfl)
                        obtain ⟨bq, hbq⟩ : ∃ z, z = (bt S1' 0 == bt S2' 0) := ⟨_, rfl⟩
                        rw [← hbq] at BQ
                        have hbq' := hbq.symm
                        clear hEE c0 c1 hy hy2 yo y1 y2 hS1 hS2 hbq hjl
                        cases bq with
                        | true =>
                          have NN0 := Lib.hid (NONE.out [] (p5, true) (CO2.out _ _ (Sim.B ST.out (Sim.B SU.out (by rw [if_pos (.inr (MT.out BQ.out))]; exact Sim.F _ (Nat.le_refl _) rfl)))) rfl)
                          have NN := Lib.hid (show ndAt xs p = none from ndAt_no NN0.out)
                          have FN := Lib.hid (fun n => (Ti.out.same (grown_drewN (grown_refl wr none) n)).fin NN.out)
                          obtain ⟨d0, d1, d2, d3, d4, d5, d6, d7, d8⟩ := Ti.out.res.c
                          have df := Ti.out.res.fz
                          have dl := Ti.out.res.lt
                          go_wp2
                          go_quiet (fail)
                          go_wp2
                          refine bodyPost_ret (results_nodeR2 rfl rfl rfl (FN.out _).1) rfl ?_
                          exact (FN.out _).2
                        | false =>
                          go_wp2
                          go_quiet (fail)
                          go_wp2
                          go_roundw
                          case rel =>
                            rw [← HEE.out]
                            refine ⟨j + 1, by omega, by go_num, Ti.out.same (grown_drewN (grown_refl _ _) _), Ki.out.kept (r := none) (grown_drewN (grown_refl _ _) _) (by simp), fun i y hi hy => ?_⟩
                            rcases Nat.lt_or_ge i j with h | h
                            · exact NO.out i y h hy
                            · obtain rfl : i = j := by omega
                              rw [HY.out] at hy
                              injection hy with hy
                              rw [← hy]; exact BQ.out
                          case measure => simp [intOf]; omega
                      · have NM := Lib.hid (any_kid L E j NO.out (by omega))
                        have dj : decide ((j : Int) < (L.length : Int)) = false := by simp; omega
                        have dj2 : decide (j < L.length) = false := by simp; omega
                        have gn := grown1 wr (.cells #[.string (strOfNums E), .int .i64 (-1)] 151)
                        have T12 := Lib.hid (Ti.out.same gn)
                        have N12 := Lib.hid (heap_alloc_new wr (.cells #[.string (strOfNums E), .int .i64 (-1)] 151))
                        have SZ := Lib.hid (show w.heap.size ≤ wr.heap.size from Ti.out.grown.size)
                        clear hjl gn
                        go_wp2_with (at_builtin; refine wp_append_st kidTypeR rfl _ _ rfl _ L.length _ rfl T12.out.own [.string (strOfNums E), .int .i64 (-1)] rfl wr.heap.size rfl N12.out (kidCsR_one (E, (-1))) (by have := HL.out; omega) (by decide) ?_ ?_)
                        · have := SZ.out; (try rw [World.size_alloc]); omega
                        intro v' wz ho hg3
                        obtain ⟨q', c', rfl⟩ := own_slice ho
                        have nd3 := T12.out.nod.kept hg3 (own_ne T12.out.own T12.out.nod (by decide))
                        have c8 := nd3.c.2.2.2.2.2.2.2.2
                        have cf := nd3.fz
                        have cl := nd3.lt
                        have T13 := Lib.hid (T12.out.more (E, P) ⟨HE.out, BE.out⟩ (by rw [RK.out]; exact ho) hg3)
                        clear nd3 ho hg3 m8 ml q0 q1 ql
                        go_wp2
                        go_roundw
                        case rel => exact ⟨k + 1, L ++ [(E, P)], _, p5, hlt, by go_num, by rw [List.length_append, HL.out]; rfl, T13.out, Lib.hid (fun r s' h => CO2.out r s' (Sim.B ST.out (Sim.B SU.out (by rw [if_neg (fun h => h.elim HE.out (fun h => by rw [NM.out] at h; cases h))]; exact h))))⟩
                        case measure => simp [intOf]; omega
            · have hkM : k = M := by omega
              have CO3 := Lib.hid (show ∀ r s', Sim (kidsP 0 L) xs (sk, false) r s' → Sim (kidsP M []) xs (p1 + 1, false) r s' by rw [show 0 = M - k by omega]; exact CO.out)
              have dkM : decide ((k : Int) < (M : Int)) = false := by simp; omega
              have dkM2 : decide (k < M) = false := by simp; omega
              have YES := Lib.hid (show ndAt xs p = some ⟨none, L⟩ from by
                have SX : Sim nodeP xs (p, false) (⟨none, L⟩ : Nd) (sk, false) := Sim.B S0.out (Sim.B S1.out (Sim.B S2.out (Sim.B (CO3.out L _ (Sim.R _ _)) (Sim.R _ _))))
                exact ndAt_yes hp (SX.ok rfl).2)
              clear CO hlt
              have TF := Lib.hid T.out
              obtain ⟨m0, m1, m2, m3, m4, m5, m6, m7, m8⟩ := T.out.nod.c
              obtain ⟨d0, d1, d2, d3, d4, d5, d6, d7, d8⟩ := T.out.res.c
              have df := T.out.res.fz
              have dl := T.out.res.lt
              have ml := T.out.nod.lt
              simp only [Option.isSome, exOf] at m0 m1 m2 m3 m4 m5 m6 m7
              go_wp2_with fail
              refine bodyPost_ret (results_nodeR2 rfl rfl rfl (TF.out.res.put false ⟨#[]⟩ Ex.zero (.slice q L.length cq))) rfl ?_
              have GP := fun W : World => grown_put9 (grown_refl W (some g0)) (.bool false) (.string ⟨#[]⟩) (.int .i64 (Ex.zero : Ex).kind) (.bool (Ex.zero : Ex).weak) (.int .u64 (Ex.zero : Ex).value) (.int .u64 (Ex.zero : Ex).resolver) (.int .u64 (Ex.zero : Ex).ordinal) (.string (strOfNums (Ex.zero : Ex).other)) (.slice q L.length cq)
              exact ⟨.inl ⟨⟨none, L⟩, .slice q L.length cq, YES.out, rfl, TF.out.own.kept (GP _) (.inr (own_ne TF.out.own TF.out.res (by decide)))⟩, grown_new TF.out.grown (GP _) TF.out.new0⟩
end Go.Proofs.YtbnnlbdjjpmgeaaGreat

