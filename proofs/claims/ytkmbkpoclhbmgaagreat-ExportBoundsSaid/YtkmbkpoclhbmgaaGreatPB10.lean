/- Parts of the proof, put together: TrH, TrJ, NlN, NlM, PenT, NlT, NlA, NlB, NlC, NlR. No condition beyond those that each part names. -/
import Derived.Shelf.Small.Bits
import Derived.Shelf.Small.Strs
import Derived.Shelf.Strconv.Itoa0
import Derived.Shelf.Strings.Search1
import Derived.Shelf.Bytes.SlIndexAt
import Derived.Shelf.Bytes.SlSearch0
import Derived.Ground.SlbCloneProg
import Derived.Shelf.Bytes.SlClone
import Derived.Shelf.Bytes.IndexByte
import Derived.Test.YtkmbkpoclhbmgaaGreatProg
import Derived.Test.YtkmbkpoclhbmgaaGreatRows
import Derived.WalkKit
import Derived.WalkSpells
import Derived.WalkLawsBesides
import Derived.BigQuiet
import Derived.Deep.QuietTactic
import Derived.Lib.Hide
import Derived.IntWalk
import Derived.OneCell
import Derived.Laws.Rows
import Derived.OpenShut
import Derived.ProofKit
import Derived.Lib.EndianBits
import Derived.RegionTactic
import Derived.ChangeAlike
import Derived.WalkMore
import Derived.Laws.BytesArg
import Derived.Shelf.Bytes.SlEqualAll
import Derived.Lib.SlFresh
import Derived.Maps.AppendAt
import Derived.Deep.AppendSrc
import Derived.Deep.Upon
import Derived.Lib.AppendZeros
import Derived.Laws.IdiomStrings
import Derived.Lib.AppendZerosOnto
import Derived.Laws.StructEq
import Derived.Below
import Derived.Shelf.Abstract
import Derived.Laws.ResultCell
import Derived.Deep.Slices
import Derived.ChangeSame
import Derived.Laws.OwnMore
import Derived.Laws.Slices
import Derived.Lib.ConvBytes
import Derived.StringKeys
import Derived.Maps.Own
import Derived.Maps.OwnOps
import Derived.Maps.OwnSet
import Derived.WideShapes
import Derived.Deep.LoopGhost
import Derived.StillTailTactics
import Derived.Deep.Cut
import Derived.Deep.CutRange
import Derived.PlainAid
import Derived.Lib.SlBytesRow
import Derived.Deep.Onto
import Derived.Laws.EntriesVeiled
import Derived.Shelf.SlSortCmp.WholeK
import Derived.Shelf.SlGeneric
import Derived.Ground.SlsfProg
import Derived.Laws.Bits128
import Derived.Deep.RegionWith
import Derived.Deep.RegionHeld3
import Derived.Lib.SmallJoins
import Derived.Deep.RegionLaw
import Derived.Deep.RegionHeld
import Derived.Lib.QuietBelow
import Derived.Test.YtkmbkpoclhbmgaaGreatPB1
import Derived.Test.YtkmbkpoclhbmgaaGreatPB2
import Derived.Test.YtkmbkpoclhbmgaaGreatPB4
import Derived.Test.YtkmbkpoclhbmgaaGreatPB5
import Derived.Test.YtkmbkpoclhbmgaaGreatPB7
import Derived.Test.YtkmbkpoclhbmgaaGreatPB8
namespace Go.Proofs.YtkmbkpoclhbmgaaGreat
open Go.RowKit
variable {w w' W V : World} {xs : List Int}

def InvFind (cn co : Nat) (t : List Int) (W : World) (G : Nat → Prop) (own : Option Ex) : Prop :=
  OneAt W cn (.string (strOfNums t)) 9 ∧ (∃ q n c, NodeAt W co own.isSome (nmOf (strOfNums t) own) (exOf own) (.slice q n c)) ∧ G cn ∧ G co
theorem invFind_kept {cn co : Nat} {t : List Int} {G H : Nat → Prop} {own : Option Ex} (h : InvFind cn co t W G own) (hg : Chg H W V) (hd : ∀ k, G k → ¬ H k) : InvFind cn co t V G own := by
  obtain ⟨h1, ⟨q, n, c, h2⟩, h3, h4⟩ := h
  exact ⟨h1.chg hg (hd _ h3), ⟨q, n, c, (hg.block co (lt_of_block h2) (hd _ h4)).trans h2⟩, h3, h4⟩
theorem NodeAt.putAny {g0 : Nat} {b0 : Bool} {nm0 : ByteArray} {x0 : Ex} {v0 : Value} (h : NodeAt W g0 b0 nm0 x0 v0) (b : Bool) (nm' : ByteArray) (y : Ex) (v' : Value) :
    NodeAt (((((((((W.setCell ⟨g0, 0, none⟩ (.bool b)).setCell ⟨g0, 1, none⟩ (.string nm')).setCell ⟨g0, 2, none⟩ (.int .i64 y.kind)).setCell ⟨g0, 3, none⟩ (.bool y.weak)).setCell ⟨g0, 4, none⟩ (.int .u64 y.value)).setCell ⟨g0, 5, none⟩ (.int .u64 y.resolver)).setCell ⟨g0, 6, none⟩ (.int .u64 y.ordinal)).setCell ⟨g0, 7, none⟩ (.string (strOfNums y.other))).setCell ⟨g0, 8, none⟩ v') g0 b nm' y v' :=
  ((((((((h.s0 b).s1 nm').s2 y.kind).s3 y.weak).s4 y.value).s5 y.resolver).s6 y.ordinal).s7 y.other).kids v'
set_option maxRecDepth 20000 in
set_option maxHeartbeats 3200000 in
theorem find1_any {cn co : Nat} {t : List Int} (ht : Byt t) {G : Nat → Prop} {own : Option Ex} {name : List Int} {nd : Nd} {v : Value} {base : Nat} (h : InvFind cn co t W G own) (hp : ∃ rest, t = name ++ rest) (hk : NdOk nd) (ho : W.ownsRow base 145 2 v nd.kids.length (nd.kids.flatMap kidCs)) (hv : ∀ g, v.ownBlock = some g → ¬ G g) (hG : ∀ k, G k → k < W.heap.size) :
    Calls Tryz.prog 191 #[.string (strOfNums name), nodeV nd.ex.isSome (nmOf (strOfNums name) nd.ex) (exOf nd.ex) v, .pointer (some ⟨cn, 0, none⟩), .pointer (some ⟨co, 0, none⟩)] W fun e W' => MOut (Option Ex) (mtFind t) (InvFind cn co t) own name nd v G W W' e := by
  obtain ⟨q, c, rfl⟩ := own_slice ho
  obtain ⟨o1, ⟨qo, no, co', n1⟩, a3, a4⟩ := h
  obtain ⟨rest, hrest⟩ := hp
  have hkl : nd.kids.length ≤ 255 := hk.few
  have hrm := own_room8 ho
  have hc63 : c ≤ 9223372036854775807 := by
    rcases ho.2 with ⟨hn, _⟩ | ⟨g, cp, cur, hn, _, _, _, hm, _⟩
    · injection hn with _ _ e; omega
    · injection hn with _ _ e; unfold maxLen at hm; omega
  have hdrop : t.drop name.length = rest := by rw [hrest]; simp
  have hl1 : name.length + rest.length = t.length := by rw [hrest, List.length_append]
  have CUT := Lib.hid (show (strOfNums t).extract name.length t.length = strOfNums rest by rw [strOf_cut, List.take_length, hdrop])
  have hcut := CUT.out
  have st : (strOfNums t).size = t.length := strOfNums_size _
  have sn : (strOfNums name).size = name.length := strOfNums_size _
  have hnl : name.length ≤ t.length := by omega
  have g1 := grown1 W (.cells #[.bool nd.ex.isSome, .string (nmOf (strOfNums name) nd.ex), .int .i64 (exOf nd.ex).kind, .bool (exOf nd.ex).weak, .int .u64 (exOf nd.ex).value, .int .u64 (exOf nd.ex).resolver, .int .u64 (exOf nd.ex).ordinal, .string (strOfNums (exOf nd.ex).other), .slice q nd.kids.length c] 87)
  have N1 := Lib.hid (show NodeAt (W.alloc (.cells #[.bool nd.ex.isSome, .string (nmOf (strOfNums name) nd.ex), .int .i64 (exOf nd.ex).kind, .bool (exOf nd.ex).weak, .int .u64 (exOf nd.ex).value, .int .u64 (exOf nd.ex).resolver, .int .u64 (exOf nd.ex).ordinal, .string (strOfNums (exOf nd.ex).other), .slice q nd.kids.length c] 87)) W.heap.size nd.ex.isSome (nmOf (strOfNums name) nd.ex) (exOf nd.ex) (.slice q nd.kids.length c) from heap_alloc_new W _)
  obtain ⟨W1, hW1⟩ : ∃ W1, W.alloc (.cells #[.bool nd.ex.isSome, .string (nmOf (strOfNums name) nd.ex), .int .i64 (exOf nd.ex).kind, .bool (exOf nd.ex).weak, .int .u64 (exOf nd.ex).value, .int .u64 (exOf nd.ex).resolver, .int .u64 (exOf nd.ex).ordinal, .string (strOfNums (exOf nd.ex).other), .slice q nd.kids.length c] 87) = W1 := ⟨_, rfl⟩
  obtain ⟨gn, hgn⟩ : ∃ gn, W.heap.size = gn := ⟨_, rfl⟩
  rw [hW1] at g1 N1
  rw [hgn] at N1
  have O1 := Lib.hid (o1.grown g1)
  have M1 := Lib.hid (n1.kept g1 (by simp))
  have KS1 := Lib.hid (own_grown ho g1)
  have C1 := Lib.hid (show Chg G W W1 from Chg.of_grown g1 (fun b e => by cases e))
  have AG := Lib.hid (And.intro a3 a4)
  have HV := Lib.hid hv
  have HK := Lib.hid (And.intro hrm (And.intro hc63 hk))
  have HG := Lib.hid hG
  have HW1 := Lib.hid hW1
  have HGN := Lib.hid hgn
  have HT := Lib.hid (And.intro ht (And.intro hrest hdrop))
  have c0 := (o1.grown g1).c
  have cl := (o1.grown g1).lt
  clear o1 n1 a3 a4 g1 ho hv hk hG hW1 hgn hrest hdrop ht CUT
  unfold nodeV
  go_enter Tryz.func191, Tryz.ntmps191
  go_upto_region 1 with fail
  rw [HW1.out, HGN.out]
  clear HW1
  obtain ⟨d0, d1, d2, d3, d4, d5, d6, d7, d8⟩ := N1.out.c
  have dl := N1.out.lt
  by_cases hr : rest = []
  · have he : (strOfNums rest).toList.isEmpty = true := by rw [hr, Lib.strOfNums_toList]; rfl
    have eM : mtFind t own name nd = (nd.ex, [], 0) := if_pos (by rw [HT.out.2.2, hr])
    have eN : nmOf (strOfNums name) nd.ex = nmOf (strOfNums t) nd.ex := by rw [HT.out.2.1, hr, List.append_nil]
    have GP := grown_put9 (grown_refl W1 (some co)) (.bool nd.ex.isSome) (.string (nmOf (strOfNums name) nd.ex)) (.int .i64 (exOf nd.ex).kind) (.bool (exOf nd.ex).weak) (.int .u64 (exOf nd.ex).value) (.int .u64 (exOf nd.ex).resolver) (.int .u64 (exOf nd.ex).ordinal) (.string (strOfNums (exOf nd.ex).other)) (.slice q nd.kids.length c)
    have PUT := M1.out.putAny nd.ex.isSome (nmOf (strOfNums name) nd.ex) (exOf nd.ex) (.slice q nd.kids.length c)
    have hne : (some co : Option Nat) ≠ some cn := by
      intro e
      injection e with e
      have h1 := O1.out
      have h2 := M1.out
      unfold OneAt at h1
      unfold NodeAt at h2
      rw [← e, h2] at h1
      injection h1 with h1
      injection h1 with _ h1 _
      exact absurd h1 (by decide)
    obtain ⟨Wp, hWp⟩ : ∃ Wp, ((((((((W1.setCell ⟨co, 0, none⟩ (.bool nd.ex.isSome)).setCell ⟨co, 1, none⟩ (.string (nmOf (strOfNums name) nd.ex))).setCell ⟨co, 2, none⟩ (.int .i64 (exOf nd.ex).kind)).setCell ⟨co, 3, none⟩ (.bool (exOf nd.ex).weak)).setCell ⟨co, 4, none⟩ (.int .u64 (exOf nd.ex).value)).setCell ⟨co, 5, none⟩ (.int .u64 (exOf nd.ex).resolver)).setCell ⟨co, 6, none⟩ (.int .u64 (exOf nd.ex).ordinal)).setCell ⟨co, 7, none⟩ (.string (strOfNums (exOf nd.ex).other))).setCell ⟨co, 8, none⟩ (.slice q nd.kids.length c) = Wp := ⟨_, rfl⟩
    rw [hWp] at GP PUT
    rw [eN] at PUT
    have i1 : InvFind cn co t Wp G nd.ex := ⟨O1.out.kept GP hne, ⟨_, _, _, PUT⟩, AG.out⟩
    have ch : Chg G W Wp := C1.out.trans (Chg.of_grown GP (fun b e => by injection e with e; exact .inl (e ▸ AG.out.2)))
    have FN := Lib.hid (show MOut (Option Ex) (mtFind t) (InvFind cn co t) own name nd (.slice q nd.kids.length c) G W Wp (.returned (.tuple #[.slice none 0 0, .int .i64 0])) from
      { ex := ⟨none, 0, G, by rw [eM]; rfl, by rw [eM]; exact i1, fun k hk => .inl hk, by rw [eM]; exact KidsAt.nil, fun g o e => (by cases e), by rw [eM]; exact Nat.le_refl _, by decide⟩, chg := ch })
    have HWp := Lib.hid hWp
    clear i1 ch hWp
    obtain ⟨e0, e1, e2, e3, e4, e5, e6, e7, e8⟩ := M1.out.c
    have ef := M1.out.fz
    have el := M1.out.lt
    clear hr eM eN GP PUT hne
    go_upto_region 4 with fail
    rw [HWp.out]
    clear HWp e0 e1 e2 e3 e4 e5 e6 e7 e8 ef el
    go_wp2
    go_ret2
    exact FN.out
  · have he : (strOfNums rest).toList.isEmpty = false := by
      rw [Lib.strOfNums_toList]
      cases rest with
      | nil => exact absurd rfl hr
      | cons => rfl
    have eM : mtFind t own name nd = (own, leadN nd.kids rest, 0) := by
      have e : mtFind t own name nd = (own, leadN nd.kids (t.drop name.length), 0) := if_neg (by rw [HT.out.2.2]; exact hr)
      rw [e, HT.out.2.2]
    have hbr : Byt rest := by
      have := HT.out.1
      rw [HT.out.2.1] at this
      exact fun x hx => this x (List.mem_append_right _ hx)
    have LE := Lib.hid (leading_any (w := W1) nd.kids nd.kids.length rfl q c hrm hc63 (KidsAt.of KS1.out) rest hbr (fun k hk => (HK.out.2.2.kids.each k hk).byt))
    have EM := Lib.hid eM
    clear hr hbr eM
    go_wp2_with fail
    refine LE.out.mono ?_
    rintro e W2 ⟨⟨q', c', rfl, hks, hq, hlc, hc2⟩, hg⟩
    have FN := Lib.hid (show MOut (Option Ex) (mtFind t) (InvFind cn co t) own name nd (.slice q nd.kids.length c) G W W2 (.returned (.tuple #[.slice q' (leadN nd.kids rest).length c', .int .i64 0])) from
      ⟨⟨q', c', G, by rw [EM.out], by rw [EM.out]; exact ⟨O1.out.grown hg, ⟨_, _, _, M1.out.kept hg (by simp)⟩, AG.out⟩, fun k hk => .inl hk, by rw [EM.out]; exact hks.grown hg, fun g o e => by
        obtain ⟨o', e'⟩ := hq g o e
        rw [e']; rfl, by rw [EM.out]; exact hlc, hc2⟩, C1.out.trans (Chg.of_grown hg (fun b e => by cases e))⟩)
    clear hks hq hlc hc2 hg
    go_wp2
    go_ret2
    exact FN.out
theorem findMeet (cn co : Nat) {t : List Int} (ht : Byt t) : MeetOk (Option Ex) 191 #[.pointer (some ⟨cn, 0, none⟩), .pointer (some ⟨co, 0, none⟩)] (mtFind t) (fun name => ∃ rest, t = name ++ rest) (fun _ => True) (InvFind cn co t) where
  enters := enters_of Tryz.func191 (by kernel_rfl) rfl
  kept := fun W V G s H h hg hd => invFind_kept h hg hd
  sub := fun s name nd x hx => by
    unfold mtFind at hx
    split at hx
    · cases hx
    · simp only [leadN] at hx
      split at hx
      · cases hx
      · rename_i k hk
        rw [List.mem_singleton.1 hx]
        exact List.mem_of_find?_eq_some hk
  pre := fun s name nd ⟨rest, hr⟩ x hx => by
    unfold mtFind at hx
    split at hx
    · cases hx
    · simp only [leadN] at hx
      split at hx
      · cases hx
      · rename_i k hk
        rw [List.mem_singleton.1 hx]
        obtain ⟨r2, h2⟩ := pfx_iff.1 (List.find?_some (p := fun k : Kid => pfx k.1 (t.drop name.length)) hk)
        have hd : t.drop name.length = rest := by rw [hr]; simp
        rw [hd] at h2
        exact ⟨r2, by rw [hr, h2, List.append_assoc]⟩
  next := fun _ _ _ _ _ => trivial
  stop := fun s name nd he => by
    unfold mtFind at he
    split at he <;> exact absurd rfl he
  call := fun W G s name nd v base h _ hp _ hk ho hv hG => find1_any ht h hp hk ho hv hG
def findW (xs t : List Int) : Int × Option Ex := if 255 < t.length then (10, none) else walkN xs (mtFind t) none
structure FiOut (w w' : World) (xs t : List Int) (e : Ending) : Prop where
  ret : e = .returned (.tuple #[exV (nmOf (strOfNums t) (findW xs t).2) (exOf (findW xs t).2), .bool (findW xs t).2.isSome, .int .i64 (findW xs t).1])
  grown : w.grownBy w' none
theorem results_ex3 {fn : Func} {p u v : Tmp} {g : Nat} {nm : ByteArray} {x : Ex} (hr : fn.results = #[.cell p 28, .tmp u, .tmp v]) {tmps : Array Value} {y z : Value} (hp : tmps.getD p undef = .pointer (some ⟨g, 0, none⟩)) (hu : tmps.getD u undef = y) (hv : tmps.getD v undef = z) (h : ExAt w g nm x) :
    (results fn tmps).run Tryz.prog w = .ok (.tuple #[exV nm x, y, z]) w := by
  have e : (asAddr (.pointer (some ⟨g, 0, none⟩)) : Sem Addr).run Tryz.prog w = .ok ⟨g, 0, none⟩ w := rfl
  simp only [Array.getD_eq_getD_getElem?] at hp hu hv
  simp only [results, hr]
  simp [Sem.run_bind, Result.andThen, hp, hu, hv, e, load_ex h]
theorem ExAt.drewF {g : Nat} {nm : ByteArray} {x : Ex} (h : ExAt W g nm x) : ExAt W.drew g nm x := h
set_option maxRecDepth 20000 in
set_option maxHeartbeats 3200000 in
theorem Find_any {q : Option Addr} {c n : Nat} (h : IsBytes w q c xs) (hn : xs.length = n) (hb : Byt xs) (hc : n ≤ c) (hcm : c ≤ 9223372036854775807) (hbig : n ≤ 140737488355328) (t : List Int) (ht : Byt t) (htl : t.length ≤ 9223372036854775807) :
    Calls Tryz.prog 190 #[.slice q n c, .string (strOfNums t)] w fun e w' => FiOut w w' xs t e := by
  have g1 := grown1 w (.cells #[.string (strOfNums t)] 9)
  have o1 := OneAt.new w (.string (strOfNums t)) 9
  obtain ⟨w1, hw1⟩ : ∃ w1, w.alloc (.cells #[.string (strOfNums t)] 9) = w1 := ⟨_, rfl⟩
  obtain ⟨cn, hcn⟩ : ∃ cn, w.heap.size = cn := ⟨_, rfl⟩
  rw [hw1] at g1 o1
  rw [hcn] at o1
  have g2 := grown1 w1 (.cells #[.string ⟨#[]⟩, .int .i64 0, .bool false, .int .u64 0, .int .u64 0, .int .u64 0, .string ⟨#[]⟩] 28)
  have r2 : ExAt (w1.alloc (.cells #[.string ⟨#[]⟩, .int .i64 0, .bool false, .int .u64 0, .int .u64 0, .int .u64 0, .string ⟨#[]⟩] 28)) w1.heap.size ⟨#[]⟩ Ex.zero := heap_alloc_new w1 _
  obtain ⟨w2, hw2⟩ : ∃ w2, w1.alloc (.cells #[.string ⟨#[]⟩, .int .i64 0, .bool false, .int .u64 0, .int .u64 0, .int .u64 0, .string ⟨#[]⟩] 28) = w2 := ⟨_, rfl⟩
  obtain ⟨g0, hg0⟩ : ∃ g0, w1.heap.size = g0 := ⟨_, rfl⟩
  have l1 := o1.lt
  have hcn1 : cn + 1 = g0 := by rw [← hg0, ← hw1, World.size_alloc, hcn]
  rw [hw2] at g2 r2
  rw [hg0] at r2 l1
  have O2 := Lib.hid (o1.grown g2)
  have R2 := Lib.hid r2
  have G2 := Lib.hid (grown_trans g1 g2)
  have HW := Lib.hid (And.intro hw1 (And.intro hcn (And.intro hw2 hcn1)))
  have hst : (strOfNums t).size = t.length := strOfNums_size _
  have HA := Lib.hid (And.intro h (And.intro hn (And.intro hb ht)))
  have BL := Lib.hid (And.intro (show w.heap.size ≤ g0 by have := g1.size; omega) (And.intro (show cn < g0 by omega) (show g0 < w2.heap.size from r2.lt)))
  have c2 := (o1.grown g2).c
  have cl2 := (o1.grown g2).lt
  clear g1 o1 g2 r2 l1 h hn hb ht hw1 hcn hw2 hg0 hcn1
  by_cases hl : 255 < t.length
  · have FW := Lib.hid (show findW xs t = (10, none) from if_pos hl)
    have dl : decide ((255 : Int) < (t.length : Int)) = true := by simp; omega
    obtain ⟨d0, d1, d2, d3, d4, d5, d6⟩ := R2.out.c
    have df := R2.out.fz
    have dll := R2.out.lt
    clear hl
    go_enter Tryz.func190, Tryz.ntmps190
    go_upto_region 1 with fail
    rw [HW.out.1, HW.out.2.1, HW.out.2.2.1, HW.out.2.2.2]
    go_wp2
    refine bodyPost_ret (results_ex3 rfl rfl rfl rfl (R2.out.put ⟨#[]⟩ Ex.zero)) rfl ?_
    exact ⟨by rw [FW.out]; rfl, grown_new G2.out (grown_put7 (grown_refl _ (some g0)) _ _ _ _ _ _ _) BL.out.1⟩
  · have FW := Lib.hid (show findW xs t = walkN xs (mtFind t) none from if_neg hl)
    have dl : decide ((255 : Int) < (t.length : Int)) = false := by simp; omega
    have g3 := grown1 w2 (.cells #[.bool false, .string ⟨#[]⟩, .int .i64 0, .bool false, .int .u64 0, .int .u64 0, .int .u64 0, .string ⟨#[]⟩, .slice none 0 0] 87)
    have n3 : NodeAt (w2.alloc (.cells #[.bool false, .string ⟨#[]⟩, .int .i64 0, .bool false, .int .u64 0, .int .u64 0, .int .u64 0, .string ⟨#[]⟩, .slice none 0 0] 87)) w2.heap.size false ⟨#[]⟩ Ex.zero (.slice none 0 0) := heap_alloc_new w2 _
    obtain ⟨w3, hw3⟩ : ∃ w3, w2.alloc (.cells #[.bool false, .string ⟨#[]⟩, .int .i64 0, .bool false, .int .u64 0, .int .u64 0, .int .u64 0, .string ⟨#[]⟩, .slice none 0 0] 87) = w3 := ⟨_, rfl⟩
    obtain ⟨co, hco⟩ : ∃ co, w2.heap.size = co := ⟨_, rfl⟩
    have hco1 : g0 + 1 = co := by
      have e1 := HW.out.1
      have e2 := HW.out.2.2.1
      have e3 := HW.out.2.2.2
      have e4 := HW.out.2.1
      rw [← hco, ← e2, World.size_alloc, ← e1, World.size_alloc, e4, e3]
    rw [hw3] at g3 n3
    rw [hco] at n3
    have i3 : InvFind cn co t w3 (fun k => k = cn ∨ k = co) none := ⟨O2.out.grown g3, ⟨none, 0, 0, n3⟩, .inl rfl, .inr rfl⟩
    have WK : Calls Tryz.prog 40 #[.slice q n c, .func (.func 191) #[] #[.pointer (some ⟨cn, 0, none⟩), .pointer (some ⟨co, 0, none⟩)]] w3 fun e W' => WOut (Option Ex) (fun _ => True) (InvFind cn co t) (fun k => k = cn ∨ k = co) w3 W' (walkN xs (mtFind t) none) e := by
      obtain ⟨h, hn, hb, ht⟩ := HA.out
      by_cases hx : xs = []
      · subst hx
        simp only [List.length_nil] at hn
        subst hn
        refine (walk_no q c _ _).mono ?_
        rintro e W' ⟨rfl, hg⟩
        exact ⟨rfl, ⟨_, invFind_kept i3 (Chg.of_grown hg (fun b e => by cases e) : Chg (fun _ => False) _ _) (fun _ _ e => e), fun k hk => .inl hk⟩, Chg.of_grown hg (fun b e => by cases e), fun _ => trivial⟩
      · subst hn
        obtain ⟨b, o, rfl, hcell⟩ := h.2 (by cases xs with | nil => exact absurd rfl hx | cons => simp)
        have hbl := World.block_lt_of_cell? w _ (hcell 0 (by cases xs with | nil => exact absurd rfl hx | cons => simp))
        simp only at hbl
        have e4 := HW.out.2.1
        have b3 := BL.out
        refine walk_any (findMeet cn co ht) ⟨t, rfl⟩ trivial i3 ?_ (fun i hi => grown_cell (grown_trans G2.out g3) (hcell i hi)) hx ?_ hb hc hcm hbig
        · have := n3.lt
          rintro k (rfl | rfl)
          · omega
          · exact this
        · rintro (e | e) <;> omega
    have WH := Lib.hid WK
    have G3 := Lib.hid (grown_trans G2.out g3)
    have R3 := Lib.hid (R2.out.kept g3 (by simp))
    have HW3 := Lib.hid (And.intro hw3 hco1)
    have NE := Lib.hid (And.intro (show cn ≠ g0 by have := BL.out.2.1; omega) (show co ≠ g0 by omega))
    have HCO := Lib.hid hco
    clear g3 n3 i3 WK hl hw3 hco1 hco
    obtain ⟨⟨er, own⟩, hr⟩ : ∃ r, r = walkN xs (mtFind t) none := ⟨_, rfl⟩
    rw [← hr] at WH FW
    clear hr
    go_enter Tryz.func190, Tryz.ntmps190
    go_upto_region 1 with fail
    rw [HW.out.1, HW.out.2.1, HW.out.2.2.1, HW.out.2.2.2]
    go_upto_region 4 with fail
    rw [HCO.out, HW3.out.1]
    clear c2 cl2
    go_wp2_with fail
    refine WH.out.mono ?_
    rintro e w4 ⟨rfl, ⟨G', ⟨o4, ⟨qo, no, cc, n4⟩, a3, a4⟩, hG'⟩, hch, _⟩
    have hg4 : w.grownBy w4 none :=
      ⟨hch.os.trans G3.out.os, hch.tape.trans G3.out.tape, hch.output.trans G3.out.output, Nat.le_trans G3.out.size hch.size, fun i hi _ => (hch.block i (Nat.lt_of_lt_of_le hi G3.out.size) (fun e => by
        have e4 := HW.out.2.1
        have e5 := HCO.out
        have e6 := G2.out.size
        rcases e with e | e <;> omega)).trans (G3.out.block i hi (by simp))⟩
    have r4 : ExAt w4 g0 ⟨#[]⟩ Ex.zero := (hch.block g0 R3.out.lt (fun e => e.elim (fun e => NE.out.1 e.symm) (fun e => NE.out.2 e.symm))).trans R3.out
    simp only [] at n4
    obtain ⟨e0, e1, e2, e3, e4, e5, e6, e7, e8⟩ := n4.c
    obtain ⟨d0, d1, d2, d3, d4, d5, d6⟩ := r4.c
    have df := r4.fz
    have dll := r4.lt
    have nl := n4.lt
    have nco : ¬ co = g0 := NE.out.2
    have nco' : ¬ g0 = co := fun e => NE.out.2 e.symm
    have P4 := Lib.hid (r4.put (nmOf (strOfNums t) own) (exOf own))
    have GF := Lib.hid (grown_drewN (grown_new hg4 (grown_put7 (grown_refl w4 (some g0)) (.string (nmOf (strOfNums t) own)) (.int .i64 (exOf own).kind) (.bool (exOf own).weak) (.int .u64 (exOf own).value) (.int .u64 (exOf own).resolver) (.int .u64 (exOf own).ordinal) (.string (strOfNums (exOf own).other))) BL.out.1) 1)
    clear o4 n4 a3 a4 hG' hch hg4 r4
    go_upto_region 5 with fail
    go_region
    go_wp2
    refine bodyPost_ret (results_ex3 rfl rfl rfl rfl P4.out.drewF) rfl ?_
    exact ⟨by rw [FW.out]; rfl, GF.out⟩
end Go.Proofs.YtkmbkpoclhbmgaaGreat


namespace Go.Proofs.YtkmbkpoclhbmgaaGreat
open Go.RowKit
variable {xs : List Int}

def Told (y : List Int × Ex) : Prop := Byt y.1 ∧ y.1.length ≤ 255
theorem visK_told {rec : List Int → Int → Nat × Out → Int × (Nat × Out)} (name : List Int) (hn : Byt name)
    (IH : ∀ nm pl m out m' out', Byt nm → rec nm pl (m, out) = (0, (m', out')) → (∀ y ∈ out, Told y) → ∀ y ∈ out', Told y) :
    ∀ (l : List Kid), (∀ k ∈ l, Byt k.1) → ∀ m out m' out', visK rec name l 0 (m, out) = (0, (m', out')) → (∀ y ∈ out, Told y) → ∀ y ∈ out', Told y := by
  intro l
  induction l with
  | nil =>
    intro _ m out m' out' h ho
    simp only [visK, Prod.mk.injEq, true_and] at h
    rw [← h.2]; exact ho
  | cons x l ih =>
    intro hk m out m' out' h ho
    obtain ⟨⟨m1, o1⟩, h1, h2⟩ := visK_cons h
    exact ih (fun k hk' => hk k (List.mem_cons_of_mem _ hk')) _ _ _ _ h2 (IH _ _ _ _ _ _ (hn.app (hk x (List.mem_cons_self ..))) h1 ho)
theorem vis_told (hb : Byt xs) : ∀ (k : Nat) (way name : List Int) (pl : Int) (m : Nat) (out : Out) (m' : Nat) (out' : Out), Byt name → vis xs mtAll k way name pl (m, out) = (0, (m', out')) → (∀ y ∈ out, Told y) → ∀ y ∈ out', Told y := by
  intro k
  induction k with
  | zero => intro way name pl m out m' out' _ h; simp [vis] at h
  | succ k ih =>
    intro way name pl m out m' out' hn h ho
    by_cases hl : 255 < name.length
    · have e : vis xs mtAll (k + 1) way name pl (m, out) = (10, (m + 1, out)) := by unfold vis; rw [if_pos hl]
      rw [e] at h; simp at h
    · rw [vis_go hl] at h
      split at h
      · simp at h
      split at h
      · simp at h
      cases hnd : ndAt xs pl with
      | none => rw [hnd] at h; simp at h
      | some nd =>
        rw [hnd] at h
        simp only [] at h
        have hok := ndAt_ok hb hnd
        have h1 : ∀ y ∈ outN out name nd, Told y := by
          intro y hy
          unfold outN at hy
          cases hx : nd.ex with
          | none => rw [hx] at hy; exact ho y hy
          | some x =>
            rw [hx] at hy
            rcases List.mem_append.1 hy with hy | hy
            · exact ho y hy
            · rw [List.mem_singleton.1 hy]; exact ⟨hn, by show name.length ≤ 255; omega⟩
        by_cases c4 : 4096 < (outN out name nd).length
        · have e : mtAll out name nd = (outN out name nd, [], 11) := if_pos c4
          rw [e] at h
          simp [visK] at h
        · have e : mtAll out name nd = (outN out name nd, nd.kids, 0) := if_neg c4
          rw [e] at h
          exact visK_told (rec := vis xs mtAll k (way ++ [pl])) name hn (fun nm p m o m' o' hb' h ho => ih _ nm p m o m' o' hb' h ho) nd.kids (fun k hk => (hok.kids.each k hk).byt) _ _ _ _ h h1
structure Whole (xs : List Int) (out : Out) : Prop where
  once : out.Pairwise fun a b => a.1 ≠ b.1
  told : ∀ y ∈ out, Told y
  find : ∀ t : List Int, t.length ≤ 255 → findW xs t = (0, (Named t out).map (·.2))
theorem whole_of (hb : Byt xs) {out : Out} (h : walkN xs mtAll [] = (0, out)) : Whole xs out := by
  unfold walkN at h
  by_cases hx : xs = []
  · rw [if_pos hx] at h
    injection h with _ h
    subst h
    refine ⟨List.Pairwise.nil, fun y hy => (by cases hy), fun t ht => ?_⟩
    unfold findW walkN
    rw [if_neg (by omega), if_pos hx]
    rfl
  · rw [if_neg hx] at h
    obtain ⟨⟨er, m', o'⟩, hr⟩ : ∃ r, r = vis xs mtAll 257 [] [] 0 (0, []) := ⟨_, rfl⟩
    rw [← hr] at h
    simp only [Prod.mk.injEq] at h
    obtain ⟨rfl, rfl⟩ := h
    obtain ⟨new, A, F⟩ := vis_all hb 257 [] [] 0 0 [] m' o' hr.symm
    have e : o' = new := by rw [A.eq]; rfl
    refine ⟨e ▸ A.once, vis_told hb 257 [] [] 0 0 [] m' o' (fun x hx => by cases hx) hr.symm (fun y hy => by cases hy), fun t ht => ?_⟩
    obtain ⟨j', hj⟩ := F t 0 (by simpa using ht) (Nat.le_refl _)
    unfold findW walkN
    rw [if_neg (by omega), if_neg hx]
    simp only [List.nil_append] at hj
    rw [hj, e]
theorem Whole.of_mem {out : Out} (h : Whole xs out) {y : List Int × Ex} (hy : y ∈ out) : findW xs y.1 = (0, some y.2) := by
  rw [h.find y.1 (h.told y hy).2]
  have e : Named y.1 out = some y := by
    unfold Named
    obtain ⟨i, hi, rfl⟩ := List.getElem_of_mem hy
    rw [List.find?_eq_some_iff_getElem]
    refine ⟨by simp, i, hi, rfl, fun j hj => ?_⟩
    have := (List.pairwise_iff_getElem.1 h.once) j i (by omega) hi hj
    simpa using this
  rw [e]; rfl
end Go.Proofs.YtkmbkpoclhbmgaaGreat


namespace Go.Proofs.YtkmbkpoclhbmgaaGreat
open Go.RowKit

structure Sy where
  sec : Int
  value : Int
  weak : Bool
def Sy.zero : Sy := ⟨0, 0, false⟩
abbrev Sym := List Int × Sy
abbrev Syms := List Sym
def nlPlace (e : List Int) : Int := leN (e.take 4)
def nlKind (e : List Int) : Int := e.getD 4 0
def nlSec (e : List Int) : Int := e.getD 5 0
def nlDesc (e : List Int) : Int := leN ((e.drop 6).take 2)
def nlVal (e : List Int) : Int := leN ((e.drop 8).take 8)
def nlTold (e : List Int) : Bool := decide (nlKind e = 15) || decide (nlKind e = 3)
def nlSy (e : List Int) : Sy := ⟨if nlKind e = 15 then nlSec e else 0, nlVal e, decide (nlDesc e / 128 % 2 = 1)⟩
def nlNm (ys e : List Int) : List Int := pre (ys.drop (nlPlace e).toNat)
def nlErr (ys : List Int) (n : Int) (e : List Int) : Int :=
  if nlKind e = 15 ∧ (nlSec e = 0 ∨ n < nlSec e) then 13
  else if (ys.length : Int) ≤ nlPlace e then 13
  else if nlNm ys e = [] ∨ (ys.drop (nlPlace e).toNat).length ≤ (nlNm ys e).length then 13
  else if 255 < (nlNm ys e).length then 10 else 0
def nlHas (D : Syms) (t : List Int) : Bool := D.any fun y => decide (y.1 = t)
def nlAdd (ys : List Int) (n : Int) (D : Syms) (e : List Int) : Int :=
  if nlErr ys n e ≠ 0 then nlErr ys n e else if nlHas D (nlNm ys e) = true then 21 else if D.length = 4096 then 11 else 0
def nlNew (ys e : List Int) : Sym := (nlNm ys e, nlSy e)
def nlRun (ys : List Int) (n : Int) : List (List Int) → Syms → Int × Syms
  | [], D => (0, D)
  | e :: r, D => if nlTold e then (if nlAdd ys n D e = 0 then nlRun ys n r (D ++ [nlNew ys e]) else (nlAdd ys n D e, [])) else nlRun ys n r D
def entAt (t : List Int) (i : Nat) : List Int := (t.drop (16 * i)).take 16
def ents (t : List Int) : List (List Int) := (List.range (t.length / 16)).map (entAt t)
def nlAll (t ys : List Int) (n : Int) : Int × Syms := if t.length % 16 = 0 then nlRun ys n (ents t) [] else (13, [])
theorem ents_len (t : List Int) : (ents t).length = t.length / 16 := by simp [ents]
theorem ents_at (t : List Int) {k : Nat} (h : k < t.length / 16) : (ents t).drop k = entAt t k :: (ents t).drop (k + 1) := by
  rw [List.drop_eq_getElem_cons (by rw [ents_len]; exact h)]
  simp [ents]
theorem ents_end (t : List Int) : (ents t).drop (t.length / 16) = [] := List.drop_eq_nil_of_le (by rw [ents_len]; exact Nat.le_refl _)
theorem entAt_len {t : List Int} {k : Nat} (h : k < t.length / 16) : (entAt t k).length = 16 := by
  unfold entAt
  rw [List.length_take, List.length_drop]
  have := Nat.div_mul_le_self t.length 16
  omega
theorem entAt_byt {t : List Int} (h : Byt t) (k : Nat) : Byt (entAt t k) := (h.drop _).take _
structure SymsOk (D : Syms) : Prop where
  few : D.length ≤ 4096
  apart : D.Pairwise fun a b => a.1 ≠ b.1
  each : ∀ y ∈ D, Byt y.1 ∧ 0 < y.1.length ∧ y.1.length ≤ 255 ∧ (0 ≤ y.2.sec ∧ y.2.sec < 256) ∧ (0 ≤ y.2.value ∧ y.2.value < 18446744073709551616)
theorem SymsOk.nil : SymsOk [] := ⟨by simp, List.Pairwise.nil, fun y h => (by cases h)⟩
theorem nlAdd_0 {ys : List Int} {n : Int} {D : Syms} {e : List Int} (h : nlAdd ys n D e = 0) : nlErr ys n e = 0 ∧ nlHas D (nlNm ys e) = false ∧ D.length ≠ 4096 := by
  unfold nlAdd at h
  split at h
  · rename_i h1; exact absurd h h1
  · rename_i h1
    split at h
    · cases h
    · rename_i h2
      split at h
      · cases h
      · rename_i h3
        exact ⟨by omega, by simpa using h2, h3⟩
theorem nlErr_0 {ys : List Int} {n : Int} {e : List Int} (h : nlErr ys n e = 0) : ¬ (nlKind e = 15 ∧ (nlSec e = 0 ∨ n < nlSec e)) ∧ nlPlace e < ys.length ∧ nlNm ys e ≠ [] ∧ (nlNm ys e).length < (ys.drop (nlPlace e).toNat).length ∧ (nlNm ys e).length ≤ 255 := by
  unfold nlErr at h
  split at h
  · cases h
  · rename_i h1
    split at h
    · cases h
    · rename_i h2
      split at h
      · cases h
      · rename_i h3
        split at h
        · cases h
        · rename_i h4
          exact ⟨h1, by omega, fun e => h3 (.inl e), by have : ¬ _ := fun h => h3 (.inr h); omega, by omega⟩
theorem nlHas_mem {D : Syms} {t : List Int} : nlHas D t = true ↔ ∃ y ∈ D, y.1 = t := by
  unfold nlHas
  rw [List.any_eq_true]
  simp
theorem byt_at {e : List Int} (h : Byt e) (i : Nat) : 0 ≤ e.getD i 0 ∧ e.getD i 0 < 256 := by
  rw [List.getD_eq_getElem?_getD]
  rcases Nat.lt_or_ge i e.length with hi | hi
  · rw [List.getElem?_eq_getElem hi]; exact h _ (List.getElem_mem hi)
  · rw [List.getElem?_eq_none hi]; simp
theorem leN_lt {l : List Int} (h : Byt l) {k : Nat} (hk : l.length ≤ k) : 0 ≤ leN l ∧ leN l < 2 ^ (8 * k) := by
  have h1 := leN_bd l h
  refine ⟨h1.1, Int.lt_of_lt_of_le h1.2 ?_⟩
  have : (2 : Nat) ^ (8 * l.length) ≤ 2 ^ (8 * k) := Nat.pow_le_pow_right (by decide) (by omega)
  exact_mod_cast this
theorem nlPlace_bd {e : List Int} (h : Byt e) : 0 ≤ nlPlace e ∧ nlPlace e < 4294967296 := leN_lt (h.take 4) (k := 4) (by simp; omega)
theorem nlDesc_bd {e : List Int} (h : Byt e) : 0 ≤ nlDesc e ∧ nlDesc e < 65536 := leN_lt ((h.drop 6).take 2) (k := 2) (by simp; omega)
theorem nlVal_bd {e : List Int} (h : Byt e) : 0 ≤ nlVal e ∧ nlVal e < 18446744073709551616 := leN_lt ((h.drop 8).take 8) (k := 8) (by simp; omega)
theorem SymsOk.add {ys : List Int} {n : Int} {D : Syms} {e : List Int} (h : SymsOk D) (hy : Byt ys) (he : Byt e) (h0 : nlAdd ys n D e = 0) : SymsOk (D ++ [nlNew ys e]) := by
  obtain ⟨h1, h2, h3⟩ := nlAdd_0 h0
  obtain ⟨_, _, h4, _, h5⟩ := nlErr_0 h1
  refine ⟨?_, ?_, ?_⟩
  · rw [List.length_append, List.length_singleton]
    have := h.few
    omega
  · rw [List.pairwise_append]
    refine ⟨h.apart, List.pairwise_singleton _ _, fun a ha b hb => ?_⟩
    rw [List.mem_singleton] at hb
    subst hb
    intro e1
    have : nlHas D (nlNm ys e) = true := nlHas_mem.2 ⟨a, ha, e1⟩
    rw [h2] at this
    cases this
  · intro y hm
    rcases List.mem_append.1 hm with hm | hm
    · exact h.each y hm
    · rw [List.mem_singleton] at hm
      subst hm
      refine ⟨Byt.pre (hy.drop _), List.length_pos_iff.2 h4, h5, ?_, nlVal_bd he⟩
      unfold nlNew nlSy
      simp only []
      split
      · exact byt_at he 5
      · omega
theorem nlRun_ok {ys : List Int} {n : Int} (hy : Byt ys) : ∀ (l : List (List Int)) (D : Syms), (∀ e ∈ l, Byt e) → SymsOk D → SymsOk (nlRun ys n l D).2
  | [], D, _, h => h
  | e :: r, D, hl, h => by
    unfold nlRun
    split
    · split
      · rename_i h0
        exact nlRun_ok hy r _ (fun x hx => hl x (List.mem_cons_of_mem _ hx)) (h.add hy (hl e (List.mem_cons_self ..)) h0)
      · exact SymsOk.nil
    · exact nlRun_ok hy r _ (fun x hx => hl x (List.mem_cons_of_mem _ hx)) h
theorem nlAll_ok {t ys : List Int} {n : Int} (ht : Byt t) (hy : Byt ys) : SymsOk (nlAll t ys n).2 := by
  unfold nlAll
  split
  · refine nlRun_ok hy _ _ (fun e he => ?_) SymsOk.nil
    obtain ⟨i, _, rfl⟩ := List.mem_map.1 he
    exact entAt_byt ht i
  · exact SymsOk.nil
theorem nlRun_err {ys : List Int} {n : Int} : ∀ (l : List (List Int)) (D : Syms), (nlRun ys n l D).1 ≠ 0 → (nlRun ys n l D).2 = []
  | [], D, h => absurd rfl h
  | e :: r, D, h => by
    unfold nlRun at h ⊢
    split
    · rename_i h1
      rw [if_pos h1] at h
      split
      · rename_i h0
        rw [if_pos h0] at h
        exact nlRun_err r _ h
      · rfl
    · rename_i h1
      rw [if_neg h1] at h
      exact nlRun_err r _ h
theorem nlAll_err {t ys : List Int} {n : Int} (h : (nlAll t ys n).1 ≠ 0) : (nlAll t ys n).2 = [] := by
  unfold nlAll at h ⊢
  split
  · rename_i h1
    rw [if_pos h1] at h
    exact nlRun_err _ _ h
  · rfl
def nlE (ys : List Int) (n : Int) (D : Syms) (e : List Int) : Int := if nlTold e then nlAdd ys n D e else 0
def nlD (ys : List Int) (D : Syms) (e : List Int) : Syms := if nlTold e then D ++ [nlNew ys e] else D
theorem nlRun_cons (ys : List Int) (n : Int) (e : List Int) (r : List (List Int)) (D : Syms) : nlRun ys n (e :: r) D = if nlE ys n D e = 0 then nlRun ys n r (nlD ys D e) else (nlE ys n D e, []) := by
  unfold nlE nlD
  rw [nlRun]
  by_cases h : nlTold e = true
  · rw [if_pos h, if_pos h, if_pos h]
  · rw [if_neg h, if_neg h, if_neg h, if_pos rfl]
theorem SymsOk.next {ys : List Int} {n : Int} {D : Syms} {e : List Int} (h : SymsOk D) (hy : Byt ys) (he : Byt e) (h0 : nlE ys n D e = 0) : SymsOk (nlD ys D e) := by
  unfold nlE at h0
  unfold nlD
  split
  · rename_i h1
    rw [if_pos h1] at h0
    exact h.add hy he h0
  · exact h
theorem one_at {e : List Int} {i : Nat} (h : i < e.length) : (e.drop i).take 1 = [e.getD i 0] := by
  rw [List.drop_eq_getElem_cons h, List.take_succ_cons, List.take_zero, List.getD_eq_getElem?_getD, List.getElem?_eq_getElem h]
  rfl
theorem le_one (x : Int) : leN [x] = x := by simp [leN]
theorem nat_and128 (n : Nat) : n &&& 128 = n / 128 % 2 * 128 := by
  apply Nat.eq_of_testBit_eq
  intro i
  rw [Nat.testBit_and, show (128 : Nat) = 2 ^ 7 by decide, Nat.testBit_two_pow]
  rcases Nat.mod_two_eq_zero_or_one (n / 2 ^ 7) with h | h
  · rw [h, Nat.zero_mul, Nat.zero_testBit]
    by_cases hi : 7 = i
    · subst hi
      rw [Nat.testBit_eq_decide_div_mod_eq, h]; rfl
    · rw [decide_eq_false hi, Bool.and_false]
  · rw [h, Nat.one_mul, Nat.testBit_two_pow]
    by_cases hi : 7 = i
    · subst hi
      rw [Nat.testBit_eq_decide_div_mod_eq, h]; rfl
    · rw [decide_eq_false hi, Bool.and_false]
theorem and128 (F : Int) (h : 0 ≤ F ∧ F < 18446744073709551616) : bits .and .u64 F 128 = F / 128 % 2 * 128 := by
  obtain ⟨n, rfl⟩ := Int.eq_ofNat_of_zero_le h.1
  have e : ((n : Int) % ((2 ^ 64 : Nat) : Int)).toNat = n := by omega
  have key : (BitVec.ofInt 64 (n : Int) &&& BitVec.ofInt 64 128).toNat = n / 128 % 2 * 128 := by
    rw [BitVec.toNat_and, BitVec.toNat_ofInt, e, show (BitVec.ofInt 64 128).toNat = 128 by decide, nat_and128]
  show IntKind.u64.wrap ((BitVec.ofInt 64 (n : Int) &&& BitVec.ofInt 64 128).toNat : Nat) = _
  rw [key, IntKind.wrap_u64]
  omega
end Go.Proofs.YtkmbkpoclhbmgaaGreat


namespace Go.Proofs.YtkmbkpoclhbmgaaGreat
open Go.RowKit Go.ChangeShapes Go.WideShapes Go.Deep
variable {w w' : World}

def syArr (nm : ByteArray) (x : Sy) : Array Value := #[.string nm, .int .i64 x.sec, .int .u64 x.value, .bool x.weak]
def syV (nm : ByteArray) (x : Sy) : Value := .agg (syArr nm x)
def syCs (y : Sym) : List Value := [.string (strOfNums y.1), .int .i64 y.2.sec, .int .u64 y.2.value, .bool y.2.weak]
theorem syCs_len (y : Sym) : (syCs y).length = 4 := rfl
theorem syCs_one (y : Sym) : ∀ u ∈ syCs y, u.oneCell' = true := by
  intro u hu
  simp only [syCs, List.mem_cons, List.not_mem_nil, or_false] at hu
  rcases hu with rfl | rfl | rfl | rfl <;> rfl
theorem syType : StType Tryz.prog 95 59 4 40 := .mk' Tryz.underlying59 (z := .agg #[.string ⟨#[]⟩, .int .i64 0, .int .u64 0, .bool false]) (by kernel_rfl) rfl (by decide)
def SyAt (w : World) (g : Nat) (nm : ByteArray) (x : Sy) : Prop :=
  w.heap[g]? = some (.cells #[.string nm, .int .i64 x.sec, .int .u64 x.value, .bool x.weak] 95 (0, 0))
section
variable {g : Nat} {nm : ByteArray} {x : Sy}
theorem SyAt.kept {r : Option Nat} (h : SyAt w g nm x) (hg : w.grownBy w' r) (hr : r ≠ some g) : SyAt w' g nm x := (hg.block g (lt_of_block h) (fun e => hr e.symm)).trans h
theorem SyAt.lt (h : SyAt w g nm x) : g < w.heap.size := lt_of_block h
theorem SyAt.fz (h : SyAt w g nm x) (i : Nat) : w.frozen? ⟨g, i, none⟩ = false := free_of h
theorem SyAt.c (h : SyAt w g nm x) : w.cell? ⟨g, 0, none⟩ = some (.string nm) ∧ w.cell? ⟨g, 1, none⟩ = some (.int .i64 x.sec) ∧ w.cell? ⟨g, 2, none⟩ = some (.int .u64 x.value) ∧ w.cell? ⟨g, 3, none⟩ = some (.bool x.weak) := by
  refine ⟨?_, ?_, ?_, ?_⟩ <;> (rw [cell_of h]; rfl)
theorem SyAt.s0 (h : SyAt w g nm x) (k : ByteArray) : SyAt (w.setCell ⟨g, 0, none⟩ (.string k)) g k x := by unfold SyAt; rw [heap_setCell_same w g 0 _ _ _ h]; rfl
theorem SyAt.s1 (h : SyAt w g nm x) (k : Int) : SyAt (w.setCell ⟨g, 1, none⟩ (.int .i64 k)) g nm { x with sec := k } := by unfold SyAt; rw [heap_setCell_same w g 1 _ _ _ h]; rfl
theorem SyAt.s2 (h : SyAt w g nm x) (k : Int) : SyAt (w.setCell ⟨g, 2, none⟩ (.int .u64 k)) g nm { x with value := k } := by unfold SyAt; rw [heap_setCell_same w g 2 _ _ _ h]; rfl
theorem SyAt.s3 (h : SyAt w g nm x) (k : Bool) : SyAt (w.setCell ⟨g, 3, none⟩ (.bool k)) g nm { x with weak := k } := by unfold SyAt; rw [heap_setCell_same w g 3 _ _ _ h]; rfl
theorem SyAt.new (w : World) (nm : ByteArray) (x : Sy) : SyAt (w.alloc (.cells #[.string nm, .int .i64 x.sec, .int .u64 x.value, .bool x.weak] 95)) w.heap.size nm x := heap_alloc_new w _
theorem SyAt.put {nm0 : ByteArray} {x0 : Sy} (h : SyAt w g nm0 x0) (nm : ByteArray) (x : Sy) :
    SyAt ((((w.setCell ⟨g, 0, none⟩ (.string nm)).setCell ⟨g, 1, none⟩ (.int .i64 x.sec)).setCell ⟨g, 2, none⟩ (.int .u64 x.value)).setCell ⟨g, 3, none⟩ (.bool x.weak)) g nm x := by
  unfold SyAt
  rw [heap_setCell_same _ g 3 _ _ _ (heap_setCell_same _ g 2 _ _ _ (heap_setCell_same _ g 1 _ _ _ (heap_setCell_same w g 0 _ _ _ h)))]
  rfl
theorem grown_put4 (h : w.grownBy w' (some g)) (v0 v1 v2 v3 : Value) : w.grownBy ((((w'.setCell ⟨g, 0, none⟩ v0).setCell ⟨g, 1, none⟩ v1).setCell ⟨g, 2, none⟩ v2).setCell ⟨g, 3, none⟩ v3) (some g) :=
  grown_setCell (grown_setCell (grown_setCell (grown_setCell h _) _) _) _
theorem load_sy (h : SyAt w g nm x) : (loadVar 95 ⟨g, 0, none⟩).run Tryz.prog w = .ok (syV nm x) w :=
  run_loadVar_row w g _ _ _ _ _ h Tryz.underlying95 rfl (by kernel_rfl)
end

def SysAt (w : World) (q : Option Addr) (D : Syms) : Prop := ∀ i y, D[i]? = some y → ∃ g o, q = some ⟨g, o, none⟩ ∧ ∀ j, j < 4 → w.cell? ⟨g, o + i * 4 + j, none⟩ = (syCs y)[j]?
theorem SysAt.nil {q : Option Addr} : SysAt w q [] := fun i y hy => by simp at hy
theorem SysAt.grown {q : Option Addr} {D : Syms} (h : SysAt w q D) (hg : w.grownBy w' none) : SysAt w' q D := fun i y hy => by
  obtain ⟨g, o, e, hc⟩ := h i y hy
  refine ⟨g, o, e, fun j hj => ?_⟩
  have hl : j < (syCs y).length := hj
  have := hc j hj
  rw [List.getElem?_eq_getElem hl] at this ⊢
  exact grown_cell hg this
theorem SysAt.of {lo n c : Nat} {q : Option Addr} {D : Syms} (h : w.ownsRow lo 95 4 (.slice q n c) n (D.flatMap syCs)) : SysAt w q D := fun i y hy => by
  obtain ⟨g, e, h0⟩ := row_cell syCs_len h hy (j := 0) (by decide)
  refine ⟨g, 0, e, fun j hj => ?_⟩
  obtain ⟨g', e', hc⟩ := row_cell syCs_len h hy (j := j) hj
  rw [e] at e'
  injection e' with e'
  injection e' with e' _ _
  subst e'
  rw [Nat.zero_add]
  exact hc
theorem SysAt.at {q : Option Addr} {D : Syms} (h : SysAt w q D) {i : Nat} {y : Sym} (hy : D[i]? = some y) : ∃ g o, q = some ⟨g, o, none⟩ ∧ w.cell? ⟨g, o + i * 4, none⟩ = some (.string (strOfNums y.1)) ∧ w.cell? ⟨g, o + i * 4 + 1, none⟩ = some (.int .i64 y.2.sec) ∧ w.cell? ⟨g, o + i * 4 + 2, none⟩ = some (.int .u64 y.2.value) ∧
    w.cell? ⟨g, o + i * 4 + 3, none⟩ = some (.bool y.2.weak) := by
  obtain ⟨g, o, e, hc⟩ := h i y hy
  exact ⟨g, o, e, hc 0 (by decide), hc 1 (by decide), hc 2 (by decide), hc 3 (by decide)⟩
structure SyFits (nm : List Int) (x : Sy) : Prop where
  name : Byt nm
  len : nm.length ≤ 9223372036854775807
  sec : -9223372036854775808 ≤ x.sec ∧ x.sec ≤ 9223372036854775807
  value : 0 ≤ x.value ∧ x.value < 18446744073709551616
end Go.Proofs.YtkmbkpoclhbmgaaGreat


namespace Go.Proofs.YtkmbkpoclhbmgaaGreat
open Go.RowKit
variable {w w' : World} {lo hi a : Nat} {xs : List Int} {p : Nat} {big bad : Bool}

theorem pen_text_ok (h : Pen w lo hi a xs p big false) (m : Int) (hn : (pre (xs.drop p)).length < (xs.drop p).length ∧ ((pre (xs.drop p)).length : Int) ≤ m) :
    Calls Tryz.prog 135 #[.pointer (some ⟨a, 0, none⟩), .int .i64 m] w fun e w' =>
      e = .returned (.string (strOfNums (pre (xs.drop p)))) ∧ Pen w' lo hi a xs (p + (pre (xs.drop p)).length + 1) big false ∧ w.grownBy w' (some a) := by
  obtain ⟨⟨base, q, c, hc, hl, ho⟩, h1, h2, h3⟩ := h
  refine (text_ok hc m hn).mono ?_
  rintro e w' ⟨rfl, hc', hg⟩
  exact ⟨rfl, ⟨⟨_, _, _, hc', hl, ho⟩, h1, h2, Nat.le_trans h3 hg.size⟩, hg⟩
theorem pen_text_no (h : Pen w lo hi a xs p big bad) (m : Int) (hn : bad = true ∨ textLen (xs.drop p) m = -1) :
    Calls Tryz.prog 135 #[.pointer (some ⟨a, 0, none⟩), .int .i64 m] w fun e w' =>
      e = .returned (.string ByteArray.empty) ∧ Pen w' lo hi a xs p big true ∧ w.grownBy w' (some a) := by
  obtain ⟨⟨base, q, c, hc, hl, ho⟩, h1, h2, h3⟩ := h
  refine (text_no hc m hn).mono ?_
  rintro e w' ⟨rfl, hc', hg⟩
  exact ⟨rfl, ⟨⟨_, _, _, hc', hl, ho⟩, h1, h2, Nat.le_trans h3 hg.size⟩, hg⟩
theorem pen_left (h : Pen w lo hi a xs p big bad) :
    Calls Tryz.prog 165 #[.pointer (some ⟨a, 0, none⟩)] w fun e w' => e = .returned (.int .i64 ((xs.length : Int) - p)) ∧ ∃ n, w.drewN n = w' := by
  obtain ⟨⟨base, q, c, hc, hl, ho⟩, h1, h2, h3⟩ := h
  exact left_any hc
end Go.Proofs.YtkmbkpoclhbmgaaGreat


namespace Go.Proofs.YtkmbkpoclhbmgaaGreat
open Go.RowKit Go.Maps
variable {w w' : World}

def keyN (t : List Int) : Lit := .string (strOfNums t).data.toList
theorem keyN_is (t : List Int) : WideAt.IsKeyLit (keyN t) := trivial
theorem keyN_inj {a b : List Int} (ha : Byt a) (hb : Byt b) : keyN a = keyN b ↔ a = b := by
  constructor
  · intro h
    unfold keyN at h
    injection h with h
    rw [strOfNums_data, strOfNums_data] at h
    rw [← nums_byt ha, ← nums_byt hb]
    unfold nums Lib.bytesOf
    rw [h]
  · rintro rfl; rfl
def MetN (w : World) (m k : Nat) (D : Syms) : Prop := w.ownsMap (H := Unit) Tryz.prog 9 unitElem m k (setOf (.agg []) (D.map fun y => keyN y.1))
theorem zeroUnit (w : World) : (zeroValue 170).run Tryz.prog w = .ok (.agg #[]) w := by kernel_rfl
theorem has_names {D : Syms} {t : List Int} (hD : ∀ y ∈ D, Byt y.1) (ht : Byt t) : Maps.has (setOf (H := Unit) (.agg []) (D.map fun y => keyN y.1)) (keyN t) = nlHas D t := by
  rw [has_setOf _ _ _ (fun x hx => by obtain ⟨y, _, rfl⟩ := List.mem_map.1 hx; exact keyN_is _)]
  unfold nlHas
  rw [List.any_map, Bool.eq_iff_iff, List.any_eq_true, List.any_eq_true]
  constructor
  · rintro ⟨y, hy, h⟩
    refine ⟨y, hy, decide_eq_true ?_⟩
    by_cases e : keyN y.1 = keyN t
    · exact (keyN_inj (hD y hy) ht).1 e
    · simp only [Function.comp] at h
      rw [sameKey_ne e] at h; cases h
  · rintro ⟨y, hy, h⟩
    refine ⟨y, hy, ?_⟩
    rw [decide_eq_true_eq] at h
    simp only [Function.comp, h]
    exact WideAt.sameKey_self (keyN_is t)
theorem MetN.look {m k : Nat} {D : Syms} (h : MetN w m k D) (hD : ∀ y ∈ D, Byt y.1) {t : List Int} (ht : Byt t) (hl : t.length ≤ 140737488355328) :
    (Instr.lookup 283 (.map (some m)) (.string (strOfNums t)) true).run Tryz.prog w = .ok (.tuple #[.agg #[], .bool (nlHas D t)]) w := by
  obtain ⟨v, ps, hr, hv⟩ := World.ownsMap.look_ok h strKeyed Tryz.underlying283 (zeroUnit w) unitElem_mk (Go.WideMaps.keyOf_string_mk Tryz.underlying9 (s := strOfNums t) (by rw [strOfNums_size]; unfold maxLen; omega))
  obtain ⟨rfl, _⟩ := unitElem_inv hv
  rw [hr]
  have := has_names hD ht
  unfold keyN at this
  rw [← this]
  rfl
theorem MetN.put {m k : Nat} {D : Syms} (h : MetN w m k D) (y : Sym) (hl : y.1.length ≤ 140737488355328) (hk : k < maxLen) :
    ∃ w', (Instr.mapUpdate 283 (.map (some m)) (.string (strOfNums y.1)) (.agg #[])).run Tryz.prog w = .ok () w' ∧ MetN w' m (k + 1) (D ++ [y]) ∧ w.grownBy w' (some m) := by
  obtain ⟨w', hr, ho', hg⟩ := World.ownsMap.update h strKeyed Tryz.underlying283 hk (Go.WideMaps.keyOf_string_mk Tryz.underlying9 (s := strOfNums y.1) (by rw [strOfNums_size]; unfold maxLen; omega)) unitElem_mk
  refine ⟨w', hr, ?_, hg⟩
  unfold MetN
  rw [List.map_append, List.map_singleton, setOf_snoc]
  exact ho'
theorem MetN.kept {m k : Nat} {D : Syms} {r : Option Nat} (h : MetN w m k D) (hg : w.grownBy w' r) (hr : r ≠ some m) : MetN w' m k D := World.ownsMap.kept h hg (fun e => hr e.symm)
theorem MetN.made (w : World) : MetN (w.alloc (.map #[] 0)) w.heap.size 0 [] := World.ownsMap_made w _ _ _
theorem MetN.drewN {m k : Nat} {D : Syms} (h : MetN w m k D) (n : Nat) : MetN (w.drewN n) m k D := h.kept (grown_drewN (grown_refl w none) n) (by simp)
variable {B g a lo hi m : Nat} {v : Value} {ys : List Int} {n : Int} {p : Nat} {D : Syms}
structure TelAt (w : World) (B g a lo hi m : Nat) (v : Value) (ys : List Int) (n : Int) (p : Nat) (D : Syms) : Prop where
  blk : w.heap[g]? = some (.cells #[.pointer (some ⟨a, 0, none⟩), .int .i64 n, v, .map (some m)] 285 (0, 0))
  pen : Pen w lo hi a ys p false false
  row : w.ownsRow hi 95 4 v D.length (D.flatMap syCs)
  met : MetN w m D.length D
  lo : B ≤ lo
  hg : hi ≤ g
  hm : hi ≤ m
theorem TelAt.ne (h : TelAt w B g a lo hi m v ys n p D) : m ≠ g := by
  intro e
  obtain ⟨es, clock, hb, _⟩ := h.met
  have := h.blk
  rw [← e, hb] at this
  injection this with this
  cases this
theorem TelAt.off (h : TelAt w B g a lo hi m v ys n p D) : ∀ b, v.ownBlock = some b → b ≠ g ∧ b ≠ m ∧ hi ≤ b := by
  intro b hb
  have h1 := (h.row.lt b hb).1
  rcases h.row.2 with ⟨rfl, _⟩ | ⟨b', cap, cur, rfl, _, hg, _⟩
  · cases hb
  · simp only [Value.ownBlock, Option.some.injEq] at hb
    subst hb
    refine ⟨fun e => ?_, fun e => ?_, h1⟩
    · have := h.blk
      rw [← e, hg] at this
      injection this with this
      injection this with _ e2 _
      revert e2
      decide +kernel
    · obtain ⟨es, clock, hb, _⟩ := h.met
      rw [← e, hg] at hb
      injection hb with hb
      cases hb
theorem TelAt.c (h : TelAt w B g a lo hi m v ys n p D) : w.cell? ⟨g, 0, none⟩ = some (.pointer (some ⟨a, 0, none⟩)) ∧ w.cell? ⟨g, 1, none⟩ = some (.int .i64 n) ∧ w.cell? ⟨g, 2, none⟩ = some v ∧ w.cell? ⟨g, 3, none⟩ = some (.map (some m)) := by
  refine ⟨?_, ?_, ?_, ?_⟩ <;> (rw [cell_of h.blk]; rfl)
theorem TelAt.lt (h : TelAt w B g a lo hi m v ys n p D) : g < w.heap.size := lt_of_block h.blk
theorem TelAt.grown (h : TelAt w B g a lo hi m v ys n p D) (k : w.grownBy w' none) : TelAt w' B g a lo hi m v ys n p D :=
  ⟨(k.block g (lt_of_block h.blk) (by simp)).trans h.blk, h.pen.same k, h.row.kept k (by cases v.ownBlock <;> simp), h.met.kept k (by simp), h.lo, h.hg, h.hm⟩
theorem TelAt.drewN (h : TelAt w B g a lo hi m v ys n p D) (j : Nat) : TelAt (w.drewN j) B g a lo hi m v ys n p D := h.grown (grown_drewN (grown_refl w none) j)
theorem TelAt.moved (h : TelAt w B g a lo hi m v ys n p D) (k : w.grownBy w' (some a)) {p' : Nat} (hp : Pen w' lo hi a ys p' false false) : TelAt w' B g a lo hi m v ys n p' D := by
  have h1 := h.hg
  have h2 := h.hm
  have h3 := h.pen.up
  refine ⟨(k.block g (lt_of_block h.blk) (fun e => by injection e with e; omega)).trans h.blk, hp, h.row.kept k ?_, h.met.kept k (fun e => by injection e with e; omega), h.lo, h.hg, h.hm⟩
  cases hv : v.ownBlock with
  | none => exact .inl rfl
  | some b => exact .inr (fun e => by injection e with e; have := (h.off b hv).2.2; omega)
end Go.Proofs.YtkmbkpoclhbmgaaGreat


namespace Go.Proofs.YtkmbkpoclhbmgaaGreat
open Go.RowKit Go.Maps
variable {w w' : World} {B g a lo hi m : Nat} {v : Value} {ys : List Int} {n : Int} {p : Nat} {D : Syms}

theorem TelAt.kept {r : Nat} (h : TelAt w B g a lo hi m v ys n p D) (k : w.grownBy w' (some r)) (h1 : r ≠ g) (h2 : r ≠ m) (h3 : r < lo ∨ hi ≤ r) (h4 : v.ownBlock ≠ some r) : TelAt w' B g a lo hi m v ys n p D :=
  ⟨(k.block g (lt_of_block h.blk) (fun e => by injection e with e; exact h1 e.symm)).trans h.blk, h.pen.kept k h3, h.row.kept k (.inr h4), h.met.kept k (fun e => by injection e with e; exact h2 e), h.lo, h.hg, h.hm⟩
structure Apart4 (r g m lo hi : Nat) (v : Value) : Prop where
  g : r ≠ g
  m : r ≠ m
  c : r < lo ∨ hi ≤ r
  v : v.ownBlock ≠ some r
theorem TelAt.new (h : TelAt w B g a lo hi m v ys n p D) {r : Nat} (hr : w.heap.size ≤ r) : Apart4 r g m lo hi v := by
  have h1 := h.lt
  have h2 := h.pen.sz
  obtain ⟨es, clock, hb, _⟩ := h.met
  have h3 := (Array.getElem?_eq_some_iff.1 hb).1
  refine ⟨by omega, by omega, .inr (by omega), fun e => ?_⟩
  have := (h.row.lt r e).2
  omega
theorem TelAt.keptA {r : Nat} (h : TelAt w B g a lo hi m v ys n p D) (k : w.grownBy w' (some r)) (o : Apart4 r g m lo hi v) : TelAt w' B g a lo hi m v ys n p D := h.kept k o.g o.m o.c o.v
def nmErr (ys : List Int) (p : Int) : Int :=
  if (ys.length : Int) ≤ p then 13
  else if pre (ys.drop p.toNat) = [] ∨ (ys.drop p.toNat).length ≤ (pre (ys.drop p.toNat)).length then 13
  else if 255 < (pre (ys.drop p.toNat)).length then 10 else 0
def addE (ys : List Int) (D : Syms) (p : Int) : Int :=
  if nmErr ys p ≠ 0 then nmErr ys p else if nlHas D (pre (ys.drop p.toNat)) = true then 21 else if D.length = 4096 then 11 else 0
theorem nlAdd_is (ys : List Int) (n : Int) (D : Syms) (e : List Int) : nlAdd ys n D e = if nlKind e = 15 ∧ (nlSec e = 0 ∨ n < nlSec e) then 13 else addE ys D (nlPlace e) := by
  unfold nlAdd nlErr addE nmErr nlNm
  split
  · simp
  · rfl
theorem seek_none (h : Pen w lo hi a ys p false false) (q : Nat) (hq : ¬ (q ≤ ys.length ∧ (pre (ys.drop q)).length < (ys.drop q).length)) :
    Calls Tryz.prog 166 #[.pointer (some ⟨a, 0, none⟩), .int .i64 q] w fun e w' =>
      e = .returned (.tuple #[]) ∧ (∃ (p' : Nat) (bad : Bool) (m : Int), Pen w' lo hi a ys p' false bad ∧ m = (ys.length : Int) - p' ∧ (bad = true ∨ textLen (ys.drop p') m = -1)) ∧ w.grownBy w' (some a) := by
  by_cases h1 : q ≤ ys.length
  · refine (pen_seek h q h1).mono ?_
    rintro e w' ⟨rfl, hp, hg⟩
    refine ⟨rfl, ⟨q, false, _, hp, rfl, .inr ?_⟩, hg⟩
    unfold textLen
    rw [if_neg (fun h2 => hq ⟨h1, h2.1⟩)]
  · refine (pen_seek_no h q (by omega)).mono ?_
    rintro e w' ⟨rfl, hp, hg⟩
    exact ⟨rfl, ⟨p, true, _, hp, rfl, .inl rfl⟩, hg⟩
set_option maxRecDepth 20000 in
set_option maxHeartbeats 1600000 in
theorem add_none (h : TelAt w B g a lo hi m v ys n p D) (hD : ∀ y ∈ D, Byt y.1) (q : Nat) (hq : ¬ (q ≤ ys.length ∧ (pre (ys.drop q)).length < (ys.drop q).length)) (h32 : (q : Int) < 4294967296) (nm : ByteArray) (x : Sy) :
    Calls Tryz.prog 205 #[.pointer (some ⟨g, 0, none⟩), syV nm x, .int .u64 q] w fun e w' => e = .returned (.int .i64 13) ∧ Below B w w' := by
  have hBw : B ≤ w.heap.size := Nat.le_trans h.lo (Nat.le_trans (Nat.le_of_lt (Nat.lt_of_le_of_lt h.pen.lw h.pen.up)) h.pen.sz)
  have BA := Lib.hid (show B ≤ a from Nat.le_trans h.lo h.pen.lw)
  have g0 := grown1 w (.cells #[.string nm, .int .i64 x.sec, .int .u64 x.value, .bool x.weak] 95)
  have t0 := h.grown g0
  have s0 := SyAt.new w nm x
  have OFF := h.new (Nat.le_refl w.heap.size)
  obtain ⟨X, hX⟩ : ∃ X, X = w.heap.size := ⟨_, rfl⟩
  rw [← hX] at s0 OFF
  obtain ⟨W, hW⟩ : ∃ W, W = w.alloc (.cells #[.string nm, .int .i64 x.sec, .int .u64 x.value, .bool x.weak] 95) := ⟨_, rfl⟩
  rw [← hW] at g0 t0 s0
  have B0 := Lib.hid (below_grown g0 hBw (by simp) : Below B w W)
  have hBW : B ≤ W.heap.size := Nat.le_trans hBw g0.size
  have SK := Lib.hid (seek_none t0.pen q hq)
  have T0 := Lib.hid t0
  have c0 := t0.c.1
  have S0 := Lib.hid s0
  have HW := Lib.hid hW
  have HX := Lib.hid hX
  have gl := t0.lt
  have HD := Lib.hid hD
  have hXa : X ≠ a := fun e => by have := h.pen.lt; omega
  have hga : g ≠ a := fun e => by have := h.hg; have := h.pen.up; omega
  have hma : m ≠ a := fun e => by have := h.hm; have := h.pen.up; omega
  have hva : v.ownBlock ≠ some a := fun e => by have := (h.off a e).2.2; have := h.pen.up; omega
  clear h g0 t0 s0 hq hD
  unfold syV syArr
  go_enter Tryz.func205, Tryz.ntmps205
  go_upto_region 1 with fail
  rw [← HW.out, ← HX.out]
  clear HW HX hW
  go_wp2_with fail
  refine SK.out.mono ?_
  rintro e w1 ⟨rfl, ⟨p1, bad, M, hp, hM, hb⟩, hg⟩
  have PP := Lib.hid hp
  have k0 := hg.cell c0 (fun e => by injection e with e; exact hga e)
  have K1 := Lib.hid (hg.cell T0.out.c.2.2.2 (fun e => by injection e with e; exact hga e))
  have S1 := Lib.hid (S0.out.kept hg (fun e => by injection e with e; exact hXa e.symm))
  have M1 := Lib.hid (T0.out.met.kept hg (fun e => by injection e with e; exact hma e.symm))
  have B1 := Lib.hid (B0.out.trans (below_grown hg hBW (by simp; exact BA.out)) : Below B w w1)
  have hB1 : B ≤ w1.heap.size := Nat.le_trans hBW hg.size
  have hp' : Pen w1.drew lo hi a ys p1 false bad := hp.same (show w1.grownBy w1.drew none from grown_drewN (grown_refl w1 none) 1)
  have KK := Lib.hid (fun k w3 (hg3 : (w1.drewN k).grownBy w3 (some a)) => hg3.cell (show (w1.drewN k).cell? _ = _ from k0) (fun e => by injection e with e; exact hga e))
  have SS := Lib.hid (fun k w3 (hg3 : (w1.drewN k).grownBy w3 (some a)) => (S1.out.kept (grown_drewN (grown_refl w1 none) k) (by simp)).kept hg3 (fun e => by injection e with e; exact hXa e.symm))
  have KT := Lib.hid (fun k w3 (hg3 : (w1.drewN k).grownBy w3 (some a)) => (grown_setCell (i := 0) (grown_refl w3 (some X)) (.string ByteArray.empty)).cell (hg3.cell (show (w1.drewN k).cell? _ = _ from K1.out) (fun e => by injection e with e; exact hga e)) (fun e => by injection e with e; exact OFF.g e.symm))
  have XB := Lib.hid (show B ≤ X by rw [hX]; exact hBw)
  clear hX
  have LF := Lib.hid (pen_left hp')
  have TN := Lib.hid (fun j => pen_text_no (hp.same (grown_drewN (grown_refl w1 none) j)) M hb)
  rw [← hM] at LF
  clear hM hb hp hp'
  have hBd : B ≤ w1.drew.heap.size := hB1
  go_wp2
  go_region_held3 (fun V => V.cell? ⟨g, 0, none⟩ = some (.pointer (some ⟨a, 0, none⟩)))
    (first | exact k0 | exact k3 | exact k4)
    (first
      | (go_at_call 165; (with_reducible refine (LF.out).mono ?_); rintro e w2 ⟨rfl, j, rfl⟩)
      | (go_at_call 135; (with_reducible refine (TN.out _).mono ?_); rintro e w3 ⟨rfl, hp3, hg3⟩; have k3 := KK.out _ _ hg3; have S3 := SS.out _ _ hg3; have x3 := S3.c.1; have f3 := S3.fz 0; have l3 := S3.lt; have k4 := (grown_setCell (i := 0) (grown_refl w3 (some X)) (.string ByteArray.empty)).cell k3 (fun e => by injection e with e; exact OFF.g e.symm)))
  have g4 := grown_trans (grown_drewN (grown_refl w1 (some a)) (1 + j)) hg3
  have S4 := S3.s0 ByteArray.empty
  have MM := ((M1.out.kept (grown_drewN (grown_refl w1 none) (1 + j)) (by simp)).kept hg3 (fun e => by injection e with e; exact hma e.symm)).kept (grown_setCell (i := 0) (grown_refl w3 (some X)) (.string ByteArray.empty)) (fun e => by injection e with e; exact OFF.m e)
  have B4 := Lib.hid (B1.out.trans (below_grown (grown_trans (grown_drewN (grown_refl w1 (some a)) (1 + j)) hg3) hB1 (by simp; exact BA.out)) |>.trans (below_grown (grown_setCell (i := 0) (grown_refl w3 (some X)) (.string ByteArray.empty)) (Nat.le_trans hB1 hg3.size) (by simp; exact XB.out)) : Below B w _)
  have c3 := (KT.out _ _ hg3)
  have d0 := S4.c.1
  obtain ⟨W4, hW4⟩ : ∃ W4, W4 = w3.setCell ⟨X, 0, none⟩ (.string ByteArray.empty) := ⟨_, rfl⟩
  rw [← hW4] at B4 c3 d0 MM k4 ⊢
  have MW := Lib.hid MM
  have LX := Lib.hid (show X < W4.heap.size by rw [hW4]; exact S4.lt)
  have hl4 : B ≤ W4.heap.size := by have := B4.out.size; omega
  clear hW4 MM S4 S3 x3 f3 l3 g4 hp3 hg3 k3 k0
  have gA := grown1 W4 (.cells #[] 170)
  have c3a := grown_cell gA c3
  have d0a := grown_cell gA d0
  have LKd := (show MetN W4.drew m D.length D from MW.out.drewN 1).look HD.out (t := []) (fun _ h => by cases h) (by decide)
  have LKa := (show MetN (W4.alloc (.cells #[] 170)).drew m D.length D from (MW.out.kept gA (by simp)).drewN 1).look HD.out (t := []) (fun _ h => by cases h) (by decide)
  obtain ⟨b0, hb0⟩ : ∃ b, b = nlHas D [] := ⟨_, rfl⟩
  rw [← hb0, show strOfNums [] = ByteArray.empty from rfl] at LKd LKa
  have GA := Lib.hid gA
  clear hb0 gA
  have x4 := LX.out
  have BF := Lib.hid (B4.out.trans (below_drewN (below_grown GA.out hl4 (by simp)) 1))
  go_wp2
  go_region
  all_goals
    go_wp2
    go_ret
    exact ⟨rfl, BF.out⟩
theorem sy_off {base : Nat} {u : Value} {k : Nat} {l : List Value} {cs : Array Value} (h : w.ownsRow base 95 4 u k l) (hg : w.heap[g]? = some (.cells cs 285 (0, 0))) : u.ownBlock ≠ some g := by
  intro e
  rcases h.2 with ⟨rfl, _⟩ | ⟨b', cap, cur, rfl, _, hb, _⟩
  · cases e
  · simp only [Value.ownBlock, Option.some.injEq] at e
    subst e
    rw [hg] at hb
    injection hb with hb
    injection hb with _ e2 _
    revert e2
    decide +kernel
theorem TelAt.next (h : TelAt w B g a lo hi m v ys n p D) {w6 wa w7 : World} {v' : Value} (x : Sym) (k6 : w.grownBy w6 (some m)) (n6 : MetN w6 m (D.length + 1) (D ++ [x])) (ka : w6.grownBy wa none)
    (ho : w7.ownsRow hi 95 4 v' (D.length + 1) (D.flatMap syCs ++ syCs x)) (k7 : wa.grownBy w7 v.ownBlock) : TelAt (w7.setCell ⟨g, 2, none⟩ v') B g a lo hi m v' ys n p (D ++ [x]) := by
  have hmg := h.ne
  have hug := h.pen.up
  have hgh := h.hg
  have hmh := h.hm
  have hoff := h.off
  have b6 := (k6.block g (lt_of_block h.blk) (fun e => by injection e with e; exact hmg e.symm)).trans h.blk
  have ba := (ka.block g (lt_of_block b6) (by simp)).trans b6
  have hvg : v.ownBlock ≠ some g := fun e => (hoff g e).1 rfl
  have hvm : v.ownBlock ≠ some m := fun e => (hoff m e).2.1 rfl
  have b7 := (k7.block g (lt_of_block ba) (fun e => hvg e.symm)).trans ba
  have hvg' := sy_off ho b7
  have p6 := h.pen.kept k6 (.inr hmh)
  have pa := p6.same ka
  have p7 : Pen w7 lo hi a ys p false false := pa.row k7 (fun b hb => (hoff b hb).2.2)
  have m7 : MetN w7 m (D.length + 1) (D ++ [x]) := (n6.kept ka (by simp)).kept k7 hvm
  have gs := grown_setCell (i := 2) (grown_refl w7 (some g)) v'
  refine ⟨?_, p7.kept gs (.inr hgh), ?_, ?_, h.lo, hgh, hmh⟩
  · rw [heap_setCell_same w7 g 2 _ _ _ b7]; rfl
  · rw [List.length_append, List.length_singleton, List.flatMap_append, List.flatMap_singleton]
    exact ho.kept gs (.inr hvg')
  · rw [List.length_append, List.length_singleton]
    exact m7.kept gs (fun e => by injection e with e; exact hmg e.symm)
end Go.Proofs.YtkmbkpoclhbmgaaGreat


namespace Go.Proofs.YtkmbkpoclhbmgaaGreat
open Go.RowKit Go.Maps
variable {w w' : World} {B g a lo hi m : Nat} {v : Value} {ys : List Int} {n : Int} {p : Nat} {D : Syms}

theorem addE_text {q : Nat} (hq : q ≤ ys.length ∧ (pre (ys.drop q)).length < (ys.drop q).length) :
    addE ys D q = if pre (ys.drop q) = [] then 13 else if 255 < (pre (ys.drop q)).length then 10 else if nlHas D (pre (ys.drop q)) = true then 21 else if D.length = 4096 then 11 else 0 := by
  have h2 := hq.2
  rw [List.length_drop] at h2
  unfold addE nmErr
  rw [Int.toNat_natCast, if_neg (show ¬ (ys.length : Int) ≤ (q : Int) by omega)]
  by_cases h : pre (ys.drop q) = []
  · have h3 : (pre (ys.drop q) = [] ∨ (ys.drop q).length ≤ (pre (ys.drop q)).length) := .inl h
    rw [if_pos h3, if_pos h]; rfl
  · have h3 : ¬ (pre (ys.drop q) = [] ∨ (ys.drop q).length ≤ (pre (ys.drop q)).length) := fun e => e.elim h (fun e => absurd hq.2 (by omega))
    rw [if_neg h3, if_neg h]
    by_cases h4 : 255 < (pre (ys.drop q)).length
    · rw [if_pos h4, if_pos h4]; rfl
    · rw [if_neg h4, if_neg h4]; rfl
structure AddOut (w w' : World) (B g a lo hi m : Nat) (ys : List Int) (n : Int) (D D' : Syms) (E : Int) (e : Ending) : Prop where
  ret : e = .returned (.int .i64 E)
  below : Below B w w'
  tel : E = 0 → ∃ v' p', TelAt w' B g a lo hi m v' ys n p' D'
set_option maxRecDepth 20000 in
set_option maxHeartbeats 1600000 in
theorem add_some (h : TelAt w B g a lo hi m v ys n p D) (hok : SymsOk D) (hy : Byt ys) (q : Nat) (hq : q ≤ ys.length ∧ (pre (ys.drop q)).length < (ys.drop q).length) (h32 : (q : Int) < 4294967296) (x : Sy) :
    Calls Tryz.prog 205 #[.pointer (some ⟨g, 0, none⟩), syV ⟨#[]⟩ x, .int .u64 q] w fun e w' => AddOut w w' B g a lo hi m ys n D (D ++ [(pre (ys.drop q), x)]) (addE ys D q) e := by
  have hBw : B ≤ w.heap.size := Nat.le_trans h.lo (Nat.le_trans (Nat.le_of_lt (Nat.lt_of_le_of_lt h.pen.lw h.pen.up)) h.pen.sz)
  have hBa : B ≤ a := Nat.le_trans h.lo h.pen.lw
  have g0 := grown1 w (.cells #[.string ⟨#[]⟩, .int .i64 x.sec, .int .u64 x.value, .bool x.weak] 95)
  have t0 := h.grown g0
  have s0 := SyAt.new w ⟨#[]⟩ x
  have OFF := h.new (Nat.le_refl w.heap.size)
  obtain ⟨X, hX⟩ : ∃ X, X = w.heap.size := ⟨_, rfl⟩
  rw [← hX] at s0 OFF
  obtain ⟨W, hW⟩ : ∃ W, W = w.alloc (.cells #[.string ⟨#[]⟩, .int .i64 x.sec, .int .u64 x.value, .bool x.weak] 95) := ⟨_, rfl⟩
  rw [← hW] at g0 t0 s0
  have hBX : B ≤ X := by rw [hX]; exact hBw
  have B0 := Lib.hid (below_grown g0 hBw (by simp) : Below B w W)
  have hBW : B ≤ W.heap.size := Nat.le_trans hBw g0.size
  have hXa : X ≠ a := fun e => by have := h.pen.lt; omega
  have hga : g ≠ a := fun e => by have := h.hg; have := h.pen.up; omega
  have SK := Lib.hid (pen_seek t0.pen q hq.1)
  have LF := Lib.hid (fun (V : World) (hp : Pen V lo hi a ys q false false) => pen_left hp)
  have TX := Lib.hid (fun (V : World) (hp : Pen V lo hi a ys q false false) => pen_text_ok hp ((ys.length : Int) - q) ⟨hq.2, by have := hq.2; rw [List.length_drop] at this; omega⟩)
  have hT0 : Byt (pre (ys.drop q)) := (hy.drop q).pre
  have hTl : (pre (ys.drop q)).length < ys.length - q := by have := hq.2; rwa [List.length_drop] at this
  have hbig := h.pen.most
  obtain ⟨E, hE⟩ : ∃ E, E = addE ys D q := ⟨_, rfl⟩
  rw [← hE]
  rw [addE_text hq] at hE
  obtain ⟨T, hT⟩ : ∃ T, T = pre (ys.drop q) := ⟨_, rfl⟩
  rw [← hT] at TX hT0 hTl hE ⊢
  have T0 := Lib.hid t0
  have c0 := t0.c.1
  have S0 := Lib.hid s0
  have HW := Lib.hid hW
  have HX := Lib.hid hX
  have HO := Lib.hid hok
  have BT := Lib.hid hT0
  have HE := Lib.hid hE
  have n1 := text_nil T
  have hsz : (strOfNums T).size = T.length := strOfNums_size _
  have hTm : T.length ≤ 140737488355328 := by omega
  clear h g0 t0 s0 hq hok hy hT hE hT0 hTl hbig hBw
  unfold syV syArr
  go_enter Tryz.func205, Tryz.ntmps205
  go_upto_region 1 with fail
  rw [← HW.out, ← HX.out]
  clear HW HX hW hX
  go_wp2_with fail
  refine SK.out.mono ?_
  rintro e w1 ⟨rfl, hp, hg⟩
  have t1 := T0.out.moved hg hp
  have S1 := Lib.hid (S0.out.kept hg (fun e => by injection e with e; exact hXa e.symm))
  have B1 := Lib.hid (B0.out.trans (below_grown hg hBW (by simp; exact hBa)) : Below B w w1)
  have hB1 : B ≤ w1.heap.size := Nat.le_trans hBW hg.size
  have t1' : TelAt w1.drew B g a lo hi m v ys n q D := t1.grown (show w1.grownBy w1.drew none from grown_drewN (grown_refl w1 none) 1)
  have T1 := Lib.hid t1
  have k0 := t1.c.1
  have LF1 := Lib.hid (LF.out _ t1'.pen)
  have TX1 := Lib.hid (fun k => TX.out (w1.drewN k) (t1.drewN k).pen)
  have ST := Lib.hid (fun k w3 p3 (hg3 : (w1.drewN k).grownBy w3 (some a)) (hp3 : Pen w3 lo hi a ys p3 false false) => (t1.drewN k).moved hg3 hp3)
  have SS := Lib.hid (fun k w3 (hg3 : (w1.drewN k).grownBy w3 (some a)) => (S1.out.kept (grown_drewN (grown_refl w1 none) k) (by simp)).kept hg3 (fun e => by injection e with e; exact hXa e.symm))
  clear hg hp t1 t1' c0 SK LF TX T0 S0 B0
  go_wp2
  go_region_held3 (fun V => V.cell? ⟨g, 0, none⟩ = some (.pointer (some ⟨a, 0, none⟩)))
    (first | exact k0 | exact k3 | exact k4)
    (first
      | (go_at_call 165; (with_reducible refine (LF1.out).mono ?_); rintro e w2 ⟨rfl, j, rfl⟩)
      | (go_at_call 135; (with_reducible refine (TX1.out _).mono ?_); rintro e w3 ⟨rfl, hp3, hg3⟩; have t3 := ST.out _ _ _ hg3 hp3; have k3 := t3.c.1; have S3 := SS.out _ _ hg3; have x3 := S3.c.1; have f3 := S3.fz 0; have l3 := S3.lt; have k4 := (grown_setCell (i := 0) (grown_refl w3 (some X)) (.string (strOfNums T))).cell k3 (fun e => by injection e with e; exact OFF.g e.symm)))
  have S4 := S3.s0 (strOfNums T)
  have gs := grown_setCell (i := 0) (grown_refl w3 (some X)) (.string (strOfNums T))
  have t4 := t3.keptA gs OFF
  have B4 := Lib.hid (B1.out.trans (below_grown (grown_trans (grown_drewN (grown_refl w1 (some a)) (1 + j)) hg3) hB1 (by simp; exact hBa)) |>.trans (below_grown gs (Nat.le_trans hB1 hg3.size) (by simp; exact hBX)) : Below B w _)
  obtain ⟨W4, hW4⟩ : ∃ W4, W4 = w3.setCell ⟨X, 0, none⟩ (.string (strOfNums T)) := ⟨_, rfl⟩
  rw [← hW4] at B4 S4 t4 k4 ⊢
  have hl4 : B ≤ W4.heap.size := Nat.le_trans hBX (Nat.le_of_lt S4.lt)
  have gA := grown1 W4 (.cells #[] 170)
  have c3 := t4.c.2.2.2
  have d0 := S4.c.1
  have c3a := grown_cell gA c3
  have d0a := grown_cell gA d0
  have hDB : ∀ y ∈ D, Byt y.1 := fun y hy => (HO.out.each y hy).1
  have LKd := (show MetN W4.drew m D.length D from t4.met.drewN 1).look hDB BT.out hTm
  have t5 : TelAt (W4.alloc (.cells #[] 170)).drew B g a lo hi m v ys n _ D := (t4.grown gA).drewN 1
  have s5 : SyAt (W4.alloc (.cells #[] 170)).drew X (strOfNums T) x := S4.kept (grown_drewN gA 1) (by simp)
  have LKa := t5.met.look hDB BT.out hTm
  have B5 := Lib.hid (B4.out.trans (below_drewN (below_grown gA hl4 (by simp)) 1) : Below B w (W4.alloc (.cells #[] 170)).drew)
  have T5 := Lib.hid t5
  have S5 := Lib.hid s5
  have x4 := S4.lt
  obtain ⟨hs, hhs⟩ : ∃ b, b = nlHas D T := ⟨_, rfl⟩
  rw [← hhs] at LKd LKa
  have HH := Lib.hid hhs
  clear hW4 S4 S3 x3 f3 l3 hp3 hg3 k3 k0 t3 t4 gs t5 s5 gA hDB hhs k4 S1 B1 B4 T1 ST SS LF1 TX1
  go_wp2
  go_region
  all_goals
    clear LKd LKa c3 c3a d0 d0a
    have t5 := T5.out
    have d0 := S5.out.c.1
    have xl := S5.out.lt
    obtain ⟨W5, hW5⟩ : ∃ W5, W5 = (W4.alloc (.cells #[] 170)).drew := ⟨_, rfl⟩
    rw [← hW5] at T5 S5 B5 t5 d0 xl ⊢
    clear hW5
    have he := HE.out
    by_cases h1 : T = []
    · rw [decide_eq_true h1] at n1
      rw [if_pos h1] at he
      have EE := Lib.hid he
      clear h1 he t5
      go_wp2
      go_ret
      exact ⟨by rw [EE.out]; rfl, B5.out, fun h => by rw [EE.out] at h; cases h⟩
    · rw [decide_eq_false h1] at n1
      rw [if_neg h1] at he
      clear h1
      by_cases h2 : 255 < T.length
      · have d2 : decide ((255 : Int) < (T.length : Int)) = true := by simp; omega
        rw [if_pos h2] at he
        have EE := Lib.hid he
        clear h2 he t5
        go_wp2
        go_ret
        exact ⟨by rw [EE.out]; rfl, B5.out, fun h => by rw [EE.out] at h; cases h⟩
      · have d2 : decide ((255 : Int) < (T.length : Int)) = false := by simp; omega
        rw [if_neg h2, ← HH.out] at he
        clear h2
        cases hs
        · rw [if_neg (by simp)] at he
          obtain ⟨qs, cs, rfl⟩ := own_slice t5.row
          have c2 := t5.c.2.2.1
          have gl := t5.lt
          by_cases h3 : D.length = 4096
          · have d3 : ((D.length : Int) == 4096) = true := by rw [h3]; rfl
            rw [if_pos h3] at he
            have EE := Lib.hid he
            clear h3 he t5
            go_wp2
            go_ret
            exact ⟨by rw [EE.out]; rfl, B5.out, fun h => by rw [EE.out] at h; cases h⟩
          · have d3 : ((D.length : Int) == 4096) = false := by rw [beq_eq_false_iff_ne]; omega
            rw [if_neg h3] at he
            have EE := Lib.hid he
            have hfew := HO.out.few
            clear h3 he
            have c3 := t5.c.2.2.2
            obtain ⟨w6, hr6, n6, g6⟩ := (show MetN W5.drew m D.length D from t5.met.drewN 1).put (T, x) hTm (by unfold maxLen; omega)
            have g56 : W5.grownBy w6 (some m) := grown_trans (grown_drewN (grown_refl W5 (some m)) 1) g6
            have s6 := S5.out.kept g56 (fun e => by injection e with e; exact OFF.m e.symm)
            have NX := Lib.hid (fun (wa w7 : World) (v' : Value) (ka : w6.grownBy wa none) (ho : w7.ownsRow hi 95 4 v' (D.length + 1) (D.flatMap syCs ++ syCs (T, x))) (k7 : wa.grownBy w7 (Value.slice qs D.length cs).ownBlock) => t5.next (T, x) g56 n6 ka ho k7)
            have OW := Lib.hid (t5.row.kept g56 (.inr (fun e => (t5.off m e).2.1 rfl)))
            have OO := Lib.hid t5.off
            have hmg : g ≠ m := fun e => t5.ne e.symm
            have b6 := (g56.block g (lt_of_block t5.blk) (fun e => by injection e with e; exact hmg e)).trans t5.blk
            have hBhi : B ≤ hi := Nat.le_trans t5.lo (Nat.le_of_lt (Nat.lt_of_le_of_lt t5.pen.lw t5.pen.up))
            have hB5 : B ≤ W5.heap.size := Nat.le_trans hBhi t5.pen.sz
            have hB6 : B ≤ w6.heap.size := Nat.le_trans hB5 g56.size
            have hH6 : hi ≤ w6.heap.size := Nat.le_trans t5.pen.sz g56.size
            have hBg : B ≤ g := Nat.le_trans hBhi t5.hg
            have B6 := Lib.hid (B5.out.trans (below_grown g56 hB5 (by simp; exact Nat.le_trans hBhi t5.hm)) : Below B w w6)
            have BK := Lib.hid b6
            have e2 : w6.cell? ⟨g, 2, none⟩ = some (.slice qs D.length cs) := by rw [cell_of b6]; rfl
            have S6 := Lib.hid s6
            simp only [] at hr6
            clear t5 n6 g6 g56 s6 b6
            go_wp2
            go_region
            clear c3 hr6 d0 c2 gl xl n1 d2 d3
            obtain ⟨x0, x1, x2, x3⟩ := S6.out.c
            have xl := S6.out.lt
            have f2 := free_of (i := 2) BK.out
            have gl := lt_of_block BK.out
            have gA : w6.grownBy (w6.alloc (.cells #[.string (strOfNums T), .int .i64 x.sec, .int .u64 x.value, .bool x.weak] 95)).drew none := grown_drewN (grown1 w6 _) 1
            have OWA := Lib.hid (own_grown OW.out gA)
            have HNA := Lib.hid (show (w6.alloc (.cells #[.string (strOfNums T), .int .i64 x.sec, .int .u64 x.value, .bool x.weak] 95)).drew.heap[w6.heap.size]? = some (.cells ([.string (strOfNums T), .int .i64 x.sec, .int .u64 x.value, .bool x.weak] : List Value).toArray 95 (0, 0)) from heap_alloc_new w6 _)
            have ONE := Lib.hid (syCs_one (T, x))
            have GA := Lib.hid gA
            have BKA := Lib.hid (((gA.block g (lt_of_block BK.out) (by simp)).trans BK.out))
            have HLO := Lib.hid (show hi ≤ (w6.alloc (.cells #[.string (strOfNums T), .int .i64 x.sec, .int .u64 x.value, .bool x.weak] 95)).drew.heap.size from Nat.le_trans hH6 gA.size)
            have hf : (D.length + 1) * 40 ≤ 140737488355328 := by omega
            have NV := Lib.hid (fun e => (OO.out g e).1 rfl : (Value.slice qs D.length cs).ownBlock ≠ some g)
            obtain ⟨rows, hrows⟩ : ∃ r, r = D.flatMap syCs := ⟨_, rfl⟩
            rw [← hrows] at OWA NX OW
            obtain ⟨L, hL⟩ : ∃ L, L = D.length := ⟨_, rfl⟩
            rw [← hL] at OWA NX OW e2 hf OO NV BKA
            clear gA hrows hL hfew
            go_wp2
            go_region_law (refine step_append_st syType (by with_reducible rfl) _ _ (by with_reducible rfl) _ L 1 rows (by rfl) OWA.out [.string (strOfNums T), .int .i64 x.sec, .int .u64 x.value, .bool x.weak] rfl w6.heap.size (by rfl) HNA.out ONE.out hf (by decide) HLO.out ?_; intro v7 w7 ho7 hg7; obtain ⟨q7, c7, rfl⟩ := own_slice ho7; have b7 := (hg7.block g (lt_of_block BKA.out) (fun e => NV.out e.symm)).trans BKA.out; have e2' : w7.cell? ⟨g, 2, none⟩ = some (.slice qs L cs) := (by rw [cell_of b7]; rfl); have f2' := free_of (i := 2) b7; have gl' := lt_of_block b7)
            all_goals
              have TF := Lib.hid (NX.out _ w7 _ GA.out ho7 hg7)
              have BF := Lib.hid (B6.out.trans (below_grown GA.out hB6 (by simp)) |>.trans (below_grown hg7 (Nat.le_trans hB6 GA.out.size) (fun b hb => Nat.le_trans hBhi (OO.out b hb).2.2)) |>.trans (below_grown (grown_setCell (i := 2) (grown_refl w7 (some g)) (.slice q7 (L + 1) c7)) (Nat.le_trans hB6 (Nat.le_trans GA.out.size hg7.size)) (by simp; exact hBg)))
              clear ho7 hg7 b7 e2' f2' gl'
              go_wp2
              go_ret
              exact ⟨by rw [EE.out]; rfl, BF.out, fun _ => ⟨_, _, TF.out⟩⟩
        · rw [if_pos rfl] at he
          have EE := Lib.hid he
          clear he t5
          go_wp2
          go_ret
          exact ⟨by rw [EE.out]; rfl, B5.out, fun h => by rw [EE.out] at h; cases h⟩
end Go.Proofs.YtkmbkpoclhbmgaaGreat


namespace Go.Proofs.YtkmbkpoclhbmgaaGreat
open Go.RowKit Go.Maps
variable {w w' : World} {B g a lo hi m : Nat} {v : Value} {ys : List Int} {n : Int} {p : Nat} {D : Syms}

theorem addE_none {q : Nat} (hq : ¬ (q ≤ ys.length ∧ (pre (ys.drop q)).length < (ys.drop q).length)) : addE ys D q = 13 := by
  unfold addE nmErr
  rw [Int.toNat_natCast]
  by_cases h1 : (ys.length : Int) ≤ (q : Int)
  · rw [if_pos h1]; rfl
  · rw [if_neg h1]
    have h2 : (pre (ys.drop q) = [] ∨ (ys.drop q).length ≤ (pre (ys.drop q)).length) := .inr (by have : ¬ _ := fun h => hq ⟨by omega, h⟩; omega)
    rw [if_pos h2]; rfl
theorem add_any (h : TelAt w B g a lo hi m v ys n p D) (hok : SymsOk D) (hy : Byt ys) (q : Nat) (h32 : (q : Int) < 4294967296) (x : Sy) :
    Calls Tryz.prog 205 #[.pointer (some ⟨g, 0, none⟩), syV ⟨#[]⟩ x, .int .u64 q] w fun e w' => AddOut w w' B g a lo hi m ys n D (D ++ [(pre (ys.drop q), x)]) (addE ys D q) e := by
  by_cases hq : q ≤ ys.length ∧ (pre (ys.drop q)).length < (ys.drop q).length
  · exact add_some h hok hy q hq h32 x
  · refine (add_none h (fun y hy => (hok.each y hy).1) q hq h32 _ x).mono ?_
    rintro e w' ⟨rfl, hb⟩
    rw [addE_none hq]
    exact ⟨rfl, hb, fun h => by cases h⟩
set_option maxRecDepth 20000 in
set_option maxHeartbeats 1600000 in
theorem take_any10 (h : TelAt w B g a lo hi m v ys n p D) (hok : SymsOk D) (hy : Byt ys) {e : List Int} {q : Option Addr} {c : Nat} (hb : IsBytes w q c e) (hl : e.length = 16) (he : Byt e) :
    Calls Tryz.prog 202 #[.pointer (some ⟨g, 0, none⟩), .slice q 16 c] w fun r w' => AddOut w w' B g a lo hi m ys n D (nlD ys D e) (nlE ys n D e) r := by
  have hBhi : B ≤ hi := Nat.le_trans h.lo (Nat.le_of_lt (Nat.lt_of_le_of_lt h.pen.lw h.pen.up))
  have hBw : B ≤ w.heap.size := Nat.le_trans hBhi h.pen.sz
  have NW := Lib.hid (pen_new hb hl (by omega) he false)
  have H := Lib.hid h
  have HOK := Lib.hid hok
  have HY := Lib.hid hy
  have HE := Lib.hid he
  have HL := Lib.hid hl
  have N0 := Lib.hid (fun (V : World) (lo hi b : Nat) (hp : Pen V lo hi b e 0 false false) => pen_num hp 4 (by decide) (by omega))
  have N4 := Lib.hid (fun (V : World) (lo hi b : Nat) (hp : Pen V lo hi b e 4 false false) => pen_num hp 1 (by decide) (by omega))
  have N5 := Lib.hid (fun (V : World) (lo hi b : Nat) (hp : Pen V lo hi b e 5 false false) => pen_num hp 1 (by decide) (by omega))
  have N6 := Lib.hid (fun (V : World) (lo hi b : Nat) (hp : Pen V lo hi b e 6 false false) => pen_num hp 2 (by decide) (by omega))
  have N8 := Lib.hid (fun (V : World) (lo hi b : Nat) (hp : Pen V lo hi b e 8 false false) => pen_num hp 8 (by decide) (by omega))
  rw [show numOf false ((e.drop 0).take 4) = nlPlace e from rfl] at N0
  rw [one_at (show 4 < e.length by omega), show numOf false [e.getD 4 0] = nlKind e from le_one _] at N4
  rw [one_at (show 5 < e.length by omega), show numOf false [e.getD 5 0] = nlSec e from le_one _] at N5
  rw [show numOf false ((e.drop 6).take 2) = nlDesc e from rfl] at N6
  rw [show numOf false ((e.drop 8).take 8) = nlVal e from rfl] at N8
  have b4 : 0 ≤ nlKind e ∧ nlKind e < 256 := byt_at he 4
  have b5 : 0 ≤ nlSec e ∧ nlSec e < 256 := byt_at he 5
  have bp := nlPlace_bd he
  have bd := nlDesc_bd he
  have bv := nlVal_bd he
  have AD := Lib.hid (fun (V : World) (hV : w.grownBy V none) (x : Sy) (P : Nat) (hP : (P : Int) < 4294967296) => add_any (h.grown hV) hok hy P hP x)
  obtain ⟨P, hP⟩ : ∃ P : Nat, nlPlace e = P := ⟨(nlPlace e).toNat, by omega⟩
  have EB : nlKind e = 15 → (nlSec e = 0 ∨ n < nlSec e) → nlE ys n D e = 13 := fun h1 h2 => by
    have ht : nlTold e = true := by unfold nlTold; simp [h1]
    unfold nlE
    rw [if_pos ht, nlAdd_is, if_pos ⟨h1, h2⟩]
  have EG : (nlKind e = 3 ∨ (nlKind e = 15 ∧ ¬ (nlSec e = 0 ∨ n < nlSec e))) → nlE ys n D e = addE ys D P ∧ nlD ys D e = D ++ [(pre (ys.drop P), ⟨if nlKind e = 15 then nlSec e else 0, nlVal e, decide (nlDesc e / 128 % 2 = 1)⟩)] := fun h1 => by
    have ht : nlTold e = true := by unfold nlTold; rcases h1 with h1 | h1 <;> simp [h1]
    unfold nlE nlD
    rw [if_pos ht, if_pos ht, nlAdd_is, if_neg (fun h2 => by rcases h1 with h1 | h1; (rw [h1] at h2; exact absurd h2.1 (by decide)); exact h1.2 h2.2), hP]
    refine ⟨rfl, ?_⟩
    unfold nlNew nlNm nlSy
    rw [hP, Int.toNat_natCast]
  have EN : ¬ nlKind e = 15 → ¬ nlKind e = 3 → nlE ys n D e = 0 ∧ nlD ys D e = D := fun h1 h2 => by
    have ht : ¬ nlTold e = true := by unfold nlTold; simp [h1, h2]
    unfold nlE nlD
    rw [if_neg ht, if_neg ht]
    exact ⟨rfl, rfl⟩
  rw [hP] at N0 bp
  obtain ⟨E, hE⟩ : ∃ E, E = nlE ys n D e := ⟨_, rfl⟩
  obtain ⟨D', hD'⟩ : ∃ D', D' = nlD ys D e := ⟨_, rfl⟩
  rw [← hE, ← hD'] at EG EN ⊢
  rw [← hE] at EB
  generalize nlKind e = K at *
  generalize nlSec e = S at *
  generalize nlVal e = Vl at *
  generalize nlDesc e = De at *
  have B1 := Lib.hid EB
  have B2 := Lib.hid EG
  have B3 := Lib.hid EN
  have b2 : (P : Int) < 4294967296 := bp.2
  obtain ⟨Wk, hWk⟩ : ∃ W, W = decide (De / 128 % 2 = 1) := ⟨_, rfl⟩
  have hAnd : bits .and .u64 De 128 = De / 128 % 2 * 128 := and128 De (by omega)
  have hz : ((De / 128 % 2 * 128) != 0) = Wk := by
    rw [hWk]
    by_cases h : De / 128 % 2 = 1
    · rw [h]; rfl
    · have : De / 128 % 2 = 0 := by omega
      rw [this]; rfl
  rw [← hWk] at B2
  obtain ⟨Z, hZ⟩ : ∃ Z, Z = De / 128 % 2 * 128 := ⟨_, rfl⟩
  rw [← hZ] at hAnd hz
  clear hZ hWk
  obtain ⟨hS0, hS1⟩ := b5
  have hS2 : S ≤ 9223372036854775807 := by omega
  have hSw : wrap64 S = S := IntWalk.wrap64_in S (by omega)
  clear EB EG EN hE hD' hP he hl hb hok hy h bp hS1
  go_enter Tryz.func202, Tryz.ntmps202
  go_wp2_with fail
  refine NW.out.mono ?_
  rintro r w1 ⟨b, rfl, hp1, hbel⟩
  have G1 := Lib.hid (grown_below hbel none)
  obtain ⟨hh, hhh⟩ : ∃ hh, hh = w1.heap.size := ⟨_, rfl⟩
  rw [← hhh] at hp1
  have LB := hp1.lw
  have UB := hp1.up
  have P1 := Lib.hid hp1
  clear hp1 hbel NW hhh
  go_wp2_with fail
  refine (N0.out _ _ _ _ P1.out).mono ?_
  rintro r w2 ⟨rfl, hp2, hg⟩
  have G2 := Lib.hid (grown_new G1.out hg LB)
  have P2 := Lib.hid hp2
  clear hp2 hg N0 P1 G1
  go_wp2_with fail
  refine (N4.out _ _ _ _ P2.out).mono ?_
  rintro r w3 ⟨rfl, hp3, hg⟩
  have G3 := Lib.hid (grown_new G2.out hg LB)
  have P3 := Lib.hid hp3
  clear hp3 hg N4 P2 G2
  go_wp2_with fail
  refine (N5.out _ _ _ _ P3.out).mono ?_
  rintro r w4 ⟨rfl, hp4, hg⟩
  have G4 := Lib.hid (grown_new G3.out hg LB)
  have P4 := Lib.hid hp4
  clear hp4 hg N5 P3 G3
  obtain ⟨w5, hw5⟩ : ∃ W, W = w4.alloc (.cells #[.string ⟨#[]⟩, .int .i64 0, .int .u64 0, .bool false] 95) := ⟨_, rfl⟩
  have g5 : w4.grownBy w5 none := by rw [hw5]; exact grown1 w4 _
  have s5 : SyAt w5 w4.heap.size ⟨#[]⟩ Sy.zero := by rw [hw5]; exact SyAt.new w4 ⟨#[]⟩ Sy.zero
  have G5 := Lib.hid (grown_trans G4.out g5)
  have P5 := Lib.hid (P4.out.same g5)
  have S5 := Lib.hid s5
  have c1 := (H.out.grown G5.out).c.2.1
  have gl := (H.out.grown G5.out).lt
  obtain ⟨X, hX⟩ : ∃ X, X = w4.heap.size := ⟨_, rfl⟩
  have hXw : w.heap.size ≤ X := by rw [hX]; exact G4.out.size
  have hbX : hh ≤ X := by rw [hX]; exact P4.out.sz
  rw [← hX] at S5
  clear g5 s5 G4 P4
  go_upto_region 6 with fail
  rw [← hw5, ← hX]
  clear hw5 hX
  clear b4
  by_cases k15 : K = 15
  · have d15 : (K == 15) = true := by rw [k15]; rfl
    by_cases ks0 : S = 0
    · have ds0 : (S == 0) = true := by rw [ks0]; rfl
      have EE := Lib.hid (B1.out k15 (.inl ks0))
      clear k15 ks0
      go_wp2
      go_ret
      exact ⟨by rw [EE.out]; rfl, below_grown G5.out hBw (by simp), fun h => by rw [EE.out] at h; cases h⟩
    · have ds0 : (S == 0) = false := by rw [beq_eq_false_iff_ne]; exact ks0
      by_cases kn : n < S
      · have dn : decide (n < S) = true := decide_eq_true kn
        have EE := Lib.hid (B1.out k15 (.inr kn))
        clear k15 ks0
        go_wp2
        go_ret
        exact ⟨by rw [EE.out]; rfl, below_grown G5.out hBw (by simp), fun h => by rw [EE.out] at h; cases h⟩
      · have dn : decide (n < S) = false := decide_eq_false kn
        have E2 := B2.out (.inr ⟨k15, fun h => h.elim ks0 kn⟩)
        rw [if_pos k15] at E2
        have EE := Lib.hid E2
        have f5 := S5.out.fz 1
        have x5 := S5.out.c.2.1
        have l5 := S5.out.lt
        have gs := grown_setCell (i := 1) (grown_refl w5 (some X)) (.int .i64 S)
        have S6 := Lib.hid (S5.out.s1 S)
        have P6 := Lib.hid (P5.out.kept gs (.inr hbX))
        have G6 := Lib.hid (grown_new G5.out gs hXw)
        simp only [Sy.zero] at x5
        clear k15 ks0 kn E2 gs
        go_wp2_with fail
        refine (N6.out _ _ _ _ P6.out).mono ?_
        rintro r w7 ⟨rfl, hp7, hg⟩
        have G7 := Lib.hid (grown_new G6.out hg LB)
        have P7 := Lib.hid hp7
        have S7 := S6.out.kept hg (fun e => by injection e with e; omega)
        have f7 := S7.fz 3
        have x7 := S7.c.2.2.2
        have l7 := S7.lt
        have gs7 := grown_setCell (i := 3) (grown_refl w7 (some X)) (.bool Wk)
        have S8 := Lib.hid (S7.s3 Wk)
        have P8 := Lib.hid (P7.out.kept gs7 (.inr hbX))
        have G8 := Lib.hid (grown_new G7.out gs7 hXw)
        have HSZ := Lib.hid S7
        clear hp7 hg gs7 S7
        try simp only [Sy.zero] at x7
        go_wp2_with fail
        clear x7 f7 l7
        refine (N8.out _ _ _ _ P8.out).mono ?_
        rintro r w9 ⟨rfl, hp9, hg⟩
        have G9 := Lib.hid (grown_new G8.out hg LB)
        have S9 := S8.out.kept hg (fun e => by injection e with e; omega)
        have f9 := S9.fz 2
        have x9 := S9.c.2.2.1
        have l9 := S9.lt
        have gs9 := grown_setCell (i := 2) (grown_refl w9 (some X)) (.int .u64 Vl)
        have SA := S9.s2 Vl
        have GA := Lib.hid (grown_new G9.out gs9 hXw)
        have AA := AD.out _ GA.out ⟨S, Vl, Wk⟩ P b2
        unfold syV syArr at AA
        obtain ⟨y0, y1, y2, y3⟩ := SA.c
        have yl := SA.lt
        have AH := Lib.hid AA
        try simp only [] at y1
        try simp only [] at y2
        try simp only [] at y3
        try simp only [Sy.zero] at x9
        clear hp9 hg gs9 S9 SA AA
        go_wp2_with fail
        refine AH.out.mono ?_
        rintro r w' ⟨rfl, hb, ht⟩
        have BF := Lib.hid (Below.trans (below_grown GA.out hBw (by simp)) hb)
        have TF := Lib.hid ht
        clear hb ht
        go_wp2
        go_ret
        rw [EE.out.1, EE.out.2]
        exact ⟨rfl, BF.out, TF.out⟩
  · have d15 : (K == 15) = false := by rw [beq_eq_false_iff_ne]; exact k15
    by_cases k3 : K = 3
    · have d3 : (K == 3) = true := by rw [k3]; rfl
      have E2 := B2.out (.inl k3)
      rw [if_neg k15] at E2
      have EE := Lib.hid E2
      clear k15 k3 E2
      go_wp2_with fail
      refine (N6.out _ _ _ _ P5.out).mono ?_
      rintro r w7 ⟨rfl, hp7, hg⟩
      have G7 := Lib.hid (grown_new G5.out hg LB)
      have P7 := Lib.hid hp7
      have S7 := S5.out.kept hg (fun e => by injection e with e; omega)
      have f7 := S7.fz 3
      have x7 := S7.c.2.2.2
      have l7 := S7.lt
      have gs7 := grown_setCell (i := 3) (grown_refl w7 (some X)) (.bool Wk)
      have S8 := Lib.hid (S7.s3 Wk)
      have P8 := Lib.hid (P7.out.kept gs7 (.inr hbX))
      have G8 := Lib.hid (grown_new G7.out gs7 hXw)
      have HSZ := Lib.hid S7
      clear hp7 hg gs7 S7
      try simp only [Sy.zero] at x7
      go_wp2_with fail
      clear x7 f7 l7
      refine (N8.out _ _ _ _ P8.out).mono ?_
      rintro r w9 ⟨rfl, hp9, hg⟩
      have G9 := Lib.hid (grown_new G8.out hg LB)
      have S9 := S8.out.kept hg (fun e => by injection e with e; omega)
      have f9 := S9.fz 2
      have x9 := S9.c.2.2.1
      have l9 := S9.lt
      have gs9 := grown_setCell (i := 2) (grown_refl w9 (some X)) (.int .u64 Vl)
      have SA := S9.s2 Vl
      have GA := Lib.hid (grown_new G9.out gs9 hXw)
      have AA := AD.out _ GA.out ⟨0, Vl, Wk⟩ P b2
      unfold syV syArr at AA
      obtain ⟨y0, y1, y2, y3⟩ := SA.c
      have yl := SA.lt
      have AH := Lib.hid AA
      try simp only [Sy.zero] at y1
      try simp only [] at y2
      try simp only [] at y3
      try simp only [Sy.zero] at x9
      clear hp9 hg gs9 S9 SA AA
      go_wp2_with fail
      refine AH.out.mono ?_
      rintro r w' ⟨rfl, hb, ht⟩
      have BF := Lib.hid (Below.trans (below_grown GA.out hBw (by simp)) hb)
      have TF := Lib.hid ht
      clear hb ht
      go_wp2
      go_ret
      rw [EE.out.1, EE.out.2]
      exact ⟨rfl, BF.out, TF.out⟩
    · have d3 : (K == 3) = false := by rw [beq_eq_false_iff_ne]; exact k3
      have EE := Lib.hid (B3.out k15 k3)
      clear k15 k3
      go_wp2
      go_ret
      rw [EE.out.1, EE.out.2]
      exact ⟨rfl, below_grown G5.out hBw (by simp), fun _ => ⟨_, _, H.out.grown G5.out⟩⟩
end Go.Proofs.YtkmbkpoclhbmgaaGreat


namespace Go.Proofs.YtkmbkpoclhbmgaaGreat
open Go.RowKit
variable {w w' : World} {ys t : List Int} {n : Int}

structure AlO (w w' : World) (R : Int × Syms) (r : Ending) : Prop where
  ex : ∃ q c, r = .returned (.tuple #[.slice q R.2.length c, .int .i64 R.1]) ∧ SysAt w' q R.2 ∧ R.2.length ≤ c ∧ c ≤ 9223372036854775807
  below : Below w.heap.size w w'
theorem AlO.none (hg : w.grownBy w' Option.none) {E : Int} {R : Int × Syms} (hR : R = (E, [])) : AlO w w' R (.returned (.tuple #[.slice Option.none 0 0, .int .i64 E])) := by
  subst hR
  exact ⟨⟨_, _, rfl, SysAt.nil, Nat.le_refl _, by omega⟩, below_grown hg (Nat.le_refl _) (by simp)⟩
end Go.Proofs.YtkmbkpoclhbmgaaGreat

