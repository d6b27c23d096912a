/- Parts of the proof, put together: TrH, TrJ, ApR, TrI, Name01, TrK, TrLs, Srt, TrArg, TrArgs, TrL, TrMay, Put. No condition beyond those that each part names. -/
import Derived.Shelf.Small.Bits
import Derived.Shelf.Small.Strs
import Derived.Shelf.Strconv.Itoa0
import Derived.Shelf.Strings.Search1
import Derived.Shelf.Bytes.SlIndexAt
import Derived.Shelf.Bytes.SlSearch0
import Derived.Ground.SlbCloneProg
import Derived.Shelf.Bytes.SlClone
import Derived.Shelf.Bytes.IndexByte
import Derived.Test.YtbnnlbdjjpmgeaaProg
import Derived.Test.YtbnnlbdjjpmgeaaRows
import Derived.WalkKit
import Derived.WalkSpells
import Derived.WalkLawsBesides
import Derived.BigQuiet
import Derived.Deep.QuietTactic
import Derived.Lib.Hide
import Derived.IntWalk
import Derived.OneCell
import Derived.Laws.Rows
import Derived.OpenShut
import Derived.ProofKit
import Derived.Lib.EndianBits
import Derived.RegionTactic
import Derived.ChangeAlike
import Derived.WalkMore
import Derived.Laws.BytesArg
import Derived.Shelf.Bytes.SlEqualAll
import Derived.Lib.SlFresh
import Derived.Maps.AppendAt
import Derived.Deep.AppendSrc
import Derived.Deep.Upon
import Derived.Lib.AppendZeros
import Derived.Laws.IdiomStrings
import Derived.Lib.AppendZerosOnto
import Derived.Laws.StructEq
import Derived.Below
import Derived.Shelf.Abstract
import Derived.Laws.ResultCell
import Derived.Deep.Slices
import Derived.ChangeSame
import Derived.Laws.OwnMore
import Derived.Laws.Slices
import Derived.Lib.ConvBytes
import Derived.StringKeys
import Derived.Maps.Own
import Derived.Maps.OwnOps
import Derived.Maps.OwnSet
import Derived.WideShapes
import Derived.Deep.Cut
import Derived.Deep.CutRange
import Derived.PlainAid
import Derived.Lib.SlBytesRow
import Derived.Deep.Onto
import Derived.Laws.EntriesVeiled
import Derived.Shelf.SlSortCmp.WholeK
import Derived.Shelf.SlGeneric
import Derived.Ground.SlsfProg
import Derived.Deep.LoopGhost
import Derived.StillTailTactics
import Derived.Deep.RegionWith
import Derived.Deep.RegionHeld3
import Derived.Lib.SmallJoins
import Derived.Laws.Bits128
import Derived.Test.YtbnnlbdjjpmgeaaPT1
import Derived.Test.YtbnnlbdjjpmgeaaPT2
import Derived.Test.YtbnnlbdjjpmgeaaPT3
import Derived.Test.YtbnnlbdjjpmgeaaPT4
namespace Go.Proofs.Ytbnnlbdjjpmgeaa
open Go.RowKit
variable {w w' W V : World} {xs : List Int}

def InvFind (cn co : Nat) (t : List Int) (W : World) (G : Nat → Prop) (own : Option Ex) : Prop :=
  OneAt W cn (.string (strOfNums t)) 9 ∧ (∃ q n c, NodeAt W co own.isSome (nmOf (strOfNums t) own) (exOf own) (.slice q n c)) ∧ G cn ∧ G co
theorem invFind_kept {cn co : Nat} {t : List Int} {G H : Nat → Prop} {own : Option Ex} (h : InvFind cn co t W G own) (hg : Chg H W V) (hd : ∀ k, G k → ¬ H k) : InvFind cn co t V G own := by
  obtain ⟨h1, ⟨q, n, c, h2⟩, h3, h4⟩ := h
  exact ⟨h1.chg hg (hd _ h3), ⟨q, n, c, (hg.block co (lt_of_block h2) (hd _ h4)).trans h2⟩, h3, h4⟩
theorem NodeAt.putAny {g0 : Nat} {b0 : Bool} {nm0 : ByteArray} {x0 : Ex} {v0 : Value} (h : NodeAt W g0 b0 nm0 x0 v0) (b : Bool) (nm' : ByteArray) (y : Ex) (v' : Value) :
    NodeAt (((((((((W.setCell ⟨g0, 0, none⟩ (.bool b)).setCell ⟨g0, 1, none⟩ (.string nm')).setCell ⟨g0, 2, none⟩ (.int .i64 y.kind)).setCell ⟨g0, 3, none⟩ (.bool y.weak)).setCell ⟨g0, 4, none⟩ (.int .u64 y.value)).setCell ⟨g0, 5, none⟩ (.int .u64 y.resolver)).setCell ⟨g0, 6, none⟩ (.int .u64 y.ordinal)).setCell ⟨g0, 7, none⟩ (.string (strOfNums y.other))).setCell ⟨g0, 8, none⟩ v') g0 b nm' y v' :=
  ((((((((h.s0 b).s1 nm').s2 y.kind).s3 y.weak).s4 y.value).s5 y.resolver).s6 y.ordinal).s7 y.other).kids v'
set_option maxRecDepth 20000 in
set_option maxHeartbeats 3200000 in
theorem find1_any {cn co : Nat} {t : List Int} (ht : Byt t) {G : Nat → Prop} {own : Option Ex} {name : List Int} {nd : Nd} {v : Value} {base : Nat} (h : InvFind cn co t W G own) (hp : ∃ rest, t = name ++ rest) (hk : NdOk nd) (ho : W.ownsRow base 86 2 v nd.kids.length (nd.kids.flatMap kidCs)) (hv : ∀ g, v.ownBlock = some g → ¬ G g) (hG : ∀ k, G k → k < W.heap.size) :
    Calls Try.prog 29 #[.string (strOfNums name), nodeV nd.ex.isSome (nmOf (strOfNums name) nd.ex) (exOf nd.ex) v, .pointer (some ⟨cn, 0, none⟩), .pointer (some ⟨co, 0, none⟩)] W fun e W' => MOut (Option Ex) (mtFind t) (InvFind cn co t) own name nd v G W W' e := by
  obtain ⟨q, c, rfl⟩ := own_slice ho
  obtain ⟨o1, ⟨qo, no, co', n1⟩, a3, a4⟩ := h
  obtain ⟨rest, hrest⟩ := hp
  have hkl : nd.kids.length ≤ 255 := hk.few
  have hrm := own_room8 ho
  have hc63 : c ≤ 9223372036854775807 := by
    rcases ho.2 with ⟨hn, _⟩ | ⟨g, cp, cur, hn, _, _, _, hm, _⟩
    · injection hn with _ _ e; omega
    · injection hn with _ _ e; unfold maxLen at hm; omega
  have hdrop : t.drop name.length = rest := by rw [hrest]; simp
  have hl1 : name.length + rest.length = t.length := by rw [hrest, List.length_append]
  have CUT := Lib.hid (show (strOfNums t).extract name.length t.length = strOfNums rest by rw [strOf_cut, List.take_length, hdrop])
  have hcut := CUT.out
  have st : (strOfNums t).size = t.length := strOfNums_size _
  have sn : (strOfNums name).size = name.length := strOfNums_size _
  have hnl : name.length ≤ t.length := by omega
  have g1 := grown1 W (.cells #[.bool nd.ex.isSome, .string (nmOf (strOfNums name) nd.ex), .int .i64 (exOf nd.ex).kind, .bool (exOf nd.ex).weak, .int .u64 (exOf nd.ex).value, .int .u64 (exOf nd.ex).resolver, .int .u64 (exOf nd.ex).ordinal, .string (strOfNums (exOf nd.ex).other), .slice q nd.kids.length c] 62)
  have N1 := Lib.hid (show NodeAt (W.alloc (.cells #[.bool nd.ex.isSome, .string (nmOf (strOfNums name) nd.ex), .int .i64 (exOf nd.ex).kind, .bool (exOf nd.ex).weak, .int .u64 (exOf nd.ex).value, .int .u64 (exOf nd.ex).resolver, .int .u64 (exOf nd.ex).ordinal, .string (strOfNums (exOf nd.ex).other), .slice q nd.kids.length c] 62)) W.heap.size nd.ex.isSome (nmOf (strOfNums name) nd.ex) (exOf nd.ex) (.slice q nd.kids.length c) from heap_alloc_new W _)
  obtain ⟨W1, hW1⟩ : ∃ W1, W.alloc (.cells #[.bool nd.ex.isSome, .string (nmOf (strOfNums name) nd.ex), .int .i64 (exOf nd.ex).kind, .bool (exOf nd.ex).weak, .int .u64 (exOf nd.ex).value, .int .u64 (exOf nd.ex).resolver, .int .u64 (exOf nd.ex).ordinal, .string (strOfNums (exOf nd.ex).other), .slice q nd.kids.length c] 62) = W1 := ⟨_, rfl⟩
  obtain ⟨gn, hgn⟩ : ∃ gn, W.heap.size = gn := ⟨_, rfl⟩
  rw [hW1] at g1 N1
  rw [hgn] at N1
  have O1 := Lib.hid (o1.grown g1)
  have M1 := Lib.hid (n1.kept g1 (by simp))
  have KS1 := Lib.hid (own_grown ho g1)
  have C1 := Lib.hid (show Chg G W W1 from Chg.of_grown g1 (fun b e => by cases e))
  have AG := Lib.hid (And.intro a3 a4)
  have HV := Lib.hid hv
  have HK := Lib.hid (And.intro hrm (And.intro hc63 hk))
  have HG := Lib.hid hG
  have HW1 := Lib.hid hW1
  have HGN := Lib.hid hgn
  have HT := Lib.hid (And.intro ht (And.intro hrest hdrop))
  have c0 := (o1.grown g1).c
  have cl := (o1.grown g1).lt
  clear o1 n1 a3 a4 g1 ho hv hk hG hW1 hgn hrest hdrop ht CUT
  unfold nodeV
  go_enter Try.func29, Try.ntmps29
  go_upto_region 1 with fail
  rw [HW1.out, HGN.out]
  clear HW1
  obtain ⟨d0, d1, d2, d3, d4, d5, d6, d7, d8⟩ := N1.out.c
  have dl := N1.out.lt
  by_cases hr : rest = []
  · have he : (strOfNums rest).toList.isEmpty = true := by rw [hr, Lib.strOfNums_toList]; rfl
    have eM : mtFind t own name nd = (nd.ex, [], 0) := if_pos (by rw [HT.out.2.2, hr])
    have eN : nmOf (strOfNums name) nd.ex = nmOf (strOfNums t) nd.ex := by rw [HT.out.2.1, hr, List.append_nil]
    have GP := grown_put9 (grown_refl W1 (some co)) (.bool nd.ex.isSome) (.string (nmOf (strOfNums name) nd.ex)) (.int .i64 (exOf nd.ex).kind) (.bool (exOf nd.ex).weak) (.int .u64 (exOf nd.ex).value) (.int .u64 (exOf nd.ex).resolver) (.int .u64 (exOf nd.ex).ordinal) (.string (strOfNums (exOf nd.ex).other)) (.slice q nd.kids.length c)
    have PUT := M1.out.putAny nd.ex.isSome (nmOf (strOfNums name) nd.ex) (exOf nd.ex) (.slice q nd.kids.length c)
    have hne : (some co : Option Nat) ≠ some cn := by
      intro e
      injection e with e
      have h1 := O1.out
      have h2 := M1.out
      unfold OneAt at h1
      unfold NodeAt at h2
      rw [← e, h2] at h1
      injection h1 with h1
      injection h1 with _ h1 _
      exact absurd h1 (by decide)
    obtain ⟨Wp, hWp⟩ : ∃ Wp, ((((((((W1.setCell ⟨co, 0, none⟩ (.bool nd.ex.isSome)).setCell ⟨co, 1, none⟩ (.string (nmOf (strOfNums name) nd.ex))).setCell ⟨co, 2, none⟩ (.int .i64 (exOf nd.ex).kind)).setCell ⟨co, 3, none⟩ (.bool (exOf nd.ex).weak)).setCell ⟨co, 4, none⟩ (.int .u64 (exOf nd.ex).value)).setCell ⟨co, 5, none⟩ (.int .u64 (exOf nd.ex).resolver)).setCell ⟨co, 6, none⟩ (.int .u64 (exOf nd.ex).ordinal)).setCell ⟨co, 7, none⟩ (.string (strOfNums (exOf nd.ex).other))).setCell ⟨co, 8, none⟩ (.slice q nd.kids.length c) = Wp := ⟨_, rfl⟩
    rw [hWp] at GP PUT
    rw [eN] at PUT
    have i1 : InvFind cn co t Wp G nd.ex := ⟨O1.out.kept GP hne, ⟨_, _, _, PUT⟩, AG.out⟩
    have ch : Chg G W Wp := C1.out.trans (Chg.of_grown GP (fun b e => by injection e with e; exact .inl (e ▸ AG.out.2)))
    have FN := Lib.hid (show MOut (Option Ex) (mtFind t) (InvFind cn co t) own name nd (.slice q nd.kids.length c) G W Wp (.returned (.tuple #[.slice none 0 0, .int .i64 0])) from
      { ex := ⟨none, 0, G, by rw [eM]; rfl, by rw [eM]; exact i1, fun k hk => .inl hk, by rw [eM]; exact KidsAt.nil, fun g o e => (by cases e), by rw [eM]; exact Nat.le_refl _, by decide⟩, chg := ch })
    have HWp := Lib.hid hWp
    clear i1 ch hWp
    obtain ⟨e0, e1, e2, e3, e4, e5, e6, e7, e8⟩ := M1.out.c
    have ef := M1.out.fz
    have el := M1.out.lt
    clear hr eM eN GP PUT hne
    go_upto_region 4 with fail
    rw [HWp.out]
    clear HWp e0 e1 e2 e3 e4 e5 e6 e7 e8 ef el
    go_wp2
    go_ret2
    exact FN.out
  · have he : (strOfNums rest).toList.isEmpty = false := by
      rw [Lib.strOfNums_toList]
      cases rest with
      | nil => exact absurd rfl hr
      | cons => rfl
    have eM : mtFind t own name nd = (own, leadN nd.kids rest, 0) := by
      have e : mtFind t own name nd = (own, leadN nd.kids (t.drop name.length), 0) := if_neg (by rw [HT.out.2.2]; exact hr)
      rw [e, HT.out.2.2]
    have hbr : Byt rest := by
      have := HT.out.1
      rw [HT.out.2.1] at this
      exact fun x hx => this x (List.mem_append_right _ hx)
    have LE := Lib.hid (leading_any (w := W1) nd.kids nd.kids.length rfl q c hrm hc63 (KidsAt.of KS1.out) rest hbr (fun k hk => (HK.out.2.2.kids.each k hk).byt))
    have EM := Lib.hid eM
    clear hr hbr eM
    go_wp2_with fail
    refine LE.out.mono ?_
    rintro e W2 ⟨⟨q', c', rfl, hks, hq, hlc, hc2⟩, hg⟩
    have FN := Lib.hid (show MOut (Option Ex) (mtFind t) (InvFind cn co t) own name nd (.slice q nd.kids.length c) G W W2 (.returned (.tuple #[.slice q' (leadN nd.kids rest).length c', .int .i64 0])) from
      ⟨⟨q', c', G, by rw [EM.out], by rw [EM.out]; exact ⟨O1.out.grown hg, ⟨_, _, _, M1.out.kept hg (by simp)⟩, AG.out⟩, fun k hk => .inl hk, by rw [EM.out]; exact hks.grown hg, fun g o e => by
        obtain ⟨o', e'⟩ := hq g o e
        rw [e']; rfl, by rw [EM.out]; exact hlc, hc2⟩, C1.out.trans (Chg.of_grown hg (fun b e => by cases e))⟩)
    clear hks hq hlc hc2 hg
    go_wp2
    go_ret2
    exact FN.out
theorem findMeet (cn co : Nat) {t : List Int} (ht : Byt t) : MeetOk (Option Ex) 29 #[.pointer (some ⟨cn, 0, none⟩), .pointer (some ⟨co, 0, none⟩)] (mtFind t) (fun name => ∃ rest, t = name ++ rest) (fun _ => True) (InvFind cn co t) where
  enters := enters_of Try.func29 (by kernel_rfl) rfl
  kept := fun W V G s H h hg hd => invFind_kept h hg hd
  sub := fun s name nd x hx => by
    unfold mtFind at hx
    split at hx
    · cases hx
    · simp only [leadN] at hx
      split at hx
      · cases hx
      · rename_i k hk
        rw [List.mem_singleton.1 hx]
        exact List.mem_of_find?_eq_some hk
  pre := fun s name nd ⟨rest, hr⟩ x hx => by
    unfold mtFind at hx
    split at hx
    · cases hx
    · simp only [leadN] at hx
      split at hx
      · cases hx
      · rename_i k hk
        rw [List.mem_singleton.1 hx]
        obtain ⟨r2, h2⟩ := pfx_iff.1 (List.find?_some (p := fun k : Kid => pfx k.1 (t.drop name.length)) hk)
        have hd : t.drop name.length = rest := by rw [hr]; simp
        rw [hd] at h2
        exact ⟨r2, by rw [hr, h2, List.append_assoc]⟩
  next := fun _ _ _ _ _ => trivial
  stop := fun s name nd he => by
    unfold mtFind at he
    split at he <;> exact absurd rfl he
  call := fun W G s name nd v base h _ hp _ hk ho hv hG => find1_any ht h hp hk ho hv hG
def findW (xs t : List Int) : Int × Option Ex := if 255 < t.length then (10, none) else walkN xs (mtFind t) none
structure FiOut (w w' : World) (xs t : List Int) (e : Ending) : Prop where
  ret : e = .returned (.tuple #[exV (nmOf (strOfNums t) (findW xs t).2) (exOf (findW xs t).2), .bool (findW xs t).2.isSome, .int .i64 (findW xs t).1])
  grown : w.grownBy w' none
theorem results_ex3 {fn : Func} {p u v : Tmp} {g : Nat} {nm : ByteArray} {x : Ex} (hr : fn.results = #[.cell p 38, .tmp u, .tmp v]) {tmps : Array Value} {y z : Value} (hp : tmps.getD p undef = .pointer (some ⟨g, 0, none⟩)) (hu : tmps.getD u undef = y) (hv : tmps.getD v undef = z) (h : ExAt w g nm x) :
    (results fn tmps).run Try.prog w = .ok (.tuple #[exV nm x, y, z]) w := by
  have e : (asAddr (.pointer (some ⟨g, 0, none⟩)) : Sem Addr).run Try.prog w = .ok ⟨g, 0, none⟩ w := rfl
  simp only [Array.getD_eq_getD_getElem?] at hp hu hv
  simp only [results, hr]
  simp [Sem.run_bind, Result.andThen, hp, hu, hv, e, load_ex h]
theorem ExAt.drewF {g : Nat} {nm : ByteArray} {x : Ex} (h : ExAt W g nm x) : ExAt W.drew g nm x := h
set_option maxRecDepth 20000 in
set_option maxHeartbeats 3200000 in
theorem Find_any {q : Option Addr} {c n : Nat} (h : IsBytes w q c xs) (hn : xs.length = n) (hb : Byt xs) (hc : n ≤ c) (hcm : c ≤ 9223372036854775807) (hbig : n ≤ 140737488355328) (t : List Int) (ht : Byt t) (htl : t.length ≤ 9223372036854775807) :
    Calls Try.prog 11 #[.slice q n c, .string (strOfNums t)] w fun e w' => FiOut w w' xs t e := by
  have g1 := grown1 w (.cells #[.string (strOfNums t)] 9)
  have o1 := OneAt.new w (.string (strOfNums t)) 9
  obtain ⟨w1, hw1⟩ : ∃ w1, w.alloc (.cells #[.string (strOfNums t)] 9) = w1 := ⟨_, rfl⟩
  obtain ⟨cn, hcn⟩ : ∃ cn, w.heap.size = cn := ⟨_, rfl⟩
  rw [hw1] at g1 o1
  rw [hcn] at o1
  have g2 := grown1 w1 (.cells #[.string ⟨#[]⟩, .int .i64 0, .bool false, .int .u64 0, .int .u64 0, .int .u64 0, .string ⟨#[]⟩] 38)
  have r2 : ExAt (w1.alloc (.cells #[.string ⟨#[]⟩, .int .i64 0, .bool false, .int .u64 0, .int .u64 0, .int .u64 0, .string ⟨#[]⟩] 38)) w1.heap.size ⟨#[]⟩ Ex.zero := heap_alloc_new w1 _
  obtain ⟨w2, hw2⟩ : ∃ w2, w1.alloc (.cells #[.string ⟨#[]⟩, .int .i64 0, .bool false, .int .u64 0, .int .u64 0, .int .u64 0, .string ⟨#[]⟩] 38) = w2 := ⟨_, rfl⟩
  obtain ⟨g0, hg0⟩ : ∃ g0, w1.heap.size = g0 := ⟨_, rfl⟩
  have l1 := o1.lt
  have hcn1 : cn + 1 = g0 := by rw [← hg0, ← hw1, World.size_alloc, hcn]
  rw [hw2] at g2 r2
  rw [hg0] at r2 l1
  have O2 := Lib.hid (o1.grown g2)
  have R2 := Lib.hid r2
  have G2 := Lib.hid (grown_trans g1 g2)
  have HW := Lib.hid (And.intro hw1 (And.intro hcn (And.intro hw2 hcn1)))
  have hst : (strOfNums t).size = t.length := strOfNums_size _
  have HA := Lib.hid (And.intro h (And.intro hn (And.intro hb ht)))
  have BL := Lib.hid (And.intro (show w.heap.size ≤ g0 by have := g1.size; omega) (And.intro (show cn < g0 by omega) (show g0 < w2.heap.size from r2.lt)))
  have c2 := (o1.grown g2).c
  have cl2 := (o1.grown g2).lt
  clear g1 o1 g2 r2 l1 h hn hb ht hw1 hcn hw2 hg0 hcn1
  by_cases hl : 255 < t.length
  · have FW := Lib.hid (show findW xs t = (10, none) from if_pos hl)
    have dl : decide ((255 : Int) < (t.length : Int)) = true := by simp; omega
    obtain ⟨d0, d1, d2, d3, d4, d5, d6⟩ := R2.out.c
    have df := R2.out.fz
    have dll := R2.out.lt
    clear hl
    go_enter Try.func11, Try.ntmps11
    go_upto_region 1 with fail
    rw [HW.out.1, HW.out.2.1, HW.out.2.2.1, HW.out.2.2.2]
    go_wp2
    refine bodyPost_ret (results_ex3 rfl rfl rfl rfl (R2.out.put ⟨#[]⟩ Ex.zero)) rfl ?_
    exact ⟨by rw [FW.out]; rfl, grown_new G2.out (grown_put7 (grown_refl _ (some g0)) _ _ _ _ _ _ _) BL.out.1⟩
  · have FW := Lib.hid (show findW xs t = walkN xs (mtFind t) none from if_neg hl)
    have dl : decide ((255 : Int) < (t.length : Int)) = false := by simp; omega
    have g3 := grown1 w2 (.cells #[.bool false, .string ⟨#[]⟩, .int .i64 0, .bool false, .int .u64 0, .int .u64 0, .int .u64 0, .string ⟨#[]⟩, .slice none 0 0] 62)
    have n3 : NodeAt (w2.alloc (.cells #[.bool false, .string ⟨#[]⟩, .int .i64 0, .bool false, .int .u64 0, .int .u64 0, .int .u64 0, .string ⟨#[]⟩, .slice none 0 0] 62)) w2.heap.size false ⟨#[]⟩ Ex.zero (.slice none 0 0) := heap_alloc_new w2 _
    obtain ⟨w3, hw3⟩ : ∃ w3, w2.alloc (.cells #[.bool false, .string ⟨#[]⟩, .int .i64 0, .bool false, .int .u64 0, .int .u64 0, .int .u64 0, .string ⟨#[]⟩, .slice none 0 0] 62) = w3 := ⟨_, rfl⟩
    obtain ⟨co, hco⟩ : ∃ co, w2.heap.size = co := ⟨_, rfl⟩
    have hco1 : g0 + 1 = co := by
      have e1 := HW.out.1
      have e2 := HW.out.2.2.1
      have e3 := HW.out.2.2.2
      have e4 := HW.out.2.1
      rw [← hco, ← e2, World.size_alloc, ← e1, World.size_alloc, e4, e3]
    rw [hw3] at g3 n3
    rw [hco] at n3
    have i3 : InvFind cn co t w3 (fun k => k = cn ∨ k = co) none := ⟨O2.out.grown g3, ⟨none, 0, 0, n3⟩, .inl rfl, .inr rfl⟩
    have WK : Calls Try.prog 26 #[.slice q n c, .func (.func 29) #[] #[.pointer (some ⟨cn, 0, none⟩), .pointer (some ⟨co, 0, none⟩)]] w3 fun e W' => WOut (Option Ex) (fun _ => True) (InvFind cn co t) (fun k => k = cn ∨ k = co) w3 W' (walkN xs (mtFind t) none) e := by
      obtain ⟨h, hn, hb, ht⟩ := HA.out
      by_cases hx : xs = []
      · subst hx
        simp only [List.length_nil] at hn
        subst hn
        refine (walk_no q c _ _).mono ?_
        rintro e W' ⟨rfl, hg⟩
        exact ⟨rfl, ⟨_, invFind_kept i3 (Chg.of_grown hg (fun b e => by cases e) : Chg (fun _ => False) _ _) (fun _ _ e => e), fun k hk => .inl hk⟩, Chg.of_grown hg (fun b e => by cases e), fun _ => trivial⟩
      · subst hn
        obtain ⟨b, o, rfl, hcell⟩ := h.2 (by cases xs with | nil => exact absurd rfl hx | cons => simp)
        have hbl := World.block_lt_of_cell? w _ (hcell 0 (by cases xs with | nil => exact absurd rfl hx | cons => simp))
        simp only at hbl
        have e4 := HW.out.2.1
        have b3 := BL.out
        refine walk_any (findMeet cn co ht) ⟨t, rfl⟩ trivial i3 ?_ (fun i hi => grown_cell (grown_trans G2.out g3) (hcell i hi)) hx ?_ hb hc hcm hbig
        · have := n3.lt
          rintro k (rfl | rfl)
          · omega
          · exact this
        · rintro (e | e) <;> omega
    have WH := Lib.hid WK
    have G3 := Lib.hid (grown_trans G2.out g3)
    have R3 := Lib.hid (R2.out.kept g3 (by simp))
    have HW3 := Lib.hid (And.intro hw3 hco1)
    have NE := Lib.hid (And.intro (show cn ≠ g0 by have := BL.out.2.1; omega) (show co ≠ g0 by omega))
    have HCO := Lib.hid hco
    clear g3 n3 i3 WK hl hw3 hco1 hco
    obtain ⟨⟨er, own⟩, hr⟩ : ∃ r, r = walkN xs (mtFind t) none := ⟨_, rfl⟩
    rw [← hr] at WH FW
    clear hr
    go_enter Try.func11, Try.ntmps11
    go_upto_region 1 with fail
    rw [HW.out.1, HW.out.2.1, HW.out.2.2.1, HW.out.2.2.2]
    go_upto_region 4 with fail
    rw [HCO.out, HW3.out.1]
    clear c2 cl2
    go_wp2_with fail
    refine WH.out.mono ?_
    rintro e w4 ⟨rfl, ⟨G', ⟨o4, ⟨qo, no, cc, n4⟩, a3, a4⟩, hG'⟩, hch, _⟩
    have hg4 : w.grownBy w4 none :=
      ⟨hch.os.trans G3.out.os, hch.tape.trans G3.out.tape, hch.output.trans G3.out.output, Nat.le_trans G3.out.size hch.size, fun i hi _ => (hch.block i (Nat.lt_of_lt_of_le hi G3.out.size) (fun e => by
        have e4 := HW.out.2.1
        have e5 := HCO.out
        have e6 := G2.out.size
        rcases e with e | e <;> omega)).trans (G3.out.block i hi (by simp))⟩
    have r4 : ExAt w4 g0 ⟨#[]⟩ Ex.zero := (hch.block g0 R3.out.lt (fun e => e.elim (fun e => NE.out.1 e.symm) (fun e => NE.out.2 e.symm))).trans R3.out
    simp only [] at n4
    obtain ⟨e0, e1, e2, e3, e4, e5, e6, e7, e8⟩ := n4.c
    obtain ⟨d0, d1, d2, d3, d4, d5, d6⟩ := r4.c
    have df := r4.fz
    have dll := r4.lt
    have nl := n4.lt
    have nco : ¬ co = g0 := NE.out.2
    have nco' : ¬ g0 = co := fun e => NE.out.2 e.symm
    have P4 := Lib.hid (r4.put (nmOf (strOfNums t) own) (exOf own))
    have GF := Lib.hid (grown_drewN (grown_new hg4 (grown_put7 (grown_refl w4 (some g0)) (.string (nmOf (strOfNums t) own)) (.int .i64 (exOf own).kind) (.bool (exOf own).weak) (.int .u64 (exOf own).value) (.int .u64 (exOf own).resolver) (.int .u64 (exOf own).ordinal) (.string (strOfNums (exOf own).other))) BL.out.1) 1)
    clear o4 n4 a3 a4 hG' hch hg4 r4
    go_upto_region 5 with fail
    go_region
    go_wp2
    refine bodyPost_ret (results_ex3 rfl rfl rfl rfl P4.out.drewF) rfl ?_
    exact ⟨by rw [FW.out]; rfl, GF.out⟩
end Go.Proofs.Ytbnnlbdjjpmgeaa


namespace Go.Proofs.Ytbnnlbdjjpmgeaa
open Go.RowKit
variable {xs : List Int}

def Told (y : List Int × Ex) : Prop := Byt y.1 ∧ y.1.length ≤ 255
theorem visK_told {rec : List Int → Int → Nat × Out → Int × (Nat × Out)} (name : List Int) (hn : Byt name)
    (IH : ∀ nm pl m out m' out', Byt nm → rec nm pl (m, out) = (0, (m', out')) → (∀ y ∈ out, Told y) → ∀ y ∈ out', Told y) :
    ∀ (l : List Kid), (∀ k ∈ l, Byt k.1) → ∀ m out m' out', visK rec name l 0 (m, out) = (0, (m', out')) → (∀ y ∈ out, Told y) → ∀ y ∈ out', Told y := by
  intro l
  induction l with
  | nil =>
    intro _ m out m' out' h ho
    simp only [visK, Prod.mk.injEq, true_and] at h
    rw [← h.2]; exact ho
  | cons x l ih =>
    intro hk m out m' out' h ho
    obtain ⟨⟨m1, o1⟩, h1, h2⟩ := visK_cons h
    exact ih (fun k hk' => hk k (List.mem_cons_of_mem _ hk')) _ _ _ _ h2 (IH _ _ _ _ _ _ (hn.app (hk x (List.mem_cons_self ..))) h1 ho)
theorem vis_told (hb : Byt xs) : ∀ (k : Nat) (way name : List Int) (pl : Int) (m : Nat) (out : Out) (m' : Nat) (out' : Out), Byt name → vis xs mtAll k way name pl (m, out) = (0, (m', out')) → (∀ y ∈ out, Told y) → ∀ y ∈ out', Told y := by
  intro k
  induction k with
  | zero => intro way name pl m out m' out' _ h; simp [vis] at h
  | succ k ih =>
    intro way name pl m out m' out' hn h ho
    by_cases hl : 255 < name.length
    · have e : vis xs mtAll (k + 1) way name pl (m, out) = (10, (m + 1, out)) := by unfold vis; rw [if_pos hl]
      rw [e] at h; simp at h
    · rw [vis_go hl] at h
      split at h
      · simp at h
      split at h
      · simp at h
      cases hnd : ndAt xs pl with
      | none => rw [hnd] at h; simp at h
      | some nd =>
        rw [hnd] at h
        simp only [] at h
        have hok := ndAt_ok hb hnd
        have h1 : ∀ y ∈ outN out name nd, Told y := by
          intro y hy
          unfold outN at hy
          cases hx : nd.ex with
          | none => rw [hx] at hy; exact ho y hy
          | some x =>
            rw [hx] at hy
            rcases List.mem_append.1 hy with hy | hy
            · exact ho y hy
            · rw [List.mem_singleton.1 hy]; exact ⟨hn, by show name.length ≤ 255; omega⟩
        by_cases c4 : 4096 < (outN out name nd).length
        · have e : mtAll out name nd = (outN out name nd, [], 11) := if_pos c4
          rw [e] at h
          simp [visK] at h
        · have e : mtAll out name nd = (outN out name nd, nd.kids, 0) := if_neg c4
          rw [e] at h
          exact visK_told (rec := vis xs mtAll k (way ++ [pl])) name hn (fun nm p m o m' o' hb' h ho => ih _ nm p m o m' o' hb' h ho) nd.kids (fun k hk => (hok.kids.each k hk).byt) _ _ _ _ h h1
structure Whole (xs : List Int) (out : Out) : Prop where
  once : out.Pairwise fun a b => a.1 ≠ b.1
  told : ∀ y ∈ out, Told y
  find : ∀ t : List Int, t.length ≤ 255 → findW xs t = (0, (Named t out).map (·.2))
theorem whole_of (hb : Byt xs) {out : Out} (h : walkN xs mtAll [] = (0, out)) : Whole xs out := by
  unfold walkN at h
  by_cases hx : xs = []
  · rw [if_pos hx] at h
    injection h with _ h
    subst h
    refine ⟨List.Pairwise.nil, fun y hy => (by cases hy), fun t ht => ?_⟩
    unfold findW walkN
    rw [if_neg (by omega), if_pos hx]
    rfl
  · rw [if_neg hx] at h
    obtain ⟨⟨er, m', o'⟩, hr⟩ : ∃ r, r = vis xs mtAll 257 [] [] 0 (0, []) := ⟨_, rfl⟩
    rw [← hr] at h
    simp only [Prod.mk.injEq] at h
    obtain ⟨rfl, rfl⟩ := h
    obtain ⟨new, A, F⟩ := vis_all hb 257 [] [] 0 0 [] m' o' hr.symm
    have e : o' = new := by rw [A.eq]; rfl
    refine ⟨e ▸ A.once, vis_told hb 257 [] [] 0 0 [] m' o' (fun x hx => by cases hx) hr.symm (fun y hy => by cases hy), fun t ht => ?_⟩
    obtain ⟨j', hj⟩ := F t 0 (by simpa using ht) (Nat.le_refl _)
    unfold findW walkN
    rw [if_neg (by omega), if_neg hx]
    simp only [List.nil_append] at hj
    rw [hj, e]
theorem Whole.of_mem {out : Out} (h : Whole xs out) {y : List Int × Ex} (hy : y ∈ out) : findW xs y.1 = (0, some y.2) := by
  rw [h.find y.1 (h.told y hy).2]
  have e : Named y.1 out = some y := by
    unfold Named
    obtain ⟨i, hi, rfl⟩ := List.getElem_of_mem hy
    rw [List.find?_eq_some_iff_getElem]
    refine ⟨by simp, i, hi, rfl, fun j hj => ?_⟩
    have := (List.pairwise_iff_getElem.1 h.once) j i (by omega) hi hj
    simpa using this
  rw [e]; rfl
end Go.Proofs.Ytbnnlbdjjpmgeaa


namespace Go.Proofs.Ytbnnlbdjjpmgeaa
open Go.RowKit
variable {w w' W V : World}
theorem run_append_no {T TS : TypeId} {k by' base : Nat} (st : StType Try.prog T TS k by') (v : Value) (n c : Nat) (ys : List Value) (h : w.ownsRow base T k v n ys) :
    (Builtin.append_ #[TS, TS] TS #[v, .slice none 0 c]).run Try.prog w = .ok v w := by
  obtain ⟨i, z, hi, hz0, hz1, hz2, hzs⟩ := st.info
  rcases h.2 with ⟨rfl, _⟩ | ⟨g, cap, cur, rfl, _, hg, hn, hm, hc, _⟩
  · simp [Builtin.append_, run_underlying st.under, sizeOf, typeInfo, hi, Builtin.lenOf, Builtin.firstCells, Result.andThen]
  · simp [Builtin.append_, run_underlying st.under, sizeOf, typeInfo, hi, Builtin.lenOf, hn, Builtin.firstCells, storeCells, Result.andThen]
set_option maxRecDepth 20000 in
theorem wp_append_rows {T TS : TypeId} {k by' : Nat} (st : StType Try.prog T TS k by') {base : Nat} {ops : Array Oper} {rest : List Oper} {o : Oper} {a : Act} {Q : Exit → Act → World → Prop} (hgd : o.guard = none) (s x : Operand)
    (ho : o.op = .call { callee := .builtin .append, args := #[s, x], argTypes := #[TS, TS] }) (hty : o.type = TS)
    (v : Value) (n : Nat) (ys : List Value) (hs : a.eval s = v) (hown : w.ownsRow base T k v n ys) (q : Option Addr) (m c : Nat) (hx : a.eval x = .slice q m c) (cs : List Value) (hl : cs.length = m * k)
    (hq : ∀ j u, cs[j]? = some u → ∃ g o, q = some ⟨g, o, none⟩ ∧ w.cell? ⟨g, o + j, none⟩ = some u) (h1 : ∀ u ∈ cs, u.oneCell' = true)
    (h63 : (n + m) * by' ≤ 140737488355328) (hby : 0 < by') (hbase : base ≤ w.heap.size)
    (h : ∀ v' w', w'.ownsRow base T k v' (n + m) (ys ++ cs) → w.grownBy w' v.ownBlock → (v'.ownBlock = v.ownBlock ∨ v'.ownBlock = some w.heap.size) → wpList Try.prog ops Q rest (a.put o.dst v') w') : wpList Try.prog ops Q (o :: rest) a w := by
  obtain ⟨i, z, hi, hz0, hz1, hz2, hzs⟩ := st.info
  cases q with
  | none =>
    have hm : cs = [] := by
      cases cs with
      | nil => rfl
      | cons u cs => obtain ⟨g, o', e, _⟩ := hq 0 u rfl; cases e
    subst hm
    have hm0 : m = 0 := by
      have := st.pos
      simp only [List.length_nil] at hl
      rcases Nat.mul_eq_zero.1 hl.symm with e | e
      · exact e
      · omega
    subst hm0
    have hrun := run_append_no st v n c ys hown
    rw [← hty] at hrun
    refine Lib.wpList_append_run_sl w hgd s x _ ho v (.slice none 0 c) hs hx (by rw [hty] at hrun ⊢; exact hrun) ?_
    exact h v w (by simpa using hown) (grown_refl w _) (.inl rfl)
  | some ad =>
    refine wpList_append_own_at w hgd s x _ ho base T i z k by' st.under hi hz0 hz1 hz2 hzs st.pos v n ys hs hown ad m c cs hx hl ?_ h1 (by have := Nat.le_mul_of_pos_right (n + m) hby; unfold maxLen; omega) h63 hbase ?_
    · intro j u hu
      obtain ⟨g, o', e, hc⟩ := hq j u hu
      injection e with e
      subst e
      rw [add_flat]; exact hc
    · intro v' w' h2 h3 _ h4
      exact h v' w' h2 h3 h4
theorem step_append_sta {T TS : TypeId} {k by' : Nat} (st : StType Try.prog T TS k by') {base : Nat} {ops : Array Oper} {o : Oper} {a : Act} {K : Act → World → Prop} {Q : Exit → Act → World → Prop} {E : Prop} (hgd : o.guard = none) (s x : Operand)
    (ho : o.op = .call { callee := .builtin .append, args := #[s, x], argTypes := #[TS, TS] })
    (v : Value) (n m : Nat) (xs : List Value) (hs : a.eval s = v) (hown : w.ownsRow base T k v n xs) (cs : List Value) (hl : cs.length = m * k) (g : Nat) (hx : a.eval x = .slice (some ⟨g, 0, none⟩) m m)
    (hb : w.heap[g]? = some (.cells cs.toArray T (0, 0))) (h1 : ∀ u ∈ cs, u.oneCell' = true)
    (h63 : (n + m) * by' ≤ 140737488355328) (hby : 0 < by') (hbase : base ≤ w.heap.size)
    (h : ∀ v' w', w'.ownsRow base T k v' (n + m) (xs ++ cs) → w.grownBy w' v.ownBlock → (v'.ownBlock = v.ownBlock ∨ v'.ownBlock = some w.heap.size) → K (a.put o.dst v') w') :
    if Region.wanted o (yielded ops a.tmps) = true then Oper.wp Try.prog o a w K Q else E := by
  have hw : Region.wanted o (yielded ops a.tmps) = true := by simp [Region.wanted, hgd]
  rw [if_pos hw]
  obtain ⟨i, z, hi, hz0, hz1, hz2, hzs⟩ := st.info
  obtain ⟨v', w', hr, h2, h3, _, h5⟩ := run_append_own_at (P := Try.prog) w base TS o.type T i z k by' st.under hi hz0 hz1 hz2 hzs st.pos v n xs hown ⟨g, 0, none⟩ m m cs hl
    (by
      intro j u hu
      rw [add_flat, cell_of hb, ← hu]
      simp)
    h1 (by have := Nat.le_mul_of_pos_right (n + m) hby; unfold maxLen; omega) h63 hbase
  exact Lib.wp_append_run w s x _ _ ho _ _ hs hx _ _ hr (h v' w' h2 h3 h5)
theorem grown_opt {w1 w2 : World} {r : Option Nat} (h : w.grownBy w1 none) (k : w1.grownBy w2 r) (hr : ∀ g, r = some g → w.heap.size ≤ g) : w.grownBy w2 none := by
  cases r with
  | none => exact grown_trans h k
  | some g => exact grown_new h k (hr g rfl)
end Go.Proofs.Ytbnnlbdjjpmgeaa


namespace Go.Proofs.Ytbnnlbdjjpmgeaa
open Go.RowKit
variable {w w' W V : World}

def intCs (x : Int) : List Value := [.int .i64 x]
theorem intType : StType Try.prog 3 55 1 8 := .mk' Try.underlying55 (z := .int .i64 0) (by kernel_rfl) rfl (by decide)
def IntAt (w : World) (q : Option Addr) (l : List Int) : Prop := ∀ i x, l[i]? = some x → ∃ g, q = some ⟨g, 0, none⟩ ∧ w.cell? ⟨g, i, none⟩ = some (.int .i64 x)
theorem IntAt.of {lo n c : Nat} {q : Option Addr} {l : List Int} (h : w.ownsRow lo 3 1 (.slice q n c) n (l.flatMap intCs)) : IntAt w q l := fun i x hx => by
  obtain ⟨g, e, h0⟩ := row_cell (f := intCs) (k := 1) (fun _ => rfl) h hx (j := 0) (by decide)
  refine ⟨g, e, ?_⟩
  rw [Nat.mul_one, Nat.add_zero] at h0
  exact h0
theorem IntAt.grown {q : Option Addr} {l : List Int} (h : IntAt w q l) (hg : w.grownBy w' none) : IntAt w' q l := fun i x hx => by
  obtain ⟨g, e, c0⟩ := h i x hx
  exact ⟨g, e, grown_cell hg c0⟩
end Go.Proofs.Ytbnnlbdjjpmgeaa


namespace Go.Proofs.Ytbnnlbdjjpmgeaa
open Go.RowKit
variable {w w' W : World}

theorem pre_ne : ∀ (l : List Int) (i : Nat), i < (pre l).length → l.getD i 0 ≠ 0 := by
  intro l
  induction l with
  | nil => intro i h; simp [pre] at h
  | cons x l ih =>
    intro i h
    simp only [pre] at h
    by_cases hx : x = 0
    · rw [if_pos hx] at h; simp at h
    · rw [if_neg hx] at h
      cases i with
      | zero => simpa using hx
      | succ i => simpa using ih i (by simpa using h)
theorem pre_end : ∀ (l : List Int), (pre l).length < l.length → l.getD (pre l).length 0 = 0 := by
  intro l
  induction l with
  | nil => intro h; simp at h
  | cons x l ih =>
    intro h
    simp only [pre] at h ⊢
    by_cases hx : x = 0
    · rw [if_pos hx]; simpa using hx
    · rw [if_neg hx] at h ⊢
      simpa using ih (by simpa using h)
theorem name01_any (b o c n : Nat) (ys : List Int) (h : IsBytes w (some ⟨b, o, none⟩) c ys) (hn : ys.length = n) (hb : n ≤ 140737488355328) (hc : n ≤ c) :
    Calls Try.prog 58 #[.slice (some ⟨b, o, none⟩) n c] w fun e w' => e = .returned (.string (strOfNums (pre ys))) ∧ w' = w := by
  have hcell : ∀ k, k < n → w.cell? ⟨b, o + k, none⟩ = some (.int .u8 (ys.getD k 0)) := by
    intro k hk
    obtain ⟨b', o', e, hx⟩ := h.2 (by omega)
    injection e with e
    injection e with e1 e2 _
    subst e1 e2
    exact hx k (by omega)
  have hpl := pre_le ys
  rw [hn] at hpl
  have C := Lib.hid hcell
  have NE := Lib.hid (pre_ne ys)
  have EN := Lib.hid (pre_end ys)
  rw [hn] at EN
  have TX := Lib.hid (fun V W (hV : IsBytes W V c (pre ys)) => hV.text rfl)
  have HB := Lib.hid h
  have PT := Lib.hid (pre_take ys)
  obtain ⟨k, hk⟩ : ∃ k, k = (pre ys).length := ⟨_, rfl⟩
  rw [← hk] at hpl NE EN TX PT
  clear h hcell hn hk
  go_enter Try.func58, Try.ntmps58
  go_wp2
  go_loop [3] (fun i => ∃ j : Nat, i = .int .i64 j ∧ j ≤ k) (fun i => k - (intOf i).toNat)
  case atStart => exact ⟨0, rfl, by omega⟩
  case round =>
    obtain ⟨j, rfl, hj⟩ := hrel
    by_cases hlt : j < k
    · have c0 := C.out j (by omega)
      have hne := NE.out j hlt
      generalize ys.getD j 0 = y at *
      have hjn : j < n := by omega
      have hb1 : (y != 0) = true := by simpa using hne
      go_wp2
      go_round
      case rel => exact ⟨j + 1, by go_num, by omega⟩
      case measure => simp [intOf]; omega
    · obtain rfl : j = k := by omega
      have cv := TX.out (some ⟨b, o, none⟩) w (by have := HB.out.take j (c' := c) (fun e => by cases e); rw [← PT.out] at this; exact this)
      by_cases hjn : j < n
      · have c0 := C.out j hjn
        rw [EN.out hjn] at c0
        go_wp2
        go_ret
        exact ⟨rfl, rfl⟩
      · go_wp2
        go_ret
        exact ⟨rfl, rfl⟩
end Go.Proofs.Ytbnnlbdjjpmgeaa


namespace Go.Proofs.Ytbnnlbdjjpmgeaa
open Go.RowKit
variable {w w' W V : World} {xs : List Int}

theorem RowEx.at {q : Option Addr} {D : Out} (h : RowEx w q D) {i : Nat} {y : List Int × Ex} (hy : D[i]? = some y) : ∃ g, q = some ⟨g, 0, none⟩ ∧ w.cell? ⟨g, i * 7, none⟩ = some (.string (strOfNums y.1)) ∧ w.cell? ⟨g, i * 7 + 1, none⟩ = some (.int .i64 y.2.kind) ∧ w.cell? ⟨g, i * 7 + 2, none⟩ = some (.bool y.2.weak) ∧
    w.cell? ⟨g, i * 7 + 3, none⟩ = some (.int .u64 y.2.value) ∧ w.cell? ⟨g, i * 7 + 4, none⟩ = some (.int .u64 y.2.resolver) ∧ w.cell? ⟨g, i * 7 + 5, none⟩ = some (.int .u64 y.2.ordinal) ∧ w.cell? ⟨g, i * 7 + 6, none⟩ = some (.string (strOfNums y.2.other)) := by
  obtain ⟨g, e, hc⟩ := h i y hy
  exact ⟨g, e, hc 0 (by decide), hc 1 (by decide), hc 2 (by decide), hc 3 (by decide), hc 4 (by decide), hc 5 (by decide), hc 6 (by decide)⟩
set_option maxRecDepth 20000 in
set_option maxHeartbeats 1600000 in
theorem same9_any (D : Out) (n : Nat) (hn : D.length = n) (q1 q2 : Option Addr) (c1 c2 : Nat) (hm : n ≤ 9223372036854775807) (h1 : RowEx w q1 D) (h2 : RowEx w q2 D) :
    Calls Try.prog 8 #[.slice q1 n c1, .slice q2 n c2] w fun e w' => e = .returned (.bool true) ∧ w.grownBy w' none := by
  have P := Lib.hid h1
  have Q := Lib.hid h2
  have HN := Lib.hid hn
  clear h1 h2 hn
  go_enter Try.func8, Try.ntmps8
  go_wp2
  go_loopw [5] (fun i wr => ∃ k : Nat, k ≤ n ∧ i = .int .i64 k ∧ w.grownBy wr none) (fun i _ => n - (intOf i).toNat)
  case atStart => exact ⟨0, Nat.zero_le _, rfl, grown_refl _ _⟩
  case round =>
    obtain ⟨k, hk, rfl, hg⟩ := hrel
    by_cases hlt : k < n
    · obtain ⟨y, hy⟩ : ∃ y, D[k]? = some y := ⟨_, List.getElem?_eq_getElem (by rw [HN.out]; exact hlt)⟩
      obtain ⟨g, rfl, a0, a1, a2, a3, a4, a5, a6⟩ := (P.out.grown hg).at hy
      obtain ⟨g', rfl, b0, b1, b2, b3, b4, b5, b6⟩ := (Q.out.grown hg).at hy
      have G := Lib.hid hg
      clear hy hg
      go_wp2
      go_quiet (fail)
      go_wp2
      go_roundw
      case rel => exact ⟨k + 1, hlt, by go_num, grown_drewN G.out _⟩
      case measure => simp [intOf]; omega
    · have G := Lib.hid hg
      clear hg
      go_wp2
      go_ret
      exact ⟨rfl, G.out⟩
def rowA : List Int := [0, 1, 97, 0, 5, 2, 0, 7, 0]
def rowB : List Int := [0, 1, 97, 0, 0]
theorem rowA_all : allN rowA = ([([97], ⟨1, false, 7, 0, 0, []⟩)], 0) := by decide +kernel
theorem rowB_all : (allN rowB).2 = 12 := by decide +kernel
theorem lit9 {v : List Int} {w W : World} (t : TypeId) (h : W = w.alloc (.cells (v.map (Value.int .u8)).toArray t)) (n : Nat) : IsBytes W (some ⟨w.heap.size, 0, none⟩) n v := by
  subst h
  refine IsBytes.mk_at fun i hi => ?_
  rw [cell_of (heap_alloc_new w _)]
  simp [hi]
set_option maxRecDepth 20000 in
set_option maxHeartbeats 800000 in
theorem known9_any (w : World) : Calls Try.prog 5 #[] w fun e w' => e = .returned (.bool true) ∧ w.grownBy w' none := by
  have LA := Lib.hid fun W : World => lit9 (v := rowA) (w := W) 5 rfl 9
  have LB := Lib.hid fun W : World => lit9 (v := rowB) (w := W) 5 rfl 5
  have BA : Byt rowA := by intro x hx; simp [rowA] at hx; omega
  have BB : Byt rowB := by intro x hx; simp [rowB] at hx; omega
  have AA := Lib.hid fun W => All_any (LA.out W) rfl BA (Nat.le_refl _) (by decide) (by decide)
  have AB := Lib.hid fun W => All_any (LB.out W) rfl BB (Nat.le_refl _) (by decide) (by decide)
  have GA := Lib.hid fun W : World => grown1 W (.cells (rowA.map (Value.int .u8)).toArray 5)
  have GB := Lib.hid fun W : World => grown1 W (.cells (rowB.map (Value.int .u8)).toArray 5)
  clear BA BB
  go_enter Try.func5, Try.ntmps5
  go_wp2_with fail
  refine (AA.out w).mono ?_
  rintro e w1 ⟨⟨D, q, c, rfl, hD, _, hP, hlc, hc63⟩, hg⟩
  have G1 := Lib.hid (grown_trans (GA.out w) hg)
  rw [rowA_all] at hP ⊢
  obtain rfl := List.perm_singleton.1 hP
  have R1 := Lib.hid hD
  clear hD hP hg hlc hc63
  go_wp2_with fail
  refine (AB.out w1).mono ?_
  rintro e w2 ⟨⟨D2, q2, c2, rfl, _, _, _, _, _⟩, hg⟩
  have G2 := Lib.hid (grown_trans (GB.out w1) hg)
  rw [rowB_all]
  clear hg
  have g3 := grown1 w2 (.cells #[.string ⟨#[97]⟩, .int .i64 1, .bool false, .int .u64 7, .int .u64 0, .int .u64 0, .string ⟨#[]⟩] 38)
  have R3 : RowEx (w2.alloc (.cells #[.string ⟨#[97]⟩, .int .i64 1, .bool false, .int .u64 7, .int .u64 0, .int .u64 0, .string ⟨#[]⟩] 38)) (some ⟨w2.heap.size, 0, none⟩) [([97], ⟨1, false, 7, 0, 0, []⟩)] := by
    intro i y hy
    match i, hy with
    | 0, hy =>
      injection hy with hy
      subst hy
      refine ⟨_, rfl, fun j hj => ?_⟩
      rw [Nat.zero_mul, Nat.zero_add, cell_of (heap_alloc_new w2 _)]
      match j, hj with
      | 0, _ => rfl
      | 1, _ => rfl
      | 2, _ => rfl
      | 3, _ => rfl
      | 4, _ => rfl
      | 5, _ => rfl
      | 6, _ => rfl
  have SM := Lib.hid (same9_any [([97], ⟨1, false, 7, 0, 0, []⟩)] 1 rfl q (some ⟨w2.heap.size, 0, none⟩) c 1 (by decide) ((R1.out.grown G2.out).grown g3) R3)
  have G3 := Lib.hid (grown_trans (grown_trans G1.out G2.out) g3)
  clear g3 R3
  go_wp2_with fail
  refine SM.out.mono ?_
  rintro e w3 ⟨rfl, hg⟩
  have G4 := Lib.hid (grown_trans G3.out hg)
  clear hg
  go_wp2
  go_ret
  exact ⟨rfl, G4.out⟩
end Go.Proofs.Ytbnnlbdjjpmgeaa


namespace Go.Proofs.Ytbnnlbdjjpmgeaa
open Go.RowKit
theorem bytesLess_is : ∀ (a b : List UInt8), Op.bytesLess a b = nmLt (a.map fun u => (u.toNat : Int)) (b.map fun u => (u.toNat : Int))
  | [], [] => rfl
  | _ :: _, [] => rfl
  | [], _ :: _ => rfl
  | x :: a, y :: b => by
    have e1 : (x < y) ↔ (x.toNat : Int) < (y.toNat : Int) := by rw [UInt8.lt_iff_toNat_lt]; omega
    have e2 : (y < x) ↔ (y.toNat : Int) < (x.toNat : Int) := by rw [UInt8.lt_iff_toNat_lt]; omega
    have e3 : (x = y) ↔ (x.toNat : Int) = (y.toNat : Int) := by rw [← UInt8.toNat_inj]; omega
    simp only [Op.bytesLess, List.map_cons, nmLt, bytesLess_is a b]
    by_cases h1 : x < y
    · rw [if_pos (e1.1 h1)]; simp [h1]
    · by_cases h2 : y < x
      · have h3 : ¬ x = y := fun e => h1 (by have := e3.1 e; have := e2.1 h2; omega)
        rw [if_neg (fun h => h1 (e1.2 h)), if_pos (e2.1 h2)]
        simp [h1, h3]
      · have h3 : x = y := e3.2 (by have a1 : ¬ (x.toNat : Int) < y.toNat := fun h => h1 (e1.2 h); have a2 : ¬ (y.toNat : Int) < x.toNat := fun h => h2 (e2.2 h); omega)
        rw [if_neg (fun h => h1 (e1.2 h)), if_neg (fun h => h2 (e2.2 h))]
        simp [h3]
theorem less_is (a b : List Int) : Op.bytesLess (strOfNums a).toList (strOfNums b).toList = nmLt (nums a) (nums b) := by
  rw [Lib.strOfNums_toList, Lib.strOfNums_toList]
  exact bytesLess_is _ _
theorem name_is {a b : List Int} (ha : Byt a) (hb : Byt b) : ((strOfNums a).toList == (strOfNums b).toList) = decide (a = b) := by
  rw [Lib.strOfNums_toList, Lib.strOfNums_toList]
  by_cases h : a = b
  · subst h; simp
  · rw [decide_eq_false h, beq_eq_false_iff_ne]
    intro e
    apply h
    rw [← nums_byt ha, ← nums_byt hb]
    unfold nums
    rw [e]
theorem nums_same {a b : List Int} : ((strOfNums a).toList == (strOfNums b).toList) = decide (nums a = nums b) := by
  rw [Lib.strOfNums_toList, Lib.strOfNums_toList]
  by_cases h : nums a = nums b
  · rw [decide_eq_true h, beq_iff_eq]
    unfold nums at h
    exact List.map_inj_right (fun x y e => by apply UInt8.toNat_inj.1; exact Int.ofNat_inj.1 e) |>.1 h
  · rw [decide_eq_false h, beq_eq_false_iff_ne]
    intro e
    apply h
    unfold nums
    rw [e]
theorem le_is (a b : List Int) : (Op.bytesLess (strOfNums a).toList (strOfNums b).toList || ((strOfNums a).toList == (strOfNums b).toList)) = !nmLt (nums b) (nums a) := by
  rw [less_is, nums_same]
  cases h1 : nmLt (nums a) (nums b) with
  | true =>
    cases h2 : nmLt (nums b) (nums a) with
    | false => rfl
    | true => have := nmLt_trans h1 h2; rw [nmLt_irrefl] at this; cases this
  | false =>
    by_cases h : nums a = nums b
    · rw [decide_eq_true h, h, nmLt_irrefl]; rfl
    · rw [decide_eq_false h]
      cases h2 : nmLt (nums b) (nums a) with
      | false => exact absurd (nmLt_anti h1 h2) h
      | true => rfl
end Go.Proofs.Ytbnnlbdjjpmgeaa


namespace Go.Proofs.Ytbnnlbdjjpmgeaa
open Go.RowKit
variable {w w' W V : World}

def ExsAt (w : World) (q : Option Addr) (D : Out) : Prop := ∀ i y, D[i]? = some y → ∃ g o, q = some ⟨g, o, none⟩ ∧ ∀ j, j < 7 → w.cell? ⟨g, o + i * 7 + j, none⟩ = (outCs y)[j]?
theorem RowEx.exs {q : Option Addr} {D : Out} (h : RowEx w q D) : ExsAt w q D := fun i y hy => by
  obtain ⟨g, e, hc⟩ := h i y hy
  exact ⟨g, 0, e, fun j hj => by rw [Nat.zero_add]; exact hc j hj⟩
theorem ExsAt.nil {q : Option Addr} : ExsAt w q [] := fun i y hy => by simp at hy
theorem ExsAt.grown {q : Option Addr} {D : Out} (h : ExsAt w q D) (hg : w.grownBy w' none) : ExsAt w' q D := fun i y hy => by
  obtain ⟨g, o, e, hc⟩ := h i y hy
  refine ⟨g, o, e, fun j hj => ?_⟩
  have hl : j < (outCs y).length := hj
  have := hc j hj
  rw [List.getElem?_eq_getElem hl] at this ⊢
  exact grown_cell hg this
theorem ExsAt.take {q : Option Addr} {D : Out} (h : ExsAt w q D) (n : Nat) : ExsAt w q (D.take n) := fun i y hy => by
  refine h i y ?_
  rw [List.getElem?_take] at hy
  split at hy
  · exact hy
  · cases hy
theorem ExsAt.drop {b o : Nat} {D : Out} (h : ExsAt w (some ⟨b, o, none⟩) D) (n : Nat) : ExsAt w (some ⟨b, o + n * 7, none⟩) (D.drop n) := fun i y hy => by
  rw [List.getElem?_drop] at hy
  obtain ⟨g, o', e, hc⟩ := h (n + i) y hy
  injection e with e
  injection e with e1 e2 _
  subst e1 e2
  refine ⟨b, o + n * 7, rfl, fun j hj => ?_⟩
  have := hc j hj
  rw [show o + (n + i) * 7 + j = o + n * 7 + i * 7 + j by omega] at this
  exact this
theorem ExsAt.head {q : Option Addr} {y : List Int × Ex} {D : Out} (h : ExsAt w q (y :: D)) : ∃ g o, q = some ⟨g, o, none⟩ ∧ w.cell? ⟨g, o, none⟩ = some (.string (strOfNums y.1)) ∧ w.cell? ⟨g, o + 1, none⟩ = some (.int .i64 y.2.kind) ∧ w.cell? ⟨g, o + 2, none⟩ = some (.bool y.2.weak) ∧
    w.cell? ⟨g, o + 3, none⟩ = some (.int .u64 y.2.value) ∧ w.cell? ⟨g, o + 4, none⟩ = some (.int .u64 y.2.resolver) ∧ w.cell? ⟨g, o + 5, none⟩ = some (.int .u64 y.2.ordinal) ∧ w.cell? ⟨g, o + 6, none⟩ = some (.string (strOfNums y.2.other)) := by
  obtain ⟨g, o, e, hc⟩ := h 0 y rfl
  simp only [Nat.zero_mul, Nat.add_zero] at hc
  exact ⟨g, o, e, hc 0 (by decide), hc 1 (by decide), hc 2 (by decide), hc 3 (by decide), hc 4 (by decide), hc 5 (by decide), hc 6 (by decide)⟩
theorem flat_inv {α : Type} {f : α → List Value} {k : Nat} (hk : 0 < k) (hf : ∀ x, (f x).length = k) (l : List α) (j : Nat) (u : Value) (h : (l.flatMap f)[j]? = some u) : ∃ y, l[j / k]? = some y ∧ (f y)[j % k]? = some u := by
  obtain ⟨hj, -⟩ := List.getElem?_eq_some_iff.1 h
  rw [flat_len hf] at hj
  have hi : j / k < l.length := by
    rcases Nat.lt_or_ge (j / k) l.length with h | h
    · exact h
    · have h1 := Nat.mul_le_mul_right k h
      have h2 := Nat.div_mul_le_self j k
      omega
  refine ⟨l[j / k], List.getElem?_eq_getElem hi, ?_⟩
  have := flat_at hf l (j / k) (j % k) _ (List.getElem?_eq_getElem hi) (Nat.mod_lt _ hk)
  rw [show j / k * k + j % k = j by rw [Nat.mul_comm]; exact Nat.div_add_mod j k] at this
  rw [← this]
  exact h
theorem ExsAt.cells {q : Option Addr} {D : Out} (h : ExsAt w q D) (j : Nat) (u : Value) (hu : (D.flatMap outCs)[j]? = some u) : ∃ g o, q = some ⟨g, o, none⟩ ∧ w.cell? ⟨g, o + j, none⟩ = some u := by
  obtain ⟨y, hy, hr⟩ := flat_inv (by decide) outCs_len D j u hu
  obtain ⟨g, o, e, hc⟩ := h _ y hy
  refine ⟨g, o, e, ?_⟩
  have := hc (j % 7) (Nat.mod_lt _ (by decide))
  rw [show o + j / 7 * 7 + j % 7 = o + j by omega] at this
  rw [this]; exact hr
theorem outs_one (D : Out) : ∀ u ∈ D.flatMap outCs, u.oneCell' = true := fun u hu => by
  obtain ⟨y, _, h⟩ := List.mem_flatMap.1 hu
  exact exCs_one _ _ u h
def leX (x y : List Int × Ex) : Prop := nmLt (nums y.1) (nums x.1) = false
theorem leX_trans {x y z : List Int × Ex} (h : leX x y) (k : leX y z) : leX x z := nmLt_ntrans k h
def Srt (D : Out) : Prop := D.Pairwise leX
theorem srt_step {O A B : Out} {a : List Int × Ex} (ha : Srt (O ++ a :: A)) (hb : Srt (O ++ B)) (hle : ∀ b B', B = b :: B' → leX a b) : Srt ((O ++ [a]) ++ A) ∧ Srt ((O ++ [a]) ++ B) := by
  refine ⟨by rw [List.append_assoc]; exact ha, ?_⟩
  unfold Srt at *
  rw [List.append_assoc, List.pairwise_append]
  rw [List.pairwise_append] at ha hb
  refine ⟨ha.1, ?_, ?_⟩
  · rw [List.singleton_append, List.pairwise_cons]
    refine ⟨?_, hb.2.1⟩
    intro x hx
    cases B with
    | nil => cases hx
    | cons b B' =>
      rcases List.mem_cons.1 hx with h | h
      · rw [h]; exact hle b B' rfl
      · exact leX_trans (hle b B' rfl) ((List.pairwise_cons.1 hb.2.1).1 x h)
  · intro x hx y hy
    rcases List.mem_append.1 hy with h | h
    · exact ha.2.2 x hx y (List.mem_cons.2 (.inl (List.mem_singleton.1 h)))
    · exact hb.2.2 x hx y h
structure SoOut (w w' : World) (D : Out) (e : Ending) : Prop where
  ex : ∃ R v, e = .returned v ∧ w'.ownsRow w.heap.size 38 7 v R.length (R.flatMap outCs) ∧ R.Perm D ∧ Srt R
  grown : w.grownBy w' none
set_option maxRecDepth 20000 in
set_option maxHeartbeats 3200000 in
theorem sorted_few (D : Out) (q : Option Addr) (c : Nat) (w : World) (hn : D.length < 2) (h : ExsAt w q D) :
    Calls Try.prog 10 #[.slice q D.length c] w fun e w' => SoOut w w' D e := by
  have hl : (D.flatMap outCs).length = D.length * 7 := flat_len outCs_len D
  have HH := Lib.hid (h.cells)
  have HL := Lib.hid hl
  have S : Srt D := by
    match D, hn with
    | [], _ => exact List.Pairwise.nil
    | [x], _ => exact List.pairwise_singleton _ _
  have FN := Lib.hid (fun v' w' (ho : w'.ownsRow w.heap.size 38 7 v' D.length (D.flatMap outCs)) (hg : w.grownBy w' none) => (show SoOut w w' D (.returned v') from ⟨⟨D, v', rfl, ho, List.Perm.refl _, S⟩, hg⟩))
  have HO := Lib.hid (outs_one D)
  have dn : decide ((D.length : Int) < 2) = true := by simp; omega
  clear h hl S
  obtain ⟨N, hN⟩ : ∃ N, N = D.length := ⟨_, rfl⟩
  rw [← hN] at HL FN hn dn ⊢
  clear hN
  go_enter Try.func10, Try.ntmps10
  go_wp2_with (at_builtin; refine wp_append_rows exType rfl _ _ rfl rfl (.slice none 0 0) 0 [] rfl (World.ownsRow_nil _ w.heap.size 38 7) q N c rfl (D.flatMap outCs) HL.out HH.out HO.out (by omega) (by decide) (Nat.le_refl _) ?_)
  intro v' w' ho hg hv
  try rw [Nat.zero_add] at ho
  try rw [List.nil_append] at ho
  have F := Lib.hid (FN.out v' w' ho hg)
  clear ho hg hv
  go_wp2
  go_ret
  exact F.out
theorem exs_lo (b o n c p : Nat) (hc : n ≤ c) (hp : p ≤ n) : ∃ V : Option Addr, (∀ W, (Instr.slice 22 (.slice (some ⟨b, o, none⟩) n c) (some (.int .i64 (p : Int))) none none).run Try.prog W = .ok (.slice V (n - p) (c - p)) W) ∧ ∀ (w : World) (D : Out), D.length = n → ExsAt w (some ⟨b, o, none⟩) D → ExsAt w V (D.drop p) := by
  obtain ⟨V, hV, h⟩ := cut_lo (T := 22) (k := 7) (by kernel_rfl) (fun W => by kernel_rfl) b o n c p .i64 hp
  refine ⟨V, hV, fun w D hD he => ?_⟩
  rcases h with ⟨rfl, h⟩ | rfl
  · rw [List.drop_eq_nil_of_le (by omega)]
    exact ExsAt.nil
  · exact he.drop p
def slN : Value → Nat
  | .slice _ n _ => n
  | _ => 0
structure SoMid (w : World) (D : Out) (h : Nat) (va vb : Value) (wx : World) : Prop where
  ex : ∃ A qa ca B qb cb, va = .slice qa (List.length A) ca ∧ vb = .slice qb (List.length B) cb ∧ A.length ≤ ca ∧ B.length ≤ cb ∧ ca ≤ 9223372036854775807 ∧ cb ≤ 9223372036854775807 ∧ ExsAt wx qa A ∧ ExsAt wx qb B ∧ A.Perm (D.take h) ∧ B.Perm (D.drop h) ∧ Srt A ∧ Srt B
  grown : w.grownBy wx none
structure SoLp (w : World) (D : Out) (va vb vo : Value) (wr : World) : Prop where
  ex : ∃ A qa ca B qb cb O, va = .slice qa (List.length A) ca ∧ vb = .slice qb (List.length B) cb ∧ A.length ≤ ca ∧ B.length ≤ cb ∧ ca ≤ 9223372036854775807 ∧ cb ≤ 9223372036854775807 ∧ ExsAt w qa A ∧ ExsAt w qb B ∧ wr.ownsRow w.heap.size 38 7 vo (List.length O) (O.flatMap outCs) ∧ (O ++ (A ++ B)).Perm D ∧ Srt (O ++ A) ∧ Srt (O ++ B)
  grown : w.grownBy wr none
set_option maxRecDepth 20000 in
set_option maxHeartbeats 3200000 in
theorem sorted_any : ∀ (n : Nat) (D : Out) (q : Option Addr) (c : Nat) (w : World), D.length = n → n ≤ 1000000000 → n ≤ c → c ≤ 9223372036854775807 → ExsAt w q D →
    Calls Try.prog 10 #[.slice q n c] w fun e w' => SoOut w w' D e := by
  intro n
  induction n using Nat.strongRecOn with
  | _ n ih =>
  intro D q c w hD hbig hc hcm h
  by_cases hfew : n < 2
  · rw [← hD]
    exact sorted_few D q c w (by omega) h
  obtain ⟨g, o, rfl⟩ : ∃ g o, q = some ⟨g, o, none⟩ := by
    obtain ⟨g, o, e, _⟩ := h 0 D[0] (List.getElem?_eq_getElem (by omega))
    exact ⟨g, o, e⟩
  obtain ⟨hf, hhf⟩ : ∃ hf, hf = n / 2 := ⟨_, rfl⟩
  obtain ⟨V, hV, hVE⟩ := exs_lo g o n c hf hc (by omega)
  have CH := cut_hi (T := 22) (k := 7) (by kernel_rfl) (fun W => by kernel_rfl) g o n c hf .i64 (by omega)
  have IA := Lib.hid (fun (W : World) (hg : w.grownBy W none) => ih hf (by omega) (D.take hf) (some ⟨g, o, none⟩) c W (by rw [List.length_take]; omega) (by omega) (by omega) hcm ((h.grown hg).take hf))
  have IB := Lib.hid (fun (W : World) (hg : w.grownBy W none) => ih (n - hf) (by omega) (D.drop hf) V (c - hf) W (by rw [List.length_drop]; omega) (by omega) (by omega) (by omega) (hVE W D hD (h.grown hg)))
  have hdv : IntKind.i64.wrap ((n : Int) / 2) = (hf : Int) := by rw [show (n : Int) / 2 = (hf : Int) by omega]; exact IntWalk.i64_in _ (by omega)
  have dn : decide ((n : Int) < 2) = false := by simp; omega
  have G0 := Lib.hid (show w.grownBy w.drew none from grown_drewN (grown_refl w none) 1)
  have HD := Lib.hid hD
  have HHF := Lib.hid (show hf ≤ n ∧ 1 ≤ hf by omega)
  clear ih h hVE hD hhf
  go_enter Try.func10, Try.ntmps10
  go_upto_region 3 with fail
  go_cut [3, 4] from 11 to 22 (fun va vb wx => SoMid w D hf va vb wx)
  case first =>
    go_region_held (fun W => (Instr.slice 22 (.slice (some ⟨g, o, none⟩) n c) none (some (.int .i64 (hf : Int))) none).run Try.prog W = .ok (.slice (some ⟨g, o, none⟩) hf c) W ∧ (Instr.slice 22 (.slice (some ⟨g, o, none⟩) n c) (some (.int .i64 (hf : Int))) none none).run Try.prog W = .ok (.slice V (n - hf) (c - hf)) W)
      (exact ⟨CH _, hV _⟩)
      (first
      | (go_at_call 10; with_reducible refine (IA.out w.drew G0.out).mono ?_; rintro e w1 ⟨⟨A, va, rfl, oa, pa, sa⟩, ga⟩; obtain ⟨qa, ca, rfl⟩ := own_slice oa; have G1 := Lib.hid (grown_trans G0.out ga); have OA := Lib.hid oa; have PA := Lib.hid (And.intro pa sa); clear oa pa sa ga)
      | (go_at_call 10; with_reducible refine (IB.out w1 G1.out).mono ?_; rintro e w2 ⟨⟨B, vb, rfl, ob, pb, sb⟩, gb⟩; obtain ⟨qb, cb, rfl⟩ := own_slice ob; have G2 := Lib.hid (grown_trans G1.out gb); have OA2 := Lib.hid (own_grown OA.out gb); have OB := Lib.hid ob; have PB := Lib.hid (And.intro pb sb); clear ob pb sb gb))
    all_goals
      go_wp2_with fail
      go_meet
      exact ⟨⟨A, qa, ca, B, qb, cb, rfl, rfl, own_room8 OA2.out, own_room8 OB.out, own_max OA2.out, own_max OB.out, (RowEx.of OA2.out).exs, (RowEx.of OB.out).exs, PA.out.1, PB.out.1, PA.out.2, PB.out.2⟩, G2.out⟩
  case rest =>
    obtain ⟨A0, qa, ca, B0, qb, cb, rfl, rfl, la, lb, ma, mb, ea, eb, pa, pb, sa, sb⟩ := hcut.ex
    have GC := Lib.hid hcut.grown
    have EA := Lib.hid ea
    have EB := Lib.hid eb
    have PM := Lib.hid (show (A0 ++ B0).Perm D by
      have h := pa.append pb
      rw [List.take_append_drop] at h
      exact h)
    have SA := Lib.hid sa
    have SB := Lib.hid sb
    have LB := Lib.hid (And.intro la (And.intro lb (And.intro ma mb)))
    clear hcut ea eb pa pb sa sb la lb ma mb
    go_upto_region 5 with fail
    go_loopw [3, 4, 5] (fun va vb vo wr => SoLp wc D va vb vo wr) (fun va vb _ _ => slN va + slN vb)
    case atStart => exact ⟨⟨A0, qa, ca, B0, qb, cb, [], rfl, rfl, LB.out.1, LB.out.2.1, LB.out.2.2.1, LB.out.2.2.2, EA.out, EB.out, World.ownsRow_nil _ _ _ _, PM.out, SA.out, SB.out⟩, grown_refl _ _⟩
    case round =>
      obtain ⟨A, qa, ca, B, qb, cb, O, rfl, rfl, la, lb, ma, mb, ea, eb, oo, pm, sa, sb⟩ := hrel.ex
      have GL := Lib.hid hrel.grown
      have hlen : O.length + (A.length + B.length) = n := by
        have := pm.length_eq
        rw [List.length_append, List.length_append, HD.out] at this
        exact this
      obtain ⟨qo, co, rfl⟩ := own_slice oo
      have OO := Lib.hid oo
      have EA := Lib.hid ea
      have EB := Lib.hid eb
      have PM := Lib.hid pm
      have SA := Lib.hid sa
      have SB := Lib.hid sb
      clear hrel ea eb oo pm sa sb
      by_cases hab : A = [] ∧ B = []
      · obtain ⟨rfl, rfl⟩ := hab
        have FN := Lib.hid (show SoOut w wr D (.returned (.slice qo (List.length O) co)) from ⟨⟨O, _, rfl, Go.Joins.ownsRow_le OO.out GC.out.size, by have h := PM.out; rw [List.append_nil, List.append_nil] at h; exact h, by have h := SA.out; rw [List.append_nil] at h; exact h⟩, grown_trans GC.out GL.out⟩)
        clear hlen la lb ma mb
        go_wp2
        go_ret
        exact FN.out
      have hgo : (∃ a A', A = a :: A' ∧ ∀ b B', B = b :: B' → leX a b) ∨ (∃ b B', B = b :: B' ∧ ∀ a A', A = a :: A' → leX b a ∧ ¬ leX a b) := by
        cases A with
        | nil =>
          cases B with
          | nil => exact absurd ⟨rfl, rfl⟩ hab
          | cons b B' => exact .inr ⟨b, B', rfl, fun a A' e => by cases e⟩
        | cons a A' =>
          cases B with
          | nil => exact .inl ⟨a, A', rfl, fun b B' e => by cases e⟩
          | cons b B' =>
            by_cases hle : leX a b
            · exact .inl ⟨a, A', rfl, fun b' B'' e => by injection e with e1 e2; rw [← e1]; exact hle⟩
            · refine .inr ⟨b, B', rfl, fun a' A'' e => ?_⟩
              injection e with e1 e2
              rw [← e1]
              refine ⟨?_, hle⟩
              unfold leX at hle ⊢
              cases h1 : nmLt (nums a.1) (nums b.1) with
              | false => rfl
              | true =>
                cases h2 : nmLt (nums b.1) (nums a.1) with
                | false => exact absurd h2 hle
                | true => have := nmLt_trans h1 h2; rw [nmLt_irrefl] at this; cases this
      clear hab
      rcases hgo with ⟨a, A', rfl, hle⟩ | ⟨b, B', rfl, hle⟩
      · have HLE := Lib.hid hle
        obtain ⟨na, hna⟩ : ∃ na, na = A'.length := ⟨_, rfl⟩
        have NA := Lib.hid hna
        rw [show (a :: A').length = na + 1 by rw [hna]; rfl] at la hlen ⊢
        obtain ⟨QB, hQB⟩ : ∃ Q, Q = qb := ⟨_, rfl⟩
        obtain ⟨nb, hnb⟩ : ∃ nb, nb = B.length := ⟨_, rfl⟩
        have NB := Lib.hid hnb
        rw [← hnb] at lb hlen ⊢
        have da : decide ((0 : Int) < ((na + 1 : Nat) : Int)) = true := by simp <;> omega
        have da2 : decide ((0 : Int) < (na : Int) + 1) = true := by simp <;> omega
        obtain ⟨ga, oa, rfl, k0, k1, k2, k3, k4, k5, k6⟩ := (EA.out.grown GL.out).head
        clear hna hle
        cases hB : B with
        | nil =>
          have hnb0 : nb = 0 := by rw [hnb, hB]; rfl
          subst hQB
          clear hB hnb
          have db : (((nb : Nat) : Int) == 0) = true := by rw [hnb0]; rfl
          clear hnb0
          go_wp2
          go_quiet (fail)
          clear k0 k1 k2 k3 k4 k5 k6
          have G1 := Lib.hid (grown_drewN GL.out nq)
          obtain ⟨g', o', e, k0, k1, k2, k3, k4, k5, k6⟩ := (EA.out.grown G1.out).head
          injection e with e
          injection e with e1 e2 _
          subst e1 e2
          obtain ⟨W1, hW1⟩ : ∃ W1, wr.drewN nq = W1 := ⟨_, rfl⟩
          rw [hW1] at k0 k1 k2 k3 k4 k5 k6 G1 ⊢
          have OD := Lib.hid (show W1.ownsRow wc.heap.size 38 7 (.slice qo (List.length O) co) (List.length O) (O.flatMap outCs) from by rw [← hW1]; exact own_grown OO.out (grown_drewN (grown_refl wr none) nq))
          clear hW1
          have g2 := grown1 W1 (.cells #[.string (strOfNums a.1), .int .i64 a.2.kind, .bool a.2.weak, .int .u64 a.2.value, .int .u64 a.2.resolver, .int .u64 a.2.ordinal, .string (strOfNums a.2.other)] 38)
          have O2 := Lib.hid (own_grown OD.out g2)
          have N2 := Lib.hid (heap_alloc_new W1 (.cells #[.string (strOfNums a.1), .int .i64 a.2.kind, .bool a.2.weak, .int .u64 a.2.value, .int .u64 a.2.resolver, .int .u64 a.2.ordinal, .string (strOfNums a.2.other)] 38))
          have G2 := Lib.hid (grown_trans G1.out g2)
          obtain ⟨V2, hV2, hVE2⟩ := exs_lo ga oa (na + 1) ca 1 (by omega) (by omega)
          have HV2 : ∀ W, (Instr.slice 22 (.slice (some ⟨ga, oa, none⟩) (na + 1) ca) (some (.int .i64 1)) none none).run Try.prog W = .ok (.slice V2 na (ca - 1)) W := fun W => by have h := hV2 W; rw [show na + 1 - 1 = na by omega] at h; exact h
          have EV2 := Lib.hid (show ExsAt wc V2 A' from hVE2 wc (a :: A') (by rw [List.length_cons, NA.out]) EA.out)
          have hON : (O.length + 1) * 72 ≤ 140737488355328 := by omega
          clear hV2 hVE2 g2
          go_wp2_with (at_builtin; refine wp_append_sta exType rfl _ _ rfl _ (List.length O) _ rfl O2.out [.string (strOfNums a.1), .int .i64 a.2.kind, .bool a.2.weak, .int .u64 a.2.value, .int .u64 a.2.resolver, .int .u64 a.2.ordinal, .string (strOfNums a.2.other)] rfl W1.heap.size rfl N2.out (exCs_one (strOfNums a.1) a.2) hON (by decide) G2.out.size ?_)
          intro v' w5 ho5 hg5 hv5
          have G5 := Lib.hid (grown_opt G2.out hg5 (fun g e => (O2.out.lt g e).1))
          have O5 := Lib.hid (show w5.ownsRow wc.heap.size 38 7 v' (O ++ [a]).length ((O ++ [a]).flatMap outCs) from by rw [List.length_append, List.length_singleton, List.flatMap_append, List.flatMap_singleton]; exact ho5)
          clear ho5 hg5 hv5 k0 k1 k2 k3 k4 k5 k6
          go_wp2
          go_roundw
          case rel => exact ⟨⟨A', V2, ca - 1, B, _, cb, O ++ [a], by rw [← NA.out], by rw [← NB.out], by rw [← NA.out]; omega, by rw [← NB.out]; omega, by omega, by omega, EV2.out, EB.out, O5.out, by have h := PM.out; rw [List.append_assoc]; exact h, (srt_step SA.out SB.out HLE.out).1, (srt_step SA.out SB.out HLE.out).2⟩, G5.out⟩
          case measure => simp [slN]
        | cons b B' =>
          have EB1 := Lib.hid (show ExsAt wc qb (b :: B') from hB ▸ EB.out)
          obtain ⟨gb, ob, hqb, j0, j1, j2, j3, j4, j5, j6⟩ := (EB1.out.grown GL.out).head
          have hnb0 : 1 ≤ nb := by rw [hnb, hB]; simp
          have db : (((nb : Nat) : Int) == 0) = false := by simp; omega
          have hcmp := le_is a.1 b.1
          rw [show nmLt (nums b.1) (nums a.1) = false from HLE.out b B' hB] at hcmp
          obtain ⟨x, hx⟩ : ∃ x, Op.bytesLess (strOfNums a.1).toList (strOfNums b.1).toList = x := ⟨_, rfl⟩
          obtain ⟨y, hy⟩ : ∃ y, ((strOfNums a.1).toList == (strOfNums b.1).toList) = y := ⟨_, rfl⟩
          rw [hx, hy, Bool.not_false] at hcmp
          have HQB := Lib.hid hQB
          clear hB hnb hQB
          subst hqb
          go_wp2
          go_quiet (fail)
          clear k0 k1 k2 k3 k4 k5 k6 j0 j1 j2 j3 j4 j5 j6 hx hy hcmp
          have hQB := HQB.out
          subst hQB
          have G1 := Lib.hid (grown_drewN GL.out nq)
          obtain ⟨g', o', e, k0, k1, k2, k3, k4, k5, k6⟩ := (EA.out.grown G1.out).head
          injection e with e
          injection e with e1 e2 _
          subst e1 e2
          obtain ⟨W1, hW1⟩ : ∃ W1, wr.drewN nq = W1 := ⟨_, rfl⟩
          rw [hW1] at k0 k1 k2 k3 k4 k5 k6 G1 ⊢
          have OD := Lib.hid (show W1.ownsRow wc.heap.size 38 7 (.slice qo (List.length O) co) (List.length O) (O.flatMap outCs) from by rw [← hW1]; exact own_grown OO.out (grown_drewN (grown_refl wr none) nq))
          clear hW1
          have g2 := grown1 W1 (.cells #[.string (strOfNums a.1), .int .i64 a.2.kind, .bool a.2.weak, .int .u64 a.2.value, .int .u64 a.2.resolver, .int .u64 a.2.ordinal, .string (strOfNums a.2.other)] 38)
          have O2 := Lib.hid (own_grown OD.out g2)
          have N2 := Lib.hid (heap_alloc_new W1 (.cells #[.string (strOfNums a.1), .int .i64 a.2.kind, .bool a.2.weak, .int .u64 a.2.value, .int .u64 a.2.resolver, .int .u64 a.2.ordinal, .string (strOfNums a.2.other)] 38))
          have G2 := Lib.hid (grown_trans G1.out g2)
          obtain ⟨V2, hV2, hVE2⟩ := exs_lo ga oa (na + 1) ca 1 (by omega) (by omega)
          have HV2 : ∀ W, (Instr.slice 22 (.slice (some ⟨ga, oa, none⟩) (na + 1) ca) (some (.int .i64 1)) none none).run Try.prog W = .ok (.slice V2 na (ca - 1)) W := fun W => by have h := hV2 W; rw [show na + 1 - 1 = na by omega] at h; exact h
          have EV2 := Lib.hid (show ExsAt wc V2 A' from hVE2 wc (a :: A') (by rw [List.length_cons, NA.out]) EA.out)
          have hON : (O.length + 1) * 72 ≤ 140737488355328 := by omega
          clear hV2 hVE2 g2
          go_wp2_with (at_builtin; refine wp_append_sta exType rfl _ _ rfl _ (List.length O) _ rfl O2.out [.string (strOfNums a.1), .int .i64 a.2.kind, .bool a.2.weak, .int .u64 a.2.value, .int .u64 a.2.resolver, .int .u64 a.2.ordinal, .string (strOfNums a.2.other)] rfl W1.heap.size rfl N2.out (exCs_one (strOfNums a.1) a.2) hON (by decide) G2.out.size ?_)
          intro v' w5 ho5 hg5 hv5
          have G5 := Lib.hid (grown_opt G2.out hg5 (fun g e => (O2.out.lt g e).1))
          have O5 := Lib.hid (show w5.ownsRow wc.heap.size 38 7 v' (O ++ [a]).length ((O ++ [a]).flatMap outCs) from by rw [List.length_append, List.length_singleton, List.flatMap_append, List.flatMap_singleton]; exact ho5)
          clear ho5 hg5 hv5 k0 k1 k2 k3 k4 k5 k6
          go_wp2
          go_roundw
          case rel => exact ⟨⟨A', V2, ca - 1, B, _, cb, O ++ [a], by rw [← NA.out], by rw [← NB.out], by rw [← NA.out]; omega, by rw [← NB.out]; omega, by omega, by omega, EV2.out, EB.out, O5.out, by have h := PM.out; rw [List.append_assoc]; exact h, (srt_step SA.out SB.out HLE.out).1, (srt_step SA.out SB.out HLE.out).2⟩, G5.out⟩
          case measure => simp [slN]
      · have HLE := Lib.hid (show ∀ a A', A = a :: A' → leX b a from fun a A' e => (hle a A' e).1)
        have HLN := Lib.hid (show ∀ a A', A = a :: A' → ¬ leX a b from fun a A' e => (hle a A' e).2)
        obtain ⟨nb, hnb⟩ : ∃ nb, nb = B'.length := ⟨_, rfl⟩
        have NB := Lib.hid hnb
        rw [show (b :: B').length = nb + 1 by rw [hnb]; rfl] at lb hlen ⊢
        obtain ⟨QA, hQA⟩ : ∃ Q, Q = qa := ⟨_, rfl⟩
        obtain ⟨na, hna⟩ : ∃ na, na = A.length := ⟨_, rfl⟩
        have NA := Lib.hid hna
        rw [← hna] at la hlen ⊢
        have db : decide ((0 : Int) < ((nb + 1 : Nat) : Int)) = true := by simp <;> omega
        have db2 : decide ((0 : Int) < (nb : Int) + 1) = true := by simp <;> omega
        have db3 : (((nb + 1 : Nat) : Int) == 0) = false := by simp; omega
        have db4 : ((nb : Int) + 1 == 0) = false := by simp; omega
        obtain ⟨gb, ob, rfl, k0, k1, k2, k3, k4, k5, k6⟩ := (EB.out.grown GL.out).head
        clear hnb hle
        cases hA : A with
        | nil =>
          have hna0 : na = 0 := by rw [hna, hA]; rfl
          subst hQA
          clear hA hna
          have da : decide ((0 : Int) < ((na : Nat) : Int)) = false := by rw [hna0]; rfl
          have da2 : decide (0 < na) = false := by rw [hna0]; rfl
          clear hna0
          go_wp2
          go_quiet (fail)
          clear k0 k1 k2 k3 k4 k5 k6
          have G1 := Lib.hid (grown_drewN GL.out nq)
          obtain ⟨g', o', e, k0, k1, k2, k3, k4, k5, k6⟩ := (EB.out.grown G1.out).head
          injection e with e
          injection e with e1 e2 _
          subst e1 e2
          obtain ⟨W1, hW1⟩ : ∃ W1, wr.drewN nq = W1 := ⟨_, rfl⟩
          rw [hW1] at k0 k1 k2 k3 k4 k5 k6 G1 ⊢
          have OD := Lib.hid (show W1.ownsRow wc.heap.size 38 7 (.slice qo (List.length O) co) (List.length O) (O.flatMap outCs) from by rw [← hW1]; exact own_grown OO.out (grown_drewN (grown_refl wr none) nq))
          clear hW1
          have g2 := grown1 W1 (.cells #[.string (strOfNums b.1), .int .i64 b.2.kind, .bool b.2.weak, .int .u64 b.2.value, .int .u64 b.2.resolver, .int .u64 b.2.ordinal, .string (strOfNums b.2.other)] 38)
          have O2 := Lib.hid (own_grown OD.out g2)
          have N2 := Lib.hid (heap_alloc_new W1 (.cells #[.string (strOfNums b.1), .int .i64 b.2.kind, .bool b.2.weak, .int .u64 b.2.value, .int .u64 b.2.resolver, .int .u64 b.2.ordinal, .string (strOfNums b.2.other)] 38))
          have G2 := Lib.hid (grown_trans G1.out g2)
          obtain ⟨V2, hV2, hVE2⟩ := exs_lo gb ob (nb + 1) cb 1 (by omega) (by omega)
          have HV2 : ∀ W, (Instr.slice 22 (.slice (some ⟨gb, ob, none⟩) (nb + 1) cb) (some (.int .i64 1)) none none).run Try.prog W = .ok (.slice V2 nb (cb - 1)) W := fun W => by have h := hV2 W; rw [show nb + 1 - 1 = nb by omega] at h; exact h
          have EV2 := Lib.hid (show ExsAt wc V2 B' from hVE2 wc (b :: B') (by rw [List.length_cons, NB.out]) EB.out)
          have hON : (O.length + 1) * 72 ≤ 140737488355328 := by omega
          clear hV2 hVE2 g2
          go_wp2_with (at_builtin; refine wp_append_sta exType rfl _ _ rfl _ (List.length O) _ rfl O2.out [.string (strOfNums b.1), .int .i64 b.2.kind, .bool b.2.weak, .int .u64 b.2.value, .int .u64 b.2.resolver, .int .u64 b.2.ordinal, .string (strOfNums b.2.other)] rfl W1.heap.size rfl N2.out (exCs_one (strOfNums b.1) b.2) hON (by decide) G2.out.size ?_)
          intro v' w5 ho5 hg5 hv5
          have G5 := Lib.hid (grown_opt G2.out hg5 (fun g e => (O2.out.lt g e).1))
          have O5 := Lib.hid (show w5.ownsRow wc.heap.size 38 7 v' (O ++ [b]).length ((O ++ [b]).flatMap outCs) from by rw [List.length_append, List.length_singleton, List.flatMap_append, List.flatMap_singleton]; exact ho5)
          clear ho5 hg5 hv5 k0 k1 k2 k3 k4 k5 k6
          go_wp2
          go_roundw
          case rel => exact ⟨⟨A, _, ca, B', V2, cb - 1, O ++ [b], by rw [← NA.out], by rw [← NB.out], by rw [← NA.out]; omega, by rw [← NB.out]; omega, by omega, by omega, EA.out, EV2.out, O5.out, by have h := PM.out; refine List.Perm.trans ?_ h; rw [List.append_assoc]; exact List.Perm.append_left O (List.perm_middle (l₁ := A) (a := b) (l₂ := B')).symm, (srt_step SB.out SA.out HLE.out).2, (srt_step SB.out SA.out HLE.out).1⟩, G5.out⟩
          case measure => simp [slN]
        | cons a A' =>
          have EA1 := Lib.hid (show ExsAt wc qa (a :: A') from hA ▸ EA.out)
          obtain ⟨ga, oa, hqa, j0, j1, j2, j3, j4, j5, j6⟩ := (EA1.out.grown GL.out).head
          have hna0 : 1 ≤ na := by rw [hna, hA]; simp
          have da : decide ((0 : Int) < ((na : Nat) : Int)) = true := by simp; omega
          have da2 : decide (0 < na) = true := by simp; omega
          have hcmp := le_is a.1 b.1
          have hnle := HLN.out a A' hA
          unfold leX at hnle
          rw [show nmLt (nums b.1) (nums a.1) = true by simpa using hnle] at hcmp
          obtain ⟨x, hx⟩ : ∃ x, Op.bytesLess (strOfNums a.1).toList (strOfNums b.1).toList = x := ⟨_, rfl⟩
          obtain ⟨y, hy⟩ : ∃ y, ((strOfNums a.1).toList == (strOfNums b.1).toList) = y := ⟨_, rfl⟩
          rw [hx, hy, Bool.not_true] at hcmp
          have HQA := Lib.hid hQA
          clear hA hna hQA hnle
          subst hqa
          go_wp2
          go_quiet (fail)
          clear k0 k1 k2 k3 k4 k5 k6 j0 j1 j2 j3 j4 j5 j6 hx hy hcmp
          have hQA := HQA.out
          subst hQA
          have G1 := Lib.hid (grown_drewN GL.out nq)
          obtain ⟨g', o', e, k0, k1, k2, k3, k4, k5, k6⟩ := (EB.out.grown G1.out).head
          injection e with e
          injection e with e1 e2 _
          subst e1 e2
          obtain ⟨W1, hW1⟩ : ∃ W1, wr.drewN nq = W1 := ⟨_, rfl⟩
          rw [hW1] at k0 k1 k2 k3 k4 k5 k6 G1 ⊢
          have OD := Lib.hid (show W1.ownsRow wc.heap.size 38 7 (.slice qo (List.length O) co) (List.length O) (O.flatMap outCs) from by rw [← hW1]; exact own_grown OO.out (grown_drewN (grown_refl wr none) nq))
          clear hW1
          have g2 := grown1 W1 (.cells #[.string (strOfNums b.1), .int .i64 b.2.kind, .bool b.2.weak, .int .u64 b.2.value, .int .u64 b.2.resolver, .int .u64 b.2.ordinal, .string (strOfNums b.2.other)] 38)
          have O2 := Lib.hid (own_grown OD.out g2)
          have N2 := Lib.hid (heap_alloc_new W1 (.cells #[.string (strOfNums b.1), .int .i64 b.2.kind, .bool b.2.weak, .int .u64 b.2.value, .int .u64 b.2.resolver, .int .u64 b.2.ordinal, .string (strOfNums b.2.other)] 38))
          have G2 := Lib.hid (grown_trans G1.out g2)
          obtain ⟨V2, hV2, hVE2⟩ := exs_lo gb ob (nb + 1) cb 1 (by omega) (by omega)
          have HV2 : ∀ W, (Instr.slice 22 (.slice (some ⟨gb, ob, none⟩) (nb + 1) cb) (some (.int .i64 1)) none none).run Try.prog W = .ok (.slice V2 nb (cb - 1)) W := fun W => by have h := hV2 W; rw [show nb + 1 - 1 = nb by omega] at h; exact h
          have EV2 := Lib.hid (show ExsAt wc V2 B' from hVE2 wc (b :: B') (by rw [List.length_cons, NB.out]) EB.out)
          have hON : (O.length + 1) * 72 ≤ 140737488355328 := by omega
          clear hV2 hVE2 g2
          go_wp2_with (at_builtin; refine wp_append_sta exType rfl _ _ rfl _ (List.length O) _ rfl O2.out [.string (strOfNums b.1), .int .i64 b.2.kind, .bool b.2.weak, .int .u64 b.2.value, .int .u64 b.2.resolver, .int .u64 b.2.ordinal, .string (strOfNums b.2.other)] rfl W1.heap.size rfl N2.out (exCs_one (strOfNums b.1) b.2) hON (by decide) G2.out.size ?_)
          intro v' w5 ho5 hg5 hv5
          have G5 := Lib.hid (grown_opt G2.out hg5 (fun g e => (O2.out.lt g e).1))
          have O5 := Lib.hid (show w5.ownsRow wc.heap.size 38 7 v' (O ++ [b]).length ((O ++ [b]).flatMap outCs) from by rw [List.length_append, List.length_singleton, List.flatMap_append, List.flatMap_singleton]; exact ho5)
          clear ho5 hg5 hv5 k0 k1 k2 k3 k4 k5 k6
          go_wp2
          go_roundw
          case rel => exact ⟨⟨A, _, ca, B', V2, cb - 1, O ++ [b], by rw [← NA.out], by rw [← NB.out], by rw [← NA.out]; omega, by rw [← NB.out]; omega, by omega, by omega, EA.out, EV2.out, O5.out, by have h := PM.out; refine List.Perm.trans ?_ h; rw [List.append_assoc]; exact List.Perm.append_left O (List.perm_middle (l₁ := A) (a := b) (l₂ := B')).symm, (srt_step SB.out SA.out HLE.out).2, (srt_step SB.out SA.out HLE.out).1⟩, G5.out⟩
          case measure => simp [slN]
end Go.Proofs.Ytbnnlbdjjpmgeaa


namespace Go.Proofs.Ytbnnlbdjjpmgeaa
open Go.RowKit Go.ChangeShapes Go.WideShapes Go.Deep
variable {w w' : World}

structure ExFits (nm : List Int) (x : Ex) : Prop where
  name : Byt nm
  len : nm.length ≤ 9223372036854775807
  other : Byt x.other
  olen : x.other.length ≤ 9223372036854775807
  kind : -9223372036854775808 ≤ x.kind ∧ x.kind ≤ 9223372036854775807
  value : 0 ≤ x.value ∧ x.value < 18446744073709551616
  resolver : 0 ≤ x.resolver ∧ x.resolver < 18446744073709551616
  ordinal : 0 ≤ x.ordinal ∧ x.ordinal < 18446744073709551616
set_option maxRecDepth 20000 in
theorem open_exc {H : Type} {enc : TypeId × Value → H} {base : Nat} {spare : Nat → Bool} {held : Bool} {fuel : Nat} {cs : List Value} {y : DataW H × List MemPlace}
    (hl : cs.length = 7) (h : DataW.trod enc Try.prog w base spare held fuel 38 cs = some y) : ∃ nm x, ExFits nm x ∧ cs = exCs (strOfNums nm) x := by
  obtain ⟨xs, n, _, _, _, hxl, hf⟩ := DataW.trod_struct Try.underlying38 h
  have q0 : Try.prog.cellsOf 9 = 1 := by kernel_rfl
  have q1 : Try.prog.cellsOf 35 = 1 := by kernel_rfl
  have q2 : Try.prog.cellsOf 4 = 1 := by kernel_rfl
  have q3 : Try.prog.cellsOf 36 = 1 := by kernel_rfl
  match cs, hl with
  | [c0, c1, c2, c3, c4, c5, c6], _ =>
    have g0 : DataW.trod enc Try.prog w base spare held n 9 (([c0, c1, c2, c3, c4, c5, c6].drop 0).take (Try.prog.cellsOf 9)) = xs[0]? := hf 0 _ rfl
    have g1 : DataW.trod enc Try.prog w base spare held n 35 (([c0, c1, c2, c3, c4, c5, c6].drop 1).take (Try.prog.cellsOf 35)) = xs[1]? := hf 1 _ rfl
    have g2 : DataW.trod enc Try.prog w base spare held n 4 (([c0, c1, c2, c3, c4, c5, c6].drop 2).take (Try.prog.cellsOf 4)) = xs[2]? := hf 2 _ rfl
    have g3 : DataW.trod enc Try.prog w base spare held n 36 (([c0, c1, c2, c3, c4, c5, c6].drop 3).take (Try.prog.cellsOf 36)) = xs[3]? := hf 3 _ rfl
    have g4 : DataW.trod enc Try.prog w base spare held n 36 (([c0, c1, c2, c3, c4, c5, c6].drop 4).take (Try.prog.cellsOf 36)) = xs[4]? := hf 4 _ rfl
    have g5 : DataW.trod enc Try.prog w base spare held n 36 (([c0, c1, c2, c3, c4, c5, c6].drop 5).take (Try.prog.cellsOf 36)) = xs[5]? := hf 5 _ rfl
    have g6 : DataW.trod enc Try.prog w base spare held n 9 (([c0, c1, c2, c3, c4, c5, c6].drop 6).take (Try.prog.cellsOf 9)) = xs[6]? := hf 6 _ rfl
    have lx : xs.length = 7 := hxl
    rw [List.getElem?_eq_getElem (by omega)] at g0 g1 g2 g3 g4 g5 g6
    rw [q0] at g0 g6
    rw [q1] at g1
    rw [q2] at g2
    rw [q3] at g3 g4 g5
    obtain ⟨s0, e0, _, l0⟩ := DataW.trod_string Try.underlying9 g0
    obtain ⟨n1, e1, _, w1⟩ := DataW.trod_int Try.underlying35 g1
    obtain ⟨b2, e2, _⟩ := DataW.trod_bool Try.underlying4 g2
    obtain ⟨n3, e3, _, w3⟩ := DataW.trod_int Try.underlying36 g3
    obtain ⟨n4, e4, _, w4⟩ := DataW.trod_int Try.underlying36 g4
    obtain ⟨n5, e5, _, w5⟩ := DataW.trod_int Try.underlying36 g5
    obtain ⟨s6, e6, _, l6⟩ := DataW.trod_string Try.underlying9 g6
    simp at e0 e1 e2 e3 e4 e5 e6
    subst e0 e1 e2 e3 e4 e5 e6
    obtain ⟨t0, b0, m0, rfl⟩ := ex_text s0 l0
    obtain ⟨t6, b6, m6, rfl⟩ := ex_text s6 l6
    exact ⟨t0, ⟨n1, b2, n3, n4, n5, t6⟩, ⟨b0, m0, b6, m6, i64_range w1, u64_range w3, u64_range w4, u64_range w5⟩, rfl⟩
end Go.Proofs.Ytbnnlbdjjpmgeaa


namespace Go.Proofs.Ytbnnlbdjjpmgeaa
open Go.RowKit Go.ChangeShapes Go.WideShapes Go.Deep
variable {w w' : World}

set_option maxRecDepth 20000 in
theorem open_exs {H : Type} {enc : TypeId × Value → H} {base : Nat} {held : Bool} {fuel : Nat} {x : DataW H × List MemPlace} {a : Option Addr} {len cap : Nat}
    (h : DataW.trod enc Try.prog w base (fun _ => true) held fuel 22 [.slice a len cap] = some x) :
    ∃ D : Out, D.length = len ∧ ExsAt w a D ∧ (∀ y ∈ D, ExFits y.1 y.2) ∧ len ≤ cap ∧ cap ≤ 9223372036854775807 := by
  rcases open_slice Try.underlying22 h with ⟨e, _⟩ | ⟨a', len', cap', m, n, D, Pl, hcs, hb, hl, hm, hmm, hx, hi⟩
  · injection e with e
    injection e with e1 e2 e3
    subst e1 e2 e3
    exact ⟨[], rfl, ExsAt.nil, (fun s hs => by cases hs), Nat.le_refl _, by omega⟩
  · injection hcs with hcs
    injection hcs with e1 e2 e3
    subst e1 e2 e3
    simp only [if_true] at hmm
    subst hmm
    have hc7 : Try.prog.cellsOf 38 = 7 := by kernel_rfl
    obtain ⟨l, hll, hlp⟩ := list_ofE (([], Ex.zero) : List Int × Ex) len (fun i s => ExFits s.1 s.2 ∧ ∀ j, j < 7 → w.cell? (a'.add (i * 7 + j)) = (outCs s)[j]?) (fun i hil => by
      obtain ⟨cs', hc, ht⟩ := hi i (by omega)
      rw [hc7] at hc
      obtain ⟨_, hcl, hat⟩ := World.cells?_some hc
      obtain ⟨nm, y, hf, hcs⟩ := open_exc hcl ht
      refine ⟨(nm, y), hf, fun j hj => ?_⟩
      have := hat j hj
      rw [add_add] at this
      rw [this, hcs]
      rfl)
    refine ⟨l, hll, fun i y hy => ?_, fun y hy => ?_, hl, by unfold maxLen at hm; omega⟩
    · obtain ⟨hf, hc⟩ := hlp i y hy
      have h0 := hc 0 (by decide)
      obtain ⟨b, o, rfl⟩ : ∃ b o, a' = ⟨b, o, none⟩ := by
        have hz := (hlp 0 (l[0]'(by have := (List.getElem?_eq_some_iff.1 hy).1; omega)) (List.getElem?_eq_getElem _)).2 0 (by decide)
        rw [Nat.zero_mul, Nat.zero_add] at hz
        exact flat_of_cell (v := .string (strOfNums (l[0]'(by have := (List.getElem?_eq_some_iff.1 hy).1; omega)).1)) hz
      refine ⟨b, o, rfl, fun j hj => ?_⟩
      have := hc j hj
      rw [add_flat] at this
      rw [show o + i * 7 + j = o + (i * 7 + j) by omega]
      exact this
    · obtain ⟨i, hi2, rfl⟩ := List.getElem_of_mem hy
      exact (hlp i _ (List.getElem?_eq_getElem hi2)).1
end Go.Proofs.Ytbnnlbdjjpmgeaa


namespace Go.Proofs.Ytbnnlbdjjpmgeaa
open Go.RowKit
variable {w w' W V : World} {xs : List Int}

def textM (t : List Int) : Bool := decide (t.length ≤ 255) && decide ((0 : Int) ∉ t)
theorem textMay_any {t : List Int} (ht : Byt t) (hl : t.length ≤ 9223372036854775807) (w : World) :
    Calls Try.prog 32 #[.string (strOfNums t)] w fun e w' => e = .returned (.bool (textM t)) ∧ w' = w := by
  have hst : (strOfNums t).size = t.length := strOfNums_size _
  have IB := Lib.hid (Try.strings_IndexByte (strOfNums t) 0 w)
  rw [show (strOfNums t).data.toList = Lib.bytesOf t from strOfNums_data t, show (0 : Int).toNat.toUInt8 = 0 from rfl] at IB
  have HI := index0 ht
  unfold textM
  rw [← HI]
  generalize Lib.indexByte (Lib.bytesOf t) 0 = r at *
  clear HI ht
  by_cases h : t.length ≤ 255
  · have hd : decide ((t.length : Int) ≤ 255) = true := by simp; omega
    rw [decide_eq_true h]
    go_enter Try.func32, Try.ntmps32
    go_wp2_with (refine IB.out.mono ?_; rintro e w' ⟨rfl, rfl⟩)
    go_ret
    exact ⟨rfl, rfl⟩
  · have hd : decide ((t.length : Int) ≤ 255) = false := by simp; omega
    rw [decide_eq_false h]
    go_enter Try.func32, Try.ntmps32
    go_wp2
    go_ret
    exact ⟨rfl, rfl⟩
set_option maxRecDepth 20000 in
theorem refTextMay_any {t : List Int} (ht : Byt t) (hl : t.length ≤ 9223372036854775807) (n : Nat) (w : World) :
    Calls Try.prog 42 #[.string (strOfNums t), .int .i64 n] w fun e w' => e = .returned (.bool (decide (n ≤ t.length) && textM t)) ∧ w.grownBy w' none := by
  have hst : (strOfNums t).size = t.length := strOfNums_size _
  have PS := pre_self t
  unfold textM
  rw [← PS]
  by_cases h0 : n ≤ t.length
  · have hd0 : decide ((n : Int) ≤ (t.length : Int)) = true := by simp; omega
    rw [decide_eq_true h0]
    by_cases h : t.length ≤ 255
    · have hd : decide ((t.length : Int) ≤ 255) = true := by simp; omega
      rw [decide_eq_true h]
      have CV := Lib.run_convert_string_bytes (P := Try.prog) w 9 25 5 (strOfNums t) Try.underlying9 Try.underlying25 Try.underlying5
      have GB := Lib.hid (turned_grown w 5 (strOfNums t))
      have NM := Lib.hid (name01_any w.heap.size 0 _ _ t (bytes_there w 5 ht _) rfl (show t.length ≤ 140737488355328 by omega) (grownCap_ge w t.length 0 5))
      rw [hst] at CV
      have HN : ((strOfNums (pre t)).toList == (strOfNums t).toList) = decide (pre t = t) := text_same (pre_bytes ht) ht
      go_enter Try.func42, Try.ntmps42
      go_wp2_with (refine NM.out.mono ?_; rintro e w' ⟨rfl, rfl⟩)
      go_ret
      exact ⟨by rw [PS]; simp, GB.out⟩
    · have hd : decide ((t.length : Int) ≤ 255) = false := by simp; omega
      rw [decide_eq_false h]
      go_enter Try.func42, Try.ntmps42
      go_wp2
      go_ret
      exact ⟨rfl, grown_refl _ _⟩
  · have hd0 : decide ((n : Int) ≤ (t.length : Int)) = false := by simp; omega
    rw [decide_eq_false h0]
    go_enter Try.func42, Try.ntmps42
    go_wp2
    go_ret
    exact ⟨rfl, grown_refl _ _⟩
end Go.Proofs.Ytbnnlbdjjpmgeaa


namespace Go.Proofs.Ytbnnlbdjjpmgeaa
open Go.RowKit
variable {w w' W V : World} {xs : List Int}

def kindM (x : Ex) : Bool :=
  if x.kind = 1 ∨ x.kind = 2 then decide (x.resolver = 0) && decide (x.ordinal = 0) && decide (x.other = [])
  else if x.kind = 3 then decide (x.value = 0) && decide (x.resolver = 0)
  else if x.kind = 4 then decide (x.ordinal = 0) && decide (x.other = [])
  else false
def mayE (nm : List Int) (x : Ex) : Bool := !decide (nm = []) && textM nm && textM x.other && kindM x
set_option maxRecDepth 20000 in
set_option maxHeartbeats 1600000 in
theorem May_any {nm : List Int} {x : Ex} (hn : Byt nm) (ho : Byt x.other) (hl : nm.length ≤ 9223372036854775807) (hl2 : x.other.length ≤ 9223372036854775807) (w : World) :
    Calls Try.prog 14 #[exV (strOfNums nm) x] w fun e w' => e = .returned (.bool (mayE nm x)) ∧ w.grownBy w' none := by
  have TN := Lib.hid (fun W => textMay_any hn hl W)
  have TO := Lib.hid (fun W => textMay_any ho hl2 W)
  have n1 := text_nil nm
  have n2 := text_nil x.other
  have E3 : ExAt (w.alloc (.cells (exArr (strOfNums nm) x) 38)) w.heap.size (strOfNums nm) x := heap_alloc_new w _
  obtain ⟨c0, c1, c2, c3, c4, c5, c6⟩ := E3.c
  clear E3
  obtain ⟨r, hr⟩ : ∃ r, r = mayE nm x := ⟨_, rfl⟩
  rw [← hr]
  unfold mayE kindM at hr
  generalize textM nm = M at *
  generalize textM x.other = O at *
  obtain ⟨kind, weak, value, resolver, ordinal, other⟩ := x
  simp only [exV, exArr] at *
  have HR := Lib.hid hr
  clear hr ho hn
  cases M <;> cases O <;> (
    go_enter Try.func14, Try.ntmps14
    go_wp2_with (first
      | (with_reducible refine (TN.out _).mono ?_; rintro e w' ⟨rfl, rfl⟩)
      | (with_reducible refine (TO.out _).mono ?_; rintro e w' ⟨rfl, rfl⟩)))
  all_goals (go_ret; refine ⟨?_, grown1 _ _⟩; have hr := HR.out; clear HR TN TO; simp_all)
  all_goals rfl
set_option maxRecDepth 20000 in
set_option maxHeartbeats 1600000 in
theorem refMay_any {nm : List Int} {x : Ex} (hn : Byt nm) (ho : Byt x.other) (hl : nm.length ≤ 9223372036854775807) (hl2 : x.other.length ≤ 9223372036854775807) (w : World) :
    Calls Try.prog 21 #[exV (strOfNums nm) x] w fun e w' => e = .returned (.bool (mayE nm x)) ∧ w.grownBy w' none := by
  have TN := Lib.hid (fun W => refTextMay_any hn hl 1 W)
  have TO := Lib.hid (fun W => refTextMay_any ho hl2 0 W)
  have n1 : decide (1 ≤ nm.length) = !decide (nm = []) := by cases nm <;> simp
  have n2 := text_nil x.other
  rw [n1] at TN
  rw [show decide (0 ≤ x.other.length) = true from rfl, Bool.true_and] at TO
  have g1 := grown1 w (.cells (exArr (strOfNums nm) x) 38)
  have E3 : ExAt (w.alloc (.cells (exArr (strOfNums nm) x) 38)) w.heap.size (strOfNums nm) x := heap_alloc_new w _
  obtain ⟨c0, c1, c2, c3, c4, c5, c6⟩ := E3.c
  obtain ⟨r, hr⟩ : ∃ r, r = mayE nm x := ⟨_, rfl⟩
  rw [← hr]
  unfold mayE kindM at hr
  generalize (!decide (nm = []) && textM nm) = M at *
  generalize textM x.other = O at *
  have HE := Lib.hid E3
  have HG := Lib.hid g1
  clear g1 E3 n1
  obtain ⟨kind, weak, value, resolver, ordinal, other⟩ := x
  simp only [exV, exArr] at *
  have HR := Lib.hid hr
  clear hr ho hn
  cases M
  · go_enter Try.func21, Try.ntmps21
    go_wp2_with fail
    refine (TN.out _).mono ?_
    rintro e w1 ⟨rfl, hg1⟩
    have G1 := Lib.hid (grown_trans HG.out hg1)
    clear hg1
    go_wp2
    go_ret
    exact ⟨by rw [HR.out]; rfl, G1.out⟩
  · go_enter Try.func21, Try.ntmps21
    go_wp2_with fail
    refine (TN.out _).mono ?_
    rintro e w1 ⟨rfl, hg1⟩
    have E1 := HE.out.kept hg1 (by simp)
    obtain ⟨c0, c1, c2, c3, c4, c5, c6⟩ := E1.c
    have H1 := Lib.hid E1
    have G1 := Lib.hid (grown_trans HG.out hg1)
    clear hg1 E1
    go_wp2_with fail
    refine (TO.out _).mono ?_
    rintro e w2 ⟨rfl, hg2⟩
    have E2 := H1.out.kept hg2 (by simp)
    obtain ⟨c0, c1, c2, c3, c4, c5, c6⟩ := E2.c
    have G2 := Lib.hid (grown_trans G1.out hg2)
    clear hg2 E2
    cases O
    all_goals go_wp2
    all_goals (go_ret; refine ⟨?_, G2.out⟩; have hr := HR.out; clear HR TN TO G1 G2 HE HG H1; simp_all)
    all_goals rfl
end Go.Proofs.Ytbnnlbdjjpmgeaa


namespace Go.Proofs.Ytbnnlbdjjpmgeaa
open Go.RowKit
variable {w : World}

def encU (n : Nat) : List Int := if n < 128 then [(n : Int)] else (((n % 128 : Nat) : Int) + 128) :: encU (n / 128)
termination_by n
decreasing_by omega
theorem encU_small {n : Nat} (h : n < 128) : encU n = [(n : Int)] := by rw [encU, if_pos h]
theorem encU_big {n : Nat} (h : ¬ n < 128) : encU n = (((n % 128 : Nat) : Int) + 128) :: encU (n / 128) := by rw [encU, if_neg h]
theorem putclo_any (bn m : Nat) (hb : w.heap[bn]? = some (.cells #[.int .u64 m] 36 (0, 0))) :
    Calls Try.prog 55 #[.pointer (some ⟨bn, 0, none⟩)] w fun e w' =>
      e = .returned (.tuple #[.int .u8 ((m % 128 : Nat) : Int), .bool (decide (m < 128))]) ∧ w'.heap[bn]? = some (.cells #[.int .u64 ((m / 128 : Nat) : Int)] 36 (0, 0)) ∧ w.grownBy w' (some bn) := by
  have c0 : w.cell? ⟨bn, 0, none⟩ = some (.int .u64 m) := by rw [cell_of hb]; rfl
  have f0 := free_of (i := 0) hb
  have hl : decide (m < 128) = ((m : Int) / 128 == 0) := by
    by_cases h : m < 128
    · rw [decide_eq_true h, Eq.comm, beq_iff_eq]; omega
    · rw [decide_eq_false h, Eq.comm, beq_eq_false_iff_ne]; omega
  rw [show ((m / 128 : Nat) : Int) = (m : Int) / 128 by omega, show ((m % 128 : Nat) : Int) = (m : Int) % 128 by omega, hl]
  have E := Lib.hid (And.intro (block_setCell hb (.int .u64 ((m : Int) / 128))) (grown_setCell (i := 0) (grown_refl w (some bn)) (.int .u64 ((m : Int) / 128))))
  clear hl hb
  go_enter Try.func55, Try.ntmps55
  go_wp2
  go_quiet (fail)
  go_wp2
  go_ret2
  exact ⟨rfl, E.out.1, grown_drewN E.out.2 _⟩
end Go.Proofs.Ytbnnlbdjjpmgeaa

