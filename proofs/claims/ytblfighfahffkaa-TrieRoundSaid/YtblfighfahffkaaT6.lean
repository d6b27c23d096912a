import Derived.Test.YtblfighfahffkaaT5
import Derived.RegionTactic
import Derived.Test.YtblfighfahffkaaT4
import Derived.Deep.QuietTactic
import Derived.Test.YtblfighfahffkaaT2
import Derived.Deep.LoopGhost
import Derived.Test.YtblfighfahffkaaT3
import Derived.StillTailTactics
import Derived.BigQuiet
/- What trie.Find is told of each node, and what it answers. Conditions: the bytes, and the name's, lie in memory. -/
namespace Go.Proofs.Ytblfighfahffkaa
open Go.RowKit
variable {w w' W V : World} {xs : List Int}

def InvFind (cn co : Nat) (t : List Int) (W : World) (G : Nat → Prop) (own : Option Ex) : Prop :=
  OneAt W cn (.string (strOfNums t)) 9 ∧ (∃ q n c, NodeAt W co own.isSome (nmOf (strOfNums t) own) (exOf own) (.slice q n c)) ∧ G cn ∧ G co
theorem invFind_kept {cn co : Nat} {t : List Int} {G H : Nat → Prop} {own : Option Ex} (h : InvFind cn co t W G own) (hg : Chg H W V) (hd : ∀ k, G k → ¬ H k) : InvFind cn co t V G own := by
  obtain ⟨h1, ⟨q, n, c, h2⟩, h3, h4⟩ := h
  exact ⟨h1.chg hg (hd _ h3), ⟨q, n, c, (hg.block co (lt_of_block h2) (hd _ h4)).trans h2⟩, h3, h4⟩

theorem NodeAt.putAny {g0 : Nat} {b0 : Bool} {nm0 : ByteArray} {x0 : Ex} {v0 : Value} (h : NodeAt W g0 b0 nm0 x0 v0) (b : Bool) (nm' : ByteArray) (y : Ex) (v' : Value) :
    NodeAt (((((((((W.setCell ⟨g0, 0, none⟩ (.bool b)).setCell ⟨g0, 1, none⟩ (.string nm')).setCell ⟨g0, 2, none⟩ (.int .i64 y.kind)).setCell ⟨g0, 3, none⟩ (.bool y.weak)).setCell ⟨g0, 4, none⟩ (.int .u64 y.value)).setCell ⟨g0, 5, none⟩ (.int .u64 y.resolver)).setCell ⟨g0, 6, none⟩ (.int .u64 y.ordinal)).setCell ⟨g0, 7, none⟩ (.string (strOfNums y.other))).setCell ⟨g0, 8, none⟩ v') g0 b nm' y v' :=
  ((((((((h.s0 b).s1 nm').s2 y.kind).s3 y.weak).s4 y.value).s5 y.resolver).s6 y.ordinal).s7 y.other).kids v'
set_option maxRecDepth 20000 in
set_option maxHeartbeats 3200000 in
theorem find1_any {cn co : Nat} {t : List Int} (ht : Byt t) {G : Nat → Prop} {own : Option Ex} {name : List Int} {nd : Nd} {v : Value} {base : Nat} (h : InvFind cn co t W G own) (hp : ∃ rest, t = name ++ rest) (hk : NdOk nd) (ho : W.ownsRow base 92 2 v nd.kids.length (nd.kids.flatMap kidCs)) (hv : ∀ g, v.ownBlock = some g → ¬ G g) (hG : ∀ k, G k → k < W.heap.size) :
    Calls Try.prog 25 #[.string (strOfNums name), nodeV nd.ex.isSome (nmOf (strOfNums name) nd.ex) (exOf nd.ex) v, .pointer (some ⟨cn, 0, none⟩), .pointer (some ⟨co, 0, none⟩)] W fun e W' => MOut (Option Ex) (mtFind t) (InvFind cn co t) own name nd v G W W' e := by
  obtain ⟨q, c, rfl⟩ := own_slice ho
  obtain ⟨o1, ⟨qo, no, co', n1⟩, a3, a4⟩ := h
  obtain ⟨rest, hrest⟩ := hp
  have hkl : nd.kids.length ≤ 255 := hk.few
  have hrm := own_room8 ho
  have hc63 : c ≤ 9223372036854775807 := by
    rcases ho.2 with ⟨hn, _⟩ | ⟨g, cp, cur, hn, _, _, _, hm, _⟩
    · injection hn with _ _ e; omega
    · injection hn with _ _ e; unfold maxLen at hm; omega
  have hdrop : t.drop name.length = rest := by rw [hrest]; simp
  have hl1 : name.length + rest.length = t.length := by rw [hrest, List.length_append]
  have CUT := Lib.hid (show (strOfNums t).extract name.length t.length = strOfNums rest by rw [strOf_cut, List.take_length, hdrop])
  have hcut := CUT.out
  have st : (strOfNums t).size = t.length := strOfNums_size _
  have sn : (strOfNums name).size = name.length := strOfNums_size _
  have hnl : name.length ≤ t.length := by omega
  have g1 := grown1 W (.cells #[.bool nd.ex.isSome, .string (nmOf (strOfNums name) nd.ex), .int .i64 (exOf nd.ex).kind, .bool (exOf nd.ex).weak, .int .u64 (exOf nd.ex).value, .int .u64 (exOf nd.ex).resolver, .int .u64 (exOf nd.ex).ordinal, .string (strOfNums (exOf nd.ex).other), .slice q nd.kids.length c] 53)
  have N1 := Lib.hid (show NodeAt (W.alloc (.cells #[.bool nd.ex.isSome, .string (nmOf (strOfNums name) nd.ex), .int .i64 (exOf nd.ex).kind, .bool (exOf nd.ex).weak, .int .u64 (exOf nd.ex).value, .int .u64 (exOf nd.ex).resolver, .int .u64 (exOf nd.ex).ordinal, .string (strOfNums (exOf nd.ex).other), .slice q nd.kids.length c] 53)) W.heap.size nd.ex.isSome (nmOf (strOfNums name) nd.ex) (exOf nd.ex) (.slice q nd.kids.length c) from heap_alloc_new W _)
  obtain ⟨W1, hW1⟩ : ∃ W1, W.alloc (.cells #[.bool nd.ex.isSome, .string (nmOf (strOfNums name) nd.ex), .int .i64 (exOf nd.ex).kind, .bool (exOf nd.ex).weak, .int .u64 (exOf nd.ex).value, .int .u64 (exOf nd.ex).resolver, .int .u64 (exOf nd.ex).ordinal, .string (strOfNums (exOf nd.ex).other), .slice q nd.kids.length c] 53) = W1 := ⟨_, rfl⟩
  obtain ⟨gn, hgn⟩ : ∃ gn, W.heap.size = gn := ⟨_, rfl⟩
  rw [hW1] at g1 N1
  rw [hgn] at N1
  have O1 := Lib.hid (o1.grown g1)
  have M1 := Lib.hid (n1.kept g1 (by simp))
  have KS1 := Lib.hid (own_grown ho g1)
  have C1 := Lib.hid (show Chg G W W1 from Chg.of_grown g1 (fun b e => by cases e))
  have AG := Lib.hid (And.intro a3 a4)
  have HV := Lib.hid hv
  have HK := Lib.hid (And.intro hrm (And.intro hc63 hk))
  have HG := Lib.hid hG
  have HW1 := Lib.hid hW1
  have HGN := Lib.hid hgn
  have HT := Lib.hid (And.intro ht (And.intro hrest hdrop))
  have c0 := (o1.grown g1).c
  have cl := (o1.grown g1).lt
  clear o1 n1 a3 a4 g1 ho hv hk hG hW1 hgn hrest hdrop ht CUT
  unfold nodeV
  go_enter Try.func25, Try.ntmps25
  go_upto_region 1 with fail
  rw [HW1.out, HGN.out]
  clear HW1
  obtain ⟨d0, d1, d2, d3, d4, d5, d6, d7, d8⟩ := N1.out.c
  have dl := N1.out.lt
  by_cases hr : rest = []
  · have he : (strOfNums rest).toList.isEmpty = true := by rw [hr, Lib.strOfNums_toList]; rfl
    have eM : mtFind t own name nd = (nd.ex, [], 0) := if_pos (by rw [HT.out.2.2, hr])
    have eN : nmOf (strOfNums name) nd.ex = nmOf (strOfNums t) nd.ex := by rw [HT.out.2.1, hr, List.append_nil]
    have GP := grown_put9 (grown_refl W1 (some co)) (.bool nd.ex.isSome) (.string (nmOf (strOfNums name) nd.ex)) (.int .i64 (exOf nd.ex).kind) (.bool (exOf nd.ex).weak) (.int .u64 (exOf nd.ex).value) (.int .u64 (exOf nd.ex).resolver) (.int .u64 (exOf nd.ex).ordinal) (.string (strOfNums (exOf nd.ex).other)) (.slice q nd.kids.length c)
    have PUT := M1.out.putAny nd.ex.isSome (nmOf (strOfNums name) nd.ex) (exOf nd.ex) (.slice q nd.kids.length c)
    have hne : (some co : Option Nat) ≠ some cn := by
      intro e
      injection e with e
      have h1 := O1.out
      have h2 := M1.out
      unfold OneAt at h1
      unfold NodeAt at h2
      rw [← e, h2] at h1
      injection h1 with h1
      injection h1 with _ h1 _
      exact absurd h1 (by decide)
    obtain ⟨Wp, hWp⟩ : ∃ Wp, ((((((((W1.setCell ⟨co, 0, none⟩ (.bool nd.ex.isSome)).setCell ⟨co, 1, none⟩ (.string (nmOf (strOfNums name) nd.ex))).setCell ⟨co, 2, none⟩ (.int .i64 (exOf nd.ex).kind)).setCell ⟨co, 3, none⟩ (.bool (exOf nd.ex).weak)).setCell ⟨co, 4, none⟩ (.int .u64 (exOf nd.ex).value)).setCell ⟨co, 5, none⟩ (.int .u64 (exOf nd.ex).resolver)).setCell ⟨co, 6, none⟩ (.int .u64 (exOf nd.ex).ordinal)).setCell ⟨co, 7, none⟩ (.string (strOfNums (exOf nd.ex).other))).setCell ⟨co, 8, none⟩ (.slice q nd.kids.length c) = Wp := ⟨_, rfl⟩
    rw [hWp] at GP PUT
    rw [eN] at PUT
    have i1 : InvFind cn co t Wp G nd.ex := ⟨O1.out.kept GP hne, ⟨_, _, _, PUT⟩, AG.out⟩
    have ch : Chg G W Wp := C1.out.trans (Chg.of_grown GP (fun b e => by injection e with e; exact .inl (e ▸ AG.out.2)))
    have FN := Lib.hid (show MOut (Option Ex) (mtFind t) (InvFind cn co t) own name nd (.slice q nd.kids.length c) G W Wp (.returned (.tuple #[.slice none 0 0, .int .i64 0])) from
      { ex := ⟨none, 0, G, by rw [eM]; rfl, by rw [eM]; exact i1, fun k hk => .inl hk, by rw [eM]; exact KidsAt.nil, fun g o e => (by cases e), by rw [eM]; exact Nat.le_refl _, by decide⟩, chg := ch })
    have HWp := Lib.hid hWp
    clear i1 ch hWp
    obtain ⟨e0, e1, e2, e3, e4, e5, e6, e7, e8⟩ := M1.out.c
    have ef := M1.out.fz
    have el := M1.out.lt
    clear hr eM eN GP PUT hne
    go_upto_region 4 with fail
    rw [HWp.out]
    clear HWp e0 e1 e2 e3 e4 e5 e6 e7 e8 ef el
    go_wp2
    go_ret2
    exact FN.out
  · have he : (strOfNums rest).toList.isEmpty = false := by
      rw [Lib.strOfNums_toList]
      cases rest with
      | nil => exact absurd rfl hr
      | cons => rfl
    have eM : mtFind t own name nd = (own, leadN nd.kids rest, 0) := by
      have e : mtFind t own name nd = (own, leadN nd.kids (t.drop name.length), 0) := if_neg (by rw [HT.out.2.2]; exact hr)
      rw [e, HT.out.2.2]
    have hbr : Byt rest := by
      have := HT.out.1
      rw [HT.out.2.1] at this
      exact fun x hx => this x (List.mem_append_right _ hx)
    have LE := Lib.hid (leading_any (w := W1) nd.kids nd.kids.length rfl q c hrm hc63 (KidsAt.of KS1.out) rest hbr (fun k hk => (HK.out.2.2.kids.each k hk).byt))
    have EM := Lib.hid eM
    clear hr hbr eM
    go_wp2_with fail
    refine LE.out.mono ?_
    rintro e W2 ⟨⟨q', c', rfl, hks, hq, hlc, hc2⟩, hg⟩
    have FN := Lib.hid (show MOut (Option Ex) (mtFind t) (InvFind cn co t) own name nd (.slice q nd.kids.length c) G W W2 (.returned (.tuple #[.slice q' (leadN nd.kids rest).length c', .int .i64 0])) from
      ⟨⟨q', c', G, by rw [EM.out], by rw [EM.out]; exact ⟨O1.out.grown hg, ⟨_, _, _, M1.out.kept hg (by simp)⟩, AG.out⟩, fun k hk => .inl hk, by rw [EM.out]; exact hks.grown hg, fun g o e => by
        obtain ⟨o', e'⟩ := hq g o e
        rw [e']; rfl, by rw [EM.out]; exact hlc, hc2⟩, C1.out.trans (Chg.of_grown hg (fun b e => by cases e))⟩)
    clear hks hq hlc hc2 hg
    go_wp2
    go_ret2
    exact FN.out
theorem findMeet (cn co : Nat) {t : List Int} (ht : Byt t) : MeetOk (Option Ex) 25 #[.pointer (some ⟨cn, 0, none⟩), .pointer (some ⟨co, 0, none⟩)] (mtFind t) (fun name => ∃ rest, t = name ++ rest) (fun _ => True) (InvFind cn co t) where
  enters := enters_of Try.func25 (by kernel_rfl) rfl
  kept := fun W V G s H h hg hd => invFind_kept h hg hd
  sub := fun s name nd x hx => by
    unfold mtFind at hx
    split at hx
    · cases hx
    · simp only [leadN] at hx
      split at hx
      · cases hx
      · rename_i k hk
        rw [List.mem_singleton.1 hx]
        exact List.mem_of_find?_eq_some hk
  pre := fun s name nd ⟨rest, hr⟩ x hx => by
    unfold mtFind at hx
    split at hx
    · cases hx
    · simp only [leadN] at hx
      split at hx
      · cases hx
      · rename_i k hk
        rw [List.mem_singleton.1 hx]
        obtain ⟨r2, h2⟩ := pfx_iff.1 (List.find?_some (p := fun k : Kid => pfx k.1 (t.drop name.length)) hk)
        have hd : t.drop name.length = rest := by rw [hr]; simp
        rw [hd] at h2
        exact ⟨r2, by rw [hr, h2, List.append_assoc]⟩
  next := fun _ _ _ _ _ => trivial
  stop := fun s name nd he => by
    unfold mtFind at he
    split at he <;> exact absurd rfl he
  call := fun W G s name nd v base h _ hp _ hk ho hv hG => find1_any ht h hp hk ho hv hG

def findW (xs t : List Int) : Int × Option Ex := if 255 < t.length then (10, none) else walkN xs (mtFind t) none
structure FiOut (w w' : World) (xs t : List Int) (e : Ending) : Prop where
  ret : e = .returned (.tuple #[exV (nmOf (strOfNums t) (findW xs t).2) (exOf (findW xs t).2), .bool (findW xs t).2.isSome, .int .i64 (findW xs t).1])
  grown : w.grownBy w' none
theorem results_ex3 {fn : Func} {p u v : Tmp} {g : Nat} {nm : ByteArray} {x : Ex} (hr : fn.results = #[.cell p 33, .tmp u, .tmp v]) {tmps : Array Value} {y z : Value} (hp : tmps.getD p undef = .pointer (some ⟨g, 0, none⟩)) (hu : tmps.getD u undef = y) (hv : tmps.getD v undef = z) (h : ExAt w g nm x) :
    (results fn tmps).run Try.prog w = .ok (.tuple #[exV nm x, y, z]) w := by
  have e : (asAddr (.pointer (some ⟨g, 0, none⟩)) : Sem Addr).run Try.prog w = .ok ⟨g, 0, none⟩ w := rfl
  simp only [Array.getD_eq_getD_getElem?] at hp hu hv
  simp only [results, hr]
  simp [Sem.run_bind, Result.andThen, hp, hu, hv, e, load_ex h]
theorem ExAt.drewF {g : Nat} {nm : ByteArray} {x : Ex} (h : ExAt W g nm x) : ExAt W.drew g nm x := h

set_option maxRecDepth 20000 in
set_option maxHeartbeats 3200000 in
theorem Find_any {q : Option Addr} {c n : Nat} (h : IsBytes w q c xs) (hn : xs.length = n) (hb : Byt xs) (hc : n ≤ c) (hcm : c ≤ 9223372036854775807) (hbig : n ≤ 140737488355328) (t : List Int) (ht : Byt t) (htl : t.length ≤ 9223372036854775807) :
    Calls Try.prog 11 #[.slice q n c, .string (strOfNums t)] w fun e w' => FiOut w w' xs t e := by
  have g1 := grown1 w (.cells #[.string (strOfNums t)] 9)
  have o1 := OneAt.new w (.string (strOfNums t)) 9
  obtain ⟨w1, hw1⟩ : ∃ w1, w.alloc (.cells #[.string (strOfNums t)] 9) = w1 := ⟨_, rfl⟩
  obtain ⟨cn, hcn⟩ : ∃ cn, w.heap.size = cn := ⟨_, rfl⟩
  rw [hw1] at g1 o1
  rw [hcn] at o1
  have g2 := grown1 w1 (.cells #[.string ⟨#[]⟩, .int .i64 0, .bool false, .int .u64 0, .int .u64 0, .int .u64 0, .string ⟨#[]⟩] 33)
  have r2 : ExAt (w1.alloc (.cells #[.string ⟨#[]⟩, .int .i64 0, .bool false, .int .u64 0, .int .u64 0, .int .u64 0, .string ⟨#[]⟩] 33)) w1.heap.size ⟨#[]⟩ Ex.zero := heap_alloc_new w1 _
  obtain ⟨w2, hw2⟩ : ∃ w2, w1.alloc (.cells #[.string ⟨#[]⟩, .int .i64 0, .bool false, .int .u64 0, .int .u64 0, .int .u64 0, .string ⟨#[]⟩] 33) = w2 := ⟨_, rfl⟩
  obtain ⟨g0, hg0⟩ : ∃ g0, w1.heap.size = g0 := ⟨_, rfl⟩
  have l1 := o1.lt
  have hcn1 : cn + 1 = g0 := by rw [← hg0, ← hw1, World.size_alloc, hcn]
  rw [hw2] at g2 r2
  rw [hg0] at r2 l1
  have O2 := Lib.hid (o1.grown g2)
  have R2 := Lib.hid r2
  have G2 := Lib.hid (grown_trans g1 g2)
  have HW := Lib.hid (And.intro hw1 (And.intro hcn (And.intro hw2 hcn1)))
  have hst : (strOfNums t).size = t.length := strOfNums_size _
  have HA := Lib.hid (And.intro h (And.intro hn (And.intro hb ht)))
  have BL := Lib.hid (And.intro (show w.heap.size ≤ g0 by have := g1.size; omega) (And.intro (show cn < g0 by omega) (show g0 < w2.heap.size from r2.lt)))
  have c2 := (o1.grown g2).c
  have cl2 := (o1.grown g2).lt
  clear g1 o1 g2 r2 l1 h hn hb ht hw1 hcn hw2 hg0 hcn1
  by_cases hl : 255 < t.length
  · have FW := Lib.hid (show findW xs t = (10, none) from if_pos hl)
    have dl : decide ((255 : Int) < (t.length : Int)) = true := by simp; omega
    obtain ⟨d0, d1, d2, d3, d4, d5, d6⟩ := R2.out.c
    have df := R2.out.fz
    have dll := R2.out.lt
    clear hl
    go_enter Try.func11, Try.ntmps11
    go_upto_region 1 with fail
    rw [HW.out.1, HW.out.2.1, HW.out.2.2.1, HW.out.2.2.2]
    go_wp2
    refine bodyPost_ret (results_ex3 rfl rfl rfl rfl (R2.out.put ⟨#[]⟩ Ex.zero)) rfl ?_
    exact ⟨by rw [FW.out]; rfl, grown_new G2.out (grown_put7 (grown_refl _ (some g0)) _ _ _ _ _ _ _) BL.out.1⟩
  · have FW := Lib.hid (show findW xs t = walkN xs (mtFind t) none from if_neg hl)
    have dl : decide ((255 : Int) < (t.length : Int)) = false := by simp; omega
    have g3 := grown1 w2 (.cells #[.bool false, .string ⟨#[]⟩, .int .i64 0, .bool false, .int .u64 0, .int .u64 0, .int .u64 0, .string ⟨#[]⟩, .slice none 0 0] 53)
    have n3 : NodeAt (w2.alloc (.cells #[.bool false, .string ⟨#[]⟩, .int .i64 0, .bool false, .int .u64 0, .int .u64 0, .int .u64 0, .string ⟨#[]⟩, .slice none 0 0] 53)) w2.heap.size false ⟨#[]⟩ Ex.zero (.slice none 0 0) := heap_alloc_new w2 _
    obtain ⟨w3, hw3⟩ : ∃ w3, w2.alloc (.cells #[.bool false, .string ⟨#[]⟩, .int .i64 0, .bool false, .int .u64 0, .int .u64 0, .int .u64 0, .string ⟨#[]⟩, .slice none 0 0] 53) = w3 := ⟨_, rfl⟩
    obtain ⟨co, hco⟩ : ∃ co, w2.heap.size = co := ⟨_, rfl⟩
    have hco1 : g0 + 1 = co := by
      have e1 := HW.out.1
      have e2 := HW.out.2.2.1
      have e3 := HW.out.2.2.2
      have e4 := HW.out.2.1
      rw [← hco, ← e2, World.size_alloc, ← e1, World.size_alloc, e4, e3]
    rw [hw3] at g3 n3
    rw [hco] at n3
    have i3 : InvFind cn co t w3 (fun k => k = cn ∨ k = co) none := ⟨O2.out.grown g3, ⟨none, 0, 0, n3⟩, .inl rfl, .inr rfl⟩
    have WK : Calls Try.prog 20 #[.slice q n c, .func (.func 25) #[] #[.pointer (some ⟨cn, 0, none⟩), .pointer (some ⟨co, 0, none⟩)]] w3 fun e W' => WOut (Option Ex) (fun _ => True) (InvFind cn co t) (fun k => k = cn ∨ k = co) w3 W' (walkN xs (mtFind t) none) e := by
      obtain ⟨h, hn, hb, ht⟩ := HA.out
      by_cases hx : xs = []
      · subst hx
        simp only [List.length_nil] at hn
        subst hn
        refine (walk_no q c _ _).mono ?_
        rintro e W' ⟨rfl, hg⟩
        exact ⟨rfl, ⟨_, invFind_kept i3 (Chg.of_grown hg (fun b e => by cases e) : Chg (fun _ => False) _ _) (fun _ _ e => e), fun k hk => .inl hk⟩, Chg.of_grown hg (fun b e => by cases e), fun _ => trivial⟩
      · subst hn
        obtain ⟨b, o, rfl, hcell⟩ := h.2 (by cases xs with | nil => exact absurd rfl hx | cons => simp)
        have hbl := World.block_lt_of_cell? w _ (hcell 0 (by cases xs with | nil => exact absurd rfl hx | cons => simp))
        simp only at hbl
        have e4 := HW.out.2.1
        have b3 := BL.out
        refine walk_any (findMeet cn co ht) ⟨t, rfl⟩ trivial i3 ?_ (fun i hi => grown_cell (grown_trans G2.out g3) (hcell i hi)) hx ?_ hb hc hcm hbig
        · have := n3.lt
          rintro k (rfl | rfl)
          · omega
          · exact this
        · rintro (e | e) <;> omega
    have WH := Lib.hid WK
    have G3 := Lib.hid (grown_trans G2.out g3)
    have R3 := Lib.hid (R2.out.kept g3 (by simp))
    have HW3 := Lib.hid (And.intro hw3 hco1)
    have NE := Lib.hid (And.intro (show cn ≠ g0 by have := BL.out.2.1; omega) (show co ≠ g0 by omega))
    have HCO := Lib.hid hco
    clear g3 n3 i3 WK hl hw3 hco1 hco
    obtain ⟨⟨er, own⟩, hr⟩ : ∃ r, r = walkN xs (mtFind t) none := ⟨_, rfl⟩
    rw [← hr] at WH FW
    clear hr
    go_enter Try.func11, Try.ntmps11
    go_upto_region 1 with fail
    rw [HW.out.1, HW.out.2.1, HW.out.2.2.1, HW.out.2.2.2]
    go_upto_region 4 with fail
    rw [HCO.out, HW3.out.1]
    clear c2 cl2
    go_wp2_with fail
    refine WH.out.mono ?_
    rintro e w4 ⟨rfl, ⟨G', ⟨o4, ⟨qo, no, cc, n4⟩, a3, a4⟩, hG'⟩, hch, _⟩
    have hg4 : w.grownBy w4 none :=
      ⟨hch.os.trans G3.out.os, hch.tape.trans G3.out.tape, hch.output.trans G3.out.output, Nat.le_trans G3.out.size hch.size, fun i hi _ => (hch.block i (Nat.lt_of_lt_of_le hi G3.out.size) (fun e => by
        have e4 := HW.out.2.1
        have e5 := HCO.out
        have e6 := G2.out.size
        rcases e with e | e <;> omega)).trans (G3.out.block i hi (by simp))⟩
    have r4 : ExAt w4 g0 ⟨#[]⟩ Ex.zero := (hch.block g0 R3.out.lt (fun e => e.elim (fun e => NE.out.1 e.symm) (fun e => NE.out.2 e.symm))).trans R3.out
    simp only [] at n4
    obtain ⟨e0, e1, e2, e3, e4, e5, e6, e7, e8⟩ := n4.c
    obtain ⟨d0, d1, d2, d3, d4, d5, d6⟩ := r4.c
    have df := r4.fz
    have dll := r4.lt
    have nl := n4.lt
    have nco : ¬ co = g0 := NE.out.2
    have nco' : ¬ g0 = co := fun e => NE.out.2 e.symm
    have P4 := Lib.hid (r4.put (nmOf (strOfNums t) own) (exOf own))
    have GF := Lib.hid (grown_drewN (grown_new hg4 (grown_put7 (grown_refl w4 (some g0)) (.string (nmOf (strOfNums t) own)) (.int .i64 (exOf own).kind) (.bool (exOf own).weak) (.int .u64 (exOf own).value) (.int .u64 (exOf own).resolver) (.int .u64 (exOf own).ordinal) (.string (strOfNums (exOf own).other))) BL.out.1) 1)
    clear o4 n4 a3 a4 hG' hch hg4 r4
    go_upto_region 5 with fail
    go_region
    go_wp2
    refine bodyPost_ret (results_ex3 rfl rfl rfl rfl P4.out.drewF) rfl ?_
    exact ⟨by rw [FW.out]; rfl, GF.out⟩
end Go.Proofs.Ytblfighfahffkaa

/- What looking for a name finds, where all names are told: no program. No condition. -/
namespace Go.Proofs.Ytblfighfahffkaa
open Go.RowKit
variable {xs : List Int}

/-- A name that is told: few bytes. -/
def Told (y : List Int × Ex) : Prop := Byt y.1 ∧ y.1.length ≤ 255
theorem visK_told {rec : List Int → Int → Nat × Out → Int × (Nat × Out)} (name : List Int) (hn : Byt name)
    (IH : ∀ nm pl m out m' out', Byt nm → rec nm pl (m, out) = (0, (m', out')) → (∀ y ∈ out, Told y) → ∀ y ∈ out', Told y) :
    ∀ (l : List Kid), (∀ k ∈ l, Byt k.1) → ∀ m out m' out', visK rec name l 0 (m, out) = (0, (m', out')) → (∀ y ∈ out, Told y) → ∀ y ∈ out', Told y := by
  intro l
  induction l with
  | nil =>
    intro _ m out m' out' h ho
    simp only [visK, Prod.mk.injEq, true_and] at h
    rw [← h.2]; exact ho
  | cons x l ih =>
    intro hk m out m' out' h ho
    obtain ⟨⟨m1, o1⟩, h1, h2⟩ := visK_cons h
    exact ih (fun k hk' => hk k (List.mem_cons_of_mem _ hk')) _ _ _ _ h2 (IH _ _ _ _ _ _ (hn.app (hk x (List.mem_cons_self ..))) h1 ho)
theorem vis_told (hb : Byt xs) : ∀ (k : Nat) (way name : List Int) (pl : Int) (m : Nat) (out : Out) (m' : Nat) (out' : Out), Byt name → vis xs mtAll k way name pl (m, out) = (0, (m', out')) → (∀ y ∈ out, Told y) → ∀ y ∈ out', Told y := by
  intro k
  induction k with
  | zero => intro way name pl m out m' out' _ h; simp [vis] at h
  | succ k ih =>
    intro way name pl m out m' out' hn h ho
    by_cases hl : 255 < name.length
    · have e : vis xs mtAll (k + 1) way name pl (m, out) = (10, (m + 1, out)) := by unfold vis; rw [if_pos hl]
      rw [e] at h; simp at h
    · rw [vis_go hl] at h
      split at h
      · simp at h
      split at h
      · simp at h
      cases hnd : ndAt xs pl with
      | none => rw [hnd] at h; simp at h
      | some nd =>
        rw [hnd] at h
        simp only [] at h
        have hok := ndAt_ok hb hnd
        have h1 : ∀ y ∈ outN out name nd, Told y := by
          intro y hy
          unfold outN at hy
          cases hx : nd.ex with
          | none => rw [hx] at hy; exact ho y hy
          | some x =>
            rw [hx] at hy
            rcases List.mem_append.1 hy with hy | hy
            · exact ho y hy
            · rw [List.mem_singleton.1 hy]; exact ⟨hn, by show name.length ≤ 255; omega⟩
        by_cases c4 : 4096 < (outN out name nd).length
        · have e : mtAll out name nd = (outN out name nd, [], 11) := if_pos c4
          rw [e] at h
          simp [visK] at h
        · have e : mtAll out name nd = (outN out name nd, nd.kids, 0) := if_neg c4
          rw [e] at h
          exact visK_told (rec := vis xs mtAll k (way ++ [pl])) name hn (fun nm p m o m' o' hb' h ho => ih _ nm p m o m' o' hb' h ho) nd.kids (fun k hk => (hok.kids.each k hk).byt) _ _ _ _ h h1
/-- Where all is told. -/
structure Whole (xs : List Int) (out : Out) : Prop where
  once : out.Pairwise fun a b => a.1 ≠ b.1
  told : ∀ y ∈ out, Told y
  find : ∀ t : List Int, t.length ≤ 255 → findW xs t = (0, (Named t out).map (·.2))
theorem whole_of (hb : Byt xs) {out : Out} (h : walkN xs mtAll [] = (0, out)) : Whole xs out := by
  unfold walkN at h
  by_cases hx : xs = []
  · rw [if_pos hx] at h
    injection h with _ h
    subst h
    refine ⟨List.Pairwise.nil, fun y hy => (by cases hy), fun t ht => ?_⟩
    unfold findW walkN
    rw [if_neg (by omega), if_pos hx]
    rfl
  · rw [if_neg hx] at h
    obtain ⟨⟨er, m', o'⟩, hr⟩ : ∃ r, r = vis xs mtAll 257 [] [] 0 (0, []) := ⟨_, rfl⟩
    rw [← hr] at h
    simp only [Prod.mk.injEq] at h
    obtain ⟨rfl, rfl⟩ := h
    obtain ⟨new, A, F⟩ := vis_all hb 257 [] [] 0 0 [] m' o' hr.symm
    have e : o' = new := by rw [A.eq]; rfl
    refine ⟨e ▸ A.once, vis_told hb 257 [] [] 0 0 [] m' o' (fun x hx => by cases hx) hr.symm (fun y hy => by cases hy), fun t ht => ?_⟩
    obtain ⟨j', hj⟩ := F t 0 (by simpa using ht) (Nat.le_refl _)
    unfold findW walkN
    rw [if_neg (by omega), if_neg hx]
    simp only [List.nil_append] at hj
    rw [hj, e]
theorem Whole.of_mem {out : Out} (h : Whole xs out) {y : List Int × Ex} (hy : y ∈ out) : findW xs y.1 = (0, some y.2) := by
  rw [h.find y.1 (h.told y hy).2]
  have e : Named y.1 out = some y := by
    unfold Named
    obtain ⟨i, hi, rfl⟩ := List.getElem_of_mem hy
    rw [List.find?_eq_some_iff_getElem]
    refine ⟨by simp, i, hi, rfl, fun j hj => ?_⟩
    have := (List.pairwise_iff_getElem.1 h.once) j i (by omega) hi hj
    simpa using this
  rw [e]; rfl
theorem Whole.there {out D : Out} (h : Whole xs out) (hp : D.Perm out) {t : List Int} (ht : t.length ≤ 255) : (findW xs t).1 = 0 ∧ (findW xs t).2.isSome = D.any (fun y => decide (y.1 = t)) := by
  rw [h.find t ht]
  refine ⟨rfl, ?_⟩
  have e : D.any (fun y => decide (y.1 = t)) = out.any (fun y => decide (y.1 = t)) := by
    rw [Bool.eq_iff_iff, List.any_eq_true, List.any_eq_true]
    exact ⟨fun ⟨y, hy, h⟩ => ⟨y, hp.mem_iff.1 hy, h⟩, fun ⟨y, hy, h⟩ => ⟨y, hp.mem_iff.2 hy, h⟩⟩
  rw [e]
  unfold Named
  simp only [Option.isSome_map]
  rw [Bool.eq_iff_iff, List.find?_isSome, List.any_eq_true]
end Go.Proofs.Ytblfighfahffkaa

/- Rows of int, and is a number in one (clevisref09.has); a row of any kind that is laid behind another one. No condition. -/
namespace Go.Proofs.Ytblfighfahffkaa
open Go.RowKit
variable {w w' W V : World}

def intCs (x : Int) : List Value := [.int .i64 x]
theorem intType : StType Try.prog 3 48 1 8 := .mk' Try.underlying48 (z := .int .i64 0) (by kernel_rfl) rfl (by decide)
def IntAt (w : World) (q : Option Addr) (l : List Int) : Prop := ∀ i x, l[i]? = some x → ∃ g, q = some ⟨g, 0, none⟩ ∧ w.cell? ⟨g, i, none⟩ = some (.int .i64 x)
theorem IntAt.nil {q : Option Addr} : IntAt w q [] := fun i x h => by simp at h
theorem IntAt.of {lo n c : Nat} {q : Option Addr} {l : List Int} (h : w.ownsRow lo 3 1 (.slice q n c) n (l.flatMap intCs)) : IntAt w q l := fun i x hx => by
  obtain ⟨g, e, h0⟩ := row_cell (f := intCs) (k := 1) (fun _ => rfl) h hx (j := 0) (by decide)
  refine ⟨g, e, ?_⟩
  rw [Nat.mul_one, Nat.add_zero] at h0
  exact h0
theorem IntAt.chg {F : Nat → Prop} {q : Option Addr} {l : List Int} (h : IntAt W q l) (hg : Chg F W V) (hf : ∀ g o, q = some ⟨g, o, none⟩ → ¬ F g) : IntAt V q l := fun i x hx => by
  obtain ⟨g, e, c0⟩ := h i x hx
  exact ⟨g, e, cell_chg c0 hg (hf g 0 e)⟩
theorem IntAt.grown {q : Option Addr} {l : List Int} (h : IntAt w q l) (hg : w.grownBy w' none) : IntAt w' q l := fun i x hx => by
  obtain ⟨g, e, c0⟩ := h i x hx
  exact ⟨g, e, grown_cell hg c0⟩

theorem has_any (l : List Int) (n : Nat) (hn : l.length = n) (hl : n ≤ 9223372036854775807) (q : Option Addr) (c : Nat) (hr : IntAt w q l) (p : Int) :
    Calls Try.prog 27 #[.slice q n c, .int .i64 p] w fun e w' => e = .returned (.bool (decide (p ∈ l))) ∧ w' = w := by
  subst hn
  have RR := Lib.hid hr
  clear hr
  go_enter Try.func27, Try.ntmps27
  go_wp2
  go_loop [5] (fun i => ∃ k : Nat, k ≤ l.length ∧ i = .int .i64 k ∧ ∀ j y, j < k → l[j]? = some y → p ≠ y) (fun i => l.length - (intOf i).toNat)
  case atStart => exact ⟨0, Nat.zero_le _, rfl, fun i y h => by omega⟩
  case round =>
    obtain ⟨k, hk, rfl, hno⟩ := hrel
    have NO := Lib.hid hno
    by_cases hlt : k < l.length
    · obtain ⟨x, hx⟩ : ∃ x, l[k]? = some x := ⟨_, List.getElem?_eq_getElem hlt⟩
      obtain ⟨gq, rfl, c0⟩ := RR.out k x hx
      have dl : decide ((k : Int) < (l.length : Int)) = true := by simp; omega
      have hkl : (k : Int) < (l.length : Int) := by omega
      have HX := Lib.hid hx
      have HM := Lib.hid (List.mem_of_getElem? hx)
      clear hx hno
      by_cases he : x = p
      · have de : (x == p) = true := by simpa using he
        have HE := Lib.hid (show p ∈ l by rw [← he]; exact HM.out)
        generalize l.length = N at *
        clear he
        go_wp2
        go_ret
        exact ⟨by rw [decide_eq_true HE.out]; rfl, rfl⟩
      · have de : (x == p) = false := by simpa using he
        have HE := Lib.hid he
        generalize l.length = N at *
        clear he
        go_wp2
        go_round
        case rel =>
          refine ⟨k + 1, hlt, by go_num, fun i y hi hy => ?_⟩
          rcases Nat.lt_or_ge i k with h | h
          · exact NO.out i y h hy
          · obtain rfl : i = k := by omega
            rw [HX.out] at hy
            injection hy with hy
            rw [← hy]; exact fun e => HE.out e.symm
        case measure => simp [intOf]; omega
    · have NA := Lib.hid (show ¬ p ∈ l from fun h => by
        obtain ⟨i, hi, e⟩ := List.getElem_of_mem h
        exact hno i _ (by omega) (List.getElem?_eq_getElem hi) e.symm)
      have dl : decide ((k : Int) < (l.length : Int)) = false := by simp; omega
      clear hno
      generalize l.length = N at *
      go_wp2
      go_ret
      exact ⟨by rw [decide_eq_false NA.out]; rfl, rfl⟩

/-- Nothing is laid behind a row. -/
theorem run_append_no {T TS : TypeId} {k by' base : Nat} (st : StType Try.prog T TS k by') (v : Value) (n c : Nat) (ys : List Value) (h : w.ownsRow base T k v n ys) :
    (Builtin.append_ #[TS, TS] TS #[v, .slice none 0 c]).run Try.prog w = .ok v w := by
  obtain ⟨i, z, hi, hz0, hz1, hz2, hzs⟩ := st.info
  rcases h.2 with ⟨rfl, _⟩ | ⟨g, cap, cur, rfl, _, hg, hn, hm, hc, _⟩
  · simp [Builtin.append_, run_underlying st.under, sizeOf, typeInfo, hi, Builtin.lenOf, Builtin.firstCells, Result.andThen]
  · simp [Builtin.append_, run_underlying st.under, sizeOf, typeInfo, hi, Builtin.lenOf, hn, Builtin.firstCells, storeCells, Result.andThen]
/- A slice of so many is laid behind a row of ones own, wherever it lies. -/
set_option maxRecDepth 20000 in
theorem wp_append_rows {T TS : TypeId} {k by' : Nat} (st : StType Try.prog T TS k by') {base : Nat} {ops : Array Oper} {rest : List Oper} {o : Oper} {a : Act} {Q : Exit → Act → World → Prop} (hgd : o.guard = none) (s x : Operand)
    (ho : o.op = .call { callee := .builtin .append, args := #[s, x], argTypes := #[TS, TS] }) (hty : o.type = TS)
    (v : Value) (n : Nat) (ys : List Value) (hs : a.eval s = v) (hown : w.ownsRow base T k v n ys) (q : Option Addr) (m c : Nat) (hx : a.eval x = .slice q m c) (cs : List Value) (hl : cs.length = m * k)
    (hq : ∀ j u, cs[j]? = some u → ∃ g o, q = some ⟨g, o, none⟩ ∧ w.cell? ⟨g, o + j, none⟩ = some u) (h1 : ∀ u ∈ cs, u.oneCell' = true)
    (h63 : (n + m) * by' ≤ 140737488355328) (hby : 0 < by') (hbase : base ≤ w.heap.size)
    (h : ∀ v' w', w'.ownsRow base T k v' (n + m) (ys ++ cs) → w.grownBy w' v.ownBlock → (v'.ownBlock = v.ownBlock ∨ v'.ownBlock = some w.heap.size) → wpList Try.prog ops Q rest (a.put o.dst v') w') : wpList Try.prog ops Q (o :: rest) a w := by
  obtain ⟨i, z, hi, hz0, hz1, hz2, hzs⟩ := st.info
  cases q with
  | none =>
    have hm : cs = [] := by
      cases cs with
      | nil => rfl
      | cons u cs => obtain ⟨g, o', e, _⟩ := hq 0 u rfl; cases e
    subst hm
    have hm0 : m = 0 := by
      have := st.pos
      simp only [List.length_nil] at hl
      rcases Nat.mul_eq_zero.1 hl.symm with e | e
      · exact e
      · omega
    subst hm0
    have hrun := run_append_no st v n c ys hown
    rw [← hty] at hrun
    refine Lib.wpList_append_run_sl w hgd s x _ ho v (.slice none 0 c) hs hx (by rw [hty] at hrun ⊢; exact hrun) ?_
    exact h v w (by simpa using hown) (grown_refl w _) (.inl rfl)
  | some ad =>
    refine wpList_append_own_at w hgd s x _ ho base T i z k by' st.under hi hz0 hz1 hz2 hzs st.pos v n ys hs hown ad m c cs hx hl ?_ h1 (by have := Nat.le_mul_of_pos_right (n + m) hby; unfold maxLen; omega) h63 hbase ?_
    · intro j u hu
      obtain ⟨g, o', e, hc⟩ := hq j u hu
      injection e with e
      subst e
      rw [add_flat]; exact hc
    · intro v' w' h2 h3 _ h4
      exact h v' w' h2 h3 h4
/-- At a region that draws: one is laid behind a row of one's own. -/
theorem step_append_sta {T TS : TypeId} {k by' : Nat} (st : StType Try.prog T TS k by') {base : Nat} {ops : Array Oper} {o : Oper} {a : Act} {K : Act → World → Prop} {Q : Exit → Act → World → Prop} {E : Prop} (hgd : o.guard = none) (s x : Operand)
    (ho : o.op = .call { callee := .builtin .append, args := #[s, x], argTypes := #[TS, TS] })
    (v : Value) (n m : Nat) (xs : List Value) (hs : a.eval s = v) (hown : w.ownsRow base T k v n xs) (cs : List Value) (hl : cs.length = m * k) (g : Nat) (hx : a.eval x = .slice (some ⟨g, 0, none⟩) m m)
    (hb : w.heap[g]? = some (.cells cs.toArray T (0, 0))) (h1 : ∀ u ∈ cs, u.oneCell' = true)
    (h63 : (n + m) * by' ≤ 140737488355328) (hby : 0 < by') (hbase : base ≤ w.heap.size)
    (h : ∀ v' w', w'.ownsRow base T k v' (n + m) (xs ++ cs) → w.grownBy w' v.ownBlock → (v'.ownBlock = v.ownBlock ∨ v'.ownBlock = some w.heap.size) → K (a.put o.dst v') w') :
    if Region.wanted o (yielded ops a.tmps) = true then Oper.wp Try.prog o a w K Q else E := by
  have hw : Region.wanted o (yielded ops a.tmps) = true := by simp [Region.wanted, hgd]
  rw [if_pos hw]
  obtain ⟨i, z, hi, hz0, hz1, hz2, hzs⟩ := st.info
  obtain ⟨v', w', hr, h2, h3, _, h5⟩ := run_append_own_at (P := Try.prog) w base TS o.type T i z k by' st.under hi hz0 hz1 hz2 hzs st.pos v n xs hown ⟨g, 0, none⟩ m m cs hl
    (by
      intro j u hu
      rw [add_flat, cell_of hb, ← hu]
      simp)
    h1 (by have := Nat.le_mul_of_pos_right (n + m) hby; unfold maxLen; omega) h63 hbase
  exact Lib.wp_append_run w s x _ _ ho _ _ hs hx _ _ hr (h v' w' h2 h3 h5)
theorem grown_opt {w1 w2 : World} {r : Option Nat} (h : w.grownBy w1 none) (k : w1.grownBy w2 r) (hr : ∀ g, r = some g → w.heap.size ≤ g) : w.grownBy w2 none := by
  cases r with
  | none => exact grown_trans h k
  | some g => exact grown_new h k (hr g rfl)
end Go.Proofs.Ytblfighfahffkaa

/- The document's own layer 2 (Size, Uleb, Sleb over bytes), one contract each: what it says of any bytes. No condition but that the bytes lie in memory. -/
namespace Go.Proofs.Ytblfighfahffkaa
open Go.RowKit
variable {w : World} {q : Option Addr} {c : Nat} {ys : List Int}

theorem refsize_any (h : IsBytes w q c ys) (hr : ∀ x ∈ ys, 0 ≤ x ∧ x < 256) (hb : ys.length ≤ 140737488355328) :
    Calls Try.prog 101 #[.slice q ys.length c] w fun e w' => e = .returned (.int .i64 (szN 10 ys)) ∧ w = w' := by
  have hcell : ∀ k, k < ys.length → ∃ x : Addr, q = some x ∧ w.cell? (x.add k) = some (.int .u8 (ys.getD k 0)) := by
    intro k hk
    rcases h.ways with ⟨_, rfl, _⟩ | ⟨x, rfl, hc⟩
    · simp at hk
    · exact ⟨x, rfl, hc k hk⟩
  have C := Lib.hid hcell
  have HR := Lib.hid hr
  clear hcell hr h
  go_enter Try.func101, Try.ntmps101
  go_wp2
  go_loop [3] (fun i => ∃ k : Nat, i = .int .i64 k ∧ k ≤ 10 ∧ k ≤ ys.length ∧ Hid (More ys k)) (fun i => 10 - (intOf i).toNat)
  case atStart => exact ⟨0, rfl, by omega, by omega, Lib.hid (fun i hi => by omega)⟩
  case round =>
    obtain ⟨k, rfl, hk, hl, M⟩ := hrel
    by_cases hend : k = 10
    · have hz := szN_long 10 ys (hend ▸ M.out)
      have Z := Lib.hid hz
      clear hz
      have hd : decide ((k : Int) < 10) = false := by simp; omega
      by_cases he : k < ys.length
      · go_wp2
        go_ret
        exact ⟨ret_int (by rw [Z.out]; rfl), rfl⟩
      · go_wp2
        go_ret
        exact ⟨ret_int (by rw [Z.out]; rfl), rfl⟩
    · by_cases he : k < ys.length
      · obtain ⟨x, rfl, hc⟩ := C.out k he
        have hx := HR.out (ys.getD k 0) (by simp [List.getD, he, List.getElem_mem])
        have hs : ys.getD k 0 < 128 → szN 10 ys = k + 1 := fun hlt => szN_end 10 k ys (by omega) he M.out hlt
        have hn : 128 ≤ ys.getD k 0 → More ys (k + 1) := fun h => M.out.succ h
        generalize ys.getD k 0 = y at *
        have S := Lib.hid hs
        have HN := Lib.hid hn
        clear hs hn
        by_cases hlt : y < 128
        · go_wp2
          go_ret
          exact ⟨ret_int (by rw [S.out hlt]; omega), rfl⟩
        · have hge : 128 ≤ y := by omega
          go_wp2
          go_round
          case rel => exact ⟨k + 1, by go_num, by omega, by omega, Lib.hid (HN.out hge)⟩
          case measure => simp [intOf]; omega
      · have hz := szN_short 10 ys (by rw [show ys.length = k by omega]; exact M.out)
        have Z := Lib.hid hz
        clear hz
        go_wp2
        go_ret
        exact ⟨ret_int (by rw [Z.out]; rfl), rfl⟩

theorem valN_drop_le (l : List Int) : ∀ j, valN (l.drop j) ≤ valN l := by
  induction l with
  | nil => intro j; simp
  | cons b l ih =>
    intro j
    cases j with
    | zero => exact Int.le_refl _
    | succ j =>
      have h1 := ih j
      have h2 := valN_bd l
      simp only [List.drop_succ_cons, valN]
      omega
theorem valN_drop_lt (l : List Int) (j : Nat) (hj : 1 ≤ j) : 128 * valN (l.drop j) ≤ valN l := by
  cases l with
  | nil => cases j <;> simp [valN]
  | cons b l =>
    obtain ⟨j, rfl⟩ : ∃ i, j = i + 1 := ⟨j - 1, by omega⟩
    have h1 := valN_drop_le l j
    simp only [List.drop_succ_cons, valN]
    omega
theorem drop_cons {l : List Int} {i : Nat} (h : i < l.length) : l.drop i = l.getD i 0 :: l.drop (i + 1) := by
  rw [List.drop_eq_getElem_cons h]; simp [h]
theorem getD_take {l : List Int} {s i : Nat} (h : i < s) : (l.take s).getD i 0 = l.getD i 0 := by simp [List.getD, h]
theorem uleb_eq {l : List Int} (h : valN (l.take (szN 10 l)) < 18446744073709551616) : ulebN l = (valN (l.take (szN 10 l)), szN 10 l) := by unfold ulebN; rw [if_pos h]
theorem uleb_ge {l : List Int} (h : 18446744073709551616 ≤ valN (l.take (szN 10 l))) : ulebN l = (0, 0) := uleb_no (.inr h)

theorem refuleb_any (h : IsBytes w q c ys) (hr : ∀ x ∈ ys, 0 ≤ x ∧ x < 256) (hb : ys.length ≤ 140737488355328) :
    Calls Try.prog 81 #[.slice q ys.length c] w fun e w' => e = .returned (.tuple #[.int .u64 (ulebN ys).1, .int .i64 (ulebN ys).2]) ∧ w = w' := by
  have SZ := Lib.hid (refsize_any h hr hb)
  have hcell : ∀ k, k < ys.length → ∃ x : Addr, q = some x ∧ w.cell? (x.add k) = some (.int .u8 (ys.getD k 0)) := by
    intro k hk
    rcases h.ways with ⟨_, rfl, _⟩ | ⟨x, rfl, hc⟩
    · simp at hk
    · exact ⟨x, rfl, hc k hk⟩
  have C := Lib.hid hcell
  have HR := Lib.hid hr
  have hs := szN_le 10 ys
  have YE := Lib.hid (uleb_eq (l := ys))
  have NO := Lib.hid (uleb_ge (l := ys))
  generalize szN 10 ys = s at *
  generalize ulebN ys = r at *
  clear hcell hr h
  go_enter Try.func81, Try.ntmps81
  go_wp2_with fail
  refine SZ.out.mono ?_
  rintro e w' ⟨rfl, rfl⟩
  go_wp2
  go_loop [4, 6] (fun n i => ∃ (j : Nat) (v : Int), i = .int .i64 ((j : Int) - 1) ∧ n = .int .u64 v ∧ j ≤ s ∧ 0 ≤ v ∧ v < 18446744073709551616 ∧ Hid (v = valN ((ys.take s).drop j))) (fun _ i => (intOf i + 1).toNat)
  case atStart => exact ⟨s, 0, by go_num, rfl, by omega, by omega, by omega, Lib.hid (by rw [List.drop_eq_nil_of_le (by simp; omega)]; rfl)⟩
  case round =>
    obtain ⟨j, v, rfl, rfl, hj, hv0, hv1, V⟩ := hrel
    rcases Nat.eq_zero_or_pos j with rfl | hpos
    · have hv := V.out
      rw [List.drop_zero] at hv
      have hy := YE.out (by rw [← hv]; exact hv1)
      rw [← hv] at hy
      have Y := Lib.hid hy
      clear hv hy
      go_wp2
      go_ret2
      rw [Y.out]
      exact ⟨rfl, rfl⟩
    · obtain ⟨i, rfl⟩ : ∃ i, j = i + 1 := ⟨j - 1, by omega⟩
      have e1 : ((i + 1 : Nat) : Int) - 1 = (i : Int) := by omega
      rw [e1]
      by_cases hbig : 144115188075855872 ≤ v
      · have hn := NO.out (by have := valN_drop_lt (ys.take s) (i + 1) (by omega); rw [← V.out] at this; omega)
        have N := Lib.hid hn
        clear hn e1
        go_wp2
        go_ret2
        rw [N.out]
        exact ⟨rfl, rfl⟩
      · obtain ⟨x, rfl, hc⟩ := C.out i (by omega)
        have hx := HR.out (ys.getD i 0) (by simp [List.getD, show i < ys.length by omega, List.getElem_mem])
        have hd : (ys.take s).drop i = ys.getD i 0 :: (ys.take s).drop (i + 1) := by rw [drop_cons (by simp; omega), getD_take (by omega)]
        generalize ys.getD i 0 = y at *
        have D := Lib.hid hd
        clear hd e1
        go_wp2
        go_round
        case rel => exact ⟨i, v * 128 + y % 128, by go_num, by go_num, by omega, by omega, by omega, Lib.hid (by rw [D.out, V.out]; simp only [valN]; omega)⟩
        case measure => simp [intOf]

theorem svalN_cons (b : Int) {l : List Int} (h : l ≠ []) : svalN (b :: l) = b % 128 + 128 * svalN l := by
  cases l with
  | nil => exact absurd rfl h
  | cons x l => rfl
theorem sval_hi (l : List Int) : ∀ j, 72057594037927936 ≤ svalN (l.drop (j + 1)) → 9223372036854775808 ≤ svalN l := by
  induction l with
  | nil => intro j h; simp [svalN] at h
  | cons b l ih =>
    intro j h
    rw [List.drop_succ_cons] at h
    have h1 : 72057594037927936 ≤ svalN l := by
      cases j with
      | zero => simpa using h
      | succ j => have := ih j h; omega
    have hne : l ≠ [] := by rintro rfl; simp [svalN] at h1
    rw [svalN_cons b hne]; omega
theorem sval_lo (l : List Int) : ∀ j, svalN (l.drop (j + 1)) < -72057594037927936 → svalN l < -9223372036854775808 := by
  induction l with
  | nil => intro j h; simp [svalN] at h
  | cons b l ih =>
    intro j h
    rw [List.drop_succ_cons] at h
    have h1 : svalN l < -72057594037927936 := by
      cases j with
      | zero => simpa using h
      | succ j => have := ih j h; omega
    have hne : l ≠ [] := by rintro rfl; simp [svalN] at h1
    rw [svalN_cons b hne]; omega
theorem sleb_eq {l : List Int} (h : -9223372036854775808 ≤ svalN (l.take (szN 10 l)) ∧ svalN (l.take (szN 10 l)) < 9223372036854775808) : slebN l = (svalN (l.take (szN 10 l)), szN 10 l) := by unfold slebN; rw [if_pos h]
theorem sleb_out {l : List Int} (h : svalN (l.take (szN 10 l)) < -9223372036854775808 ∨ 9223372036854775808 ≤ svalN (l.take (szN 10 l))) : slebN l = (0, 0) := sleb_no (.inr (by omega))

end Go.Proofs.Ytblfighfahffkaa

/- The document's cursor over a trie's bytes: a number, a text. No condition but that the bytes lie in memory. -/
namespace Go.Proofs.Ytblfighfahffkaa
open Go.RowKit
variable {w w' W : World} {g b o c : Nat} {xs : List Int} {s s' : Cs}

/-! As lists. -/
def ulR (xs : List Int) (s : Cs) : Int × Cs := ((ulebN (xs.drop s.1)).1, (s.1 + (ulebN (xs.drop s.1)).2, s.2 || decide ((ulebN (xs.drop s.1)).2 = 0)))
def txR (xs : List Int) (s : Cs) : List Int × Cs :=
  if (pre (xs.drop s.1)).length < (xs.drop s.1).length ∧ (pre (xs.drop s.1)).length ≤ 255 then (pre (xs.drop s.1), (s.1 + (pre (xs.drop s.1)).length + 1, s.2)) else ([], (s.1, true))
theorem simR_ul (xs : List Int) (s : Cs) : Sim ulP xs s (ulR xs s).1 (ulR xs s).2 := by
  unfold ulR
  refine ⟨Nat.le_add_right _ _, fun e => ?_, fun hb e => ?_⟩
  · simp only [Bool.or_eq_false_iff, decide_eq_false_iff_not] at e
    refine ⟨e.1, ?_⟩
    unfold ulP
    rw [if_neg e.2, Nat.add_sub_cancel_left]
  · simp only [hb, Bool.false_or, decide_eq_true_eq] at e
    unfold ulP
    rw [if_pos e]
theorem simR_tx (xs : List Int) (s : Cs) : Sim txP xs s (txR xs s).1 (txR xs s).2 := by
  unfold txR
  split
  · rename_i h
    refine ⟨by simp only []; omega, fun e => ⟨e, ?_⟩, fun hb e => by rw [hb] at e; cases e⟩
    unfold txP
    rw [if_pos h]
    simp only [Option.some.injEq, Prod.mk.injEq, true_and]
    omega
  · rename_i h
    refine Sim.bad (Nat.le_refl _) rfl (fun _ => ?_)
    unfold txP
    rw [if_neg h]
theorem ulR_le {xs : List Int} {s : Cs} (h : s.1 ≤ xs.length) : (ulR xs s).2.1 ≤ xs.length := by
  unfold ulR
  simp only []
  by_cases h0 : (ulebN (xs.drop s.1)).2 = 0
  · omega
  · obtain ⟨h1, _⟩ := uleb_size h0
    have := (szN_le 10 (xs.drop s.1)).2
    rw [List.length_drop] at this
    omega
theorem txR_le {xs : List Int} {s : Cs} (h : s.1 ≤ xs.length) : (txR xs s).2.1 ≤ xs.length := by
  unfold txR
  split
  · rename_i h1
    have := h1.1
    rw [List.length_drop] at this
    simp only []
    omega
  · exact h
theorem ulR_bd {xs : List Int} {s : Cs} : 0 ≤ (ulR xs s).1 ∧ (ulR xs s).1 < 18446744073709551616 := by
  unfold ulR
  simp only []
  by_cases h : (ulebN (xs.drop s.1)).2 = 0
  · rw [uleb_none h]; simp
  · obtain ⟨_, h2, h3⟩ := uleb_size h
    have := valN_bd ((xs.drop s.1).take (szN 10 (xs.drop s.1)))
    omega
theorem uleb_ten (l : List Int) : (ulebN l).2 ≤ 10 := by
  by_cases h : (ulebN l).2 = 0
  · omega
  · obtain ⟨h1, _⟩ := uleb_size h
    have := (szN_le 10 l).1
    omega

/-- The cursor in a block of its own, over bytes that lie elsewhere. -/
structure Rd (w : World) (g b o c : Nat) (xs : List Int) (s : Cs) : Prop where
  blk : w.heap[g]? = some (.cells #[.slice (some ⟨b, o, none⟩) xs.length c, .int .i64 s.1, .bool s.2] 102 (0, 0))
  cell : ∀ i, i < xs.length → w.cell? ⟨b, o + i, none⟩ = some (.int .u8 (xs.getD i 0))
  room : xs.length ≤ c
  top : c ≤ 9223372036854775807
  le : s.1 ≤ xs.length
  big : xs.length ≤ 140737488355328
  byt : Byt xs
  ne : b ≠ g
theorem Rd.c0 (h : Rd w g b o c xs s) : w.cell? ⟨g, 0, none⟩ = some (.slice (some ⟨b, o, none⟩) xs.length c) := by rw [cell_of h.blk]; rfl
theorem Rd.c1 (h : Rd w g b o c xs s) : w.cell? ⟨g, 1, none⟩ = some (.int .i64 s.1) := by rw [cell_of h.blk]; rfl
theorem Rd.c2 (h : Rd w g b o c xs s) : w.cell? ⟨g, 2, none⟩ = some (.bool s.2) := by rw [cell_of h.blk]; rfl
theorem Rd.f (h : Rd w g b o c xs s) (i : Nat) : w.frozen? ⟨g, i, none⟩ = false := free_of h.blk
theorem Rd.lt (h : Rd w g b o c xs s) : g < w.heap.size := lt_of_block h.blk
theorem Rd.kept {r : Option Nat} (h : Rd w g b o c xs s) (hg : w.grownBy w' r) (h1 : r ≠ some g) (h2 : r ≠ some b) : Rd w' g b o c xs s :=
  ⟨(hg.block g (lt_of_block h.blk) (fun e => h1 e.symm)).trans h.blk, fun i hi => hg.cell (h.cell i hi) (fun e => h2 e.symm), h.room, h.top, h.le, h.big, h.byt, h.ne⟩
theorem Rd.grown (h : Rd w g b o c xs s) (hg : w.grownBy w' none) : Rd w' g b o c xs s := h.kept hg (by simp) (by simp)
theorem Rd.drewN (h : Rd w g b o c xs s) (n : Nat) : Rd (w.drewN n) g b o c xs s := h.grown (grown_drewN (grown_refl w none) n)
theorem Rd.set (h : Rd w g b o c xs s) {W : World} (hg : w.grownBy W (some g)) (hb : W.heap[g]? = some (.cells #[.slice (some ⟨b, o, none⟩) xs.length c, .int .i64 s'.1, .bool s'.2] 102 (0, 0))) (hl : s'.1 ≤ xs.length) : Rd W g b o c xs s' :=
  ⟨hb, fun i hi => hg.cell (h.cell i hi) (fun e => h.ne (by injection e)), h.room, h.top, hl, h.big, h.byt, h.ne⟩
theorem Rd.bytes (h : Rd w g b o c xs s) : IsBytes w (some ⟨b, o + s.1, none⟩) (c - s.1) (xs.drop s.1) := IsBytes.mk_at fun i hi => by
  rw [List.length_drop] at hi
  rw [Nat.add_assoc, h.cell (s.1 + i) (by omega)]
  simp [List.getD, List.getElem?_drop]

theorem Rd.step (h : Rd w g b o c xs s) (k : Nat) (bad : Bool) (p : Nat) {P : Int} (hP : P = p) (hl : p ≤ xs.length) : Rd (((w.drewN k).setCell ⟨g, 2, none⟩ (.bool bad)).setCell ⟨g, 1, none⟩ (.int .i64 P)) g b o c xs (p, bad) := by
  subst hP
  refine h.set (s' := (p, bad)) (grown_setCell (grown_setCell (grown_drewN (grown_refl w _) k) _) _) ?_ hl
  rw [heap_setCell_same _ g 1 _ _ _ (heap_setCell_same _ g 2 _ _ _ (h.drewN k).blk)]
  rfl
theorem Rd.grow (_h : Rd w g b o c xs s) (k : Nat) (bad : Bool) (P : Int) : w.grownBy (((w.drewN k).setCell ⟨g, 2, none⟩ (.bool bad)).setCell ⟨g, 1, none⟩ (.int .i64 P)) (some g) :=
  grown_setCell (grown_setCell (grown_drewN (grown_refl w _) k) _) _
theorem quiet_eq {f : FuncId} {args : Array Value} {w : World} {v : Value} (h : Calls Try.prog f args w fun e w' => e = .returned v ∧ w = w') : Calls Try.prog f args w fun e w' => e = .returned v ∧ w' = w :=
  h.mono fun _ _ h => ⟨h.1, h.2.symm⟩
set_option maxRecDepth 20000 in
set_option maxHeartbeats 1600000 in
theorem number9_any (h : Rd w g b o c xs s) :
    Calls Try.prog 51 #[.pointer (some ⟨g, 0, none⟩)] w fun e w' => e = .returned (.int .u64 (ulR xs s).1) ∧ Rd w' g b o c xs (ulR xs s).2 ∧ w.grownBy w' (some g) := by
  have hle := h.le
  have hbig := h.big
  have hroom := h.room
  have htop := h.top
  have c0 := h.c0
  have c1 := h.c1
  have c2 := h.c2
  have hl2 := ulR_le h.le
  have hten := uleb_ten (xs.drop s.1)
  obtain ⟨V, hV, hB, _⟩ := cut_bytes h.cell h.room h.le .i64
  have hlen : (xs.drop s.1).length = xs.length - s.1 := by simp
  have UL := Lib.hid (fun n => quiet_eq (refuleb_any (w := w.drewN n) (hB.drewN n) (h.byt.drop _) (by omega)))
  unfold ulR at hl2 ⊢
  rw [hlen] at UL
  obtain ⟨⟨v, n⟩, hr⟩ : ∃ r, r = ulebN (xs.drop s.1) := ⟨_, rfl⟩
  rw [← hr] at UL hl2 hten ⊢
  have H := Lib.hid h
  have f1 := h.f 1
  have f2 := h.f 2
  obtain ⟨N, hN⟩ : ∃ N, N = xs.length := ⟨_, rfl⟩
  rw [← hN] at hle hbig hroom c0 UL hl2 hV
  have HN := Lib.hid hN
  obtain ⟨p, bad⟩ := s
  simp only [] at hle c1 c2 UL hl2 hV hten ⊢
  clear h hr hlen hN hB
  rw [HN.out] at hl2
  have FIN := Lib.hid (fun k b2 P hP => And.intro (H.out.step k b2 (p + n) (P := P) hP hl2) (H.out.grow k b2 P))
  by_cases h0 : n = 0
  · have d0 : ((n : Int) == 0) = true := by subst h0; rfl
    have d1 : decide (n = 0) = true := decide_eq_true h0
    clear h0
    cases bad
    all_goals
      go_enter Try.func51, Try.ntmps51
      go_wp2
      go_quiet ((go_at_call 81; exact Calls.quiet_of_same (UL.out _)))
      go_wp2
      go_ret
      rw [d1]
      exact ⟨rfl, FIN.out _ _ _ (by omega)⟩
  · have d0 : ((n : Int) == 0) = false := by rw [beq_eq_false_iff_ne]; omega
    have d1 : decide (n = 0) = false := decide_eq_false h0
    clear h0
    cases bad
    all_goals
      go_enter Try.func51, Try.ntmps51
      go_wp2
      go_quiet ((go_at_call 81; exact Calls.quiet_of_same (UL.out _)))
      go_wp2
      go_ret
      rw [d1]
      exact ⟨rfl, FIN.out _ _ _ (by omega)⟩

theorem pre_ne : ∀ (l : List Int) (i : Nat), i < (pre l).length → l.getD i 0 ≠ 0 := by
  intro l
  induction l with
  | nil => intro i h; simp [pre] at h
  | cons x l ih =>
    intro i h
    simp only [pre] at h
    by_cases hx : x = 0
    · rw [if_pos hx] at h; simp at h
    · rw [if_neg hx] at h
      cases i with
      | zero => simpa using hx
      | succ i => simpa using ih i (by simpa using h)
theorem pre_end : ∀ (l : List Int), (pre l).length < l.length → l.getD (pre l).length 0 = 0 := by
  intro l
  induction l with
  | nil => intro h; simp at h
  | cons x l ih =>
    intro h
    simp only [pre] at h ⊢
    by_cases hx : x = 0
    · rw [if_pos hx]; simpa using hx
    · rw [if_neg hx] at h ⊢
      simpa using ih (by simpa using h)
/-- The text that bytes begin with. -/
theorem name01_any (b o c n : Nat) (ys : List Int) (h : IsBytes w (some ⟨b, o, none⟩) c ys) (hn : ys.length = n) (hb : n ≤ 140737488355328) (hc : n ≤ c) :
    Calls Try.prog 64 #[.slice (some ⟨b, o, none⟩) n c] w fun e w' => e = .returned (.string (strOfNums (pre ys))) ∧ w' = w := by
  have hcell : ∀ k, k < n → w.cell? ⟨b, o + k, none⟩ = some (.int .u8 (ys.getD k 0)) := by
    intro k hk
    obtain ⟨b', o', e, hx⟩ := h.2 (by omega)
    injection e with e
    injection e with e1 e2 _
    subst e1 e2
    exact hx k (by omega)
  have hpl := pre_le ys
  rw [hn] at hpl
  have C := Lib.hid hcell
  have NE := Lib.hid (pre_ne ys)
  have EN := Lib.hid (pre_end ys)
  rw [hn] at EN
  have TX := Lib.hid (fun V W (hV : IsBytes W V c (pre ys)) => hV.text rfl)
  have HB := Lib.hid h
  have PT := Lib.hid (pre_take ys)
  obtain ⟨k, hk⟩ : ∃ k, k = (pre ys).length := ⟨_, rfl⟩
  rw [← hk] at hpl NE EN TX PT
  clear h hcell hn hk
  go_enter Try.func64, Try.ntmps64
  go_wp2
  go_loop [3] (fun i => ∃ j : Nat, i = .int .i64 j ∧ j ≤ k) (fun i => k - (intOf i).toNat)
  case atStart => exact ⟨0, rfl, by omega⟩
  case round =>
    obtain ⟨j, rfl, hj⟩ := hrel
    by_cases hlt : j < k
    · have c0 := C.out j (by omega)
      have hne := NE.out j hlt
      generalize ys.getD j 0 = y at *
      have hjn : j < n := by omega
      have hb1 : (y != 0) = true := by simpa using hne
      go_wp2
      go_round
      case rel => exact ⟨j + 1, by go_num, by omega⟩
      case measure => simp [intOf]; omega
    · obtain rfl : j = k := by omega
      have cv := TX.out (some ⟨b, o, none⟩) w (by have := HB.out.take j (c' := c) (fun e => by cases e); rw [← PT.out] at this; exact this)
      by_cases hjn : j < n
      · have c0 := C.out j hjn
        rw [EN.out hjn] at c0
        go_wp2
        go_ret
        exact ⟨rfl, rfl⟩
      · go_wp2
        go_ret
        exact ⟨rfl, rfl⟩
theorem Rd.bad (h : Rd w g b o c xs s) (k : Nat) : Rd ((w.drewN k).setCell ⟨g, 2, none⟩ (.bool true)) g b o c xs (s.1, true) := by
  refine h.set (s' := (s.1, true)) (grown_setCell (grown_drewN (grown_refl w _) k) _) ?_ h.le
  rw [heap_setCell_same _ g 2 _ _ _ (h.drewN k).blk]
  rfl
theorem Rd.go (h : Rd w g b o c xs s) (k p : Nat) {P : Int} (hP : P = p) (hl : p ≤ xs.length) : Rd ((w.drewN k).setCell ⟨g, 1, none⟩ (.int .i64 P)) g b o c xs (p, s.2) := by
  subst hP
  refine h.set (s' := (p, s.2)) (grown_setCell (grown_drewN (grown_refl w _) k) _) ?_ hl
  rw [heap_setCell_same _ g 1 _ _ _ (h.drewN k).blk]
  rfl
theorem grown_dset (w : World) (k g i : Nat) (v : Value) : w.grownBy ((w.drewN k).setCell ⟨g, i, none⟩ v) (some g) := grown_setCell (grown_drewN (grown_refl w _) k) _
set_option maxRecDepth 20000 in
set_option maxHeartbeats 1600000 in
theorem text9_any (h : Rd w g b o c xs s) :
    Calls Try.prog 53 #[.pointer (some ⟨g, 0, none⟩)] w fun e w' => e = .returned (.string (strOfNums (txR xs s).1)) ∧ Rd w' g b o c xs (txR xs s).2 ∧ w.grownBy w' (some g) := by
  have hle := h.le
  have hbig := h.big
  have hroom := h.room
  have htop := h.top
  have c0 := h.c0
  have c1 := h.c1
  have c2 := h.c2
  have f1 := h.f 1
  have f2 := h.f 2
  have hl2 := txR_le h.le
  obtain ⟨V, hV, hB, hV2⟩ := cut_bytes h.cell h.room h.le .i64
  have hVf : ∃ b' o', V = some ⟨b', o', none⟩ := by
    obtain ⟨V', hV', h'⟩ := cut_lo (T := 22) (k := 1) (by kernel_rfl) (fun W => by kernel_rfl) b o xs.length c s.1 .i64 h.le
    have e := (hV w).symm.trans (hV' w)
    injection e with e _
    injection e with e _ _
    subst e
    rcases h' with ⟨rfl, _⟩ | rfl
    · exact ⟨_, _, rfl⟩
    · exact ⟨_, _, rfl⟩
  obtain ⟨b', o', rfl⟩ := hVf
  have hlen : (xs.drop s.1).length = xs.length - s.1 := by simp
  have UL := Lib.hid (fun n => name01_any (w := w.drewN n) b' o' (c - s.1) _ _ (hB.drewN n) hlen (by omega) (by omega))
  have H := Lib.hid h
  have hpl := pre_le (xs.drop s.1)
  rw [hlen] at hpl
  unfold txR at hl2 ⊢
  rw [hlen] at hl2 ⊢
  generalize pre (xs.drop s.1) = T at *
  have hsz : (strOfNums T).size = T.length := strOfNums_size _
  obtain ⟨k, hk⟩ : ∃ k, k = T.length := ⟨_, rfl⟩
  rw [← hk] at hpl hl2 hsz ⊢
  obtain ⟨S, hS⟩ : ∃ S, S = strOfNums T := ⟨_, rfl⟩
  rw [← hS] at hsz UL
  have HS := Lib.hid hS
  have BAD := Lib.hid (fun n => And.intro (H.out.bad n) (grown_dset w n g 2 (.bool true)))
  obtain ⟨N, hN⟩ : ∃ N, N = xs.length := ⟨_, rfl⟩
  rw [← hN] at hle hbig hroom c0 UL hl2 hV hpl ⊢
  have HN := Lib.hid hN
  obtain ⟨p, bad⟩ := s
  simp only [] at hle c1 c2 UL hl2 hV BAD hpl ⊢
  clear h hlen hN hB hV2 hk hS
  by_cases hA : 255 < k
  · have d1 : decide ((255 : Int) < (k : Int)) = true := by simp; omega
    rw [if_neg (by omega)]
    go_enter Try.func53, Try.ntmps53
    go_wp2
    go_quiet ((go_at_call 64; exact Calls.quiet_of_same (UL.out _)))
    go_wp2
    go_quiet (fail)
    go_wp2
    go_ret
    exact ⟨rfl, BAD.out _⟩
  have d1 : decide ((255 : Int) < (k : Int)) = false := by simp; omega
  by_cases hE : N ≤ p + k
  · have d2 : decide ((N : Int) ≤ (p : Int) + (k : Int)) = true := by simp; omega
    rw [if_neg (by omega)]
    go_enter Try.func53, Try.ntmps53
    go_wp2
    go_quiet ((go_at_call 64; exact Calls.quiet_of_same (UL.out _)))
    go_wp2
    go_quiet (fail)
    go_wp2
    go_ret
    exact ⟨rfl, BAD.out _⟩
  · have d2 : decide ((N : Int) ≤ (p : Int) + (k : Int)) = false := by simp; omega
    have hc : k < N - p ∧ k ≤ 255 := by omega
    rw [if_pos hc] at hl2 ⊢
    simp only [] at hl2
    rw [HN.out] at hl2
    have GO := Lib.hid (fun n P hP => And.intro (H.out.go n (p + k + 1) (P := P) hP hl2) (grown_dset w n g 1 (.int .i64 P)))
    go_enter Try.func53, Try.ntmps53
    go_wp2
    go_quiet ((go_at_call 64; exact Calls.quiet_of_same (UL.out _)))
    go_wp2
    go_quiet (fail)
    go_wp2
    go_ret
    rw [HS.out]
    exact ⟨rfl, GO.out _ _ (by omega)⟩
end Go.Proofs.Ytblfighfahffkaa
