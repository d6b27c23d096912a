/- What trie.Find is told of each node, and what it answers. Conditions: the bytes, and the name's, lie in memory. -/
import Derived.Test.YtblfighfahffkaaTrF
import Derived.Test.YtblfighfahffkaaTrC
import Derived.RegionTactic
namespace Go.Proofs.Ytblfighfahffkaa
open Go.RowKit
variable {w w' W V : World} {xs : List Int}

def InvFind (cn co : Nat) (t : List Int) (W : World) (G : Nat → Prop) (own : Option Ex) : Prop :=
  OneAt W cn (.string (strOfNums t)) 9 ∧ (∃ q n c, NodeAt W co own.isSome (nmOf (strOfNums t) own) (exOf own) (.slice q n c)) ∧ G cn ∧ G co
theorem invFind_kept {cn co : Nat} {t : List Int} {G H : Nat → Prop} {own : Option Ex} (h : InvFind cn co t W G own) (hg : Chg H W V) (hd : ∀ k, G k → ¬ H k) : InvFind cn co t V G own := by
  obtain ⟨h1, ⟨q, n, c, h2⟩, h3, h4⟩ := h
  exact ⟨h1.chg hg (hd _ h3), ⟨q, n, c, (hg.block co (lt_of_block h2) (hd _ h4)).trans h2⟩, h3, h4⟩

theorem NodeAt.putAny {g0 : Nat} {b0 : Bool} {nm0 : ByteArray} {x0 : Ex} {v0 : Value} (h : NodeAt W g0 b0 nm0 x0 v0) (b : Bool) (nm' : ByteArray) (y : Ex) (v' : Value) :
    NodeAt (((((((((W.setCell ⟨g0, 0, none⟩ (.bool b)).setCell ⟨g0, 1, none⟩ (.string nm')).setCell ⟨g0, 2, none⟩ (.int .i64 y.kind)).setCell ⟨g0, 3, none⟩ (.bool y.weak)).setCell ⟨g0, 4, none⟩ (.int .u64 y.value)).setCell ⟨g0, 5, none⟩ (.int .u64 y.resolver)).setCell ⟨g0, 6, none⟩ (.int .u64 y.ordinal)).setCell ⟨g0, 7, none⟩ (.string (strOfNums y.other))).setCell ⟨g0, 8, none⟩ v') g0 b nm' y v' :=
  ((((((((h.s0 b).s1 nm').s2 y.kind).s3 y.weak).s4 y.value).s5 y.resolver).s6 y.ordinal).s7 y.other).kids v'
set_option maxRecDepth 20000 in
set_option maxHeartbeats 3200000 in
theorem find1_any {cn co : Nat} {t : List Int} (ht : Byt t) {G : Nat → Prop} {own : Option Ex} {name : List Int} {nd : Nd} {v : Value} {base : Nat} (h : InvFind cn co t W G own) (hp : ∃ rest, t = name ++ rest) (hk : NdOk nd) (ho : W.ownsRow base 92 2 v nd.kids.length (nd.kids.flatMap kidCs)) (hv : ∀ g, v.ownBlock = some g → ¬ G g) (hG : ∀ k, G k → k < W.heap.size) :
    Calls Try.prog 25 #[.string (strOfNums name), nodeV nd.ex.isSome (nmOf (strOfNums name) nd.ex) (exOf nd.ex) v, .pointer (some ⟨cn, 0, none⟩), .pointer (some ⟨co, 0, none⟩)] W fun e W' => MOut (Option Ex) (mtFind t) (InvFind cn co t) own name nd v G W W' e := by
  obtain ⟨q, c, rfl⟩ := own_slice ho
  obtain ⟨o1, ⟨qo, no, co', n1⟩, a3, a4⟩ := h
  obtain ⟨rest, hrest⟩ := hp
  have hkl : nd.kids.length ≤ 255 := hk.few
  have hrm := own_room8 ho
  have hc63 : c ≤ 9223372036854775807 := by
    rcases ho.2 with ⟨hn, _⟩ | ⟨g, cp, cur, hn, _, _, _, hm, _⟩
    · injection hn with _ _ e; omega
    · injection hn with _ _ e; unfold maxLen at hm; omega
  have hdrop : t.drop name.length = rest := by rw [hrest]; simp
  have hl1 : name.length + rest.length = t.length := by rw [hrest, List.length_append]
  have CUT := Lib.hid (show (strOfNums t).extract name.length t.length = strOfNums rest by rw [strOf_cut, List.take_length, hdrop])
  have hcut := CUT.out
  have st : (strOfNums t).size = t.length := strOfNums_size _
  have sn : (strOfNums name).size = name.length := strOfNums_size _
  have hnl : name.length ≤ t.length := by omega
  have g1 := grown1 W (.cells #[.bool nd.ex.isSome, .string (nmOf (strOfNums name) nd.ex), .int .i64 (exOf nd.ex).kind, .bool (exOf nd.ex).weak, .int .u64 (exOf nd.ex).value, .int .u64 (exOf nd.ex).resolver, .int .u64 (exOf nd.ex).ordinal, .string (strOfNums (exOf nd.ex).other), .slice q nd.kids.length c] 53)
  have N1 := Lib.hid (show NodeAt (W.alloc (.cells #[.bool nd.ex.isSome, .string (nmOf (strOfNums name) nd.ex), .int .i64 (exOf nd.ex).kind, .bool (exOf nd.ex).weak, .int .u64 (exOf nd.ex).value, .int .u64 (exOf nd.ex).resolver, .int .u64 (exOf nd.ex).ordinal, .string (strOfNums (exOf nd.ex).other), .slice q nd.kids.length c] 53)) W.heap.size nd.ex.isSome (nmOf (strOfNums name) nd.ex) (exOf nd.ex) (.slice q nd.kids.length c) from heap_alloc_new W _)
  obtain ⟨W1, hW1⟩ : ∃ W1, W.alloc (.cells #[.bool nd.ex.isSome, .string (nmOf (strOfNums name) nd.ex), .int .i64 (exOf nd.ex).kind, .bool (exOf nd.ex).weak, .int .u64 (exOf nd.ex).value, .int .u64 (exOf nd.ex).resolver, .int .u64 (exOf nd.ex).ordinal, .string (strOfNums (exOf nd.ex).other), .slice q nd.kids.length c] 53) = W1 := ⟨_, rfl⟩
  obtain ⟨gn, hgn⟩ : ∃ gn, W.heap.size = gn := ⟨_, rfl⟩
  rw [hW1] at g1 N1
  rw [hgn] at N1
  have O1 := Lib.hid (o1.grown g1)
  have M1 := Lib.hid (n1.kept g1 (by simp))
  have KS1 := Lib.hid (own_grown ho g1)
  have C1 := Lib.hid (show Chg G W W1 from Chg.of_grown g1 (fun b e => by cases e))
  have AG := Lib.hid (And.intro a3 a4)
  have HV := Lib.hid hv
  have HK := Lib.hid (And.intro hrm (And.intro hc63 hk))
  have HG := Lib.hid hG
  have HW1 := Lib.hid hW1
  have HGN := Lib.hid hgn
  have HT := Lib.hid (And.intro ht (And.intro hrest hdrop))
  have c0 := (o1.grown g1).c
  have cl := (o1.grown g1).lt
  clear o1 n1 a3 a4 g1 ho hv hk hG hW1 hgn hrest hdrop ht CUT
  unfold nodeV
  go_enter Try.func25, Try.ntmps25
  go_upto_region 1 with fail
  rw [HW1.out, HGN.out]
  clear HW1
  obtain ⟨d0, d1, d2, d3, d4, d5, d6, d7, d8⟩ := N1.out.c
  have dl := N1.out.lt
  by_cases hr : rest = []
  · have he : (strOfNums rest).toList.isEmpty = true := by rw [hr, Lib.strOfNums_toList]; rfl
    have eM : mtFind t own name nd = (nd.ex, [], 0) := if_pos (by rw [HT.out.2.2, hr])
    have eN : nmOf (strOfNums name) nd.ex = nmOf (strOfNums t) nd.ex := by rw [HT.out.2.1, hr, List.append_nil]
    have GP := grown_put9 (grown_refl W1 (some co)) (.bool nd.ex.isSome) (.string (nmOf (strOfNums name) nd.ex)) (.int .i64 (exOf nd.ex).kind) (.bool (exOf nd.ex).weak) (.int .u64 (exOf nd.ex).value) (.int .u64 (exOf nd.ex).resolver) (.int .u64 (exOf nd.ex).ordinal) (.string (strOfNums (exOf nd.ex).other)) (.slice q nd.kids.length c)
    have PUT := M1.out.putAny nd.ex.isSome (nmOf (strOfNums name) nd.ex) (exOf nd.ex) (.slice q nd.kids.length c)
    have hne : (some co : Option Nat) ≠ some cn := by
      intro e
      injection e with e
      have h1 := O1.out
      have h2 := M1.out
      unfold OneAt at h1
      unfold NodeAt at h2
      rw [← e, h2] at h1
      injection h1 with h1
      injection h1 with _ h1 _
      exact absurd h1 (by decide)
    obtain ⟨Wp, hWp⟩ : ∃ Wp, ((((((((W1.setCell ⟨co, 0, none⟩ (.bool nd.ex.isSome)).setCell ⟨co, 1, none⟩ (.string (nmOf (strOfNums name) nd.ex))).setCell ⟨co, 2, none⟩ (.int .i64 (exOf nd.ex).kind)).setCell ⟨co, 3, none⟩ (.bool (exOf nd.ex).weak)).setCell ⟨co, 4, none⟩ (.int .u64 (exOf nd.ex).value)).setCell ⟨co, 5, none⟩ (.int .u64 (exOf nd.ex).resolver)).setCell ⟨co, 6, none⟩ (.int .u64 (exOf nd.ex).ordinal)).setCell ⟨co, 7, none⟩ (.string (strOfNums (exOf nd.ex).other))).setCell ⟨co, 8, none⟩ (.slice q nd.kids.length c) = Wp := ⟨_, rfl⟩
    rw [hWp] at GP PUT
    rw [eN] at PUT
    have i1 : InvFind cn co t Wp G nd.ex := ⟨O1.out.kept GP hne, ⟨_, _, _, PUT⟩, AG.out⟩
    have ch : Chg G W Wp := C1.out.trans (Chg.of_grown GP (fun b e => by injection e with e; exact .inl (e ▸ AG.out.2)))
    have FN := Lib.hid (show MOut (Option Ex) (mtFind t) (InvFind cn co t) own name nd (.slice q nd.kids.length c) G W Wp (.returned (.tuple #[.slice none 0 0, .int .i64 0])) from
      { ex := ⟨none, 0, G, by rw [eM]; rfl, by rw [eM]; exact i1, fun k hk => .inl hk, by rw [eM]; exact KidsAt.nil, fun g o e => (by cases e), by rw [eM]; exact Nat.le_refl _, by decide⟩, chg := ch })
    have HWp := Lib.hid hWp
    clear i1 ch hWp
    obtain ⟨e0, e1, e2, e3, e4, e5, e6, e7, e8⟩ := M1.out.c
    have ef := M1.out.fz
    have el := M1.out.lt
    clear hr eM eN GP PUT hne
    go_upto_region 4 with fail
    rw [HWp.out]
    clear HWp e0 e1 e2 e3 e4 e5 e6 e7 e8 ef el
    go_wp2
    go_ret2
    exact FN.out
  · have he : (strOfNums rest).toList.isEmpty = false := by
      rw [Lib.strOfNums_toList]
      cases rest with
      | nil => exact absurd rfl hr
      | cons => rfl
    have eM : mtFind t own name nd = (own, leadN nd.kids rest, 0) := by
      have e : mtFind t own name nd = (own, leadN nd.kids (t.drop name.length), 0) := if_neg (by rw [HT.out.2.2]; exact hr)
      rw [e, HT.out.2.2]
    have hbr : Byt rest := by
      have := HT.out.1
      rw [HT.out.2.1] at this
      exact fun x hx => this x (List.mem_append_right _ hx)
    have LE := Lib.hid (leading_any (w := W1) nd.kids nd.kids.length rfl q c hrm hc63 (KidsAt.of KS1.out) rest hbr (fun k hk => (HK.out.2.2.kids.each k hk).byt))
    have EM := Lib.hid eM
    clear hr hbr eM
    go_wp2_with fail
    refine LE.out.mono ?_
    rintro e W2 ⟨⟨q', c', rfl, hks, hq, hlc, hc2⟩, hg⟩
    have FN := Lib.hid (show MOut (Option Ex) (mtFind t) (InvFind cn co t) own name nd (.slice q nd.kids.length c) G W W2 (.returned (.tuple #[.slice q' (leadN nd.kids rest).length c', .int .i64 0])) from
      ⟨⟨q', c', G, by rw [EM.out], by rw [EM.out]; exact ⟨O1.out.grown hg, ⟨_, _, _, M1.out.kept hg (by simp)⟩, AG.out⟩, fun k hk => .inl hk, by rw [EM.out]; exact hks.grown hg, fun g o e => by
        obtain ⟨o', e'⟩ := hq g o e
        rw [e']; rfl, by rw [EM.out]; exact hlc, hc2⟩, C1.out.trans (Chg.of_grown hg (fun b e => by cases e))⟩)
    clear hks hq hlc hc2 hg
    go_wp2
    go_ret2
    exact FN.out
theorem findMeet (cn co : Nat) {t : List Int} (ht : Byt t) : MeetOk (Option Ex) 25 #[.pointer (some ⟨cn, 0, none⟩), .pointer (some ⟨co, 0, none⟩)] (mtFind t) (fun name => ∃ rest, t = name ++ rest) (fun _ => True) (InvFind cn co t) where
  enters := enters_of Try.func25 (by kernel_rfl) rfl
  kept := fun W V G s H h hg hd => invFind_kept h hg hd
  sub := fun s name nd x hx => by
    unfold mtFind at hx
    split at hx
    · cases hx
    · simp only [leadN] at hx
      split at hx
      · cases hx
      · rename_i k hk
        rw [List.mem_singleton.1 hx]
        exact List.mem_of_find?_eq_some hk
  pre := fun s name nd ⟨rest, hr⟩ x hx => by
    unfold mtFind at hx
    split at hx
    · cases hx
    · simp only [leadN] at hx
      split at hx
      · cases hx
      · rename_i k hk
        rw [List.mem_singleton.1 hx]
        obtain ⟨r2, h2⟩ := pfx_iff.1 (List.find?_some (p := fun k : Kid => pfx k.1 (t.drop name.length)) hk)
        have hd : t.drop name.length = rest := by rw [hr]; simp
        rw [hd] at h2
        exact ⟨r2, by rw [hr, h2, List.append_assoc]⟩
  next := fun _ _ _ _ _ => trivial
  stop := fun s name nd he => by
    unfold mtFind at he
    split at he <;> exact absurd rfl he
  call := fun W G s name nd v base h _ hp _ hk ho hv hG => find1_any ht h hp hk ho hv hG

def findW (xs t : List Int) : Int × Option Ex := if 255 < t.length then (10, none) else walkN xs (mtFind t) none
structure FiOut (w w' : World) (xs t : List Int) (e : Ending) : Prop where
  ret : e = .returned (.tuple #[exV (nmOf (strOfNums t) (findW xs t).2) (exOf (findW xs t).2), .bool (findW xs t).2.isSome, .int .i64 (findW xs t).1])
  grown : w.grownBy w' none
theorem results_ex3 {fn : Func} {p u v : Tmp} {g : Nat} {nm : ByteArray} {x : Ex} (hr : fn.results = #[.cell p 33, .tmp u, .tmp v]) {tmps : Array Value} {y z : Value} (hp : tmps.getD p undef = .pointer (some ⟨g, 0, none⟩)) (hu : tmps.getD u undef = y) (hv : tmps.getD v undef = z) (h : ExAt w g nm x) :
    (results fn tmps).run Try.prog w = .ok (.tuple #[exV nm x, y, z]) w := by
  have e : (asAddr (.pointer (some ⟨g, 0, none⟩)) : Sem Addr).run Try.prog w = .ok ⟨g, 0, none⟩ w := rfl
  simp only [Array.getD_eq_getD_getElem?] at hp hu hv
  simp only [results, hr]
  simp [Sem.run_bind, Result.andThen, hp, hu, hv, e, load_ex h]
theorem ExAt.drewF {g : Nat} {nm : ByteArray} {x : Ex} (h : ExAt W g nm x) : ExAt W.drew g nm x := h

set_option maxRecDepth 20000 in
set_option maxHeartbeats 3200000 in
theorem Find_any {q : Option Addr} {c n : Nat} (h : IsBytes w q c xs) (hn : xs.length = n) (hb : Byt xs) (hc : n ≤ c) (hcm : c ≤ 9223372036854775807) (hbig : n ≤ 140737488355328) (t : List Int) (ht : Byt t) (htl : t.length ≤ 9223372036854775807) :
    Calls Try.prog 11 #[.slice q n c, .string (strOfNums t)] w fun e w' => FiOut w w' xs t e := by
  have g1 := grown1 w (.cells #[.string (strOfNums t)] 9)
  have o1 := OneAt.new w (.string (strOfNums t)) 9
  obtain ⟨w1, hw1⟩ : ∃ w1, w.alloc (.cells #[.string (strOfNums t)] 9) = w1 := ⟨_, rfl⟩
  obtain ⟨cn, hcn⟩ : ∃ cn, w.heap.size = cn := ⟨_, rfl⟩
  rw [hw1] at g1 o1
  rw [hcn] at o1
  have g2 := grown1 w1 (.cells #[.string ⟨#[]⟩, .int .i64 0, .bool false, .int .u64 0, .int .u64 0, .int .u64 0, .string ⟨#[]⟩] 33)
  have r2 : ExAt (w1.alloc (.cells #[.string ⟨#[]⟩, .int .i64 0, .bool false, .int .u64 0, .int .u64 0, .int .u64 0, .string ⟨#[]⟩] 33)) w1.heap.size ⟨#[]⟩ Ex.zero := heap_alloc_new w1 _
  obtain ⟨w2, hw2⟩ : ∃ w2, w1.alloc (.cells #[.string ⟨#[]⟩, .int .i64 0, .bool false, .int .u64 0, .int .u64 0, .int .u64 0, .string ⟨#[]⟩] 33) = w2 := ⟨_, rfl⟩
  obtain ⟨g0, hg0⟩ : ∃ g0, w1.heap.size = g0 := ⟨_, rfl⟩
  have l1 := o1.lt
  have hcn1 : cn + 1 = g0 := by rw [← hg0, ← hw1, World.size_alloc, hcn]
  rw [hw2] at g2 r2
  rw [hg0] at r2 l1
  have O2 := Lib.hid (o1.grown g2)
  have R2 := Lib.hid r2
  have G2 := Lib.hid (grown_trans g1 g2)
  have HW := Lib.hid (And.intro hw1 (And.intro hcn (And.intro hw2 hcn1)))
  have hst : (strOfNums t).size = t.length := strOfNums_size _
  have HA := Lib.hid (And.intro h (And.intro hn (And.intro hb ht)))
  have BL := Lib.hid (And.intro (show w.heap.size ≤ g0 by have := g1.size; omega) (And.intro (show cn < g0 by omega) (show g0 < w2.heap.size from r2.lt)))
  have c2 := (o1.grown g2).c
  have cl2 := (o1.grown g2).lt
  clear g1 o1 g2 r2 l1 h hn hb ht hw1 hcn hw2 hg0 hcn1
  by_cases hl : 255 < t.length
  · have FW := Lib.hid (show findW xs t = (10, none) from if_pos hl)
    have dl : decide ((255 : Int) < (t.length : Int)) = true := by simp; omega
    obtain ⟨d0, d1, d2, d3, d4, d5, d6⟩ := R2.out.c
    have df := R2.out.fz
    have dll := R2.out.lt
    clear hl
    go_enter Try.func11, Try.ntmps11
    go_upto_region 1 with fail
    rw [HW.out.1, HW.out.2.1, HW.out.2.2.1, HW.out.2.2.2]
    go_wp2
    refine bodyPost_ret (results_ex3 rfl rfl rfl rfl (R2.out.put ⟨#[]⟩ Ex.zero)) rfl ?_
    exact ⟨by rw [FW.out]; rfl, grown_new G2.out (grown_put7 (grown_refl _ (some g0)) _ _ _ _ _ _ _) BL.out.1⟩
  · have FW := Lib.hid (show findW xs t = walkN xs (mtFind t) none from if_neg hl)
    have dl : decide ((255 : Int) < (t.length : Int)) = false := by simp; omega
    have g3 := grown1 w2 (.cells #[.bool false, .string ⟨#[]⟩, .int .i64 0, .bool false, .int .u64 0, .int .u64 0, .int .u64 0, .string ⟨#[]⟩, .slice none 0 0] 53)
    have n3 : NodeAt (w2.alloc (.cells #[.bool false, .string ⟨#[]⟩, .int .i64 0, .bool false, .int .u64 0, .int .u64 0, .int .u64 0, .string ⟨#[]⟩, .slice none 0 0] 53)) w2.heap.size false ⟨#[]⟩ Ex.zero (.slice none 0 0) := heap_alloc_new w2 _
    obtain ⟨w3, hw3⟩ : ∃ w3, w2.alloc (.cells #[.bool false, .string ⟨#[]⟩, .int .i64 0, .bool false, .int .u64 0, .int .u64 0, .int .u64 0, .string ⟨#[]⟩, .slice none 0 0] 53) = w3 := ⟨_, rfl⟩
    obtain ⟨co, hco⟩ : ∃ co, w2.heap.size = co := ⟨_, rfl⟩
    have hco1 : g0 + 1 = co := by
      have e1 := HW.out.1
      have e2 := HW.out.2.2.1
      have e3 := HW.out.2.2.2
      have e4 := HW.out.2.1
      rw [← hco, ← e2, World.size_alloc, ← e1, World.size_alloc, e4, e3]
    rw [hw3] at g3 n3
    rw [hco] at n3
    have i3 : InvFind cn co t w3 (fun k => k = cn ∨ k = co) none := ⟨O2.out.grown g3, ⟨none, 0, 0, n3⟩, .inl rfl, .inr rfl⟩
    have WK : Calls Try.prog 20 #[.slice q n c, .func (.func 25) #[] #[.pointer (some ⟨cn, 0, none⟩), .pointer (some ⟨co, 0, none⟩)]] w3 fun e W' => WOut (Option Ex) (fun _ => True) (InvFind cn co t) (fun k => k = cn ∨ k = co) w3 W' (walkN xs (mtFind t) none) e := by
      obtain ⟨h, hn, hb, ht⟩ := HA.out
      by_cases hx : xs = []
      · subst hx
        simp only [List.length_nil] at hn
        subst hn
        refine (walk_no q c _ _).mono ?_
        rintro e W' ⟨rfl, hg⟩
        exact ⟨rfl, ⟨_, invFind_kept i3 (Chg.of_grown hg (fun b e => by cases e) : Chg (fun _ => False) _ _) (fun _ _ e => e), fun k hk => .inl hk⟩, Chg.of_grown hg (fun b e => by cases e), fun _ => trivial⟩
      · subst hn
        obtain ⟨b, o, rfl, hcell⟩ := h.2 (by cases xs with | nil => exact absurd rfl hx | cons => simp)
        have hbl := World.block_lt_of_cell? w _ (hcell 0 (by cases xs with | nil => exact absurd rfl hx | cons => simp))
        simp only at hbl
        have e4 := HW.out.2.1
        have b3 := BL.out
        refine walk_any (findMeet cn co ht) ⟨t, rfl⟩ trivial i3 ?_ (fun i hi => grown_cell (grown_trans G2.out g3) (hcell i hi)) hx ?_ hb hc hcm hbig
        · have := n3.lt
          rintro k (rfl | rfl)
          · omega
          · exact this
        · rintro (e | e) <;> omega
    have WH := Lib.hid WK
    have G3 := Lib.hid (grown_trans G2.out g3)
    have R3 := Lib.hid (R2.out.kept g3 (by simp))
    have HW3 := Lib.hid (And.intro hw3 hco1)
    have NE := Lib.hid (And.intro (show cn ≠ g0 by have := BL.out.2.1; omega) (show co ≠ g0 by omega))
    have HCO := Lib.hid hco
    clear g3 n3 i3 WK hl hw3 hco1 hco
    obtain ⟨⟨er, own⟩, hr⟩ : ∃ r, r = walkN xs (mtFind t) none := ⟨_, rfl⟩
    rw [← hr] at WH FW
    clear hr
    go_enter Try.func11, Try.ntmps11
    go_upto_region 1 with fail
    rw [HW.out.1, HW.out.2.1, HW.out.2.2.1, HW.out.2.2.2]
    go_upto_region 4 with fail
    rw [HCO.out, HW3.out.1]
    clear c2 cl2
    go_wp2_with fail
    refine WH.out.mono ?_
    rintro e w4 ⟨rfl, ⟨G', ⟨o4, ⟨qo, no, cc, n4⟩, a3, a4⟩, hG'⟩, hch, _⟩
    have hg4 : w.grownBy w4 none :=
      ⟨hch.os.trans G3.out.os, hch.tape.trans G3.out.tape, hch.output.trans G3.out.output, Nat.le_trans G3.out.size hch.size, fun i hi _ => (hch.block i (Nat.lt_of_lt_of_le hi G3.out.size) (fun e => by
        have e4 := HW.out.2.1
        have e5 := HCO.out
        have e6 := G2.out.size
        rcases e with e | e <;> omega)).trans (G3.out.block i hi (by simp))⟩
    have r4 : ExAt w4 g0 ⟨#[]⟩ Ex.zero := (hch.block g0 R3.out.lt (fun e => e.elim (fun e => NE.out.1 e.symm) (fun e => NE.out.2 e.symm))).trans R3.out
    simp only [] at n4
    obtain ⟨e0, e1, e2, e3, e4, e5, e6, e7, e8⟩ := n4.c
    obtain ⟨d0, d1, d2, d3, d4, d5, d6⟩ := r4.c
    have df := r4.fz
    have dll := r4.lt
    have nl := n4.lt
    have nco : ¬ co = g0 := NE.out.2
    have nco' : ¬ g0 = co := fun e => NE.out.2 e.symm
    have P4 := Lib.hid (r4.put (nmOf (strOfNums t) own) (exOf own))
    have GF := Lib.hid (grown_drewN (grown_new hg4 (grown_put7 (grown_refl w4 (some g0)) (.string (nmOf (strOfNums t) own)) (.int .i64 (exOf own).kind) (.bool (exOf own).weak) (.int .u64 (exOf own).value) (.int .u64 (exOf own).resolver) (.int .u64 (exOf own).ordinal) (.string (strOfNums (exOf own).other))) BL.out.1) 1)
    clear o4 n4 a3 a4 hG' hch hg4 r4
    go_upto_region 5 with fail
    go_region
    go_wp2
    refine bodyPost_ret (results_ex3 rfl rfl rfl rfl P4.out.drewF) rfl ?_
    exact ⟨by rw [FW.out]; rfl, GF.out⟩
end Go.Proofs.Ytblfighfahffkaa
