/- All names of a trie, as the program gathers them: what trie.All is told of each node. No condition. -/
import Derived.Test.YtblfighfahffkaaTrB
namespace Go.Proofs.Ytblfighfahffkaa
open Go.RowKit
variable {w w' W V : World} {xs : List Int}

def outCs (y : List Int × Ex) : List Value := exCs (strOfNums y.1) y.2
theorem outCs_len (y : List Int × Ex) : (outCs y).length = 7 := rfl
theorem exType : StType Try.prog 33 24 7 72 := .mk' Try.underlying24 (z := .agg #[.string ⟨#[]⟩, .int .i64 0, .bool false, .int .u64 0, .int .u64 0, .int .u64 0, .string ⟨#[]⟩]) (by kernel_rfl) rfl (by decide)
/-- What has been gathered. -/
def InvAll (cl : Nat) (W : World) (G : Nat → Prop) (out : Out) : Prop :=
  ∃ q c, OneAt W cl (.slice q out.length c) 24 ∧ W.ownsRow 0 33 7 (.slice q out.length c) out.length (out.flatMap outCs) ∧ G cl ∧ ∀ g, (Value.slice q out.length c).ownBlock = some g → G g
theorem invAll_kept {cl : Nat} {G H : Nat → Prop} {out : Out} (h : InvAll cl W G out) (hg : Chg H W V) (hd : ∀ k, G k → ¬ H k) : InvAll cl V G out := by
  obtain ⟨q, c, h1, h2, h3, h4⟩ := h
  exact ⟨q, c, h1.chg hg (hd _ h3), ownsRow_chg h2 hg (fun g e => hd g (h4 g e)), h3, h4⟩
theorem mtAll_of (out : Out) (name : List Int) (nd : Nd) : (mtAll out name nd).1 = outN out name nd := by unfold mtAll; split <;> rfl
theorem outN_len (out : Out) (name : List Int) (nd : Nd) : (outN out name nd).length ≤ out.length + 1 := by
  unfold outN
  cases nd.ex with
  | none => simp
  | some x => simp

set_option maxRecDepth 20000 in
set_option maxHeartbeats 3200000 in
theorem all1_any {cl : Nat} {G : Nat → Prop} {out : Out} {name : List Int} {nd : Nd} {v : Value} {base : Nat} (h : InvAll cl W G out) (hf : out.length ≤ 4096) (hk : NdOk nd) (ho : W.ownsRow base 92 2 v nd.kids.length (nd.kids.flatMap kidCs)) (hv : ∀ g, v.ownBlock = some g → ¬ G g) (hG : ∀ k, G k → k < W.heap.size) :
    Calls Try.prog 21 #[.string (strOfNums name), nodeV nd.ex.isSome (nmOf (strOfNums name) nd.ex) (exOf nd.ex) v, .pointer (some ⟨cl, 0, none⟩)] W fun e W' => MOut Out mtAll (InvAll cl) out name nd v G W W' e := by
  obtain ⟨q, c, rfl⟩ := own_slice ho
  obtain ⟨ql, cl', a1, a2, a3, a4⟩ := h
  obtain ⟨ex, kids⟩ := nd
  simp only [] at ho hv hk ⊢
  have hkl : kids.length ≤ 255 := hk.few
  have hrm := own_room8 ho
  have hc63 : c ≤ 9223372036854775807 := by
    rcases ho.2 with ⟨hn, _⟩ | ⟨g, cp, cur, hn, _, _, _, hm, _⟩
    · injection hn with _ _ e; omega
    · injection hn with _ _ e; unfold maxLen at hm; omega
  have KS := Lib.hid (fun (V : World) (hg : Chg G W V) => (KidsAt.of ho).chg hg (fun g o e => hv g (by rw [e]; rfl)))
  have QV := Lib.hid (fun g o (e : q = some ⟨g, o, none⟩) => (show (Value.slice q kids.length c).ownBlock = some g by rw [e]; rfl))
  have HK := Lib.hid (And.intro hrm hc63)
  cases ex with
  | none =>
    have eN : mtAll out name ⟨none, kids⟩ = (out, kids, 0) := if_neg (by show ¬ 4096 < out.length; omega)
    simp only [Option.isSome, nmOf, exOf, nodeV]
    have g1 := grown1 W (.cells #[.bool false, .string ⟨#[]⟩, .int .i64 Ex.zero.kind, .bool Ex.zero.weak, .int .u64 Ex.zero.value, .int .u64 Ex.zero.resolver, .int .u64 Ex.zero.ordinal, .string (strOfNums Ex.zero.other), .slice q kids.length c] 53)
    have n1 := a1.grown g1
    have l1 := n1.c
    have ch : Chg G W _ := Chg.of_grown g1 (fun b e => by cases e)
    have FN := Lib.hid (show MOut Out mtAll (InvAll cl) out name ⟨none, kids⟩ (.slice q kids.length c) G W _ (.returned (.tuple #[.slice q kids.length c, .int .i64 0])) from
      ⟨⟨q, c, G, by rw [eN], by rw [eN]; exact ⟨ql, cl', n1, own_grown a2 g1, a3, a4⟩, fun k hk => .inl hk, by rw [eN]; exact KS.out _ ch, QV.out, by rw [eN]; exact hrm, hc63⟩, ch⟩)
    have dl : decide ((4096 : Int) < (out.length : Int)) = false := by simp; omega
    clear a1 a2 a3 a4 g1 n1 ch ho hv hk hG eN
    go_enter Try.func21, Try.ntmps21
    go_wp2
    go_ret2
    exact FN.out
  | some x =>
    have eN : mtAll out name ⟨some x, kids⟩ = if 4096 < out.length + 1 then (out ++ [(name, x)], [], 11) else (out ++ [(name, x)], kids, 0) := by
      unfold mtAll
      rw [show outN out name ⟨some x, kids⟩ = out ++ [(name, x)] from rfl, List.length_append, List.length_singleton]
    simp only [Option.isSome, nmOf, exOf, nodeV]
    have SE := Lib.hid (show exCs (strOfNums name) x = [.string (strOfNums name), .int .i64 x.kind, .bool x.weak, .int .u64 x.value, .int .u64 x.resolver, .int .u64 x.ordinal, .string (strOfNums x.other)] from rfl)
    have OC := Lib.hid (show (out ++ [(name, x)]).flatMap outCs = out.flatMap outCs ++ exCs (strOfNums name) x by rw [List.flatMap_append, List.flatMap_singleton]; rfl)
    have ON := Lib.hid (exCs_one (strOfNums name) x)
    obtain ⟨SN, hSN⟩ : ∃ z, z = strOfNums name := ⟨_, rfl⟩
    rw [← hSN] at SE OC ON ⊢
    clear hSN
    have g1 := grown1 W (.cells #[.bool true, .string SN, .int .i64 x.kind, .bool x.weak, .int .u64 x.value, .int .u64 x.resolver, .int .u64 x.ordinal, .string (strOfNums x.other), .slice q kids.length c] 53)
    have N1 := Lib.hid (show NodeAt (W.alloc (.cells #[.bool true, .string SN, .int .i64 x.kind, .bool x.weak, .int .u64 x.value, .int .u64 x.resolver, .int .u64 x.ordinal, .string (strOfNums x.other), .slice q kids.length c] 53)) W.heap.size true SN x (.slice q kids.length c) from heap_alloc_new W _)
    obtain ⟨W1, hW1⟩ : ∃ W1, W.alloc (.cells #[.bool true, .string SN, .int .i64 x.kind, .bool x.weak, .int .u64 x.value, .int .u64 x.resolver, .int .u64 x.ordinal, .string (strOfNums x.other), .slice q kids.length c] 53) = W1 := ⟨_, rfl⟩
    obtain ⟨gn, hgn⟩ : ∃ gn, W.heap.size = gn := ⟨_, rfl⟩
    rw [hW1] at g1 N1
    rw [hgn] at N1
    have g2 := grown1 W1 (.cells #[.string SN, .int .i64 x.kind, .bool x.weak, .int .u64 x.value, .int .u64 x.resolver, .int .u64 x.ordinal, .string (strOfNums x.other)] 33)
    have A1 := Lib.hid (a1.grown g1)
    have A2 := Lib.hid ((a1.grown g1).grown g2)
    have O2 := Lib.hid (own_grown (own_grown a2 g1) g2)
    have X2 := Lib.hid (heap_alloc_new W1 (.cells #[.string SN, .int .i64 x.kind, .bool x.weak, .int .u64 x.value, .int .u64 x.resolver, .int .u64 x.ordinal, .string (strOfNums x.other)] 33))
    have M2 := Lib.hid (N1.out.kept g2 (by simp))
    have G2 := Lib.hid (grown_trans g1 g2)
    have AG := Lib.hid (And.intro a3 a4)
    have HG := Lib.hid hG
    have HV := Lib.hid hv
    have EN := Lib.hid eN
    have RL := Lib.hid (fun g e => (a2.lt g e).2)
    have HW1 := Lib.hid hW1
    have HGN := Lib.hid hgn
    have c1 := (a1.grown g1).c
    have cl1 := (a1.grown g1).lt
    clear a1 a2 a3 a4 g1 g2 ho hv hk hG eN hW1 hgn
    go_enter Try.func21, Try.ntmps21
    go_upto_region 1 with fail
    rw [HW1.out, HGN.out]
    have HGN2 := HGN.out
    clear HW1 HGN
    obtain ⟨d0, d1, d2, d3, d4, d5, d6, d7, d8⟩ := N1.out.c
    have dl := N1.out.lt
    go_upto_region 2 with fail
    go_wp2_with (at_builtin; refine wp_append_sta exType rfl _ _ rfl _ out.length _ rfl O2.out [.string SN, .int .i64 x.kind, .bool x.weak, .int .u64 x.value, .int .u64 x.resolver, .int .u64 x.ordinal, .string (strOfNums x.other)] rfl W1.heap.size rfl X2.out (by rw [← SE.out]; exact ON.out) (by omega) (by decide) (Nat.zero_le _) ?_)
    intro v' W3 ho3 hg3 hv3
    obtain ⟨q3, c3, rfl⟩ := own_slice ho3
    have a3 := A2.out.kept hg3 (own_ne O2.out A2.out (by decide))
    have m3 := M2.out.kept hg3 (own_ne O2.out M2.out (by decide))
    have w3 := a3.c
    have f3 := a3.f
    have l3 := a3.lt
    have g4 := grown_setCell (i := 0) (grown_refl W3 (some cl)) (.slice q3 (out.length + 1) c3)
    have a4 := a3.set (.slice q3 (out.length + 1) c3)
    have hne4 : (Value.slice q3 (out.length + 1) c3).ownBlock ≠ some cl := own_ne ho3 a3 (by decide)
    have o4 := ho3.kept g4 (.inr hne4)
    have m4 := m3.kept g4 (by intro e; injection e with e; have := HG.out cl AG.out.1; omega)
    have ch4 : Chg G W (W3.setCell ⟨cl, 0, none⟩ (.slice q3 (out.length + 1) c3)) :=
      ((Chg.of_grown G2.out (fun b e => by cases e)).trans (Chg.of_grown hg3 (fun b e => .inl (AG.out.2 b e)))).trans (Chg.of_grown g4 (fun b e => by injection e with e; exact .inl (e ▸ AG.out.1)))
    have szz : W.heap.size ≤ (W1.alloc (.cells #[.string SN, .int .i64 x.kind, .bool x.weak, .int .u64 x.value, .int .u64 x.resolver, .int .u64 x.ordinal, .string (strOfNums x.other)] 33)).heap.size := G2.out.size
    obtain ⟨W4, hW4⟩ : ∃ W4, W3.setCell ⟨cl, 0, none⟩ (.slice q3 (out.length + 1) c3) = W4 := ⟨_, rfl⟩
    rw [hW4] at g4 a4 o4 m4 ch4
    have hv4 : ∀ g, (Value.slice q3 (out.length + 1) c3).ownBlock = some g → G g ∨ (W.heap.size ≤ g ∧ g < W4.heap.size) := fun g e => by
      rcases hv3 with h | h
      · rw [h] at e; exact .inl (AG.out.2 g e)
      · have h2 := (o4.lt g e).2
        rw [h] at e
        injection e with e
        exact .inr ⟨by omega, h2⟩
    have FN := Lib.hid (fun (L : List Kid) (er : Int) (qq : Option Addr) (cc : Nat) (hmt : mtAll out name ⟨some x, kids⟩ = (out ++ [(name, x)], L, er)) (hL : KidsAt W4 qq L) (hq : ∀ g o, qq = some ⟨g, o, none⟩ → (Value.slice q kids.length c).ownBlock = some g) (hcc : L.length ≤ cc) (hc3 : cc ≤ 9223372036854775807) =>
      (show MOut Out mtAll (InvAll cl) out name ⟨some x, kids⟩ (.slice q kids.length c) G W W4 (.returned (.tuple #[.slice qq L.length cc, .int .i64 er])) from
      ⟨⟨qq, cc, fun k => G k ∨ (Value.slice q3 (out.length + 1) c3).ownBlock = some k, by rw [hmt], by
        rw [hmt]
        refine ⟨q3, c3, ?_, ?_, .inl AG.out.1, ?_⟩
        · rw [List.length_append, List.length_singleton]; exact a4
        · rw [List.length_append, List.length_singleton, OC.out, SE.out]; exact o4
        · rw [List.length_append, List.length_singleton]; exact fun g e => .inr e, fun k hk => hk.elim .inl (hv4 k), by rw [hmt]; exact hL, hq, by rw [hmt]; exact hcc, hc3⟩, ch4⟩))
    have K4 := Lib.hid (KS.out W4 ch4)
    obtain ⟨e0, e1, e2, e3, e4, e5, e6, e7, e8⟩ := m4.c
    have ml4 := m4.lt
    have cl4 := a4.c
    have HW4 := Lib.hid hW4
    clear ho3 hg3 hv3 a3 m3 g4 a4 hne4 o4 m4 ch4 szz hv4 hW4 d0 d1 d2 d3 d4 d5 d6 d7 d8 dl c1 cl1 HGN2 KS
    by_cases hm : 4096 < out.length + 1
    · have dm : decide ((4096 : Int) < ((out.length + 1 : Nat) : Int)) = true := by simp; omega
      have dm2 : decide ((4096 : Int) < (out.length : Int) + 1) = true := by simp; omega
      have F2 := Lib.hid (FN.out [] 11 none 0 (by rw [EN.out, if_pos hm]) KidsAt.nil (fun g o e => by cases e) (Nat.le_refl _) (by decide))
      clear hm FN
      go_upto_region 3 with fail
      rw [HW4.out]
      clear HW4 w3 f3 l3
      go_wp2
      go_ret2
      exact F2.out
    · have dm : decide ((4096 : Int) < ((out.length + 1 : Nat) : Int)) = false := by simp; omega
      have dm2 : decide ((4096 : Int) < (out.length : Int) + 1) = false := by simp; omega
      have F2 := Lib.hid (FN.out kids 0 q c (by rw [EN.out, if_neg hm]) K4.out QV.out HK.out.1 HK.out.2)
      clear hm FN
      go_upto_region 3 with fail
      rw [HW4.out]
      clear HW4 w3 f3 l3
      go_wp2
      go_ret2
      exact F2.out
theorem allMeet (cl : Nat) : MeetOk Out 21 #[.pointer (some ⟨cl, 0, none⟩)] mtAll (fun _ => True) (fun out => out.length ≤ 4096) (InvAll cl) where
  enters := enters_of Try.func21 (by kernel_rfl) rfl
  kept := fun W V G s H h hg hd => invAll_kept h hg hd
  sub := fun s name nd x hx => by
    unfold mtAll at hx
    split at hx
    · cases hx
    · exact hx
  pre := fun _ _ _ _ _ _ => trivial
  next := fun s name nd hs he => by
    unfold mtAll at he ⊢
    split
    · rename_i h; rw [if_pos h] at he; cases he
    · rename_i h; exact Nat.le_of_not_lt h
  stop := fun s name nd he => by
    unfold mtAll at he ⊢
    split
    · rfl
    · rename_i h; rw [if_neg h] at he; exact absurd rfl he
  call := fun W G s name nd v base h hf _ _ hk ho hv hG => all1_any h hf hk ho hv hG
end Go.Proofs.Ytblfighfahffkaa
