/- Parts of the proof, put together: TrV, TrB, TrC, SortK, SortExp, TrO, TrG, TrF, TrH, TrJ, ApR, TrI, Name01. No condition beyond those that each part names. -/
import Derived.Shelf.Small.Bits
import Derived.Shelf.Small.Strs
import Derived.Shelf.Strconv.Itoa0
import Derived.Shelf.Strings.Search1
import Derived.Shelf.Bytes.SlIndexAt
import Derived.Shelf.Bytes.SlSearch0
import Derived.Ground.SlbCloneProg
import Derived.Shelf.Bytes.SlClone
import Derived.Shelf.Bytes.IndexByte
import Derived.Test.YtbnnlbdjjpmgeaaGreatProg
import Derived.Test.YtbnnlbdjjpmgeaaGreatRows
import Derived.WalkKit
import Derived.WalkSpells
import Derived.WalkLawsBesides
import Derived.BigQuiet
import Derived.Deep.QuietTactic
import Derived.Lib.Hide
import Derived.IntWalk
import Derived.OneCell
import Derived.Laws.Rows
import Derived.OpenShut
import Derived.ProofKit
import Derived.Lib.EndianBits
import Derived.RegionTactic
import Derived.ChangeAlike
import Derived.WalkMore
import Derived.Laws.BytesArg
import Derived.Shelf.Bytes.SlEqualAll
import Derived.Lib.SlFresh
import Derived.Maps.AppendAt
import Derived.Deep.AppendSrc
import Derived.Deep.Upon
import Derived.Lib.AppendZeros
import Derived.Laws.IdiomStrings
import Derived.Lib.AppendZerosOnto
import Derived.Laws.StructEq
import Derived.Below
import Derived.Shelf.Abstract
import Derived.Laws.ResultCell
import Derived.Deep.Slices
import Derived.ChangeSame
import Derived.Laws.OwnMore
import Derived.Laws.Slices
import Derived.Lib.ConvBytes
import Derived.StringKeys
import Derived.Maps.Own
import Derived.Maps.OwnOps
import Derived.Maps.OwnSet
import Derived.WideShapes
import Derived.Deep.Cut
import Derived.Deep.CutRange
import Derived.PlainAid
import Derived.Lib.SlBytesRow
import Derived.Deep.Onto
import Derived.Laws.EntriesVeiled
import Derived.Shelf.SlSortCmp.WholeK
import Derived.Shelf.SlGeneric
import Derived.Ground.SlsfProg
import Derived.Test.YtbnnlbdjjpmgeaaGreatPT2
import Derived.Test.YtbnnlbdjjpmgeaaGreatPT3
namespace Go.Proofs.YtbnnlbdjjpmgeaaGreat
open Go.RowKit
variable {w w' W V : World} {xs : List Int}

structure VOut (S : Type) (Fine : S → Prop) (z : Wfx) (xs : List Int) (Inv : World → (Nat → Prop) → S → Prop) (F : Nat → Prop) (W W' : World) (way : List Int) (r : Int × (Nat × S)) (e : Ending) : Prop where
  ret : e = .returned (.int .i64 r.1)
  ex : ∃ F', Wk S z xs Inv W' F' r.2.1 way r.2.2 ∧ ∀ k, F' k → F k ∨ W.heap.size ≤ k
  chg : Chg F W W'
  few : r.1 = 0 → r.2.1 ≤ 8192 ∧ Fine r.2.2
section
variable {S : Type} {mt : Mt S} {Pre : List Int → Prop} {Fine : S → Prop} {Inv : World → (Nat → Prop) → S → Prop} {z : Wfx}
theorem vis_go {k m : Nat} {way name : List Int} {pl : Int} {s : S} (hn : ¬ 255 < name.length) : vis xs mt (k + 1) way name pl (m, s) = if pl ∈ way then (12, (m + 1, s)) else if 8192 < m + 1 then (11, (m + 1, s)) else match ndAt xs pl with
      | none => (12, (m + 1, s))
      | some nd => visK (vis xs mt k (way ++ [pl])) name (mt s name nd).2.1 (mt s name nd).2.2 (m + 1, (mt s name nd).1) := by
  have e : vis xs mt (k + 1) way name pl (m, s) = if 255 < name.length then (10, (m + 1, s)) else if pl ∈ way then (12, (m + 1, s)) else if 8192 < m + 1 then (11, (m + 1, s)) else match ndAt xs pl with
      | none => (12, (m + 1, s))
      | some nd => visK (vis xs mt k (way ++ [pl])) name (mt s name nd).2.1 (mt s name nd).2.2 (m + 1, (mt s name nd).1) := rfl
  rw [e, if_neg hn]
theorem own_room8 {T : TypeId} {k n c base : Nat} {q : Option Addr} {ys : List Value} (h : W.ownsRow base T k (.slice q n c) n ys) : n ≤ c := by
  rcases h.2 with ⟨hv, hn⟩ | ⟨g, cp, cur, hv, _, _, hle, _⟩
  · omega
  · injection hv with _ _ e; omega
theorem VOut.at {F F0 : Nat → Prop} {W0 : World} {m : Nat} {way : List Int} {s : S} {r : Int} (h : Wk S z xs Inv V F m way s) (hF : ∀ k, F k → F0 k ∨ W0.heap.size ≤ k) (hg : Chg F0 W0 V) (hm : r = 0 → m ≤ 8192 ∧ Fine s) : VOut S Fine z xs Inv F0 W0 V way (r, (m, s)) (.returned (.int .i64 r)) :=
  ⟨rfl, ⟨F, h, hF⟩, hg, hm⟩
theorem chg_met {F : Nat → Prop} {m : Nat} {way : List Int} {s : S} (h : Wk S z xs Inv W F m way s) (v : Value) : Chg F W (W.setCell ⟨z.cmet, 0, none⟩ v) :=
  Chg.of_grown (grown_setCell (grown_refl W (some z.cmet)) v) (fun b e => by injection e with e; exact .inl (e ▸ h.fmet))
set_option maxRecDepth 20000 in
theorem visit_long (M : MeetOk S z.fm z.cbs mt Pre Fine Inv) {F : Nat → Prop} {m : Nat} {way : List Int} {s : S} (name : List Int) (pl : Int) (hn : 255 < name.length) (hn2 : name.length ≤ 510) (hm : m ≤ 8192) (h : Wk S z xs Inv W F m way s) :
    Calls Tryz.prog 66 #[.string (strOfNums name), .int .u64 pl, .pointer (some ⟨z.cmet, 0, none⟩), .pointer (some ⟨z.cway, 0, none⟩), .pointer (some ⟨z.cb, 0, none⟩), .pointer (some ⟨z.cm, 0, none⟩), .pointer (some ⟨z.cv, 0, none⟩)] W fun e W' =>
      VOut S Fine z xs Inv F W W' way (10, (m + 1, s)) e := by
  have c0 := h.met.c
  have f0 := h.met.f
  have hsz : (strOfNums name).size = name.length := strOfNums_size _
  have FN := Lib.hid (fun (N : Int) (hN : N = (m + 1 : Nat)) => VOut.at (Fine := Fine) (r := 10) (h.setMet M (m + 1) hN) (fun k hk => .inl hk) (chg_met h _) (fun e => by cases e))
  obtain ⟨nl, hnl⟩ : ∃ nl, nl = name.length := ⟨_, rfl⟩
  rw [← hnl] at hsz hn hn2
  have dn : decide ((255 : Int) < (nl : Int)) = true := by simp; omega
  generalize strOfNums name = SN at *
  clear h hnl
  go_enter Tryz.func66, Tryz.ntmps66
  go_wp2
  go_ret
  exact FN.out _ (by omega)
set_option maxRecDepth 20000 in
set_option maxHeartbeats 3200000 in
theorem visit_any (M : MeetOk S z.fm z.cbs mt Pre Fine Inv) (hb : Byt xs) (hc : xs.length ≤ z.c) (hcm : z.c ≤ 9223372036854775807) (hbig : xs.length ≤ 140737488355328) : ∀ (k : Nat) (W : World) (F : Nat → Prop) (m : Nat) (way : List Int) (s : S) (name : List Int) (pl : Int),
    256 ≤ k + name.length → name.length ≤ 510 → Pre name → 0 ≤ pl → pl < 18446744073709551616 → m ≤ 8192 → way.length ≤ name.length → Fine s → Wk S z xs Inv W F m way s →
    Calls Tryz.prog 66 #[.string (strOfNums name), .int .u64 pl, .pointer (some ⟨z.cmet, 0, none⟩), .pointer (some ⟨z.cway, 0, none⟩), .pointer (some ⟨z.cb, 0, none⟩), .pointer (some ⟨z.cm, 0, none⟩), .pointer (some ⟨z.cv, 0, none⟩)] W fun e W' =>
      VOut S Fine z xs Inv F W W' way (vis xs mt k way name pl (m, s)) e := by
  intro k
  induction k with
  | zero =>
    intro W F m way s name pl hk hn2 _ _ _ hm _ _ h
    exact visit_long M name pl (by omega) hn2 hm h
  | succ k ih =>
    intro W F m way s name pl hk hn2 hpre hp0 hp1 hm hway hfine h
    have FI := Lib.hid hfine
    clear hfine
    by_cases hn : 255 < name.length
    · have e : vis xs mt (k + 1) way name pl (m, s) = (10, (m + 1, s)) := by unfold vis; rw [if_pos hn]
      rw [e]
      exact visit_long M name pl hn hn2 hm h
    have IH := Lib.hid ih
    have PRE := Lib.hid hpre
    obtain ⟨qw, cw, a1, a2, a3⟩ := h.way
    have H1 := Lib.hid (fun (N : Int) (hN : N = (m + 1 : Nat)) => And.intro (h.setMet M (m + 1) hN) (chg_met h (.int .i64 N)))
    have c0 := h.met.c
    have f0 := h.met.f
    have hsz : (strOfNums name).size = name.length := strOfNums_size _
    have h1' := H1.out ((m : Int) + 1) (by omega)
    obtain ⟨W1, hW1⟩ : ∃ W1, W.setCell ⟨z.cmet, 0, none⟩ (.int .i64 ((m : Int) + 1)) = W1 := ⟨_, rfl⟩
    rw [hW1] at h1'
    have HW1 := Lib.hid hW1
    have K1 := Lib.hid h1'.1
    have C1 := Lib.hid h1'.2
    clear hW1 h1' H1 ih hpre h a1 a2 a3 qw cw
    obtain ⟨r, hr⟩ : ∃ r, r = vis xs mt (k + 1) way name pl (m, s) := ⟨_, rfl⟩
    rw [← hr]
    have HR := Lib.hid (show r = if pl ∈ way then (12, (m + 1, s)) else if 8192 < m + 1 then (11, (m + 1, s)) else match ndAt xs pl with
      | none => (12, (m + 1, s))
      | some nd => visK (vis xs mt k (way ++ [pl])) name (mt s name nd).2.1 (mt s name nd).2.2 (m + 1, (mt s name nd).1) from hr.trans (vis_go hn))
    clear hr
    have hnl : name.length ≤ 255 := by omega
    obtain ⟨SN, hSN⟩ : ∃ SN, SN = strOfNums name := ⟨_, rfl⟩
    obtain ⟨nl, hnl2⟩ : ∃ nl, nl = name.length := ⟨_, rfl⟩
    rw [← hSN] at hsz ⊢
    rw [← hnl2] at hsz hnl hn hn2 hk hway
    have HSN := Lib.hid hSN
    have HNL := Lib.hid hnl2
    clear hSN hnl2
    have dn : decide ((255 : Int) < (nl : Int)) = false := by simp; omega
    go_enter Tryz.func66, Tryz.ntmps66
    go_upto_region 2 with fail
    rw [HW1.out]
    clear HW1 c0 f0
    obtain ⟨qw, cw, a1, a2, a3⟩ := K1.out.way
    have w1 := a1.c
    have hwl : way.length ≤ 9223372036854775807 := by omega
    have FB1 := Lib.hid K1.out.fb
    have SZ1 := Lib.hid C1.out.size
    have CT := Lib.hid (contains64_any (w := W1) way way.length rfl hwl qw cw (U64At.of a2) pl)
    have AO := Lib.hid a2
    clear a1 a2 a3 hwl
    go_wp2_with fail
    refine CT.out.mono ?_
    rintro e W1' ⟨rfl, hw'⟩
    have hw2 := hw'.symm
    subst hw2
    clear hw'
    by_cases hin : pl ∈ way
    · have FN := Lib.hid (VOut.at (Fine := Fine) (r := 12) K1.out (fun k hk => .inl hk) C1.out (fun e => by cases e))
      rw [if_pos hin] at HR
      rw [show decide (pl ∈ way) = true from decide_eq_true hin]
      clear hin
      go_wp2
      go_ret
      rw [HR.out]
      exact FN.out
    rw [if_neg hin] at HR
    rw [show decide (pl ∈ way) = false from decide_eq_false hin]
    clear hin CT
    have c0 := K1.out.met.c
    by_cases hmm : 8192 < m + 1
    · have FN := Lib.hid (VOut.at (Fine := Fine) (r := 11) K1.out (fun k hk => .inl hk) C1.out (fun e => by cases e))
      rw [if_pos hmm] at HR
      have dm : decide ((8192 : Int) < ((m + 1 : Nat) : Int)) = true := by simp; omega
      have dm2 : decide ((8192 : Int) < (m : Int) + 1) = true := by simp; omega
      clear hmm
      go_wp2
      go_ret
      rw [HR.out]
      exact FN.out
    rw [if_neg hmm] at HR
    have dm : decide ((8192 : Int) < ((m + 1 : Nat) : Int)) = false := by simp; omega
    have dm2 : decide ((8192 : Int) < (m : Int) + 1) = false := by simp; omega
    have b0 := K1.out.bb.c
    have NA := Lib.hid (nodeAt_any (w := W1) K1.out.cell hc hcm hbig hb pl hp0 hp1 SN)
    go_wp2_with fail
    refine NA.out.mono ?_
    rintro e W2 ⟨hex, hg2⟩
    have hsz2 := hg2.size
    have K2 := Lib.hid (K1.out.grown M hg2)
    have C2 := Lib.hid (C1.out.trans (Chg.of_grown hg2 (fun b e => by cases e)))
    clear hg2 NA b0 c0 dm dm2 K1 C1
    rcases hex with ⟨nd, v, hnd, rfl, ho⟩ | ⟨hnd, rfl⟩
    case inr =>
      rw [hnd] at HR
      have GZ := Lib.hid (fun (o : Obj) => And.intro (K2.out.grown M (grown1 W2 o)) (C2.out.trans (Chg.of_grown (grown1 W2 o) (fun b e => by cases e))))
      have FN := Lib.hid (fun (o : Obj) => VOut.at (Fine := Fine) (r := 12) (GZ.out o).1 (fun k hk => .inl hk) (GZ.out o).2 (fun e => by cases e))
      unfold nodeV
      go_wp2
      go_ret
      rw [HR.out]
      exact FN.out _
    case inl =>
      rw [hnd] at HR
      have NK := Lib.hid (ndAt_ok hb hnd)
      have SZ2 := Lib.hid (show W1.heap.size ≤ W2.heap.size from hsz2)
      obtain ⟨qn, cn, rfl⟩ := own_slice ho
      have NV := Lib.hid (fun g (e : (Value.slice qn nd.kids.length cn).ownBlock = some g) => (ho.lt g e))
      have HC := Lib.hid (HR.out)
      simp only [] at HC
      clear HR hnd
      have g3 := grown1 W2 (.cells #[.bool nd.ex.isSome, .string (nmOf SN nd.ex), .int .i64 (exOf nd.ex).kind, .bool (exOf nd.ex).weak, .int .u64 (exOf nd.ex).value, .int .u64 (exOf nd.ex).resolver, .int .u64 (exOf nd.ex).ordinal, .string (strOfNums (exOf nd.ex).other), .slice qn nd.kids.length cn] 88)
      have N3 := Lib.hid (show NodeAt (W2.alloc (.cells #[.bool nd.ex.isSome, .string (nmOf SN nd.ex), .int .i64 (exOf nd.ex).kind, .bool (exOf nd.ex).weak, .int .u64 (exOf nd.ex).value, .int .u64 (exOf nd.ex).resolver, .int .u64 (exOf nd.ex).ordinal, .string (strOfNums (exOf nd.ex).other), .slice qn nd.kids.length cn] 88)) W2.heap.size nd.ex.isSome (nmOf SN nd.ex) (exOf nd.ex) (.slice qn nd.kids.length cn) from heap_alloc_new W2 _)
      have K3 := Lib.hid (K2.out.grown M g3)
      have C3 := Lib.hid (C2.out.trans (Chg.of_grown g3 (fun b e => by cases e)))
      have O3 := Lib.hid (own_grown ho g3)
      unfold nodeV
      obtain ⟨nb, hnb⟩ : ∃ x, x = nd.ex.isSome := ⟨_, rfl⟩
      obtain ⟨nn, hnn⟩ : ∃ x, x = nmOf SN nd.ex := ⟨_, rfl⟩
      obtain ⟨nx, hnx⟩ : ∃ x, x = exOf nd.ex := ⟨_, rfl⟩
      obtain ⟨kl, hkl⟩ : ∃ x, x = nd.kids.length := ⟨_, rfl⟩
      rw [← hnb, ← hnn, ← hnx, ← hkl] at N3 K3 C3 O3
      rw [← hkl] at NV
      rw [← hnb, ← hnn, ← hnx, ← hkl]
      have EQ := Lib.hid (And.intro hnb (And.intro hnn (And.intro hnx hkl)))
      clear hnb hnn hnx hkl g3 ho K2 C2
      obtain ⟨W3, hW3⟩ : ∃ W3, W2.alloc (.cells #[.bool nb, .string nn, .int .i64 nx.kind, .bool nx.weak, .int .u64 nx.value, .int .u64 nx.resolver, .int .u64 nx.ordinal, .string (strOfNums nx.other), .slice qn kl cn] 88) = W3 := ⟨_, rfl⟩
      obtain ⟨gn, hgn⟩ : ∃ gn, W2.heap.size = gn := ⟨_, rfl⟩
      rw [hW3] at N3 K3 C3 O3
      rw [hgn] at N3
      have HW3 := Lib.hid hW3
      have HGN := Lib.hid hgn
      have HGN2 := Lib.hid hgn
      clear hW3 hgn
      go_upto_region 9 with fail
      rw [HW3.out, HGN.out]
      clear HW3 HGN
      obtain ⟨G, b1, b2, b3, b4, b5⟩ := K3.out.inv
      have hGF : ∀ k, G k → k < W1.heap.size := fun k hk => (FB1.out k (b1 k hk)).2
      have MC := M.call W3 G s name nd (.slice qn nd.kids.length cn) _ b2 FI.out PRE.out (by rw [← HNL.out]; exact hnl) NK.out (by rw [← EQ.out.2.2.2]; exact O3.out) (fun g e hg => by
        have h1 := (NV.out g (by rw [EQ.out.2.2.2]; exact e)).1
        have h2 := hGF g hg
        omega) (fun k hk => (K3.out.fb k (b1 k hk)).2)
      rw [← HSN.out, ← EQ.out.1, ← EQ.out.2.1, ← EQ.out.2.2.1, ← EQ.out.2.2.2] at MC
      unfold nodeV at MC
      have SUB := Lib.hid (M.sub s name nd)
      have PRK := Lib.hid (M.pre s name nd PRE.out)
      have NXT := Lib.hid (M.next s name nd FI.out)
      have STO := Lib.hid (M.stop s name nd)
      have TL := Lib.hid (fun V G' s' (hi : Inv V G' s') hG (hg : Chg G W3 V) => And.intro (K3.out.told b1 b3 b4 b5 hi hG hg) (C3.out.trans (hg.mono b1)))
      have MCH := Lib.hid MC
      have m0 := K3.out.me.c
      have EN := Lib.hid M.enters
      have N3l := N3.out.lt
      obtain ⟨d0, d1, d2, d3, d4, d5, d6, d7, d8⟩ := N3.out.c
      have SZ3 := Lib.hid C3.out.size
      have SZ23 := Lib.hid (show gn < W3.heap.size from N3.out.lt)
      clear MC b1 b2 b3 b4 b5 hGF O3
      have en := fun args V => M.enters args V
      go_wp2_with fail
      refine MCH.out.mono ?_
      rintro e W4 ⟨⟨q, c, G', rfl, i4, hG4, kd4, hq4, hlc, hcc⟩, hch⟩
      have K4C4 := TL.out _ _ _ i4 hG4 hch
      have hF4 : ∀ k, Foot F W3 W4 k → F k ∨ W.heap.size ≤ k := fun k hk => hk.elim .inl (fun hk => .inr (by have := SZ3.out; omega))
      have QB4 : ∀ g o, q = some ⟨g, o, none⟩ → ¬ Foot F W3 W4 g ∧ g < W4.heap.size := fun g o e => by
        have h1 := NV.out g (hq4 g o e)
        have h2 := K4C4.1.base
        refine ⟨fun e => e.elim (fun e => by have := (FB1.out g e).2; omega) (fun e => by have := SZ23.out; have := HGN2.out; omega), ?_⟩
        have := hch.size; have := SZ23.out; have := HGN2.out; omega
      have K4 := Lib.hid K4C4.1
      have C4 := Lib.hid K4C4.2
      have HF4 := Lib.hid hF4
      have QB := Lib.hid QB4
      have KD4 := Lib.hid kd4
      obtain ⟨⟨s4, L, e0⟩, hmt⟩ : ∃ x, x = mt s name nd := ⟨_, rfl⟩
      rw [← hmt] at K4 KD4 SUB PRK HC NXT STO hlc
      have FS := Lib.hid (show ∀ j, (j < L.length ∨ e0 = 0) → Fine s4 from fun j hj => NXT.out (hj.elim (fun hj => Classical.byContradiction fun h0 => by have h1 : L = [] := STO.out h0; rw [h1] at hj; simp at hj) id))
      simp only [← hmt] at hlc ⊢
      have HL := Lib.hid (And.intro hlc hcc)
      clear hmt i4 hG4 kd4 hq4 hch K4C4 hF4 QB4 hlc hcc TL MCH m0 d0 d1 d2 d3 d4 d5 d6 d7 d8 N3l SZ3 SZ23 K3 C3 N3 NV EQ EN en
      have hLc : L.length ≤ c := HL.out.1
      have hc63 : c ≤ 9223372036854775807 := HL.out.2
      obtain ⟨qy, cy, a1, a2, a3⟩ := K4.out.way
      have w4 := a1.c
      have f4 := a1.f
      have l4 := a1.lt
      have g5 := grown1 W4 (.cells #[.int .u64 pl] 26)
      have O5 := Lib.hid (own_grown a2 g5)
      have N5 := Lib.hid (heap_alloc_new W4 (.cells #[.int .u64 pl] 26))
      have A5 := Lib.hid (a1.grown g5)
      have SZ4 := Lib.hid (show z.B ≤ W4.heap.size from K4.out.base)
      have PU := Lib.hid (fun (V : Value) (W2 : World) h1 h2 h3 => K4.out.push M pl w4 g5 (v' := V) (W2 := W2) h1 h2 h3)
      clear a1 a2 a3 g5
      go_upto_region 12 with fail
      go_wp2_with (at_builtin; refine wp_append_sta u64Type rfl _ _ rfl _ way.length _ rfl O5.out [.int .u64 pl] rfl W4.heap.size rfl N5.out (fun u hu => by simp at hu; subst hu; rfl) (by omega) (by decide) ?_ ?_)
      · have := SZ4.out; (try rw [World.size_alloc]); omega
      intro v' W5 ho5 hg5 hv5
      obtain ⟨q5, c5, rfl⟩ := own_slice ho5
      have a6 := A5.out.kept hg5 (own_ne O5.out A5.out (by decide))
      have c6 := a6.c
      have f6 := a6.f
      have l6 := a6.lt
      have K6C6 := PU.out _ _ ho5 hg5 (by rw [World.size_alloc]; exact hv5)
      obtain ⟨W6, hW6⟩ : ∃ W6, W5.setCell ⟨z.cway, 0, none⟩ (.slice q5 (way.length + 1) c5) = W6 := ⟨_, rfl⟩
      rw [hW6] at K6C6
      have hF6 : ∀ k, Foot (Foot F W3 W4) W4 W6 k → F k ∨ W.heap.size ≤ k := fun k hk => hk.elim (HF4.out k) (fun hk => .inr (by have := C4.out.size; omega))
      have K6 := Lib.hid K6C6.1
      have C6 := Lib.hid (show Chg F W W6 from ⟨K6C6.2.os.trans C4.out.os, K6C6.2.tape.trans C4.out.tape, K6C6.2.output.trans C4.out.output, Nat.le_trans C4.out.size K6C6.2.size, fun i hi hf => (K6C6.2.block i (Nat.lt_of_lt_of_le hi C4.out.size) (fun e => (HF4.out i e).elim hf (fun e => by omega))).trans (C4.out.block i hi hf)⟩)
      have KD6 := Lib.hid (KD4.out.chg K6C6.2 (fun g o e => (QB.out g o e).1))
      have QB6 := Lib.hid (show ∀ g o, q = some ⟨g, o, none⟩ → ¬ Foot (Foot F W3 W4) W4 W6 g from fun g o e hk => hk.elim (QB.out g o e).1 (fun hk => by have := (QB.out g o e).2; omega))
      have HF6 := Lib.hid hF6
      have HW6 := Lib.hid hW6
      clear ho5 hg5 hv5 a6 K6C6 hF6 hW6 PU O5 N5 A5 K4 C4 HF4 QB KD4 w4 f4 l4
      go_upto_region 13 with fail
      rw [HW6.out]
      clear HW6 c6 f6 l6
      go_wp2_with fail
      go_loopw [13, 51] (fun er i wr => ∃ (j : Nat) (ej : Int) (F' : Nat → Prop) (m' : Nat) (s' : S), j ≤ L.length ∧ i = .int .i64 j ∧ er = .int .i64 ej ∧ Wk S z xs Inv wr F' m' (way ++ [pl]) s' ∧ (∀ k, F' k → F k ∨ W.heap.size ≤ k) ∧ Chg F W wr ∧ KidsAt wr q L ∧ (∀ g o, q = some ⟨g, o, none⟩ → ¬ F' g) ∧ Hid (r = visK (vis xs mt k (way ++ [pl])) name (L.drop j) ej (m', s')) ∧ m' ≤ 8192 ∧ Hid ((j < L.length ∨ ej = 0) → Fine s')) (fun _ i _ => L.length - (intOf i).toNat)
      case atStart => exact ⟨0, e0, _, m + 1, s4, Nat.zero_le _, rfl, rfl, K6.out, HF6.out, C6.out, KD6.out, QB6.out, Lib.hid HC.out, by omega, Lib.hid (FS.out 0)⟩
      case round =>
        obtain ⟨j, ej, F', m', s', hj, rfl, rfl, hK, hF', hC, hKd, hQ, CO, hm', FJ⟩ := hrel
        have K7 := Lib.hid hK
        have F7 := Lib.hid hF'
        have C7 := Lib.hid hC
        have Q7 := Lib.hid hQ
        have KD7 := Lib.hid hKd
        clear hK hF' hC hQ hKd
        by_cases hlt : j < L.length
        · obtain ⟨x, hx⟩ : ∃ x, L[j]? = some x := ⟨_, List.getElem?_eq_getElem hlt⟩
          have hxm := List.mem_of_getElem? hx
          have KO := Lib.hid (NK.out.kids.each x (SUB.out x hxm))
          have PX := Lib.hid (PRK.out x hxm)
          have CO2 := Lib.hid (show r = if (vis xs mt k (way ++ [pl]) (name ++ x.1) x.2 (m', s')).1 ≠ 0 then vis xs mt k (way ++ [pl]) (name ++ x.1) x.2 (m', s') else visK (vis xs mt k (way ++ [pl])) name (L.drop (j + 1)) 0 (vis xs mt k (way ++ [pl]) (name ++ x.1) x.2 (m', s')).2 by
            obtain ⟨hjj, he⟩ := List.getElem?_eq_some_iff.1 hx
            have h := CO.out
            rw [List.drop_eq_getElem_cons hjj, he] at h
            exact h)
          obtain ⟨gq, oq, rfl, c0, c1⟩ := KD7.out j x hx
          obtain ⟨xe, xp⟩ := x
          have hcat : SN ++ strOfNums xe = strOfNums (name ++ xe) := by rw [HSN.out, strOfNums_app]
          simp only [] at c0 c1 KO PX CO2
          have g8 := grown1 wr (.cells #[.string (strOfNums xe), .int .u64 xp] 140)
          have X8 := Lib.hid (show KidIn (wr.alloc (.cells #[.string (strOfNums xe), .int .u64 xp] 140)) wr.heap.size (xe, xp) from heap_alloc_new wr _)
          have K8 := Lib.hid (K7.out.grown M g8)
          have C8 := Lib.hid (C7.out.trans (Chg.of_grown g8 (fun b e => by cases e)))
          have KD8 := Lib.hid (KD7.out.grown g8)
          have QS8 := Lib.hid (show gq < wr.heap.size from by have := World.block_lt_of_cell? wr _ c0; exact this)
          obtain ⟨w8, hw8⟩ : ∃ w8, wr.alloc (.cells #[.string (strOfNums xe), .int .u64 xp] 140) = w8 := ⟨_, rfl⟩
          obtain ⟨gk, hgk⟩ : ∃ gk, wr.heap.size = gk := ⟨_, rfl⟩
          rw [hw8] at X8 K8 C8 KD8
          rw [hgk] at X8 QS8
          have HW8 := Lib.hid hw8
          have HGK := Lib.hid hgk
          have S8 := Lib.hid (show gk < w8.heap.size from X8.out.lt)
          have X1 := Lib.hid (show 1 ≤ xe.length by
            have h := KO.out.ne
            cases xe with
            | nil => exact absurd rfl h
            | cons => simp)
          have hsx : (strOfNums xe).size = xe.length := strOfNums_size _
          have hxl : xe.length ≤ 255 := KO.out.len
          have dl : decide ((j : Int) < (L.length : Int)) = true := by simp; omega
          have hjl : (j : Int) < (L.length : Int) := by omega
          clear g8 hw8 hgk hx hxm K7 C7 KD7 CO
          go_upto_region 16 with fail
          rw [HW8.out, HGK.out]
          clear HW8 HGK c0 c1
          have x0 := X8.out.c0
          have x1 := X8.out.c1
          have xl := X8.out.lt
          have v0 := K8.out.vi.c
          unfold Wfx.caps at v0
          have CALL := Lib.hid (IH.out w8 F' m' (way ++ [pl]) s' (name ++ xe) xp (by rw [List.length_append, ← HNL.out]; have := X1.out; omega) (by rw [List.length_append, ← HNL.out]; have := KO.out.len; simp only [] at this; omega) PX.out KO.out.lo KO.out.hi hm'
            (by rw [List.length_append, List.length_append, List.length_singleton, ← HNL.out]; have := X1.out; omega) (FJ.out (.inl hlt)) K8.out)
          obtain ⟨⟨R, m9, s9⟩, hR⟩ : ∃ x, x = vis xs mt k (way ++ [pl]) (name ++ xe) xp (m', s') := ⟨_, rfl⟩
          rw [← hR] at CALL CO2
          clear hR
          go_wp2_with fail
          refine CALL.out.mono ?_
          rintro e w9 ⟨rfl, ⟨F9, k9, f9⟩, c9, few9⟩
          have K9 := Lib.hid k9
          have F9H := Lib.hid (show ∀ k, F9 k → F k ∨ W.heap.size ≤ k from fun k hk => (f9 k hk).elim (F7.out k) (fun e => .inr (by have := C8.out.size; omega)))
          have C9 := Lib.hid (show Chg F W w9 from ⟨c9.os.trans C8.out.os, c9.tape.trans C8.out.tape, c9.output.trans C8.out.output, Nat.le_trans C8.out.size c9.size, fun i hi hn => (c9.block i (Nat.lt_of_lt_of_le hi C8.out.size) (fun e => (F7.out i e).elim hn (fun e => by omega))).trans (C8.out.block i hi hn)⟩)
          have KD9 := Lib.hid (KD8.out.chg c9 Q7.out)
          have Q9 := Lib.hid (show ∀ g o, (some ⟨gq, oq, none⟩ : Option Addr) = some ⟨g, o, none⟩ → ¬ F9 g from fun g o e hk => (f9 g hk).elim (Q7.out g o e) (fun h => by
            injection e with e; injection e with e _ _; subst e
            have := QS8.out; have := S8.out; omega))
          have FEW9 := Lib.hid few9
          simp only [] at K9 FEW9 CO2
          clear k9 f9 c9 few9 CALL K8 C8 KD8 QS8 S8 X8 x0 x1 xl v0 hcat
          by_cases hR0 : R = 0
          · have dr : (R != 0) = false := by rw [hR0]; rfl
            have CO3 := Lib.hid (show r = visK (vis xs mt k (way ++ [pl])) name (L.drop (j + 1)) 0 (m9, s9) by
              have h := CO2.out
              rw [if_neg (fun h => h hR0)] at h
              exact h)
            have M9 := Lib.hid (FEW9.out hR0)
            clear CO2 FEW9
            subst hR0
            go_wp2
            go_roundw
            case rel => exact ⟨j + 1, 0, F9, m9, s9, hlt, by go_num, rfl, K9.out, F9H.out, C9.out, KD9.out, Q9.out, Lib.hid CO3.out, M9.out.1, Lib.hid (fun _ => M9.out.2)⟩
            case measure => simp [intOf]; omega
          · have dr : (R != 0) = true := by simpa using hR0
            have RQ := Lib.hid (show r = (R, (m9, s9)) by
              have h := CO2.out
              rw [if_pos hR0] at h
              exact h)
            have HR0 := Lib.hid hR0
            clear CO2 hR0
            have FWX := Lib.hid (And.intro (F9H.out) (C9.out))
            obtain ⟨q8, c8, a1, a2, a3⟩ := (K9.out).way
            have PP := Lib.hid (fun hc => Wk.pop M (K9.out) (q := q8) (cap := c8) hc)
            obtain ⟨b8, o8, hq8⟩ : ∃ b o, q8 = some ⟨b, o, none⟩ := by
              rcases a2.2 with ⟨_, hn⟩ | ⟨g, cp, cur, hv, _⟩
              · rw [List.length_append, List.length_singleton] at hn; omega
              · injection hv with hv _ _; exact ⟨g, 0, hv⟩
            subst hq8
            have hN8 : (way ++ [pl]).length = way.length + 1 := by rw [List.length_append, List.length_singleton]
            have hr8 : (way ++ [pl]).length ≤ c8 := own_room8 a2
            obtain ⟨N8, hNN⟩ : ∃ n, n = (way ++ [pl]).length := ⟨_, rfl⟩
            rw [← hNN] at a1 PP hN8 hr8
            have hsub8 : (N8 : Int) - 1 = (way.length : Int) := by omega
            have CH := cut_hi (T := 124) (k := 1) (by kernel_rfl) (fun W => by kernel_rfl) b8 o8 N8 c8 way.length .i64 (by omega)
            have w8 := a1.c
            have f8 := a1.f
            have l8 := a1.lt
            have FN := Lib.hid (show VOut S Fine z xs Inv F W _ way r (.returned (.int .i64 R)) by
              have h := PP.out w8
              have hf := FWX.out
              rw [RQ.out]
              exact VOut.at h.1 hf.1 (⟨h.2.os.trans hf.2.os, h.2.tape.trans hf.2.tape, h.2.output.trans hf.2.output, Nat.le_trans hf.2.size h.2.size, fun i hi hn => (h.2.block i (Nat.lt_of_lt_of_le hi hf.2.size) (fun e => (hf.1 i e).elim hn (fun e => by omega))).trans (hf.2.block i hi hn)⟩) (fun e => absurd e HR0.out))
            have hN863 : way.length ≤ 9223372036854775807 := by omega
            clear a1 a2 a3 hNN
            go_wp2
            go_ret
            exact FN.out
        · have hjL : j = L.length := by omega
          have RQ := Lib.hid (show r = (ej, (m', s')) by
            have h := CO.out
            rw [hjL, List.drop_length] at h
            exact h)
          have dl : decide ((j : Int) < (L.length : Int)) = false := by simp; omega
          have dl2 : decide (j < L.length) = false := by simp; omega
          clear CO hjL hlt
          have FWX := Lib.hid (And.intro (F7.out) (C7.out))
          obtain ⟨q8, c8, a1, a2, a3⟩ := (K7.out).way
          have PP := Lib.hid (fun hc => Wk.pop M (K7.out) (q := q8) (cap := c8) hc)
          obtain ⟨b8, o8, hq8⟩ : ∃ b o, q8 = some ⟨b, o, none⟩ := by
            rcases a2.2 with ⟨_, hn⟩ | ⟨g, cp, cur, hv, _⟩
            · rw [List.length_append, List.length_singleton] at hn; omega
            · injection hv with hv _ _; exact ⟨g, 0, hv⟩
          subst hq8
          have hN8 : (way ++ [pl]).length = way.length + 1 := by rw [List.length_append, List.length_singleton]
          have hr8 : (way ++ [pl]).length ≤ c8 := own_room8 a2
          obtain ⟨N8, hNN⟩ : ∃ n, n = (way ++ [pl]).length := ⟨_, rfl⟩
          rw [← hNN] at a1 PP hN8 hr8
          have hsub8 : (N8 : Int) - 1 = (way.length : Int) := by omega
          have CH := cut_hi (T := 124) (k := 1) (by kernel_rfl) (fun W => by kernel_rfl) b8 o8 N8 c8 way.length .i64 (by omega)
          have w8 := a1.c
          have f8 := a1.f
          have l8 := a1.lt
          have FN := Lib.hid (show VOut S Fine z xs Inv F W _ way r (.returned (.int .i64 ej)) by
            have h := PP.out w8
            have hf := FWX.out
            rw [RQ.out]
            exact VOut.at h.1 hf.1 (⟨h.2.os.trans hf.2.os, h.2.tape.trans hf.2.tape, h.2.output.trans hf.2.output, Nat.le_trans hf.2.size h.2.size, fun i hi hn => (h.2.block i (Nat.lt_of_lt_of_le hi hf.2.size) (fun e => (hf.1 i e).elim hn (fun e => by omega))).trans (hf.2.block i hi hn)⟩) (fun h => ⟨hm', FJ.out (.inr h)⟩))
          have hN863 : way.length ≤ 9223372036854775807 := by omega
          clear a1 a2 a3 hNN
          go_wp2
          go_ret
          exact FN.out
end
end Go.Proofs.YtbnnlbdjjpmgeaaGreat


namespace Go.Proofs.YtbnnlbdjjpmgeaaGreat
open Go.RowKit
variable {w w' W V : World} {xs : List Int}

def walkN {S : Type} (xs : List Int) (mt : Mt S) (s : S) : Int × S := if xs = [] then (0, s) else ((vis xs mt 257 [] [] 0 (0, s)).1, (vis xs mt 257 [] [] 0 (0, s)).2.2)
structure WOut (S : Type) (Fine : S → Prop) (Inv : World → (Nat → Prop) → S → Prop) (G : Nat → Prop) (W W' : World) (r : Int × S) (e : Ending) : Prop where
  ret : e = .returned (.int .i64 r.1)
  ex : ∃ G', Inv W' G' r.2 ∧ ∀ k, G' k → G k ∨ W.heap.size ≤ k
  chg : Chg G W W'
  few : r.1 = 0 → Fine r.2
section
variable {S : Type} {mt : Mt S} {Pre : List Int → Prop} {Fine : S → Prop} {Inv : World → (Nat → Prop) → S → Prop} {fm : Nat} {cbs : Array Value}
set_option maxRecDepth 20000 in
set_option maxHeartbeats 1600000 in
theorem walk_any (M : MeetOk S fm cbs mt Pre Fine Inv) (hp : Pre []) {G : Nat → Prop} {s : S} (hfs : Fine s) (hi : Inv W G s) (hG : ∀ k, G k → k < W.heap.size) {b o c : Nat} (hx : ∀ i, i < xs.length → W.cell? ⟨b, o + i, none⟩ = some (.int .u8 (xs.getD i 0))) (hn : xs ≠ []) (hgb : ¬ G b)
    (hb : Byt xs) (hc : xs.length ≤ c) (hcm : c ≤ 9223372036854775807) (hbig : xs.length ≤ 140737488355328) :
    Calls Tryz.prog 34 #[.slice (some ⟨b, o, none⟩) xs.length c, .func (.func fm) #[] cbs] W fun e W' => WOut S Fine Inv G W W' (walkN xs mt s) e := by
  have hz : 0 < xs.length := by
    cases xs with
    | nil => exact absurd rfl hn
    | cons => simp
  have hbl := World.block_lt_of_cell? W _ (hx 0 hz)
  simp only at hbl
  have dz : decide ((xs.length : Int) = 0) = false := by simp; omega
  have dz2 : ((xs.length : Int) == 0) = false := by rw [beq_eq_false_iff_ne]; omega
  obtain ⟨n, hn'⟩ : ∃ n, n = W.heap.size := ⟨_, rfl⟩
  rw [← hn'] at hbl hG
  have g0 := grown1 W (.cells #[.slice (some ⟨b, o, none⟩) xs.length c] 29)
  have o0 := OneAt.new W (.slice (some ⟨b, o, none⟩) xs.length c) 29
  have z0 : (W.alloc (.cells #[.slice (some ⟨b, o, none⟩) xs.length c] 29)).heap.size = n + 1 := by rw [World.size_alloc, hn']
  rw [← hn'] at o0
  obtain ⟨V0, hV0⟩ : ∃ V0, W.alloc (.cells #[.slice (some ⟨b, o, none⟩) xs.length c] 29) = V0 := ⟨_, rfl⟩
  rw [hV0] at g0 o0 z0
  have g1 := grown1 V0 (.cells #[.func (.func fm) #[] cbs] 89)
  have o1 := OneAt.new V0 (.func (.func fm) #[] cbs) 89
  have z1 : (V0.alloc (.cells #[.func (.func fm) #[] cbs] 89)).heap.size = n + 1 + 1 := by rw [World.size_alloc, z0]
  rw [z0] at o1
  obtain ⟨V1, hV1⟩ : ∃ V1, V0.alloc (.cells #[.func (.func fm) #[] cbs] 89) = V1 := ⟨_, rfl⟩
  rw [hV1] at g1 o1 z1
  have g2 := grown1 V1 (.cells #[.int .i64 0] 3)
  have o2 := OneAt.new V1 (.int .i64 0) 3
  have z2 : (V1.alloc (.cells #[.int .i64 0] 3)).heap.size = n + 1 + 1 + 1 := by rw [World.size_alloc, z1]
  rw [z1] at o2
  obtain ⟨V2, hV2⟩ : ∃ V2, V1.alloc (.cells #[.int .i64 0] 3) = V2 := ⟨_, rfl⟩
  rw [hV2] at g2 o2 z2
  have g3 := grown1 V2 (.cells #[.slice none 0 0] 124)
  have o3 := OneAt.new V2 (.slice none 0 0) 124
  have z3 : (V2.alloc (.cells #[.slice none 0 0] 124)).heap.size = n + 1 + 1 + 1 + 1 := by rw [World.size_alloc, z2]
  rw [z2] at o3
  obtain ⟨V3, hV3⟩ : ∃ V3, V2.alloc (.cells #[.slice none 0 0] 124) = V3 := ⟨_, rfl⟩
  rw [hV3] at g3 o3 z3
  have g4 := grown1 V3 (.cells #[.nilFunc] 134)
  have o4 := OneAt.new V3 .nilFunc 134
  have z4 : (V3.alloc (.cells #[.nilFunc] 134)).heap.size = n + 1 + 1 + 1 + 1 + 1 := by rw [World.size_alloc, z3]
  rw [z3] at o4
  obtain ⟨V4, hV4⟩ : ∃ V4, V3.alloc (.cells #[.nilFunc] 134) = V4 := ⟨_, rfl⟩
  rw [hV4] at g4 o4 z4
  have g5 := grown_setCell (i := 0) (grown_refl V4 (some (n + 1 + 1 + 1 + 1))) (.func (.func 66) #[] #[.pointer (some ⟨n + 1 + 1, 0, none⟩), .pointer (some ⟨n + 1 + 1 + 1, 0, none⟩), .pointer (some ⟨n, 0, none⟩), .pointer (some ⟨n + 1, 0, none⟩), .pointer (some ⟨n + 1 + 1 + 1 + 1, 0, none⟩)])
  have o5 := o4.set (.func (.func 66) #[] #[.pointer (some ⟨n + 1 + 1, 0, none⟩), .pointer (some ⟨n + 1 + 1 + 1, 0, none⟩), .pointer (some ⟨n, 0, none⟩), .pointer (some ⟨n + 1, 0, none⟩), .pointer (some ⟨n + 1 + 1 + 1 + 1, 0, none⟩)])
  have c4 := o4.c
  have f4 := o4.f
  have l4 := o4.lt
  obtain ⟨V5, hV5⟩ : ∃ V5, V4.setCell ⟨n + 1 + 1 + 1 + 1, 0, none⟩ (.func (.func 66) #[] #[.pointer (some ⟨n + 1 + 1, 0, none⟩), .pointer (some ⟨n + 1 + 1 + 1, 0, none⟩), .pointer (some ⟨n, 0, none⟩), .pointer (some ⟨n + 1, 0, none⟩), .pointer (some ⟨n + 1 + 1 + 1 + 1, 0, none⟩)]) = V5 := ⟨_, rfl⟩
  rw [hV5] at g5 o5
  have g04 := grown_trans (grown_trans (grown_trans (grown_trans g0 g1) g2) g3) g4
  have g14 := grown_trans (grown_trans (grown_trans g1 g2) g3) g4
  have ch5 : Chg (fun k => n < k) W V5 := (Chg.of_grown g04 (fun b e => by cases e)).trans (Chg.of_grown g5 (fun b e => by injection e with e; exact .inl (by omega)))
  have s5 : V5.heap.size = n + 1 + 1 + 1 + 1 + 1 := by rw [← hV5, ← z4]; simp
  have ne4 : ∀ k, k ≠ n + 1 + 1 + 1 + 1 → (some (n + 1 + 1 + 1 + 1) : Option Nat) ≠ some k := fun k hk e => by injection e with e; omega
  have K5 := Lib.hid (show Wk S ⟨0, n + 1 + 1, n + 1 + 1 + 1, n, n + 1, n + 1 + 1 + 1 + 1, b, o, c, fm, cbs⟩ xs Inv V5 (fun k => G k ∨ k = n + 1 + 1 ∨ k = n + 1 + 1 + 1) 0 [] s from
    { met := ((o2.grown g3).grown g4).kept g5 (ne4 _ (by omega))
      way := ⟨none, 0, (o3.grown g4).kept g5 (ne4 _ (by omega)), World.ownsRow_nil _ _ _ _, fun g e => by cases e⟩
      inv := ⟨G, fun k hk => .inl hk, M.kept _ _ _ _ _ hi ch5 (fun k hk e => by have := hG k hk; omega), fun hk => by have := hG _ hk; simp only at this; omega, fun hk => by have := hG _ hk; simp only at this; omega, fun q n' cap e g eg hk => by
        rw [((o3.grown g4).kept g5 (ne4 _ (by omega))).c] at e
        injection e with e; injection e with e1 e2 e3; subst e1; cases eg⟩
      fmet := .inr (.inl rfl)
      fway := .inr (.inr rfl)
      fb := fun k hk => ⟨Nat.zero_le _, by rw [s5]; rcases hk with hk | hk | hk; have := hG k hk; omega; omega; omega⟩
      bb := (o0.grown g14).kept g5 (ne4 _ (by omega))
      me := (((o1.grown g2).grown g3).grown g4).kept g5 (ne4 _ (by omega))
      vi := o5
      nb := fun hk => hk.elim (fun hk => by have := hG _ hk; simp only at this; omega) (fun hk => by simp only at hk; omega)
      nm := fun hk => hk.elim (fun hk => by have := hG _ hk; simp only at this; omega) (fun hk => by simp only at hk; omega)
      nv := fun hk => hk.elim (fun hk => by have := hG _ hk; simp only at this; omega) (fun hk => by simp only at hk; omega)
      cell := fun i hi => cell_chg (hx i hi) ch5 (by simp only; omega)
      nx := fun hk => hk.elim hgb (fun hk => by simp only at hk; omega)
      ne := by simp only; omega
      nz := hz })
  have CALL := Lib.hid (visit_any (z := ⟨0, n + 1 + 1, n + 1 + 1 + 1, n, n + 1, n + 1 + 1 + 1 + 1, b, o, c, fm, cbs⟩) M hb hc hcm hbig 257 V5 _ 0 [] s [] 0 (by simp) (by simp) hp (Int.le_refl _) (by decide) (by omega) (Nat.le_refl _) hfs K5.out)
  have CE := Lib.hid ch5
  have v5 := o5.c
  have HW := Lib.hid (And.intro hV0 (And.intro hV1 (And.intro hV2 (And.intro hV3 (And.intro hV4 hV5)))))
  have HN := Lib.hid hn'
  have hwn : walkN xs mt s = ((vis xs mt 257 [] [] 0 (0, s)).1, (vis xs mt 257 [] [] 0 (0, s)).2.2) := if_neg hn
  have WN := Lib.hid hwn
  clear g0 g1 g2 g3 g4 g5 o0 o1 o2 o3 o4 o5 z0 z1 z2 z3 z4 hV0 hV1 hV2 hV3 hV4 hV5 g04 g14 ch5 s5 ne4 K5 hi hG hx hgb hn' hwn hn
  simp only [] at CALL
  rw [show strOfNums [] = (⟨#[]⟩ : ByteArray) from rfl] at CALL
  go_enter Tryz.func34, Tryz.ntmps34
  go_upto_region 6 with fail
  rw [← HN.out, HW.out.1, HW.out.2.1, HW.out.2.2.1, HW.out.2.2.2.1, HW.out.2.2.2.2.1]
  go_upto_region 7 with fail
  rw [HW.out.2.2.2.2.2]
  go_wp2_with fail
  refine CALL.out.mono ?_
  rintro e w' ⟨rfl, ⟨F', k', f'⟩, c', few⟩
  obtain ⟨G', b1, b2, _, _, _⟩ := k'.inv
  have FN := Lib.hid (show WOut S Fine Inv G W w' (walkN xs mt s) (.returned (.int .i64 (vis xs mt 257 [] [] 0 (0, s)).1)) by
    rw [WN.out]
    refine ⟨rfl, ⟨G', b2, fun k hk => ?_⟩, ?_, fun h => (few h).2⟩
    · have hs := CE.out.size
      have hnn := HN.out
      rcases f' k (b1 k hk) with h | h
      · rcases h with h | h
        · exact .inl h
        · exact .inr (by omega)
      · exact .inr (by omega)
    · have ce := CE.out
      have hnn := HN.out
      exact ⟨c'.os.trans ce.os, c'.tape.trans ce.tape, c'.output.trans ce.output, Nat.le_trans ce.size c'.size, fun i hi hf => (c'.block i (Nat.lt_of_lt_of_le hi ce.size) (fun e => e.elim hf (fun e => by omega))).trans (ce.block i hi (by omega))⟩)
  generalize (vis xs mt 257 [] [] 0 (0, s)).1 = r at *
  clear k' f' c' few b1 b2
  go_wp2
  go_ret
  exact FN.out
theorem walk_no (q : Option Addr) (c fm : Nat) (cbs : Array Value) :
    Calls Tryz.prog 34 #[.slice q 0 c, .func (.func fm) #[] cbs] W fun e W' => e = .returned (.int .i64 0) ∧ W.grownBy W' none := by
  go_enter Tryz.func34, Tryz.ntmps34
  go_wp2
  go_ret
  exact ⟨rfl, grown_trans (grown1 W _) (grown1 _ _)⟩
end
end Go.Proofs.YtbnnlbdjjpmgeaaGreat


namespace Go.Proofs.YtbnnlbdjjpmgeaaGreat
open Go.RowKit
variable {w w' W V : World} {xs : List Int}

def outCs (y : List Int × Ex) : List Value := exCs (strOfNums y.1) y.2
theorem outCs_len (y : List Int × Ex) : (outCs y).length = 7 := rfl
theorem exType : StType Tryz.prog 28 23 7 72 := .mk' Tryz.underlying23 (z := .agg #[.string ⟨#[]⟩, .int .i64 0, .bool false, .int .u64 0, .int .u64 0, .int .u64 0, .string ⟨#[]⟩]) (by kernel_rfl) rfl (by decide)
def InvAll (cl : Nat) (W : World) (G : Nat → Prop) (out : Out) : Prop :=
  ∃ q c, OneAt W cl (.slice q out.length c) 23 ∧ W.ownsRow 0 28 7 (.slice q out.length c) out.length (out.flatMap outCs) ∧ G cl ∧ ∀ g, (Value.slice q out.length c).ownBlock = some g → G g
theorem invAll_kept {cl : Nat} {G H : Nat → Prop} {out : Out} (h : InvAll cl W G out) (hg : Chg H W V) (hd : ∀ k, G k → ¬ H k) : InvAll cl V G out := by
  obtain ⟨q, c, h1, h2, h3, h4⟩ := h
  exact ⟨q, c, h1.chg hg (hd _ h3), ownsRow_chg h2 hg (fun g e => hd g (h4 g e)), h3, h4⟩
set_option maxRecDepth 20000 in
set_option maxHeartbeats 3200000 in
theorem all1_any {cl : Nat} {G : Nat → Prop} {out : Out} {name : List Int} {nd : Nd} {v : Value} {base : Nat} (h : InvAll cl W G out) (hf : out.length ≤ 4096) (hk : NdOk nd) (ho : W.ownsRow base 140 2 v nd.kids.length (nd.kids.flatMap kidCs)) (hv : ∀ g, v.ownBlock = some g → ¬ G g) (hG : ∀ k, G k → k < W.heap.size) :
    Calls Tryz.prog 35 #[.string (strOfNums name), nodeV nd.ex.isSome (nmOf (strOfNums name) nd.ex) (exOf nd.ex) v, .pointer (some ⟨cl, 0, none⟩)] W fun e W' => MOut Out mtAll (InvAll cl) out name nd v G W W' e := by
  obtain ⟨q, c, rfl⟩ := own_slice ho
  obtain ⟨ql, cl', a1, a2, a3, a4⟩ := h
  obtain ⟨ex, kids⟩ := nd
  simp only [] at ho hv hk ⊢
  have hkl : kids.length ≤ 255 := hk.few
  have hrm := own_room8 ho
  have hc63 : c ≤ 9223372036854775807 := by
    rcases ho.2 with ⟨hn, _⟩ | ⟨g, cp, cur, hn, _, _, _, hm, _⟩
    · injection hn with _ _ e; omega
    · injection hn with _ _ e; unfold maxLen at hm; omega
  have KS := Lib.hid (fun (V : World) (hg : Chg G W V) => (KidsAt.of ho).chg hg (fun g o e => hv g (by rw [e]; rfl)))
  have QV := Lib.hid (fun g o (e : q = some ⟨g, o, none⟩) => (show (Value.slice q kids.length c).ownBlock = some g by rw [e]; rfl))
  have HK := Lib.hid (And.intro hrm hc63)
  cases ex with
  | none =>
    have eN : mtAll out name ⟨none, kids⟩ = (out, kids, 0) := if_neg (by show ¬ 4096 < out.length; omega)
    simp only [Option.isSome, nmOf, exOf, nodeV]
    have g1 := grown1 W (.cells #[.bool false, .string ⟨#[]⟩, .int .i64 Ex.zero.kind, .bool Ex.zero.weak, .int .u64 Ex.zero.value, .int .u64 Ex.zero.resolver, .int .u64 Ex.zero.ordinal, .string (strOfNums Ex.zero.other), .slice q kids.length c] 88)
    have n1 := a1.grown g1
    have l1 := n1.c
    have ch : Chg G W _ := Chg.of_grown g1 (fun b e => by cases e)
    have FN := Lib.hid (show MOut Out mtAll (InvAll cl) out name ⟨none, kids⟩ (.slice q kids.length c) G W _ (.returned (.tuple #[.slice q kids.length c, .int .i64 0])) from
      ⟨⟨q, c, G, by rw [eN], by rw [eN]; exact ⟨ql, cl', n1, own_grown a2 g1, a3, a4⟩, fun k hk => .inl hk, by rw [eN]; exact KS.out _ ch, QV.out, by rw [eN]; exact hrm, hc63⟩, ch⟩)
    have dl : decide ((4096 : Int) < (out.length : Int)) = false := by simp; omega
    clear a1 a2 a3 a4 g1 n1 ch ho hv hk hG eN
    go_enter Tryz.func35, Tryz.ntmps35
    go_wp2
    go_ret2
    exact FN.out
  | some x =>
    have eN : mtAll out name ⟨some x, kids⟩ = if 4096 < out.length + 1 then (out ++ [(name, x)], [], 11) else (out ++ [(name, x)], kids, 0) := by
      unfold mtAll
      rw [show outN out name ⟨some x, kids⟩ = out ++ [(name, x)] from rfl, List.length_append, List.length_singleton]
    simp only [Option.isSome, nmOf, exOf, nodeV]
    have SE := Lib.hid (show exCs (strOfNums name) x = [.string (strOfNums name), .int .i64 x.kind, .bool x.weak, .int .u64 x.value, .int .u64 x.resolver, .int .u64 x.ordinal, .string (strOfNums x.other)] from rfl)
    have OC := Lib.hid (show (out ++ [(name, x)]).flatMap outCs = out.flatMap outCs ++ exCs (strOfNums name) x by rw [List.flatMap_append, List.flatMap_singleton]; rfl)
    have ON := Lib.hid (exCs_one (strOfNums name) x)
    obtain ⟨SN, hSN⟩ : ∃ z, z = strOfNums name := ⟨_, rfl⟩
    rw [← hSN] at SE OC ON ⊢
    clear hSN
    have g1 := grown1 W (.cells #[.bool true, .string SN, .int .i64 x.kind, .bool x.weak, .int .u64 x.value, .int .u64 x.resolver, .int .u64 x.ordinal, .string (strOfNums x.other), .slice q kids.length c] 88)
    have N1 := Lib.hid (show NodeAt (W.alloc (.cells #[.bool true, .string SN, .int .i64 x.kind, .bool x.weak, .int .u64 x.value, .int .u64 x.resolver, .int .u64 x.ordinal, .string (strOfNums x.other), .slice q kids.length c] 88)) W.heap.size true SN x (.slice q kids.length c) from heap_alloc_new W _)
    obtain ⟨W1, hW1⟩ : ∃ W1, W.alloc (.cells #[.bool true, .string SN, .int .i64 x.kind, .bool x.weak, .int .u64 x.value, .int .u64 x.resolver, .int .u64 x.ordinal, .string (strOfNums x.other), .slice q kids.length c] 88) = W1 := ⟨_, rfl⟩
    obtain ⟨gn, hgn⟩ : ∃ gn, W.heap.size = gn := ⟨_, rfl⟩
    rw [hW1] at g1 N1
    rw [hgn] at N1
    have g2 := grown1 W1 (.cells #[.string SN, .int .i64 x.kind, .bool x.weak, .int .u64 x.value, .int .u64 x.resolver, .int .u64 x.ordinal, .string (strOfNums x.other)] 28)
    have A1 := Lib.hid (a1.grown g1)
    have A2 := Lib.hid ((a1.grown g1).grown g2)
    have O2 := Lib.hid (own_grown (own_grown a2 g1) g2)
    have X2 := Lib.hid (heap_alloc_new W1 (.cells #[.string SN, .int .i64 x.kind, .bool x.weak, .int .u64 x.value, .int .u64 x.resolver, .int .u64 x.ordinal, .string (strOfNums x.other)] 28))
    have M2 := Lib.hid (N1.out.kept g2 (by simp))
    have G2 := Lib.hid (grown_trans g1 g2)
    have AG := Lib.hid (And.intro a3 a4)
    have HG := Lib.hid hG
    have HV := Lib.hid hv
    have EN := Lib.hid eN
    have RL := Lib.hid (fun g e => (a2.lt g e).2)
    have HW1 := Lib.hid hW1
    have HGN := Lib.hid hgn
    have c1 := (a1.grown g1).c
    have cl1 := (a1.grown g1).lt
    clear a1 a2 a3 a4 g1 g2 ho hv hk hG eN hW1 hgn
    go_enter Tryz.func35, Tryz.ntmps35
    go_upto_region 1 with fail
    rw [HW1.out, HGN.out]
    have HGN2 := HGN.out
    clear HW1 HGN
    obtain ⟨d0, d1, d2, d3, d4, d5, d6, d7, d8⟩ := N1.out.c
    have dl := N1.out.lt
    go_upto_region 2 with fail
    go_wp2_with (at_builtin; refine wp_append_sta exType rfl _ _ rfl _ out.length _ rfl O2.out [.string SN, .int .i64 x.kind, .bool x.weak, .int .u64 x.value, .int .u64 x.resolver, .int .u64 x.ordinal, .string (strOfNums x.other)] rfl W1.heap.size rfl X2.out (by rw [← SE.out]; exact ON.out) (by omega) (by decide) (Nat.zero_le _) ?_)
    intro v' W3 ho3 hg3 hv3
    obtain ⟨q3, c3, rfl⟩ := own_slice ho3
    have a3 := A2.out.kept hg3 (own_ne O2.out A2.out (by decide))
    have m3 := M2.out.kept hg3 (own_ne O2.out M2.out (by decide))
    have w3 := a3.c
    have f3 := a3.f
    have l3 := a3.lt
    have g4 := grown_setCell (i := 0) (grown_refl W3 (some cl)) (.slice q3 (out.length + 1) c3)
    have a4 := a3.set (.slice q3 (out.length + 1) c3)
    have hne4 : (Value.slice q3 (out.length + 1) c3).ownBlock ≠ some cl := own_ne ho3 a3 (by decide)
    have o4 := ho3.kept g4 (.inr hne4)
    have m4 := m3.kept g4 (by intro e; injection e with e; have := HG.out cl AG.out.1; omega)
    have ch4 : Chg G W (W3.setCell ⟨cl, 0, none⟩ (.slice q3 (out.length + 1) c3)) :=
      ((Chg.of_grown G2.out (fun b e => by cases e)).trans (Chg.of_grown hg3 (fun b e => .inl (AG.out.2 b e)))).trans (Chg.of_grown g4 (fun b e => by injection e with e; exact .inl (e ▸ AG.out.1)))
    have szz : W.heap.size ≤ (W1.alloc (.cells #[.string SN, .int .i64 x.kind, .bool x.weak, .int .u64 x.value, .int .u64 x.resolver, .int .u64 x.ordinal, .string (strOfNums x.other)] 28)).heap.size := G2.out.size
    obtain ⟨W4, hW4⟩ : ∃ W4, W3.setCell ⟨cl, 0, none⟩ (.slice q3 (out.length + 1) c3) = W4 := ⟨_, rfl⟩
    rw [hW4] at g4 a4 o4 m4 ch4
    have hv4 : ∀ g, (Value.slice q3 (out.length + 1) c3).ownBlock = some g → G g ∨ (W.heap.size ≤ g ∧ g < W4.heap.size) := fun g e => by
      rcases hv3 with h | h
      · rw [h] at e; exact .inl (AG.out.2 g e)
      · have h2 := (o4.lt g e).2
        rw [h] at e
        injection e with e
        exact .inr ⟨by omega, h2⟩
    have FN := Lib.hid (fun (L : List Kid) (er : Int) (qq : Option Addr) (cc : Nat) (hmt : mtAll out name ⟨some x, kids⟩ = (out ++ [(name, x)], L, er)) (hL : KidsAt W4 qq L) (hq : ∀ g o, qq = some ⟨g, o, none⟩ → (Value.slice q kids.length c).ownBlock = some g) (hcc : L.length ≤ cc) (hc3 : cc ≤ 9223372036854775807) =>
      (show MOut Out mtAll (InvAll cl) out name ⟨some x, kids⟩ (.slice q kids.length c) G W W4 (.returned (.tuple #[.slice qq L.length cc, .int .i64 er])) from
      ⟨⟨qq, cc, fun k => G k ∨ (Value.slice q3 (out.length + 1) c3).ownBlock = some k, by rw [hmt], by
        rw [hmt]
        refine ⟨q3, c3, ?_, ?_, .inl AG.out.1, ?_⟩
        · rw [List.length_append, List.length_singleton]; exact a4
        · rw [List.length_append, List.length_singleton, OC.out, SE.out]; exact o4
        · rw [List.length_append, List.length_singleton]; exact fun g e => .inr e, fun k hk => hk.elim .inl (hv4 k), by rw [hmt]; exact hL, hq, by rw [hmt]; exact hcc, hc3⟩, ch4⟩))
    have K4 := Lib.hid (KS.out W4 ch4)
    obtain ⟨e0, e1, e2, e3, e4, e5, e6, e7, e8⟩ := m4.c
    have ml4 := m4.lt
    have cl4 := a4.c
    have HW4 := Lib.hid hW4
    clear ho3 hg3 hv3 a3 m3 g4 a4 hne4 o4 m4 ch4 szz hv4 hW4 d0 d1 d2 d3 d4 d5 d6 d7 d8 dl c1 cl1 HGN2 KS
    by_cases hm : 4096 < out.length + 1
    · have dm : decide ((4096 : Int) < ((out.length + 1 : Nat) : Int)) = true := by simp; omega
      have dm2 : decide ((4096 : Int) < (out.length : Int) + 1) = true := by simp; omega
      have F2 := Lib.hid (FN.out [] 11 none 0 (by rw [EN.out, if_pos hm]) KidsAt.nil (fun g o e => by cases e) (Nat.le_refl _) (by decide))
      clear hm FN
      go_upto_region 3 with fail
      rw [HW4.out]
      clear HW4 w3 f3 l3
      go_wp2
      go_ret2
      exact F2.out
    · have dm : decide ((4096 : Int) < ((out.length + 1 : Nat) : Int)) = false := by simp; omega
      have dm2 : decide ((4096 : Int) < (out.length : Int) + 1) = false := by simp; omega
      have F2 := Lib.hid (FN.out kids 0 q c (by rw [EN.out, if_neg hm]) K4.out QV.out HK.out.1 HK.out.2)
      clear hm FN
      go_upto_region 3 with fail
      rw [HW4.out]
      clear HW4 w3 f3 l3
      go_wp2
      go_ret2
      exact F2.out
theorem allMeet (cl : Nat) : MeetOk Out 35 #[.pointer (some ⟨cl, 0, none⟩)] mtAll (fun _ => True) (fun out => out.length ≤ 4096) (InvAll cl) where
  enters := enters_of Tryz.func35 (by kernel_rfl) rfl
  kept := fun W V G s H h hg hd => invAll_kept h hg hd
  sub := fun s name nd x hx => by
    unfold mtAll at hx
    split at hx
    · cases hx
    · exact hx
  pre := fun _ _ _ _ _ _ => trivial
  next := fun s name nd hs he => by
    unfold mtAll at he ⊢
    split
    · rename_i h; rw [if_pos h] at he; cases he
    · rename_i h; exact Nat.le_of_not_lt h
  stop := fun s name nd he => by
    unfold mtAll at he ⊢
    split
    · rfl
    · rename_i h; rw [if_neg h] at he; exact absurd rfl he
  call := fun W G s name nd v base h hf _ _ hk ho hv hG => all1_any h hf hk ho hv hG
end Go.Proofs.YtbnnlbdjjpmgeaaGreat


namespace Go.Proofs.YtbnnlbdjjpmgeaaGreat
open Go.RowKit Go.Sort
variable {w w' : World} {α : Type} [Inhabited α]

theorem grown_sort (enc : α → List Value) (k : Nat) (w : World) (blk off n : Nat) (d : Array α) (os : Array Obj) : w.grownBy (sortWorldK enc k w blk off n d os) (some blk) := by
  refine ⟨rfl, rfl, rfl, ?_, fun i hi hne => ?_⟩
  · simp only [sortWorldK, grow, putRowK, putRow, mapBlock, Sort.ahead, Array.size_append, Array.size_modify]
    omega
  · have hb : blk ≠ i := fun e => hne (by rw [e])
    simp only [sortWorldK, grow, putRowK, putRow, mapBlock, Sort.ahead]
    rw [Array.getElem?_append_left (by rw [Array.size_modify]; exact hi), Array.getElem?_modify, if_neg hb]
omit [Inhabited α] in
theorem own_free {T : TypeId} {k n c g lo : Nat} {xs : List Value} (h : w.ownsRow lo T k (.slice (some ⟨g, 0, none⟩) n c) n xs) (j : Nat) : w.frozen? ⟨g, j, none⟩ = false := by
  obtain ⟨_, hn | ⟨g', cap, cur, hv, _, hg, _⟩⟩ := h
  · cases hn.1
  · injection hv with h1 _ _
    injection h1 with h1
    injection h1 with h1 _ _
    subst h1
    exact free_of hg
omit [Inhabited α] in
theorem own_max {T : TypeId} {k n c lo : Nat} {q : Option Addr} {xs : List Value} (h : w.ownsRow lo T k (.slice q n c) n xs) : c ≤ 9223372036854775807 := by
  obtain ⟨_, hn | ⟨g', cap, cur, hv, _, _, _, hm, _⟩⟩ := h
  · injection hn.1 with _ _ h3; subst h3; exact Nat.zero_le _
  · injection hv with _ _ h3; subst h3; unfold maxLen at hm; omega
theorem holdsK_own {T : TypeId} {k n c g lo : Nat} {f : α → List Value} {l : List α} (hf : ∀ x, (f x).length = k) (h : w.ownsRow lo T k (.slice (some ⟨g, 0, none⟩) n c) n (l.flatMap f)) : HoldsK f k w g 0 l.toArray := by
  intro t ht
  rw [size_flatK] at ht
  have hk : 0 < k := by
    rcases Nat.eq_zero_or_pos k with e | e
    · subst e; simp at ht
    · exact e
  have hd : t / k < l.toArray.size := Nat.div_lt_of_lt_mul (by rw [Nat.mul_comm]; exact ht)
  have hd' : t / k < l.length := by simpa using hd
  have hm : t % k < k := Nat.mod_lt _ hk
  have hx : l[t / k]? = some (l[t / k]'hd') := List.getElem?_eq_getElem hd'
  obtain ⟨g', e, hc⟩ := row_cell hf h hx hm
  injection e with e
  injection e with e _ _
  subst e
  refine ⟨?_, own_free h _⟩
  have ea : l.toArray[t / k]! = l[t / k]'hd' := by rw [getElem!_pos l.toArray (t / k) hd]; rfl
  rw [Nat.zero_add, get_flatK _ _ _ _ ht, ea, getElem!_pos (f (l[t / k]'hd')) (t % k) (by rw [hf]; exact hm)]
  have e : t / k * k + t % k = t := by rw [Nat.mul_comm]; exact Nat.div_add_mod t k
  rw [e] at hc
  show w.cell? ⟨g, t, none⟩ = some ((f (l[t / k]'hd'))[t % k]'_)
  rw [hc, List.getElem?_eq_getElem (by rw [hf]; exact hm)]
theorem holds_grown (enc : α → List Value) (k : Nat) {blk n : Nat} {d d0 : Array α} {os : Array Obj} (h0 : HoldsK enc k w blk 0 d0) (hs : d.size = d0.size) (hb : blk < w.heap.size) : HoldsK enc k (sortWorldK enc k w blk 0 n d os) blk 0 d :=
  holdsK_sortWorldK_c enc k w blk 0 d0 d n os h0 hb hs
theorem perm_list {d d' : Array α} {lt : α → α → Bool} (hp : PermIn 0 d.size d d') (hs : SortedIn lt 0 d.size d') : d'.toList.Perm d.toList ∧ d'.size = d.size ∧ ∀ i j, i < j → j < d'.size → lt d'[j]! d'[i]! = false := by
  obtain ⟨h1, _, h3⟩ := hp
  refine ⟨?_, h1, fun i j hij hj => hs i j (Nat.zero_le _) hij (h1 ▸ hj)⟩
  rw [show d'.extract 0 d.size = d' from by rw [← h1]; exact Array.extract_size, show d.extract 0 d.size = d from Array.extract_size] at h3
  exact h3
end Go.Proofs.YtbnnlbdjjpmgeaaGreat


namespace Go.Proofs
open Go.Shelf
def Tryz.sortExp_ren : Go.Shelf.Ren := ⟨fun | 6 => 36 | 15 => 70 | 14 => 69 | 28 => 119 | 29 => 120 | 20 => 111 | 21 => 112 | 22 => 113 | 23 => 114 | 24 => 115 | 25 => 116 | 26 => 117 | 27 => 118 | 46 => 157 | 47 => 158 | 48 => 159 | 49 => 160 | 50 => 161 | 57 => 194 | n => n, fun | 22 => 23 | 24 => 28 | 25 => 72 | 3 => 3 | 39 => 143 | 0 => 0 | 53 => 43 | 55 => 26 | 4 => 4 | 46 => 193 | 45 => 192 | 50 => 197 | 5 => 5 | 9 => 9 | 66 => 243 | 70 => 246 | 76 => 270 | 77 => 271 | n => n, fun | n => n⟩
theorem Tryz.sortExp : Go.Proofs.SlLaysF0.n6 Tryz.prog Tryz.sortExp_ren := {
  mixed := by kernel_rfl
  f6 := ⟨Tryz.f36.name, by decide, Tryz.func36.trans (congrArg some (by kernel_rfl))⟩
  f14 := ⟨Tryz.f69.name, by decide, Tryz.func69.trans (congrArg some (by kernel_rfl))⟩
  f15 := Tryz.func70.trans (congrArg some (by kernel_rfl))
  f20 := ⟨Tryz.f111.name, by decide, Tryz.func111.trans (congrArg some (by kernel_rfl))⟩
  f21 := ⟨Tryz.f112.name, by decide, Tryz.func112.trans (congrArg some (by kernel_rfl))⟩
  f22 := ⟨Tryz.f113.name, by decide, Tryz.func113.trans (congrArg some (by kernel_rfl))⟩
  f23 := ⟨Tryz.f114.name, by decide, Tryz.func114.trans (congrArg some (by kernel_rfl))⟩
  f24 := ⟨Tryz.f115.name, by decide, Tryz.func115.trans (congrArg some (by kernel_rfl))⟩
  f25 := ⟨Tryz.f116.name, by decide, Tryz.func116.trans (congrArg some (by kernel_rfl))⟩
  f26 := ⟨Tryz.f117.name, by decide, Tryz.func117.trans (congrArg some (by kernel_rfl))⟩
  f27 := ⟨Tryz.f118.name, by decide, Tryz.func118.trans (congrArg some (by kernel_rfl))⟩
  f28 := Tryz.func119.trans (congrArg some (by kernel_rfl))
  f29 := Tryz.func120.trans (congrArg some (by kernel_rfl))
  f46 := ⟨Tryz.f157.name, by decide, Tryz.func157.trans (congrArg some (by kernel_rfl))⟩
  f47 := Tryz.func158.trans (congrArg some (by kernel_rfl))
  f48 := Tryz.func159.trans (congrArg some (by kernel_rfl))
  f49 := ⟨Tryz.f160.name, by decide, Tryz.func160.trans (congrArg some (by kernel_rfl))⟩
  f50 := ⟨Tryz.f161.name, by decide, Tryz.func161.trans (congrArg some (by kernel_rfl))⟩
  f57 := ⟨Tryz.f194.name, by decide, Tryz.func194.trans (congrArg some (by kernel_rfl))⟩
  t0 := Tryz.underlying0
  a0 := Tryz.isAgg0
  z0 := Tryz.sizeOf0
  v0 := Tryz.zeroValue0
  t3 := Tryz.underlying3
  a3 := Tryz.isAgg3
  z3 := Tryz.sizeOf3
  v3 := Tryz.zeroValue3
  t4 := Tryz.underlying4
  a4 := Tryz.isAgg4
  z4 := Tryz.sizeOf4
  v4 := Tryz.zeroValue4
  t5 := Tryz.underlying5
  a5 := Tryz.isAgg5
  z5 := Tryz.sizeOf5
  v5 := Tryz.zeroValue5
  t9 := Tryz.underlying9
  a9 := Tryz.isAgg9
  z9 := Tryz.sizeOf9
  v9 := Tryz.zeroValue9
  t22 := Tryz.underlying23
  a22 := Tryz.isAgg23
  z22 := Tryz.sizeOf23
  v22 := Tryz.zeroValue23
  t25 := Tryz.underlying72
  a25 := Tryz.isAgg72
  z25 := Tryz.sizeOf72
  v25 := Tryz.zeroValue72
  t39 := Tryz.underlying143
  a39 := Tryz.isAgg143
  z39 := Tryz.sizeOf143
  v39 := Tryz.zeroValue143
  t45 := Tryz.underlying192
  a45 := Tryz.isAgg192
  z45 := Tryz.sizeOf192
  v45 := Tryz.zeroValue192
  t46 := Tryz.underlying193
  a46 := Tryz.isAgg193
  z46 := Tryz.sizeOf193
  v46 := Tryz.zeroValue193
  t50 := Tryz.underlying197
  a50 := Tryz.isAgg197
  z50 := Tryz.sizeOf197
  v50 := Tryz.zeroValue197
  t53 := Tryz.underlying43
  a53 := Tryz.isAgg43
  z53 := Tryz.sizeOf43
  v53 := Tryz.zeroValue43
  t55 := Tryz.underlying26
  a55 := Tryz.isAgg26
  z55 := Tryz.sizeOf26
  v55 := Tryz.zeroValue26
  t66 := Tryz.underlying243
  a66 := Tryz.isAgg243
  z66 := Tryz.sizeOf243
  v66 := Tryz.zeroValue243
  t70 := Tryz.underlying246
  a70 := Tryz.isAgg246
  z70 := Tryz.sizeOf246
  v70 := Tryz.zeroValue246
  t76 := Tryz.underlying270
  a76 := Tryz.isAgg270
  z76 := Tryz.sizeOf270
  v76 := Tryz.zeroValue270
  t77 := Tryz.underlying271
  a77 := Tryz.isAgg271
  z77 := Tryz.sizeOf271
  v77 := Tryz.zeroValue271 }
end Go.Proofs


namespace Go.Proofs.YtbnnlbdjjpmgeaaGreat
open Go.RowKit Go.Sort
variable {w w' W V : World} {xs : List Int}

def nmLt : List Int → List Int → Bool
  | _, [] => false
  | [], _ :: _ => true
  | x :: a, y :: b => if x < y then true else if y < x then false else nmLt a b
theorem nmLt_irrefl : ∀ a, nmLt a a = false
  | [] => rfl
  | x :: a => by simp [nmLt, nmLt_irrefl a]
theorem nmLt_anti : ∀ {a b : List Int}, nmLt a b = false → nmLt b a = false → a = b
  | [], [], _, _ => rfl
  | [], _ :: _, h, _ => by simp [nmLt] at h
  | _ :: _, [], _, h => by simp [nmLt] at h
  | x :: a, y :: b, h, k => by
    simp only [nmLt] at h k
    by_cases h1 : x < y
    · rw [if_pos h1] at h; cases h
    · by_cases h2 : y < x
      · rw [if_pos h2] at k; cases k
      · rw [if_neg h1, if_neg h2] at h
        rw [if_neg h2, if_neg h1] at k
        rw [nmLt_anti h k, show x = y by omega]
theorem nmLt_trans : ∀ {a b c : List Int}, nmLt a b = true → nmLt b c = true → nmLt a c = true
  | _, _, [], _, h => by simp [nmLt] at h
  | _, [], _ :: _, h, _ => by simp [nmLt] at h
  | [], _ :: _, _ :: _, _, _ => rfl
  | x :: a, y :: b, z :: c, h, k => by
    simp only [nmLt] at h k ⊢
    by_cases h1 : x < y
    · by_cases h2 : y < z
      · rw [if_pos (show x < z by omega)]
      · rw [if_neg h2] at k
        by_cases h3 : z < y
        · rw [if_pos h3] at k; cases k
        · rw [if_pos (show x < z by omega)]
    · rw [if_neg h1] at h
      by_cases h2 : y < x
      · rw [if_pos h2] at h; cases h
      · rw [if_neg h2] at h
        by_cases h3 : y < z
        · rw [if_pos (show x < z by omega)]
        · rw [if_neg h3] at k
          by_cases h4 : z < y
          · rw [if_pos h4] at k; cases k
          · rw [if_neg h4] at k
            rw [if_neg (show ¬ x < z by omega), if_neg (show ¬ z < x by omega)]
            exact nmLt_trans h k
theorem nmLt_ntrans {a b c : List Int} (h : nmLt a b = false) (k : nmLt b c = false) : nmLt a c = false := by
  cases hac : nmLt a c with
  | false => rfl
  | true =>
    cases hba : nmLt b a with
    | true => rw [nmLt_trans hba hac] at k; cases k
    | false => rw [nmLt_anti h hba] at hac; rw [hac] at k; cases k
theorem compare_lt : ∀ (a b : List UInt8), decide (Lib.compareBytes a b < 0) = nmLt (a.map fun u => (u.toNat : Int)) (b.map fun u => (u.toNat : Int))
  | [], [] => rfl
  | [], _ :: _ => rfl
  | _ :: _, [] => rfl
  | x :: a, y :: b => by
    have e1 : (x < y) ↔ (x.toNat : Int) < (y.toNat : Int) := by rw [UInt8.lt_iff_toNat_lt]; omega
    have e2 : (y < x) ↔ (y.toNat : Int) < (x.toNat : Int) := by rw [UInt8.lt_iff_toNat_lt]; omega
    have ih := compare_lt a b
    by_cases h1 : x < y
    · have c : Lib.compareBytes (x :: a) (y :: b) = -1 := if_pos h1
      have n : nmLt ((x :: a).map fun u => (u.toNat : Int)) ((y :: b).map fun u => (u.toNat : Int)) = true := if_pos (e1.1 h1)
      rw [n, decide_eq_true (by rw [c]; decide)]
    · by_cases h2 : y < x
      · have c : Lib.compareBytes (x :: a) (y :: b) = 1 := (if_neg h1).trans (if_pos h2)
        have n : nmLt ((x :: a).map fun u => (u.toNat : Int)) ((y :: b).map fun u => (u.toNat : Int)) = false := (if_neg (fun h => h1 (e1.2 h))).trans (if_pos (e2.1 h2))
        rw [n, decide_eq_false (by rw [c]; decide)]
      · have c : Lib.compareBytes (x :: a) (y :: b) = Lib.compareBytes a b := (if_neg h1).trans (if_neg h2)
        have n : nmLt ((x :: a).map fun u => (u.toNat : Int)) ((y :: b).map fun u => (u.toNat : Int)) = nmLt (a.map fun u => (u.toNat : Int)) (b.map fun u => (u.toNat : Int)) := (if_neg (fun h => h1 (e1.2 h))).trans (if_neg (fun h => h2 (e2.2 h)))
        rw [n, ← ih]
        simp only [c]
instance : Inhabited (List Int × Ex) := ⟨([], Ex.zero)⟩
def cmpEx (x y : List Int × Ex) : Int := Lib.compareBytes (Lib.bytesOf x.1) (Lib.bytesOf y.1)
theorem ltEx (x y : List Int × Ex) : ltOf cmpEx x y = nmLt (nums x.1) (nums y.1) := compare_lt _ _
theorem swoEx : SWO (ltOf cmpEx) where
  irrefl x := by rw [ltEx]; exact nmLt_irrefl _
  trans x y z h1 h2 := by rw [ltEx] at *; exact nmLt_trans h1 h2
  ntrans x y z h1 h2 := by rw [ltEx] at *; exact nmLt_ntrans h1 h2
theorem byName_any (x y : List Int × Ex) (W : World) : Calls Tryz.prog 24 #[.agg (outCs x).toArray, .agg (outCs y).toArray] W fun e w' => e = .returned (.int .i64 (cmpEx x y)) ∧ ∃ q os', w' = grow (W.drewN q) os' := by
  obtain ⟨x1, x2⟩ := x
  obtain ⟨y1, y2⟩ := y
  have C := Lib.hid (fun V => Tryz.strings_Compare (strOfNums x1) (strOfNums y1) V)
  have e1 : Lib.compareBytes (strOfNums x1).data.toList (strOfNums y1).data.toList = cmpEx (x1, x2) (y1, y2) := by
    unfold cmpEx
    rw [show (strOfNums x1).data.toList = Lib.bytesOf x1 from strOfNums_data x1, show (strOfNums y1).data.toList = Lib.bytesOf y1 from strOfNums_data y1]
  rw [e1] at C
  clear e1
  simp only [outCs, exCs]
  generalize cmpEx (x1, x2) (y1, y2) = r at *
  go_enter Tryz.func24, Tryz.ntmps24
  go_wp2_with (go_at_call 58; refine (C.out _).mono ?_; rintro e w' ⟨rfl, rfl⟩)
  go_ret
  exact ⟨rfl, 0, _, by rw [alloc_eq_grow, alloc_eq_grow, grow_grow]; rfl⟩
theorem cmpEx_lays (blk off size : Nat) (w : World) : CmpLays Tryz.prog 24 #[] outCs 7 cmpEx blk off size w := fun _ _ _ _ x y => byName_any x y _
theorem outCs_one (y : List Int × Ex) : ∀ u ∈ outCs y, u.oneCell' = true := exCs_one _ _
def Rises (l : Out) : Prop := l.Pairwise fun a b => nmLt (nums b.1) (nums a.1) = false
theorem rises_one {l m : Out} (hl : Rises l) (hm : Rises m) (hp : l.Perm m) (hb : ∀ y ∈ l, Byt y.1) (ho : l.Pairwise fun a b => a.1 ≠ b.1) : l = m := by
  refine List.Perm.eq_of_pairwise (le := fun a b : List Int × Ex => nmLt (nums b.1) (nums a.1) = false) ?_ hl hm hp
  intro a b ha hb' h1 h2
  have hb2 := hp.mem_iff.2 hb'
  have e : a.1 = b.1 := by
    have := nmLt_anti h2 h1
    rw [nums_byt (hb a ha), nums_byt (hb b hb2)] at this
    exact this
  obtain ⟨i, hi, rfl⟩ := List.getElem_of_mem ha
  obtain ⟨j, hj, rfl⟩ := List.getElem_of_mem hb2
  rcases Nat.lt_trichotomy i j with h | h | h
  · exact absurd e ((List.pairwise_iff_getElem.1 ho) i j hi hj h)
  · subst h; rfl
  · exact absurd e.symm ((List.pairwise_iff_getElem.1 ho) j i hj hi h)
end Go.Proofs.YtbnnlbdjjpmgeaaGreat


namespace Go.Proofs.YtbnnlbdjjpmgeaaGreat
open Go.RowKit Go.Sort
variable {w w' W V : World} {xs : List Int}

def RowEx (w : World) (q : Option Addr) (D : Out) : Prop := ∀ i y, D[i]? = some y → ∃ g, q = some ⟨g, 0, none⟩ ∧ ∀ j, j < 7 → w.cell? ⟨g, i * 7 + j, none⟩ = (outCs y)[j]?
theorem RowEx.of {lo n c : Nat} {q : Option Addr} {D : Out} (h : w.ownsRow lo 28 7 (.slice q n c) n (D.flatMap outCs)) : RowEx w q D := fun i y hy => by
  obtain ⟨g, e, _⟩ := row_cell outCs_len h hy (j := 0) (by decide)
  refine ⟨g, e, fun j hj => ?_⟩
  obtain ⟨g', e', h'⟩ := row_cell outCs_len h hy hj
  rw [e] at e'
  injection e' with e'
  injection e' with e' _ _
  subst e'
  exact h'
theorem RowEx.hold {g : Nat} {d : Array (List Int × Ex)} (h : HoldsK outCs 7 w g 0 d) : RowEx w (some ⟨g, 0, none⟩) d.toList := fun i y hy => by
  refine ⟨g, rfl, fun j hj => ?_⟩
  obtain ⟨hi, rfl⟩ := List.getElem?_eq_some_iff.1 hy
  have hi' : i < d.size := by simpa using hi
  have h0 := (h.cell hi' (c := j) hj).1
  rw [Nat.zero_add] at h0
  rw [h0, getElem!_pos d i hi']
  simp only [Array.getElem_toList]
  have hl : j < (outCs d[i]).length := hj
  rw [List.getElem?_eq_getElem hl, getElem!_pos _ j hl]
theorem RowEx.grown {q : Option Addr} {D : Out} (h : RowEx w q D) (hg : w.grownBy w' none) : RowEx w' q D := fun i y hy => by
  obtain ⟨g, e, hc⟩ := h i y hy
  refine ⟨g, e, fun j hj => ?_⟩
  have hl : j < (outCs y).length := hj
  have := hc j hj
  rw [List.getElem?_eq_getElem hl] at this ⊢
  exact grown_cell hg this
theorem RowEx.nil {q : Option Addr} : RowEx w q [] := fun i y hy => by simp at hy
theorem insNone (p : Option Addr) (cap : Nat) (W : World) : Calls Tryz.prog 111 #[.slice p 0 cap, .int .i64 0, .int .i64 0, .func (.func 24) #[] #[]] W fun e w' => e = .returned (.tuple #[]) ∧ w' = W := by
  go_enter Tryz.func111, Tryz.ntmps111
  go_wp2
  refine wp_loop_rounds 1 ?_
  rw [rounds_succ]
  go_wp2
  go_end0
  exact ⟨rfl, rfl⟩
set_option maxRecDepth 20000 in
theorem pdqNone (p : Option Addr) (cap : Nat) (lim : Int) (W : World) : Calls Tryz.prog 69 #[.slice p 0 cap, .int .i64 0, .int .i64 0, .int .i64 lim, .func (.func 24) #[] #[]] W fun e w' => e = .returned (.tuple #[]) ∧ w' = W := by
  have I := Lib.hid (fun V => insNone p cap V)
  go_enter Tryz.func69, Tryz.ntmps69
  go_wp2_with fail
  refine wp_loop_rounds 1 ?_
  rw [rounds_succ]
  go_wp2_with fail
  refine (I.out _).mono ?_
  rintro e w' ⟨rfl, rfl⟩
  go_wp2
  (try simp only [Exit.inBlock, Exit.then])
  refine bodyPost_ret (results_none rfl _ _ _) rfl ?_
  exact ⟨rfl, rfl⟩
theorem sortNone (p : Option Addr) (cap : Nat) (W : World) : Calls Tryz.prog 36 #[.slice p 0 cap, .func (.func 24) #[] #[]] W fun e w' => e = .returned (.tuple #[]) ∧ w' = W := by
  have P := Lib.hid (fun lim V => pdqNone p cap lim V)
  have L := Lib.hid (fun V => (show Calls Tryz.prog 70 #[.int .u64 0] V fun e w' => e = .returned (.int .i64 (Lib.bitLen 0 : Nat)) ∧ w' = V from
    Go.Proofs.Any.bits_Len (Go.Proofs.SlLaysF0.n15.bits (P := Tryz.prog) (ρ := Tryz.sortExp_ren) { Tryz.sortExp with }) 0 V (by omega) (by omega)))
  go_enter Tryz.func36, Tryz.ntmps36
  go_wp2_with fail
  refine (L.out _).mono ?_
  rintro e w' ⟨rfl, rfl⟩
  go_wp2_with fail
  refine (P.out _ _).mono ?_
  rintro e w' ⟨rfl, rfl⟩
  go_wp2
  go_end0
  exact ⟨rfl, rfl⟩
structure AlOut (w w' : World) (xs : List Int) (e : Ending) : Prop where
  ex : ∃ (D : Out) (q : Option Addr) (c : Nat), e = .returned (.tuple #[.slice q D.length c, .int .i64 (allN xs).2]) ∧ RowEx w' q D ∧ Rises D ∧ D.Perm (allN xs).1 ∧ D.length ≤ c ∧ c ≤ 9223372036854775807
  grown : w.grownBy w' none
theorem allN_walk (xs : List Int) : allN xs = if (walkN xs mtAll []).1 ≠ 0 then ([], (walkN xs mtAll []).1) else ((walkN xs mtAll []).2, 0) := by
  unfold allN walkN
  by_cases h : xs = []
  · rw [if_pos h, if_pos h]; simp
  · rw [if_neg h, if_neg h]
theorem grown_chg0 {G : Nat → Prop} (h : Chg G W V) (hw : w.grownBy W none) (hG : ∀ k, G k → w.heap.size ≤ k) : w.grownBy V none :=
  ⟨h.os.trans hw.os, h.tape.trans hw.tape, h.output.trans hw.output, Nat.le_trans hw.size h.size, fun i hi _ => (h.block i (Nat.lt_of_lt_of_le hi hw.size) (fun e => by have := hG i e; omega)).trans (hw.block i hi (by simp))⟩
set_option maxRecDepth 20000 in
set_option maxHeartbeats 1600000 in
theorem All_any {q : Option Addr} {c n : Nat} (h : IsBytes w q c xs) (hn : xs.length = n) (hb : Byt xs) (hc : n ≤ c) (hcm : c ≤ 9223372036854775807) (hbig : n ≤ 140737488355328) :
    Calls Tryz.prog 10 #[.slice q n c] w fun e w' => AlOut w w' xs e := by
  have g1 := grown1 w (.cells #[.slice none 0 0] 23)
  have o1 := OneAt.new w (.slice none 0 0) 23
  obtain ⟨cl, hcl⟩ : ∃ cl, cl = w.heap.size := ⟨_, rfl⟩
  have i1 : InvAll cl (w.alloc (.cells #[.slice none 0 0] 23)) (fun k => k = cl) [] := ⟨none, 0, by rw [hcl]; exact o1, World.ownsRow_nil _ _ _ _, rfl, fun g e => by cases e⟩
  have WK : Calls Tryz.prog 34 #[.slice q n c, .func (.func 35) #[] #[.pointer (some ⟨cl, 0, none⟩)]] (w.alloc (.cells #[.slice none 0 0] 23)) fun e W' => WOut Out (fun out => out.length ≤ 4096) (InvAll cl) (fun k => k = cl) (w.alloc (.cells #[.slice none 0 0] 23)) W' (walkN xs mtAll []) e := by
    by_cases hx : xs = []
    · subst hx
      simp only [List.length_nil] at hn
      subst hn
      refine (walk_no q c _ _).mono ?_
      rintro e W' ⟨rfl, hg⟩
      exact ⟨rfl, ⟨_, invAll_kept i1 (Chg.of_grown hg (fun b e => by cases e) : Chg (fun _ => False) _ _) (fun _ _ e => e), fun k hk => .inl hk⟩, Chg.of_grown hg (fun b e => by cases e), fun _ => by show (0 : Nat) ≤ 4096; decide⟩
    · subst hn
      obtain ⟨b, o, rfl, hcell⟩ := h.2 (by cases xs with | nil => exact absurd rfl hx | cons => simp)
      refine walk_any (allMeet cl) trivial (by simp) i1 ?_ (fun i hi => grown_cell g1 (hcell i hi)) hx ?_ hb hc hcm hbig
      · intro k hk; rw [World.size_alloc]; omega
      · intro e
        have := World.block_lt_of_cell? w _ (hcell 0 (by cases xs with | nil => exact absurd rfl hx | cons => simp))
        simp only at this
        omega
  have WH := Lib.hid WK
  have GA := Lib.hid g1
  have AN := Lib.hid (allN_walk xs)
  have HCL := Lib.hid hcl
  clear g1 o1 i1 WK h hn hb hc hcm hbig
  obtain ⟨W1, hW1⟩ : ∃ W1, w.alloc (.cells #[.slice none 0 0] 23) = W1 := ⟨_, rfl⟩
  rw [hW1] at WH GA
  have HW1 := Lib.hid hW1
  clear hW1 hcl
  obtain ⟨⟨er, out⟩, hr⟩ : ∃ r, r = walkN xs mtAll [] := ⟨_, rfl⟩
  rw [← hr] at WH AN
  clear hr
  go_enter Tryz.func10, Tryz.ntmps10
  go_upto_region 2 with fail
  rw [← HCL.out, HW1.out]
  go_wp2_with fail
  refine WH.out.mono ?_
  rintro e W2 ⟨rfl, ⟨G', ⟨ql, cq, a1, a2, a3, a4⟩, hG'⟩, hch, hfew⟩
  have G2 := Lib.hid (grown_chg0 hch GA.out (fun k hk => by have := HCL.out; omega))
  have c1 := a1.c
  simp only [] at c1 AN a1 a2 a4 hfew
  by_cases he : er = 0
  · subst he
    rw [if_neg (by simp)] at AN
    have hLc : out.length ≤ cq := own_room8 a2
    have hcm := own_max a2
    by_cases h0 : out = []
    · subst h0
      have SN := Lib.hid (sortNone ql cq W2)
      have FN := Lib.hid (show AlOut w W2 xs (.returned (.tuple #[.slice ql 0 cq, .int .i64 0])) from ⟨⟨[], ql, cq, by rw [AN.out]; rfl, RowEx.nil, List.Pairwise.nil, by rw [AN.out], Nat.zero_le _, hcm⟩, G2.out⟩)
      simp only [List.length_nil] at c1
      clear a1 a2 a3 a4 hG' hch hfew hLc hcm
      go_wp2_with fail
      refine SN.out.mono ?_
      rintro e w' ⟨rfl, hw'⟩
      have hw2 := hw'.symm
      subst hw2
      clear hw'
      go_wp2
      go_ret2
      exact FN.out
    · have hl0 : 0 < out.length := by
        cases out with
        | nil => exact absurd rfl h0
        | cons => simp
      have hq : ∃ gv, ql = some ⟨gv, 0, none⟩ := by
        rcases a2.2 with ⟨_, hn⟩ | ⟨g', cap, cur, hv, _⟩
        · omega
        · injection hv with h1 _ _; exact ⟨g', h1⟩
      obtain ⟨gv, rfl⟩ := hq
      have hlt2 := a2.lt gv rfl
      have HK := holdsK_own outCs_len a2
      have hsz : out.toArray.size = out.length := by simp
      have hln : out.length < 4611686018427387904 := by have h : out.length ≤ 4096 := hfew rfl; omega
      have hcon := AnyQ.slices_SortFunc Tryz.sortExp 7 Tryz.isAgg28 Tryz.sizeOf28 outCs outCs_len outCs_one cmpEx swoEx 24 #[] gv 0 cq out.toArray W2 (enters_of Tryz.func24 (by kernel_rfl) rfl) (cmpEx_lays gv 0 _ W2) HK hlt2.2 (by rw [hsz]; exact hln)
      change Calls Tryz.prog 36 _ _ _ at hcon
      rw [hsz] at hcon
      have HCON := Lib.hid hcon
      have HKH := Lib.hid HK
      have hgv : w.heap.size ≤ gv := by
        have h1 := HCL.out
        have h2 := GA.out.size
        rcases hG' gv (a4 gv rfl) with h | h <;> omega
      have hgc : (some gv : Option Nat) ≠ some cl := own_ne a2 a1 (by decide)
      have A1 := Lib.hid a1
      have FACT := Lib.hid (And.intro hLc (And.intro hcm (And.intro hlt2 (And.intro hsz (And.intro hgv hgc)))))
      clear a1 a2 a3 a4 hG' hch hfew hLc hcm hcon HK hsz hln hgv hgc hlt2 hl0 h0
      obtain ⟨N, hN⟩ : ∃ N, N = out.length := ⟨_, rfl⟩
      rw [← hN] at c1 HCON
      have HN := Lib.hid hN
      clear hN
      go_wp2_with fail
      refine HCON.out.mono ?_
      rintro e w9 ⟨rfl, d', n9, os9, hp, hs, rfl⟩
      obtain ⟨hLc, hcm, hlt2, hsz, hgv, hgc⟩ := FACT.out
      rw [HN.out, ← hsz] at hp hs
      obtain ⟨p1, p2, p3⟩ := perm_list hp hs
      have gs := grown_sort outCs 7 W2 gv 0 n9 d' os9
      have hold := holds_grown (os := os9) (n := n9) outCs 7 HKH.out p2 hlt2.2
      have e1 : out.toArray.toList = out := by simp
      rw [e1] at p1
      have a9 := A1.out.kept gs hgc
      have c9 := a9.c
      have hdl : d'.toList.length = N := by rw [Array.length_toList, p2, hsz, HN.out]
      have RES := Lib.hid (show AlOut w (sortWorldK outCs 7 W2 gv 0 n9 d' os9) xs (.returned (.tuple #[.slice (some ⟨gv, 0, none⟩) N cq, .int .i64 0])) from
        ⟨⟨d'.toList, some ⟨gv, 0, none⟩, cq, by rw [hdl, AN.out], RowEx.hold hold, (by
          unfold Rises
          rw [List.pairwise_iff_getElem]
          intro i j hi hj hij
          have hi' : i < d'.size := by simpa using hi
          have hj' : j < d'.size := by simpa using hj
          have := p3 i j hij hj'
          rw [ltEx, getElem!_pos d' i hi', getElem!_pos d' j hj'] at this
          simpa using this), (by rw [AN.out]; exact p1), (by rw [hdl, HN.out]; exact hLc), hcm⟩, grown_new G2.out gs hgv⟩)
      have HNN := HN.out
      rw [← HNN] at c9
      clear hp hs p1 p2 p3 gs hold a9 e1 hdl HNN hLc hcm hlt2 hsz hgv hgc
      generalize sortWorldK outCs 7 W2 gv 0 n9 d' os9 = w9 at *
      go_wp2
      go_ret2
      exact RES.out
  · have de : (er != 0) = true := by simpa using he
    rw [if_pos he] at AN
    have FN := Lib.hid (show AlOut w W2 xs (.returned (.tuple #[.slice none 0 0, .int .i64 er])) from ⟨⟨[], none, 0, by rw [AN.out]; rfl, RowEx.nil, List.Pairwise.nil, by rw [AN.out], Nat.le_refl _, by decide⟩, G2.out⟩)
    clear he a1 a2 a3 a4 hG' hch hfew
    go_wp2
    go_ret2
    exact FN.out
end Go.Proofs.YtbnnlbdjjpmgeaaGreat


namespace Go.Proofs.YtbnnlbdjjpmgeaaGreat
open Go.RowKit
variable {w w' W V : World} {xs : List Int}

theorem strOf_cut (l : List Int) (i j : Nat) : (strOfNums l).extract i j = strOfNums ((l.take j).drop i) := by
  apply ByteArray.ext
  apply Array.ext'
  rw [ByteArray.data_extract, Array.toList_extract, strOfNums_data, strOfNums_data, List.extract_eq_take_drop, List.map_drop, List.map_take]
  rw [List.drop_take]
end Go.Proofs.YtbnnlbdjjpmgeaaGreat


namespace Go.Proofs.YtbnnlbdjjpmgeaaGreat
open Go.RowKit
variable {w w' W V : World} {xs : List Int}

def findW (xs t : List Int) : Int × Option Ex := if 255 < t.length then (10, none) else walkN xs (mtFind t) none
end Go.Proofs.YtbnnlbdjjpmgeaaGreat


namespace Go.Proofs.YtbnnlbdjjpmgeaaGreat
open Go.RowKit
variable {xs : List Int}

def Told (y : List Int × Ex) : Prop := Byt y.1 ∧ y.1.length ≤ 255
theorem visK_told {rec : List Int → Int → Nat × Out → Int × (Nat × Out)} (name : List Int) (hn : Byt name)
    (IH : ∀ nm pl m out m' out', Byt nm → rec nm pl (m, out) = (0, (m', out')) → (∀ y ∈ out, Told y) → ∀ y ∈ out', Told y) :
    ∀ (l : List Kid), (∀ k ∈ l, Byt k.1) → ∀ m out m' out', visK rec name l 0 (m, out) = (0, (m', out')) → (∀ y ∈ out, Told y) → ∀ y ∈ out', Told y := by
  intro l
  induction l with
  | nil =>
    intro _ m out m' out' h ho
    simp only [visK, Prod.mk.injEq, true_and] at h
    rw [← h.2]; exact ho
  | cons x l ih =>
    intro hk m out m' out' h ho
    obtain ⟨⟨m1, o1⟩, h1, h2⟩ := visK_cons h
    exact ih (fun k hk' => hk k (List.mem_cons_of_mem _ hk')) _ _ _ _ h2 (IH _ _ _ _ _ _ (hn.app (hk x (List.mem_cons_self ..))) h1 ho)
theorem vis_told (hb : Byt xs) : ∀ (k : Nat) (way name : List Int) (pl : Int) (m : Nat) (out : Out) (m' : Nat) (out' : Out), Byt name → vis xs mtAll k way name pl (m, out) = (0, (m', out')) → (∀ y ∈ out, Told y) → ∀ y ∈ out', Told y := by
  intro k
  induction k with
  | zero => intro way name pl m out m' out' _ h; simp [vis] at h
  | succ k ih =>
    intro way name pl m out m' out' hn h ho
    by_cases hl : 255 < name.length
    · have e : vis xs mtAll (k + 1) way name pl (m, out) = (10, (m + 1, out)) := by unfold vis; rw [if_pos hl]
      rw [e] at h; simp at h
    · rw [vis_go hl] at h
      split at h
      · simp at h
      split at h
      · simp at h
      cases hnd : ndAt xs pl with
      | none => rw [hnd] at h; simp at h
      | some nd =>
        rw [hnd] at h
        simp only [] at h
        have hok := ndAt_ok hb hnd
        have h1 : ∀ y ∈ outN out name nd, Told y := by
          intro y hy
          unfold outN at hy
          cases hx : nd.ex with
          | none => rw [hx] at hy; exact ho y hy
          | some x =>
            rw [hx] at hy
            rcases List.mem_append.1 hy with hy | hy
            · exact ho y hy
            · rw [List.mem_singleton.1 hy]; exact ⟨hn, by show name.length ≤ 255; omega⟩
        by_cases c4 : 4096 < (outN out name nd).length
        · have e : mtAll out name nd = (outN out name nd, [], 11) := if_pos c4
          rw [e] at h
          simp [visK] at h
        · have e : mtAll out name nd = (outN out name nd, nd.kids, 0) := if_neg c4
          rw [e] at h
          exact visK_told (rec := vis xs mtAll k (way ++ [pl])) name hn (fun nm p m o m' o' hb' h ho => ih _ nm p m o m' o' hb' h ho) nd.kids (fun k hk => (hok.kids.each k hk).byt) _ _ _ _ h h1
structure Whole (xs : List Int) (out : Out) : Prop where
  once : out.Pairwise fun a b => a.1 ≠ b.1
  told : ∀ y ∈ out, Told y
  find : ∀ t : List Int, t.length ≤ 255 → findW xs t = (0, (Named t out).map (·.2))
theorem whole_of (hb : Byt xs) {out : Out} (h : walkN xs mtAll [] = (0, out)) : Whole xs out := by
  unfold walkN at h
  by_cases hx : xs = []
  · rw [if_pos hx] at h
    injection h with _ h
    subst h
    refine ⟨List.Pairwise.nil, fun y hy => (by cases hy), fun t ht => ?_⟩
    unfold findW walkN
    rw [if_neg (by omega), if_pos hx]
    rfl
  · rw [if_neg hx] at h
    obtain ⟨⟨er, m', o'⟩, hr⟩ : ∃ r, r = vis xs mtAll 257 [] [] 0 (0, []) := ⟨_, rfl⟩
    rw [← hr] at h
    simp only [Prod.mk.injEq] at h
    obtain ⟨rfl, rfl⟩ := h
    obtain ⟨new, A, F⟩ := vis_all hb 257 [] [] 0 0 [] m' o' hr.symm
    have e : o' = new := by rw [A.eq]; rfl
    refine ⟨e ▸ A.once, vis_told hb 257 [] [] 0 0 [] m' o' (fun x hx => by cases hx) hr.symm (fun y hy => by cases hy), fun t ht => ?_⟩
    obtain ⟨j', hj⟩ := F t 0 (by simpa using ht) (Nat.le_refl _)
    unfold findW walkN
    rw [if_neg (by omega), if_neg hx]
    simp only [List.nil_append] at hj
    rw [hj, e]
end Go.Proofs.YtbnnlbdjjpmgeaaGreat


namespace Go.Proofs.YtbnnlbdjjpmgeaaGreat
open Go.RowKit
variable {w w' W V : World}
theorem run_append_no {T TS : TypeId} {k by' base : Nat} (st : StType Tryz.prog T TS k by') (v : Value) (n c : Nat) (ys : List Value) (h : w.ownsRow base T k v n ys) :
    (Builtin.append_ #[TS, TS] TS #[v, .slice none 0 c]).run Tryz.prog w = .ok v w := by
  obtain ⟨i, z, hi, hz0, hz1, hz2, hzs⟩ := st.info
  rcases h.2 with ⟨rfl, _⟩ | ⟨g, cap, cur, rfl, _, hg, hn, hm, hc, _⟩
  · simp [Builtin.append_, run_underlying st.under, sizeOf, typeInfo, hi, Builtin.lenOf, Builtin.firstCells, Result.andThen]
  · simp [Builtin.append_, run_underlying st.under, sizeOf, typeInfo, hi, Builtin.lenOf, hn, Builtin.firstCells, storeCells, Result.andThen]
set_option maxRecDepth 20000 in
theorem wp_append_rows {T TS : TypeId} {k by' : Nat} (st : StType Tryz.prog T TS k by') {base : Nat} {ops : Array Oper} {rest : List Oper} {o : Oper} {a : Act} {Q : Exit → Act → World → Prop} (hgd : o.guard = none) (s x : Operand)
    (ho : o.op = .call { callee := .builtin .append, args := #[s, x], argTypes := #[TS, TS] }) (hty : o.type = TS)
    (v : Value) (n : Nat) (ys : List Value) (hs : a.eval s = v) (hown : w.ownsRow base T k v n ys) (q : Option Addr) (m c : Nat) (hx : a.eval x = .slice q m c) (cs : List Value) (hl : cs.length = m * k)
    (hq : ∀ j u, cs[j]? = some u → ∃ g o, q = some ⟨g, o, none⟩ ∧ w.cell? ⟨g, o + j, none⟩ = some u) (h1 : ∀ u ∈ cs, u.oneCell' = true)
    (h63 : (n + m) * by' ≤ 140737488355328) (hby : 0 < by') (hbase : base ≤ w.heap.size)
    (h : ∀ v' w', w'.ownsRow base T k v' (n + m) (ys ++ cs) → w.grownBy w' v.ownBlock → (v'.ownBlock = v.ownBlock ∨ v'.ownBlock = some w.heap.size) → wpList Tryz.prog ops Q rest (a.put o.dst v') w') : wpList Tryz.prog ops Q (o :: rest) a w := by
  obtain ⟨i, z, hi, hz0, hz1, hz2, hzs⟩ := st.info
  cases q with
  | none =>
    have hm : cs = [] := by
      cases cs with
      | nil => rfl
      | cons u cs => obtain ⟨g, o', e, _⟩ := hq 0 u rfl; cases e
    subst hm
    have hm0 : m = 0 := by
      have := st.pos
      simp only [List.length_nil] at hl
      rcases Nat.mul_eq_zero.1 hl.symm with e | e
      · exact e
      · omega
    subst hm0
    have hrun := run_append_no st v n c ys hown
    rw [← hty] at hrun
    refine Lib.wpList_append_run_sl w hgd s x _ ho v (.slice none 0 c) hs hx (by rw [hty] at hrun ⊢; exact hrun) ?_
    exact h v w (by simpa using hown) (grown_refl w _) (.inl rfl)
  | some ad =>
    refine wpList_append_own_at w hgd s x _ ho base T i z k by' st.under hi hz0 hz1 hz2 hzs st.pos v n ys hs hown ad m c cs hx hl ?_ h1 (by have := Nat.le_mul_of_pos_right (n + m) hby; unfold maxLen; omega) h63 hbase ?_
    · intro j u hu
      obtain ⟨g, o', e, hc⟩ := hq j u hu
      injection e with e
      subst e
      rw [add_flat]; exact hc
    · intro v' w' h2 h3 _ h4
      exact h v' w' h2 h3 h4
theorem step_append_sta {T TS : TypeId} {k by' : Nat} (st : StType Tryz.prog T TS k by') {base : Nat} {ops : Array Oper} {o : Oper} {a : Act} {K : Act → World → Prop} {Q : Exit → Act → World → Prop} {E : Prop} (hgd : o.guard = none) (s x : Operand)
    (ho : o.op = .call { callee := .builtin .append, args := #[s, x], argTypes := #[TS, TS] })
    (v : Value) (n m : Nat) (xs : List Value) (hs : a.eval s = v) (hown : w.ownsRow base T k v n xs) (cs : List Value) (hl : cs.length = m * k) (g : Nat) (hx : a.eval x = .slice (some ⟨g, 0, none⟩) m m)
    (hb : w.heap[g]? = some (.cells cs.toArray T (0, 0))) (h1 : ∀ u ∈ cs, u.oneCell' = true)
    (h63 : (n + m) * by' ≤ 140737488355328) (hby : 0 < by') (hbase : base ≤ w.heap.size)
    (h : ∀ v' w', w'.ownsRow base T k v' (n + m) (xs ++ cs) → w.grownBy w' v.ownBlock → (v'.ownBlock = v.ownBlock ∨ v'.ownBlock = some w.heap.size) → K (a.put o.dst v') w') :
    if Region.wanted o (yielded ops a.tmps) = true then Oper.wp Tryz.prog o a w K Q else E := by
  have hw : Region.wanted o (yielded ops a.tmps) = true := by simp [Region.wanted, hgd]
  rw [if_pos hw]
  obtain ⟨i, z, hi, hz0, hz1, hz2, hzs⟩ := st.info
  obtain ⟨v', w', hr, h2, h3, _, h5⟩ := run_append_own_at (P := Tryz.prog) w base TS o.type T i z k by' st.under hi hz0 hz1 hz2 hzs st.pos v n xs hown ⟨g, 0, none⟩ m m cs hl
    (by
      intro j u hu
      rw [add_flat, cell_of hb, ← hu]
      simp)
    h1 (by have := Nat.le_mul_of_pos_right (n + m) hby; unfold maxLen; omega) h63 hbase
  exact Lib.wp_append_run w s x _ _ ho _ _ hs hx _ _ hr (h v' w' h2 h3 h5)
theorem grown_opt {w1 w2 : World} {r : Option Nat} (h : w.grownBy w1 none) (k : w1.grownBy w2 r) (hr : ∀ g, r = some g → w.heap.size ≤ g) : w.grownBy w2 none := by
  cases r with
  | none => exact grown_trans h k
  | some g => exact grown_new h k (hr g rfl)
end Go.Proofs.YtbnnlbdjjpmgeaaGreat


namespace Go.Proofs.YtbnnlbdjjpmgeaaGreat
open Go.RowKit
variable {w w' W V : World}

def intCs (x : Int) : List Value := [.int .i64 x]
theorem intType : StType Tryz.prog 3 81 1 8 := .mk' Tryz.underlying81 (z := .int .i64 0) (by kernel_rfl) rfl (by decide)
def IntAt (w : World) (q : Option Addr) (l : List Int) : Prop := ∀ i x, l[i]? = some x → ∃ g, q = some ⟨g, 0, none⟩ ∧ w.cell? ⟨g, i, none⟩ = some (.int .i64 x)
theorem IntAt.nil {q : Option Addr} : IntAt w q [] := fun i x h => by simp at h
theorem IntAt.of {lo n c : Nat} {q : Option Addr} {l : List Int} (h : w.ownsRow lo 3 1 (.slice q n c) n (l.flatMap intCs)) : IntAt w q l := fun i x hx => by
  obtain ⟨g, e, h0⟩ := row_cell (f := intCs) (k := 1) (fun _ => rfl) h hx (j := 0) (by decide)
  refine ⟨g, e, ?_⟩
  rw [Nat.mul_one, Nat.add_zero] at h0
  exact h0
theorem IntAt.chg {F : Nat → Prop} {q : Option Addr} {l : List Int} (h : IntAt W q l) (hg : Chg F W V) (hf : ∀ g o, q = some ⟨g, o, none⟩ → ¬ F g) : IntAt V q l := fun i x hx => by
  obtain ⟨g, e, c0⟩ := h i x hx
  exact ⟨g, e, cell_chg c0 hg (hf g 0 e)⟩
theorem IntAt.grown {q : Option Addr} {l : List Int} (h : IntAt w q l) (hg : w.grownBy w' none) : IntAt w' q l := fun i x hx => by
  obtain ⟨g, e, c0⟩ := h i x hx
  exact ⟨g, e, grown_cell hg c0⟩
theorem has_any (l : List Int) (n : Nat) (hn : l.length = n) (hl : n ≤ 9223372036854775807) (q : Option Addr) (c : Nat) (hr : IntAt w q l) (p : Int) :
    Calls Tryz.prog 71 #[.slice q n c, .int .i64 p] w fun e w' => e = .returned (.bool (decide (p ∈ l))) ∧ w' = w := by
  subst hn
  have RR := Lib.hid hr
  clear hr
  go_enter Tryz.func71, Tryz.ntmps71
  go_wp2
  go_loop [5] (fun i => ∃ k : Nat, k ≤ l.length ∧ i = .int .i64 k ∧ ∀ j y, j < k → l[j]? = some y → p ≠ y) (fun i => l.length - (intOf i).toNat)
  case atStart => exact ⟨0, Nat.zero_le _, rfl, fun i y h => by omega⟩
  case round =>
    obtain ⟨k, hk, rfl, hno⟩ := hrel
    have NO := Lib.hid hno
    by_cases hlt : k < l.length
    · obtain ⟨x, hx⟩ : ∃ x, l[k]? = some x := ⟨_, List.getElem?_eq_getElem hlt⟩
      obtain ⟨gq, rfl, c0⟩ := RR.out k x hx
      have dl : decide ((k : Int) < (l.length : Int)) = true := by simp; omega
      have hkl : (k : Int) < (l.length : Int) := by omega
      have HX := Lib.hid hx
      have HM := Lib.hid (List.mem_of_getElem? hx)
      clear hx hno
      by_cases he : x = p
      · have de : (x == p) = true := by simpa using he
        have HE := Lib.hid (show p ∈ l by rw [← he]; exact HM.out)
        generalize l.length = N at *
        clear he
        go_wp2
        go_ret
        exact ⟨by rw [decide_eq_true HE.out]; rfl, rfl⟩
      · have de : (x == p) = false := by simpa using he
        have HE := Lib.hid he
        generalize l.length = N at *
        clear he
        go_wp2
        go_round
        case rel =>
          refine ⟨k + 1, hlt, by go_num, fun i y hi hy => ?_⟩
          rcases Nat.lt_or_ge i k with h | h
          · exact NO.out i y h hy
          · obtain rfl : i = k := by omega
            rw [HX.out] at hy
            injection hy with hy
            rw [← hy]; exact fun e => HE.out e.symm
        case measure => simp [intOf]; omega
    · have NA := Lib.hid (show ¬ p ∈ l from fun h => by
        obtain ⟨i, hi, e⟩ := List.getElem_of_mem h
        exact hno i _ (by omega) (List.getElem?_eq_getElem hi) e.symm)
      have dl : decide ((k : Int) < (l.length : Int)) = false := by simp; omega
      clear hno
      generalize l.length = N at *
      go_wp2
      go_ret
      exact ⟨by rw [decide_eq_false NA.out]; rfl, rfl⟩
end Go.Proofs.YtbnnlbdjjpmgeaaGreat


namespace Go.Proofs.YtbnnlbdjjpmgeaaGreat
open Go.RowKit
variable {w w' W : World}

theorem pre_ne : ∀ (l : List Int) (i : Nat), i < (pre l).length → l.getD i 0 ≠ 0 := by
  intro l
  induction l with
  | nil => intro i h; simp [pre] at h
  | cons x l ih =>
    intro i h
    simp only [pre] at h
    by_cases hx : x = 0
    · rw [if_pos hx] at h; simp at h
    · rw [if_neg hx] at h
      cases i with
      | zero => simpa using hx
      | succ i => simpa using ih i (by simpa using h)
theorem pre_end : ∀ (l : List Int), (pre l).length < l.length → l.getD (pre l).length 0 = 0 := by
  intro l
  induction l with
  | nil => intro h; simp at h
  | cons x l ih =>
    intro h
    simp only [pre] at h ⊢
    by_cases hx : x = 0
    · rw [if_pos hx]; simpa using hx
    · rw [if_neg hx] at h ⊢
      simpa using ih (by simpa using h)
theorem quiet_eq {f : FuncId} {args : Array Value} {w : World} {v : Value} (h : Calls Tryz.prog f args w fun e w' => e = .returned v ∧ w = w') : Calls Tryz.prog f args w fun e w' => e = .returned v ∧ w' = w :=
  h.mono fun _ _ h => ⟨h.1, h.2.symm⟩
theorem name01_any (b o c n : Nat) (ys : List Int) (h : IsBytes w (some ⟨b, o, none⟩) c ys) (hn : ys.length = n) (hb : n ≤ 140737488355328) (hc : n ≤ c) :
    Calls Tryz.prog 108 #[.slice (some ⟨b, o, none⟩) n c] w fun e w' => e = .returned (.string (strOfNums (pre ys))) ∧ w' = w := by
  have hcell : ∀ k, k < n → w.cell? ⟨b, o + k, none⟩ = some (.int .u8 (ys.getD k 0)) := by
    intro k hk
    obtain ⟨b', o', e, hx⟩ := h.2 (by omega)
    injection e with e
    injection e with e1 e2 _
    subst e1 e2
    exact hx k (by omega)
  have hpl := pre_le ys
  rw [hn] at hpl
  have C := Lib.hid hcell
  have NE := Lib.hid (pre_ne ys)
  have EN := Lib.hid (pre_end ys)
  rw [hn] at EN
  have TX := Lib.hid (fun V W (hV : IsBytes W V c (pre ys)) => hV.text rfl)
  have HB := Lib.hid h
  have PT := Lib.hid (pre_take ys)
  obtain ⟨k, hk⟩ : ∃ k, k = (pre ys).length := ⟨_, rfl⟩
  rw [← hk] at hpl NE EN TX PT
  clear h hcell hn hk
  go_enter Tryz.func108, Tryz.ntmps108
  go_wp2
  go_loop [3] (fun i => ∃ j : Nat, i = .int .i64 j ∧ j ≤ k) (fun i => k - (intOf i).toNat)
  case atStart => exact ⟨0, rfl, by omega⟩
  case round =>
    obtain ⟨j, rfl, hj⟩ := hrel
    by_cases hlt : j < k
    · have c0 := C.out j (by omega)
      have hne := NE.out j hlt
      generalize ys.getD j 0 = y at *
      have hjn : j < n := by omega
      have hb1 : (y != 0) = true := by simpa using hne
      go_wp2
      go_round
      case rel => exact ⟨j + 1, by go_num, by omega⟩
      case measure => simp [intOf]; omega
    · obtain rfl : j = k := by omega
      have cv := TX.out (some ⟨b, o, none⟩) w (by have := HB.out.take j (c' := c) (fun e => by cases e); rw [← PT.out] at this; exact this)
      by_cases hjn : j < n
      · have c0 := C.out j hjn
        rw [EN.out hjn] at c0
        go_wp2
        go_ret
        exact ⟨rfl, rfl⟩
      · go_wp2
        go_ret
        exact ⟨rfl, rfl⟩
end Go.Proofs.YtbnnlbdjjpmgeaaGreat

