/- Parts of the proof, put together: TrV, TrB, TrC, SortK, SortExp, TrO, TrG, TrF. No condition beyond those that each part names. -/
import Derived.Shelf.Small.Bits
import Derived.Shelf.Small.Strs
import Derived.Shelf.Strconv.Itoa0
import Derived.Shelf.Strings.Search1
import Derived.Shelf.Bytes.SlIndexAt
import Derived.Shelf.Bytes.SlSearch0
import Derived.Ground.SlbCloneProg
import Derived.Shelf.Bytes.SlClone
import Derived.Shelf.Bytes.IndexByte
import Derived.Test.YtbnnlbdjjpmgeaaProg
import Derived.Test.YtbnnlbdjjpmgeaaRows
import Derived.WalkKit
import Derived.WalkSpells
import Derived.WalkLawsBesides
import Derived.BigQuiet
import Derived.Deep.QuietTactic
import Derived.Lib.Hide
import Derived.IntWalk
import Derived.OneCell
import Derived.Laws.Rows
import Derived.OpenShut
import Derived.ProofKit
import Derived.Lib.EndianBits
import Derived.RegionTactic
import Derived.ChangeAlike
import Derived.WalkMore
import Derived.Laws.BytesArg
import Derived.Shelf.Bytes.SlEqualAll
import Derived.Lib.SlFresh
import Derived.Maps.AppendAt
import Derived.Deep.AppendSrc
import Derived.Deep.Upon
import Derived.Lib.AppendZeros
import Derived.Laws.IdiomStrings
import Derived.Lib.AppendZerosOnto
import Derived.Laws.StructEq
import Derived.Below
import Derived.Shelf.Abstract
import Derived.Laws.ResultCell
import Derived.Deep.Slices
import Derived.ChangeSame
import Derived.Laws.OwnMore
import Derived.Laws.Slices
import Derived.Lib.ConvBytes
import Derived.StringKeys
import Derived.Maps.Own
import Derived.Maps.OwnOps
import Derived.Maps.OwnSet
import Derived.WideShapes
import Derived.Deep.Cut
import Derived.Deep.CutRange
import Derived.PlainAid
import Derived.Lib.SlBytesRow
import Derived.Deep.Onto
import Derived.Laws.EntriesVeiled
import Derived.Shelf.SlSortCmp.WholeK
import Derived.Shelf.SlGeneric
import Derived.Ground.SlsfProg
import Derived.Test.YtbnnlbdjjpmgeaaPT2
import Derived.Test.YtbnnlbdjjpmgeaaPT3
namespace Go.Proofs.Ytbnnlbdjjpmgeaa
open Go.RowKit
variable {w w' W V : World} {xs : List Int}

structure VOut (S : Type) (Fine : S → Prop) (z : Wfx) (xs : List Int) (Inv : World → (Nat → Prop) → S → Prop) (F : Nat → Prop) (W W' : World) (way : List Int) (r : Int × (Nat × S)) (e : Ending) : Prop where
  ret : e = .returned (.int .i64 r.1)
  ex : ∃ F', Wk S z xs Inv W' F' r.2.1 way r.2.2 ∧ ∀ k, F' k → F k ∨ W.heap.size ≤ k
  chg : Chg F W W'
  few : r.1 = 0 → r.2.1 ≤ 8192 ∧ Fine r.2.2
section
variable {S : Type} {mt : Mt S} {Pre : List Int → Prop} {Fine : S → Prop} {Inv : World → (Nat → Prop) → S → Prop} {z : Wfx}
theorem vis_go {k m : Nat} {way name : List Int} {pl : Int} {s : S} (hn : ¬ 255 < name.length) : vis xs mt (k + 1) way name pl (m, s) = if pl ∈ way then (12, (m + 1, s)) else if 8192 < m + 1 then (11, (m + 1, s)) else match ndAt xs pl with
      | none => (12, (m + 1, s))
      | some nd => visK (vis xs mt k (way ++ [pl])) name (mt s name nd).2.1 (mt s name nd).2.2 (m + 1, (mt s name nd).1) := by
  have e : vis xs mt (k + 1) way name pl (m, s) = if 255 < name.length then (10, (m + 1, s)) else if pl ∈ way then (12, (m + 1, s)) else if 8192 < m + 1 then (11, (m + 1, s)) else match ndAt xs pl with
      | none => (12, (m + 1, s))
      | some nd => visK (vis xs mt k (way ++ [pl])) name (mt s name nd).2.1 (mt s name nd).2.2 (m + 1, (mt s name nd).1) := rfl
  rw [e, if_neg hn]
theorem own_room8 {T : TypeId} {k n c base : Nat} {q : Option Addr} {ys : List Value} (h : W.ownsRow base T k (.slice q n c) n ys) : n ≤ c := by
  rcases h.2 with ⟨hv, hn⟩ | ⟨g, cp, cur, hv, _, _, hle, _⟩
  · omega
  · injection hv with _ _ e; omega
theorem VOut.at {F F0 : Nat → Prop} {W0 : World} {m : Nat} {way : List Int} {s : S} {r : Int} (h : Wk S z xs Inv V F m way s) (hF : ∀ k, F k → F0 k ∨ W0.heap.size ≤ k) (hg : Chg F0 W0 V) (hm : r = 0 → m ≤ 8192 ∧ Fine s) : VOut S Fine z xs Inv F0 W0 V way (r, (m, s)) (.returned (.int .i64 r)) :=
  ⟨rfl, ⟨F, h, hF⟩, hg, hm⟩
theorem chg_met {F : Nat → Prop} {m : Nat} {way : List Int} {s : S} (h : Wk S z xs Inv W F m way s) (v : Value) : Chg F W (W.setCell ⟨z.cmet, 0, none⟩ v) :=
  Chg.of_grown (grown_setCell (grown_refl W (some z.cmet)) v) (fun b e => by injection e with e; exact .inl (e ▸ h.fmet))
set_option maxRecDepth 20000 in
theorem visit_long (M : MeetOk S z.fm z.cbs mt Pre Fine Inv) {F : Nat → Prop} {m : Nat} {way : List Int} {s : S} (name : List Int) (pl : Int) (hn : 255 < name.length) (hn2 : name.length ≤ 510) (hm : m ≤ 8192) (h : Wk S z xs Inv W F m way s) :
    Calls Try.prog 43 #[.string (strOfNums name), .int .u64 pl, .pointer (some ⟨z.cmet, 0, none⟩), .pointer (some ⟨z.cway, 0, none⟩), .pointer (some ⟨z.cb, 0, none⟩), .pointer (some ⟨z.cm, 0, none⟩), .pointer (some ⟨z.cv, 0, none⟩)] W fun e W' =>
      VOut S Fine z xs Inv F W W' way (10, (m + 1, s)) e := by
  have c0 := h.met.c
  have f0 := h.met.f
  have hsz : (strOfNums name).size = name.length := strOfNums_size _
  have FN := Lib.hid (fun (N : Int) (hN : N = (m + 1 : Nat)) => VOut.at (Fine := Fine) (r := 10) (h.setMet M (m + 1) hN) (fun k hk => .inl hk) (chg_met h _) (fun e => by cases e))
  obtain ⟨nl, hnl⟩ : ∃ nl, nl = name.length := ⟨_, rfl⟩
  rw [← hnl] at hsz hn hn2
  have dn : decide ((255 : Int) < (nl : Int)) = true := by simp; omega
  generalize strOfNums name = SN at *
  clear h hnl
  go_enter Try.func43, Try.ntmps43
  go_wp2
  go_ret
  exact FN.out _ (by omega)
set_option maxRecDepth 20000 in
set_option maxHeartbeats 3200000 in
theorem visit_any (M : MeetOk S z.fm z.cbs mt Pre Fine Inv) (hb : Byt xs) (hc : xs.length ≤ z.c) (hcm : z.c ≤ 9223372036854775807) (hbig : xs.length ≤ 140737488355328) : ∀ (k : Nat) (W : World) (F : Nat → Prop) (m : Nat) (way : List Int) (s : S) (name : List Int) (pl : Int),
    256 ≤ k + name.length → name.length ≤ 510 → Pre name → 0 ≤ pl → pl < 18446744073709551616 → m ≤ 8192 → way.length ≤ name.length → Fine s → Wk S z xs Inv W F m way s →
    Calls Try.prog 43 #[.string (strOfNums name), .int .u64 pl, .pointer (some ⟨z.cmet, 0, none⟩), .pointer (some ⟨z.cway, 0, none⟩), .pointer (some ⟨z.cb, 0, none⟩), .pointer (some ⟨z.cm, 0, none⟩), .pointer (some ⟨z.cv, 0, none⟩)] W fun e W' =>
      VOut S Fine z xs Inv F W W' way (vis xs mt k way name pl (m, s)) e := by
  intro k
  induction k with
  | zero =>
    intro W F m way s name pl hk hn2 _ _ _ hm _ _ h
    exact visit_long M name pl (by omega) hn2 hm h
  | succ k ih =>
    intro W F m way s name pl hk hn2 hpre hp0 hp1 hm hway hfine h
    have FI := Lib.hid hfine
    clear hfine
    by_cases hn : 255 < name.length
    · have e : vis xs mt (k + 1) way name pl (m, s) = (10, (m + 1, s)) := by unfold vis; rw [if_pos hn]
      rw [e]
      exact visit_long M name pl hn hn2 hm h
    have IH := Lib.hid ih
    have PRE := Lib.hid hpre
    obtain ⟨qw, cw, a1, a2, a3⟩ := h.way
    have H1 := Lib.hid (fun (N : Int) (hN : N = (m + 1 : Nat)) => And.intro (h.setMet M (m + 1) hN) (chg_met h (.int .i64 N)))
    have c0 := h.met.c
    have f0 := h.met.f
    have hsz : (strOfNums name).size = name.length := strOfNums_size _
    have h1' := H1.out ((m : Int) + 1) (by omega)
    obtain ⟨W1, hW1⟩ : ∃ W1, W.setCell ⟨z.cmet, 0, none⟩ (.int .i64 ((m : Int) + 1)) = W1 := ⟨_, rfl⟩
    rw [hW1] at h1'
    have HW1 := Lib.hid hW1
    have K1 := Lib.hid h1'.1
    have C1 := Lib.hid h1'.2
    clear hW1 h1' H1 ih hpre h a1 a2 a3 qw cw
    obtain ⟨r, hr⟩ : ∃ r, r = vis xs mt (k + 1) way name pl (m, s) := ⟨_, rfl⟩
    rw [← hr]
    have HR := Lib.hid (show r = if pl ∈ way then (12, (m + 1, s)) else if 8192 < m + 1 then (11, (m + 1, s)) else match ndAt xs pl with
      | none => (12, (m + 1, s))
      | some nd => visK (vis xs mt k (way ++ [pl])) name (mt s name nd).2.1 (mt s name nd).2.2 (m + 1, (mt s name nd).1) from hr.trans (vis_go hn))
    clear hr
    have hnl : name.length ≤ 255 := by omega
    obtain ⟨SN, hSN⟩ : ∃ SN, SN = strOfNums name := ⟨_, rfl⟩
    obtain ⟨nl, hnl2⟩ : ∃ nl, nl = name.length := ⟨_, rfl⟩
    rw [← hSN] at hsz ⊢
    rw [← hnl2] at hsz hnl hn hn2 hk hway
    have HSN := Lib.hid hSN
    have HNL := Lib.hid hnl2
    clear hSN hnl2
    have dn : decide ((255 : Int) < (nl : Int)) = false := by simp; omega
    go_enter Try.func43, Try.ntmps43
    go_upto_region 2 with fail
    rw [HW1.out]
    clear HW1 c0 f0
    obtain ⟨qw, cw, a1, a2, a3⟩ := K1.out.way
    have w1 := a1.c
    have hwl : way.length ≤ 9223372036854775807 := by omega
    have FB1 := Lib.hid K1.out.fb
    have SZ1 := Lib.hid C1.out.size
    have CT := Lib.hid (contains64_any (w := W1) way way.length rfl hwl qw cw (U64At.of a2) pl)
    have AO := Lib.hid a2
    clear a1 a2 a3 hwl
    go_wp2_with fail
    refine CT.out.mono ?_
    rintro e W1' ⟨rfl, hw'⟩
    have hw2 := hw'.symm
    subst hw2
    clear hw'
    by_cases hin : pl ∈ way
    · have FN := Lib.hid (VOut.at (Fine := Fine) (r := 12) K1.out (fun k hk => .inl hk) C1.out (fun e => by cases e))
      rw [if_pos hin] at HR
      rw [show decide (pl ∈ way) = true from decide_eq_true hin]
      clear hin
      go_wp2
      go_ret
      rw [HR.out]
      exact FN.out
    rw [if_neg hin] at HR
    rw [show decide (pl ∈ way) = false from decide_eq_false hin]
    clear hin CT
    have c0 := K1.out.met.c
    by_cases hmm : 8192 < m + 1
    · have FN := Lib.hid (VOut.at (Fine := Fine) (r := 11) K1.out (fun k hk => .inl hk) C1.out (fun e => by cases e))
      rw [if_pos hmm] at HR
      have dm : decide ((8192 : Int) < ((m + 1 : Nat) : Int)) = true := by simp; omega
      have dm2 : decide ((8192 : Int) < (m : Int) + 1) = true := by simp; omega
      clear hmm
      go_wp2
      go_ret
      rw [HR.out]
      exact FN.out
    rw [if_neg hmm] at HR
    have dm : decide ((8192 : Int) < ((m + 1 : Nat) : Int)) = false := by simp; omega
    have dm2 : decide ((8192 : Int) < (m : Int) + 1) = false := by simp; omega
    have b0 := K1.out.bb.c
    have NA := Lib.hid (nodeAt_any (w := W1) K1.out.cell hc hcm hbig hb pl hp0 hp1 SN)
    go_wp2_with fail
    refine NA.out.mono ?_
    rintro e W2 ⟨hex, hg2⟩
    have hsz2 := hg2.size
    have K2 := Lib.hid (K1.out.grown M hg2)
    have C2 := Lib.hid (C1.out.trans (Chg.of_grown hg2 (fun b e => by cases e)))
    clear hg2 NA b0 c0 dm dm2 K1 C1
    rcases hex with ⟨nd, v, hnd, rfl, ho⟩ | ⟨hnd, rfl⟩
    case inr =>
      rw [hnd] at HR
      have GZ := Lib.hid (fun (o : Obj) => And.intro (K2.out.grown M (grown1 W2 o)) (C2.out.trans (Chg.of_grown (grown1 W2 o) (fun b e => by cases e))))
      have FN := Lib.hid (fun (o : Obj) => VOut.at (Fine := Fine) (r := 12) (GZ.out o).1 (fun k hk => .inl hk) (GZ.out o).2 (fun e => by cases e))
      unfold nodeV
      go_wp2
      go_ret
      rw [HR.out]
      exact FN.out _
    case inl =>
      rw [hnd] at HR
      have NK := Lib.hid (ndAt_ok hb hnd)
      have SZ2 := Lib.hid (show W1.heap.size ≤ W2.heap.size from hsz2)
      obtain ⟨qn, cn, rfl⟩ := own_slice ho
      have NV := Lib.hid (fun g (e : (Value.slice qn nd.kids.length cn).ownBlock = some g) => (ho.lt g e))
      have HC := Lib.hid (HR.out)
      simp only [] at HC
      clear HR hnd
      have g3 := grown1 W2 (.cells #[.bool nd.ex.isSome, .string (nmOf SN nd.ex), .int .i64 (exOf nd.ex).kind, .bool (exOf nd.ex).weak, .int .u64 (exOf nd.ex).value, .int .u64 (exOf nd.ex).resolver, .int .u64 (exOf nd.ex).ordinal, .string (strOfNums (exOf nd.ex).other), .slice qn nd.kids.length cn] 62)
      have N3 := Lib.hid (show NodeAt (W2.alloc (.cells #[.bool nd.ex.isSome, .string (nmOf SN nd.ex), .int .i64 (exOf nd.ex).kind, .bool (exOf nd.ex).weak, .int .u64 (exOf nd.ex).value, .int .u64 (exOf nd.ex).resolver, .int .u64 (exOf nd.ex).ordinal, .string (strOfNums (exOf nd.ex).other), .slice qn nd.kids.length cn] 62)) W2.heap.size nd.ex.isSome (nmOf SN nd.ex) (exOf nd.ex) (.slice qn nd.kids.length cn) from heap_alloc_new W2 _)
      have K3 := Lib.hid (K2.out.grown M g3)
      have C3 := Lib.hid (C2.out.trans (Chg.of_grown g3 (fun b e => by cases e)))
      have O3 := Lib.hid (own_grown ho g3)
      unfold nodeV
      obtain ⟨nb, hnb⟩ : ∃ x, x = nd.ex.isSome := ⟨_, rfl⟩
      obtain ⟨nn, hnn⟩ : ∃ x, x = nmOf SN nd.ex := ⟨_, rfl⟩
      obtain ⟨nx, hnx⟩ : ∃ x, x = exOf nd.ex := ⟨_, rfl⟩
      obtain ⟨kl, hkl⟩ : ∃ x, x = nd.kids.length := ⟨_, rfl⟩
      rw [← hnb, ← hnn, ← hnx, ← hkl] at N3 K3 C3 O3
      rw [← hkl] at NV
      rw [← hnb, ← hnn, ← hnx, ← hkl]
      have EQ := Lib.hid (And.intro hnb (And.intro hnn (And.intro hnx hkl)))
      clear hnb hnn hnx hkl g3 ho K2 C2
      obtain ⟨W3, hW3⟩ : ∃ W3, W2.alloc (.cells #[.bool nb, .string nn, .int .i64 nx.kind, .bool nx.weak, .int .u64 nx.value, .int .u64 nx.resolver, .int .u64 nx.ordinal, .string (strOfNums nx.other), .slice qn kl cn] 62) = W3 := ⟨_, rfl⟩
      obtain ⟨gn, hgn⟩ : ∃ gn, W2.heap.size = gn := ⟨_, rfl⟩
      rw [hW3] at N3 K3 C3 O3
      rw [hgn] at N3
      have HW3 := Lib.hid hW3
      have HGN := Lib.hid hgn
      have HGN2 := Lib.hid hgn
      clear hW3 hgn
      go_upto_region 9 with fail
      rw [HW3.out, HGN.out]
      clear HW3 HGN
      obtain ⟨G, b1, b2, b3, b4, b5⟩ := K3.out.inv
      have hGF : ∀ k, G k → k < W1.heap.size := fun k hk => (FB1.out k (b1 k hk)).2
      have MC := M.call W3 G s name nd (.slice qn nd.kids.length cn) _ b2 FI.out PRE.out (by rw [← HNL.out]; exact hnl) NK.out (by rw [← EQ.out.2.2.2]; exact O3.out) (fun g e hg => by
        have h1 := (NV.out g (by rw [EQ.out.2.2.2]; exact e)).1
        have h2 := hGF g hg
        omega) (fun k hk => (K3.out.fb k (b1 k hk)).2)
      rw [← HSN.out, ← EQ.out.1, ← EQ.out.2.1, ← EQ.out.2.2.1, ← EQ.out.2.2.2] at MC
      unfold nodeV at MC
      have SUB := Lib.hid (M.sub s name nd)
      have PRK := Lib.hid (M.pre s name nd PRE.out)
      have NXT := Lib.hid (M.next s name nd FI.out)
      have STO := Lib.hid (M.stop s name nd)
      have TL := Lib.hid (fun V G' s' (hi : Inv V G' s') hG (hg : Chg G W3 V) => And.intro (K3.out.told b1 b3 b4 b5 hi hG hg) (C3.out.trans (hg.mono b1)))
      have MCH := Lib.hid MC
      have m0 := K3.out.me.c
      have EN := Lib.hid M.enters
      have N3l := N3.out.lt
      obtain ⟨d0, d1, d2, d3, d4, d5, d6, d7, d8⟩ := N3.out.c
      have SZ3 := Lib.hid C3.out.size
      have SZ23 := Lib.hid (show gn < W3.heap.size from N3.out.lt)
      clear MC b1 b2 b3 b4 b5 hGF O3
      have en := fun args V => M.enters args V
      go_wp2_with fail
      refine MCH.out.mono ?_
      rintro e W4 ⟨⟨q, c, G', rfl, i4, hG4, kd4, hq4, hlc, hcc⟩, hch⟩
      have K4C4 := TL.out _ _ _ i4 hG4 hch
      have hF4 : ∀ k, Foot F W3 W4 k → F k ∨ W.heap.size ≤ k := fun k hk => hk.elim .inl (fun hk => .inr (by have := SZ3.out; omega))
      have QB4 : ∀ g o, q = some ⟨g, o, none⟩ → ¬ Foot F W3 W4 g ∧ g < W4.heap.size := fun g o e => by
        have h1 := NV.out g (hq4 g o e)
        have h2 := K4C4.1.base
        refine ⟨fun e => e.elim (fun e => by have := (FB1.out g e).2; omega) (fun e => by have := SZ23.out; have := HGN2.out; omega), ?_⟩
        have := hch.size; have := SZ23.out; have := HGN2.out; omega
      have K4 := Lib.hid K4C4.1
      have C4 := Lib.hid K4C4.2
      have HF4 := Lib.hid hF4
      have QB := Lib.hid QB4
      have KD4 := Lib.hid kd4
      obtain ⟨⟨s4, L, e0⟩, hmt⟩ : ∃ x, x = mt s name nd := ⟨_, rfl⟩
      rw [← hmt] at K4 KD4 SUB PRK HC NXT STO hlc
      have FS := Lib.hid (show ∀ j, (j < L.length ∨ e0 = 0) → Fine s4 from fun j hj => NXT.out (hj.elim (fun hj => Classical.byContradiction fun h0 => by have h1 : L = [] := STO.out h0; rw [h1] at hj; simp at hj) id))
      simp only [← hmt] at hlc ⊢
      have HL := Lib.hid (And.intro hlc hcc)
      clear hmt i4 hG4 kd4 hq4 hch K4C4 hF4 QB4 hlc hcc TL MCH m0 d0 d1 d2 d3 d4 d5 d6 d7 d8 N3l SZ3 SZ23 K3 C3 N3 NV EQ EN en
      have hLc : L.length ≤ c := HL.out.1
      have hc63 : c ≤ 9223372036854775807 := HL.out.2
      obtain ⟨qy, cy, a1, a2, a3⟩ := K4.out.way
      have w4 := a1.c
      have f4 := a1.f
      have l4 := a1.lt
      have g5 := grown1 W4 (.cells #[.int .u64 pl] 36)
      have O5 := Lib.hid (own_grown a2 g5)
      have N5 := Lib.hid (heap_alloc_new W4 (.cells #[.int .u64 pl] 36))
      have A5 := Lib.hid (a1.grown g5)
      have SZ4 := Lib.hid (show z.B ≤ W4.heap.size from K4.out.base)
      have PU := Lib.hid (fun (V : Value) (W2 : World) h1 h2 h3 => K4.out.push M pl w4 g5 (v' := V) (W2 := W2) h1 h2 h3)
      clear a1 a2 a3 g5
      go_upto_region 12 with fail
      go_wp2_with (at_builtin; refine wp_append_sta u64Type rfl _ _ rfl _ way.length _ rfl O5.out [.int .u64 pl] rfl W4.heap.size rfl N5.out (fun u hu => by simp at hu; subst hu; rfl) (by omega) (by decide) ?_ ?_)
      · have := SZ4.out; (try rw [World.size_alloc]); omega
      intro v' W5 ho5 hg5 hv5
      obtain ⟨q5, c5, rfl⟩ := own_slice ho5
      have a6 := A5.out.kept hg5 (own_ne O5.out A5.out (by decide))
      have c6 := a6.c
      have f6 := a6.f
      have l6 := a6.lt
      have K6C6 := PU.out _ _ ho5 hg5 (by rw [World.size_alloc]; exact hv5)
      obtain ⟨W6, hW6⟩ : ∃ W6, W5.setCell ⟨z.cway, 0, none⟩ (.slice q5 (way.length + 1) c5) = W6 := ⟨_, rfl⟩
      rw [hW6] at K6C6
      have hF6 : ∀ k, Foot (Foot F W3 W4) W4 W6 k → F k ∨ W.heap.size ≤ k := fun k hk => hk.elim (HF4.out k) (fun hk => .inr (by have := C4.out.size; omega))
      have K6 := Lib.hid K6C6.1
      have C6 := Lib.hid (show Chg F W W6 from ⟨K6C6.2.os.trans C4.out.os, K6C6.2.tape.trans C4.out.tape, K6C6.2.output.trans C4.out.output, Nat.le_trans C4.out.size K6C6.2.size, fun i hi hf => (K6C6.2.block i (Nat.lt_of_lt_of_le hi C4.out.size) (fun e => (HF4.out i e).elim hf (fun e => by omega))).trans (C4.out.block i hi hf)⟩)
      have KD6 := Lib.hid (KD4.out.chg K6C6.2 (fun g o e => (QB.out g o e).1))
      have QB6 := Lib.hid (show ∀ g o, q = some ⟨g, o, none⟩ → ¬ Foot (Foot F W3 W4) W4 W6 g from fun g o e hk => hk.elim (QB.out g o e).1 (fun hk => by have := (QB.out g o e).2; omega))
      have HF6 := Lib.hid hF6
      have HW6 := Lib.hid hW6
      clear ho5 hg5 hv5 a6 K6C6 hF6 hW6 PU O5 N5 A5 K4 C4 HF4 QB KD4 w4 f4 l4
      go_upto_region 13 with fail
      rw [HW6.out]
      clear HW6 c6 f6 l6
      go_wp2_with fail
      go_loopw [13, 51] (fun er i wr => ∃ (j : Nat) (ej : Int) (F' : Nat → Prop) (m' : Nat) (s' : S), j ≤ L.length ∧ i = .int .i64 j ∧ er = .int .i64 ej ∧ Wk S z xs Inv wr F' m' (way ++ [pl]) s' ∧ (∀ k, F' k → F k ∨ W.heap.size ≤ k) ∧ Chg F W wr ∧ KidsAt wr q L ∧ (∀ g o, q = some ⟨g, o, none⟩ → ¬ F' g) ∧ Hid (r = visK (vis xs mt k (way ++ [pl])) name (L.drop j) ej (m', s')) ∧ m' ≤ 8192 ∧ Hid ((j < L.length ∨ ej = 0) → Fine s')) (fun _ i _ => L.length - (intOf i).toNat)
      case atStart => exact ⟨0, e0, _, m + 1, s4, Nat.zero_le _, rfl, rfl, K6.out, HF6.out, C6.out, KD6.out, QB6.out, Lib.hid HC.out, by omega, Lib.hid (FS.out 0)⟩
      case round =>
        obtain ⟨j, ej, F', m', s', hj, rfl, rfl, hK, hF', hC, hKd, hQ, CO, hm', FJ⟩ := hrel
        have K7 := Lib.hid hK
        have F7 := Lib.hid hF'
        have C7 := Lib.hid hC
        have Q7 := Lib.hid hQ
        have KD7 := Lib.hid hKd
        clear hK hF' hC hQ hKd
        by_cases hlt : j < L.length
        · obtain ⟨x, hx⟩ : ∃ x, L[j]? = some x := ⟨_, List.getElem?_eq_getElem hlt⟩
          have hxm := List.mem_of_getElem? hx
          have KO := Lib.hid (NK.out.kids.each x (SUB.out x hxm))
          have PX := Lib.hid (PRK.out x hxm)
          have CO2 := Lib.hid (show r = if (vis xs mt k (way ++ [pl]) (name ++ x.1) x.2 (m', s')).1 ≠ 0 then vis xs mt k (way ++ [pl]) (name ++ x.1) x.2 (m', s') else visK (vis xs mt k (way ++ [pl])) name (L.drop (j + 1)) 0 (vis xs mt k (way ++ [pl]) (name ++ x.1) x.2 (m', s')).2 by
            obtain ⟨hjj, he⟩ := List.getElem?_eq_some_iff.1 hx
            have h := CO.out
            rw [List.drop_eq_getElem_cons hjj, he] at h
            exact h)
          obtain ⟨gq, oq, rfl, c0, c1⟩ := KD7.out j x hx
          obtain ⟨xe, xp⟩ := x
          have hcat : SN ++ strOfNums xe = strOfNums (name ++ xe) := by rw [HSN.out, strOfNums_app]
          simp only [] at c0 c1 KO PX CO2
          have g8 := grown1 wr (.cells #[.string (strOfNums xe), .int .u64 xp] 86)
          have X8 := Lib.hid (show KidIn (wr.alloc (.cells #[.string (strOfNums xe), .int .u64 xp] 86)) wr.heap.size (xe, xp) from heap_alloc_new wr _)
          have K8 := Lib.hid (K7.out.grown M g8)
          have C8 := Lib.hid (C7.out.trans (Chg.of_grown g8 (fun b e => by cases e)))
          have KD8 := Lib.hid (KD7.out.grown g8)
          have QS8 := Lib.hid (show gq < wr.heap.size from by have := World.block_lt_of_cell? wr _ c0; exact this)
          obtain ⟨w8, hw8⟩ : ∃ w8, wr.alloc (.cells #[.string (strOfNums xe), .int .u64 xp] 86) = w8 := ⟨_, rfl⟩
          obtain ⟨gk, hgk⟩ : ∃ gk, wr.heap.size = gk := ⟨_, rfl⟩
          rw [hw8] at X8 K8 C8 KD8
          rw [hgk] at X8 QS8
          have HW8 := Lib.hid hw8
          have HGK := Lib.hid hgk
          have S8 := Lib.hid (show gk < w8.heap.size from X8.out.lt)
          have X1 := Lib.hid (show 1 ≤ xe.length by
            have h := KO.out.ne
            cases xe with
            | nil => exact absurd rfl h
            | cons => simp)
          have hsx : (strOfNums xe).size = xe.length := strOfNums_size _
          have hxl : xe.length ≤ 255 := KO.out.len
          have dl : decide ((j : Int) < (L.length : Int)) = true := by simp; omega
          have hjl : (j : Int) < (L.length : Int) := by omega
          clear g8 hw8 hgk hx hxm K7 C7 KD7 CO
          go_upto_region 16 with fail
          rw [HW8.out, HGK.out]
          clear HW8 HGK c0 c1
          have x0 := X8.out.c0
          have x1 := X8.out.c1
          have xl := X8.out.lt
          have v0 := K8.out.vi.c
          unfold Wfx.caps at v0
          have CALL := Lib.hid (IH.out w8 F' m' (way ++ [pl]) s' (name ++ xe) xp (by rw [List.length_append, ← HNL.out]; have := X1.out; omega) (by rw [List.length_append, ← HNL.out]; have := KO.out.len; simp only [] at this; omega) PX.out KO.out.lo KO.out.hi hm'
            (by rw [List.length_append, List.length_append, List.length_singleton, ← HNL.out]; have := X1.out; omega) (FJ.out (.inl hlt)) K8.out)
          obtain ⟨⟨R, m9, s9⟩, hR⟩ : ∃ x, x = vis xs mt k (way ++ [pl]) (name ++ xe) xp (m', s') := ⟨_, rfl⟩
          rw [← hR] at CALL CO2
          clear hR
          go_wp2_with fail
          refine CALL.out.mono ?_
          rintro e w9 ⟨rfl, ⟨F9, k9, f9⟩, c9, few9⟩
          have K9 := Lib.hid k9
          have F9H := Lib.hid (show ∀ k, F9 k → F k ∨ W.heap.size ≤ k from fun k hk => (f9 k hk).elim (F7.out k) (fun e => .inr (by have := C8.out.size; omega)))
          have C9 := Lib.hid (show Chg F W w9 from ⟨c9.os.trans C8.out.os, c9.tape.trans C8.out.tape, c9.output.trans C8.out.output, Nat.le_trans C8.out.size c9.size, fun i hi hn => (c9.block i (Nat.lt_of_lt_of_le hi C8.out.size) (fun e => (F7.out i e).elim hn (fun e => by omega))).trans (C8.out.block i hi hn)⟩)
          have KD9 := Lib.hid (KD8.out.chg c9 Q7.out)
          have Q9 := Lib.hid (show ∀ g o, (some ⟨gq, oq, none⟩ : Option Addr) = some ⟨g, o, none⟩ → ¬ F9 g from fun g o e hk => (f9 g hk).elim (Q7.out g o e) (fun h => by
            injection e with e; injection e with e _ _; subst e
            have := QS8.out; have := S8.out; omega))
          have FEW9 := Lib.hid few9
          simp only [] at K9 FEW9 CO2
          clear k9 f9 c9 few9 CALL K8 C8 KD8 QS8 S8 X8 x0 x1 xl v0 hcat
          by_cases hR0 : R = 0
          · have dr : (R != 0) = false := by rw [hR0]; rfl
            have CO3 := Lib.hid (show r = visK (vis xs mt k (way ++ [pl])) name (L.drop (j + 1)) 0 (m9, s9) by
              have h := CO2.out
              rw [if_neg (fun h => h hR0)] at h
              exact h)
            have M9 := Lib.hid (FEW9.out hR0)
            clear CO2 FEW9
            subst hR0
            go_wp2
            go_roundw
            case rel => exact ⟨j + 1, 0, F9, m9, s9, hlt, by go_num, rfl, K9.out, F9H.out, C9.out, KD9.out, Q9.out, Lib.hid CO3.out, M9.out.1, Lib.hid (fun _ => M9.out.2)⟩
            case measure => simp [intOf]; omega
          · have dr : (R != 0) = true := by simpa using hR0
            have RQ := Lib.hid (show r = (R, (m9, s9)) by
              have h := CO2.out
              rw [if_pos hR0] at h
              exact h)
            have HR0 := Lib.hid hR0
            clear CO2 hR0
            have FWX := Lib.hid (And.intro (F9H.out) (C9.out))
            obtain ⟨q8, c8, a1, a2, a3⟩ := (K9.out).way
            have PP := Lib.hid (fun hc => Wk.pop M (K9.out) (q := q8) (cap := c8) hc)
            obtain ⟨b8, o8, hq8⟩ : ∃ b o, q8 = some ⟨b, o, none⟩ := by
              rcases a2.2 with ⟨_, hn⟩ | ⟨g, cp, cur, hv, _⟩
              · rw [List.length_append, List.length_singleton] at hn; omega
              · injection hv with hv _ _; exact ⟨g, 0, hv⟩
            subst hq8
            have hN8 : (way ++ [pl]).length = way.length + 1 := by rw [List.length_append, List.length_singleton]
            have hr8 : (way ++ [pl]).length ≤ c8 := own_room8 a2
            obtain ⟨N8, hNN⟩ : ∃ n, n = (way ++ [pl]).length := ⟨_, rfl⟩
            rw [← hNN] at a1 PP hN8 hr8
            have hsub8 : (N8 : Int) - 1 = (way.length : Int) := by omega
            have CH := cut_hi (T := 70) (k := 1) (by kernel_rfl) (fun W => by kernel_rfl) b8 o8 N8 c8 way.length .i64 (by omega)
            have w8 := a1.c
            have f8 := a1.f
            have l8 := a1.lt
            have FN := Lib.hid (show VOut S Fine z xs Inv F W _ way r (.returned (.int .i64 R)) by
              have h := PP.out w8
              have hf := FWX.out
              rw [RQ.out]
              exact VOut.at h.1 hf.1 (⟨h.2.os.trans hf.2.os, h.2.tape.trans hf.2.tape, h.2.output.trans hf.2.output, Nat.le_trans hf.2.size h.2.size, fun i hi hn => (h.2.block i (Nat.lt_of_lt_of_le hi hf.2.size) (fun e => (hf.1 i e).elim hn (fun e => by omega))).trans (hf.2.block i hi hn)⟩) (fun e => absurd e HR0.out))
            have hN863 : way.length ≤ 9223372036854775807 := by omega
            clear a1 a2 a3 hNN
            go_wp2
            go_ret
            exact FN.out
        · have hjL : j = L.length := by omega
          have RQ := Lib.hid (show r = (ej, (m', s')) by
            have h := CO.out
            rw [hjL, List.drop_length] at h
            exact h)
          have dl : decide ((j : Int) < (L.length : Int)) = false := by simp; omega
          have dl2 : decide (j < L.length) = false := by simp; omega
          clear CO hjL hlt
          have FWX := Lib.hid (And.intro (F7.out) (C7.out))
          obtain ⟨q8, c8, a1, a2, a3⟩ := (K7.out).way
          have PP := Lib.hid (fun hc => Wk.pop M (K7.out) (q := q8) (cap := c8) hc)
          obtain ⟨b8, o8, hq8⟩ : ∃ b o, q8 = some ⟨b, o, none⟩ := by
            rcases a2.2 with ⟨_, hn⟩ | ⟨g, cp, cur, hv, _⟩
            · rw [List.length_append, List.length_singleton] at hn; omega
            · injection hv with hv _ _; exact ⟨g, 0, hv⟩
          subst hq8
          have hN8 : (way ++ [pl]).length = way.length + 1 := by rw [List.length_append, List.length_singleton]
          have hr8 : (way ++ [pl]).length ≤ c8 := own_room8 a2
          obtain ⟨N8, hNN⟩ : ∃ n, n = (way ++ [pl]).length := ⟨_, rfl⟩
          rw [← hNN] at a1 PP hN8 hr8
          have hsub8 : (N8 : Int) - 1 = (way.length : Int) := by omega
          have CH := cut_hi (T := 70) (k := 1) (by kernel_rfl) (fun W => by kernel_rfl) b8 o8 N8 c8 way.length .i64 (by omega)
          have w8 := a1.c
          have f8 := a1.f
          have l8 := a1.lt
          have FN := Lib.hid (show VOut S Fine z xs Inv F W _ way r (.returned (.int .i64 ej)) by
            have h := PP.out w8
            have hf := FWX.out
            rw [RQ.out]
            exact VOut.at h.1 hf.1 (⟨h.2.os.trans hf.2.os, h.2.tape.trans hf.2.tape, h.2.output.trans hf.2.output, Nat.le_trans hf.2.size h.2.size, fun i hi hn => (h.2.block i (Nat.lt_of_lt_of_le hi hf.2.size) (fun e => (hf.1 i e).elim hn (fun e => by omega))).trans (hf.2.block i hi hn)⟩) (fun h => ⟨hm', FJ.out (.inr h)⟩))
          have hN863 : way.length ≤ 9223372036854775807 := by omega
          clear a1 a2 a3 hNN
          go_wp2
          go_ret
          exact FN.out
end
end Go.Proofs.Ytbnnlbdjjpmgeaa


namespace Go.Proofs.Ytbnnlbdjjpmgeaa
open Go.RowKit
variable {w w' W V : World} {xs : List Int}

def walkN {S : Type} (xs : List Int) (mt : Mt S) (s : S) : Int × S := if xs = [] then (0, s) else ((vis xs mt 257 [] [] 0 (0, s)).1, (vis xs mt 257 [] [] 0 (0, s)).2.2)
structure WOut (S : Type) (Fine : S → Prop) (Inv : World → (Nat → Prop) → S → Prop) (G : Nat → Prop) (W W' : World) (r : Int × S) (e : Ending) : Prop where
  ret : e = .returned (.int .i64 r.1)
  ex : ∃ G', Inv W' G' r.2 ∧ ∀ k, G' k → G k ∨ W.heap.size ≤ k
  chg : Chg G W W'
  few : r.1 = 0 → Fine r.2
section
variable {S : Type} {mt : Mt S} {Pre : List Int → Prop} {Fine : S → Prop} {Inv : World → (Nat → Prop) → S → Prop} {fm : Nat} {cbs : Array Value}
set_option maxRecDepth 20000 in
set_option maxHeartbeats 1600000 in
theorem walk_any (M : MeetOk S fm cbs mt Pre Fine Inv) (hp : Pre []) {G : Nat → Prop} {s : S} (hfs : Fine s) (hi : Inv W G s) (hG : ∀ k, G k → k < W.heap.size) {b o c : Nat} (hx : ∀ i, i < xs.length → W.cell? ⟨b, o + i, none⟩ = some (.int .u8 (xs.getD i 0))) (hn : xs ≠ []) (hgb : ¬ G b)
    (hb : Byt xs) (hc : xs.length ≤ c) (hcm : c ≤ 9223372036854775807) (hbig : xs.length ≤ 140737488355328) :
    Calls Try.prog 26 #[.slice (some ⟨b, o, none⟩) xs.length c, .func (.func fm) #[] cbs] W fun e W' => WOut S Fine Inv G W W' (walkN xs mt s) e := by
  have hz : 0 < xs.length := by
    cases xs with
    | nil => exact absurd rfl hn
    | cons => simp
  have hbl := World.block_lt_of_cell? W _ (hx 0 hz)
  simp only at hbl
  have dz : decide ((xs.length : Int) = 0) = false := by simp; omega
  have dz2 : ((xs.length : Int) == 0) = false := by rw [beq_eq_false_iff_ne]; omega
  obtain ⟨n, hn'⟩ : ∃ n, n = W.heap.size := ⟨_, rfl⟩
  rw [← hn'] at hbl hG
  have g0 := grown1 W (.cells #[.slice (some ⟨b, o, none⟩) xs.length c] 25)
  have o0 := OneAt.new W (.slice (some ⟨b, o, none⟩) xs.length c) 25
  have z0 : (W.alloc (.cells #[.slice (some ⟨b, o, none⟩) xs.length c] 25)).heap.size = n + 1 := by rw [World.size_alloc, hn']
  rw [← hn'] at o0
  obtain ⟨V0, hV0⟩ : ∃ V0, W.alloc (.cells #[.slice (some ⟨b, o, none⟩) xs.length c] 25) = V0 := ⟨_, rfl⟩
  rw [hV0] at g0 o0 z0
  have g1 := grown1 V0 (.cells #[.func (.func fm) #[] cbs] 63)
  have o1 := OneAt.new V0 (.func (.func fm) #[] cbs) 63
  have z1 : (V0.alloc (.cells #[.func (.func fm) #[] cbs] 63)).heap.size = n + 1 + 1 := by rw [World.size_alloc, z0]
  rw [z0] at o1
  obtain ⟨V1, hV1⟩ : ∃ V1, V0.alloc (.cells #[.func (.func fm) #[] cbs] 63) = V1 := ⟨_, rfl⟩
  rw [hV1] at g1 o1 z1
  have g2 := grown1 V1 (.cells #[.int .i64 0] 3)
  have o2 := OneAt.new V1 (.int .i64 0) 3
  have z2 : (V1.alloc (.cells #[.int .i64 0] 3)).heap.size = n + 1 + 1 + 1 := by rw [World.size_alloc, z1]
  rw [z1] at o2
  obtain ⟨V2, hV2⟩ : ∃ V2, V1.alloc (.cells #[.int .i64 0] 3) = V2 := ⟨_, rfl⟩
  rw [hV2] at g2 o2 z2
  have g3 := grown1 V2 (.cells #[.slice none 0 0] 70)
  have o3 := OneAt.new V2 (.slice none 0 0) 70
  have z3 : (V2.alloc (.cells #[.slice none 0 0] 70)).heap.size = n + 1 + 1 + 1 + 1 := by rw [World.size_alloc, z2]
  rw [z2] at o3
  obtain ⟨V3, hV3⟩ : ∃ V3, V2.alloc (.cells #[.slice none 0 0] 70) = V3 := ⟨_, rfl⟩
  rw [hV3] at g3 o3 z3
  have g4 := grown1 V3 (.cells #[.nilFunc] 80)
  have o4 := OneAt.new V3 .nilFunc 80
  have z4 : (V3.alloc (.cells #[.nilFunc] 80)).heap.size = n + 1 + 1 + 1 + 1 + 1 := by rw [World.size_alloc, z3]
  rw [z3] at o4
  obtain ⟨V4, hV4⟩ : ∃ V4, V3.alloc (.cells #[.nilFunc] 80) = V4 := ⟨_, rfl⟩
  rw [hV4] at g4 o4 z4
  have g5 := grown_setCell (i := 0) (grown_refl V4 (some (n + 1 + 1 + 1 + 1))) (.func (.func 43) #[] #[.pointer (some ⟨n + 1 + 1, 0, none⟩), .pointer (some ⟨n + 1 + 1 + 1, 0, none⟩), .pointer (some ⟨n, 0, none⟩), .pointer (some ⟨n + 1, 0, none⟩), .pointer (some ⟨n + 1 + 1 + 1 + 1, 0, none⟩)])
  have o5 := o4.set (.func (.func 43) #[] #[.pointer (some ⟨n + 1 + 1, 0, none⟩), .pointer (some ⟨n + 1 + 1 + 1, 0, none⟩), .pointer (some ⟨n, 0, none⟩), .pointer (some ⟨n + 1, 0, none⟩), .pointer (some ⟨n + 1 + 1 + 1 + 1, 0, none⟩)])
  have c4 := o4.c
  have f4 := o4.f
  have l4 := o4.lt
  obtain ⟨V5, hV5⟩ : ∃ V5, V4.setCell ⟨n + 1 + 1 + 1 + 1, 0, none⟩ (.func (.func 43) #[] #[.pointer (some ⟨n + 1 + 1, 0, none⟩), .pointer (some ⟨n + 1 + 1 + 1, 0, none⟩), .pointer (some ⟨n, 0, none⟩), .pointer (some ⟨n + 1, 0, none⟩), .pointer (some ⟨n + 1 + 1 + 1 + 1, 0, none⟩)]) = V5 := ⟨_, rfl⟩
  rw [hV5] at g5 o5
  have g04 := grown_trans (grown_trans (grown_trans (grown_trans g0 g1) g2) g3) g4
  have g14 := grown_trans (grown_trans (grown_trans g1 g2) g3) g4
  have ch5 : Chg (fun k => n < k) W V5 := (Chg.of_grown g04 (fun b e => by cases e)).trans (Chg.of_grown g5 (fun b e => by injection e with e; exact .inl (by omega)))
  have s5 : V5.heap.size = n + 1 + 1 + 1 + 1 + 1 := by rw [← hV5, ← z4]; simp
  have ne4 : ∀ k, k ≠ n + 1 + 1 + 1 + 1 → (some (n + 1 + 1 + 1 + 1) : Option Nat) ≠ some k := fun k hk e => by injection e with e; omega
  have K5 := Lib.hid (show Wk S ⟨0, n + 1 + 1, n + 1 + 1 + 1, n, n + 1, n + 1 + 1 + 1 + 1, b, o, c, fm, cbs⟩ xs Inv V5 (fun k => G k ∨ k = n + 1 + 1 ∨ k = n + 1 + 1 + 1) 0 [] s from
    { met := ((o2.grown g3).grown g4).kept g5 (ne4 _ (by omega))
      way := ⟨none, 0, (o3.grown g4).kept g5 (ne4 _ (by omega)), World.ownsRow_nil _ _ _ _, fun g e => by cases e⟩
      inv := ⟨G, fun k hk => .inl hk, M.kept _ _ _ _ _ hi ch5 (fun k hk e => by have := hG k hk; omega), fun hk => by have := hG _ hk; simp only at this; omega, fun hk => by have := hG _ hk; simp only at this; omega, fun q n' cap e g eg hk => by
        rw [((o3.grown g4).kept g5 (ne4 _ (by omega))).c] at e
        injection e with e; injection e with e1 e2 e3; subst e1; cases eg⟩
      fmet := .inr (.inl rfl)
      fway := .inr (.inr rfl)
      fb := fun k hk => ⟨Nat.zero_le _, by rw [s5]; rcases hk with hk | hk | hk; have := hG k hk; omega; omega; omega⟩
      bb := (o0.grown g14).kept g5 (ne4 _ (by omega))
      me := (((o1.grown g2).grown g3).grown g4).kept g5 (ne4 _ (by omega))
      vi := o5
      nb := fun hk => hk.elim (fun hk => by have := hG _ hk; simp only at this; omega) (fun hk => by simp only at hk; omega)
      nm := fun hk => hk.elim (fun hk => by have := hG _ hk; simp only at this; omega) (fun hk => by simp only at hk; omega)
      nv := fun hk => hk.elim (fun hk => by have := hG _ hk; simp only at this; omega) (fun hk => by simp only at hk; omega)
      cell := fun i hi => cell_chg (hx i hi) ch5 (by simp only; omega)
      nx := fun hk => hk.elim hgb (fun hk => by simp only at hk; omega)
      ne := by simp only; omega
      nz := hz })
  have CALL := Lib.hid (visit_any (z := ⟨0, n + 1 + 1, n + 1 + 1 + 1, n, n + 1, n + 1 + 1 + 1 + 1, b, o, c, fm, cbs⟩) M hb hc hcm hbig 257 V5 _ 0 [] s [] 0 (by simp) (by simp) hp (Int.le_refl _) (by decide) (by omega) (Nat.le_refl _) hfs K5.out)
  have CE := Lib.hid ch5
  have v5 := o5.c
  have HW := Lib.hid (And.intro hV0 (And.intro hV1 (And.intro hV2 (And.intro hV3 (And.intro hV4 hV5)))))
  have HN := Lib.hid hn'
  have hwn : walkN xs mt s = ((vis xs mt 257 [] [] 0 (0, s)).1, (vis xs mt 257 [] [] 0 (0, s)).2.2) := if_neg hn
  have WN := Lib.hid hwn
  clear g0 g1 g2 g3 g4 g5 o0 o1 o2 o3 o4 o5 z0 z1 z2 z3 z4 hV0 hV1 hV2 hV3 hV4 hV5 g04 g14 ch5 s5 ne4 K5 hi hG hx hgb hn' hwn hn
  simp only [] at CALL
  rw [show strOfNums [] = (⟨#[]⟩ : ByteArray) from rfl] at CALL
  go_enter Try.func26, Try.ntmps26
  go_upto_region 6 with fail
  rw [← HN.out, HW.out.1, HW.out.2.1, HW.out.2.2.1, HW.out.2.2.2.1, HW.out.2.2.2.2.1]
  go_upto_region 7 with fail
  rw [HW.out.2.2.2.2.2]
  go_wp2_with fail
  refine CALL.out.mono ?_
  rintro e w' ⟨rfl, ⟨F', k', f'⟩, c', few⟩
  obtain ⟨G', b1, b2, _, _, _⟩ := k'.inv
  have FN := Lib.hid (show WOut S Fine Inv G W w' (walkN xs mt s) (.returned (.int .i64 (vis xs mt 257 [] [] 0 (0, s)).1)) by
    rw [WN.out]
    refine ⟨rfl, ⟨G', b2, fun k hk => ?_⟩, ?_, fun h => (few h).2⟩
    · have hs := CE.out.size
      have hnn := HN.out
      rcases f' k (b1 k hk) with h | h
      · rcases h with h | h
        · exact .inl h
        · exact .inr (by omega)
      · exact .inr (by omega)
    · have ce := CE.out
      have hnn := HN.out
      exact ⟨c'.os.trans ce.os, c'.tape.trans ce.tape, c'.output.trans ce.output, Nat.le_trans ce.size c'.size, fun i hi hf => (c'.block i (Nat.lt_of_lt_of_le hi ce.size) (fun e => e.elim hf (fun e => by omega))).trans (ce.block i hi (by omega))⟩)
  generalize (vis xs mt 257 [] [] 0 (0, s)).1 = r at *
  clear k' f' c' few b1 b2
  go_wp2
  go_ret
  exact FN.out
theorem walk_no (q : Option Addr) (c fm : Nat) (cbs : Array Value) :
    Calls Try.prog 26 #[.slice q 0 c, .func (.func fm) #[] cbs] W fun e W' => e = .returned (.int .i64 0) ∧ W.grownBy W' none := by
  go_enter Try.func26, Try.ntmps26
  go_wp2
  go_ret
  exact ⟨rfl, grown_trans (grown1 W _) (grown1 _ _)⟩
end
end Go.Proofs.Ytbnnlbdjjpmgeaa


namespace Go.Proofs.Ytbnnlbdjjpmgeaa
open Go.RowKit
variable {w w' W V : World} {xs : List Int}

def outCs (y : List Int × Ex) : List Value := exCs (strOfNums y.1) y.2
theorem outCs_len (y : List Int × Ex) : (outCs y).length = 7 := rfl
theorem exType : StType Try.prog 38 22 7 72 := .mk' Try.underlying22 (z := .agg #[.string ⟨#[]⟩, .int .i64 0, .bool false, .int .u64 0, .int .u64 0, .int .u64 0, .string ⟨#[]⟩]) (by kernel_rfl) rfl (by decide)
def InvAll (cl : Nat) (W : World) (G : Nat → Prop) (out : Out) : Prop :=
  ∃ q c, OneAt W cl (.slice q out.length c) 22 ∧ W.ownsRow 0 38 7 (.slice q out.length c) out.length (out.flatMap outCs) ∧ G cl ∧ ∀ g, (Value.slice q out.length c).ownBlock = some g → G g
theorem invAll_kept {cl : Nat} {G H : Nat → Prop} {out : Out} (h : InvAll cl W G out) (hg : Chg H W V) (hd : ∀ k, G k → ¬ H k) : InvAll cl V G out := by
  obtain ⟨q, c, h1, h2, h3, h4⟩ := h
  exact ⟨q, c, h1.chg hg (hd _ h3), ownsRow_chg h2 hg (fun g e => hd g (h4 g e)), h3, h4⟩
set_option maxRecDepth 20000 in
set_option maxHeartbeats 3200000 in
theorem all1_any {cl : Nat} {G : Nat → Prop} {out : Out} {name : List Int} {nd : Nd} {v : Value} {base : Nat} (h : InvAll cl W G out) (hf : out.length ≤ 4096) (hk : NdOk nd) (ho : W.ownsRow base 86 2 v nd.kids.length (nd.kids.flatMap kidCs)) (hv : ∀ g, v.ownBlock = some g → ¬ G g) (hG : ∀ k, G k → k < W.heap.size) :
    Calls Try.prog 27 #[.string (strOfNums name), nodeV nd.ex.isSome (nmOf (strOfNums name) nd.ex) (exOf nd.ex) v, .pointer (some ⟨cl, 0, none⟩)] W fun e W' => MOut Out mtAll (InvAll cl) out name nd v G W W' e := by
  obtain ⟨q, c, rfl⟩ := own_slice ho
  obtain ⟨ql, cl', a1, a2, a3, a4⟩ := h
  obtain ⟨ex, kids⟩ := nd
  simp only [] at ho hv hk ⊢
  have hkl : kids.length ≤ 255 := hk.few
  have hrm := own_room8 ho
  have hc63 : c ≤ 9223372036854775807 := by
    rcases ho.2 with ⟨hn, _⟩ | ⟨g, cp, cur, hn, _, _, _, hm, _⟩
    · injection hn with _ _ e; omega
    · injection hn with _ _ e; unfold maxLen at hm; omega
  have KS := Lib.hid (fun (V : World) (hg : Chg G W V) => (KidsAt.of ho).chg hg (fun g o e => hv g (by rw [e]; rfl)))
  have QV := Lib.hid (fun g o (e : q = some ⟨g, o, none⟩) => (show (Value.slice q kids.length c).ownBlock = some g by rw [e]; rfl))
  have HK := Lib.hid (And.intro hrm hc63)
  cases ex with
  | none =>
    have eN : mtAll out name ⟨none, kids⟩ = (out, kids, 0) := if_neg (by show ¬ 4096 < out.length; omega)
    simp only [Option.isSome, nmOf, exOf, nodeV]
    have g1 := grown1 W (.cells #[.bool false, .string ⟨#[]⟩, .int .i64 Ex.zero.kind, .bool Ex.zero.weak, .int .u64 Ex.zero.value, .int .u64 Ex.zero.resolver, .int .u64 Ex.zero.ordinal, .string (strOfNums Ex.zero.other), .slice q kids.length c] 62)
    have n1 := a1.grown g1
    have l1 := n1.c
    have ch : Chg G W _ := Chg.of_grown g1 (fun b e => by cases e)
    have FN := Lib.hid (show MOut Out mtAll (InvAll cl) out name ⟨none, kids⟩ (.slice q kids.length c) G W _ (.returned (.tuple #[.slice q kids.length c, .int .i64 0])) from
      ⟨⟨q, c, G, by rw [eN], by rw [eN]; exact ⟨ql, cl', n1, own_grown a2 g1, a3, a4⟩, fun k hk => .inl hk, by rw [eN]; exact KS.out _ ch, QV.out, by rw [eN]; exact hrm, hc63⟩, ch⟩)
    have dl : decide ((4096 : Int) < (out.length : Int)) = false := by simp; omega
    clear a1 a2 a3 a4 g1 n1 ch ho hv hk hG eN
    go_enter Try.func27, Try.ntmps27
    go_wp2
    go_ret2
    exact FN.out
  | some x =>
    have eN : mtAll out name ⟨some x, kids⟩ = if 4096 < out.length + 1 then (out ++ [(name, x)], [], 11) else (out ++ [(name, x)], kids, 0) := by
      unfold mtAll
      rw [show outN out name ⟨some x, kids⟩ = out ++ [(name, x)] from rfl, List.length_append, List.length_singleton]
    simp only [Option.isSome, nmOf, exOf, nodeV]
    have SE := Lib.hid (show exCs (strOfNums name) x = [.string (strOfNums name), .int .i64 x.kind, .bool x.weak, .int .u64 x.value, .int .u64 x.resolver, .int .u64 x.ordinal, .string (strOfNums x.other)] from rfl)
    have OC := Lib.hid (show (out ++ [(name, x)]).flatMap outCs = out.flatMap outCs ++ exCs (strOfNums name) x by rw [List.flatMap_append, List.flatMap_singleton]; rfl)
    have ON := Lib.hid (exCs_one (strOfNums name) x)
    obtain ⟨SN, hSN⟩ : ∃ z, z = strOfNums name := ⟨_, rfl⟩
    rw [← hSN] at SE OC ON ⊢
    clear hSN
    have g1 := grown1 W (.cells #[.bool true, .string SN, .int .i64 x.kind, .bool x.weak, .int .u64 x.value, .int .u64 x.resolver, .int .u64 x.ordinal, .string (strOfNums x.other), .slice q kids.length c] 62)
    have N1 := Lib.hid (show NodeAt (W.alloc (.cells #[.bool true, .string SN, .int .i64 x.kind, .bool x.weak, .int .u64 x.value, .int .u64 x.resolver, .int .u64 x.ordinal, .string (strOfNums x.other), .slice q kids.length c] 62)) W.heap.size true SN x (.slice q kids.length c) from heap_alloc_new W _)
    obtain ⟨W1, hW1⟩ : ∃ W1, W.alloc (.cells #[.bool true, .string SN, .int .i64 x.kind, .bool x.weak, .int .u64 x.value, .int .u64 x.resolver, .int .u64 x.ordinal, .string (strOfNums x.other), .slice q kids.length c] 62) = W1 := ⟨_, rfl⟩
    obtain ⟨gn, hgn⟩ : ∃ gn, W.heap.size = gn := ⟨_, rfl⟩
    rw [hW1] at g1 N1
    rw [hgn] at N1
    have g2 := grown1 W1 (.cells #[.string SN, .int .i64 x.kind, .bool x.weak, .int .u64 x.value, .int .u64 x.resolver, .int .u64 x.ordinal, .string (strOfNums x.other)] 38)
    have A1 := Lib.hid (a1.grown g1)
    have A2 := Lib.hid ((a1.grown g1).grown g2)
    have O2 := Lib.hid (own_grown (own_grown a2 g1) g2)
    have X2 := Lib.hid (heap_alloc_new W1 (.cells #[.string SN, .int .i64 x.kind, .bool x.weak, .int .u64 x.value, .int .u64 x.resolver, .int .u64 x.ordinal, .string (strOfNums x.other)] 38))
    have M2 := Lib.hid (N1.out.kept g2 (by simp))
    have G2 := Lib.hid (grown_trans g1 g2)
    have AG := Lib.hid (And.intro a3 a4)
    have HG := Lib.hid hG
    have HV := Lib.hid hv
    have EN := Lib.hid eN
    have RL := Lib.hid (fun g e => (a2.lt g e).2)
    have HW1 := Lib.hid hW1
    have HGN := Lib.hid hgn
    have c1 := (a1.grown g1).c
    have cl1 := (a1.grown g1).lt
    clear a1 a2 a3 a4 g1 g2 ho hv hk hG eN hW1 hgn
    go_enter Try.func27, Try.ntmps27
    go_upto_region 1 with fail
    rw [HW1.out, HGN.out]
    have HGN2 := HGN.out
    clear HW1 HGN
    obtain ⟨d0, d1, d2, d3, d4, d5, d6, d7, d8⟩ := N1.out.c
    have dl := N1.out.lt
    go_upto_region 2 with fail
    go_wp2_with (at_builtin; refine wp_append_sta exType rfl _ _ rfl _ out.length _ rfl O2.out [.string SN, .int .i64 x.kind, .bool x.weak, .int .u64 x.value, .int .u64 x.resolver, .int .u64 x.ordinal, .string (strOfNums x.other)] rfl W1.heap.size rfl X2.out (by rw [← SE.out]; exact ON.out) (by omega) (by decide) (Nat.zero_le _) ?_)
    intro v' W3 ho3 hg3 hv3
    obtain ⟨q3, c3, rfl⟩ := own_slice ho3
    have a3 := A2.out.kept hg3 (own_ne O2.out A2.out (by decide))
    have m3 := M2.out.kept hg3 (own_ne O2.out M2.out (by decide))
    have w3 := a3.c
    have f3 := a3.f
    have l3 := a3.lt
    have g4 := grown_setCell (i := 0) (grown_refl W3 (some cl)) (.slice q3 (out.length + 1) c3)
    have a4 := a3.set (.slice q3 (out.length + 1) c3)
    have hne4 : (Value.slice q3 (out.length + 1) c3).ownBlock ≠ some cl := own_ne ho3 a3 (by decide)
    have o4 := ho3.kept g4 (.inr hne4)
    have m4 := m3.kept g4 (by intro e; injection e with e; have := HG.out cl AG.out.1; omega)
    have ch4 : Chg G W (W3.setCell ⟨cl, 0, none⟩ (.slice q3 (out.length + 1) c3)) :=
      ((Chg.of_grown G2.out (fun b e => by cases e)).trans (Chg.of_grown hg3 (fun b e => .inl (AG.out.2 b e)))).trans (Chg.of_grown g4 (fun b e => by injection e with e; exact .inl (e ▸ AG.out.1)))
    have szz : W.heap.size ≤ (W1.alloc (.cells #[.string SN, .int .i64 x.kind, .bool x.weak, .int .u64 x.value, .int .u64 x.resolver, .int .u64 x.ordinal, .string (strOfNums x.other)] 38)).heap.size := G2.out.size
    obtain ⟨W4, hW4⟩ : ∃ W4, W3.setCell ⟨cl, 0, none⟩ (.slice q3 (out.length + 1) c3) = W4 := ⟨_, rfl⟩
    rw [hW4] at g4 a4 o4 m4 ch4
    have hv4 : ∀ g, (Value.slice q3 (out.length + 1) c3).ownBlock = some g → G g ∨ (W.heap.size ≤ g ∧ g < W4.heap.size) := fun g e => by
      rcases hv3 with h | h
      · rw [h] at e; exact .inl (AG.out.2 g e)
      · have h2 := (o4.lt g e).2
        rw [h] at e
        injection e with e
        exact .inr ⟨by omega, h2⟩
    have FN := Lib.hid (fun (L : List Kid) (er : Int) (qq : Option Addr) (cc : Nat) (hmt : mtAll out name ⟨some x, kids⟩ = (out ++ [(name, x)], L, er)) (hL : KidsAt W4 qq L) (hq : ∀ g o, qq = some ⟨g, o, none⟩ → (Value.slice q kids.length c).ownBlock = some g) (hcc : L.length ≤ cc) (hc3 : cc ≤ 9223372036854775807) =>
      (show MOut Out mtAll (InvAll cl) out name ⟨some x, kids⟩ (.slice q kids.length c) G W W4 (.returned (.tuple #[.slice qq L.length cc, .int .i64 er])) from
      ⟨⟨qq, cc, fun k => G k ∨ (Value.slice q3 (out.length + 1) c3).ownBlock = some k, by rw [hmt], by
        rw [hmt]
        refine ⟨q3, c3, ?_, ?_, .inl AG.out.1, ?_⟩
        · rw [List.length_append, List.length_singleton]; exact a4
        · rw [List.length_append, List.length_singleton, OC.out, SE.out]; exact o4
        · rw [List.length_append, List.length_singleton]; exact fun g e => .inr e, fun k hk => hk.elim .inl (hv4 k), by rw [hmt]; exact hL, hq, by rw [hmt]; exact hcc, hc3⟩, ch4⟩))
    have K4 := Lib.hid (KS.out W4 ch4)
    obtain ⟨e0, e1, e2, e3, e4, e5, e6, e7, e8⟩ := m4.c
    have ml4 := m4.lt
    have cl4 := a4.c
    have HW4 := Lib.hid hW4
    clear ho3 hg3 hv3 a3 m3 g4 a4 hne4 o4 m4 ch4 szz hv4 hW4 d0 d1 d2 d3 d4 d5 d6 d7 d8 dl c1 cl1 HGN2 KS
    by_cases hm : 4096 < out.length + 1
    · have dm : decide ((4096 : Int) < ((out.length + 1 : Nat) : Int)) = true := by simp; omega
      have dm2 : decide ((4096 : Int) < (out.length : Int) + 1) = true := by simp; omega
      have F2 := Lib.hid (FN.out [] 11 none 0 (by rw [EN.out, if_pos hm]) KidsAt.nil (fun g o e => by cases e) (Nat.le_refl _) (by decide))
      clear hm FN
      go_upto_region 3 with fail
      rw [HW4.out]
      clear HW4 w3 f3 l3
      go_wp2
      go_ret2
      exact F2.out
    · have dm : decide ((4096 : Int) < ((out.length + 1 : Nat) : Int)) = false := by simp; omega
      have dm2 : decide ((4096 : Int) < (out.length : Int) + 1) = false := by simp; omega
      have F2 := Lib.hid (FN.out kids 0 q c (by rw [EN.out, if_neg hm]) K4.out QV.out HK.out.1 HK.out.2)
      clear hm FN
      go_upto_region 3 with fail
      rw [HW4.out]
      clear HW4 w3 f3 l3
      go_wp2
      go_ret2
      exact F2.out
theorem allMeet (cl : Nat) : MeetOk Out 27 #[.pointer (some ⟨cl, 0, none⟩)] mtAll (fun _ => True) (fun out => out.length ≤ 4096) (InvAll cl) where
  enters := enters_of Try.func27 (by kernel_rfl) rfl
  kept := fun W V G s H h hg hd => invAll_kept h hg hd
  sub := fun s name nd x hx => by
    unfold mtAll at hx
    split at hx
    · cases hx
    · exact hx
  pre := fun _ _ _ _ _ _ => trivial
  next := fun s name nd hs he => by
    unfold mtAll at he ⊢
    split
    · rename_i h; rw [if_pos h] at he; cases he
    · rename_i h; exact Nat.le_of_not_lt h
  stop := fun s name nd he => by
    unfold mtAll at he ⊢
    split
    · rfl
    · rename_i h; rw [if_neg h] at he; exact absurd rfl he
  call := fun W G s name nd v base h hf _ _ hk ho hv hG => all1_any h hf hk ho hv hG
end Go.Proofs.Ytbnnlbdjjpmgeaa


namespace Go.Proofs.Ytbnnlbdjjpmgeaa
open Go.RowKit Go.Sort
variable {w w' : World} {α : Type} [Inhabited α]

theorem grown_sort (enc : α → List Value) (k : Nat) (w : World) (blk off n : Nat) (d : Array α) (os : Array Obj) : w.grownBy (sortWorldK enc k w blk off n d os) (some blk) := by
  refine ⟨rfl, rfl, rfl, ?_, fun i hi hne => ?_⟩
  · simp only [sortWorldK, grow, putRowK, putRow, mapBlock, Sort.ahead, Array.size_append, Array.size_modify]
    omega
  · have hb : blk ≠ i := fun e => hne (by rw [e])
    simp only [sortWorldK, grow, putRowK, putRow, mapBlock, Sort.ahead]
    rw [Array.getElem?_append_left (by rw [Array.size_modify]; exact hi), Array.getElem?_modify, if_neg hb]
omit [Inhabited α] in
theorem own_free {T : TypeId} {k n c g lo : Nat} {xs : List Value} (h : w.ownsRow lo T k (.slice (some ⟨g, 0, none⟩) n c) n xs) (j : Nat) : w.frozen? ⟨g, j, none⟩ = false := by
  obtain ⟨_, hn | ⟨g', cap, cur, hv, _, hg, _⟩⟩ := h
  · cases hn.1
  · injection hv with h1 _ _
    injection h1 with h1
    injection h1 with h1 _ _
    subst h1
    exact free_of hg
omit [Inhabited α] in
theorem own_max {T : TypeId} {k n c lo : Nat} {q : Option Addr} {xs : List Value} (h : w.ownsRow lo T k (.slice q n c) n xs) : c ≤ 9223372036854775807 := by
  obtain ⟨_, hn | ⟨g', cap, cur, hv, _, _, _, hm, _⟩⟩ := h
  · injection hn.1 with _ _ h3; subst h3; exact Nat.zero_le _
  · injection hv with _ _ h3; subst h3; unfold maxLen at hm; omega
theorem holdsK_own {T : TypeId} {k n c g lo : Nat} {f : α → List Value} {l : List α} (hf : ∀ x, (f x).length = k) (h : w.ownsRow lo T k (.slice (some ⟨g, 0, none⟩) n c) n (l.flatMap f)) : HoldsK f k w g 0 l.toArray := by
  intro t ht
  rw [size_flatK] at ht
  have hk : 0 < k := by
    rcases Nat.eq_zero_or_pos k with e | e
    · subst e; simp at ht
    · exact e
  have hd : t / k < l.toArray.size := Nat.div_lt_of_lt_mul (by rw [Nat.mul_comm]; exact ht)
  have hd' : t / k < l.length := by simpa using hd
  have hm : t % k < k := Nat.mod_lt _ hk
  have hx : l[t / k]? = some (l[t / k]'hd') := List.getElem?_eq_getElem hd'
  obtain ⟨g', e, hc⟩ := row_cell hf h hx hm
  injection e with e
  injection e with e _ _
  subst e
  refine ⟨?_, own_free h _⟩
  have ea : l.toArray[t / k]! = l[t / k]'hd' := by rw [getElem!_pos l.toArray (t / k) hd]; rfl
  rw [Nat.zero_add, get_flatK _ _ _ _ ht, ea, getElem!_pos (f (l[t / k]'hd')) (t % k) (by rw [hf]; exact hm)]
  have e : t / k * k + t % k = t := by rw [Nat.mul_comm]; exact Nat.div_add_mod t k
  rw [e] at hc
  show w.cell? ⟨g, t, none⟩ = some ((f (l[t / k]'hd'))[t % k]'_)
  rw [hc, List.getElem?_eq_getElem (by rw [hf]; exact hm)]
theorem holds_grown (enc : α → List Value) (k : Nat) {blk n : Nat} {d d0 : Array α} {os : Array Obj} (h0 : HoldsK enc k w blk 0 d0) (hs : d.size = d0.size) (hb : blk < w.heap.size) : HoldsK enc k (sortWorldK enc k w blk 0 n d os) blk 0 d :=
  holdsK_sortWorldK_c enc k w blk 0 d0 d n os h0 hb hs
theorem perm_list {d d' : Array α} {lt : α → α → Bool} (hp : PermIn 0 d.size d d') (hs : SortedIn lt 0 d.size d') : d'.toList.Perm d.toList ∧ d'.size = d.size ∧ ∀ i j, i < j → j < d'.size → lt d'[j]! d'[i]! = false := by
  obtain ⟨h1, _, h3⟩ := hp
  refine ⟨?_, h1, fun i j hij hj => hs i j (Nat.zero_le _) hij (h1 ▸ hj)⟩
  rw [show d'.extract 0 d.size = d' from by rw [← h1]; exact Array.extract_size, show d.extract 0 d.size = d from Array.extract_size] at h3
  exact h3
end Go.Proofs.Ytbnnlbdjjpmgeaa


namespace Go.Proofs
open Go.Shelf
def Try.sortExp_ren : Go.Shelf.Ren := ⟨fun | 6 => 28 | 15 => 47 | 14 => 46 | 28 => 71 | 29 => 72 | 20 => 63 | 21 => 64 | 22 => 65 | 23 => 66 | 24 => 67 | 25 => 68 | 26 => 69 | 27 => 70 | 46 => 83 | 47 => 84 | 48 => 85 | 49 => 86 | 50 => 87 | 57 => 96 | n => n, fun | 22 => 22 | 24 => 38 | 25 => 48 | 3 => 3 | 39 => 89 | 0 => 0 | 53 => 113 | 55 => 36 | 4 => 4 | 46 => 106 | 45 => 105 | 50 => 110 | 5 => 5 | 9 => 9 | 66 => 124 | 70 => 128 | 76 => 136 | 77 => 137 | n => n, fun | n => n⟩
theorem Try.sortExp : Go.Proofs.SlLaysF0.n6 Try.prog Try.sortExp_ren := {
  mixed := by kernel_rfl
  f6 := ⟨Try.f28.name, by decide, Try.func28.trans (congrArg some (by kernel_rfl))⟩
  f14 := ⟨Try.f46.name, by decide, Try.func46.trans (congrArg some (by kernel_rfl))⟩
  f15 := Try.func47.trans (congrArg some (by kernel_rfl))
  f20 := ⟨Try.f63.name, by decide, Try.func63.trans (congrArg some (by kernel_rfl))⟩
  f21 := ⟨Try.f64.name, by decide, Try.func64.trans (congrArg some (by kernel_rfl))⟩
  f22 := ⟨Try.f65.name, by decide, Try.func65.trans (congrArg some (by kernel_rfl))⟩
  f23 := ⟨Try.f66.name, by decide, Try.func66.trans (congrArg some (by kernel_rfl))⟩
  f24 := ⟨Try.f67.name, by decide, Try.func67.trans (congrArg some (by kernel_rfl))⟩
  f25 := ⟨Try.f68.name, by decide, Try.func68.trans (congrArg some (by kernel_rfl))⟩
  f26 := ⟨Try.f69.name, by decide, Try.func69.trans (congrArg some (by kernel_rfl))⟩
  f27 := ⟨Try.f70.name, by decide, Try.func70.trans (congrArg some (by kernel_rfl))⟩
  f28 := Try.func71.trans (congrArg some (by kernel_rfl))
  f29 := Try.func72.trans (congrArg some (by kernel_rfl))
  f46 := ⟨Try.f83.name, by decide, Try.func83.trans (congrArg some (by kernel_rfl))⟩
  f47 := Try.func84.trans (congrArg some (by kernel_rfl))
  f48 := Try.func85.trans (congrArg some (by kernel_rfl))
  f49 := ⟨Try.f86.name, by decide, Try.func86.trans (congrArg some (by kernel_rfl))⟩
  f50 := ⟨Try.f87.name, by decide, Try.func87.trans (congrArg some (by kernel_rfl))⟩
  f57 := ⟨Try.f96.name, by decide, Try.func96.trans (congrArg some (by kernel_rfl))⟩
  t0 := Try.underlying0
  a0 := Try.isAgg0
  z0 := Try.sizeOf0
  v0 := Try.zeroValue0
  t3 := Try.underlying3
  a3 := Try.isAgg3
  z3 := Try.sizeOf3
  v3 := Try.zeroValue3
  t4 := Try.underlying4
  a4 := Try.isAgg4
  z4 := Try.sizeOf4
  v4 := Try.zeroValue4
  t5 := Try.underlying5
  a5 := Try.isAgg5
  z5 := Try.sizeOf5
  v5 := Try.zeroValue5
  t9 := Try.underlying9
  a9 := Try.isAgg9
  z9 := Try.sizeOf9
  v9 := Try.zeroValue9
  t22 := Try.underlying22
  a22 := Try.isAgg22
  z22 := Try.sizeOf22
  v22 := Try.zeroValue22
  t25 := Try.underlying48
  a25 := Try.isAgg48
  z25 := Try.sizeOf48
  v25 := Try.zeroValue48
  t39 := Try.underlying89
  a39 := Try.isAgg89
  z39 := Try.sizeOf89
  v39 := Try.zeroValue89
  t45 := Try.underlying105
  a45 := Try.isAgg105
  z45 := Try.sizeOf105
  v45 := Try.zeroValue105
  t46 := Try.underlying106
  a46 := Try.isAgg106
  z46 := Try.sizeOf106
  v46 := Try.zeroValue106
  t50 := Try.underlying110
  a50 := Try.isAgg110
  z50 := Try.sizeOf110
  v50 := Try.zeroValue110
  t53 := Try.underlying113
  a53 := Try.isAgg113
  z53 := Try.sizeOf113
  v53 := Try.zeroValue113
  t55 := Try.underlying36
  a55 := Try.isAgg36
  z55 := Try.sizeOf36
  v55 := Try.zeroValue36
  t66 := Try.underlying124
  a66 := Try.isAgg124
  z66 := Try.sizeOf124
  v66 := Try.zeroValue124
  t70 := Try.underlying128
  a70 := Try.isAgg128
  z70 := Try.sizeOf128
  v70 := Try.zeroValue128
  t76 := Try.underlying136
  a76 := Try.isAgg136
  z76 := Try.sizeOf136
  v76 := Try.zeroValue136
  t77 := Try.underlying137
  a77 := Try.isAgg137
  z77 := Try.sizeOf137
  v77 := Try.zeroValue137 }
end Go.Proofs


namespace Go.Proofs.Ytbnnlbdjjpmgeaa
open Go.RowKit Go.Sort
variable {w w' W V : World} {xs : List Int}

def nmLt : List Int → List Int → Bool
  | _, [] => false
  | [], _ :: _ => true
  | x :: a, y :: b => if x < y then true else if y < x then false else nmLt a b
theorem nmLt_irrefl : ∀ a, nmLt a a = false
  | [] => rfl
  | x :: a => by simp [nmLt, nmLt_irrefl a]
theorem nmLt_anti : ∀ {a b : List Int}, nmLt a b = false → nmLt b a = false → a = b
  | [], [], _, _ => rfl
  | [], _ :: _, h, _ => by simp [nmLt] at h
  | _ :: _, [], _, h => by simp [nmLt] at h
  | x :: a, y :: b, h, k => by
    simp only [nmLt] at h k
    by_cases h1 : x < y
    · rw [if_pos h1] at h; cases h
    · by_cases h2 : y < x
      · rw [if_pos h2] at k; cases k
      · rw [if_neg h1, if_neg h2] at h
        rw [if_neg h2, if_neg h1] at k
        rw [nmLt_anti h k, show x = y by omega]
theorem nmLt_trans : ∀ {a b c : List Int}, nmLt a b = true → nmLt b c = true → nmLt a c = true
  | _, _, [], _, h => by simp [nmLt] at h
  | _, [], _ :: _, h, _ => by simp [nmLt] at h
  | [], _ :: _, _ :: _, _, _ => rfl
  | x :: a, y :: b, z :: c, h, k => by
    simp only [nmLt] at h k ⊢
    by_cases h1 : x < y
    · by_cases h2 : y < z
      · rw [if_pos (show x < z by omega)]
      · rw [if_neg h2] at k
        by_cases h3 : z < y
        · rw [if_pos h3] at k; cases k
        · rw [if_pos (show x < z by omega)]
    · rw [if_neg h1] at h
      by_cases h2 : y < x
      · rw [if_pos h2] at h; cases h
      · rw [if_neg h2] at h
        by_cases h3 : y < z
        · rw [if_pos (show x < z by omega)]
        · rw [if_neg h3] at k
          by_cases h4 : z < y
          · rw [if_pos h4] at k; cases k
          · rw [if_neg h4] at k
            rw [if_neg (show ¬ x < z by omega), if_neg (show ¬ z < x by omega)]
            exact nmLt_trans h k
theorem nmLt_ntrans {a b c : List Int} (h : nmLt a b = false) (k : nmLt b c = false) : nmLt a c = false := by
  cases hac : nmLt a c with
  | false => rfl
  | true =>
    cases hba : nmLt b a with
    | true => rw [nmLt_trans hba hac] at k; cases k
    | false => rw [nmLt_anti h hba] at hac; rw [hac] at k; cases k
theorem compare_lt : ∀ (a b : List UInt8), decide (Lib.compareBytes a b < 0) = nmLt (a.map fun u => (u.toNat : Int)) (b.map fun u => (u.toNat : Int))
  | [], [] => rfl
  | [], _ :: _ => rfl
  | _ :: _, [] => rfl
  | x :: a, y :: b => by
    have e1 : (x < y) ↔ (x.toNat : Int) < (y.toNat : Int) := by rw [UInt8.lt_iff_toNat_lt]; omega
    have e2 : (y < x) ↔ (y.toNat : Int) < (x.toNat : Int) := by rw [UInt8.lt_iff_toNat_lt]; omega
    have ih := compare_lt a b
    by_cases h1 : x < y
    · have c : Lib.compareBytes (x :: a) (y :: b) = -1 := if_pos h1
      have n : nmLt ((x :: a).map fun u => (u.toNat : Int)) ((y :: b).map fun u => (u.toNat : Int)) = true := if_pos (e1.1 h1)
      rw [n, decide_eq_true (by rw [c]; decide)]
    · by_cases h2 : y < x
      · have c : Lib.compareBytes (x :: a) (y :: b) = 1 := (if_neg h1).trans (if_pos h2)
        have n : nmLt ((x :: a).map fun u => (u.toNat : Int)) ((y :: b).map fun u => (u.toNat : Int)) = false := (if_neg (fun h => h1 (e1.2 h))).trans (if_pos (e2.1 h2))
        rw [n, decide_eq_false (by rw [c]; decide)]
      · have c : Lib.compareBytes (x :: a) (y :: b) = Lib.compareBytes a b := (if_neg h1).trans (if_neg h2)
        have n : nmLt ((x :: a).map fun u => (u.toNat : Int)) ((y :: b).map fun u => (u.toNat : Int)) = nmLt (a.map fun u => (u.toNat : Int)) (b.map fun u => (u.toNat : Int)) := (if_neg (fun h => h1 (e1.2 h))).trans (if_neg (fun h => h2 (e2.2 h)))
        rw [n, ← ih]
        simp only [c]
instance : Inhabited (List Int × Ex) := ⟨([], Ex.zero)⟩
def cmpEx (x y : List Int × Ex) : Int := Lib.compareBytes (Lib.bytesOf x.1) (Lib.bytesOf y.1)
theorem ltEx (x y : List Int × Ex) : ltOf cmpEx x y = nmLt (nums x.1) (nums y.1) := compare_lt _ _
theorem swoEx : SWO (ltOf cmpEx) where
  irrefl x := by rw [ltEx]; exact nmLt_irrefl _
  trans x y z h1 h2 := by rw [ltEx] at *; exact nmLt_trans h1 h2
  ntrans x y z h1 h2 := by rw [ltEx] at *; exact nmLt_ntrans h1 h2
theorem byName_any (x y : List Int × Ex) (W : World) : Calls Try.prog 17 #[.agg (outCs x).toArray, .agg (outCs y).toArray] W fun e w' => e = .returned (.int .i64 (cmpEx x y)) ∧ ∃ q os', w' = grow (W.drewN q) os' := by
  obtain ⟨x1, x2⟩ := x
  obtain ⟨y1, y2⟩ := y
  have C := Lib.hid (fun V => Try.strings_Compare (strOfNums x1) (strOfNums y1) V)
  have e1 : Lib.compareBytes (strOfNums x1).data.toList (strOfNums y1).data.toList = cmpEx (x1, x2) (y1, y2) := by
    unfold cmpEx
    rw [show (strOfNums x1).data.toList = Lib.bytesOf x1 from strOfNums_data x1, show (strOfNums y1).data.toList = Lib.bytesOf y1 from strOfNums_data y1]
  rw [e1] at C
  clear e1
  simp only [outCs, exCs]
  generalize cmpEx (x1, x2) (y1, y2) = r at *
  go_enter Try.func17, Try.ntmps17
  go_wp2_with (go_at_call 35; refine (C.out _).mono ?_; rintro e w' ⟨rfl, rfl⟩)
  go_ret
  exact ⟨rfl, 0, _, by rw [alloc_eq_grow, alloc_eq_grow, grow_grow]; rfl⟩
theorem cmpEx_lays (blk off size : Nat) (w : World) : CmpLays Try.prog 17 #[] outCs 7 cmpEx blk off size w := fun _ _ _ _ x y => byName_any x y _
theorem outCs_one (y : List Int × Ex) : ∀ u ∈ outCs y, u.oneCell' = true := exCs_one _ _
def Rises (l : Out) : Prop := l.Pairwise fun a b => nmLt (nums b.1) (nums a.1) = false
theorem rises_one {l m : Out} (hl : Rises l) (hm : Rises m) (hp : l.Perm m) (hb : ∀ y ∈ l, Byt y.1) (ho : l.Pairwise fun a b => a.1 ≠ b.1) : l = m := by
  refine List.Perm.eq_of_pairwise (le := fun a b : List Int × Ex => nmLt (nums b.1) (nums a.1) = false) ?_ hl hm hp
  intro a b ha hb' h1 h2
  have hb2 := hp.mem_iff.2 hb'
  have e : a.1 = b.1 := by
    have := nmLt_anti h2 h1
    rw [nums_byt (hb a ha), nums_byt (hb b hb2)] at this
    exact this
  obtain ⟨i, hi, rfl⟩ := List.getElem_of_mem ha
  obtain ⟨j, hj, rfl⟩ := List.getElem_of_mem hb2
  rcases Nat.lt_trichotomy i j with h | h | h
  · exact absurd e ((List.pairwise_iff_getElem.1 ho) i j hi hj h)
  · subst h; rfl
  · exact absurd e.symm ((List.pairwise_iff_getElem.1 ho) j i hj hi h)
end Go.Proofs.Ytbnnlbdjjpmgeaa


namespace Go.Proofs.Ytbnnlbdjjpmgeaa
open Go.RowKit Go.Sort
variable {w w' W V : World} {xs : List Int}

def RowEx (w : World) (q : Option Addr) (D : Out) : Prop := ∀ i y, D[i]? = some y → ∃ g, q = some ⟨g, 0, none⟩ ∧ ∀ j, j < 7 → w.cell? ⟨g, i * 7 + j, none⟩ = (outCs y)[j]?
theorem RowEx.of {lo n c : Nat} {q : Option Addr} {D : Out} (h : w.ownsRow lo 38 7 (.slice q n c) n (D.flatMap outCs)) : RowEx w q D := fun i y hy => by
  obtain ⟨g, e, _⟩ := row_cell outCs_len h hy (j := 0) (by decide)
  refine ⟨g, e, fun j hj => ?_⟩
  obtain ⟨g', e', h'⟩ := row_cell outCs_len h hy hj
  rw [e] at e'
  injection e' with e'
  injection e' with e' _ _
  subst e'
  exact h'
theorem RowEx.hold {g : Nat} {d : Array (List Int × Ex)} (h : HoldsK outCs 7 w g 0 d) : RowEx w (some ⟨g, 0, none⟩) d.toList := fun i y hy => by
  refine ⟨g, rfl, fun j hj => ?_⟩
  obtain ⟨hi, rfl⟩ := List.getElem?_eq_some_iff.1 hy
  have hi' : i < d.size := by simpa using hi
  have h0 := (h.cell hi' (c := j) hj).1
  rw [Nat.zero_add] at h0
  rw [h0, getElem!_pos d i hi']
  simp only [Array.getElem_toList]
  have hl : j < (outCs d[i]).length := hj
  rw [List.getElem?_eq_getElem hl, getElem!_pos _ j hl]
theorem RowEx.grown {q : Option Addr} {D : Out} (h : RowEx w q D) (hg : w.grownBy w' none) : RowEx w' q D := fun i y hy => by
  obtain ⟨g, e, hc⟩ := h i y hy
  refine ⟨g, e, fun j hj => ?_⟩
  have hl : j < (outCs y).length := hj
  have := hc j hj
  rw [List.getElem?_eq_getElem hl] at this ⊢
  exact grown_cell hg this
theorem RowEx.nil {q : Option Addr} : RowEx w q [] := fun i y hy => by simp at hy
theorem insNone (p : Option Addr) (cap : Nat) (W : World) : Calls Try.prog 63 #[.slice p 0 cap, .int .i64 0, .int .i64 0, .func (.func 17) #[] #[]] W fun e w' => e = .returned (.tuple #[]) ∧ w' = W := by
  go_enter Try.func63, Try.ntmps63
  go_wp2
  refine wp_loop_rounds 1 ?_
  rw [rounds_succ]
  go_wp2
  go_end0
  exact ⟨rfl, rfl⟩
set_option maxRecDepth 20000 in
theorem pdqNone (p : Option Addr) (cap : Nat) (lim : Int) (W : World) : Calls Try.prog 46 #[.slice p 0 cap, .int .i64 0, .int .i64 0, .int .i64 lim, .func (.func 17) #[] #[]] W fun e w' => e = .returned (.tuple #[]) ∧ w' = W := by
  have I := Lib.hid (fun V => insNone p cap V)
  go_enter Try.func46, Try.ntmps46
  go_wp2_with fail
  refine wp_loop_rounds 1 ?_
  rw [rounds_succ]
  go_wp2_with fail
  refine (I.out _).mono ?_
  rintro e w' ⟨rfl, rfl⟩
  go_wp2
  (try simp only [Exit.inBlock, Exit.then])
  refine bodyPost_ret (results_none rfl _ _ _) rfl ?_
  exact ⟨rfl, rfl⟩
theorem sortNone (p : Option Addr) (cap : Nat) (W : World) : Calls Try.prog 28 #[.slice p 0 cap, .func (.func 17) #[] #[]] W fun e w' => e = .returned (.tuple #[]) ∧ w' = W := by
  have P := Lib.hid (fun lim V => pdqNone p cap lim V)
  have L := Lib.hid (fun V => (show Calls Try.prog 47 #[.int .u64 0] V fun e w' => e = .returned (.int .i64 (Lib.bitLen 0 : Nat)) ∧ w' = V from
    Go.Proofs.Any.bits_Len (Go.Proofs.SlLaysF0.n15.bits (P := Try.prog) (ρ := Try.sortExp_ren) { Try.sortExp with }) 0 V (by omega) (by omega)))
  go_enter Try.func28, Try.ntmps28
  go_wp2_with fail
  refine (L.out _).mono ?_
  rintro e w' ⟨rfl, rfl⟩
  go_wp2_with fail
  refine (P.out _ _).mono ?_
  rintro e w' ⟨rfl, rfl⟩
  go_wp2
  go_end0
  exact ⟨rfl, rfl⟩
structure AlOut (w w' : World) (xs : List Int) (e : Ending) : Prop where
  ex : ∃ (D : Out) (q : Option Addr) (c : Nat), e = .returned (.tuple #[.slice q D.length c, .int .i64 (allN xs).2]) ∧ RowEx w' q D ∧ Rises D ∧ D.Perm (allN xs).1 ∧ D.length ≤ c ∧ c ≤ 9223372036854775807
  grown : w.grownBy w' none
theorem allN_walk (xs : List Int) : allN xs = if (walkN xs mtAll []).1 ≠ 0 then ([], (walkN xs mtAll []).1) else ((walkN xs mtAll []).2, 0) := by
  unfold allN walkN
  by_cases h : xs = []
  · rw [if_pos h, if_pos h]; simp
  · rw [if_neg h, if_neg h]
theorem grown_chg0 {G : Nat → Prop} (h : Chg G W V) (hw : w.grownBy W none) (hG : ∀ k, G k → w.heap.size ≤ k) : w.grownBy V none :=
  ⟨h.os.trans hw.os, h.tape.trans hw.tape, h.output.trans hw.output, Nat.le_trans hw.size h.size, fun i hi _ => (h.block i (Nat.lt_of_lt_of_le hi hw.size) (fun e => by have := hG i e; omega)).trans (hw.block i hi (by simp))⟩
set_option maxRecDepth 20000 in
set_option maxHeartbeats 1600000 in
theorem All_any {q : Option Addr} {c n : Nat} (h : IsBytes w q c xs) (hn : xs.length = n) (hb : Byt xs) (hc : n ≤ c) (hcm : c ≤ 9223372036854775807) (hbig : n ≤ 140737488355328) :
    Calls Try.prog 9 #[.slice q n c] w fun e w' => AlOut w w' xs e := by
  have g1 := grown1 w (.cells #[.slice none 0 0] 22)
  have o1 := OneAt.new w (.slice none 0 0) 22
  obtain ⟨cl, hcl⟩ : ∃ cl, cl = w.heap.size := ⟨_, rfl⟩
  have i1 : InvAll cl (w.alloc (.cells #[.slice none 0 0] 22)) (fun k => k = cl) [] := ⟨none, 0, by rw [hcl]; exact o1, World.ownsRow_nil _ _ _ _, rfl, fun g e => by cases e⟩
  have WK : Calls Try.prog 26 #[.slice q n c, .func (.func 27) #[] #[.pointer (some ⟨cl, 0, none⟩)]] (w.alloc (.cells #[.slice none 0 0] 22)) fun e W' => WOut Out (fun out => out.length ≤ 4096) (InvAll cl) (fun k => k = cl) (w.alloc (.cells #[.slice none 0 0] 22)) W' (walkN xs mtAll []) e := by
    by_cases hx : xs = []
    · subst hx
      simp only [List.length_nil] at hn
      subst hn
      refine (walk_no q c _ _).mono ?_
      rintro e W' ⟨rfl, hg⟩
      exact ⟨rfl, ⟨_, invAll_kept i1 (Chg.of_grown hg (fun b e => by cases e) : Chg (fun _ => False) _ _) (fun _ _ e => e), fun k hk => .inl hk⟩, Chg.of_grown hg (fun b e => by cases e), fun _ => by show (0 : Nat) ≤ 4096; decide⟩
    · subst hn
      obtain ⟨b, o, rfl, hcell⟩ := h.2 (by cases xs with | nil => exact absurd rfl hx | cons => simp)
      refine walk_any (allMeet cl) trivial (by simp) i1 ?_ (fun i hi => grown_cell g1 (hcell i hi)) hx ?_ hb hc hcm hbig
      · intro k hk; rw [World.size_alloc]; omega
      · intro e
        have := World.block_lt_of_cell? w _ (hcell 0 (by cases xs with | nil => exact absurd rfl hx | cons => simp))
        simp only at this
        omega
  have WH := Lib.hid WK
  have GA := Lib.hid g1
  have AN := Lib.hid (allN_walk xs)
  have HCL := Lib.hid hcl
  clear g1 o1 i1 WK h hn hb hc hcm hbig
  obtain ⟨W1, hW1⟩ : ∃ W1, w.alloc (.cells #[.slice none 0 0] 22) = W1 := ⟨_, rfl⟩
  rw [hW1] at WH GA
  have HW1 := Lib.hid hW1
  clear hW1 hcl
  obtain ⟨⟨er, out⟩, hr⟩ : ∃ r, r = walkN xs mtAll [] := ⟨_, rfl⟩
  rw [← hr] at WH AN
  clear hr
  go_enter Try.func9, Try.ntmps9
  go_upto_region 2 with fail
  rw [← HCL.out, HW1.out]
  go_wp2_with fail
  refine WH.out.mono ?_
  rintro e W2 ⟨rfl, ⟨G', ⟨ql, cq, a1, a2, a3, a4⟩, hG'⟩, hch, hfew⟩
  have G2 := Lib.hid (grown_chg0 hch GA.out (fun k hk => by have := HCL.out; omega))
  have c1 := a1.c
  simp only [] at c1 AN a1 a2 a4 hfew
  by_cases he : er = 0
  · subst he
    rw [if_neg (by simp)] at AN
    have hLc : out.length ≤ cq := own_room8 a2
    have hcm := own_max a2
    by_cases h0 : out = []
    · subst h0
      have SN := Lib.hid (sortNone ql cq W2)
      have FN := Lib.hid (show AlOut w W2 xs (.returned (.tuple #[.slice ql 0 cq, .int .i64 0])) from ⟨⟨[], ql, cq, by rw [AN.out]; rfl, RowEx.nil, List.Pairwise.nil, by rw [AN.out], Nat.zero_le _, hcm⟩, G2.out⟩)
      simp only [List.length_nil] at c1
      clear a1 a2 a3 a4 hG' hch hfew hLc hcm
      go_wp2_with fail
      refine SN.out.mono ?_
      rintro e w' ⟨rfl, hw'⟩
      have hw2 := hw'.symm
      subst hw2
      clear hw'
      go_wp2
      go_ret2
      exact FN.out
    · have hl0 : 0 < out.length := by
        cases out with
        | nil => exact absurd rfl h0
        | cons => simp
      have hq : ∃ gv, ql = some ⟨gv, 0, none⟩ := by
        rcases a2.2 with ⟨_, hn⟩ | ⟨g', cap, cur, hv, _⟩
        · omega
        · injection hv with h1 _ _; exact ⟨g', h1⟩
      obtain ⟨gv, rfl⟩ := hq
      have hlt2 := a2.lt gv rfl
      have HK := holdsK_own outCs_len a2
      have hsz : out.toArray.size = out.length := by simp
      have hln : out.length < 4611686018427387904 := by have h : out.length ≤ 4096 := hfew rfl; omega
      have hcon := AnyQ.slices_SortFunc Try.sortExp 7 Try.isAgg38 Try.sizeOf38 outCs outCs_len outCs_one cmpEx swoEx 17 #[] gv 0 cq out.toArray W2 (enters_of Try.func17 (by kernel_rfl) rfl) (cmpEx_lays gv 0 _ W2) HK hlt2.2 (by rw [hsz]; exact hln)
      change Calls Try.prog 28 _ _ _ at hcon
      rw [hsz] at hcon
      have HCON := Lib.hid hcon
      have HKH := Lib.hid HK
      have hgv : w.heap.size ≤ gv := by
        have h1 := HCL.out
        have h2 := GA.out.size
        rcases hG' gv (a4 gv rfl) with h | h <;> omega
      have hgc : (some gv : Option Nat) ≠ some cl := own_ne a2 a1 (by decide)
      have A1 := Lib.hid a1
      have FACT := Lib.hid (And.intro hLc (And.intro hcm (And.intro hlt2 (And.intro hsz (And.intro hgv hgc)))))
      clear a1 a2 a3 a4 hG' hch hfew hLc hcm hcon HK hsz hln hgv hgc hlt2 hl0 h0
      obtain ⟨N, hN⟩ : ∃ N, N = out.length := ⟨_, rfl⟩
      rw [← hN] at c1 HCON
      have HN := Lib.hid hN
      clear hN
      go_wp2_with fail
      refine HCON.out.mono ?_
      rintro e w9 ⟨rfl, d', n9, os9, hp, hs, rfl⟩
      obtain ⟨hLc, hcm, hlt2, hsz, hgv, hgc⟩ := FACT.out
      rw [HN.out, ← hsz] at hp hs
      obtain ⟨p1, p2, p3⟩ := perm_list hp hs
      have gs := grown_sort outCs 7 W2 gv 0 n9 d' os9
      have hold := holds_grown (os := os9) (n := n9) outCs 7 HKH.out p2 hlt2.2
      have e1 : out.toArray.toList = out := by simp
      rw [e1] at p1
      have a9 := A1.out.kept gs hgc
      have c9 := a9.c
      have hdl : d'.toList.length = N := by rw [Array.length_toList, p2, hsz, HN.out]
      have RES := Lib.hid (show AlOut w (sortWorldK outCs 7 W2 gv 0 n9 d' os9) xs (.returned (.tuple #[.slice (some ⟨gv, 0, none⟩) N cq, .int .i64 0])) from
        ⟨⟨d'.toList, some ⟨gv, 0, none⟩, cq, by rw [hdl, AN.out], RowEx.hold hold, (by
          unfold Rises
          rw [List.pairwise_iff_getElem]
          intro i j hi hj hij
          have hi' : i < d'.size := by simpa using hi
          have hj' : j < d'.size := by simpa using hj
          have := p3 i j hij hj'
          rw [ltEx, getElem!_pos d' i hi', getElem!_pos d' j hj'] at this
          simpa using this), (by rw [AN.out]; exact p1), (by rw [hdl, HN.out]; exact hLc), hcm⟩, grown_new G2.out gs hgv⟩)
      have HNN := HN.out
      rw [← HNN] at c9
      clear hp hs p1 p2 p3 gs hold a9 e1 hdl HNN hLc hcm hlt2 hsz hgv hgc
      generalize sortWorldK outCs 7 W2 gv 0 n9 d' os9 = w9 at *
      go_wp2
      go_ret2
      exact RES.out
  · have de : (er != 0) = true := by simpa using he
    rw [if_pos he] at AN
    have FN := Lib.hid (show AlOut w W2 xs (.returned (.tuple #[.slice none 0 0, .int .i64 er])) from ⟨⟨[], none, 0, by rw [AN.out]; rfl, RowEx.nil, List.Pairwise.nil, by rw [AN.out], Nat.le_refl _, by decide⟩, G2.out⟩)
    clear he a1 a2 a3 a4 hG' hch hfew
    go_wp2
    go_ret2
    exact FN.out
end Go.Proofs.Ytbnnlbdjjpmgeaa


namespace Go.Proofs.Ytbnnlbdjjpmgeaa
open Go.RowKit
variable {w w' W V : World} {xs : List Int}

theorem leadN_none {l : List Kid} {rest : List Int} (h : ∀ (i : Nat) (y : Kid), l[i]? = some y → pfx y.1 rest = false) : leadN l rest = [] := by
  unfold leadN
  rw [List.find?_eq_none.2 (fun x hx => by
    obtain ⟨i, hi, rfl⟩ := List.getElem_of_mem hx
    rw [h i _ (List.getElem?_eq_getElem hi)]; simp)]
theorem leadN_some {l : List Kid} {rest : List Int} {k : Nat} {x : Kid} (hx : l[k]? = some x) (hp : pfx x.1 rest = true) (h : ∀ (i : Nat) (y : Kid), i < k → l[i]? = some y → pfx y.1 rest = false) : leadN l rest = [x] := by
  have e : l.find? (fun k => pfx k.1 rest) = some x := by
    obtain ⟨hk, rfl⟩ := List.getElem?_eq_some_iff.1 hx
    rw [List.find?_eq_some_iff_getElem]
    refine ⟨hp, k, hk, rfl, fun j hj => ?_⟩
    rw [h j _ hj (List.getElem?_eq_getElem (by omega))]; rfl
  unfold leadN
  rw [e]
theorem strOf_cut (l : List Int) (i j : Nat) : (strOfNums l).extract i j = strOfNums ((l.take j).drop i) := by
  apply ByteArray.ext
  apply Array.ext'
  rw [ByteArray.data_extract, Array.toList_extract, strOfNums_data, strOfNums_data, List.extract_eq_take_drop, List.map_drop, List.map_take]
  rw [List.drop_take]
theorem hasPrefix0_any (a b : List Int) (ha : Byt a) (hb : Byt b) (W : World) : Calls Try.prog 73 #[.string (strOfNums a), .string (strOfNums b)] W fun e w' => e = .returned (.bool (pfx b a)) ∧ w' = W := by
  have s1 : (strOfNums a).size = a.length := strOfNums_size _
  have s2 : (strOfNums b).size = b.length := strOfNums_size _
  by_cases hl : b.length ≤ a.length
  · have PX := Lib.hid (show (((strOfNums a).extract 0 b.length).toList == (strOfNums b).toList) = pfx b a by
      rw [strOf_cut, List.drop_zero, Lib.strOfNums_toList b, text_is (ha.take _) hb]
      unfold pfx
      rw [decide_eq_true hl, Bool.true_and])
    clear ha hb
    go_enter Try.func73, Try.ntmps73
    go_wp2
    go_ret
    exact ⟨ret_bool PX.out, rfl⟩
  · have PX := Lib.hid (show false = pfx b a by unfold pfx; rw [decide_eq_false hl, Bool.false_and])
    have dl : decide ((b.length : Int) ≤ (a.length : Int)) = false := by simp; omega
    have dl2 : decide (b.length ≤ a.length) = false := by simp; omega
    clear ha hb hl
    go_enter Try.func73, Try.ntmps73
    go_wp2
    go_ret
    exact ⟨ret_bool PX.out, rfl⟩
theorem hasPrefix_any (a b : List Int) (ha : Byt a) (hb : Byt b) (W : World) : Calls Try.prog 50 #[.string (strOfNums a), .string (strOfNums b)] W fun e w' => e = .returned (.bool (pfx b a)) ∧ w' = W := by
  have H := Lib.hid (hasPrefix0_any a b ha hb W)
  clear ha hb
  go_enter Try.func50, Try.ntmps50
  go_wp2_with fail
  refine H.out.mono ?_
  rintro e w' ⟨rfl, rfl⟩
  go_wp2
  go_ret
  exact ⟨rfl, rfl⟩
theorem leading1_any (k : Kid) (rest : List Int) (hk : Byt k.1) (hr : Byt rest) {g : Nat} (hg : OneAt W g (.string (strOfNums rest)) 9) :
    Calls Try.prog 49 #[.agg #[.string (strOfNums k.1), .int .u64 k.2], .pointer (some ⟨g, 0, none⟩)] W fun e w' => e = .returned (.bool (pfx k.1 rest)) ∧ W.grownBy w' none := by
  have gB := grown1 W (.cells #[.string (strOfNums k.1), .int .u64 k.2] 86)
  have d0 := (hg.grown gB).c
  have dl := (hg.grown gB).lt
  have G := Lib.hid gB
  have H := Lib.hid (hasPrefix_any rest k.1 hr hk (W.alloc (.cells #[.string (strOfNums k.1), .int .u64 k.2] 86)))
  obtain ⟨e1, p1⟩ := k
  simp only [] at *
  clear gB hg hk hr
  go_enter Try.func49, Try.ntmps49
  go_wp2_with fail
  refine H.out.mono ?_
  rintro e w' ⟨rfl, rfl⟩
  go_wp2
  go_ret
  exact ⟨rfl, G.out⟩
set_option maxRecDepth 20000 in
set_option maxHeartbeats 800000 in
theorem indexLead_any (l : List Kid) (n : Nat) (hn : l.length = n) (hl : n ≤ 9223372036854775807) (q : Option Addr) (c : Nat) (hr : KidsAt w q l) (rest : List Int) {g : Nat} (hx : OneAt w g (.string (strOfNums rest)) 9) (b2 : Byt rest) (ho : ∀ k ∈ l, Byt k.1) :
    Calls Try.prog 48 #[.slice q n c, .func (.func 49) #[] #[.pointer (some ⟨g, 0, none⟩)]] w fun e w' =>
      ((e = .returned (.int .i64 (-1)) ∧ leadN l rest = []) ∨ ∃ (k : Nat) (x : Kid), k < n ∧ e = .returned (.int .i64 k) ∧ l[k]? = some x ∧ leadN l rest = [x]) ∧ w.grownBy w' none := by
  subst hn
  have RR := Lib.hid hr
  have OO := Lib.hid ho
  have HX := Lib.hid hx
  have BB := Lib.hid b2
  clear hr ho hx b2
  go_enter Try.func48, Try.ntmps48
  go_wp2
  go_loopw [8] (fun i wr => ∃ k : Nat, k ≤ l.length ∧ i = .int .i64 k ∧ w.grownBy wr none ∧ ∀ (i : Nat) (y : Kid), i < k → l[i]? = some y → pfx y.1 rest = false) (fun i _ => l.length - (intOf i).toNat)
  case atStart => exact ⟨0, Nat.zero_le _, rfl, grown_refl _ _, fun i y h => by omega⟩
  case round =>
    obtain ⟨k, hk, rfl, hg, hno⟩ := hrel
    have G := Lib.hid hg
    have NO := Lib.hid hno
    by_cases hlt : k < l.length
    · obtain ⟨x, hx⟩ : ∃ x, l[k]? = some x := ⟨_, List.getElem?_eq_getElem hlt⟩
      obtain ⟨gq, oq, rfl, c0, c1⟩ := (RR.out.grown hg).at k x hx
      have M1 := Lib.hid (leading1_any x rest (OO.out x (List.mem_of_getElem? hx)) BB.out (HX.out.grown hg))
      have XX := Lib.hid hx
      have dl : decide ((k : Int) < (l.length : Int)) = true := by simp; omega
      have hkl : (k : Int) < (l.length : Int) := by omega
      obtain ⟨bx, hbx⟩ : ∃ bx, bx = pfx x.1 rest := ⟨_, rfl⟩
      rw [← hbx] at M1
      have PX := Lib.hid hbx
      have LD := Lib.hid (fun (h : bx = true) => leadN_some hx (hbx ▸ h) hno)
      obtain ⟨xe, xp⟩ := x
      simp only [] at c0 c1 M1
      clear hg hno hx hbx
      generalize l.length = N at *
      go_wp2_with fail
      refine M1.out.mono ?_
      rintro e w3 ⟨rfl, hg⟩
      have G3 := Lib.hid (grown_trans G.out hg)
      clear hg
      cases bx
      · go_wp2
        go_roundw
        case rel =>
          refine ⟨k + 1, hlt, by go_num, G3.out, fun i y hi hy => ?_⟩
          rcases Nat.lt_or_ge i k with h | h
          · exact NO.out i y h hy
          · obtain rfl : i = k := by omega
            rw [XX.out] at hy
            injection hy with hy
            rw [← hy]; exact PX.out.symm
        case measure => simp [intOf]; omega
      · go_wp2
        go_ret
        exact ⟨.inr ⟨k, _, (List.getElem?_eq_some_iff.1 XX.out).1, rfl, XX.out, by first | exact LD.out rfl | exact LD.out trivial⟩, G3.out⟩
    · have NA := Lib.hid (leadN_none (rest := rest) (l := l) (fun i y hy => hno i y (by have := (List.getElem?_eq_some_iff.1 hy).1; omega) hy))
      have dl : decide ((k : Int) < (l.length : Int)) = false := by simp; omega
      clear hno hg
      generalize l.length = N at *
      go_wp2
      go_ret
      exact ⟨.inl ⟨rfl, NA.out⟩, G.out⟩
set_option maxRecDepth 20000 in
theorem leading_any (l : List Kid) (n : Nat) (hn : l.length = n) (q : Option Addr) (c : Nat) (hnc : n ≤ c) (hc : c ≤ 9223372036854775807) (hr : KidsAt w q l) (rest : List Int) (b2 : Byt rest) (ho : ∀ k ∈ l, Byt k.1) :
    Calls Try.prog 30 #[.slice q n c, .string (strOfNums rest)] w fun e w' =>
      (∃ q' c', e = .returned (.slice q' (leadN l rest).length c') ∧ KidsAt w q' (leadN l rest) ∧ (∀ g o, q' = some ⟨g, o, none⟩ → ∃ o', q = some ⟨g, o', none⟩) ∧ (leadN l rest).length ≤ c' ∧ c' ≤ 9223372036854775807) ∧ w.grownBy w' none := by
  have gB := grown1 w (.cells #[.string (strOfNums rest)] 9)
  have o1 := OneAt.new w (.string (strOfNums rest)) 9
  have I := Lib.hid (indexLead_any (w := w.alloc (.cells #[.string (strOfNums rest)] 9)) l n hn (by omega) q c (hr.grown gB) rest o1 b2 ho)
  have G := Lib.hid gB
  have RR := Lib.hid hr
  clear gB o1 hr b2 ho
  go_enter Try.func30, Try.ntmps30
  go_wp2_with fail
  refine I.out.mono ?_
  rintro e w' ⟨h, hg⟩
  have G2 := Lib.hid (grown_trans G.out hg)
  clear hg
  rcases h with ⟨rfl, hL⟩ | ⟨k, x, hk, rfl, hx, hL⟩
  · have FN := Lib.hid (show ∃ q' c', Ending.returned (.slice none 0 0) = .returned (.slice q' (leadN l rest).length c') ∧ KidsAt w q' (leadN l rest) ∧ (∀ g o, q' = some ⟨g, o, none⟩ → ∃ o', q = some ⟨g, o', none⟩) ∧ (leadN l rest).length ≤ c' ∧ c' ≤ 9223372036854775807 from by
      rw [hL]; exact ⟨none, 0, rfl, KidsAt.nil, fun g o e => (by cases e), Nat.le_refl _, by decide⟩)
    clear hL
    go_wp2
    go_ret
    exact ⟨FN.out, G2.out⟩
  · obtain ⟨gq, oq, rfl, c0, c1⟩ := RR.out k x hx
    have FN := Lib.hid (show ∃ q' c', Ending.returned (.slice (some ⟨gq, oq + k * 2, none⟩) 1 (c - k)) = .returned (.slice q' (leadN l rest).length c') ∧ KidsAt w q' (leadN l rest) ∧ (∀ g o, q' = some ⟨g, o, none⟩ → ∃ o', (some ⟨gq, oq, none⟩ : Option Addr) = some ⟨g, o', none⟩) ∧ (leadN l rest).length ≤ c' ∧ c' ≤ 9223372036854775807 from by
      rw [hL]
      refine ⟨_, _, rfl, fun i y hy => ?_, fun g o e => ⟨oq, by injection e with e; injection e with e1 _ _; rw [e1]⟩, by simp; omega, by omega⟩
      match i, hy with
      | 0, hy =>
        injection hy with hy
        subst hy
        exact ⟨gq, oq + k * 2, rfl, by rw [Nat.zero_mul, Nat.add_zero]; exact c0, by rw [Nat.zero_mul, Nat.add_zero]; exact c1⟩)
    have hS : ∀ W, (Instr.slice 60 (.slice (some ⟨gq, oq, none⟩) n c) (some (.int .i64 (k : Int))) (some (.int .i64 ((k : Int) + 1))) none).run Try.prog W = .ok (.slice (some ⟨gq, oq + k * 2, none⟩) 1 (c - k)) W := fun W => by
      rw [run_slice_lh (P := Try.prog) W 60 (some ⟨gq, oq, none⟩) n c (by kernel_rfl) .i64 .i64 (k : Int) ((k : Int) + 1) (by omega) (by omega) (by omega)]
      have hs : ((sizeOf (Try.prog.elem 60)).run Try.prog W) = .ok 2 W := by kernel_rfl
      rw [hs]
      simp only [Result.andThen, sliced]
      rw [if_neg (by omega), show ((k : Int) + 1).toNat - ((k : Int)).toNat = 1 by omega, show ((k : Int)).toNat = k by omega]
      simp only [Option.map_some, add_flat]
    have hk63 : (k : Int) ≤ 9223372036854775806 := by omega
    clear hL hx c0 c1 hn hnc hc
    go_wp2
    go_ret
    exact ⟨FN.out, G2.out⟩
end Go.Proofs.Ytbnnlbdjjpmgeaa

