/- A walk over a trie: the closure of trie.walk that calls itself, whatever is told of each node. Conditions: what is told of a node is a function by its contract (MeetOk). -/
import Derived.Test.YtblfighfahffkaaTrZ
import Derived.Deep.Cut
import Derived.Deep.CutRange
namespace Go.Proofs.Ytblfighfahffkaa
open Go.RowKit
variable {w w' W V : World} {xs : List Int}

structure VOut (S : Type) (Fine : S → Prop) (z : Wfx) (xs : List Int) (Inv : World → (Nat → Prop) → S → Prop) (F : Nat → Prop) (W W' : World) (way : List Int) (r : Int × (Nat × S)) (e : Ending) : Prop where
  ret : e = .returned (.int .i64 r.1)
  ex : ∃ F', Wk S z xs Inv W' F' r.2.1 way r.2.2 ∧ ∀ k, F' k → F k ∨ W.heap.size ≤ k
  chg : Chg F W W'
  few : r.1 = 0 → r.2.1 ≤ 8192 ∧ Fine r.2.2
section
variable {S : Type} {mt : Mt S} {Pre : List Int → Prop} {Fine : S → Prop} {Inv : World → (Nat → Prop) → S → Prop} {z : Wfx}
theorem vis_go {k m : Nat} {way name : List Int} {pl : Int} {s : S} (hn : ¬ 255 < name.length) : vis xs mt (k + 1) way name pl (m, s) = if pl ∈ way then (12, (m + 1, s)) else if 8192 < m + 1 then (11, (m + 1, s)) else match ndAt xs pl with
      | none => (12, (m + 1, s))
      | some nd => visK (vis xs mt k (way ++ [pl])) name (mt s name nd).2.1 (mt s name nd).2.2 (m + 1, (mt s name nd).1) := by
  have e : vis xs mt (k + 1) way name pl (m, s) = if 255 < name.length then (10, (m + 1, s)) else if pl ∈ way then (12, (m + 1, s)) else if 8192 < m + 1 then (11, (m + 1, s)) else match ndAt xs pl with
      | none => (12, (m + 1, s))
      | some nd => visK (vis xs mt k (way ++ [pl])) name (mt s name nd).2.1 (mt s name nd).2.2 (m + 1, (mt s name nd).1) := rfl
  rw [e, if_neg hn]
theorem own_room8 {T : TypeId} {k n c base : Nat} {q : Option Addr} {ys : List Value} (h : W.ownsRow base T k (.slice q n c) n ys) : n ≤ c := by
  rcases h.2 with ⟨hv, hn⟩ | ⟨g, cp, cur, hv, _, _, hle, _⟩
  · omega
  · injection hv with _ _ e; omega
theorem VOut.at {F F0 : Nat → Prop} {W0 : World} {m : Nat} {way : List Int} {s : S} {r : Int} (h : Wk S z xs Inv V F m way s) (hF : ∀ k, F k → F0 k ∨ W0.heap.size ≤ k) (hg : Chg F0 W0 V) (hm : r = 0 → m ≤ 8192 ∧ Fine s) : VOut S Fine z xs Inv F0 W0 V way (r, (m, s)) (.returned (.int .i64 r)) :=
  ⟨rfl, ⟨F, h, hF⟩, hg, hm⟩
theorem chg_met {F : Nat → Prop} {m : Nat} {way : List Int} {s : S} (h : Wk S z xs Inv W F m way s) (v : Value) : Chg F W (W.setCell ⟨z.cmet, 0, none⟩ v) :=
  Chg.of_grown (grown_setCell (grown_refl W (some z.cmet)) v) (fun b e => by injection e with e; exact .inl (e ▸ h.fmet))

set_option maxRecDepth 20000 in
theorem visit_long (M : MeetOk S z.fm z.cbs mt Pre Fine Inv) {F : Nat → Prop} {m : Nat} {way : List Int} {s : S} (name : List Int) (pl : Int) (hn : 255 < name.length) (hn2 : name.length ≤ 510) (hm : m ≤ 8192) (h : Wk S z xs Inv W F m way s) :
    Calls Try.prog 42 #[.string (strOfNums name), .int .u64 pl, .pointer (some ⟨z.cmet, 0, none⟩), .pointer (some ⟨z.cway, 0, none⟩), .pointer (some ⟨z.cb, 0, none⟩), .pointer (some ⟨z.cm, 0, none⟩), .pointer (some ⟨z.cv, 0, none⟩)] W fun e W' =>
      VOut S Fine z xs Inv F W W' way (10, (m + 1, s)) e := by
  have c0 := h.met.c
  have f0 := h.met.f
  have hsz : (strOfNums name).size = name.length := strOfNums_size _
  have FN := Lib.hid (fun (N : Int) (hN : N = (m + 1 : Nat)) => VOut.at (Fine := Fine) (r := 10) (h.setMet M (m + 1) hN) (fun k hk => .inl hk) (chg_met h _) (fun e => by cases e))
  obtain ⟨nl, hnl⟩ : ∃ nl, nl = name.length := ⟨_, rfl⟩
  rw [← hnl] at hsz hn hn2
  have dn : decide ((255 : Int) < (nl : Int)) = true := by simp; omega
  generalize strOfNums name = SN at *
  clear h hnl
  go_enter Try.func42, Try.ntmps42
  go_wp2
  go_ret
  exact FN.out _ (by omega)

set_option maxRecDepth 20000 in
set_option maxHeartbeats 3200000 in
theorem visit_any (M : MeetOk S z.fm z.cbs mt Pre Fine Inv) (hb : Byt xs) (hc : xs.length ≤ z.c) (hcm : z.c ≤ 9223372036854775807) (hbig : xs.length ≤ 140737488355328) : ∀ (k : Nat) (W : World) (F : Nat → Prop) (m : Nat) (way : List Int) (s : S) (name : List Int) (pl : Int),
    256 ≤ k + name.length → name.length ≤ 510 → Pre name → 0 ≤ pl → pl < 18446744073709551616 → m ≤ 8192 → way.length ≤ name.length → Fine s → Wk S z xs Inv W F m way s →
    Calls Try.prog 42 #[.string (strOfNums name), .int .u64 pl, .pointer (some ⟨z.cmet, 0, none⟩), .pointer (some ⟨z.cway, 0, none⟩), .pointer (some ⟨z.cb, 0, none⟩), .pointer (some ⟨z.cm, 0, none⟩), .pointer (some ⟨z.cv, 0, none⟩)] W fun e W' =>
      VOut S Fine z xs Inv F W W' way (vis xs mt k way name pl (m, s)) e := by
  intro k
  induction k with
  | zero =>
    intro W F m way s name pl hk hn2 _ _ _ hm _ _ h
    exact visit_long M name pl (by omega) hn2 hm h
  | succ k ih =>
    intro W F m way s name pl hk hn2 hpre hp0 hp1 hm hway hfine h
    have FI := Lib.hid hfine
    clear hfine
    by_cases hn : 255 < name.length
    · have e : vis xs mt (k + 1) way name pl (m, s) = (10, (m + 1, s)) := by unfold vis; rw [if_pos hn]
      rw [e]
      exact visit_long M name pl hn hn2 hm h
    have IH := Lib.hid ih
    have PRE := Lib.hid hpre
    obtain ⟨qw, cw, a1, a2, a3⟩ := h.way
    have H1 := Lib.hid (fun (N : Int) (hN : N = (m + 1 : Nat)) => And.intro (h.setMet M (m + 1) hN) (chg_met h (.int .i64 N)))
    have c0 := h.met.c
    have f0 := h.met.f
    have hsz : (strOfNums name).size = name.length := strOfNums_size _
    have h1' := H1.out ((m : Int) + 1) (by omega)
    obtain ⟨W1, hW1⟩ : ∃ W1, W.setCell ⟨z.cmet, 0, none⟩ (.int .i64 ((m : Int) + 1)) = W1 := ⟨_, rfl⟩
    rw [hW1] at h1'
    have HW1 := Lib.hid hW1
    have K1 := Lib.hid h1'.1
    have C1 := Lib.hid h1'.2
    clear hW1 h1' H1 ih hpre h a1 a2 a3 qw cw
    obtain ⟨r, hr⟩ : ∃ r, r = vis xs mt (k + 1) way name pl (m, s) := ⟨_, rfl⟩
    rw [← hr]
    have HR := Lib.hid (show r = if pl ∈ way then (12, (m + 1, s)) else if 8192 < m + 1 then (11, (m + 1, s)) else match ndAt xs pl with
      | none => (12, (m + 1, s))
      | some nd => visK (vis xs mt k (way ++ [pl])) name (mt s name nd).2.1 (mt s name nd).2.2 (m + 1, (mt s name nd).1) from hr.trans (vis_go hn))
    clear hr
    have hnl : name.length ≤ 255 := by omega
    obtain ⟨SN, hSN⟩ : ∃ SN, SN = strOfNums name := ⟨_, rfl⟩
    obtain ⟨nl, hnl2⟩ : ∃ nl, nl = name.length := ⟨_, rfl⟩
    rw [← hSN] at hsz ⊢
    rw [← hnl2] at hsz hnl hn hn2 hk hway
    have HSN := Lib.hid hSN
    have HNL := Lib.hid hnl2
    clear hSN hnl2
    have dn : decide ((255 : Int) < (nl : Int)) = false := by simp; omega
    go_enter Try.func42, Try.ntmps42
    go_upto_region 2 with fail
    rw [HW1.out]
    clear HW1 c0 f0
    obtain ⟨qw, cw, a1, a2, a3⟩ := K1.out.way
    have w1 := a1.c
    have hwl : way.length ≤ 9223372036854775807 := by omega
    have FB1 := Lib.hid K1.out.fb
    have SZ1 := Lib.hid C1.out.size
    have CT := Lib.hid (contains64_any (w := W1) way way.length rfl hwl qw cw (U64At.of a2) pl)
    have AO := Lib.hid a2
    clear a1 a2 a3 hwl
    go_wp2_with fail
    refine CT.out.mono ?_
    rintro e W1' ⟨rfl, hw'⟩
    have hw2 := hw'.symm
    subst hw2
    clear hw'
    by_cases hin : pl ∈ way
    · have FN := Lib.hid (VOut.at (Fine := Fine) (r := 12) K1.out (fun k hk => .inl hk) C1.out (fun e => by cases e))
      rw [if_pos hin] at HR
      rw [show decide (pl ∈ way) = true from decide_eq_true hin]
      clear hin
      go_wp2
      go_ret
      rw [HR.out]
      exact FN.out
    rw [if_neg hin] at HR
    rw [show decide (pl ∈ way) = false from decide_eq_false hin]
    clear hin CT
    have c0 := K1.out.met.c
    by_cases hmm : 8192 < m + 1
    · have FN := Lib.hid (VOut.at (Fine := Fine) (r := 11) K1.out (fun k hk => .inl hk) C1.out (fun e => by cases e))
      rw [if_pos hmm] at HR
      have dm : decide ((8192 : Int) < ((m + 1 : Nat) : Int)) = true := by simp; omega
      have dm2 : decide ((8192 : Int) < (m : Int) + 1) = true := by simp; omega
      clear hmm
      go_wp2
      go_ret
      rw [HR.out]
      exact FN.out
    rw [if_neg hmm] at HR
    have dm : decide ((8192 : Int) < ((m + 1 : Nat) : Int)) = false := by simp; omega
    have dm2 : decide ((8192 : Int) < (m : Int) + 1) = false := by simp; omega
    have b0 := K1.out.bb.c
    have NA := Lib.hid (nodeAt_any (w := W1) K1.out.cell hc hcm hbig hb pl hp0 hp1 SN)
    go_wp2_with fail
    refine NA.out.mono ?_
    rintro e W2 ⟨hex, hg2⟩
    have hsz2 := hg2.size
    have K2 := Lib.hid (K1.out.grown M hg2)
    have C2 := Lib.hid (C1.out.trans (Chg.of_grown hg2 (fun b e => by cases e)))
    clear hg2 NA b0 c0 dm dm2 K1 C1
    rcases hex with ⟨nd, v, hnd, rfl, ho⟩ | ⟨hnd, rfl⟩
    case inr =>
      rw [hnd] at HR
      have GZ := Lib.hid (fun (o : Obj) => And.intro (K2.out.grown M (grown1 W2 o)) (C2.out.trans (Chg.of_grown (grown1 W2 o) (fun b e => by cases e))))
      have FN := Lib.hid (fun (o : Obj) => VOut.at (Fine := Fine) (r := 12) (GZ.out o).1 (fun k hk => .inl hk) (GZ.out o).2 (fun e => by cases e))
      unfold nodeV
      go_wp2
      go_ret
      rw [HR.out]
      exact FN.out _
    case inl =>
      rw [hnd] at HR
      have NK := Lib.hid (ndAt_ok hb hnd)
      have SZ2 := Lib.hid (show W1.heap.size ≤ W2.heap.size from hsz2)
      obtain ⟨qn, cn, rfl⟩ := own_slice ho
      have NV := Lib.hid (fun g (e : (Value.slice qn nd.kids.length cn).ownBlock = some g) => (ho.lt g e))
      have HC := Lib.hid (HR.out)
      simp only [] at HC
      clear HR hnd
      have g3 := grown1 W2 (.cells #[.bool nd.ex.isSome, .string (nmOf SN nd.ex), .int .i64 (exOf nd.ex).kind, .bool (exOf nd.ex).weak, .int .u64 (exOf nd.ex).value, .int .u64 (exOf nd.ex).resolver, .int .u64 (exOf nd.ex).ordinal, .string (strOfNums (exOf nd.ex).other), .slice qn nd.kids.length cn] 53)
      have N3 := Lib.hid (show NodeAt (W2.alloc (.cells #[.bool nd.ex.isSome, .string (nmOf SN nd.ex), .int .i64 (exOf nd.ex).kind, .bool (exOf nd.ex).weak, .int .u64 (exOf nd.ex).value, .int .u64 (exOf nd.ex).resolver, .int .u64 (exOf nd.ex).ordinal, .string (strOfNums (exOf nd.ex).other), .slice qn nd.kids.length cn] 53)) W2.heap.size nd.ex.isSome (nmOf SN nd.ex) (exOf nd.ex) (.slice qn nd.kids.length cn) from heap_alloc_new W2 _)
      have K3 := Lib.hid (K2.out.grown M g3)
      have C3 := Lib.hid (C2.out.trans (Chg.of_grown g3 (fun b e => by cases e)))
      have O3 := Lib.hid (own_grown ho g3)
      unfold nodeV
      obtain ⟨nb, hnb⟩ : ∃ x, x = nd.ex.isSome := ⟨_, rfl⟩
      obtain ⟨nn, hnn⟩ : ∃ x, x = nmOf SN nd.ex := ⟨_, rfl⟩
      obtain ⟨nx, hnx⟩ : ∃ x, x = exOf nd.ex := ⟨_, rfl⟩
      obtain ⟨kl, hkl⟩ : ∃ x, x = nd.kids.length := ⟨_, rfl⟩
      rw [← hnb, ← hnn, ← hnx, ← hkl] at N3 K3 C3 O3
      rw [← hkl] at NV
      rw [← hnb, ← hnn, ← hnx, ← hkl]
      have EQ := Lib.hid (And.intro hnb (And.intro hnn (And.intro hnx hkl)))
      clear hnb hnn hnx hkl g3 ho K2 C2
      obtain ⟨W3, hW3⟩ : ∃ W3, W2.alloc (.cells #[.bool nb, .string nn, .int .i64 nx.kind, .bool nx.weak, .int .u64 nx.value, .int .u64 nx.resolver, .int .u64 nx.ordinal, .string (strOfNums nx.other), .slice qn kl cn] 53) = W3 := ⟨_, rfl⟩
      obtain ⟨gn, hgn⟩ : ∃ gn, W2.heap.size = gn := ⟨_, rfl⟩
      rw [hW3] at N3 K3 C3 O3
      rw [hgn] at N3
      have HW3 := Lib.hid hW3
      have HGN := Lib.hid hgn
      have HGN2 := Lib.hid hgn
      clear hW3 hgn
      go_upto_region 9 with fail
      rw [HW3.out, HGN.out]
      clear HW3 HGN
      obtain ⟨G, b1, b2, b3, b4, b5⟩ := K3.out.inv
      have hGF : ∀ k, G k → k < W1.heap.size := fun k hk => (FB1.out k (b1 k hk)).2
      have MC := M.call W3 G s name nd (.slice qn nd.kids.length cn) _ b2 FI.out PRE.out (by rw [← HNL.out]; exact hnl) NK.out (by rw [← EQ.out.2.2.2]; exact O3.out) (fun g e hg => by
        have h1 := (NV.out g (by rw [EQ.out.2.2.2]; exact e)).1
        have h2 := hGF g hg
        omega) (fun k hk => (K3.out.fb k (b1 k hk)).2)
      rw [← HSN.out, ← EQ.out.1, ← EQ.out.2.1, ← EQ.out.2.2.1, ← EQ.out.2.2.2] at MC
      unfold nodeV at MC
      have SUB := Lib.hid (M.sub s name nd)
      have PRK := Lib.hid (M.pre s name nd PRE.out)
      have NXT := Lib.hid (M.next s name nd FI.out)
      have STO := Lib.hid (M.stop s name nd)
      have TL := Lib.hid (fun V G' s' (hi : Inv V G' s') hG (hg : Chg G W3 V) => And.intro (K3.out.told b1 b3 b4 b5 hi hG hg) (C3.out.trans (hg.mono b1)))
      have MCH := Lib.hid MC
      have m0 := K3.out.me.c
      have EN := Lib.hid M.enters
      have N3l := N3.out.lt
      obtain ⟨d0, d1, d2, d3, d4, d5, d6, d7, d8⟩ := N3.out.c
      have SZ3 := Lib.hid C3.out.size
      have SZ23 := Lib.hid (show gn < W3.heap.size from N3.out.lt)
      clear MC b1 b2 b3 b4 b5 hGF O3
      have en := fun args V => M.enters args V
      go_wp2_with fail
      refine MCH.out.mono ?_
      rintro e W4 ⟨⟨q, c, G', rfl, i4, hG4, kd4, hq4, hlc, hcc⟩, hch⟩
      have K4C4 := TL.out _ _ _ i4 hG4 hch
      have hF4 : ∀ k, Foot F W3 W4 k → F k ∨ W.heap.size ≤ k := fun k hk => hk.elim .inl (fun hk => .inr (by have := SZ3.out; omega))
      have QB4 : ∀ g o, q = some ⟨g, o, none⟩ → ¬ Foot F W3 W4 g ∧ g < W4.heap.size := fun g o e => by
        have h1 := NV.out g (hq4 g o e)
        have h2 := K4C4.1.base
        refine ⟨fun e => e.elim (fun e => by have := (FB1.out g e).2; omega) (fun e => by have := SZ23.out; have := HGN2.out; omega), ?_⟩
        have := hch.size; have := SZ23.out; have := HGN2.out; omega
      have K4 := Lib.hid K4C4.1
      have C4 := Lib.hid K4C4.2
      have HF4 := Lib.hid hF4
      have QB := Lib.hid QB4
      have KD4 := Lib.hid kd4
      obtain ⟨⟨s4, L, e0⟩, hmt⟩ : ∃ x, x = mt s name nd := ⟨_, rfl⟩
      rw [← hmt] at K4 KD4 SUB PRK HC NXT STO hlc
      have FS := Lib.hid (show ∀ j, (j < L.length ∨ e0 = 0) → Fine s4 from fun j hj => NXT.out (hj.elim (fun hj => Classical.byContradiction fun h0 => by have h1 : L = [] := STO.out h0; rw [h1] at hj; simp at hj) id))
      simp only [← hmt] at hlc ⊢
      have HL := Lib.hid (And.intro hlc hcc)
      clear hmt i4 hG4 kd4 hq4 hch K4C4 hF4 QB4 hlc hcc TL MCH m0 d0 d1 d2 d3 d4 d5 d6 d7 d8 N3l SZ3 SZ23 K3 C3 N3 NV EQ EN en
      have hLc : L.length ≤ c := HL.out.1
      have hc63 : c ≤ 9223372036854775807 := HL.out.2
      obtain ⟨qy, cy, a1, a2, a3⟩ := K4.out.way
      have w4 := a1.c
      have f4 := a1.f
      have l4 := a1.lt
      have g5 := grown1 W4 (.cells #[.int .u64 pl] 31)
      have O5 := Lib.hid (own_grown a2 g5)
      have N5 := Lib.hid (heap_alloc_new W4 (.cells #[.int .u64 pl] 31))
      have A5 := Lib.hid (a1.grown g5)
      have SZ4 := Lib.hid (show z.B ≤ W4.heap.size from K4.out.base)
      have PU := Lib.hid (fun (V : Value) (W2 : World) h1 h2 h3 => K4.out.push M pl w4 g5 (v' := V) (W2 := W2) h1 h2 h3)
      clear a1 a2 a3 g5
      go_upto_region 12 with fail
      go_wp2_with (at_builtin; refine wp_append_sta u64Type rfl _ _ rfl _ way.length _ rfl O5.out [.int .u64 pl] rfl W4.heap.size rfl N5.out (fun u hu => by simp at hu; subst hu; rfl) (by omega) (by decide) ?_ ?_)
      · have := SZ4.out; (try rw [World.size_alloc]); omega
      intro v' W5 ho5 hg5 hv5
      obtain ⟨q5, c5, rfl⟩ := own_slice ho5
      have a6 := A5.out.kept hg5 (own_ne O5.out A5.out (by decide))
      have c6 := a6.c
      have f6 := a6.f
      have l6 := a6.lt
      have K6C6 := PU.out _ _ ho5 hg5 (by rw [World.size_alloc]; exact hv5)
      obtain ⟨W6, hW6⟩ : ∃ W6, W5.setCell ⟨z.cway, 0, none⟩ (.slice q5 (way.length + 1) c5) = W6 := ⟨_, rfl⟩
      rw [hW6] at K6C6
      have hF6 : ∀ k, Foot (Foot F W3 W4) W4 W6 k → F k ∨ W.heap.size ≤ k := fun k hk => hk.elim (HF4.out k) (fun hk => .inr (by have := C4.out.size; omega))
      have K6 := Lib.hid K6C6.1
      have C6 := Lib.hid (show Chg F W W6 from ⟨K6C6.2.os.trans C4.out.os, K6C6.2.tape.trans C4.out.tape, K6C6.2.output.trans C4.out.output, Nat.le_trans C4.out.size K6C6.2.size, fun i hi hf => (K6C6.2.block i (Nat.lt_of_lt_of_le hi C4.out.size) (fun e => (HF4.out i e).elim hf (fun e => by omega))).trans (C4.out.block i hi hf)⟩)
      have KD6 := Lib.hid (KD4.out.chg K6C6.2 (fun g o e => (QB.out g o e).1))
      have QB6 := Lib.hid (show ∀ g o, q = some ⟨g, o, none⟩ → ¬ Foot (Foot F W3 W4) W4 W6 g from fun g o e hk => hk.elim (QB.out g o e).1 (fun hk => by have := (QB.out g o e).2; omega))
      have HF6 := Lib.hid hF6
      have HW6 := Lib.hid hW6
      clear ho5 hg5 hv5 a6 K6C6 hF6 hW6 PU O5 N5 A5 K4 C4 HF4 QB KD4 w4 f4 l4
      go_upto_region 13 with fail
      rw [HW6.out]
      clear HW6 c6 f6 l6
      go_wp2_with fail
      go_loopw [13, 51] (fun er i wr => ∃ (j : Nat) (ej : Int) (F' : Nat → Prop) (m' : Nat) (s' : S), j ≤ L.length ∧ i = .int .i64 j ∧ er = .int .i64 ej ∧ Wk S z xs Inv wr F' m' (way ++ [pl]) s' ∧ (∀ k, F' k → F k ∨ W.heap.size ≤ k) ∧ Chg F W wr ∧ KidsAt wr q L ∧ (∀ g o, q = some ⟨g, o, none⟩ → ¬ F' g) ∧ Hid (r = visK (vis xs mt k (way ++ [pl])) name (L.drop j) ej (m', s')) ∧ m' ≤ 8192 ∧ Hid ((j < L.length ∨ ej = 0) → Fine s')) (fun _ i _ => L.length - (intOf i).toNat)
      case atStart => exact ⟨0, e0, _, m + 1, s4, Nat.zero_le _, rfl, rfl, K6.out, HF6.out, C6.out, KD6.out, QB6.out, Lib.hid HC.out, by omega, Lib.hid (FS.out 0)⟩
      case round =>
        obtain ⟨j, ej, F', m', s', hj, rfl, rfl, hK, hF', hC, hKd, hQ, CO, hm', FJ⟩ := hrel
        have K7 := Lib.hid hK
        have F7 := Lib.hid hF'
        have C7 := Lib.hid hC
        have Q7 := Lib.hid hQ
        have KD7 := Lib.hid hKd
        clear hK hF' hC hQ hKd
        by_cases hlt : j < L.length
        · obtain ⟨x, hx⟩ : ∃ x, L[j]? = some x := ⟨_, List.getElem?_eq_getElem hlt⟩
          have hxm := List.mem_of_getElem? hx
          have KO := Lib.hid (NK.out.kids.each x (SUB.out x hxm))
          have PX := Lib.hid (PRK.out x hxm)
          have CO2 := Lib.hid (show r = if (vis xs mt k (way ++ [pl]) (name ++ x.1) x.2 (m', s')).1 ≠ 0 then vis xs mt k (way ++ [pl]) (name ++ x.1) x.2 (m', s') else visK (vis xs mt k (way ++ [pl])) name (L.drop (j + 1)) 0 (vis xs mt k (way ++ [pl]) (name ++ x.1) x.2 (m', s')).2 by
            obtain ⟨hjj, he⟩ := List.getElem?_eq_some_iff.1 hx
            have h := CO.out
            rw [List.drop_eq_getElem_cons hjj, he] at h
            exact h)
          obtain ⟨gq, oq, rfl, c0, c1⟩ := KD7.out j x hx
          obtain ⟨xe, xp⟩ := x
          have hcat : SN ++ strOfNums xe = strOfNums (name ++ xe) := by rw [HSN.out, strOfNums_app]
          simp only [] at c0 c1 KO PX CO2
          have g8 := grown1 wr (.cells #[.string (strOfNums xe), .int .u64 xp] 92)
          have X8 := Lib.hid (show KidIn (wr.alloc (.cells #[.string (strOfNums xe), .int .u64 xp] 92)) wr.heap.size (xe, xp) from heap_alloc_new wr _)
          have K8 := Lib.hid (K7.out.grown M g8)
          have C8 := Lib.hid (C7.out.trans (Chg.of_grown g8 (fun b e => by cases e)))
          have KD8 := Lib.hid (KD7.out.grown g8)
          have QS8 := Lib.hid (show gq < wr.heap.size from by have := World.block_lt_of_cell? wr _ c0; exact this)
          obtain ⟨w8, hw8⟩ : ∃ w8, wr.alloc (.cells #[.string (strOfNums xe), .int .u64 xp] 92) = w8 := ⟨_, rfl⟩
          obtain ⟨gk, hgk⟩ : ∃ gk, wr.heap.size = gk := ⟨_, rfl⟩
          rw [hw8] at X8 K8 C8 KD8
          rw [hgk] at X8 QS8
          have HW8 := Lib.hid hw8
          have HGK := Lib.hid hgk
          have S8 := Lib.hid (show gk < w8.heap.size from X8.out.lt)
          have X1 := Lib.hid (show 1 ≤ xe.length by
            have h := KO.out.ne
            cases xe with
            | nil => exact absurd rfl h
            | cons => simp)
          have hsx : (strOfNums xe).size = xe.length := strOfNums_size _
          have hxl : xe.length ≤ 255 := KO.out.len
          have dl : decide ((j : Int) < (L.length : Int)) = true := by simp; omega
          have hjl : (j : Int) < (L.length : Int) := by omega
          clear g8 hw8 hgk hx hxm K7 C7 KD7 CO
          go_upto_region 16 with fail
          rw [HW8.out, HGK.out]
          clear HW8 HGK c0 c1
          have x0 := X8.out.c0
          have x1 := X8.out.c1
          have xl := X8.out.lt
          have v0 := K8.out.vi.c
          unfold Wfx.caps at v0
          have CALL := Lib.hid (IH.out w8 F' m' (way ++ [pl]) s' (name ++ xe) xp (by rw [List.length_append, ← HNL.out]; have := X1.out; omega) (by rw [List.length_append, ← HNL.out]; have := KO.out.len; simp only [] at this; omega) PX.out KO.out.lo KO.out.hi hm'
            (by rw [List.length_append, List.length_append, List.length_singleton, ← HNL.out]; have := X1.out; omega) (FJ.out (.inl hlt)) K8.out)
          obtain ⟨⟨R, m9, s9⟩, hR⟩ : ∃ x, x = vis xs mt k (way ++ [pl]) (name ++ xe) xp (m', s') := ⟨_, rfl⟩
          rw [← hR] at CALL CO2
          clear hR
          go_wp2_with fail
          refine CALL.out.mono ?_
          rintro e w9 ⟨rfl, ⟨F9, k9, f9⟩, c9, few9⟩
          have K9 := Lib.hid k9
          have F9H := Lib.hid (show ∀ k, F9 k → F k ∨ W.heap.size ≤ k from fun k hk => (f9 k hk).elim (F7.out k) (fun e => .inr (by have := C8.out.size; omega)))
          have C9 := Lib.hid (show Chg F W w9 from ⟨c9.os.trans C8.out.os, c9.tape.trans C8.out.tape, c9.output.trans C8.out.output, Nat.le_trans C8.out.size c9.size, fun i hi hn => (c9.block i (Nat.lt_of_lt_of_le hi C8.out.size) (fun e => (F7.out i e).elim hn (fun e => by omega))).trans (C8.out.block i hi hn)⟩)
          have KD9 := Lib.hid (KD8.out.chg c9 Q7.out)
          have Q9 := Lib.hid (show ∀ g o, (some ⟨gq, oq, none⟩ : Option Addr) = some ⟨g, o, none⟩ → ¬ F9 g from fun g o e hk => (f9 g hk).elim (Q7.out g o e) (fun h => by
            injection e with e; injection e with e _ _; subst e
            have := QS8.out; have := S8.out; omega))
          have FEW9 := Lib.hid few9
          simp only [] at K9 FEW9 CO2
          clear k9 f9 c9 few9 CALL K8 C8 KD8 QS8 S8 X8 x0 x1 xl v0 hcat
          by_cases hR0 : R = 0
          · have dr : (R != 0) = false := by rw [hR0]; rfl
            have CO3 := Lib.hid (show r = visK (vis xs mt k (way ++ [pl])) name (L.drop (j + 1)) 0 (m9, s9) by
              have h := CO2.out
              rw [if_neg (fun h => h hR0)] at h
              exact h)
            have M9 := Lib.hid (FEW9.out hR0)
            clear CO2 FEW9
            subst hR0
            go_wp2
            go_roundw
            case rel => exact ⟨j + 1, 0, F9, m9, s9, hlt, by go_num, rfl, K9.out, F9H.out, C9.out, KD9.out, Q9.out, Lib.hid CO3.out, M9.out.1, Lib.hid (fun _ => M9.out.2)⟩
            case measure => simp [intOf]; omega
          · have dr : (R != 0) = true := by simpa using hR0
            have RQ := Lib.hid (show r = (R, (m9, s9)) by
              have h := CO2.out
              rw [if_pos hR0] at h
              exact h)
            have HR0 := Lib.hid hR0
            clear CO2 hR0
            have FWX := Lib.hid (And.intro (F9H.out) (C9.out))
            obtain ⟨q8, c8, a1, a2, a3⟩ := (K9.out).way
            have PP := Lib.hid (fun hc => Wk.pop M (K9.out) (q := q8) (cap := c8) hc)
            obtain ⟨b8, o8, hq8⟩ : ∃ b o, q8 = some ⟨b, o, none⟩ := by
              rcases a2.2 with ⟨_, hn⟩ | ⟨g, cp, cur, hv, _⟩
              · rw [List.length_append, List.length_singleton] at hn; omega
              · injection hv with hv _ _; exact ⟨g, 0, hv⟩
            subst hq8
            have hN8 : (way ++ [pl]).length = way.length + 1 := by rw [List.length_append, List.length_singleton]
            have hr8 : (way ++ [pl]).length ≤ c8 := own_room8 a2
            obtain ⟨N8, hNN⟩ : ∃ n, n = (way ++ [pl]).length := ⟨_, rfl⟩
            rw [← hNN] at a1 PP hN8 hr8
            have hsub8 : (N8 : Int) - 1 = (way.length : Int) := by omega
            have CH := cut_hi (T := 85) (k := 1) (by kernel_rfl) (fun W => by kernel_rfl) b8 o8 N8 c8 way.length .i64 (by omega)
            have w8 := a1.c
            have f8 := a1.f
            have l8 := a1.lt
            have FN := Lib.hid (show VOut S Fine z xs Inv F W _ way r (.returned (.int .i64 R)) by
              have h := PP.out w8
              have hf := FWX.out
              rw [RQ.out]
              exact VOut.at h.1 hf.1 (⟨h.2.os.trans hf.2.os, h.2.tape.trans hf.2.tape, h.2.output.trans hf.2.output, Nat.le_trans hf.2.size h.2.size, fun i hi hn => (h.2.block i (Nat.lt_of_lt_of_le hi hf.2.size) (fun e => (hf.1 i e).elim hn (fun e => by omega))).trans (hf.2.block i hi hn)⟩) (fun e => absurd e HR0.out))
            have hN863 : way.length ≤ 9223372036854775807 := by omega
            clear a1 a2 a3 hNN
            go_wp2
            go_ret
            exact FN.out
        · have hjL : j = L.length := by omega
          have RQ := Lib.hid (show r = (ej, (m', s')) by
            have h := CO.out
            rw [hjL, List.drop_length] at h
            exact h)
          have dl : decide ((j : Int) < (L.length : Int)) = false := by simp; omega
          have dl2 : decide (j < L.length) = false := by simp; omega
          clear CO hjL hlt
          have FWX := Lib.hid (And.intro (F7.out) (C7.out))
          obtain ⟨q8, c8, a1, a2, a3⟩ := (K7.out).way
          have PP := Lib.hid (fun hc => Wk.pop M (K7.out) (q := q8) (cap := c8) hc)
          obtain ⟨b8, o8, hq8⟩ : ∃ b o, q8 = some ⟨b, o, none⟩ := by
            rcases a2.2 with ⟨_, hn⟩ | ⟨g, cp, cur, hv, _⟩
            · rw [List.length_append, List.length_singleton] at hn; omega
            · injection hv with hv _ _; exact ⟨g, 0, hv⟩
          subst hq8
          have hN8 : (way ++ [pl]).length = way.length + 1 := by rw [List.length_append, List.length_singleton]
          have hr8 : (way ++ [pl]).length ≤ c8 := own_room8 a2
          obtain ⟨N8, hNN⟩ : ∃ n, n = (way ++ [pl]).length := ⟨_, rfl⟩
          rw [← hNN] at a1 PP hN8 hr8
          have hsub8 : (N8 : Int) - 1 = (way.length : Int) := by omega
          have CH := cut_hi (T := 85) (k := 1) (by kernel_rfl) (fun W => by kernel_rfl) b8 o8 N8 c8 way.length .i64 (by omega)
          have w8 := a1.c
          have f8 := a1.f
          have l8 := a1.lt
          have FN := Lib.hid (show VOut S Fine z xs Inv F W _ way r (.returned (.int .i64 ej)) by
            have h := PP.out w8
            have hf := FWX.out
            rw [RQ.out]
            exact VOut.at h.1 hf.1 (⟨h.2.os.trans hf.2.os, h.2.tape.trans hf.2.tape, h.2.output.trans hf.2.output, Nat.le_trans hf.2.size h.2.size, fun i hi hn => (h.2.block i (Nat.lt_of_lt_of_le hi hf.2.size) (fun e => (hf.1 i e).elim hn (fun e => by omega))).trans (hf.2.block i hi hn)⟩) (fun h => ⟨hm', FJ.out (.inr h)⟩))
          have hN863 : way.length ≤ 9223372036854775807 := by omega
          clear a1 a2 a3 hNN
          go_wp2
          go_ret
          exact FN.out
end
end Go.Proofs.Ytblfighfahffkaa
