/- Parts of the proof, put together: Dwn, TrK, TrLs, Srt, RAll, AllOne, TrL, TrMay, Put. No condition beyond those that each part names. -/
import Derived.Shelf.Small.Bits
import Derived.Shelf.Small.Strs
import Derived.Shelf.Strconv.Itoa0
import Derived.Shelf.Strings.Search1
import Derived.Shelf.Bytes.SlIndexAt
import Derived.Shelf.Bytes.SlSearch0
import Derived.Ground.SlbCloneProg
import Derived.Shelf.Bytes.SlClone
import Derived.Shelf.Bytes.IndexByte
import Derived.Test.YtbnnlbdjjpmgeaaGreatProg
import Derived.Test.YtbnnlbdjjpmgeaaGreatRows
import Derived.WalkKit
import Derived.WalkSpells
import Derived.WalkLawsBesides
import Derived.BigQuiet
import Derived.Deep.QuietTactic
import Derived.Lib.Hide
import Derived.IntWalk
import Derived.OneCell
import Derived.Laws.Rows
import Derived.OpenShut
import Derived.ProofKit
import Derived.Lib.EndianBits
import Derived.RegionTactic
import Derived.ChangeAlike
import Derived.WalkMore
import Derived.Laws.BytesArg
import Derived.Shelf.Bytes.SlEqualAll
import Derived.Lib.SlFresh
import Derived.Maps.AppendAt
import Derived.Deep.AppendSrc
import Derived.Deep.Upon
import Derived.Lib.AppendZeros
import Derived.Laws.IdiomStrings
import Derived.Lib.AppendZerosOnto
import Derived.Laws.StructEq
import Derived.Below
import Derived.Shelf.Abstract
import Derived.Laws.ResultCell
import Derived.Deep.Slices
import Derived.ChangeSame
import Derived.Laws.OwnMore
import Derived.Laws.Slices
import Derived.Lib.ConvBytes
import Derived.StringKeys
import Derived.Maps.Own
import Derived.Maps.OwnOps
import Derived.Maps.OwnSet
import Derived.WideShapes
import Derived.Deep.Cut
import Derived.Deep.CutRange
import Derived.PlainAid
import Derived.Lib.SlBytesRow
import Derived.Deep.Onto
import Derived.Laws.EntriesVeiled
import Derived.Shelf.SlSortCmp.WholeK
import Derived.Shelf.SlGeneric
import Derived.Ground.SlsfProg
import Derived.Deep.LoopGhost
import Derived.StillTailTactics
import Derived.Deep.RegionWith
import Derived.Deep.RegionHeld3
import Derived.Lib.SmallJoins
import Derived.Laws.Bits128
import Derived.Test.YtbnnlbdjjpmgeaaGreatPT1
import Derived.Test.YtbnnlbdjjpmgeaaGreatPT2
import Derived.Test.YtbnnlbdjjpmgeaaGreatPT4
import Derived.Test.YtbnnlbdjjpmgeaaGreatPT5
import Derived.Test.YtbnnlbdjjpmgeaaGreatPT6
namespace Go.Proofs.YtbnnlbdjjpmgeaaGreat
open Go.RowKit
variable {w w' W V : World}

def WkR (w : World) (k : Nat) (bv : Value) (m : Int) (ov : Value) : Prop := w.heap[k]? = some (.cells #[bv, .int .i64 m, ov] 93 (0, 0))
section
variable {k : Nat} {bv ov : Value} {m : Int}
theorem WkR.kept {r : Option Nat} (h : WkR w k bv m ov) (hg : w.grownBy w' r) (hr : r ≠ some k) : WkR w' k bv m ov := (hg.block k (lt_of_block h) (fun e => hr e.symm)).trans h
theorem WkR.lt (h : WkR w k bv m ov) : k < w.heap.size := lt_of_block h
theorem WkR.fz (h : WkR w k bv m ov) (i : Nat) : w.frozen? ⟨k, i, none⟩ = false := free_of h
theorem WkR.c (h : WkR w k bv m ov) : w.cell? ⟨k, 0, none⟩ = some bv ∧ w.cell? ⟨k, 1, none⟩ = some (.int .i64 m) ∧ w.cell? ⟨k, 2, none⟩ = some ov := by
  refine ⟨?_, ?_, ?_⟩ <;> (rw [cell_of h]; rfl)
theorem WkR.met (h : WkR w k bv m ov) (n : Int) : WkR (w.setCell ⟨k, 1, none⟩ (.int .i64 n)) k bv n ov := by unfold WkR; rw [heap_setCell_same w k 1 _ _ _ h]; rfl
theorem WkR.out (h : WkR w k bv m ov) (v : Value) : WkR (w.setCell ⟨k, 2, none⟩ v) k bv m v := by unfold WkR; rw [heap_setCell_same w k 2 _ _ _ h]; rfl
end
structure DnI (wk : Nat) (bv : Value) (W : World) (F : Nat → Prop) (m : Nat) (out : Out) : Prop where
  ex : ∃ q c, WkR W wk bv (m : Nat) (.slice q out.length c) ∧ W.ownsRow 0 28 7 (.slice q out.length c) out.length (out.flatMap outCs) ∧ ∀ g, (Value.slice q out.length c).ownBlock = some g → F g
  fw : F wk
  fb : ∀ k, F k → k < W.heap.size
structure DnOut (wk : Nat) (bv : Value) (F : Nat → Prop) (W W' : World) (r : Int × (Nat × Out)) (e : Ending) : Prop where
  ret : e = .returned (.int .i64 r.1)
  ex : ∃ F', DnI wk bv W' F' r.2.1 r.2.2 ∧ ∀ k, F' k → F k ∨ W.heap.size ≤ k
  chg : Chg F W W'
  few : r.1 = 0 → r.2.1 ≤ 8192 ∧ r.2.2.length ≤ 4096
section
variable {wk : Nat} {bv : Value} {F : Nat → Prop} {m : Nat} {out : Out}
theorem DnI.grown (h : DnI wk bv W F m out) (hg : W.grownBy V none) : DnI wk bv V F m out := by
  obtain ⟨⟨q, c, h1, h2, h3⟩, h4, h5⟩ := h
  exact ⟨⟨q, c, h1.kept hg (by simp), own_grown h2 hg, h3⟩, h4, fun k hk => Nat.lt_of_lt_of_le (h5 k hk) hg.size⟩
theorem DnI.met (h : DnI wk bv W F m out) (n : Nat) {N : Int} (hN : N = (n : Nat)) : DnI wk bv (W.setCell ⟨wk, 1, none⟩ (.int .i64 N)) F n out := by
  subst hN
  obtain ⟨⟨q, c, h1, h2, h3⟩, h4, h5⟩ := h
  have g := grown_setCell (i := 1) (grown_refl W (some wk)) (.int .i64 n)
  exact ⟨⟨q, c, h1.met _, h2.kept g (.inr (own_ne h2 h1 (by decide))), h3⟩, h4, fun k hk => Nat.lt_of_lt_of_le (h5 k hk) g.size⟩
theorem DnI.chg1 (h : DnI wk bv W F m out) (i : Nat) (v : Value) : Chg F W (W.setCell ⟨wk, i, none⟩ v) :=
  Chg.of_grown (grown_setCell (grown_refl W (some wk)) v) (fun b e => by injection e with e; exact .inl (e ▸ h.fw))
theorem DnOut.at {F0 : Nat → Prop} {W0 : World} {r : Int} (h : DnI wk bv V F m out) (hF : ∀ k, F k → F0 k ∨ W0.heap.size ≤ k) (hg : Chg F0 W0 V) (hm : r = 0 → m ≤ 8192 ∧ out.length ≤ 4096) : DnOut wk bv F0 W0 V (r, (m, out)) (.returned (.int .i64 r)) :=
  ⟨rfl, ⟨F, h, hF⟩, hg, hm⟩
end
variable {b o c : Nat} {xs : List Int}
structure Boxed (p : Prop) : Prop where
  opened : p
def rk (n : Nat) (p : Int) : Int := if p < n then p else -1
set_option maxRecDepth 20000 in
theorem down_long {wk : Nat} {bv : Value} {F : Nat → Prop} {m : Nat} {out : Out} (name : List Int) (at' : Int) (wv : Value) (hn : 255 < name.length) (hn2 : name.length ≤ 510) (hm : m ≤ 8192) (h : DnI wk bv W F m out) :
    Calls Tryz.prog 37 #[.pointer (some ⟨wk, 0, none⟩), .int .i64 at', .string (strOfNums name), wv] W fun e W' => DnOut wk bv F W W' (10, (m + 1, out)) e := by
  obtain ⟨q, cq, h1, h2, h3⟩ := h.ex
  obtain ⟨c0, c1, c2⟩ := h1.c
  have f1 := h1.fz 1
  have hl1 := h1.lt
  have hsz : (strOfNums name).size = name.length := strOfNums_size _
  have FN := Lib.hid (fun (N : Int) (hN : N = (m + 1 : Nat)) => DnOut.at (r := 10) (h.met (m + 1) hN) (fun k hk => .inl hk) (h.chg1 1 (.int .i64 N)) (fun e => by cases e))
  obtain ⟨nl, hnl⟩ : ∃ nl, nl = name.length := ⟨_, rfl⟩
  rw [← hnl] at hsz hn hn2
  have dn : decide ((255 : Int) < (nl : Int)) = true := by simp; omega
  generalize strOfNums name = SN at *
  clear h hnl h1 h2 h3
  go_enter Tryz.func37, Tryz.ntmps37
  go_wp2
  go_ret
  exact FN.out _ (by omega)
theorem rk_mem {n : Nat} {p : Int} {way : List Int} (hw : ∀ x ∈ way, 0 ≤ x ∧ x < n) : decide (rk n p ∈ way) = decide (p ∈ way) := by
  unfold rk
  by_cases h : p < n
  · rw [if_pos h]
  · rw [if_neg h, decide_eq_false (fun e => by have := hw _ e; omega), decide_eq_false (fun e => by have := hw _ e; omega)]
theorem flat1 (l : List Int) (j : Nat) (u : Value) (h : (l.flatMap intCs)[j]? = some u) : ∃ x, l[j]? = some x ∧ u = .int .i64 x := by
  have e : l.flatMap intCs = l.map (fun x => Value.int .i64 x) := by
    clear h
    induction l with
    | nil => rfl
    | cons x l ih => rw [List.flatMap_cons, ih]; rfl
  rw [e, List.getElem?_map] at h
  cases hx : l[j]? with
  | none => rw [hx] at h; cases h
  | some x => rw [hx] at h; injection h with h; exact ⟨x, rfl, h.symm⟩
theorem KidsR.chg {F : Nat → Prop} {q : Option Addr} {l : List Kid} (h : KidsR W q l) (hg : Chg F W V) (hf : ∀ g o, q = some ⟨g, o, none⟩ → ¬ F g) : KidsR V q l := fun i x hx => by
  obtain ⟨g, e, c0, c1⟩ := h i x hx
  exact ⟨g, e, cell_chg c0 hg (hf g 0 e), cell_chg c1 hg (hf g 0 e)⟩
theorem NodeR.chg {F : Nat → Prop} {g : Nat} {b : Bool} {nm : ByteArray} {x : Ex} {v : Value} (h : NodeR W g b nm x v) (hg : Chg F W V) (hf : ¬ F g) : NodeR V g b nm x v := (hg.block g (lt_of_block h) hf).trans h
theorem DnI.put {wk : Nat} {bv : Value} {F : Nat → Prop} {m g : Nat} {out : Out} (h : DnI wk bv W F m out) (hg : W.grownBy V (some g)) (hn : ¬ F g) : DnI wk bv V F m out := by
  obtain ⟨⟨q, c, h1, h2, h3⟩, h4, h5⟩ := h
  exact ⟨⟨q, c, h1.kept hg (by intro e; injection e with e; exact hn (e ▸ h4)), h2.kept hg (.inr (fun e => hn (h3 g e))), h3⟩, h4, fun k hk => Nat.lt_of_lt_of_le (h5 k hk) hg.size⟩
structure DnL (gn : Nat) (bb : Bool) (nm : ByteArray) (x : Ex) (v : Value) (qn : Option Addr) (L : List Kid) (q2 : Option Addr) (way : List Int) (F : Nat → Prop) (W : World) : Prop where
  nd : NodeR W gn bb nm x v
  fn : ¬ F gn
  kd : KidsR W qn L
  fk : ∀ g o, qn = some ⟨g, o, none⟩ → ¬ F g ∧ g < W.heap.size
  wy : IntAt W q2 way
  fw : ∀ g o, q2 = some ⟨g, o, none⟩ → ¬ F g ∧ g < W.heap.size
theorem DnL.next {gn : Nat} {bb : Bool} {nm : ByteArray} {x : Ex} {v : Value} {qn q2 : Option Addr} {L : List Kid} {way : List Int} {F F' : Nat → Prop} (h : DnL gn bb nm x v qn L q2 way F W) (hg : Chg F W V) (hF : ∀ k, F' k → F k ∨ W.heap.size ≤ k) : DnL gn bb nm x v qn L q2 way F' V := by
  have hl := h.nd.lt
  refine ⟨h.nd.chg hg h.fn, fun e => (hF gn e).elim h.fn (fun e => by omega), h.kd.chg hg (fun g o e => (h.fk g o e).1), fun g o e => ?_, h.wy.chg hg (fun g o e => (h.fw g o e).1), fun g o e => ?_⟩
  · have := h.fk g o e; have := hg.size
    exact ⟨fun e => (hF g e).elim (h.fk g o ‹_›).1 (fun e => by omega), by omega⟩
  · have := h.fw g o e; have := hg.size
    exact ⟨fun e => (hF g e).elim (h.fw g o ‹_›).1 (fun e => by omega), by omega⟩
def DnMid (wk : Nat) (bv : Value) (F : Nat → Prop) (W : World) (gn : Nat) (v : Value) (qn : Option Addr) (L : List Kid) (m : Nat) (out : Out) (V : World) : Prop :=
  ∃ F4 bb nm x, DnI wk bv V F4 m out ∧ (∀ k, F4 k → F k ∨ W.heap.size ≤ k) ∧ Chg F W V ∧ DnL gn bb nm x v qn L none [] F4 V
theorem chg_chain {F F' : Nat → Prop} {W1 W2 W3 : World} (h : Chg F W1 W2) (k : Chg F' W2 W3) (hF : ∀ i, F' i → F i ∨ W1.heap.size ≤ i) : Chg F W1 W3 :=
  ⟨k.os.trans h.os, k.tape.trans h.tape, k.output.trans h.output, Nat.le_trans h.size k.size, fun i hi hn => (k.block i (Nat.lt_of_lt_of_le hi h.size) (fun e => (hF i e).elim hn (fun e => by omega))).trans (h.block i hi hn)⟩
set_option maxRecDepth 20000 in
set_option maxHeartbeats 3200000 in
theorem down_any {wk : Nat} (hb : Byt xs) (hc : xs.length ≤ c) (hcm : c ≤ 9223372036854775807) (hbig : xs.length ≤ 140737488355328) : ∀ (k : Nat) (W : World) (F : Nat → Prop) (m : Nat) (way : List Int) (out : Out) (name : List Int) (pl : Int) (qw : Option Addr) (cw : Nat),
    256 ≤ k + name.length → name.length ≤ 510 → 0 ≤ pl → m ≤ 8192 → way.length ≤ name.length → out.length ≤ 4096 → (∀ x ∈ way, 0 ≤ x ∧ x < xs.length) → IntAt W qw way → (∀ g o, qw = some ⟨g, o, none⟩ → ¬ F g) →
    (∀ i, i < xs.length → W.cell? ⟨b, o + i, none⟩ = some (.int .u8 (xs.getD i 0))) → ¬ F b → b < W.heap.size → DnI wk (.slice (some ⟨b, o, none⟩) xs.length c) W F m out →
    Calls Tryz.prog 37 #[.pointer (some ⟨wk, 0, none⟩), .int .i64 (rk xs.length pl), .string (strOfNums name), .slice qw way.length cw] W fun e W' =>
      DnOut wk (.slice (some ⟨b, o, none⟩) xs.length c) F W W' (vis xs mtAll k way name pl (m, out)) e := by
  intro k
  induction k with
  | zero =>
    intro W F m way out name pl qw cw hk hn2 _ hm _ _ _ _ _ _ _ _ h
    exact down_long name _ _ (by omega) hn2 hm h
  | succ k ih =>
    intro W F m way out name pl qw cw hk hn2 hp0 hm hway hout hwr hwa hwf hx hbF hbl h
    by_cases hn : 255 < name.length
    · have e : vis xs mtAll (k + 1) way name pl (m, out) = (10, (m + 1, out)) := by unfold vis; rw [if_pos hn]
      rw [e]
      exact down_long name _ _ hn hn2 hm h
    have IH := Lib.hid ih
    obtain ⟨q0, cq0, x1, x2, x3⟩ := h.ex
    obtain ⟨c0, c1, c2⟩ := x1.c
    have f1 := x1.fz 1
    have hl1 := x1.lt
    have H1 := And.intro (h.met (m + 1) (N := (m : Int) + 1) (by omega)) (h.chg1 1 (.int .i64 ((m : Int) + 1)))
    have hwkF : F wk := h.fw
    obtain ⟨W1, hW1⟩ : ∃ W1, W.setCell ⟨wk, 1, none⟩ (.int .i64 ((m : Int) + 1)) = W1 := ⟨_, rfl⟩
    rw [hW1] at H1
    have HW1 := Lib.hid hW1
    have K1 := Lib.hid H1.1
    have C1 := Lib.hid H1.2
    have HX0 := Lib.hid hx
    have HWA0 := Lib.hid hwa
    have BL0 := Lib.hid hbl
    have HX1 := Lib.hid (fun i hi => cell_chg (hx i hi) H1.2 hbF)
    have HWA1 := Lib.hid (hwa.chg H1.2 hwf)
    have BL1 := Lib.hid (show b < W1.heap.size from Nat.lt_of_lt_of_le hbl H1.2.size)
    have SZ1 := Lib.hid H1.2.size
    clear hW1 H1 ih h x1 x2 x3 hwkF hx hwa hbl
    obtain ⟨r, hr⟩ : ∃ r, r = vis xs mtAll (k + 1) way name pl (m, out) := ⟨_, rfl⟩
    rw [← hr]
    have HR := Lib.hid (show r = if pl ∈ way then (12, (m + 1, out)) else if 8192 < m + 1 then (11, (m + 1, out)) else match ndAt xs pl with
      | none => (12, (m + 1, out))
      | some nd => visK (vis xs mtAll k (way ++ [pl])) name (mtAll out name nd).2.1 (mtAll out name nd).2.2 (m + 1, (mtAll out name nd).1) from hr.trans (vis_go hn))
    clear hr
    have hnl : name.length ≤ 255 := by omega
    have hsz : (strOfNums name).size = name.length := strOfNums_size _
    obtain ⟨SN, hSN⟩ : ∃ SN, SN = strOfNums name := ⟨_, rfl⟩
    obtain ⟨nl, hnl2⟩ : ∃ nl, nl = name.length := ⟨_, rfl⟩
    rw [← hSN] at hsz ⊢
    rw [← hnl2] at hsz hnl hn hn2 hk hway
    have HSN := Lib.hid hSN
    have HNL := Lib.hid hnl2
    clear hSN hnl2
    have dn : decide ((255 : Int) < (nl : Int)) = false := by simp; omega
    have CT := Lib.hid (has_any (w := W1) way way.length rfl (by omega) qw cw HWA1.out (rk xs.length pl))
    have RM := Lib.hid (rk_mem (n := xs.length) (p := pl) hwr)
    have HWR := Lib.hid hwr
    obtain ⟨at', hat⟩ : ∃ a, a = rk xs.length pl := ⟨_, rfl⟩
    rw [← hat] at CT RM ⊢
    have HAT := Lib.hid hat
    clear hat hwr
    go_enter Tryz.func37, Tryz.ntmps37
    go_upto_region 2 with fail
    rw [HW1.out]
    clear HW1 c0 c1 c2 f1 hl1
    go_wp2_with fail
    refine CT.out.mono ?_
    rintro e W1' ⟨rfl, hw'⟩
    have hw2 := hw'.symm
    subst hw2
    clear hw' CT
    rw [RM.out]
    by_cases hin : pl ∈ way
    · have FN := Lib.hid (DnOut.at (r := 12) K1.out (fun k hk => .inl hk) C1.out (fun e => by cases e))
      rw [if_pos hin] at HR
      rw [show decide (pl ∈ way) = true from decide_eq_true hin]
      clear hin
      go_wp2
      go_ret
      rw [HR.out]
      exact FN.out
    rw [if_neg hin] at HR
    rw [show decide (pl ∈ way) = false from decide_eq_false hin]
    clear hin RM
    obtain ⟨q1, cq1, y1, y2, y3⟩ := K1.out.ex
    obtain ⟨c0, c1, c2⟩ := y1.c
    clear y1 y2 y3
    by_cases hmm : 8192 < m + 1
    · have FN := Lib.hid (DnOut.at (r := 11) K1.out (fun k hk => .inl hk) C1.out (fun e => by cases e))
      rw [if_pos hmm] at HR
      have dm : decide ((8192 : Int) < ((m + 1 : Nat) : Int)) = true := by simp; omega
      have dm2 : decide ((8192 : Int) < (m : Int) + 1) = true := by simp; omega
      clear hmm
      go_wp2
      go_ret
      rw [HR.out]
      exact FN.out
    rw [if_neg hmm] at HR
    have dm : decide ((8192 : Int) < ((m + 1 : Nat) : Int)) = false := by simp; omega
    have dm2 : decide ((8192 : Int) < (m : Int) + 1) = false := by simp; omega
    by_cases hpl : pl < xs.length
    case neg =>
      have hnd : ndAt xs pl = none := by unfold ndAt; rw [if_neg (fun h => hpl h.2)]
      rw [hnd] at HR
      have da : decide (at' < 0) = true := by rw [HAT.out]; unfold rk; rw [if_neg hpl]; rfl
      have FN := Lib.hid (DnOut.at (r := 12) K1.out (fun k hk => .inl hk) C1.out (fun e => by cases e))
      clear hpl hnd
      go_wp2
      go_ret
      rw [HR.out]
      exact FN.out
    case pos =>
    obtain ⟨p, rfl⟩ : ∃ p : Nat, pl = (p : Int) := ⟨pl.toNat, by omega⟩
    have ha : at' = (p : Int) := by rw [HAT.out]; unfold rk; rw [if_pos hpl]
    subst ha
    have da : decide ((p : Int) < 0) = false := by simp
    have RD := Lib.hid (read9_any (w := W1) HX1.out hc hcm BL1.out hbig hb p (by omega))
    have PL := Lib.hid hpl
    clear hpl HAT
    go_wp2_with fail
    refine RD.out.mono ?_
    rintro e W2 ⟨hex, hg2⟩
    clear RD c0 c1 c2 dm dm2 da dn
    have K2 := Lib.hid (K1.out.grown hg2)
    have C2 := Lib.hid (C1.out.trans (Chg.of_grown hg2 (fun b e => by cases e)))
    have SZ2 := Lib.hid hg2.size
    have HX2 := Lib.hid (fun i hi => grown_cell hg2 (HX1.out i hi))
    have HWA2 := Lib.hid (HWA1.out.grown hg2)
    clear HX1 HWA1
    rcases hex with ⟨nd, v, hnd, rfl, ho⟩ | ⟨hnd, rfl⟩
    case inr =>
      rw [hnd] at HR
      have GZ := Lib.hid (fun (o : Obj) => And.intro (K2.out.grown (grown1 W2 o)) (C2.out.trans (Chg.of_grown (grown1 W2 o) (fun b e => by cases e))))
      have FN := Lib.hid (fun (o : Obj) => DnOut.at (r := 12) (GZ.out o).1 (fun k hk => .inl hk) (GZ.out o).2 (fun e => by cases e))
      clear hnd hg2
      unfold nodeV
      go_wp2
      go_ret
      rw [HR.out]
      exact FN.out _
    case inl =>
      rw [hnd] at HR
      have NK := Lib.hid (ndAt_ok hb hnd)
      obtain ⟨qn, cn, rfl⟩ := own_slice ho
      have KF := Lib.hid K1.out.fb
      have NV := Lib.hid (fun g (e : (Value.slice qn nd.kids.length cn).ownBlock = some g) => (ho.lt g e))
      have HC := Lib.hid (HR.out)
      simp only [] at HC
      clear HR hnd
      have g3 := grown1 W2 (.cells #[.bool nd.ex.isSome, .string ⟨#[]⟩, .int .i64 (exOf nd.ex).kind, .bool (exOf nd.ex).weak, .int .u64 (exOf nd.ex).value, .int .u64 (exOf nd.ex).resolver, .int .u64 (exOf nd.ex).ordinal, .string (strOfNums (exOf nd.ex).other), .slice qn nd.kids.length cn] 147)
      have N3 := Lib.hid (show NodeR (W2.alloc (.cells #[.bool nd.ex.isSome, .string ⟨#[]⟩, .int .i64 (exOf nd.ex).kind, .bool (exOf nd.ex).weak, .int .u64 (exOf nd.ex).value, .int .u64 (exOf nd.ex).resolver, .int .u64 (exOf nd.ex).ordinal, .string (strOfNums (exOf nd.ex).other), .slice qn nd.kids.length cn] 147)) W2.heap.size nd.ex.isSome ⟨#[]⟩ (exOf nd.ex) (.slice qn nd.kids.length cn) from heap_alloc_new W2 _)
      have K3 := Lib.hid (K2.out.grown g3)
      have C3 := Lib.hid (C2.out.trans (Chg.of_grown g3 (fun b e => by cases e)))
      have O3 := Lib.hid (own_grown ho g3)
      have HX3 := Lib.hid (fun i hi => grown_cell g3 (HX2.out i hi))
      have HWA3 := Lib.hid (HWA2.out.grown g3)
      unfold nodeV
      obtain ⟨nb, hnb⟩ : ∃ x, x = nd.ex.isSome := ⟨_, rfl⟩
      obtain ⟨nx, hnx⟩ : ∃ x, x = exOf nd.ex := ⟨_, rfl⟩
      obtain ⟨kl, hkl⟩ : ∃ x, x = nd.kids.length := ⟨_, rfl⟩
      rw [← hnb, ← hnx, ← hkl] at N3 K3 C3 O3 HX3 HWA3
      rw [← hkl] at NV
      rw [← hnb, ← hnx, ← hkl]
      have EQ := Lib.hid (And.intro hnb (And.intro hnx hkl))
      clear hnb hnx hkl g3 ho K2 C2 hg2 HX2 HWA2
      obtain ⟨W3, hW3⟩ : ∃ W3, W2.alloc (.cells #[.bool nb, .string ⟨#[]⟩, .int .i64 nx.kind, .bool nx.weak, .int .u64 nx.value, .int .u64 nx.resolver, .int .u64 nx.ordinal, .string (strOfNums nx.other), .slice qn kl cn] 147) = W3 := ⟨_, rfl⟩
      obtain ⟨gn, hgn⟩ : ∃ gn, W2.heap.size = gn := ⟨_, rfl⟩
      rw [hW3] at N3 K3 C3 O3 HX3 HWA3
      rw [hgn] at N3
      have HW3 := Lib.hid hW3
      have HGN := Lib.hid hgn
      have HGN2 := Lib.hid hgn
      clear hW3 hgn
      go_upto_region 11 with fail
      rw [HW3.out, HGN.out]
      clear HW3 HGN
      obtain ⟨d0, d1, d2, d3, d4, d5, d6, d7, d8⟩ := N3.out.c
      have dl := N3.out.lt
      have GF := Lib.hid (show ¬ F gn from fun e => by have := KF.out gn e; have := HGN2.out; have := SZ2.out; omega)
      have KD3 := Lib.hid (KidsR.of (l := nd.kids.map (rkid xs.length)) O3.out)
      have KB3 := Lib.hid (show ∀ g o, qn = some ⟨g, o, none⟩ → ¬ F g ∧ g < W3.heap.size from fun g o e => by
        have h1 := NV.out g (by rw [e]; rfl)
        refine ⟨fun e => by have := KF.out g e; omega, ?_⟩
        have := HGN2.out; have := N3.out.lt; omega)
      go_upto_if 46 with fail
      go_cut [] from 47 to 60 (fun wx => DnMid wk (.slice (some ⟨b, o, none⟩) xs.length c) F W gn (.slice qn kl cn) qn (nd.kids.map (rkid xs.length)) (m + 1) (outN out name nd) wx)
      case first =>
        cases hex : nd.ex with
        | none =>
          have e0 : nb = false := by rw [EQ.out.1, hex]; rfl
          subst e0
          have hO : outN out name nd = out := by unfold outN; rw [hex]
          have RL := Lib.hid (show DnMid wk (.slice (some ⟨b, o, none⟩) xs.length c) F W gn (.slice qn kl cn) qn (nd.kids.map (rkid xs.length)) (m + 1) (outN out name nd) W3 from by
            rw [hO]
            exact ⟨F, false, ⟨#[]⟩, nx, K3.out, fun k hk => .inl hk, C3.out, ⟨N3.out, GF.out, KD3.out, KB3.out, IntAt.nil, fun g o e => by cases e⟩⟩)
          clear hO hex
          go_wp2
          go_meet
          exact RL.out
        | some x =>
          have e0 : nb = true := by rw [EQ.out.1, hex]; rfl
          have e1 : nx = x := by rw [EQ.out.2.1, hex]; rfl
          subst e0 e1
          have hO : outN out name nd = out ++ [(name, nx)] := by unfold outN; rw [hex]
          have HO := Lib.hid hO
          clear hO hex
          have g4 := grown_setCell (i := 1) (grown_refl W3 (some gn)) (.string SN)
          have k4 := K3.out.put g4 GF.out
          have n4 := N3.out.s1 SN
          have c4 := chg_chain C3.out (Chg.of_grown (F := fun k => k = gn) g4 (fun b e => by injection e with e; exact .inl e.symm)) (fun i e => by right; rw [e]; have := HGN2.out; have := SZ2.out; have := SZ1.out; omega)
          have df := N3.out.fz 1
          have kd4 : KidsR (W3.setCell ⟨gn, 1, none⟩ (.string SN)) qn (nd.kids.map (rkid xs.length)) := fun i y hy => by
            obtain ⟨g, e, a0, a1⟩ := KD3.out i y hy
            have h1 := NV.out g (by rw [e]; rfl)
            have hne : some g ≠ some gn := by intro e; injection e with e; have := HGN2.out; omega
            exact ⟨g, e, g4.cell a0 hne, g4.cell a1 hne⟩
          have hs4 := g4.size
          obtain ⟨W4, hW4⟩ : ∃ W4, W3.setCell ⟨gn, 1, none⟩ (.string SN) = W4 := ⟨_, rfl⟩
          rw [hW4] at g4 k4 n4 c4 kd4 hs4
          have HW4 := Lib.hid hW4
          have KD4 := Lib.hid kd4
          have C4 := Lib.hid c4
          have N4 := Lib.hid n4
          have K4 := Lib.hid k4
          have S4 := Lib.hid hs4
          have L4 := Lib.hid (show gn < W4.heap.size from n4.lt)
          clear hW4 g4 kd4 c4 hs4
          go_upto_region 15 with fail
          rw [HW4.out]
          clear HW4 df d0 d1 d2 d3 d4 d5 d6 d7 d8 dl
          obtain ⟨q4, cq4, y1, y2, y3⟩ := k4.ex
          obtain ⟨c0, c1, c2⟩ := y1.c
          have f2 := y1.fz 2
          have wl := y1.lt
          obtain ⟨d0, d1, d2, d3, d4, d5, d6, d7, d8⟩ := n4.c
          have dl := n4.lt
          have hsn : exCs SN nx = outCs (name, nx) := by unfold outCs; rw [HSN.out]
          have gA : W4.grownBy (W4.drew.alloc (.cells (exCs SN nx).toArray 28 (0, 0))) none := grown_trans (grown_drewN (grown_refl W4 none) 1) (grown1 W4.drew _)
          have OWA := Lib.hid (own_grown y2 gA)
          have HNA := Lib.hid (show (W4.drew.alloc (.cells (exCs SN nx).toArray 28 (0, 0))).heap[W4.drew.heap.size]? = some (.cells (exCs SN nx).toArray 28 (0, 0)) from heap_alloc_new W4.drew _)
          have ONE := Lib.hid (exCs_one SN nx)
          have WKA := Lib.hid (y1.kept gA (by simp))
          have WNE := Lib.hid (own_ne y2 y1 (by decide))
          have GA := Lib.hid gA
          have Y3 := Lib.hid y3
          have FIN := Lib.hid (fun (v5 : Value) (w5 : World) (ho5 : w5.ownsRow 0 28 7 v5 (out.length + 1) (out.flatMap outCs ++ exCs SN nx)) (hg5 : (W4.drew.alloc (.cells (exCs SN nx).toArray 28 (0, 0))).grownBy w5 (Value.slice q4 out.length cq4).ownBlock) (hv5 : v5.ownBlock = (Value.slice q4 out.length cq4).ownBlock ∨ v5.ownBlock = some (W4.drew.alloc (.cells (exCs SN nx).toArray 28 (0, 0))).heap.size) =>
            (show DnMid wk (.slice (some ⟨b, o, none⟩) xs.length c) F W gn (.slice qn kl cn) qn (nd.kids.map (rkid xs.length)) (m + 1) (outN out name nd) (w5.setCell ⟨wk, 2, none⟩ v5) from by
              obtain ⟨q5, c5, rfl⟩ := own_slice ho5
              have w5k := WKA.out.kept hg5 WNE.out
              have ne5 := own_ne ho5 w5k (by decide)
              have g6 := grown_setCell (i := 2) (grown_refl w5 (some wk)) (.slice q5 (out.length + 1) c5)
              have hsz5 : W4.heap.size ≤ w5.heap.size := Nat.le_trans GA.out.size hg5.size
              have hF5 : ∀ g, (Value.slice q5 (out.length + 1) c5).ownBlock = some g → F g ∨ W4.heap.size < g := fun g e => by
                rcases hv5 with h | h
                · rw [h] at e; exact .inl (Y3.out g e)
                · rw [h] at e; injection e with e; right; rw [World.size_alloc] at e; have : W4.drew.heap.size = W4.heap.size := rfl; omega
              have ch : Chg F W4 (w5.setCell ⟨wk, 2, none⟩ (.slice q5 (out.length + 1) c5)) :=
                ((Chg.of_grown GA.out (fun b e => by cases e)).trans (Chg.of_grown hg5 (fun b e => .inl (Y3.out b e)))).trans (Chg.of_grown g6 (fun b e => by injection e with e; exact .inl (e ▸ K4.out.fw)))
              have o6 := ho5.kept g6 (.inr ne5)
              rw [hsn] at o6
              have hlen : (outN out name nd).length = out.length + 1 := by rw [HO.out]; simp
              refine ⟨fun k => F k ∨ (Value.slice q5 (out.length + 1) c5).ownBlock = some k, true, SN, nx, ⟨⟨q5, c5, ?_, ?_, ?_⟩, .inl K4.out.fw, ?_⟩, ?_, ?_, ?_⟩
              · rw [hlen]; exact w5k.out _
              · rw [hlen, HO.out, List.flatMap_append, List.flatMap_singleton]; exact o6
              · rw [hlen]; exact fun g e => .inr e
              · intro k hk
                rcases hk with hk | hk
                · exact Nat.lt_of_lt_of_le (K4.out.fb k hk) ch.size
                · exact (o6.lt k hk).2
              · intro k hk
                rcases hk with hk | hk
                · exact .inl hk
                · rcases hF5 k hk with h | h
                  · exact .inl h
                  · right; have := C4.out.size; omega
              · exact C4.out.trans ch
              · have hq : ∀ g o, qn = some ⟨g, o, none⟩ → ¬ F g ∧ g < W4.heap.size := fun g o e => ⟨(KB3.out g o e).1, by have := (KB3.out g o e).2; have := S4.out; omega⟩
                refine ⟨N4.out.chg ch GF.out, ?_, KD4.out.chg ch (fun g o e => (hq g o e).1), ?_, IntAt.nil, fun g o e => by cases e⟩
                · rintro (h | h)
                  · exact GF.out h
                  · rcases hF5 gn h with h | h
                    · exact GF.out h
                    · have := L4.out; omega
                · intro g o e
                  have := hq g o e
                  have := ch.size
                  refine ⟨?_, by omega⟩
                  rintro (h | h)
                  · exact (hq g o e).1 h
                  · rcases hF5 g h with h | h
                    · exact (hq g o e).1 h
                    · omega))
          clear gA y1 y2 y3 hsn k4 n4
          go_region_law (refine step_append_sta exType (by with_reducible rfl) _ _ (by with_reducible rfl) _ out.length 1 (out.flatMap outCs) (by rfl) OWA.out (exCs SN nx) rfl W4.drew.heap.size (by rfl) HNA.out ONE.out (by omega) (by decide) (Nat.zero_le _) ?_; intro v5 w5 ho5 hg5 hv5; obtain ⟨q5, c5, rfl⟩ := own_slice ho5; have c2' := (WKA.out.kept hg5 WNE.out).c.2.2; have f2' := (WKA.out.kept hg5 WNE.out).fz 2; have wl' := (WKA.out.kept hg5 WNE.out).lt; have FI := Lib.hid (FIN.out _ w5 ho5 hg5 hv5); clear ho5 hg5 hv5)
          all_goals
            go_wp2
            go_meet
            exact FI.out
      case rest =>
        obtain ⟨F4, bb4, nm4, x4, k4, hF4, hC4, hL4⟩ := hcut
        have K4 := Lib.hid k4
        have F4H := Lib.hid hF4
        have C4 := Lib.hid hC4
        have L4 := Lib.hid hL4
        clear hL4 hC4 hF4 k4 d0 d1 d2 d3 d4 d5 d6 d7 d8 dl K3 C3 N3 O3 HX3 HWA3 NV KD3 KB3 GF HGN2
        obtain ⟨OUT, hOUT⟩ : ∃ O, O = outN out name nd := ⟨_, rfl⟩
        have hmt : mtAll out name nd = if 4096 < OUT.length then (OUT, [], 11) else (OUT, nd.kids, 0) := by rw [hOUT]; rfl
        rw [hmt] at HC
        rw [← hOUT] at K4
        clear hmt hOUT
        obtain ⟨q4, cq4, y1, y2, y3⟩ := K4.out.ex
        obtain ⟨c0, c1, c2⟩ := y1.c
        clear y1 y2 y3
        by_cases hmany : 4096 < OUT.length
        · have dm : decide ((4096 : Int) < (OUT.length : Int)) = true := by simp; omega
          rw [if_pos hmany] at HC
          have FN := Lib.hid (DnOut.at (r := 11) K4.out F4H.out C4.out (fun e => by cases e))
          clear hmany
          go_wp2
          go_ret
          rw [HC.out]
          exact FN.out
        have dm : decide ((4096 : Int) < (OUT.length : Int)) = false := by simp; omega
        rw [if_neg hmany] at HC
        have HMANY := Lib.hid hmany
        clear hmany
        go_upto_region 18 with fail
        clear dm c0 c1 c2
        have HW4' := Lib.hid (fun j u (hu : (way.flatMap intCs)[j]? = some u) => (show ∃ g o', qw = some ⟨g, o', none⟩ ∧ wc.cell? ⟨g, o' + j, none⟩ = some u from by
          obtain ⟨y, hy, rfl⟩ := flat1 way j u hu
          obtain ⟨g, e, h0⟩ := HWA0.out j y hy
          exact ⟨g, 0, e, by rw [Nat.zero_add]; exact cell_chg h0 C4.out (hwf g 0 e)⟩))
        have HL1 := Lib.hid (show (way.flatMap intCs).length = way.length * 1 from flat_len (f := intCs) (fun _ => rfl) way)
        have HO1 := Lib.hid (show ∀ u ∈ way.flatMap intCs, u.oneCell' = true from fun u hu => by
          obtain ⟨j, hj, e⟩ := List.getElem_of_mem hu
          obtain ⟨y, _, rfl⟩ := flat1 way j u (by rw [← e]; exact List.getElem?_eq_getElem hj)
          rfl)
        go_wp2_with (at_builtin; refine wp_append_rows intType rfl _ _ rfl rfl (.slice none 0 0) 0 [] rfl (World.ownsRow_nil _ wc.heap.size 3 1) qw way.length cw rfl (way.flatMap intCs) HL1.out HW4'.out HO1.out (by omega) (by decide) (Nat.le_refl _) ?_)
        intro v1 w5 ho5 hg5 hv5
        try rw [Nat.zero_add] at ho5
        try rw [List.nil_append] at ho5
        have G5 := Lib.hid (show wc.grownBy w5 none from hg5)
        obtain ⟨q5, c5, rfl⟩ := own_slice ho5
        have g6 := grown1 w5 (.cells #[.int .i64 (p : Int)] 3)
        have O6 := Lib.hid (own_grown ho5 g6)
        have N6 := Lib.hid (heap_alloc_new w5 (.cells #[.int .i64 (p : Int)] 3))
        have G6 := Lib.hid (grown_trans G5.out g6)
        clear ho5 hg5 hv5 g6 HW4' HL1 HO1
        go_wp2_with (at_builtin; refine wp_append_sta intType rfl _ _ rfl _ way.length _ rfl O6.out [.int .i64 (p : Int)] rfl w5.heap.size rfl N6.out (fun u hu => by simp at hu; subst hu; rfl) (by omega) (by decide) ?_ ?_)
        · have := G6.out.size; exact this
        intro v2 w7 ho7 hg7 hv7
        obtain ⟨q7, c7, rfl⟩ := own_slice ho7
        have G7 := Lib.hid (grown_opt G6.out hg7 (fun g e => (O6.out.lt g e).1))
        have hfl : way.flatMap intCs ++ [.int .i64 (p : Int)] = (way ++ [(p : Int)]).flatMap intCs := by rw [List.flatMap_append, List.flatMap_singleton]; rfl
        rw [hfl] at ho7
        have O7 := Lib.hid ho7
        have L7 := Lib.hid (show DnL gn bb4 nm4 x4 (.slice qn kl cn) qn (nd.kids.map (rkid xs.length)) q7 (way ++ [(p : Int)]) F4 w7 from by
          have h := L4.out.next (F' := F4) (Chg.of_grown G7.out (fun b e => by cases e)) (fun k hk => .inl hk)
          refine ⟨h.nd, h.fn, h.kd, h.fk, IntAt.of O7.out, fun g o e => ?_⟩
          have h1 := O7.out.lt g (by rw [e]; rfl)
          exact ⟨fun e => by have := K4.out.fb g e; omega, h1.2⟩)
        have K7 := Lib.hid (K4.out.grown G7.out)
        have C7 := Lib.hid (C4.out.trans (Chg.of_grown G7.out (fun b e => by cases e)))
        clear ho7 hg7 hv7 hfl O6 N6 G6 G5 K4 L4 C4
        go_upto_region 20 with fail
        go_loopw [12, 13] (fun i er wr => Boxed (∃ (j : Nat) (F' : Nat → Prop) (m' : Nat) (out' : Out), j ≤ nd.kids.length ∧ i = .int .i64 j ∧ DnI wk (.slice (some ⟨b, o, none⟩) xs.length c) wr F' m' out' ∧ (∀ k, F' k → F k ∨ W.heap.size ≤ k) ∧ Chg F W wr ∧ DnL gn bb4 nm4 x4 (.slice qn kl cn) qn (nd.kids.map (rkid xs.length)) q7 (way ++ [(p : Int)]) F' wr ∧ Hid (r = visK (vis xs mtAll k (way ++ [(p : Int)])) name (nd.kids.drop j) 0 (m', out')) ∧ m' ≤ 8192 ∧ out'.length ≤ 4096)) (fun i _ _ => nd.kids.length - (intOf i).toNat)
        case atStart => exact Boxed.mk ⟨0, F4, m + 1, OUT, Nat.zero_le _, rfl, K7.out, F4H.out, C7.out, L7.out, Lib.hid HC.out, by omega, by have := HMANY.out; omega⟩
        case round =>
          obtain ⟨j, F', m', out', hj, rfl, hK, hF', hC, hL, CO, hm', ho'⟩ := hrel.opened
          have K8 := Lib.hid hK
          have F8 := Lib.hid hF'
          have C8 := Lib.hid hC
          have L8 := Lib.hid hL
          clear hK hF' hC hL
          have d8 := L8.out.nd.c.2.2.2.2.2.2.2.2
          have dl := L8.out.nd.lt
          by_cases hlt : j < nd.kids.length
          · obtain ⟨x, hx⟩ : ∃ x, nd.kids[j]? = some x := ⟨_, List.getElem?_eq_getElem hlt⟩
            have KO := Lib.hid (NK.out.kids.each x (List.mem_of_getElem? hx))
            have CO2 := Lib.hid (show r = if (vis xs mtAll k (way ++ [(p : Int)]) (name ++ x.1) x.2 (m', out')).1 ≠ 0 then vis xs mtAll k (way ++ [(p : Int)]) (name ++ x.1) x.2 (m', out') else visK (vis xs mtAll k (way ++ [(p : Int)])) name (nd.kids.drop (j + 1)) 0 (vis xs mtAll k (way ++ [(p : Int)]) (name ++ x.1) x.2 (m', out')).2 by
              obtain ⟨hjj, he⟩ := List.getElem?_eq_some_iff.1 hx
              have h := CO.out
              rw [List.drop_eq_getElem_cons hjj, he] at h
              exact h)
            have hxL : (nd.kids.map (rkid xs.length))[j]? = some (rkid xs.length x) := by rw [List.getElem?_map, hx]; rfl
            obtain ⟨gq, rfl, c0, c1⟩ := L8.out.kd j _ hxL
            obtain ⟨xe, xp⟩ := x
            have hr1 : (rkid xs.length (xe, xp)).1 = xe := rfl
            have hr2 : (rkid xs.length (xe, xp)).2 = rk xs.length xp := rfl
            rw [hr1] at c0
            rw [hr2] at c1
            have hcat : SN ++ strOfNums xe = strOfNums (name ++ xe) := by rw [HSN.out, strOfNums_app]
            simp only [] at KO CO2
            have X1 := Lib.hid (show 1 ≤ xe.length by
              have h := KO.out.ne
              cases xe with
              | nil => exact absurd rfl h
              | cons => simp)
            have hsx : (strOfNums xe).size = xe.length := strOfNums_size _
            have hxl : xe.length ≤ 255 := KO.out.len
            have hkf : kl ≤ 255 := by rw [EQ.out.2.2]; exact NK.out.few
            have hjn : j < kl := by rw [EQ.out.2.2]; exact hlt
            have KLH := Lib.hid EQ.out.2.2
            have hcl : ¬ 9223372036854775807 < nl + xe.length := by omega
            have dj : decide ((j : Int) < (kl : Int)) = true := by simp; omega
            have hjl : (j : Int) < (kl : Int) := by omega
            have gD : wr.grownBy wr.drew none := grown_drewN (grown_refl wr none) 1
            have KD := K8.out.grown gD
            have CD := C8.out.trans (Chg.of_grown gD (fun b e => by cases e))
            have LD := L8.out.next (F' := F') (Chg.of_grown gD (fun b e => by cases e)) (fun k hk => .inl hk)
            have CALL := Lib.hid (IH.out wr.drew F' m' (way ++ [(p : Int)]) out' (name ++ xe) xp q7 c7 (by rw [List.length_append, ← HNL.out]; have := X1.out; omega) (by rw [List.length_append, ← HNL.out]; have := KO.out.len; simp only [] at this; omega) KO.out.lo hm'
              (by rw [List.length_append, List.length_append, List.length_singleton, ← HNL.out]; have := X1.out; omega) ho' (by
                intro y hy
                rcases List.mem_append.1 hy with h | h
                · exact HWR.out y h
                · rw [List.mem_singleton.1 h]; exact ⟨hp0, PL.out⟩) LD.wy (fun g o e => (LD.fw g o e).1) (fun i hi => cell_chg (HX0.out i hi) CD hbF) (fun e => (F8.out b e).elim hbF (fun e => by have := BL0.out; omega)) (Nat.lt_of_lt_of_le BL0.out CD.size) KD)
            rw [show (way ++ [(p : Int)]).length = way.length + 1 by rw [List.length_append, List.length_singleton]] at CALL
            have CD8 := Lib.hid CD
            have LD8 := Lib.hid LD
            obtain ⟨⟨R, m9, s9⟩, hR⟩ : ∃ x, x = vis xs mtAll k (way ++ [(p : Int)]) (name ++ xe) xp (m', out') := ⟨_, rfl⟩
            rw [← hR] at CALL CO2
            clear hR gD KD CD LD hx hxL hr1 hr2 CO
            go_wp2
            go_still_tail 16, (by kernel_rfl)
            change wpList _ _ _ _ _ wr.drew
            clear c0 c1 d8 dl hcl dj hsz hsx
            go_wp2_with fail
            refine CALL.out.mono ?_
            rintro e w9 ⟨rfl, ⟨F9, k9, f9⟩, c9, few9⟩
            have K9 := Lib.hid k9
            have F9H := Lib.hid (show ∀ i, F9 i → F i ∨ W.heap.size ≤ i from fun i hi => (f9 i hi).elim (F8.out i) (fun e => .inr (by have := CD8.out.size; omega)))
            have C9 := Lib.hid (chg_chain CD8.out c9 F8.out)
            have L9 := Lib.hid (LD8.out.next c9 f9)
            have FEW9 := Lib.hid few9
            simp only [] at K9 FEW9 CO2
            clear k9 f9 c9 few9 CALL CD8 LD8
            by_cases hR0 : R = 0
            · have dr : (R != 0) = false := by rw [hR0]; rfl
              have CO3 := Lib.hid (show r = visK (vis xs mtAll k (way ++ [(p : Int)])) name (nd.kids.drop (j + 1)) 0 (m9, s9) by
                have h := CO2.out
                rw [if_neg (fun h => h hR0)] at h
                exact h)
              have M9 := Lib.hid (FEW9.out hR0)
              clear CO2 FEW9
              subst hR0
              go_wp2
              go_roundw
              case rel => exact Boxed.mk ⟨j + 1, F9, m9, s9, hlt, by go_num, K9.out, F9H.out, C9.out, L9.out, Lib.hid CO3.out, M9.out.1, M9.out.2⟩
              case measure => (have := KLH.out; simp [intOf]; omega)
            · have dr : (R != 0) = true := by simpa using hR0
              have FN := Lib.hid (show DnOut wk (.slice (some ⟨b, o, none⟩) xs.length c) F W w9 r (.returned (.int .i64 R)) by
                have h := CO2.out
                rw [if_pos hR0] at h
                rw [h]
                exact DnOut.at K9.out F9H.out C9.out (fun e => absurd e hR0))
              clear CO2 hR0 FEW9
              go_wp2
              go_ret
              exact FN.out
          · have hjL : j = nd.kids.length := by omega
            have hjn : ¬ j < kl := by rw [EQ.out.2.2]; exact hlt
            have dj : decide ((j : Int) < (kl : Int)) = false := by simp; omega
            have dj2 : decide (j < kl) = false := by simp; omega
            have FN := Lib.hid (show DnOut wk (.slice (some ⟨b, o, none⟩) xs.length c) F W wr r (.returned (.int .i64 0)) by
              have h := CO.out
              rw [hjL, List.drop_length] at h
              rw [h]
              exact DnOut.at K8.out F8.out C8.out (fun _ => ⟨hm', ho'⟩))
            clear CO hjL hlt
            go_wp2
            go_ret
            exact FN.out
end Go.Proofs.YtbnnlbdjjpmgeaaGreat


namespace Go.Proofs.YtbnnlbdjjpmgeaaGreat
open Go.RowKit
variable {w w' W V : World} {xs : List Int}

theorem RowEx.at {q : Option Addr} {D : Out} (h : RowEx w q D) {i : Nat} {y : List Int × Ex} (hy : D[i]? = some y) : ∃ g, q = some ⟨g, 0, none⟩ ∧ w.cell? ⟨g, i * 7, none⟩ = some (.string (strOfNums y.1)) ∧ w.cell? ⟨g, i * 7 + 1, none⟩ = some (.int .i64 y.2.kind) ∧ w.cell? ⟨g, i * 7 + 2, none⟩ = some (.bool y.2.weak) ∧
    w.cell? ⟨g, i * 7 + 3, none⟩ = some (.int .u64 y.2.value) ∧ w.cell? ⟨g, i * 7 + 4, none⟩ = some (.int .u64 y.2.resolver) ∧ w.cell? ⟨g, i * 7 + 5, none⟩ = some (.int .u64 y.2.ordinal) ∧ w.cell? ⟨g, i * 7 + 6, none⟩ = some (.string (strOfNums y.2.other)) := by
  obtain ⟨g, e, hc⟩ := h i y hy
  exact ⟨g, e, hc 0 (by decide), hc 1 (by decide), hc 2 (by decide), hc 3 (by decide), hc 4 (by decide), hc 5 (by decide), hc 6 (by decide)⟩
set_option maxRecDepth 20000 in
set_option maxHeartbeats 1600000 in
theorem same9_any (D : Out) (n : Nat) (hn : D.length = n) (q1 q2 : Option Addr) (c1 c2 : Nat) (hm : n ≤ 9223372036854775807) (h1 : RowEx w q1 D) (h2 : RowEx w q2 D) :
    Calls Tryz.prog 12 #[.slice q1 n c1, .slice q2 n c2] w fun e w' => e = .returned (.bool true) ∧ w.grownBy w' none := by
  have P := Lib.hid h1
  have Q := Lib.hid h2
  have HN := Lib.hid hn
  clear h1 h2 hn
  go_enter Tryz.func12, Tryz.ntmps12
  go_wp2
  go_loopw [5] (fun i wr => ∃ k : Nat, k ≤ n ∧ i = .int .i64 k ∧ w.grownBy wr none) (fun i _ => n - (intOf i).toNat)
  case atStart => exact ⟨0, Nat.zero_le _, rfl, grown_refl _ _⟩
  case round =>
    obtain ⟨k, hk, rfl, hg⟩ := hrel
    by_cases hlt : k < n
    · obtain ⟨y, hy⟩ : ∃ y, D[k]? = some y := ⟨_, List.getElem?_eq_getElem (by rw [HN.out]; exact hlt)⟩
      obtain ⟨g, rfl, a0, a1, a2, a3, a4, a5, a6⟩ := (P.out.grown hg).at hy
      obtain ⟨g', rfl, b0, b1, b2, b3, b4, b5, b6⟩ := (Q.out.grown hg).at hy
      have G := Lib.hid hg
      clear hy hg
      go_wp2
      go_quiet (fail)
      go_wp2
      go_roundw
      case rel => exact ⟨k + 1, hlt, by go_num, grown_drewN G.out _⟩
      case measure => simp [intOf]; omega
    · have G := Lib.hid hg
      clear hg
      go_wp2
      go_ret
      exact ⟨rfl, G.out⟩
def rowA : List Int := [0, 1, 97, 0, 5, 2, 0, 7, 0]
def rowB : List Int := [0, 1, 97, 0, 0]
theorem rowA_all : allN rowA = ([([97], ⟨1, false, 7, 0, 0, []⟩)], 0) := by decide +kernel
theorem rowB_all : (allN rowB).2 = 12 := by decide +kernel
theorem lit9 {v : List Int} {w W : World} (t : TypeId) (h : W = w.alloc (.cells (v.map (Value.int .u8)).toArray t)) (n : Nat) : IsBytes W (some ⟨w.heap.size, 0, none⟩) n v := by
  subst h
  refine IsBytes.mk_at fun i hi => ?_
  rw [cell_of (heap_alloc_new w _)]
  simp [hi]
set_option maxRecDepth 20000 in
set_option maxHeartbeats 800000 in
theorem known9_any (w : World) : Calls Tryz.prog 6 #[] w fun e w' => e = .returned (.bool true) ∧ w.grownBy w' none := by
  have LA := Lib.hid fun W : World => lit9 (v := rowA) (w := W) 5 rfl 9
  have LB := Lib.hid fun W : World => lit9 (v := rowB) (w := W) 5 rfl 5
  have BA : Byt rowA := by intro x hx; simp [rowA] at hx; omega
  have BB : Byt rowB := by intro x hx; simp [rowB] at hx; omega
  have AA := Lib.hid fun W => All_any (LA.out W) rfl BA (Nat.le_refl _) (by decide) (by decide)
  have AB := Lib.hid fun W => All_any (LB.out W) rfl BB (Nat.le_refl _) (by decide) (by decide)
  have GA := Lib.hid fun W : World => grown1 W (.cells (rowA.map (Value.int .u8)).toArray 5)
  have GB := Lib.hid fun W : World => grown1 W (.cells (rowB.map (Value.int .u8)).toArray 5)
  clear BA BB
  go_enter Tryz.func6, Tryz.ntmps6
  go_wp2_with fail
  refine (AA.out w).mono ?_
  rintro e w1 ⟨⟨D, q, c, rfl, hD, _, hP, hlc, hc63⟩, hg⟩
  have G1 := Lib.hid (grown_trans (GA.out w) hg)
  rw [rowA_all] at hP ⊢
  obtain rfl := List.perm_singleton.1 hP
  have R1 := Lib.hid hD
  clear hD hP hg hlc hc63
  go_wp2_with fail
  refine (AB.out w1).mono ?_
  rintro e w2 ⟨⟨D2, q2, c2, rfl, _, _, _, _, _⟩, hg⟩
  have G2 := Lib.hid (grown_trans (GB.out w1) hg)
  rw [rowB_all]
  clear hg
  have g3 := grown1 w2 (.cells #[.string ⟨#[97]⟩, .int .i64 1, .bool false, .int .u64 7, .int .u64 0, .int .u64 0, .string ⟨#[]⟩] 28)
  have R3 : RowEx (w2.alloc (.cells #[.string ⟨#[97]⟩, .int .i64 1, .bool false, .int .u64 7, .int .u64 0, .int .u64 0, .string ⟨#[]⟩] 28)) (some ⟨w2.heap.size, 0, none⟩) [([97], ⟨1, false, 7, 0, 0, []⟩)] := by
    intro i y hy
    match i, hy with
    | 0, hy =>
      injection hy with hy
      subst hy
      refine ⟨_, rfl, fun j hj => ?_⟩
      rw [Nat.zero_mul, Nat.zero_add, cell_of (heap_alloc_new w2 _)]
      match j, hj with
      | 0, _ => rfl
      | 1, _ => rfl
      | 2, _ => rfl
      | 3, _ => rfl
      | 4, _ => rfl
      | 5, _ => rfl
      | 6, _ => rfl
  have SM := Lib.hid (same9_any [([97], ⟨1, false, 7, 0, 0, []⟩)] 1 rfl q (some ⟨w2.heap.size, 0, none⟩) c 1 (by decide) ((R1.out.grown G2.out).grown g3) R3)
  have G3 := Lib.hid (grown_trans (grown_trans G1.out G2.out) g3)
  clear g3 R3
  go_wp2_with fail
  refine SM.out.mono ?_
  rintro e w3 ⟨rfl, hg⟩
  have G4 := Lib.hid (grown_trans G3.out hg)
  clear hg
  go_wp2
  go_ret
  exact ⟨rfl, G4.out⟩
end Go.Proofs.YtbnnlbdjjpmgeaaGreat


namespace Go.Proofs.YtbnnlbdjjpmgeaaGreat
open Go.RowKit
theorem bytesLess_is : ∀ (a b : List UInt8), Op.bytesLess a b = nmLt (a.map fun u => (u.toNat : Int)) (b.map fun u => (u.toNat : Int))
  | [], [] => rfl
  | _ :: _, [] => rfl
  | [], _ :: _ => rfl
  | x :: a, y :: b => by
    have e1 : (x < y) ↔ (x.toNat : Int) < (y.toNat : Int) := by rw [UInt8.lt_iff_toNat_lt]; omega
    have e2 : (y < x) ↔ (y.toNat : Int) < (x.toNat : Int) := by rw [UInt8.lt_iff_toNat_lt]; omega
    have e3 : (x = y) ↔ (x.toNat : Int) = (y.toNat : Int) := by rw [← UInt8.toNat_inj]; omega
    simp only [Op.bytesLess, List.map_cons, nmLt, bytesLess_is a b]
    by_cases h1 : x < y
    · rw [if_pos (e1.1 h1)]; simp [h1]
    · by_cases h2 : y < x
      · have h3 : ¬ x = y := fun e => h1 (by have := e3.1 e; have := e2.1 h2; omega)
        rw [if_neg (fun h => h1 (e1.2 h)), if_pos (e2.1 h2)]
        simp [h1, h3]
      · have h3 : x = y := e3.2 (by have a1 : ¬ (x.toNat : Int) < y.toNat := fun h => h1 (e1.2 h); have a2 : ¬ (y.toNat : Int) < x.toNat := fun h => h2 (e2.2 h); omega)
        rw [if_neg (fun h => h1 (e1.2 h)), if_neg (fun h => h2 (e2.2 h))]
        simp [h3]
theorem less_is (a b : List Int) : Op.bytesLess (strOfNums a).toList (strOfNums b).toList = nmLt (nums a) (nums b) := by
  rw [Lib.strOfNums_toList, Lib.strOfNums_toList]
  exact bytesLess_is _ _
theorem name_is {a b : List Int} (ha : Byt a) (hb : Byt b) : ((strOfNums a).toList == (strOfNums b).toList) = decide (a = b) := by
  rw [Lib.strOfNums_toList, Lib.strOfNums_toList]
  by_cases h : a = b
  · subst h; simp
  · rw [decide_eq_false h, beq_eq_false_iff_ne]
    intro e
    apply h
    rw [← nums_byt ha, ← nums_byt hb]
    unfold nums
    rw [e]
theorem nums_same {a b : List Int} : ((strOfNums a).toList == (strOfNums b).toList) = decide (nums a = nums b) := by
  rw [Lib.strOfNums_toList, Lib.strOfNums_toList]
  by_cases h : nums a = nums b
  · rw [decide_eq_true h, beq_iff_eq]
    unfold nums at h
    exact List.map_inj_right (fun x y e => by apply UInt8.toNat_inj.1; exact Int.ofNat_inj.1 e) |>.1 h
  · rw [decide_eq_false h, beq_eq_false_iff_ne]
    intro e
    apply h
    unfold nums
    rw [e]
theorem le_is (a b : List Int) : (Op.bytesLess (strOfNums a).toList (strOfNums b).toList || ((strOfNums a).toList == (strOfNums b).toList)) = !nmLt (nums b) (nums a) := by
  rw [less_is, nums_same]
  cases h1 : nmLt (nums a) (nums b) with
  | true =>
    cases h2 : nmLt (nums b) (nums a) with
    | false => rfl
    | true => have := nmLt_trans h1 h2; rw [nmLt_irrefl] at this; cases this
  | false =>
    by_cases h : nums a = nums b
    · rw [decide_eq_true h, h, nmLt_irrefl]; rfl
    · rw [decide_eq_false h]
      cases h2 : nmLt (nums b) (nums a) with
      | false => exact absurd (nmLt_anti h1 h2) h
      | true => rfl
end Go.Proofs.YtbnnlbdjjpmgeaaGreat


namespace Go.Proofs.YtbnnlbdjjpmgeaaGreat
open Go.RowKit
variable {w w' W V : World}

def ExsAt (w : World) (q : Option Addr) (D : Out) : Prop := ∀ i y, D[i]? = some y → ∃ g o, q = some ⟨g, o, none⟩ ∧ ∀ j, j < 7 → w.cell? ⟨g, o + i * 7 + j, none⟩ = (outCs y)[j]?
theorem RowEx.exs {q : Option Addr} {D : Out} (h : RowEx w q D) : ExsAt w q D := fun i y hy => by
  obtain ⟨g, e, hc⟩ := h i y hy
  exact ⟨g, 0, e, fun j hj => by rw [Nat.zero_add]; exact hc j hj⟩
theorem ExsAt.nil {q : Option Addr} : ExsAt w q [] := fun i y hy => by simp at hy
theorem ExsAt.grown {q : Option Addr} {D : Out} (h : ExsAt w q D) (hg : w.grownBy w' none) : ExsAt w' q D := fun i y hy => by
  obtain ⟨g, o, e, hc⟩ := h i y hy
  refine ⟨g, o, e, fun j hj => ?_⟩
  have hl : j < (outCs y).length := hj
  have := hc j hj
  rw [List.getElem?_eq_getElem hl] at this ⊢
  exact grown_cell hg this
theorem ExsAt.take {q : Option Addr} {D : Out} (h : ExsAt w q D) (n : Nat) : ExsAt w q (D.take n) := fun i y hy => by
  refine h i y ?_
  rw [List.getElem?_take] at hy
  split at hy
  · exact hy
  · cases hy
theorem ExsAt.drop {b o : Nat} {D : Out} (h : ExsAt w (some ⟨b, o, none⟩) D) (n : Nat) : ExsAt w (some ⟨b, o + n * 7, none⟩) (D.drop n) := fun i y hy => by
  rw [List.getElem?_drop] at hy
  obtain ⟨g, o', e, hc⟩ := h (n + i) y hy
  injection e with e
  injection e with e1 e2 _
  subst e1 e2
  refine ⟨b, o + n * 7, rfl, fun j hj => ?_⟩
  have := hc j hj
  rw [show o + (n + i) * 7 + j = o + n * 7 + i * 7 + j by omega] at this
  exact this
theorem ExsAt.head {q : Option Addr} {y : List Int × Ex} {D : Out} (h : ExsAt w q (y :: D)) : ∃ g o, q = some ⟨g, o, none⟩ ∧ w.cell? ⟨g, o, none⟩ = some (.string (strOfNums y.1)) ∧ w.cell? ⟨g, o + 1, none⟩ = some (.int .i64 y.2.kind) ∧ w.cell? ⟨g, o + 2, none⟩ = some (.bool y.2.weak) ∧
    w.cell? ⟨g, o + 3, none⟩ = some (.int .u64 y.2.value) ∧ w.cell? ⟨g, o + 4, none⟩ = some (.int .u64 y.2.resolver) ∧ w.cell? ⟨g, o + 5, none⟩ = some (.int .u64 y.2.ordinal) ∧ w.cell? ⟨g, o + 6, none⟩ = some (.string (strOfNums y.2.other)) := by
  obtain ⟨g, o, e, hc⟩ := h 0 y rfl
  simp only [Nat.zero_mul, Nat.add_zero] at hc
  exact ⟨g, o, e, hc 0 (by decide), hc 1 (by decide), hc 2 (by decide), hc 3 (by decide), hc 4 (by decide), hc 5 (by decide), hc 6 (by decide)⟩
theorem flat_inv {α : Type} {f : α → List Value} {k : Nat} (hk : 0 < k) (hf : ∀ x, (f x).length = k) (l : List α) (j : Nat) (u : Value) (h : (l.flatMap f)[j]? = some u) : ∃ y, l[j / k]? = some y ∧ (f y)[j % k]? = some u := by
  obtain ⟨hj, -⟩ := List.getElem?_eq_some_iff.1 h
  rw [flat_len hf] at hj
  have hi : j / k < l.length := by
    rcases Nat.lt_or_ge (j / k) l.length with h | h
    · exact h
    · have h1 := Nat.mul_le_mul_right k h
      have h2 := Nat.div_mul_le_self j k
      omega
  refine ⟨l[j / k], List.getElem?_eq_getElem hi, ?_⟩
  have := flat_at hf l (j / k) (j % k) _ (List.getElem?_eq_getElem hi) (Nat.mod_lt _ hk)
  rw [show j / k * k + j % k = j by rw [Nat.mul_comm]; exact Nat.div_add_mod j k] at this
  rw [← this]
  exact h
theorem ExsAt.cells {q : Option Addr} {D : Out} (h : ExsAt w q D) (j : Nat) (u : Value) (hu : (D.flatMap outCs)[j]? = some u) : ∃ g o, q = some ⟨g, o, none⟩ ∧ w.cell? ⟨g, o + j, none⟩ = some u := by
  obtain ⟨y, hy, hr⟩ := flat_inv (by decide) outCs_len D j u hu
  obtain ⟨g, o, e, hc⟩ := h _ y hy
  refine ⟨g, o, e, ?_⟩
  have := hc (j % 7) (Nat.mod_lt _ (by decide))
  rw [show o + j / 7 * 7 + j % 7 = o + j by omega] at this
  rw [this]; exact hr
theorem outs_one (D : Out) : ∀ u ∈ D.flatMap outCs, u.oneCell' = true := fun u hu => by
  obtain ⟨y, _, h⟩ := List.mem_flatMap.1 hu
  exact exCs_one _ _ u h
def leX (x y : List Int × Ex) : Prop := nmLt (nums y.1) (nums x.1) = false
theorem leX_trans {x y z : List Int × Ex} (h : leX x y) (k : leX y z) : leX x z := nmLt_ntrans k h
def Srt (D : Out) : Prop := D.Pairwise leX
theorem srt_step {O A B : Out} {a : List Int × Ex} (ha : Srt (O ++ a :: A)) (hb : Srt (O ++ B)) (hle : ∀ b B', B = b :: B' → leX a b) : Srt ((O ++ [a]) ++ A) ∧ Srt ((O ++ [a]) ++ B) := by
  refine ⟨by rw [List.append_assoc]; exact ha, ?_⟩
  unfold Srt at *
  rw [List.append_assoc, List.pairwise_append]
  rw [List.pairwise_append] at ha hb
  refine ⟨ha.1, ?_, ?_⟩
  · rw [List.singleton_append, List.pairwise_cons]
    refine ⟨?_, hb.2.1⟩
    intro x hx
    cases B with
    | nil => cases hx
    | cons b B' =>
      rcases List.mem_cons.1 hx with h | h
      · rw [h]; exact hle b B' rfl
      · exact leX_trans (hle b B' rfl) ((List.pairwise_cons.1 hb.2.1).1 x h)
  · intro x hx y hy
    rcases List.mem_append.1 hy with h | h
    · exact ha.2.2 x hx y (List.mem_cons.2 (.inl (List.mem_singleton.1 h)))
    · exact hb.2.2 x hx y h
structure SoOut (w w' : World) (D : Out) (e : Ending) : Prop where
  ex : ∃ R v, e = .returned v ∧ w'.ownsRow w.heap.size 28 7 v R.length (R.flatMap outCs) ∧ R.Perm D ∧ Srt R
  grown : w.grownBy w' none
set_option maxRecDepth 20000 in
set_option maxHeartbeats 3200000 in
theorem sorted_few (D : Out) (q : Option Addr) (c : Nat) (w : World) (hn : D.length < 2) (h : ExsAt w q D) :
    Calls Tryz.prog 29 #[.slice q D.length c] w fun e w' => SoOut w w' D e := by
  have hl : (D.flatMap outCs).length = D.length * 7 := flat_len outCs_len D
  have HH := Lib.hid (h.cells)
  have HL := Lib.hid hl
  have S : Srt D := by
    match D, hn with
    | [], _ => exact List.Pairwise.nil
    | [x], _ => exact List.pairwise_singleton _ _
  have FN := Lib.hid (fun v' w' (ho : w'.ownsRow w.heap.size 28 7 v' D.length (D.flatMap outCs)) (hg : w.grownBy w' none) => (show SoOut w w' D (.returned v') from ⟨⟨D, v', rfl, ho, List.Perm.refl _, S⟩, hg⟩))
  have HO := Lib.hid (outs_one D)
  have dn : decide ((D.length : Int) < 2) = true := by simp; omega
  clear h hl S
  obtain ⟨N, hN⟩ : ∃ N, N = D.length := ⟨_, rfl⟩
  rw [← hN] at HL FN hn dn ⊢
  clear hN
  go_enter Tryz.func29, Tryz.ntmps29
  go_wp2_with (at_builtin; refine wp_append_rows exType rfl _ _ rfl rfl (.slice none 0 0) 0 [] rfl (World.ownsRow_nil _ w.heap.size 28 7) q N c rfl (D.flatMap outCs) HL.out HH.out HO.out (by omega) (by decide) (Nat.le_refl _) ?_)
  intro v' w' ho hg hv
  try rw [Nat.zero_add] at ho
  try rw [List.nil_append] at ho
  have F := Lib.hid (FN.out v' w' ho hg)
  clear ho hg hv
  go_wp2
  go_ret
  exact F.out
theorem exs_lo (b o n c p : Nat) (hc : n ≤ c) (hp : p ≤ n) : ∃ V : Option Addr, (∀ W, (Instr.slice 23 (.slice (some ⟨b, o, none⟩) n c) (some (.int .i64 (p : Int))) none none).run Tryz.prog W = .ok (.slice V (n - p) (c - p)) W) ∧ ∀ (w : World) (D : Out), D.length = n → ExsAt w (some ⟨b, o, none⟩) D → ExsAt w V (D.drop p) := by
  obtain ⟨V, hV, h⟩ := cut_lo (T := 23) (k := 7) (by kernel_rfl) (fun W => by kernel_rfl) b o n c p .i64 hp
  refine ⟨V, hV, fun w D hD he => ?_⟩
  rcases h with ⟨rfl, h⟩ | rfl
  · rw [List.drop_eq_nil_of_le (by omega)]
    exact ExsAt.nil
  · exact he.drop p
def slN : Value → Nat
  | .slice _ n _ => n
  | _ => 0
structure SoMid (w : World) (D : Out) (h : Nat) (va vb : Value) (wx : World) : Prop where
  ex : ∃ A qa ca B qb cb, va = .slice qa (List.length A) ca ∧ vb = .slice qb (List.length B) cb ∧ A.length ≤ ca ∧ B.length ≤ cb ∧ ca ≤ 9223372036854775807 ∧ cb ≤ 9223372036854775807 ∧ ExsAt wx qa A ∧ ExsAt wx qb B ∧ A.Perm (D.take h) ∧ B.Perm (D.drop h) ∧ Srt A ∧ Srt B
  grown : w.grownBy wx none
structure SoLp (w : World) (D : Out) (va vb vo : Value) (wr : World) : Prop where
  ex : ∃ A qa ca B qb cb O, va = .slice qa (List.length A) ca ∧ vb = .slice qb (List.length B) cb ∧ A.length ≤ ca ∧ B.length ≤ cb ∧ ca ≤ 9223372036854775807 ∧ cb ≤ 9223372036854775807 ∧ ExsAt w qa A ∧ ExsAt w qb B ∧ wr.ownsRow w.heap.size 28 7 vo (List.length O) (O.flatMap outCs) ∧ (O ++ (A ++ B)).Perm D ∧ Srt (O ++ A) ∧ Srt (O ++ B)
  grown : w.grownBy wr none
set_option maxRecDepth 20000 in
set_option maxHeartbeats 3200000 in
theorem sorted_any : ∀ (n : Nat) (D : Out) (q : Option Addr) (c : Nat) (w : World), D.length = n → n ≤ 1000000000 → n ≤ c → c ≤ 9223372036854775807 → ExsAt w q D →
    Calls Tryz.prog 29 #[.slice q n c] w fun e w' => SoOut w w' D e := by
  intro n
  induction n using Nat.strongRecOn with
  | _ n ih =>
  intro D q c w hD hbig hc hcm h
  by_cases hfew : n < 2
  · rw [← hD]
    exact sorted_few D q c w (by omega) h
  obtain ⟨g, o, rfl⟩ : ∃ g o, q = some ⟨g, o, none⟩ := by
    obtain ⟨g, o, e, _⟩ := h 0 D[0] (List.getElem?_eq_getElem (by omega))
    exact ⟨g, o, e⟩
  obtain ⟨hf, hhf⟩ : ∃ hf, hf = n / 2 := ⟨_, rfl⟩
  obtain ⟨V, hV, hVE⟩ := exs_lo g o n c hf hc (by omega)
  have CH := cut_hi (T := 23) (k := 7) (by kernel_rfl) (fun W => by kernel_rfl) g o n c hf .i64 (by omega)
  have IA := Lib.hid (fun (W : World) (hg : w.grownBy W none) => ih hf (by omega) (D.take hf) (some ⟨g, o, none⟩) c W (by rw [List.length_take]; omega) (by omega) (by omega) hcm ((h.grown hg).take hf))
  have IB := Lib.hid (fun (W : World) (hg : w.grownBy W none) => ih (n - hf) (by omega) (D.drop hf) V (c - hf) W (by rw [List.length_drop]; omega) (by omega) (by omega) (by omega) (hVE W D hD (h.grown hg)))
  have hdv : IntKind.i64.wrap ((n : Int) / 2) = (hf : Int) := by rw [show (n : Int) / 2 = (hf : Int) by omega]; exact IntWalk.i64_in _ (by omega)
  have dn : decide ((n : Int) < 2) = false := by simp; omega
  have G0 := Lib.hid (show w.grownBy w.drew none from grown_drewN (grown_refl w none) 1)
  have HD := Lib.hid hD
  have HHF := Lib.hid (show hf ≤ n ∧ 1 ≤ hf by omega)
  clear ih h hVE hD hhf
  go_enter Tryz.func29, Tryz.ntmps29
  go_upto_region 3 with fail
  go_cut [3, 4] from 11 to 22 (fun va vb wx => SoMid w D hf va vb wx)
  case first =>
    go_region_held (fun W => (Instr.slice 23 (.slice (some ⟨g, o, none⟩) n c) none (some (.int .i64 (hf : Int))) none).run Tryz.prog W = .ok (.slice (some ⟨g, o, none⟩) hf c) W ∧ (Instr.slice 23 (.slice (some ⟨g, o, none⟩) n c) (some (.int .i64 (hf : Int))) none none).run Tryz.prog W = .ok (.slice V (n - hf) (c - hf)) W)
      (exact ⟨CH _, hV _⟩)
      (first
      | (go_at_call 29; with_reducible refine (IA.out w.drew G0.out).mono ?_; rintro e w1 ⟨⟨A, va, rfl, oa, pa, sa⟩, ga⟩; obtain ⟨qa, ca, rfl⟩ := own_slice oa; have G1 := Lib.hid (grown_trans G0.out ga); have OA := Lib.hid oa; have PA := Lib.hid (And.intro pa sa); clear oa pa sa ga)
      | (go_at_call 29; with_reducible refine (IB.out w1 G1.out).mono ?_; rintro e w2 ⟨⟨B, vb, rfl, ob, pb, sb⟩, gb⟩; obtain ⟨qb, cb, rfl⟩ := own_slice ob; have G2 := Lib.hid (grown_trans G1.out gb); have OA2 := Lib.hid (own_grown OA.out gb); have OB := Lib.hid ob; have PB := Lib.hid (And.intro pb sb); clear ob pb sb gb))
    all_goals
      go_wp2_with fail
      go_meet
      exact ⟨⟨A, qa, ca, B, qb, cb, rfl, rfl, own_room8 OA2.out, own_room8 OB.out, own_max OA2.out, own_max OB.out, (RowEx.of OA2.out).exs, (RowEx.of OB.out).exs, PA.out.1, PB.out.1, PA.out.2, PB.out.2⟩, G2.out⟩
  case rest =>
    obtain ⟨A0, qa, ca, B0, qb, cb, rfl, rfl, la, lb, ma, mb, ea, eb, pa, pb, sa, sb⟩ := hcut.ex
    have GC := Lib.hid hcut.grown
    have EA := Lib.hid ea
    have EB := Lib.hid eb
    have PM := Lib.hid (show (A0 ++ B0).Perm D by
      have h := pa.append pb
      rw [List.take_append_drop] at h
      exact h)
    have SA := Lib.hid sa
    have SB := Lib.hid sb
    have LB := Lib.hid (And.intro la (And.intro lb (And.intro ma mb)))
    clear hcut ea eb pa pb sa sb la lb ma mb
    go_upto_region 5 with fail
    go_loopw [3, 4, 5] (fun va vb vo wr => SoLp wc D va vb vo wr) (fun va vb _ _ => slN va + slN vb)
    case atStart => exact ⟨⟨A0, qa, ca, B0, qb, cb, [], rfl, rfl, LB.out.1, LB.out.2.1, LB.out.2.2.1, LB.out.2.2.2, EA.out, EB.out, World.ownsRow_nil _ _ _ _, PM.out, SA.out, SB.out⟩, grown_refl _ _⟩
    case round =>
      obtain ⟨A, qa, ca, B, qb, cb, O, rfl, rfl, la, lb, ma, mb, ea, eb, oo, pm, sa, sb⟩ := hrel.ex
      have GL := Lib.hid hrel.grown
      have hlen : O.length + (A.length + B.length) = n := by
        have := pm.length_eq
        rw [List.length_append, List.length_append, HD.out] at this
        exact this
      obtain ⟨qo, co, rfl⟩ := own_slice oo
      have OO := Lib.hid oo
      have EA := Lib.hid ea
      have EB := Lib.hid eb
      have PM := Lib.hid pm
      have SA := Lib.hid sa
      have SB := Lib.hid sb
      clear hrel ea eb oo pm sa sb
      by_cases hab : A = [] ∧ B = []
      · obtain ⟨rfl, rfl⟩ := hab
        have FN := Lib.hid (show SoOut w wr D (.returned (.slice qo (List.length O) co)) from ⟨⟨O, _, rfl, Go.Joins.ownsRow_le OO.out GC.out.size, by have h := PM.out; rw [List.append_nil, List.append_nil] at h; exact h, by have h := SA.out; rw [List.append_nil] at h; exact h⟩, grown_trans GC.out GL.out⟩)
        clear hlen la lb ma mb
        go_wp2
        go_ret
        exact FN.out
      have hgo : (∃ a A', A = a :: A' ∧ ∀ b B', B = b :: B' → leX a b) ∨ (∃ b B', B = b :: B' ∧ ∀ a A', A = a :: A' → leX b a ∧ ¬ leX a b) := by
        cases A with
        | nil =>
          cases B with
          | nil => exact absurd ⟨rfl, rfl⟩ hab
          | cons b B' => exact .inr ⟨b, B', rfl, fun a A' e => by cases e⟩
        | cons a A' =>
          cases B with
          | nil => exact .inl ⟨a, A', rfl, fun b B' e => by cases e⟩
          | cons b B' =>
            by_cases hle : leX a b
            · exact .inl ⟨a, A', rfl, fun b' B'' e => by injection e with e1 e2; rw [← e1]; exact hle⟩
            · refine .inr ⟨b, B', rfl, fun a' A'' e => ?_⟩
              injection e with e1 e2
              rw [← e1]
              refine ⟨?_, hle⟩
              unfold leX at hle ⊢
              cases h1 : nmLt (nums a.1) (nums b.1) with
              | false => rfl
              | true =>
                cases h2 : nmLt (nums b.1) (nums a.1) with
                | false => exact absurd h2 hle
                | true => have := nmLt_trans h1 h2; rw [nmLt_irrefl] at this; cases this
      clear hab
      rcases hgo with ⟨a, A', rfl, hle⟩ | ⟨b, B', rfl, hle⟩
      · have HLE := Lib.hid hle
        obtain ⟨na, hna⟩ : ∃ na, na = A'.length := ⟨_, rfl⟩
        have NA := Lib.hid hna
        rw [show (a :: A').length = na + 1 by rw [hna]; rfl] at la hlen ⊢
        obtain ⟨QB, hQB⟩ : ∃ Q, Q = qb := ⟨_, rfl⟩
        obtain ⟨nb, hnb⟩ : ∃ nb, nb = B.length := ⟨_, rfl⟩
        have NB := Lib.hid hnb
        rw [← hnb] at lb hlen ⊢
        have da : decide ((0 : Int) < ((na + 1 : Nat) : Int)) = true := by simp <;> omega
        have da2 : decide ((0 : Int) < (na : Int) + 1) = true := by simp <;> omega
        obtain ⟨ga, oa, rfl, k0, k1, k2, k3, k4, k5, k6⟩ := (EA.out.grown GL.out).head
        clear hna hle
        cases hB : B with
        | nil =>
          have hnb0 : nb = 0 := by rw [hnb, hB]; rfl
          subst hQB
          clear hB hnb
          have db : (((nb : Nat) : Int) == 0) = true := by rw [hnb0]; rfl
          clear hnb0
          go_wp2
          go_quiet (fail)
          clear k0 k1 k2 k3 k4 k5 k6
          have G1 := Lib.hid (grown_drewN GL.out nq)
          obtain ⟨g', o', e, k0, k1, k2, k3, k4, k5, k6⟩ := (EA.out.grown G1.out).head
          injection e with e
          injection e with e1 e2 _
          subst e1 e2
          obtain ⟨W1, hW1⟩ : ∃ W1, wr.drewN nq = W1 := ⟨_, rfl⟩
          rw [hW1] at k0 k1 k2 k3 k4 k5 k6 G1 ⊢
          have OD := Lib.hid (show W1.ownsRow wc.heap.size 28 7 (.slice qo (List.length O) co) (List.length O) (O.flatMap outCs) from by rw [← hW1]; exact own_grown OO.out (grown_drewN (grown_refl wr none) nq))
          clear hW1
          have g2 := grown1 W1 (.cells #[.string (strOfNums a.1), .int .i64 a.2.kind, .bool a.2.weak, .int .u64 a.2.value, .int .u64 a.2.resolver, .int .u64 a.2.ordinal, .string (strOfNums a.2.other)] 28)
          have O2 := Lib.hid (own_grown OD.out g2)
          have N2 := Lib.hid (heap_alloc_new W1 (.cells #[.string (strOfNums a.1), .int .i64 a.2.kind, .bool a.2.weak, .int .u64 a.2.value, .int .u64 a.2.resolver, .int .u64 a.2.ordinal, .string (strOfNums a.2.other)] 28))
          have G2 := Lib.hid (grown_trans G1.out g2)
          obtain ⟨V2, hV2, hVE2⟩ := exs_lo ga oa (na + 1) ca 1 (by omega) (by omega)
          have HV2 : ∀ W, (Instr.slice 23 (.slice (some ⟨ga, oa, none⟩) (na + 1) ca) (some (.int .i64 1)) none none).run Tryz.prog W = .ok (.slice V2 na (ca - 1)) W := fun W => by have h := hV2 W; rw [show na + 1 - 1 = na by omega] at h; exact h
          have EV2 := Lib.hid (show ExsAt wc V2 A' from hVE2 wc (a :: A') (by rw [List.length_cons, NA.out]) EA.out)
          have hON : (O.length + 1) * 72 ≤ 140737488355328 := by omega
          clear hV2 hVE2 g2
          go_wp2_with (at_builtin; refine wp_append_sta exType rfl _ _ rfl _ (List.length O) _ rfl O2.out [.string (strOfNums a.1), .int .i64 a.2.kind, .bool a.2.weak, .int .u64 a.2.value, .int .u64 a.2.resolver, .int .u64 a.2.ordinal, .string (strOfNums a.2.other)] rfl W1.heap.size rfl N2.out (exCs_one (strOfNums a.1) a.2) hON (by decide) G2.out.size ?_)
          intro v' w5 ho5 hg5 hv5
          have G5 := Lib.hid (grown_opt G2.out hg5 (fun g e => (O2.out.lt g e).1))
          have O5 := Lib.hid (show w5.ownsRow wc.heap.size 28 7 v' (O ++ [a]).length ((O ++ [a]).flatMap outCs) from by rw [List.length_append, List.length_singleton, List.flatMap_append, List.flatMap_singleton]; exact ho5)
          clear ho5 hg5 hv5 k0 k1 k2 k3 k4 k5 k6
          go_wp2
          go_roundw
          case rel => exact ⟨⟨A', V2, ca - 1, B, _, cb, O ++ [a], by rw [← NA.out], by rw [← NB.out], by rw [← NA.out]; omega, by rw [← NB.out]; omega, by omega, by omega, EV2.out, EB.out, O5.out, by have h := PM.out; rw [List.append_assoc]; exact h, (srt_step SA.out SB.out HLE.out).1, (srt_step SA.out SB.out HLE.out).2⟩, G5.out⟩
          case measure => simp [slN]
        | cons b B' =>
          have EB1 := Lib.hid (show ExsAt wc qb (b :: B') from hB ▸ EB.out)
          obtain ⟨gb, ob, hqb, j0, j1, j2, j3, j4, j5, j6⟩ := (EB1.out.grown GL.out).head
          have hnb0 : 1 ≤ nb := by rw [hnb, hB]; simp
          have db : (((nb : Nat) : Int) == 0) = false := by simp; omega
          have hcmp := le_is a.1 b.1
          rw [show nmLt (nums b.1) (nums a.1) = false from HLE.out b B' hB] at hcmp
          obtain ⟨x, hx⟩ : ∃ x, Op.bytesLess (strOfNums a.1).toList (strOfNums b.1).toList = x := ⟨_, rfl⟩
          obtain ⟨y, hy⟩ : ∃ y, ((strOfNums a.1).toList == (strOfNums b.1).toList) = y := ⟨_, rfl⟩
          rw [hx, hy, Bool.not_false] at hcmp
          have HQB := Lib.hid hQB
          clear hB hnb hQB
          subst hqb
          go_wp2
          go_quiet (fail)
          clear k0 k1 k2 k3 k4 k5 k6 j0 j1 j2 j3 j4 j5 j6 hx hy hcmp
          have hQB := HQB.out
          subst hQB
          have G1 := Lib.hid (grown_drewN GL.out nq)
          obtain ⟨g', o', e, k0, k1, k2, k3, k4, k5, k6⟩ := (EA.out.grown G1.out).head
          injection e with e
          injection e with e1 e2 _
          subst e1 e2
          obtain ⟨W1, hW1⟩ : ∃ W1, wr.drewN nq = W1 := ⟨_, rfl⟩
          rw [hW1] at k0 k1 k2 k3 k4 k5 k6 G1 ⊢
          have OD := Lib.hid (show W1.ownsRow wc.heap.size 28 7 (.slice qo (List.length O) co) (List.length O) (O.flatMap outCs) from by rw [← hW1]; exact own_grown OO.out (grown_drewN (grown_refl wr none) nq))
          clear hW1
          have g2 := grown1 W1 (.cells #[.string (strOfNums a.1), .int .i64 a.2.kind, .bool a.2.weak, .int .u64 a.2.value, .int .u64 a.2.resolver, .int .u64 a.2.ordinal, .string (strOfNums a.2.other)] 28)
          have O2 := Lib.hid (own_grown OD.out g2)
          have N2 := Lib.hid (heap_alloc_new W1 (.cells #[.string (strOfNums a.1), .int .i64 a.2.kind, .bool a.2.weak, .int .u64 a.2.value, .int .u64 a.2.resolver, .int .u64 a.2.ordinal, .string (strOfNums a.2.other)] 28))
          have G2 := Lib.hid (grown_trans G1.out g2)
          obtain ⟨V2, hV2, hVE2⟩ := exs_lo ga oa (na + 1) ca 1 (by omega) (by omega)
          have HV2 : ∀ W, (Instr.slice 23 (.slice (some ⟨ga, oa, none⟩) (na + 1) ca) (some (.int .i64 1)) none none).run Tryz.prog W = .ok (.slice V2 na (ca - 1)) W := fun W => by have h := hV2 W; rw [show na + 1 - 1 = na by omega] at h; exact h
          have EV2 := Lib.hid (show ExsAt wc V2 A' from hVE2 wc (a :: A') (by rw [List.length_cons, NA.out]) EA.out)
          have hON : (O.length + 1) * 72 ≤ 140737488355328 := by omega
          clear hV2 hVE2 g2
          go_wp2_with (at_builtin; refine wp_append_sta exType rfl _ _ rfl _ (List.length O) _ rfl O2.out [.string (strOfNums a.1), .int .i64 a.2.kind, .bool a.2.weak, .int .u64 a.2.value, .int .u64 a.2.resolver, .int .u64 a.2.ordinal, .string (strOfNums a.2.other)] rfl W1.heap.size rfl N2.out (exCs_one (strOfNums a.1) a.2) hON (by decide) G2.out.size ?_)
          intro v' w5 ho5 hg5 hv5
          have G5 := Lib.hid (grown_opt G2.out hg5 (fun g e => (O2.out.lt g e).1))
          have O5 := Lib.hid (show w5.ownsRow wc.heap.size 28 7 v' (O ++ [a]).length ((O ++ [a]).flatMap outCs) from by rw [List.length_append, List.length_singleton, List.flatMap_append, List.flatMap_singleton]; exact ho5)
          clear ho5 hg5 hv5 k0 k1 k2 k3 k4 k5 k6
          go_wp2
          go_roundw
          case rel => exact ⟨⟨A', V2, ca - 1, B, _, cb, O ++ [a], by rw [← NA.out], by rw [← NB.out], by rw [← NA.out]; omega, by rw [← NB.out]; omega, by omega, by omega, EV2.out, EB.out, O5.out, by have h := PM.out; rw [List.append_assoc]; exact h, (srt_step SA.out SB.out HLE.out).1, (srt_step SA.out SB.out HLE.out).2⟩, G5.out⟩
          case measure => simp [slN]
      · have HLE := Lib.hid (show ∀ a A', A = a :: A' → leX b a from fun a A' e => (hle a A' e).1)
        have HLN := Lib.hid (show ∀ a A', A = a :: A' → ¬ leX a b from fun a A' e => (hle a A' e).2)
        obtain ⟨nb, hnb⟩ : ∃ nb, nb = B'.length := ⟨_, rfl⟩
        have NB := Lib.hid hnb
        rw [show (b :: B').length = nb + 1 by rw [hnb]; rfl] at lb hlen ⊢
        obtain ⟨QA, hQA⟩ : ∃ Q, Q = qa := ⟨_, rfl⟩
        obtain ⟨na, hna⟩ : ∃ na, na = A.length := ⟨_, rfl⟩
        have NA := Lib.hid hna
        rw [← hna] at la hlen ⊢
        have db : decide ((0 : Int) < ((nb + 1 : Nat) : Int)) = true := by simp <;> omega
        have db2 : decide ((0 : Int) < (nb : Int) + 1) = true := by simp <;> omega
        have db3 : (((nb + 1 : Nat) : Int) == 0) = false := by simp; omega
        have db4 : ((nb : Int) + 1 == 0) = false := by simp; omega
        obtain ⟨gb, ob, rfl, k0, k1, k2, k3, k4, k5, k6⟩ := (EB.out.grown GL.out).head
        clear hnb hle
        cases hA : A with
        | nil =>
          have hna0 : na = 0 := by rw [hna, hA]; rfl
          subst hQA
          clear hA hna
          have da : decide ((0 : Int) < ((na : Nat) : Int)) = false := by rw [hna0]; rfl
          have da2 : decide (0 < na) = false := by rw [hna0]; rfl
          clear hna0
          go_wp2
          go_quiet (fail)
          clear k0 k1 k2 k3 k4 k5 k6
          have G1 := Lib.hid (grown_drewN GL.out nq)
          obtain ⟨g', o', e, k0, k1, k2, k3, k4, k5, k6⟩ := (EB.out.grown G1.out).head
          injection e with e
          injection e with e1 e2 _
          subst e1 e2
          obtain ⟨W1, hW1⟩ : ∃ W1, wr.drewN nq = W1 := ⟨_, rfl⟩
          rw [hW1] at k0 k1 k2 k3 k4 k5 k6 G1 ⊢
          have OD := Lib.hid (show W1.ownsRow wc.heap.size 28 7 (.slice qo (List.length O) co) (List.length O) (O.flatMap outCs) from by rw [← hW1]; exact own_grown OO.out (grown_drewN (grown_refl wr none) nq))
          clear hW1
          have g2 := grown1 W1 (.cells #[.string (strOfNums b.1), .int .i64 b.2.kind, .bool b.2.weak, .int .u64 b.2.value, .int .u64 b.2.resolver, .int .u64 b.2.ordinal, .string (strOfNums b.2.other)] 28)
          have O2 := Lib.hid (own_grown OD.out g2)
          have N2 := Lib.hid (heap_alloc_new W1 (.cells #[.string (strOfNums b.1), .int .i64 b.2.kind, .bool b.2.weak, .int .u64 b.2.value, .int .u64 b.2.resolver, .int .u64 b.2.ordinal, .string (strOfNums b.2.other)] 28))
          have G2 := Lib.hid (grown_trans G1.out g2)
          obtain ⟨V2, hV2, hVE2⟩ := exs_lo gb ob (nb + 1) cb 1 (by omega) (by omega)
          have HV2 : ∀ W, (Instr.slice 23 (.slice (some ⟨gb, ob, none⟩) (nb + 1) cb) (some (.int .i64 1)) none none).run Tryz.prog W = .ok (.slice V2 nb (cb - 1)) W := fun W => by have h := hV2 W; rw [show nb + 1 - 1 = nb by omega] at h; exact h
          have EV2 := Lib.hid (show ExsAt wc V2 B' from hVE2 wc (b :: B') (by rw [List.length_cons, NB.out]) EB.out)
          have hON : (O.length + 1) * 72 ≤ 140737488355328 := by omega
          clear hV2 hVE2 g2
          go_wp2_with (at_builtin; refine wp_append_sta exType rfl _ _ rfl _ (List.length O) _ rfl O2.out [.string (strOfNums b.1), .int .i64 b.2.kind, .bool b.2.weak, .int .u64 b.2.value, .int .u64 b.2.resolver, .int .u64 b.2.ordinal, .string (strOfNums b.2.other)] rfl W1.heap.size rfl N2.out (exCs_one (strOfNums b.1) b.2) hON (by decide) G2.out.size ?_)
          intro v' w5 ho5 hg5 hv5
          have G5 := Lib.hid (grown_opt G2.out hg5 (fun g e => (O2.out.lt g e).1))
          have O5 := Lib.hid (show w5.ownsRow wc.heap.size 28 7 v' (O ++ [b]).length ((O ++ [b]).flatMap outCs) from by rw [List.length_append, List.length_singleton, List.flatMap_append, List.flatMap_singleton]; exact ho5)
          clear ho5 hg5 hv5 k0 k1 k2 k3 k4 k5 k6
          go_wp2
          go_roundw
          case rel => exact ⟨⟨A, _, ca, B', V2, cb - 1, O ++ [b], by rw [← NA.out], by rw [← NB.out], by rw [← NA.out]; omega, by rw [← NB.out]; omega, by omega, by omega, EA.out, EV2.out, O5.out, by have h := PM.out; refine List.Perm.trans ?_ h; rw [List.append_assoc]; exact List.Perm.append_left O (List.perm_middle (l₁ := A) (a := b) (l₂ := B')).symm, (srt_step SB.out SA.out HLE.out).2, (srt_step SB.out SA.out HLE.out).1⟩, G5.out⟩
          case measure => simp [slN]
        | cons a A' =>
          have EA1 := Lib.hid (show ExsAt wc qa (a :: A') from hA ▸ EA.out)
          obtain ⟨ga, oa, hqa, j0, j1, j2, j3, j4, j5, j6⟩ := (EA1.out.grown GL.out).head
          have hna0 : 1 ≤ na := by rw [hna, hA]; simp
          have da : decide ((0 : Int) < ((na : Nat) : Int)) = true := by simp; omega
          have da2 : decide (0 < na) = true := by simp; omega
          have hcmp := le_is a.1 b.1
          have hnle := HLN.out a A' hA
          unfold leX at hnle
          rw [show nmLt (nums b.1) (nums a.1) = true by simpa using hnle] at hcmp
          obtain ⟨x, hx⟩ : ∃ x, Op.bytesLess (strOfNums a.1).toList (strOfNums b.1).toList = x := ⟨_, rfl⟩
          obtain ⟨y, hy⟩ : ∃ y, ((strOfNums a.1).toList == (strOfNums b.1).toList) = y := ⟨_, rfl⟩
          rw [hx, hy, Bool.not_true] at hcmp
          have HQA := Lib.hid hQA
          clear hA hna hQA hnle
          subst hqa
          go_wp2
          go_quiet (fail)
          clear k0 k1 k2 k3 k4 k5 k6 j0 j1 j2 j3 j4 j5 j6 hx hy hcmp
          have hQA := HQA.out
          subst hQA
          have G1 := Lib.hid (grown_drewN GL.out nq)
          obtain ⟨g', o', e, k0, k1, k2, k3, k4, k5, k6⟩ := (EB.out.grown G1.out).head
          injection e with e
          injection e with e1 e2 _
          subst e1 e2
          obtain ⟨W1, hW1⟩ : ∃ W1, wr.drewN nq = W1 := ⟨_, rfl⟩
          rw [hW1] at k0 k1 k2 k3 k4 k5 k6 G1 ⊢
          have OD := Lib.hid (show W1.ownsRow wc.heap.size 28 7 (.slice qo (List.length O) co) (List.length O) (O.flatMap outCs) from by rw [← hW1]; exact own_grown OO.out (grown_drewN (grown_refl wr none) nq))
          clear hW1
          have g2 := grown1 W1 (.cells #[.string (strOfNums b.1), .int .i64 b.2.kind, .bool b.2.weak, .int .u64 b.2.value, .int .u64 b.2.resolver, .int .u64 b.2.ordinal, .string (strOfNums b.2.other)] 28)
          have O2 := Lib.hid (own_grown OD.out g2)
          have N2 := Lib.hid (heap_alloc_new W1 (.cells #[.string (strOfNums b.1), .int .i64 b.2.kind, .bool b.2.weak, .int .u64 b.2.value, .int .u64 b.2.resolver, .int .u64 b.2.ordinal, .string (strOfNums b.2.other)] 28))
          have G2 := Lib.hid (grown_trans G1.out g2)
          obtain ⟨V2, hV2, hVE2⟩ := exs_lo gb ob (nb + 1) cb 1 (by omega) (by omega)
          have HV2 : ∀ W, (Instr.slice 23 (.slice (some ⟨gb, ob, none⟩) (nb + 1) cb) (some (.int .i64 1)) none none).run Tryz.prog W = .ok (.slice V2 nb (cb - 1)) W := fun W => by have h := hV2 W; rw [show nb + 1 - 1 = nb by omega] at h; exact h
          have EV2 := Lib.hid (show ExsAt wc V2 B' from hVE2 wc (b :: B') (by rw [List.length_cons, NB.out]) EB.out)
          have hON : (O.length + 1) * 72 ≤ 140737488355328 := by omega
          clear hV2 hVE2 g2
          go_wp2_with (at_builtin; refine wp_append_sta exType rfl _ _ rfl _ (List.length O) _ rfl O2.out [.string (strOfNums b.1), .int .i64 b.2.kind, .bool b.2.weak, .int .u64 b.2.value, .int .u64 b.2.resolver, .int .u64 b.2.ordinal, .string (strOfNums b.2.other)] rfl W1.heap.size rfl N2.out (exCs_one (strOfNums b.1) b.2) hON (by decide) G2.out.size ?_)
          intro v' w5 ho5 hg5 hv5
          have G5 := Lib.hid (grown_opt G2.out hg5 (fun g e => (O2.out.lt g e).1))
          have O5 := Lib.hid (show w5.ownsRow wc.heap.size 28 7 v' (O ++ [b]).length ((O ++ [b]).flatMap outCs) from by rw [List.length_append, List.length_singleton, List.flatMap_append, List.flatMap_singleton]; exact ho5)
          clear ho5 hg5 hv5 k0 k1 k2 k3 k4 k5 k6
          go_wp2
          go_roundw
          case rel => exact ⟨⟨A, _, ca, B', V2, cb - 1, O ++ [b], by rw [← NA.out], by rw [← NB.out], by rw [← NA.out]; omega, by rw [← NB.out]; omega, by omega, by omega, EA.out, EV2.out, O5.out, by have h := PM.out; refine List.Perm.trans ?_ h; rw [List.append_assoc]; exact List.Perm.append_left O (List.perm_middle (l₁ := A) (a := b) (l₂ := B')).symm, (srt_step SB.out SA.out HLE.out).2, (srt_step SB.out SA.out HLE.out).1⟩, G5.out⟩
          case measure => simp [slN]
end Go.Proofs.YtbnnlbdjjpmgeaaGreat


namespace Go.Proofs.YtbnnlbdjjpmgeaaGreat
open Go.RowKit
variable {w w' W V : World} {xs : List Int}

theorem allN_vis (xs : List Int) (h : xs ≠ []) {r : Int × (Nat × Out)} (hr : vis xs mtAll 257 [] [] 0 (0, []) = r) : allN xs = if r.1 ≠ 0 then ([], r.1) else (r.2.2, 0) := by
  unfold allN
  rw [if_neg h, hr]
set_option maxRecDepth 20000 in
set_option maxHeartbeats 1600000 in
theorem refAll_any {q : Option Addr} {c n : Nat} (h : IsBytes w q c xs) (hn : xs.length = n) (hb : Byt xs) (hc : n ≤ c) (hcm : c ≤ 9223372036854775807) (hbig : n ≤ 140737488355328) :
    Calls Tryz.prog 11 #[.slice q n c] w fun e w' => AlOut w w' xs e := by
  by_cases hx : xs = []
  · subst hx
    have FN := Lib.hid (show AlOut w w [] (.returned (.tuple #[.slice none 0 0, .int .i64 0])) from ⟨⟨[], none, 0, rfl, RowEx.nil, List.Pairwise.nil, List.Perm.refl _, Nat.le_refl _, by decide⟩, grown_refl _ _⟩)
    have h0 : ((n : Int) == 0) = true := by rw [← hn]; rfl
    clear h hn hb
    go_enter Tryz.func11, Tryz.ntmps11
    go_wp2
    go_ret2
    exact FN.out
  have hpos : 0 < xs.length := by cases xs with | nil => exact absurd rfl hx | cons => simp
  obtain ⟨b, o, rfl, hcell⟩ := h.2 hpos
  have hbl : b < w.heap.size := by
    have := World.block_lt_of_cell? w _ (hcell 0 hpos)
    exact this
  have h0 : ((n : Int) == 0) = false := by simp; omega
  obtain ⟨wk, hwk⟩ : ∃ wk, w.heap.size = wk := ⟨_, rfl⟩
  have g1 := grown1 w (.cells #[.slice (some ⟨b, o, none⟩) n c, .int .i64 0, .slice none 0 0] 93)
  have k1 : WkR (w.alloc (.cells #[.slice (some ⟨b, o, none⟩) n c, .int .i64 0, .slice none 0 0] 93)) w.heap.size (.slice (some ⟨b, o, none⟩) n c) 0 (.slice none 0 0) := heap_alloc_new w _
  obtain ⟨W1, hW1⟩ : ∃ W1, w.alloc (.cells #[.slice (some ⟨b, o, none⟩) n c, .int .i64 0, .slice none 0 0] 93) = W1 := ⟨_, rfl⟩
  rw [hW1] at g1 k1
  rw [hwk] at k1
  have d1 : DnI wk (.slice (some ⟨b, o, none⟩) n c) W1 (fun k => k = wk) 0 [] := ⟨⟨none, 0, k1, World.ownsRow_nil _ _ _ _, fun g e => by cases e⟩, rfl, fun k hk => by rw [hk]; exact k1.lt⟩
  rw [← hn] at d1
  have DN := down_any (b := b) (o := o) (c := c) (wk := wk) hb (by omega) hcm (by omega) 257 W1 (fun k => k = wk) 0 [] [] [] 0 none 0 (by simp) (by simp) (by decide) (by decide) (by simp) (by simp) (fun x hx => by cases hx) IntAt.nil (fun g o e => by cases e) (fun i hi => grown_cell g1 (hcell i hi)) (by omega) (Nat.lt_of_lt_of_le hbl g1.size) d1
  have hrk : rk xs.length 0 = 0 := by unfold rk; rw [if_pos (by omega)]
  rw [hrk, hn] at DN
  have AN := allN_vis xs hx rfl
  obtain ⟨⟨er, m9, out⟩, hr⟩ : ∃ r, r = vis xs mtAll 257 [] [] 0 (0, []) := ⟨_, rfl⟩
  rw [← hr] at DN AN
  simp only [] at AN
  have ANH := Lib.hid AN
  have DNH := Lib.hid DN
  have G1 := Lib.hid g1
  have HW1 := Lib.hid hW1
  have HWK := Lib.hid hwk
  clear hr AN DN d1 k1 g1 hW1 hwk hcell hrk h hx hpos
  go_enter Tryz.func11, Tryz.ntmps11
  go_upto_region 4 with fail
  rw [HW1.out, HWK.out]
  have HWK2 := HWK.out
  clear HW1 HWK
  go_wp2_with fail
  refine DNH.out.mono ?_
  rintro e W2 ⟨rfl, ⟨F2, ⟨⟨ql, cq, y1, y2, y3⟩, -, -⟩, hF2⟩, hch, hfew⟩
  have G2 := Lib.hid (grown_chg0 hch G1.out (fun k hk => by rw [hk]; omega))
  simp only [] at y1 y2 hfew
  obtain ⟨c0, c1, c2⟩ := y1.c
  by_cases he : er = 0
  · subst he
    have AN := ANH.out
    rw [if_neg (by simp)] at AN
    have FW := hfew rfl
    have SO := Lib.hid (sorted_any out.length out ql cq W2 rfl (by omega) (own_room8 y2) (own_max y2) (RowEx.of y2).exs)
    have FIN := Lib.hid (fun (R : Out) (v : Value) (W3 : World) (ho : W3.ownsRow W2.heap.size 28 7 v R.length (R.flatMap outCs)) (hp : R.Perm out) (hs : Srt R) (hg : W2.grownBy W3 none) => (show AlOut w W3 xs (.returned (.tuple #[v, .int .i64 0])) from by
      obtain ⟨q3, c3, rfl⟩ := own_slice ho
      exact ⟨⟨R, q3, c3, by rw [AN], RowEx.of ho, hs, by rw [AN]; exact hp, own_room8 ho, own_max ho⟩, grown_trans G2.out hg⟩))
    clear y1 y2 y3 hF2 hch hfew AN FW
    obtain ⟨N, hN⟩ : ∃ N, N = out.length := ⟨_, rfl⟩
    rw [← hN] at c2 SO
    clear hN
    go_wp2_with fail
    refine SO.out.mono ?_
    rintro e W3 ⟨⟨R, v, rfl, ho, hp, hs⟩, hg⟩
    have F := Lib.hid (FIN.out R v W3 ho hp hs hg)
    clear ho hp hs hg
    go_wp2
    go_ret2
    exact F.out
  · have de : (er != 0) = true := by simpa using he
    have AN := ANH.out
    rw [if_pos he] at AN
    have FN := Lib.hid (show AlOut w W2 xs (.returned (.tuple #[.slice none 0 0, .int .i64 er])) from ⟨⟨[], none, 0, by rw [AN]; rfl, RowEx.nil, List.Pairwise.nil, by rw [AN], Nat.le_refl _, by decide⟩, G2.out⟩)
    clear he y1 y2 y3 hF2 hch hfew AN
    go_wp2
    go_ret2
    exact FN.out
end Go.Proofs.YtbnnlbdjjpmgeaaGreat


namespace Go.Proofs.YtbnnlbdjjpmgeaaGreat
open Go.RowKit
variable {w w' W V : World} {xs : List Int}

theorem all_one (hb : Byt xs) {D E : Out} (h1 : Rises D) (p1 : D.Perm (allN xs).1) (h2 : Rises E) (p2 : E.Perm (allN xs).1) : D = E := by
  obtain ⟨⟨er, out⟩, hw⟩ : ∃ r, r = walkN xs mtAll [] := ⟨_, rfl⟩
  have AW := allN_walk xs
  rw [← hw] at AW
  by_cases he : er = 0
  · subst he
    rw [if_neg (by simp)] at AW
    rw [AW] at p1 p2
    have WL := whole_of hb hw.symm
    exact rises_one h1 h2 (p1.trans p2.symm) (fun y hy => (WL.told y (p1.mem_iff.1 hy)).1) (p1.symm.pairwise WL.once (fun h => Ne.symm h))
  · rw [if_pos he] at AW
    rw [AW] at p1 p2
    rw [List.perm_nil.1 p1, List.perm_nil.1 p2]
end Go.Proofs.YtbnnlbdjjpmgeaaGreat


namespace Go.Proofs.YtbnnlbdjjpmgeaaGreat
open Go.RowKit
variable {w w' W V : World} {xs : List Int}

def textM (t : List Int) : Bool := decide (t.length ≤ 255) && decide ((0 : Int) ∉ t)
theorem textMay_any {t : List Int} (ht : Byt t) (hl : t.length ≤ 9223372036854775807) (w : World) :
    Calls Tryz.prog 55 #[.string (strOfNums t)] w fun e w' => e = .returned (.bool (textM t)) ∧ w' = w := by
  have hst : (strOfNums t).size = t.length := strOfNums_size _
  have IB := Lib.hid (Tryz.strings_IndexByte (strOfNums t) 0 w)
  rw [show (strOfNums t).data.toList = Lib.bytesOf t from strOfNums_data t, show (0 : Int).toNat.toUInt8 = 0 from rfl] at IB
  have HI := index0 ht
  unfold textM
  rw [← HI]
  generalize Lib.indexByte (Lib.bytesOf t) 0 = r at *
  clear HI ht
  by_cases h : t.length ≤ 255
  · have hd : decide ((t.length : Int) ≤ 255) = true := by simp; omega
    rw [decide_eq_true h]
    go_enter Tryz.func55, Tryz.ntmps55
    go_wp2_with (refine IB.out.mono ?_; rintro e w' ⟨rfl, rfl⟩)
    go_ret
    exact ⟨rfl, rfl⟩
  · have hd : decide ((t.length : Int) ≤ 255) = false := by simp; omega
    rw [decide_eq_false h]
    go_enter Tryz.func55, Tryz.ntmps55
    go_wp2
    go_ret
    exact ⟨rfl, rfl⟩
set_option maxRecDepth 20000 in
theorem refTextMay_any {t : List Int} (ht : Byt t) (hl : t.length ≤ 9223372036854775807) (n : Nat) (w : World) :
    Calls Tryz.prog 65 #[.string (strOfNums t), .int .i64 n] w fun e w' => e = .returned (.bool (decide (n ≤ t.length) && textM t)) ∧ w.grownBy w' none := by
  have hst : (strOfNums t).size = t.length := strOfNums_size _
  have PS := pre_self t
  unfold textM
  rw [← PS]
  by_cases h0 : n ≤ t.length
  · have hd0 : decide ((n : Int) ≤ (t.length : Int)) = true := by simp; omega
    rw [decide_eq_true h0]
    by_cases h : t.length ≤ 255
    · have hd : decide ((t.length : Int) ≤ 255) = true := by simp; omega
      rw [decide_eq_true h]
      have CV := Lib.run_convert_string_bytes (P := Tryz.prog) w 9 29 5 (strOfNums t) Tryz.underlying9 Tryz.underlying29 Tryz.underlying5
      have GB := Lib.hid (turned_grown w 5 (strOfNums t))
      have NM := Lib.hid (name01_any w.heap.size 0 _ _ t (bytes_there w 5 ht _) rfl (show t.length ≤ 140737488355328 by omega) (grownCap_ge w t.length 0 5))
      rw [hst] at CV
      have HN : ((strOfNums (pre t)).toList == (strOfNums t).toList) = decide (pre t = t) := text_same (pre_bytes ht) ht
      go_enter Tryz.func65, Tryz.ntmps65
      go_wp2_with (refine NM.out.mono ?_; rintro e w' ⟨rfl, rfl⟩)
      go_ret
      exact ⟨by rw [PS]; simp, GB.out⟩
    · have hd : decide ((t.length : Int) ≤ 255) = false := by simp; omega
      rw [decide_eq_false h]
      go_enter Tryz.func65, Tryz.ntmps65
      go_wp2
      go_ret
      exact ⟨rfl, grown_refl _ _⟩
  · have hd0 : decide ((n : Int) ≤ (t.length : Int)) = false := by simp; omega
    rw [decide_eq_false h0]
    go_enter Tryz.func65, Tryz.ntmps65
    go_wp2
    go_ret
    exact ⟨rfl, grown_refl _ _⟩
end Go.Proofs.YtbnnlbdjjpmgeaaGreat


namespace Go.Proofs.YtbnnlbdjjpmgeaaGreat
open Go.RowKit
variable {w w' W V : World} {xs : List Int}

def kindM (x : Ex) : Bool :=
  if x.kind = 1 ∨ x.kind = 2 then decide (x.resolver = 0) && decide (x.ordinal = 0) && decide (x.other = [])
  else if x.kind = 3 then decide (x.value = 0) && decide (x.resolver = 0)
  else if x.kind = 4 then decide (x.ordinal = 0) && decide (x.other = [])
  else false
def mayE (nm : List Int) (x : Ex) : Bool := !decide (nm = []) && textM nm && textM x.other && kindM x
set_option maxRecDepth 20000 in
set_option maxHeartbeats 1600000 in
theorem May_any {nm : List Int} {x : Ex} (hn : Byt nm) (ho : Byt x.other) (hl : nm.length ≤ 9223372036854775807) (hl2 : x.other.length ≤ 9223372036854775807) (w : World) :
    Calls Tryz.prog 21 #[exV (strOfNums nm) x] w fun e w' => e = .returned (.bool (mayE nm x)) ∧ w.grownBy w' none := by
  have TN := Lib.hid (fun W => textMay_any hn hl W)
  have TO := Lib.hid (fun W => textMay_any ho hl2 W)
  have n1 := text_nil nm
  have n2 := text_nil x.other
  have E3 : ExAt (w.alloc (.cells (exArr (strOfNums nm) x) 28)) w.heap.size (strOfNums nm) x := heap_alloc_new w _
  obtain ⟨c0, c1, c2, c3, c4, c5, c6⟩ := E3.c
  clear E3
  obtain ⟨r, hr⟩ : ∃ r, r = mayE nm x := ⟨_, rfl⟩
  rw [← hr]
  unfold mayE kindM at hr
  generalize textM nm = M at *
  generalize textM x.other = O at *
  obtain ⟨kind, weak, value, resolver, ordinal, other⟩ := x
  simp only [exV, exArr] at *
  have HR := Lib.hid hr
  clear hr ho hn
  cases M <;> cases O <;> (
    go_enter Tryz.func21, Tryz.ntmps21
    go_wp2_with (first
      | (with_reducible refine (TN.out _).mono ?_; rintro e w' ⟨rfl, rfl⟩)
      | (with_reducible refine (TO.out _).mono ?_; rintro e w' ⟨rfl, rfl⟩)))
  all_goals (go_ret; refine ⟨?_, grown1 _ _⟩; have hr := HR.out; clear HR TN TO; simp_all)
  all_goals rfl
set_option maxRecDepth 20000 in
set_option maxHeartbeats 1600000 in
theorem refMay_any {nm : List Int} {x : Ex} (hn : Byt nm) (ho : Byt x.other) (hl : nm.length ≤ 9223372036854775807) (hl2 : x.other.length ≤ 9223372036854775807) (w : World) :
    Calls Tryz.prog 28 #[exV (strOfNums nm) x] w fun e w' => e = .returned (.bool (mayE nm x)) ∧ w.grownBy w' none := by
  have TN := Lib.hid (fun W => refTextMay_any hn hl 1 W)
  have TO := Lib.hid (fun W => refTextMay_any ho hl2 0 W)
  have n1 : decide (1 ≤ nm.length) = !decide (nm = []) := by cases nm <;> simp
  have n2 := text_nil x.other
  rw [n1] at TN
  rw [show decide (0 ≤ x.other.length) = true from rfl, Bool.true_and] at TO
  have g1 := grown1 w (.cells (exArr (strOfNums nm) x) 28)
  have E3 : ExAt (w.alloc (.cells (exArr (strOfNums nm) x) 28)) w.heap.size (strOfNums nm) x := heap_alloc_new w _
  obtain ⟨c0, c1, c2, c3, c4, c5, c6⟩ := E3.c
  obtain ⟨r, hr⟩ : ∃ r, r = mayE nm x := ⟨_, rfl⟩
  rw [← hr]
  unfold mayE kindM at hr
  generalize (!decide (nm = []) && textM nm) = M at *
  generalize textM x.other = O at *
  have HE := Lib.hid E3
  have HG := Lib.hid g1
  clear g1 E3 n1
  obtain ⟨kind, weak, value, resolver, ordinal, other⟩ := x
  simp only [exV, exArr] at *
  have HR := Lib.hid hr
  clear hr ho hn
  cases M
  · go_enter Tryz.func28, Tryz.ntmps28
    go_wp2_with fail
    refine (TN.out _).mono ?_
    rintro e w1 ⟨rfl, hg1⟩
    have G1 := Lib.hid (grown_trans HG.out hg1)
    clear hg1
    go_wp2
    go_ret
    exact ⟨by rw [HR.out]; rfl, G1.out⟩
  · go_enter Tryz.func28, Tryz.ntmps28
    go_wp2_with fail
    refine (TN.out _).mono ?_
    rintro e w1 ⟨rfl, hg1⟩
    have E1 := HE.out.kept hg1 (by simp)
    obtain ⟨c0, c1, c2, c3, c4, c5, c6⟩ := E1.c
    have H1 := Lib.hid E1
    have G1 := Lib.hid (grown_trans HG.out hg1)
    clear hg1 E1
    go_wp2_with fail
    refine (TO.out _).mono ?_
    rintro e w2 ⟨rfl, hg2⟩
    have E2 := H1.out.kept hg2 (by simp)
    obtain ⟨c0, c1, c2, c3, c4, c5, c6⟩ := E2.c
    have G2 := Lib.hid (grown_trans G1.out hg2)
    clear hg2 E2
    cases O
    all_goals go_wp2
    all_goals (go_ret; refine ⟨?_, G2.out⟩; have hr := HR.out; clear HR TN TO G1 G2 HE HG H1; simp_all)
    all_goals rfl
end Go.Proofs.YtbnnlbdjjpmgeaaGreat


namespace Go.Proofs.YtbnnlbdjjpmgeaaGreat
open Go.RowKit
variable {w : World}

def encU (n : Nat) : List Int := if n < 128 then [(n : Int)] else (((n % 128 : Nat) : Int) + 128) :: encU (n / 128)
termination_by n
decreasing_by omega
theorem encU_small {n : Nat} (h : n < 128) : encU n = [(n : Int)] := by rw [encU, if_pos h]
theorem encU_big {n : Nat} (h : ¬ n < 128) : encU n = (((n % 128 : Nat) : Int) + 128) :: encU (n / 128) := by rw [encU, if_neg h]
theorem putclo_any (bn m : Nat) (hb : w.heap[bn]? = some (.cells #[.int .u64 m] 26 (0, 0))) :
    Calls Tryz.prog 105 #[.pointer (some ⟨bn, 0, none⟩)] w fun e w' =>
      e = .returned (.tuple #[.int .u8 ((m % 128 : Nat) : Int), .bool (decide (m < 128))]) ∧ w'.heap[bn]? = some (.cells #[.int .u64 ((m / 128 : Nat) : Int)] 26 (0, 0)) ∧ w.grownBy w' (some bn) := by
  have c0 : w.cell? ⟨bn, 0, none⟩ = some (.int .u64 m) := by rw [cell_of hb]; rfl
  have f0 := free_of (i := 0) hb
  have hl : decide (m < 128) = ((m : Int) / 128 == 0) := by
    by_cases h : m < 128
    · rw [decide_eq_true h, Eq.comm, beq_iff_eq]; omega
    · rw [decide_eq_false h, Eq.comm, beq_eq_false_iff_ne]; omega
  rw [show ((m / 128 : Nat) : Int) = (m : Int) / 128 by omega, show ((m % 128 : Nat) : Int) = (m : Int) % 128 by omega, hl]
  have E := Lib.hid (And.intro (block_setCell hb (.int .u64 ((m : Int) / 128))) (grown_setCell (i := 0) (grown_refl w (some bn)) (.int .u64 ((m : Int) / 128))))
  clear hl hb
  go_enter Tryz.func105, Tryz.ntmps105
  go_wp2
  go_quiet (fail)
  go_wp2
  go_ret2
  exact ⟨rfl, E.out.1, grown_drewN E.out.2 _⟩
end Go.Proofs.YtbnnlbdjjpmgeaaGreat

