/- Parts of the proof, put together: MkG, MkH, RmP, ExsA, MkI, LoopF, MkV, SortO, MkSf, OwnL, MkQ, RefPut. No condition beyond those that each part names. -/
import Derived.Shelf.Small.Bits
import Derived.Shelf.Small.Strs
import Derived.Shelf.Strconv.Itoa0
import Derived.Shelf.Strings.Search1
import Derived.Shelf.Bytes.SlIndexAt
import Derived.Shelf.Bytes.SlSearch0
import Derived.Ground.SlbCloneProg
import Derived.Shelf.Bytes.SlClone
import Derived.Shelf.Bytes.IndexByte
import Derived.Test.YtbnnlbdjjpmgeaaProg
import Derived.Test.YtbnnlbdjjpmgeaaRows
import Derived.WalkKit
import Derived.WalkSpells
import Derived.WalkLawsBesides
import Derived.BigQuiet
import Derived.Deep.QuietTactic
import Derived.Lib.Hide
import Derived.IntWalk
import Derived.OneCell
import Derived.Laws.Rows
import Derived.OpenShut
import Derived.ProofKit
import Derived.Lib.EndianBits
import Derived.RegionTactic
import Derived.ChangeAlike
import Derived.WalkMore
import Derived.Laws.BytesArg
import Derived.Shelf.Bytes.SlEqualAll
import Derived.Lib.SlFresh
import Derived.Maps.AppendAt
import Derived.Deep.AppendSrc
import Derived.Deep.Upon
import Derived.Lib.AppendZeros
import Derived.Laws.IdiomStrings
import Derived.Lib.AppendZerosOnto
import Derived.Laws.StructEq
import Derived.Below
import Derived.Shelf.Abstract
import Derived.Laws.ResultCell
import Derived.Deep.Slices
import Derived.ChangeSame
import Derived.Laws.OwnMore
import Derived.Laws.Slices
import Derived.Lib.ConvBytes
import Derived.StringKeys
import Derived.Maps.Own
import Derived.Maps.OwnOps
import Derived.Maps.OwnSet
import Derived.WideShapes
import Derived.Deep.Cut
import Derived.Deep.CutRange
import Derived.PlainAid
import Derived.Lib.SlBytesRow
import Derived.Deep.Onto
import Derived.Laws.EntriesVeiled
import Derived.Shelf.SlSortCmp.WholeK
import Derived.Shelf.SlGeneric
import Derived.Ground.SlsfProg
import Derived.Deep.LoopGhost
import Derived.StillTailTactics
import Derived.Deep.RegionWith
import Derived.Deep.RegionHeld3
import Derived.Lib.SmallJoins
import Derived.Laws.Bits128
import Derived.RangeFuncNested
import Derived.RangeFuncBound
import Derived.RangeFuncCalls
import Derived.Shelf.RegionOpen
import Derived.OwnWalkIn
import Derived.TacticsInMore
import Derived.RangeFuncIn
import Derived.RangeFuncLeaves
import Derived.Maps.OwnIn
import Derived.Test.YtbnnlbdjjpmgeaaPT2
import Derived.Test.YtbnnlbdjjpmgeaaPT3
import Derived.Test.YtbnnlbdjjpmgeaaPT4
import Derived.Test.YtbnnlbdjjpmgeaaPT5
import Derived.Test.YtbnnlbdjjpmgeaaPT6
namespace Go.Proofs.Ytbnnlbdjjpmgeaa
open Go.RowKit

def preB (a q : List Int) : Bool := decide (a.take (lcpN a q) = a)
theorem pre_yes {a q : List Int} (h : a <+: q) : preB a q = true := by
  obtain ⟨s, rfl⟩ := h
  unfold preB
  rw [lcp_pre, List.take_length]
  simp
theorem pre_no {p a q : List Int} {c d : Int} (ha : p ++ [c] <+: a) (hq : p ++ [d] <+: q) (h : c ≠ d) : preB a q = false := by
  obtain ⟨s, rfl⟩ := ha
  obtain ⟨t, rfl⟩ := hq
  unfold preB
  rw [List.append_assoc, List.append_assoc, List.singleton_append, List.singleton_append, lcp_diff h, List.take_left]
  rw [decide_eq_false_iff_not]
  intro e
  have := congrArg List.length e
  rw [List.length_append, List.length_cons] at this
  omega
def popN (N : List (List Int)) (q : List Int) (st : List Nat) : List Nat := st.dropWhile fun s => !preB (N.getD s []) q
abbrev StK := List Nat × (Nat → List Nat)
def stepK (N : List (List Int)) (i : Nat) (st : StK) : StK :=
  (i :: popN N (N.getD i []) st.1, match popN N (N.getD i []) st.1 with
    | [] => st.2
    | u :: _ => fun j => if j = u then st.2 j ++ [i] else st.2 j)
def runK (N : List (List Int)) : Nat → Nat → StK → StK
  | 0, _, st => st
  | n + 1, i, st => runK N n (i + 1) (stepK N i st)
theorem runK_add (N : List (List Int)) : ∀ (a b i : Nat) (st : StK), runK N (a + b) i st = runK N b (i + a) (runK N a i st)
  | 0, b, i, st => by simp [runK]
  | a + 1, b, i, st => by
    rw [show a + 1 + b = (a + b) + 1 by omega]
    simp only [runK]
    rw [runK_add N a b (i + 1), show i + 1 + a = i + (a + 1) by omega]
def kidsAt (nodes : List PN) (i : Nat) : List Nat := ((nodes[i]?).map fun nd => nd.kids.map Prod.snd).getD []
theorem names_len (k : Nat) : ∀ (l : Out) (size base : Nat), (namesA k l size).length = (plan k l size base).length := by
  induction k with
  | zero => intro l size base; rfl
  | succ k ih =>
    have hk : ∀ (n : Nat) (l : Out) (size base : Nat), (namesK (namesA k) n l size).length = (planK (plan k) n l size base).2.length := by
      intro n
      induction n with
      | zero => intro l size base; rfl
      | succ n ihn =>
        intro l size base
        cases l with
        | nil => rfl
        | cons y l =>
          simp only [namesK, planK, List.length_append]
          rw [ih _ _ base, ihn]
    intro l size base
    simp only [namesA, plan, List.length_cons]
    rw [hk]
theorem pop_step {N : List (List Int)} {p q : List Int} {d : Int} {b : Nat} {rest : List Nat} (hq : p ++ [d] <+: q) (hb : N.getD b [] = p) : ∀ (S : List Nat), (∀ s ∈ S, ∃ c, p ++ [c] <+: N.getD s [] ∧ c ≠ d) → popN N q (S ++ b :: rest) = b :: rest
  | [], _ => by
    unfold popN
    rw [List.nil_append, List.dropWhile_cons, hb, pre_yes ((List.prefix_append p [d]).trans hq)]
    rfl
  | s :: S, h => by
    obtain ⟨c, h1, h2⟩ := h s (List.mem_cons_self ..)
    have ih := pop_step (rest := rest) hq hb S (fun s hs => h s (List.mem_cons_of_mem _ hs))
    unfold popN at ih ⊢
    rw [List.cons_append, List.dropWhile_cons, pre_no h1 hq h2]
    exact ih
structure SubK (N : List (List Int)) (base len : Nat) (nodes : List PN) (o : List Nat) (K : Nat → List Nat) (st : StK) : Prop where
  stack : ∃ S, st.1 = S ++ base :: o ∧ ∀ s ∈ S, base < s ∧ s < base + len
  kids : ∀ j, st.2 j = if base ≤ j ∧ j < base + len then K j ++ kidsAt nodes (j - base) else if o.head? = some j then K j ++ [base] else K j
theorem kidsAt_left {a b : List PN} {i : Nat} (h : i < a.length) : kidsAt (a ++ b) i = kidsAt a i := by
  unfold kidsAt
  rw [List.getElem?_append_left h]
theorem kidsAt_right {a b : List PN} {i : Nat} (h : a.length ≤ i) : kidsAt (a ++ b) i = kidsAt b (i - a.length) := by
  unfold kidsAt
  rw [List.getElem?_append_right h]
theorem run_plan (N : List (List Int)) : ∀ (k : Nat) (l : Out) (p : List Int) (base : Nat) (o : List Nat) (K : Nat → List Nat), l ≠ [] → Rise p l → (∀ y ∈ l, y.1.length ≤ 255) → 257 ≤ k + p.length → (∀ j, j < (namesA k l p.length).length → N.getD (base + j) [] = (namesA k l p.length).getD j []) → (∀ s ∈ o, s < base) →
    SubK N base (plan k l p.length base).length (plan k l p.length base) (popN N p o) K (runK N (plan k l p.length base).length base (o, K)) := by
  intro k
  induction k with
  | zero =>
    intro l p base o K hl hr h255 hk
    cases l with
    | nil => exact absurd rfl hl
    | cons y l =>
      obtain ⟨s, hs⟩ := hr.pre y (List.mem_cons_self ..)
      have h1 := h255 y (List.mem_cons_self ..)
      rw [hs, List.length_append] at h1
      omega
  | succ k ih =>
    intro l p base o K hl hr h255 hk hN ho
    obtain ⟨hrl, hown⟩ := hr.own hl
    have hrest : ∀ y ∈ restN p.length l, y ∈ l := by
      intro y hy
      cases ho : ownN p.length l with
      | none => rw [ho] at hown; rw [← hown]; exact hy
      | some x => rw [ho] at hown; rw [hown]; exact List.mem_cons_of_mem _ hy
    have kidsR : ∀ (n : Nat) (l2 : Out) (base2 : Nat) (S0 : List Nat) (b : Nat) (rest : List Nat) (K2 : Nat → List Nat), l2.length ≤ n → RiseL p l2 → (∀ y ∈ l2, y.1.length ≤ 255) → (∀ j, j < (namesK (namesA k) n l2 p.length).length → N.getD (base2 + j) [] = (namesK (namesA k) n l2 p.length).getD j []) →
        N.getD b [] = p → b < base2 → (∀ s ∈ S0, s < base2 ∧ b < s) → (∀ s ∈ rest, s < b) → (∀ s ∈ S0, ∀ y ∈ l2, ∃ c, p ++ [c] <+: N.getD s [] ∧ c < y.1.getD p.length 0) →
        (∃ S, (runK N (planK (plan k) n l2 p.length base2).2.length base2 (S0 ++ b :: rest, K2)).1 = S ++ b :: rest ∧ ∀ s ∈ S, b < s ∧ s < base2 + (planK (plan k) n l2 p.length base2).2.length) ∧
        ∀ j, (runK N (planK (plan k) n l2 p.length base2).2.length base2 (S0 ++ b :: rest, K2)).2 j = if base2 ≤ j ∧ j < base2 + (planK (plan k) n l2 p.length base2).2.length then K2 j ++ kidsAt (planK (plan k) n l2 p.length base2).2 (j - base2) else if j = b then K2 j ++ (planK (plan k) n l2 p.length base2).1.map Prod.snd else K2 j := by
      intro n
      induction n with
      | zero =>
        intro l2 base2 S0 b rest K2 hl2 _ _ _ _ _ hS _ _
        refine ⟨⟨S0, rfl, fun s hs => ⟨(hS s hs).2, by have := (hS s hs).1; simp only [planK, List.length_nil]; omega⟩⟩, fun j => ?_⟩
        simp only [planK, runK, List.length_nil, List.map_nil, List.append_nil]
        rw [if_neg (by omega)]
        split <;> rfl
      | succ n ihn =>
        intro l2 base2 S0 b rest K2 hl2 hr2 h2 hN2 hb hbb hS hrst hSc
        cases l2 with
        | nil =>
          refine ⟨⟨S0, rfl, fun s hs => ⟨(hS s hs).2, by have := (hS s hs).1; simp only [planK, List.length_nil]; omega⟩⟩, fun j => ?_⟩
          simp only [planK, runK, List.length_nil, List.map_nil, List.append_nil]
          rw [if_neg (by omega)]
          split <;> rfl
        | cons y l2 =>
          obtain ⟨g1, g2, g3, g4⟩ := hr2.group
          obtain ⟨s1, s2, s3, s4⟩ := hr2.split
          have hap := alike_pos (n := p.length) (y := y) (l := l2)
          obtain ⟨A, hA⟩ : ∃ A, A = alikeN p.length (y :: l2) := ⟨_, rfl⟩
          rw [← hA] at g1 g2 g3 g4 s1 s2 s3 s4 hap
          obtain ⟨e, he⟩ : ∃ e, e = lcpN y.1 (lastN ((y :: l2).take A)) := ⟨_, rfl⟩
          rw [← he] at g1 g2 g3 g4
          have hlen : (y.1.take e).length = e := by rw [List.length_take]; omega
          obtain ⟨A', hA'⟩ : ∃ A', A = A' + 1 := ⟨A - 1, by omega⟩
          have hg : (y :: l2).take A = y :: l2.take A' := by rw [hA', List.take_succ_cons]
          have hgne : (y :: l2).take A ≠ [] := by rw [hg]; simp
          obtain ⟨sub, hsub⟩ : ∃ sub, sub = plan k ((y :: l2).take A) e base2 := ⟨_, rfl⟩
          have hstep : planK (plan k) (n + 1) (y :: l2) p.length base2 = (((y.1.drop p.length).take (e - p.length), base2) :: (planK (plan k) n ((y :: l2).drop A) p.length (base2 + sub.length)).1, sub ++ (planK (plan k) n ((y :: l2).drop A) p.length (base2 + sub.length)).2) := by
            rw [hsub, he, hA]
            rfl
          have hnstep : namesK (namesA k) (n + 1) (y :: l2) p.length = namesA k ((y :: l2).take A) e ++ namesK (namesA k) n ((y :: l2).drop A) p.length := by rw [he, hA]; rfl
          have hnl : (namesA k ((y :: l2).take A) e).length = sub.length := by rw [hsub]; exact names_len k _ _ _
          rw [hnstep] at hN2
          have hNO := names_ok k ((y :: l2).take A) (y.1.take e) hgne g4 (fun x hx => h2 x (List.mem_of_mem_take hx)) (by rw [hlen]; omega)
          rw [hlen] at hNO
          obtain ⟨cy, sy, ey⟩ := hr2.pre y (List.mem_cons_self ..)
          have hcy : y.1.getD p.length 0 = cy := by rw [ey, at_pre]
          have hpe : p ++ [cy] <+: y.1.take e := by
            rw [ey]
            obtain ⟨e', rfl⟩ : ∃ e', e = p.length + 1 + e' := ⟨e - (p.length + 1), by omega⟩
            refine ⟨sy.take e', ?_⟩
            rw [List.take_append, List.take_of_length_le (l := p) (by omega), show p.length + 1 + e' - p.length = e' + 1 by omega, List.take_succ_cons, List.append_assoc]
            rfl
          have hNa : ∀ j, j < (namesA k ((y :: l2).take A) e).length → N.getD (base2 + j) [] = (namesA k ((y :: l2).take A) e).getD j [] := fun j hj => by
            rw [hN2 j (by rw [List.length_append]; omega)]
            simp only [List.getD_eq_getElem?_getD]
            rw [List.getElem?_append_left hj]
          have hNb : ∀ j, j < (namesK (namesA k) n ((y :: l2).drop A) p.length).length → N.getD (base2 + sub.length + j) [] = (namesK (namesA k) n ((y :: l2).drop A) p.length).getD j [] := fun j hj => by
            have := hN2 (sub.length + j) (by rw [List.length_append]; omega)
            rw [← Nat.add_assoc] at this
            rw [this]
            simp only [List.getD_eq_getElem?_getD]
            rw [List.getElem?_append_right (by omega), hnl, Nat.add_sub_cancel_left]
          have hpop : popN N (y.1.take e) (S0 ++ b :: rest) = b :: rest := pop_step hpe hb S0 (fun s hs => by
            obtain ⟨c, h1, h3⟩ := hSc s hs y (List.mem_cons_self ..)
            rw [hcy] at h3
            exact ⟨c, h1, by omega⟩)
          have W := ih ((y :: l2).take A) (y.1.take e) base2 (S0 ++ b :: rest) K2 hgne g4 (fun x hx => h2 x (List.mem_of_mem_take hx)) (by rw [hlen]; omega) (by rw [hlen]; exact hNa) (fun s hs => by
            rcases List.mem_append.1 hs with h | h
            · exact (hS s h).1
            · rcases List.mem_cons.1 h with h | h
              · rw [h]; exact hbb
              · have := hrst s h; omega)
          rw [hlen, ← hsub, hpop] at W
          obtain ⟨⟨S1, hS1, hS1b⟩, hK1⟩ := W
          obtain ⟨st1, hst1⟩ : ∃ st, st = runK N sub.length base2 (S0 ++ b :: rest, K2) := ⟨_, rfl⟩
          rw [← hst1] at hS1 hK1
          have hst1' : st1 = ((S1 ++ [base2]) ++ b :: rest, st1.2) := by
            refine Prod.ext ?_ rfl
            simp only []
            rw [hS1, List.append_assoc]
            rfl
          have hsubpos : 1 ≤ sub.length := by
            rw [← hnl]
            have := (hNO.mem (y.1.take e)).2 (.inl rfl)
            exact List.length_pos_of_mem this
          have hdl : ((y :: l2).drop A).length ≤ n := by rw [List.length_drop]; have : (y :: l2).length = l2.length + 1 := rfl; omega
          have R := ihn ((y :: l2).drop A) (base2 + sub.length) (S1 ++ [base2]) b rest st1.2 hdl s4 (fun x hx => h2 x (List.mem_of_mem_drop hx)) hNb hb (by omega) (fun s hs => by
            rcases List.mem_append.1 hs with h | h
            · have := hS1b s h; omega
            · rw [List.mem_singleton.1 h]; omega) hrst (fun s hs z hz => by
            have hin : base2 ≤ s ∧ s < base2 + sub.length := by
              rcases List.mem_append.1 hs with h | h
              · have := hS1b s h; omega
              · rw [List.mem_singleton.1 h]; omega
            refine ⟨cy, ?_, by have := s2 z hz; rw [hcy] at this; exact this⟩
            have hj : s - base2 < (namesA k ((y :: l2).take A) e).length := by omega
            have h3 := hNa (s - base2) hj
            rw [show base2 + (s - base2) = s by omega] at h3
            rw [h3, List.getD_eq_getElem?_getD, List.getElem?_eq_getElem hj]
            exact hpe.trans (hNO.pre _ (List.getElem_mem hj)))
          rw [← hst1'] at R
          have hrun : runK N (planK (plan k) (n + 1) (y :: l2) p.length base2).2.length base2 (S0 ++ b :: rest, K2) = runK N (planK (plan k) n ((y :: l2).drop A) p.length (base2 + sub.length)).2.length (base2 + sub.length) st1 := by
            rw [hstep]
            simp only [List.length_append]
            rw [runK_add, ← hst1]
          obtain ⟨⟨S2, hS2, hS2b⟩, hK2⟩ := R
          rw [hrun]
          refine ⟨⟨S2, hS2, fun s hs => ?_⟩, fun j => ?_⟩
          · have := hS2b s hs
            rw [hstep]
            simp only [List.length_append]
            omega
          · rw [hK2 j, hK1 j, hstep]
            simp only [List.length_append, List.head?_cons, Option.some.injEq]
            by_cases c1 : base2 + sub.length ≤ j ∧ j < base2 + sub.length + (planK (plan k) n ((y :: l2).drop A) p.length (base2 + sub.length)).2.length
            · rw [if_pos c1, if_neg (by omega), if_neg (by omega), if_pos (by omega), kidsAt_right (by omega), show j - base2 - sub.length = j - (base2 + sub.length) by omega]
            · rw [if_neg c1]
              by_cases c2 : j = b
              · rw [if_pos c2, if_neg (by omega), if_pos c2.symm, if_neg (by omega), if_pos c2]
                rw [List.append_assoc]
                rfl
              · rw [if_neg c2]
                by_cases c3 : base2 ≤ j ∧ j < base2 + sub.length
                · rw [if_pos c3, if_pos (by omega), kidsAt_left (by omega)]
                · rw [if_neg c3, if_neg (fun h => c2 h.symm), if_neg (by omega), if_neg c2]
    obtain ⟨r, hr'⟩ : ∃ r, r = planK (plan k) (restN p.length l).length (restN p.length l) p.length (base + 1) := ⟨_, rfl⟩
    have hplan : plan (k + 1) l p.length base = ⟨ownN p.length l, r.1⟩ :: r.2 := by rw [hr']; rfl
    have hhead : (headN l).take p.length = p := by
      cases l with
      | nil => exact absurd rfl hl
      | cons y l =>
        obtain ⟨s, hs⟩ := hr.pre y (List.mem_cons_self ..)
        show y.1.take p.length = p
        rw [hs, List.take_left]
    have hA : namesA (k + 1) l p.length = p :: namesK (namesA k) (restN p.length l).length (restN p.length l) p.length := by
      show (headN l).take p.length :: _ = _
      rw [hhead]
    rw [hA] at hN
    have hNb : N.getD base [] = p := by
      have := hN 0 (by simp)
      simpa using this
    have R := kidsR (restN p.length l).length (restN p.length l) (base + 1) [] base (popN N p o) (stepK N base (o, K)).2 (Nat.le_refl _) hrl (fun y hy => h255 y (hrest y hy)) (fun j hj => by
      have := hN (j + 1) (by simp only [List.length_cons]; omega)
      rw [show base + (j + 1) = base + 1 + j by omega] at this
      simpa using this) hNb (by omega) (fun s hs => by cases hs) (fun s hs => ho s ((List.dropWhile_sublist _).mem hs)) (fun s hs => by cases hs)
    rw [← hr'] at R
    have hrun : runK N (plan (k + 1) l p.length base).length base (o, K) = runK N r.2.length (base + 1) ([] ++ base :: popN N p o, (stepK N base (o, K)).2) := by
      rw [hplan]
      show runK N r.2.length (base + 1) (stepK N base (o, K)) = _
      congr 1
      refine Prod.ext ?_ rfl
      show base :: popN N (N.getD base []) o = _
      rw [hNb]
      rfl
    rw [hrun, hplan]
    obtain ⟨⟨S, hS, hSb⟩, hK⟩ := R
    refine ⟨⟨S, hS, fun s hs => by have := hSb s hs; simp only [List.length_cons]; omega⟩, fun j => ?_⟩
    rw [hK j]
    simp only [List.length_cons]
    have hst : (stepK N base (o, K)).2 j = if (popN N p o).head? = some j then K j ++ [base] else K j := by
      unfold stepK
      simp only []
      rw [hNb]
      cases hp : popN N p o with
      | nil => simp
      | cons u t =>
        simp only [List.head?_cons, Option.some.injEq]
        by_cases c : j = u
        · rw [if_pos c, if_pos c.symm]
        · rw [if_neg c, if_neg (fun h => c h.symm)]
    have hbo : (popN N p o).head? ≠ some base ∧ ∀ j, base ≤ j → (popN N p o).head? ≠ some j := by
      have : ∀ j, base ≤ j → (popN N p o).head? ≠ some j := by
        intro j hj h
        have hm : j ∈ popN N p o := List.mem_of_head? h
        have := ho j ((List.dropWhile_sublist _).mem hm)
        omega
      exact ⟨this base (Nat.le_refl _), this⟩
    by_cases c1 : base + 1 ≤ j ∧ j < base + 1 + r.2.length
    · rw [if_pos c1, if_pos (by omega), hst, if_neg (hbo.2 j (by omega))]
      obtain ⟨i, rfl⟩ : ∃ i, j = base + 1 + i := ⟨j - (base + 1), by omega⟩
      rw [show base + 1 + i - (base + 1) = i by omega, show base + 1 + i - base = i + 1 by omega]
      unfold kidsAt
      rw [List.getElem?_cons_succ]
    · rw [if_neg c1]
      by_cases c2 : j = base
      · rw [if_pos c2, if_pos (by omega), hst, if_neg (by rw [c2]; exact hbo.1), c2, Nat.sub_self]
        unfold kidsAt
        rfl
      · rw [if_neg c2, if_neg (by omega), hst]
end Go.Proofs.Ytbnnlbdjjpmgeaa


namespace Go.Proofs.Ytbnnlbdjjpmgeaa
open Go.RowKit

def ownsN : List (List Int) → List PN → Out
  | q :: N, nd :: nodes => (match nd.says with
    | none => []
    | some x => [(q, x)]) ++ ownsN N nodes
  | _, _ => []
theorem owns_app : ∀ {A : List (List Int)} {a : List PN} (B : List (List Int)) (b : List PN), A.length = a.length → ownsN (A ++ B) (a ++ b) = ownsN A a ++ ownsN B b
  | [], [], B, b, _ => by simp [ownsN]
  | [], _ :: _, _, _, h => by simp at h
  | _ :: _, [], _, _, h => by simp at h
  | q :: A, nd :: a, B, b, h => by
    simp only [List.cons_append, ownsN]
    rw [owns_app B b (by simpa using h), List.append_assoc]
theorem owns_plan : ∀ (k : Nat) (l : Out) (p : List Int) (base : Nat), l ≠ [] → Rise p l → (∀ y ∈ l, y.1.length ≤ 255) → 257 ≤ k + p.length → ownsN (namesA k l p.length) (plan k l p.length base) = l := by
  intro k
  induction k with
  | zero =>
    intro l p base hl hr h255 hk
    cases l with
    | nil => exact absurd rfl hl
    | cons y l =>
      obtain ⟨s, hs⟩ := hr.pre y (List.mem_cons_self ..)
      have h1 := h255 y (List.mem_cons_self ..)
      rw [hs, List.length_append] at h1
      omega
  | succ k ih =>
    intro l p base hl hr h255 hk
    obtain ⟨hrl, hown⟩ := hr.own hl
    have hrest : ∀ y ∈ restN p.length l, y ∈ l := by
      intro y hy
      cases ho : ownN p.length l with
      | none => rw [ho] at hown; rw [← hown]; exact hy
      | some x => rw [ho] at hown; rw [hown]; exact List.mem_cons_of_mem _ hy
    have kidsO : ∀ (n : Nat) (l2 : Out) (base2 : Nat), l2.length ≤ n → RiseL p l2 → (∀ y ∈ l2, y.1.length ≤ 255) → ownsN (namesK (namesA k) n l2 p.length) (planK (plan k) n l2 p.length base2).2 = l2 := by
      intro n
      induction n with
      | zero =>
        intro l2 base2 hl2 _ _
        have : l2 = [] := List.eq_nil_of_length_eq_zero (by omega)
        subst this
        rfl
      | succ n ihn =>
        intro l2 base2 hl2 hr2 h2
        cases l2 with
        | nil => rfl
        | cons y l2 =>
          obtain ⟨g1, g2, g3, g4⟩ := hr2.group
          obtain ⟨-, -, -, s4⟩ := hr2.split
          have hap := alike_pos (n := p.length) (y := y) (l := l2)
          obtain ⟨A, hA⟩ : ∃ A, A = alikeN p.length (y :: l2) := ⟨_, rfl⟩
          rw [← hA] at g1 g2 g3 g4 s4 hap
          obtain ⟨e, he⟩ : ∃ e, e = lcpN y.1 (lastN ((y :: l2).take A)) := ⟨_, rfl⟩
          rw [← he] at g1 g2 g3 g4
          have hlen : (y.1.take e).length = e := by rw [List.length_take]; omega
          have hgne : (y :: l2).take A ≠ [] := by
            obtain ⟨A', rfl⟩ : ∃ A', A = A' + 1 := ⟨A - 1, by omega⟩
            simp
          have hdl : ((y :: l2).drop A).length ≤ n := by rw [List.length_drop]; have : (y :: l2).length = l2.length + 1 := rfl; omega
          have W := ih ((y :: l2).take A) (y.1.take e) base2 hgne g4 (fun x hx => h2 x (List.mem_of_mem_take hx)) (by rw [hlen]; omega)
          rw [hlen] at W
          have R := ihn ((y :: l2).drop A) (base2 + (plan k ((y :: l2).take A) e base2).length) hdl s4 (fun x hx => h2 x (List.mem_of_mem_drop hx))
          have hstep : (planK (plan k) (n + 1) (y :: l2) p.length base2).2 = plan k ((y :: l2).take A) e base2 ++ (planK (plan k) n ((y :: l2).drop A) p.length (base2 + (plan k ((y :: l2).take A) e base2).length)).2 := by
            rw [he, hA]; rfl
          have hnstep : namesK (namesA k) (n + 1) (y :: l2) p.length = namesA k ((y :: l2).take A) e ++ namesK (namesA k) n ((y :: l2).drop A) p.length := by rw [he, hA]; rfl
          rw [hstep, hnstep, owns_app _ _ (names_len k _ _ _), W, R, List.take_append_drop]
    have hhead : (headN l).take p.length = p := by
      cases l with
      | nil => exact absurd rfl hl
      | cons y l =>
        obtain ⟨s, hs⟩ := hr.pre y (List.mem_cons_self ..)
        show y.1.take p.length = p
        rw [hs, List.take_left]
    have K := kidsO (restN p.length l).length (restN p.length l) (base + 1) (Nat.le_refl _) hrl (fun y hy => h255 y (hrest y hy))
    show ownsN ((headN l).take p.length :: _) (⟨ownN p.length l, _⟩ :: _) = l
    rw [hhead]
    simp only [ownsN]
    rw [K]
    cases ho : ownN p.length l with
    | none => rw [ho] at hown; simp only [] at hown ⊢; rw [hown]; rfl
    | some x => rw [ho] at hown; simp only [] at hown ⊢; rw [List.singleton_append]; exact hown.symm
theorem own_at : ∀ {N : List (List Int)} {nodes : List PN} (i : Nat), N.length = nodes.length → (N.Pairwise fun a b => nmLt a b = true) → ∀ q nd, N[i]? = some q → nodes[i]? = some nd →
    (∀ x, nd.says = some x → (ownsN N nodes)[(ownsN (N.take i) (nodes.take i)).length]? = some (q, x)) ∧ (nd.says = none → ∀ y, (ownsN N nodes)[(ownsN (N.take i) (nodes.take i)).length]? = some y → y.1 ≠ q) := by
  intro N nodes i hlen hup q nd hq hnd
  obtain ⟨hi, eq⟩ := List.getElem?_eq_some_iff.1 hq
  obtain ⟨hi2, end'⟩ := List.getElem?_eq_some_iff.1 hnd
  have hsplit : ownsN N nodes = ownsN (N.take i) (nodes.take i) ++ ownsN (N.drop i) (nodes.drop i) := by
    have := owns_app (A := N.take i) (a := nodes.take i) (N.drop i) (nodes.drop i) (by rw [List.length_take, List.length_take]; omega)
    rw [List.take_append_drop, List.take_append_drop] at this
    exact this
  have hd1 : N.drop i = q :: N.drop (i + 1) := by rw [List.drop_eq_getElem_cons hi, eq]
  have hd2 : nodes.drop i = nd :: nodes.drop (i + 1) := by rw [List.drop_eq_getElem_cons hi2, end']
  have hmem : ∀ {A : List (List Int)} {a : List PN} (y : List Int × Ex), y ∈ ownsN A a → y.1 ∈ A := by
    intro A
    induction A with
    | nil => intro a y h; simp [ownsN] at h
    | cons b A ihA =>
      intro a y h
      cases a with
      | nil => simp [ownsN] at h
      | cons c a =>
        simp only [ownsN] at h
        rcases List.mem_append.1 h with h | h
        · cases hs : c.says with
          | none => rw [hs] at h; cases h
          | some x => rw [hs] at h; rw [List.mem_singleton.1 h]; exact List.mem_cons_self ..
        · exact List.mem_cons_of_mem _ (ihA y h)
  rw [hsplit, List.getElem?_append_right (Nat.le_refl _), Nat.sub_self, hd1, hd2]
  simp only [ownsN]
  refine ⟨fun x hx => by rw [hx]; rfl, fun hx y hy => ?_⟩
  rw [hx] at hy
  have hy' : y ∈ ownsN (N.drop (i + 1)) (nodes.drop (i + 1)) := List.mem_of_getElem? hy
  have h1 := hmem y hy'
  have hp := hup.sublist (List.drop_sublist i N)
  rw [hd1] at hp
  have := (List.pairwise_cons.1 hp).1 y.1 h1
  intro e
  rw [e, nmLt_irrefl] at this
  cases this
theorem edges_plan (N : List (List Int)) : ∀ (k : Nat) (l : Out) (p : List Int) (base : Nat), l ≠ [] → Rise p l → (∀ y ∈ l, y.1.length ≤ 255) → 257 ≤ k + p.length → (∀ j, j < (namesA k l p.length).length → N.getD (base + j) [] = (namesA k l p.length).getD j []) →
    N.getD base [] = p ∧ ∀ i nd, (plan k l p.length base)[i]? = some nd → ∀ x ∈ nd.kids, base + i < x.2 ∧ x.2 < base + (plan k l p.length base).length ∧ N.getD x.2 [] = N.getD (base + i) [] ++ x.1 := by
  intro k
  induction k with
  | zero =>
    intro l p base hl hr h255 hk
    cases l with
    | nil => exact absurd rfl hl
    | cons y l =>
      obtain ⟨s, hs⟩ := hr.pre y (List.mem_cons_self ..)
      have h1 := h255 y (List.mem_cons_self ..)
      rw [hs, List.length_append] at h1
      omega
  | succ k ih =>
    intro l p base hl hr h255 hk hN
    obtain ⟨hrl, hown⟩ := hr.own hl
    have hrest : ∀ y ∈ restN p.length l, y ∈ l := by
      intro y hy
      cases ho : ownN p.length l with
      | none => rw [ho] at hown; rw [← hown]; exact hy
      | some x => rw [ho] at hown; rw [hown]; exact List.mem_cons_of_mem _ hy
    have kidsE : ∀ (n : Nat) (l2 : Out) (base2 : Nat), l2.length ≤ n → RiseL p l2 → (∀ y ∈ l2, y.1.length ≤ 255) → (∀ j, j < (namesK (namesA k) n l2 p.length).length → N.getD (base2 + j) [] = (namesK (namesA k) n l2 p.length).getD j []) →
        (∀ x ∈ (planK (plan k) n l2 p.length base2).1, base2 ≤ x.2 ∧ x.2 < base2 + (planK (plan k) n l2 p.length base2).2.length ∧ N.getD x.2 [] = p ++ x.1) ∧
        ∀ i nd, (planK (plan k) n l2 p.length base2).2[i]? = some nd → ∀ x ∈ nd.kids, base2 + i < x.2 ∧ x.2 < base2 + (planK (plan k) n l2 p.length base2).2.length ∧ N.getD x.2 [] = N.getD (base2 + i) [] ++ x.1 := by
      intro n
      induction n with
      | zero => intro l2 base2 _ _ _ _; exact ⟨fun x hx => (by cases hx), fun i nd h => by simp [planK] at h⟩
      | succ n ihn =>
        intro l2 base2 hl2 hr2 h2 hN2
        cases l2 with
        | nil => exact ⟨fun x hx => (by cases hx), fun i nd h => by simp [planK] at h⟩
        | cons y l2 =>
          obtain ⟨g1, g2, g3, g4⟩ := hr2.group
          obtain ⟨-, -, -, s4⟩ := hr2.split
          have hap := alike_pos (n := p.length) (y := y) (l := l2)
          obtain ⟨A, hA⟩ : ∃ A, A = alikeN p.length (y :: l2) := ⟨_, rfl⟩
          rw [← hA] at g1 g2 g3 g4 s4 hap
          obtain ⟨e, he⟩ : ∃ e, e = lcpN y.1 (lastN ((y :: l2).take A)) := ⟨_, rfl⟩
          rw [← he] at g1 g2 g3 g4
          have hlen : (y.1.take e).length = e := by rw [List.length_take]; omega
          have hgne : (y :: l2).take A ≠ [] := by
            obtain ⟨A', rfl⟩ : ∃ A', A = A' + 1 := ⟨A - 1, by omega⟩
            simp
          have hdl : ((y :: l2).drop A).length ≤ n := by rw [List.length_drop]; have : (y :: l2).length = l2.length + 1 := rfl; omega
          obtain ⟨sub, hsub⟩ : ∃ sub, sub = plan k ((y :: l2).take A) e base2 := ⟨_, rfl⟩
          have hstep : planK (plan k) (n + 1) (y :: l2) p.length base2 = (((y.1.drop p.length).take (e - p.length), base2) :: (planK (plan k) n ((y :: l2).drop A) p.length (base2 + sub.length)).1, sub ++ (planK (plan k) n ((y :: l2).drop A) p.length (base2 + sub.length)).2) := by
            rw [hsub, he, hA]; rfl
          have hnstep : namesK (namesA k) (n + 1) (y :: l2) p.length = namesA k ((y :: l2).take A) e ++ namesK (namesA k) n ((y :: l2).drop A) p.length := by rw [he, hA]; rfl
          have hnl : (namesA k ((y :: l2).take A) e).length = sub.length := by rw [hsub]; exact names_len k _ _ _
          rw [hnstep] at hN2
          have hNa : ∀ j, j < (namesA k ((y :: l2).take A) e).length → N.getD (base2 + j) [] = (namesA k ((y :: l2).take A) e).getD j [] := fun j hj => by
            rw [hN2 j (by rw [List.length_append]; omega)]
            simp only [List.getD_eq_getElem?_getD]
            rw [List.getElem?_append_left hj]
          have hNb : ∀ j, j < (namesK (namesA k) n ((y :: l2).drop A) p.length).length → N.getD (base2 + sub.length + j) [] = (namesK (namesA k) n ((y :: l2).drop A) p.length).getD j [] := fun j hj => by
            have := hN2 (sub.length + j) (by rw [List.length_append]; omega)
            rw [← Nat.add_assoc] at this
            rw [this]
            simp only [List.getD_eq_getElem?_getD]
            rw [List.getElem?_append_right (by omega), hnl, Nat.add_sub_cancel_left]
          have W := ih ((y :: l2).take A) (y.1.take e) base2 hgne g4 (fun x hx => h2 x (List.mem_of_mem_take hx)) (by rw [hlen]; omega) (by rw [hlen]; exact hNa)
          rw [hlen, ← hsub] at W
          have R := ihn ((y :: l2).drop A) (base2 + sub.length) hdl s4 (fun x hx => h2 x (List.mem_of_mem_drop hx)) hNb
          have hname : p ++ (y.1.drop p.length).take (e - p.length) = y.1.take e := by
            obtain ⟨c, s, e1⟩ := hr2.pre y (List.mem_cons_self ..)
            rw [e1, List.drop_left, List.take_append, List.take_of_length_le (l := p) (by omega)]
          have hsubpos : 1 ≤ sub.length := by
            have hNO := names_ok k ((y :: l2).take A) (y.1.take e) hgne g4 (fun x hx => h2 x (List.mem_of_mem_take hx)) (by rw [hlen]; omega)
            rw [hlen] at hNO
            rw [← hnl]
            exact List.length_pos_of_mem ((hNO.mem (y.1.take e)).2 (.inl rfl))
          rw [hstep]
          simp only [List.length_append]
          refine ⟨fun x hx => ?_, fun i nd h => ?_⟩
          · rcases List.mem_cons.1 hx with e1 | hx
            · rw [e1]
              exact ⟨Nat.le_refl _, by omega, by rw [hname]; exact W.1⟩
            · have := R.1 x hx
              exact ⟨by omega, by omega, this.2.2⟩
          · rcases Nat.lt_or_ge i sub.length with hi | hi
            · rw [List.getElem?_append_left hi] at h
              intro x hx
              have := W.2 i nd h x hx
              exact ⟨this.1, by omega, this.2.2⟩
            · rw [List.getElem?_append_right hi] at h
              intro x hx
              have := R.2 _ nd h x hx
              rw [show base2 + sub.length + (i - sub.length) = base2 + i by omega] at this
              exact ⟨this.1, by omega, this.2.2⟩
    have hhead : (headN l).take p.length = p := by
      cases l with
      | nil => exact absurd rfl hl
      | cons y l =>
        obtain ⟨s, hs⟩ := hr.pre y (List.mem_cons_self ..)
        show y.1.take p.length = p
        rw [hs, List.take_left]
    have hA : namesA (k + 1) l p.length = p :: namesK (namesA k) (restN p.length l).length (restN p.length l) p.length := by
      show (headN l).take p.length :: _ = _
      rw [hhead]
    rw [hA] at hN
    have hNb : N.getD base [] = p := by
      have := hN 0 (by simp)
      simpa using this
    have K := kidsE (restN p.length l).length (restN p.length l) (base + 1) (Nat.le_refl _) hrl (fun y hy => h255 y (hrest y hy)) (fun j hj => by
      have := hN (j + 1) (by simp only [List.length_cons]; omega)
      rw [show base + (j + 1) = base + 1 + j by omega] at this
      simpa using this)
    refine ⟨hNb, fun i nd h => ?_⟩
    obtain ⟨r, hr'⟩ : ∃ r, r = planK (plan k) (restN p.length l).length (restN p.length l) p.length (base + 1) := ⟨_, rfl⟩
    have hplan : plan (k + 1) l p.length base = ⟨ownN p.length l, r.1⟩ :: r.2 := by rw [hr']; rfl
    rw [← hr'] at K
    rw [hplan] at h ⊢
    simp only [List.length_cons]
    cases i with
    | zero =>
      simp only [List.getElem?_cons_zero, Option.some.injEq] at h
      subst h
      intro x hx
      have := K.1 x hx
      rw [Nat.add_zero, hNb]
      exact ⟨by omega, by omega, this.2.2⟩
    | succ i =>
      rw [List.getElem?_cons_succ] at h
      intro x hx
      have := K.2 i nd h x hx
      rw [show base + 1 + i = base + (i + 1) by omega] at this
      exact ⟨this.1, by omega, this.2.2⟩
end Go.Proofs.Ytbnnlbdjjpmgeaa


namespace Go.Proofs.Ytbnnlbdjjpmgeaa
open Go.RowKit

def mayAllE (D : Out) : Bool := D.all fun y => mayE y.1 y.2
def Up (R : Out) : Prop := R.Pairwise fun a b => nmLt a.1 b.1 = true
def mkE0 (D : Out) : Int := if mayAllE D = true then if 4096 < D.length then 11 else if (D.Pairwise fun a b => a.1 ≠ b.1) then 0 else 21 else 2
def lastB (R : Out) (t : Nat) : List Int := layB (roundsN (plan 257 R 0 0) t) (plan 257 R 0 0)
structure MkIs (D : Out) (E : Int) (B : List Int) : Prop where
  no : mkE0 D ≠ 0 → E = mkE0 D ∧ B = []
  nil : D = [] → E = 0 ∧ B = []
  yes : mkE0 D = 0 → D ≠ [] → ∃ R t, R.Perm D ∧ Up R ∧ roundsN (plan 257 R 0 0) (t + 1) = roundsN (plan 257 R 0 0) t ∧ (1048576 < (lastB R t).length → E = 11 ∧ B = []) ∧ ((lastB R t).length ≤ 1048576 → E = 0 ∧ B = lastB R t)
theorem Up.one {R S : Out} (h : Up R) (k : Up S) (hp : R.Perm S) : R = S := by
  refine List.Perm.eq_of_pairwise (le := fun a b : List Int × Ex => nmLt a.1 b.1 = true) ?_ h k hp
  intro a b _ _ h1 h2
  have := nmLt_trans h1 h2
  rw [nmLt_irrefl] at this
  cases this
theorem Up.apart {R D : Out} (h : Up R) (hp : R.Perm D) : D.Pairwise fun a b => a.1 ≠ b.1 := by
  refine hp.pairwise (h.imp fun hab e => ?_) (fun h e => h e.symm)
  rw [e, nmLt_irrefl] at hab
  cases hab
theorem MkIs.one {D : Out} {E F : Int} {A B : List Int} (h : MkIs D E A) (k : MkIs D F B) : E = F ∧ A = B := by
  by_cases h0 : mkE0 D = 0
  · by_cases hn : D = []
    · have h1 := h.nil hn
      have k1 := k.nil hn
      exact ⟨h1.1.trans k1.1.symm, h1.2.trans k1.2.symm⟩
    · obtain ⟨R, t, p1, u1, f1, a1, b1⟩ := h.yes h0 hn
      obtain ⟨S, s, p2, u2, f2, a2, b2⟩ := k.yes h0 hn
      obtain rfl := u1.one u2 (p1.trans p2.symm)
      have e : lastB R t = lastB R s := by unfold lastB; rw [rounds_one f1 f2]
      rw [← e] at a2 b2
      rcases Nat.lt_or_ge 1048576 (lastB R t).length with hl | hl
      · exact ⟨(a1 hl).1.trans (a2 hl).1.symm, (a1 hl).2.trans (a2 hl).2.symm⟩
      · exact ⟨(b1 hl).1.trans (b2 hl).1.symm, (b1 hl).2.trans (b2 hl).2.symm⟩
  · have h1 := h.no h0
    have k1 := k.no h0
    exact ⟨h1.1.trans k1.1.symm, h1.2.trans k1.2.symm⟩
theorem mkE0_0 {D : Out} (h : mkE0 D = 0) : mayAllE D = true ∧ D.length ≤ 4096 ∧ D.Pairwise fun a b => a.1 ≠ b.1 := by
  unfold mkE0 at h
  split at h
  · rename_i h1
    split at h
    · cases h
    · rename_i h2
      split at h
      · rename_i h3
        exact ⟨h1, by omega, h3⟩
      · cases h
  · cases h
theorem mkE0_no {D : Out} {E : Int} (h : mkE0 D = E) (h0 : E ≠ 0) : MkIs D E [] :=
  ⟨fun _ => ⟨h.symm, rfl⟩, fun e => by subst e; exact absurd h.symm h0, fun e => absurd (h.symm.trans e) h0⟩
theorem mkIs_nil : MkIs [] 0 [] := ⟨fun h => absurd rfl h, fun _ => ⟨rfl, rfl⟩, fun _ h => absurd rfl h⟩
theorem Up.rise {R : Out} (h : Up R) : Rise [] R := ⟨fun y _ => ⟨y.1, rfl⟩, h⟩
structure ExsFit (D : Out) : Prop where
  name : ∀ y ∈ D, Byt y.1
  other : ∀ y ∈ D, Byt y.2.other
  value : ∀ y ∈ D, 0 ≤ y.2.value ∧ y.2.value < 18446744073709551616
  resolver : ∀ y ∈ D, 0 ≤ y.2.resolver ∧ y.2.resolver < 18446744073709551616
  ordinal : ∀ y ∈ D, 0 ≤ y.2.ordinal ∧ y.2.ordinal < 18446744073709551616
theorem mayE_is {nm : List Int} {x : Ex} (h : mayE nm x = true) : nm ≠ [] ∧ textM nm = true ∧ textM x.other = true ∧ kindM x = true := by
  unfold mayE at h
  simp only [Bool.and_eq_true, Bool.not_eq_true', decide_eq_false_iff_not] at h
  exact ⟨h.1.1.1, h.1.1.2, h.1.2, h.2⟩
theorem ExsFit.ok {D : Out} (f : ExsFit D) (h : mayAllE D = true) : ∀ y ∈ D, NameOk y.1 ∧ ExOk y.2 := by
  intro y hy
  unfold mayAllE at h
  rw [List.all_eq_true] at h
  have hm := h y hy
  obtain ⟨-, -, m3, m4⟩ := mayE_is hm
  exact ⟨may_name hm (f.name y hy), f.value y hy, f.resolver y hy, f.ordinal y hy, f.other y hy, m4, m3⟩
theorem mkIs_all {D : Out} {B : List Int} (h : MkIs D 0 B) (f : ExsFit D) (hn : D ≠ []) : ∃ R, R.Perm D ∧ Up R ∧ allN B = (R, 0) := by
  have h0 : mkE0 D = 0 := by
    by_cases c : mkE0 D = 0
    · exact c
    · exact absurd (h.no c).1.symm c
  obtain ⟨R, t, p, u, fx, a, b⟩ := h.yes h0 hn
  obtain ⟨m1, m2, m3⟩ := mkE0_0 h0
  have hl : (lastB R t).length ≤ 1048576 := by
    rcases Nat.lt_or_ge 1048576 (lastB R t).length with hl | hl
    · exact absurd (a hl).1 (by decide)
    · exact hl
  refine ⟨R, p, u, ?_⟩
  rw [(b hl).2]
  have hok := f.ok m1
  refine made_all (fun e => hn ?_) u.rise (fun y hy => hok y (p.mem_iff.1 hy)) (by rw [p.length_eq]; exact m2) (pl := roundsN (plan 257 R 0 0) t) ?_ (by have : (lastB R t).length = (layB (roundsN (plan 257 R 0 0) t) (plan 257 R 0 0)).length := rfl; omega)
  · subst e
    exact p.symm.eq_nil
  · exact fx
def setK (R : Out) : Nat → List (List Int)
  | 0 => [[]]
  | k + 1 => setK R k ++ ((R.getD k ([], Ex.zero)).1 :: if k = 0 then [] else [(R.getD (k - 1) ([], Ex.zero)).1.take (lcpN (R.getD (k - 1) ([], Ex.zero)).1 (R.getD k ([], Ex.zero)).1)])
theorem adj_mem : ∀ (l : Out) (q : List Int), q ∈ adjN l ↔ ∃ i, i + 1 < l.length ∧ q = (l.getD i ([], Ex.zero)).1.take (lcpN (l.getD i ([], Ex.zero)).1 (l.getD (i + 1) ([], Ex.zero)).1)
  | [], q => by simp [adjN]
  | [x], q => by simp [adjN]
  | a :: b :: l, q => by
    have ih := adj_mem (b :: l) q
    simp only [adjN, List.mem_cons]
    rw [ih]
    constructor
    · rintro (e | ⟨i, hi, e⟩)
      · exact ⟨0, by simp, by simpa using e⟩
      · exact ⟨i + 1, by simpa using hi, by simpa using e⟩
    · rintro ⟨i, hi, e⟩
      cases i with
      | zero => exact .inl (by simpa using e)
      | succ i => exact .inr ⟨i, by simpa using hi, by simpa using e⟩
theorem setK_mem (R : Out) (q : List Int) : ∀ k, k ≤ R.length → (q ∈ setK R k ↔ q = [] ∨ (∃ i, i < k ∧ q = (R.getD i ([], Ex.zero)).1) ∨ ∃ i, i + 1 < k ∧ q = (R.getD i ([], Ex.zero)).1.take (lcpN (R.getD i ([], Ex.zero)).1 (R.getD (i + 1) ([], Ex.zero)).1))
  | 0, _ => by simp [setK]
  | k + 1, hk => by
    rw [setK, List.mem_append, setK_mem R q k (by omega), List.mem_cons]
    constructor
    · rintro ((h | ⟨i, hi, e⟩ | ⟨i, hi, e⟩) | h | h)
      · exact .inl h
      · exact .inr (.inl ⟨i, by omega, e⟩)
      · exact .inr (.inr ⟨i, by omega, e⟩)
      · exact .inr (.inl ⟨k, by omega, h⟩)
      · split at h
        · cases h
        · exact .inr (.inr ⟨k - 1, by omega, by rw [List.mem_singleton.1 h, show k - 1 + 1 = k by omega]⟩)
    · rintro (h | ⟨i, hi, e⟩ | ⟨i, hi, e⟩)
      · exact .inl (.inl h)
      · by_cases c : i = k
        · subst c; exact .inr (.inl e)
        · exact .inl (.inr (.inl ⟨i, by omega, e⟩))
      · by_cases c : i + 1 = k
        · refine .inr (.inr ?_)
          rw [if_neg (by omega), show k - 1 = i by omega, List.mem_singleton]
          rw [← c]; exact e
        · exact .inl (.inr (.inr ⟨i, by omega, e⟩))
theorem setK_all {R : Out} (hn : R ≠ []) (hr : Up R) (h255 : ∀ y ∈ R, y.1.length ≤ 255) (q : List Int) : q ∈ setK R R.length ↔ q ∈ namesA 257 R 0 := by
  have N := (names_ok 257 R [] hn hr.rise h255 (by simp)).mem q
  rw [setK_mem R q R.length (Nat.le_refl _)]
  show _ ↔ q ∈ namesA 257 R ([] : List Int).length
  rw [N, adj_mem]
  have e : q ∈ R.map Prod.fst ↔ ∃ i, i < R.length ∧ q = (R.getD i ([], Ex.zero)).1 := by
    rw [List.mem_map]
    constructor
    · rintro ⟨y, hy, rfl⟩
      obtain ⟨i, hi, rfl⟩ := List.getElem_of_mem hy
      exact ⟨i, hi, by rw [List.getD_eq_getElem?_getD, List.getElem?_eq_getElem hi]; rfl⟩
    · rintro ⟨i, hi, e⟩
      refine ⟨R[i], List.getElem_mem hi, ?_⟩
      rw [e, List.getD_eq_getElem?_getD, List.getElem?_eq_getElem hi]; rfl
  rw [e]
structure DdN (S : List (List Int)) (k : Nat) (O : List (List Int)) : Prop where
  up : O.Pairwise fun a b => nmLt a b = true
  mem : ∀ q, q ∈ O ↔ q ∈ S.take k
theorem DdN.new {S O : List (List Int)} {k : Nat} {x : List Int} (h : DdN S k O) (hs : S.Pairwise fun a b => nmLt b a = false) (hx : S[k]? = some x) (hne : ∀ y, 0 < k → S[k - 1]? = some y → y ≠ x) : DdN S (k + 1) (O ++ [x]) := by
  obtain ⟨hk, e⟩ := List.getElem?_eq_some_iff.1 hx
  have ht : S.take (k + 1) = S.take k ++ [x] := by rw [List.take_succ_eq_append_getElem hk, e]
  refine ⟨?_, fun q => ?_⟩
  · rw [List.pairwise_append]
    refine ⟨h.up, List.pairwise_singleton _ _, ?_⟩
    intro a ha b hb
    obtain rfl := List.mem_singleton.1 hb
    have ha := (h.mem a).1 ha
    obtain ⟨i, hi, rfl⟩ := List.getElem_of_mem ha
    rw [List.length_take] at hi
    rw [List.getElem_take]
    have hP := List.pairwise_iff_getElem.1 hs
    have h1 : nmLt b S[k - 1] = false := by rw [← e]; exact hP (k - 1) k (by omega) hk (by omega)
    have h2 : S[k - 1] ≠ b := hne _ (by omega) (List.getElem?_eq_getElem (by omega))
    have h3 : nmLt S[k - 1] b = true := by
      cases hc : nmLt S[k - 1] b with
      | true => rfl
      | false => exact absurd (nmLt_anti hc h1) h2
    rcases Nat.lt_or_ge i (k - 1) with hik | hik
    · have h4 := hP i (k - 1) (by omega) (by omega) hik
      cases hc : nmLt S[i] b with
      | true => rfl
      | false =>
        have h5 : nmLt b S[i] = true := by
          cases hd : nmLt b S[i] with
          | true => rfl
          | false =>
            have h6 := nmLt_anti hc hd
            rw [h6] at h4
            rw [h4] at h3
            cases h3
        have h6 := nmLt_trans h3 h5
        rw [h6] at h4
        cases h4
    · obtain rfl : i = k - 1 := by omega
      exact h3
  · rw [ht, List.mem_append, List.mem_append, h.mem q]
theorem DdN.old {S O : List (List Int)} {k : Nat} {x : List Int} (h : DdN S k O) (hx : S[k]? = some x) (h0 : 0 < k) (he : S[k - 1]? = some x) : DdN S (k + 1) O := by
  obtain ⟨hk, e⟩ := List.getElem?_eq_some_iff.1 hx
  have ht : S.take (k + 1) = S.take k ++ [x] := by rw [List.take_succ_eq_append_getElem hk, e]
  refine ⟨h.up, fun q => ?_⟩
  rw [ht, List.mem_append, h.mem q, List.mem_singleton]
  constructor
  · exact .inl
  · rintro (h1 | rfl)
    · exact h1
    · refine List.mem_iff_getElem?.2 ⟨k - 1, ?_⟩
      rw [List.getElem?_take, if_pos (by omega)]
      exact he
theorem DdN.all {S O : List (List Int)} {R : Out} (h : DdN S S.length O) (hp : ∀ q, q ∈ S ↔ q ∈ setK R R.length) (hn : R ≠ []) (hr : Up R) (h255 : ∀ y ∈ R, y.1.length ≤ 255) : O = namesA 257 R 0 := by
  refine rise_ext h.up (names_ok 257 R [] hn hr.rise h255 (by simp)).up (fun q => ?_)
  rw [h.mem q, List.take_length, hp q, setK_all hn hr h255]
theorem up_of {R : Out} (hb : ∀ y ∈ R, Byt y.1) (hs : Srt R) (hd : ∀ j a b, R[j]? = some a → R[j + 1]? = some b → a.1 ≠ b.1) : Up R := by
  induction R with
  | nil => exact List.Pairwise.nil
  | cons a R ih =>
    have h1 := ih (fun y hy => hb y (List.mem_cons_of_mem _ hy)) (List.pairwise_cons.1 hs).2 (fun j x y hx hy => hd (j + 1) x y (by simpa using hx) (by simpa using hy))
    refine List.pairwise_cons.2 ⟨fun z hz => ?_, h1⟩
    cases R with
    | nil => cases hz
    | cons b R =>
      have hab : nmLt a.1 b.1 = true := by
        have h3 := (List.pairwise_cons.1 hs).1 b (List.mem_cons_self ..)
        unfold leX at h3
        rw [nums_byt (hb a (List.mem_cons_self ..)), nums_byt (hb b (by simp))] at h3
        cases hc : nmLt a.1 b.1 with
        | true => rfl
        | false => exact absurd (nmLt_anti hc h3) (hd 0 a b rfl rfl)
      rcases List.mem_cons.1 hz with e | e
      · rw [e]; exact hab
      · exact nmLt_trans hab ((List.pairwise_cons.1 h1).1 z e)
theorem dup_no {R D : Out} (hp : R.Perm D) {j : Nat} {a b : List Int × Ex} (ha : R[j]? = some a) (hb : R[j + 1]? = some b) (he : a.1 = b.1) : ¬ D.Pairwise fun a b => a.1 ≠ b.1 := fun h => by
  have h2 := hp.symm.pairwise h (fun h e => h e.symm)
  obtain ⟨h3, e3⟩ := List.getElem?_eq_some_iff.1 ha
  obtain ⟨h4, e4⟩ := List.getElem?_eq_some_iff.1 hb
  have := List.pairwise_iff_getElem.1 h2 j (j + 1) h3 h4 (by omega)
  rw [e3, e4] at this
  exact this he
theorem mk_len {D : Out} {B : List Int} (h : MkIs D 0 B) : B.length ≤ 1048576 := by
  by_cases hn : D = []
  · rw [(h.nil hn).2]; decide
  have h0 : mkE0 D = 0 := by
    by_cases c : mkE0 D = 0
    · exact c
    · exact absurd (h.no c).1.symm c
  obtain ⟨R, t, p, u, fx, a, b⟩ := h.yes h0 hn
  rcases Nat.lt_or_ge 1048576 (lastB R t).length with hl | hl
  · exact absurd (a hl).1 (by decide)
  · rw [(b hl).2]; exact hl
section
variable {w w' : World}
structure RmO (w w' : World) (D : Out) (e : Ending) : Prop where
  ex : ∃ (E : Int) (B : List Int) (q : Option Addr) (c : Nat), e = .returned (.tuple #[.slice q B.length c, .int .i64 E]) ∧ MkIs D E B ∧ w'.ownsRow w.heap.size 5 1 (.slice q B.length c) B.length (B.map (Value.int .u8))
  grown : w.grownBy w' none
theorem RmO.no {D : Out} {E : Int} (h : mkE0 D = E) (h0 : E ≠ 0) (hg : w.grownBy w' none) : RmO w w' D (.returned (.tuple #[.slice none 0 0, .int .i64 E])) :=
  ⟨⟨E, [], none, 0, rfl, mkE0_no h h0, World.ownsRow_nil _ _ _ _⟩, hg⟩
end
end Go.Proofs.Ytbnnlbdjjpmgeaa


namespace Go.Proofs.Ytbnnlbdjjpmgeaa
open Go.RowKit
variable {w w' W V : World}

theorem ExsAt.name {q : Option Addr} {D : Out} (h : ExsAt w q D) {i : Nat} {y : List Int × Ex} (hy : D[i]? = some y) : ∃ g o, q = some ⟨g, o, none⟩ ∧ w.cell? ⟨g, o + i * 7, none⟩ = some (.string (strOfNums y.1)) := by
  obtain ⟨g, o, e, hc⟩ := h i y hy
  have := hc 0 (by decide)
  exact ⟨g, o, e, this⟩
theorem ExsAt.at {q : Option Addr} {D : Out} (h : ExsAt w q D) {i : Nat} {y : List Int × Ex} (hy : D[i]? = some y) : ∃ g o, q = some ⟨g, o, none⟩ ∧ w.cell? ⟨g, o + i * 7, none⟩ = some (.string (strOfNums y.1)) ∧ w.cell? ⟨g, o + i * 7 + 1, none⟩ = some (.int .i64 y.2.kind) ∧ w.cell? ⟨g, o + i * 7 + 2, none⟩ = some (.bool y.2.weak) ∧
    w.cell? ⟨g, o + i * 7 + 3, none⟩ = some (.int .u64 y.2.value) ∧ w.cell? ⟨g, o + i * 7 + 4, none⟩ = some (.int .u64 y.2.resolver) ∧ w.cell? ⟨g, o + i * 7 + 5, none⟩ = some (.int .u64 y.2.ordinal) ∧ w.cell? ⟨g, o + i * 7 + 6, none⟩ = some (.string (strOfNums y.2.other)) := by
  obtain ⟨g, o, e, hc⟩ := h i y hy
  exact ⟨g, o, e, hc 0 (by decide), hc 1 (by decide), hc 2 (by decide), hc 3 (by decide), hc 4 (by decide), hc 5 (by decide), hc 6 (by decide)⟩
end Go.Proofs.Ytbnnlbdjjpmgeaa


namespace Go.Proofs.Ytbnnlbdjjpmgeaa
open Go.RowKit
variable {w w' W V : World}

set_option maxRecDepth 20000 in
set_option maxHeartbeats 1600000 in
theorem indexEx_any {f : Nat} {cbs : Array Value} (en : ∀ args V, (callFunc f args).run Try.prog V = .ok (.enter f args) V) (pr : List Int × Ex → Bool) (D : Out) (n : Nat) (hn : D.length = n) (hbig : n ≤ 1000000000) (q : Option Addr) (c : Nat) (hr : ExsAt w q D)
    (hcall : ∀ W y, w.grownBy W none → y ∈ D → Calls Try.prog f (#[exV (strOfNums y.1) y.2] ++ cbs) W fun e w' => e = .returned (.bool (pr y)) ∧ W.grownBy w' none) :
    Calls Try.prog 31 #[.slice q n c, .func (.func f) #[] cbs] w fun e w' =>
      ((e = .returned (.int .i64 (-1)) ∧ ∀ y ∈ D, pr y = false) ∨ ∃ (k : Nat) (x : List Int × Ex), k < n ∧ e = .returned (.int .i64 k) ∧ D[k]? = some x ∧ pr x = true ∧ ∀ i y, i < k → D[i]? = some y → pr y = false) ∧ w.grownBy w' none := by
  subst hn
  have RR := Lib.hid hr
  have HC := Lib.hid hcall
  clear hr hcall
  go_enter Try.func31, Try.ntmps31
  go_wp2
  go_loopw [8] (fun i wr => ∃ k : Nat, k ≤ D.length ∧ i = .int .i64 k ∧ w.grownBy wr none ∧ Hid (∀ (i : Nat) (y : List Int × Ex), i < k → D[i]? = some y → pr y = false)) (fun i _ => D.length - (intOf i).toNat)
  case atStart => exact ⟨0, Nat.zero_le _, rfl, grown_refl _ _, Lib.hid (fun i y h => by omega)⟩
  case round =>
    obtain ⟨k, hk, rfl, hg, NO⟩ := hrel
    have G := Lib.hid hg
    by_cases hlt : k < D.length
    · obtain ⟨x, hx⟩ : ∃ x, D[k]? = some x := ⟨_, List.getElem?_eq_getElem hlt⟩
      obtain ⟨gq, oq, rfl, a0, a1, a2, a3, a4, a5, a6⟩ := (RR.out.grown hg).at hx
      have M1 := HC.out wr x hg (List.mem_of_getElem? hx)
      simp only [exV, exArr] at M1
      have M := Lib.hid M1
      have XX := Lib.hid hx
      have dl : decide ((k : Int) < (D.length : Int)) = true := by simp; omega
      have hkl : (k : Int) < (D.length : Int) := by omega
      obtain ⟨bx, hbx⟩ : ∃ bx, bx = pr x := ⟨_, rfl⟩
      rw [← hbx] at M
      have PX := Lib.hid hbx
      clear hg hx hbx M1
      go_wp2_with fail
      refine M.out.mono ?_
      rintro e w3 ⟨rfl, hg⟩
      have G3 := Lib.hid (grown_trans G.out hg)
      clear hg M a0 a1 a2 a3 a4 a5 a6
      cases bx
      · go_wp2
        go_roundw
        case rel =>
          refine ⟨k + 1, hlt, by go_num, G3.out, Lib.hid (fun i y hi hy => ?_)⟩
          rcases Nat.lt_or_ge i k with h | h
          · exact NO.out i y h hy
          · obtain rfl : i = k := by omega
            rw [XX.out] at hy
            injection hy with hy
            rw [← hy]; exact PX.out.symm
        case measure => simp [intOf]; omega
      · go_wp2
        go_ret
        exact ⟨.inr ⟨k, _, hlt, rfl, XX.out, PX.out.symm, NO.out⟩, G3.out⟩
    · have NA := Lib.hid (show ∀ y ∈ D, pr y = false from fun y hy => by
        obtain ⟨i, hi, rfl⟩ := List.getElem_of_mem hy
        exact NO.out i _ (by omega) (List.getElem?_eq_getElem hi))
      have dl : decide ((k : Int) < (D.length : Int)) = false := by simp; omega
      have dl2 : decide (k < D.length) = false := by simp; omega
      clear NO hg hlt
      go_wp2
      go_ret
      exact ⟨.inl ⟨rfl, NA.out⟩, G.out⟩
end Go.Proofs.Ytbnnlbdjjpmgeaa


namespace Go.Proofs.Ytbnnlbdjjpmgeaa
open Go.RowKit
variable {w w' : World}

def YieldRule (P : Program) (ps : Array Tmp) (assign body : Code) (tmps : Array Value) (rec : LoopState → Option Code → Loop) : Prop :=
  ∀ (l : Nat) (args : Array Value) (W : World) (R : Ending → World → Prop), W.heap[l]? = some (.loop (rec .ready none)) → args.size = ps.size →
    assign.wpIn (Fence.wide.inRound l) 0 P (Exit.then (fun a₁ W₁ => W₁.heap[l]? = some (.loop (rec .ready none)) ∧ (W₁.heap[l]? = some (.loop (rec .ready none)) → body.wpIn (Fence.wide.inRound l) 0 P (roundPost P l R) a₁ (W₁.putObj l (.loop (rec .busy none))))) (fun _ _ _ => False))
      { tmps := (ps.zip args).foldl (fun t (p, v) => t.setIfInBounds p v) tmps, defers := [] } W →
    YieldAt Fence.wide 0 P l args W R
def EndRule (P : Program) (rec : LoopState → Option Code → Loop) : Prop :=
  ∀ (l : Nat) (W : World) (jump : Option Code), W.heap[l]? = some (.loop (rec .busy none)) →
    (Instr.endRound l jump).run P W = .ok (.bool jump.isNone) (W.putObj l (.loop (rec (if jump.isNone then .ready else .done) jump)))
def OutRule (P : Program) (rec : LoopState → Option Code → Loop) : Prop :=
  ∀ (l : Nat) (W : World) (st : LoopState) (pe : Option Code), st ≠ .busy → W.heap[l]? = some (.loop (rec st pe)) →
    (Instr.endLoop l).run P W = .ok pe (W.putObj l (.loop (rec .exhausted pe)))
theorem wp_rangeFunc_rec {P : Program} {g : Operand} {ps : Array Tmp} {assign body : Code} {Q : Exit → Act → World → Prop} {a : Act} {gf : Nat} {lb : Array Value}
    (hg : a.eval g = .func (.func gf) #[] lb) (eg : ∀ args w, (callFunc gf args).run P w = .ok (.enter gf args) w)
    (h : ∀ rec : LoopState → Option Code → Loop, YieldRule P ps assign body a.tmps rec → EndRule P rec → OutRule P rec →
      Calls P gf (#[.func (.yield (w.heap.size + 1)) #[] #[]] ++ lb) ((w.alloc (.deferred (some []))).alloc (.loop (rec .ready none)))
        (rangePost Fence.wide 1 P (w.heap.size + 1) Q { a with defers := { target := .collected w.heap.size, args := #[] } :: a.defers })) :
    (Code.rangeFunc g ps assign body).wp P Q a w := by
  refine (wpIn_wide (n := 1)).1 (wpIn_rangeFunc ?_)
  intro fn _
  obtain ⟨rec, hrec⟩ : ∃ rec : LoopState → Option Code → Loop, rec = fun st pe => { state := st, pending := pe, fn, tmps := a.tmps, params := ps, assign, body, defers := w.heap.size } := ⟨_, rfl⟩
  refine ⟨w.heap.size + 1, [{ target := .collected w.heap.size, args := #[] }], (w.alloc (.deferred (some []))).alloc (.loop (rec .ready none)), { target := .fn (.func gf) lb, args := #[.func (.yield (w.heap.size + 1)) #[] #[]] },
    (w.alloc (.deferred (some []))).alloc (.loop (rec .ready none)), gf, #[.func (.yield (w.heap.size + 1)) #[] #[]] ++ lb, (w.alloc (.deferred (some []))).alloc (.loop (rec .ready none)), ?_, ?_, ?_, ?_, fun _ => Nat.le_refl _, ?_⟩
  · rw [hrec]; exact run_enterLoop_outer _ _ _ _ _
  · simp only [resolve, hg]
    simp [go_sem]
  · intro _ _; trivial
  · simp [invoke, go_sem, eg]
  · refine callsIn_wide.2 (h rec ?_ ?_ ?_)
    · intro l args W R hl hs hw
      have hy := run_yield (P := P) (args := args) hl (by rw [hrec]; exact hs)
      rw [hrec] at hy
      refine ⟨fn, _, assign, body, hy, roundIn_of_wpIn trivial (wpIn_mono hw ?_)⟩
      intro e a₁ W₁ hk
      cases e with
      | normal =>
        have hb := run_beginRound (P := P) hk.1 (by rw [hrec])
        refine ⟨_, hb, ?_⟩
        have := hk.2 hk.1
        rw [hrec] at this ⊢
        exact this
      | exit id => exact hk
      | goto t => exact hk
      | ret => exact hk
      | panic c => exact hk
      | outgrown => exact hk
    · intro l W jump hl
      have := run_endRound (P := P) jump hl
      rw [hrec] at this ⊢
      exact this
    · intro l W st pe hst hl
      have := run_endLoop (P := P) hl (by rw [hrec]; exact hst)
      rw [hrec] at this ⊢
      exact this
end Go.Proofs.Ytbnnlbdjjpmgeaa


namespace Go.Proofs.Ytbnnlbdjjpmgeaa
open Go.RowKit Go.Sort
attribute [local go_sem] Oper.semAt_some
variable {w w' W V : World}

theorem values_any (q : Option Addr) (n c : Nat) (w : World) :
    Calls Try.prog 16 #[.slice q n c] w fun e w' =>
      e = .returned (.func (.func 34) #[] #[.pointer (some ⟨w.heap.size, 0, none⟩)]) ∧ OneAt w' w.heap.size (.slice q n c) 22 ∧ w.grownBy w' none := by
  go_enter Try.func16, Try.ntmps16
  go_wp2
  go_ret
  exact ⟨rfl, OneAt.new w _ _, grown1 _ _⟩
theorem wpIn_append_ex {Fe : Fence} {fu : Nat} {ops : Array Oper} {rest : List Oper} {o : Oper} {a : Act} {Q : Exit → Act → World → Prop} {base : Nat} (hgd : o.guard = none) (s x : Operand)
    (ho : o.op = .call { callee := .builtin .append, args := #[s, x], argTypes := #[22, 22] })
    (v : Value) (n : Nat) (xs : List Value) (hs : a.eval s = v) (hown : w.ownsRow base 38 7 v n xs)
    (b : Nat) (t : ByteArray) (y : Ex) (hx : a.eval x = .slice (some ⟨b, 0, none⟩) 1 1) (hb : w.heap[b]? = some (.cells (exArr t y) 38 (0, 0)))
    (h63 : n ≤ 1000000000) (hbase : base ≤ w.heap.size)
    (h : ∀ v' w', w'.ownsRow base 38 7 v' (n + 1) (xs ++ exCs t y) → w.grownBy w' v.ownBlock → (v'.ownBlock = v.ownBlock ∨ v'.ownBlock = some w.heap.size) → wpListIn Fe fu Try.prog ops Q rest (a.put o.dst v') w') : wpListIn Fe fu Try.prog ops Q (o :: rest) a w := by
  obtain ⟨i, z, hi, hz0, hz1, hz2, hzs⟩ := exType.info
  refine wpListIn_append_own_at w hgd s x _ ho base 38 i z 7 72 exType.under hi hz0 hz1 hz2 hzs exType.pos v n xs hs hown ⟨b, 0, none⟩ 1 1 (exCs t y) hx rfl ?_ (exCs_one t y) (by unfold maxLen; omega) (by omega) hbase ?_
  · intro j u hu
    rw [add_flat, cell_of hb, ← hu, Nat.zero_add]
    simp [exArr, exCs]
  · intro v' w' h1 h2 _ h4
    exact h v' w' h1 h2 h4
structure ValsOk (P : Program) (l : Nat) (D : Out) (q : Option Addr) (n c bs : Nat) (J : Nat → World → Prop) : Prop where
  reads : ∀ k W, J k W → W.cell? ⟨bs, 0, none⟩ = some (.slice q n c) ∧ ExsAt W q D
  grown : ∀ k W W', J k W → W.grownBy W' none → J k W'
  round : ∀ k W y, J k W → D[k]? = some y → YieldAt Fence.wide 0 P l #[exV (strOfNums y.1) y.2] W fun e W' => e = .returned (.bool true) ∧ J (k + 1) W'
set_option maxRecDepth 20000 in
set_option maxHeartbeats 1600000 in
theorem values1_any (l : Nat) (D : Out) (n : Nat) (hn : D.length = n) (hbig : n ≤ 1000000000) (q : Option Addr) (c bs : Nat) (J : Nat → World → Prop) (hJ : ValsOk Try.prog l D q n c bs J) (h0 : J 0 w) :
    Calls Try.prog 34 #[.func (.yield l) #[] #[], .pointer (some ⟨bs, 0, none⟩)] w fun e w' => (∃ v, e = .returned v) ∧ J n w' := by
  obtain ⟨c0, -⟩ := hJ.reads 0 w h0
  have JO := Lib.hid hJ
  have J0 := Lib.hid h0
  have HN := Lib.hid hn
  clear hJ h0 hn
  go_enter Try.func34, Try.ntmps34
  go_wp2
  clear c0
  go_loopw [7] (fun i wr => ∃ k : Nat, i = .int .i64 (k : Int) ∧ k ≤ n ∧ J k wr) (fun i _ => n - (intOf i).toNat)
  case atStart => exact ⟨0, rfl, Nat.zero_le _, J0.out⟩
  case round =>
    obtain ⟨k, rfl, hk, hj⟩ := hrel
    by_cases hkn : k < n
    · have hlt : (k : Int) < (n : Int) := by omega
      have dl : decide ((k : Int) < (n : Int)) = true := by simp; omega
      obtain ⟨y, hy⟩ : ∃ y, D[k]? = some y := ⟨_, List.getElem?_eq_getElem (by rw [HN.out]; exact hkn)⟩
      obtain ⟨g, o, rfl, a0, a1, a2, a3, a4, a5, a6⟩ := (JO.out.reads k wr hj).2.at hy
      have g2 := grown1 wr (.cells (exArr (strOfNums y.1) y.2) 38)
      have e2 : ExAt (wr.alloc (.cells (exArr (strOfNums y.1) y.2) 38)) wr.heap.size (strOfNums y.1) y.2 := heap_alloc_new wr _
      have j2 := JO.out.grown k wr _ hj g2
      obtain ⟨fn, tm, sg, bo, hyy, hR⟩ := JO.out.round k _ y j2 hy
      obtain ⟨b0, b1, b2, b3, b4, b5, b6⟩ := e2.c
      obtain ⟨s, hs⟩ : ∃ s, s = strOfNums y.1 := ⟨_, rfl⟩
      simp only [exV, exArr, ← hs] at hyy hR b0 b1 b2 b3 b4 b5 b6
      rw [← hs] at a0
      obtain ⟨W2, hW2⟩ : ∃ W2, wr.alloc (.cells #[.string s, .int .i64 y.2.kind, .bool y.2.weak, .int .u64 y.2.value, .int .u64 y.2.resolver, .int .u64 y.2.ordinal, .string (strOfNums y.2.other)] 38) = W2 := ⟨_, rfl⟩
      rw [hW2] at hyy hR b0 b1 b2 b3 b4 b5 b6
      have HR := Lib.hid hR
      have HY := Lib.hid hyy
      have HW2 := Lib.hid hW2
      clear hyy hR j2 e2 g2 hj hy hs hW2
      go_upto_region 3 with (fail)
      rw [HW2.out]
      clear HW2 a0 a1 a2 a3 a4 a5 a6
      have hyy := HY.out
      refine (wpIn_wide (n := 1)).1 ?_
      gi_wp2
      refine HR.out.mono ?_
      rintro e w3 ⟨rfl, hj3⟩
      have J3 := Lib.hid hj3
      clear hj3 hyy b0 b1 b2 b3 b4 b5 b6 HR HY
      gi_wp2
      go_wp2
      go_roundw
      case rel => exact ⟨k + 1, by go_num, hkn, J3.out⟩
      case measure => simp [intOf]; omega
    · obtain rfl : n = k := by omega
      have dl : decide ((n : Int) < (n : Int)) = false := by simp
      have JW := Lib.hid hj
      clear hj
      go_wp2
      go_end0
      exact ⟨⟨_, rfl⟩, JW.out⟩
structure SqJ (w0 : World) (bb dd rc sz : Nat) (rv : Loop) (D : Out) (k : Nat) (W : World) : Prop where
  grown : w0.grownBy W none
  size : sz ≤ W.heap.size
  box : ∃ q c, OneAt W bb (.slice q k c) 22 ∧ W.ownsRow w0.heap.size 38 7 (.slice q k c) k ((D.take k).flatMap outCs) ∧ ∀ g, (Value.slice q k c).ownBlock = some g → sz ≤ g
  lp : W.heap[rc]? = some (.loop rv)
  dfr : W.heap[dd]? = some (.deferred (some []))
theorem SqJ.more {w0 : World} {bb dd rc sz : Nat} {rv : Loop} {D : Out} {k : Nat} (h : SqJ w0 bb dd rc sz rv D k W) (hg : W.grownBy V none) : SqJ w0 bb dd rc sz rv D k V := by
  obtain ⟨q, c, h1, h2, h3⟩ := h.box
  exact ⟨grown_trans h.grown hg, Nat.le_trans h.size hg.size, ⟨q, c, h1.grown hg, own_grown h2 hg, h3⟩, grown_obj hg h.lp (by simp), grown_obj hg h.dfr (by simp)⟩
set_option maxRecDepth 20000 in
set_option maxHeartbeats 1600000 in
theorem appendSeq_any (D : Out) (n : Nat) (hn : D.length = n) (hbig : n ≤ 1000000) (q : Option Addr) (c bv : Nat) (hv : w.cell? ⟨bv, 0, none⟩ = some (.slice q n c)) (hD : ExsAt w q D) :
    Calls Try.prog 52 #[.slice none 0 0, .func (.func 34) #[] #[.pointer (some ⟨bv, 0, none⟩)]] w fun e w' =>
      ∃ q c, e = .returned (.slice q n c) ∧ w'.ownsRow w.heap.size 38 7 (.slice q n c) n (D.flatMap outCs) ∧ w.grownBy w' none := by
  have HV := Lib.hid hv
  have HD := Lib.hid hD
  have HN := Lib.hid hn
  clear hv hD hn
  refine (callsIn_wide (n := 1)).1 (callsIn_of_wp_marks Try.func52 rfl trivial ((wpIn_wide).2 ?_))
  simp only [Try.ntmps52, List.size_toArray, List.length_cons, List.length_nil, Nat.reduceAdd, Nat.reduceSub, Array.replicate_succ, Array.replicate_zero, List.push_toArray, List.append_toArray, List.nil_append, List.cons_append]
  go_wp2
  obtain ⟨w3, hw3⟩ : ∃ W, w.alloc (.cells #[.slice none 0 0] 22) = W := ⟨_, rfl⟩
  have g3 : w.grownBy w3 none := by rw [← hw3]; exact grown1 _ _
  have bx : OneAt w3 w.heap.size (.slice none 0 0) 22 := by rw [← hw3]; exact OneAt.new w _ _
  have hlt3 := bx.lt
  rw [hw3]
  refine wp_rangeFunc_rec (gf := 34) (lb := #[.pointer (some ⟨bv, 0, none⟩)]) rfl (enters_of Try.func34 (by kernel_rfl) rfl) ?_
  intro rec YR ER OR
  obtain ⟨W1, hW1⟩ : ∃ W1, (w3.alloc (.deferred (some []))).alloc (.loop (rec .ready none)) = W1 := ⟨_, rfl⟩
  have g31 : w3.grownBy W1 none := by rw [← hW1]; exact grown2 _ _ _
  have hlp : W1.heap[w3.heap.size + 1]? = some (.loop (rec .ready none)) := by
    rw [← hW1]; have := World.alloc_heap_new (w3.alloc (.deferred (some []))) (.loop (rec .ready none)); rwa [World.size_alloc] at this
  have hdf : W1.heap[w3.heap.size]? = some (.deferred (some [])) := by
    rw [← hW1]; exact (Below.heap_alloc _ _ _ (by simp)).trans (World.alloc_heap_new w3 _)
  have hW1s : w3.heap.size + 1 < W1.heap.size := (Array.getElem?_eq_some_iff.1 hlp).1
  rw [hW1]
  have gW1 := grown_trans g3 g31
  have JZ : SqJ w w.heap.size w3.heap.size (w3.heap.size + 1) W1.heap.size (rec .ready none) D 0 W1 :=
    ⟨gW1, Nat.le_refl _, ⟨none, 0, bx.grown g31, World.ownsRow_nil _ _ _ _, fun g e => by cases e⟩, hlp, hdf⟩
  have VO : ValsOk Try.prog (w3.heap.size + 1) D q n c bv (fun k W => SqJ w w.heap.size w3.heap.size (w3.heap.size + 1) W1.heap.size (rec .ready none) D k W) := by
    refine ⟨fun k W hJ => ⟨grown_cell hJ.grown HV.out, HD.out.grown hJ.grown⟩, fun k W W' hJ hg => hJ.more hg, fun k W y hJ hy => ?_⟩
    have hk : k < n := by rw [← HN.out]; exact (List.getElem?_eq_some_iff.1 hy).1
    have HT := Lib.hid (show (D.take (k + 1)).flatMap outCs = (D.take k).flatMap outCs ++ exCs (strOfNums y.1) y.2 by
      obtain ⟨h1, h2⟩ := List.getElem?_eq_some_iff.1 hy
      rw [List.take_succ_eq_append_getElem h1, h2, List.flatMap_append]
      simp [outCs])
    simp only [exV, exArr] at *
    obtain ⟨s, hs⟩ : ∃ s, s = strOfNums y.1 := ⟨_, rfl⟩
    rw [← hs] at HT ⊢
    clear hs hy
    refine YR _ _ _ _ hJ.lp rfl ?_
    have g2 := grown1 W (.cells (exArr s y.2) 38)
    have e2 : ExAt (W.alloc (.cells (exArr s y.2) 38)) W.heap.size s y.2 := heap_alloc_new W _
    have JB := hJ.more g2
    simp only [exArr] at g2 e2 JB
    gi_wp2
    obtain ⟨Wb, hWb⟩ : ∃ Wb, W.alloc (.cells #[.string s, .int .i64 y.2.kind, .bool y.2.weak, .int .u64 y.2.value, .int .u64 y.2.resolver, .int .u64 y.2.ordinal, .string (strOfNums y.2.other)] 38) = Wb := ⟨_, rfl⟩
    rw [hWb] at g2 e2 JB ⊢
    refine ⟨JB.lp, fun _ => ?_⟩
    have gP := grownBy_putObj' Wb (w3.heap.size + 1) (.loop (rec .busy none))
    have hlpB : (Wb.putObj (w3.heap.size + 1) (.loop (rec .busy none))).heap[w3.heap.size + 1]? = some (.loop (rec .busy none)) := World.putObj_heap_same (Array.getElem?_eq_some_iff.1 JB.lp).1
    obtain ⟨Wc, hWc⟩ : ∃ Wc, Wb.putObj (w3.heap.size + 1) (.loop (rec .busy none)) = Wc := ⟨_, rfl⟩
    rw [hWc] at gP hlpB ⊢
    obtain ⟨qx, cx, hbx, how, hwh⟩ := JB.box
    have hWs : W1.heap.size ≤ W.heap.size := hJ.size
    have hWbs := g2.size
    have hnr : ∀ b, (Value.slice qx k cx).ownBlock = some b → W1.heap.size ≤ b := hwh
    have hbC := hbx.kept gP (by simp; omega)
    have eC := e2.kept gP (by intro e; injection e with e; omega)
    have how2 := how.kept gP (by cases e : (Value.slice qx k cx).ownBlock with | none => exact .inl rfl | some b => exact .inr (by have := hnr b e; simp; omega))
    have GC := Lib.hid (grown_new JB.grown gP (by omega))
    have DC := Lib.hid (grown_obj gP JB.dfr (by simp))
    have szc : W1.heap.size ≤ Wc.heap.size := by have := gP.size; omega
    have kb := hbC.c
    have kf := hbC.f
    obtain ⟨b0, b1, b2, b3, b4, b5, b6⟩ := eC.c
    have OWN := Lib.hid how2
    have HBX := Lib.hid hbC
    have HLP := Lib.hid hlpB
    have HWH := Lib.hid hwh
    have gA := grown1 Wc (.cells (exArr s y.2) 38)
    have eA : ExAt (Wc.alloc (.cells (exArr s y.2) 38)) Wc.heap.size s y.2 := heap_alloc_new Wc _
    simp only [exArr] at gA eA
    have EA := Lib.hid eA
    have GA := Lib.hid gA
    have kbA := grown_cell gA kb
    clear hbC how2 hlpB hbx how gP hWc hnr hwh e2 eC g2 hWb JB hJ eA
    gi_wp2_with (gi_at_builtin; refine wpIn_append_ex rfl _ _ rfl (.slice qx k cx) k ((D.take k).flatMap outCs) rfl (own_grown OWN.out GA.out) Wc.heap.size s y.2 rfl EA.out (by omega) (by have := GC.out.size; have := GA.out.size; omega) ?_)
    intro v' w6 ho6 hg6 hat6
    obtain ⟨q6, c6, rfl⟩ := own_slice ho6
    have hb6 := (HBX.out.grown GA.out).kept hg6 (fun e => by have := HWH.out _ e; omega)
    have kb6 := hb6.c
    have kf6 := hb6.f
    have hL6 := grown_obj hg6 (grown_obj GA.out HLP.out (by simp)) (fun e => by have := HWH.out _ e; omega)
    have hD6 := grown_obj hg6 (grown_obj GA.out DC.out (by simp)) (fun e => by have := HWH.out _ e; omega)
    have hG6 := grown_opt (grown_trans GC.out GA.out) hg6 (fun g e => by have := HWH.out _ e; have := gW1.size; omega)
    have HW6 : ∀ x, (Value.slice q6 (k + 1) c6).ownBlock = some x → W1.heap.size ≤ x := fun x e => by
      rcases hat6 with h | h
      · rw [h] at e; exact HWH.out x e
      · rw [h] at e; injection e with e; have := GA.out.size; omega
    have sz6 : W1.heap.size ≤ w6.heap.size := by have := GA.out.size; have := hg6.size; omega
    have O6 := Lib.hid ho6
    have X6 := Lib.hid hb6
    have L6 := Lib.hid hL6
    have D6 := Lib.hid hD6
    have G6 := Lib.hid hG6
    have V6 := Lib.hid HW6
    clear ho6 hg6 hat6 hb6 hL6 hD6 hG6 HW6 kb kf kbA b0 b1 b2 b3 b4 b5 b6 gA
    gi_wp2
    have gS := grown_setCell (i := 0) (grown_refl w6 (some w.heap.size)) (.slice q6 (k + 1) c6)
    have hb7 := X6.out.set (.slice q6 (k + 1) c6)
    have L7 := grown_obj gS L6.out (by simp; omega)
    have D7 := grown_obj gS D6.out (by simp; omega)
    have O7 := O6.out.kept gS (by cases e : (Value.slice q6 (k + 1) c6).ownBlock with | none => exact .inl rfl | some b => exact .inr (by have := V6.out b e; simp; omega))
    have G7 := grown_new G6.out gS (Nat.le_refl _)
    have s7 := gS.size
    obtain ⟨w7, hw7⟩ : ∃ w7, w6.setCell ⟨w.heap.size, 0, none⟩ (.slice q6 (k + 1) c6) = w7 := ⟨_, rfl⟩
    rw [hw7] at hb7 L7 D7 O7 G7 s7 ⊢
    have g8 := grownBy_putObj' w7 (w3.heap.size + 1) (.loop (rec .ready none))
    refine ⟨_, _, ER _ _ none L7, rfl, ⟨grown_new G7 g8 (by omega), Nat.le_trans (show W1.heap.size ≤ w7.heap.size by omega) g8.size, ⟨q6, c6, hb7.kept g8 (by simp; omega), ?_, V6.out⟩, World.putObj_heap_same (Array.getElem?_eq_some_iff.1 L7).1, grown_obj g8 D7 (by simp)⟩⟩
    have O8 := O7.kept g8 (by cases e : (Value.slice q6 (k + 1) c6).ownBlock with | none => exact .inl rfl | some b => exact .inr (by have := V6.out b e; simp; omega))
    rw [HT.out]
    exact O8
  refine (values1_any (w := W1) (w3.heap.size + 1) D n HN.out (by omega) q c bv _ VO JZ).mono ?_
  rintro e w5 ⟨⟨v, rfl⟩, hJ⟩
  refine ⟨none, _, OR _ _ _ _ (by simp) hJ.lp, ?_⟩
  obtain ⟨qx, cx, hbx, how, hwh⟩ := hJ.box
  have gR := grownBy_putObj' w5 (w3.heap.size + 1) (.loop (rec .exhausted none))
  have hws := hJ.size
  have hbC := hbx.kept gR (by simp; omega)
  have how2 := how.kept gR (by cases e : (Value.slice qx n cx).ownBlock with | none => exact .inl rfl | some b => exact .inr (by have := hwh b e; simp; omega))
  have hdC := grown_obj gR hJ.dfr (by simp)
  have GC := grown_new hJ.grown gR (by omega)
  obtain ⟨V, hV⟩ : ∃ V, w5.putObj (w3.heap.size + 1) (.loop (rec .exhausted none)) = V := ⟨_, rfl⟩
  rw [hV] at hbC how2 hdC GC ⊢
  have kb := hbC.c
  have OV := Lib.hid how2
  have DV := Lib.hid hdC
  have CV := Lib.hid GC
  have WV := Lib.hid hwh
  clear hbC how2 hdC GC hwh hbx how gR hV hJ VO JZ
  go_wp2
  have gD := grownBy_putObj' V w3.heap.size (.deferred none)
  refine ⟨by simp, .inl ⟨_, _, rfl, run_takeDeferred DV.out, ?_⟩⟩
  refine ⟨_, results_tmp rfl _ _ _, ?_⟩
  have e : (D.take n).flatMap outCs = D.flatMap outCs := by rw [← HN.out, List.take_length]
  rw [← e]
  exact ⟨qx, cx, rfl, OV.out.kept gD (by cases e : (Value.slice qx n cx).ownBlock with | none => exact .inl rfl | some b => exact .inr (by have := WV.out b e; simp; omega)), grown_new CV.out gD (by omega)⟩
end Go.Proofs.Ytbnnlbdjjpmgeaa


namespace Go.Proofs.Ytbnnlbdjjpmgeaa
open Go.RowKit Go.Sort
variable {w w' : World}
theorem own_sorted {α : Type} [Inhabited α] {T : TypeId} {k n c g lo m : Nat} {f : α → List Value} {xs : List Value} {d : Array α} {os : Array Obj} (hf : ∀ x, (f x).length = k) (hk : 0 < k) (h : w.ownsRow lo T k (.slice (some ⟨g, 0, none⟩) n c) n xs) (hd : d.size = n) :
    (sortWorldK f k w g 0 m d os).ownsRow lo T k (.slice (some ⟨g, 0, none⟩) n c) n (d.toList.flatMap f) := by
  obtain ⟨hB, hn | ⟨g', cap, cur, hv, hg', hb, h1, h2, h3, h4⟩⟩ := h
  · cases hn.1
  · injection hv with e1 e2 e3
    injection e1 with e1
    injection e1 with e1 _ _
    subst e1 e3
    have hlt := lt_of_block hb
    have hsz : (flatK f k d).size = n * k := by rw [size_flatK, hd]
    refine ⟨?_, .inr ⟨g, c, putCells id 0 (flatK f k d) cur, rfl, hg', ?_, h1, h2, ?_, ?_⟩⟩
    · rw [flat_len hf, Array.length_toList, hd]
    · simp only [sortWorldK, grow, putRowK, putRow, mapBlock, Sort.ahead]
      rw [Array.getElem?_append_left (by rw [Array.size_modify]; exact hlt), Array.getElem?_modify, if_pos rfl, hb]
      rfl
    · unfold putCells
      rw [Array.size_mapIdx, h3]
    · apply List.ext_getElem?
      intro t
      by_cases ht : t < n * k
      · have hd' : t / k < d.toList.length := by rw [Array.length_toList, hd]; exact Nat.div_lt_of_lt_mul (by rw [Nat.mul_comm]; exact ht)
        have hm : t % k < k := Nat.mod_lt _ hk
        have hx : d.toList[t / k]? = some (d.toList[t / k]'hd') := List.getElem?_eq_getElem hd'
        have hfa := flat_at hf d.toList (t / k) (t % k) _ hx hm
        rw [show t / k * k + t % k = t by rw [Nat.mul_comm]; exact Nat.div_add_mod t k] at hfa
        have hc : t < cur.size := by rw [h3]; exact Nat.lt_of_lt_of_le ht (Nat.mul_le_mul_right k h1)
        rw [hfa, List.getElem?_take_of_lt ht]
        unfold putCells
        rw [Array.getElem?_toList, Array.getElem?_mapIdx, Array.getElem?_eq_getElem hc, Option.map_some, if_pos ⟨Nat.zero_le _, by rw [hsz]; omega⟩, Nat.sub_zero, get_flatK _ _ _ _ (by rw [hd]; exact ht)]
        have hdd : t / k < d.size := by simpa using hd'
        rw [getElem!_pos d (t / k) hdd, getElem!_pos (f d[t / k]) (t % k) (by rw [hf]; exact hm), List.getElem?_eq_getElem (by rw [hf]; exact hm)]
        rfl
      · rw [List.getElem?_eq_none (by rw [List.length_take]; omega), List.getElem?_eq_none (by rw [flat_len hf, Array.length_toList, hd]; omega)]
end Go.Proofs.Ytbnnlbdjjpmgeaa


namespace Go.Proofs.Ytbnnlbdjjpmgeaa
open Go.RowKit Go.Sort
variable {w w' W V : World}

theorem sortEx_any (D : Out) (n : Nat) (hn : D.length = n) (hbig : n ≤ 1000000) (B : Nat) (q : Option Addr) (c : Nat) (h : w.ownsRow B 38 7 (.slice q n c) n (D.flatMap outCs)) :
    Calls Try.prog 28 #[.slice q n c, .func (.func 17) #[] #[]] w fun e w' =>
      e = .returned (.tuple #[]) ∧ ∃ R : Out, R.Perm D ∧ Rises R ∧ w'.ownsRow B 38 7 (.slice q n c) n (R.flatMap outCs) ∧ w.grownBy w' (Value.slice q n c).ownBlock := by
  subst hn
  by_cases h0 : D = []
  · subst h0
    refine (sortNone q c w).mono ?_
    rintro e w' ⟨rfl, rfl⟩
    exact ⟨rfl, [], List.Perm.refl _, List.Pairwise.nil, h, grown_refl _ _⟩
  · have hl0 : 0 < D.length := List.length_pos_iff.2 h0
    have hq : ∃ gv, q = some ⟨gv, 0, none⟩ := by
      rcases h.2 with ⟨_, hn⟩ | ⟨g', cap, cur, hv, _⟩
      · omega
      · injection hv with h1 _ _; exact ⟨g', h1⟩
    obtain ⟨gv, rfl⟩ := hq
    have hlt2 := h.lt gv rfl
    have HK := holdsK_own outCs_len h
    have hsz : D.toArray.size = D.length := by simp
    have hcon := AnyQ.slices_SortFunc Try.sortExp 7 Try.isAgg38 Try.sizeOf38 outCs outCs_len outCs_one cmpEx swoEx 17 #[] gv 0 c D.toArray w (enters_of Try.func17 (by kernel_rfl) rfl) (cmpEx_lays gv 0 _ w) HK hlt2.2 (by rw [hsz]; omega)
    change Calls Try.prog 28 _ _ _ at hcon
    rw [hsz] at hcon
    refine hcon.mono ?_
    rintro e w9 ⟨rfl, d', n9, os9, hp, hs, rfl⟩
    rw [← hsz] at hp hs
    obtain ⟨p1, p2, p3⟩ := perm_list hp hs
    have gs := grown_sort outCs 7 w gv 0 n9 d' os9
    have hold := holds_grown (os := os9) (n := n9) outCs 7 HK p2 hlt2.2
    have hdl : d'.toList.length = D.length := by rw [Array.length_toList, p2, hsz]
    refine ⟨rfl, d'.toList, by simpa using p1, ?_, ?_, gs⟩
    · unfold Rises
      rw [List.pairwise_iff_getElem]
      intro i j hi hj hij
      have hi' : i < d'.size := by simpa using hi
      have hj' : j < d'.size := by simpa using hj
      have := p3 i j hij hj'
      rw [ltEx, getElem!_pos d' i hi', getElem!_pos d' j hj'] at this
      simpa using this
    · exact own_sorted outCs_len (by decide) h (p2.trans hsz)
structure SfOut (w w' : World) (D : Out) (n : Nat) (e : Ending) : Prop where
  ex : ∃ (R : Out) (q : Option Addr) (c : Nat), e = .returned (.slice q n c) ∧ R.length = n ∧ w'.ownsRow w.heap.size 38 7 (.slice q n c) n (R.flatMap outCs) ∧ R.Perm D ∧ Rises R
  grown : w.grownBy w' none
theorem collect_any (D : Out) (n : Nat) (hn : D.length = n) (hbig : n ≤ 1000000) (q : Option Addr) (c bv : Nat) (hv : w.cell? ⟨bv, 0, none⟩ = some (.slice q n c)) (hD : ExsAt w q D) :
    Calls Try.prog 33 #[.func (.func 34) #[] #[.pointer (some ⟨bv, 0, none⟩)]] w fun e w' =>
      ∃ q c, e = .returned (.slice q n c) ∧ w'.ownsRow w.heap.size 38 7 (.slice q n c) n (D.flatMap outCs) ∧ w.grownBy w' none := by
  have AS := Lib.hid (appendSeq_any D n hn hbig q c bv hv hD)
  clear hv hD
  go_enter Try.func33, Try.ntmps33
  go_wp2_with fail
  refine AS.out.mono ?_
  rintro e w2 ⟨q2, c2, rfl, ho, hg⟩
  have O := Lib.hid ho
  have G := Lib.hid hg
  clear ho hg
  go_wp2
  go_ret
  exact ⟨q2, c2, rfl, O.out, G.out⟩
set_option maxRecDepth 20000 in
theorem sortedFunc_any (D : Out) (n : Nat) (hn : D.length = n) (hbig : n ≤ 1000000) (q : Option Addr) (c bv : Nat) (hv : w.cell? ⟨bv, 0, none⟩ = some (.slice q n c)) (hD : ExsAt w q D) :
    Calls Try.prog 15 #[.func (.func 34) #[] #[.pointer (some ⟨bv, 0, none⟩)], .func (.func 17) #[] #[]] w fun e w' => SfOut w w' D n e := by
  have CO := Lib.hid (collect_any D n hn hbig q c bv hv hD)
  have HN := Lib.hid hn
  clear hv hD hn
  go_enter Try.func15, Try.ntmps15
  go_wp2_with fail
  refine CO.out.mono ?_
  rintro e w2 ⟨q2, c2, rfl, ho, hg⟩
  have SR := Lib.hid (sortEx_any D n HN.out hbig w.heap.size q2 c2 ho)
  have OL := Lib.hid (fun g e => (ho.lt g e).1)
  have G := Lib.hid hg
  clear ho hg CO
  go_wp2_with fail
  refine SR.out.mono ?_
  rintro e w3 ⟨rfl, R, hp, hr, ho3, hg3⟩
  have FN := Lib.hid (show SfOut w w3 D n (.returned (.slice q2 n c2)) from ⟨⟨R, q2, c2, rfl, hp.length_eq.trans HN.out, ho3, hp, hr⟩, grown_opt G.out hg3 OL.out⟩)
  clear hp hr ho3 hg3 SR OL G
  go_wp2
  go_ret
  exact FN.out
end Go.Proofs.Ytbnnlbdjjpmgeaa


namespace Go.Proofs.Ytbnnlbdjjpmgeaa
open Go.RowKit
variable {W : World}
theorem own_low {B B' n k : Nat} {T : TypeId} {v : Value} {xs : List Value} (h : W.ownsRow B T k v n xs) (hb : B' ≤ B) : W.ownsRow B' T k v n xs := by
  obtain ⟨h1, h2 | ⟨g, cap, cur, e, hg, r⟩⟩ := h
  · exact ⟨h1, .inl h2⟩
  · exact ⟨h1, .inr ⟨g, cap, cur, e, Nat.le_trans hb hg, r⟩⟩
end Go.Proofs.Ytbnnlbdjjpmgeaa


namespace Go.Proofs.Ytbnnlbdjjpmgeaa
open Go.RowKit

theorem few_pos : ∀ (m : Nat) (l : List Int), l.Pairwise (· ≠ ·) → (∀ x ∈ l, 1 ≤ x ∧ x ≤ m) → l.length ≤ m
  | 0, [], _, _ => Nat.le_refl _
  | 0, x :: l, _, h => by have := h x (List.mem_cons_self ..); omega
  | m + 1, l, hp, h => by
    have h1 : (l.filter fun x => !decide (x = ((m + 1 : Nat) : Int))).length ≤ m := few_pos m _ (hp.filter _) (fun x hx => by
      obtain ⟨a, b⟩ := List.mem_filter.1 hx
      have := h x a
      simp only [Bool.not_eq_true', decide_eq_false_iff_not] at b
      omega)
    have h2 : (l.filter fun x => decide (x = ((m + 1 : Nat) : Int))).length ≤ 1 := by
      have hq := hp.filter (fun x => decide (x = ((m + 1 : Nat) : Int)))
      have hall : ∀ x ∈ l.filter (fun x => decide (x = ((m + 1 : Nat) : Int))), x = ((m + 1 : Nat) : Int) := fun x hx => by
        have := (List.mem_filter.1 hx).2
        simpa using this
      cases hl : l.filter (fun x => decide (x = ((m + 1 : Nat) : Int))) with
      | nil => simp
      | cons a r =>
        cases r with
        | nil => simp
        | cons b r =>
          exfalso
          rw [hl] at hq hall
          exact (List.pairwise_cons.1 hq).1 b (List.mem_cons_self ..) ((hall a (List.mem_cons_self ..)).trans (hall b (by simp)).symm)
    have h3 : l.length = (l.filter fun x => decide (x = ((m + 1 : Nat) : Int))).length + (l.filter fun x => !decide (x = ((m + 1 : Nat) : Int))).length := by
      clear h1 h2 h hp
      induction l with
      | nil => rfl
      | cons a l ih =>
        by_cases ha : a = ((m + 1 : Nat) : Int)
        · rw [List.filter_cons_of_pos (by simpa using ha), List.filter_cons_of_neg (by simpa using ha), List.length_cons, List.length_cons]; omega
        · rw [List.filter_cons_of_neg (by simpa using ha), List.filter_cons_of_pos (by simpa using ha), List.length_cons, List.length_cons]; omega
    omega
theorem kids_few {nd : PN} (h : PnOk nd) : nd.kids.length ≤ 255 := by
  have := few_pos 255 (nd.kids.map fun k => k.1.getD 0 0) (List.pairwise_map.2 h.apart) (fun x hx => by
    obtain ⟨k, hk, rfl⟩ := List.mem_map.1 hx
    have e := h.edge k hk
    obtain ⟨c, t, hc⟩ : ∃ c t, k.1 = c :: t := by
      cases hk1 : k.1 with
      | nil => exact absurd hk1 e.ne
      | cons c t => exact ⟨c, t, rfl⟩
    rw [hc]
    have hb := e.byt c (by rw [hc]; exact List.mem_cons_self ..)
    have hz : c ≠ 0 := fun h0 => e.zero (by rw [hc, h0]; exact List.mem_cons_self ..)
    show 1 ≤ c ∧ c ≤ 255
    omega)
  rwa [List.length_map] at this
theorem said_len {x : Ex} (h : ExOk x) : (saidB x).length ≤ 300 := by
  have h1 := encU_10 (flagN x) (by unfold flagN; repeat' (first | omega | split))
  have h2 := encU_10 x.ordinal.toNat (by have := h.ordinal; omega)
  have h3 := encU_10 x.value.toNat (by have := h.value; omega)
  have h4 := encU_10 x.resolver.toNat (by have := h.resolver; omega)
  have h5 : x.other.length ≤ 255 := by
    have := h.text
    unfold textM at this
    rw [Bool.and_eq_true, decide_eq_true_eq] at this
    exact this.1
  unfold saidB
  rw [List.length_append]
  split
  · simp only [List.length_append, List.length_singleton]; omega
  split
  · simp only [List.length_append]; omega
  · omega
theorem front_len {nd : PN} (h : PnOk nd) : (frontB nd.says).length ≤ 310 := by
  cases hs : nd.says with
  | none => simp [frontB]
  | some x =>
    have := said_len (h.says x hs)
    have := encU_10 (saidB x).length (by omega)
    show (encU (saidB x).length ++ saidB x).length ≤ 310
    rw [List.length_append]
    omega
theorem node_len {pl : List Nat} (hp : ∀ i, pl.getD i 0 < 18446744073709551616) {nd : PN} (h : PnOk nd) : (nodeB pl nd).length ≤ 68141 := by
  have h1 := front_len h
  have h2 := kids_few h
  have h3 : ∀ ks : List (List Int × Nat), (∀ k ∈ ks, EdgeOk k.1) → (ks.flatMap (kidB pl)).length ≤ 266 * ks.length := by
    intro ks
    induction ks with
    | nil => intro _; simp
    | cons k ks ih =>
      intro hk
      have a := (hk k (List.mem_cons_self ..)).len
      have b := encU_10 (pl.getD k.2 0) (hp _)
      have c := ih (fun x hx => hk x (List.mem_cons_of_mem _ hx))
      rw [List.flatMap_cons, List.length_append, List.length_cons]
      unfold kidB at *
      rw [List.length_append, List.length_append, List.length_singleton]
      omega
  have h4 := h3 nd.kids h.edge
  unfold nodeB
  rw [List.length_append, List.length_append, List.length_singleton]
  omega
theorem lay_len {pl : List Nat} (hp : ∀ i, pl.getD i 0 < 18446744073709551616) : ∀ (nodes : List PN), (∀ nd ∈ nodes, PnOk nd) → (layB pl nodes).length ≤ 68141 * nodes.length
  | [], _ => by simp [layB]
  | nd :: l, h => by
    have a := node_len hp (h nd (List.mem_cons_self ..))
    have b := lay_len hp l (fun x hx => h x (List.mem_cons_of_mem _ hx))
    unfold layB at b ⊢
    rw [List.flatMap_cons, List.length_append, List.length_cons]
    omega
theorem rounds_ok {nodes : List PN} (hok : ∀ nd ∈ nodes, PnOk nd) (hfew : nodes.length ≤ 8192) : ∀ t, (∀ i, (roundsN nodes t).getD i 0 ≤ 558211072) ∧ (layB (roundsN nodes t) nodes).length ≤ 558211072 := by
  have key : ∀ t, (∀ i, (roundsN nodes t).getD i 0 ≤ 558211072) → (layB (roundsN nodes t) nodes).length ≤ 558211072 := fun t h => by
    have := lay_len (pl := roundsN nodes t) (fun i => by have := h i; omega) nodes hok
    omega
  intro t
  induction t with
  | zero =>
    have h0 : ∀ i, (roundsN nodes 0).getD i 0 ≤ 558211072 := fun i => by
      simp only [roundsN, List.getD_eq_getElem?_getD, List.getElem?_replicate]
      split <;> simp
    exact ⟨h0, key 0 h0⟩
  | succ t ih =>
    have h1 : ∀ i, (roundsN nodes (t + 1)).getD i 0 ≤ 558211072 := fun i => by
      show (placesF (roundsN nodes t) 0 nodes).getD i 0 ≤ 558211072
      rcases Nat.lt_or_ge i nodes.length with h | h
      · rw [placesF_at _ _ _ _ h]
        have := lay_le (roundsN nodes t) h
        have := ih.2
        omega
      · have hl := placesF_len (roundsN nodes t) nodes 0
        rw [List.getD_eq_getElem?_getD, List.getElem?_eq_none (by omega)]
        exact Nat.zero_le _
    exact ⟨h1, key _ h1⟩
structure PlanF (R : Out) (N : List (List Int)) (P : List PN) : Prop where
  len : N.length = P.length
  own : ownsN N P = R
  up : N.Pairwise fun a b => nmLt a b = true
  ok : ∀ nd ∈ P, PnOk nd
  edge : ∀ i nd, P[i]? = some nd → ∀ x ∈ nd.kids, i < x.2 ∧ x.2 < P.length ∧ N.getD x.2 [] = N.getD i [] ++ x.1
  kids : ∀ j, j < P.length → (runK N P.length 0 ([], fun _ => [])).2 j = kidsAt P j
  few : P.length ≤ 8192
  name : ∀ q ∈ N, Byt q ∧ q.length ≤ 255
theorem adj_sub : ∀ (l : Out) (q : List Int), q ∈ adjN l → ∃ y ∈ l, ∃ n, q = y.1.take n
  | [], q, h => by cases h
  | [_], q, h => by cases h
  | a :: b :: l, q, h => by
    rcases List.mem_cons.1 h with h | h
    · exact ⟨a, List.mem_cons_self .., _, h⟩
    · obtain ⟨y, hy, n, e⟩ := adj_sub (b :: l) q h
      exact ⟨y, List.mem_cons_of_mem _ hy, n, e⟩
theorem planF {R : Out} (hn : R ≠ []) (hu : Up R) (hok : ∀ y ∈ R, NameOk y.1 ∧ ExOk y.2) (hfew : R.length ≤ 4096) : PlanF R (namesA 257 R 0) (plan 257 R 0 0) := by
  have h255 : ∀ y ∈ R, y.1.length ≤ 255 := fun y hy => (hok y hy).1.len
  have NO := names_ok 257 R [] hn hu.rise h255 (by simp)
  have hat : ∀ j, j < (namesA 257 R ([] : List Int).length).length → (namesA 257 R 0).getD (0 + j) [] = (namesA 257 R ([] : List Int).length).getD j [] := fun j _ => by rw [Nat.zero_add]; rfl
  have E := edges_plan (namesA 257 R 0) 257 R [] 0 hn hu.rise h255 (by simp) hat
  have K := run_plan (namesA 257 R 0) 257 R [] 0 [] (fun _ => []) hn hu.rise h255 (by simp) hat (fun s hs => by cases hs)
  refine ⟨names_len 257 R 0 0, owns_plan 257 R [] 0 hn hu.rise h255 (by simp), NO.up, plan_ok 257 R [] 0 hn hu.rise hok, fun i nd hi x hx => ?_, fun j hj => ?_, ?_, fun q hq => ?_⟩
  · have := E.2 i nd hi x hx
    simp only [Nat.zero_add] at this
    exact this
  · have := K.kids j
    rw [if_pos ⟨Nat.zero_le _, by rw [Nat.zero_add]; exact hj⟩, List.nil_append, Nat.sub_zero] at this
    exact this
  · have : (plan 257 R 0 0).length ≤ 2 * R.length := plan_len0 256 R 0 hn hu.rise (fun y hy => (hok y hy).1.ne)
    omega
  · have hm := (NO.mem q).1 hq
    rcases hm with rfl | h | h
    · exact ⟨fun x hx => (by cases hx), by simp⟩
    · obtain ⟨y, hy, rfl⟩ := List.mem_map.1 h
      exact ⟨(hok y hy).1.byt, (hok y hy).1.len⟩
    · obtain ⟨y, hy, n, rfl⟩ := adj_sub R q h
      exact ⟨(hok y hy).1.byt.take n, by rw [List.length_take]; have := (hok y hy).1.len; omega⟩
end Go.Proofs.Ytbnnlbdjjpmgeaa


namespace Go.Proofs.Ytbnnlbdjjpmgeaa
open Go.RowKit
variable {w : World}

def Bytes (w w' : World) (all : List Int) (e : Ending) : Prop :=
  (∃ q c, e = .returned (.slice q all.length c) ∧ w'.ownsRow w.heap.size 5 1 (.slice q all.length c) all.length (all.map (Value.int .u8))) ∧ Below w.heap.size w w'
theorem own_lit (w : World) (x : Int) : (w.alloc (.cells #[.int .u8 x] 5)).ownsRow w.heap.size 5 1 (.slice (some ⟨w.heap.size, 0, none⟩) 1 1) 1 [.int .u8 x] :=
  World.ownsRow_lit w #[.int .u8 x] 1 (Nat.le_refl _) (by decide) rfl
theorem own_below {w w' : World} {base : Nat} {v : Value} {n : Nat} {xs : List Value} (h : w.ownsRow base 5 1 v n xs) (hb : Below w.heap.size w w') (_ : base ≤ w.heap.size) : w'.ownsRow base 5 1 v n xs :=
  h.kept (grown_below hb none) (by cases v.ownBlock <;> simp)
set_option maxRecDepth 20000 in
theorem refput_any (k : Nat) : ∀ (n : Nat), n < k → n < 18446744073709551616 → ∀ w : World, Calls Try.prog 25 #[.int .u64 n] w fun e w' => Bytes w w' (encU n) e := by
  induction k with
  | zero => intro n h; omega
  | succ k ih =>
    intro n hk hn w
    by_cases h : n < 128
    · have e1 := encU_small h
      have E := Lib.hid e1
      have O := Lib.hid (own_lit w n)
      clear e1
      clear ih hk
      generalize encU n = all at *
      go_enter Try.func25, Try.ntmps25
      go_wp2_with fail
      go_ret
      rw [E.out]
      exact ⟨⟨_, _, rfl, O.out⟩, (Below.refl _ _).alloc (Nat.le_refl _) _⟩
    · have e1 := encU_big h
      have hl := encU_10 n hn
      have I := Lib.hid (ih (n / 128) (by omega) (by omega))
      have O := Lib.hid (own_lit w ((n : Int) % 128 + 128))
      have e3 : ((n / 128 : Nat) : Int) = (n : Int) / 128 := by omega
      have e2 : ((n % 128 : Nat) : Int) + 128 = (n : Int) % 128 + 128 := by omega
      rw [e2] at e1
      rw [e3] at I
      have E := Lib.hid e1
      clear ih e1 e2 e3
      generalize encU n = all at *
      generalize encU (n / 128) = rest at *
      have hl2 : rest.length ≤ 10 := by rw [E.out] at hl; simp at hl; omega
      go_enter Try.func25, Try.ntmps25
      go_wp2_with fail
      refine (I.out _).mono ?_
      rintro e w2 ⟨⟨q2, c2, rfl, o2⟩, b2⟩
      have own2 := own_below O.out b2 (by simp)
      have b3 : Below w.heap.size w w2 := ((Below.refl _ _).alloc (Nat.le_refl _) _).trans (b2.mono (by simp))
      have hb2 := IsBytes.of_own rfl o2
      have OW := Lib.hid own2
      have HB := Lib.hid hb2
      have B3 := Lib.hid b3
      clear own2 hb2 b3 o2 b2
      go_wp2_with (at_builtin; refine wp_append_bytes rfl _ _ rfl rfl _ _ _ rfl OW.out rest rest.length rfl rfl HB.out ?_ ?_ ?_)
      · omega
      · exact B3.out.size
      · intro v' w3 h1 h2
        obtain ⟨q', c', rfl⟩ := own_slice8 h1
        have hB : Below w.heap.size w w3 := B3.out.trans (below_grown h2 B3.out.size (fun g hg => (OW.out.lt g hg).1))
        have hl3 : all.length = 1 + rest.length := by rw [E.out]; simp; omega
        have h1' : w3.ownsRow w.heap.size 5 1 (.slice q' all.length c') all.length (all.map (Value.int .u8)) := by
          rw [hl3, E.out]; exact h1
        have F := Lib.hid (And.intro h1' hB)
        have L := Lib.hid hl3
        clear h1 h2 hB h1' hl3
        go_wp2
        go_ret
        rw [← L.out]
        exact ⟨⟨_, _, rfl, F.out.1⟩, F.out.2⟩
end Go.Proofs.Ytbnnlbdjjpmgeaa

