/- Parts of the proof, put together: Take, Uleb, TrN, PenU, Chg, TrY, SortK, SortExp, Put, Puts, Enc, Round, MkA, FxN, RbN, RbI, RbJ, RbK, FxM. No condition beyond those that each part names. -/
import Derived.Shelf.Small.Bits
import Derived.Shelf.Small.Strs
import Derived.Shelf.Strconv.Itoa0
import Derived.Shelf.Strings.Search1
import Derived.Shelf.Bytes.SlIndexAt
import Derived.Shelf.Bytes.SlSearch0
import Derived.Ground.SlbCloneProg
import Derived.Shelf.Bytes.SlClone
import Derived.Shelf.Bytes.IndexByte
import Derived.Test.YtbnnlbdjjpmgeaaGreatProg
import Derived.Test.YtbnnlbdjjpmgeaaGreatRows
import Derived.WalkKit
import Derived.WalkSpells
import Derived.WalkLawsBesides
import Derived.BigQuiet
import Derived.Deep.QuietTactic
import Derived.Lib.Hide
import Derived.IntWalk
import Derived.OneCell
import Derived.Laws.Rows
import Derived.Laws.BytesArg
import Derived.Shelf.Bytes.SlEqualAll
import Derived.Lib.SlFresh
import Derived.Maps.AppendAt
import Derived.OpenShut
import Derived.ProofKit
import Derived.Deep.AppendSrc
import Derived.Deep.Upon
import Derived.Lib.AppendZeros
import Derived.Laws.IdiomStrings
import Derived.Lib.AppendZerosOnto
import Derived.Laws.StructEq
import Derived.Below
import Derived.Shelf.Abstract
import Derived.Laws.ResultCell
import Derived.Deep.Slices
import Derived.ChangeSame
import Derived.Laws.OwnMore
import Derived.Stop.Asserts
import Derived.Laws.Externs
import Derived.Laws.Bits128
import Derived.Lib.SmallJoins
import Derived.Deep.Cut
import Derived.Deep.CutRange
import Derived.WalkArith
import Derived.Maps.Own
import Derived.Maps.OwnOps
import Derived.Maps.OwnSet
import Derived.Maps.Views
import Derived.RangeFuncRecord
import Derived.RangeFuncSeq
import Derived.RangeFuncCalls
import Derived.RangeFuncBound
import Derived.OwnWalkIn
import Derived.TacticsInMore
import Derived.Shelf.RegionOpen
import Derived.Deep.RegionHeld3
import Derived.BigRegion
import Derived.Deep.RegionLaw
import Derived.StillTailTactics
import Derived.RangeFuncNested
import Derived.RangeFuncIn
import Derived.RangeFuncLeaves
import Derived.RegionTactic
import Derived.Laws.Slices
import Derived.Lib.ConvBytes
import Derived.StringKeys
import Derived.WideShapes
import Derived.Lib.QuietBelow
import Derived.Laws.Tables
import Derived.BigFrame
import Derived.Lib.EndianBits
import Derived.ChangeAlike
import Derived.WalkMore
import Derived.Deep.LoopGhost
import Derived.PlainAid
import Derived.Lib.SlBytesRow
import Derived.Deep.Onto
import Derived.Laws.EntriesVeiled
import Derived.Shelf.SlSortCmp.WholeK
import Derived.Shelf.SlGeneric
import Derived.Ground.SlsfProg
import Derived.Sort.Walk0
import Derived.Test.YtbnnlbdjjpmgeaaGreatPR1
namespace Go.Proofs.YtbnnlbdjjpmgeaaGreat
open Go.RowKit
variable {w : World} {base a : Nat} {q : Option Addr} {c : Nat} {xs : List Int} {p : Nat} {big : Bool}

theorem number1 (h : Cur w base a q c xs p big false) (hp : p < xs.length) {x : Int} (hx : xs.getD p 0 = x) :
    Calls Tryz.prog 94 #[.pointer (some ⟨a, 0, none⟩), .int .i64 1] w fun e w' =>
      e = .returned (.int .u64 x) ∧ Cur w' base a q c xs (p + 1) big false ∧ w.grownBy w' (some a) := by
  have h1 : numOf big ((xs.drop p).take 1) = x := by
    subst hx
    rw [List.drop_eq_getElem_cons hp, show (xs[p] :: xs.drop (p + 1)).take 1 = [xs[p]] from rfl, show xs.getD p 0 = xs[p] by simp [hp]]
    cases big <;> simp [numOf, beN, leN]
  have := number_ok h 1 (.inl rfl) (by omega)
  rw [h1] at this
  exact this
theorem uleb_no {l : List Int} (h : szN 10 l = 0 ∨ 18446744073709551616 ≤ valN (l.take (szN 10 l))) : ulebN l = (0, 0) := by
  unfold ulebN
  rcases h with h | h
  · rw [h]; simp [valN]
  · rw [if_neg (by omega)]
theorem uleb_yes {l : List Int} {k : Nat} {v : Int} (h : szN 10 l = k) (hv : valN (l.take k) = v) (h2 : v < 18446744073709551616) : ulebN l = (v, k) := by
  unfold ulebN
  rw [h, hv, if_pos h2]
structure URel (w0 w : World) (base a : Nat) (q : Option Addr) (c : Nat) (xs : List Int) (p : Nat) (big : Bool) (bn k : Nat) : Prop where
  le : k ≤ 10
  len : p + k ≤ xs.length
  more : More (xs.drop p) k
  cur : Cur w base a q c xs (p + k) big false
  cell : ∃ N' : Int, w.heap[bn]? = some (.cells #[.int .u64 N'] 26 (0, 0)) ∧ (k ≤ 9 → N' = valN ((xs.drop p).take k))
  kept : KeptBut w0 w [a, bn]
def UEnd (w0 w : World) (base a : Nat) (q : Option Addr) (c : Nat) (xs : List Int) (p : Nat) (big : Bool) (bn : Nat) (e : Ending) : Prop :=
  e = .returned (.bool (decide (0 < (ulebN (xs.drop p)).2))) ∧ Cur w base a q c xs (p + (ulebN (xs.drop p)).2) big (decide ((ulebN (xs.drop p)).2 = 0)) ∧
    (0 < (ulebN (xs.drop p)).2 → w.heap[bn]? = some (.cells #[.int .u64 (ulebN (xs.drop p)).1] 26 (0, 0))) ∧ KeptBut w0 w [a, bn]
theorem uend_no {w0 w1 : World} {bn : Nat} (hn : ulebN (xs.drop p) = (0, 0)) (hc : Cur w1 base a q c xs p big true) (hk : KeptBut w0 w1 [a, bn]) : UEnd w0 w1 base a q c xs p big bn (.returned (.bool false)) := by
  refine ⟨by rw [hn]; rfl, by rw [hn]; exact hc, fun h => ?_, hk⟩
  rw [hn] at h; exact absurd h (by decide)
theorem uleb_long {l : List Int} (h : More l 10) : ulebN l = (0, 0) := uleb_no (.inl (szN_long 10 l h))
theorem uleb_short {l : List Int} (h : More l l.length) : ulebN l = (0, 0) := uleb_no (.inl (szN_short 10 l h))
theorem uleb_room {l : List Int} (h : More l 9) (hl : 9 < l.length) (hx : 1 < l.getD 9 0 % 128) : ulebN l = (0, 0) := by
  by_cases h1 : l.getD 9 0 < 128
  · have hs := szN_end 10 9 l (by omega) hl h h1
    refine uleb_no (.inr ?_)
    rw [hs, valN_take hl]
    have := valN_bd (l.take 9)
    omega
  · exact uleb_long (h.succ (by omega))
theorem uleb_last {l : List Int} {k : Nat} {N : Int} (hk : k ≤ 9) (h : More l k) (hl : k < l.length) (hx : l.getD k 0 < 128) (h0 : 0 ≤ l.getD k 0) (hok : k < 9 ∨ l.getD k 0 ≤ 1)
    (hN : N = valN (l.take k)) : ulebN l = (N + l.getD k 0 * 128 ^ k, k + 1) := by
  have hs := szN_end 10 k l (by omega) hl h hx
  have hb := valN_bd (l.take k)
  rw [List.length_take, Nat.min_eq_left (Nat.le_of_lt hl)] at hb
  refine uleb_yes hs ?_ ?_
  · rw [valN_take hl, hN, Int.emod_eq_of_lt h0 hx]
  · subst hN
    rcases Nat.lt_or_ge k 9 with h9 | h9
    · have h1 := p128_8 h9
      have : l.getD k 0 * 128 ^ k ≤ 127 * 128 ^ k := Int.mul_le_mul_of_nonneg_right (by omega) (Int.le_of_lt (p128 k))
      omega
    · obtain rfl : k = 9 := by omega
      have : l.getD 9 0 ≤ 1 := by omega
      generalize l.getD 9 0 = y at *
      have : (128 : Int) ^ 9 = 9223372036854775808 := by decide
      omega
theorem uend_yes {w0 w1 : World} {bn k : Nat} {V : Int} (hn : ulebN (xs.drop p) = (V, k + 1)) (hc : Cur w1 base a q c xs (p + k + 1) big false) (hcell : w1.heap[bn]? = some (.cells #[.int .u64 V] 26 (0, 0)))
    (hk : KeptBut w0 w1 [a, bn]) : UEnd w0 w1 base a q c xs p big bn (.returned (.bool true)) := by
  refine ⟨by rw [hn]; simp, by rw [hn]; exact hc, fun _ => by rw [hn]; exact hcell, hk⟩
set_option maxHeartbeats 800000 in
theorem takeu_any (h : Cur w base a q c xs p big false) (bn : Nat) (hb : w.heap[bn]? = some (.cells #[.int .u64 0] 26 (0, 0))) (hne : bn ≠ a) (hq : (Value.slice q xs.length c).ownBlock ≠ some bn) :
    Calls Tryz.prog 147 #[.pointer (some ⟨a, 0, none⟩), .func (.func 148) #[] #[.pointer (some ⟨bn, 0, none⟩)]] w fun e w' => UEnd w w' base a q c xs p big bn e := by
  have R0 : URel w w base a q c xs p big bn 0 := ⟨by omega, h.le, fun i hi => by omega, h, ⟨0, hb, fun _ => rfl⟩, KeptBut.refl _ _⟩
  have hple := h.le
  have hbig := h.big
  have B := Lib.hid h.bytes
  have NE := Lib.hid hne
  have HQ := Lib.hid hq
  clear hb hne hq
  go_enter Tryz.func147, Tryz.ntmps147
  go_wp2_with fail
  go_step3
  go_wp2_with fail
  refine (err_any h).mono ?_
  rintro e w' ⟨rfl, rfl⟩
  go_wp2_with fail
  refine (at_any h).mono ?_
  rintro e w' ⟨rfl, rfl⟩
  go_wp2_with fail
  go_step3
  go_wp2_with fail
  go_loopw [13] (fun i wr => ∃ k : Nat, i = .int .i64 k ∧ URel w wr base a q c xs p big bn k) (fun i _ => 10 - (intOf i).toNat)
  case atStart => exact ⟨0, rfl, R0⟩
  case round =>
    obtain ⟨k, rfl, hk, hlen, hmore, hcur, ⟨N, hcell, hN⟩, hkept⟩ := hrel
    have hrl : (xs.drop p).length = xs.length - p := by simp
    have M := Lib.hid hmore
    have KP := Lib.hid hkept
    have HN := Lib.hid hN
    have RL := Lib.hid hrl
    have HC := Lib.hid hcell
    clear hmore hkept hN hrl hcell
    by_cases h10 : k = 10
    · subst h10
      go_wp2_with fail
      refine (seek_ok (hcur) p (by omega)).mono ?_
      rintro e w5 ⟨rfl, hc5, hg5⟩
      go_wp2_with fail
      refine (fail_any hc5).mono ?_
      rintro e w6 ⟨rfl, hc6, hg6⟩
      have E := Lib.hid (uend_no (uleb_long M.out) hc6 (((KP.out).trans (.of_grown hg5 (by simp))).trans (.of_grown hg6 (by simp))))
      clear hc5 hg5 hg6
      go_wp2
      (try rw [Exit.noGoto_ret])
      go_ret
      exact E.out
    by_cases hend : p + k = xs.length
    · have hl0 : (xs.length : Int) - ((p + k : Nat) : Int) = 0 := by omega
      have Z := Lib.hid hl0
      clear hl0
      go_wp2_with fail
      refine (left_any hcur).mono ?_
      rintro e w' ⟨rfl, n, rfl⟩
      rw [Z.out]
      go_wp2_with fail
      refine (seek_ok (hcur.drewN n) p (by omega)).mono ?_
      rintro e w5 ⟨rfl, hc5, hg5⟩
      go_wp2_with fail
      refine (fail_any hc5).mono ?_
      rintro e w6 ⟨rfl, hc6, hg6⟩
      have E := Lib.hid (uend_no (uleb_short (by rw [RL.out, show xs.length - p = k by omega]; exact M.out)) hc6 (((KP.out.drewN n).trans (.of_grown hg5 (by simp))).trans (.of_grown hg6 (by simp))))
      clear hc5 hg5 hg6
      go_wp2
      (try rw [Exit.noGoto_ret])
      go_ret
      exact E.out
    · obtain ⟨m, hm⟩ : ∃ m : Nat, (xs.length : Int) - ((p + k : Nat) : Int) = (m : Int) := ⟨xs.length - (p + k), by omega⟩
      have hm0 : 0 < m := by omega
      have Z := Lib.hid hm
      clear hm
      have hkl : p + k < xs.length := by omega
      have hx0 := B.out (xs.getD (p + k) 0) (by simp [List.getD, hkl, List.getElem_mem])
      have hgd : (xs.drop p).getD k 0 = xs.getD (p + k) 0 := by simp [List.getD, List.getElem?_drop]
      have NUM := fun n => number1 (hcur.drewN n) hkl rfl
      generalize hxx : xs.getD (p + k) 0 = x at *
      have GD := Lib.hid hgd
      have NM := Lib.hid NUM
      clear hgd NUM hxx
      go_wp2_with fail
      refine (left_any hcur).mono ?_
      rintro e w' ⟨rfl, n, rfl⟩
      rw [Z.out]
      go_wp2_with fail
      refine (NM.out n).mono ?_
      rintro e w2 ⟨rfl, hc2, hg2⟩
      have hcell2 : w2.heap[bn]? = some (.cells #[.int .u64 N] 26 (0, 0)) := (hg2.block bn (by simpa using lt_of_block HC.out) (fun e => NE.out (by simpa using e))).trans HC.out
      have CL := uclo_any bn N (x % 128) k (by omega) (by omega) (by rw [HN.out (by omega)]; have := valN_bd ((xs.drop p).take k); rwa [List.length_take, RL.out, Nat.min_eq_left (by omega)] at this) hcell2
      have C2 := Lib.hid CL
      clear CL hcell2
      have K2 := Lib.hid ((KP.out.drewN n).trans (.of_grown hg2 (by simp)))
      clear hg2
      by_cases hok : k < 9 ∨ x % 128 ≤ 1
      · have hd : decide (k < 9 ∨ x % 128 ≤ 1) = true := by simpa using hok
        rw [hd] at C2
        clear hd
        by_cases hx : x < 128
        · go_wp2_with fail
          refine C2.out.mono ?_
          rintro e w3 ⟨rfl, ⟨V, hV, hVN⟩, hg3⟩
          have hc3 := hc2.kept hg3 (by simpa using NE.out) (.inr HQ.out)
          have hv := hVN hok
          rw [Int.emod_eq_of_lt hx0.1 hx] at hv hok
          subst hv
          have GD' := GD.out
          have hu : ulebN (xs.drop p) = (N + x * 128 ^ k, k + 1) := by
            have := uleb_last (N := N) (l := xs.drop p) (k := k) (by omega) M.out (by rw [RL.out]; omega) (by rw [GD']; exact hx) (by rw [GD']; exact hx0.1) (by rw [GD']; exact hok) (HN.out (by omega))
            rwa [GD'] at this
          have E := Lib.hid (uend_yes hu hc3 hV (K2.out.trans (.of_grown hg3 (by simp))))
          clear GD' hu hV hVN hg3 hc3
          go_wp2
          (try rw [Exit.noGoto_ret])
          go_ret
          exact E.out
        · have hx2 : 128 ≤ x := by omega
          go_wp2_with fail
          refine C2.out.mono ?_
          rintro e w3 ⟨rfl, ⟨V, hV, hVN⟩, hg3⟩
          have hc3 := hc2.kept hg3 (by simpa using NE.out) (.inr HQ.out)
          have hv := hVN hok
          have R : URel w w3 base a q c xs p big bn (k + 1) := ⟨by omega, by omega, M.out.succ (by rw [GD.out]; exact hx2), hc3, ⟨V, hV, fun h9 => by
            rw [valN_take (by rw [RL.out]; omega), GD.out, hv, HN.out (by omega)]⟩, K2.out.trans (.of_grown hg3 (by simp))⟩
          have RR := Lib.hid R
          clear R hV hVN hg3 hc3 hv
          go_wp2
          go_roundw
          case rel => exact ⟨k + 1, by go_num, RR.out⟩
          case measure => simp [intOf]; omega
      · have hd : decide (k < 9 ∨ x % 128 ≤ 1) = false := by simpa using hok
        rw [hd] at C2
        clear hd
        obtain rfl : k = 9 := by omega
        go_wp2_with fail
        refine C2.out.mono ?_
        rintro e w3 ⟨rfl, ⟨V, hV, hVN⟩, hg3⟩
        have hc3 := hc2.kept hg3 (by simpa using NE.out) (.inr HQ.out)
        have K3 := Lib.hid (K2.out.trans (.of_grown hg3 (by simp)))
        clear hV hVN hg3
        go_wp2_with fail
        refine (seek_ok (hc3) p (by omega)).mono ?_
        rintro e w5 ⟨rfl, hc5, hg5⟩
        go_wp2_with fail
        refine (fail_any hc5).mono ?_
        rintro e w6 ⟨rfl, hc6, hg6⟩
        have E := Lib.hid (uend_no (uleb_room M.out (by rw [RL.out]; omega) (by rw [GD.out]; omega)) hc6 (((K3.out).trans (.of_grown hg5 (by simp))).trans (.of_grown hg6 (by simp))))
        clear hc5 hg5 hg6
        go_wp2
        (try rw [Exit.noGoto_ret])
        go_ret
        exact E.out
end Go.Proofs.YtbnnlbdjjpmgeaaGreat


namespace Go.Proofs.YtbnnlbdjjpmgeaaGreat
open Go.RowKit
variable {w : World} {base a : Nat} {q : Option Addr} {c : Nat} {xs : List Int} {p : Nat} {big : Bool}

theorem uleb_none {l : List Int} (h : (ulebN l).2 = 0) : (ulebN l).1 = 0 := by
  unfold ulebN at *
  split at h
  · simp only at h; rw [if_pos (by assumption), h]; rfl
  · rw [if_neg (by assumption)]
theorem uleb_any (h : Cur w base a q c xs p big false) :
    Calls Tryz.prog 96 #[.pointer (some ⟨a, 0, none⟩)] w fun e w' =>
      e = .returned (.int .u64 (ulebN (xs.drop p)).1) ∧ Cur w' base a q c xs (p + (ulebN (xs.drop p)).2) big (decide ((ulebN (xs.drop p)).2 = 0)) ∧ w.grownBy w' (some a) := by
  have hlt := h.lt
  have h1 : Cur (w.alloc (.cells #[.int .u64 0] 26)) base a q c xs p big false := h.kept (World.grownBy_alloc w _ none) (by simp) (by cases (Value.slice q xs.length c).ownBlock <;> simp)
  have T := takeu_any h1 w.heap.size (heap_alloc_new w _) (by omega) (fun e => by have := (h.own.lt _ e).2; omega)
  have Z := uleb_none (l := xs.drop p)
  unfold UEnd at T
  generalize ulebN (xs.drop p) = r at *
  obtain ⟨v, n⟩ := r
  simp only at T Z ⊢
  have TT := Lib.hid T
  clear T
  go_enter Tryz.func96, Tryz.ntmps96
  go_wp2_with fail
  refine TT.out.mono ?_
  rintro e w2 ⟨he, hc, hcell, hk⟩
  have G := KeptBut.grown (World.grownBy_alloc w (.cells #[.int .u64 0] 26) none) hk (a := a) (by simp)
  by_cases hn : n = 0
  · subst hn
    obtain rfl := Z rfl
    have E := Lib.hid (And.intro hc G)
    subst he
    clear hcell hk hc G
    go_wp2
    go_ret
    exact ⟨rfl, E.out.1, E.out.2⟩
  · have hd : decide (0 < n) = true := by simp; omega
    have c0 : w2.cell? ⟨w.heap.size, 0, none⟩ = some (.int .u64 v) := by rw [cell_of (hcell (by omega))]; rfl
    rw [hd] at he
    subst he
    have E := Lib.hid (And.intro hc G)
    clear hcell hk hc G hd
    go_wp2
    go_ret
    exact ⟨rfl, E.out.1, E.out.2⟩
theorem take_bad (h : Cur w base a q c xs p big true) (f : Value) :
    Calls Tryz.prog 147 #[.pointer (some ⟨a, 0, none⟩), f] w fun e w' => e = .returned (.bool false) ∧ w = w' := by
  go_enter Tryz.func147, Tryz.ntmps147
  go_wp2_with fail
  go_step3
  go_wp2_with fail
  refine (err_any h).mono ?_
  rintro e w' ⟨rfl, rfl⟩
  go_wp2
  (try rw [Exit.noGoto_ret])
  go_ret
  exact ⟨rfl, rfl⟩
theorem uleb_bad (h : Cur w base a q c xs p big true) :
    Calls Tryz.prog 96 #[.pointer (some ⟨a, 0, none⟩)] w fun e w' => e = .returned (.int .u64 0) ∧ Cur w' base a q c xs p big true ∧ w.grownBy w' none := by
  have h1 : Cur (w.alloc (.cells #[.int .u64 0] 26)) base a q c xs p big true := h.kept (World.grownBy_alloc w _ none) (by simp) (by cases (Value.slice q xs.length c).ownBlock <;> simp)
  go_enter Tryz.func96, Tryz.ntmps96
  go_wp2_with fail
  refine (take_bad h1 _).mono ?_
  rintro e w' ⟨rfl, rfl⟩
  go_wp2
  go_ret
  exact ⟨rfl, h1, World.grownBy_alloc _ _ _⟩
end Go.Proofs.YtbnnlbdjjpmgeaaGreat


namespace Go.Proofs.YtbnnlbdjjpmgeaaGreat
open Go.RowKit

abbrev Ps (α : Type) := List Int → Option (α × Nat)
def psR {α : Type} (v : α) : Ps α := fun _ => some (v, 0)
def psB {α β : Type} (f : Ps α) (g : α → Ps β) : Ps β := fun l =>
  match f l with
  | none => none
  | some (v, n) => match g v (l.drop n) with
    | none => none
    | some (u, m) => some (u, n + m)
def psZ {α : Type} (f : Ps α) (k : Int) : Ps α := fun l =>
  match f l with
  | none => none
  | some (v, n) => if (n : Int) = k then some (v, n) else none
def ulP : Ps Int := fun l => if (ulebN l).2 = 0 then none else some (ulebN l)
section
variable {α β : Type}
theorem uleb_size {l : List Int} (h : (ulebN l).2 ≠ 0) : szN 10 l = (ulebN l).2 ∧ (ulebN l).1 = valN (l.take (szN 10 l)) ∧ valN (l.take (szN 10 l)) < 18446744073709551616 := by
  unfold ulebN at *
  split at h
  · rename_i h1; rw [if_pos h1]; exact ⟨rfl, rfl, h1⟩
  · simp at h
end

abbrev Cs := Nat × Bool
structure Sim {α : Type} (f : Ps α) (xs : List Int) (s : Cs) (v : α) (s' : Cs) : Prop where
  le : s.1 ≤ s'.1
  ok : s'.2 = false → s.2 = false ∧ f (xs.drop s.1) = some (v, s'.1 - s.1)
  no : s.2 = false → s'.2 = true → f (xs.drop s.1) = none
section
variable {α β : Type} {xs : List Int} {s s1 s2 : Cs} {v : α} {u : β}
theorem Sim.R (v : α) (s : Cs) : Sim (psR v) xs s v s := ⟨Nat.le_refl _, fun h => ⟨h, (by unfold psR; rw [Nat.sub_self])⟩, fun h h' => (by rw [h] at h'; cases h')⟩
theorem Sim.B {f : Ps α} {g : α → Ps β} (h : Sim f xs s v s1) (k : Sim (g v) xs s1 u s2) : Sim (psB f g) xs s u s2 := by
  have h0 := h.le
  have k0 := k.le
  refine ⟨by omega, fun e => ?_, fun e e' => ?_⟩
  · obtain ⟨k1, k2⟩ := k.ok e
    obtain ⟨h1, h2⟩ := h.ok k1
    refine ⟨h1, ?_⟩
    unfold psB
    rw [h2]
    simp only []
    rw [List.drop_drop, show s.1 + (s1.1 - s.1) = s1.1 by omega, k2]
    simp only [Option.some.injEq, Prod.mk.injEq, true_and]
    omega
  · unfold psB
    cases hb : s1.2 with
    | true => rw [h.no e hb]
    | false =>
      rw [(h.ok hb).2]
      simp only []
      rw [List.drop_drop, show s.1 + (s1.1 - s.1) = s1.1 by omega, k.no hb e']
theorem Sim.bad {f : Ps α} (h1 : s.1 ≤ s1.1) (h2 : s1.2 = true) (h3 : s.2 = false → f (xs.drop s.1) = none) : Sim f xs s v s1 := ⟨h1, fun h => (by rw [h] at h2; cases h2), fun h _ => h3 h⟩
theorem Sim.Z {f : Ps α} {k : Int} (h : Sim f xs s v s1) : Sim (psZ f k) xs s v (s1.1, s1.2 || !decide (((s1.1 - s.1 : Nat) : Int) = k)) := by
  refine ⟨h.le, fun e => ?_, fun e e' => ?_⟩
  · simp only [Bool.or_eq_false_iff, Bool.not_eq_false', decide_eq_true_eq] at e
    obtain ⟨h1, h2⟩ := h.ok e.1
    refine ⟨h1, ?_⟩
    unfold psZ
    rw [h2]
    simp only []
    rw [if_pos e.2]
  · unfold psZ
    cases hb : s1.2 with
    | true => rw [h.no e hb]
    | false =>
      rw [(h.ok hb).2]
      simp only [hb, Bool.false_or, Bool.not_eq_true', decide_eq_false_iff_not] at e' ⊢
      rw [if_neg e']
end
def ulS (xs : List Int) (s : Cs) : Int × Cs := if s.2 then (0, s) else ((ulebN (xs.drop s.1)).1, (s.1 + (ulebN (xs.drop s.1)).2, decide ((ulebN (xs.drop s.1)).2 = 0)))
def byS (xs : List Int) (s : Cs) : Int × Cs := if s.2 = false ∧ s.1 < xs.length then (xs.getD s.1 0, (s.1 + 1, false)) else (0, (s.1, true))
theorem sim_ul (xs : List Int) (s : Cs) : Sim ulP xs s (ulS xs s).1 (ulS xs s).2 := by
  unfold ulS
  cases hb : s.2 with
  | true => exact Sim.bad (Nat.le_refl _) hb (fun h => by rw [h] at hb; cases hb)
  | false =>
    refine ⟨Nat.le_add_right _ _, fun e => ⟨hb, ?_⟩, fun _ e => ?_⟩
    · simp only [Bool.false_eq_true, if_false, decide_eq_false_iff_not] at e ⊢
      unfold ulP
      rw [if_neg e, Nat.add_sub_cancel_left]
    · simp only [Bool.false_eq_true, if_false, decide_eq_true_eq] at e
      unfold ulP
      rw [if_pos e]
theorem ulS_bd {xs : List Int} {s : Cs} : 0 ≤ (ulS xs s).1 ∧ (ulS xs s).1 < 18446744073709551616 := by
  unfold ulS
  split
  · simp
  · simp only []
    by_cases h : (ulebN (xs.drop s.1)).2 = 0
    · rw [uleb_none h]; simp
    · obtain ⟨_, h2, h3⟩ := uleb_size h
      have := valN_bd ((xs.drop s.1).take (szN 10 (xs.drop s.1)))
      omega
end Go.Proofs.YtbnnlbdjjpmgeaaGreat


namespace Go.Proofs.YtbnnlbdjjpmgeaaGreat
open Go.RowKit
variable {w w' : World} {lo hi a : Nat} {xs : List Int} {s : Cs} {big : Bool}

abbrev PenS (w : World) (lo hi a : Nat) (xs : List Int) (s : Cs) (big : Bool) : Prop := Pen w lo hi a xs s.1 big s.2
theorem pen_ul (h : PenS w lo hi a xs s big) :
    Calls Tryz.prog 96 #[.pointer (some ⟨a, 0, none⟩)] w fun e w' => e = .returned (.int .u64 (ulS xs s).1) ∧ PenS w' lo hi a xs (ulS xs s).2 big ∧ w.grownBy w' (some a) := by
  obtain ⟨p, bad⟩ := s
  have h' := h
  obtain ⟨⟨base, q, c, hc, hl, ho⟩, h1, h2, h3⟩ := h
  unfold ulS
  simp only [] at hc ⊢
  cases bad with
  | true =>
    refine (uleb_bad hc).mono ?_
    rintro e w' ⟨rfl, hc', hg⟩
    exact ⟨rfl, Pen.same h' hg, grown_any hg _⟩
  | false =>
    refine (uleb_any hc).mono ?_
    rintro e w' ⟨rfl, hc', hg⟩
    exact ⟨rfl, ⟨⟨_, _, _, hc', hl, ho⟩, h1, h2, Nat.le_trans h3 hg.size⟩, hg⟩
theorem pen_by (h : PenS w lo hi a xs s big) :
    Calls Tryz.prog 94 #[.pointer (some ⟨a, 0, none⟩), .int .i64 1] w fun e w' => e = .returned (.int .u64 (byS xs s).1) ∧ PenS w' lo hi a xs (byS xs s).2 big ∧ w.grownBy w' (some a) := by
  obtain ⟨p, bad⟩ := s
  have h' := h
  obtain ⟨⟨base, q, c, hc, hl, ho⟩, h1, h2, h3⟩ := h
  unfold byS
  simp only [] at hc h' ⊢
  by_cases hx : bad = false ∧ p < xs.length
  · rw [if_pos hx]
    obtain ⟨rfl, hx⟩ := hx
    refine (number1 hc hx rfl).mono ?_
    rintro e w' ⟨rfl, hc', hg⟩
    exact ⟨rfl, ⟨⟨_, _, _, hc', hl, ho⟩, h1, h2, Nat.le_trans h3 hg.size⟩, hg⟩
  · rw [if_neg hx]
    refine (number_no hc 1 ?_).mono ?_
    · cases bad with
      | true => exact .inl rfl
      | false => exact .inr (.inr (by have h1 : ¬ p < xs.length := fun h => hx ⟨rfl, h⟩; omega))
    · rintro e w' ⟨rfl, hc', hg⟩
      exact ⟨rfl, ⟨⟨_, _, _, hc', hl, ho⟩, h1, h2, Nat.le_trans h3 hg.size⟩, hg⟩
end Go.Proofs.YtbnnlbdjjpmgeaaGreat


namespace Go.Proofs.YtbnnlbdjjpmgeaaGreat
open Go.RowKit
variable {w w' : World}

structure Chg (F : Nat → Prop) (w w' : World) : Prop where
  os : w'.os = w.os
  tape : w'.tape = w.tape
  output : w'.output = w.output
  size : w.heap.size ≤ w'.heap.size
  block : ∀ k, k < w.heap.size → ¬ F k → w'.heap[k]? = w.heap[k]?
theorem Chg.refl (F : Nat → Prop) (w : World) : Chg F w w := ⟨rfl, rfl, rfl, Nat.le_refl _, fun _ _ _ => rfl⟩
theorem Chg.trans {F : Nat → Prop} {w1 w2 w3 : World} (h : Chg F w1 w2) (k : Chg F w2 w3) : Chg F w1 w3 :=
  ⟨k.os.trans h.os, k.tape.trans h.tape, k.output.trans h.output, Nat.le_trans h.size k.size, fun i hi hf => (k.block i (Nat.lt_of_lt_of_le hi h.size) hf).trans (h.block i hi hf)⟩
theorem Chg.of_grown {F : Nat → Prop} {r : Option Nat} (h : w.grownBy w' r) (hr : ∀ b, r = some b → F b ∨ w.heap.size ≤ b) : Chg F w w' :=
  ⟨h.os, h.tape, h.output, h.size, fun k hk hf => h.block k hk (fun e => (hr k e.symm).elim hf (fun h => absurd hk (by omega)))⟩
end Go.Proofs.YtbnnlbdjjpmgeaaGreat


namespace Go.Proofs.YtbnnlbdjjpmgeaaGreat
open Go.RowKit
variable {w w' W V : World} {xs : List Int}

def U64At (w : World) (q : Option Addr) (l : List Int) : Prop := ∀ i x, l[i]? = some x → ∃ g, q = some ⟨g, 0, none⟩ ∧ w.cell? ⟨g, i, none⟩ = some (.int .u64 x)
end Go.Proofs.YtbnnlbdjjpmgeaaGreat


namespace Go.Proofs.YtbnnlbdjjpmgeaaGreat
open Go.RowKit Go.Sort
variable {w w' : World} {α : Type} [Inhabited α]

theorem grown_sort (enc : α → List Value) (k : Nat) (w : World) (blk off n : Nat) (d : Array α) (os : Array Obj) : w.grownBy (sortWorldK enc k w blk off n d os) (some blk) := by
  refine ⟨rfl, rfl, rfl, ?_, fun i hi hne => ?_⟩
  · simp only [sortWorldK, grow, putRowK, putRow, mapBlock, Sort.ahead, Array.size_append, Array.size_modify]
    omega
  · have hb : blk ≠ i := fun e => hne (by rw [e])
    simp only [sortWorldK, grow, putRowK, putRow, mapBlock, Sort.ahead]
    rw [Array.getElem?_append_left (by rw [Array.size_modify]; exact hi), Array.getElem?_modify, if_neg hb]
omit [Inhabited α] in
theorem own_free {T : TypeId} {k n c g lo : Nat} {xs : List Value} (h : w.ownsRow lo T k (.slice (some ⟨g, 0, none⟩) n c) n xs) (j : Nat) : w.frozen? ⟨g, j, none⟩ = false := by
  obtain ⟨_, hn | ⟨g', cap, cur, hv, _, hg, _⟩⟩ := h
  · cases hn.1
  · injection hv with h1 _ _
    injection h1 with h1
    injection h1 with h1 _ _
    subst h1
    exact free_of hg
theorem holdsK_own {T : TypeId} {k n c g lo : Nat} {f : α → List Value} {l : List α} (hf : ∀ x, (f x).length = k) (h : w.ownsRow lo T k (.slice (some ⟨g, 0, none⟩) n c) n (l.flatMap f)) : HoldsK f k w g 0 l.toArray := by
  intro t ht
  rw [size_flatK] at ht
  have hk : 0 < k := by
    rcases Nat.eq_zero_or_pos k with e | e
    · subst e; simp at ht
    · exact e
  have hd : t / k < l.toArray.size := Nat.div_lt_of_lt_mul (by rw [Nat.mul_comm]; exact ht)
  have hd' : t / k < l.length := by simpa using hd
  have hm : t % k < k := Nat.mod_lt _ hk
  have hx : l[t / k]? = some (l[t / k]'hd') := List.getElem?_eq_getElem hd'
  obtain ⟨g', e, hc⟩ := row_cell hf h hx hm
  injection e with e
  injection e with e _ _
  subst e
  refine ⟨?_, own_free h _⟩
  have ea : l.toArray[t / k]! = l[t / k]'hd' := by rw [getElem!_pos l.toArray (t / k) hd]; rfl
  rw [Nat.zero_add, get_flatK _ _ _ _ ht, ea, getElem!_pos (f (l[t / k]'hd')) (t % k) (by rw [hf]; exact hm)]
  have e : t / k * k + t % k = t := by rw [Nat.mul_comm]; exact Nat.div_add_mod t k
  rw [e] at hc
  show w.cell? ⟨g, t, none⟩ = some ((f (l[t / k]'hd'))[t % k]'_)
  rw [hc, List.getElem?_eq_getElem (by rw [hf]; exact hm)]
theorem perm_list {d d' : Array α} {lt : α → α → Bool} (hp : PermIn 0 d.size d d') (hs : SortedIn lt 0 d.size d') : d'.toList.Perm d.toList ∧ d'.size = d.size ∧ ∀ i j, i < j → j < d'.size → lt d'[j]! d'[i]! = false := by
  obtain ⟨h1, _, h3⟩ := hp
  refine ⟨?_, h1, fun i j hij hj => hs i j (Nat.zero_le _) hij (h1 ▸ hj)⟩
  rw [show d'.extract 0 d.size = d' from by rw [← h1]; exact Array.extract_size, show d.extract 0 d.size = d from Array.extract_size] at h3
  exact h3
end Go.Proofs.YtbnnlbdjjpmgeaaGreat


namespace Go.Proofs
open Go.Shelf
def Tryz.sortExp_ren : Go.Shelf.Ren := ⟨fun | 6 => 36 | 15 => 70 | 14 => 69 | 28 => 119 | 29 => 120 | 20 => 111 | 21 => 112 | 22 => 113 | 23 => 114 | 24 => 115 | 25 => 116 | 26 => 117 | 27 => 118 | 46 => 157 | 47 => 158 | 48 => 159 | 49 => 160 | 50 => 161 | 57 => 194 | n => n, fun | 22 => 23 | 24 => 28 | 25 => 72 | 3 => 3 | 39 => 143 | 0 => 0 | 53 => 43 | 55 => 26 | 4 => 4 | 46 => 193 | 45 => 192 | 50 => 197 | 5 => 5 | 9 => 9 | 66 => 243 | 70 => 246 | 76 => 270 | 77 => 271 | n => n, fun | n => n⟩
theorem Tryz.sortExp : Go.Proofs.SlLaysF0.n6 Tryz.prog Tryz.sortExp_ren := {
  mixed := by kernel_rfl
  f6 := ⟨Tryz.f36.name, by decide, Tryz.func36.trans (congrArg some (by kernel_rfl))⟩
  f14 := ⟨Tryz.f69.name, by decide, Tryz.func69.trans (congrArg some (by kernel_rfl))⟩
  f15 := Tryz.func70.trans (congrArg some (by kernel_rfl))
  f20 := ⟨Tryz.f111.name, by decide, Tryz.func111.trans (congrArg some (by kernel_rfl))⟩
  f21 := ⟨Tryz.f112.name, by decide, Tryz.func112.trans (congrArg some (by kernel_rfl))⟩
  f22 := ⟨Tryz.f113.name, by decide, Tryz.func113.trans (congrArg some (by kernel_rfl))⟩
  f23 := ⟨Tryz.f114.name, by decide, Tryz.func114.trans (congrArg some (by kernel_rfl))⟩
  f24 := ⟨Tryz.f115.name, by decide, Tryz.func115.trans (congrArg some (by kernel_rfl))⟩
  f25 := ⟨Tryz.f116.name, by decide, Tryz.func116.trans (congrArg some (by kernel_rfl))⟩
  f26 := ⟨Tryz.f117.name, by decide, Tryz.func117.trans (congrArg some (by kernel_rfl))⟩
  f27 := ⟨Tryz.f118.name, by decide, Tryz.func118.trans (congrArg some (by kernel_rfl))⟩
  f28 := Tryz.func119.trans (congrArg some (by kernel_rfl))
  f29 := Tryz.func120.trans (congrArg some (by kernel_rfl))
  f46 := ⟨Tryz.f157.name, by decide, Tryz.func157.trans (congrArg some (by kernel_rfl))⟩
  f47 := Tryz.func158.trans (congrArg some (by kernel_rfl))
  f48 := Tryz.func159.trans (congrArg some (by kernel_rfl))
  f49 := ⟨Tryz.f160.name, by decide, Tryz.func160.trans (congrArg some (by kernel_rfl))⟩
  f50 := ⟨Tryz.f161.name, by decide, Tryz.func161.trans (congrArg some (by kernel_rfl))⟩
  f57 := ⟨Tryz.f194.name, by decide, Tryz.func194.trans (congrArg some (by kernel_rfl))⟩
  t0 := Tryz.underlying0
  a0 := Tryz.isAgg0
  z0 := Tryz.sizeOf0
  v0 := Tryz.zeroValue0
  t3 := Tryz.underlying3
  a3 := Tryz.isAgg3
  z3 := Tryz.sizeOf3
  v3 := Tryz.zeroValue3
  t4 := Tryz.underlying4
  a4 := Tryz.isAgg4
  z4 := Tryz.sizeOf4
  v4 := Tryz.zeroValue4
  t5 := Tryz.underlying5
  a5 := Tryz.isAgg5
  z5 := Tryz.sizeOf5
  v5 := Tryz.zeroValue5
  t9 := Tryz.underlying9
  a9 := Tryz.isAgg9
  z9 := Tryz.sizeOf9
  v9 := Tryz.zeroValue9
  t22 := Tryz.underlying23
  a22 := Tryz.isAgg23
  z22 := Tryz.sizeOf23
  v22 := Tryz.zeroValue23
  t25 := Tryz.underlying72
  a25 := Tryz.isAgg72
  z25 := Tryz.sizeOf72
  v25 := Tryz.zeroValue72
  t39 := Tryz.underlying143
  a39 := Tryz.isAgg143
  z39 := Tryz.sizeOf143
  v39 := Tryz.zeroValue143
  t45 := Tryz.underlying192
  a45 := Tryz.isAgg192
  z45 := Tryz.sizeOf192
  v45 := Tryz.zeroValue192
  t46 := Tryz.underlying193
  a46 := Tryz.isAgg193
  z46 := Tryz.sizeOf193
  v46 := Tryz.zeroValue193
  t50 := Tryz.underlying197
  a50 := Tryz.isAgg197
  z50 := Tryz.sizeOf197
  v50 := Tryz.zeroValue197
  t53 := Tryz.underlying43
  a53 := Tryz.isAgg43
  z53 := Tryz.sizeOf43
  v53 := Tryz.zeroValue43
  t55 := Tryz.underlying26
  a55 := Tryz.isAgg26
  z55 := Tryz.sizeOf26
  v55 := Tryz.zeroValue26
  t66 := Tryz.underlying243
  a66 := Tryz.isAgg243
  z66 := Tryz.sizeOf243
  v66 := Tryz.zeroValue243
  t70 := Tryz.underlying246
  a70 := Tryz.isAgg246
  z70 := Tryz.sizeOf246
  v70 := Tryz.zeroValue246
  t76 := Tryz.underlying270
  a76 := Tryz.isAgg270
  z76 := Tryz.sizeOf270
  v76 := Tryz.zeroValue270
  t77 := Tryz.underlying271
  a77 := Tryz.isAgg271
  z77 := Tryz.sizeOf271
  v77 := Tryz.zeroValue271 }
end Go.Proofs


namespace Go.Proofs.YtbnnlbdjjpmgeaaGreat
open Go.RowKit
variable {w : World}

def encU (n : Nat) : List Int := if n < 128 then [(n : Int)] else (((n % 128 : Nat) : Int) + 128) :: encU (n / 128)
termination_by n
decreasing_by omega
theorem encU_small {n : Nat} (h : n < 128) : encU n = [(n : Int)] := by rw [encU, if_pos h]
theorem encU_big {n : Nat} (h : ¬ n < 128) : encU n = (((n % 128 : Nat) : Int) + 128) :: encU (n / 128) := by rw [encU, if_neg h]
theorem putclo_any (bn m : Nat) (hb : w.heap[bn]? = some (.cells #[.int .u64 m] 26 (0, 0))) :
    Calls Tryz.prog 105 #[.pointer (some ⟨bn, 0, none⟩)] w fun e w' =>
      e = .returned (.tuple #[.int .u8 ((m % 128 : Nat) : Int), .bool (decide (m < 128))]) ∧ w'.heap[bn]? = some (.cells #[.int .u64 ((m / 128 : Nat) : Int)] 26 (0, 0)) ∧ w.grownBy w' (some bn) := by
  have c0 : w.cell? ⟨bn, 0, none⟩ = some (.int .u64 m) := by rw [cell_of hb]; rfl
  have f0 := free_of (i := 0) hb
  have hl : decide (m < 128) = ((m : Int) / 128 == 0) := by
    by_cases h : m < 128
    · rw [decide_eq_true h, Eq.comm, beq_iff_eq]; omega
    · rw [decide_eq_false h, Eq.comm, beq_eq_false_iff_ne]; omega
  rw [show ((m / 128 : Nat) : Int) = (m : Int) / 128 by omega, show ((m % 128 : Nat) : Int) = (m : Int) % 128 by omega, hl]
  have E := Lib.hid (And.intro (block_setCell hb (.int .u64 ((m : Int) / 128))) (grown_setCell (i := 0) (grown_refl w (some bn)) (.int .u64 ((m : Int) / 128))))
  clear hl hb
  go_enter Tryz.func105, Tryz.ntmps105
  go_wp2
  go_quiet (fail)
  go_wp2
  go_ret2
  exact ⟨rfl, E.out.1, grown_drewN E.out.2 _⟩
end Go.Proofs.YtbnnlbdjjpmgeaaGreat


namespace Go.Proofs.YtbnnlbdjjpmgeaaGreat
open Go.RowKit
variable {w : World}

theorem own_slice8 {w : World} {base : Nat} {v : Value} {n : Nat} {xs : List Value} (h : w.ownsRow base 5 1 v n xs) : ∃ q c, v = .slice q n c := by
  rcases h.2 with ⟨rfl, h0⟩ | ⟨g, cap, cur, rfl, _⟩
  · have : n = 0 := by omega
    subst this; exact ⟨_, _, rfl⟩
  · exact ⟨_, _, rfl⟩
theorem own_kept {w w' : World} {base : Nat} {v : Value} {n : Nat} {xs : List Value} {b : Nat} (h : w.ownsRow base 5 1 v n xs) (hg : w.grownBy w' (some b)) (hb : b < base) : w'.ownsRow base 5 1 v n xs :=
  h.kept hg (by
    cases hv : v.ownBlock with
    | none => exact .inl rfl
    | some g => exact .inr (fun e => by injection e with e; have := (h.lt g hv).1; omega))
theorem lt_block {w : World} {b : Nat} {o : Obj} (h : w.heap[b]? = some o) : b < w.heap.size := (Array.getElem?_eq_some_iff.1 h).1
theorem encU_len (k : Nat) : ∀ n : Nat, n < 128 ^ (k + 1) → (encU n).length ≤ k + 1 := by
  induction k with
  | zero => intro n h; rw [encU_small (by simpa using h)]; simp
  | succ k ih =>
    intro n h
    by_cases h1 : n < 128
    · rw [encU_small h1]; simp
    · rw [encU_big h1, List.length_cons]
      have := ih (n / 128) (by rw [Nat.pow_succ] at h; omega)
      omega
theorem encU_10 (n : Nat) (h : n < 18446744073709551616) : (encU n).length ≤ 10 := encU_len 9 n (by omega)
def cellAbs (w : World) (b : Nat) : Nat := match w.cell? ⟨b, 0, none⟩ with
  | some (.int _ m) => m.natAbs
  | _ => 0
structure PRel (w0 w : World) (all : List Int) (k : IntKind) (t : TypeId) (enc : Int → List Int) (ok : Int → Prop) (bn : Nat) (v : Value) : Prop where
  part : ∃ (m : Int) (pre : List Int) (q : Option Addr) (c : Nat), v = .slice q pre.length c ∧ w.ownsRow w0.heap.size 5 1 (.slice q pre.length c) pre.length (pre.map (Value.int .u8)) ∧ all = pre ++ enc m ∧
    w.heap[bn]? = some (.cells #[.int k m] t (0, 0)) ∧ ok m
  kept : KeptBut w0 w [bn]
def POut (w0 w : World) (all : List Int) (bn : Nat) (e : Ending) : Prop :=
  (∃ q c, e = .returned (.slice q all.length c) ∧ w.ownsRow w0.heap.size 5 1 (.slice q all.length c) all.length (all.map (Value.int .u8))) ∧ KeptBut w0 w [bn]
theorem one_byte (w : World) (x : Int) (t : TypeId) : IsBytes (w.alloc (.cells #[.int .u8 x] t)) (some ⟨w.heap.size, 0, none⟩) 1 [x] := by
  refine IsBytes.mk_at fun i hi => ?_
  rw [cell_of (heap_alloc_new w _)]
  obtain rfl : i = 0 := by simp at hi; omega
  rfl
theorem KeptBut.row {w0 w1 w2 : World} {S : List Nat} (h : KeptBut w0 w1 S) {r : Option Nat} (hg : w1.grownBy w2 r) (hr : ∀ g, r = some g → w0.heap.size ≤ g) : KeptBut w0 w2 S :=
  ⟨hg.os.trans h.os, hg.tape.trans h.tape, hg.output.trans h.output, Nat.le_trans h.size hg.size, fun i hi hm =>
    (hg.block i (Nat.lt_of_lt_of_le hi h.size) (fun e => by have := hr i e.symm; omega)).trans (h.block i hi hm)⟩
theorem put_step {w w2 w3 : World} {bn : Nat} {mv : Int} {pre : List Int} {x : Int} {q : Option Addr} {c : Nat} {k : IntKind} {t : TypeId} {v' : Value} (hbn : bn < w.heap.size)
    (hown : w2.ownsRow w.heap.size 5 1 (.slice q pre.length c) pre.length (pre.map (Value.int .u8))) (hcell : w2.heap[bn]? = some (.cells #[.int k mv] t (0, 0))) (hk : KeptBut w w2 [bn])
    (h1 : w3.ownsRow w.heap.size 5 1 v' (pre.length + 1) (pre.map (Value.int .u8) ++ [x].map (Value.int .u8))) (h2 : (w2.alloc (.cells #[.int .u8 x] 5)).grownBy w3 (Value.slice q pre.length c).ownBlock) :
    (∃ q' c', v' = .slice q' (pre ++ [x]).length c' ∧ w3.ownsRow w.heap.size 5 1 (.slice q' (pre ++ [x]).length c') (pre ++ [x]).length ((pre ++ [x]).map (Value.int .u8))) ∧
      w3.heap[bn]? = some (.cells #[.int k mv] t (0, 0)) ∧ KeptBut w w3 [bn] := by
  obtain ⟨q', c', rfl⟩ := own_slice8 h1
  have hrow : ∀ g, (Value.slice q pre.length c).ownBlock = some g → w.heap.size ≤ g := fun g hg => (hown.lt g hg).1
  have hl : (pre ++ [x]).length = pre.length + 1 := by simp
  refine ⟨⟨q', c', by rw [hl], by rw [hl, List.map_append]; exact h1⟩, ?_, (hk.row (World.grownBy_alloc w2 _ none) (by simp)).row h2 hrow⟩
  have hz := hk.size
  rw [h2.block bn (by simp; omega) (fun e => by have := hrow bn e.symm; omega)]
  exact (heap_alloc_old _ _ (by omega)).trans hcell
set_option maxHeartbeats 800000 in
theorem putu_any (bn n : Nat) (hn : n < 18446744073709551616) (hb : w.heap[bn]? = some (.cells #[.int .u64 n] 26 (0, 0))) :
    Calls Tryz.prog 104 #[.func (.func 105) #[] #[.pointer (some ⟨bn, 0, none⟩)]] w fun e w' => POut w w' (encU n) bn e := by
  have R0 : PRel w w (encU n) .u64 26 (fun m => encU m.toNat) (fun m => 0 ≤ m) bn (.slice none 0 0) := ⟨⟨n, [], none, 0, rfl, World.ownsRow_nil _ _ _ _, by simp, hb, by omega⟩, KeptBut.refl _ _⟩
  have hlen := encU_10 n hn
  have hbn := lt_block hb
  generalize hall : encU n = all at *
  clear hb hall
  go_enter Tryz.func104, Tryz.ntmps104
  go_wp2_with fail
  go_loopw [3] (fun v wr => PRel w wr all .u64 26 (fun m => encU m.toNat) (fun m => 0 ≤ m) bn v) (fun _ wr => cellAbs wr bn)
  case atStart => exact R0
  case round =>
    obtain ⟨⟨mi, pre, q, c, rfl, hown, hpre, hcell, hok⟩, hkept⟩ := hrel
    obtain ⟨m, rfl⟩ := Int.eq_ofNat_of_zero_le hok
    by_cases hlt : m < 128
    · have hd : decide (m < 128) = true := decide_eq_true hlt
      go_wp2_with fail
      refine (putclo_any bn m hcell).mono ?_
      rintro e w2 ⟨rfl, hcell2, hg2⟩
      rw [hd]
      have hown2 := own_kept hown hg2 hbn
      have hkept2 := hkept.trans (.of_grown hg2 (by simp))
      have S := fun v' w3 h1 h2 => put_step (x := ((m % 128 : Nat) : Int)) (v' := v') (w3 := w3) hbn hown2 hcell2 hkept2 h1 h2
      have hz2 := hkept2.size
      have hall : all = pre ++ [((m % 128 : Nat) : Int)] := by rw [hpre, show ((m : Int)).toNat = m from by omega, encU_small hlt, Nat.mod_eq_of_lt hlt]
      have A := Lib.hid hall
      have hsz : pre.length + 1 ≤ 140737488355328 := by rw [hall] at hlen; simp at hlen; omega
      have SS := Lib.hid S
      have OA := Lib.hid (hown2.alloc (.cells #[.int .u8 (((m % 128 : Nat) : Int))] 5))
      have OB := Lib.hid (one_byte w2 (((m % 128 : Nat) : Int)) 5)
      have SZ := Lib.hid hsz
      have HZ := Lib.hid hz2
      clear hown2 hkept2 S hall hpre hown hcell hkept hcell2 hg2 hsz hz2 hd hlen
      generalize ((m % 128 : Nat) : Int) = x at *
      go_wp2_with (at_builtin; refine wp_append_bytes rfl _ _ rfl rfl _ _ _ rfl OA.out [x] 1 rfl rfl OB.out SZ.out ?_ ?_)
      · have := HZ.out; simp; omega
      · intro v' w3 h1 h2
        obtain ⟨⟨q', c', rfl, ho⟩, _, hk3⟩ := SS.out v' w3 h1 h2
        have E := Lib.hid (And.intro ho hk3)
        clear h1 h2 ho hk3
        go_wp2
        go_ret
        rw [A.out]
        exact ⟨⟨_, _, rfl, E.out.1⟩, E.out.2⟩
    · have hd : decide (m < 128) = false := decide_eq_false hlt
      go_wp2_with fail
      refine (putclo_any bn m hcell).mono ?_
      rintro e w2 ⟨rfl, hcell2, hg2⟩
      rw [hd]
      have hown2 := own_kept hown hg2 hbn
      have hkept2 := hkept.trans (.of_grown hg2 (by simp))
      have hor := u8_or128_right (((m % 128 : Nat) : Int)) (by omega) (by omega)
      have S := fun v' w3 h1 h2 => put_step (x := ((m % 128 : Nat) : Int) + 128) (v' := v') (w3 := w3) hbn hown2 hcell2 hkept2 h1 h2
      have hz2 := hkept2.size
      have hall : all = (pre ++ [((m % 128 : Nat) : Int) + 128]) ++ encU (((m / 128 : Nat) : Int)).toNat := by rw [hpre, show ((m : Int)).toNat = m from by omega, show (((m / 128 : Nat) : Int)).toNat = m / 128 from by omega, encU_big hlt]; simp
      have A := Lib.hid hall
      have hsz : pre.length + 1 ≤ 140737488355328 := by rw [hall] at hlen; simp at hlen; omega
      have M := Lib.hid (show ((m / 128 : Nat) : Int).natAbs < cellAbs wr bn from by unfold cellAbs; rw [show wr.cell? ⟨bn, 0, none⟩ = some (.int .u64 m) by rw [cell_of hcell]; rfl]; simp; omega)
      have SS := Lib.hid S
      have OA := Lib.hid (hown2.alloc (.cells #[.int .u8 (((m % 128 : Nat) : Int) + 128)] 5))
      have OB := Lib.hid (one_byte w2 (((m % 128 : Nat) : Int) + 128) 5)
      have SZ := Lib.hid hsz
      have HZ := Lib.hid hz2
      clear hown2 hkept2 S hall hpre hown hcell hkept hcell2 hg2 hsz hz2 hd hlen
      generalize ((m % 128 : Nat) : Int) = x at *
      go_wp2_with (at_builtin; refine wp_append_bytes rfl _ _ rfl rfl _ _ _ rfl OA.out [x + 128] 1 rfl rfl OB.out SZ.out ?_ ?_)
      · have := HZ.out; simp; omega
      · intro v' w3 h1 h2
        obtain ⟨⟨q', c', rfl, ho⟩, hc3, hk3⟩ := SS.out v' w3 h1 h2
        have hm : cellAbs w3 bn < cellAbs wr bn := by
          have := M.out
          unfold cellAbs at this ⊢
          rw [show w3.cell? ⟨bn, 0, none⟩ = some (.int .u64 ((m / 128 : Nat) : Int)) by rw [cell_of hc3]; rfl]
          exact this
        have R : PRel w w3 all .u64 26 (fun m => encU m.toNat) (fun m => 0 ≤ m) bn (.slice q' (pre ++ [x + 128]).length c') := ⟨⟨((m / 128 : Nat) : Int), _, q', c', rfl, ho, A.out, hc3, by omega⟩, hk3⟩
        have RR := Lib.hid R
        have MM := Lib.hid hm
        clear h1 h2 ho hk3 hc3 R hm
        go_wp2
        go_roundw
        case rel => exact RR.out
        case measure => exact MM.out
theorem own_base {w : World} {b b' : Nat} {v : Value} {n : Nat} {xs : List Value} (h : w.ownsRow b 5 1 v n xs) (hb : b' ≤ b) : w.ownsRow b' 5 1 v n xs := by
  refine ⟨h.1, ?_⟩
  rcases h.2 with h1 | ⟨g, cap, cur, hv, hgg, rest⟩
  · exact .inl h1
  · exact .inr ⟨g, cap, cur, hv, Nat.le_trans hb hgg, rest⟩
theorem put_below {w w2 : World} {o : Obj} (h : KeptBut (w.alloc o) w2 [w.heap.size]) : Below w.heap.size w w2 :=
  ⟨h.os, h.tape, h.output, by have := h.size; simp at this; omega, fun i hi => (h.block i (by simp; omega) (by simp; omega)).trans (heap_alloc_old _ _ (by omega))⟩
theorem putU_any (n : Nat) (hn : n < 18446744073709551616) (w : World) :
    Calls Tryz.prog 61 #[.int .u64 n] w fun e w' =>
      (∃ q c, e = .returned (.slice q (encU n).length c) ∧ w'.ownsRow w.heap.size 5 1 (.slice q (encU n).length c) (encU n).length ((encU n).map (Value.int .u8))) ∧ Below w.heap.size w w' := by
  have P := Lib.hid (putu_any w.heap.size n hn (heap_alloc_new w (.cells #[.int .u64 n] 26)))
  generalize encU n = all at *
  go_enter Tryz.func61, Tryz.ntmps61
  go_wp2_with fail
  refine P.out.mono ?_
  rintro e w2 ⟨⟨q, c, rfl, ho⟩, hk⟩
  have E := Lib.hid (And.intro (own_base (b' := w.heap.size) ho (by simp)) (put_below hk))
  clear ho hk
  go_wp2
  go_ret
  exact ⟨⟨_, _, rfl, E.out.1⟩, E.out.2⟩
end Go.Proofs.YtbnnlbdjjpmgeaaGreat


namespace Go.Proofs.YtbnnlbdjjpmgeaaGreat
open Go.RowKit

theorem encU_ne (n : Nat) : 0 < (encU n).length := by
  by_cases h : n < 128
  · rw [encU_small h]; simp
  · rw [encU_big h]; simp
end Go.Proofs.YtbnnlbdjjpmgeaaGreat


namespace Go.Proofs.YtbnnlbdjjpmgeaaGreat

theorem szN_encU : ∀ (k n : Nat) (r : List Int), (encU n).length ≤ k → szN k (encU n ++ r) = (encU n).length := by
  intro k
  induction k with
  | zero => intro n r h; have := encU_ne n; omega
  | succ k ih =>
    intro n r h
    by_cases h1 : n < 128
    · rw [encU_small h1]
      simp only [List.cons_append, List.nil_append, szN, List.length_cons, List.length_nil]
      rw [if_pos (by omega)]
    · rw [encU_big h1] at h ⊢
      simp only [List.length_cons] at h
      have := ih (n / 128) r (by omega)
      have hne := encU_ne (n / 128)
      simp only [List.cons_append, szN, List.length_cons, this]
      rw [if_neg (by omega), if_neg (by omega)]
theorem valN_encU : ∀ (k n : Nat), n < k → valN (encU n) = n := by
  intro k
  induction k with
  | zero => intro n h; omega
  | succ k ih =>
    intro n h
    by_cases h1 : n < 128
    · rw [encU_small h1]; simp only [valN]; omega
    · rw [encU_big h1]
      simp only [valN]
      rw [ih (n / 128) (by omega)]; omega
theorem uleb_enc (n : Nat) (r : List Int) (hn : n < 18446744073709551616) : ulebN (encU n ++ r) = ((n : Int), (encU n).length) := by
  have hs := szN_encU 10 n r (encU_10 n hn)
  refine uleb_yes hs ?_ (by omega)
  rw [List.take_left' rfl, valN_encU (n + 1) n (by omega)]
end Go.Proofs.YtbnnlbdjjpmgeaaGreat


namespace Go.Proofs.YtbnnlbdjjpmgeaaGreat
open Go.RowKit

def Reads {α : Type} (f : Ps α) (a : List Int) (v : α) : Prop := ∀ r, f (a ++ r) = some (v, a.length)
section
variable {α β : Type} {f : Ps α} {g : α → Ps β} {a b : List Int} {v : α} {u : β}
theorem Reads.ret (v : α) : Reads (psR v) [] v := fun _ => rfl
theorem Reads.bind (h : Reads f a v) (k : Reads (g v) b u) : Reads (psB f g) (a ++ b) u := fun r => by
  unfold psB
  rw [List.append_assoc, h (b ++ r)]
  simp only [List.drop_left]
  rw [k r]
  simp [List.length_append]
theorem Reads.then0 (h : Reads f a v) (k : Reads (g v) [] u) : Reads (psB f g) a u := by
  have := h.bind k
  rw [List.append_nil] at this
  exact this
theorem reads_ul {n : Nat} (hn : n < 18446744073709551616) : Reads ulP (encU n) (n : Int) := fun r => by
  unfold ulP
  rw [uleb_enc n r hn]
  have := encU_ne n
  simp only []
  rw [if_neg (by omega)]
end

end Go.Proofs.YtbnnlbdjjpmgeaaGreat


namespace Go.Proofs.YtbnnlbdjjpmgeaaGreat

structure Fx where
  at_ : Int
  kind : Int
  target : Int
  ord : Int
  sym : ByteArray
  add : Int
  weak : Bool
deriving DecidableEq
def fxCs (x : Fx) : List Value := [.int .u64 x.at_, .int .i64 x.kind, .int .u64 x.target, .int .i64 x.ord, .string x.sym, .int .i64 x.add, .bool x.weak]
def fxArr (x : Fx) : Array Value := #[.int .u64 x.at_, .int .i64 x.kind, .int .u64 x.target, .int .i64 x.ord, .string x.sym, .int .i64 x.add, .bool x.weak]
def fxV (x : Fx) : Value := .agg (fxArr x)
structure FxOk (x : Fx) : Prop where
  at_ : 0 ≤ x.at_ ∧ x.at_ < 18446744073709551616
  kind : -9223372036854775808 ≤ x.kind ∧ x.kind ≤ 9223372036854775807
  target : 0 ≤ x.target ∧ x.target < 18446744073709551616
  ord : -9223372036854775808 ≤ x.ord ∧ x.ord ≤ 9223372036854775807
  add : -9223372036854775808 ≤ x.add ∧ x.add ≤ 9223372036854775807
  sym : x.sym.size ≤ 9223372036854775807
def cmpI (a b : Int) : Int := if a < b then -1 else if b < a then 1 else 0
def cmpS (a b : ByteArray) : Int := if Op.bytesLess a.toList b.toList then -1 else if Op.bytesLess b.toList a.toList then 1 else 0
def cmpB (a b : Bool) : Int := if a = b then 0 else if b then -1 else 1
def thn (x y : Int) : Int := if x ≠ 0 then x else y
def lookN : Nat → Fx → Fx → Int
  | 0, a, b => cmpI a.at_ b.at_
  | 1, a, b => cmpI a.kind b.kind
  | 2, a, b => cmpI a.target b.target
  | 3, a, b => cmpI a.ord b.ord
  | 4, a, b => cmpS a.sym b.sym
  | 5, a, b => cmpI a.add b.add
  | _, a, b => cmpB a.weak b.weak
def ordK (a b : Fx) : Nat → Nat → Int
  | 0, _ => 0
  | n + 1, k => thn (lookN k a b) (ordK a b n (k + 1))
def ordN (a b : Fx) : Int := ordK a b 7 0
structure Held (c : Fx → Fx → Int) : Prop where
  one : ∀ a b, c a b = -1 ∨ c a b = 0 ∨ c a b = 1
  anti : ∀ a b, c b a = - c a b
  trans : ∀ a b d, c a b ≤ 0 → c b d ≤ 0 → c a d ≤ 0
theorem Held.then {c d : Fx → Fx → Int} (h : Held c) (k : Held d) : Held fun a b => thn (c a b) (d a b) := by
  refine ⟨fun a b => ?_, fun a b => ?_, fun a b e h1 h2 => ?_⟩
  · have := h.one a b; have := k.one a b
    simp only [thn]; split <;> omega
  · have h1 := h.anti a b; have h2 := k.anti a b
    simp only [thn]
    by_cases h0 : c a b = 0
    · rw [if_neg (by omega), if_neg (by omega)]; exact h2
    · rw [if_pos (by omega), if_pos h0]; exact h1
  · simp only [thn] at h1 h2 ⊢
    have o1 := h.one a b; have o2 := h.one b e; have o3 := h.one a e
    have a1 := h.anti a b; have a2 := h.anti b e; have a3 := h.anti a e
    by_cases p0 : c a b = 0
    · rw [if_neg (by omega)] at h1
      by_cases q0 : c b e = 0
      · rw [if_neg (by omega)] at h2
        have t1 := h.trans a b e (by omega) (by omega)
        have t2 := h.trans e b a (by omega) (by omega)
        rw [if_neg (by omega)]
        exact k.trans a b e h1 h2
      · rw [if_pos q0] at h2
        have t1 := h.trans a b e (by omega) (by omega)
        by_cases r0 : c a e = 0
        · have t2 := h.trans e a b (by omega) (by omega)
          omega
        · rw [if_pos r0]; exact t1
    · rw [if_pos p0] at h1
      by_cases q0 : c b e = 0
      · rw [if_neg (by omega)] at h2
        have t1 := h.trans a b e (by omega) (by omega)
        by_cases r0 : c a e = 0
        · have t2 := h.trans b e a (by omega) (by omega)
          omega
        · rw [if_pos r0]; exact t1
      · rw [if_pos q0] at h2
        have t1 := h.trans a b e (by omega) (by omega)
        by_cases r0 : c a e = 0
        · have t2 := h.trans e a b (by omega) (by omega)
          omega
        · rw [if_pos r0]; exact t1
theorem held_zero : Held fun _ _ => 0 := ⟨fun _ _ => .inr (.inl rfl), fun _ _ => rfl, fun _ _ _ _ _ => Int.le_refl 0⟩
theorem held_int (f : Fx → Int) : Held fun a b => cmpI (f a) (f b) := by
  refine ⟨fun a b => ?_, fun a b => ?_, fun a b e => ?_⟩ <;> simp only [cmpI] <;> repeat' split
  all_goals omega
theorem held_bool (f : Fx → Bool) : Held fun a b => cmpB (f a) (f b) := by
  refine ⟨fun a b => ?_, fun a b => ?_, fun a b e => ?_⟩
  · cases f a <;> cases f b <;> decide
  · cases f a <;> cases f b <;> decide
  · cases f a <;> cases f b <;> cases f e <;> decide
theorem less_irr (x : List UInt8) : Op.bytesLess x x = false := by rw [bytesLess_eq]; exact decide_eq_false (List.lt_irrefl x)
theorem less_trans {x y z : List UInt8} (h : Op.bytesLess x y = true) (k : Op.bytesLess y z = true) : Op.bytesLess x z = true := by
  rw [bytesLess_eq] at h k ⊢
  exact decide_eq_true (List.lt_trans (of_decide_eq_true h) (of_decide_eq_true k))
theorem less_tri : ∀ {x y : List UInt8}, Op.bytesLess x y = false → Op.bytesLess y x = false → x = y
  | [], [], _, _ => rfl
  | [], _ :: _, h, _ => by simp [Op.bytesLess] at h
  | _ :: _, [], _, h => by simp [Op.bytesLess] at h
  | a :: x, b :: y, h, k => by
    simp only [Op.bytesLess, Bool.or_eq_false_iff, Bool.and_eq_false_iff, decide_eq_false_iff_not, beq_eq_false_iff_ne] at h k
    have e : a = b := by
      apply UInt8.toNat_inj.1
      have h1 : ¬ a.toNat < b.toNat := fun q => h.1 (UInt8.lt_iff_toNat_lt.2 q)
      have h2 : ¬ b.toNat < a.toNat := fun q => k.1 (UInt8.lt_iff_toNat_lt.2 q)
      omega
    subst e
    have h3 := h.2.resolve_left (fun q => q rfl)
    have h4 := k.2.resolve_left (fun q => q rfl)
    rw [less_tri h3 h4]
theorem less_asym {x y : List UInt8} (h : Op.bytesLess x y = true) : Op.bytesLess y x = false := by
  cases k : Op.bytesLess y x with
  | false => rfl
  | true => have := less_trans h k; rw [less_irr] at this; cases this
theorem sym_ext {a b : ByteArray} (h : a.toList = b.toList) : a = b := by
  rw [Lib.toList_data, Lib.toList_data] at h
  exact ByteArray.ext (Array.toList_inj.1 h)
theorem held_sym (f : Fx → ByteArray) : Held fun a b => cmpS (f a) (f b) := by
  refine ⟨fun a b => ?_, fun a b => ?_, fun a b e => ?_⟩
  · simp only [cmpS]; repeat' split
    all_goals omega
  · simp only [cmpS]
    cases h1 : Op.bytesLess (f a).toList (f b).toList with
    | true => simp [less_asym h1]
    | false => simp; split <;> rfl
  · simp only [cmpS]
    intro h k
    have h1 : Op.bytesLess (f b).toList (f a).toList = false := by
      cases q : Op.bytesLess (f b).toList (f a).toList with
      | false => rfl
      | true => rw [less_asym q, q] at h; simp at h
    have k1 : Op.bytesLess (f e).toList (f b).toList = false := by
      cases q : Op.bytesLess (f e).toList (f b).toList with
      | false => rfl
      | true => rw [less_asym q, q] at k; simp at k
    have r1 : Op.bytesLess (f e).toList (f a).toList = false := by
      cases q : Op.bytesLess (f e).toList (f a).toList with
      | false => rfl
      | true =>
        cases p : Op.bytesLess (f a).toList (f b).toList with
        | true => rw [less_trans q p] at k1; cases k1
        | false =>
          have := less_tri p h1
          rw [this] at q
          rw [q] at k1; cases k1
    rw [r1]
    split <;> simp
theorem held_look : ∀ k, Held (lookN k)
  | 0 => held_int (·.at_)
  | 1 => held_int (·.kind)
  | 2 => held_int (·.target)
  | 3 => held_int (·.ord)
  | 4 => held_sym (·.sym)
  | 5 => held_int (·.add)
  | _ + 6 => held_bool (·.weak)
theorem held_ordK : ∀ n k, Held fun a b => ordK a b n k
  | 0, _ => held_zero
  | n + 1, k => (held_look k).then (held_ordK n (k + 1))
theorem held_ord : Held ordN := held_ordK 7 0
theorem cmpI_0 {a b : Int} (h : cmpI a b = 0) : a = b := by
  unfold cmpI at h
  repeat' split at h
  all_goals omega
theorem cmpS_0 {a b : ByteArray} (h : cmpS a b = 0) : a = b := by
  unfold cmpS at h
  split at h
  · cases h
  · split at h
    · cases h
    · rename_i h1 h2
      exact sym_ext (less_tri (by simpa using h1) (by simpa using h2))
theorem cmpB_0 {a b : Bool} (h : cmpB a b = 0) : a = b := by cases a <;> cases b <;> simp_all [cmpB]
theorem thn_0 {x y : Int} (h : thn x y = 0) : x = 0 ∧ y = 0 := by
  unfold thn at h
  split at h
  · rename_i h1; exact absurd h h1
  · rename_i h1; exact ⟨by omega, h⟩
theorem ord_0 {a b : Fx} (h : ordN a b = 0) : a = b := by
  unfold ordN at h
  simp only [ordK] at h
  obtain ⟨h0, h⟩ := thn_0 h
  obtain ⟨h1, h⟩ := thn_0 h
  obtain ⟨h2, h⟩ := thn_0 h
  obtain ⟨h3, h⟩ := thn_0 h
  obtain ⟨h4, h⟩ := thn_0 h
  obtain ⟨h5, h⟩ := thn_0 h
  obtain ⟨h6, -⟩ := thn_0 h
  have e0 := cmpI_0 h0
  have e1 := cmpI_0 h1
  have e2 := cmpI_0 h2
  have e3 := cmpI_0 h3
  have e4 := cmpS_0 h4
  have e5 := cmpI_0 h5
  have e6 := cmpB_0 h6
  cases a; cases b
  simp only [] at e0 e1 e2 e3 e4 e5 e6
  subst e0 e1 e2 e3 e4 e5 e6
  rfl
theorem ord_self (a : Fx) : ordN a a = 0 := by have := held_ord.anti a a; omega
end Go.Proofs.YtbnnlbdjjpmgeaaGreat


namespace Go.Proofs.YtbnnlbdjjpmgeaaGreat
open Go.RowKit

def hasN (s : Seg) (a n : Int) : Bool := decide (0 < n) && decide (s.addr ≤ a) && withinN (a - s.addr) n s.size && decide (a + n ≤ 18446744073709551616)
def inS (a : Int) (s : Seg) : Bool := laidS s && hasN s a 1
def atO (E : List Seg) (a : Int) : Option Nat := E.findIdx? (inS a)
def atI (E : List Seg) (a : Int) : Int := match atO E a with | some k => (k : Int) | none => -1
def withinO (E : List Seg) (a n : Int) : Option Seg := match E.find? (inS a) with
  | some s => if hasN s a n then some s else none
  | none => none
def wrN (E : List Seg) (a n : Int) : Bool := match withinO E a n with | some s => wrOk s | none => false
def fileB (xs : List Int) (s : Seg) : List Int := partN xs s.off s.fsize
def eightB (xs : List Int) (s : Seg) (a : Int) : List Int :=
  let l := ((fileB xs s).drop (min (a - s.addr).toNat (fileB xs s).length)).take 8
  l ++ List.replicate (8 - l.length) 0
def wdN (xs : List Int) (s : Seg) (a : Int) : Int := leN (eightB xs s a)
def placeN (E : List Seg) (k off : Int) : Int × Int := match E[k.toNat]? with
  | some s => if laidS s then (if off < s.size then ((s.addr + off) % 18446744073709551616, 0) else (0, 4)) else (0, 8)
  | none => (0, 8)
structure RbS where
  place : Int
  has : Bool
  kind : Int
  out : List (Int × Int)
def RbS.zero : RbS := ⟨0, false, 0, []⟩
def furS (s : RbS) (n : Int) : Int × RbS := if s.place + n < 18446744073709551616 then (0, { s with place := s.place + n }) else (4, s)
def oneS (E : List Seg) (xs : List Int) (s : RbS) : Int × RbS := match withinO E s.place 8 with
  | some g => if wrOk g then furS { s with out := s.out ++ [(s.place, wdN xs g s.place)] } 8 else (19, s)
  | none => (19, s)
def repS (E : List Seg) (xs : List Int) (skip : Int) : Nat → RbS → Int × RbS
  | 0, s => (0, s)
  | n + 1, s => if (oneS E xs s).1 ≠ 0 then oneS E xs s else if (furS (oneS E xs s).2 skip).1 ≠ 0 then furS (oneS E xs s).2 skip else repS E xs skip n (furS (oneS E xs s).2 skip).2
def manyS (E : List Seg) (xs : List Int) (n skip : Int) (s : RbS) : Int × RbS := if 20000 - (s.out.length : Int) < n then (11, s) else repS E xs skip n.toNat s
def goS (E : List Seg) (k off : Int) (s : RbS) : Int × RbS := if (placeN E k off).2 ≠ 0 then ((placeN E k off).2, s) else (0, { s with place := (placeN E k off).1, has := true })
structure RbO where
  what : Int
  imm : Int
  a : Int
  b : Int
def mayS (o : Int) (s : RbS) : Bool :=
  if o = 1 ∨ o = 2 then true
  else if o = 3 ∨ o = 4 then s.has
  else if o = 5 ∨ o = 6 ∨ o = 7 ∨ o = 8 then s.kind == 1 && s.has
  else false
def doS (E : List Seg) (xs : List Int) (o : RbO) (s : RbS) : Int × RbS :=
  if o.what = 1 then (0, { s with kind := o.imm })
  else if o.what = 2 then goS E o.imm o.a s
  else if o.what = 3 then furS s o.a
  else if o.what = 4 then furS s (o.imm * 8)
  else if o.what = 5 then manyS E xs o.imm 0 s
  else if o.what = 6 then manyS E xs o.a 0 s
  else if o.what = 7 then manyS E xs 1 o.a s
  else manyS E xs o.a o.b s
def behN (o : Int) : Nat := if o = 2 ∨ o = 3 ∨ o = 6 ∨ o = 7 then 1 else if o = 8 then 2 else 0
def numsP (o : Int) : Ps (Int × Int) :=
  if behN o = 0 then psR (0, 0) else if behN o = 1 then psB ulP fun a => psR (a, 0) else psB ulP fun a => psB ulP fun b => psR (a, b)
def decS (E : List Seg) (xs : List Int) : Nat → List Int → RbS → Int × List (Int × Int)
  | 0, _, s => (0, s.out)
  | _ + 1, [], s => (0, s.out)
  | k + 1, b :: l, s =>
    if b / 16 = 0 then (0, s.out)
    else match numsP (b / 16) l with
      | none => (3, [])
      | some (v, n) => if mayS (b / 16) s = true then
          (if (doS E xs ⟨b / 16, b % 16, v.1, v.2⟩ s).1 ≠ 0 then ((doS E xs ⟨b / 16, b % 16, v.1, v.2⟩ s).1, []) else decS E xs k (l.drop n) (doS E xs ⟨b / 16, b % 16, v.1, v.2⟩ s).2)
        else (14, [])
def decN (E : List Seg) (xs st : List Int) : Int × List (Int × Int) := decS E xs (st.length + 1) st RbS.zero
def runC (E : List Seg) (sg : Int) : Int → List Int → Nat
  | _, [] => 0
  | p, a :: l => if a - p = 8 ∧ atI E a = sg then runC E sg a l + 1 else 0
def runA (E : List Seg) : List Int → Nat
  | [] => 0
  | a :: l => runC E (atI E a) a l + 1
def cntB (n : Nat) : List Int := if n ≤ 15 then [80 + (n : Int)] else 96 :: encU n
def putB (E : List Seg) : Nat → List Int → Int → Int → List Int
  | 0, _, _, _ => [0]
  | _ + 1, [], _, _ => [0]
  | k + 1, a :: l, sg, p =>
    (if atI E a ≠ sg then (32 + atI E a) :: encU (a - ((E[(atI E a).toNat]?).getD ⟨[], 0, 0, 0, 0, 0, []⟩).addr).toNat else 48 :: encU (a - p).toNat)
      ++ (cntB (runA E (a :: l)) ++ putB E k ((a :: l).drop (runA E (a :: l))) (atI E a) (((a :: l).getD (runA E (a :: l) - 1) 0) + 8))
def makeB (E : List Seg) (L : List Int) : List Int := 17 :: putB E L.length L (-1) 0
end Go.Proofs.YtbnnlbdjjpmgeaaGreat


namespace Go.Proofs.YtbnnlbdjjpmgeaaGreat
open Go.RowKit
variable {w w' W : World} {h : Hx} {s : St} {dv : Value} {l : List Sg} {qs : Option Addr} {cs : Nat}

set_option maxRecDepth 20000 in
theorem has6_any (z : Seg) (q : Option Addr) (m c : Nat) (a n : Int) (hf : SegFit z) (ha : U64 a) (hn : U64 n) :
    Calls Tryz.prog 144 #[segV z (.slice q m c), .int .u64 a, .int .u64 n] w fun e w' => e = .returned (.bool (hasN z a n)) ∧ w.grownBy w' none := by
  obtain ⟨nm, ad, sz, of, fs, pr, sl⟩ := z
  obtain ⟨f1, f2, f3, f4, f5⟩ := hf
  simp only [] at f1 f2 f3 f4
  have G := Lib.hid (grown1 w (.cells #[.string (strOfNums nm), .int .u64 ad, .int .u64 sz, .int .u64 of, .int .u64 fs, .int .i64 pr, .slice q m c] 64))
  unfold hasN segV segArr
  simp only []
  cases h1 : decide (0 < n)
  · simp only [Bool.false_and]
    clear f1 f2 f3 f4 f5 ha hn
    go_enter Tryz.func144, Tryz.ntmps144
    go_wp2
    go_ret
    exact ⟨rfl, G.out⟩
  have p1 : 0 < n := by simpa using h1
  cases h2 : decide (ad ≤ a)
  · simp only [Bool.false_and, Bool.true_and]
    clear f1 f2 f3 f4 f5 ha hn p1
    go_enter Tryz.func144, Tryz.ntmps144
    go_wp2
    go_ret
    exact ⟨rfl, G.out⟩
  have p2 : ad ≤ a := by simpa using h2
  unfold U64 at ha hn f1
  have hF : U64 (a - ad) := ⟨by omega, by omega⟩
  have m1 : IntKind.u64.wrap (a - ad) = a - ad := by rw [IntKind.wrap_u64]; have := hF.1; have := hF.2; omega
  have m2 : (a - ad) % 18446744073709551616 = a - ad := by have := hF.1; have := hF.2; omega
  have m3 : IntKind.u64.wrap (n - 1) = n - 1 := by rw [IntKind.wrap_u64]; omega
  have m4 : (n - 1) % 18446744073709551616 = n - 1 := by omega
  have m5 : IntKind.u64.wrap (18446744073709551615 - a) = 18446744073709551615 - a := by rw [IntKind.wrap_u64]; omega
  have m6 : (18446744073709551615 - a) % 18446744073709551616 = 18446744073709551615 - a := by omega
  obtain ⟨F, hFe⟩ : ∃ F, a - ad = F := ⟨_, rfl⟩
  rw [hFe] at hF m1 m2 ⊢
  have W1 := Lib.hid (fun w => withini_any F n sz hF hn f2 w)
  obtain ⟨b1, e1⟩ : ∃ b, b = decide (F + n ≤ sz) := ⟨_, rfl⟩
  unfold withinN
  rw [← e1] at W1 ⊢
  have e2 : decide (a + n ≤ 18446744073709551616) = decide (n - 1 ≤ 18446744073709551615 - a) := by
    by_cases c : a + n ≤ 18446744073709551616
    · rw [decide_eq_true c, decide_eq_true (by omega)]
    · rw [decide_eq_false c, decide_eq_false (by omega)]
  rw [e2]
  obtain ⟨b2, e3⟩ : ∃ b, b = decide (n - 1 ≤ 18446744073709551615 - a) := ⟨_, rfl⟩
  rw [← e3]
  have e4 := e3.symm
  clear f1 f2 f3 f4 f5 ha hn hF e1 e2 e3 p1 p2
  cases b1
  · go_enter Tryz.func144, Tryz.ntmps144
    go_wp2_with (go_at_call 185; (with_reducible refine (W1.out _).mono ?_); rintro e w3 ⟨rfl, rfl⟩)
    go_ret
    exact ⟨rfl, G.out⟩
  · cases b2
    all_goals
      go_enter Tryz.func144, Tryz.ntmps144
      go_wp2_with (go_at_call 185; (with_reducible refine (W1.out _).mono ?_); rintro e w3 ⟨rfl, rfl⟩)
      go_ret
      exact ⟨rfl, G.out⟩
set_option maxRecDepth 20000 in
theorem at1_any (x : Seg) (q : Option Addr) (m c : Nat) (a : Int) (hf : SegFit x) (ha : U64 a) {g : Nat} (hc : w.cell? ⟨g, 0, none⟩ = some (.int .u64 a)) (hg : g < w.heap.size) :
    Calls Tryz.prog 142 #[segV x (.slice q m c), .pointer (some ⟨g, 0, none⟩)] w fun e w' => e = .returned (.bool (inS a x)) ∧ w.grownBy w' none := by
  have IL := Lib.hid (fun V => isLaid_any (w := V) x q m c)
  have HS := Lib.hid (fun V => has6_any (w := V) x q m c a 1 hf ha ⟨by decide, by decide⟩)
  unfold inS
  obtain ⟨b1, e1⟩ : ∃ b, b = laidS x := ⟨_, rfl⟩
  obtain ⟨b2, e2⟩ : ∃ b, b = hasN x a 1 := ⟨_, rfl⟩
  rw [← e1] at IL ⊢
  rw [← e2] at HS ⊢
  obtain ⟨nm, ad, sz, of, fs, pr, sl⟩ := x
  have gB := grown1 w (.cells #[.string (strOfNums nm), .int .u64 ad, .int .u64 sz, .int .u64 of, .int .u64 fs, .int .i64 pr, .slice q m c] 64)
  have aA : SegAt (w.alloc (.cells #[.string (strOfNums nm), .int .u64 ad, .int .u64 sz, .int .u64 of, .int .u64 fs, .int .i64 pr, .slice q m c] 64)) w.heap.size ⟨nm, ad, sz, of, fs, pr, sl⟩ (.slice q m c) := heap_alloc_new w _
  unfold segV segArr at IL HS ⊢
  simp only [] at IL HS ⊢
  obtain ⟨W, hW⟩ : ∃ W, w.alloc (.cells #[.string (strOfNums nm), .int .u64 ad, .int .u64 sz, .int .u64 of, .int .u64 fs, .int .i64 pr, .slice q m c] 64) = W := ⟨_, rfl⟩
  obtain ⟨b, hb⟩ : ∃ b, w.heap.size = b := ⟨_, rfl⟩
  rw [hW] at gB aA
  rw [hb] at aA
  obtain ⟨s0, s1, s2, s3, s4, s5, s6⟩ := aA.c
  simp only [] at s0 s1 s2 s3 s4 s5 s6
  have hcW := grown_cell gB hc
  have LD := Lib.hid (fun (V : World) (hg : W.grownBy V none) => (aA.kept hg (by simp)).c)
  have G := Lib.hid gB
  simp only [] at LD
  have hbl : b < W.heap.size := lt_of_block aA
  have hgl : g < W.heap.size := Nat.lt_of_lt_of_le hg gB.size
  clear gB aA hc hf ha e1 e2 hg
  cases b1
  · go_enter Tryz.func142, Tryz.ntmps142
    go_upto_region 1 with fail
    clear hW hb
    go_wp2_with fail
    refine (IL.out _).mono ?_
    rintro e w3 ⟨rfl, hg⟩
    have GF := Lib.hid (grown_trans G.out hg)
    clear hg
    go_wp2
    go_ret
    exact ⟨rfl, GF.out⟩
  · go_enter Tryz.func142, Tryz.ntmps142
    go_upto_region 1 with fail
    clear hW hb
    go_wp2_with fail
    refine (IL.out _).mono ?_
    rintro e w3 ⟨rfl, hg⟩
    obtain ⟨r0, r1, r2, r3, r4, r5, r6⟩ := LD.out w3 hg
    have hc3 := grown_cell hg hcW
    have G3 := Lib.hid (grown_trans G.out hg)
    have hbl3 := Nat.lt_of_lt_of_le hbl hg.size
    have hgl3 := Nat.lt_of_lt_of_le hgl hg.size
    clear hg s0 s1 s2 s3 s4 s5 s6 hcW hbl hgl
    go_wp2_with fail
    refine (HS.out _).mono ?_
    rintro e w4 ⟨rfl, hg⟩
    have GF := Lib.hid (grown_trans G3.out hg)
    clear hg
    go_wp2
    go_ret
    exact ⟨rfl, GF.out⟩
set_option maxRecDepth 20000 in
theorem indexSg_any {f : Nat} {cbs : Array Value} (en : ∀ args V, (callFunc f args).run Tryz.prog V = .ok (.enter f args) V) (l : List Sg) (n : Nat) (hn : l.length = n) (hl : n ≤ 9223372036854775807) (P : Sg → Bool) (q : Option Addr) (c : Nat) (hr : RowSg w q l)
    (hF : ∀ (W : World) (x : Sg), x ∈ l → w.grownBy W none → Calls Tryz.prog f (#[segV x.seg x.v] ++ cbs) W fun e w' => e = .returned (.bool (P x)) ∧ W.grownBy w' none) :
    Calls Tryz.prog 141 #[.slice q n c, .func (.func f) #[] cbs] w fun e w' => (∃ z : Int, e = .returned (.int .i64 z) ∧ Idx l P z) ∧ w.grownBy w' none := by
  subst hn
  have RR := Lib.hid hr
  have FF := Lib.hid hF
  clear hr hF
  go_enter Tryz.func141, Tryz.ntmps141
  go_wp2
  go_loopw [8] (fun i wr => ∃ k : Nat, k ≤ l.length ∧ i = .int .i64 k ∧ w.grownBy wr none ∧ ∀ i y, i < k → l[i]? = some y → P y = false) (fun i _ => l.length - (intOf i).toNat)
  case atStart => exact ⟨0, Nat.zero_le _, rfl, grown_refl _ _, fun i y h => by omega⟩
  case round =>
    obtain ⟨k, hk, rfl, hg, hno⟩ := hrel
    have G := Lib.hid hg
    have NO := Lib.hid hno
    by_cases hlt : k < l.length
    · obtain ⟨x, hx⟩ : ∃ x, l[k]? = some x := ⟨_, List.getElem?_eq_getElem hlt⟩
      obtain ⟨g, rfl, c0, c1, c2, c3, c4, c5, c6⟩ := (RR.out.grown hg) k x hx
      have M1 := Lib.hid (FF.out wr x (List.mem_of_getElem? hx) hg)
      have HX := Lib.hid hx
      have dl : decide ((k : Int) < (l.length : Int)) = true := by simp; omega
      obtain ⟨bx, hbx⟩ : ∃ bx, bx = P x := ⟨_, rfl⟩
      rw [← hbx] at M1
      have PX := Lib.hid hbx
      have hkl : (k : Int) < (l.length : Int) := by omega
      obtain ⟨⟨nm, ad, sz, of, fs, pr, sl⟩, q1, k1⟩ := x
      unfold segV segArr Sg.v at M1
      simp only [Sg.v] at c0 c1 c2 c3 c4 c5 c6 M1
      clear hg hno hx hbx
      generalize l.length = N at *
      go_wp2_with fail
      refine M1.out.mono ?_
      rintro e w3 ⟨rfl, hg⟩
      have G3 := Lib.hid (grown_trans G.out hg)
      clear hg
      cases bx
      · go_wp2
        go_roundw
        case rel =>
          refine ⟨k + 1, hlt, by go_num, G3.out, fun i y hi hy => ?_⟩
          rcases Nat.lt_or_ge i k with h | h
          · exact NO.out i y h hy
          · obtain rfl : i = k := by omega
            rw [HX.out] at hy
            injection hy with hy
            rw [← hy]; exact PX.out.symm
        case measure => simp [intOf]; omega
      · go_wp2
        go_ret
        exact ⟨⟨k, rfl, .inr ⟨k, _, rfl, HX.out, PX.out.symm, NO.out⟩⟩, G3.out⟩
    · have hk' : k = l.length := by omega
      have NA := Lib.hid (none_any (P := P) (l := l) (fun i x hi hx => hno i x (by omega) hx))
      have dl : decide ((k : Int) < (l.length : Int)) = false := by simp; omega
      clear hno hg
      generalize l.length = N at *
      go_wp2
      go_ret
      exact ⟨⟨-1, rfl, .inl ⟨rfl, NA.out⟩⟩, G.out⟩
theorem idx_at {z : Int} {a : Int} (hz : Idx l (fun x => inS a x.seg) z) : z = atI (l.map Sg.seg) a := by
  unfold atI atO
  rcases hz with ⟨rfl, h0⟩ | ⟨k, x, rfl, hx, hp, hno⟩
  · have : (l.map Sg.seg).findIdx? (inS a) = none := by
      rw [List.findIdx?_eq_none_iff]
      intro y hy
      obtain ⟨x, hx, rfl⟩ := List.mem_map.1 hy
      rw [List.any_eq_false] at h0
      simpa using h0 x hx
    rw [this]
  · have : (l.map Sg.seg).findIdx? (inS a) = some k := by
      rw [List.findIdx?_eq_some_iff_getElem]
      obtain ⟨hk, rfl⟩ := List.getElem?_eq_some_iff.1 hx
      refine ⟨by simpa using hk, by simpa using hp, fun j hj => ?_⟩
      have := hno j l[j] hj (List.getElem?_eq_getElem (by omega))
      simpa using this
    rw [this]
set_option maxRecDepth 20000 in
theorem At_any (k : ImgRows w s l qs cs) (hf : SegsFit s) (a : Int) (ha : U64 a) :
    Calls Tryz.prog 90 #[imgV h s (.slice qs l.length cs) dv, .int .u64 a] w fun e w' => e = .returned (.int .i64 (atI s.segs a)) ∧ w.grownBy w' none := by
  have g0 := grown1 w (.cells (imgArr h s (.slice qs l.length cs) dv) 49)
  have a0 : ImgAt (w.alloc (.cells (imgArr h s (.slice qs l.length cs) dv) 49)) w.heap.size h s (.slice qs l.length cs) dv := heap_alloc_new w _
  have g1 := grown1 (w.alloc (.cells (imgArr h s (.slice qs l.length cs) dv) 49)) (.cells #[.int .u64 a] 26)
  have a1 := OneAt.new (w.alloc (.cells (imgArr h s (.slice qs l.length cs) dv) 49)) (.int .u64 a) 26
  rw [World.size_alloc] at a1
  obtain ⟨W, hW⟩ : ∃ W, (w.alloc (.cells (imgArr h s (.slice qs l.length cs) dv) 49)).alloc (.cells #[.int .u64 a] 26) = W := ⟨_, rfl⟩
  obtain ⟨b, hb⟩ : ∃ b, w.heap.size = b := ⟨_, rfl⟩
  rw [hW] at g1 a1
  rw [hb] at a0 a1
  have gW := grown_trans g0 g1
  have aW := a0.kept g1 (by simp)
  have c4 := aW.c 4 (.slice qs l.length cs) rfl
  have gl := lt_of_block aW
  have G := Lib.hid gW
  have IX := Lib.hid (indexSg_any (w := W) (f := 142) (cbs := #[.pointer (some ⟨b + 1, 0, none⟩)]) (enters_of Tryz.func142 (by kernel_rfl) rfl) l l.length rfl k.few (fun x => inS a x.seg) qs cs (k.grown gW).row (fun V x hx hV => at1_any x.seg x.q x.seg.secs.length x.c a (k.fit hf hx).1 ha (a1.grown hV).c (a1.grown hV).lt))
  have SG := Lib.hid (show ∀ z, Idx l (fun x => inS a x.seg) z → z = atI s.segs a from fun z hz => by rw [← k.segs]; exact idx_at hz)
  clear k g0 a0 g1 a1 gW aW ha hf
  generalize l.length = N at *
  unfold imgV imgArr at *
  go_enter Tryz.func90, Tryz.ntmps90
  go_upto_region 1 with fail
  clear hW hb
  go_wp2_with fail
  refine IX.out.mono ?_
  rintro e w3 ⟨⟨z, rfl, hz⟩, hg⟩
  have E := Lib.hid (SG.out z hz)
  have GF := Lib.hid (grown_trans G.out hg)
  clear hg hz
  go_wp2
  go_ret
  exact ⟨by rw [E.out]; rfl, GF.out⟩
end Go.Proofs.YtbnnlbdjjpmgeaaGreat


namespace Go.Proofs.YtbnnlbdjjpmgeaaGreat
open Go.RowKit
variable {w w' W : World} {h : Hx} {s : St} {dv : Value} {l : List Sg} {qs : Option Addr} {cs : Nat}

theorem wpList_load_run {T : TypeId} {ad : Addr} {v : Value} {ops : Array Oper} {rest : List Oper} {o : Oper} {a : Act} {Q : Exit → Act → World → Prop} (hw : Region.wanted o (yielded ops a.tmps) = true) (x : Operand) (ho : o.op = .load T x)
    (hx : a.eval x = .pointer (some ad)) (hl : (loadVar T ad).run Tryz.prog w = .ok v w) (hK : wpList Tryz.prog ops Q rest (a.put o.dst v) w) : wpList Tryz.prog ops Q (o :: rest) a w := by
  refine BigFrame.wpList_want hw fun _ hK' => ?_
  unfold Oper.wp execOp
  simp only [ho, hx, Instr.loadAt, Instr.sureAddr, Sem.run_bind, Sem.run_pure, Result.andThen_ok, hl]
  exact hK' _ _ hK
theorem run_loadI {g : Nat} {sv : Value} (k : ImgAt w g h s sv dv) : (loadVar 49 ⟨g, 0, none⟩).run Tryz.prog w = .ok (imgV h s sv dv) w :=
  run_loadVar_row w g _ _ _ _ _ k Tryz.underlying49 rfl (by kernel_rfl)
theorem at_find {E : List Seg} {a : Int} {k : Nat} (hk : atO E a = some k) : ∃ x, E[k]? = some x ∧ E.find? (inS a) = some x := by
  unfold atO at hk
  rw [List.findIdx?_eq_some_iff_getElem] at hk
  obtain ⟨hlt, h1, h2⟩ := hk
  refine ⟨E[k], List.getElem?_eq_getElem hlt, ?_⟩
  rw [List.find?_eq_some_iff_getElem]
  exact ⟨h1, k, hlt, rfl, fun j hj => by simpa using h2 j hj⟩
theorem at_none {E : List Seg} {a : Int} (hk : atO E a = none) : E.find? (inS a) = none := by
  unfold atO at hk
  rw [List.findIdx?_eq_none_iff] at hk
  rw [List.find?_eq_none]
  intro x hx
  have := hk x hx
  simpa using this
structure WiO (w w' : World) (l : List Sg) (E : List Seg) (a n : Int) (e : Ending) : Prop where
  ex : (withinO E a n = none ∧ e = .returned (.tuple #[segV Seg.zero (.slice none 0 0), .bool false])) ∨ ∃ x, x ∈ l ∧ withinO E a n = some x.seg ∧ e = .returned (.tuple #[segV x.seg x.v, .bool true])
  grown : w.grownBy w' none
set_option maxRecDepth 20000 in
set_option maxHeartbeats 1600000 in
theorem within6_any (k : ImgRows w s l qs cs) (hf : SegsFit s) (a n : Int) (ha : U64 a) (hn : U64 n) :
    Calls Tryz.prog 139 #[imgV h s (.slice qs l.length cs) dv, .int .u64 a, .int .u64 n] w fun e w' => WiO w w' l s.segs a n e := by
  have g0 := grown1 w (.cells (imgArr h s (.slice qs l.length cs) dv) 49)
  have a0 : ImgAt (w.alloc (.cells (imgArr h s (.slice qs l.length cs) dv) 49)) w.heap.size h s (.slice qs l.length cs) dv := heap_alloc_new w _
  obtain ⟨W0, hW0⟩ : ∃ W, w.alloc (.cells (imgArr h s (.slice qs l.length cs) dv) 49) = W := ⟨_, rfl⟩
  obtain ⟨b, hb⟩ : ∃ b, w.heap.size = b := ⟨_, rfl⟩
  rw [hW0] at g0 a0
  rw [hb] at a0
  have hsz : W0.heap.size = b + 1 := by rw [← hW0, World.size_alloc, hb]
  have g1 := grown1 W0 (.cells #[.string ⟨#[]⟩, .int .u64 0, .int .u64 0, .int .u64 0, .int .u64 0, .int .i64 0, .slice none 0 0] 64)
  have z1 : SegAt (W0.alloc (.cells #[.string ⟨#[]⟩, .int .u64 0, .int .u64 0, .int .u64 0, .int .u64 0, .int .i64 0, .slice none 0 0] 64)) W0.heap.size Seg.zero (.slice none 0 0) := heap_alloc_new W0 _
  obtain ⟨W, hW⟩ : ∃ W, W0.alloc (.cells #[.string ⟨#[]⟩, .int .u64 0, .int .u64 0, .int .u64 0, .int .u64 0, .int .i64 0, .slice none 0 0] 64) = W := ⟨_, rfl⟩
  rw [hW] at g1 z1
  rw [hsz] at z1
  have aW := a0.kept g1 (by simp)
  have gW := grown_trans g0 g1
  have ld := run_loadI aW
  have G := Lib.hid gW
  have AT := Lib.hid (At_any (w := W) (h := h) (dv := dv) (k.grown gW) hf a ha)
  have RW := Lib.hid (fun (V : World) (hg : W.grownBy V none) => (k.grown gW).row.grown hg)
  have IA := Lib.hid aW
  have ZA := Lib.hid z1
  have SG := Lib.hid k.segs
  have HS := Lib.hid (fun (x : Sg) (hx : x ∈ l) (V : World) => has6_any (w := V) x.seg x.q x.seg.secs.length x.c a n (k.fit hf hx).1 ha hn)
  have hfew := k.few
  have hcap := k.cap
  have gl := lt_of_block aW
  have zl := lt_of_block z1
  have BB := Lib.hid (show w.heap.size ≤ b + 1 by omega)
  have HU := Lib.hid hb
  obtain ⟨E, hE⟩ : ∃ E, E = s.segs := ⟨_, rfl⟩
  rw [← hE] at AT SG ⊢
  obtain ⟨N, hN⟩ : ∃ N, N = l.length := ⟨_, rfl⟩
  rw [← hN] at hfew hcap AT ld IA ⊢
  have HN := Lib.hid hN
  rw [← hN] at aW hW0
  have c4 := aW.c 4 (.slice qs N cs) rfl
  clear k g0 a0 g1 z1 aW gW ha hn hf hE hN
  unfold imgV imgArr at *
  go_enter Tryz.func139, Tryz.ntmps139
  go_upto_region 1 with fail
  clear hW0 hW hb hsz
  go_wp2_with (first | refine wpList_load_run rfl _ rfl rfl ld ?_ | fail)
  refine AT.out.mono ?_
  rintro e w3 ⟨rfl, hg3⟩
  have G3 := Lib.hid (grown_trans G.out hg3)
  have gl3 := Nat.lt_of_lt_of_le gl hg3.size
  have zl3 := Nat.lt_of_lt_of_le zl hg3.size
  have c43 := grown_cell hg3 c4
  have Z3 := Lib.hid (ZA.out.kept hg3 (by simp))
  have R3 := Lib.hid (fun (V : World) (hg : w3.grownBy V none) => RW.out V (grown_trans hg3 hg))
  clear hg3 c4 gl zl ld AT
  cases hk : atO E a with
  | none =>
    have e1 : atI E a = -1 := by unfold atI; rw [hk]
    have WN := Lib.hid (show withinO E a n = none by unfold withinO; rw [at_none hk])
    have zf := Z3.out.fz 0
    have zf1 := Z3.out.fz 1
    have zf2 := Z3.out.fz 2
    have zf3 := Z3.out.fz 3
    have zf4 := Z3.out.fz 4
    have zf5 := Z3.out.fz 5
    have zf6 := Z3.out.fz 6
    obtain ⟨zc0, zc1, zc2, zc3, zc4, zc5, zc6⟩ := Z3.out.c
    rw [e1]
    clear hk e1
    go_wp2
    refine bodyPost_ret (results_seg rfl rfl rfl (Z3.out.put Seg.zero (.slice none 0 0))) rfl ?_
    exact ⟨.inl ⟨WN.out, rfl⟩, grown_new G3.out (grown_put7s (grown_refl w3 _) _ _ _ _ _ _ _) BB.out⟩
  | some k =>
    obtain ⟨y, hy, hfi⟩ := at_find hk
    have e1 : atI E a = (k : Int) := by unfold atI; rw [hk]
    rw [← SG.out, List.getElem?_map] at hy
    obtain ⟨x, hx, hxy⟩ := Option.map_eq_some_iff.1 hy
    have hkN : k < N := by rw [HN.out]; exact (List.getElem?_eq_some_iff.1 hx).1
    have WO := Lib.hid (show withinO E a n = if hasN x.seg a n then some x.seg else none by unfold withinO; rw [hfi]; simp only []; rw [hxy])
    have XM := Lib.hid (List.mem_of_getElem? hx)
    have HX := Lib.hid hx
    have HP := Lib.hid (fun V => HS.out x XM.out V)
    obtain ⟨g, rfl, x0, x1, x2, x3, x4, x5, x6⟩ := R3.out w3 (grown_refl _ _) k x hx
    rw [e1]
    have dk : decide ((k : Int) < 0) = false := by simp
    have hk0 : ¬ ((k : Int) < 0) := by omega
    have hkN2 : (k : Int) < (N : Int) := by omega
    obtain ⟨hh, hhh⟩ : ∃ b, b = hasN x.seg a n := ⟨_, rfl⟩
    rw [← hhh] at HP WO
    have XS := Lib.hid (show ∀ sg sv, sg = x.seg → sv = x.v → segV sg sv = segV x.seg x.v from fun sg sv h1 h2 => by rw [h1, h2])
    obtain ⟨⟨nm, ad, sz, of, fs, pr, sl⟩, q1, k1⟩ := x
    simp only [Sg.v] at x0 x1 x2 x3 x4 x5 x6 HP
    unfold segV segArr at HP
    simp only [] at HP
    clear hk e1 hy hxy hx hfi HS hhh
    go_wp2_with fail
    refine (HP.out _).mono ?_
    rintro e w4 ⟨rfl, hg4⟩
    have G4 := Lib.hid (grown_trans G3.out hg4)
    have gl4 := Nat.lt_of_lt_of_le gl3 hg4.size
    have zl4 := Nat.lt_of_lt_of_le zl3 hg4.size
    have c44 := grown_cell hg4 c43
    have Z4 := Lib.hid (Z3.out.kept hg4 (by simp))
    obtain ⟨g', hq', y0, y1, y2, y3, y4, y5, y6⟩ := R3.out w4 hg4 k _ HX.out
    obtain rfl : g = g' := by injection hq' with e; injection e
    simp only [Sg.v] at y0 y1 y2 y3 y4 y5 y6
    have zf := Z4.out.fz 0
    have zf1 := Z4.out.fz 1
    have zf2 := Z4.out.fz 2
    have zf3 := Z4.out.fz 3
    have zf4 := Z4.out.fz 4
    have zf5 := Z4.out.fz 5
    have zf6 := Z4.out.fz 6
    obtain ⟨zc0, zc1, zc2, zc3, zc4, zc5, zc6⟩ := Z4.out.c
    clear x0 x1 x2 x3 x4 x5 x6 hq' hg4 c43 gl3 zl3 HP R3
    cases hh
    · go_wp2
      refine bodyPost_ret (results_seg rfl rfl rfl (Z4.out.put Seg.zero (.slice none 0 0))) rfl ?_
      exact ⟨.inl ⟨by rw [WO.out]; rfl, rfl⟩, grown_new G4.out (grown_put7s (grown_refl w4 _) _ _ _ _ _ _ _) BB.out⟩
    · go_wp2
      refine bodyPost_ret (results_seg rfl rfl rfl (Z4.out.put ⟨nm, ad, sz, of, fs, pr, sl⟩ (.slice q1 sl.length k1))) rfl ?_
      exact ⟨.inr ⟨_, XM.out, by rw [WO.out]; rfl, rfl⟩, grown_new G4.out (grown_put7s (grown_refl w4 _) _ _ _ _ _ _ _) BB.out⟩
end Go.Proofs.YtbnnlbdjjpmgeaaGreat


namespace Go.Proofs.YtbnnlbdjjpmgeaaGreat
open Go.RowKit
variable {w w' W : World} {h : Hx} {s : St} {dv : Value} {l : List Sg} {qs : Option Addr} {cs : Nat}

set_option maxRecDepth 20000 in
theorem Writable_any (k : ImgRows w s l qs cs) (hf : SegsFit s) (a n : Int) (ha : U64 a) (hn : U64 n) :
    Calls Tryz.prog 88 #[imgV h s (.slice qs l.length cs) dv, .int .u64 a, .int .u64 n] w fun e w' => e = .returned (.bool (wrN s.segs a n)) ∧ w.grownBy w' none := by
  have g0 := grown1 w (.cells (imgArr h s (.slice qs l.length cs) dv) 49)
  have a0 : ImgAt (w.alloc (.cells (imgArr h s (.slice qs l.length cs) dv) 49)) w.heap.size h s (.slice qs l.length cs) dv := heap_alloc_new w _
  obtain ⟨W, hW⟩ : ∃ W, w.alloc (.cells (imgArr h s (.slice qs l.length cs) dv) 49) = W := ⟨_, rfl⟩
  obtain ⟨b, hb⟩ : ∃ b, w.heap.size = b := ⟨_, rfl⟩
  rw [hW] at g0 a0
  rw [hb] at a0
  have ld := run_loadI a0
  have G := Lib.hid g0
  have WI := Lib.hid (within6_any (w := W) (h := h) (dv := dv) (k.grown g0) hf a n ha hn)
  have gl := lt_of_block a0
  obtain ⟨E, hE⟩ : ∃ E, E = s.segs := ⟨_, rfl⟩
  rw [← hE] at WI ⊢
  clear k g0 a0 ha hn hf hE
  generalize l.length = N at *
  unfold imgV imgArr at *
  go_enter Tryz.func88, Tryz.ntmps88
  go_upto_region 1 with fail
  clear hW hb
  go_wp2_with (first | refine wpList_load_run rfl _ rfl rfl ld ?_ | fail)
  refine WI.out.mono ?_
  rintro e w3 ⟨hx, hg3⟩
  have G3 := Lib.hid (grown_trans G.out hg3)
  clear hg3 WI gl ld
  rcases hx with ⟨hn, rfl⟩ | ⟨x, hm, ho, rfl⟩
  · have E1 := Lib.hid (show wrN E a n = false by unfold wrN; rw [hn])
    have g4 := grown1 w3 (.cells #[.string ⟨#[]⟩, .int .u64 0, .int .u64 0, .int .u64 0, .int .u64 0, .int .i64 0, .slice none 0 0] 64)
    have G4 := Lib.hid (grown_trans G3.out g4)
    clear hn g4
    unfold segV segArr Seg.zero
    simp only []
    go_wp2
    go_ret
    exact ⟨by rw [E1.out]; rfl, G4.out⟩
  · have E1 := Lib.hid (show wrN E a n = wrOk x.seg by unfold wrN; rw [ho])
    have CW := Lib.hid (fun V => canWrite_any (w := V) x.seg x.q x.seg.secs.length x.c)
    obtain ⟨r, hr⟩ : ∃ r, r = wrOk x.seg := ⟨_, rfl⟩
    rw [← hr] at E1 CW
    obtain ⟨⟨nm, ad, sz, of, fs, pr, sl⟩, q1, k1⟩ := x
    have g4 := grown1 w3 (.cells #[.string (strOfNums nm), .int .u64 ad, .int .u64 sz, .int .u64 of, .int .u64 fs, .int .i64 pr, .slice q1 sl.length k1] 64)
    have s4 : SegAt (w3.alloc (.cells #[.string (strOfNums nm), .int .u64 ad, .int .u64 sz, .int .u64 of, .int .u64 fs, .int .i64 pr, .slice q1 sl.length k1] 64)) w3.heap.size ⟨nm, ad, sz, of, fs, pr, sl⟩ (.slice q1 sl.length k1) := heap_alloc_new w3 _
    obtain ⟨W4, hW4⟩ : ∃ W, w3.alloc (.cells #[.string (strOfNums nm), .int .u64 ad, .int .u64 sz, .int .u64 of, .int .u64 fs, .int .i64 pr, .slice q1 sl.length k1] 64) = W := ⟨_, rfl⟩
    obtain ⟨b4, hb4⟩ : ∃ b, w3.heap.size = b := ⟨_, rfl⟩
    rw [hW4] at g4 s4
    rw [hb4] at s4
    obtain ⟨x0, x1, x2, x3, x4, x5, x6⟩ := s4.c
    have sl4 := s4.lt
    have G4 := Lib.hid (grown_trans G3.out g4)
    simp only [Sg.v] at x0 x1 x2 x3 x4 x5 x6 CW ⊢
    unfold segV segArr at CW ⊢
    simp only [] at CW ⊢
    clear ho hm hr g4 s4
    go_upto_region 2 with fail
    clear hW4 hb4
    go_wp2_with fail
    refine (CW.out _).mono ?_
    rintro e w5 ⟨rfl, hg5⟩
    have G5 := Lib.hid (grown_trans G4.out hg5)
    clear hg5
    go_wp2
    go_ret
    exact ⟨by rw [E1.out]; rfl, G5.out⟩
set_option maxRecDepth 20000 in
theorem Place6_any (k : ImgRows w s l qs cs) (i o : Int) (hi : U64 i) (hn : l.length < 1000000) :
    Calls Tryz.prog 149 #[imgV h s (.slice qs l.length cs) dv, .int .u64 i, .int .u64 o] w fun e w' => e = .returned (.tuple #[.int .u64 (placeN s.segs i o).1, .int .i64 (placeN s.segs i o).2]) ∧ w.grownBy w' none := by
  have gB := grown1 w (.cells (imgArr h s (.slice qs l.length cs) dv) 49)
  have aA : ImgAt (w.alloc (.cells (imgArr h s (.slice qs l.length cs) dv) 49)) w.heap.size h s (.slice qs l.length cs) dv := heap_alloc_new w _
  obtain ⟨W, hW⟩ : ∃ W, w.alloc (.cells (imgArr h s (.slice qs l.length cs) dv) 49) = W := ⟨_, rfl⟩
  obtain ⟨b, hb⟩ : ∃ b, w.heap.size = b := ⟨_, rfl⟩
  rw [hW] at gB aA
  rw [hb] at aA
  have RW := Lib.hid (fun (V : World) (hg : W.grownBy V none) => (k.grown gB).row.grown hg)
  have G := Lib.hid gB
  have c4 := aA.c 4 (.slice qs l.length cs) rfl
  have gl := lt_of_block aA
  have hcp := k.cap
  have SG := Lib.hid k.segs
  have m1 : IntKind.u64.wrap (l.length : Int) = l.length := by rw [IntKind.wrap_u64]; omega
  have m2 : (l.length : Int) % 18446744073709551616 = l.length := by omega
  unfold U64 at hi
  by_cases hil : i < (l.length : Int)
  · obtain ⟨j, rfl⟩ : ∃ j : Nat, i = (j : Int) := ⟨i.toNat, by omega⟩
    have hjl : j < l.length := by omega
    obtain ⟨x, hx⟩ : ∃ x, l[j]? = some x := ⟨_, List.getElem?_eq_getElem hjl⟩
    have PN := Lib.hid (show placeN s.segs j o = if laidS x.seg then (if o < x.seg.size then ((x.seg.addr + o) % 18446744073709551616, 0) else (0, 4)) else (0, 8) by
      unfold placeN
      rw [← SG.out, Int.toNat_natCast, List.getElem?_map, hx]
      rfl)
    have HX := Lib.hid hx
    obtain ⟨g, rfl, a0, a1, a2, a3, a4, a5, a6⟩ := RW.out W (grown_refl _ _) j x hx
    have LD := Lib.hid (fun (V : World) => isLaid_any (w := V) x.seg x.q x.seg.secs.length x.c)
    obtain ⟨lb, hlb⟩ : ∃ b, b = laidS x.seg := ⟨_, rfl⟩
    rw [← hlb] at LD PN
    have dg : decide ((l.length : Int) ≤ (j : Int)) = false := by simp; omega
    obtain ⟨⟨nm, ad, sz, of, fs, pr, sl⟩, q1, k1⟩ := x
    simp only [Sg.v] at a0 a1 a2 a3 a4 a5 a6 LD PN
    unfold segV segArr at LD
    simp only [] at LD
    obtain ⟨T, hT⟩ : ∃ T, (ad + o) % 18446744073709551616 = T := ⟨_, rfl⟩
    have hT2 : IntKind.u64.wrap (ad + o) = T := by rw [IntKind.wrap_u64]; exact hT
    rw [hT] at PN
    clear k gB aA hx hlb
    rw [show imgV h s (.slice (some ⟨g, 0, none⟩) l.length cs) dv = .agg (imgArr h s (.slice (some ⟨g, 0, none⟩) l.length cs) dv) from rfl]
    unfold imgArr at hW ⊢
    generalize l.length = N at *
    go_enter Tryz.func149, Tryz.ntmps149
    go_upto_region 1 with fail
    clear hW hb
    go_wp2_with fail
    refine (LD.out _).mono ?_
    rintro e w3 ⟨rfl, hg⟩
    have G3 := Lib.hid (grown_trans G.out hg)
    obtain ⟨g', hq', b0, b1, b2, b3, b4, b5, b6⟩ := RW.out w3 hg j _ HX.out
    obtain rfl : g = g' := by injection hq' with e; injection e
    have c4 := grown_cell hg c4
    have gl := Nat.lt_of_lt_of_le gl hg.size
    simp only [Sg.v] at b0 b1 b2 b3 b4 b5 b6
    have GF := Lib.hid (grown_trans G3.out (grown1 w3 (.cells #[.string (strOfNums nm), .int .u64 ad, .int .u64 sz, .int .u64 of, .int .u64 fs, .int .i64 pr, .slice q1 sl.length k1] 64)))
    clear hg hq' a0 a1 a2 a3 a4 a5 a6 RW LD
    cases lb
    · have FN := Lib.hid (show placeN s.segs j o = (0, 8) by rw [PN.out]; rfl)
      go_wp2
      go_ret2
      exact ⟨by rw [FN.out]; rfl, G3.out⟩
    · by_cases hos : o < sz
      · have ds : decide (sz ≤ o) = false := by simp; omega
        have FN := Lib.hid (show placeN s.segs j o = (T, 0) by rw [PN.out, if_pos rfl, if_pos hos])
        clear hos PN
        go_wp2
        go_ret2
        exact ⟨by rw [FN.out]; rfl, GF.out⟩
      · have ds : decide (sz ≤ o) = true := by simp; omega
        have FN := Lib.hid (show placeN s.segs j o = (0, 4) by rw [PN.out, if_pos rfl, if_neg hos])
        clear hos PN
        go_wp2
        go_ret2
        exact ⟨by rw [FN.out]; rfl, GF.out⟩
  · have FN := Lib.hid (show placeN s.segs i o = (0, 8) by
      unfold placeN
      rw [← SG.out, List.getElem?_map, List.getElem?_eq_none (by omega)]
      rfl)
    have dg : decide ((l.length : Int) ≤ i) = true := by simp; omega
    clear k gB aA RW hil SG
    rw [show imgV h s (.slice qs l.length cs) dv = .agg (imgArr h s (.slice qs l.length cs) dv) from rfl]
    unfold imgArr at hW ⊢
    generalize l.length = N at *
    go_enter Tryz.func149, Tryz.ntmps149
    go_upto_region 1 with fail
    clear hW hb
    go_wp2
    go_ret2
    exact ⟨by rw [FN.out]; rfl, G.out⟩
end Go.Proofs.YtbnnlbdjjpmgeaaGreat


namespace Go.Proofs.YtbnnlbdjjpmgeaaGreat
open Go.RowKit Go.ChangeShapes Go.WideShapes Go.Deep
variable {w w' W V : World}

theorem fxCs_len (x : Fx) : (fxCs x).length = 7 := rfl
theorem fxCs_one (x : Fx) : ∀ u ∈ fxCs x, u.oneCell' = true := by
  intro u hu
  simp only [fxCs, List.mem_cons, List.not_mem_nil, or_false] at hu
  rcases hu with rfl | rfl | rfl | rfl | rfl | rfl | rfl <;> rfl
def fx0 : Fx := ⟨0, 0, 0, 0, ⟨#[]⟩, 0, false⟩
theorem fxType : StType Tryz.prog 60 41 7 64 := .mk' Tryz.underlying41 (z := .agg #[.int .u64 0, .int .i64 0, .int .u64 0, .int .i64 0, .string ⟨#[]⟩, .int .i64 0, .bool false]) (by kernel_rfl) rfl (by decide)
def FxAt (w : World) (g : Nat) (x : Fx) : Prop :=
  w.heap[g]? = some (.cells #[.int .u64 x.at_, .int .i64 x.kind, .int .u64 x.target, .int .i64 x.ord, .string x.sym, .int .i64 x.add, .bool x.weak] 60 (0, 0))
section
variable {g : Nat} {x : Fx}
theorem FxAt.new (w : World) (x : Fx) : FxAt (w.alloc (.cells #[.int .u64 x.at_, .int .i64 x.kind, .int .u64 x.target, .int .i64 x.ord, .string x.sym, .int .i64 x.add, .bool x.weak] 60)) w.heap.size x := heap_alloc_new w _
theorem FxAt.kept {r : Option Nat} (h : FxAt w g x) (hg : w.grownBy w' r) (hr : r ≠ some g) : FxAt w' g x := (hg.block g (lt_of_block h) (fun e => hr e.symm)).trans h
theorem FxAt.grown (h : FxAt w g x) (hg : w.grownBy w' none) : FxAt w' g x := h.kept hg (by simp)
theorem FxAt.lt (h : FxAt w g x) : g < w.heap.size := lt_of_block h
theorem FxAt.c (h : FxAt w g x) : w.cell? ⟨g, 0, none⟩ = some (.int .u64 x.at_) ∧ w.cell? ⟨g, 1, none⟩ = some (.int .i64 x.kind) ∧ w.cell? ⟨g, 2, none⟩ = some (.int .u64 x.target) ∧ w.cell? ⟨g, 3, none⟩ = some (.int .i64 x.ord) ∧
    w.cell? ⟨g, 4, none⟩ = some (.string x.sym) ∧ w.cell? ⟨g, 5, none⟩ = some (.int .i64 x.add) ∧ w.cell? ⟨g, 6, none⟩ = some (.bool x.weak) := by
  refine ⟨?_, ?_, ?_, ?_, ?_, ?_, ?_⟩ <;> (rw [cell_of h]; rfl)
theorem load_fx (h : FxAt w g x) : (loadVar 60 ⟨g, 0, none⟩).run Tryz.prog w = .ok (fxV x) w :=
  run_loadVar_row w g _ _ _ _ _ h Tryz.underlying60 rfl (by kernel_rfl)
end
def FxIn (w : World) (g o : Nat) (x : Fx) : Prop := ∀ j, j < 7 → w.cell? ⟨g, o + j, none⟩ = (fxCs x)[j]?
theorem FxIn.c {g o : Nat} {x : Fx} (h : FxIn w g o x) : w.cell? ⟨g, o, none⟩ = some (.int .u64 x.at_) ∧ w.cell? ⟨g, o + 1, none⟩ = some (.int .i64 x.kind) ∧ w.cell? ⟨g, o + 2, none⟩ = some (.int .u64 x.target) ∧ w.cell? ⟨g, o + 3, none⟩ = some (.int .i64 x.ord) ∧
    w.cell? ⟨g, o + 4, none⟩ = some (.string x.sym) ∧ w.cell? ⟨g, o + 5, none⟩ = some (.int .i64 x.add) ∧ w.cell? ⟨g, o + 6, none⟩ = some (.bool x.weak) :=
  ⟨h 0 (by decide), h 1 (by decide), h 2 (by decide), h 3 (by decide), h 4 (by decide), h 5 (by decide), h 6 (by decide)⟩
def FxsAt (w : World) (q : Option Addr) (D : List Fx) : Prop := ∀ (i : Nat) (y : Fx), D[i]? = some y → ∃ g o, q = some ⟨g, o, none⟩ ∧ FxIn w g (o + i * 7) y
theorem FxsAt.grown {q : Option Addr} {D : List Fx} (h : FxsAt w q D) {r : Option Nat} (hg : w.grownBy w' r) (hr : ∀ g o, q = some ⟨g, o, none⟩ → r ≠ some g) : FxsAt w' q D := fun i y hy => by
  obtain ⟨g, o, e, hc⟩ := h i y hy
  refine ⟨g, o, e, fun j hj => ?_⟩
  have h1 := hc j hj
  have h2 : (fxCs y)[j]? = some ((fxCs y)[j]'(by rw [fxCs_len]; exact hj)) := List.getElem?_eq_getElem _
  rw [h2] at h1 ⊢
  exact hg.cell h1 (fun e2 => hr g o e e2.symm)
theorem FxsAt.same {q : Option Addr} {D : List Fx} (h : FxsAt w q D) (hg : w.grownBy w' none) : FxsAt w' q D := h.grown hg (fun _ _ _ => by simp)
theorem FxsAt.of {lo n c : Nat} {q : Option Addr} {D : List Fx} (h : w.ownsRow lo 60 7 (.slice q n c) n (D.flatMap fxCs)) : FxsAt w q D := fun i y hy => by
  obtain ⟨g, e, -⟩ := row_cell fxCs_len h hy (j := 0) (by decide)
  refine ⟨g, 0, e, fun j hj => ?_⟩
  obtain ⟨g', e', h1⟩ := row_cell fxCs_len h hy hj
  rw [e] at e'
  injection e' with e'
  injection e' with e' _ _
  subst e'
  rw [Nat.zero_add]; exact h1
end Go.Proofs.YtbnnlbdjjpmgeaaGreat

