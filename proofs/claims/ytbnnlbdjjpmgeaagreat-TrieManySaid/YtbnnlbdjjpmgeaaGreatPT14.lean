/- 'TrieMany': for every input the call returns true, and what was handed in reads as it did. The form's own reach is the one condition. -/
import Derived.Shelf.Small.Bits
import Derived.Shelf.Small.Strs
import Derived.Shelf.Strconv.Itoa0
import Derived.Shelf.Strings.Search1
import Derived.Shelf.Bytes.SlIndexAt
import Derived.Shelf.Bytes.SlSearch0
import Derived.Ground.SlbCloneProg
import Derived.Shelf.Bytes.SlClone
import Derived.Shelf.Bytes.IndexByte
import Derived.Test.YtbnnlbdjjpmgeaaGreatProg
import Derived.Test.YtbnnlbdjjpmgeaaGreatRows
import Derived.WalkKit
import Derived.WalkSpells
import Derived.WalkLawsBesides
import Derived.BigQuiet
import Derived.Deep.QuietTactic
import Derived.Lib.Hide
import Derived.IntWalk
import Derived.OneCell
import Derived.Laws.Rows
import Derived.OpenShut
import Derived.ProofKit
import Derived.Lib.EndianBits
import Derived.RegionTactic
import Derived.ChangeAlike
import Derived.WalkMore
import Derived.Laws.BytesArg
import Derived.Shelf.Bytes.SlEqualAll
import Derived.Lib.SlFresh
import Derived.Maps.AppendAt
import Derived.Deep.AppendSrc
import Derived.Deep.Upon
import Derived.Lib.AppendZeros
import Derived.Laws.IdiomStrings
import Derived.Lib.AppendZerosOnto
import Derived.Laws.StructEq
import Derived.Below
import Derived.Shelf.Abstract
import Derived.Laws.ResultCell
import Derived.Deep.Slices
import Derived.ChangeSame
import Derived.Laws.OwnMore
import Derived.Laws.Slices
import Derived.Lib.ConvBytes
import Derived.StringKeys
import Derived.Maps.Own
import Derived.Maps.OwnOps
import Derived.Maps.OwnSet
import Derived.WideShapes
import Derived.Deep.Cut
import Derived.Deep.CutRange
import Derived.PlainAid
import Derived.Lib.SlBytesRow
import Derived.Deep.Onto
import Derived.Laws.EntriesVeiled
import Derived.Shelf.SlSortCmp.WholeK
import Derived.Shelf.SlGeneric
import Derived.Ground.SlsfProg
import Derived.Deep.LoopGhost
import Derived.StillTailTactics
import Derived.Deep.RegionWith
import Derived.Deep.RegionHeld3
import Derived.Lib.SmallJoins
import Derived.Laws.Bits128
import Derived.RangeFuncNested
import Derived.RangeFuncBound
import Derived.RangeFuncCalls
import Derived.Shelf.RegionOpen
import Derived.OwnWalkIn
import Derived.TacticsInMore
import Derived.RangeFuncIn
import Derived.RangeFuncLeaves
import Derived.Maps.OwnIn
import Derived.Laws.MakeOwn
import Derived.Deep.RegionLaw
import Derived.BigRegion
import Derived.Deep.RegionHeld
import Derived.Lib.QuietBelow
import Derived.ShutString
import Derived.ChangeOld
import Derived.Test.YtbnnlbdjjpmgeaaGreatPT1
import Derived.Test.YtbnnlbdjjpmgeaaGreatPT7
import Derived.Test.YtbnnlbdjjpmgeaaGreatPT10
import Derived.Test.YtbnnlbdjjpmgeaaGreatPT11
import Derived.Test.YtbnnlbdjjpmgeaaGreatPT13
namespace Go.Proofs.YtbnnlbdjjpmgeaaGreat.trieMany
open Go.RowKit
variable {w w' W V : World}

theorem own_of_new {w : World} {base : Nat} {T : TypeId} {l : List Value} (hb : base ≤ w.heap.size) (hl : l.length ≤ 1000) : (w.alloc (.cells l.toArray T (0, 0))).ownsRow base T 1 (.slice (some ⟨w.heap.size, 0, none⟩) l.length l.length) l.length l :=
  ⟨by rw [Nat.mul_one], .inr ⟨w.heap.size, l.length, l.toArray, rfl, hb, heap_alloc_new w _, Nat.le_refl _, by unfold maxLen; omega, by simp, by simp⟩⟩
def nm3 (n : Nat) : List Int := [97 + (n % 26 : Nat), 97 + (n / 26 % 26 : Nat), 97 + (n / 676 % 26 : Nat)]
def exN (n : Nat) : List Int × Ex := (nm3 n, ⟨2, false, n, 0, 0, []⟩)
def exsN (k : Nat) : Out := (List.range k).map exN
theorem exsN_len (k : Nat) : (exsN k).length = k := by simp [exsN]
theorem exsN_succ (k : Nat) : exsN (k + 1) = exsN k ++ [exN k] := by simp [exsN, List.range_succ]
theorem nm3_byt (n : Nat) : Byt (nm3 n) := by
  intro x hx
  simp only [nm3, List.mem_cons, List.not_mem_nil, or_false] at hx
  have h1 : n % 26 < 26 := Nat.mod_lt _ (by decide)
  have h2 : n / 26 % 26 < 26 := Nat.mod_lt _ (by decide)
  have h3 : n / 676 % 26 < 26 := Nat.mod_lt _ (by decide)
  rcases hx with rfl | rfl | rfl <;> omega
theorem exsN_fit {k : Nat} (hk : k ≤ 5000) : ExsFit (exsN k) := by
  have h : ∀ y ∈ exsN k, ∃ n, n < k ∧ y = exN n := fun y hy => by
    unfold exsN at hy
    obtain ⟨n, hn, rfl⟩ := List.mem_map.1 hy
    exact ⟨n, List.mem_range.1 hn, rfl⟩
  refine ⟨?_, ?_, ?_, ?_, ?_⟩ <;> (intro y hy; obtain ⟨n, hn, rfl⟩ := h y hy; simp only [exN])
  · exact nm3_byt n
  · intro x hx; cases hx
  · omega
  · omega
  · omega
theorem exsN_lens (k : Nat) : ∀ y ∈ exsN k, y.1.length ≤ 9223372036854775807 ∧ y.2.other.length ≤ 9223372036854775807 := by
  intro y hy
  unfold exsN at hy
  obtain ⟨n, -, rfl⟩ := List.mem_map.1 hy
  simp [exN, nm3]
set_option maxRecDepth 20000 in
theorem name_any (n : Nat) (hn : n ≤ 5000) (w : World) : Calls Tryz.prog 7 #[.int .i64 n] w fun e w' => e = .returned (.string (strOfNums (nm3 n))) ∧ w.grownBy w' none := by
  obtain ⟨b0, hb0⟩ : ∃ b0 : Nat, b0 = n / 26 := ⟨_, rfl⟩
  obtain ⟨c0, hc0⟩ : ∃ c0 : Nat, c0 = n / 676 := ⟨_, rfl⟩
  obtain ⟨a, ha⟩ : ∃ a : Nat, a = n % 26 := ⟨_, rfl⟩
  obtain ⟨b, hb⟩ : ∃ b : Nat, b = b0 % 26 := ⟨_, rfl⟩
  obtain ⟨c, hc⟩ : ∃ c : Nat, c = c0 % 26 := ⟨_, rfl⟩
  have e3 : nm3 n = [97 + (a : Int), 97 + (b : Int), 97 + (c : Int)] := by unfold nm3; rw [← ha, ← hb0, ← hc0, ← hb, ← hc]
  rw [e3]
  have g1 := grown1 w (.cells #[.int .u8 (97 + (a : Int)), .int .u8 (97 + (b : Int)), .int .u8 (97 + (c : Int))] 5)
  have IB : IsBytes (w.alloc (.cells #[.int .u8 (97 + (a : Int)), .int .u8 (97 + (b : Int)), .int .u8 (97 + (c : Int))] 5)) (some ⟨w.heap.size, 0, none⟩) 3 [97 + (a : Int), 97 + (b : Int), 97 + (c : Int)] := by
    refine IsBytes.mk_at fun i hi => ?_
    rw [cell_of (heap_alloc_new w _), Nat.zero_add]
    have h3 : i < 3 := hi
    match i, h3 with
    | 0, _ => rfl
    | 1, _ => rfl
    | 2, _ => rfl
  have cv := IB.text (n := 3) rfl
  have h1 : a < 26 := by omega
  have h2 : b < 26 := by omega
  have h3 : c < 26 := by omega
  have t1 : (n : Int).tmod 26 = (a : Int) := by rw [Int.tmod_eq_emod_of_nonneg (by omega)]; omega
  have t2 : (n : Int).tdiv 26 = (b0 : Int) := by rw [Int.tdiv_eq_ediv_of_nonneg (by omega)]; omega
  have t3 : (b0 : Int).tmod 26 = (b : Int) := by rw [Int.tmod_eq_emod_of_nonneg (by omega)]; omega
  have t4 : (n : Int).tdiv 676 = (c0 : Int) := by rw [Int.tdiv_eq_ediv_of_nonneg (by omega)]; omega
  have t5 : (c0 : Int).tmod 26 = (c : Int) := by rw [Int.tmod_eq_emod_of_nonneg (by omega)]; omega
  have q1 : (n : Int) % 26 = (a : Int) := by omega
  have q2 : (n : Int) / 26 = (b0 : Int) := by omega
  have q3 : (b0 : Int) % 26 = (b : Int) := by omega
  have q4 : (n : Int) / 676 = (c0 : Int) := by omega
  have q5 : (c0 : Int) % 26 = (c : Int) := by omega
  have hb00 : b0 ≤ 5000 := by omega
  have hc00 : c0 ≤ 5000 := by omega
  obtain ⟨S, hS⟩ : ∃ S, S = strOfNums [97 + (a : Int), 97 + (b : Int), 97 + (c : Int)] := ⟨_, rfl⟩
  rw [← hS] at cv ⊢
  have G := Lib.hid g1
  clear hS IB ha hb hc hb0 hc0 e3 g1
  go_enter Tryz.func7, Tryz.ntmps7
  go_wp2
  go_ret
  exact ⟨rfl, G.out⟩
structure TmL (w wr : World) (many : Nat) (v5 v6 : Value) : Prop where
  ex : ∃ k q c, k ≤ many ∧ v5 = .slice q k c ∧ v6 = .int .i64 (k : Int) ∧ wr.ownsRow w.heap.size 28 7 (.slice q k c) k ((exsN k).flatMap outCs)
  grown : w.grownBy wr none
structure TmB (w wr : World) (most : Nat) (v : Value) : Prop where
  ex : ∃ xs q c, v = .slice q xs.length c ∧ Byt xs ∧ xs.length ≤ most ∧ wr.ownsRow w.heap.size 5 1 (.slice q xs.length c) xs.length (xs.map (Value.int .u8))
  grown : w.grownBy wr none
structure TmO (w wr : World) (v13 v15 : Value) : Prop where
  ex : ∃ i : Nat, i ≤ 3 ∧ v15 = .int .i64 (i : Int) ∧ TmB w wr (i * 900) v13
structure TmI (w wr : World) (i wide : Nat) (v13 v16 : Value) : Prop where
  ex : ∃ k : Nat, k ≤ wide ∧ v16 = .int .i64 (k : Int) ∧ TmB w wr (i * 900 + 2 + k * 4) v13
set_option maxHeartbeats 6400000 in
set_option maxRecDepth 20000 in
theorem walk (many wide : Int) (w : World) (hm : (Lit.int .i64 many).wf = true) (hw : (Lit.int .i64 wide).wf = true) :
    Calls Tryz.prog 3 #[.int .i64 many, .int .i64 wide] w fun e w' => e = .returned (.bool true) ∧ Below w.heap.size w w' := by
  have K := Lib.hid (fun w : World => known9_any w)
  have BL := Lib.hid (fun (w' : World) (h : w.grownBy w' none) => (below_grown h (Nat.le_refl _) (fun k e => by cases e) : Below w.heap.size w w'))
  by_cases h1 : many < 4090
  · have d1 : decide (many < 4090) = true := by simpa using h1
    clear hm hw
    go_enter Tryz.func3, Tryz.ntmps3
    go_wp2_with fail
    refine (K.out _).mono ?_
    rintro e w' ⟨rfl, hg⟩
    have B := Lib.hid (BL.out _ hg)
    clear hg
    go_wp2
    go_ret
    exact ⟨rfl, B.out⟩
  have d1 : decide (many < 4090) = false := by simpa using h1
  by_cases h2 : 4100 < many
  · have d2 : decide (4100 < many) = true := by simpa using h2
    clear hm hw
    go_enter Tryz.func3, Tryz.ntmps3
    go_wp2_with fail
    refine (K.out _).mono ?_
    rintro e w' ⟨rfl, hg⟩
    have B := Lib.hid (BL.out _ hg)
    clear hg
    go_wp2
    go_ret
    exact ⟨rfl, B.out⟩
  have d2 : decide (4100 < many) = false := by simpa using h2
  by_cases h3 : wide < 1
  · have d3 : decide (wide < 1) = true := by simpa using h3
    clear hm hw
    go_enter Tryz.func3, Tryz.ntmps3
    go_wp2_with fail
    refine (K.out _).mono ?_
    rintro e w' ⟨rfl, hg⟩
    have B := Lib.hid (BL.out _ hg)
    clear hg
    go_wp2
    go_ret
    exact ⟨rfl, B.out⟩
  have d3 : decide (wide < 1) = false := by simpa using h3
  by_cases h4 : 200 < wide
  · have d4 : decide (200 < wide) = true := by simpa using h4
    clear hm hw
    go_enter Tryz.func3, Tryz.ntmps3
    go_wp2_with fail
    refine (K.out _).mono ?_
    rintro e w' ⟨rfl, hg⟩
    have B := Lib.hid (BL.out _ hg)
    clear hg
    go_wp2
    go_ret
    exact ⟨rfl, B.out⟩
  have d4 : decide (200 < wide) = false := by simpa using h4
  obtain ⟨M, rfl⟩ : ∃ M : Nat, many = (M : Int) := ⟨many.toNat, by omega⟩
  obtain ⟨N, rfl⟩ : ∃ N : Nat, wide = (N : Int) := ⟨wide.toNat, by omega⟩
  have hM : M ≤ 4100 := by omega
  have hM0 : 4090 ≤ M := by omega
  have hN : 1 ≤ N ∧ N ≤ 200 := by omega
  clear hm hw h1 h2 h3 h4
  go_enter Tryz.func3, Tryz.ntmps3
  go_upto_region 5 with fail
  clear d1 d2 d3 d4
  go_loopw [5, 6] (fun v5 v6 wr => TmL w wr M v5 v6) (fun _ v6 _ => M - (intOf v6).toNat)
  case atStart => exact ⟨⟨0, none, 0, Nat.zero_le _, rfl, rfl, World.ownsRow_nil _ _ _ _⟩, grown_refl _ _⟩
  case round =>
    obtain ⟨⟨k, q, c, hk, rfl, rfl, ho⟩, hg⟩ := hrel
    have G := Lib.hid hg
    have O := Lib.hid ho
    clear hg ho
    by_cases hlt : k < M
    · have dk : decide ((k : Int) < (M : Int)) = true := by simp; omega
      have hkm : (k : Int) < (M : Int) := by omega
      have NA := Lib.hid (fun V => name_any k (by omega) V)
      go_wp2_with fail
      refine (NA.out _).mono ?_
      rintro e w2 ⟨rfl, hg2⟩
      have G2 := Lib.hid (grown_trans G.out hg2)
      have O2 := Lib.hid (own_grown O.out hg2)
      obtain ⟨S, hS⟩ : ∃ S, S = strOfNums (nm3 k) := ⟨_, rfl⟩
      rw [← hS]
      have HS := Lib.hid hS
      clear hg2 hS NA
      have g3 := grown1 w2 (.cells #[.string S, .int .i64 2, .bool false, .int .u64 (k : Int), .int .u64 0, .int .u64 0, .string ⟨#[]⟩] 28)
      have N3 := Lib.hid (show (w2.alloc (.cells #[.string S, .int .i64 2, .bool false, .int .u64 (k : Int), .int .u64 0, .int .u64 0, .string ⟨#[]⟩] 28)).heap[w2.heap.size]? = some (.cells [.string S, .int .i64 2, .bool false, .int .u64 (k : Int), .int .u64 0, .int .u64 0, .string ⟨#[]⟩].toArray 28 (0, 0)) from heap_alloc_new w2 _)
      have O3 := Lib.hid (own_grown O2.out g3)
      have G3 := Lib.hid (grown_trans G2.out g3)
      clear g3 O2 G2 O G
      go_wp2_with (at_builtin; refine wp_append_sta exType rfl _ _ rfl _ k _ rfl O3.out [.string S, .int .i64 2, .bool false, .int .u64 (k : Int), .int .u64 0, .int .u64 0, .string ⟨#[]⟩] rfl w2.heap.size rfl N3.out (exCs_one S ⟨2, false, k, 0, 0, []⟩) (by omega) (by decide) G3.out.size ?_)
      intro v4 w4 ho4 hg4 hv4
      obtain ⟨q4, c4, rfl⟩ := own_slice ho4
      have FO := Lib.hid (show w4.ownsRow w.heap.size 28 7 (.slice q4 (k + 1) c4) (k + 1) ((exsN (k + 1)).flatMap outCs) from by
        have e : (exsN (k + 1)).flatMap outCs = (exsN k).flatMap outCs ++ [.string S, .int .i64 2, .bool false, .int .u64 (k : Int), .int .u64 0, .int .u64 0, .string ⟨#[]⟩] := by
          rw [exsN_succ, List.flatMap_append, HS.out]
          rfl
        rw [e]; exact ho4)
      have FG := Lib.hid (grown_opt G3.out hg4 (fun g e => (O3.out.lt g e).1))
      clear ho4 hg4 hv4 O3 N3 G3
      go_wp2
      go_roundw
      case rel => exact ⟨⟨k + 1, q4, c4, hlt, rfl, by go_num, FO.out⟩, FG.out⟩
      case measure => simp [intOf]; omega
    · obtain rfl : k = M := by omega
      have dk : decide ((k : Int) < (k : Int)) = false := by simp
      have HX := Lib.hid ((RowEx.of O.out).exs)
      have HC := Lib.hid (And.intro (own_room8 O.out) (own_max O.out))
      have MK := Lib.hid (make_any (exsN_len k) (exsN_fit (by omega)) (by omega) (exsN_lens k) (c := c) HX.out)
      have RK := Lib.hid (fun (V : World) (h : wr.grownBy V none) => refMake_any (w := V) (exsN_len k) (exsN_fit (by omega)) (by omega) (exsN_lens k) HC.out.1 HC.out.2 (HX.out.grown h))
      clear hlt O
      go_wp2_with fail
      refine MK.out.mono ?_
      rintro e w2 ⟨⟨E, B, q2, c2, rfl, hmk, hob⟩, hg⟩
      have G2 := Lib.hid (grown_trans G.out hg)
      have R2 := Lib.hid (RK.out w2 hg)
      have MI := Lib.hid hmk
      have OB := Lib.hid hob
      obtain ⟨nb, hnb⟩ : ∃ n, n = B.length := ⟨_, rfl⟩
      rw [← hnb] at OB ⊢
      have HNB := Lib.hid hnb
      clear hg hmk hob hnb MK RK G HX HC
      go_wp2_with fail
      refine R2.out.mono ?_
      rintro e w3 ⟨⟨F, C, q3, c3, rfl, hmk, hob⟩, hg⟩
      obtain ⟨rfl, rfl⟩ := MI.out.one hmk
      have G3 := Lib.hid (grown_trans G2.out hg)
      have O3 := Lib.hid (own_grown OB.out hg)
      obtain ⟨n3, hn3⟩ : ∃ n, n = B.length := ⟨_, rfl⟩
      rw [← hn3]
      clear hg hmk hob R2 G2 OB hn3
      have LB := Lib.hid (fun (hE : E = 0) => mk_len (show MkIs (exsN k) 0 B from hE ▸ MI.out))
      have YB := Lib.hid (fun (hE : E = 0) => byt_made (show MkIs (exsN k) 0 B from hE ▸ MI.out) (exsN_fit (by omega)))
      have LN := Lib.hid (fun (hE : E = 0) => (show ∃ R : Out, R.length = k ∧ allN B = (R, 0) from by
        obtain ⟨R, hp, -, ha⟩ := mkIs_all (show MkIs (exsN k) 0 B from hE ▸ MI.out) (exsN_fit (by omega)) (fun e => by have := congrArg List.length e; rw [exsN_len] at this; simp at this; omega)
        exact ⟨R, hp.length_eq.trans (exsN_len k), ha⟩))
      go_upto_if 63 with fail
      go_cut [11, 12] from 64 to 76 (fun _ _ wx => w3.grownBy wx none)
      case first =>
        by_cases hE : E = 0
        · subst hE
          obtain ⟨R, hRk, hall⟩ := LN.out rfl
          have hlb := LB.out rfl
          have AL := Lib.hid (All_any (w := w3) (n := nb) (c := c2) (IsBytes.of_own HNB.out.symm O3.out) HNB.out.symm (YB.out rfl) (own_room8 O3.out) (own_max O3.out) (by have := HNB.out; omega))
          have HA := Lib.hid hall
          have RK := Lib.hid hRk
          clear hRk hall hlb
          go_wp2_with fail
          refine AL.out.mono ?_
          rintro e w4 ⟨⟨D, qa, ca, rfl, hD, hR, hP, hlc, hc63⟩, hg⟩
          rw [HA.out] at hP ⊢
          simp only [] at hP ⊢
          have hDk : D.length = k := hP.length_eq.trans RK.out
          rw [hDk]
          have dk2 : ((k : Int) != (k : Int)) = false := by simp
          have G4 := Lib.hid hg
          clear hD hR hP hlc hc63 hg hDk AL
          go_wp2_with fail
          go_meet
          exact G4.out
        · have dE : (E == 0) = false := by simpa using hE
          go_wp2_with fail
          go_meet
          exact grown_refl _ _
      case rest =>
        have G4 := Lib.hid (grown_trans G3.out hcut)
        clear hcut LB YB LN MI O3 G3 HNB
        obtain ⟨w4, hw4⟩ : ∃ W, W = wc := ⟨_, rfl⟩
        subst hw4
        go_upto_region 19 with fail
        go_loopw [13, 15] (fun v13 v15 wx => TmO w wx v13 v15) (fun _ v15 _ => 3 - (intOf v15).toNat)
        case atStart => exact ⟨⟨0, by decide, rfl, ⟨⟨[], none, 0, rfl, (fun x hx => by cases hx), Nat.zero_le _, World.ownsRow_nil _ _ _ _⟩, G4.out⟩⟩⟩
        case round =>
          obtain ⟨⟨i, hi, rfl, ⟨⟨xs, q, c, rfl, hb, hl, ho⟩, hg⟩⟩⟩ := hrel
          obtain ⟨n, hn⟩ : ∃ n, n = xs.length := ⟨_, rfl⟩
          rw [← hn] at hl ho ⊢
          have hl3 : n ≤ 2700 := by omega
          by_cases hlt : i < 3
          · have di : decide ((i : Int) < 3) = true := by simp; omega
            have di2 : (i : Int) < 3 := by omega
            obtain ⟨X, hX⟩ : ∃ X : Nat, X = n + 2 + N * 4 := ⟨_, rfl⟩
            have hXb : X ≤ 3600 := by omega
            have hX2 : (n : Int) + 2 + (N : Int) * 4 = (X : Int) := by omega
            have g3 := grown1 wr (.cells #[.int .u8 0, .int .u8 (N : Int)] 5)
            have OA := Lib.hid (own_grown ho g3)
            have OB := Lib.hid (IsBytes.of_own (ys := [0, (N : Int)]) rfl (own_of_new (w := wr) (base := 0) (T := 5) (l := [.int .u8 0, .int .u8 (N : Int)]) (Nat.zero_le _) (by simp)))
            have GA := Lib.hid (grown_trans hg g3)
            have HB := Lib.hid hb
            have HNX := Lib.hid hn
            clear g3 ho hg hb hn
            have r1 : IntKind.i64.wrap ((n : Int) + 2) = (n : Int) + 2 := IntWalk.i64_in _ (by omega)
            have r2 : IntKind.i64.wrap ((N : Int) * 4) = (N : Int) * 4 := IntWalk.i64_in _ (by omega)
            have r3 : IntKind.i64.wrap ((n : Int) + 2 + (N : Int) * 4) = (X : Int) := by rw [hX2]; exact IntWalk.i64_in _ (by omega)
            clear hX hX2
            go_upto_region 22 with fail
            go_wp2_with (at_builtin; refine wp_append_at rfl _ _ rfl rfl _ n _ rfl OA.out [0, (N : Int)] 2 rfl rfl OB.out (by omega) (GA.out.size) ?_)
            intro v3 w3' ho3 hg3 hv3
            obtain ⟨q3, c3, rfl⟩ := own_slice ho3
            have I0 := Lib.hid (show TmI w w3' i N (.slice q3 (n + 2) c3) (.int .i64 0) from ⟨⟨0, Nat.zero_le _, rfl, ⟨⟨xs ++ [0, (N : Int)], q3, c3, by rw [List.length_append, ← HNX.out]; rfl, byt_app HB.out (fun x hx => by simp at hx; omega), by rw [List.length_append, ← HNX.out]; simp; omega, by
              have e : (xs ++ [0, (N : Int)]).length = n + 2 := by rw [List.length_append, ← HNX.out]; rfl
              rw [e, List.map_append]; exact ho3⟩, grown_opt GA.out hg3 (fun g e => (OA.out.lt g e).1)⟩⟩⟩)
            clear ho3 hg3 hv3 OA OB GA HB HNX
            go_upto_region 24 with fail
            go_loopw [13, 16] (fun v13 v16 wx => TmI w wx i N v13 v16) (fun _ v16 _ => N - (intOf v16).toNat)
            case atStart => exact I0.out
            case round =>
              obtain ⟨⟨j, hj, rfl, ⟨⟨ys, q4, c4, rfl, hb, hl4, ho⟩, hg⟩⟩⟩ := hrel
              obtain ⟨m, hm⟩ : ∃ n, n = ys.length := ⟨_, rfl⟩
              rw [← hm] at hl4 ho ⊢
              by_cases hjl : j < N
              · have dj : decide ((j : Int) < (N : Int)) = true := by simp; omega
                have dj2 : (j : Int) < (N : Int) := by omega
                have g3 := grown1 wr (.cells #[.int .u8 (1 + (j : Int)), .int .u8 0, .int .u8 ((X : Int) % 128 + 128), .int .u8 ((X : Int) / 128)] 5)
                have OA := Lib.hid (own_grown ho g3)
                have OB := Lib.hid (IsBytes.of_own (ys := [1 + (j : Int), 0, (X : Int) % 128 + 128, (X : Int) / 128]) rfl (own_of_new (w := wr) (base := 0) (T := 5) (l := [.int .u8 (1 + (j : Int)), .int .u8 0, .int .u8 ((X : Int) % 128 + 128), .int .u8 ((X : Int) / 128)]) (Nat.zero_le _) (by simp)))
                have GA := Lib.hid (grown_trans hg g3)
                have HB := Lib.hid hb
                have HNX := Lib.hid hm
                clear g3 ho hg hb hm
                go_wp2_with (at_builtin; refine wp_append_at rfl _ _ rfl rfl _ m _ rfl OA.out [1 + (j : Int), 0, (X : Int) % 128 + 128, (X : Int) / 128] 4 rfl rfl OB.out (by omega) (GA.out.size) ?_)
                intro v5 w5 ho5 hg5 hv5
                obtain ⟨q5, c5, rfl⟩ := own_slice ho5
                have I1 := Lib.hid (show TmB w w5 (i * 900 + 2 + (j + 1) * 4) (.slice q5 (m + 4) c5) from ⟨⟨ys ++ [1 + (j : Int), 0, (X : Int) % 128 + 128, (X : Int) / 128], q5, c5, by rw [List.length_append, ← HNX.out]; rfl, byt_app HB.out (fun x hx => by
                  simp only [List.mem_cons, List.not_mem_nil, or_false] at hx
                  rcases hx with rfl | rfl | rfl | rfl <;> omega), by rw [List.length_append, ← HNX.out]; simp; omega, by
                  have e : (ys ++ [1 + (j : Int), 0, (X : Int) % 128 + 128, (X : Int) / 128]).length = m + 4 := by rw [List.length_append, ← HNX.out]; rfl
                  rw [e, List.map_append]; exact ho5⟩, grown_opt GA.out hg5 (fun g e => (OA.out.lt g e).1)⟩)
                clear ho5 hg5 hv5 OA OB GA HB HNX
                go_wp2
                go_roundw
                case rel => exact ⟨⟨j + 1, hjl, by go_num, I1.out⟩⟩
                case measure => simp [intOf]; omega
              · obtain rfl : j = N := by omega
                have dj : decide ((j : Int) < (j : Int)) = false := by simp
                have I2 := Lib.hid (show TmB w wr ((i + 1) * 900) (.slice q4 m c4) from ⟨⟨ys, q4, c4, by rw [hm], hb, by omega, by rw [← hm]; exact ho⟩, hg⟩)
                clear hb ho hg hm
                go_wp2
                go_roundw
                case rel => exact ⟨⟨i + 1, hlt, by go_num, I2.out⟩⟩
                case measure => simp [intOf]; omega
          · obtain rfl : i = 3 := by omega
            have di : decide (((3 : Nat) : Int) < 3) = false := by decide
            have g3 := grown1 wr (.cells #[.int .u8 2, .int .u8 0, .int .u8 9, .int .u8 0] 5)
            have OA := Lib.hid (own_grown ho g3)
            have OB := Lib.hid (IsBytes.of_own (ys := [2, 0, 9, 0]) rfl (own_of_new (w := wr) (base := 0) (T := 5) (l := [.int .u8 2, .int .u8 0, .int .u8 9, .int .u8 0]) (Nat.zero_le _) (by decide)))
            have GA := Lib.hid (grown_trans hg g3)
            have HB := Lib.hid hb
            have HNX := Lib.hid hn
            clear g3 ho hg hb hn
            go_wp2_with (at_builtin; refine wp_append_at rfl _ _ rfl rfl _ n _ rfl OA.out [2, 0, 9, 0] 4 rfl rfl OB.out (by omega) (GA.out.size) ?_)
            intro v5 w5 ho5 hg5 hv5
            obtain ⟨q5, c5, rfl⟩ := own_slice ho5
            have e5 : (xs ++ [2, 0, 9, 0]).length = n + 4 := by rw [List.length_append, ← HNX.out]; rfl
            have IO := Lib.hid (IsBytes.of_own (ys := xs ++ [2, 0, 9, 0]) e5 (by rw [List.map_append]; exact ho5))
            have G5 := Lib.hid (grown_opt GA.out hg5 (fun g e => (OA.out.lt g e).1))
            have HC := Lib.hid (And.intro e5 (And.intro (own_room8 ho5) (own_max ho5)))
            have HY := Lib.hid (byt_app HB.out (fun x hx => by simp at hx; omega) : Byt (xs ++ [2, 0, 9, 0]))
            obtain ⟨bs, hbs⟩ : ∃ b, b = xs ++ [2, 0, 9, 0] := ⟨_, rfl⟩
            rw [← hbs] at IO HC HY
            clear ho5 hg5 hv5 OA OB GA HB HNX e5 hbs
            obtain ⟨n5, hn5⟩ : ∃ k, k = n + 4 := ⟨_, rfl⟩
            rw [← hn5] at HC ⊢
            have hn5b : n5 ≤ 3000 := by omega
            clear hn5
            have AL := Lib.hid (All_any (w := w5) IO.out HC.out.1 HY.out HC.out.2.1 HC.out.2.2 (by omega))
            have RA := Lib.hid (fun (W : World) (h : w5.grownBy W none) => refAll_any (w := W) (IO.out.kept h (by simp)) HC.out.1 HY.out HC.out.2.1 HC.out.2.2 (by omega))
            go_wp2_with fail
            refine AL.out.mono ?_
            rintro e w11 ⟨⟨D, qa, ca, rfl, hD, hR, hP, hlc, hc63⟩, hg⟩
            have GA := Lib.hid (grown_trans G5.out hg)
            have GO := Lib.hid hg
            have RD := Lib.hid hD
            have RI := Lib.hid (And.intro hR hP)
            have DL := Lib.hid (And.intro hlc hc63)
            clear hD hR hP hlc hc63 hg AL
            go_wp2_with fail
            refine (RA.out w11 GO.out).mono ?_
            rintro e w12 ⟨⟨E2, qb, cb, rfl, hD, hR, hP, -, -⟩, hg⟩
            obtain rfl : D = E2 := all_one HY.out RI.out.1 RI.out.2 hR hP
            have GA2 := Lib.hid (grown_trans GA.out hg)
            have SM := Lib.hid (same9_any D D.length rfl qa qb ca cb (by have := DL.out; omega) (RD.out.grown hg) hD)
            clear hD hR hP hg RA RD RI GA GO
            obtain ⟨er, her⟩ : ∃ er, er = (allN bs).2 := ⟨_, rfl⟩
            rw [← her]
            clear her
            obtain ⟨dn, hdn⟩ : ∃ dn, dn = D.length := ⟨_, rfl⟩
            rw [← hdn] at SM
            rw [← hdn]
            clear hdn
            go_wp2_with fail
            refine SM.out.mono ?_
            rintro e w13 ⟨rfl, hg⟩
            have GA3 := Lib.hid (grown_trans GA2.out hg)
            clear hg SM GA2
            go_wp2_with fail
            refine (K.out _).mono ?_
            rintro e w18 ⟨rfl, hg⟩
            have B18 := Lib.hid (BL.out _ (grown_trans GA3.out hg))
            clear hg
            go_wp2
            go_ret
            exact ⟨rfl, B18.out⟩
end Go.Proofs.YtbnnlbdjjpmgeaaGreat.trieMany


/- 'TrieMany': for every input the call returns true, and what was handed in reads as it did. The form's own reach is the one condition. -/
namespace Go.Proofs.YtbnnlbdjjpmgeaaGreat.trieMany
open Go.ChangeShapes Go.WideShapes Go.ChangeAt Go.RowKit
open Go.ChangeMaps (open_string shut_string)

theorem own : ownKnob Tryz.prog.godebug = none := by kernel_rfl
theorem laidOut : laidOutB Tryz.prog = true := by kernel_rfl

set_option maxRecDepth 100000 in
theorem lifted (os : Os) (started : os.Started) (H : Type) (enc : TypeId × Value → H) :
    ReturnsInHanded {} Tryz.checked os 3 .any (Rows.trieManySpec.pre6 enc Tryz.prog Tryz.f3 Rows.trieManyRow.domain false) (Rows.trieManySpec.post enc Tryz.prog Tryz.f3 false true false false) := by
  refine returnsInHanded_of_change (C := Tryz.checked) own started (by kernel_rfl) Tryz.func3
    (ChangeSpec.witness6 (enc := enc) (C := Tryz.checked) false ⟨#[], #[.int .i64 0, .int .i64 0], []⟩ 8 (by kernel_rfl) (by kernel_rfl) (by kernel_rfl) (by kernel_rfl)) ?_
  intro W base args ds gs before hval0 hW hcnd _
  have hval : ∀ (j : Nat) t v, Tryz.f3.params[j]? = some t → args[j]? = some v → Value.okWide Tryz.prog W .any base t v := hval0
  have hW' := hW
  obtain ⟨p, q, hA0, hV, rfl, hfz, hnd⟩ := hW
  have hA : DataW.TrodAll enc Tryz.prog W 0 (fun _ => true) true Tryz.f3.params.toList args.toList ds p := hA0
  rw [Tryz.params3] at hA hval
  obtain ⟨v0, vs0, d0, ds0, p0, q0, hargs, rfl, rfl, h0, r0⟩ := trodAll_cons hA
  obtain ⟨v1, vs1, d1, ds1, p1, q1, rfl, rfl, rfl, h1, r1⟩ := trodAll_cons r0
  obtain ⟨rfl, rfl, rfl⟩ := trodAll_nil r1
  obtain rfl : args = #[v0, v1] := by cases args; simp_all
  obtain ⟨rfl, rfl⟩ := trodVars_none hV
  obtain ⟨a0, rfl, rfl, rfl, w0⟩ := open_int Tryz.underlying3 (hval 0 3 v0 rfl rfl) h0
  obtain ⟨a1, rfl, rfl, rfl, w1⟩ := open_int Tryz.underlying3 (hval 1 3 v1 rfl rfl) h1
  clear hA0 hval0
  simp only [List.append_nil] at hW'
  refine (walk a0 a1 W w0 w1).mono fun e W' ⟨he, bel⟩ => ?_
  subst he
  exact ⟨_, rfl, _, _, _, [], _, [], hW', trodAll_mk1 (shut_bool Tryz.underlying4 _), (trodAll_cons_mk (shut_int Tryz.underlying3 w0) (trodAll_cons_mk (shut_int Tryz.underlying3 w1) trodAll_mk0)), rfl, bel.frame _, fun h => by cases h⟩

theorem proved : Rows.TrieManySaid :=
  OpenClaim.holds_of_wide 3 Tryz.f3 rfl rfl rfl rfl rfl rfl rfl ⟨rfl, rfl, rfl, rfl, rfl⟩ rfl rfl rfl rfl rfl (by kernel_rfl) Tryz.func3 (by kernel_rfl)
    (of_decide_eq_true (by kernel_rfl)) (by unfold Func.isWrapper; first | (rw [if_pos (by decide +kernel)]; kernel_rfl) | (rw [if_neg (by decide +kernel)]; exact ⟨rfl, rfl⟩))
    (fun os started H enc _ => lifted os started H enc)
end Go.Proofs.YtbnnlbdjjpmgeaaGreat.trieMany
