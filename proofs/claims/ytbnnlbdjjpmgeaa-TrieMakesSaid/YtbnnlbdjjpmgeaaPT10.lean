/- Parts of the proof, put together: RKn, MkSaid, RMs, RMt. No condition beyond those that each part names. -/
import Derived.Shelf.Small.Bits
import Derived.Shelf.Small.Strs
import Derived.Shelf.Strconv.Itoa0
import Derived.Shelf.Strings.Search1
import Derived.Shelf.Bytes.SlIndexAt
import Derived.Shelf.Bytes.SlSearch0
import Derived.Ground.SlbCloneProg
import Derived.Shelf.Bytes.SlClone
import Derived.Shelf.Bytes.IndexByte
import Derived.Test.YtbnnlbdjjpmgeaaProg
import Derived.Test.YtbnnlbdjjpmgeaaRows
import Derived.WalkKit
import Derived.WalkSpells
import Derived.WalkLawsBesides
import Derived.BigQuiet
import Derived.Deep.QuietTactic
import Derived.Lib.Hide
import Derived.IntWalk
import Derived.OneCell
import Derived.Laws.Rows
import Derived.OpenShut
import Derived.ProofKit
import Derived.Lib.EndianBits
import Derived.RegionTactic
import Derived.ChangeAlike
import Derived.WalkMore
import Derived.Laws.BytesArg
import Derived.Shelf.Bytes.SlEqualAll
import Derived.Lib.SlFresh
import Derived.Maps.AppendAt
import Derived.Deep.AppendSrc
import Derived.Deep.Upon
import Derived.Lib.AppendZeros
import Derived.Laws.IdiomStrings
import Derived.Lib.AppendZerosOnto
import Derived.Laws.StructEq
import Derived.Below
import Derived.Shelf.Abstract
import Derived.Laws.ResultCell
import Derived.Deep.Slices
import Derived.ChangeSame
import Derived.Laws.OwnMore
import Derived.Laws.Slices
import Derived.Lib.ConvBytes
import Derived.StringKeys
import Derived.Maps.Own
import Derived.Maps.OwnOps
import Derived.Maps.OwnSet
import Derived.WideShapes
import Derived.Deep.Cut
import Derived.Deep.CutRange
import Derived.PlainAid
import Derived.Lib.SlBytesRow
import Derived.Deep.Onto
import Derived.Laws.EntriesVeiled
import Derived.Shelf.SlSortCmp.WholeK
import Derived.Shelf.SlGeneric
import Derived.Ground.SlsfProg
import Derived.Deep.LoopGhost
import Derived.StillTailTactics
import Derived.Deep.RegionWith
import Derived.Deep.RegionHeld3
import Derived.Lib.SmallJoins
import Derived.Laws.Bits128
import Derived.RangeFuncNested
import Derived.RangeFuncBound
import Derived.RangeFuncCalls
import Derived.Shelf.RegionOpen
import Derived.OwnWalkIn
import Derived.TacticsInMore
import Derived.RangeFuncIn
import Derived.RangeFuncLeaves
import Derived.Maps.OwnIn
import Derived.Laws.MakeOwn
import Derived.Deep.RegionLaw
import Derived.BigRegion
import Derived.Test.YtbnnlbdjjpmgeaaPT5
import Derived.Test.YtbnnlbdjjpmgeaaPT7
import Derived.Test.YtbnnlbdjjpmgeaaPT8
import Derived.Test.YtbnnlbdjjpmgeaaPT9
namespace Go.Proofs.Ytbnnlbdjjpmgeaa
open Go.RowKit
variable {w w' W V : World}

def strCs (t : List Int) : List Value := [.string (strOfNums t)]
theorem strCs_len (t : List Int) : (strCs t).length = 1 := rfl
theorem strType : StType Try.prog 9 52 1 16 := .mk' Try.underlying52 (z := .string ⟨#[]⟩) (by kernel_rfl) rfl (by decide)
def StrAt (w : World) (q : Option Addr) (l : List (List Int)) : Prop := ∀ i t, l[i]? = some t → ∃ g, q = some ⟨g, 0, none⟩ ∧ w.cell? ⟨g, i, none⟩ = some (.string (strOfNums t))
theorem StrAt.of {lo n c : Nat} {q : Option Addr} {l : List (List Int)} (h : w.ownsRow lo 9 1 (.slice q n c) n (l.flatMap strCs)) : StrAt w q l := fun i x hx => by
  obtain ⟨g, e, h1⟩ := row_cell strCs_len h hx (j := 0) (by decide)
  rw [Nat.mul_one, Nat.add_zero] at h1
  exact ⟨g, e, h1⟩
theorem StrAt.grown {q : Option Addr} {l : List (List Int)} (h : StrAt w q l) (hg : w.grownBy w' none) : StrAt w' q l := fun i x hx => by
  obtain ⟨g, e, h1⟩ := h i x hx
  exact ⟨g, e, grown_cell hg h1⟩
def setO (N : List (List Int)) : Out := N.map fun t => (t, Ex.zero)
theorem setO_app (A B : List (List Int)) : setO (A ++ B) = setO A ++ setO B := List.map_append
theorem setO_len (A : List (List Int)) : (setO A).length = A.length := List.length_map _
structure KnL (w wr : World) (N : List (List Int)) (v3 : Value) : Prop where
  ex : ∃ q c, v3 = .slice q N.length c ∧ wr.ownsRow w.heap.size 38 7 (.slice q N.length c) N.length ((setO N).flatMap outCs)
  grown : w.grownBy wr none
theorem KnL.add {N : List (List Int)} {t : List Int} {v : Value} (h : W.grownBy V none) (hw : w.grownBy W none) (ho : V.ownsRow w.heap.size 38 7 v (N.length + 1) ((setO N).flatMap outCs ++ outCs (t, Ex.zero))) : KnL w V (N ++ [t]) v := by
  obtain ⟨q', c', rfl⟩ := own_slice ho
  refine ⟨⟨q', c', by rw [List.length_append]; rfl, ?_⟩, grown_trans hw h⟩
  rw [List.length_append, List.length_singleton, setO_app, List.flatMap_append]
  simpa [setO] using ho
structure KnI (w wr : World) (R : Out) (n : Nat) (v3 v4 : Value) : Prop where
  ex : ∃ k : Nat, k ≤ n ∧ v4 = .int .i64 (k : Int) ∧ KnL w wr (setK R k) v3
theorem strCs_one (t : List Int) : ∀ u ∈ strCs t, u.oneCell' = true := fun u hu => by rw [List.mem_singleton.1 hu]; rfl
structure KdI (w3 wr : World) (S : List (List Int)) (n : Nat) (v5 v6 : Value) : Prop where
  ex : ∃ (k : Nat) (O : List (List Int)) (q : Option Addr) (c : Nat), k ≤ n ∧ O.length ≤ k ∧ v6 = .int .i64 (k : Int) ∧ v5 = .slice q O.length c ∧ wr.ownsRow w3.heap.size 9 1 (.slice q O.length c) O.length (O.flatMap strCs) ∧ DdN S k O
  grown : w3.grownBy wr none
structure KnOut (w w' : World) (N : List (List Int)) (e : Ending) : Prop where
  ex : ∃ q c, e = .returned (.slice q N.length c) ∧ w'.ownsRow w.heap.size 9 1 (.slice q N.length c) N.length (N.flatMap strCs)
  grown : w.grownBy w' none
theorem setK_len (R : Out) : ∀ k, (setK R k).length ≤ 1 + 2 * k
  | 0 => by simp [setK]
  | k + 1 => by
    have := setK_len R k
    simp only [setK, List.length_append, List.length_cons]
    split <;> simp <;> omega
theorem setK_byt {R : Out} (hb : ∀ y ∈ R, Byt y.1) : ∀ k, ∀ t ∈ setK R k, Byt t
  | 0, t, h => by rw [List.mem_singleton.1 h]; exact fun x hx => by cases hx
  | k + 1, t, h => by
    have hat : ∀ i, Byt (R.getD i ([], Ex.zero)).1 := fun i => by
      rw [List.getD_eq_getElem?_getD]
      cases hi : R[i]? with
      | none => exact fun x hx => by cases hx
      | some y => exact hb y (List.mem_of_getElem? hi)
    simp only [setK] at h
    rcases List.mem_append.1 h with h | h
    · exact setK_byt hb k t h
    · rcases List.mem_cons.1 h with h | h
      · rw [h]; exact hat k
      · split at h
        · cases h
        · rw [List.mem_singleton.1 h]; exact (hat _).take _
set_option maxRecDepth 20000 in
set_option maxHeartbeats 6400000 in
theorem knots_any {R : Out} {n : Nat} (hn : R.length = n) (hfew : n ≤ 5000) (h0 : R ≠ []) (hu : Up R) (hb : ∀ y ∈ R, Byt y.1 ∧ y.1.length ≤ 255) {q : Option Addr} {c : Nat} (h : ExsAt w q R) :
    Calls Try.prog 22 #[.slice q n c] w fun e w' => KnOut w w' (namesA 257 R 0) e := by
  have HN := Lib.hid hn
  have HB := Lib.hid hb
  have HE := Lib.hid h
  have ALL := Lib.hid (fun (S O : List (List Int)) (h : DdN S S.length O) (hp : ∀ q, q ∈ S ↔ q ∈ setK R R.length) => h.all hp h0 hu (fun y hy => (hb y hy).2))
  clear hn hb h h0 hu
  have g1 := grown1 w (.cells #[.string ⟨#[]⟩, .int .i64 0, .bool false, .int .u64 0, .int .u64 0, .int .u64 0, .string ⟨#[]⟩] 38)
  have ST := Lib.hid (show KnI w (w.alloc (.cells #[.string ⟨#[]⟩, .int .i64 0, .bool false, .int .u64 0, .int .u64 0, .int .u64 0, .string ⟨#[]⟩] 38)) R n (.slice (some ⟨w.heap.size, 0, none⟩) 1 1) (.int .i64 0) from
    ⟨⟨0, Nat.zero_le _, rfl, ⟨⟨_, _, rfl, World.ownsRow_lit w #[.string ⟨#[]⟩, .int .i64 0, .bool false, .int .u64 0, .int .u64 0, .int .u64 0, .string ⟨#[]⟩] 1 (Nat.le_refl _) (by decide) rfl⟩, g1⟩⟩⟩)
  clear g1
  go_enter Try.func22, Try.ntmps22
  go_wp2
  go_loopw [3, 4] (fun v3 v4 wr => KnI w wr R n v3 v4) (fun _ v4 _ => n - (intOf v4).toNat)
  case atStart => exact ST.out
  case round =>
    obtain ⟨⟨k, hk, rfl, ⟨⟨q3, c3, rfl, ho⟩, hg⟩⟩⟩ := hrel
    have G := Lib.hid hg
    have SL := Lib.hid (setK_len R k)
    by_cases hlt : k < n
    · obtain ⟨y, hy⟩ : ∃ y, R[k]? = some y := ⟨_, List.getElem?_eq_getElem (by rw [HN.out]; exact hlt)⟩
      obtain ⟨ga, oa, rfl, k0⟩ := (HE.out.grown hg).name hy
      have YB := Lib.hid (HB.out y (List.mem_of_getElem? hy))
      have SK := Lib.hid (show setK R (k + 1) = (setK R k ++ [y.1]) ++ (if k = 0 then [] else [(R.getD (k - 1) ([], Ex.zero)).1.take (lcpN (R.getD (k - 1) ([], Ex.zero)).1 y.1)]) from by
        have e : R.getD k ([], Ex.zero) = y := by rw [List.getD_eq_getElem?_getD, hy]; rfl
        simp only [setK]
        rw [e, List.append_assoc]
        rfl)
      have PV := Lib.hid (fun (h : 0 < k) => (by
        have hk1 : k - 1 < R.length := by rw [HN.out]; omega
        refine ⟨R[k - 1], List.getElem?_eq_getElem hk1, ?_⟩
        rw [List.getD_eq_getElem?_getD, List.getElem?_eq_getElem hk1]; rfl : ∃ z, R[k - 1]? = some z ∧ R.getD (k - 1) ([], Ex.zero) = z))
      obtain ⟨M, hM⟩ : ∃ M, M = setK R k := ⟨_, rfl⟩
      rw [← hM] at ho SL SK
      obtain ⟨m, hm⟩ : ∃ m, m = M.length := ⟨_, rfl⟩
      rw [← hM, ← hm]
      rw [← hm] at ho
      have HM := Lib.hid hm
      have hml : m ≤ 10001 := by rw [hm]; have := SL.out; omega
      have g2 := grown1 wr (.cells #[.string (strOfNums y.1), .int .i64 0, .bool false, .int .u64 0, .int .u64 0, .int .u64 0, .string ⟨#[]⟩] 38)
      have O2 := Lib.hid (own_grown ho g2)
      have N2 := Lib.hid (heap_alloc_new wr (.cells #[.string (strOfNums y.1), .int .i64 0, .bool false, .int .u64 0, .int .u64 0, .int .u64 0, .string ⟨#[]⟩] 38))
      have G2 := Lib.hid (grown_trans hg g2)
      have dl : decide ((k : Int) < (n : Int)) = true := by simp; omega
      have hkI : (k : Int) < (n : Int) := by omega
      have HY := Lib.hid hy
      clear g2 ho hg hM hm hy
      go_wp2_with (at_builtin; refine wp_append_sta exType rfl _ _ rfl _ m _ rfl O2.out [.string (strOfNums y.1), .int .i64 0, .bool false, .int .u64 0, .int .u64 0, .int .u64 0, .string ⟨#[]⟩] rfl wr.heap.size rfl N2.out (exCs_one (strOfNums y.1) Ex.zero) (by omega) (by decide) G2.out.size ?_)
      intro v' w3 ho3 hg3 hv3
      have G3 := Lib.hid (grown_opt G2.out hg3 (fun g e => (O2.out.lt g e).1))
      obtain ⟨q4, c4, rfl⟩ := own_slice ho3
      have K3 := Lib.hid (show KnL w w3 (M ++ [y.1]) (.slice q4 (m + 1) c4) from KnL.add (grown_refl w3 none) G3.out (by rw [← HM.out]; exact ho3))
      clear ho3 hg3 hv3 O2 N2 G2
      by_cases hk0 : k = 0
      · subst hk0
        go_wp2
        go_roundw
        case rel => exact ⟨⟨1, hlt, by go_num, by have h := SK.out; rw [if_pos rfl, List.append_nil] at h; rw [h]; exact K3.out⟩⟩
        case measure => simp [intOf]; omega
      · obtain ⟨z, hz, hzd⟩ := PV.out (by omega)
        obtain ⟨K, rfl⟩ : ∃ K, k = K + 1 := ⟨k - 1, by omega⟩
        rw [Nat.add_sub_cancel] at hz hzd
        obtain ⟨g', o', e', j0⟩ := (HE.out.grown G3.out).name HY.out
        injection e' with e'
        injection e' with e1 e2 _
        subst e1 e2
        obtain ⟨g', o', e', j1⟩ := (HE.out.grown G3.out).name hz
        injection e' with e'
        injection e' with e1 e2 _
        subst e1 e2
        have BZ := HB.out z (List.mem_of_getElem? hz)
        have SH := Lib.hid (fun (V : World) => share_any z.1 y.1 BZ.1 YB.out.1 (by have := YB.out.2; omega) V)
        have SK2 := Lib.hid (show setK R (K + 1 + 1) = (M ++ [y.1]) ++ [z.1.take (lcpN z.1 y.1)] from by
          have h := SK.out
          rw [if_neg (by omega), Nat.add_sub_cancel, hzd] at h
          exact h)
        obtain ⟨T, hT⟩ : ∃ T, T = z.1.take (lcpN z.1 y.1) := ⟨_, rfl⟩
        rw [← hT] at SH SK2
        have dk : decide ((0 : Int) < ((K + 1 : Nat) : Int)) = true := by simp <;> omega
        have dk2 : decide ((0 : Int) < (K : Int) + 1) = true := by simp <;> omega
        have hkI1 : (K : Int) + 1 < (n : Int) := by omega
        have hkI2 : (K : Int) < (n : Int) := by omega
        have hcan : (K : Int) + 1 - 1 = (K : Int) := by omega
        have hwk : IntKind.i64.wrap (K : Int) = (K : Int) := IntWalk.i64_in _ (by omega)
        have hk0' : (0 : Int) ≤ (K : Int) + 1 := by omega
        clear hz hzd hT BZ k0 SK hk0 hkI PV
        go_wp2
        go_region_law (first
          | (refine step_append_sta exType (by with_reducible rfl) _ _ (by with_reducible rfl) _ (m + 1) 1 _ (by rfl) O5.out [.string (strOfNums T), .int .i64 0, .bool false, .int .u64 0, .int .u64 0, .int .u64 0, .string ⟨#[]⟩] rfl w4.heap.size (by rfl) N5.out (exCs_one (strOfNums T) Ex.zero) (by omega) (by decide) GW.out.size ?_; intro v6 w6 ho6 hg6 hv6; (have G6 := Lib.hid (grown_opt GW.out hg6 (fun g e => (O5.out.lt g e).1))); (have K6 := Lib.hid (show KnL w w6 ((M ++ [y.1]) ++ [T]) v6 from KnL.add (grown_refl w6 none) G6.out (by rw [List.length_append, List.length_singleton, ← HM.out]; exact ho6))); clear ho6 hg6 hv6 O5 N5 GW G5)
          | (go_simp; go_at_call 23; refine (SH.out _).mono ?_; rintro e w4 ⟨rfl, hg4⟩; (have G4 := grown_trans (show w3.grownBy w3.drew none from grown_drewN (grown_refl w3 none) 1) hg4); obtain ⟨q5, c5, e5, o5⟩ := K3.out.ex; injection e5 with e5 e7 e6; clear e7; subst e5 e6; rw [List.length_append, List.length_singleton, ← HM.out] at o5; (have g5 := grown1 w4 (.cells #[.string (strOfNums T), .int .i64 0, .bool false, .int .u64 0, .int .u64 0, .int .u64 0, .string ⟨#[]⟩] 38)); have G5 := Lib.hid (grown_trans G4 g5); have O5 := Lib.hid (own_grown o5 G5.out); (have N5 := Lib.hid (heap_alloc_new w4 (.cells #[.string (strOfNums T), .int .i64 0, .bool false, .int .u64 0, .int .u64 0, .int .u64 0, .string ⟨#[]⟩] 38))); have GW := Lib.hid (grown_trans K3.out.grown G5.out); clear g5 o5 hg4 G4 j0 j1))
        all_goals
          go_wp2
          go_roundw
          case rel => exact ⟨⟨K + 1 + 1, by omega, by go_num, by rw [SK2.out]; exact K6.out⟩⟩
          case measure => simp [intOf]; omega
    · have hkn : k = n := by omega
      subst hkn
      have dl : decide ((k : Int) < (k : Int)) = false := by simp
      obtain ⟨M, hM⟩ : ∃ M, M = setK R k := ⟨_, rfl⟩
      rw [← hM] at ho SL
      have MB := Lib.hid (show ∀ t ∈ M, Byt t from by rw [hM]; exact setK_byt (fun y hy => (HB.out y hy).1) k)
      have HM := Lib.hid (show M = setK R R.length by rw [hM, HN.out])
      rw [← hM]
      obtain ⟨m, hm⟩ : ∃ m, m = M.length := ⟨_, rfl⟩
      rw [← hm] at ho ⊢
      have hml : m ≤ 10001 := by rw [hm]; have := SL.out; omega
      have SO := Lib.hid (sorted_any m (setO M) q3 c3 wr (by rw [setO_len, hm]) (by omega) (own_room8 ho) (own_max ho) (RowEx.of ho).exs)
      have hmM := Lib.hid hm
      clear hm hM ho hg
      go_wp2_with fail
      refine SO.out.mono ?_
      rintro e w4 ⟨⟨S, v4, rfl, o4, p4, s4⟩, g4⟩
      have hSm : S.length = m := by rw [p4.length_eq, setO_len]; exact hmM.out.symm
      obtain ⟨q4, c4, rfl⟩ := own_slice o4
      have RX := Lib.hid (RowEx.of o4).exs
      have SB := Lib.hid (show ∀ y ∈ S, Byt y.1 from fun y hy => by
        have h1 := p4.mem_iff.1 hy
        unfold setO at h1
        obtain ⟨t, ht, rfl⟩ := List.mem_map.1 h1
        exact MB.out t ht)
      obtain ⟨SN, hSN⟩ : ∃ SN, SN = S.map Prod.fst := ⟨_, rfl⟩
      have SP := Lib.hid (show SN.Pairwise fun a b => nmLt b a = false from by
        rw [hSN, List.pairwise_map]
        refine s4.imp_of_mem ?_
        intro a b ha hb hab
        unfold leX at hab
        rw [nums_byt (SB.out a ha), nums_byt (SB.out b hb)] at hab
        exact hab)
      have SM := Lib.hid (show ∀ q, q ∈ SN ↔ q ∈ setK R R.length from fun q => by
        rw [← HM.out, hSN]
        have h1 : (S.map Prod.fst).Perm ((setO M).map Prod.fst) := p4.map _
        rw [h1.mem_iff]
        unfold setO
        rw [List.map_map]
        simp)
      have SX := Lib.hid (show ∀ (i : Nat) (y : List Int × Ex), S[i]? = some y → SN[i]? = some y.1 from fun i y hy => by rw [hSN, List.getElem?_map, hy]; rfl)
      have SL2 := Lib.hid (show SN.length = m by rw [hSN, List.length_map]; exact hSm)
      have HS := Lib.hid hSm
      rw [hSm]
      have G4 := Lib.hid (grown_trans G.out g4)
      have ST := Lib.hid (show KdI w4 w4 SN m (.slice none 0 0) (.int .i64 0) from ⟨⟨0, [], none, 0, Nat.zero_le _, Nat.le_refl _, rfl, rfl, World.ownsRow_nil _ _ _ _, ⟨List.Pairwise.nil, fun q => by simp⟩⟩, grown_refl _ _⟩)
      clear o4 p4 s4 g4 hSm hSN SO
      go_wp2
      go_loopw [5, 6] (fun v5 v6 wz => KdI w4 wz SN m v5 v6) (fun _ v6 _ => m - (intOf v6).toNat)
      case atStart => exact ST.out
      case round =>
        obtain ⟨⟨k, O, q5, c5, hk, hok, rfl, rfl, ho5, hdd⟩, hg5⟩ := hrel
        have DD := Lib.hid hdd
        have G5 := Lib.hid hg5
        clear hdd
        by_cases hlt : k < m
        · obtain ⟨y, hy⟩ : ∃ y, S[k]? = some y := ⟨_, List.getElem?_eq_getElem (by rw [HS.out]; exact hlt)⟩
          obtain ⟨ga, oa, rfl, k0⟩ := (RX.out.grown hg5).name hy
          have HY := Lib.hid hy
          have dl : decide ((k : Int) < (m : Int)) = true := by simp; omega
          have hkI : (k : Int) < (m : Int) := by omega
          by_cases hk0 : k = 0
          · subst hk0
            have DN := Lib.hid (DD.out.new SP.out (SX.out _ _ hy) (fun _ h => absurd h (by omega)))
            have J := Lib.hid trivial
            rw [Nat.zero_mul, Nat.add_zero] at k0
            clear hy DD
            go_wp2
            go_quiet (fail)
            have g6 := grown_drewN hg5 nq
            obtain ⟨W6, hW6⟩ : ∃ W6, wr.drewN nq = W6 := ⟨_, rfl⟩
            have o6 := own_grown ho5 (grown_drewN (grown_refl wr none) nq)
            rw [hW6] at g6 o6 ⊢
            obtain ⟨g', o', e', k0⟩ := (RX.out.grown g6).name HY.out
            injection e' with e'
            injection e' with e1 e2 _
            subst e1 e2
            rw [Nat.zero_mul, Nat.add_zero] at k0
            have g7 := grown1 W6 (.cells #[.string (strOfNums y.1)] 9)
            have O7 := Lib.hid (own_grown o6 g7)
            have N7 := Lib.hid (heap_alloc_new W6 (.cells #[.string (strOfNums y.1)] 9))
            have G7 := Lib.hid (grown_trans g6 g7)
            clear hW6 o6 g6 g7 ho5 hg5 J
            go_wp2_with (at_builtin; refine wp_append_sta strType rfl _ _ rfl _ (O.length) _ rfl O7.out [.string (strOfNums y.1)] rfl W6.heap.size rfl N7.out (strCs_one y.1) (by omega) (by decide) G7.out.size ?_)
            intro v8 w8 ho8 hg8 hv8
            obtain ⟨q8, c8, rfl⟩ := own_slice ho8
            have G8 := Lib.hid (grown_opt G7.out hg8 (fun g e => (O7.out.lt g e).1))
            have O8 := Lib.hid (show w8.ownsRow w4.heap.size 9 1 (.slice q8 (O ++ [y.1]).length c8) (O ++ [y.1]).length ((O ++ [y.1]).flatMap strCs) from by
              rw [List.length_append, List.length_singleton, List.flatMap_append]
              exact ho8)
            clear ho8 hg8 hv8 k0 O7 N7
            go_wp2
            go_roundw
            case rel => exact ⟨⟨0 + 1, O ++ [y.1], q8, c8, hlt, by rw [List.length_append, List.length_singleton]; omega, by go_num, by rw [List.length_append]; rfl, O8.out, DN.out⟩, G8.out⟩
            case measure => simp [intOf]; omega
          · obtain ⟨K, rfl⟩ : ∃ K, k = K + 1 := ⟨k - 1, by omega⟩
            obtain ⟨z, hz⟩ : ∃ z, S[K]? = some z := ⟨_, List.getElem?_eq_getElem (by rw [HS.out]; omega)⟩
            obtain ⟨g', o', e', k1⟩ := (RX.out.grown hg5).name hz
            injection e' with e'
            injection e' with e1 e2 _
            subst e1 e2
            have dl2 : decide ((K : Int) + 1 < (m : Int)) = true := by simp; omega
            have d0 : (((K + 1 : Nat) : Int) == 0) = false := by simp; omega
            have d02 : ((K : Int) + 1 == 0) = false := by simp; omega
            have hkI1 : (K : Int) + 1 < (m : Int) := by omega
            have hkI2 : (K : Int) < (m : Int) := by omega
            have hcan : (K : Int) + 1 - 1 = (K : Int) := by omega
            have hwk : IntKind.i64.wrap (K : Int) = (K : Int) := IntWalk.i64_in _ (by omega)
            have hnm := name_is (SB.out y (List.mem_of_getElem? hy)) (SB.out z (List.mem_of_getElem? hz))
            by_cases he : y.1 = z.1
            · rw [decide_eq_true he] at hnm
              have DN := Lib.hid (DD.out.old (SX.out _ _ hy) (by omega) (by rw [Nat.add_sub_cancel, he]; exact SX.out _ _ hz))
              have OO := Lib.hid (fun k => own_grown ho5 (grown_drewN (grown_refl wr none) k))
              clear hy hz he hkI hk0 ho5 DD
              go_wp2
              go_quiet (fail)
              go_wp2
              go_roundw
              case rel => exact ⟨⟨K + 1 + 1, O, q5, c5, hlt, by omega, by go_num, rfl, OO.out _, DN.out⟩, grown_drewN G5.out _⟩
              case measure => simp [intOf]; omega
            · rw [decide_eq_false he] at hnm
              have DN := Lib.hid (DD.out.new SP.out (SX.out _ _ hy) (fun x h0 hx => by
                rw [Nat.add_sub_cancel, SX.out _ _ hz] at hx
                injection hx with hx
                rw [← hx]; exact fun e => he e.symm))
              have J := Lib.hid trivial
              clear hy hz he hkI hk0 DD
              go_wp2
              go_quiet (fail)
              clear k0 k1 hnm
              have g6 := grown_drewN hg5 nq
              obtain ⟨W6, hW6⟩ : ∃ W6, wr.drewN nq = W6 := ⟨_, rfl⟩
              have o6 := own_grown ho5 (grown_drewN (grown_refl wr none) nq)
              rw [hW6] at g6 o6 ⊢
              obtain ⟨g', o', e', k0⟩ := (RX.out.grown g6).name HY.out
              injection e' with e'
              injection e' with e1 e2 _
              subst e1 e2
              have g7 := grown1 W6 (.cells #[.string (strOfNums y.1)] 9)
              have O7 := Lib.hid (own_grown o6 g7)
              have N7 := Lib.hid (heap_alloc_new W6 (.cells #[.string (strOfNums y.1)] 9))
              have G7 := Lib.hid (grown_trans g6 g7)
              clear hW6 o6 g6 g7 ho5 hg5 J
              go_wp2_with (at_builtin; refine wp_append_sta strType rfl _ _ rfl _ (O.length) _ rfl O7.out [.string (strOfNums y.1)] rfl W6.heap.size rfl N7.out (strCs_one y.1) (by omega) (by decide) G7.out.size ?_)
              intro v8 w8 ho8 hg8 hv8
              obtain ⟨q8, c8, rfl⟩ := own_slice ho8
              have G8 := Lib.hid (grown_opt G7.out hg8 (fun g e => (O7.out.lt g e).1))
              have O8 := Lib.hid (show w8.ownsRow w4.heap.size 9 1 (.slice q8 (O ++ [y.1]).length c8) (O ++ [y.1]).length ((O ++ [y.1]).flatMap strCs) from by
                rw [List.length_append, List.length_singleton, List.flatMap_append]
                exact ho8)
              clear ho8 hg8 hv8 k0 O7 N7
              go_wp2
              go_roundw
              case rel => exact ⟨⟨K + 1 + 1, O ++ [y.1], q8, c8, hlt, by rw [List.length_append, List.length_singleton]; omega, by go_num, by rw [List.length_append]; rfl, O8.out, DN.out⟩, G8.out⟩
              case measure => simp [intOf]; omega
        · have hkm : k = m := by omega
          subst hkm
          have dl : decide ((k : Int) < (k : Int)) = false := by simp
          have FN := Lib.hid (show KnOut w wr (namesA 257 R 0) (.returned (.slice q5 O.length c5)) from by
            have h := ALL.out SN O (by rw [SL2.out]; exact DD.out) SM.out
            subst h
            exact ⟨⟨q5, c5, rfl, Go.Joins.ownsRow_le ho5 G4.out.size⟩, grown_trans G4.out hg5⟩)
          clear ho5 hg5
          go_wp2
          go_ret
          exact FN.out
end Go.Proofs.Ytbnnlbdjjpmgeaa


namespace Go.Proofs.Ytbnnlbdjjpmgeaa
open Go.RowKit
variable {w w' W V : World} {base : Nat} {q : Option Addr} {c : Nat}

theorem step_append_b {ops : Array Oper} {o : Oper} {a : Act} {K : Act → World → Prop} {Q : Exit → Act → World → Prop} {E : Prop} (hgd : o.guard = none) (s x : Operand)
    (ho : o.op = .call { callee := .builtin .append, args := #[s, x], argTypes := #[25, 25] }) (hty : o.type = 25)
    (v : Value) (n : Nat) (xs : List Value) (hs : a.eval s = v) (hown : w.ownsRow base 5 1 v n xs) (news : List Int) (m : Nat) (hm : news.length = m) (hx : a.eval x = .slice q m c) (hb : IsBytes w q c news)
    (h63 : n + m ≤ 140737488355328) (hbase : base ≤ w.heap.size)
    (h : ∀ v' w', w'.ownsRow base 5 1 v' (n + m) (xs ++ news.map (Value.int .u8)) → w.grownBy w' v.ownBlock → (v'.ownBlock = v.ownBlock ∨ v'.ownBlock = some w.heap.size) → K (a.put o.dst v') w') :
    if Region.wanted o (yielded ops a.tmps) = true then Oper.wp Try.prog o a w K Q else E := by
  subst hm
  have hw : Region.wanted o (yielded ops a.tmps) = true := by simp [Region.wanted, hgd]
  rw [if_pos hw]
  obtain ⟨i, hi, hz0, hz1, hz2⟩ := info_parts info_u8
  rcases hb.ways with ⟨rfl, rfl, rfl⟩ | ⟨ad, rfl, hc⟩
  · have hr := run_append_none v n xs hown
    rw [← hty] at hr
    refine Lib.wp_append_run w s x _ _ ho _ _ hs hx _ _ (by rw [hty] at hr ⊢; exact hr) (h v w (by simpa using hown) (grown_refl w _) (.inl rfl))
  · obtain ⟨v', w', hr, h2, h3, _, h5⟩ := run_append_own_at (P := Try.prog) w base 25 o.type 5 i (.int .u8 0) 1 1 Try.underlying25 hi hz0 hz1 hz2 rfl (by decide) v n xs hown ad news.length c (news.map (Value.int .u8)) (by simp)
      (by
        intro j u hu
        have hj : j < news.length := by
          rcases Nat.lt_or_ge j news.length with h | h
          · exact h
          · simp [h] at hu
        rw [hc j hj]
        simp [hj] at hu ⊢
        exact hu)
      (by
        intro u hu
        obtain ⟨y, _, rfl⟩ := List.mem_map.1 hu
        rfl) (by unfold maxLen; omega) (by omega) hbase
    exact Lib.wp_append_run w s x _ _ ho _ _ hs hx _ _ hr (h v' w' h2 h3 h5)
theorem zero_new (W : World) : (W.alloc (.cells #[.int .u8 0] 5 (0, 0))).cell? ⟨W.heap.size, 0, none⟩ = some (.int .u8 0) := by
  rw [cell_of (heap_alloc_new W _)]; rfl
theorem zero_is {b : Nat} (h : w.cell? ⟨b, 0, none⟩ = some (.int .u8 0)) : IsBytes w (some ⟨b, 0, none⟩) 1 [0] := by
  refine IsBytes.mk_at (fun i hi => ?_)
  have : i = 0 := by simpa using hi
  subst this
  exact h
theorem frontB_some (x : Ex) : frontB (some x) = encU (saidB x).length ++ saidB x := rfl
set_option maxRecDepth 20000 in
set_option maxHeartbeats 6400000 in
theorem said_any (nm : ByteArray) (x : Ex) (hx : ExOk x) (w : World) : Calls Try.prog 24 #[exV nm x] w fun e w' => BOut w w' (frontB (some x)) e := by
  have g1 := grown1 w (.cells (exArr nm x) 38)
  have E1 : ExAt (w.alloc (.cells (exArr nm x) 38)) w.heap.size nm x := heap_alloc_new w _
  obtain ⟨w1, hw1⟩ : ∃ w1, w.alloc (.cells (exArr nm x) 38) = w1 := ⟨_, rfl⟩
  obtain ⟨g, hg0⟩ : ∃ g, w.heap.size = g := ⟨_, rfl⟩
  rw [hw1] at g1 E1
  rw [hg0] at E1
  obtain ⟨kind, weak, value, resolver, ordinal, other⟩ := x
  have HG := Lib.hid g1
  have HW1 := Lib.hid hw1
  have HG0 := Lib.hid hg0
  obtain ⟨hv, hr, ho, hob, -, ht⟩ := hx
  unfold textM at ht
  rw [Bool.and_eq_true, decide_eq_true_eq, decide_eq_true_eq] at ht
  simp only [] at hv hr ho hob ht
  obtain ⟨nv, rfl⟩ : ∃ n : Nat, value = (n : Int) := ⟨value.toNat, by omega⟩
  obtain ⟨nr, rfl⟩ : ∃ n : Nat, resolver = (n : Int) := ⟨resolver.toNat, by omega⟩
  obtain ⟨no, rfl⟩ : ∃ n : Nat, ordinal = (n : Int) := ⟨ordinal.toNat, by omega⟩
  have hv6 : nv < 18446744073709551616 := by omega
  have hr6 : nr < 18446744073709551616 := by omega
  have ho6 : no < 18446744073709551616 := by omega
  have PV := Lib.hid (fun W => refput_out hv6 W)
  have PR := Lib.hid (fun W => refput_out hr6 W)
  have PO := Lib.hid (fun W => refput_out ho6 W)
  have PF := Lib.hid (fun (n : Nat) (hn : n < 18446744073709551616) W => refput_out hn W)
  have hl1 := encU_10 nv hv6
  have hl2 := encU_10 nr hr6
  have hl3 := encU_10 no ho6
  have HOB := Lib.hid hob
  have hol := ht.1
  obtain ⟨c0, c1, c2, c3, c4, c5, c6⟩ := E1.c
  simp only [] at c1 c2 c3 c4 c5 c6
  have C3 := Lib.hid c3
  have C4 := Lib.hid c4
  have C5 := Lib.hid c5
  have C6 := Lib.hid c6
  clear E1 g1 hw1 hg0 hv hr ho hob ht hv6 hr6 ho6
  cases weak
  case false =>
    by_cases k3 : kind = 3
    · subst k3
      go_enter Try.func24, Try.ntmps24
      simp only [exV, exArr] at HW1 ⊢
      go_upto_region 1 with fail
      rw [HW1.out, HG0.out]
      clear HW1 HG0
      have c5a := grown_cell (grown1 w1 (.cells #[.int .u8 0] 5)) C5.out
      have c6a := grown_cell (grown1 w1 (.cells #[.int .u8 0] 5)) C6.out
      go_upto_region 9 with fail
      go_region_law (first
        | (refine step_append_str (by with_reducible rfl) _ _ (by with_reducible rfl) (by rfl) _ (encU no).length _ (by rfl) (by first | exact O2.out | exact own_grown O2.out (grown1 w2 _)) other HOB.out (by rfl) (by omega) (by first | exact G2.out.size | exact Nat.le_trans G2.out.size (grown1 w2 _).size) ?_; intro v3 w3 ho3 hg3 hv3; obtain ⟨q3, c3', rfl⟩ := own_slice ho3; have G3 : Hid (w.grownBy w3 none) := Lib.hid (by first | exact grown_opt G2.out hg3 (fun g e => (O2.out.lt g e).1) | exact grown_opt (grown_trans G2.out (grown1 w2 _)) hg3 (fun g e => (O2.out.lt g e).1)); (try have zB := hg3.cell ZA.out (by intro e; have h1 := L2.out _ e.symm; have h2 : w1.drew.heap.size < (w1.drew.alloc (.cells #[.int .u8 0] 5 (0, 0))).heap.size := (by rw [World.size_alloc]; exact Nat.lt_succ_self _); exact absurd h1 (Nat.not_le.2 h2))); (try have zC := hg3.cell (zero_new w2) (by intro e; have := (O2.out.lt _ e.symm).2; simp only [] at this; omega)); have O3 := Lib.hid ho3; clear ho3 hg3 hv3 O2)
        | (refine step_append_b (by with_reducible rfl) _ _ (by with_reducible rfl) (by rfl) _ ((encU no).length + other.length) _ (by rfl) (by first | exact O3.out | exact own_grown O3.out (grown1 w3 _)) [0] 1 rfl (by rfl) (by first | exact zero_is zB | exact zero_is zC | exact one_byte w3 0 _) (by omega) (by first | exact G3.out.size | exact Nat.le_trans G3.out.size (grown1 w3 _).size) ?_; intro v4 wz ho4 hg4 hv4; obtain ⟨qz, cz, rfl⟩ := own_slice ho4; have GZ : Hid (w.grownBy wz none) := Lib.hid (by first | exact grown_opt G3.out hg4 (fun g e => (O3.out.lt g e).1) | exact grown_opt (grown_trans G3.out (grown1 w3 _)) hg4 (fun g e => (O3.out.lt g e).1)); have O4 := Lib.hid ho4; clear ho4 hg4 hv4 O3)
        | (go_simp; go_at_call 25; refine (PO.out _).mono ?_; rintro e w2 ⟨⟨q2, c2', rfl, ho2⟩, hg2⟩; have g12 : w1.grownBy w2 none := (by first | exact grown_trans (grown_drewN (grown_refl w1 none) 1) hg2 | exact grown_trans (grown_trans (grown_drewN (grown_refl w1 none) 1) (grown1 w1.drew _)) hg2); have c6w := grown_cell g12 C6.out; have c6x := grown_cell (grown1 w2 (.cells #[.int .u8 0] 5)) c6w; (try have ZA := Lib.hid (grown_cell hg2 (zero_new w1.drew))); have L2 := Lib.hid (fun g e => (ho2.lt g e).1); have O2 := Lib.hid (Go.Joins.ownsRow_le ho2 (by first | exact HG.out.size | exact Nat.le_trans HG.out.size (grown_trans (grown_drewN (grown_refl w1 none) 1) (grown1 w1.drew (.cells #[.int .u8 0] 5))).size)); have G2 := Lib.hid (grown_trans HG.out g12); clear ho2 hg2 g12))
      all_goals
        obtain ⟨R, hR⟩ : ∃ R, R = encU no ++ (other ++ [0]) := ⟨_, rfl⟩
        have hRn : R.length = (encU no).length + other.length + 1 := by rw [hR, List.length_append, List.length_append, Nat.add_assoc]; rfl
        have hRm : R.map (Value.int .u8) = (encU no).map (Value.int .u8) ++ (other.map (Value.int .u8) ++ [.int .u8 0]) := by rw [hR, List.map_append, List.map_append]; rfl
        have HRS := Lib.hid (show saidB ⟨3, false, (nv : Int), (nr : Int), (no : Int), other⟩ = encU 8 ++ R by rw [hR]; simp [saidB, flagN])
        have o4 := O4.out
        try rw [List.append_assoc] at o4
        have RO := Lib.hid (show wz.ownsRow w.heap.size 5 1 (.slice qz R.length cz) R.length (R.map (Value.int .u8)) from by rw [hRn, hRm]; exact o4)
        have hRl : R.length ≤ 1000 := by omega
        rw [← hRn]
        clear o4 O4 hR hRn hRm
        have HSB := Lib.hid (show saidB ⟨3, false, (nv : Int), (nr : Int), (no : Int), other⟩ = encU 8 ++ R from HRS.out)
        have hFl := encU_10 8 (by decide)
        have GZs := GZ.out.size
        go_wp2_with fail
        refine (PF.out 8 (by decide) wz).mono ?_
        rintro e wa ⟨⟨qa, ca, rfl, ha⟩, hga⟩
        have OA := Lib.hid ha
        have IR := Lib.hid (IsBytes.of_own rfl (own_grown RO.out hga))
        have GA := Lib.hid (grown_trans GZ.out hga)
        have GZA := Lib.hid hga
        clear ha hga RO
        go_wp2_with (at_builtin; refine wp_append_at rfl _ _ rfl rfl _ (encU 8).length _ rfl OA.out R R.length rfl rfl IR.out (by omega) GZA.out.size ?_)
        intro vb wb hob hgb hvb
        have GB := Lib.hid (grown_opt GA.out hgb (fun g e => by have := (OA.out.lt g e).1; have := GZ.out.size; omega))
        obtain ⟨qb, cb, rfl⟩ := own_slice hob
        obtain ⟨SB, hSB⟩ : ∃ L, L = saidB ⟨3, false, (nv : Int), (nr : Int), (no : Int), other⟩ := ⟨_, rfl⟩
        have hsl : SB.length = (encU 8).length + R.length := by rw [hSB, HSB.out, List.length_append]
        have hsb : SB.map (Value.int .u8) = (encU 8).map (Value.int .u8) ++ R.map (Value.int .u8) := by rw [hSB, HSB.out, List.map_append]
        rw [← hsb, ← hsl] at hob
        have OB := Lib.hid hob
        have HSL := Lib.hid hsl
        have HFR := Lib.hid (show frontB (some ⟨3, false, (nv : Int), (nr : Int), (no : Int), other⟩) = encU SB.length ++ SB by rw [frontB_some, hSB])
        rw [← hsl]
        have hs64 : SB.length < 18446744073709551616 := by omega
        have hsm : SB.length ≤ 1000000 := by omega
        clear hob hgb hvb OA IR hSB hsl hsb HSB
        have PS := Lib.hid (PF.out SB.length hs64 wb)
        have hSl := encU_10 SB.length hs64
        go_wp2_with fail
        refine PS.out.mono ?_
        rintro e wc ⟨⟨qc, cc, rfl, hc⟩, hgc⟩
        have OC := Lib.hid hc
        have IS := Lib.hid (IsBytes.of_own rfl (own_grown OB.out hgc))
        have GC := Lib.hid (grown_trans GB.out hgc)
        have GBC := Lib.hid hgc
        clear hc hgc OB
        go_wp2_with (at_builtin; refine wp_append_at rfl _ _ rfl rfl _ (encU SB.length).length _ rfl OC.out SB SB.length rfl rfl IS.out (by omega) GBC.out.size ?_)
        intro vd wd hod hgd hvd
        have GD := Lib.hid (grown_opt GC.out hgd (fun g e => by have := (OC.out.lt g e).1; have := GB.out.size; omega))
        obtain ⟨qd, cd, rfl⟩ := own_slice hod
        have F := Lib.hid (show BOut w wd (frontB (some ⟨3, false, (nv : Int), (nr : Int), (no : Int), other⟩)) (.returned (.slice qd ((encU SB.length).length + SB.length) cd)) from by
          have hl : (frontB (some ⟨3, false, (nv : Int), (nr : Int), (no : Int), other⟩)).length = (encU SB.length).length + SB.length := by rw [HFR.out, List.length_append]
          have hm : (frontB (some ⟨3, false, (nv : Int), (nr : Int), (no : Int), other⟩)).map (Value.int .u8) = (encU SB.length).map (Value.int .u8) ++ SB.map (Value.int .u8) := by rw [HFR.out, List.map_append]
          refine ⟨⟨qd, cd, by rw [hl], ?_⟩, GD.out⟩
          rw [hl, hm]
          exact Go.Joins.ownsRow_le hod GB.out.size)
        clear hod hgd hvd OC IS
        go_wp2
        go_ret
        exact F.out
    have d3 : (kind == 3) = false := by simpa using k3
    by_cases k4 : kind = 4
    · subst k4
      go_enter Try.func24, Try.ntmps24
      simp only [exV, exArr] at HW1 ⊢
      go_upto_region 1 with fail
      rw [HW1.out, HG0.out]
      clear HW1 HG0
      go_upto_region 12 with fail
      go_region_law (first
        | (go_simp; go_at_call 25; (with_reducible refine (PV.out w1.drew).mono ?_); rintro e w2 ⟨⟨q2, c2', rfl, ho2⟩, hg2⟩; have g12 : w1.grownBy w2 none := grown_trans (grown_drewN (grown_refl w1 none) 1) hg2; have c4w := grown_cell g12 C4.out; have O2 := Lib.hid (Go.Joins.ownsRow_le ho2 (HG.out.size : w.heap.size ≤ w1.drew.heap.size)); have G2 := Lib.hid (grown_trans HG.out g12); clear ho2 hg2 g12)
        | (go_simp; go_at_call 25; (with_reducible refine (PR.out w2).mono ?_); rintro e w3 ⟨⟨q3, c3', rfl, ho3⟩, hg3⟩; have O23 := Lib.hid (own_grown O2.out hg3); have IB3 := Lib.hid (IsBytes.of_own rfl ho3); have G3 := Lib.hid (grown_trans G2.out hg3); clear ho3 hg3 O2)
        | (refine step_append_b (by with_reducible rfl) _ _ (by with_reducible rfl) (by rfl) _ (encU nv).length _ (by rfl) O23.out (encU nr) (encU nr).length rfl (by rfl) IB3.out (by omega) G3.out.size ?_; intro v4 wz ho4 hg4 hv4; obtain ⟨qz, cz, rfl⟩ := own_slice ho4; have GZ := Lib.hid (grown_opt G3.out hg4 (fun g e => (O23.out.lt g e).1)); have O4 := Lib.hid ho4; clear ho4 hg4 hv4 O23))
      all_goals
        obtain ⟨R, hR⟩ : ∃ R, R = encU nv ++ encU nr := ⟨_, rfl⟩
        have hRn : R.length = (encU nv).length + (encU nr).length := by rw [hR, List.length_append]
        have hRm : R.map (Value.int .u8) = (encU nv).map (Value.int .u8) ++ (encU nr).map (Value.int .u8) := by rw [hR, List.map_append]
        have HRS := Lib.hid (show saidB ⟨4, false, (nv : Int), (nr : Int), (no : Int), other⟩ = encU 16 ++ R by rw [hR]; simp [saidB, flagN])
        have RO := Lib.hid (show wz.ownsRow w.heap.size 5 1 (.slice qz R.length cz) R.length (R.map (Value.int .u8)) from by rw [hRn, hRm]; exact O4.out)
        have hRl : R.length ≤ 1000 := by omega
        rw [← hRn]
        clear O4 hR hRn hRm
        have HSB := Lib.hid (show saidB ⟨4, false, (nv : Int), (nr : Int), (no : Int), other⟩ = encU 16 ++ R from HRS.out)
        have hFl := encU_10 16 (by decide)
        have GZs := GZ.out.size
        go_wp2_with fail
        refine (PF.out 16 (by decide) wz).mono ?_
        rintro e wa ⟨⟨qa, ca, rfl, ha⟩, hga⟩
        have OA := Lib.hid ha
        have IR := Lib.hid (IsBytes.of_own rfl (own_grown RO.out hga))
        have GA := Lib.hid (grown_trans GZ.out hga)
        have GZA := Lib.hid hga
        clear ha hga RO
        go_wp2_with (at_builtin; refine wp_append_at rfl _ _ rfl rfl _ (encU 16).length _ rfl OA.out R R.length rfl rfl IR.out (by omega) GZA.out.size ?_)
        intro vb wb hob hgb hvb
        have GB := Lib.hid (grown_opt GA.out hgb (fun g e => by have := (OA.out.lt g e).1; have := GZ.out.size; omega))
        obtain ⟨qb, cb, rfl⟩ := own_slice hob
        obtain ⟨SB, hSB⟩ : ∃ L, L = saidB ⟨4, false, (nv : Int), (nr : Int), (no : Int), other⟩ := ⟨_, rfl⟩
        have hsl : SB.length = (encU 16).length + R.length := by rw [hSB, HSB.out, List.length_append]
        have hsb : SB.map (Value.int .u8) = (encU 16).map (Value.int .u8) ++ R.map (Value.int .u8) := by rw [hSB, HSB.out, List.map_append]
        rw [← hsb, ← hsl] at hob
        have OB := Lib.hid hob
        have HSL := Lib.hid hsl
        have HFR := Lib.hid (show frontB (some ⟨4, false, (nv : Int), (nr : Int), (no : Int), other⟩) = encU SB.length ++ SB by rw [frontB_some, hSB])
        rw [← hsl]
        have hs64 : SB.length < 18446744073709551616 := by omega
        have hsm : SB.length ≤ 1000000 := by omega
        clear hob hgb hvb OA IR hSB hsl hsb HSB
        have PS := Lib.hid (PF.out SB.length hs64 wb)
        have hSl := encU_10 SB.length hs64
        go_wp2_with fail
        refine PS.out.mono ?_
        rintro e wc ⟨⟨qc, cc, rfl, hc⟩, hgc⟩
        have OC := Lib.hid hc
        have IS := Lib.hid (IsBytes.of_own rfl (own_grown OB.out hgc))
        have GC := Lib.hid (grown_trans GB.out hgc)
        have GBC := Lib.hid hgc
        clear hc hgc OB
        go_wp2_with (at_builtin; refine wp_append_at rfl _ _ rfl rfl _ (encU SB.length).length _ rfl OC.out SB SB.length rfl rfl IS.out (by omega) GBC.out.size ?_)
        intro vd wd hod hgd hvd
        have GD := Lib.hid (grown_opt GC.out hgd (fun g e => by have := (OC.out.lt g e).1; have := GB.out.size; omega))
        obtain ⟨qd, cd, rfl⟩ := own_slice hod
        have F := Lib.hid (show BOut w wd (frontB (some ⟨4, false, (nv : Int), (nr : Int), (no : Int), other⟩)) (.returned (.slice qd ((encU SB.length).length + SB.length) cd)) from by
          have hl : (frontB (some ⟨4, false, (nv : Int), (nr : Int), (no : Int), other⟩)).length = (encU SB.length).length + SB.length := by rw [HFR.out, List.length_append]
          have hm : (frontB (some ⟨4, false, (nv : Int), (nr : Int), (no : Int), other⟩)).map (Value.int .u8) = (encU SB.length).map (Value.int .u8) ++ SB.map (Value.int .u8) := by rw [HFR.out, List.map_append]
          refine ⟨⟨qd, cd, by rw [hl], ?_⟩, GD.out⟩
          rw [hl, hm]
          exact Go.Joins.ownsRow_le hod GB.out.size)
        clear hod hgd hvd OC IS
        go_wp2
        go_ret
        exact F.out
    have d4 : (kind == 4) = false := by simpa using k4
    by_cases k2 : kind = 2
    · subst k2
      go_enter Try.func24, Try.ntmps24
      simp only [exV, exArr] at HW1 ⊢
      go_upto_region 1 with fail
      rw [HW1.out, HG0.out]
      clear HW1 HG0
      go_wp2_with fail
      refine (PV.out w1).mono ?_
      rintro e wz ⟨⟨qz, cz, rfl, hz⟩, hgz⟩
      have GZ := Lib.hid (grown_trans HG.out hgz)
      have RO := Lib.hid hz
      have hRl := hl1
      clear hz hgz
      obtain ⟨R, hR⟩ : ∃ R, R = encU nv := ⟨_, rfl⟩
      rw [← hR] at RO hRl ⊢
      have HRS := Lib.hid (show saidB ⟨2, false, (nv : Int), (nr : Int), (no : Int), other⟩ = encU 2 ++ R by rw [hR]; simp [saidB, flagN])
      clear hR
      have HSB := Lib.hid (show saidB ⟨2, false, (nv : Int), (nr : Int), (no : Int), other⟩ = encU 2 ++ R from HRS.out)
      have hFl := encU_10 2 (by decide)
      have GZs := GZ.out.size
      go_wp2_with fail
      refine (PF.out 2 (by decide) wz).mono ?_
      rintro e wa ⟨⟨qa, ca, rfl, ha⟩, hga⟩
      have OA := Lib.hid ha
      have IR := Lib.hid (IsBytes.of_own rfl (own_grown RO.out hga))
      have GA := Lib.hid (grown_trans GZ.out hga)
      have GZA := Lib.hid hga
      clear ha hga RO
      go_wp2_with (at_builtin; refine wp_append_at rfl _ _ rfl rfl _ (encU 2).length _ rfl OA.out R R.length rfl rfl IR.out (by omega) GZA.out.size ?_)
      intro vb wb hob hgb hvb
      have GB := Lib.hid (grown_opt GA.out hgb (fun g e => by have := (OA.out.lt g e).1; have := GZ.out.size; omega))
      obtain ⟨qb, cb, rfl⟩ := own_slice hob
      obtain ⟨SB, hSB⟩ : ∃ L, L = saidB ⟨2, false, (nv : Int), (nr : Int), (no : Int), other⟩ := ⟨_, rfl⟩
      have hsl : SB.length = (encU 2).length + R.length := by rw [hSB, HSB.out, List.length_append]
      have hsb : SB.map (Value.int .u8) = (encU 2).map (Value.int .u8) ++ R.map (Value.int .u8) := by rw [hSB, HSB.out, List.map_append]
      rw [← hsb, ← hsl] at hob
      have OB := Lib.hid hob
      have HSL := Lib.hid hsl
      have HFR := Lib.hid (show frontB (some ⟨2, false, (nv : Int), (nr : Int), (no : Int), other⟩) = encU SB.length ++ SB by rw [frontB_some, hSB])
      rw [← hsl]
      have hs64 : SB.length < 18446744073709551616 := by omega
      have hsm : SB.length ≤ 1000000 := by omega
      clear hob hgb hvb OA IR hSB hsl hsb HSB
      have PS := Lib.hid (PF.out SB.length hs64 wb)
      have hSl := encU_10 SB.length hs64
      go_wp2_with fail
      refine PS.out.mono ?_
      rintro e wc ⟨⟨qc, cc, rfl, hc⟩, hgc⟩
      have OC := Lib.hid hc
      have IS := Lib.hid (IsBytes.of_own rfl (own_grown OB.out hgc))
      have GC := Lib.hid (grown_trans GB.out hgc)
      have GBC := Lib.hid hgc
      clear hc hgc OB
      go_wp2_with (at_builtin; refine wp_append_at rfl _ _ rfl rfl _ (encU SB.length).length _ rfl OC.out SB SB.length rfl rfl IS.out (by omega) GBC.out.size ?_)
      intro vd wd hod hgd hvd
      have GD := Lib.hid (grown_opt GC.out hgd (fun g e => by have := (OC.out.lt g e).1; have := GB.out.size; omega))
      obtain ⟨qd, cd, rfl⟩ := own_slice hod
      have F := Lib.hid (show BOut w wd (frontB (some ⟨2, false, (nv : Int), (nr : Int), (no : Int), other⟩)) (.returned (.slice qd ((encU SB.length).length + SB.length) cd)) from by
        have hl : (frontB (some ⟨2, false, (nv : Int), (nr : Int), (no : Int), other⟩)).length = (encU SB.length).length + SB.length := by rw [HFR.out, List.length_append]
        have hm : (frontB (some ⟨2, false, (nv : Int), (nr : Int), (no : Int), other⟩)).map (Value.int .u8) = (encU SB.length).map (Value.int .u8) ++ SB.map (Value.int .u8) := by rw [HFR.out, List.map_append]
        refine ⟨⟨qd, cd, by rw [hl], ?_⟩, GD.out⟩
        rw [hl, hm]
        exact Go.Joins.ownsRow_le hod GB.out.size)
      clear hod hgd hvd OC IS
      go_wp2
      go_ret
      exact F.out
    have d2 : (kind == 2) = false := by simpa using k2
    go_enter Try.func24, Try.ntmps24
    simp only [exV, exArr] at HW1 ⊢
    go_upto_region 1 with fail
    rw [HW1.out, HG0.out]
    clear HW1 HG0
    go_wp2_with fail
    refine (PV.out w1).mono ?_
    rintro e wz ⟨⟨qz, cz, rfl, hz⟩, hgz⟩
    have GZ := Lib.hid (grown_trans HG.out hgz)
    have RO := Lib.hid hz
    have hRl := hl1
    clear hz hgz
    obtain ⟨R, hR⟩ : ∃ R, R = encU nv := ⟨_, rfl⟩
    rw [← hR] at RO hRl ⊢
    have HRS := Lib.hid (show saidB ⟨kind, false, (nv : Int), (nr : Int), (no : Int), other⟩ = encU 0 ++ R by rw [hR]; simp [saidB, flagN, k2, k3, k4])
    clear hR
    have HSB := Lib.hid (show saidB ⟨kind, false, (nv : Int), (nr : Int), (no : Int), other⟩ = encU 0 ++ R from HRS.out)
    have hFl := encU_10 0 (by decide)
    have GZs := GZ.out.size
    go_wp2_with fail
    refine (PF.out 0 (by decide) wz).mono ?_
    rintro e wa ⟨⟨qa, ca, rfl, ha⟩, hga⟩
    have OA := Lib.hid ha
    have IR := Lib.hid (IsBytes.of_own rfl (own_grown RO.out hga))
    have GA := Lib.hid (grown_trans GZ.out hga)
    have GZA := Lib.hid hga
    clear ha hga RO
    go_wp2_with (at_builtin; refine wp_append_at rfl _ _ rfl rfl _ (encU 0).length _ rfl OA.out R R.length rfl rfl IR.out (by omega) GZA.out.size ?_)
    intro vb wb hob hgb hvb
    have GB := Lib.hid (grown_opt GA.out hgb (fun g e => by have := (OA.out.lt g e).1; have := GZ.out.size; omega))
    obtain ⟨qb, cb, rfl⟩ := own_slice hob
    obtain ⟨SB, hSB⟩ : ∃ L, L = saidB ⟨kind, false, (nv : Int), (nr : Int), (no : Int), other⟩ := ⟨_, rfl⟩
    have hsl : SB.length = (encU 0).length + R.length := by rw [hSB, HSB.out, List.length_append]
    have hsb : SB.map (Value.int .u8) = (encU 0).map (Value.int .u8) ++ R.map (Value.int .u8) := by rw [hSB, HSB.out, List.map_append]
    rw [← hsb, ← hsl] at hob
    have OB := Lib.hid hob
    have HSL := Lib.hid hsl
    have HFR := Lib.hid (show frontB (some ⟨kind, false, (nv : Int), (nr : Int), (no : Int), other⟩) = encU SB.length ++ SB by rw [frontB_some, hSB])
    rw [← hsl]
    have hs64 : SB.length < 18446744073709551616 := by omega
    have hsm : SB.length ≤ 1000000 := by omega
    clear hob hgb hvb OA IR hSB hsl hsb HSB
    have PS := Lib.hid (PF.out SB.length hs64 wb)
    have hSl := encU_10 SB.length hs64
    go_wp2_with fail
    refine PS.out.mono ?_
    rintro e wc ⟨⟨qc, cc, rfl, hc⟩, hgc⟩
    have OC := Lib.hid hc
    have IS := Lib.hid (IsBytes.of_own rfl (own_grown OB.out hgc))
    have GC := Lib.hid (grown_trans GB.out hgc)
    have GBC := Lib.hid hgc
    clear hc hgc OB
    go_wp2_with (at_builtin; refine wp_append_at rfl _ _ rfl rfl _ (encU SB.length).length _ rfl OC.out SB SB.length rfl rfl IS.out (by omega) GBC.out.size ?_)
    intro vd wd hod hgd hvd
    have GD := Lib.hid (grown_opt GC.out hgd (fun g e => by have := (OC.out.lt g e).1; have := GB.out.size; omega))
    obtain ⟨qd, cd, rfl⟩ := own_slice hod
    have F := Lib.hid (show BOut w wd (frontB (some ⟨kind, false, (nv : Int), (nr : Int), (no : Int), other⟩)) (.returned (.slice qd ((encU SB.length).length + SB.length) cd)) from by
      have hl : (frontB (some ⟨kind, false, (nv : Int), (nr : Int), (no : Int), other⟩)).length = (encU SB.length).length + SB.length := by rw [HFR.out, List.length_append]
      have hm : (frontB (some ⟨kind, false, (nv : Int), (nr : Int), (no : Int), other⟩)).map (Value.int .u8) = (encU SB.length).map (Value.int .u8) ++ SB.map (Value.int .u8) := by rw [HFR.out, List.map_append]
      refine ⟨⟨qd, cd, by rw [hl], ?_⟩, GD.out⟩
      rw [hl, hm]
      exact Go.Joins.ownsRow_le hod GB.out.size)
    clear hod hgd hvd OC IS
    go_wp2
    go_ret
    exact F.out
  case true =>
    by_cases k3 : kind = 3
    · subst k3
      go_enter Try.func24, Try.ntmps24
      simp only [exV, exArr] at HW1 ⊢
      go_upto_region 1 with fail
      rw [HW1.out, HG0.out]
      clear HW1 HG0
      have c5a := grown_cell (grown1 w1 (.cells #[.int .u8 0] 5)) C5.out
      have c6a := grown_cell (grown1 w1 (.cells #[.int .u8 0] 5)) C6.out
      go_upto_region 9 with fail
      go_region_law (first
        | (refine step_append_str (by with_reducible rfl) _ _ (by with_reducible rfl) (by rfl) _ (encU no).length _ (by rfl) (by first | exact O2.out | exact own_grown O2.out (grown1 w2 _)) other HOB.out (by rfl) (by omega) (by first | exact G2.out.size | exact Nat.le_trans G2.out.size (grown1 w2 _).size) ?_; intro v3 w3 ho3 hg3 hv3; obtain ⟨q3, c3', rfl⟩ := own_slice ho3; have G3 : Hid (w.grownBy w3 none) := Lib.hid (by first | exact grown_opt G2.out hg3 (fun g e => (O2.out.lt g e).1) | exact grown_opt (grown_trans G2.out (grown1 w2 _)) hg3 (fun g e => (O2.out.lt g e).1)); (try have zB := hg3.cell ZA.out (by intro e; have h1 := L2.out _ e.symm; have h2 : w1.drew.heap.size < (w1.drew.alloc (.cells #[.int .u8 0] 5 (0, 0))).heap.size := (by rw [World.size_alloc]; exact Nat.lt_succ_self _); exact absurd h1 (Nat.not_le.2 h2))); (try have zC := hg3.cell (zero_new w2) (by intro e; have := (O2.out.lt _ e.symm).2; simp only [] at this; omega)); have O3 := Lib.hid ho3; clear ho3 hg3 hv3 O2)
        | (refine step_append_b (by with_reducible rfl) _ _ (by with_reducible rfl) (by rfl) _ ((encU no).length + other.length) _ (by rfl) (by first | exact O3.out | exact own_grown O3.out (grown1 w3 _)) [0] 1 rfl (by rfl) (by first | exact zero_is zB | exact zero_is zC | exact one_byte w3 0 _) (by omega) (by first | exact G3.out.size | exact Nat.le_trans G3.out.size (grown1 w3 _).size) ?_; intro v4 wz ho4 hg4 hv4; obtain ⟨qz, cz, rfl⟩ := own_slice ho4; have GZ : Hid (w.grownBy wz none) := Lib.hid (by first | exact grown_opt G3.out hg4 (fun g e => (O3.out.lt g e).1) | exact grown_opt (grown_trans G3.out (grown1 w3 _)) hg4 (fun g e => (O3.out.lt g e).1)); have O4 := Lib.hid ho4; clear ho4 hg4 hv4 O3)
        | (go_simp; go_at_call 25; refine (PO.out _).mono ?_; rintro e w2 ⟨⟨q2, c2', rfl, ho2⟩, hg2⟩; have g12 : w1.grownBy w2 none := (by first | exact grown_trans (grown_drewN (grown_refl w1 none) 1) hg2 | exact grown_trans (grown_trans (grown_drewN (grown_refl w1 none) 1) (grown1 w1.drew _)) hg2); have c6w := grown_cell g12 C6.out; have c6x := grown_cell (grown1 w2 (.cells #[.int .u8 0] 5)) c6w; (try have ZA := Lib.hid (grown_cell hg2 (zero_new w1.drew))); have L2 := Lib.hid (fun g e => (ho2.lt g e).1); have O2 := Lib.hid (Go.Joins.ownsRow_le ho2 (by first | exact HG.out.size | exact Nat.le_trans HG.out.size (grown_trans (grown_drewN (grown_refl w1 none) 1) (grown1 w1.drew (.cells #[.int .u8 0] 5))).size)); have G2 := Lib.hid (grown_trans HG.out g12); clear ho2 hg2 g12))
      all_goals
        obtain ⟨R, hR⟩ : ∃ R, R = encU no ++ (other ++ [0]) := ⟨_, rfl⟩
        have hRn : R.length = (encU no).length + other.length + 1 := by rw [hR, List.length_append, List.length_append, Nat.add_assoc]; rfl
        have hRm : R.map (Value.int .u8) = (encU no).map (Value.int .u8) ++ (other.map (Value.int .u8) ++ [.int .u8 0]) := by rw [hR, List.map_append, List.map_append]; rfl
        have HRS := Lib.hid (show saidB ⟨3, true, (nv : Int), (nr : Int), (no : Int), other⟩ = encU 12 ++ R by rw [hR]; simp [saidB, flagN])
        have o4 := O4.out
        try rw [List.append_assoc] at o4
        have RO := Lib.hid (show wz.ownsRow w.heap.size 5 1 (.slice qz R.length cz) R.length (R.map (Value.int .u8)) from by rw [hRn, hRm]; exact o4)
        have hRl : R.length ≤ 1000 := by omega
        rw [← hRn]
        clear o4 O4 hR hRn hRm
        have HSB := Lib.hid (show saidB ⟨3, true, (nv : Int), (nr : Int), (no : Int), other⟩ = encU 12 ++ R from HRS.out)
        have hFl := encU_10 12 (by decide)
        have GZs := GZ.out.size
        go_wp2_with fail
        refine (PF.out 12 (by decide) wz).mono ?_
        rintro e wa ⟨⟨qa, ca, rfl, ha⟩, hga⟩
        have OA := Lib.hid ha
        have IR := Lib.hid (IsBytes.of_own rfl (own_grown RO.out hga))
        have GA := Lib.hid (grown_trans GZ.out hga)
        have GZA := Lib.hid hga
        clear ha hga RO
        go_wp2_with (at_builtin; refine wp_append_at rfl _ _ rfl rfl _ (encU 12).length _ rfl OA.out R R.length rfl rfl IR.out (by omega) GZA.out.size ?_)
        intro vb wb hob hgb hvb
        have GB := Lib.hid (grown_opt GA.out hgb (fun g e => by have := (OA.out.lt g e).1; have := GZ.out.size; omega))
        obtain ⟨qb, cb, rfl⟩ := own_slice hob
        obtain ⟨SB, hSB⟩ : ∃ L, L = saidB ⟨3, true, (nv : Int), (nr : Int), (no : Int), other⟩ := ⟨_, rfl⟩
        have hsl : SB.length = (encU 12).length + R.length := by rw [hSB, HSB.out, List.length_append]
        have hsb : SB.map (Value.int .u8) = (encU 12).map (Value.int .u8) ++ R.map (Value.int .u8) := by rw [hSB, HSB.out, List.map_append]
        rw [← hsb, ← hsl] at hob
        have OB := Lib.hid hob
        have HSL := Lib.hid hsl
        have HFR := Lib.hid (show frontB (some ⟨3, true, (nv : Int), (nr : Int), (no : Int), other⟩) = encU SB.length ++ SB by rw [frontB_some, hSB])
        rw [← hsl]
        have hs64 : SB.length < 18446744073709551616 := by omega
        have hsm : SB.length ≤ 1000000 := by omega
        clear hob hgb hvb OA IR hSB hsl hsb HSB
        have PS := Lib.hid (PF.out SB.length hs64 wb)
        have hSl := encU_10 SB.length hs64
        go_wp2_with fail
        refine PS.out.mono ?_
        rintro e wc ⟨⟨qc, cc, rfl, hc⟩, hgc⟩
        have OC := Lib.hid hc
        have IS := Lib.hid (IsBytes.of_own rfl (own_grown OB.out hgc))
        have GC := Lib.hid (grown_trans GB.out hgc)
        have GBC := Lib.hid hgc
        clear hc hgc OB
        go_wp2_with (at_builtin; refine wp_append_at rfl _ _ rfl rfl _ (encU SB.length).length _ rfl OC.out SB SB.length rfl rfl IS.out (by omega) GBC.out.size ?_)
        intro vd wd hod hgd hvd
        have GD := Lib.hid (grown_opt GC.out hgd (fun g e => by have := (OC.out.lt g e).1; have := GB.out.size; omega))
        obtain ⟨qd, cd, rfl⟩ := own_slice hod
        have F := Lib.hid (show BOut w wd (frontB (some ⟨3, true, (nv : Int), (nr : Int), (no : Int), other⟩)) (.returned (.slice qd ((encU SB.length).length + SB.length) cd)) from by
          have hl : (frontB (some ⟨3, true, (nv : Int), (nr : Int), (no : Int), other⟩)).length = (encU SB.length).length + SB.length := by rw [HFR.out, List.length_append]
          have hm : (frontB (some ⟨3, true, (nv : Int), (nr : Int), (no : Int), other⟩)).map (Value.int .u8) = (encU SB.length).map (Value.int .u8) ++ SB.map (Value.int .u8) := by rw [HFR.out, List.map_append]
          refine ⟨⟨qd, cd, by rw [hl], ?_⟩, GD.out⟩
          rw [hl, hm]
          exact Go.Joins.ownsRow_le hod GB.out.size)
        clear hod hgd hvd OC IS
        go_wp2
        go_ret
        exact F.out
    have d3 : (kind == 3) = false := by simpa using k3
    by_cases k4 : kind = 4
    · subst k4
      go_enter Try.func24, Try.ntmps24
      simp only [exV, exArr] at HW1 ⊢
      go_upto_region 1 with fail
      rw [HW1.out, HG0.out]
      clear HW1 HG0
      go_upto_region 12 with fail
      go_region_law (first
        | (go_simp; go_at_call 25; (with_reducible refine (PV.out w1.drew).mono ?_); rintro e w2 ⟨⟨q2, c2', rfl, ho2⟩, hg2⟩; have g12 : w1.grownBy w2 none := grown_trans (grown_drewN (grown_refl w1 none) 1) hg2; have c4w := grown_cell g12 C4.out; have O2 := Lib.hid (Go.Joins.ownsRow_le ho2 (HG.out.size : w.heap.size ≤ w1.drew.heap.size)); have G2 := Lib.hid (grown_trans HG.out g12); clear ho2 hg2 g12)
        | (go_simp; go_at_call 25; (with_reducible refine (PR.out w2).mono ?_); rintro e w3 ⟨⟨q3, c3', rfl, ho3⟩, hg3⟩; have O23 := Lib.hid (own_grown O2.out hg3); have IB3 := Lib.hid (IsBytes.of_own rfl ho3); have G3 := Lib.hid (grown_trans G2.out hg3); clear ho3 hg3 O2)
        | (refine step_append_b (by with_reducible rfl) _ _ (by with_reducible rfl) (by rfl) _ (encU nv).length _ (by rfl) O23.out (encU nr) (encU nr).length rfl (by rfl) IB3.out (by omega) G3.out.size ?_; intro v4 wz ho4 hg4 hv4; obtain ⟨qz, cz, rfl⟩ := own_slice ho4; have GZ := Lib.hid (grown_opt G3.out hg4 (fun g e => (O23.out.lt g e).1)); have O4 := Lib.hid ho4; clear ho4 hg4 hv4 O23))
      all_goals
        obtain ⟨R, hR⟩ : ∃ R, R = encU nv ++ encU nr := ⟨_, rfl⟩
        have hRn : R.length = (encU nv).length + (encU nr).length := by rw [hR, List.length_append]
        have hRm : R.map (Value.int .u8) = (encU nv).map (Value.int .u8) ++ (encU nr).map (Value.int .u8) := by rw [hR, List.map_append]
        have HRS := Lib.hid (show saidB ⟨4, true, (nv : Int), (nr : Int), (no : Int), other⟩ = encU 20 ++ R by rw [hR]; simp [saidB, flagN])
        have RO := Lib.hid (show wz.ownsRow w.heap.size 5 1 (.slice qz R.length cz) R.length (R.map (Value.int .u8)) from by rw [hRn, hRm]; exact O4.out)
        have hRl : R.length ≤ 1000 := by omega
        rw [← hRn]
        clear O4 hR hRn hRm
        have HSB := Lib.hid (show saidB ⟨4, true, (nv : Int), (nr : Int), (no : Int), other⟩ = encU 20 ++ R from HRS.out)
        have hFl := encU_10 20 (by decide)
        have GZs := GZ.out.size
        go_wp2_with fail
        refine (PF.out 20 (by decide) wz).mono ?_
        rintro e wa ⟨⟨qa, ca, rfl, ha⟩, hga⟩
        have OA := Lib.hid ha
        have IR := Lib.hid (IsBytes.of_own rfl (own_grown RO.out hga))
        have GA := Lib.hid (grown_trans GZ.out hga)
        have GZA := Lib.hid hga
        clear ha hga RO
        go_wp2_with (at_builtin; refine wp_append_at rfl _ _ rfl rfl _ (encU 20).length _ rfl OA.out R R.length rfl rfl IR.out (by omega) GZA.out.size ?_)
        intro vb wb hob hgb hvb
        have GB := Lib.hid (grown_opt GA.out hgb (fun g e => by have := (OA.out.lt g e).1; have := GZ.out.size; omega))
        obtain ⟨qb, cb, rfl⟩ := own_slice hob
        obtain ⟨SB, hSB⟩ : ∃ L, L = saidB ⟨4, true, (nv : Int), (nr : Int), (no : Int), other⟩ := ⟨_, rfl⟩
        have hsl : SB.length = (encU 20).length + R.length := by rw [hSB, HSB.out, List.length_append]
        have hsb : SB.map (Value.int .u8) = (encU 20).map (Value.int .u8) ++ R.map (Value.int .u8) := by rw [hSB, HSB.out, List.map_append]
        rw [← hsb, ← hsl] at hob
        have OB := Lib.hid hob
        have HSL := Lib.hid hsl
        have HFR := Lib.hid (show frontB (some ⟨4, true, (nv : Int), (nr : Int), (no : Int), other⟩) = encU SB.length ++ SB by rw [frontB_some, hSB])
        rw [← hsl]
        have hs64 : SB.length < 18446744073709551616 := by omega
        have hsm : SB.length ≤ 1000000 := by omega
        clear hob hgb hvb OA IR hSB hsl hsb HSB
        have PS := Lib.hid (PF.out SB.length hs64 wb)
        have hSl := encU_10 SB.length hs64
        go_wp2_with fail
        refine PS.out.mono ?_
        rintro e wc ⟨⟨qc, cc, rfl, hc⟩, hgc⟩
        have OC := Lib.hid hc
        have IS := Lib.hid (IsBytes.of_own rfl (own_grown OB.out hgc))
        have GC := Lib.hid (grown_trans GB.out hgc)
        have GBC := Lib.hid hgc
        clear hc hgc OB
        go_wp2_with (at_builtin; refine wp_append_at rfl _ _ rfl rfl _ (encU SB.length).length _ rfl OC.out SB SB.length rfl rfl IS.out (by omega) GBC.out.size ?_)
        intro vd wd hod hgd hvd
        have GD := Lib.hid (grown_opt GC.out hgd (fun g e => by have := (OC.out.lt g e).1; have := GB.out.size; omega))
        obtain ⟨qd, cd, rfl⟩ := own_slice hod
        have F := Lib.hid (show BOut w wd (frontB (some ⟨4, true, (nv : Int), (nr : Int), (no : Int), other⟩)) (.returned (.slice qd ((encU SB.length).length + SB.length) cd)) from by
          have hl : (frontB (some ⟨4, true, (nv : Int), (nr : Int), (no : Int), other⟩)).length = (encU SB.length).length + SB.length := by rw [HFR.out, List.length_append]
          have hm : (frontB (some ⟨4, true, (nv : Int), (nr : Int), (no : Int), other⟩)).map (Value.int .u8) = (encU SB.length).map (Value.int .u8) ++ SB.map (Value.int .u8) := by rw [HFR.out, List.map_append]
          refine ⟨⟨qd, cd, by rw [hl], ?_⟩, GD.out⟩
          rw [hl, hm]
          exact Go.Joins.ownsRow_le hod GB.out.size)
        clear hod hgd hvd OC IS
        go_wp2
        go_ret
        exact F.out
    have d4 : (kind == 4) = false := by simpa using k4
    by_cases k2 : kind = 2
    · subst k2
      go_enter Try.func24, Try.ntmps24
      simp only [exV, exArr] at HW1 ⊢
      go_upto_region 1 with fail
      rw [HW1.out, HG0.out]
      clear HW1 HG0
      go_wp2_with fail
      refine (PV.out w1).mono ?_
      rintro e wz ⟨⟨qz, cz, rfl, hz⟩, hgz⟩
      have GZ := Lib.hid (grown_trans HG.out hgz)
      have RO := Lib.hid hz
      have hRl := hl1
      clear hz hgz
      obtain ⟨R, hR⟩ : ∃ R, R = encU nv := ⟨_, rfl⟩
      rw [← hR] at RO hRl ⊢
      have HRS := Lib.hid (show saidB ⟨2, true, (nv : Int), (nr : Int), (no : Int), other⟩ = encU 6 ++ R by rw [hR]; simp [saidB, flagN])
      clear hR
      have HSB := Lib.hid (show saidB ⟨2, true, (nv : Int), (nr : Int), (no : Int), other⟩ = encU 6 ++ R from HRS.out)
      have hFl := encU_10 6 (by decide)
      have GZs := GZ.out.size
      go_wp2_with fail
      refine (PF.out 6 (by decide) wz).mono ?_
      rintro e wa ⟨⟨qa, ca, rfl, ha⟩, hga⟩
      have OA := Lib.hid ha
      have IR := Lib.hid (IsBytes.of_own rfl (own_grown RO.out hga))
      have GA := Lib.hid (grown_trans GZ.out hga)
      have GZA := Lib.hid hga
      clear ha hga RO
      go_wp2_with (at_builtin; refine wp_append_at rfl _ _ rfl rfl _ (encU 6).length _ rfl OA.out R R.length rfl rfl IR.out (by omega) GZA.out.size ?_)
      intro vb wb hob hgb hvb
      have GB := Lib.hid (grown_opt GA.out hgb (fun g e => by have := (OA.out.lt g e).1; have := GZ.out.size; omega))
      obtain ⟨qb, cb, rfl⟩ := own_slice hob
      obtain ⟨SB, hSB⟩ : ∃ L, L = saidB ⟨2, true, (nv : Int), (nr : Int), (no : Int), other⟩ := ⟨_, rfl⟩
      have hsl : SB.length = (encU 6).length + R.length := by rw [hSB, HSB.out, List.length_append]
      have hsb : SB.map (Value.int .u8) = (encU 6).map (Value.int .u8) ++ R.map (Value.int .u8) := by rw [hSB, HSB.out, List.map_append]
      rw [← hsb, ← hsl] at hob
      have OB := Lib.hid hob
      have HSL := Lib.hid hsl
      have HFR := Lib.hid (show frontB (some ⟨2, true, (nv : Int), (nr : Int), (no : Int), other⟩) = encU SB.length ++ SB by rw [frontB_some, hSB])
      rw [← hsl]
      have hs64 : SB.length < 18446744073709551616 := by omega
      have hsm : SB.length ≤ 1000000 := by omega
      clear hob hgb hvb OA IR hSB hsl hsb HSB
      have PS := Lib.hid (PF.out SB.length hs64 wb)
      have hSl := encU_10 SB.length hs64
      go_wp2_with fail
      refine PS.out.mono ?_
      rintro e wc ⟨⟨qc, cc, rfl, hc⟩, hgc⟩
      have OC := Lib.hid hc
      have IS := Lib.hid (IsBytes.of_own rfl (own_grown OB.out hgc))
      have GC := Lib.hid (grown_trans GB.out hgc)
      have GBC := Lib.hid hgc
      clear hc hgc OB
      go_wp2_with (at_builtin; refine wp_append_at rfl _ _ rfl rfl _ (encU SB.length).length _ rfl OC.out SB SB.length rfl rfl IS.out (by omega) GBC.out.size ?_)
      intro vd wd hod hgd hvd
      have GD := Lib.hid (grown_opt GC.out hgd (fun g e => by have := (OC.out.lt g e).1; have := GB.out.size; omega))
      obtain ⟨qd, cd, rfl⟩ := own_slice hod
      have F := Lib.hid (show BOut w wd (frontB (some ⟨2, true, (nv : Int), (nr : Int), (no : Int), other⟩)) (.returned (.slice qd ((encU SB.length).length + SB.length) cd)) from by
        have hl : (frontB (some ⟨2, true, (nv : Int), (nr : Int), (no : Int), other⟩)).length = (encU SB.length).length + SB.length := by rw [HFR.out, List.length_append]
        have hm : (frontB (some ⟨2, true, (nv : Int), (nr : Int), (no : Int), other⟩)).map (Value.int .u8) = (encU SB.length).map (Value.int .u8) ++ SB.map (Value.int .u8) := by rw [HFR.out, List.map_append]
        refine ⟨⟨qd, cd, by rw [hl], ?_⟩, GD.out⟩
        rw [hl, hm]
        exact Go.Joins.ownsRow_le hod GB.out.size)
      clear hod hgd hvd OC IS
      go_wp2
      go_ret
      exact F.out
    have d2 : (kind == 2) = false := by simpa using k2
    go_enter Try.func24, Try.ntmps24
    simp only [exV, exArr] at HW1 ⊢
    go_upto_region 1 with fail
    rw [HW1.out, HG0.out]
    clear HW1 HG0
    go_wp2_with fail
    refine (PV.out w1).mono ?_
    rintro e wz ⟨⟨qz, cz, rfl, hz⟩, hgz⟩
    have GZ := Lib.hid (grown_trans HG.out hgz)
    have RO := Lib.hid hz
    have hRl := hl1
    clear hz hgz
    obtain ⟨R, hR⟩ : ∃ R, R = encU nv := ⟨_, rfl⟩
    rw [← hR] at RO hRl ⊢
    have HRS := Lib.hid (show saidB ⟨kind, true, (nv : Int), (nr : Int), (no : Int), other⟩ = encU 4 ++ R by rw [hR]; simp [saidB, flagN, k2, k3, k4])
    clear hR
    have HSB := Lib.hid (show saidB ⟨kind, true, (nv : Int), (nr : Int), (no : Int), other⟩ = encU 4 ++ R from HRS.out)
    have hFl := encU_10 4 (by decide)
    have GZs := GZ.out.size
    go_wp2_with fail
    refine (PF.out 4 (by decide) wz).mono ?_
    rintro e wa ⟨⟨qa, ca, rfl, ha⟩, hga⟩
    have OA := Lib.hid ha
    have IR := Lib.hid (IsBytes.of_own rfl (own_grown RO.out hga))
    have GA := Lib.hid (grown_trans GZ.out hga)
    have GZA := Lib.hid hga
    clear ha hga RO
    go_wp2_with (at_builtin; refine wp_append_at rfl _ _ rfl rfl _ (encU 4).length _ rfl OA.out R R.length rfl rfl IR.out (by omega) GZA.out.size ?_)
    intro vb wb hob hgb hvb
    have GB := Lib.hid (grown_opt GA.out hgb (fun g e => by have := (OA.out.lt g e).1; have := GZ.out.size; omega))
    obtain ⟨qb, cb, rfl⟩ := own_slice hob
    obtain ⟨SB, hSB⟩ : ∃ L, L = saidB ⟨kind, true, (nv : Int), (nr : Int), (no : Int), other⟩ := ⟨_, rfl⟩
    have hsl : SB.length = (encU 4).length + R.length := by rw [hSB, HSB.out, List.length_append]
    have hsb : SB.map (Value.int .u8) = (encU 4).map (Value.int .u8) ++ R.map (Value.int .u8) := by rw [hSB, HSB.out, List.map_append]
    rw [← hsb, ← hsl] at hob
    have OB := Lib.hid hob
    have HSL := Lib.hid hsl
    have HFR := Lib.hid (show frontB (some ⟨kind, true, (nv : Int), (nr : Int), (no : Int), other⟩) = encU SB.length ++ SB by rw [frontB_some, hSB])
    rw [← hsl]
    have hs64 : SB.length < 18446744073709551616 := by omega
    have hsm : SB.length ≤ 1000000 := by omega
    clear hob hgb hvb OA IR hSB hsl hsb HSB
    have PS := Lib.hid (PF.out SB.length hs64 wb)
    have hSl := encU_10 SB.length hs64
    go_wp2_with fail
    refine PS.out.mono ?_
    rintro e wc ⟨⟨qc, cc, rfl, hc⟩, hgc⟩
    have OC := Lib.hid hc
    have IS := Lib.hid (IsBytes.of_own rfl (own_grown OB.out hgc))
    have GC := Lib.hid (grown_trans GB.out hgc)
    have GBC := Lib.hid hgc
    clear hc hgc OB
    go_wp2_with (at_builtin; refine wp_append_at rfl _ _ rfl rfl _ (encU SB.length).length _ rfl OC.out SB SB.length rfl rfl IS.out (by omega) GBC.out.size ?_)
    intro vd wd hod hgd hvd
    have GD := Lib.hid (grown_opt GC.out hgd (fun g e => by have := (OC.out.lt g e).1; have := GB.out.size; omega))
    obtain ⟨qd, cd, rfl⟩ := own_slice hod
    have F := Lib.hid (show BOut w wd (frontB (some ⟨kind, true, (nv : Int), (nr : Int), (no : Int), other⟩)) (.returned (.slice qd ((encU SB.length).length + SB.length) cd)) from by
      have hl : (frontB (some ⟨kind, true, (nv : Int), (nr : Int), (no : Int), other⟩)).length = (encU SB.length).length + SB.length := by rw [HFR.out, List.length_append]
      have hm : (frontB (some ⟨kind, true, (nv : Int), (nr : Int), (no : Int), other⟩)).map (Value.int .u8) = (encU SB.length).map (Value.int .u8) ++ SB.map (Value.int .u8) := by rw [HFR.out, List.map_append]
      refine ⟨⟨qd, cd, by rw [hl], ?_⟩, GD.out⟩
      rw [hl, hm]
      exact Go.Joins.ownsRow_le hod GB.out.size)
    clear hod hgd hvd OC IS
    go_wp2
    go_ret
    exact F.out
end Go.Proofs.Ytbnnlbdjjpmgeaa


namespace Go.Proofs.Ytbnnlbdjjpmgeaa
open Go.RowKit
variable {w w' W V : World}

def natI (l : List Nat) : List Int := List.map (fun p : Nat => (p : Int)) l
theorem natI_at {l : List Nat} {i : Nat} (h : i < l.length) : (natI l)[i]? = some ((l.getD i 0 : Nat) : Int) := by
  unfold natI
  rw [List.getElem?_map, List.getElem?_eq_getElem h, List.getD_eq_getElem?_getD, List.getElem?_eq_getElem h]
  rfl
theorem intCs_flat (l : List Int) : l.flatMap intCs = l.map (Value.int .i64) := by
  induction l with
  | nil => rfl
  | cons x l ih => rw [List.flatMap_cons, ih]; rfl
theorem intCs_one (x : Int) : ∀ u ∈ [Value.int .i64 x], u.oneCell' = true := fun u hu => by rw [List.mem_singleton.1 hu]; rfl
structure KdS (B : Nat) (W : World) (n : Nat) (vk vo : Value) (st : List Nat) (K : Nat → List Nat) : Prop where
  row : ∃ vs : List Value, W.ownsRow B 55 1 vk n vs ∧ (∀ (j : Nat) (v : Value), vs[j]? = some v → W.ownsRow B 3 1 v (K j).length ((natI (K j)).flatMap intCs)) ∧
    (∀ (i j : Nat) (u v : Value) (g : Nat), i ≠ j → vs[i]? = some u → vs[j]? = some v → u.ownBlock = some g → v.ownBlock ≠ some g) ∧ (∀ (j : Nat) (v : Value) (g : Nat), vs[j]? = some v → v.ownBlock = some g → vo.ownBlock ≠ some g)
  op : W.ownsRow B 3 1 vo st.length ((natI st.reverse).flatMap intCs)
theorem KdS.grown {B n : Nat} {vk vo : Value} {st : List Nat} {K : Nat → List Nat} (h : KdS B W n vk vo st K) (g : W.grownBy V none) : KdS B V n vk vo st K := by
  obtain ⟨vs, h1, h2, h3, h4⟩ := h.row
  exact ⟨⟨vs, own_grown h1 g, fun j v hv => own_grown (h2 j v hv) g, h3, h4⟩, own_grown h.op g⟩
theorem KdS.new {B n c g : Nat} (h : W.ownsRow B 55 1 (.slice (some ⟨g, 0, none⟩) n c) n (List.replicate n (.slice none 0 0))) : KdS B W n (.slice (some ⟨g, 0, none⟩) n c) (.slice none 0 0) [] (fun _ => []) := by
  have hnil : ∀ (j : Nat) (v : Value), (List.replicate n (Value.slice none 0 0))[j]? = some v → v = .slice none 0 0 := fun j v hv => by
    rw [List.getElem?_replicate] at hv
    split at hv
    · injection hv with hv; exact hv.symm
    · cases hv
  refine ⟨⟨_, h, fun j v hv => ?_, fun i j u v g _ hu _ hg => ?_, fun j v g hv hg => ?_⟩, World.ownsRow_nil _ _ _ _⟩
  · rw [hnil j v hv]; exact World.ownsRow_nil _ _ _ _
  · rw [hnil i u hu] at hg; cases hg
  · rw [hnil j v hv] at hg; cases hg
theorem run_step (N : List (List Int)) (i : Nat) (st : StK) : runK N (i + 1) 0 st = stepK N i (runK N i 0 st) := by
  rw [runK_add N i 1 0 st, Nat.zero_add]
  rfl
structure KdL (B : Nat) (w4 wr : World) (N : List (List Int)) (m : Nat) (vk v8 v9 : Value) : Prop where
  ex : ∃ (i : Nat) (st : List Nat) (K : Nat → List Nat) (q : Option Addr) (c : Nat), i ≤ m ∧ v9 = .int .i64 (i : Int) ∧ v8 = .slice q st.length c ∧ runK N i 0 ([], fun _ => []) = (st, K) ∧ KdS B wr m vk (.slice q st.length c) st K ∧ (∀ s ∈ st, s < i) ∧ st.length ≤ i ∧ ∀ j, (K j).length ≤ i
  grown : w4.grownBy wr none
structure KdP (B : Nat) (w4 wr : World) (N : List (List Int)) (nm : List Int) (m i : Nat) (vk v8 : Value) (st : List Nat) (K : Nat → List Nat) : Prop where
  ex : ∃ (st' : List Nat) (q : Option Addr) (c : Nat), v8 = .slice q st'.length c ∧ popN N nm st' = popN N nm st ∧ KdS B wr m vk (.slice q st'.length c) st' K ∧ (∀ s ∈ st', s < i) ∧ st'.length ≤ i
  grown : w4.grownBy wr none
theorem pop_no {N : List (List Int)} {nm : List Int} {a : Nat} {st : List Nat} (h : preB (N.getD a []) nm = false) : popN N nm (a :: st) = popN N nm st := by
  unfold popN
  rw [List.dropWhile_cons, h]
  rfl
theorem pop_yes {N : List (List Int)} {nm : List Int} {a : Nat} {st : List Nat} (h : preB (N.getD a []) nm = true) : popN N nm (a :: st) = a :: st := by
  unfold popN
  rw [List.dropWhile_cons, h]
  rfl
theorem KdS.pop {B n c a : Nat} {vk : Value} {q : Option Addr} {st : List Nat} {K : Nat → List Nat} (h : KdS B W n vk (.slice q (a :: st).length c) (a :: st) K) : KdS B W n vk (.slice q st.length c) st K := by
  obtain ⟨vs, h1, h2, h3, h4⟩ := h.row
  refine ⟨⟨vs, h1, h2, h3, fun j v g hv hg => ?_⟩, ?_⟩
  · have := h4 j v g hv hg
    cases q with
    | none => exact this
    | some ad => exact this
  · have h5 := own_shrink h.op (m := st.length) (by simp)
    rw [Nat.mul_one, intCs_flat, ← List.map_take] at h5
    rw [intCs_flat]
    have e : (natI (a :: st).reverse).take st.length = natI st.reverse := by
      unfold natI
      rw [← List.map_take, List.reverse_cons, List.take_left' (by simp)]
    rw [e] at h5
    exact h5
theorem KdS.top {B n c m a : Nat} {vk : Value} {q : Option Addr} {st : List Nat} {K : Nat → List Nat} (h : KdS B W n vk (.slice q m c) (a :: st) K) : m = st.length + 1 ∧ ∃ g, q = some ⟨g, 0, none⟩ ∧ W.cell? ⟨g, st.length, none⟩ = some (.int .i64 (a : Int)) := by
  have hm : m = st.length + 1 := by
    rcases h.op.2 with ⟨e, e0⟩ | ⟨_, _, _, e, _⟩
    · simp at e0
    · injection e
  subst hm
  have h1 : IntAt W q (natI (a :: st).reverse) := IntAt.of (n := st.length + 1) (c := c) h.op
  have h2 : (natI (a :: st).reverse)[st.length]? = some (a : Int) := by
    unfold natI
    rw [List.getElem?_map, List.reverse_cons, List.getElem?_append_right (by simp)]
    simp
  obtain ⟨g, e, hc⟩ := h1 _ _ h2
  exact ⟨rfl, g, e, hc⟩
theorem KdS.push {B n i : Nat} {vk vo v' : Value} {st : List Nat} {K : Nat → List Nat} (h : KdS B W n vk vo st K) (ho : V.ownsRow B 3 1 v' (st.length + 1) ((natI st.reverse).flatMap intCs ++ [.int .i64 (i : Int)])) (hg : W.grownBy V vo.ownBlock) (hv : v'.ownBlock = vo.ownBlock ∨ v'.ownBlock = some W.heap.size) :
    KdS B V n vk v' (i :: st) K := by
  obtain ⟨vs, h1, h2, h3, h4⟩ := h.row
  have hne : vo.ownBlock = none ∨ vo.ownBlock ≠ vk.ownBlock := by
    rcases rows_apart (by decide) h.op h1 with e | e
    · exact .inl e
    · exact .inr e
  refine ⟨⟨vs, ?_, fun j v hj => ?_, h3, fun j v g hj hvg => ?_⟩, ?_⟩
  · refine h1.kept hg ?_
    cases hk : vk.ownBlock with
    | none => exact .inl rfl
    | some g =>
      refine .inr fun e => ?_
      rcases hne with e1 | e1
      · rw [e1] at e; cases e
      · exact e1 (by rw [hk]; exact e.symm)
  · refine (h2 j v hj).kept hg ?_
    cases hk : v.ownBlock with
    | none => exact .inl rfl
    | some g => exact .inr fun e => h4 j v g hj hk e.symm
  · rcases hv with e | e
    · rw [e]; exact h4 j v g hj hvg
    · rw [e]
      intro e2
      injection e2 with e2
      have := (h2 j v hj).lt g hvg
      omega
  · have e : (natI (i :: st).reverse).flatMap intCs = (natI st.reverse).flatMap intCs ++ [.int .i64 (i : Int)] := by
      unfold natI
      rw [List.reverse_cons, List.map_append, List.flatMap_append]
      rfl
    rw [e]
    exact ho
theorem row_at1 {B n c g : Nat} {T : TypeId} {vs : List Value} (h : W.ownsRow B T 1 (.slice (some ⟨g, 0, none⟩) n c) n vs) {i : Nat} (hi : i < n) : W.cell? ⟨g, i, none⟩ = vs[i]? := by
  rcases h.2 with ⟨e, e0⟩ | ⟨g', cap, cur, e, _, hg, _, _, _, ht⟩
  · omega
  · injection e with e
    injection e with e
    injection e with e _ _
    subst e
    rw [cell_of hg, ← ht, List.getElem?_take, if_pos (by omega)]
    simp
theorem own_off {B B2 n m : Nat} {T T' : TypeId} {k k' : Nat} {v u : Value} {xs ys : List Value} (hT : T ≠ T') (h1 : W.ownsRow B T k v n xs) (h2 : W.ownsRow B2 T' k' u m ys) : v.ownBlock = none ∨ u.ownBlock ≠ v.ownBlock := by
  rcases rows_apart hT h1 h2 with e | e
  · exact .inl e
  · exact .inr (fun e2 => e e2.symm)
theorem KdS.get {B n c u g : Nat} {vo : Value} {st : List Nat} {K : Nat → List Nat} (h : KdS B W n (.slice (some ⟨g, 0, none⟩) n c) vo st K) (hun : u < n) : ∃ q' c', W.cell? ⟨g, u, none⟩ = some (.slice q' (K u).length c') ∧ W.ownsRow B 3 1 (.slice q' (K u).length c') (K u).length ((natI (K u)).flatMap intCs) := by
  obtain ⟨vs, h1, h2, h3, h4⟩ := h.row
  have hlen : vs.length = n := by have := h1.1; omega
  have e := row_at1 h1 hun
  rw [List.getElem?_eq_getElem (by omega)] at e
  have ho := h2 u _ (List.getElem?_eq_getElem (by omega))
  have hs : ∃ q c, vs[u] = .slice q (K u).length c := by
    rcases ho.2 with ⟨e1, e2⟩ | ⟨_, _, _, e1, _⟩
    · exact ⟨none, 0, by rw [e1, e2]⟩
    · exact ⟨_, _, e1⟩
  obtain ⟨q', c', hq⟩ := hs
  rw [hq] at e ho
  exact ⟨q', c', e, ho⟩
theorem KdS.seat {B n c u g : Nat} {vo v : Value} {st : List Nat} {K : Nat → List Nat} {m : Nat} {ys : List Value} (h : KdS B W n (.slice (some ⟨g, 0, none⟩) n c) vo st K) (hu : W.cell? ⟨g, u, none⟩ = some v) (hun : u < n) (hr : W.ownsRow B 3 1 v m ys) (hg : W.grownBy V v.ownBlock) :
    V.cell? ⟨g, u, none⟩ = some v ∧ V.frozen? ⟨g, u, none⟩ = false ∧ g < V.heap.size := by
  obtain ⟨vs, h1, h2, h3, h4⟩ := h.row
  have r1 : V.ownsRow B 55 1 (.slice (some ⟨g, 0, none⟩) n c) n vs := by
    refine h1.kept hg ?_
    rcases own_off (by decide) hr h1 with e | e
    · exact .inr (by rw [e]; simp [Value.ownBlock])
    · exact .inr e
  refine ⟨by rw [row_at1 r1 hun, ← row_at1 h1 hun]; exact hu, ?_⟩
  rcases r1.2 with ⟨e, e0⟩ | ⟨g', cap, cur, e, _, hb, _⟩
  · omega
  · injection e with e
    injection e with e
    injection e with e _ _
    subst e
    exact ⟨free_of hb, lt_of_block hb⟩
theorem KdS.kid {B n i c u g : Nat} {vo v v' : Value} {st : List Nat} {K : Nat → List Nat} (h : KdS B W n (.slice (some ⟨g, 0, none⟩) n c) vo st K) (hu : W.cell? ⟨g, u, none⟩ = some v) (hun : u < n)
    (ho : V.ownsRow B 3 1 v' ((K u).length + 1) ((natI (K u)).flatMap intCs ++ [.int .i64 (i : Int)])) (hg : W.grownBy V v.ownBlock) (hv : v'.ownBlock = v.ownBlock ∨ v'.ownBlock = some W.heap.size) :
    KdS B (V.setCell ⟨g, u, none⟩ v') n (.slice (some ⟨g, 0, none⟩) n c) vo st (fun j => if j = u then K j ++ [i] else K j) := by
  obtain ⟨vs, h1, h2, h3, h4⟩ := h.row
  have hlen : vs.length = n := by have := h1.1; omega
  have hvu : vs[u]? = some v := by rw [← row_at1 h1 hun]; exact hu
  have r1 : V.ownsRow B 55 1 (.slice (some ⟨g, 0, none⟩) n c) n vs := by
    refine h1.kept hg ?_
    rcases own_off (by decide) (h2 u v hvu) h1 with e | e
    · exact .inr (by rw [e]; simp [Value.ownBlock])
    · exact .inr e
  have r2 : ∀ (j : Nat) (x : Value), j ≠ u → vs[j]? = some x → V.ownsRow B 3 1 x (K j).length ((natI (K j)).flatMap intCs) := fun j x hj hx => by
    refine (h2 j x hx).kept hg ?_
    cases hk : x.ownBlock with
    | none => exact .inl rfl
    | some b => exact .inr fun e => h3 j u x v b hj hx hvu hk e.symm
  have r3 : V.ownsRow B 3 1 vo st.length ((natI st.reverse).flatMap intCs) := by
    refine h.op.kept hg ?_
    cases hk : vo.ownBlock with
    | none => exact .inl rfl
    | some b => exact .inr fun e => h4 u v b hvu e.symm hk
  have gs := grown_setCell (i := u) (grown_refl V (some g)) v'
  have off : ∀ {T : TypeId} {k m : Nat} {x : Value} {ys : List Value}, T ≠ 55 → V.ownsRow B T k x m ys → (V.setCell ⟨g, u, none⟩ v').ownsRow B T k x m ys := fun hT hr => by
    refine hr.kept gs ?_
    rcases rows_apart hT hr r1 with e | e
    · exact .inl e
    · exact .inr e
  have hnew : ∀ b, v'.ownBlock = some b → v.ownBlock = some b ∨ W.heap.size ≤ b := fun b hb => by
    rcases hv with e | e
    · exact .inl (by rw [← e]; exact hb)
    · right; rw [e] at hb; injection hb with hb; omega
  refine ⟨⟨vs.set u v', own_set r1 v', fun j x hx => ?_, fun a b x y z hab hx hy hxz hyz => ?_, fun j x b hx hb => ?_⟩, off (by decide) r3⟩
  · rw [List.getElem?_set] at hx
    by_cases hj : u = j
    · subst hj
      rw [if_pos rfl, if_pos (by omega)] at hx
      injection hx with hx
      subst hx
      rw [if_pos rfl]
      have e : (natI (K u ++ [i])).flatMap intCs = (natI (K u)).flatMap intCs ++ [.int .i64 (i : Int)] := by
        unfold natI
        rw [List.map_append, List.flatMap_append]
        rfl
      rw [e, List.length_append]
      exact off (by decide) ho
    · rw [if_neg hj] at hx
      rw [if_neg (fun e => hj e.symm)]
      exact off (by decide) (r2 j x (fun e => hj e.symm) hx)
  · rw [List.getElem?_set] at hx hy
    by_cases ha : u = a
    · subst ha
      rw [if_pos rfl, if_pos (by omega)] at hx
      rw [if_neg hab] at hy
      injection hx with hx
      subst hx
      rcases hnew z hxz with e | e
      · exact h3 u b v y z hab hvu hy e hyz
      · have := (h2 b y hy).lt z hyz
        omega
    · rw [if_neg ha] at hx
      by_cases hb : u = b
      · subst hb
        rw [if_pos rfl, if_pos (by omega)] at hy
        injection hy with hy
        subst hy
        rcases hnew z hyz with e | e
        · exact h3 u a v x z (fun e => hab e.symm) hvu hx e hxz
        · have := (h2 a x hx).lt z hxz
          omega
      · rw [if_neg hb] at hy
        exact h3 a b x y z hab hx hy hxz hyz
  · rw [List.getElem?_set] at hx
    by_cases hj : u = j
    · subst hj
      rw [if_pos rfl, if_pos (by omega)] at hx
      injection hx with hx
      subst hx
      rcases hnew b hb with e | e
      · exact h4 u v b hvu e
      · intro e2
        have := h.op.lt b e2
        omega
    · rw [if_neg hj] at hx
      exact h4 j x b hx hb
structure RmD (gx : Nat) (w0 wy : World) (vb : Value) (B : List Int) (m : Nat) (L : List Int) : Prop where
  b : wy.ownsRow w0.heap.size 5 1 vb B.length (B.map (Value.int .u8))
  n : wy.ownsRow w0.heap.size 3 1 (.slice (some ⟨gx, 0, none⟩) m m) m (L.flatMap intCs)
  grown : w0.grownBy wy none
theorem RmD.past {gx m : Nat} {w0 : World} {vb : Value} {B L : List Int} (h : RmD gx w0 W vb B m L) (g : W.grownBy V none) : RmD gx w0 V vb B m L := ⟨own_grown h.b g, own_grown h.n g, grown_trans h.grown g⟩
theorem RmD.step {gx m : Nat} {w0 : World} {vb vb' : Value} {B B' L : List Int} (h : RmD gx w0 W vb B m L) (k : RowTo W V w0.heap.size vb vb' B') : RmD gx w0 V vb' B' m L :=
  ⟨k.own, h.n.kept k.grown (rows_apart (by decide) h.n h.b), grown_opt h.grown k.grown (fun g e => (h.b.lt g e).1)⟩
theorem RmD.set {gx m i : Nat} {w0 : World} {vb : Value} {B L : List Int} (h : RmD gx w0 W vb B m L) (x : Int) : RmD gx w0 (W.setCell ⟨gx, i, none⟩ (.int .i64 x)) vb B m (L.set i x) := by
  have gs := grown_setCell (i := i) (grown_refl W (some gx)) (.int .i64 x)
  refine ⟨h.b.kept gs ?_, ?_, ?_⟩
  · rcases rows_apart (by decide) h.b h.n with e | e
    · exact .inl e
    · exact .inr e
  · have := own_set (i := i) h.n (.int .i64 x)
    rw [intCs_flat] at this ⊢
    rw [List.map_set]
    exact this
  · rcases h.n.2 with ⟨e, _⟩ | ⟨g', _, _, e, hg, _⟩
    · cases e
    · injection e with e
      injection e with e
      injection e with e _ _
      exact grown_opt h.grown gs (fun g e2 => by injection e2 with e2; omega)
theorem RmD.seat {gx m : Nat} {w0 : World} {vb : Value} {B L : List Int} (h : RmD gx w0 W vb B m L) {i : Nat} (hi : i < m) : (∃ x, W.cell? ⟨gx, i, none⟩ = some (.int .i64 x)) ∧ W.frozen? ⟨gx, i, none⟩ = false ∧ gx < W.heap.size := by
  have hl : L.length = m := by have := h.n.1; rw [intCs_flat, List.length_map] at this; omega
  refine ⟨⟨L.getD i 0, ?_⟩, ?_⟩
  · rw [row_at1 h.n hi, intCs_flat, List.getElem?_map, List.getElem?_eq_getElem (by omega), List.getD_eq_getElem?_getD, List.getElem?_eq_getElem (by omega)]
    rfl
  · rcases h.n.2 with ⟨e, _⟩ | ⟨g', _, _, e, _, hb, _⟩
    · cases e
    · injection e with e
      injection e with e
      injection e with e _ _
      subst e
      exact ⟨free_of hb, lt_of_block hb⟩
def nextL (pl : List Nat) (P : List PN) (m i : Nat) : List Int := natI ((placesF pl 0 P).take i ++ List.replicate (m - i) 0)
theorem nextL_zero (pl : List Nat) (P : List PN) (m : Nat) : (nextL pl P m 0).flatMap intCs = List.replicate m (Value.int .i64 0) := by
  unfold nextL natI
  rw [List.take_zero, List.nil_append, Nat.sub_zero, List.map_replicate, intCs_flat, List.map_replicate]
  rfl
theorem placesG_take (pl : List Nat) : ∀ (nodes : List PN) (s : Nat) (i : Nat), i < nodes.length → (placesF pl s nodes).take (i + 1) = (placesF pl s nodes).take i ++ [s + (layB pl (nodes.take i)).length]
  | [], _, _, h => by simp at h
  | nd :: l, s, 0, _ => by simp [placesF, layB]
  | nd :: l, s, i + 1, h => by
    have := placesG_take pl l (s + (nodeB pl nd).length) i (by simpa using h)
    simp only [placesF, List.take_succ_cons, List.cons_append] at this ⊢
    rw [this, layB, layB, List.flatMap_cons, List.length_append]
    congr 2
    simp only [List.cons.injEq, and_true]
    omega
theorem nextL_set {pl : List Nat} {P : List PN} {m i : Nat} (hP : P.length = m) (hi : i < m) : (nextL pl P m i).set i ((layB pl (P.take i)).length : Int) = nextL pl P m (i + 1) := by
  have h1 := placesG_take pl P 0 i (by omega)
  rw [Nat.zero_add] at h1
  have hl : ((placesF pl 0 P).take i).length = i := by rw [List.length_take, placesF_len]; omega
  unfold nextL natI
  rw [h1, List.map_append, List.map_append, List.map_append, List.set_append_right _ _ (by rw [List.length_map, hl]; omega), List.length_map, hl, Nat.sub_self]
  obtain ⟨k, hk⟩ : ∃ k, m - i = k + 1 := ⟨m - i - 1, by omega⟩
  rw [hk, show m - (i + 1) = k by omega, List.replicate_succ, List.map_cons, List.set_cons_zero, List.append_assoc]
  rfl
theorem nextL_all {pl : List Nat} {P : List PN} {m : Nat} (hP : P.length = m) : nextL pl P m m = natI (placesF pl 0 P) := by
  unfold nextL
  rw [List.take_of_length_le (by rw [placesF_len]; omega), Nat.sub_self, List.replicate_zero, List.append_nil]
structure RmG (w6 wr : World) (P : List PN) (m g : Nat) (v11 : Value) : Prop where
  ex : ∃ (t : Nat) (qp : Option Addr) (cp : Nat), m * 1099511627776 - sumN (roundsN P t) ≤ g ∧ v11 = .slice qp m cp ∧ IntAt wr qp (natI (roundsN P t)) ∧ m ≤ cp ∧ cp ≤ 9223372036854775807
  grown : w6.grownBy wr none
structure RmN (gx : Nat) (w0 wy : World) (N : List (List Int)) (P : List PN) (pl : List Nat) (m : Nat) (v12 v14 v15 : Value) : Prop where
  ex : ∃ (i : Nat) (qb : Option Addr) (cb : Nat), i ≤ m ∧ v15 = .int .i64 (i : Int) ∧ v14 = .int .i64 ((ownsN (N.take i) (P.take i)).length : Int) ∧ v12 = .slice qb (layB pl (P.take i)).length cb ∧ RmD gx w0 wy (.slice qb (layB pl (P.take i)).length cb) (layB pl (P.take i)) m (nextL pl P m i)
structure RmK (gx : Nat) (w0 wy : World) (pl : List Nat) (A : List Int) (kids : List (List Int × Nat)) (m : Nat) (L : List Int) (v12 v16 : Value) : Prop where
  ex : ∃ (j : Nat) (qb : Option Addr) (cb : Nat), j ≤ kids.length ∧ v16 = .int .i64 (j : Int) ∧ v12 = .slice qb (A ++ (kids.take j).flatMap (kidB pl)).length cb ∧ RmD gx w0 wy (.slice qb (A ++ (kids.take j).flatMap (kidB pl)).length cb) (A ++ (kids.take j).flatMap (kidB pl)) m L
theorem owns_next {N : List (List Int)} {P : List PN} {i : Nat} {nd : PN} (hN : N.length = P.length) (hi : P[i]? = some nd) : (ownsN (N.take (i + 1)) (P.take (i + 1))).length = (ownsN (N.take i) (P.take i)).length + (match nd.says with | none => 0 | some _ => 1) := by
  obtain ⟨h1, rfl⟩ := List.getElem?_eq_some_iff.1 hi
  rw [List.take_succ_eq_append_getElem h1, List.take_succ_eq_append_getElem (show i < N.length by omega), owns_app _ _ (by rw [List.length_take, List.length_take]; omega), List.length_append]
  simp only [ownsN, List.append_nil]
  cases P[i].says <;> rfl
theorem layB_take' (pl : List Nat) {nodes : List PN} {i : Nat} {nd : PN} (h : nodes[i]? = some nd) : layB pl (nodes.take (i + 1)) = layB pl (nodes.take i) ++ nodeB pl nd := by
  obtain ⟨hi, rfl⟩ := List.getElem?_eq_some_iff.1 h
  rw [List.take_succ_eq_append_getElem hi]
  unfold layB
  rw [List.flatMap_append, List.flatMap_singleton]
end Go.Proofs.Ytbnnlbdjjpmgeaa


namespace Go.Proofs.Ytbnnlbdjjpmgeaa
open Go.RowKit
variable {w w' W V : World} {base : Nat}

theorem ints_zero (n : Nat) : (natI (List.replicate n 0)).flatMap intCs = List.replicate n (Value.int .i64 0) := by
  unfold natI
  rw [List.map_replicate, intCs_flat, List.map_replicate]
  rfl
theorem layG_le (pl : List Nat) (nodes : List PN) (i : Nat) : (layB pl (nodes.take i)).length ≤ (layB pl nodes).length := by
  unfold layB
  conv => rhs; rw [← List.take_append_drop i nodes]
  rw [List.flatMap_append, List.length_append]
  omega
theorem kidsG_take (pl : List Nat) {kids : List (List Int × Nat)} {j : Nat} {k : List Int × Nat} (h : kids[j]? = some k) : (kids.take (j + 1)).flatMap (kidB pl) = (kids.take j).flatMap (kidB pl) ++ kidB pl k := by
  obtain ⟨hi, rfl⟩ := List.getElem?_eq_some_iff.1 h
  rw [List.take_succ_eq_append_getElem hi, List.flatMap_append, List.flatMap_singleton]
theorem kidsG_le (pl : List Nat) (kids : List (List Int × Nat)) (j : Nat) : ((kids.take j).flatMap (kidB pl)).length ≤ (kids.flatMap (kidB pl)).length := by
  conv => rhs; rw [← List.take_append_drop j kids]
  rw [List.flatMap_append, List.length_append]
  omega
theorem take_sameR {A C : List Nat} {i x y : Nat} (hx : A[i]? = some x) (hy : C[i]? = some y) : A.take (i + 1) = C.take (i + 1) ↔ A.take i = C.take i ∧ x = y := by
  obtain ⟨h1, rfl⟩ := List.getElem?_eq_some_iff.1 hx
  obtain ⟨h2, rfl⟩ := List.getElem?_eq_some_iff.1 hy
  rw [List.take_succ_eq_append_getElem h1, List.take_succ_eq_append_getElem h2]
  constructor
  · intro h
    have := List.append_inj h (by rw [List.length_take, List.length_take]; omega)
    exact ⟨this.1, by simpa using this.2⟩
  · rintro ⟨h, e⟩
    rw [h, e]
structure RmE (w8 wy : World) (A C : List Nat) (m : Nat) (v18 v19 : Value) : Prop where
  ex : ∃ (i : Nat) (b : Bool), i ≤ m ∧ v19 = .int .i64 (i : Int) ∧ v18 = .bool b ∧ (b = true ↔ A.take i = C.take i)
  grown : w8.grownBy wy none
theorem step_append_sto {ops : Array Oper} {o : Oper} {a : Act} {K : Act → World → Prop} {Q : Exit → Act → World → Prop} {E : Prop} (hgd : o.guard = none) (s x : Operand)
    (ho : o.op = .call { callee := .builtin .append, args := #[s, x], argTypes := #[25, 9] }) (hty : o.type = 25)
    {w0 : World} {v0 v : Value} {xs : List Int} (hs : a.eval s = v) (hr : RowTo w0 w base v0 v xs) (l : List Int) (hb : Byt l) (hx : a.eval x = .string (strOfNums l))
    (h63 : xs.length + l.length ≤ 140737488355328) (hbase : base ≤ w.heap.size)
    (h : ∀ q' c' w', RowTo w0 w' base v0 (.slice q' (xs.length + l.length) c') (xs ++ l) → K (a.put o.dst (.slice q' (xs.length + l.length) c')) w') :
    if Region.wanted o (yielded ops a.tmps) = true then Oper.wp Try.prog o a w K Q else E := by
  refine step_append_str hgd s x ho hty v xs.length (xs.map (Value.int .u8)) hs hr.own l hb hx h63 hbase ?_
  intro v' w' h1 h2 h3
  obtain ⟨q', c', rfl⟩ := own_slice h1
  refine h q' c' w' (hr.trans ⟨?_, h2, ?_⟩)
  · rw [List.length_append, List.map_append]
    exact h1
  · rcases h3 with h3 | h3
    · exact .inl h3
    · exact .inr ⟨_, h3, Nat.le_refl _⟩
end Go.Proofs.Ytbnnlbdjjpmgeaa

