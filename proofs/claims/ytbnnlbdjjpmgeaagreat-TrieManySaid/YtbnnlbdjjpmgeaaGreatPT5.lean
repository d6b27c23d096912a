/- Parts of the proof, put together: Ref2, TrR, TrS, TrD. No condition beyond those that each part names. -/
import Derived.Shelf.Small.Bits
import Derived.Shelf.Small.Strs
import Derived.Shelf.Strconv.Itoa0
import Derived.Shelf.Strings.Search1
import Derived.Shelf.Bytes.SlIndexAt
import Derived.Shelf.Bytes.SlSearch0
import Derived.Ground.SlbCloneProg
import Derived.Shelf.Bytes.SlClone
import Derived.Shelf.Bytes.IndexByte
import Derived.Test.YtbnnlbdjjpmgeaaGreatProg
import Derived.Test.YtbnnlbdjjpmgeaaGreatRows
import Derived.WalkKit
import Derived.WalkSpells
import Derived.WalkLawsBesides
import Derived.BigQuiet
import Derived.Deep.QuietTactic
import Derived.Lib.Hide
import Derived.IntWalk
import Derived.OneCell
import Derived.Laws.Rows
import Derived.OpenShut
import Derived.ProofKit
import Derived.Lib.EndianBits
import Derived.RegionTactic
import Derived.ChangeAlike
import Derived.WalkMore
import Derived.Laws.BytesArg
import Derived.Shelf.Bytes.SlEqualAll
import Derived.Lib.SlFresh
import Derived.Maps.AppendAt
import Derived.Deep.AppendSrc
import Derived.Deep.Upon
import Derived.Lib.AppendZeros
import Derived.Laws.IdiomStrings
import Derived.Lib.AppendZerosOnto
import Derived.Laws.StructEq
import Derived.Below
import Derived.Shelf.Abstract
import Derived.Laws.ResultCell
import Derived.Deep.Slices
import Derived.ChangeSame
import Derived.Laws.OwnMore
import Derived.Laws.Slices
import Derived.Lib.ConvBytes
import Derived.StringKeys
import Derived.Maps.Own
import Derived.Maps.OwnOps
import Derived.Maps.OwnSet
import Derived.WideShapes
import Derived.Deep.Cut
import Derived.Deep.CutRange
import Derived.PlainAid
import Derived.Lib.SlBytesRow
import Derived.Deep.Onto
import Derived.Laws.EntriesVeiled
import Derived.Shelf.SlSortCmp.WholeK
import Derived.Shelf.SlGeneric
import Derived.Ground.SlsfProg
import Derived.Deep.LoopGhost
import Derived.StillTailTactics
import Derived.Deep.RegionWith
import Derived.Deep.RegionHeld3
import Derived.Test.YtbnnlbdjjpmgeaaGreatPT1
import Derived.Test.YtbnnlbdjjpmgeaaGreatPT2
import Derived.Test.YtbnnlbdjjpmgeaaGreatPT3
import Derived.Test.YtbnnlbdjjpmgeaaGreatPT4
namespace Go.Proofs.YtbnnlbdjjpmgeaaGreat
open Go.RowKit
variable {w : World} {q : Option Addr} {c : Nat} {ys : List Int}

theorem refsize_any (h : IsBytes w q c ys) (hr : ∀ x ∈ ys, 0 ≤ x ∧ x < 256) (hb : ys.length ≤ 140737488355328) :
    Calls Tryz.prog 195 #[.slice q ys.length c] w fun e w' => e = .returned (.int .i64 (szN 10 ys)) ∧ w = w' := by
  have hcell : ∀ k, k < ys.length → ∃ x : Addr, q = some x ∧ w.cell? (x.add k) = some (.int .u8 (ys.getD k 0)) := by
    intro k hk
    rcases h.ways with ⟨_, rfl, _⟩ | ⟨x, rfl, hc⟩
    · simp at hk
    · exact ⟨x, rfl, hc k hk⟩
  have C := Lib.hid hcell
  have HR := Lib.hid hr
  clear hcell hr h
  go_enter Tryz.func195, Tryz.ntmps195
  go_wp2
  go_loop [3] (fun i => ∃ k : Nat, i = .int .i64 k ∧ k ≤ 10 ∧ k ≤ ys.length ∧ Hid (More ys k)) (fun i => 10 - (intOf i).toNat)
  case atStart => exact ⟨0, rfl, by omega, by omega, Lib.hid (fun i hi => by omega)⟩
  case round =>
    obtain ⟨k, rfl, hk, hl, M⟩ := hrel
    by_cases hend : k = 10
    · have hz := szN_long 10 ys (hend ▸ M.out)
      have Z := Lib.hid hz
      clear hz
      have hd : decide ((k : Int) < 10) = false := by simp; omega
      by_cases he : k < ys.length
      · go_wp2
        go_ret
        exact ⟨ret_int (by rw [Z.out]; rfl), rfl⟩
      · go_wp2
        go_ret
        exact ⟨ret_int (by rw [Z.out]; rfl), rfl⟩
    · by_cases he : k < ys.length
      · obtain ⟨x, rfl, hc⟩ := C.out k he
        have hx := HR.out (ys.getD k 0) (by simp [List.getD, he, List.getElem_mem])
        have hs : ys.getD k 0 < 128 → szN 10 ys = k + 1 := fun hlt => szN_end 10 k ys (by omega) he M.out hlt
        have hn : 128 ≤ ys.getD k 0 → More ys (k + 1) := fun h => M.out.succ h
        generalize ys.getD k 0 = y at *
        have S := Lib.hid hs
        have HN := Lib.hid hn
        clear hs hn
        by_cases hlt : y < 128
        · go_wp2
          go_ret
          exact ⟨ret_int (by rw [S.out hlt]; omega), rfl⟩
        · have hge : 128 ≤ y := by omega
          go_wp2
          go_round
          case rel => exact ⟨k + 1, by go_num, by omega, by omega, Lib.hid (HN.out hge)⟩
          case measure => simp [intOf]; omega
      · have hz := szN_short 10 ys (by rw [show ys.length = k by omega]; exact M.out)
        have Z := Lib.hid hz
        clear hz
        go_wp2
        go_ret
        exact ⟨ret_int (by rw [Z.out]; rfl), rfl⟩
theorem valN_drop_le (l : List Int) : ∀ j, valN (l.drop j) ≤ valN l := by
  induction l with
  | nil => intro j; simp
  | cons b l ih =>
    intro j
    cases j with
    | zero => exact Int.le_refl _
    | succ j =>
      have h1 := ih j
      have h2 := valN_bd l
      simp only [List.drop_succ_cons, valN]
      omega
theorem valN_drop_lt (l : List Int) (j : Nat) (hj : 1 ≤ j) : 128 * valN (l.drop j) ≤ valN l := by
  cases l with
  | nil => cases j <;> simp [valN]
  | cons b l =>
    obtain ⟨j, rfl⟩ : ∃ i, j = i + 1 := ⟨j - 1, by omega⟩
    have h1 := valN_drop_le l j
    simp only [List.drop_succ_cons, valN]
    omega
theorem drop_cons {l : List Int} {i : Nat} (h : i < l.length) : l.drop i = l.getD i 0 :: l.drop (i + 1) := by
  rw [List.drop_eq_getElem_cons h]; simp [h]
theorem getD_take {l : List Int} {s i : Nat} (h : i < s) : (l.take s).getD i 0 = l.getD i 0 := by simp [List.getD, h]
theorem uleb_eq {l : List Int} (h : valN (l.take (szN 10 l)) < 18446744073709551616) : ulebN l = (valN (l.take (szN 10 l)), szN 10 l) := by unfold ulebN; rw [if_pos h]
theorem uleb_ge {l : List Int} (h : 18446744073709551616 ≤ valN (l.take (szN 10 l))) : ulebN l = (0, 0) := uleb_no (.inr h)
theorem refuleb_any (h : IsBytes w q c ys) (hr : ∀ x ∈ ys, 0 ≤ x ∧ x < 256) (hb : ys.length ≤ 140737488355328) :
    Calls Tryz.prog 162 #[.slice q ys.length c] w fun e w' => e = .returned (.tuple #[.int .u64 (ulebN ys).1, .int .i64 (ulebN ys).2]) ∧ w = w' := by
  have SZ := Lib.hid (refsize_any h hr hb)
  have hcell : ∀ k, k < ys.length → ∃ x : Addr, q = some x ∧ w.cell? (x.add k) = some (.int .u8 (ys.getD k 0)) := by
    intro k hk
    rcases h.ways with ⟨_, rfl, _⟩ | ⟨x, rfl, hc⟩
    · simp at hk
    · exact ⟨x, rfl, hc k hk⟩
  have C := Lib.hid hcell
  have HR := Lib.hid hr
  have hs := szN_le 10 ys
  have YE := Lib.hid (uleb_eq (l := ys))
  have NO := Lib.hid (uleb_ge (l := ys))
  generalize szN 10 ys = s at *
  generalize ulebN ys = r at *
  clear hcell hr h
  go_enter Tryz.func162, Tryz.ntmps162
  go_wp2_with fail
  refine SZ.out.mono ?_
  rintro e w' ⟨rfl, rfl⟩
  go_wp2
  go_loop [4, 6] (fun n i => ∃ (j : Nat) (v : Int), i = .int .i64 ((j : Int) - 1) ∧ n = .int .u64 v ∧ j ≤ s ∧ 0 ≤ v ∧ v < 18446744073709551616 ∧ Hid (v = valN ((ys.take s).drop j))) (fun _ i => (intOf i + 1).toNat)
  case atStart => exact ⟨s, 0, by go_num, rfl, by omega, by omega, by omega, Lib.hid (by rw [List.drop_eq_nil_of_le (by simp; omega)]; rfl)⟩
  case round =>
    obtain ⟨j, v, rfl, rfl, hj, hv0, hv1, V⟩ := hrel
    rcases Nat.eq_zero_or_pos j with rfl | hpos
    · have hv := V.out
      rw [List.drop_zero] at hv
      have hy := YE.out (by rw [← hv]; exact hv1)
      rw [← hv] at hy
      have Y := Lib.hid hy
      clear hv hy
      go_wp2
      go_ret2
      rw [Y.out]
      exact ⟨rfl, rfl⟩
    · obtain ⟨i, rfl⟩ : ∃ i, j = i + 1 := ⟨j - 1, by omega⟩
      have e1 : ((i + 1 : Nat) : Int) - 1 = (i : Int) := by omega
      rw [e1]
      by_cases hbig : 144115188075855872 ≤ v
      · have hn := NO.out (by have := valN_drop_lt (ys.take s) (i + 1) (by omega); rw [← V.out] at this; omega)
        have N := Lib.hid hn
        clear hn e1
        go_wp2
        go_ret2
        rw [N.out]
        exact ⟨rfl, rfl⟩
      · obtain ⟨x, rfl, hc⟩ := C.out i (by omega)
        have hx := HR.out (ys.getD i 0) (by simp [List.getD, show i < ys.length by omega, List.getElem_mem])
        have hd : (ys.take s).drop i = ys.getD i 0 :: (ys.take s).drop (i + 1) := by rw [drop_cons (by simp; omega), getD_take (by omega)]
        generalize ys.getD i 0 = y at *
        have D := Lib.hid hd
        clear hd e1
        go_wp2
        go_round
        case rel => exact ⟨i, v * 128 + y % 128, by go_num, by go_num, by omega, by omega, by omega, Lib.hid (by rw [D.out, V.out]; simp only [valN]; omega)⟩
        case measure => simp [intOf]
end Go.Proofs.YtbnnlbdjjpmgeaaGreat


namespace Go.Proofs.YtbnnlbdjjpmgeaaGreat
open Go.RowKit
variable {w w' W : World} {g b o c : Nat} {xs : List Int} {s s' : Cs}

def ulR (xs : List Int) (s : Cs) : Int × Cs := ((ulebN (xs.drop s.1)).1, (s.1 + (ulebN (xs.drop s.1)).2, s.2 || decide ((ulebN (xs.drop s.1)).2 = 0)))
def txR (xs : List Int) (s : Cs) : List Int × Cs :=
  if (pre (xs.drop s.1)).length < (xs.drop s.1).length ∧ (pre (xs.drop s.1)).length ≤ 255 then (pre (xs.drop s.1), (s.1 + (pre (xs.drop s.1)).length + 1, s.2)) else ([], (s.1, true))
theorem simR_ul (xs : List Int) (s : Cs) : Sim ulP xs s (ulR xs s).1 (ulR xs s).2 := by
  unfold ulR
  refine ⟨Nat.le_add_right _ _, fun e => ?_, fun hb e => ?_⟩
  · simp only [Bool.or_eq_false_iff, decide_eq_false_iff_not] at e
    refine ⟨e.1, ?_⟩
    unfold ulP
    rw [if_neg e.2, Nat.add_sub_cancel_left]
  · simp only [hb, Bool.false_or, decide_eq_true_eq] at e
    unfold ulP
    rw [if_pos e]
theorem simR_tx (xs : List Int) (s : Cs) : Sim txP xs s (txR xs s).1 (txR xs s).2 := by
  unfold txR
  split
  · rename_i h
    refine ⟨by simp only []; omega, fun e => ⟨e, ?_⟩, fun hb e => by rw [hb] at e; cases e⟩
    unfold txP
    rw [if_pos h]
    simp only [Option.some.injEq, Prod.mk.injEq, true_and]
    omega
  · rename_i h
    refine Sim.bad (Nat.le_refl _) rfl (fun _ => ?_)
    unfold txP
    rw [if_neg h]
theorem ulR_le {xs : List Int} {s : Cs} (h : s.1 ≤ xs.length) : (ulR xs s).2.1 ≤ xs.length := by
  unfold ulR
  simp only []
  by_cases h0 : (ulebN (xs.drop s.1)).2 = 0
  · omega
  · obtain ⟨h1, _⟩ := uleb_size h0
    have := (szN_le 10 (xs.drop s.1)).2
    rw [List.length_drop] at this
    omega
theorem txR_le {xs : List Int} {s : Cs} (h : s.1 ≤ xs.length) : (txR xs s).2.1 ≤ xs.length := by
  unfold txR
  split
  · rename_i h1
    have := h1.1
    rw [List.length_drop] at this
    simp only []
    omega
  · exact h
theorem ulR_bd {xs : List Int} {s : Cs} : 0 ≤ (ulR xs s).1 ∧ (ulR xs s).1 < 18446744073709551616 := by
  unfold ulR
  simp only []
  by_cases h : (ulebN (xs.drop s.1)).2 = 0
  · rw [uleb_none h]; simp
  · obtain ⟨_, h2, h3⟩ := uleb_size h
    have := valN_bd ((xs.drop s.1).take (szN 10 (xs.drop s.1)))
    omega
theorem uleb_ten (l : List Int) : (ulebN l).2 ≤ 10 := by
  by_cases h : (ulebN l).2 = 0
  · omega
  · obtain ⟨h1, _⟩ := uleb_size h
    have := (szN_le 10 l).1
    omega
structure Rd (w : World) (g b o c : Nat) (xs : List Int) (s : Cs) : Prop where
  blk : w.heap[g]? = some (.cells #[.slice (some ⟨b, o, none⟩) xs.length c, .int .i64 s.1, .bool s.2] 203 (0, 0))
  cell : ∀ i, i < xs.length → w.cell? ⟨b, o + i, none⟩ = some (.int .u8 (xs.getD i 0))
  room : xs.length ≤ c
  top : c ≤ 9223372036854775807
  le : s.1 ≤ xs.length
  big : xs.length ≤ 140737488355328
  byt : Byt xs
  ne : b ≠ g
theorem Rd.c0 (h : Rd w g b o c xs s) : w.cell? ⟨g, 0, none⟩ = some (.slice (some ⟨b, o, none⟩) xs.length c) := by rw [cell_of h.blk]; rfl
theorem Rd.c1 (h : Rd w g b o c xs s) : w.cell? ⟨g, 1, none⟩ = some (.int .i64 s.1) := by rw [cell_of h.blk]; rfl
theorem Rd.c2 (h : Rd w g b o c xs s) : w.cell? ⟨g, 2, none⟩ = some (.bool s.2) := by rw [cell_of h.blk]; rfl
theorem Rd.f (h : Rd w g b o c xs s) (i : Nat) : w.frozen? ⟨g, i, none⟩ = false := free_of h.blk
theorem Rd.lt (h : Rd w g b o c xs s) : g < w.heap.size := lt_of_block h.blk
theorem Rd.kept {r : Option Nat} (h : Rd w g b o c xs s) (hg : w.grownBy w' r) (h1 : r ≠ some g) (h2 : r ≠ some b) : Rd w' g b o c xs s :=
  ⟨(hg.block g (lt_of_block h.blk) (fun e => h1 e.symm)).trans h.blk, fun i hi => hg.cell (h.cell i hi) (fun e => h2 e.symm), h.room, h.top, h.le, h.big, h.byt, h.ne⟩
theorem Rd.grown (h : Rd w g b o c xs s) (hg : w.grownBy w' none) : Rd w' g b o c xs s := h.kept hg (by simp) (by simp)
theorem Rd.drewN (h : Rd w g b o c xs s) (n : Nat) : Rd (w.drewN n) g b o c xs s := h.grown (grown_drewN (grown_refl w none) n)
theorem Rd.set (h : Rd w g b o c xs s) {W : World} (hg : w.grownBy W (some g)) (hb : W.heap[g]? = some (.cells #[.slice (some ⟨b, o, none⟩) xs.length c, .int .i64 s'.1, .bool s'.2] 203 (0, 0))) (hl : s'.1 ≤ xs.length) : Rd W g b o c xs s' :=
  ⟨hb, fun i hi => hg.cell (h.cell i hi) (fun e => h.ne (by injection e)), h.room, h.top, hl, h.big, h.byt, h.ne⟩
theorem Rd.step (h : Rd w g b o c xs s) (k : Nat) (bad : Bool) (p : Nat) {P : Int} (hP : P = p) (hl : p ≤ xs.length) : Rd (((w.drewN k).setCell ⟨g, 2, none⟩ (.bool bad)).setCell ⟨g, 1, none⟩ (.int .i64 P)) g b o c xs (p, bad) := by
  subst hP
  refine h.set (s' := (p, bad)) (grown_setCell (grown_setCell (grown_drewN (grown_refl w _) k) _) _) ?_ hl
  rw [heap_setCell_same _ g 1 _ _ _ (heap_setCell_same _ g 2 _ _ _ (h.drewN k).blk)]
  rfl
theorem Rd.grow (_h : Rd w g b o c xs s) (k : Nat) (bad : Bool) (P : Int) : w.grownBy (((w.drewN k).setCell ⟨g, 2, none⟩ (.bool bad)).setCell ⟨g, 1, none⟩ (.int .i64 P)) (some g) :=
  grown_setCell (grown_setCell (grown_drewN (grown_refl w _) k) _) _
set_option maxRecDepth 20000 in
set_option maxHeartbeats 1600000 in
theorem number9_any (h : Rd w g b o c xs s) :
    Calls Tryz.prog 121 #[.pointer (some ⟨g, 0, none⟩)] w fun e w' => e = .returned (.int .u64 (ulR xs s).1) ∧ Rd w' g b o c xs (ulR xs s).2 ∧ w.grownBy w' (some g) := by
  have hle := h.le
  have hbig := h.big
  have hroom := h.room
  have htop := h.top
  have c0 := h.c0
  have c1 := h.c1
  have c2 := h.c2
  have hl2 := ulR_le h.le
  have hten := uleb_ten (xs.drop s.1)
  obtain ⟨V, hV, hB, _⟩ := cut_bytes h.cell h.room h.le .i64
  have hlen : (xs.drop s.1).length = xs.length - s.1 := by simp
  have UL := Lib.hid (fun n => quiet_eq (refuleb_any (w := w.drewN n) (hB.drewN n) (h.byt.drop _) (by omega)))
  unfold ulR at hl2 ⊢
  rw [hlen] at UL
  obtain ⟨⟨v, n⟩, hr⟩ : ∃ r, r = ulebN (xs.drop s.1) := ⟨_, rfl⟩
  rw [← hr] at UL hl2 hten ⊢
  have H := Lib.hid h
  have f1 := h.f 1
  have f2 := h.f 2
  obtain ⟨N, hN⟩ : ∃ N, N = xs.length := ⟨_, rfl⟩
  rw [← hN] at hle hbig hroom c0 UL hl2 hV
  have HN := Lib.hid hN
  obtain ⟨p, bad⟩ := s
  simp only [] at hle c1 c2 UL hl2 hV hten ⊢
  clear h hr hlen hN hB
  rw [HN.out] at hl2
  have FIN := Lib.hid (fun k b2 P hP => And.intro (H.out.step k b2 (p + n) (P := P) hP hl2) (H.out.grow k b2 P))
  by_cases h0 : n = 0
  · have d0 : ((n : Int) == 0) = true := by subst h0; rfl
    have d1 : decide (n = 0) = true := decide_eq_true h0
    clear h0
    cases bad
    all_goals
      go_enter Tryz.func121, Tryz.ntmps121
      go_wp2
      go_quiet ((go_at_call 162; exact Calls.quiet_of_same (UL.out _)))
      go_wp2
      go_ret
      rw [d1]
      exact ⟨rfl, FIN.out _ _ _ (by omega)⟩
  · have d0 : ((n : Int) == 0) = false := by rw [beq_eq_false_iff_ne]; omega
    have d1 : decide (n = 0) = false := decide_eq_false h0
    clear h0
    cases bad
    all_goals
      go_enter Tryz.func121, Tryz.ntmps121
      go_wp2
      go_quiet ((go_at_call 162; exact Calls.quiet_of_same (UL.out _)))
      go_wp2
      go_ret
      rw [d1]
      exact ⟨rfl, FIN.out _ _ _ (by omega)⟩
theorem Rd.bad (h : Rd w g b o c xs s) (k : Nat) : Rd ((w.drewN k).setCell ⟨g, 2, none⟩ (.bool true)) g b o c xs (s.1, true) := by
  refine h.set (s' := (s.1, true)) (grown_setCell (grown_drewN (grown_refl w _) k) _) ?_ h.le
  rw [heap_setCell_same _ g 2 _ _ _ (h.drewN k).blk]
  rfl
theorem Rd.go (h : Rd w g b o c xs s) (k p : Nat) {P : Int} (hP : P = p) (hl : p ≤ xs.length) : Rd ((w.drewN k).setCell ⟨g, 1, none⟩ (.int .i64 P)) g b o c xs (p, s.2) := by
  subst hP
  refine h.set (s' := (p, s.2)) (grown_setCell (grown_drewN (grown_refl w _) k) _) ?_ hl
  rw [heap_setCell_same _ g 1 _ _ _ (h.drewN k).blk]
  rfl
theorem grown_dset (w : World) (k g i : Nat) (v : Value) : w.grownBy ((w.drewN k).setCell ⟨g, i, none⟩ v) (some g) := grown_setCell (grown_drewN (grown_refl w _) k) _
set_option maxRecDepth 20000 in
set_option maxHeartbeats 1600000 in
theorem text9_any (h : Rd w g b o c xs s) :
    Calls Tryz.prog 123 #[.pointer (some ⟨g, 0, none⟩)] w fun e w' => e = .returned (.string (strOfNums (txR xs s).1)) ∧ Rd w' g b o c xs (txR xs s).2 ∧ w.grownBy w' (some g) := by
  have hle := h.le
  have hbig := h.big
  have hroom := h.room
  have htop := h.top
  have c0 := h.c0
  have c1 := h.c1
  have c2 := h.c2
  have f1 := h.f 1
  have f2 := h.f 2
  have hl2 := txR_le h.le
  obtain ⟨V, hV, hB, hV2⟩ := cut_bytes h.cell h.room h.le .i64
  have hVf : ∃ b' o', V = some ⟨b', o', none⟩ := by
    obtain ⟨V', hV', h'⟩ := cut_lo (T := 29) (k := 1) (by kernel_rfl) (fun W => by kernel_rfl) b o xs.length c s.1 .i64 h.le
    have e := (hV w).symm.trans (hV' w)
    injection e with e _
    injection e with e _ _
    subst e
    rcases h' with ⟨rfl, _⟩ | rfl
    · exact ⟨_, _, rfl⟩
    · exact ⟨_, _, rfl⟩
  obtain ⟨b', o', rfl⟩ := hVf
  have hlen : (xs.drop s.1).length = xs.length - s.1 := by simp
  have UL := Lib.hid (fun n => name01_any (w := w.drewN n) b' o' (c - s.1) _ _ (hB.drewN n) hlen (by omega) (by omega))
  have H := Lib.hid h
  have hpl := pre_le (xs.drop s.1)
  rw [hlen] at hpl
  unfold txR at hl2 ⊢
  rw [hlen] at hl2 ⊢
  generalize pre (xs.drop s.1) = T at *
  have hsz : (strOfNums T).size = T.length := strOfNums_size _
  obtain ⟨k, hk⟩ : ∃ k, k = T.length := ⟨_, rfl⟩
  rw [← hk] at hpl hl2 hsz ⊢
  obtain ⟨S, hS⟩ : ∃ S, S = strOfNums T := ⟨_, rfl⟩
  rw [← hS] at hsz UL
  have HS := Lib.hid hS
  have BAD := Lib.hid (fun n => And.intro (H.out.bad n) (grown_dset w n g 2 (.bool true)))
  obtain ⟨N, hN⟩ : ∃ N, N = xs.length := ⟨_, rfl⟩
  rw [← hN] at hle hbig hroom c0 UL hl2 hV hpl ⊢
  have HN := Lib.hid hN
  obtain ⟨p, bad⟩ := s
  simp only [] at hle c1 c2 UL hl2 hV BAD hpl ⊢
  clear h hlen hN hB hV2 hk hS
  by_cases hA : 255 < k
  · have d1 : decide ((255 : Int) < (k : Int)) = true := by simp; omega
    rw [if_neg (by omega)]
    go_enter Tryz.func123, Tryz.ntmps123
    go_wp2
    go_quiet ((go_at_call 108; exact Calls.quiet_of_same (UL.out _)))
    go_wp2
    go_quiet (fail)
    go_wp2
    go_ret
    exact ⟨rfl, BAD.out _⟩
  have d1 : decide ((255 : Int) < (k : Int)) = false := by simp; omega
  by_cases hE : N ≤ p + k
  · have d2 : decide ((N : Int) ≤ (p : Int) + (k : Int)) = true := by simp; omega
    rw [if_neg (by omega)]
    go_enter Tryz.func123, Tryz.ntmps123
    go_wp2
    go_quiet ((go_at_call 108; exact Calls.quiet_of_same (UL.out _)))
    go_wp2
    go_quiet (fail)
    go_wp2
    go_ret
    exact ⟨rfl, BAD.out _⟩
  · have d2 : decide ((N : Int) ≤ (p : Int) + (k : Int)) = false := by simp; omega
    have hc : k < N - p ∧ k ≤ 255 := by omega
    rw [if_pos hc] at hl2 ⊢
    simp only [] at hl2
    rw [HN.out] at hl2
    have GO := Lib.hid (fun n P hP => And.intro (H.out.go n (p + k + 1) (P := P) hP hl2) (grown_dset w n g 1 (.int .i64 P)))
    go_enter Tryz.func123, Tryz.ntmps123
    go_wp2
    go_quiet ((go_at_call 108; exact Calls.quiet_of_same (UL.out _)))
    go_wp2
    go_quiet (fail)
    go_wp2
    go_ret
    rw [HS.out]
    exact ⟨rfl, GO.out _ _ (by omega)⟩
end Go.Proofs.YtbnnlbdjjpmgeaaGreat


namespace Go.Proofs.YtbnnlbdjjpmgeaaGreat
open Go.RowKit
variable {w w' W : World} {b o c : Nat} {xs : List Int} {s s' : Cs}

structure RsI (w0 W : World) (g b o c : Nat) (xs : List Int) (s : Cs) (g0 g1 : Nat) (x : Ex) : Prop where
  rd : Rd W g b o c xs s
  res : ExAt W g0 ⟨#[]⟩ Ex.zero
  ex : ExAt W g1 ⟨#[]⟩ x
  grown : w0.grownBy W none
  newg : w0.heap.size ≤ g
  new0 : w0.heap.size ≤ g0
  new1 : w0.heap.size ≤ g1
  n01 : g0 ≠ g1
  n0g : g0 ≠ g
  n1g : g1 ≠ g
  old : b < w0.heap.size
section
variable {w0 : World} {g g0 g1 : Nat} {x x' : Ex}
theorem RsI.call (h : RsI w0 W g b o c xs s g0 g1 x) (hp : Rd w' g b o c xs s') (hg : W.grownBy w' (some g)) : RsI w0 w' g b o c xs s' g0 g1 x :=
  ⟨hp, h.res.kept hg (by intro e; injection e with e; exact h.n0g e.symm), h.ex.kept hg (by intro e; injection e with e; exact h.n1g e.symm), grown_new h.grown hg h.newg, h.newg, h.new0, h.new1, h.n01, h.n0g, h.n1g, h.old⟩
theorem RsI.set (h : RsI w0 W g b o c xs s g0 g1 x) (hg : W.grownBy w' (some g1)) (he : ExAt w' g1 ⟨#[]⟩ x') : RsI w0 w' g b o c xs s g0 g1 x' :=
  ⟨h.rd.kept hg (by intro e; injection e with e; exact h.n1g e) (by intro e; injection e with e; have := h.new1; have := h.old; omega), h.res.kept hg (by intro e; injection e with e; exact h.n01 e.symm), he, grown_new h.grown hg h.new1, h.newg, h.new0, h.new1, h.n01, h.n0g, h.n1g, h.old⟩
theorem RsI.fin (h : RsI w0 W g b o c xs s g0 g1 x) (y : Ex) :
    ExAt (((((((W.setCell ⟨g0, 0, none⟩ (.string ⟨#[]⟩)).setCell ⟨g0, 1, none⟩ (.int .i64 y.kind)).setCell ⟨g0, 2, none⟩ (.bool y.weak)).setCell ⟨g0, 3, none⟩ (.int .u64 y.value)).setCell ⟨g0, 4, none⟩ (.int .u64 y.resolver)).setCell ⟨g0, 5, none⟩ (.int .u64 y.ordinal)).setCell ⟨g0, 6, none⟩ (.string (strOfNums y.other))) g0 ⟨#[]⟩ y ∧
      w0.grownBy (((((((W.setCell ⟨g0, 0, none⟩ (.string ⟨#[]⟩)).setCell ⟨g0, 1, none⟩ (.int .i64 y.kind)).setCell ⟨g0, 2, none⟩ (.bool y.weak)).setCell ⟨g0, 3, none⟩ (.int .u64 y.value)).setCell ⟨g0, 4, none⟩ (.int .u64 y.resolver)).setCell ⟨g0, 5, none⟩ (.int .u64 y.ordinal)).setCell ⟨g0, 6, none⟩ (.string (strOfNums y.other))) none :=
  ⟨h.res.put _ y, grown_new h.grown (grown_put7 (grown_refl W (some g0)) _ _ _ _ _ _ _) h.new0⟩
theorem ExAt.drew {nm : ByteArray} (h : ExAt W g nm x) : ExAt W.drew g nm x := h
end
theorem results_ex2 {fn : Func} {p u : Tmp} {g : Nat} {nm : ByteArray} {x : Ex} (hr : fn.results = #[.cell p 28, .tmp u]) {tmps : Array Value} {y : Value} (hp : tmps.getD p undef = .pointer (some ⟨g, 0, none⟩)) (hu : tmps.getD u undef = y) (h : ExAt w g nm x) :
    (results fn tmps).run Tryz.prog w = .ok (.tuple #[exV nm x, y]) w := by
  rw [results_cell_tmp hr, hp, hu, show (asAddr (.pointer (some ⟨g, 0, none⟩)) : Sem Addr).run Tryz.prog w = .ok ⟨g, 0, none⟩ w from rfl, Result.andThen_ok, load_ex h, Result.andThen_ok]
structure SayOut (w w' : World) (xs : List Int) (e : Ending) : Prop where
  ex : ∃ x r, e = .returned (.tuple #[exV ⟨#[]⟩ x, .bool r]) ∧ (r = true → sayP xs = some (x, xs.length)) ∧ (r = false → ∀ y, sayP xs ≠ some (y, xs.length))
  grown : w.grownBy w' none
theorem say_end {x : Ex} {s2 : Cs} (h : Sim sayP xs (0, false) x s2) : ((!s2.2 && decide (s2.1 = xs.length)) = true → sayP xs = some (x, xs.length)) ∧ ((!s2.2 && decide (s2.1 = xs.length)) = false → ∀ y, sayP xs ≠ some (y, xs.length)) := by
  refine ⟨fun h1 => ?_, fun h1 y hy => ?_⟩
  · simp only [Bool.and_eq_true, Bool.not_eq_true', decide_eq_true_eq] at h1
    have := (h.ok h1.1).2
    rw [List.drop_zero, h1.2] at this
    exact this
  · cases hb : s2.2 with
    | true => have := h.no rfl hb; rw [List.drop_zero, hy] at this; cases this
    | false =>
      have := (h.ok hb).2
      rw [List.drop_zero, hy] at this
      injection this with this
      injection this with _ this
      rw [hb] at h1
      simp only [Bool.not_false, Bool.true_and, decide_eq_false_iff_not] at h1
      exact h1 this.symm
set_option maxRecDepth 20000 in
set_option maxHeartbeats 3200000 in
theorem says_any (hx : ∀ i, i < xs.length → w.cell? ⟨b, o + i, none⟩ = some (.int .u8 (xs.getD i 0))) (hc : xs.length ≤ c) (hcm : c ≤ 9223372036854775807) (hb : b < w.heap.size) (hbig : xs.length ≤ 140737488355328) (hr : Byt xs) :
    Calls Tryz.prog 122 #[.slice (some ⟨b, o, none⟩) xs.length c] w fun e w' => SayOut w w' xs e := by
  have g1 := grown1 w (.cells #[.string ⟨#[]⟩, .int .i64 0, .bool false, .int .u64 0, .int .u64 0, .int .u64 0, .string ⟨#[]⟩] 28)
  have r1 : ExAt (w.alloc (.cells #[.string ⟨#[]⟩, .int .i64 0, .bool false, .int .u64 0, .int .u64 0, .int .u64 0, .string ⟨#[]⟩] 28)) w.heap.size ⟨#[]⟩ Ex.zero := heap_alloc_new w _
  obtain ⟨w1, hw1⟩ : ∃ w1, w.alloc (.cells #[.string ⟨#[]⟩, .int .i64 0, .bool false, .int .u64 0, .int .u64 0, .int .u64 0, .string ⟨#[]⟩] 28) = w1 := ⟨_, rfl⟩
  obtain ⟨g0, hg0⟩ : ∃ g0, w.heap.size = g0 := ⟨_, rfl⟩
  rw [hw1] at g1 r1
  rw [hg0] at r1
  have g2 := grown1 w1 (.cells #[.slice (some ⟨b, o, none⟩) xs.length c, .int .i64 0, .bool false] 203)
  have gl := r1.lt
  have R2 := Lib.hid (show Rd (w1.alloc (.cells #[.slice (some ⟨b, o, none⟩) xs.length c, .int .i64 0, .bool false] 203)) w1.heap.size b o c xs (0, false) from
    ⟨heap_alloc_new w1 _, fun i hi => grown_cell g2 (grown_cell g1 (hx i hi)), hc, hcm, Nat.zero_le _, hbig, hr, by omega⟩)
  have E2 := Lib.hid (r1.kept g2 (by simp))
  have G2 := Lib.hid (grown_trans g1 g2)
  have N2 := Lib.hid (show g0 ≠ w1.heap.size by omega)
  have M2 := Lib.hid (show w.heap.size ≤ w1.heap.size from g1.size)
  obtain ⟨w2, hw2⟩ : ∃ w2, w1.alloc (.cells #[.slice (some ⟨b, o, none⟩) xs.length c, .int .i64 0, .bool false] 203) = w2 := ⟨_, rfl⟩
  obtain ⟨g, hg⟩ : ∃ g, w1.heap.size = g := ⟨_, rfl⟩
  rw [hw2] at R2 E2 G2
  rw [hg] at R2 N2 M2
  have HW1 := Lib.hid hw1
  have HG0 := Lib.hid hg0
  have HW2 := Lib.hid hw2
  have HG := Lib.hid hg
  have HB := Lib.hid hb
  clear g1 r1 hw1 hg0 g2 gl hw2 hg hx hb hr
  have S0 := Lib.hid (simR_ul xs (0, false))
  have B0 := Lib.hid (ulR_bd (xs := xs) (s := (0, false)))
  go_enter Tryz.func122, Tryz.ntmps122
  go_upto_region 1 with fail
  rw [HW1.out, HG0.out]
  go_upto_region 2 with fail
  rw [HW2.out, HG.out]
  go_wp2_with fail
  refine (number9_any R2.out).mono ?_
  rintro e w3 ⟨rfl, hp, hg⟩
  obtain ⟨F, hF⟩ : ∃ F, F = (ulR xs (0, false)).1 := ⟨_, rfl⟩
  obtain ⟨s1, hs1⟩ : ∃ s1, s1 = (ulR xs (0, false)).2 := ⟨_, rfl⟩
  rw [← hF, ← hs1] at S0
  rw [← hF] at B0
  rw [← hs1] at hp
  rw [← hF]
  clear hF hs1
  obtain ⟨K, hK⟩ : ∃ K, K = knN F := ⟨_, rfl⟩
  obtain ⟨wk, hwk⟩ : ∃ wk, wk = wkN F := ⟨_, rfl⟩
  have SK := Lib.hid (show sayK F = if K = 0 then psB ulP fun v => psR ⟨1, wk, v, 0, 0, []⟩
    else if K = 2 then psB ulP fun v => psR ⟨2, wk, v, 0, 0, []⟩
    else if K = 8 then psB ulP fun o => psB txP fun t => psR ⟨3, wk, 0, 0, o, t⟩
    else if K = 16 then psB ulP fun v => psB ulP fun r => psR ⟨4, wk, v, r, 0, []⟩
    else psF by rw [hK, hwk]; rfl)
  have hwb : (F / 4 % 2 == 1) = wk := by
    rw [hwk]; unfold wkN
    by_cases h1 : F / 4 % 2 = 1
    · rw [decide_eq_true h1, h1]; rfl
    · rw [decide_eq_false h1, beq_eq_false_iff_ne]; exact h1
  have KF := Lib.hid (show (wk = true → F - 4 = K ∧ 0 ≤ F - 4) ∧ (wk = false → F = K) from by
    rw [hK, hwk]; unfold wkN knN
    have := B0.out
    refine ⟨fun h => ?_, fun h => ?_⟩
    · rw [decide_eq_true_eq] at h; rw [if_pos h]; exact ⟨rfl, by omega⟩
    · rw [decide_eq_false_iff_not] at h; rw [if_neg h])
  have hF1 := B0.out.1
  have hF2 := B0.out.2
  clear hK hwk
  have g4 := grown1 w3 (.cells #[.string ⟨#[]⟩, .int .i64 0, .bool wk, .int .u64 0, .int .u64 0, .int .u64 0, .string ⟨#[]⟩] 28)
  have e4 := E2.out.kept hg (by intro e; injection e with e; exact N2.out e.symm)
  have l4 := e4.lt
  have lg := hp.lt
  have T4 := Lib.hid (show RsI w (w3.alloc (.cells #[.string ⟨#[]⟩, .int .i64 0, .bool wk, .int .u64 0, .int .u64 0, .int .u64 0, .string ⟨#[]⟩] 28)) g b o c xs s1 g0 w3.heap.size ⟨0, wk, 0, 0, 0, []⟩ from
    ⟨hp.grown g4, e4.kept g4 (by simp), heap_alloc_new w3 _, grown_trans (grown_new G2.out hg M2.out) g4, M2.out, by have := HG0.out; omega, by have := (grown_new G2.out hg M2.out).size; omega, by omega, N2.out, by omega, HB.out⟩)
  obtain ⟨w4, hw4⟩ : ∃ w4, w3.alloc (.cells #[.string ⟨#[]⟩, .int .i64 0, .bool wk, .int .u64 0, .int .u64 0, .int .u64 0, .string ⟨#[]⟩] 28) = w4 := ⟨_, rfl⟩
  obtain ⟨gx, hgx⟩ : ∃ gx, w3.heap.size = gx := ⟨_, rfl⟩
  rw [hw4, hgx] at T4
  have HW4 := Lib.hid hw4
  have HGX := Lib.hid hgx
  clear hp hg R2 E2 G2 N2 M2 HW1 HW2 HG HG0 g4 e4 l4 lg hw4 hgx
  go_upto_region 4 with fail
  rw [HW4.out, HGX.out]
  clear HW4 HGX
  have xw := T4.out.ex.c.2.2.1
  have xl := T4.out.ex.lt
  simp only [] at xw
  cases wk with
  | true =>
    obtain ⟨hK, hF4⟩ := KF.out.1 rfl
    have hwr : IntKind.u64.wrap (F - 4) = K := by rw [IntKind.wrap_u64]; omega
    clear hK hF4
    go_upto_region 6 with fail
    clear hwr
    have Tw4 := T4
    by_cases h0 : K = 0
    · subst h0
      rw [if_pos rfl] at SK
      have f1 := Tw4.out.ex.fz
      have gl5 := Tw4.out.ex.lt
      obtain ⟨k0, k1, k2, k3, k4, k5, k6⟩ := Tw4.out.ex.c
      go_upto_region 10 with fail
      have Tw4z0 := Lib.hid (Tw4.out.set (grown_setCell (i := 1) (grown_refl _ (some gx)) (.int .i64 1)) (Tw4.out.ex.kind 1))
      obtain ⟨w4e, hwe⟩ : ∃ we, (w4.setCell ⟨gx, 1, none⟩ (.int .i64 1)) = we := ⟨_, rfl⟩
      rw [hwe] at Tw4z0
      (try rw [hwe])
      have Tw4e := Lib.hid Tw4z0.out
      clear hwe f1 gl5 k0 k1 k2 k3 k4 k5 k6
      have S1 := Lib.hid (simR_ul xs s1)
      go_wp2_with fail
      refine (number9_any Tw4e.out.rd).mono ?_
      rintro e w5 ⟨rfl, hp, hg⟩
      have Tw5 := Lib.hid (Tw4e.out.call hp hg)
      clear hp hg Tw4e
      obtain ⟨V, hV⟩ : ∃ z, z = (ulR xs s1).1 := ⟨_, rfl⟩
      obtain ⟨s2, hs2⟩ : ∃ z, z = (ulR xs s1).2 := ⟨_, rfl⟩
      rw [← hV, ← hs2] at S1
      rw [← hs2] at Tw5
      rw [← hV]
      clear hV hs2
      have f1 := Tw5.out.ex.fz
      have gl5 := Tw5.out.ex.lt
      obtain ⟨k0, k1, k2, k3, k4, k5, k6⟩ := Tw5.out.ex.c
      go_upto_region 22 with fail
      have Tw5z0 := Lib.hid (Tw5.out.set (grown_setCell (i := 3) (grown_refl _ (some gx)) (.int .u64 V)) (Tw5.out.ex.value V))
      obtain ⟨w5e, hwe⟩ : ∃ we, (w5.setCell ⟨gx, 3, none⟩ (.int .u64 V)) = we := ⟨_, rfl⟩
      rw [hwe] at Tw5z0
      (try rw [hwe])
      have Tw5e := Lib.hid Tw5z0.out
      clear hwe f1 gl5 k0 k1 k2 k3 k4 k5 k6
      have SX := Lib.hid (show Sim sayP xs (0, false) (⟨1, true, V, 0, 0, []⟩ : Ex) s2 from Sim.B S0.out (by rw [SK.out]; exact Sim.B S1.out (Sim.R _ _)))
      have SE := Lib.hid (say_end SX.out)
      obtain ⟨Q, bd⟩ := s2
      simp only [] at SE
      obtain ⟨i0, i1, i2⟩ := And.intro Tw5e.out.rd.c0 (And.intro Tw5e.out.rd.c1 Tw5e.out.rd.c2)
      obtain ⟨c0, c1, c2, c3, c4, c5, c6⟩ := Tw5e.out.ex.c
      obtain ⟨d0, d1, d2, d3, d4, d5, d6⟩ := Tw5e.out.res.c
      have f := Tw5e.out.res.fz
      have rl := Tw5e.out.res.lt
      have xl := Tw5e.out.ex.lt
      have n01 := Tw5e.out.n01
      have n0g := Tw5e.out.n0g
      simp only [] at i1 i2 c0 c1 c2 c3 c4 c5 c6 d0 d1 d2 d3 d4 d5 d6
      have FN := Lib.hid (Tw5e.out.fin ⟨1, true, V, 0, 0, []⟩)
      simp only [] at FN
      cases bd with
      | true =>
        go_region
        go_wp2
        refine bodyPost_ret (results_ex2 rfl rfl rfl FN.out.1.drew) rfl ?_
        exact ⟨⟨_, _, rfl, fun h => (by cases h), fun _ => SE.out.2 rfl⟩, grown_drewN FN.out.2 1⟩
      | false =>
        by_cases hQ : Q = xs.length
        · have dq : ((Q : Int) == (xs.length : Int)) = true := by rw [hQ]; simp
          have SQ := Lib.hid (SE.out.1 (by rw [decide_eq_true hQ]; rfl))
          clear hQ SE
          go_region
          go_wp2
          refine bodyPost_ret (results_ex2 rfl rfl rfl FN.out.1.drew) rfl ?_
          exact ⟨⟨_, _, rfl, fun _ => SQ.out, fun h => (by cases h)⟩, grown_drewN FN.out.2 1⟩
        · have dq : ((Q : Int) == (xs.length : Int)) = false := by rw [beq_eq_false_iff_ne]; omega
          have SQ := Lib.hid (SE.out.2 (by rw [decide_eq_false hQ]; rfl))
          clear hQ SE
          go_region
          go_wp2
          refine bodyPost_ret (results_ex2 rfl rfl rfl FN.out.1.drew) rfl ?_
          exact ⟨⟨_, _, rfl, fun h => (by cases h), fun _ => SQ.out⟩, grown_drewN FN.out.2 1⟩
    by_cases h2 : K = 2
    · subst h2
      rw [if_neg (by decide), if_pos rfl] at SK
      have f1 := Tw4.out.ex.fz
      have gl5 := Tw4.out.ex.lt
      obtain ⟨k0, k1, k2, k3, k4, k5, k6⟩ := Tw4.out.ex.c
      go_upto_region 13 with fail
      have Tw4z0 := Lib.hid (Tw4.out.set (grown_setCell (i := 1) (grown_refl _ (some gx)) (.int .i64 2)) (Tw4.out.ex.kind 2))
      obtain ⟨w4e, hwe⟩ : ∃ we, (w4.setCell ⟨gx, 1, none⟩ (.int .i64 2)) = we := ⟨_, rfl⟩
      rw [hwe] at Tw4z0
      (try rw [hwe])
      have Tw4e := Lib.hid Tw4z0.out
      clear hwe f1 gl5 k0 k1 k2 k3 k4 k5 k6
      have S1 := Lib.hid (simR_ul xs s1)
      go_wp2_with fail
      refine (number9_any Tw4e.out.rd).mono ?_
      rintro e w5 ⟨rfl, hp, hg⟩
      have Tw5 := Lib.hid (Tw4e.out.call hp hg)
      clear hp hg Tw4e
      obtain ⟨V, hV⟩ : ∃ z, z = (ulR xs s1).1 := ⟨_, rfl⟩
      obtain ⟨s2, hs2⟩ : ∃ z, z = (ulR xs s1).2 := ⟨_, rfl⟩
      rw [← hV, ← hs2] at S1
      rw [← hs2] at Tw5
      rw [← hV]
      clear hV hs2
      have f1 := Tw5.out.ex.fz
      have gl5 := Tw5.out.ex.lt
      obtain ⟨k0, k1, k2, k3, k4, k5, k6⟩ := Tw5.out.ex.c
      go_upto_region 22 with fail
      have Tw5z0 := Lib.hid (Tw5.out.set (grown_setCell (i := 3) (grown_refl _ (some gx)) (.int .u64 V)) (Tw5.out.ex.value V))
      obtain ⟨w5e, hwe⟩ : ∃ we, (w5.setCell ⟨gx, 3, none⟩ (.int .u64 V)) = we := ⟨_, rfl⟩
      rw [hwe] at Tw5z0
      (try rw [hwe])
      have Tw5e := Lib.hid Tw5z0.out
      clear hwe f1 gl5 k0 k1 k2 k3 k4 k5 k6
      have SX := Lib.hid (show Sim sayP xs (0, false) (⟨2, true, V, 0, 0, []⟩ : Ex) s2 from Sim.B S0.out (by rw [SK.out]; exact Sim.B S1.out (Sim.R _ _)))
      have SE := Lib.hid (say_end SX.out)
      obtain ⟨Q, bd⟩ := s2
      simp only [] at SE
      obtain ⟨i0, i1, i2⟩ := And.intro Tw5e.out.rd.c0 (And.intro Tw5e.out.rd.c1 Tw5e.out.rd.c2)
      obtain ⟨c0, c1, c2, c3, c4, c5, c6⟩ := Tw5e.out.ex.c
      obtain ⟨d0, d1, d2, d3, d4, d5, d6⟩ := Tw5e.out.res.c
      have f := Tw5e.out.res.fz
      have rl := Tw5e.out.res.lt
      have xl := Tw5e.out.ex.lt
      have n01 := Tw5e.out.n01
      have n0g := Tw5e.out.n0g
      simp only [] at i1 i2 c0 c1 c2 c3 c4 c5 c6 d0 d1 d2 d3 d4 d5 d6
      have FN := Lib.hid (Tw5e.out.fin ⟨2, true, V, 0, 0, []⟩)
      simp only [] at FN
      cases bd with
      | true =>
        go_region
        go_wp2
        refine bodyPost_ret (results_ex2 rfl rfl rfl FN.out.1.drew) rfl ?_
        exact ⟨⟨_, _, rfl, fun h => (by cases h), fun _ => SE.out.2 rfl⟩, grown_drewN FN.out.2 1⟩
      | false =>
        by_cases hQ : Q = xs.length
        · have dq : ((Q : Int) == (xs.length : Int)) = true := by rw [hQ]; simp
          have SQ := Lib.hid (SE.out.1 (by rw [decide_eq_true hQ]; rfl))
          clear hQ SE
          go_region
          go_wp2
          refine bodyPost_ret (results_ex2 rfl rfl rfl FN.out.1.drew) rfl ?_
          exact ⟨⟨_, _, rfl, fun _ => SQ.out, fun h => (by cases h)⟩, grown_drewN FN.out.2 1⟩
        · have dq : ((Q : Int) == (xs.length : Int)) = false := by rw [beq_eq_false_iff_ne]; omega
          have SQ := Lib.hid (SE.out.2 (by rw [decide_eq_false hQ]; rfl))
          clear hQ SE
          go_region
          go_wp2
          refine bodyPost_ret (results_ex2 rfl rfl rfl FN.out.1.drew) rfl ?_
          exact ⟨⟨_, _, rfl, fun h => (by cases h), fun _ => SQ.out⟩, grown_drewN FN.out.2 1⟩
    by_cases h8 : K = 8
    · subst h8
      rw [if_neg (by decide), if_neg (by decide), if_pos rfl] at SK
      have f1 := Tw4.out.ex.fz
      have gl5 := Tw4.out.ex.lt
      obtain ⟨k0, k1, k2, k3, k4, k5, k6⟩ := Tw4.out.ex.c
      go_upto_region 16 with fail
      have Tw4z0 := Lib.hid (Tw4.out.set (grown_setCell (i := 1) (grown_refl _ (some gx)) (.int .i64 3)) (Tw4.out.ex.kind 3))
      obtain ⟨w4e, hwe⟩ : ∃ we, (w4.setCell ⟨gx, 1, none⟩ (.int .i64 3)) = we := ⟨_, rfl⟩
      rw [hwe] at Tw4z0
      (try rw [hwe])
      have Tw4e := Lib.hid Tw4z0.out
      clear hwe f1 gl5 k0 k1 k2 k3 k4 k5 k6
      have S1 := Lib.hid (simR_ul xs s1)
      go_wp2_with fail
      refine (number9_any Tw4e.out.rd).mono ?_
      rintro e w5 ⟨rfl, hp, hg⟩
      have Tw5 := Lib.hid (Tw4e.out.call hp hg)
      clear hp hg Tw4e
      obtain ⟨V, hV⟩ : ∃ z, z = (ulR xs s1).1 := ⟨_, rfl⟩
      obtain ⟨s2, hs2⟩ : ∃ z, z = (ulR xs s1).2 := ⟨_, rfl⟩
      rw [← hV, ← hs2] at S1
      rw [← hs2] at Tw5
      rw [← hV]
      clear hV hs2
      have f1 := Tw5.out.ex.fz
      have gl5 := Tw5.out.ex.lt
      obtain ⟨k0, k1, k2, k3, k4, k5, k6⟩ := Tw5.out.ex.c
      go_upto_region 17 with fail
      have Tw5z0 := Lib.hid (Tw5.out.set (grown_setCell (i := 5) (grown_refl _ (some gx)) (.int .u64 V)) (Tw5.out.ex.ordinal V))
      obtain ⟨w5e, hwe⟩ : ∃ we, (w5.setCell ⟨gx, 5, none⟩ (.int .u64 V)) = we := ⟨_, rfl⟩
      rw [hwe] at Tw5z0
      (try rw [hwe])
      have Tw5e := Lib.hid Tw5z0.out
      clear hwe f1 gl5 k0 k1 k2 k3 k4 k5 k6
      have S2 := Lib.hid (simR_tx xs s2)
      go_wp2_with fail
      refine (text9_any Tw5e.out.rd).mono ?_
      rintro e w6 ⟨rfl, hp, hg⟩
      have Tw6 := Lib.hid (Tw5e.out.call hp hg)
      clear hp hg Tw5e
      obtain ⟨T, hV⟩ : ∃ z, z = (txR xs s2).1 := ⟨_, rfl⟩
      obtain ⟨s3, hs2⟩ : ∃ z, z = (txR xs s2).2 := ⟨_, rfl⟩
      rw [← hV, ← hs2] at S2
      rw [← hs2] at Tw6
      rw [← hV]
      clear hV hs2
      have f1 := Tw6.out.ex.fz
      have gl5 := Tw6.out.ex.lt
      obtain ⟨k0, k1, k2, k3, k4, k5, k6⟩ := Tw6.out.ex.c
      go_upto_region 22 with fail
      have Tw6z0 := Lib.hid (Tw6.out.set (grown_setCell (i := 6) (grown_refl _ (some gx)) (.string (strOfNums T))) (Tw6.out.ex.other T))
      obtain ⟨w6e, hwe⟩ : ∃ we, (w6.setCell ⟨gx, 6, none⟩ (.string (strOfNums T))) = we := ⟨_, rfl⟩
      rw [hwe] at Tw6z0
      (try rw [hwe])
      have Tw6e := Lib.hid Tw6z0.out
      clear hwe f1 gl5 k0 k1 k2 k3 k4 k5 k6
      have SX := Lib.hid (show Sim sayP xs (0, false) (⟨3, true, 0, 0, V, T⟩ : Ex) s3 from Sim.B S0.out (by rw [SK.out]; exact Sim.B S1.out (Sim.B S2.out (Sim.R _ _))))
      have SE := Lib.hid (say_end SX.out)
      obtain ⟨Q, bd⟩ := s3
      simp only [] at SE
      obtain ⟨i0, i1, i2⟩ := And.intro Tw6e.out.rd.c0 (And.intro Tw6e.out.rd.c1 Tw6e.out.rd.c2)
      obtain ⟨c0, c1, c2, c3, c4, c5, c6⟩ := Tw6e.out.ex.c
      obtain ⟨d0, d1, d2, d3, d4, d5, d6⟩ := Tw6e.out.res.c
      have f := Tw6e.out.res.fz
      have rl := Tw6e.out.res.lt
      have xl := Tw6e.out.ex.lt
      have n01 := Tw6e.out.n01
      have n0g := Tw6e.out.n0g
      simp only [] at i1 i2 c0 c1 c2 c3 c4 c5 c6 d0 d1 d2 d3 d4 d5 d6
      have FN := Lib.hid (Tw6e.out.fin ⟨3, true, 0, 0, V, T⟩)
      simp only [] at FN
      cases bd with
      | true =>
        go_region
        go_wp2
        refine bodyPost_ret (results_ex2 rfl rfl rfl FN.out.1.drew) rfl ?_
        exact ⟨⟨_, _, rfl, fun h => (by cases h), fun _ => SE.out.2 rfl⟩, grown_drewN FN.out.2 1⟩
      | false =>
        by_cases hQ : Q = xs.length
        · have dq : ((Q : Int) == (xs.length : Int)) = true := by rw [hQ]; simp
          have SQ := Lib.hid (SE.out.1 (by rw [decide_eq_true hQ]; rfl))
          clear hQ SE
          go_region
          go_wp2
          refine bodyPost_ret (results_ex2 rfl rfl rfl FN.out.1.drew) rfl ?_
          exact ⟨⟨_, _, rfl, fun _ => SQ.out, fun h => (by cases h)⟩, grown_drewN FN.out.2 1⟩
        · have dq : ((Q : Int) == (xs.length : Int)) = false := by rw [beq_eq_false_iff_ne]; omega
          have SQ := Lib.hid (SE.out.2 (by rw [decide_eq_false hQ]; rfl))
          clear hQ SE
          go_region
          go_wp2
          refine bodyPost_ret (results_ex2 rfl rfl rfl FN.out.1.drew) rfl ?_
          exact ⟨⟨_, _, rfl, fun h => (by cases h), fun _ => SQ.out⟩, grown_drewN FN.out.2 1⟩
    by_cases h16 : K = 16
    · subst h16
      rw [if_neg (by decide), if_neg (by decide), if_neg (by decide), if_pos rfl] at SK
      have f1 := Tw4.out.ex.fz
      have gl5 := Tw4.out.ex.lt
      obtain ⟨k0, k1, k2, k3, k4, k5, k6⟩ := Tw4.out.ex.c
      go_upto_region 20 with fail
      have Tw4z0 := Lib.hid (Tw4.out.set (grown_setCell (i := 1) (grown_refl _ (some gx)) (.int .i64 4)) (Tw4.out.ex.kind 4))
      obtain ⟨w4e, hwe⟩ : ∃ we, (w4.setCell ⟨gx, 1, none⟩ (.int .i64 4)) = we := ⟨_, rfl⟩
      rw [hwe] at Tw4z0
      (try rw [hwe])
      have Tw4e := Lib.hid Tw4z0.out
      clear hwe f1 gl5 k0 k1 k2 k3 k4 k5 k6
      have S1 := Lib.hid (simR_ul xs s1)
      go_wp2_with fail
      refine (number9_any Tw4e.out.rd).mono ?_
      rintro e w5 ⟨rfl, hp, hg⟩
      have Tw5 := Lib.hid (Tw4e.out.call hp hg)
      clear hp hg Tw4e
      obtain ⟨V, hV⟩ : ∃ z, z = (ulR xs s1).1 := ⟨_, rfl⟩
      obtain ⟨s2, hs2⟩ : ∃ z, z = (ulR xs s1).2 := ⟨_, rfl⟩
      rw [← hV, ← hs2] at S1
      rw [← hs2] at Tw5
      rw [← hV]
      clear hV hs2
      have f1 := Tw5.out.ex.fz
      have gl5 := Tw5.out.ex.lt
      obtain ⟨k0, k1, k2, k3, k4, k5, k6⟩ := Tw5.out.ex.c
      go_upto_region 21 with fail
      have Tw5z0 := Lib.hid (Tw5.out.set (grown_setCell (i := 3) (grown_refl _ (some gx)) (.int .u64 V)) (Tw5.out.ex.value V))
      obtain ⟨w5e, hwe⟩ : ∃ we, (w5.setCell ⟨gx, 3, none⟩ (.int .u64 V)) = we := ⟨_, rfl⟩
      rw [hwe] at Tw5z0
      (try rw [hwe])
      have Tw5e := Lib.hid Tw5z0.out
      clear hwe f1 gl5 k0 k1 k2 k3 k4 k5 k6
      have S2 := Lib.hid (simR_ul xs s2)
      go_wp2_with fail
      refine (number9_any Tw5e.out.rd).mono ?_
      rintro e w6 ⟨rfl, hp, hg⟩
      have Tw6 := Lib.hid (Tw5e.out.call hp hg)
      clear hp hg Tw5e
      obtain ⟨R, hV⟩ : ∃ z, z = (ulR xs s2).1 := ⟨_, rfl⟩
      obtain ⟨s3, hs2⟩ : ∃ z, z = (ulR xs s2).2 := ⟨_, rfl⟩
      rw [← hV, ← hs2] at S2
      rw [← hs2] at Tw6
      rw [← hV]
      clear hV hs2
      have f1 := Tw6.out.ex.fz
      have gl5 := Tw6.out.ex.lt
      obtain ⟨k0, k1, k2, k3, k4, k5, k6⟩ := Tw6.out.ex.c
      go_upto_region 22 with fail
      have Tw6z0 := Lib.hid (Tw6.out.set (grown_setCell (i := 4) (grown_refl _ (some gx)) (.int .u64 R)) (Tw6.out.ex.resolver R))
      obtain ⟨w6e, hwe⟩ : ∃ we, (w6.setCell ⟨gx, 4, none⟩ (.int .u64 R)) = we := ⟨_, rfl⟩
      rw [hwe] at Tw6z0
      (try rw [hwe])
      have Tw6e := Lib.hid Tw6z0.out
      clear hwe f1 gl5 k0 k1 k2 k3 k4 k5 k6
      have SX := Lib.hid (show Sim sayP xs (0, false) (⟨4, true, V, R, 0, []⟩ : Ex) s3 from Sim.B S0.out (by rw [SK.out]; exact Sim.B S1.out (Sim.B S2.out (Sim.R _ _))))
      have SE := Lib.hid (say_end SX.out)
      obtain ⟨Q, bd⟩ := s3
      simp only [] at SE
      obtain ⟨i0, i1, i2⟩ := And.intro Tw6e.out.rd.c0 (And.intro Tw6e.out.rd.c1 Tw6e.out.rd.c2)
      obtain ⟨c0, c1, c2, c3, c4, c5, c6⟩ := Tw6e.out.ex.c
      obtain ⟨d0, d1, d2, d3, d4, d5, d6⟩ := Tw6e.out.res.c
      have f := Tw6e.out.res.fz
      have rl := Tw6e.out.res.lt
      have xl := Tw6e.out.ex.lt
      have n01 := Tw6e.out.n01
      have n0g := Tw6e.out.n0g
      simp only [] at i1 i2 c0 c1 c2 c3 c4 c5 c6 d0 d1 d2 d3 d4 d5 d6
      have FN := Lib.hid (Tw6e.out.fin ⟨4, true, V, R, 0, []⟩)
      simp only [] at FN
      cases bd with
      | true =>
        go_region
        go_wp2
        refine bodyPost_ret (results_ex2 rfl rfl rfl FN.out.1.drew) rfl ?_
        exact ⟨⟨_, _, rfl, fun h => (by cases h), fun _ => SE.out.2 rfl⟩, grown_drewN FN.out.2 1⟩
      | false =>
        by_cases hQ : Q = xs.length
        · have dq : ((Q : Int) == (xs.length : Int)) = true := by rw [hQ]; simp
          have SQ := Lib.hid (SE.out.1 (by rw [decide_eq_true hQ]; rfl))
          clear hQ SE
          go_region
          go_wp2
          refine bodyPost_ret (results_ex2 rfl rfl rfl FN.out.1.drew) rfl ?_
          exact ⟨⟨_, _, rfl, fun _ => SQ.out, fun h => (by cases h)⟩, grown_drewN FN.out.2 1⟩
        · have dq : ((Q : Int) == (xs.length : Int)) = false := by rw [beq_eq_false_iff_ne]; omega
          have SQ := Lib.hid (SE.out.2 (by rw [decide_eq_false hQ]; rfl))
          clear hQ SE
          go_region
          go_wp2
          refine bodyPost_ret (results_ex2 rfl rfl rfl FN.out.1.drew) rfl ?_
          exact ⟨⟨_, _, rfl, fun h => (by cases h), fun _ => SQ.out⟩, grown_drewN FN.out.2 1⟩
    rw [if_neg h0, if_neg h2, if_neg h8, if_neg h16] at SK
    have b0 : (K == 0) = false := by simpa using h0
    have b2 : (K == 2) = false := by simpa using h2
    have b8 : (K == 8) = false := by simpa using h8
    have b16 : (K == 16) = false := by simpa using h16
    obtain ⟨d0, d1, d2, d3, d4, d5, d6⟩ := Tw4.out.res.c
    have f := Tw4.out.res.fz
    have rl := Tw4.out.res.lt
    have FN := Lib.hid (Tw4.out.fin Ex.zero)
    have NO := Lib.hid (fun y (hy : sayP xs = some (y, xs.length)) => (show False by
      obtain ⟨v, m, m', q1, q2, -⟩ := psB_some hy
      have q3 := S0.out
      rcases hb : s1.2 with _ | _
      · have q4 := (q3.ok hb).2
        rw [List.drop_zero, q1] at q4
        injection q4 with q4
        injection q4 with q4 _
        rw [q4, SK.out] at q2
        cases q2
      · have := q3.no rfl hb
        rw [List.drop_zero, q1] at this
        cases this))
    go_wp2
    refine bodyPost_ret (results_ex2 rfl rfl rfl FN.out.1) rfl ?_
    exact ⟨⟨_, _, rfl, fun h => (by cases h), fun _ => NO.out⟩, FN.out.2⟩
  | false =>
    obtain rfl := KF.out.2 rfl
    go_upto_region 6 with fail
    have Tw4 := T4
    by_cases h0 : F = 0
    · subst h0
      rw [if_pos rfl] at SK
      have f1 := Tw4.out.ex.fz
      have gl5 := Tw4.out.ex.lt
      obtain ⟨k0, k1, k2, k3, k4, k5, k6⟩ := Tw4.out.ex.c
      go_upto_region 10 with fail
      have Tw4z0 := Lib.hid (Tw4.out.set (grown_setCell (i := 1) (grown_refl _ (some gx)) (.int .i64 1)) (Tw4.out.ex.kind 1))
      obtain ⟨w4e, hwe⟩ : ∃ we, (w4.setCell ⟨gx, 1, none⟩ (.int .i64 1)) = we := ⟨_, rfl⟩
      rw [hwe] at Tw4z0
      (try rw [hwe])
      have Tw4e := Lib.hid Tw4z0.out
      clear hwe f1 gl5 k0 k1 k2 k3 k4 k5 k6
      have S1 := Lib.hid (simR_ul xs s1)
      go_wp2_with fail
      refine (number9_any Tw4e.out.rd).mono ?_
      rintro e w5 ⟨rfl, hp, hg⟩
      have Tw5 := Lib.hid (Tw4e.out.call hp hg)
      clear hp hg Tw4e
      obtain ⟨V, hV⟩ : ∃ z, z = (ulR xs s1).1 := ⟨_, rfl⟩
      obtain ⟨s2, hs2⟩ : ∃ z, z = (ulR xs s1).2 := ⟨_, rfl⟩
      rw [← hV, ← hs2] at S1
      rw [← hs2] at Tw5
      rw [← hV]
      clear hV hs2
      have f1 := Tw5.out.ex.fz
      have gl5 := Tw5.out.ex.lt
      obtain ⟨k0, k1, k2, k3, k4, k5, k6⟩ := Tw5.out.ex.c
      go_upto_region 22 with fail
      have Tw5z0 := Lib.hid (Tw5.out.set (grown_setCell (i := 3) (grown_refl _ (some gx)) (.int .u64 V)) (Tw5.out.ex.value V))
      obtain ⟨w5e, hwe⟩ : ∃ we, (w5.setCell ⟨gx, 3, none⟩ (.int .u64 V)) = we := ⟨_, rfl⟩
      rw [hwe] at Tw5z0
      (try rw [hwe])
      have Tw5e := Lib.hid Tw5z0.out
      clear hwe f1 gl5 k0 k1 k2 k3 k4 k5 k6
      have SX := Lib.hid (show Sim sayP xs (0, false) (⟨1, false, V, 0, 0, []⟩ : Ex) s2 from Sim.B S0.out (by rw [SK.out]; exact Sim.B S1.out (Sim.R _ _)))
      have SE := Lib.hid (say_end SX.out)
      obtain ⟨Q, bd⟩ := s2
      simp only [] at SE
      obtain ⟨i0, i1, i2⟩ := And.intro Tw5e.out.rd.c0 (And.intro Tw5e.out.rd.c1 Tw5e.out.rd.c2)
      obtain ⟨c0, c1, c2, c3, c4, c5, c6⟩ := Tw5e.out.ex.c
      obtain ⟨d0, d1, d2, d3, d4, d5, d6⟩ := Tw5e.out.res.c
      have f := Tw5e.out.res.fz
      have rl := Tw5e.out.res.lt
      have xl := Tw5e.out.ex.lt
      have n01 := Tw5e.out.n01
      have n0g := Tw5e.out.n0g
      simp only [] at i1 i2 c0 c1 c2 c3 c4 c5 c6 d0 d1 d2 d3 d4 d5 d6
      have FN := Lib.hid (Tw5e.out.fin ⟨1, false, V, 0, 0, []⟩)
      simp only [] at FN
      cases bd with
      | true =>
        go_region
        go_wp2
        refine bodyPost_ret (results_ex2 rfl rfl rfl FN.out.1.drew) rfl ?_
        exact ⟨⟨_, _, rfl, fun h => (by cases h), fun _ => SE.out.2 rfl⟩, grown_drewN FN.out.2 1⟩
      | false =>
        by_cases hQ : Q = xs.length
        · have dq : ((Q : Int) == (xs.length : Int)) = true := by rw [hQ]; simp
          have SQ := Lib.hid (SE.out.1 (by rw [decide_eq_true hQ]; rfl))
          clear hQ SE
          go_region
          go_wp2
          refine bodyPost_ret (results_ex2 rfl rfl rfl FN.out.1.drew) rfl ?_
          exact ⟨⟨_, _, rfl, fun _ => SQ.out, fun h => (by cases h)⟩, grown_drewN FN.out.2 1⟩
        · have dq : ((Q : Int) == (xs.length : Int)) = false := by rw [beq_eq_false_iff_ne]; omega
          have SQ := Lib.hid (SE.out.2 (by rw [decide_eq_false hQ]; rfl))
          clear hQ SE
          go_region
          go_wp2
          refine bodyPost_ret (results_ex2 rfl rfl rfl FN.out.1.drew) rfl ?_
          exact ⟨⟨_, _, rfl, fun h => (by cases h), fun _ => SQ.out⟩, grown_drewN FN.out.2 1⟩
    by_cases h2 : F = 2
    · subst h2
      rw [if_neg (by decide), if_pos rfl] at SK
      have f1 := Tw4.out.ex.fz
      have gl5 := Tw4.out.ex.lt
      obtain ⟨k0, k1, k2, k3, k4, k5, k6⟩ := Tw4.out.ex.c
      go_upto_region 13 with fail
      have Tw4z0 := Lib.hid (Tw4.out.set (grown_setCell (i := 1) (grown_refl _ (some gx)) (.int .i64 2)) (Tw4.out.ex.kind 2))
      obtain ⟨w4e, hwe⟩ : ∃ we, (w4.setCell ⟨gx, 1, none⟩ (.int .i64 2)) = we := ⟨_, rfl⟩
      rw [hwe] at Tw4z0
      (try rw [hwe])
      have Tw4e := Lib.hid Tw4z0.out
      clear hwe f1 gl5 k0 k1 k2 k3 k4 k5 k6
      have S1 := Lib.hid (simR_ul xs s1)
      go_wp2_with fail
      refine (number9_any Tw4e.out.rd).mono ?_
      rintro e w5 ⟨rfl, hp, hg⟩
      have Tw5 := Lib.hid (Tw4e.out.call hp hg)
      clear hp hg Tw4e
      obtain ⟨V, hV⟩ : ∃ z, z = (ulR xs s1).1 := ⟨_, rfl⟩
      obtain ⟨s2, hs2⟩ : ∃ z, z = (ulR xs s1).2 := ⟨_, rfl⟩
      rw [← hV, ← hs2] at S1
      rw [← hs2] at Tw5
      rw [← hV]
      clear hV hs2
      have f1 := Tw5.out.ex.fz
      have gl5 := Tw5.out.ex.lt
      obtain ⟨k0, k1, k2, k3, k4, k5, k6⟩ := Tw5.out.ex.c
      go_upto_region 22 with fail
      have Tw5z0 := Lib.hid (Tw5.out.set (grown_setCell (i := 3) (grown_refl _ (some gx)) (.int .u64 V)) (Tw5.out.ex.value V))
      obtain ⟨w5e, hwe⟩ : ∃ we, (w5.setCell ⟨gx, 3, none⟩ (.int .u64 V)) = we := ⟨_, rfl⟩
      rw [hwe] at Tw5z0
      (try rw [hwe])
      have Tw5e := Lib.hid Tw5z0.out
      clear hwe f1 gl5 k0 k1 k2 k3 k4 k5 k6
      have SX := Lib.hid (show Sim sayP xs (0, false) (⟨2, false, V, 0, 0, []⟩ : Ex) s2 from Sim.B S0.out (by rw [SK.out]; exact Sim.B S1.out (Sim.R _ _)))
      have SE := Lib.hid (say_end SX.out)
      obtain ⟨Q, bd⟩ := s2
      simp only [] at SE
      obtain ⟨i0, i1, i2⟩ := And.intro Tw5e.out.rd.c0 (And.intro Tw5e.out.rd.c1 Tw5e.out.rd.c2)
      obtain ⟨c0, c1, c2, c3, c4, c5, c6⟩ := Tw5e.out.ex.c
      obtain ⟨d0, d1, d2, d3, d4, d5, d6⟩ := Tw5e.out.res.c
      have f := Tw5e.out.res.fz
      have rl := Tw5e.out.res.lt
      have xl := Tw5e.out.ex.lt
      have n01 := Tw5e.out.n01
      have n0g := Tw5e.out.n0g
      simp only [] at i1 i2 c0 c1 c2 c3 c4 c5 c6 d0 d1 d2 d3 d4 d5 d6
      have FN := Lib.hid (Tw5e.out.fin ⟨2, false, V, 0, 0, []⟩)
      simp only [] at FN
      cases bd with
      | true =>
        go_region
        go_wp2
        refine bodyPost_ret (results_ex2 rfl rfl rfl FN.out.1.drew) rfl ?_
        exact ⟨⟨_, _, rfl, fun h => (by cases h), fun _ => SE.out.2 rfl⟩, grown_drewN FN.out.2 1⟩
      | false =>
        by_cases hQ : Q = xs.length
        · have dq : ((Q : Int) == (xs.length : Int)) = true := by rw [hQ]; simp
          have SQ := Lib.hid (SE.out.1 (by rw [decide_eq_true hQ]; rfl))
          clear hQ SE
          go_region
          go_wp2
          refine bodyPost_ret (results_ex2 rfl rfl rfl FN.out.1.drew) rfl ?_
          exact ⟨⟨_, _, rfl, fun _ => SQ.out, fun h => (by cases h)⟩, grown_drewN FN.out.2 1⟩
        · have dq : ((Q : Int) == (xs.length : Int)) = false := by rw [beq_eq_false_iff_ne]; omega
          have SQ := Lib.hid (SE.out.2 (by rw [decide_eq_false hQ]; rfl))
          clear hQ SE
          go_region
          go_wp2
          refine bodyPost_ret (results_ex2 rfl rfl rfl FN.out.1.drew) rfl ?_
          exact ⟨⟨_, _, rfl, fun h => (by cases h), fun _ => SQ.out⟩, grown_drewN FN.out.2 1⟩
    by_cases h8 : F = 8
    · subst h8
      rw [if_neg (by decide), if_neg (by decide), if_pos rfl] at SK
      have f1 := Tw4.out.ex.fz
      have gl5 := Tw4.out.ex.lt
      obtain ⟨k0, k1, k2, k3, k4, k5, k6⟩ := Tw4.out.ex.c
      go_upto_region 16 with fail
      have Tw4z0 := Lib.hid (Tw4.out.set (grown_setCell (i := 1) (grown_refl _ (some gx)) (.int .i64 3)) (Tw4.out.ex.kind 3))
      obtain ⟨w4e, hwe⟩ : ∃ we, (w4.setCell ⟨gx, 1, none⟩ (.int .i64 3)) = we := ⟨_, rfl⟩
      rw [hwe] at Tw4z0
      (try rw [hwe])
      have Tw4e := Lib.hid Tw4z0.out
      clear hwe f1 gl5 k0 k1 k2 k3 k4 k5 k6
      have S1 := Lib.hid (simR_ul xs s1)
      go_wp2_with fail
      refine (number9_any Tw4e.out.rd).mono ?_
      rintro e w5 ⟨rfl, hp, hg⟩
      have Tw5 := Lib.hid (Tw4e.out.call hp hg)
      clear hp hg Tw4e
      obtain ⟨V, hV⟩ : ∃ z, z = (ulR xs s1).1 := ⟨_, rfl⟩
      obtain ⟨s2, hs2⟩ : ∃ z, z = (ulR xs s1).2 := ⟨_, rfl⟩
      rw [← hV, ← hs2] at S1
      rw [← hs2] at Tw5
      rw [← hV]
      clear hV hs2
      have f1 := Tw5.out.ex.fz
      have gl5 := Tw5.out.ex.lt
      obtain ⟨k0, k1, k2, k3, k4, k5, k6⟩ := Tw5.out.ex.c
      go_upto_region 17 with fail
      have Tw5z0 := Lib.hid (Tw5.out.set (grown_setCell (i := 5) (grown_refl _ (some gx)) (.int .u64 V)) (Tw5.out.ex.ordinal V))
      obtain ⟨w5e, hwe⟩ : ∃ we, (w5.setCell ⟨gx, 5, none⟩ (.int .u64 V)) = we := ⟨_, rfl⟩
      rw [hwe] at Tw5z0
      (try rw [hwe])
      have Tw5e := Lib.hid Tw5z0.out
      clear hwe f1 gl5 k0 k1 k2 k3 k4 k5 k6
      have S2 := Lib.hid (simR_tx xs s2)
      go_wp2_with fail
      refine (text9_any Tw5e.out.rd).mono ?_
      rintro e w6 ⟨rfl, hp, hg⟩
      have Tw6 := Lib.hid (Tw5e.out.call hp hg)
      clear hp hg Tw5e
      obtain ⟨T, hV⟩ : ∃ z, z = (txR xs s2).1 := ⟨_, rfl⟩
      obtain ⟨s3, hs2⟩ : ∃ z, z = (txR xs s2).2 := ⟨_, rfl⟩
      rw [← hV, ← hs2] at S2
      rw [← hs2] at Tw6
      rw [← hV]
      clear hV hs2
      have f1 := Tw6.out.ex.fz
      have gl5 := Tw6.out.ex.lt
      obtain ⟨k0, k1, k2, k3, k4, k5, k6⟩ := Tw6.out.ex.c
      go_upto_region 22 with fail
      have Tw6z0 := Lib.hid (Tw6.out.set (grown_setCell (i := 6) (grown_refl _ (some gx)) (.string (strOfNums T))) (Tw6.out.ex.other T))
      obtain ⟨w6e, hwe⟩ : ∃ we, (w6.setCell ⟨gx, 6, none⟩ (.string (strOfNums T))) = we := ⟨_, rfl⟩
      rw [hwe] at Tw6z0
      (try rw [hwe])
      have Tw6e := Lib.hid Tw6z0.out
      clear hwe f1 gl5 k0 k1 k2 k3 k4 k5 k6
      have SX := Lib.hid (show Sim sayP xs (0, false) (⟨3, false, 0, 0, V, T⟩ : Ex) s3 from Sim.B S0.out (by rw [SK.out]; exact Sim.B S1.out (Sim.B S2.out (Sim.R _ _))))
      have SE := Lib.hid (say_end SX.out)
      obtain ⟨Q, bd⟩ := s3
      simp only [] at SE
      obtain ⟨i0, i1, i2⟩ := And.intro Tw6e.out.rd.c0 (And.intro Tw6e.out.rd.c1 Tw6e.out.rd.c2)
      obtain ⟨c0, c1, c2, c3, c4, c5, c6⟩ := Tw6e.out.ex.c
      obtain ⟨d0, d1, d2, d3, d4, d5, d6⟩ := Tw6e.out.res.c
      have f := Tw6e.out.res.fz
      have rl := Tw6e.out.res.lt
      have xl := Tw6e.out.ex.lt
      have n01 := Tw6e.out.n01
      have n0g := Tw6e.out.n0g
      simp only [] at i1 i2 c0 c1 c2 c3 c4 c5 c6 d0 d1 d2 d3 d4 d5 d6
      have FN := Lib.hid (Tw6e.out.fin ⟨3, false, 0, 0, V, T⟩)
      simp only [] at FN
      cases bd with
      | true =>
        go_region
        go_wp2
        refine bodyPost_ret (results_ex2 rfl rfl rfl FN.out.1.drew) rfl ?_
        exact ⟨⟨_, _, rfl, fun h => (by cases h), fun _ => SE.out.2 rfl⟩, grown_drewN FN.out.2 1⟩
      | false =>
        by_cases hQ : Q = xs.length
        · have dq : ((Q : Int) == (xs.length : Int)) = true := by rw [hQ]; simp
          have SQ := Lib.hid (SE.out.1 (by rw [decide_eq_true hQ]; rfl))
          clear hQ SE
          go_region
          go_wp2
          refine bodyPost_ret (results_ex2 rfl rfl rfl FN.out.1.drew) rfl ?_
          exact ⟨⟨_, _, rfl, fun _ => SQ.out, fun h => (by cases h)⟩, grown_drewN FN.out.2 1⟩
        · have dq : ((Q : Int) == (xs.length : Int)) = false := by rw [beq_eq_false_iff_ne]; omega
          have SQ := Lib.hid (SE.out.2 (by rw [decide_eq_false hQ]; rfl))
          clear hQ SE
          go_region
          go_wp2
          refine bodyPost_ret (results_ex2 rfl rfl rfl FN.out.1.drew) rfl ?_
          exact ⟨⟨_, _, rfl, fun h => (by cases h), fun _ => SQ.out⟩, grown_drewN FN.out.2 1⟩
    by_cases h16 : F = 16
    · subst h16
      rw [if_neg (by decide), if_neg (by decide), if_neg (by decide), if_pos rfl] at SK
      have f1 := Tw4.out.ex.fz
      have gl5 := Tw4.out.ex.lt
      obtain ⟨k0, k1, k2, k3, k4, k5, k6⟩ := Tw4.out.ex.c
      go_upto_region 20 with fail
      have Tw4z0 := Lib.hid (Tw4.out.set (grown_setCell (i := 1) (grown_refl _ (some gx)) (.int .i64 4)) (Tw4.out.ex.kind 4))
      obtain ⟨w4e, hwe⟩ : ∃ we, (w4.setCell ⟨gx, 1, none⟩ (.int .i64 4)) = we := ⟨_, rfl⟩
      rw [hwe] at Tw4z0
      (try rw [hwe])
      have Tw4e := Lib.hid Tw4z0.out
      clear hwe f1 gl5 k0 k1 k2 k3 k4 k5 k6
      have S1 := Lib.hid (simR_ul xs s1)
      go_wp2_with fail
      refine (number9_any Tw4e.out.rd).mono ?_
      rintro e w5 ⟨rfl, hp, hg⟩
      have Tw5 := Lib.hid (Tw4e.out.call hp hg)
      clear hp hg Tw4e
      obtain ⟨V, hV⟩ : ∃ z, z = (ulR xs s1).1 := ⟨_, rfl⟩
      obtain ⟨s2, hs2⟩ : ∃ z, z = (ulR xs s1).2 := ⟨_, rfl⟩
      rw [← hV, ← hs2] at S1
      rw [← hs2] at Tw5
      rw [← hV]
      clear hV hs2
      have f1 := Tw5.out.ex.fz
      have gl5 := Tw5.out.ex.lt
      obtain ⟨k0, k1, k2, k3, k4, k5, k6⟩ := Tw5.out.ex.c
      go_upto_region 21 with fail
      have Tw5z0 := Lib.hid (Tw5.out.set (grown_setCell (i := 3) (grown_refl _ (some gx)) (.int .u64 V)) (Tw5.out.ex.value V))
      obtain ⟨w5e, hwe⟩ : ∃ we, (w5.setCell ⟨gx, 3, none⟩ (.int .u64 V)) = we := ⟨_, rfl⟩
      rw [hwe] at Tw5z0
      (try rw [hwe])
      have Tw5e := Lib.hid Tw5z0.out
      clear hwe f1 gl5 k0 k1 k2 k3 k4 k5 k6
      have S2 := Lib.hid (simR_ul xs s2)
      go_wp2_with fail
      refine (number9_any Tw5e.out.rd).mono ?_
      rintro e w6 ⟨rfl, hp, hg⟩
      have Tw6 := Lib.hid (Tw5e.out.call hp hg)
      clear hp hg Tw5e
      obtain ⟨R, hV⟩ : ∃ z, z = (ulR xs s2).1 := ⟨_, rfl⟩
      obtain ⟨s3, hs2⟩ : ∃ z, z = (ulR xs s2).2 := ⟨_, rfl⟩
      rw [← hV, ← hs2] at S2
      rw [← hs2] at Tw6
      rw [← hV]
      clear hV hs2
      have f1 := Tw6.out.ex.fz
      have gl5 := Tw6.out.ex.lt
      obtain ⟨k0, k1, k2, k3, k4, k5, k6⟩ := Tw6.out.ex.c
      go_upto_region 22 with fail
      have Tw6z0 := Lib.hid (Tw6.out.set (grown_setCell (i := 4) (grown_refl _ (some gx)) (.int .u64 R)) (Tw6.out.ex.resolver R))
      obtain ⟨w6e, hwe⟩ : ∃ we, (w6.setCell ⟨gx, 4, none⟩ (.int .u64 R)) = we := ⟨_, rfl⟩
      rw [hwe] at Tw6z0
      (try rw [hwe])
      have Tw6e := Lib.hid Tw6z0.out
      clear hwe f1 gl5 k0 k1 k2 k3 k4 k5 k6
      have SX := Lib.hid (show Sim sayP xs (0, false) (⟨4, false, V, R, 0, []⟩ : Ex) s3 from Sim.B S0.out (by rw [SK.out]; exact Sim.B S1.out (Sim.B S2.out (Sim.R _ _))))
      have SE := Lib.hid (say_end SX.out)
      obtain ⟨Q, bd⟩ := s3
      simp only [] at SE
      obtain ⟨i0, i1, i2⟩ := And.intro Tw6e.out.rd.c0 (And.intro Tw6e.out.rd.c1 Tw6e.out.rd.c2)
      obtain ⟨c0, c1, c2, c3, c4, c5, c6⟩ := Tw6e.out.ex.c
      obtain ⟨d0, d1, d2, d3, d4, d5, d6⟩ := Tw6e.out.res.c
      have f := Tw6e.out.res.fz
      have rl := Tw6e.out.res.lt
      have xl := Tw6e.out.ex.lt
      have n01 := Tw6e.out.n01
      have n0g := Tw6e.out.n0g
      simp only [] at i1 i2 c0 c1 c2 c3 c4 c5 c6 d0 d1 d2 d3 d4 d5 d6
      have FN := Lib.hid (Tw6e.out.fin ⟨4, false, V, R, 0, []⟩)
      simp only [] at FN
      cases bd with
      | true =>
        go_region
        go_wp2
        refine bodyPost_ret (results_ex2 rfl rfl rfl FN.out.1.drew) rfl ?_
        exact ⟨⟨_, _, rfl, fun h => (by cases h), fun _ => SE.out.2 rfl⟩, grown_drewN FN.out.2 1⟩
      | false =>
        by_cases hQ : Q = xs.length
        · have dq : ((Q : Int) == (xs.length : Int)) = true := by rw [hQ]; simp
          have SQ := Lib.hid (SE.out.1 (by rw [decide_eq_true hQ]; rfl))
          clear hQ SE
          go_region
          go_wp2
          refine bodyPost_ret (results_ex2 rfl rfl rfl FN.out.1.drew) rfl ?_
          exact ⟨⟨_, _, rfl, fun _ => SQ.out, fun h => (by cases h)⟩, grown_drewN FN.out.2 1⟩
        · have dq : ((Q : Int) == (xs.length : Int)) = false := by rw [beq_eq_false_iff_ne]; omega
          have SQ := Lib.hid (SE.out.2 (by rw [decide_eq_false hQ]; rfl))
          clear hQ SE
          go_region
          go_wp2
          refine bodyPost_ret (results_ex2 rfl rfl rfl FN.out.1.drew) rfl ?_
          exact ⟨⟨_, _, rfl, fun h => (by cases h), fun _ => SQ.out⟩, grown_drewN FN.out.2 1⟩
    rw [if_neg h0, if_neg h2, if_neg h8, if_neg h16] at SK
    have b0 : (F == 0) = false := by simpa using h0
    have b2 : (F == 2) = false := by simpa using h2
    have b8 : (F == 8) = false := by simpa using h8
    have b16 : (F == 16) = false := by simpa using h16
    obtain ⟨d0, d1, d2, d3, d4, d5, d6⟩ := Tw4.out.res.c
    have f := Tw4.out.res.fz
    have rl := Tw4.out.res.lt
    have FN := Lib.hid (Tw4.out.fin Ex.zero)
    have NO := Lib.hid (fun y (hy : sayP xs = some (y, xs.length)) => (show False by
      obtain ⟨v, m, m', q1, q2, -⟩ := psB_some hy
      have q3 := S0.out
      rcases hb : s1.2 with _ | _
      · have q4 := (q3.ok hb).2
        rw [List.drop_zero, q1] at q4
        injection q4 with q4
        injection q4 with q4 _
        rw [q4, SK.out] at q2
        cases q2
      · have := q3.no rfl hb
        rw [List.drop_zero, q1] at this
        cases this))
    go_wp2
    refine bodyPost_ret (results_ex2 rfl rfl rfl FN.out.1) rfl ?_
    exact ⟨⟨_, _, rfl, fun h => (by cases h), fun _ => NO.out⟩, FN.out.2⟩
end Go.Proofs.YtbnnlbdjjpmgeaaGreat


namespace Go.Proofs.YtbnnlbdjjpmgeaaGreat
open Go.RowKit Go.PlainAid
variable {w w' W V : World}

def NodeR (w : World) (g : Nat) (b : Bool) (nm : ByteArray) (x : Ex) (v : Value) : Prop :=
  w.heap[g]? = some (.cells #[.bool b, .string nm, .int .i64 x.kind, .bool x.weak, .int .u64 x.value, .int .u64 x.resolver, .int .u64 x.ordinal, .string (strOfNums x.other), v] 147 (0, 0))
section
variable {g : Nat} {b : Bool} {nm : ByteArray} {x : Ex} {v : Value}
theorem NodeR.kept {r : Option Nat} (h : NodeR w g b nm x v) (hg : w.grownBy w' r) (hr : r ≠ some g) : NodeR w' g b nm x v := (hg.block g (lt_of_block h) (fun e => hr e.symm)).trans h
theorem NodeR.lt (h : NodeR w g b nm x v) : g < w.heap.size := lt_of_block h
theorem NodeR.fz (h : NodeR w g b nm x v) (i : Nat) : w.frozen? ⟨g, i, none⟩ = false := free_of h
theorem NodeR.c (h : NodeR w g b nm x v) : w.cell? ⟨g, 0, none⟩ = some (.bool b) ∧ w.cell? ⟨g, 1, none⟩ = some (.string nm) ∧ w.cell? ⟨g, 2, none⟩ = some (.int .i64 x.kind) ∧ w.cell? ⟨g, 3, none⟩ = some (.bool x.weak) ∧ w.cell? ⟨g, 4, none⟩ = some (.int .u64 x.value) ∧
    w.cell? ⟨g, 5, none⟩ = some (.int .u64 x.resolver) ∧ w.cell? ⟨g, 6, none⟩ = some (.int .u64 x.ordinal) ∧ w.cell? ⟨g, 7, none⟩ = some (.string (strOfNums x.other)) ∧ w.cell? ⟨g, 8, none⟩ = some v := by
  refine ⟨?_, ?_, ?_, ?_, ?_, ?_, ?_, ?_, ?_⟩ <;> (rw [cell_of h]; rfl)
theorem NodeR.kids (h : NodeR w g b nm x v) (u : Value) : NodeR (w.setCell ⟨g, 8, none⟩ u) g b nm x u := by unfold NodeR; rw [heap_setCell_same w g 8 _ _ _ h]; rfl
theorem NodeR.s0 (h : NodeR w g b nm x v) (k : Bool) : NodeR (w.setCell ⟨g, 0, none⟩ (.bool k)) g k nm x v := by unfold NodeR; rw [heap_setCell_same w g 0 _ _ _ h]; rfl
theorem NodeR.s1 (h : NodeR w g b nm x v) (k : ByteArray) : NodeR (w.setCell ⟨g, 1, none⟩ (.string k)) g b k x v := by unfold NodeR; rw [heap_setCell_same w g 1 _ _ _ h]; rfl
theorem NodeR.s2 (h : NodeR w g b nm x v) (k : Int) : NodeR (w.setCell ⟨g, 2, none⟩ (.int .i64 k)) g b nm { x with kind := k } v := by unfold NodeR; rw [heap_setCell_same w g 2 _ _ _ h]; rfl
theorem NodeR.s3 (h : NodeR w g b nm x v) (k : Bool) : NodeR (w.setCell ⟨g, 3, none⟩ (.bool k)) g b nm { x with weak := k } v := by unfold NodeR; rw [heap_setCell_same w g 3 _ _ _ h]; rfl
theorem NodeR.s4 (h : NodeR w g b nm x v) (k : Int) : NodeR (w.setCell ⟨g, 4, none⟩ (.int .u64 k)) g b nm { x with value := k } v := by unfold NodeR; rw [heap_setCell_same w g 4 _ _ _ h]; rfl
theorem NodeR.s5 (h : NodeR w g b nm x v) (k : Int) : NodeR (w.setCell ⟨g, 5, none⟩ (.int .u64 k)) g b nm { x with resolver := k } v := by unfold NodeR; rw [heap_setCell_same w g 5 _ _ _ h]; rfl
theorem NodeR.s6 (h : NodeR w g b nm x v) (k : Int) : NodeR (w.setCell ⟨g, 6, none⟩ (.int .u64 k)) g b nm { x with ordinal := k } v := by unfold NodeR; rw [heap_setCell_same w g 6 _ _ _ h]; rfl
theorem NodeR.s7 (h : NodeR w g b nm x v) (k : List Int) : NodeR (w.setCell ⟨g, 7, none⟩ (.string (strOfNums k))) g b nm { x with other := k } v := by unfold NodeR; rw [heap_setCell_same w g 7 _ _ _ h]; rfl
theorem NodeR.said (h : NodeR w g b nm x v) (nm' : ByteArray) (y : Ex) :
    NodeR ((((((((w.setCell ⟨g, 0, none⟩ (.bool true)).setCell ⟨g, 1, none⟩ (.string nm')).setCell ⟨g, 2, none⟩ (.int .i64 y.kind)).setCell ⟨g, 3, none⟩ (.bool y.weak)).setCell ⟨g, 4, none⟩ (.int .u64 y.value)).setCell ⟨g, 5, none⟩ (.int .u64 y.resolver)).setCell ⟨g, 6, none⟩ (.int .u64 y.ordinal)).setCell ⟨g, 7, none⟩ (.string (strOfNums y.other))) g true nm' y v :=
  (((((((h.s0 true).s1 nm').s2 y.kind).s3 y.weak).s4 y.value).s5 y.resolver).s6 y.ordinal).s7 y.other
theorem load_nodeR (h : NodeR w g b nm x v) : (loadVar 147 ⟨g, 0, none⟩).run Tryz.prog w = .ok (nodeV b nm x v) w :=
  run_loadVar_row w g _ _ _ _ _ h Tryz.underlying147 rfl (by kernel_rfl)
theorem results_nodeR2 {fn : Func} {p u : Tmp} (hr : fn.results = #[.cell p 147, .tmp u]) {tmps : Array Value} {y : Value} (hp : tmps.getD p undef = .pointer (some ⟨g, 0, none⟩)) (hu : tmps.getD u undef = y) (h : NodeR w g b nm x v) :
    (results fn tmps).run Tryz.prog w = .ok (.tuple #[nodeV b nm x v, y]) w := by
  rw [results_cell_tmp hr, hp, hu, show (asAddr (.pointer (some ⟨g, 0, none⟩)) : Sem Addr).run Tryz.prog w = .ok ⟨g, 0, none⟩ w from rfl, Result.andThen_ok, load_nodeR h, Result.andThen_ok]
end


variable {b o c : Nat} {xs : List Int} {s s' : Cs}
def rkid (n : Nat) (k : Kid) : Kid := (k.1, if k.2 < n then k.2 else -1)
def kidCsR (x : Kid) : List Value := [.string (strOfNums x.1), .int .i64 x.2]
theorem kidCsR_one (x : Kid) : ∀ u ∈ kidCsR x, u.oneCell' = true := by
  intro u hu
  simp only [kidCsR, List.mem_cons, List.not_mem_nil, or_false] at hu
  rcases hu with rfl | rfl <;> rfl
theorem kidTypeR : StType Tryz.prog 151 145 2 24 := .mk' Tryz.underlying145 (z := .agg #[.string ⟨#[]⟩, .int .i64 0]) (by kernel_rfl) rfl (by decide)
def KidsR (w : World) (q : Option Addr) (l : List Kid) : Prop := ∀ i x, l[i]? = some x → ∃ g, q = some ⟨g, 0, none⟩ ∧ w.cell? ⟨g, i * 2, none⟩ = some (.string (strOfNums x.1)) ∧ w.cell? ⟨g, i * 2 + 1, none⟩ = some (.int .i64 x.2)
theorem KidsR.of {lo n c : Nat} {q : Option Addr} {l : List Kid} (h : w.ownsRow lo 151 2 (.slice q n c) n (l.flatMap kidCsR)) : KidsR w q l := fun i x hx => by
  obtain ⟨g, e, h0⟩ := row_cell (f := kidCsR) (fun _ => rfl) h hx (j := 0) (by decide)
  obtain ⟨g', e', h1⟩ := row_cell (f := kidCsR) (fun _ => rfl) h hx (j := 1) (by decide)
  rw [e] at e'
  injection e' with e'
  injection e' with e' _ _
  subst e'
  exact ⟨g, e, h0, h1⟩
theorem exP_big {Z : Int} {l : List Int} (h : (l.length : Int) < Z) : exP Z l = none := by
  unfold exP
  rw [if_neg (by omega)]
  unfold psB psZ
  cases h1 : sayP l with
  | none => rfl
  | some a =>
    obtain ⟨v, n⟩ := a
    have h2 := (loc_say _ _ _ h1).1
    simp only []
    rw [if_neg (by omega)]
theorem exP_yes {Z : Nat} {l : List Int} {x : Ex} (h0 : 0 < Z) (hZ : Z ≤ l.length) (h : sayP (l.take Z) = some (x, (l.take Z).length)) : exP Z l = some (some x, Z) := by
  have h1 := (loc_front loc_say h).1
  rw [List.length_take, Nat.min_eq_left hZ] at h1
  unfold exP
  rw [if_neg (by omega)]
  unfold psB psZ
  rw [h1]
  simp [psR]
theorem exP_no {Z : Nat} {l : List Int} (h0 : 0 < Z) (hZ : Z ≤ l.length) (h : ∀ y, sayP (l.take Z) ≠ some (y, (l.take Z).length)) : exP Z l = none := by
  unfold exP
  rw [if_neg (by omega)]
  unfold psB psZ
  cases h1 : sayP l with
  | none => rfl
  | some a =>
    obtain ⟨v, n⟩ := a
    simp only []
    by_cases hn : (n : Int) = Z
    · exfalso
      obtain rfl : n = Z := by omega
      have := loc_back loc_say h1 (Nat.le_refl n)
      refine h v ?_
      rw [List.length_take, Nat.min_eq_left hZ]
      exact this
    · rw [if_neg hn]
structure RrI (w0 W : World) (g b o c : Nat) (xs : List Int) (s : Cs) (g0 g1 : Nat) (x : Option Ex) (l : List Kid) (v : Value) : Prop where
  rd : Rd W g b o c xs s
  res : NodeR W g0 false ⟨#[]⟩ Ex.zero (.slice none 0 0)
  nod : NodeR W g1 x.isSome ⟨#[]⟩ (exOf x) v
  own : W.ownsRow w0.heap.size 151 2 v l.length ((l.map (rkid xs.length)).flatMap kidCsR)
  each : ∀ k ∈ l, k.1 ≠ [] ∧ Byt k.1
  grown : w0.grownBy W none
  newg : w0.heap.size ≤ g
  new0 : w0.heap.size ≤ g0
  new1 : w0.heap.size ≤ g1
  n01 : g0 ≠ g1
  n0g : g0 ≠ g
  n1g : g1 ≠ g
  old : b < w0.heap.size
section
variable {w0 : World} {g g0 g1 : Nat} {x : Option Ex} {l : List Kid} {v : Value}
theorem RrI.call (h : RrI w0 W g b o c xs s g0 g1 x l v) (hp : Rd w' g b o c xs s') (hg : W.grownBy w' (some g)) : RrI w0 w' g b o c xs s' g0 g1 x l v :=
  ⟨hp, h.res.kept hg (by intro e; injection e with e; exact h.n0g e.symm), h.nod.kept hg (by intro e; injection e with e; exact h.n1g e.symm), h.own.kept hg (.inr (own_ne h.own h.rd.blk (by decide))), h.each, grown_new h.grown hg h.newg, h.newg, h.new0, h.new1, h.n01, h.n0g, h.n1g, h.old⟩
theorem RrI.same (h : RrI w0 W g b o c xs s g0 g1 x l v) (hg : W.grownBy w' none) : RrI w0 w' g b o c xs s g0 g1 x l v :=
  ⟨h.rd.grown hg, h.res.kept hg (by simp), h.nod.kept hg (by simp), own_grown h.own hg, h.each, grown_trans h.grown hg, h.newg, h.new0, h.new1, h.n01, h.n0g, h.n1g, h.old⟩
theorem RrI.mine (h : RrI w0 W g b o c xs s g0 g1 x l v) {gk : Nat} (hg : W.grownBy w' (some gk)) (h0 : w0.heap.size ≤ gk) (ng : gk ≠ g) (n0 : gk ≠ g0) (n1 : gk ≠ g1) (nv : v.ownBlock ≠ some gk) : RrI w0 w' g b o c xs s g0 g1 x l v :=
  ⟨h.rd.kept hg (by intro e; injection e with e; exact ng e) (by intro e; injection e with e; have := h.old; omega), h.res.kept hg (by intro e; injection e with e; exact n0 e), h.nod.kept hg (by intro e; injection e with e; exact n1 e), h.own.kept hg (.inr nv), h.each, grown_new h.grown hg h0, h.newg, h.new0, h.new1, h.n01, h.n0g, h.n1g, h.old⟩
theorem RrI.said (h : RrI w0 W g b o c xs s g0 g1 none l v) (y : Ex) (hg : W.grownBy w' (some g1)) (hn : NodeR w' g1 true ⟨#[]⟩ y v) : RrI w0 w' g b o c xs s g0 g1 (some y) l v :=
  ⟨h.rd.kept hg (by intro e; injection e with e; exact h.n1g e) (by intro e; injection e with e; have := h.old; have := h.new1; omega), h.res.kept hg (by intro e; injection e with e; exact h.n01 e.symm), hn, h.own.kept hg (.inr (own_ne h.own h.nod (by decide))), h.each, grown_new h.grown hg h.new1, h.newg, h.new0, h.new1, h.n01, h.n0g, h.n1g, h.old⟩
theorem RrI.more (h : RrI w0 W g b o c xs s g0 g1 x l v) (k : Kid) (hk : k.1 ≠ [] ∧ Byt k.1) {w1 : World} {v' : Value} (ho : w1.ownsRow w0.heap.size 151 2 v' (l.length + 1) ((l.map (rkid xs.length)).flatMap kidCsR ++ kidCsR (rkid xs.length k))) (hg : W.grownBy w1 v.ownBlock) :
    RrI w0 (w1.setCell ⟨g1, 8, none⟩ v') g b o c xs s g0 g1 x (l ++ [k]) v' := by
  have hv : ∀ g, v.ownBlock = some g → w0.heap.size ≤ g := fun g e => (h.own.lt g e).1
  have r1 : NodeR w1 g0 false ⟨#[]⟩ Ex.zero (.slice none 0 0) := h.res.kept hg (own_ne h.own h.res (by decide))
  have n1 : NodeR w1 g1 x.isSome ⟨#[]⟩ (exOf x) v := h.nod.kept hg (own_ne h.own h.nod (by decide))
  have d1 : Rd w1 g b o c xs s := h.rd.kept hg (own_ne h.own h.rd.blk (by decide)) (fun e => by have := hv b e; have := h.old; omega)
  have gs := grown_setCell (i := 8) (grown_refl w1 (some g1)) v'
  refine ⟨d1.kept gs (by intro e; injection e with e; exact h.n1g e) (by intro e; injection e with e; have := h.old; have := h.new1; omega), r1.kept gs (by intro e; injection e with e; exact h.n01 e.symm), n1.kids v', ?_, ?_, grown_new (grown_own h.grown hg hv (Nat.le_refl _)) gs h.new1, h.newg, h.new0, h.new1, h.n01, h.n0g, h.n1g, h.old⟩
  · rw [List.length_append, List.length_singleton, List.map_append, List.flatMap_append]
    rw [show (List.map (rkid xs.length) [k]).flatMap kidCsR = kidCsR (rkid xs.length k) by simp]
    exact ho.kept gs (.inr (own_ne ho n1 (by decide)))
  · intro y hy
    rcases List.mem_append.1 hy with hy | hy
    · exact h.each y hy
    · rw [List.mem_singleton.1 hy]; exact hk
theorem NodeR.put (h : NodeR W g0 false ⟨#[]⟩ Ex.zero (.slice none 0 0)) (b : Bool) (nm' : ByteArray) (y : Ex) (v' : Value) :
    NodeR (((((((((W.setCell ⟨g0, 0, none⟩ (.bool b)).setCell ⟨g0, 1, none⟩ (.string nm')).setCell ⟨g0, 2, none⟩ (.int .i64 y.kind)).setCell ⟨g0, 3, none⟩ (.bool y.weak)).setCell ⟨g0, 4, none⟩ (.int .u64 y.value)).setCell ⟨g0, 5, none⟩ (.int .u64 y.resolver)).setCell ⟨g0, 6, none⟩ (.int .u64 y.ordinal)).setCell ⟨g0, 7, none⟩ (.string (strOfNums y.other))).setCell ⟨g0, 8, none⟩ v') g0 b nm' y v' :=
  ((((((((h.s0 b).s1 nm').s2 y.kind).s3 y.weak).s4 y.value).s5 y.resolver).s6 y.ordinal).s7 y.other).kids v'
end
structure RdOut (w w' : World) (xs : List Int) (p : Int) (e : Ending) : Prop where
  ex : (∃ nd v, ndAt xs p = some nd ∧ e = .returned (.tuple #[nodeV nd.ex.isSome ⟨#[]⟩ (exOf nd.ex) v, .bool true]) ∧ w'.ownsRow w.heap.size 151 2 v nd.kids.length ((nd.kids.map (rkid xs.length)).flatMap kidCsR)) ∨
    (ndAt xs p = none ∧ e = .returned (.tuple #[nodeV false ⟨#[]⟩ Ex.zero (.slice none 0 0), .bool false]))
  grown : w.grownBy w' none
theorem RrI.fin {w0 : World} {g g0 g1 : Nat} {x : Option Ex} {l : List Kid} {v : Value} (h : RrI w0 W g b o c xs s g0 g1 x l v) {p : Nat} (hN : ndAt xs p = none) :
    NodeR (((((((((W.setCell ⟨g0, 0, none⟩ (.bool false)).setCell ⟨g0, 1, none⟩ (.string ⟨#[]⟩)).setCell ⟨g0, 2, none⟩ (.int .i64 Ex.zero.kind)).setCell ⟨g0, 3, none⟩ (.bool Ex.zero.weak)).setCell ⟨g0, 4, none⟩ (.int .u64 Ex.zero.value)).setCell ⟨g0, 5, none⟩ (.int .u64 Ex.zero.resolver)).setCell ⟨g0, 6, none⟩ (.int .u64 Ex.zero.ordinal)).setCell ⟨g0, 7, none⟩ (.string (strOfNums Ex.zero.other))).setCell ⟨g0, 8, none⟩ (.slice none 0 0)) g0 false ⟨#[]⟩ Ex.zero (.slice none 0 0) ∧
    RdOut w0 (((((((((W.setCell ⟨g0, 0, none⟩ (.bool false)).setCell ⟨g0, 1, none⟩ (.string ⟨#[]⟩)).setCell ⟨g0, 2, none⟩ (.int .i64 Ex.zero.kind)).setCell ⟨g0, 3, none⟩ (.bool Ex.zero.weak)).setCell ⟨g0, 4, none⟩ (.int .u64 Ex.zero.value)).setCell ⟨g0, 5, none⟩ (.int .u64 Ex.zero.resolver)).setCell ⟨g0, 6, none⟩ (.int .u64 Ex.zero.ordinal)).setCell ⟨g0, 7, none⟩ (.string (strOfNums Ex.zero.other))).setCell ⟨g0, 8, none⟩ (.slice none 0 0)) xs p (.returned (.tuple #[nodeV false ⟨#[]⟩ Ex.zero (.slice none 0 0), .bool false])) :=
  ⟨h.res.put _ _ _ _, ⟨.inr ⟨hN, rfl⟩, grown_new h.grown (grown_put9 (grown_refl W (some g0)) _ _ _ _ _ _ _ _ _) h.new0⟩⟩
end Go.Proofs.YtbnnlbdjjpmgeaaGreat

