import Derived.Test.YtemdbfgpimfkdaaM24
import Derived.Deep.RegionHeld3
import Derived.BigFrame
/- Two images that are the same in everything are told so. No condition. -/
namespace Go.Proofs.Ytemdbfgpimfkdaa
open Go.RowKit
variable {w w' : World}

/-- The cells of one of a row's. -/
theorem sec_cells {lo n c : Nat} {q : Option Addr} {l : List Sec} (h : w.ownsRow lo 76 6 (.slice q n c) n (l.flatMap secCs)) {i : Nat} {x : Sec} (hx : l[i]? = some x) :
    ∃ g, q = some ⟨g, 0, none⟩ ∧ w.cell? ⟨g, i * 6, none⟩ = some (.string (strOfNums x.name)) ∧ w.cell? ⟨g, i * 6 + 1, none⟩ = some (.string (strOfNums x.seg)) ∧ w.cell? ⟨g, i * 6 + 2, none⟩ = some (.int .u64 x.addr) ∧
      w.cell? ⟨g, i * 6 + 3, none⟩ = some (.int .u64 x.size) ∧ w.cell? ⟨g, i * 6 + 4, none⟩ = some (.int .u64 x.off) ∧ w.cell? ⟨g, i * 6 + 5, none⟩ = some (.int .i64 x.kind) := by
  obtain ⟨g, hq, h0⟩ := row_cell secCs_len h hx (show 0 < 6 by decide)
  have key : ∀ j, j < 6 → w.cell? ⟨g, i * 6 + j, none⟩ = (secCs x)[j]? := fun j hj => by
    obtain ⟨g', hq', h1⟩ := row_cell secCs_len h hx hj
    rw [hq] at hq'
    injection hq' with e
    injection e with e
    subst e
    exact h1
  exact ⟨g, hq, h0, key 1 (by decide), key 2 (by decide), key 3 (by decide), key 4 (by decide), key 5 (by decide)⟩
theorem sg_cells {lo n c : Nat} {q : Option Addr} {l : List Sg} (h : w.ownsRow lo 47 7 (.slice q n c) n (l.flatMap sgCs)) {i : Nat} {x : Sg} (hx : l[i]? = some x) :
    ∃ g, q = some ⟨g, 0, none⟩ ∧ w.cell? ⟨g, i * 7, none⟩ = some (.string (strOfNums x.seg.name)) ∧ w.cell? ⟨g, i * 7 + 1, none⟩ = some (.int .u64 x.seg.addr) ∧ w.cell? ⟨g, i * 7 + 2, none⟩ = some (.int .u64 x.seg.size) ∧
      w.cell? ⟨g, i * 7 + 3, none⟩ = some (.int .u64 x.seg.off) ∧ w.cell? ⟨g, i * 7 + 4, none⟩ = some (.int .u64 x.seg.fsize) ∧ w.cell? ⟨g, i * 7 + 5, none⟩ = some (.int .i64 x.seg.prot) ∧ w.cell? ⟨g, i * 7 + 6, none⟩ = some x.v := by
  obtain ⟨g, hq, h0⟩ := row_cell sgCs_len h hx (show 0 < 7 by decide)
  have key : ∀ j, j < 7 → w.cell? ⟨g, i * 7 + j, none⟩ = (sgCs x)[j]? := fun j hj => by
    obtain ⟨g', hq', h1⟩ := row_cell sgCs_len h hx hj
    rw [hq] at hq'
    injection hq' with e
    injection e with e
    subst e
    exact h1
  exact ⟨g, hq, h0, key 1 (by decide), key 2 (by decide), key 3 (by decide), key 4 (by decide), key 5 (by decide), key 6 (by decide)⟩
theorem dep_cells {lo n c : Nat} {q : Option Addr} {l : List (List Int × Int)} (h : w.ownsRow lo 56 2 (.slice q n c) n (l.flatMap depCs)) {i : Nat} {x : List Int × Int} (hx : l[i]? = some x) :
    ∃ g, q = some ⟨g, 0, none⟩ ∧ w.cell? ⟨g, i * 2, none⟩ = some (.string (strOfNums x.1)) ∧ w.cell? ⟨g, i * 2 + 1, none⟩ = some (.int .i64 x.2) := by
  obtain ⟨g, hq, h0⟩ := row_cell depCs_len h hx (show 0 < 2 by decide)
  obtain ⟨g', hq', h1⟩ := row_cell depCs_len h hx (show 1 < 2 by decide)
  rw [hq] at hq'
  injection hq' with e
  injection e with e
  subst e
  exact ⟨g, hq, h0, h1⟩
theorem own_most {lo n c : Nat} {q : Option Addr} {T : TypeId} {k : Nat} {xs : List Value} (hw : w.ownsRow lo T k (.slice q n c) n xs) : n ≤ 9223372036854775807 := by
  rcases hw.2 with ⟨e, e0⟩ | ⟨g, cap, cur, hv, _, _, h1, h2, _⟩
  · omega
  · unfold maxLen at h2; omega

set_option maxHeartbeats 1600000 in
set_option maxRecDepth 20000 in
theorem sameSegment_any (s : Seg) {lo lo' n c c' : Nat} {q q' : Option Addr} (hn : n = s.secs.length) (h1 : w.ownsRow lo 76 6 (.slice q n c) n (s.secs.flatMap secCs)) (h2 : w.ownsRow lo' 76 6 (.slice q' n c') n (s.secs.flatMap secCs)) :
    Calls Try.prog 9 #[segV s (.slice q n c), segV s (.slice q' n c')] w fun e w' => e = .returned (.bool true) ∧ w.grownBy w' none := by
  have hmx := own_most h1
  obtain ⟨nm, ad, sz, of, fs, pr, sl⟩ := s
  unfold segV segArr
  simp only [] at hn h1 h2 ⊢
  have g1 := grown1 w (.cells #[.string (strOfNums nm), .int .u64 ad, .int .u64 sz, .int .u64 of, .int .u64 fs, .int .i64 pr, .slice q n c] 47)
  have g2 := grown1 (w.alloc (.cells #[.string (strOfNums nm), .int .u64 ad, .int .u64 sz, .int .u64 of, .int .u64 fs, .int .i64 pr, .slice q n c] 47)) (.cells #[.string (strOfNums nm), .int .u64 ad, .int .u64 sz, .int .u64 of, .int .u64 fs, .int .i64 pr, .slice q' n c'] 47)
  have gg := grown_trans g1 g2
  have A0 : SegAt _ w.heap.size ⟨nm, ad, sz, of, fs, pr, sl⟩ (.slice q n c) := SegAt.kept (w := w.alloc (.cells #[.string (strOfNums nm), .int .u64 ad, .int .u64 sz, .int .u64 of, .int .u64 fs, .int .i64 pr, .slice q n c] 47)) (heap_alloc_new w _) g2 (by simp)
  have B0 : SegAt ((w.alloc (.cells #[.string (strOfNums nm), .int .u64 ad, .int .u64 sz, .int .u64 of, .int .u64 fs, .int .i64 pr, .slice q n c] 47)).alloc (.cells #[.string (strOfNums nm), .int .u64 ad, .int .u64 sz, .int .u64 of, .int .u64 fs, .int .i64 pr, .slice q' n c'] 47)) (w.heap.size + 1) ⟨nm, ad, sz, of, fs, pr, sl⟩ (.slice q' n c') := by
    have := heap_alloc_new (w.alloc (.cells #[.string (strOfNums nm), .int .u64 ad, .int .u64 sz, .int .u64 of, .int .u64 fs, .int .i64 pr, .slice q n c] 47)) (.cells #[.string (strOfNums nm), .int .u64 ad, .int .u64 sz, .int .u64 of, .int .u64 fs, .int .i64 pr, .slice q' n c'] 47 (0, 0))
    rw [World.size_alloc] at this
    exact this
  have A := Lib.hid A0
  have B := Lib.hid B0
  have G := Lib.hid gg
  have R1 := Lib.hid h1
  have R2 := Lib.hid h2
  have HN := Lib.hid hn
  clear g1 g2 gg A0 B0 h1 h2 hn
  go_enter Try.func9, Try.ntmps9
  go_upto_region 4 with fail
  obtain ⟨W, hW⟩ : ∃ W, (w.alloc (.cells #[.string (strOfNums nm), .int .u64 ad, .int .u64 sz, .int .u64 of, .int .u64 fs, .int .i64 pr, .slice q n c] 47)).alloc (.cells #[.string (strOfNums nm), .int .u64 ad, .int .u64 sz, .int .u64 of, .int .u64 fs, .int .i64 pr, .slice q' n c'] 47) = W := ⟨_, rfl⟩
  rw [hW] at A B G ⊢
  obtain ⟨x, hx⟩ : ∃ x, w.heap.size = x := ⟨_, rfl⟩
  rw [hx] at A B
  simp only [hx]
  clear hW hx
  go_loopw [5] (fun i wr => ∃ k : Nat, k ≤ n ∧ i = .int .i64 k ∧ W.grownBy wr none) (fun i _ => n - (intOf i).toNat)
  case atStart => exact ⟨0, Nat.zero_le _, rfl, grown_refl _ _⟩
  case round =>
    obtain ⟨k, hk, rfl, hg⟩ := hrel
    have a6 := (A.out.kept hg (by simp)).c.2.2.2.2.2.2
    have b6 := (B.out.kept hg (by simp)).c.2.2.2.2.2.2
    have al := (A.out.kept hg (by simp)).lt
    have bl := (B.out.kept hg (by simp)).lt
    have GR := Lib.hid hg
    by_cases hlt : k < n
    · obtain ⟨s, hs⟩ : ∃ s, sl[k]? = some s := ⟨_, List.getElem?_eq_getElem (by rw [← HN.out]; exact hlt)⟩
      have gw := grown_trans G.out hg
      obtain ⟨g, rfl, c0, c1, c2, c3, c4, c5⟩ := sec_cells (own_grown R1.out gw) hs
      obtain ⟨g', rfl, d0, d1, d2, d3, d4, d5⟩ := sec_cells (own_grown R2.out gw) hs
      clear hg gw hs
      go_wp2
      go_quiet (fail)
      go_wp2
      go_roundw
      case rel => exact ⟨k + 1, hlt, by go_num, grown_drewN GR.out _⟩
      case measure => simp [intOf]; omega
    · have hkn : k = n := by omega
      subst hkn
      have GF := Lib.hid (grown_trans G.out hg)
      clear hg
      go_wp2
      go_ret
      exact ⟨rfl, GF.out⟩
-- SAME
end Go.Proofs.Ytemdbfgpimfkdaa

/- An image as its bytes say it, error or not; an image's cells loaded in a drawn region. No condition but that there are at most 2^47 bytes. -/
namespace Go.Proofs.Ytemdbfgpimfkdaa
open Go.RowKit
variable {w w' : World}
noncomputable section
def imgH (ys : List Int) : Hx := if imgErr ys = 0 then imgHx ys else Hx.zero
def imgS (ys : List Int) : St := if imgErr ys = 0 then imgSt ys else St.zero
end
theorem Image_all (ys : List Int) (q : Option Addr) (c n : Nat) (h : IsBytes w q c ys) (hn : ys.length = n) (hc : n ≤ c) (hcm : c ≤ 9223372036854775807) (hn47 : n ≤ 140737488355328) (hr : Small ys) :
    Calls Try.prog 5 #[.slice q n c] w fun e w' => ∃ sv dv lo, e = .returned (.tuple #[imgV (imgH ys) (imgS ys) sv dv, .int .i64 (imgErr ys)]) ∧ Lists w' lo (imgS ys) sv dv ∧ w.grownBy w' none := by
  refine (Image_any ys q c n h hn hc hcm hn47 hr).mono ?_
  rintro e w' ⟨hbad, hgood, hg⟩
  unfold imgH imgS
  by_cases h0 : imgErr ys = 0
  · obtain ⟨sv, dv, lo, rfl, hL, _⟩ := hgood h0
    rw [if_pos h0, if_pos h0, h0]
    exact ⟨sv, dv, lo, rfl, hL, hg⟩
  · rw [hbad h0, if_neg h0, if_neg h0]
    exact ⟨_, _, w'.heap.size, rfl, ⟨⟨[], rfl, World.ownsRow_nil _ _ _ _, fun x hx => by cases hx⟩, World.ownsRow_nil _ _ _ _⟩, hg⟩

theorem wpList_load_imgW {g : Nat} {h : Hx} {s : St} {sv dv : Value} {ops : Array Oper} {rest : List Oper} {o : Oper} {a : Act} {Q : Exit → Act → World → Prop} (hw : Region.wanted o (yielded ops a.tmps) = true) (x : Operand) (ho : o.op = .load 32 x)
    (hx : a.eval x = .pointer (some ⟨g, 0, none⟩)) (k : ImgAt w g h s sv dv) (hK : wpList Try.prog ops Q rest (a.put o.dst (imgV h s sv dv)) w) : wpList Try.prog ops Q (o :: rest) a w :=
  BigFrame.wpList_want hw fun _ hK' => wp_load_row _ x ho g hx _ _ _ _ k Try.underlying32 rfl (by kernel_rfl) (hK' _ _ hK)
end Go.Proofs.Ytemdbfgpimfkdaa

/- Segments and dependencies stand in the order of their commands: what a run says of each command, by numbers and bytes alone. No condition. -/
namespace Go.Proofs.Ytemdbfgpimfkdaa
open Go.RowKit

theorem stepS_pre (s : St) (b : List Int) :
    ((cmdAt b = 25 ∧ depKind (cmdAt b) = 0 ∧ (stepS s b).segs = s.segs ++ [segOf b] ∧ (stepS s b).deps = s.deps) ∨
     (cmdAt b ≠ 25 ∧ depKind (cmdAt b) ≠ 0 ∧ cmdAt b ≠ 13 ∧ (stepS s b).segs = s.segs ∧ (stepS s b).deps = s.deps ++ [(nameOf b, depKind (cmdAt b))]) ∨
     (cmdAt b ≠ 25 ∧ depKind (cmdAt b) = 0 ∧ (stepS s b).segs = s.segs ∧ (stepS s b).deps = s.deps)) := by
  have tr : ∀ (s : St) x, (trieS s x).segs = s.segs ∧ (trieS s x).deps = s.deps := fun s x => by unfold trieS; split <;> exact ⟨rfl, rfl⟩
  unfold stepS
  by_cases h1 : cmdAt b = 25
  · rw [if_pos h1]
    exact .inl ⟨h1, by rw [h1]; rfl, rfl, rfl⟩
  rw [if_neg h1]
  by_cases h2 : cmdAt b = 13
  · rw [if_pos h2]
    exact .inr (.inr ⟨h1, by rw [h2]; rfl, rfl, rfl⟩)
  rw [if_neg h2]
  by_cases h3 : depKind (cmdAt b) ≠ 0
  · rw [if_pos h3]
    exact .inr (.inl ⟨h1, h3, h2, rfl, rfl⟩)
  rw [if_neg h3]
  refine .inr (.inr ⟨h1, Classical.byContradiction h3, ?_⟩)
  split
  · unfold spS
    split
    · exact tr _ _
    split
    · exact tr _ _
    split <;> exact ⟨rfl, rfl⟩
  split <;> exact ⟨rfl, rfl⟩
theorem runS_pre (s : St) (l : List (List Int)) : ∃ t u, (runS s l).segs = s.segs ++ t ∧ (runS s l).deps = s.deps ++ u := by
  induction l generalizing s with
  | nil => exact ⟨[], [], by simp [runS], by simp [runS]⟩
  | cons b l ih =>
    obtain ⟨t, u, h1, h2⟩ := ih (stepS s b)
    rcases stepS_pre s b with ⟨_, _, a, d⟩ | ⟨_, _, _, a, d⟩ | ⟨_, _, a, d⟩
    · exact ⟨segOf b :: t, u, by rw [runS, h1, a]; simp, by rw [runS, h2, d]⟩
    · exact ⟨t, (nameOf b, depKind (cmdAt b)) :: u, by rw [runS, h1, a], by rw [runS, h2, d]; simp⟩
    · exact ⟨t, u, by rw [runS, h1, a], by rw [runS, h2, d]⟩
theorem runS_app (s : St) (l r : List (List Int)) : runS s (l ++ r) = runS (runS s l) r := by
  induction l generalizing s with
  | nil => rfl
  | cons b l ih => exact ih _
theorem runE_at {s : St} {l : List (List Int)} (h : runE s l = 0) {k : Nat} {b : List Int} (hb : l[k]? = some b) : stepE (runS s (l.take k)) b = 0 := by
  induction l generalizing s k with
  | nil => cases hb
  | cons x l ih =>
    rw [runE] at h
    split at h
    · rename_i h0
      cases k with
      | zero => injection hb with e; subst e; exact h0
      | succ k => exact ih h hb
    · rename_i h0; exact absurd h h0
theorem step_short {s : St} {b : List Int} (h : stepE s b = 0) (h8 : 8 ≤ b.length) : ¬ shortB b := by
  have nm : nameErr b = 0 → ¬ shortB b := fun h hs => by unfold nameErr at h; rw [if_pos hs] at h; cases h
  unfold stepE at h
  split at h
  · intro hs
    unfold segE at h
    split at h
    · rename_i h0; exact h0 h
    · rename_i h0
      have : segErr b = 0 := Classical.byContradiction h0
      unfold segErr at this
      rw [if_pos hs] at this
      cases this
  rename_i n25
  split at h
  · unfold ownE at h
    split at h
    · rename_i h0; exact absurd h h0
    · rename_i h0; exact nm (Classical.byContradiction h0)
  rename_i n13
  split at h
  · unfold depE at h
    split at h
    · rename_i h0; exact absurd h h0
    · rename_i h0; exact nm (Classical.byContradiction h0)
  rename_i hd
  split at h
  · intro hs
    unfold spE at h
    split at h
    · rename_i h0; exact h0 h
    · rename_i h0
      have : spansErr b = 0 := Classical.byContradiction h0
      unfold spansErr at this
      rw [if_pos hs] at this
      cases this
  rename_i hsp
  split at h
  · intro hs
    unfold entE at h
    rw [if_pos hs] at h
    cases h
  rename_i hen
  intro hs
  have hl : leastN (cmdAt b) = 0 := by
    have hd' : depKind (cmdAt b) = 0 := Classical.byContradiction hd
    unfold isInfo isLone at hsp
    simp only [not_or] at hsp
    obtain ⟨⟨a1, a2⟩, ⟨a3, a4⟩, a5⟩ := hsp
    unfold depKind at hd'
    split at hd'; cases hd'
    split at hd'; cases hd'
    split at hd'; cases hd'
    split at hd'; cases hd'
    rename_i b1 b2 b3 b4
    unfold leastN
    simp [*]
  rcases hs with h | h
  · omega
  · rw [hl] at h; omega

noncomputable section
def segsTo (ys : List Int) (k : Nat) : Nat := (runS St.zero ((imgBs ys).take k)).segs.length
def depsTo (ys : List Int) (k : Nat) : Nat := (runS St.zero ((imgBs ys).take k)).deps.length
end
theorem to_zero (ys : List Int) : segsTo ys 0 = 0 ∧ depsTo ys 0 = 0 := ⟨rfl, rfl⟩
theorem to_all (ys : List Int) : segsTo ys (imgBs ys).length = (imgSt ys).segs.length ∧ depsTo ys (imgBs ys).length = (imgSt ys).deps.length := by
  unfold segsTo depsTo imgSt
  rw [List.take_length]
  exact ⟨rfl, rfl⟩
theorem img_read {ys : List Int} (h : imgErr ys = 0) : rdErr ys = 0 ∧ runE St.zero (imgBs ys) = 0 := by
  unfold imgErr at h
  split at h
  · rename_i h0; exact absurd h h0
  · rename_i h0; exact ⟨Classical.byContradiction h0, h⟩
theorem to_step {ys : List Int} (h : imgErr ys = 0) {k : Nat} {b : List Int} (hb : (imgBs ys)[k]? = some b) (h8 : 8 ≤ b.length) :
    ¬ shortB b ∧
    ((cmdAt b = 25 ∧ depKind (cmdAt b) = 0 ∧ segErr b = 0 ∧ (imgSt ys).segs[segsTo ys k]? = some (segOf b) ∧ segsTo ys (k + 1) = segsTo ys k + 1 ∧ depsTo ys (k + 1) = depsTo ys k) ∨
     (cmdAt b ≠ 25 ∧ depKind (cmdAt b) ≠ 0 ∧ nameErr b = 0 ∧ (imgSt ys).deps[depsTo ys k]? = some (nameOf b, depKind (cmdAt b)) ∧ segsTo ys (k + 1) = segsTo ys k ∧ depsTo ys (k + 1) = depsTo ys k + 1) ∨
     (cmdAt b ≠ 25 ∧ depKind (cmdAt b) = 0 ∧ segsTo ys (k + 1) = segsTo ys k ∧ depsTo ys (k + 1) = depsTo ys k)) := by
  obtain ⟨_, hr⟩ := img_read h
  have he := runE_at hr hb
  have hsn : runS St.zero ((imgBs ys).take (k + 1)) = stepS (runS St.zero ((imgBs ys).take k)) b := by rw [take_snoc hb, runS_snoc]
  have hall : imgSt ys = runS (runS St.zero ((imgBs ys).take (k + 1))) ((imgBs ys).drop (k + 1)) := by
    unfold imgSt
    rw [← runS_app, List.take_append_drop]
  obtain ⟨t, u, h1, h2⟩ := runS_pre (runS St.zero ((imgBs ys).take (k + 1))) ((imgBs ys).drop (k + 1))
  rw [← hall] at h1 h2
  rw [hsn] at h1 h2
  unfold segsTo depsTo
  rw [hsn]
  refine ⟨step_short he h8, ?_⟩
  obtain ⟨s, hs⟩ : ∃ s, s = runS St.zero ((imgBs ys).take k) := ⟨_, rfl⟩
  rw [← hs] at he h1 h2 ⊢
  rcases stepS_pre s b with ⟨c, k0, a, d⟩ | ⟨c, k0, c13, a, d⟩ | ⟨c, k0, a, d⟩
  · refine .inl ⟨c, k0, ?_, ?_, by rw [a]; simp, by rw [d]⟩
    · unfold stepE segE at he
      rw [if_pos c] at he
      split at he
      · rename_i h0; exact absurd he h0
      · rename_i h0; exact Classical.byContradiction h0
    · rw [h1, a]; simp
  · refine .inr (.inl ⟨c, k0, ?_, ?_, by rw [a], by rw [d]; simp⟩)
    · unfold stepE depE at he
      rw [if_neg c, if_neg c13, if_pos k0] at he
      split at he
      · rename_i h0; exact absurd he h0
      · rename_i h0; exact Classical.byContradiction h0
    · rw [h2, d]; simp
  · exact .inr (.inr ⟨c, k0, by rw [a], by rw [d]⟩)
end Go.Proofs.Ytemdbfgpimfkdaa
