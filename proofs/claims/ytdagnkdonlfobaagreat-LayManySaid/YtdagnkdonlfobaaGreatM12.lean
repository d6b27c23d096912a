import Derived.Test.YtdagnkdonlfobaaGreatM9
import Derived.Test.YtdagnkdonlfobaaGreatM11
import Derived.Laws.Tables
import Derived.BigFrame
import Derived.Test.YtdagnkdonlfobaaGreatM3
import Derived.Deep.RegionHeld3
/- What the program says of any bytes as an image. No condition but that there are at most 2^47 bytes. -/
namespace Go.Proofs.YtdagnkdonlfobaaGreat
open Go.RowKit
variable {w w' : World}

def ImgAt (w : World) (g : Nat) (h : Hx) (s : St) (sv dv : Value) : Prop := w.heap[g]? = some (.cells (imgArr h s sv dv) 41 (0, 0))
def imgV (h : Hx) (s : St) (sv dv : Value) : Value := .agg (imgArr h s sv dv)
theorem ImgAt.kept {g : Nat} {h : Hx} {s : St} {sv dv : Value} {r : Option Nat} (k : ImgAt w g h s sv dv) (hg : w.grownBy w' r) (hr : r ≠ some g) : ImgAt w' g h s sv dv := (hg.block g (lt_of_block k) (fun e => hr e.symm)).trans k
theorem ImgAt.c {g : Nat} {h : Hx} {s : St} {sv dv : Value} (k : ImgAt w g h s sv dv) (i : Nat) (v : Value) (hv : (imgArr h s sv dv)[i]? = some v) : w.cell? ⟨g, i, none⟩ = some v := by rw [cell_of k]; exact hv
theorem ImgAt.fz {g : Nat} {h : Hx} {s : St} {sv dv : Value} (k : ImgAt w g h s sv dv) (i : Nat) : w.frozen? ⟨g, i, none⟩ = false := free_of k
theorem results_img {fn : Func} {p u : Tmp} (hr : fn.results = #[.cell p 41, .tmp u]) {tmps : Array Value} {v : Value} {g : Nat} {h : Hx} {s : St} {sv dv : Value} (hp : tmps.getD p undef = .pointer (some ⟨g, 0, none⟩)) (hu : tmps.getD u undef = v) (k : ImgAt w g h s sv dv) :
    (results fn tmps).run Tryz.prog w = .ok (.tuple #[imgV h s sv dv, v]) w := by
  rw [results_cell_tmp hr, hp, hu, show (asAddr (.pointer (some ⟨g, 0, none⟩)) : Sem Addr).run Tryz.prog w = .ok ⟨g, 0, none⟩ w from rfl, Result.andThen_ok, run_loadVar_row w g _ _ _ _ _ k Tryz.underlying41 rfl (by kernel_rfl), Result.andThen_ok]
  rfl
theorem grown_setRow {g : Nat} (w : World) (cs : Array Value) : w.grownBy (w.setRow g cs) (some g) :=
  ⟨rfl, rfl, rfl, by simp, fun k _ hn => setRow_other w g k cs (fun e => hn (by rw [e]))⟩
def Hx.zero : Hx := ⟨0, 0, 0⟩
theorem ImgAt.new (w : World) : ImgAt (w.alloc (.cells #[.int .i64 0, .int .i64 0, .int .u32 0, .string ⟨#[]⟩, .slice none 0 0, .slice none 0 0, .int .u64 0, .int .u64 0, .int .u64 0, .int .u64 0, .int .u64 0, .int .u64 0, .int .u64 0, .int .u64 0, .int .u64 0, .int .u64 0, .int .u64 0, .int .u64 0, .int .u64 0, .int .u64 0, .int .u64 0, .int .u64 0, .int .u64 0, .bool false] 41)) w.heap.size Hx.zero St.zero (.slice none 0 0) (.slice none 0 0) := heap_alloc_new w _
theorem ImgAt.put {g : Nat} {h0 h : Hx} {s0 s : St} {sv0 dv0 sv dv : Value} (k : ImgAt w g h0 s0 sv0 dv0) : ImgAt (w.setRow g (imgArr h s sv dv)) g h s sv dv := setRow_heap w g _ _ _ _ k
theorem imgInfo : (Tryz.prog.info? 41).map (·.size) = some 24 := by kernel_rfl
/-- The image of a making, at once. -/
theorem run_loadImg {g bm : Nat} {h : Hx} {s : St} {sv dv : Value} (k : MkgAt w g h s sv dv bm) : (loadVar 41 ⟨g, 0, none⟩).run Tryz.prog w = .ok (imgV h s sv dv) w := by
  have hl : (loadCells ⟨g, 0, none⟩ (imgArr h s sv dv).toList.length).run Tryz.prog w = .ok (imgArr h s sv dv).toList.toArray w :=
    run_loadCells_list (P := Tryz.prog) w ⟨g, 0, none⟩ (imgArr h s sv dv).toList (fun j v hv => by
      have hadd : (⟨g, 0, none⟩ : Addr).add j = ⟨g, j, none⟩ := by unfold Addr.add; split <;> simp_all
      rw [hadd, cell_of k]
      have hj : j < 24 := by
        rcases Nat.lt_or_ge j 24 with h1 | h1
        · exact h1
        · rw [List.getElem?_eq_none (by exact h1)] at hv; cases hv
      rw [← hv]
      match j, hj with
      | 0, _ => rfl
      | 1, _ => rfl
      | 2, _ => rfl
      | 3, _ => rfl
      | 4, _ => rfl
      | 5, _ => rfl
      | 6, _ => rfl
      | 7, _ => rfl
      | 8, _ => rfl
      | 9, _ => rfl
      | 10, _ => rfl
      | 11, _ => rfl
      | 12, _ => rfl
      | 13, _ => rfl
      | 14, _ => rfl
      | 15, _ => rfl
      | 16, _ => rfl
      | 17, _ => rfl
      | 18, _ => rfl
      | 19, _ => rfl
      | 20, _ => rfl
      | 21, _ => rfl
      | 22, _ => rfl
      | 23, _ => rfl
      )
  cases hq : Tryz.prog.info? 41 with
  | none => have := imgInfo; simp [hq] at this
  | some i =>
    have hs : i.size = 24 := by have := imgInfo; simpa [hq] using this
    have hagg : (isAgg 41).run Tryz.prog w = .ok true w := by
      unfold isAgg
      rw [Sem.run_bind, run_underlying Tryz.underlying41 w]
      rfl
    have hl' : (loadCells ⟨g, 0, none⟩ 24).run Tryz.prog w = .ok (imgArr h s sv dv) w := hl
    simp [loadVar, Sem.run_bind, hagg, sizeOf, typeInfo, hq, hs, hl', imgV]
theorem imgArr_one (h : Hx) (s : St) {sv dv : Value} (h1 : ∃ q n c, sv = .slice q n c) (h2 : ∃ q n c, dv = .slice q n c) : (imgArr h s sv dv).all (·.oneCell') = true := by
  obtain ⟨q, n, c, rfl⟩ := h1
  obtain ⟨q', n', c', rfl⟩ := h2
  simp [imgArr, Value.oneCell']
theorem wpList_store_img {g : Nat} {h0 h : Hx} {s0 s : St} {sv0 dv0 sv dv : Value} {ops : Array Oper} {rest : List Oper} {o : Oper} {a : Act} {Q : Exit → Act → World → Prop} (hgd : o.guard = none) (x y : Operand) (ho : o.op = .store 41 x y)
    (hx : a.eval x = .pointer (some ⟨g, 0, none⟩)) (hy : a.eval y = imgV h s sv dv) (k : ImgAt w g h0 s0 sv0 dv0) (h1 : ∃ q n c, sv = .slice q n c) (h2 : ∃ q n c, dv = .slice q n c)
    (hK : wpList Tryz.prog ops Q rest (a.put o.dst undef) (w.setRow g (imgArr h s sv dv))) : wpList Tryz.prog ops Q (o :: rest) a w :=
  wpList_store_row hgd _ x y ho g (imgArr h s sv dv) hx hy _ _ k imgInfo rfl (imgArr_one h s h1 h2) hK
theorem mkgInfo : (Tryz.prog.info? 158).map (·.size) = some 26 := by kernel_rfl
theorem mkgArr_one (h : Hx) (s : St) (bm : Nat) {sv dv : Value} (h1 : ∃ q n c, sv = .slice q n c) (h2 : ∃ q n c, dv = .slice q n c) : (mkgArr h s sv dv bm).all (·.oneCell') = true := by
  obtain ⟨q, n, c, rfl⟩ := h1
  obtain ⟨q', n', c', rfl⟩ := h2
  simp [mkgArr, Value.oneCell']
theorem wpList_store_mkg {g bm : Nat} {h : Hx} {s : St} {sv dv : Value} {old : Array Value} {ops : Array Oper} {rest : List Oper} {o : Oper} {a : Act} {Q : Exit → Act → World → Prop} (hgd : o.guard = none) (x y : Operand) (ho : o.op = .store 158 x y)
    (hx : a.eval x = .pointer (some ⟨g, 0, none⟩)) (hy : a.eval y = .agg (mkgArr h s sv dv bm)) (k : w.heap[g]? = some (.cells old 158 (0, 0))) (hs : old.size = 26) (h1 : ∃ q n c, sv = .slice q n c) (h2 : ∃ q n c, dv = .slice q n c)
    (hK : wpList Tryz.prog ops Q rest (a.put o.dst undef) (w.setRow g (mkgArr h s sv dv bm))) : wpList Tryz.prog ops Q (o :: rest) a w :=
  wpList_store_row hgd _ x y ho g (mkgArr h s sv dv bm) hx hy _ _ k mkgInfo hs (mkgArr_one h s bm h1 h2) hK
theorem wpList_load_img {g bm : Nat} {h : Hx} {s : St} {sv dv : Value} {ops : Array Oper} {rest : List Oper} {o : Oper} {a : Act} {Q : Exit → Act → World → Prop} (hgd : o.guard = none) (x : Operand) (ho : o.op = .load 41 x)
    (hx : a.eval x = .pointer (some ⟨g, 0, none⟩)) (k : MkgAt w g h s sv dv bm) (hK : wpList Tryz.prog ops Q rest (a.put o.dst (imgV h s sv dv)) w) : wpList Tryz.prog ops Q (o :: rest) a w := by
  refine wpList_plain hgd fun _ hK' => ?_
  unfold Oper.wp execOp
  simp only [ho, hx, Instr.loadAt, Instr.sureAddr, Sem.run_bind, Sem.run_pure, Result.andThen_ok, run_loadImg k]
  exact hK' _ _ hK

theorem cmdsN_len {xs : List Int} : ∀ (n p : Nat) (l : List (Int × List Int)), cmdsN xs n p = some l → l.length = n
  | 0, _, l, h => by rw [cmdsN] at h; injection h with h; subst h; rfl
  | n + 1, p, l, h => by
    rw [cmdsN] at h
    split at h
    · obtain ⟨l', hl', rfl⟩ := Option.map_eq_some_iff.1 h
      rw [List.length_cons, cmdsN_len n _ l' hl']
    · cases h
theorem cmdsN_short {xs : List Int} : ∀ (n p : Nat) (l : List (Int × List Int)), cmdsN xs n p = some l → ∀ d ∈ l, d.2.length ≤ xs.length
  | 0, _, l, h, d, hd => by rw [cmdsN] at h; injection h with h; subst h; cases hd
  | n + 1, p, l, h, d, hd => by
    rw [cmdsN] at h
    split at h
    · obtain ⟨l', hl', rfl⟩ := Option.map_eq_some_iff.1 h
      rcases List.mem_cons.1 hd with rfl | hd
      · show ((xs.drop p).take _).length ≤ _
        rw [List.length_take, List.length_drop]; omega
      · exact cmdsN_short n _ l' hl' d hd
    · cases h
theorem readL_len (ys : List Int) : (readL ys).length ≤ 256 ∧ ∀ d ∈ readL ys, d.2.length ≤ ys.length := by
  unfold readL
  split
  · rename_i h0
    have hf : frErr (ys.take 32) ys.length = 0 := by
      unfold rdErr at h0
      by_cases h : frErr (ys.take 32) ys.length = 0
      · exact h
      · rw [if_neg h] at h0; exact absurd h0 h
    have hc : cntF ys ≤ 256 := by
      unfold frErr at hf
      unfold cntF
      split at hf; cases hf
      split at hf; cases hf
      split at hf; cases hf
      split at hf; cases hf
      split at hf; cases hf
      omega
    cases hr : readN ys with
    | none => exact ⟨Nat.zero_le _, fun d hd => by cases hd⟩
    | some l =>
      refine ⟨by rw [Option.getD_some, cmdsN_len _ _ _ hr]; exact hc, fun d hd => ?_⟩
      have := cmdsN_short _ _ _ hr d hd
      rw [List.length_take, List.length_drop] at this
      omega
  · exact ⟨Nat.zero_le _, fun d hd => by cases hd⟩

/-- The bounds that a making keeps, behind k commands. -/
structure FineK (k : Nat) (s : St) : Prop where
  met : s.met.length ≤ 2 * k
  deps : s.deps.length ≤ 64
  segs : s.segs.length ≤ 16
  secs : 0 ≤ s.secs ∧ s.secs ≤ 64
theorem FineK.zero : FineK 0 St.zero := ⟨Nat.le_refl _, by decide, by decide, by decide⟩
theorem fine_trie {k : Nat} {s : St} (h : FineK k s) (hm : s.met.length ≤ 2 * k + 1) (x : Int × Int) : FineK (k + 1) (trieS s x) := by
  unfold trieS
  split
  · exact ⟨by omega, h.deps, h.segs, h.secs⟩
  · exact ⟨by show (s.met ++ [2147483699]).length ≤ _; rw [List.length_append]; show s.met.length + 1 ≤ _; omega, h.deps, h.segs, h.secs⟩
theorem fine_step {k : Nat} {s : St} {b : List Int} (h : FineK k s) (h0 : stepE s b = 0) : FineK (k + 1) (stepS s b) := by
  have hm := h.met
  have one : ∀ (t : St) (x : Int), t.met = s.met → t.deps = s.deps → t.segs = s.segs → t.secs = s.secs → FineK (k + 1) (t.meet x) := fun t x e1 e2 e3 e4 =>
    ⟨by show (t.met ++ [x]).length ≤ _; rw [List.length_append, e1]; show s.met.length + 1 ≤ _; omega, by show t.deps.length ≤ _; rw [e2]; exact h.deps, by show t.segs.length ≤ _; rw [e3]; exact h.segs, by show 0 ≤ t.secs ∧ t.secs ≤ _; rw [e4]; exact h.secs⟩
  unfold stepE at h0
  unfold stepS
  by_cases c1 : cmdAt b = 25
  · rw [if_pos c1] at h0 ⊢
    unfold segE at h0
    split at h0
    · rename_i hh; exact absurd h0 hh
    · split at h0
      · cases h0
      · rename_i _ hh
        have hs := h.segs
        have hc := h.secs
        refine ⟨by show s.met.length ≤ _; omega, h.deps, ?_, ?_⟩
        · show (s.segs ++ [segOf b]).length ≤ 16
          rw [List.length_append]; show s.segs.length + 1 ≤ _; omega
        · show 0 ≤ s.secs + ((segOf b).secs.length : Int) ∧ s.secs + ((segOf b).secs.length : Int) ≤ 64
          omega
  rw [if_neg c1] at h0 ⊢
  by_cases c2 : cmdAt b = 13
  · rw [if_pos c2]
    exact one { s with name := nameOf b } 13 rfl rfl rfl rfl
  rw [if_neg c2] at h0 ⊢
  by_cases c3 : depKind (cmdAt b) ≠ 0
  · rw [if_pos c3] at h0 ⊢
    unfold depE at h0
    split at h0
    · rename_i hh; exact absurd h0 hh
    · split at h0
      · cases h0
      · rename_i _ hh
        have hd := h.deps
        refine ⟨by show s.met.length ≤ _; omega, ?_, h.segs, h.secs⟩
        show (s.deps ++ [(nameOf b, depKind (cmdAt b))]).length ≤ 64
        rw [List.length_append]; show s.deps.length + 1 ≤ _; omega
  rw [if_neg c3] at h0 ⊢
  by_cases c4 : isInfo (cmdAt b) ∨ isLone (cmdAt b) ∨ cmdAt b = 2
  · rw [if_pos c4]
    unfold spS
    split
    · have hI : FineK k (infoS s b) ∨ True := .inr trivial
      have hmet : (infoS s b).met.length = s.met.length + 1 := by show (s.met ++ [34]).length = _; rw [List.length_append]; rfl
      unfold trieS
      split
      · exact ⟨by rw [hmet]; omega, h.deps, h.segs, h.secs⟩
      · exact ⟨by show ((infoS s b).met ++ [2147483699]).length ≤ _; rw [List.length_append, hmet]; show s.met.length + 1 + 1 ≤ _; omega, h.deps, h.segs, h.secs⟩
    · split
      · exact fine_trie h (by omega) _
      · split
        · exact one { s with ch := spanAt b 8 1 } _ rfl rfl rfl rfl
        · exact one { s with sy := spanAt b 8 16, st := spanAt b 16 1 } _ rfl rfl rfl rfl
  rw [if_neg c4]
  by_cases c5 : cmdAt b = 2147483688
  · rw [if_pos c5]
    exact one { s with entry := numAt b 8 8, has := true } 2147483688 rfl rfl rfl rfl
  rw [if_neg c5]
  exact ⟨by omega, h.deps, h.segs, h.secs⟩
def imgBs (ys : List Int) : List (List Int) := (readL ys).map Prod.snd
def imgErr (ys : List Int) : Int := if rdErr ys ≠ 0 then rdErr ys else runE St.zero (imgBs ys)
def imgSt (ys : List Int) : St := runS St.zero (imgBs ys)
def imgHx (ys : List Int) : Hx := ⟨(readH ys).kind, (readH ys).sub, (readH ys).flags⟩
/-- An image's lists, in memory. -/
structure Lists (w : World) (lo : Nat) (s : St) (sv dv : Value) : Prop where
  segs : ∃ l : List Sg, l.map Sg.seg = s.segs ∧ w.ownsRow lo 58 7 sv l.length (l.flatMap sgCs) ∧ ∀ x ∈ l, w.ownsRow lo 148 6 x.v x.seg.secs.length (x.seg.secs.flatMap secCs)
  deps : w.ownsRow lo 141 2 dv s.deps.length (s.deps.flatMap depCs)
structure ImgOut (w w' : World) (ys : List Int) (e : Ending) : Prop where
  bad : imgErr ys ≠ 0 → e = .returned (.tuple #[imgV Hx.zero St.zero (.slice none 0 0) (.slice none 0 0), .int .i64 (imgErr ys)])
  good : imgErr ys = 0 → ∃ sv dv lo, e = .returned (.tuple #[imgV (imgHx ys) (imgSt ys) sv dv, .int .i64 0]) ∧ Lists w' lo (imgSt ys) sv dv ∧ w.heap.size ≤ lo
  grown : w.grownBy w' none
theorem ImgOut.no {ys : List Int} {er : Int} (hE : imgErr ys = er) (h0 : er ≠ 0) (hg : w.grownBy w' none) : ImgOut w w' ys (.returned (.tuple #[imgV Hx.zero St.zero (.slice none 0 0) (.slice none 0 0), .int .i64 er])) :=
  ⟨fun _ => by rw [hE], fun h => absurd (hE ▸ h) h0, hg⟩
theorem cmd_at {b : List Int} {cm : Int} (h : mayB cm b = true) : cm = cmdAt b := by
  obtain ⟨_, _, hc, _⟩ := of_decide_eq_true h
  unfold cmdAt numAt
  rw [List.drop_zero]; exact hc.symm

theorem take_snoc {α : Type} {l : List α} {k : Nat} {x : α} (h : l[k]? = some x) : l.take (k + 1) = l.take k ++ [x] := by
  rw [List.take_add_one, h]; rfl
theorem imgApart : 58 ≠ 41 ∧ 148 ≠ 41 ∧ 141 ≠ 41 := by decide
theorem Lists.kept {lo g : Nat} {s s0 : St} {sv dv sv0 dv0 : Value} {h0 : Hx} (k : Lists w lo s sv dv) (hg : w.grownBy w' (some g)) (z : ImgAt w g h0 s0 sv0 dv0) : Lists w' lo s sv dv := by
  obtain ⟨l, a2, a3, a4⟩ := k.segs
  exact ⟨⟨l, a2, a3.kept hg (row_off a3 z imgApart.1), fun x hx => (a4 x hx).kept hg (row_off (a4 x hx) z imgApart.2.1)⟩, k.deps.kept hg (row_off k.deps z imgApart.2.2)⟩
theorem Lists.grown {lo : Nat} {s : St} {sv dv : Value} (k : Lists w lo s sv dv) (hg : w.grownBy w' none) : Lists w' lo s sv dv := by
  obtain ⟨l, a2, a3, a4⟩ := k.segs
  exact ⟨⟨l, a2, own_grown a3 hg, fun x hx => own_grown (a4 x hx) hg⟩, own_grown k.deps hg⟩
theorem fits_of {w : World} {base : Nat} {m : Cm} (h : Taken w base m) (hd : (0 ≤ m.d.1 ∧ m.d.1 < 4294967296) ∧ Small m.d.2 ∧ mayB m.d.1 m.d.2 = true) : m.Fits := by
  obtain ⟨g, hq, ho⟩ := h
  exact ⟨hd.1, hd.2.1, ho.le, by have := ho.most; unfold maxLen at this; omega⟩
set_option maxHeartbeats 6400000 in
set_option maxRecDepth 20000 in
theorem Image_any (ys : List Int) (q : Option Addr) (c n : Nat) (h : IsBytes w q c ys) (hn : ys.length = n) (hc : n ≤ c) (hcm : c ≤ 9223372036854775807) (hn47 : n ≤ 140737488355328) (hr : Small ys) :
    Calls Tryz.prog 56 #[.slice q n c] w fun e w' => ImgOut w w' ys e := by
  have hmm := @run_makeMap Tryz.prog
  have g0 := grown1 w (.cells #[.int .i64 0, .int .i64 0, .int .u32 0, .string ⟨#[]⟩, .slice none 0 0, .slice none 0 0, .int .u64 0, .int .u64 0, .int .u64 0, .int .u64 0, .int .u64 0, .int .u64 0, .int .u64 0, .int .u64 0, .int .u64 0, .int .u64 0, .int .u64 0, .int .u64 0, .int .u64 0, .int .u64 0, .int .u64 0, .int .u64 0, .int .u64 0, .bool false] 41)
  have RD := Lib.hid (Read_all (w := w.alloc (.cells #[.int .i64 0, .int .i64 0, .int .u32 0, .string ⟨#[]⟩, .slice none 0 0, .slice none 0 0, .int .u64 0, .int .u64 0, .int .u64 0, .int .u64 0, .int .u64 0, .int .u64 0, .int .u64 0, .int .u64 0, .int .u64 0, .int .u64 0, .int .u64 0, .int .u64 0, .int .u64 0, .int .u64 0, .int .u64 0, .int .u64 0, .int .u64 0, .bool false] 41)) ys q c n (h.kept g0 (by simp)) hn hc hcm hn47 hr)
  have Z0 := Lib.hid (ImgAt.new w)
  have G0 := Lib.hid g0
  have RM := Lib.hid (readL_may hr)
  have RL := Lib.hid (readL_len ys)
  have HN := Lib.hid hn
  obtain ⟨⟨hs, hk, hf⟩, hh⟩ : ∃ z, z = readH ys := ⟨_, rfl⟩
  rw [← hh] at RD
  have HX := Lib.hid (show imgHx ys = ⟨hk, hs, hf⟩ by unfold imgHx; rw [← hh])
  have IE := Lib.hid (show imgErr ys = if rdErr ys ≠ 0 then rdErr ys else runE St.zero (imgBs ys) from rfl)
  have IS := Lib.hid (show imgSt ys = runS St.zero (imgBs ys) from rfl)
  obtain ⟨er, her⟩ : ∃ z, z = rdErr ys := ⟨_, rfl⟩
  rw [← her] at RD IE
  clear h hr g0 hh her hn
  unfold Hd.v at RD
  simp only [] at RD
  by_cases h0 : er = 0
  rotate_left
  · have HE := Lib.hid (IE.out.trans (if_pos h0))
    have HNZ := Lib.hid h0
    have hne : (er != 0) = true := by simpa using h0
    clear h0 hmm
    go_enter Tryz.func56, Tryz.ntmps56
    go_wp2_with fail
    refine RD.out.mono ?_
    rintro e w2 ⟨pre, qa, ca, base, hpl, rfl, hbs, hG, hg⟩
    have hgn := grown_trans hg (grown1 w2 (.cells #[.int .i64 hs, .int .i64 hk, .int .u32 hf] 68))
    have G2 := Lib.hid (grown_trans G0.out hgn)
    have ZA := Lib.hid (Z0.out.kept hgn (by simp))
    clear hg hgn hpl hbs hG
    go_wp2_with (refine wpList_store_img (h := Hx.zero) (s := St.zero) (sv := .slice none 0 0) (dv := .slice none 0 0) rfl _ _ rfl rfl rfl ZA.out ⟨_, _, _, rfl⟩ ⟨_, _, _, rfl⟩ ?_)
    go_wp2
    refine bodyPost_ret (results_img rfl rfl rfl (ZA.out.put (h := Hx.zero) (s := St.zero) (sv := .slice none 0 0) (dv := .slice none 0 0))) rfl ?_
    exact ImgOut.no HE.out HNZ.out (grown_new G2.out (grown_setRow _ _) (Nat.le_refl _))
  subst h0
  have IE0 := Lib.hid (IE.out.trans (if_neg (by simp)))
  clear IE
  go_enter Tryz.func56, Tryz.ntmps56
  go_wp2_with fail
  refine RD.out.mono ?_
  rintro e w2 ⟨pre, qa, ca, base, hpl, rfl, hbs, hG, hg⟩
  have gh := grown1 w2 (.cells #[.int .i64 hs, .int .i64 hk, .int .u32 hf] 68)
  have hgn := grown_trans hg gh
  have G3 := Lib.hid (grown_trans G0.out hgn)
  have ZA := Lib.hid (Z0.out.kept hgn (by simp))
  have HD := Lib.hid (HdAt.new w2 ⟨hs, hk, hf⟩)
  have GT := Lib.hid (hG.over (Over.of_grown (hi := base) gh (by simp)) (Nat.le_refl _))
  have PL := Lib.hid hpl
  clear hg hgn hpl hbs hG gh
  go_upto_region 4 with fail
  obtain ⟨w3, hw3⟩ : ∃ w3, w2.alloc (.cells #[.int .i64 hs, .int .i64 hk, .int .u32 hf] 68) = w3 := ⟨_, rfl⟩
  obtain ⟨hb, hhb⟩ : ∃ z, w2.heap.size = z := ⟨_, rfl⟩
  rw [hw3] at G3 ZA HD GT ⊢
  rw [hhb] at HD
  simp only [hhb]
  clear hw3 hhb
  have k0 := HD.out.c0
  have k1 := HD.out.c1
  have k2 := HD.out.c2
  simp only [] at k0 k1 k2
  have OLD := Lib.hid (show ((w3.alloc (.map #[] 0)).alloc (.cells #[.int .i64 0, .int .i64 0, .int .u32 0, .string ⟨#[]⟩, .slice none 0 0, .slice none 0 0, .int .u64 0, .int .u64 0, .int .u64 0, .int .u64 0, .int .u64 0, .int .u64 0, .int .u64 0, .int .u64 0, .int .u64 0, .int .u64 0, .int .u64 0, .int .u64 0, .int .u64 0, .int .u64 0, .int .u64 0, .int .u64 0, .int .u64 0, .bool false, .map none, .int .i64 0] 158)).heap[w3.heap.size + 1]? = some (.cells #[.int .i64 0, .int .i64 0, .int .u32 0, .string ⟨#[]⟩, .slice none 0 0, .slice none 0 0, .int .u64 0, .int .u64 0, .int .u64 0, .int .u64 0, .int .u64 0, .int .u64 0, .int .u64 0, .int .u64 0, .int .u64 0, .int .u64 0, .int .u64 0, .int .u64 0, .int .u64 0, .int .u64 0, .int .u64 0, .int .u64 0, .int .u64 0, .bool false, .map none, .int .i64 0] 158 (0, 0)) from by
    have := heap_alloc_new (w3.alloc (.map #[] 0)) (.cells #[.int .i64 0, .int .i64 0, .int .u32 0, .string ⟨#[]⟩, .slice none 0 0, .slice none 0 0, .int .u64 0, .int .u64 0, .int .u64 0, .int .u64 0, .int .u64 0, .int .u64 0, .int .u64 0, .int .u64 0, .int .u64 0, .int .u64 0, .int .u64 0, .int .u64 0, .int .u64 0, .int .u64 0, .int .u64 0, .int .u64 0, .int .u64 0, .bool false, .map none, .int .i64 0] 158 (0, 0))
    rwa [World.size_alloc] at this)
  go_wp2_with (refine wpList_store_mkg (h := ⟨hk, hs, hf⟩) (s := St.zero) (sv := .slice none 0 0) (dv := .slice none 0 0) (bm := w3.heap.size) rfl _ _ rfl rfl rfl OLD.out rfl ⟨_, _, _, rfl⟩ ⟨_, _, _, rfl⟩ ?_)
  have gA := grown_trans (grown1 w3 (.map #[] 0)) (grown1 (w3.alloc (.map #[] 0)) (.cells #[.int .i64 0, .int .i64 0, .int .u32 0, .string ⟨#[]⟩, .slice none 0 0, .slice none 0 0, .int .u64 0, .int .u64 0, .int .u64 0, .int .u64 0, .int .u64 0, .int .u64 0, .int .u64 0, .int .u64 0, .int .u64 0, .int .u64 0, .int .u64 0, .int .u64 0, .int .u64 0, .int .u64 0, .int .u64 0, .int .u64 0, .int .u64 0, .bool false, .map none, .int .i64 0] 158))
  have gR : World.grownBy _ (((w3.alloc (.map #[] 0)).alloc (.cells #[.int .i64 0, .int .i64 0, .int .u32 0, .string ⟨#[]⟩, .slice none 0 0, .slice none 0 0, .int .u64 0, .int .u64 0, .int .u64 0, .int .u64 0, .int .u64 0, .int .u64 0, .int .u64 0, .int .u64 0, .int .u64 0, .int .u64 0, .int .u64 0, .int .u64 0, .int .u64 0, .int .u64 0, .int .u64 0, .int .u64 0, .int .u64 0, .bool false, .map none, .int .i64 0] 158)).setRow (w3.heap.size + 1) (mkgArr ⟨hk, hs, hf⟩ St.zero (.slice none 0 0) (.slice none 0 0) w3.heap.size)) (some (w3.heap.size + 1)) := grown_setRow _ _
  have HS := Lib.hid (show Holds (((w3.alloc (.map #[] 0)).alloc (.cells #[.int .i64 0, .int .i64 0, .int .u32 0, .string ⟨#[]⟩, .slice none 0 0, .slice none 0 0, .int .u64 0, .int .u64 0, .int .u64 0, .int .u64 0, .int .u64 0, .int .u64 0, .int .u64 0, .int .u64 0, .int .u64 0, .int .u64 0, .int .u64 0, .int .u64 0, .int .u64 0, .int .u64 0, .int .u64 0, .int .u64 0, .int .u64 0, .bool false, .map none, .int .i64 0] 158)).setRow (w3.heap.size + 1) (mkgArr ⟨hk, hs, hf⟩ St.zero (.slice none 0 0) (.slice none 0 0) w3.heap.size)) w3.heap.size (w3.heap.size + 1) w3.heap.size ⟨hk, hs, hf⟩ St.zero from by
    refine ⟨⟨.slice none 0 0, .slice none 0 0, [], setRow_heap _ _ _ _ _ _ OLD.out, rfl, World.ownsRow_nil _ _ _ _, fun x hx => (by cases hx), World.ownsRow_nil _ _ _ _⟩, ?_, Nat.le_succ _, Nat.le_refl _⟩
    refine MetAt.kept (MetAt.kept (w := w3.alloc (.map #[] 0)) ⟨0, _, World.ownsMap_made w3 Tryz.prog 35 (unitElem (H := Unit)), fun k => ?_, Nat.le_refl _⟩ (grown1 _ _) (by simp)) gR (by intro e; injection e with e; omega)
    simp [Maps.has, St.zero])
  have GW := Lib.hid (grown_new gA gR (Nat.le_succ _))
  clear gA gR
  obtain ⟨W, hW⟩ : ∃ W, (((w3.alloc (.map #[] 0)).alloc (.cells #[.int .i64 0, .int .i64 0, .int .u32 0, .string ⟨#[]⟩, .slice none 0 0, .slice none 0 0, .int .u64 0, .int .u64 0, .int .u64 0, .int .u64 0, .int .u64 0, .int .u64 0, .int .u64 0, .int .u64 0, .int .u64 0, .int .u64 0, .int .u64 0, .int .u64 0, .int .u64 0, .int .u64 0, .int .u64 0, .int .u64 0, .int .u64 0, .bool false, .map none, .int .i64 0] 158)).setRow (w3.heap.size + 1) (mkgArr ⟨hk, hs, hf⟩ St.zero (.slice none 0 0) (.slice none 0 0) w3.heap.size)) = W := ⟨_, rfl⟩
  rw [hW] at HS GW ⊢
  clear hW OLD k0 k1 k2 hmm
  obtain ⟨lo, hlo⟩ : ∃ lo, w3.heap.size = lo := ⟨_, rfl⟩
  have LO := Lib.hid hlo
  rw [hlo] at HS ⊢
  clear hlo
  obtain ⟨BS, hBS⟩ : ∃ BS, BS = pre.map Cm.bytes := ⟨_, rfl⟩
  have BE := Lib.hid (show imgBs ys = BS by unfold imgBs; rw [← PL.out, List.map_map, hBS]; rfl)
  have BL := Lib.hid (show BS.length = pre.length by rw [hBS, List.length_map])
  have BG := Lib.hid (show ∀ (k : Nat) (m : Cm), pre[k]? = some m → BS[k]? = some m.bytes from fun k m h => by rw [hBS, List.getElem?_map, h]; rfl)
  have P256 := Lib.hid (show pre.length ≤ 256 by have := RL.out.1; rw [← PL.out, List.length_map] at this; exact this)
  have hcap : (pre.length : Int) ≤ 256 := by have := P256.out; omega
  obtain ⟨hx, hhx⟩ : ∃ z : Hx, z = ⟨hk, hs, hf⟩ := ⟨_, rfl⟩
  rw [← hhx] at HX HS
  clear hBS hhx
  go_loopw [9, 10, 32] (fun _ _ i wr => ∃ k : Nat, k ≤ pre.length ∧ i = .int .i64 k ∧ Holds wr lo (lo + 1) lo hx (runS St.zero (BS.take k)) ∧ runE St.zero (BS.take k) = 0 ∧ FineK k (runS St.zero (BS.take k)) ∧ w3.grownBy wr none) (fun _ _ i _ => pre.length - (intOf i).toNat)
  case atStart => exact ⟨0, Nat.zero_le _, rfl, HS.out, rfl, FineK.zero, GW.out⟩
  case round =>
    obtain ⟨k, hkl, rfl, hH, hE, hF, hgr⟩ := hrel
    have H := Lib.hid hH
    have RE := Lib.hid hE
    have FK := Lib.hid hF
    have GR := Lib.hid hgr
    clear hH hE hF hgr
    by_cases hlt : k < pre.length
    · obtain ⟨m, hm⟩ : ∃ m, pre[k]? = some m := ⟨_, List.getElem?_eq_getElem hlt⟩
      have hmem := List.mem_of_getElem? hm
      have hmd := RM.out m.d (by rw [← PL.out]; exact List.mem_map_of_mem hmem)
      have hml := RL.out.2 m.d (by rw [← PL.out]; exact List.mem_map_of_mem hmem)
      have htk := GT.out.each m hmem
      have hfit := fits_of htk hmd
      obtain ⟨gm, hq, ho⟩ := htk
      have hib : IsBytes w3 m.q m.cap m.bytes := by rw [hq]; exact ho.bytes _
      obtain ⟨b, o, hqa, hcc⟩ := ((GT.out.cms rfl).1.grown GR.out) (by omega)
      subst hqa
      obtain ⟨⟨c0, c1⟩, _⟩ := hcc k m hm
      have gC := grown1 wr (.cells #[.int .u32 m.cmd, .slice m.q m.bytes.length m.cap] 109)
      have H2 := H.out.grown gC
      have hst : stepE (runS St.zero (BS.take k)) m.bytes = runE St.zero (BS.take (k + 1)) := by
        rw [take_snoc (BG.out k m hm), runE_snoc _ _ _ RE.out]
      have hss : stepS (runS St.zero (BS.take k)) m.bytes = runS St.zero (BS.take (k + 1)) := by rw [take_snoc (BG.out k m hm), runS_snoc]
      have hmet := FK.out.met
      have AD := Lib.hid (add_any H2 m ⟨cmd_at hmd.2.2, hfit, (hib.kept (grown_trans GR.out gC) (by simp)), Nat.le_trans hml (by rw [HN.out]; exact hn47)⟩ ⟨by omega, FK.out.deps, FK.out.segs, FK.out.secs⟩)
      have ST := Lib.hid hst
      have SS := Lib.hid hss
      unfold Cm.v at AD
      have CN := Lib.hid (CmAt.new wr m)
      have hwl : w3.heap.size ≤ wr.heap.size := GR.out.size
      clear hcc hib ho hfit hmd hml hmem H2 hst hss hq gC
      go_wp2_with fail
      refine AD.out.mono ?_
      intro e w7 hO
      have hgw := hO.below
      have OO := Lib.hid hO
      obtain rfl := hO.val
      have G7 := Lib.hid (grown_below (w := w3) ((below_grown (grown_trans GR.out (grown1 wr (.cells #[.int .u32 m.cmd, .slice m.q m.bytes.length m.cap] 109))) (Nat.le_refl _) (by simp)).trans (by rw [LO.out]; exact hgw)) none)
      clear hO hgw AD c0 c1
      by_cases hz : stepE (runS St.zero (BS.take k)) m.bytes = 0
      · rw [hz]
        have H7 := Lib.hid (SS.out ▸ OO.out.good hz : Holds w7 lo (lo + 1) lo hx (runS St.zero (BS.take (k + 1))))
        have F7 := Lib.hid (SS.out ▸ fine_step FK.out hz : FineK (k + 1) (runS St.zero (BS.take (k + 1))))
        have E7 := Lib.hid (ST.out.symm.trans hz)
        clear OO hz
        go_wp2
        refine ⟨⟨k + 1, hlt, by go_num, H7.out, E7.out, F7.out, G7.out⟩, by simp [intOf]; omega⟩
      · have HE := Lib.hid (show imgErr ys = stepE (runS St.zero (BS.take k)) m.bytes from by
          rw [IE0.out, BE.out, ST.out, ← List.take_append_drop (k + 1) BS, runE_stop _ _ _ (by rw [← ST.out]; exact hz), List.take_append_drop])
        have HNZ := Lib.hid hz
        have hne : (stepE (runS St.zero (BS.take k)) m.bytes != 0) = true := by simpa using hz
        have ZB := Lib.hid (ZA.out.kept G7.out (by simp))
        have G8 := Lib.hid (grown_trans G3.out G7.out)
        obtain ⟨er, her⟩ : ∃ er, er = stepE (runS St.zero (BS.take k)) m.bytes := ⟨_, rfl⟩
        rw [← her] at HE HNZ hne ⊢
        clear hz OO her
        go_wp2_with (refine wpList_store_img (h := Hx.zero) (s := St.zero) (sv := .slice none 0 0) (dv := .slice none 0 0) rfl _ _ rfl rfl rfl ZB.out ⟨_, _, _, rfl⟩ ⟨_, _, _, rfl⟩ ?_)
        go_wp2
        refine bodyPost_ret (results_img rfl rfl rfl (ZB.out.put (h := Hx.zero) (s := St.zero) (sv := .slice none 0 0) (dv := .slice none 0 0))) rfl ?_
        exact ImgOut.no HE.out HNZ.out (grown_new G8.out (grown_setRow _ _) (Nat.le_refl _))
    · have hkp : k = pre.length := by omega
      subst hkp
      have htake : BS.take pre.length = BS := List.take_of_length_le (by rw [BL.out]; exact Nat.le_refl _)
      rw [htake] at H RE
      obtain ⟨sv, dv, l, a1, a2, a3, a4, a5⟩ := H.out.ex
      obtain ⟨qs, cs, rfl⟩ := own_slice a3
      obtain ⟨qd, cd, rfl⟩ := own_slice a5
      have A1 := Lib.hid a1
      have HE := Lib.hid (show imgErr ys = 0 by rw [IE0.out, BE.out]; exact RE.out)
      have HST := Lib.hid (show imgSt ys = runS St.zero BS by rw [IS.out, BE.out])
      have ZB := Lib.hid (ZA.out.kept GR.out (by simp))
      have G8 := Lib.hid (grown_trans G3.out GR.out)
      have LL := Lib.hid (show Lists wr lo (runS St.zero BS) (.slice qs l.length cs) (.slice qd (runS St.zero BS).deps.length cd) from ⟨⟨l, a2, a3, a4⟩, a5⟩)
      clear a1 a2 a3 a4 a5 htake
      generalize runS St.zero BS = sF at *
      generalize l.length = D at *
      generalize sF.deps.length = D2 at *
      go_wp2_with (first | refine wpList_load_img rfl _ rfl rfl A1.out ?_ | refine wpList_store_img (h := hx) (s := sF) (sv := .slice qs D cs) (dv := .slice qd D2 cd) rfl _ _ rfl rfl rfl ZB.out ⟨_, _, _, rfl⟩ ⟨_, _, _, rfl⟩ ?_)
      go_wp2
      refine bodyPost_ret (results_img rfl rfl rfl (ZB.out.put (h := hx) (s := sF) (sv := .slice qs D cs) (dv := .slice qd D2 cd))) rfl ?_
      have gP := grown_setRow wr (g := w.heap.size) (imgArr hx sF (.slice qs D cs) (.slice qd D2 cd))
      refine ⟨fun h => absurd HE.out h, fun _ => ⟨.slice qs D cs, .slice qd D2 cd, lo, by rw [HX.out, HST.out]; rfl, ?_, ?_⟩, grown_new G8.out gP (Nat.le_refl _)⟩
      · rw [HST.out]
        exact LL.out.kept gP ZB.out
      · rw [← LO.out]; exact G3.out.size
end Go.Proofs.YtdagnkdonlfobaaGreat

/- An image as its bytes say it, error or not; an image's cells loaded in a drawn region. No condition but that there are at most 2^47 bytes. -/
namespace Go.Proofs.YtdagnkdonlfobaaGreat
open Go.RowKit
variable {w w' : World}
noncomputable section
def imgH (ys : List Int) : Hx := if imgErr ys = 0 then imgHx ys else Hx.zero
def imgS (ys : List Int) : St := if imgErr ys = 0 then imgSt ys else St.zero
end
theorem Image_all (ys : List Int) (q : Option Addr) (c n : Nat) (h : IsBytes w q c ys) (hn : ys.length = n) (hc : n ≤ c) (hcm : c ≤ 9223372036854775807) (hn47 : n ≤ 140737488355328) (hr : Small ys) :
    Calls Tryz.prog 56 #[.slice q n c] w fun e w' => ∃ sv dv lo, e = .returned (.tuple #[imgV (imgH ys) (imgS ys) sv dv, .int .i64 (imgErr ys)]) ∧ Lists w' lo (imgS ys) sv dv ∧ w.grownBy w' none := by
  refine (Image_any ys q c n h hn hc hcm hn47 hr).mono ?_
  rintro e w' ⟨hbad, hgood, hg⟩
  unfold imgH imgS
  by_cases h0 : imgErr ys = 0
  · obtain ⟨sv, dv, lo, rfl, hL, _⟩ := hgood h0
    rw [if_pos h0, if_pos h0, h0]
    exact ⟨sv, dv, lo, rfl, hL, hg⟩
  · rw [hbad h0, if_neg h0, if_neg h0]
    exact ⟨_, _, w'.heap.size, rfl, ⟨⟨[], rfl, World.ownsRow_nil _ _ _ _, fun x hx => by cases hx⟩, World.ownsRow_nil _ _ _ _⟩, hg⟩

theorem wpList_load_imgW {g : Nat} {h : Hx} {s : St} {sv dv : Value} {ops : Array Oper} {rest : List Oper} {o : Oper} {a : Act} {Q : Exit → Act → World → Prop} (hw : Region.wanted o (yielded ops a.tmps) = true) (x : Operand) (ho : o.op = .load 41 x)
    (hx : a.eval x = .pointer (some ⟨g, 0, none⟩)) (k : ImgAt w g h s sv dv) (hK : wpList Tryz.prog ops Q rest (a.put o.dst (imgV h s sv dv)) w) : wpList Tryz.prog ops Q (o :: rest) a w :=
  BigFrame.wpList_want hw fun _ hK' => wp_load_row _ x ho g hx _ _ _ _ k Tryz.underlying41 rfl (by kernel_rfl) (hK' _ _ hK)
end Go.Proofs.YtdagnkdonlfobaaGreat

/- Which segments may be: by numbers; the small questions of the program and of the document. No condition but that numbers fit their types. -/
namespace Go.Proofs.YtdagnkdonlfobaaGreat
open Go.RowKit
variable {w w' : World}

def withinN (a b c : Int) : Bool := decide (a + b ≤ c)
def laidS (s : Seg) : Bool := (s.prot != 0) || (s.fsize != 0)
def protOk (s : Seg) : Bool := (decide (0 < s.prot) && decide (s.prot ≤ 7)) || ((s.prot == 0) && (s.fsize == 0))
def sizeOk (s : Seg) (n : Int) : Bool := (s.addr % 4096 == 0) && (s.size % 4096 == 0) && decide (0 < s.size) && decide (s.fsize ≤ s.size) && withinN s.off s.fsize n && withinN s.addr s.size 140737488355328
def wrOk (s : Seg) : Bool := (s.prot == 2) || (s.prot == 3) || (s.prot == 6) || (s.prot == 7)
def U64 (x : Int) : Prop := 0 ≤ x ∧ x < 18446744073709551616
structure SegFit (s : Seg) : Prop where
  addr : U64 s.addr
  size : U64 s.size
  off : U64 s.off
  fsize : U64 s.fsize
  prot : -9223372036854775808 ≤ s.prot ∧ s.prot ≤ 9223372036854775807

section
variable (s : Seg) (q : Option Addr) (n c : Nat)
theorem isLaid_any : Calls Tryz.prog 102 #[segV s (.slice q n c)] w fun e w' => e = .returned (.bool (laidS s)) ∧ w.grownBy w' none := by
  obtain ⟨nm, ad, sz, of, fs, pr, sl⟩ := s
  have G := Lib.hid (grown1 w (.cells #[.string (strOfNums nm), .int .u64 ad, .int .u64 sz, .int .u64 of, .int .u64 fs, .int .i64 pr, .slice q n c] 58))
  unfold laidS segV segArr
  simp only []
  cases h1 : (pr != 0)
  · cases h2 : (fs != 0)
    all_goals
      go_enter Tryz.func102, Tryz.ntmps102
      go_wp2
      go_ret
      exact ⟨rfl, G.out⟩
  · go_enter Tryz.func102, Tryz.ntmps102
    go_wp2
    go_ret
    exact ⟨rfl, G.out⟩
theorem hole_any : Calls Tryz.prog 19 #[segV s (.slice q n c)] w fun e w' => e = .returned (.bool (!laidS s)) ∧ w.grownBy w' none := by
  obtain ⟨nm, ad, sz, of, fs, pr, sl⟩ := s
  have G := Lib.hid (grown1 w (.cells #[.string (strOfNums nm), .int .u64 ad, .int .u64 sz, .int .u64 of, .int .u64 fs, .int .i64 pr, .slice q n c] 58))
  unfold laidS segV segArr
  simp only []
  have e1 : (pr != 0) = !(pr == 0) := rfl
  have e2 : (fs != 0) = !(fs == 0) := rfl
  rw [e1, e2]
  clear e1 e2
  cases h1 : (pr == 0)
  · go_enter Tryz.func19, Tryz.ntmps19
    go_wp2
    go_ret
    exact ⟨rfl, G.out⟩
  · cases h2 : (fs == 0)
    all_goals
      go_enter Tryz.func19, Tryz.ntmps19
      go_wp2
      go_ret
      exact ⟨rfl, G.out⟩
theorem canWrite_any : Calls Tryz.prog 168 #[segV s (.slice q n c)] w fun e w' => e = .returned (.bool (wrOk s)) ∧ w.grownBy w' none := by
  obtain ⟨nm, ad, sz, of, fs, pr, sl⟩ := s
  have G := Lib.hid (grown1 w (.cells #[.string (strOfNums nm), .int .u64 ad, .int .u64 sz, .int .u64 of, .int .u64 fs, .int .i64 pr, .slice q n c] 58))
  unfold wrOk segV segArr
  simp only []
  cases h1 : (pr == 2)
  · cases h2 : (pr == 3)
    · cases h3 : (pr == 6)
      · cases h4 : (pr == 7)
        all_goals
          go_enter Tryz.func168, Tryz.ntmps168
          go_wp2
          go_ret
          exact ⟨rfl, G.out⟩
      · go_enter Tryz.func168, Tryz.ntmps168
        go_wp2
        go_ret
        exact ⟨rfl, G.out⟩
    · go_enter Tryz.func168, Tryz.ntmps168
      go_wp2
      go_ret
      exact ⟨rfl, G.out⟩
  · go_enter Tryz.func168, Tryz.ntmps168
    go_wp2
    go_ret
    exact ⟨rfl, G.out⟩
theorem protsMay1_any : Calls Tryz.prog 166 #[segV s (.slice q n c)] w fun e w' => e = .returned (.bool (protOk s)) ∧ w.grownBy w' none := by
  obtain ⟨nm, ad, sz, of, fs, pr, sl⟩ := s
  have G := Lib.hid (grown1 w (.cells #[.string (strOfNums nm), .int .u64 ad, .int .u64 sz, .int .u64 of, .int .u64 fs, .int .i64 pr, .slice q n c] 58))
  unfold protOk segV segArr
  simp only []
  cases h1 : decide (0 < pr) <;> cases h2 : decide (pr ≤ 7) <;> cases h3 : (pr == 0) <;> cases h4 : (fs == 0)
  all_goals
    go_enter Tryz.func166, Tryz.ntmps166
    go_wp2
    go_ret
    exact ⟨rfl, G.out⟩
end

theorem withinR_any (a b c : Int) (ha : U64 a) (hb : U64 b) (hc : U64 c) (w : World) :
    Calls Tryz.prog 48 #[.int .u64 a, .int .u64 b, .int .u64 c] w fun e w' => e = .returned (.bool (withinN a b c)) ∧ w = w' := by
  obtain ⟨h1, h2⟩ := ha
  obtain ⟨h3, h4⟩ := hb
  obtain ⟨h5, h6⟩ := hc
  unfold withinN
  by_cases h : b ≤ c
  · have d1 : decide (b ≤ c) = true := by simpa using h
    have m1 : (c - b) % 18446744073709551616 = c - b := by omega
    have m2 : IntKind.u64.wrap (c - b) = c - b := by rw [IntKind.wrap_u64]; exact m1
    have e : decide (a + b ≤ c) = decide (a ≤ c - b) := by simp only [decide_eq_decide]; omega
    rw [e]
    clear e h
    go_enter Tryz.func48, Tryz.ntmps48
    go_wp2
    go_ret
    exact ⟨rfl, rfl⟩
  · have d1 : decide (b ≤ c) = false := by simp; omega
    have e : decide (a + b ≤ c) = false := by simp; omega
    rw [e]
    clear e h
    go_enter Tryz.func48, Tryz.ntmps48
    go_wp2
    go_ret
    exact ⟨rfl, rfl⟩
end Go.Proofs.YtdagnkdonlfobaaGreat

/- Which segments, sections and spans may be: the program's closures. No condition but that numbers fit their types. -/
namespace Go.Proofs.YtdagnkdonlfobaaGreat
open Go.RowKit
variable {w w' : World} {g : Nat} {h : Hx} {s : St} {sv dv : Value} {n hd : Int}

/-- What is asked about, in memory. -/
def askArr (h : Hx) (s : St) (sv dv : Value) (n hd : Int) : Array Value := #[.int .i64 h.kd, .int .i64 h.sb, .int .u32 h.fl, .string (strOfNums s.name), sv, dv, .int .u64 s.rb.1, .int .u64 s.rb.2, .int .u64 s.bd.1, .int .u64 s.bd.2, .int .u64 s.wk.1, .int .u64 s.wk.2, .int .u64 s.lz.1, .int .u64 s.lz.2, .int .u64 s.tr.1, .int .u64 s.tr.2, .int .u64 s.ch.1, .int .u64 s.ch.2, .int .u64 s.sy.1, .int .u64 s.sy.2, .int .u64 s.st.1, .int .u64 s.st.2, .int .u64 s.entry, .bool s.has, .int .u64 n, .int .u64 hd]
def askV (h : Hx) (s : St) (sv dv : Value) (n hd : Int) : Value := .agg (askArr h s sv dv n hd)
def AskAt (w : World) (g : Nat) (h : Hx) (s : St) (sv dv : Value) (n hd : Int) : Prop := w.heap[g]? = some (.cells (askArr h s sv dv n hd) 165 (0, 0))
theorem AskAt.kept {r : Option Nat} (a : AskAt w g h s sv dv n hd) (hg : w.grownBy w' r) (hr : r ≠ some g) : AskAt w' g h s sv dv n hd := (hg.block g (lt_of_block a) (fun e => hr e.symm)).trans a
theorem AskAt.lt (a : AskAt w g h s sv dv n hd) : g < w.heap.size := lt_of_block a
theorem AskAt.c (a : AskAt w g h s sv dv n hd) (i : Nat) (v : Value) (hv : (askArr h s sv dv n hd)[i]? = some v) : w.cell? ⟨g, i, none⟩ = some v := by rw [cell_of a]; exact hv

theorem sizesMay1_any (x : Seg) (q : Option Addr) (m c : Nat) (hf : SegFit x) (hn : U64 n) (a : AskAt w g h s sv dv n hd) :
    Calls Tryz.prog 167 #[segV x (.slice q m c), .pointer (some ⟨g, 0, none⟩)] w fun e w' => e = .returned (.bool (sizeOk x n)) ∧ w.grownBy w' none := by
  obtain ⟨nm, ad, sz, of, fs, pr, sl⟩ := x
  have gB := grown1 w (.cells #[.string (strOfNums nm), .int .u64 ad, .int .u64 sz, .int .u64 of, .int .u64 fs, .int .i64 pr, .slice q m c] 58)
  have G := Lib.hid gB
  have c24 := (a.kept gB (by simp)).c 24 (.int .u64 n) rfl
  have gl := (a.kept gB (by simp)).lt
  obtain ⟨f1, f2, f3, f4, f5⟩ := hf
  simp only [] at f1 f2 f3 f4
  have W1 := Lib.hid (fun w => withini_any of fs n f3 f4 hn w)
  have W2 := Lib.hid (fun w => withini_any ad sz 140737488355328 f1 f2 (by decide) w)
  have t1 : ad.tmod 4096 = ad % 4096 := Int.tmod_eq_emod_of_nonneg f1.1
  have t2 : sz.tmod 4096 = sz % 4096 := Int.tmod_eq_emod_of_nonneg f2.1
  obtain ⟨r1, hr1⟩ : ∃ r, ad % 4096 = r := ⟨_, rfl⟩
  obtain ⟨r2, hr2⟩ : ∃ r, sz % 4096 = r := ⟨_, rfl⟩
  have m1 : IntKind.u64.wrap r1 = r1 := by rw [IntKind.wrap_u64]; omega
  have m2 : IntKind.u64.wrap r2 = r2 := by rw [IntKind.wrap_u64]; omega
  have m3 : r1 % 18446744073709551616 = r1 := by omega
  have m4 : r2 % 18446744073709551616 = r2 := by omega
  unfold sizeOk segV segArr withinN
  simp only []
  rw [hr1, hr2]
  clear a gB f1 f2 f3 f4 f5 hn
  cases h1 : (r1 == 0)
  · go_enter Tryz.func167, Tryz.ntmps167
    go_wp2
    go_ret
    exact ⟨rfl, G.out⟩
  cases h2 : (r2 == 0)
  · go_enter Tryz.func167, Tryz.ntmps167
    go_wp2
    go_ret
    exact ⟨rfl, G.out⟩
  cases h3 : decide (0 < sz)
  · go_enter Tryz.func167, Tryz.ntmps167
    go_wp2
    go_ret
    exact ⟨rfl, G.out⟩
  cases h4 : decide (fs ≤ sz)
  · go_enter Tryz.func167, Tryz.ntmps167
    go_wp2
    go_ret
    exact ⟨rfl, G.out⟩
  obtain ⟨b5, h5⟩ : ∃ b, b = decide (of + fs ≤ n) := ⟨_, rfl⟩
  obtain ⟨b6, h6⟩ : ∃ b, b = decide (ad + sz ≤ 140737488355328) := ⟨_, rfl⟩
  rw [← h5, ← h6]
  rw [← h5] at W1
  rw [← h6] at W2
  clear h5 h6
  cases b5
  · go_enter Tryz.func167, Tryz.ntmps167
    go_wp2_with (go_at_call 97; (first | with_reducible refine (W1.out _).mono ?_ | with_reducible refine (W2.out _).mono ?_); rintro e w3 ⟨rfl, rfl⟩)
    go_ret
    exact ⟨rfl, G.out⟩
  · go_enter Tryz.func167, Tryz.ntmps167
    go_wp2_with (go_at_call 97; (first | with_reducible refine (W1.out _).mono ?_ | with_reducible refine (W2.out _).mono ?_); rintro e w3 ⟨rfl, rfl⟩)
    go_ret
    exact ⟨rfl, G.out⟩
end Go.Proofs.YtdagnkdonlfobaaGreat

/- Which sections and spans may be: the program's closures. No condition but that numbers fit their types. -/
namespace Go.Proofs.YtdagnkdonlfobaaGreat
open Go.RowKit
variable {w w' : World} {g : Nat} {h : Hx} {s : St} {sv dv : Value} {n hd : Int}

structure SecFit (x : Sec) : Prop where
  addr : U64 x.addr
  size : U64 x.size
  off : U64 x.off
def secOk (s : Seg) (x : Sec) : Bool := if x.addr < s.addr then false else if x.kind = 1 then withinN (x.addr - s.addr) x.size s.size else withinN (x.addr - s.addr) x.size s.fsize && (x.off == (s.off + (x.addr - s.addr)) % 18446744073709551616)

theorem sectionMay_any (z : Seg) (q : Option Addr) (m c : Nat) (x : Sec) (hf : SegFit z) (hx : SecFit x) :
    Calls Tryz.prog 172 #[segV z (.slice q m c), secV x] w fun e w' => e = .returned (.bool (secOk z x)) ∧ w.grownBy w' none := by
  obtain ⟨nm, ad, sz, of, fs, pr, sl⟩ := z
  obtain ⟨sn, ss, sa, sb, so, sk⟩ := x
  obtain ⟨f1, f2, f3, f4, f5⟩ := hf
  obtain ⟨x1, x2, x3⟩ := hx
  simp only [] at f1 f2 f3 f4 x1 x2 x3
  have G := Lib.hid (grown_trans (grown1 w (.cells #[.string (strOfNums nm), .int .u64 ad, .int .u64 sz, .int .u64 of, .int .u64 fs, .int .i64 pr, .slice q m c] 58)) (grown1 (w.alloc (.cells #[.string (strOfNums nm), .int .u64 ad, .int .u64 sz, .int .u64 of, .int .u64 fs, .int .i64 pr, .slice q m c] 58)) (.cells #[.string (strOfNums sn), .string (strOfNums ss), .int .u64 sa, .int .u64 sb, .int .u64 so, .int .i64 sk] 148)))
  unfold secOk segV segArr secV
  simp only []
  by_cases h1 : sa < ad
  · rw [if_pos h1]
    have d1 : decide (sa < ad) = true := by simpa using h1
    clear h1 f1 f2 f3 f4 f5 x1 x2 x3
    go_enter Tryz.func172, Tryz.ntmps172
    go_wp2
    go_ret
    exact ⟨rfl, G.out⟩
  rw [if_neg h1]
  have d1 : decide (sa < ad) = false := by simpa using h1
  have hF : U64 (sa - ad) := ⟨by omega, by have := x1.2; have := f1.1; omega⟩
  have m1 : IntKind.u64.wrap (sa - ad) = sa - ad := by rw [IntKind.wrap_u64]; have := hF.1; have := hF.2; omega
  have m2 : (sa - ad) % 18446744073709551616 = sa - ad := by have := hF.1; have := hF.2; omega
  obtain ⟨F, hFe⟩ : ∃ F, sa - ad = F := ⟨_, rfl⟩
  rw [hFe] at hF m1 m2 ⊢
  have W1 := Lib.hid (fun w => withini_any F sb sz hF x2 f2 w)
  have W2 := Lib.hid (fun w => withini_any F sb fs hF x2 f4 w)
  obtain ⟨b1, e1⟩ : ∃ b, b = decide (F + sb ≤ sz) := ⟨_, rfl⟩
  obtain ⟨b2, e2⟩ : ∃ b, b = decide (F + sb ≤ fs) := ⟨_, rfl⟩
  unfold withinN
  rw [← e1] at W1 ⊢
  rw [← e2] at W2 ⊢
  obtain ⟨T, hT⟩ : ∃ T, (of + F) % 18446744073709551616 = T := ⟨_, rfl⟩
  have hT2 : IntKind.u64.wrap (of + F) = T := by rw [IntKind.wrap_u64]; exact hT
  rw [hT]
  clear h1 f1 f2 f3 f4 f5 x1 x2 x3 hF e1 e2
  by_cases h2 : sk = 1
  · rw [if_pos h2]
    have d2 : (sk == 1) = true := by simpa using h2
    clear h2
    go_enter Tryz.func172, Tryz.ntmps172
    go_wp2_with (go_at_call 97; (first | with_reducible refine (W1.out _).mono ?_ | with_reducible refine (W2.out _).mono ?_); rintro e w3 ⟨rfl, rfl⟩)
    go_ret
    exact ⟨rfl, G.out⟩
  · rw [if_neg h2]
    have d2 : (sk == 1) = false := by simpa using h2
    clear h2
    cases b2
    · go_enter Tryz.func172, Tryz.ntmps172
      go_wp2_with (go_at_call 97; (first | with_reducible refine (W1.out _).mono ?_ | with_reducible refine (W2.out _).mono ?_); rintro e w3 ⟨rfl, rfl⟩)
      go_ret
      exact ⟨rfl, G.out⟩
    · cases h3 : (so == T)
      · go_enter Tryz.func172, Tryz.ntmps172
        go_wp2_with (go_at_call 97; (first | with_reducible refine (W1.out _).mono ?_ | with_reducible refine (W2.out _).mono ?_); rintro e w3 ⟨rfl, rfl⟩)
        go_ret
        exact ⟨rfl, G.out⟩
      · go_enter Tryz.func172, Tryz.ntmps172
        go_wp2_with (go_at_call 97; (first | with_reducible refine (W1.out _).mono ?_ | with_reducible refine (W2.out _).mono ?_); rintro e w3 ⟨rfl, rfl⟩)
        go_ret
        exact ⟨rfl, G.out⟩

theorem sectionsMay11_any (z : Seg) (q : Option Addr) (m c : Nat) (x : Sec) (hf : SegFit z) (hx : SecFit x) {b : Nat} (a : SegAt w b z (.slice q m c)) :
    Calls Tryz.prog 171 #[secV x, .pointer (some ⟨b, 0, none⟩)] w fun e w' => e = .returned (.bool (secOk z x)) ∧ w.grownBy w' none := by
  have gB := grown1 w (.cells #[.string (strOfNums x.name), .string (strOfNums x.seg), .int .u64 x.addr, .int .u64 x.size, .int .u64 x.off, .int .i64 x.kind] 148)
  have SM := Lib.hid (sectionMay_any (w := w.alloc (.cells #[.string (strOfNums x.name), .string (strOfNums x.seg), .int .u64 x.addr, .int .u64 x.size, .int .u64 x.off, .int .i64 x.kind] 148)) z q m c x hf hx)
  have A2 := a.kept gB (by simp)
  obtain ⟨c0, c1, c2, c3, c4, c5, c6⟩ := A2.c
  have al := A2.lt
  have G := Lib.hid gB
  obtain ⟨nm, ad, sz, of, fs, pr, sl⟩ := z
  obtain ⟨sn, ss, sa, sb, so, sk⟩ := x
  obtain ⟨r, hr⟩ : ∃ r, r = secOk ⟨nm, ad, sz, of, fs, pr, sl⟩ ⟨sn, ss, sa, sb, so, sk⟩ := ⟨_, rfl⟩
  rw [← hr] at SM ⊢
  unfold segV segArr secV at SM
  unfold secV
  simp only [] at c0 c1 c2 c3 c4 c5 SM ⊢
  clear hr a A2 gB hf hx
  go_enter Tryz.func171, Tryz.ntmps171
  go_wp2_with fail
  refine SM.out.mono ?_
  rintro e w3 ⟨rfl, hg⟩
  have GF := Lib.hid (grown_trans G.out hg)
  clear hg
  go_wp2
  go_ret
  exact ⟨rfl, GF.out⟩
theorem spansMay1_any (x : Int × Int) (h1 : U64 x.1) (h2 : U64 x.2) (hn : U64 n) (a : AskAt w g h s sv dv n hd) :
    Calls Tryz.prog 174 #[spanV x, .pointer (some ⟨g, 0, none⟩)] w fun e w' => e = .returned (.bool (withinN x.1 x.2 n)) ∧ w.grownBy w' none := by
  obtain ⟨X, Y⟩ := x
  have gB := grown1 w (.cells #[.int .u64 X, .int .u64 Y] 39)
  have G := Lib.hid gB
  have c24 := (a.kept gB (by simp)).c 24 (.int .u64 n) rfl
  have gl := (a.kept gB (by simp)).lt
  have W1 := Lib.hid (fun w => withini_any X Y n h1 h2 hn w)
  unfold spanV withinN
  simp only []
  obtain ⟨b1, e1⟩ : ∃ b, b = decide (X + Y ≤ n) := ⟨_, rfl⟩
  rw [← e1] at W1 ⊢
  clear e1 h1 h2 hn a gB
  go_enter Tryz.func174, Tryz.ntmps174
  go_wp2_with (go_at_call 97; refine (W1.out _).mono ?_; rintro e w3 ⟨rfl, rfl⟩)
  go_ret
  exact ⟨rfl, G.out⟩
end Go.Proofs.YtdagnkdonlfobaaGreat

/- Two images that are the same in everything are told so. No condition. -/
namespace Go.Proofs.YtdagnkdonlfobaaGreat
open Go.RowKit
variable {w w' : World}

/-- The cells of one of a row's. -/
theorem sec_cells {lo n c : Nat} {q : Option Addr} {l : List Sec} (h : w.ownsRow lo 148 6 (.slice q n c) n (l.flatMap secCs)) {i : Nat} {x : Sec} (hx : l[i]? = some x) :
    ∃ g, q = some ⟨g, 0, none⟩ ∧ w.cell? ⟨g, i * 6, none⟩ = some (.string (strOfNums x.name)) ∧ w.cell? ⟨g, i * 6 + 1, none⟩ = some (.string (strOfNums x.seg)) ∧ w.cell? ⟨g, i * 6 + 2, none⟩ = some (.int .u64 x.addr) ∧
      w.cell? ⟨g, i * 6 + 3, none⟩ = some (.int .u64 x.size) ∧ w.cell? ⟨g, i * 6 + 4, none⟩ = some (.int .u64 x.off) ∧ w.cell? ⟨g, i * 6 + 5, none⟩ = some (.int .i64 x.kind) := by
  obtain ⟨g, hq, h0⟩ := row_cell secCs_len h hx (show 0 < 6 by decide)
  have key : ∀ j, j < 6 → w.cell? ⟨g, i * 6 + j, none⟩ = (secCs x)[j]? := fun j hj => by
    obtain ⟨g', hq', h1⟩ := row_cell secCs_len h hx hj
    rw [hq] at hq'
    injection hq' with e
    injection e with e
    subst e
    exact h1
  exact ⟨g, hq, h0, key 1 (by decide), key 2 (by decide), key 3 (by decide), key 4 (by decide), key 5 (by decide)⟩
theorem sg_cells {lo n c : Nat} {q : Option Addr} {l : List Sg} (h : w.ownsRow lo 58 7 (.slice q n c) n (l.flatMap sgCs)) {i : Nat} {x : Sg} (hx : l[i]? = some x) :
    ∃ g, q = some ⟨g, 0, none⟩ ∧ w.cell? ⟨g, i * 7, none⟩ = some (.string (strOfNums x.seg.name)) ∧ w.cell? ⟨g, i * 7 + 1, none⟩ = some (.int .u64 x.seg.addr) ∧ w.cell? ⟨g, i * 7 + 2, none⟩ = some (.int .u64 x.seg.size) ∧
      w.cell? ⟨g, i * 7 + 3, none⟩ = some (.int .u64 x.seg.off) ∧ w.cell? ⟨g, i * 7 + 4, none⟩ = some (.int .u64 x.seg.fsize) ∧ w.cell? ⟨g, i * 7 + 5, none⟩ = some (.int .i64 x.seg.prot) ∧ w.cell? ⟨g, i * 7 + 6, none⟩ = some x.v := by
  obtain ⟨g, hq, h0⟩ := row_cell sgCs_len h hx (show 0 < 7 by decide)
  have key : ∀ j, j < 7 → w.cell? ⟨g, i * 7 + j, none⟩ = (sgCs x)[j]? := fun j hj => by
    obtain ⟨g', hq', h1⟩ := row_cell sgCs_len h hx hj
    rw [hq] at hq'
    injection hq' with e
    injection e with e
    subst e
    exact h1
  exact ⟨g, hq, h0, key 1 (by decide), key 2 (by decide), key 3 (by decide), key 4 (by decide), key 5 (by decide), key 6 (by decide)⟩
theorem dep_cells {lo n c : Nat} {q : Option Addr} {l : List (List Int × Int)} (h : w.ownsRow lo 141 2 (.slice q n c) n (l.flatMap depCs)) {i : Nat} {x : List Int × Int} (hx : l[i]? = some x) :
    ∃ g, q = some ⟨g, 0, none⟩ ∧ w.cell? ⟨g, i * 2, none⟩ = some (.string (strOfNums x.1)) ∧ w.cell? ⟨g, i * 2 + 1, none⟩ = some (.int .i64 x.2) := by
  obtain ⟨g, hq, h0⟩ := row_cell depCs_len h hx (show 0 < 2 by decide)
  obtain ⟨g', hq', h1⟩ := row_cell depCs_len h hx (show 1 < 2 by decide)
  rw [hq] at hq'
  injection hq' with e
  injection e with e
  subst e
  exact ⟨g, hq, h0, h1⟩
theorem own_most {lo n c : Nat} {q : Option Addr} {T : TypeId} {k : Nat} {xs : List Value} (hw : w.ownsRow lo T k (.slice q n c) n xs) : n ≤ 9223372036854775807 := by
  rcases hw.2 with ⟨e, e0⟩ | ⟨g, cap, cur, hv, _, _, h1, h2, _⟩
  · omega
  · unfold maxLen at h2; omega

end Go.Proofs.YtdagnkdonlfobaaGreat
