/- Parts of the proof, put together: PenU, App, Grow, OneAt, RowS, Nam, TrM, TrP, TrW, TrX. No condition beyond those that each part names. -/
import Derived.Shelf.Small.Bits
import Derived.Shelf.Small.Strs
import Derived.Shelf.Strconv.Itoa0
import Derived.Shelf.Strings.Search1
import Derived.Shelf.Bytes.SlIndexAt
import Derived.Shelf.Bytes.SlSearch0
import Derived.Ground.SlbCloneProg
import Derived.Shelf.Bytes.SlClone
import Derived.Shelf.Bytes.IndexByte
import Derived.Test.YtbnnlbdjjpmgeaaProg
import Derived.Test.YtbnnlbdjjpmgeaaRows
import Derived.WalkKit
import Derived.WalkSpells
import Derived.WalkLawsBesides
import Derived.BigQuiet
import Derived.Deep.QuietTactic
import Derived.Lib.Hide
import Derived.IntWalk
import Derived.OneCell
import Derived.Laws.Rows
import Derived.OpenShut
import Derived.ProofKit
import Derived.Lib.EndianBits
import Derived.RegionTactic
import Derived.ChangeAlike
import Derived.WalkMore
import Derived.Laws.BytesArg
import Derived.Shelf.Bytes.SlEqualAll
import Derived.Lib.SlFresh
import Derived.Maps.AppendAt
import Derived.Deep.AppendSrc
import Derived.Deep.Upon
import Derived.Lib.AppendZeros
import Derived.Laws.IdiomStrings
import Derived.Lib.AppendZerosOnto
import Derived.Laws.StructEq
import Derived.Below
import Derived.Shelf.Abstract
import Derived.Laws.ResultCell
import Derived.Deep.Slices
import Derived.ChangeSame
import Derived.Laws.OwnMore
import Derived.Laws.Slices
import Derived.Lib.ConvBytes
import Derived.StringKeys
import Derived.Maps.Own
import Derived.Maps.OwnOps
import Derived.Maps.OwnSet
import Derived.WideShapes
import Derived.Deep.Cut
import Derived.Deep.CutRange
import Derived.Test.YtbnnlbdjjpmgeaaPT1
namespace Go.Proofs.Ytbnnlbdjjpmgeaa
open Go.RowKit
variable {w w' : World} {lo hi a : Nat} {xs : List Int} {s : Cs} {big : Bool}

abbrev PenS (w : World) (lo hi a : Nat) (xs : List Int) (s : Cs) (big : Bool) : Prop := Pen w lo hi a xs s.1 big s.2
theorem pen_ul (h : PenS w lo hi a xs s big) :
    Calls Try.prog 77 #[.pointer (some ⟨a, 0, none⟩)] w fun e w' => e = .returned (.int .u64 (ulS xs s).1) ∧ PenS w' lo hi a xs (ulS xs s).2 big ∧ w.grownBy w' (some a) := by
  obtain ⟨p, bad⟩ := s
  have h' := h
  obtain ⟨⟨base, q, c, hc, hl, ho⟩, h1, h2, h3⟩ := h
  unfold ulS
  simp only [] at hc ⊢
  cases bad with
  | true =>
    refine (uleb_bad hc).mono ?_
    rintro e w' ⟨rfl, hc', hg⟩
    exact ⟨rfl, Pen.same h' hg, grown_any hg _⟩
  | false =>
    refine (uleb_any hc).mono ?_
    rintro e w' ⟨rfl, hc', hg⟩
    exact ⟨rfl, ⟨⟨_, _, _, hc', hl, ho⟩, h1, h2, Nat.le_trans h3 hg.size⟩, hg⟩
theorem pen_tx (h : PenS w lo hi a xs s big) :
    Calls Try.prog 80 #[.pointer (some ⟨a, 0, none⟩), .int .i64 255] w fun e w' => e = .returned (.string (strOfNums (txS xs s).1)) ∧ PenS w' lo hi a xs (txS xs s).2 big ∧ w.grownBy w' (some a) := by
  obtain ⟨p, bad⟩ := s
  obtain ⟨⟨base, q, c, hc, hl, ho⟩, h1, h2, h3⟩ := h
  unfold txS
  simp only [] at hc ⊢
  by_cases hx : bad = false ∧ (pre (xs.drop p)).length < (xs.drop p).length ∧ (pre (xs.drop p)).length ≤ 255
  · rw [if_pos hx]
    obtain ⟨rfl, hx⟩ := hx
    refine (text_ok hc 255 ⟨hx.1, by omega⟩).mono ?_
    rintro e w' ⟨rfl, hc', hg⟩
    exact ⟨rfl, ⟨⟨_, _, _, hc', hl, ho⟩, h1, h2, Nat.le_trans h3 hg.size⟩, hg⟩
  · rw [if_neg hx]
    refine (text_no hc 255 ?_).mono ?_
    · cases bad with
      | true => exact .inl rfl
      | false => exact .inr (by unfold textLen; rw [if_neg (fun h => hx ⟨rfl, h.1, by omega⟩)])
    · rintro e w' ⟨rfl, hc', hg⟩
      exact ⟨rfl, ⟨⟨_, _, _, hc', hl, ho⟩, h1, h2, Nat.le_trans h3 hg.size⟩, hg⟩
theorem pen_by (h : PenS w lo hi a xs s big) :
    Calls Try.prog 79 #[.pointer (some ⟨a, 0, none⟩), .int .i64 1] w fun e w' => e = .returned (.int .u64 (byS xs s).1) ∧ PenS w' lo hi a xs (byS xs s).2 big ∧ w.grownBy w' (some a) := by
  obtain ⟨p, bad⟩ := s
  have h' := h
  obtain ⟨⟨base, q, c, hc, hl, ho⟩, h1, h2, h3⟩ := h
  unfold byS
  simp only [] at hc h' ⊢
  by_cases hx : bad = false ∧ p < xs.length
  · rw [if_pos hx]
    obtain ⟨rfl, hx⟩ := hx
    refine (number1 hc hx rfl).mono ?_
    rintro e w' ⟨rfl, hc', hg⟩
    exact ⟨rfl, ⟨⟨_, _, _, hc', hl, ho⟩, h1, h2, Nat.le_trans h3 hg.size⟩, hg⟩
  · rw [if_neg hx]
    refine (number_no hc 1 ?_).mono ?_
    · cases bad with
      | true => exact .inl rfl
      | false => exact .inr (.inr (by have h1 : ¬ p < xs.length := fun h => hx ⟨rfl, h⟩; omega))
    · rintro e w' ⟨rfl, hc', hg⟩
      exact ⟨rfl, ⟨⟨_, _, _, hc', hl, ho⟩, h1, h2, Nat.le_trans h3 hg.size⟩, hg⟩
theorem pen_fl (h : PenS w lo hi a xs s big) :
    Calls Try.prog 82 #[.pointer (some ⟨a, 0, none⟩)] w fun e w' => e = .returned (.tuple #[]) ∧ PenS w' lo hi a xs (s.1, true) big ∧ w.grownBy w' (some a) := by
  obtain ⟨⟨base, q, c, hc, hl, ho⟩, h1, h2, h3⟩ := h
  refine (fail_any hc).mono ?_
  rintro e w' ⟨rfl, hc', hg⟩
  exact ⟨rfl, ⟨⟨_, _, _, hc', hl, ho⟩, h1, h2, Nat.le_trans h3 hg.size⟩, hg⟩
end Go.Proofs.Ytbnnlbdjjpmgeaa


namespace Go.Proofs.Ytbnnlbdjjpmgeaa
open Go.RowKit
variable {w : World} {base : Nat} {q : Option Addr} {c : Nat}

theorem info_u8 : (Try.prog.info? 5).map (fun i => (i.zero, i.size, i.bytes)) = some (some (.int .u8 0), 1, 1) := by kernel_rfl
theorem run_append_none (v : Value) (n : Nat) (xs : List Value) (h : w.ownsRow base 5 1 v n xs) :
    (Builtin.append_ #[25, 25] 25 #[v, .slice none 0 0]).run Try.prog w = .ok v w := by
  obtain ⟨i, hi, hz, hs, hb⟩ := info_parts info_u8
  rcases h.2 with ⟨rfl, _⟩ | ⟨g, cap, cur, rfl, _, hg, hn, hm, hc, _⟩
  · simp [Builtin.append_, run_underlying Try.underlying25, sizeOf, typeInfo, hi, Builtin.lenOf, Builtin.firstCells, Result.andThen]
  · simp [Builtin.append_, run_underlying Try.underlying25, sizeOf, typeInfo, hi, Builtin.lenOf, hn, Builtin.firstCells, storeCells, Result.andThen]
theorem wp_append_bytes {ops : Array Oper} {rest : List Oper} {o : Oper} {a : Act} {Q : Exit → Act → World → Prop} (hgd : o.guard = none) (s x : Operand)
    (ho : o.op = .call { callee := .builtin .append, args := #[s, x], argTypes := #[25, 25] }) (hty : o.type = 25)
    (v : Value) (n : Nat) (xs : List Value) (hs : a.eval s = v) (hown : w.ownsRow base 5 1 v n xs)
    (news : List Int) (m : Nat) (hm : news.length = m) (hx : a.eval x = .slice q m c) (hb : IsBytes w q c news)
    (h63 : n + m ≤ 140737488355328) (hbase : base ≤ w.heap.size)
    (h : ∀ v' w', w'.ownsRow base 5 1 v' (n + m) (xs ++ news.map (Value.int .u8)) → w.grownBy w' v.ownBlock → wpList Try.prog ops Q rest (a.put o.dst v') w') : wpList Try.prog ops Q (o :: rest) a w := by
  subst hm
  obtain ⟨i, hi, hz0, hz1, hz2⟩ := info_parts info_u8
  rcases hb.ways with ⟨rfl, rfl, rfl⟩ | ⟨ad, rfl, hc⟩
  · refine Lib.wpList_append_run_sl w hgd s x _ ho v (.slice none 0 0) hs hx (by rw [hty]; exact run_append_none v n xs hown) ?_
    exact h v w (by simpa using hown) (grown_refl w _)
  · refine wpList_append_own w hgd s x _ ho base 5 i (.int .u8 0) 1 1 Try.underlying25 hi hz0 hz1 hz2 rfl (by decide) v n xs hs hown ad news.length c (news.map (Value.int .u8)) hx (by simp) ?_ ?_ (by unfold maxLen; omega) (by omega) hbase ?_
    · intro j u hu
      have hj : j < news.length := by
        rcases Nat.lt_or_ge j news.length with h | h
        · exact h
        · simp [h] at hu
      rw [hc j hj]
      simp [hj] at hu ⊢
      exact hu
    · intro u hu
      obtain ⟨y, _, rfl⟩ := List.mem_map.1 hu
      rfl
    · intro v' w' h1 h2 _
      exact h v' w' h1 h2
theorem wp_append_at {ops : Array Oper} {rest : List Oper} {o : Oper} {a : Act} {Q : Exit → Act → World → Prop} (hgd : o.guard = none) (s x : Operand)
    (ho : o.op = .call { callee := .builtin .append, args := #[s, x], argTypes := #[25, 25] }) (hty : o.type = 25)
    (v : Value) (n : Nat) (xs : List Value) (hs : a.eval s = v) (hown : w.ownsRow base 5 1 v n xs)
    (news : List Int) (m : Nat) (hm : news.length = m) (hx : a.eval x = .slice q m c) (hb : IsBytes w q c news)
    (h63 : n + m ≤ 140737488355328) (hbase : base ≤ w.heap.size)
    (h : ∀ v' w', w'.ownsRow base 5 1 v' (n + m) (xs ++ news.map (Value.int .u8)) → w.grownBy w' v.ownBlock → (v'.ownBlock = v.ownBlock ∨ v'.ownBlock = some w.heap.size) → wpList Try.prog ops Q rest (a.put o.dst v') w') : wpList Try.prog ops Q (o :: rest) a w := by
  subst hm
  obtain ⟨i, hi, hz0, hz1, hz2⟩ := info_parts info_u8
  rcases hb.ways with ⟨rfl, rfl, rfl⟩ | ⟨ad, rfl, hc⟩
  · refine Lib.wpList_append_run_sl w hgd s x _ ho v (.slice none 0 0) hs hx (by rw [hty]; exact run_append_none v n xs hown) ?_
    exact h v w (by simpa using hown) (grown_refl w _) (.inl rfl)
  · refine wpList_append_own_at w hgd s x _ ho base 5 i (.int .u8 0) 1 1 Try.underlying25 hi hz0 hz1 hz2 rfl (by decide) v n xs hs hown ad news.length c (news.map (Value.int .u8)) hx (by simp) ?_ ?_ (by unfold maxLen; omega) (by omega) hbase ?_
    · intro j u hu
      have hj : j < news.length := by
        rcases Nat.lt_or_ge j news.length with h | h
        · exact h
        · simp [h] at hu
      rw [hc j hj]
      simp [hj] at hu ⊢
      exact hu
    · intro u hu
      obtain ⟨y, _, rfl⟩ := List.mem_map.1 hu
      rfl
    · intro v' w' h1 h2 _ h5
      exact h v' w' h1 h2 h5
end Go.Proofs.Ytbnnlbdjjpmgeaa


namespace Go.Proofs.Ytbnnlbdjjpmgeaa
open Go.RowKit Go.ChangeShapes Go.WideShapes Go.Deep
variable {w w' : World} {base g : Nat}

theorem grown_new {w1 : World} (h : w.grownBy w1 none) (k : w1.grownBy w' (some g)) (hg : w.heap.size ≤ g) : w.grownBy w' none :=
  ⟨k.os.trans h.os, k.tape.trans h.tape, k.output.trans h.output, Nat.le_trans h.size k.size, fun i hi _ =>
    (k.block i (Nat.lt_of_lt_of_le hi h.size) (fun e => by injection e with e; omega)).trans (h.block i hi (by simp))⟩
theorem grown1 (w : World) (o : Obj) : w.grownBy (w.alloc o) none := World.grownBy_alloc w o none
theorem grown2 (w : World) (o o' : Obj) : w.grownBy ((w.alloc o).alloc o') none := grown_alloc (grown1 w o) o'
theorem grown_cell {a : Addr} {v : Value} (hg : w.grownBy w' none) (h : w.cell? a = some v) : w'.cell? a = some v := hg.cell h (by simp)
theorem own_slice {v : Value} {n : Nat} {xs : List Value} {T : TypeId} {k : Nat} (h : w.ownsRow base T k v n xs) : ∃ q c, v = .slice q n c := by
  rcases h.2 with ⟨rfl, rfl⟩ | ⟨g, cap, cur, rfl, _⟩
  · exact ⟨_, _, rfl⟩
  · exact ⟨_, _, rfl⟩
theorem own_grown {wr : World} {v : Value} {n B : Nat} {xs : List Value} {T : TypeId} {z : Nat} (h : wr.ownsRow B T z v n xs) (hg : wr.grownBy w' none) : w'.ownsRow B T z v n xs :=
  h.kept hg (by cases v.ownBlock <;> simp)
theorem bytes_inj : ∀ {xs ys : List Int}, Small xs → Small ys → Lib.bytesOf xs = Lib.bytesOf ys → xs = ys
  | [], [], _, _, _ => rfl
  | [], _ :: _, _, _, h => by simp [Lib.bytesOf] at h
  | _ :: _, [], _, _, h => by simp [Lib.bytesOf] at h
  | x :: xs, y :: ys, hx, hy, h => by
    simp only [Lib.bytesOf, List.map_cons, List.cons.injEq] at h
    have a := hx x (List.mem_cons_self ..)
    have b := hy y (List.mem_cons_self ..)
    have e : (UInt8.ofNat x.toNat).toNat = (UInt8.ofNat y.toNat).toNat := by rw [h.1]
    simp only [UInt8.toNat_ofNat'] at e
    rw [bytes_inj (fun z hz => hx z (List.mem_cons_of_mem _ hz)) (fun z hz => hy z (List.mem_cons_of_mem _ hz)) h.2, show x = y by omega]
theorem text_is {xs ys : List Int} (hx : Small xs) (hy : Small ys) : ((strOfNums xs).toList == Lib.bytesOf ys) = decide (xs = ys) := by
  rw [Lib.strOfNums_toList]
  by_cases h : xs = ys
  · subst h; simp
  · rw [decide_eq_false h, beq_eq_false_iff_ne]
    exact fun e => h (bytes_inj hx hy e)
theorem u64_range {n : Int} (h : (Lit.int .u64 n).wf = true) : 0 ≤ n ∧ n < 18446744073709551616 := by
  have : 0 ≤ n ∧ n ≤ 18446744073709551615 := by simpa [Lit.wf, IntKind.min, IntKind.max, IntKind.signed, IntKind.bits] using h
  omega
end Go.Proofs.Ytbnnlbdjjpmgeaa


namespace Go.Proofs.Ytbnnlbdjjpmgeaa
open Go.RowKit
variable {w w' : World}
def OneAt (w : World) (g : Nat) (v : Value) (T : TypeId) : Prop := w.heap[g]? = some (.cells #[v] T (0, 0))
section
variable {g : Nat} {v : Value} {T : TypeId}
theorem OneAt.c (h : OneAt w g v T) : w.cell? ⟨g, 0, none⟩ = some v := by rw [cell_of h]; rfl
theorem OneAt.f (h : OneAt w g v T) : w.frozen? ⟨g, 0, none⟩ = false := free_of h
theorem OneAt.lt (h : OneAt w g v T) : g < w.heap.size := lt_of_block h
theorem OneAt.kept {row : Option Nat} (h : OneAt w g v T) (hg : w.grownBy w' row) (hr : row ≠ some g) : OneAt w' g v T := (hg.block g (lt_of_block h) (fun e => hr e.symm)).trans h
theorem OneAt.grown (h : OneAt w g v T) (hg : w.grownBy w' none) : OneAt w' g v T := h.kept hg (by simp)
theorem OneAt.set (h : OneAt w g v T) (u : Value) : OneAt (w.setCell ⟨g, 0, none⟩ u) g u T := by unfold OneAt; rw [heap_setCell_same w g 0 _ _ _ h]; rfl
theorem OneAt.new (w : World) (v : Value) (T : TypeId) : OneAt (w.alloc (.cells #[v] T)) w.heap.size v T := heap_alloc_new w _
end
theorem grown_obj {r : Option Nat} {W W' : World} {k : Nat} {o : Obj} (hg : W.grownBy W' r) (h : W.heap[k]? = some o) (hr : r ≠ some k) : W'.heap[k]? = some o :=
  (hg.block k (Array.getElem?_eq_some_iff.1 h).1 (fun e => hr e.symm)).trans h
end Go.Proofs.Ytbnnlbdjjpmgeaa


namespace Go.Proofs.Ytbnnlbdjjpmgeaa
open Go.RowKit
variable {w w' : World} {base : Nat}

theorem grown_past {w1 : World} {a g : Nat} (h : w.grownBy w1 (some a)) (k : w1.grownBy w' (some g)) (hg : w.heap.size ≤ g) : w.grownBy w' (some a) :=
  ⟨k.os.trans h.os, k.tape.trans h.tape, k.output.trans h.output, Nat.le_trans h.size k.size, fun i hi hn =>
    (k.block i (Nat.lt_of_lt_of_le hi h.size) (fun e => by injection e with e; omega)).trans (h.block i hi hn)⟩
theorem grown_then {w1 : World} {a : Option Nat} (h : w.grownBy w1 a) (k : w1.grownBy w' none) : w.grownBy w' a :=
  ⟨k.os.trans h.os, k.tape.trans h.tape, k.output.trans h.output, Nat.le_trans h.size k.size, fun i hi hn =>
    (k.block i (Nat.lt_of_lt_of_le hi h.size) (by simp)).trans (h.block i hi hn)⟩
theorem grown_same {w1 : World} {a : Nat} (h : w.grownBy w1 (some a)) (k : w1.grownBy w' (some a)) : w.grownBy w' (some a) :=
  ⟨k.os.trans h.os, k.tape.trans h.tape, k.output.trans h.output, Nat.le_trans h.size k.size, fun i hi hn =>
    (k.block i (Nat.lt_of_lt_of_le hi h.size) hn).trans (h.block i hi hn)⟩
theorem grown_row {w1 : World} {a : Nat} {v : Value} (h : w.grownBy w1 (some a)) (k : w1.grownBy w' v.ownBlock) (hv : ∀ g, v.ownBlock = some g → w.heap.size ≤ g) : w.grownBy w' (some a) := by
  cases hb : v.ownBlock with
  | none => rw [hb] at k; exact grown_then h k
  | some g => rw [hb] at k; exact grown_past h k (hv g hb)
theorem Pen.row {lo hi a : Nat} {xs : List Int} {p : Nat} {big bad : Bool} {v : Value} (h : Pen w lo hi a xs p big bad) (k : w.grownBy w' v.ownBlock) (hv : ∀ g, v.ownBlock = some g → hi ≤ g) : Pen w' lo hi a xs p big bad := by
  cases hb : v.ownBlock with
  | none => rw [hb] at k; exact h.same k
  | some g => rw [hb] at k; exact h.kept k (.inr (hv g hb))
structure StType (P : Program) (T TS : TypeId) (k by' : Nat) : Prop where
  under : P.underlying TS = some (.slice T)
  info : ∃ i z, P.info? T = some i ∧ i.zero = some z ∧ i.size = k ∧ i.bytes = by' ∧ z.cells.size = k
  pos : 0 < k
theorem StType.mk' {P : Program} {T TS : TypeId} {k by' : Nat} (hu : P.underlying TS = some (.slice T)) {z : Value} (hi : (P.info? T).map (fun i => (i.zero, i.size, i.bytes)) = some (some z, k, by')) (hz : z.cells.size = k) (hk : 0 < k) : StType P T TS k by' := by
  obtain ⟨i, h1, h2, h3, h4⟩ := info_parts hi
  exact ⟨hu, ⟨i, z, h1, h2, h3, h4, hz⟩, hk⟩
theorem wp_append_st {T TS : TypeId} {k by' : Nat} (st : StType Try.prog T TS k by') {ops : Array Oper} {rest : List Oper} {o : Oper} {a : Act} {Q : Exit → Act → World → Prop} (hgd : o.guard = none) (s x : Operand)
    (ho : o.op = .call { callee := .builtin .append, args := #[s, x], argTypes := #[TS, TS] })
    (v : Value) (n : Nat) (xs : List Value) (hs : a.eval s = v) (hown : w.ownsRow base T k v n xs) (cs : List Value) (hl : cs.length = k) (g : Nat) (hx : a.eval x = .slice (some ⟨g, 0, none⟩) 1 1)
    (hb : w.heap[g]? = some (.cells cs.toArray T (0, 0))) (h1 : ∀ u ∈ cs, u.oneCell' = true)
    (h63 : (n + 1) * by' ≤ 140737488355328) (hby : 0 < by') (hbase : base ≤ w.heap.size)
    (h : ∀ v' w', w'.ownsRow base T k v' (n + 1) (xs ++ cs) → w.grownBy w' v.ownBlock → wpList Try.prog ops Q rest (a.put o.dst v') w') : wpList Try.prog ops Q (o :: rest) a w := by
  obtain ⟨i, z, hi, hz0, hz1, hz2, hzs⟩ := st.info
  refine wpList_append_own w hgd s x _ ho base T i z k by' st.under hi hz0 hz1 hz2 hzs st.pos v n xs hs hown ⟨g, 0, none⟩ 1 1 cs hx (by rw [hl, Nat.one_mul]) ?_ h1 (by have := Nat.le_mul_of_pos_right (n + 1) hby; unfold maxLen; omega) h63 hbase ?_
  · intro j u hu
    rw [add_flat, cell_of hb, ← hu]
    simp
  · intro v' w' h2 h3 _
    exact h v' w' h2 h3
theorem flat_len {α : Type} {f : α → List Value} {k : Nat} (hf : ∀ x, (f x).length = k) (l : List α) : (l.flatMap f).length = l.length * k := by
  induction l with
  | nil => simp
  | cons x l ih => rw [List.flatMap_cons, List.length_append, hf, ih, List.length_cons, Nat.succ_mul, Nat.add_comm]
theorem flat_at {α : Type} {f : α → List Value} {k : Nat} (hf : ∀ x, (f x).length = k) (l : List α) (i j : Nat) (x : α) (h : l[i]? = some x) (hj : j < k) : (l.flatMap f)[i * k + j]? = (f x)[j]? := by
  induction l generalizing i with
  | nil => simp at h
  | cons y l ih =>
    rw [List.flatMap_cons]
    cases i with
    | zero =>
      simp only [List.getElem?_cons_zero, Option.some.injEq] at h
      subst h
      rw [Nat.zero_mul, Nat.zero_add, List.getElem?_append_left (by rw [hf]; exact hj)]
    | succ i =>
      rw [List.getElem?_append_right (by rw [hf, Nat.succ_mul]; omega), hf]
      have e : (i + 1) * k + j - k = i * k + j := by rw [Nat.succ_mul]; omega
      rw [e]
      exact ih i (by simpa using h)
theorem row_cell {T : TypeId} {k n c : Nat} {q : Option Addr} {α : Type} {f : α → List Value} {l : List α} (hf : ∀ x, (f x).length = k) (h : w.ownsRow base T k (.slice q n c) n (l.flatMap f)) {i : Nat} {x : α} (hx : l[i]? = some x) {j : Nat} (hj : j < k) :
    ∃ g, q = some ⟨g, 0, none⟩ ∧ w.cell? ⟨g, i * k + j, none⟩ = (f x)[j]? := by
  have hil : i < l.length := by
    rcases Nat.lt_or_ge i l.length with h1 | h1
    · exact h1
    · simp [h1] at hx
  have h' := h
  obtain ⟨hl, hn | ⟨g, cap, cur, hv, _, hg, hle, hm, hs, ht⟩⟩ := h
  · rw [flat_len hf, hn.2, Nat.zero_mul] at hl
    have : 0 < l.length * k := Nat.mul_pos (by omega) (by omega)
    omega
  · injection hv with e1 e2 e3
    subst e1 e3
    refine ⟨g, rfl, ?_⟩
    have hr := flat_at hf l i j x hx hj
    have hjl : j < (f x).length := by rw [hf]; exact hj
    have hc := h'.cells (g := g) rfl (i * k + j) ((f x)[j]) (by rw [hr]; exact List.getElem?_eq_getElem _)
    rw [add_flat, Nat.zero_add] at hc
    rw [hc]
    exact (List.getElem?_eq_getElem _).symm
theorem rows_apart {base' : Nat} {T T' : TypeId} {k k' n n' : Nat} {v v' : Value} {xs xs' : List Value} (hT : T ≠ T') (h : w.ownsRow base T k v n xs) (h' : w.ownsRow base' T' k' v' n' xs') : v.ownBlock = none ∨ v.ownBlock ≠ v'.ownBlock := by
  rcases h.2 with ⟨rfl, _⟩ | ⟨g, cap, cur, rfl, _, hg, _⟩
  · exact .inl rfl
  · rcases h'.2 with ⟨rfl, _⟩ | ⟨g', cap', cur', rfl, _, hg', _⟩
    · exact .inr (by simp [Value.ownBlock])
    · refine .inr fun e => hT ?_
      simp only [Value.ownBlock, Option.some.injEq] at e
      subst e
      rw [hg] at hg'
      injection hg' with e
      injection e
end Go.Proofs.Ytbnnlbdjjpmgeaa


namespace Go.Proofs.Ytbnnlbdjjpmgeaa
open Go.RowKit Go.Maps
variable {w w' : World}

def Byt (l : List Int) : Prop := ∀ x ∈ l, 0 ≤ x ∧ x < 256
theorem Byt.drop {l : List Int} (h : Byt l) (n : Nat) : Byt (l.drop n) := fun x hx => h x (List.mem_of_mem_drop hx)
theorem Byt.take {l : List Int} (h : Byt l) (n : Nat) : Byt (l.take n) := fun x hx => h x (List.mem_of_mem_take hx)
theorem Byt.app {l m : List Int} (h : Byt l) (k : Byt m) : Byt (l ++ m) := fun x hx => (List.mem_append.1 hx).elim (h x) (k x)
theorem pre_mem {l : List Int} {x : Int} (h : x ∈ pre l) : x ∈ l := by rw [pre_take] at h; exact List.mem_of_mem_take h
theorem Byt.pre {l : List Int} (h : Byt l) : Byt (pre l) := fun x hx => h x (pre_mem hx)
def nums (l : List Int) : List Int := (Lib.bytesOf l).map fun u => (u.toNat : Int)
theorem nums_byt : ∀ {l : List Int}, Byt l → nums l = l
  | [], _ => rfl
  | x :: l, h => by
    have h1 := h x (List.mem_cons_self ..)
    have h2 := nums_byt (l := l) (fun y hy => h y (List.mem_cons_of_mem _ hy))
    unfold nums at h2 ⊢
    simp only [Lib.bytesOf, List.map_cons] at h2 ⊢
    rw [h2]
    congr 1
    simp only [UInt8.toNat_ofNat']
    omega
theorem text_nil (t : List Int) : ((strOfNums t).toList == []) = decide (t = []) := by
  rw [Lib.strOfNums_toList]
  cases t <;> simp [Lib.bytesOf]
theorem index0 : ∀ {t : List Int}, Byt t → decide (Lib.indexByte (Lib.bytesOf t) 0 < 0) = decide ((0 : Int) ∉ t)
  | [], _ => by simp [Lib.bytesOf, Lib.indexByte]
  | x :: t, h => by
    have ih := index0 (t := t) (fun y hy => h y (List.mem_cons_of_mem _ hy))
    have hx := h x (List.mem_cons_self ..)
    have ge := Lib.indexByte_ge (Lib.bytesOf t) 0
    have e : Lib.indexByte (Lib.bytesOf (x :: t)) 0 = if UInt8.ofNat x.toNat == 0 then 0 else if Lib.indexByte (Lib.bytesOf t) 0 == -1 then -1 else Lib.indexByte (Lib.bytesOf t) 0 + 1 := rfl
    by_cases h0 : x = 0
    · subst h0
      rw [e]
      simp
    · have hne : (UInt8.ofNat x.toNat == 0) = false := by
        rw [beq_eq_false_iff_ne]
        intro e
        have := congrArg UInt8.toNat e
        simp only [UInt8.toNat_ofNat'] at this
        have z : (0 : UInt8).toNat = 0 := rfl
        omega
      have hm : (0 : Int) ∉ x :: t ↔ (0 : Int) ∉ t := by
        simp only [List.mem_cons, not_or]
        exact ⟨fun h => h.2, fun h => ⟨fun e => h0 e.symm, h⟩⟩
      rw [e, hne, decide_eq_decide.2 hm, ← ih, decide_eq_decide]
      simp only [Bool.false_eq_true, if_false, beq_iff_eq]
      split <;> omega
theorem pre_self : ∀ (t : List Int), decide (pre t = t) = decide ((0 : Int) ∉ t)
  | [] => by simp [pre]
  | x :: t => by
    have ih := pre_self t
    by_cases h0 : x = 0
    · subst h0; simp [pre]
    · rw [show pre (x :: t) = x :: pre t from if_neg h0]
      have hm : (0 : Int) ∉ x :: t ↔ (0 : Int) ∉ t := by
        simp only [List.mem_cons, not_or]
        exact ⟨fun h => h.2, fun h => ⟨fun e => h0 e.symm, h⟩⟩
      rw [decide_eq_decide.2 hm, ← ih, decide_eq_decide]
      exact ⟨fun e => (List.cons.inj e).2, fun e => by rw [e]⟩
theorem turned_grown (w : World) (e : TypeId) (s : ByteArray) : w.grownBy (Lib.bytesWorld w e s) none where
  os := rfl
  tape := rfl
  output := rfl
  size := by rw [Lib.bytesWorld_size]; omega
  block j hj _ := Lib.bytesWorld_at_old w e s j hj
theorem text_same {a b : List Int} (ha : Byt a) (hb : Byt b) : ((strOfNums a).toList == (strOfNums b).toList) = decide (a = b) := by
  rw [Lib.strOfNums_toList, Lib.strOfNums_toList]
  by_cases h : a = b
  · subst h; simp
  · rw [decide_eq_false h, beq_eq_false_iff_ne]
    intro e
    apply h
    rw [← nums_byt ha, ← nums_byt hb]
    unfold nums
    rw [e]
theorem pre_bytes : ∀ {t : List Int}, Byt t → Byt (pre t)
  | [], h => h
  | x :: t, h => by
    by_cases h0 : x = 0
    · subst h0; intro y hy; simp [pre] at hy
    · rw [show pre (x :: t) = x :: pre t from if_neg h0]
      intro y hy
      rcases List.mem_cons.1 hy with rfl | hy
      · exact h _ (List.mem_cons_self ..)
      · exact pre_bytes (t := t) (fun z hz => h z (List.mem_cons_of_mem _ hz)) y hy
theorem bytes_there (w : World) (e : TypeId) {t : List Int} (ht : Byt t) (c : Nat) : IsBytes (Lib.bytesWorld w e (strOfNums t)) (some ⟨w.heap.size, 0, none⟩) c t := by
  refine IsBytes.mk_at fun i hi => ?_
  have hi' : i < t.length := hi
  rw [Nat.zero_add, Lib.bytesWorld_cell w e _ i (by rw [strOfNums_size]; exact hi'), strOfNums_data]
  have hm := ht _ (List.getElem_mem hi')
  simp only [List.getD_eq_getElem?_getD, List.getElem?_map, List.getElem?_eq_getElem hi', Option.map_some, Option.getD_some, UInt8.toNat_ofNat']
  congr 3
  omega
theorem ex_text (s : ByteArray) (h : s.size ≤ maxLen) : ∃ t : List Int, Byt t ∧ t.length ≤ 9223372036854775807 ∧ strOfNums t = s := by
  refine ⟨s.data.toList.map fun u => (u.toNat : Int), ?_, ?_, ?_⟩
  · intro x hx
    obtain ⟨u, _, rfl⟩ := List.mem_map.1 hx
    have := u.toNat_lt
    omega
  · rw [List.length_map, Array.length_toList]
    exact h
  · apply ByteArray.ext
    apply Array.toList_inj.1
    rw [strOfNums_data, List.map_map]
    conv => rhs; rw [← List.map_id s.data.toList]
    apply List.map_congr_left
    intro u _
    apply UInt8.toNat_inj.1
    have := u.toNat_lt
    simp only [Function.comp, UInt8.toNat_ofNat', id]
    omega
theorem list_ofE {α : Type} (z : α) (n : Nat) (P : Nat → α → Prop) (h : ∀ i, i < n → ∃ s, P i s) : ∃ l : List α, l.length = n ∧ ∀ i s, l[i]? = some s → P i s := by
  have h' : ∀ i, ∃ s, i < n → P i s := fun i => by
    by_cases hi : i < n
    · obtain ⟨s, hs⟩ := h i hi; exact ⟨s, fun _ => hs⟩
    · exact ⟨z, fun h => absurd h hi⟩
  refine ⟨(List.range n).map fun i => Classical.choose (h' i), by simp, fun i s hs => ?_⟩
  rw [List.getElem?_map] at hs
  rcases Nat.lt_or_ge i n with hi | hi
  · rw [List.getElem?_range hi] at hs
    injection hs with hs
    rw [← hs]
    exact Classical.choose_spec (h' i) hi
  · rw [List.getElem?_eq_none (by simpa using hi)] at hs
    cases hs
theorem cut_lo {T k : Nat} (ht : Try.prog.underlying T = some (.slice (Try.prog.elem T))) (hs : ∀ W, (sizeOf (Try.prog.elem T)).run Try.prog W = .ok k W) (b o n c p : Nat) (kl : IntKind) (hp : p ≤ n) :
    ∃ V : Option Addr, (∀ W, (Instr.slice T (.slice (some ⟨b, o, none⟩) n c) (some (.int kl (p : Int))) none none).run Try.prog W = .ok (.slice V (n - p) (c - p)) W) ∧ (V = some ⟨b, o, none⟩ ∧ c = p ∨ V = some ⟨b, o + p * k, none⟩) := by
  by_cases hc : c = p
  · refine ⟨some ⟨b, o, none⟩, fun W => ?_, .inl ⟨rfl, hc⟩⟩
    rw [run_slice_l (P := Try.prog) W T (some ⟨b, o, none⟩) n c ht kl (p : Int) (by omega) (by omega), hs]
    simp only [Result.andThen, sliced]
    rw [if_pos (by omega), show ((p : Int)).toNat = p by omega]
  · refine ⟨some ⟨b, o + p * k, none⟩, fun W => ?_, .inr rfl⟩
    rw [run_slice_l (P := Try.prog) W T (some ⟨b, o, none⟩) n c ht kl (p : Int) (by omega) (by omega), hs]
    simp only [Result.andThen, sliced]
    rw [if_neg (by omega), show ((p : Int)).toNat = p by omega]
    simp only [Option.map_some, add_flat]
theorem cut_bytes {b o c p : Nat} {xs : List Int} (hx : ∀ i, i < xs.length → w.cell? ⟨b, o + i, none⟩ = some (.int .u8 (xs.getD i 0))) (hc : xs.length ≤ c) (hp : p ≤ xs.length) (kl : IntKind) :
    ∃ V : Option Addr, (∀ W, (Instr.slice 25 (.slice (some ⟨b, o, none⟩) xs.length c) (some (.int kl (p : Int))) none none).run Try.prog W = .ok (.slice V (xs.length - p) (c - p)) W) ∧ IsBytes w V (c - p) (xs.drop p) ∧ (p < xs.length → V = some ⟨b, o + p, none⟩) := by
  obtain ⟨V, hV, h⟩ := cut_lo (T := 25) (k := 1) (by kernel_rfl) (fun W => by kernel_rfl) b o xs.length c p kl hp
  refine ⟨V, hV, ?_, fun hlt => ?_⟩
  · rcases h with ⟨rfl, h⟩ | rfl
    · rw [List.drop_eq_nil_of_le (by omega)]
      exact IsBytes.empty
    · refine IsBytes.mk_at fun i hi => ?_
      rw [List.length_drop] at hi
      rw [Nat.mul_one, Nat.add_assoc, hx (p + i) (by omega)]
      simp [List.getD, List.getElem?_drop]
  · rcases h with ⟨_, h⟩ | rfl
    · omega
    · rw [Nat.mul_one]
theorem cut_hi {T k : Nat} (ht : Try.prog.underlying T = some (.slice (Try.prog.elem T))) (hs : ∀ W, (sizeOf (Try.prog.elem T)).run Try.prog W = .ok k W) (b o n c h : Nat) (kh : IntKind) (hh : h ≤ c) (W : World) :
    (Instr.slice T (.slice (some ⟨b, o, none⟩) n c) none (some (.int kh (h : Int))) none).run Try.prog W = .ok (.slice (some ⟨b, o, none⟩) h c) W := by
  rw [run_slice_h (P := Try.prog) W T (some ⟨b, o, none⟩) n c ht kh (h : Int) (by omega) (by omega), hs]
  simp only [Result.andThen, sliced]
  rw [show ((h : Int)).toNat = h by omega]
  split
  · simp
  · simp only [Option.map_some, add_flat, Nat.zero_mul, Nat.add_zero, Nat.sub_zero]
end Go.Proofs.Ytbnnlbdjjpmgeaa


namespace Go.Proofs.Ytbnnlbdjjpmgeaa
open Go.RowKit
variable {w w' : World}

def exArr (nm : ByteArray) (x : Ex) : Array Value := #[.string nm, .int .i64 x.kind, .bool x.weak, .int .u64 x.value, .int .u64 x.resolver, .int .u64 x.ordinal, .string (strOfNums x.other)]
def exV (nm : ByteArray) (x : Ex) : Value := .agg (exArr nm x)
def exCs (nm : ByteArray) (x : Ex) : List Value := [.string nm, .int .i64 x.kind, .bool x.weak, .int .u64 x.value, .int .u64 x.resolver, .int .u64 x.ordinal, .string (strOfNums x.other)]
theorem exCs_one (nm : ByteArray) (x : Ex) : ∀ u ∈ exCs nm x, u.oneCell' = true := by
  intro u hu
  simp only [exCs, List.mem_cons, List.not_mem_nil, or_false] at hu
  rcases hu with rfl | rfl | rfl | rfl | rfl | rfl | rfl <;> rfl
def ExAt (w : World) (g : Nat) (nm : ByteArray) (x : Ex) : Prop :=
  w.heap[g]? = some (.cells #[.string nm, .int .i64 x.kind, .bool x.weak, .int .u64 x.value, .int .u64 x.resolver, .int .u64 x.ordinal, .string (strOfNums x.other)] 38 (0, 0))
section
variable {g : Nat} {nm : ByteArray} {x : Ex}
theorem ExAt.kept {r : Option Nat} (h : ExAt w g nm x) (hg : w.grownBy w' r) (hr : r ≠ some g) : ExAt w' g nm x := (hg.block g (lt_of_block h) (fun e => hr e.symm)).trans h
theorem ExAt.lt (h : ExAt w g nm x) : g < w.heap.size := lt_of_block h
theorem ExAt.fz (h : ExAt w g nm x) (i : Nat) : w.frozen? ⟨g, i, none⟩ = false := free_of h
theorem ExAt.c (h : ExAt w g nm x) : w.cell? ⟨g, 0, none⟩ = some (.string nm) ∧ w.cell? ⟨g, 1, none⟩ = some (.int .i64 x.kind) ∧ w.cell? ⟨g, 2, none⟩ = some (.bool x.weak) ∧ w.cell? ⟨g, 3, none⟩ = some (.int .u64 x.value) ∧
    w.cell? ⟨g, 4, none⟩ = some (.int .u64 x.resolver) ∧ w.cell? ⟨g, 5, none⟩ = some (.int .u64 x.ordinal) ∧ w.cell? ⟨g, 6, none⟩ = some (.string (strOfNums x.other)) := by
  refine ⟨?_, ?_, ?_, ?_, ?_, ?_, ?_⟩ <;> (rw [cell_of h]; rfl)
theorem ExAt.kind (h : ExAt w g nm x) (k : Int) : ExAt (w.setCell ⟨g, 1, none⟩ (.int .i64 k)) g nm { x with kind := k } := by unfold ExAt; rw [heap_setCell_same w g 1 _ _ _ h]; rfl
theorem ExAt.weak (h : ExAt w g nm x) (k : Bool) : ExAt (w.setCell ⟨g, 2, none⟩ (.bool k)) g nm { x with weak := k } := by unfold ExAt; rw [heap_setCell_same w g 2 _ _ _ h]; rfl
theorem ExAt.value (h : ExAt w g nm x) (k : Int) : ExAt (w.setCell ⟨g, 3, none⟩ (.int .u64 k)) g nm { x with value := k } := by unfold ExAt; rw [heap_setCell_same w g 3 _ _ _ h]; rfl
theorem ExAt.resolver (h : ExAt w g nm x) (k : Int) : ExAt (w.setCell ⟨g, 4, none⟩ (.int .u64 k)) g nm { x with resolver := k } := by unfold ExAt; rw [heap_setCell_same w g 4 _ _ _ h]; rfl
theorem ExAt.ordinal (h : ExAt w g nm x) (k : Int) : ExAt (w.setCell ⟨g, 5, none⟩ (.int .u64 k)) g nm { x with ordinal := k } := by unfold ExAt; rw [heap_setCell_same w g 5 _ _ _ h]; rfl
theorem ExAt.other (h : ExAt w g nm x) (k : List Int) : ExAt (w.setCell ⟨g, 6, none⟩ (.string (strOfNums k))) g nm { x with other := k } := by unfold ExAt; rw [heap_setCell_same w g 6 _ _ _ h]; rfl
theorem ExAt.put {nm0 : ByteArray} {x0 : Ex} (h : ExAt w g nm0 x0) (nm : ByteArray) (x : Ex) :
    ExAt (((((((w.setCell ⟨g, 0, none⟩ (.string nm)).setCell ⟨g, 1, none⟩ (.int .i64 x.kind)).setCell ⟨g, 2, none⟩ (.bool x.weak)).setCell ⟨g, 3, none⟩ (.int .u64 x.value)).setCell ⟨g, 4, none⟩ (.int .u64 x.resolver)).setCell ⟨g, 5, none⟩ (.int .u64 x.ordinal)).setCell ⟨g, 6, none⟩ (.string (strOfNums x.other))) g nm x := by
  unfold ExAt
  rw [heap_setCell_same _ g 6 _ _ _ (heap_setCell_same _ g 5 _ _ _ (heap_setCell_same _ g 4 _ _ _ (heap_setCell_same _ g 3 _ _ _ (heap_setCell_same _ g 2 _ _ _ (heap_setCell_same _ g 1 _ _ _ (heap_setCell_same w g 0 _ _ _ h))))))]
  rfl
theorem grown_put7 (h : w.grownBy w' (some g)) (v0 v1 v2 v3 v4 v5 v6 : Value) : w.grownBy (((((((w'.setCell ⟨g, 0, none⟩ v0).setCell ⟨g, 1, none⟩ v1).setCell ⟨g, 2, none⟩ v2).setCell ⟨g, 3, none⟩ v3).setCell ⟨g, 4, none⟩ v4).setCell ⟨g, 5, none⟩ v5).setCell ⟨g, 6, none⟩ v6) (some g) :=
  grown_setCell (grown_setCell (grown_setCell (grown_setCell (grown_setCell (grown_setCell (grown_setCell h _) _) _) _) _) _) _
theorem load_ex (h : ExAt w g nm x) : (loadVar 38 ⟨g, 0, none⟩).run Try.prog w = .ok (exV nm x) w :=
  run_loadVar_row w g _ _ _ _ _ h Try.underlying38 rfl (by kernel_rfl)
theorem results_ex {fn : Func} {p : Tmp} (hr : fn.results = #[.cell p 38]) {tmps : Array Value} (hp : tmps.getD p undef = .pointer (some ⟨g, 0, none⟩)) (h : ExAt w g nm x) :
    (results fn tmps).run Try.prog w = .ok (exV nm x) w := by
  have e : (asAddr (.pointer (some ⟨g, 0, none⟩)) : Sem Addr).run Try.prog w = .ok ⟨g, 0, none⟩ w := rfl
  simp only [Array.getD_eq_getD_getElem?] at hp
  simp only [results, hr]
  simp [Sem.run_bind, Result.andThen, hp, e, load_ex h]
end

def kidCs (x : Kid) : List Value := [.string (strOfNums x.1), .int .u64 x.2]
theorem kidCs_len (x : Kid) : (kidCs x).length = 2 := rfl
theorem kidCs_one (x : Kid) : ∀ u ∈ kidCs x, u.oneCell' = true := by
  intro u hu
  simp only [kidCs, List.mem_cons, List.not_mem_nil, or_false] at hu
  rcases hu with rfl | rfl <;> rfl
theorem kidType : StType Try.prog 86 60 2 24 := .mk' Try.underlying60 (z := .agg #[.string ⟨#[]⟩, .int .u64 0]) (by kernel_rfl) rfl (by decide)
def KidsAt (w : World) (q : Option Addr) (l : List Kid) : Prop := ∀ i x, l[i]? = some x → ∃ g o, q = some ⟨g, o, none⟩ ∧ w.cell? ⟨g, o + i * 2, none⟩ = some (.string (strOfNums x.1)) ∧ w.cell? ⟨g, o + i * 2 + 1, none⟩ = some (.int .u64 x.2)
theorem KidsAt.of {lo n c : Nat} {q : Option Addr} {l : List Kid} (h : w.ownsRow lo 86 2 (.slice q n c) n (l.flatMap kidCs)) : KidsAt w q l := fun i x hx => by
  obtain ⟨g, e, h0⟩ := row_cell kidCs_len h hx (j := 0) (by decide)
  obtain ⟨g', e', h1⟩ := row_cell kidCs_len h hx (j := 1) (by decide)
  rw [e] at e'
  injection e' with e'
  injection e' with e' _ _
  subst e'
  refine ⟨g, 0, e, ?_, ?_⟩
  · rw [Nat.zero_add]; exact h0
  · rw [Nat.zero_add]; exact h1
theorem KidsAt.grown {q : Option Addr} {l : List Kid} (h : KidsAt w q l) (hg : w.grownBy w' none) : KidsAt w' q l := fun i x hx => by
  obtain ⟨g, o, e, c0, c1⟩ := h i x hx
  exact ⟨g, o, e, grown_cell hg c0, grown_cell hg c1⟩
theorem KidsAt.nil {q : Option Addr} : KidsAt w q [] := fun i x hx => by simp at hx
def nodeV (b : Bool) (nm : ByteArray) (x : Ex) (v : Value) : Value := .agg #[.bool b, .string nm, .int .i64 x.kind, .bool x.weak, .int .u64 x.value, .int .u64 x.resolver, .int .u64 x.ordinal, .string (strOfNums x.other), v]
def NodeAt (w : World) (g : Nat) (b : Bool) (nm : ByteArray) (x : Ex) (v : Value) : Prop :=
  w.heap[g]? = some (.cells #[.bool b, .string nm, .int .i64 x.kind, .bool x.weak, .int .u64 x.value, .int .u64 x.resolver, .int .u64 x.ordinal, .string (strOfNums x.other), v] 62 (0, 0))
section
variable {g : Nat} {b : Bool} {nm : ByteArray} {x : Ex} {v : Value}
theorem NodeAt.kept {r : Option Nat} (h : NodeAt w g b nm x v) (hg : w.grownBy w' r) (hr : r ≠ some g) : NodeAt w' g b nm x v := (hg.block g (lt_of_block h) (fun e => hr e.symm)).trans h
theorem NodeAt.lt (h : NodeAt w g b nm x v) : g < w.heap.size := lt_of_block h
theorem NodeAt.fz (h : NodeAt w g b nm x v) (i : Nat) : w.frozen? ⟨g, i, none⟩ = false := free_of h
theorem NodeAt.c (h : NodeAt w g b nm x v) : w.cell? ⟨g, 0, none⟩ = some (.bool b) ∧ w.cell? ⟨g, 1, none⟩ = some (.string nm) ∧ w.cell? ⟨g, 2, none⟩ = some (.int .i64 x.kind) ∧ w.cell? ⟨g, 3, none⟩ = some (.bool x.weak) ∧ w.cell? ⟨g, 4, none⟩ = some (.int .u64 x.value) ∧
    w.cell? ⟨g, 5, none⟩ = some (.int .u64 x.resolver) ∧ w.cell? ⟨g, 6, none⟩ = some (.int .u64 x.ordinal) ∧ w.cell? ⟨g, 7, none⟩ = some (.string (strOfNums x.other)) ∧ w.cell? ⟨g, 8, none⟩ = some v := by
  refine ⟨?_, ?_, ?_, ?_, ?_, ?_, ?_, ?_, ?_⟩ <;> (rw [cell_of h]; rfl)
theorem NodeAt.kids (h : NodeAt w g b nm x v) (u : Value) : NodeAt (w.setCell ⟨g, 8, none⟩ u) g b nm x u := by unfold NodeAt; rw [heap_setCell_same w g 8 _ _ _ h]; rfl
theorem NodeAt.s0 (h : NodeAt w g b nm x v) (k : Bool) : NodeAt (w.setCell ⟨g, 0, none⟩ (.bool k)) g k nm x v := by unfold NodeAt; rw [heap_setCell_same w g 0 _ _ _ h]; rfl
theorem NodeAt.s1 (h : NodeAt w g b nm x v) (k : ByteArray) : NodeAt (w.setCell ⟨g, 1, none⟩ (.string k)) g b k x v := by unfold NodeAt; rw [heap_setCell_same w g 1 _ _ _ h]; rfl
theorem NodeAt.s2 (h : NodeAt w g b nm x v) (k : Int) : NodeAt (w.setCell ⟨g, 2, none⟩ (.int .i64 k)) g b nm { x with kind := k } v := by unfold NodeAt; rw [heap_setCell_same w g 2 _ _ _ h]; rfl
theorem NodeAt.s3 (h : NodeAt w g b nm x v) (k : Bool) : NodeAt (w.setCell ⟨g, 3, none⟩ (.bool k)) g b nm { x with weak := k } v := by unfold NodeAt; rw [heap_setCell_same w g 3 _ _ _ h]; rfl
theorem NodeAt.s4 (h : NodeAt w g b nm x v) (k : Int) : NodeAt (w.setCell ⟨g, 4, none⟩ (.int .u64 k)) g b nm { x with value := k } v := by unfold NodeAt; rw [heap_setCell_same w g 4 _ _ _ h]; rfl
theorem NodeAt.s5 (h : NodeAt w g b nm x v) (k : Int) : NodeAt (w.setCell ⟨g, 5, none⟩ (.int .u64 k)) g b nm { x with resolver := k } v := by unfold NodeAt; rw [heap_setCell_same w g 5 _ _ _ h]; rfl
theorem NodeAt.s6 (h : NodeAt w g b nm x v) (k : Int) : NodeAt (w.setCell ⟨g, 6, none⟩ (.int .u64 k)) g b nm { x with ordinal := k } v := by unfold NodeAt; rw [heap_setCell_same w g 6 _ _ _ h]; rfl
theorem NodeAt.s7 (h : NodeAt w g b nm x v) (k : List Int) : NodeAt (w.setCell ⟨g, 7, none⟩ (.string (strOfNums k))) g b nm { x with other := k } v := by unfold NodeAt; rw [heap_setCell_same w g 7 _ _ _ h]; rfl
theorem NodeAt.said (h : NodeAt w g b nm x v) (nm' : ByteArray) (y : Ex) :
    NodeAt ((((((((w.setCell ⟨g, 0, none⟩ (.bool true)).setCell ⟨g, 1, none⟩ (.string nm')).setCell ⟨g, 2, none⟩ (.int .i64 y.kind)).setCell ⟨g, 3, none⟩ (.bool y.weak)).setCell ⟨g, 4, none⟩ (.int .u64 y.value)).setCell ⟨g, 5, none⟩ (.int .u64 y.resolver)).setCell ⟨g, 6, none⟩ (.int .u64 y.ordinal)).setCell ⟨g, 7, none⟩ (.string (strOfNums y.other))) g true nm' y v :=
  (((((((h.s0 true).s1 nm').s2 y.kind).s3 y.weak).s4 y.value).s5 y.resolver).s6 y.ordinal).s7 y.other
theorem load_node (h : NodeAt w g b nm x v) : (loadVar 62 ⟨g, 0, none⟩).run Try.prog w = .ok (nodeV b nm x v) w :=
  run_loadVar_row w g _ _ _ _ _ h Try.underlying62 rfl (by kernel_rfl)
theorem results_node {fn : Func} {p : Tmp} (hr : fn.results = #[.cell p 62]) {tmps : Array Value} (hp : tmps.getD p undef = .pointer (some ⟨g, 0, none⟩)) (h : NodeAt w g b nm x v) :
    (results fn tmps).run Try.prog w = .ok (nodeV b nm x v) w := by
  have e : (asAddr (.pointer (some ⟨g, 0, none⟩)) : Sem Addr).run Try.prog w = .ok ⟨g, 0, none⟩ w := rfl
  simp only [Array.getD_eq_getD_getElem?] at hp
  simp only [results, hr]
  simp [Sem.run_bind, Result.andThen, hp, e, load_node h]
theorem results_node2 {fn : Func} {p u : Tmp} (hr : fn.results = #[.cell p 62, .tmp u]) {tmps : Array Value} {y : Value} (hp : tmps.getD p undef = .pointer (some ⟨g, 0, none⟩)) (hu : tmps.getD u undef = y) (h : NodeAt w g b nm x v) :
    (results fn tmps).run Try.prog w = .ok (.tuple #[nodeV b nm x v, y]) w := by
  rw [results_cell_tmp hr, hp, hu, show (asAddr (.pointer (some ⟨g, 0, none⟩)) : Sem Addr).run Try.prog w = .ok ⟨g, 0, none⟩ w from rfl, Result.andThen_ok, load_node h, Result.andThen_ok]
end

theorem nat_and4 (n : Nat) : n &&& 4 = n / 4 % 2 * 4 := by
  apply Nat.eq_of_testBit_eq
  intro i
  rw [Nat.testBit_and, show (4 : Nat) = 2 ^ 2 by decide, Nat.testBit_two_pow]
  rcases Nat.mod_two_eq_zero_or_one (n / 2 ^ 2) with h | h
  · rw [h, Nat.zero_mul, Nat.zero_testBit]
    by_cases hi : 2 = i
    · subst hi
      rw [Nat.testBit_eq_decide_div_mod_eq, h]; rfl
    · rw [decide_eq_false hi, Bool.and_false]
  · rw [h, Nat.one_mul, Nat.testBit_two_pow]
    by_cases hi : 2 = i
    · subst hi
      rw [Nat.testBit_eq_decide_div_mod_eq, h]; rfl
    · rw [decide_eq_false hi, Bool.and_false]
theorem and4 (F : Int) (h : 0 ≤ F ∧ F < 18446744073709551616) : bits .and .u64 F 4 = F / 4 % 2 * 4 := by
  obtain ⟨n, rfl⟩ := Int.eq_ofNat_of_zero_le h.1
  have e : ((n : Int) % ((2 ^ 64 : Nat) : Int)).toNat = n := by omega
  have key : (BitVec.ofInt 64 (n : Int) &&& BitVec.ofInt 64 4).toNat = n / 4 % 2 * 4 := by
    rw [BitVec.toNat_and, BitVec.toNat_ofInt, e, show (BitVec.ofInt 64 4).toNat = 4 by decide, nat_and4]
  show IntKind.u64.wrap ((BitVec.ofInt 64 (n : Int) &&& BitVec.ofInt 64 4).toNat : Nat) = _
  rw [key, IntKind.wrap_u64]
  omega
theorem andNot4 (F : Int) (h : 0 ≤ F ∧ F < 18446744073709551616) : bits .andNot .u64 F 4 = knN F := by
  obtain ⟨n, rfl⟩ := Int.eq_ofNat_of_zero_le h.1
  have e : ((n : Int) % ((2 ^ 64 : Nat) : Int)).toNat = n := by omega
  have key : (BitVec.ofInt 64 (n : Int) &&& ~~~ BitVec.ofInt 64 4).toNat + n / 4 % 2 * 4 = n := by
    have h1 : (BitVec.ofInt 64 (n : Int) &&& BitVec.ofInt 64 4).toNat = n / 4 % 2 * 4 := by
      rw [BitVec.toNat_and, BitVec.toNat_ofInt, e, show (BitVec.ofInt 64 4).toNat = 4 by decide, nat_and4]
    rw [← h1]
    have h2 : (BitVec.ofInt 64 (n : Int) &&& ~~~ BitVec.ofInt 64 4) + (BitVec.ofInt 64 (n : Int) &&& BitVec.ofInt 64 4) = BitVec.ofInt 64 (n : Int) := by
      rw [BitVec.add_eq_or_of_and_eq_zero]
      · ext i hi
        simp only [BitVec.getElem_or, BitVec.getElem_and, BitVec.getElem_not]
        cases (BitVec.ofInt 64 (n : Int))[i] <;> cases (BitVec.ofInt 64 4)[i] <;> rfl
      · ext i hi
        simp only [BitVec.getElem_and, BitVec.getElem_not, BitVec.getElem_zero]
        cases (BitVec.ofInt 64 (n : Int))[i] <;> cases (BitVec.ofInt 64 4)[i] <;> rfl
    have h3 := congrArg BitVec.toNat h2
    rw [BitVec.toNat_add, BitVec.toNat_ofInt, e] at h3
    have h4 : (BitVec.ofInt 64 (n : Int) &&& ~~~ BitVec.ofInt 64 4).toNat ≤ n := by
      rw [BitVec.toNat_and, BitVec.toNat_ofInt, e]; exact Nat.and_le_left
    have h5 : (BitVec.ofInt 64 (n : Int) &&& BitVec.ofInt 64 4).toNat ≤ 4 := by rw [h1]; omega
    rcases Nat.lt_or_ge ((BitVec.ofInt 64 (n : Int) &&& ~~~ BitVec.ofInt 64 4).toNat + (BitVec.ofInt 64 (n : Int) &&& BitVec.ofInt 64 4).toNat) (2 ^ 64) with h6 | h6
    · rw [Nat.mod_eq_of_lt h6] at h3; exact h3
    · rw [Nat.mod_eq_sub_mod h6, Nat.mod_eq_of_lt (by omega)] at h3
      omega
  show IntKind.u64.wrap ((BitVec.ofInt 64 (n : Int) &&& ~~~ BitVec.ofInt 64 4).toNat : Nat) = _
  rw [IntKind.wrap_u64]
  unfold knN
  split <;> omega
end Go.Proofs.Ytbnnlbdjjpmgeaa


namespace Go.Proofs.Ytbnnlbdjjpmgeaa
open Go.RowKit
variable {w w' W : World} {lo hi a : Nat} {xs : List Int} {s s' : Cs}

structure TkI (w0 W : World) (lo hi a : Nat) (xs : List Int) (s : Cs) (g0 g1 : Nat) (nm : ByteArray) (x : Ex) : Prop where
  pen : PenS W lo hi a xs s false
  res : ExAt W g0 ⟨#[]⟩ Ex.zero
  ex : ExAt W g1 nm x
  grown : w0.grownBy W (some a)
  new0 : w0.heap.size ≤ g0
  new1 : w0.heap.size ≤ g1
  ne : g0 ≠ g1
  up : hi ≤ w0.heap.size
section
variable {w0 : World} {g0 g1 : Nat} {nm : ByteArray} {x x' : Ex}
theorem TkI.al (h : TkI w0 W lo hi a xs s g0 g1 nm x) : a < w0.heap.size := Nat.lt_of_lt_of_le h.pen.up h.up
theorem TkI.call (h : TkI w0 W lo hi a xs s g0 g1 nm x) (hp : PenS w' lo hi a xs s' false) (hg : W.grownBy w' (some a)) : TkI w0 w' lo hi a xs s' g0 g1 nm x := by
  have ha := h.al
  exact ⟨hp, h.res.kept hg (by intro e; injection e with e; have := h.new0; omega), h.ex.kept hg (by intro e; injection e with e; have := h.new1; omega), grown_same h.grown hg, h.new0, h.new1, h.ne, h.up⟩
theorem TkI.set (h : TkI w0 W lo hi a xs s g0 g1 nm x) (hg : W.grownBy w' (some g1)) (he : ExAt w' g1 nm x') : TkI w0 w' lo hi a xs s g0 g1 nm x' :=
  ⟨Pen.kept h.pen hg (.inr (Nat.le_trans h.up h.new1)), h.res.kept hg (by intro e; injection e with e; exact h.ne e.symm), he, grown_past h.grown hg h.new1, h.new0, h.new1, h.ne, h.up⟩
end
structure TxOut (w w' : World) (lo hi a : Nat) (xs : List Int) (s : Cs) (nm : ByteArray) (size : Int) (e : Ending) : Prop where
  ex : ∃ x s', e = .returned (exV nm x) ∧ PenS w' lo hi a xs s' false ∧ Sim (psZ sayP size) xs s x s'
  grown : w.grownBy w' (some a)
set_option maxRecDepth 20000 in
set_option maxHeartbeats 3200000 in
theorem takeExport_any (h : PenS w lo hi a xs s false) (nm : ByteArray) (size : Int) (hs : 0 ≤ size ∧ size < 18446744073709551616) :
    Calls Try.prog 78 #[.pointer (some ⟨a, 0, none⟩), .string nm, .int .u64 size] w fun e w' => TxOut w w' lo hi a xs s nm size e := by
  have hbig : xs.length ≤ 140737488355328 := Pen.most h
  have hhi : hi ≤ w.heap.size := h.sz
  have hal : a < w.heap.size := Nat.lt_of_lt_of_le h.up h.sz
  have hle : s.1 ≤ xs.length := Pen.le h
  have g1 := grown1 w (.cells #[.string ⟨#[]⟩, .int .i64 0, .bool false, .int .u64 0, .int .u64 0, .int .u64 0, .string ⟨#[]⟩] 38)
  have r1 : ExAt (w.alloc (.cells #[.string ⟨#[]⟩, .int .i64 0, .bool false, .int .u64 0, .int .u64 0, .int .u64 0, .string ⟨#[]⟩] 38)) w.heap.size ⟨#[]⟩ Ex.zero := heap_alloc_new w _
  obtain ⟨w1, hw1⟩ : ∃ w1, w.alloc (.cells #[.string ⟨#[]⟩, .int .i64 0, .bool false, .int .u64 0, .int .u64 0, .int .u64 0, .string ⟨#[]⟩] 38) = w1 := ⟨_, rfl⟩
  obtain ⟨g0, hg0⟩ : ∃ g0, w.heap.size = g0 := ⟨_, rfl⟩
  rw [hw1] at g1 r1
  rw [hg0] at r1
  have HW1 := Lib.hid hw1
  have HG0 := Lib.hid hg0
  have G1 := Lib.hid g1
  have R1 := Lib.hid r1
  have P1 := Lib.hid (Pen.same h g1)
  have g2 := grown1 w1 (.cells #[.string nm, .int .i64 0, .bool false, .int .u64 0, .int .u64 0, .int .u64 0, .string ⟨#[]⟩] 38)
  have r2 : ExAt (w1.alloc (.cells #[.string nm, .int .i64 0, .bool false, .int .u64 0, .int .u64 0, .int .u64 0, .string ⟨#[]⟩] 38)) w1.heap.size nm Ex.zero := heap_alloc_new w1 _
  have T2 := Lib.hid (show TkI w (w1.alloc (.cells #[.string nm, .int .i64 0, .bool false, .int .u64 0, .int .u64 0, .int .u64 0, .string ⟨#[]⟩] 38)) lo hi a xs s g0 w1.heap.size nm Ex.zero from
    ⟨Pen.same (Pen.same h g1) g2, r1.kept g2 (by simp), r2, grown_any (grown_trans g1 g2) _, by omega, g1.size, by have := r1.lt; omega, hhi⟩)
  obtain ⟨w2, hw2⟩ : ∃ w2, w1.alloc (.cells #[.string nm, .int .i64 0, .bool false, .int .u64 0, .int .u64 0, .int .u64 0, .string ⟨#[]⟩] 38) = w2 := ⟨_, rfl⟩
  obtain ⟨gx, hgx⟩ : ∃ gx, w1.heap.size = gx := ⟨_, rfl⟩
  rw [hw2, hgx] at T2
  have HW2 := Lib.hid hw2
  have HGX := Lib.hid hgx
  have S0 := Lib.hid (sim_ul xs s)
  have B0 := Lib.hid (ulS_bd (xs := xs) (s := s))
  have HS := Lib.hid hs
  clear h g1 g2 r1 r2 hw1 hg0 hw2 hgx hs
  go_enter Try.func78, Try.ntmps78
  go_upto_region 1 with fail
  rw [HW1.out, HG0.out]
  go_wp2_with fail
  refine (pen_at P1.out).mono ?_
  rintro e w1' ⟨rfl, rfl⟩
  go_upto_region 3 with fail
  rw [HW2.out, HGX.out]
  clear HW1 HG0 HW2 HGX P1 R1 G1
  go_wp2_with fail
  refine (pen_ul T2.out.pen).mono ?_
  rintro e w3 ⟨rfl, hp, hg⟩
  have T3 := Lib.hid (T2.out.call hp hg)
  clear hp hg T2
  obtain ⟨F, hF⟩ : ∃ F, F = (ulS xs s).1 := ⟨_, rfl⟩
  obtain ⟨s1, hs1⟩ : ∃ s1, s1 = (ulS xs s).2 := ⟨_, rfl⟩
  rw [← hF, ← hs1] at S0
  rw [← hF] at B0
  rw [← hs1] at T3
  rw [← hF]
  clear hF hs1
  have a4 := and4 F B0.out
  have n4 := andNot4 F B0.out
  obtain ⟨K, hK⟩ : ∃ K, K = knN F := ⟨_, rfl⟩
  obtain ⟨wk, hwk⟩ : ∃ wk, wk = wkN F := ⟨_, rfl⟩
  have hwb : (F / 4 % 2 * 4 != 0) = wk := by
    rw [hwk]
    unfold wkN
    by_cases h1 : F / 4 % 2 = 1
    · rw [decide_eq_true h1, h1]; rfl
    · rw [decide_eq_false h1, show F / 4 % 2 = 0 by omega]; rfl
  rw [← hK] at n4
  obtain ⟨A4, hA4⟩ : ∃ A, A = F / 4 % 2 * 4 := ⟨_, rfl⟩
  rw [← hA4] at a4 hwb
  have SK := Lib.hid (show sayK F = if K = 0 then psB ulP fun v => psR ⟨1, wk, v, 0, 0, []⟩
    else if K = 2 then psB ulP fun v => psR ⟨2, wk, v, 0, 0, []⟩
    else if K = 8 then psB ulP fun o => psB txP fun t => psR ⟨3, wk, 0, 0, o, t⟩
    else if K = 16 then psB ulP fun v => psB ulP fun r => psR ⟨4, wk, v, r, 0, []⟩
    else psF by rw [hK, hwk]; rfl)
  clear hK hwk hA4
  have f2 := T3.out.ex.fz 2
  have gl3 := T3.out.ex.lt
  have c2 := T3.out.ex.c.2.2.1
  go_upto_region 5 with fail
  have T4 := Lib.hid (T3.out.set (grown_setCell (i := 2) (grown_refl w3 (some gx)) (.bool wk)) (T3.out.ex.weak wk))
  obtain ⟨w4, hw4⟩ : ∃ w4, w3.setCell ⟨gx, 2, none⟩ (.bool wk) = w4 := ⟨_, rfl⟩
  rw [hw4] at T4
  (try rw [hw4])
  clear hw4 f2 gl3 c2 T3
  by_cases h0 : K = 0
  · subst h0
    rw [if_pos rfl] at SK
    have S1 := Lib.hid (sim_ul xs s1)
    go_wp2_with fail
    refine (pen_ul T4.out.pen).mono ?_
    rintro e w5 ⟨rfl, hp, hg⟩
    have Tw5 := Lib.hid (T4.out.call hp hg)
    clear hp hg T4
    obtain ⟨V, hV⟩ : ∃ z, z = (ulS xs s1).1 := ⟨_, rfl⟩
    obtain ⟨s2, hs2⟩ : ∃ z, z = (ulS xs s1).2 := ⟨_, rfl⟩
    rw [← hV, ← hs2] at S1
    rw [← hs2] at Tw5
    rw [← hV]
    clear hV hs2
    have f1 := Tw5.out.ex.fz
    have gl5 := Tw5.out.ex.lt
    have c5 := Tw5.out.ex.c
    go_upto_region 17 with fail
    have Tw5z0 := Lib.hid (Tw5.out.set (grown_setCell (i := 1) (grown_refl _ (some gx)) (.int .i64 1)) (Tw5.out.ex.kind 1))
    have Tw5z0z1 := Lib.hid (Tw5z0.out.set (grown_setCell (i := 3) (grown_refl _ (some gx)) (.int .u64 V)) (Tw5z0.out.ex.value V))
    obtain ⟨w5e, hwe⟩ : ∃ we, ((w5.setCell ⟨gx, 1, none⟩ (.int .i64 1)).setCell ⟨gx, 3, none⟩ (.int .u64 V)) = we := ⟨_, rfl⟩
    rw [hwe] at Tw5z0z1
    (try rw [hwe])
    have Tw5e := Lib.hid Tw5z0z1.out
    clear hwe f1 gl5 c5
    have SX := Lib.hid (show Sim sayP xs s (⟨1, wk, V, 0, 0, []⟩ : Ex) s2 from Sim.B S0.out (by rw [SK.out]; exact Sim.B S1.out (Sim.R _ _)))
    have hp9 : s.1 ≤ s2.1 := SX.out.le
    have hl9 : s2.1 ≤ xs.length := Pen.le Tw5e.out.pen
    obtain ⟨P, hP⟩ : ∃ P, P = s.1 := ⟨_, rfl⟩
    obtain ⟨Q, hQ⟩ : ∃ Q, Q = s2.1 := ⟨_, rfl⟩
    have PA := Lib.hid (pen_at Tw5e.out.pen)
    rw [← hQ] at PA
    rw [← hP, ← hQ] at hp9
    rw [← hQ] at hl9
    rw [← hP] at hle
    (try rw [← hP])
    have HPQ := Lib.hid (And.intro hP hQ)
    clear hP hQ
    go_wp2_with fail
    refine PA.out.mono ?_
    rintro e w9 ⟨rfl, rfl⟩
    obtain ⟨D, hD1, hD2, hD3, hD4⟩ : ∃ D : Int, (Q : Int) - (P : Int) = D ∧ D = ((Q - P : Nat) : Int) ∧ 0 ≤ D ∧ D ≤ 140737488355328 := ⟨_, rfl, by omega, by omega, by omega⟩
    have HD2 := Lib.hid hD2
    clear hD2
    by_cases hq : D = size
    · have Z := Lib.hid (show Sim (psZ sayP size) xs s (⟨1, wk, V, 0, 0, []⟩ : Ex) s2 by
        have h := SX.out.Z (k := size)
        rw [← HPQ.out.1, ← HPQ.out.2, ← HD2.out, hq, decide_eq_true rfl] at h
        simp only [Bool.not_true, Bool.or_false] at h
        rw [HPQ.out.2] at h
        exact h)
      have hqf : (D != size) = false := by rw [hq]; simp
      obtain ⟨c0, c1, c2, c3, c4, c5, c6⟩ := Tw5e.out.ex.c
      obtain ⟨d0, d1, d2, d3, d4, d5, d6⟩ := Tw5e.out.res.c
      have f := Tw5e.out.res.fz
      have rl := Tw5e.out.res.lt
      have xl := Tw5e.out.ex.lt
      clear hq
      go_wp2_with fail
      refine bodyPost_ret (results_ex rfl rfl (Tw5e.out.res.put nm ⟨1, wk, V, 0, 0, []⟩)) rfl ?_
      exact ⟨⟨_, _, rfl, Pen.kept Tw5e.out.pen (grown_put7 (grown_refl _ (some g0)) _ _ _ _ _ _ _) (.inr (Nat.le_trans Tw5e.out.up Tw5e.out.new0)), Z.out⟩, grown_past Tw5e.out.grown (grown_put7 (grown_refl _ (some g0)) _ _ _ _ _ _ _) Tw5e.out.new0⟩
    · have Z := Lib.hid (show Sim (psZ sayP size) xs s (⟨1, wk, V, 0, 0, []⟩ : Ex) (s2.1, true) by
        have h := SX.out.Z (k := size)
        rw [← HPQ.out.1, ← HPQ.out.2, ← HD2.out, decide_eq_false hq] at h
        simp only [Bool.not_false, Bool.or_true] at h
        rw [← HPQ.out.2]
        exact h)
      have hqf : (D != size) = true := by simpa using hq
      clear hq
      go_wp2_with fail
      refine (pen_fl Tw5e.out.pen).mono ?_
      rintro e wz ⟨rfl, hp, hg⟩
      have TZ := Lib.hid (Tw5e.out.call hp hg)
      clear hp hg
      obtain ⟨c0, c1, c2, c3, c4, c5, c6⟩ := TZ.out.ex.c
      obtain ⟨d0, d1, d2, d3, d4, d5, d6⟩ := TZ.out.res.c
      have f := TZ.out.res.fz
      have rl := TZ.out.res.lt
      have xl := TZ.out.ex.lt
      go_wp2_with fail
      refine bodyPost_ret (results_ex rfl rfl (TZ.out.res.put nm ⟨1, wk, V, 0, 0, []⟩)) rfl ?_
      exact ⟨⟨_, _, rfl, Pen.kept TZ.out.pen (grown_put7 (grown_refl _ (some g0)) _ _ _ _ _ _ _) (.inr (Nat.le_trans TZ.out.up TZ.out.new0)), Z.out⟩, grown_past TZ.out.grown (grown_put7 (grown_refl _ (some g0)) _ _ _ _ _ _ _) TZ.out.new0⟩
  by_cases h2 : K = 2
  · subst h2
    rw [if_neg (by decide), if_pos rfl] at SK
    have S1 := Lib.hid (sim_ul xs s1)
    go_wp2_with fail
    refine (pen_ul T4.out.pen).mono ?_
    rintro e w5 ⟨rfl, hp, hg⟩
    have Tw5 := Lib.hid (T4.out.call hp hg)
    clear hp hg T4
    obtain ⟨V, hV⟩ : ∃ z, z = (ulS xs s1).1 := ⟨_, rfl⟩
    obtain ⟨s2, hs2⟩ : ∃ z, z = (ulS xs s1).2 := ⟨_, rfl⟩
    rw [← hV, ← hs2] at S1
    rw [← hs2] at Tw5
    rw [← hV]
    clear hV hs2
    have f1 := Tw5.out.ex.fz
    have gl5 := Tw5.out.ex.lt
    have c5 := Tw5.out.ex.c
    go_upto_region 17 with fail
    have Tw5z0 := Lib.hid (Tw5.out.set (grown_setCell (i := 1) (grown_refl _ (some gx)) (.int .i64 2)) (Tw5.out.ex.kind 2))
    have Tw5z0z1 := Lib.hid (Tw5z0.out.set (grown_setCell (i := 3) (grown_refl _ (some gx)) (.int .u64 V)) (Tw5z0.out.ex.value V))
    obtain ⟨w5e, hwe⟩ : ∃ we, ((w5.setCell ⟨gx, 1, none⟩ (.int .i64 2)).setCell ⟨gx, 3, none⟩ (.int .u64 V)) = we := ⟨_, rfl⟩
    rw [hwe] at Tw5z0z1
    (try rw [hwe])
    have Tw5e := Lib.hid Tw5z0z1.out
    clear hwe f1 gl5 c5
    have SX := Lib.hid (show Sim sayP xs s (⟨2, wk, V, 0, 0, []⟩ : Ex) s2 from Sim.B S0.out (by rw [SK.out]; exact Sim.B S1.out (Sim.R _ _)))
    have hp9 : s.1 ≤ s2.1 := SX.out.le
    have hl9 : s2.1 ≤ xs.length := Pen.le Tw5e.out.pen
    obtain ⟨P, hP⟩ : ∃ P, P = s.1 := ⟨_, rfl⟩
    obtain ⟨Q, hQ⟩ : ∃ Q, Q = s2.1 := ⟨_, rfl⟩
    have PA := Lib.hid (pen_at Tw5e.out.pen)
    rw [← hQ] at PA
    rw [← hP, ← hQ] at hp9
    rw [← hQ] at hl9
    rw [← hP] at hle
    (try rw [← hP])
    have HPQ := Lib.hid (And.intro hP hQ)
    clear hP hQ
    go_wp2_with fail
    refine PA.out.mono ?_
    rintro e w9 ⟨rfl, rfl⟩
    obtain ⟨D, hD1, hD2, hD3, hD4⟩ : ∃ D : Int, (Q : Int) - (P : Int) = D ∧ D = ((Q - P : Nat) : Int) ∧ 0 ≤ D ∧ D ≤ 140737488355328 := ⟨_, rfl, by omega, by omega, by omega⟩
    have HD2 := Lib.hid hD2
    clear hD2
    by_cases hq : D = size
    · have Z := Lib.hid (show Sim (psZ sayP size) xs s (⟨2, wk, V, 0, 0, []⟩ : Ex) s2 by
        have h := SX.out.Z (k := size)
        rw [← HPQ.out.1, ← HPQ.out.2, ← HD2.out, hq, decide_eq_true rfl] at h
        simp only [Bool.not_true, Bool.or_false] at h
        rw [HPQ.out.2] at h
        exact h)
      have hqf : (D != size) = false := by rw [hq]; simp
      obtain ⟨c0, c1, c2, c3, c4, c5, c6⟩ := Tw5e.out.ex.c
      obtain ⟨d0, d1, d2, d3, d4, d5, d6⟩ := Tw5e.out.res.c
      have f := Tw5e.out.res.fz
      have rl := Tw5e.out.res.lt
      have xl := Tw5e.out.ex.lt
      clear hq
      go_wp2_with fail
      refine bodyPost_ret (results_ex rfl rfl (Tw5e.out.res.put nm ⟨2, wk, V, 0, 0, []⟩)) rfl ?_
      exact ⟨⟨_, _, rfl, Pen.kept Tw5e.out.pen (grown_put7 (grown_refl _ (some g0)) _ _ _ _ _ _ _) (.inr (Nat.le_trans Tw5e.out.up Tw5e.out.new0)), Z.out⟩, grown_past Tw5e.out.grown (grown_put7 (grown_refl _ (some g0)) _ _ _ _ _ _ _) Tw5e.out.new0⟩
    · have Z := Lib.hid (show Sim (psZ sayP size) xs s (⟨2, wk, V, 0, 0, []⟩ : Ex) (s2.1, true) by
        have h := SX.out.Z (k := size)
        rw [← HPQ.out.1, ← HPQ.out.2, ← HD2.out, decide_eq_false hq] at h
        simp only [Bool.not_false, Bool.or_true] at h
        rw [← HPQ.out.2]
        exact h)
      have hqf : (D != size) = true := by simpa using hq
      clear hq
      go_wp2_with fail
      refine (pen_fl Tw5e.out.pen).mono ?_
      rintro e wz ⟨rfl, hp, hg⟩
      have TZ := Lib.hid (Tw5e.out.call hp hg)
      clear hp hg
      obtain ⟨c0, c1, c2, c3, c4, c5, c6⟩ := TZ.out.ex.c
      obtain ⟨d0, d1, d2, d3, d4, d5, d6⟩ := TZ.out.res.c
      have f := TZ.out.res.fz
      have rl := TZ.out.res.lt
      have xl := TZ.out.ex.lt
      go_wp2_with fail
      refine bodyPost_ret (results_ex rfl rfl (TZ.out.res.put nm ⟨2, wk, V, 0, 0, []⟩)) rfl ?_
      exact ⟨⟨_, _, rfl, Pen.kept TZ.out.pen (grown_put7 (grown_refl _ (some g0)) _ _ _ _ _ _ _) (.inr (Nat.le_trans TZ.out.up TZ.out.new0)), Z.out⟩, grown_past TZ.out.grown (grown_put7 (grown_refl _ (some g0)) _ _ _ _ _ _ _) TZ.out.new0⟩
  by_cases h8 : K = 8
  · subst h8
    rw [if_neg (by decide), if_neg (by decide), if_pos rfl] at SK
    have S1 := Lib.hid (sim_ul xs s1)
    go_wp2_with fail
    refine (pen_ul T4.out.pen).mono ?_
    rintro e w5 ⟨rfl, hp, hg⟩
    have Tw5 := Lib.hid (T4.out.call hp hg)
    clear hp hg T4
    obtain ⟨V, hV⟩ : ∃ z, z = (ulS xs s1).1 := ⟨_, rfl⟩
    obtain ⟨s2, hs2⟩ : ∃ z, z = (ulS xs s1).2 := ⟨_, rfl⟩
    rw [← hV, ← hs2] at S1
    rw [← hs2] at Tw5
    rw [← hV]
    clear hV hs2
    have f1 := Tw5.out.ex.fz
    have gl5 := Tw5.out.ex.lt
    have c5 := Tw5.out.ex.c
    go_upto_region 13 with fail
    have Tw5z0 := Lib.hid (Tw5.out.set (grown_setCell (i := 1) (grown_refl _ (some gx)) (.int .i64 3)) (Tw5.out.ex.kind 3))
    have Tw5z0z1 := Lib.hid (Tw5z0.out.set (grown_setCell (i := 5) (grown_refl _ (some gx)) (.int .u64 V)) (Tw5z0.out.ex.ordinal V))
    obtain ⟨w5e, hwe⟩ : ∃ we, ((w5.setCell ⟨gx, 1, none⟩ (.int .i64 3)).setCell ⟨gx, 5, none⟩ (.int .u64 V)) = we := ⟨_, rfl⟩
    rw [hwe] at Tw5z0z1
    (try rw [hwe])
    have Tw5e := Lib.hid Tw5z0z1.out
    clear hwe f1 gl5 c5
    have S2 := Lib.hid (sim_tx xs s2)
    go_wp2_with fail
    refine (pen_tx Tw5e.out.pen).mono ?_
    rintro e w6 ⟨rfl, hp, hg⟩
    have Tw6 := Lib.hid (Tw5e.out.call hp hg)
    clear hp hg Tw5e
    obtain ⟨T, hV⟩ : ∃ z, z = (txS xs s2).1 := ⟨_, rfl⟩
    obtain ⟨s3, hs2⟩ : ∃ z, z = (txS xs s2).2 := ⟨_, rfl⟩
    rw [← hV, ← hs2] at S2
    rw [← hs2] at Tw6
    rw [← hV]
    clear hV hs2
    have f1 := Tw6.out.ex.fz
    have gl5 := Tw6.out.ex.lt
    have c5 := Tw6.out.ex.c
    go_upto_region 17 with fail
    have Tw6z0 := Lib.hid (Tw6.out.set (grown_setCell (i := 6) (grown_refl _ (some gx)) (.string (strOfNums T))) (Tw6.out.ex.other T))
    obtain ⟨w6e, hwe⟩ : ∃ we, (w6.setCell ⟨gx, 6, none⟩ (.string (strOfNums T))) = we := ⟨_, rfl⟩
    rw [hwe] at Tw6z0
    (try rw [hwe])
    have Tw6e := Lib.hid Tw6z0.out
    clear hwe f1 gl5 c5
    have SX := Lib.hid (show Sim sayP xs s (⟨3, wk, 0, 0, V, T⟩ : Ex) s3 from Sim.B S0.out (by rw [SK.out]; exact Sim.B S1.out (Sim.B S2.out (Sim.R _ _))))
    have hp9 : s.1 ≤ s3.1 := SX.out.le
    have hl9 : s3.1 ≤ xs.length := Pen.le Tw6e.out.pen
    obtain ⟨P, hP⟩ : ∃ P, P = s.1 := ⟨_, rfl⟩
    obtain ⟨Q, hQ⟩ : ∃ Q, Q = s3.1 := ⟨_, rfl⟩
    have PA := Lib.hid (pen_at Tw6e.out.pen)
    rw [← hQ] at PA
    rw [← hP, ← hQ] at hp9
    rw [← hQ] at hl9
    rw [← hP] at hle
    (try rw [← hP])
    have HPQ := Lib.hid (And.intro hP hQ)
    clear hP hQ
    go_wp2_with fail
    refine PA.out.mono ?_
    rintro e w9 ⟨rfl, rfl⟩
    obtain ⟨D, hD1, hD2, hD3, hD4⟩ : ∃ D : Int, (Q : Int) - (P : Int) = D ∧ D = ((Q - P : Nat) : Int) ∧ 0 ≤ D ∧ D ≤ 140737488355328 := ⟨_, rfl, by omega, by omega, by omega⟩
    have HD2 := Lib.hid hD2
    clear hD2
    by_cases hq : D = size
    · have Z := Lib.hid (show Sim (psZ sayP size) xs s (⟨3, wk, 0, 0, V, T⟩ : Ex) s3 by
        have h := SX.out.Z (k := size)
        rw [← HPQ.out.1, ← HPQ.out.2, ← HD2.out, hq, decide_eq_true rfl] at h
        simp only [Bool.not_true, Bool.or_false] at h
        rw [HPQ.out.2] at h
        exact h)
      have hqf : (D != size) = false := by rw [hq]; simp
      obtain ⟨c0, c1, c2, c3, c4, c5, c6⟩ := Tw6e.out.ex.c
      obtain ⟨d0, d1, d2, d3, d4, d5, d6⟩ := Tw6e.out.res.c
      have f := Tw6e.out.res.fz
      have rl := Tw6e.out.res.lt
      have xl := Tw6e.out.ex.lt
      clear hq
      go_wp2_with fail
      refine bodyPost_ret (results_ex rfl rfl (Tw6e.out.res.put nm ⟨3, wk, 0, 0, V, T⟩)) rfl ?_
      exact ⟨⟨_, _, rfl, Pen.kept Tw6e.out.pen (grown_put7 (grown_refl _ (some g0)) _ _ _ _ _ _ _) (.inr (Nat.le_trans Tw6e.out.up Tw6e.out.new0)), Z.out⟩, grown_past Tw6e.out.grown (grown_put7 (grown_refl _ (some g0)) _ _ _ _ _ _ _) Tw6e.out.new0⟩
    · have Z := Lib.hid (show Sim (psZ sayP size) xs s (⟨3, wk, 0, 0, V, T⟩ : Ex) (s3.1, true) by
        have h := SX.out.Z (k := size)
        rw [← HPQ.out.1, ← HPQ.out.2, ← HD2.out, decide_eq_false hq] at h
        simp only [Bool.not_false, Bool.or_true] at h
        rw [← HPQ.out.2]
        exact h)
      have hqf : (D != size) = true := by simpa using hq
      clear hq
      go_wp2_with fail
      refine (pen_fl Tw6e.out.pen).mono ?_
      rintro e wz ⟨rfl, hp, hg⟩
      have TZ := Lib.hid (Tw6e.out.call hp hg)
      clear hp hg
      obtain ⟨c0, c1, c2, c3, c4, c5, c6⟩ := TZ.out.ex.c
      obtain ⟨d0, d1, d2, d3, d4, d5, d6⟩ := TZ.out.res.c
      have f := TZ.out.res.fz
      have rl := TZ.out.res.lt
      have xl := TZ.out.ex.lt
      go_wp2_with fail
      refine bodyPost_ret (results_ex rfl rfl (TZ.out.res.put nm ⟨3, wk, 0, 0, V, T⟩)) rfl ?_
      exact ⟨⟨_, _, rfl, Pen.kept TZ.out.pen (grown_put7 (grown_refl _ (some g0)) _ _ _ _ _ _ _) (.inr (Nat.le_trans TZ.out.up TZ.out.new0)), Z.out⟩, grown_past TZ.out.grown (grown_put7 (grown_refl _ (some g0)) _ _ _ _ _ _ _) TZ.out.new0⟩
  by_cases h16 : K = 16
  · subst h16
    rw [if_neg (by decide), if_neg (by decide), if_neg (by decide), if_pos rfl] at SK
    have S1 := Lib.hid (sim_ul xs s1)
    go_wp2_with fail
    refine (pen_ul T4.out.pen).mono ?_
    rintro e w5 ⟨rfl, hp, hg⟩
    have Tw5 := Lib.hid (T4.out.call hp hg)
    clear hp hg T4
    obtain ⟨V, hV⟩ : ∃ z, z = (ulS xs s1).1 := ⟨_, rfl⟩
    obtain ⟨s2, hs2⟩ : ∃ z, z = (ulS xs s1).2 := ⟨_, rfl⟩
    rw [← hV, ← hs2] at S1
    rw [← hs2] at Tw5
    rw [← hV]
    clear hV hs2
    have f1 := Tw5.out.ex.fz
    have gl5 := Tw5.out.ex.lt
    have c5 := Tw5.out.ex.c
    go_upto_region 16 with fail
    have Tw5z0 := Lib.hid (Tw5.out.set (grown_setCell (i := 1) (grown_refl _ (some gx)) (.int .i64 4)) (Tw5.out.ex.kind 4))
    have Tw5z0z1 := Lib.hid (Tw5z0.out.set (grown_setCell (i := 3) (grown_refl _ (some gx)) (.int .u64 V)) (Tw5z0.out.ex.value V))
    obtain ⟨w5e, hwe⟩ : ∃ we, ((w5.setCell ⟨gx, 1, none⟩ (.int .i64 4)).setCell ⟨gx, 3, none⟩ (.int .u64 V)) = we := ⟨_, rfl⟩
    rw [hwe] at Tw5z0z1
    (try rw [hwe])
    have Tw5e := Lib.hid Tw5z0z1.out
    clear hwe f1 gl5 c5
    have S2 := Lib.hid (sim_ul xs s2)
    go_wp2_with fail
    refine (pen_ul Tw5e.out.pen).mono ?_
    rintro e w6 ⟨rfl, hp, hg⟩
    have Tw6 := Lib.hid (Tw5e.out.call hp hg)
    clear hp hg Tw5e
    obtain ⟨R, hV⟩ : ∃ z, z = (ulS xs s2).1 := ⟨_, rfl⟩
    obtain ⟨s3, hs2⟩ : ∃ z, z = (ulS xs s2).2 := ⟨_, rfl⟩
    rw [← hV, ← hs2] at S2
    rw [← hs2] at Tw6
    rw [← hV]
    clear hV hs2
    have f1 := Tw6.out.ex.fz
    have gl5 := Tw6.out.ex.lt
    have c5 := Tw6.out.ex.c
    go_upto_region 17 with fail
    have Tw6z0 := Lib.hid (Tw6.out.set (grown_setCell (i := 4) (grown_refl _ (some gx)) (.int .u64 R)) (Tw6.out.ex.resolver R))
    obtain ⟨w6e, hwe⟩ : ∃ we, (w6.setCell ⟨gx, 4, none⟩ (.int .u64 R)) = we := ⟨_, rfl⟩
    rw [hwe] at Tw6z0
    (try rw [hwe])
    have Tw6e := Lib.hid Tw6z0.out
    clear hwe f1 gl5 c5
    have SX := Lib.hid (show Sim sayP xs s (⟨4, wk, V, R, 0, []⟩ : Ex) s3 from Sim.B S0.out (by rw [SK.out]; exact Sim.B S1.out (Sim.B S2.out (Sim.R _ _))))
    have hp9 : s.1 ≤ s3.1 := SX.out.le
    have hl9 : s3.1 ≤ xs.length := Pen.le Tw6e.out.pen
    obtain ⟨P, hP⟩ : ∃ P, P = s.1 := ⟨_, rfl⟩
    obtain ⟨Q, hQ⟩ : ∃ Q, Q = s3.1 := ⟨_, rfl⟩
    have PA := Lib.hid (pen_at Tw6e.out.pen)
    rw [← hQ] at PA
    rw [← hP, ← hQ] at hp9
    rw [← hQ] at hl9
    rw [← hP] at hle
    (try rw [← hP])
    have HPQ := Lib.hid (And.intro hP hQ)
    clear hP hQ
    go_wp2_with fail
    refine PA.out.mono ?_
    rintro e w9 ⟨rfl, rfl⟩
    obtain ⟨D, hD1, hD2, hD3, hD4⟩ : ∃ D : Int, (Q : Int) - (P : Int) = D ∧ D = ((Q - P : Nat) : Int) ∧ 0 ≤ D ∧ D ≤ 140737488355328 := ⟨_, rfl, by omega, by omega, by omega⟩
    have HD2 := Lib.hid hD2
    clear hD2
    by_cases hq : D = size
    · have Z := Lib.hid (show Sim (psZ sayP size) xs s (⟨4, wk, V, R, 0, []⟩ : Ex) s3 by
        have h := SX.out.Z (k := size)
        rw [← HPQ.out.1, ← HPQ.out.2, ← HD2.out, hq, decide_eq_true rfl] at h
        simp only [Bool.not_true, Bool.or_false] at h
        rw [HPQ.out.2] at h
        exact h)
      have hqf : (D != size) = false := by rw [hq]; simp
      obtain ⟨c0, c1, c2, c3, c4, c5, c6⟩ := Tw6e.out.ex.c
      obtain ⟨d0, d1, d2, d3, d4, d5, d6⟩ := Tw6e.out.res.c
      have f := Tw6e.out.res.fz
      have rl := Tw6e.out.res.lt
      have xl := Tw6e.out.ex.lt
      clear hq
      go_wp2_with fail
      refine bodyPost_ret (results_ex rfl rfl (Tw6e.out.res.put nm ⟨4, wk, V, R, 0, []⟩)) rfl ?_
      exact ⟨⟨_, _, rfl, Pen.kept Tw6e.out.pen (grown_put7 (grown_refl _ (some g0)) _ _ _ _ _ _ _) (.inr (Nat.le_trans Tw6e.out.up Tw6e.out.new0)), Z.out⟩, grown_past Tw6e.out.grown (grown_put7 (grown_refl _ (some g0)) _ _ _ _ _ _ _) Tw6e.out.new0⟩
    · have Z := Lib.hid (show Sim (psZ sayP size) xs s (⟨4, wk, V, R, 0, []⟩ : Ex) (s3.1, true) by
        have h := SX.out.Z (k := size)
        rw [← HPQ.out.1, ← HPQ.out.2, ← HD2.out, decide_eq_false hq] at h
        simp only [Bool.not_false, Bool.or_true] at h
        rw [← HPQ.out.2]
        exact h)
      have hqf : (D != size) = true := by simpa using hq
      clear hq
      go_wp2_with fail
      refine (pen_fl Tw6e.out.pen).mono ?_
      rintro e wz ⟨rfl, hp, hg⟩
      have TZ := Lib.hid (Tw6e.out.call hp hg)
      clear hp hg
      obtain ⟨c0, c1, c2, c3, c4, c5, c6⟩ := TZ.out.ex.c
      obtain ⟨d0, d1, d2, d3, d4, d5, d6⟩ := TZ.out.res.c
      have f := TZ.out.res.fz
      have rl := TZ.out.res.lt
      have xl := TZ.out.ex.lt
      go_wp2_with fail
      refine bodyPost_ret (results_ex rfl rfl (TZ.out.res.put nm ⟨4, wk, V, R, 0, []⟩)) rfl ?_
      exact ⟨⟨_, _, rfl, Pen.kept TZ.out.pen (grown_put7 (grown_refl _ (some g0)) _ _ _ _ _ _ _) (.inr (Nat.le_trans TZ.out.up TZ.out.new0)), Z.out⟩, grown_past TZ.out.grown (grown_put7 (grown_refl _ (some g0)) _ _ _ _ _ _ _) TZ.out.new0⟩
  rw [if_neg h0, if_neg h2, if_neg h8, if_neg h16] at SK
  have b0 : (K == 0) = false := by simpa using h0
  have b2 : (K == 2) = false := by simpa using h2
  have b8 : (K == 8) = false := by simpa using h8
  have b16 : (K == 16) = false := by simpa using h16
  go_wp2_with fail
  refine (pen_fl T4.out.pen).mono ?_
  rintro e w5 ⟨rfl, hp, hg⟩
  have Tw5e := Lib.hid (T4.out.call hp hg)
  clear hp hg
  obtain ⟨s2, hs2⟩ : ∃ s2, s2 = (s1.1, true) := ⟨_, rfl⟩
  have SX := Lib.hid (show Sim sayP xs s (⟨0, wk, 0, 0, 0, []⟩ : Ex) s2 from Sim.B S0.out (by rw [SK.out, hs2]; exact Sim.F _ (Nat.le_refl _) rfl))
  rw [← hs2] at Tw5e
  clear hs2
  have hp9 : s.1 ≤ s2.1 := SX.out.le
  have hl9 : s2.1 ≤ xs.length := Pen.le Tw5e.out.pen
  obtain ⟨P, hP⟩ : ∃ P, P = s.1 := ⟨_, rfl⟩
  obtain ⟨Q, hQ⟩ : ∃ Q, Q = s2.1 := ⟨_, rfl⟩
  have PA := Lib.hid (pen_at Tw5e.out.pen)
  rw [← hQ] at PA
  rw [← hP, ← hQ] at hp9
  rw [← hQ] at hl9
  rw [← hP] at hle
  (try rw [← hP])
  have HPQ := Lib.hid (And.intro hP hQ)
  clear hP hQ
  go_wp2_with fail
  refine PA.out.mono ?_
  rintro e w9 ⟨rfl, rfl⟩
  obtain ⟨D, hD1, hD2, hD3, hD4⟩ : ∃ D : Int, (Q : Int) - (P : Int) = D ∧ D = ((Q - P : Nat) : Int) ∧ 0 ≤ D ∧ D ≤ 140737488355328 := ⟨_, rfl, by omega, by omega, by omega⟩
  have HD2 := Lib.hid hD2
  clear hD2
  by_cases hq : D = size
  · have Z := Lib.hid (show Sim (psZ sayP size) xs s (⟨0, wk, 0, 0, 0, []⟩ : Ex) s2 by
      have h := SX.out.Z (k := size)
      rw [← HPQ.out.1, ← HPQ.out.2, ← HD2.out, hq, decide_eq_true rfl] at h
      simp only [Bool.not_true, Bool.or_false] at h
      rw [HPQ.out.2] at h
      exact h)
    have hqf : (D != size) = false := by rw [hq]; simp
    obtain ⟨c0, c1, c2, c3, c4, c5, c6⟩ := Tw5e.out.ex.c
    obtain ⟨d0, d1, d2, d3, d4, d5, d6⟩ := Tw5e.out.res.c
    have f := Tw5e.out.res.fz
    have rl := Tw5e.out.res.lt
    have xl := Tw5e.out.ex.lt
    clear hq
    go_wp2_with fail
    refine bodyPost_ret (results_ex rfl rfl (Tw5e.out.res.put nm ⟨0, wk, 0, 0, 0, []⟩)) rfl ?_
    exact ⟨⟨_, _, rfl, Pen.kept Tw5e.out.pen (grown_put7 (grown_refl _ (some g0)) _ _ _ _ _ _ _) (.inr (Nat.le_trans Tw5e.out.up Tw5e.out.new0)), Z.out⟩, grown_past Tw5e.out.grown (grown_put7 (grown_refl _ (some g0)) _ _ _ _ _ _ _) Tw5e.out.new0⟩
  · have Z := Lib.hid (show Sim (psZ sayP size) xs s (⟨0, wk, 0, 0, 0, []⟩ : Ex) (s2.1, true) by
      have h := SX.out.Z (k := size)
      rw [← HPQ.out.1, ← HPQ.out.2, ← HD2.out, decide_eq_false hq] at h
      simp only [Bool.not_false, Bool.or_true] at h
      rw [← HPQ.out.2]
      exact h)
    have hqf : (D != size) = true := by simpa using hq
    clear hq
    go_wp2_with fail
    refine (pen_fl Tw5e.out.pen).mono ?_
    rintro e wz ⟨rfl, hp, hg⟩
    have TZ := Lib.hid (Tw5e.out.call hp hg)
    clear hp hg
    obtain ⟨c0, c1, c2, c3, c4, c5, c6⟩ := TZ.out.ex.c
    obtain ⟨d0, d1, d2, d3, d4, d5, d6⟩ := TZ.out.res.c
    have f := TZ.out.res.fz
    have rl := TZ.out.res.lt
    have xl := TZ.out.ex.lt
    go_wp2_with fail
    refine bodyPost_ret (results_ex rfl rfl (TZ.out.res.put nm ⟨0, wk, 0, 0, 0, []⟩)) rfl ?_
    exact ⟨⟨_, _, rfl, Pen.kept TZ.out.pen (grown_put7 (grown_refl _ (some g0)) _ _ _ _ _ _ _) (.inr (Nat.le_trans TZ.out.up TZ.out.new0)), Z.out⟩, grown_past TZ.out.grown (grown_put7 (grown_refl _ (some g0)) _ _ _ _ _ _ _) TZ.out.new0⟩
end Go.Proofs.Ytbnnlbdjjpmgeaa


namespace Go.Proofs.Ytbnnlbdjjpmgeaa
open Go.RowKit

theorem psB_some {α β : Type} {f : Ps α} {g : α → Ps β} {l : List Int} {u : β} {n : Nat} (h : psB f g l = some (u, n)) : ∃ v m m', f l = some (v, m) ∧ g v (l.drop m) = some (u, m') ∧ n = m + m' := by
  unfold psB at h
  cases h1 : f l with
  | none => rw [h1] at h; cases h
  | some a =>
    obtain ⟨v, m⟩ := a
    rw [h1] at h
    simp only [] at h
    cases h2 : g v (l.drop m) with
    | none => rw [h2] at h; cases h
    | some b =>
      obtain ⟨u', m'⟩ := b
      rw [h2] at h
      simp only [Option.some.injEq, Prod.mk.injEq] at h
      obtain ⟨rfl, rfl⟩ := h
      exact ⟨v, m, m', rfl, h2, rfl⟩
structure KidOk (k : Kid) : Prop where
  ne : k.1 ≠ []
  len : k.1.length ≤ 255
  byt : Byt k.1
  lo : 0 ≤ k.2
  hi : k.2 < 18446744073709551616
structure KidsOk (l : List Kid) : Prop where
  each : ∀ k ∈ l, KidOk k
  apart : l.Pairwise fun a b => a.1.getD 0 0 ≠ b.1.getD 0 0
theorem KidsOk.nil : KidsOk [] := ⟨fun k h => (by cases h), List.Pairwise.nil⟩
theorem ul_bd {l : List Int} {v : Int} {n : Nat} (h : ulP l = some (v, n)) : 0 ≤ v ∧ v < 18446744073709551616 := by
  unfold ulP at h
  split at h
  · cases h
  · rename_i h0
    injection h with h
    obtain ⟨_, h2, h3⟩ := uleb_size h0
    rw [h] at h2
    simp only [] at h2
    have := valN_bd (l.take (szN 10 l))
    omega
theorem KidsOk.snoc {l : List Kid} (h : KidsOk l) {k : Kid} (hk : KidOk k) (hm : meets k.1 l = false) : KidsOk (l ++ [k]) := by
  refine ⟨fun x hx => ?_, ?_⟩
  · rcases List.mem_append.1 hx with hx | hx
    · exact h.each x hx
    · rw [List.mem_singleton.1 hx]; exact hk
  · rw [List.pairwise_append]
    refine ⟨h.apart, List.pairwise_singleton _ _, fun a ha b hb => ?_⟩
    rw [List.mem_singleton.1 hb]
    unfold meets at hm
    rw [List.any_eq_false] at hm
    have := hm a ha
    simpa using this
theorem kidsP_ok : ∀ (k : Nat) (acc : List Kid) (l : List Int) (r : List Kid) (n : Nat), Byt l → KidsOk acc → kidsP k acc l = some (r, n) → KidsOk r ∧ r.length = acc.length + k := by
  intro k
  induction k with
  | zero =>
    intro acc l r n _ ha h
    injection h with h; injection h with h1 h2; subst h1
    exact ⟨ha, rfl⟩
  | succ k ih =>
    intro acc l r n hb ha h
    obtain ⟨e, m, m', h1, h2, -⟩ := psB_some h
    obtain ⟨pl, j, j', h3, h4, -⟩ := psB_some h2
    split at h4
    · cases h4
    · rename_i hn
      rw [not_or] at hn
      have he : Byt e ∧ e.length ≤ 255 := by
        unfold txP at h1
        split at h1
        · rename_i h0
          injection h1 with h1; injection h1 with h1 _; subst h1
          exact ⟨hb.pre, h0.2⟩
        · cases h1
      have hp := ul_bd h3
      have := ih (acc ++ [(e, pl)]) _ r j' ((hb.drop m).drop j) (ha.snoc ⟨hn.1, he.2, he.1, hp.1, hp.2⟩ (by simpa using hn.2)) h4
      refine ⟨this.1, ?_⟩
      rw [this.2, List.length_append, List.length_singleton]
      omega
structure NdOk (nd : Nd) : Prop where
  kids : KidsOk nd.kids
  few : nd.kids.length ≤ 255
theorem ndAt_some {xs : List Int} {p : Int} {nd : Nd} (h : ndAt xs p = some nd) : 0 ≤ p ∧ p < xs.length ∧ ∃ n, nodeP (xs.drop p.toNat) = some (nd, n) := by
  unfold ndAt at h
  split at h
  · rename_i h0
    cases h1 : nodeP (xs.drop p.toNat) with
    | none => rw [h1] at h; cases h
    | some a =>
      obtain ⟨v, n⟩ := a
      rw [h1] at h
      simp only [Option.map_some, Option.some.injEq] at h
      subst h
      exact ⟨h0.1, h0.2, n, rfl⟩
  · cases h
theorem ndAt_ok {xs : List Int} (hb : Byt xs) {p : Int} {nd : Nd} (h : ndAt xs p = some nd) : NdOk nd := by
  obtain ⟨_, _, n, h1⟩ := ndAt_some h
  obtain ⟨a, m1, m1', _, h2, -⟩ := psB_some h1
  obtain ⟨x, m2, m2', _, h3, -⟩ := psB_some h2
  obtain ⟨m, m3, m3', h4, h5, -⟩ := psB_some h3
  obtain ⟨r, m4, m4', h6, h7, -⟩ := psB_some h5
  injection h7 with h7; injection h7 with h7 _
  have h8 := kidsP_ok _ _ _ _ _ ((((hb.drop _).drop _).drop _).drop _) KidsOk.nil h6
  have hm : 0 ≤ m ∧ m < 256 := by
    have hb2 := (((hb.drop p.toNat).drop m1).drop m2)
    cases hl : ((xs.drop p.toNat).drop m1).drop m2 with
    | nil => rw [hl] at h4; cases h4
    | cons y l =>
      rw [hl] at h4 hb2
      injection h4 with h4; injection h4 with h4 _; subst h4
      exact hb2 _ (List.mem_cons_self ..)
  subst h7
  exact ⟨h8.1, by rw [h8.2]; simp; omega⟩
abbrev Mt (S : Type) := S → List Int → Nd → S × List Kid × Int
section
variable {S : Type}
def visK (rec : List Int → Int → Nat × S → Int × (Nat × S)) (name : List Int) : List Kid → Int → Nat × S → Int × (Nat × S)
  | [], err, st => (err, st)
  | x :: l, _, st => if (rec (name ++ x.1) x.2 st).1 ≠ 0 then rec (name ++ x.1) x.2 st else visK rec name l 0 (rec (name ++ x.1) x.2 st).2
def vis (xs : List Int) (mt : Mt S) : Nat → List Int → List Int → Int → Nat × S → Int × (Nat × S)
  | 0, _, _, _, st => (10, (st.1 + 1, st.2))
  | k + 1, way, name, pl, st =>
    if 255 < name.length then (10, (st.1 + 1, st.2))
    else if pl ∈ way then (12, (st.1 + 1, st.2))
    else if 8192 < st.1 + 1 then (11, (st.1 + 1, st.2))
    else match ndAt xs pl with
      | none => (12, (st.1 + 1, st.2))
      | some nd => visK (vis xs mt k (way ++ [pl])) name (mt st.2 name nd).2.1 (mt st.2 name nd).2.2 (st.1 + 1, (mt st.2 name nd).1)
end
abbrev Out := List (List Int × Ex)
def outN (out : Out) (name : List Int) (nd : Nd) : Out := match nd.ex with
  | none => out
  | some x => out ++ [(name, x)]
def mtAll : Mt Out := fun out name nd => if 4096 < (outN out name nd).length then (outN out name nd, [], 11) else (outN out name nd, nd.kids, 0)
def pfx (e rest : List Int) : Bool := decide (e.length ≤ rest.length) && decide (rest.take e.length = e)
def leadN (l : List Kid) (rest : List Int) : List Kid := match l.find? (fun k => pfx k.1 rest) with
  | none => []
  | some k => [k]
def mtFind (t : List Int) : Mt (Option Ex) := fun own name nd => if t.drop name.length = [] then (nd.ex, [], 0) else (own, leadN nd.kids (t.drop name.length), 0)
def allN (xs : List Int) : Out × Int := if xs = [] then ([], 0) else if (vis xs mtAll 257 [] [] 0 (0, [])).1 ≠ 0 then ([], (vis xs mtAll 257 [] [] 0 (0, [])).1) else ((vis xs mtAll 257 [] [] 0 (0, [])).2.2, 0)
theorem pfx_iff {e r : List Int} : pfx e r = true ↔ ∃ s, r = e ++ s := by
  unfold pfx
  simp only [Bool.and_eq_true, decide_eq_true_eq]
  constructor
  · rintro ⟨_, h⟩
    refine ⟨r.drop e.length, ?_⟩
    have h2 := List.take_append_drop e.length r
    rw [h] at h2
    exact h2.symm
  · rintro ⟨s, rfl⟩
    simp
end Go.Proofs.Ytbnnlbdjjpmgeaa


namespace Go.Proofs.Ytbnnlbdjjpmgeaa
open Go.RowKit

section
variable {S : Type} {rec : List Int → Int → Nat × S → Int × (Nat × S)} {name : List Int} {st st' : Nat × S}
theorem visK_cons {x : Kid} {l : List Kid} {e : Int} (h : visK rec name (x :: l) e st = (0, st')) : ∃ st1, rec (name ++ x.1) x.2 st = (0, st1) ∧ visK rec name l 0 st1 = (0, st') := by
  unfold visK at h
  by_cases h0 : (rec (name ++ x.1) x.2 st).1 = 0
  · rw [if_neg (by simp [h0])] at h
    exact ⟨_, by rw [← h0], h⟩
  · rw [if_pos h0] at h
    rw [h] at h0
    exact absurd rfl h0
end
def Named (t : List Int) (l : Out) : Option (List Int × Ex) := l.find? fun y => decide (y.1 = t)
theorem named_app (t : List Int) (a b : Out) (h : ∀ y ∈ a, y.1 ≠ t) : Named t (a ++ b) = Named t b := by
  unfold Named
  rw [List.find?_append, List.find?_eq_none.2 (fun y hy => by simpa using h y hy)]
  rfl
theorem named_front (t : List Int) (a b : Out) (h : ∀ y ∈ b, y.1 ≠ t) : Named t (a ++ b) = Named t a := by
  have hb : b.find? (fun y => decide (y.1 = t)) = none := List.find?_eq_none.2 (fun y hy => by simpa using h y hy)
  unfold Named
  rw [List.find?_append, hb]
  cases List.find? (fun y => decide (y.1 = t)) a <;> rfl
theorem first_eq {e e' s s' : List Int} (h : e ++ s = e' ++ s') (he : e ≠ []) (he' : e' ≠ []) : e.getD 0 0 = e'.getD 0 0 := by
  cases e with
  | nil => exact absurd rfl he
  | cons x e =>
    cases e' with
    | nil => exact absurd rfl he'
    | cons y e' =>
      simp only [List.cons_append, List.cons.injEq] at h
      simp [h.1]
structure Adds (name : List Int) (out out' new : Out) : Prop where
  eq : out' = out ++ new
  pre : ∀ y ∈ new, ∃ s, y.1 = name ++ s
  once : new.Pairwise fun a b => a.1 ≠ b.1
section
variable {xs : List Int}
theorem visK_all {rec : List Int → Int → Nat × Out → Int × (Nat × Out)} (name : List Int)
    (IH : ∀ nm pl m out m' out', rec nm pl (m, out) = (0, (m', out')) → ∃ new, Adds nm out out' new) :
    ∀ (l : List Kid), KidsOk l → ∀ m out m' out', visK rec name l 0 (m, out) = (0, (m', out')) → ∃ new, Adds name out out' new ∧ (∀ y ∈ new, ∃ k ∈ l, ∃ s, y.1 = name ++ (k.1 ++ s)) ∧
      ∀ rest : List Int, (l.find? (fun k => pfx k.1 rest) = none ∧ Named (name ++ rest) new = none) ∨
        ∃ k, l.find? (fun k => pfx k.1 rest) = some k ∧ ∃ mi oi mi' oi' ni, rec (name ++ k.1) k.2 (mi, oi) = (0, (mi', oi')) ∧ Adds (name ++ k.1) oi oi' ni ∧ Named (name ++ rest) new = Named (name ++ rest) ni := by
  intro l
  induction l with
  | nil =>
    intro _ m out m' out' h
    simp only [visK, Prod.mk.injEq, true_and] at h
    exact ⟨[], ⟨(by rw [List.append_nil]; exact h.2.symm), fun y hy => (by cases hy), List.Pairwise.nil⟩, fun y hy => (by cases hy), fun rest => .inl ⟨rfl, rfl⟩⟩
  | cons x l ih =>
    intro hk m out m' out' h
    obtain ⟨⟨m1, o1⟩, h1, h2⟩ := visK_cons h
    obtain ⟨n1, A1⟩ := IH _ _ _ _ _ _ h1
    have hx := hk.each x (List.mem_cons_self ..)
    have hp := List.pairwise_cons.1 hk.apart
    obtain ⟨n2, A2, P2, F2⟩ := ih ⟨fun k hk' => hk.each k (List.mem_cons_of_mem _ hk'), hp.2⟩ _ _ _ _ h2
    have hmem1 : ∀ y ∈ n1, ∃ s, y.1 = name ++ (x.1 ++ s) := fun y hy => by
      obtain ⟨s, e⟩ := A1.pre y hy
      exact ⟨s, by rw [e, List.append_assoc]⟩
    refine ⟨n1 ++ n2, ⟨by rw [A2.eq, A1.eq, List.append_assoc], ?_, ?_⟩, ?_, ?_⟩
    · intro y hy
      rcases List.mem_append.1 hy with hy | hy
      · obtain ⟨s, e⟩ := hmem1 y hy; exact ⟨_, e⟩
      · exact A2.pre y hy
    · rw [List.pairwise_append]
      refine ⟨A1.once, A2.once, fun a ha b hb e => ?_⟩
      obtain ⟨s, e1⟩ := hmem1 a ha
      obtain ⟨k, hkl, s', e2⟩ := P2 b hb
      rw [e1, e2] at e
      have := List.append_cancel_left e
      exact hp.1 k hkl (first_eq this hx.ne (hk.each k (List.mem_cons_of_mem _ hkl)).ne)
    · intro y hy
      rcases List.mem_append.1 hy with hy | hy
      · obtain ⟨s, e⟩ := hmem1 y hy
        exact ⟨x, List.mem_cons_self .., s, e⟩
      · obtain ⟨k, hkl, s', e2⟩ := P2 y hy
        exact ⟨k, List.mem_cons_of_mem _ hkl, s', e2⟩
    · intro rest
      by_cases hpx : pfx x.1 rest = true
      · refine .inr ⟨x, List.find?_cons_of_pos (p := fun k : Kid => pfx k.1 rest) hpx, m, out, m1, o1, n1, h1, A1, ?_⟩
        refine named_front _ _ _ fun y hy e => ?_
        obtain ⟨k, hkl, s', e2⟩ := P2 y hy
        rw [e2] at e
        have e3 := List.append_cancel_left e
        obtain ⟨s, e4⟩ := pfx_iff.1 hpx
        rw [e4] at e3
        exact hp.1 k hkl (first_eq e3 (hk.each k (List.mem_cons_of_mem _ hkl)).ne hx.ne).symm
      · have hn : Named (name ++ rest) (n1 ++ n2) = Named (name ++ rest) n2 := by
          refine named_app _ _ _ fun y hy e => ?_
          obtain ⟨s, e1⟩ := hmem1 y hy
          rw [e1] at e
          exact hpx (pfx_iff.2 ⟨s, (List.append_cancel_left e).symm⟩)
        rw [hn, List.find?_cons_of_neg (p := fun k : Kid => pfx k.1 rest) hpx]
        exact F2 rest
theorem outN_adds (out : Out) (name : List Int) (nd : Nd) : ∃ own, outN out name nd = out ++ own ∧ (own = [] ∧ nd.ex = none ∨ ∃ x, own = [(name, x)] ∧ nd.ex = some x) := by
  unfold outN
  cases nd.ex with
  | none => exact ⟨[], by simp, .inl ⟨rfl, rfl⟩⟩
  | some x => exact ⟨[(name, x)], rfl, .inr ⟨x, rfl, rfl⟩⟩
theorem vis_all (hb : Byt xs) : ∀ (k : Nat) (way name : List Int) (pl : Int) (m : Nat) (out : Out) (m' : Nat) (out' : Out), vis xs mtAll k way name pl (m, out) = (0, (m', out')) →
    ∃ new, Adds name out out' new ∧ ∀ (rest : List Int) (j : Nat), (name ++ rest).length ≤ 255 → j ≤ name.length → ∃ j', vis xs (mtFind (name ++ rest)) k way name pl (j, none) = (0, (j', (Named (name ++ rest) new).map (·.2))) := by
  intro k
  induction k with
  | zero => intro way name pl m out m' out' h; simp [vis] at h
  | succ k ih =>
    intro way name pl m out m' out' h
    unfold vis at h
    split at h
    · simp at h
    rename_i c1
    split at h
    · simp at h
    rename_i c2
    split at h
    · simp at h
    rename_i c3
    cases hnd : ndAt xs pl with
    | none => rw [hnd] at h; simp at h
    | some nd =>
      rw [hnd] at h
      have hok := ndAt_ok hb hnd
      simp only [] at h
      by_cases c4 : 4096 < (outN out name nd).length
      · have e : mtAll out name nd = (outN out name nd, [], 11) := if_pos c4
        rw [e] at h
        simp [visK] at h
      have em : mtAll out name nd = (outN out name nd, nd.kids, 0) := if_neg c4
      rw [em] at h
      simp only [] at h
      obtain ⟨own, eo, ho⟩ := outN_adds out name nd
      obtain ⟨n2, A2, P2, F2⟩ := visK_all (rec := vis xs mtAll k (way ++ [pl])) name (fun nm p m out m' out' h => (ih (way ++ [pl]) nm p m out m' out' h).imp fun _ h => h.1) nd.kids hok.kids _ _ _ _ h
      have hne : ∀ y ∈ n2, ∃ z s, y.1 = name ++ (z :: s) := fun y hy => by
        obtain ⟨k, hk, s, e⟩ := P2 y hy
        have hk' := (hok.kids.each k hk).ne
        cases hk1 : k.1 with
        | nil => exact absurd hk1 hk'
        | cons z e' => exact ⟨z, e' ++ s, by rw [e, hk1]; rfl⟩
      refine ⟨own ++ n2, ⟨by rw [A2.eq, eo, List.append_assoc], ?_, ?_⟩, ?_⟩
      · intro y hy
        rcases List.mem_append.1 hy with hy | hy
        · rcases ho with ⟨rfl, _⟩ | ⟨x, rfl, _⟩
          · cases hy
          · rw [List.mem_singleton.1 hy]; exact ⟨[], by simp⟩
        · exact A2.pre y hy
      · rw [List.pairwise_append]
        refine ⟨?_, A2.once, fun a ha b hb2 e => ?_⟩
        · rcases ho with ⟨rfl, _⟩ | ⟨x, rfl, _⟩
          · exact List.Pairwise.nil
          · exact List.pairwise_singleton _ _
        · rcases ho with ⟨rfl, _⟩ | ⟨x, rfl, _⟩
          · cases ha
          · rw [List.mem_singleton.1 ha] at e
            obtain ⟨z, s, e2⟩ := hne b hb2
            rw [e2] at e
            simp at e
      · intro rest j hl hj
        have hlen : name.length + rest.length ≤ 255 := by rwa [List.length_append] at hl
        have hd : (name ++ rest).drop name.length = rest := by simp
        have hstep : vis xs (mtFind (name ++ rest)) (k + 1) way name pl (j, none) = visK (vis xs (mtFind (name ++ rest)) k (way ++ [pl])) name (mtFind (name ++ rest) none name nd).2.1 (mtFind (name ++ rest) none name nd).2.2 (j + 1, (mtFind (name ++ rest) none name nd).1) := by
          conv => lhs; unfold vis
          rw [if_neg c1, if_neg c2, if_neg (by simp only []; omega), hnd]
        rw [hstep]
        by_cases hr : rest = []
        · have e : mtFind (name ++ rest) none name nd = (nd.ex, [], 0) := if_pos (hd.trans hr)
          rw [e]
          subst hr
          simp only [visK, List.append_nil]
          have e : Named name (own ++ n2) = Named name own := named_front _ _ _ fun y hy e => by
            obtain ⟨z, s, e2⟩ := hne y hy
            rw [e2] at e
            simp at e
          refine ⟨j + 1, ?_⟩
          rw [e]
          rcases ho with ⟨rfl, hx⟩ | ⟨x, rfl, hx⟩
          · rw [hx]; rfl
          · rw [hx]; simp [Named]
        · have ef : mtFind (name ++ rest) none name nd = (none, leadN nd.kids rest, 0) := by
            unfold mtFind
            rw [hd, if_neg hr]
          rw [ef]
          have e : Named (name ++ rest) (own ++ n2) = Named (name ++ rest) n2 := named_app _ _ _ fun y hy e => by
            rcases ho with ⟨rfl, _⟩ | ⟨x, rfl, _⟩
            · cases hy
            · rw [List.mem_singleton.1 hy] at e
              exact hr (by simpa using e.symm)
          rw [e]
          simp only []
          unfold leadN
          rcases F2 rest with ⟨f1, f2⟩ | ⟨kd, f1, mi, oi, mi', oi', ni, f3, f4, f5⟩
          · rw [f1, f2]
            exact ⟨j + 1, rfl⟩
          · rw [f1, f5]
            simp only [visK]
            obtain ⟨s, hs⟩ := pfx_iff.1 (List.find?_some (p := fun k : Kid => pfx k.1 rest) f1)
            have hkd := hok.kids.each kd (List.mem_of_find?_eq_some f1)
            obtain ⟨ni', A', G'⟩ := ih (way ++ [pl]) (name ++ kd.1) kd.2 mi oi mi' oi' f3
            have en : ni' = ni := by
              have := A'.eq.symm.trans f4.eq
              exact List.append_cancel_left this
            subst en
            have hk1 : 1 ≤ kd.1.length := by
              cases hk : kd.1 with
              | nil => exact absurd hk hkd.ne
              | cons z e' => simp
            have hname : name ++ rest = (name ++ kd.1) ++ s := by rw [hs, List.append_assoc]
            obtain ⟨j', hj'⟩ := G' s (j + 1) (by rw [← hname]; exact hl) (by rw [List.length_append]; omega)
            rw [← hname] at hj'
            exact ⟨j', by rw [hj']; rfl⟩
end
end Go.Proofs.Ytbnnlbdjjpmgeaa

