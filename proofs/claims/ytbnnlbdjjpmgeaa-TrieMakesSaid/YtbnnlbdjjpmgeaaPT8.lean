/- Parts of the proof, put together: MkN, AppS, Row, MkY, MkSay, MkZ, MkS, MkT, MkL. No condition beyond those that each part names. -/
import Derived.Shelf.Small.Bits
import Derived.Shelf.Small.Strs
import Derived.Shelf.Strconv.Itoa0
import Derived.Shelf.Strings.Search1
import Derived.Shelf.Bytes.SlIndexAt
import Derived.Shelf.Bytes.SlSearch0
import Derived.Ground.SlbCloneProg
import Derived.Shelf.Bytes.SlClone
import Derived.Shelf.Bytes.IndexByte
import Derived.Test.YtbnnlbdjjpmgeaaProg
import Derived.Test.YtbnnlbdjjpmgeaaRows
import Derived.WalkKit
import Derived.WalkSpells
import Derived.WalkLawsBesides
import Derived.BigQuiet
import Derived.Deep.QuietTactic
import Derived.Lib.Hide
import Derived.IntWalk
import Derived.OneCell
import Derived.Laws.Rows
import Derived.OpenShut
import Derived.ProofKit
import Derived.Lib.EndianBits
import Derived.RegionTactic
import Derived.ChangeAlike
import Derived.WalkMore
import Derived.Laws.BytesArg
import Derived.Shelf.Bytes.SlEqualAll
import Derived.Lib.SlFresh
import Derived.Maps.AppendAt
import Derived.Deep.AppendSrc
import Derived.Deep.Upon
import Derived.Lib.AppendZeros
import Derived.Laws.IdiomStrings
import Derived.Lib.AppendZerosOnto
import Derived.Laws.StructEq
import Derived.Below
import Derived.Shelf.Abstract
import Derived.Laws.ResultCell
import Derived.Deep.Slices
import Derived.ChangeSame
import Derived.Laws.OwnMore
import Derived.Laws.Slices
import Derived.Lib.ConvBytes
import Derived.StringKeys
import Derived.Maps.Own
import Derived.Maps.OwnOps
import Derived.Maps.OwnSet
import Derived.WideShapes
import Derived.Deep.Cut
import Derived.Deep.CutRange
import Derived.PlainAid
import Derived.Lib.SlBytesRow
import Derived.Deep.Onto
import Derived.Laws.EntriesVeiled
import Derived.Shelf.SlSortCmp.WholeK
import Derived.Shelf.SlGeneric
import Derived.Ground.SlsfProg
import Derived.Deep.LoopGhost
import Derived.StillTailTactics
import Derived.Deep.RegionWith
import Derived.Deep.RegionHeld3
import Derived.Lib.SmallJoins
import Derived.Laws.Bits128
import Derived.RangeFuncNested
import Derived.RangeFuncBound
import Derived.RangeFuncCalls
import Derived.Shelf.RegionOpen
import Derived.OwnWalkIn
import Derived.TacticsInMore
import Derived.RangeFuncIn
import Derived.RangeFuncLeaves
import Derived.Maps.OwnIn
import Derived.Laws.MakeOwn
import Derived.Deep.RegionLaw
import Derived.Test.YtbnnlbdjjpmgeaaPT2
import Derived.Test.YtbnnlbdjjpmgeaaPT3
import Derived.Test.YtbnnlbdjjpmgeaaPT4
import Derived.Test.YtbnnlbdjjpmgeaaPT5
import Derived.Test.YtbnnlbdjjpmgeaaPT6
import Derived.Test.YtbnnlbdjjpmgeaaPT7
namespace Go.Proofs.Ytbnnlbdjjpmgeaa
open Go.RowKit
variable {w w' W V : World}

structure BOut (w w' : World) (all : List Int) (e : Ending) : Prop where
  ex : ∃ q c, e = .returned (.slice q all.length c) ∧ w'.ownsRow w.heap.size 5 1 (.slice q all.length c) all.length (all.map (Value.int .u8))
  grown : w.grownBy w' none
theorem put_out {n : Nat} (hn : n < 18446744073709551616) (w : World) : Calls Try.prog 38 #[.int .u64 n] w fun e w' => BOut w w' (encU n) e :=
  (putU_any n hn w).mono fun _ _ h => ⟨h.1, grown_below h.2 none⟩
theorem refput_out {n : Nat} (hn : n < 18446744073709551616) (w : World) : Calls Try.prog 25 #[.int .u64 n] w fun e w' => BOut w w' (encU n) e :=
  (refput_any (n + 1) n (by omega) hn w).mono fun _ _ h => ⟨h.1, grown_below h.2 none⟩
def numsB (l : List Int) : List Int := l.flatMap fun x => encU x.toNat
theorem nums_len (l : List Int) (h : ∀ x ∈ l, x < 18446744073709551616) : (numsB l).length ≤ 10 * l.length := by
  induction l with
  | nil => simp [numsB]
  | cons x l ih =>
    unfold numsB at ih ⊢
    rw [List.flatMap_cons, List.length_append, List.length_cons]
    have h1 := encU_10 x.toNat (by have := h x (List.mem_cons_self ..); omega)
    have h2 := ih (fun y hy => h y (List.mem_cons_of_mem _ hy))
    omega
theorem nums_take (l : List Int) {i : Nat} {x : Int} (h : l[i]? = some x) : numsB (l.take (i + 1)) = numsB (l.take i) ++ encU x.toNat := by
  obtain ⟨hi, e⟩ := List.getElem?_eq_some_iff.1 h
  rw [List.take_succ_eq_append_getElem hi, e]
  unfold numsB
  rw [List.flatMap_append, List.flatMap_singleton]
set_option maxRecDepth 20000 in
set_option maxHeartbeats 1600000 in
theorem numbers_any (l : List Int) (n : Nat) (hn : l.length = n) (hb : ∀ x ∈ l, 0 ≤ x ∧ x < 18446744073709551616) (hfew : n ≤ 1000) (q : Option Addr) (c : Nat) (hr : U64At w q l) :
    Calls Try.prog 56 #[.slice q n c] w fun e w' => BOut w w' (numsB l) e := by
  subst hn
  have HB := Lib.hid hb
  have RR := Lib.hid hr
  have HLEN := Lib.hid (fun i => (show (numsB (l.take i)).length ≤ 10000 from by
    have := nums_len (l.take i) (fun x hx => (hb x (List.mem_of_mem_take hx)).2)
    rw [List.length_take] at this
    omega))
  clear hb hr
  go_enter Try.func56, Try.ntmps56
  go_wp2
  go_loopw [3, 8] (fun vb vi wl => ∃ (i : Nat) (q' : Option Addr) (c' : Nat), i ≤ l.length ∧ vi = .int .i64 i ∧ vb = .slice q' (numsB (l.take i)).length c' ∧ wl.ownsRow w.heap.size 5 1 (.slice q' (numsB (l.take i)).length c') (numsB (l.take i)).length ((numsB (l.take i)).map (Value.int .u8)) ∧ w.grownBy wl none) (fun _ vi _ => l.length - (intOf vi).toNat)
  case atStart => exact ⟨0, none, 0, Nat.zero_le _, rfl, rfl, World.ownsRow_nil _ _ _ _, grown_refl _ _⟩
  case round =>
    obtain ⟨i, q', c', hi, rfl, rfl, ho, hg⟩ := hrel
    have G := Lib.hid hg
    have O := Lib.hid ho
    have L1 := HLEN.out i
    by_cases hlt : i < l.length
    · obtain ⟨x, hx⟩ : ∃ x, l[i]? = some x := ⟨_, List.getElem?_eq_getElem hlt⟩
      have hxb := HB.out x (List.mem_of_getElem? hx)
      have hu : U64At wr q l := fun j y hy => by
        obtain ⟨g, e, h0⟩ := RR.out j y hy
        exact ⟨g, e, grown_cell hg h0⟩
      obtain ⟨gq, rfl, c0⟩ := hu i x hx
      have dl : decide ((i : Int) < (l.length : Int)) = true := by simp; omega
      have hil : (i : Int) < (l.length : Int) := by omega
      obtain ⟨m, hm⟩ : ∃ m : Nat, x = (m : Int) := ⟨x.toNat, by omega⟩
      subst hm
      have hm64 : m < 18446744073709551616 := by omega
      have PT := Lib.hid (put_out (n := m) hm64 wr)
      have NX := Lib.hid (nums_take l hx)
      rw [Int.toNat_natCast] at NX
      obtain ⟨B, hB⟩ : ∃ B, B = numsB (l.take i) := ⟨_, rfl⟩
      rw [← hB] at NX O L1 ⊢
      clear hB hx hxb hu ho hg
      go_wp2_with fail
      refine PT.out.mono ?_
      rintro e w2 ⟨⟨q2, c2, rfl, ho2⟩, hg2⟩
      have O2 := Lib.hid (own_grown O.out hg2)
      have IB := Lib.hid (IsBytes.of_own rfl ho2)
      have G2 := Lib.hid (grown_trans G.out hg2)
      have hl2 : (encU m).length ≤ 10 := encU_10 m hm64
      clear ho2 hg2 PT O
      go_wp2_with (at_builtin; refine wp_append_at rfl _ _ rfl rfl _ B.length _ rfl O2.out (encU m) (encU m).length rfl rfl IB.out (by omega) G2.out.size ?_)
      intro v3 w3 ho3 hg3 hv3
      have G3 := Lib.hid (grown_opt G2.out hg3 (fun g e => (O2.out.lt g e).1))
      obtain ⟨q3, c3, rfl⟩ := own_slice ho3
      have O3 := Lib.hid (show w3.ownsRow w.heap.size 5 1 (.slice q3 (numsB (l.take (i + 1))).length c3) (numsB (l.take (i + 1))).length ((numsB (l.take (i + 1))).map (Value.int .u8)) from by
        rw [NX.out, List.length_append, List.map_append]
        exact ho3)
      have hl3 : (numsB (l.take (i + 1))).length = B.length + (encU m).length := by rw [NX.out, List.length_append]
      have HL3 := Lib.hid hl3
      clear ho3 hg3 hv3 O2 hl3
      go_wp2
      go_roundw
      case rel => exact ⟨i + 1, q3, c3, hlt, by go_num, by rw [HL3.out], O3.out, G3.out⟩
      case measure => simp [intOf]; omega
    · have dl : decide ((i : Int) < (l.length : Int)) = false := by simp; omega
      have dl2 : decide (i < l.length) = false := by simp; omega
      have hil : i = l.length := by omega
      have F := Lib.hid (show BOut w wr (numsB l) (.returned (.slice q' (numsB (l.take i)).length c')) from by
        rw [hil, List.take_length] at ho ⊢
        exact ⟨⟨q', c', rfl, ho⟩, hg⟩)
      obtain ⟨bl, hbl⟩ : ∃ bl, bl = (numsB (l.take i)).length := ⟨_, rfl⟩
      rw [← hbl] at F ⊢
      clear ho hg hil hlt O hbl L1
      go_wp2
      go_ret
      exact F.out
end Go.Proofs.Ytbnnlbdjjpmgeaa


namespace Go.Proofs.Ytbnnlbdjjpmgeaa
open Go.RowKit
variable {w : World} {base : Nat}

theorem byteCells_nums {l : List Int} (h : Byt l) : byteCells (strOfNums l) = l.map (Value.int .u8) := by
  unfold byteCells
  rw [strOfNums_data, List.map_map]
  apply List.map_congr_left
  intro x hx
  have := h x hx
  simp only [Function.comp, UInt8.toNat_ofNat']
  congr 1
  omega
set_option maxRecDepth 20000 in
theorem run_append_own_str (v : Value) (n : Nat) (xs : List Value) (hown : w.ownsRow base 5 1 v n xs) (s : ByteArray) (hbytes : n + s.size ≤ 140737488355328) (hbase : base ≤ w.heap.size) :
    ∃ v' w', (Builtin.append_ #[25, 9] 25 #[v, .string s]).run Try.prog w = .ok v' w' ∧ w'.ownsRow base 5 1 v' (n + s.size) (xs ++ byteCells s) ∧ w.grownBy w' v.ownBlock ∧ (v'.ownBlock = v.ownBlock ∨ v'.ownBlock = some w.heap.size) := by
  obtain ⟨i, hi, hz, hs, hb⟩ := info_parts info_u8
  have hu := Try.underlying25
  have hk := Try.underlying9
  have SRC : Src Try.prog i.size 9 (.string s) s.size (byteCells s) w := by rw [hs]; exact Src.ofString w hk s
  have hl : (byteCells s).length = s.size * 1 := by rw [byteCells_length, Nat.mul_one]
  have hlen : (xs ++ byteCells s).length = (n + s.size) * 1 := by rw [List.length_append, hown.1, hl, Nat.add_mul]
  have grown : ∀ (old : Nat), old < n + s.size → ∀ (row : Option Nat),
      (w.drew.alloc (.cells ((xs ++ byteCells s).toArray ++ Builtin.zeroCells (Value.int .u8 0).cells (grownCap w (n + s.size) old 5 - (n + s.size))) 5)).ownsRow base 5 1
        (.slice (some ⟨w.heap.size, 0, none⟩) (n + s.size) (grownCap w (n + s.size) old 5)) (n + s.size) (xs ++ byteCells s) ∧
      w.grownBy (w.drew.alloc (.cells ((xs ++ byteCells s).toArray ++ Builtin.zeroCells (Value.int .u8 0).cells (grownCap w (n + s.size) old 5 - (n + s.size))) 5)) row := by
    intro old ho row
    have hge := grownCap_ge w (n + s.size) old 5
    have hcm : grownCap w (n + s.size) old 5 ≤ maxLen := grownCap_le_maxLen w (n + s.size) old 5 (by unfold maxLen; omega)
    refine ⟨⟨hlen, .inr ⟨w.heap.size, _, _, rfl, hbase, heap_alloc_new w.drew _, hge, hcm, ?_, ?_⟩⟩, ⟨rfl, rfl, rfl, by simp, fun k hk _ => Go.heap_alloc_old w.drew _ hk⟩⟩
    · rw [Array.size_append, size_zeroCells, List.size_toArray, hlen]
      show (n + s.size) * 1 + _ * 1 = _
      omega
    · rw [Array.toList_append, ← hlen]
      exact List.take_left
  rcases hown.2 with ⟨rfl, rfl⟩ | ⟨g, cap, cur, rfl, hbg, hg, hnc, hcm, hcs, htake⟩
  · have hx : xs = [] := List.eq_nil_of_length_eq_zero (by simpa using hown.1)
    subst hx
    by_cases hm : s.size = 0
    · have hn : byteCells s = [] := List.eq_nil_of_length_eq_zero (by rw [hl, hm])
      refine ⟨.slice none 0 0, w, ?_, by rw [hn, hm]; exact World.ownsRow_nil w base _ _, grown_refl w _, .inl rfl⟩
      have h2 := SRC.cells
      rw [hn, hs, hm] at h2
      simp [Builtin.append_, run_underlying hu, run_underlying hk, sizeOf, typeInfo, hi, SRC.len, hs, hm, h2, Result.andThen]
    · have hr := run_append_grow_src (P := Try.prog) w 25 9 25 5 i (.int .u8 0) hu hi hz none 0 0 [] (run_firstCells_none w.drew i.size 0 0 0) (.string s) s.size (byteCells s) SRC (by omega) (by omega) (by rw [hb]; exact growslice_fits (by omega) (by omega))
      have hgr := grown 0 (by omega) (Value.ownBlock (.slice none 0 0))
      simp only [Nat.zero_add, List.nil_append] at hr hgr ⊢
      exact ⟨_, _, hr, hgr.1, hgr.2, .inr rfl⟩
  · by_cases hroom : n + s.size ≤ cap
    · have hfit : n * 1 + (byteCells s).length ≤ cur.size := by rw [hl, hcs, ← Nat.add_mul]; exact Nat.mul_le_mul_right _ hroom
      have hst := run_storeCells_at Try.prog g (n * 1) 5 (byteCells s) 0 cur w hg (by simpa using hfit) SRC.one
      simp only [Nat.add_zero, Nat.mul_one] at hst
      have hr : (Builtin.append_ #[25, 9] 25 #[.slice (some ⟨g, 0, none⟩) n cap, .string s]).run Try.prog w =
          .ok (.slice (some ⟨g, 0, none⟩) (n + s.size) cap) (w.setRow g (cur.toList.take (n * 1) ++ byteCells s ++ cur.toList.drop (n * 1 + (byteCells s).length)).toArray) := by
        have h2 := SRC.cells
        rw [hs] at h2
        simp [Builtin.append_, run_underlying hu, run_underlying hk, sizeOf, typeInfo, hi, hs, SRC.len, hroom, h2, Addr.add_lit, hst]
      refine ⟨_, _, hr, ⟨hlen, .inr ⟨g, cap, _, rfl, hbg, setRow_heap w g cur _ _ _ hg, hroom, hcm, ?_, ?_⟩⟩, ⟨rfl, rfl, rfl, by simp, fun k _ hk => setRow_other w g k _ (fun e => hk (by simp [Value.ownBlock, e]))⟩, .inl rfl⟩
      · simp only [List.size_toArray, List.length_append, List.length_take, List.length_drop, Array.length_toList]
        omega
      · rw [htake, ← hlen]
        exact List.take_left
    · have holds : ∀ j u, xs[j]? = some u → w.cell? ((⟨g, 0, none⟩ : Addr).add j) = some u := hown.cells (g := g) rfl
      have hold : (Builtin.firstCells i.size n (.slice (some ⟨g, 0, none⟩) n cap)).run Try.prog w.drew = .ok xs.toArray w.drew :=
        run_firstCells_some w.drew i.size n ⟨g, 0, none⟩ n cap xs (by rw [hs]; exact hown.1) (by simpa using holds)
      have hr := run_append_grow_src (P := Try.prog) w 25 9 25 5 i (.int .u8 0) hu hi hz (some ⟨g, 0, none⟩) n cap xs hold (.string s) s.size (byteCells s) SRC (by omega) (by omega) (by rw [hb]; exact growslice_fits (by omega) (by omega))
      have hgr := grown cap (by omega) (Value.ownBlock (.slice (some ⟨g, 0, none⟩) n cap))
      exact ⟨_, _, hr, hgr.1, hgr.2, .inr rfl⟩
theorem wp_append_str {ops : Array Oper} {rest : List Oper} {o : Oper} {a : Act} {Q : Exit → Act → World → Prop} (hgd : o.guard = none) (s x : Operand)
    (ho : o.op = .call { callee := .builtin .append, args := #[s, x], argTypes := #[25, 9] }) (hty : o.type = 25)
    (v : Value) (n : Nat) (xs : List Value) (hs : a.eval s = v) (hown : w.ownsRow base 5 1 v n xs) (l : List Int) (hb : Byt l) (hx : a.eval x = .string (strOfNums l))
    (h63 : n + l.length ≤ 140737488355328) (hbase : base ≤ w.heap.size)
    (h : ∀ v' w', w'.ownsRow base 5 1 v' (n + l.length) (xs ++ l.map (Value.int .u8)) → w.grownBy w' v.ownBlock → (v'.ownBlock = v.ownBlock ∨ v'.ownBlock = some w.heap.size) → wpList Try.prog ops Q rest (a.put o.dst v') w') : wpList Try.prog ops Q (o :: rest) a w := by
  refine wpList_plain hgd fun K hK => ?_
  obtain ⟨v', w', hr, h2, h3, h5⟩ := run_append_own_str v n xs hown (strOfNums l) (by rw [strOfNums_size]; exact h63) hbase
  rw [strOfNums_size, byteCells_nums hb] at h2
  rw [← hty] at hr
  unfold Oper.wp execOp
  simp only [ho, resolve, invoke, builtin, Sem.run_bind, Sem.run_pure, Result.andThen_ok, List.map_toArray, List.map_cons, List.map_nil, hs, hx]
  rw [hty] at hr ⊢
  simp only [hr]
  exact hK _ _ (h v' w' h2 h3 h5)
theorem step_append_str {ops : Array Oper} {o : Oper} {a : Act} {K : Act → World → Prop} {Q : Exit → Act → World → Prop} {E : Prop} (hgd : o.guard = none) (s x : Operand)
    (ho : o.op = .call { callee := .builtin .append, args := #[s, x], argTypes := #[25, 9] }) (hty : o.type = 25)
    (v : Value) (n : Nat) (xs : List Value) (hs : a.eval s = v) (hown : w.ownsRow base 5 1 v n xs) (l : List Int) (hb : Byt l) (hx : a.eval x = .string (strOfNums l))
    (h63 : n + l.length ≤ 140737488355328) (hbase : base ≤ w.heap.size)
    (h : ∀ v' w', w'.ownsRow base 5 1 v' (n + l.length) (xs ++ l.map (Value.int .u8)) → w.grownBy w' v.ownBlock → (v'.ownBlock = v.ownBlock ∨ v'.ownBlock = some w.heap.size) → K (a.put o.dst v') w') :
    if Region.wanted o (yielded ops a.tmps) = true then Oper.wp Try.prog o a w K Q else E := by
  have hw : Region.wanted o (yielded ops a.tmps) = true := by simp [Region.wanted, hgd]
  rw [if_pos hw]
  obtain ⟨v', w', hr, h2, h3, h5⟩ := run_append_own_str v n xs hown (strOfNums l) (by rw [strOfNums_size]; exact h63) hbase
  rw [strOfNums_size, byteCells_nums hb] at h2
  rw [← hty] at hr
  unfold Oper.wp execOp
  simp only [ho, resolve, invoke, builtin, Sem.run_bind, Sem.run_pure, Result.andThen_ok, List.map_toArray, List.map_cons, List.map_nil, hs, hx]
  rw [hty] at hr ⊢
  simp only [hr]
  exact h v' w' h2 h3 h5
end Go.Proofs.Ytbnnlbdjjpmgeaa


namespace Go.Proofs.Ytbnnlbdjjpmgeaa
open Go.RowKit
variable {w w0 w1 w2 w' : World} {base : Nat} {v v1 v2 v' va vb va' : Value} {xs ys A A' C : List Int}

theorem own_cap {base n c : Nat} {q : Option Addr} {T : TypeId} {k : Nat} {l : List Value} (h : w.ownsRow base T k (.slice q n c) n l) : n ≤ c ∧ c ≤ 9223372036854775807 := by
  rcases h.2 with ⟨e, h0⟩ | ⟨g, cap, cur, e, _, _, hle, hm, _⟩
  · injection e with _ e2 e3
    omega
  · injection e with _ e2 e3
    subst e3
    unfold maxLen at hm
    omega
structure RowTo (w w' : World) (base : Nat) (v v' : Value) (xs : List Int) : Prop where
  own : w'.ownsRow base 5 1 v' xs.length (xs.map (Value.int .u8))
  grown : w.grownBy w' v.ownBlock
  lies : v'.ownBlock = v.ownBlock ∨ ∃ b, v'.ownBlock = some b ∧ w.heap.size ≤ b
theorem RowTo.refl (h : w.ownsRow base 5 1 v xs.length (xs.map (Value.int .u8))) : RowTo w w base v v xs := ⟨h, grown_refl _ _, .inl rfl⟩
theorem RowTo.trans (h : RowTo w w1 base v v1 xs) (k : RowTo w1 w2 base v1 v2 ys) : RowTo w w2 base v v2 ys := by
  refine ⟨k.own, ⟨k.grown.os.trans h.grown.os, k.grown.tape.trans h.grown.tape, k.grown.output.trans h.grown.output, Nat.le_trans h.grown.size k.grown.size, fun i hi hr => ?_⟩, ?_⟩
  · refine (k.grown.block i (Nat.lt_of_lt_of_le hi h.grown.size) (fun e => ?_)).trans (h.grown.block i hi hr)
    rcases h.lies with hl | ⟨b, hl, hb⟩
    · exact hr (by rw [← hl]; exact e)
    · rw [hl] at e; injection e with e; omega
  · rcases k.lies with kl | ⟨b, kl, hb⟩
    · rcases h.lies with hl | ⟨b, hl, hb⟩
      · exact .inl (kl.trans hl)
      · exact .inr ⟨b, kl.trans hl, hb⟩
    · exact .inr ⟨b, kl, Nat.le_trans h.grown.size hb⟩
theorem RowTo.len {q : Option Addr} {m c : Nat} (h : RowTo w w' base v (.slice q m c) xs) : xs.length = m := by
  rcases h.own.2 with ⟨e, h0⟩ | ⟨g, cap, cur, e, _⟩
  · injection e with _ e2 _
    omega
  · injection e with _ e2 _
    omega
theorem byte_new (w : World) (x : Int) : IsBytes (w.alloc (.cells #[.int .u8 x] 5)) (some ⟨w.heap.size, 0, none⟩) 1 [x] := by
  refine IsBytes.mk_at fun i hi => ?_
  rw [cell_of (heap_alloc_new w _), Nat.zero_add]
  have h1 : i < 1 := hi
  match i, h1 with
  | 0, _ => rfl
theorem wp_append_to {ops : Array Oper} {rest : List Oper} {o : Oper} {a : Act} {Q : Exit → Act → World → Prop} (hgd : o.guard = none) (s x : Operand)
    (ho : o.op = .call { callee := .builtin .append, args := #[s, x], argTypes := #[25, 25] }) (hty : o.type = 25)
    {w0 : World} {v0 v : Value} {xs : List Int} (hs : a.eval s = v) (hr : RowTo w0 w base v0 v xs) (news : List Int) (m : Nat) (hm : news.length = m) {q : Option Addr} {c : Nat} (hx : a.eval x = .slice q m c) (hb : IsBytes w q c news)
    (h63 : xs.length + m ≤ 140737488355328) (hbase : base ≤ w.heap.size)
    (h : ∀ q' c' w', RowTo w0 w' base v0 (.slice q' (xs.length + m) c') (xs ++ news) → wpList Try.prog ops Q rest (a.put o.dst (.slice q' (xs.length + m) c')) w') : wpList Try.prog ops Q (o :: rest) a w := by
  refine wp_append_at hgd s x ho hty v xs.length (xs.map (Value.int .u8)) hs hr.own news m hm hx hb h63 hbase ?_
  intro v' w' h1 h2 h3
  obtain ⟨q', c', rfl⟩ := own_slice h1
  refine h q' c' w' (hr.trans ⟨?_, h2, ?_⟩)
  · rw [List.length_append, List.map_append, hm]
    exact h1
  · rcases h3 with h3 | h3
    · exact .inl h3
    · exact .inr ⟨_, h3, Nat.le_refl _⟩
theorem wp_append_sto {ops : Array Oper} {rest : List Oper} {o : Oper} {a : Act} {Q : Exit → Act → World → Prop} (hgd : o.guard = none) (s x : Operand)
    (ho : o.op = .call { callee := .builtin .append, args := #[s, x], argTypes := #[25, 9] }) (hty : o.type = 25)
    {w0 : World} {v0 v : Value} {xs : List Int} (hs : a.eval s = v) (hr : RowTo w0 w base v0 v xs) (l : List Int) (hb : Byt l) (hx : a.eval x = .string (strOfNums l))
    (h63 : xs.length + l.length ≤ 140737488355328) (hbase : base ≤ w.heap.size)
    (h : ∀ q' c' w', RowTo w0 w' base v0 (.slice q' (xs.length + l.length) c') (xs ++ l) → wpList Try.prog ops Q rest (a.put o.dst (.slice q' (xs.length + l.length) c')) w') : wpList Try.prog ops Q (o :: rest) a w := by
  refine wp_append_str hgd s x ho hty v xs.length (xs.map (Value.int .u8)) hs hr.own l hb hx h63 hbase ?_
  intro v' w' h1 h2 h3
  obtain ⟨q', c', rfl⟩ := own_slice h1
  refine h q' c' w' (hr.trans ⟨?_, h2, ?_⟩)
  · rw [List.length_append, List.map_append]
    exact h1
  · rcases h3 with h3 | h3
    · exact .inl h3
    · exact .inr ⟨_, h3, Nat.le_refl _⟩
theorem step_append_to {base : Nat} {ops : Array Oper} {o : Oper} {a : Act} {K : Act → World → Prop} {Q : Exit → Act → World → Prop} {E : Prop} (hgd : o.guard = none) (s x : Operand)
    (ho : o.op = .call { callee := .builtin .append, args := #[s, x], argTypes := #[25, 25] }) (hty : o.type = 25)
    {w0 : World} {v0 v : Value} {xs : List Int} (hs : a.eval s = v) (hr : RowTo w0 w base v0 v xs) (news : List Int) (m : Nat) (hm : news.length = m) {q : Option Addr} {c : Nat} (hx : a.eval x = .slice q m c) (hb : IsBytes w q c news)
    (h63 : xs.length + m ≤ 140737488355328) (hbase : base ≤ w.heap.size)
    (h : ∀ q' c' w', RowTo w0 w' base v0 (.slice q' (xs.length + m) c') (xs ++ news) → K (a.put o.dst (.slice q' (xs.length + m) c')) w') :
    if Region.wanted o (yielded ops a.tmps) = true then Oper.wp Try.prog o a w K Q else E := by
  have hw : Region.wanted o (yielded ops a.tmps) = true := by simp [Region.wanted, hgd]
  rw [if_pos hw]
  subst hm
  have key : ∃ v' w', (Builtin.append_ #[25, 25] 25 #[v, .slice q news.length c]).run Try.prog w = .ok v' w' ∧ w'.ownsRow base 5 1 v' (xs.length + news.length) (xs.map (Value.int .u8) ++ news.map (Value.int .u8)) ∧ w.grownBy w' v.ownBlock ∧ (v'.ownBlock = v.ownBlock ∨ v'.ownBlock = some w.heap.size) := by
    obtain ⟨i, hi, hz0, hz1, hz2⟩ := info_parts info_u8
    rcases hb.ways with ⟨rfl, rfl, rfl⟩ | ⟨ad, rfl, hc⟩
    · exact ⟨v, w, run_append_none v _ _ hr.own, by simpa using hr.own, grown_refl _ _, .inl rfl⟩
    · obtain ⟨v', w', h1, h2, h3, _, h5⟩ := run_append_own_at (P := Try.prog) w base 25 25 5 i (.int .u8 0) 1 1 Try.underlying25 hi hz0 hz1 hz2 rfl (by decide) v xs.length _ hr.own ad news.length c (news.map (Value.int .u8)) (by simp) (by
        intro j u hu
        have hj : j < news.length := by
          rcases Nat.lt_or_ge j news.length with h | h
          · exact h
          · simp [h] at hu
        rw [hc j hj]
        simp [hj] at hu ⊢
        exact hu) (by
        intro u hu
        obtain ⟨y, _, rfl⟩ := List.mem_map.1 hu
        rfl) (by unfold maxLen; omega) (by omega) hbase
      exact ⟨v', w', h1, h2, h3, h5⟩
  obtain ⟨v', w', h1, h2, h3, h5⟩ := key
  obtain ⟨q', c', rfl⟩ := own_slice h2
  rw [← hty] at h1
  refine Lib.wp_append_run w s x _ _ ho _ _ hs hx _ _ (by rw [hty] at h1 ⊢; exact h1) (h q' c' w' (hr.trans ⟨by rw [List.length_append, List.map_append]; exact h2, h3, ?_⟩))
  rcases h5 with h5 | h5
  · exact .inl h5
  · exact .inr ⟨_, h5, Nat.le_refl _⟩
end Go.Proofs.Ytbnnlbdjjpmgeaa


namespace Go.Proofs.Ytbnnlbdjjpmgeaa
open Go.RowKit
variable {w w' W V : World}

def brCs (k : List Int × Nat) : List Value := [.string (strOfNums k.1), .int .i64 (k.2 : Int)]
theorem brCs_len (k : List Int × Nat) : (brCs k).length = 2 := rfl
theorem brCs_one (k : List Int × Nat) : ∀ u ∈ brCs k, u.oneCell' = true := by
  intro u hu
  simp only [brCs, List.mem_cons, List.not_mem_nil, or_false] at hu
  rcases hu with rfl | rfl <;> rfl
theorem brType : StType Try.prog 78 74 2 24 := .mk' Try.underlying74 (z := .agg #[.string ⟨#[]⟩, .int .i64 0]) (by kernel_rfl) rfl (by decide)
theorem drType : StType Try.prog 76 50 2 48 := .mk' Try.underlying50 (z := .agg #[.slice none 0 0, .slice none 0 0]) (by kernel_rfl) rfl (by decide)
def BrsAt (w : World) (q : Option Addr) (l : List (List Int × Nat)) : Prop := ∀ i k, l[i]? = some k → ∃ g o, q = some ⟨g, o, none⟩ ∧ w.cell? ⟨g, o + i * 2, none⟩ = some (.string (strOfNums k.1)) ∧ w.cell? ⟨g, o + i * 2 + 1, none⟩ = some (.int .i64 (k.2 : Int))
theorem BrsAt.grown {q : Option Addr} {l : List (List Int × Nat)} (h : BrsAt w q l) (hg : w.grownBy w' none) : BrsAt w' q l := fun i k hk => by
  obtain ⟨g, o, e, c0, c1⟩ := h i k hk
  exact ⟨g, o, e, grown_cell hg c0, grown_cell hg c1⟩
theorem BrsAt.of {lo n c : Nat} {q : Option Addr} {l : List (List Int × Nat)} (h : w.ownsRow lo 78 2 (.slice q n c) n (l.flatMap brCs)) : BrsAt w q l := fun i x hx => by
  obtain ⟨g, e, h0⟩ := row_cell brCs_len h hx (j := 0) (by decide)
  obtain ⟨g', e', h1⟩ := row_cell brCs_len h hx (j := 1) (by decide)
  rw [e] at e'
  injection e' with e'
  injection e' with e' _ _
  subst e'
  refine ⟨g, 0, e, ?_, ?_⟩
  · rw [Nat.zero_add]; exact h0
  · rw [Nat.zero_add]; exact h1
def DrsAt (w : World) (q : Option Addr) (l : List PN) : Prop := ∀ i nd, l[i]? = some nd → ∃ g o qf cf qb cb, q = some ⟨g, o, none⟩ ∧ w.cell? ⟨g, o + i * 2, none⟩ = some (.slice qf (frontB nd.says).length cf) ∧ w.cell? ⟨g, o + i * 2 + 1, none⟩ = some (.slice qb nd.kids.length cb) ∧
  IsBytes w qf cf (frontB nd.says) ∧ BrsAt w qb nd.kids
theorem DrsAt.grown {q : Option Addr} {l : List PN} (h : DrsAt w q l) (hg : w.grownBy w' none) : DrsAt w' q l := fun i nd hn => by
  obtain ⟨g, o, qf, cf, qb, cb, e, c0, c1, hf, hb⟩ := h i nd hn
  exact ⟨g, o, qf, cf, qb, cb, e, grown_cell hg c0, grown_cell hg c1, hf.kept hg (by simp), hb.grown hg⟩
theorem U64At.grown {q : Option Addr} {l : List Int} (h : U64At w q l) (hg : w.grownBy w' none) : U64At w' q l := fun i x hx => by
  obtain ⟨g, e, c⟩ := h i x hx
  exact ⟨g, e, grown_cell hg c⟩
def plI (pl : List Nat) : List Int := List.map (fun p : Nat => (p : Int)) pl
theorem plI_at {pl : List Nat} {i : Nat} (h : i < pl.length) : (plI pl)[i]? = some ((pl.getD i 0 : Nat) : Int) := by
  unfold plI
  rw [List.getElem?_map, List.getElem?_eq_getElem h, List.getD_eq_getElem?_getD, List.getElem?_eq_getElem h]
  rfl
theorem layB_take (pl : List Nat) {nodes : List PN} {i : Nat} {nd : PN} (h : nodes[i]? = some nd) : layB pl (nodes.take (i + 1)) = layB pl (nodes.take i) ++ nodeB pl nd := by
  obtain ⟨hi, rfl⟩ := List.getElem?_eq_some_iff.1 h
  unfold layB
  rw [List.take_succ_eq_append_getElem hi, List.flatMap_append, List.flatMap_singleton]
theorem layB_le (pl : List Nat) (nodes : List PN) (i : Nat) : (layB pl (nodes.take i)).length ≤ (layB pl nodes).length := by
  unfold layB
  conv => rhs; rw [← List.take_append_drop i nodes]
  rw [List.flatMap_append, List.length_append]
  omega
theorem placesF_take (pl : List Nat) : ∀ (nodes : List PN) (s : Nat) (i : Nat), i < nodes.length → (placesF pl s nodes).take (i + 1) = (placesF pl s nodes).take i ++ [s + (layB pl (nodes.take i)).length]
  | [], _, _, h => by simp at h
  | nd :: l, s, 0, _ => by simp [placesF, layB]
  | nd :: l, s, i + 1, h => by
    have := placesF_take pl l (s + (nodeB pl nd).length) i (by simpa using h)
    simp only [placesF, List.take_succ_cons, List.cons_append] at this ⊢
    rw [this, layB, layB, List.flatMap_cons, List.length_append]
    congr 2
    simp only [List.cons.injEq, and_true]
    omega
structure DuoAt (w : World) (g : Nat) (a b : Value) : Prop where
  c : w.cell? ⟨g, 0, none⟩ = some a ∧ w.cell? ⟨g, 1, none⟩ = some b
  lt : g < w.heap.size
theorem DuoAt.new (w : World) (a b : Value) (T : TypeId) : DuoAt (w.alloc (.cells #[a, b] T)) w.heap.size a b := by
  refine ⟨⟨?_, ?_⟩, by rw [World.size_alloc]; omega⟩
  · rw [cell_of (heap_alloc_new w _)]; rfl
  · rw [cell_of (heap_alloc_new w _)]; rfl
theorem DuoAt.kept {g : Nat} {a b : Value} {r : Option Nat} (h : DuoAt w g a b) (k : w.grownBy w' r) (hr : r ≠ some g) : DuoAt w' g a b :=
  ⟨⟨k.cell h.c.1 (fun e => hr e.symm), k.cell h.c.2 (fun e => hr e.symm)⟩, Nat.lt_of_lt_of_le h.lt k.size⟩
structure LyD (w wr : World) (vb : Value) (B : List Int) (vn : Value) (m : Nat) (L : List Int) : Prop where
  b : wr.ownsRow w.heap.size 5 1 vb B.length (B.map (Value.int .u8))
  n : wr.ownsRow w.heap.size 36 1 vn m (L.flatMap u64Cs)
  grown : w.grownBy wr none
theorem LyD.past {vb vn : Value} {B L : List Int} {m : Nat} (h : LyD w w' vb B vn m L) (g : w'.grownBy W none) : LyD w W vb B vn m L := ⟨own_grown h.b g, own_grown h.n g, grown_trans h.grown g⟩
theorem LyD.step {vb vb' vn : Value} {B B' L : List Int} {m : Nat} (h : LyD w w' vb B vn m L) (k : RowTo w' W w.heap.size vb vb' B') : LyD w W vb' B' vn m L :=
  ⟨k.own, h.n.kept k.grown (rows_apart (by decide) h.n h.b), grown_opt h.grown k.grown (fun g e => (h.b.lt g e).1)⟩
theorem LyD.num {vb vn vn' : Value} {B L : List Int} {m : Nat} {x : Int} (h : LyD w w' vb B vn m L) (ho : W.ownsRow w.heap.size 36 1 vn' (m + 1) (L.flatMap u64Cs ++ [.int .u64 x])) (hg : w'.grownBy W vn.ownBlock) : LyD w W vb B vn' (m + 1) (L ++ [x]) :=
  ⟨h.b.kept hg (rows_apart (by decide) h.b h.n), by rw [List.flatMap_append]; exact ho, grown_opt h.grown hg (fun g e => (h.n.lt g e).1)⟩
theorem kids_take (pl : List Nat) {kids : List (List Int × Nat)} {j : Nat} {k : List Int × Nat} (h : kids[j]? = some k) : (kids.take (j + 1)).flatMap (kidB pl) = (kids.take j).flatMap (kidB pl) ++ kidB pl k := by
  obtain ⟨hi, rfl⟩ := List.getElem?_eq_some_iff.1 h
  rw [List.take_succ_eq_append_getElem hi, List.flatMap_append, List.flatMap_singleton]
theorem kids_le (pl : List Nat) (kids : List (List Int × Nat)) (j : Nat) : ((kids.take j).flatMap (kidB pl)).length ≤ (kids.flatMap (kidB pl)).length := by
  conv => rhs; rw [← List.take_append_drop j kids]
  rw [List.flatMap_append, List.length_append]
  omega
theorem RowTo.off {base X : Nat} {v v' : Value} {xs : List Int} (h : RowTo w w' base v v' xs) (hX : X < w.heap.size) (h1 : v.ownBlock ≠ some X) : v'.ownBlock ≠ some X := by
  rcases h.lies with e | ⟨g, e, hg⟩
  · rw [e]; exact h1
  · rw [e]
    intro e'
    injection e' with e'
    omega
structure LayOk (n : Nat) (nd : PN) : Prop where
  few : nd.kids.length ≤ 255
  kid : ∀ k ∈ nd.kids, Byt k.1 ∧ k.2 < n
structure LyT (w wr : World) (pl : List Nat) (nodes : List PN) (n : Nat) (vb vn vi : Value) : Prop where
  ex : ∃ (i : Nat) (qb : Option Addr) (cb : Nat) (qn : Option Addr) (cn : Nat), i ≤ n ∧ vi = .int .i64 (i : Int) ∧ vb = .slice qb (layB pl (nodes.take i)).length cb ∧ vn = .slice qn i cn ∧
    LyD w wr (.slice qb (layB pl (nodes.take i)).length cb) (layB pl (nodes.take i)) (.slice qn i cn) i (plI ((placesF pl 0 nodes).take i))
structure LyK (w wr : World) (pl : List Nat) (A : List Int) (kids : List (List Int × Nat)) (vn : Value) (m : Nat) (L : List Int) (vb vj : Value) : Prop where
  ex : ∃ (j : Nat) (qb : Option Addr) (cb : Nat), j ≤ kids.length ∧ vj = .int .i64 (j : Int) ∧ vb = .slice qb (A ++ (kids.take j).flatMap (kidB pl)).length cb ∧
    LyD w wr (.slice qb (A ++ (kids.take j).flatMap (kidB pl)).length cb) (A ++ (kids.take j).flatMap (kidB pl)) vn m L
set_option maxRecDepth 20000 in
set_option maxHeartbeats 3200000 in
theorem laid_any {nodes : List PN} {n : Nat} (hn : nodes.length = n) {q : Option Addr} {c : Nat} (hD : DrsAt w q nodes) {pl : List Nat} (hpl : pl.length = n) {qp : Option Addr} {cp : Nat} (hP : U64At w qp (plI pl)) (hok : ∀ nd ∈ nodes, LayOk n nd) (hp64 : ∀ p ∈ pl, p < 18446744073709551616) (hbig : (layB pl nodes).length ≤ 1099511627776) (hfew : n ≤ 1099511627776) :
    Calls Try.prog 36 #[.slice q n c, .slice qp n cp] w fun e w' => ∃ qb cb qn cn, e = .returned (.tuple #[.slice qb (layB pl nodes).length cb, .slice qn n cn]) ∧ LyD w w' (.slice qb (layB pl nodes).length cb) (layB pl nodes) (.slice qn n cn) n (plI (placesF pl 0 nodes)) := by
  obtain ⟨iu, hiu, hz0, hz1, hz2⟩ := info_parts (show (Try.prog.info? 36).map (fun i => (i.zero, i.size, i.bytes)) = some (some (.int .u64 0), 1, 8) from by kernel_rfl)
  have HD := Lib.hid hD
  have HP := Lib.hid hP
  have HN := Lib.hid hn
  have HPL := Lib.hid hpl
  have HOK := Lib.hid hok
  have H64 := Lib.hid hp64
  have NL := Lib.hid (fun i => Nat.le_trans (layB_le pl nodes i) hbig)
  clear hD hP hn hpl hok hp64 hbig
  go_enter Try.func36, Try.ntmps36
  go_wp2_with (at_make; refine wpList_make_own _ rfl _ _ 70 rfl w.heap.size 36 iu (.int .u64 0) 1 Try.underlying70 hiu hz0 hz1 .i64 .i64 _ n rfl rfl rfl (by rw [hz2]; omega) (by unfold maxLen; omega) (Nat.le_refl _) ?_; (intro w1 hown hg1; have O1 := Lib.hid hown; have G1 := Lib.hid hg1; clear hown hg1))
  have ST := Lib.hid (show LyT w w1 pl nodes n (.slice none 0 0) (.slice (some ⟨w.heap.size, 0, none⟩) 0 n) (.int .i64 0) from ⟨⟨0, _, _, _, _, Nat.zero_le _, rfl, rfl, rfl, World.ownsRow_nil _ _ _ _, O1.out, G1.out⟩⟩)
  clear hiu hz0 hz1 hz2 O1 G1
  go_wp2
  go_loopw [6, 7, 17] (fun vb vn vi wr => LyT w wr pl nodes n vb vn vi) (fun _ _ vi _ => n - (intOf vi).toNat)
  case atStart => exact ST.out
  case round =>
    obtain ⟨⟨i, qb, cb, qn, cn, hi, rfl, rfl, rfl, hduo⟩⟩ := hrel
    by_cases hlt : i < n
    · obtain ⟨nd, hnd⟩ : ∃ nd, nodes[i]? = some nd := ⟨_, List.getElem?_eq_getElem (by rw [HN.out]; exact hlt)⟩
      have hm : nd ∈ nodes := List.mem_of_getElem? hnd
      obtain ⟨gq, oq, qf, cf, qk, ck, rfl, z0, z1, a2, a3⟩ := HD.out i nd hnd
      have a0 := grown_cell hduo.grown z0
      have a1 := grown_cell hduo.grown z1
      clear z0 z1
      have hk := HOK.out nd hm
      have TB := Lib.hid (layB_take pl hnd)
      have TP := Lib.hid (placesF_take pl nodes 0 i (by rw [HN.out]; exact hlt))
      rw [Nat.zero_add] at TP
      have nl := NL.out (i + 1)
      rw [TB.out] at nl
      obtain ⟨B, hB⟩ : ∃ B, B = layB pl (nodes.take i) := ⟨_, rfl⟩
      rw [← hB] at hduo TB TP nl ⊢
      obtain ⟨L, hL⟩ : ∃ L, L = plI ((placesF pl 0 nodes).take i) := ⟨_, rfl⟩
      rw [← hL] at hduo
      unfold nodeB at nl
      rw [List.length_append, List.length_append, List.length_append, List.length_singleton] at nl
      have HB := Lib.hid hB
      have HL := Lib.hid hL
      have few := hk.few
      have KI := Lib.hid hk.kid
      have dl : decide ((i : Int) < (n : Int)) = true := by simp; omega
      have hiI : (i : Int) < (n : Int) := by omega
      obtain ⟨fl, hfl⟩ : ∃ fl, fl = (frontB nd.says).length := ⟨_, rfl⟩
      obtain ⟨kl, hkl⟩ : ∃ kl, kl = nd.kids.length := ⟨_, rfl⟩
      obtain ⟨Bl, hBl⟩ : ∃ Bl, Bl = B.length := ⟨_, rfl⟩
      rw [← hfl] at a0 nl
      rw [← hkl] at a1 few
      rw [← hBl] at hduo nl ⊢
      have HFL := Lib.hid hfl
      have HKL := Lib.hid hkl
      have HBL := Lib.hid hBl
      have A2 := Lib.hid a2
      have A3 := Lib.hid a3
      have DU := Lib.hid hduo
      have hpw : IntKind.u64.wrap (Bl : Int) = Bl := by rw [IntKind.wrap_u64]; omega
      have hkw : IntKind.u8.wrap (kl : Int) = kl := by rw [IntKind.wrap_u8]; omega
      have x1 := DuoAt.new wr (.slice qf fl cf) (.slice qk kl ck) 76
      have g1 := grown1 wr (.cells #[.slice qf fl cf, .slice qk kl ck] 76)
      obtain ⟨w2, hw2⟩ : ∃ W, W = wr.alloc (.cells #[.slice qf fl cf, .slice qk kl ck] 76) := ⟨_, rfl⟩
      obtain ⟨X, hX⟩ : ∃ X, X = wr.heap.size := ⟨_, rfl⟩
      rw [← hw2] at x1 g1
      rw [← hX] at x1
      have HW2 := Lib.hid hw2.symm
      have HXX := Lib.hid hX.symm
      have D1 := Lib.hid (hduo.past g1)
      have X1 := Lib.hid x1
      have XA := Lib.hid (fun e : (Value.slice qb Bl cb).ownBlock = some X => (show False by have := (hduo.b.lt X e).2; omega))
      have XN := Lib.hid (fun e : (Value.slice qn i cn).ownBlock = some X => (show False by have := (hduo.n.lt X e).2; omega))
      clear hduo hm hnd hk hB hL hfl hkl hBl a2 a3 x1 g1 hw2 hX
      go_upto_region 6 with fail
      rw [HW2.out, HXX.out]
      clear a0 a1 HW2 HXX
      obtain ⟨b0, b1⟩ := X1.out.c
      have xl := X1.out.lt
      have g3 := grown1 w2 (.cells #[.int .u64 (Bl : Int)] 36)
      have D3 := Lib.hid (D1.out.past g3)
      have X3 := Lib.hid (X1.out.kept g3 (by simp))
      have N3 := Lib.hid (heap_alloc_new w2 (.cells #[.int .u64 (Bl : Int)] 36))
      have GS := Lib.hid (Nat.le_trans D1.out.grown.size g3.size)
      clear g3
      go_wp2_with (at_builtin; refine wp_append_sta u64Type rfl _ _ rfl _ i _ rfl D3.out.n [.int .u64 (Bl : Int)] rfl w2.heap.size rfl N3.out (fun u hu => by simp at hu; subst hu; rfl) (by omega) (by decide) GS.out ?_)
      intro v' w4 ho4 hg4 hv4
      obtain ⟨q5, c5, rfl⟩ := own_slice ho4
      have D4 := Lib.hid (D3.out.num ho4 hg4)
      have X4 := Lib.hid (X3.out.kept hg4 XN.out)
      clear ho4 hg4 hv4 D3 X3 N3 GS b0 b1 xl D1
      obtain ⟨b0, b1⟩ := X4.out.c
      have xl := X4.out.lt
      have R4 := Lib.hid (RowTo.refl (show w4.ownsRow w.heap.size 5 1 (.slice qb Bl cb) B.length (B.map (Value.int .u8)) from D4.out.b))
      have F4 := Lib.hid (A2.out.kept D4.out.grown (by simp))
      have S4 := Lib.hid D4.out.grown.size
      have L4 := Lib.hid (show B.length + fl ≤ 140737488355328 by rw [← HBL.out]; omega)
      go_wp2_with (at_builtin; refine wp_append_to rfl _ _ rfl rfl (v := .slice qb Bl cb) (by rfl) R4.out (frontB nd.says) fl HFL.out.symm (by rfl) F4.out L4.out S4.out ?_)
      intro q6 c6 w6 hr6
      rw [← HBL.out] at hr6 ⊢
      have d6 := D4.out.step hr6
      have x6 := X4.out.kept hr6.grown XA.out
      have xa6 := hr6.off X4.out.lt XA.out
      have g7 := grown1 w6 (.cells #[.int .u8 (kl : Int)] 5)
      have D7 := Lib.hid (d6.past g7)
      have X7 := Lib.hid (x6.kept g7 (by simp))
      have X6 := Lib.hid x6
      have XA6 := Lib.hid xa6
      clear hr6 d6 xa6 g7 b0 b1 xl F4 R4 S4 L4
      obtain ⟨b0, b1⟩ := X6.out.c
      have xl := X6.out.lt
      obtain ⟨F1, hF1⟩ : ∃ F, F = B ++ frontB nd.says := ⟨_, rfl⟩
      have LF1 := Lib.hid (show F1.length = Bl + fl by rw [hF1, List.length_append, ← HBL.out, ← HFL.out])
      rw [← hF1] at D7
      have HF1 := Lib.hid hF1
      clear hF1 x6
      have R7 := Lib.hid (RowTo.refl D7.out.b)
      have S7 := Lib.hid D7.out.grown.size
      have I7 := Lib.hid (byte_new w6 (kl : Int))
      have L7 := Lib.hid (show F1.length + 1 ≤ 140737488355328 by rw [LF1.out]; omega)
      go_wp2_with (at_builtin; refine wp_append_to rfl _ _ rfl rfl (v := .slice q6 (Bl + fl) c6) (by rfl) R7.out [(kl : Int)] 1 rfl (by rfl) I7.out L7.out S7.out ?_)
      intro q8 c8 w8 hr8
      rw [LF1.out] at hr8 ⊢
      have d8 := D7.out.step hr8
      have x8 := X7.out.kept hr8.grown XA6.out
      obtain ⟨F2, hF2⟩ : ∃ F, F = F1 ++ [(kl : Int)] := ⟨_, rfl⟩
      have HF2 := Lib.hid hF2
      have LF2 := Lib.hid (show F2.length = Bl + fl + 1 by rw [hF2, List.length_append, LF1.out]; rfl)
      rw [← hF2] at d8
      obtain ⟨L2, hL2⟩ : ∃ L2, L2 = L ++ [(Bl : Int)] := ⟨_, rfl⟩
      rw [← hL2] at d8
      have HL2 := Lib.hid hL2
      have TN := Lib.hid (show F2 ++ nd.kids.flatMap (kidB pl) = layB pl (nodes.take (i + 1)) by
        rw [TB.out, HF2.out, HF1.out, HKL.out]
        unfold nodeB
        simp only [List.append_assoc])
      have TL := Lib.hid (show L2 = plI ((placesF pl 0 nodes).take (i + 1)) by
        rw [HL2.out, HL.out, TP.out, HBL.out]
        unfold plI
        rw [List.map_append]
        rfl)
      have e0 : F2 ++ (nd.kids.take 0).flatMap (kidB pl) = F2 := by simp
      have S8 := Lib.hid (show LyK w w8 pl F2 nd.kids (.slice q5 (i + 1) c5) (i + 1) L2 (.slice q8 (Bl + fl + 1) c8) (.int .i64 0) from ⟨⟨0, q8, c8, Nat.zero_le _, rfl, by rw [e0, LF2.out], by rw [e0, LF2.out]; exact d8⟩⟩)
      clear hr8 d8 hF2 hL2 e0 b0 b1 xl X7 XA6 XA XN X4 D4 D7 R7 S7 I7 L7 X1 X6 LF1 DU
      obtain ⟨b0, b1⟩ := x8.c
      have xl := x8.lt
      clear x8
      go_wp2
      go_loopw [6, 41] (fun vb vj wr => LyK w wr pl F2 nd.kids (.slice q5 (i + 1) c5) (i + 1) L2 vb vj) (fun _ vj _ => kl - (intOf vj).toNat)
      case atStart => exact S8.out
      case round =>
        obtain ⟨⟨j, qm, cm, hj, rfl, rfl, hd⟩⟩ := hrel
        by_cases hjl : j < kl
        · obtain ⟨k, hk⟩ : ∃ k, nd.kids[j]? = some k := ⟨_, List.getElem?_eq_getElem (by rw [← HKL.out]; exact hjl)⟩
          obtain ⟨hby, hkn⟩ := KI.out k (List.mem_of_getElem? hk)
          obtain ⟨gk, ok, rfl, y0, y1⟩ := A3.out j k hk
          have a0 := grown_cell hd.grown y0
          have a1 := grown_cell hd.grown y1
          obtain ⟨p, hp⟩ : ∃ p, p = pl.getD k.2 0 := ⟨_, rfl⟩
          have hpm : p < 18446744073709551616 := by
            have hl : k.2 < pl.length := by rw [HPL.out]; exact hkn
            rw [hp, List.getD_eq_getElem?_getD, List.getElem?_eq_getElem hl]
            exact H64.out _ (List.getElem_mem _)
          have pat := plI_at (pl := pl) (i := k.2) (by rw [HPL.out]; exact hkn)
          rw [← hp] at pat
          obtain ⟨gp, rfl, yp⟩ := HP.out k.2 _ pat
          have YP := Lib.hid yp
          have kt : (nd.kids.take (j + 1)).flatMap (kidB pl) = (nd.kids.take j).flatMap (kidB pl) ++ ((k.1 ++ [0]) ++ encU p) := by rw [kids_take pl hk, hp]; rfl
          have kle := kids_le pl nd.kids (j + 1)
          rw [kt, List.length_append, List.length_append, List.length_append, List.length_singleton] at kle
          obtain ⟨M, hM⟩ : ∃ M, M = F2 ++ (nd.kids.take j).flatMap (kidB pl) := ⟨_, rfl⟩
          have hMl : M.length = F2.length + ((nd.kids.take j).flatMap (kidB pl)).length := by rw [hM, List.length_append]
          rw [LF2.out] at hMl
          have MN := Lib.hid (show ((M ++ k.1) ++ [0]) ++ encU p = F2 ++ (nd.kids.take (j + 1)).flatMap (kidB pl) by rw [kt, hM]; simp only [List.append_assoc])
          rw [← hM] at hd ⊢
          obtain ⟨Ml, hMm⟩ : ∃ m, m = M.length := ⟨_, rfl⟩
          rw [← hMm] at hd hMl ⊢
          have HMM := Lib.hid hMm
          have bound : Ml + k.1.length + 1 + (encU p).length ≤ 1099511627776 := by omega
          have BY := Lib.hid hby
          have hst : (strOfNums k.1).size = k.1.length := strOfNums_size _
          have dj : decide ((j : Int) < (kl : Int)) = true := by simp; omega
          have hjI : (j : Int) < (kl : Int) := by omega
          have hkI : ((k.2 : Nat) : Int) < (n : Int) := by omega
          have x1 := DuoAt.new wr (.string (strOfNums k.1)) (.int .i64 (k.2 : Int)) 78
          have g1 := grown1 wr (.cells #[.string (strOfNums k.1), .int .i64 (k.2 : Int)] 78)
          obtain ⟨w2, hw2⟩ : ∃ W, W = wr.alloc (.cells #[.string (strOfNums k.1), .int .i64 (k.2 : Int)] 78) := ⟨_, rfl⟩
          obtain ⟨X, hX⟩ : ∃ X, X = wr.heap.size := ⟨_, rfl⟩
          rw [← hw2] at x1 g1
          rw [← hX] at x1
          have HW2 := Lib.hid hw2.symm
          have HXX := Lib.hid hX.symm
          have D1 := Lib.hid (hd.past g1)
          have X1 := Lib.hid x1
          have XA := Lib.hid (show (Value.slice qm Ml cm).ownBlock ≠ some X from fun e => by have := (hd.b.lt X e).2; omega)
          clear hd hk y0 y1 yp pat hM hMl hMm kt hby hp x1 g1 hw2 hX
          go_upto_region 12 with fail
          rw [HW2.out, HXX.out]
          clear a0 a1 HW2 HXX
          obtain ⟨b0, b1⟩ := X1.out.c
          have xl := X1.out.lt
          have R1 := Lib.hid (RowTo.refl D1.out.b)
          have S1 := Lib.hid D1.out.grown.size
          have L1 := Lib.hid (show M.length + k.1.length ≤ 140737488355328 by rw [← HMM.out]; omega)
          go_wp2_with (at_builtin; refine wp_append_sto rfl _ _ rfl rfl (v := .slice qm Ml cm) (by rfl) R1.out k.1 BY.out (by rfl) L1.out S1.out ?_)
          intro q2 c2 w3 hr3
          rw [← HMM.out] at hr3 ⊢
          obtain ⟨M1, hM1⟩ : ∃ M1, M1 = M ++ k.1 := ⟨_, rfl⟩
          rw [← hM1] at hr3 MN
          have LM := Lib.hid (show M1.length = Ml + k.1.length by rw [hM1, List.length_append, ← HMM.out])
          clear hM1
          have d3 := D1.out.step hr3
          have x3 := X1.out.kept hr3.grown XA.out
          have XA3 := Lib.hid (hr3.off X1.out.lt XA.out)
          have g4 := grown1 w3 (.cells #[.int .u8 0] 5)
          have D4 := Lib.hid (d3.past g4)
          have X4 := Lib.hid (x3.kept g4 (by simp))
          have R4 := Lib.hid (RowTo.refl D4.out.b)
          have S4 := Lib.hid D4.out.grown.size
          have I4 := Lib.hid (byte_new w3 0)
          have L4 := Lib.hid (show M1.length + 1 ≤ 140737488355328 by rw [LM.out]; omega)
          clear hr3 d3 x3 g4 b0 b1 xl R1 S1 L1 D1 X1
          go_wp2_with (at_builtin; refine wp_append_to rfl _ _ rfl rfl (v := .slice q2 (Ml + k.1.length) c2) (by rfl) R4.out [0] 1 rfl (by rfl) I4.out L4.out S4.out ?_)
          intro q4 c4 w5 hr5
          rw [LM.out] at hr5 ⊢
          obtain ⟨M2, hM2⟩ : ∃ M2, M2 = M1 ++ [0] := ⟨_, rfl⟩
          rw [← hM2] at hr5 MN
          have LN := Lib.hid (show M2.length = Ml + k.1.length + 1 by rw [hM2, List.length_append, LM.out]; rfl)
          clear hM2
          have d5 := D4.out.step hr5
          have x5 := X4.out.kept hr5.grown XA3.out
          have D5 := Lib.hid d5
          have PT := Lib.hid (put_out (n := p) hpm w5)
          have yp := grown_cell d5.grown YP.out
          obtain ⟨b0, b1⟩ := x5.c
          have xl := x5.lt
          clear hr5 d5 x5 R4 S4 I4 L4 LM D4 X4 XA3 XA
          go_wp2_with fail
          refine PT.out.mono ?_
          rintro e w6 ⟨⟨q6, c6, rfl, ho6⟩, hg6⟩
          have I6 := Lib.hid (IsBytes.of_own rfl ho6)
          have D6 := Lib.hid (D5.out.past hg6)
          have R6 := Lib.hid (RowTo.refl D6.out.b)
          have S6 := Lib.hid D6.out.grown.size
          have L6 := Lib.hid (show M2.length + (encU p).length ≤ 140737488355328 by rw [LN.out]; omega)
          clear ho6 hg6 D5 PT yp b0 b1 xl
          go_wp2_with (at_builtin; refine wp_append_to rfl _ _ rfl rfl (v := .slice q4 (Ml + k.1.length + 1) c4) (by rfl) R6.out (encU p) (encU p).length rfl (by rfl) I6.out L6.out S6.out ?_)
          intro q7 c7 w7 hr7
          have L7 := Lib.hid hr7.len
          have d7 := D6.out.step hr7
          rw [MN.out] at d7 L7
          have D7 := Lib.hid d7
          clear hr7 d7 R6 S6 L6 I6 D6
          go_wp2
          go_roundw
          case rel => exact ⟨⟨j + 1, q7, c7, by rw [← HKL.out]; exact hjl, by simp, by rw [L7.out], by rw [L7.out]; exact D7.out⟩⟩
          case measure => simp [intOf]; omega
        · have hje : j = kl := by have := HKL.out; omega
          subst hje
          have dj : decide ((j : Int) < (j : Int)) = false := by simp
          have htk : F2 ++ (nd.kids.take j).flatMap (kidB pl) = layB pl (nodes.take (i + 1)) := by rw [HKL.out, List.take_length, TN.out]
          rw [htk] at hd ⊢
          rw [TL.out] at hd
          have DD := Lib.hid hd
          obtain ⟨P, hP⟩ : ∃ P, P = (layB pl (nodes.take (i + 1))).length := ⟨_, rfl⟩
          rw [← hP]
          have HPP := Lib.hid hP
          clear hd htk hP
          go_wp2
          go_roundw
          case rel => exact ⟨⟨i + 1, qm, cm, q5, c5, hlt, by simp, by rw [HPP.out], rfl, DD.out⟩⟩
          case measure => simp [intOf]; omega
    · have hin : i = n := by omega
      subst hin
      have dl : decide ((i : Int) < (i : Int)) = false := by simp
      have htk : nodes.take i = nodes := by rw [← HN.out, List.take_length]
      have htp : (placesF pl 0 nodes).take i = placesF pl 0 nodes := by rw [← HN.out, ← placesF_len pl nodes 0, List.take_length]
      have DF := Lib.hid hduo
      rw [htk, htp] at DF
      rw [htk]
      clear hduo htk htp
      obtain ⟨P, hP⟩ : ∃ P, P = (layB pl nodes).length := ⟨_, rfl⟩
      rw [← hP]
      have HPP := Lib.hid hP
      clear hP
      go_wp2
      go_ret2
      obtain rfl := HPP.out
      exact ⟨qb, cb, qn, cn, rfl, DF.out⟩
end Go.Proofs.Ytbnnlbdjjpmgeaa


namespace Go.Proofs.Ytbnnlbdjjpmgeaa
open Go.RowKit
variable {w w' W V : World}

theorem BOut.up {all : List Int} {e : Ending} (h : BOut W w' all e) (hg : w.grownBy W none) : BOut w w' all e := by
  obtain ⟨⟨q, c, h1, h2⟩, h3⟩ := h
  exact ⟨⟨q, c, h1, Go.Joins.ownsRow_le h2 hg.size⟩, grown_trans hg h3⟩
theorem u64_new (w : World) (l : List Int) : U64At (w.alloc (.cells (l.map (Value.int .u64)).toArray 36 (0, 0))) (some ⟨w.heap.size, 0, none⟩) l := fun i x hx => by
  refine ⟨w.heap.size, rfl, ?_⟩
  rw [cell_of (heap_alloc_new w _)]
  simp [hx]
set_option maxRecDepth 20000 in
set_option maxHeartbeats 3200000 in
theorem say_any (nm : ByteArray) (x : Ex) (hx : ExOk x) (w : World) : Calls Try.prog 39 #[exV nm x] w fun e w' => BOut w w' (saidB x) e := by
  have g1 := grown1 w (.cells (exArr nm x) 38)
  have E1 : ExAt (w.alloc (.cells (exArr nm x) 38)) w.heap.size nm x := heap_alloc_new w _
  obtain ⟨w1, hw1⟩ : ∃ w1, w.alloc (.cells (exArr nm x) 38) = w1 := ⟨_, rfl⟩
  obtain ⟨g, hg0⟩ : ∃ g, w.heap.size = g := ⟨_, rfl⟩
  rw [hw1] at g1 E1
  rw [hg0] at E1
  obtain ⟨kind, weak, value, resolver, ordinal, other⟩ := x
  have HE := Lib.hid E1
  have HG := Lib.hid g1
  have HW1 := Lib.hid hw1
  have HG0 := Lib.hid hg0
  obtain ⟨hv, hr, ho, hob, -, ht⟩ := hx
  unfold textM at ht
  rw [Bool.and_eq_true, decide_eq_true_eq, decide_eq_true_eq] at ht
  simp only [] at hv hr ho hob ht
  have HX := Lib.hid (And.intro hv (And.intro hr (And.intro ho (And.intro hob ht.1))))
  have NB := Lib.hid (fun (W : World) (l : List Int) (hl : l.length ≤ 1000) (hb : ∀ x ∈ l, 0 ≤ x ∧ x < 18446744073709551616) (c : Nat) => numbers_any (w := W.alloc (.cells (l.map (Value.int .u64)).toArray 36 (0, 0))) l l.length rfl hb hl (some ⟨W.heap.size, 0, none⟩) c (u64_new W l))
  obtain ⟨c0, c1, c2, c3, c4, c5, c6⟩ := E1.c
  simp only [] at c1 c2 c3 c4 c5 c6
  clear E1 g1 hw1 hg0 hv hr ho hob ht
  cases weak
  case false =>
    have o2 : bits .or .u64 2 0 = 2 := by kernel_rfl
    have o8 : bits .or .u64 8 0 = 8 := by kernel_rfl
    have o16 : bits .or .u64 16 0 = 16 := by kernel_rfl
    have o0 : bits .or .u64 0 0 = 0 := by kernel_rfl
    by_cases k2 : kind = 2
    · subst k2
      go_enter Try.func39, Try.ntmps39
      simp only [exV, exArr] at HW1 ⊢
      go_upto_region 1 with fail
      rw [HW1.out, HG0.out]
      clear HW1 HG0
      have g2 := grown1 w1 (.cells #[.int .u64 2, .int .u64 value] 36)
      have CALL := NB.out w1 [2, value] (by simp) (by intro y hy; have h := HX.out; simp only [List.mem_cons, List.not_mem_nil, or_false] at hy; rcases hy with rfl | rfl <;> omega) 2
      have CH := Lib.hid (CALL.mono (R' := fun e w' => BOut w w' (saidB ⟨2, false, value, resolver, ordinal, other⟩) e) (fun e w' h => by
        have e : saidB ⟨2, false, value, resolver, ordinal, other⟩ = numsB [2, value] := by simp [saidB, flagN, numsB]
        rw [e]
        exact h.up (grown_trans HG.out g2)))
      clear CALL g2
      go_wp2_with fail
      refine CH.out.mono ?_
      rintro e w' ⟨⟨q, c, rfl, ho⟩, hg⟩
      have F := Lib.hid (show BOut w w' (saidB ⟨2, false, value, resolver, ordinal, other⟩) (.returned (.slice q (saidB ⟨2, false, value, resolver, ordinal, other⟩).length c)) from ⟨⟨q, c, rfl, ho⟩, hg⟩)
      obtain ⟨N, hN⟩ : ∃ N, N = (saidB ⟨2, false, value, resolver, ordinal, other⟩).length := ⟨_, rfl⟩
      rw [← hN] at F ⊢
      clear ho hg hN
      go_wp2
      go_ret
      exact F.out
    have d2 : (kind == 2) = false := by simpa using k2
    by_cases k3 : kind = 3
    · subst k3
      have gd : w1.grownBy (w1.drew.alloc (.cells #[.int .u64 8, .int .u64 ordinal] 36 (0, 0))) none := grown_trans (grown_drewN (grown_refl w1 none) 1) (grown1 w1.drew _)
      have CALL := NB.out w1.drew [8, ordinal] (by simp) (by intro y hy; have h := HX.out; simp only [List.mem_cons, List.not_mem_nil, or_false] at hy; rcases hy with rfl | rfl <;> omega) 2
      have C6 := Lib.hid c6
      have CH := Lib.hid (CALL.mono (R' := fun e w' => BOut w w' (numsB [8, ordinal]) e ∧ w1.grownBy w' none) (fun e w' h => ⟨h.up (grown_trans HG.out gd), grown_trans gd h.grown⟩))
      have HNL := Lib.hid (show (numsB [8, ordinal]).length ≤ 1000 from by
        have := nums_len [8, ordinal] (by intro y hy; have h := HX.out; simp only [List.mem_cons, List.not_mem_nil, or_false] at hy; rcases hy with rfl | rfl <;> omega)
        simp only [List.length_cons, List.length_nil] at this
        omega)
      have HNB := Lib.hid (show saidB ⟨3, false, value, resolver, ordinal, other⟩ = (numsB [8, ordinal] ++ other) ++ [0] by simp [saidB, flagN, numsB])
      clear CALL gd d2
      obtain ⟨NL, hNL⟩ : ∃ L, L = numsB [8, ordinal] := ⟨_, rfl⟩
      rw [← hNL] at CH HNL HNB
      clear hNL
      go_enter Try.func39, Try.ntmps39
      simp only [exV, exArr] at HW1 ⊢
      go_upto_region 1 with fail
      rw [HW1.out, HG0.out]
      clear HW1 HG0
      have hnl := HNL.out
      have hol := HX.out.2.2.2.2
      have c6a := grown_cell (grown1 w1 (.cells #[.int .u64 8, .int .u64 ordinal] 36)) C6.out
      go_upto_region 8 with fail
      go_region_law (first
        | (refine step_append_str (by with_reducible rfl) _ _ (by with_reducible rfl) (by rfl) _ NL.length _ (by rfl) O2.out other HX.out.2.2.2.1 (by rfl) (by omega) G2.out.size ?_; intro v3 w3 ho3 hg3 hv3; obtain ⟨q3, c3, rfl⟩ := own_slice ho3; have G3 := Lib.hid (grown_opt G2.out hg3 (fun g e => (O2.out.lt g e).1)); have O3 := Lib.hid ho3; clear ho3 hg3 hv3 O2)
        | (go_simp; go_at_call 56; refine CH.out.mono ?_; rintro e w2 ⟨⟨⟨q2, c2, rfl, ho2⟩, hg2⟩, h12⟩; have c6w := grown_cell h12 C6.out; have O2 := Lib.hid ho2; have G2 := Lib.hid hg2; clear ho2 hg2 h12))
      all_goals
        have g4 := grown1 w3 (.cells #[.int .u8 0] 5)
        have O4 := Lib.hid (own_grown O3.out g4)
        have IB := Lib.hid (one_byte w3 0 5)
        have G4 := Lib.hid (grown_trans G3.out g4)
        clear g4 O3
        go_wp2_with (at_builtin; refine wp_append_at rfl _ _ rfl rfl _ (NL.length + other.length) _ rfl O4.out [0] 1 rfl rfl IB.out (by omega) G4.out.size ?_)
        intro v5 w5 ho5 hg5 hv5
        have G5 := Lib.hid (grown_opt G4.out hg5 (fun g e => (O4.out.lt g e).1))
        obtain ⟨q5, c5, rfl⟩ := own_slice ho5
        have F := Lib.hid (show BOut w w5 (saidB ⟨3, false, value, resolver, ordinal, other⟩) (.returned (.slice q5 (NL.length + other.length + 1) c5)) from by
          have hl : (saidB ⟨3, false, value, resolver, ordinal, other⟩).length = NL.length + other.length + 1 := by rw [HNB.out, List.length_append, List.length_append]; rfl
          have hm : (saidB ⟨3, false, value, resolver, ordinal, other⟩).map (Value.int .u8) = NL.map (Value.int .u8) ++ other.map (Value.int .u8) ++ [0].map (Value.int .u8) := by rw [HNB.out, List.map_append, List.map_append]
          refine ⟨⟨q5, c5, by rw [hl], ?_⟩, G5.out⟩
          rw [hl, hm, List.append_assoc]
          exact ho5)
        clear ho5 hg5 hv5 O4
        go_wp2
        go_ret
        exact F.out
    have d3 : (kind == 3) = false := by simpa using k3
    by_cases k4 : kind = 4
    · subst k4
      go_enter Try.func39, Try.ntmps39
      simp only [exV, exArr] at HW1 ⊢
      go_upto_region 1 with fail
      rw [HW1.out, HG0.out]
      clear HW1 HG0
      have g2 := grown1 w1 (.cells #[.int .u64 16, .int .u64 value, .int .u64 resolver] 36)
      have CALL := NB.out w1 [16, value, resolver] (by simp) (by intro y hy; have h := HX.out; simp only [List.mem_cons, List.not_mem_nil, or_false] at hy; rcases hy with rfl | rfl | rfl <;> omega) 3
      have CH := Lib.hid (CALL.mono (R' := fun e w' => BOut w w' (saidB ⟨4, false, value, resolver, ordinal, other⟩) e) (fun e w' h => by
        have e : saidB ⟨4, false, value, resolver, ordinal, other⟩ = numsB [16, value, resolver] := by simp [saidB, flagN, numsB]
        rw [e]
        exact h.up (grown_trans HG.out g2)))
      clear CALL g2
      go_wp2_with fail
      refine CH.out.mono ?_
      rintro e w' ⟨⟨q, c, rfl, ho⟩, hg⟩
      have F := Lib.hid (show BOut w w' (saidB ⟨4, false, value, resolver, ordinal, other⟩) (.returned (.slice q (saidB ⟨4, false, value, resolver, ordinal, other⟩).length c)) from ⟨⟨q, c, rfl, ho⟩, hg⟩)
      obtain ⟨N, hN⟩ : ∃ N, N = (saidB ⟨4, false, value, resolver, ordinal, other⟩).length := ⟨_, rfl⟩
      rw [← hN] at F ⊢
      clear ho hg hN
      go_wp2
      go_ret
      exact F.out
    have d4 : (kind == 4) = false := by simpa using k4
    go_enter Try.func39, Try.ntmps39
    simp only [exV, exArr] at HW1 ⊢
    go_upto_region 1 with fail
    rw [HW1.out, HG0.out]
    clear HW1 HG0
    have g2 := grown1 w1 (.cells #[.int .u64 0, .int .u64 value] 36)
    have CALL := NB.out w1 [0, value] (by simp) (by intro y hy; have h := HX.out; simp only [List.mem_cons, List.not_mem_nil, or_false] at hy; rcases hy with rfl | rfl <;> omega) 2
    have CH := Lib.hid (CALL.mono (R' := fun e w' => BOut w w' (saidB ⟨kind, false, value, resolver, ordinal, other⟩) e) (fun e w' h => by
      have e : saidB ⟨kind, false, value, resolver, ordinal, other⟩ = numsB [0, value] := by simp [saidB, flagN, numsB, k2, k3, k4]
      rw [e]
      exact h.up (grown_trans HG.out g2)))
    clear CALL g2
    go_wp2_with fail
    refine CH.out.mono ?_
    rintro e w' ⟨⟨q, c, rfl, ho⟩, hg⟩
    have F := Lib.hid (show BOut w w' (saidB ⟨kind, false, value, resolver, ordinal, other⟩) (.returned (.slice q (saidB ⟨kind, false, value, resolver, ordinal, other⟩).length c)) from ⟨⟨q, c, rfl, ho⟩, hg⟩)
    obtain ⟨N, hN⟩ : ∃ N, N = (saidB ⟨kind, false, value, resolver, ordinal, other⟩).length := ⟨_, rfl⟩
    rw [← hN] at F ⊢
    clear ho hg hN
    go_wp2
    go_ret
    exact F.out
  case true =>
    have o2 : bits .or .u64 2 4 = 6 := by kernel_rfl
    have o8 : bits .or .u64 8 4 = 12 := by kernel_rfl
    have o16 : bits .or .u64 16 4 = 20 := by kernel_rfl
    have o0 : bits .or .u64 0 4 = 4 := by kernel_rfl
    by_cases k2 : kind = 2
    · subst k2
      go_enter Try.func39, Try.ntmps39
      simp only [exV, exArr] at HW1 ⊢
      go_upto_region 1 with fail
      rw [HW1.out, HG0.out]
      clear HW1 HG0
      have g2 := grown1 w1 (.cells #[.int .u64 6, .int .u64 value] 36)
      have CALL := NB.out w1 [6, value] (by simp) (by intro y hy; have h := HX.out; simp only [List.mem_cons, List.not_mem_nil, or_false] at hy; rcases hy with rfl | rfl <;> omega) 2
      have CH := Lib.hid (CALL.mono (R' := fun e w' => BOut w w' (saidB ⟨2, true, value, resolver, ordinal, other⟩) e) (fun e w' h => by
        have e : saidB ⟨2, true, value, resolver, ordinal, other⟩ = numsB [6, value] := by simp [saidB, flagN, numsB]
        rw [e]
        exact h.up (grown_trans HG.out g2)))
      clear CALL g2
      go_wp2_with fail
      refine CH.out.mono ?_
      rintro e w' ⟨⟨q, c, rfl, ho⟩, hg⟩
      have F := Lib.hid (show BOut w w' (saidB ⟨2, true, value, resolver, ordinal, other⟩) (.returned (.slice q (saidB ⟨2, true, value, resolver, ordinal, other⟩).length c)) from ⟨⟨q, c, rfl, ho⟩, hg⟩)
      obtain ⟨N, hN⟩ : ∃ N, N = (saidB ⟨2, true, value, resolver, ordinal, other⟩).length := ⟨_, rfl⟩
      rw [← hN] at F ⊢
      clear ho hg hN
      go_wp2
      go_ret
      exact F.out
    have d2 : (kind == 2) = false := by simpa using k2
    by_cases k3 : kind = 3
    · subst k3
      have gd : w1.grownBy (w1.drew.alloc (.cells #[.int .u64 12, .int .u64 ordinal] 36 (0, 0))) none := grown_trans (grown_drewN (grown_refl w1 none) 1) (grown1 w1.drew _)
      have CALL := NB.out w1.drew [12, ordinal] (by simp) (by intro y hy; have h := HX.out; simp only [List.mem_cons, List.not_mem_nil, or_false] at hy; rcases hy with rfl | rfl <;> omega) 2
      have C6 := Lib.hid c6
      have CH := Lib.hid (CALL.mono (R' := fun e w' => BOut w w' (numsB [12, ordinal]) e ∧ w1.grownBy w' none) (fun e w' h => ⟨h.up (grown_trans HG.out gd), grown_trans gd h.grown⟩))
      have HNL := Lib.hid (show (numsB [12, ordinal]).length ≤ 1000 from by
        have := nums_len [12, ordinal] (by intro y hy; have h := HX.out; simp only [List.mem_cons, List.not_mem_nil, or_false] at hy; rcases hy with rfl | rfl <;> omega)
        simp only [List.length_cons, List.length_nil] at this
        omega)
      have HNB := Lib.hid (show saidB ⟨3, true, value, resolver, ordinal, other⟩ = (numsB [12, ordinal] ++ other) ++ [0] by simp [saidB, flagN, numsB])
      clear CALL gd d2
      obtain ⟨NL, hNL⟩ : ∃ L, L = numsB [12, ordinal] := ⟨_, rfl⟩
      rw [← hNL] at CH HNL HNB
      clear hNL
      go_enter Try.func39, Try.ntmps39
      simp only [exV, exArr] at HW1 ⊢
      go_upto_region 1 with fail
      rw [HW1.out, HG0.out]
      clear HW1 HG0
      have hnl := HNL.out
      have hol := HX.out.2.2.2.2
      have c6a := grown_cell (grown1 w1 (.cells #[.int .u64 12, .int .u64 ordinal] 36)) C6.out
      go_upto_region 8 with fail
      go_region_law (first
        | (refine step_append_str (by with_reducible rfl) _ _ (by with_reducible rfl) (by rfl) _ NL.length _ (by rfl) O2.out other HX.out.2.2.2.1 (by rfl) (by omega) G2.out.size ?_; intro v3 w3 ho3 hg3 hv3; obtain ⟨q3, c3, rfl⟩ := own_slice ho3; have G3 := Lib.hid (grown_opt G2.out hg3 (fun g e => (O2.out.lt g e).1)); have O3 := Lib.hid ho3; clear ho3 hg3 hv3 O2)
        | (go_simp; go_at_call 56; refine CH.out.mono ?_; rintro e w2 ⟨⟨⟨q2, c2, rfl, ho2⟩, hg2⟩, h12⟩; have c6w := grown_cell h12 C6.out; have O2 := Lib.hid ho2; have G2 := Lib.hid hg2; clear ho2 hg2 h12))
      all_goals
        have g4 := grown1 w3 (.cells #[.int .u8 0] 5)
        have O4 := Lib.hid (own_grown O3.out g4)
        have IB := Lib.hid (one_byte w3 0 5)
        have G4 := Lib.hid (grown_trans G3.out g4)
        clear g4 O3
        go_wp2_with (at_builtin; refine wp_append_at rfl _ _ rfl rfl _ (NL.length + other.length) _ rfl O4.out [0] 1 rfl rfl IB.out (by omega) G4.out.size ?_)
        intro v5 w5 ho5 hg5 hv5
        have G5 := Lib.hid (grown_opt G4.out hg5 (fun g e => (O4.out.lt g e).1))
        obtain ⟨q5, c5, rfl⟩ := own_slice ho5
        have F := Lib.hid (show BOut w w5 (saidB ⟨3, true, value, resolver, ordinal, other⟩) (.returned (.slice q5 (NL.length + other.length + 1) c5)) from by
          have hl : (saidB ⟨3, true, value, resolver, ordinal, other⟩).length = NL.length + other.length + 1 := by rw [HNB.out, List.length_append, List.length_append]; rfl
          have hm : (saidB ⟨3, true, value, resolver, ordinal, other⟩).map (Value.int .u8) = NL.map (Value.int .u8) ++ other.map (Value.int .u8) ++ [0].map (Value.int .u8) := by rw [HNB.out, List.map_append, List.map_append]
          refine ⟨⟨q5, c5, by rw [hl], ?_⟩, G5.out⟩
          rw [hl, hm, List.append_assoc]
          exact ho5)
        clear ho5 hg5 hv5 O4
        go_wp2
        go_ret
        exact F.out
    have d3 : (kind == 3) = false := by simpa using k3
    by_cases k4 : kind = 4
    · subst k4
      go_enter Try.func39, Try.ntmps39
      simp only [exV, exArr] at HW1 ⊢
      go_upto_region 1 with fail
      rw [HW1.out, HG0.out]
      clear HW1 HG0
      have g2 := grown1 w1 (.cells #[.int .u64 20, .int .u64 value, .int .u64 resolver] 36)
      have CALL := NB.out w1 [20, value, resolver] (by simp) (by intro y hy; have h := HX.out; simp only [List.mem_cons, List.not_mem_nil, or_false] at hy; rcases hy with rfl | rfl | rfl <;> omega) 3
      have CH := Lib.hid (CALL.mono (R' := fun e w' => BOut w w' (saidB ⟨4, true, value, resolver, ordinal, other⟩) e) (fun e w' h => by
        have e : saidB ⟨4, true, value, resolver, ordinal, other⟩ = numsB [20, value, resolver] := by simp [saidB, flagN, numsB]
        rw [e]
        exact h.up (grown_trans HG.out g2)))
      clear CALL g2
      go_wp2_with fail
      refine CH.out.mono ?_
      rintro e w' ⟨⟨q, c, rfl, ho⟩, hg⟩
      have F := Lib.hid (show BOut w w' (saidB ⟨4, true, value, resolver, ordinal, other⟩) (.returned (.slice q (saidB ⟨4, true, value, resolver, ordinal, other⟩).length c)) from ⟨⟨q, c, rfl, ho⟩, hg⟩)
      obtain ⟨N, hN⟩ : ∃ N, N = (saidB ⟨4, true, value, resolver, ordinal, other⟩).length := ⟨_, rfl⟩
      rw [← hN] at F ⊢
      clear ho hg hN
      go_wp2
      go_ret
      exact F.out
    have d4 : (kind == 4) = false := by simpa using k4
    go_enter Try.func39, Try.ntmps39
    simp only [exV, exArr] at HW1 ⊢
    go_upto_region 1 with fail
    rw [HW1.out, HG0.out]
    clear HW1 HG0
    have g2 := grown1 w1 (.cells #[.int .u64 4, .int .u64 value] 36)
    have CALL := NB.out w1 [4, value] (by simp) (by intro y hy; have h := HX.out; simp only [List.mem_cons, List.not_mem_nil, or_false] at hy; rcases hy with rfl | rfl <;> omega) 2
    have CH := Lib.hid (CALL.mono (R' := fun e w' => BOut w w' (saidB ⟨kind, true, value, resolver, ordinal, other⟩) e) (fun e w' h => by
      have e : saidB ⟨kind, true, value, resolver, ordinal, other⟩ = numsB [4, value] := by simp [saidB, flagN, numsB, k2, k3, k4]
      rw [e]
      exact h.up (grown_trans HG.out g2)))
    clear CALL g2
    go_wp2_with fail
    refine CH.out.mono ?_
    rintro e w' ⟨⟨q, c, rfl, ho⟩, hg⟩
    have F := Lib.hid (show BOut w w' (saidB ⟨kind, true, value, resolver, ordinal, other⟩) (.returned (.slice q (saidB ⟨kind, true, value, resolver, ordinal, other⟩).length c)) from ⟨⟨q, c, rfl, ho⟩, hg⟩)
    obtain ⟨N, hN⟩ : ∃ N, N = (saidB ⟨kind, true, value, resolver, ordinal, other⟩).length := ⟨_, rfl⟩
    rw [← hN] at F ⊢
    clear ho hg hN
    go_wp2
    go_ret
    exact F.out
end Go.Proofs.Ytbnnlbdjjpmgeaa


namespace Go.Proofs.Ytbnnlbdjjpmgeaa
open Go.RowKit
variable {w w' W V : World}

theorem zeros_flat (n : Nat) : (plI (List.replicate n 0)).flatMap u64Cs = List.replicate n (Value.int .u64 0) := by
  unfold plI
  induction n with
  | zero => rfl
  | succ n ih => rw [List.replicate_succ, List.map_cons, List.flatMap_cons, ih, List.replicate_succ]; rfl
theorem round_small {nodes : List PN} {t M : Nat} (hM : (layB (roundsN nodes t) nodes).length ≤ M) : sumN (roundsN nodes (t + 1)) ≤ nodes.length * M := by
  have := sum_le (P := roundsN nodes (t + 1)) (M := M) (fun i => by
    rcases Nat.lt_or_ge i nodes.length with h | h
    · show (placesF (roundsN nodes t) 0 nodes).getD i 0 ≤ M
      rw [placesF_at _ _ _ _ h]
      have := lay_le (roundsN nodes t) h
      omega
    · have hl := rounds_len nodes (t + 1)
      rw [List.getD_eq_getElem?_getD, List.getElem?_eq_none (by omega)]
      exact Nat.zero_le _)
  rwa [rounds_len] at this
structure StG (w wr : World) (nodes : List PN) (n g : Nat) (v : Value) : Prop where
  ex : ∃ (t : Nat) (qp : Option Addr) (cp : Nat), n * 1099511627776 - sumN (roundsN nodes t) ≤ g ∧ v = .slice qp n cp ∧ U64At wr qp (plI (roundsN nodes t))
  grown : w.grownBy wr none
structure StOut (w w' : World) (nodes : List PN) (e : Ending) : Prop where
  ex : ∃ (t : Nat) (qb : Option Addr) (cb : Nat), roundsN nodes (t + 1) = roundsN nodes t ∧ e = .returned (.slice qb (layB (roundsN nodes t) nodes).length cb) ∧
    w'.ownsRow w.heap.size 5 1 (.slice qb (layB (roundsN nodes t) nodes).length cb) (layB (roundsN nodes t) nodes).length ((layB (roundsN nodes t) nodes).map (Value.int .u8))
  grown : w.grownBy w' none
set_option maxRecDepth 20000 in
set_option maxHeartbeats 3200000 in
theorem settle_any {nodes : List PN} {n : Nat} (hn : nodes.length = n) {q : Option Addr} {c : Nat} (hD : DrsAt w q nodes) (hok : ∀ nd ∈ nodes, LayOk n nd) (hbig : ∀ t, (layB (roundsN nodes t) nodes).length ≤ 1099511627776) (hfew : n ≤ 1099511627776) :
    Calls Try.prog 19 #[.slice q n c] w fun e w' => StOut w w' nodes e := by
  obtain ⟨iu, hiu, hz0, hz1, hz2⟩ := info_parts (show (Try.prog.info? 36).map (fun i => (i.zero, i.size, i.bytes)) = some (some (.int .u64 0), 1, 8) from by kernel_rfl)
  have HD := Lib.hid hD
  have HN := Lib.hid hn
  have HOK := Lib.hid hok
  have NL := Lib.hid hbig
  have P64 := Lib.hid (show ∀ t, ∀ p ∈ roundsN nodes t, p < 18446744073709551616 from fun t p hp => by
    obtain ⟨i, hi, rfl⟩ := List.getElem_of_mem hp
    have hl := rounds_len nodes t
    cases t with
    | zero => simp [roundsN]
    | succ t =>
      have h1 : (roundsN nodes (t + 1)).getD i 0 = 0 + (layB (roundsN nodes t) (nodes.take i)).length := placesF_at (roundsN nodes t) nodes 0 i (by omega)
      have h2 := lay_le (roundsN nodes t) (nodes := nodes) (i := i) (by omega)
      have h3 := hbig t
      rw [List.getD_eq_getElem?_getD, List.getElem?_eq_getElem hi, Option.getD_some] at h1
      omega)
  have RL := Lib.hid (fun t => (rounds_len nodes t).trans hn)
  clear hD hn hok hbig
  go_enter Try.func19, Try.ntmps19
  go_wp2
  go_step3
  go_wp2_with (at_make; refine wpList_make_full _ rfl _ _ 70 rfl w.heap.size 36 iu (.int .u64 0) 1 Try.underlying70 hiu hz0 hz1 .i64 .i64 _ _ n rfl rfl rfl rfl (by rw [hz2]; omega) (by unfold maxLen; omega) (Nat.le_refl _) ?_; (intro w1 hown hg1; have O1 := Lib.hid hown; have G1 := Lib.hid hg1; clear hown hg1))
  have U1 := Lib.hid (show U64At w1 (some ⟨w.heap.size, 0, none⟩) (plI (roundsN nodes 0)) from by
    have h := O1.out
    rw [Nat.mul_one, show (Value.int IntKind.u64 0).cells = #[Value.int IntKind.u64 0] from rfl, toList_madeCells_one, ← zeros_flat, ← HN.out] at h
    exact U64At.of h)
  have ST := Lib.hid (show StG w w1 nodes n (n * 1099511627776) (.slice (some ⟨w.heap.size, 0, none⟩) n n) from ⟨⟨0, _, _, Nat.sub_le _ _, rfl, U1.out⟩, G1.out⟩)
  clear hiu hz0 hz1 hz2 O1 G1 U1
  go_step3
  go_wp2
  go_loopg [3] (n * 1099511627776) (fun g v wr => StG w wr nodes n g v)
  case atStart => exact ST.out
  case round =>
    obtain ⟨⟨t, qp, cp, hgk, rfl, hu⟩, hg⟩ := hrel
    have LY := Lib.hid (laid_any (w := wr) (c := c) HN.out (HD.out.grown hg) (RL.out t) (cp := cp) hu HOK.out (P64.out t) (NL.out t) hfew)
    have HG := Lib.hid hg
    have HU := Lib.hid hu
    have HK := Lib.hid hgk
    clear hg hu hgk
    obtain ⟨P, hP⟩ : ∃ P, P = (layB (roundsN nodes t) nodes).length := ⟨_, rfl⟩
    have HP := Lib.hid hP
    rw [← hP] at LY
    clear hP
    go_wp2_with fail
    refine LY.out.mono ?_
    rintro e w2 ⟨qb, cb, qn, cn, rfl, hd⟩
    have G2 := Lib.hid (grown_trans HG.out hd.grown)
    have U2 := Lib.hid (show U64At w2 qn (plI (roundsN nodes (t + 1))) from U64At.of hd.n)
    have B2 := Lib.hid hd.b
    have V2 := Lib.hid (HU.out.grown hd.grown)
    clear hd LY
    go_wp2
    go_loopg [3, 19] n (fun g2 v3 vi wy => ∃ i : Nat, i ≤ n ∧ n - i ≤ g2 ∧ v3 = .slice qp n cp ∧ vi = .int .i64 (i : Int) ∧ wy = w2 ∧ Aside (∀ j, j < i → (roundsN nodes (t + 1)).getD j 0 = (roundsN nodes t).getD j 0))
    case atStart => exact ⟨0, Nat.zero_le _, Nat.le_refl _, rfl, rfl, rfl, fun j h => by omega⟩
    case round =>
      obtain ⟨i, hi, hgi, rfl, rfl, rfl, same⟩ := hrel
      by_cases hlt : i < n
      · have dl : decide ((i : Int) < (n : Int)) = true := by simp; omega
        have hiI : (i : Int) < (n : Int) := by omega
        obtain ⟨g1, rfl, c1⟩ := U2.out i _ (plI_at (by rw [RL.out]; exact hlt))
        obtain ⟨g0, rfl, c0⟩ := V2.out i _ (plI_at (by rw [RL.out]; exact hlt))
        obtain ⟨x, hx⟩ : ∃ x, x = (roundsN nodes (t + 1)).getD i 0 := ⟨_, rfl⟩
        obtain ⟨y, hy⟩ : ∃ y, y = (roundsN nodes t).getD i 0 := ⟨_, rfl⟩
        rw [← hx] at c1
        rw [← hy] at c0
        have HX := Lib.hid hx
        have HY := Lib.hid hy
        clear hx hy
        by_cases hxy : x = y
        · subst hxy
          go_wp2
          go_roundg (n - (i + 1))
          case measure => omega
          case rel => exact ⟨i + 1, hlt, Nat.le_refl _, rfl, by simp, rfl, fun j hj => by
            rcases Nat.lt_or_ge j i with h | h
            · exact same j h
            · obtain rfl : j = i := by omega
              rw [← HX.out, ← HY.out]⟩
        · have hne : (x : Int) ≠ (y : Int) := by omega
          have db : ((x : Int) == (y : Int)) = false := by simp; omega
          have HNE := Lib.hid hxy
          clear hxy
          have LT := Lib.hid (sum_lt (rounds_le nodes t) (fun e => HNE.out (by rw [HX.out, HY.out, e])))
          have RS := Lib.hid (round_small (NL.out t))
          go_wp2
          go_roundg (n * 1099511627776 - sumN (roundsN nodes (t + 1)))
          case measure => have h1 := LT.out; have h2 := RS.out; have h3 := HK.out; rw [HN.out] at h2; omega
          case rel => exact ⟨⟨t + 1, _, _, Nat.le_refl _, rfl, U2.out⟩, G2.out⟩
      · have hin : i = n := by omega
        subst hin
        have dl : decide ((i : Int) < (i : Int)) = false := by simp
        have EQ := Lib.hid (show roundsN nodes (t + 1) = roundsN nodes t from by
          have h1 := RL.out (t + 1)
          have h2 := RL.out t
          refine List.ext_getElem (by omega) fun j k1 k2 => ?_
          have := same j (by omega)
          rw [List.getD_eq_getElem?_getD, List.getElem?_eq_getElem k1, List.getD_eq_getElem?_getD, List.getElem?_eq_getElem k2] at this
          exact this)
        clear same
        go_wp2
        try rw [Exit.noGoto_ret]
        go_ret
        obtain rfl := HP.out
        exact ⟨⟨t, qb, cb, EQ.out, rfl, Go.Joins.ownsRow_le B2.out HG.out.size⟩, G2.out⟩
end Go.Proofs.Ytbnnlbdjjpmgeaa


namespace Go.Proofs.Ytbnnlbdjjpmgeaa
open Go.RowKit Go.PlainAid
variable {w w' W V : World}

theorem bt_nth {l : List Int} (h : Byt l) {i : Nat} (hi : i < l.length) : bt (strOfNums l) i = l.getD i 0 := by
  have h0 : i < (strOfNums l).size := by rw [strOfNums_size]; exact hi
  unfold bt
  rw [dif_pos h0]
  have hx := h (l[i]) (List.getElem_mem hi)
  have e : (strOfNums l)[i] = UInt8.ofNat (l[i]).toNat := by
    have := strOfNums_data l
    show (strOfNums l).data[i] = _
    have h1 : (strOfNums l).data.toList[i]'(by rw [Array.length_toList]; exact h0) = (l.map fun x => UInt8.ofNat x.toNat)[i]'(by rw [List.length_map]; exact hi) := by
      congr 1
    rw [Array.getElem_toList] at h1
    rw [h1, List.getElem_map]
  rw [e]
  simp only [UInt8.toNat_ofNat', List.getD_eq_getElem?_getD, List.getElem?_eq_getElem hi, Option.getD_some]
  omega
theorem lcp_next : ∀ (n : Nat) (a b : List Int), n ≤ lcpN a b → (n < lcpN a b ↔ n < a.length ∧ n < b.length ∧ a.getD n 0 = b.getD n 0)
  | n, [], b, h => by cases b <;> simp [lcpN]
  | n, _ :: _, [], h => by simp [lcpN]
  | 0, x :: a, y :: b, _ => by
    unfold lcpN
    by_cases h : x = y
    · rw [if_pos h]; simp [h]
    · rw [if_neg h]; simp [h]
  | n + 1, x :: a, y :: b, h => by
    unfold lcpN at h ⊢
    by_cases hxy : x = y
    · rw [if_pos hxy] at h ⊢
      have := lcp_next n a b (by omega)
      simp only [List.length_cons, List.getD_cons_succ]
      omega
    · rw [if_neg hxy] at h
      omega
set_option maxRecDepth 20000 in
set_option maxHeartbeats 1600000 in
theorem share_any (a b : List Int) (ha : Byt a) (hb : Byt b) (hlb : b.length ≤ 1000000000) (w : World) : Calls Try.prog 23 #[.string (strOfNums a), .string (strOfNums b)] w fun e w' => e = .returned (.string (strOfNums (a.take (lcpN a b)))) ∧ w.grownBy w' none := by
  have s1 : (strOfNums a).size = a.length := strOfNums_size _
  have s2 : (strOfNums b).size = b.length := strOfNums_size _
  have HA := Lib.hid (fun i hi => bt_nth ha (i := i) hi)
  have HB := Lib.hid (fun i hi => bt_nth hb (i := i) hi)
  have CUT := Lib.hid (strOf_cut a 0 (lcpN a b))
  have LT := Lib.hid (lcp_take a b)
  clear ha hb
  go_enter Try.func23, Try.ntmps23
  go_wp2
  go_loopw [5] (fun vn wl => ∃ n : Nat, n ≤ lcpN a b ∧ vn = .int .i64 n ∧ w.grownBy wl none) (fun vn _ => lcpN a b - (intOf vn).toNat)
  case atStart => exact ⟨0, Nat.zero_le _, rfl, grown_refl _ _⟩
  case round =>
    obtain ⟨n, hn, rfl, hg⟩ := hrel
    have G := Lib.hid hg
    have LN := Lib.hid (lcp_next n a b hn)
    have k1 := get_bt (strOfNums a)
    have k2 := get_bt (strOfNums b)
    clear hg
    obtain ⟨L, hL⟩ : ∃ L, L = lcpN a b := ⟨_, rfl⟩
    rw [← hL] at LN hn CUT LT ⊢
    have HL := Lib.hid hL
    clear hL
    by_cases ca : n < a.length
    · have da : decide ((n : Int) < (a.length : Int)) = true := by simp; omega
      by_cases cb : n < b.length
      · have db : decide ((n : Int) < (b.length : Int)) = true := by simp; omega
        have e1 := HA.out n ca
        have e2 := HB.out n cb
        by_cases ce : a.getD n 0 = b.getD n 0
        · have de : (bt (strOfNums a) n == bt (strOfNums b) n) = true := by rw [e1, e2, ce]; simp
          have hlt : n < L := LN.out.2 ⟨ca, cb, ce⟩
          have hL9 := LT.out.2.1
          clear e1 e2 ce
          go_wp2
          go_quiet (fail)
          go_wp2
          go_roundw
          case rel => exact ⟨n + 1, hlt, by go_num, grown_drewN G.out _⟩
          case measure => (simp [intOf]; omega)
        · have de : (bt (strOfNums a) n == bt (strOfNums b) n) = false := by rw [e1, e2]; simpa using ce
          have hnl : n = L := by have h := LN.out; omega
          clear e1 e2 ce
          subst hnl
          have hc := CUT.out
          rw [List.drop_zero] at hc
          go_wp2
          go_quiet (fail)
          go_wp2
          go_ret
          exact ⟨by rw [← HL.out]; rfl, grown_drewN G.out _⟩
      · have db : decide ((n : Int) < (b.length : Int)) = false := by simp; omega
        have db2 : decide (n < b.length) = false := by simp; omega
        have hnl : n = L := by have h := LN.out; omega
        subst hnl
        have hc := CUT.out
        rw [List.drop_zero] at hc
        go_wp2
        go_quiet (fail)
        go_wp2
        go_ret
        exact ⟨by rw [← HL.out]; rfl, grown_drewN G.out _⟩
    · have da : decide ((n : Int) < (a.length : Int)) = false := by simp; omega
      have da2 : decide (n < a.length) = false := by simp; omega
      have hnl : n = L := by have h := LN.out; omega
      subst hnl
      have hc := CUT.out
      rw [List.drop_zero] at hc
      have hle := LT.out.2.1
      go_wp2
      go_quiet (fail)
      go_wp2
      go_ret
      exact ⟨by rw [← HL.out]; rfl, grown_drewN G.out _⟩
set_option maxRecDepth 20000 in
set_option maxHeartbeats 1600000 in
theorem common_any (a b : List Int) (ha : Byt a) (hb : Byt b) (hla : a.length ≤ 1000000000) (w : World) : Calls Try.prog 41 #[.string (strOfNums a), .string (strOfNums b)] w fun e w' => e = .returned (.int .i64 (lcpN a b : Nat)) ∧ w.grownBy w' none := by
  have s1 : (strOfNums a).size = a.length := strOfNums_size _
  have s2 : (strOfNums b).size = b.length := strOfNums_size _
  have HA := Lib.hid (fun i hi => bt_nth ha (i := i) hi)
  have HB := Lib.hid (fun i hi => bt_nth hb (i := i) hi)
  have LT := Lib.hid (lcp_take a b)
  clear ha hb
  go_enter Try.func41, Try.ntmps41
  go_wp2
  go_loopw [5] (fun vn wl => ∃ n : Nat, n ≤ lcpN a b ∧ vn = .int .i64 n ∧ w.grownBy wl none) (fun vn _ => lcpN a b - (intOf vn).toNat)
  case atStart => exact ⟨0, Nat.zero_le _, rfl, grown_refl _ _⟩
  case round =>
    obtain ⟨n, hn, rfl, hg⟩ := hrel
    have G := Lib.hid hg
    have LN := Lib.hid (lcp_next n a b hn)
    have k1 := get_bt (strOfNums a)
    have k2 := get_bt (strOfNums b)
    clear hg
    obtain ⟨L, hL⟩ : ∃ L, L = lcpN a b := ⟨_, rfl⟩
    rw [← hL] at LN hn LT ⊢
    have HL := Lib.hid hL
    clear hL
    by_cases cm : n < a.length ∧ n < b.length
    · obtain ⟨ca, cb⟩ := cm
      have da : (n : Int) < min (a.length : Int) (b.length : Int) := by omega
      have da1 : decide ((n : Int) < min (a.length : Int) (b.length : Int)) = true := decide_eq_true da
      have da2 : (n : Int) < (a.length : Int) := by omega
      have da3 : (n : Int) < (b.length : Int) := by omega
      have e1 := HA.out n ca
      have e2 := HB.out n cb
      by_cases ce : a.getD n 0 = b.getD n 0
      · have de : (bt (strOfNums a) n == bt (strOfNums b) n) = true := by rw [e1, e2, ce]; simp
        have hlt : n < L := LN.out.2 ⟨ca, cb, ce⟩
        have hL9 := LT.out.2.1
        clear e1 e2 ce
        go_wp2
        go_quiet (fail)
        go_wp2
        go_roundw
        case rel => exact ⟨n + 1, hlt, by go_num, grown_drewN G.out _⟩
        case measure => (simp [intOf]; omega)
      · have de : (bt (strOfNums a) n == bt (strOfNums b) n) = false := by rw [e1, e2]; simpa using ce
        have hnl : n = L := by have h := LN.out; omega
        clear e1 e2 ce
        subst hnl
        go_wp2
        go_quiet (fail)
        go_wp2
        go_ret
        exact ⟨by rw [← HL.out]; rfl, grown_drewN G.out _⟩
    · have da : ¬ (n : Int) < min (a.length : Int) (b.length : Int) := by omega
      have da1 : decide ((n : Int) < min (a.length : Int) (b.length : Int)) = false := decide_eq_false da
      have hnl : n = L := by have h := LN.out; omega
      clear cm
      subst hnl
      go_wp2
      go_quiet (fail)
      go_wp2
      go_ret
      exact ⟨by rw [← HL.out]; rfl, grown_drewN G.out _⟩
end Go.Proofs.Ytbnnlbdjjpmgeaa


namespace Go.Proofs.Ytbnnlbdjjpmgeaa
open Go.RowKit
variable {w w' W V : World}

set_option maxRecDepth 20000 in
set_option maxHeartbeats 1600000 in
theorem twice_any (D : Out) (n : Nat) (hn : D.length = n) (hbig : n ≤ 1000000) (hb : ∀ y ∈ D, Byt y.1) (q : Option Addr) (c : Nat) (h : ExsAt w q D) :
    Calls Try.prog 18 #[.slice q n c] w fun e w' => (∃ r : Bool, e = .returned (.bool r) ∧ (r = true → ∃ i a b, D[i]? = some a ∧ D[i + 1]? = some b ∧ a.1 = b.1) ∧ (r = false → ∀ i a b, D[i]? = some a → D[i + 1]? = some b → a.1 ≠ b.1)) ∧ w.grownBy w' none := by
  subst hn
  have HH := Lib.hid h
  have HB := Lib.hid hb
  clear h hb
  go_enter Try.func18, Try.ntmps18
  go_wp2
  go_loopw [3] (fun vi wl => ∃ i : Nat, 1 ≤ i ∧ i ≤ D.length + 1 ∧ vi = .int .i64 i ∧ w.grownBy wl none ∧ Hid (∀ j a b, j + 1 < i → D[j]? = some a → D[j + 1]? = some b → a.1 ≠ b.1)) (fun vi _ => D.length + 1 - (intOf vi).toNat)
  case atStart => exact ⟨1, Nat.le_refl _, by omega, rfl, grown_refl _ _, Lib.hid (fun j a b h => by omega)⟩
  case round =>
    obtain ⟨i, h1, hi, rfl, hg, NO⟩ := hrel
    have G := Lib.hid hg
    by_cases hlt : i < D.length
    · obtain ⟨k, rfl⟩ : ∃ k, i = k + 1 := ⟨i - 1, by omega⟩
      obtain ⟨a, ha⟩ : ∃ a, D[k]? = some a := ⟨_, List.getElem?_eq_getElem (by omega)⟩
      obtain ⟨b, hb⟩ : ∃ b, D[k + 1]? = some b := ⟨_, List.getElem?_eq_getElem hlt⟩
      obtain ⟨g, o, rfl, c0⟩ := (HH.out.grown hg).name ha
      obtain ⟨g', o', e, c1⟩ := (HH.out.grown hg).name hb
      injection e with e
      injection e with e1 e2 _
      subst e1 e2
      have dl : decide (((k + 1 : Nat) : Int) < (D.length : Int)) = true := by simp; omega
      have dl2 : decide ((k : Int) + 1 < (D.length : Int)) = true := by simp; omega
      have hk1 : (k : Int) + 1 < (D.length : Int) := by omega
      have hk0 : (k : Int) < (D.length : Int) := by omega
      have hcan : (k : Int) + 1 - 1 = (k : Int) := by omega
      have hnm := name_is (HB.out b (List.mem_of_getElem? hb)) (HB.out a (List.mem_of_getElem? ha))
      have HA := Lib.hid ha
      have HBB := Lib.hid hb
      clear ha hb hg
      by_cases he : b.1 = a.1
      · rw [decide_eq_true he] at hnm
        have HE := Lib.hid he
        clear he
        go_wp2
        go_quiet (fail)
        go_wp2
        go_ret
        exact ⟨⟨true, rfl, fun _ => ⟨k, a, b, HA.out, HBB.out, HE.out.symm⟩, fun h => by cases h⟩, grown_drewN G.out _⟩
      · rw [decide_eq_false he] at hnm
        have HE := Lib.hid he
        have NO2 := Lib.hid (show ∀ j x y, j + 1 < k + 1 + 1 → D[j]? = some x → D[j + 1]? = some y → x.1 ≠ y.1 from fun j x y hj hx hy => by
          rcases Nat.lt_or_ge (j + 1) (k + 1) with h | h
          · exact NO.out j x y h hx hy
          · obtain rfl : j = k := by omega
            rw [HA.out] at hx
            rw [HBB.out] at hy
            injection hx with hx
            injection hy with hy
            rw [← hx, ← hy]
            exact fun e => he e.symm)
        clear he NO
        go_wp2
        go_quiet (fail)
        go_wp2
        go_roundw
        case rel => exact ⟨k + 1 + 1, by omega, by omega, by go_num, grown_drewN G.out _, Lib.hid NO2.out⟩
        case measure => simp [intOf]; omega
    · have dl : decide ((i : Int) < (D.length : Int)) = false := by simp; omega
      have dl2 : decide (i < D.length) = false := by simp; omega
      have FN := Lib.hid (show ∀ j a b, D[j]? = some a → D[j + 1]? = some b → a.1 ≠ b.1 from fun j a b ha hb => NO.out j a b (by
        obtain ⟨h2, _⟩ := List.getElem?_eq_some_iff.1 hb
        omega) ha hb)
      clear NO hlt hg
      go_wp2
      go_ret
      exact ⟨⟨false, rfl, fun h => (by cases h), fun _ => FN.out⟩, G.out⟩
end Go.Proofs.Ytbnnlbdjjpmgeaa


namespace Go.Proofs.Ytbnnlbdjjpmgeaa
open Go.RowKit Go.PlainAid
variable {w w' W V : World}

set_option maxRecDepth 20000 in
set_option maxHeartbeats 1600000 in
theorem alike1_any {ca cl n at' : Nat} {q : Option Addr} {c : Nat} {y0 x : List Int × Ex} {D : Out} (h1 : OneAt W ca (.int .i64 at') 3) (h2 : OneAt W cl (.slice q n c) 22) (hn : 1 ≤ n) (h3 : ExsAt W q (y0 :: D)) (hx : at' < x.1.length) (h0 : at' < y0.1.length) (bx : Byt x.1) (b0 : Byt y0.1) :
    Calls Try.prog 57 #[exV (strOfNums x.1) x.2, .pointer (some ⟨ca, 0, none⟩), .pointer (some ⟨cl, 0, none⟩)] W fun e w' => e = .returned (.bool (!sameAt at' y0 x)) ∧ W.grownBy w' none := by
  have g1 := grown1 W (.cells (exArr (strOfNums x.1) x.2) 38)
  have E1 : ExAt (W.alloc (.cells (exArr (strOfNums x.1) x.2) 38)) W.heap.size (strOfNums x.1) x.2 := heap_alloc_new W _
  obtain ⟨g, o, rfl, k0⟩ := (h3.grown g1).name (i := 0) (y := y0) rfl
  rw [Nat.zero_mul, Nat.add_zero] at k0
  have m1 := (h1.grown g1).c
  have m2 := (h2.grown g1).c
  obtain ⟨w1, hw1⟩ : ∃ w1, W.alloc (.cells (exArr (strOfNums x.1) x.2) 38) = w1 := ⟨_, rfl⟩
  obtain ⟨gx, hg0⟩ : ∃ g, W.heap.size = g := ⟨_, rfl⟩
  rw [hw1] at g1 E1 k0 m1 m2
  rw [hg0] at E1
  have HG := Lib.hid g1
  have HW1 := Lib.hid hw1
  have HG0 := Lib.hid hg0
  obtain ⟨c0, c1, c2, c3, c4, c5, c6⟩ := E1.c
  have s1 : (strOfNums x.1).size = x.1.length := strOfNums_size _
  have s2 : (strOfNums y0.1).size = y0.1.length := strOfNums_size _
  have e1 := bt_nth bx hx
  have e2 := bt_nth b0 h0
  have k1 := get_bt (strOfNums x.1)
  have k2 := get_bt (strOfNums y0.1)
  have hd1 : (at' : Int) < (x.1.length : Int) := by omega
  have hd2 : (at' : Int) < (y0.1.length : Int) := by omega
  have HS := Lib.hid (show (bt (strOfNums x.1) at' != bt (strOfNums y0.1) at') = !sameAt at' y0 x by rw [e1, e2]; unfold sameAt; rfl)
  clear E1 g1 hw1 hg0 e1 e2 h1 h2 h3 bx b0
  go_enter Try.func57, Try.ntmps57
  simp only [exV, exArr] at HW1 ⊢
  go_upto_region 1 with fail
  rw [HW1.out, HG0.out]
  clear HW1 HG0
  go_quiet (fail)
  go_wp2
  go_ret
  exact ⟨by rw [← HS.out]; rfl, grown_drewN HG.out _⟩
theorem while_all {α : Type} {f : α → Bool} : ∀ (l : List α), (∀ z ∈ l, f z = true) → l.takeWhile f = l
  | [], _ => rfl
  | a :: l, h => by
    rw [List.takeWhile_cons, h a (List.mem_cons_self ..)]
    simp only [if_true]
    rw [while_all l (fun z hz => h z (List.mem_cons_of_mem _ hz))]
theorem alike_all {n : Nat} {y : List Int × Ex} {l : Out} (h : ∀ z ∈ y :: l, sameAt n y z = true) : alikeN n (y :: l) = (y :: l).length := by
  show ((y :: l).takeWhile (sameAt n y)).length = _
  rw [while_all _ h]
theorem while_at {α : Type} {f : α → Bool} : ∀ {l : List α} {k : Nat} {x : α}, (∀ i z, i < k → l[i]? = some z → f z = true) → l[k]? = some x → f x = false → (l.takeWhile f).length = k
  | [], _, _, _, h, _ => by simp at h
  | a :: l, 0, x, _, h, hf => by
    injection h with h
    subst h
    rw [List.takeWhile_cons, hf]
    rfl
  | a :: l, k + 1, x, hn, h, hf => by
    rw [List.takeWhile_cons, hn 0 a (by omega) rfl]
    simp only [if_true, List.length_cons]
    rw [while_at (fun i z hi hz => hn (i + 1) z (by omega) hz) h hf]
set_option maxRecDepth 20000 in
set_option maxHeartbeats 1600000 in
theorem alike_any (y : List Int × Ex) (l : Out) (n at' : Nat) (hn : (y :: l).length = n) (hbig : n ≤ 1000000) (q : Option Addr) (c : Nat) (h : ExsAt w q (y :: l)) (hb : ∀ z ∈ y :: l, Byt z.1 ∧ at' < z.1.length ∧ z.1.length ≤ 1000000000) :
    Calls Try.prog 40 #[.slice q n c, .int .i64 at'] w fun e w' => e = .returned (.int .i64 (alikeN at' (y :: l) : Nat)) ∧ w.grownBy w' none := by
  have g1 := grown1 w (.cells #[.slice q n c] 22)
  have o1 := OneAt.new w (.slice q n c) 22
  obtain ⟨w1, hw1⟩ : ∃ w1, w.alloc (.cells #[.slice q n c] 22) = w1 := ⟨_, rfl⟩
  obtain ⟨cl, hcl⟩ : ∃ cl, w.heap.size = cl := ⟨_, rfl⟩
  rw [hw1] at g1 o1
  rw [hcl] at o1
  have g2 := grown1 w1 (.cells #[.int .i64 at'] 3)
  have o2 := OneAt.new w1 (.int .i64 at') 3
  obtain ⟨w2, hw2⟩ : ∃ w2, w1.alloc (.cells #[.int .i64 at'] 3) = w2 := ⟨_, rfl⟩
  obtain ⟨ca, hca⟩ : ∃ ca, w1.heap.size = ca := ⟨_, rfl⟩
  rw [hw2] at g2 o2
  rw [hca] at o2
  have O1 := Lib.hid (o1.grown g2)
  have O2 := Lib.hid o2
  have G2 := Lib.hid (grown_trans g1 g2)
  have X2 := Lib.hid (h.grown (grown_trans g1 g2))
  have HB := Lib.hid hb
  have HW := Lib.hid (And.intro hw1 (And.intro hcl (And.intro hw2 (show cl + 1 = ca by rw [← hca, ← hw1, World.size_alloc, hcl]))))
  have hn1 : 1 ≤ n := by rw [← hn]; simp
  have IX := Lib.hid (indexEx_any (w := w2) (f := 57) (cbs := #[.pointer (some ⟨ca, 0, none⟩), .pointer (some ⟨cl, 0, none⟩)]) (enters_of Try.func57 (by kernel_rfl) rfl) (fun x => !sameAt at' y x) (y :: l) n hn (by omega) q c X2.out (fun W x hW hx => by
    have hx2 := HB.out x hx
    have hy2 := HB.out y (List.mem_cons_self ..)
    exact alike1_any (O2.out.grown hW) (O1.out.grown hW) hn1 (X2.out.grown hW) hx2.2.1 hy2.2.1 hx2.1 hy2.1))
  have HN := Lib.hid hn
  have c1 := O1.out.c
  have l1 := O1.out.lt
  clear g1 o1 g2 o2 h hb hw1 hcl hw2 hca hn
  go_enter Try.func40, Try.ntmps40
  go_upto_region 1 with fail
  rw [HW.out.1, HW.out.2.1, HW.out.2.2.1, HW.out.2.2.2]
  go_wp2_with fail
  refine IX.out.mono ?_
  rintro e w3 ⟨hres, hg3⟩
  have G3 := Lib.hid (grown_trans G2.out hg3)
  have c3 := (O1.out.grown hg3).c
  rcases hres with ⟨rfl, hall⟩ | ⟨k, x, hk, rfl, hx, hp, hno⟩
  · have E := Lib.hid (show alikeN at' (y :: l) = n by rw [alike_all (fun z hz => by simpa using hall z hz)]; exact HN.out)
    clear hall hg3 c1
    go_wp2
    go_ret
    exact ⟨by rw [E.out]; rfl, G3.out⟩
  · have E := Lib.hid (show alikeN at' (y :: l) = k from while_at (fun i z hi hz => by simpa using hno i z hi hz) hx (by simpa using hp))
    have dk : decide ((k : Int) < 0) = false := by simp
    clear hx hp hno hg3 c1
    go_wp2
    go_ret
    exact ⟨by rw [E.out]; rfl, G3.out⟩
end Go.Proofs.Ytbnnlbdjjpmgeaa

