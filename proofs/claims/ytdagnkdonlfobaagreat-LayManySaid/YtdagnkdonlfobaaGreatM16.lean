import Derived.Test.YtdagnkdonlfobaaGreatM15
import Derived.Laws.CopyOwn
import Derived.OrdersIn
import Derived.Lib.EndianBits
/- Bytes that are written into a page, and what a space then tells. No condition. -/
namespace Go.Proofs.YtdagnkdonlfobaaGreat
open Go.RowKit Go.Maps Go.ChangeMaps
variable {w w' W : World} {F : Nat → Prop} {σ : Spc}

def Spc.put (σ : Spc) (a : Nat) (xs : List Int) : Spc := ⟨σ.P, fun x => if a ≤ x ∧ x < a + xs.length then xs.getD (x - a) 0 else σ.B x, σ.K⟩
theorem put_nil (a : Nat) : σ.put a [] = σ := by
  have e : (σ.put a []).B = σ.B := by
    funext x
    exact if_neg (by simp)
  exact congrArg (fun b => Spc.mk σ.P b σ.K) e
theorem put_put (a : Nat) (xs ys : List Int) : (σ.put a xs).put (a + xs.length) ys = σ.put a (xs ++ ys) := by
  have e : ((σ.put a xs).put (a + xs.length) ys).B = (σ.put a (xs ++ ys)).B := by
    funext x
    show (if a + xs.length ≤ x ∧ x < a + xs.length + ys.length then ys.getD (x - (a + xs.length)) 0 else if a ≤ x ∧ x < a + xs.length then xs.getD (x - a) 0 else σ.B x) = if a ≤ x ∧ x < a + (xs ++ ys).length then (xs ++ ys).getD (x - a) 0 else σ.B x
    rw [List.length_append]
    by_cases h1 : a + xs.length ≤ x ∧ x < a + xs.length + ys.length
    · rw [if_pos h1, if_pos (by omega), List.getD_eq_getElem?_getD, List.getD_eq_getElem?_getD, List.getElem?_append_right (by omega), show x - a - xs.length = x - (a + xs.length) by omega]
    · rw [if_neg h1]
      by_cases h2 : a ≤ x ∧ x < a + xs.length
      · rw [if_pos h2, if_pos (by omega), List.getD_eq_getElem?_getD, List.getD_eq_getElem?_getD, List.getElem?_append_left (by omega)]
      · rw [if_neg h2, if_neg (by omega)]
  exact congrArg (fun b => Spc.mk σ.P b σ.K) e
theorem put_fits (h : Fits σ) (a : Nat) {xs : List Int} (hx : ∀ x ∈ xs, 0 ≤ x ∧ x < 256) : Fits (σ.put a xs) := by
  refine ⟨h.few, h.low, h.prot, fun x => ?_, h.none⟩
  show 0 ≤ (if a ≤ x ∧ x < a + xs.length then xs.getD (x - a) 0 else σ.B x) ∧ (if a ≤ x ∧ x < a + xs.length then xs.getD (x - a) 0 else σ.B x) < 256
  split
  · rw [List.getD_eq_getElem?_getD, List.getElem?_eq_getElem (by omega)]
    exact hx _ (List.getElem_mem _)
  · exact h.bytes x

def u8s (xs : List Int) : List Value := xs.map (Value.int .u8)
theorem u8s_len (xs : List Int) : (u8s xs).length = xs.length := List.length_map _
theorem u8s_one {xs : List Int} : ∀ v ∈ u8s xs, v.oneCell' = true := by
  intro v hv
  obtain ⟨x, _, rfl⟩ := List.mem_map.1 hv
  rfl
/-- The page that is written. -/
theorem page_put {p o : Nat} {xs : List Int} (ho : o + xs.length ≤ 4096) : (splice (pageArr σ.B p).toList o (u8s xs)).toArray = pageArr (σ.put (4096 * p + o) xs).B p := by
  have hl : (pageArr σ.B p).toList.length = 4096 := by simp [pageArr, pageVals]
  have hl2 : (splice (pageArr σ.B p).toList o (u8s xs)).length = 4096 := by rw [length_splice _ _ _ (by rw [u8s_len, hl]; exact ho), hl]
  apply Array.ext_getElem?
  intro i
  rw [List.getElem?_toArray]
  by_cases hi : i < 4096
  · have hg := pageVals_get (fun i => (σ.put (4096 * p + o) xs).B (4096 * p + i)) hi
    have hb := pageVals_get (fun i => σ.B (4096 * p + i)) hi
    have e : ((pageArr σ.B p).toList)[i]? = some (.int .u8 (σ.B (4096 * p + i))) := by rw [Array.getElem?_toList]; exact hb
    rw [show (pageArr (σ.put (4096 * p + o) xs).B p)[i]? = _ from hg]
    unfold splice
    show ((pageArr σ.B p).toList.take o ++ (u8s xs ++ (pageArr σ.B p).toList.drop (o + (u8s xs).length)))[i]? = some (.int .u8 (if 4096 * p + o ≤ 4096 * p + i ∧ 4096 * p + i < 4096 * p + o + xs.length then xs.getD (4096 * p + i - (4096 * p + o)) 0 else σ.B (4096 * p + i)))
    rw [u8s_len]
    by_cases h1 : i < o
    · rw [if_neg (by omega), List.getElem?_append_left (by rw [List.length_take, hl]; omega), List.getElem?_take_of_lt h1, e]
    · rw [List.getElem?_append_right (by rw [List.length_take, hl]; omega), List.length_take, hl, show min o 4096 = o by omega]
      by_cases h2 : i < o + xs.length
      · rw [if_pos (by omega), List.getElem?_append_left (by rw [u8s_len]; omega), show 4096 * p + i - (4096 * p + o) = i - o by omega]
        unfold u8s
        rw [List.getElem?_map, List.getElem?_eq_getElem (by omega)]
        simp [List.getD, show i - o < xs.length by omega]
      · rw [if_neg (by omega), List.getElem?_append_right (by rw [u8s_len]; omega), u8s_len, List.getElem?_drop, show o + xs.length + (i - o - xs.length) = i by omega, e]
  · rw [List.getElem?_eq_none (by omega), Array.getElem?_eq_none (by unfold pageArr; rw [pageVals_size]; omega)]
theorem page_else {p q o : Nat} {xs : List Int} (ho : o + xs.length ≤ 4096) (hq : q ≠ p) : pageArr (σ.put (4096 * p + o) xs).B q = pageArr σ.B q :=
  pageVals_congr fun i hi => by
    show (if 4096 * p + o ≤ 4096 * q + i ∧ 4096 * q + i < 4096 * p + o + xs.length then _ else σ.B (4096 * q + i)) = _
    rw [if_neg (by omega)]
theorem put_maps {g : Nat → Nat} {Dp Dq : DataW Unit} (h : MapsOf σ g Dp Dq) (a : Nat) (xs : List Int) : MapsOf (σ.put a xs) g Dp Dq := ⟨h.szp, h.szq, h.hasp, h.hasq, h.atp, h.atq, h.inj⟩

theorem sp_grown_setRow {g : Nat} (w : World) (cs : Array Value) : w.grownBy (w.setRow g cs) (some g) :=
  ⟨rfl, rfl, rfl, by simp [World.setRow], fun k hk hn => setRow_other w g k cs (fun e => hn (by rw [e]))⟩

def ptrBlock : Result Value → Nat
  | .ok (.pointer (some x)) _ => x.block
  | _ => 0
/-- The space, once a page is written. -/
theorem SpcAt.wrote {a G p o : Nat} {mp : Value} {xs : List Int} (h : SpcAt W F a σ) (hmp : W.cell? ⟨a, 0, none⟩ = some mp) (hP : σ.P p ≠ 0) (hp : p < 18446744073709551616)
    (hl : (Instr.lookup 63 mp (.int .u64 p) false).run Tryz.prog W = .ok (.pointer (some ⟨G, 0, none⟩)) W) (ho : o + xs.length ≤ 4096) (hx : ∀ x ∈ xs, 0 ≤ x ∧ x < 256) :
    F G ∧ W.heap[G]? = some (.cells (pageArr σ.B p) 99 (0, 0)) ∧ SpcAt (W.setRow G (splice (pageArr σ.B p).toList o (u8s xs)).toArray) F a (σ.put (4096 * p + o) xs) := by
  obtain ⟨h1, h2, mp', mq, hb, hm⟩ := h
  have e1 : mp' = mp := Option.some.inj ((cell_of (i := 0) hb).symm.trans hmp)
  subst e1
  cases hm with
  | bare h0 _ => exact absurd (h0 p) hP
  | full bp bq g Dp Dq hne hpm hqm hmm fp fq fg =>
    obtain ⟨v, ps, h3, h4⟩ := World.ownsMap.lookup hpm u64keyed Tryz.underlying63 (zeroPtr W) (zd := .nil) (zp := []) rfl (key_of hp)
    rw [hmm.atp p _ hP] at h4
    rw [h3, ptrElem_inv h4] at hl
    have e2 : g p = G := congrArg ptrBlock hl
    obtain ⟨f1, f2⟩ := fg p hP
    rw [e2] at f1 f2
    obtain ⟨_, _, op⟩ := owns_obj hpm
    obtain ⟨_, _, oq⟩ := owns_obj hqm
    have n1 := obj_ne f2 op
    have n2 := obj_ne f2 oq
    have n3 : a ≠ G := by
      rintro rfl
      rw [hb] at f2
      injection f2 with f2
      injection f2 with _ f2 _
      cases f2
    refine ⟨f1, f2, h1, put_fits h2 _ hx, _, _, (setRow_other W G a _ n3).trans hb, .full bp bq g Dp Dq hne (owns_at hpm (setRow_other W G bp _ (Ne.symm n1))) (owns_at hqm (setRow_other W G bq _ (Ne.symm n2))) (put_maps hmm _ _) fp fq fun m hmP => ⟨(fg m hmP).1, ?_⟩⟩
    by_cases e : m = p
    · subst e
      rw [e2, page_put ho]
      exact setRow_heap W G _ _ _ _ f2
    · rw [page_else ho e]
      have ng : g m ≠ G := fun h => e (hmm.inj m p hmP hP (by rw [h, e2]))
      exact (setRow_other W G (g m) _ ng).trans (fg m hmP).2

/-- What is looked up in a space, in whatever world that has turned neither the space's own block nor its pages' map. -/
theorem SpcAt.look {a : Nat} (h : SpcAt w F a σ) : ∃ (mp : Value) (g : Nat → Nat) (bp : Nat), F bp ∧ bp < w.heap.size ∧ (∀ cs, w.heap[bp]? ≠ some (.cells cs 99 (0, 0))) ∧ (∀ cs, w.heap[a]? ≠ some (.cells cs 99 (0, 0))) ∧
    ∀ W : World, W.heap[a]? = w.heap[a]? → W.heap[bp]? = w.heap[bp]? → W.cell? ⟨a, 0, none⟩ = some mp ∧
    ∀ m, m < 18446744073709551616 → σ.P m ≠ 0 → (Instr.lookup 63 mp (.int .u64 m) false).run Tryz.prog W = .ok (.pointer (some ⟨g m, 0, none⟩)) W := by
  obtain ⟨h1, _, mp, mq, hb, hm⟩ := h
  have na : ∀ cs, w.heap[a]? ≠ some (.cells cs 99 (0, 0)) := fun cs e => by
    rw [hb] at e
    injection e with e
    injection e with _ e _
    cases e
  cases hm with
  | bare h0 _ =>
    refine ⟨.map none, fun _ => 0, a, h1, lt_of_block hb, na, na, fun W hW _ => ⟨?_, fun m _ hP => absurd (h0 m) hP⟩⟩
    rw [cell_of (hW.trans hb)]; rfl
  | full bp bq g Dp Dq hne hp hq hm fp fq fg =>
    obtain ⟨_, _, op⟩ := owns_obj hp
    refine ⟨.map (some bp), g, bp, fp, lt_of_block op, fun cs e => absurd rfl (obj_ne e op), na, fun W hW hW2 => ⟨?_, fun m hm64 hP => ?_⟩⟩
    · rw [cell_of (hW.trans hb)]; rfl
    · have hp' : PMap W bp σ.K Dp := owns_at hp hW2
      obtain ⟨v, ps, h1, h2⟩ := World.ownsMap.lookup hp' u64keyed Tryz.underlying63 (zeroPtr W) (zd := .nil) (zp := []) rfl (key_of hm64)
      rw [hm.atp m _ hP] at h2
      rw [h1, ptrElem_inv h2]
end Go.Proofs.YtdagnkdonlfobaaGreat

/- Bytes are written, if they may be: put. Conditions: they are bytes, that lie in none of the space's blocks. -/
namespace Go.Proofs.YtdagnkdonlfobaaGreat
open Go.RowKit Go.Maps Go.ChangeMaps
attribute [local go_sem] Oper.semAt_some
variable {w w' W : World} {F : Nat → Prop} {σ : Spc}

/-- Bytes that lie where nothing of these is. -/
def Apart (w : World) (F : Nat → Prop) (q : Option Addr) (c : Nat) (ys : List Int) : Prop :=
  (q = none → c = 0) ∧ (0 < ys.length → ∃ b o, q = some ⟨b, o, none⟩ ∧ b < w.heap.size ∧ ¬ F b ∧ ∀ i, i < ys.length → w.cell? ⟨b, o + i, none⟩ = some (.int .u8 (ys.getD i 0)))
theorem cell_block {b : Nat} {o : Nat} (h : W.heap[b]? = w.heap[b]?) : W.cell? ⟨b, o, none⟩ = w.cell? ⟨b, o, none⟩ := by unfold World.cell?; rw [h]
theorem Apart.kept {G : Nat → Prop} {q : Option Addr} {c : Nat} {ys : List Int} (h : Apart w F q c ys) (hg : Chg G w w') (hG : ∀ k, k < w.heap.size → G k → F k) : Apart w' F q c ys :=
  ⟨h.1, fun h0 => by
    obtain ⟨b, o, e, hlt, hF, hc⟩ := h.2 h0
    exact ⟨b, o, e, Nat.lt_of_lt_of_le hlt hg.size, hF, fun i hi => (cell_block (hg.block b hlt (fun hg' => hF (hG b hlt hg')))).trans (hc i hi)⟩⟩
theorem Apart.foot {q : Option Addr} {c : Nat} {ys : List Int} (h : Apart w F q c ys) : Apart w (fun k => F k ∨ w.heap.size ≤ k) q c ys :=
  ⟨h.1, fun h0 => by
    obtain ⟨b, o, e, hlt, hF, hc⟩ := h.2 h0
    exact ⟨b, o, e, hlt, fun h => h.elim hF (fun h => by omega), hc⟩⟩

theorem stepIn_copy {Fe : Fence} {fu : Nat} {ops : Array Oper} {o : Oper} {a : Act} {K : Act → World → Prop} {Q : Exit → Act → World → Prop} {E : Prop} {w2 : World} (hgd : o.guard = none) (d s : Operand)
    (ho : o.op = .call { callee := .builtin .copy, args := #[d, s], argTypes := #[31, 31] }) (dv sv : Value) (hd : a.eval d = dv) (hs : a.eval s = sv) (m : Nat)
    (hrun : ∀ ty, (Builtin.copy_ #[31, 31] ty #[dv, sv]).run Tryz.prog w = .ok (goInt m) w2) (h : K (a.put o.dst (.int .i64 m)) w2) :
    if Region.wanted o (yielded ops a.tmps) = true then Oper.wpIn Fe fu Tryz.prog o a w K Q else E := by
  have hw : Region.wanted o (yielded ops a.tmps) = true := by simp [Region.wanted, hgd]
  rw [if_pos hw]
  unfold Oper.wpIn
  refine ⟨?_, ?_⟩
  · intro f hf
    simp [Oper.about, ho, resolve, Target.leads, Sem.run_pure] at hf
  · rw [Oper.semAt_plain Fe _ _ (by rw [ho]; intro c hc; cases hc)]
    simp [execOp, ho, resolve, invoke, builtin, hd, hs, hrun, Result.andThen]
    exact h
theorem info_u8_size : (Tryz.prog.info? 5).map (·.size) = some 1 := by kernel_rfl
/-- The copy of so many bytes into a page. -/
theorem copy_page {G o m c b oo N c' p : Nat} {ys : List Int} (hG : w.heap[G]? = some (.cells (pageArr σ.B p) 99 (0, 0))) (ho : o + m ≤ 4096) (hm : m ≤ N) (hl : ys.length = N) (hc : ∀ i, i < ys.length → w.cell? ⟨b, oo + i, none⟩ = some (.int .u8 (ys.getD i 0))) (ty : TypeId) :
    (Builtin.copy_ #[31, 31] ty #[.slice (some ⟨G, o, none⟩) m c, .slice (some ⟨b, oo, none⟩) N c']).run Tryz.prog w = .ok (goInt m) (w.setRow G (splice (pageArr σ.B p).toList o (u8s (ys.take m))).toArray) := by
  have hlen : (u8s (ys.take m)).length = m := by rw [u8s_len, List.length_take]; omega
  have h := run_copy_row (P := Tryz.prog) w 31 31 ty 5 G o m c ⟨b, oo, none⟩ N c' (pageArr σ.B p) 99 (u8s (ys.take m)) Tryz.underlying31 info_u8_size hG (by rw [hlen]; exact (Nat.min_eq_right hm).symm)
    (fun j v hv => by
      unfold u8s at hv
      rw [List.getElem?_map] at hv
      obtain ⟨z, hz, rfl⟩ := Option.map_eq_some_iff.1 hv
      obtain ⟨hj, hz⟩ := List.getElem?_eq_some_iff.1 hz
      rw [List.length_take] at hj
      rw [List.getElem_take] at hz
      rw [add_flat, hc j (by omega)]
      simp [List.getD, show j < ys.length by omega, hz])
    (by rw [hlen]; unfold pageArr; rw [pageVals_size]; exact ho) u8s_one
  rw [h, hlen]
  unfold splice
  rw [hlen, List.append_assoc]
theorem bytes_sl : Tryz.prog.underlying 31 = some (.slice (Tryz.prog.elem 31)) := by kernel_rfl
theorem bytes_elem (w : World) : (sizeOf (Tryz.prog.elem 31)).run Tryz.prog w = .ok 1 w := by kernel_rfl
/-- A slice from a place on. -/
theorem slice_from {b oo N c' m : Nat} (hm : m ≤ N) (X : World) : (Instr.sliceAt 31 (.slice (some ⟨b, oo, none⟩) N c') (some (.int .i64 (m : Int))) none none).run Tryz.prog X = .ok (.slice (if c' = m then some ⟨b, oo, none⟩ else some ⟨b, oo + m, none⟩) (N - m) (c' - m)) X := by
  rw [run_sliceAt_slice _ _ _ _ _ _ bytes_sl, run_slice_l X 31 _ N c' bytes_sl .i64 _ (by omega) (by omega), bytes_elem]
  show Result.ok (sliced _ _ _ _ _) X = _
  unfold sliced
  rw [Int.toNat_natCast]
  congr 2
  split
  · rfl
  · simp [add_flat]
theorem mayErr_there {a s : Nat} {p : Int} (h : mayErr σ a s p = 0) (hs : 0 < s) : a + s ≤ 140737488355328 ∧ thereB σ (a / 4096) (spanK a s) = true := by
  cases hb : belowB a s
  · rw [mayErr_far (by omega) hb] at h; cases h
  · cases ht : thereB σ (a / 4096) (spanK a s)
    · rw [mayErr_gap (by omega) hb ht] at h; cases h
    · exact ⟨belowB_iff.1 hb, rfl⟩

/-- What put's rounds may turn. -/
def PtG (F : Nat → Prop) (bb rc : Nat) (x : Nat) : Prop := F x ∨ x = bb ∨ x = rc
structure PtJ (F : Nat → Prop) (a bp bb rc : Nat) (W1 : World) (rv : Loop) (σ : Spc) (at' : Nat) (xs : List Int) (k : Nat) (W : World) : Prop where
  chg : Chg (PtG F bb rc) W1 W
  spc : SpcAt W F a (σ.put at' (xs.take k))
  same : W.heap[a]? = W1.heap[a]? ∧ W.heap[bp]? = W1.heap[bp]?
  box : ∃ q c, OneAt W bb (.slice q (xs.length - k) c) 31 ∧ xs.length - k ≤ c ∧ c ≤ 9223372036854775807 ∧ Apart W1 (PtG F bb rc) q c (xs.drop k)
  lp : W.heap[rc]? = some (.loop rv)
  dfr : W.heap[rc - 1]? = some (.deferred (some []))

set_option maxHeartbeats 1600000 in
set_option maxRecDepth 20000 in
theorem spput_any {a : Nat} (h : SpcAt w F a σ) (at' : Nat) (hat : at' < 18446744073709551616) (xs : List Int) (n : Nat) (hn : xs.length = n) (q : Option Addr) (c : Nat) (hc : n ≤ c) (hcm : c ≤ 9223372036854775807) (hxs : ∀ x ∈ xs, 0 ≤ x ∧ x < 256) (p : Int) (hb : Apart w F q c xs) (hF : ∀ k, F k → k < w.heap.size)
    (h0 : mayErr σ at' n p = 0) :
    Calls Tryz.prog 59 #[.pointer (some ⟨a, 0, none⟩), .int .u64 at', .slice q n c, .int .i64 p] w fun e w' => e = .returned (.int .i64 0) ∧ SpcAt w' F a (σ.put at' xs) ∧ Chg F w w' := by
  refine (callsIn_wide (n := 1)).1 (callsIn_of_wp_marks Tryz.func59 rfl trivial ((wpIn_wide).2 ?_))
  simp only [Tryz.ntmps59, List.size_toArray, List.length_cons, List.length_nil, Nat.reduceAdd, Nat.reduceSub, Array.replicate_succ, Array.replicate_zero, List.push_toArray, List.append_toArray, List.nil_append, List.cons_append]
  have hnm : n ≤ 9223372036854775807 := by omega
  obtain ⟨W2, hW2⟩ : ∃ W2, w.alloc (.cells #[.slice q n c] 31) = W2 := ⟨_, rfl⟩
  have hbx : OneAt W2 w.heap.size (.slice q n c) 31 := by rw [← hW2]; exact OneAt.new w _ _
  have g12 : w.grownBy W2 none := by rw [← hW2]; exact grown1 _ _
  have HS := h.kept (Chg.of_grown g12 (F := fun _ => False) (fun _ h => by cases h)) (fun _ _ h => h)
  have kb := hbx.c
  go_wp2_with fail
  refine (spmay_any HS at' n p).mono ?_
  rw [h0]
  rintro e w1 ⟨rfl, rfl⟩
  clear hW2
  go_wp2_with fail
  refine (parts_any (some ⟨a, 0, none⟩) at' n W2).mono ?_
  rintro e w3 ⟨rfl, hb1, hb2, hb3, hg3⟩
  have hlt1 : w.heap.size < W2.heap.size := hbx.lt
  have B1 := Lib.hid hb1
  have B2 := Lib.hid hb2
  have B3 := Lib.hid hb3
  have BX := Lib.hid (hbx.grown hg3)
  have G3 := Lib.hid (grown_trans g12 hg3)
  have hlt3 : W2.heap.size + 1 + 1 < w3.heap.size := hb3.lt
  have HB := Lib.hid hb
  have HN := Lib.hid hn
  have HX := Lib.hid hxs
  have H0 := Lib.hid h0
  have HSP := Lib.hid h
  have HFF := Lib.hid hF
  clear hb1 hb2 hb3 hg3 hbx g12 HS hb hn hxs h0 h hF kb
  go_wp2
  refine wp_rangeFunc_rec (gf := 136) (lb := #[.pointer (some ⟨W2.heap.size + 1, 0, none⟩), .pointer (some ⟨W2.heap.size + 1 + 1, 0, none⟩), .pointer (some ⟨W2.heap.size, 0, none⟩)]) rfl (enters_of Tryz.func136 (by kernel_rfl) rfl) ?_
  intro rec YR ER OR
  obtain ⟨W1, hW1⟩ : ∃ W1, (w3.alloc (.deferred (some []))).alloc (.loop (rec .ready none)) = W1 := ⟨_, rfl⟩
  have g31 : w3.grownBy W1 none := by rw [← hW1]; exact grown2 _ _ _
  have hlp : W1.heap[w3.heap.size + 1]? = some (.loop (rec .ready none)) := by
    rw [← hW1]; have := World.alloc_heap_new (w3.alloc (.deferred (some []))) (.loop (rec .ready none)); rwa [World.size_alloc] at this
  have hdf : W1.heap[w3.heap.size]? = some (.deferred (some [])) := by
    rw [← hW1]; exact (Below.heap_alloc _ _ _ (by simp)).trans (World.alloc_heap_new w3 _)
  have hW1s : w3.heap.size + 1 < W1.heap.size := (Array.getElem?_eq_some_iff.1 hlp).1
  rw [hW1]
  have gW1 := grown_trans G3.out g31
  have S1 : SpcAt W1 F a σ := HSP.out.kept (Chg.of_grown gW1 (F := fun _ => False) (fun _ h => by cases h)) (fun _ _ h => h)
  obtain ⟨mp, g, bp, fbp, hbp, nbp, nba, hlook⟩ := S1.look
  have hFlt : ∀ k, F k → k < w.heap.size := HFF.out
  have LK := Lib.hid hlook
  have Fa := S1.mine
  have JZ : PtJ F a bp w.heap.size (w3.heap.size + 1) W1 (rec .ready none) σ at' xs 0 W1 := by
    refine ⟨Chg.refl _ _, by rw [List.take_zero, put_nil]; exact S1, ⟨rfl, rfl⟩, ⟨q, c, by rw [Nat.sub_zero, HN.out]; exact BX.out.grown g31, by rw [HN.out]; omega, hcm, ?_⟩, hlp, hdf⟩
    rw [List.drop_zero]
    refine ⟨HB.out.1, fun h0 => ?_⟩
    obtain ⟨b, o, e, hlt, hnF, hc⟩ := HB.out.2 h0
    exact ⟨b, o, e, by omega, fun e => by unfold PtG at e; rcases e with e | e | e; exact hnF e; omega; omega, fun i hi => grown_cell gW1 (hc i hi)⟩
  have IO : PartsOk Tryz.prog (w3.heap.size + 1) at' n g W2.heap.size a mp (fun k W => PtJ F a bp w.heap.size (w3.heap.size + 1) W1 (rec .ready none) σ at' xs k W) := by
    refine ⟨fun k W hJ => ?_, fun k W hJ hk => ?_, fun k W m hJ => ?_⟩
    · obtain ⟨c1, c2⟩ := LK.out W hJ.same.1 hJ.same.2
      refine ⟨?_, c1, fun m h0 h1 h2 => ?_⟩
      · exact (OneAt.c (T := 25) (show OneAt W W2.heap.size _ _ from (hJ.chg.block W2.heap.size (by omega) (fun e => by unfold PtG at e; rcases e with e | e | e; have := hFlt _ e; omega; omega; omega)).trans (B1.out.grown g31)))
      · obtain ⟨t1, t2⟩ := mayErr_there H0.out h0
        exact c2 m (by omega) (thereB_iff.1 t2 m h1 (by unfold spanK; omega))
    · have hpl := partLen_pos (a := at') hk
      obtain ⟨t1, t2⟩ := mayErr_there H0.out (by omega)
      obtain ⟨c1, c2⟩ := LK.out W hJ.same.1 hJ.same.2
      have hP := thereB_iff.1 t2 ((at' + k) / 4096) (Nat.div_le_div_right (by omega)) (by unfold spanK; have : (at' + k) / 4096 ≤ (at' + n - 1) / 4096 := Nat.div_le_div_right (by omega); have : at' / 4096 ≤ (at' + k) / 4096 := Nat.div_le_div_right (by omega); omega)
      have hl := c2 ((at' + k) / 4096) (by omega) hP
      have hfit : (at' + k) % 4096 + partLen at' n k ≤ 4096 := by unfold partLen; have : (at' + k) % 4096 < 4096 := Nat.mod_lt _ (by omega); omega
      have hdm : 4096 * ((at' + k) / 4096) + (at' + k) % 4096 = at' + k := Nat.div_add_mod _ _
      obtain ⟨q1, c', hbx, hNc, hcm', hap⟩ := hJ.box
      obtain ⟨N, hN⟩ : ∃ N, N = xs.length - k := ⟨_, rfl⟩
      have hNn : N = n - k := by rw [hN, HN.out]
      have hdl : (xs.drop k).length = N := by rw [List.length_drop, hN]
      rw [← hN] at hbx hNc
      obtain ⟨b, oo, rfl, hblt, hbG, hbc⟩ := hap.2 (by rw [hdl]; omega)
      obtain ⟨G, hG⟩ : ∃ G, G = g ((at' + k) / 4096) := ⟨_, rfl⟩
      obtain ⟨m, hm⟩ : ∃ m, m = partLen at' n k := ⟨_, rfl⟩
      obtain ⟨o, ho⟩ : ∃ o, o = (at' + k) % 4096 := ⟨_, rfl⟩
      obtain ⟨pp, hp⟩ : ∃ p, p = (at' + k) / 4096 := ⟨_, rfl⟩
      rw [← hG, ← hp] at hl
      rw [← hp] at hP
      rw [← hG, ← hm, ← ho]
      rw [← ho, ← hm] at hfit
      rw [← hm] at hpl
      rw [← hp, ← ho] at hdm
      have hml : ((xs.drop k).take m).length = m := by rw [List.length_take, hdl]; omega
      have htk : xs.take k ++ (xs.drop k).take m = xs.take (k + m) := by rw [List.take_add]
      have hkl : (xs.take k).length = k := by rw [List.length_take, HN.out]; omega
      have eS : (σ.put at' (xs.take k)).put (4096 * pp + o) ((xs.drop k).take m) = σ.put at' (xs.take (k + m)) := by
        rw [hdm, ← htk, ← put_put, hkl]
      have hWs : W1.heap.size ≤ W.heap.size := hJ.chg.size
      have gP := grownBy_putObj' W (w3.heap.size + 1) (.loop (rec .busy none))
      have cP : Chg (fun x => x = w3.heap.size + 1) W (W.putObj (w3.heap.size + 1) (.loop (rec .busy none))) := Chg.of_grown gP (fun b e => by injection e with e; exact .inl e.symm)
      have hlpB : (W.putObj (w3.heap.size + 1) (.loop (rec .busy none))).heap[w3.heap.size + 1]? = some (.loop (rec .busy none)) := World.putObj_heap_same (Array.getElem?_eq_some_iff.1 hJ.lp).1
      have E1 := Lib.hid (show g pp = G by rw [hG, hp])
      have hpp : pp < 18446744073709551616 := by rw [hp]; omega
      have EDL := Lib.hid hdl
      have EML := Lib.hid hml
      have ES := Lib.hid eS
      have EN := Lib.hid hNn
      have hmN : m ≤ N := by omega
      have hdl' : ∀ i, i < N → i < (xs.drop k).length := fun i hi => by rw [hdl]; exact hi
      have BC := Lib.hid hbc
      have HPL := Lib.hid hpl
      have EXN := Lib.hid hN
      have HJ := Lib.hid hJ
      clear hG hm ho hp hN hdl hml eS hNn hdm htk hkl hbc hpl hJ t1 t2
      refine YR _ _ _ _ HJ.out.lp rfl ?_
      have HLB := Lib.hid hlpB
      clear hlpB
      gi_wp2
      refine ⟨HJ.out.lp, fun _ => ?_⟩
      have hlpB := HLB.out
      clear HLB
      have hJ := HJ.out
      obtain ⟨Wc, hWc⟩ : ∃ Wc, W.putObj (w3.heap.size + 1) (.loop (rec .busy none)) = Wc := ⟨_, rfl⟩
      rw [hWc] at gP cP hlpB ⊢
      have hbC := hbx.kept gP (by simp; omega)
      have hSC := hJ.spc.kept cP (fun x hx e => by have := hFlt x hx; omega)
      have hsame : Wc.heap[a]? = W1.heap[a]? ∧ Wc.heap[bp]? = W1.heap[bp]? :=
        ⟨(cP.block a (by have := hFlt a Fa; omega) (by have := hFlt a Fa; omega)).trans hJ.same.1, (cP.block bp (by omega) (by have := hFlt bp fbp; omega)).trans hJ.same.2⟩
      obtain ⟨c1', c2'⟩ := LK.out Wc hsame.1 hsame.2
      have hl' := c2' pp hpp hP
      rw [E1.out] at hl'
      obtain ⟨fG, hGp, hS2⟩ := hSC.wrote c1' hP hpp hl' (o := o) (xs := (xs.drop k).take m) (by rw [EML.out]; exact hfit) (fun x hx => HX.out x (List.mem_of_mem_drop (List.mem_of_mem_take hx)))
      rw [ES.out] at hS2
      have hCC := hJ.chg.trans (cP.mono (G := PtG F w.heap.size (w3.heap.size + 1)) (fun x e => .inr (.inr e)))
      have hsrc : ∀ i, i < (xs.drop k).length → Wc.cell? ⟨b, oo + i, none⟩ = some (.int .u8 ((xs.drop k).getD i 0)) := fun i hi => (cell_block (hCC.block b hblt hbG)).trans (BC.out i hi)
      have hcopy := copy_page (w := Wc.drew) (σ := σ.put at' (xs.take k)) (c := 4096 - o) (c' := c') (m := m) hGp hfit hmN EDL.out hsrc
      have kb := hbC.c
      have kf := hbC.f
      obtain ⟨V, hV⟩ : ∃ V : Option Addr, (if c' = m then some (⟨b, oo, none⟩ : Addr) else some ⟨b, oo + m, none⟩) = V := ⟨_, rfl⟩
      have hcut := fun X : World => slice_from (b := b) (oo := oo) (N := N) (c' := c') (m := m) hmN X
      rw [hV] at hcut
      have HCP := Lib.hid hcopy
      have HS2 := Lib.hid hS2
      have HV := Lib.hid hV
      have HCC := Lib.hid hCC
      have HSM := Lib.hid hsame
      have HGP := Lib.hid hGp
      have HBC := Lib.hid hbC
      have HLP := Lib.hid hlpB
      clear hcopy hS2 hCC hsame hGp hV hl hl' hSC hbC hlpB c1' c2' c1 c2 hsrc hJ
      obtain ⟨X2, hX2⟩ : ∃ X2, Wc.drew.setRow G (splice (pageArr (σ.put at' (xs.take k)).B pp).toList o (u8s ((xs.drop k).take m))).toArray = X2 := ⟨_, rfl⟩
      rw [hX2] at HCP
      have gX : Wc.grownBy X2 (some G) := by rw [← hX2]; have h := sp_grown_setRow (g := G) Wc.drew (splice (pageArr (σ.put at' (xs.take k)).B pp).toList o (u8s ((xs.drop k).take m))).toArray; exact ⟨h.os, h.tape, h.output, h.size, h.block⟩
      have hGb : G ≠ w.heap.size := by have := hFlt G fG; omega
      have kb2 : X2.cell? ⟨w.heap.size, 0, none⟩ = some (.slice (some ⟨b, oo, none⟩) N c') := (HBC.out.kept gX (by simp; omega)).c
      have kf2 : X2.frozen? ⟨w.heap.size, 0, none⟩ = false := (HBC.out.kept gX (by simp; omega)).f
      have HX2 := Lib.hid hX2
      obtain ⟨X3, hX3⟩ : ∃ X3, X2.setCell ⟨w.heap.size, 0, none⟩ (.slice V (N - m) (c' - m)) = X3 := ⟨_, rfl⟩
      have gS : X2.grownBy X3 (some w.heap.size) := by rw [← hX3]; exact grown_setCell (i := 0) (grown_refl X2 (some w.heap.size)) _
      have hb3 : OneAt X3 w.heap.size (.slice V (N - m) (c' - m)) 31 := by rw [← hX3]; exact (HBC.out.kept gX (by simp; omega)).set _
      have L3 := grown_obj gS (grown_obj gX HLP.out (by intro e; injection e with e; have := hFlt G fG; omega)) (by intro e; injection e with e; omega)
      have hdX : (W.putObj (w3.heap.size + 1) (.loop (rec .busy none))).heap[w3.heap.size]? = some (.deferred (some [])) := grown_obj (grownBy_putObj' W (w3.heap.size + 1) (.loop (rec .busy none))) HJ.out.dfr (by intro e; injection e with e; simp at e)
      rw [hWc] at hdX
      have D3 := grown_obj gS (grown_obj gX hdX (by intro e; injection e with e; have := hFlt G fG; omega)) (by intro e; injection e with e; omega)
      have g8 := grownBy_putObj' X3 (w3.heap.size + 1) (.loop (rec .ready none))
      have C3 : Chg (PtG F w.heap.size (w3.heap.size + 1)) W1 (X3.putObj (w3.heap.size + 1) (.loop (rec .ready none))) :=
        ((HCC.out.trans (Chg.of_grown gX (fun x e => by injection e with e; subst e; exact .inl (.inl fG)))).trans (Chg.of_grown gS (fun x e => by injection e with e; exact .inl (.inr (.inl e.symm))))).trans (Chg.of_grown g8 (fun x e => by injection e with e; exact .inl (.inr (.inr e.symm))))
      have nGa : G ≠ a := fun e => nba _ (by rw [← HSM.out.1, ← e]; exact HGP.out)
      have nGb : G ≠ bp := fun e => nbp _ (by rw [← HSM.out.2, ← e]; exact HGP.out)
      have hsz3 : w3.heap.size + 1 < X3.heap.size := (Array.getElem?_eq_some_iff.1 L3).1
      have keep : ∀ x, x < w.heap.size → x ≠ G → (X3.putObj (w3.heap.size + 1) (.loop (rec .ready none))).heap[x]? = Wc.heap[x]? := fun x hx hg => by
        have hxc : x < Wc.heap.size := by have := HBC.out.lt; omega
        exact (g8.block x (by omega) (by simp; omega)).trans ((gS.block x (Nat.lt_of_lt_of_le hxc gX.size) (by simp; omega)).trans (gX.block x hxc (by simp [hg])))
      have FIN : X3.heap[w3.heap.size + 1]? = some (.loop (rec .busy none)) ∧ PtJ F a bp w.heap.size (w3.heap.size + 1) W1 (rec .ready none) σ at' xs (k + m) (X3.putObj (w3.heap.size + 1) (.loop (rec .ready none))) := by
        refine ⟨L3, C3, ?_, ⟨(keep a (hFlt a Fa) nGa.symm).trans HSM.out.1, (keep bp (hFlt bp fbp) nGb.symm).trans HSM.out.2⟩, ⟨V, c' - m, ?_, ?_, ?_, ?_, ?_⟩, World.putObj_heap_same (Array.getElem?_eq_some_iff.1 L3).1, grown_obj g8 D3 (by simp)⟩
        · have h1 : SpcAt X2 F a (σ.put at' (xs.take (k + m))) := by rw [← HX2.out]; exact HS2.out.kept (G := fun _ => False) ⟨rfl, rfl, rfl, Nat.le_refl _, fun _ _ _ => rfl⟩ (fun _ _ h => h)
          exact (h1.kept (Chg.of_grown gS (F := fun x => x = w.heap.size) (fun x e => by injection e with e; exact .inl e.symm)) (fun x hx e => by have := hFlt x hx; omega)).kept (Chg.of_grown g8 (F := fun x => x = w3.heap.size + 1) (fun x e => by injection e with e; exact .inl e.symm)) (fun x hx e => by have := hFlt x hx; omega)
        · rw [show xs.length - (k + m) = N - m by rw [EXN.out]; omega]
          exact hb3.kept g8 (by simp; omega)
        · rw [show xs.length - (k + m) = N - m by rw [EXN.out]; omega]; omega
        · omega
        · intro e
          rw [← HV.out] at e
          split at e <;> cases e
        · intro h0
          have hl2 : (xs.drop (k + m)).length = N - m := by rw [List.length_drop, EXN.out]; omega
          rw [hl2] at h0
          refine ⟨b, oo + m, ?_, hblt, hbG, fun i hi => ?_⟩
          · rw [← HV.out, if_neg (by omega)]
          · rw [hl2] at hi
            rw [Nat.add_assoc, BC.out (m + i) (by rw [EDL.out]; omega), ← List.drop_drop]
            simp [List.getD, List.getElem?_drop, Nat.add_assoc]
      have HFIN := Lib.hid FIN
      have HX3 := Lib.hid hX3
      clear FIN hX2 hX3 gS hb3 L3 hdX D3 g8 C3 nGa nGb keep gX
      gi_wp2
      refine wpIn_region_any (by kernel_rfl) ?_
      change wpAnyIn _ _ _ _ _ _ _ _ _ (World.drew _)
      refine wpAnyIn_ready (rs := [0, 1, 2]) (by kernel_rfl) (by simp) ?_
      refine AllReadyIn.cons (o := ⟨some 28, _, _, _, _, _⟩) rfl (fun K hK => ?_) (AllReadyIn.cons (o := ⟨some 29, _, _, _, _, _⟩) rfl (fun K hK => ?_) (AllReadyIn.cons (o := ⟨some 30, _, _, _, _, _⟩) rfl (fun K hK => ?_) AllReadyIn.nil))
      · skip
        go_simp
        refine hK _ _ ?_
        clear hK K
        try simp only [Act.put, List.setIfInBounds_toArray, List.set_cons_zero, List.set_cons_succ]
        refine wpAnyIn_ready (rs := [1, 2]) (by kernel_rfl) (by simp) ?_
        refine AllReadyIn.cons (o := ⟨some 29, _, _, _, _, _⟩) rfl (fun K hK => ?_) (AllReadyIn.cons (o := ⟨some 30, _, _, _, _, _⟩) rfl (fun K hK => ?_) AllReadyIn.nil)
        · skip
          go_simp
          refine hK _ _ ?_
          clear hK K
          try simp only [Act.put, List.setIfInBounds_toArray, List.set_cons_zero, List.set_cons_succ]
          refine wpAnyIn_ready (rs := [2]) (by kernel_rfl) (by simp) ?_
          refine AllReadyIn.cons (o := ⟨some 30, _, _, _, _, _⟩) rfl (fun K hK => ?_) AllReadyIn.nil
          go_simp
          refine hK _ _ ?_
          clear hK K
          try simp only [Act.put, List.setIfInBounds_toArray, List.set_cons_zero, List.set_cons_succ]
          refine wpAnyIn_ready (rs := [3]) (by kernel_rfl) (by simp) ?_
          refine AllReadyIn.cons (o := ⟨some 31, _, _, _, _, _⟩) rfl (fun K hK => ?_) AllReadyIn.nil
          refine stepIn_copy rfl _ _ rfl _ _ rfl rfl m HCP.out ?_
          refine hK _ _ ?_
          clear hK K
          try simp only [Act.put, List.setIfInBounds_toArray, List.set_cons_zero, List.set_cons_succ]
          refine wpAnyIn_ready (rs := [4]) (by kernel_rfl) (by simp) ?_
          refine AllReadyIn.cons (o := ⟨some 32, _, _, _, _, _⟩) rfl (fun K hK => ?_) AllReadyIn.nil
          go_simp
          refine hK _ _ ?_
          clear hK K
          try simp only [Act.put, List.setIfInBounds_toArray, List.set_cons_zero, List.set_cons_succ]
          refine wpAnyIn_ready (rs := [5]) (by kernel_rfl) (by simp) ?_
          refine AllReadyIn.cons (o := ⟨none, _, _, _, _, _⟩) rfl (fun K hK => ?_) AllReadyIn.nil
          go_simp
          refine hK _ _ ?_
          clear hK K
          try simp only [Act.put, List.setIfInBounds_toArray, List.set_cons_zero, List.set_cons_succ]
          refine wpAnyIn_done (by kernel_rfl) ?_ _
          rw [HX3.out]
          exact ⟨_, _, ER _ _ none HFIN.out.1, rfl, HFIN.out.2⟩
        · skip
          go_simp
          refine hK _ _ ?_
          clear hK K
          try simp only [Act.put, List.setIfInBounds_toArray, List.set_cons_zero, List.set_cons_succ]
          refine wpAnyIn_ready (rs := [1]) (by kernel_rfl) (by simp) ?_
          refine AllReadyIn.cons (o := ⟨some 29, _, _, _, _, _⟩) rfl (fun K hK => ?_) AllReadyIn.nil
          go_simp
          refine hK _ _ ?_
          clear hK K
          try simp only [Act.put, List.setIfInBounds_toArray, List.set_cons_zero, List.set_cons_succ]
          refine wpAnyIn_ready (rs := [3]) (by kernel_rfl) (by simp) ?_
          refine AllReadyIn.cons (o := ⟨some 31, _, _, _, _, _⟩) rfl (fun K hK => ?_) AllReadyIn.nil
          refine stepIn_copy rfl _ _ rfl _ _ rfl rfl m HCP.out ?_
          refine hK _ _ ?_
          clear hK K
          try simp only [Act.put, List.setIfInBounds_toArray, List.set_cons_zero, List.set_cons_succ]
          refine wpAnyIn_ready (rs := [4]) (by kernel_rfl) (by simp) ?_
          refine AllReadyIn.cons (o := ⟨some 32, _, _, _, _, _⟩) rfl (fun K hK => ?_) AllReadyIn.nil
          go_simp
          refine hK _ _ ?_
          clear hK K
          try simp only [Act.put, List.setIfInBounds_toArray, List.set_cons_zero, List.set_cons_succ]
          refine wpAnyIn_ready (rs := [5]) (by kernel_rfl) (by simp) ?_
          refine AllReadyIn.cons (o := ⟨none, _, _, _, _, _⟩) rfl (fun K hK => ?_) AllReadyIn.nil
          go_simp
          refine hK _ _ ?_
          clear hK K
          try simp only [Act.put, List.setIfInBounds_toArray, List.set_cons_zero, List.set_cons_succ]
          refine wpAnyIn_done (by kernel_rfl) ?_ _
          rw [HX3.out]
          exact ⟨_, _, ER _ _ none HFIN.out.1, rfl, HFIN.out.2⟩
      · skip
        go_simp
        refine hK _ _ ?_
        clear hK K
        try simp only [Act.put, List.setIfInBounds_toArray, List.set_cons_zero, List.set_cons_succ]
        refine wpAnyIn_ready (rs := [0, 2]) (by kernel_rfl) (by simp) ?_
        refine AllReadyIn.cons (o := ⟨some 28, _, _, _, _, _⟩) rfl (fun K hK => ?_) (AllReadyIn.cons (o := ⟨some 30, _, _, _, _, _⟩) rfl (fun K hK => ?_) AllReadyIn.nil)
        · skip
          go_simp
          refine hK _ _ ?_
          clear hK K
          try simp only [Act.put, List.setIfInBounds_toArray, List.set_cons_zero, List.set_cons_succ]
          refine wpAnyIn_ready (rs := [2]) (by kernel_rfl) (by simp) ?_
          refine AllReadyIn.cons (o := ⟨some 30, _, _, _, _, _⟩) rfl (fun K hK => ?_) AllReadyIn.nil
          go_simp
          refine hK _ _ ?_
          clear hK K
          try simp only [Act.put, List.setIfInBounds_toArray, List.set_cons_zero, List.set_cons_succ]
          refine wpAnyIn_ready (rs := [3]) (by kernel_rfl) (by simp) ?_
          refine AllReadyIn.cons (o := ⟨some 31, _, _, _, _, _⟩) rfl (fun K hK => ?_) AllReadyIn.nil
          refine stepIn_copy rfl _ _ rfl _ _ rfl rfl m HCP.out ?_
          refine hK _ _ ?_
          clear hK K
          try simp only [Act.put, List.setIfInBounds_toArray, List.set_cons_zero, List.set_cons_succ]
          refine wpAnyIn_ready (rs := [4]) (by kernel_rfl) (by simp) ?_
          refine AllReadyIn.cons (o := ⟨some 32, _, _, _, _, _⟩) rfl (fun K hK => ?_) AllReadyIn.nil
          go_simp
          refine hK _ _ ?_
          clear hK K
          try simp only [Act.put, List.setIfInBounds_toArray, List.set_cons_zero, List.set_cons_succ]
          refine wpAnyIn_ready (rs := [5]) (by kernel_rfl) (by simp) ?_
          refine AllReadyIn.cons (o := ⟨none, _, _, _, _, _⟩) rfl (fun K hK => ?_) AllReadyIn.nil
          go_simp
          refine hK _ _ ?_
          clear hK K
          try simp only [Act.put, List.setIfInBounds_toArray, List.set_cons_zero, List.set_cons_succ]
          refine wpAnyIn_done (by kernel_rfl) ?_ _
          rw [HX3.out]
          exact ⟨_, _, ER _ _ none HFIN.out.1, rfl, HFIN.out.2⟩
        · skip
          go_simp
          refine hK _ _ ?_
          clear hK K
          try simp only [Act.put, List.setIfInBounds_toArray, List.set_cons_zero, List.set_cons_succ]
          refine wpAnyIn_ready (rs := [0, 3]) (by kernel_rfl) (by simp) ?_
          refine AllReadyIn.cons (o := ⟨some 28, _, _, _, _, _⟩) rfl (fun K hK => ?_) (AllReadyIn.cons (o := ⟨some 31, _, _, _, _, _⟩) rfl (fun K hK => ?_) AllReadyIn.nil)
          · skip
            go_simp
            refine hK _ _ ?_
            clear hK K
            try simp only [Act.put, List.setIfInBounds_toArray, List.set_cons_zero, List.set_cons_succ]
            refine wpAnyIn_ready (rs := [3]) (by kernel_rfl) (by simp) ?_
            refine AllReadyIn.cons (o := ⟨some 31, _, _, _, _, _⟩) rfl (fun K hK => ?_) AllReadyIn.nil
            refine stepIn_copy rfl _ _ rfl _ _ rfl rfl m HCP.out ?_
            refine hK _ _ ?_
            clear hK K
            try simp only [Act.put, List.setIfInBounds_toArray, List.set_cons_zero, List.set_cons_succ]
            refine wpAnyIn_ready (rs := [4]) (by kernel_rfl) (by simp) ?_
            refine AllReadyIn.cons (o := ⟨some 32, _, _, _, _, _⟩) rfl (fun K hK => ?_) AllReadyIn.nil
            go_simp
            refine hK _ _ ?_
            clear hK K
            try simp only [Act.put, List.setIfInBounds_toArray, List.set_cons_zero, List.set_cons_succ]
            refine wpAnyIn_ready (rs := [5]) (by kernel_rfl) (by simp) ?_
            refine AllReadyIn.cons (o := ⟨none, _, _, _, _, _⟩) rfl (fun K hK => ?_) AllReadyIn.nil
            go_simp
            refine hK _ _ ?_
            clear hK K
            try simp only [Act.put, List.setIfInBounds_toArray, List.set_cons_zero, List.set_cons_succ]
            refine wpAnyIn_done (by kernel_rfl) ?_ _
            rw [HX3.out]
            exact ⟨_, _, ER _ _ none HFIN.out.1, rfl, HFIN.out.2⟩
          · skip
            refine stepIn_copy rfl _ _ rfl _ _ rfl rfl m HCP.out ?_
            refine hK _ _ ?_
            clear hK K
            try simp only [Act.put, List.setIfInBounds_toArray, List.set_cons_zero, List.set_cons_succ]
            refine wpAnyIn_ready (rs := [0]) (by kernel_rfl) (by simp) ?_
            refine AllReadyIn.cons (o := ⟨some 28, _, _, _, _, _⟩) rfl (fun K hK => ?_) AllReadyIn.nil
            go_simp
            refine hK _ _ ?_
            clear hK K
            try simp only [Act.put, List.setIfInBounds_toArray, List.set_cons_zero, List.set_cons_succ]
            refine wpAnyIn_ready (rs := [4]) (by kernel_rfl) (by simp) ?_
            refine AllReadyIn.cons (o := ⟨some 32, _, _, _, _, _⟩) rfl (fun K hK => ?_) AllReadyIn.nil
            go_simp
            refine hK _ _ ?_
            clear hK K
            try simp only [Act.put, List.setIfInBounds_toArray, List.set_cons_zero, List.set_cons_succ]
            refine wpAnyIn_ready (rs := [5]) (by kernel_rfl) (by simp) ?_
            refine AllReadyIn.cons (o := ⟨none, _, _, _, _, _⟩) rfl (fun K hK => ?_) AllReadyIn.nil
            go_simp
            refine hK _ _ ?_
            clear hK K
            try simp only [Act.put, List.setIfInBounds_toArray, List.set_cons_zero, List.set_cons_succ]
            refine wpAnyIn_done (by kernel_rfl) ?_ _
            rw [HX3.out]
            exact ⟨_, _, ER _ _ none HFIN.out.1, rfl, HFIN.out.2⟩
      · skip
        go_simp
        refine hK _ _ ?_
        clear hK K
        try simp only [Act.put, List.setIfInBounds_toArray, List.set_cons_zero, List.set_cons_succ]
        refine wpAnyIn_ready (rs := [0, 1]) (by kernel_rfl) (by simp) ?_
        refine AllReadyIn.cons (o := ⟨some 28, _, _, _, _, _⟩) rfl (fun K hK => ?_) (AllReadyIn.cons (o := ⟨some 29, _, _, _, _, _⟩) rfl (fun K hK => ?_) AllReadyIn.nil)
        · skip
          go_simp
          refine hK _ _ ?_
          clear hK K
          try simp only [Act.put, List.setIfInBounds_toArray, List.set_cons_zero, List.set_cons_succ]
          refine wpAnyIn_ready (rs := [1]) (by kernel_rfl) (by simp) ?_
          refine AllReadyIn.cons (o := ⟨some 29, _, _, _, _, _⟩) rfl (fun K hK => ?_) AllReadyIn.nil
          go_simp
          refine hK _ _ ?_
          clear hK K
          try simp only [Act.put, List.setIfInBounds_toArray, List.set_cons_zero, List.set_cons_succ]
          refine wpAnyIn_ready (rs := [3]) (by kernel_rfl) (by simp) ?_
          refine AllReadyIn.cons (o := ⟨some 31, _, _, _, _, _⟩) rfl (fun K hK => ?_) AllReadyIn.nil
          refine stepIn_copy rfl _ _ rfl _ _ rfl rfl m HCP.out ?_
          refine hK _ _ ?_
          clear hK K
          try simp only [Act.put, List.setIfInBounds_toArray, List.set_cons_zero, List.set_cons_succ]
          refine wpAnyIn_ready (rs := [4]) (by kernel_rfl) (by simp) ?_
          refine AllReadyIn.cons (o := ⟨some 32, _, _, _, _, _⟩) rfl (fun K hK => ?_) AllReadyIn.nil
          go_simp
          refine hK _ _ ?_
          clear hK K
          try simp only [Act.put, List.setIfInBounds_toArray, List.set_cons_zero, List.set_cons_succ]
          refine wpAnyIn_ready (rs := [5]) (by kernel_rfl) (by simp) ?_
          refine AllReadyIn.cons (o := ⟨none, _, _, _, _, _⟩) rfl (fun K hK => ?_) AllReadyIn.nil
          go_simp
          refine hK _ _ ?_
          clear hK K
          try simp only [Act.put, List.setIfInBounds_toArray, List.set_cons_zero, List.set_cons_succ]
          refine wpAnyIn_done (by kernel_rfl) ?_ _
          rw [HX3.out]
          exact ⟨_, _, ER _ _ none HFIN.out.1, rfl, HFIN.out.2⟩
        · skip
          go_simp
          refine hK _ _ ?_
          clear hK K
          try simp only [Act.put, List.setIfInBounds_toArray, List.set_cons_zero, List.set_cons_succ]
          refine wpAnyIn_ready (rs := [0, 3]) (by kernel_rfl) (by simp) ?_
          refine AllReadyIn.cons (o := ⟨some 28, _, _, _, _, _⟩) rfl (fun K hK => ?_) (AllReadyIn.cons (o := ⟨some 31, _, _, _, _, _⟩) rfl (fun K hK => ?_) AllReadyIn.nil)
          · skip
            go_simp
            refine hK _ _ ?_
            clear hK K
            try simp only [Act.put, List.setIfInBounds_toArray, List.set_cons_zero, List.set_cons_succ]
            refine wpAnyIn_ready (rs := [3]) (by kernel_rfl) (by simp) ?_
            refine AllReadyIn.cons (o := ⟨some 31, _, _, _, _, _⟩) rfl (fun K hK => ?_) AllReadyIn.nil
            refine stepIn_copy rfl _ _ rfl _ _ rfl rfl m HCP.out ?_
            refine hK _ _ ?_
            clear hK K
            try simp only [Act.put, List.setIfInBounds_toArray, List.set_cons_zero, List.set_cons_succ]
            refine wpAnyIn_ready (rs := [4]) (by kernel_rfl) (by simp) ?_
            refine AllReadyIn.cons (o := ⟨some 32, _, _, _, _, _⟩) rfl (fun K hK => ?_) AllReadyIn.nil
            go_simp
            refine hK _ _ ?_
            clear hK K
            try simp only [Act.put, List.setIfInBounds_toArray, List.set_cons_zero, List.set_cons_succ]
            refine wpAnyIn_ready (rs := [5]) (by kernel_rfl) (by simp) ?_
            refine AllReadyIn.cons (o := ⟨none, _, _, _, _, _⟩) rfl (fun K hK => ?_) AllReadyIn.nil
            go_simp
            refine hK _ _ ?_
            clear hK K
            try simp only [Act.put, List.setIfInBounds_toArray, List.set_cons_zero, List.set_cons_succ]
            refine wpAnyIn_done (by kernel_rfl) ?_ _
            rw [HX3.out]
            exact ⟨_, _, ER _ _ none HFIN.out.1, rfl, HFIN.out.2⟩
          · skip
            refine stepIn_copy rfl _ _ rfl _ _ rfl rfl m HCP.out ?_
            refine hK _ _ ?_
            clear hK K
            try simp only [Act.put, List.setIfInBounds_toArray, List.set_cons_zero, List.set_cons_succ]
            refine wpAnyIn_ready (rs := [0]) (by kernel_rfl) (by simp) ?_
            refine AllReadyIn.cons (o := ⟨some 28, _, _, _, _, _⟩) rfl (fun K hK => ?_) AllReadyIn.nil
            go_simp
            refine hK _ _ ?_
            clear hK K
            try simp only [Act.put, List.setIfInBounds_toArray, List.set_cons_zero, List.set_cons_succ]
            refine wpAnyIn_ready (rs := [4]) (by kernel_rfl) (by simp) ?_
            refine AllReadyIn.cons (o := ⟨some 32, _, _, _, _, _⟩) rfl (fun K hK => ?_) AllReadyIn.nil
            go_simp
            refine hK _ _ ?_
            clear hK K
            try simp only [Act.put, List.setIfInBounds_toArray, List.set_cons_zero, List.set_cons_succ]
            refine wpAnyIn_ready (rs := [5]) (by kernel_rfl) (by simp) ?_
            refine AllReadyIn.cons (o := ⟨none, _, _, _, _, _⟩) rfl (fun K hK => ?_) AllReadyIn.nil
            go_simp
            refine hK _ _ ?_
            clear hK K
            try simp only [Act.put, List.setIfInBounds_toArray, List.set_cons_zero, List.set_cons_succ]
            refine wpAnyIn_done (by kernel_rfl) ?_ _
            rw [HX3.out]
            exact ⟨_, _, ER _ _ none HFIN.out.1, rfl, HFIN.out.2⟩
    · exact ⟨⟨hJ.chg.os, hJ.chg.tape, hJ.chg.output, hJ.chg.size, hJ.chg.block⟩, hJ.spc.kept (Chg.of_grown (grown_drewN (grown_refl W none) m) (F := fun _ => False) (fun _ h => by cases h)) (fun _ _ h => h), hJ.same, hJ.box, hJ.lp, hJ.dfr⟩
  have h64 : at' < 18446744073709551616 := hat
  refine (parts1_any (w := W1) (w3.heap.size + 1) at' n h64 (fun h0 => (mayErr_there H0.out h0).1) g (W2.heap.size + 1) (W2.heap.size + 1 + 1) W2.heap.size a mp _ (B2.out.grown g31).c (B3.out.grown g31).c IO JZ).mono ?_
  rintro e w5 ⟨⟨v, rfl⟩, hJ⟩
  refine ⟨none, _, OR _ _ _ _ (by simp) hJ.lp, ?_⟩
  have gR := grownBy_putObj' w5 (w3.heap.size + 1) (.loop (rec .exhausted none))
  have hws : W1.heap.size ≤ w5.heap.size := hJ.chg.size
  have hdC := grown_obj gR hJ.dfr (by intro e; injection e with e; simp at e)
  have hSV := hJ.spc.kept (Chg.of_grown gR (F := fun x => x = w3.heap.size + 1) (fun x e => by injection e with e; exact .inl e.symm)) (fun x hx e => by have := hFlt x hx; omega)
  rw [List.take_of_length_le (by rw [HN.out]; omega)] at hSV
  have CC := hJ.chg.trans (Chg.of_grown gR (fun b e => by injection e with e; exact .inl (.inr (.inr e.symm))))
  obtain ⟨V, hV⟩ : ∃ V, w5.putObj (w3.heap.size + 1) (.loop (rec .exhausted none)) = V := ⟨_, rfl⟩
  rw [hV] at hdC hSV CC ⊢
  have DV := Lib.hid hdC
  have CV := Lib.hid CC
  have SV := Lib.hid hSV
  clear hdC CC hSV gR hV hJ
  go_wp2
  have gD := grownBy_putObj' V w3.heap.size (.deferred none)
  refine ⟨by simp, .inl ⟨_, _, rfl, run_takeDeferred DV.out, ?_⟩⟩
  refine ⟨_, results_tmp rfl _ _ _, ?_⟩
  refine ⟨rfl, SV.out.kept (Chg.of_grown gD (F := fun x => x = w3.heap.size) (fun x e => by injection e with e; exact .inl e.symm)) (fun x hx e => by have := hFlt x hx; omega), ?_⟩
  exact ⟨gD.os.trans (CV.out.os.trans gW1.os), gD.tape.trans (CV.out.tape.trans gW1.tape), gD.output.trans (CV.out.output.trans gW1.output), Nat.le_trans gW1.size (Nat.le_trans CV.out.size gD.size), fun x hx hn => by
      have hs := gW1.size
      have := CV.out.size
      exact (gD.block x (by omega) (by simp; omega)).trans ((CV.out.block x (by omega) (fun e => by unfold PtG at e; rcases e with e | e | e; exact hn e; omega; omega)).trans (gW1.block x hx (by simp)))⟩
end Go.Proofs.YtdagnkdonlfobaaGreat

/- What a space answers: Fill, Write, Read, Word, SetWord, Prot, whole. Conditions: bytes are bytes, and lie apart. -/
namespace Go.Proofs.YtdagnkdonlfobaaGreat
open Go.RowKit Go.Maps Go.ChangeMaps
variable {w w' W : World} {F : Nat → Prop} {σ : Spc}

/-- What lies in F, as far as it is there. -/
theorem SpcAt.cut {a : Nat} (h : SpcAt w F a σ) : SpcAt w (fun k => F k ∧ k < w.heap.size) a σ := by
  obtain ⟨h1, h2, mp, mq, hb, hm⟩ := h
  refine ⟨⟨h1, lt_of_block hb⟩, h2, mp, mq, hb, ?_⟩
  cases hm with
  | bare h0 hK => exact .bare h0 hK
  | full bp bq g Dp Dq hne hp hq hm fp fq fg => exact .full bp bq g Dp Dq hne hp hq hm ⟨fp, World.ownsMap.lt hp⟩ ⟨fq, World.ownsMap.lt hq⟩ fun n hn => ⟨⟨(fg n hn).1, lt_of_block (fg n hn).2⟩, (fg n hn).2⟩

structure PutOut (w w' : World) (F : Nat → Prop) (a : Nat) (σ : Spc) (at' : Nat) (xs : List Int) (p : Int) (e : Ending) : Prop where
  ret : e = .returned (.int .i64 (mayErr σ at' xs.length p))
  done : mayErr σ at' xs.length p = 0 → SpcAt w' F a (σ.put at' xs)
  left : mayErr σ at' xs.length p ≠ 0 → SpcAt w' F a σ
  chg : Chg F w w'

set_option maxRecDepth 20000 in
theorem spput_bad {a : Nat} (h : SpcAt w F a σ) (at' : Nat) (n : Nat) (q : Option Addr) (c : Nat) (hcm : n ≤ 9223372036854775807) (p : Int) (h0 : mayErr σ at' n p ≠ 0) :
    Calls Tryz.prog 59 #[.pointer (some ⟨a, 0, none⟩), .int .u64 at', .slice q n c, .int .i64 p] w fun e w' => e = .returned (.int .i64 (mayErr σ at' n p)) ∧ w.grownBy w' none := by
  obtain ⟨er, her⟩ : ∃ er, mayErr σ at' n p = er := ⟨_, rfl⟩
  rw [her] at h0 ⊢
  have hd : (er == 0) = false := by simpa using h0
  have hd' : (er != 0) = true := by simpa using h0
  obtain ⟨W2, hW2⟩ : ∃ W2, w.alloc (.cells #[.slice q n c] 31) = W2 := ⟨_, rfl⟩
  have hbx : OneAt W2 w.heap.size (.slice q n c) 31 := by rw [← hW2]; exact OneAt.new w _ _
  have g12 : w.grownBy W2 none := by rw [← hW2]; exact grown1 _ _
  have HS := h.kept (Chg.of_grown g12 (F := fun _ => False) (fun _ h => by cases h)) (fun _ _ h => h)
  have kb := hbx.c
  have HE := Lib.hid her
  clear her h0
  go_enter Tryz.func59, Tryz.ntmps59
  go_wp2_with fail
  refine (spmay_any HS at' n p).mono ?_
  rw [HE.out]
  rintro e w1 ⟨rfl, rfl⟩
  go_wp2
  go_ret
  exact ⟨rfl, g12⟩

theorem spput_whole {a : Nat} (h : SpcAt w F a σ) (at' : Nat) (hat : at' < 18446744073709551616) (xs : List Int) (n : Nat) (hn : xs.length = n) (q : Option Addr) (c : Nat) (hc : n ≤ c) (hcm : c ≤ 9223372036854775807) (hxs : ∀ x ∈ xs, 0 ≤ x ∧ x < 256) (p : Int) (hb : Apart w F q c xs) (hF : ∀ k, F k → k < w.heap.size) :
    Calls Tryz.prog 59 #[.pointer (some ⟨a, 0, none⟩), .int .u64 at', .slice q n c, .int .i64 p] w fun e w' => PutOut w w' F a σ at' xs p e := by
  by_cases h0 : mayErr σ at' n p = 0
  · refine (spput_any h at' hat xs n hn q c hc hcm hxs p hb hF h0).mono ?_
    rintro e w' ⟨rfl, h1, h2⟩
    exact ⟨by rw [hn, h0], fun _ => h1, fun h => absurd (by rw [hn]; exact h0) h, h2⟩
  · refine (spput_bad h at' n q c (by omega) p h0).mono ?_
    rintro e w' ⟨rfl, hg⟩
    exact ⟨by rw [hn], fun h => absurd (by rw [← hn]; exact h) h0, fun _ => h.kept (Chg.of_grown hg (F := fun _ => False) (fun _ h => by cases h)) (fun _ _ h => h), Chg.of_grown hg (fun _ h => by cases h)⟩

theorem fill_any {a : Nat} (h : SpcAt w F a σ) (at' : Nat) (hat : at' < 18446744073709551616) (xs : List Int) (n : Nat) (hn : xs.length = n) (q : Option Addr) (c : Nat) (hc : n ≤ c) (hcm : c ≤ 9223372036854775807) (hxs : ∀ x ∈ xs, 0 ≤ x ∧ x < 256) (hb : Apart w F q c xs) (hF : ∀ k, F k → k < w.heap.size) :
    Calls Tryz.prog 32 #[.pointer (some ⟨a, 0, none⟩), .int .u64 at', .slice q n c] w fun e w' => PutOut w w' F a σ at' xs 0 e := by
  have P := Lib.hid (spput_whole h at' hat xs n hn q c hc hcm hxs 0 hb hF)
  clear h hn hb hF hxs
  go_enter Tryz.func32, Tryz.ntmps32
  go_wp2_with fail
  refine P.out.mono ?_
  rintro e w1 ⟨rfl, h1, h2, h3⟩
  have H := Lib.hid (And.intro h1 (And.intro h2 h3))
  clear h1 h2 h3
  obtain ⟨er, her⟩ : ∃ er, mayErr σ at' xs.length 0 = er := ⟨_, rfl⟩
  rw [her]
  have HE := Lib.hid her
  clear her
  go_wp2
  go_ret
  exact ⟨by rw [HE.out]; rfl, H.out.1, H.out.2.1, H.out.2.2⟩
def readErr (σ : Spc) (a n : Nat) : Int := if 1048576 < n then 4 else mayErr σ a n 1
structure SpReadOut (w w' : World) (σ : Spc) (at' n : Nat) (e : Ending) : Prop where
  done : readErr σ at' n = 0 → ∃ q c, e = .returned (.tuple #[.slice q n c, .int .i64 0]) ∧ w'.ownsRow w.heap.size 5 1 (.slice q n c) n ((bytesOf σ at' n).map (Value.int .u8))
  left : readErr σ at' n ≠ 0 → e = .returned (.tuple #[.slice none 0 0, .int .i64 (readErr σ at' n)])
  grown : w.grownBy w' none

theorem put_nil_any (a : Nat) (q : Option Addr) (n c : Nat) (hn : n ≤ 9223372036854775807) (p : Int) (w : World) : Calls Tryz.prog 59 #[.pointer none, .int .u64 a, .slice q n c, .int .i64 p] w fun e w' => e = .returned (.int .i64 1) ∧ w.grownBy w' none := by
  obtain ⟨W2, hW2⟩ : ∃ W2, w.alloc (.cells #[.slice q n c] 31) = W2 := ⟨_, rfl⟩
  have hbx : OneAt W2 w.heap.size (.slice q n c) 31 := by rw [← hW2]; exact OneAt.new w _ _
  have g12 : w.grownBy W2 none := by rw [← hW2]; exact grown1 _ _
  have kb := hbx.c
  go_enter Tryz.func59, Tryz.ntmps59
  go_wp2_with fail
  refine (spmay_nil a n p W2).mono ?_
  rintro e w1 ⟨rfl, rfl⟩
  go_wp2
  go_ret
  exact ⟨rfl, g12⟩
theorem fill_nil (a : Nat) (q : Option Addr) (n c : Nat) (hn : n ≤ 9223372036854775807) (w : World) : Calls Tryz.prog 32 #[.pointer none, .int .u64 a, .slice q n c] w fun e w' => e = .returned (.int .i64 1) ∧ w.grownBy w' none := by
  go_enter Tryz.func32, Tryz.ntmps32
  go_wp2_with fail
  refine (put_nil_any a q n c hn 0 w).mono ?_
  rintro e w1 ⟨rfl, hg⟩
  go_wp2
  go_ret
  exact ⟨rfl, hg⟩
end Go.Proofs.YtdagnkdonlfobaaGreat

/- Numbers in a space: Word, SetWord. No condition. -/
namespace Go.Proofs.YtdagnkdonlfobaaGreat
open Go.RowKit Go.Maps Go.ChangeMaps
variable {w w' W : World} {F : Nat → Prop} {σ : Spc}

/-- The number of so many bytes, the lowest one first. -/
def numB (b : Nat → Int) : Nat → Int
  | 0 => 0
  | k + 1 => numB b k + b k * 256 ^ k
theorem numB_bd {b : Nat → Int} (h : ∀ i, 0 ≤ b i ∧ b i < 256) : ∀ k, 0 ≤ numB b k ∧ numB b k < 256 ^ k
  | 0 => by simp [numB]
  | k + 1 => by
    obtain ⟨h1, h2⟩ := numB_bd h k
    obtain ⟨h3, h4⟩ := h k
    unfold numB
    have hp : (0 : Int) < 256 ^ k := Int.pow_pos (by omega)
    have e : (256 : Int) ^ (k + 1) = 256 * 256 ^ k := by rw [Int.pow_succ]; omega
    have h5 : b k * 256 ^ k ≤ 255 * 256 ^ k := Int.mul_le_mul_of_nonneg_right (by omega) (by omega)
    have h6 : 0 ≤ b k * 256 ^ k := Int.mul_nonneg h3 (by omega)
    rw [e]
    omega
theorem pow7 : ∀ k, k < 8 → (256 : Int) ^ k ≤ 72057594037927936 := by decide
theorem or_step {v B : Int} {k : Nat} (hk : k < 8) (hv : 0 ≤ v ∧ v < 256 ^ k) (hB : 0 ≤ B ∧ B < 256) : bits BinOp.or IntKind.u64 v (IntKind.u64.wrap (B * 2 ^ (8 * k))) = v + B * 256 ^ k := by
  have e : (2 : Int) ^ (8 * k) = 256 ^ k := by rw [Int.pow_mul]; rfl
  have hp : (0 : Int) < 256 ^ k := Int.pow_pos (by omega)
  have h1 : 0 ≤ B * 256 ^ k := Int.mul_nonneg hB.1 (by omega)
  have h2 : B * 256 ^ k < 18446744073709551616 := by
    have h5 : B * 256 ^ k ≤ 255 * 256 ^ k := Int.mul_le_mul_of_nonneg_right (by omega) (by omega)
    have h6 := pow7 k hk
    omega
  have h8 : v < 18446744073709551616 := by
    have h6 := pow7 k hk
    omega
  rw [e, u64_wrap_id _ h1 h2]
  exact bits_join_low .u64 64 (by decide) (fun n a b => wraps_u64 n a (by simpa using b)) (8 * k) v (B * 256 ^ k) hv.1 (by rw [e]; exact hv.2) (by omega) h1 (by rw [e]; exact Int.mul_emod_left _ _) (by omega)

structure WordOut (w w' : World) (σ : Spc) (at' : Nat) (e : Ending) : Prop where
  done : readErr σ at' 8 = 0 → e = .returned (.tuple #[.int .u64 (numB (fun i => σ.B (at' + i)) 8), .int .i64 0])
  left : readErr σ at' 8 ≠ 0 → e = .returned (.tuple #[.int .u64 0, .int .i64 (readErr σ at' 8)])
  grown : w.grownBy w' none

/-- A number's eight bytes. -/
def wordL (n : Nat) : List Int := (List.range 8).map fun i => ((n / 256 ^ i % 256 : Nat) : Int)
theorem wordL_len (n : Nat) : (wordL n).length = 8 := by simp [wordL]
theorem wordL_bytes (n : Nat) : ∀ x ∈ wordL n, 0 ≤ x ∧ x < 256 := by
  intro x hx
  obtain ⟨i, _, rfl⟩ := List.mem_map.1 hx
  omega
def wordArr (n : Nat) : Array Value := #[.int .u8 ((n : Int) % 256), .int .u8 ((n : Int) / 256 % 256), .int .u8 ((n : Int) / 65536 % 256), .int .u8 ((n : Int) / 16777216 % 256), .int .u8 ((n : Int) / 4294967296 % 256), .int .u8 ((n : Int) / 1099511627776 % 256), .int .u8 ((n : Int) / 281474976710656 % 256), .int .u8 ((n : Int) / 72057594037927936)]
theorem wordArr_get (n : Nat) (hn : n < 18446744073709551616) : ∀ i, i < 8 → (wordArr n)[i]? = some (.int .u8 ((wordL n).getD i 0)) := by
  intro i hi
  have e : (wordL n).getD i 0 = ((n / 256 ^ i % 256 : Nat) : Int) := by simp [wordL, hi]
  rw [e]
  match i, hi with
  | 0, _ => simp [wordArr]
  | 1, _ => simp [wordArr]
  | 2, _ => simp [wordArr]
  | 3, _ => simp [wordArr]
  | 4, _ => simp [wordArr]
  | 5, _ => simp [wordArr]
  | 6, _ => simp [wordArr]
  | 7, _ => rw [show n / 256 ^ 7 % 256 = n / 72057594037927936 by omega]; simp [wordArr]
end Go.Proofs.YtdagnkdonlfobaaGreat

/- A new space; the chapter's row: known, of the statements of layer 7. No condition. -/
namespace Go.Proofs.YtdagnkdonlfobaaGreat
open Go.RowKit Go.Maps Go.ChangeMaps
variable {w w' W : World} {F : Nat → Prop} {σ : Spc}

def Spc.zero : Spc := ⟨fun _ => 0, fun _ => 0, 0⟩
theorem zero_fits : Fits Spc.zero := ⟨by decide, fun _ h => absurd rfl h, fun _ => ⟨Int.le_refl 0, show (0 : Int) ≤ 7 by decide⟩, fun _ => ⟨Int.le_refl 0, show (0 : Int) < 256 by decide⟩, fun _ _ => rfl⟩
/-- The blocks that were laid between two worlds. -/
def Span (w W : World) (k : Nat) : Prop := w.heap.size ≤ k ∧ k < W.heap.size
theorem spc_zero {a : Nat} (h : W.heap[a]? = some (.cells #[.map none, .map none] 66 (0, 0))) (hF : F a) : SpcAt W F a Spc.zero :=
  ⟨hF, zero_fits, _, _, h, .bare (fun _ => rfl) rfl⟩
theorem span_foot {W' : World} (h1 : w.heap.size ≤ W.heap.size) (h2 : W.heap.size ≤ W'.heap.size) (k : Nat) (h : Foot (Span w W) W W' k) : Span w W' k := by
  unfold Foot Span at *; omega
theorem span_up {W' : World} (h2 : W.heap.size ≤ W'.heap.size) (k : Nat) (h : Span w W k) : Span w W' k := by unfold Span at *; omega
theorem span_below {W' : World} (hb : Below w.heap.size w W) (h : Chg (Span w W) W W') : Below w.heap.size w W' :=
  hb.trans ⟨h.os, h.tape, h.output, h.size, fun k hk => h.block k (Nat.lt_of_lt_of_le hk hb.size) (fun e => by unfold Span at e; omega)⟩
theorem spnew_any (w : World) : Calls Tryz.prog 7 #[] w fun e w' => e = .returned (.pointer (some ⟨w.heap.size, 0, none⟩)) ∧ SpcAt w' (Span w w') w.heap.size Spc.zero ∧ Below w.heap.size w w' := by
  go_enter Tryz.func7, Tryz.ntmps7
  go_wp2
  go_ret
  exact ⟨rfl, spc_zero (heap_alloc_new w _) ⟨Nat.le_refl _, by simp⟩, (Below.refl _ _).alloc (Nat.le_refl _) _⟩

def kn1 : Spc := Spc.zero.lays 1 2 3
def kn2 : Spc := kn1.put 8188 (wordL 72623859790382856)
set_option maxRecDepth 20000 in
theorem kn_map : mapErr Spc.zero 4096 8192 3 = 0 := by decide +kernel
set_option maxRecDepth 20000 in
theorem kn_set : mayErr kn1 8188 (wordL 72623859790382856).length 2 = 0 := by decide +kernel
set_option maxRecDepth 20000 in
theorem kn_read : readErr kn2 8188 8 = 0 := by decide +kernel
set_option maxRecDepth 20000 in
theorem kn_word : numB (fun i => kn2.B (8188 + i)) 8 = 72623859790382856 := by decide +kernel
set_option maxRecDepth 20000 in
theorem kn_gap : mayErr kn2 4094 [(1 : Int)].length 2 = 4 := by decide +kernel

end Go.Proofs.YtdagnkdonlfobaaGreat
