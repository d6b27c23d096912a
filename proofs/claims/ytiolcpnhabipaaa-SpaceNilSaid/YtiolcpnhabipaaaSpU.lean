/- Bytes that are written into a page, and what a space then tells. No condition. -/
import Derived.Test.YtiolcpnhabipaaaSpT
import Derived.Laws.CopyOwn
namespace Go.Proofs.Ytiolcpnhabipaaa
open Go.RowKit Go.Maps Go.ChangeMaps
variable {w w' W : World} {F : Nat → Prop} {σ : Spc}

def Spc.put (σ : Spc) (a : Nat) (xs : List Int) : Spc := ⟨σ.P, fun x => if a ≤ x ∧ x < a + xs.length then xs.getD (x - a) 0 else σ.B x, σ.K⟩
theorem put_nil (a : Nat) : σ.put a [] = σ := by
  have e : (σ.put a []).B = σ.B := by
    funext x
    exact if_neg (by simp)
  exact congrArg (fun b => Spc.mk σ.P b σ.K) e
theorem put_put (a : Nat) (xs ys : List Int) : (σ.put a xs).put (a + xs.length) ys = σ.put a (xs ++ ys) := by
  have e : ((σ.put a xs).put (a + xs.length) ys).B = (σ.put a (xs ++ ys)).B := by
    funext x
    show (if a + xs.length ≤ x ∧ x < a + xs.length + ys.length then ys.getD (x - (a + xs.length)) 0 else if a ≤ x ∧ x < a + xs.length then xs.getD (x - a) 0 else σ.B x) = if a ≤ x ∧ x < a + (xs ++ ys).length then (xs ++ ys).getD (x - a) 0 else σ.B x
    rw [List.length_append]
    by_cases h1 : a + xs.length ≤ x ∧ x < a + xs.length + ys.length
    · rw [if_pos h1, if_pos (by omega), List.getD_eq_getElem?_getD, List.getD_eq_getElem?_getD, List.getElem?_append_right (by omega), show x - a - xs.length = x - (a + xs.length) by omega]
    · rw [if_neg h1]
      by_cases h2 : a ≤ x ∧ x < a + xs.length
      · rw [if_pos h2, if_pos (by omega), List.getD_eq_getElem?_getD, List.getD_eq_getElem?_getD, List.getElem?_append_left (by omega)]
      · rw [if_neg h2, if_neg (by omega)]
  exact congrArg (fun b => Spc.mk σ.P b σ.K) e
theorem put_fits (h : Fits σ) (a : Nat) {xs : List Int} (hx : ∀ x ∈ xs, 0 ≤ x ∧ x < 256) : Fits (σ.put a xs) := by
  refine ⟨h.few, h.low, h.prot, fun x => ?_, h.none⟩
  show 0 ≤ (if a ≤ x ∧ x < a + xs.length then xs.getD (x - a) 0 else σ.B x) ∧ (if a ≤ x ∧ x < a + xs.length then xs.getD (x - a) 0 else σ.B x) < 256
  split
  · rw [List.getD_eq_getElem?_getD, List.getElem?_eq_getElem (by omega)]
    exact hx _ (List.getElem_mem _)
  · exact h.bytes x

def u8s (xs : List Int) : List Value := xs.map (Value.int .u8)
theorem u8s_len (xs : List Int) : (u8s xs).length = xs.length := List.length_map _
theorem u8s_one {xs : List Int} : ∀ v ∈ u8s xs, v.oneCell' = true := by
  intro v hv
  obtain ⟨x, _, rfl⟩ := List.mem_map.1 hv
  rfl
/-- The page that is written. -/
theorem page_put {p o : Nat} {xs : List Int} (ho : o + xs.length ≤ 4096) : (splice (pageArr σ.B p).toList o (u8s xs)).toArray = pageArr (σ.put (4096 * p + o) xs).B p := by
  have hl : (pageArr σ.B p).toList.length = 4096 := by simp [pageArr, pageVals]
  have hl2 : (splice (pageArr σ.B p).toList o (u8s xs)).length = 4096 := by rw [length_splice _ _ _ (by rw [u8s_len, hl]; exact ho), hl]
  apply Array.ext_getElem?
  intro i
  rw [List.getElem?_toArray]
  by_cases hi : i < 4096
  · have hg := pageVals_get (fun i => (σ.put (4096 * p + o) xs).B (4096 * p + i)) hi
    have hb := pageVals_get (fun i => σ.B (4096 * p + i)) hi
    have e : ((pageArr σ.B p).toList)[i]? = some (.int .u8 (σ.B (4096 * p + i))) := by rw [Array.getElem?_toList]; exact hb
    rw [show (pageArr (σ.put (4096 * p + o) xs).B p)[i]? = _ from hg]
    unfold splice
    show ((pageArr σ.B p).toList.take o ++ (u8s xs ++ (pageArr σ.B p).toList.drop (o + (u8s xs).length)))[i]? = some (.int .u8 (if 4096 * p + o ≤ 4096 * p + i ∧ 4096 * p + i < 4096 * p + o + xs.length then xs.getD (4096 * p + i - (4096 * p + o)) 0 else σ.B (4096 * p + i)))
    rw [u8s_len]
    by_cases h1 : i < o
    · rw [if_neg (by omega), List.getElem?_append_left (by rw [List.length_take, hl]; omega), List.getElem?_take_of_lt h1, e]
    · rw [List.getElem?_append_right (by rw [List.length_take, hl]; omega), List.length_take, hl, show min o 4096 = o by omega]
      by_cases h2 : i < o + xs.length
      · rw [if_pos (by omega), List.getElem?_append_left (by rw [u8s_len]; omega), show 4096 * p + i - (4096 * p + o) = i - o by omega]
        unfold u8s
        rw [List.getElem?_map, List.getElem?_eq_getElem (by omega)]
        simp [List.getD, show i - o < xs.length by omega]
      · rw [if_neg (by omega), List.getElem?_append_right (by rw [u8s_len]; omega), u8s_len, List.getElem?_drop, show o + xs.length + (i - o - xs.length) = i by omega, e]
  · rw [List.getElem?_eq_none (by omega), Array.getElem?_eq_none (by unfold pageArr; rw [pageVals_size]; omega)]
theorem page_else {p q o : Nat} {xs : List Int} (ho : o + xs.length ≤ 4096) (hq : q ≠ p) : pageArr (σ.put (4096 * p + o) xs).B q = pageArr σ.B q :=
  pageVals_congr fun i hi => by
    show (if 4096 * p + o ≤ 4096 * q + i ∧ 4096 * q + i < 4096 * p + o + xs.length then _ else σ.B (4096 * q + i)) = _
    rw [if_neg (by omega)]
theorem put_maps {g : Nat → Nat} {Dp Dq : DataW Unit} (h : MapsOf σ g Dp Dq) (a : Nat) (xs : List Int) : MapsOf (σ.put a xs) g Dp Dq := ⟨h.szp, h.szq, h.hasp, h.hasq, h.atp, h.atq, h.inj⟩

theorem grown_setRow {g : Nat} (w : World) (cs : Array Value) : w.grownBy (w.setRow g cs) (some g) :=
  ⟨rfl, rfl, rfl, by simp [World.setRow], fun k hk hn => setRow_other w g k cs (fun e => hn (by rw [e]))⟩

def ptrBlock : Result Value → Nat
  | .ok (.pointer (some x)) _ => x.block
  | _ => 0
/-- The space, once a page is written. -/
theorem SpcAt.wrote {a G p o : Nat} {mp : Value} {xs : List Int} (h : SpcAt W F a σ) (hmp : W.cell? ⟨a, 0, none⟩ = some mp) (hP : σ.P p ≠ 0) (hp : p < 18446744073709551616)
    (hl : (Instr.lookup 62 mp (.int .u64 p) false).run Try.prog W = .ok (.pointer (some ⟨G, 0, none⟩)) W) (ho : o + xs.length ≤ 4096) (hx : ∀ x ∈ xs, 0 ≤ x ∧ x < 256) :
    F G ∧ W.heap[G]? = some (.cells (pageArr σ.B p) 76 (0, 0)) ∧ SpcAt (W.setRow G (splice (pageArr σ.B p).toList o (u8s xs)).toArray) F a (σ.put (4096 * p + o) xs) := by
  obtain ⟨h1, h2, mp', mq, hb, hm⟩ := h
  have e1 : mp' = mp := Option.some.inj ((cell_of (i := 0) hb).symm.trans hmp)
  subst e1
  cases hm with
  | bare h0 _ => exact absurd (h0 p) hP
  | full bp bq g Dp Dq hne hpm hqm hmm fp fq fg =>
    obtain ⟨v, ps, h3, h4⟩ := World.ownsMap.lookup hpm u64keyed Try.underlying62 (zeroPtr W) (zd := .nil) (zp := []) rfl (key_of hp)
    rw [hmm.atp p _ hP] at h4
    rw [h3, ptrElem_inv h4] at hl
    have e2 : g p = G := congrArg ptrBlock hl
    obtain ⟨f1, f2⟩ := fg p hP
    rw [e2] at f1 f2
    obtain ⟨_, _, op⟩ := owns_obj hpm
    obtain ⟨_, _, oq⟩ := owns_obj hqm
    have n1 := obj_ne f2 op
    have n2 := obj_ne f2 oq
    have n3 : a ≠ G := by
      rintro rfl
      rw [hb] at f2
      injection f2 with f2
      injection f2 with _ f2 _
      cases f2
    refine ⟨f1, f2, h1, put_fits h2 _ hx, _, _, (setRow_other W G a _ n3).trans hb, .full bp bq g Dp Dq hne (owns_at hpm (setRow_other W G bp _ (Ne.symm n1))) (owns_at hqm (setRow_other W G bq _ (Ne.symm n2))) (put_maps hmm _ _) fp fq fun m hmP => ⟨(fg m hmP).1, ?_⟩⟩
    by_cases e : m = p
    · subst e
      rw [e2, page_put ho]
      exact setRow_heap W G _ _ _ _ f2
    · rw [page_else ho e]
      have ng : g m ≠ G := fun h => e (hmm.inj m p hmP hP (by rw [h, e2]))
      exact (setRow_other W G (g m) _ ng).trans (fg m hmP).2

/-- What is looked up in a space, in whatever world that has turned neither the space's own block nor its pages' map. -/
theorem SpcAt.look {a : Nat} (h : SpcAt w F a σ) : ∃ (mp : Value) (g : Nat → Nat) (bp : Nat), F bp ∧ bp < w.heap.size ∧ (∀ cs, w.heap[bp]? ≠ some (.cells cs 76 (0, 0))) ∧ (∀ cs, w.heap[a]? ≠ some (.cells cs 76 (0, 0))) ∧
    ∀ W : World, W.heap[a]? = w.heap[a]? → W.heap[bp]? = w.heap[bp]? → W.cell? ⟨a, 0, none⟩ = some mp ∧
    ∀ m, m < 18446744073709551616 → σ.P m ≠ 0 → (Instr.lookup 62 mp (.int .u64 m) false).run Try.prog W = .ok (.pointer (some ⟨g m, 0, none⟩)) W := by
  obtain ⟨h1, _, mp, mq, hb, hm⟩ := h
  have na : ∀ cs, w.heap[a]? ≠ some (.cells cs 76 (0, 0)) := fun cs e => by
    rw [hb] at e
    injection e with e
    injection e with _ e _
    cases e
  cases hm with
  | bare h0 _ =>
    refine ⟨.map none, fun _ => 0, a, h1, lt_of_block hb, na, na, fun W hW _ => ⟨?_, fun m _ hP => absurd (h0 m) hP⟩⟩
    rw [cell_of (hW.trans hb)]; rfl
  | full bp bq g Dp Dq hne hp hq hm fp fq fg =>
    obtain ⟨_, _, op⟩ := owns_obj hp
    refine ⟨.map (some bp), g, bp, fp, lt_of_block op, fun cs e => absurd rfl (obj_ne e op), na, fun W hW hW2 => ⟨?_, fun m hm64 hP => ?_⟩⟩
    · rw [cell_of (hW.trans hb)]; rfl
    · have hp' : PMap W bp σ.K Dp := owns_at hp hW2
      obtain ⟨v, ps, h1, h2⟩ := World.ownsMap.lookup hp' u64keyed Try.underlying62 (zeroPtr W) (zd := .nil) (zp := []) rfl (key_of hm64)
      rw [hm.atp m _ hP] at h2
      rw [h1, ptrElem_inv h2]
end Go.Proofs.Ytiolcpnhabipaaa
