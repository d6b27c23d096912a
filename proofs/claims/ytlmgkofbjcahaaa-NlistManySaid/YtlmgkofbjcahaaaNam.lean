/- Names: lists of bytes, what of them is a text, how they read as strings; slices of bytes from a place on; keys of sets of names. No condition. -/
import Derived.Test.YtlmgkofbjcahaaaText
import Derived.Test.YtlmgkofbjcahaaaGrow
import Derived.Laws.Slices
import Derived.Lib.ConvBytes
import Derived.StringKeys
import Derived.Maps.Own
import Derived.Maps.OwnOps
import Derived.Maps.OwnSet
import Derived.WideShapes
namespace Go.Proofs.Ytlmgkofbjcahaaa
open Go.RowKit Go.Maps
variable {w w' : World}

def Byt (l : List Int) : Prop := ∀ x ∈ l, 0 ≤ x ∧ x < 256
theorem Byt.drop {l : List Int} (h : Byt l) (n : Nat) : Byt (l.drop n) := fun x hx => h x (List.mem_of_mem_drop hx)
theorem Byt.take {l : List Int} (h : Byt l) (n : Nat) : Byt (l.take n) := fun x hx => h x (List.mem_of_mem_take hx)
theorem Byt.app {l m : List Int} (h : Byt l) (k : Byt m) : Byt (l ++ m) := fun x hx => (List.mem_append.1 hx).elim (h x) (k x)
theorem pre_mem {l : List Int} {x : Int} (h : x ∈ pre l) : x ∈ l := by rw [pre_take] at h; exact List.mem_of_mem_take h
theorem Byt.pre {l : List Int} (h : Byt l) : Byt (pre l) := fun x hx => h x (pre_mem hx)
/-- A name's bytes, as bytes. -/
def nums (l : List Int) : List Int := (Lib.bytesOf l).map fun u => (u.toNat : Int)
theorem nums_byt : ∀ {l : List Int}, Byt l → nums l = l
  | [], _ => rfl
  | x :: l, h => by
    have h1 := h x (List.mem_cons_self ..)
    have h2 := nums_byt (l := l) (fun y hy => h y (List.mem_cons_of_mem _ hy))
    unfold nums at h2 ⊢
    simp only [Lib.bytesOf, List.map_cons] at h2 ⊢
    rw [h2]
    congr 1
    simp only [UInt8.toNat_ofNat']
    omega
theorem text_nil (t : List Int) : ((strOfNums t).toList == []) = decide (t = []) := by
  rw [Lib.strOfNums_toList]
  cases t <;> simp [Lib.bytesOf]
theorem index0 : ∀ {t : List Int}, Byt t → decide (Lib.indexByte (Lib.bytesOf t) 0 < 0) = decide ((0 : Int) ∉ t)
  | [], _ => by simp [Lib.bytesOf, Lib.indexByte]
  | x :: t, h => by
    have ih := index0 (t := t) (fun y hy => h y (List.mem_cons_of_mem _ hy))
    have hx := h x (List.mem_cons_self ..)
    have ge := Lib.indexByte_ge (Lib.bytesOf t) 0
    have e : Lib.indexByte (Lib.bytesOf (x :: t)) 0 = if UInt8.ofNat x.toNat == 0 then 0 else if Lib.indexByte (Lib.bytesOf t) 0 == -1 then -1 else Lib.indexByte (Lib.bytesOf t) 0 + 1 := rfl
    by_cases h0 : x = 0
    · subst h0
      rw [e]
      simp
    · have hne : (UInt8.ofNat x.toNat == 0) = false := by
        rw [beq_eq_false_iff_ne]
        intro e
        have := congrArg UInt8.toNat e
        simp only [UInt8.toNat_ofNat'] at this
        have z : (0 : UInt8).toNat = 0 := rfl
        omega
      have hm : (0 : Int) ∉ x :: t ↔ (0 : Int) ∉ t := by
        simp only [List.mem_cons, not_or]
        exact ⟨fun h => h.2, fun h => ⟨fun e => h0 e.symm, h⟩⟩
      rw [e, hne, decide_eq_decide.2 hm, ← ih, decide_eq_decide]
      simp only [Bool.false_eq_true, if_false, beq_iff_eq]
      split <;> omega
theorem pre_self : ∀ (t : List Int), decide (pre t = t) = decide ((0 : Int) ∉ t)
  | [] => by simp [pre]
  | x :: t => by
    have ih := pre_self t
    by_cases h0 : x = 0
    · subst h0; simp [pre]
    · rw [show pre (x :: t) = x :: pre t from if_neg h0]
      have hm : (0 : Int) ∉ x :: t ↔ (0 : Int) ∉ t := by
        simp only [List.mem_cons, not_or]
        exact ⟨fun h => h.2, fun h => ⟨fun e => h0 e.symm, h⟩⟩
      rw [decide_eq_decide.2 hm, ← ih, decide_eq_decide]
      exact ⟨fun e => (List.cons.inj e).2, fun e => by rw [e]⟩
theorem turned_grown (w : World) (e : TypeId) (s : ByteArray) : w.grownBy (Lib.bytesWorld w e s) none where
  os := rfl
  tape := rfl
  output := rfl
  size := by rw [Lib.bytesWorld_size]; omega
  block j hj _ := Lib.bytesWorld_at_old w e s j hj
theorem text_same {a b : List Int} (ha : Byt a) (hb : Byt b) : ((strOfNums a).toList == (strOfNums b).toList) = decide (a = b) := by
  rw [Lib.strOfNums_toList, Lib.strOfNums_toList]
  by_cases h : a = b
  · subst h; simp
  · rw [decide_eq_false h, beq_eq_false_iff_ne]
    intro e
    apply h
    rw [← nums_byt ha, ← nums_byt hb]
    unfold nums
    rw [e]
theorem pre_bytes : ∀ {t : List Int}, Byt t → Byt (pre t)
  | [], h => h
  | x :: t, h => by
    by_cases h0 : x = 0
    · subst h0; intro y hy; simp [pre] at hy
    · rw [show pre (x :: t) = x :: pre t from if_neg h0]
      intro y hy
      rcases List.mem_cons.1 hy with rfl | hy
      · exact h _ (List.mem_cons_self ..)
      · exact pre_bytes (t := t) (fun z hz => h z (List.mem_cons_of_mem _ hz)) y hy
theorem bytes_there (w : World) (e : TypeId) {t : List Int} (ht : Byt t) (c : Nat) : IsBytes (Lib.bytesWorld w e (strOfNums t)) (some ⟨w.heap.size, 0, none⟩) c t := by
  refine IsBytes.mk_at fun i hi => ?_
  have hi' : i < t.length := hi
  rw [Nat.zero_add, Lib.bytesWorld_cell w e _ i (by rw [strOfNums_size]; exact hi'), strOfNums_data]
  have hm := ht _ (List.getElem_mem hi')
  simp only [List.getD_eq_getElem?_getD, List.getElem?_map, List.getElem?_eq_getElem hi', Option.map_some, Option.getD_some, UInt8.toNat_ofNat']
  congr 3
  omega
theorem ex_text (s : ByteArray) (h : s.size ≤ maxLen) : ∃ t : List Int, Byt t ∧ t.length ≤ 9223372036854775807 ∧ strOfNums t = s := by
  refine ⟨s.data.toList.map fun u => (u.toNat : Int), ?_, ?_, ?_⟩
  · intro x hx
    obtain ⟨u, _, rfl⟩ := List.mem_map.1 hx
    have := u.toNat_lt
    omega
  · rw [List.length_map, Array.length_toList]
    exact h
  · apply ByteArray.ext
    apply Array.toList_inj.1
    rw [strOfNums_data, List.map_map]
    conv => rhs; rw [← List.map_id s.data.toList]
    apply List.map_congr_left
    intro u _
    apply UInt8.toNat_inj.1
    have := u.toNat_lt
    simp only [Function.comp, UInt8.toNat_ofNat', id]
    omega
theorem list_ofE {α : Type} (z : α) (n : Nat) (P : Nat → α → Prop) (h : ∀ i, i < n → ∃ s, P i s) : ∃ l : List α, l.length = n ∧ ∀ i s, l[i]? = some s → P i s := by
  have h' : ∀ i, ∃ s, i < n → P i s := fun i => by
    by_cases hi : i < n
    · obtain ⟨s, hs⟩ := h i hi; exact ⟨s, fun _ => hs⟩
    · exact ⟨z, fun h => absurd h hi⟩
  refine ⟨(List.range n).map fun i => Classical.choose (h' i), by simp, fun i s hs => ?_⟩
  rw [List.getElem?_map] at hs
  rcases Nat.lt_or_ge i n with hi | hi
  · rw [List.getElem?_range hi] at hs
    injection hs with hs
    rw [← hs]
    exact Classical.choose_spec (h' i) hi
  · rw [List.getElem?_eq_none (by simpa using hi)] at hs
    cases hs
theorem cut_lo {T k : Nat} (ht : Try.prog.underlying T = some (.slice (Try.prog.elem T))) (hs : ∀ W, (sizeOf (Try.prog.elem T)).run Try.prog W = .ok k W) (b o n c p : Nat) (kl : IntKind) (hp : p ≤ n) :
    ∃ V : Option Addr, (∀ W, (Instr.slice T (.slice (some ⟨b, o, none⟩) n c) (some (.int kl (p : Int))) none none).run Try.prog W = .ok (.slice V (n - p) (c - p)) W) ∧ (V = some ⟨b, o, none⟩ ∧ c = p ∨ V = some ⟨b, o + p * k, none⟩) := by
  by_cases hc : c = p
  · refine ⟨some ⟨b, o, none⟩, fun W => ?_, .inl ⟨rfl, hc⟩⟩
    rw [run_slice_l (P := Try.prog) W T (some ⟨b, o, none⟩) n c ht kl (p : Int) (by omega) (by omega), hs]
    simp only [Result.andThen, sliced]
    rw [if_pos (by omega), show ((p : Int)).toNat = p by omega]
  · refine ⟨some ⟨b, o + p * k, none⟩, fun W => ?_, .inr rfl⟩
    rw [run_slice_l (P := Try.prog) W T (some ⟨b, o, none⟩) n c ht kl (p : Int) (by omega) (by omega), hs]
    simp only [Result.andThen, sliced]
    rw [if_neg (by omega), show ((p : Int)).toNat = p by omega]
    simp only [Option.map_some, add_flat]
theorem cut_bytes {b o c p : Nat} {xs : List Int} (hx : ∀ i, i < xs.length → w.cell? ⟨b, o + i, none⟩ = some (.int .u8 (xs.getD i 0))) (hc : xs.length ≤ c) (hp : p ≤ xs.length) (kl : IntKind) :
    ∃ V : Option Addr, (∀ W, (Instr.slice 22 (.slice (some ⟨b, o, none⟩) xs.length c) (some (.int kl (p : Int))) none none).run Try.prog W = .ok (.slice V (xs.length - p) (c - p)) W) ∧ IsBytes w V (c - p) (xs.drop p) ∧ (p < xs.length → V = some ⟨b, o + p, none⟩) := by
  obtain ⟨V, hV, h⟩ := cut_lo (T := 22) (k := 1) (by kernel_rfl) (fun W => by kernel_rfl) b o xs.length c p kl hp
  refine ⟨V, hV, ?_, fun hlt => ?_⟩
  · rcases h with ⟨rfl, h⟩ | rfl
    · rw [List.drop_eq_nil_of_le (by omega)]
      exact IsBytes.empty
    · refine IsBytes.mk_at fun i hi => ?_
      rw [List.length_drop] at hi
      rw [Nat.mul_one, Nat.add_assoc, hx (p + i) (by omega)]
      simp [List.getD, List.getElem?_drop]
  · rcases h with ⟨_, h⟩ | rfl
    · omega
    · rw [Nat.mul_one]
theorem cut_hi {T k : Nat} (ht : Try.prog.underlying T = some (.slice (Try.prog.elem T))) (hs : ∀ W, (sizeOf (Try.prog.elem T)).run Try.prog W = .ok k W) (b o n c h : Nat) (kh : IntKind) (hh : h ≤ c) (W : World) :
    (Instr.slice T (.slice (some ⟨b, o, none⟩) n c) none (some (.int kh (h : Int))) none).run Try.prog W = .ok (.slice (some ⟨b, o, none⟩) h c) W := by
  rw [run_slice_h (P := Try.prog) W T (some ⟨b, o, none⟩) n c ht kh (h : Int) (by omega) (by omega), hs]
  simp only [Result.andThen, sliced]
  rw [show ((h : Int)).toNat = h by omega]
  split
  · simp
  · simp only [Option.map_some, add_flat, Nat.zero_mul, Nat.add_zero, Nat.sub_zero]
theorem any_key {L : List Lit} {x : Lit} (hx : WideAt.IsKeyLit x) : L.any (fun y => y.sameKey x) = true ↔ x ∈ L := by
  rw [List.any_eq_true]
  constructor
  · rintro ⟨y, hy, hs⟩
    by_cases e : y = x
    · rw [← e]; exact hy
    · rw [sameKey_ne e] at hs; cases hs
  · intro hm
    exact ⟨x, hm, WideAt.sameKey_self hx⟩
theorem addKey_len (xs : List Lit) (hk : ∀ x ∈ xs, WideAt.IsKeyLit x) (L : List Lit) : (xs.foldl addKey L).length ≤ L.length + xs.length ∧ ((xs.foldl addKey L).length = L.length + xs.length ↔ xs.Nodup ∧ ∀ x ∈ xs, x ∉ L) := by
  induction xs generalizing L with
  | nil => simp
  | cons x r ih =>
    rw [List.foldl_cons]
    have hx := hk x (List.mem_cons_self ..)
    have hr := fun y hy => hk y (List.mem_cons_of_mem _ hy)
    by_cases hm : x ∈ L
    · have e : addKey L x = L := by unfold addKey; rw [if_pos ((any_key hx).2 hm)]
      rw [e]
      obtain ⟨h1, h2⟩ := ih hr L
      refine ⟨by rw [List.length_cons]; omega, ?_⟩
      constructor
      · intro he; rw [List.length_cons] at he; omega
      · rintro ⟨_, h3⟩
        exact absurd hm (h3 x (List.mem_cons_self ..))
    · have e : addKey L x = L ++ [x] := by unfold addKey; rw [if_neg (fun h => hm ((any_key hx).1 h))]
      rw [e]
      obtain ⟨h1, h2⟩ := ih hr (L ++ [x])
      rw [List.length_append, List.length_singleton] at h1 h2
      refine ⟨by rw [List.length_cons]; omega, ?_⟩
      rw [List.length_cons, show L.length + (r.length + 1) = L.length + 1 + r.length by omega, h2, List.nodup_cons]
      constructor
      · rintro ⟨a, b⟩
        refine ⟨⟨fun hxr => b x hxr (by simp), a⟩, fun y hy => ?_⟩
        rcases List.mem_cons.1 hy with rfl | hy
        · exact hm
        · exact fun h => b y hy (List.mem_append_left _ h)
      · rintro ⟨⟨a, b⟩, c⟩
        refine ⟨b, fun y hy h => ?_⟩
        rcases List.mem_append.1 h with h | h
        · exact c y (List.mem_cons_of_mem _ hy) h
        · rw [List.mem_singleton] at h
          exact a (h ▸ hy)
theorem strKeyed : Keyed Try.prog 9 := string_keyed Try.underlying9
/-- A piece of bytes, at a place that is there. -/
theorem cut_run {T : TypeId} (hT : Try.prog.underlying T = some (.slice (Try.prog.elem T))) (hs : ∀ W, (sizeOf (Try.prog.elem T)).run Try.prog W = .ok 1 W) (b o n c p k : Nat) (hk : p + k ≤ n) (hn : n ≤ c) (hp : 0 < k) (l h : Int) (hl : l = p) (hh : h = (p : Int) + k) (W : World) :
    (Instr.slice T (.slice (some ⟨b, o, none⟩) n c) (some (.int .i64 l)) (some (.int .i64 h)) none).run Try.prog W = .ok (.slice (some ⟨b, o + p, none⟩) k (c - p)) W := by
  rw [run_slice_lh (P := Try.prog) W T (some ⟨b, o, none⟩) n c hT .i64 .i64 l h (by omega) (by omega) (by omega), hs]
  simp only [Result.andThen, sliced]
  rw [if_neg (by omega), show h.toNat - l.toNat = k by omega, show l.toNat = p by omega]
  simp only [Option.map_some, add_flat, Nat.mul_one]
theorem size_u8 (W : World) : (sizeOf (Try.prog.elem 22)).run Try.prog W = .ok 1 W := by kernel_rfl
end Go.Proofs.Ytlmgkofbjcahaaa
