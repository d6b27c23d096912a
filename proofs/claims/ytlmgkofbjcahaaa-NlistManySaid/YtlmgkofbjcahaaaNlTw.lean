/- Are two symbols of one name: nlist.twice. Conditions: they are few, their names short. -/
import Derived.Test.YtlmgkofbjcahaaaNlT
import Derived.Deep.Cut
import Derived.Deep.CutRange
namespace Go.Proofs.Ytlmgkofbjcahaaa
open Go.RowKit Go.Maps
variable {w w' : World} {D : Syms}

/-- Are two of one name? -/
def twB (D : Syms) : Bool := !decide ((D.map Prod.fst).Nodup)
theorem twB_no {D : Syms} (h : twB D = false) : D.Pairwise fun a b => a.1 ≠ b.1 := by
  unfold twB at h
  rw [Bool.not_eq_false', decide_eq_true_eq] at h
  exact List.pairwise_map.1 h
theorem twB_yes {D : Syms} (h : twB D = true) : ¬ D.Pairwise fun a b => a.1 ≠ b.1 := by
  unfold twB at h
  rw [Bool.not_eq_true', decide_eq_false_iff_not] at h
  exact fun k => h (List.pairwise_map.2 k)
theorem keys_few (hD : ∀ y ∈ D, Byt y.1) : decide ((Maps.size (setOf (H := Unit) (.agg []) (D.map fun y => keyN y.1)) : Int) < (D.length : Int)) = twB D := by
  rw [size_setOf _ _ (fun x hx => by obtain ⟨y, _, rfl⟩ := List.mem_map.1 hx; exact keyN_is _)]
  obtain ⟨h1, h2⟩ := addKey_len (D.map fun y => keyN y.1) (fun x hx => by obtain ⟨y, _, rfl⟩ := List.mem_map.1 hx; exact keyN_is _) []
  rw [List.length_nil, Nat.zero_add, List.length_map] at h1 h2
  have hk : (D.map fun y => keyN y.1).Nodup ↔ (D.map Prod.fst).Nodup := by
    unfold List.Nodup
    rw [List.pairwise_map, List.pairwise_map]
    constructor
    · intro h
      refine h.imp_of_mem (fun {a b} ha hb hne e => hne ?_)
      exact (keyN_inj (hD a ha) (hD b hb)).2 e
    · intro h
      refine h.imp_of_mem (fun {a b} ha hb hne e => hne ?_)
      exact (keyN_inj (hD a ha) (hD b hb)).1 e
  unfold twB
  by_cases hn : (D.map Prod.fst).Nodup
  · have := h2.2 ⟨hk.2 hn, fun x _ => List.not_mem_nil⟩
    rw [decide_eq_true hn, Bool.not_true, decide_eq_false_iff_not]
    omega
  · have h3 : ¬ ((D.map fun y => keyN y.1).foldl addKey []).length = D.length := fun e => hn (hk.1 (h2.1 e).1)
    rw [decide_eq_false hn, Bool.not_false, decide_eq_true_eq]
    omega
set_option maxRecDepth 20000 in
set_option maxHeartbeats 1600000 in
theorem twice_any {q : Option Addr} {n c : Nat} (hn : D.length = n) (hD : SysAt w q D) (hfew : n ≤ 1000000) (hm : ∀ y ∈ D, Byt y.1 ∧ y.1.length ≤ 255) :
    Calls Try.prog 28 #[.slice q n c] w fun e w' => e = .returned (.bool (twB D)) ∧ w.grownBy w' none := by
  have HD := Lib.hid hD
  have HM := Lib.hid hm
  have HN := Lib.hid hn
  have gm := grown1 w (.map #[] 0)
  have NM := MetN.made w
  obtain ⟨W1, hW1⟩ : ∃ W1, W1 = w.alloc (.map #[] 0) := ⟨_, rfl⟩
  obtain ⟨m, hmm⟩ : ∃ m, m = w.heap.size := ⟨_, rfl⟩
  rw [← hW1] at gm NM
  rw [← hmm] at NM
  have KF := Lib.hid (keys_few (D := D) (fun y hy => (hm y hy).1))
  obtain ⟨r, hr⟩ : ∃ r, r = twB D := ⟨_, rfl⟩
  rw [← hr] at KF ⊢
  rw [hn] at KF
  have HW := Lib.hid hW1.symm
  have HMM := Lib.hid hmm.symm
  have GM := Lib.hid gm
  have N0 := Lib.hid NM
  have hwm : w.heap.size ≤ m := by omega
  clear hD hm hn gm NM hW1 hmm hr
  have hmk := @run_makeMap Try.prog
  go_enter Try.func28, Try.ntmps28
  go_upto_region 2 with fail
  rw [HW.out, HMM.out]
  clear HW HMM hmk
  go_wp2
  go_loopw [9] (fun vi wr => ∃ k : Nat, k ≤ n ∧ vi = .int .i64 (k : Int) ∧ w.grownBy wr none ∧ MetN wr m k (D.take k)) (fun vi _ => n - (intOf vi).toNat)
  case atStart => exact ⟨0, Nat.zero_le _, rfl, GM.out, N0.out⟩
  case round =>
    obtain ⟨k, hk, rfl, hg, hna⟩ := hrel
    have G := Lib.hid hg
    by_cases hlt : k < n
    · obtain ⟨y, hy⟩ : ∃ y, D[k]? = some y := ⟨_, List.getElem?_eq_getElem (by rw [HN.out]; exact hlt)⟩
      obtain ⟨gq, oq, rfl, a0, a1, a2, a3⟩ := (HD.out.grown hg).at hy
      have dl : decide ((k : Int) < (n : Int)) = true := by simp; omega
      have hkI : (k : Int) < (n : Int) := by omega
      have g2 := grown1 wr (.cells #[.string (strOfNums y.1), .int .i64 y.2.sec, .int .u64 y.2.value, .bool y.2.weak] 32)
      have x2 := SyAt.new wr (strOfNums y.1) y.2
      have n2 : MetN (wr.alloc (.cells #[.string (strOfNums y.1), .int .i64 y.2.sec, .int .u64 y.2.value, .bool y.2.weak] 32)) m k (D.take k) := hna.kept g2 (by simp)
      obtain ⟨w3, hr3, n3, g3⟩ := n2.put y (by have := (HM.out y (List.mem_of_getElem? hy)).2; omega) (by unfold maxLen; omega)
      have htk : D.take k ++ [y] = D.take (k + 1) := by
        obtain ⟨h1, rfl⟩ := List.getElem?_eq_some_iff.1 hy
        rw [List.take_succ_eq_append_getElem h1]
      rw [htk] at n3
      have N3 := Lib.hid n3
      have G3 := Lib.hid (grown_new (grown_trans hg g2) g3 hwm)
      have xc := x2.c.1
      have xl := x2.lt
      clear hg hna hy g2 x2 n2 n3 g3 htk
      go_wp2
      go_roundw
      case rel => exact ⟨k + 1, hlt, by go_num, G3.out, N3.out⟩
      case measure => simp [intOf]; omega
    · have hkn : k = n := by omega
      subst hkn
      have dl : decide ((k : Int) < (k : Int)) = false := by simp
      have htk : D.take k = D := by rw [← HN.out, List.take_length]
      rw [htk] at hna
      have hlen := World.ownsMap.len hna Try.underlying49 3
      have kf := KF.out
      obtain ⟨Z, hZ⟩ : ∃ Z, Maps.size (setOf (H := Unit) (.agg []) (D.map fun y => keyN y.1)) = Z := ⟨_, rfl⟩
      rw [hZ] at hlen kf
      have K2 := Lib.hid kf
      clear hg hna hZ kf htk
      go_wp2
      go_ret
      exact ⟨ret_bool (by rw [← K2.out]; exact decide_eq_decide.2 (by omega)), G.out⟩
end Go.Proofs.Ytlmgkofbjcahaaa
