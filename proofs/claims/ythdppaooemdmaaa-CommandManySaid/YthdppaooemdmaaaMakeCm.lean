/- A header and commands: the program's own call. No condition but that there are at most a million commands. -/
import Derived.Test.YthdppaooemdmaaaOne
import Derived.Test.YthdppaooemdmaaaMay
namespace Go.Proofs.Ythdppaooemdmaaa
open Go.RowKit
variable {w w' : World}

theorem make1_any (m : Cm) (hf : m.Fits) (hb : IsBytes w m.q m.cap m.bytes) : Calls Try.prog 44 #[m.v] w fun e w' => e = .returned (.bool m.odd) ∧ w.grownBy w' none := by
  have gX := grown1 w (.cells #[.int .u32 m.cmd, .slice m.q m.bytes.length m.cap] 40)
  have A := Lib.hid (may_any (w := w.alloc (.cells #[.int .u32 m.cmd, .slice m.q m.bytes.length m.cap] 40)) m hf (hb.kept gX (by simp)))
  have GX := Lib.hid gX
  clear hb gX
  unfold Cm.odd
  unfold Cm.v at A ⊢
  generalize mayB m.cmd m.bytes = b at *
  go_enter Try.func44, Try.ntmps44
  go_wp2_with fail
  refine A.out.mono ?_
  rintro e w' ⟨rfl, hg⟩
  have G := Lib.hid (grown_trans GX.out hg)
  clear hg
  go_wp2
  go_ret
  exact ⟨rfl, G.out⟩

/-- slices.IndexFunc over commands: is one odd? -/
structure CRel (w wr : World) (p : Option Addr) (l : List Cm) (k : Nat) : Prop where
  le : k ≤ l.length
  none : ∀ i s, i < k → l[i]? = some s → s.odd = false
  cms : IsCms wr p l
  grown : w.grownBy wr Option.none
theorem indexC_any (l : List Cm) (n : Nat) (hn : l.length = n) (hl : n ≤ 1152921504606846976) (hfit : ∀ m ∈ l, m.Fits) (p : Option Addr) (c : Nat) (hp : IsCms w p l) :
    Calls Try.prog 68 #[.slice p n c, .func (.func 44) #[] #[]] w fun e w' =>
      (∃ z : Int, e = .returned (.int .i64 z) ∧ (0 ≤ z ↔ l.any Cm.odd = true)) ∧ w.grownBy w' none := by
  subst hn
  have R0 : CRel w w p l 0 := ⟨Nat.zero_le _, fun i s hi => by omega, hp, grown_refl _ _⟩
  have F := Lib.hid hfit
  clear hp hfit
  go_enter Try.func68, Try.ntmps68
  go_wp2
  go_loopw [8] (fun i wr => ∃ k : Nat, i = .int .i64 k ∧ CRel w wr p l k) (fun i _ => l.length - (intOf i).toNat)
  case atStart => exact ⟨0, rfl, R0⟩
  case round =>
    obtain ⟨k, rfl, hk⟩ := hrel
    have hle := hk.le
    by_cases hlt : k < l.length
    · obtain ⟨s, hs⟩ : ∃ s, l[k]? = some s := ⟨_, List.getElem?_eq_getElem hlt⟩
      obtain ⟨b, o, rfl, hc⟩ := hk.cms (by omega)
      obtain ⟨⟨c0, c1⟩, hbs⟩ := hc k s hs
      have K := Lib.hid hk
      have S := Lib.hid hs
      have M1 := Lib.hid (make1_any (w := wr) s (F.out s (List.mem_of_getElem? hs)) hbs)
      unfold Cm.v at M1
      clear hk hs hc hbs
      go_wp2_with fail
      refine M1.out.mono ?_
      rintro e w' ⟨rfl, hg⟩
      have G := Lib.hid hg
      clear hg
      cases hpr : s.odd
      · have P1 := Lib.hid hpr
        clear hpr
        go_wp2
        go_roundw
        case rel =>
          have hk := K.out
          refine ⟨k + 1, by go_num, by omega, fun i t hi ht => ?_, hk.cms.grown G.out, grown_trans hk.grown G.out⟩
          rcases Nat.lt_or_ge i k with h | h
          · exact hk.none i t h ht
          · obtain rfl : i = k := by omega
            rw [S.out] at ht
            injection ht with ht
            rw [← ht]; exact P1.out
        case measure => simp [intOf]; omega
      · have P1 := Lib.hid hpr
        clear hpr
        go_wp2
        go_ret
        exact ⟨⟨k, rfl, ⟨fun _ => List.any_eq_true.2 ⟨s, List.mem_of_getElem? S.out, P1.out⟩, fun _ => by omega⟩⟩, grown_trans K.out.grown G.out⟩
    · have hk' : k = l.length := by omega
      subst hk'
      have K := Lib.hid hk
      clear hk
      go_wp2
      go_ret
      refine ⟨⟨-1, rfl, ⟨fun h => by omega, fun h => ?_⟩⟩, K.out.grown⟩
      obtain ⟨x, hx, hp⟩ := List.any_eq_true.1 h
      obtain ⟨i, hi, rfl⟩ := List.getElem_of_mem hx
      rw [K.out.none i _ hi (List.getElem?_eq_getElem hi)] at hp
      cases hp
theorem containsC_any (l : List Cm) (n : Nat) (hn : l.length = n) (hl : n ≤ 1152921504606846976) (hfit : ∀ m ∈ l, m.Fits) (p : Option Addr) (c : Nat) (hp : IsCms w p l) :
    Calls Try.prog 47 #[.slice p n c, .func (.func 44) #[] #[]] w fun e w' =>
      e = .returned (.bool (l.any Cm.odd)) ∧ w.grownBy w' none := by
  have I := Lib.hid (indexC_any l n hn hl hfit p c hp)
  clear hp
  obtain ⟨b, hb⟩ : ∃ b, b = l.any Cm.odd := ⟨_, rfl⟩
  rw [← hb] at I ⊢
  clear hb
  go_enter Try.func47, Try.ntmps47
  go_wp2_with fail
  refine I.out.mono ?_
  rintro e w' ⟨⟨z, rfl, hz⟩, hg⟩
  have G := Lib.hid hg
  have Z := Lib.hid hz
  clear hg hz
  go_wp2
  go_ret
  refine ⟨ret_bool ?_, G.out⟩
  have hz := Z.out
  cases b
  · rw [decide_eq_false (fun h => by have := hz.1 h; cases this)]
  · rw [decide_eq_true (hz.2 rfl)]

/-- How many bytes commands have. -/
def sizeN (l : List Cm) : Nat := (l.map fun m => m.bytes.length).sum
theorem sizeN_take {l : List Cm} {k : Nat} {m : Cm} (h : l[k]? = some m) : sizeN (l.take (k + 1)) = sizeN (l.take k) + m.bytes.length := by
  have hk : k < l.length := by
    rcases Nat.lt_or_ge k l.length with h1 | h1
    · exact h1
    · simp [h1] at h
  rw [List.getElem?_eq_getElem hk] at h
  injection h with h
  unfold sizeN
  rw [List.take_succ_eq_append_getElem hk, h]
  simp
theorem sizeN_le (l : List Cm) (k : Nat) : sizeN (l.take k) ≤ sizeN l := by
  have h : sizeN l = sizeN (l.take k) + sizeN (l.drop k) := by
    unfold sizeN
    rw [← List.sum_append, ← List.map_append, List.take_append_drop]
  omega
theorem sizeOf_any (l : List Cm) (n : Nat) (hn : l.length = n) (hl : n ≤ 1152921504606846976) (hs : sizeN l < 9223372036854775808) (p : Option Addr) (c : Nat) (hp : IsCms w p l) :
    Calls Try.prog 48 #[.slice p n c] w fun e w' => e = .returned (.int .u64 (sizeN l)) ∧ w.grownBy w' none := by
  have HN := Lib.hid hn
  have HP := Lib.hid hp
  clear hp hn
  go_enter Try.func48, Try.ntmps48
  go_wp2
  go_loopw [3, 8] (fun z i wr => ∃ k : Nat, k ≤ n ∧ i = .int .i64 k ∧ z = .int .u64 (sizeN (l.take k)) ∧ w.grownBy wr none) (fun _ i _ => n - (intOf i).toNat)
  case atStart => exact ⟨0, Nat.zero_le _, rfl, rfl, grown_refl _ _⟩
  case round =>
    obtain ⟨k, hk, rfl, rfl, hg⟩ := hrel
    by_cases hlt : k < n
    · obtain ⟨m, hm⟩ : ∃ m, l[k]? = some m := ⟨_, List.getElem?_eq_getElem (by rw [HN.out]; exact hlt)⟩
      obtain ⟨b, o, rfl, hc⟩ := (HP.out.grown hg) (by rw [HN.out]; omega)
      obtain ⟨⟨c0, c1⟩, _⟩ := hc k m hm
      have hst := sizeN_take hm
      have hle := sizeN_le l (k + 1)
      have G := Lib.hid hg
      obtain ⟨A, hA⟩ : ∃ A, A = sizeN (l.take k) := ⟨_, rfl⟩
      rw [← hA] at hst ⊢
      have hb : A + m.bytes.length < 9223372036854775808 := by omega
      have HS := Lib.hid hst
      have u1 : ((A : Int) + m.bytes.length) % 18446744073709551616 = (A : Int) + m.bytes.length := by omega
      have u2 : IntKind.u64.wrap ((A : Int) + m.bytes.length) = (A : Int) + m.bytes.length := by rw [IntKind.wrap_u64]; exact u1
      have u3 : (m.bytes.length : Int) % 18446744073709551616 = m.bytes.length := by omega
      have u4 : IntKind.u64.wrap (m.bytes.length : Int) = m.bytes.length := by rw [IntKind.wrap_u64]; exact u3
      clear hc hm hg hst hle hA
      go_wp2
      go_roundw
      case rel => exact ⟨k + 1, by omega, by go_num, congrArg (Value.int .u64) (by rw [HS.out]; simp), grown_trans G.out (grown1 _ _)⟩
      case measure => simp [intOf]; omega
    · have hkn : k = n := by omega
      subst hkn
      have G := Lib.hid hg
      have HT := Lib.hid (List.take_of_length_le (show l.length ≤ k by rw [HN.out]; exact Nat.le_refl _))
      clear hg
      go_wp2
      go_ret
      exact ⟨ret_int (by rw [HT.out]), G.out⟩
end Go.Proofs.Ythdppaooemdmaaa
