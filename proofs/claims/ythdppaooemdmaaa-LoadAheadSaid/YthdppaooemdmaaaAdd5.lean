/- A command is taken into an image in the making. No condition but that it has at most 2^47 bytes. -/
import Derived.Test.YthdppaooemdmaaaAddSp
import Derived.Test.YthdppaooemdmaaaAddSeg
namespace Go.Proofs.Ythdppaooemdmaaa
open Go.RowKit
variable {w w' : World} {lo g bm : Nat} {h : Hx} {s : St}

theorem and_pow (N i : Nat) : N &&& 2 ^ i = if N.testBit i = true then 2 ^ i else 0 := by
  apply Nat.eq_of_testBit_eq
  intro j
  rw [Nat.testBit_and, Nat.testBit_two_pow]
  by_cases h : i = j
  · subst h
    cases N.testBit i <;> simp
  · split <;> simp [h]
theorem and31 (n : Int) (h : 0 ≤ n ∧ n < 4294967296) : bits .and .u32 n 2147483648 = if 2147483648 ≤ n then 2147483648 else 0 := by
  have hm : (BitVec.ofInt 32 2147483648).toNat = 2 ^ 31 := by decide
  have key : (BitVec.ofInt 32 n &&& BitVec.ofInt 32 2147483648).toNat = (n % ((2 ^ 32 : Nat) : Int)).toNat &&& 2 ^ 31 := by
    rw [BitVec.toNat_and, BitVec.toNat_ofInt, hm]
  show IntKind.u32.wrap ((BitVec.ofInt 32 n &&& BitVec.ofInt 32 2147483648).toNat : Nat) = _
  have hn : (n % ((2 ^ 32 : Nat) : Int)).toNat = n.toNat := by omega
  rw [key, IntKind.wrap_u32, and_pow, Nat.testBit_eq_decide_div_mod_eq, hn]
  by_cases hh : 2147483648 ≤ n
  · rw [if_pos hh, decide_eq_true (by omega)]
    decide
  · rw [if_neg hh, decide_eq_false (by omega)]
    decide

structure AddArg (w : World) (m : Cm) : Prop where
  cmd : m.cmd = cmdAt m.bytes
  fits : m.Fits
  at' : IsBytes w m.q m.cap m.bytes
  len : m.bytes.length ≤ 140737488355328
/-- Within the bounds that a making keeps. -/
structure Fine (s : St) : Prop where
  met : s.met.length < 900000
  deps : s.deps.length ≤ 64
  segs : s.segs.length ≤ 16
  secs : 0 ≤ s.secs ∧ s.secs ≤ 64

set_option maxHeartbeats 3200000 in
set_option maxRecDepth 20000 in
theorem add_any (H : Holds w lo g bm h s) (m : Cm) (A : AddArg w m) (F : Fine s) :
    Calls Try.prog 38 #[.pointer (some ⟨g, 0, none⟩), m.v] w fun e w' => AddOut w w' lo g bm h (stepS s m.bytes) (stepE s m.bytes) e := by
  have hl := F.met
  obtain ⟨cm, q, c, b⟩ := m
  obtain ⟨hcm, hfit, hib, hb47⟩ := A
  simp only [] at hcm hfit hib hb47
  have hcb := hfit.cmd
  simp only [] at hcb
  unfold Cm.v
  simp only []
  obtain ⟨n, hn⟩ : ∃ n, b.length = n := ⟨_, rfl⟩
  rw [hn] at hb47 ⊢
  have g1 := grown1 w (.cells #[.int .u32 cm, .slice q n c] 40)
  have HA := Lib.hid (H.grown g1)
  have CA := Lib.hid (show (w.alloc (.cells #[.int .u32 cm, .slice q n c] 40)).heap[w.heap.size]? = some (.cells #[.int .u32 cm, .slice q n c] 40 (0, 0)) from heap_alloc_new w _)
  have BA := Lib.hid (below_grown g1 H.lt (by simp) : Below lo w (w.alloc (.cells #[.int .u32 cm, .slice q n c] 40)))
  have IA := Lib.hid (hib.kept g1 (by simp))
  obtain ⟨wA, hwA⟩ : ∃ wA, w.alloc (.cells #[.int .u32 cm, .slice q n c] 40) = wA := ⟨_, rfl⟩
  obtain ⟨x, hx⟩ : ∃ x, w.heap.size = x := ⟨_, rfl⟩
  rw [hwA] at HA CA BA IA
  rw [hx] at CA
  have k0 : wA.cell? ⟨x, 0, none⟩ = some (.int .u32 cm) := by rw [cell_of CA.out]; rfl
  have k1 : wA.cell? ⟨x, 1, none⟩ = some (.slice q n c) := by rw [cell_of CA.out]; rfl
  have kl := lt_of_block CA.out
  have ET := Lib.hid (show stepE s b = if cmdAt b = 25 then segE s b else if cmdAt b = 13 then ownE s b else if depKind (cmdAt b) ≠ 0 then depE s b else if isInfo (cmdAt b) ∨ isLone (cmdAt b) ∨ cmdAt b = 2 then spE s b else if cmdAt b = 2147483688 then entE s b else if 2147483648 ≤ cmdAt b then 7 else 0 from rfl)
  have ST := Lib.hid (show stepS s b = if cmdAt b = 25 then segS s b else if cmdAt b = 13 then ownS s b else if depKind (cmdAt b) ≠ 0 then depS s b (depKind (cmdAt b)) else if isInfo (cmdAt b) ∨ isLone (cmdAt b) ∨ cmdAt b = 2 then spS s b else if cmdAt b = 2147483688 then entS s b else s from rfl)
  rw [← hcm] at ET ST
  have HN := Lib.hid hn
  have HF := Lib.hid hfit
  have CM := Lib.hid hcm
  clear H hib g1 hfit hcm hn
  by_cases h25 : cm = 25
  · have E := Lib.hid (ET.out.trans (if_pos h25))
    have S := Lib.hid (ST.out.trans (if_pos h25))
    have K := Lib.hid (addSegment_any HA.out b q c n IA.out HN.out hb47 HF.out.bytes F.segs F.secs)
    subst h25
    clear ET ST
    go_enter Try.func38, Try.ntmps38
    go_wp2_with fail
    refine K.out.mono ?_
    intro e w2 hO
    have OO := Lib.hid (hO.after BA.out)
    obtain rfl := hO.val
    clear hO
    go_wp2
    go_ret
    exact ⟨by rw [E.out]; rfl, fun hz => by rw [S.out]; exact OO.out.good (E.out.symm.trans hz), OO.out.below⟩
  by_cases h13 : cm = 13
  · have E := Lib.hid (ET.out.trans ((if_neg h25).trans (if_pos h13)))
    have S := Lib.hid (ST.out.trans ((if_neg h25).trans (if_pos h13)))
    have K := Lib.hid (addName_any HA.out b q c n IA.out HN.out hb47 HF.out.bytes (by omega))
    subst h13
    clear ET ST h25
    go_enter Try.func38, Try.ntmps38
    go_wp2_with fail
    refine K.out.mono ?_
    intro e w2 hO
    have OO := Lib.hid (hO.after BA.out)
    obtain rfl := hO.val
    clear hO
    go_wp2
    go_ret
    exact ⟨by rw [E.out]; rfl, fun hz => by rw [S.out]; exact OO.out.good (E.out.symm.trans hz), OO.out.below⟩
  by_cases hdep : depKind cm ≠ 0
  · have E := Lib.hid (ET.out.trans ((if_neg h25).trans ((if_neg h13).trans (if_pos hdep))))
    have S := Lib.hid (ST.out.trans ((if_neg h25).trans ((if_neg h13).trans (if_pos hdep))))
    have hd4 : cm = 12 ∨ cm = 2147483672 ∨ cm = 2147483679 ∨ cm = 2147483683 := by
      unfold depKind at hdep
      by_cases h1 : cm = 12; exact .inl h1
      by_cases h2 : cm = 2147483672; exact .inr (.inl h2)
      by_cases h3 : cm = 2147483679; exact .inr (.inr (.inl h3))
      by_cases h4 : cm = 2147483683; exact .inr (.inr (.inr h4))
      rw [if_neg h1, if_neg h2, if_neg h3, if_neg h4] at hdep
      exact absurd rfl hdep
    have K := Lib.hid (fun k => addDep_any HA.out b q c n IA.out HN.out hb47 HF.out.bytes k F.deps)
    clear ET ST h25 h13 hdep
    rcases hd4 with rfl | rfl | rfl | rfl
    all_goals
      go_enter Try.func38, Try.ntmps38
      go_wp2_with fail
      refine (K.out _).mono ?_
      intro e w2 hO
      have OO := Lib.hid (hO.after BA.out)
      obtain rfl := hO.val
      clear hO
      go_wp2
      go_ret
      exact ⟨by rw [E.out]; rfl, fun hz => by rw [S.out]; exact OO.out.good (E.out.symm.trans hz), OO.out.below⟩
  by_cases hsp : isInfo cm ∨ isLone cm ∨ cm = 2
  · have E := Lib.hid (ET.out.trans ((if_neg h25).trans ((if_neg h13).trans ((if_neg hdep).trans (if_pos hsp)))))
    have S := Lib.hid (ST.out.trans ((if_neg h25).trans ((if_neg h13).trans ((if_neg hdep).trans (if_pos hsp)))))
    have K0 := addSpans_any HA.out ⟨cm, q, c, b⟩ ⟨CM.out, HF.out, IA.out, by show b.length ≤ _; rw [HN.out]; exact hb47, hsp⟩ hl
    unfold Cm.v at K0
    simp only [HN.out] at K0
    have K := Lib.hid K0
    have h5 : cm = 34 ∨ cm = 2147483682 ∨ cm = 2147483699 ∨ cm = 2147483700 ∨ cm = 2 := by
      rcases hsp with (h | h) | (h | h) | h
      · exact .inl h
      · exact .inr (.inl h)
      · exact .inr (.inr (.inl h))
      · exact .inr (.inr (.inr (.inl h)))
      · exact .inr (.inr (.inr (.inr h)))
    clear ET ST h25 h13 hdep hsp K0
    rcases h5 with rfl | rfl | rfl | rfl | rfl
    all_goals
      go_enter Try.func38, Try.ntmps38
      go_wp2_with fail
      refine K.out.mono ?_
      intro e w2 hO
      have OO := Lib.hid (hO.after BA.out)
      obtain rfl := hO.val
      clear hO
      go_wp2
      go_ret
      exact ⟨by rw [E.out]; rfl, fun hz => by rw [S.out]; exact OO.out.good (E.out.symm.trans hz), OO.out.below⟩
  by_cases h88 : cm = 2147483688
  · have E := Lib.hid (ET.out.trans ((if_neg h25).trans ((if_neg h13).trans ((if_neg hdep).trans ((if_neg hsp).trans (if_pos h88))))))
    have S := Lib.hid (ST.out.trans ((if_neg h25).trans ((if_neg h13).trans ((if_neg hdep).trans ((if_neg hsp).trans (if_pos h88))))))
    have K := Lib.hid (addEntry_any HA.out b q c n IA.out HN.out hb47 HF.out.bytes (by omega) (by rw [← CM.out]; exact h88))
    subst h88
    clear ET ST h25 h13 hdep hsp
    go_enter Try.func38, Try.ntmps38
    go_wp2_with fail
    refine K.out.mono ?_
    intro e w2 hO
    have OO := Lib.hid (hO.after BA.out)
    obtain rfl := hO.val
    clear hO
    go_wp2
    go_ret
    exact ⟨by rw [E.out]; rfl, fun hz => by rw [S.out]; exact OO.out.good (E.out.symm.trans hz), OO.out.below⟩
  have E := Lib.hid (ET.out.trans ((if_neg h25).trans ((if_neg h13).trans ((if_neg hdep).trans ((if_neg hsp).trans (if_neg h88))))))
  have S := Lib.hid (ST.out.trans ((if_neg h25).trans ((if_neg h13).trans ((if_neg hdep).trans ((if_neg hsp).trans (if_neg h88))))))
  have n1 : (cm == 25) = false := by simpa using h25
  have n2 : (cm == 13) = false := by simpa using h13
  have hdk : cm ≠ 12 ∧ cm ≠ 2147483672 ∧ cm ≠ 2147483679 ∧ cm ≠ 2147483683 := by
    refine ⟨?_, ?_, ?_, ?_⟩ <;> (rintro rfl; exact hdep (by decide))
  have n3 : (cm == 12) = false := by simpa using hdk.1
  have n4 : (cm == 2147483672) = false := by simpa using hdk.2.1
  have n5 : (cm == 2147483679) = false := by simpa using hdk.2.2.1
  have n6 : (cm == 2147483683) = false := by simpa using hdk.2.2.2
  have n7 : (cm == 34) = false := by simpa using fun h => hsp (.inl (.inl h))
  have n8 : (cm == 2147483682) = false := by simpa using fun h => hsp (.inl (.inr h))
  have n9 : (cm == 2147483699) = false := by simpa using fun h => hsp (.inr (.inl (.inl h)))
  have n10 : (cm == 2147483700) = false := by simpa using fun h => hsp (.inr (.inl (.inr h)))
  have n11 : (cm == 2) = false := by simpa using fun h => hsp (.inr (.inr h))
  have n12 : (cm == 2147483688) = false := by simpa using h88
  have an := and31 cm hcb
  clear ET ST h25 h13 hdep hsp h88 hdk
  by_cases hhi : 2147483648 ≤ cm
  · have E7 := Lib.hid (E.out.trans (if_pos hhi))
    rw [if_pos hhi] at an
    clear hhi
    go_enter Try.func38, Try.ntmps38
    go_wp2
    go_ret
    exact ⟨by rw [E7.out]; rfl, fun hz => (by rw [E7.out] at hz; cases hz), BA.out⟩
  · have E0 := Lib.hid (E.out.trans (if_neg hhi))
    rw [if_neg hhi] at an
    clear hhi
    go_enter Try.func38, Try.ntmps38
    go_wp2
    go_ret
    exact ⟨by rw [E0.out]; rfl, fun _ => by rw [S.out]; exact HA.out, BA.out⟩
end Go.Proofs.Ythdppaooemdmaaa
