/- The walk of LebOrder: no number's bytes are the beginning of another one's, and a greater one has no fewer. -/
import Derived.Test.YtfdbmdkjmifpaaaKnown2
import Derived.Test.YtfdbmdkjmifpaaaEnc
import Derived.Deep.RegionWith
import Derived.StillTailTactics
namespace Go.Proofs.Ytfdbmdkjmifpaaa.lebOrder
open Go.RowKit

/-- Two rows of one's own, one made behind the other. -/
theorem walk_eq (n : Nat) (hn : n < 18446744073709551616) (w : World) : Calls Try.prog 7 #[.int .u64 n, .int .u64 n] w fun e w' => e = .returned (.bool true) ∧ Below w.heap.size w w' := by
  have P := Lib.hid (putU_any n hn)
  have K := Lib.hid known_any
  go_enter Try.func7, Try.ntmps7
  go_wp2_with fail
  refine (P.out w).mono ?_
  rintro e w1 ⟨⟨qa, ca, rfl, oa⟩, ba⟩
  go_wp2_with fail
  refine (P.out w1).mono ?_
  rintro e w2 ⟨⟨qb, cb, rfl, ob⟩, bb⟩
  have cvA := ((IsBytes.of_own rfl oa).below bb).text rfl
  have cvB := (IsBytes.of_own rfl ob).text rfl
  have B2 := Lib.hid (ba.trans (bb.mono ba.size))
  clear oa ob ba bb
  generalize encU n = A at *
  go_wp2_with fail
  refine (K.out w2).mono ?_
  rintro e w3 ⟨rfl, bk⟩
  go_wp2
  go_ret
  exact ⟨rfl, B2.out.trans (bk.mono B2.out.size)⟩

theorem walk_lt (n m : Nat) (hn : n < 18446744073709551616) (hm : m < 18446744073709551616) (hlt : n < m) (w : World) : Calls Try.prog 7 #[.int .u64 n, .int .u64 m] w fun e w' => e = .returned (.bool true) ∧ Below w.heap.size w w' := by
  have P := Lib.hid (putU_any n hn)
  have R := Lib.hid (putU_any m hm)
  have K := Lib.hid known_any
  have ne1 := encU_ne n
  have mono := encU_mono (n + 1) n m (by omega) (by omega)
  have hpre : ¬ (encU m).take (encU n).length = encU n := fun h => by have := encU_pre (n + 1) n m (by omega) h; omega
  have hra := encU_bytes n
  have hrb := encU_bytes m
  have hne : ((strOfNums ((encU m).take (encU n).length)).toList == (strOfNums (encU n)).toList) = false := by
    refine str_ne (fun x hx => hrb x (List.mem_of_mem_take hx)) hra hpre
  have htl : ((encU m).take (encU n).length).length = (encU n).length := by simp; omega
  have h10 := encU_10 m hm
  generalize encU n = A at *
  generalize encU m = B at *
  have NE := Lib.hid hne
  have TL := Lib.hid htl
  clear hra hrb hne htl hpre
  go_enter Try.func7, Try.ntmps7
  go_wp2_with fail
  refine (P.out w).mono ?_
  rintro e w1 ⟨⟨qa, ca, rfl, oa⟩, ba⟩
  go_wp2_with fail
  refine (R.out w1).mono ?_
  rintro e w2 ⟨⟨qb, cb, rfl, ob⟩, bb⟩
  have B2 := Lib.hid (ba.trans (bb.mono ba.size))
  obtain ⟨gb, rfl, _, _, hcb⟩ := own_some ob (by omega)
  have hA : IsBytes w2.drew qa ca A := (IsBytes.of_own rfl oa).below bb.drew
  have hB : IsBytes w2.drew (some ⟨gb, 0, none⟩) cb (B.take A.length) := (IsBytes.of_own rfl ob).take A.length (c' := cb) (fun e => by cases e)
  have cvA := hA.text rfl
  have cvB := hB.text TL.out
  clear oa ob ba bb hA hB
  have i1 : (0 : Int) < (A.length : Int) := by omega
  have i2 : (A.length : Int) ≤ (B.length : Int) := by omega
  have i3 : (A.length : Int) ≤ (cb : Int) := by omega
  have ne := NE.out
  go_wp2
  go_still_tail 21, (by kernel_rfl)
  change wpList _ _ _ _ _ w2.drew
  have B3 := Lib.hid B2.out.drew
  clear cvA cvB
  generalize w2.drew = w3 at *
  go_wp2_with fail
  refine (K.out w3).mono ?_
  rintro e w4 ⟨rfl, bk⟩
  go_wp2
  go_ret
  exact ⟨rfl, B3.out.trans (bk.mono B3.out.size)⟩
theorem walk_gt (n m : Nat) (hn : n < 18446744073709551616) (hm : m < 18446744073709551616) (hlt : n < m) (w : World) : Calls Try.prog 7 #[.int .u64 m, .int .u64 n] w fun e w' => e = .returned (.bool true) ∧ Below w.heap.size w w' := by
  have P := Lib.hid (putU_any n hn)
  have R := Lib.hid (putU_any m hm)
  have K := Lib.hid known_any
  have ne1 := encU_ne n
  have mono := encU_mono (n + 1) n m (by omega) (by omega)
  have hpre : ¬ (encU m).take (encU n).length = encU n := fun h => by have := encU_pre (n + 1) n m (by omega) h; omega
  have hra := encU_bytes n
  have hrb := encU_bytes m
  have hne : ((strOfNums ((encU m).take (encU n).length)).toList == (strOfNums (encU n)).toList) = false := by
    refine str_ne (fun x hx => hrb x (List.mem_of_mem_take hx)) hra hpre
  have htl : ((encU m).take (encU n).length).length = (encU n).length := by simp; omega
  have h10 := encU_10 m hm
  generalize encU n = A at *
  generalize encU m = B at *
  have NE := Lib.hid hne
  have TL := Lib.hid htl
  clear hra hrb hne htl hpre
  go_enter Try.func7, Try.ntmps7
  go_wp2_with fail
  refine (R.out w).mono ?_
  rintro e w1 ⟨⟨qb, cb, rfl, ob⟩, bb⟩
  go_wp2_with fail
  refine (P.out w1).mono ?_
  rintro e w2 ⟨⟨qa, ca, rfl, oa⟩, ba⟩
  have B2 := Lib.hid (bb.trans (ba.mono bb.size))
  obtain ⟨gb, rfl, _, _, hcb⟩ := own_some ob (by omega)
  have hA : IsBytes w2.drew qa ca A := IsBytes.of_own rfl oa
  have hB : IsBytes w2.drew (some ⟨gb, 0, none⟩) cb (B.take A.length) := ((IsBytes.of_own rfl ob).below ba.drew).take A.length (c' := cb) (fun e => by cases e)
  have cvA := hA.text rfl
  have cvB := hB.text TL.out
  clear oa ob ba bb hA hB
  have i1 : (0 : Int) < (A.length : Int) := by omega
  have i2 : (A.length : Int) ≤ (B.length : Int) := by omega
  have i3 : (A.length : Int) ≤ (cb : Int) := by omega
  have ne := NE.out
  go_wp2
  go_still_tail 21, (by kernel_rfl)
  change wpList _ _ _ _ _ w2.drew
  have B3 := Lib.hid B2.out.drew
  clear cvA cvB
  generalize w2.drew = w3 at *
  go_wp2_with fail
  refine (K.out w3).mono ?_
  rintro e w4 ⟨rfl, bk⟩
  go_wp2
  go_ret
  exact ⟨rfl, B3.out.trans (bk.mono B3.out.size)⟩
theorem nat_u64 {a : Int} (h : (Lit.int .u64 a).wf = true) : ∃ n : Nat, a = n ∧ n < 18446744073709551616 := by
  have : 0 ≤ a ∧ a ≤ 18446744073709551615 := by simpa [Lit.wf, IntKind.min, IntKind.max, IntKind.signed, IntKind.bits] using h
  exact ⟨a.toNat, by omega, by omega⟩
theorem walk (a0 a1 : Int) (w : World) (w0 : (Lit.int .u64 a0).wf = true) (w1 : (Lit.int .u64 a1).wf = true) :
    Calls Try.prog 7 #[.int .u64 a0, .int .u64 a1] w fun e w' => e = .returned (.bool true) ∧ Below w.heap.size w w' := by
  obtain ⟨n, rfl, hn⟩ := nat_u64 w0
  obtain ⟨m, rfl, hm⟩ := nat_u64 w1
  rcases Nat.lt_trichotomy n m with h | rfl | h
  · exact walk_lt n m hn hm h w
  · exact walk_eq n hn w
  · exact walk_gt m n hm hn h w
end Go.Proofs.Ytfdbmdkjmifpaaa.lebOrder
