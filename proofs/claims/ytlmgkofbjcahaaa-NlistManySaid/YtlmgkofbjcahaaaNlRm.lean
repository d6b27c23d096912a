/- A number's bytes and an entry, as the document lays them: clevisref10.Low, Entry. Conditions: they fit. -/
import Derived.Test.YtlmgkofbjcahaaaNlTb
import Derived.Test.YtlmgkofbjcahaaaNlP
namespace Go.Proofs.Ytlmgkofbjcahaaa
open Go.RowKit
variable {w w' W V : World}

/-- Bytes of one's own are answered. -/
structure NOut (w w' : World) (all : List Int) (e : Ending) : Prop where
  ex : ∃ q c, e = .returned (.slice q all.length c) ∧ w'.ownsRow w.heap.size 5 1 (.slice q all.length c) all.length (all.map (Value.int .u8))
  grown : w.grownBy w' none
theorem RowTo.out {q : Option Addr} {m c : Nat} {base : Nat} {xs : List Int} {v : Value} (h : RowTo w w' base v (.slice q m c) xs) (hv : v.ownBlock = none) : w.grownBy w' none := by
  have := h.grown
  rwa [hv] at this
theorem low_at (N : Int) (k : Nat) : N / 256 ^ k / 256 = N / 256 ^ (k + 1) := by
  rw [Int.ediv_ediv_of_nonneg (Int.pow_nonneg (by decide)), Int.pow_succ]
set_option maxRecDepth 20000 in
set_option maxHeartbeats 1600000 in
theorem low10_any (N : Int) (h0 : 0 ≤ N) (h1 : N < 18446744073709551616) (size : Nat) (hs : size ≤ 8) (w : World) :
    Calls Try.prog 31 #[.int .u64 N, .int .i64 size] w fun e w' => NOut w w' (lowB size N) e := by
  go_enter Try.func31, Try.ntmps31
  go_wp2
  go_loopw [0, 5, 6] (fun vn vb vi wr => ∃ (k : Nat) (q' : Option Addr) (c' : Nat), k ≤ size ∧ vi = .int .i64 (k : Int) ∧ vn = .int .u64 (N / 256 ^ k) ∧ vb = .slice q' k c' ∧ RowTo w wr w.heap.size (.slice none 0 0) (.slice q' k c') (lowB k N)) (fun _ _ vi _ => size - (intOf vi).toNat)
  case atStart => exact ⟨0, none, 0, Nat.zero_le _, rfl, by simp, rfl, RowTo.refl (World.ownsRow_nil _ _ _ _)⟩
  case round =>
    obtain ⟨k, q', c', hk, rfl, rfl, rfl, hr⟩ := hrel
    have RR := Lib.hid hr
    clear hr
    by_cases hlt : k < size
    · have dl : decide ((k : Int) < (size : Int)) = true := by simp; omega
      have dl2 : decide (k < size) = true := by simp; omega
      have k8 : (k : Int) < 8 := by omega
      have hsn := lowB_snoc k N
      have hla := low_at N k
      have hp : (0 : Int) ≤ N / 256 ^ k := Int.ediv_nonneg h0 (Int.pow_nonneg (by decide))
      have hp2 : N / 256 ^ k < 18446744073709551616 := Int.lt_of_le_of_lt (Int.ediv_le_self _ h0) h1
      have SN := Lib.hid hsn
      have LAT := Lib.hid hla
      obtain ⟨M, hM⟩ : ∃ M, M = N / 256 ^ k := ⟨_, rfl⟩
      rw [← hM] at hp hp2 SN LAT ⊢
      have GN := grown1 wr (.cells #[.int .u8 (M % 256)] 5)
      have RP := Lib.hid (RR.out.past GN)
      have IB := Lib.hid (one_byte wr (M % 256))
      have hlk : (lowB k N).length = k := lowB_len _ _
      have HL := Lib.hid hlk
      have BS := Lib.hid (Nat.le_trans RR.out.grown.size GN.size)
      obtain ⟨XS, hXS⟩ : ∃ XS, lowB k N = XS := ⟨_, rfl⟩
      rw [hXS] at RP HL SN
      clear hsn GN hlk hla hM hXS
      go_wp2_with (at_builtin; refine wp_append_to rfl (.tmp 12) (.tmp 16) rfl rfl (v := .slice q' k c') (by rfl) RP.out [M % 256] 1 rfl rfl IB.out (by rw [HL.out]; omega) BS.out ?_)
      intro q2 c2 w2 hr2
      rw [← SN.out] at hr2
      rw [HL.out] at hr2 ⊢
      have R2 := Lib.hid hr2
      clear hr2
      go_wp2
      go_roundw
      case rel => exact ⟨k + 1, q2, c2, hlt, by simp, by rw [← LAT.out], rfl, R2.out⟩
      case measure => simp [intOf]; omega
    · have hks : k = size := by omega
      subst hks
      have dl : decide ((k : Int) < (k : Int)) = false := by simp
      have hle := lowB_len k N
      go_wp2
      go_ret
      refine ⟨⟨q', c', by rw [hle]; rfl, ?_⟩, RR.out.out rfl⟩
      have := RR.out.own
      rw [hle] at this ⊢
      exact this
/-- An entry's bytes, of numbers. -/
def entV (p k s d v : Int) : List Int := lowB 4 p ++ (lowB 1 k ++ (lowB 1 s ++ (lowB 2 d ++ lowB 8 v)))
theorem entV_len (p k s d v : Int) : (entV p k s d v).length = 16 := by simp [entV, lowB_len]
theorem two_bytes (w : World) (x y : Int) : IsBytes (w.alloc (.cells #[.int .u8 x, .int .u8 y] 5)) (some ⟨w.heap.size, 0, none⟩) 2 [x, y] := by
  refine IsBytes.mk_at fun i hi => ?_
  rw [cell_of (heap_alloc_new w _), Nat.zero_add]
  have h1 : i < 2 := hi
  match i, h1 with
  | 0, _ => rfl
  | 1, _ => rfl
set_option maxRecDepth 20000 in
set_option maxHeartbeats 1600000 in
theorem entry10_any (P : Nat) (hP : (P : Int) ≤ 140737488355328) (k : Int) (hk : 0 ≤ k ∧ k < 256) (s : Int) (hs : 0 ≤ s ∧ s < 256) (d : Int) (hd : 0 ≤ d ∧ d < 65536) (v : Int) (hv : 0 ≤ v ∧ v < 18446744073709551616) (w : World) :
    Calls Try.prog 18 #[.int .i64 (P : Int), .int .i64 k, .int .i64 s, .int .i64 d, .int .u64 v] w fun e w' => NOut w w' (entV P k s d v) e := by
  have L4 := Lib.hid (show Calls Try.prog 31 #[.int .u64 (P : Int), .int .i64 4] w fun e w' => NOut w w' (lowB 4 P) e from low10_any (P : Int) (by omega) (by omega) 4 (by decide) w)
  have L2 := Lib.hid (fun V => (show Calls Try.prog 31 #[.int .u64 d, .int .i64 2] V fun e w' => NOut V w' (lowB 2 d) e from low10_any d hd.1 (by omega) 2 (by decide) V))
  have L8 := Lib.hid (fun V => (show Calls Try.prog 31 #[.int .u64 v, .int .i64 8] V fun e w' => NOut V w' (lowB 8 v) e from low10_any v hv.1 hv.2 8 (by decide) V))
  have l4 := lowB_len 4 (P : Int)
  have l2 := lowB_len 2 d
  have l8 := lowB_len 8 v
  have hE : entV P k s d v = ((lowB 4 P ++ [k, s]) ++ lowB 2 d) ++ lowB 8 v := by
    have e1 : lowB 1 k = [k] := by rw [lowB, lowB]; congr 1; omega
    have e2 : lowB 1 s = [s] := by rw [lowB, lowB]; congr 1; omega
    unfold entV
    rw [e1, e2]
    simp
  have HE := Lib.hid hE
  have LE := Lib.hid (entV_len P k s d v)
  generalize entV P k s d v = EV at *
  generalize lowB 4 (P : Int) = A4 at *
  generalize lowB 2 d = A2 at *
  generalize lowB 8 v = A8 at *
  have H4 := Lib.hid l4
  have H2 := Lib.hid l2
  have H8 := Lib.hid l8
  obtain ⟨k0, k1⟩ := hk
  obtain ⟨s0, s1⟩ := hs
  obtain ⟨d0, d1⟩ := hd
  have hpw : IntKind.u64.wrap (P : Int) = P := by rw [IntKind.wrap_u64]; omega
  have hdw : IntKind.u64.wrap d = d := by rw [IntKind.wrap_u64]; omega
  clear hE l4 l2 l8 hv
  go_enter Try.func18, Try.ntmps18
  go_wp2_with fail
  refine L4.out.mono ?_
  rintro e w1 ⟨⟨q1, c1, rfl, h1⟩, hg⟩
  rw [H4.out] at h1 ⊢
  have G1 := Lib.hid hg
  have R1 := Lib.hid (RowTo.past (RowTo.refl (base := w.heap.size) (xs := A4) (v := .slice q1 4 c1) (by rw [H4.out]; exact h1)) (grown1 w1 (.cells #[.int .u8 k, .int .u8 s] 5)))
  have IB := Lib.hid (two_bytes w1 k s)
  have B1 := Lib.hid (Nat.le_trans hg.size (grown1 w1 (.cells #[.int .u8 k, .int .u8 s] 5)).size)
  have O1 := Lib.hid (fun g (e : (Value.slice q1 4 c1).ownBlock = some g) => (h1.lt g e))
  clear h1 hg
  go_wp2_with (at_builtin; refine wp_append_to rfl (.tmp 14) (.tmp 19) rfl rfl (v := .slice q1 4 c1) (by rfl) R1.out [k, s] 2 rfl rfl IB.out (by rw [H4.out]; decide) B1.out ?_)
  intro q2 c2 w2 hr2
  rw [H4.out] at hr2 ⊢
  obtain ⟨X2, hX2⟩ : ∃ X, A4 ++ [k, s] = X := ⟨_, rfl⟩
  rw [hX2] at hr2
  have HX2 := Lib.hid hX2
  clear hX2
  have R2 := Lib.hid hr2
  have B2 := Lib.hid (Nat.le_trans (Nat.le_trans G1.out.size (Nat.le_refl _)) hr2.grown.size)
  clear hr2
  go_wp2_with fail
  refine (L2.out w2).mono ?_
  rintro e w3 ⟨⟨q3, c3, rfl, h3⟩, hg⟩
  rw [H2.out] at h3 ⊢
  have R3 := Lib.hid (R2.out.past hg)
  have I3 := Lib.hid (IsBytes.of_own H2.out h3)
  have B3 := Lib.hid (Nat.le_trans B2.out hg.size)
  have LN3 := Lib.hid (show X2.length = 6 by rw [← HX2.out, List.length_append, H4.out]; rfl)
  clear h3 hg R2
  go_wp2_with (at_builtin; refine wp_append_to rfl (.tmp 21) (.tmp 24) rfl rfl (v := .slice q2 6 c2) (by rfl) R3.out A2 2 H2.out rfl I3.out (by rw [LN3.out]; decide) B3.out ?_)
  intro q4 c4 w4 hr4
  rw [LN3.out] at hr4 ⊢
  obtain ⟨X4, hX4⟩ : ∃ X, X2 ++ A2 = X := ⟨_, rfl⟩
  rw [hX4] at hr4
  have HX4 := Lib.hid hX4
  clear hX4
  have R4 := Lib.hid hr4
  have B4 := Lib.hid (Nat.le_trans G1.out.size hr4.grown.size)
  clear hr4
  go_wp2_with fail
  refine (L8.out w4).mono ?_
  rintro e w5 ⟨⟨q5, c5, rfl, h5⟩, hg⟩
  rw [H8.out] at h5 ⊢
  have R5 := Lib.hid (R4.out.past hg)
  have I5 := Lib.hid (IsBytes.of_own H8.out h5)
  have B5 := Lib.hid (Nat.le_trans B4.out hg.size)
  have LN5 := Lib.hid (show X4.length = 8 by rw [← HX4.out, List.length_append, LN3.out, H2.out])
  clear h5 hg R4
  go_wp2_with (at_builtin; refine wp_append_to rfl (.tmp 25) (.tmp 27) rfl rfl (v := .slice q4 8 c4) (by rfl) R5.out A8 8 H8.out rfl I5.out (by rw [LN5.out]; decide) B5.out ?_)
  intro q6 c6 w6 hr6
  rw [LN5.out, show X4 ++ A8 = EV by rw [HE.out, ← HX4.out, ← HX2.out]] at hr6
  rw [LN5.out]
  have R6 := Lib.hid hr6
  clear hr6
  go_wp2
  go_ret
  refine ⟨⟨q6, c6, by rw [LE.out]; rfl, ?_⟩, grown_own G1.out R6.out.grown (fun g e => (O1.out g e).1) (Nat.le_refl _)⟩
  have := R6.out.own
  rw [LE.out] at this ⊢
  exact this
end Go.Proofs.Ytlmgkofbjcahaaa
