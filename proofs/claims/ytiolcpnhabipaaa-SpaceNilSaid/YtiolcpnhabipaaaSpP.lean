/- The iterator over a range's parts, page by page, whatever is done with them, if it keeps the space's maps. No condition but that the range's pages are there. -/
import Derived.Test.YtiolcpnhabipaaaSpW
import Derived.Test.YtiolcpnhabipaaaLoopF
import Derived.Deep.CutRange
namespace Go.Proofs.Ytiolcpnhabipaaa
open Go.RowKit Go.Maps Go.ChangeMaps
attribute [local go_sem] Oper.semAt_some
variable {w w' W : World} {F : Nat → Prop} {σ : Spc}

/-- How many bytes the part has that begins k bytes behind an address, of n. -/
def partLen (a n k : Nat) : Nat := min (4096 - (a + k) % 4096) (n - k)
theorem partLen_pos {a n k : Nat} (h : k < n) : 0 < partLen a n k ∧ k + partLen a n k ≤ n := by
  unfold partLen
  have : (a + k) % 4096 < 4096 := Nat.mod_lt _ (by omega)
  omega

theorem page_arr : Try.prog.underlying 76 = some (.array (Try.prog.arrayLen 76) (Try.prog.elem 76)) := by kernel_rfl
theorem page_len : Try.prog.arrayLen 76 = 4096 := by kernel_rfl
theorem page_elem (w : World) : (sizeOf (Try.prog.elem 76)).run Try.prog w = .ok 1 w := by kernel_rfl
/-- A page's bytes from one on. -/
theorem slice_page (G q : Nat) (w : World) : (Instr.sliceAt 76 (.pointer (some ⟨G, 0, none⟩)) (some (.int .u64 ((q : Int) % 4096))) none none).run Try.prog w = .ok (.slice (some ⟨G, q % 4096, none⟩) (4096 - q % 4096) (4096 - q % 4096)) w := by
  have hlt : q % 4096 < 4096 := Nat.mod_lt _ (by omega)
  rw [run_sliceAt_array_l w 76 ⟨G, 0, none⟩ page_arr .u64 _ (by omega) (by rw [page_len]; omega), page_elem, page_len]
  show Result.ok (slicedAt _ _ _ _ _) w = _
  unfold slicedAt
  have e : ((q : Int) % 4096).toNat = q % 4096 := by omega
  rw [e, if_neg (by omega), Nat.mul_one, add_flat, Nat.zero_add]
/-- What a round may rely on, and must keep. -/
structure PartsOk (P : Program) (l a : Nat) (n : Nat) (g : Nat → Nat) (bs sp : Nat) (mp : Value) (J : Nat → World → Prop) : Prop where
  reads : ∀ k W, J k W → W.cell? ⟨bs, 0, none⟩ = some (.pointer (some ⟨sp, 0, none⟩)) ∧ W.cell? ⟨sp, 0, none⟩ = some mp ∧
    ∀ m, 0 < n → a / 4096 ≤ m → m ≤ (a + n - 1) / 4096 → (Instr.lookup 62 mp (.int .u64 m) false).run P W = .ok (.pointer (some ⟨g m, 0, none⟩)) W
  round : ∀ k W, J k W → k < n → YieldAt Fence.wide 0 P l #[.slice (some ⟨g ((a + k) / 4096), (a + k) % 4096, none⟩) (partLen a n k) (4096 - (a + k) % 4096)] W fun e W' => e = .returned (.bool true) ∧ J (k + partLen a n k) W'
  draws : ∀ k W m, J k W → J k (W.drewN m)

set_option maxRecDepth 20000 in
set_option maxHeartbeats 1600000 in
theorem parts1_any (l a n : Nat) (h64 : a < 18446744073709551616) (h47 : 0 < n → a + n ≤ 140737488355328) (g : Nat → Nat) (ba bn bs sp : Nat) (mp : Value) (J : Nat → World → Prop)
    (ha : w.cell? ⟨ba, 0, none⟩ = some (.int .u64 a)) (hn : w.cell? ⟨bn, 0, none⟩ = some (.int .u64 n)) (hJ : PartsOk Try.prog l a n g bs sp mp J) (h0 : J 0 w) :
    Calls Try.prog 59 #[.func (.yield l) #[] #[], .pointer (some ⟨ba, 0, none⟩), .pointer (some ⟨bn, 0, none⟩), .pointer (some ⟨bs, 0, none⟩)] w fun e w' => (∃ v, e = .returned v) ∧ J n w' := by
  have JO := Lib.hid hJ
  have J0 := Lib.hid (fun m => hJ.draws 0 w m h0)
  clear hJ h0
  have hw := Lib.hid (show IntKind.u64.wrap ((a : Int) + n) = a + n from IntWalk.u64_in _ (by rcases Nat.eq_zero_or_pos n with h | h; omega; have := h47 h; omega))
  have H47 := Lib.hid h47
  clear h47
  have hw' := hw.out
  go_enter Try.func59, Try.ntmps59
  go_wp2
  go_quiet (fail)
  clear ha hn hw'
  have J1 := Lib.hid (J0.out nq)
  clear J0
  go_wp2
  go_loopw [5, 7] (fun i _ wr => ∃ k q : Nat, i = .int .u64 (q : Int) ∧ q = a + k ∧ k ≤ n ∧ J k wr) (fun i _ _ => a + n - (intOf i).toNat)
  case atStart => exact ⟨0, a, rfl, rfl, Nat.zero_le _, J1.out⟩
  case round =>
    obtain ⟨k, q, rfl, hq, hk, hj⟩ := hrel
    by_cases hkn : k < n
    · have hlt : (q : Int) < (a : Int) + n := by omega
      have h47 := H47.out (by omega)
      obtain ⟨c1, c2, c3⟩ := JO.out.reads k wr hj
      obtain ⟨G, hG⟩ : ∃ G, G = g (q / 4096) := ⟨_, rfl⟩
      have hl : (Instr.lookup 62 mp (.int .u64 ((q : Int) / 4096)) false).run Try.prog wr = .ok (.pointer (some ⟨G, 0, none⟩)) wr := by
        rw [hG]
        have h1 := c3 (q / 4096) (by omega) (Nat.div_le_div_right (by omega)) (Nat.div_le_div_right (by omega))
        rw [show ((q / 4096 : Nat) : Int) = (q : Int) / 4096 by omega] at h1
        exact h1
      have JW := Lib.hid hj
      clear c3 hj
      have HG := Lib.hid hG
      have HQ := Lib.hid hq
      have hq47 : q ≤ 140737488355328 := by omega
      clear hG hq
      have hsl := slice_page G q wr
      have hm4 : q % 4096 < 4096 := Nat.mod_lt _ (by omega)
      obtain ⟨m, hm⟩ : ∃ m, m = partLen a n k := ⟨_, rfl⟩
      have hmp := partLen_pos (a := a) hkn
      rw [← hm] at hmp
      have hmin : (min ((4096 - q % 4096 : Nat) : Int) ((a : Int) + n - q)).toNat = m := by
        rw [hm]; unfold partLen; rw [HQ.out]; omega
      obtain ⟨fn, tm, sg, bo, hy, hR⟩ := JO.out.round k wr JW.out hkn
      rw [← HQ.out, ← hm, ← HG.out, ← hmin] at hy
      have HM := Lib.hid hmin
      clear hmin
      rw [← hm] at hR
      have HR := Lib.hid hR
      have hqm := Lib.hid (show q + m = a + (k + m) by have := HQ.out; omega)
      have hqm2 : q + m ≤ 140737488355328 := by have := HQ.out; omega
      have HY := Lib.hid hy
      clear hR hm hy
      go_upto_region 4 with (fail)
      have hy := HY.out
      refine (wpIn_wide (n := 1)).1 ?_
      gi_wp2
      refine HR.out.mono ?_
      rintro e w2 ⟨rfl, hj2⟩
      have J2 := Lib.hid hj2
      clear hj2 hy c1 c2 hl HR
      simp only [HM.out]
      gi_wp2
      go_wp2
      go_roundw
      case rel => exact ⟨k + m, q + m, by go_num, hqm.out, hmp.2, J2.out⟩
      case measure => simp [intOf]; omega
    · obtain rfl : n = k := by omega
      have hlt : ¬ (q : Int) < (a : Int) + n := by omega
      have HQ := Lib.hid hq
      have JW := Lib.hid hj
      clear hq hj
      go_wp2
      go_end0
      exact ⟨⟨_, rfl⟩, JW.out⟩
end Go.Proofs.Ytiolcpnhabipaaa
