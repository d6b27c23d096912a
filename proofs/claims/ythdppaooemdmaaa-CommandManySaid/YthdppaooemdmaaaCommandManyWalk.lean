/- The walk of CommandMany: just so many commands are read and made as may be. -/
import Derived.Test.YthdppaooemdmaaaMakes
namespace Go.Proofs.Ythdppaooemdmaaa.commandMany
open Go.RowKit

theorem few_alike (m : Cm) (hm : m.bytes.length ≤ 2000) (k : Nat) (hk : k ≤ 300) : fewB (List.replicate k m) 300 = true := by
  unfold fewB
  rw [Bool.and_eq_true]
  refine ⟨List.all_eq_true.2 fun x hx => ?_, ?_⟩
  · rw [List.eq_of_mem_replicate hx]; simpa using hm
  · simp; omega

set_option maxHeartbeats 1600000 in
set_option maxRecDepth 20000 in
theorem walk (s0 k0 f0 : Int) (a1 : Int) (a2 : Int) (w : World)
    (w0 : 0 ≤ f0 ∧ f0 < 4294967296) (w1 : (Lit.int .u32 a1).wf = true) (_w2 : (Lit.int .i64 a2).wf = true) :
    Calls Try.prog 4 #[.agg #[.int .i64 s0, .int .i64 k0, .int .u32 f0], .int .u32 a1, .int .i64 a2] w fun e w' => e = .returned (.bool true) ∧ Below w.heap.size w w' := by
  have GX := Lib.hid (grown1 w (.cells #[.int .i64 s0, .int .i64 k0, .int .u32 f0] 27))
  have HX := Lib.hid (HdAt.new w ⟨s0, k0, f0⟩)
  have K := Lib.hid (fun w : World => known_any (w := w))
  by_cases hok : 0 ≤ a2 ∧ a2 ≤ 300
  · have d1 : decide (a2 < 0) = false := by simp; omega
    have d2 : decide ((300 : Int) < a2) = false := by simp; omega
    obtain ⟨n, hn⟩ := Int.eq_ofNat_of_zero_le hok.1
    subst hn
    have hn300 : n ≤ 300 := by have := hok.2; omega
    have ON := Lib.hid (fun w : World => refone_any (w := w) a1 (u32_range w1))
    have MK := Lib.hid (fun (w1 : World) (l : List Cm) (p : Option Addr) (c : Nat) (hn : l.length = n) (hfit : ∀ m ∈ l, m.Fits) (hp : IsCms w1 p l) (hlc : n ≤ c) (hcx : c ≤ 9223372036854775807) (hfew : fewB l 300 = true) => makes_any (w := w1) s0 k0 f0 w0 l n hn hfit p c hp hlc hcx hfew)
    clear hok w0 w1
    go_enter Try.func4, Try.ntmps4
    go_wp2_with fail
    refine (ON.out _).mono ?_
    rintro e wa ⟨m, rfl, hmc, hmb, hmf, hib, hg⟩
    have ML := Lib.hid (show m.bytes.length ≤ 2000 by rw [hmb]; show (8 : Nat) ≤ 2000; omega)
    have MF := Lib.hid hmf
    have hgn := grown1 wa (.cells #[.int .u32 m.cmd, .slice m.q m.bytes.length m.cap] 40)
    have MB := Lib.hid (hib.kept hgn (by simp))
    have MA := Lib.hid (CmAt.new wa m)
    have G1 := Lib.hid (grown_trans GX.out (grown_trans hg hgn))
    have H1 := Lib.hid (HX.out.grown (grown_trans hg hgn))
    clear hmc hmb hmf hib hg hgn HX ON
    unfold Cm.v
    go_wp2
    go_loopw [8, 9] (fun l i wr => ∃ (k : Nat) (q : Option Addr) (c : Nat), k ≤ n ∧ i = .int .i64 k ∧ l = .slice q k c ∧ (wa.alloc (.cells #[.int .u32 m.cmd, .slice m.q m.bytes.length m.cap] 40)).grownBy wr none ∧ wr.ownsRow (wa.heap.size + 1) 40 2 (.slice q k c) k (rowC (List.replicate k m))) (fun _ i _ => n - (intOf i).toNat)
    case atStart => exact ⟨0, none, 0, Nat.zero_le _, rfl, rfl, grown_refl _ _, World.ownsRow_nil _ _ _ _⟩
    case round =>
      obtain ⟨k, q, c, hk, rfl, rfl, hg, hown⟩ := hrel
      have hz := MA.out.grown hg
      by_cases hlt : k < n
      · have c0 := hz.c0
        have c1 := hz.c1
        have OW := Lib.hid hown
        have G := Lib.hid hg
        have MC := Lib.hid hz
        have CN := Lib.hid (CmAt.new wr m)
        have hsz : wa.heap.size + 1 ≤ wr.heap.size := by have := hg.size; simp at this; exact this
        clear hg hown hz
        go_wp2_with (at_builtin; refine wp_append_cm rfl _ _ rfl _ k (List.replicate k m) rfl (own_grown OW.out (grown1 wr (.cells #[.int .u32 m.cmd, .slice m.q m.bytes.length m.cap] 40))) m wr.heap.size rfl CN.out (by omega) (by rw [World.size_alloc]; omega) ?_)
        intro v' w' ho hg'
        obtain ⟨q', c', rfl⟩ := own_slice ho
        rw [← List.replicate_succ'] at ho
        have HO := Lib.hid ho
        have GA := Lib.hid (grown_own (grown_trans G.out (grown1 wr _)) hg' (fun g hg => (OW.out.lt g hg).1) (by rw [World.size_alloc]; exact Nat.le_refl _))
        clear ho hg' c0 c1
        go_wp2
        refine ⟨⟨k + 1, q', c', by omega, by go_num, rfl, GA.out, HO.out⟩, by simp [intOf]; omega⟩
      · have hkn : k = n := by omega
        subst hkn
        have e0 := (H1.out.grown hg).c0
        have e1 := (H1.out.grown hg).c1
        have e2 := (H1.out.grown hg).c2
        have G := Lib.hid (grown_trans G1.out hg)
        obtain ⟨hcs, h1, h2⟩ := IsCms.of_own (by simp) hown (fun x hx => by rw [List.eq_of_mem_replicate hx]; exact MB.out.kept hg (by simp))
        have CS := Lib.hid hcs
        clear hg hown hz hcs
        go_wp2_with fail
        refine (MK.out _ (List.replicate k m) q c (by simp) (fun x hx => by rw [List.eq_of_mem_replicate hx]; exact MF.out) CS.out h1 h2 (few_alike m ML.out k hn300)).mono ?_
        rintro e w' ⟨rfl, bel⟩
        have B := Lib.hid ((below_grown G.out (Nat.le_refl _) (by simp)).trans (bel.mono G.out.size))
        clear bel
        go_wp2
        go_ret
        exact ⟨rfl, B.out⟩
  · have hd : decide (a2 < 0) = true ∨ (decide (a2 < 0) = false ∧ decide ((300 : Int) < a2) = true) := by
      by_cases h : a2 < 0
      · exact .inl (by simpa using h)
      · exact .inr ⟨by simpa using h, by simp; omega⟩
    clear hok w0 w1
    rcases hd with d1 | ⟨d1, d2⟩
    all_goals
      go_enter Try.func4, Try.ntmps4
      go_wp2_with fail
      refine (K.out _).mono ?_
      rintro e w8 ⟨rfl, hbk⟩
      have B := Lib.hid ((below_grown GX.out (Nat.le_refl _) (by simp)).trans (hbk.mono GX.out.size))
      clear hbk
      go_wp2
      go_ret
      exact ⟨rfl, B.out⟩
end Go.Proofs.Ythdppaooemdmaaa.commandMany
