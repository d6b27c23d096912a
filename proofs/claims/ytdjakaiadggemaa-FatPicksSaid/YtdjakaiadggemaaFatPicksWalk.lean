/- The walk of FatPicks: which of some slices is taken, whatever these are. -/
import Derived.Test.YtdjakaiadggemaaKnown3
import Derived.Test.YtdjakaiadggemaaArgSl
namespace Go.Proofs.Ytdjakaiadggemaa.fatPicks
open Go.RowKit

theorem pickN_err (l : List Sl) (a : Int) : (pickN l a).2 = 0 ∨ (pickN l a).2 = 2 ∨ (pickN l a).2 = 6 := by
  unfold pickN
  split
  · split
    · exact .inl rfl
    · split
      · exact .inl rfl
      · exact .inr (.inr rfl)
  · exact .inr (.inl rfl)

theorem walk (a0 : Option Addr) (len0 cap0 : Nat) (a1 : Int) (w : World)
    (w0 : ∃ l : List Sl, l.length = len0 ∧ IsSl w a0 l ∧ (∀ s ∈ l, s.Fits) ∧ len0 ≤ cap0 ∧ cap0 ≤ 9223372036854775807 ∧ (∀ y, a0 = some y → 0 < len0 → y.block < w.heap.size)) (_w1 : (Lit.int .i64 a1).wf = true) :
    Calls Try.prog 4 #[.slice a0 len0 cap0, .int .i64 a1] w fun e w' => e = .returned (.bool true) ∧ Below w.heap.size w w' := by
  obtain ⟨l, rfl, hsl, hfit, _, _, _⟩ := w0
  have K := Lib.hid (fun w : World => known_any (w := w))
  by_cases h60 : 60 < l.length
  · have hd : decide ((60 : Int) < l.length) = true := by simp; omega
    go_enter Try.func4, Try.ntmps4
    go_wp2_with fail
    refine (K.out _).mono ?_
    rintro e w' ⟨rfl, hb⟩
    have B := Lib.hid hb
    clear hb
    go_wp2
    go_ret
    exact ⟨rfl, B.out⟩
  · have hd : decide ((60 : Int) < l.length) = false := by simp; omega
    have PA := Lib.hid (fun w1 (hg : w.grownBy w1 none) => pick_any (w := w1) l (by omega) hfit a0 cap0 (hsl.grown hg) a1)
    have PB := Lib.hid (fun w1 (hg : w.grownBy w1 none) => pick2_any (w := w1) l (by omega) hfit a0 cap0 (hsl.grown hg) a1)
    obtain ⟨⟨s, y⟩, hsy⟩ : ∃ z, z = pickN l a1 := ⟨_, rfl⟩
    rw [← hsy] at PA PB
    clear hsy hsl hfit
    unfold Sl.v at PA PB
    go_enter Try.func4, Try.ntmps4
    go_wp2_with fail
    refine (PA.out _ (grown_refl _ _)).mono ?_
    rintro e w1 ⟨rfl, hg1⟩
    have G1 := Lib.hid (grown_trans hg1 (grown1 w1 (.cells #[.int .u32 s.cpu, .int .u32 s.sub, .int .u64 s.off, .int .u64 s.size, .int .i64 s.align] 42)))
    have S1 := Lib.hid (SlAt.new w1 s)
    clear hg1
    go_wp2_with fail
    refine (PB.out _ G1.out).mono ?_
    rintro e w2 ⟨rfl, hg2⟩
    have hs := S1.out.grown hg2
    have c0 := hs.c0
    have c1 := hs.c1
    have c2 := hs.c2
    have c3 := hs.c3
    have c4 := hs.c4
    have hlt := hs.lt
    have G2 := Lib.hid (grown_trans (grown_trans G1.out hg2) (grown1 w2 (.cells #[.int .u32 s.cpu, .int .u32 s.sub, .int .u64 s.off, .int .u64 s.size, .int .i64 s.align] 42)))
    clear hg2 hs
    go_wp2_with fail
    refine (K.out _).mono ?_
    rintro e w3 ⟨rfl, hb⟩
    have B := Lib.hid ((below_grown G2.out (Nat.le_refl _) (by simp)).trans (hb.mono G2.out.size))
    clear hb
    go_wp2
    go_ret
    exact ⟨rfl, B.out⟩
end Go.Proofs.Ytdjakaiadggemaa.fatPicks
