/- A range over a function whose iterator writes cells of its own between two rounds: the loop's record, laid, told as three rules. No condition but that the statement stands in no round. -/
import Derived.Test.YtiolcpnhabipaaaGrow
import Derived.RangeFuncNested
import Derived.RangeFuncBound
import Derived.RangeFuncCalls
import Derived.Shelf.RegionOpen
import Derived.WalkKit
import Derived.OwnWalkIn
import Derived.TacticsInMore
import Derived.RangeFuncIn
import Derived.RangeFuncLeaves
namespace Go.Proofs.Ytiolcpnhabipaaa
open Go.RowKit
variable {w w' : World}

/-- What a call of yield comes to: the left sides are assigned to, the record is busy, the body runs. -/
def YieldRule (P : Program) (ps : Array Tmp) (assign body : Code) (tmps : Array Value) (rec : LoopState → Option Code → Loop) : Prop :=
  ∀ (l : Nat) (args : Array Value) (W : World) (R : Ending → World → Prop), W.heap[l]? = some (.loop (rec .ready none)) → args.size = ps.size →
    assign.wpIn (Fence.wide.inRound l) 0 P (Exit.then (fun a₁ W₁ => W₁.heap[l]? = some (.loop (rec .ready none)) ∧ (W₁.heap[l]? = some (.loop (rec .ready none)) → body.wpIn (Fence.wide.inRound l) 0 P (roundPost P l R) a₁ (W₁.putObj l (.loop (rec .busy none))))) (fun _ _ _ => False))
      { tmps := (ps.zip args).foldl (fun t (p, v) => t.setIfInBounds p v) tmps, defers := [] } W →
    YieldAt Fence.wide 0 P l args W R
def EndRule (P : Program) (rec : LoopState → Option Code → Loop) : Prop :=
  ∀ (l : Nat) (W : World) (jump : Option Code), W.heap[l]? = some (.loop (rec .busy none)) →
    (Instr.endRound l jump).run P W = .ok (.bool jump.isNone) (W.putObj l (.loop (rec (if jump.isNone then .ready else .done) jump)))
def OutRule (P : Program) (rec : LoopState → Option Code → Loop) : Prop :=
  ∀ (l : Nat) (W : World) (st : LoopState) (pe : Option Code), st ≠ .busy → W.heap[l]? = some (.loop (rec st pe)) →
    (Instr.endLoop l).run P W = .ok pe (W.putObj l (.loop (rec .exhausted pe)))

theorem wp_rangeFunc_rec {P : Program} {g : Operand} {ps : Array Tmp} {assign body : Code} {Q : Exit → Act → World → Prop} {a : Act} {gf : Nat} {lb : Array Value}
    (hg : a.eval g = .func (.func gf) #[] lb) (eg : ∀ args w, (callFunc gf args).run P w = .ok (.enter gf args) w)
    (h : ∀ rec : LoopState → Option Code → Loop, YieldRule P ps assign body a.tmps rec → EndRule P rec → OutRule P rec →
      Calls P gf (#[.func (.yield (w.heap.size + 1)) #[] #[]] ++ lb) ((w.alloc (.deferred (some []))).alloc (.loop (rec .ready none)))
        (rangePost Fence.wide 1 P (w.heap.size + 1) Q { a with defers := { target := .collected w.heap.size, args := #[] } :: a.defers })) :
    (Code.rangeFunc g ps assign body).wp P Q a w := by
  refine (wpIn_wide (n := 1)).1 (wpIn_rangeFunc ?_)
  intro fn _
  obtain ⟨rec, hrec⟩ : ∃ rec : LoopState → Option Code → Loop, rec = fun st pe => { state := st, pending := pe, fn, tmps := a.tmps, params := ps, assign, body, defers := w.heap.size } := ⟨_, rfl⟩
  refine ⟨w.heap.size + 1, [{ target := .collected w.heap.size, args := #[] }], (w.alloc (.deferred (some []))).alloc (.loop (rec .ready none)), { target := .fn (.func gf) lb, args := #[.func (.yield (w.heap.size + 1)) #[] #[]] },
    (w.alloc (.deferred (some []))).alloc (.loop (rec .ready none)), gf, #[.func (.yield (w.heap.size + 1)) #[] #[]] ++ lb, (w.alloc (.deferred (some []))).alloc (.loop (rec .ready none)), ?_, ?_, ?_, ?_, fun _ => Nat.le_refl _, ?_⟩
  · rw [hrec]; exact run_enterLoop_outer _ _ _ _ _
  · simp only [resolve, hg]
    simp [go_sem]
  · intro _ _; trivial
  · simp [invoke, go_sem, eg]
  · refine callsIn_wide.2 (h rec ?_ ?_ ?_)
    · intro l args W R hl hs hw
      have hy := run_yield (P := P) (args := args) hl (by rw [hrec]; exact hs)
      rw [hrec] at hy
      refine ⟨fn, _, assign, body, hy, roundIn_of_wpIn trivial (wpIn_mono hw ?_)⟩
      intro e a₁ W₁ hk
      cases e with
      | normal =>
        have hb := run_beginRound (P := P) hk.1 (by rw [hrec])
        refine ⟨_, hb, ?_⟩
        have := hk.2 hk.1
        rw [hrec] at this ⊢
        exact this
      | exit id => exact hk
      | goto t => exact hk
      | ret => exact hk
      | panic c => exact hk
      | outgrown => exact hk
    · intro l W jump hl
      have := run_endRound (P := P) jump hl
      rw [hrec] at this ⊢
      exact this
    · intro l W st pe hst hl
      have := run_endLoop (P := P) hl (by rw [hrec]; exact hst)
      rw [hrec] at this ⊢
      exact this
end Go.Proofs.Ytiolcpnhabipaaa
