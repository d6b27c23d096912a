/- A load in a drawn region that only reads. No condition. -/
import Derived.Test.YtmffpnhdnaokhaaDoorRows
import Derived.Lib.QuietBelow
import Derived.Deep.QuietTactic
namespace Go.Proofs.YtmffpnhdnaokhaaDoor
open Go.RowKit
/-- A load in a drawn region that only reads, by its own equation. -/
theorem wpQuiet_load {ops : Array Oper} {C : World → Prop} {Q : Act → Prop} {a : Act} {o : Oper} {rest : List Oper} {T : TypeId} {ad : Addr} {v : Value} (hw : Region.wanted o (yielded ops a.tmps) = true) (x : Operand) (ho : o.op = .load T x)
    (hx : a.eval x = .pointer (some ad)) (hl : ∀ w, C w → (loadVar T ad).run Tryd.prog w = .ok v w) (hK : wpQuiet Tryd.prog ops C Q rest (a.put o.dst v)) : wpQuiet Tryd.prog ops C Q (o :: rest) a := by
  refine wpQuiet_step fun K hK' => ?_
  rw [if_pos hw]
  refine ⟨v, fun W hW => ?_, hK' _ hK⟩
  unfold Oper.quietAt execOp
  simp only [ho, hx, Instr.loadAt, Instr.sureAddr, Sem.run_bind, Sem.run_pure, Result.andThen_ok, hl W hW]
  exact ⟨rfl, rfl⟩
end Go.Proofs.YtmffpnhdnaokhaaDoor
