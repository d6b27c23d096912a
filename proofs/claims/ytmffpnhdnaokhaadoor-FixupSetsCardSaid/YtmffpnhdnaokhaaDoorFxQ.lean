/- Two fixups, asked whether they are the same. No condition. -/
import Derived.Test.YtmffpnhdnaokhaaDoorFxC
import Derived.Laws.StructEq
import Derived.Shelf.Abstract
import Derived.WalkLawsBesides
namespace Go.Proofs.YtmffpnhdnaokhaaDoor
open Go.RowKit Go.Shelf
variable {w w' W V : World}
theorem eq_step {d : Nat} {xs ys : Array Value} {f : Field} {fs : List Field} {T : TypeId} {k : Nat} {nm : String} {u v : Value} {r : Bool} (hn : f.name = nm) (hx : nm ≠ "_") (ht : f.type = T) (ho : f.offset = k)
    (pa : (part T xs k).run Tryd.prog w = .ok u w) (pb : (part T ys k).run Tryd.prog w = .ok v w) (he : (Op.equalIn d T u v).run Tryd.prog w = .ok r w) :
    (Op.eqFields d xs ys (f :: fs)).run Tryd.prog w = if r = true then (Op.eqFields d xs ys fs).run Tryd.prog w else .ok false w := by
  subst hn ht ho
  simp only [Op.eqFields, if_pos hx, Sem.run_bind, pa, pb, he, Result.andThen_ok]
  cases r
  · simp [Sem.run_pure]
  · simp
theorem part_plain {T : TypeId} (hi : (isAgg T).run Tryd.prog w = .ok false w) {xs : Array Value} {k : Nat} {v : Value} (hv : xs[k]? = some v) : (part T xs k).run Tryd.prog w = .ok v w := by
  simp [part, Sem.run_bind, hi, hv, go_sem]
set_option maxRecDepth 20000 in
set_option maxHeartbeats 1600000 in
theorem equal_fx (a b : Fx) (w : World) : (Op.equalIn 10000 26 (fxV a) (fxV b)).run Tryd.prog w = .ok (decide (a = b)) w := by
  unfold fxV
  rw [run_equalIn_agg (P := Tryd.prog) w 9999 26 _ _ (by kernel_rfl) (by kernel_rfl)]
  have hf : (Tryd.prog.fieldsOf 26).toList.map (fun f => (f.name, f.type, f.offset)) = [("At", 23, 0), ("Kind", 24, 1), ("Target", 23, 2), ("Ordinal", 3, 3), ("Symbol", 9, 4), ("Addend", 2, 5), ("Weak", 4, 6)] := by kernel_rfl
  obtain ⟨fs, hfs⟩ : ∃ fs, fs = (Tryd.prog.fieldsOf 26).toList := ⟨_, rfl⟩
  rw [← hfs] at hf ⊢
  clear hfs
  have hl : fs.length = 7 := by have := congrArg List.length hf; simpa using this
  match fs, hl, hf with
  | [f0, f1, f2, f3, f4, f5, f6], _, hf =>
    simp only [List.map_cons, List.map_nil, List.cons.injEq, Prod.mk.injEq, and_true] at hf
    obtain ⟨⟨n0, t0, o0⟩, ⟨n1, t1, o1⟩, ⟨n2, t2, o2⟩, ⟨n3, t3, o3⟩, ⟨n4, t4, o4⟩, ⟨n5, t5, o5⟩, ⟨n6, t6, o6⟩⟩ := hf
    obtain ⟨p0, p1, p2, p3, p4, p5, p6⟩ := a
    obtain ⟨q0, q1, q2, q3, q4, q5, q6⟩ := b
    unfold fxArr
    rw [eq_step n0 (by decide) t0 o0 (part_plain (run_isAgg_plain Tryd.underlying23 rfl w) rfl) (part_plain (run_isAgg_plain Tryd.underlying23 rfl w) rfl) (run_equalIn_int w 9998 23 _ _ p0 q0 Tryd.underlying23)]
    rw [eq_step n1 (by decide) t1 o1 (part_plain (run_isAgg_plain Tryd.underlying24 rfl w) rfl) (part_plain (run_isAgg_plain Tryd.underlying24 rfl w) rfl) (run_equalIn_int w 9998 24 _ _ p1 q1 Tryd.underlying24)]
    rw [eq_step n2 (by decide) t2 o2 (part_plain (run_isAgg_plain Tryd.underlying23 rfl w) rfl) (part_plain (run_isAgg_plain Tryd.underlying23 rfl w) rfl) (run_equalIn_int w 9998 23 _ _ p2 q2 Tryd.underlying23)]
    rw [eq_step n3 (by decide) t3 o3 (part_plain (run_isAgg_plain Tryd.underlying3 rfl w) rfl) (part_plain (run_isAgg_plain Tryd.underlying3 rfl w) rfl) (run_equalIn_int w 9998 3 _ _ p3 q3 Tryd.underlying3)]
    rw [eq_step n4 (by decide) t4 o4 (part_plain (run_isAgg_plain Tryd.underlying9 rfl w) rfl) (part_plain (run_isAgg_plain Tryd.underlying9 rfl w) rfl) (run_equalIn_string w 9998 9 p4 q4 Tryd.underlying9)]
    rw [eq_step n5 (by decide) t5 o5 (part_plain (run_isAgg_plain Tryd.underlying2 rfl w) rfl) (part_plain (run_isAgg_plain Tryd.underlying2 rfl w) rfl) (run_equalIn_int w 9998 2 _ _ p5 q5 Tryd.underlying2)]
    rw [eq_step n6 (by decide) t6 o6 (part_plain (run_isAgg_plain Tryd.underlying4 rfl w) rfl) (part_plain (run_isAgg_plain Tryd.underlying4 rfl w) rfl) (run_equalIn_bool' w 9998 4 p6 q6 Tryd.underlying4)]
    have e4 : (p4.toList == q4.toList) = decide (p4 = q4) := by
      by_cases h : p4 = q4
      · subst h; simp
      · rw [decide_eq_false h]; exact beq_eq_false_iff_ne.2 fun e => h (sym_ext e)
    rw [e4]
    have e : (Op.eqFields 9999 (#[] : Array Value) #[] []).run Tryd.prog w = .ok true w := rfl
    simp only [Op.eqFields, Sem.run_pure]
    by_cases h0 : p0 = q0 <;> by_cases h1 : p1 = q1 <;> by_cases h2 : p2 = q2 <;> by_cases h3 : p3 = q3 <;> by_cases h4 : p4 = q4 <;> by_cases h5 : p5 = q5 <;> by_cases h6 : p6 = q6 <;> simp_all
theorem eql_fx (a b : Fx) (w : World) : (binOp .eql 26 (fxV a) (fxV b)).run Tryd.prog w = .ok (.bool (decide (a = b))) w := by
  have := equal_fx a b w
  unfold fxV at this ⊢
  rw [run_eql_struct, this]
  rfl
theorem neq_fx (a b : Fx) (w : World) : (binOp .neq 26 (fxV a) (fxV b)).run Tryd.prog w = .ok (.bool (!decide (a = b))) w := by
  have := equal_fx a b w
  unfold fxV at this ⊢
  rw [run_neq_struct, this]
  rfl
end Go.Proofs.YtmffpnhdnaokhaaDoor
