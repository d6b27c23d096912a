/- A region that draws its order, of which all but the last few operations only read (their callees may lay blocks) and the last few stand in one order: one walk. No condition. -/
import Derived.Lib.QuietBelow
import Derived.StillTail
import Derived.Test.YtmffpnhdnaokhaaDoorRows
namespace Go.Proofs.YtmffpnhdnaokhaaDoor
open Go Go.Sort

section
variable {P : Program} {ops : Array Oper} {md : Region.Mode} {C : World → Prop}
/-- The first of them, each in its turn; then what is asked. -/
def HeadQ (P : Program) (md : Region.Mode) (ops : Array Oper) (C : World → Prop) (n : Nat) (L : Array Bool → Act → Prop) : Nat → Array Bool → Act → Prop
  | 0, done, a => L done a
  | k + 1, done, a => Region.ready md ops done ≠ [] ∧ ∀ i, i ∈ Region.ready md ops done → i < n ∧ qOp P ops C i (HeadQ P md ops C n L k (done.setIfInBounds i true)) a
theorem HeadQ.run {n m : Nat} {L : Array Bool → Act → Prop} {Q' : Exit → Act → World → Prop} (hL : ∀ done a w, C w → L done a → wpAny P md ops Q' m done a w) :
    ∀ (k : Nat) (done : Array Bool) (a : Act) (w : World), C w → HeadQ P md ops C n L k done a → wpAny P md ops Q' (k + m) done a w := by
  intro k
  induction k with
  | zero =>
    intro done a w hw h
    rw [Nat.zero_add]
    exact hL _ _ _ hw h
  | succ k ih =>
    intro done a w hw ⟨h1, h2⟩
    rw [Nat.add_right_comm]
    refine ⟨fun e => absurd e h1, fun i hi => wpOp_of_qOp hw (fun a' w' hw' h' => ih _ a' w' hw' h') (h2 i hi).2⟩
/-- One that may be taken now and hangs together with none that may come up as well is taken first. -/
theorem HeadQ.first {n i : Nat} {oi : Oper} {v : Value} {L : Array Bool → Act → Prop} (hi : ops[i]? = some oi) (hsel : ∀ (j : Nat) (o : Oper) cs b, ops[j]? = some o → o.op ≠ .select cs b)
    (hs : Region.sinkB md ops n = true) (hc : Region.chainB md ops n = true) (hn : n < ops.size) (hin : i < n) (hL : ∀ done a, L done a → ∀ j ∈ Region.ready md ops done, n ≤ j) :
    ∀ (k : Nat) (done : Array Bool) (a : Act), HeadInv md ops n done →
      (∀ j oj, ops[j]? = some oj → j ≠ i → done.getD j true = false → (∀ e ∈ oj.after, Region.binds md e = true → e.on ≠ i) → oi.apart ops oj = true) →
      i ∈ Region.ready md ops done → YieldsIn P ops C oi v a → HeadQ P md ops C n L k (done.setIfInBounds i true) (a.put oi.dst v) → HeadQ P md ops C n L (k + 1) done a := by
  intro k
  induction k with
  | zero =>
    intro done a inv _ hr hy H
    have open' := (mem_ready.1 hr).1
    refine ⟨fun e => (by rw [e] at hr; cases hr), fun j hj => ?_⟩
    have hjn : j < n := Nat.lt_of_not_le fun h => tail_waits hs hc hn inv _ i rfl hin open' j h hj
    refine ⟨hjn, ?_⟩
    rcases Decidable.em (j = i) with e | e
    · subst e
      exact hy.qOp hi H
    · exact absurd (hL _ _ H j (ready_mono hj e)) (Nat.not_le_of_lt hjn)
  | succ k ih =>
    intro done a inv free hr hy H
    have open' := (mem_ready.1 hr).1
    refine ⟨fun e => (by rw [e] at hr; cases hr), fun j hj => ?_⟩
    have hjn : j < n := Nat.lt_of_not_le fun h => tail_waits hs hc hn inv _ i rfl hin open' j h hj
    refine ⟨hjn, ?_⟩
    rcases Decidable.em (j = i) with e | e
    · subst e
      exact hy.qOp hi H
    obtain ⟨oj, hoj, waits⟩ := (mem_ready.1 hj).2
    have hjopen := (mem_ready.1 hj).1
    have apart : oi.apart ops oj = true := free j oj hoj e hjopen fun x hx hb hon => by
      have h1 := waits x hx hb
      rw [hon, getD_both open'] at h1
      cases h1
    have step := qOp_put hoj apart (fun cs b => hsel i oi cs b hi) (fun cs b => hsel j oj cs b hoj) hy (H.2 j (ready_mono hj e)).2
    refine qOp_mono (fun a' ⟨y', r'⟩ => ?_) step
    refine ih _ a' (inv.set hj hjn) (fun l ol hl hli hlo hno => ?_) (ready_mono hr (Ne.symm e)) y' (by rw [Array.setIfInBounds_comm _ _ e]; exact r')
    refine free l ol hl hli ?_ hno
    rcases Decidable.em (j = l) with e2 | e2
    · subst e2; exact hjopen
    · rwa [getD_set_ne true e2] at hlo
theorem HeadQ.text {n m : Nat} {T : Act → Prop} (hsel : Region.noSelect ops = true) (hs : Region.sinkB md ops n = true) (hc : Region.chainB md ops n = true) (hn : n < ops.size) :
    ∀ (l : List Oper) (k : Nat) (done : Array Bool) (a : Act), (∀ j, j < l.length → l[j]? = ops[k + j]?) → k + l.length = n → HeadInv md ops n done → Region.lexHead md ops m l.length k done = true → wpQuiet P ops C T l a →
      HeadQ P md ops C n (fun done' a' => Region.seqB md ops m n done' = true ∧ T a') l.length done a := by
  intro l
  induction l with
  | nil =>
    intro k done a _ hk _ hB h
    have e : k = n := hk
    subst e
    exact ⟨hB, h⟩
  | cons o l ih =>
    intro k done a hl hk inv hB h
    have ho : ops[k]? = some o := (hl 0 (Nat.zero_lt_succ _)).symm
    have hB' : ((Region.ready md ops done).contains k && Region.free md ops done k && Region.lexHead md ops m l.length (k + 1) (done.setIfInBounds k true)) = true := hB
    rw [Bool.and_eq_true, Bool.and_eq_true] at hB'
    have hlen : (o :: l).length = l.length + 1 := rfl
    have hkn : k < n := by omega
    have hr : k ∈ Region.ready md ops done := by simpa using hB'.1.1
    have hq : qOp P ops C k (wpQuiet P ops C T l) a := by
      unfold qOp
      rw [ho]
      exact h
    obtain ⟨v, hy, hK⟩ := yieldsIn_of_qOp ho hq
    refine HeadQ.first ho (Region.noSelect_spec hsel) hs hc hn hkn (fun _ _ hT => seqB_ready hT.1) l.length done a inv (Region.free_spec ho hB'.1.2) hr hy ?_
    refine ih (k + 1) _ _ (fun j hj => ?_) (by omega) (inv.set hr hkn) hB'.2 hK
    have := hl (j + 1) (by omega)
    rw [show k + 1 + j = k + (j + 1) by omega]
    exact this
end
theorem wp_region_quiet_tail {P : Program} {id : Nat} {Q : Exit → Act → World → Prop} {a : Act} {w : World} {l : List Oper} (n : Nat) (hm : P.follows .mixedOrders = true) (hB : Region.lexTailB .any l.toArray n = true)
    (h : wpQuiet P l.toArray (fun w' => ∃ p : Regrown, w' = grow (redrawn w p.d) p.os) (fun a' => ∀ w', (∃ p : Regrown, w' = grow (redrawn w p.d) p.os) → wpList P l.toArray Q (l.drop n) a' w') (l.take n) a) : (Code.region id l.toArray true).wp P Q a w := by
  unfold Region.lexTailB at hB
  simp only [Bool.and_eq_true, decide_eq_true_eq] at hB
  obtain ⟨⟨⟨⟨hsel, hn⟩, hs⟩, hc⟩, hlex⟩ := hB
  have hn' : n < l.length := by simpa using hn
  have ht : (l.take n).length = n := by rw [List.length_take]; omega
  have hd : (l.drop n).length = l.toArray.size - n := by simp
  have inv : HeadInv .any l.toArray n (Array.replicate l.toArray.size false) := ⟨by simp, fun j oj _ hl => (by rw [getD_replicate_false] at hl; cases hl), fun t _ hlt => getD_in (by simpa using hlt) (getD_replicate_false _ _)⟩
  have H := HeadQ.text (m := l.toArray.size - n) hsel hs hc hn (l.take n) 0 (Array.replicate l.toArray.size false) a (fun j hj => by
    rw [ht] at hj
    simp [hj]) (by rw [ht]; omega) inv (by rw [ht]; exact hlex) h
  refine wp_region_any hm ?_
  have R := HeadQ.run (Q' := Q) (m := l.toArray.size - n) (fun done a' w' hw' ⟨h1, h2⟩ => by
    have := wpAny_of_seq (md := .any) (Q' := Q) (l.drop n) n done a' w' (fun j => by simp [List.getElem?_drop]) (by rw [hd]; exact h1) (h2 w' hw')
    rwa [hd] at this) _ _ _ { w with drawn := w.drawn + 1 } ⟨⟨w.drawn + 1, #[]⟩, by rw [grow_empty]; rfl⟩ H
  rw [ht, show n + (l.toArray.size - n) = l.toArray.size by omega] at R
  exact R
end Go.Proofs.YtmffpnhdnaokhaaDoor
