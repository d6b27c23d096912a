import Derived.Test.YtemdbfgpimfkdaaM12
import Derived.RangeFuncIn
import Derived.RangeFuncLeaves
/- What the loop over the commands has got so far: a row of commands of the call's own, each in a row of its own, no two in one; what keeps it. No condition. -/
namespace Go.Proofs.Ytemdbfgpimfkdaa
open Go.RowKit
variable {w w' : World}

theorem grown_obj {r : Option Nat} {W W' : World} {k : Nat} {o : Obj} (hg : W.grownBy W' r) (h : W.heap[k]? = some o) (hr : r ≠ some k) : W'.heap[k]? = some o :=
  (hg.block k (Array.getElem?_eq_some_iff.1 h).1 (fun e => hr e.symm)).trans h

/-- Whatever lies in the blocks from hi on lies as it lay. -/
structure Over (hi : Nat) (w w' : World) : Prop where
  size : w.heap.size ≤ w'.heap.size
  same : ∀ k, hi ≤ k → k < w.heap.size → w'.heap[k]? = w.heap[k]?
theorem Over.refl (hi : Nat) (w : World) : Over hi w w := ⟨Nat.le_refl _, fun _ _ _ => rfl⟩
theorem Over.trans {hi : Nat} {a b c : World} (h : Over hi a b) (k : Over hi b c) : Over hi a c :=
  ⟨Nat.le_trans h.size k.size, fun i h1 h2 => (k.same i h1 (Nat.lt_of_lt_of_le h2 h.size)).trans (h.same i h1 h2)⟩
theorem Over.of_grown {hi : Nat} {r : Option Nat} (hg : w.grownBy w' r) (hr : ∀ j, r = some j → j < hi) : Over hi w w' :=
  ⟨hg.size, fun k h1 h2 => hg.block k h2 (fun e => by have := hr k e.symm; omega)⟩
theorem Around.trans {lo hi : Nat} {a b c : World} (h : Around lo hi a b) (k : Around lo hi b c) : Around lo hi a c :=
  ⟨Nat.le_trans h.size k.size, fun i h1 h2 => (k.same i h1 h2).trans (h.same i h1 h2)⟩
theorem Around.of_grown {lo hi : Nat} {r : Option Nat} (hg : w.grownBy w' r) (hs : hi ≤ w.heap.size) (hr : ∀ j, r = some j → j < lo ∨ hi ≤ j) : Around lo hi w w' :=
  ⟨hg.size, fun k h1 h2 => hg.block k (by omega) (fun e => by have := hr k e.symm; omega)⟩

theorem OwnM.over {base hi g n cap : Nat} {xs : List Int} (h : OwnM w base g n cap xs) (hv : Over hi w w') (hb : hi ≤ g) : OwnM w' base g n cap xs := by
  have hb : w'.heap[g]? = w.heap[g]? := hv.same g hb h.lt
  have hc : ∀ j, w'.cell? ⟨g, j, none⟩ = w.cell? ⟨g, j, none⟩ := fun j => World.cell?_of_block (a := ⟨g, j, none⟩) hb
  exact ⟨h.lo, Nat.lt_of_lt_of_le h.lt hv.size, h.le, h.len, h.most, fun j hj => by rw [hc]; exact h.there j hj, fun j hj => (World.frozen?_of_block (a := ⟨g, j, none⟩) hb).trans (h.free j hj), fun j hj => by rw [hc]; exact h.cell j hj⟩
theorem own_over {base hi n : Nat} {T : TypeId} {z : Nat} {v : Value} {xs : List Value} (h : w.ownsRow base T z v n xs) (hv : Over hi w w') (hb : hi ≤ base) : w'.ownsRow base T z v n xs := by
  obtain ⟨hn, hw⟩ := h
  refine ⟨hn, ?_⟩
  rcases hw with hw | ⟨g, cap, cur, hv', hbg, hg, hr⟩
  · exact .inl hw
  · exact .inr ⟨g, cap, cur, hv', hbg, (hv.same g (Nat.le_trans hb hbg) (Array.getElem?_eq_some_iff.1 hg).1).trans hg, hr⟩

structure Got (W : World) (base : Nat) (pre : List Cm) (lv : Value) : Prop where
  own : W.ownsRow base 44 2 lv pre.length (rowC pre)
  each : ∀ m ∈ pre, Taken W base m
  apart : (pre.map Cm.q).Nodup
  off : ∀ g, lv.ownBlock = some g → ∀ m ∈ pre, m.q ≠ some ⟨g, 0, none⟩
theorem Got.start (W : World) (base : Nat) : Got W base [] (.slice none 0 0) :=
  ⟨World.ownsRow_nil W base _ 2, fun m h => (by cases h), List.nodup_nil, fun g h => (by simp [Value.ownBlock] at h)⟩
theorem Got.over {hi base : Nat} {pre : List Cm} {lv : Value} (h : Got w base pre lv) (hv : Over hi w w') (hb : hi ≤ base) : Got w' base pre lv := by
  refine ⟨own_over h.own hv hb, fun m hm => ?_, h.apart, h.off⟩
  obtain ⟨g, hq, ho⟩ := h.each m hm
  exact ⟨g, hq, ho.over hv (Nat.le_trans hb ho.lo)⟩
theorem Got.lt {base : Nat} {pre : List Cm} {lv : Value} (h : Got w base pre lv) {m : Cm} (hm : m ∈ pre) {g : Nat} (hq : m.q = some ⟨g, 0, none⟩) : base ≤ g ∧ g < w.heap.size := by
  obtain ⟨g', hq', ho⟩ := h.each m hm
  rw [hq] at hq'
  injection hq' with e
  injection e with e
  subst e
  exact ⟨ho.lo, ho.lt⟩
/-- One more, appended in the world W2 that lies as W0 did from base on. -/
theorem Got.step {base : Nat} {W0 W W2 W3 : World} {pre : List Cm} {lv lv' : Value} {m : Cm} (h : Got W0 base pre lv) (hb : base ≤ W0.heap.size) (h1 : Over base W0 W2) (hm : Taken W W0.heap.size m) (h2 : Over W0.heap.size W W2) (_hs : W0.heap.size ≤ W.heap.size)
    (ho : W3.ownsRow base 44 2 lv' (pre.length + 1) (rowC (pre ++ [m]))) (hg : W2.grownBy W3 lv.ownBlock) (hat : lv'.ownBlock = lv.ownBlock ∨ lv'.ownBlock = some W2.heap.size) : Got W3 base (pre ++ [m]) lv' := by
  obtain ⟨g, hq, hO⟩ := hm
  have hO2 : OwnM W2 W0.heap.size g m.bytes.length m.cap m.bytes := hO.over h2 hO.lo
  have hold : ∀ x ∈ pre, ∀ gx, x.q = some ⟨gx, 0, none⟩ → base ≤ gx ∧ gx < W0.heap.size := fun x hx gx hqx => h.lt hx hqx
  have hlv : ∀ k, lv.ownBlock = some k → k < W0.heap.size := fun k hk => (h.own.lt k hk).2
  refine ⟨by rw [List.length_append]; exact ho, fun x hx => ?_, ?_, fun k hk x hx => ?_⟩
  · rcases List.mem_append.1 hx with hx | hx
    · obtain ⟨gx, hqx, hox⟩ := h.each x hx
      exact ⟨gx, hqx, (hox.over h1 hox.lo).kept hg (fun e => h.off gx e x hx hqx)⟩
    · obtain rfl : x = m := by simpa using hx
      have := hO2.kept hg (fun e => by have := hlv g e; have := hO.lo; omega)
      exact ⟨g, hq, this.mono hb⟩
  · rw [List.map_append, List.nodup_append]
    refine ⟨h.apart, by simp, fun a ha b hb' e => ?_⟩
    simp only [List.map_cons, List.map_nil, List.mem_singleton] at hb'
    subst hb'
    obtain ⟨x, hx, rfl⟩ := List.mem_map.1 ha
    have := (hold x hx g (e.trans hq)).2
    have := hO.lo
    omega
  · rcases List.mem_append.1 hx with hx | hx
    · obtain ⟨gx, hqx, hox⟩ := h.each x hx
      rcases hat with e | e
      · exact h.off k (e ▸ hk) x hx
      · rw [hk] at e
        injection e with e
        intro hc
        have := (hold x hx k hc).2
        have := h1.size
        omega
    · obtain rfl : x = m := by simpa using hx
      intro hc
      rw [hq] at hc
      injection hc with hc
      injection hc with hc
      rcases hat with e | e
      · have := hlv k (e ▸ hk)
        have := hO.lo
        omega
      · rw [hk] at e
        injection e with e
        have := hO2.lt
        omega
theorem Got.cms {base n c : Nat} {q : Option Addr} {pre : List Cm} (h : Got w base pre (.slice q n c)) (hn : pre.length = n) : IsCms w q pre ∧ n ≤ c ∧ c ≤ 9223372036854775807 := by
  subst hn
  refine IsCms.of_own rfl h.own fun m hm => ?_
  obtain ⟨g, hq, ho⟩ := h.each m hm
  rw [hq]
  exact ho.bytes _
end Go.Proofs.Ytemdbfgpimfkdaa

/- A range over a function whose iterator writes cells of its own between two rounds: the loop's record, laid, told as three rules. No condition but that the statement stands in no round. -/
namespace Go.Proofs.Ytemdbfgpimfkdaa
open Go.RowKit
variable {w w' : World}

/-- What a call of yield comes to: the left sides are assigned to, the record is busy, the body runs. -/
def YieldRule (P : Program) (ps : Array Tmp) (assign body : Code) (tmps : Array Value) (rec : LoopState → Option Code → Loop) : Prop :=
  ∀ (l : Nat) (args : Array Value) (W : World) (R : Ending → World → Prop), W.heap[l]? = some (.loop (rec .ready none)) → args.size = ps.size →
    assign.wpIn (Fence.wide.inRound l) 0 P (Exit.then (fun a₁ W₁ => W₁.heap[l]? = some (.loop (rec .ready none)) ∧ (W₁.heap[l]? = some (.loop (rec .ready none)) → body.wpIn (Fence.wide.inRound l) 0 P (roundPost P l R) a₁ (W₁.putObj l (.loop (rec .busy none))))) (fun _ _ _ => False))
      { tmps := (ps.zip args).foldl (fun t (p, v) => t.setIfInBounds p v) tmps, defers := [] } W →
    YieldAt Fence.wide 0 P l args W R
def EndRule (P : Program) (rec : LoopState → Option Code → Loop) : Prop :=
  ∀ (l : Nat) (W : World) (jump : Option Code), W.heap[l]? = some (.loop (rec .busy none)) →
    (Instr.endRound l jump).run P W = .ok (.bool jump.isNone) (W.putObj l (.loop (rec (if jump.isNone then .ready else .done) jump)))
def OutRule (P : Program) (rec : LoopState → Option Code → Loop) : Prop :=
  ∀ (l : Nat) (W : World) (st : LoopState) (pe : Option Code), st ≠ .busy → W.heap[l]? = some (.loop (rec st pe)) →
    (Instr.endLoop l).run P W = .ok pe (W.putObj l (.loop (rec .exhausted pe)))

theorem wp_rangeFunc_rec {P : Program} {g : Operand} {ps : Array Tmp} {assign body : Code} {Q : Exit → Act → World → Prop} {a : Act} {gf : Nat} {lb : Array Value}
    (hg : a.eval g = .func (.func gf) #[] lb) (eg : ∀ args w, (callFunc gf args).run P w = .ok (.enter gf args) w)
    (h : ∀ rec : LoopState → Option Code → Loop, YieldRule P ps assign body a.tmps rec → EndRule P rec → OutRule P rec →
      Calls P gf (#[.func (.yield (w.heap.size + 1)) #[] #[]] ++ lb) ((w.alloc (.deferred (some []))).alloc (.loop (rec .ready none)))
        (rangePost Fence.wide 1 P (w.heap.size + 1) Q { a with defers := { target := .collected w.heap.size, args := #[] } :: a.defers })) :
    (Code.rangeFunc g ps assign body).wp P Q a w := by
  refine (wpIn_wide (n := 1)).1 (wpIn_rangeFunc ?_)
  intro fn _
  obtain ⟨rec, hrec⟩ : ∃ rec : LoopState → Option Code → Loop, rec = fun st pe => { state := st, pending := pe, fn, tmps := a.tmps, params := ps, assign, body, defers := w.heap.size } := ⟨_, rfl⟩
  refine ⟨w.heap.size + 1, [{ target := .collected w.heap.size, args := #[] }], (w.alloc (.deferred (some []))).alloc (.loop (rec .ready none)), { target := .fn (.func gf) lb, args := #[.func (.yield (w.heap.size + 1)) #[] #[]] },
    (w.alloc (.deferred (some []))).alloc (.loop (rec .ready none)), gf, #[.func (.yield (w.heap.size + 1)) #[] #[]] ++ lb, (w.alloc (.deferred (some []))).alloc (.loop (rec .ready none)), ?_, ?_, ?_, ?_, fun _ => Nat.le_refl _, ?_⟩
  · rw [hrec]; exact run_enterLoop_outer _ _ _ _ _
  · simp only [resolve, hg]
    simp [go_sem]
  · intro _ _; trivial
  · simp [invoke, go_sem, eg]
  · refine callsIn_wide.2 (h rec ?_ ?_ ?_)
    · intro l args W R hl hs hw
      have hy := run_yield (P := P) (args := args) hl (by rw [hrec]; exact hs)
      rw [hrec] at hy
      refine ⟨fn, _, assign, body, hy, roundIn_of_wpIn trivial (wpIn_mono hw ?_)⟩
      intro e a₁ W₁ hk
      cases e with
      | normal =>
        have hb := run_beginRound (P := P) hk.1 (by rw [hrec])
        refine ⟨_, hb, ?_⟩
        have := hk.2 hk.1
        rw [hrec] at this ⊢
        exact this
      | exit id => exact hk
      | goto t => exact hk
      | ret => exact hk
      | panic c => exact hk
      | outgrown => exact hk
    · intro l W jump hl
      have := run_endRound (P := P) jump hl
      rw [hrec] at this ⊢
      exact this
    · intro l W st pe hst hl
      have := run_endLoop (P := P) hl (by rw [hrec]; exact hst)
      rw [hrec] at this ⊢
      exact this
end Go.Proofs.Ytemdbfgpimfkdaa
