/- What the loop over the commands has got so far: a row of commands of the call's own, each in a row of its own, no two in one; what keeps it. No condition. -/
import Derived.Test.YthdppaooemdmaaaRowC
namespace Go.Proofs.Ythdppaooemdmaaa
open Go.RowKit
variable {w w' : World}

theorem grown_obj {r : Option Nat} {W W' : World} {k : Nat} {o : Obj} (hg : W.grownBy W' r) (h : W.heap[k]? = some o) (hr : r ≠ some k) : W'.heap[k]? = some o :=
  (hg.block k (Array.getElem?_eq_some_iff.1 h).1 (fun e => hr e.symm)).trans h

/-- Whatever lies in the blocks from hi on lies as it lay. -/
structure Over (hi : Nat) (w w' : World) : Prop where
  size : w.heap.size ≤ w'.heap.size
  same : ∀ k, hi ≤ k → k < w.heap.size → w'.heap[k]? = w.heap[k]?
theorem Over.refl (hi : Nat) (w : World) : Over hi w w := ⟨Nat.le_refl _, fun _ _ _ => rfl⟩
theorem Over.trans {hi : Nat} {a b c : World} (h : Over hi a b) (k : Over hi b c) : Over hi a c :=
  ⟨Nat.le_trans h.size k.size, fun i h1 h2 => (k.same i h1 (Nat.lt_of_lt_of_le h2 h.size)).trans (h.same i h1 h2)⟩
theorem Over.of_grown {hi : Nat} {r : Option Nat} (hg : w.grownBy w' r) (hr : ∀ j, r = some j → j < hi) : Over hi w w' :=
  ⟨hg.size, fun k h1 h2 => hg.block k h2 (fun e => by have := hr k e.symm; omega)⟩
theorem Around.trans {lo hi : Nat} {a b c : World} (h : Around lo hi a b) (k : Around lo hi b c) : Around lo hi a c :=
  ⟨Nat.le_trans h.size k.size, fun i h1 h2 => (k.same i h1 h2).trans (h.same i h1 h2)⟩
theorem Around.of_grown {lo hi : Nat} {r : Option Nat} (hg : w.grownBy w' r) (hs : hi ≤ w.heap.size) (hr : ∀ j, r = some j → j < lo ∨ hi ≤ j) : Around lo hi w w' :=
  ⟨hg.size, fun k h1 h2 => hg.block k (by omega) (fun e => by have := hr k e.symm; omega)⟩

theorem OwnM.over {base hi g n cap : Nat} {xs : List Int} (h : OwnM w base g n cap xs) (hv : Over hi w w') (hb : hi ≤ g) : OwnM w' base g n cap xs := by
  have hb : w'.heap[g]? = w.heap[g]? := hv.same g hb h.lt
  have hc : ∀ j, w'.cell? ⟨g, j, none⟩ = w.cell? ⟨g, j, none⟩ := fun j => World.cell?_of_block (a := ⟨g, j, none⟩) hb
  exact ⟨h.lo, Nat.lt_of_lt_of_le h.lt hv.size, h.le, h.len, h.most, fun j hj => by rw [hc]; exact h.there j hj, fun j hj => (World.frozen?_of_block (a := ⟨g, j, none⟩) hb).trans (h.free j hj), fun j hj => by rw [hc]; exact h.cell j hj⟩
theorem own_over {base hi n : Nat} {T : TypeId} {z : Nat} {v : Value} {xs : List Value} (h : w.ownsRow base T z v n xs) (hv : Over hi w w') (hb : hi ≤ base) : w'.ownsRow base T z v n xs := by
  obtain ⟨hn, hw⟩ := h
  refine ⟨hn, ?_⟩
  rcases hw with hw | ⟨g, cap, cur, hv', hbg, hg, hr⟩
  · exact .inl hw
  · exact .inr ⟨g, cap, cur, hv', hbg, (hv.same g (Nat.le_trans hb hbg) (Array.getElem?_eq_some_iff.1 hg).1).trans hg, hr⟩

structure Got (W : World) (base : Nat) (pre : List Cm) (lv : Value) : Prop where
  own : W.ownsRow base 40 2 lv pre.length (rowC pre)
  each : ∀ m ∈ pre, Taken W base m
  apart : (pre.map Cm.q).Nodup
  off : ∀ g, lv.ownBlock = some g → ∀ m ∈ pre, m.q ≠ some ⟨g, 0, none⟩
theorem Got.start (W : World) (base : Nat) : Got W base [] (.slice none 0 0) :=
  ⟨World.ownsRow_nil W base _ 2, fun m h => (by cases h), List.nodup_nil, fun g h => (by simp [Value.ownBlock] at h)⟩
theorem Got.over {hi base : Nat} {pre : List Cm} {lv : Value} (h : Got w base pre lv) (hv : Over hi w w') (hb : hi ≤ base) : Got w' base pre lv := by
  refine ⟨own_over h.own hv hb, fun m hm => ?_, h.apart, h.off⟩
  obtain ⟨g, hq, ho⟩ := h.each m hm
  exact ⟨g, hq, ho.over hv (Nat.le_trans hb ho.lo)⟩
theorem Got.lt {base : Nat} {pre : List Cm} {lv : Value} (h : Got w base pre lv) {m : Cm} (hm : m ∈ pre) {g : Nat} (hq : m.q = some ⟨g, 0, none⟩) : base ≤ g ∧ g < w.heap.size := by
  obtain ⟨g', hq', ho⟩ := h.each m hm
  rw [hq] at hq'
  injection hq' with e
  injection e with e
  subst e
  exact ⟨ho.lo, ho.lt⟩
/-- One more, appended in the world W2 that lies as W0 did from base on. -/
theorem Got.step {base : Nat} {W0 W W2 W3 : World} {pre : List Cm} {lv lv' : Value} {m : Cm} (h : Got W0 base pre lv) (hb : base ≤ W0.heap.size) (h1 : Over base W0 W2) (hm : Taken W W0.heap.size m) (h2 : Over W0.heap.size W W2) (_hs : W0.heap.size ≤ W.heap.size)
    (ho : W3.ownsRow base 40 2 lv' (pre.length + 1) (rowC (pre ++ [m]))) (hg : W2.grownBy W3 lv.ownBlock) (hat : lv'.ownBlock = lv.ownBlock ∨ lv'.ownBlock = some W2.heap.size) : Got W3 base (pre ++ [m]) lv' := by
  obtain ⟨g, hq, hO⟩ := hm
  have hO2 : OwnM W2 W0.heap.size g m.bytes.length m.cap m.bytes := hO.over h2 hO.lo
  have hold : ∀ x ∈ pre, ∀ gx, x.q = some ⟨gx, 0, none⟩ → base ≤ gx ∧ gx < W0.heap.size := fun x hx gx hqx => h.lt hx hqx
  have hlv : ∀ k, lv.ownBlock = some k → k < W0.heap.size := fun k hk => (h.own.lt k hk).2
  refine ⟨by rw [List.length_append]; exact ho, fun x hx => ?_, ?_, fun k hk x hx => ?_⟩
  · rcases List.mem_append.1 hx with hx | hx
    · obtain ⟨gx, hqx, hox⟩ := h.each x hx
      exact ⟨gx, hqx, (hox.over h1 hox.lo).kept hg (fun e => h.off gx e x hx hqx)⟩
    · obtain rfl : x = m := by simpa using hx
      have := hO2.kept hg (fun e => by have := hlv g e; have := hO.lo; omega)
      exact ⟨g, hq, this.mono hb⟩
  · rw [List.map_append, List.nodup_append]
    refine ⟨h.apart, by simp, fun a ha b hb' e => ?_⟩
    simp only [List.map_cons, List.map_nil, List.mem_singleton] at hb'
    subst hb'
    obtain ⟨x, hx, rfl⟩ := List.mem_map.1 ha
    have := (hold x hx g (e.trans hq)).2
    have := hO.lo
    omega
  · rcases List.mem_append.1 hx with hx | hx
    · obtain ⟨gx, hqx, hox⟩ := h.each x hx
      rcases hat with e | e
      · exact h.off k (e ▸ hk) x hx
      · rw [hk] at e
        injection e with e
        intro hc
        have := (hold x hx k hc).2
        have := h1.size
        omega
    · obtain rfl : x = m := by simpa using hx
      intro hc
      rw [hq] at hc
      injection hc with hc
      injection hc with hc
      rcases hat with e | e
      · have := hlv k (e ▸ hk)
        have := hO.lo
        omega
      · rw [hk] at e
        injection e with e
        have := hO2.lt
        omega
theorem Got.cms {base n c : Nat} {q : Option Addr} {pre : List Cm} (h : Got w base pre (.slice q n c)) (hn : pre.length = n) : IsCms w q pre ∧ n ≤ c ∧ c ≤ 9223372036854775807 := by
  subst hn
  refine IsCms.of_own rfl h.own fun m hm => ?_
  obtain ⟨g, hq, ho⟩ := h.each m hm
  rw [hq]
  exact ho.bytes _
end Go.Proofs.Ythdppaooemdmaaa
