/- A walk over a trie in memory: a node is met, a place is put on the way and taken off it. No condition. -/
import Derived.Test.YtblfighfahffkaaTrY
import Derived.Maps.AppendAt
namespace Go.Proofs.Ytblfighfahffkaa
open Go.RowKit
variable {w w' W V : World} {xs : List Int}

/-- .. and where the new row lies. -/
theorem wp_append_sta {T TS : TypeId} {k by' : Nat} (st : StType Try.prog T TS k by') {base : Nat} {ops : Array Oper} {rest : List Oper} {o : Oper} {a : Act} {Q : Exit → Act → World → Prop} (hgd : o.guard = none) (s x : Operand)
    (ho : o.op = .call { callee := .builtin .append, args := #[s, x], argTypes := #[TS, TS] })
    (v : Value) (n : Nat) (ys : List Value) (hs : a.eval s = v) (hown : w.ownsRow base T k v n ys) (cs : List Value) (hl : cs.length = k) (g : Nat) (hx : a.eval x = .slice (some ⟨g, 0, none⟩) 1 1)
    (hb : w.heap[g]? = some (.cells cs.toArray T (0, 0))) (h1 : ∀ u ∈ cs, u.oneCell' = true)
    (h63 : (n + 1) * by' ≤ 140737488355328) (hby : 0 < by') (hbase : base ≤ w.heap.size)
    (h : ∀ v' w', w'.ownsRow base T k v' (n + 1) (ys ++ cs) → w.grownBy w' v.ownBlock → (v'.ownBlock = v.ownBlock ∨ v'.ownBlock = some w.heap.size) → wpList Try.prog ops Q rest (a.put o.dst v') w') : wpList Try.prog ops Q (o :: rest) a w := by
  obtain ⟨i, z, hi, hz0, hz1, hz2, hzs⟩ := st.info
  refine wpList_append_own_at w hgd s x _ ho base T i z k by' st.under hi hz0 hz1 hz2 hzs st.pos v n ys hs hown ⟨g, 0, none⟩ 1 1 cs hx (by rw [hl, Nat.one_mul]) ?_ h1 (by have := Nat.le_mul_of_pos_right (n + 1) hby; unfold maxLen; omega) h63 hbase ?_
  · intro j u hu
    rw [add_flat, cell_of hb, ← hu]
    simp
  · intro v' w' h2 h3 _ h4
    exact h v' w' h2 h3 h4
theorem ownsRow_chg {F : Nat → Prop} {base n k : Nat} {T : TypeId} {v : Value} {ys : List Value} (h : W.ownsRow base T k v n ys) (hg : Chg F W V) (hf : ∀ g, v.ownBlock = some g → ¬ F g) : V.ownsRow base T k v n ys := by
  obtain ⟨x1, hn | ⟨g, cp, cur, y1, y2, y3, y4⟩⟩ := h
  · exact ⟨x1, .inl hn⟩
  · refine ⟨x1, .inr ⟨g, cp, cur, y1, y2, ?_, y4⟩⟩
    rw [hg.block g (lt_of_block y3) (hf g (by rw [y1]; rfl))]
    exact y3
section
variable {S : Type} {fm : Nat} {cbs : Array Value} {mt : Mt S} {Pre : List Int → Prop} {Fine : S → Prop} {Inv : World → (Nat → Prop) → S → Prop} {z : Wfx} {F H : Nat → Prop} {m : Nat} {way : List Int} {s s' : S}
theorem Wk.base (h : Wk S z xs Inv W F m way s) : z.B ≤ W.heap.size := Nat.le_trans (h.fb _ h.fmet).1 (Nat.le_of_lt (h.fb _ h.fmet).2)
/-- A node has been met. -/
theorem Wk.told (h : Wk S z xs Inv W F m way s) {G G' : Nat → Prop} (b1 : ∀ k, G k → F k) (b3 : ¬ G z.cmet) (b4 : ¬ G z.cway) (b5 : ∀ q n cap, W.cell? ⟨z.cway, 0, none⟩ = some (.slice q n cap) → ∀ g, (Value.slice q n cap).ownBlock = some g → ¬ G g)
    (hi : Inv V G' s') (hG : ∀ k, G' k → G k ∨ (W.heap.size ≤ k ∧ k < V.heap.size)) (hg : Chg G W V) : Wk S z xs Inv V (Foot F W V) m way s' := by
  obtain ⟨q, cap, a1, a2, a3⟩ := h.way
  have o1 := a1.chg hg b4
  have old : ∀ k, k < W.heap.size → ¬ F k → ¬ Foot F W V k := fun k hk hf e => e.elim hf (fun e => by omega)
  have row : ∀ g, (Value.slice q way.length cap).ownBlock = some g → ¬ G g := b5 q way.length cap a1.c
  refine ⟨h.met.chg hg b3, ⟨q, cap, o1, ownsRow_chg a2 hg row, fun g e => .inl (a3 g e)⟩, ⟨G', fun k hk => ?_, hi, ?_, ?_, ?_⟩, .inl h.fmet, .inl h.fway, ?_, h.bb.chg hg (fun e => h.nb (b1 _ e)), h.me.chg hg (fun e => h.nm (b1 _ e)), h.vi.chg hg (fun e => h.nv (b1 _ e)),
    old _ h.bb.lt h.nb, old _ h.me.lt h.nm, old _ h.vi.lt h.nv, fun i hi => cell_chg (h.cell i hi) hg (fun e => h.nx (b1 _ e)), ?_, h.ne, h.nz⟩
  · rcases hG k hk with h1 | h1
    · exact .inl (b1 k h1)
    · exact .inr h1
  · intro e
    rcases hG _ e with h1 | h1
    · exact b3 h1
    · have := h.met.lt; omega
  · intro e
    rcases hG _ e with h1 | h1
    · exact b4 h1
    · have := a1.lt; omega
  · intro q' n' cap' e g eg hk
    rw [o1.c] at e
    injection e with e
    injection e with e1 e2 e3
    subst e1 e2 e3
    rcases hG _ hk with h1 | h1
    · exact row g eg h1
    · have := (a2.lt g eg).2; omega
  · intro k hk
    rcases hk with hk | hk
    · exact ⟨(h.fb k hk).1, Nat.lt_of_lt_of_le (h.fb k hk).2 hg.size⟩
    · exact ⟨Nat.le_trans h.base hk.1, hk.2⟩
  · intro e
    rcases e with e | e
    · exact h.nx e
    · have := World.block_lt_of_cell? W _ (h.cell 0 h.nz)
      simp only at this
      omega
/-- A place is put on the way: appended, then stored. -/
theorem Wk.push (M : MeetOk S fm cbs mt Pre Fine Inv) (h : Wk S z xs Inv W F m way s) (pl : Int) {q : Option Addr} {cap : Nat} (hc : W.cell? ⟨z.cway, 0, none⟩ = some (.slice q way.length cap)) {W1 : World} {v' : Value} (g1 : W.grownBy W1 none)
    {W2 : World} (ho : W2.ownsRow z.B 31 1 v' (way.length + 1) (way.flatMap u64Cs ++ u64Cs pl)) (g2 : W1.grownBy W2 (Value.slice q way.length cap).ownBlock) (hv : v'.ownBlock = (Value.slice q way.length cap).ownBlock ∨ v'.ownBlock = some W1.heap.size) :
    Wk S z xs Inv (W2.setCell ⟨z.cway, 0, none⟩ v') (Foot F W (W2.setCell ⟨z.cway, 0, none⟩ v')) m (way ++ [pl]) s ∧ Chg F W (W2.setCell ⟨z.cway, 0, none⟩ v') := by
  obtain ⟨q', n', rfl⟩ := own_slice ho
  obtain ⟨q0, cap0, a1, a2, a3⟩ := h.way
  obtain ⟨G, b1, b2, b3, b4, b5⟩ := h.inv
  have e := hc.symm.trans a1.c
  injection e with e
  injection e with e1 _ e2
  subst e1 e2
  have g3 := grown_setCell (i := 0) (grown_refl W2 (some z.cway)) (.slice q' (way.length + 1) n')
  have c1 : Chg (fun k => (Value.slice q way.length cap).ownBlock = some k ∨ k = z.cway) W (W2.setCell ⟨z.cway, 0, none⟩ (.slice q' (way.length + 1) n')) :=
    ((Chg.of_grown g1 (fun b e => by cases e)).trans (Chg.of_grown g2 (fun b e => .inl (.inl e)))).trans (Chg.of_grown g3 (fun b e => by injection e with e; exact .inl (.inr e.symm)))
  have cF : Chg F W (W2.setCell ⟨z.cway, 0, none⟩ (.slice q' (way.length + 1) n')) := c1.mono (fun k hk => hk.elim (a3 k) (fun e => e ▸ h.fway))
  have hG : ∀ k, G k → ¬ ((Value.slice q way.length cap).ownBlock = some k ∨ k = z.cway) := fun k hk e => e.elim (fun e => b5 q way.length cap a1.c k e hk) (fun e => b4 (e ▸ hk))
  have old : ∀ k, k < W.heap.size → ¬ F k → ¬ Foot F W (W2.setCell ⟨z.cway, 0, none⟩ (.slice q' (way.length + 1) n')) k := fun k hk hf e => e.elim hf (fun e => by omega)
  have hne : (some z.cway : Option Nat) ≠ (Value.slice q way.length cap).ownBlock := fun e => own_ne a2 a1 (by decide) e.symm
  have o2 : OneAt W2 z.cway (.slice q way.length cap) 85 := (a1.grown g1).kept g2 (fun e => hne e.symm)
  have hq' : (Value.slice q' (way.length + 1) n').ownBlock ≠ some z.cway := own_ne ho o2 (by decide)
  have hsz : W.heap.size ≤ W1.heap.size := g1.size
  have rowold : ∀ g, (Value.slice q way.length cap).ownBlock = some g → g < W.heap.size := fun g e => (a2.lt g e).2
  have hFv : ∀ g, (Value.slice q' (way.length + 1) n').ownBlock = some g → Foot F W (W2.setCell ⟨z.cway, 0, none⟩ (.slice q' (way.length + 1) n')) g := fun g e => by
    rcases hv with h1 | h1
    · rw [h1] at e; exact .inl (a3 g e)
    · have hlt := (ho.lt g e).2
      rw [h1] at e
      injection e with e
      exact .inr ⟨by omega, Nat.lt_of_lt_of_le hlt g3.size⟩
  refine ⟨⟨h.met.chg c1 (fun e => e.elim (fun e => own_ne a2 h.met (by decide) e) (fun e => h.ne e)), ⟨q', n', ?_, ?_, ?_⟩, ⟨G, fun k hk => .inl (b1 k hk), M.kept _ _ _ _ _ b2 c1 hG, b3, b4, ?_⟩, .inl h.fmet, .inl h.fway, ?_,
    h.bb.chg cF h.nb, h.me.chg cF h.nm, h.vi.chg cF h.nv, old _ h.bb.lt h.nb, old _ h.me.lt h.nm, old _ h.vi.lt h.nv, fun i hi => cell_chg (h.cell i hi) cF h.nx, ?_, h.ne, h.nz⟩, cF⟩
  · rw [List.length_append, List.length_singleton]
    exact o2.set _
  · rw [List.length_append, List.length_singleton, List.flatMap_append, List.flatMap_singleton]
    exact ho.kept g3 (.inr hq')
  · rw [List.length_append, List.length_singleton]
    exact hFv
  · intro q2 n2 c2 e g eg hk
    rw [(o2.set (.slice q' (way.length + 1) n')).c] at e
    injection e with e
    injection e with e1 e2 e3
    subst e1 e2 e3
    rcases hv with h1 | h1
    · rw [h1] at eg
      exact b5 q way.length cap a1.c g eg hk
    · rw [h1] at eg
      injection eg with eg
      have := (h.fb g (b1 g hk)).2
      omega
  · intro k hk
    rcases hk with hk | hk
    · exact ⟨(h.fb k hk).1, Nat.lt_of_lt_of_le (h.fb k hk).2 cF.size⟩
    · exact ⟨Nat.le_trans h.base hk.1, hk.2⟩
  · intro e
    rcases e with e | e
    · exact h.nx e
    · have := World.block_lt_of_cell? W _ (h.cell 0 h.nz)
      simp only at this
      omega
/-- The last place is taken off the way. -/
theorem Wk.pop (M : MeetOk S fm cbs mt Pre Fine Inv) {pl : Int} (h : Wk S z xs Inv W F m (way ++ [pl]) s) {q : Option Addr} {cap : Nat} (hc : W.cell? ⟨z.cway, 0, none⟩ = some (.slice q (way ++ [pl]).length cap)) :
    Wk S z xs Inv (W.setCell ⟨z.cway, 0, none⟩ (.slice q way.length cap)) F m way s ∧ Chg F W (W.setCell ⟨z.cway, 0, none⟩ (.slice q way.length cap)) := by
  obtain ⟨q0, cap0, a1, a2, a3⟩ := h.way
  obtain ⟨G, b1, b2, b3, b4, b5⟩ := h.inv
  have e := hc.symm.trans a1.c
  injection e with e
  injection e with e1 _ e2
  subst e1 e2
  have g3 := grown_setCell (i := 0) (grown_refl W (some z.cway)) (.slice q way.length cap)
  have c1 : Chg (fun k => k = z.cway) W (W.setCell ⟨z.cway, 0, none⟩ (.slice q way.length cap)) := Chg.of_grown g3 (fun b e => by injection e with e; exact .inl e.symm)
  have cF : Chg F W (W.setCell ⟨z.cway, 0, none⟩ (.slice q way.length cap)) := c1.mono (fun k e => e ▸ h.fway)
  have a2' := a2
  rw [List.length_append, List.length_singleton, List.flatMap_append, List.flatMap_singleton] at a2'
  have ob : (Value.slice q way.length cap).ownBlock = (Value.slice q (way ++ [pl]).length cap).ownBlock := by cases q <;> rfl
  refine ⟨⟨h.met.chg c1 h.ne, ⟨q, cap, a1.set _, (own_less a2' (by rw [flat_len (f := u64Cs) (k := 1) (fun _ => rfl)])).kept g3 (.inr (by rw [ob]; exact own_ne a2 a1 (by decide))), fun g e => a3 g (ob ▸ e)⟩, ⟨G, b1, M.kept _ _ _ _ _ b2 c1 (fun k hk e => b4 (e ▸ hk)), b3, b4, ?_⟩, h.fmet, h.fway, fun k hk => ⟨(h.fb k hk).1, Nat.lt_of_lt_of_le (h.fb k hk).2 cF.size⟩,
    h.bb.chg cF h.nb, h.me.chg cF h.nm, h.vi.chg cF h.nv, h.nb, h.nm, h.nv, fun i hi => cell_chg (h.cell i hi) cF h.nx, h.nx, h.ne, h.nz⟩, cF⟩
  intro q2 n2 c2 e g eg hk
  rw [(a1.set (.slice q way.length cap)).c] at e
  injection e with e
  injection e with e1 e2 e3
  subst e1 e2 e3
  exact b5 q _ cap a1.c g (ob ▸ eg) hk
end
end Go.Proofs.Ytblfighfahffkaa
