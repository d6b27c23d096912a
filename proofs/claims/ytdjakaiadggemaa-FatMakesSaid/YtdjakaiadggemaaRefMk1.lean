/- The fat file of parts: the document's own call. No condition but that there are few bytes in each part. -/
import Derived.Test.YtdjakaiadggemaaRefMk0
import Derived.Deep.RegionHeld3
import Derived.Deep.DrawnRows
namespace Go.Proofs.Ytdjakaiadggemaa
open Go.RowKit
variable {w w' : World} {base : Nat}

theorem info_int : (Try.prog.info? 3).map (fun i => (i.zero, i.size, i.bytes)) = some (some (.int .i64 0), 1, 8) := by kernel_rfl
theorem wp_append_int {ops : Array Oper} {rest : List Oper} {o : Oper} {a : Act} {Q : Exit → Act → World → Prop} (hgd : o.guard = none) (s x : Operand)
    (ho : o.op = .call { callee := .builtin .append, args := #[s, x], argTypes := #[77, 77] })
    (v : Value) (n : Nat) (l : List Value) (hs : a.eval s = v) (hown : w.ownsRow base 3 1 v n l) (t : Int) (g : Nat) (hx : a.eval x = .slice (some ⟨g, 0, none⟩) 1 1) (hb : w.cell? ⟨g, 0, none⟩ = some (.int .i64 t))
    (h63 : n ≤ 1000000) (hbase : base ≤ w.heap.size)
    (h : ∀ v' w', w'.ownsRow base 3 1 v' (n + 1) (l ++ [.int .i64 t]) → w.grownBy w' v.ownBlock → wpList Try.prog ops Q rest (a.put o.dst v') w') : wpList Try.prog ops Q (o :: rest) a w := by
  obtain ⟨i, hi, hz0, hz1, hz2⟩ := info_parts info_int
  refine wpList_append_own w hgd s x _ ho base 3 i (.int .i64 0) 1 8 Try.underlying77 hi hz0 hz1 hz2 rfl (by decide) v n l hs hown ⟨g, 0, none⟩ 1 1 [.int .i64 t] hx rfl ?_ ?_ (by unfold maxLen; omega) (by omega) hbase ?_
  · intro j u hu
    have hj : j = 0 := by
      rcases Nat.eq_zero_or_pos j with h | h
      · exact h
      · rw [List.getElem?_eq_none (by simp; omega)] at hu; cases hu
    subst hj
    rw [add_flat, ← hu]
    exact hb
  · intro u hu
    rw [List.mem_singleton.1 hu]; rfl
  · intro v' w' h1 h2 _
    exact h v' w' h1 h2

def lenV : Value → Nat
  | .slice _ n _ => n
  | _ => 0
/-- At a step of a region that draws its order. -/
theorem step_appendM {ops : Array Oper} {o : Oper} {a : Act} {K : Act → World → Prop} {Q : Exit → Act → World → Prop} {E : Prop} (hgd : o.guard = none) (s x : Operand)
    (ho : o.op = .call { callee := .builtin .append, args := #[s, x], argTypes := #[22, 22] }) (hty : o.type = 22)
    {g n cap : Nat} {xs : List Int} (hs : a.eval s = .slice (some ⟨g, 0, none⟩) n cap) (hown : OwnM w base g n cap xs)
    (news : List Int) (m : Nat) (hm : news.length = m) {q : Option Addr} {c : Nat} (hx : a.eval x = .slice q m c) (hb : IsBytes w q c news) (h63 : n + m ≤ 140737488355328)
    (h : ∀ g' cap' w', OwnM w' base g' (n + m) cap' (xs ++ news) → w.grownBy w' (some g) → K (a.put o.dst (.slice (some ⟨g', 0, none⟩) (n + m) cap')) w') :
    if Region.wanted o (yielded ops a.tmps) = true then Oper.wp Try.prog o a w K Q else E := by
  have hw : Region.wanted o (yielded ops a.tmps) = true := by simp [Region.wanted, hgd]
  rw [if_pos hw]
  obtain ⟨g', cap', w', hr, h1, h2, h3⟩ := run_appendM hown news m hm q c hb h63
  exact Lib.wp_append_run w s x _ _ ho _ _ hs hx _ _ (by rw [hty]; exact hr) (h g' cap' w' h1 h2)

/-- The row of places, in a later world. -/
def Places (w wq : World) (v : Value) (n : Nat) (S : List Sl) : Prop := wq.ownsRow w.heap.size 3 1 v n (S.map fun s => .int .i64 s.off) ∧ w.grownBy wq none
theorem Places.next {wq w1 : World} {v : Value} {n : Nat} {S : List Sl} (h : Places w wq v n S) (hg : wq.grownBy w1 none) : Places w w1 v n S := ⟨own_grown h.1 hg, grown_trans h.2 hg⟩
theorem Places.cell {wq : World} {qv : Option Addr} {n cv k : Nat} {S : List Sl} {s : Sl} (h : Places w wq (.slice qv n cv) n S) (hs : S[k]? = some s) : ∃ g, qv = some ⟨g, 0, none⟩ ∧ wq.cell? ⟨g, k, none⟩ = some (.int .i64 s.off) := by
  have h' := h.1
  obtain ⟨hl, hn | ⟨g, cap, cur, hv, _⟩⟩ := h.1
  · obtain ⟨e, h0⟩ := hn
    have : S = [] := List.eq_nil_of_length_eq_zero (by simp at hl; omega)
    simp [this] at hs
  · injection hv with e1 e2 e3
    subst e1
    refine ⟨g, rfl, ?_⟩
    have hc := h'.cells (g := g) rfl k (.int .i64 s.off) (by simp [hs])
    rw [add_flat, Nat.zero_add] at hc
    exact hc
theorem Places.drewN {wq : World} {v : Value} {n : Nat} {S : List Sl} (h : Places w wq v n S) (k : Nat) : Places w (wq.drewN k) v n S := h.next (grown_drewN (grown_refl _ _) k)

end Go.Proofs.Ytdjakaiadggemaa
