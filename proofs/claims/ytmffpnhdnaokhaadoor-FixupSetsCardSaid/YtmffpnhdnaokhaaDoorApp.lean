/- Bytes appended to bytes of the call's own, wherever the former lie, nil too: one law for the walk. -/
import Derived.Test.YtmffpnhdnaokhaaDoorMake
import Derived.Lib.SlFresh
import Derived.Maps.AppendAt
namespace Go.Proofs.YtmffpnhdnaokhaaDoor
open Go.RowKit
variable {w : World} {base : Nat} {q : Option Addr} {c : Nat}

theorem info_u8 : (Tryd.prog.info? 5).map (fun i => (i.zero, i.size, i.bytes)) = some (some (.int .u8 0), 1, 1) := by kernel_rfl

theorem run_append_none (v : Value) (n : Nat) (xs : List Value) (h : w.ownsRow base 5 1 v n xs) :
    (Builtin.append_ #[69, 69] 69 #[v, .slice none 0 0]).run Tryd.prog w = .ok v w := by
  obtain ⟨i, hi, hz, hs, hb⟩ := info_parts info_u8
  rcases h.2 with ⟨rfl, _⟩ | ⟨g, cap, cur, rfl, _, hg, hn, hm, hc, _⟩
  · simp [Builtin.append_, run_underlying Tryd.underlying69, sizeOf, typeInfo, hi, Builtin.lenOf, Builtin.firstCells, Result.andThen]
  · simp [Builtin.append_, run_underlying Tryd.underlying69, sizeOf, typeInfo, hi, Builtin.lenOf, hn, Builtin.firstCells, storeCells, Result.andThen]

theorem wp_append_bytes {ops : Array Oper} {rest : List Oper} {o : Oper} {a : Act} {Q : Exit → Act → World → Prop} (hgd : o.guard = none) (s x : Operand)
    (ho : o.op = .call { callee := .builtin .append, args := #[s, x], argTypes := #[69, 69] }) (hty : o.type = 69)
    (v : Value) (n : Nat) (xs : List Value) (hs : a.eval s = v) (hown : w.ownsRow base 5 1 v n xs)
    (news : List Int) (m : Nat) (hm : news.length = m) (hx : a.eval x = .slice q m c) (hb : IsBytes w q c news)
    (h63 : n + m ≤ 140737488355328) (hbase : base ≤ w.heap.size)
    (h : ∀ v' w', w'.ownsRow base 5 1 v' (n + m) (xs ++ news.map (Value.int .u8)) → w.grownBy w' v.ownBlock → wpList Tryd.prog ops Q rest (a.put o.dst v') w') : wpList Tryd.prog ops Q (o :: rest) a w := by
  subst hm
  obtain ⟨i, hi, hz0, hz1, hz2⟩ := info_parts info_u8
  rcases hb.ways with ⟨rfl, rfl, rfl⟩ | ⟨ad, rfl, hc⟩
  · refine Lib.wpList_append_run_sl w hgd s x _ ho v (.slice none 0 0) hs hx (by rw [hty]; exact run_append_none v n xs hown) ?_
    exact h v w (by simpa using hown) (grown_refl w _)
  · refine wpList_append_own w hgd s x _ ho base 5 i (.int .u8 0) 1 1 Tryd.underlying69 hi hz0 hz1 hz2 rfl (by decide) v n xs hs hown ad news.length c (news.map (Value.int .u8)) hx (by simp) ?_ ?_ (by unfold maxLen; omega) (by omega) hbase ?_
    · intro j u hu
      have hj : j < news.length := by
        rcases Nat.lt_or_ge j news.length with h | h
        · exact h
        · simp [h] at hu
      rw [hc j hj]
      simp [hj] at hu ⊢
      exact hu
    · intro u hu
      obtain ⟨y, _, rfl⟩ := List.mem_map.1 hu
      rfl
    · intro v' w' h1 h2 _
      exact h v' w' h1 h2

/-- The same, and where the new slice lies: in the old one's block, or in the one just made. -/
theorem wp_append_at {ops : Array Oper} {rest : List Oper} {o : Oper} {a : Act} {Q : Exit → Act → World → Prop} (hgd : o.guard = none) (s x : Operand)
    (ho : o.op = .call { callee := .builtin .append, args := #[s, x], argTypes := #[69, 69] }) (hty : o.type = 69)
    (v : Value) (n : Nat) (xs : List Value) (hs : a.eval s = v) (hown : w.ownsRow base 5 1 v n xs)
    (news : List Int) (m : Nat) (hm : news.length = m) (hx : a.eval x = .slice q m c) (hb : IsBytes w q c news)
    (h63 : n + m ≤ 140737488355328) (hbase : base ≤ w.heap.size)
    (h : ∀ v' w', w'.ownsRow base 5 1 v' (n + m) (xs ++ news.map (Value.int .u8)) → w.grownBy w' v.ownBlock → (v'.ownBlock = v.ownBlock ∨ v'.ownBlock = some w.heap.size) → wpList Tryd.prog ops Q rest (a.put o.dst v') w') : wpList Tryd.prog ops Q (o :: rest) a w := by
  subst hm
  obtain ⟨i, hi, hz0, hz1, hz2⟩ := info_parts info_u8
  rcases hb.ways with ⟨rfl, rfl, rfl⟩ | ⟨ad, rfl, hc⟩
  · refine Lib.wpList_append_run_sl w hgd s x _ ho v (.slice none 0 0) hs hx (by rw [hty]; exact run_append_none v n xs hown) ?_
    exact h v w (by simpa using hown) (grown_refl w _) (.inl rfl)
  · refine wpList_append_own_at w hgd s x _ ho base 5 i (.int .u8 0) 1 1 Tryd.underlying69 hi hz0 hz1 hz2 rfl (by decide) v n xs hs hown ad news.length c (news.map (Value.int .u8)) hx (by simp) ?_ ?_ (by unfold maxLen; omega) (by omega) hbase ?_
    · intro j u hu
      have hj : j < news.length := by
        rcases Nat.lt_or_ge j news.length with h | h
        · exact h
        · simp [h] at hu
      rw [hc j hj]
      simp [hj] at hu ⊢
      exact hu
    · intro u hu
      obtain ⟨y, _, rfl⟩ := List.mem_map.1 hu
      rfl
    · intro v' w' h1 h2 _ h5
      exact h v' w' h1 h2 h5
end Go.Proofs.YtmffpnhdnaokhaaDoor
