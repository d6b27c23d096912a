/- Bytes of one's own that grow: numbers laid behind them, the lowest byte first; the program's number, put. Conditions: they are at most 2^47. -/
import Derived.Test.YtlmgkofbjcahaaaNlM
import Derived.Test.YtlmgkofbjcahaaaApp
import Derived.Deep.Cut
import Derived.Deep.CutRange
namespace Go.Proofs.Ytlmgkofbjcahaaa
open Go.RowKit
variable {w w1 w2 w' : World} {base : Nat} {v v1 v2 v' : Value} {xs ys : List Int}

/-- So many bytes of a number, the lowest first. -/
def lowB : Nat → Int → List Int
  | 0, _ => []
  | k + 1, n => n % 256 :: lowB k (n / 256)
theorem lowB_len (k : Nat) (n : Int) : (lowB k n).length = k := by
  induction k generalizing n with
  | zero => rfl
  | succ k ih => rw [lowB, List.length_cons, ih]
theorem lowB_byt (k : Nat) (n : Int) : Byt (lowB k n) := by
  induction k generalizing n with
  | zero => intro x hx; cases hx
  | succ k ih =>
    intro x hx
    rcases List.mem_cons.1 hx with rfl | hx
    · omega
    · exact ih _ x hx
theorem lowB_snoc (k : Nat) (n : Int) : lowB (k + 1) n = lowB k n ++ [n / 256 ^ k % 256] := by
  induction k generalizing n with
  | zero => simp [lowB]
  | succ k ih =>
    rw [lowB, ih (n / 256), lowB, List.cons_append, Int.ediv_ediv_of_nonneg (by decide), Int.pow_succ, Int.mul_comm]
theorem lowB_le (k : Nat) (n : Int) (h0 : 0 ≤ n) (h : n < 256 ^ k) : leN (lowB k n) = n := by
  induction k generalizing n with
  | zero => simp at h; simp [lowB, leN]; omega
  | succ k ih =>
    rw [Int.pow_succ] at h
    rw [lowB, leN, ih (n / 256) (by omega) (by omega)]
    omega
theorem shift_byte (n : Int) (k : Nat) : n / 2 ^ (8 * k) % 256 = n / 256 ^ k % 256 := by
  rw [Int.pow_mul]
  rfl
/-- The row of one's own, from one world to another. -/
structure RowTo (w w' : World) (base : Nat) (v v' : Value) (xs : List Int) : Prop where
  own : w'.ownsRow base 5 1 v' xs.length (xs.map (Value.int .u8))
  grown : w.grownBy w' v.ownBlock
  lies : v'.ownBlock = v.ownBlock ∨ ∃ b, v'.ownBlock = some b ∧ w.heap.size ≤ b
theorem RowTo.refl (h : w.ownsRow base 5 1 v xs.length (xs.map (Value.int .u8))) : RowTo w w base v v xs := ⟨h, grown_refl _ _, .inl rfl⟩
theorem RowTo.trans (h : RowTo w w1 base v v1 xs) (k : RowTo w1 w2 base v1 v2 ys) : RowTo w w2 base v v2 ys := by
  refine ⟨k.own, ⟨k.grown.os.trans h.grown.os, k.grown.tape.trans h.grown.tape, k.grown.output.trans h.grown.output, Nat.le_trans h.grown.size k.grown.size, fun i hi hr => ?_⟩, ?_⟩
  · refine (k.grown.block i (Nat.lt_of_lt_of_le hi h.grown.size) (fun e => ?_)).trans (h.grown.block i hi hr)
    rcases h.lies with hl | ⟨b, hl, hb⟩
    · exact hr (by rw [← hl]; exact e)
    · rw [hl] at e; injection e with e; omega
  · rcases k.lies with kl | ⟨b, kl, hb⟩
    · rcases h.lies with hl | ⟨b, hl, hb⟩
      · exact .inl (kl.trans hl)
      · exact .inr ⟨b, kl.trans hl, hb⟩
    · exact .inr ⟨b, kl, Nat.le_trans h.grown.size hb⟩
theorem RowTo.pre (g : w.grownBy w1 none) (k : RowTo w1 w2 base v v2 ys) : RowTo w w2 base v v2 ys := by
  refine ⟨k.own, ⟨k.grown.os.trans g.os, k.grown.tape.trans g.tape, k.grown.output.trans g.output, Nat.le_trans g.size k.grown.size, fun i hi hr => ?_⟩, ?_⟩
  · exact (k.grown.block i (Nat.lt_of_lt_of_le hi g.size) hr).trans (g.block i hi (by simp))
  · rcases k.lies with kl | ⟨b, kl, hb⟩
    · exact .inl kl
    · exact .inr ⟨b, kl, Nat.le_trans g.size hb⟩
theorem RowTo.past (h : RowTo w w1 base v v1 xs) (g : w1.grownBy w2 none) : RowTo w w2 base v v1 xs :=
  ⟨own_grown h.own g, ⟨g.os.trans h.grown.os, g.tape.trans h.grown.tape, g.output.trans h.grown.output, Nat.le_trans h.grown.size g.size, fun i hi hr => (g.block i (Nat.lt_of_lt_of_le hi h.grown.size) (by simp)).trans (h.grown.block i hi hr)⟩, h.lies⟩
theorem RowTo.len {q : Option Addr} {m c : Nat} (h : RowTo w w' base v (.slice q m c) xs) : xs.length = m := by
  rcases h.own.2 with ⟨e, h0⟩ | ⟨g, cap, cur, e, _⟩
  · injection e with _ e2 _
    omega
  · injection e with _ e2 _
    omega
theorem RowTo.row {q : Option Addr} {m c : Nat} (h : RowTo w w' base v (.slice q m c) xs) : w'.ownsRow base 5 1 (.slice q m c) m (xs.map (Value.int .u8)) := by
  have := h.own
  rw [h.len] at this
  exact this
theorem one_byte (w : World) (x : Int) : IsBytes (w.alloc (.cells #[.int .u8 x] 5)) (some ⟨w.heap.size, 0, none⟩) 1 [x] := by
  refine IsBytes.mk_at fun i hi => ?_
  rw [cell_of (heap_alloc_new w _), Nat.zero_add]
  have h1 : i < 1 := hi
  match i, h1 with
  | 0, _ => rfl
/-- At the walk: bytes appended to a row of one's own that has come so far. -/
theorem wp_append_to {ops : Array Oper} {rest : List Oper} {o : Oper} {a : Act} {Q : Exit → Act → World → Prop} (hgd : o.guard = none) (s x : Operand)
    (ho : o.op = .call { callee := .builtin .append, args := #[s, x], argTypes := #[22, 22] }) (hty : o.type = 22)
    {w0 : World} {v0 v : Value} {xs : List Int} (hs : a.eval s = v) (hr : RowTo w0 w base v0 v xs) (news : List Int) (m : Nat) (hm : news.length = m) {q : Option Addr} {c : Nat} (hx : a.eval x = .slice q m c) (hb : IsBytes w q c news)
    (h63 : xs.length + m ≤ 140737488355328) (hbase : base ≤ w.heap.size)
    (h : ∀ q' c' w', RowTo w0 w' base v0 (.slice q' (xs.length + m) c') (xs ++ news) → wpList Try.prog ops Q rest (a.put o.dst (.slice q' (xs.length + m) c')) w') : wpList Try.prog ops Q (o :: rest) a w := by
  refine wp_append_at hgd s x ho hty v xs.length (xs.map (Value.int .u8)) hs hr.own news m hm hx hb h63 hbase ?_
  intro v' w' h1 h2 h3
  obtain ⟨q', c', rfl⟩ := own_slice h1
  refine h q' c' w' (hr.trans ⟨?_, h2, ?_⟩)
  · rw [List.length_append, List.map_append, hm]
    exact h1
  · rcases h3 with h3 | h3
    · exact .inl h3
    · exact .inr ⟨_, h3, Nat.le_refl _⟩

set_option maxRecDepth 20000 in
set_option maxHeartbeats 1600000 in
theorem number_to {q : Option Addr} {n c : Nat} (hn : xs.length = n) (hown : w.ownsRow base 5 1 (.slice q n c) n (xs.map (Value.int .u8))) (hb : base ≤ w.heap.size) (hbig : n ≤ 1000000000) (size : Nat) (hs : size ≤ 8) (N : Int) :
    Calls Try.prog 44 #[.slice q n c, .int .i64 size, .int .u64 N] w fun e w' => ∃ q' c', e = .returned (.slice q' (n + size) c') ∧ RowTo w w' base (.slice q n c) (.slice q' (n + size) c') (xs ++ lowB size N) := by
  subst hn
  have ST := Lib.hid (RowTo.refl hown)
  clear hown
  go_enter Try.func44, Try.ntmps44
  go_wp2
  go_loopw [0, 9] (fun vb vi wr => ∃ (k : Nat) (q' : Option Addr) (c' : Nat), k ≤ size ∧ vi = .int .i64 (k : Int) ∧ vb = .slice q' (xs.length + k) c' ∧ RowTo w wr base (.slice q xs.length c) (.slice q' (xs.length + k) c') (xs ++ lowB k N)) (fun _ vi _ => size - (intOf vi).toNat)
  case atStart => exact ⟨0, q, c, Nat.zero_le _, rfl, rfl, by rw [lowB, List.append_nil]; exact ST.out⟩
  case round =>
    obtain ⟨k, q', c', hk, rfl, rfl, hr⟩ := hrel
    have RR := Lib.hid hr
    clear hr
    by_cases hlt : k < size
    · have dl : decide ((k : Int) < (size : Int)) = true := by simp; omega
      have dl2 : decide (k < size) = true := by simp; omega
      have k8 : (k : Int) < 8 := by omega
      have hsn := lowB_snoc k N
      rw [← shift_byte] at hsn
      have GN := grown1 wr (.cells #[.int .u8 (N / 2 ^ (8 * k) % 256)] 5)
      have RP := Lib.hid (RR.out.past GN)
      have IB := Lib.hid (one_byte wr (N / 2 ^ (8 * k) % 256))
      have hlk : (xs ++ lowB k N).length = xs.length + k := by rw [List.length_append, lowB_len]
      have HL := Lib.hid hlk
      have SN := Lib.hid hsn
      have BS := Lib.hid (Nat.le_trans hb (Nat.le_trans RR.out.grown.size GN.size))
      clear hsn GN hlk
      obtain ⟨XS, hXS⟩ : ∃ XS, xs ++ lowB k N = XS := ⟨_, rfl⟩
      rw [hXS] at RP HL
      have HXS := Lib.hid hXS
      clear hXS
      go_wp2_with (at_builtin; refine wp_append_to rfl (.tmp 12) (.tmp 18) rfl rfl (v := .slice q' (xs.length + k) c') (by rfl) RP.out [N / 2 ^ (8 * k) % 256] 1 rfl rfl IB.out (by rw [HL.out]; omega) BS.out ?_)
      intro q2 c2 w2 hr2
      rw [show XS ++ [N / 2 ^ (8 * k) % 256] = xs ++ lowB (k + 1) N by rw [← HXS.out, List.append_assoc, ← SN.out]] at hr2
      rw [HL.out] at hr2 ⊢
      have R2 := Lib.hid hr2
      clear hr2
      go_wp2
      go_roundw
      case rel => exact ⟨k + 1, q2, c2, hlt, by simp, rfl, R2.out⟩
      case measure => simp [intOf]; omega
    · have hks : k = size := by omega
      subst hks
      have dl : decide ((k : Int) < (k : Int)) = false := by simp
      go_wp2
      go_ret
      exact ⟨q', c', rfl, RR.out⟩
end Go.Proofs.Ytlmgkofbjcahaaa
