/- What the program lays of a fat file's entries: its numbers, one behind the other. No condition but that rows are not beyond 2^30 bytes. -/
import Derived.Test.YtdjakaiadggemaaBig
import Derived.Test.YtdjakaiadggemaaMb
import Derived.Test.YtdjakaiadggemaaMark
namespace Go.Proofs.Ytdjakaiadggemaa
open Go.RowKit
variable {w w' : World}

theorem size_any (wide : Bool) : Calls Try.prog 52 #[shapeV wide] w fun e w' => e = .returned (.int .i64 (esize wide : Nat)) ∧ w.grownBy w' none := by
  cases wide
  all_goals
    unfold shapeV
    go_enter Try.func52, Try.ntmps52
    simp only [plc, rst, if_true, if_false, Bool.false_eq_true]
    go_wp2
    go_ret
    exact ⟨ret_int (by simp [esize]), grown1 _ _⟩

/-- The first place, from one on, that a unit divides. -/
def upN (a u : Int) : Int := (a + u - 1) / u * u
theorem roundUp_any (a u : Int) (ha : 0 ≤ a ∧ a ≤ 4294967296) (hu : 0 < u ∧ u ≤ 4294967296) :
    Calls Try.prog 53 #[.int .u64 a, .int .u64 u] w fun e w' => e = .returned (.int .u64 (upN a u)) ∧ w' = w := by
  have h1 : 0 ≤ (a + u - 1) / u := Int.ediv_nonneg (by omega) (by omega)
  have h2 : (a + u - 1) / u * u ≤ a + u - 1 := Int.ediv_mul_le _ (by omega)
  have h3 : 0 ≤ (a + u - 1) / u * u := Int.mul_nonneg h1 (by omega)
  have h4 : (a + u - 1).tdiv u = (a + u - 1) / u := Int.tdiv_eq_ediv_of_nonneg (by omega)
  have hne : (u == 0) = false := by simp; omega
  have hm : (a + u - 1) / u * u % 18446744073709551616 = (a + u - 1) / u * u := Int.emod_eq_of_lt h3 (by omega)
  unfold upN
  generalize hQ : (a + u - 1) / u = Q at *
  have h5 : Q ≤ Q * u := by
    have := Int.mul_le_mul_of_nonneg_left (show (1 : Int) ≤ u by omega) h1
    omega
  have wQ : IntKind.u64.wrap Q = Q := by rw [IntKind.wrap_u64]; omega
  have wR : IntKind.u64.wrap (Q * u) = Q * u := by rw [IntKind.wrap_u64]; exact hm
  generalize hR : Q * u = R at *
  go_enter Try.func53, Try.ntmps53
  go_wp2
  go_ret
  exact ⟨rfl, rfl⟩

theorem grown_app {w1 w2 : World} {g g1 : Nat} (h : w.grownBy w1 (some g)) (k : w1.grownBy w2 (some g1)) (hr : g1 = g ∨ w.heap.size ≤ g1) : w.grownBy w2 (some g) :=
  ⟨k.os.trans h.os, k.tape.trans h.tape, k.output.trans h.output, Nat.le_trans h.size k.size, fun i hi hn =>
    (k.block i (Nat.lt_of_lt_of_le hi h.size) (fun e => by
      injection e with e
      rcases hr with rfl | hg
      · exact hn (by rw [e])
      · omega)).trans (h.block i hi hn)⟩

/-- A row of bytes behind what was appended to it: its bytes, and that nothing else of old memory has turned. -/
structure Grew (w w' : World) (base g g' m cap : Nat) (xs : List Int) : Prop where
  own : OwnM w' base g' m cap xs
  grown : w.grownBy w' (some g)
  lies : g' = g ∨ w.heap.size ≤ g'
theorem Grew.trans {w1 w2 : World} {base g g1 g2 m m' cap cap' : Nat} {xs xs' : List Int} (h : Grew w w1 base g g1 m cap xs) (k : Grew w1 w2 base g1 g2 m' cap' xs') : Grew w w2 base g g2 m' cap' xs' := by
  refine ⟨k.own, grown_app h.grown k.grown h.lies, ?_⟩
  rcases k.lies with e | hg
  · rw [e]; exact h.lies
  · exact .inr (Nat.le_trans h.grown.size hg)
/-- New blocks ahead of it. -/
theorem Grew.ahead {w1 w2 : World} {base g g2 m cap : Nat} {xs : List Int} (h : w.grownBy w1 none) (k : Grew w1 w2 base g g2 m cap xs) : Grew w w2 base g g2 m cap xs :=
  ⟨k.own, grown_app (grown_any h _) k.grown (.inl rfl), by rcases k.lies with e | hg; exact .inl e; exact .inr (Nat.le_trans h.size hg)⟩

theorem shr_div (n : Int) (k : Nat) : n >>> k = n / 2 ^ k := Int.shiftRight_eq_div_pow n k

theorem number_any {base g m cap : Nat} {xs : List Int} (hown : OwnM w base g m cap xs) (hm : m ≤ 1073741824) (size : Nat) (hs : size = 0 ∨ size = 4 ∨ size = 8) (n : Int) (hn : 0 ≤ n ∧ n < 18446744073709551616) :
    Calls Try.prog 34 #[.slice (some ⟨g, 0, none⟩) m cap, .int .i64 size, .int .u64 n] w fun e w' => ∃ g' cap', e = .returned (.slice (some ⟨g', 0, none⟩) (m + size) cap') ∧ Grew w w' base g g' (m + size) cap' (xs ++ bigN n size) := by
  have hs8 : size ≤ 8 := by omega
  have hn0 := hn.1
  have hn1 := hn.2
  have G0 : Grew w w base g g (m + 0) cap (xs ++ (bigN n size).take 0) := ⟨by simpa using hown, grown_refl _ _, .inl rfl⟩
  clear hn hown
  go_enter Try.func34, Try.ntmps34
  go_wp2
  go_loopw [0, 7] (fun v i wr => ∃ j g' cap' : Nat, j ≤ size ∧ i = .int .i64 ((size : Int) - 1 - j) ∧ v = .slice (some ⟨g', 0, none⟩) (m + j) cap' ∧ Grew w wr base g g' (m + j) cap' (xs ++ (bigN n size).take j)) (fun _ i _ => (intOf i + 1).toNat)
  case atStart => exact ⟨0, g, cap, Nat.zero_le _, by simp, rfl, G0⟩
  case round =>
    obtain ⟨j, g1, c1, hj, rfl, rfl, hgr⟩ := hrel
    by_cases hlt : j < size
    · have TK := Lib.hid (bigN_take n size j hlt)
      have hk : 8 * ((size : Int) - 1 - j) = ((8 * (size - 1 - j) : Nat) : Int) := by omega
      have hsh := shr_div n (8 * (size - 1 - j))
      have G := Lib.hid hgr
      clear hgr G0
      generalize hD : n / 2 ^ (8 * (size - 1 - j)) % 256 = D at *
      have OA := Lib.hid (G.out.own.grown (grown1 wr (.cells #[.int .u8 D] 5)))
      have OB := Lib.hid (one_byte' wr D)
      go_wp2_with (at_builtin; refine wp_appendM rfl _ _ rfl rfl rfl OA.out [D] 1 rfl rfl OB.out (by omega) ?_)
      intro g' cap' w2 ho hg2 hl2
      have N1 : Grew wr w2 base g1 g' (m + j + 1) cap' (xs ++ (bigN n size).take j ++ [D]) := Grew.ahead (grown1 wr (.cells #[.int .u8 D] 5)) ⟨by rw [List.append_assoc]; exact ho, hg2, by rcases hl2 with e | e; exact .inl e; exact .inr (by rw [e]; simp)⟩
      have N3 := Lib.hid (show Grew w w2 base g g' (m + (j + 1)) cap' (xs ++ (bigN n size).take (j + 1)) by
        rw [TK.out, ← List.append_assoc]
        exact G.out.trans N1)
      clear ho hg2 hl2 N1
      go_wp2
      go_roundw
      case rel => exact ⟨j + 1, g', cap', by omega, by go_num, rfl, N3.out⟩
      case measure => simp [intOf]; omega
    · have hjs : j = size := by omega
      subst hjs
      have hfin : Grew w wr base g g1 (m + j) c1 (xs ++ bigN n j) := by
        have := hgr
        rwa [List.take_of_length_le (by rw [bigN_len]; exact Nat.le_refl _)] at this
      have E := Lib.hid hfin
      clear hfin hgr G0
      go_wp2
      go_ret
      exact ⟨_, _, rfl, E.out⟩
end Go.Proofs.Ytdjakaiadggemaa
