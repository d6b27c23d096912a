/- The document's own Put and PutSigned: the shortest bytes, by recursion, in memory of their own. No condition but that the number is of 64 bits. -/
import Derived.Test.YtfdbmdkjmifpaaaEnc
import Derived.Laws.OwnMore
namespace Go.Proofs.Ytfdbmdkjmifpaaa
open Go.RowKit
variable {w : World}

def Bytes (w w' : World) (all : List Int) (e : Ending) : Prop :=
  (∃ q c, e = .returned (.slice q all.length c) ∧ w'.ownsRow w.heap.size 5 1 (.slice q all.length c) all.length (all.map (Value.int .u8))) ∧ Below w.heap.size w w'

theorem own_lit (w : World) (x : Int) : (w.alloc (.cells #[.int .u8 x] 5)).ownsRow w.heap.size 5 1 (.slice (some ⟨w.heap.size, 0, none⟩) 1 1) 1 [.int .u8 x] :=
  World.ownsRow_lit w #[.int .u8 x] 1 (Nat.le_refl _) (by decide) rfl

theorem own_below {w w' : World} {base : Nat} {v : Value} {n : Nat} {xs : List Value} (h : w.ownsRow base 5 1 v n xs) (hb : Below w.heap.size w w') (_ : base ≤ w.heap.size) : w'.ownsRow base 5 1 v n xs :=
  h.kept (grown_below hb none) (by cases v.ownBlock <;> simp)

set_option maxRecDepth 20000 in
theorem refput_any (k : Nat) : ∀ (n : Nat), n < k → n < 18446744073709551616 → ∀ w : World, Calls Try.prog 21 #[.int .u64 n] w fun e w' => Bytes w w' (encU n) e := by
  induction k with
  | zero => intro n h; omega
  | succ k ih =>
    intro n hk hn w
    by_cases h : n < 128
    · have e1 := encU_small h
      have E := Lib.hid e1
      have O := Lib.hid (own_lit w n)
      clear e1
      clear ih hk
      generalize encU n = all at *
      go_enter Try.func21, Try.ntmps21
      go_wp2_with fail
      go_ret
      rw [E.out]
      exact ⟨⟨_, _, rfl, O.out⟩, (Below.refl _ _).alloc (Nat.le_refl _) _⟩
    · have e1 := encU_big h
      have hl := encU_10 n hn
      have I := Lib.hid (ih (n / 128) (by omega) (by omega))
      have O := Lib.hid (own_lit w ((n : Int) % 128 + 128))
      have e3 : ((n / 128 : Nat) : Int) = (n : Int) / 128 := by omega
      have e2 : ((n % 128 : Nat) : Int) + 128 = (n : Int) % 128 + 128 := by omega
      rw [e2] at e1
      rw [e3] at I
      have E := Lib.hid e1
      clear ih e1 e2 e3
      generalize encU n = all at *
      generalize encU (n / 128) = rest at *
      have hl2 : rest.length ≤ 10 := by rw [E.out] at hl; simp at hl; omega
      go_enter Try.func21, Try.ntmps21
      go_wp2_with fail
      refine (I.out _).mono ?_
      rintro e w2 ⟨⟨q2, c2, rfl, o2⟩, b2⟩
      have own2 := own_below O.out b2 (by simp)
      have b3 : Below w.heap.size w w2 := ((Below.refl _ _).alloc (Nat.le_refl _) _).trans (b2.mono (by simp))
      have hb2 := IsBytes.of_own rfl o2
      have OW := Lib.hid own2
      have HB := Lib.hid hb2
      have B3 := Lib.hid b3
      clear own2 hb2 b3 o2 b2
      go_wp2_with (at_builtin; refine wp_append_bytes rfl _ _ rfl rfl _ _ _ rfl OW.out rest rest.length rfl rfl HB.out ?_ ?_ ?_)
      · omega
      · exact B3.out.size
      · intro v' w3 h1 h2
        obtain ⟨q', c', rfl⟩ := own_slice h1
        have hB : Below w.heap.size w w3 := B3.out.trans (below_grown h2 B3.out.size (fun g hg => (OW.out.lt g hg).1))
        have hl3 : all.length = 1 + rest.length := by rw [E.out]; simp; omega
        have h1' : w3.ownsRow w.heap.size 5 1 (.slice q' all.length c') all.length (all.map (Value.int .u8)) := by
          rw [hl3, E.out]; exact h1
        have F := Lib.hid (And.intro h1' hB)
        have L := Lib.hid hl3
        clear h1 h2 hB h1' hl3
        go_wp2
        go_ret
        rw [← L.out]
        exact ⟨⟨_, _, rfl, F.out.1⟩, F.out.2⟩

theorem go_mod (n : Int) : (wrap64 (n.tmod 128 + 128)).tmod 128 = n % 128 := by
  have h := Int.tmod_eq_emod (a := n) (b := 128)
  have h2 : -128 < n.tmod 128 ∧ n.tmod 128 < 128 := by
    rw [h]; split <;> simp <;> omega
  rw [w64_id _ (by omega), Int.tmod_eq_emod_of_nonneg (by omega), h]
  split <;> simp <;> omega
set_option maxHeartbeats 800000 in
set_option maxRecDepth 20000 in
theorem refputs_any (k : Nat) : ∀ (n : Int), n.natAbs < k → -9223372036854775808 ≤ n ∧ n < 9223372036854775808 → ∀ w : World, Calls Try.prog 22 #[.int .i64 n] w fun e w' => Bytes w w' (encS n) e := by
  induction k with
  | zero => intro n h; omega
  | succ k ih =>
    intro n hk hn w
    by_cases h : -64 ≤ n ∧ n < 64
    · have e1 := encS_small h
      have E := Lib.hid e1
      have O := Lib.hid (own_lit w (n % 128))
      clear e1 ih hk
      have g1 := go_mod n
      have g2 : n % 128 % 256 = n % 128 := by omega
      generalize encS n = all at *
      go_enter Try.func22, Try.ntmps22
      go_wp2_with fail
      go_ret
      rw [E.out]
      exact ⟨⟨_, _, rfl, O.out⟩, (Below.refl _ _).alloc (Nat.le_refl _) _⟩
    · have e1 := encS_big h
      have hl := encS_10 n hn
      have I := Lib.hid (ih (n / 128) (by omega) (by omega))
      have E := Lib.hid e1
      have O := Lib.hid (own_lit w (n % 128 + 128))
      clear ih e1 hk
      have g1 := go_mod n
      have g2 : n % 128 % 256 = n % 128 := by omega
      have d1 := Lib.hid (show (n - n % 128).tdiv 128 = n / 128 from by rw [show n - n % 128 = 128 * (n / 128) by omega, Int.mul_tdiv_cancel_left _ (by decide)])
      have d2 := Lib.hid (show (n - n % 128) / 128 = n / 128 from by omega)
      have g4 : (n % 128 + 128) % 256 = n % 128 + 128 := by omega
      generalize encS n = all at *
      generalize encS (n / 128) = rest at *
      have hl2 : rest.length ≤ 10 := by rw [E.out] at hl; simp at hl; omega
      go_enter Try.func22, Try.ntmps22
      go_wp2_with fail
      all_goals
        first
          | rw [d1.out]
          | rw [d2.out]
        refine (I.out _).mono ?_
        rintro e w2 ⟨⟨q2, c2, rfl, o2⟩, b2⟩
        have own2 := own_below O.out b2 (by simp)
        have b3 : Below w.heap.size w w2 := ((Below.refl _ _).alloc (Nat.le_refl _) _).trans (b2.mono (by simp))
        have hb2 := IsBytes.of_own rfl o2
        have OW := Lib.hid own2
        have HB := Lib.hid hb2
        have B3 := Lib.hid b3
        clear own2 hb2 b3 o2 b2
        go_wp2_with (at_builtin; refine wp_append_bytes rfl _ _ rfl rfl _ _ _ rfl OW.out rest rest.length rfl rfl HB.out ?_ ?_ ?_)
        · omega
        · exact B3.out.size
        · intro v' w3 h1 h2
          obtain ⟨q', c', rfl⟩ := own_slice h1
          have hB : Below w.heap.size w w3 := B3.out.trans (below_grown h2 B3.out.size (fun g hg => (OW.out.lt g hg).1))
          have hl3 : all.length = 1 + rest.length := by rw [E.out]; simp; omega
          have h1' : w3.ownsRow w.heap.size 5 1 (.slice q' all.length c') all.length (all.map (Value.int .u8)) := by
            rw [hl3, E.out]; exact h1
          have F := Lib.hid (And.intro h1' hB)
          have L := Lib.hid hl3
          clear h1 h2 hB h1' hl3
          go_wp2
          go_ret
          rw [← L.out]
          exact ⟨⟨_, _, rfl, F.out.1⟩, F.out.2⟩
end Go.Proofs.Ytfdbmdkjmifpaaa
