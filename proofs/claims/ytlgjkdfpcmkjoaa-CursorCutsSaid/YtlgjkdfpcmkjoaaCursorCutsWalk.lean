/- The walk of CursorCuts: what is taken part by part is all of it. -/
import Derived.Test.YtlgjkdfpcmkjoaaApp
import Derived.Test.YtlgjkdfpcmkjoaaArgs
import Derived.Test.YtlgjkdfpcmkjoaaKnown
namespace Go.Proofs.Ytlgjkdfpcmkjoaa.cursorCuts
open Go.RowKit

/-- Behind some rounds: what is taken so far, and the cursor behind it. -/
def Rel (w : World) (a : Nat) (q : Option Addr) (c : Nat) (ys cs : List Int) (big : Bool) (B : Nat) (v i : Value) (wr : World) : Prop :=
  ∃ (k p : Nat) (qv : Option Addr) (cv : Nat), k ≤ cs.length ∧ i = .int .i64 k ∧ p ≤ ys.length ∧ v = .slice qv p cv ∧
    wr.ownsRow B 5 1 v p ((ys.take p).map (Value.int .u8)) ∧ Cur wr w.heap.size a q c ys p big false ∧ Below w.heap.size w wr ∧ B ≤ wr.heap.size

theorem own_form {w : World} {base : Nat} {e : TypeId} {v : Value} {n : Nat} {xs : List Value} (h : w.ownsRow base e 1 v n xs) : ∃ q c, v = .slice q n c := by
  rcases h.2 with ⟨rfl, rfl⟩ | ⟨g, cap, cur, rfl, _⟩
  · exact ⟨_, _, rfl⟩
  · exact ⟨_, _, rfl⟩
theorem keep_row {w w' : World} {a B : Nat} {qv : Option Addr} {cv p : Nat} {l : List Value} (haB : a < B) (hown : w.ownsRow B 5 1 (.slice qv p cv) p l) (hg : w.grownBy w' (some a)) : w'.ownsRow B 5 1 (.slice qv p cv) p l :=
  hown.kept hg (.inr (fun e => by have := (hown.lt a e).1; omega))
theorem step {w wr w2 w3 : World} {a B : Nat} {q qv : Option Addr} {c cv k p m : Nat} {ys cs : List Int} {big : Bool} {v' : Value} (haB : a < B) (ha : w.heap.size ≤ a) (hBw : w.heap.size ≤ B)
    (hqB : ∀ g, (Value.slice q ys.length c).ownBlock = some g → g < B) (hk : k < cs.length) (hpm : p + m ≤ ys.length)
    (hbel : Below w.heap.size w wr) (hBz : B ≤ wr.heap.size) (hg2 : wr.grownBy w2 (some a)) (hcur : Cur w2 w.heap.size a q c ys (p + m) big false)
    (hown0 : w2.ownsRow B 5 1 (.slice qv p cv) p ((ys.take p).map (Value.int .u8)))
    (hown : w3.ownsRow B 5 1 v' (p + m) ((ys.take p).map (Value.int .u8) ++ ((ys.drop p).take m).map (Value.int .u8))) (hg3 : w2.grownBy w3 (Value.slice qv p cv).ownBlock) :
    Rel w a q c ys cs big B v' (.int .i64 ((k + 1 : Nat) : Int)) w3 := by
  obtain ⟨q', c', rfl⟩ := own_form hown
  have hz2 := Nat.le_trans hBz hg2.size
  have hrow : ∀ g, (Value.slice qv p cv).ownBlock = some g → B ≤ g := fun g hg => (hown0.lt g hg).1
  refine ⟨k + 1, p + m, q', c', hk, rfl, hpm, rfl, ?_, ?_, ?_, Nat.le_trans hz2 hg3.size⟩
  · rw [← List.map_append, ← List.take_add] at hown
    exact hown
  · refine hcur.kept hg3 (fun e => by have := hrow a e; omega) ?_
    cases hq : (Value.slice q ys.length c).ownBlock with
    | none => exact .inl rfl
    | some g => exact .inr (fun e => by have h1 := hqB g hq; have h2 := hrow g e.symm; omega)
  · exact (hbel.trans (below_grown hg2 (Nat.le_trans hBw hBz) (fun k hk => by simp at hk; omega))).trans (below_grown hg3 (Nat.le_trans hBw hz2) (fun g hg => Nat.le_trans hBw (hrow g hg)))

set_option maxHeartbeats 800000 in
theorem walk (a0 : Option Addr) (len0 cap0 : Nat) (z0 : List Int) (big : Bool) (a2 : Option Addr) (len2 cap2 : Nat) (z2 : List Int) (w : World) (w0 : IsRow .u8 w a0 len0 cap0 z0) (w2 : IsRow .i64 w a2 len2 cap2 z2) :
    Calls Try.prog 3 #[.slice a0 len0 cap0, .bool big, .slice a2 len2 cap2] w fun e w' => e = .returned (.bool true) ∧ Below w.heap.size w w' := by
  obtain ⟨ys, rfl, hys, hb, _⟩ := w0.bytes
  obtain ⟨cs, rfl, hcs⟩ := w2.ints
  clear w0 w2
  by_cases h1 : 3000 < ys.length
  · have K := known_any w
    go_enter Try.func3, Try.ntmps3
    go_wp2_with fail
    refine K.mono ?_
    rintro e w' ⟨rfl, hbel⟩
    go_wp2
    go_ret
    exact ⟨rfl, hbel⟩
  by_cases h2 : 40 < cs.length
  · have K := known_any w
    go_enter Try.func3, Try.ntmps3
    go_wp2_with fail
    refine K.mono ?_
    rintro e w' ⟨rfl, hbel⟩
    go_wp2
    go_ret
    exact ⟨rfl, hbel⟩
  have H1 := Lib.hid hys
  have H2 := Lib.hid hb
  have H3 := Lib.hid hcs
  have N := Lib.hid (new_any hb (by omega) hys big)
  clear hys hb hcs
  go_enter Try.func3, Try.ntmps3
  go_wp2_with fail
  refine N.out.mono ?_
  rintro e w1 ⟨⟨a, q, c, rfl, ha, hc1, _⟩, hb1⟩
  have hlt := hc1.lt
  have hqB := fun g hg => (hc1.own.lt g hg).2
  have hBw := hb1.size
  have R0 : Rel w a q c ys cs big w1.heap.size (.slice none 0 0) (.int .i64 0) w1 :=
    ⟨0, 0, none, 0, Nat.zero_le _, rfl, Nat.zero_le _, rfl, World.ownsRow_nil _ _ _ _, hc1, hb1, Nat.le_refl _⟩
  generalize hB : w1.heap.size = B at *
  have QB := Lib.hid hqB
  clear hB hc1 hb1 hqB
  go_wp2
  go_loopw [8, 9] (fun v i wr => Rel w a q c ys cs big B v i wr) (fun _ i _ => 40 - (intOf i).toNat)
  case atStart => exact R0
  case round =>
    obtain ⟨k, p, qv, cv, hk, rfl, hp, rfl, hown, hcur, hbel, hBz⟩ := hrel
    by_cases hlt2 : k < cs.length
    · obtain ⟨b, o, rfl, hbz, hcell⟩ := H3.out.1 (by omega)
      have hx : wr.cell? ⟨b, o + k, none⟩ = some (.int .i64 (cs.getD k 0)) := by
        rw [hbel.cell (p := ⟨b, o + k, none⟩) hbz]; exact hcell k hlt2
      have hxr := H3.out.2 (cs.getD k 0) (by simp [List.getD, hlt2, List.getElem_mem])
      generalize cs.getD k 0 = x at *
      have O := Lib.hid hown
      have HB := Lib.hid hbel
      clear hcell hown hbel
      by_cases hneg : x < 0
      · have hd : decide ((0 : Int) ≤ x) = false := by simp; omega
        have R : ∀ n, Rel w a q c ys cs big B (.slice qv p cv) (.int .i64 ((k + 1 : Nat) : Int)) (wr.drewN n) := fun n =>
          ⟨k + 1, p, qv, cv, hlt2, rfl, hp, rfl, O.out, hcur.drewN n, below_drewN HB.out n, hBz⟩
        have RR := Lib.hid R
        clear R
        go_wp2
        go_quiet (fail)
        go_wp2
        go_roundw
        case rel => exact RR.out _
        case measure => simp [intOf]; omega
      · have hge : 0 ≤ x := by omega
        by_cases hfit : x ≤ (ys.length : Int) - p
        · go_wp2
          go_quiet ((go_at_call 9; exact Calls.quiet_of ((left_any (hcur.drewN _)).mono (fun e w' ⟨h1, n, h2⟩ => ⟨h1, n, h2.symm⟩))))
          go_wp2_with fail
          obtain ⟨m, rfl⟩ := Int.eq_ofNat_of_zero_le hge
          refine (bytes_ok (hcur.drewN nq) m (by omega)).mono ?_
          rintro e w2 ⟨⟨q2, c2, rfl, hown2, _⟩, hcur2, hg2⟩
          have hg2' := grown_trans (grown_drewN (grown_refl wr (some a)) nq) hg2
          have hkeep := keep_row hlt O.out hg2'
          have hl2 : ((ys.drop p).take m).length = m := by simp; omega
          have hb2 := IsBytes.of_own hl2 hown2
          have S := fun v' w3 h1 h2 => step (cs := cs) (k := k) (w3 := w3) (v' := v') hlt ha hBw QB.out hlt2 (by omega) HB.out hBz hg2' hcur2 hkeep h1 h2
          have hz2 := Nat.le_trans hBz hg2'.size
          generalize (ys.drop p).take m = t at *
          have L2 := Lib.hid hl2
          have SS := Lib.hid S
          have KP := Lib.hid hkeep
          have BB := Lib.hid hb2
          clear hl2 S hkeep hb2 hown2 hg2 hg2' hcur2
          go_wp2_with (at_builtin; refine wp_append_bytes rfl _ _ rfl rfl _ _ _ rfl KP.out _ _ L2.out rfl BB.out ?_ ?_ ?_)
          · omega
          · exact hz2
          · intro v' w3 h1 h2
            have R := SS.out v' w3 (by rw [List.map_take]; exact h1) h2
            clear h2
            go_wp2
            go_roundw
            case rel => exact R
            case measure => simp [intOf]; omega
        · have R : ∀ n, Rel w a q c ys cs big B (.slice qv p cv) (.int .i64 ((k + 1 : Nat) : Int)) (wr.drewN n) := fun n =>
            ⟨k + 1, p, qv, cv, hlt2, rfl, hp, rfl, O.out, hcur.drewN n, below_drewN HB.out n, hBz⟩
          have RR := Lib.hid R
          clear R
          have hd2 : decide (x ≤ (ys.length : Int) - p) = false := by simp; omega
          go_wp2
          go_quiet ((go_at_call 9; exact Calls.quiet_of ((left_any (hcur.drewN _)).mono (fun e w' ⟨h1, n, h2⟩ => ⟨h1, n, h2.symm⟩))))
          go_wp2
          go_roundw
          case rel => exact RR.out _
          case measure => simp [intOf]; omega
    · obtain ⟨m, hm⟩ : ∃ m, p + m = ys.length := ⟨ys.length - p, by omega⟩
      have ed : (ys.length : Int) - p = m := by omega
      have O := Lib.hid hown
      have HB := Lib.hid hbel
      have E := Lib.hid ed
      have M := Lib.hid hm
      clear hown hbel ed hm
      go_wp2_with fail
      refine (left_any hcur).mono ?_
      rintro e w' ⟨rfl, n, rfl⟩
      rw [E.out]
      go_wp2_with fail
      refine (bytes_ok (hcur.drewN n) m (by have := M.out; omega)).mono ?_
      rintro e w2 ⟨⟨q2, c2, rfl, hown2, _⟩, hcur2, hg2⟩
      have hg2' := grown_trans (grown_drewN (grown_refl wr (some a)) n) hg2
      have hkeep := keep_row hlt O.out hg2'
      have hl2 : ((ys.drop p).take m).length = m := by have := M.out; simp; omega
      have hb2 := IsBytes.of_own hl2 hown2
      have hz2 := Nat.le_trans hBz hg2'.size
      have hall : (ys.take p).map (Value.int .u8) ++ ((ys.drop p).take m).map (Value.int .u8) = ys.map (Value.int .u8) := by
        rw [← List.map_append, ← List.take_add, M.out, List.take_length]
      have S : ∀ v' w3, w3.ownsRow B 5 1 v' (p + m) ((ys.take p).map (Value.int .u8) ++ ((ys.drop p).take m).map (Value.int .u8)) → w2.grownBy w3 (Value.slice qv p cv).ownBlock →
          ∃ q' c', v' = .slice q' ys.length c' ∧ IsBytes w3 q' c' ys ∧ Cur w3 w.heap.size a q c ys ys.length big false ∧ Below w.heap.size w w3 := by
        intro v' w3 h1 h2
        obtain ⟨q', c', rfl⟩ := own_form h1
        have hrow : ∀ g, (Value.slice qv p cv).ownBlock = some g → B ≤ g := fun g hg => (hkeep.lt g hg).1
        rw [hall, M.out] at h1
        refine ⟨q', c', by rw [M.out], IsBytes.of_own rfl h1, ?_, ?_⟩
        · rw [M.out] at hcur2
          refine hcur2.kept h2 (fun e => by have := hrow a e; omega) ?_
          cases hq : (Value.slice q ys.length c).ownBlock with
          | none => exact .inl rfl
          | some g => exact .inr (fun e => by have h1 := QB.out g hq; have h2 := hrow g e.symm; omega)
        · exact (HB.out.trans (below_grown hg2' (Nat.le_trans hBw hBz) (fun k hk => by simp at hk; omega))).trans (below_grown h2 (Nat.le_trans hBw hz2) (fun g hg => Nat.le_trans hBw (hrow g hg)))
      have SS := Lib.hid S
      clear S hall hcur2 hown2
      generalize (ys.drop p).take m = t at *
      have L2 := Lib.hid hl2
      have KP := Lib.hid hkeep
      have BB := Lib.hid hb2
      clear hl2 hkeep hb2 hg2 hg2'
      have hsz : p + m ≤ 3000 := by have := M.out; omega
      go_wp2_with (at_builtin; refine wp_append_bytes rfl _ _ rfl rfl _ _ _ rfl KP.out _ _ L2.out rfl BB.out ?_ ?_ ?_)
      · omega
      · exact hz2
      · intro v' w3 h1 h2
        obtain ⟨q', c', rfl, hb3, hcur3, hbel3⟩ := SS.out v' w3 (by rw [List.map_take]; exact h1) h2
        have hb0 := H2.out.below hbel3
        have cv1 := hb3.text rfl
        have cv2 := hb0.text rfl
        clear h1 h2
        go_wp2_with fail
        refine (err_any hcur3).mono ?_
        rintro e w' ⟨rfl, rfl⟩
        go_wp2_with fail
        refine (at_any hcur3).mono ?_
        rintro e w' ⟨rfl, rfl⟩
        go_wp2_with fail
        refine (left_any hcur3).mono ?_
        rintro e w' ⟨rfl, n3, rfl⟩
        rw [show (ys.length : Int) - ys.length = 0 by omega]
        go_wp2_with fail
        refine (known_any _).mono ?_
        rintro e w' ⟨rfl, hbk⟩
        go_wp2
        go_ret
        exact ⟨rfl, (below_drewN hbel3 n3).trans (hbk.mono hbel3.size)⟩
end Go.Proofs.Ytlgjkdfpcmkjoaa.cursorCuts
