/- Layer 2's Put and PutSigned: the document's bytes, in memory of their own. No condition but that the number is of 64 bits. -/
import Derived.Test.YtfdbmdkjmifpaaaPut
namespace Go.Proofs.Ytfdbmdkjmifpaaa
open Go.RowKit
variable {w : World}

theorem own_slice {w : World} {base : Nat} {v : Value} {n : Nat} {xs : List Value} (h : w.ownsRow base 5 1 v n xs) : ∃ q c, v = .slice q n c := by
  rcases h.2 with ⟨rfl, h0⟩ | ⟨g, cap, cur, rfl, _⟩
  · have : n = 0 := by omega
    subst this; exact ⟨_, _, rfl⟩
  · exact ⟨_, _, rfl⟩
theorem own_kept {w w' : World} {base : Nat} {v : Value} {n : Nat} {xs : List Value} {b : Nat} (h : w.ownsRow base 5 1 v n xs) (hg : w.grownBy w' (some b)) (hb : b < base) : w'.ownsRow base 5 1 v n xs :=
  h.kept hg (by
    cases hv : v.ownBlock with
    | none => exact .inl rfl
    | some g => exact .inr (fun e => by injection e with e; have := (h.lt g hv).1; omega))
theorem lt_block {w : World} {b : Nat} {o : Obj} (h : w.heap[b]? = some o) : b < w.heap.size := (Array.getElem?_eq_some_iff.1 h).1
theorem encU_len (k : Nat) : ∀ n : Nat, n < 128 ^ (k + 1) → (encU n).length ≤ k + 1 := by
  induction k with
  | zero => intro n h; rw [encU_small (by simpa using h)]; simp
  | succ k ih =>
    intro n h
    by_cases h1 : n < 128
    · rw [encU_small h1]; simp
    · rw [encU_big h1, List.length_cons]
      have := ih (n / 128) (by rw [Nat.pow_succ] at h; omega)
      omega
theorem encS_len (k : Nat) : ∀ n : Int, -64 * 128 ^ k ≤ n → n < 64 * 128 ^ k → (encS n).length ≤ k + 1 := by
  induction k with
  | zero => intro n h h2; rw [encS_small (by simp at h h2; omega)]; simp
  | succ k ih =>
    intro n h h2
    by_cases h1 : -64 ≤ n ∧ n < 64
    · rw [encS_small h1]; simp
    · rw [encS_big h1, List.length_cons]
      rw [Int.pow_succ] at h h2
      have := p128 k
      have := ih (n / 128) (by omega) (by omega)
      omega
theorem encU_10 (n : Nat) (h : n < 18446744073709551616) : (encU n).length ≤ 10 := encU_len 9 n (by omega)
theorem encS_10 (n : Int) (h : -9223372036854775808 ≤ n ∧ n < 9223372036854775808) : (encS n).length ≤ 10 := encS_len 9 n (by omega) (by omega)

def cellAbs (w : World) (b : Nat) : Nat := match w.cell? ⟨b, 0, none⟩ with
  | some (.int _ m) => m.natAbs
  | _ => 0
structure PRel (w0 w : World) (all : List Int) (k : IntKind) (t : TypeId) (enc : Int → List Int) (ok : Int → Prop) (bn : Nat) (v : Value) : Prop where
  part : ∃ (m : Int) (pre : List Int) (q : Option Addr) (c : Nat), v = .slice q pre.length c ∧ w.ownsRow w0.heap.size 5 1 (.slice q pre.length c) pre.length (pre.map (Value.int .u8)) ∧ all = pre ++ enc m ∧
    w.heap[bn]? = some (.cells #[.int k m] t (0, 0)) ∧ ok m
  kept : KeptBut w0 w [bn]

def POut (w0 w : World) (all : List Int) (bn : Nat) (e : Ending) : Prop :=
  (∃ q c, e = .returned (.slice q all.length c) ∧ w.ownsRow w0.heap.size 5 1 (.slice q all.length c) all.length (all.map (Value.int .u8))) ∧ KeptBut w0 w [bn]

theorem one_byte (w : World) (x : Int) (t : TypeId) : IsBytes (w.alloc (.cells #[.int .u8 x] t)) (some ⟨w.heap.size, 0, none⟩) 1 [x] := by
  refine IsBytes.mk_at fun i hi => ?_
  rw [cell_of (heap_alloc_new w _)]
  obtain rfl : i = 0 := by simp at hi; omega
  rfl

theorem KeptBut.row {w0 w1 w2 : World} {S : List Nat} (h : KeptBut w0 w1 S) {r : Option Nat} (hg : w1.grownBy w2 r) (hr : ∀ g, r = some g → w0.heap.size ≤ g) : KeptBut w0 w2 S :=
  ⟨hg.os.trans h.os, hg.tape.trans h.tape, hg.output.trans h.output, Nat.le_trans h.size hg.size, fun i hi hm =>
    (hg.block i (Nat.lt_of_lt_of_le hi h.size) (fun e => by have := hr i e.symm; omega)).trans (h.block i hi hm)⟩
/-- Behind the append of one byte to the bytes of the call's own. -/
theorem put_step {w w2 w3 : World} {bn : Nat} {mv : Int} {pre : List Int} {x : Int} {q : Option Addr} {c : Nat} {k : IntKind} {t : TypeId} {v' : Value} (hbn : bn < w.heap.size)
    (hown : w2.ownsRow w.heap.size 5 1 (.slice q pre.length c) pre.length (pre.map (Value.int .u8))) (hcell : w2.heap[bn]? = some (.cells #[.int k mv] t (0, 0))) (hk : KeptBut w w2 [bn])
    (h1 : w3.ownsRow w.heap.size 5 1 v' (pre.length + 1) (pre.map (Value.int .u8) ++ [x].map (Value.int .u8))) (h2 : (w2.alloc (.cells #[.int .u8 x] 5)).grownBy w3 (Value.slice q pre.length c).ownBlock) :
    (∃ q' c', v' = .slice q' (pre ++ [x]).length c' ∧ w3.ownsRow w.heap.size 5 1 (.slice q' (pre ++ [x]).length c') (pre ++ [x]).length ((pre ++ [x]).map (Value.int .u8))) ∧
      w3.heap[bn]? = some (.cells #[.int k mv] t (0, 0)) ∧ KeptBut w w3 [bn] := by
  obtain ⟨q', c', rfl⟩ := own_slice h1
  have hrow : ∀ g, (Value.slice q pre.length c).ownBlock = some g → w.heap.size ≤ g := fun g hg => (hown.lt g hg).1
  have hl : (pre ++ [x]).length = pre.length + 1 := by simp
  refine ⟨⟨q', c', by rw [hl], by rw [hl, List.map_append]; exact h1⟩, ?_, (hk.row (World.grownBy_alloc w2 _ none) (by simp)).row h2 hrow⟩
  have hz := hk.size
  rw [h2.block bn (by simp; omega) (fun e => by have := hrow bn e.symm; omega)]
  exact (heap_alloc_old _ _ (by omega)).trans hcell

set_option maxHeartbeats 800000 in
theorem putu_any (bn n : Nat) (hn : n < 18446744073709551616) (hb : w.heap[bn]? = some (.cells #[.int .u64 n] 27 (0, 0))) :
    Calls Try.prog 29 #[.func (.func 30) #[] #[.pointer (some ⟨bn, 0, none⟩)]] w fun e w' => POut w w' (encU n) bn e := by
  have R0 : PRel w w (encU n) .u64 27 (fun m => encU m.toNat) (fun m => 0 ≤ m) bn (.slice none 0 0) := ⟨⟨n, [], none, 0, rfl, World.ownsRow_nil _ _ _ _, by simp, hb, by omega⟩, KeptBut.refl _ _⟩
  have hlen := encU_10 n hn
  have hbn := lt_block hb
  generalize hall : encU n = all at *
  clear hb hall
  go_enter Try.func29, Try.ntmps29
  go_wp2_with fail
  go_loopw [3] (fun v wr => PRel w wr all .u64 27 (fun m => encU m.toNat) (fun m => 0 ≤ m) bn v) (fun _ wr => cellAbs wr bn)
  case atStart => exact R0
  case round =>
    obtain ⟨⟨mi, pre, q, c, rfl, hown, hpre, hcell, hok⟩, hkept⟩ := hrel
    obtain ⟨m, rfl⟩ := Int.eq_ofNat_of_zero_le hok
    by_cases hlt : m < 128
    · have hd : decide (m < 128) = true := decide_eq_true hlt
      go_wp2_with fail
      refine (putclo_any bn m hcell).mono ?_
      rintro e w2 ⟨rfl, hcell2, hg2⟩
      rw [hd]
      have hown2 := own_kept hown hg2 hbn
      have hkept2 := hkept.trans (.of_grown hg2 (by simp))
      have S := fun v' w3 h1 h2 => put_step (x := ((m % 128 : Nat) : Int)) (v' := v') (w3 := w3) hbn hown2 hcell2 hkept2 h1 h2
      have hz2 := hkept2.size
      have hall : all = pre ++ [((m % 128 : Nat) : Int)] := by rw [hpre, show ((m : Int)).toNat = m from by omega, encU_small hlt, Nat.mod_eq_of_lt hlt]
      have A := Lib.hid hall
      have hsz : pre.length + 1 ≤ 140737488355328 := by rw [hall] at hlen; simp at hlen; omega
      have SS := Lib.hid S
      have OA := Lib.hid (hown2.alloc (.cells #[.int .u8 (((m % 128 : Nat) : Int))] 5))
      have OB := Lib.hid (one_byte w2 (((m % 128 : Nat) : Int)) 5)
      have SZ := Lib.hid hsz
      have HZ := Lib.hid hz2
      clear hown2 hkept2 S hall hpre hown hcell hkept hcell2 hg2 hsz hz2 hd hlen
      generalize ((m % 128 : Nat) : Int) = x at *
      go_wp2_with (at_builtin; refine wp_append_bytes rfl _ _ rfl rfl _ _ _ rfl OA.out [x] 1 rfl rfl OB.out SZ.out ?_ ?_)
      · have := HZ.out; simp; omega
      · intro v' w3 h1 h2
        obtain ⟨⟨q', c', rfl, ho⟩, _, hk3⟩ := SS.out v' w3 h1 h2
        have E := Lib.hid (And.intro ho hk3)
        clear h1 h2 ho hk3
        go_wp2
        go_ret
        rw [A.out]
        exact ⟨⟨_, _, rfl, E.out.1⟩, E.out.2⟩
    · have hd : decide (m < 128) = false := decide_eq_false hlt
      go_wp2_with fail
      refine (putclo_any bn m hcell).mono ?_
      rintro e w2 ⟨rfl, hcell2, hg2⟩
      rw [hd]
      have hown2 := own_kept hown hg2 hbn
      have hkept2 := hkept.trans (.of_grown hg2 (by simp))
      have hor := u8_or128_right (((m % 128 : Nat) : Int)) (by omega) (by omega)
      have S := fun v' w3 h1 h2 => put_step (x := ((m % 128 : Nat) : Int) + 128) (v' := v') (w3 := w3) hbn hown2 hcell2 hkept2 h1 h2
      have hz2 := hkept2.size
      have hall : all = (pre ++ [((m % 128 : Nat) : Int) + 128]) ++ encU (((m / 128 : Nat) : Int)).toNat := by rw [hpre, show ((m : Int)).toNat = m from by omega, show (((m / 128 : Nat) : Int)).toNat = m / 128 from by omega, encU_big hlt]; simp
      have A := Lib.hid hall
      have hsz : pre.length + 1 ≤ 140737488355328 := by rw [hall] at hlen; simp at hlen; omega
      have M := Lib.hid (show ((m / 128 : Nat) : Int).natAbs < cellAbs wr bn from by unfold cellAbs; rw [show wr.cell? ⟨bn, 0, none⟩ = some (.int .u64 m) by rw [cell_of hcell]; rfl]; simp; omega)
      have SS := Lib.hid S
      have OA := Lib.hid (hown2.alloc (.cells #[.int .u8 (((m % 128 : Nat) : Int) + 128)] 5))
      have OB := Lib.hid (one_byte w2 (((m % 128 : Nat) : Int) + 128) 5)
      have SZ := Lib.hid hsz
      have HZ := Lib.hid hz2
      clear hown2 hkept2 S hall hpre hown hcell hkept hcell2 hg2 hsz hz2 hd hlen
      generalize ((m % 128 : Nat) : Int) = x at *
      go_wp2_with (at_builtin; refine wp_append_bytes rfl _ _ rfl rfl _ _ _ rfl OA.out [x + 128] 1 rfl rfl OB.out SZ.out ?_ ?_)
      · have := HZ.out; simp; omega
      · intro v' w3 h1 h2
        obtain ⟨⟨q', c', rfl, ho⟩, hc3, hk3⟩ := SS.out v' w3 h1 h2
        have hm : cellAbs w3 bn < cellAbs wr bn := by
          have := M.out
          unfold cellAbs at this ⊢
          rw [show w3.cell? ⟨bn, 0, none⟩ = some (.int .u64 ((m / 128 : Nat) : Int)) by rw [cell_of hc3]; rfl]
          exact this
        have R : PRel w w3 all .u64 27 (fun m => encU m.toNat) (fun m => 0 ≤ m) bn (.slice q' (pre ++ [x + 128]).length c') := ⟨⟨((m / 128 : Nat) : Int), _, q', c', rfl, ho, A.out, hc3, by omega⟩, hk3⟩
        have RR := Lib.hid R
        have MM := Lib.hid hm
        clear h1 h2 ho hk3 hc3 R hm
        go_wp2
        go_roundw
        case rel => exact RR.out
        case measure => exact MM.out

set_option maxHeartbeats 800000 in
theorem puts_any (bn : Nat) (n : Int) (hn : -9223372036854775808 ≤ n ∧ n < 9223372036854775808) (hb : w.heap[bn]? = some (.cells #[.int .i64 n] 2 (0, 0))) :
    Calls Try.prog 29 #[.func (.func 31) #[] #[.pointer (some ⟨bn, 0, none⟩)]] w fun e w' => POut w w' (encS n) bn e := by
  have R0 : PRel w w (encS n) .i64 2 encS (fun _ => True) bn (.slice none 0 0) := ⟨⟨n, [], none, 0, rfl, World.ownsRow_nil _ _ _ _, by simp, hb, trivial⟩, KeptBut.refl _ _⟩
  have hlen := encS_10 n hn
  have hbn := lt_block hb
  generalize hall : encS n = all at *
  clear hb hall
  go_enter Try.func29, Try.ntmps29
  go_wp2_with fail
  go_loopw [3] (fun v wr => PRel w wr all .i64 2 encS (fun _ => True) bn v) (fun _ wr => cellAbs wr bn)
  case atStart => exact R0
  case round =>
    obtain ⟨⟨m, pre, q, c, rfl, hown, hpre, hcell, _⟩, hkept⟩ := hrel
    by_cases hlt : -64 ≤ m ∧ m < 64
    · have hd : decide (-64 ≤ m ∧ m < 64) = true := decide_eq_true hlt
      go_wp2_with fail
      refine (putsclo_any bn m hcell).mono ?_
      rintro e w2 ⟨rfl, hcell2, hg2⟩
      rw [hd]
      have hown2 := own_kept hown hg2 hbn
      have hkept2 := hkept.trans (.of_grown hg2 (by simp))
      have S := fun v' w3 h1 h2 => put_step (x := m % 128) (v' := v') (w3 := w3) hbn hown2 hcell2 hkept2 h1 h2
      have hz2 := hkept2.size
      have hall : all = pre ++ [m % 128] := by rw [hpre, encS_small hlt]
      have A := Lib.hid hall
      have hsz : pre.length + 1 ≤ 140737488355328 := by rw [hall] at hlen; simp at hlen; omega
      have SS := Lib.hid S
      have OA := Lib.hid (hown2.alloc (.cells #[.int .u8 (m % 128)] 5))
      have OB := Lib.hid (one_byte w2 (m % 128) 5)
      have SZ := Lib.hid hsz
      have HZ := Lib.hid hz2
      clear hown2 hkept2 S hall hpre hown hcell hkept hcell2 hg2 hsz hz2 hd hlen
      generalize m % 128 = x at *
      go_wp2_with (at_builtin; refine wp_append_bytes rfl _ _ rfl rfl _ _ _ rfl OA.out [x] 1 rfl rfl OB.out SZ.out ?_ ?_)
      · have := HZ.out; simp; omega
      · intro v' w3 h1 h2
        obtain ⟨⟨q', c', rfl, ho⟩, _, hk3⟩ := SS.out v' w3 h1 h2
        have E := Lib.hid (And.intro ho hk3)
        clear h1 h2 ho hk3
        go_wp2
        go_ret
        rw [A.out]
        exact ⟨⟨_, _, rfl, E.out.1⟩, E.out.2⟩
    · have hd : decide (-64 ≤ m ∧ m < 64) = false := decide_eq_false hlt
      go_wp2_with fail
      refine (putsclo_any bn m hcell).mono ?_
      rintro e w2 ⟨rfl, hcell2, hg2⟩
      rw [hd]
      have hown2 := own_kept hown hg2 hbn
      have hkept2 := hkept.trans (.of_grown hg2 (by simp))
      have hor := u8_or128_right (m % 128) (Int.emod_nonneg _ (by decide)) (Int.emod_lt_of_pos _ (by decide))
      have S := fun v' w3 h1 h2 => put_step (x := m % 128 + 128) (v' := v') (w3 := w3) hbn hown2 hcell2 hkept2 h1 h2
      have hz2 := hkept2.size
      have hall : all = (pre ++ [m % 128 + 128]) ++ encS (m / 128) := by rw [hpre, encS_big hlt]; simp
      have A := Lib.hid hall
      have hsz : pre.length + 1 ≤ 140737488355328 := by rw [hall] at hlen; simp at hlen; omega
      have M := Lib.hid (show (m / 128).natAbs < cellAbs wr bn from by unfold cellAbs; rw [show wr.cell? ⟨bn, 0, none⟩ = some (.int .i64 m) by rw [cell_of hcell]; rfl]; simp; omega)
      have SS := Lib.hid S
      have OA := Lib.hid (hown2.alloc (.cells #[.int .u8 (m % 128 + 128)] 5))
      have OB := Lib.hid (one_byte w2 (m % 128 + 128) 5)
      have SZ := Lib.hid hsz
      have HZ := Lib.hid hz2
      clear hown2 hkept2 S hall hpre hown hcell hkept hcell2 hg2 hsz hz2 hd hlen
      generalize m % 128 = x at *
      go_wp2_with (at_builtin; refine wp_append_bytes rfl _ _ rfl rfl _ _ _ rfl OA.out [x + 128] 1 rfl rfl OB.out SZ.out ?_ ?_)
      · have := HZ.out; simp; omega
      · intro v' w3 h1 h2
        obtain ⟨⟨q', c', rfl, ho⟩, hc3, hk3⟩ := SS.out v' w3 h1 h2
        have hm : cellAbs w3 bn < cellAbs wr bn := by
          have := M.out
          unfold cellAbs at this ⊢
          rw [show w3.cell? ⟨bn, 0, none⟩ = some (.int .i64 (m / 128)) by rw [cell_of hc3]; rfl]
          exact this
        have R : PRel w w3 all .i64 2 encS (fun _ => True) bn (.slice q' (pre ++ [x + 128]).length c') := ⟨⟨m / 128, _, q', c', rfl, ho, A.out, hc3, trivial⟩, hk3⟩
        have RR := Lib.hid R
        have MM := Lib.hid hm
        clear h1 h2 ho hk3 hc3 R hm
        go_wp2
        go_roundw
        case rel => exact RR.out
        case measure => exact MM.out

theorem own_base {w : World} {b b' : Nat} {v : Value} {n : Nat} {xs : List Value} (h : w.ownsRow b 5 1 v n xs) (hb : b' ≤ b) : w.ownsRow b' 5 1 v n xs := by
  refine ⟨h.1, ?_⟩
  rcases h.2 with h1 | ⟨g, cap, cur, hv, hgg, rest⟩
  · exact .inl h1
  · exact .inr ⟨g, cap, cur, hv, Nat.le_trans hb hgg, rest⟩
theorem put_below {w w2 : World} {o : Obj} (h : KeptBut (w.alloc o) w2 [w.heap.size]) : Below w.heap.size w w2 :=
  ⟨h.os, h.tape, h.output, by have := h.size; simp at this; omega, fun i hi => (h.block i (by simp; omega) (by simp; omega)).trans (heap_alloc_old _ _ (by omega))⟩

theorem putU_any (n : Nat) (hn : n < 18446744073709551616) (w : World) :
    Calls Try.prog 19 #[.int .u64 n] w fun e w' =>
      (∃ q c, e = .returned (.slice q (encU n).length c) ∧ w'.ownsRow w.heap.size 5 1 (.slice q (encU n).length c) (encU n).length ((encU n).map (Value.int .u8))) ∧ Below w.heap.size w w' := by
  have P := Lib.hid (putu_any w.heap.size n hn (heap_alloc_new w (.cells #[.int .u64 n] 27)))
  generalize encU n = all at *
  go_enter Try.func19, Try.ntmps19
  go_wp2_with fail
  refine P.out.mono ?_
  rintro e w2 ⟨⟨q, c, rfl, ho⟩, hk⟩
  have E := Lib.hid (And.intro (own_base (b' := w.heap.size) ho (by simp)) (put_below hk))
  clear ho hk
  go_wp2
  go_ret
  exact ⟨⟨_, _, rfl, E.out.1⟩, E.out.2⟩
theorem putS_any (n : Int) (hn : -9223372036854775808 ≤ n ∧ n < 9223372036854775808) (w : World) :
    Calls Try.prog 20 #[.int .i64 n] w fun e w' =>
      (∃ q c, e = .returned (.slice q (encS n).length c) ∧ w'.ownsRow w.heap.size 5 1 (.slice q (encS n).length c) (encS n).length ((encS n).map (Value.int .u8))) ∧ Below w.heap.size w w' := by
  have P := Lib.hid (puts_any w.heap.size n hn (heap_alloc_new w (.cells #[.int .i64 n] 2)))
  generalize encS n = all at *
  go_enter Try.func20, Try.ntmps20
  go_wp2_with fail
  refine P.out.mono ?_
  rintro e w2 ⟨⟨q, c, rfl, ho⟩, hk⟩
  have E := Lib.hid (And.intro (own_base (b' := w.heap.size) ho (by simp)) (put_below hk))
  clear ho hk
  go_wp2
  go_ret
  exact ⟨⟨_, _, rfl, E.out.1⟩, E.out.2⟩
end Go.Proofs.Ytfdbmdkjmifpaaa
