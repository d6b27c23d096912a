/- The walk of LebPads: a number is the same with groups of nothing behind it, up to ten bytes, and is none with more. -/
import Derived.Test.YtfdbmdkjmifpaaaKnown2
import Derived.Test.YtfdbmdkjmifpaaaPad
import Derived.Test.YtfdbmdkjmifpaaaTwo
namespace Go.Proofs.Ytfdbmdkjmifpaaa.lebPads
open Go.RowKit

theorem nat_u64 {a : Int} (h : (Lit.int .u64 a).wf = true) : ∃ n : Nat, a = n ∧ n < 18446744073709551616 := by
  have : 0 ≤ a ∧ a ≤ 18446744073709551615 := by simpa [Lit.wf, IntKind.min, IntKind.max, IntKind.signed, IntKind.bits] using h
  exact ⟨a.toNat, by omega, by omega⟩
/-- What Put hands back, its last byte apart. -/
theorem parted {w w' : World} {all A : List Int} {x : Int} {k : Nat} {e : Ending} (he : all = A ++ [x]) (hk : A.length = k)
    (h : (∃ q c, e = .returned (.slice q all.length c) ∧ w'.ownsRow w.heap.size 5 1 (.slice q all.length c) all.length (all.map (Value.int .u8))) ∧ Below w.heap.size w w') :
    (∃ g c, e = .returned (.slice (some ⟨g, 0, none⟩) (k + 1) c) ∧ w'.ownsRow w.heap.size 5 1 (.slice (some ⟨g, 0, none⟩) (k + 1) c) (k + 1) ((A ++ [x]).map (Value.int .u8)) ∧ w.heap.size ≤ g ∧ g < w'.heap.size) ∧ Below w.heap.size w w' := by
  subst he hk
  obtain ⟨⟨q, c, rfl, ho⟩, hb⟩ := h
  have hl : (A ++ [x]).length = A.length + 1 := by simp
  rw [hl] at ho ⊢
  obtain ⟨g, rfl, h1, h2, _⟩ := own_some ho (by omega)
  exact ⟨⟨g, c, rfl, ho, h1, h2⟩, hb⟩
theorem both {w w1 w2 : World} {ga gb ca cb ka kb : Nat} {A B : List Int} {x y : Int} (hka : A.length = ka) (hkb : B.length = kb)
    (oa : w1.ownsRow w.heap.size 5 1 (.slice (some ⟨ga, 0, none⟩) (ka + 1) ca) (ka + 1) ((A ++ [x]).map (Value.int .u8))) (la : ga < w1.heap.size) (ba : Below w.heap.size w w1)
    (ob : w2.ownsRow w1.heap.size 5 1 (.slice (some ⟨gb, 0, none⟩) (kb + 1) cb) (kb + 1) ((B ++ [y]).map (Value.int .u8))) (lb : w1.heap.size ≤ gb) (bb : Below w1.heap.size w1 w2) :
    Two w w2 (.slice (some ⟨ga, 0, none⟩) (ka + 1) ca) (A ++ [x]) (.slice (some ⟨gb, 0, none⟩) (kb + 1) cb) (B ++ [y]) := by
  subst hka hkb
  have h1 := oa.kept (grown_below bb none) (by simp [Value.ownBlock])
  have h2 := own_base ob ba.size
  have hl : ∀ (L : List Int) (z : Int), (L ++ [z]).length = L.length + 1 := fun L z => by simp
  exact ⟨by rw [hl]; exact h1, by rw [hl]; exact h2, fun g hg e => by simp [Value.ownBlock] at hg e; omega, ba.trans (bb.mono ba.size)⟩

/-- Ahead of a round: j groups that say that another one follows stand behind. -/
def Rel (w0 w : World) (A B : List Int) (x y fl : Int) (ka kb m : Nat) (va vb i : Value) : Prop :=
  ∃ (j : Nat) (qa qb : Option Addr) (ca cb : Nat), j + 1 ≤ m ∧ i = .int .i64 ((j + 1 : Nat) : Int) ∧ va = .slice qa (ka + 1 + j) ca ∧ vb = .slice qb (kb + 1 + j) cb ∧
    Two w0 w va ((A ++ [x + 128]) ++ List.replicate j 128) vb ((B ++ [y + 128]) ++ List.replicate j fl)
theorem Rel.next {w0 w' : World} {A B : List Int} {x y fl : Int} {ka kb m j : Nat} {va vb : Value} (hm : j + 2 ≤ m)
    (h : Two w0 w' va (((A ++ [x + 128]) ++ List.replicate j 128) ++ [128]) vb (((B ++ [y + 128]) ++ List.replicate j fl) ++ [fl]))
    (h1 : ∃ q c, va = .slice q (ka + 1 + j + 1) c) (h2 : ∃ q c, vb = .slice q (kb + 1 + j + 1) c) :
    Rel w0 w' A B x y fl ka kb m va vb (.int .i64 ((j : Int) + 1 + 1)) := by
  obtain ⟨qa, ca, rfl⟩ := h1
  obtain ⟨qb, cb, rfl⟩ := h2
  refine ⟨j + 1, qa, qb, ca, cb, by omega, by go_num, rfl, rfl, ?_⟩
  · have e : ∀ (L : List Int) (z : Int), L ++ List.replicate (j + 1) z = (L ++ List.replicate j z) ++ [z] := fun L z => by rw [List.replicate_succ', List.append_assoc]
    rw [e, e]; exact h
theorem pad_bytes {A : List Int} {x f : Int} {j : Nat} (hx : 0 ≤ x ∧ x < 128) (hf : 0 ≤ f ∧ f < 128) (hA : ∀ y ∈ A, 128 ≤ y ∧ y < 256) : ∀ z ∈ padded A x f j, 0 ≤ z ∧ z < 256 := by
  intro z hz
  rcases List.mem_append.1 hz with h | h
  · rcases List.mem_append.1 h with h | h
    · have := hA z h; omega
    · have := List.mem_singleton.1 h; omega
  · rcases List.mem_append.1 h with h | h
    · have := (List.mem_replicate.1 h).2; omega
    · have := List.mem_singleton.1 h; omega

set_option maxRecDepth 20000 in
set_option maxHeartbeats 3200000 in
theorem walk_neg (n : Nat) (a1 : Int) (m : Nat) (hn : n < 18446744073709551616) (hm : -9223372036854775808 ≤ a1 ∧ a1 < 9223372036854775808) (hs : a1 < 0) (h1 : 1 ≤ m) (h12 : m ≤ 12) (w : World) :
    Calls Try.prog 5 #[.int .u64 n, .int .i64 a1, .int .i64 m] w fun e w' => e = .returned (.bool true) ∧ Below w.heap.size w w' := by
  have K := Lib.hid known_any
  obtain ⟨A, x, hA, hx0, hx1, hAr⟩ := encU_parts (n + 1) n (by omega)
  obtain ⟨B, y, hB, hy0, hy1, hys, hBr⟩ := encS_parts (a1.natAbs + 1) a1 (by omega)
  have l1 := encU_10 n hn
  have l2 := encS_10 a1 hm
  rw [hA, List.length_append] at l1
  rw [hB, List.length_append] at l2
  obtain ⟨ka, hka⟩ : ∃ ka, A.length = ka := ⟨_, rfl⟩
  obtain ⟨kb, hkb⟩ : ∃ kb, B.length = kb := ⟨_, rfl⟩
  rw [hka] at l1
  rw [hkb] at l2
  change ka + 1 ≤ 10 at l1
  change kb + 1 ≤ 10 at l2
  have TU := Lib.hid (fun j => upad hn hA hx0 hAr j)
  have TS := Lib.hid (fun j => spad (f := 127) hm hB hy0 hy1 hys hBr (.inl ⟨hs, rfl⟩) j)
  have PU := Lib.hid (fun W => (putU_any n hn W).mono (fun e w' h => parted (k := ka) hA hka h))
  have PS := Lib.hid (fun W => (putS_any a1 hm W).mono (fun e w' h => parted (k := kb) hB hkb h))
  have RA := Lib.hid hAr
  have RB := Lib.hid hBr
  have KA := Lib.hid hka
  have KB := Lib.hid hkb
  clear hAr hBr hka hkb hA hB hys hn hm
  rw [KA.out] at TU
  rw [KB.out] at TS
  have z1 : ((ka : Int) + 1 == 0) = false := by rw [beq_eq_false_iff_ne]; omega
  have z2 : ((kb : Int) + 1 == 0) = false := by rw [beq_eq_false_iff_ne]; omega
  go_enter Try.func5, Try.ntmps5
  go_wp2_with fail
  refine (PU.out w).mono ?_
  rintro e w1 ⟨⟨ga, ca, rfl, oa, la0, la⟩, ba⟩
  go_wp2_with fail
  refine (PS.out w1).mono ?_
  rintro e w2 ⟨⟨gb, cb, rfl, ob, lb, lb2⟩, bb⟩
  have T := both KA.out KB.out oa la ba ob lb bb
  obtain ⟨cA, fA⟩ := T.cellA KA.out
  have T1 := T.last (y := x + 128) KA.out
  obtain ⟨cB, fB⟩ := T1.symm.cellA KB.out
  have T2 := (T1.symm.last (y := y + 128) KB.out).symm
  have TT := Lib.hid T2
  clear oa ob la ba lb lb2 bb T T1 T2 la0
  go_wp2_with fail
  clear cA fA cB fB
  go_loopw [7, 8, 10] (fun va vb i wr => Rel w wr A B x y 255 ka kb m va vb i) (fun _ _ i _ => m - (intOf i).toNat)
  case atStart => exact ⟨0, _, _, _, _, h1, by go_num, rfl, rfl, by simpa using TT.out⟩
  case round =>
    obtain ⟨j, qa, qb, ca', cb', hj, rfl, rfl, rfl, T⟩ := hrel
    have lP : ((A ++ [x + 128]) ++ List.replicate j 128).length = ka + 1 + j := by simp [KA.out]; omega
    have lQ : ((B ++ [y + 128]) ++ List.replicate j 255).length = kb + 1 + j := by simp [KB.out]; omega
    have LP := Lib.hid lP
    have LQ := Lib.hid lQ
    by_cases hlt : j + 1 < m
    · have sz1 : ((A ++ [x + 128]) ++ List.replicate j 128).length + 1 ≤ 140737488355328 := by omega
      have sz2 : ((B ++ [y + 128]) ++ List.replicate j 255).length + 1 ≤ 140737488355328 := by omega
      have nx := fun va vb w' h h1 h2 => Rel.next (w0 := w) (w' := w') (m := m) (x := x) (y := y) (fl := 255) (j := j) (va := va) (vb := vb) (A := A) (B := B) (ka := ka) (kb := kb) (by omega) h h1 h2
      have NX := Lib.hid nx
      clear nx lP lQ
      generalize (A ++ [x + 128]) ++ List.replicate j 128 = P at *
      generalize (B ++ [y + 128]) ++ List.replicate j 255 = Q at *
      have OA := Lib.hid (T.a.alloc (.cells #[.int .u8 128] 5))
      have OB := Lib.hid (one_byte wr 128 5)
      have TH := Lib.hid T
      have hz := T.bel.size
      clear T
      go_wp2_with (at_builtin; refine wp_append_at rfl (.tmp 65) (.tmp 66) rfl rfl _ _ _ rfl OA.out [128] 1 rfl rfl OB.out sz1 ?_ ?_)
      · simp; omega
      · intro v1 w3 e1 e2 e3
        obtain ⟨T1, q1, c1, rfl⟩ := TH.out.step (x := 128) LP.out e1 e2 e3
        have OA2 := Lib.hid (T1.b.alloc (.cells #[.int .u8 255] 5))
        have OB2 := Lib.hid (one_byte w3 255 5)
        have TH1 := Lib.hid T1
        have hz1 := T1.bel.size
        clear T1 e1 e2 e3
        go_wp2_with (at_builtin; refine wp_append_at rfl (.tmp 68) (.tmp 71) rfl rfl _ _ _ rfl OA2.out [255] 1 rfl rfl OB2.out sz2 ?_ ?_)
        · simp; omega
        · intro v2 w4 e1 e2 e3
          obtain ⟨T2, q2, c2, rfl⟩ := TH1.out.symm.step (x := 255) LQ.out e1 e2 e3
          have R := Lib.hid (NX.out _ _ _ T2.symm ⟨_, _, rfl⟩ ⟨_, _, rfl⟩)
          clear T2 e1 e2 e3
          go_wp2
          go_roundw
          case rel => exact R.out
          case measure => simp [intOf]; omega
    · obtain rfl : m = j + 1 := by omega
      have sz1 : ((A ++ [x + 128]) ++ List.replicate j 128).length + 1 ≤ 140737488355328 := by omega
      have sz2 : ((B ++ [y + 128]) ++ List.replicate j 255).length + 1 ≤ 140737488355328 := by omega
      have eP : ((A ++ [x + 128]) ++ List.replicate j 128) ++ [0] = padded A x 0 j := by simp [padded, nothing]
      have eQ : ((B ++ [y + 128]) ++ List.replicate j 255) ++ [127] = padded B y 127 j := by simp [padded, nothing]
      have EP := Lib.hid eP
      have EQ := Lib.hid eQ
      clear eP eQ lP lQ
      generalize (A ++ [x + 128]) ++ List.replicate j 128 = P at *
      generalize (B ++ [y + 128]) ++ List.replicate j 255 = Q at *
      have OA := Lib.hid (T.a.alloc (.cells #[.int .u8 0] 5))
      have OB := Lib.hid (one_byte wr 0 5)
      have TH := Lib.hid T
      have hz := T.bel.size
      clear T
      go_wp2_with (at_builtin; refine wp_append_at rfl (.tmp 73) (.tmp 74) rfl rfl _ _ _ rfl OA.out [0] 1 rfl rfl OB.out sz1 ?_ ?_)
      · simp; omega
      · intro v1 w3 e1 e2 e3
        obtain ⟨T1, q1, c1, rfl⟩ := TH.out.step (x := 0) LP.out e1 e2 e3
        have OA2 := Lib.hid (T1.b.alloc (.cells #[.int .u8 127] 5))
        have OB2 := Lib.hid (one_byte w3 127 5)
        have TH1 := Lib.hid T1
        have hz1 := T1.bel.size
        clear T1 e1 e2 e3
        go_wp2_with (at_builtin; refine wp_append_at rfl (.tmp 76) (.tmp 78) rfl rfl _ _ _ rfl OA2.out [127] 1 rfl rfl OB2.out sz2 ?_ ?_)
        · simp; omega
        · intro v2 w4 e1 e2 e3
          obtain ⟨T2, q2, c2, rfl⟩ := TH1.out.symm.step (x := 127) LQ.out e1 e2 e3
          rw [EP.out, EQ.out] at T2
          have la : (padded A x 0 j).length = ka + 1 + j + 1 := by rw [padded_len, KA.out]
          have lb : (padded B y 127 j).length = kb + 1 + j + 1 := by rw [padded_len, KB.out]
          have ia : IsBytes w4 q1 c1 (padded A x 0 j) := IsBytes.of_own la (by have := T2.b; rwa [la] at this)
          have ib : IsBytes w4 q2 c2 (padded B y 127 j) := IsBytes.of_own lb (by have := T2.a; rwa [lb] at this)
          have ra := pad_bytes (x := x) (f := 0) (j := j) ⟨hx0, hx1⟩ (by decide) RA.out
          have rb := pad_bytes (x := y) (f := 127) (j := j) ⟨hy0, hy1⟩ (by decide) RB.out
          have tu := TU.out j
          have ts := TS.out j
          have NA := Lib.hid (pen_new ia la (by omega) ra false)
          have NB := Lib.hid (fun W (h : Below w4.heap.size w4 W) => pen_new (ib.below h) lb (by omega) rb false)
          have C0 := Lib.hid T2.bel
          have KTU := Lib.hid tu
          have KTS := Lib.hid ts
          clear T2 e1 e2 e3 ia ib ra rb tu ts la lb
          go_wp2_with fail
          refine NA.out.mono ?_
          rintro e x1 ⟨ac, rfl, pc1, bc1⟩
          go_wp2_with fail
          refine (NB.out _ bc1).mono ?_
          rintro e x2 ⟨ad, rfl, pd3, bd1⟩
          have pc3 := pc1.below bd1
          have hB1 := C0.out.size
          have hB2 : w.heap.size ≤ x1.heap.size := Nat.le_trans hB1 bc1.size
          have C3 := Lib.hid ((C0.out.trans (bc1.mono hB1)).trans (bd1.mono hB2))
          clear pc1 bc1 bd1
          by_cases hLA : ka + 1 + j + 1 ≤ 10
          · have U1 := Lib.hid (show ulebN ((padded A x 0 j).drop 0) = ((n : Int), ka + 1 + j + 1) from by rw [List.drop_zero, KTU.out, if_pos hLA])
            by_cases hLB : kb + 1 + j + 1 ≤ 10
            · have U2 := Lib.hid (show slebN ((padded B y 127 j).drop 0) = (a1, kb + 1 + j + 1) from by rw [List.drop_zero, KTS.out, if_pos hLB])
              go_wp2_with fail
              refine (pen_uleb pc3 U1.out).mono ?_
              rintro e x4 ⟨rfl, pc4, g4⟩
              have C4 := Lib.hid (C3.out.trans (pc3.frame hB1 g4))
              have pd4 := pd3.kept g4 (.inl pc3.up)
              clear pc3 pd3 g4
              go_wp2_with fail
              refine (pen_sleb pd4 U2.out).mono ?_
              rintro e x5 ⟨rfl, pd5, g5⟩
              have C5 := Lib.hid (C4.out.trans (pd4.frame hB2 g5))
              have pc5 := pc4.kept g5 (.inr pd4.lw)
              clear pc4 pd4 g5
              go_wp2_with fail
              refine (pen_left (n := 0) pc5 (by rw [padded_len, KA.out]; omega)).mono ?_
              rintro e x6 ⟨rfl, pc6, g6⟩
              have C6 := Lib.hid (C5.out.trans (pc5.frame0 hB1 g6))
              have pd6 := pd5.same g6
              clear pc5 pd5 g6
              go_wp2_with fail
              refine (pen_err0 pc6 (by rw [decide_eq_false_iff_not]; omega)).mono ?_
              rintro e w' ⟨rfl, rfl⟩
              go_wp2_with fail
              refine (pen_left (n := 0) pd6 (by rw [padded_len, KB.out]; omega)).mono ?_
              rintro e x7 ⟨rfl, pd7, g7⟩
              have C7 := Lib.hid (C6.out.trans (pd6.frame0 hB2 g7))
              clear pd6 g7
              go_wp2_with fail
              refine (pen_err0 pd7 (by rw [decide_eq_false_iff_not]; omega)).mono ?_
              rintro e w' ⟨rfl, rfl⟩
              go_wp2_with fail
              refine (K.out _).mono ?_
              rintro e x8 ⟨rfl, bk⟩
              go_wp2
              go_ret
              exact ⟨rfl, C7.out.trans (bk.mono C7.out.size)⟩
            · have U2 := Lib.hid (show slebN ((padded B y 127 j).drop 0) = (0, 0) from by rw [List.drop_zero, KTS.out, if_neg hLB])
              go_wp2_with fail
              refine (pen_uleb pc3 U1.out).mono ?_
              rintro e x4 ⟨rfl, pc4, g4⟩
              have C4 := Lib.hid (C3.out.trans (pc3.frame hB1 g4))
              have pd4 := pd3.kept g4 (.inl pc3.up)
              clear pc3 pd3 g4
              go_wp2_with fail
              refine (pen_sleb pd4 U2.out).mono ?_
              rintro e x5 ⟨rfl, pd5, g5⟩
              have C5 := Lib.hid (C4.out.trans (pd4.frame hB2 g5))
              have pc5 := pc4.kept g5 (.inr pd4.lw)
              clear pc4 pd4 g5
              go_wp2_with fail
              refine (pen_left (n := 0) pc5 (by rw [padded_len, KA.out]; omega)).mono ?_
              rintro e x6 ⟨rfl, pc6, g6⟩
              have C6 := Lib.hid (C5.out.trans (pc5.frame0 hB1 g6))
              have pd6 := pd5.same g6
              clear pc5 pd5 g6
              go_wp2_with fail
              refine (pen_err0 pc6 (by rw [decide_eq_false_iff_not]; omega)).mono ?_
              rintro e w' ⟨rfl, rfl⟩
              have pd7 := pd6
              have C7 := Lib.hid C6.out
              clear pd6
              go_wp2_with fail
              refine (pen_err3 pd7 rfl).mono ?_
              rintro e w' ⟨rfl, rfl⟩
              go_wp2_with fail
              refine (pen_at pd7).mono ?_
              rintro e w' ⟨rfl, rfl⟩
              go_wp2_with fail
              refine (K.out _).mono ?_
              rintro e x8 ⟨rfl, bk⟩
              go_wp2
              go_ret
              exact ⟨rfl, C7.out.trans (bk.mono C7.out.size)⟩
          · have U1 := Lib.hid (show ulebN ((padded A x 0 j).drop 0) = (0, 0) from by rw [List.drop_zero, KTU.out, if_neg hLA])
            by_cases hLB : kb + 1 + j + 1 ≤ 10
            · have U2 := Lib.hid (show slebN ((padded B y 127 j).drop 0) = (a1, kb + 1 + j + 1) from by rw [List.drop_zero, KTS.out, if_pos hLB])
              go_wp2_with fail
              refine (pen_uleb pc3 U1.out).mono ?_
              rintro e x4 ⟨rfl, pc4, g4⟩
              have C4 := Lib.hid (C3.out.trans (pc3.frame hB1 g4))
              have pd4 := pd3.kept g4 (.inl pc3.up)
              clear pc3 pd3 g4
              go_wp2_with fail
              refine (pen_sleb pd4 U2.out).mono ?_
              rintro e x5 ⟨rfl, pd5, g5⟩
              have C5 := Lib.hid (C4.out.trans (pd4.frame hB2 g5))
              have pc5 := pc4.kept g5 (.inr pd4.lw)
              clear pc4 pd4 g5
              have pc6 := pc5
              have pd6 := pd5
              have C6 := Lib.hid C5.out
              clear pc5 pd5
              go_wp2_with fail
              refine (pen_err3 pc6 rfl).mono ?_
              rintro e w' ⟨rfl, rfl⟩
              go_wp2_with fail
              refine (pen_at pc6).mono ?_
              rintro e w' ⟨rfl, rfl⟩
              go_wp2_with fail
              refine (pen_left (n := 0) pd6 (by rw [padded_len, KB.out]; omega)).mono ?_
              rintro e x7 ⟨rfl, pd7, g7⟩
              have C7 := Lib.hid (C6.out.trans (pd6.frame0 hB2 g7))
              clear pd6 g7
              go_wp2_with fail
              refine (pen_err0 pd7 (by rw [decide_eq_false_iff_not]; omega)).mono ?_
              rintro e w' ⟨rfl, rfl⟩
              go_wp2_with fail
              refine (K.out _).mono ?_
              rintro e x8 ⟨rfl, bk⟩
              go_wp2
              go_ret
              exact ⟨rfl, C7.out.trans (bk.mono C7.out.size)⟩
            · have U2 := Lib.hid (show slebN ((padded B y 127 j).drop 0) = (0, 0) from by rw [List.drop_zero, KTS.out, if_neg hLB])
              go_wp2_with fail
              refine (pen_uleb pc3 U1.out).mono ?_
              rintro e x4 ⟨rfl, pc4, g4⟩
              have C4 := Lib.hid (C3.out.trans (pc3.frame hB1 g4))
              have pd4 := pd3.kept g4 (.inl pc3.up)
              clear pc3 pd3 g4
              go_wp2_with fail
              refine (pen_sleb pd4 U2.out).mono ?_
              rintro e x5 ⟨rfl, pd5, g5⟩
              have C5 := Lib.hid (C4.out.trans (pd4.frame hB2 g5))
              have pc5 := pc4.kept g5 (.inr pd4.lw)
              clear pc4 pd4 g5
              have pc6 := pc5
              have pd6 := pd5
              have C6 := Lib.hid C5.out
              clear pc5 pd5
              go_wp2_with fail
              refine (pen_err3 pc6 rfl).mono ?_
              rintro e w' ⟨rfl, rfl⟩
              go_wp2_with fail
              refine (pen_at pc6).mono ?_
              rintro e w' ⟨rfl, rfl⟩
              have pd7 := pd6
              have C7 := Lib.hid C6.out
              clear pd6
              go_wp2_with fail
              refine (pen_err3 pd7 rfl).mono ?_
              rintro e w' ⟨rfl, rfl⟩
              go_wp2_with fail
              refine (pen_at pd7).mono ?_
              rintro e w' ⟨rfl, rfl⟩
              go_wp2_with fail
              refine (K.out _).mono ?_
              rintro e x8 ⟨rfl, bk⟩
              go_wp2
              go_ret
              exact ⟨rfl, C7.out.trans (bk.mono C7.out.size)⟩

set_option maxRecDepth 20000 in
set_option maxHeartbeats 3200000 in
theorem walk_pos (n : Nat) (a1 : Int) (m : Nat) (hn : n < 18446744073709551616) (hm : -9223372036854775808 ≤ a1 ∧ a1 < 9223372036854775808) (hs : 0 ≤ a1) (h1 : 1 ≤ m) (h12 : m ≤ 12) (w : World) :
    Calls Try.prog 5 #[.int .u64 n, .int .i64 a1, .int .i64 m] w fun e w' => e = .returned (.bool true) ∧ Below w.heap.size w w' := by
  have K := Lib.hid known_any
  obtain ⟨A, x, hA, hx0, hx1, hAr⟩ := encU_parts (n + 1) n (by omega)
  obtain ⟨B, y, hB, hy0, hy1, hys, hBr⟩ := encS_parts (a1.natAbs + 1) a1 (by omega)
  have l1 := encU_10 n hn
  have l2 := encS_10 a1 hm
  rw [hA, List.length_append] at l1
  rw [hB, List.length_append] at l2
  obtain ⟨ka, hka⟩ : ∃ ka, A.length = ka := ⟨_, rfl⟩
  obtain ⟨kb, hkb⟩ : ∃ kb, B.length = kb := ⟨_, rfl⟩
  rw [hka] at l1
  rw [hkb] at l2
  change ka + 1 ≤ 10 at l1
  change kb + 1 ≤ 10 at l2
  have TU := Lib.hid (fun j => upad hn hA hx0 hAr j)
  have TS := Lib.hid (fun j => spad (f := 0) hm hB hy0 hy1 hys hBr (.inr ⟨hs, rfl⟩) j)
  have PU := Lib.hid (fun W => (putU_any n hn W).mono (fun e w' h => parted (k := ka) hA hka h))
  have PS := Lib.hid (fun W => (putS_any a1 hm W).mono (fun e w' h => parted (k := kb) hB hkb h))
  have RA := Lib.hid hAr
  have RB := Lib.hid hBr
  have KA := Lib.hid hka
  have KB := Lib.hid hkb
  clear hAr hBr hka hkb hA hB hys hn hm
  rw [KA.out] at TU
  rw [KB.out] at TS
  have z1 : ((ka : Int) + 1 == 0) = false := by rw [beq_eq_false_iff_ne]; omega
  have z2 : ((kb : Int) + 1 == 0) = false := by rw [beq_eq_false_iff_ne]; omega
  go_enter Try.func5, Try.ntmps5
  go_wp2_with fail
  refine (PU.out w).mono ?_
  rintro e w1 ⟨⟨ga, ca, rfl, oa, la0, la⟩, ba⟩
  go_wp2_with fail
  refine (PS.out w1).mono ?_
  rintro e w2 ⟨⟨gb, cb, rfl, ob, lb, lb2⟩, bb⟩
  have T := both KA.out KB.out oa la ba ob lb bb
  obtain ⟨cA, fA⟩ := T.cellA KA.out
  have T1 := T.last (y := x + 128) KA.out
  obtain ⟨cB, fB⟩ := T1.symm.cellA KB.out
  have T2 := (T1.symm.last (y := y + 128) KB.out).symm
  have TT := Lib.hid T2
  clear oa ob la ba lb lb2 bb T T1 T2 la0
  go_wp2_with fail
  clear cA fA cB fB
  go_loopw [7, 8, 10] (fun va vb i wr => Rel w wr A B x y 128 ka kb m va vb i) (fun _ _ i _ => m - (intOf i).toNat)
  case atStart => exact ⟨0, _, _, _, _, h1, by go_num, rfl, rfl, by simpa using TT.out⟩
  case round =>
    obtain ⟨j, qa, qb, ca', cb', hj, rfl, rfl, rfl, T⟩ := hrel
    have lP : ((A ++ [x + 128]) ++ List.replicate j 128).length = ka + 1 + j := by simp [KA.out]; omega
    have lQ : ((B ++ [y + 128]) ++ List.replicate j 128).length = kb + 1 + j := by simp [KB.out]; omega
    have LP := Lib.hid lP
    have LQ := Lib.hid lQ
    by_cases hlt : j + 1 < m
    · have sz1 : ((A ++ [x + 128]) ++ List.replicate j 128).length + 1 ≤ 140737488355328 := by omega
      have sz2 : ((B ++ [y + 128]) ++ List.replicate j 128).length + 1 ≤ 140737488355328 := by omega
      have nx := fun va vb w' h h1 h2 => Rel.next (w0 := w) (w' := w') (m := m) (x := x) (y := y) (fl := 128) (j := j) (va := va) (vb := vb) (A := A) (B := B) (ka := ka) (kb := kb) (by omega) h h1 h2
      have NX := Lib.hid nx
      clear nx lP lQ
      generalize (A ++ [x + 128]) ++ List.replicate j 128 = P at *
      generalize (B ++ [y + 128]) ++ List.replicate j 128 = Q at *
      have OA := Lib.hid (T.a.alloc (.cells #[.int .u8 128] 5))
      have OB := Lib.hid (one_byte wr 128 5)
      have TH := Lib.hid T
      have hz := T.bel.size
      clear T
      go_wp2_with (at_builtin; refine wp_append_at rfl (.tmp 65) (.tmp 66) rfl rfl _ _ _ rfl OA.out [128] 1 rfl rfl OB.out sz1 ?_ ?_)
      · simp; omega
      · intro v1 w3 e1 e2 e3
        obtain ⟨T1, q1, c1, rfl⟩ := TH.out.step (x := 128) LP.out e1 e2 e3
        have OA2 := Lib.hid (T1.b.alloc (.cells #[.int .u8 128] 5))
        have OB2 := Lib.hid (one_byte w3 128 5)
        have TH1 := Lib.hid T1
        have hz1 := T1.bel.size
        clear T1 e1 e2 e3
        go_wp2_with (at_builtin; refine wp_append_at rfl (.tmp 68) (.tmp 71) rfl rfl _ _ _ rfl OA2.out [128] 1 rfl rfl OB2.out sz2 ?_ ?_)
        · simp; omega
        · intro v2 w4 e1 e2 e3
          obtain ⟨T2, q2, c2, rfl⟩ := TH1.out.symm.step (x := 128) LQ.out e1 e2 e3
          have R := Lib.hid (NX.out _ _ _ T2.symm ⟨_, _, rfl⟩ ⟨_, _, rfl⟩)
          clear T2 e1 e2 e3
          go_wp2
          go_roundw
          case rel => exact R.out
          case measure => simp [intOf]; omega
    · obtain rfl : m = j + 1 := by omega
      have sz1 : ((A ++ [x + 128]) ++ List.replicate j 128).length + 1 ≤ 140737488355328 := by omega
      have sz2 : ((B ++ [y + 128]) ++ List.replicate j 128).length + 1 ≤ 140737488355328 := by omega
      have eP : ((A ++ [x + 128]) ++ List.replicate j 128) ++ [0] = padded A x 0 j := by simp [padded, nothing]
      have eQ : ((B ++ [y + 128]) ++ List.replicate j 128) ++ [0] = padded B y 0 j := by simp [padded, nothing]
      have EP := Lib.hid eP
      have EQ := Lib.hid eQ
      clear eP eQ lP lQ
      generalize (A ++ [x + 128]) ++ List.replicate j 128 = P at *
      generalize (B ++ [y + 128]) ++ List.replicate j 128 = Q at *
      have OA := Lib.hid (T.a.alloc (.cells #[.int .u8 0] 5))
      have OB := Lib.hid (one_byte wr 0 5)
      have TH := Lib.hid T
      have hz := T.bel.size
      clear T
      go_wp2_with (at_builtin; refine wp_append_at rfl (.tmp 73) (.tmp 74) rfl rfl _ _ _ rfl OA.out [0] 1 rfl rfl OB.out sz1 ?_ ?_)
      · simp; omega
      · intro v1 w3 e1 e2 e3
        obtain ⟨T1, q1, c1, rfl⟩ := TH.out.step (x := 0) LP.out e1 e2 e3
        have OA2 := Lib.hid (T1.b.alloc (.cells #[.int .u8 0] 5))
        have OB2 := Lib.hid (one_byte w3 0 5)
        have TH1 := Lib.hid T1
        have hz1 := T1.bel.size
        clear T1 e1 e2 e3
        go_wp2_with (at_builtin; refine wp_append_at rfl (.tmp 76) (.tmp 78) rfl rfl _ _ _ rfl OA2.out [0] 1 rfl rfl OB2.out sz2 ?_ ?_)
        · simp; omega
        · intro v2 w4 e1 e2 e3
          obtain ⟨T2, q2, c2, rfl⟩ := TH1.out.symm.step (x := 0) LQ.out e1 e2 e3
          rw [EP.out, EQ.out] at T2
          have la : (padded A x 0 j).length = ka + 1 + j + 1 := by rw [padded_len, KA.out]
          have lb : (padded B y 0 j).length = kb + 1 + j + 1 := by rw [padded_len, KB.out]
          have ia : IsBytes w4 q1 c1 (padded A x 0 j) := IsBytes.of_own la (by have := T2.b; rwa [la] at this)
          have ib : IsBytes w4 q2 c2 (padded B y 0 j) := IsBytes.of_own lb (by have := T2.a; rwa [lb] at this)
          have ra := pad_bytes (x := x) (f := 0) (j := j) ⟨hx0, hx1⟩ (by decide) RA.out
          have rb := pad_bytes (x := y) (f := 0) (j := j) ⟨hy0, hy1⟩ (by decide) RB.out
          have tu := TU.out j
          have ts := TS.out j
          have NA := Lib.hid (pen_new ia la (by omega) ra false)
          have NB := Lib.hid (fun W (h : Below w4.heap.size w4 W) => pen_new (ib.below h) lb (by omega) rb false)
          have C0 := Lib.hid T2.bel
          have KTU := Lib.hid tu
          have KTS := Lib.hid ts
          clear T2 e1 e2 e3 ia ib ra rb tu ts la lb
          go_wp2_with fail
          refine NA.out.mono ?_
          rintro e x1 ⟨ac, rfl, pc1, bc1⟩
          go_wp2_with fail
          refine (NB.out _ bc1).mono ?_
          rintro e x2 ⟨ad, rfl, pd3, bd1⟩
          have pc3 := pc1.below bd1
          have hB1 := C0.out.size
          have hB2 : w.heap.size ≤ x1.heap.size := Nat.le_trans hB1 bc1.size
          have C3 := Lib.hid ((C0.out.trans (bc1.mono hB1)).trans (bd1.mono hB2))
          clear pc1 bc1 bd1
          by_cases hLA : ka + 1 + j + 1 ≤ 10
          · have U1 := Lib.hid (show ulebN ((padded A x 0 j).drop 0) = ((n : Int), ka + 1 + j + 1) from by rw [List.drop_zero, KTU.out, if_pos hLA])
            by_cases hLB : kb + 1 + j + 1 ≤ 10
            · have U2 := Lib.hid (show slebN ((padded B y 0 j).drop 0) = (a1, kb + 1 + j + 1) from by rw [List.drop_zero, KTS.out, if_pos hLB])
              go_wp2_with fail
              refine (pen_uleb pc3 U1.out).mono ?_
              rintro e x4 ⟨rfl, pc4, g4⟩
              have C4 := Lib.hid (C3.out.trans (pc3.frame hB1 g4))
              have pd4 := pd3.kept g4 (.inl pc3.up)
              clear pc3 pd3 g4
              go_wp2_with fail
              refine (pen_sleb pd4 U2.out).mono ?_
              rintro e x5 ⟨rfl, pd5, g5⟩
              have C5 := Lib.hid (C4.out.trans (pd4.frame hB2 g5))
              have pc5 := pc4.kept g5 (.inr pd4.lw)
              clear pc4 pd4 g5
              go_wp2_with fail
              refine (pen_left (n := 0) pc5 (by rw [padded_len, KA.out]; omega)).mono ?_
              rintro e x6 ⟨rfl, pc6, g6⟩
              have C6 := Lib.hid (C5.out.trans (pc5.frame0 hB1 g6))
              have pd6 := pd5.same g6
              clear pc5 pd5 g6
              go_wp2_with fail
              refine (pen_err0 pc6 (by rw [decide_eq_false_iff_not]; omega)).mono ?_
              rintro e w' ⟨rfl, rfl⟩
              go_wp2_with fail
              refine (pen_left (n := 0) pd6 (by rw [padded_len, KB.out]; omega)).mono ?_
              rintro e x7 ⟨rfl, pd7, g7⟩
              have C7 := Lib.hid (C6.out.trans (pd6.frame0 hB2 g7))
              clear pd6 g7
              go_wp2_with fail
              refine (pen_err0 pd7 (by rw [decide_eq_false_iff_not]; omega)).mono ?_
              rintro e w' ⟨rfl, rfl⟩
              go_wp2_with fail
              refine (K.out _).mono ?_
              rintro e x8 ⟨rfl, bk⟩
              go_wp2
              go_ret
              exact ⟨rfl, C7.out.trans (bk.mono C7.out.size)⟩
            · have U2 := Lib.hid (show slebN ((padded B y 0 j).drop 0) = (0, 0) from by rw [List.drop_zero, KTS.out, if_neg hLB])
              go_wp2_with fail
              refine (pen_uleb pc3 U1.out).mono ?_
              rintro e x4 ⟨rfl, pc4, g4⟩
              have C4 := Lib.hid (C3.out.trans (pc3.frame hB1 g4))
              have pd4 := pd3.kept g4 (.inl pc3.up)
              clear pc3 pd3 g4
              go_wp2_with fail
              refine (pen_sleb pd4 U2.out).mono ?_
              rintro e x5 ⟨rfl, pd5, g5⟩
              have C5 := Lib.hid (C4.out.trans (pd4.frame hB2 g5))
              have pc5 := pc4.kept g5 (.inr pd4.lw)
              clear pc4 pd4 g5
              go_wp2_with fail
              refine (pen_left (n := 0) pc5 (by rw [padded_len, KA.out]; omega)).mono ?_
              rintro e x6 ⟨rfl, pc6, g6⟩
              have C6 := Lib.hid (C5.out.trans (pc5.frame0 hB1 g6))
              have pd6 := pd5.same g6
              clear pc5 pd5 g6
              go_wp2_with fail
              refine (pen_err0 pc6 (by rw [decide_eq_false_iff_not]; omega)).mono ?_
              rintro e w' ⟨rfl, rfl⟩
              have pd7 := pd6
              have C7 := Lib.hid C6.out
              clear pd6
              go_wp2_with fail
              refine (pen_err3 pd7 rfl).mono ?_
              rintro e w' ⟨rfl, rfl⟩
              go_wp2_with fail
              refine (pen_at pd7).mono ?_
              rintro e w' ⟨rfl, rfl⟩
              go_wp2_with fail
              refine (K.out _).mono ?_
              rintro e x8 ⟨rfl, bk⟩
              go_wp2
              go_ret
              exact ⟨rfl, C7.out.trans (bk.mono C7.out.size)⟩
          · have U1 := Lib.hid (show ulebN ((padded A x 0 j).drop 0) = (0, 0) from by rw [List.drop_zero, KTU.out, if_neg hLA])
            by_cases hLB : kb + 1 + j + 1 ≤ 10
            · have U2 := Lib.hid (show slebN ((padded B y 0 j).drop 0) = (a1, kb + 1 + j + 1) from by rw [List.drop_zero, KTS.out, if_pos hLB])
              go_wp2_with fail
              refine (pen_uleb pc3 U1.out).mono ?_
              rintro e x4 ⟨rfl, pc4, g4⟩
              have C4 := Lib.hid (C3.out.trans (pc3.frame hB1 g4))
              have pd4 := pd3.kept g4 (.inl pc3.up)
              clear pc3 pd3 g4
              go_wp2_with fail
              refine (pen_sleb pd4 U2.out).mono ?_
              rintro e x5 ⟨rfl, pd5, g5⟩
              have C5 := Lib.hid (C4.out.trans (pd4.frame hB2 g5))
              have pc5 := pc4.kept g5 (.inr pd4.lw)
              clear pc4 pd4 g5
              have pc6 := pc5
              have pd6 := pd5
              have C6 := Lib.hid C5.out
              clear pc5 pd5
              go_wp2_with fail
              refine (pen_err3 pc6 rfl).mono ?_
              rintro e w' ⟨rfl, rfl⟩
              go_wp2_with fail
              refine (pen_at pc6).mono ?_
              rintro e w' ⟨rfl, rfl⟩
              go_wp2_with fail
              refine (pen_left (n := 0) pd6 (by rw [padded_len, KB.out]; omega)).mono ?_
              rintro e x7 ⟨rfl, pd7, g7⟩
              have C7 := Lib.hid (C6.out.trans (pd6.frame0 hB2 g7))
              clear pd6 g7
              go_wp2_with fail
              refine (pen_err0 pd7 (by rw [decide_eq_false_iff_not]; omega)).mono ?_
              rintro e w' ⟨rfl, rfl⟩
              go_wp2_with fail
              refine (K.out _).mono ?_
              rintro e x8 ⟨rfl, bk⟩
              go_wp2
              go_ret
              exact ⟨rfl, C7.out.trans (bk.mono C7.out.size)⟩
            · have U2 := Lib.hid (show slebN ((padded B y 0 j).drop 0) = (0, 0) from by rw [List.drop_zero, KTS.out, if_neg hLB])
              go_wp2_with fail
              refine (pen_uleb pc3 U1.out).mono ?_
              rintro e x4 ⟨rfl, pc4, g4⟩
              have C4 := Lib.hid (C3.out.trans (pc3.frame hB1 g4))
              have pd4 := pd3.kept g4 (.inl pc3.up)
              clear pc3 pd3 g4
              go_wp2_with fail
              refine (pen_sleb pd4 U2.out).mono ?_
              rintro e x5 ⟨rfl, pd5, g5⟩
              have C5 := Lib.hid (C4.out.trans (pd4.frame hB2 g5))
              have pc5 := pc4.kept g5 (.inr pd4.lw)
              clear pc4 pd4 g5
              have pc6 := pc5
              have pd6 := pd5
              have C6 := Lib.hid C5.out
              clear pc5 pd5
              go_wp2_with fail
              refine (pen_err3 pc6 rfl).mono ?_
              rintro e w' ⟨rfl, rfl⟩
              go_wp2_with fail
              refine (pen_at pc6).mono ?_
              rintro e w' ⟨rfl, rfl⟩
              have pd7 := pd6
              have C7 := Lib.hid C6.out
              clear pd6
              go_wp2_with fail
              refine (pen_err3 pd7 rfl).mono ?_
              rintro e w' ⟨rfl, rfl⟩
              go_wp2_with fail
              refine (pen_at pd7).mono ?_
              rintro e w' ⟨rfl, rfl⟩
              go_wp2_with fail
              refine (K.out _).mono ?_
              rintro e x8 ⟨rfl, bk⟩
              go_wp2
              go_ret
              exact ⟨rfl, C7.out.trans (bk.mono C7.out.size)⟩

set_option maxRecDepth 20000 in
theorem walk_out (a0 a1 a2 : Int) (h : a2 < 1 ∨ 12 < a2) (w : World) :
    Calls Try.prog 5 #[.int .u64 a0, .int .i64 a1, .int .i64 a2] w fun e w' => e = .returned (.bool true) ∧ Below w.heap.size w w' := by
  have K := known_any w
  by_cases h1 : a2 < 1
  · clear h
    go_enter Try.func5, Try.ntmps5
    go_wp2_with fail
    refine K.mono ?_
    rintro e w' ⟨rfl, hb⟩
    go_wp2
    go_ret
    exact ⟨rfl, hb⟩
  · have h2 : 12 < a2 := by omega
    clear h
    go_enter Try.func5, Try.ntmps5
    go_wp2_with fail
    refine K.mono ?_
    rintro e w' ⟨rfl, hb⟩
    go_wp2
    go_ret
    exact ⟨rfl, hb⟩
theorem walk (a0 a1 a2 : Int) (w : World) (w0 : (Lit.int .u64 a0).wf = true) (w1 : (Lit.int .i64 a1).wf = true) (w2 : (Lit.int .i64 a2).wf = true) :
    Calls Try.prog 5 #[.int .u64 a0, .int .i64 a1, .int .i64 a2] w fun e w' => e = .returned (.bool true) ∧ Below w.heap.size w w' := by
  obtain ⟨n, rfl, hn⟩ := nat_u64 w0
  have hm := i64_range w1
  by_cases h : a2 < 1 ∨ 12 < a2
  · exact walk_out n a1 a2 h w
  · obtain ⟨m, rfl⟩ := Int.eq_ofNat_of_zero_le (show 0 ≤ a2 by omega)
    by_cases hs : a1 < 0
    · exact walk_neg n a1 m hn (by omega) hs (by omega) (by omega) w
    · exact walk_pos n a1 m hn (by omega) (by omega) (by omega) (by omega) w
end Go.Proofs.Ytfdbmdkjmifpaaa.lebPads
