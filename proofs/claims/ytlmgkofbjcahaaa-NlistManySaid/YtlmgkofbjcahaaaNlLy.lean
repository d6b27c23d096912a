/- Symbols laid as a table and strings: nlist.lay. Conditions: they may be, and are few. -/
import Derived.Test.YtlmgkofbjcahaaaNlTb
import Derived.Test.YtlmgkofbjcahaaaAppS
namespace Go.Proofs.Ytlmgkofbjcahaaa
open Go.RowKit
variable {w w0 w1 w2 w' : World} {base : Nat} {v v1 v2 v' va vb va' : Value} {xs ys A A' C : List Int}

theorem wp_append_sto {ops : Array Oper} {rest : List Oper} {o : Oper} {a : Act} {Q : Exit → Act → World → Prop} (hgd : o.guard = none) (s x : Operand)
    (ho : o.op = .call { callee := .builtin .append, args := #[s, x], argTypes := #[22, 9] }) (hty : o.type = 22)
    {w0 : World} {v0 v : Value} {xs : List Int} (hs : a.eval s = v) (hr : RowTo w0 w base v0 v xs) (l : List Int) (hb : Byt l) (hx : a.eval x = .string (strOfNums l))
    (h63 : xs.length + l.length ≤ 140737488355328) (hbase : base ≤ w.heap.size)
    (h : ∀ q' c' w', RowTo w0 w' base v0 (.slice q' (xs.length + l.length) c') (xs ++ l) → wpList Try.prog ops Q rest (a.put o.dst (.slice q' (xs.length + l.length) c')) w') : wpList Try.prog ops Q (o :: rest) a w := by
  refine wp_append_str hgd s x ho hty v xs.length (xs.map (Value.int .u8)) hs hr.own l hb hx h63 hbase ?_
  intro v' w' h1 h2 h3
  obtain ⟨q', c', rfl⟩ := own_slice h1
  refine h q' c' w' (hr.trans ⟨?_, h2, ?_⟩)
  · rw [List.length_append, List.map_append]
    exact h1
  · rcases h3 with h3 | h3
    · exact .inl h3
    · exact .inr ⟨_, h3, Nat.le_refl _⟩
/-- Two rows of one's own, apart. -/
structure Duo (w0 w : World) (va : Value) (A : List Int) (vb : Value) (C : List Int) : Prop where
  a : w.ownsRow w0.heap.size 5 1 va A.length (A.map (Value.int .u8))
  b : w.ownsRow w0.heap.size 5 1 vb C.length (C.map (Value.int .u8))
  ne : ∀ g, va.ownBlock = some g → vb.ownBlock ≠ some g
  grown : w0.grownBy w none
theorem Duo.symm (h : Duo w0 w va A vb C) : Duo w0 w vb C va A := ⟨h.b, h.a, fun g hg e => h.ne g e hg, h.grown⟩
theorem Duo.past (h : Duo w0 w va A vb C) (g : w.grownBy w' none) : Duo w0 w' va A vb C := ⟨own_grown h.a g, own_grown h.b g, h.ne, grown_trans h.grown g⟩
theorem Duo.step (h : Duo w0 w va A vb C) (k : RowTo w w' w0.heap.size va va' A') : Duo w0 w' va' A' vb C := by
  refine ⟨k.own, h.b.kept k.grown ?_, fun g hg e => ?_, ?_⟩
  · cases hb : vb.ownBlock with
    | none => exact .inl rfl
    | some g => exact .inr (fun e => h.ne g e.symm hb)
  · rcases k.lies with hl | ⟨b, hl, hb⟩
    · exact h.ne g (hl ▸ hg) e
    · rw [hl] at hg
      injection hg with hg
      have := (h.b.lt g e).2
      omega
  · refine ⟨k.grown.os.trans h.grown.os, k.grown.tape.trans h.grown.tape, k.grown.output.trans h.grown.output, Nat.le_trans h.grown.size k.grown.size, fun i hi _ => ?_⟩
    exact (k.grown.block i (Nat.lt_of_lt_of_le hi h.grown.size) (fun e => by have := (h.a.lt i e.symm).1; omega)).trans (h.grown.block i hi (by simp))
theorem Duo.lenA {q : Option Addr} {m c : Nat} (h : Duo w0 w (.slice q m c) A vb C) : A.length = m := RowTo.len (RowTo.refl h.a)
set_option maxRecDepth 20000 in
set_option maxHeartbeats 3200000 in
theorem lay_any {D : Syms} {q : Option Addr} {n c : Nat} (hn : D.length = n) (hD : SysAt w q D) (hfew : n ≤ 5000) (hm : ∀ y ∈ D, Byt y.1 ∧ mayS y.1 y.2 = true) :
    Calls Try.prog 27 #[.slice q n c] w fun e w' => ∃ qa ca qb cb, e = .returned (.tuple #[.slice qa (tabS D n).length ca, .slice qb (nmB D).length cb]) ∧ Duo w w' (.slice qa (tabS D n).length ca) (tabS D n) (.slice qb (nmB D).length cb) (nmB D) := by
  have HD := Lib.hid hD
  have HM := Lib.hid hm
  have HN := Lib.hid hn
  have g1 := grown1 w (.cells #[.int .u8 0] 5)
  have s1 : Duo w (w.alloc (.cells #[.int .u8 0] 5)) (.slice none 0 0) [] (.slice (some ⟨w.heap.size, 0, none⟩) 1 1) [0] := by
    refine ⟨World.ownsRow_nil _ _ _ _, ?_, fun g hg => (by cases hg), g1⟩
    exact World.ownsRow_lit w #[.int .u8 0] 1 (Nat.le_refl _) (by decide) rfl
  obtain ⟨W1, hW1⟩ : ∃ W, W = w.alloc (.cells #[.int .u8 0] 5) := ⟨_, rfl⟩
  obtain ⟨b1, hb1⟩ : ∃ b, b = w.heap.size := ⟨_, rfl⟩
  rw [← hW1, ← hb1] at s1
  have ST := Lib.hid s1
  have HW := Lib.hid hW1.symm
  have HB1 := Lib.hid hb1.symm
  have TL := Lib.hid (fun k => tabS_len D k)
  have NL := Lib.hid (fun k => (show (nmB (D.take k)).length ≤ 1280001 from by
    have := nmB_len_le (l := D.take k) (fun y hy => (mayS_is (hm y (List.mem_of_mem_take hy)).2).2.1)
    rw [List.length_take] at this
    omega))
  clear hD hm hn g1 s1 hW1 hb1
  go_enter Try.func27, Try.ntmps27
  go_upto_region 3 with fail
  rw [HW.out, HB1.out]
  clear HW HB1
  go_wp2
  go_loopw [4, 5, 11] (fun vt vn vi wr => ∃ (k : Nat) (qa : Option Addr) (ca : Nat) (qb : Option Addr) (cb : Nat), k ≤ n ∧ vi = .int .i64 (k : Int) ∧ vt = .slice qa (tabS D k).length ca ∧ vn = .slice qb (nmB (D.take k)).length cb ∧ Duo w wr (.slice qa (tabS D k).length ca) (tabS D k) (.slice qb (nmB (D.take k)).length cb) (nmB (D.take k))) (fun _ _ vi _ => n - (intOf vi).toNat)
  case atStart => exact ⟨0, none, 0, some ⟨b1, 0, none⟩, 1, Nat.zero_le _, rfl, rfl, rfl, ST.out⟩
  case round =>
    obtain ⟨k, qa, ca, qb, cb, hk, rfl, rfl, rfl, hduo⟩ := hrel
    have DU := Lib.hid hduo
    by_cases hlt : k < n
    · obtain ⟨y, hy⟩ : ∃ y, D[k]? = some y := ⟨_, List.getElem?_eq_getElem (by rw [HN.out]; exact hlt)⟩
      obtain ⟨gq, oq, rfl, a0, a1, a2, a3⟩ := (HD.out.grown hduo.grown).at hy
      have hmy := HM.out y (List.mem_of_getElem? hy)
      obtain ⟨m1, m2, m3, m4, m5⟩ := mayS_is hmy.2
      have hst : (strOfNums y.1).size = y.1.length := strOfNums_size _
      have BY := Lib.hid hmy.1
      have TT := Lib.hid (tabS_take hy)
      have NT := Lib.hid (nmB_take hy)
      have tl := TL.out k
      have nl := NL.out k
      have nl2 := NL.out (k + 1)
      rw [NT.out] at nl2
      have dl : decide ((k : Int) < (n : Int)) = true := by simp; omega
      have hkI : (k : Int) < (n : Int) := by omega
      obtain ⟨P, hP⟩ : ∃ P, P = (nmB (D.take k)).length := ⟨_, rfl⟩
      obtain ⟨Tn, hTn⟩ : ∃ T, T = (tabS D k).length := ⟨_, rfl⟩
      have g1 := grown1 wr (.cells #[.string (strOfNums y.1), .int .i64 y.2.sec, .int .u64 y.2.value, .bool y.2.weak] 32)
      have x1 := SyAt.new wr (strOfNums y.1) y.2
      have d1 := hduo.past g1
      obtain ⟨w2, hw2⟩ : ∃ W, W = wr.alloc (.cells #[.string (strOfNums y.1), .int .i64 y.2.sec, .int .u64 y.2.value, .bool y.2.weak] 32) := ⟨_, rfl⟩
      obtain ⟨X, hX⟩ : ∃ X, X = wr.heap.size := ⟨_, rfl⟩
      rw [← hw2] at g1 x1 d1
      rw [← hX] at x1
      have g2 := x1.lt
      have X1 := Lib.hid x1
      have D1 := Lib.hid d1
      have HW2 := Lib.hid hw2.symm
      have HXX := Lib.hid hX.symm
      have hbw : w.heap.size ≤ w2.heap.size := d1.grown.size
      have hoA := fun e => Nat.ne_of_lt (d1.a.lt X e).2
      have hXA : (Value.slice qa (tabS D k).length ca).ownBlock ≠ some X := fun e => by have := (hduo.a.lt X e).2; omega
      have hXB : (Value.slice qb (nmB (D.take k)).length cb).ownBlock ≠ some X := fun e => by have := (hduo.b.lt X e).2; omega
      have XA := Lib.hid hXA
      have XB := Lib.hid hXB
      have PT := Lib.hid (put_to (xs := tabS D k) rfl d1.a hbw (by omega) (strOfNums y.1) y.2 ⟨m4, m5⟩ ((nmB (D.take k)).length : Int))
      rw [← TT.out] at PT
      unfold syV syArr at PT
      rw [← hP, ← hTn] at PT
      rw [← hTn] at XA
      rw [← hP] at XB
      rw [← hP, ← hTn]
      rw [← hP, ← hTn] at D1
      rw [← hTn] at tl
      replace tl : Tn ≤ 80000 := by omega
      rw [← hP] at nl
      have HP := Lib.hid hP
      have HT := Lib.hid hTn
      clear hduo hw2 hX g1 x1 d1 hXA hXB hoA hy hmy m1 m3 hP hTn
      have hPI : (P : Int) ≤ 1280001 := by omega
      have hpw : IntKind.u64.wrap (P : Int) = P := by rw [IntKind.wrap_u64]; omega
      go_upto_region 6 with fail
      rw [HW2.out, HXX.out]
      clear a0 a1 a2 a3
      have xc := X1.out.c
      obtain ⟨b0, b1', b2, b3⟩ := xc
      go_wp2_with fail
      with_reducible refine PT.out.mono ?_
      rintro r w3 ⟨q3, c3, rfl, hr⟩
      have X3 := Lib.hid (X1.out.kept hr.grown XA.out)
      have D3 := Lib.hid (D1.out.step hr)
      have LA := Lib.hid hr.len
      have B3 := Lib.hid D3.out.grown.size
      have RB := Lib.hid (RowTo.refl D3.out.symm.a)
      have bb0 := X3.out.c.1
      have xl3 := X3.out.lt
      clear hr b0 b1' b2 b3 g2
      have HPB := Lib.hid (show (nmB (D.take k)).length + y.1.length ≤ 140737488355328 by rw [← HP.out]; omega)
      go_wp2_with (at_builtin; refine wp_append_sto rfl (.tmp 21) (.tmp 23) rfl rfl (v := .slice qb P cb) (by rfl) RB.out y.1 BY.out (by rfl) HPB.out B3.out ?_)
      intro q4 c4 w4 hr4
      rw [← HP.out] at hr4 ⊢
      have R4 := Lib.hid (RowTo.past hr4 (grown1 w4 (.cells #[.int .u8 0] 5)))
      have B4 := Lib.hid (Nat.le_trans B3.out (Nat.le_trans hr4.grown.size (grown1 w4 (.cells #[.int .u8 0] 5)).size))
      have IB := Lib.hid (one_byte w4 0)
      have L4 := Lib.hid (show (nmB (D.take k) ++ y.1).length = P + y.1.length by rw [List.length_append, ← HP.out])
      have HP4 := Lib.hid (show (nmB (D.take k) ++ y.1).length + 1 ≤ 140737488355328 by rw [L4.out]; omega)
      clear hr4
      go_wp2_with (at_builtin; refine wp_append_to rfl (.tmp 25) (.tmp 26) rfl rfl (v := .slice q4 (P + y.1.length) c4) (by rfl) R4.out [0] 1 rfl rfl IB.out HP4.out B4.out ?_)
      intro q5 c5 w5 hr5
      rw [← HP.out, ← NT.out] at hr5
      rw [← HP.out]
      have R5 := Lib.hid hr5
      have L5 := Lib.hid hr5.len
      have D5 := D3.out.symm.step hr5
      have DD := Lib.hid D5.symm
      clear hr5 D5
      go_wp2
      go_roundw
      case rel => exact ⟨k + 1, q3, c3, q5, c5, hlt, by simp, by rw [LA.out], by rw [L5.out], by rw [LA.out, L5.out]; exact DD.out⟩
      case measure => simp [intOf]; omega
    · have hkn : k = n := by omega
      subst hkn
      have dl : decide ((k : Int) < (k : Int)) = false := by simp
      have htk : nmB (D.take k) = nmB D := by rw [← HN.out, List.take_length]
      have DF := Lib.hid hduo
      rw [htk] at DF ⊢
      clear hduo htk
      obtain ⟨P, hP⟩ : ∃ P, P = (nmB D).length := ⟨_, rfl⟩
      obtain ⟨T, hT⟩ : ∃ T, T = (tabS D k).length := ⟨_, rfl⟩
      rw [← hP, ← hT]
      have HP := Lib.hid hP
      have HT := Lib.hid hT
      clear hP hT
      go_wp2
      go_ret2
      obtain rfl := HP.out
      obtain rfl := HT.out
      exact ⟨qa, ca, qb, cb, rfl, DF.out⟩
end Go.Proofs.Ytlmgkofbjcahaaa
