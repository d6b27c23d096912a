/- The node at a place of bytes: trie.nodeAt. No condition but that the bytes lie in memory. -/
import Derived.Test.YtblfighfahffkaaTrT
import Derived.Deep.Onto
namespace Go.Proofs.Ytblfighfahffkaa
open Go.RowKit
variable {w w' W : World} {xs : List Int}

theorem cut_hi {T k : Nat} (ht : Try.prog.underlying T = some (.slice (Try.prog.elem T))) (hs : ∀ W, (sizeOf (Try.prog.elem T)).run Try.prog W = .ok k W) (b o n c h : Nat) (kh : IntKind) (hh : h ≤ c) (W : World) :
    (Instr.slice T (.slice (some ⟨b, o, none⟩) n c) none (some (.int kh (h : Int))) none).run Try.prog W = .ok (.slice (some ⟨b, o, none⟩) h c) W := by
  rw [run_slice_h (P := Try.prog) W T (some ⟨b, o, none⟩) n c ht kh (h : Int) (by omega) (by omega), hs]
  simp only [Result.andThen, sliced]
  rw [show ((h : Int)).toNat = h by omega]
  split
  · simp
  · simp only [Option.map_some, add_flat, Nat.zero_mul, Nat.add_zero, Nat.sub_zero]
structure NaOut (w w' : World) (xs : List Int) (p : Int) (nm : ByteArray) (e : Ending) : Prop where
  ex : (∃ nd v, ndAt xs p = some nd ∧ e = .returned (.tuple #[nodeV nd.ex.isSome (nmOf nm nd.ex) (exOf nd.ex) v, .bool true]) ∧ w'.ownsRow w.heap.size 92 2 v nd.kids.length (nd.kids.flatMap kidCs)) ∨
    (ndAt xs p = none ∧ e = .returned (.tuple #[nodeV false ⟨#[]⟩ Ex.zero (.slice none 0 0), .bool false]))
  grown : w.grownBy w' none
theorem ndAt_yes {p n : Nat} {nd : Nd} (hp : p < xs.length) (h : nodeP (xs.drop p) = some (nd, n)) : ndAt xs p = some nd := by
  unfold ndAt
  rw [if_pos ⟨by omega, by omega⟩, Int.toNat_natCast, h]
  rfl
theorem ndAt_no {p : Nat} (h : nodeP (xs.drop p) = none) : ndAt xs p = none := by
  unfold ndAt
  split
  · rw [Int.toNat_natCast, h]; rfl
  · rfl

set_option maxRecDepth 20000 in
set_option maxHeartbeats 3200000 in
theorem nodeAt_any {b o c : Nat} (hx : ∀ i, i < xs.length → w.cell? ⟨b, o + i, none⟩ = some (.int .u8 (xs.getD i 0))) (hc : xs.length ≤ c) (hcm : c ≤ 9223372036854775807) (hbig : xs.length ≤ 140737488355328) (hr : Byt xs) (p : Int) (hp0 : 0 ≤ p) (hp1 : p < 18446744073709551616) (nm : ByteArray) :
    Calls Try.prog 44 #[.slice (some ⟨b, o, none⟩) xs.length c, .int .u64 p, .string nm] w fun e w' => NaOut w w' xs p nm e := by
  have g1 := grown1 w (.cells #[.bool false, .string ⟨#[]⟩, .int .i64 0, .bool false, .int .u64 0, .int .u64 0, .int .u64 0, .string ⟨#[]⟩, .slice none 0 0] 53)
  have r1 : NodeAt (w.alloc (.cells #[.bool false, .string ⟨#[]⟩, .int .i64 0, .bool false, .int .u64 0, .int .u64 0, .int .u64 0, .string ⟨#[]⟩, .slice none 0 0] 53)) w.heap.size false ⟨#[]⟩ Ex.zero (.slice none 0 0) := heap_alloc_new w _
  have HX := Lib.hid (fun i hi => grown_cell g1 (hx i hi))
  obtain ⟨w1, hw1⟩ : ∃ w1, w.alloc (.cells #[.bool false, .string ⟨#[]⟩, .int .i64 0, .bool false, .int .u64 0, .int .u64 0, .int .u64 0, .string ⟨#[]⟩, .slice none 0 0] 53) = w1 := ⟨_, rfl⟩
  obtain ⟨g0, hg0⟩ : ∃ g0, w.heap.size = g0 := ⟨_, rfl⟩
  rw [hw1] at g1 r1 HX
  rw [hg0] at r1
  have HW1 := Lib.hid hw1
  have HG0 := Lib.hid hg0
  have HG0' := Lib.hid hg0
  have G1 := Lib.hid g1
  have R1 := Lib.hid r1
  clear g1 r1 hw1 hg0 hx
  by_cases hp : p < xs.length
  · obtain ⟨p, rfl⟩ := Int.eq_ofNat_of_zero_le hp0
    have hpn : p < xs.length := by omega
    obtain ⟨V, hV, hB, hV2⟩ := cut_bytes (p := p) HX.out hc (by omega) .u64
    obtain rfl := hV2 hpn
    have IB := Lib.hid hB
    have RE := Lib.hid (show Byt (xs.drop p) from hr.drop p)
    have YES := Lib.hid (fun nd n (h : nodeP (xs.drop p) = some (nd, n)) => ndAt_yes hpn h)
    have NO := Lib.hid (fun (h : nodeP (xs.drop p) = none) => ndAt_no h)
    have hlen : (xs.drop p).length = xs.length - p := by simp
    obtain ⟨R, hR⟩ : ∃ R, R = xs.drop p := ⟨_, rfl⟩
    rw [← hR] at IB RE YES NO hlen
    obtain ⟨L, hL⟩ : ∃ L, L = xs.length - p := ⟨_, rfl⟩
    rw [← hL] at hlen hV
    obtain ⟨C, hC⟩ : ∃ C, C = c - p := ⟨_, rfl⟩
    rw [← hC] at hV IB
    have LL := Lib.hid hlen
    have hLC : L ≤ C := by omega
    have hL47 : L ≤ 140737488355328 := by omega
    have hC63 : C ≤ 9223372036854775807 := by omega
    obtain ⟨o', ho'⟩ : ∃ o', o' = o + p := ⟨_, rfl⟩
    rw [← ho'] at hV IB
    have CH := Lib.hid (fun h (hh : h ≤ C) => cut_hi (T := 22) (k := 1) (by kernel_rfl) (fun W => by kernel_rfl) b o' L C h .i64 hh)
    have dp : decide ((xs.length : Int) ≤ (p : Int)) = false := by simp; omega
    have dpn : decide (xs.length ≤ p) = false := by simp; omega
    clear hR hL hC ho' hB hlen hr hp hp0
    have hxl : xs.length ≤ 140737488355328 := hbig
    go_enter Try.func44, Try.ntmps44
    go_upto_region 1 with fail
    rw [HW1.out, HG0.out]
    clear HW1 HG0
    go_wp2_with fail
    go_loopw [9] (fun i wr => ∃ z : Nat, i = .int .i64 z ∧ 128 ≤ z ∧ (z = 128 ∨ z < 2 * L) ∧ NodeAt wr g0 false ⟨#[]⟩ Ex.zero (.slice none 0 0) ∧ w1.grownBy wr none) (fun i _ => 2 * L + 128 - (intOf i).toNat)
    case atStart => exact ⟨128, rfl, Nat.le_refl _, .inl rfl, R1.out, grown_refl _ _⟩
    case round =>
      obtain ⟨z, rfl, hz, hz2, hN, hg⟩ := hrel
      have GR := Lib.hid hg
      have NR := Lib.hid hN
      have IBr := Lib.hid ((IB.out.kept hg (by simp)))
      clear hg hN
      obtain ⟨m, hm⟩ : ∃ m : Nat, min (z : Int) (L : Int) = (m : Int) := ⟨min z L, by omega⟩
      have hmL : m ≤ L := by omega
      have hmz : m = z ∨ m = L := by omega
      have HM := Lib.hid hmz
      have CZ := CH.out m (by omega)
      have PN := Lib.hid (pen_new (w := wr) (IBr.out.take (c' := C) m (fun e => by cases e)) (n := m) (by rw [List.length_take, LL.out]; omega) (by omega) (RE.out.take m) false)
      clear hmz
      go_wp2_with fail
      refine PN.out.mono ?_
      rintro e w2 ⟨gc, rfl, hpn2, hb2⟩
      have P2 := Lib.hid (show PenS w2 wr.heap.size w2.heap.size gc (R.take m) (0, false) false from hpn2)
      have G2 := Lib.hid (grown_trans GR.out (grown_below hb2 none))
      have N2 := Lib.hid (NR.out.kept (grown_below hb2 none) (by simp))
      have B2 := Lib.hid (show wr.heap.size ≤ gc from hpn2.lw)
      clear hpn2 hb2 CZ PN NR
      go_wp2_with fail
      refine (taken_any P2.out nm (RE.out.take m)).mono ?_
      rintro e w3 ⟨⟨nd, v, s', rfl, hp3, hs3, ho3⟩, hg3⟩
      obtain ⟨q, c2, rfl⟩ := own_slice ho3
      have G3 := Lib.hid (grown_new G2.out hg3 (Nat.le_trans GR.out.size B2.out))
      have hne : (some gc : Option Nat) ≠ some g0 := by intro e; injection e with e; have := R1.out.lt; have := GR.out.size; have := B2.out; omega
      have N3 := Lib.hid (N2.out.kept hg3 hne)
      have SZ3 := Lib.hid (show w1.heap.size ≤ w2.heap.size from G2.out.size)
      have SM := Lib.hid hs3
      have P3 := Lib.hid hp3
      have O3 := Lib.hid ho3
      clear hg3 hne hp3 hs3 ho3 N2 P2 G2
      obtain ⟨bn, hbn⟩ : ∃ z, z = nd.ex.isSome := ⟨_, rfl⟩
      obtain ⟨nn, hnn⟩ : ∃ z, z = nmOf nm nd.ex := ⟨_, rfl⟩
      obtain ⟨xn, hxn⟩ : ∃ z, z = exOf nd.ex := ⟨_, rfl⟩
      obtain ⟨kn, hkn⟩ : ∃ z, z = nd.kids.length := ⟨_, rfl⟩
      have EQ := Lib.hid (And.intro hbn (And.intro hnn (And.intro hxn hkn)))
      rw [← hbn, ← hnn, ← hxn, ← hkn]
      clear hbn hnn hxn hkn
      unfold nodeV
      have g4 := grown1 w3 (.cells #[.bool bn, .string nn, .int .i64 xn.kind, .bool xn.weak, .int .u64 xn.value, .int .u64 xn.resolver, .int .u64 xn.ordinal, .string (strOfNums xn.other), .slice q kn c2] 53)
      have M4 := Lib.hid (show NodeAt (w3.alloc (.cells #[.bool bn, .string nn, .int .i64 xn.kind, .bool xn.weak, .int .u64 xn.value, .int .u64 xn.resolver, .int .u64 xn.ordinal, .string (strOfNums xn.other), .slice q kn c2] 53)) w3.heap.size bn nn xn (.slice q kn c2) from heap_alloc_new w3 _)
      have P4 := Lib.hid (Pen.same P3.out g4)
      have N4 := Lib.hid (N3.out.kept g4 (by simp))
      have O4 := Lib.hid (own_grown O3.out g4)
      have G4 := Lib.hid (grown_trans G3.out g4)
      have NE4 := Lib.hid (show w3.heap.size ≠ g0 from fun e => by have := N3.out.lt; omega)
      obtain ⟨w4, hw4⟩ : ∃ w4, w3.alloc (.cells #[.bool bn, .string nn, .int .i64 xn.kind, .bool xn.weak, .int .u64 xn.value, .int .u64 xn.resolver, .int .u64 xn.ordinal, .string (strOfNums xn.other), .slice q kn c2] 53) = w4 := ⟨_, rfl⟩
      obtain ⟨gn, hgn⟩ : ∃ gn, w3.heap.size = gn := ⟨_, rfl⟩
      rw [hw4] at M4 P4 N4 O4 G4
      rw [hgn] at M4 NE4
      have HW4 := Lib.hid hw4
      have HGN := Lib.hid hgn
      clear g4 hw4 hgn N3 O3 G3 P3
      go_upto_region 9 with fail
      rw [HW4.out, HGN.out]
      clear HW4 HGN
      obtain ⟨ps, bd⟩ := s'
      have PE := Lib.hid (pen_err P4.out)
      obtain ⟨d0, d1, d2, d3, d4, d5, d6, d7, d8⟩ := N4.out.c
      obtain ⟨c0, c1, c2', c3, c4, c5, c6, c7, c8⟩ := M4.out.c
      have df := N4.out.fz
      have dl := N4.out.lt
      have ml := M4.out.lt
      cases bd with
      | false =>
        have SY := Lib.hid (YES.out nd _ (by have := (SM.out.ok rfl).2; rw [List.drop_zero] at this; exact (loc_front loc_node this).1))
        go_wp2_with fail
        refine PE.out.mono ?_
        rintro e w5 ⟨rfl, rfl⟩
        go_wp2
        refine bodyPost_ret (results_node2 rfl rfl rfl (N4.out.put bn nn xn (.slice q kn c2))) rfl ?_
        have GP := fun W : World => grown_put9 (grown_refl W (some g0)) (.bool bn) (.string nn) (.int .i64 xn.kind) (.bool xn.weak) (.int .u64 xn.value) (.int .u64 xn.resolver) (.int .u64 xn.ordinal) (.string (strOfNums xn.other)) (.slice q kn c2)
        have EO := EQ.out
        refine ⟨.inl ⟨nd, .slice q kn c2, SY.out, by rw [← EO.1, ← EO.2.1, ← EO.2.2.1]; rfl, ?_⟩, grown_new (grown_trans G1.out G4.out) (GP _) (by have := HG0'.out; omega)⟩
        have o5 := (O4.out.kept (GP _) (.inr (own_ne O4.out N4.out (by decide))))
        rw [← EO.2.2.2] at o5 ⊢
        exact o5.mono (by have := SZ3.out; have := G1.out.size; omega)
      | true =>
        by_cases hmL2 : m = L
        · have SN := Lib.hid (NO.out (by
            have := SM.out.no rfl rfl
            rw [List.drop_zero, hmL2, List.take_of_length_le (by rw [LL.out]; exact Nat.le_refl _)] at this
            exact this))
          have dm : ((m : Int) == (L : Int)) = true := by rw [hmL2]; simp
          have dm2 : (m == L) = true := by rw [hmL2]; simp
          clear hmL2
          go_wp2_with fail
          refine PE.out.mono ?_
          rintro e w5 ⟨rfl, rfl⟩
          go_wp2
          refine bodyPost_ret (results_node2 rfl rfl rfl (N4.out.put false ⟨#[]⟩ Ex.zero (.slice none 0 0))) rfl ?_
          have GP := fun W : World => grown_put9 (grown_refl W (some g0)) (.bool false) (.string ⟨#[]⟩) (.int .i64 Ex.zero.kind) (.bool Ex.zero.weak) (.int .u64 Ex.zero.value) (.int .u64 Ex.zero.resolver) (.int .u64 Ex.zero.ordinal) (.string (strOfNums Ex.zero.other)) (.slice none 0 0)
          exact ⟨.inr ⟨SN.out, rfl⟩, grown_new (grown_trans G1.out G4.out) (GP _) (by have := HG0'.out; omega)⟩
        · have dm : ((m : Int) == (L : Int)) = false := by rw [beq_eq_false_iff_ne]; omega
          have dm2 : (m == L) = false := by rw [beq_eq_false_iff_ne]; omega
          have hmz := HM.out
          obtain rfl : m = z := by omega
          go_wp2_with fail
          refine PE.out.mono ?_
          rintro e w5 ⟨rfl, rfl⟩
          go_wp2
          go_roundw
          case rel => exact ⟨2 * m, by go_num, by omega, .inr (by omega), N4.out, G4.out⟩
          case measure => simp [intOf]; omega
  · have NX := Lib.hid (show ndAt xs p = none by unfold ndAt; rw [if_neg (by omega)])
    have dp : decide ((xs.length : Int) ≤ p) = true := by simp; omega
    obtain ⟨d0, d1, d2, d3, d4, d5, d6, d7, d8⟩ := R1.out.c
    have df := R1.out.fz
    have dl := R1.out.lt
    clear hp
    go_enter Try.func44, Try.ntmps44
    go_upto_region 1 with fail
    rw [HW1.out, HG0.out]
    clear HW1 HG0
    go_wp2
    refine bodyPost_ret (results_node2 rfl rfl rfl (R1.out.put false ⟨#[]⟩ Ex.zero (.slice none 0 0))) rfl ?_
    have GP := fun W : World => grown_put9 (grown_refl W (some g0)) (.bool false) (.string ⟨#[]⟩) (.int .i64 Ex.zero.kind) (.bool Ex.zero.weak) (.int .u64 Ex.zero.value) (.int .u64 Ex.zero.resolver) (.int .u64 Ex.zero.ordinal) (.string (strOfNums Ex.zero.other)) (.slice none 0 0)
    exact ⟨.inr ⟨NX.out, rfl⟩, grown_new G1.out (GP _) (by have := HG0'.out; omega)⟩
end Go.Proofs.Ytblfighfahffkaa
