/- The walk of NlistReads: all symbols of a table, and one name's, are the document's. -/
import Derived.Test.YtlmgkofbjcahaaaNlFd
import Derived.Test.YtlmgkofbjcahaaaNlS
import Derived.BigRegion
namespace Go.Proofs.Ytlmgkofbjcahaaa.nlistReads
open Go.RowKit
theorem row_cap {w : World} {k : IntKind} {a : Option Addr} {len cap : Nat} {z : List Int} (h : IsRow k w a len cap z) : len ≤ cap ∧ cap ≤ 9223372036854775807 := by
  rcases h with ⟨_, rfl, rfl, _⟩ | ⟨_, _, h1, h2, _⟩
  · omega
  · unfold maxLen at h2; omega
theorem has_take {D : Syms} {s : List Int} {k : Nat} {d : Sym} (hd : D[k]? = some d) : nlHas (D.take (k + 1)) s = (nlHas (D.take k) s || decide (d.1 = s)) := by
  obtain ⟨hk, rfl⟩ := List.getElem?_eq_some_iff.1 hd
  unfold nlHas
  rw [List.take_succ_eq_append_getElem hk, List.any_append]
  simp
theorem has_part {D : Syms} {s : List Int} {k : Nat} (h : nlHas (D.take k) s = true) : nlHas D s = true := by
  obtain ⟨y, hy, e⟩ := nlHas_mem.1 h
  exact nlHas_mem.2 ⟨y, List.mem_of_mem_take hy, e⟩
theorem one_of {D : Syms} (h : D.Pairwise fun a b => a.1 ≠ b.1) {x y : Sym} (hx : x ∈ D) (hy : y ∈ D) (e : x.1 = y.1) : x = y := by
  obtain ⟨i, hi, rfl⟩ := List.getElem_of_mem hx
  obtain ⟨j, hj, rfl⟩ := List.getElem_of_mem hy
  rcases Nat.lt_trichotomy i j with h1 | h1 | h1
  · exact absurd e (List.pairwise_iff_getElem.1 h i j hi hj h1)
  · subst h1; rfl
  · exact absurd e.symm (List.pairwise_iff_getElem.1 h j i hj hi h1)
/-- Where the loop over what is told stands. -/
structure RdL (w0 wr : World) (X : Nat) (y : Sym) (D : Syms) (s : List Int) (vf vi : Value) : Prop where
  ex : ∃ k : Nat, k ≤ D.length ∧ vi = .int .i64 (k : Int) ∧ vf = .bool (nlHas (D.take k) s)
  grown : w0.grownBy wr none
set_option maxHeartbeats 6400000 in
set_option maxRecDepth 20000 in
theorem walk (a0 : Option Addr) (len0 cap0 : Nat) (z0 : List Int) (a1 : Option Addr) (len1 cap1 : Nat) (z1 : List Int) (n : Int) (s : List Int) (w : World) (w0 : IsRow .u8 w a0 len0 cap0 z0) (w1 : IsRow .u8 w a1 len1 cap1 z1) (hs : Byt s) (hsm : s.length ≤ 9223372036854775807) :
    Calls Try.prog 3 #[.slice a0 len0 cap0, .slice a1 len1 cap1, .int .i64 n, .string (strOfNums s)] w fun e w' => e = .returned (.bool true) ∧ Below w.heap.size w w' := by
  have hcap0 := row_cap w0
  have hcap1 := row_cap w1
  obtain ⟨t, rfl, ht, hb, _⟩ := w0.bytes
  obtain ⟨ys, rfl, hy, hb2, _⟩ := w1.bytes
  have K := Lib.hid (fun w : World => known10_any w)
  have BL := Lib.hid (fun (w' : World) (h : w.grownBy w' none) => (below_grown h (Nat.le_refl _) (fun k e => by cases e) : Below w.heap.size w w'))
  have hst : (strOfNums s).size = s.length := strOfNums_size _
  by_cases h50 : 5000 < t.length ∨ 5000 < ys.length ∨ 300 < s.length
  · obtain ⟨d0, hd0⟩ : ∃ d, d = decide ((5000 : Int) < t.length) := ⟨_, rfl⟩
    obtain ⟨d1, hd1⟩ : ∃ d, d = decide ((5000 : Int) < ys.length) := ⟨_, rfl⟩
    obtain ⟨d2, hd2⟩ : ∃ d, d = decide ((300 : Int) < s.length) := ⟨_, rfl⟩
    have hor : (d0 || d1 || d2) = true := by rw [hd0, hd1, hd2]; simp; omega
    have q0 := hd0.symm
    have q1 := hd1.symm
    have q2 := hd2.symm
    clear w0 w1 hb hb2 ht hy hs hsm hcap0 hcap1 h50 hd0 hd1 hd2
    cases d0 <;> cases d1 <;> cases d2 <;> first | (cases hor; done) | (
      go_enter Try.func3, Try.ntmps3
      go_wp2_with fail
      refine (K.out _).mono ?_
      rintro e w' ⟨rfl, hg⟩
      have B := Lib.hid (BL.out _ hg)
      clear hg
      go_wp2
      go_ret
      exact ⟨rfl, B.out⟩)
  have q0 : decide ((5000 : Int) < t.length) = false := by simp; omega
  have q1 : decide ((5000 : Int) < ys.length) = false := by simp; omega
  have q2 : decide ((300 : Int) < s.length) = false := by simp; omega
  have hL : t.length ≤ 5000 := by omega
  have hN : ys.length ≤ 5000 := by omega
  have HB := Lib.hid hb
  have HB2 := Lib.hid hb2
  have HT := Lib.hid ht
  have HY := Lib.hid hy
  have HS := Lib.hid hs
  have HC0 := Lib.hid hcap0
  have HC1 := Lib.hid hcap1
  clear w0 w1 hb hb2 ht hy hs hsm hcap0 hcap1 h50
  go_enter Try.func3, Try.ntmps3
  go_wp2_with (at_builtin; refine wp_append_bytes rfl (.const (.slice none 0 0)) (.tmp 34) rfl rfl _ _ _ rfl (World.ownsRow_nil w w.heap.size 5 1) t t.length rfl rfl HB.out ?_ ?_ ?_)
  · omega
  · exact Nat.le_refl _
  intro v1 x1 h1 hg1
  try rw [Nat.zero_add] at h1
  try rw [List.nil_append] at h1
  obtain ⟨p1, c1, rfl⟩ := own_slice h1
  have G1 := Lib.hid (show w.grownBy x1 none from hg1)
  have I1 := Lib.hid (IsBytes.of_own rfl h1)
  have C1 := Lib.hid (own_cap h1)
  clear h1 hg1
  go_wp2_with (at_builtin; refine wp_append_bytes rfl (.const (.slice none 0 0)) (.tmp 36) rfl rfl _ _ _ rfl (World.ownsRow_nil x1 x1.heap.size 5 1) ys ys.length rfl rfl (HB2.out.kept G1.out (by simp)) ?_ ?_ ?_)
  · omega
  · exact Nat.le_refl _
  intro v2 x2 h2 hg2
  try rw [Nat.zero_add] at h2
  try rw [List.nil_append] at h2
  obtain ⟨p2, c2, rfl⟩ := own_slice h2
  have G2 := Lib.hid (grown_trans G1.out (show x1.grownBy x2 none from hg2))
  have J1 := Lib.hid (I1.out.kept (show x1.grownBy x2 none from hg2) (by simp))
  have J2 := Lib.hid (IsBytes.of_own rfl h2)
  have C2 := Lib.hid (own_cap h2)
  clear h2 hg2 I1
  have AL := Lib.hid (allP_any (n := n) J1.out rfl (by omega) C1.out.1 C1.out.2 HT.out J2.out rfl (by omega) HY.out)
  have RA := Lib.hid (fun (W : World) (h : w.grownBy W none) => all10_any (w := W) (n := n) (HB.out.kept h (by simp)) rfl (by omega) HC0.out.1 HC0.out.2 HT.out (HB2.out.kept h (by simp)) rfl (by omega) HC1.out.1 HY.out)
  have FD := Lib.hid (fun (W : World) (h : x2.grownBy W none) => Find10_any (w := W) (n := n) (J1.out.kept h (by simp)) rfl (by omega) C1.out.1 C1.out.2 HT.out (J2.out.kept h (by simp)) rfl (by omega) HY.out HS.out)
  have OK := Lib.hid (nlAll_ok (n := n) HT.out HY.out)
  generalize nlAll t ys n = R at *
  obtain ⟨E, D⟩ := R
  simp only [] at OK
  have hfew := OK.out.few
  go_wp2_with fail
  refine AL.out.mono ?_
  rintro r x3 ⟨⟨qa, ca, rfl, hsa, -, -⟩, hbel⟩
  have g3 := grown_below hbel none
  have G3 := Lib.hid (grown_trans G2.out g3)
  have GO3 := Lib.hid g3
  have S3 := Lib.hid hsa
  clear hsa hbel g3 AL
  go_wp2_with fail
  refine (RA.out x3 G3.out).mono ?_
  rintro r x4 ⟨⟨qb, cb, rfl, hsb, hlb, -⟩, hbel⟩
  have g4 := grown_below hbel none
  have G4 := Lib.hid (grown_trans G3.out g4)
  have GO4 := Lib.hid (grown_trans GO3.out g4)
  have S4 := Lib.hid (S3.out.grown g4)
  have U4 := Lib.hid hsb
  clear hsb hbel g4 RA S3
  simp only []
  go_wp2_with fail
  refine (FD.out x4 GO4.out).mono ?_
  rintro r x5 ⟨⟨y, rfl, hy1, hy2⟩, hg⟩
  have G5 := Lib.hid (grown_trans G4.out hg)
  have GO5 := Lib.hid (grown_trans GO4.out hg)
  have S5 := Lib.hid (S4.out.grown hg)
  have U5 := Lib.hid (U4.out.grown hg)
  have HY1 := Lib.hid hy1
  have HY2 := Lib.hid hy2
  clear hg hy1 hy2 FD S4 U4
  simp only [] at HY1 HY2 ⊢
  have g6 := grown1 x5 (.cells #[.string (strOfNums y.1), .int .i64 y.2.sec, .int .u64 y.2.value, .bool y.2.weak] 32)
  have X6 := Lib.hid (SyAt.new x5 (strOfNums y.1) y.2)
  obtain ⟨x6, hx6⟩ : ∃ W, W = x5.alloc (.cells #[.string (strOfNums y.1), .int .i64 y.2.sec, .int .u64 y.2.value, .bool y.2.weak] 32) := ⟨_, rfl⟩
  obtain ⟨X, hX⟩ : ∃ X, X = x5.heap.size := ⟨_, rfl⟩
  rw [← hx6] at g6 X6
  rw [← hX] at X6
  have G6 := Lib.hid (grown_trans G5.out g6)
  have GO6 := Lib.hid (grown_trans GO5.out g6)
  have S6 := Lib.hid (S5.out.grown g6)
  have U6 := Lib.hid (U5.out.grown g6)
  have HX6 := Lib.hid hx6.symm
  have HXX := Lib.hid hX.symm
  clear g6 hx6 hX S5 U5
  obtain ⟨is, his⟩ : ∃ b, b = nlHas D s := ⟨_, rfl⟩
  rw [← his] at HY1 HY2 ⊢
  have HIS := Lib.hid his
  clear his
  unfold syV syArr
  go_upto_region 7 with fail
  rw [HX6.out, HXX.out]
  clear HX6 HXX
  have cv1 := (J1.out.kept GO6.out (by simp)).text rfl
  have cv2 := (J2.out.kept GO6.out (by simp)).text rfl
  have cv3 := (HB.out.kept G6.out (by simp)).text rfl
  have cv4 := (HB2.out.kept G6.out (by simp)).text rfl
  have SM := Lib.hid (same10_any D D.length rfl qa qb ca cb (by omega) S6.out U6.out)
  obtain ⟨L, hLL⟩ : ∃ L, L = D.length := ⟨_, rfl⟩
  rw [← hLL] at SM hfew hlb ⊢
  have HL := Lib.hid hLL
  clear hLL
  go_wp2_with fail
  refine SM.out.mono ?_
  rintro r x7 ⟨rfl, hg⟩
  have G7 := Lib.hid (grown_trans G6.out hg)
  have U7 := Lib.hid (U6.out.grown hg)
  have X7 := Lib.hid (X6.out.kept hg (by simp))
  clear hg cv1 cv2 cv3 cv4 U6 X6 S6 SM
  have ST := Lib.hid (show RdL x7 x7 X y D s (.bool false) (.int .i64 0) from ⟨⟨0, Nat.zero_le _, rfl, rfl⟩, grown_refl _ _⟩)
  go_wp2
  go_loopw [18, 19] (fun vf vi wr => RdL x7 wr X y D s vf vi) (fun _ vi _ => L - (intOf vi).toNat)
  case atStart => exact ST.out
  case round =>
    obtain ⟨⟨k, hk, rfl, rfl⟩, hg⟩ := hrel
    have G := Lib.hid hg
    by_cases hlt : k < L
    · obtain ⟨d, hd⟩ : ∃ d, D[k]? = some d := ⟨_, List.getElem?_eq_getElem (by rw [← HL.out]; exact hlt)⟩
      have hm := List.mem_of_getElem? hd
      obtain ⟨gq, oq, rfl, a0, a1, a2, a3⟩ := (U7.out.grown hg).at hd
      have ee := text_same (OK.each d hm).1 HS.out
      have dl : decide ((k : Int) < (L : Int)) = true := by simp; omega
      have dl2 : decide (k < L) = true := by simp; omega
      have hkI : (k : Int) < (L : Int) := by omega
      have HTK := has_take (s := s) hd
      obtain ⟨fl, hfl⟩ : ∃ b, b = nlHas (D.take k) s := ⟨_, rfl⟩
      rw [← hfl] at HTK ⊢
      have HKT := Lib.hid HTK
      by_cases hds : d.1 = s
      · rw [decide_eq_true hds] at ee HTK
        have hist : is = true := by rw [HIS.out]; exact nlHas_mem.2 ⟨d, hm, hds⟩
        obtain ⟨hym, hys⟩ := HY1.out hist
        obtain rfl : d = y := one_of OK.apart hm hym (by rw [hds, hys])
        have NW := Lib.hid (fun j => (⟨⟨k + 1, by rw [← HL.out]; exact hlt, by simp, by rw [HTK, Bool.or_true]⟩, grown_drewN G.out j⟩ : RdL x7 (wr.drewN j) X d D s (.bool true) (.int .i64 ((k : Int) + 1))))
        obtain ⟨b0, b1, b2, b3⟩ := (X7.out.kept hg (by simp)).c
        have xl := (X7.out.kept hg (by simp)).lt
        clear hg hd hm hds hist hym hys HTK hfl
        go_wp2
        go_quiet (fail)
        go_wp2
        go_roundw
        case rel => exact NW.out _
        case measure => simp [intOf]; omega
      · rw [decide_eq_false hds] at ee HTK
        have NW := Lib.hid (show RdL x7 wr X y D s (.bool fl) (.int .i64 ((k : Int) + 1)) from ⟨⟨k + 1, by rw [← HL.out]; exact hlt, by simp, by rw [HTK, Bool.or_false]⟩, G.out⟩)
        clear hg hd hm hds HTK hfl a1 a2 a3
        go_wp2
        go_roundw
        case rel => exact NW.out
        case measure => simp [intOf]; omega
    · have hkL : k = L := by have := HL.out; omega
      subst hkL
      have dl : decide ((k : Int) < (k : Int)) = false := by simp
      have hfl : nlHas (D.take k) s = is := by rw [HIS.out, HL.out, List.take_length]
      rw [hfl]
      obtain ⟨b0, b1, b2, b3⟩ := (X7.out.kept hg (by simp)).c
      have xl := (X7.out.kept hg (by simp)).lt
      have GA := Lib.hid (grown_trans G7.out hg)
      clear hg hfl hlt
      cases is
      · obtain rfl := HY2.out rfl
        replace b0 : wr.cell? ⟨X, 0, none⟩ = some (.string ⟨#[]⟩) := b0
        replace b1 : wr.cell? ⟨X, 1, none⟩ = some (.int .i64 0) := b1
        replace b2 : wr.cell? ⟨X, 2, none⟩ = some (.int .u64 0) := b2
        replace b3 : wr.cell? ⟨X, 3, none⟩ = some (.bool false) := b3
        go_wp2_with fail
        refine (K.out _).mono ?_
        rintro e x8 ⟨rfl, hg⟩
        have B := Lib.hid (BL.out _ (grown_trans GA.out hg))
        clear hg
        go_wp2
        go_ret
        exact ⟨rfl, B.out⟩
      · go_wp2_with fail
        refine (K.out _).mono ?_
        rintro e x8 ⟨rfl, hg⟩
        have B := Lib.hid (BL.out _ (grown_trans GA.out hg))
        clear hg
        go_wp2
        go_ret
        exact ⟨rfl, B.out⟩
end Go.Proofs.Ytlmgkofbjcahaaa.nlistReads
