/- A fixup's text, at what the chapter's rows want: a rebase of any place; a bind of plain bytes and small numbers. Conditions: the library's table reads as it was laid. -/
import Derived.Test.YtmffpnhdnaokhaaDoorFxK
import Derived.Test.YtmffpnhdnaokhaaDoorQtl
namespace Go.Proofs.YtmffpnhdnaokhaaDoor
open Go.RowKit
variable {w w' W V : World}

set_option maxRecDepth 20000 in
set_option maxHeartbeats 1600000 in
theorem may_r (x : Fx) (hk : x.kind = 1) (h0 : x.ord = 0 ∧ x.sym = ⟨#[]⟩ ∧ x.add = 0 ∧ x.weak = false) (w : World) : Calls Tryd.prog 23 #[fxV x] w fun e w' => e = .returned (.bool true) ∧ w.grownBy w' none := by
  obtain ⟨p0, p1, p2, p3, p4, p5, p6⟩ := x
  simp only [] at hk h0
  obtain ⟨rfl, rfl, rfl, rfl⟩ := h0
  subst hk
  have hn := FxAt.new w ⟨p0, 1, p2, 0, ⟨#[]⟩, 0, false⟩
  have hg := grown1 w (.cells #[.int .u64 p0, .int .i64 1, .int .u64 p2, .int .i64 0, .string ⟨#[]⟩, .int .i64 0, .bool false] 26)
  obtain ⟨W, hW⟩ : ∃ W, w.alloc (.cells #[.int .u64 p0, .int .i64 1, .int .u64 p2, .int .i64 0, .string ⟨#[]⟩, .int .i64 0, .bool false] 26) = W := ⟨_, rfl⟩
  obtain ⟨g, hgg⟩ : ∃ g, w.heap.size = g := ⟨_, rfl⟩
  simp only [] at hn
  rw [hW] at hn hg
  rw [hgg] at hn
  obtain ⟨c0, c1, c2, c3, c4, c5, c6⟩ := hn.c
  simp only [] at c0 c1 c2 c3 c4 c5 c6
  have ld := load_fx hn
  unfold fxV fxArr at ld ⊢
  have G := Lib.hid hg
  clear hn hg
  go_enter Tryd.func23, Tryd.ntmps23
  go_upto_region 1 with fail
  clear hW hgg
  go_wp2
  go_ret
  exact ⟨by simp, G.out⟩
set_option maxRecDepth 20000 in
theorem isOrd_any (n : Int) (hn : -3 ≤ n ∧ n ≤ 64) (w : World) : Calls Tryd.prog 43 #[.int .i64 n] w fun e w' => e = .returned (.bool true) ∧ w' = w := by
  have d1 : decide (-3 ≤ n) = true := decide_eq_true hn.1
  have d2 : decide (n ≤ 64) = true := decide_eq_true hn.2
  go_enter Tryd.func43, Tryd.ntmps43
  go_wp2
  go_ret
  exact ⟨rfl, rfl⟩
set_option maxRecDepth 20000 in
theorem isSym_any (s : ByteArray) (h1 : 1 ≤ s.size) (h2 : s.size ≤ 255) (h3 : Lib.indexByte s.data.toList 0 = -1) (w : World) : Calls Tryd.prog 44 #[.string s] w fun e w' => e = .returned (.bool true) ∧ w' = w := by
  have n0 : (s.toList == ([] : List UInt8)) = false := by
    rw [Lib.toList_data]
    cases h : s.data.toList with
    | nil => have : s.size = 0 := by show s.data.size = 0; rw [← Array.length_toList, h]; rfl
             omega
    | cons a l => rfl
  have d2 : decide ((s.size : Int) ≤ 255) = true := decide_eq_true (by omega)
  have IB := Lib.hid (Tryd.strings_IndexByte s 0 w)
  rw [show (0 : Int).toNat.toUInt8 = 0 from rfl, h3] at IB
  clear h3
  go_enter Tryd.func44, Tryd.ntmps44
  go_wp2_with (go_at_call 78; refine IB.out.mono ?_; rintro e w' ⟨rfl, rfl⟩)
  go_ret
  exact ⟨rfl, rfl⟩
set_option maxRecDepth 20000 in
set_option maxHeartbeats 1600000 in
theorem may_b (x : Fx) (hk : x.kind = 2) (h0 : x.target = 0) (ho : -3 ≤ x.ord ∧ x.ord ≤ 64) (h1 : 1 ≤ x.sym.size) (h2 : x.sym.size ≤ 255) (h3 : Lib.indexByte x.sym.data.toList 0 = -1) (w : World) : Calls Tryd.prog 23 #[fxV x] w fun e w' => e = .returned (.bool true) ∧ w.grownBy w' none := by
  obtain ⟨p0, p1, p2, p3, p4, p5, p6⟩ := x
  simp only [] at hk h0 ho h1 h2 h3
  subst h0
  subst hk
  have IO := Lib.hid (isOrd_any p3 ho)
  have IS := Lib.hid (isSym_any p4 h1 h2 h3)
  have hn := FxAt.new w ⟨p0, 2, 0, p3, p4, p5, p6⟩
  have hg := grown1 w (.cells #[.int .u64 p0, .int .i64 2, .int .u64 0, .int .i64 p3, .string p4, .int .i64 p5, .bool p6] 26)
  obtain ⟨W, hW⟩ : ∃ W, w.alloc (.cells #[.int .u64 p0, .int .i64 2, .int .u64 0, .int .i64 p3, .string p4, .int .i64 p5, .bool p6] 26) = W := ⟨_, rfl⟩
  obtain ⟨g, hgg⟩ : ∃ g, w.heap.size = g := ⟨_, rfl⟩
  simp only [] at hn
  rw [hW] at hn hg
  rw [hgg] at hn
  obtain ⟨c0, c1, c2, c3, c4, c5, c6⟩ := hn.c
  simp only [] at c0 c1 c2 c3 c4 c5 c6
  have ld := load_fx hn
  unfold fxV fxArr at ld ⊢
  have G := Lib.hid hg
  clear hn hg h1 h2 h3
  go_enter Tryd.func23, Tryd.ntmps23
  go_upto_region 1 with fail
  clear hW hgg
  go_wp2_with (first | (go_at_call 43; refine (IO.out _).mono ?_; rintro e w' ⟨rfl, hw⟩; subst hw) | (go_at_call 44; refine (IS.out _).mono ?_; rintro e w' ⟨rfl, hw⟩; subst hw))
  go_ret
  exact ⟨rfl, G.out⟩
end Go.Proofs.YtmffpnhdnaokhaaDoor
