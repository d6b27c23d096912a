/- A new space; the chapter's row: known, of the statements of layer 7. No condition. -/
import Derived.Test.YtiolcpnhabipaaaSpY
namespace Go.Proofs.Ytiolcpnhabipaaa
open Go.RowKit Go.Maps Go.ChangeMaps
variable {w w' W : World} {F : Nat → Prop} {σ : Spc}

def Spc.zero : Spc := ⟨fun _ => 0, fun _ => 0, 0⟩
theorem zero_fits : Fits Spc.zero := ⟨by decide, fun _ h => absurd rfl h, fun _ => ⟨Int.le_refl 0, show (0 : Int) ≤ 7 by decide⟩, fun _ => ⟨Int.le_refl 0, show (0 : Int) < 256 by decide⟩, fun _ _ => rfl⟩
/-- The blocks that were laid between two worlds. -/
def Span (w W : World) (k : Nat) : Prop := w.heap.size ≤ k ∧ k < W.heap.size
theorem spc_zero {a : Nat} (h : W.heap[a]? = some (.cells #[.map none, .map none] 65 (0, 0))) (hF : F a) : SpcAt W F a Spc.zero :=
  ⟨hF, zero_fits, _, _, h, .bare (fun _ => rfl) rfl⟩
theorem span_foot {W' : World} (h1 : w.heap.size ≤ W.heap.size) (h2 : W.heap.size ≤ W'.heap.size) (k : Nat) (h : Foot (Span w W) W W' k) : Span w W' k := by
  unfold Foot Span at *; omega
theorem span_up {W' : World} (h2 : W.heap.size ≤ W'.heap.size) (k : Nat) (h : Span w W k) : Span w W' k := by unfold Span at *; omega
theorem span_below {W' : World} (hb : Below w.heap.size w W) (h : Chg (Span w W) W W') : Below w.heap.size w W' :=
  hb.trans ⟨h.os, h.tape, h.output, h.size, fun k hk => h.block k (Nat.lt_of_lt_of_le hk hb.size) (fun e => by unfold Span at e; omega)⟩
theorem spnew_any (w : World) : Calls Try.prog 9 #[] w fun e w' => e = .returned (.pointer (some ⟨w.heap.size, 0, none⟩)) ∧ SpcAt w' (Span w w') w.heap.size Spc.zero ∧ Below w.heap.size w w' := by
  go_enter Try.func9, Try.ntmps9
  go_wp2
  go_ret
  exact ⟨rfl, spc_zero (heap_alloc_new w _) ⟨Nat.le_refl _, by simp⟩, (Below.refl _ _).alloc (Nat.le_refl _) _⟩

def kn1 : Spc := Spc.zero.lays 1 2 3
def kn2 : Spc := kn1.put 8188 (wordL 72623859790382856)
set_option maxRecDepth 20000 in
theorem kn_map : mapErr Spc.zero 4096 8192 3 = 0 := by decide +kernel
set_option maxRecDepth 20000 in
theorem kn_set : mayErr kn1 8188 (wordL 72623859790382856).length 2 = 0 := by decide +kernel
set_option maxRecDepth 20000 in
theorem kn_read : readErr kn2 8188 8 = 0 := by decide +kernel
set_option maxRecDepth 20000 in
theorem kn_word : numB (fun i => kn2.B (8188 + i)) 8 = 72623859790382856 := by decide +kernel
set_option maxRecDepth 20000 in
theorem kn_gap : mayErr kn2 4094 [(1 : Int)].length 2 = 4 := by decide +kernel

set_option maxRecDepth 20000 in
theorem known7_any (w : World) : Calls Try.prog 8 #[] w fun e w' => e = .returned (.bool true) ∧ Below w.heap.size w w' := by
  have hm0 := Lib.hid kn_map
  go_enter Try.func8, Try.ntmps8
  go_wp2_with fail
  refine (spnew_any w).mono ?_
  rintro e w1 ⟨rfl, s1, b1⟩
  go_wp2_with fail
  refine (map_any s1 4096 8192 3).mono ?_
  rintro e w2 ⟨rfl, hd, _, c2⟩
  have s2 : SpcAt w2 (Span w w2) w.heap.size kn1 := (hd kn_map).mono (span_foot b1.size c2.size)
  have b2 := span_below b1 c2
  rw [kn_map]
  have S2 := Lib.hid s2
  have B2 := Lib.hid b2
  clear hd c2 s1 b1 s2 b2
  go_wp2_with fail
  refine (setWord_any S2.out (fun k hk => hk.2) 8188 (by omega) 72623859790382856 (by omega)).mono ?_
  rintro e w3 ⟨rfl, hd, _, c3⟩
  have s3 : SpcAt w3 (Span w w3) w.heap.size kn2 := (hd kn_set).mono (span_up c3.size)
  have b3 := span_below B2.out c3
  rw [kn_set]
  have S3 := Lib.hid s3
  have B3 := Lib.hid b3
  clear hd c3 s3 b3
  go_wp2_with fail
  refine (word_any S3.out 8188 (by omega)).mono ?_
  rintro e w4 ⟨hd, _, hg⟩
  have he := hd kn_read
  rw [kn_word] at he
  subst he
  have s4 : SpcAt w4 (Span w w4) w.heap.size kn2 := (S3.out.kept (Chg.of_grown hg (F := fun _ => False) (fun _ h => by cases h)) (fun _ _ h => h)).mono (span_up hg.size)
  have b4 := B3.out.trans ⟨hg.os, hg.tape, hg.output, hg.size, fun k hk => hg.block k (Nat.lt_of_lt_of_le hk B3.out.size) (by simp)⟩
  have S4 := Lib.hid s4
  have B4 := Lib.hid b4
  clear hd hg s4 b4
  go_wp2_with fail
  have g5 := grown1 w4 (.cells #[.int .u8 1] 5)
  have hb5 : Apart (w4.alloc (.cells #[.int .u8 1] 5)) (Span w w4) (some ⟨w4.heap.size, 0, none⟩) 1 [(1 : Int)] :=
    ⟨fun h => (by cases h), fun _ => ⟨w4.heap.size, 0, rfl, by simp, fun h => by unfold Span at h; omega, fun i hi => by
      obtain rfl : i = 0 := by simpa using hi
      rw [cell_of (heap_alloc_new w4 _)]; rfl⟩⟩
  refine (write_any (S4.out.kept (Chg.of_grown g5 (F := fun _ => False) (fun _ h => by cases h)) (fun _ _ h => h)) 4094 (by omega) [(1 : Int)] 1 rfl (some ⟨w4.heap.size, 0, none⟩) 1 (by omega) (by omega) (fun x hx => (by obtain rfl : x = 1 := (by simpa using hx); decide)) hb5 (fun k hk => Nat.lt_of_lt_of_le hk.2 g5.size)).mono ?_
  rintro e w5 ⟨rfl, _, hl, c5⟩
  have s5 := hl (by rw [kn_gap]; decide)
  have b5 : Below w.heap.size w w5 := (B4.out.trans ⟨g5.os, g5.tape, g5.output, g5.size, fun k hk => g5.block k (Nat.lt_of_lt_of_le hk B4.out.size) (by simp)⟩).trans ⟨c5.os, c5.tape, c5.output, c5.size, fun k hk => c5.block k (by have := B4.out.size; simp; omega) (fun e => by unfold Span at e; omega)⟩
  rw [kn_gap]
  have S5 := Lib.hid s5
  have B5 := Lib.hid b5
  clear hl c5 s5 b5 g5 hb5
  go_wp2_with fail
  refine (pages_any S5.out).mono ?_
  rintro e w6 ⟨rfl, rfl⟩
  rw [show ((kn2.K : Nat) : Int) = 2 from rfl]
  go_wp2
  go_ret
  exact ⟨rfl, B5.out⟩
end Go.Proofs.Ytiolcpnhabipaaa
