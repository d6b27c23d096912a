/- What the program lays of one entry, and which parts may not be: one contract each. No condition but that rows are not beyond 2^30 bytes. -/
import Derived.Test.YtdjakaiadggemaaOwnNum
import Derived.Test.YtdjakaiadggemaaBad
import Derived.Test.YtdjakaiadggemaaRefBase
namespace Go.Proofs.Ytdjakaiadggemaa
open Go.RowKit
variable {w w' : World}

def putN (wide : Bool) (s : Sl) : List Int := bigN s.cpu 4 ++ (bigN s.sub 4 ++ (bigN s.off (plc wide) ++ (bigN s.size (plc wide) ++ (bigN s.align 4 ++ bigN 0 (rst wide)))))
theorem putN_len (wide : Bool) (s : Sl) : (putN wide s).length = esize wide := by
  cases wide <;> simp [putN, bigN_len, plc, rst, esize]

theorem grew_block {w1 : World} {base g g1 m cap : Nat} {xs : List Int} (h : Grew w w1 base g g1 m cap xs) {k : Nat} {o : Obj} (hk : w.heap[k]? = some o) (hlt : k < w.heap.size) (hne : k ≠ g) : w1.heap[k]? = some o :=
  (h.grown.block k hlt (fun e => by injection e with e; exact hne e)).trans hk

theorem put_false {base g m cap : Nat} {xs : List Int} (s : Sl) (hs : s.Fits) (ha : 0 ≤ s.align) (hown : OwnM w base g m cap xs) (hm : m ≤ 1000000000) :
    Calls Try.prog 35 #[shapeV false, .slice (some ⟨g, 0, none⟩) m cap, s.v] w fun e w' => ∃ g' cap', e = .returned (.slice (some ⟨g', 0, none⟩) (m + esize false) cap') ∧ Grew w w' base g g' (m + esize false) cap' (xs ++ putN false s) := by
  have hlo : g < w.heap.size := hown.lt
  obtain ⟨W, hW⟩ : ∃ W, W = (w.alloc (.cells #[.string (magicOf false), .int .i64 (plc false), .int .i64 (rst false)] 62)).alloc (.cells #[.int .u32 s.cpu, .int .u32 s.sub, .int .u64 s.off, .int .u64 s.size, .int .i64 s.align] 42) := ⟨_, rfl⟩
  have hg : w.grownBy W none := by rw [hW]; exact grown2 _ _ _
  have hsz : W.heap.size = w.heap.size + 1 + 1 := by rw [hW]; simp
  have hsh : W.heap[w.heap.size]? = some (.cells #[.string (magicOf false), .int .i64 (plc false), .int .i64 (rst false)] 62 (0, 0)) := by
    rw [hW]
    exact ((grown1 _ _).block _ (by simp) (by simp)).trans (heap_alloc_new w _)
  have hsl : W.heap[w.heap.size + 1]? = some (.cells #[.int .u32 s.cpu, .int .u32 s.sub, .int .u64 s.off, .int .u64 s.size, .int .i64 s.align] 42 (0, 0)) := by
    have := heap_alloc_new (w.alloc (.cells #[.string (magicOf false), .int .i64 (plc false), .int .i64 (rst false)] 62)) (.cells #[.int .u32 s.cpu, .int .u32 s.sub, .int .u64 s.off, .int .u64 s.size, .int .i64 s.align] 42)
    rw [show (w.alloc (.cells #[.string (magicOf false), .int .i64 (plc false), .int .i64 (rst false)] 62)).heap.size = w.heap.size + 1 by simp, ← hW] at this
    exact this
  have G0 : Grew W W base g g m cap xs := ⟨hown.grown hg, grown_refl _ _, .inl rfl⟩
  have SH := Lib.hid (fun (w1 : World) g1 m1 c1 xs1 (h : Grew W w1 base g g1 m1 c1 xs1) => (grew_block h hsh (by omega) (by omega) : w1.heap[w.heap.size]? = _))
  have SL := Lib.hid (fun (w1 : World) g1 m1 c1 xs1 (h : Grew W w1 base g g1 m1 c1 xs1) => (grew_block h hsl (by omega) (by omega) : SlAt w1 (w.heap.size + 1) s))
  have HG := Lib.hid hg
  have HF := Lib.hid hs
  have hal := hs.align
  have u4 : IntKind.u64.wrap s.align = s.align := by rw [IntKind.wrap_u64]; omega
  have u4' : s.align % 18446744073709551616 = s.align := by omega
  have hcpu := HF.out.cpu
  have hsub := HF.out.sub
  have u0 : IntKind.u64.wrap s.cpu = s.cpu := by rw [IntKind.wrap_u64]; omega
  have u0' : s.cpu % 18446744073709551616 = s.cpu := by omega
  have u1 : IntKind.u64.wrap s.sub = s.sub := by rw [IntKind.wrap_u64]; omega
  have u1' : s.sub % 18446744073709551616 = s.sub := by omega
  clear hlo hg hsh hsl hown hs
  unfold shapeV Sl.v
  go_enter Try.func35, Try.ntmps35
  have h : SlAt W (w.heap.size + 1) s := SL.out W _ _ _ _ G0
  have P1 := Lib.hid G0
  go_wp2_with fail
  rw [← hW]
  refine (number_any P1.out.own (by omega) 4 (by omega) s.cpu (by have := HF.out.cpu; omega)).mono ?_
  rintro e w1 ⟨g1, c1, rfl, hn⟩
  have G1 := P1.out.trans hn
  clear hn h
  clear G0
  have h : SlAt w1 (w.heap.size + 1) s := SL.out w1 _ _ _ _ G1
  have c := h.c1
  have P2 := Lib.hid G1
  clear G1
  go_wp2_with fail
  refine (number_any P2.out.own (by omega) 4 (by omega) s.sub (by have := HF.out.sub; omega)).mono ?_
  rintro e w2 ⟨g2, c2, rfl, hn⟩
  have G2 := P2.out.trans hn
  clear hn h c
  have h : SlAt w2 (w.heap.size + 1) s := SL.out w2 _ _ _ _ G2
  have c := h.c2
  have sh : w2.cell? ⟨w.heap.size, 1, none⟩ = some (.int .i64 4) := by rw [cell_of (SH.out w2 _ _ _ _ G2)]; rfl
  have P3 := Lib.hid G2
  clear G2
  go_wp2_with fail
  refine (number_any P3.out.own (by omega) 4 (by omega) s.off HF.out.off).mono ?_
  rintro e w3 ⟨g3, c3, rfl, hn⟩
  have G3 := P3.out.trans hn
  clear hn h c sh
  have h : SlAt w3 (w.heap.size + 1) s := SL.out w3 _ _ _ _ G3
  have c := h.c3
  have sh : w3.cell? ⟨w.heap.size, 1, none⟩ = some (.int .i64 4) := by rw [cell_of (SH.out w3 _ _ _ _ G3)]; rfl
  have P4 := Lib.hid G3
  clear G3
  go_wp2_with fail
  refine (number_any P4.out.own (by omega) 4 (by omega) s.size HF.out.size).mono ?_
  rintro e w4 ⟨g4, c4, rfl, hn⟩
  have G4 := P4.out.trans hn
  clear hn h c sh
  have h : SlAt w4 (w.heap.size + 1) s := SL.out w4 _ _ _ _ G4
  have c := h.c4
  have P5 := Lib.hid G4
  clear G4
  go_wp2_with fail
  refine (number_any P5.out.own (by omega) 4 (by omega) s.align (by omega)).mono ?_
  rintro e w5 ⟨g5, c5, rfl, hn⟩
  have G5 := P5.out.trans hn
  clear hn h c
  have h : SlAt w5 (w.heap.size + 1) s := SL.out w5 _ _ _ _ G5
  have sh : w5.cell? ⟨w.heap.size, 2, none⟩ = some (.int .i64 0) := by rw [cell_of (SH.out w5 _ _ _ _ G5)]; rfl
  have P6 := Lib.hid G5
  clear G5
  go_wp2_with fail
  refine (number_any P6.out.own (by omega) 0 (by omega) 0 (by omega)).mono ?_
  rintro e w6 ⟨g6, c6, rfl, hn⟩
  have G6 := P6.out.trans hn
  clear hn h sh
  have E := Lib.hid (Grew.ahead HG.out G6)
  clear G6
  go_wp2
  go_ret
  refine ⟨_, _, rfl, ?_⟩
  have e1 : putN false s = bigN s.cpu 4 ++ (bigN s.sub 4 ++ (bigN s.off 4 ++ (bigN s.size 4 ++ (bigN s.align 4 ++ bigN 0 0)))) := rfl
  have e2 : esize false = 4 + 4 + 4 + 4 + 4 + 0 := rfl
  have hE := E.out
  rw [e1, e2]
  simp only [List.append_assoc, ← Nat.add_assoc] at hE ⊢
  exact hE

theorem put_true {base g m cap : Nat} {xs : List Int} (s : Sl) (hs : s.Fits) (ha : 0 ≤ s.align) (hown : OwnM w base g m cap xs) (hm : m ≤ 1000000000) :
    Calls Try.prog 35 #[shapeV true, .slice (some ⟨g, 0, none⟩) m cap, s.v] w fun e w' => ∃ g' cap', e = .returned (.slice (some ⟨g', 0, none⟩) (m + esize true) cap') ∧ Grew w w' base g g' (m + esize true) cap' (xs ++ putN true s) := by
  have hlo : g < w.heap.size := hown.lt
  obtain ⟨W, hW⟩ : ∃ W, W = (w.alloc (.cells #[.string (magicOf true), .int .i64 (plc true), .int .i64 (rst true)] 62)).alloc (.cells #[.int .u32 s.cpu, .int .u32 s.sub, .int .u64 s.off, .int .u64 s.size, .int .i64 s.align] 42) := ⟨_, rfl⟩
  have hg : w.grownBy W none := by rw [hW]; exact grown2 _ _ _
  have hsz : W.heap.size = w.heap.size + 1 + 1 := by rw [hW]; simp
  have hsh : W.heap[w.heap.size]? = some (.cells #[.string (magicOf true), .int .i64 (plc true), .int .i64 (rst true)] 62 (0, 0)) := by
    rw [hW]
    exact ((grown1 _ _).block _ (by simp) (by simp)).trans (heap_alloc_new w _)
  have hsl : W.heap[w.heap.size + 1]? = some (.cells #[.int .u32 s.cpu, .int .u32 s.sub, .int .u64 s.off, .int .u64 s.size, .int .i64 s.align] 42 (0, 0)) := by
    have := heap_alloc_new (w.alloc (.cells #[.string (magicOf true), .int .i64 (plc true), .int .i64 (rst true)] 62)) (.cells #[.int .u32 s.cpu, .int .u32 s.sub, .int .u64 s.off, .int .u64 s.size, .int .i64 s.align] 42)
    rw [show (w.alloc (.cells #[.string (magicOf true), .int .i64 (plc true), .int .i64 (rst true)] 62)).heap.size = w.heap.size + 1 by simp, ← hW] at this
    exact this
  have G0 : Grew W W base g g m cap xs := ⟨hown.grown hg, grown_refl _ _, .inl rfl⟩
  have SH := Lib.hid (fun (w1 : World) g1 m1 c1 xs1 (h : Grew W w1 base g g1 m1 c1 xs1) => (grew_block h hsh (by omega) (by omega) : w1.heap[w.heap.size]? = _))
  have SL := Lib.hid (fun (w1 : World) g1 m1 c1 xs1 (h : Grew W w1 base g g1 m1 c1 xs1) => (grew_block h hsl (by omega) (by omega) : SlAt w1 (w.heap.size + 1) s))
  have HG := Lib.hid hg
  have HF := Lib.hid hs
  have hal := hs.align
  have u4 : IntKind.u64.wrap s.align = s.align := by rw [IntKind.wrap_u64]; omega
  have u4' : s.align % 18446744073709551616 = s.align := by omega
  have hcpu := HF.out.cpu
  have hsub := HF.out.sub
  have u0 : IntKind.u64.wrap s.cpu = s.cpu := by rw [IntKind.wrap_u64]; omega
  have u0' : s.cpu % 18446744073709551616 = s.cpu := by omega
  have u1 : IntKind.u64.wrap s.sub = s.sub := by rw [IntKind.wrap_u64]; omega
  have u1' : s.sub % 18446744073709551616 = s.sub := by omega
  clear hlo hg hsh hsl hown hs
  unfold shapeV Sl.v
  go_enter Try.func35, Try.ntmps35
  have h : SlAt W (w.heap.size + 1) s := SL.out W _ _ _ _ G0
  have P1 := Lib.hid G0
  go_wp2_with fail
  rw [← hW]
  refine (number_any P1.out.own (by omega) 4 (by omega) s.cpu (by have := HF.out.cpu; omega)).mono ?_
  rintro e w1 ⟨g1, c1, rfl, hn⟩
  have G1 := P1.out.trans hn
  clear hn h
  clear G0
  have h : SlAt w1 (w.heap.size + 1) s := SL.out w1 _ _ _ _ G1
  have c := h.c1
  have P2 := Lib.hid G1
  clear G1
  go_wp2_with fail
  refine (number_any P2.out.own (by omega) 4 (by omega) s.sub (by have := HF.out.sub; omega)).mono ?_
  rintro e w2 ⟨g2, c2, rfl, hn⟩
  have G2 := P2.out.trans hn
  clear hn h c
  have h : SlAt w2 (w.heap.size + 1) s := SL.out w2 _ _ _ _ G2
  have c := h.c2
  have sh : w2.cell? ⟨w.heap.size, 1, none⟩ = some (.int .i64 8) := by rw [cell_of (SH.out w2 _ _ _ _ G2)]; rfl
  have P3 := Lib.hid G2
  clear G2
  go_wp2_with fail
  refine (number_any P3.out.own (by omega) 8 (by omega) s.off HF.out.off).mono ?_
  rintro e w3 ⟨g3, c3, rfl, hn⟩
  have G3 := P3.out.trans hn
  clear hn h c sh
  have h : SlAt w3 (w.heap.size + 1) s := SL.out w3 _ _ _ _ G3
  have c := h.c3
  have sh : w3.cell? ⟨w.heap.size, 1, none⟩ = some (.int .i64 8) := by rw [cell_of (SH.out w3 _ _ _ _ G3)]; rfl
  have P4 := Lib.hid G3
  clear G3
  go_wp2_with fail
  refine (number_any P4.out.own (by omega) 8 (by omega) s.size HF.out.size).mono ?_
  rintro e w4 ⟨g4, c4, rfl, hn⟩
  have G4 := P4.out.trans hn
  clear hn h c sh
  have h : SlAt w4 (w.heap.size + 1) s := SL.out w4 _ _ _ _ G4
  have c := h.c4
  have P5 := Lib.hid G4
  clear G4
  go_wp2_with fail
  refine (number_any P5.out.own (by omega) 4 (by omega) s.align (by omega)).mono ?_
  rintro e w5 ⟨g5, c5, rfl, hn⟩
  have G5 := P5.out.trans hn
  clear hn h c
  have h : SlAt w5 (w.heap.size + 1) s := SL.out w5 _ _ _ _ G5
  have sh : w5.cell? ⟨w.heap.size, 2, none⟩ = some (.int .i64 4) := by rw [cell_of (SH.out w5 _ _ _ _ G5)]; rfl
  have P6 := Lib.hid G5
  clear G5
  go_wp2_with fail
  refine (number_any P6.out.own (by omega) 4 (by omega) 0 (by omega)).mono ?_
  rintro e w6 ⟨g6, c6, rfl, hn⟩
  have G6 := P6.out.trans hn
  clear hn h sh
  have E := Lib.hid (Grew.ahead HG.out G6)
  clear G6
  go_wp2
  go_ret
  refine ⟨_, _, rfl, ?_⟩
  have e1 : putN true s = bigN s.cpu 4 ++ (bigN s.sub 4 ++ (bigN s.off 8 ++ (bigN s.size 8 ++ (bigN s.align 4 ++ bigN 0 4)))) := rfl
  have e2 : esize true = 4 + 4 + 8 + 8 + 4 + 4 := rfl
  have hE := E.out
  rw [e1, e2]
  simp only [List.append_assoc, ← Nat.add_assoc] at hE ⊢
  exact hE

end Go.Proofs.Ytdjakaiadggemaa
