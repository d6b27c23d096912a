/- Where the slice of a file stands that an architecture takes: the program's own call. No condition but that a file's bytes are not beyond the form's bound. -/
import Derived.Test.YtdjakaiadggemaaListed
import Derived.Test.YtdjakaiadggemaaPick
namespace Go.Proofs.Ytdjakaiadggemaa
open Go.RowKit
variable {w w' : World}

/-- A span in a block of its own. -/
def SpAt (w : World) (g : Nat) (o z : Int) : Prop := w.heap[g]? = some (.cells #[.int .u64 o, .int .u64 z] 33 (0, 0))
section
variable {g : Nat} {o z : Int}
theorem SpAt.c0 (h : SpAt w g o z) : w.cell? ⟨g, 0, none⟩ = some (.int .u64 o) := by rw [cell_of h]; rfl
theorem SpAt.c1 (h : SpAt w g o z) : w.cell? ⟨g, 1, none⟩ = some (.int .u64 z) := by rw [cell_of h]; rfl
theorem SpAt.f (h : SpAt w g o z) (i : Nat) : w.frozen? ⟨g, i, none⟩ = false := free_of h
theorem SpAt.new (w : World) (o z : Int) : SpAt (w.alloc (.cells #[.int .u64 o, .int .u64 z] 33)) w.heap.size o z := heap_alloc_new w _
theorem SpAt.grown (h : SpAt w g o z) (hg : w.grownBy w' none) : SpAt w' g o z := (hg.block g (lt_of_block h) (by simp)).trans h
theorem SpAt.put (h : SpAt w g o z) (o' z' : Int) : SpAt ((w.setCell ⟨g, 0, none⟩ (.int .u64 o')).setCell ⟨g, 1, none⟩ (.int .u64 z')) g o' z' := by
  have h1 : (w.setCell ⟨g, 0, none⟩ (.int .u64 o')).heap[g]? = some (.cells #[.int .u64 o', .int .u64 z] 33 (0, 0)) := by rw [heap_setCell_same w g 0 _ _ _ h]; rfl
  unfold SpAt; rw [heap_setCell_same _ g 1 _ _ _ h1]; rfl
theorem grown_put2 (h : w.grownBy w' (some g)) (v0 v1 : Value) : w.grownBy ((w'.setCell ⟨g, 0, none⟩ v0).setCell ⟨g, 1, none⟩ v1) (some g) := grown_setCell (grown_setCell h _) _
theorem load_sp (h : SpAt w g o z) : (loadVar 33 ⟨g, 0, none⟩).run Try.prog w = .ok (.agg #[.int .u64 o, .int .u64 z]) w :=
  run_loadVar_row w g _ _ _ _ _ h Try.underlying33 rfl (by kernel_rfl)
theorem results_sp {fn : Func} {p u : Tmp} (hr : fn.results = #[.cell p 33, .tmp u]) {tmps : Array Value} {v : Value} (hp : tmps.getD p undef = .pointer (some ⟨g, 0, none⟩)) (hu : tmps.getD u undef = v) (h : SpAt w g o z) :
    (results fn tmps).run Try.prog w = .ok (.tuple #[.agg #[.int .u64 o, .int .u64 z], v]) w := by
  rw [results_cell_tmp hr, hp, hu, show (asAddr (.pointer (some ⟨g, 0, none⟩)) : Sem Addr).run Try.prog w = .ok ⟨g, 0, none⟩ w from rfl, Result.andThen_ok, load_sp h, Result.andThen_ok]
end

theorem thin_fits {ys : List Int} (h : Small ys) (hl : ys.length ≤ 140737488355328) : (thin ys).Fits := by
  have e1 := lemod ((ys.drop 4).take 4) (fun x hx => h x (List.mem_of_mem_drop (List.mem_of_mem_take hx))) (by simp; omega)
  have e2 := lemod ((ys.drop 8).take 4) (fun x hx => h x (List.mem_of_mem_drop (List.mem_of_mem_take hx))) (by simp; omega)
  refine ⟨?_, ?_, by show (0 : Int) ≤ 0 ∧ (0 : Int) < 18446744073709551616; omega, ?_, by show (-9223372036854775808 : Int) ≤ 0 ∧ (0 : Int) ≤ 9223372036854775807; omega⟩
  · show 0 ≤ leN ((ys.drop 4).take 4) ∧ leN ((ys.drop 4).take 4) < 4294967296
    omega
  · show 0 ≤ leN ((ys.drop 8).take 4) ∧ leN ((ys.drop 8).take 4) < 4294967296
    omega
  · show 0 ≤ (ys.length : Int) ∧ (ys.length : Int) < 18446744073709551616
    omega
theorem listN_fits {ys : List Int} (h : Small ys) (wide : Bool) : (∀ s ∈ (listN wide ys).1, s.Fits) ∧ (listN wide ys).1.length ≤ 32 := by
  have no : (∀ s ∈ ([] : List Sl), s.Fits) ∧ ([] : List Sl).length ≤ 32 := ⟨fun s hs => (by cases hs), by simp⟩
  unfold listN
  split; exact no
  split; exact no
  rename_i h32
  split; exact no
  split; exact no
  split; exact no
  exact ⟨entries_fit h _ _, by rw [entries_len]; omega⟩
theorem slicesN_fits {ys : List Int} (h : Small ys) : (∀ s ∈ (slicesN ys).1, s.Fits) ∧ (slicesN ys).1.length ≤ 32 := by
  have no : (∀ s ∈ ([] : List Sl), s.Fits) ∧ ([] : List Sl).length ≤ 32 := ⟨fun s hs => (by cases hs), by simp⟩
  unfold slicesN
  split; exact no
  rename_i hl
  split; exact no
  split
  · unfold thinN
    split; exact no
    exact ⟨fun s hs => by rw [List.mem_singleton.1 hs]; exact thin_fits h (by omega), by simp⟩
  split; exact listN_fits h _
  split; exact listN_fits h _
  exact no

/-- Where it stands, and the error. -/
noncomputable def sliceN (ys : List Int) (arch : Int) : Int × Int × Int :=
  if arch ≠ 1 ∧ arch ≠ 2 then (0, 0, 2) else
  if (slicesN ys).2 ≠ 0 then (0, 0, (slicesN ys).2) else
  ((pickN (slicesN ys).1 arch).1.off, (pickN (slicesN ys).1 arch).1.size, (pickN (slicesN ys).1 arch).2)

theorem pick_nil (arch : Int) (h : arch = 1 ∨ arch = 2) : pickN [] arch = (Sl.zero, 6) := by
  unfold pickN
  rw [if_pos h, if_neg (by simp [Sl.findI]), if_neg (by simp [Sl.findI])]

theorem slice_any (ys : List Int) (q : Option Addr) (c n : Nat) (h : IsBytes w q c ys) (hn : ys.length = n) (hc : n ≤ c) (hcm : c ≤ 9223372036854775807) (hr : Small ys) (arch : Int) :
    Calls Try.prog 11 #[.slice q n c, .int .i64 arch] w fun e w' =>
      e = .returned (.tuple #[.agg #[.int .u64 (sliceN ys arch).1, .int .u64 (sliceN ys arch).2.1], .int .i64 (sliceN ys arch).2.2]) ∧ w.grownBy w' none := by
  have SS := Lib.hid (fun (w1 : World) (hg : w.grownBy w1 none) => slices_any (w := w1) ys q c n (h.kept hg (by simp)) hn hc hcm hr)
  have PN := Lib.hid (fun (w1 : World) => pick_any (w := w1) [] (by simp) (fun s hs => by cases hs) none 0 (fun h => by cases h) arch)
  have hf := slicesN_fits hr
  have PP := Lib.hid (fun (w1 : World) q c (hp : IsSl w1 q (slicesN ys).1) => pick_any (w := w1) (slicesN ys).1 (by omega) hf.1 q c hp arch)
  obtain ⟨r, hrr⟩ : ∃ r, r = sliceN ys arch := ⟨_, rfl⟩
  rw [← hrr]
  unfold sliceN at hrr
  clear h hr hf
  obtain ⟨⟨l, x⟩, hlx⟩ : ∃ z, z = slicesN ys := ⟨_, rfl⟩
  rw [← hlx] at hrr PP SS
  clear hlx
  simp only [] at hrr PP
  by_cases ha : arch = 1 ∨ arch = 2
  · rw [if_neg (by omega)] at hrr
    rw [pick_nil arch ha] at PN
    obtain ⟨⟨s, y⟩, hsy⟩ : ∃ z, z = pickN l arch := ⟨_, rfl⟩
    rw [← hsy] at hrr PP
    clear hsy ha
    have Z := Lib.hid (SpAt.new w 0 0)
    unfold Sl.v at PN
    go_enter Try.func11, Try.ntmps11
    go_wp2_with fail
    refine (PN.out _).mono ?_
    rintro e w1 ⟨rfl, hg1⟩
    have Z1 := Lib.hid ((Z.out.grown hg1).grown (grown1 w1 (.cells #[.int .u32 0, .int .u32 0, .int .u64 0, .int .u64 0, .int .i64 0] 42)))
    have hg2 := grown_trans (grown1 w (.cells #[.int .u64 0, .int .u64 0] 33)) (grown_trans hg1 (grown1 w1 (.cells #[.int .u32 0, .int .u32 0, .int .u64 0, .int .u64 0, .int .i64 0] 42)))
    have G2 := Lib.hid hg2
    clear hg1 hg2
    simp only [Sl.zero]
    go_wp2_with fail
    refine (SS.out _ G2.out).mono ?_
    rintro e w2 ⟨⟨q2, c2, rfl, hsl, hc1, hc2⟩, hg⟩
    have Z2 := Lib.hid (Z1.out.grown hg)
    have G3 := Lib.hid (grown_trans G2.out hg)
    have SL := Lib.hid hsl
    clear hg hsl
    simp only [] at SL hc1 ⊢
    by_cases hx : x = 0
    · subst hx
      rw [if_neg (by simp)] at hrr
      have R := Lib.hid hrr
      clear hrr
      unfold Sl.v at PP
      go_wp2_with fail
      refine (PP.out _ _ _ SL.out).mono ?_
      rintro e w3 ⟨rfl, hg3⟩
      have hn3 := grown1 w3 (.cells #[.int .u32 s.cpu, .int .u32 s.sub, .int .u64 s.off, .int .u64 s.size, .int .i64 s.align] 42)
      have z2 := (Z2.out.grown hg3).grown hn3
      have G4 := Lib.hid (grown_trans (grown_trans G3.out hg3) hn3)
      have ZZ := Lib.hid z2
      have z0 := z2.c0
      have z1 := z2.c1
      have y0 := z2.f 0
      have y1 := z2.f 1
      have hlt := lt_of_block (show w2.heap[w.heap.size]? = _ from Z2.out)
      have hsz := hg3.size
      clear hg3 hn3 z2
      go_wp2
      refine bodyPost_ret (results_sp rfl rfl rfl (ZZ.out.put s.off s.size)) rfl ?_
      rw [R.out]
      exact ⟨rfl, grown_new G4.out (grown_put2 (grown_refl _ _) _ _) (Nat.le_refl _)⟩
    · rw [if_pos hx] at hrr
      have R := Lib.hid hrr
      have hxx : (x != 0) = true := by simpa using hx
      clear hrr hx
      have z0 := Z2.out.c0
      have z1 := Z2.out.c1
      have y0 := Z2.out.f 0
      have y1 := Z2.out.f 1
      go_wp2
      refine bodyPost_ret (results_sp rfl rfl rfl (Z2.out.put 0 0)) rfl ?_
      rw [R.out]
      exact ⟨rfl, grown_new G3.out (grown_put2 (grown_refl _ _) _ _) (Nat.le_refl _)⟩
  · rw [if_pos (by omega)] at hrr
    have R := Lib.hid hrr
    have Z := Lib.hid (SpAt.new w 0 0)
    have e0 : pickN [] arch = (Sl.zero, 2) := pickN_arg (by omega) (by omega)
    rw [e0] at PN
    unfold Sl.v at PN
    clear hrr ha e0 PP
    go_enter Try.func11, Try.ntmps11
    go_wp2_with fail
    refine (PN.out _).mono ?_
    rintro e w1 ⟨rfl, hg1⟩
    have Z2 := Lib.hid ((Z.out.grown hg1).grown (grown1 w1 (.cells #[.int .u32 0, .int .u32 0, .int .u64 0, .int .u64 0, .int .i64 0] 42)))
    have hg2 := grown_trans (grown1 w (.cells #[.int .u64 0, .int .u64 0] 33)) (grown_trans hg1 (grown1 w1 (.cells #[.int .u32 0, .int .u32 0, .int .u64 0, .int .u64 0, .int .i64 0] 42)))
    have G2 := Lib.hid hg2
    have hlt := lt_of_block (show (w1.alloc (.cells #[.int .u32 0, .int .u32 0, .int .u64 0, .int .u64 0, .int .i64 0] 42)).heap[w.heap.size]? = _ from Z2.out)
    clear hg1 hg2
    simp only [Sl.zero]
    have z0 := Z2.out.c0
    have z1 := Z2.out.c1
    have y0 := Z2.out.f 0
    have y1 := Z2.out.f 1
    go_wp2
    refine bodyPost_ret (results_sp rfl rfl rfl (Z2.out.put 0 0)) rfl ?_
    rw [R.out]
    exact ⟨rfl, grown_new G2.out (grown_put2 (grown_refl _ _) _ _) (Nat.le_refl _)⟩
end Go.Proofs.Ytdjakaiadggemaa
