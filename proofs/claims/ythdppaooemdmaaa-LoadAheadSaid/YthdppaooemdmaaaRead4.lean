/- The program's Read and Size, whole. No condition but that there are at most 2^47 bytes. -/
import Derived.Test.YthdppaooemdmaaaReadC
namespace Go.Proofs.Ythdppaooemdmaaa
open Go.RowKit
variable {w w' : World}

def rdErr (ys : List Int) : Int := if frErr (ys.take 32) ys.length = 0 then (if readN ys = none then 7 else 0) else frErr (ys.take 32) ys.length
def Hd.of (f : Fr) : Hd := ⟨f.sub, f.kind, f.flags⟩

/-- What read tells, by the error. -/
structure RdAll (w w' : World) (ys : List Int) (e : Ending) : Prop where
  bad : rdErr ys ≠ 0 → e = .returned (.tuple #[Fr.zero.v, .slice none 0 0, .int .i64 (rdErr ys)])
  good : rdErr ys = 0 → ∃ pre q c base, readN ys = some (pre.map Cm.d) ∧ e = .returned (.tuple #[(frOf (ys.take 32)).v, .slice q pre.length c, .int .i64 0]) ∧ w.heap.size ≤ base ∧ Got w' base pre (.slice q pre.length c)
  grown : w.grownBy w' none
theorem read_any (ys : List Int) (q : Option Addr) (c n : Nat) (h : IsBytes w q c ys) (hn : ys.length = n) (hc : n ≤ c) (hcm : c ≤ 9223372036854775807) (hn47 : n ≤ 140737488355328) (hr : Small ys) :
    Calls Try.prog 26 #[.slice q n c] w fun e w' => RdAll w w' ys e := by
  by_cases h0 : frErr (ys.take 32) n = 0
  · refine (read_ok ys q c n h hn hc hcm hn47 hr h0).mono ?_
    rintro e w' ⟨h1, h2, hg⟩
    have hE : rdErr ys = if readN ys = none then 7 else 0 := by unfold rdErr; rw [hn, if_pos h0]
    refine ⟨fun hz => ?_, fun hz => ?_, hg⟩
    · rw [hE] at hz ⊢
      by_cases hx : readN ys = none
      · rw [if_pos hx]; exact h1 hx
      · rw [if_neg hx] at hz; exact absurd rfl hz
    · rw [hE] at hz
      cases hx : readN ys with
      | none => rw [if_pos hx] at hz; cases hz
      | some l =>
        obtain ⟨pre, q', c', base, hp, he, hb, hG⟩ := h2 l hx
        exact ⟨pre, q', c', base, by rw [hp], he, hb, hG⟩
  · refine (read_no ys q c n h hn hc hcm hn47 hr _ rfl h0).mono ?_
    rintro e w' ⟨rfl, hg⟩
    have hE : rdErr ys = frErr (ys.take 32) n := by unfold rdErr; rw [hn, if_neg h0]
    exact ⟨fun _ => by rw [hE], fun hz => absurd (hE ▸ hz) h0, hg⟩

structure ReadOut (w w' : World) (ys : List Int) (e : Ending) : Prop where
  bad : rdErr ys ≠ 0 → e = .returned (.tuple #[(Hd.mk 0 0 0).v, .slice none 0 0, .int .i64 (rdErr ys)])
  good : rdErr ys = 0 → ∃ pre q c base, readN ys = some (pre.map Cm.d) ∧ e = .returned (.tuple #[(Hd.of (frOf (ys.take 32))).v, .slice q pre.length c, .int .i64 0]) ∧ w.heap.size ≤ base ∧ Got w' base pre (.slice q pre.length c)
  grown : w.grownBy w' none

set_option maxHeartbeats 800000 in
theorem Read_any (ys : List Int) (q : Option Addr) (c n : Nat) (h : IsBytes w q c ys) (hn : ys.length = n) (hc : n ≤ c) (hcm : c ≤ 9223372036854775807) (hn47 : n ≤ 140737488355328) (hr : Small ys) :
    Calls Try.prog 8 #[.slice q n c] w fun e w' => ReadOut w w' ys e := by
  have RD := Lib.hid (fun (w1 : World) (hg : w.grownBy w1 none) => read_any (w := w1) ys q c n (h.kept hg (by simp)) hn hc hcm hn47 hr)
  have ZA : HdAt (w.alloc (.cells #[.int .i64 0, .int .i64 0, .int .u32 0] 27)) w.heap.size ⟨0, 0, 0⟩ := heap_alloc_new w _
  have HA := Lib.hid ZA
  have GA := Lib.hid (grown1 w (.cells #[.int .i64 0, .int .i64 0, .int .u32 0] 27))
  clear ZA h hn hr
  go_enter Try.func8, Try.ntmps8
  go_wp2_with fail
  refine (RD.out _ GA.out).mono ?_
  rintro e w1 ⟨hbad, hgood, hg⟩
  by_cases h0 : rdErr ys = 0
  · obtain ⟨pre, q', c', base, hp, rfl, hb, hG⟩ := hgood h0
    obtain ⟨⟨fs, fk, ff, K, S⟩, hf⟩ : ∃ f, f = frOf (ys.take 32) := ⟨_, rfl⟩
    rw [← hf]
    unfold Fr.v
    have gm := grown_trans hg (grown1 w1 (.cells #[.int .i64 fs, .int .i64 fk, .int .u32 ff, .int .u64 K, .int .u64 S] 74))
    have hA : (w1.alloc (.cells #[.int .i64 fs, .int .i64 fk, .int .u32 ff, .int .u64 K, .int .u64 S] 74)).heap[w.heap.size]? = some (.cells #[.int .i64 0, .int .i64 0, .int .u32 0] 27 (0, 0)) := (gm.block _ (lt_of_block HA.out) (by simp)).trans HA.out
    have a0 : (w1.alloc (.cells #[.int .i64 fs, .int .i64 fk, .int .u32 ff, .int .u64 K, .int .u64 S] 74)).cell? ⟨w.heap.size, 0, none⟩ = some (.int .i64 0) := by rw [cell_of hA]; rfl
    have a1 : (w1.alloc (.cells #[.int .i64 fs, .int .i64 fk, .int .u32 ff, .int .u64 K, .int .u64 S] 74)).cell? ⟨w.heap.size, 1, none⟩ = some (.int .i64 0) := by rw [cell_of hA]; rfl
    have a2 : (w1.alloc (.cells #[.int .i64 fs, .int .i64 fk, .int .u32 ff, .int .u64 K, .int .u64 S] 74)).cell? ⟨w.heap.size, 2, none⟩ = some (.int .u32 0) := by rw [cell_of hA]; rfl
    have y0 : ∀ i, (w1.alloc (.cells #[.int .i64 fs, .int .i64 fk, .int .u32 ff, .int .u64 K, .int .u64 S] 74)).frozen? ⟨w.heap.size, i, none⟩ = false := fun i => free_of hA
    have f0 := y0 0
    have f1 := y0 1
    have f2 := y0 2
    have hlt := lt_of_block hA
    have G1 := Lib.hid (grown_trans GA.out gm)
    have BA := Lib.hid hA
    have HG := Lib.hid (hG.over (Over.of_grown (hi := base) (grown1 w1 (.cells #[.int .i64 fs, .int .i64 fk, .int .u32 ff, .int .u64 K, .int .u64 S] 74)) (by simp)) (Nat.le_refl _))
    have HP := Lib.hid hp
    have HF := Lib.hid hf
    have HB := Lib.hid hb
    have H0 := Lib.hid h0
    have hbs : w.heap.size < base := by have := GA.out.size; simp at this hb; omega
    clear hg gm hA y0 hG hp hf hb hbad hgood h0
    go_wp2
    have PA := HdAt.put (w := w1.alloc (.cells #[.int .i64 fs, .int .i64 fk, .int .u32 ff, .int .u64 K, .int .u64 S] 74)) (g := w.heap.size) (h := ⟨0, 0, 0⟩) BA.out ⟨fs, fk, ff⟩
    have gP := grown_put3 (grown_refl (w1.alloc (.cells #[.int .i64 fs, .int .i64 fk, .int .u32 ff, .int .u64 K, .int .u64 S] 74)) (some w.heap.size)) (.int .i64 fs) (.int .i64 fk) (.int .u32 ff)
    refine bodyPost_ret (results_cell_tmp2 rfl _ _ _ rfl rfl rfl (load_hd PA)) rfl ?_
    refine ⟨fun hz => absurd H0.out hz, fun _ => ⟨pre, q', c', base, HP.out, ?_, by omega, HG.out.over (Over.of_grown (hi := base) gP (fun j e => by injection e with e; omega)) (Nat.le_refl _)⟩, grown_new G1.out gP (Nat.le_refl _)⟩
    rw [← HF.out]
    rfl
  · have he := hbad h0
    subst he
    obtain ⟨er, her⟩ : ∃ er, er = rdErr ys := ⟨_, rfl⟩
    have HE := Lib.hid her
    rw [← her] at h0 ⊢
    unfold Fr.v Fr.zero
    have gm := grown_trans hg (grown1 w1 (.cells #[.int .i64 0, .int .i64 0, .int .u32 0, .int .u64 0, .int .u64 0] 74))
    have hA : (w1.alloc (.cells #[.int .i64 0, .int .i64 0, .int .u32 0, .int .u64 0, .int .u64 0] 74)).heap[w.heap.size]? = some (.cells #[.int .i64 0, .int .i64 0, .int .u32 0] 27 (0, 0)) := (gm.block _ (lt_of_block HA.out) (by simp)).trans HA.out
    have a0 : (w1.alloc (.cells #[.int .i64 0, .int .i64 0, .int .u32 0, .int .u64 0, .int .u64 0] 74)).cell? ⟨w.heap.size, 0, none⟩ = some (.int .i64 0) := by rw [cell_of hA]; rfl
    have a1 : (w1.alloc (.cells #[.int .i64 0, .int .i64 0, .int .u32 0, .int .u64 0, .int .u64 0] 74)).cell? ⟨w.heap.size, 1, none⟩ = some (.int .i64 0) := by rw [cell_of hA]; rfl
    have a2 : (w1.alloc (.cells #[.int .i64 0, .int .i64 0, .int .u32 0, .int .u64 0, .int .u64 0] 74)).cell? ⟨w.heap.size, 2, none⟩ = some (.int .u32 0) := by rw [cell_of hA]; rfl
    have y0 : ∀ i, (w1.alloc (.cells #[.int .i64 0, .int .i64 0, .int .u32 0, .int .u64 0, .int .u64 0] 74)).frozen? ⟨w.heap.size, i, none⟩ = false := fun i => free_of hA
    have f0 := y0 0
    have f1 := y0 1
    have f2 := y0 2
    have hlt := lt_of_block hA
    have G1 := Lib.hid (grown_trans GA.out gm)
    have BA := Lib.hid hA
    have H0 := Lib.hid h0
    clear hg gm hA y0 hbad hgood her h0
    go_wp2
    have PA := HdAt.put (w := w1.alloc (.cells #[.int .i64 0, .int .i64 0, .int .u32 0, .int .u64 0, .int .u64 0] 74)) (g := w.heap.size) (h := ⟨0, 0, 0⟩) BA.out ⟨0, 0, 0⟩
    refine bodyPost_ret (results_cell_tmp2 rfl _ _ _ rfl rfl rfl (load_hd PA)) rfl ?_
    exact ⟨fun _ => (by rw [← HE.out]; rfl), fun hz => absurd (HE.out.trans hz) H0.out, grown_new G1.out (grown_put3 (grown_refl _ _) _ _ _) (Nat.le_refl _)⟩

theorem Size_any (ys : List Int) (q : Option Addr) (c n : Nat) (h : IsBytes w q c ys) (hn : ys.length = n) (hc : n ≤ c) (hcm : c ≤ 9223372036854775807) (hn47 : n ≤ 140737488355328) (hr : Small ys) :
    Calls Try.prog 10 #[.slice q n c] w fun e w' => e = .returned (.tuple #[.int .u64 (if rdErr ys = 0 then 32 + sizeF ys else 0), .int .i64 (rdErr ys)]) ∧ w.grownBy w' none := by
  have RD := Lib.hid (read_any (w := w) ys q c n h hn hc hcm hn47 hr)
  obtain ⟨r, hrr⟩ : ∃ r : Int, r = if rdErr ys = 0 then 32 + (sizeF ys : Int) else 0 := ⟨_, rfl⟩
  rw [← hrr]
  obtain ⟨er, her⟩ : ∃ er, er = rdErr ys := ⟨_, rfl⟩
  rw [← her]
  have w5 := wordN_bd (show Small (ys.take 32) from fun x hx => hr x (List.mem_of_mem_take hx)) 5
  have hS : wordN (ys.take 32) 5 = (sizeF ys : Nat) := by unfold sizeF; omega
  obtain ⟨S, hSS⟩ : ∃ S, S = sizeF ys := ⟨_, rfl⟩
  rw [← hSS] at hS hrr
  have HR := Lib.hid hrr
  have HE := Lib.hid her
  clear hrr her
  obtain ⟨fs, fk, ff, K, hF⟩ : ∃ fs fk ff K, frOf (ys.take 32) = ⟨fs, fk, ff, K, S⟩ := ⟨_, _, _, _, by unfold frOf; rw [hS]⟩
  have FV := Lib.hid hF
  have s32 : S < 4294967296 := by omega
  clear h hn hr hF hS hSS w5
  go_enter Try.func10, Try.ntmps10
  go_wp2_with fail
  refine RD.out.mono ?_
  rintro e w1 ⟨hbad, hgood, hg⟩
  have HG := Lib.hid hg
  by_cases h0 : rdErr ys = 0
  · obtain ⟨pre, q', c', base, hp, rfl, hb, hG⟩ := hgood h0
    rw [FV.out]
    unfold Fr.v
    have i3 : (32 + (S : Int)) % 18446744073709551616 = 32 + (S : Int) := by omega
    have i4 : IntKind.u64.wrap (32 + (S : Int)) = 32 + (S : Int) := by rw [IntKind.wrap_u64]; exact i3
    have H0 := Lib.hid h0
    clear hbad hgood h0 hp hG hg
    go_wp2
    go_ret2
    exact ⟨by rw [HR.out, HE.out, if_pos H0.out, H0.out]; rfl, grown_trans HG.out (grown1 _ _)⟩
  · have he := hbad h0
    subst he
    have H1 := Lib.hid h0
    rw [← HE.out] at h0 ⊢
    have hne : (er != 0) = true := by simpa using h0
    have H0 := Lib.hid h0
    unfold Fr.v Fr.zero
    clear hbad hgood h0 hg
    go_wp2
    go_ret2
    exact ⟨by rw [HR.out, if_neg H1.out]; rfl, grown_trans HG.out (grown1 _ _)⟩
end Go.Proofs.Ythdppaooemdmaaa
