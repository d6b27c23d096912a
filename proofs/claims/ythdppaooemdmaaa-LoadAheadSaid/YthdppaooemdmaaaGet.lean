/- The document's number of four bytes at a place of bytes; may a command be, by the document. No condition but that the place is within them. -/
import Derived.Test.YthdppaooemdmaaaRefCur
import Derived.Test.YthdppaooemdmaaaCm
import Derived.Lib.QuietBelow
namespace Go.Proofs.Ythdppaooemdmaaa
open Go.RowKit Go.Sort
variable {w w' : World}

/-- A piece of bytes, at a place that is there. -/
theorem cut_run {T : TypeId} (hT : Try.prog.underlying T = some (.slice (Try.prog.elem T))) (hs : ∀ W, (sizeOf (Try.prog.elem T)).run Try.prog W = .ok 1 W) (b o n c p k : Nat) (hk : p + k ≤ n) (hn : n ≤ c) (hp : 0 < k) (l h : Int) (hl : l = p) (hh : h = (p : Int) + k) (W : World) :
    (Instr.slice T (.slice (some ⟨b, o, none⟩) n c) (some (.int .i64 l)) (some (.int .i64 h)) none).run Try.prog W = .ok (.slice (some ⟨b, o + p, none⟩) k (c - p)) W := by
  rw [run_slice_lh (P := Try.prog) W T (some ⟨b, o, none⟩) n c hT .i64 .i64 l h (by omega) (by omega) (by omega), hs]
  simp only [Result.andThen, sliced]
  rw [if_neg (by omega), show h.toNat - l.toNat = k by omega, show l.toNat = p by omega]
  simp only [Option.map_some, add_flat, Nat.mul_one]
theorem size_u8 (W : World) : (sizeOf (Try.prog.elem 22)).run Try.prog W = .ok 1 W := by kernel_rfl

theorem get_any (ys : List Int) {q : Option Addr} {c n : Nat} (h : IsBytes w q c ys) (hn : ys.length = n) (hc : n ≤ c) (hcm : c ≤ 9223372036854775807) (hy : Small ys) (p : Nat) (hk : p + 4 ≤ n) :
    Calls Try.prog 27 #[.slice q n c, .int .i64 p] w fun e w' => e = .returned (.int .i64 (leN ((ys.drop p).take 4))) ∧ w.grownBy w' none := by
  obtain ⟨b, o, rfl, hcell⟩ := h.2 (by omega)
  have hbd := leN4_bd hy p
  have X := Lib.hid (fun (w1 : World) (a : Nat) (hw : w.grownBy w1 none) (ha : w.heap.size ≤ a) (hr : RCur w1 a (some ⟨b, o + p, none⟩) 4 (c - p) 0 false false) =>
    rnumber_ok ((ys.drop p).take 4) hr 4 (.inl rfl) (by omega) (by omega) (by omega) (by simp; omega) (fun x hx => hy x (List.mem_of_mem_drop (List.mem_of_mem_take hx))) (fun i hi w' hg => by
      have h1 := hcell (p + i) (by omega)
      have h2 : w'.cell? ⟨b, o + (p + i), none⟩ = some (.int .u8 (ys.getD (p + i) 0)) := (grown_new hw hg ha).cell h1 (by simp)
      rw [show o + p + i = o + (p + i) by omega, h2]
      simp [List.getD, hi]))
  have hS := fun W => cut_run (T := 22) (by kernel_rfl) size_u8 b o n c p 4 hk hc (by omega) (p : Int) ((p : Int) + 4) rfl rfl W
  have hb1 : (p : Int) + 4 ≤ 9223372036854775807 := by omega
  unfold numOf at X
  rw [if_neg (by simp)] at X
  clear h hcell hn hk hc hcm
  generalize leN ((ys.drop p).take 4) = V at *
  go_enter Try.func27, Try.ntmps27
  go_wp2_with fail
  have R : RCur (w.alloc (.cells #[.slice (some ⟨b, o + p, none⟩) 4 (c - p), .int .i64 0, .bool false, .bool false] 118)) w.heap.size (some ⟨b, o + p, none⟩) 4 (c - p) 0 false false := heap_alloc_new w _
  refine (X.out _ _ (grown1 _ _) (Nat.le_refl _) R).mono ?_
  rintro e w' ⟨rfl, hg⟩
  have G := Lib.hid (grown_new (grown1 _ _) hg (Nat.le_refl _))
  clear hg hS
  go_wp2
  go_ret
  exact ⟨rfl, G.out⟩

set_option maxHeartbeats 1600000 in
theorem refmay_any (m : Cm) (hf : m.Fits) (hb : IsBytes w m.q m.cap m.bytes) :
    Calls Try.prog 13 #[m.v] w fun e w' => e = .returned (.bool (mayB m.cmd m.bytes)) ∧ w.grownBy w' none := by
  have hcl : mayB m.cmd m.bytes = decide (8 ≤ m.bytes.length ∧ m.bytes.length % 8 = 0 ∧ leN ((m.bytes.drop (0 : Int).toNat).take 4) = m.cmd ∧ leN ((m.bytes.drop (4 : Int).toNat).take 4) = m.bytes.length) := rfl
  have GG := Lib.hid (fun (w1 : World) (hg : w.grownBy w1 none) (p : Int) (hp : 0 ≤ p ∧ p.toNat + 4 ≤ m.bytes.length) => (by
    have h := get_any (w := w1) m.bytes (hb.kept hg (by simp)) rfl hf.len hf.cap hf.bytes p.toNat hp.2
    rw [Int.toNat_of_nonneg hp.1] at h
    exact h : Calls Try.prog 27 #[.slice m.q m.bytes.length m.cap, .int .i64 p] w1 fun e w' => e = .returned (.int .i64 (leN ((m.bytes.drop p.toNat).take 4))) ∧ w1.grownBy w' none))
  have bd0 := leN4_bd hf.bytes 0
  have hcap := hf.cap
  have hlen := hf.len
  have hz := CmAt.new w m
  have hgr := grown1 w (.cells #[.int .u32 m.cmd, .slice m.q m.bytes.length m.cap] 40)
  unfold Cm.v
  have bd0 : 0 ≤ leN ((m.bytes.drop (0 : Int).toNat).take 4) ∧ leN ((m.bytes.drop (0 : Int).toNat).take 4) < 4294967296 := bd0
  obtain ⟨Vf, hVf⟩ : ∃ Vf : Int → Int, Vf = fun p => leN ((m.bytes.drop p.toNat).take 4) := ⟨_, rfl⟩
  have e : ∀ p, leN ((m.bytes.drop p.toNat).take 4) = Vf p := fun p => by rw [hVf]
  rw [e] at bd0
  rw [e, e] at hcl
  simp only [e] at GG
  have HB := Lib.hid hcl
  have u0 : (Vf 0 % 4294967296) = Vf 0 := by omega
  have u1 : IntKind.u32.wrap (Vf 0) = Vf 0 := by rw [IntKind.wrap_u32]; exact u0
  clear hf hb hVf hcl e
  go_enter Try.func13, Try.ntmps13
  go_upto_region 2 with fail
  generalize hW : w.alloc _ = W at *
  have k0 := fun d os => cell_regrown hz.c0 d os
  have k1 := fun d os => cell_regrown hz.c1 d os
  clear hW hz
  have GR := Lib.hid hgr
  have c0 := fun (h : 8 ≤ m.bytes.length) p (hp : p = 0 ∨ p = 4) d os => Calls.regrown_of ((GG.out (grow (redrawn W d) os) (grown_trans GR.out (grown_below (below_regrown W d os) none)) p ⟨by omega, by omega⟩).mono (fun _ _ h => (⟨h.1, below_grown h.2 (Nat.le_refl _) (by simp)⟩ : _ ∧ _)))
  have C0 := Lib.hid c0
  clear c0 hgr
  by_cases h8 : 8 ≤ m.bytes.length
  · have C0 := Lib.hid (C0.out h8)
    by_cases hm8 : m.bytes.length % 8 = 0
    · by_cases h0 : Vf 0 = m.cmd
      · by_cases h4 : Vf 4 = (m.bytes.length : Int)
        · have d8 : decide ((8 : Int) ≤ m.bytes.length) = true := by simp; omega
          have dm : ((m.bytes.length : Int).tmod 8 == 0) = true := by rw [Int.tmod_eq_emod_of_nonneg (by omega)]; simp; omega
          have dc : (Vf 0 == m.cmd) = true := by simp; omega
          have dl : (Vf 4 == (m.bytes.length : Int)) = true := by simp; omega
          have HV := Lib.hid (show mayB m.cmd m.bytes = true by rw [HB.out]; simp; omega)
          clear u0 bd0 HB h4 h0 hm8 h8
          refine wp_region_quiet_below (by kernel_rfl) (by kernel_rfl) ?_
          repeat (quiet_step (exact C0.out _ (by first | exact .inl rfl | exact .inr rfl) _ _))
          refine wpQuiet_nil ?_
          intro _ hw'
          obtain ⟨⟨dq, osq⟩, hw''⟩ := hw'
          subst hw''
          go_wp2
          go_ret
          exact ⟨ret_bool (by rw [HV.out]), grown_trans GR.out (grown_below (below_regrown W dq osq) none)⟩
        · have d8 : decide ((8 : Int) ≤ m.bytes.length) = true := by simp; omega
          have dm : ((m.bytes.length : Int).tmod 8 == 0) = true := by rw [Int.tmod_eq_emod_of_nonneg (by omega)]; simp; omega
          have dc : (Vf 0 == m.cmd) = true := by simp; omega
          have dl : (Vf 4 == (m.bytes.length : Int)) = false := by simp; omega
          have HV := Lib.hid (show mayB m.cmd m.bytes = false by rw [HB.out]; simp; omega)
          clear u0 bd0 HB h4 h0 hm8 h8
          refine wp_region_quiet_below (by kernel_rfl) (by kernel_rfl) ?_
          repeat (quiet_step (exact C0.out _ (by first | exact .inl rfl | exact .inr rfl) _ _))
          refine wpQuiet_nil ?_
          intro _ hw'
          obtain ⟨⟨dq, osq⟩, hw''⟩ := hw'
          subst hw''
          go_wp2
          go_ret
          exact ⟨ret_bool (by rw [HV.out]), grown_trans GR.out (grown_below (below_regrown W dq osq) none)⟩
      · have d8 : decide ((8 : Int) ≤ m.bytes.length) = true := by simp; omega
        have dm : ((m.bytes.length : Int).tmod 8 == 0) = true := by rw [Int.tmod_eq_emod_of_nonneg (by omega)]; simp; omega
        have dc : (Vf 0 == m.cmd) = false := by simp; omega
        have HV := Lib.hid (show mayB m.cmd m.bytes = false by rw [HB.out]; simp; omega)
        clear u0 bd0 HB h0 hm8 h8
        refine wp_region_quiet_below (by kernel_rfl) (by kernel_rfl) ?_
        repeat (quiet_step (exact C0.out _ (by first | exact .inl rfl | exact .inr rfl) _ _))
        refine wpQuiet_nil ?_
        intro _ hw'
        obtain ⟨⟨dq, osq⟩, hw''⟩ := hw'
        subst hw''
        go_wp2
        go_ret
        exact ⟨ret_bool (by rw [HV.out]), grown_trans GR.out (grown_below (below_regrown W dq osq) none)⟩
    · have d8 : decide ((8 : Int) ≤ m.bytes.length) = true := by simp; omega
      have dm : ((m.bytes.length : Int).tmod 8 == 0) = false := by rw [Int.tmod_eq_emod_of_nonneg (by omega)]; simp; omega
      have HV := Lib.hid (show mayB m.cmd m.bytes = false by rw [HB.out]; simp; omega)
      clear u0 bd0 HB hm8 h8
      refine wp_region_quiet_below (by kernel_rfl) (by kernel_rfl) ?_
      repeat (quiet_step (exact C0.out _ (by first | exact .inl rfl | exact .inr rfl) _ _))
      refine wpQuiet_nil ?_
      intro _ hw'
      obtain ⟨⟨dq, osq⟩, hw''⟩ := hw'
      subst hw''
      go_wp2
      go_ret
      exact ⟨ret_bool (by rw [HV.out]), grown_trans GR.out (grown_below (below_regrown W dq osq) none)⟩
  · have d8 : decide ((8 : Int) ≤ m.bytes.length) = false := by simp; omega
    have HV := Lib.hid (show mayB m.cmd m.bytes = false by rw [HB.out]; simp; omega)
    clear u0 bd0 HB h8
    refine wp_region_quiet_below (by kernel_rfl) (by kernel_rfl) ?_
    repeat (quiet_step (fail))
    refine wpQuiet_nil ?_
    intro _ hw'
    obtain ⟨⟨dq, osq⟩, hw''⟩ := hw'
    subst hw''
    go_wp2
    go_ret
    exact ⟨ret_bool (by rw [HV.out]), grown_trans GR.out (grown_below (below_regrown W dq osq) none)⟩
end Go.Proofs.Ythdppaooemdmaaa
