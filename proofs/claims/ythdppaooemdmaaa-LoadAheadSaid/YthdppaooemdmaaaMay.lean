/- May a command be, by the program; which subtypes and kinds there are. No condition. -/
import Derived.Test.YthdppaooemdmaaaCm
import Derived.Test.YthdppaooemdmaaaPenC
namespace Go.Proofs.Ythdppaooemdmaaa
open Go.RowKit
variable {w w' : World}

theorem submay_any (s : Int) : Calls Try.prog 45 #[.int .i64 s] w fun e w' => e = .returned (.bool (decide (s = 0 ∨ s = 2))) ∧ w = w' := by
  by_cases h0 : s = 0
  · subst h0
    go_enter Try.func45, Try.ntmps45
    go_wp2
    go_ret
    exact ⟨rfl, rfl⟩
  · have e0 : (s == 0) = false := by simpa using h0
    have hv : decide (s = 0 ∨ s = 2) = (s == 2) := by
      rw [Bool.eq_iff_iff]; simp [h0]
    rw [hv]
    clear hv h0
    go_enter Try.func45, Try.ntmps45
    go_wp2
    go_ret
    exact ⟨rfl, rfl⟩
theorem kindmay_any (s : Int) : Calls Try.prog 46 #[.int .i64 s] w fun e w' => e = .returned (.bool (decide (s = 2 ∨ s = 6))) ∧ w = w' := by
  by_cases h0 : s = 2
  · subst h0
    go_enter Try.func46, Try.ntmps46
    go_wp2
    go_ret
    exact ⟨rfl, rfl⟩
  · have e0 : (s == 2) = false := by simpa using h0
    have hv : decide (s = 2 ∨ s = 6) = (s == 6) := by
      rw [Bool.eq_iff_iff]; simp [h0]
    rw [hv]
    clear hv h0
    go_enter Try.func46, Try.ntmps46
    go_wp2
    go_ret
    exact ⟨rfl, rfl⟩

/-- A number that may not be there: it has failed then; else it is the bytes' own. -/
theorem pen_num_may {lo hi a : Nat} {xs : List Int} {p : Nat} {big bad : Bool} (h : Pen w lo hi a xs p big bad) (n : Nat) (hs : n = 1 ∨ n = 2 ∨ n = 4 ∨ n = 8) :
    Calls Try.prog 29 #[.pointer (some ⟨a, 0, none⟩), .int .i64 n] w fun e w' =>
      ∃ p', e = .returned (.int .u64 (if bad || decide (xs.length < p + n) then 0 else numOf big ((xs.drop p).take n))) ∧ Pen w' lo hi a xs p' big (bad || decide (xs.length < p + n)) ∧ w.grownBy w' (some a) ∧ ((bad || decide (xs.length < p + n)) = false → p' = p + n) := by
  cases bad
  · by_cases hn : p + n ≤ xs.length
    · refine (pen_num h n hs hn).mono ?_
      rintro e w' ⟨rfl, hp, hg⟩
      have e : decide (xs.length < p + n) = false := by simp; omega
      rw [e]
      exact ⟨_, rfl, hp, hg, fun _ => rfl⟩
    · refine (pen_num_no h n (.inr (.inr (by omega)))).mono ?_
      rintro e w' ⟨rfl, hp, hg⟩
      have e : decide (xs.length < p + n) = true := by simp; omega
      rw [e]
      exact ⟨_, rfl, hp, hg, fun h => by cases h⟩
  · refine (pen_num_no h n (.inl rfl)).mono ?_
    rintro e w' ⟨rfl, hp, hg⟩
    exact ⟨_, rfl, hp, hg, fun h => by cases h⟩

theorem take8 (ys : List Int) : ((ys.take 8).drop 0).take 4 = ys.take 4 ∧ ((ys.take 8).drop (0 + 4)).take 4 = (ys.drop 4).take 4 := by
  constructor
  · rw [List.drop_zero, List.take_take]; rfl
  · rw [List.drop_take, List.take_take]; rfl
theorem may_any (m : Cm) (hf : m.Fits) (hb : IsBytes w m.q m.cap m.bytes) :
    Calls Try.prog 12 #[m.v] w fun e w' => e = .returned (.bool (mayB m.cmd m.bytes)) ∧ w.grownBy w' none := by
  have hcap := hf.cap
  have hlen := hf.len
  have hq : m.q = none → m.cap = 0 := fun e => by
    rcases hb.ways with ⟨_, _, h⟩ | ⟨x, h, _⟩
    · exact h
    · rw [h] at e; cases e
  have N := Lib.hid (fun (k : Nat) (hk : k ≤ m.bytes.length) (hk8 : k ≤ 8) (w1 : World) (hg : w.grownBy w1 none) => pen_new (w := w1) (n := k) ((hb.kept hg (by simp)).take (c' := m.cap) k hq) (by rw [List.length_take]; omega) (by omega) (fun x hx => hf.bytes x (List.mem_of_mem_take hx)) false)
  have hz := CmAt.new w m
  have hgr := grown1 w (.cells #[.int .u32 m.cmd, .slice m.q m.bytes.length m.cap] 40)
  have HB : Hid (mayB m.cmd m.bytes = decide (8 ≤ m.bytes.length ∧ m.bytes.length % 8 = 0 ∧ leN (m.bytes.take 4) = m.cmd ∧ leN ((m.bytes.drop 4).take 4) = m.bytes.length)) := Lib.hid rfl
  have Z := Lib.hid hz
  have GR := Lib.hid hgr
  have c1 := hz.c1
  have hB0 := leN4_bd hf.bytes 0
  rw [List.drop_zero] at hB0
  unfold Cm.v
  by_cases h8 : 8 ≤ m.bytes.length
  · obtain ⟨V0, hV0⟩ : ∃ V, V = leN (m.bytes.take 4) := ⟨_, rfl⟩
    obtain ⟨V4, hV4⟩ : ∃ V, V = leN ((m.bytes.drop 4).take 4) := ⟨_, rfl⟩
    rw [← hV0] at hB0 HB
    rw [← hV4] at HB
    have T0 := Lib.hid (show numOf false (((m.bytes.take 8).drop 0).take 4) = V0 by rw [(take8 m.bytes).1, hV0]; rfl)
    have T4 := Lib.hid (show numOf false (((m.bytes.take 8).drop (0 + 4)).take 4) = V4 by rw [(take8 m.bytes).2, hV4]; rfl)
    have u0 : (V0 % 4294967296) = V0 := by omega
    have u1 : IntKind.u32.wrap V0 = V0 := by rw [IntKind.wrap_u32]; exact u0
    clear hV0 hV4 hB0
    have N := Lib.hid (N.out 8 h8 (by omega))
    have hmin : min (m.bytes.length : Int) 8 = 8 := by omega
    clear hb hf hgr hz
    go_enter Try.func12, Try.ntmps12
    go_wp2_with fail
    refine (N.out _ GR.out).mono ?_
    rintro e w1 ⟨a, rfl, hp, hbel⟩
    have G1 := Lib.hid (grown_trans GR.out (grown_below hbel none))
    have Z1 := Lib.hid (grown_below hbel none)
    have la := hp.lw
    have P1 := Lib.hid hp
    clear hp hbel
    go_wp2_with fail
    refine (pen_num P1.out 4 (.inr (.inr (.inl rfl))) (by rw [List.length_take]; omega)).mono ?_
    rintro e w2 ⟨rfl, hp, hg⟩
    rw [T0.out]
    have G2 := Lib.hid (grown_new G1.out hg (Nat.le_trans GR.out.size la))
    have Z2 := Lib.hid (grown_new Z1.out hg la)
    have P2 := Lib.hid hp
    clear hp hg
    go_wp2_with fail
    refine (pen_num P2.out 4 (.inr (.inr (.inl rfl))) (by rw [List.length_take]; omega)).mono ?_
    rintro e w3 ⟨rfl, hp, hg⟩
    rw [T4.out]
    have G3 := Lib.hid (grown_new G2.out hg (Nat.le_trans GR.out.size la))
    have GZ := Lib.hid (grown_new Z2.out hg la)
    have P3 := Lib.hid hp
    clear hp hg
    clear c1
    go_wp2_with fail
    refine (pen_err P3.out).mono ?_
    rintro e w4 ⟨rfl, rfl⟩
    have G4 := Lib.hid G3.out
    have hz4 := CmAt.grown Z.out (show (w.alloc (.cells #[.int .u32 m.cmd, .slice m.q m.bytes.length m.cap] 40)).grownBy w3 none from GZ.out)
    have c0 := hz4.c0
    have c1 := hz4.c1
    clear hz4
    by_cases hm8 : m.bytes.length % 8 = 0
    · by_cases h4 : V4 = (m.bytes.length : Int)
      · by_cases h0 : V0 = m.cmd
        · have dm : ((m.bytes.length : Int) % 8 == 0) = true := by simp; omega
          have dc : (V0 == m.cmd) = true := by simp; omega
          have dl : (V4 == (m.bytes.length : Int)) = true := by simp; omega
          have HV := Lib.hid (show mayB m.cmd m.bytes = true by rw [HB.out]; simp; omega)
          clear HB h4 h0 hm8 h8
          go_wp2
          go_ret
          exact ⟨ret_bool (by rw [HV.out]), G4.out⟩
        · have dm : ((m.bytes.length : Int) % 8 == 0) = true := by simp; omega
          have dc : (V0 == m.cmd) = false := by simp; omega
          have dl : (V4 == (m.bytes.length : Int)) = true := by simp; omega
          have HV := Lib.hid (show mayB m.cmd m.bytes = false by rw [HB.out]; simp; omega)
          clear HB h4 h0 hm8 h8
          go_wp2
          go_ret
          exact ⟨ret_bool (by rw [HV.out]), G4.out⟩
      · have dm : ((m.bytes.length : Int) % 8 == 0) = true := by simp; omega
        have dl : (V4 == (m.bytes.length : Int)) = false := by simp; omega
        have HV := Lib.hid (show mayB m.cmd m.bytes = false by rw [HB.out]; simp; omega)
        clear HB h4 hm8 h8
        go_wp2
        go_ret
        exact ⟨ret_bool (by rw [HV.out]), G4.out⟩
    · have dm : ((m.bytes.length : Int) % 8 == 0) = false := by simp; omega
      have HV := Lib.hid (show mayB m.cmd m.bytes = false by rw [HB.out]; simp; omega)
      clear HB hm8 h8
      go_wp2
      go_ret
      exact ⟨ret_bool (by rw [HV.out]), G4.out⟩
  · have N := Lib.hid (N.out m.bytes.length (Nat.le_refl _) (by omega))
    have hmin : min (m.bytes.length : Int) 8 = m.bytes.length := by omega
    have HV := Lib.hid (show mayB m.cmd m.bytes = false by rw [HB.out]; simp; omega)
    have HT := Lib.hid (List.take_of_length_le (Nat.le_refl m.bytes.length))
    rw [HT.out] at N
    clear hb hf hgr hz HB
    by_cases h4 : m.bytes.length < 4
    · go_enter Try.func12, Try.ntmps12
      go_wp2_with fail
      refine (N.out _ GR.out).mono ?_
      rintro e w1 ⟨a, rfl, hp, hbel⟩
      have G1 := Lib.hid (grown_trans GR.out (grown_below hbel none))
      have Z1 := Lib.hid (grown_below hbel none)
      have la := hp.lw
      have P1 := Lib.hid hp
      clear hp hbel
      go_wp2_with fail
      refine (pen_num_no P1.out 4 (.inr (.inr (by omega)))).mono ?_
      rintro e w2 ⟨rfl, hp, hg⟩
      have G2 := Lib.hid (grown_new G1.out hg (Nat.le_trans GR.out.size la))
      have Z2 := Lib.hid (grown_new Z1.out hg la)
      have P2 := Lib.hid hp
      clear hp hg
      go_wp2_with fail
      refine (pen_num_no P2.out 4 (.inl rfl)).mono ?_
      rintro e w3 ⟨rfl, hp, hg⟩
      have G3 := Lib.hid (grown_new G2.out hg (Nat.le_trans GR.out.size la))
      have GZ := Lib.hid (grown_new Z2.out hg la)
      have P3 := Lib.hid hp
      clear hp hg
      clear c1
      go_wp2_with fail
      refine (pen_err P3.out).mono ?_
      rintro e w4 ⟨rfl, rfl⟩
      clear h8 h4
      go_wp2
      go_ret
      exact ⟨ret_bool (by rw [HV.out]), G3.out⟩
    · obtain ⟨V0, hV0⟩ : ∃ V, V = leN (m.bytes.take 4) := ⟨_, rfl⟩
      rw [← hV0] at hB0
      have T0 := Lib.hid (show numOf false (((m.bytes).drop 0).take 4) = V0 by rw [List.drop_zero, hV0]; rfl)
      have u0 : (V0 % 4294967296) = V0 := by omega
      have u1 : IntKind.u32.wrap V0 = V0 := by rw [IntKind.wrap_u32]; exact u0
      clear hV0 hB0
      go_enter Try.func12, Try.ntmps12
      go_wp2_with fail
      refine (N.out _ GR.out).mono ?_
      rintro e w1 ⟨a, rfl, hp, hbel⟩
      have G1 := Lib.hid (grown_trans GR.out (grown_below hbel none))
      have Z1 := Lib.hid (grown_below hbel none)
      have la := hp.lw
      have P1 := Lib.hid hp
      clear hp hbel
      go_wp2_with fail
      refine (pen_num P1.out 4 (.inr (.inr (.inl rfl))) (by omega)).mono ?_
      rintro e w2 ⟨rfl, hp, hg⟩
      rw [T0.out]
      have G2 := Lib.hid (grown_new G1.out hg (Nat.le_trans GR.out.size la))
      have Z2 := Lib.hid (grown_new Z1.out hg la)
      have P2 := Lib.hid hp
      clear hp hg
      go_wp2_with fail
      refine (pen_num_no P2.out 4 (.inr (.inr (by omega)))).mono ?_
      rintro e w3 ⟨rfl, hp, hg⟩
      have G3 := Lib.hid (grown_new G2.out hg (Nat.le_trans GR.out.size la))
      have GZ := Lib.hid (grown_new Z2.out hg la)
      have P3 := Lib.hid hp
      clear hp hg
      clear c1
      go_wp2_with fail
      refine (pen_err P3.out).mono ?_
      rintro e w4 ⟨rfl, rfl⟩
      clear h8 h4
      go_wp2
      go_ret
      exact ⟨ret_bool (by rw [HV.out]), G3.out⟩
end Go.Proofs.Ythdppaooemdmaaa
