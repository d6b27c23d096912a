/- Which slice of some is taken: the program's own call, and the document's. No condition. -/
import Derived.Test.YtdjakaiadggemaaSl
namespace Go.Proofs.Ytdjakaiadggemaa
open Go.RowKit
variable {w w' : World}

def is0 (s : Sl) : Bool := s.isOf 16777228 0
def is2 (s : Sl) : Bool := s.isOf 16777228 2
theorem pickN_arg {l : List Sl} {a : Int} (h1 : a ≠ 1) (h2 : a ≠ 2) : pickN l a = (Sl.zero, 2) := by unfold pickN; rw [if_neg (by omega)]
theorem pickN_2 {l : List Sl} {k : Nat} {s : Sl} (h : Sl.findI is2 l = k) (hd : l.getD k Sl.zero = s) : pickN l 2 = (s, 0) := by
  unfold pickN
  unfold is2 at h
  rw [if_pos (by omega), h, if_pos (by omega)]
  simpa using hd
theorem pickN_0 {l : List Sl} {a : Int} {k : Nat} {s : Sl} (ha : a = 1 ∨ a = 2 ∧ Sl.findI is2 l = -1) (h : Sl.findI is0 l = k) (hd : l.getD k Sl.zero = s) : pickN l a = (s, 0) := by
  unfold pickN
  unfold is0 at h
  unfold is2 at ha
  rw [if_pos (by omega), if_neg (by omega), h, if_pos (by omega)]
  simpa using hd
theorem pickN_no {l : List Sl} {a : Int} (ha : a = 1 ∨ a = 2 ∧ Sl.findI is2 l = -1) (h : Sl.findI is0 l = -1) : pickN l a = (Sl.zero, 6) := by
  unfold pickN
  unfold is0 at h
  unfold is2 at ha
  rw [if_pos (by omega), if_neg (by omega), h, if_neg (by decide)]

theorem pick_any (l : List Sl) (hl : l.length ≤ 1152921504606846976) (hfit : ∀ s ∈ l, s.Fits) (p : Option Addr) (c : Nat) (hp : IsSl w p l) (arch : Int) :
    Calls Try.prog 15 #[.slice p l.length c, .int .i64 arch] w fun e w' => e = .returned (.tuple #[(pickN l arch).1.v, .int .i64 (pickN l arch).2]) ∧ w.grownBy w' none := by
  have F2 := Lib.hid (fun (w' : World) (hg : w.grownBy w' none) => find_any l hl hfit p c (hp.grown hg) 2 (by decide))
  have F0 := Lib.hid (fun (w' : World) (hg : w.grownBy w' none) => find_any l hl hfit p c (hp.grown hg) 0 (by decide))
  have P := Lib.hid hp
  have W2 := findI_ways is2 l
  have W0 := findI_ways is0 l
  obtain ⟨r, hr⟩ : ∃ r, r = pickN l arch := ⟨_, rfl⟩
  have HR := Lib.hid hr
  rw [← hr]
  rw [show (fun s : Sl => s.isOf 16777228 2) = is2 from rfl] at F2
  rw [show (fun s : Sl => s.isOf 16777228 0) = is0 from rfl] at F0
  clear hp hfit hr
  have E2 : ∃ z, Sl.findI is2 l = z := ⟨_, rfl⟩
  have E0 : ∃ z, Sl.findI is0 l = z := ⟨_, rfl⟩
  obtain ⟨f2, hf2⟩ := E2
  obtain ⟨f0, hf0⟩ := E0
  rw [hf2] at F2 W2
  rw [hf0] at F0 W0
  have H2 := Lib.hid hf2
  have H0 := Lib.hid hf0
  clear hf2 hf0
  by_cases h1 : arch = 1
  · subst h1
    go_enter Try.func15, Try.ntmps15
    go_wp2_with fail
    refine (F0.out _ (grown1 _ _)).mono ?_
    rintro e w' ⟨rfl, hg⟩
    have hz := (SlAt.new w Sl.zero).grown hg
    have z0 := hz.c0
    have z1 := hz.c1
    have z2 := hz.c2
    have z3 := hz.c3
    have z4 := hz.c4
    have y0 := hz.f 0
    have y1 := hz.f 1
    have y2 := hz.f 2
    have y3 := hz.f 3
    have y4 := hz.f 4
    have Z := Lib.hid hz
    clear hz
    have G := Lib.hid (grown_trans (grown1 w _) hg)
    clear hg
    rcases W0 with rfl | ⟨k, s, rfl, hk, hs, hd⟩
    · go_wp2
      refine bodyPost_ret (results_sl rfl rfl rfl (Z.out.put Sl.zero)) rfl ?_
      rw [HR.out, pickN_no (.inl rfl) H0.out]
      exact ⟨rfl, grown_new G.out (grown_put (grown_refl _ _) _ _ _ _ _) (Nat.le_refl _)⟩
    · obtain ⟨b, o, rfl, hc⟩ := (P.out.grown G.out) (by omega)
      obtain ⟨c0, c1, c2, c3, c4⟩ := hc k s hs
      have D := Lib.hid hd
      clear hs hd hc
      go_wp2
      refine bodyPost_ret (results_sl rfl rfl rfl (Z.out.put s)) rfl ?_
      rw [HR.out, pickN_0 (.inl rfl) H0.out D.out]
      exact ⟨rfl, grown_new G.out (grown_put (grown_refl _ _) _ _ _ _ _) (Nat.le_refl _)⟩
  · by_cases h2 : arch = 2
    · subst h2
      go_enter Try.func15, Try.ntmps15
      go_wp2_with fail
      refine (F2.out _ (grown1 _ _)).mono ?_
      rintro e w' ⟨rfl, hg⟩
      rcases W2 with rfl | ⟨k, s, rfl, hk, hs, hd⟩
      · go_wp2_with fail
        refine (F0.out _ (grown_trans (grown1 _ _) hg)).mono ?_
        rintro e w'' ⟨rfl, hg2⟩
        have hz := (SlAt.new w Sl.zero).grown (grown_trans hg hg2)
        have z0 := hz.c0
        have z1 := hz.c1
        have z2 := hz.c2
        have z3 := hz.c3
        have z4 := hz.c4
        have y0 := hz.f 0
        have y1 := hz.f 1
        have y2 := hz.f 2
        have y3 := hz.f 3
        have y4 := hz.f 4
        have Z := Lib.hid hz
        clear hz
        have G := Lib.hid (grown_trans (grown_trans (grown1 w _) hg) hg2)
        clear hg hg2
        rcases W0 with rfl | ⟨k, s, rfl, hk, hs, hd⟩
        · go_wp2
          refine bodyPost_ret (results_sl rfl rfl rfl (Z.out.put Sl.zero)) rfl ?_
          rw [HR.out, pickN_no (.inr ⟨rfl, H2.out⟩) H0.out]
          exact ⟨rfl, grown_new G.out (grown_put (grown_refl _ _) _ _ _ _ _) (Nat.le_refl _)⟩
        · obtain ⟨b, o, rfl, hc⟩ := (P.out.grown G.out) (by omega)
          obtain ⟨c0, c1, c2, c3, c4⟩ := hc k s hs
          have D := Lib.hid hd
          clear hs hd hc
          go_wp2
          refine bodyPost_ret (results_sl rfl rfl rfl (Z.out.put s)) rfl ?_
          rw [HR.out, pickN_0 (.inr ⟨rfl, H2.out⟩) H0.out D.out]
          exact ⟨rfl, grown_new G.out (grown_put (grown_refl _ _) _ _ _ _ _) (Nat.le_refl _)⟩
      · have hz := (SlAt.new w Sl.zero).grown hg
        have z0 := hz.c0
        have z1 := hz.c1
        have z2 := hz.c2
        have z3 := hz.c3
        have z4 := hz.c4
        have y0 := hz.f 0
        have y1 := hz.f 1
        have y2 := hz.f 2
        have y3 := hz.f 3
        have y4 := hz.f 4
        have Z := Lib.hid hz
        clear hz
        have G := Lib.hid (grown_trans (grown1 w _) hg)
        clear hg
        obtain ⟨b, o, rfl, hc⟩ := (P.out.grown G.out) (by omega)
        obtain ⟨c0, c1, c2, c3, c4⟩ := hc k s hs
        have D := Lib.hid hd
        clear hs hd hc
        go_wp2
        refine bodyPost_ret (results_sl rfl rfl rfl (Z.out.put s)) rfl ?_
        rw [HR.out, pickN_2 H2.out D.out]
        exact ⟨rfl, grown_new G.out (grown_put (grown_refl _ _) _ _ _ _ _) (Nat.le_refl _)⟩
    · have hn1 : (arch == 1) = false := by simpa using h1
      have hn2 : (arch == 2) = false := by simpa using h2
      have A1 := Lib.hid h1
      have A2 := Lib.hid h2
      have G := Lib.hid (grown1 w (.cells #[.int .u32 0, .int .u32 0, .int .u64 0, .int .u64 0, .int .i64 0] 42))
      clear h1 h2
      go_enter Try.func15, Try.ntmps15
      go_wp2
      refine bodyPost_ret (results_sl rfl rfl rfl (SlAt.new w Sl.zero)) rfl ?_
      rw [HR.out, pickN_arg A1.out A2.out]
      exact ⟨rfl, G.out⟩

/-- The document's own. -/
theorem pick2_any (l : List Sl) (hl : l.length ≤ 1152921504606846976) (hfit : ∀ s ∈ l, s.Fits) (p : Option Addr) (c : Nat) (hp : IsSl w p l) (arch : Int) :
    Calls Try.prog 16 #[.slice p l.length c, .int .i64 arch] w fun e w' => e = .returned (.tuple #[(pickN l arch).1.v, .int .i64 (pickN l arch).2]) ∧ w.grownBy w' none := by
  have F2 := Lib.hid (fun (w' : World) (hg : w.grownBy w' none) => find2_any l hl hfit p c (hp.grown hg) 2 (by decide))
  have F0 := Lib.hid (fun (w' : World) (hg : w.grownBy w' none) => find2_any l hl hfit p c (hp.grown hg) 0 (by decide))
  have P := Lib.hid hp
  have W2 := findI_ways is2 l
  have W0 := findI_ways is0 l
  obtain ⟨r, hr⟩ : ∃ r, r = pickN l arch := ⟨_, rfl⟩
  have HR := Lib.hid hr
  rw [← hr]
  rw [show (fun s : Sl => s.isOf 16777228 2) = is2 from rfl] at F2
  rw [show (fun s : Sl => s.isOf 16777228 0) = is0 from rfl] at F0
  clear hp hfit hr
  have E2 : ∃ z, Sl.findI is2 l = z := ⟨_, rfl⟩
  have E0 : ∃ z, Sl.findI is0 l = z := ⟨_, rfl⟩
  obtain ⟨f2, hf2⟩ := E2
  obtain ⟨f0, hf0⟩ := E0
  rw [hf2] at F2 W2
  rw [hf0] at F0 W0
  have H2 := Lib.hid hf2
  have H0 := Lib.hid hf0
  clear hf2 hf0
  by_cases h1 : arch = 1
  · subst h1
    go_enter Try.func16, Try.ntmps16
    go_wp2_with fail
    refine (F0.out _ (grown1 _ _)).mono ?_
    rintro e w' ⟨rfl, hg⟩
    have hz := (SlAt.new w Sl.zero).grown hg
    have z0 := hz.c0
    have z1 := hz.c1
    have z2 := hz.c2
    have z3 := hz.c3
    have z4 := hz.c4
    have y0 := hz.f 0
    have y1 := hz.f 1
    have y2 := hz.f 2
    have y3 := hz.f 3
    have y4 := hz.f 4
    have Z := Lib.hid hz
    clear hz
    have G := Lib.hid (grown_trans (grown1 w _) hg)
    clear hg
    rcases W0 with rfl | ⟨k, s, rfl, hk, hs, hd⟩
    · go_wp2
      refine bodyPost_ret (results_sl rfl rfl rfl (Z.out.put Sl.zero)) rfl ?_
      rw [HR.out, pickN_no (.inl rfl) H0.out]
      exact ⟨rfl, grown_new G.out (grown_put (grown_refl _ _) _ _ _ _ _) (Nat.le_refl _)⟩
    · obtain ⟨b, o, rfl, hc⟩ := (P.out.grown G.out) (by omega)
      obtain ⟨c0, c1, c2, c3, c4⟩ := hc k s hs
      have D := Lib.hid hd
      clear hs hd hc
      go_wp2
      refine bodyPost_ret (results_sl rfl rfl rfl (Z.out.put s)) rfl ?_
      rw [HR.out, pickN_0 (.inl rfl) H0.out D.out]
      exact ⟨rfl, grown_new G.out (grown_put (grown_refl _ _) _ _ _ _ _) (Nat.le_refl _)⟩
  · by_cases h2 : arch = 2
    · subst h2
      go_enter Try.func16, Try.ntmps16
      go_wp2_with fail
      refine (F0.out _ (grown1 _ _)).mono ?_
      rintro e w' ⟨rfl, hg⟩
      go_wp2_with fail
      refine (F2.out _ (grown_trans (grown1 _ _) hg)).mono ?_
      rintro e w2 ⟨rfl, hg2⟩
      have hg12 := grown_trans (grown_trans (grown1 w _) hg) hg2
      rcases W2 with rfl | ⟨k2, s2, rfl, hk2, hs2, hd2⟩
      · skip
        have hz := (SlAt.new w Sl.zero).grown (grown_trans hg hg2)
        have z0 := hz.c0
        have z1 := hz.c1
        have z2 := hz.c2
        have z3 := hz.c3
        have z4 := hz.c4
        have y0 := hz.f 0
        have y1 := hz.f 1
        have y2 := hz.f 2
        have y3 := hz.f 3
        have y4 := hz.f 4
        have Z := Lib.hid hz
        clear hz
        have G := Lib.hid hg12
        clear hg hg2 hg12
        rcases W0 with rfl | ⟨k, s, rfl, hk, hs, hd⟩
        · go_wp2
          refine bodyPost_ret (results_sl rfl rfl rfl (Z.out.put Sl.zero)) rfl ?_
          rw [HR.out, pickN_no (.inr ⟨rfl, H2.out⟩) H0.out]
          exact ⟨rfl, grown_new G.out (grown_put (grown_refl _ _) _ _ _ _ _) (Nat.le_refl _)⟩
        · obtain ⟨b, o, rfl, hc⟩ := (P.out.grown G.out) (by omega)
          obtain ⟨c0, c1, c2, c3, c4⟩ := hc k s hs
          have D := Lib.hid hd
          clear hs hd hc
          go_wp2
          refine bodyPost_ret (results_sl rfl rfl rfl (Z.out.put s)) rfl ?_
          rw [HR.out, pickN_0 (.inr ⟨rfl, H2.out⟩) H0.out D.out]
          exact ⟨rfl, grown_new G.out (grown_put (grown_refl _ _) _ _ _ _ _) (Nat.le_refl _)⟩
      · go_wp2_with fail
        refine (F2.out _ hg12).mono ?_
        rintro e w3 ⟨rfl, hg3⟩
        have hz := (SlAt.new w Sl.zero).grown (grown_trans (grown_trans hg hg2) hg3)
        have z0 := hz.c0
        have z1 := hz.c1
        have z2 := hz.c2
        have z3 := hz.c3
        have z4 := hz.c4
        have y0 := hz.f 0
        have y1 := hz.f 1
        have y2 := hz.f 2
        have y3 := hz.f 3
        have y4 := hz.f 4
        have Z := Lib.hid hz
        clear hz
        have G := Lib.hid (grown_trans hg12 hg3)
        clear hg hg2 hg3 hg12
        obtain ⟨b, o, rfl, hc⟩ := (P.out.grown G.out) (by omega)
        obtain ⟨c0, c1, c2, c3, c4⟩ := hc k2 s2 hs2
        have D := Lib.hid hd2
        clear hs2 hd2 hc
        go_wp2
        refine bodyPost_ret (results_sl rfl rfl rfl (Z.out.put s2)) rfl ?_
        rw [HR.out, pickN_2 H2.out D.out]
        exact ⟨rfl, grown_new G.out (grown_put (grown_refl _ _) _ _ _ _ _) (Nat.le_refl _)⟩
    · have hn1 : (arch != 1) = true := by simpa using h1
      have hn2 : (arch != 2) = true := by simpa using h2
      have A1 := Lib.hid h1
      have A2 := Lib.hid h2
      have G := Lib.hid (grown1 w (.cells #[.int .u32 0, .int .u32 0, .int .u64 0, .int .u64 0, .int .i64 0] 42))
      go_enter Try.func16, Try.ntmps16
      go_wp2
      refine bodyPost_ret (results_sl rfl rfl rfl (SlAt.new w Sl.zero)) rfl ?_
      rw [HR.out, pickN_arg A1.out A2.out]
      exact ⟨rfl, G.out⟩
end Go.Proofs.Ytdjakaiadggemaa
