/- The document's cursor over a trie's bytes: a number, a text. No condition but that the bytes lie in memory. -/
import Derived.Test.YtblfighfahffkaaTrM
import Derived.Test.YtblfighfahffkaaTrX
import Derived.Test.YtblfighfahffkaaRef2
import Derived.StillTailTactics
import Derived.RegionTactic
import Derived.BigQuiet
import Derived.Deep.QuietTactic
namespace Go.Proofs.Ytblfighfahffkaa
open Go.RowKit
variable {w w' W : World} {g b o c : Nat} {xs : List Int} {s s' : Cs}

/-! As lists. -/
def ulR (xs : List Int) (s : Cs) : Int × Cs := ((ulebN (xs.drop s.1)).1, (s.1 + (ulebN (xs.drop s.1)).2, s.2 || decide ((ulebN (xs.drop s.1)).2 = 0)))
def txR (xs : List Int) (s : Cs) : List Int × Cs :=
  if (pre (xs.drop s.1)).length < (xs.drop s.1).length ∧ (pre (xs.drop s.1)).length ≤ 255 then (pre (xs.drop s.1), (s.1 + (pre (xs.drop s.1)).length + 1, s.2)) else ([], (s.1, true))
theorem simR_ul (xs : List Int) (s : Cs) : Sim ulP xs s (ulR xs s).1 (ulR xs s).2 := by
  unfold ulR
  refine ⟨Nat.le_add_right _ _, fun e => ?_, fun hb e => ?_⟩
  · simp only [Bool.or_eq_false_iff, decide_eq_false_iff_not] at e
    refine ⟨e.1, ?_⟩
    unfold ulP
    rw [if_neg e.2, Nat.add_sub_cancel_left]
  · simp only [hb, Bool.false_or, decide_eq_true_eq] at e
    unfold ulP
    rw [if_pos e]
theorem simR_tx (xs : List Int) (s : Cs) : Sim txP xs s (txR xs s).1 (txR xs s).2 := by
  unfold txR
  split
  · rename_i h
    refine ⟨by simp only []; omega, fun e => ⟨e, ?_⟩, fun hb e => by rw [hb] at e; cases e⟩
    unfold txP
    rw [if_pos h]
    simp only [Option.some.injEq, Prod.mk.injEq, true_and]
    omega
  · rename_i h
    refine Sim.bad (Nat.le_refl _) rfl (fun _ => ?_)
    unfold txP
    rw [if_neg h]
theorem ulR_le {xs : List Int} {s : Cs} (h : s.1 ≤ xs.length) : (ulR xs s).2.1 ≤ xs.length := by
  unfold ulR
  simp only []
  by_cases h0 : (ulebN (xs.drop s.1)).2 = 0
  · omega
  · obtain ⟨h1, _⟩ := uleb_size h0
    have := (szN_le 10 (xs.drop s.1)).2
    rw [List.length_drop] at this
    omega
theorem txR_le {xs : List Int} {s : Cs} (h : s.1 ≤ xs.length) : (txR xs s).2.1 ≤ xs.length := by
  unfold txR
  split
  · rename_i h1
    have := h1.1
    rw [List.length_drop] at this
    simp only []
    omega
  · exact h
theorem ulR_bd {xs : List Int} {s : Cs} : 0 ≤ (ulR xs s).1 ∧ (ulR xs s).1 < 18446744073709551616 := by
  unfold ulR
  simp only []
  by_cases h : (ulebN (xs.drop s.1)).2 = 0
  · rw [uleb_none h]; simp
  · obtain ⟨_, h2, h3⟩ := uleb_size h
    have := valN_bd ((xs.drop s.1).take (szN 10 (xs.drop s.1)))
    omega
theorem uleb_ten (l : List Int) : (ulebN l).2 ≤ 10 := by
  by_cases h : (ulebN l).2 = 0
  · omega
  · obtain ⟨h1, _⟩ := uleb_size h
    have := (szN_le 10 l).1
    omega

/-- The cursor in a block of its own, over bytes that lie elsewhere. -/
structure Rd (w : World) (g b o c : Nat) (xs : List Int) (s : Cs) : Prop where
  blk : w.heap[g]? = some (.cells #[.slice (some ⟨b, o, none⟩) xs.length c, .int .i64 s.1, .bool s.2] 102 (0, 0))
  cell : ∀ i, i < xs.length → w.cell? ⟨b, o + i, none⟩ = some (.int .u8 (xs.getD i 0))
  room : xs.length ≤ c
  top : c ≤ 9223372036854775807
  le : s.1 ≤ xs.length
  big : xs.length ≤ 140737488355328
  byt : Byt xs
  ne : b ≠ g
theorem Rd.c0 (h : Rd w g b o c xs s) : w.cell? ⟨g, 0, none⟩ = some (.slice (some ⟨b, o, none⟩) xs.length c) := by rw [cell_of h.blk]; rfl
theorem Rd.c1 (h : Rd w g b o c xs s) : w.cell? ⟨g, 1, none⟩ = some (.int .i64 s.1) := by rw [cell_of h.blk]; rfl
theorem Rd.c2 (h : Rd w g b o c xs s) : w.cell? ⟨g, 2, none⟩ = some (.bool s.2) := by rw [cell_of h.blk]; rfl
theorem Rd.f (h : Rd w g b o c xs s) (i : Nat) : w.frozen? ⟨g, i, none⟩ = false := free_of h.blk
theorem Rd.lt (h : Rd w g b o c xs s) : g < w.heap.size := lt_of_block h.blk
theorem Rd.kept {r : Option Nat} (h : Rd w g b o c xs s) (hg : w.grownBy w' r) (h1 : r ≠ some g) (h2 : r ≠ some b) : Rd w' g b o c xs s :=
  ⟨(hg.block g (lt_of_block h.blk) (fun e => h1 e.symm)).trans h.blk, fun i hi => hg.cell (h.cell i hi) (fun e => h2 e.symm), h.room, h.top, h.le, h.big, h.byt, h.ne⟩
theorem Rd.grown (h : Rd w g b o c xs s) (hg : w.grownBy w' none) : Rd w' g b o c xs s := h.kept hg (by simp) (by simp)
theorem Rd.drewN (h : Rd w g b o c xs s) (n : Nat) : Rd (w.drewN n) g b o c xs s := h.grown (grown_drewN (grown_refl w none) n)
theorem Rd.set (h : Rd w g b o c xs s) {W : World} (hg : w.grownBy W (some g)) (hb : W.heap[g]? = some (.cells #[.slice (some ⟨b, o, none⟩) xs.length c, .int .i64 s'.1, .bool s'.2] 102 (0, 0))) (hl : s'.1 ≤ xs.length) : Rd W g b o c xs s' :=
  ⟨hb, fun i hi => hg.cell (h.cell i hi) (fun e => h.ne (by injection e)), h.room, h.top, hl, h.big, h.byt, h.ne⟩
theorem Rd.bytes (h : Rd w g b o c xs s) : IsBytes w (some ⟨b, o + s.1, none⟩) (c - s.1) (xs.drop s.1) := IsBytes.mk_at fun i hi => by
  rw [List.length_drop] at hi
  rw [Nat.add_assoc, h.cell (s.1 + i) (by omega)]
  simp [List.getD, List.getElem?_drop]

theorem Rd.step (h : Rd w g b o c xs s) (k : Nat) (bad : Bool) (p : Nat) {P : Int} (hP : P = p) (hl : p ≤ xs.length) : Rd (((w.drewN k).setCell ⟨g, 2, none⟩ (.bool bad)).setCell ⟨g, 1, none⟩ (.int .i64 P)) g b o c xs (p, bad) := by
  subst hP
  refine h.set (s' := (p, bad)) (grown_setCell (grown_setCell (grown_drewN (grown_refl w _) k) _) _) ?_ hl
  rw [heap_setCell_same _ g 1 _ _ _ (heap_setCell_same _ g 2 _ _ _ (h.drewN k).blk)]
  rfl
theorem Rd.grow (_h : Rd w g b o c xs s) (k : Nat) (bad : Bool) (P : Int) : w.grownBy (((w.drewN k).setCell ⟨g, 2, none⟩ (.bool bad)).setCell ⟨g, 1, none⟩ (.int .i64 P)) (some g) :=
  grown_setCell (grown_setCell (grown_drewN (grown_refl w _) k) _) _
theorem quiet_eq {f : FuncId} {args : Array Value} {w : World} {v : Value} (h : Calls Try.prog f args w fun e w' => e = .returned v ∧ w = w') : Calls Try.prog f args w fun e w' => e = .returned v ∧ w' = w :=
  h.mono fun _ _ h => ⟨h.1, h.2.symm⟩
set_option maxRecDepth 20000 in
set_option maxHeartbeats 1600000 in
theorem number9_any (h : Rd w g b o c xs s) :
    Calls Try.prog 51 #[.pointer (some ⟨g, 0, none⟩)] w fun e w' => e = .returned (.int .u64 (ulR xs s).1) ∧ Rd w' g b o c xs (ulR xs s).2 ∧ w.grownBy w' (some g) := by
  have hle := h.le
  have hbig := h.big
  have hroom := h.room
  have htop := h.top
  have c0 := h.c0
  have c1 := h.c1
  have c2 := h.c2
  have hl2 := ulR_le h.le
  have hten := uleb_ten (xs.drop s.1)
  obtain ⟨V, hV, hB, _⟩ := cut_bytes h.cell h.room h.le .i64
  have hlen : (xs.drop s.1).length = xs.length - s.1 := by simp
  have UL := Lib.hid (fun n => quiet_eq (refuleb_any (w := w.drewN n) (hB.drewN n) (h.byt.drop _) (by omega)))
  unfold ulR at hl2 ⊢
  rw [hlen] at UL
  obtain ⟨⟨v, n⟩, hr⟩ : ∃ r, r = ulebN (xs.drop s.1) := ⟨_, rfl⟩
  rw [← hr] at UL hl2 hten ⊢
  have H := Lib.hid h
  have f1 := h.f 1
  have f2 := h.f 2
  obtain ⟨N, hN⟩ : ∃ N, N = xs.length := ⟨_, rfl⟩
  rw [← hN] at hle hbig hroom c0 UL hl2 hV
  have HN := Lib.hid hN
  obtain ⟨p, bad⟩ := s
  simp only [] at hle c1 c2 UL hl2 hV hten ⊢
  clear h hr hlen hN hB
  rw [HN.out] at hl2
  have FIN := Lib.hid (fun k b2 P hP => And.intro (H.out.step k b2 (p + n) (P := P) hP hl2) (H.out.grow k b2 P))
  by_cases h0 : n = 0
  · have d0 : ((n : Int) == 0) = true := by subst h0; rfl
    have d1 : decide (n = 0) = true := decide_eq_true h0
    clear h0
    cases bad
    all_goals
      go_enter Try.func51, Try.ntmps51
      go_wp2
      go_quiet ((go_at_call 81; exact Calls.quiet_of_same (UL.out _)))
      go_wp2
      go_ret
      rw [d1]
      exact ⟨rfl, FIN.out _ _ _ (by omega)⟩
  · have d0 : ((n : Int) == 0) = false := by rw [beq_eq_false_iff_ne]; omega
    have d1 : decide (n = 0) = false := decide_eq_false h0
    clear h0
    cases bad
    all_goals
      go_enter Try.func51, Try.ntmps51
      go_wp2
      go_quiet ((go_at_call 81; exact Calls.quiet_of_same (UL.out _)))
      go_wp2
      go_ret
      rw [d1]
      exact ⟨rfl, FIN.out _ _ _ (by omega)⟩

theorem pre_ne : ∀ (l : List Int) (i : Nat), i < (pre l).length → l.getD i 0 ≠ 0 := by
  intro l
  induction l with
  | nil => intro i h; simp [pre] at h
  | cons x l ih =>
    intro i h
    simp only [pre] at h
    by_cases hx : x = 0
    · rw [if_pos hx] at h; simp at h
    · rw [if_neg hx] at h
      cases i with
      | zero => simpa using hx
      | succ i => simpa using ih i (by simpa using h)
theorem pre_end : ∀ (l : List Int), (pre l).length < l.length → l.getD (pre l).length 0 = 0 := by
  intro l
  induction l with
  | nil => intro h; simp at h
  | cons x l ih =>
    intro h
    simp only [pre] at h ⊢
    by_cases hx : x = 0
    · rw [if_pos hx]; simpa using hx
    · rw [if_neg hx] at h ⊢
      simpa using ih (by simpa using h)
/-- The text that bytes begin with. -/
theorem name01_any (b o c n : Nat) (ys : List Int) (h : IsBytes w (some ⟨b, o, none⟩) c ys) (hn : ys.length = n) (hb : n ≤ 140737488355328) (hc : n ≤ c) :
    Calls Try.prog 64 #[.slice (some ⟨b, o, none⟩) n c] w fun e w' => e = .returned (.string (strOfNums (pre ys))) ∧ w' = w := by
  have hcell : ∀ k, k < n → w.cell? ⟨b, o + k, none⟩ = some (.int .u8 (ys.getD k 0)) := by
    intro k hk
    obtain ⟨b', o', e, hx⟩ := h.2 (by omega)
    injection e with e
    injection e with e1 e2 _
    subst e1 e2
    exact hx k (by omega)
  have hpl := pre_le ys
  rw [hn] at hpl
  have C := Lib.hid hcell
  have NE := Lib.hid (pre_ne ys)
  have EN := Lib.hid (pre_end ys)
  rw [hn] at EN
  have TX := Lib.hid (fun V W (hV : IsBytes W V c (pre ys)) => hV.text rfl)
  have HB := Lib.hid h
  have PT := Lib.hid (pre_take ys)
  obtain ⟨k, hk⟩ : ∃ k, k = (pre ys).length := ⟨_, rfl⟩
  rw [← hk] at hpl NE EN TX PT
  clear h hcell hn hk
  go_enter Try.func64, Try.ntmps64
  go_wp2
  go_loop [3] (fun i => ∃ j : Nat, i = .int .i64 j ∧ j ≤ k) (fun i => k - (intOf i).toNat)
  case atStart => exact ⟨0, rfl, by omega⟩
  case round =>
    obtain ⟨j, rfl, hj⟩ := hrel
    by_cases hlt : j < k
    · have c0 := C.out j (by omega)
      have hne := NE.out j hlt
      generalize ys.getD j 0 = y at *
      have hjn : j < n := by omega
      have hb1 : (y != 0) = true := by simpa using hne
      go_wp2
      go_round
      case rel => exact ⟨j + 1, by go_num, by omega⟩
      case measure => simp [intOf]; omega
    · obtain rfl : j = k := by omega
      have cv := TX.out (some ⟨b, o, none⟩) w (by have := HB.out.take j (c' := c) (fun e => by cases e); rw [← PT.out] at this; exact this)
      by_cases hjn : j < n
      · have c0 := C.out j hjn
        rw [EN.out hjn] at c0
        go_wp2
        go_ret
        exact ⟨rfl, rfl⟩
      · go_wp2
        go_ret
        exact ⟨rfl, rfl⟩
theorem Rd.bad (h : Rd w g b o c xs s) (k : Nat) : Rd ((w.drewN k).setCell ⟨g, 2, none⟩ (.bool true)) g b o c xs (s.1, true) := by
  refine h.set (s' := (s.1, true)) (grown_setCell (grown_drewN (grown_refl w _) k) _) ?_ h.le
  rw [heap_setCell_same _ g 2 _ _ _ (h.drewN k).blk]
  rfl
theorem Rd.go (h : Rd w g b o c xs s) (k p : Nat) {P : Int} (hP : P = p) (hl : p ≤ xs.length) : Rd ((w.drewN k).setCell ⟨g, 1, none⟩ (.int .i64 P)) g b o c xs (p, s.2) := by
  subst hP
  refine h.set (s' := (p, s.2)) (grown_setCell (grown_drewN (grown_refl w _) k) _) ?_ hl
  rw [heap_setCell_same _ g 1 _ _ _ (h.drewN k).blk]
  rfl
theorem grown_dset (w : World) (k g i : Nat) (v : Value) : w.grownBy ((w.drewN k).setCell ⟨g, i, none⟩ v) (some g) := grown_setCell (grown_drewN (grown_refl w _) k) _
set_option maxRecDepth 20000 in
set_option maxHeartbeats 1600000 in
theorem text9_any (h : Rd w g b o c xs s) :
    Calls Try.prog 53 #[.pointer (some ⟨g, 0, none⟩)] w fun e w' => e = .returned (.string (strOfNums (txR xs s).1)) ∧ Rd w' g b o c xs (txR xs s).2 ∧ w.grownBy w' (some g) := by
  have hle := h.le
  have hbig := h.big
  have hroom := h.room
  have htop := h.top
  have c0 := h.c0
  have c1 := h.c1
  have c2 := h.c2
  have f1 := h.f 1
  have f2 := h.f 2
  have hl2 := txR_le h.le
  obtain ⟨V, hV, hB, hV2⟩ := cut_bytes h.cell h.room h.le .i64
  have hVf : ∃ b' o', V = some ⟨b', o', none⟩ := by
    obtain ⟨V', hV', h'⟩ := cut_lo (T := 22) (k := 1) (by kernel_rfl) (fun W => by kernel_rfl) b o xs.length c s.1 .i64 h.le
    have e := (hV w).symm.trans (hV' w)
    injection e with e _
    injection e with e _ _
    subst e
    rcases h' with ⟨rfl, _⟩ | rfl
    · exact ⟨_, _, rfl⟩
    · exact ⟨_, _, rfl⟩
  obtain ⟨b', o', rfl⟩ := hVf
  have hlen : (xs.drop s.1).length = xs.length - s.1 := by simp
  have UL := Lib.hid (fun n => name01_any (w := w.drewN n) b' o' (c - s.1) _ _ (hB.drewN n) hlen (by omega) (by omega))
  have H := Lib.hid h
  have hpl := pre_le (xs.drop s.1)
  rw [hlen] at hpl
  unfold txR at hl2 ⊢
  rw [hlen] at hl2 ⊢
  generalize pre (xs.drop s.1) = T at *
  have hsz : (strOfNums T).size = T.length := strOfNums_size _
  obtain ⟨k, hk⟩ : ∃ k, k = T.length := ⟨_, rfl⟩
  rw [← hk] at hpl hl2 hsz ⊢
  obtain ⟨S, hS⟩ : ∃ S, S = strOfNums T := ⟨_, rfl⟩
  rw [← hS] at hsz UL
  have HS := Lib.hid hS
  have BAD := Lib.hid (fun n => And.intro (H.out.bad n) (grown_dset w n g 2 (.bool true)))
  obtain ⟨N, hN⟩ : ∃ N, N = xs.length := ⟨_, rfl⟩
  rw [← hN] at hle hbig hroom c0 UL hl2 hV hpl ⊢
  have HN := Lib.hid hN
  obtain ⟨p, bad⟩ := s
  simp only [] at hle c1 c2 UL hl2 hV BAD hpl ⊢
  clear h hlen hN hB hV2 hk hS
  by_cases hA : 255 < k
  · have d1 : decide ((255 : Int) < (k : Int)) = true := by simp; omega
    rw [if_neg (by omega)]
    go_enter Try.func53, Try.ntmps53
    go_wp2
    go_quiet ((go_at_call 64; exact Calls.quiet_of_same (UL.out _)))
    go_wp2
    go_quiet (fail)
    go_wp2
    go_ret
    exact ⟨rfl, BAD.out _⟩
  have d1 : decide ((255 : Int) < (k : Int)) = false := by simp; omega
  by_cases hE : N ≤ p + k
  · have d2 : decide ((N : Int) ≤ (p : Int) + (k : Int)) = true := by simp; omega
    rw [if_neg (by omega)]
    go_enter Try.func53, Try.ntmps53
    go_wp2
    go_quiet ((go_at_call 64; exact Calls.quiet_of_same (UL.out _)))
    go_wp2
    go_quiet (fail)
    go_wp2
    go_ret
    exact ⟨rfl, BAD.out _⟩
  · have d2 : decide ((N : Int) ≤ (p : Int) + (k : Int)) = false := by simp; omega
    have hc : k < N - p ∧ k ≤ 255 := by omega
    rw [if_pos hc] at hl2 ⊢
    simp only [] at hl2
    rw [HN.out] at hl2
    have GO := Lib.hid (fun n P hP => And.intro (H.out.go n (p + k + 1) (P := P) hP hl2) (grown_dset w n g 1 (.int .i64 P)))
    go_enter Try.func53, Try.ntmps53
    go_wp2
    go_quiet ((go_at_call 64; exact Calls.quiet_of_same (UL.out _)))
    go_wp2
    go_quiet (fail)
    go_wp2
    go_ret
    rw [HS.out]
    exact ⟨rfl, GO.out _ _ (by omega)⟩
end Go.Proofs.Ytblfighfahffkaa
