import Derived.Test.YtemdbfgpimfkdaaM20
import Derived.Test.YtemdbfgpimfkdaaM4
import Derived.StillTailTactics
import Derived.RegionTactic
import Derived.BigQuiet
import Derived.Deep.QuietTactic
import Derived.Deep.Cut
import Derived.Deep.CutRange
import Derived.Test.YtemdbfgpimfkdaaM5
import Derived.Lib.QuietBelow
/- The program's Read and Size, whole. No condition but that there are at most 2^47 bytes. -/
namespace Go.Proofs.Ytemdbfgpimfkdaa
open Go.RowKit
variable {w w' : World}

def rdErr (ys : List Int) : Int := if frErr (ys.take 32) ys.length = 0 then (if readN ys = none then 7 else 0) else frErr (ys.take 32) ys.length
def Hd.of (f : Fr) : Hd := ⟨f.sub, f.kind, f.flags⟩

/-- What read tells, by the error. -/
structure RdAll (w w' : World) (ys : List Int) (e : Ending) : Prop where
  bad : rdErr ys ≠ 0 → e = .returned (.tuple #[Fr.zero.v, .slice none 0 0, .int .i64 (rdErr ys)])
  good : rdErr ys = 0 → ∃ pre q c base, readN ys = some (pre.map Cm.d) ∧ e = .returned (.tuple #[(frOf (ys.take 32)).v, .slice q pre.length c, .int .i64 0]) ∧ w.heap.size ≤ base ∧ Got w' base pre (.slice q pre.length c)
  grown : w.grownBy w' none
theorem read_any (ys : List Int) (q : Option Addr) (c n : Nat) (h : IsBytes w q c ys) (hn : ys.length = n) (hc : n ≤ c) (hcm : c ≤ 9223372036854775807) (hn47 : n ≤ 140737488355328) (hr : Small ys) :
    Calls Try.prog 28 #[.slice q n c] w fun e w' => RdAll w w' ys e := by
  by_cases h0 : frErr (ys.take 32) n = 0
  · refine (read_ok ys q c n h hn hc hcm hn47 hr h0).mono ?_
    rintro e w' ⟨h1, h2, hg⟩
    have hE : rdErr ys = if readN ys = none then 7 else 0 := by unfold rdErr; rw [hn, if_pos h0]
    refine ⟨fun hz => ?_, fun hz => ?_, hg⟩
    · rw [hE] at hz ⊢
      by_cases hx : readN ys = none
      · rw [if_pos hx]; exact h1 hx
      · rw [if_neg hx] at hz; exact absurd rfl hz
    · rw [hE] at hz
      cases hx : readN ys with
      | none => rw [if_pos hx] at hz; cases hz
      | some l =>
        obtain ⟨pre, q', c', base, hp, he, hb, hG⟩ := h2 l hx
        exact ⟨pre, q', c', base, by rw [hp], he, hb, hG⟩
  · refine (read_no ys q c n h hn hc hcm hn47 hr _ rfl h0).mono ?_
    rintro e w' ⟨rfl, hg⟩
    have hE : rdErr ys = frErr (ys.take 32) n := by unfold rdErr; rw [hn, if_neg h0]
    exact ⟨fun _ => by rw [hE], fun hz => absurd (hE ▸ hz) h0, hg⟩

structure ReadOut (w w' : World) (ys : List Int) (e : Ending) : Prop where
  bad : rdErr ys ≠ 0 → e = .returned (.tuple #[(Hd.mk 0 0 0).v, .slice none 0 0, .int .i64 (rdErr ys)])
  good : rdErr ys = 0 → ∃ pre q c base, readN ys = some (pre.map Cm.d) ∧ e = .returned (.tuple #[(Hd.of (frOf (ys.take 32))).v, .slice q pre.length c, .int .i64 0]) ∧ w.heap.size ≤ base ∧ Got w' base pre (.slice q pre.length c)
  grown : w.grownBy w' none

set_option maxHeartbeats 800000 in
theorem Read_any (ys : List Int) (q : Option Addr) (c n : Nat) (h : IsBytes w q c ys) (hn : ys.length = n) (hc : n ≤ c) (hcm : c ≤ 9223372036854775807) (hn47 : n ≤ 140737488355328) (hr : Small ys) :
    Calls Try.prog 16 #[.slice q n c] w fun e w' => ReadOut w w' ys e := by
  have RD := Lib.hid (fun (w1 : World) (hg : w.grownBy w1 none) => read_any (w := w1) ys q c n (h.kept hg (by simp)) hn hc hcm hn47 hr)
  have ZA : HdAt (w.alloc (.cells #[.int .i64 0, .int .i64 0, .int .u32 0] 37)) w.heap.size ⟨0, 0, 0⟩ := heap_alloc_new w _
  have HA := Lib.hid ZA
  have GA := Lib.hid (grown1 w (.cells #[.int .i64 0, .int .i64 0, .int .u32 0] 37))
  clear ZA h hn hr
  go_enter Try.func16, Try.ntmps16
  go_wp2_with fail
  refine (RD.out _ GA.out).mono ?_
  rintro e w1 ⟨hbad, hgood, hg⟩
  by_cases h0 : rdErr ys = 0
  · obtain ⟨pre, q', c', base, hp, rfl, hb, hG⟩ := hgood h0
    obtain ⟨⟨fs, fk, ff, K, S⟩, hf⟩ : ∃ f, f = frOf (ys.take 32) := ⟨_, rfl⟩
    rw [← hf]
    unfold Fr.v
    have gm := grown_trans hg (grown1 w1 (.cells #[.int .i64 fs, .int .i64 fk, .int .u32 ff, .int .u64 K, .int .u64 S] 89))
    have hA : (w1.alloc (.cells #[.int .i64 fs, .int .i64 fk, .int .u32 ff, .int .u64 K, .int .u64 S] 89)).heap[w.heap.size]? = some (.cells #[.int .i64 0, .int .i64 0, .int .u32 0] 37 (0, 0)) := (gm.block _ (lt_of_block HA.out) (by simp)).trans HA.out
    have a0 : (w1.alloc (.cells #[.int .i64 fs, .int .i64 fk, .int .u32 ff, .int .u64 K, .int .u64 S] 89)).cell? ⟨w.heap.size, 0, none⟩ = some (.int .i64 0) := by rw [cell_of hA]; rfl
    have a1 : (w1.alloc (.cells #[.int .i64 fs, .int .i64 fk, .int .u32 ff, .int .u64 K, .int .u64 S] 89)).cell? ⟨w.heap.size, 1, none⟩ = some (.int .i64 0) := by rw [cell_of hA]; rfl
    have a2 : (w1.alloc (.cells #[.int .i64 fs, .int .i64 fk, .int .u32 ff, .int .u64 K, .int .u64 S] 89)).cell? ⟨w.heap.size, 2, none⟩ = some (.int .u32 0) := by rw [cell_of hA]; rfl
    have y0 : ∀ i, (w1.alloc (.cells #[.int .i64 fs, .int .i64 fk, .int .u32 ff, .int .u64 K, .int .u64 S] 89)).frozen? ⟨w.heap.size, i, none⟩ = false := fun i => free_of hA
    have f0 := y0 0
    have f1 := y0 1
    have f2 := y0 2
    have hlt := lt_of_block hA
    have G1 := Lib.hid (grown_trans GA.out gm)
    have BA := Lib.hid hA
    have HG := Lib.hid (hG.over (Over.of_grown (hi := base) (grown1 w1 (.cells #[.int .i64 fs, .int .i64 fk, .int .u32 ff, .int .u64 K, .int .u64 S] 89)) (by simp)) (Nat.le_refl _))
    have HP := Lib.hid hp
    have HF := Lib.hid hf
    have HB := Lib.hid hb
    have H0 := Lib.hid h0
    have hbs : w.heap.size < base := by have := GA.out.size; simp at this hb; omega
    clear hg gm hA y0 hG hp hf hb hbad hgood h0
    go_wp2
    have PA := HdAt.put (w := w1.alloc (.cells #[.int .i64 fs, .int .i64 fk, .int .u32 ff, .int .u64 K, .int .u64 S] 89)) (g := w.heap.size) (h := ⟨0, 0, 0⟩) BA.out ⟨fs, fk, ff⟩
    have gP := grown_put3 (grown_refl (w1.alloc (.cells #[.int .i64 fs, .int .i64 fk, .int .u32 ff, .int .u64 K, .int .u64 S] 89)) (some w.heap.size)) (.int .i64 fs) (.int .i64 fk) (.int .u32 ff)
    refine bodyPost_ret (results_cell_tmp2 rfl _ _ _ rfl rfl rfl (load_hd PA)) rfl ?_
    refine ⟨fun hz => absurd H0.out hz, fun _ => ⟨pre, q', c', base, HP.out, ?_, by omega, HG.out.over (Over.of_grown (hi := base) gP (fun j e => by injection e with e; omega)) (Nat.le_refl _)⟩, grown_new G1.out gP (Nat.le_refl _)⟩
    rw [← HF.out]
    rfl
  · have he := hbad h0
    subst he
    obtain ⟨er, her⟩ : ∃ er, er = rdErr ys := ⟨_, rfl⟩
    have HE := Lib.hid her
    rw [← her] at h0 ⊢
    unfold Fr.v Fr.zero
    have gm := grown_trans hg (grown1 w1 (.cells #[.int .i64 0, .int .i64 0, .int .u32 0, .int .u64 0, .int .u64 0] 89))
    have hA : (w1.alloc (.cells #[.int .i64 0, .int .i64 0, .int .u32 0, .int .u64 0, .int .u64 0] 89)).heap[w.heap.size]? = some (.cells #[.int .i64 0, .int .i64 0, .int .u32 0] 37 (0, 0)) := (gm.block _ (lt_of_block HA.out) (by simp)).trans HA.out
    have a0 : (w1.alloc (.cells #[.int .i64 0, .int .i64 0, .int .u32 0, .int .u64 0, .int .u64 0] 89)).cell? ⟨w.heap.size, 0, none⟩ = some (.int .i64 0) := by rw [cell_of hA]; rfl
    have a1 : (w1.alloc (.cells #[.int .i64 0, .int .i64 0, .int .u32 0, .int .u64 0, .int .u64 0] 89)).cell? ⟨w.heap.size, 1, none⟩ = some (.int .i64 0) := by rw [cell_of hA]; rfl
    have a2 : (w1.alloc (.cells #[.int .i64 0, .int .i64 0, .int .u32 0, .int .u64 0, .int .u64 0] 89)).cell? ⟨w.heap.size, 2, none⟩ = some (.int .u32 0) := by rw [cell_of hA]; rfl
    have y0 : ∀ i, (w1.alloc (.cells #[.int .i64 0, .int .i64 0, .int .u32 0, .int .u64 0, .int .u64 0] 89)).frozen? ⟨w.heap.size, i, none⟩ = false := fun i => free_of hA
    have f0 := y0 0
    have f1 := y0 1
    have f2 := y0 2
    have hlt := lt_of_block hA
    have G1 := Lib.hid (grown_trans GA.out gm)
    have BA := Lib.hid hA
    have H0 := Lib.hid h0
    clear hg gm hA y0 hbad hgood her h0
    go_wp2
    have PA := HdAt.put (w := w1.alloc (.cells #[.int .i64 0, .int .i64 0, .int .u32 0, .int .u64 0, .int .u64 0] 89)) (g := w.heap.size) (h := ⟨0, 0, 0⟩) BA.out ⟨0, 0, 0⟩
    refine bodyPost_ret (results_cell_tmp2 rfl _ _ _ rfl rfl rfl (load_hd PA)) rfl ?_
    exact ⟨fun _ => (by rw [← HE.out]; rfl), fun hz => absurd (HE.out.trans hz) H0.out, grown_new G1.out (grown_put3 (grown_refl _ _) _ _ _) (Nat.le_refl _)⟩

end Go.Proofs.Ytemdbfgpimfkdaa

/- The document's cursor, and a number at a place of bytes: for seats from layer 4 on. No condition but that the place is within them. -/
namespace Go.Proofs.Ytemdbfgpimfkdaa
open Go.RowKit
variable {w w' : World}

/-- The document's cursor in a block of its own. -/
def RCur (w : World) (a : Nat) (q : Option Addr) (n c : Nat) (p : Int) (big bad : Bool) : Prop := w.heap[a]? = some (.cells #[.slice q n c, .int .i64 p, .bool big, .bool bad] 97 (0, 0))
section
variable {a : Nat} {q : Option Addr} {n c : Nat} {p : Int} {big bad : Bool}
theorem RCur.c0 (h : RCur w a q n c p big bad) : w.cell? ⟨a, 0, none⟩ = some (.slice q n c) := by rw [cell_of h]; rfl
theorem RCur.c1 (h : RCur w a q n c p big bad) : w.cell? ⟨a, 1, none⟩ = some (.int .i64 p) := by rw [cell_of h]; rfl
theorem RCur.c2 (h : RCur w a q n c p big bad) : w.cell? ⟨a, 2, none⟩ = some (.bool big) := by rw [cell_of h]; rfl
theorem RCur.c3 (h : RCur w a q n c p big bad) : w.cell? ⟨a, 3, none⟩ = some (.bool bad) := by rw [cell_of h]; rfl
theorem RCur.f (h : RCur w a q n c p big bad) (i : Nat) : w.frozen? ⟨a, i, none⟩ = false := free_of h
theorem RCur.set1 (h : RCur w a q n c p big bad) (k : Int) : RCur (w.setCell ⟨a, 1, none⟩ (.int .i64 k)) a q n c k big bad := by unfold RCur; rw [heap_setCell_same w a 1 _ _ _ h]; rfl
theorem RCur.set3 (h : RCur w a q n c p big bad) (b : Bool) : RCur (w.setCell ⟨a, 3, none⟩ (.bool b)) a q n c p big b := by unfold RCur; rw [heap_setCell_same w a 3 _ _ _ h]; rfl

theorem need_ok (h : RCur w a q n c p big false) :
    Calls Try.prog 47 #[.pointer (some ⟨a, 0, none⟩), .bool true] w fun e w' => e = .returned (.bool false) ∧ RCur w' a q n c p big false ∧ w.grownBy w' (some a) := by
  have c3 := h.c3
  have f3 := h.f 3
  have F := Lib.hid (h.set3 false)
  have G := Lib.hid (grown_setCell (i := 3) (grown_refl w (some a)) (.bool false))
  clear h
  go_enter Try.func47, Try.ntmps47
  go_wp2
  go_ret
  exact ⟨rfl, F.out, G.out⟩

set_option maxRecDepth 20000 in
set_option maxHeartbeats 1600000 in
theorem rbytes_ok {x : Addr} (h : RCur w a (some x) n c 0 big false) (k : Nat) (h0 : 0 < k) (hk : k ≤ n) (hn : n ≤ c) (hc : c ≤ 9223372036854775807) :
    Calls Try.prog 48 #[.pointer (some ⟨a, 0, none⟩), .int .i64 k] w fun e w' => e = .returned (.slice (some x) k c) ∧ RCur w' a (some x) n c k big false ∧ w.grownBy w' (some a) := by
  have c0 := h.c0
  have c1 := h.c1
  have c3 := h.c3
  have N := Lib.hid (fun (w1 : World) (hh : RCur w1 a (some x) n c 0 big false) => need_ok hh)
  have H := Lib.hid (show RCur w.drew a (some x) n c 0 big false from h)
  have D := Lib.hid (show w.grownBy w.drew (some a) from grown_drewN (grown_refl w (some a)) 1)
  clear h
  go_enter Try.func48, Try.ntmps48
  go_wp2
  go_still_tail 17, (by kernel_rfl)
  change wpList _ _ _ _ _ w.drew
  generalize w.drew = w1 at *
  go_wp2_with fail
  rw [show decide ((k : Int) ≤ (n : Int)) = true from decide_eq_true (by omega)]
  refine (N.out _ H.out).mono ?_
  rintro e w2 ⟨rfl, h2, hg2⟩
  have d0 := h2.c0
  have d1 := h2.c1
  have g1 := h2.f 1
  have hcne : ¬ c = 0 := by omega
  have G2 := Lib.hid (grown_trans D.out hg2)
  have G := Lib.hid (fun (w' : World) (hg : w.grownBy w' (some a)) => grown_setCell (i := 1) hg (.int .i64 (k : Int)))
  have F := Lib.hid (fun m => RCur.set1 (show RCur (w2.drewN m) a (some x) n c 0 big false from h2) k)
  clear h2 hg2 N H D c0 c1 c3
  go_wp2
  go_quiet (fail)
  go_wp2
  go_ret
  exact ⟨rfl, F.out _, G.out _ (grown_drewN G2.out _)⟩

/-- What has been read of a number behind so many rounds. -/
def acc (big : Bool) (ys : List Int) (j : Nat) : Int := if big then beN (ys.take j) else leN (ys.drop (ys.length - j))
theorem acc_bd {ys : List Int} (hy : Small ys) (big : Bool) (j : Nat) (hj : j ≤ ys.length) : 0 ≤ acc big ys j ∧ acc big ys j < 2 ^ (8 * j) := by
  cases big
  · have := leN_bd (ys.drop (ys.length - j)) (fun x hx => hy x (List.mem_of_mem_drop hx))
    rw [List.length_drop, show ys.length - (ys.length - j) = j by omega] at this
    exact this
  · have := beN_bd (ys.take j) (fun x hx => hy x (List.mem_of_mem_take hx))
    rw [List.length_take, Nat.min_eq_left hj] at this
    exact this
theorem acc_big (ys : List Int) (j : Nat) (hj : j < ys.length) : acc true ys (j + 1) = acc true ys j * 256 + ys.getD j 0 := by
  unfold acc
  rw [if_pos rfl, if_pos rfl, List.take_succ_eq_append_getElem hj, beN_snoc]
  simp [hj]
theorem acc_little (ys : List Int) (j : Nat) (hj : j < ys.length) : acc false ys (j + 1) = acc false ys j * 256 + ys.getD (ys.length - 1 - j) 0 := by
  unfold acc
  rw [if_neg (by simp), if_neg (by simp), List.drop_eq_getElem_cons (show ys.length - (j + 1) < ys.length by omega), show ys.length - (j + 1) + 1 = ys.length - j by omega]
  simp only [leN]
  rw [show ys.length - 1 - j = ys.length - (j + 1) by omega, List.getD_eq_getElem?_getD, List.getElem?_eq_getElem (by omega)]
  simp only [Option.getD_some]
  omega
theorem acc_all (big : Bool) (ys : List Int) : acc big ys ys.length = numOf big ys := by cases big <;> simp [acc, numOf]

theorem rnumber_ok {b o : Nat} (ys : List Int) (h : RCur w a (some ⟨b, o, none⟩) n c 0 big false) (k : Nat) (hs : k = 4 ∨ k = 8) (hk : k ≤ n) (hn : n ≤ c) (hc : c ≤ 9223372036854775807) (hl : ys.length = k) (hy : Small ys)
    (hb : ∀ i, i < k → ∀ w', w.grownBy w' (some a) → w'.cell? ⟨b, o + i, none⟩ = some (.int .u8 (ys.getD i 0))) :
    Calls Try.prog 34 #[.pointer (some ⟨a, 0, none⟩), .int .i64 k] w fun e w' => e = .returned (.int .u64 (numOf big ys)) ∧ w.grownBy w' (some a) := by
  have N := Lib.hid (need_ok h)
  have B := Lib.hid (fun w1 (h1 : RCur w1 a (some ⟨b, o, none⟩) n c 0 big false) => rbytes_ok h1 k (by omega) hk hn hc)
  have C := Lib.hid hb
  have Y := Lib.hid hy
  have L := Lib.hid hl
  have E := Lib.hid (acc_all big ys)
  clear h hb hy
  rcases hs with rfl | rfl
  all_goals
    go_enter Try.func34, Try.ntmps34
    go_wp2_with fail
    refine N.out.mono ?_
    rintro e w1 ⟨rfl, h1, hg1⟩
    have B1 := Lib.hid (B.out w1 h1)
    clear h1
    go_wp2_with fail
    refine B1.out.mono ?_
    rintro e w2 ⟨rfl, h2, hg2⟩
    have hg := grown_trans hg1 hg2
    have d2 := h2.c2
    have C2 := Lib.hid (fun i hi => C.out i hi w2 hg)
    have G := Lib.hid hg
    clear h2 hg1 hg2 hg hl
    go_wp2
    go_loop [6, 7] (fun n i => ∃ j : Nat, j ≤ ys.length ∧ i = .int .i64 j ∧ n = .int .u64 (acc big ys j)) (fun _ i => 8 - (intOf i).toNat)
    case atStart => exact ⟨0, Nat.zero_le _, rfl, by cases big <;> simp [acc, beN, leN]⟩
    case round =>
      obtain ⟨j, hj, rfl, rfl⟩ := hrel
      have hl := L.out
      by_cases hlt : j < ys.length
      · have hbd := acc_bd Y.out big j hj
        have hbd2 := acc_bd Y.out big (j + 1) hlt
        have hp : (2 : Int) ^ (8 * (j + 1)) ≤ 2 ^ 64 := by
          have : (2 : Nat) ^ (8 * (j + 1)) ≤ 2 ^ 64 := Nat.pow_le_pow_right (by decide) (by omega)
          exact_mod_cast this
        have hp64 : (2 : Int) ^ 64 = 18446744073709551616 := by decide
        have hb2 : acc big ys (j + 1) < 18446744073709551616 := by omega
        have hb0 := hbd2.1
        clear hbd2 hp hp64
        cases big
        · have hs := acc_little ys j hlt
          have cj := C2.out (ys.length - 1 - j) (by omega)
          have hx := Y.out _ (List.getElem_mem (show ys.length - 1 - j < ys.length by omega))
          rw [show ys[ys.length - 1 - j] = ys.getD (ys.length - 1 - j) 0 by rw [List.getD_eq_getElem?_getD, List.getElem?_eq_getElem (by omega)]; rfl] at hx
          have hi1 : ys.length - 1 - j = ys.length - 1 - j := rfl
          generalize ys.getD (ys.length - 1 - j) 0 = y at *
          rw [hl] at cj
          have S := Lib.hid hs
          have hA0 := hbd.1
          have hA1 : acc false ys j * 256 + y < 18446744073709551616 := by omega
          clear hbd hs hi1 hb2 hb0
          generalize acc false ys j = A at *
          go_wp2
          go_round
          case rel => exact ⟨j + 1, by omega, by go_num, by rw [S.out]⟩
          case measure => simp [intOf]; omega
        · have hs := acc_big ys j hlt
          have cj := C2.out j (by omega)
          have hx := Y.out _ (List.getElem_mem hlt)
          rw [show ys[j] = ys.getD j 0 by rw [List.getD_eq_getElem?_getD, List.getElem?_eq_getElem hlt]; rfl] at hx
          generalize ys.getD j 0 = y at *
          have S := Lib.hid hs
          have hA0 := hbd.1
          have hA1 : acc true ys j * 256 + y < 18446744073709551616 := by omega
          clear hbd hs hb2 hb0
          generalize acc true ys j = A at *
          go_wp2
          go_round
          case rel => exact ⟨j + 1, by omega, by go_num, by rw [S.out]⟩
          case measure => simp [intOf]; omega
      · have hjl : j = ys.length := by omega
        subst hjl
        go_wp2
        go_ret
        have hE := E.out
        rw [L.out] at hE
        exact ⟨congrArg (fun z => Ending.returned (Value.int .u64 z)) hE, G.out⟩

end
end Go.Proofs.Ytemdbfgpimfkdaa

/- The document's number of four bytes at a place of bytes; may a command be, by the document. No condition but that the place is within them. -/
namespace Go.Proofs.Ytemdbfgpimfkdaa
open Go.RowKit Go.Sort
variable {w w' : World}

/-- A piece of bytes, at a place that is there. -/
theorem cut_run {T : TypeId} (hT : Try.prog.underlying T = some (.slice (Try.prog.elem T))) (hs : ∀ W, (sizeOf (Try.prog.elem T)).run Try.prog W = .ok 1 W) (b o n c p k : Nat) (hk : p + k ≤ n) (hn : n ≤ c) (hp : 0 < k) (l h : Int) (hl : l = p) (hh : h = (p : Int) + k) (W : World) :
    (Instr.slice T (.slice (some ⟨b, o, none⟩) n c) (some (.int .i64 l)) (some (.int .i64 h)) none).run Try.prog W = .ok (.slice (some ⟨b, o + p, none⟩) k (c - p)) W := by
  rw [run_slice_lh (P := Try.prog) W T (some ⟨b, o, none⟩) n c hT .i64 .i64 l h (by omega) (by omega) (by omega), hs]
  simp only [Result.andThen, sliced]
  rw [if_neg (by omega), show h.toNat - l.toNat = k by omega, show l.toNat = p by omega]
  simp only [Option.map_some, add_flat, Nat.mul_one]
theorem size_u8 (W : World) : (sizeOf (Try.prog.elem 22)).run Try.prog W = .ok 1 W := by kernel_rfl

theorem get_any (ys : List Int) {q : Option Addr} {c n : Nat} (h : IsBytes w q c ys) (hn : ys.length = n) (hc : n ≤ c) (hcm : c ≤ 9223372036854775807) (hy : Small ys) (p : Nat) (hk : p + 4 ≤ n) :
    Calls Try.prog 18 #[.slice q n c, .int .i64 p] w fun e w' => e = .returned (.int .i64 (leN ((ys.drop p).take 4))) ∧ w.grownBy w' none := by
  obtain ⟨b, o, rfl, hcell⟩ := h.2 (by omega)
  have hbd := leN4_bd hy p
  have X := Lib.hid (fun (w1 : World) (a : Nat) (hw : w.grownBy w1 none) (ha : w.heap.size ≤ a) (hr : RCur w1 a (some ⟨b, o + p, none⟩) 4 (c - p) 0 false false) =>
    rnumber_ok ((ys.drop p).take 4) hr 4 (.inl rfl) (by omega) (by omega) (by omega) (by simp; omega) (fun x hx => hy x (List.mem_of_mem_drop (List.mem_of_mem_take hx))) (fun i hi w' hg => by
      have h1 := hcell (p + i) (by omega)
      have h2 : w'.cell? ⟨b, o + (p + i), none⟩ = some (.int .u8 (ys.getD (p + i) 0)) := (grown_new hw hg ha).cell h1 (by simp)
      rw [show o + p + i = o + (p + i) by omega, h2]
      simp [List.getD, hi]))
  have hS := fun W => cut_run (T := 22) (by kernel_rfl) size_u8 b o n c p 4 hk hc (by omega) (p : Int) ((p : Int) + 4) rfl rfl W
  have hb1 : (p : Int) + 4 ≤ 9223372036854775807 := by omega
  unfold numOf at X
  rw [if_neg (by simp)] at X
  clear h hcell hn hk hc hcm
  generalize leN ((ys.drop p).take 4) = V at *
  go_enter Try.func18, Try.ntmps18
  go_wp2_with fail
  have R : RCur (w.alloc (.cells #[.slice (some ⟨b, o + p, none⟩) 4 (c - p), .int .i64 0, .bool false, .bool false] 97)) w.heap.size (some ⟨b, o + p, none⟩) 4 (c - p) 0 false false := heap_alloc_new w _
  refine (X.out _ _ (grown1 _ _) (Nat.le_refl _) R).mono ?_
  rintro e w' ⟨rfl, hg⟩
  have G := Lib.hid (grown_new (grown1 _ _) hg (Nat.le_refl _))
  clear hg hS
  go_wp2
  go_ret
  exact ⟨rfl, G.out⟩

end Go.Proofs.Ytemdbfgpimfkdaa
