/- The slices that a fat file's entries say: the program's own call. No condition but that a file's bytes are not beyond the document's bound. -/
import Derived.Test.YtdjakaiadggemaaSlices
namespace Go.Proofs.Ytdjakaiadggemaa
open Go.RowKit
variable {w w' : World} {lo hi a : Nat} {ys : List Int} {p : Nat} {bad : Bool}

theorem take_both (h : Pen w lo hi a ys p true bad) (wide : Bool) :
    Calls Try.prog 42 #[shapeV wide, .pointer (some ⟨a, 0, none⟩)] w fun e w' =>
      ∃ (s : Sl) (p' : Nat) (bad' : Bool), e = .returned s.v ∧ Pen w' lo hi a ys p' true bad' ∧ w.grownBy w' (some a) ∧
        ((bad = false ∧ p + esize wide ≤ ys.length ∧ s = entry wide ys p ∧ p' = p + esize wide ∧ bad' = false) ∨ (bad' = true ∧ (bad = true ∨ ys.length < p + esize wide))) := by
  cases bad
  · by_cases hn : p + esize wide ≤ ys.length
    · refine (take_entry h wide hn).mono ?_
      rintro e w' ⟨rfl, hp, hg⟩
      exact ⟨_, _, _, rfl, hp, hg, .inl ⟨rfl, hn, rfl, rfl, rfl⟩⟩
    · refine (take_fails h wide (.inr (by omega))).mono ?_
      rintro e w' ⟨s, p', rfl, hp, hg⟩
      exact ⟨_, _, _, rfl, hp, hg, .inr ⟨rfl, .inr (by omega)⟩⟩
  · refine (take_fails h wide (.inl rfl)).mono ?_
    rintro e w' ⟨s, p', rfl, hp, hg⟩
    exact ⟨_, _, _, rfl, hp, hg, .inr ⟨rfl, .inl rfl⟩⟩

def ShapeAt (w : World) (g : Nat) (wide : Bool) : Prop := w.heap[g]? = some (.cells #[.string (magicOf wide), .int .i64 (plc wide), .int .i64 (rst wide)] 62 (0, 0))
theorem ShapeAt.c0 {g : Nat} {wide : Bool} (h : ShapeAt w g wide) : w.cell? ⟨g, 0, none⟩ = some (.string (magicOf wide)) := by rw [cell_of h]; rfl
theorem ShapeAt.c1 {g : Nat} {wide : Bool} (h : ShapeAt w g wide) : w.cell? ⟨g, 1, none⟩ = some (.int .i64 (plc wide)) := by rw [cell_of h]; rfl
theorem ShapeAt.c2 {g : Nat} {wide : Bool} (h : ShapeAt w g wide) : w.cell? ⟨g, 2, none⟩ = some (.int .i64 (rst wide)) := by rw [cell_of h]; rfl
theorem ShapeAt.kept {g : Nat} {wide : Bool} {row : Option Nat} (h : ShapeAt w g wide) (hg : w.grownBy w' row) (hr : row ≠ some g) : ShapeAt w' g wide := (hg.block g (lt_of_block h) (fun e => hr e.symm)).trans h

/-- So many entries have been taken. -/
structure LRel (w wr : World) (g0 lo hi a : Nat) (ys : List Int) (wide : Bool) (v : Value) (k : Nat) : Prop where
  ex : ∃ (L : List Sl) (p : Nat) (bad : Bool), L.length = k ∧ wr.ownsRow hi 42 5 v k (rowOf L) ∧ Pen wr lo hi a ys p true bad ∧
    ((bad = false ∧ p = 8 + k * esize wide ∧ L = entries wide ys k) ∨ (bad = true ∧ ys.length < 8 + k * esize wide))
  shape : ShapeAt wr g0 wide
  below : g0 < lo
  old : w.heap.size ≤ g0
  grown : w.grownBy wr none
theorem grown_own {w1 w2 : World} {v : Value} {B : Nat} (h : w.grownBy w1 none) (hg : w1.grownBy w2 v.ownBlock) (hv : ∀ g, v.ownBlock = some g → B ≤ g) (hB : w.heap.size ≤ B) : w.grownBy w2 none := by
  cases hb : v.ownBlock with
  | none => rw [hb] at hg; exact grown_trans h hg
  | some g => rw [hb] at hg; exact grown_new h hg (Nat.le_trans hB (hv g hb))
theorem pen_own {w1 w2 : World} {v : Value} (h : Pen w1 lo hi a ys p true bad) (hg : w1.grownBy w2 v.ownBlock) (hv : ∀ g, v.ownBlock = some g → hi ≤ g) : Pen w2 lo hi a ys p true bad := by
  cases hb : v.ownBlock with
  | none => rw [hb] at hg; exact h.same hg
  | some g => rw [hb] at hg; exact h.kept hg (.inr (hv g hb))
theorem LRel.next {wr w2 w3 w4 : World} {g0 : Nat} {wide : Bool} {v v' : Value} {k : Nat} {L : List Sl} {p p' : Nat} {bad bad' : Bool} {s : Sl} (h : LRel w wr g0 lo hi a ys wide v k)
    (hL : L.length = k) (hown : wr.ownsRow hi 42 5 v k (rowOf L)) (hpen : Pen wr lo hi a ys p true bad) (hd : (bad = false ∧ p = 8 + k * esize wide ∧ L = entries wide ys k) ∨ (bad = true ∧ ys.length < 8 + k * esize wide))
    (hp2 : Pen w2 lo hi a ys p' true bad') (hg2 : wr.grownBy w2 (some a))
    (hs : (bad = false ∧ p + esize wide ≤ ys.length ∧ s = entry wide ys p ∧ p' = p + esize wide ∧ bad' = false) ∨ (bad' = true ∧ (bad = true ∨ ys.length < p + esize wide)))
    (hg3 : w2.grownBy w3 none) (ho : w4.ownsRow hi 42 5 v' (k + 1) (rowOf (L ++ [s]))) (hg4 : w3.grownBy w4 v.ownBlock) : LRel w w4 g0 lo hi a ys wide v' (k + 1) := by
  have hv : ∀ g, v.ownBlock = some g → hi ≤ g := fun g hg => (hown.lt g hg).1
  have h0 : g0 < lo := h.below
  have hup := hpen.up
  have hlw := hpen.lw
  refine ⟨⟨L ++ [s], p', bad', by simp [hL], ho, pen_own (hp2.same hg3) hg4 hv, ?_⟩, ?_, h.below, h.old, ?_⟩
  · rw [Nat.succ_mul]
    rcases hs with ⟨e1, e2, e3, e4, e5⟩ | ⟨e1, e2⟩
    · rcases hd with ⟨d1, d2, d3⟩ | ⟨d1, d2⟩
      · exact .inl ⟨e5, by rw [e4, d2]; omega, by rw [entries_succ, d3, e3, d2]⟩
      · rw [e1] at d1; cases d1
    · refine .inr ⟨e1, ?_⟩
      rcases hd with ⟨d1, d2, d3⟩ | ⟨d1, d2⟩
      · rcases e2 with e2 | e2
        · rw [d1] at e2; cases e2
        · omega
      · omega
  · refine ShapeAt.kept (((h.shape.kept hg2 (fun e => by injection e with e; omega))).kept hg3 (by simp)) hg4 (fun e => ?_)
    have := hv g0 e
    omega
  · exact grown_own (grown_trans (grown_new h.grown hg2 (Nat.le_trans h.old (by omega))) hg3) hg4 hv (Nat.le_trans h.old (by omega))

theorem listed_any (wide : Bool) (ys : List Int) (q : Option Addr) (c n : Nat) (h : IsBytes w q c ys) (hn : ys.length = n) (h4 : 4 ≤ n) (hm : n ≤ 1048576) (hr : Small ys) :
    Calls Try.prog 21 #[.slice q n c, shapeV wide] w fun e w' => SlOut w w' (listN wide ys) e := by
  have C := Lib.hid (fun (w1 : World) (hg : w.grownBy w1 none) => pen_new (h.kept hg (by simp)) hn (by omega) hr true)
  have HN := Lib.hid hn
  have hfit := fun k => entries_fit hr wide k
  have FI := Lib.hid hfit
  have abd := at_bd4 hr 4
  obtain ⟨r, hrr⟩ : ∃ r, r = listN wide ys := ⟨_, rfl⟩
  rw [← hrr]
  have RR := Lib.hid hrr
  unfold listN at hrr
  have S0 : ShapeAt (w.alloc (.cells #[.string (magicOf wide), .int .i64 (plc wide), .int .i64 (rst wide)] 62)) w.heap.size wide := heap_alloc_new w _
  have S := Lib.hid S0
  have hes : esize wide ≤ 32 := by cases wide <;> decide
  clear h hfit S0 hr
  unfold shapeV
  go_enter Try.func21, Try.ntmps21
  go_wp2_with fail
  refine (C.out _ (grown1 _ _)).mono ?_
  rintro e w1 ⟨a, rfl, hp, hb⟩
  have hgb := grown_below hb none
  have G1 := Lib.hid (grown_trans (grown1 w _) hgb)
  have S1 := Lib.hid (S.out.kept hgb (by simp))
  have hsz : (w.alloc (.cells #[.string (magicOf wide), .int .i64 (plc wide), .int .i64 (rst wide)] 62)).heap.size = w.heap.size + 1 := by simp
  rw [hsz] at hp
  have hlw := hp.lw
  clear hb hgb hsz
  go_wp2_with fail
  refine (pen_seek hp 4 (by omega)).mono ?_
  rintro e w2 ⟨rfl, hp2, hg2⟩
  have G2 := Lib.hid (grown_new G1.out hg2 (by omega))
  have S2 := Lib.hid (S1.out.kept hg2 (fun e => by injection e with e; omega))
  clear hp hg2
  by_cases h8 : n < 8
  · rw [if_pos (by omega)] at hrr
    have R3 := Lib.hid hrr
    clear hrr
    go_wp2_with fail
    refine (pen_num_no hp2 4 (.inr (.inr (by omega)))).mono ?_
    rintro e w3 ⟨rfl, hp3, hg3⟩
    have G3 := Lib.hid (grown_new G2.out hg3 (by omega))
    clear hp2 hg3
    go_wp2_with fail
    refine (pen_err hp3).mono ?_
    rintro e w4 ⟨rfl, rfl⟩
    clear hp3
    go_wp2
    go_ret2
    rw [R3.out]
    exact slOut_nil G3.out
  · rw [if_neg (by omega)] at hrr
    have HP := Lib.hid (pen_num hp2 4 (by omega) (by omega))
    rw [show numOf true ((ys.drop 4).take 4) = at' ys 4 4 from rfl] at HP
    generalize hx : at' ys 4 4 = x at *
    obtain ⟨N, hN⟩ := Int.eq_ofNat_of_zero_le abd.1
    subst hN
    clear hp2
    go_wp2_with fail
    refine HP.out.mono ?_
    rintro e w3 ⟨rfl, hp3, hg3⟩
    have G3 := Lib.hid (grown_new G2.out hg3 (by omega))
    have S3 := Lib.hid (S2.out.kept hg3 (fun e => by injection e with e; omega))
    clear hg3 HP
    go_wp2_with fail
    refine (pen_err hp3).mono ?_
    rintro e w4 ⟨rfl, rfl⟩
    by_cases h32 : (32 : Int) < N
    · rw [if_pos h32] at hrr
      have R3 := Lib.hid hrr
      clear hrr hp3
      go_wp2
      go_ret2
      rw [R3.out]
      exact slOut_nil G3.out
    · rw [if_neg h32, Int.toNat_natCast] at hrr
      have R3 := Lib.hid hrr
      have L0 : LRel w w3 w.heap.size (w.heap.size + 1) w1.heap.size a ys wide (.slice none 0 0) 0 :=
        ⟨⟨[], _, _, rfl, World.ownsRow_nil _ _ _ _, hp3, .inl ⟨rfl, by omega, rfl⟩⟩, S3.out, by omega, Nat.le_refl _, G3.out⟩
      have X := Lib.hid hx
      clear hrr hp3 hx abd
      go_wp2
      go_loopw [8, 22] (fun v i wr => ∃ k : Nat, k ≤ N ∧ i = .int .u64 k ∧ LRel w wr w.heap.size (w.heap.size + 1) w1.heap.size a ys wide v k) (fun _ i _ => N - (intOf i).toNat)
      case atStart => exact ⟨0, Nat.zero_le _, rfl, L0⟩
      case round =>
        obtain ⟨k, hk, rfl, hrl⟩ := hrel
        obtain ⟨L, p, bad, hL, hown, hpen, hd⟩ := hrl.ex
        obtain ⟨qv, cv, rfl⟩ := own_slice hown
        have d0 := hrl.shape.c0
        have d1 := hrl.shape.c1
        have d2 := hrl.shape.c2
        have K := Lib.hid hrl
        have HL := Lib.hid hL
        have O := Lib.hid hown
        have D := Lib.hid hd
        clear hrl hL hown hd L0
        by_cases hlt : k < N
        · have TB := Lib.hid (take_both hpen wide)
          have P := Lib.hid hpen
          have hup := hpen.up
          clear hpen
          unfold shapeV at TB
          go_wp2_with fail
          refine TB.out.mono ?_
          rintro e w5 ⟨s, p', bad', rfl, hp5, hg5, hs5⟩
          rw [show s.v = .agg #[.int .u32 s.cpu, .int .u32 s.sub, .int .u64 s.off, .int .u64 s.size, .int .i64 s.align] from rfl]
          have hne : (Value.slice qv k cv).ownBlock ≠ some a := fun e => by have := (O.out.lt _ e).1; omega
          have OA := Lib.hid ((O.out.kept hg5 (.inr hne)).alloc (.cells #[.int .u32 s.cpu, .int .u32 s.sub, .int .u64 s.off, .int .u64 s.size, .int .i64 s.align] 42))
          have hsz : w1.heap.size ≤ (w5.alloc (.cells #[.int .u32 s.cpu, .int .u32 s.sub, .int .u64 s.off, .int .u64 s.size, .int .i64 s.align] 42)).heap.size := by have := hp5.sz; simp; omega
          have SZ := Lib.hid hsz
          have P5 := Lib.hid (And.intro hp5 (And.intro hg5 hs5))
          clear hp5 hg5 hs5 hne hsz d0 d1 d2
          go_wp2_with (at_builtin; refine wp_append_sl rfl _ _ rfl _ _ L rfl OA.out s w5.heap.size rfl (SlAt.new w5 s) (by omega) SZ.out ?_)
          intro v' w6 ho6 hg6
          obtain ⟨q6, c6, rfl⟩ := own_slice ho6
          have NX := Lib.hid (K.out.next HL.out O.out P.out D.out P5.out.1 P5.out.2.1 P5.out.2.2 (grown1 w5 _) ho6 hg6)
          clear ho6 hg6
          go_wp2
          go_roundw
          case rel => exact ⟨k + 1, by omega, by go_num, NX.out⟩
          case measure => simp [intOf]; omega
        · have hkN : k = N := by omega
          subst hkN
          have hlt2 := hpen.lw
          have hlt3 := hpen.up
          go_wp2_with fail
          refine (pen_err hpen).mono ?_
          rintro e w5 ⟨rfl, rfl⟩
          rcases D.out with ⟨rfl, rfl, rfl⟩ | ⟨rfl, hshort⟩
          · have hle := hpen.le
            rw [if_neg (by omega)] at R3
            obtain ⟨hsl, hc1, hc2⟩ := IsSl.of_own (entries_len wide ys k) O.out
            have e1 : (((8 + k * esize wide : Nat) : Int) % 18446744073709551616) = ((8 + k * esize wide : Nat) : Int) := by omega
            have e2 : ((n : Int) % 18446744073709551616) = n := by omega
            have WR := Lib.hid (wrong_any (entries wide ys k) (by rw [entries_len]; omega) (FI.out k) qv cv hsl (by rw [entries_len]; exact hc1) hc2 ((8 + k * esize wide : Nat) : Int) n (by omega) (by omega))
            rw [entries_len] at WR
            have SL := Lib.hid hsl
            have hce : (((8 + k * esize wide : Nat) : Int)) = 8 + (k : Int) * (esize wide : Nat) := by omega
            have hr4 := R3.out
            rw [← hce, hn] at hr4
            clear R3 hsl hce
            generalize hP : 8 + k * esize wide = P at *
            clear hP D d0 d1 d2
            go_wp2_with fail
            refine (pen_at hpen).mono ?_
            rintro e w6 ⟨rfl, rfl⟩
            clear hpen hle
            by_cases hbad : Bad (entries wide ys k) P n
            · rw [if_pos hbad] at WR hr4
              have R5 := Lib.hid hr4
              clear hr4 hbad
              go_wp2_with fail
              refine WR.out.mono ?_
              rintro e w7 ⟨rfl, hg7⟩
              have G7 := Lib.hid (grown_trans K.out.grown hg7)
              clear hg7
              go_wp2
              go_ret2
              rw [R5.out]
              exact slOut_nil G7.out
            · rw [if_neg hbad] at WR hr4
              by_cases htw : Twin (entries wide ys k)
              · rw [if_pos htw] at WR hr4
                have R5 := Lib.hid hr4
                clear hr4 hbad htw
                go_wp2_with fail
                refine WR.out.mono ?_
                rintro e w7 ⟨rfl, hg7⟩
                have G7 := Lib.hid (grown_trans K.out.grown hg7)
                clear hg7
                go_wp2
                go_ret2
                rw [R5.out]
                exact slOut_nil G7.out
              · rw [if_neg htw] at WR hr4
                have R5 := Lib.hid hr4
                clear hr4 hbad htw
                go_wp2_with fail
                refine WR.out.mono ?_
                rintro e w7 ⟨rfl, hg7⟩
                have G7 := Lib.hid (grown_trans K.out.grown hg7)
                have SL7 := Lib.hid (SL.out.grown hg7)
                clear hg7
                go_wp2
                go_ret2
                rw [R5.out]
                exact ⟨⟨qv, cv, by rw [entries_len]; rfl, SL7.out, by rw [entries_len]; exact hc1, hc2⟩, G7.out⟩
          · rw [if_pos (by omega)] at R3
            have G7 := Lib.hid K.out.grown
            clear d0 d1 d2 hpen
            go_wp2
            go_ret2
            rw [R3.out]
            exact slOut_nil G7.out

theorem bytes_inj : ∀ {xs ys : List Int}, Small xs → Small ys → Lib.bytesOf xs = Lib.bytesOf ys → xs = ys
  | [], [], _, _, _ => rfl
  | [], _ :: _, _, _, h => by simp [Lib.bytesOf] at h
  | _ :: _, [], _, _, h => by simp [Lib.bytesOf] at h
  | x :: xs, y :: ys, hx, hy, h => by
    simp only [Lib.bytesOf, List.map_cons, List.cons.injEq] at h
    have a := hx x (List.mem_cons_self ..)
    have b := hy y (List.mem_cons_self ..)
    have e : (UInt8.ofNat x.toNat).toNat = (UInt8.ofNat y.toNat).toNat := by rw [h.1]
    simp only [UInt8.toNat_ofNat'] at e
    rw [bytes_inj (fun z hz => hx z (List.mem_cons_of_mem _ hz)) (fun z hz => hy z (List.mem_cons_of_mem _ hz)) h.2, show x = y by omega]
theorem small_lit {l : List Int} (h : l.all (fun x => decide (0 ≤ x) && decide (x < 256)) = true) : Small l := fun x hx => by
  have := List.all_eq_true.1 h x hx
  simpa using this
/-- Does a text begin so? By its bytes. -/
theorem text_is {xs ys : List Int} (hx : Small xs) (hy : Small ys) : ((strOfNums xs).toList == Lib.bytesOf ys) = decide (xs = ys) := by
  rw [Lib.strOfNums_toList]
  by_cases h : xs = ys
  · subst h; simp
  · rw [decide_eq_false h, beq_eq_false_iff_ne]
    exact fun e => h (bytes_inj hx hy e)
set_option maxRecDepth 20000 in
theorem slices_any (ys : List Int) (q : Option Addr) (c n : Nat) (h : IsBytes w q c ys) (hn : ys.length = n) (hc : n ≤ c) (hcm : c ≤ 9223372036854775807) (hr : Small ys) :
    Calls Try.prog 9 #[.slice q n c] w fun e w' => SlOut w w' (slicesN ys) e := by
  have hrr : ∃ r, r = slicesN ys := ⟨_, rfl⟩
  obtain ⟨r, hrr⟩ := hrr
  rw [← hrr]
  unfold slicesN at hrr
  rw [hn] at hrr
  by_cases h1 : 1048576 < n
  · rw [if_pos h1] at hrr
    have R := Lib.hid hrr
    have hd : decide ((1048576 : Int) < n) = true := by simp; omega
    clear hrr
    go_enter Try.func9, Try.ntmps9
    go_wp2
    go_ret2
    rw [R.out]
    exact slOut_nil (grown_refl _ _)
  · rw [if_neg h1] at hrr
    by_cases h4 : n < 4
    · rw [if_pos h4] at hrr
      have R := Lib.hid hrr
      clear hrr
      go_enter Try.func9, Try.ntmps9
      go_wp2
      go_ret2
      rw [R.out]
      exact slOut_nil (grown_refl _ _)
    · rw [if_neg h4] at hrr
      have cv : ∀ c', (q = none → c' = 0) → (convert 22 9 (.slice q 4 c')).run Try.prog w = .ok (.string (strOfNums (ys.take 4))) w := fun c' h0 => (h.take 4 h0).text (by simp; omega)
      have W := Lib.hid (whole_any ys q c n h hn (by omega) (by omega) hr)
      have L := Lib.hid (fun wide (w1 : World) (hg : w.grownBy w1 none) => listed_any (w := w1) wide ys q c n (h.kept hg (by simp)) hn (by omega) (by omega) hr)
      have H := Lib.hid h
      have R := Lib.hid hrr
      have hq : ∃ x, q = some x := by
        obtain ⟨b, o, e, _⟩ := h.2 (by omega)
        exact ⟨_, e⟩
      obtain ⟨x, rfl⟩ := hq
      have cv2 := cv c (fun e => by cases e)
      have hs4 : Small (ys.take 4) := fun x hx => hr x (List.mem_of_mem_take hx)
      have t1 : ((strOfNums (ys.take 4)).toList == [207, 250, 237, 254]) = decide (ys.take 4 = [207, 250, 237, 254]) := text_is (ys := [207, 250, 237, 254]) hs4 (small_lit rfl)
      have t2 : ((strOfNums (ys.take 4)).toList == [202, 254, 186, 190]) = decide (ys.take 4 = [202, 254, 186, 190]) := text_is (ys := [202, 254, 186, 190]) hs4 (small_lit rfl)
      have t3 : ((strOfNums (ys.take 4)).toList == [202, 254, 186, 191]) = decide (ys.take 4 = [202, 254, 186, 191]) := text_is (ys := [202, 254, 186, 191]) hs4 (small_lit rfl)
      clear h hr cv R hs4
      by_cases m1 : ys.take 4 = [207, 250, 237, 254]
      · rw [if_pos m1] at hrr
        rw [decide_eq_true m1] at t1
        have R := Lib.hid hrr
        clear hrr m1 t2 t3
        generalize strOfNums (ys.take 4) = T at *
        go_enter Try.func9, Try.ntmps9
        go_wp2_with fail
        refine W.out.mono ?_
        rintro e w' ⟨⟨q2, c2, rfl, hsl, hc1, hc2⟩, hg⟩
        have O := Lib.hid (show SlOut w w' (thinN ys) _ from ⟨⟨q2, c2, rfl, hsl, hc1, hc2⟩, hg⟩)
        rw [← R.out] at O ⊢
        clear hsl hg
        go_wp2
        go_ret2
        exact O.out
      · rw [if_neg m1] at hrr
        rw [decide_eq_false m1] at t1
        by_cases m2 : ys.take 4 = [202, 254, 186, 190]
        · rw [if_pos m2] at hrr
          rw [decide_eq_true m2] at t2
          have R := Lib.hid hrr
          clear hrr m1 m2 t3
          generalize strOfNums (ys.take 4) = T at *
          go_enter Try.func9, Try.ntmps9
          go_wp2_with fail
          refine (shapeOf_any false).mono ?_
          rintro e w1 ⟨rfl, hg1⟩
          have L1 := Lib.hid (L.out false w1 hg1)
          have G1 := Lib.hid hg1
          clear hg1
          unfold shapeV at L1 ⊢
          go_wp2_with fail
          refine L1.out.mono ?_
          rintro e w' ⟨⟨q2, c2, rfl, hsl, hc1, hc2⟩, hg⟩
          have O := Lib.hid (show SlOut w w' (listN false ys) _ from ⟨⟨q2, c2, rfl, hsl, hc1, hc2⟩, grown_trans G1.out hg⟩)
          rw [← R.out] at O ⊢
          clear hsl hg
          go_wp2
          go_ret2
          exact O.out
        · rw [if_neg m2] at hrr
          rw [decide_eq_false m2] at t2
          by_cases m3 : ys.take 4 = [202, 254, 186, 191]
          · rw [if_pos m3] at hrr
            rw [decide_eq_true m3] at t3
            have R := Lib.hid hrr
            clear hrr m1 m2 m3
            generalize strOfNums (ys.take 4) = T at *
            go_enter Try.func9, Try.ntmps9
            go_wp2_with fail
            refine (shapeOf_any true).mono ?_
            rintro e w1 ⟨rfl, hg1⟩
            have L1 := Lib.hid (L.out true w1 hg1)
            have G1 := Lib.hid hg1
            clear hg1
            unfold shapeV at L1 ⊢
            go_wp2_with fail
            refine L1.out.mono ?_
            rintro e w' ⟨⟨q2, c2, rfl, hsl, hc1, hc2⟩, hg⟩
            have O := Lib.hid (show SlOut w w' (listN true ys) _ from ⟨⟨q2, c2, rfl, hsl, hc1, hc2⟩, grown_trans G1.out hg⟩)
            rw [← R.out] at O ⊢
            clear hsl hg
            go_wp2
            go_ret2
            exact O.out
          · rw [if_neg m3] at hrr
            rw [decide_eq_false m3] at t3
            have R := Lib.hid hrr
            clear hrr m1 m2 m3
            generalize strOfNums (ys.take 4) = T at *
            go_enter Try.func9, Try.ntmps9
            go_wp2
            go_ret2
            rw [R.out]
            exact slOut_nil (grown_refl _ _)
end Go.Proofs.Ytdjakaiadggemaa
