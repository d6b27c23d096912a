import Derived.Test.YtdagnkdonlfobaaGreatM17
import Derived.Test.YtdagnkdonlfobaaGreatM19
import Derived.Laws.MakeOwn
import Derived.OwnWalk
import Derived.Laws.OwnMore
import Derived.Shelf.SlGeneric
import Derived.Ground.SlsfProg
import Derived.Shelf.SlSortCmp.WholeK
import Derived.Test.YtdagnkdonlfobaaGreatProg
/- lay.Slides, walked. Conditions: images by their cells and lists; a base. -/
namespace Go.Proofs.YtdagnkdonlfobaaGreat
open Go.RowKit Go.Sort
variable {w w' W : World}

theorem own_chg {F : Nat → Prop} {lo k n : Nat} {T : TypeId} {v : Value} {xs : List Value} (h : w.ownsRow lo T k v n xs) (hg : Chg F w w') (hF : ∀ g, lo ≤ g → ¬ F g) : w'.ownsRow lo T k v n xs := by
  refine ⟨h.1, ?_⟩
  rcases h.2 with hn | ⟨g, cap, cur, rfl, hb, hgg, rest⟩
  · exact .inl hn
  · exact .inr ⟨g, cap, cur, rfl, hb, (hg.block g (Array.getElem?_eq_some_iff.1 hgg).1 (hF g hb)).trans hgg, rest⟩
theorem grown_chg {F : Nat → Prop} (hg : w.grownBy W none) (h : Chg F W w') (hF : ∀ k, F k → w.heap.size ≤ k) : w.grownBy w' none :=
  ⟨h.os.trans hg.os, h.tape.trans hg.tape, h.output.trans hg.output, Nat.le_trans hg.size h.size, fun k hk _ => (h.block k (Nat.lt_of_lt_of_le hk hg.size) (fun e => by have := hF k e; omega)).trans (hg.block k hk (by simp))⟩
/-- An image as it is handed in. -/
structure Im where
  h : Hx
  s : St
  l : List Sg
  qs : Option Addr
  cs : Nat
  qd : Option Addr
  nd : Nat
  cd : Nat
def Im.sv (x : Im) : Value := .slice x.qs x.l.length x.cs
def Im.dv (x : Im) : Value := .slice x.qd x.nd x.cd
def Im.arr (x : Im) : Array Value := imgArr x.h x.s x.sv x.dv
structure ImAt (w : World) (g o : Nat) (x : Im) : Prop where
  cells : ∀ (j : Nat) v, x.arr[j]? = some v → w.cell? ⟨g, o + j, none⟩ = some v
  rows : ImgRows w x.s x.l x.qs x.cs
  low : U64 (lowN x.s.segs)
  high : U64 (highN x.s.segs)
theorem ImAt.kept {g o : Nat} {x : Im} (k : ImAt w g o x) (hg : w.grownBy w' none) : ImAt w' g o x := ⟨fun j v hv => grown_cell hg (k.cells j v hv), k.rows.grown hg, k.low, k.high⟩
theorem run_loadImgO {g o : Nat} {x : Im} (k : ImAt w g o x) : (loadVar 41 ⟨g, o, none⟩).run Tryz.prog w = .ok (imgV x.h x.s x.sv x.dv) w := by
  have hl : (loadCells ⟨g, o, none⟩ x.arr.toList.length).run Tryz.prog w = .ok x.arr.toList.toArray w :=
    run_loadCells_list (P := Tryz.prog) w ⟨g, o, none⟩ x.arr.toList (fun j v hv => by
      rw [add_flat]
      exact k.cells j v (by simpa using hv))
  cases hq : Tryz.prog.info? 41 with
  | none => have := imgInfo; simp [hq] at this
  | some i =>
    have hs : i.size = 24 := by have := imgInfo; simpa [hq] using this
    have hagg : (isAgg 41).run Tryz.prog w = .ok true w := by
      unfold isAgg
      rw [Sem.run_bind, run_underlying Tryz.underlying41 w]
      rfl
    have hl' : (loadCells ⟨g, o, none⟩ 24).run Tryz.prog w = .ok x.arr w := hl
    simp [loadVar, Sem.run_bind, hagg, sizeOf, typeInfo, hq, hs, hl', imgV, Im.arr]
theorem wpList_load_imgO {g o' : Nat} {x : Im} {ops : Array Oper} {rest : List Oper} {o : Oper} {a : Act} {Q : Exit → Act → World → Prop} (hgd : o.guard = none) (y : Operand) (ho : o.op = .load 41 y)
    (hx : a.eval y = .pointer (some ⟨g, o', none⟩)) (k : ImAt w g o' x) (hK : wpList Tryz.prog ops Q rest (a.put o.dst (imgV x.h x.s x.sv x.dv)) w) : wpList Tryz.prog ops Q (o :: rest) a w := by
  refine wpList_plain hgd fun _ hK' => ?_
  unfold Oper.wp execOp
  simp only [ho, hx, Instr.loadAt, Instr.sureAddr, Sem.run_bind, Sem.run_pure, Result.andThen_ok, run_loadImgO k]
  exact hK' _ _ hK

theorem u64Type : StType Tryz.prog 33 23 1 8 := .mk' Tryz.underlying23 (z := .int .u64 0) (by kernel_rfl) rfl (by decide)

/-- The place, and whether an image is the first one, behind some images. -/
def plSt (z : Int × Bool) (x : Im) : Int × Bool := (plNext z.1 (z.2 && fixedB x.h) (lowN x.s.segs) (highN x.s.segs), false)
def plSeq (base : Int) (xs : List Im) (k : Nat) : Int × Bool := (xs.take k).foldl plSt (base, true)
def slErrOf (z : Int × Bool) (x : Im) : Int := plErr z.1 (z.2 && fixedB x.h) (lowN x.s.segs) (highN x.s.segs)
def slideOf (z : Int × Bool) (x : Im) : Int := plSlide z.1 (z.2 && fixedB x.h) (lowN x.s.segs)
theorem plSeq_succ {base : Int} {xs : List Im} {k : Nat} {x : Im} (h : xs[k]? = some x) : plSeq base xs (k + 1) = plSt (plSeq base xs k) x := by
  obtain ⟨hk, rfl⟩ := List.getElem?_eq_some_iff.1 h
  unfold plSeq
  rw [List.take_succ_eq_append_getElem hk, List.foldl_append]; rfl
/-- All slides, of so many images. -/
def slidesTo (base : Int) (xs : List Im) : Nat → List Int
  | 0 => []
  | k + 1 => slidesTo base xs k ++ (match xs[k]? with | some x => [slideOf (plSeq base xs k) x] | none => [])
theorem slidesTo_succ {base : Int} {xs : List Im} {k : Nat} {x : Im} (h : xs[k]? = some x) : slidesTo base xs (k + 1) = slidesTo base xs k ++ [slideOf (plSeq base xs k) x] := by
  show slidesTo base xs k ++ _ = _
  rw [h]
def errTo (base : Int) (xs : List Im) (k : Nat) : Prop := ∀ j x, j < k → xs[j]? = some x → slErrOf (plSeq base xs j) x = 0
theorem pl_bound {z : Int × Bool} {x : Im} (hz : 0 ≤ z.1 ∧ z.1 ≤ 140737488355328) (h : slErrOf z x = 0) : 0 ≤ (plSt z x).1 ∧ (plSt z x).1 ≤ 140737488355328 := by
  unfold slErrOf plErr at h
  split at h
  · cases h
  · split at h
    · rename_i hl
      have := (lbelow_iff.1 hl).2
      show 0 ≤ max z.1 _ ∧ max z.1 _ ≤ _
      unfold upTo
      omega
    · cases h

structure SlOut (w w' : World) (base : Int) (xs : List Im) (e : Ending) : Prop where
  bad : ∀ k x, xs[k]? = some x → errTo base xs k → slErrOf (plSeq base xs k) x ≠ 0 → e = .returned (.tuple #[.slice none 0 0, .int .i64 k, .int .i64 (slErrOf (plSeq base xs k) x)])
  good : errTo base xs xs.length → ∃ v, e = .returned (.tuple #[v, .int .i64 0, .int .i64 0]) ∧ w'.ownsRow w.heap.size 33 1 v xs.length ((slidesTo base xs xs.length).flatMap (fun x => [Value.int .u64 x]))
  grown : w.grownBy w' none

set_option maxRecDepth 20000 in
theorem placing_any (base : Int) (w : World) : Calls Tryz.prog 43 #[.int .u64 base] w fun e w' => e = .returned (.func (.func 71) #[] #[.pointer (some ⟨w.heap.size, 0, none⟩), .pointer (some ⟨w.heap.size + 1, 0, none⟩)]) ∧ OneAt w' w.heap.size (.int .u64 base) 33 ∧ OneAt w' (w.heap.size + 1) (.bool true) 4 ∧ w'.heap.size = w.heap.size + 2 ∧ w.grownBy w' none := by
  go_enter Tryz.func43, Tryz.ntmps43
  go_wp2
  go_ret
  refine ⟨rfl, ?_, ?_, by simp, grown2 _ _ _⟩
  · exact (OneAt.new w _ _).grown (grown1 _ _)
  · have := OneAt.new (w.alloc (.cells #[.int .u64 base] 33)) (.bool true) 4
    rwa [World.size_alloc] at this
theorem slides_arg (base : Int) (q : Option Addr) (n c : Nat) (hb : 0 ≤ base) (h : n = 0 ∨ base % 16384 ≠ 0 ∨ 140737488355328 < base) (w : World) :
    Calls Tryz.prog 21 #[.int .u64 base, .slice q n c] w fun e w' => e = .returned (.tuple #[.slice none 0 0, .int .i64 0, .int .i64 2]) ∧ w = w' := by
  by_cases h0 : n = 0
  · subst h0
    go_enter Tryz.func21, Tryz.ntmps21
    go_wp2
    refine bodyPost_ret (results_tmp3 rfl _ _ _) rfl ?_
    exact ⟨rfl, rfl⟩
  have d0 : ((n : Int) == 0) = false := by simp; omega
  by_cases h1 : base % 16384 = 0
  · have h2 : 140737488355328 < base := by omega
    have d1 : (base % 16384 == 0) = true := by simpa using h1
    clear h h0
    go_enter Tryz.func21, Tryz.ntmps21
    go_wp2
    refine bodyPost_ret (results_tmp3 rfl _ _ _) rfl ?_
    exact ⟨rfl, rfl⟩
  · have d1 : (base % 16384 == 0) = false := by simpa using h1
    clear h h0
    go_enter Tryz.func21, Tryz.ntmps21
    go_wp2
    refine bodyPost_ret (results_tmp3 rfl _ _ _) rfl ?_
    exact ⟨rfl, rfl⟩

set_option maxRecDepth 20000 in
set_option maxHeartbeats 1600000 in
theorem slides_any (base : Int) (g n c : Nat) (xs : List Im) (hn : xs.length = n) (h0 : 0 < n) (hc : n ≤ c) (hcm : c ≤ 9223372036854775807) (hm : n ≤ 1000000) (hb : 0 ≤ base ∧ base ≤ 140737488355328) (hb2 : base % 16384 = 0) (hx : ∀ i x, xs[i]? = some x → ImAt w g (i * 24) x) :
    Calls Tryz.prog 21 #[.int .u64 base, .slice (some ⟨g, 0, none⟩) n c] w fun e w' => SlOut w w' base xs e := by
  have d0 : ((n : Int) == 0) = false := by simp; omega
  have d1 : (base % 16384 == 0) = true := by simpa using hb2
  have d2 : decide (140737488355328 < base) = false := by simp; omega
  have d3 : ¬ 140737488355328 < base := by omega
  have PL := Lib.hid (placing_any base w)
  have XS := Lib.hid hx
  have HN := Lib.hid hn
  have HB := Lib.hid hb
  have hc' := hc
  obtain ⟨iu, hiu, hz0, hz1, hz2⟩ := info_parts (show (Tryz.prog.info? 33).map (fun i => (i.zero, i.size, i.bytes)) = some (some (.int .u64 0), 1, 8) from by kernel_rfl)
  have hb0 : 0 ≤ base := hb.1
  clear hx hn hb
  go_enter Tryz.func21, Tryz.ntmps21
  go_wp2_with fail
  refine PL.out.mono ?_
  rintro e w1 ⟨rfl, p1, p2, p3, hg⟩
  have G1 := Lib.hid hg
  have P1 := Lib.hid p1
  have P2 := Lib.hid p2
  have P3 := Lib.hid p3
  clear p1 p2 p3 hg PL
  obtain ⟨b, hbb⟩ : ∃ b, w.heap.size = b := ⟨_, rfl⟩
  rw [hbb] at P1 P2 P3 ⊢
  have HBB := Lib.hid hbb
  clear hbb
  go_wp2_with (at_make; refine wpList_make_own _ rfl _ _ 23 rfl w1.heap.size 33 iu (.int .u64 0) 1 Tryz.underlying23 hiu hz0 hz1 .i64 .i64 _ n rfl rfl rfl (by rw [hz2]; omega) (by unfold maxLen; omega) (Nat.le_refl _) ?_; (intro w2 hown hg1; have O2 := Lib.hid hown; have G2 := Lib.hid hg1; clear hown hg1))
  have P1b := Lib.hid (P1.out.grown G2.out)
  have P2b := Lib.hid (P2.out.grown G2.out)
  have GA := Lib.hid (grown_trans G1.out G2.out)
  clear P1 P2 G1 G2
  go_loopw [8, 32] (fun e i wr => ∃ (k1 : Nat) (v : Value), k1 ≤ n ∧ i = .int .i64 k1 ∧ v = e ∧ wr.ownsRow w1.heap.size 33 1 v k1 ((slidesTo base xs k1).flatMap (fun x => [Value.int .u64 x])) ∧ OneAt wr b (.int .u64 (plSeq base xs k1).1) 33 ∧ OneAt wr (b + 1) (.bool (plSeq base xs k1).2) 4 ∧ w.grownBy wr none ∧ errTo base xs k1 ∧ (0 ≤ (plSeq base xs k1).1 ∧ (plSeq base xs k1).1 ≤ 140737488355328)) (fun _ i _ => n - (intOf i).toNat)
  case atStart => exact ⟨0, _, Nat.zero_le _, rfl, rfl, O2.out, P1b.out, P2b.out, GA.out, fun j x hj => by omega, HB.out⟩
  case round =>
    obtain ⟨k1, v, hk, rfl, rfl, ho, hp1, hp2, hg, her, hpl⟩ := hrel
    by_cases hlt : k1 < n
    · obtain ⟨x, hx⟩ : ∃ x, xs[k1]? = some x := ⟨_, List.getElem?_eq_getElem (HN.out ▸ hlt)⟩
      have IX := Lib.hid ((XS.out k1 x hx).kept hg)
      have dl : decide ((k1 : Int) < (n : Int)) = true := by simp; omega
      have hkl : (k1 : Int) < (n : Int) := by omega
      have O3 := Lib.hid ho
      have Q1 := Lib.hid hp1
      have Q2 := Lib.hid hp2
      have G3 := Lib.hid hg
      have ER := Lib.hid her
      have PB := Lib.hid hpl
      have ST := Lib.hid (plSeq_succ (base := base) hx)
      have SV := Lib.hid (slidesTo_succ (base := base) hx)
      have HX := Lib.hid hx
      have ZB := Lib.hid (ImgAt.new wr)
      clear ho hp1 hp2 hg her hpl hx
      go_upto_region 8 with (first | refine wpList_load_imgO rfl _ rfl rfl IX.out ?_ | refine wpList_store_img (h := x.h) (s := x.s) (sv := x.sv) (dv := x.dv) rfl _ _ rfl rfl rfl ZB.out ⟨_, _, _, rfl⟩ ⟨_, _, _, rfl⟩ ?_)
      have gN := grown_new (grown1 wr (.cells #[.int .i64 0, .int .i64 0, .int .u32 0, .string ⟨#[]⟩, .slice none 0 0, .slice none 0 0, .int .u64 0, .int .u64 0, .int .u64 0, .int .u64 0, .int .u64 0, .int .u64 0, .int .u64 0, .int .u64 0, .int .u64 0, .int .u64 0, .int .u64 0, .int .u64 0, .int .u64 0, .int .u64 0, .int .u64 0, .int .u64 0, .int .u64 0, .bool false] 41)) (grown_setRow (g := wr.heap.size) (wr.alloc (.cells #[.int .i64 0, .int .i64 0, .int .u32 0, .string ⟨#[]⟩, .slice none 0 0, .slice none 0 0, .int .u64 0, .int .u64 0, .int .u64 0, .int .u64 0, .int .u64 0, .int .u64 0, .int .u64 0, .int .u64 0, .int .u64 0, .int .u64 0, .int .u64 0, .int .u64 0, .int .u64 0, .int .u64 0, .int .u64 0, .int .u64 0, .int .u64 0, .bool false] 41)) x.arr) (Nat.le_refl _)
      have I4 := ZB.out.put (h := x.h) (s := x.s) (sv := x.sv) (dv := x.dv)
      rw [show imgArr x.h x.s x.sv x.dv = x.arr from rfl] at I4
      obtain ⟨w4, hw4⟩ : ∃ w4, (wr.alloc (.cells #[.int .i64 0, .int .i64 0, .int .u32 0, .string ⟨#[]⟩, .slice none 0 0, .slice none 0 0, .int .u64 0, .int .u64 0, .int .u64 0, .int .u64 0, .int .u64 0, .int .u64 0, .int .u64 0, .int .u64 0, .int .u64 0, .int .u64 0, .int .u64 0, .int .u64 0, .int .u64 0, .int .u64 0, .int .u64 0, .int .u64 0, .int .u64 0, .bool false] 41)).setRow wr.heap.size x.arr = w4 := ⟨_, rfl⟩
      rw [show imgArr x.h x.s x.sv x.dv = x.arr from rfl]
      rw [hw4] at gN I4 ⊢
      have IM4 := Lib.hid I4
      have O4 := Lib.hid (own_grown O3.out gN)
      have P4 := Lib.hid (Q1.out.grown gN)
      have F4 := Lib.hid (Q2.out.grown gN)
      have G4 := Lib.hid (grown_trans G3.out gN)
      have IX4 := Lib.hid (IX.out.kept gN)
      have hbne : b ≠ b + 1 := by omega
      have PC := Lib.hid (placing1_any (h := x.h) (dv := x.dv) IX4.out.rows P4.out F4.out hbne PB.out IX4.out.low IX4.out.high)
      clear gN I4 hw4 ZB O3 Q1 Q2 G3 IX
      generalize wr.heap.size = pi at *
      obtain ⟨er, her⟩ : ∃ er, slErrOf (plSeq base xs k1) x = er := ⟨_, rfl⟩
      obtain ⟨sd, hsd⟩ : ∃ sd, slideOf (plSeq base xs k1) x = sd := ⟨_, rfl⟩
      have HER := Lib.hid her
      have HSD := Lib.hid hsd
      clear hsd
      rw [show Value.slice x.qs x.l.length x.cs = x.sv from rfl] at PC
      go_wp2_with (first | refine wpList_load_imgI rfl _ rfl rfl IM4.out ?_ | fail)
      refine PC.out.mono ?_
      rintro e w5 ⟨hbad, hgood, hplc, hch⟩
      have o5 := own_chg O4.out hch (fun g hg h => by have := P3.out; omega)
      have g5 := grown_chg G4.out hch (fun k hk => by have := HBB.out; omega)
      have hsz := hch.size
      by_cases he : er = 0
      · subst he
        have hg := hgood her
        obtain ⟨pp, pf⟩ := hplc her
        change e = .returned (.tuple #[.int .u64 (slideOf (plSeq base xs k1) x), .int .i64 0]) at hg
        rw [HSD.out] at hg
        subst hg
        have O5 := Lib.hid o5
        have G5 := Lib.hid g5
        have SZ := Lib.hid (Nat.le_trans (show w1.heap.size ≤ w4.heap.size by have h1 := P4.out.lt; have := P3.out; have := F4.out.lt; omega) hsz)
        have PP := Lib.hid (show OneAt w5 b (.int .u64 (plSeq base xs (k1 + 1)).1) 33 by rw [ST.out]; exact pp)
        have PF := Lib.hid (show OneAt w5 (b + 1) (.bool (plSeq base xs (k1 + 1)).2) 4 by rw [ST.out]; exact pf)
        have BB := Lib.hid (show 0 ≤ (plSeq base xs (k1 + 1)).1 ∧ (plSeq base xs (k1 + 1)).1 ≤ 140737488355328 by rw [ST.out]; exact pl_bound PB.out HER.out)
        have ET := Lib.hid (show errTo base xs (k1 + 1) from fun j y hj hy => by
          rcases Nat.lt_or_ge j k1 with h1 | h1
          · exact ER.out j y h1 hy
          · obtain rfl : j = k1 := by omega
            rw [HX.out] at hy; injection hy with hy; subst hy; exact HER.out)
        have TK := Lib.hid (show (slidesTo base xs (k1 + 1)).flatMap (fun x => [Value.int .u64 x]) = (slidesTo base xs k1).flatMap (fun x => [Value.int .u64 x]) ++ [.int .u64 sd] by
          rw [SV.out, HSD.out, List.flatMap_append]; rfl)
        have O6 := Lib.hid (own_grown o5 (grown1 w5 (.cells #[.int .u64 sd] 33)))
        have N6 := Lib.hid (heap_alloc_new w5 (.cells #[.int .u64 sd] 33))
        have LO := Lib.hid (fun g' (e : v.ownBlock = some g') => (show w.heap.size ≤ g' by have := (o5.lt g' e).1; have := P3.out; have := HBB.out; omega))
        clear hbad hgood hplc hch o5 g5 hsz pp pf her PC IM4 O4 P4 F4 G4 IX4
        go_wp2_with (at_builtin; refine wp_append_st u64Type rfl _ _ rfl v k1 _ rfl O6.out [.int .u64 sd] rfl w5.heap.size rfl N6.out (fun u hu => by simp only [List.mem_cons, List.not_mem_nil, or_false] at hu; subst hu; rfl) (by omega) (by decide) ?_ ?_)
        · have := SZ.out; (try rw [World.size_alloc]); omega
        intro v' w6 ho6 hg6
        have O7 := Lib.hid ho6
        have G7 := Lib.hid (grown_own (grown_trans G5.out (grown1 w5 (.cells #[.int .u64 sd] 33))) hg6 LO.out (Nat.le_refl _))
        have hob := fun (k : Nat) (hk : k < w1.heap.size) => (fun (e : v.ownBlock = some k) => (by have := (O6.out.lt k e).1; omega : False))
        have PP7 := Lib.hid ((PP.out.grown (grown1 w5 (.cells #[.int .u64 sd] 33))).kept hg6 (hob b (by have := P3.out; omega)))
        have PF7 := Lib.hid ((PF.out.grown (grown1 w5 (.cells #[.int .u64 sd] 33))).kept hg6 (hob (b + 1) (by have := P3.out; omega)))
        clear ho6 hg6 hob
        go_wp2
        go_roundw
        case rel => exact ⟨k1 + 1, _, hlt, by go_num, rfl, by rw [TK.out]; exact O7.out, PP7.out, PF7.out, G7.out, ET.out, BB.out⟩
        case measure => simp [intOf]; omega
      · have hb := hbad (fun h => he (her.symm.trans h))
        change e = .returned (.tuple #[.int .u64 0, .int .i64 (slErrOf (plSeq base xs k1) x)]) at hb
        rw [her] at hb
        subst hb
        have G5 := Lib.hid g5
        have de : (er == 0) = false := by simpa using he
        have HE := Lib.hid he
        have hkn : k1 < n := hlt
        clear hbad hgood hplc hch o5 g5 hsz her he PC IM4 O4 P4 F4 G4 IX4
        go_wp2
        go_ret3
        refine ⟨fun j y hy hj hne => ?_, fun h => absurd (HER.out.symm.trans (h k1 x (HN.out ▸ hkn) HX.out)) HE.out, G5.out⟩
        have hjk : j = k1 := by
          rcases Nat.lt_trichotomy j k1 with h | h | h
          · exact absurd (ER.out j y h hy) hne
          · exact h
          · exact absurd (HER.out.symm.trans (hj k1 x h HX.out)) HE.out
        subst hjk
        rw [HX.out] at hy
        injection hy with hy
        subst hy
        rw [HER.out]
        rfl
    · have hk' : k1 = n := by omega
      subst hk'
      have dl : decide ((k1 : Int) < (k1 : Int)) = false := by simp
      have O3 := Lib.hid (ho.mono (show w.heap.size ≤ w1.heap.size by have := P3.out; have := HBB.out; omega))
      have G3 := Lib.hid hg
      have ER := Lib.hid her
      clear ho hp1 hp2 hg her hpl
      go_wp2
      go_ret3
      refine ⟨fun j y hy hj hne => absurd (ER.out j y (by have := (List.getElem?_eq_some_iff.1 hy).1; have := HN.out; omega) hy) hne, fun _ => ⟨v, rfl, by rw [HN.out]; exact O3.out⟩, G3.out⟩
end Go.Proofs.YtdagnkdonlfobaaGreat

/- The chapter's row of layer 8: known. No condition. -/
namespace Go.Proofs.YtdagnkdonlfobaaGreat
open Go.RowKit Go.Sort
variable {w w' W : World}

def yA : Seg := ⟨[97], 4294967296, 8192, 0, 4096, 5, []⟩
def yB : Seg := ⟨[97], 0, 4096, 0, 4096, 5, []⟩
def ySt (x : Seg) : St := { St.zero with segs := [x] }
def yHa : Hx := ⟨2, 0, 2097152⟩
def yHb : Hx := ⟨6, 0, 0⟩
def yIm (h : Hx) (x : Seg) (g : Nat) : Im := ⟨h, ySt x, [⟨x, none, 0⟩], some ⟨g, 0, none⟩, 1, none, 0, 0⟩
theorem y_rows {g : Nat} {x : Seg} (hs : x.secs = []) (k : w.heap[g]? = some (.cells #[.string (strOfNums x.name), .int .u64 x.addr, .int .u64 x.size, .int .u64 x.off, .int .u64 x.fsize, .int .i64 x.prot, .slice none 0 0] 58 (0, 0))) :
    ImgRows w (ySt x) [⟨x, none, 0⟩] (some ⟨g, 0, none⟩) 1 := by
  refine ⟨rfl, ?_, ?_, show (1 : Nat) ≤ 9223372036854775807 by decide, ?_, show (1 : Nat) ≤ 1 by decide⟩
  · intro i y hy
    refine ⟨g, rfl, ?_⟩
    match i, hy with
    | 0, hy =>
      injection hy with hy; subst hy
      refine ⟨?_, ?_, ?_, ?_, ?_, ?_, ?_⟩ <;> (rw [cell_of k]; try rfl)
      show some (Value.slice none 0 0) = some (Value.slice none x.secs.length 0)
      rw [hs]; rfl
    | j + 1, hy => simp at hy
  · intro y hy i z hz
    simp only [List.mem_cons, List.not_mem_nil, or_false] at hy
    subst hy
    rw [show (⟨x, none, 0⟩ : Sg).seg.secs = x.secs from rfl, hs] at hz
    simp at hz
  · intro y hy
    simp only [List.mem_cons, List.not_mem_nil, or_false] at hy
    subst hy
    show x.secs.length ≤ _
    rw [hs]; exact Nat.zero_le _
theorem y_lowA : lowN (ySt yA).segs = 4294967296 := rfl
theorem y_highA : highN (ySt yA).segs = 4294975488 := by rw [highN_eq]; rfl
theorem y_lowB : lowN (ySt yB).segs = 0 := rfl
theorem y_highB : highN (ySt yB).segs = 4096 := by rw [highN_eq]; rfl
theorem y_fixA : fixedB yHa = false := by decide +kernel
theorem y_fixB : fixedB yHb = false := by decide +kernel
def yXs (g1 g2 : Nat) : List Im := [yIm yHa yA g1, yIm yHb yB g2]
theorem y_seq1 (g1 g2 : Nat) : plSeq 65536 (yXs g1 g2) 1 = (81920, false) := by
  rw [plSeq_succ (x := yIm yHa yA g1) rfl]
  show (plNext 65536 (true && fixedB yHa) (lowN (ySt yA).segs) (highN (ySt yA).segs), false) = _
  rw [y_fixA, y_lowA, y_highA]; rfl
theorem y_err (g1 g2 : Nat) : errTo 65536 (yXs g1 g2) 2 := by
  intro j x hj hx
  match j, hj with
  | 0, _ =>
    injection hx with hx; subst hx
    show plErr 65536 (true && fixedB yHa) (lowN (ySt yA).segs) (highN (ySt yA).segs) = 0
    rw [y_fixA, y_lowA, y_highA]; rfl
  | 1, _ =>
    injection hx with hx; subst hx
    rw [y_seq1]
    show plErr 81920 (false && fixedB yHb) (lowN (ySt yB).segs) (highN (ySt yB).segs) = 0
    rw [y_fixB, y_lowB, y_highB]; rfl
theorem y_slides (g1 g2 : Nat) : slidesTo 65536 (yXs g1 g2) 2 = [18446744069414649856, 81920] := by
  rw [slidesTo_succ (x := yIm yHb yB g2) rfl, slidesTo_succ (x := yIm yHa yA g1) rfl, y_seq1]
  show [plSlide 65536 (true && fixedB yHa) (lowN (ySt yA).segs)] ++ [plSlide 81920 (false && fixedB yHb) (lowN (ySt yB).segs)] = _
  rw [y_fixA, y_fixB, y_lowA, y_lowB]; rfl

def yCs (g1 g2 : Nat) : Array Value := #[.int .i64 yHa.kd, .int .i64 yHa.sb, .int .u32 yHa.fl, .string (strOfNums (ySt yA).name), .slice (some ⟨g1, 0, none⟩) 1 1, .slice none 0 0, .int .u64 (ySt yA).rb.1, .int .u64 (ySt yA).rb.2, .int .u64 (ySt yA).bd.1, .int .u64 (ySt yA).bd.2, .int .u64 (ySt yA).wk.1, .int .u64 (ySt yA).wk.2, .int .u64 (ySt yA).lz.1, .int .u64 (ySt yA).lz.2, .int .u64 (ySt yA).tr.1, .int .u64 (ySt yA).tr.2, .int .u64 (ySt yA).ch.1, .int .u64 (ySt yA).ch.2, .int .u64 (ySt yA).sy.1, .int .u64 (ySt yA).sy.2, .int .u64 (ySt yA).st.1, .int .u64 (ySt yA).st.2, .int .u64 (ySt yA).entry, .bool (ySt yA).has, .int .i64 yHb.kd, .int .i64 yHb.sb, .int .u32 yHb.fl, .string (strOfNums (ySt yB).name), .slice (some ⟨g2, 0, none⟩) 1 1, .slice none 0 0, .int .u64 (ySt yB).rb.1, .int .u64 (ySt yB).rb.2, .int .u64 (ySt yB).bd.1, .int .u64 (ySt yB).bd.2, .int .u64 (ySt yB).wk.1, .int .u64 (ySt yB).wk.2, .int .u64 (ySt yB).lz.1, .int .u64 (ySt yB).lz.2, .int .u64 (ySt yB).tr.1, .int .u64 (ySt yB).tr.2, .int .u64 (ySt yB).ch.1, .int .u64 (ySt yB).ch.2, .int .u64 (ySt yB).sy.1, .int .u64 (ySt yB).sy.2, .int .u64 (ySt yB).st.1, .int .u64 (ySt yB).st.2, .int .u64 (ySt yB).entry, .bool (ySt yB).has]
theorem y_at {b g1 g2 : Nat} (h : w.heap[b]? = some (.cells (yCs g1 g2) 41 (0, 0)))
    (k1 : ImgRows w (ySt yA) [⟨yA, none, 0⟩] (some ⟨g1, 0, none⟩) 1) (k2 : ImgRows w (ySt yB) [⟨yB, none, 0⟩] (some ⟨g2, 0, none⟩) 1) : ∀ i x, (yXs g1 g2)[i]? = some x → ImAt w b (i * 24) x := by
  have lt24 : ∀ (x : Im) (j : Nat) v, x.arr[j]? = some v → j < 24 := fun x j v hv => (Array.getElem?_eq_some_iff.1 hv).1
  intro i x hx
  match i, hx with
  | 0, hx =>
    injection hx with hx; subst hx
    refine ⟨fun j v hv => ?_, k1, ?_, ?_⟩
    · have hj := lt24 _ j v hv
      rw [Nat.zero_mul, Nat.zero_add, cell_of h]
      match j, hj with
      | 0, _ => exact hv
      | 1, _ => exact hv
      | 2, _ => exact hv
      | 3, _ => exact hv
      | 4, _ => exact hv
      | 5, _ => exact hv
      | 6, _ => exact hv
      | 7, _ => exact hv
      | 8, _ => exact hv
      | 9, _ => exact hv
      | 10, _ => exact hv
      | 11, _ => exact hv
      | 12, _ => exact hv
      | 13, _ => exact hv
      | 14, _ => exact hv
      | 15, _ => exact hv
      | 16, _ => exact hv
      | 17, _ => exact hv
      | 18, _ => exact hv
      | 19, _ => exact hv
      | 20, _ => exact hv
      | 21, _ => exact hv
      | 22, _ => exact hv
      | 23, _ => exact hv
    · show U64 (lowN (ySt yA).segs); rw [y_lowA]; exact ⟨by decide, by decide⟩
    · show U64 (highN (ySt yA).segs); rw [y_highA]; exact ⟨by decide, by decide⟩
  | 1, hx =>
    injection hx with hx; subst hx
    refine ⟨fun j v hv => ?_, k2, ?_, ?_⟩
    · have hj := lt24 _ j v hv
      rw [cell_of h]
      match j, hj with
      | 0, _ => exact hv
      | 1, _ => exact hv
      | 2, _ => exact hv
      | 3, _ => exact hv
      | 4, _ => exact hv
      | 5, _ => exact hv
      | 6, _ => exact hv
      | 7, _ => exact hv
      | 8, _ => exact hv
      | 9, _ => exact hv
      | 10, _ => exact hv
      | 11, _ => exact hv
      | 12, _ => exact hv
      | 13, _ => exact hv
      | 14, _ => exact hv
      | 15, _ => exact hv
      | 16, _ => exact hv
      | 17, _ => exact hv
      | 18, _ => exact hv
      | 19, _ => exact hv
      | 20, _ => exact hv
      | 21, _ => exact hv
      | 22, _ => exact hv
      | 23, _ => exact hv
    · show U64 (lowN (ySt yB).segs); rw [y_lowB]; exact ⟨by decide, by decide⟩
    · show U64 (highN (ySt yB).segs); rw [y_highB]; exact ⟨by decide, by decide⟩
  | j + 2, hx => simp [yXs] at hx
set_option maxHeartbeats 2000000 in
set_option maxRecDepth 20000 in
theorem known8_any (w : World) : Calls Tryz.prog 6 #[] w fun e w' => e = .returned (.bool true) ∧ w.grownBy w' none := by
  have gR := grown1 w (.cells #[.string ⟨#[97]⟩, .int .u64 4294967296, .int .u64 8192, .int .u64 0, .int .u64 4096, .int .i64 5, .slice none 0 0] 58)
  have hR := heap_alloc_new w (.cells #[.string ⟨#[97]⟩, .int .u64 4294967296, .int .u64 8192, .int .u64 0, .int .u64 4096, .int .i64 5, .slice none 0 0] 58)
  obtain ⟨W, hW⟩ : ∃ W, w.alloc (.cells #[.string ⟨#[97]⟩, .int .u64 4294967296, .int .u64 8192, .int .u64 0, .int .u64 4096, .int .i64 5, .slice none 0 0] 58) = W := ⟨_, rfl⟩
  obtain ⟨g, hgg⟩ : ∃ g, w.heap.size = g := ⟨_, rfl⟩
  rw [hW] at gR hR
  rw [hgg] at hR
  have KA := Lib.hid (y_rows (x := yA) rfl hR)
  have ZA := Lib.hid (ImgAt.new W)
  have G := Lib.hid gR
  clear gR hR
  go_enter Tryz.func6, Tryz.ntmps6
  go_upto_region 2 with (refine wpList_store_img (h := yHa) (s := ySt yA) (sv := .slice (some ⟨g, 0, none⟩) 1 1) (dv := .slice none 0 0) rfl _ _ rfl rfl rfl ZA.out ⟨_, _, _, rfl⟩ ⟨_, _, _, rfl⟩ ?_)
  have gN := grown_new (grown1 W (.cells #[.int .i64 0, .int .i64 0, .int .u32 0, .string ⟨#[]⟩, .slice none 0 0, .slice none 0 0, .int .u64 0, .int .u64 0, .int .u64 0, .int .u64 0, .int .u64 0, .int .u64 0, .int .u64 0, .int .u64 0, .int .u64 0, .int .u64 0, .int .u64 0, .int .u64 0, .int .u64 0, .int .u64 0, .int .u64 0, .int .u64 0, .int .u64 0, .bool false] 41)) (grown_setRow (g := W.heap.size) (W.alloc (.cells #[.int .i64 0, .int .i64 0, .int .u32 0, .string ⟨#[]⟩, .slice none 0 0, .slice none 0 0, .int .u64 0, .int .u64 0, .int .u64 0, .int .u64 0, .int .u64 0, .int .u64 0, .int .u64 0, .int .u64 0, .int .u64 0, .int .u64 0, .int .u64 0, .int .u64 0, .int .u64 0, .int .u64 0, .int .u64 0, .int .u64 0, .int .u64 0, .bool false] 41)) (imgArr yHa (ySt yA) (.slice (some ⟨g, 0, none⟩) 1 1) (.slice none 0 0))) (Nat.le_refl _)
  have I2 := ZA.out.put (h := yHa) (s := ySt yA) (sv := .slice (some ⟨g, 0, none⟩) 1 1) (dv := .slice none 0 0)
  obtain ⟨w2, hw2⟩ : ∃ w2, (W.alloc (.cells #[.int .i64 0, .int .i64 0, .int .u32 0, .string ⟨#[]⟩, .slice none 0 0, .slice none 0 0, .int .u64 0, .int .u64 0, .int .u64 0, .int .u64 0, .int .u64 0, .int .u64 0, .int .u64 0, .int .u64 0, .int .u64 0, .int .u64 0, .int .u64 0, .int .u64 0, .int .u64 0, .int .u64 0, .int .u64 0, .int .u64 0, .int .u64 0, .bool false] 41)).setRow W.heap.size (imgArr yHa (ySt yA) (.slice (some ⟨g, 0, none⟩) 1 1) (.slice none 0 0)) = w2 := ⟨_, rfl⟩
  rw [hw2] at gN I2 ⊢
  have G2 := Lib.hid (grown_trans G.out gN)
  have IA2 := Lib.hid I2
  have KA2 := Lib.hid (KA.out.grown gN)
  clear gN I2 hw2 hW ZA KA G hgg
  generalize W.heap.size = pa at *
  have gR := grown1 w2 (.cells #[.string ⟨#[97]⟩, .int .u64 0, .int .u64 4096, .int .u64 0, .int .u64 4096, .int .i64 5, .slice none 0 0] 58)
  have hR := heap_alloc_new w2 (.cells #[.string ⟨#[97]⟩, .int .u64 0, .int .u64 4096, .int .u64 0, .int .u64 4096, .int .i64 5, .slice none 0 0] 58)
  obtain ⟨V, hV⟩ : ∃ V, w2.alloc (.cells #[.string ⟨#[97]⟩, .int .u64 0, .int .u64 4096, .int .u64 0, .int .u64 4096, .int .i64 5, .slice none 0 0] 58) = V := ⟨_, rfl⟩
  obtain ⟨g2, hg2⟩ : ∃ g2, w2.heap.size = g2 := ⟨_, rfl⟩
  rw [hV] at gR hR
  rw [hg2] at hR
  have KB := Lib.hid (y_rows (x := yB) rfl hR)
  have ZB := Lib.hid (ImgAt.new V)
  have G3 := Lib.hid (grown_trans G2.out gR)
  have IA3 := Lib.hid (IA2.out.kept gR (by simp))
  have KA3 := Lib.hid (KA2.out.grown gR)
  clear gR hR IA2 KA2 G2
  go_upto_region 3 with (refine wpList_store_img (h := yHb) (s := ySt yB) (sv := .slice (some ⟨g2, 0, none⟩) 1 1) (dv := .slice none 0 0) rfl _ _ rfl rfl rfl ZB.out ⟨_, _, _, rfl⟩ ⟨_, _, _, rfl⟩ ?_)
  have gN := grown_new (grown1 V (.cells #[.int .i64 0, .int .i64 0, .int .u32 0, .string ⟨#[]⟩, .slice none 0 0, .slice none 0 0, .int .u64 0, .int .u64 0, .int .u64 0, .int .u64 0, .int .u64 0, .int .u64 0, .int .u64 0, .int .u64 0, .int .u64 0, .int .u64 0, .int .u64 0, .int .u64 0, .int .u64 0, .int .u64 0, .int .u64 0, .int .u64 0, .int .u64 0, .bool false] 41)) (grown_setRow (g := V.heap.size) (V.alloc (.cells #[.int .i64 0, .int .i64 0, .int .u32 0, .string ⟨#[]⟩, .slice none 0 0, .slice none 0 0, .int .u64 0, .int .u64 0, .int .u64 0, .int .u64 0, .int .u64 0, .int .u64 0, .int .u64 0, .int .u64 0, .int .u64 0, .int .u64 0, .int .u64 0, .int .u64 0, .int .u64 0, .int .u64 0, .int .u64 0, .int .u64 0, .int .u64 0, .bool false] 41)) (imgArr yHb (ySt yB) (.slice (some ⟨g2, 0, none⟩) 1 1) (.slice none 0 0))) (Nat.le_refl _)
  have I4 := ZB.out.put (h := yHb) (s := ySt yB) (sv := .slice (some ⟨g2, 0, none⟩) 1 1) (dv := .slice none 0 0)
  obtain ⟨w4, hw4⟩ : ∃ w4, (V.alloc (.cells #[.int .i64 0, .int .i64 0, .int .u32 0, .string ⟨#[]⟩, .slice none 0 0, .slice none 0 0, .int .u64 0, .int .u64 0, .int .u64 0, .int .u64 0, .int .u64 0, .int .u64 0, .int .u64 0, .int .u64 0, .int .u64 0, .int .u64 0, .int .u64 0, .int .u64 0, .int .u64 0, .int .u64 0, .int .u64 0, .int .u64 0, .int .u64 0, .bool false] 41)).setRow V.heap.size (imgArr yHb (ySt yB) (.slice (some ⟨g2, 0, none⟩) 1 1) (.slice none 0 0)) = w4 := ⟨_, rfl⟩
  rw [hw4] at gN I4 ⊢
  have G4 := Lib.hid (grown_trans G3.out gN)
  have IB4 := Lib.hid I4
  have KB4 := Lib.hid (KB.out.grown gN)
  have IA4 := Lib.hid (IA3.out.kept gN (by simp))
  have KA4 := Lib.hid (KA3.out.grown gN)
  clear gN I4 hw4 hV ZB KB G3 hg2 IA3 KA3
  generalize V.heap.size = pb at *
  go_wp2_with (first | (with_reducible refine wpList_load_imgI rfl _ rfl rfl IA4.out ?_; unfold imgV imgArr) | (with_reducible refine wpList_load_imgI rfl _ rfl rfl IB4.out ?_; unfold imgV imgArr) | fail)
  change Calls _ _ #[.int .u64 65536, .slice (some ⟨w4.heap.size, 0, none⟩) 2 2] (w4.alloc (.cells (yCs g g2) 41)) _
  have hr := heap_alloc_new w4 (.cells (yCs g g2) 41)
  have gr := grown1 w4 (.cells (yCs g g2) 41)
  have SL := Lib.hid (slides_any 65536 w4.heap.size 2 2 (yXs g g2) rfl (by decide) (by decide) (by decide) (by decide) ⟨by decide, by decide⟩ (by decide) (y_at hr (KA4.out.grown gr) (KB4.out.grown gr)))
  have G5 := Lib.hid (grown_trans G4.out gr)
  clear hr gr IA4 IB4 KA4 KB4 G4
  generalize w4.alloc (.cells (yCs g g2) 41) = w5 at *
  refine SL.out.mono ?_
  rintro e w6 ⟨_, hgood, hg6⟩
  obtain ⟨v, rfl, ho⟩ := hgood (y_err g g2)
  change w6.ownsRow w5.heap.size 33 1 v 2 ((slidesTo 65536 (yXs g g2) 2).flatMap (fun x => [Value.int .u64 x])) at ho
  rw [y_slides] at ho
  obtain ⟨q, c, rfl⟩ := own_slice ho
  obtain ⟨gq, rfl⟩ : ∃ gq, q = some ⟨gq, 0, none⟩ := by
    obtain ⟨_, hn | ⟨g', cap, cur, hv, _⟩⟩ := ho
    · exact absurd hn.2 (by decide)
    · injection hv with h1 _ _; exact ⟨g', h1⟩
  have e0 : w6.cell? ⟨gq, 0, none⟩ = some (.int .u64 18446744069414649856) := (ho.cellAt 0 (by decide)).trans rfl
  have e1 : w6.cell? ⟨gq, 1, none⟩ = some (.int .u64 81920) := (ho.cellAt 1 (by decide)).trans rfl
  have hcc := own_room ho
  have hcm := own_max ho
  have G6 := Lib.hid (grown_trans G5.out hg6)
  clear ho hg6 hgood SL
  go_wp2
  go_ret
  exact ⟨rfl, G6.out⟩
end Go.Proofs.YtdagnkdonlfobaaGreat

/- The segments of an image that are no holes: lay.solid. Condition: the image's lists, by their cells. -/
namespace Go.Proofs.YtdagnkdonlfobaaGreat
open Go.RowKit
variable {w w' W : World} {h : Hx} {s : St} {sv dv : Value}

def solidSg (l : List Sg) : List Sg := l.filter (fun x => laidS x.seg)
theorem solid_succ (l : List Sg) {k : Nat} {x : Sg} (hx : l[k]? = some x) : solidSg (l.take (k + 1)) = solidSg (l.take k) ++ (if laidS x.seg = true then [x] else []) := by
  obtain ⟨hk, rfl⟩ := List.getElem?_eq_some_iff.1 hx
  unfold solidSg
  rw [List.take_succ_eq_append_getElem hk, List.filter_append]
  congr 1
  simp only [List.filter_cons, List.filter_nil]
theorem solid_len (l : List Sg) : (solidSg l).length ≤ l.length := List.length_filter_le _ _

set_option maxRecDepth 20000 in
set_option maxHeartbeats 800000 in
theorem solid_any {l : List Sg} {qs : Option Addr} {cs : Nat} (k : ImgRows w s l qs cs) (hn : l.length ≤ 1000000) : Calls Tryz.prog 31 #[imgV h s (.slice qs l.length cs) dv] w fun e w' => ∃ v, e = .returned v ∧ w'.ownsRow w.heap.size.succ 58 7 v (solidSg l).length ((solidSg l).flatMap sgCs) ∧ w.grownBy w' none := by
  have gB := grown1 w (.cells (imgArr h s (.slice qs l.length cs) dv) 41)
  have aA : ImgAt (w.alloc (.cells (imgArr h s (.slice qs l.length cs) dv) 41)) w.heap.size h s (.slice qs l.length cs) dv := heap_alloc_new w _
  obtain ⟨W, hW⟩ : ∃ W, w.alloc (.cells (imgArr h s (.slice qs l.length cs) dv) 41) = W := ⟨_, rfl⟩
  obtain ⟨b, hb⟩ : ∃ b, w.heap.size = b := ⟨_, rfl⟩
  rw [hW] at gB aA
  rw [hb] at aA ⊢
  have BS := Lib.hid (show b.succ = W.heap.size by rw [← hW, World.size_alloc, hb])
  have RW := Lib.hid (fun (V : World) (hg : W.grownBy V none) => (k.grown gB).row.grown hg)
  have G := Lib.hid gB
  have c4 := aA.c 4 (.slice qs l.length cs) rfl
  have gl := lt_of_block aA
  have DR := Lib.hid (fun (k1 : Nat) (x : Sg) (hx : l[k1]? = some x) => solid_succ l hx)
  have DE := Lib.hid (show solidSg (l.take l.length) = solidSg l by rw [List.take_length])
  have DL := Lib.hid (fun k1 => Nat.le_trans (solid_len (l.take k1)) (by rw [List.length_take]; omega : (l.take k1).length ≤ 1000000))
  have CP := Lib.hid k.cap
  have FW := Lib.hid k.few
  have BW := Lib.hid (show b < W.heap.size from lt_of_block aA)
  clear k gB aA
  rw [show imgV h s (.slice qs l.length cs) dv = .agg (imgArr h s (.slice qs l.length cs) dv) from rfl]
  unfold imgArr at hW ⊢
  go_enter Tryz.func31, Tryz.ntmps31
  go_upto_region 1 with fail
  clear hW hb
  go_wp2
  go_loopw [3, 9] (fun e i wr => ∃ (k1 : Nat) (v : Value), k1 ≤ l.length ∧ i = .int .i64 k1 ∧ v = e ∧ wr.ownsRow b.succ 58 7 v (solidSg (l.take k1)).length ((solidSg (l.take k1)).flatMap sgCs) ∧ W.grownBy wr none) (fun _ i _ => l.length - (intOf i).toNat)
  case atStart => exact ⟨0, _, Nat.zero_le _, rfl, rfl, World.ownsRow_nil _ _ _ _, grown_refl _ _⟩
  case round =>
    obtain ⟨k1, v, hk, rfl, rfl, ho, hg⟩ := hrel
    have O3 := Lib.hid ho
    have G3 := Lib.hid hg
    by_cases hlt : k1 < l.length
    · obtain ⟨x, hx⟩ : ∃ x, l[k1]? = some x := ⟨_, List.getElem?_eq_getElem hlt⟩
      obtain ⟨g, rfl, a0, a1, a2, a3, a4, a5, a6⟩ := (RW.out wr hg).at hx
      have dl : decide ((k1 : Int) < (l.length : Int)) = true := by simp; omega
      have hkl : (k1 : Int) < (l.length : Int) := by omega
      have DX := Lib.hid (DR.out k1 x hx)
      have DM := Lib.hid (DL.out k1)
      obtain ⟨bx, hbx⟩ : ∃ bx, bx = laidS x.seg := ⟨_, rfl⟩
      rw [← hbx] at DX
      have HB := Lib.hid hbx
      have SL := Lib.hid (show sgCs x = [.string (strOfNums x.seg.name), .int .u64 x.seg.addr, .int .u64 x.seg.size, .int .u64 x.seg.off, .int .u64 x.seg.fsize, .int .i64 x.seg.prot, .slice x.q x.seg.secs.length x.c] from rfl)
      have SO := Lib.hid (sgCs_one x)
      obtain ⟨⟨nm, ad, sz, of, fs, pr, sl⟩, q1, c1⟩ := x
      simp only [] at a0 a1 a2 a3 a4 a5 a6 SL hbx
      change bx = ((pr != 0) || (fs != 0)) at hbx
      have hcp : l.length ≤ cs := CP.out
      have hfw : l.length ≤ 9223372036854775807 := FW.out
      have g5 := grown_trans hg (grown1 wr (.cells #[.string (strOfNums nm), .int .u64 ad, .int .u64 sz, .int .u64 of, .int .u64 fs, .int .i64 pr, .slice q1 sl.length c1] 58))
      have p5 : SegAt (wr.alloc (.cells #[.string (strOfNums nm), .int .u64 ad, .int .u64 sz, .int .u64 of, .int .u64 fs, .int .i64 pr, .slice q1 sl.length c1] 58)) wr.heap.size ⟨nm, ad, sz, of, fs, pr, sl⟩ (.slice q1 sl.length c1) := heap_alloc_new wr _
      have o5 := own_grown ho (grown1 wr (.cells #[.string (strOfNums nm), .int .u64 ad, .int .u64 sz, .int .u64 of, .int .u64 fs, .int .i64 pr, .slice q1 sl.length c1] 58))
      have P5 := Lib.hid p5
      have G5 := Lib.hid g5
      have O5 := Lib.hid o5
      clear hg hx g5 p5 o5 ho O3 G3
      generalize l.length = N at *
      cases bx
      · have e1 : (pr != 0) = false := by cases h1 : pr != 0; rfl; rw [h1] at hbx; cases hbx
        have e2 : (fs != 0) = false := by cases h1 : fs != 0; rfl; rw [h1, Bool.or_true] at hbx; cases hbx
        clear hbx
        go_wp2
        go_roundw
        case rel => exact ⟨k1 + 1, _, hlt, by go_num, rfl, by rw [DX.out, if_neg (by decide), List.append_nil]; exact O5.out, G5.out⟩
        case measure => simp [intOf]; omega
      · obtain ⟨V, hV⟩ : ∃ V, wr.alloc (.cells #[.string (strOfNums nm), .int .u64 ad, .int .u64 sz, .int .u64 of, .int .u64 fs, .int .i64 pr, .slice q1 sl.length c1] 58) = V := ⟨_, rfl⟩
        rw [hV] at G5 O5 P5
        have HV := Lib.hid hV
        have HBX := Lib.hid hbx
        clear hV hbx
        go_upto_region 5 with fail
        have hV := HV.out
        have hbx := HBX.out
        rw [hV]
        obtain ⟨c, hc⟩ : ∃ c, wr.heap.size = c := ⟨_, rfl⟩
        rw [hc] at P5 ⊢
        have gl5 := P5.out.lt
        obtain ⟨y0, y1, y2, y3, y4, y5, y6⟩ := P5.out.c
        simp only [] at y0 y1 y2 y3 y4 y5 y6
        have SZ := Lib.hid (show W.heap.size ≤ V.heap.size from G5.out.size)
        have O6 := Lib.hid (own_grown O5.out (grown1 V (.cells #[.string (strOfNums nm), .int .u64 ad, .int .u64 sz, .int .u64 of, .int .u64 fs, .int .i64 pr, .slice q1 sl.length c1] 58)))
        have N6 := Lib.hid (heap_alloc_new V (.cells #[.string (strOfNums nm), .int .u64 ad, .int .u64 sz, .int .u64 of, .int .u64 fs, .int .i64 pr, .slice q1 sl.length c1] 58))
        have LO := Lib.hid (fun g' (e : v.ownBlock = some g') => (show W.heap.size ≤ g' by rw [← BS.out]; exact (O5.out.lt g' e).1))
        have D1 := DM.out
        clear hV hc a0 a1 a2 a3 a4 a5 a6
        by_cases hpr : pr = 0
        · have e1 : (pr != 0) = false := by simpa using hpr
          have e2 : (fs != 0) = true := by rw [e1, Bool.false_or] at hbx; exact hbx.symm
          clear hbx hpr
          go_wp2_with (at_builtin; refine wp_append_st segType rfl _ _ rfl v (solidSg (l.take k1)).length _ rfl O6.out [.string (strOfNums nm), .int .u64 ad, .int .u64 sz, .int .u64 of, .int .u64 fs, .int .i64 pr, .slice q1 sl.length c1] rfl V.heap.size rfl N6.out (by rw [← SL.out]; exact SO.out) (by omega) (by decide) ?_ ?_)
          · have := SZ.out; have := BS.out; (try rw [World.size_alloc]); omega
          intro v' w3 ho hg3
          have O7 := Lib.hid ho
          have G7 := Lib.hid (grown_own (grown_trans G5.out (grown1 V _)) hg3 LO.out (Nat.le_refl _))
          clear ho hg3
          go_wp2
          go_roundw
          case rel => exact ⟨k1 + 1, _, hlt, by go_num, rfl, by rw [DX.out, if_pos trivial, List.flatMap_append, List.length_append]; simp only [List.flatMap_cons, List.flatMap_nil, List.append_nil, List.length_cons, List.length_nil]; rw [SL.out]; exact O7.out, G7.out⟩
          case measure => simp [intOf]; omega
        · have e1 : (pr != 0) = true := by simpa using hpr
          clear hbx hpr
          go_wp2_with (at_builtin; refine wp_append_st segType rfl _ _ rfl v (solidSg (l.take k1)).length _ rfl O6.out [.string (strOfNums nm), .int .u64 ad, .int .u64 sz, .int .u64 of, .int .u64 fs, .int .i64 pr, .slice q1 sl.length c1] rfl V.heap.size rfl N6.out (by rw [← SL.out]; exact SO.out) (by omega) (by decide) ?_ ?_)
          · have := SZ.out; have := BS.out; (try rw [World.size_alloc]); omega
          intro v' w3 ho hg3
          have O7 := Lib.hid ho
          have G7 := Lib.hid (grown_own (grown_trans G5.out (grown1 V _)) hg3 LO.out (Nat.le_refl _))
          clear ho hg3
          go_wp2
          go_roundw
          case rel => exact ⟨k1 + 1, _, hlt, by go_num, rfl, by rw [DX.out, if_pos trivial, List.flatMap_append, List.length_append]; simp only [List.flatMap_cons, List.flatMap_nil, List.append_nil, List.length_cons, List.length_nil]; rw [SL.out]; exact O7.out, G7.out⟩
          case measure => simp [intOf]; omega
    · have hk' : k1 = l.length := by omega
      subst hk'
      have dl : decide ((l.length : Int) < (l.length : Int)) = false := by simp
      have HF := Lib.hid (show solidSg (l.take l.length) = solidSg l from DE.out)
      clear hg ho
      generalize l.length = N at *
      go_wp2
      go_ret
      exact ⟨v, rfl, by rw [← HF.out]; exact O3.out, grown_trans G.out G3.out⟩
end Go.Proofs.YtdagnkdonlfobaaGreat

/-
  DERIVED: THE SHELF's CONTRACTS AT THIS DUMP, IN PLAIN WORDS (tools/lay-plain.mjs out of 'YtdagnkdonlfobaaGreatSortSeat.lean', which tools/lay-shelf.mjs wrote): THE SAME DECLARATIONS UNDER THE SAME NAMES: 'import', 'namespace', 'open', 'def', 'theorem' AND NOTHING ELSE: no command of the shelf's: FOR A HAND-IN. Each laying: the table of numbers ('.._ren') and one theorem, a field a fact of the dump's own or the kernel's comparison; each contract: ONE APPLICATION.
-/
namespace Go.Proofs
open Go.Shelf
def Tryz.sortSeat_ren : Go.Shelf.Ren := ⟨fun | 6 => 50 | 15 => 86 | 14 => 85 | 28 => 117 | 29 => 118 | 20 => 109 | 21 => 110 | 22 => 111 | 23 => 112 | 24 => 113 | 25 => 114 | 26 => 115 | 27 => 116 | 46 => 144 | 47 => 145 | 48 => 146 | 49 => 147 | 50 => 148 | 57 => 178 | n => n, fun | 22 => 74 | 24 => 80 | 25 => 116 | 3 => 3 | 39 => 151 | 0 => 0 | 53 => 35 | 55 => 33 | 4 => 4 | 46 => 191 | 45 => 190 | 50 => 195 | 5 => 5 | 9 => 9 | 66 => 215 | 70 => 219 | 76 => 254 | 77 => 255 | n => n, fun | n => n⟩
theorem Tryz.sortSeat : Go.Proofs.SlLaysF0.n6 Tryz.prog Tryz.sortSeat_ren := {
  mixed := by kernel_rfl
  f6 := ⟨Tryz.f50.name, by decide, Tryz.func50.trans (congrArg some (by kernel_rfl))⟩
  f14 := ⟨Tryz.f85.name, by decide, Tryz.func85.trans (congrArg some (by kernel_rfl))⟩
  f15 := Tryz.func86.trans (congrArg some (by kernel_rfl))
  f20 := ⟨Tryz.f109.name, by decide, Tryz.func109.trans (congrArg some (by kernel_rfl))⟩
  f21 := ⟨Tryz.f110.name, by decide, Tryz.func110.trans (congrArg some (by kernel_rfl))⟩
  f22 := ⟨Tryz.f111.name, by decide, Tryz.func111.trans (congrArg some (by kernel_rfl))⟩
  f23 := ⟨Tryz.f112.name, by decide, Tryz.func112.trans (congrArg some (by kernel_rfl))⟩
  f24 := ⟨Tryz.f113.name, by decide, Tryz.func113.trans (congrArg some (by kernel_rfl))⟩
  f25 := ⟨Tryz.f114.name, by decide, Tryz.func114.trans (congrArg some (by kernel_rfl))⟩
  f26 := ⟨Tryz.f115.name, by decide, Tryz.func115.trans (congrArg some (by kernel_rfl))⟩
  f27 := ⟨Tryz.f116.name, by decide, Tryz.func116.trans (congrArg some (by kernel_rfl))⟩
  f28 := Tryz.func117.trans (congrArg some (by kernel_rfl))
  f29 := Tryz.func118.trans (congrArg some (by kernel_rfl))
  f46 := ⟨Tryz.f144.name, by decide, Tryz.func144.trans (congrArg some (by kernel_rfl))⟩
  f47 := Tryz.func145.trans (congrArg some (by kernel_rfl))
  f48 := Tryz.func146.trans (congrArg some (by kernel_rfl))
  f49 := ⟨Tryz.f147.name, by decide, Tryz.func147.trans (congrArg some (by kernel_rfl))⟩
  f50 := ⟨Tryz.f148.name, by decide, Tryz.func148.trans (congrArg some (by kernel_rfl))⟩
  f57 := ⟨Tryz.f178.name, by decide, Tryz.func178.trans (congrArg some (by kernel_rfl))⟩
  t0 := Tryz.underlying0
  a0 := Tryz.isAgg0
  z0 := Tryz.sizeOf0
  v0 := Tryz.zeroValue0
  t3 := Tryz.underlying3
  a3 := Tryz.isAgg3
  z3 := Tryz.sizeOf3
  v3 := Tryz.zeroValue3
  t4 := Tryz.underlying4
  a4 := Tryz.isAgg4
  z4 := Tryz.sizeOf4
  v4 := Tryz.zeroValue4
  t5 := Tryz.underlying5
  a5 := Tryz.isAgg5
  z5 := Tryz.sizeOf5
  v5 := Tryz.zeroValue5
  t9 := Tryz.underlying9
  a9 := Tryz.isAgg9
  z9 := Tryz.sizeOf9
  v9 := Tryz.zeroValue9
  t22 := Tryz.underlying74
  a22 := Tryz.isAgg74
  z22 := Tryz.sizeOf74
  v22 := Tryz.zeroValue74
  t25 := Tryz.underlying116
  a25 := Tryz.isAgg116
  z25 := Tryz.sizeOf116
  v25 := Tryz.zeroValue116
  t39 := Tryz.underlying151
  a39 := Tryz.isAgg151
  z39 := Tryz.sizeOf151
  v39 := Tryz.zeroValue151
  t45 := Tryz.underlying190
  a45 := Tryz.isAgg190
  z45 := Tryz.sizeOf190
  v45 := Tryz.zeroValue190
  t46 := Tryz.underlying191
  a46 := Tryz.isAgg191
  z46 := Tryz.sizeOf191
  v46 := Tryz.zeroValue191
  t50 := Tryz.underlying195
  a50 := Tryz.isAgg195
  z50 := Tryz.sizeOf195
  v50 := Tryz.zeroValue195
  t53 := Tryz.underlying35
  a53 := Tryz.isAgg35
  z53 := Tryz.sizeOf35
  v53 := Tryz.zeroValue35
  t55 := Tryz.underlying33
  a55 := Tryz.isAgg33
  z55 := Tryz.sizeOf33
  v55 := Tryz.zeroValue33
  t66 := Tryz.underlying215
  a66 := Tryz.isAgg215
  z66 := Tryz.sizeOf215
  v66 := Tryz.zeroValue215
  t70 := Tryz.underlying219
  a70 := Tryz.isAgg219
  z70 := Tryz.sizeOf219
  v70 := Tryz.zeroValue219
  t76 := Tryz.underlying254
  a76 := Tryz.isAgg254
  z76 := Tryz.sizeOf254
  v76 := Tryz.zeroValue254
  t77 := Tryz.underlying255
  a77 := Tryz.isAgg255
  z77 := Tryz.sizeOf255
  v77 := Tryz.zeroValue255 }
end Go.Proofs

/- How seats are compared, and that they are sorted by it. No condition. -/
namespace Go.Proofs.YtdagnkdonlfobaaGreat
open Go.RowKit Go.Sort Go.Lib
variable {w w' W : World}

theorem isNaN_any (x : Int) (W : World) : Calls Tryz.prog 87 #[.int .u64 x] W fun e w' => e = .returned (.bool false) ∧ w' = W := by
  go_enter Tryz.func87, Tryz.ntmps87
  go_wp2
  go_ret
  exact ⟨rfl, rfl⟩
def cmpN (x y : Int) : Int := if x < y then -1 else if y < x then 1 else 0
theorem compare_any (x y : Int) (W : World) : Calls Tryz.prog 52 #[.int .u64 x, .int .u64 y] W fun e w' => e = .returned (.int .i64 (cmpN x y)) ∧ w' = W := by
  by_cases h1 : x < y
  · have E := Lib.hid (show cmpN x y = -1 from if_pos h1)
    go_enter Tryz.func52, Tryz.ntmps52
    go_wp2_with (go_at_call 87; refine (isNaN_any _ _).mono ?_; rintro e w' ⟨rfl, rfl⟩)
    go_ret
    exact ⟨ret_int E.out.symm, rfl⟩
  by_cases h2 : y < x
  · have E := Lib.hid (show cmpN x y = 1 from (if_neg h1).trans (if_pos h2))
    go_enter Tryz.func52, Tryz.ntmps52
    go_wp2_with (go_at_call 87; refine (isNaN_any _ _).mono ?_; rintro e w' ⟨rfl, rfl⟩)
    go_ret
    exact ⟨ret_int E.out.symm, rfl⟩
  · have E := Lib.hid (show cmpN x y = 0 from (if_neg h1).trans (if_neg h2))
    go_enter Tryz.func52, Tryz.ntmps52
    go_wp2_with (go_at_call 87; refine (isNaN_any _ _).mono ?_; rintro e w' ⟨rfl, rfl⟩)
    go_ret
    exact ⟨ret_int E.out.symm, rfl⟩

/-- A seat: where it is, how long. -/
def seatCs (x : Int × Int) : List Value := [.int .u64 x.1, .int .u64 x.2]
theorem seatCs_len (x : Int × Int) : (seatCs x).length = 2 := rfl
theorem seatCs_one (x : Int × Int) : ∀ u ∈ seatCs x, u.oneCell' = true := by
  intro u hu
  simp only [seatCs, List.mem_cons, List.not_mem_nil, or_false] at hu
  rcases hu with rfl | rfl <;> rfl
theorem seatType : StType Tryz.prog 80 74 2 16 := .mk' Tryz.underlying74 (z := .agg #[.int .u64 0, .int .u64 0]) (by kernel_rfl) rfl (by decide)
def cmpSeat (x y : Int × Int) : Int := cmpN x.1 y.1
theorem ltSeat (x y : Int × Int) : ltOf cmpSeat x y = decide (x.1 < y.1) := by
  unfold ltOf cmpSeat cmpN
  by_cases h1 : x.1 < y.1
  · simp [h1]
  · by_cases h2 : y.1 < x.1 <;> simp [h1, h2]
theorem swoSeat : SWO (ltOf cmpSeat) where
  irrefl x := by rw [ltSeat]; simp
  trans x y z h1 h2 := by rw [ltSeat] at *; simp at *; omega
  ntrans x y z h1 h2 := by rw [ltSeat] at *; simp at *; omega

theorem seats1_any (x y : Int × Int) (W : World) : Calls Tryz.prog 51 #[.agg (seatCs x).toArray, .agg (seatCs y).toArray] W fun e w' => e = .returned (.int .i64 (cmpSeat x y)) ∧ ∃ q os', w' = grow (W.drewN q) os' := by
  unfold cmpSeat
  obtain ⟨x1, x2⟩ := x
  obtain ⟨y1, y2⟩ := y
  have C := Lib.hid (fun V => compare_any x1 y1 V)
  simp only [seatCs]
  generalize cmpN x1 y1 = r at *
  go_enter Tryz.func51, Tryz.ntmps51
  go_wp2_with (go_at_call 52; refine (C.out _).mono ?_; rintro e w' ⟨rfl, rfl⟩)
  go_ret
  exact ⟨rfl, 0, _, by rw [alloc_eq_grow, alloc_eq_grow, grow_grow]; rfl⟩
theorem cmpSeat_lays (blk off size : Nat) (w : World) : CmpLays Tryz.prog 51 #[] seatCs 2 cmpSeat blk off size w := fun _ _ _ _ x y => seats1_any x y _

end Go.Proofs.YtdagnkdonlfobaaGreat

/- The seats of an image's segments, in order: lay.seats. Conditions: the image's lists, by their cells; it has a segment that is no hole. -/
namespace Go.Proofs.YtdagnkdonlfobaaGreat
open Go.RowKit Go.Sort
variable {w w' W : World} {h : Hx} {s : St} {sv dv : Value}

def seatOf (sl : Int) (x : Seg) : Int × Int := ((x.addr + sl) % 18446744073709551616, x.size)
def seatsN (l : List Sg) (sl : Int) : List (Int × Int) := (solidSg l).map (fun x => seatOf sl x.seg)
/-- A row of seats, by their cells. -/
def RowSeat (w : World) (g : Nat) (d : Array (Int × Int)) : Prop := ∀ i, i < d.size → w.cell? ⟨g, i * 2, none⟩ = some (.int .u64 d[i]!.1) ∧ w.cell? ⟨g, i * 2 + 1, none⟩ = some (.int .u64 d[i]!.2)
theorem RowSeat.grown {g : Nat} {d : Array (Int × Int)} (h : RowSeat w g d) (hg : w.grownBy w' none) : RowSeat w' g d := fun i hi => ⟨grown_cell hg (h i hi).1, grown_cell hg (h i hi).2⟩
theorem RowSeat.of {g : Nat} {d : Array (Int × Int)} (h : HoldsK seatCs 2 w g 0 d) : RowSeat w g d := fun i hi => by
  have h0 := (h.cell hi (c := 0) (by decide)).1
  have h1 := (h.cell hi (c := 1) (by decide)).1
  rw [Nat.zero_add] at h0 h1
  exact ⟨h0, h1⟩
structure SeatsOut (w w' : World) (n : Nat) (l : List (Int × Int)) (e : Ending) : Prop where
  ex : ∃ g c d, e = .returned (.slice (some ⟨g, 0, none⟩) n c) ∧ n ≤ c ∧ c ≤ 9223372036854775807 ∧ g < w'.heap.size ∧ RowSeat w' g d ∧ d.size = n ∧ d.toList.Perm l ∧ (∀ i j, i < j → j < n → d[i]!.1 ≤ d[j]!.1)
  grown : w.grownBy w' none

set_option maxRecDepth 20000 in
set_option maxHeartbeats 800000 in
theorem seats_any {l : List Sg} {qs : Option Addr} {cs : Nat} (k : ImgRows w s l qs cs) (hn : l.length ≤ 1000000) (sl : Nat) (h0 : 0 < (solidSg l).length) :
    Calls Tryz.prog 26 #[imgV h s (.slice qs l.length cs) dv, .int .u64 sl] w fun e w' => SeatsOut w w' (solidSg l).length (seatsN l sl) e := by
  have gB := grown1 w (.cells (imgArr h s (.slice qs l.length cs) dv) 41)
  have aA : ImgAt (w.alloc (.cells (imgArr h s (.slice qs l.length cs) dv) 41)) w.heap.size h s (.slice qs l.length cs) dv := heap_alloc_new w _
  obtain ⟨W, hW⟩ : ∃ W, w.alloc (.cells (imgArr h s (.slice qs l.length cs) dv) 41) = W := ⟨_, rfl⟩
  obtain ⟨b, hb⟩ : ∃ b, w.heap.size = b := ⟨_, rfl⟩
  rw [hW] at gB aA
  rw [hb] at aA
  have SO := Lib.hid (solid_any (h := h) (dv := dv) (k.grown gB) hn)
  have SL := Lib.hid (solid_len l)
  have G := Lib.hid gB
  have IA := Lib.hid aA
  obtain ⟨L, hL⟩ : ∃ L, L = solidSg l := ⟨_, rfl⟩
  have SN := Lib.hid (show seatsN l sl = L.map (fun x => seatOf sl x.seg) by rw [hL]; rfl)
  rw [← hL] at SO SL h0 ⊢
  clear k gB aA hL
  rw [show imgV h s (.slice qs l.length cs) dv = .agg (imgArr h s (.slice qs l.length cs) dv) from rfl]
  unfold imgArr at hW ⊢
  go_enter Tryz.func26, Tryz.ntmps26
  go_upto_region 1 with fail
  clear hW hb
  go_wp2_with (first | refine wpList_load_imgI rfl _ rfl rfl IA.out ?_ | fail)
  refine SO.out.mono ?_
  rintro e w2 ⟨v, rfl, ho, hg⟩
  obtain ⟨q2, c2, rfl⟩ := own_slice ho
  have R2 := Lib.hid (rowSg_of ho)
  have G2 := Lib.hid (grown_trans G.out hg)
  have M2 := Lib.hid (own_most ho)
  have C2 := Lib.hid (own_room ho)
  have NL := Lib.hid (Nat.le_trans SL.out hn)
  have B2 := Lib.hid (show w.heap.size ≤ w2.heap.size from G2.out.size)
  clear ho hg SO IA SL hn G
  obtain ⟨N, hN⟩ : ∃ N, N = L.length := ⟨_, rfl⟩
  rw [← hN] at h0 M2 C2 NL ⊢
  have HN := Lib.hid hN
  clear hN
  have hcp : N ≤ c2 := C2.out
  have hfw : N ≤ 9223372036854775807 := M2.out
  go_wp2
  go_loopw [5, 11] (fun e i wr => ∃ (k1 : Nat) (v : Value), k1 ≤ N ∧ i = .int .i64 k1 ∧ v = e ∧ wr.ownsRow w2.heap.size 80 2 v k1 ((L.take k1).flatMap (fun x => seatCs (seatOf sl x.seg))) ∧ w2.grownBy wr none) (fun _ i _ => N - (intOf i).toNat)
  case atStart => exact ⟨0, _, Nat.zero_le _, rfl, rfl, World.ownsRow_nil _ _ _ _, grown_refl _ _⟩
  case round =>
    obtain ⟨k1, v, hk, rfl, rfl, ho, hg⟩ := hrel
    have G3 := Lib.hid hg
    have O3 := Lib.hid ho
    by_cases hlt : k1 < N
    · obtain ⟨x, hx⟩ : ∃ x, L[k1]? = some x := ⟨_, List.getElem?_eq_getElem (HN.out ▸ hlt)⟩
      obtain ⟨g, rfl, a0, a1, a2, a3, a4, a5, a6⟩ := (R2.out.grown hg).at hx
      have dl : decide ((k1 : Int) < (N : Int)) = true := by simp; omega
      have hkl : (k1 : Int) < (N : Int) := by omega
      have TK := Lib.hid (show (L.take (k1 + 1)).flatMap (fun x => seatCs (seatOf sl x.seg)) = (L.take k1).flatMap (fun x => seatCs (seatOf sl x.seg)) ++ seatCs (seatOf sl x.seg) by
        obtain ⟨hkk, he⟩ := List.getElem?_eq_some_iff.1 hx
        rw [List.take_succ_eq_append_getElem hkk, List.flatMap_append, he]
        simp only [List.flatMap_cons, List.flatMap_nil, List.append_nil])
      have SE := Lib.hid (show seatCs (seatOf sl x.seg) = [.int .u64 ((x.seg.addr + sl) % 18446744073709551616), .int .u64 x.seg.size] from rfl)
      obtain ⟨⟨nm, ad, sz, of, fs, pr, sc⟩, q1, c1⟩ := x
      simp only [] at a0 a1 a2 a3 a4 a5 a6 SE
      obtain ⟨T, hT⟩ : ∃ T, (ad + (sl : Int)) % 18446744073709551616 = T := ⟨_, rfl⟩
      have hT2 : IntKind.u64.wrap (ad + (sl : Int)) = T := by rw [IntKind.wrap_u64]; exact hT
      rw [hT] at SE
      have g5 := grown_trans hg (grown1 wr (.cells #[.string (strOfNums nm), .int .u64 ad, .int .u64 sz, .int .u64 of, .int .u64 fs, .int .i64 pr, .slice q1 sc.length c1] 58))
      have p5 : SegAt (wr.alloc (.cells #[.string (strOfNums nm), .int .u64 ad, .int .u64 sz, .int .u64 of, .int .u64 fs, .int .i64 pr, .slice q1 sc.length c1] 58)) wr.heap.size ⟨nm, ad, sz, of, fs, pr, sc⟩ (.slice q1 sc.length c1) := heap_alloc_new wr _
      have o5 := own_grown ho (grown1 wr (.cells #[.string (strOfNums nm), .int .u64 ad, .int .u64 sz, .int .u64 of, .int .u64 fs, .int .i64 pr, .slice q1 sc.length c1] 58))
      obtain ⟨V, hV⟩ : ∃ V, wr.alloc (.cells #[.string (strOfNums nm), .int .u64 ad, .int .u64 sz, .int .u64 of, .int .u64 fs, .int .i64 pr, .slice q1 sc.length c1] 58) = V := ⟨_, rfl⟩
      obtain ⟨c, hc⟩ : ∃ c, wr.heap.size = c := ⟨_, rfl⟩
      rw [hV] at g5 o5 p5
      rw [hc] at p5
      have P5 := Lib.hid p5
      have G5 := Lib.hid g5
      have O5 := Lib.hid o5
      have HV := Lib.hid hV
      have HC := Lib.hid hc
      clear hg hx g5 p5 o5 ho O3 G3 hT hV hc
      go_upto_region 5 with fail
      rw [HV.out, HC.out]
      have gl5 := P5.out.lt
      obtain ⟨y0, y1, y2, y3, y4, y5, y6⟩ := P5.out.c
      simp only [] at y0 y1 y2 y3 y4 y5 y6
      have O6 := Lib.hid (own_grown O5.out (grown1 V (.cells #[.int .u64 T, .int .u64 sz] 80)))
      have N6 := Lib.hid (heap_alloc_new V (.cells #[.int .u64 T, .int .u64 sz] 80))
      have SZ := Lib.hid (show w2.heap.size ≤ V.heap.size from G5.out.size)
      have LO := Lib.hid (fun g' (e : v.ownBlock = some g') => (O5.out.lt g' e).1)
      have nl := NL.out
      clear a0 a1 a2 a3 a4 a5 a6
      go_wp2_with (at_builtin; refine wp_append_st seatType rfl _ _ rfl v k1 _ rfl O6.out [.int .u64 T, .int .u64 sz] rfl V.heap.size rfl N6.out (by rw [← SE.out]; exact seatCs_one _) (by omega) (by decide) ?_ ?_)
      · have := SZ.out; (try rw [World.size_alloc]); omega
      intro v' w3 ho hg3
      have O7 := Lib.hid ho
      have G7 := Lib.hid (grown_own (grown_trans G5.out (grown1 V _)) hg3 LO.out (Nat.le_refl _))
      clear ho hg3
      go_wp2
      go_roundw
      case rel => exact ⟨k1 + 1, _, hlt, by go_num, rfl, by rw [TK.out, SE.out]; exact O7.out, G7.out⟩
      case measure => simp [intOf]; omega
    · have hk' : k1 = N := by omega
      subst hk'
      have dl : decide ((k1 : Int) < (k1 : Int)) = false := by simp
      obtain ⟨qv, cv, rfl⟩ := own_slice ho
      obtain ⟨D, hD⟩ : ∃ D, D = L.map (fun x => seatOf sl x.seg) := ⟨_, rfl⟩
      have ho' : wr.ownsRow w2.heap.size 80 2 (.slice qv k1 cv) k1 (D.flatMap seatCs) := by
        have e : (L.take k1).flatMap (fun x => seatCs (seatOf sl x.seg)) = D.flatMap seatCs := by
          rw [hD, HN.out, List.take_length, List.flatMap_map]
        rw [← e]; exact ho
      have hDl : D.length = k1 := by rw [hD, List.length_map, ← HN.out]
      have hq : ∃ gv, qv = some ⟨gv, 0, none⟩ := by
        obtain ⟨_, hn | ⟨g', cap, cur, hv, _⟩⟩ := ho'
        · exact absurd hn.2 (by omega)
        · injection hv with h1 _ _; exact ⟨g', h1⟩
      obtain ⟨gv, rfl⟩ := hq
      have hlt2 := ho'.lt gv rfl
      have HK := holdsK_own seatCs_len ho'
      have hcv := own_room ho'
      have hcm := own_max ho'
      have hsz : D.toArray.size = k1 := by simpa using hDl
      have hcon := AnyQ.slices_SortFunc Tryz.sortSeat 2 Tryz.isAgg80 Tryz.sizeOf80 seatCs seatCs_len seatCs_one cmpSeat swoSeat 51 #[] gv 0 cv D.toArray wr (enters_of Tryz.func51 (by kernel_rfl) rfl) (cmpSeat_lays gv 0 _ wr) HK hlt2.2 (by rw [hsz]; have := NL.out; omega)
      change Calls Tryz.prog 50 _ _ _ at hcon
      rw [hsz] at hcon
      have HCON := Lib.hid hcon
      have SG := Lib.hid (show seatsN l sl = D by rw [SN.out, hD])
      have HKH := Lib.hid HK
      have G9 := Lib.hid (grown_trans G2.out hg)
      have FACT := Lib.hid (And.intro hcv (And.intro hcm (And.intro hlt2 hsz)))
      clear ho ho' hg G3 O3 hDl HK hcon hsz hD hcv hcm hlt2
      go_wp2_with fail
      refine HCON.out.mono ?_
      rintro e w9 ⟨rfl, d', n9, os9, hp, hs, rfl⟩
      obtain ⟨hcv, hcm, hlt2, hsz⟩ := FACT.out
      rw [← hsz] at hp hs
      obtain ⟨p1, p2, p3⟩ := perm_list hp hs
      have gs := grown_sort seatCs 2 wr gv 0 n9 d' os9
      have hold := holds_grown (os := os9) (n := n9) seatCs 2 HKH.out p2 hlt2.2
      have RES := Lib.hid (show SeatsOut w (sortWorldK seatCs 2 wr gv 0 n9 d' os9) k1 (seatsN l sl) (.returned (.slice (some ⟨gv, 0, none⟩) k1 cv)) from
        ⟨⟨gv, cv, d', rfl, hcv, hcm, Nat.lt_of_lt_of_le hlt2.2 gs.size, RowSeat.of hold, p2.trans hsz, (by rw [SG.out]; exact p1), fun i j hij hj => (by
          have := p3 i j hij (by rw [p2, hsz]; exact hj)
          rw [ltSeat] at this
          simp at this
          omega)⟩, grown_new G9.out gs (Nat.le_trans B2.out hlt2.1)⟩)
      clear hp hs p1 p2 p3 gs hold
      generalize sortWorldK seatCs 2 wr gv 0 n9 d' os9 = w9 at *
      go_wp2
      go_ret
      rw [← HN.out]
      exact RES.out
end Go.Proofs.YtdagnkdonlfobaaGreat
