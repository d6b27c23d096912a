import Derived.Test.YtemdbfgpimfkdaaGreatM12
import Derived.Test.YtemdbfgpimfkdaaGreatM13
import Derived.Laws.Bits128
import Derived.StringKeys
/- Which images may be, in numbers: as the program asks it and as the document does. No condition. -/
namespace Go.Proofs.YtemdbfgpimfkdaaGreat

/-- A name's bytes. -/
def nmOf (x : Seg) : List UInt8 := (strOfNums x.name).toList
def diffN (l : List Seg) : Bool := decide ((l.map nmOf).Nodup)
def riseN : Int → List Seg → Bool
  | _, [] => true
  | e, x :: l => decide (e ≤ x.addr) && riseN ((x.addr + x.size) % 18446744073709551616) l
def RiseR (x y : Seg) : Prop := nmOf x ≠ nmOf y ∧ x.addr + x.size ≤ y.addr
instance (x y : Seg) : Decidable (RiseR x y) := inferInstanceAs (Decidable (_ ∧ _))
def frontOk (l : List Seg) (hd : Int) : Bool := match l.find? laidS with
  | none => false
  | some x => (x.off == 0) && decide (hd ≤ x.fsize) && (x.prot % 2 == 1) && !wrOk x
def lowN (l : List Seg) : Int := match l.find? laidS with
  | none => 0
  | some x => x.addr
def highN (l : List Seg) : Int := l.foldl (fun a x => if laidS x = true then max a ((x.addr + x.size) % 18446744073709551616) else a) 0
def spansList (s : St) : List (Int × Int) := [s.rb, s.bd, s.wk, s.lz, s.tr, s.ch, s.sy, s.st]
def spansOk (s : St) (n : Int) : Bool := (spansList s).all (fun x => withinN x.1 x.2 n)
def entryOk (s : St) : Bool := !s.has || decide (s.entry < (highN s.segs - lowN s.segs) % 18446744073709551616)
def nameOk (h : Hx) (s : St) : Bool := (h.kd == 6) == !(strOfNums s.name).toList.isEmpty
def segsOk (s : St) (n hd : Int) : Bool := s.segs.all protOk && s.segs.all (fun x => sizeOk x n) && decide (s.segs.Pairwise RiseR) && frontOk s.segs hd
def secsOk (s : St) : Bool := s.segs.all (fun z => z.secs.all (secOk z))
/-- May it be? An error. -/
def mayN (h : Hx) (s : St) (n hd : Int) : Int :=
  if segsOk s n hd = false then 8 else if secsOk s = false then 9 else if (spansOk s n && (s.sy.2 % 16 == 0) && entryOk s) = false then 4 else if nameOk h s = false then 10 else 0

theorem rise_iff (l : List Seg) (n : Int) (h : l.all (fun x => sizeOk x n) = true) (hf : ∀ x ∈ l, 0 ≤ x.addr) (e : Int) : riseN e l = true ↔ (∀ x ∈ l, e ≤ x.addr) ∧ l.Pairwise (fun x y => x.addr + x.size ≤ y.addr) := by
  induction l generalizing e with
  | nil => simp [riseN]
  | cons x l ih =>
    rw [List.all_cons, Bool.and_eq_true] at h
    have hx := h.1
    unfold sizeOk withinN at hx
    simp only [Bool.and_eq_true, decide_eq_true_eq] at hx
    have h0 := hf x (List.mem_cons_self ..)
    have hm : (x.addr + x.size) % 18446744073709551616 = x.addr + x.size := by omega
    unfold riseN
    rw [hm, Bool.and_eq_true, decide_eq_true_eq, ih h.2 (fun y hy => hf y (List.mem_cons_of_mem _ hy)), List.pairwise_cons]
    constructor
    · rintro ⟨a, b, c⟩
      refine ⟨fun y hy => ?_, b, c⟩
      rcases List.mem_cons.1 hy with rfl | hy
      · exact a
      · have := b y hy; omega
    · rintro ⟨a, b, c⟩
      exact ⟨a x (List.mem_cons_self ..), b, c⟩
theorem pair_iff (l : List Seg) : l.Pairwise RiseR ↔ (l.map nmOf).Nodup ∧ l.Pairwise (fun x y => x.addr + x.size ≤ y.addr) := by
  unfold List.Nodup
  rw [List.pairwise_map, ← List.pairwise_and_iff]
  rfl
/-- The program's rows of rules, and the document's loops. -/
theorem segsOk_eq (s : St) (n hd : Int) (hf : ∀ x ∈ s.segs, 0 ≤ x.addr) : segsOk s n hd = (s.segs.all protOk && s.segs.all (fun x => sizeOk x n) && diffN s.segs && riseN 0 s.segs && frontOk s.segs hd) := by
  unfold segsOk diffN
  cases h : s.segs.all (fun x => sizeOk x n)
  · simp
  · have e : decide (s.segs.Pairwise RiseR) = (decide ((s.segs.map nmOf).Nodup) && riseN 0 s.segs) := by
      rw [Bool.eq_iff_iff, Bool.and_eq_true, decide_eq_true_eq, decide_eq_true_eq, rise_iff _ n h hf, pair_iff]
      exact ⟨fun a => ⟨a.1, fun x hx => hf x hx, a.2⟩, fun a => ⟨a.1, a.2.2⟩⟩
    rw [e]
    simp [Bool.and_assoc]
end Go.Proofs.YtemdbfgpimfkdaaGreat

/- The front segment and the image's lowest address. No condition but that numbers fit their types. -/
namespace Go.Proofs.YtemdbfgpimfkdaaGreat
open Go.RowKit
variable {w w' : World} {h : Hx} {s : St} {sv dv : Value} {n hd : Int}

theorem Idx.find {α : Type} {l : List α} {P : α → Bool} {z : Int} (h : Idx l P z) : (z = -1 ∧ l.find? P = none) ∨ ∃ k x, z = (k : Nat) ∧ k < l.length ∧ l[k]? = some x ∧ l.find? P = some x := by
  rcases h with ⟨e, h⟩ | ⟨k, x, e, hx, hp, ha⟩
  · refine .inl ⟨e, ?_⟩
    rw [List.find?_eq_none]
    rw [List.any_eq_false] at h
    exact h
  · refine .inr ⟨k, x, e, ?_, hx, ?_⟩
    · exact (List.getElem?_eq_some_iff.1 hx).1
    · rw [List.find?_eq_some_iff_getElem]
      obtain ⟨hk, he⟩ := List.getElem?_eq_some_iff.1 hx
      exact ⟨hp, k, hk, he, fun j hj => by rw [ha j _ hj (List.getElem?_eq_getElem (Nat.lt_trans hj hk))]; rfl⟩
def Sg.zero : Sg := ⟨Seg.zero, none, 0⟩
def frontSg (l : List Sg) : Sg := (l.find? (fun x => laidS x.seg)).getD Sg.zero
def frontS (l : List Seg) : Seg := (l.find? laidS).getD Seg.zero
theorem front_seg {l : List Sg} (hl : l.map Sg.seg = s.segs) : (frontSg l).seg = frontS s.segs := by
  unfold frontSg frontS
  rw [← hl, List.find?_map]
  show _ = (Option.map Sg.seg (l.find? (fun x => laidS x.seg))).getD Seg.zero
  cases l.find? (fun x => laidS x.seg) <;> rfl
theorem results_sg1 {fn : Func} {p : Tmp} {g : Nat} {x : Seg} {v : Value} (hr : fn.results = #[.cell p 42]) {tmps : Array Value} (hp : tmps.getD p undef = .pointer (some ⟨g, 0, none⟩)) (h : SegAt w g x v) :
    (results fn tmps).run Tryz.prog w = .ok (segV x v) w :=
  results_cell_row hr tmps w g _ _ _ _ hp h Tryz.underlying42 rfl (by kernel_rfl)
theorem SegAt.new (w : World) : SegAt (w.alloc (.cells #[.string ⟨#[]⟩, .int .u64 0, .int .u64 0, .int .u64 0, .int .u64 0, .int .i64 0, .slice none 0 0] 42)) w.heap.size Seg.zero (.slice none 0 0) := heap_alloc_new w _

set_option maxRecDepth 20000 in
theorem front_any {l : List Sg} {qs : Option Addr} {cs : Nat} (k : ImgRows w s l qs cs) : Calls Tryz.prog 59 #[imgV h s (.slice qs l.length cs) dv] w fun e w' => e = .returned (segV (frontSg l).seg (frontSg l).v) ∧ w.grownBy w' none := by
  have g1 := grown1 w (.cells (imgArr h s (.slice qs l.length cs) dv) 32)
  have IA : ImgAt (w.alloc (.cells (imgArr h s (.slice qs l.length cs) dv) 32)) w.heap.size h s (.slice qs l.length cs) dv := heap_alloc_new w _
  obtain ⟨W, hW⟩ : ∃ W, w.alloc (.cells (imgArr h s (.slice qs l.length cs) dv) 32) = W := ⟨_, rfl⟩
  obtain ⟨b, hb⟩ : ∃ b, w.heap.size = b := ⟨_, rfl⟩
  have c4 := IA.c 4 (.slice qs l.length cs) rfl
  have gl := lt_of_block IA
  rw [hW] at g1 c4 gl
  rw [hb] at c4 gl
  have g2 := grown1 W (.cells #[.string ⟨#[]⟩, .int .u64 0, .int .u64 0, .int .u64 0, .int .u64 0, .int .i64 0, .slice none 0 0] 42)
  have Z := Lib.hid (SegAt.new W)
  have K2 := (k.grown g1).grown g2
  have II := Lib.hid (indexLaid_any l l.length rfl k.few (fun x => laidS x.seg) qs cs K2.row (fun V x hx hg => isLaid_any x.seg x.q x.seg.secs.length x.c))
  have R := Lib.hid (fun (V : World) (hg : World.grownBy _ V none) => K2.row.grown hg)
  have c4' := grown_cell g2 c4
  have gl' := Nat.lt_of_lt_of_le gl g2.size
  have G := Lib.hid (grown_trans g1 g2)
  have GW := Lib.hid g1.size
  have CP := Lib.hid k.cap
  have FW := Lib.hid k.few
  obtain ⟨X, hX⟩ : ∃ X, X = frontSg l := ⟨_, rfl⟩
  rw [← hX]
  have HX := Lib.hid hX
  unfold imgV
  clear k K2 g1 g2 c4 gl hX
  unfold imgArr at hW ⊢
  go_enter Tryz.func59, Tryz.ntmps59
  go_upto_region 1 with fail
  clear hW hb
  generalize hN : l.length = N at *
  have HN := Lib.hid hN
  clear hN
  go_wp2_with fail
  refine II.out.mono ?_
  rintro e w3 ⟨⟨z, rfl, hz⟩, hg⟩
  have Z3 := Z.out.kept hg (by simp)
  have GF := Lib.hid (grown_trans G.out hg)
  have R3 := R.out _ hg
  have zl := Z3.lt
  have z0 := Z3.fz 0
  have z1 := Z3.fz 1
  have z2 := Z3.fz 2
  have z3 := Z3.fz 3
  have z4 := Z3.fz 4
  have z5 := Z3.fz 5
  have z6 := Z3.fz 6
  obtain ⟨y0, y1, y2, y3, y4, y5, y6⟩ := Z3.c
  have c4 := grown_cell hg c4'
  have gl := Nat.lt_of_lt_of_le gl' hg.size
  have Z4 := Lib.hid Z3
  clear hg Z3 Z c4' gl'
  rcases hz.find with ⟨rfl, hf⟩ | ⟨i, x, rfl, hi, hx, hf⟩
  · have HF : frontSg l = Sg.zero := by unfold frontSg; rw [hf]; rfl
    obtain rfl := HX.out.trans HF
    clear hz hf R3 HF
    go_wp2
    refine bodyPost_ret (results_sg1 rfl rfl (Z4.out.put Seg.zero (.slice none 0 0))) rfl ?_
    exact ⟨rfl, grown_new GF.out (grown_put7 (grown_refl _ _) _ _ _ _ _ _ _) GW.out⟩
  · have HF : frontSg l = x := by unfold frontSg; rw [hf]; rfl
    obtain rfl := HX.out.trans HF
    obtain ⟨g, rfl, a0, a1, a2, a3, a4, a5, a6⟩ := R3 i _ hx
    have hiN : i < N := by rw [← HN.out]; exact hi
    have hNc : N ≤ cs := CP.out
    have hN9 : N ≤ 9223372036854775807 := FW.out
    have dl : decide ((i : Int) < 0) = false := by simp
    have dn : decide ((i : Int) < (N : Int)) = true := by simp; omega
    have dz : decide (0 ≤ (i : Int)) = true := by simp
    clear HX
    obtain ⟨⟨nm, ad, sz, of, fs, pr, sl⟩, q1, k1⟩ := X
    unfold Sg.v at a6
    simp only [] at a0 a1 a2 a3 a4 a5 a6
    clear hz hf R3 hx HF
    go_wp2
    refine bodyPost_ret (results_sg1 rfl rfl (Z4.out.put ⟨nm, ad, sz, of, fs, pr, sl⟩ (.slice q1 sl.length k1))) rfl ?_
    exact ⟨rfl, grown_new GF.out (grown_put7 (grown_refl _ _) _ _ _ _ _ _ _) GW.out⟩

theorem wpList_load_imgI {g : Nat} {h : Hx} {s : St} {sv dv : Value} {ops : Array Oper} {rest : List Oper} {o : Oper} {a : Act} {Q : Exit → Act → World → Prop} (hgd : o.guard = none) (x : Operand) (ho : o.op = .load 32 x)
    (hx : a.eval x = .pointer (some ⟨g, 0, none⟩)) (k : ImgAt w g h s sv dv) (hK : wpList Tryz.prog ops Q rest (a.put o.dst (imgV h s sv dv)) w) : wpList Tryz.prog ops Q (o :: rest) a w :=
  wpList_load_imgW (by unfold Region.wanted; rw [hgd]) x ho hx k hK

theorem field_addr (nm : List Int) (ad sz of fs pr : Int) (v : Value) (w : World) : (Instr.field 42 (.agg #[.string (strOfNums nm), .int .u64 ad, .int .u64 sz, .int .u64 of, .int .u64 fs, .int .i64 pr, v]) 1).run Tryz.prog w = .ok (.int .u64 ad) w := by kernel_rfl
set_option maxRecDepth 20000 in
theorem Low_any {l : List Sg} {qs : Option Addr} {cs : Nat} (k : ImgRows w s l qs cs) : Calls Tryz.prog 67 #[imgV h s (.slice qs l.length cs) dv] w fun e w' => e = .returned (.int .u64 (lowN s.segs)) ∧ w.grownBy w' none := by
  have g1 := grown1 w (.cells (imgArr h s (.slice qs l.length cs) dv) 32)
  have IA := Lib.hid (show ImgAt (w.alloc (.cells (imgArr h s (.slice qs l.length cs) dv) 32)) w.heap.size h s (.slice qs l.length cs) dv from heap_alloc_new w _)
  obtain ⟨W, hW⟩ : ∃ W, w.alloc (.cells (imgArr h s (.slice qs l.length cs) dv) 32) = W := ⟨_, rfl⟩
  obtain ⟨b, hb⟩ : ∃ b, w.heap.size = b := ⟨_, rfl⟩
  rw [hW] at g1 IA
  rw [hb] at IA
  have FR := Lib.hid (front_any (h := h) (dv := dv) (k.grown g1))
  have G := Lib.hid g1
  have LW : lowN s.segs = (frontSg l).seg.addr := by
    rw [front_seg k.segs]
    unfold lowN frontS
    cases s.segs.find? laidS <;> rfl
  rw [LW]
  obtain ⟨⟨⟨nm, ad, sz, of, fs, pr, sl⟩, q1, k1⟩, hX⟩ : ∃ X, X = frontSg l := ⟨_, rfl⟩
  rw [← hX] at FR ⊢
  clear k g1 LW hX
  simp only [] at FR ⊢
  unfold segV segArr at FR
  have HW := Lib.hid hW
  rw [show imgV h s (.slice qs l.length cs) dv = .agg (imgArr h s (.slice qs l.length cs) dv) from rfl]
  unfold imgArr at hW ⊢
  go_enter Tryz.func67, Tryz.ntmps67
  go_upto_region 1 with fail
  clear hW hb
  go_wp2_with (first | refine wpList_load_imgI rfl _ rfl rfl IA.out ?_ | fail)
  refine FR.out.mono ?_
  rintro e w3 ⟨rfl, hg⟩
  have GF := Lib.hid (grown_trans G.out hg)
  clear hg
  have fa := field_addr nm ad sz of fs pr
  go_wp2
  go_ret
  exact ⟨rfl, GF.out⟩

/-- The image of what is asked about, at once. -/
theorem run_loadImgQ {g : Nat} {h : Hx} {s : St} {sv dv : Value} {n hd : Int} (a : AskAt w g h s sv dv n hd) : (loadVar 32 ⟨g, 0, none⟩).run Tryz.prog w = .ok (imgV h s sv dv) w := by
  have hl : (loadCells ⟨g, 0, none⟩ (imgArr h s sv dv).toList.length).run Tryz.prog w = .ok (imgArr h s sv dv).toList.toArray w :=
    run_loadCells_list (P := Tryz.prog) w ⟨g, 0, none⟩ (imgArr h s sv dv).toList (fun j v hv => by
      have hadd : (⟨g, 0, none⟩ : Addr).add j = ⟨g, j, none⟩ := by unfold Addr.add; split <;> simp_all
      rw [hadd, cell_of a]
      have hj : j < 24 := by
        rcases Nat.lt_or_ge j 24 with h1 | h1
        · exact h1
        · rw [List.getElem?_eq_none (by exact h1)] at hv; cases hv
      rw [← hv]
      match j, hj with
      | 0, _ => rfl
      | 1, _ => rfl
      | 2, _ => rfl
      | 3, _ => rfl
      | 4, _ => rfl
      | 5, _ => rfl
      | 6, _ => rfl
      | 7, _ => rfl
      | 8, _ => rfl
      | 9, _ => rfl
      | 10, _ => rfl
      | 11, _ => rfl
      | 12, _ => rfl
      | 13, _ => rfl
      | 14, _ => rfl
      | 15, _ => rfl
      | 16, _ => rfl
      | 17, _ => rfl
      | 18, _ => rfl
      | 19, _ => rfl
      | 20, _ => rfl
      | 21, _ => rfl
      | 22, _ => rfl
      | 23, _ => rfl
      )
  cases hq : Tryz.prog.info? 32 with
  | none => have := imgInfo; simp [hq] at this
  | some i =>
    have hs : i.size = 24 := by have := imgInfo; simpa [hq] using this
    have hagg : (isAgg 32).run Tryz.prog w = .ok true w := by
      unfold isAgg
      rw [Sem.run_bind, run_underlying Tryz.underlying32 w]
      rfl
    have hl' : (loadCells ⟨g, 0, none⟩ 24).run Tryz.prog w = .ok (imgArr h s sv dv) w := hl
    simp [loadVar, Sem.run_bind, hagg, sizeOf, typeInfo, hq, hs, hl', imgV]
theorem wpList_load_imgQ {g : Nat} {h : Hx} {s : St} {sv dv : Value} {n hd : Int} {ops : Array Oper} {rest : List Oper} {o : Oper} {a : Act} {Q : Exit → Act → World → Prop} (hw : Region.wanted o (yielded ops a.tmps) = true) (x : Operand) (ho : o.op = .load 32 x)
    (hx : a.eval x = .pointer (some ⟨g, 0, none⟩)) (i : AskAt w g h s sv dv n hd) (hK : wpList Tryz.prog ops Q rest (a.put o.dst (imgV h s sv dv)) w) : wpList Tryz.prog ops Q (o :: rest) a w := by
  refine BigFrame.wpList_want hw fun _ hK' => ?_
  unfold Oper.wp execOp
  simp only [ho, hx, Instr.loadAt, Instr.sureAddr, Sem.run_bind, Sem.run_pure, Result.andThen_ok, run_loadImgQ i]
  exact hK' _ _ hK
theorem and1_i64 (n : Int) : bits .and .i64 n 1 = n % 2 := by
  have h1 : (BitVec.ofInt 64 1).toNat = 2 ^ 1 - 1 := by decide
  have key : (BitVec.ofInt 64 n &&& BitVec.ofInt 64 1).toNat = (n % ((2 ^ 64 : Nat) : Int)).toNat % 2 ^ 1 := by
    rw [BitVec.toNat_and, BitVec.toNat_ofInt, h1, Nat.and_two_pow_sub_one_eq_mod]
  show IntKind.i64.wrap ((BitVec.ofInt 64 n &&& BitVec.ofInt 64 1).toNat : Nat) = n % 2
  rw [key, IntKind.wrap_i64]
  omega
theorem frontOk_eq (l : List Seg) (hd : Int) : frontOk l hd = (((frontS l).off == 0) && decide (hd ≤ (frontS l).fsize) && ((frontS l).prot % 2 == 1) && !wrOk (frontS l)) := by
  unfold frontOk frontS
  cases l.find? laidS with
  | none => simp [Seg.zero]
  | some x => rfl
set_option maxRecDepth 20000 in
theorem frontMay_any {l : List Sg} {qs : Option Addr} {cs : Nat} (k : ImgRows w s l qs cs) : Calls Tryz.prog 33 #[askV h s (.slice qs l.length cs) dv n hd] w fun e w' => e = .returned (.bool (frontOk s.segs hd)) ∧ w.grownBy w' none := by
  have gB := grown1 w (.cells (askArr h s (.slice qs l.length cs) dv n hd) 59)
  have aA := askNew (h := h) (s := s) (sv := .slice qs l.length cs) (dv := dv) (n := n) (hd := hd) w
  obtain ⟨W, hW⟩ : ∃ W, w.alloc (.cells (askArr h s (.slice qs l.length cs) dv n hd) 59) = W := ⟨_, rfl⟩
  obtain ⟨b, hb⟩ : ∃ b, w.heap.size = b := ⟨_, rfl⟩
  rw [hW] at gB aA
  rw [hb] at aA
  have AA := Lib.hid aA
  have FR := Lib.hid (front_any (h := h) (dv := dv) (k.grown gB))
  have G := Lib.hid gB
  rw [frontOk_eq, ← front_seg k.segs]
  obtain ⟨X, hX⟩ : ∃ X, X = frontSg l := ⟨_, rfl⟩
  rw [← hX] at FR ⊢
  have CW := Lib.hid (fun W => canWrite_any (w := W) X.seg X.q X.seg.secs.length X.c)
  obtain ⟨r, hr⟩ : ∃ r, r = wrOk X.seg := ⟨_, rfl⟩
  rw [← hr] at CW ⊢
  obtain ⟨⟨nm, ad, sz, of, fs, pr, sl⟩, q1, k1⟩ := X
  clear k gB hX aA hr
  simp only [Sg.v] at FR CW ⊢
  unfold segV segArr at FR CW
  unfold askV
  unfold askArr at hW ⊢
  go_enter Tryz.func33, Tryz.ntmps33
  go_upto_region 1 with fail
  clear hW hb
  go_wp2_with (first | refine wpList_load_imgQ rfl _ rfl rfl AA.out ?_ | fail)
  refine FR.out.mono ?_
  rintro e w3 ⟨rfl, hg⟩
  have GF := Lib.hid (grown_trans G.out hg)
  have hA := AA.out.kept hg (by simp)
  have c25 := hA.c 25 (.int .u64 hd) rfl
  have gl := hA.lt
  clear hg hA
  have g3 := grown1 w3 (.cells #[.string (strOfNums nm), .int .u64 ad, .int .u64 sz, .int .u64 of, .int .u64 fs, .int .i64 pr, .slice q1 sl.length k1] 42)
  have P4 : SegAt (w3.alloc (.cells #[.string (strOfNums nm), .int .u64 ad, .int .u64 sz, .int .u64 of, .int .u64 fs, .int .i64 pr, .slice q1 sl.length k1] 42)) w3.heap.size ⟨nm, ad, sz, of, fs, pr, sl⟩ (.slice q1 sl.length k1) := heap_alloc_new w3 _
  have c25' := grown_cell g3 c25
  have gl' := Nat.lt_of_lt_of_le gl g3.size
  have G4 := Lib.hid (grown_trans GF.out g3)
  have a1 := and1_i64 pr
  go_upto_region 2 with fail
  clear c25 gl
  obtain ⟨w4, h4⟩ : ∃ w4, w3.alloc (.cells #[.string (strOfNums nm), .int .u64 ad, .int .u64 sz, .int .u64 of, .int .u64 fs, .int .i64 pr, .slice q1 sl.length k1] 42) = w4 := ⟨_, rfl⟩
  rw [h4] at G4 P4 c25' gl' ⊢
  obtain ⟨y0, y1, y2, y3, y4, y5, y6⟩ := P4.c
  have yl := P4.lt
  clear h4 P4 g3
  generalize w3.heap.size = p at *
  have M : pr % 2 = 0 ∨ pr % 2 = 1 := by omega
  cases h1 : (of == 0)
  · clear M
    go_wp2
    go_ret
    exact ⟨rfl, G4.out⟩
  cases h2 : decide (hd ≤ fs)
  · clear M
    go_wp2
    go_ret
    exact ⟨rfl, G4.out⟩
  rcases M with M | M
  · rw [M] at a1
    have HM := Lib.hid M
    clear M
    go_wp2
    go_ret
    exact ⟨by rw [HM.out]; rfl, G4.out⟩
  · rw [M] at a1
    have HM := Lib.hid M
    clear M
    go_wp2_with fail
    refine (CW.out _).mono ?_
    rintro e w5 ⟨rfl, hg⟩
    have G5 := Lib.hid (grown_trans G4.out hg)
    clear hg
    go_wp2
    go_ret
    exact ⟨ret_bool (by rw [HM.out, h1, h2]; cases r <;> rfl), G5.out⟩
end Go.Proofs.YtemdbfgpimfkdaaGreat

/- The rules of what an image may be, one by one: names, the order of segments, spans, the entry. No condition but that numbers fit their types. -/
namespace Go.Proofs.YtemdbfgpimfkdaaGreat
open Go.RowKit
variable {w w' : World} {h : Hx} {s : St} {sv dv : Value} {n hd : Int}

theorem RowSg.at {l : List Sg} {qs : Option Addr} (r : RowSg w qs l) {k : Nat} {x : Sg} (hx : l[k]? = some x) : ∃ g, qs = some ⟨g, 0, none⟩ ∧ w.cell? ⟨g, k * 7, none⟩ = some (.string (strOfNums x.seg.name)) ∧ w.cell? ⟨g, k * 7 + 1, none⟩ = some (.int .u64 x.seg.addr) ∧ w.cell? ⟨g, k * 7 + 2, none⟩ = some (.int .u64 x.seg.size) ∧
      w.cell? ⟨g, k * 7 + 3, none⟩ = some (.int .u64 x.seg.off) ∧ w.cell? ⟨g, k * 7 + 4, none⟩ = some (.int .u64 x.seg.fsize) ∧ w.cell? ⟨g, k * 7 + 5, none⟩ = some (.int .i64 x.seg.prot) ∧ w.cell? ⟨g, k * 7 + 6, none⟩ = some (.slice x.q x.seg.secs.length x.c) := r k x hx
theorem riseN_cons (e : Int) (x : Seg) (l : List Seg) : riseN e (x :: l) = (decide (e ≤ x.addr) && riseN ((x.addr + x.size) % 18446744073709551616) l) := rfl
theorem drop_at {l : List Sg} (hl : l.map Sg.seg = s.segs) {k : Nat} {x : Sg} (hx : l[k]? = some x) : s.segs.drop k = x.seg :: s.segs.drop (k + 1) := by
  rw [← hl]
  obtain ⟨hk, rfl⟩ := List.getElem?_eq_some_iff.1 hx
  rw [List.drop_eq_getElem_cons (by rw [List.length_map]; exact hk), List.getElem_map]

set_option maxRecDepth 20000 in
theorem rise_any {l : List Sg} {qs : Option Addr} {cs : Nat} (k : ImgRows w s l qs cs) : Calls Tryz.prog 32 #[askV h s (.slice qs l.length cs) dv n hd] w fun e w' => e = .returned (.bool (riseN 0 s.segs)) ∧ w.grownBy w' none := by
  have gB := grown1 w (.cells (askArr h s (.slice qs l.length cs) dv n hd) 59)
  have aA := askNew (h := h) (s := s) (sv := .slice qs l.length cs) (dv := dv) (n := n) (hd := hd) w
  obtain ⟨W, hW⟩ : ∃ W, w.alloc (.cells (askArr h s (.slice qs l.length cs) dv n hd) 59) = W := ⟨_, rfl⟩
  obtain ⟨b, hb⟩ : ∃ b, w.heap.size = b := ⟨_, rfl⟩
  rw [hW] at gB aA
  rw [hb] at aA
  have RW := Lib.hid (fun (V : World) (hg : W.grownBy V none) => (k.grown gB).row.grown hg)
  have G := Lib.hid gB
  have c4 := aA.c 4 (.slice qs l.length cs) rfl
  have gl := aA.lt
  have DR := Lib.hid (fun (k1 : Nat) (x : Sg) => drop_at (k := k1) (x := x) k.segs)
  have DE := Lib.hid (show s.segs.drop l.length = [] by rw [← k.segs, ← List.length_map (f := Sg.seg), List.drop_length])
  have CP := Lib.hid k.cap
  have FW := Lib.hid k.few
  obtain ⟨r, hr⟩ : ∃ r, r = riseN 0 s.segs := ⟨_, rfl⟩
  rw [← hr]
  have HR := Lib.hid hr
  clear k gB aA hr
  unfold askV
  unfold askArr at hW ⊢
  go_enter Tryz.func32, Tryz.ntmps32
  go_upto_region 1 with fail
  clear hW hb
  go_wp2
  go_loopw [3, 10] (fun e i wr => ∃ (k1 : Nat) (E : Int), k1 ≤ l.length ∧ i = .int .i64 k1 ∧ e = .int .u64 E ∧ W.grownBy wr none ∧ r = riseN E (s.segs.drop k1)) (fun _ i _ => l.length - (intOf i).toNat)
  case atStart => exact ⟨0, 0, Nat.zero_le _, rfl, rfl, grown_refl _ _, HR.out⟩
  case round =>
    obtain ⟨k1, E, hk, rfl, rfl, hg, hre⟩ := hrel
    have HRE := Lib.hid hre
    have G3 := Lib.hid hg
    by_cases hlt : k1 < l.length
    · obtain ⟨x, hx⟩ : ∃ x, l[k1]? = some x := ⟨_, List.getElem?_eq_getElem hlt⟩
      obtain ⟨g, rfl, a0, a1, a2, a3, a4, a5, a6⟩ := (RW.out wr hg).at hx
      have dl : decide ((k1 : Int) < (l.length : Int)) = true := by simp; omega
      have hkl : (k1 : Int) < (l.length : Int) := by omega
      have DX := Lib.hid (DR.out k1 x hx)
      obtain ⟨⟨nm, ad, sz, of, fs, pr, sl⟩, q1, c1⟩ := x
      simp only [] at a0 a1 a2 a3 a4 a5 a6
      obtain ⟨T, hT⟩ : ∃ T, (ad + sz) % 18446744073709551616 = T := ⟨_, rfl⟩
      have hT2 : IntKind.u64.wrap (ad + sz) = T := by rw [IntKind.wrap_u64]; exact hT
      have HT := Lib.hid hT
      have hcp : l.length ≤ cs := CP.out
      have hfw : l.length ≤ 9223372036854775807 := FW.out
      have g5 := grown_trans hg (grown1 wr (.cells #[.string (strOfNums nm), .int .u64 ad, .int .u64 sz, .int .u64 of, .int .u64 fs, .int .i64 pr, .slice q1 sl.length c1] 42))
      have G5 := Lib.hid g5
      clear hg hx hT g5 hre
      generalize l.length = N at *
      cases hE : decide (ad < E)
      · go_wp2
        go_roundw
        case rel =>
          refine ⟨k1 + 1, T, hlt, by go_num, rfl, G5.out, ?_⟩
          rw [HRE.out, DX.out]
          rw [riseN_cons]
          have : decide (E ≤ ad) = true := by simpa using hE
          simp only [this, HT.out, Bool.true_and]
        case measure => simp [intOf]; omega
      · go_wp2
        go_ret
        refine ⟨ret_bool ?_, grown_trans G.out G5.out⟩
        rw [HRE.out, DX.out]
        rw [riseN_cons]
        have : decide (E ≤ ad) = false := by simpa using hE
        simp only [this, Bool.false_and]
    · have hk' : k1 = l.length := by omega
      subst hk'
      have dl : decide ((l.length : Int) < (l.length : Int)) = false := by simp
      have HF : r = true := by rw [hre, DE.out]; rfl
      clear hg hre
      generalize l.length = N at *
      go_wp2
      go_ret
      exact ⟨ret_bool HF.symm, grown_trans G.out G3.out⟩

def hiS (a : Int) (x : Seg) : Int := if laidS x = true then max a ((x.addr + x.size) % 18446744073709551616) else a
theorem highN_eq (l : List Seg) : highN l = l.foldl hiS 0 := rfl
theorem hi_succ {l : List Sg} (hl : l.map Sg.seg = s.segs) {k : Nat} {x : Sg} (hx : l[k]? = some x) : (s.segs.take (k + 1)).foldl hiS 0 = hiS ((s.segs.take k).foldl hiS 0) x.seg := by
  rw [← hl]
  obtain ⟨hk, rfl⟩ := List.getElem?_eq_some_iff.1 hx
  rw [List.take_succ_eq_append_getElem (by rw [List.length_map]; exact hk), List.foldl_append, List.getElem_map]
  rfl
set_option maxRecDepth 20000 in
theorem High_any {l : List Sg} {qs : Option Addr} {cs : Nat} (k : ImgRows w s l qs cs) : Calls Tryz.prog 10 #[imgV h s (.slice qs l.length cs) dv] w fun e w' => e = .returned (.int .u64 (highN s.segs)) ∧ w.grownBy w' none := by
  have gB := grown1 w (.cells (imgArr h s (.slice qs l.length cs) dv) 32)
  have aA : ImgAt (w.alloc (.cells (imgArr h s (.slice qs l.length cs) dv) 32)) w.heap.size h s (.slice qs l.length cs) dv := heap_alloc_new w _
  obtain ⟨W, hW⟩ : ∃ W, w.alloc (.cells (imgArr h s (.slice qs l.length cs) dv) 32) = W := ⟨_, rfl⟩
  obtain ⟨b, hb⟩ : ∃ b, w.heap.size = b := ⟨_, rfl⟩
  rw [hW] at gB aA
  rw [hb] at aA
  have RW := Lib.hid (fun (V : World) (hg : W.grownBy V none) => (k.grown gB).row.grown hg)
  have G := Lib.hid gB
  have c4 := aA.c 4 (.slice qs l.length cs) rfl
  have gl := lt_of_block aA
  have DR := Lib.hid (fun (k1 : Nat) (x : Sg) => hi_succ (k := k1) (x := x) k.segs)
  have DE := Lib.hid (show s.segs.take l.length = s.segs by rw [← k.segs, ← List.length_map (f := Sg.seg), List.take_length])
  have CP := Lib.hid k.cap
  have FW := Lib.hid k.few
  obtain ⟨r, hr⟩ : ∃ r, r = highN s.segs := ⟨_, rfl⟩
  rw [← hr]
  rw [highN_eq] at hr
  have HR := Lib.hid hr
  clear k gB aA hr
  rw [show imgV h s (.slice qs l.length cs) dv = .agg (imgArr h s (.slice qs l.length cs) dv) from rfl]
  unfold imgArr at hW ⊢
  go_enter Tryz.func10, Tryz.ntmps10
  go_upto_region 1 with fail
  clear hW hb
  go_wp2
  go_loopw [3, 9] (fun e i wr => ∃ (k1 : Nat) (E : Int), k1 ≤ l.length ∧ i = .int .i64 k1 ∧ e = .int .u64 E ∧ W.grownBy wr none ∧ E = (s.segs.take k1).foldl hiS 0) (fun _ i _ => l.length - (intOf i).toNat)
  case atStart => exact ⟨0, 0, Nat.zero_le _, rfl, rfl, grown_refl _ _, rfl⟩
  case round =>
    obtain ⟨k1, E, hk, rfl, rfl, hg, hre⟩ := hrel
    have HRE := Lib.hid hre
    have G3 := Lib.hid hg
    by_cases hlt : k1 < l.length
    · obtain ⟨x, hx⟩ : ∃ x, l[k1]? = some x := ⟨_, List.getElem?_eq_getElem hlt⟩
      obtain ⟨g, rfl, a0, a1, a2, a3, a4, a5, a6⟩ := (RW.out wr hg).at hx
      have dl : decide ((k1 : Int) < (l.length : Int)) = true := by simp; omega
      have hkl : (k1 : Int) < (l.length : Int) := by omega
      have DX := Lib.hid (DR.out k1 x hx)
      have LD := Lib.hid (fun (V : World) => isLaid_any (w := V) x.seg x.q x.seg.secs.length x.c)
      obtain ⟨bx, hbx⟩ : ∃ bx, bx = laidS x.seg := ⟨_, rfl⟩
      rw [← hbx] at LD
      have HB := Lib.hid hbx
      obtain ⟨⟨nm, ad, sz, of, fs, pr, sl⟩, q1, c1⟩ := x
      simp only [] at a0 a1 a2 a3 a4 a5 a6 LD
      unfold segV segArr at LD
      obtain ⟨T, hT⟩ : ∃ T, (ad + sz) % 18446744073709551616 = T := ⟨_, rfl⟩
      have hT2 : IntKind.u64.wrap (ad + sz) = T := by rw [IntKind.wrap_u64]; exact hT
      have HT := Lib.hid hT
      have hcp : l.length ≤ cs := CP.out
      have hfw : l.length ≤ 9223372036854775807 := FW.out
      have g5 := grown_trans hg (grown1 wr (.cells #[.string (strOfNums nm), .int .u64 ad, .int .u64 sz, .int .u64 of, .int .u64 fs, .int .i64 pr, .slice q1 sl.length c1] 42))
      have p5 : SegAt (wr.alloc (.cells #[.string (strOfNums nm), .int .u64 ad, .int .u64 sz, .int .u64 of, .int .u64 fs, .int .i64 pr, .slice q1 sl.length c1] 42)) wr.heap.size ⟨nm, ad, sz, of, fs, pr, sl⟩ (.slice q1 sl.length c1) := heap_alloc_new wr _
      have P5 := Lib.hid p5
      have G5 := Lib.hid g5
      clear hg hx hT g5 hre hbx p5
      generalize l.length = N at *
      go_wp2_with fail
      refine (LD.out _).mono ?_
      rintro e w6 ⟨rfl, hg⟩
      have P6 := P5.out.kept hg (by simp)
      have G6 := Lib.hid (grown_trans G5.out hg)
      obtain ⟨y0, y1, y2, y3, y4, y5, y6⟩ := P6.c
      have yl := P6.lt
      clear hg P6
      simp only [] at y1 y2
      cases bx
      · go_wp2
        go_roundw
        case rel =>
          refine ⟨k1 + 1, E, hlt, by go_num, rfl, G6.out, ?_⟩
          rw [DX.out, ← HRE.out]
          unfold hiS
          rw [← HB.out]
          rfl
        case measure => simp [intOf]; omega
      · go_wp2
        go_roundw
        case rel =>
          refine ⟨k1 + 1, max E T, hlt, by go_num, rfl, G6.out, ?_⟩
          rw [DX.out, ← HRE.out]
          unfold hiS
          rw [← HB.out, if_pos rfl, ← HT.out]
        case measure => simp [intOf]; omega
    · have hk' : k1 = l.length := by omega
      subst hk'
      have dl : decide ((l.length : Int) < (l.length : Int)) = false := by simp
      have HF : r = E := by rw [hre, DE.out]; exact HR.out
      clear hg hre
      generalize l.length = N at *
      go_wp2
      go_ret
      exact ⟨ret_int HF.symm, grown_trans G.out G3.out⟩
end Go.Proofs.YtemdbfgpimfkdaaGreat

/- The rules of what an image may be, one by one: its name, its spans. No condition but that numbers fit their types. -/
namespace Go.Proofs.YtemdbfgpimfkdaaGreat
open Go.RowKit
variable {w w' : World} {h : Hx} {s : St} {sv dv : Value} {n hd : Int}

set_option maxRecDepth 20000 in
theorem nameMay_any : Calls Tryz.prog 37 #[askV h s sv dv n hd] w fun e w' => e = .returned (.bool (nameOk h s)) ∧ w.grownBy w' none := by
  have gB := grown1 w (.cells (askArr h s sv dv n hd) 59)
  have aA := askNew (h := h) (s := s) (sv := sv) (dv := dv) (n := n) (hd := hd) w
  obtain ⟨W, hW⟩ : ∃ W, w.alloc (.cells (askArr h s sv dv n hd) 59) = W := ⟨_, rfl⟩
  obtain ⟨b, hb⟩ : ∃ b, w.heap.size = b := ⟨_, rfl⟩
  rw [hW] at gB aA
  rw [hb] at aA
  have G := Lib.hid gB
  have c0 := aA.c 0 (.int .i64 h.kd) rfl
  have c3 := aA.c 3 (.string (strOfNums s.name)) rfl
  have gl := aA.lt
  clear gB aA
  unfold askV
  unfold askArr at hW ⊢
  go_enter Tryz.func37, Tryz.ntmps37
  go_upto_region 1 with fail
  clear hW hb
  go_wp2
  go_ret
  exact ⟨rfl, G.out⟩

theorem RowSp.of_arr {g : Nat} (k : w.heap[g]? = some (.cells #[.int .u64 s.rb.1, .int .u64 s.rb.2, .int .u64 s.bd.1, .int .u64 s.bd.2, .int .u64 s.wk.1, .int .u64 s.wk.2, .int .u64 s.lz.1, .int .u64 s.lz.2, .int .u64 s.tr.1, .int .u64 s.tr.2, .int .u64 s.ch.1, .int .u64 s.ch.2, .int .u64 s.sy.1, .int .u64 s.sy.2, .int .u64 s.st.1, .int .u64 s.st.2] 30)) : RowSp w (some ⟨g, 0, none⟩) (spansList s) := by
  intro i x hx
  refine ⟨g, rfl, ?_, ?_⟩ <;> rw [cell_of k]
  all_goals
    unfold spansList at hx
    match i, hx with
    | 0, hx => injection hx with hx; subst hx; rfl
    | 1, hx => injection hx with hx; subst hx; rfl
    | 2, hx => injection hx with hx; subst hx; rfl
    | 3, hx => injection hx with hx; subst hx; rfl
    | 4, hx => injection hx with hx; subst hx; rfl
    | 5, hx => injection hx with hx; subst hx; rfl
    | 6, hx => injection hx with hx; subst hx; rfl
    | 7, hx => injection hx with hx; subst hx; rfl
    | k + 8, hx => simp at hx
def SpFit (s : St) : Prop := ∀ x ∈ spansList s, U64 x.1 ∧ U64 x.2
set_option maxRecDepth 20000 in
theorem spansMay_any (hf : SpFit s) (hn : U64 n) (h1 : ∃ q n c, sv = .slice q n c) (h2 : ∃ q n c, dv = .slice q n c) : Calls Tryz.prog 35 #[askV h s sv dv n hd] w fun e w' => e = .returned (.bool ((s.sy.2 % 16 == 0) && spansOk s n)) ∧ w.grownBy w' none := by
  have gB := grown1 w (.cells (askArr h s sv dv n hd) 59)
  have aA := askNew (h := h) (s := s) (sv := sv) (dv := dv) (n := n) (hd := hd) w
  obtain ⟨W, hW⟩ : ∃ W, w.alloc (.cells (askArr h s sv dv n hd) 59) = W := ⟨_, rfl⟩
  obtain ⟨b, hb⟩ : ∃ b, w.heap.size = b := ⟨_, rfl⟩
  rw [hW] at gB aA
  rw [hb] at aA
  have AA := Lib.hid aA
  have G := Lib.hid gB
  have ZI := Lib.hid (ImgAt.new W)
  have gl := aA.lt
  have H1 := Lib.hid h1
  have H2 := Lib.hid h2
  have FF := Lib.hid hf
  have NN := Lib.hid hn
  clear gB aA h1 h2 hf hn
  unfold askV
  unfold askArr at hW ⊢
  go_enter Tryz.func35, Tryz.ntmps35
  go_upto_region 1 with fail
  clear hW hb
  go_upto_region 2 with (first | refine wpList_load_imgQ rfl _ rfl rfl (AA.out.kept (grown1 W _) (by simp)) ?_ | refine wpList_load_imgQ rfl _ rfl rfl AA.out ?_ | refine wpList_store_img (h := h) (s := s) (sv := sv) (dv := dv) rfl _ _ rfl rfl rfl ZI.out H1.out H2.out ?_ | fail)
  have I2 := ZI.out.put (h := h) (s := s) (sv := sv) (dv := dv)
  have g2 := grown_new (grown1 W (.cells #[.int .i64 0, .int .i64 0, .int .u32 0, .string ⟨#[]⟩, .slice none 0 0, .slice none 0 0, .int .u64 0, .int .u64 0, .int .u64 0, .int .u64 0, .int .u64 0, .int .u64 0, .int .u64 0, .int .u64 0, .int .u64 0, .int .u64 0, .int .u64 0, .int .u64 0, .int .u64 0, .int .u64 0, .int .u64 0, .int .u64 0, .int .u64 0, .bool false] 32)) (grown_setRow (g := W.heap.size) (W.alloc (.cells #[.int .i64 0, .int .i64 0, .int .u32 0, .string ⟨#[]⟩, .slice none 0 0, .slice none 0 0, .int .u64 0, .int .u64 0, .int .u64 0, .int .u64 0, .int .u64 0, .int .u64 0, .int .u64 0, .int .u64 0, .int .u64 0, .int .u64 0, .int .u64 0, .int .u64 0, .int .u64 0, .int .u64 0, .int .u64 0, .int .u64 0, .int .u64 0, .bool false] 32)) (imgArr h s sv dv)) (Nat.le_refl _)
  obtain ⟨W2, hW2⟩ : ∃ W2, (W.alloc (.cells #[.int .i64 0, .int .i64 0, .int .u32 0, .string ⟨#[]⟩, .slice none 0 0, .slice none 0 0, .int .u64 0, .int .u64 0, .int .u64 0, .int .u64 0, .int .u64 0, .int .u64 0, .int .u64 0, .int .u64 0, .int .u64 0, .int .u64 0, .int .u64 0, .int .u64 0, .int .u64 0, .int .u64 0, .int .u64 0, .int .u64 0, .int .u64 0, .bool false] 32)).setRow W.heap.size (imgArr h s sv dv) = W2 := ⟨_, rfl⟩
  rw [hW2] at I2 g2 ⊢
  have A2 := AA.out.kept g2 (by simp)
  have G2 := Lib.hid (grown_trans G.out g2)
  clear hW2 g2 ZI gl H1 H2
  generalize W.heap.size = p at *
  have c6 := I2.c 6 (.int .u64 s.rb.1) rfl
  have c7 := I2.c 7 (.int .u64 s.rb.2) rfl
  have c8 := I2.c 8 (.int .u64 s.bd.1) rfl
  have c9 := I2.c 9 (.int .u64 s.bd.2) rfl
  have c10 := I2.c 10 (.int .u64 s.wk.1) rfl
  have c11 := I2.c 11 (.int .u64 s.wk.2) rfl
  have c12 := I2.c 12 (.int .u64 s.lz.1) rfl
  have c13 := I2.c 13 (.int .u64 s.lz.2) rfl
  have c14 := I2.c 14 (.int .u64 s.tr.1) rfl
  have c15 := I2.c 15 (.int .u64 s.tr.2) rfl
  have c16 := I2.c 16 (.int .u64 s.ch.1) rfl
  have c17 := I2.c 17 (.int .u64 s.ch.2) rfl
  have c18 := I2.c 18 (.int .u64 s.sy.1) rfl
  have c19 := I2.c 19 (.int .u64 s.sy.2) rfl
  have c20 := I2.c 20 (.int .u64 s.st.1) rfl
  have c21 := I2.c 21 (.int .u64 s.st.2) rfl
  have gl := lt_of_block I2
  have AA2 := Lib.hid A2
  clear I2 A2
  go_upto_region 3 with fail
  have R3 := RowSp.of_arr (heap_alloc_new W2 (.cells #[.int .u64 s.rb.1, .int .u64 s.rb.2, .int .u64 s.bd.1, .int .u64 s.bd.2, .int .u64 s.wk.1, .int .u64 s.wk.2, .int .u64 s.lz.1, .int .u64 s.lz.2, .int .u64 s.tr.1, .int .u64 s.tr.2, .int .u64 s.ch.1, .int .u64 s.ch.2, .int .u64 s.sy.1, .int .u64 s.sy.2, .int .u64 s.st.1, .int .u64 s.st.2] 30))
  have g3 := grown1 W2 (.cells #[.int .u64 s.rb.1, .int .u64 s.rb.2, .int .u64 s.bd.1, .int .u64 s.bd.2, .int .u64 s.wk.1, .int .u64 s.wk.2, .int .u64 s.lz.1, .int .u64 s.lz.2, .int .u64 s.tr.1, .int .u64 s.tr.2, .int .u64 s.ch.1, .int .u64 s.ch.2, .int .u64 s.sy.1, .int .u64 s.sy.2, .int .u64 s.st.1, .int .u64 s.st.2] 30)
  have d1 := grown_cell g3 c19
  have gl' := Nat.lt_of_lt_of_le gl g3.size
  obtain ⟨W3, hW3⟩ : ∃ W3, W2.alloc (.cells #[.int .u64 s.rb.1, .int .u64 s.rb.2, .int .u64 s.bd.1, .int .u64 s.bd.2, .int .u64 s.wk.1, .int .u64 s.wk.2, .int .u64 s.lz.1, .int .u64 s.lz.2, .int .u64 s.tr.1, .int .u64 s.tr.2, .int .u64 s.ch.1, .int .u64 s.ch.2, .int .u64 s.sy.1, .int .u64 s.sy.2, .int .u64 s.st.1, .int .u64 s.st.2] 30) = W3 := ⟨_, rfl⟩
  rw [hW3] at R3 g3 d1 gl' ⊢
  have A3 := AA2.out.kept g3 (by simp)
  have AL := Lib.hid (allSpan_any (w := W3) (b := b) (spansList s) 8 rfl (by decide) (fun x => withinN x.1 x.2 n) (some ⟨W2.heap.size, 0, none⟩) 8 R3 (fun V x hx hg => spansMay1_any x (FF.out x hx).1 (FF.out x hx).2 NN.out (A3.kept hg (by simp))))
  have G3 := Lib.hid (grown_trans G2.out g3)
  rw [show (spansList s).all (fun x => withinN x.1 x.2 n) = spansOk s n from rfl] at AL
  obtain ⟨r, hr⟩ : ∃ r, r = spansOk s n := ⟨_, rfl⟩
  rw [← hr] at AL
  have HR := Lib.hid hr
  have hsy := (FF.out s.sy (by unfold spansList; simp)).2
  have t1 : s.sy.2.tmod 16 = s.sy.2 % 16 := Int.tmod_eq_emod_of_nonneg hsy.1
  obtain ⟨r1, hr1⟩ : ∃ r, s.sy.2 % 16 = r := ⟨_, rfl⟩
  have HR1 := Lib.hid hr1
  have m1 : IntKind.u64.wrap r1 = r1 := by rw [IntKind.wrap_u64]; omega
  have m3 : r1 % 18446744073709551616 = r1 := by omega
  rw [hr1] at t1
  clear hW3 R3 g3 A3 hr hsy hr1 AA2 FF NN gl
  clear c6 c7 c8 c9 c10 c11 c12 c13 c14 c15 c16 c17 c18 c19 c20 c21
  generalize W2.heap.size = p2 at *
  cases h1 : (r1 == 0)
  · go_wp2
    go_ret
    exact ⟨ret_bool (by rw [HR1.out, h1]; rfl), G3.out⟩
  · go_wp2_with fail
    refine AL.out.mono ?_
    rintro e w4 ⟨rfl, hg⟩
    have G4 := Lib.hid (grown_trans G3.out hg)
    clear hg
    go_wp2
    go_ret
    exact ⟨ret_bool (by rw [HR1.out, h1, HR.out]; rfl), G4.out⟩
end Go.Proofs.YtemdbfgpimfkdaaGreat

/- The rule of an image's entry. No condition but that numbers fit their types. -/
namespace Go.Proofs.YtemdbfgpimfkdaaGreat
open Go.RowKit Go.Sort
variable {w w' : World} {h : Hx} {s : St} {sv dv : Value} {n hd : Int}

/-- What is left of a drawn region that only reads, closed: whoever looks at the goal goes no further. -/
structure WpQ (P : Program) (ops : Array Oper) (C : World → Prop) (Q : Act → Prop) (l : List Oper) (a : Act) : Prop where
  out : wpQuiet P ops C Q l a
section
variable {P : Program} {ops : Array Oper} {C : World → Prop} {Q : Act → Prop} {a : Act} {o : Oper} {rest : List Oper}
theorem WpQ.skip (hw : Region.wanted o (yielded ops a.tmps) = false) (hK : WpQ P ops C Q rest (a.put o.dst undef)) : WpQ P ops C Q (o :: rest) a :=
  ⟨wpQuiet_step fun K hK' => by
    rw [if_neg (by rw [hw]; decide)]
    exact hK' _ hK.out⟩
theorem WpQ.step (h : ∀ K : Act → Prop, (∀ a, WpQ P ops C Q rest a → K a) → if Region.wanted o (yielded ops a.tmps) then o.quiet P a C K else K (a.put o.dst undef)) : WpQ P ops C Q (o :: rest) a :=
  ⟨wpQuiet_step fun K hK => h K fun a h' => hK a h'.out⟩
theorem WpQ.nil (h : Q a) : WpQ P ops C Q [] a := ⟨wpQuiet_nil h⟩
end
/-- A load of an image in a drawn region that only reads. -/
theorem wpQuiet_load_img {ops : Array Oper} {C : World → Prop} {Q : Act → Prop} {a : Act} {o : Oper} {rest : List Oper} {g : Nat} {v : Value} (hw : Region.wanted o (yielded ops a.tmps) = true) (x : Operand) (ho : o.op = .load 32 x)
    (hx : a.eval x = .pointer (some ⟨g, 0, none⟩)) (hl : ∀ w, C w → (loadVar 32 ⟨g, 0, none⟩).run Tryz.prog w = .ok v w) (hK : wpQuiet Tryz.prog ops C Q rest (a.put o.dst v)) : wpQuiet Tryz.prog ops C Q (o :: rest) a := by
  refine wpQuiet_step fun K hK' => ?_
  rw [if_pos hw]
  refine ⟨v, fun W hW => ?_, hK' _ hK⟩
  unfold Oper.quietAt execOp
  simp only [ho, hx, Instr.loadAt, Instr.sureAddr, Sem.run_bind, Sem.run_pure, Result.andThen_ok, hl W hW]
  exact ⟨rfl, rfl⟩
set_option maxRecDepth 20000 in
set_option maxHeartbeats 1000000 in
theorem entryMay_any {l : List Sg} {qs : Option Addr} {cs : Nat} (k : ImgRows w s l qs cs) : Calls Tryz.prog 36 #[askV h s (.slice qs l.length cs) dv n hd] w fun e w' => e = .returned (.bool (entryOk s)) ∧ w.grownBy w' none := by
  have gB := grown1 w (.cells (askArr h s (.slice qs l.length cs) dv n hd) 59)
  have aA := askNew (h := h) (s := s) (sv := .slice qs l.length cs) (dv := dv) (n := n) (hd := hd) w
  obtain ⟨W, hW⟩ : ∃ W, w.alloc (.cells (askArr h s (.slice qs l.length cs) dv n hd) 59) = W := ⟨_, rfl⟩
  obtain ⟨b, hb⟩ : ∃ b, w.heap.size = b := ⟨_, rfl⟩
  rw [hW] at gB aA
  rw [hb] at aA
  have G := Lib.hid gB
  have c22 := aA.c 22 (.int .u64 s.entry) rfl
  have c23 := aA.c 23 (.bool s.has) rfl
  have k22 := fun d os => cell_regrown c22 d os
  have k23 := fun d os => cell_regrown c23 d os
  have KG := fun d os => grown_below (below_regrown W d os) none
  have LH := Lib.hid (fun d os => Calls.regrown_of ((High_any (h := h) (dv := dv) ((k.grown gB).grown (KG d os))).mono (fun _ _ h => (⟨h.1, below_grown h.2 (Nat.le_refl _) (by simp)⟩ : _ ∧ _))))
  have LL := Lib.hid (fun d os => Calls.regrown_of ((Low_any (h := h) (dv := dv) ((k.grown gB).grown (KG d os))).mono (fun _ _ h => (⟨h.1, below_grown h.2 (Nat.le_refl _) (by simp)⟩ : _ ∧ _))))
  have LD := Lib.hid (fun (V : World) (hV : ∃ p : Regrown, V = grow (redrawn W p.d) p.os) => (by obtain ⟨p, rfl⟩ := hV; exact run_loadImgQ (aA.kept (KG p.d p.os) (by simp)) : (loadVar 32 ⟨b, 0, none⟩).run Tryz.prog V = .ok (imgV h s (.slice qs l.length cs) dv) V))
  obtain ⟨H, hH⟩ : ∃ H, highN s.segs = H := ⟨_, rfl⟩
  obtain ⟨L, hL⟩ : ∃ L, lowN s.segs = L := ⟨_, rfl⟩
  unfold entryOk
  rw [hH] at LH ⊢
  rw [hL] at LL ⊢
  obtain ⟨T, hT⟩ : ∃ T, (H - L) % 18446744073709551616 = T := ⟨_, rfl⟩
  have hT2 : IntKind.u64.wrap (H - L) = T := by rw [IntKind.wrap_u64]; exact hT
  rw [hT]
  have gl := aA.lt
  clear k gB aA hH hL c22 KG
  unfold askV
  unfold askArr at hW ⊢
  obtain ⟨hs, hhs⟩ : ∃ b, s.has = b := ⟨_, rfl⟩
  rw [hhs] at c23 k23 hW ⊢
  clear hhs
  cases hs
  · go_enter Tryz.func36, Tryz.ntmps36
    go_upto_region 1 with fail
    clear hW hb
    refine wp_region_quiet_below (by kernel_rfl) (by kernel_rfl) ?_
    refine WpQ.out ?_
    iterate 5 (refine WpQ.step (fun K hK => ?_); go_simp; first | (refine hK _ ?_; clear hK K) | (apply Exists.intro; refine ⟨fun _ => ?_, hK _ ?_⟩; clear hK K))
    iterate 11 (refine WpQ.skip (by kernel_rfl) ?_)
    iterate 2 (refine WpQ.step (fun K hK => ?_); go_simp; first | (refine hK _ ?_; clear hK K) | (apply Exists.intro; refine ⟨fun _ => ?_, hK _ ?_⟩; clear hK K))
    refine WpQ.nil ?_
    intro _ hw'
    obtain ⟨⟨dq, osq⟩, hw''⟩ := hw'
    subst hw''
    go_wp2
    go_ret
    exact ⟨ret_bool rfl, grown_trans G.out (grown_below (below_regrown W dq osq) none)⟩
  · go_enter Tryz.func36, Tryz.ntmps36
    go_upto_region 1 with fail
    clear hW hb
    refine wp_region_quiet_below (by kernel_rfl) (by kernel_rfl) ?_
    iterate 9 (quiet_step (fail))
    refine wpQuiet_load_img rfl _ rfl rfl LD.out ?_
    quiet_step (with_reducible exact LH.out _ _)
    quiet_step (fail)
    refine wpQuiet_load_img rfl _ rfl rfl LD.out ?_
    quiet_step (with_reducible exact LL.out _ _)
    repeat (quiet_step (fail))
    refine wpQuiet_nil ?_
    intro _ hw'
    obtain ⟨⟨dq, osq⟩, hw''⟩ := hw'
    subst hw''
    go_wp2
    go_ret
    exact ⟨ret_bool rfl, grown_trans G.out (grown_below (below_regrown W dq osq) none)⟩
end Go.Proofs.YtemdbfgpimfkdaaGreat

/- The rule that no two segments have one name: a set of names. No condition but that names are short. -/
namespace Go.Proofs.YtemdbfgpimfkdaaGreat
open Go.RowKit Go.Maps
variable {w w' : World} {h : Hx} {s : St} {sv dv : Value} {n hd : Int}

theorem any_key {L : List Lit} {x : Lit} (hx : WideAt.IsKeyLit x) : L.any (fun y => y.sameKey x) = true ↔ x ∈ L := by
  rw [List.any_eq_true]
  constructor
  · rintro ⟨y, hy, hs⟩
    by_cases e : y = x
    · rw [← e]; exact hy
    · rw [sameKey_ne e] at hs; cases hs
  · intro hm
    exact ⟨x, hm, WideAt.sameKey_self hx⟩
theorem addKey_len (xs : List Lit) (hk : ∀ x ∈ xs, WideAt.IsKeyLit x) (L : List Lit) : (xs.foldl addKey L).length ≤ L.length + xs.length ∧ ((xs.foldl addKey L).length = L.length + xs.length ↔ xs.Nodup ∧ ∀ x ∈ xs, x ∉ L) := by
  induction xs generalizing L with
  | nil => simp
  | cons x r ih =>
    rw [List.foldl_cons]
    have hx := hk x (List.mem_cons_self ..)
    have hr := fun y hy => hk y (List.mem_cons_of_mem _ hy)
    by_cases hm : x ∈ L
    · have e : addKey L x = L := by unfold addKey; rw [if_pos ((any_key hx).2 hm)]
      rw [e]
      obtain ⟨h1, h2⟩ := ih hr L
      refine ⟨by rw [List.length_cons]; omega, ?_⟩
      constructor
      · intro he; rw [List.length_cons] at he; omega
      · rintro ⟨_, h3⟩
        exact absurd hm (h3 x (List.mem_cons_self ..))
    · have e : addKey L x = L ++ [x] := by unfold addKey; rw [if_neg (fun h => hm ((any_key hx).1 h))]
      rw [e]
      obtain ⟨h1, h2⟩ := ih hr (L ++ [x])
      rw [List.length_append, List.length_singleton] at h1 h2
      refine ⟨by rw [List.length_cons]; omega, ?_⟩
      rw [List.length_cons, show L.length + (r.length + 1) = L.length + 1 + r.length by omega, h2, List.nodup_cons]
      constructor
      · rintro ⟨a, b⟩
        refine ⟨⟨fun hxr => b x hxr (by simp), a⟩, fun y hy => ?_⟩
        rcases List.mem_cons.1 hy with rfl | hy
        · exact hm
        · exact fun h => b y hy (List.mem_append_left _ h)
      · rintro ⟨⟨a, b⟩, c⟩
        refine ⟨b, fun y hy h => ?_⟩
        rcases List.mem_append.1 h with h | h
        · exact c y (List.mem_cons_of_mem _ hy) h
        · rw [List.mem_singleton] at h
          exact a (h ▸ hy)
def keyL (x : Seg) : Lit := .string (strOfNums x.name).data.toList
theorem keyL_is (x : Seg) : WideAt.IsKeyLit (keyL x) := trivial
theorem keys_diff (l : List Seg) : (l.map keyL).Nodup ↔ (l.map nmOf).Nodup := by
  unfold List.Nodup
  rw [List.pairwise_map, List.pairwise_map]
  have e : ∀ x y : Seg, keyL x ≠ keyL y ↔ nmOf x ≠ nmOf y := fun x y => by
    unfold keyL nmOf
    rw [Lib.toList_data, Lib.toList_data]
    exact not_congr ⟨fun h => by injection h, fun h => by rw [h]⟩
  constructor <;> exact fun h => h.imp (fun {a b} => by rw [e]; exact id)
theorem size_keys {H : Type} (u : DataW H) (l : List Seg) : (decide ((Maps.size (setOf u (l.map keyL)) : Int) = (l.length : Int))) = diffN l := by
  rw [size_setOf u _ (fun x hx => by obtain ⟨y, _, rfl⟩ := List.mem_map.1 hx; exact keyL_is y)]
  obtain ⟨_, h2⟩ := addKey_len (l.map keyL) (fun x hx => by obtain ⟨y, _, rfl⟩ := List.mem_map.1 hx; exact keyL_is y) []
  rw [List.length_nil, Nat.zero_add, List.length_map] at h2
  unfold diffN
  rw [decide_eq_decide]
  constructor
  · intro h
    exact (keys_diff l).1 (h2.1 (by omega)).1
  · intro h
    have := h2.2 ⟨(keys_diff l).2 h, fun x _ => List.not_mem_nil⟩
    omega
def NmFit (s : St) : Prop := ∀ x ∈ s.segs, x.name.length ≤ 1000
theorem strKeyed : Keyed Tryz.prog 9 := string_keyed Tryz.underlying9
def NamesAt (w : World) (m k : Nat) (l : List Seg) : Prop := w.ownsMap (H := Unit) Tryz.prog 9 unitElem m k (setOf (.agg []) (l.map keyL))
theorem NamesAt.meet {m k : Nat} {l : List Seg} (h : NamesAt w m k l) {x : Seg} (hx : x.name.length ≤ 1000) (hk : k < maxLen) :
    ∃ w', (Instr.mapUpdate 114 (.map (some m)) (.string (strOfNums x.name)) (.agg #[])).run Tryz.prog w = .ok () w' ∧ NamesAt w' m (k + 1) (l ++ [x]) ∧ w.grownBy w' (some m) := by
  obtain ⟨w', hr, ho', hg⟩ := World.ownsMap.update h strKeyed Tryz.underlying114 hk (Go.WideMaps.keyOf_string_mk Tryz.underlying9 (s := strOfNums x.name) (by rw [strOfNums_size]; unfold maxLen; omega)) unitElem_mk
  refine ⟨w', hr, ?_, hg⟩
  unfold NamesAt
  rw [List.map_append, List.map_singleton, setOf_snoc]
  exact ho'
theorem NamesAt.made (w : World) : NamesAt (w.alloc (.map #[] 0)) w.heap.size 0 [] := World.ownsMap_made w _ _ _
theorem take_at {l : List Sg} (hl : l.map Sg.seg = s.segs) {k : Nat} {x : Sg} (hx : l[k]? = some x) : s.segs.take (k + 1) = s.segs.take k ++ [x.seg] := by
  rw [← hl]
  obtain ⟨hk, rfl⟩ := List.getElem?_eq_some_iff.1 hx
  rw [List.take_succ_eq_append_getElem (by rw [List.length_map]; exact hk), List.getElem_map]

set_option maxRecDepth 20000 in
theorem namesDiffer_any {l : List Sg} {qs : Option Addr} {cs : Nat} (k : ImgRows w s l qs cs) (hf : NmFit s) : Calls Tryz.prog 31 #[askV h s (.slice qs l.length cs) dv n hd] w fun e w' => e = .returned (.bool (diffN s.segs)) ∧ w.grownBy w' none := by
  have gB := grown1 w (.cells (askArr h s (.slice qs l.length cs) dv n hd) 59)
  have aA := askNew (h := h) (s := s) (sv := .slice qs l.length cs) (dv := dv) (n := n) (hd := hd) w
  obtain ⟨W, hW⟩ : ∃ W, w.alloc (.cells (askArr h s (.slice qs l.length cs) dv n hd) 59) = W := ⟨_, rfl⟩
  obtain ⟨b, hb⟩ : ∃ b, w.heap.size = b := ⟨_, rfl⟩
  rw [hW] at gB aA
  rw [hb] at aA
  have RW := Lib.hid (fun (V : World) (hg : W.grownBy V none) => (k.grown gB).row.grown hg)
  have G := Lib.hid gB
  have gm := grown1 W (.map #[] 0)
  have NM := NamesAt.made W
  have AA := Lib.hid aA
  have c4 := grown_cell gm (aA.c 4 (.slice qs l.length cs) rfl)
  have gl := Nat.lt_of_lt_of_le aA.lt gm.size
  have DR := Lib.hid (fun (k1 : Nat) (x : Sg) => take_at (k := k1) (x := x) k.segs)
  have DE := Lib.hid (show s.segs.take l.length = s.segs by rw [← k.segs, ← List.length_map (f := Sg.seg), List.take_length])
  have LE := Lib.hid (show s.segs.length = l.length by rw [← k.segs, List.length_map])
  have NF := Lib.hid (fun (x : Sg) (hx : x ∈ l) => hf x.seg (by rw [← k.segs]; exact List.mem_map_of_mem hx))
  have CP := Lib.hid k.cap
  have FW := Lib.hid k.few
  obtain ⟨r, hr⟩ : ∃ r, r = diffN s.segs := ⟨_, rfl⟩
  rw [← hr]
  have HR := Lib.hid hr
  have hmm := @run_makeMap Tryz.prog
  obtain ⟨W1, hW1⟩ : ∃ W1, W.alloc (.map #[] 0) = W1 := ⟨_, rfl⟩
  obtain ⟨m, hm⟩ : ∃ m, W.heap.size = m := ⟨_, rfl⟩
  rw [hW1] at gm NM c4 gl
  rw [hm] at NM
  have HMS := Lib.hid hm
  have GM := Lib.hid gm
  have NM0 := Lib.hid NM
  clear gm NM
  clear k gB aA hr hf
  unfold askV
  unfold askArr at hW ⊢
  go_enter Tryz.func31, Tryz.ntmps31
  go_upto_region 1 with fail
  clear hW hb
  go_upto_region 2 with fail
  clear hW1 hm hmm
  go_wp2
  go_loopw [11] (fun i wr => ∃ k1 : Nat, k1 ≤ l.length ∧ i = .int .i64 k1 ∧ W.grownBy wr none ∧ NamesAt wr m k1 (s.segs.take k1)) (fun i _ => l.length - (intOf i).toNat)
  case atStart => exact ⟨0, Nat.zero_le _, rfl, GM.out, NM0.out⟩
  case round =>
    obtain ⟨k1, hk, rfl, hg, hna⟩ := hrel
    have NA := Lib.hid hna
    have G3 := Lib.hid hg
    have c4 := (AA.out.kept hg (by simp)).c 4 (.slice qs l.length cs) rfl
    have gl := (AA.out.kept hg (by simp)).lt
    by_cases hlt : k1 < l.length
    · obtain ⟨x, hx⟩ : ∃ x, l[k1]? = some x := ⟨_, List.getElem?_eq_getElem hlt⟩
      obtain ⟨g, rfl, a0, a1, a2, a3, a4, a5, a6⟩ := (RW.out wr hg).at hx
      have dl : decide ((k1 : Int) < (l.length : Int)) = true := by simp; omega
      have hkl : (k1 : Int) < (l.length : Int) := by omega
      have DX := Lib.hid (DR.out k1 x hx)
      have hnf := NF.out x (List.mem_of_getElem? hx)
      have hcp : l.length ≤ cs := CP.out
      have hfw : l.length ≤ 9223372036854775807 := FW.out
      obtain ⟨⟨nm, ad, sz, of, fs, pr, sl⟩, q1, c1⟩ := x
      simp only [] at a0 a1 a2 a3 a4 a5 a6
      have g5 := grown1 wr (.cells #[.string (strOfNums nm), .int .u64 ad, .int .u64 sz, .int .u64 of, .int .u64 fs, .int .i64 pr, .slice q1 sl.length c1] 42)
      have n5 : NamesAt (wr.alloc (.cells #[.string (strOfNums nm), .int .u64 ad, .int .u64 sz, .int .u64 of, .int .u64 fs, .int .i64 pr, .slice q1 sl.length c1] 42)) m k1 (s.segs.take k1) := World.ownsMap.kept hna g5 (by simp)
      have p5 : SegAt (wr.alloc (.cells #[.string (strOfNums nm), .int .u64 ad, .int .u64 sz, .int .u64 of, .int .u64 fs, .int .i64 pr, .slice q1 sl.length c1] 42)) wr.heap.size ⟨nm, ad, sz, of, fs, pr, sl⟩ (.slice q1 sl.length c1) := heap_alloc_new wr _
      obtain ⟨w6, hr6, n6, g6⟩ := n5.meet (x := ⟨nm, ad, sz, of, fs, pr, sl⟩) hnf (by unfold maxLen; omega)
      have G6 := Lib.hid (grown_new (grown_trans hg g5) g6 (by rw [← HMS.out]; exact Nat.le_refl _))
      have N6 := Lib.hid n6
      have y0 := p5.c.1
      have yl := p5.lt
      simp only [] at y0 hr6
      clear hg hx g5 hna n5 p5 n6 g6 hnf
      generalize l.length = N at *
      go_wp2
      go_roundw
      case rel =>
        refine ⟨k1 + 1, hlt, by go_num, G6.out, ?_⟩
        rw [DX.out]
        exact N6.out
      case measure => simp [intOf]; omega
    · have hk' : k1 = l.length := by omega
      subst hk'
      have dl : decide ((l.length : Int) < (l.length : Int)) = false := by simp
      rw [DE.out] at hna
      have hlen := World.ownsMap.len hna Tryz.underlying114 3
      have HF : decide ((Maps.size (setOf (H := Unit) (.agg []) (s.segs.map keyL)) : Int) = (l.length : Int)) = r := by
        rw [HR.out, ← LE.out]; exact size_keys _ _
      obtain ⟨Z, hZ⟩ : ∃ Z, Maps.size (setOf (H := Unit) (.agg []) (s.segs.map keyL)) = Z := ⟨_, rfl⟩
      rw [hZ] at hlen HF
      have H2 := Lib.hid HF
      clear hg hna hZ HF
      generalize l.length = N at *
      go_wp2
      go_ret
      exact ⟨ret_bool H2.out, grown_trans G.out G3.out⟩
end Go.Proofs.YtemdbfgpimfkdaaGreat
