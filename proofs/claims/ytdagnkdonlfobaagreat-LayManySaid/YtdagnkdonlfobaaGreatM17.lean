import Derived.Test.YtdagnkdonlfobaaGreatM14
import Derived.IntWalk
import Derived.Test.YtdagnkdonlfobaaGreatM16
import Derived.StillTailTactics
import Derived.Test.YtdagnkdonlfobaaGreatM6
import Derived.Shelf.SlSortCmp.WholeK
import Derived.StringKeys
/- What lay asks first, and the small ones: is there a space, is it a slide; is an image fixed; a range's end; the next multiple. No condition but that numbers are numbers of 64 bits. -/
namespace Go.Proofs.YtdagnkdonlfobaaGreat
open Go.RowKit Go.Sort
variable {w w' W : World} {h : Hx} {s : St} {sv dv : Value}

def askErr (p : Option Addr) (sl : Nat) : Int := if p = none then 1 else if sl % 4096 = 0 then 0 else 2
theorem mayAsk_any (p : Option Addr) (sl : Nat) (w : World) : Calls Tryz.prog 25 #[.pointer p, .int .u64 sl] w fun e w' => e = .returned (.int .i64 (askErr p sl)) ∧ w = w' := by
  cases p with
  | none =>
    go_enter Tryz.func25, Tryz.ntmps25
    go_wp2
    go_ret
    exact ⟨rfl, rfl⟩
  | some a =>
    by_cases hs : sl % 4096 = 0
    · have E := Lib.hid (show askErr (some a) sl = 0 by unfold askErr; simp [hs])
      have hd : (sl : Int) % 4096 = 0 := by omega
      clear hs
      go_enter Tryz.func25, Tryz.ntmps25
      go_wp2
      go_ret
      exact ⟨ret_int (by rw [E.out]), rfl⟩
    · have E := Lib.hid (show askErr (some a) sl = 2 by unfold askErr; simp [hs])
      have hd : ¬ (sl : Int) % 4096 = 0 := by omega
      clear hs
      go_enter Tryz.func25, Tryz.ntmps25
      go_wp2
      go_ret
      exact ⟨ret_int (by rw [E.out]), rfl⟩

def lbelow (a n : Int) : Bool := decide (n ≤ 140737488355328) && decide (a ≤ 140737488355328 - n)
theorem lbelow_iff {a n : Int} : lbelow a n = true ↔ n ≤ 140737488355328 ∧ a + n ≤ 140737488355328 := by unfold lbelow; simp; omega
theorem lisBelow_any (a n : Int) (hn : 0 ≤ n) (w : World) : Calls Tryz.prog 75 #[.int .u64 a, .int .u64 n] w fun e w' => e = .returned (.bool (lbelow a n)) ∧ w = w' := by
  by_cases h1 : n ≤ 140737488355328
  · have hd : decide (n ≤ 140737488355328) = true := by simp; omega
    have hw : IntKind.u64.wrap (140737488355328 - n) = 140737488355328 - n := IntWalk.u64_in _ (by omega)
    by_cases h2 : a ≤ 140737488355328 - n
    · have hb := Lib.hid (show lbelow a n = true from lbelow_iff.2 (by omega))
      go_enter Tryz.func75, Tryz.ntmps75
      go_wp2
      go_ret
      exact ⟨ret_bool (by rw [hb.out]), rfl⟩
    · have hb := Lib.hid (show lbelow a n = false from by cases e : lbelow a n; rfl; have := lbelow_iff.1 e; omega)
      go_enter Tryz.func75, Tryz.ntmps75
      go_wp2
      go_ret
      exact ⟨ret_bool (by rw [hb.out]), rfl⟩
  · have hb := Lib.hid (show lbelow a n = false from by cases e : lbelow a n; rfl; have := lbelow_iff.1 e; omega)
    have hd : decide (n ≤ 140737488355328) = false := by simp; omega
    go_enter Tryz.func75, Tryz.ntmps75
    go_wp2
    go_ret
    exact ⟨ret_bool (by rw [hb.out]), rfl⟩

def upTo (n : Int) : Int := (n + 16383) / 16384 * 16384
theorem roundUp_any (n : Int) (hn : 0 ≤ n ∧ n ≤ 140737488355328) (w : World) : Calls Tryz.prog 76 #[.int .u64 n] w fun e w' => e = .returned (.int .u64 (upTo n)) ∧ w = w' := by
  have e1 : IntKind.u64.wrap (n + 16384) = n + 16384 := IntWalk.u64_in _ (by omega)
  have e2 : IntKind.u64.wrap (n + 16384 - 1) = n + 16383 := by rw [IntWalk.u64_in _ (by omega)]; omega
  have e3 : IntKind.u64.wrap ((n + 16383) / 16384 * 16384) = upTo n := IntWalk.u64_in _ (by omega)
  go_enter Tryz.func76, Tryz.ntmps76
  go_wp2
  go_ret
  refine ⟨ret_int ?_, rfl⟩
  unfold upTo; omega

def fixedB (h : Hx) : Bool := (h.kd == 2) && (bits .and .u32 h.fl 2097152 == 0)
theorem isFixed_any (w : World) : Calls Tryz.prog 74 #[imgV h s sv dv] w fun e w' => e = .returned (.bool (fixedB h)) ∧ w.grownBy w' none := by
  have g1 := grown1 w (.cells (imgArr h s sv dv) 41)
  have IA := (show ImgAt (w.alloc (.cells (imgArr h s sv dv) 41)) w.heap.size h s sv dv from heap_alloc_new w _)
  obtain ⟨W, hW⟩ : ∃ W, w.alloc (.cells (imgArr h s sv dv) 41) = W := ⟨_, rfl⟩
  obtain ⟨b, hb⟩ : ∃ b, w.heap.size = b := ⟨_, rfl⟩
  rw [hW] at g1 IA
  rw [hb] at IA
  have G := Lib.hid g1
  have c0 := IA.c 0 (.int .i64 h.kd) rfl
  have c2 := IA.c 2 (.int .u32 h.fl) rfl
  have gl := lt_of_block IA
  clear g1 IA
  obtain ⟨x, hx⟩ : ∃ x, bits .and .u32 h.fl 2097152 = x := ⟨_, rfl⟩
  obtain ⟨kd, hk⟩ : ∃ k, h.kd = k := ⟨_, rfl⟩
  unfold fixedB
  rw [hx, hk]
  rw [show imgV h s sv dv = .agg (imgArr h s sv dv) from rfl]
  unfold imgArr at hW ⊢
  rw [hk] at c0 hW ⊢
  by_cases h2 : kd = 2
  · subst h2
    go_enter Tryz.func74, Tryz.ntmps74
    go_upto_region 1 with fail
    clear hW hb
    go_wp2
    all_goals go_ret
    all_goals exact ⟨ret_bool (by simp_all), G.out⟩
  · have hd : (kd == 2) = false := by simpa using h2
    go_enter Tryz.func74, Tryz.ntmps74
    go_upto_region 1 with fail
    clear hW hb
    go_wp2
    all_goals go_ret
    all_goals exact ⟨ret_bool (by simp_all), G.out⟩
end Go.Proofs.YtdagnkdonlfobaaGreat

/- The rules of what an image may be, one by one: its name, its spans. No condition but that numbers fit their types. -/
namespace Go.Proofs.YtdagnkdonlfobaaGreat
open Go.RowKit
variable {w w' : World} {h : Hx} {s : St} {sv dv : Value} {n hd : Int}

set_option maxRecDepth 20000 in
theorem nameMay_any : Calls Tryz.prog 135 #[askV h s sv dv n hd] w fun e w' => e = .returned (.bool (nameOk h s)) ∧ w.grownBy w' none := by
  have gB := grown1 w (.cells (askArr h s sv dv n hd) 165)
  have aA := askNew (h := h) (s := s) (sv := sv) (dv := dv) (n := n) (hd := hd) w
  obtain ⟨W, hW⟩ : ∃ W, w.alloc (.cells (askArr h s sv dv n hd) 165) = W := ⟨_, rfl⟩
  obtain ⟨b, hb⟩ : ∃ b, w.heap.size = b := ⟨_, rfl⟩
  rw [hW] at gB aA
  rw [hb] at aA
  have G := Lib.hid gB
  have c0 := aA.c 0 (.int .i64 h.kd) rfl
  have c3 := aA.c 3 (.string (strOfNums s.name)) rfl
  have gl := aA.lt
  clear gB aA
  unfold askV
  unfold askArr at hW ⊢
  go_enter Tryz.func135, Tryz.ntmps135
  go_upto_region 1 with fail
  clear hW hb
  go_wp2
  go_ret
  exact ⟨rfl, G.out⟩

theorem RowSp.of_arr {g : Nat} (k : w.heap[g]? = some (.cells #[.int .u64 s.rb.1, .int .u64 s.rb.2, .int .u64 s.bd.1, .int .u64 s.bd.2, .int .u64 s.wk.1, .int .u64 s.wk.2, .int .u64 s.lz.1, .int .u64 s.lz.2, .int .u64 s.tr.1, .int .u64 s.tr.2, .int .u64 s.ch.1, .int .u64 s.ch.2, .int .u64 s.sy.1, .int .u64 s.sy.2, .int .u64 s.st.1, .int .u64 s.st.2] 39)) : RowSp w (some ⟨g, 0, none⟩) (spansList s) := by
  intro i x hx
  refine ⟨g, rfl, ?_, ?_⟩ <;> rw [cell_of k]
  all_goals
    unfold spansList at hx
    match i, hx with
    | 0, hx => injection hx with hx; subst hx; rfl
    | 1, hx => injection hx with hx; subst hx; rfl
    | 2, hx => injection hx with hx; subst hx; rfl
    | 3, hx => injection hx with hx; subst hx; rfl
    | 4, hx => injection hx with hx; subst hx; rfl
    | 5, hx => injection hx with hx; subst hx; rfl
    | 6, hx => injection hx with hx; subst hx; rfl
    | 7, hx => injection hx with hx; subst hx; rfl
    | k + 8, hx => simp at hx
def SpFit (s : St) : Prop := ∀ x ∈ spansList s, U64 x.1 ∧ U64 x.2
set_option maxRecDepth 20000 in
theorem spansMay_any (hf : SpFit s) (hn : U64 n) (h1 : ∃ q n c, sv = .slice q n c) (h2 : ∃ q n c, dv = .slice q n c) : Calls Tryz.prog 133 #[askV h s sv dv n hd] w fun e w' => e = .returned (.bool ((s.sy.2 % 16 == 0) && spansOk s n)) ∧ w.grownBy w' none := by
  have gB := grown1 w (.cells (askArr h s sv dv n hd) 165)
  have aA := askNew (h := h) (s := s) (sv := sv) (dv := dv) (n := n) (hd := hd) w
  obtain ⟨W, hW⟩ : ∃ W, w.alloc (.cells (askArr h s sv dv n hd) 165) = W := ⟨_, rfl⟩
  obtain ⟨b, hb⟩ : ∃ b, w.heap.size = b := ⟨_, rfl⟩
  rw [hW] at gB aA
  rw [hb] at aA
  have AA := Lib.hid aA
  have G := Lib.hid gB
  have ZI := Lib.hid (ImgAt.new W)
  have gl := aA.lt
  have H1 := Lib.hid h1
  have H2 := Lib.hid h2
  have FF := Lib.hid hf
  have NN := Lib.hid hn
  clear gB aA h1 h2 hf hn
  unfold askV
  unfold askArr at hW ⊢
  go_enter Tryz.func133, Tryz.ntmps133
  go_upto_region 1 with fail
  clear hW hb
  go_upto_region 2 with (first | refine wpList_load_imgQ rfl _ rfl rfl (AA.out.kept (grown1 W _) (by simp)) ?_ | refine wpList_load_imgQ rfl _ rfl rfl AA.out ?_ | refine wpList_store_img (h := h) (s := s) (sv := sv) (dv := dv) rfl _ _ rfl rfl rfl ZI.out H1.out H2.out ?_ | fail)
  have I2 := ZI.out.put (h := h) (s := s) (sv := sv) (dv := dv)
  have g2 := grown_new (grown1 W (.cells #[.int .i64 0, .int .i64 0, .int .u32 0, .string ⟨#[]⟩, .slice none 0 0, .slice none 0 0, .int .u64 0, .int .u64 0, .int .u64 0, .int .u64 0, .int .u64 0, .int .u64 0, .int .u64 0, .int .u64 0, .int .u64 0, .int .u64 0, .int .u64 0, .int .u64 0, .int .u64 0, .int .u64 0, .int .u64 0, .int .u64 0, .int .u64 0, .bool false] 41)) (grown_setRow (g := W.heap.size) (W.alloc (.cells #[.int .i64 0, .int .i64 0, .int .u32 0, .string ⟨#[]⟩, .slice none 0 0, .slice none 0 0, .int .u64 0, .int .u64 0, .int .u64 0, .int .u64 0, .int .u64 0, .int .u64 0, .int .u64 0, .int .u64 0, .int .u64 0, .int .u64 0, .int .u64 0, .int .u64 0, .int .u64 0, .int .u64 0, .int .u64 0, .int .u64 0, .int .u64 0, .bool false] 41)) (imgArr h s sv dv)) (Nat.le_refl _)
  obtain ⟨W2, hW2⟩ : ∃ W2, (W.alloc (.cells #[.int .i64 0, .int .i64 0, .int .u32 0, .string ⟨#[]⟩, .slice none 0 0, .slice none 0 0, .int .u64 0, .int .u64 0, .int .u64 0, .int .u64 0, .int .u64 0, .int .u64 0, .int .u64 0, .int .u64 0, .int .u64 0, .int .u64 0, .int .u64 0, .int .u64 0, .int .u64 0, .int .u64 0, .int .u64 0, .int .u64 0, .int .u64 0, .bool false] 41)).setRow W.heap.size (imgArr h s sv dv) = W2 := ⟨_, rfl⟩
  rw [hW2] at I2 g2 ⊢
  have A2 := AA.out.kept g2 (by simp)
  have G2 := Lib.hid (grown_trans G.out g2)
  clear hW2 g2 ZI gl H1 H2
  generalize W.heap.size = p at *
  have c6 := I2.c 6 (.int .u64 s.rb.1) rfl
  have c7 := I2.c 7 (.int .u64 s.rb.2) rfl
  have c8 := I2.c 8 (.int .u64 s.bd.1) rfl
  have c9 := I2.c 9 (.int .u64 s.bd.2) rfl
  have c10 := I2.c 10 (.int .u64 s.wk.1) rfl
  have c11 := I2.c 11 (.int .u64 s.wk.2) rfl
  have c12 := I2.c 12 (.int .u64 s.lz.1) rfl
  have c13 := I2.c 13 (.int .u64 s.lz.2) rfl
  have c14 := I2.c 14 (.int .u64 s.tr.1) rfl
  have c15 := I2.c 15 (.int .u64 s.tr.2) rfl
  have c16 := I2.c 16 (.int .u64 s.ch.1) rfl
  have c17 := I2.c 17 (.int .u64 s.ch.2) rfl
  have c18 := I2.c 18 (.int .u64 s.sy.1) rfl
  have c19 := I2.c 19 (.int .u64 s.sy.2) rfl
  have c20 := I2.c 20 (.int .u64 s.st.1) rfl
  have c21 := I2.c 21 (.int .u64 s.st.2) rfl
  have gl := lt_of_block I2
  have AA2 := Lib.hid A2
  clear I2 A2
  go_upto_region 3 with fail
  have R3 := RowSp.of_arr (heap_alloc_new W2 (.cells #[.int .u64 s.rb.1, .int .u64 s.rb.2, .int .u64 s.bd.1, .int .u64 s.bd.2, .int .u64 s.wk.1, .int .u64 s.wk.2, .int .u64 s.lz.1, .int .u64 s.lz.2, .int .u64 s.tr.1, .int .u64 s.tr.2, .int .u64 s.ch.1, .int .u64 s.ch.2, .int .u64 s.sy.1, .int .u64 s.sy.2, .int .u64 s.st.1, .int .u64 s.st.2] 39))
  have g3 := grown1 W2 (.cells #[.int .u64 s.rb.1, .int .u64 s.rb.2, .int .u64 s.bd.1, .int .u64 s.bd.2, .int .u64 s.wk.1, .int .u64 s.wk.2, .int .u64 s.lz.1, .int .u64 s.lz.2, .int .u64 s.tr.1, .int .u64 s.tr.2, .int .u64 s.ch.1, .int .u64 s.ch.2, .int .u64 s.sy.1, .int .u64 s.sy.2, .int .u64 s.st.1, .int .u64 s.st.2] 39)
  have d1 := grown_cell g3 c19
  have gl' := Nat.lt_of_lt_of_le gl g3.size
  obtain ⟨W3, hW3⟩ : ∃ W3, W2.alloc (.cells #[.int .u64 s.rb.1, .int .u64 s.rb.2, .int .u64 s.bd.1, .int .u64 s.bd.2, .int .u64 s.wk.1, .int .u64 s.wk.2, .int .u64 s.lz.1, .int .u64 s.lz.2, .int .u64 s.tr.1, .int .u64 s.tr.2, .int .u64 s.ch.1, .int .u64 s.ch.2, .int .u64 s.sy.1, .int .u64 s.sy.2, .int .u64 s.st.1, .int .u64 s.st.2] 39) = W3 := ⟨_, rfl⟩
  rw [hW3] at R3 g3 d1 gl' ⊢
  have A3 := AA2.out.kept g3 (by simp)
  have AL := Lib.hid (allSpan_any (w := W3) (b := b) (spansList s) 8 rfl (by decide) (fun x => withinN x.1 x.2 n) (some ⟨W2.heap.size, 0, none⟩) 8 R3 (fun V x hx hg => spansMay1_any x (FF.out x hx).1 (FF.out x hx).2 NN.out (A3.kept hg (by simp))))
  have G3 := Lib.hid (grown_trans G2.out g3)
  rw [show (spansList s).all (fun x => withinN x.1 x.2 n) = spansOk s n from rfl] at AL
  obtain ⟨r, hr⟩ : ∃ r, r = spansOk s n := ⟨_, rfl⟩
  rw [← hr] at AL
  have HR := Lib.hid hr
  have hsy := (FF.out s.sy (by unfold spansList; simp)).2
  have t1 : s.sy.2.tmod 16 = s.sy.2 % 16 := Int.tmod_eq_emod_of_nonneg hsy.1
  obtain ⟨r1, hr1⟩ : ∃ r, s.sy.2 % 16 = r := ⟨_, rfl⟩
  have HR1 := Lib.hid hr1
  have m1 : IntKind.u64.wrap r1 = r1 := by rw [IntKind.wrap_u64]; omega
  have m3 : r1 % 18446744073709551616 = r1 := by omega
  rw [hr1] at t1
  clear hW3 R3 g3 A3 hr hsy hr1 AA2 FF NN gl
  clear c6 c7 c8 c9 c10 c11 c12 c13 c14 c15 c16 c17 c18 c19 c20 c21
  generalize W2.heap.size = p2 at *
  cases h1 : (r1 == 0)
  · go_wp2
    go_ret
    exact ⟨ret_bool (by rw [HR1.out, h1]; rfl), G3.out⟩
  · go_wp2_with fail
    refine AL.out.mono ?_
    rintro e w4 ⟨rfl, hg⟩
    have G4 := Lib.hid (grown_trans G3.out hg)
    clear hg
    go_wp2
    go_ret
    exact ⟨ret_bool (by rw [HR1.out, h1, HR.out]; rfl), G4.out⟩
end Go.Proofs.YtdagnkdonlfobaaGreat

/- The rule of an image's entry. No condition but that numbers fit their types. -/
namespace Go.Proofs.YtdagnkdonlfobaaGreat
open Go.RowKit Go.Sort
variable {w w' : World} {h : Hx} {s : St} {sv dv : Value} {n hd : Int}

/-- What is left of a drawn region that only reads, closed: whoever looks at the goal goes no further. -/
structure WpQ (P : Program) (ops : Array Oper) (C : World → Prop) (Q : Act → Prop) (l : List Oper) (a : Act) : Prop where
  out : wpQuiet P ops C Q l a
section
variable {P : Program} {ops : Array Oper} {C : World → Prop} {Q : Act → Prop} {a : Act} {o : Oper} {rest : List Oper}
theorem WpQ.skip (hw : Region.wanted o (yielded ops a.tmps) = false) (hK : WpQ P ops C Q rest (a.put o.dst undef)) : WpQ P ops C Q (o :: rest) a :=
  ⟨wpQuiet_step fun K hK' => by
    rw [if_neg (by rw [hw]; decide)]
    exact hK' _ hK.out⟩
theorem WpQ.step (h : ∀ K : Act → Prop, (∀ a, WpQ P ops C Q rest a → K a) → if Region.wanted o (yielded ops a.tmps) then o.quiet P a C K else K (a.put o.dst undef)) : WpQ P ops C Q (o :: rest) a :=
  ⟨wpQuiet_step fun K hK => h K fun a h' => hK a h'.out⟩
theorem WpQ.nil (h : Q a) : WpQ P ops C Q [] a := ⟨wpQuiet_nil h⟩
end
/-- A load of an image in a drawn region that only reads. -/
theorem wpQuiet_load_img {ops : Array Oper} {C : World → Prop} {Q : Act → Prop} {a : Act} {o : Oper} {rest : List Oper} {g : Nat} {v : Value} (hw : Region.wanted o (yielded ops a.tmps) = true) (x : Operand) (ho : o.op = .load 41 x)
    (hx : a.eval x = .pointer (some ⟨g, 0, none⟩)) (hl : ∀ w, C w → (loadVar 41 ⟨g, 0, none⟩).run Tryz.prog w = .ok v w) (hK : wpQuiet Tryz.prog ops C Q rest (a.put o.dst v)) : wpQuiet Tryz.prog ops C Q (o :: rest) a := by
  refine wpQuiet_step fun K hK' => ?_
  rw [if_pos hw]
  refine ⟨v, fun W hW => ?_, hK' _ hK⟩
  unfold Oper.quietAt execOp
  simp only [ho, hx, Instr.loadAt, Instr.sureAddr, Sem.run_bind, Sem.run_pure, Result.andThen_ok, hl W hW]
  exact ⟨rfl, rfl⟩
set_option maxRecDepth 20000 in
set_option maxHeartbeats 1000000 in
theorem entryMay_any {l : List Sg} {qs : Option Addr} {cs : Nat} (k : ImgRows w s l qs cs) : Calls Tryz.prog 134 #[askV h s (.slice qs l.length cs) dv n hd] w fun e w' => e = .returned (.bool (entryOk s)) ∧ w.grownBy w' none := by
  have gB := grown1 w (.cells (askArr h s (.slice qs l.length cs) dv n hd) 165)
  have aA := askNew (h := h) (s := s) (sv := .slice qs l.length cs) (dv := dv) (n := n) (hd := hd) w
  obtain ⟨W, hW⟩ : ∃ W, w.alloc (.cells (askArr h s (.slice qs l.length cs) dv n hd) 165) = W := ⟨_, rfl⟩
  obtain ⟨b, hb⟩ : ∃ b, w.heap.size = b := ⟨_, rfl⟩
  rw [hW] at gB aA
  rw [hb] at aA
  have G := Lib.hid gB
  have c22 := aA.c 22 (.int .u64 s.entry) rfl
  have c23 := aA.c 23 (.bool s.has) rfl
  have k22 := fun d os => cell_regrown c22 d os
  have k23 := fun d os => cell_regrown c23 d os
  have KG := fun d os => grown_below (below_regrown W d os) none
  have LH := Lib.hid (fun d os => Calls.regrown_of ((High_any (h := h) (dv := dv) ((k.grown gB).grown (KG d os))).mono (fun _ _ h => (⟨h.1, below_grown h.2 (Nat.le_refl _) (by simp)⟩ : _ ∧ _))))
  have LL := Lib.hid (fun d os => Calls.regrown_of ((Low_any (h := h) (dv := dv) ((k.grown gB).grown (KG d os))).mono (fun _ _ h => (⟨h.1, below_grown h.2 (Nat.le_refl _) (by simp)⟩ : _ ∧ _))))
  have LD := Lib.hid (fun (V : World) (hV : ∃ p : Regrown, V = grow (redrawn W p.d) p.os) => (by obtain ⟨p, rfl⟩ := hV; exact run_loadImgQ (aA.kept (KG p.d p.os) (by simp)) : (loadVar 41 ⟨b, 0, none⟩).run Tryz.prog V = .ok (imgV h s (.slice qs l.length cs) dv) V))
  obtain ⟨H, hH⟩ : ∃ H, highN s.segs = H := ⟨_, rfl⟩
  obtain ⟨L, hL⟩ : ∃ L, lowN s.segs = L := ⟨_, rfl⟩
  unfold entryOk
  rw [hH] at LH ⊢
  rw [hL] at LL ⊢
  obtain ⟨T, hT⟩ : ∃ T, (H - L) % 18446744073709551616 = T := ⟨_, rfl⟩
  have hT2 : IntKind.u64.wrap (H - L) = T := by rw [IntKind.wrap_u64]; exact hT
  rw [hT]
  have gl := aA.lt
  clear k gB aA hH hL c22 KG
  unfold askV
  unfold askArr at hW ⊢
  obtain ⟨hs, hhs⟩ : ∃ b, s.has = b := ⟨_, rfl⟩
  rw [hhs] at c23 k23 hW ⊢
  clear hhs
  cases hs
  · go_enter Tryz.func134, Tryz.ntmps134
    go_upto_region 1 with fail
    clear hW hb
    refine wp_region_quiet_below (by kernel_rfl) (by kernel_rfl) ?_
    refine WpQ.out ?_
    iterate 5 (refine WpQ.step (fun K hK => ?_); go_simp; first | (refine hK _ ?_; clear hK K) | (apply Exists.intro; refine ⟨fun _ => ?_, hK _ ?_⟩; clear hK K))
    iterate 11 (refine WpQ.skip (by kernel_rfl) ?_)
    iterate 2 (refine WpQ.step (fun K hK => ?_); go_simp; first | (refine hK _ ?_; clear hK K) | (apply Exists.intro; refine ⟨fun _ => ?_, hK _ ?_⟩; clear hK K))
    refine WpQ.nil ?_
    intro _ hw'
    obtain ⟨⟨dq, osq⟩, hw''⟩ := hw'
    subst hw''
    go_wp2
    go_ret
    exact ⟨ret_bool rfl, grown_trans G.out (grown_below (below_regrown W dq osq) none)⟩
  · go_enter Tryz.func134, Tryz.ntmps134
    go_upto_region 1 with fail
    clear hW hb
    refine wp_region_quiet_below (by kernel_rfl) (by kernel_rfl) ?_
    iterate 9 (quiet_step (fail))
    refine wpQuiet_load_img rfl _ rfl rfl LD.out ?_
    quiet_step (with_reducible exact LH.out _ _)
    quiet_step (fail)
    refine wpQuiet_load_img rfl _ rfl rfl LD.out ?_
    quiet_step (with_reducible exact LL.out _ _)
    repeat (quiet_step (fail))
    refine wpQuiet_nil ?_
    intro _ hw'
    obtain ⟨⟨dq, osq⟩, hw''⟩ := hw'
    subst hw''
    go_wp2
    go_ret
    exact ⟨ret_bool rfl, grown_trans G.out (grown_below (below_regrown W dq osq) none)⟩
end Go.Proofs.YtdagnkdonlfobaaGreat

/- One image's slide after another: what the closure of lay.placing does. Conditions: an image's lists, by their cells; the place is at most 2^47. -/
namespace Go.Proofs.YtdagnkdonlfobaaGreat
open Go.RowKit Go.Sort
variable {w w' W : World} {h : Hx} {s : St} {sv dv : Value}

/-- Where an image is to begin, why it has no slide, its slide, and the next place. -/
def plAt (pl : Int) (fx : Bool) (lo : Int) : Int := if fx = true then lo else pl
def plErr (pl : Int) (fx : Bool) (lo hi : Int) : Int := if hi ≤ lo then 8 else if lbelow (plAt pl fx lo) (hi - lo) = true then 0 else 20
def plSlide (pl : Int) (fx : Bool) (lo : Int) : Int := (plAt pl fx lo - lo) % 18446744073709551616
def plNext (pl : Int) (fx : Bool) (lo hi : Int) : Int := max pl (upTo (plAt pl fx lo + (hi - lo)))

theorem run_loadImgA {g : Nat} (a : ImgAt w g h s sv dv) : (loadVar 41 ⟨g, 0, none⟩).run Tryz.prog w = .ok (imgV h s sv dv) w :=
  run_loadVar_row w g _ _ _ _ _ a Tryz.underlying41 rfl (by kernel_rfl)

theorem plErr_20 {pl lo hi : Int} {fx : Bool} (c1 : ¬ hi ≤ lo) (h : lbelow (plAt pl fx lo) (hi - lo) = false) : plErr pl fx lo hi = 20 := by
  unfold plErr; rw [if_neg c1, if_neg (by rw [h]; decide)]
theorem plErr_0 {pl lo hi : Int} {fx : Bool} (c1 : ¬ hi ≤ lo) (h : lbelow (plAt pl fx lo) (hi - lo) = true) : plErr pl fx lo hi = 0 := by
  unfold plErr; rw [if_neg c1, if_pos h]
structure PlOut (w w' : World) (p f : Nat) (pl : Int) (fst fx : Bool) (lo hi : Int) (e : Ending) : Prop where
  bad : plErr pl fx lo hi ≠ 0 → e = .returned (.tuple #[.int .u64 0, .int .i64 (plErr pl fx lo hi)])
  good : plErr pl fx lo hi = 0 → e = .returned (.tuple #[.int .u64 (plSlide pl fx lo), .int .i64 0])
  place : plErr pl fx lo hi = 0 → OneAt w' p (.int .u64 (plNext pl fx lo hi)) 33 ∧ OneAt w' f (.bool false) 4
  chg : Chg (fun k => k = p ∨ k = f) w w'

theorem pl_end {W2 : World} {p f : Nat} {v v' u u' : Value} {T U : TypeId} (hP : OneAt W2 p v T) (hF : OneAt W2 f u U) (hne : p ≠ f) (hg : w.grownBy W2 none) :
    OneAt ((W2.setCell ⟨p, 0, none⟩ v').setCell ⟨f, 0, none⟩ u') p v' T ∧ OneAt ((W2.setCell ⟨p, 0, none⟩ v').setCell ⟨f, 0, none⟩ u') f u' U ∧ Chg (fun k => k = p ∨ k = f) w ((W2.setCell ⟨p, 0, none⟩ v').setCell ⟨f, 0, none⟩ u') := by
  have g1 := grown_setCell (i := 0) (grown_refl W2 (some p)) v'
  have p1 := hP.set v'
  have f1 := hF.kept g1 (by simpa using hne)
  have g2 := grown_setCell (i := 0) (grown_refl (W2.setCell ⟨p, 0, none⟩ v') (some f)) u'
  refine ⟨p1.kept g2 (by simpa using hne.symm), f1.set u', ?_⟩
  exact ((Chg.of_grown hg (fun _ h => by cases h)).trans (Chg.of_grown g1 (fun x h => by injection h with h; exact .inl (.inl h.symm)))).trans (Chg.of_grown g2 (fun x h => by injection h with h; exact .inl (.inr h.symm)))

set_option maxRecDepth 20000 in
set_option maxHeartbeats 1600000 in
theorem placing1_any {l : List Sg} {qs : Option Addr} {cs : Nat} (k : ImgRows w s l qs cs) {p f : Nat} {pl : Int} {fst : Bool} (hp : OneAt w p (.int .u64 pl) 33) (hf : OneAt w f (.bool fst) 4) (hne : p ≠ f) (hpl : 0 ≤ pl ∧ pl ≤ 140737488355328)
    (hlo : U64 (lowN s.segs)) (hhi : U64 (highN s.segs)) :
    Calls Tryz.prog 71 #[imgV h s (.slice qs l.length cs) dv, .pointer (some ⟨p, 0, none⟩), .pointer (some ⟨f, 0, none⟩)] w fun e w' => PlOut w w' p f pl fst (fst && fixedB h) (lowN s.segs) (highN s.segs) e := by
  have gB := grown1 w (.cells (imgArr h s (.slice qs l.length cs) dv) 41)
  have aA : ImgAt (w.alloc (.cells (imgArr h s (.slice qs l.length cs) dv) 41)) w.heap.size h s (.slice qs l.length cs) dv := heap_alloc_new w _
  obtain ⟨W, hW⟩ : ∃ W, w.alloc (.cells (imgArr h s (.slice qs l.length cs) dv) 41) = W := ⟨_, rfl⟩
  obtain ⟨b, hb⟩ : ∃ b, w.heap.size = b := ⟨_, rfl⟩
  rw [hW] at gB aA
  rw [hb] at aA
  have hpb : p < b := hb ▸ hp.lt
  have hfb : f < b := hb ▸ hf.lt
  have HP := hp.grown gB
  have HF := hf.grown gB
  have KK := Lib.hid (fun (V : World) (hg : W.grownBy V none) => (k.grown gB).grown hg)
  obtain ⟨lo, hl0⟩ : ∃ x, lowN s.segs = x := ⟨_, rfl⟩
  obtain ⟨hi, hh0⟩ : ∃ x, highN s.segs = x := ⟨_, rfl⟩
  have LL := Lib.hid (fun (V : World) (hg : W.grownBy V none) => (by have := Low_any (h := h) (dv := dv) (KK.out V hg); rw [hl0] at this; exact this :
    Calls Tryz.prog 72 #[imgV h s (.slice qs l.length cs) dv] V fun e w' => e = .returned (.int .u64 lo) ∧ V.grownBy w' none))
  have LH := Lib.hid (fun (V : World) (hg : W.grownBy V none) => (by have := High_any (h := h) (dv := dv) (KK.out V hg); rw [hh0] at this; exact this :
    Calls Tryz.prog 73 #[imgV h s (.slice qs l.length cs) dv] V fun e w' => e = .returned (.int .u64 hi) ∧ V.grownBy w' none))
  rw [hl0] at hlo ⊢
  rw [hh0] at hhi ⊢
  have FX := Lib.hid (fun (V : World) => isFixed_any (h := h) (s := s) (sv := .slice qs l.length cs) (dv := dv) V)
  have G := Lib.hid gB
  have KG := fun d os => grown_below (below_regrown W d os) none
  have QH := Lib.hid (fun d os => Calls.regrown_of ((LH.out (grow (redrawn W d) os) (KG d os)).mono (fun _ _ h => (⟨h.1, below_grown h.2 (Nat.le_refl _) (by simp)⟩ : _ ∧ _))))
  have QL := Lib.hid (fun d os => Calls.regrown_of ((LL.out (grow (redrawn W d) os) (KG d os)).mono (fun _ _ h => (⟨h.1, below_grown h.2 (Nat.le_refl _) (by simp)⟩ : _ ∧ _))))
  have LD := Lib.hid (fun (V : World) (hV : ∃ p : Regrown, V = grow (redrawn W p.d) p.os) => (by obtain ⟨p, rfl⟩ := hV; exact run_loadImgA (aA.kept (KG p.d p.os) (by simp)) : (loadVar 41 ⟨b, 0, none⟩).run Tryz.prog V = .ok (imgV h s (.slice qs l.length cs) dv) V))
  have IA := Lib.hid (fun d os => aA.kept (KG d os) (by simp))
  have PP := Lib.hid (fun d os => HP.grown (KG d os))
  have PF := Lib.hid (fun d os => HF.grown (KG d os))
  have GG := Lib.hid (fun d os => grown_trans gB (KG d os))
  clear k hp hf gB aA hl0 hh0 KG HP HF LL LH KK
  obtain ⟨fi, hfi⟩ : ∃ x, fixedB h = x := ⟨_, rfl⟩
  rw [hfi] at FX ⊢
  clear hfi
  unfold U64 at hlo hhi
  rw [show imgV h s (.slice qs l.length cs) dv = .agg (imgArr h s (.slice qs l.length cs) dv) from rfl]
  unfold imgArr at hW ⊢
  by_cases c1 : hi ≤ lo
  · have E := Lib.hid (show plErr pl (fst && fi) lo hi = 8 from if_pos c1)
    go_enter Tryz.func71, Tryz.ntmps71
    go_upto_region 1 with fail
    clear hW hb
    refine wp_region_quiet_below (by kernel_rfl) (by kernel_rfl) ?_
    refine wpQuiet_load_img rfl _ rfl rfl LD.out ?_
    quiet_step (with_reducible exact QL.out _ _)
    refine wpQuiet_load_img rfl _ rfl rfl LD.out ?_
    quiet_step (with_reducible exact QH.out _ _)
    repeat (quiet_step (fail))
    refine wpQuiet_nil ?_
    intro _ hw'
    obtain ⟨⟨dq, osq⟩, hw''⟩ := hw'
    subst hw''
    go_wp2
    go_ret2
    exact ⟨fun _ => (by rw [E.out]; rfl), fun h => (by rw [E.out] at h; cases h), fun h => (by rw [E.out] at h; cases h), Chg.of_grown (GG.out dq osq) (fun _ h => by cases h)⟩
  have w1 : IntKind.u64.wrap (hi - lo) = hi - lo := IntWalk.u64_in _ (by omega)
  have cd : decide (hi ≤ lo) = false := by simpa using c1
  go_enter Tryz.func71, Tryz.ntmps71
  go_upto_region 1 with fail
  clear hW hb
  refine wp_region_quiet_below (by kernel_rfl) (by kernel_rfl) ?_
  refine wpQuiet_load_img rfl _ rfl rfl LD.out ?_
  quiet_step (with_reducible exact QL.out _ _)
  refine wpQuiet_load_img rfl _ rfl rfl LD.out ?_
  quiet_step (with_reducible exact QH.out _ _)
  repeat (quiet_step (fail))
  refine wpQuiet_nil ?_
  intro _ hw'
  obtain ⟨⟨dq, osq⟩, hw''⟩ := hw'
  subst hw''
  have I1 := Lib.hid (IA.out dq osq)
  have P1 := Lib.hid (PP.out dq osq)
  have F1 := Lib.hid (PF.out dq osq)
  have G1 := Lib.hid (GG.out dq osq)
  clear QH QL LD IA PP PF GG
  obtain ⟨W1, hW1⟩ : ∃ X, grow (redrawn W dq) osq = X := ⟨_, rfl⟩
  rw [hW1] at I1 P1 F1 G1 ⊢
  clear hW1
  have kp := P1.out.c
  have kf := F1.out.c
  cases fst
  · go_wp2_with fail
    have c1 : ¬ hi ≤ lo := by omega
    refine (lisBelow_any (pl) (hi - lo) (by omega) _).mono ?_
    rintro e v1 ⟨rfl, rfl⟩
    cases hbl : lbelow (pl) (hi - lo)
    · have E := Lib.hid (show plErr pl (false && fi) lo hi = 20 from plErr_20 c1 hbl)
      go_wp2
      go_ret2
      exact ⟨fun _ => (by rw [E.out]; rfl), fun h => (by rw [E.out] at h; cases h), fun h => (by rw [E.out] at h; cases h), Chg.of_grown G1.out (fun _ h => by cases h)⟩
    · have E := Lib.hid (show plErr pl (false && fi) lo hi = 0 from plErr_0 c1 hbl)
      have hle := lbelow_iff.1 hbl
      have RU := Lib.hid (fun V => roundUp_any (pl + (hi - lo)) (by omega) V)
      have w2 : IntKind.u64.wrap (pl + (hi - lo)) = pl + (hi - lo) := IntWalk.u64_in _ (by omega)
      clear hle hbl
      go_wp2_with fail
      go_still_tail 6, (by kernel_rfl)
      still_call ((RU.out W1.drew).mono (fun _ _ h => (⟨h.1, h.2.symm⟩ : _ ∧ _)))
      repeat still_step
      refine wpStill_nil ?_
      change wpList _ _ _ _ _ W1.drew
      have P2 := Lib.hid (show OneAt W1.drew _ _ _ from P1.out.grown (grown_drewN (grown_refl W1 none) 1))
      have F2 := Lib.hid (show OneAt W1.drew _ _ _ from F1.out.grown (grown_drewN (grown_refl W1 none) 1))
      have G2 := Lib.hid (show w.grownBy W1.drew none from grown_drewN G1.out 1)
      clear kp kf
      generalize W1.drew = W9 at *
      have kp := P2.out.c
      have kpf := P2.out.f
      have kf := F2.out.c
      have kff := F2.out.f
      go_wp2
      go_ret2
      obtain ⟨q1, q2, q3⟩ := pl_end P2.out F2.out hne G2.out (v' := .int .u64 (max pl (upTo (pl + (hi - lo))))) (u' := .bool false)
      exact ⟨fun h => absurd E.out h, fun _ => (by rw [show plSlide pl (false && fi) lo = (pl - lo) % 18446744073709551616 from rfl, IntKind.wrap_u64]; rfl), fun _ => ⟨q1, q2⟩, q3⟩
  · go_wp2_with (first | refine wpList_load_imgW rfl _ rfl rfl I1.out ?_ | fail)
    refine (FX.out _).mono ?_
    rintro e w3 ⟨rfl, hg⟩
    have P3 := Lib.hid (P1.out.grown hg)
    have F3 := Lib.hid (F1.out.grown hg)
    have G3 := Lib.hid (grown_trans G1.out hg)
    clear hg kp kf P1 F1 G1 I1 FX
    have kp := P3.out.c
    have kf := F3.out.c
    cases fi
    · go_wp2_with fail
      have c1 : ¬ hi ≤ lo := by omega
      refine (lisBelow_any (pl) (hi - lo) (by omega) _).mono ?_
      rintro e v1 ⟨rfl, rfl⟩
      cases hbl : lbelow (pl) (hi - lo)
      · have E := Lib.hid (show plErr pl (true && false) lo hi = 20 from plErr_20 c1 hbl)
        go_wp2
        go_ret2
        exact ⟨fun _ => (by rw [E.out]; rfl), fun h => (by rw [E.out] at h; cases h), fun h => (by rw [E.out] at h; cases h), Chg.of_grown G3.out (fun _ h => by cases h)⟩
      · have E := Lib.hid (show plErr pl (true && false) lo hi = 0 from plErr_0 c1 hbl)
        have hle := lbelow_iff.1 hbl
        have RU := Lib.hid (fun V => roundUp_any (pl + (hi - lo)) (by omega) V)
        have w2 : IntKind.u64.wrap (pl + (hi - lo)) = pl + (hi - lo) := IntWalk.u64_in _ (by omega)
        clear hle hbl
        go_wp2_with fail
        go_still_tail 6, (by kernel_rfl)
        still_call ((RU.out w3.drew).mono (fun _ _ h => (⟨h.1, h.2.symm⟩ : _ ∧ _)))
        repeat still_step
        refine wpStill_nil ?_
        change wpList _ _ _ _ _ w3.drew
        have P2 := Lib.hid (show OneAt w3.drew _ _ _ from P3.out.grown (grown_drewN (grown_refl w3 none) 1))
        have F2 := Lib.hid (show OneAt w3.drew _ _ _ from F3.out.grown (grown_drewN (grown_refl w3 none) 1))
        have G2 := Lib.hid (show w.grownBy w3.drew none from grown_drewN G3.out 1)
        clear kp kf
        generalize w3.drew = W9 at *
        have kp := P2.out.c
        have kpf := P2.out.f
        have kf := F2.out.c
        have kff := F2.out.f
        go_wp2
        go_ret2
        obtain ⟨q1, q2, q3⟩ := pl_end P2.out F2.out hne G2.out (v' := .int .u64 (max pl (upTo (pl + (hi - lo))))) (u' := .bool false)
        exact ⟨fun h => absurd E.out h, fun _ => (by rw [show plSlide pl (true && false) lo = (pl - lo) % 18446744073709551616 from rfl, IntKind.wrap_u64]; rfl), fun _ => ⟨q1, q2⟩, q3⟩
    · go_wp2_with fail
      have c1 : ¬ hi ≤ lo := by omega
      refine (lisBelow_any (lo) (hi - lo) (by omega) _).mono ?_
      rintro e v1 ⟨rfl, rfl⟩
      cases hbl : lbelow (lo) (hi - lo)
      · have E := Lib.hid (show plErr pl (true && true) lo hi = 20 from plErr_20 c1 hbl)
        go_wp2
        go_ret2
        exact ⟨fun _ => (by rw [E.out]; rfl), fun h => (by rw [E.out] at h; cases h), fun h => (by rw [E.out] at h; cases h), Chg.of_grown G3.out (fun _ h => by cases h)⟩
      · have E := Lib.hid (show plErr pl (true && true) lo hi = 0 from plErr_0 c1 hbl)
        have hle := lbelow_iff.1 hbl
        have RU := Lib.hid (fun V => roundUp_any (lo + (hi - lo)) (by omega) V)
        have w2 : IntKind.u64.wrap (lo + (hi - lo)) = lo + (hi - lo) := IntWalk.u64_in _ (by omega)
        clear hle hbl
        go_wp2_with fail
        go_still_tail 6, (by kernel_rfl)
        still_call ((RU.out w3.drew).mono (fun _ _ h => (⟨h.1, h.2.symm⟩ : _ ∧ _)))
        repeat still_step
        refine wpStill_nil ?_
        change wpList _ _ _ _ _ w3.drew
        have P2 := Lib.hid (show OneAt w3.drew _ _ _ from P3.out.grown (grown_drewN (grown_refl w3 none) 1))
        have F2 := Lib.hid (show OneAt w3.drew _ _ _ from F3.out.grown (grown_drewN (grown_refl w3 none) 1))
        have G2 := Lib.hid (show w.grownBy w3.drew none from grown_drewN G3.out 1)
        clear kp kf
        generalize w3.drew = W9 at *
        have kp := P2.out.c
        have kpf := P2.out.f
        have kf := F2.out.c
        have kff := F2.out.f
        go_wp2
        go_ret2
        obtain ⟨q1, q2, q3⟩ := pl_end P2.out F2.out hne G2.out (v' := .int .u64 (max pl (upTo (lo + (hi - lo))))) (u' := .bool false)
        exact ⟨fun h => absurd E.out h, fun _ => (by rw [show plSlide pl (true && true) lo = 0 from (by unfold plSlide plAt; simp)]; rfl), fun _ => ⟨q1, q2⟩, q3⟩
end Go.Proofs.YtdagnkdonlfobaaGreat

/- Rows of one's own, and the library's sort: what the sort asks of them, and what they are behind it. No condition. -/
namespace Go.Proofs.YtdagnkdonlfobaaGreat
open Go.RowKit Go.Sort
variable {w w' : World} {α : Type} [Inhabited α]

theorem grown_sort (enc : α → List Value) (k : Nat) (w : World) (blk off n : Nat) (d : Array α) (os : Array Obj) : w.grownBy (sortWorldK enc k w blk off n d os) (some blk) := by
  refine ⟨rfl, rfl, rfl, ?_, fun i hi hne => ?_⟩
  · simp only [sortWorldK, grow, putRowK, putRow, mapBlock, Sort.ahead, Array.size_append, Array.size_modify]
    omega
  · have hb : blk ≠ i := fun e => hne (by rw [e])
    simp only [sortWorldK, grow, putRowK, putRow, mapBlock, Sort.ahead]
    rw [Array.getElem?_append_left (by rw [Array.size_modify]; exact hi), Array.getElem?_modify, if_neg hb]
omit [Inhabited α] in
theorem own_free {T : TypeId} {k n c g lo : Nat} {xs : List Value} (h : w.ownsRow lo T k (.slice (some ⟨g, 0, none⟩) n c) n xs) (j : Nat) : w.frozen? ⟨g, j, none⟩ = false := by
  obtain ⟨_, hn | ⟨g', cap, cur, hv, _, hg, _⟩⟩ := h
  · cases hn.1
  · injection hv with h1 _ _
    injection h1 with h1
    injection h1 with h1 _ _
    subst h1
    exact free_of hg
omit [Inhabited α] in
theorem own_max {T : TypeId} {k n c lo : Nat} {q : Option Addr} {xs : List Value} (h : w.ownsRow lo T k (.slice q n c) n xs) : c ≤ 9223372036854775807 := by
  obtain ⟨_, hn | ⟨g', cap, cur, hv, _, _, _, hm, _⟩⟩ := h
  · injection hn.1 with _ _ h3; subst h3; exact Nat.zero_le _
  · injection hv with _ _ h3; subst h3; unfold maxLen at hm; omega
theorem holdsK_own {T : TypeId} {k n c g lo : Nat} {f : α → List Value} {l : List α} (hf : ∀ x, (f x).length = k) (h : w.ownsRow lo T k (.slice (some ⟨g, 0, none⟩) n c) n (l.flatMap f)) : HoldsK f k w g 0 l.toArray := by
  intro t ht
  rw [size_flatK] at ht
  have hk : 0 < k := by
    rcases Nat.eq_zero_or_pos k with e | e
    · subst e; simp at ht
    · exact e
  have hd : t / k < l.toArray.size := Nat.div_lt_of_lt_mul (by rw [Nat.mul_comm]; exact ht)
  have hd' : t / k < l.length := by simpa using hd
  have hm : t % k < k := Nat.mod_lt _ hk
  have hx : l[t / k]? = some (l[t / k]'hd') := List.getElem?_eq_getElem hd'
  obtain ⟨g', e, hc⟩ := row_cell hf h hx hm
  injection e with e
  injection e with e _ _
  subst e
  refine ⟨?_, own_free h _⟩
  have ea : l.toArray[t / k]! = l[t / k]'hd' := by rw [getElem!_pos l.toArray (t / k) hd]; rfl
  rw [Nat.zero_add, get_flatK _ _ _ _ ht, ea, getElem!_pos (f (l[t / k]'hd')) (t % k) (by rw [hf]; exact hm)]
  have e : t / k * k + t % k = t := by rw [Nat.mul_comm]; exact Nat.div_add_mod t k
  rw [e] at hc
  show w.cell? ⟨g, t, none⟩ = some ((f (l[t / k]'hd'))[t % k]'_)
  rw [hc, List.getElem?_eq_getElem (by rw [hf]; exact hm)]
theorem holds_grown (enc : α → List Value) (k : Nat) {blk n : Nat} {d d0 : Array α} {os : Array Obj} (h0 : HoldsK enc k w blk 0 d0) (hs : d.size = d0.size) (hb : blk < w.heap.size) : HoldsK enc k (sortWorldK enc k w blk 0 n d os) blk 0 d :=
  holdsK_sortWorldK_c enc k w blk 0 d0 d n os h0 hb hs
/-- A permutation that is sorted, as lists. -/
theorem perm_list {d d' : Array α} {lt : α → α → Bool} (hp : PermIn 0 d.size d d') (hs : SortedIn lt 0 d.size d') : d'.toList.Perm d.toList ∧ d'.size = d.size ∧ ∀ i j, i < j → j < d'.size → lt d'[j]! d'[i]! = false := by
  obtain ⟨h1, _, h3⟩ := hp
  refine ⟨?_, h1, fun i j hij hj => hs i j (Nat.zero_le _) hij (h1 ▸ hj)⟩
  rw [show d'.extract 0 d.size = d' from by rw [← h1]; exact Array.extract_size, show d.extract 0 d.size = d from Array.extract_size] at h3
  exact h3
end Go.Proofs.YtdagnkdonlfobaaGreat

/- The rule that no two segments have one name: a set of names. No condition but that names are short. -/
namespace Go.Proofs.YtdagnkdonlfobaaGreat
open Go.RowKit Go.Maps
variable {w w' : World} {h : Hx} {s : St} {sv dv : Value} {n hd : Int}

theorem any_key {L : List Lit} {x : Lit} (hx : WideAt.IsKeyLit x) : L.any (fun y => y.sameKey x) = true ↔ x ∈ L := by
  rw [List.any_eq_true]
  constructor
  · rintro ⟨y, hy, hs⟩
    by_cases e : y = x
    · rw [← e]; exact hy
    · rw [sameKey_ne e] at hs; cases hs
  · intro hm
    exact ⟨x, hm, WideAt.sameKey_self hx⟩
theorem addKey_len (xs : List Lit) (hk : ∀ x ∈ xs, WideAt.IsKeyLit x) (L : List Lit) : (xs.foldl addKey L).length ≤ L.length + xs.length ∧ ((xs.foldl addKey L).length = L.length + xs.length ↔ xs.Nodup ∧ ∀ x ∈ xs, x ∉ L) := by
  induction xs generalizing L with
  | nil => simp
  | cons x r ih =>
    rw [List.foldl_cons]
    have hx := hk x (List.mem_cons_self ..)
    have hr := fun y hy => hk y (List.mem_cons_of_mem _ hy)
    by_cases hm : x ∈ L
    · have e : addKey L x = L := by unfold addKey; rw [if_pos ((any_key hx).2 hm)]
      rw [e]
      obtain ⟨h1, h2⟩ := ih hr L
      refine ⟨by rw [List.length_cons]; omega, ?_⟩
      constructor
      · intro he; rw [List.length_cons] at he; omega
      · rintro ⟨_, h3⟩
        exact absurd hm (h3 x (List.mem_cons_self ..))
    · have e : addKey L x = L ++ [x] := by unfold addKey; rw [if_neg (fun h => hm ((any_key hx).1 h))]
      rw [e]
      obtain ⟨h1, h2⟩ := ih hr (L ++ [x])
      rw [List.length_append, List.length_singleton] at h1 h2
      refine ⟨by rw [List.length_cons]; omega, ?_⟩
      rw [List.length_cons, show L.length + (r.length + 1) = L.length + 1 + r.length by omega, h2, List.nodup_cons]
      constructor
      · rintro ⟨a, b⟩
        refine ⟨⟨fun hxr => b x hxr (by simp), a⟩, fun y hy => ?_⟩
        rcases List.mem_cons.1 hy with rfl | hy
        · exact hm
        · exact fun h => b y hy (List.mem_append_left _ h)
      · rintro ⟨⟨a, b⟩, c⟩
        refine ⟨b, fun y hy h => ?_⟩
        rcases List.mem_append.1 h with h | h
        · exact c y (List.mem_cons_of_mem _ hy) h
        · rw [List.mem_singleton] at h
          exact a (h ▸ hy)
def keyL (x : Seg) : Lit := .string (strOfNums x.name).data.toList
theorem keyL_is (x : Seg) : WideAt.IsKeyLit (keyL x) := trivial
theorem keys_diff (l : List Seg) : (l.map keyL).Nodup ↔ (l.map nmOf).Nodup := by
  unfold List.Nodup
  rw [List.pairwise_map, List.pairwise_map]
  have e : ∀ x y : Seg, keyL x ≠ keyL y ↔ nmOf x ≠ nmOf y := fun x y => by
    unfold keyL nmOf
    rw [Lib.toList_data, Lib.toList_data]
    exact not_congr ⟨fun h => by injection h, fun h => by rw [h]⟩
  constructor <;> exact fun h => h.imp (fun {a b} => by rw [e]; exact id)
theorem size_keys {H : Type} (u : DataW H) (l : List Seg) : (decide ((Maps.size (setOf u (l.map keyL)) : Int) = (l.length : Int))) = diffN l := by
  rw [size_setOf u _ (fun x hx => by obtain ⟨y, _, rfl⟩ := List.mem_map.1 hx; exact keyL_is y)]
  obtain ⟨_, h2⟩ := addKey_len (l.map keyL) (fun x hx => by obtain ⟨y, _, rfl⟩ := List.mem_map.1 hx; exact keyL_is y) []
  rw [List.length_nil, Nat.zero_add, List.length_map] at h2
  unfold diffN
  rw [decide_eq_decide]
  constructor
  · intro h
    exact (keys_diff l).1 (h2.1 (by omega)).1
  · intro h
    have := h2.2 ⟨(keys_diff l).2 h, fun x _ => List.not_mem_nil⟩
    omega
def NmFit (s : St) : Prop := ∀ x ∈ s.segs, x.name.length ≤ 1000
theorem strKeyed : Keyed Tryz.prog 9 := string_keyed Tryz.underlying9
def NamesAt (w : World) (m k : Nat) (l : List Seg) : Prop := w.ownsMap (H := Unit) Tryz.prog 9 unitElem m k (setOf (.agg []) (l.map keyL))
theorem NamesAt.meet {m k : Nat} {l : List Seg} (h : NamesAt w m k l) {x : Seg} (hx : x.name.length ≤ 1000) (hk : k < maxLen) :
    ∃ w', (Instr.mapUpdate 244 (.map (some m)) (.string (strOfNums x.name)) (.agg #[])).run Tryz.prog w = .ok () w' ∧ NamesAt w' m (k + 1) (l ++ [x]) ∧ w.grownBy w' (some m) := by
  obtain ⟨w', hr, ho', hg⟩ := World.ownsMap.update h strKeyed Tryz.underlying244 hk (Go.WideMaps.keyOf_string_mk Tryz.underlying9 (s := strOfNums x.name) (by rw [strOfNums_size]; unfold maxLen; omega)) unitElem_mk
  refine ⟨w', hr, ?_, hg⟩
  unfold NamesAt
  rw [List.map_append, List.map_singleton, setOf_snoc]
  exact ho'
theorem NamesAt.made (w : World) : NamesAt (w.alloc (.map #[] 0)) w.heap.size 0 [] := World.ownsMap_made w _ _ _
theorem take_at {l : List Sg} (hl : l.map Sg.seg = s.segs) {k : Nat} {x : Sg} (hx : l[k]? = some x) : s.segs.take (k + 1) = s.segs.take k ++ [x.seg] := by
  rw [← hl]
  obtain ⟨hk, rfl⟩ := List.getElem?_eq_some_iff.1 hx
  rw [List.take_succ_eq_append_getElem (by rw [List.length_map]; exact hk), List.getElem_map]

set_option maxRecDepth 20000 in
theorem namesDiffer_any {l : List Sg} {qs : Option Addr} {cs : Nat} (k : ImgRows w s l qs cs) (hf : NmFit s) : Calls Tryz.prog 129 #[askV h s (.slice qs l.length cs) dv n hd] w fun e w' => e = .returned (.bool (diffN s.segs)) ∧ w.grownBy w' none := by
  have gB := grown1 w (.cells (askArr h s (.slice qs l.length cs) dv n hd) 165)
  have aA := askNew (h := h) (s := s) (sv := .slice qs l.length cs) (dv := dv) (n := n) (hd := hd) w
  obtain ⟨W, hW⟩ : ∃ W, w.alloc (.cells (askArr h s (.slice qs l.length cs) dv n hd) 165) = W := ⟨_, rfl⟩
  obtain ⟨b, hb⟩ : ∃ b, w.heap.size = b := ⟨_, rfl⟩
  rw [hW] at gB aA
  rw [hb] at aA
  have RW := Lib.hid (fun (V : World) (hg : W.grownBy V none) => (k.grown gB).row.grown hg)
  have G := Lib.hid gB
  have gm := grown1 W (.map #[] 0)
  have NM := NamesAt.made W
  have AA := Lib.hid aA
  have c4 := grown_cell gm (aA.c 4 (.slice qs l.length cs) rfl)
  have gl := Nat.lt_of_lt_of_le aA.lt gm.size
  have DR := Lib.hid (fun (k1 : Nat) (x : Sg) => take_at (k := k1) (x := x) k.segs)
  have DE := Lib.hid (show s.segs.take l.length = s.segs by rw [← k.segs, ← List.length_map (f := Sg.seg), List.take_length])
  have LE := Lib.hid (show s.segs.length = l.length by rw [← k.segs, List.length_map])
  have NF := Lib.hid (fun (x : Sg) (hx : x ∈ l) => hf x.seg (by rw [← k.segs]; exact List.mem_map_of_mem hx))
  have CP := Lib.hid k.cap
  have FW := Lib.hid k.few
  obtain ⟨r, hr⟩ : ∃ r, r = diffN s.segs := ⟨_, rfl⟩
  rw [← hr]
  have HR := Lib.hid hr
  have hmm := @run_makeMap Tryz.prog
  obtain ⟨W1, hW1⟩ : ∃ W1, W.alloc (.map #[] 0) = W1 := ⟨_, rfl⟩
  obtain ⟨m, hm⟩ : ∃ m, W.heap.size = m := ⟨_, rfl⟩
  rw [hW1] at gm NM c4 gl
  rw [hm] at NM
  have HMS := Lib.hid hm
  have GM := Lib.hid gm
  have NM0 := Lib.hid NM
  clear gm NM
  clear k gB aA hr hf
  unfold askV
  unfold askArr at hW ⊢
  go_enter Tryz.func129, Tryz.ntmps129
  go_upto_region 1 with fail
  clear hW hb
  go_upto_region 2 with fail
  clear hW1 hm hmm
  go_wp2
  go_loopw [11] (fun i wr => ∃ k1 : Nat, k1 ≤ l.length ∧ i = .int .i64 k1 ∧ W.grownBy wr none ∧ NamesAt wr m k1 (s.segs.take k1)) (fun i _ => l.length - (intOf i).toNat)
  case atStart => exact ⟨0, Nat.zero_le _, rfl, GM.out, NM0.out⟩
  case round =>
    obtain ⟨k1, hk, rfl, hg, hna⟩ := hrel
    have NA := Lib.hid hna
    have G3 := Lib.hid hg
    have c4 := (AA.out.kept hg (by simp)).c 4 (.slice qs l.length cs) rfl
    have gl := (AA.out.kept hg (by simp)).lt
    by_cases hlt : k1 < l.length
    · obtain ⟨x, hx⟩ : ∃ x, l[k1]? = some x := ⟨_, List.getElem?_eq_getElem hlt⟩
      obtain ⟨g, rfl, a0, a1, a2, a3, a4, a5, a6⟩ := (RW.out wr hg).at hx
      have dl : decide ((k1 : Int) < (l.length : Int)) = true := by simp; omega
      have hkl : (k1 : Int) < (l.length : Int) := by omega
      have DX := Lib.hid (DR.out k1 x hx)
      have hnf := NF.out x (List.mem_of_getElem? hx)
      have hcp : l.length ≤ cs := CP.out
      have hfw : l.length ≤ 9223372036854775807 := FW.out
      obtain ⟨⟨nm, ad, sz, of, fs, pr, sl⟩, q1, c1⟩ := x
      simp only [] at a0 a1 a2 a3 a4 a5 a6
      have g5 := grown1 wr (.cells #[.string (strOfNums nm), .int .u64 ad, .int .u64 sz, .int .u64 of, .int .u64 fs, .int .i64 pr, .slice q1 sl.length c1] 58)
      have n5 : NamesAt (wr.alloc (.cells #[.string (strOfNums nm), .int .u64 ad, .int .u64 sz, .int .u64 of, .int .u64 fs, .int .i64 pr, .slice q1 sl.length c1] 58)) m k1 (s.segs.take k1) := World.ownsMap.kept hna g5 (by simp)
      have p5 : SegAt (wr.alloc (.cells #[.string (strOfNums nm), .int .u64 ad, .int .u64 sz, .int .u64 of, .int .u64 fs, .int .i64 pr, .slice q1 sl.length c1] 58)) wr.heap.size ⟨nm, ad, sz, of, fs, pr, sl⟩ (.slice q1 sl.length c1) := heap_alloc_new wr _
      obtain ⟨w6, hr6, n6, g6⟩ := n5.meet (x := ⟨nm, ad, sz, of, fs, pr, sl⟩) hnf (by unfold maxLen; omega)
      have G6 := Lib.hid (grown_new (grown_trans hg g5) g6 (by rw [← HMS.out]; exact Nat.le_refl _))
      have N6 := Lib.hid n6
      have y0 := p5.c.1
      have yl := p5.lt
      simp only [] at y0 hr6
      clear hg hx g5 hna n5 p5 n6 g6 hnf
      generalize l.length = N at *
      go_wp2
      go_roundw
      case rel =>
        refine ⟨k1 + 1, hlt, by go_num, G6.out, ?_⟩
        rw [DX.out]
        exact N6.out
      case measure => simp [intOf]; omega
    · have hk' : k1 = l.length := by omega
      subst hk'
      have dl : decide ((l.length : Int) < (l.length : Int)) = false := by simp
      rw [DE.out] at hna
      have hlen := World.ownsMap.len hna Tryz.underlying244 3
      have HF : decide ((Maps.size (setOf (H := Unit) (.agg []) (s.segs.map keyL)) : Int) = (l.length : Int)) = r := by
        rw [HR.out, ← LE.out]; exact size_keys _ _
      obtain ⟨Z, hZ⟩ : ∃ Z, Maps.size (setOf (H := Unit) (.agg []) (s.segs.map keyL)) = Z := ⟨_, rfl⟩
      rw [hZ] at hlen HF
      have H2 := Lib.hid HF
      clear hg hna hZ HF
      generalize l.length = N at *
      go_wp2
      go_ret
      exact ⟨ret_bool H2.out, grown_trans G.out G3.out⟩
end Go.Proofs.YtdagnkdonlfobaaGreat

/- Where an image begins and ends, as the document has it. No condition but that numbers fit their types. -/
namespace Go.Proofs.YtdagnkdonlfobaaGreat
open Go.RowKit
variable {w w' : World} {h : Hx} {s : St} {sv dv : Value} {n hd : Int}

set_option maxRecDepth 20000 in
theorem rHigh_any {l : List Sg} {qs : Option Addr} {cs : Nat} (k : ImgRows w s l qs cs) : Calls Tryz.prog 18 #[imgV h s (.slice qs l.length cs) dv] w fun e w' => e = .returned (.int .u64 (highN s.segs)) ∧ w.grownBy w' none := by
  have gB := grown1 w (.cells (imgArr h s (.slice qs l.length cs) dv) 41)
  have aA : ImgAt (w.alloc (.cells (imgArr h s (.slice qs l.length cs) dv) 41)) w.heap.size h s (.slice qs l.length cs) dv := heap_alloc_new w _
  obtain ⟨W, hW⟩ : ∃ W, w.alloc (.cells (imgArr h s (.slice qs l.length cs) dv) 41) = W := ⟨_, rfl⟩
  obtain ⟨b, hb⟩ : ∃ b, w.heap.size = b := ⟨_, rfl⟩
  rw [hW] at gB aA
  rw [hb] at aA
  have RW := Lib.hid (fun (V : World) (hg : W.grownBy V none) => (k.grown gB).row.grown hg)
  have G := Lib.hid gB
  have AA := Lib.hid aA
  have DR := Lib.hid (fun (k1 : Nat) (x : Sg) => hi_succ (k := k1) (x := x) k.segs)
  have DE := Lib.hid (show s.segs.take l.length = s.segs by rw [← k.segs, ← List.length_map (f := Sg.seg), List.take_length])
  have CP := Lib.hid k.cap
  have FW := Lib.hid k.few
  obtain ⟨r, hr⟩ : ∃ r, r = highN s.segs := ⟨_, rfl⟩
  rw [← hr]
  rw [highN_eq] at hr
  have HR := Lib.hid hr
  clear k gB aA hr
  rw [show imgV h s (.slice qs l.length cs) dv = .agg (imgArr h s (.slice qs l.length cs) dv) from rfl]
  unfold imgArr at hW ⊢
  go_enter Tryz.func18, Tryz.ntmps18
  go_upto_region 1 with fail
  clear hW hb
  go_wp2
  go_loopw [3, 4] (fun e i wr => ∃ (k1 : Nat) (E : Int), k1 ≤ l.length ∧ i = .int .i64 k1 ∧ e = .int .u64 E ∧ W.grownBy wr none ∧ E = (s.segs.take k1).foldl hiS 0) (fun _ i _ => l.length - (intOf i).toNat)
  case atStart => exact ⟨0, 0, Nat.zero_le _, rfl, rfl, grown_refl _ _, rfl⟩
  case round =>
    obtain ⟨k1, E, hk, rfl, rfl, hg, hre⟩ := hrel
    have HRE := Lib.hid hre
    have G3 := Lib.hid hg
    have c4 := (AA.out.kept hg (by simp)).c 4 (.slice qs l.length cs) rfl
    have gl := lt_of_block (AA.out.kept hg (by simp))
    by_cases hlt : k1 < l.length
    · obtain ⟨x, hx⟩ : ∃ x, l[k1]? = some x := ⟨_, List.getElem?_eq_getElem hlt⟩
      obtain ⟨g, rfl, a0, a1, a2, a3, a4, a5, a6⟩ := (RW.out wr hg).at hx
      have dl : decide ((k1 : Int) < (l.length : Int)) = true := by simp; omega
      have hkl : (k1 : Int) < (l.length : Int) := by omega
      have DX := Lib.hid (DR.out k1 x hx)
      have LD := Lib.hid (fun (V : World) => hole_any (w := V) x.seg x.q x.seg.secs.length x.c)
      obtain ⟨bx, hbx⟩ : ∃ bx, bx = laidS x.seg := ⟨_, rfl⟩
      rw [← hbx] at LD
      have HB := Lib.hid hbx
      obtain ⟨⟨nm, ad, sz, of, fs, pr, sl⟩, q1, c1⟩ := x
      simp only [] at a0 a1 a2 a3 a4 a5 a6 LD
      unfold segV segArr at LD
      obtain ⟨T, hT⟩ : ∃ T, (ad + sz) % 18446744073709551616 = T := ⟨_, rfl⟩
      have hT2 : IntKind.u64.wrap (ad + sz) = T := by rw [IntKind.wrap_u64]; exact hT
      have HT := Lib.hid hT
      have hcp : l.length ≤ cs := CP.out
      have hfw : l.length ≤ 9223372036854775807 := FW.out
      have g5 := grown_trans hg (grown1 wr (.cells #[.string (strOfNums nm), .int .u64 ad, .int .u64 sz, .int .u64 of, .int .u64 fs, .int .i64 pr, .slice q1 sl.length c1] 58))
      have p5 : SegAt (wr.alloc (.cells #[.string (strOfNums nm), .int .u64 ad, .int .u64 sz, .int .u64 of, .int .u64 fs, .int .i64 pr, .slice q1 sl.length c1] 58)) wr.heap.size ⟨nm, ad, sz, of, fs, pr, sl⟩ (.slice q1 sl.length c1) := heap_alloc_new wr _
      have P5 := Lib.hid p5
      have G5 := Lib.hid g5
      clear hg hx hT g5 hre hbx p5
      generalize l.length = N at *
      go_wp2_with fail
      refine (LD.out _).mono ?_
      rintro e w6 ⟨rfl, hg⟩
      have P6 := P5.out.kept hg (by simp)
      have G6 := Lib.hid (grown_trans G5.out hg)
      obtain ⟨y0, y1, y2, y3, y4, y5, y6⟩ := P6.c
      have yl := P6.lt
      clear hg P6
      simp only [] at y1 y2
      cases bx
      · go_wp2
        go_roundw
        case rel =>
          refine ⟨k1 + 1, E, hlt, by go_num, rfl, G6.out, ?_⟩
          rw [DX.out, ← HRE.out]
          unfold hiS
          rw [← HB.out]
          rfl
        case measure => simp [intOf]; omega
      · cases hET : decide (E < T)
        · go_wp2
          go_roundw
          case rel =>
            refine ⟨k1 + 1, E, hlt, by go_num, rfl, G6.out, ?_⟩
            rw [DX.out, ← HRE.out]
            unfold hiS
            rw [← HB.out, if_pos rfl, HT.out]
            have := of_decide_eq_false hET
            omega
          case measure => simp [intOf]; omega
        · go_wp2
          go_roundw
          case rel =>
            refine ⟨k1 + 1, T, hlt, by go_num, rfl, G6.out, ?_⟩
            rw [DX.out, ← HRE.out]
            unfold hiS
            rw [← HB.out, if_pos rfl, HT.out]
            have := of_decide_eq_true hET
            omega
          case measure => simp [intOf]; omega
    · have hk' : k1 = l.length := by omega
      subst hk'
      have dl : decide ((l.length : Int) < (l.length : Int)) = false := by simp
      have HF : r = E := by rw [hre, DE.out]; exact HR.out
      clear hg hre
      generalize l.length = N at *
      go_wp2
      go_ret
      exact ⟨ret_int HF.symm, grown_trans G.out G3.out⟩
theorem find_take {l : List Sg} (hl : l.map Sg.seg = s.segs) {k : Nat} (h : ∀ j y, j < k → l[j]? = some y → laidS y.seg = false) : (∀ x, l[k]? = some x → laidS x.seg = true → lowN s.segs = x.seg.addr) ∧ (k = l.length → lowN s.segs = 0) := by
  constructor
  · intro x hx hp
    have : s.segs.find? laidS = some x.seg := by
      rw [← hl, List.find?_map]
      obtain ⟨hk, he⟩ := List.getElem?_eq_some_iff.1 hx
      have : l.find? (laidS ∘ Sg.seg) = some x := by
        rw [List.find?_eq_some_iff_getElem]
        exact ⟨hp, k, hk, he, fun j hj => by show (!laidS _) = true; rw [h j _ hj (List.getElem?_eq_getElem (Nat.lt_trans hj hk))]; rfl⟩
      rw [this]; rfl
    unfold lowN; rw [this]
  · intro hk
    have : s.segs.find? laidS = none := by
      rw [← hl, List.find?_eq_none]
      intro y hy
      obtain ⟨z, hz, rfl⟩ := List.mem_map.1 hy
      obtain ⟨j, hj, rfl⟩ := List.getElem_of_mem hz
      rw [h j _ (by omega) (List.getElem?_eq_getElem hj)]; simp
    unfold lowN; rw [this]
set_option maxRecDepth 20000 in
theorem rLow_any {l : List Sg} {qs : Option Addr} {cs : Nat} (k : ImgRows w s l qs cs) : Calls Tryz.prog 49 #[imgV h s (.slice qs l.length cs) dv] w fun e w' => e = .returned (.int .u64 (lowN s.segs)) ∧ w.grownBy w' none := by
  have gB := grown1 w (.cells (imgArr h s (.slice qs l.length cs) dv) 41)
  have aA : ImgAt (w.alloc (.cells (imgArr h s (.slice qs l.length cs) dv) 41)) w.heap.size h s (.slice qs l.length cs) dv := heap_alloc_new w _
  obtain ⟨W, hW⟩ : ∃ W, w.alloc (.cells (imgArr h s (.slice qs l.length cs) dv) 41) = W := ⟨_, rfl⟩
  obtain ⟨b, hb⟩ : ∃ b, w.heap.size = b := ⟨_, rfl⟩
  rw [hW] at gB aA
  rw [hb] at aA
  have RW := Lib.hid (fun (V : World) (hg : W.grownBy V none) => (k.grown gB).row.grown hg)
  have G := Lib.hid gB
  have AA := Lib.hid aA
  have FT := Lib.hid (fun (k1 : Nat) => find_take (k := k1) k.segs)
  have CP := Lib.hid k.cap
  have FW := Lib.hid k.few
  obtain ⟨r, hr⟩ : ∃ r, r = lowN s.segs := ⟨_, rfl⟩
  rw [← hr]
  have HR := Lib.hid hr
  clear k gB aA hr
  rw [show imgV h s (.slice qs l.length cs) dv = .agg (imgArr h s (.slice qs l.length cs) dv) from rfl]
  unfold imgArr at hW ⊢
  go_enter Tryz.func49, Tryz.ntmps49
  go_upto_region 1 with fail
  clear hW hb
  go_wp2
  go_loopw [3] (fun i wr => ∃ k1 : Nat, k1 ≤ l.length ∧ i = .int .i64 k1 ∧ W.grownBy wr none ∧ ∀ j y, j < k1 → l[j]? = some y → laidS y.seg = false) (fun i _ => l.length - (intOf i).toNat)
  case atStart => exact ⟨0, Nat.zero_le _, rfl, grown_refl _ _, fun j y hj => by omega⟩
  case round =>
    obtain ⟨k1, hk, rfl, hg, hno⟩ := hrel
    have NO := Lib.hid hno
    have G3 := Lib.hid hg
    have c4 := (AA.out.kept hg (by simp)).c 4 (.slice qs l.length cs) rfl
    have gl := lt_of_block (AA.out.kept hg (by simp))
    by_cases hlt : k1 < l.length
    · obtain ⟨x, hx⟩ : ∃ x, l[k1]? = some x := ⟨_, List.getElem?_eq_getElem hlt⟩
      obtain ⟨g, rfl, a0, a1, a2, a3, a4, a5, a6⟩ := (RW.out wr hg).at hx
      have RX := Lib.hid (fun (V : World) (hv : W.grownBy V none) => (RW.out V hv).at hx)
      have dl : decide ((k1 : Int) < (l.length : Int)) = true := by simp; omega
      have hkl : (k1 : Int) < (l.length : Int) := by omega
      have LD := Lib.hid (fun (V : World) => hole_any (w := V) x.seg x.q x.seg.secs.length x.c)
      obtain ⟨bx, hbx⟩ : ∃ bx, bx = laidS x.seg := ⟨_, rfl⟩
      rw [← hbx] at LD
      have HB := Lib.hid hbx
      have HX := Lib.hid hx
      obtain ⟨⟨nm, ad, sz, of, fs, pr, sl⟩, q1, c1⟩ := x
      simp only [] at a0 a1 a2 a3 a4 a5 a6 LD
      unfold segV segArr at LD
      have hcp : l.length ≤ cs := CP.out
      have hfw : l.length ≤ 9223372036854775807 := FW.out
      clear hg hx hno hbx
      generalize hN : l.length = N at *
      clear hN
      go_wp2_with fail
      refine (LD.out _).mono ?_
      rintro e w6 ⟨rfl, hg⟩
      have G6 := Lib.hid (grown_trans G3.out hg)
      have c4 := grown_cell hg c4
      have gl := Nat.lt_of_lt_of_le gl hg.size
      have a1 := grown_cell hg a1
      clear hg
      cases bx
      · go_wp2
        go_roundw
        case rel =>
          refine ⟨k1 + 1, hlt, by go_num, G6.out, fun j y hj hy => ?_⟩
          rcases Nat.lt_or_ge j k1 with h1 | h1
          · exact NO.out j y h1 hy
          · obtain rfl : j = k1 := by omega
            rw [HX.out] at hy
            injection hy with hy
            rw [← hy]; exact HB.out.symm
        case measure => simp [intOf]; omega
      · go_wp2
        go_ret
        exact ⟨ret_int (HR.out.trans ((FT.out k1 NO.out).1 _ HX.out HB.out.symm)).symm, grown_trans G.out G6.out⟩
    · have hk' : k1 = l.length := by omega
      subst hk'
      have dl : decide ((l.length : Int) < (l.length : Int)) = false := by simp
      have HF : r = 0 := HR.out.trans ((FT.out _ hno).2 rfl)
      clear hg hno
      generalize l.length = N at *
      go_wp2
      go_ret
      exact ⟨ret_int HF.symm, grown_trans G.out G3.out⟩
end Go.Proofs.YtdagnkdonlfobaaGreat
