import Derived.Test.YtblfighfahffkaaT6
import Derived.Test.YtblfighfahffkaaT9
import Derived.Test.YtblfighfahffkaaT3
/- What the document finds for a name: clevisref09.Find. No condition but that the bytes lie in memory. -/
namespace Go.Proofs.Ytblfighfahffkaa
open Go.RowKit
variable {w w' W V : World} {xs : List Int}

def strN : Value → Nat
  | .string s => s.size
  | _ => 0
/-- What a walk for a name answers. -/
def fiV (r : Int × (Nat × Option Ex)) : Int × Option Ex := (r.1, r.2.2)
theorem visK_lead {S : Type} {rec : List Int → Int → Nat × S → Int × (Nat × S)} (name : List Int) (l : List Kid) (rest : List Int) (st : Nat × S) :
    visK rec name (leadN l rest) 0 st = match l.find? (fun k => pfx k.1 rest) with
      | none => (0, st)
      | some x => rec (name ++ x.1) x.2 st := by
  unfold leadN
  cases l.find? (fun k => pfx k.1 rest) with
  | none => rfl
  | some x =>
    simp only [visK]
    by_cases h : (rec (name ++ x.1) x.2 st).1 = 0
    · rw [if_neg (fun e => e h)]
      exact Prod.ext h.symm rfl
    · rw [if_pos h]
theorem visF_go {t : List Int} {k m j : Nat} {way : List Int} {pl : Int} (hj : j ≤ t.length) (ht : t.length ≤ 255) (hm : m ≤ 8000) :
    vis xs (mtFind t) (k + 1) way (t.take j) pl (m, none) = if pl ∈ way then (12, (m + 1, none)) else match ndAt xs pl with
      | none => (12, (m + 1, none))
      | some nd => if t.drop j = [] then (0, (m + 1, nd.ex)) else match nd.kids.find? (fun k => pfx k.1 (t.drop j)) with
        | none => (0, (m + 1, none))
        | some x => vis xs (mtFind t) k (way ++ [pl]) (t.take j ++ x.1) x.2 (m + 1, none) := by
  have hl : (t.take j).length = j := by rw [List.length_take]; omega
  rw [vis_go (by omega)]
  by_cases h1 : pl ∈ way
  · rw [if_pos h1, if_pos h1]
  rw [if_neg h1, if_neg h1, if_neg (by omega)]
  cases ndAt xs pl with
  | none => rfl
  | some nd =>
    simp only []
    by_cases h2 : t.drop j = []
    · have e : mtFind t none (t.take j) nd = (nd.ex, [], 0) := if_pos (by rw [hl]; exact h2)
      rw [if_pos h2, e]
      rfl
    · have e : mtFind t none (t.take j) nd = (none, leadN nd.kids (t.drop j), 0) := by
        have e : mtFind t none (t.take j) nd = (none, leadN nd.kids (t.drop (t.take j).length), 0) := if_neg (by rw [hl]; exact h2)
        rw [e, hl]
      rw [if_neg h2, e]
      exact visK_lead _ _ _ _
theorem find_first {α : Type} {f : α → Bool} : ∀ {l : List α} {i : Nat} {x : α}, (∀ j y, j < i → l[j]? = some y → f y = false) → l[i]? = some x → f x = true → l.find? f = some x
  | [], _, _, _, h, _ => by simp at h
  | a :: l, 0, x, _, h, hf => by
    injection h with h
    subst h
    rw [List.find?_cons, hf]
  | a :: l, i + 1, x, hn, h, hf => by
    rw [List.find?_cons, hn 0 a (by omega) rfl]
    exact find_first (fun j y hj hy => hn (j + 1) y (by omega) hy) h hf
theorem find_none {α : Type} {f : α → Bool} {l : List α} (h : ∀ j y, j < l.length → l[j]? = some y → f y = false) : l.find? f = none := by
  rw [List.find?_eq_none]
  intro x hx
  obtain ⟨i, hi, rfl⟩ := List.getElem_of_mem hx
  rw [h i _ hi (List.getElem?_eq_getElem hi)]
  simp
/-- A walk for a name, in the midst of it. -/
structure FnLp (w w1 : World) (g0 : Nat) (xs t : List Int) (R : Int × Option Ex) (vw va vr : Value) (wr : World) : Prop where
  ex : ∃ (k j : Nat) (way : List Int) (pl : Int) (qw : Option Addr) (cw : Nat), vw = .slice qw way.length cw ∧ va = .int .i64 (rk xs.length pl) ∧ vr = .string (strOfNums (t.drop j)) ∧ wr.ownsRow w1.heap.size 3 1 (.slice qw way.length cw) way.length (way.flatMap intCs) ∧ way.length ≤ j ∧ j ≤ t.length ∧ 256 ≤ k + j ∧ 0 ≤ pl ∧ (∀ x ∈ way, 0 ≤ x ∧ x < xs.length) ∧ R = fiV (vis xs (mtFind t) k way (t.take j) pl (way.length, none))
  res : ExAt wr g0 ⟨#[]⟩ Ex.zero
  grown : w.grownBy wr none
/-- The answer. -/
def fiE (t : List Int) (R : Int × Option Ex) : Ending := .returned (.tuple #[exV (nmOf (strOfNums t) R.2) (exOf R.2), .bool R.2.isSome, .int .i64 R.1])

set_option maxRecDepth 20000 in
set_option maxHeartbeats 3200000 in
theorem refFind_any {q : Option Addr} {c n : Nat} (h : IsBytes w q c xs) (hn : xs.length = n) (hb : Byt xs) (hc : n ≤ c) (hcm : c ≤ 9223372036854775807) (hbig : n ≤ 140737488355328) (t : List Int) (ht : Byt t) (htl : t.length ≤ 9223372036854775807) :
    Calls Try.prog 12 #[.slice q n c, .string (strOfNums t)] w fun e w' => FiOut w w' xs t e := by
  have g1 := grown1 w (.cells #[.string ⟨#[]⟩, .int .i64 0, .bool false, .int .u64 0, .int .u64 0, .int .u64 0, .string ⟨#[]⟩] 33)
  have r1 : ExAt (w.alloc (.cells #[.string ⟨#[]⟩, .int .i64 0, .bool false, .int .u64 0, .int .u64 0, .int .u64 0, .string ⟨#[]⟩] 33)) w.heap.size ⟨#[]⟩ Ex.zero := heap_alloc_new w _
  obtain ⟨w1, hw1⟩ : ∃ w1, w.alloc (.cells #[.string ⟨#[]⟩, .int .i64 0, .bool false, .int .u64 0, .int .u64 0, .int .u64 0, .string ⟨#[]⟩] 33) = w1 := ⟨_, rfl⟩
  obtain ⟨g0, hg0⟩ : ∃ g0, w.heap.size = g0 := ⟨_, rfl⟩
  rw [hw1] at g1 r1
  rw [hg0] at r1
  have R1 := Lib.hid r1
  have G1 := Lib.hid g1
  have HW1 := Lib.hid hw1
  have HG0 := Lib.hid hg0
  have LG := Lib.hid (show w.heap.size ≤ g0 by omega)
  have W1S := Lib.hid (show w1.heap.size = g0 + 1 by rw [← hw1, World.size_alloc, hg0])
  have hst : (strOfNums t).size = t.length := strOfNums_size _
  obtain ⟨d0, d1, d2, d3, d4, d5, d6⟩ := r1.c
  have df := r1.fz
  have dll := r1.lt
  clear g1 r1 hw1 hg0
  by_cases hl : 255 < t.length
  · have FW := Lib.hid (show findW xs t = (10, none) from if_pos hl)
    have dl : decide ((255 : Int) < (t.length : Int)) = true := by simp; omega
    clear hl h hn hb ht
    go_enter Try.func12, Try.ntmps12
    go_upto_region 1 with fail
    rw [HW1.out, HG0.out]
    go_wp2
    refine bodyPost_ret (results_ex3 rfl rfl rfl rfl (R1.out.put ⟨#[]⟩ Ex.zero)) rfl ?_
    exact ⟨by rw [FW.out]; rfl, grown_new G1.out (grown_put7 (grown_refl _ (some g0)) _ _ _ _ _ _ _) LG.out⟩
  have dl : decide ((255 : Int) < (t.length : Int)) = false := by simp; omega
  by_cases hx : xs = []
  · have FW := Lib.hid (show findW xs t = (0, none) by unfold findW walkN; rw [if_neg hl, if_pos hx])
    have h0 : ((n : Int) == 0) = true := by rw [← hn, hx]; rfl
    clear hl h hn hb ht hx
    go_enter Try.func12, Try.ntmps12
    go_upto_region 1 with fail
    rw [HW1.out, HG0.out]
    go_wp2
    refine bodyPost_ret (results_ex3 rfl rfl rfl rfl (R1.out.put ⟨#[]⟩ Ex.zero)) rfl ?_
    exact ⟨by rw [FW.out]; rfl, grown_new G1.out (grown_put7 (grown_refl _ (some g0)) _ _ _ _ _ _ _) LG.out⟩
  have hpos : 0 < xs.length := by cases xs with | nil => exact absurd rfl hx | cons => simp
  obtain ⟨b, o, rfl, hcell⟩ := h.2 hpos
  have hbl : b < w.heap.size := by
    have := World.block_lt_of_cell? w _ (hcell 0 hpos)
    exact this
  have h0 : ((n : Int) == 0) = false := by simp; omega
  obtain ⟨R, hR⟩ : ∃ R, R = findW xs t := ⟨_, rfl⟩
  have HR := Lib.hid hR
  have hR2 : R = fiV (vis xs (mtFind t) 257 [] [] 0 (0, none)) := by
    rw [hR]; unfold findW walkN
    rw [if_neg hl, if_neg hx]; rfl
  have HB := Lib.hid (fun (V : World) (hg : w.grownBy V none) i hi => grown_cell hg (hcell i hi))
  have ENT := Lib.hid (show FnLp w w1 g0 xs t R (.slice none 0 0) (.int .i64 0) (.string (strOfNums t)) w1 from
    ⟨⟨257, 0, [], 0, none, 0, rfl, by unfold rk; rw [if_pos (by omega)], rfl, World.ownsRow_nil _ _ _ _, Nat.le_refl _, Nat.zero_le _, by decide, Int.le_refl _, fun x hx => (by cases hx), hR2⟩, R1.out, G1.out⟩)
  have HL := Lib.hid (And.intro hbl (And.intro hb (And.intro ht (show t.length ≤ 255 by omega))))
  have hzero : decide ((rk xs.length 0 : Int) < 0) = false := by unfold rk; rw [if_pos (by omega)]; rfl
  clear hR2 hR hcell hpos h hx hb ht hbl hzero
  go_enter Try.func12, Try.ntmps12
  go_upto_region 1 with fail
  rw [HW1.out, HG0.out]
  clear d0 d1 d2 d3 d4 d5 d6 df dll
  go_upto_region 7 with fail
  go_loopw [7, 8, 9] (fun vw va vr wr => FnLp w w1 g0 xs t R vw va vr wr) (fun _ _ vr _ => strN vr)
  case atStart => exact ENT.out
  case round =>
    obtain ⟨⟨k0, j, way, pl, qw, cw, rfl, rfl, rfl, oo, hway, hj, hk, hp0, hwr, hR⟩, hres, hg⟩ := hrel
    obtain ⟨k, rfl⟩ : ∃ k, k0 = k + 1 := ⟨k0 - 1, by have := HL.out.2.2.2; omega⟩
    have RS := Lib.hid hres
    have G := Lib.hid hg
    have OO := Lib.hid oo
    have HWR := Lib.hid hwr
    have hR2 := hR
    rw [visF_go hj HL.out.2.2.2 (by have := HL.out.2.2.2; omega)] at hR2
    have HR2 := Lib.hid hR2
    have hj5 : j ≤ 255 := by have := HL.out.2.2.2; omega
    have CT := Lib.hid (fun (V : World) (hv : wr.grownBy V none) => has_any (w := V) way way.length rfl (by omega) qw cw ((IntAt.of oo).grown hv) (rk xs.length pl))
    obtain ⟨d0, d1, d2, d3, d4, d5, d6⟩ := RS.out.c
    have df := RS.out.fz
    have dll := RS.out.lt
    have ZR := Lib.hid (fun (V : World) (er : Int) (hR : R = (er, none)) (hv : wr.grownBy V none) (hr : ExAt V g0 ⟨#[]⟩ Ex.zero) => (show FiOut w (((((((V.setCell ⟨g0, 0, none⟩ (.string ⟨#[]⟩)).setCell ⟨g0, 1, none⟩ (.int .i64 Ex.zero.kind)).setCell ⟨g0, 2, none⟩ (.bool Ex.zero.weak)).setCell ⟨g0, 3, none⟩ (.int .u64 Ex.zero.value)).setCell ⟨g0, 4, none⟩ (.int .u64 Ex.zero.resolver)).setCell ⟨g0, 5, none⟩ (.int .u64 Ex.zero.ordinal)).setCell ⟨g0, 6, none⟩ (.string (strOfNums Ex.zero.other))) xs t (.returned (.tuple #[exV ⟨#[]⟩ Ex.zero, .bool false, .int .i64 er])) from
      ⟨by rw [← HR.out, hR]; rfl, grown_new (grown_trans G.out hv) (grown_put7 (grown_refl V (some g0)) _ _ _ _ _ _ _) LG.out⟩))
    clear hres hg oo hwr hR hR2
    by_cases hpl : pl < xs.length
    case neg =>
      have ha : rk xs.length pl = -1 := by unfold rk; rw [if_neg hpl]
      rw [ha]
      have ER : R = (12, none) := by
        have h := HR2.out
        have hnd : ndAt xs pl = none := by unfold ndAt; rw [if_neg (fun h => hpl h.2)]
        rw [hnd] at h
        split at h <;> exact h
      have F := Lib.hid (ZR.out wr 12 ER (grown_refl _ _) RS.out)
      clear hpl ER ha
      go_wp2
      (try simp only [Exit.inBlock, Exit.then])
      refine bodyPost_ret (results_ex3 rfl rfl rfl rfl (RS.out.put ⟨#[]⟩ Ex.zero)) rfl ?_
      exact F.out
    case pos =>
    obtain ⟨p, rfl⟩ : ∃ p : Nat, pl = (p : Int) := ⟨pl.toNat, by omega⟩
    have ha : rk xs.length (p : Int) = (p : Int) := by unfold rk; rw [if_pos hpl]
    rw [ha] at CT ⊢
    have da : decide ((p : Int) < 0) = false := by simp
    have PL := Lib.hid hpl
    clear hpl ha
    go_wp2_with fail
    refine (CT.out wr (grown_refl _ _)).mono ?_
    rintro e W1' ⟨rfl, hw'⟩
    have hw2 := hw'.symm
    subst hw2
    clear hw' CT
    by_cases hin : (p : Int) ∈ way
    · have ER : R = (12, none) := by
        have h := HR2.out
        rw [if_pos hin] at h
        exact h
      have F := Lib.hid (ZR.out wr 12 ER (grown_refl _ _) RS.out)
      rw [show decide ((p : Int) ∈ way) = true from decide_eq_true hin]
      clear hin ER
      go_wp2
      (try simp only [Exit.inBlock, Exit.then])
      refine bodyPost_ret (results_ex3 rfl rfl rfl rfl (RS.out.put ⟨#[]⟩ Ex.zero)) rfl ?_
      exact F.out
    have HR3 := Lib.hid (HR2.out.trans (by rw [if_neg hin]))
    rw [show decide ((p : Int) ∈ way) = false from decide_eq_false hin]
    clear hin HR2
    have RD := Lib.hid (read9_any (w := wr) (HB.out wr G.out) (by omega) hcm (Nat.lt_of_lt_of_le HL.out.1 G.out.size) (by omega) HL.out.2.1 p (by have := PL.out; omega))
    rw [hn] at RD
    go_wp2_with fail
    refine RD.out.mono ?_
    rintro e W2 ⟨hex, hg2⟩
    clear RD da d0 d1 d2 d3 d4 d5 d6 df dll
    have G2 := Lib.hid hg2
    rcases hex with ⟨nd, v, hnd, rfl, ho⟩ | ⟨hnd, rfl⟩
    case inr =>
      have ER : R = (12, none) := by have h := HR3.out; rw [hnd] at h; exact h
      have gz := fun (o : Obj) => grown_trans G2.out (grown1 W2 o)
      have F := Lib.hid (fun (o : Obj) => ZR.out _ 12 ER (gz o) (RS.out.kept (gz o) (by simp)))
      have RZ := Lib.hid (fun (o : Obj) => RS.out.kept (gz o) (by simp))
      clear hnd hg2 gz
      unfold nodeV
      obtain ⟨d0, d1, d2, d3, d4, d5, d6⟩ := (RZ.out (.cells #[.bool false, .string ⟨#[]⟩, .int .i64 Ex.zero.kind, .bool Ex.zero.weak, .int .u64 Ex.zero.value, .int .u64 Ex.zero.resolver, .int .u64 Ex.zero.ordinal, .string (strOfNums Ex.zero.other), .slice none 0 0] 65 (0, 0))).c
      have df := (RZ.out (.cells #[.bool false, .string ⟨#[]⟩, .int .i64 Ex.zero.kind, .bool Ex.zero.weak, .int .u64 Ex.zero.value, .int .u64 Ex.zero.resolver, .int .u64 Ex.zero.ordinal, .string (strOfNums Ex.zero.other), .slice none 0 0] 65 (0, 0))).fz
      have dll := (RZ.out (.cells #[.bool false, .string ⟨#[]⟩, .int .i64 Ex.zero.kind, .bool Ex.zero.weak, .int .u64 Ex.zero.value, .int .u64 Ex.zero.resolver, .int .u64 Ex.zero.ordinal, .string (strOfNums Ex.zero.other), .slice none 0 0] 65 (0, 0))).lt
      go_wp2
      (try simp only [Exit.inBlock, Exit.then])
      refine bodyPost_ret (results_ex3 rfl rfl rfl rfl ((RZ.out _).put ⟨#[]⟩ Ex.zero)) rfl ?_
      exact F.out _
    case inl =>
      rw [hnd] at HR3
      have NK := Lib.hid (ndAt_ok HL.out.2.1 hnd)
      obtain ⟨qn, cn, rfl⟩ := own_slice ho
      have NV := Lib.hid (fun g (e : (Value.slice qn nd.kids.length cn).ownBlock = some g) => (ho.lt g e))
      have HC := Lib.hid HR3.out
      simp only [] at HC
      clear HR3 hnd
      have g3 := grown1 W2 (.cells #[.bool nd.ex.isSome, .string ⟨#[]⟩, .int .i64 (exOf nd.ex).kind, .bool (exOf nd.ex).weak, .int .u64 (exOf nd.ex).value, .int .u64 (exOf nd.ex).resolver, .int .u64 (exOf nd.ex).ordinal, .string (strOfNums (exOf nd.ex).other), .slice qn nd.kids.length cn] 65)
      have N3 := Lib.hid (show NodeR (W2.alloc (.cells #[.bool nd.ex.isSome, .string ⟨#[]⟩, .int .i64 (exOf nd.ex).kind, .bool (exOf nd.ex).weak, .int .u64 (exOf nd.ex).value, .int .u64 (exOf nd.ex).resolver, .int .u64 (exOf nd.ex).ordinal, .string (strOfNums (exOf nd.ex).other), .slice qn nd.kids.length cn] 65)) W2.heap.size nd.ex.isSome ⟨#[]⟩ (exOf nd.ex) (.slice qn nd.kids.length cn) from heap_alloc_new W2 _)
      have G3 := Lib.hid (grown_trans G2.out g3)
      have KD3 := Lib.hid (KidsR.of (l := nd.kids.map (rkid xs.length)) (own_grown ho g3))
      unfold nodeV
      obtain ⟨nb, hnb⟩ : ∃ x, x = nd.ex.isSome := ⟨_, rfl⟩
      obtain ⟨nx, hnx⟩ : ∃ x, x = exOf nd.ex := ⟨_, rfl⟩
      obtain ⟨kl, hkl⟩ : ∃ x, x = nd.kids.length := ⟨_, rfl⟩
      rw [← hnb, ← hnx, ← hkl] at N3 G3 KD3
      rw [← hkl] at NV
      rw [← hnb, ← hnx, ← hkl]
      have EQ := Lib.hid (And.intro hnb (And.intro hnx hkl))
      clear hnb hnx hkl g3 ho hg2
      obtain ⟨W3, hW3⟩ : ∃ W3, W2.alloc (.cells #[.bool nb, .string ⟨#[]⟩, .int .i64 nx.kind, .bool nx.weak, .int .u64 nx.value, .int .u64 nx.resolver, .int .u64 nx.ordinal, .string (strOfNums nx.other), .slice qn kl cn] 65) = W3 := ⟨_, rfl⟩
      obtain ⟨gn, hgn⟩ : ∃ gn, W2.heap.size = gn := ⟨_, rfl⟩
      rw [hW3] at N3 G3 KD3
      rw [hgn] at N3
      have HW3 := Lib.hid hW3
      have HGN := Lib.hid hgn
      have HGN2 := Lib.hid hgn
      clear hW3 hgn
      go_upto_region 12 with fail
      rw [HW3.out, HGN.out]
      clear HW3 HGN
      have g4 := grown1 W3 (.cells #[.int .i64 (p : Int)] 3)
      have O4 := Lib.hid (own_grown (own_grown OO.out G3.out) g4)
      have N4 := Lib.hid (heap_alloc_new W3 (.cells #[.int .i64 (p : Int)] 3))
      have G4 := Lib.hid (grown_trans G3.out g4)
      have SZ := Lib.hid (show w1.heap.size ≤ wr.heap.size by have := RS.out.lt; have := W1S.out; omega)
      clear g4
      go_wp2_with (at_builtin; refine wp_append_sta intType rfl _ _ rfl _ way.length _ rfl O4.out [.int .i64 (p : Int)] rfl W3.heap.size rfl N4.out (fun u hu => by simp at hu; subst hu; rfl) (by omega) (by decide) ?_ ?_)
      · have := G4.out.size; have := SZ.out; omega
      intro v' W5 ho5 hg5 hv5
      obtain ⟨q5, c5, rfl⟩ := own_slice ho5
      have G5 := Lib.hid (grown_opt (grown_trans G.out G4.out) hg5 (fun g e => by have := (O4.out.lt g e).1; have := W1S.out; have := LG.out; omega))
      have res4 := RS.out.kept G4.out (by simp)
      have nd4 := N3.out.kept (show W3.grownBy _ none from grown1 W3 (.cells #[.int .i64 (p : Int)] 3)) (by simp)
      have R5 := Lib.hid (res4.kept hg5 (own_ne O4.out res4 (by decide)))
      have N5 := Lib.hid (nd4.kept hg5 (own_ne O4.out nd4 (by decide)))
      have KD5 := Lib.hid (show KidsR W5 qn (nd.kids.map (rkid xs.length)) from fun i y hy => by
        obtain ⟨g, e, a0, a1⟩ := KD3.out i y hy
        have h1 := (NV.out g (by rw [e]; rfl)).1
        have hne : (some g : Option Nat) ≠ (Value.slice qw way.length cw).ownBlock := by
          intro e2
          have h2 := (OO.out.lt g e2.symm).2
          omega
        have g4 := grown1 W3 (.cells #[.int .i64 (p : Int)] 3)
        exact ⟨g, e, hg5.cell (grown_cell g4 a0) hne, hg5.cell (grown_cell g4 a1) hne⟩)
      have hfl : way.flatMap intCs ++ [.int .i64 (p : Int)] = (way ++ [(p : Int)]).flatMap intCs := by rw [List.flatMap_append, List.flatMap_singleton]; rfl
      rw [hfl] at ho5
      have O5 := Lib.hid ho5
      have LGN := Lib.hid (show g0 < gn by have := HGN2.out; have := RS.out.lt; have := G2.out.size; omega)
      have NE := Lib.hid (show gn ≠ g0 by have := HGN2.out; have := RS.out.lt; have := G2.out.size; omega)
      clear ho5 hg5 hv5 hfl res4 nd4 O4 N4 G4 KD3 N3 G3 G2 NV HGN2 OO SZ
      obtain ⟨SN, hSN⟩ : ∃ SN, SN = strOfNums t := ⟨_, rfl⟩
      rw [← hSN] at hst ⊢
      have HSN := Lib.hid hSN
      clear hSN
      by_cases hr : t.drop j = []
      · have he : (strOfNums (t.drop j)).toList.isEmpty = true := by rw [hr, Lib.strOfNums_toList]; rfl
        have ER : R = (0, nd.ex) := by have h := HC.out; rw [if_pos hr] at h; exact h
        have ERH := Lib.hid ER
        obtain ⟨rest, hrest⟩ : ∃ rest, rest = strOfNums (t.drop j) := ⟨_, rfl⟩
        rw [← hrest] at he ⊢
        clear hr ER hrest
        have FIN := Lib.hid (fun (W : World) (nm : ByteArray) (hnm : nm = nmOf SN nd.ex) (hw : w.grownBy W none) => (show (Ending.returned (.tuple #[exV nm nx, .bool nb, .int .i64 0]) = .returned (.tuple #[exV (nmOf (strOfNums t) (findW xs t).2) (exOf (findW xs t).2), .bool (findW xs t).2.isSome, .int .i64 (findW xs t).1])) ∧ w.grownBy ((((((((W.setCell ⟨g0, 0, none⟩ (.string nm)).setCell ⟨g0, 1, none⟩ (.int .i64 nx.kind)).setCell ⟨g0, 2, none⟩ (.bool nx.weak)).setCell ⟨g0, 3, none⟩ (.int .u64 nx.value)).setCell ⟨g0, 4, none⟩ (.int .u64 nx.resolver)).setCell ⟨g0, 5, none⟩ (.int .u64 nx.ordinal)).setCell ⟨g0, 6, none⟩ (.string (strOfNums nx.other))).drewN 1) none from
          ⟨by rw [← HR.out, ERH.out, hnm, EQ.out.1, EQ.out.2.1, HSN.out], grown_drewN (grown_new hw (grown_put7 (grown_refl W (some g0)) _ _ _ _ _ _ _) LG.out) 1⟩))
        cases hex : nd.ex with
        | none =>
          have e0 : nb = false := by rw [EQ.out.1, hex]; rfl
          have F := Lib.hid (FIN.out W5 ⟨#[]⟩ (by rw [hex]; rfl) G5.out)
          have P := Lib.hid (R5.out.put ⟨#[]⟩ nx)
          subst e0
          obtain ⟨d0, d1, d2, d3, d4, d5, d6⟩ := R5.out.c
          have df := R5.out.fz
          have dll := R5.out.lt
          obtain ⟨e0, e1, e2, e3, e4, e5, e6, e7, e8⟩ := N5.out.c
          have el := N5.out.lt
          have ne1 : ¬ gn = g0 := NE.out
          have ne2 : ¬ g0 = gn := fun e => NE.out e.symm
          clear hex
          go_upto_region 16 with fail
          go_region
          go_wp2
          (try simp only [Exit.inBlock, Exit.then])
          refine bodyPost_ret (results_ex3 rfl rfl rfl rfl P.out.drewF) rfl ?_
          exact ⟨F.out.1, F.out.2⟩
        | some x =>
          have e0 : nb = true := by rw [EQ.out.1, hex]; rfl
          have g6 := grown_setCell (i := 1) (grown_refl W5 (some gn)) (.string SN)
          have r6 := R5.out.kept g6 (by intro e; injection e with e; exact NE.out e)
          have n6 := N5.out.s1 SN
          have gw6 := grown_new G5.out g6 (by have := LG.out; have := LGN.out; omega)
          obtain ⟨W6, hW6⟩ : ∃ W6, W5.setCell ⟨gn, 1, none⟩ (.string SN) = W6 := ⟨_, rfl⟩
          rw [hW6] at g6 r6 n6 gw6
          have F := Lib.hid (FIN.out W6 SN (by rw [hex]; rfl) gw6)
          have P := Lib.hid (r6.put SN nx)
          subst e0
          have R6 := Lib.hid r6
          have N6 := Lib.hid n6
          have HW6 := Lib.hid hW6
          obtain ⟨e0, e1, e2, e3, e4, e5, e6, e7, e8⟩ := N5.out.c
          have el := N5.out.lt
          have ef := N5.out.fz 1
          clear hex g6 r6 n6 gw6 hW6
          go_upto_region 16 with fail
          rw [HW6.out]
          clear e0 e1 e2 e3 e4 e5 e6 e7 e8 el ef
          obtain ⟨d0, d1, d2, d3, d4, d5, d6⟩ := R6.out.c
          have df := R6.out.fz
          have dll := R6.out.lt
          obtain ⟨e0, e1, e2, e3, e4, e5, e6, e7, e8⟩ := N6.out.c
          have el := N6.out.lt
          have ne1 : ¬ gn = g0 := NE.out
          have ne2 : ¬ g0 = gn := fun e => NE.out e.symm
          go_region
          go_wp2
          (try simp only [Exit.inBlock, Exit.then])
          refine bodyPost_ret (results_ex3 rfl rfl rfl rfl P.out.drewF) rfl ?_
          exact ⟨F.out.1, F.out.2⟩
      · have he : (strOfNums (t.drop j)).toList.isEmpty = false := by
          rw [Lib.strOfNums_toList]
          cases hd : t.drop j with
          | nil => exact absurd hd hr
          | cons => rfl
        have HC2 := Lib.hid (show R = fiV (match nd.kids.find? (fun k => pfx k.1 (t.drop j)) with
          | none => (0, (way.length + 1, none))
          | some x => vis xs (mtFind t) k (way ++ [(p : Int)]) (t.take j ++ x.1) x.2 (way.length + 1, none)) by have h := HC.out; rw [if_neg hr] at h; exact h)
        obtain ⟨rest, hrest⟩ : ∃ rest, rest = t.drop j := ⟨_, rfl⟩
        rw [← hrest] at HC2 he ⊢
        have hrl : rest.length = t.length - j := by rw [hrest, List.length_drop]
        have HREST := Lib.hid hrest
        have hsr : (strOfNums rest).size = rest.length := strOfNums_size _
        have hr255 : rest.length ≤ 255 := by have := HL.out.2.2.2; omega
        have d8 := N5.out.c.2.2.2.2.2.2.2.2
        have dln := N5.out.lt
        have HRL := Lib.hid hrl
        have HN := Lib.hid hn
        clear hr hrest HC hrl hn
        go_upto_region 19 with fail
        go_loopw [9, 12, 13] (fun vr vn vi wl => ∃ i : Nat, i ≤ nd.kids.length ∧ vi = .int .i64 i ∧ vn = .int .i64 (-2) ∧ vr = .string (strOfNums rest) ∧ wl = W5 ∧ Hid (∀ j' y, j' < i → nd.kids[j']? = some y → pfx y.1 rest = false)) (fun _ _ vi _ => nd.kids.length - (intOf vi).toNat)
        case atStart => exact ⟨0, Nat.zero_le _, rfl, rfl, rfl, rfl, Lib.hid (fun j' y h => by omega)⟩
        case round =>
          obtain ⟨i, hi, rfl, rfl, rfl, hwl, NO⟩ := hrel
          have hwl2 := hwl.symm
          subst hwl2
          clear hwl
          by_cases hlt : i < nd.kids.length
          · obtain ⟨x, hx⟩ : ∃ x, nd.kids[i]? = some x := ⟨_, List.getElem?_eq_getElem hlt⟩
            have KO := Lib.hid (NK.out.kids.each x (List.mem_of_getElem? hx))
            have HX := Lib.hid hx
            have hxL : (nd.kids.map (rkid xs.length))[i]? = some (rkid xs.length x) := by rw [List.getElem?_map, hx]; rfl
            obtain ⟨gq, rfl, c0, c1⟩ := KD5.out i _ hxL
            obtain ⟨xe, xp⟩ := x
            have hr1 : (rkid xs.length (xe, xp)).1 = xe := rfl
            have hr2 : (rkid xs.length (xe, xp)).2 = rk xs.length xp := rfl
            rw [hr1] at c0
            rw [hr2] at c1
            have hsx : (strOfNums xe).size = xe.length := strOfNums_size _
            have hxl : xe.length ≤ 255 := KO.out.len
            have hx1 : 1 ≤ xe.length := by
              have h := KO.out.ne
              cases xe with
              | nil => exact absurd rfl h
              | cons => simp
            have hkf : kl ≤ 255 := by rw [EQ.out.2.2]; exact NK.out.few
            have hjn : i < kl := by rw [EQ.out.2.2]; exact hlt
            have dj : decide ((i : Int) < (kl : Int)) = true := by simp; omega
            have hjl : (i : Int) < (kl : Int) := by omega
            have KLH := Lib.hid EQ.out.2.2
            have hbr : Byt rest := by rw [HREST.out]; exact HL.out.2.2.1.drop j
            have hcut : (strOfNums rest).extract 0 xe.length = strOfNums (rest.take xe.length) := by rw [strOf_cut, List.drop_zero]
            have heq : ((strOfNums (rest.take xe.length)).toList == (strOfNums xe).toList) = decide (rest.take xe.length = xe) := by
              rw [nums_same, nums_byt (hbr.take _), nums_byt KO.out.byt]
            clear hx hxL hr1 hr2 hbr
            cases hpf : pfx xe rest with
            | true =>
              have hpd := hpf
              unfold pfx at hpd
              rw [Bool.and_eq_true, decide_eq_true_eq, decide_eq_true_eq] at hpd
              have hle := hpd.1
              have hjt := HRL.out
              rw [hpd.2] at heq hcut
              rw [decide_eq_true rfl] at heq
              have dle : decide ((xe.length : Int) ≤ (rest.length : Int)) = true := by simp; omega
              have hcut2 : (strOfNums rest).extract xe.length rest.length = strOfNums (rest.drop xe.length) := by rw [strOf_cut, List.take_length]
              have hnx : (rk xs.length xp == -2) = false := by
                have := KO.out.lo
                simp only [] at this
                unfold rk
                split <;> simp <;> omega
              have hs2 : (strOfNums (rest.drop xe.length)).size = rest.length - xe.length := by rw [strOfNums_size, List.length_drop]
              have NEW := Lib.hid (show FnLp w w1 g0 xs t R (.slice q5 (way.length + 1) c5) (.int .i64 (rk xs.length xp)) (.string (strOfNums (rest.drop xe.length))) W5 from by
                have hwl : (way ++ [(p : Int)]).length = way.length + 1 := by rw [List.length_append, List.length_singleton]
                have hdr : rest.drop xe.length = t.drop (j + xe.length) := by rw [HREST.out, List.drop_drop]
                have htk : t.take j ++ xe = t.take (j + xe.length) := by rw [List.take_add, ← HREST.out, hpd.2]
                refine ⟨⟨k, j + xe.length, way ++ [(p : Int)], xp, q5, c5, by rw [hwl], rfl, by rw [hdr], by rw [hwl]; exact O5.out, by rw [hwl]; omega, by omega, by omega, KO.out.lo, ?_, ?_⟩, R5.out, G5.out⟩
                · intro y hy
                  rcases List.mem_append.1 hy with h | h
                  · exact HWR.out y h
                  · rw [List.mem_singleton.1 h]; exact ⟨by omega, PL.out⟩
                · have h := HC2.out
                  rw [find_first (f := fun k : Kid => pfx k.1 rest) NO.out HX.out hpf] at h
                  simp only [] at h
                  rw [hwl, ← htk]
                  exact h)
              have HS2 := Lib.hid (show (rest.drop xe.length).length < rest.length by rw [List.length_drop]; omega)
              clear hpd hpf NO hjt
              go_wp2
              have hsn := HSN.out
              subst hsn
              have hrs := HREST.out
              subst hrs
              go_roundw
              case rel => exact NEW.out
              case measure =>
                show (strOfNums ((t.drop j).drop xe.length)).size < (strOfNums (t.drop j)).size
                rw [strOfNums_size, strOfNums_size]
                exact HS2.out
            | false =>
              have NO2 := Lib.hid (show ∀ j' y, j' < i + 1 → nd.kids[j']? = some y → pfx y.1 rest = false from fun j' y hj' hy => by
                rcases Nat.lt_or_ge j' i with h | h
                · exact NO.out j' y h hy
                · obtain rfl : j' = i := by omega
                  rw [HX.out] at hy
                  injection hy with hy
                  rw [← hy]; exact hpf)
              clear NO
              by_cases hle : xe.length ≤ rest.length
              · have hne : ¬ rest.take xe.length = xe := fun e => by
                  unfold pfx at hpf
                  rw [decide_eq_true hle, decide_eq_true e] at hpf
                  cases hpf
                rw [decide_eq_false hne] at heq
                have dle : decide ((xe.length : Int) ≤ (rest.length : Int)) = true := by simp; omega
                clear hne hpf
                go_wp2
                go_roundw
                case rel => exact ⟨i + 1, by omega, by go_num, by first | rfl | trivial, by first | rfl | trivial, by first | rfl | trivial, Lib.hid NO2.out⟩
                case measure => (have := KLH.out; simp [intOf]; omega)
              · have dle : decide ((xe.length : Int) ≤ (rest.length : Int)) = false := by simp; omega
                have dle2 : decide (xe.length ≤ rest.length) = false := by simp; omega
                clear heq hcut hpf
                go_wp2
                go_roundw
                case rel => exact ⟨i + 1, by omega, by go_num, by first | rfl | trivial, by first | rfl | trivial, by first | rfl | trivial, Lib.hid NO2.out⟩
                case measure => (have := KLH.out; simp [intOf]; omega)
          · have hjn : ¬ i < kl := by rw [EQ.out.2.2]; exact hlt
            have dj : decide ((i : Int) < (kl : Int)) = false := by simp; omega
            have dj2 : decide (i < kl) = false := by simp; omega
            have ER : R = (0, none) := by
              have h := HC2.out
              rw [find_none (fun j y hj hy => NO.out j y (by omega) hy)] at h
              exact h
            have F := Lib.hid (show FiOut w (((((((W5.setCell ⟨g0, 0, none⟩ (.string ⟨#[]⟩)).setCell ⟨g0, 1, none⟩ (.int .i64 Ex.zero.kind)).setCell ⟨g0, 2, none⟩ (.bool Ex.zero.weak)).setCell ⟨g0, 3, none⟩ (.int .u64 Ex.zero.value)).setCell ⟨g0, 4, none⟩ (.int .u64 Ex.zero.resolver)).setCell ⟨g0, 5, none⟩ (.int .u64 Ex.zero.ordinal)).setCell ⟨g0, 6, none⟩ (.string (strOfNums Ex.zero.other))) xs t (.returned (.tuple #[exV ⟨#[]⟩ Ex.zero, .bool false, .int .i64 0])) from
              ⟨by rw [← HR.out, ER]; rfl, grown_new G5.out (grown_put7 (grown_refl W5 (some g0)) _ _ _ _ _ _ _) LG.out⟩)
            obtain ⟨d0, d1, d2, d3, d4, d5, d6⟩ := R5.out.c
            have df := R5.out.fz
            have dll := R5.out.lt
            clear ER hlt NO
            go_wp2
            (try simp only [Exit.inBlock, Exit.then])
            refine bodyPost_ret (results_ex3 rfl rfl rfl rfl (R5.out.put ⟨#[]⟩ Ex.zero)) rfl ?_
            exact F.out
end Go.Proofs.Ytblfighfahffkaa

/- Tries that go round: two nodes, each of which has one child; pure. No condition but what the edge is. -/
namespace Go.Proofs.Ytblfighfahffkaa
open Go.RowKit

/-- A node of one child, whose place has two bytes. -/
def ndB (e : List Int) (m : Int) : List Int := [0, 1] ++ (e ++ [0, m % 128 + 128, m / 128])
theorem ndB_len (e : List Int) (m : Int) : (ndB e m).length = e.length + 5 := by simp [ndB]
theorem ulP_zero (l : List Int) : ulP (0 :: l) = some (0, 1) := by
  have hs : szN 10 (0 :: l) = 1 := by simp [szN]
  unfold ulP ulebN
  rw [hs]
  simp [valN]
theorem ulP_two {m : Int} (h0 : 0 ≤ m) (h1 : m < 16384) (l : List Int) : ulP ((m % 128 + 128) :: (m / 128) :: l) = some (m, 2) := by
  have hs : szN 10 ((m % 128 + 128) :: (m / 128) :: l) = 2 := by
    have a : ¬ m % 128 + 128 < 128 := by omega
    have b : m / 128 < 128 := by omega
    simp [szN, a, b]
  have hv : valN (((m % 128 + 128) :: (m / 128) :: l).take 2) = m := by
    simp [valN]
    omega
  have hu : ulebN ((m % 128 + 128) :: (m / 128) :: l) = (m, 2) := by
    unfold ulebN
    rw [hs, hv, if_pos (by omega)]
  unfold ulP
  rw [hu]
  simp
theorem pre_edge : ∀ {e : List Int} (l : List Int), (∀ x ∈ e, x ≠ 0) → pre (e ++ 0 :: l) = e
  | [], l, _ => by simp [pre]
  | x :: e, l, h => by
    simp only [List.cons_append, pre]
    rw [if_neg (h x (List.mem_cons_self ..)), pre_edge l (fun y hy => h y (List.mem_cons_of_mem _ hy))]
theorem nodeP_ndB {e : List Int} {m : Int} (he : e ≠ []) (hn : ∀ x ∈ e, x ≠ 0) (hl : e.length ≤ 255) (h0 : 0 ≤ m) (h1 : m < 16384) (l : List Int) : (nodeP (ndB e m ++ l)).map Prod.fst = some ⟨none, [(e, m)]⟩ := by
  have hp := pre_edge ((m % 128 + 128) :: (m / 128) :: l) hn
  have ht : txP (e ++ 0 :: ((m % 128 + 128) :: (m / 128) :: l)) = some (e, e.length + 1) := by
    unfold txP
    rw [hp, if_pos ⟨by simp, hl⟩]
  have hd : (e ++ 0 :: ((m % 128 + 128) :: (m / 128) :: l)).drop (e.length + 1) = (m % 128 + 128) :: (m / 128) :: l := by
    rw [← List.drop_drop, List.drop_left]
    rfl
  have hu := ulP_two h0 h1 l
  have hk : kidsP 1 [] (e ++ 0 :: ((m % 128 + 128) :: (m / 128) :: l)) = some ([(e, m)], e.length + 1 + 2) := by
    unfold kidsP psB
    rw [ht]
    simp only [hd]
    rw [hu]
    have hm : ¬ (e = [] ∨ meets e [] = true) := by simp [he, meets]
    simp only [if_neg hm]
    rfl
  have e1 : ndB e m ++ l = 0 :: 1 :: (e ++ 0 :: ((m % 128 + 128) :: (m / 128) :: l)) := by simp [ndB]
  rw [e1]
  unfold nodeP psB
  rw [ulP_zero]
  simp only [List.drop_succ_cons, List.drop_zero]
  have e2 : exP 0 = psR none := rfl
  rw [e2]
  simp only [psR, byP, List.drop_succ_cons, List.drop_zero]
  rw [show (1 : Int).toNat = 1 from rfl, hk]
  rfl
/-- Two of them, one behind the other. -/
def rndB (e : List Int) (t : Int) : List Int := ndB e (e.length + 5) ++ ndB e t
theorem rnd_len (e : List Int) (t : Int) : (rndB e t).length = 2 * (e.length + 5) := by simp [rndB, ndB_len]; omega
section
variable {e : List Int} {t : Int} (he : e ≠ []) (hn : ∀ x ∈ e, x ≠ 0) (hl : e.length ≤ 200) (h0 : 0 ≤ t) (h1 : t < 16384)
include he hn hl h0 h1
omit h0 h1 in
theorem rnd_first : ndAt (rndB e t) 0 = some ⟨none, [(e, ((e.length + 5 : Nat) : Int))]⟩ := by
  unfold ndAt
  rw [if_pos ⟨Int.le_refl _, by rw [rnd_len]; omega⟩]
  have h := nodeP_ndB (m := ((e.length + 5 : Nat) : Int)) he hn (by omega) (by omega) (by omega) (ndB e t)
  exact h
theorem rnd_second : ndAt (rndB e t) ((e.length + 5 : Nat) : Int) = some ⟨none, [(e, t)]⟩ := by
  unfold ndAt
  rw [if_pos ⟨by omega, by rw [rnd_len]; omega⟩]
  have hd : (rndB e t).drop (((e.length + 5 : Nat) : Int)).toNat = ndB e t ++ [] := by
    have : (((e.length + 5 : Nat) : Int)).toNat = (ndB e (e.length + 5)).length := by rw [ndB_len]; rfl
    rw [this, rndB, List.drop_left, List.append_nil]
  rw [hd]
  exact nodeP_ndB he hn (by omega) h0 h1 []
theorem rnd_round (ht : t = 0 ∨ t = ((e.length + 5 : Nat) : Int) ∨ t = ((2 * (e.length + 5) : Nat) : Int)) : (allN (rndB e t)).2 ≠ 0 := by
  have hne : rndB e t ≠ [] := by
    intro h
    have := rnd_len e t
    rw [h] at this
    simp at this
  have v3 : (vis (rndB e t) mtAll 255 ([0] ++ [((e.length + 5 : Nat) : Int)]) (e ++ e) t (2, [])).1 ≠ 0 := by
    unfold vis
    split
    · simp
    split
    · simp
    split
    · simp
    rename_i hnm _
    have hnd : ndAt (rndB e t) t = none := by
      rcases ht with rfl | rfl | rfl
      · exact absurd (by simp) hnm
      · exact absurd (by simp) hnm
      · unfold ndAt
        rw [if_neg (by rw [rnd_len]; omega)]
    rw [hnd]
    simp
  have v2 : (vis (rndB e t) mtAll 256 [0] e ((e.length + 5 : Nat) : Int) (1, [])).1 ≠ 0 := by
    unfold vis
    rw [if_neg (by omega), if_neg (by simp; omega), if_neg (by simp), rnd_second he hn hl h0 h1]
    show (visK (vis (rndB e t) mtAll 255 ([0] ++ [((e.length + 5 : Nat) : Int)])) e [(e, t)] 0 (2, [])).1 ≠ 0
    unfold visK
    rw [if_pos v3]
    exact v3
  have v1 : (vis (rndB e t) mtAll 257 [] [] 0 (0, [])).1 ≠ 0 := by
    unfold vis
    rw [if_neg (by simp), if_neg (by simp), if_neg (by simp), rnd_first he hn hl]
    show (visK (vis (rndB e t) mtAll 256 [0]) [] [(e, ((e.length + 5 : Nat) : Int))] 0 (1, [])).1 ≠ 0
    unfold visK
    rw [List.nil_append, if_pos v2]
    exact v2
  unfold allN
  rw [if_neg hne, if_pos v1]
  exact v1
end
end Go.Proofs.Ytblfighfahffkaa
