/- An image in the making, in memory: its cells, its rows, its map; what keeps it; 'once'. No condition. -/
import Derived.Test.YthdppaooemdmaaaSegm
import Derived.Test.YthdppaooemdmaaaSpans
import Derived.Test.YthdppaooemdmaaaName5
namespace Go.Proofs.Ythdppaooemdmaaa
open Go.RowKit Go.Maps
variable {w w' : World} {lo g bm : Nat}

/-- A segment in a row: its sections' slice too. -/
structure Sg where
  seg : Seg
  q : Option Addr
  c : Nat
def Sg.v (x : Sg) : Value := .slice x.q x.seg.secs.length x.c
def sgCs (x : Sg) : List Value := [.string (strOfNums x.seg.name), .int .u64 x.seg.addr, .int .u64 x.seg.size, .int .u64 x.seg.off, .int .u64 x.seg.fsize, .int .i64 x.seg.prot, x.v]
theorem sgCs_len (x : Sg) : (sgCs x).length = 7 := rfl
theorem sgCs_one (x : Sg) : ∀ u ∈ sgCs x, u.oneCell' = true := by
  intro u hu
  simp only [sgCs, List.mem_cons, List.not_mem_nil, or_false] at hu
  rcases hu with rfl | rfl | rfl | rfl | rfl | rfl | rfl <;> rfl
def depCs (x : List Int × Int) : List Value := [.string (strOfNums x.1), .int .i64 x.2]
theorem depCs_len (x : List Int × Int) : (depCs x).length = 2 := rfl
theorem depCs_one (x : List Int × Int) : ∀ u ∈ depCs x, u.oneCell' = true := by
  intro u hu
  simp only [depCs, List.mem_cons, List.not_mem_nil, or_false] at hu
  rcases hu with rfl | rfl <;> rfl
theorem depType : StType Try.prog 68 46 2 24 := .mk' Try.underlying46 (z := .agg #[.string ⟨#[]⟩, .int .i64 0]) (by kernel_rfl) rfl (by decide)

/-- The header's part. -/
structure Hx where
  kd : Int
  sb : Int
  fl : Int
def imgArr (h : Hx) (s : St) (sv dv : Value) : Array Value := #[.int .i64 h.kd, .int .i64 h.sb, .int .u32 h.fl, .string (strOfNums s.name), sv, dv, .int .u64 s.rb.1, .int .u64 s.rb.2, .int .u64 s.bd.1, .int .u64 s.bd.2, .int .u64 s.wk.1, .int .u64 s.wk.2, .int .u64 s.lz.1, .int .u64 s.lz.2, .int .u64 s.tr.1, .int .u64 s.tr.2, .int .u64 s.ch.1, .int .u64 s.ch.2, .int .u64 s.sy.1, .int .u64 s.sy.2, .int .u64 s.st.1, .int .u64 s.st.2, .int .u64 s.entry, .bool s.has]
def mkgArr (h : Hx) (s : St) (sv dv : Value) (bm : Nat) : Array Value := #[.int .i64 h.kd, .int .i64 h.sb, .int .u32 h.fl, .string (strOfNums s.name), sv, dv, .int .u64 s.rb.1, .int .u64 s.rb.2, .int .u64 s.bd.1, .int .u64 s.bd.2, .int .u64 s.wk.1, .int .u64 s.wk.2, .int .u64 s.lz.1, .int .u64 s.lz.2, .int .u64 s.tr.1, .int .u64 s.tr.2, .int .u64 s.ch.1, .int .u64 s.ch.2, .int .u64 s.sy.1, .int .u64 s.sy.2, .int .u64 s.st.1, .int .u64 s.st.2, .int .u64 s.entry, .bool s.has, .map (some bm), .int .i64 s.secs]
def MkgAt (w : World) (g : Nat) (h : Hx) (s : St) (sv dv : Value) (bm : Nat) : Prop := w.heap[g]? = some (.cells (mkgArr h s sv dv bm) 95 (0, 0))
section
variable {h : Hx} {s : St} {sv dv : Value}
theorem MkgAt.kept {r : Option Nat} (k : MkgAt w g h s sv dv bm) (hg : w.grownBy w' r) (hr : r ≠ some g) : MkgAt w' g h s sv dv bm := (hg.block g (lt_of_block k) (fun e => hr e.symm)).trans k
theorem MkgAt.lt (k : MkgAt w g h s sv dv bm) : g < w.heap.size := lt_of_block k
theorem MkgAt.fz (k : MkgAt w g h s sv dv bm) (i : Nat) : w.frozen? ⟨g, i, none⟩ = false := free_of k
theorem MkgAt.c (k : MkgAt w g h s sv dv bm) (i : Nat) (v : Value) (hv : (mkgArr h s sv dv bm)[i]? = some v) : w.cell? ⟨g, i, none⟩ = some v := by rw [cell_of k]; exact hv
end

/-- What was met, as the map has it. -/
def MetAt (w : World) (bm : Nat) (met : List Int) : Prop := ∃ n D, w.ownsMap (H := Unit) Try.prog 25 unitElem bm n D ∧ (∀ k : Int, Maps.has D (.int .u32 k) = decide (k ∈ met)) ∧ n ≤ met.length
theorem MetAt.kept {met : List Int} {r : Option Nat} (h : MetAt w bm met) (hg : w.grownBy w' r) (hr : r ≠ some bm) : MetAt w' bm met := by
  obtain ⟨n, D, ho, hh, hn⟩ := h
  exact ⟨n, D, ho.kept hg (fun e => hr e.symm), hh, hn⟩
theorem MetAt.lt {met : List Int} (h : MetAt w bm met) : bm < w.heap.size := by obtain ⟨n, D, ho, _⟩ := h; exact ho.lt
theorem zeroUnit (w : World) : (zeroValue 172).run Try.prog w = .ok (.agg #[]) w := by kernel_rfl
theorem MetAt.look {met : List Int} (h : MetAt w bm met) {k : Int} (hk : 0 ≤ k ∧ k < 4294967296) : (Instr.lookup 93 (.map (some bm)) (.int .u32 k) true).run Try.prog w = .ok (.tuple #[.agg #[], .bool (decide (k ∈ met))]) w := by
  obtain ⟨n, D, ho, hh, hn⟩ := h
  obtain ⟨v, ps, hr, hv⟩ := ho.look_ok u32keyed Try.underlying93 (zeroUnit w) unitElem_mk (keyOf_int_mk Try.underlying25 (a := k) (u32_wf hk))
  obtain ⟨rfl, _⟩ := unitElem_inv hv
  rw [hr, hh]
theorem MetAt.meet {met : List Int} (h : MetAt w bm met) {k : Int} (hk : 0 ≤ k ∧ k < 4294967296) (hl : met.length < 1000000) :
    ∃ w', (Instr.mapUpdate 93 (.map (some bm)) (.int .u32 k) (.agg #[])).run Try.prog w = .ok () w' ∧ MetAt w' bm (met ++ [k]) ∧ w.grownBy w' (some bm) := by
  obtain ⟨n, D, ho, hh, hn⟩ := h
  obtain ⟨w', hr, ho', hg⟩ := ho.update u32keyed Try.underlying93 (by unfold maxLen; omega) (keyOf_int_mk Try.underlying25 (a := k) (u32_wf hk)) unitElem_mk
  refine ⟨w', hr, ⟨n + 1, _, ho', fun x => ?_, by simp; omega⟩, hg⟩
  by_cases hx : x = k
  · subst hx
    rw [has_put_same ho.isMap (by trivial)]
    simp
  · rw [has_put_other (fun e => hx (by injection e)), hh x]
    simp [hx]

/-- An image in the making: what lies where. -/
structure Holds (w : World) (lo g bm : Nat) (h : Hx) (s : St) : Prop where
  ex : ∃ (sv dv : Value) (l : List Sg), MkgAt w g h s sv dv bm ∧ l.map Sg.seg = s.segs ∧ w.ownsRow lo 59 7 sv l.length (l.flatMap sgCs) ∧ (∀ x ∈ l, w.ownsRow lo 101 6 x.v x.seg.secs.length (x.seg.secs.flatMap secCs)) ∧
    w.ownsRow lo 68 2 dv s.deps.length (s.deps.flatMap depCs)
  met : MetAt w bm s.met
  lo1 : lo ≤ g
  lo2 : lo ≤ bm
theorem row_off {T T' : TypeId} {k n : Nat} {v : Value} {xs : List Value} {cs : Array Value} {fr : Nat × Nat} (h : w.ownsRow lo T k v n xs) (hb : w.heap[g]? = some (.cells cs T' fr)) (hT : T ≠ T') : v.ownBlock = none ∨ v.ownBlock ≠ some g := by
  rcases h.2 with ⟨rfl, _⟩ | ⟨g', cap, cur, rfl, _, hg, _⟩
  · exact .inl rfl
  · refine .inr fun e => hT ?_
    simp only [Value.ownBlock, Option.some.injEq] at e
    subst e
    rw [hg] at hb
    injection hb with e
    injection e
theorem row_off_map {met : List Int} {T : TypeId} {k n : Nat} {v : Value} {xs : List Value} (h : w.ownsRow lo T k v n xs) (hb : MetAt w bm met) : v.ownBlock = none ∨ v.ownBlock ≠ some bm := by
  obtain ⟨_, _, ⟨es, clock, hm, _⟩, _⟩ := hb
  rcases h.2 with ⟨rfl, _⟩ | ⟨g', cap, cur, rfl, _, hg, _⟩
  · exact .inl rfl
  · refine .inr fun e => ?_
    simp only [Value.ownBlock, Option.some.injEq] at e
    subst e
    rw [hg] at hm
    cases hm
theorem mkg_off_map {h : Hx} {s : St} {sv dv : Value} {met : List Int} (k : MkgAt w g h s sv dv bm) (hb : MetAt w bm met) : g ≠ bm := fun e => by
  obtain ⟨_, _, ⟨es, clock, hm, _⟩, _⟩ := hb
  subst e
  unfold MkgAt at k
  rw [k] at hm
  cases hm
theorem Holds.grown {h : Hx} {s : St} (k : Holds w lo g bm h s) (hg : w.grownBy w' none) : Holds w' lo g bm h s := by
  obtain ⟨sv, dv, l, h1, h2, h3, h4, h5⟩ := k.ex
  exact ⟨⟨sv, dv, l, h1.kept hg (by simp), h2, own_grown h3 hg, fun x hx => own_grown (h4 x hx) hg, own_grown h5 hg⟩, k.met.kept hg (by simp), k.lo1, k.lo2⟩
/-- The map alone is written. -/
theorem Holds.meet {h : Hx} {s : St} {k : Int} (H : Holds w lo g bm h s) (hg : w.grownBy w' (some bm)) (hm : MetAt w' bm (s.met ++ [k])) : Holds w' lo g bm h (s.meet k) := by
  obtain ⟨sv, dv, l, h1, h2, h3, h4, h5⟩ := H.ex
  have hne : (some bm : Option Nat) ≠ some g := fun e => mkg_off_map h1 H.met (by injection e with e; exact e.symm)
  exact ⟨⟨sv, dv, l, h1.kept hg hne, h2, h3.kept hg (row_off_map h3 H.met), fun x hx => (h4 x hx).kept hg (row_off_map (h4 x hx) H.met), h5.kept hg (row_off_map h5 H.met)⟩, hm, H.lo1, H.lo2⟩
theorem typesApart : 59 ≠ 95 ∧ 101 ≠ 95 ∧ 68 ≠ 95 ∧ 101 ≠ 59 ∧ 68 ≠ 59 ∧ 59 ≠ 68 ∧ 101 ≠ 68 := by decide
/-- Cells of the making's own block alone are written: its lists stay. -/
theorem Holds.cells {h : Hx} {s s' : St} (H : Holds w lo g bm h s) (hg : w.grownBy w' (some g)) (hc : ∀ sv dv, MkgAt w g h s sv dv bm → MkgAt w' g h s' sv dv bm) (h1 : s'.segs = s.segs) (h2 : s'.deps = s.deps) (h3 : s'.met = s.met) : Holds w' lo g bm h s' := by
  obtain ⟨sv, dv, l, a1, a2, a3, a4, a5⟩ := H.ex
  have hne : (some g : Option Nat) ≠ some bm := fun e => mkg_off_map a1 H.met (by injection e)
  refine ⟨⟨sv, dv, l, hc sv dv a1, a2.trans h1.symm, a3.kept hg (row_off a3 a1 typesApart.1), fun x hx => (a4 x hx).kept hg (row_off (a4 x hx) a1 typesApart.2.1), ?_⟩, ?_, H.lo1, H.lo2⟩
  · rw [h2]; exact a5.kept hg (row_off a5 a1 typesApart.2.2.1)
  · rw [h3]; exact H.met.kept hg hne

/-- What taking something in tells. -/
structure AddOut (w w' : World) (lo g bm : Nat) (h : Hx) (s' : St) (er : Int) (e : Ending) : Prop where
  val : e = .returned (.int .i64 er)
  good : er = 0 → Holds w' lo g bm h s'
  below : Below lo w w'
theorem below_of {B : Nat} (h : w.grownBy w' (some g)) (hB : B ≤ g) (hs : B ≤ w.heap.size) : Below B w w' := below_grown h hs (fun e he => by injection he with he; omega)

set_option maxRecDepth 20000 in
theorem once_both {h : Hx} {s : St} (H : Holds w lo g bm h s) (k : Int) (hk : 0 ≤ k ∧ k < 4294967296) (hl : s.met.length < 1000000) :
    Calls Try.prog 79 #[.pointer (some ⟨g, 0, none⟩), .int .u32 k] w fun e w' => AddOut w w' lo g bm h (s.meet k) (onceE s k) e ∧ w.grownBy w' (some bm) := by
  have gA := grown1 w (.cells #[] 172)
  have HA := Lib.hid (H.grown gA)
  obtain ⟨w', hr, hm, hg⟩ := HA.out.met.meet hk hl
  have LK := H.met.look hk
  obtain ⟨sv, dv, l, a1, _⟩ := H.ex
  have c24 := a1.c 24 (.map (some bm)) rfl
  have hlt := a1.lt
  have hlo : lo ≤ w.heap.size := Nat.le_trans H.lo1 (Nat.le_of_lt hlt)
  have HM := Lib.hid (HA.out.meet hg hm)
  have BE := Lib.hid (Below.trans (below_grown gA hlo (by simp)) (below_of hg H.lo2 (Nat.le_trans hlo gA.size)))
  have BA := Lib.hid (below_grown gA hlo (by simp) : Below lo w _)
  have O := Lib.hid (show onceE s k = if k ∈ s.met then 21 else 0 from rfl)
  have GB := Lib.hid (grown_first gA hg)
  have GN := Lib.hid (grown_any gA (some bm))
  clear a1 hg hm gA
  by_cases hin : k ∈ s.met
  · rw [decide_eq_true hin] at LK
    have OE := Lib.hid (O.out.trans (if_pos hin))
    clear hin
    go_enter Try.func79, Try.ntmps79
    go_wp2
    go_ret
    exact ⟨⟨by rw [OE.out]; rfl, fun h => (by rw [OE.out] at h; cases h), BA.out⟩, GN.out⟩
  · rw [decide_eq_false hin] at LK
    have OE := Lib.hid (O.out.trans (if_neg hin))
    clear hin
    go_enter Try.func79, Try.ntmps79
    go_wp2
    go_ret
    exact ⟨⟨by rw [OE.out]; rfl, fun _ => HM.out, BE.out⟩, GB.out⟩
theorem once_any {h : Hx} {s : St} (H : Holds w lo g bm h s) (k : Int) (hk : 0 ≤ k ∧ k < 4294967296) (hl : s.met.length < 1000000) :
    Calls Try.prog 79 #[.pointer (some ⟨g, 0, none⟩), .int .u32 k] w fun e w' => AddOut w w' lo g bm h (s.meet k) (onceE s k) e :=
  (once_both H k hk hl).mono fun _ _ h => h.1
end Go.Proofs.Ythdppaooemdmaaa
