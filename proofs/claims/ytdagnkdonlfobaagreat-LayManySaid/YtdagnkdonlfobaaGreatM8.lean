import Derived.Test.YtdagnkdonlfobaaGreatM6
import Derived.Test.YtdagnkdonlfobaaGreatM7
import Derived.BigRegion
/- The name of a command. No condition but that it has at most 2^47 bytes. -/
namespace Go.Proofs.YtdagnkdonlfobaaGreat
open Go.RowKit
variable {w w' : World} {lo hi a : Nat} {xs : List Int} {p : Nat} {big bad : Bool}

theorem pen_seek_no (h : Pen w lo hi a xs p big false) (n : Nat) (hn : xs.length < n) :
    Calls Tryz.prog 182 #[.pointer (some ⟨a, 0, none⟩), .int .i64 n] w fun e w' => e = .returned (.tuple #[]) ∧ Pen w' lo hi a xs p big true ∧ w.grownBy w' (some a) := by
  obtain ⟨⟨base, q, c, hc, hl, ho⟩, i1, i2, i3⟩ := h
  have h0 := hc.c0
  have h1 := hc.c1
  have h3 := hc.c3
  have f3 := hc.f3
  have hbig := hc.big
  have F := Lib.hid hc.setBad
  have G := Lib.hid (grown_setCell (i := 3) (grown_refl w (some a)) (.bool true))
  have PN := Lib.hid (fun (w' : World) (h : Cur w' base a q c xs p big true) (hg : w.grownBy w' (some a)) => (⟨⟨base, q, c, h, hl, ho⟩, i1, i2, Nat.le_trans i3 hg.size⟩ : Pen w' lo hi a xs p big true))
  have d1 : decide ((n : Int) < 0) = false := by simp
  have d2 : decide (xs.length < n) = true := by simp; omega
  clear hc hl ho
  go_enter Tryz.func182, Tryz.ntmps182
  go_wp2
  refine bodyPost_ret (results_none rfl _ _ _) rfl ?_
  exact ⟨rfl, PN.out _ F.out G.out, G.out⟩

/-- The name of a command, and the error, as one answer. -/
def nameV (ys : List Int) : List Int := if nameErr ys = 0 then nameOf ys else []
set_option maxHeartbeats 1600000 in
set_option maxRecDepth 20000 in
theorem Name_any (ys : List Int) (q : Option Addr) (c n : Nat) (h : IsBytes w q c ys) (hn : ys.length = n) (hb : n ≤ 140737488355328) (hr : Small ys) :
    Calls Tryz.prog 150 #[.slice q n c] w fun e w' => e = .returned (.tuple #[.string (strOfNums (nameV ys)), .int .i64 (nameErr ys)]) ∧ w.grownBy w' none := by
  have OP := Lib.hid (open_any (w := w) ys q c n h hn hb hr)
  have HN := Lib.hid hn
  have HR := Lib.hid hr
  clear h hr hn
  by_cases hs : shortB ys
  · have SH := Lib.hid hs
    clear hs
    go_enter Tryz.func150, Tryz.ntmps150
    go_wp2_with fail
    refine OP.out.mono ?_
    rintro e w1 ⟨hbad, _, hg⟩
    have G1 := Lib.hid hg
    obtain rfl := hbad SH.out
    clear hbad hg
    go_wp2
    go_ret2
    have hE : nameErr ys = 3 := by unfold nameErr; rw [if_pos SH.out]
    exact ⟨by unfold nameV; rw [hE]; rfl, G1.out⟩
  have SH := Lib.hid hs
  have hE : nameErr ys = if ¬ named (cmdAt ys) then 7 else if nameOf ys = [] then 10 else 0 := by unfold nameErr; rw [if_neg hs]
  have hlen : ¬ ((ys.length : Int) < leastN (cmdAt ys)) := fun h => hs (.inr h)
  obtain ⟨cm, hcm⟩ : ∃ z, z = cmdAt ys := ⟨_, rfl⟩
  rw [← hcm] at hE hlen
  have CM := Lib.hid hcm
  clear hs hcm
  by_cases hi : named cm
  · rw [if_neg (fun h => h hi)] at hE
    have h24 : 24 ≤ ys.length := by
      have : leastN cm = 24 := by rcases hi with rfl | rfl | rfl | rfl | rfl <;> decide
      omega
    have HE := Lib.hid hE
    have H24 := Lib.hid h24
    have hF := numAt_lt HR.out 8
    obtain ⟨F, hFe⟩ : ∃ F : Nat, numAt ys 8 4 = F := ⟨(numAt ys 8 4).toNat, by omega⟩
    have FE := Lib.hid hFe
    have hF2 : F < 4294967296 := by rw [hFe] at hF; omega
    have i1 : (F : Int) ≤ 9223372036854775807 := by omega
    have hw : IntKind.i64.wrap (F : Int) = F := IntWalk.i64_in _ (by omega)
    obtain ⟨T, hT⟩ : ∃ T, T = nameOf ys := ⟨_, rfl⟩
    have TE := Lib.hid hT
    have hTd : T = if ys.length < F then [] else textOf (ys.drop F) := by
      rw [hT]; unfold nameOf; rw [hFe]
      by_cases h : ys.length < F
      · rw [if_pos (by omega), if_pos h]
      · rw [if_neg (by omega), if_neg h]; rfl
    have TD := Lib.hid hTd
    rw [← hT] at HE
    have XF := Lib.hid (show nameErr ys = (if T = [] then 10 else 0) ∧ nameV ys = T by
      refine ⟨HE.out, ?_⟩
      unfold nameV
      rw [HE.out, ← hT]
      by_cases h : T = []
      · rw [if_pos h, if_neg (by decide), h]
      · rw [if_neg h, if_pos rfl])
    obtain ⟨E, hEE⟩ : ∃ E : Int, E = if T = [] then 10 else 0 := ⟨_, rfl⟩
    rw [XF.out.1, XF.out.2, ← hEE]
    have EE := Lib.hid hEE
    clear hEE
    clear hE h24 hF hFe hT hTd hlen HE
    have hte : ∀ t : List Int, (strOfNums t).toList.isEmpty = decide (t = []) := fun t => by
      rw [Lib.strOfNums_toList]
      cases t <;> simp [Lib.bytesOf]
    have TEQ := Lib.hid hte
    clear hte
    rcases hi with rfl | rfl | rfl | rfl | rfl
    all_goals
      go_enter Tryz.func150, Tryz.ntmps150
      go_wp2_with fail
      refine OP.out.mono ?_
      rintro e w1 ⟨_, hgood, hg⟩
      obtain ⟨a, hi, rfl, hp⟩ := hgood SH.out
      have G1 := Lib.hid hg
      have P1 := Lib.hid hp
      rw [← CM.out]
      clear hgood hg hp
      go_wp2_with fail
      refine (pen_num P1.out 4 (.inr (.inr (.inl rfl))) (by have := H24.out; omega)).mono ?_
      rintro e w2 ⟨rfl, hp, hg⟩
      rw [show numOf false ((ys.drop 8).take 4) = F from FE.out]
      have P2 := Lib.hid hp
      have G2 := Lib.hid (grown_new G1.out hg P1.out.lw)
      clear hp hg
      by_cases hlF : ys.length < F
      · have hTn := TD.out
        rw [if_pos hlF] at hTn
        go_wp2_with fail
        refine (pen_seek_no P2.out F hlF).mono ?_
        rintro e w3 ⟨rfl, hp, hg⟩
        have P3 := Lib.hid hp
        have G3 := Lib.hid (grown_new G2.out hg P1.out.lw)
        clear hp hg
        go_wp2_with fail
        refine (pen_text P3.out 255).mono ?_
        rintro e w4 ⟨rfl, hg⟩
        have G4 := Lib.hid (grown_new G3.out hg P1.out.lw)
        clear hg
        rw [if_neg (by simp)]
        have te : (strOfNums []).toList.isEmpty = true := by rw [TEQ.out]; rfl
        have TN := Lib.hid hTn
        clear hTn
        go_wp2
        go_ret2
        exact ⟨by rw [EE.out, TN.out]; rfl, G4.out⟩
      · have hTn := TD.out
        rw [if_neg hlF] at hTn
        go_wp2_with fail
        refine (pen_seek P2.out F (by omega)).mono ?_
        rintro e w3 ⟨rfl, hp, hg⟩
        have P3 := Lib.hid hp
        have G3 := Lib.hid (grown_new G2.out hg P1.out.lw)
        clear hp hg
        go_wp2_with fail
        refine (pen_text P3.out 255).mono ?_
        rintro e w4 ⟨rfl, hg⟩
        have G4 := Lib.hid (grown_new G3.out hg P1.out.lw)
        clear hg
        have hX : (if false = false ∧ (pre (ys.drop F)).length < (ys.drop F).length ∧ (pre (ys.drop F)).length ≤ 255 then pre (ys.drop F) else []) = T := by
          rw [hTn]; unfold textOf; simp
        rw [hX]
        clear hX hTn
        by_cases hT0 : T = []
        · have te : (strOfNums T).toList.isEmpty = true := by rw [TEQ.out, decide_eq_true hT0]
          have HT := Lib.hid hT0
          clear hT0
          go_wp2
          go_ret2
          exact ⟨by rw [EE.out, HT.out]; rfl, G4.out⟩
        · have te : (strOfNums T).toList.isEmpty = false := by rw [TEQ.out, decide_eq_false hT0]
          have HT := Lib.hid hT0
          clear hT0
          go_wp2
          go_ret2
          exact ⟨by rw [EE.out, if_neg HT.out]; rfl, G4.out⟩
  · rw [if_pos hi] at hE
    have b1 : (cm == 13) = false := by simpa using fun h => hi (.inl h)
    have b2 : (cm == 12) = false := by simpa using fun h => hi (.inr (.inl h))
    have b3 : (cm == 2147483672) = false := by simpa using fun h => hi (.inr (.inr (.inl h)))
    have b4 : (cm == 2147483679) = false := by simpa using fun h => hi (.inr (.inr (.inr (.inl h))))
    have b5 : (cm == 2147483683) = false := by simpa using fun h => hi (.inr (.inr (.inr (.inr h))))
    have XF := Lib.hid (show nameErr ys = 7 ∧ nameV ys = [] from ⟨hE, by unfold nameV; rw [hE]; rfl⟩)
    rw [XF.out.1, XF.out.2]
    clear hE hi hlen
    go_enter Tryz.func150, Tryz.ntmps150
    go_wp2_with fail
    refine OP.out.mono ?_
    rintro e w1 ⟨_, hgood, hg⟩
    obtain ⟨a, hi, rfl, hp⟩ := hgood SH.out
    have G1 := Lib.hid hg
    rw [← CM.out]
    clear hgood hg hp
    go_wp2
    go_ret2
    exact ⟨rfl, G1.out⟩
end Go.Proofs.YtdagnkdonlfobaaGreat

/- An image in the making, in memory: its cells, its rows, its map; what keeps it; 'once'. No condition. -/
namespace Go.Proofs.YtdagnkdonlfobaaGreat
open Go.RowKit Go.Maps
variable {w w' : World} {lo g bm : Nat}

/-- A segment in a row: its sections' slice too. -/
structure Sg where
  seg : Seg
  q : Option Addr
  c : Nat
def Sg.v (x : Sg) : Value := .slice x.q x.seg.secs.length x.c
def sgCs (x : Sg) : List Value := [.string (strOfNums x.seg.name), .int .u64 x.seg.addr, .int .u64 x.seg.size, .int .u64 x.seg.off, .int .u64 x.seg.fsize, .int .i64 x.seg.prot, x.v]
theorem sgCs_len (x : Sg) : (sgCs x).length = 7 := rfl
theorem sgCs_one (x : Sg) : ∀ u ∈ sgCs x, u.oneCell' = true := by
  intro u hu
  simp only [sgCs, List.mem_cons, List.not_mem_nil, or_false] at hu
  rcases hu with rfl | rfl | rfl | rfl | rfl | rfl | rfl <;> rfl
def depCs (x : List Int × Int) : List Value := [.string (strOfNums x.1), .int .i64 x.2]
theorem depCs_len (x : List Int × Int) : (depCs x).length = 2 := rfl
theorem depCs_one (x : List Int × Int) : ∀ u ∈ depCs x, u.oneCell' = true := by
  intro u hu
  simp only [depCs, List.mem_cons, List.not_mem_nil, or_false] at hu
  rcases hu with rfl | rfl <;> rfl
theorem depType : StType Tryz.prog 141 37 2 24 := .mk' Tryz.underlying37 (z := .agg #[.string ⟨#[]⟩, .int .i64 0]) (by kernel_rfl) rfl (by decide)

/-- The header's part. -/
structure Hx where
  kd : Int
  sb : Int
  fl : Int
def imgArr (h : Hx) (s : St) (sv dv : Value) : Array Value := #[.int .i64 h.kd, .int .i64 h.sb, .int .u32 h.fl, .string (strOfNums s.name), sv, dv, .int .u64 s.rb.1, .int .u64 s.rb.2, .int .u64 s.bd.1, .int .u64 s.bd.2, .int .u64 s.wk.1, .int .u64 s.wk.2, .int .u64 s.lz.1, .int .u64 s.lz.2, .int .u64 s.tr.1, .int .u64 s.tr.2, .int .u64 s.ch.1, .int .u64 s.ch.2, .int .u64 s.sy.1, .int .u64 s.sy.2, .int .u64 s.st.1, .int .u64 s.st.2, .int .u64 s.entry, .bool s.has]
def mkgArr (h : Hx) (s : St) (sv dv : Value) (bm : Nat) : Array Value := #[.int .i64 h.kd, .int .i64 h.sb, .int .u32 h.fl, .string (strOfNums s.name), sv, dv, .int .u64 s.rb.1, .int .u64 s.rb.2, .int .u64 s.bd.1, .int .u64 s.bd.2, .int .u64 s.wk.1, .int .u64 s.wk.2, .int .u64 s.lz.1, .int .u64 s.lz.2, .int .u64 s.tr.1, .int .u64 s.tr.2, .int .u64 s.ch.1, .int .u64 s.ch.2, .int .u64 s.sy.1, .int .u64 s.sy.2, .int .u64 s.st.1, .int .u64 s.st.2, .int .u64 s.entry, .bool s.has, .map (some bm), .int .i64 s.secs]
def MkgAt (w : World) (g : Nat) (h : Hx) (s : St) (sv dv : Value) (bm : Nat) : Prop := w.heap[g]? = some (.cells (mkgArr h s sv dv bm) 158 (0, 0))
section
variable {h : Hx} {s : St} {sv dv : Value}
theorem MkgAt.kept {r : Option Nat} (k : MkgAt w g h s sv dv bm) (hg : w.grownBy w' r) (hr : r ≠ some g) : MkgAt w' g h s sv dv bm := (hg.block g (lt_of_block k) (fun e => hr e.symm)).trans k
theorem MkgAt.lt (k : MkgAt w g h s sv dv bm) : g < w.heap.size := lt_of_block k
theorem MkgAt.fz (k : MkgAt w g h s sv dv bm) (i : Nat) : w.frozen? ⟨g, i, none⟩ = false := free_of k
theorem MkgAt.c (k : MkgAt w g h s sv dv bm) (i : Nat) (v : Value) (hv : (mkgArr h s sv dv bm)[i]? = some v) : w.cell? ⟨g, i, none⟩ = some v := by rw [cell_of k]; exact hv
end

/-- What was met, as the map has it. -/
def MetAt (w : World) (bm : Nat) (met : List Int) : Prop := ∃ n D, w.ownsMap (H := Unit) Tryz.prog 35 unitElem bm n D ∧ (∀ k : Int, Maps.has D (.int .u32 k) = decide (k ∈ met)) ∧ n ≤ met.length
theorem MetAt.kept {met : List Int} {r : Option Nat} (h : MetAt w bm met) (hg : w.grownBy w' r) (hr : r ≠ some bm) : MetAt w' bm met := by
  obtain ⟨n, D, ho, hh, hn⟩ := h
  exact ⟨n, D, ho.kept hg (fun e => hr e.symm), hh, hn⟩
theorem MetAt.lt {met : List Int} (h : MetAt w bm met) : bm < w.heap.size := by obtain ⟨n, D, ho, _⟩ := h; exact ho.lt
theorem zeroUnit (w : World) : (zeroValue 245).run Tryz.prog w = .ok (.agg #[]) w := by kernel_rfl
theorem MetAt.look {met : List Int} (h : MetAt w bm met) {k : Int} (hk : 0 ≤ k ∧ k < 4294967296) : (Instr.lookup 156 (.map (some bm)) (.int .u32 k) true).run Tryz.prog w = .ok (.tuple #[.agg #[], .bool (decide (k ∈ met))]) w := by
  obtain ⟨n, D, ho, hh, hn⟩ := h
  obtain ⟨v, ps, hr, hv⟩ := ho.look_ok u32keyed Tryz.underlying156 (zeroUnit w) unitElem_mk (keyOf_int_mk Tryz.underlying35 (a := k) (u32_wf hk))
  obtain ⟨rfl, _⟩ := unitElem_inv hv
  rw [hr, hh]
theorem MetAt.meet {met : List Int} (h : MetAt w bm met) {k : Int} (hk : 0 ≤ k ∧ k < 4294967296) (hl : met.length < 1000000) :
    ∃ w', (Instr.mapUpdate 156 (.map (some bm)) (.int .u32 k) (.agg #[])).run Tryz.prog w = .ok () w' ∧ MetAt w' bm (met ++ [k]) ∧ w.grownBy w' (some bm) := by
  obtain ⟨n, D, ho, hh, hn⟩ := h
  obtain ⟨w', hr, ho', hg⟩ := ho.update u32keyed Tryz.underlying156 (by unfold maxLen; omega) (keyOf_int_mk Tryz.underlying35 (a := k) (u32_wf hk)) unitElem_mk
  refine ⟨w', hr, ⟨n + 1, _, ho', fun x => ?_, by simp; omega⟩, hg⟩
  by_cases hx : x = k
  · subst hx
    rw [has_put_same ho.isMap (by trivial)]
    simp
  · rw [has_put_other (fun e => hx (by injection e)), hh x]
    simp [hx]

/-- An image in the making: what lies where. -/
structure Holds (w : World) (lo g bm : Nat) (h : Hx) (s : St) : Prop where
  ex : ∃ (sv dv : Value) (l : List Sg), MkgAt w g h s sv dv bm ∧ l.map Sg.seg = s.segs ∧ w.ownsRow lo 58 7 sv l.length (l.flatMap sgCs) ∧ (∀ x ∈ l, w.ownsRow lo 148 6 x.v x.seg.secs.length (x.seg.secs.flatMap secCs)) ∧
    w.ownsRow lo 141 2 dv s.deps.length (s.deps.flatMap depCs)
  met : MetAt w bm s.met
  lo1 : lo ≤ g
  lo2 : lo ≤ bm
theorem row_off {T T' : TypeId} {k n : Nat} {v : Value} {xs : List Value} {cs : Array Value} {fr : Nat × Nat} (h : w.ownsRow lo T k v n xs) (hb : w.heap[g]? = some (.cells cs T' fr)) (hT : T ≠ T') : v.ownBlock = none ∨ v.ownBlock ≠ some g := by
  rcases h.2 with ⟨rfl, _⟩ | ⟨g', cap, cur, rfl, _, hg, _⟩
  · exact .inl rfl
  · refine .inr fun e => hT ?_
    simp only [Value.ownBlock, Option.some.injEq] at e
    subst e
    rw [hg] at hb
    injection hb with e
    injection e
theorem row_off_map {met : List Int} {T : TypeId} {k n : Nat} {v : Value} {xs : List Value} (h : w.ownsRow lo T k v n xs) (hb : MetAt w bm met) : v.ownBlock = none ∨ v.ownBlock ≠ some bm := by
  obtain ⟨_, _, ⟨es, clock, hm, _⟩, _⟩ := hb
  rcases h.2 with ⟨rfl, _⟩ | ⟨g', cap, cur, rfl, _, hg, _⟩
  · exact .inl rfl
  · refine .inr fun e => ?_
    simp only [Value.ownBlock, Option.some.injEq] at e
    subst e
    rw [hg] at hm
    cases hm
theorem mkg_off_map {h : Hx} {s : St} {sv dv : Value} {met : List Int} (k : MkgAt w g h s sv dv bm) (hb : MetAt w bm met) : g ≠ bm := fun e => by
  obtain ⟨_, _, ⟨es, clock, hm, _⟩, _⟩ := hb
  subst e
  unfold MkgAt at k
  rw [k] at hm
  cases hm
theorem Holds.grown {h : Hx} {s : St} (k : Holds w lo g bm h s) (hg : w.grownBy w' none) : Holds w' lo g bm h s := by
  obtain ⟨sv, dv, l, h1, h2, h3, h4, h5⟩ := k.ex
  exact ⟨⟨sv, dv, l, h1.kept hg (by simp), h2, own_grown h3 hg, fun x hx => own_grown (h4 x hx) hg, own_grown h5 hg⟩, k.met.kept hg (by simp), k.lo1, k.lo2⟩
/-- The map alone is written. -/
theorem Holds.meet {h : Hx} {s : St} {k : Int} (H : Holds w lo g bm h s) (hg : w.grownBy w' (some bm)) (hm : MetAt w' bm (s.met ++ [k])) : Holds w' lo g bm h (s.meet k) := by
  obtain ⟨sv, dv, l, h1, h2, h3, h4, h5⟩ := H.ex
  have hne : (some bm : Option Nat) ≠ some g := fun e => mkg_off_map h1 H.met (by injection e with e; exact e.symm)
  exact ⟨⟨sv, dv, l, h1.kept hg hne, h2, h3.kept hg (row_off_map h3 H.met), fun x hx => (h4 x hx).kept hg (row_off_map (h4 x hx) H.met), h5.kept hg (row_off_map h5 H.met)⟩, hm, H.lo1, H.lo2⟩
theorem typesApart : 58 ≠ 158 ∧ 148 ≠ 158 ∧ 141 ≠ 158 ∧ 148 ≠ 58 ∧ 141 ≠ 58 ∧ 58 ≠ 141 ∧ 148 ≠ 141 := by decide
/-- Cells of the making's own block alone are written: its lists stay. -/
theorem Holds.cells {h : Hx} {s s' : St} (H : Holds w lo g bm h s) (hg : w.grownBy w' (some g)) (hc : ∀ sv dv, MkgAt w g h s sv dv bm → MkgAt w' g h s' sv dv bm) (h1 : s'.segs = s.segs) (h2 : s'.deps = s.deps) (h3 : s'.met = s.met) : Holds w' lo g bm h s' := by
  obtain ⟨sv, dv, l, a1, a2, a3, a4, a5⟩ := H.ex
  have hne : (some g : Option Nat) ≠ some bm := fun e => mkg_off_map a1 H.met (by injection e)
  refine ⟨⟨sv, dv, l, hc sv dv a1, a2.trans h1.symm, a3.kept hg (row_off a3 a1 typesApart.1), fun x hx => (a4 x hx).kept hg (row_off (a4 x hx) a1 typesApart.2.1), ?_⟩, ?_, H.lo1, H.lo2⟩
  · rw [h2]; exact a5.kept hg (row_off a5 a1 typesApart.2.2.1)
  · rw [h3]; exact H.met.kept hg hne

/-- What taking something in tells. -/
structure AddOut (w w' : World) (lo g bm : Nat) (h : Hx) (s' : St) (er : Int) (e : Ending) : Prop where
  val : e = .returned (.int .i64 er)
  good : er = 0 → Holds w' lo g bm h s'
  below : Below lo w w'
theorem below_of {B : Nat} (h : w.grownBy w' (some g)) (hB : B ≤ g) (hs : B ≤ w.heap.size) : Below B w w' := below_grown h hs (fun e he => by injection he with he; omega)

set_option maxRecDepth 20000 in
theorem once_both {h : Hx} {s : St} (H : Holds w lo g bm h s) (k : Int) (hk : 0 ≤ k ∧ k < 4294967296) (hl : s.met.length < 1000000) :
    Calls Tryz.prog 151 #[.pointer (some ⟨g, 0, none⟩), .int .u32 k] w fun e w' => AddOut w w' lo g bm h (s.meet k) (onceE s k) e ∧ w.grownBy w' (some bm) := by
  have gA := grown1 w (.cells #[] 245)
  have HA := Lib.hid (H.grown gA)
  obtain ⟨w', hr, hm, hg⟩ := HA.out.met.meet hk hl
  have LK := H.met.look hk
  obtain ⟨sv, dv, l, a1, _⟩ := H.ex
  have c24 := a1.c 24 (.map (some bm)) rfl
  have hlt := a1.lt
  have hlo : lo ≤ w.heap.size := Nat.le_trans H.lo1 (Nat.le_of_lt hlt)
  have HM := Lib.hid (HA.out.meet hg hm)
  have BE := Lib.hid (Below.trans (below_grown gA hlo (by simp)) (below_of hg H.lo2 (Nat.le_trans hlo gA.size)))
  have BA := Lib.hid (below_grown gA hlo (by simp) : Below lo w _)
  have O := Lib.hid (show onceE s k = if k ∈ s.met then 21 else 0 from rfl)
  have GB := Lib.hid (grown_first gA hg)
  have GN := Lib.hid (grown_any gA (some bm))
  clear a1 hg hm gA
  by_cases hin : k ∈ s.met
  · rw [decide_eq_true hin] at LK
    have OE := Lib.hid (O.out.trans (if_pos hin))
    clear hin
    go_enter Tryz.func151, Tryz.ntmps151
    go_wp2
    go_ret
    exact ⟨⟨by rw [OE.out]; rfl, fun h => (by rw [OE.out] at h; cases h), BA.out⟩, GN.out⟩
  · rw [decide_eq_false hin] at LK
    have OE := Lib.hid (O.out.trans (if_neg hin))
    clear hin
    go_enter Tryz.func151, Tryz.ntmps151
    go_wp2
    go_ret
    exact ⟨⟨by rw [OE.out]; rfl, fun _ => HM.out, BE.out⟩, GB.out⟩
theorem once_any {h : Hx} {s : St} (H : Holds w lo g bm h s) (k : Int) (hk : 0 ≤ k ∧ k < 4294967296) (hl : s.met.length < 1000000) :
    Calls Tryz.prog 151 #[.pointer (some ⟨g, 0, none⟩), .int .u32 k] w fun e w' => AddOut w w' lo g bm h (s.meet k) (onceE s k) e :=
  (once_both H k hk hl).mono fun _ _ h => h.1
end Go.Proofs.YtdagnkdonlfobaaGreat

/- What is taken into an image in the making: a trie, the entry, the name, a dependency. No condition but that a command has at most 2^47 bytes. -/
namespace Go.Proofs.YtdagnkdonlfobaaGreat
open Go.RowKit
variable {w w' : World} {lo g bm : Nat} {h : Hx} {s : St}

theorem AddOut.after {w1 : World} {s' : St} {er : Int} {e : Ending} (hb : Below lo w w1) (k : AddOut w1 w' lo g bm h s' er e) : AddOut w w' lo g bm h s' er e := ⟨k.val, k.good, hb.trans k.below⟩
theorem AddOut.no {s' : St} {er : Int} (hb : Below lo w w') (h0 : er ≠ 0) : AddOut w w' lo g bm h s' er (.returned (.int .i64 er)) := ⟨rfl, fun e => absurd e h0, hb⟩
theorem Holds.at (H : Holds w lo g bm h s) : ∃ sv dv, MkgAt w g h s sv dv bm := by obtain ⟨sv, dv, _, a1, _⟩ := H.ex; exact ⟨sv, dv, a1⟩
theorem Holds.lt (H : Holds w lo g bm h s) : lo ≤ w.heap.size := by obtain ⟨_, _, a1⟩ := H.at; exact Nat.le_trans H.lo1 (Nat.le_of_lt a1.lt)

set_option maxRecDepth 20000 in
theorem addTrie_any (H : Holds w lo g bm h s) (x : Int × Int) (hl : s.met.length < 1000000) :
    Calls Tryz.prog 153 #[.pointer (some ⟨g, 0, none⟩), spanV x] w fun e w' => AddOut w w' lo g bm h (trieS s x) (trieE s x) e := by
  obtain ⟨X, Y⟩ := x
  unfold spanV
  have gA := grown1 w (.cells #[.int .u64 X, .int .u64 Y] 39)
  have HA := Lib.hid (H.grown gA)
  have SA := Lib.hid (show SpanAt (w.alloc (.cells #[.int .u64 X, .int .u64 Y] 39)) w.heap.size (X, Y) from heap_alloc_new w _)
  have BA := Lib.hid (below_grown gA H.lt (by simp) : Below lo w (w.alloc (.cells #[.int .u64 X, .int .u64 Y] 39)))
  have LO := Lib.hid HA.out.lt
  obtain ⟨sv, dv, a1⟩ := HA.out.at
  clear H gA
  obtain ⟨wA, hwA⟩ : ∃ wA, w.alloc (.cells #[.int .u64 X, .int .u64 Y] 39) = wA := ⟨_, rfl⟩
  obtain ⟨b, hb⟩ : ∃ b, w.heap.size = b := ⟨_, rfl⟩
  rw [hwA] at HA SA BA LO a1
  rw [hb] at SA
  have s0 : wA.cell? ⟨b, 0, none⟩ = some (.int .u64 X) := by rw [cell_of SA.out]; rfl
  have s1 : wA.cell? ⟨b, 1, none⟩ = some (.int .u64 Y) := by rw [cell_of SA.out]; rfl
  have sl := lt_of_block SA.out
  have c14 := a1.c 14 (.int .u64 s.tr.1) rfl
  have c15 := a1.c 15 (.int .u64 s.tr.2) rfl
  have f14 := a1.fz 14
  have f15 := a1.fz 15
  have gl := a1.lt
  clear a1
  have OT := Lib.hid (show trieE s (X, Y) = if Y = 0 then 0 else onceE s 2147483699 from rfl)
  have ST := Lib.hid (show trieS s (X, Y) = if Y = 0 then s else { s with tr := (X, Y) }.meet 2147483699 from rfl)
  by_cases h0 : Y = 0
  · have OE := Lib.hid (OT.out.trans (if_pos h0))
    have SE := Lib.hid (ST.out.trans (if_pos h0))
    have hd : (Y == 0) = true := by simpa using h0
    clear h0
    go_enter Tryz.func153, Tryz.ntmps153
    go_wp2
    go_ret
    exact ⟨by rw [OE.out]; rfl, fun _ => by rw [SE.out]; exact HA.out, BA.out⟩
  · have OE := Lib.hid (OT.out.trans (if_neg h0))
    have SE := Lib.hid (ST.out.trans (if_neg h0))
    have hd : (Y == 0) = false := by simpa using h0
    have g2 := grown_put2 (grown_refl wA (some g)) (.int .u64 X) (.int .u64 Y)
    have gS := grown_setCell (i := 15) (grown_setCell (i := 14) (grown_refl wA (some g)) (.int .u64 X)) (.int .u64 Y)
    have HB := Lib.hid (HA.out.cells (s' := { s with tr := (X, Y) }) gS (fun sv dv a => by
      unfold MkgAt
      rw [heap_setCell_same _ g 15 _ _ _ (heap_setCell_same wA g 14 _ _ _ a)]
      rfl) rfl rfl rfl)
    have BB := Lib.hid (BA.out.trans (below_of gS HA.out.lo1 LO.out))
    have ON := Lib.hid (once_any HB.out 2147483699 (by decide) hl)
    clear h0 g2 gS
    go_enter Tryz.func153, Tryz.ntmps153
    go_wp2_with fail
    refine ON.out.mono ?_
    intro e w2 hO
    have OO := Lib.hid (hO.after BB.out)
    obtain rfl := hO.val
    clear hO
    go_wp2
    go_ret
    refine ⟨by rw [OE.out]; rfl, fun hz => ?_, OO.out.below⟩
    rw [SE.out]
    exact OO.out.good (OE.out.symm.trans hz)

set_option maxRecDepth 20000 in
theorem addName_any (H : Holds w lo g bm h s) (b : List Int) (q : Option Addr) (c n : Nat) (hb : IsBytes w q c b) (hn : b.length = n) (hn47 : n ≤ 140737488355328) (hr : Small b) (hl : s.met.length < 1000000) :
    Calls Tryz.prog 120 #[.pointer (some ⟨g, 0, none⟩), .slice q n c] w fun e w' => AddOut w w' lo g bm h (ownS s b) (ownE s b) e := by
  have NA := Lib.hid (Name_any (w := w) b q c n hb hn hn47 hr)
  have HH := Lib.hid H
  have OT := Lib.hid (show ownE s b = if nameErr b ≠ 0 then nameErr b else onceE s 13 from rfl)
  have ST := Lib.hid (show ownS s b = { s with name := nameOf b }.meet 13 from rfl)
  have NV := Lib.hid (show nameErr b = 0 → nameV b = nameOf b from fun h => by unfold nameV; rw [if_pos h])
  clear H hb hn hr
  obtain ⟨E, hE⟩ : ∃ E, E = nameErr b := ⟨_, rfl⟩
  obtain ⟨T, hT⟩ : ∃ T, T = nameV b := ⟨_, rfl⟩
  rw [← hE] at NA OT NV
  rw [← hT] at NA NV
  clear hE hT
  by_cases h0 : E = 0
  · subst h0
    have TE := Lib.hid (NV.out rfl)
    have OE := Lib.hid (OT.out.trans (if_neg (by simp)))
    clear OT NV
    go_enter Tryz.func120, Tryz.ntmps120
    go_wp2_with fail
    refine NA.out.mono ?_
    rintro e w1 ⟨rfl, hg⟩
    have H1 := Lib.hid (HH.out.grown hg)
    have B1 := Lib.hid (below_grown hg HH.out.lt (by simp) : Below lo w w1)
    obtain ⟨sv, dv, a1⟩ := H1.out.at
    have c3 := a1.c 3 (.string (strOfNums s.name)) rfl
    have f3 := a1.fz 3
    have gl := a1.lt
    have gS := grown_setCell (i := 3) (grown_refl w1 (some g)) (.string (strOfNums T))
    have H2 := Lib.hid (H1.out.cells (s' := { s with name := nameOf b }) gS (fun sv dv a => by
      unfold MkgAt
      rw [heap_setCell_same w1 g 3 _ _ _ a, TE.out]
      rfl) rfl rfl rfl)
    have B2 := Lib.hid (B1.out.trans (below_of gS H1.out.lo1 H1.out.lt))
    have ON := Lib.hid (once_any H2.out 13 (by decide) hl)
    clear hg a1 gS
    go_wp2_with fail
    refine ON.out.mono ?_
    intro e w2 hO
    have OO := Lib.hid (hO.after B2.out)
    obtain rfl := hO.val
    clear hO
    go_wp2
    go_ret
    exact ⟨by rw [OE.out]; rfl, fun hz => by rw [ST.out]; exact OO.out.good (OE.out.symm.trans hz), OO.out.below⟩
  · have OE := Lib.hid (OT.out.trans (if_pos h0))
    have hne : (E != 0) = true := by simpa using h0
    have H0 := Lib.hid h0
    clear h0
    go_enter Tryz.func120, Tryz.ntmps120
    go_wp2_with fail
    refine NA.out.mono ?_
    rintro e w1 ⟨rfl, hg⟩
    have B1 := Lib.hid (below_grown hg HH.out.lt (by simp) : Below lo w w1)
    clear hg
    go_wp2
    go_ret
    exact ⟨by rw [OE.out]; rfl, fun hz => absurd (OE.out.symm.trans hz) H0.out, B1.out⟩

set_option maxRecDepth 20000 in
theorem addEntry_any (H : Holds w lo g bm h s) (b : List Int) (q : Option Addr) (c n : Nat) (hb : IsBytes w q c b) (hn : b.length = n) (hn47 : n ≤ 140737488355328) (hr : Small b) (hl : s.met.length < 1000000) (hc : cmdAt b = 2147483688) :
    Calls Tryz.prog 123 #[.pointer (some ⟨g, 0, none⟩), .slice q n c] w fun e w' => AddOut w w' lo g bm h (entS s b) (entE s b) e := by
  have OP := Lib.hid (open_any (w := w) b q c n hb hn hn47 hr)
  have HH := Lib.hid H
  have HN := Lib.hid hn
  have OT := Lib.hid (show entE s b = if shortB b then 3 else onceE s 2147483688 from rfl)
  have ST := Lib.hid (show entS s b = { s with entry := numAt b 8 8, has := true }.meet 2147483688 from rfl)
  clear H hb hn hr
  by_cases hs : shortB b
  · have SH := Lib.hid hs
    have OE := Lib.hid (OT.out.trans (if_pos hs))
    clear hs
    go_enter Tryz.func123, Tryz.ntmps123
    go_wp2_with fail
    refine OP.out.mono ?_
    rintro e w1 ⟨hbad, _, hg⟩
    have B1 := Lib.hid (below_grown hg HH.out.lt (by simp) : Below lo w w1)
    obtain rfl := hbad SH.out
    clear hbad hg
    go_wp2
    go_ret
    exact ⟨by rw [OE.out]; rfl, fun hz => (by rw [OE.out] at hz; cases hz), B1.out⟩
  · have SH := Lib.hid hs
    have OE := Lib.hid (OT.out.trans (if_neg hs))
    have h24 : 24 ≤ b.length := by
      have h1 : ¬ ((b.length : Int) < leastN (cmdAt b)) := fun h => hs (.inr h)
      rw [hc, show leastN 2147483688 = 24 by decide] at h1
      omega
    have H24 := Lib.hid h24
    obtain ⟨V, hV⟩ : ∃ V, V = numAt b 8 8 := ⟨_, rfl⟩
    have VE := Lib.hid hV
    clear hs h24 hV hc
    go_enter Tryz.func123, Tryz.ntmps123
    go_wp2_with fail
    refine OP.out.mono ?_
    rintro e w1 ⟨_, hgood, hg⟩
    obtain ⟨a, hi, rfl, hp⟩ := hgood SH.out
    have H1 := Lib.hid (HH.out.grown hg)
    have B1 := Lib.hid (below_grown hg HH.out.lt (by simp) : Below lo w w1)
    have P1 := Lib.hid hp
    have G1 := Lib.hid hg
    clear hgood hg hp
    go_wp2_with fail
    refine (pen_num P1.out 8 (.inr (.inr (.inr rfl))) (by have := H24.out; omega)).mono ?_
    rintro e w2 ⟨rfl, hp, hg⟩
    rw [show numOf false ((b.drop 8).take 8) = V from VE.out.symm]
    have g2 := grown_new G1.out hg P1.out.lw
    have H2 := Lib.hid (HH.out.grown g2)
    have B2 := Lib.hid (below_grown g2 HH.out.lt (by simp) : Below lo w w2)
    obtain ⟨sv, dv, a1⟩ := H2.out.at
    have c22 := a1.c 22 (.int .u64 s.entry) rfl
    have c23 := a1.c 23 (.bool s.has) rfl
    have f22 := a1.fz 22
    have f23 := a1.fz 23
    have gl := a1.lt
    have gS := grown_setCell (i := 23) (grown_setCell (i := 22) (grown_refl w2 (some g)) (.int .u64 V)) (.bool true)
    have H3 := Lib.hid (H2.out.cells (s' := { s with entry := numAt b 8 8, has := true }) gS (fun sv dv a => by
      unfold MkgAt
      rw [heap_setCell_same _ g 23 _ _ _ (heap_setCell_same w2 g 22 _ _ _ a), VE.out]
      rfl) rfl rfl rfl)
    have B3 := Lib.hid (B2.out.trans (below_of gS H2.out.lo1 H2.out.lt))
    have ON := Lib.hid (once_any H3.out 2147483688 (by decide) hl)
    clear hg hp a1 gS g2
    go_wp2_with fail
    refine ON.out.mono ?_
    intro e w3 hO
    have OO := Lib.hid (hO.after B3.out)
    obtain rfl := hO.val
    clear hO
    go_wp2
    go_ret
    exact ⟨by rw [OE.out]; rfl, fun hz => by rw [ST.out]; exact OO.out.good (OE.out.symm.trans hz), OO.out.below⟩

/-- A dependency more, in its row; and the making's cell that leads to it. -/
theorem holds_dep {wA w3 : World} {sv dv dv' : Value} {l : List Sg} {x : List Int × Int} (a1 : MkgAt wA g h s sv dv bm) (a2 : l.map Sg.seg = s.segs) (a3 : wA.ownsRow lo 58 7 sv l.length (l.flatMap sgCs))
    (a4 : ∀ x ∈ l, wA.ownsRow lo 148 6 x.v x.seg.secs.length (x.seg.secs.flatMap secCs)) (a5 : wA.ownsRow lo 141 2 dv s.deps.length (s.deps.flatMap depCs)) (am : MetAt wA bm s.met) (l1 : lo ≤ g) (l2 : lo ≤ bm)
    (ho : w3.ownsRow lo 141 2 dv' (s.deps.length + 1) (s.deps.flatMap depCs ++ depCs x)) (hg : wA.grownBy w3 dv.ownBlock) : Holds (w3.setCell ⟨g, 5, none⟩ dv') lo g bm h { s with deps := s.deps ++ [x] } := by
  have hT := typesApart
  have ng : dv.ownBlock ≠ some g := by
    rcases row_off a5 a1 hT.2.2.1 with e | e
    · rw [e]; simp
    · exact e
  have nm : dv.ownBlock ≠ some bm := by
    rcases row_off_map a5 am with e | e
    · rw [e]; simp
    · exact e
  have b1 := a1.kept hg ng
  have bm' := am.kept hg nm
  have b3 := a3.kept hg (rows_apart hT.2.2.2.2.2.1 a3 a5)
  have b4 : ∀ x ∈ l, w3.ownsRow lo 148 6 x.v x.seg.secs.length (x.seg.secs.flatMap secCs) := fun x hx => (a4 x hx).kept hg (rows_apart hT.2.2.2.2.2.2 (a4 x hx) a5)
  have gS := grown_setCell (i := 5) (grown_refl w3 (some g)) dv'
  refine ⟨⟨sv, dv', l, ?_, a2, b3.kept gS (row_off b3 b1 hT.1), fun x hx => (b4 x hx).kept gS (row_off (b4 x hx) b1 hT.2.1), ?_⟩, bm'.kept gS (fun e => mkg_off_map b1 bm' (by injection e)), l1, l2⟩
  · unfold MkgAt
    rw [heap_setCell_same w3 g 5 _ _ _ b1]
    rfl
  · have := ho.kept gS (row_off ho b1 hT.2.2.1)
    show World.ownsRow _ _ _ _ _ (s.deps ++ [x]).length ((s.deps ++ [x]).flatMap depCs)
    rw [List.length_append, List.flatMap_append]
    simpa using this

set_option maxRecDepth 20000 in
theorem addDep_any (H : Holds w lo g bm h s) (b : List Int) (q : Option Addr) (c n : Nat) (hb : IsBytes w q c b) (hn : b.length = n) (hn47 : n ≤ 140737488355328) (hr : Small b) (k : Int) (hd64 : s.deps.length ≤ 64) :
    Calls Tryz.prog 121 #[.pointer (some ⟨g, 0, none⟩), .slice q n c, .int .i64 k] w fun e w' => AddOut w w' lo g bm h (depS s b k) (depE s b) e := by
  have NA := Lib.hid (Name_any (w := w) b q c n hb hn hn47 hr)
  have HH := Lib.hid H
  have OT := Lib.hid (show depE s b = if nameErr b ≠ 0 then nameErr b else if s.deps.length = 64 then 11 else 0 from rfl)
  have ST := Lib.hid (show depS s b k = { s with deps := s.deps ++ [(nameOf b, k)] } from rfl)
  have NV := Lib.hid (show nameErr b = 0 → nameV b = nameOf b from fun h => by unfold nameV; rw [if_pos h])
  clear H hb hn hr
  obtain ⟨E, hE⟩ : ∃ E, E = nameErr b := ⟨_, rfl⟩
  obtain ⟨T, hT⟩ : ∃ T, T = nameV b := ⟨_, rfl⟩
  rw [← hE] at NA OT NV
  rw [← hT] at NA NV
  clear hE hT
  by_cases h0 : E = 0
  · subst h0
    have TE := Lib.hid (NV.out rfl)
    have OE := Lib.hid (OT.out.trans (if_neg (by simp)))
    clear OT NV
    go_enter Tryz.func121, Tryz.ntmps121
    go_wp2_with fail
    refine NA.out.mono ?_
    rintro e w1 ⟨rfl, hg⟩
    have H1 := Lib.hid (HH.out.grown hg)
    have B1 := Lib.hid (below_grown hg HH.out.lt (by simp) : Below lo w w1)
    obtain ⟨sv, dv, l, a1, a2, a3, a4, a5⟩ := H1.out.ex
    obtain ⟨qd, cd, rfl⟩ := own_slice a5
    have c5 := a1.c 5 (.slice qd s.deps.length cd) rfl
    have f5 := a1.fz 5
    have gl := a1.lt
    clear hg
    by_cases hfull : s.deps.length = 64
    · have OF := Lib.hid (OE.out.trans (if_pos hfull))
      rw [hfull] at c5
      clear a1 a2 a3 a4 a5
      go_wp2
      go_ret
      exact ⟨by rw [OF.out]; rfl, fun hz => (by rw [OF.out] at hz; cases hz), B1.out⟩
    · have OF := Lib.hid (OE.out.trans (if_neg hfull))
      have hd : ((s.deps.length : Int) == 64) = false := by simp; omega
      have hlt : s.deps.length < 64 := by omega
      obtain ⟨D, hD⟩ : ∃ D, D = s.deps.length := ⟨_, rfl⟩
      have A5 := a5
      rw [← hD] at c5 hd hlt A5
      have DE := Lib.hid hD
      have g2 := grown1 w1 (.cells #[.string (strOfNums T), .int .i64 k] 141)
      have HD := Lib.hid (fun (w3 : World) (dv' : Value) (ho : w3.ownsRow lo 141 2 dv' (D + 1) (s.deps.flatMap depCs ++ depCs (T, k))) (hg : (w1.alloc (.cells #[.string (strOfNums T), .int .i64 k] 141)).grownBy w3 (Value.slice qd s.deps.length cd).ownBlock) =>
        holds_dep (x := (T, k)) (a1.kept g2 (by simp)) a2 (own_grown a3 g2) (fun x hx => own_grown (a4 x hx) g2) (own_grown a5 g2) (H1.out.met.kept g2 (by simp)) H1.out.lo1 H1.out.lo2 (hD ▸ ho) hg)
      have NG := Lib.hid (row_off (own_grown a5 g2) (a1.kept g2 (by simp)) typesApart.2.2.1)
      have AK := Lib.hid (a1.kept g2 (by simp))
      have OW := Lib.hid A5
      have L1 := Lib.hid H1.out.lt
      clear hD a1 a2 a3 a4 a5 A5 g2 hfull
      go_wp2_with (at_builtin; refine wp_append_st depType rfl _ _ rfl _ D _ rfl (own_grown OW.out (grown1 w1 (.cells #[.string (strOfNums T), .int .i64 k] 141))) (depCs (T, k)) rfl w1.heap.size rfl (heap_alloc_new w1 _) (depCs_one _) (by omega) (by decide) ?_ ?_)
      · rw [World.size_alloc]; have := L1.out; omega
      intro v' w3 ho hg3
      obtain ⟨q3, c3, rfl⟩ := own_slice ho
      have hgx : (w1.alloc (.cells #[.string (strOfNums T), .int .i64 k] 141)).grownBy w3 (Value.slice qd s.deps.length cd).ownBlock := by rw [← DE.out]; exact hg3
      have HF := Lib.hid (HD.out w3 _ ho hgx)
      have ng : (Value.slice qd s.deps.length cd).ownBlock ≠ some g := by
        rcases NG.out with e | e
        · rw [e]; simp
        · exact e
      have K3 := Lib.hid (AK.out.kept hgx ng)
      have c5' := K3.out.c 5 (.slice qd s.deps.length cd) rfl
      have f5' := K3.out.fz 5
      have gl' := K3.out.lt
      have hlo := fun g' (e : (Value.slice qd s.deps.length cd).ownBlock = some g') => (show lo ≤ g' by rw [← DE.out] at e; exact (OW.out.lt g' e).1)
      have B3 := Lib.hid (B1.out.trans (Below.trans (below_grown (grown1 w1 (.cells #[.string (strOfNums T), .int .i64 k] 141)) L1.out (by simp)) (below_grown hgx (by rw [World.size_alloc]; have := L1.out; omega) hlo)))
      have B4 := Lib.hid (B3.out.trans (below_of (grown_setCell (i := 5) (grown_refl w3 (some g)) (.slice q3 (D + 1) c3)) H1.out.lo1 (by have h1 := hgx.size; rw [World.size_alloc] at h1; have := L1.out; omega)))
      clear ho hg3 hgx c5 f5 gl ng
      go_wp2
      go_ret
      exact ⟨by rw [OF.out]; rfl, fun _ => by rw [ST.out, ← TE.out]; exact HF.out, B4.out⟩
  · have OE := Lib.hid (OT.out.trans (if_pos h0))
    have hne : (E != 0) = true := by simpa using h0
    have H0 := Lib.hid h0
    clear h0
    go_enter Tryz.func121, Tryz.ntmps121
    go_wp2_with fail
    refine NA.out.mono ?_
    rintro e w1 ⟨rfl, hg⟩
    have B1 := Lib.hid (below_grown hg HH.out.lt (by simp) : Below lo w w1)
    clear hg
    go_wp2
    go_ret
    exact ⟨by rw [OE.out]; rfl, fun hz => absurd (OE.out.symm.trans hz) H0.out, B1.out⟩
end Go.Proofs.YtdagnkdonlfobaaGreat

/- Spans are taken into an image in the making. No condition but that the command has at most 2^47 bytes. -/
namespace Go.Proofs.YtdagnkdonlfobaaGreat
open Go.RowKit
variable {w w' : World} {lo g bm : Nat} {h : Hx} {s : St}

theorem spanApart : 39 ≠ 158 := by decide
/-- Of a row of spans: the cells of one. -/
theorem span_cells {base n c : Nat} {q : Option Addr} {l : List (Int × Int)} (hw : w.ownsRow base 39 2 (.slice q n c) n (l.flatMap spanCs)) {i : Nat} {x : Int × Int} (hx : l[i]? = some x) :
    ∃ r, q = some ⟨r, 0, none⟩ ∧ w.cell? ⟨r, i * 2, none⟩ = some (.int .u64 x.1) ∧ w.cell? ⟨r, i * 2 + 1, none⟩ = some (.int .u64 x.2) := by
  obtain ⟨r, hq, h0⟩ := row_cell spanCs_len hw hx (show 0 < 2 by decide)
  obtain ⟨r', hq', h1⟩ := row_cell spanCs_len hw hx (show 1 < 2 by decide)
  rw [hq] at hq'
  injection hq' with e
  injection e with e
  subst e
  exact ⟨r, hq, h0, h1⟩
theorem own_cap {base n c : Nat} {q : Option Addr} {T : TypeId} {k : Nat} {xs : List Value} (hw : w.ownsRow base T k (.slice q n c) n xs) : n ≤ c := by
  rcases hw.2 with ⟨e, e0⟩ | ⟨g, cap, cur, hv, _, _, h1, _⟩
  · injection e with _ _ e3; omega
  · injection hv with _ _ e3; omega

theorem MkgAt.put_rb {sv dv : Value} (k : MkgAt w g h s sv dv bm) (X Y : Int) : MkgAt ((w.setCell ⟨g, 6, none⟩ (.int .u64 X)).setCell ⟨g, 7, none⟩ (.int .u64 Y)) g h { s with rb := (X, Y) } sv dv bm := by
  unfold MkgAt
  rw [heap_setCell_same _ g 7 _ _ _ (heap_setCell_same w g 6 _ _ _ k)]
  rfl
theorem MkgAt.put_bd {sv dv : Value} (k : MkgAt w g h s sv dv bm) (X Y : Int) : MkgAt ((w.setCell ⟨g, 8, none⟩ (.int .u64 X)).setCell ⟨g, 9, none⟩ (.int .u64 Y)) g h { s with bd := (X, Y) } sv dv bm := by
  unfold MkgAt
  rw [heap_setCell_same _ g 9 _ _ _ (heap_setCell_same w g 8 _ _ _ k)]
  rfl
theorem MkgAt.put_wk {sv dv : Value} (k : MkgAt w g h s sv dv bm) (X Y : Int) : MkgAt ((w.setCell ⟨g, 10, none⟩ (.int .u64 X)).setCell ⟨g, 11, none⟩ (.int .u64 Y)) g h { s with wk := (X, Y) } sv dv bm := by
  unfold MkgAt
  rw [heap_setCell_same _ g 11 _ _ _ (heap_setCell_same w g 10 _ _ _ k)]
  rfl
theorem MkgAt.put_lz {sv dv : Value} (k : MkgAt w g h s sv dv bm) (X Y : Int) : MkgAt ((w.setCell ⟨g, 12, none⟩ (.int .u64 X)).setCell ⟨g, 13, none⟩ (.int .u64 Y)) g h { s with lz := (X, Y) } sv dv bm := by
  unfold MkgAt
  rw [heap_setCell_same _ g 13 _ _ _ (heap_setCell_same w g 12 _ _ _ k)]
  rfl
theorem MkgAt.drew {sv dv : Value} (k : MkgAt w g h s sv dv bm) : MkgAt w.drew g h s sv dv bm := k
theorem holds_info (H : Holds w lo g bm h s) (X0 Y0 X1 Y1 X2 Y2 X3 Y3 : Int) : Holds ((((((((w.setCell ⟨g, 6, none⟩ (.int .u64 X0)).setCell ⟨g, 7, none⟩ (.int .u64 Y0)).setCell ⟨g, 8, none⟩ (.int .u64 X1)).setCell ⟨g, 9, none⟩ (.int .u64 Y1)).setCell ⟨g, 10, none⟩ (.int .u64 X2)).setCell ⟨g, 11, none⟩ (.int .u64 Y2)).setCell ⟨g, 12, none⟩ (.int .u64 X3)).setCell ⟨g, 13, none⟩ (.int .u64 Y3)).drew lo g bm h { s with rb := (X0, Y0), bd := (X1, Y1), wk := (X2, Y2), lz := (X3, Y3) } ∧ w.grownBy ((((((((w.setCell ⟨g, 6, none⟩ (.int .u64 X0)).setCell ⟨g, 7, none⟩ (.int .u64 Y0)).setCell ⟨g, 8, none⟩ (.int .u64 X1)).setCell ⟨g, 9, none⟩ (.int .u64 Y1)).setCell ⟨g, 10, none⟩ (.int .u64 X2)).setCell ⟨g, 11, none⟩ (.int .u64 Y2)).setCell ⟨g, 12, none⟩ (.int .u64 X3)).setCell ⟨g, 13, none⟩ (.int .u64 Y3)).drew (some g) := by
  have gS : w.grownBy ((((((((w.setCell ⟨g, 6, none⟩ (.int .u64 X0)).setCell ⟨g, 7, none⟩ (.int .u64 Y0)).setCell ⟨g, 8, none⟩ (.int .u64 X1)).setCell ⟨g, 9, none⟩ (.int .u64 Y1)).setCell ⟨g, 10, none⟩ (.int .u64 X2)).setCell ⟨g, 11, none⟩ (.int .u64 Y2)).setCell ⟨g, 12, none⟩ (.int .u64 X3)).setCell ⟨g, 13, none⟩ (.int .u64 Y3)).drew (some g) := grown_drewN (grown_setCell (grown_setCell (grown_setCell (grown_setCell (grown_setCell (grown_setCell (grown_setCell (grown_setCell (grown_refl w (some g)) _) _) _) _) _) _) _) _) 1
  exact ⟨H.cells gS (fun sv dv a => ((((a.put_rb X0 Y0).put_bd X1 Y1).put_wk X2 Y2).put_lz X3 Y3).drew) rfl rfl rfl, gS⟩
/-- What the spans' command needs: what it is, and where it lies. -/
structure SpArg (w : World) (m : Cm) : Prop where
  cmd : m.cmd = cmdAt m.bytes
  fits : m.Fits
  at' : IsBytes w m.q m.cap m.bytes
  len : m.bytes.length ≤ 140737488355328
  kind : isInfo m.cmd ∨ isLone m.cmd ∨ m.cmd = 2

set_option maxHeartbeats 3200000 in
set_option maxRecDepth 20000 in
theorem addSpans_any (H : Holds w lo g bm h s) (m : Cm) (A : SpArg w m) (hl' : s.met.length < 900000) :
    Calls Tryz.prog 122 #[.pointer (some ⟨g, 0, none⟩), m.v] w fun e w' => AddOut w w' lo g bm h (spS s m.bytes) (spE s m.bytes) e := by
  have hl : s.met.length < 1000000 := by omega
  obtain ⟨cm, q, c, b⟩ := m
  obtain ⟨hcm, hfit, hib, hb47, hkind⟩ := A
  simp only [] at hcm hfit hib hb47 hkind
  unfold Cm.v
  simp only []
  obtain ⟨n, hn⟩ : ∃ n, b.length = n := ⟨_, rfl⟩
  rw [hn] at hb47 ⊢
  have g1 := grown1 w (.cells #[.int .u32 cm, .slice q n c] 109)
  have HA := Lib.hid (H.grown g1)
  have CA := Lib.hid (show (w.alloc (.cells #[.int .u32 cm, .slice q n c] 109)).heap[w.heap.size]? = some (.cells #[.int .u32 cm, .slice q n c] 109 (0, 0)) from heap_alloc_new w _)
  have BA := Lib.hid (below_grown g1 H.lt (by simp) : Below lo w (w.alloc (.cells #[.int .u32 cm, .slice q n c] 109)))
  have IA := Lib.hid (hib.kept g1 (by simp))
  obtain ⟨wA, hwA⟩ : ∃ wA, w.alloc (.cells #[.int .u32 cm, .slice q n c] 109) = wA := ⟨_, rfl⟩
  obtain ⟨x, hx⟩ : ∃ x, w.heap.size = x := ⟨_, rfl⟩
  rw [hwA] at HA CA BA IA
  rw [hx] at CA
  have SP := Lib.hid (Spans_any (w := wA) b q c n IA.out hn hb47 hfit.bytes)
  have CM := Lib.hid hcm
  have k0 : wA.cell? ⟨x, 0, none⟩ = some (.int .u32 cm) := by rw [cell_of CA.out]; rfl
  have k1 : wA.cell? ⟨x, 1, none⟩ = some (.slice q n c) := by rw [cell_of CA.out]; rfl
  have kl := lt_of_block CA.out
  have OT := Lib.hid (show spE s b = if spansErr b ≠ 0 then spansErr b else if isInfo (cmdAt b) then (if onceE s 34 ≠ 0 then onceE s 34 else trieE (infoS s b) (spanAt b 40 1)) else if cmdAt b = 2147483699 then trieE s (spanAt b 8 1) else onceE s (cmdAt b) from rfl)
  have ST := Lib.hid (show spS s b = if isInfo (cmdAt b) then trieS (infoS s b) (spanAt b 40 1) else if cmdAt b = 2147483699 then trieS s (spanAt b 8 1) else if cmdAt b = 2147483700 then { s with ch := spanAt b 8 1 }.meet (cmdAt b) else { s with sy := spanAt b 8 16, st := spanAt b 16 1 }.meet (cmdAt b) from rfl)
  have FO := Lib.hid (show spansOf b = if isInfo (cmdAt b) then [spanAt b 8 1, spanAt b 16 1, spanAt b 24 1, spanAt b 32 1, spanAt b 40 1] else if isLone (cmdAt b) then [spanAt b 8 1] else if cmdAt b = 2 then [spanAt b 8 16, spanAt b 16 1] else [] from rfl)
  rw [← hcm] at OT ST FO
  clear H hib hfit hcm g1 hn
  by_cases h0 : spansErr b = 0
  rotate_left
  · have OE := Lib.hid (OT.out.trans (if_pos h0))
    have H0 := Lib.hid h0
    have hne : (spansErr b != 0) = true := by simpa using h0
    obtain ⟨E, hE⟩ : ∃ E, E = spansErr b := ⟨_, rfl⟩
    rw [← hE] at hne
    have EE := Lib.hid hE
    clear h0 hE
    go_enter Tryz.func122, Tryz.ntmps122
    go_wp2_with fail
    refine SP.out.mono ?_
    rintro e w1 ⟨hbad, _, hg⟩
    have B1 := Lib.hid (BA.out.trans (below_grown hg HA.out.lt (by simp)))
    obtain rfl := hbad H0.out
    rw [← EE.out]
    clear hbad hg
    go_wp2
    go_ret
    exact ⟨by rw [OE.out, ← EE.out]; rfl, fun hz => absurd (OE.out.symm.trans hz) H0.out, B1.out⟩
  have OE := Lib.hid (OT.out.trans (if_neg (fun h => h h0)))
  have H0 := Lib.hid h0
  clear h0 OT
  by_cases hi : isInfo cm
  · have OI := Lib.hid (OE.out.trans (if_pos hi))
    have SI := Lib.hid (ST.out.trans (if_pos hi))
    have FI := Lib.hid (FO.out.trans (if_pos hi))
    have hbs : (cm == 34) = true ∨ ((cm == 34) = false ∧ (cm == 2147483682) = true) := by
      rcases hi with rfl | rfl
      · exact .inl rfl
      · exact .inr ⟨rfl, rfl⟩
    have OI0 := Lib.hid (show onceE s 34 = if (34 : Int) ∈ s.met then 21 else 0 from rfl)
    clear OE ST FO hi hkind
    rcases hbs with b1 | ⟨b1, b2⟩
    all_goals
      go_enter Tryz.func122, Tryz.ntmps122
      go_wp2_with fail
      refine SP.out.mono ?_
      rintro e w1 ⟨_, hgood, hg⟩
      obtain ⟨q1, N, c1, base, hN, rfl, hown, hbase⟩ := hgood H0.out
      rw [FI.out] at hN hown
      obtain rfl : N = 5 := hN
      have e0 := grown_cell hg k0
      have e1 := grown_cell hg k1
      have H1 := Lib.hid (HA.out.grown hg)
      have B1 := Lib.hid (BA.out.trans (below_grown hg HA.out.lt (by simp)))
      have OW := Lib.hid hown
      have ON := Lib.hid (once_both H1.out 34 (by decide) hl)
      clear hgood hg hown hbase
      go_wp2_with fail
      refine ON.out.mono ?_
      rintro e w2 ⟨hO, hgm⟩
      have OO := Lib.hid hO
      have RB := Lib.hid (OW.out.kept hgm (row_off_map OW.out H1.out.met))
      obtain rfl := hO.val
      have B2 := Lib.hid (B1.out.trans OO.out.below)
      clear hO hgm ON
      by_cases hin : (34 : Int) ∈ s.met
      · have E21 := OI0.out.trans (if_pos hin)
        rw [E21]
        have OZ := Lib.hid (OI.out.trans (if_pos (by rw [E21]; decide)))
        have EH := Lib.hid E21
        clear E21 hin e0 e1
        go_wp2
        go_ret
        exact ⟨by rw [OZ.out, EH.out]; rfl, fun hz => (by rw [OZ.out, EH.out] at hz; cases hz), B2.out⟩
      · have E0 := OI0.out.trans (if_neg hin)
        rw [E0]
        have OZ := Lib.hid (OI.out.trans (if_neg (by rw [E0]; decide)))
        have H2 := Lib.hid (OO.out.good E0)
        obtain ⟨⟨X0, Y0⟩, h0e⟩ : ∃ z, z = spanAt b 8 1 := ⟨_, rfl⟩
        obtain ⟨⟨X1, Y1⟩, h1e⟩ : ∃ z, z = spanAt b 16 1 := ⟨_, rfl⟩
        obtain ⟨⟨X2, Y2⟩, h2e⟩ : ∃ z, z = spanAt b 24 1 := ⟨_, rfl⟩
        obtain ⟨⟨X3, Y3⟩, h3e⟩ : ∃ z, z = spanAt b 32 1 := ⟨_, rfl⟩
        obtain ⟨⟨X4, Y4⟩, h4e⟩ : ∃ z, z = spanAt b 40 1 := ⟨_, rfl⟩
        have IS := Lib.hid (show infoS s b = { s.meet 34 with rb := spanAt b 8 1, bd := spanAt b 16 1, wk := spanAt b 24 1, lz := spanAt b 32 1 } from rfl)
        rw [← h0e, ← h1e, ← h2e, ← h3e] at IS
        rw [← h0e, ← h1e, ← h2e, ← h3e, ← h4e] at RB
        rw [← h4e] at OZ SI
        obtain ⟨r, rfl, r0, r1⟩ := span_cells RB.out (i := 0) rfl
        obtain ⟨r', hr', r2, r3⟩ := span_cells RB.out (i := 1) rfl
        obtain rfl : r' = r := by injection hr' with e; injection e with e; exact e.symm
        obtain ⟨r'', hr'', r4, r5⟩ := span_cells RB.out (i := 2) rfl
        obtain rfl : r'' = r' := by injection hr'' with e; injection e with e; exact e.symm
        obtain ⟨ra, hra, r6, r7⟩ := span_cells RB.out (i := 3) rfl
        obtain rfl : ra = r'' := by injection hra with e; injection e with e; exact e.symm
        obtain ⟨rb, hrb, r8, r9⟩ := span_cells RB.out (i := 4) rfl
        obtain rfl : rb = ra := by injection hrb with e; injection e with e; exact e.symm
        simp only [] at r0 r1 r2 r3 r4 r5 r6 r7 r8 r9
        have hcap := own_cap RB.out
        have hc4 : ¬ c1 = 4 := by omega
        have hc5 : (5 : Int) ≤ (c1 : Int) := by omega
        have e0' : True := trivial
        obtain ⟨sv, dv, a1⟩ := H2.out.at
        have c6 := a1.c 6 (.int .u64 s.rb.1) rfl
        have c7 := a1.c 7 (.int .u64 s.rb.2) rfl
        have c8 := a1.c 8 (.int .u64 s.bd.1) rfl
        have c9 := a1.c 9 (.int .u64 s.bd.2) rfl
        have c10 := a1.c 10 (.int .u64 s.wk.1) rfl
        have c11 := a1.c 11 (.int .u64 s.wk.2) rfl
        have c12 := a1.c 12 (.int .u64 s.lz.1) rfl
        have c13 := a1.c 13 (.int .u64 s.lz.2) rfl
        have f6 := a1.fz 6
        have f7 := a1.fz 7
        have f8 := a1.fz 8
        have f9 := a1.fz 9
        have f10 := a1.fz 10
        have f11 := a1.fz 11
        have f12 := a1.fz 12
        have f13 := a1.fz 13
        have gl := a1.lt
        clear h0e h1e h2e h3e h4e hr' hr'' hra hrb E0 hin e0 e1 a1 e0'
        go_upto_region 13 with fail
        go_region
        obtain ⟨H3, gS⟩ := holds_info H2.out X0 Y0 X1 Y1 X2 Y2 X3 Y3
        have H3 := (IS.out ▸ H3 : Holds _ lo g bm h (infoS s b))
        have B3 := B2.out.trans (below_of gS H2.out.lo1 H2.out.lt)
        have hne : (some g : Option Nat) ≠ some rb := by
          obtain ⟨sv, dv, a1⟩ := H2.out.at
          rcases row_off RB.out a1 spanApart with e | e
          · simp [Value.ownBlock] at e
          · intro e'
            exact e (by simp only [Value.ownBlock]; exact e'.symm)
        have q8 := gS.cell r8 hne.symm
        have q9 := gS.cell r9 hne.symm
        obtain ⟨W, hW⟩ : ∃ W, ((((((((w2.setCell ⟨g, 6, none⟩ (.int .u64 X0)).setCell ⟨g, 7, none⟩ (.int .u64 Y0)).setCell ⟨g, 8, none⟩ (.int .u64 X1)).setCell ⟨g, 9, none⟩ (.int .u64 Y1)).setCell ⟨g, 10, none⟩ (.int .u64 X2)).setCell ⟨g, 11, none⟩ (.int .u64 Y2)).setCell ⟨g, 12, none⟩ (.int .u64 X3)).setCell ⟨g, 13, none⟩ (.int .u64 Y3)).drew = W := ⟨_, rfl⟩
        rw [hW] at H3 B3 q8 q9 ⊢
        have TR := Lib.hid (addTrie_any H3 (X4, Y4) (show (infoS s b).met.length < 1000000 by rw [IS.out]; show (s.met ++ [34]).length < _; rw [List.length_append]; show s.met.length + 1 < _; omega))
        unfold spanV at TR
        simp only [] at TR
        have BB := Lib.hid B3
        clear hW gS H3 B3 r0 r1 r2 r3 r4 r5 r6 r7 r8 r9 c6 c7 c8 c9 c10 c11 c12 c13 f6 f7 f8 f9 f10 f11 f12 f13 gl hne
        go_wp2_with fail
        refine TR.out.mono ?_
        intro e w4 hO
        have OO2 := Lib.hid (hO.after BB.out)
        obtain rfl := hO.val
        clear hO
        go_wp2
        go_ret
        exact ⟨by rw [OZ.out]; rfl, fun hz => by rw [SI.out]; exact OO2.out.good (OZ.out.symm.trans hz), OO2.out.below⟩
  by_cases h99 : cm = 2147483699
  · have OI := Lib.hid (OE.out.trans ((if_neg hi).trans (if_pos h99)))
    have SI := Lib.hid (ST.out.trans ((if_neg hi).trans (if_pos h99)))
    have FI := Lib.hid (FO.out.trans ((if_neg hi).trans (if_pos (.inl h99))))
    subst h99
    clear OE ST FO hi hkind
    go_enter Tryz.func122, Tryz.ntmps122
    go_wp2_with fail
    refine SP.out.mono ?_
    rintro e w1 ⟨_, hgood, hg⟩
    obtain ⟨q1, N, c1, base, hN, rfl, hown, hbase⟩ := hgood H0.out
    rw [FI.out] at hN hown
    obtain rfl : N = 1 := hN
    obtain ⟨r, rfl, r0, r1⟩ := span_cells hown (i := 0) rfl
    have e0 := grown_cell hg k0
    have e1 := grown_cell hg k1
    have H1 := Lib.hid (HA.out.grown hg)
    have B1 := Lib.hid (BA.out.trans (below_grown hg HA.out.lt (by simp)))
    have TR := Lib.hid (addTrie_any H1.out (spanAt b 8 1) hl)
    unfold spanV at TR
    obtain ⟨⟨X, Y⟩, hXY⟩ : ∃ z, z = spanAt b 8 1 := ⟨_, rfl⟩
    rw [← hXY] at r0 r1 TR OI SI
    simp only [] at r0 r1 TR
    clear hgood hg hown hbase hXY k0 k1
    go_wp2_with fail
    refine TR.out.mono ?_
    intro e w2 hO
    have OO := Lib.hid (hO.after B1.out)
    obtain rfl := hO.val
    clear hO
    go_wp2
    go_ret
    exact ⟨by rw [OI.out]; rfl, fun hz => by rw [SI.out]; exact OO.out.good (OI.out.symm.trans hz), OO.out.below⟩
  by_cases h70 : cm = 2147483700
  · have OI := Lib.hid (OE.out.trans ((if_neg hi).trans (if_neg h99)))
    have SI := Lib.hid (ST.out.trans ((if_neg hi).trans ((if_neg h99).trans (if_pos h70))))
    have FI := Lib.hid (FO.out.trans ((if_neg hi).trans (if_pos (.inr h70))))
    subst h70
    clear OE ST FO hi hkind h99
    go_enter Tryz.func122, Tryz.ntmps122
    go_wp2_with fail
    refine SP.out.mono ?_
    rintro e w1 ⟨_, hgood, hg⟩
    obtain ⟨q1, N, c1, base, hN, rfl, hown, hbase⟩ := hgood H0.out
    rw [FI.out] at hN hown
    obtain rfl : N = 1 := hN
    obtain ⟨r, rfl, r0, r1⟩ := span_cells hown (i := 0) rfl
    have e0 := grown_cell hg k0
    have e1 := grown_cell hg k1
    have H1 := Lib.hid (HA.out.grown hg)
    have B1 := Lib.hid (BA.out.trans (below_grown hg HA.out.lt (by simp)))
    obtain ⟨⟨X, Y⟩, hXY⟩ : ∃ z, z = spanAt b 8 1 := ⟨_, rfl⟩
    rw [← hXY] at r0 r1 SI
    simp only [] at r0 r1
    obtain ⟨sv, dv, a1⟩ := H1.out.at
    have c16 := a1.c 16 (.int .u64 s.ch.1) rfl
    have c17 := a1.c 17 (.int .u64 s.ch.2) rfl
    have f16 := a1.fz 16
    have f17 := a1.fz 17
    have gl := a1.lt
    have gS := grown_setCell (i := 17) (grown_setCell (i := 16) (grown_refl w1 (some g)) (.int .u64 X)) (.int .u64 Y)
    have H2 := Lib.hid (H1.out.cells (s' := { s with ch := (X, Y) }) gS (fun sv dv a => by
      unfold MkgAt
      rw [heap_setCell_same _ g 17 _ _ _ (heap_setCell_same w1 g 16 _ _ _ a)]
      rfl) rfl rfl rfl)
    have B2 := Lib.hid (B1.out.trans (below_of gS H1.out.lo1 H1.out.lt))
    have ON := Lib.hid (once_any H2.out 2147483700 (by decide) hl)
    clear hgood hg hown hbase hXY k0 k1 a1 gS
    go_wp2_with fail
    refine ON.out.mono ?_
    intro e w2 hO
    have OO := Lib.hid (hO.after B2.out)
    obtain rfl := hO.val
    clear hO
    go_wp2
    go_ret
    exact ⟨by rw [OI.out]; rfl, fun hz => by rw [SI.out]; exact OO.out.good (OI.out.symm.trans hz), OO.out.below⟩
  have h2 : cm = 2 := by
    rcases hkind with h | h | h
    · exact absurd h hi
    · rcases h with h | h
      · exact absurd h h99
      · exact absurd h h70
    · exact h
  have OI := Lib.hid (OE.out.trans ((if_neg hi).trans (if_neg h99)))
  have SI := Lib.hid (ST.out.trans ((if_neg hi).trans ((if_neg h99).trans (if_neg h70))))
  have FI := Lib.hid (FO.out.trans ((if_neg hi).trans ((if_neg (by rintro (h | h); exact h99 h; exact h70 h)).trans (if_pos h2))))
  subst h2
  clear OE ST FO hi hkind h99 h70
  go_enter Tryz.func122, Tryz.ntmps122
  go_wp2_with fail
  refine SP.out.mono ?_
  rintro e w1 ⟨_, hgood, hg⟩
  obtain ⟨q1, N, c1, base, hN, rfl, hown, hbase⟩ := hgood H0.out
  rw [FI.out] at hN hown
  obtain rfl : N = 2 := hN
  obtain ⟨r, rfl, r0, r1⟩ := span_cells hown (i := 0) rfl
  obtain ⟨r', hr', r2, r3⟩ := span_cells hown (i := 1) rfl
  obtain rfl : r' = r := by injection hr' with e; injection e with e; exact e.symm
  have e0 := grown_cell hg k0
  have e1 := grown_cell hg k1
  have H1 := Lib.hid (HA.out.grown hg)
  have B1 := Lib.hid (BA.out.trans (below_grown hg HA.out.lt (by simp)))
  obtain ⟨⟨X, Y⟩, hXY⟩ : ∃ z, z = spanAt b 8 16 := ⟨_, rfl⟩
  obtain ⟨⟨Z, V⟩, hZV⟩ : ∃ z, z = spanAt b 16 1 := ⟨_, rfl⟩
  rw [← hXY] at r0 r1 SI
  rw [← hZV] at r2 r3 SI
  simp only [] at r0 r1 r2 r3
  clear hgood hg hown hbase hXY hZV k0 k1 hr'
  go_upto_region 17 with fail
  have gD : w1.grownBy w1.drew none := grown_drewN (grown_refl w1 none) 1
  have H2 := Lib.hid (H1.out.grown gD)
  have B2 := Lib.hid (B1.out.trans (below_grown gD H1.out.lt (by simp)))
  clear gD
  obtain ⟨sv, dv, a1⟩ := H1.out.at
  have c18 := a1.c 18 (.int .u64 s.sy.1) rfl
  have c19 := a1.c 19 (.int .u64 s.sy.2) rfl
  have c20 := a1.c 20 (.int .u64 s.st.1) rfl
  have c21 := a1.c 21 (.int .u64 s.st.2) rfl
  have f18 := a1.fz 18
  have f19 := a1.fz 19
  have f20 := a1.fz 20
  have f21 := a1.fz 21
  have gl := a1.lt
  clear a1
  have gS : w1.grownBy ((((w1.setCell ⟨g, 18, none⟩ (.int .u64 X)).setCell ⟨g, 19, none⟩ (.int .u64 Y)).setCell ⟨g, 20, none⟩ (.int .u64 Z)).setCell ⟨g, 21, none⟩ (.int .u64 V)).drew (some g) :=
    grown_drewN (grown_setCell (grown_setCell (grown_setCell (grown_setCell (grown_refl w1 (some g)) _) _) _) _) 1
  have H3 := Lib.hid (H1.out.cells (s' := { s with sy := (X, Y), st := (Z, V) }) gS (fun sv dv a => by
    unfold MkgAt
    show ((((w1.setCell ⟨g, 18, none⟩ (.int .u64 X)).setCell ⟨g, 19, none⟩ (.int .u64 Y)).setCell ⟨g, 20, none⟩ (.int .u64 Z)).setCell ⟨g, 21, none⟩ (.int .u64 V)).heap[g]? = _
    rw [heap_setCell_same _ g 21 _ _ _ (heap_setCell_same _ g 20 _ _ _ (heap_setCell_same _ g 19 _ _ _ (heap_setCell_same w1 g 18 _ _ _ a)))]
    rfl) rfl rfl rfl)
  have B3 := Lib.hid (B1.out.trans (below_of gS H1.out.lo1 H1.out.lt))
  have ON := Lib.hid (once_any H3.out 2 (by decide) hl)
  clear gS H2 B2
  go_region
  go_wp2_with fail
  refine ON.out.mono ?_
  intro e w2 hO
  have OO := Lib.hid (hO.after B3.out)
  obtain rfl := hO.val
  clear hO
  go_wp2
  go_ret
  exact ⟨by rw [OI.out]; rfl, fun hz => by rw [SI.out]; exact OO.out.good (OI.out.symm.trans hz), OO.out.below⟩
end Go.Proofs.YtdagnkdonlfobaaGreat
