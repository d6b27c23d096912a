import Derived.Test.YtdagnkdonlfobaaGreatM13
import Derived.Test.YtdagnkdonlfobaaGreatRows
import Derived.Maps.Own
import Derived.Maps.OwnOps
import Derived.Maps.OwnSet
import Derived.WideKeyEntry
import Derived.Test.YtdagnkdonlfobaaGreatM2
import Derived.Maps.Views
import Derived.WalkSpells
import Derived.Deep.RegionHeld3
import Derived.Test.YtdagnkdonlfobaaGreatM1
import Derived.Maps.RangeWalk
import Derived.BigGuard
/- The rules of what an image may be, one by one: names, the order of segments, spans, the entry. No condition but that numbers fit their types. -/
namespace Go.Proofs.YtdagnkdonlfobaaGreat
open Go.RowKit
variable {w w' : World} {h : Hx} {s : St} {sv dv : Value} {n hd : Int}

theorem RowSg.at {l : List Sg} {qs : Option Addr} (r : RowSg w qs l) {k : Nat} {x : Sg} (hx : l[k]? = some x) : ∃ g, qs = some ⟨g, 0, none⟩ ∧ w.cell? ⟨g, k * 7, none⟩ = some (.string (strOfNums x.seg.name)) ∧ w.cell? ⟨g, k * 7 + 1, none⟩ = some (.int .u64 x.seg.addr) ∧ w.cell? ⟨g, k * 7 + 2, none⟩ = some (.int .u64 x.seg.size) ∧
      w.cell? ⟨g, k * 7 + 3, none⟩ = some (.int .u64 x.seg.off) ∧ w.cell? ⟨g, k * 7 + 4, none⟩ = some (.int .u64 x.seg.fsize) ∧ w.cell? ⟨g, k * 7 + 5, none⟩ = some (.int .i64 x.seg.prot) ∧ w.cell? ⟨g, k * 7 + 6, none⟩ = some (.slice x.q x.seg.secs.length x.c) := r k x hx
theorem riseN_cons (e : Int) (x : Seg) (l : List Seg) : riseN e (x :: l) = (decide (e ≤ x.addr) && riseN ((x.addr + x.size) % 18446744073709551616) l) := rfl
theorem drop_at {l : List Sg} (hl : l.map Sg.seg = s.segs) {k : Nat} {x : Sg} (hx : l[k]? = some x) : s.segs.drop k = x.seg :: s.segs.drop (k + 1) := by
  rw [← hl]
  obtain ⟨hk, rfl⟩ := List.getElem?_eq_some_iff.1 hx
  rw [List.drop_eq_getElem_cons (by rw [List.length_map]; exact hk), List.getElem_map]

set_option maxRecDepth 20000 in
theorem rise_any {l : List Sg} {qs : Option Addr} {cs : Nat} (k : ImgRows w s l qs cs) : Calls Tryz.prog 130 #[askV h s (.slice qs l.length cs) dv n hd] w fun e w' => e = .returned (.bool (riseN 0 s.segs)) ∧ w.grownBy w' none := by
  have gB := grown1 w (.cells (askArr h s (.slice qs l.length cs) dv n hd) 165)
  have aA := askNew (h := h) (s := s) (sv := .slice qs l.length cs) (dv := dv) (n := n) (hd := hd) w
  obtain ⟨W, hW⟩ : ∃ W, w.alloc (.cells (askArr h s (.slice qs l.length cs) dv n hd) 165) = W := ⟨_, rfl⟩
  obtain ⟨b, hb⟩ : ∃ b, w.heap.size = b := ⟨_, rfl⟩
  rw [hW] at gB aA
  rw [hb] at aA
  have RW := Lib.hid (fun (V : World) (hg : W.grownBy V none) => (k.grown gB).row.grown hg)
  have G := Lib.hid gB
  have c4 := aA.c 4 (.slice qs l.length cs) rfl
  have gl := aA.lt
  have DR := Lib.hid (fun (k1 : Nat) (x : Sg) => drop_at (k := k1) (x := x) k.segs)
  have DE := Lib.hid (show s.segs.drop l.length = [] by rw [← k.segs, ← List.length_map (f := Sg.seg), List.drop_length])
  have CP := Lib.hid k.cap
  have FW := Lib.hid k.few
  obtain ⟨r, hr⟩ : ∃ r, r = riseN 0 s.segs := ⟨_, rfl⟩
  rw [← hr]
  have HR := Lib.hid hr
  clear k gB aA hr
  unfold askV
  unfold askArr at hW ⊢
  go_enter Tryz.func130, Tryz.ntmps130
  go_upto_region 1 with fail
  clear hW hb
  go_wp2
  go_loopw [3, 10] (fun e i wr => ∃ (k1 : Nat) (E : Int), k1 ≤ l.length ∧ i = .int .i64 k1 ∧ e = .int .u64 E ∧ W.grownBy wr none ∧ r = riseN E (s.segs.drop k1)) (fun _ i _ => l.length - (intOf i).toNat)
  case atStart => exact ⟨0, 0, Nat.zero_le _, rfl, rfl, grown_refl _ _, HR.out⟩
  case round =>
    obtain ⟨k1, E, hk, rfl, rfl, hg, hre⟩ := hrel
    have HRE := Lib.hid hre
    have G3 := Lib.hid hg
    by_cases hlt : k1 < l.length
    · obtain ⟨x, hx⟩ : ∃ x, l[k1]? = some x := ⟨_, List.getElem?_eq_getElem hlt⟩
      obtain ⟨g, rfl, a0, a1, a2, a3, a4, a5, a6⟩ := (RW.out wr hg).at hx
      have dl : decide ((k1 : Int) < (l.length : Int)) = true := by simp; omega
      have hkl : (k1 : Int) < (l.length : Int) := by omega
      have DX := Lib.hid (DR.out k1 x hx)
      obtain ⟨⟨nm, ad, sz, of, fs, pr, sl⟩, q1, c1⟩ := x
      simp only [] at a0 a1 a2 a3 a4 a5 a6
      obtain ⟨T, hT⟩ : ∃ T, (ad + sz) % 18446744073709551616 = T := ⟨_, rfl⟩
      have hT2 : IntKind.u64.wrap (ad + sz) = T := by rw [IntKind.wrap_u64]; exact hT
      have HT := Lib.hid hT
      have hcp : l.length ≤ cs := CP.out
      have hfw : l.length ≤ 9223372036854775807 := FW.out
      have g5 := grown_trans hg (grown1 wr (.cells #[.string (strOfNums nm), .int .u64 ad, .int .u64 sz, .int .u64 of, .int .u64 fs, .int .i64 pr, .slice q1 sl.length c1] 58))
      have G5 := Lib.hid g5
      clear hg hx hT g5 hre
      generalize l.length = N at *
      cases hE : decide (ad < E)
      · go_wp2
        go_roundw
        case rel =>
          refine ⟨k1 + 1, T, hlt, by go_num, rfl, G5.out, ?_⟩
          rw [HRE.out, DX.out]
          rw [riseN_cons]
          have : decide (E ≤ ad) = true := by simpa using hE
          simp only [this, HT.out, Bool.true_and]
        case measure => simp [intOf]; omega
      · go_wp2
        go_ret
        refine ⟨ret_bool ?_, grown_trans G.out G5.out⟩
        rw [HRE.out, DX.out]
        rw [riseN_cons]
        have : decide (E ≤ ad) = false := by simpa using hE
        simp only [this, Bool.false_and]
    · have hk' : k1 = l.length := by omega
      subst hk'
      have dl : decide ((l.length : Int) < (l.length : Int)) = false := by simp
      have HF : r = true := by rw [hre, DE.out]; rfl
      clear hg hre
      generalize l.length = N at *
      go_wp2
      go_ret
      exact ⟨ret_bool HF.symm, grown_trans G.out G3.out⟩

def hiS (a : Int) (x : Seg) : Int := if laidS x = true then max a ((x.addr + x.size) % 18446744073709551616) else a
theorem highN_eq (l : List Seg) : highN l = l.foldl hiS 0 := rfl
theorem hi_succ {l : List Sg} (hl : l.map Sg.seg = s.segs) {k : Nat} {x : Sg} (hx : l[k]? = some x) : (s.segs.take (k + 1)).foldl hiS 0 = hiS ((s.segs.take k).foldl hiS 0) x.seg := by
  rw [← hl]
  obtain ⟨hk, rfl⟩ := List.getElem?_eq_some_iff.1 hx
  rw [List.take_succ_eq_append_getElem (by rw [List.length_map]; exact hk), List.foldl_append, List.getElem_map]
  rfl
set_option maxRecDepth 20000 in
theorem High_any {l : List Sg} {qs : Option Addr} {cs : Nat} (k : ImgRows w s l qs cs) : Calls Tryz.prog 73 #[imgV h s (.slice qs l.length cs) dv] w fun e w' => e = .returned (.int .u64 (highN s.segs)) ∧ w.grownBy w' none := by
  have gB := grown1 w (.cells (imgArr h s (.slice qs l.length cs) dv) 41)
  have aA : ImgAt (w.alloc (.cells (imgArr h s (.slice qs l.length cs) dv) 41)) w.heap.size h s (.slice qs l.length cs) dv := heap_alloc_new w _
  obtain ⟨W, hW⟩ : ∃ W, w.alloc (.cells (imgArr h s (.slice qs l.length cs) dv) 41) = W := ⟨_, rfl⟩
  obtain ⟨b, hb⟩ : ∃ b, w.heap.size = b := ⟨_, rfl⟩
  rw [hW] at gB aA
  rw [hb] at aA
  have RW := Lib.hid (fun (V : World) (hg : W.grownBy V none) => (k.grown gB).row.grown hg)
  have G := Lib.hid gB
  have c4 := aA.c 4 (.slice qs l.length cs) rfl
  have gl := lt_of_block aA
  have DR := Lib.hid (fun (k1 : Nat) (x : Sg) => hi_succ (k := k1) (x := x) k.segs)
  have DE := Lib.hid (show s.segs.take l.length = s.segs by rw [← k.segs, ← List.length_map (f := Sg.seg), List.take_length])
  have CP := Lib.hid k.cap
  have FW := Lib.hid k.few
  obtain ⟨r, hr⟩ : ∃ r, r = highN s.segs := ⟨_, rfl⟩
  rw [← hr]
  rw [highN_eq] at hr
  have HR := Lib.hid hr
  clear k gB aA hr
  rw [show imgV h s (.slice qs l.length cs) dv = .agg (imgArr h s (.slice qs l.length cs) dv) from rfl]
  unfold imgArr at hW ⊢
  go_enter Tryz.func73, Tryz.ntmps73
  go_upto_region 1 with fail
  clear hW hb
  go_wp2
  go_loopw [3, 9] (fun e i wr => ∃ (k1 : Nat) (E : Int), k1 ≤ l.length ∧ i = .int .i64 k1 ∧ e = .int .u64 E ∧ W.grownBy wr none ∧ E = (s.segs.take k1).foldl hiS 0) (fun _ i _ => l.length - (intOf i).toNat)
  case atStart => exact ⟨0, 0, Nat.zero_le _, rfl, rfl, grown_refl _ _, rfl⟩
  case round =>
    obtain ⟨k1, E, hk, rfl, rfl, hg, hre⟩ := hrel
    have HRE := Lib.hid hre
    have G3 := Lib.hid hg
    by_cases hlt : k1 < l.length
    · obtain ⟨x, hx⟩ : ∃ x, l[k1]? = some x := ⟨_, List.getElem?_eq_getElem hlt⟩
      obtain ⟨g, rfl, a0, a1, a2, a3, a4, a5, a6⟩ := (RW.out wr hg).at hx
      have dl : decide ((k1 : Int) < (l.length : Int)) = true := by simp; omega
      have hkl : (k1 : Int) < (l.length : Int) := by omega
      have DX := Lib.hid (DR.out k1 x hx)
      have LD := Lib.hid (fun (V : World) => isLaid_any (w := V) x.seg x.q x.seg.secs.length x.c)
      obtain ⟨bx, hbx⟩ : ∃ bx, bx = laidS x.seg := ⟨_, rfl⟩
      rw [← hbx] at LD
      have HB := Lib.hid hbx
      obtain ⟨⟨nm, ad, sz, of, fs, pr, sl⟩, q1, c1⟩ := x
      simp only [] at a0 a1 a2 a3 a4 a5 a6 LD
      unfold segV segArr at LD
      obtain ⟨T, hT⟩ : ∃ T, (ad + sz) % 18446744073709551616 = T := ⟨_, rfl⟩
      have hT2 : IntKind.u64.wrap (ad + sz) = T := by rw [IntKind.wrap_u64]; exact hT
      have HT := Lib.hid hT
      have hcp : l.length ≤ cs := CP.out
      have hfw : l.length ≤ 9223372036854775807 := FW.out
      have g5 := grown_trans hg (grown1 wr (.cells #[.string (strOfNums nm), .int .u64 ad, .int .u64 sz, .int .u64 of, .int .u64 fs, .int .i64 pr, .slice q1 sl.length c1] 58))
      have p5 : SegAt (wr.alloc (.cells #[.string (strOfNums nm), .int .u64 ad, .int .u64 sz, .int .u64 of, .int .u64 fs, .int .i64 pr, .slice q1 sl.length c1] 58)) wr.heap.size ⟨nm, ad, sz, of, fs, pr, sl⟩ (.slice q1 sl.length c1) := heap_alloc_new wr _
      have P5 := Lib.hid p5
      have G5 := Lib.hid g5
      clear hg hx hT g5 hre hbx p5
      generalize l.length = N at *
      go_wp2_with fail
      refine (LD.out _).mono ?_
      rintro e w6 ⟨rfl, hg⟩
      have P6 := P5.out.kept hg (by simp)
      have G6 := Lib.hid (grown_trans G5.out hg)
      obtain ⟨y0, y1, y2, y3, y4, y5, y6⟩ := P6.c
      have yl := P6.lt
      clear hg P6
      simp only [] at y1 y2
      cases bx
      · go_wp2
        go_roundw
        case rel =>
          refine ⟨k1 + 1, E, hlt, by go_num, rfl, G6.out, ?_⟩
          rw [DX.out, ← HRE.out]
          unfold hiS
          rw [← HB.out]
          rfl
        case measure => simp [intOf]; omega
      · go_wp2
        go_roundw
        case rel =>
          refine ⟨k1 + 1, max E T, hlt, by go_num, rfl, G6.out, ?_⟩
          rw [DX.out, ← HRE.out]
          unfold hiS
          rw [← HB.out, if_pos rfl, ← HT.out]
        case measure => simp [intOf]; omega
    · have hk' : k1 = l.length := by omega
      subst hk'
      have dl : decide ((l.length : Int) < (l.length : Int)) = false := by simp
      have HF : r = E := by rw [hre, DE.out]; exact HR.out
      clear hg hre
      generalize l.length = N at *
      go_wp2
      go_ret
      exact ⟨ret_int HF.symm, grown_trans G.out G3.out⟩
end Go.Proofs.YtdagnkdonlfobaaGreat

/- 'm[k] = v' among other assignments of one statement: the entry is looked for first, and written behind. No condition but that the map has room. -/
namespace Go.Proofs.YtdagnkdonlfobaaGreat
open Go.Maps Go.WideElems Go.ChangeMaps
section
variable {H : Type} {P : Program} {k e t : TypeId} {R : Value → Option (DataW H × List MemPlace)} {b n : Nat} {D : DataW H} {w : World}

/-- A map is told by its block alone. -/
theorem owns_at {W : World} (h : w.ownsMap P k R b n D) (hb : W.heap[b]? = w.heap[b]?) : W.ownsMap P k R b n D := by
  obtain ⟨es, c, h1, F, h2, h3⟩ := h
  exact ⟨es, c, hb.trans h1, F, h2, h3⟩
theorem owns_obj (h : w.ownsMap P k R b n D) : ∃ es c, w.heap[b]? = some (.map es c) := by
  obtain ⟨es, c, h1, _⟩ := h
  exact ⟨es, c, h1⟩

/-- What the two halves of the store do, in whatever world. -/
def Halves (P : Program) (t : TypeId) (b : Nat) (key val : Value) (o0 o1 o2 : Obj) : Prop :=
  ∃ (v0 : Value) (st : Int), (∀ W : World, W.heap[b]? = some o0 → (Instr.mapEntry t (.map (some b)) key).run P W = .ok (.tuple #[v0, .int .i64 st]) (setBlock W b o1)) ∧
    (∀ W : World, W.heap[b]? = some o1 → (Instr.entryStore t (.map (some b)) (.int .i64 st) val).run P W = .ok () (setBlock W b o2))

theorem owns_halves (h : w.ownsMap P k R b n D) (K : Keyed P k) (ht : P.underlying t = some (.map k e)) {z : Value} (hz : ∀ u : World, (zeroValue e).run P u = .ok z u) (hn : n < maxLen) {key val : Value} {kl : Lit} {d : DataW H} {ps : List MemPlace}
    (hkey : keyOf P k key = some kl) (hv : R val = some (d, ps)) :
    ∃ o0 o1 o2, w.heap[b]? = some o0 ∧ Halves P t b key val o0 o1 o2 ∧ ∀ W : World, W.heap[b]? = some o2 → W.ownsMap P k R b (n + 1) (D.put kl d) := by
  obtain ⟨w', hrun, hown', hg⟩ := h.update K ht hn hkey hv
  obtain ⟨es, clock, hb, F, hs, rfl⟩ := h
  obtain ⟨s1, s2, s3⟩ := F.stamped
  rcases K.find w hkey es.toList F.keys with ⟨h1, h2⟩ | ⟨j, e0, h1, h2, h3⟩
  · have hfind : ∀ W : World, (Instr.findKey k key es.toList).run P W = .ok none W := by
      intro W
      rcases K.find W hkey es.toList F.keys with ⟨h, _⟩ | ⟨j, e, _, h, h'⟩
      · exact h
      · exact absurd h' (h2 e (List.mem_of_getElem? h))
    have hidx : (es.push ⟨key, z, clock⟩).findIdx? (fun e => ((e.born : Nat) : Int) == ((clock : Nat) : Int)) = some es.size := by
      rw [findIdx_arr]
      refine findIdx_born (l := (es.push ⟨key, z, clock⟩).toList) (j := es.size) (e0 := ⟨key, z, clock⟩) ?_ (by simp)
      simp only [Array.toList_push, List.map_append, List.map_cons, List.map_nil]
      refine List.nodup_append.2 ⟨s2, by simp, fun a ha c hc e1 => ?_⟩
      simp only [List.mem_singleton] at hc
      obtain ⟨x, hx, rfl⟩ := List.mem_map.1 ha
      have := s1 x hx
      omega
    have hmod : (es.push ⟨key, z, clock⟩).modify es.size (fun e => { e with val := val }) = es.push ⟨key, val, clock⟩ := by
      apply Array.ext'
      rw [Array.toList_modify, Array.toList_push, Array.toList_push, ← Array.length_toList, modify_last]
    refine ⟨_, .map (es.push ⟨key, z, clock⟩) (clock + 1), .map (es.push ⟨key, val, clock⟩) (clock + 1), hb, ⟨z, clock, fun W hW => ?_, fun W hW => ?_⟩, fun W hW => owns_at hown' ?_⟩
    · simp [Instr.mapEntry, run_underlying ht, MapKept.run_getObj_map hW, K.check W false hkey, hfind W, hz, MapKept.run_setObj_map _ hW, Result.andThen, setBlock, goInt]
    · simp [Instr.entryStore, MapKept.run_getObj_map hW, asInt, asIntOf, hidx, hmod, MapKept.run_setObj_map _ hW, Result.andThen, setBlock]
    · have hr : (Instr.mapUpdate t (.map (some b)) key val).run P w = .ok () (setBlock w b (.map (es.push ⟨key, val, clock⟩) (clock + 1))) := by
        simp [Instr.mapUpdate, run_underlying ht, MapKept.run_getObj_map hb, K.check w false hkey, hfind w, MapKept.run_setObj_map _ hb, Result.andThen, setBlock]
      rw [hr] at hrun
      injection hrun with _ hw
      subst hw
      rw [hW, heap_setBlock_same hb _]
  · have hone : ∀ j' e', es.toList[j']? = some e' → e'.key = key → j' = j ∧ e' = e0 := by
      intro j' e' h h'
      have hj : j' = j := by
        have g1 : (es.toList.map (·.key))[j']? = some key := by rw [List.getElem?_map, h]; simp [h']
        have g2 : (es.toList.map (·.key))[j]? = some key := by rw [List.getElem?_map, h2]; simp [h3]
        exact (List.getElem?_inj (by rw [List.length_map]; exact (List.getElem?_eq_some_iff.1 h).1) s3).1 (g1.trans g2.symm)
      subst hj
      rw [h2] at h
      injection h with h
      exact ⟨rfl, h.symm⟩
    have hfind : ∀ W : World, (Instr.findKey k key es.toList).run P W = .ok (some (j, e0.val)) W := by
      intro W
      rcases K.find W hkey es.toList F.keys with ⟨_, h⟩ | ⟨j', e', h, h', h''⟩
      · exact absurd h3 (h e0 (List.mem_of_getElem? h2))
      · obtain ⟨e1, e2⟩ := hone j' e' h' h''
        rw [h, e1, e2]
    have hj : es[j]? = some e0 := by simpa using h2
    have hsame : es.modify j (fun e => { e with key := key }) = es := by
      apply Array.ext'
      rw [Array.toList_modify, modify_eq_set _ _ _ _ h2]
      have : ({ e0 with key := key } : MapEntry) = e0 := by rw [← h3]
      rw [this]
      exact set_self _ _ _ h2
    have hidx : es.findIdx? (fun e => ((e.born : Nat) : Int) == ((e0.born : Nat) : Int)) = some j := by
      rw [findIdx_arr]
      exact findIdx_born s2 h2
    have hmod : es.modify j (fun e => { e with val := val }) = es.modify j (fun e' => { e' with key := key, val := val }) := by
      apply Array.ext'
      rw [Array.toList_modify, Array.toList_modify, modify_eq_set _ _ _ _ h2, modify_eq_set _ _ _ _ h2, ← h3]
    refine ⟨_, .map es clock, .map (es.modify j (fun e' => { e' with key := key, val := val })) clock, hb, ⟨e0.val, e0.born, fun W hW => ?_, fun W hW => ?_⟩, fun W hW => owns_at hown' ?_⟩
    · simp [Instr.mapEntry, run_underlying ht, MapKept.run_getObj_map hW, K.check W false hkey, hfind W, hj, h3, K.stays W hkey, hsame, MapKept.run_setObj_map _ hW, Result.andThen, setBlock, goInt]
    · simp [Instr.entryStore, MapKept.run_getObj_map hW, asInt, asIntOf, hidx, hmod, MapKept.run_setObj_map _ hW, Result.andThen, setBlock]
    · have hr : (Instr.mapUpdate t (.map (some b)) key val).run P w = .ok () (setBlock w b (.map (es.modify j (fun e' => { e' with key := key, val := val })) clock)) := by
        simp [Instr.mapUpdate, run_underlying ht, MapKept.run_getObj_map hb, K.check w false hkey, hfind w, hj, h3, K.stays w hkey, MapKept.run_setObj_map _ hb, Result.andThen, setBlock]
      rw [hr] at hrun
      injection hrun with _ hw
      subst hw
      rw [hW, heap_setBlock_same hb _]
end
end Go.Proofs.YtdagnkdonlfobaaGreat

/- A space in memory: two maps, of pages and of protections, and the pages' blocks; what is read of it, and what keeps it. No condition. -/
namespace Go.Proofs.YtdagnkdonlfobaaGreat
open Go.RowKit Go.Maps
variable {w w' : World}

/-- What a space tells: each page's protection (0: it is not there), each byte, how many pages. -/
structure Spc where
  P : Nat → Int
  B : Nat → Int
  K : Nat

def keyN (n : Nat) : Lit := .int .u64 n
theorem keyN_inj {n m : Nat} (h : keyN n = keyN m) : n = m := by unfold keyN at h; injection h with _ h; omega
theorem keyN_key (n : Nat) : WideAt.IsKeyLit (keyN n) := trivial
def pageVals (c : Nat → Int) : Array Value := ((List.range 4096).map fun i => Value.int .u8 (c i)).toArray
theorem pageVals_size (c : Nat → Int) : (pageVals c).size = 4096 := by simp [pageVals]
theorem pageVals_get (c : Nat → Int) {i : Nat} (h : i < 4096) : (pageVals c)[i]? = some (.int .u8 (c i)) := by simp [pageVals, h]
theorem pageVals_congr {c d : Nat → Int} (h : ∀ i, i < 4096 → c i = d i) : pageVals c = pageVals d := by
  unfold pageVals
  rw [List.map_congr_left (fun i hi => by rw [h i (by simpa using hi)])]
def pageArr (B : Nat → Int) (n : Nat) : Array Value := pageVals fun i => B (4096 * n + i)

/-- A pointer to a page's block, or none, as a map's element. -/
def ptrElem (v : Value) : Option (DataW Unit × List MemPlace) :=
  match v with
  | .pointer none => some (.nil, [])
  | .pointer (some ⟨b, 0, none⟩) => some (.lit (.int .u64 b), [])
  | _ => none
theorem ptrElem_mk (b : Nat) : ptrElem (.pointer (some ⟨b, 0, none⟩)) = some (.lit (.int .u64 b), []) := rfl
theorem ptrElem_inv {v : Value} {b : Nat} {ps : List MemPlace} (h : ptrElem v = some (.lit (.int .u64 (b : Int)), ps)) : v = .pointer (some ⟨b, 0, none⟩) := by
  unfold ptrElem at h
  split at h
  · simp at h
  · rename_i c
    have e : (c : Int) = b := by injection h with h; injection h with h _; injection h with h; injection h
    rw [Int.ofNat_inj.1 e]
  · simp at h
theorem ptrElem_nil {v : Value} {ps : List MemPlace} (h : ptrElem v = some (.nil, ps)) : v = .pointer none := by
  unfold ptrElem at h
  split at h
  · rfl
  · simp at h
  · simp at h

theorem u64keyed : Keyed Tryz.prog 33 := int_keyed Tryz.underlying33
theorem zeroPtr (w : World) : (zeroValue 128).run Tryz.prog w = .ok (.pointer none) w := by kernel_rfl
theorem zeroI (w : World) : (zeroValue 3).run Tryz.prog w = .ok (.int .i64 0) w := by kernel_rfl
theorem key_of {n : Nat} (h : n < 18446744073709551616) : keyOf Tryz.prog 33 (.int .u64 n) = some (keyN n) := keyOf_int_mk Tryz.underlying33 (WalkArith.wf_u64 (by omega))

def PMap (w : World) (b n : Nat) (D : DataW Unit) : Prop := w.ownsMap Tryz.prog 33 ptrElem b n D
def QMap (w : World) (b n : Nat) (D : DataW Unit) : Prop := w.ownsMap Tryz.prog 33 (plainElem Tryz.prog 3) b n D

/-- What the two maps tell of a space, of pages at these blocks. -/
structure MapsOf (σ : Spc) (g : Nat → Nat) (Dp Dq : DataW Unit) : Prop where
  szp : Maps.size Dp = σ.K
  szq : Maps.size Dq = σ.K
  hasp : ∀ kl, Maps.has Dp kl = true ↔ ∃ n, kl = keyN n ∧ σ.P n ≠ 0
  hasq : ∀ kl, Maps.has Dq kl = true ↔ ∃ n, kl = keyN n ∧ σ.P n ≠ 0
  atp : ∀ n z, σ.P n ≠ 0 → Dp.atKey (keyN n) z = .lit (.int .u64 (g n))
  atq : ∀ n z, σ.P n ≠ 0 → Dq.atKey (keyN n) z = .lit (.int .i64 (σ.P n))
  inj : ∀ n m, σ.P n ≠ 0 → σ.P m ≠ 0 → g n = g m → n = m

/-- What may be: few pages, below the greatest address. -/
structure Fits (σ : Spc) : Prop where
  few : σ.K ≤ 8192
  low : ∀ n, σ.P n ≠ 0 → n < 34359738368
  prot : ∀ n, 0 ≤ σ.P n ∧ σ.P n ≤ 7
  bytes : ∀ x, 0 ≤ σ.B x ∧ σ.B x < 256
  none : σ.K = 0 → ∀ n, σ.P n = 0

/-- The two maps' values, and the pages. -/
inductive Maps2 (w : World) (F : Nat → Prop) (σ : Spc) : Value → Value → Prop
  | bare (h : ∀ n, σ.P n = 0) (hK : σ.K = 0) : Maps2 w F σ (.map none) (.map none)
  | full (bp bq : Nat) (g : Nat → Nat) (Dp Dq : DataW Unit) (hne : bp ≠ bq) (hp : PMap w bp σ.K Dp) (hq : QMap w bq σ.K Dq) (hm : MapsOf σ g Dp Dq) (fp : F bp) (fq : F bq)
      (fg : ∀ n, σ.P n ≠ 0 → F (g n) ∧ w.heap[g n]? = some (.cells (pageArr σ.B n) 99 (0, 0))) : Maps2 w F σ (.map (some bp)) (.map (some bq))

/-- A space at a block. -/
structure SpcAt (w : World) (F : Nat → Prop) (a : Nat) (σ : Spc) : Prop where
  mine : F a
  fits : Fits σ
  maps : ∃ mp mq, w.heap[a]? = some (.cells #[mp, mq] 66 (0, 0)) ∧ Maps2 w F σ mp mq

/-- Nothing but these blocks, and new ones, has turned. -/
structure Chg (F : Nat → Prop) (w w' : World) : Prop where
  os : w'.os = w.os
  tape : w'.tape = w.tape
  output : w'.output = w.output
  size : w.heap.size ≤ w'.heap.size
  block : ∀ k, k < w.heap.size → ¬ F k → w'.heap[k]? = w.heap[k]?

/-- A footprint, and what was laid between two worlds. -/
def Foot (F : Nat → Prop) (w w' : World) (k : Nat) : Prop := F k ∨ (w.heap.size ≤ k ∧ k < w'.heap.size)

theorem Chg.refl (F : Nat → Prop) (w : World) : Chg F w w := ⟨rfl, rfl, rfl, Nat.le_refl _, fun _ _ _ => rfl⟩
theorem Chg.trans {F : Nat → Prop} {w1 w2 w3 : World} (h : Chg F w1 w2) (k : Chg F w2 w3) : Chg F w1 w3 :=
  ⟨k.os.trans h.os, k.tape.trans h.tape, k.output.trans h.output, Nat.le_trans h.size k.size, fun i hi hf => (k.block i (Nat.lt_of_lt_of_le hi h.size) hf).trans (h.block i hi hf)⟩
/-- .. where the second one may turn what the first one laid, too. -/
theorem Chg.then {F : Nat → Prop} {w1 w2 w3 : World} (h : Chg F w1 w2) (k : Chg (Foot F w1 w2) w2 w3) : Chg F w1 w3 :=
  ⟨k.os.trans h.os, k.tape.trans h.tape, k.output.trans h.output, Nat.le_trans h.size k.size, fun i hi hf => (k.block i (Nat.lt_of_lt_of_le hi h.size) (fun e => e.elim hf (fun e => absurd e.1 (by omega)))).trans (h.block i hi hf)⟩
theorem Chg.mono {F G : Nat → Prop} (h : Chg F w w') (hs : ∀ k, F k → G k) : Chg G w w' := ⟨h.os, h.tape, h.output, h.size, fun k hk hg => h.block k hk (fun e => hg (hs k e))⟩
theorem Chg.of_grown {F : Nat → Prop} {r : Option Nat} (h : w.grownBy w' r) (hr : ∀ b, r = some b → F b ∨ w.heap.size ≤ b) : Chg F w w' :=
  ⟨h.os, h.tape, h.output, h.size, fun k hk hf => h.block k hk (fun e => (hr k e.symm).elim hf (fun h => absurd hk (by omega)))⟩
theorem Chg.below (h : Chg (fun k => w.heap.size ≤ k) w w') : Below w.heap.size w w' :=
  ⟨h.os, h.tape, h.output, h.size, fun k hk => h.block k hk (by omega)⟩
theorem Chg.grown (h : Chg (fun _ => False) w w') : w.grownBy w' none := ⟨h.os, h.tape, h.output, h.size, fun k hk _ => h.block k hk (fun e => e)⟩

theorem Maps2.mono {F G : Nat → Prop} {σ : Spc} {mp mq : Value} (h : Maps2 w F σ mp mq) (hs : ∀ k, F k → G k) : Maps2 w G σ mp mq := by
  cases h with
  | bare h hK => exact .bare h hK
  | full bp bq g Dp Dq hne hp hq hm fp fq fg => exact .full bp bq g Dp Dq hne hp hq hm (hs _ fp) (hs _ fq) fun n hn => ⟨hs _ (fg n hn).1, (fg n hn).2⟩
theorem owns_lt {P : Program} {k : TypeId} {R : Value → Option (DataW Unit × List MemPlace)} {b n : Nat} {D : DataW Unit} (h : w.ownsMap P k R b n D) : b < w.heap.size := h.lt
/-- What turns nothing of it keeps it. -/
theorem Maps2.kept {F G : Nat → Prop} {σ : Spc} {mp mq : Value} (h : Maps2 w F σ mp mq) (hg : Chg G w w') (hd : ∀ k, F k → ¬ G k) : Maps2 w' F σ mp mq := by
  cases h with
  | bare h hK => exact .bare h hK
  | full bp bq g Dp Dq hne hp hq hm fp fq fg =>
    refine .full bp bq g Dp Dq hne (owns_at hp (hg.block _ hp.lt (hd _ fp))) (owns_at hq (hg.block _ hq.lt (hd _ fq))) hm fp fq fun n hn => ⟨(fg n hn).1, ?_⟩
    exact (hg.block _ (lt_of_block (fg n hn).2) (hd _ (fg n hn).1)).trans (fg n hn).2
theorem SpcAt.mono {F G : Nat → Prop} {a : Nat} {σ : Spc} (h : SpcAt w F a σ) (hs : ∀ k, F k → G k) : SpcAt w G a σ := by
  obtain ⟨h1, h2, mp, mq, h3, h4⟩ := h
  exact ⟨hs _ h1, h2, mp, mq, h3, h4.mono hs⟩
theorem SpcAt.kept {F G : Nat → Prop} {a : Nat} {σ : Spc} (h : SpcAt w F a σ) (hg : Chg G w w') (hd : ∀ k, F k → ¬ G k) : SpcAt w' F a σ := by
  obtain ⟨h1, h2, mp, mq, h3, h4⟩ := h
  exact ⟨h1, h2, mp, mq, (hg.block _ (lt_of_block h3) (hd _ h1)).trans h3, h4.kept hg hd⟩
theorem SpcAt.lt {F : Nat → Prop} {a : Nat} {σ : Spc} (h : SpcAt w F a σ) : a < w.heap.size := by
  obtain ⟨_, _, _, _, h, _⟩ := h
  exact lt_of_block h

def litOf : DataW Unit → Int
  | .lit (.int _ n) => n
  | _ => 0
section reads
variable {F : Nat → Prop} {σ : Spc} {mp mq : Value}
theorem Maps2.len (h : Maps2 w F σ mp mq) (ty : TypeId) : (Builtin.len_ #[63] ty #[mp]).run Tryz.prog w = .ok (.int .i64 σ.K) w := by
  cases h with
  | bare h hK => rw [hK]; exact Maps.len_nil Tryz.underlying63 ty
  | full bp bq g Dp Dq hne hp hq hm fp fq fg => rw [← hm.szp]; exact World.ownsMap.len hp Tryz.underlying63 ty
theorem hasp_no {g : Nat → Nat} {Dp Dq : DataW Unit} (hm : MapsOf σ g Dp Dq) {n : Nat} (h : σ.P n = 0) : Maps.has Dp (keyN n) = false := by
  cases e : Maps.has Dp (keyN n)
  · rfl
  · obtain ⟨m, h1, h2⟩ := (hm.hasp _).1 e
    rw [← keyN_inj h1] at h2
    exact absurd h h2
theorem hasq_no {g : Nat → Nat} {Dp Dq : DataW Unit} (hm : MapsOf σ g Dp Dq) {n : Nat} (h : σ.P n = 0) : Maps.has Dq (keyN n) = false := by
  cases e : Maps.has Dq (keyN n)
  · rfl
  · obtain ⟨m, h1, h2⟩ := (hm.hasq _).1 e
    rw [← keyN_inj h1] at h2
    exact absurd h h2
/-- A page that is not there. -/
theorem Maps2.no (h : Maps2 w F σ mp mq) {n : Nat} (hn : n < 18446744073709551616) (h0 : σ.P n = 0) : (Instr.lookup 63 mp (.int .u64 n) false).run Tryz.prog w = .ok (.pointer none) w := by
  cases h with
  | bare h hK => exact Maps.look_nil false u64keyed Tryz.underlying63 (zeroPtr w) (key_of hn)
  | full bp bq g Dp Dq hne hp hq hm fp fq fg =>
    obtain ⟨v, ps, h1, h2⟩ := World.ownsMap.lookup hp u64keyed Tryz.underlying63 (zeroPtr w) (zd := .nil) (zp := []) rfl (key_of hn)
    rw [atKey_of_not_has (hasp_no hm h0)] at h2
    rw [h1, ptrElem_nil h2]
/-- A page that is there. -/
theorem Maps2.page (h : Maps2 w F σ mp mq) {n : Nat} (hn : n < 18446744073709551616) (h0 : σ.P n ≠ 0) :
    ∃ b, (Instr.lookup 63 mp (.int .u64 n) false).run Tryz.prog w = .ok (.pointer (some ⟨b, 0, none⟩)) w ∧ F b ∧ w.heap[b]? = some (.cells (pageArr σ.B n) 99 (0, 0)) := by
  cases h with
  | bare h hK => exact absurd (h n) h0
  | full bp bq g Dp Dq hne hp hq hm fp fq fg =>
    obtain ⟨v, ps, h1, h2⟩ := World.ownsMap.lookup hp u64keyed Tryz.underlying63 (zeroPtr w) (zd := .nil) (zp := []) rfl (key_of hn)
    rw [hm.atp n _ h0] at h2
    exact ⟨g n, by rw [h1, ptrElem_inv h2], fg n h0⟩
/-- A page's protection. -/
theorem Maps2.prot (h : Maps2 w F σ mp mq) {n : Nat} (hn : n < 18446744073709551616) : (Instr.lookup 64 mq (.int .u64 n) false).run Tryz.prog w = .ok (.int .i64 (σ.P n)) w := by
  cases h with
  | bare h hK => rw [h n]; exact Maps.look_nil false u64keyed Tryz.underlying64 (zeroI w) (key_of hn)
  | full bp bq g Dp Dq hne hp hq hm fp fq fg =>
    obtain ⟨v, h1, h2, _⟩ := World.ownsMap.lookup_int hq u64keyed Tryz.underlying64 Tryz.underlying3 (zeroI w) (key_of hn)
    have e : v = σ.P n := by
      by_cases h0 : σ.P n = 0
      · rw [atKey_of_not_has (hasq_no hm h0)] at h2
        exact (congrArg litOf h2).symm.trans h0.symm
      · rw [hm.atq n _ h0] at h2
        exact (congrArg litOf h2).symm
    rw [h1, e]
/-- .. and whether it is there. -/
theorem Maps2.prot_ok (h : Maps2 w F σ mp mq) {n : Nat} (hn : n < 18446744073709551616) : (Instr.lookup 64 mq (.int .u64 n) true).run Tryz.prog w = .ok (.tuple #[.int .i64 (σ.P n), .bool (decide (σ.P n ≠ 0))]) w := by
  cases h with
  | bare h hK => rw [h n, decide_eq_false (fun h => h rfl)]; exact Maps.look_nil true u64keyed Tryz.underlying64 (zeroI w) (key_of hn)
  | full bp bq g Dp Dq hne hp hq hm fp fq fg =>
    obtain ⟨v, ps, h1, h2⟩ := World.ownsMap.look_ok hq u64keyed Tryz.underlying64 (zeroI w) (plainElem_int Tryz.underlying3 (a := 0) (by decide)) (key_of hn)
    obtain ⟨c, rfl, h3, _⟩ := plainElem_int_inv Tryz.underlying3 h2
    replace h3 := congrArg Prod.fst h3
    simp only at h3
    have e : c = σ.P n ∧ Maps.has Dq (keyN n) = decide (σ.P n ≠ 0) := by
      by_cases h0 : σ.P n = 0
      · rw [atKey_of_not_has (hasq_no hm h0)] at h3
        exact ⟨(congrArg litOf h3).symm.trans h0.symm, by rw [hasq_no hm h0, decide_eq_false (fun h => h h0)]⟩
      · rw [hm.atq n _ h0] at h3
        exact ⟨(congrArg litOf h3).symm, by rw [(hm.hasq _).2 ⟨n, rfl, h0⟩, decide_eq_true h0]⟩
    rw [h1, e.1, e.2]
end reads
end Go.Proofs.YtdagnkdonlfobaaGreat

/- A page is laid: its block, and an entry in each of the two maps, in whatever order these are written. No condition but that the maps have room. -/
namespace Go.Proofs.YtdagnkdonlfobaaGreat
open Go.RowKit Go.Maps Go.ChangeMaps
variable {w w' : World}
theorem sb_heap {W : World} {b : Nat} {o : Obj} {i : Nat} (h : i ≠ b) : (setBlock W b o).heap[i]? = W.heap[i]? := by unfold setBlock; simp [h.symm]
theorem sb_self {W : World} {b : Nat} {o : Obj} : (setBlock W b o).heap[b]? = (W.heap[b]?).map (fun _ => o) := by
  cases h : W.heap[b]? with
  | none =>
    have := Array.getElem?_eq_none_iff.1 h
    unfold setBlock; simp; omega
  | some o' =>
    have := (Array.getElem?_eq_some_iff.1 h).1
    unfold setBlock; simp [this]
theorem sb_cell {W : World} {b : Nat} {o : Obj} {x : Addr} (h : x.block ≠ b) : (setBlock W b o).cell? x = W.cell? x := by
  unfold World.cell?; rw [sb_heap h]
theorem sb_size {W : World} {b : Nat} {o : Obj} : (setBlock W b o).heap.size = W.heap.size := by unfold setBlock; simp

/-- Two blocks are others; all else is as it was. -/
structure Sets (w w' : World) (bp bq : Nat) (o q : Obj) : Prop where
  p : w'.heap[bp]? = some o
  q : w'.heap[bq]? = some q
  other : ∀ k, k ≠ bp → k ≠ bq → w'.heap[k]? = w.heap[k]?
  size : w'.heap.size = w.heap.size
  os : w'.os = w.os
  tape : w'.tape = w.tape
  output : w'.output = w.output

theorem sets_any {W X : World} {bp bq : Nat} {o q : Obj} (hp : X.heap[bp]? = some o) (hq : X.heap[bq]? = some q) (ho : ∀ k, k ≠ bp → k ≠ bq → X.heap[k]? = W.heap[k]?) (hs : X.heap.size = W.heap.size) (h1 : X.os = W.os) (h2 : X.tape = W.tape) (h3 : X.output = W.output) : Sets W X bp bq o q := ⟨hp, hq, ho, hs, h1, h2, h3⟩

/-- What a page's laying leaves. -/
def LayEnd (w : World) (bp bq : Nat) (o2 q2 : Obj) (e : Ending) (w' : World) : Prop := e = .returned (.tuple #[]) ∧ Sets w w' bp bq o2 q2

set_option maxRecDepth 20000 in
set_option maxHeartbeats 2000000 in
theorem lay_raw (a bp bq : Nat) (n : Nat) (pg : Array Value) (p : Int) (o0 o1 o2 q0 q1 q2 : Obj) (hpq : bp ≠ bq) (hap : a ≠ bp) (haq : a ≠ bq) (ha : w.heap[a]? = some (.cells #[.map (some bp), .map (some bq)] 66 (0, 0))) (h0 : w.heap[bp]? = some o0) (hq0 : w.heap[bq]? = some q0)
   (hP : Halves Tryz.prog 63 bp (.int .u64 n) (.pointer (some ⟨w.heap.size, 0, none⟩)) o0 o1 o2) (hQ : Halves Tryz.prog 64 bq (.int .u64 n) (.int .i64 p) q0 q1 q2) :
   Calls Tryz.prog 42 #[.pointer (some ⟨a, 0, none⟩), .int .u64 n, .agg pg, .int .i64 p] w (LayEnd (w.alloc (.cells pg 99)) bp bq o2 q2) := by
  obtain ⟨v0, st, hP1, hP2⟩ := hP
  obtain ⟨v1, sq, hQ1, hQ2⟩ := hQ
  have c0 : (w.alloc (.cells pg 99)).cell? ⟨a, 0, none⟩ = some (.map (some bp)) := by
    rw [World.cell?_alloc_lt _ _ _ (lt_of_block ha), cell_of ha]; rfl
  have c1 : (w.alloc (.cells pg 99)).cell? ⟨a, 1, none⟩ = some (.map (some bq)) := by
    rw [World.cell?_alloc_lt _ _ _ (lt_of_block ha), cell_of ha]; rfl
  have h0' : (w.alloc (.cells pg 99)).heap[bp]? = some o0 := by rw [heap_alloc_old _ _ (lt_of_block h0)]; exact h0
  have hq0' : (w.alloc (.cells pg 99)).heap[bq]? = some q0 := by rw [heap_alloc_old _ _ (lt_of_block hq0)]; exact hq0
  clear h0 hq0 ha
  have qe : ∀ (w : World) (r : Option Nat), (binOp .eql 63 (.map r) (.map none)).run Tryz.prog w = .ok (.bool r.isNone) w := fun w r => run_eql_map_nil w 63 _ _ r Tryz.underlying63
  go_enter Tryz.func42, Tryz.ntmps42
  go_wp2
  generalize w.alloc (.cells pg 99) = W at c0 c1 h0' hq0' ⊢
  have s1 : ∀ (W : World) o, (setBlock W bq o).heap[bp]? = W.heap[bp]? := fun W o => sb_heap hpq
  have s2 : ∀ (W : World) o, (setBlock W bp o).heap[bq]? = W.heap[bq]? := fun W o => sb_heap (Ne.symm hpq)
  have s3 : ∀ (W : World) o, (setBlock W bp o).heap[bp]? = (W.heap[bp]?).map (fun _ => o) := fun W o => sb_self
  have s4 : ∀ (W : World) o, (setBlock W bq o).heap[bq]? = (W.heap[bq]?).map (fun _ => o) := fun W o => sb_self
  have s0 : ∀ (W : World), W.drew.heap = W.heap := fun W => rfl
  have HA := Lib.hid hap
  have HB := Lib.hid haq
  clear hap haq hpq
  go_region_held3 (fun W => W.cell? ⟨a, 0, none⟩ = some (.map (some bp)) ∧ W.cell? ⟨a, 1, none⟩ = some (.map (some bq))) (first | exact ⟨c0, c1⟩ | (refine ⟨?_, ?_⟩ <;> simp [sb_cell, HA.out, HB.out, c0, c1])) (fail)
  all_goals
    clear hP1 hP2 hQ1 hQ2
    go_end0
    refine ⟨rfl, sets_any ?_ ?_ (fun k hp hq => ?_) ?_ rfl rfl rfl⟩
    · simp [s0, s1, s3, h0']
    · simp [s0, s2, s4, hq0']
    · simp [sb_heap hp, sb_heap hq, s0]
    · simp [sb_size, s0]

/-- The world in which a new space has its two maps. -/
def bareW (w : World) (a : Nat) (pg : Array Value) : World :=
  ((((w.alloc (.cells pg 99)).alloc (.map #[] 0)).alloc (.map #[] 0)).setCell ⟨a, 0, none⟩ (.map (some (w.heap.size + 1)))).setCell ⟨a, 1, none⟩ (.map (some (w.heap.size + 1 + 1)))

set_option maxRecDepth 20000 in
set_option maxHeartbeats 2000000 in
theorem lay_bare_raw (a : Nat) (n : Nat) (pg : Array Value) (p : Int) (o1 o2 q1 q2 : Obj) (ha : w.heap[a]? = some (.cells #[.map none, .map none] 66 (0, 0)))
   (g bp bq : Nat) (W : World) (hg : w.heap.size = g) (hp : g + 1 = bp) (hq : bp + 1 = bq) (hW : bareW w a pg = W)
   (hP : Halves Tryz.prog 63 bp (.int .u64 n) (.pointer (some ⟨g, 0, none⟩)) (.map #[] 0) o1 o2) (hQ : Halves Tryz.prog 64 bq (.int .u64 n) (.int .i64 p) (.map #[] 0) q1 q2) :
   Calls Tryz.prog 42 #[.pointer (some ⟨a, 0, none⟩), .int .u64 n, .agg pg, .int .i64 p] w (LayEnd W bp bq o2 q2) := by
  obtain ⟨v0, st, hP1, hP2⟩ := hP
  obtain ⟨v1, sq, hQ1, hQ2⟩ := hQ
  have hlt := lt_of_block ha
  have c0 : (w.alloc (.cells pg 99)).cell? ⟨a, 0, none⟩ = some (.map none) := by
    rw [World.cell?_alloc_lt _ _ _ hlt, cell_of ha]; rfl
  have hA : (((w.alloc (.cells pg 99)).alloc (.map #[] 0)).alloc (.map #[] 0)).heap[a]? = some (.cells #[.map none, .map none] 66 (0, 0)) := by
    rw [heap_alloc_old _ _ (by simp; omega), heap_alloc_old _ _ (by simp; omega), heap_alloc_old _ _ hlt]; exact ha
  have d0 : (((w.alloc (.cells pg 99)).alloc (.map #[] 0)).alloc (.map #[] 0)).cell? ⟨a, 0, none⟩ = some (.map none) := by rw [cell_of hA]; rfl
  have d1 : (((w.alloc (.cells pg 99)).alloc (.map #[] 0)).alloc (.map #[] 0)).cell? ⟨a, 1, none⟩ = some (.map none) := by rw [cell_of hA]; rfl
  have f0 : (((w.alloc (.cells pg 99)).alloc (.map #[] 0)).alloc (.map #[] 0)).frozen? ⟨a, 0, none⟩ = false := free_of hA
  have f1 : (((w.alloc (.cells pg 99)).alloc (.map #[] 0)).alloc (.map #[] 0)).frozen? ⟨a, 1, none⟩ = false := free_of hA
  have hB : (bareW w a pg).heap[a]? = some (.cells #[.map (some (w.heap.size + 1)), .map (some (w.heap.size + 1 + 1))] 66 (0, 0)) := by
    unfold bareW
    have h1 := heap_setCell_same _ a 0 _ _ (.map (some (w.heap.size + 1))) hA
    exact (heap_setCell_same _ a 1 _ _ (.map (some (w.heap.size + 1 + 1))) h1).trans rfl
  have h0' : (bareW w a pg).heap[w.heap.size + 1]? = some (.map #[] 0) := by
    unfold bareW
    rw [heap_setCell_other _ _ _ _ (show w.heap.size + 1 ≠ a by omega), heap_setCell_other _ _ _ _ (show w.heap.size + 1 ≠ a by omega), heap_alloc_old _ _ (by simp)]
    have := heap_alloc_new (w.alloc (.cells pg 99)) (.map #[] 0)
    simpa using this
  have hq0' : (bareW w a pg).heap[w.heap.size + 1 + 1]? = some (.map #[] 0) := by
    unfold bareW
    rw [heap_setCell_other _ _ _ _ (show w.heap.size + 1 + 1 ≠ a by omega), heap_setCell_other _ _ _ _ (show w.heap.size + 1 + 1 ≠ a by omega)]
    have := heap_alloc_new ((w.alloc (.cells pg 99)).alloc (.map #[] 0)) (.map #[] 0)
    simpa using this
  have b0 : (bareW w a pg).cell? ⟨a, 0, none⟩ = some (.map (some (w.heap.size + 1))) := by rw [cell_of hB]; rfl
  have b1 : (bareW w a pg).cell? ⟨a, 1, none⟩ = some (.map (some (w.heap.size + 1 + 1))) := by rw [cell_of hB]; rfl
  have qe : ∀ (w : World) (r : Option Nat), (binOp .eql 63 (.map r) (.map none)).run Tryz.prog w = .ok (.bool r.isNone) w := fun w r => run_eql_map_nil w 63 _ _ r Tryz.underlying63
  have hmm := @run_makeMap Tryz.prog
  clear ha hA hB
  have hap : a ≠ bp := by omega
  have haq : a ≠ bq := by omega
  have hpq : bp ≠ bq := by omega
  rw [hW, hg, hp] at h0' b0
  rw [hW, hg, hp, hq] at b1 hq0'
  have HB0 := Lib.hid h0'
  have HB1 := Lib.hid hq0'
  have HB2 := Lib.hid b0
  have HB3 := Lib.hid b1
  have X1 := Lib.hid hP1
  have X2 := Lib.hid hP2
  have X3 := Lib.hid hQ1
  have X4 := Lib.hid hQ2
  have E1 := Lib.hid hg
  have E2 := Lib.hid hp
  have E3 := Lib.hid hq
  have E4 := Lib.hid hW
  have HA := Lib.hid hap
  have HB := Lib.hid haq
  have HC := Lib.hid hpq
  clear h0' hq0' b0 b1 hP1 hP2 hQ1 hQ2 hg hp hq hW hlt hap haq hpq
  go_enter Tryz.func42, Tryz.ntmps42
  go_wp2
  change Code.wp _ _ _ _ (bareW w a pg)
  rw [E4.out]
  simp only [E1.out, E2.out, E3.out]
  clear c0 d0 d1 f0 f1
  have h0' := HB0.out
  have hq0' := HB1.out
  have c0 := HB2.out
  have c1 := HB3.out
  have hP1 := X1.out
  have hP2 := X2.out
  have hQ1 := X3.out
  have hQ2 := X4.out
  clear HB0 HB1 HB2 HB3 X1 X2 X3 X4
  have s1 : ∀ (W : World) o, (setBlock W bq o).heap[bp]? = W.heap[bp]? := fun W o => sb_heap HC.out
  have s2 : ∀ (W : World) o, (setBlock W bp o).heap[bq]? = W.heap[bq]? := fun W o => sb_heap (Ne.symm HC.out)
  have s3 : ∀ (W : World) o, (setBlock W bp o).heap[bp]? = (W.heap[bp]?).map (fun _ => o) := fun W o => sb_self
  have s4 : ∀ (W : World) o, (setBlock W bq o).heap[bq]? = (W.heap[bq]?).map (fun _ => o) := fun W o => sb_self
  have s0 : ∀ (W : World), W.drew.heap = W.heap := fun W => rfl
  go_region_held3 (fun W => W.cell? ⟨a, 0, none⟩ = some (.map (some bp)) ∧ W.cell? ⟨a, 1, none⟩ = some (.map (some bq))) (first | exact ⟨c0, c1⟩ | (refine ⟨?_, ?_⟩ <;> simp [sb_cell, HA.out, HB.out, c0, c1])) (fail)
  all_goals
    clear hP1 hP2 hQ1 hQ2
    go_end0
    refine ⟨rfl, sets_any ?_ ?_ (fun k hp hq => ?_) ?_ rfl rfl rfl⟩
    · simp [s0, s1, s3, h0']
    · simp [s0, s2, s4, hq0']
    · simp [sb_heap hp, sb_heap hq, s0]
    · simp [sb_size, s0]
end Go.Proofs.YtdagnkdonlfobaaGreat

/- A page is laid: what the space tells behind it. Conditions: the page was not there; few pages; what may be. -/
namespace Go.Proofs.YtdagnkdonlfobaaGreat
open Go.RowKit Go.Maps Go.ChangeMaps
variable {w w' W : World} {F : Nat → Prop} {σ : Spc}

def Spc.lay (σ : Spc) (n : Nat) (p : Int) (c : Nat → Int) : Spc := ⟨fun m => if m = n then p else σ.P m, fun x => if x / 4096 = n then c (x % 4096) else σ.B x, σ.K + 1⟩
theorem lay_at (σ : Spc) (n : Nat) (p : Int) (c : Nat → Int) : pageArr (σ.lay n p c).B n = pageVals c :=
  pageVals_congr fun i hi => by
    show (if (4096 * n + i) / 4096 = n then c ((4096 * n + i) % 4096) else _) = _
    rw [if_pos (by omega), show (4096 * n + i) % 4096 = i by omega]
theorem lay_off (σ : Spc) {n m : Nat} (h : m ≠ n) (p : Int) (c : Nat → Int) : pageArr (σ.lay n p c).B m = pageArr σ.B m :=
  pageVals_congr fun i hi => by
    show (if (4096 * m + i) / 4096 = n then c ((4096 * m + i) % 4096) else σ.B (4096 * m + i)) = _
    rw [if_neg (by omega)]
theorem lay_same (σ : Spc) (n : Nat) (p : Int) (c : Nat → Int) : (σ.lay n p c).P n = p := if_pos rfl
theorem lay_other (σ : Spc) {n m : Nat} (h : m ≠ n) (p : Int) (c : Nat → Int) : (σ.lay n p c).P m = σ.P m := if_neg h
theorem owns_empty {P : Program} {k : TypeId} {R : Value → Option (DataW Unit × List MemPlace)} {b : Nat} (h : W.heap[b]? = some (.map #[] 0)) : W.ownsMap P k R b 0 (.map []) := by
  have h1 := World.ownsMap_made { W with heap := W.heap.extract 0 b } P k R
  have hb := (Array.getElem?_eq_some_iff.1 h).1
  have e : ({ W with heap := W.heap.extract 0 b } : World).heap.size = b := by simp; omega
  rw [e] at h1
  refine owns_at h1 ?_
  rw [h]
  have := heap_alloc_new { W with heap := W.heap.extract 0 b } (.map #[] 0)
  rw [e] at this
  exact this.symm
theorem obj_ne {b c : Nat} {cs : Array Value} {t : TypeId} {f : Nat × Nat} {es : Array MapEntry} {k : Nat} (h : w.heap[b]? = some (.cells cs t f)) (h' : w.heap[c]? = some (.map es k)) : b ≠ c := by
  rintro rfl
  rw [h] at h'
  injection h' with h'
  cases h'
theorem none_maps (h : ∀ n, σ.P n = 0) (hK : σ.K = 0) (g : Nat → Nat) : MapsOf σ g (.map []) (.map []) :=
  ⟨hK.symm, hK.symm, fun kl => ⟨fun h => (by cases h), fun ⟨n, _, h'⟩ => absurd (h n) h'⟩, fun kl => ⟨fun h => (by cases h), fun ⟨n, _, h'⟩ => absurd (h n) h'⟩, fun n _ h' => absurd (h n) h', fun n _ h' => absurd (h n) h', fun n _ h' => absurd (h n) h'⟩

theorem maps_put {g : Nat → Nat} {Dp Dq : DataW Unit} (hm : MapsOf σ g Dp Dq) (tp : Tidy Dp) (tq : Tidy Dq) {n : Nat} (h0 : σ.P n = 0) {p : Int} (hp : 1 ≤ p) (c : Nat → Int) {b : Nat} (hb : ∀ m, σ.P m ≠ 0 → g m ≠ b) :
    MapsOf (σ.lay n p c) (fun m => if m = n then b else g m) (Dp.put (keyN n) (.lit (.int .u64 b))) (Dq.put (keyN n) (.lit (.int .i64 p))) := by
  have hpn : (σ.lay n p c).P n ≠ 0 := by rw [lay_same]; omega
  have hh : ∀ D : DataW Unit, ∀ d, IsMap D → (∀ kl, Maps.has D kl = true ↔ ∃ n, kl = keyN n ∧ σ.P n ≠ 0) → ∀ kl, Maps.has (D.put (keyN n) d) kl = true ↔ ∃ m, kl = keyN m ∧ (σ.lay n p c).P m ≠ 0 := by
    intro D d hi hD kl
    by_cases e : kl = keyN n
    · subst e
      rw [has_put_same hi (keyN_key n)]
      exact ⟨fun _ => ⟨n, rfl, hpn⟩, fun _ => rfl⟩
    · rw [has_put_other e, hD]
      constructor
      · rintro ⟨m, rfl, hm⟩
        exact ⟨m, rfl, by rw [lay_other σ (fun h => e (by rw [h]))]; exact hm⟩
      · rintro ⟨m, rfl, hm⟩
        exact ⟨m, rfl, by rw [lay_other σ (fun h => e (by rw [h]))] at hm; exact hm⟩
  refine ⟨?_, ?_, hh _ _ tp.isMap hm.hasp, hh _ _ tq.isMap hm.hasq, fun m z hmm => ?_, fun m z hmm => ?_, fun m k h1 h2 h3 => ?_⟩
  · rw [size_put tp, if_neg (by rw [hasp_no hm h0]; exact Bool.false_ne_true), hm.szp]; rfl
  · rw [size_put tq, if_neg (by rw [hasq_no hm h0]; exact Bool.false_ne_true), hm.szq]; rfl
  · by_cases e : m = n
    · subst e; rw [atKey_put_same tp.isMap (keyN_key m), if_pos rfl]
    · rw [atKey_put_other (fun h => e (keyN_inj h)), if_neg e]
      rw [lay_other σ e] at hmm
      exact hm.atp m z hmm
  · by_cases e : m = n
    · subst e; rw [atKey_put_same tq.isMap (keyN_key m), lay_same]
    · rw [atKey_put_other (fun h => e (keyN_inj h)), lay_other σ e]
      rw [lay_other σ e] at hmm
      exact hm.atq m z hmm
  · by_cases e : m = n
    · subst e
      by_cases f : k = m
      · exact f.symm
      · rw [if_pos rfl, if_neg f] at h3
        rw [lay_other σ f] at h2
        exact absurd h3.symm (hb k h2)
    · rw [lay_other σ e] at h1
      by_cases f : k = n
      · subst f
        rw [if_neg e, if_pos rfl] at h3
        exact absurd h3 (hb m h1)
      · rw [lay_other σ f] at h2
        rw [if_neg e, if_neg f] at h3
        exact hm.inj m k h1 h2 h3

theorem lay_fits (hf : Fits σ) {n : Nat} (hn : n < 34359738368) {p : Int} (hp : 1 ≤ p ∧ p ≤ 7) {c : Nat → Int} (hc : ∀ i, 0 ≤ c i ∧ c i < 256) (hK : σ.K < 8192) : Fits (σ.lay n p c) := by
  refine ⟨?_, fun m hm => ?_, fun m => ?_, fun x => ?_, fun h => ?_⟩
  · show σ.K + 1 ≤ 8192; omega
  · by_cases e : m = n
    · rw [e]; exact hn
    · rw [lay_other σ e] at hm; exact hf.low m hm
  · by_cases e : m = n
    · rw [e, lay_same]; omega
    · rw [lay_other σ e]; exact hf.prot m
  · show 0 ≤ (if x / 4096 = n then c (x % 4096) else σ.B x) ∧ (if x / 4096 = n then c (x % 4096) else σ.B x) < 256
    split
    · exact hc _
    · exact hf.bytes x
  · exact absurd h (Nat.succ_ne_zero _)

/-- The space, once the entries are written. -/
theorem lay_close {a bp bq n : Nat} {p : Int} {c : Nat → Int} {o2 q2 : Obj} {g : Nat → Nat} {Dp Dq : DataW Unit} (hma : F a) (hf : Fits (σ.lay n p c)) (hm : MapsOf σ g Dp Dq) (tp : Tidy Dp) (tq : Tidy Dq) (h0 : σ.P n = 0) (hp1 : 1 ≤ p)
    (hs : w.heap.size < W.heap.size) (ho : W.os = w.os) (ht : W.tape = w.tape) (hu : W.output = w.output) (hW : ∀ k, k < w.heap.size → k ≠ a → W.heap[k]? = w.heap[k]?)
    (hpage : W.heap[w.heap.size]? = some (.cells (pageVals c) 99 (0, 0))) (ha : W.heap[a]? = some (.cells #[.map (some bp), .map (some bq)] 66 (0, 0)))
    (hS : Sets W w' bp bq o2 q2) (fp : F bp ∨ (w.heap.size ≤ bp ∧ bp < W.heap.size)) (fq : F bq ∨ (w.heap.size ≤ bq ∧ bq < W.heap.size)) (ne : bp ≠ bq) (nap : a ≠ bp) (naq : a ≠ bq) (np : w.heap.size ≠ bp) (nq : w.heap.size ≠ bq)
    (op : w'.heap[bp]? = some o2 → PMap w' bp (σ.K + 1) (Dp.put (keyN n) (.lit (.int .u64 w.heap.size)))) (oq : w'.heap[bq]? = some q2 → QMap w' bq (σ.K + 1) (Dq.put (keyN n) (.lit (.int .i64 p))))
    (pages : ∀ m, σ.P m ≠ 0 → F (g m) ∧ w.heap[g m]? = some (.cells (pageArr σ.B m) 99 (0, 0)) ∧ g m ≠ a ∧ g m ≠ bp ∧ g m ≠ bq) :
    SpcAt w' (Foot F w w') a (σ.lay n p c) ∧ Chg F w w' := by
  have hsz : w'.heap.size = W.heap.size := hS.size
  have ff : ∀ k, (F k ∨ (w.heap.size ≤ k ∧ k < W.heap.size)) → Foot F w w' k := fun k h => h.elim .inl (fun h => .inr ⟨h.1, by omega⟩)
  refine ⟨⟨.inl hma, hf, _, _, (hS.other a nap naq).trans ha, .full bp bq (fun m => if m = n then w.heap.size else g m) _ _ ne (op hS.p) (oq hS.q) (maps_put hm tp tq h0 hp1 c (fun m hm => Nat.ne_of_lt (lt_of_block (pages m hm).2.1))) (ff _ fp) (ff _ fq) fun m hmm => ?_⟩, ⟨hS.os.trans ho, hS.tape.trans ht, hS.output.trans hu, by omega, fun k hk hFk => ?_⟩⟩
  · by_cases e : m = n
    · subst e
      rw [if_pos rfl, lay_at]
      exact ⟨.inr ⟨Nat.le_refl _, by omega⟩, (hS.other _ np nq).trans hpage⟩
    · rw [lay_other σ e] at hmm
      rw [if_neg e, lay_off σ e]
      obtain ⟨h1, h2, h3, h4, h5⟩ := pages m hmm
      exact ⟨.inl h1, (hS.other _ h4 h5).trans ((hW _ (lt_of_block h2) h3).trans h2)⟩
  · have e1 : k ≠ bp := fun e => by subst e; rcases fp with h | h; exact hFk h; omega
    have e2 : k ≠ bq := fun e => by subst e; rcases fq with h | h; exact hFk h; omega
    exact (hS.other k e1 e2).trans (hW k hk (fun e => hFk (e ▸ hma)))

theorem bareW_a {a : Nat} {pg : Array Value} (ha : w.heap[a]? = some (.cells #[.map none, .map none] 66 (0, 0))) : (bareW w a pg).heap[a]? = some (.cells #[.map (some (w.heap.size + 1)), .map (some (w.heap.size + 1 + 1))] 66 (0, 0)) := by
  have hlt := lt_of_block ha
  have hA : (((w.alloc (.cells pg 99)).alloc (.map #[] 0)).alloc (.map #[] 0)).heap[a]? = some (.cells #[.map none, .map none] 66 (0, 0)) := by
    rw [heap_alloc_old _ _ (by simp; omega), heap_alloc_old _ _ (by simp; omega), heap_alloc_old _ _ hlt]; exact ha
  unfold bareW
  have h1 := heap_setCell_same _ a 0 _ _ (.map (some (w.heap.size + 1))) hA
  exact (heap_setCell_same _ a 1 _ _ (.map (some (w.heap.size + 1 + 1))) h1).trans rfl
theorem bareW_else {a k : Nat} {pg : Array Value} (h : k ≠ a) : (bareW w a pg).heap[k]? = (((w.alloc (.cells pg 99)).alloc (.map #[] 0)).alloc (.map #[] 0)).heap[k]? := by
  unfold bareW
  rw [heap_setCell_other _ _ _ _ (show k ≠ a from h), heap_setCell_other _ _ _ _ (show k ≠ a from h)]
theorem bareW_size {a : Nat} {pg : Array Value} : (bareW w a pg).heap.size = w.heap.size + 3 := by unfold bareW; simp
theorem lay_any {a : Nat} (h : SpcAt w F a σ) {n : Nat} (hn : n < 34359738368) (h0 : σ.P n = 0) {p : Int} (hp : 1 ≤ p ∧ p ≤ 7) {c : Nat → Int} (hc : ∀ i, 0 ≤ c i ∧ c i < 256) (hK : σ.K < 8192) :
    Calls Tryz.prog 42 #[.pointer (some ⟨a, 0, none⟩), .int .u64 n, .agg (pageVals c), .int .i64 p] w fun e w' => e = .returned (.tuple #[]) ∧ SpcAt w' (Foot F w w') a (σ.lay n p c) ∧ Chg F w w' := by
  obtain ⟨hma, hf, mp, mq, hb, hmaps⟩ := h
  have hf' := lay_fits hf hn hp hc hK
  have hk := key_of (show n < 18446744073709551616 by omega)
  have hwp : (Lit.int .i64 p).wf = true := WalkArith.wf_i64 (by omega)
  cases hmaps with
  | bare hbare hK0 =>
    have hlt := lt_of_block hb
    obtain ⟨W, hW⟩ : ∃ W, bareW w a (pageVals c) = W := ⟨_, rfl⟩
    have wa := bareW_a (pg := pageVals c) hb
    have wp : W.heap[w.heap.size + 1]? = some (.map #[] 0) := by
      rw [← hW, bareW_else (by omega), heap_alloc_old _ _ (by simp)]
      have := heap_alloc_new (w.alloc (.cells (pageVals c) 99)) (.map #[] 0)
      simpa using this
    have wq : W.heap[w.heap.size + 1 + 1]? = some (.map #[] 0) := by
      rw [← hW, bareW_else (by omega)]
      have := heap_alloc_new ((w.alloc (.cells (pageVals c) 99)).alloc (.map #[] 0)) (.map #[] 0)
      simpa using this
    have wg : W.heap[w.heap.size]? = some (.cells (pageVals c) 99 (0, 0)) := by
      rw [← hW, bareW_else (by omega), heap_alloc_old _ _ (by simp; omega), heap_alloc_old _ _ (by simp)]
      exact heap_alloc_new _ _
    have wo : ∀ k, k < w.heap.size → k ≠ a → W.heap[k]? = w.heap[k]? := fun k hk hka => by
      rw [← hW, bareW_else hka, heap_alloc_old _ _ (by simp; omega), heap_alloc_old _ _ (by simp; omega), heap_alloc_old _ _ hk]
    have ws : W.heap.size = w.heap.size + 3 := by rw [← hW]; exact bareW_size
    have w1 : W.os = w.os ∧ W.tape = w.tape ∧ W.output = w.output := by rw [← hW]; exact ⟨rfl, rfl, rfl⟩
    rw [hW] at wa
    have ep : PMap W (w.heap.size + 1) 0 (.map []) := owns_empty wp
    have eq : QMap W (w.heap.size + 1 + 1) 0 (.map []) := owns_empty wq
    obtain ⟨o0, o1, o2, ho0, hHp, hop⟩ := owns_halves ep u64keyed Tryz.underlying63 zeroPtr (by unfold maxLen; omega) hk (ptrElem_mk w.heap.size)
    obtain ⟨q0, q1, q2, hq0, hHq, hoq⟩ := owns_halves eq u64keyed Tryz.underlying64 zeroI (by unfold maxLen; omega) hk (plainElem_int Tryz.underlying3 hwp)
    obtain rfl : o0 = .map #[] 0 := Option.some.inj (ho0.symm.trans wp)
    obtain rfl : q0 = .map #[] 0 := Option.some.inj (hq0.symm.trans wq)
    refine (lay_bare_raw a n (pageVals c) p o1 o2 q1 q2 hb w.heap.size _ _ W rfl rfl rfl hW hHp hHq).mono ?_
    rintro e w2 ⟨rfl, hS⟩
    refine ⟨rfl, lay_close (W := W) hma hf' (none_maps hbare hK0 (fun _ => 0)) tidy_empty tidy_empty h0 hp.1 (by omega) w1.1 w1.2.1 w1.2.2 wo wg wa hS (.inr (by omega)) (.inr (by omega)) (by omega) (by omega) (by omega) (by omega) (by omega)
      (fun h => by rw [hK0]; exact hop w2 h) (fun h => by rw [hK0]; exact hoq w2 h) fun m hmm => absurd (hbare m) hmm⟩
  | full bp bq g Dp Dq hne hp' hq' hm fp fq fg =>
    obtain ⟨o0, o1, o2, ho0, hHp, hop⟩ := owns_halves hp' u64keyed Tryz.underlying63 zeroPtr (by unfold maxLen; omega) hk (ptrElem_mk w.heap.size)
    obtain ⟨q0, q1, q2, hq0, hHq, hoq⟩ := owns_halves hq' u64keyed Tryz.underlying64 zeroI (by unfold maxLen; omega) hk (plainElem_int Tryz.underlying3 hwp)
    obtain ⟨_, _, mp⟩ := owns_obj hp'
    obtain ⟨_, _, mq⟩ := owns_obj hq'
    have nap := obj_ne hb mp
    have naq := obj_ne hb mq
    refine (lay_raw a bp bq n (pageVals c) p o0 o1 o2 q0 q1 q2 hne nap naq hb ho0 hq0 hHp hHq).mono ?_
    rintro e w1 ⟨rfl, hS⟩
    have hlt := lt_of_block hb
    refine ⟨rfl, lay_close (W := w.alloc (.cells (pageVals c) 99)) hma hf' hm (World.ownsMap.tidy hp' u64keyed) (World.ownsMap.tidy hq' u64keyed) h0 hp.1 (by simp) rfl rfl rfl (fun k hk _ => heap_alloc_old _ _ hk) (heap_alloc_new _ _) ((heap_alloc_old _ _ hlt).trans hb) hS (.inl fp) (.inl fq) hne nap naq
      (Nat.ne_of_gt (lt_of_block mp)) (Nat.ne_of_gt (lt_of_block mq)) (hop w1) (hoq w1) fun m hmm => ?_⟩
    obtain ⟨h1, h2⟩ := fg m hmm
    refine ⟨h1, h2, ?_, obj_ne h2 mp, obj_ne h2 mq⟩
    rintro rfl
    rw [hb] at h2
    injection h2 with h2
    injection h2 with _ h2 _
    cases h2
end Go.Proofs.YtdagnkdonlfobaaGreat

/- Free, and what it asks: a range's end, its pages' numbers, how many pages there are. No condition. -/
namespace Go.Proofs.YtdagnkdonlfobaaGreat
open Go.RowKit Go.Maps Go.ChangeMaps
variable {w w' W : World} {F : Nat → Prop} {σ : Spc}

def belowB (a s : Nat) : Bool := decide (s ≤ 140737488355328) && decide (a ≤ 140737488355328 - s)
theorem belowB_iff {a s : Nat} : belowB a s = true ↔ a + s ≤ 140737488355328 := by unfold belowB; simp; omega
theorem isBelow_any (a s : Nat) (w : World) : Calls Tryz.prog 39 #[.int .u64 a, .int .u64 s] w fun e w' => e = .returned (.bool (belowB a s)) ∧ w = w' := by
  by_cases h1 : s ≤ 140737488355328
  · have hd : decide ((s : Int) ≤ 140737488355328) = true := by simp; omega
    have hw : IntKind.u64.wrap (140737488355328 - (s : Int)) = 140737488355328 - (s : Int) := IntWalk.u64_in _ (by omega)
    by_cases h2 : a ≤ 140737488355328 - s
    · have h2' : (a : Int) ≤ 140737488355328 - s := by omega
      have hb := Lib.hid (show belowB a s = true from belowB_iff.2 (by omega))
      go_enter Tryz.func39, Tryz.ntmps39
      go_wp2
      go_ret
      exact ⟨ret_bool (by rw [hb.out]), rfl⟩
    · have h2' : ¬ (a : Int) ≤ 140737488355328 - s := by omega
      have hb := Lib.hid (show belowB a s = false from by cases e : belowB a s; rfl; have := belowB_iff.1 e; omega)
      go_enter Tryz.func39, Tryz.ntmps39
      go_wp2
      go_ret
      exact ⟨ret_bool (by rw [hb.out]), rfl⟩
  · have hb := Lib.hid (show belowB a s = false from by cases e : belowB a s; rfl; have := belowB_iff.1 e; omega)
    have hd : decide ((s : Int) ≤ 140737488355328) = false := by simp; omega
    go_enter Tryz.func39, Tryz.ntmps39
    go_wp2
    go_ret
    exact ⟨ret_bool (by rw [hb.out]), rfl⟩

theorem numbers_any (a s : Nat) (hs : 1 ≤ s) (hb : a + s ≤ 140737488355328) (w : World) : Calls Tryz.prog 41 #[.int .u64 a, .int .u64 s] w fun e w' => e = .returned (.tuple #[.int .u64 ((a / 4096 : Nat) : Int), .int .u64 (((a + s - 1) / 4096 : Nat) : Int)]) ∧ w = w' := by
  go_enter Tryz.func41, Tryz.ntmps41
  go_wp2
  go_ret2
  have e1 : ((a / 4096 : Nat) : Int) = (a : Int) / 4096 := by omega
  have e2 : (((a + s - 1) / 4096 : Nat) : Int) = ((a : Int) + s - 1) / 4096 := by omega
  exact ⟨by rw [e1, e2]; rfl, rfl⟩

theorem pages_any {a : Nat} (h : SpcAt w F a σ) : Calls Tryz.prog 20 #[.pointer (some ⟨a, 0, none⟩)] w fun e w' => e = .returned (.int .i64 σ.K) ∧ w = w' := by
  obtain ⟨_, _, mp, mq, hb, hm⟩ := h
  have c0 : w.cell? ⟨a, 0, none⟩ = some mp := by rw [cell_of hb]; rfl
  have hl := fun ty => hm.len ty
  go_enter Tryz.func20, Tryz.ntmps20
  go_wp2
  go_ret
  exact ⟨rfl, rfl⟩
theorem pages_nil (w : World) : Calls Tryz.prog 20 #[.pointer none] w fun e w' => e = .returned (.int .i64 0) ∧ w = w' := by
  go_enter Tryz.func20, Tryz.ntmps20
  go_wp2
  go_ret
  exact ⟨rfl, rfl⟩
end Go.Proofs.YtdagnkdonlfobaaGreat
