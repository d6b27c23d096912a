import Derived.Test.YtemdbfgpimfkdaaGreatM14
/- Where an image begins and ends, as the document has it. No condition but that numbers fit their types. -/
namespace Go.Proofs.YtemdbfgpimfkdaaGreat
open Go.RowKit
variable {w w' : World} {h : Hx} {s : St} {sv dv : Value} {n hd : Int}

set_option maxRecDepth 20000 in
theorem rHigh_any {l : List Sg} {qs : Option Addr} {cs : Nat} (k : ImgRows w s l qs cs) : Calls Tryz.prog 27 #[imgV h s (.slice qs l.length cs) dv] w fun e w' => e = .returned (.int .u64 (highN s.segs)) ∧ w.grownBy w' none := by
  have gB := grown1 w (.cells (imgArr h s (.slice qs l.length cs) dv) 32)
  have aA : ImgAt (w.alloc (.cells (imgArr h s (.slice qs l.length cs) dv) 32)) w.heap.size h s (.slice qs l.length cs) dv := heap_alloc_new w _
  obtain ⟨W, hW⟩ : ∃ W, w.alloc (.cells (imgArr h s (.slice qs l.length cs) dv) 32) = W := ⟨_, rfl⟩
  obtain ⟨b, hb⟩ : ∃ b, w.heap.size = b := ⟨_, rfl⟩
  rw [hW] at gB aA
  rw [hb] at aA
  have RW := Lib.hid (fun (V : World) (hg : W.grownBy V none) => (k.grown gB).row.grown hg)
  have G := Lib.hid gB
  have AA := Lib.hid aA
  have DR := Lib.hid (fun (k1 : Nat) (x : Sg) => hi_succ (k := k1) (x := x) k.segs)
  have DE := Lib.hid (show s.segs.take l.length = s.segs by rw [← k.segs, ← List.length_map (f := Sg.seg), List.take_length])
  have CP := Lib.hid k.cap
  have FW := Lib.hid k.few
  obtain ⟨r, hr⟩ : ∃ r, r = highN s.segs := ⟨_, rfl⟩
  rw [← hr]
  rw [highN_eq] at hr
  have HR := Lib.hid hr
  clear k gB aA hr
  rw [show imgV h s (.slice qs l.length cs) dv = .agg (imgArr h s (.slice qs l.length cs) dv) from rfl]
  unfold imgArr at hW ⊢
  go_enter Tryz.func27, Tryz.ntmps27
  go_upto_region 1 with fail
  clear hW hb
  go_wp2
  go_loopw [3, 4] (fun e i wr => ∃ (k1 : Nat) (E : Int), k1 ≤ l.length ∧ i = .int .i64 k1 ∧ e = .int .u64 E ∧ W.grownBy wr none ∧ E = (s.segs.take k1).foldl hiS 0) (fun _ i _ => l.length - (intOf i).toNat)
  case atStart => exact ⟨0, 0, Nat.zero_le _, rfl, rfl, grown_refl _ _, rfl⟩
  case round =>
    obtain ⟨k1, E, hk, rfl, rfl, hg, hre⟩ := hrel
    have HRE := Lib.hid hre
    have G3 := Lib.hid hg
    have c4 := (AA.out.kept hg (by simp)).c 4 (.slice qs l.length cs) rfl
    have gl := lt_of_block (AA.out.kept hg (by simp))
    by_cases hlt : k1 < l.length
    · obtain ⟨x, hx⟩ : ∃ x, l[k1]? = some x := ⟨_, List.getElem?_eq_getElem hlt⟩
      obtain ⟨g, rfl, a0, a1, a2, a3, a4, a5, a6⟩ := (RW.out wr hg).at hx
      have dl : decide ((k1 : Int) < (l.length : Int)) = true := by simp; omega
      have hkl : (k1 : Int) < (l.length : Int) := by omega
      have DX := Lib.hid (DR.out k1 x hx)
      have LD := Lib.hid (fun (V : World) => hole_any (w := V) x.seg x.q x.seg.secs.length x.c)
      obtain ⟨bx, hbx⟩ : ∃ bx, bx = laidS x.seg := ⟨_, rfl⟩
      rw [← hbx] at LD
      have HB := Lib.hid hbx
      obtain ⟨⟨nm, ad, sz, of, fs, pr, sl⟩, q1, c1⟩ := x
      simp only [] at a0 a1 a2 a3 a4 a5 a6 LD
      unfold segV segArr at LD
      obtain ⟨T, hT⟩ : ∃ T, (ad + sz) % 18446744073709551616 = T := ⟨_, rfl⟩
      have hT2 : IntKind.u64.wrap (ad + sz) = T := by rw [IntKind.wrap_u64]; exact hT
      have HT := Lib.hid hT
      have hcp : l.length ≤ cs := CP.out
      have hfw : l.length ≤ 9223372036854775807 := FW.out
      have g5 := grown_trans hg (grown1 wr (.cells #[.string (strOfNums nm), .int .u64 ad, .int .u64 sz, .int .u64 of, .int .u64 fs, .int .i64 pr, .slice q1 sl.length c1] 42))
      have p5 : SegAt (wr.alloc (.cells #[.string (strOfNums nm), .int .u64 ad, .int .u64 sz, .int .u64 of, .int .u64 fs, .int .i64 pr, .slice q1 sl.length c1] 42)) wr.heap.size ⟨nm, ad, sz, of, fs, pr, sl⟩ (.slice q1 sl.length c1) := heap_alloc_new wr _
      have P5 := Lib.hid p5
      have G5 := Lib.hid g5
      clear hg hx hT g5 hre hbx p5
      generalize l.length = N at *
      go_wp2_with fail
      refine (LD.out _).mono ?_
      rintro e w6 ⟨rfl, hg⟩
      have P6 := P5.out.kept hg (by simp)
      have G6 := Lib.hid (grown_trans G5.out hg)
      obtain ⟨y0, y1, y2, y3, y4, y5, y6⟩ := P6.c
      have yl := P6.lt
      clear hg P6
      simp only [] at y1 y2
      cases bx
      · go_wp2
        go_roundw
        case rel =>
          refine ⟨k1 + 1, E, hlt, by go_num, rfl, G6.out, ?_⟩
          rw [DX.out, ← HRE.out]
          unfold hiS
          rw [← HB.out]
          rfl
        case measure => simp [intOf]; omega
      · cases hET : decide (E < T)
        · go_wp2
          go_roundw
          case rel =>
            refine ⟨k1 + 1, E, hlt, by go_num, rfl, G6.out, ?_⟩
            rw [DX.out, ← HRE.out]
            unfold hiS
            rw [← HB.out, if_pos rfl, HT.out]
            have := of_decide_eq_false hET
            omega
          case measure => simp [intOf]; omega
        · go_wp2
          go_roundw
          case rel =>
            refine ⟨k1 + 1, T, hlt, by go_num, rfl, G6.out, ?_⟩
            rw [DX.out, ← HRE.out]
            unfold hiS
            rw [← HB.out, if_pos rfl, HT.out]
            have := of_decide_eq_true hET
            omega
          case measure => simp [intOf]; omega
    · have hk' : k1 = l.length := by omega
      subst hk'
      have dl : decide ((l.length : Int) < (l.length : Int)) = false := by simp
      have HF : r = E := by rw [hre, DE.out]; exact HR.out
      clear hg hre
      generalize l.length = N at *
      go_wp2
      go_ret
      exact ⟨ret_int HF.symm, grown_trans G.out G3.out⟩
theorem find_take {l : List Sg} (hl : l.map Sg.seg = s.segs) {k : Nat} (h : ∀ j y, j < k → l[j]? = some y → laidS y.seg = false) : (∀ x, l[k]? = some x → laidS x.seg = true → lowN s.segs = x.seg.addr) ∧ (k = l.length → lowN s.segs = 0) := by
  constructor
  · intro x hx hp
    have : s.segs.find? laidS = some x.seg := by
      rw [← hl, List.find?_map]
      obtain ⟨hk, he⟩ := List.getElem?_eq_some_iff.1 hx
      have : l.find? (laidS ∘ Sg.seg) = some x := by
        rw [List.find?_eq_some_iff_getElem]
        exact ⟨hp, k, hk, he, fun j hj => by show (!laidS _) = true; rw [h j _ hj (List.getElem?_eq_getElem (Nat.lt_trans hj hk))]; rfl⟩
      rw [this]; rfl
    unfold lowN; rw [this]
  · intro hk
    have : s.segs.find? laidS = none := by
      rw [← hl, List.find?_eq_none]
      intro y hy
      obtain ⟨z, hz, rfl⟩ := List.mem_map.1 hy
      obtain ⟨j, hj, rfl⟩ := List.getElem_of_mem hz
      rw [h j _ (by omega) (List.getElem?_eq_getElem hj)]; simp
    unfold lowN; rw [this]
set_option maxRecDepth 20000 in
theorem rLow_any {l : List Sg} {qs : Option Addr} {cs : Nat} (k : ImgRows w s l qs cs) : Calls Tryz.prog 28 #[imgV h s (.slice qs l.length cs) dv] w fun e w' => e = .returned (.int .u64 (lowN s.segs)) ∧ w.grownBy w' none := by
  have gB := grown1 w (.cells (imgArr h s (.slice qs l.length cs) dv) 32)
  have aA : ImgAt (w.alloc (.cells (imgArr h s (.slice qs l.length cs) dv) 32)) w.heap.size h s (.slice qs l.length cs) dv := heap_alloc_new w _
  obtain ⟨W, hW⟩ : ∃ W, w.alloc (.cells (imgArr h s (.slice qs l.length cs) dv) 32) = W := ⟨_, rfl⟩
  obtain ⟨b, hb⟩ : ∃ b, w.heap.size = b := ⟨_, rfl⟩
  rw [hW] at gB aA
  rw [hb] at aA
  have RW := Lib.hid (fun (V : World) (hg : W.grownBy V none) => (k.grown gB).row.grown hg)
  have G := Lib.hid gB
  have AA := Lib.hid aA
  have FT := Lib.hid (fun (k1 : Nat) => find_take (k := k1) k.segs)
  have CP := Lib.hid k.cap
  have FW := Lib.hid k.few
  obtain ⟨r, hr⟩ : ∃ r, r = lowN s.segs := ⟨_, rfl⟩
  rw [← hr]
  have HR := Lib.hid hr
  clear k gB aA hr
  rw [show imgV h s (.slice qs l.length cs) dv = .agg (imgArr h s (.slice qs l.length cs) dv) from rfl]
  unfold imgArr at hW ⊢
  go_enter Tryz.func28, Tryz.ntmps28
  go_upto_region 1 with fail
  clear hW hb
  go_wp2
  go_loopw [3] (fun i wr => ∃ k1 : Nat, k1 ≤ l.length ∧ i = .int .i64 k1 ∧ W.grownBy wr none ∧ ∀ j y, j < k1 → l[j]? = some y → laidS y.seg = false) (fun i _ => l.length - (intOf i).toNat)
  case atStart => exact ⟨0, Nat.zero_le _, rfl, grown_refl _ _, fun j y hj => by omega⟩
  case round =>
    obtain ⟨k1, hk, rfl, hg, hno⟩ := hrel
    have NO := Lib.hid hno
    have G3 := Lib.hid hg
    have c4 := (AA.out.kept hg (by simp)).c 4 (.slice qs l.length cs) rfl
    have gl := lt_of_block (AA.out.kept hg (by simp))
    by_cases hlt : k1 < l.length
    · obtain ⟨x, hx⟩ : ∃ x, l[k1]? = some x := ⟨_, List.getElem?_eq_getElem hlt⟩
      obtain ⟨g, rfl, a0, a1, a2, a3, a4, a5, a6⟩ := (RW.out wr hg).at hx
      have RX := Lib.hid (fun (V : World) (hv : W.grownBy V none) => (RW.out V hv).at hx)
      have dl : decide ((k1 : Int) < (l.length : Int)) = true := by simp; omega
      have hkl : (k1 : Int) < (l.length : Int) := by omega
      have LD := Lib.hid (fun (V : World) => hole_any (w := V) x.seg x.q x.seg.secs.length x.c)
      obtain ⟨bx, hbx⟩ : ∃ bx, bx = laidS x.seg := ⟨_, rfl⟩
      rw [← hbx] at LD
      have HB := Lib.hid hbx
      have HX := Lib.hid hx
      obtain ⟨⟨nm, ad, sz, of, fs, pr, sl⟩, q1, c1⟩ := x
      simp only [] at a0 a1 a2 a3 a4 a5 a6 LD
      unfold segV segArr at LD
      have hcp : l.length ≤ cs := CP.out
      have hfw : l.length ≤ 9223372036854775807 := FW.out
      clear hg hx hno hbx
      generalize hN : l.length = N at *
      clear hN
      go_wp2_with fail
      refine (LD.out _).mono ?_
      rintro e w6 ⟨rfl, hg⟩
      have G6 := Lib.hid (grown_trans G3.out hg)
      have c4 := grown_cell hg c4
      have gl := Nat.lt_of_lt_of_le gl hg.size
      have a1 := grown_cell hg a1
      clear hg
      cases bx
      · go_wp2
        go_roundw
        case rel =>
          refine ⟨k1 + 1, hlt, by go_num, G6.out, fun j y hj hy => ?_⟩
          rcases Nat.lt_or_ge j k1 with h1 | h1
          · exact NO.out j y h1 hy
          · obtain rfl : j = k1 := by omega
            rw [HX.out] at hy
            injection hy with hy
            rw [← hy]; exact HB.out.symm
        case measure => simp [intOf]; omega
      · go_wp2
        go_ret
        exact ⟨ret_int (HR.out.trans ((FT.out k1 NO.out).1 _ HX.out HB.out.symm)).symm, grown_trans G.out G6.out⟩
    · have hk' : k1 = l.length := by omega
      subst hk'
      have dl : decide ((l.length : Int) < (l.length : Int)) = false := by simp
      have HF : r = 0 := HR.out.trans ((FT.out _ hno).2 rfl)
      clear hg hno
      generalize l.length = N at *
      go_wp2
      go_ret
      exact ⟨ret_int HF.symm, grown_trans G.out G3.out⟩
end Go.Proofs.YtemdbfgpimfkdaaGreat

/- Which sections may be, as the document has it. No condition but that numbers fit their types, and that no segment has more bytes in the file than in memory. -/
namespace Go.Proofs.YtemdbfgpimfkdaaGreat
open Go.RowKit
variable {w w' : World} {h : Hx} {s : St} {sv dv : Value} {n hd : Int}

theorem RowSec.at {l : List Sec} {qs : Option Addr} (r : RowSec w qs l) {k : Nat} {x : Sec} (hx : l[k]? = some x) : ∃ g, qs = some ⟨g, 0, none⟩ ∧ w.cell? ⟨g, k * 6, none⟩ = some (.string (strOfNums x.name)) ∧ w.cell? ⟨g, k * 6 + 1, none⟩ = some (.string (strOfNums x.seg)) ∧ w.cell? ⟨g, k * 6 + 2, none⟩ = some (.int .u64 x.addr) ∧
      w.cell? ⟨g, k * 6 + 3, none⟩ = some (.int .u64 x.size) ∧ w.cell? ⟨g, k * 6 + 4, none⟩ = some (.int .u64 x.off) ∧ w.cell? ⟨g, k * 6 + 5, none⟩ = some (.int .i64 x.kind) := r k x hx
set_option maxHeartbeats 1000000 in
set_option maxRecDepth 20000 in
theorem rsections_any {l : List Sg} {qs : Option Addr} {cs : Nat} (k : ImgRows w s l qs cs) (hf : SegsFit s) (hfs : ∀ x ∈ s.segs, x.fsize ≤ x.size) (hcap : ∀ x ∈ l, x.seg.secs.length ≤ x.c) :
    Calls Tryz.prog 25 #[imgV h s (.slice qs l.length cs) dv] w fun e w' => e = .returned (.int .i64 (if secsOk s = true then 0 else 9)) ∧ w.grownBy w' none := by
  have gB := grown1 w (.cells (imgArr h s (.slice qs l.length cs) dv) 32)
  have aA : ImgAt (w.alloc (.cells (imgArr h s (.slice qs l.length cs) dv) 32)) w.heap.size h s (.slice qs l.length cs) dv := heap_alloc_new w _
  obtain ⟨W, hW⟩ : ∃ W, w.alloc (.cells (imgArr h s (.slice qs l.length cs) dv) 32) = W := ⟨_, rfl⟩
  obtain ⟨b, hb⟩ : ∃ b, w.heap.size = b := ⟨_, rfl⟩
  rw [hW] at gB aA
  rw [hb] at aA
  have RW := Lib.hid (fun (V : World) (hg : W.grownBy V none) => (k.grown gB).row.grown hg)
  have RS := Lib.hid (fun (V : World) (hg : W.grownBy V none) (x : Sg) (hx : x ∈ l) => ((k.grown gB).grown hg).secs x hx)
  have G := Lib.hid gB
  have AA := Lib.hid aA
  have CP := Lib.hid k.cap
  have FW := Lib.hid k.few
  have MW := Lib.hid k.many
  have CC := Lib.hid hcap
  have FF := Lib.hid (fun (x : Sg) (hx : x ∈ l) => k.fit hf hx)
  have FS := Lib.hid (fun (x : Sg) (hx : x ∈ l) => hfs x.seg (by rw [← k.segs]; exact List.mem_map_of_mem hx))
  have SO := Lib.hid (show secsOk s = l.all (fun x => x.seg.secs.all (secOk x.seg)) by unfold secsOk; rw [← all_seg k.segs])
  obtain ⟨r, hr⟩ : ∃ r : Int, r = if secsOk s = true then 0 else 9 := ⟨_, rfl⟩
  rw [← hr]
  have HR := Lib.hid hr
  have NO9 := Lib.hid (fun (x : Sg) (hx : x ∈ l) (y : Sec) (hy : y ∈ x.seg.secs) (hs : secOk x.seg y = false) => (show r = 9 by
    rw [HR.out, if_neg]
    rw [SO.out, List.all_eq_true]
    intro hal
    have h1 := hal x hx
    rw [List.all_eq_true] at h1
    have h2 := h1 y hy
    rw [hs] at h2
    cases h2))
  clear k gB aA hr hf hfs hcap
  rw [show imgV h s (.slice qs l.length cs) dv = .agg (imgArr h s (.slice qs l.length cs) dv) from rfl]
  unfold imgArr at hW ⊢
  go_enter Tryz.func25, Tryz.ntmps25
  go_upto_region 1 with fail
  clear hW hb
  go_wp2
  go_loopw [3] (fun i wr => ∃ k1 : Nat, k1 ≤ l.length ∧ i = .int .i64 k1 ∧ W.grownBy wr none ∧ ∀ j y, j < k1 → l[j]? = some y → y.seg.secs.all (secOk y.seg) = true) (fun i _ => l.length - (intOf i).toNat)
  case atStart => exact ⟨0, Nat.zero_le _, rfl, grown_refl _ _, fun j y hj => by omega⟩
  case round =>
    obtain ⟨k1, hk, rfl, hg, hno⟩ := hrel
    have NO := Lib.hid hno
    have G3 := Lib.hid hg
    have c4 := (AA.out.kept hg (by simp)).c 4 (.slice qs l.length cs) rfl
    have gl := lt_of_block (AA.out.kept hg (by simp))
    by_cases hlt : k1 < l.length
    · obtain ⟨x, hx⟩ : ∃ x, l[k1]? = some x := ⟨_, List.getElem?_eq_getElem hlt⟩
      obtain ⟨g, rfl, a0, a1, a2, a3, a4, a5, a6⟩ := (RW.out wr hg).at hx
      have dl : decide ((k1 : Int) < (l.length : Int)) = true := by simp; omega
      have hkl : (k1 : Int) < (l.length : Int) := by omega
      have HX := Lib.hid hx
      have hxm := List.mem_of_getElem? hx
      have RSX := Lib.hid (fun (V : World) (hv : W.grownBy V none) => RS.out V hv x hxm)
      have FX := Lib.hid (FF.out x hxm)
      have FSX := Lib.hid (FS.out x hxm)
      have MX := Lib.hid (MW.out x hxm)
      have CX := Lib.hid (CC.out x hxm)
      have N9 := Lib.hid (NO9.out x hxm)
      obtain ⟨⟨nm, ad, sz, of, fs, pr, sl⟩, q1, c1⟩ := x
      simp only [] at a0 a1 a2 a3 a4 a5 a6 RSX FX FSX MX CX N9
      have hcp : l.length ≤ cs := CP.out
      have hfw : l.length ≤ 9223372036854775807 := FW.out
      have g5 := grown_trans hg (grown1 wr (.cells #[.string (strOfNums nm), .int .u64 ad, .int .u64 sz, .int .u64 of, .int .u64 fs, .int .i64 pr, .slice q1 sl.length c1] 42))
      have p5 : SegAt (wr.alloc (.cells #[.string (strOfNums nm), .int .u64 ad, .int .u64 sz, .int .u64 of, .int .u64 fs, .int .i64 pr, .slice q1 sl.length c1] 42)) wr.heap.size ⟨nm, ad, sz, of, fs, pr, sl⟩ (.slice q1 sl.length c1) := heap_alloc_new wr _
      obtain ⟨wd, hwd⟩ : ∃ wd, wr.alloc (.cells #[.string (strOfNums nm), .int .u64 ad, .int .u64 sz, .int .u64 of, .int .u64 fs, .int .i64 pr, .slice q1 sl.length c1] 42) = wd := ⟨_, rfl⟩
      obtain ⟨pd, hpd⟩ : ∃ pd, wr.heap.size = pd := ⟨_, rfl⟩
      rw [hwd] at g5 p5
      rw [hpd] at p5
      have P5 := Lib.hid p5
      have G5 := Lib.hid g5
      clear hg hx g5 hno p5 hxm
      generalize l.length = N at *
      go_wp2_with fail
      clear hwd hpd
      go_loopw [5] (fun i wx => ∃ m : Nat, m ≤ sl.length ∧ i = .int .i64 m ∧ wd.grownBy wx none ∧ ∀ j y, j < m → sl[j]? = some y → secOk ⟨nm, ad, sz, of, fs, pr, sl⟩ y = true) (fun i _ => sl.length - (intOf i).toNat)
      case atStart => exact ⟨0, Nat.zero_le _, rfl, grown_refl _ _, fun j y hj => by omega⟩
      case round =>
        obtain ⟨m, hm, rfl, hg, hall⟩ := hrel
        have AL := Lib.hid hall
        have GH := Lib.hid hg
        have g6 := grown_trans G5.out hg
        have G6 := Lib.hid g6
        have P6 := P5.out.kept hg (by simp)
        have z6 := P6.c.2.2.2.2.2.2
        have zl := P6.lt
        by_cases hmt : m < sl.length
        · obtain ⟨y, hy⟩ : ∃ y, sl[m]? = some y := ⟨_, List.getElem?_eq_getElem hmt⟩
          obtain ⟨gs, hq1, b0, b1, b2, b3, b4, b5⟩ := (RSX.out wr g6).at hy
          subst hq1
          have hym := List.mem_of_getElem? hy
          have dm : decide ((m : Int) < (sl.length : Int)) = true := by simp; omega
          have hml : (m : Int) < (sl.length : Int) := by omega
          have hcx : sl.length ≤ c1 := CX.out
          have hmx : sl.length ≤ 9223372036854775807 := MX.out
          obtain ⟨⟨f1, f2⟩, f3, f4, f5, f6⟩ := (⟨FX.out.1.addr, FX.out.1.size, FX.out.1.fsize, FX.out.1.off, FX.out.1.prot, trivial⟩ : U64 ad ∧ U64 sz ∧ U64 fs ∧ U64 of ∧ _ ∧ True)
          have SF := FX.out.2 y hym
          have NY := Lib.hid (N9.out y hym)
          have HY := Lib.hid hy
          obtain ⟨sn, ss, sa, sb, so, sk⟩ := y
          obtain ⟨⟨h1, h2⟩, h3, h4⟩ := (⟨SF.addr, SF.size, SF.off⟩ : U64 sa ∧ U64 sb ∧ U64 so)
          simp only [] at b0 b1 b2 b3 b4 b5
          have g7 := grown1 wr (.cells #[.string (strOfNums sn), .string (strOfNums ss), .int .u64 sa, .int .u64 sb, .int .u64 so, .int .i64 sk] 88)
          have q7 : SecAt (wr.alloc (.cells #[.string (strOfNums sn), .string (strOfNums ss), .int .u64 sa, .int .u64 sb, .int .u64 so, .int .i64 sk] 88)) wr.heap.size ⟨sn, ss, sa, sb, so, sk⟩ := heap_alloc_new wr _
          have p7 := P6.kept g7 (by simp)
          obtain ⟨wx, hwx⟩ : ∃ wx, wr.alloc (.cells #[.string (strOfNums sn), .string (strOfNums ss), .int .u64 sa, .int .u64 sb, .int .u64 so, .int .i64 sk] 88) = wx := ⟨_, rfl⟩
          obtain ⟨px, hpx⟩ : ∃ px, wr.heap.size = px := ⟨_, rfl⟩
          rw [hwx] at g7 q7 p7
          rw [hpx] at q7
          have GX := Lib.hid (grown_trans hg g7)
          have GY := Lib.hid (grown_trans g6 g7)
          have Q7 := Lib.hid q7
          have P7 := Lib.hid p7
          have SOK := Lib.hid (show secOk ⟨nm, ad, sz, of, fs, pr, sl⟩ ⟨sn, ss, sa, sb, so, sk⟩ = if sa < ad then false else if sk = 1 then withinN (sa - ad) sb sz else withinN (sa - ad) sb fs && (so == (of + (sa - ad)) % 18446744073709551616) from rfl)
          have FSZ := Lib.hid (show fs ≤ sz from FSX.out)
          clear hg hall g6 P6 hy hym SF g7 q7 p7
          generalize sl.length = M at *
          go_upto_region 9 with fail
          clear hwx hpx z6 zl
          obtain ⟨y0, y1, y2, y3, y4, y5, y6⟩ := P7.out.c
          obtain ⟨t0, t1, t2, t3, t4, t5⟩ := Q7.out.c
          have yl := P7.out.lt
          have tl := Q7.out.lt
          simp only [] at y0 y1 y2 y3 y4 y5 t0 t1 t2 t3 t4 t5
          by_cases hlow : sa < ad
          · have NEQ := NY.out (by rw [SOK.out, if_pos hlow])
            have d1 : decide (sa < ad) = true := by simpa using hlow
            clear h1 h2 h3 h4 f1 f2 f3 f4 f5 f6 SOK hlow
            go_wp2
            go_ret
            exact ⟨ret_int NEQ.symm, grown_trans G.out GY.out⟩
          · rw [if_neg hlow] at SOK
            have d1 : decide (sa < ad) = false := by simpa using hlow
            have hF : U64 (sa - ad) := ⟨by omega, by omega⟩
            have m1 : IntKind.u64.wrap (sa - ad) = sa - ad := by rw [IntKind.wrap_u64]; have := hF.1; have := hF.2; omega
            have m2 : (sa - ad) % 18446744073709551616 = sa - ad := by have := hF.1; have := hF.2; omega
            have m3 : ((of + sa) % 18446744073709551616 - ad) % 18446744073709551616 = (of + (sa - ad)) % 18446744073709551616 := by omega
            obtain ⟨T, hT⟩ : ∃ T, (of + (sa - ad)) % 18446744073709551616 = T := ⟨_, rfl⟩
            obtain ⟨T1, hT1⟩ : ∃ T1, (of + sa) % 18446744073709551616 = T1 := ⟨_, rfl⟩
            have m4 : IntKind.u64.wrap (of + sa) = T1 := by rw [IntKind.wrap_u64]; exact hT1
            rw [hT1, hT] at m3
            have m5 : IntKind.u64.wrap (T1 - ad) = T := by rw [IntKind.wrap_u64]; exact m3
            rw [hT] at SOK
            obtain ⟨F, hFe⟩ : ∃ F, sa - ad = F := ⟨_, rfl⟩
            rw [hFe] at hF m1 m2 SOK
            have hFe2 := Lib.hid hFe
            have W1 := Lib.hid (fun w => withinR_any F sb sz hF h3 f3 w)
            have W2 := Lib.hid (fun w => withinR_any F sb fs hF h3 f4 w)
            have IMP := Lib.hid (show withinN F sb fs = true → withinN F sb sz = true from fun h => by unfold withinN at h ⊢; have := FSZ.out; simp at h ⊢; omega)
            obtain ⟨v1, hv1⟩ : ∃ v, v = withinN F sb sz := ⟨_, rfl⟩
            obtain ⟨v2, hv2⟩ : ∃ v, v = withinN F sb fs := ⟨_, rfl⟩
            rw [← hv1] at W1 SOK IMP
            rw [← hv2] at W2 SOK IMP
            clear h1 h2 h3 h4 f1 f2 f3 f4 f5 f6 hlow hF hv1 hv2 hT hT1
            cases v1
            · have NEQ := NY.out (by
                rw [SOK.out]
                by_cases e : sk = 1
                · rw [if_pos e]
                · rw [if_neg e]
                  cases v2
                  · rfl
                  · exact absurd (IMP.out rfl) (by decide))
              go_wp2_with fail
              refine (W1.out _).mono ?_
              rintro e w8 ⟨rfl, rfl⟩
              go_wp2
              go_ret
              exact ⟨ret_int NEQ.symm, grown_trans G.out GY.out⟩
            · by_cases hk1 : sk = 1
              · have YES := SOK.out.trans (if_pos hk1)
                have d2 : (sk != 1) = false := by simp; omega
                clear hk1 SOK
                go_wp2_with fail
                refine (W1.out _).mono ?_
                rintro e w8 ⟨rfl, rfl⟩
                go_wp2
                go_roundw
                case rel =>
                  refine ⟨m + 1, hmt, by go_num, GX.out, fun j y hj hjy => ?_⟩
                  rcases Nat.lt_or_ge j m with e1 | e1
                  · exact AL.out j y e1 hjy
                  · obtain rfl : j = m := by omega
                    rw [HY.out] at hjy
                    injection hjy with hjy
                    rw [← hjy]; exact YES
                case measure => simp [intOf]; omega
              · rw [if_neg hk1] at SOK
                have d2 : (sk != 1) = true := by simp; omega
                clear hk1
                cases hso : (so == T)
                · have hsn : (so != T) = true := by unfold bne; rw [hso]; rfl
                  rw [hso, Bool.and_false] at SOK
                  have NEQ := NY.out SOK.out
                  go_wp2_with fail
                  refine (W1.out _).mono ?_
                  rintro e w8 ⟨rfl, rfl⟩
                  go_wp2
                  go_ret
                  exact ⟨ret_int NEQ.symm, grown_trans G.out GY.out⟩
                · have hsn : (so != T) = false := by unfold bne; rw [hso]; rfl
                  rw [hso, Bool.and_true] at SOK
                  cases v2
                  · have NEQ := NY.out SOK.out
                    go_wp2_with fail
                    refine (W1.out _).mono ?_
                    rintro e w8 ⟨rfl, rfl⟩
                    go_wp2_with fail
                    refine (W2.out _).mono ?_
                    rintro e w8 ⟨rfl, rfl⟩
                    go_wp2
                    go_ret
                    exact ⟨ret_int NEQ.symm, grown_trans G.out GY.out⟩
                  · have YES := SOK.out
                    go_wp2_with fail
                    refine (W1.out _).mono ?_
                    rintro e w8 ⟨rfl, rfl⟩
                    go_wp2_with fail
                    refine (W2.out _).mono ?_
                    rintro e w8 ⟨rfl, rfl⟩
                    go_wp2
                    go_roundw
                    case rel =>
                      refine ⟨m + 1, hmt, by go_num, GX.out, fun j y hj hjy => ?_⟩
                      rcases Nat.lt_or_ge j m with e1 | e1
                      · exact AL.out j y e1 hjy
                      · obtain rfl : j = m := by omega
                        rw [HY.out] at hjy
                        injection hjy with hjy
                        rw [← hjy]; exact YES
                    case measure => simp [intOf]; omega
        · have hm' : m = sl.length := by omega
          have dm : decide ((m : Int) < (sl.length : Int)) = false := by simp; omega
          have HALL : sl.all (secOk ⟨nm, ad, sz, of, fs, pr, sl⟩) = true := by
            rw [List.all_eq_true]
            intro x hx
            obtain ⟨j, hj, rfl⟩ := List.getElem_of_mem hx
            exact hall j _ (by omega) (List.getElem?_eq_getElem hj)
          have HQ := Lib.hid HALL
          clear hg hall HALL g6 P6
          generalize sl.length = M at *
          go_wp2
          go_roundw
          case rel =>
            refine ⟨k1 + 1, hlt, by go_num, G6.out, fun j y hj hy => ?_⟩
            rcases Nat.lt_or_ge j k1 with h1 | h1
            · exact NO.out j y h1 hy
            · obtain rfl : j = k1 := by omega
              rw [HX.out] at hy
              injection hy with hy
              rw [← hy]; exact HQ.out
          case measure => simp [intOf]; omega
    · have hk' : k1 = l.length := by omega
      subst hk'
      have dl : decide ((l.length : Int) < (l.length : Int)) = false := by simp
      have HF : r = 0 := by
        rw [HR.out, if_pos]
        rw [SO.out, List.all_eq_true]
        intro y hy
        obtain ⟨j, hj, rfl⟩ := List.getElem_of_mem hy
        exact hno j _ hj (List.getElem?_eq_getElem hj)
      clear hg hno
      generalize l.length = N at *
      go_wp2
      go_ret
      exact ⟨ret_int HF.symm, grown_trans G.out G3.out⟩
end Go.Proofs.YtemdbfgpimfkdaaGreat

/- Which segments may be, as the document has it. No condition but that numbers fit their types. -/
namespace Go.Proofs.YtemdbfgpimfkdaaGreat
open Go.RowKit
variable {w w' : World} {h : Hx} {s : St} {sv dv : Value} {n hd : Int}

/-- The first of the first i that is laid. -/
def FirstOf (l : List Sg) (i : Nat) (F : Int) : Prop := (F = -1 ∧ ∀ j y, j < i → l[j]? = some y → laidS y.seg = false) ∨ ∃ (a : Nat) (x : Sg), F = (a : Int) ∧ a < i ∧ l[a]? = some x ∧ laidS x.seg = true ∧ ∀ j y, j < a → l[j]? = some y → laidS y.seg = false
structure FineS (l : List Sg) (n : Int) (i : Nat) : Prop where
  prot : ∀ j y, j < i → l[j]? = some y → protOk y.seg = true
  size : ∀ j y, j < i → l[j]? = some y → sizeOk y.seg n = true
  rise : ∀ a b x y, a < b → b < i → l[a]? = some x → l[b]? = some y → RiseR x.seg y.seg
theorem FineS.zero (l : List Sg) (n : Int) : FineS l n 0 := ⟨fun j y h => by omega, fun j y h => by omega, fun a b x y h1 h2 => by omega⟩
theorem FineS.next {l : List Sg} {n : Int} {i : Nat} {x : Sg} (f : FineS l n i) (hx : l[i]? = some x) (h1 : protOk x.seg = true) (h2 : sizeOk x.seg n = true) (h3 : ∀ a y, a < i → l[a]? = some y → RiseR y.seg x.seg) : FineS l n (i + 1) := by
  refine ⟨fun j y hj hy => ?_, fun j y hj hy => ?_, fun a b y z ha hb hy hz => ?_⟩
  · rcases Nat.lt_or_ge j i with e | e
    · exact f.prot j y e hy
    · obtain rfl : j = i := by omega
      rw [hx] at hy; injection hy with hy; rw [← hy]; exact h1
  · rcases Nat.lt_or_ge j i with e | e
    · exact f.size j y e hy
    · obtain rfl : j = i := by omega
      rw [hx] at hy; injection hy with hy; rw [← hy]; exact h2
  · rcases Nat.lt_or_ge b i with e | e
    · exact f.rise a b y z ha e hy hz
    · obtain rfl : b = i := by omega
      rw [hx] at hz; injection hz with hz; rw [← hz]; exact h3 a y ha hy
/-- What the whole comes to. -/
theorem segs_all {l : List Sg} (hl : l.map Sg.seg = s.segs) (f : FineS l n l.length) : segsOk s n hd = frontOk s.segs hd := by
  have e1 : s.segs.all protOk = true := by
    rw [← all_seg hl, List.all_eq_true]
    intro x hx
    obtain ⟨j, hj, rfl⟩ := List.getElem_of_mem hx
    exact f.prot j _ hj (List.getElem?_eq_getElem hj)
  have e2 : s.segs.all (fun x => sizeOk x n) = true := by
    rw [← all_seg hl (fun x => sizeOk x n), List.all_eq_true]
    intro x hx
    obtain ⟨j, hj, rfl⟩ := List.getElem_of_mem hx
    exact f.size j _ hj (List.getElem?_eq_getElem hj)
  have e3 : decide (s.segs.Pairwise RiseR) = true := by
    rw [decide_eq_true_eq, ← hl, List.pairwise_map, List.pairwise_iff_getElem]
    intro i j hi hj hij
    exact f.rise i j _ _ hij hj (List.getElem?_eq_getElem hi) (List.getElem?_eq_getElem hj)
  unfold segsOk
  rw [e1, e2, e3]
  rfl
theorem segs_prot {l : List Sg} (hl : l.map Sg.seg = s.segs) {x : Sg} (hx : x ∈ l) (h : protOk x.seg = false) : segsOk s n hd = false := by
  have e1 : s.segs.all protOk = false := by
    rw [← all_seg hl, List.all_eq_false]
    exact ⟨x, hx, by rw [h]; decide⟩
  unfold segsOk
  rw [e1]
  rfl
theorem segs_size {l : List Sg} (hl : l.map Sg.seg = s.segs) {x : Sg} (hx : x ∈ l) (h : sizeOk x.seg n = false) : segsOk s n hd = false := by
  have e1 : s.segs.all (fun x => sizeOk x n) = false := by
    rw [← all_seg hl (fun x => sizeOk x n), List.all_eq_false]
    exact ⟨x, hx, by rw [h]; decide⟩
  unfold segsOk
  rw [e1, Bool.and_false]
  rfl
theorem segs_rise {l : List Sg} (hl : l.map Sg.seg = s.segs) {a b : Nat} {x y : Sg} (hab : a < b) (hx : l[a]? = some x) (hy : l[b]? = some y) (h : ¬ RiseR x.seg y.seg) : segsOk s n hd = false := by
  have e1 : decide (s.segs.Pairwise RiseR) = false := by
    rw [decide_eq_false_iff_not, ← hl, List.pairwise_map, List.pairwise_iff_getElem]
    intro hp
    obtain ⟨ha, rfl⟩ := List.getElem?_eq_some_iff.1 hx
    obtain ⟨hb, rfl⟩ := List.getElem?_eq_some_iff.1 hy
    exact h (hp a b ha hb hab)
  unfold segsOk
  rw [e1]
  simp
theorem front_none {l : List Sg} (hl : l.map Sg.seg = s.segs) (h : ∀ j y, j < l.length → l[j]? = some y → laidS y.seg = false) : frontOk s.segs hd = false := by
  have : s.segs.find? laidS = none := by
    rw [← hl, List.find?_eq_none]
    intro y hy
    obtain ⟨z, hz, rfl⟩ := List.mem_map.1 hy
    obtain ⟨j, hj, rfl⟩ := List.getElem_of_mem hz
    rw [h j _ hj (List.getElem?_eq_getElem hj)]; simp
  unfold frontOk; rw [this]
theorem front_some {l : List Sg} (hl : l.map Sg.seg = s.segs) {k : Nat} {x : Sg} (h : ∀ j y, j < k → l[j]? = some y → laidS y.seg = false) (hx : l[k]? = some x) (hp : laidS x.seg = true) :
    frontOk s.segs hd = ((x.seg.off == 0) && decide (hd ≤ x.seg.fsize) && (x.seg.prot % 2 == 1) && !wrOk x.seg) := by
  have : s.segs.find? laidS = some x.seg := by
    rw [← hl, List.find?_map]
    obtain ⟨hk, he⟩ := List.getElem?_eq_some_iff.1 hx
    have : l.find? (laidS ∘ Sg.seg) = some x := by
      rw [List.find?_eq_some_iff_getElem]
      exact ⟨hp, k, hk, he, fun j hj => by show (!laidS _) = true; rw [h j _ hj (List.getElem?_eq_getElem (Nat.lt_trans hj hk))]; rfl⟩
    rw [this]; rfl
  unfold frontOk; rw [this]
end Go.Proofs.YtemdbfgpimfkdaaGreat
