import Derived.Test.YtdagnkdonlfobaaGreatM17
/- Which sections may be, as the document has it. No condition but that numbers fit their types, and that no segment has more bytes in the file than in memory. -/
namespace Go.Proofs.YtdagnkdonlfobaaGreat
open Go.RowKit
variable {w w' : World} {h : Hx} {s : St} {sv dv : Value} {n hd : Int}

theorem RowSec.at {l : List Sec} {qs : Option Addr} (r : RowSec w qs l) {k : Nat} {x : Sec} (hx : l[k]? = some x) : ∃ g, qs = some ⟨g, 0, none⟩ ∧ w.cell? ⟨g, k * 6, none⟩ = some (.string (strOfNums x.name)) ∧ w.cell? ⟨g, k * 6 + 1, none⟩ = some (.string (strOfNums x.seg)) ∧ w.cell? ⟨g, k * 6 + 2, none⟩ = some (.int .u64 x.addr) ∧
      w.cell? ⟨g, k * 6 + 3, none⟩ = some (.int .u64 x.size) ∧ w.cell? ⟨g, k * 6 + 4, none⟩ = some (.int .u64 x.off) ∧ w.cell? ⟨g, k * 6 + 5, none⟩ = some (.int .i64 x.kind) := r k x hx
set_option maxHeartbeats 1000000 in
set_option maxRecDepth 20000 in
theorem rsections_any {l : List Sg} {qs : Option Addr} {cs : Nat} (k : ImgRows w s l qs cs) (hf : SegsFit s) (hfs : ∀ x ∈ s.segs, x.fsize ≤ x.size) (hcap : ∀ x ∈ l, x.seg.secs.length ≤ x.c) :
    Calls Tryz.prog 47 #[imgV h s (.slice qs l.length cs) dv] w fun e w' => e = .returned (.int .i64 (if secsOk s = true then 0 else 9)) ∧ w.grownBy w' none := by
  have gB := grown1 w (.cells (imgArr h s (.slice qs l.length cs) dv) 41)
  have aA : ImgAt (w.alloc (.cells (imgArr h s (.slice qs l.length cs) dv) 41)) w.heap.size h s (.slice qs l.length cs) dv := heap_alloc_new w _
  obtain ⟨W, hW⟩ : ∃ W, w.alloc (.cells (imgArr h s (.slice qs l.length cs) dv) 41) = W := ⟨_, rfl⟩
  obtain ⟨b, hb⟩ : ∃ b, w.heap.size = b := ⟨_, rfl⟩
  rw [hW] at gB aA
  rw [hb] at aA
  have RW := Lib.hid (fun (V : World) (hg : W.grownBy V none) => (k.grown gB).row.grown hg)
  have RS := Lib.hid (fun (V : World) (hg : W.grownBy V none) (x : Sg) (hx : x ∈ l) => ((k.grown gB).grown hg).secs x hx)
  have G := Lib.hid gB
  have AA := Lib.hid aA
  have CP := Lib.hid k.cap
  have FW := Lib.hid k.few
  have MW := Lib.hid k.many
  have CC := Lib.hid hcap
  have FF := Lib.hid (fun (x : Sg) (hx : x ∈ l) => k.fit hf hx)
  have FS := Lib.hid (fun (x : Sg) (hx : x ∈ l) => hfs x.seg (by rw [← k.segs]; exact List.mem_map_of_mem hx))
  have SO := Lib.hid (show secsOk s = l.all (fun x => x.seg.secs.all (secOk x.seg)) by unfold secsOk; rw [← all_seg k.segs])
  obtain ⟨r, hr⟩ : ∃ r : Int, r = if secsOk s = true then 0 else 9 := ⟨_, rfl⟩
  rw [← hr]
  have HR := Lib.hid hr
  have NO9 := Lib.hid (fun (x : Sg) (hx : x ∈ l) (y : Sec) (hy : y ∈ x.seg.secs) (hs : secOk x.seg y = false) => (show r = 9 by
    rw [HR.out, if_neg]
    rw [SO.out, List.all_eq_true]
    intro hal
    have h1 := hal x hx
    rw [List.all_eq_true] at h1
    have h2 := h1 y hy
    rw [hs] at h2
    cases h2))
  clear k gB aA hr hf hfs hcap
  rw [show imgV h s (.slice qs l.length cs) dv = .agg (imgArr h s (.slice qs l.length cs) dv) from rfl]
  unfold imgArr at hW ⊢
  go_enter Tryz.func47, Tryz.ntmps47
  go_upto_region 1 with fail
  clear hW hb
  go_wp2
  go_loopw [3] (fun i wr => ∃ k1 : Nat, k1 ≤ l.length ∧ i = .int .i64 k1 ∧ W.grownBy wr none ∧ ∀ j y, j < k1 → l[j]? = some y → y.seg.secs.all (secOk y.seg) = true) (fun i _ => l.length - (intOf i).toNat)
  case atStart => exact ⟨0, Nat.zero_le _, rfl, grown_refl _ _, fun j y hj => by omega⟩
  case round =>
    obtain ⟨k1, hk, rfl, hg, hno⟩ := hrel
    have NO := Lib.hid hno
    have G3 := Lib.hid hg
    have c4 := (AA.out.kept hg (by simp)).c 4 (.slice qs l.length cs) rfl
    have gl := lt_of_block (AA.out.kept hg (by simp))
    by_cases hlt : k1 < l.length
    · obtain ⟨x, hx⟩ : ∃ x, l[k1]? = some x := ⟨_, List.getElem?_eq_getElem hlt⟩
      obtain ⟨g, rfl, a0, a1, a2, a3, a4, a5, a6⟩ := (RW.out wr hg).at hx
      have dl : decide ((k1 : Int) < (l.length : Int)) = true := by simp; omega
      have hkl : (k1 : Int) < (l.length : Int) := by omega
      have HX := Lib.hid hx
      have hxm := List.mem_of_getElem? hx
      have RSX := Lib.hid (fun (V : World) (hv : W.grownBy V none) => RS.out V hv x hxm)
      have FX := Lib.hid (FF.out x hxm)
      have FSX := Lib.hid (FS.out x hxm)
      have MX := Lib.hid (MW.out x hxm)
      have CX := Lib.hid (CC.out x hxm)
      have N9 := Lib.hid (NO9.out x hxm)
      obtain ⟨⟨nm, ad, sz, of, fs, pr, sl⟩, q1, c1⟩ := x
      simp only [] at a0 a1 a2 a3 a4 a5 a6 RSX FX FSX MX CX N9
      have hcp : l.length ≤ cs := CP.out
      have hfw : l.length ≤ 9223372036854775807 := FW.out
      have g5 := grown_trans hg (grown1 wr (.cells #[.string (strOfNums nm), .int .u64 ad, .int .u64 sz, .int .u64 of, .int .u64 fs, .int .i64 pr, .slice q1 sl.length c1] 58))
      have p5 : SegAt (wr.alloc (.cells #[.string (strOfNums nm), .int .u64 ad, .int .u64 sz, .int .u64 of, .int .u64 fs, .int .i64 pr, .slice q1 sl.length c1] 58)) wr.heap.size ⟨nm, ad, sz, of, fs, pr, sl⟩ (.slice q1 sl.length c1) := heap_alloc_new wr _
      obtain ⟨wd, hwd⟩ : ∃ wd, wr.alloc (.cells #[.string (strOfNums nm), .int .u64 ad, .int .u64 sz, .int .u64 of, .int .u64 fs, .int .i64 pr, .slice q1 sl.length c1] 58) = wd := ⟨_, rfl⟩
      obtain ⟨pd, hpd⟩ : ∃ pd, wr.heap.size = pd := ⟨_, rfl⟩
      rw [hwd] at g5 p5
      rw [hpd] at p5
      have P5 := Lib.hid p5
      have G5 := Lib.hid g5
      clear hg hx g5 hno p5 hxm
      generalize l.length = N at *
      go_wp2_with fail
      clear hwd hpd
      go_loopw [5] (fun i wx => ∃ m : Nat, m ≤ sl.length ∧ i = .int .i64 m ∧ wd.grownBy wx none ∧ ∀ j y, j < m → sl[j]? = some y → secOk ⟨nm, ad, sz, of, fs, pr, sl⟩ y = true) (fun i _ => sl.length - (intOf i).toNat)
      case atStart => exact ⟨0, Nat.zero_le _, rfl, grown_refl _ _, fun j y hj => by omega⟩
      case round =>
        obtain ⟨m, hm, rfl, hg, hall⟩ := hrel
        have AL := Lib.hid hall
        have GH := Lib.hid hg
        have g6 := grown_trans G5.out hg
        have G6 := Lib.hid g6
        have P6 := P5.out.kept hg (by simp)
        have z6 := P6.c.2.2.2.2.2.2
        have zl := P6.lt
        by_cases hmt : m < sl.length
        · obtain ⟨y, hy⟩ : ∃ y, sl[m]? = some y := ⟨_, List.getElem?_eq_getElem hmt⟩
          obtain ⟨gs, hq1, b0, b1, b2, b3, b4, b5⟩ := (RSX.out wr g6).at hy
          subst hq1
          have hym := List.mem_of_getElem? hy
          have dm : decide ((m : Int) < (sl.length : Int)) = true := by simp; omega
          have hml : (m : Int) < (sl.length : Int) := by omega
          have hcx : sl.length ≤ c1 := CX.out
          have hmx : sl.length ≤ 9223372036854775807 := MX.out
          obtain ⟨⟨f1, f2⟩, f3, f4, f5, f6⟩ := (⟨FX.out.1.addr, FX.out.1.size, FX.out.1.fsize, FX.out.1.off, FX.out.1.prot, trivial⟩ : U64 ad ∧ U64 sz ∧ U64 fs ∧ U64 of ∧ _ ∧ True)
          have SF := FX.out.2 y hym
          have NY := Lib.hid (N9.out y hym)
          have HY := Lib.hid hy
          obtain ⟨sn, ss, sa, sb, so, sk⟩ := y
          obtain ⟨⟨h1, h2⟩, h3, h4⟩ := (⟨SF.addr, SF.size, SF.off⟩ : U64 sa ∧ U64 sb ∧ U64 so)
          simp only [] at b0 b1 b2 b3 b4 b5
          have g7 := grown1 wr (.cells #[.string (strOfNums sn), .string (strOfNums ss), .int .u64 sa, .int .u64 sb, .int .u64 so, .int .i64 sk] 148)
          have q7 : SecAt (wr.alloc (.cells #[.string (strOfNums sn), .string (strOfNums ss), .int .u64 sa, .int .u64 sb, .int .u64 so, .int .i64 sk] 148)) wr.heap.size ⟨sn, ss, sa, sb, so, sk⟩ := heap_alloc_new wr _
          have p7 := P6.kept g7 (by simp)
          obtain ⟨wx, hwx⟩ : ∃ wx, wr.alloc (.cells #[.string (strOfNums sn), .string (strOfNums ss), .int .u64 sa, .int .u64 sb, .int .u64 so, .int .i64 sk] 148) = wx := ⟨_, rfl⟩
          obtain ⟨px, hpx⟩ : ∃ px, wr.heap.size = px := ⟨_, rfl⟩
          rw [hwx] at g7 q7 p7
          rw [hpx] at q7
          have GX := Lib.hid (grown_trans hg g7)
          have GY := Lib.hid (grown_trans g6 g7)
          have Q7 := Lib.hid q7
          have P7 := Lib.hid p7
          have SOK := Lib.hid (show secOk ⟨nm, ad, sz, of, fs, pr, sl⟩ ⟨sn, ss, sa, sb, so, sk⟩ = if sa < ad then false else if sk = 1 then withinN (sa - ad) sb sz else withinN (sa - ad) sb fs && (so == (of + (sa - ad)) % 18446744073709551616) from rfl)
          have FSZ := Lib.hid (show fs ≤ sz from FSX.out)
          clear hg hall g6 P6 hy hym SF g7 q7 p7
          generalize sl.length = M at *
          go_upto_region 9 with fail
          clear hwx hpx z6 zl
          obtain ⟨y0, y1, y2, y3, y4, y5, y6⟩ := P7.out.c
          obtain ⟨t0, t1, t2, t3, t4, t5⟩ := Q7.out.c
          have yl := P7.out.lt
          have tl := Q7.out.lt
          simp only [] at y0 y1 y2 y3 y4 y5 t0 t1 t2 t3 t4 t5
          by_cases hlow : sa < ad
          · have NEQ := NY.out (by rw [SOK.out, if_pos hlow])
            have d1 : decide (sa < ad) = true := by simpa using hlow
            clear h1 h2 h3 h4 f1 f2 f3 f4 f5 f6 SOK hlow
            go_wp2
            go_ret
            exact ⟨ret_int NEQ.symm, grown_trans G.out GY.out⟩
          · rw [if_neg hlow] at SOK
            have d1 : decide (sa < ad) = false := by simpa using hlow
            have hF : U64 (sa - ad) := ⟨by omega, by omega⟩
            have m1 : IntKind.u64.wrap (sa - ad) = sa - ad := by rw [IntKind.wrap_u64]; have := hF.1; have := hF.2; omega
            have m2 : (sa - ad) % 18446744073709551616 = sa - ad := by have := hF.1; have := hF.2; omega
            have m3 : ((of + sa) % 18446744073709551616 - ad) % 18446744073709551616 = (of + (sa - ad)) % 18446744073709551616 := by omega
            obtain ⟨T, hT⟩ : ∃ T, (of + (sa - ad)) % 18446744073709551616 = T := ⟨_, rfl⟩
            obtain ⟨T1, hT1⟩ : ∃ T1, (of + sa) % 18446744073709551616 = T1 := ⟨_, rfl⟩
            have m4 : IntKind.u64.wrap (of + sa) = T1 := by rw [IntKind.wrap_u64]; exact hT1
            rw [hT1, hT] at m3
            have m5 : IntKind.u64.wrap (T1 - ad) = T := by rw [IntKind.wrap_u64]; exact m3
            rw [hT] at SOK
            obtain ⟨F, hFe⟩ : ∃ F, sa - ad = F := ⟨_, rfl⟩
            rw [hFe] at hF m1 m2 SOK
            have hFe2 := Lib.hid hFe
            have W1 := Lib.hid (fun w => withinR_any F sb sz hF h3 f3 w)
            have W2 := Lib.hid (fun w => withinR_any F sb fs hF h3 f4 w)
            have IMP := Lib.hid (show withinN F sb fs = true → withinN F sb sz = true from fun h => by unfold withinN at h ⊢; have := FSZ.out; simp at h ⊢; omega)
            obtain ⟨v1, hv1⟩ : ∃ v, v = withinN F sb sz := ⟨_, rfl⟩
            obtain ⟨v2, hv2⟩ : ∃ v, v = withinN F sb fs := ⟨_, rfl⟩
            rw [← hv1] at W1 SOK IMP
            rw [← hv2] at W2 SOK IMP
            clear h1 h2 h3 h4 f1 f2 f3 f4 f5 f6 hlow hF hv1 hv2 hT hT1
            cases v1
            · have NEQ := NY.out (by
                rw [SOK.out]
                by_cases e : sk = 1
                · rw [if_pos e]
                · rw [if_neg e]
                  cases v2
                  · rfl
                  · exact absurd (IMP.out rfl) (by decide))
              go_wp2_with fail
              refine (W1.out _).mono ?_
              rintro e w8 ⟨rfl, rfl⟩
              go_wp2
              go_ret
              exact ⟨ret_int NEQ.symm, grown_trans G.out GY.out⟩
            · by_cases hk1 : sk = 1
              · have YES := SOK.out.trans (if_pos hk1)
                have d2 : (sk != 1) = false := by simp; omega
                clear hk1 SOK
                go_wp2_with fail
                refine (W1.out _).mono ?_
                rintro e w8 ⟨rfl, rfl⟩
                go_wp2
                go_roundw
                case rel =>
                  refine ⟨m + 1, hmt, by go_num, GX.out, fun j y hj hjy => ?_⟩
                  rcases Nat.lt_or_ge j m with e1 | e1
                  · exact AL.out j y e1 hjy
                  · obtain rfl : j = m := by omega
                    rw [HY.out] at hjy
                    injection hjy with hjy
                    rw [← hjy]; exact YES
                case measure => simp [intOf]; omega
              · rw [if_neg hk1] at SOK
                have d2 : (sk != 1) = true := by simp; omega
                clear hk1
                cases hso : (so == T)
                · have hsn : (so != T) = true := by unfold bne; rw [hso]; rfl
                  rw [hso, Bool.and_false] at SOK
                  have NEQ := NY.out SOK.out
                  go_wp2_with fail
                  refine (W1.out _).mono ?_
                  rintro e w8 ⟨rfl, rfl⟩
                  go_wp2
                  go_ret
                  exact ⟨ret_int NEQ.symm, grown_trans G.out GY.out⟩
                · have hsn : (so != T) = false := by unfold bne; rw [hso]; rfl
                  rw [hso, Bool.and_true] at SOK
                  cases v2
                  · have NEQ := NY.out SOK.out
                    go_wp2_with fail
                    refine (W1.out _).mono ?_
                    rintro e w8 ⟨rfl, rfl⟩
                    go_wp2_with fail
                    refine (W2.out _).mono ?_
                    rintro e w8 ⟨rfl, rfl⟩
                    go_wp2
                    go_ret
                    exact ⟨ret_int NEQ.symm, grown_trans G.out GY.out⟩
                  · have YES := SOK.out
                    go_wp2_with fail
                    refine (W1.out _).mono ?_
                    rintro e w8 ⟨rfl, rfl⟩
                    go_wp2_with fail
                    refine (W2.out _).mono ?_
                    rintro e w8 ⟨rfl, rfl⟩
                    go_wp2
                    go_roundw
                    case rel =>
                      refine ⟨m + 1, hmt, by go_num, GX.out, fun j y hj hjy => ?_⟩
                      rcases Nat.lt_or_ge j m with e1 | e1
                      · exact AL.out j y e1 hjy
                      · obtain rfl : j = m := by omega
                        rw [HY.out] at hjy
                        injection hjy with hjy
                        rw [← hjy]; exact YES
                    case measure => simp [intOf]; omega
        · have hm' : m = sl.length := by omega
          have dm : decide ((m : Int) < (sl.length : Int)) = false := by simp; omega
          have HALL : sl.all (secOk ⟨nm, ad, sz, of, fs, pr, sl⟩) = true := by
            rw [List.all_eq_true]
            intro x hx
            obtain ⟨j, hj, rfl⟩ := List.getElem_of_mem hx
            exact hall j _ (by omega) (List.getElem?_eq_getElem hj)
          have HQ := Lib.hid HALL
          clear hg hall HALL g6 P6
          generalize sl.length = M at *
          go_wp2
          go_roundw
          case rel =>
            refine ⟨k1 + 1, hlt, by go_num, G6.out, fun j y hj hy => ?_⟩
            rcases Nat.lt_or_ge j k1 with h1 | h1
            · exact NO.out j y h1 hy
            · obtain rfl : j = k1 := by omega
              rw [HX.out] at hy
              injection hy with hy
              rw [← hy]; exact HQ.out
          case measure => simp [intOf]; omega
    · have hk' : k1 = l.length := by omega
      subst hk'
      have dl : decide ((l.length : Int) < (l.length : Int)) = false := by simp
      have HF : r = 0 := by
        rw [HR.out, if_pos]
        rw [SO.out, List.all_eq_true]
        intro y hy
        obtain ⟨j, hj, rfl⟩ := List.getElem_of_mem hy
        exact hno j _ hj (List.getElem?_eq_getElem hj)
      clear hg hno
      generalize l.length = N at *
      go_wp2
      go_ret
      exact ⟨ret_int HF.symm, grown_trans G.out G3.out⟩
end Go.Proofs.YtdagnkdonlfobaaGreat

/- Which segments may be, as the document has it. No condition but that numbers fit their types. -/
namespace Go.Proofs.YtdagnkdonlfobaaGreat
open Go.RowKit
variable {w w' : World} {h : Hx} {s : St} {sv dv : Value} {n hd : Int}

/-- The first of the first i that is laid. -/
def FirstOf (l : List Sg) (i : Nat) (F : Int) : Prop := (F = -1 ∧ ∀ j y, j < i → l[j]? = some y → laidS y.seg = false) ∨ ∃ (a : Nat) (x : Sg), F = (a : Int) ∧ a < i ∧ l[a]? = some x ∧ laidS x.seg = true ∧ ∀ j y, j < a → l[j]? = some y → laidS y.seg = false
structure FineS (l : List Sg) (n : Int) (i : Nat) : Prop where
  prot : ∀ j y, j < i → l[j]? = some y → protOk y.seg = true
  size : ∀ j y, j < i → l[j]? = some y → sizeOk y.seg n = true
  rise : ∀ a b x y, a < b → b < i → l[a]? = some x → l[b]? = some y → RiseR x.seg y.seg
theorem FineS.zero (l : List Sg) (n : Int) : FineS l n 0 := ⟨fun j y h => by omega, fun j y h => by omega, fun a b x y h1 h2 => by omega⟩
theorem FineS.next {l : List Sg} {n : Int} {i : Nat} {x : Sg} (f : FineS l n i) (hx : l[i]? = some x) (h1 : protOk x.seg = true) (h2 : sizeOk x.seg n = true) (h3 : ∀ a y, a < i → l[a]? = some y → RiseR y.seg x.seg) : FineS l n (i + 1) := by
  refine ⟨fun j y hj hy => ?_, fun j y hj hy => ?_, fun a b y z ha hb hy hz => ?_⟩
  · rcases Nat.lt_or_ge j i with e | e
    · exact f.prot j y e hy
    · obtain rfl : j = i := by omega
      rw [hx] at hy; injection hy with hy; rw [← hy]; exact h1
  · rcases Nat.lt_or_ge j i with e | e
    · exact f.size j y e hy
    · obtain rfl : j = i := by omega
      rw [hx] at hy; injection hy with hy; rw [← hy]; exact h2
  · rcases Nat.lt_or_ge b i with e | e
    · exact f.rise a b y z ha e hy hz
    · obtain rfl : b = i := by omega
      rw [hx] at hz; injection hz with hz; rw [← hz]; exact h3 a y ha hy
/-- What the whole comes to. -/
theorem segs_all {l : List Sg} (hl : l.map Sg.seg = s.segs) (f : FineS l n l.length) : segsOk s n hd = frontOk s.segs hd := by
  have e1 : s.segs.all protOk = true := by
    rw [← all_seg hl, List.all_eq_true]
    intro x hx
    obtain ⟨j, hj, rfl⟩ := List.getElem_of_mem hx
    exact f.prot j _ hj (List.getElem?_eq_getElem hj)
  have e2 : s.segs.all (fun x => sizeOk x n) = true := by
    rw [← all_seg hl (fun x => sizeOk x n), List.all_eq_true]
    intro x hx
    obtain ⟨j, hj, rfl⟩ := List.getElem_of_mem hx
    exact f.size j _ hj (List.getElem?_eq_getElem hj)
  have e3 : decide (s.segs.Pairwise RiseR) = true := by
    rw [decide_eq_true_eq, ← hl, List.pairwise_map, List.pairwise_iff_getElem]
    intro i j hi hj hij
    exact f.rise i j _ _ hij hj (List.getElem?_eq_getElem hi) (List.getElem?_eq_getElem hj)
  unfold segsOk
  rw [e1, e2, e3]
  rfl
theorem segs_prot {l : List Sg} (hl : l.map Sg.seg = s.segs) {x : Sg} (hx : x ∈ l) (h : protOk x.seg = false) : segsOk s n hd = false := by
  have e1 : s.segs.all protOk = false := by
    rw [← all_seg hl, List.all_eq_false]
    exact ⟨x, hx, by rw [h]; decide⟩
  unfold segsOk
  rw [e1]
  rfl
theorem segs_size {l : List Sg} (hl : l.map Sg.seg = s.segs) {x : Sg} (hx : x ∈ l) (h : sizeOk x.seg n = false) : segsOk s n hd = false := by
  have e1 : s.segs.all (fun x => sizeOk x n) = false := by
    rw [← all_seg hl (fun x => sizeOk x n), List.all_eq_false]
    exact ⟨x, hx, by rw [h]; decide⟩
  unfold segsOk
  rw [e1, Bool.and_false]
  rfl
theorem segs_rise {l : List Sg} (hl : l.map Sg.seg = s.segs) {a b : Nat} {x y : Sg} (hab : a < b) (hx : l[a]? = some x) (hy : l[b]? = some y) (h : ¬ RiseR x.seg y.seg) : segsOk s n hd = false := by
  have e1 : decide (s.segs.Pairwise RiseR) = false := by
    rw [decide_eq_false_iff_not, ← hl, List.pairwise_map, List.pairwise_iff_getElem]
    intro hp
    obtain ⟨ha, rfl⟩ := List.getElem?_eq_some_iff.1 hx
    obtain ⟨hb, rfl⟩ := List.getElem?_eq_some_iff.1 hy
    exact h (hp a b ha hb hab)
  unfold segsOk
  rw [e1]
  simp
theorem front_none {l : List Sg} (hl : l.map Sg.seg = s.segs) (h : ∀ j y, j < l.length → l[j]? = some y → laidS y.seg = false) : frontOk s.segs hd = false := by
  have : s.segs.find? laidS = none := by
    rw [← hl, List.find?_eq_none]
    intro y hy
    obtain ⟨z, hz, rfl⟩ := List.mem_map.1 hy
    obtain ⟨j, hj, rfl⟩ := List.getElem_of_mem hz
    rw [h j _ hj (List.getElem?_eq_getElem hj)]; simp
  unfold frontOk; rw [this]
theorem front_some {l : List Sg} (hl : l.map Sg.seg = s.segs) {k : Nat} {x : Sg} (h : ∀ j y, j < k → l[j]? = some y → laidS y.seg = false) (hx : l[k]? = some x) (hp : laidS x.seg = true) :
    frontOk s.segs hd = ((x.seg.off == 0) && decide (hd ≤ x.seg.fsize) && (x.seg.prot % 2 == 1) && !wrOk x.seg) := by
  have : s.segs.find? laidS = some x.seg := by
    rw [← hl, List.find?_map]
    obtain ⟨hk, he⟩ := List.getElem?_eq_some_iff.1 hx
    have : l.find? (laidS ∘ Sg.seg) = some x := by
      rw [List.find?_eq_some_iff_getElem]
      exact ⟨hp, k, hk, he, fun j hj => by show (!laidS _) = true; rw [h j _ hj (List.getElem?_eq_getElem (Nat.lt_trans hj hk))]; rfl⟩
    rw [this]; rfl
  unfold frontOk; rw [this]
end Go.Proofs.YtdagnkdonlfobaaGreat

/- Which segments may be, as the document has it: the walk. No condition but that numbers fit their types. -/
namespace Go.Proofs.YtdagnkdonlfobaaGreat
open Go.RowKit
variable {w w' : World} {h : Hx} {s : St} {sv dv : Value} {n hd : Int}

set_option maxHeartbeats 4000000 in
set_option maxRecDepth 20000 in
theorem rsegments_any {l : List Sg} {qs : Option Addr} {cs : Nat} (k : ImgRows w s l qs cs) (hf : SegsFit s) (hn : U64 n) (_hh : U64 hd) :
    Calls Tryz.prog 46 #[imgV h s (.slice qs l.length cs) dv, .int .u64 n, .int .u64 hd] w fun e w' => e = .returned (.int .i64 (if segsOk s n hd = true then 0 else 8)) ∧ w.grownBy w' none := by
  have gB := grown1 w (.cells (imgArr h s (.slice qs l.length cs) dv) 41)
  have aA : ImgAt (w.alloc (.cells (imgArr h s (.slice qs l.length cs) dv) 41)) w.heap.size h s (.slice qs l.length cs) dv := heap_alloc_new w _
  obtain ⟨W, hW⟩ : ∃ W, w.alloc (.cells (imgArr h s (.slice qs l.length cs) dv) 41) = W := ⟨_, rfl⟩
  obtain ⟨b, hb⟩ : ∃ b, w.heap.size = b := ⟨_, rfl⟩
  rw [hW] at gB aA
  rw [hb] at aA
  have RW := Lib.hid (fun (V : World) (hg : W.grownBy V none) => (k.grown gB).row.grown hg)
  have G := Lib.hid gB
  have AA := Lib.hid aA
  have CP := Lib.hid k.cap
  have FW := Lib.hid k.few
  have FF := Lib.hid (fun (x : Sg) (hx : x ∈ l) => (k.fit hf hx).1)
  have NN := Lib.hid hn
  obtain ⟨r, hr⟩ : ∃ r : Int, r = if segsOk s n hd = true then 0 else 8 := ⟨_, rfl⟩
  rw [← hr]
  have R8 := Lib.hid (fun (hs : segsOk s n hd = false) => (show r = 8 by rw [hr, hs]; rfl))
  have NPR := Lib.hid (fun (x : Sg) (hx : x ∈ l) (hs : protOk x.seg = false) => R8.out (segs_prot k.segs hx hs))
  have NSZ := Lib.hid (fun (x : Sg) (hx : x ∈ l) (hs : sizeOk x.seg n = false) => R8.out (segs_size k.segs hx hs))
  have NRI := Lib.hid (fun (a b : Nat) (x y : Sg) (hab : a < b) (hx : l[a]? = some x) (hy : l[b]? = some y) (hs : ¬ RiseR x.seg y.seg) => R8.out (segs_rise k.segs hab hx hy hs))
  have RALL := Lib.hid (fun (f : FineS l n l.length) => (show r = if frontOk s.segs hd = true then 0 else 8 by rw [hr, segs_all k.segs f]))
  have FNO := Lib.hid (fun hz => front_none (hd := hd) k.segs hz)
  have FSO := Lib.hid (fun (a : Nat) (x : Sg) hz => front_some (hd := hd) (k := a) (x := x) k.segs hz)
  clear k gB aA hr hf hn _hh R8
  rw [show imgV h s (.slice qs l.length cs) dv = .agg (imgArr h s (.slice qs l.length cs) dv) from rfl]
  unfold imgArr at hW ⊢
  go_enter Tryz.func46, Tryz.ntmps46
  go_upto_region 1 with fail
  clear hW hb
  generalize Value.agg #[.int .i64 h.kd, .int .i64 h.sb, .int .u32 h.fl, .string (strOfNums s.name), .slice qs l.length cs, dv, .int .u64 s.rb.1, .int .u64 s.rb.2, .int .u64 s.bd.1, .int .u64 s.bd.2, .int .u64 s.wk.1, .int .u64 s.wk.2, .int .u64 s.lz.1, .int .u64 s.lz.2, .int .u64 s.tr.1, .int .u64 s.tr.2, .int .u64 s.ch.1, .int .u64 s.ch.2, .int .u64 s.sy.1, .int .u64 s.sy.2, .int .u64 s.st.1, .int .u64 s.st.2, .int .u64 s.entry, .bool s.has] = v0
  go_wp2
  go_loopw [7, 8] (fun fi i wr => ∃ (i1 : Nat) (F : Int), i1 ≤ l.length ∧ i = .int .i64 i1 ∧ fi = .int .i64 F ∧ W.grownBy wr none ∧ FineS l n i1 ∧ FirstOf l i1 F) (fun _ i _ => l.length - (intOf i).toNat)
  case atStart => exact ⟨0, -1, Nat.zero_le _, rfl, rfl, grown_refl _ _, FineS.zero l n, .inl ⟨rfl, fun j y h => by omega⟩⟩
  case round =>
    obtain ⟨i1, F, hi, rfl, rfl, hg, hfine, hfirst⟩ := hrel
    have FI := Lib.hid hfine
    have F1 := Lib.hid hfirst
    have G3 := Lib.hid hg
    have c4 := (AA.out.kept hg (by simp)).c 4 (.slice qs l.length cs) rfl
    have gl := lt_of_block (AA.out.kept hg (by simp))
    have hfw : l.length ≤ 9223372036854775807 := FW.out
    by_cases hlt : i1 < l.length
    · obtain ⟨x, hx⟩ : ∃ x, l[i1]? = some x := ⟨_, List.getElem?_eq_getElem hlt⟩
      obtain ⟨g, rfl, a0, a1, a2, a3, a4, a5, a6⟩ := (RW.out wr hg).at hx
      have hxm := List.mem_of_getElem? hx
      have HX := Lib.hid hx
      have dl : decide ((i1 : Int) < (l.length : Int)) = true := by simp; omega
      have hil : (i1 : Int) < (l.length : Int) := by omega
      have hcp : l.length ≤ cs := CP.out
      have NP := NPR.out x hxm
      have NS := NSZ.out x hxm
      have FX := FF.out x hxm
      have LD := Lib.hid (fun (V : World) => hole_any (w := V) x.seg x.q x.seg.secs.length x.c)
      obtain ⟨⟨nm, ad, sz, of, fs, pr, sl⟩, q1, c1⟩ := x
      simp only [] at a0 a1 a2 a3 a4 a5 a6 NP NS LD
      unfold segV segArr at LD
      obtain ⟨⟨f1, f2⟩, ⟨f3, f4⟩, ⟨f5, f6⟩, ⟨f7, f8⟩, f9, f10⟩ := (⟨FX.addr, FX.size, FX.off, FX.fsize, FX.prot⟩ : U64 ad ∧ U64 sz ∧ U64 of ∧ U64 fs ∧ (-9223372036854775808 ≤ pr ∧ pr ≤ 9223372036854775807))
      have g5 := grown_trans hg (grown1 wr (.cells #[.string (strOfNums nm), .int .u64 ad, .int .u64 sz, .int .u64 of, .int .u64 fs, .int .i64 pr, .slice q1 sl.length c1] 58))
      have p5 : SegAt (wr.alloc (.cells #[.string (strOfNums nm), .int .u64 ad, .int .u64 sz, .int .u64 of, .int .u64 fs, .int .i64 pr, .slice q1 sl.length c1] 58)) wr.heap.size ⟨nm, ad, sz, of, fs, pr, sl⟩ (.slice q1 sl.length c1) := heap_alloc_new wr _
      obtain ⟨wd, hwd⟩ : ∃ wd, wr.alloc (.cells #[.string (strOfNums nm), .int .u64 ad, .int .u64 sz, .int .u64 of, .int .u64 fs, .int .i64 pr, .slice q1 sl.length c1] 58) = wd := ⟨_, rfl⟩
      obtain ⟨pd, hpd⟩ : ∃ pd, wr.heap.size = pd := ⟨_, rfl⟩
      rw [hwd] at g5 p5
      rw [hpd] at p5
      have P5 := Lib.hid p5
      have G5 := Lib.hid g5
      clear hg hx g5 hxm FX hfine hfirst p5
      have NP := Lib.hid NP
      have NS := Lib.hid NS
      generalize hN : l.length = N at *
      have HN := Lib.hid hN
      clear hN
      go_upto_region 6 with fail
      clear hwd hpd
      obtain ⟨y0, y1, y2, y3, y4, y5, y6⟩ := P5.out.c
      have yl := P5.out.lt
      simp only [] at y0 y1 y2 y3 y4 y5
      by_cases hA : pr < 0
      · have NEQ := Lib.hid (NP.out (by unfold protOk; simp; omega))
        have dA : decide (pr < 0) = true := by simpa using hA
        clear f1 f2 f3 f4 f5 f6 f7 f8 f9 f10 hA
        go_wp2
        go_ret
        exact ⟨ret_int NEQ.out.symm, grown_trans G.out G5.out⟩

      have dA : decide (pr < 0) = false := by simpa using hA
      by_cases hB : 7 < pr
      · have NEQ := Lib.hid (NP.out (by unfold protOk; simp; omega))
        have dB : decide (7 < pr) = true := by simpa using hB
        clear f1 f2 f3 f4 f5 f6 f7 f8 f9 f10 hA hB
        go_wp2
        go_ret
        exact ⟨ret_int NEQ.out.symm, grown_trans G.out G5.out⟩

      have dB : decide (7 < pr) = false := by simpa using hB
      by_cases hC : pr = 0
      · have dC : (pr == 0) = true := by simpa using hC
        by_cases hD : fs = 0
        · have dD : (fs != 0) = false := by simpa using hD
          have POK := Lib.hid (show protOk ⟨nm, ad, sz, of, fs, pr, sl⟩ = true by unfold protOk; simp; omega)
          clear hA hB hC hD
          go_upto_region 8 with fail
          have ST := Lib.hid (show sizeOk ⟨nm, ad, sz, of, fs, pr, sl⟩ n = ((ad % 4096 == 0) && (sz % 4096 == 0) && decide (0 < sz) && decide (fs ≤ sz) && withinN of fs n && withinN ad sz 140737488355328) from rfl)
          have t1 : ad.tmod 4096 = ad % 4096 := Int.tmod_eq_emod_of_nonneg f1
          have t2 : sz.tmod 4096 = sz % 4096 := Int.tmod_eq_emod_of_nonneg f3
          obtain ⟨r1, hr1⟩ : ∃ r, ad % 4096 = r := ⟨_, rfl⟩
          obtain ⟨r2, hr2⟩ : ∃ r, sz % 4096 = r := ⟨_, rfl⟩
          have m1 : IntKind.u64.wrap r1 = r1 := by rw [IntKind.wrap_u64]; omega
          have m2 : IntKind.u64.wrap r2 = r2 := by rw [IntKind.wrap_u64]; omega
          have m3 : r1 % 18446744073709551616 = r1 := by omega
          have m4 : r2 % 18446744073709551616 = r2 := by omega
          rw [hr1] at t1
          rw [hr2] at t2
          rw [hr1, hr2] at ST
          have W1 := Lib.hid (fun w => withinR_any of fs n ⟨f5, f6⟩ ⟨f7, f8⟩ NN.out w)
          have W2 := Lib.hid (fun w => withinR_any ad sz 140737488355328 ⟨f1, f2⟩ ⟨f3, f4⟩ ⟨by decide, by decide⟩ w)
          obtain ⟨v1, hv1⟩ : ∃ v, v = withinN of fs n := ⟨_, rfl⟩
          obtain ⟨v2, hv2⟩ : ∃ v, v = withinN ad sz 140737488355328 := ⟨_, rfl⟩
          rw [← hv1] at W1 ST
          rw [← hv2] at W2 ST
          have H3 := Lib.hid f3
          clear hr1 hr2 hv1 hv2 f1 f2 f3 f4 f5 f6 f7 f8 f9 f10
          by_cases e1 : r1 = 0
          rotate_left
          · have NEQ := Lib.hid (NS.out (by rw [ST.out, show (r1 == 0) = false by simpa using e1]; rfl))
            have d1 : (r1 != 0) = true := by simpa using e1
            clear e1
            go_wp2
            go_ret
            exact ⟨ret_int NEQ.out.symm, grown_trans G.out G5.out⟩

          have d1 : (r1 != 0) = false := by simpa using e1
          rw [show (r1 == 0) = true by simpa using e1] at ST
          clear e1
          by_cases e2 : r2 = 0
          rotate_left
          · have NEQ := Lib.hid (NS.out (by rw [ST.out, show (r2 == 0) = false by simpa using e2]; rfl))
            have d2 : (r2 != 0) = true := by simpa using e2
            clear e2
            go_wp2
            go_ret
            exact ⟨ret_int NEQ.out.symm, grown_trans G.out G5.out⟩

          have d2 : (r2 != 0) = false := by simpa using e2
          rw [show (r2 == 0) = true by simpa using e2] at ST
          clear e2
          by_cases e3 : sz = 0
          · have NEQ := Lib.hid (NS.out (by rw [ST.out, show decide (0 < sz) = false by simp; omega]; rfl))
            have d3 : (sz == 0) = true := by simpa using e3
            clear e3
            go_wp2
            go_ret
            exact ⟨ret_int NEQ.out.symm, grown_trans G.out G5.out⟩

          have d3 : (sz == 0) = false := by simpa using e3
          rw [show decide (0 < sz) = true by have := H3.out; simp; omega] at ST
          clear e3
          by_cases e4 : sz < fs
          · have NEQ := Lib.hid (NS.out (by rw [ST.out, show decide (fs ≤ sz) = false by simp; omega]; rfl))
            have d4 : decide (sz < fs) = true := by simpa using e4
            clear e4
            go_wp2
            go_ret
            exact ⟨ret_int NEQ.out.symm, grown_trans G.out G5.out⟩

          have d4 : decide (sz < fs) = false := by simpa using e4
          rw [show decide (fs ≤ sz) = true by simp; omega] at ST
          clear e4
          cases v1
          · have NEQ := Lib.hid (NS.out (by rw [ST.out]; rfl))
            go_wp2_with fail
            refine (W1.out _).mono ?_
            rintro e w8 ⟨rfl, rfl⟩
            go_wp2
            go_ret
            exact ⟨ret_int NEQ.out.symm, grown_trans G.out G5.out⟩

          cases v2
          · have NEQ := Lib.hid (NS.out (by rw [ST.out]; rfl))
            go_wp2_with fail
            refine (W1.out _).mono ?_
            rintro e w8 ⟨rfl, rfl⟩
            go_wp2_with fail
            refine (W2.out _).mono ?_
            rintro e w8 ⟨rfl, rfl⟩
            go_wp2
            go_ret
            exact ⟨ret_int NEQ.out.symm, grown_trans G.out G5.out⟩

          have SOK := Lib.hid (show sizeOk ⟨nm, ad, sz, of, fs, pr, sl⟩ n = true by rw [ST.out]; rfl)
          go_wp2_with fail
          refine (W1.out _).mono ?_
          rintro e w8 ⟨rfl, rfl⟩
          go_wp2_with fail
          refine (W2.out _).mono ?_
          rintro e w8 ⟨rfl, rfl⟩
          clear ST W1 W2 d1 d2 d3 d4 t1 t2 m1 m2 m3 m4
          go_wp2_with fail
          go_loopw [10] (fun i wx => ∃ m : Nat, m ≤ i1 ∧ i = .int .i64 m ∧ wd.grownBy wx none ∧ ∀ a y, a < m → l[a]? = some y → RiseR y.seg ⟨nm, ad, sz, of, fs, pr, sl⟩) (fun i _ => i1 - (intOf i).toNat)
          case atStart => exact ⟨0, Nat.zero_le _, rfl, grown_refl _ _, fun a y ha => by omega⟩
          case round =>
            obtain ⟨m, hm, rfl, hg, hall⟩ := hrel
            have AL := Lib.hid hall
            have GH := Lib.hid hg
            have g6 := grown_trans G5.out hg
            have G6 := Lib.hid g6
            have P6 := Lib.hid (P5.out.kept hg (by simp))
            by_cases hmt : m < i1
            · obtain ⟨y, hy⟩ : ∃ y, l[m]? = some y := ⟨_, List.getElem?_eq_getElem (by rw [HN.out]; omega)⟩
              obtain ⟨g', hq', b0, b1, b2, b3, b4, b5, b6⟩ := (RW.out wr g6).at hy
              obtain rfl : g = g' := by injection hq' with e; injection e
              have c5 := (AA.out.kept g6 (by simp)).c 4 (.slice (some ⟨g, 0, none⟩) N cs) rfl
              have cl := lt_of_block (AA.out.kept g6 (by simp))
              have dm : decide ((m : Int) < (i1 : Int)) = true := by simp; omega
              have hml : (m : Int) < (N : Int) := by omega
              have HY := Lib.hid hy
              have SY := FI.out.size m y hmt hy
              have FY := FF.out y (List.mem_of_getElem? hy)
              have NR := Lib.hid (NRI.out m i1 y _ hmt hy HX.out)
              obtain ⟨⟨nm2, ad2, sz2, of2, fs2, pr2, sl2⟩, q2, c2⟩ := y
              simp only [] at b0 b1 b2 b3 b4 b5 b6
              have T2 : ad2 + sz2 ≤ 140737488355328 := by
                unfold sizeOk withinN at SY
                simp only [Bool.and_eq_true, decide_eq_true_eq] at SY
                exact SY.2
              have k1 : U64 ad2 := FY.addr
              have k2 : U64 sz2 := FY.size
              have k3 := k1.1
              have k4 := k2.1
              obtain ⟨E, hE⟩ : ∃ E, ad2 + sz2 = E := ⟨_, rfl⟩
              have HE := Lib.hid hE
              have m7 : (ad2 + sz2) % 18446744073709551616 = E := by omega
              have m8 : IntKind.u64.wrap (ad2 + sz2) = E := by rw [IntKind.wrap_u64]; exact m7
              have g7 := grown1 wr (.cells #[.string (strOfNums nm2), .int .u64 ad2, .int .u64 sz2, .int .u64 of2, .int .u64 fs2, .int .i64 pr2, .slice q2 sl2.length c2] 58)
              have q7 : SegAt (wr.alloc (.cells #[.string (strOfNums nm2), .int .u64 ad2, .int .u64 sz2, .int .u64 of2, .int .u64 fs2, .int .i64 pr2, .slice q2 sl2.length c2] 58)) wr.heap.size ⟨nm2, ad2, sz2, of2, fs2, pr2, sl2⟩ (.slice q2 sl2.length c2) := heap_alloc_new wr _
              have p7 := P6.out.kept g7 (by simp)
              obtain ⟨wx, hwx⟩ : ∃ wx, wr.alloc (.cells #[.string (strOfNums nm2), .int .u64 ad2, .int .u64 sz2, .int .u64 of2, .int .u64 fs2, .int .i64 pr2, .slice q2 sl2.length c2] 58) = wx := ⟨_, rfl⟩
              obtain ⟨px, hpx⟩ : ∃ px, wr.heap.size = px := ⟨_, rfl⟩
              rw [hwx] at g7 q7 p7
              rw [hpx] at q7
              have GX := Lib.hid (grown_trans hg g7)
              have GY := Lib.hid (grown_trans g6 g7)
              have Q7 := Lib.hid q7
              have P7 := Lib.hid p7
              clear hg hall g6 hy SY FY k1 k2 k3 k4 hE T2 g7 q7 p7 hq'
              go_upto_region 14 with fail
              clear hwx hpx
              obtain ⟨y0, y1, y2, y3, y4, y5, y6⟩ := P7.out.c
              obtain ⟨t0, t1, t2, t3, t4, t5, t6⟩ := Q7.out.c
              have yl := P7.out.lt
              have tl := Q7.out.lt
              simp only [] at y0 y1 y2 y3 y4 y5 t0 t1 t2 t3 t4 t5
              by_cases hnp : (strOfNums nm2).toList = (strOfNums nm).toList
              rotate_left
              · have hnn : ((strOfNums nm2).toList == (strOfNums nm).toList) = false := by simpa using hnp
                cases hae : decide (ad < E)
                · have YES : RiseR ⟨nm2, ad2, sz2, of2, fs2, pr2, sl2⟩ ⟨nm, ad, sz, of, fs, pr, sl⟩ := by
                    refine ⟨by unfold nmOf; exact hnp, ?_⟩
                    have := of_decide_eq_false hae
                    have := HE.out
                    simp only []
                    omega
                  go_wp2
                  go_roundw
                  case rel =>
                    refine ⟨m + 1, hmt, by go_num, GX.out, fun a y ha hay => ?_⟩
                    rcases Nat.lt_or_ge a m with e1 | e1
                    · exact AL.out a y e1 hay
                    · obtain rfl : a = m := by omega
                      rw [HY.out] at hay
                      injection hay with hay
                      rw [← hay]; exact YES
                  case measure => simp [intOf]; omega
                · have NEQ := Lib.hid (NR.out (fun hz => by
                    have := of_decide_eq_true hae
                    have := HE.out
                    have := hz.2
                    simp only [] at this
                    omega))
                  go_wp2
                  go_ret
                  exact ⟨ret_int NEQ.out.symm, grown_trans G.out GY.out⟩
              · have hnn : ((strOfNums nm2).toList == (strOfNums nm).toList) = true := by simpa using hnp
                have NEQ := Lib.hid (NR.out (fun hz => hz.1 (by unfold nmOf; exact hnp)))
                go_wp2
                go_ret
                exact ⟨ret_int NEQ.out.symm, grown_trans G.out GY.out⟩
            · have hm' : m = i1 := by omega
              subst hm'
              have dm : decide ((m : Int) < (m : Int)) = false := by simp
              obtain ⟨y0, y1, y2, y3, y4, y5, y6⟩ := P6.out.c
              have yl := P6.out.lt
              simp only [] at y0 y1 y2 y3 y4 y5
              have FN := Lib.hid (FI.out.next HX.out POK.out SOK.out hall)
              clear hg hall g6
              rcases F1.out with ⟨rfl, hno⟩ | ⟨a, z, rfl, ha, hz, hlz, hno⟩
              · have NO := Lib.hid hno
                clear hno
                obtain ⟨bx, hbx⟩ : ∃ bx, bx = laidS ⟨nm, ad, sz, of, fs, pr, sl⟩ := ⟨_, rfl⟩
                rw [← hbx] at LD
                have HB := Lib.hid hbx
                clear hbx
                go_wp2_with fail
                refine (LD.out _).mono ?_
                rintro e w8 ⟨rfl, hg8⟩
                have G8 := Lib.hid (grown_trans G6.out hg8)
                clear hg8
                cases bx
                · go_wp2
                  go_roundw
                  case rel =>
                    refine ⟨m + 1, -1, hlt, by go_num, rfl, G8.out, FN.out, .inl ⟨rfl, fun j y hj hjy => ?_⟩⟩
                    rcases Nat.lt_or_ge j m with e1 | e1
                    · exact NO.out j y e1 hjy
                    · obtain rfl : j = m := by omega
                      rw [HX.out] at hjy
                      injection hjy with hjy
                      rw [← hjy]; exact HB.out.symm
                  case measure => simp [intOf]; omega
                · go_wp2
                  go_roundw
                  case rel => exact ⟨m + 1, m, hlt, by go_num, rfl, G8.out, FN.out, .inr ⟨m, _, rfl, Nat.lt_succ_self m, HX.out, HB.out.symm, NO.out⟩⟩
                  case measure => simp [intOf]; omega
              · have NO := Lib.hid hno
                have HZ := Lib.hid hz
                have HL := Lib.hid hlz
                have da : decide ((a : Int) < 0) = false := by simp
                clear hno hz hlz
                go_wp2
                go_roundw
                case rel => exact ⟨m + 1, a, hlt, by go_num, rfl, G6.out, FN.out, .inr ⟨a, z, rfl, Nat.lt_succ_of_lt ha, HZ.out, HL.out, NO.out⟩⟩
                case measure => simp [intOf]; omega
        · have NEQ := Lib.hid (NP.out (by unfold protOk; simp; omega))
          have dD : (fs != 0) = true := by simpa using hD
          clear f1 f2 f3 f4 f5 f6 f7 f8 f9 f10 hA hB hC hD
          go_wp2
          go_ret
          exact ⟨ret_int NEQ.out.symm, grown_trans G.out G5.out⟩

      · have dC : (pr == 0) = false := by simpa using hC
        have POK := Lib.hid (show protOk ⟨nm, ad, sz, of, fs, pr, sl⟩ = true by unfold protOk; simp; omega)
        clear hA hB hC
        go_upto_region 8 with fail
        have ST := Lib.hid (show sizeOk ⟨nm, ad, sz, of, fs, pr, sl⟩ n = ((ad % 4096 == 0) && (sz % 4096 == 0) && decide (0 < sz) && decide (fs ≤ sz) && withinN of fs n && withinN ad sz 140737488355328) from rfl)
        have t1 : ad.tmod 4096 = ad % 4096 := Int.tmod_eq_emod_of_nonneg f1
        have t2 : sz.tmod 4096 = sz % 4096 := Int.tmod_eq_emod_of_nonneg f3
        obtain ⟨r1, hr1⟩ : ∃ r, ad % 4096 = r := ⟨_, rfl⟩
        obtain ⟨r2, hr2⟩ : ∃ r, sz % 4096 = r := ⟨_, rfl⟩
        have m1 : IntKind.u64.wrap r1 = r1 := by rw [IntKind.wrap_u64]; omega
        have m2 : IntKind.u64.wrap r2 = r2 := by rw [IntKind.wrap_u64]; omega
        have m3 : r1 % 18446744073709551616 = r1 := by omega
        have m4 : r2 % 18446744073709551616 = r2 := by omega
        rw [hr1] at t1
        rw [hr2] at t2
        rw [hr1, hr2] at ST
        have W1 := Lib.hid (fun w => withinR_any of fs n ⟨f5, f6⟩ ⟨f7, f8⟩ NN.out w)
        have W2 := Lib.hid (fun w => withinR_any ad sz 140737488355328 ⟨f1, f2⟩ ⟨f3, f4⟩ ⟨by decide, by decide⟩ w)
        obtain ⟨v1, hv1⟩ : ∃ v, v = withinN of fs n := ⟨_, rfl⟩
        obtain ⟨v2, hv2⟩ : ∃ v, v = withinN ad sz 140737488355328 := ⟨_, rfl⟩
        rw [← hv1] at W1 ST
        rw [← hv2] at W2 ST
        have H3 := Lib.hid f3
        clear hr1 hr2 hv1 hv2 f1 f2 f3 f4 f5 f6 f7 f8 f9 f10
        by_cases e1 : r1 = 0
        rotate_left
        · have NEQ := Lib.hid (NS.out (by rw [ST.out, show (r1 == 0) = false by simpa using e1]; rfl))
          have d1 : (r1 != 0) = true := by simpa using e1
          clear e1
          go_wp2
          go_ret
          exact ⟨ret_int NEQ.out.symm, grown_trans G.out G5.out⟩

        have d1 : (r1 != 0) = false := by simpa using e1
        rw [show (r1 == 0) = true by simpa using e1] at ST
        clear e1
        by_cases e2 : r2 = 0
        rotate_left
        · have NEQ := Lib.hid (NS.out (by rw [ST.out, show (r2 == 0) = false by simpa using e2]; rfl))
          have d2 : (r2 != 0) = true := by simpa using e2
          clear e2
          go_wp2
          go_ret
          exact ⟨ret_int NEQ.out.symm, grown_trans G.out G5.out⟩

        have d2 : (r2 != 0) = false := by simpa using e2
        rw [show (r2 == 0) = true by simpa using e2] at ST
        clear e2
        by_cases e3 : sz = 0
        · have NEQ := Lib.hid (NS.out (by rw [ST.out, show decide (0 < sz) = false by simp; omega]; rfl))
          have d3 : (sz == 0) = true := by simpa using e3
          clear e3
          go_wp2
          go_ret
          exact ⟨ret_int NEQ.out.symm, grown_trans G.out G5.out⟩

        have d3 : (sz == 0) = false := by simpa using e3
        rw [show decide (0 < sz) = true by have := H3.out; simp; omega] at ST
        clear e3
        by_cases e4 : sz < fs
        · have NEQ := Lib.hid (NS.out (by rw [ST.out, show decide (fs ≤ sz) = false by simp; omega]; rfl))
          have d4 : decide (sz < fs) = true := by simpa using e4
          clear e4
          go_wp2
          go_ret
          exact ⟨ret_int NEQ.out.symm, grown_trans G.out G5.out⟩

        have d4 : decide (sz < fs) = false := by simpa using e4
        rw [show decide (fs ≤ sz) = true by simp; omega] at ST
        clear e4
        cases v1
        · have NEQ := Lib.hid (NS.out (by rw [ST.out]; rfl))
          go_wp2_with fail
          refine (W1.out _).mono ?_
          rintro e w8 ⟨rfl, rfl⟩
          go_wp2
          go_ret
          exact ⟨ret_int NEQ.out.symm, grown_trans G.out G5.out⟩

        cases v2
        · have NEQ := Lib.hid (NS.out (by rw [ST.out]; rfl))
          go_wp2_with fail
          refine (W1.out _).mono ?_
          rintro e w8 ⟨rfl, rfl⟩
          go_wp2_with fail
          refine (W2.out _).mono ?_
          rintro e w8 ⟨rfl, rfl⟩
          go_wp2
          go_ret
          exact ⟨ret_int NEQ.out.symm, grown_trans G.out G5.out⟩

        have SOK := Lib.hid (show sizeOk ⟨nm, ad, sz, of, fs, pr, sl⟩ n = true by rw [ST.out]; rfl)
        go_wp2_with fail
        refine (W1.out _).mono ?_
        rintro e w8 ⟨rfl, rfl⟩
        go_wp2_with fail
        refine (W2.out _).mono ?_
        rintro e w8 ⟨rfl, rfl⟩
        clear ST W1 W2 d1 d2 d3 d4 t1 t2 m1 m2 m3 m4
        go_wp2_with fail
        go_loopw [10] (fun i wx => ∃ m : Nat, m ≤ i1 ∧ i = .int .i64 m ∧ wd.grownBy wx none ∧ ∀ a y, a < m → l[a]? = some y → RiseR y.seg ⟨nm, ad, sz, of, fs, pr, sl⟩) (fun i _ => i1 - (intOf i).toNat)
        case atStart => exact ⟨0, Nat.zero_le _, rfl, grown_refl _ _, fun a y ha => by omega⟩
        case round =>
          obtain ⟨m, hm, rfl, hg, hall⟩ := hrel
          have AL := Lib.hid hall
          have GH := Lib.hid hg
          have g6 := grown_trans G5.out hg
          have G6 := Lib.hid g6
          have P6 := Lib.hid (P5.out.kept hg (by simp))
          by_cases hmt : m < i1
          · obtain ⟨y, hy⟩ : ∃ y, l[m]? = some y := ⟨_, List.getElem?_eq_getElem (by rw [HN.out]; omega)⟩
            obtain ⟨g', hq', b0, b1, b2, b3, b4, b5, b6⟩ := (RW.out wr g6).at hy
            obtain rfl : g = g' := by injection hq' with e; injection e
            have c5 := (AA.out.kept g6 (by simp)).c 4 (.slice (some ⟨g, 0, none⟩) N cs) rfl
            have cl := lt_of_block (AA.out.kept g6 (by simp))
            have dm : decide ((m : Int) < (i1 : Int)) = true := by simp; omega
            have hml : (m : Int) < (N : Int) := by omega
            have HY := Lib.hid hy
            have SY := FI.out.size m y hmt hy
            have FY := FF.out y (List.mem_of_getElem? hy)
            have NR := Lib.hid (NRI.out m i1 y _ hmt hy HX.out)
            obtain ⟨⟨nm2, ad2, sz2, of2, fs2, pr2, sl2⟩, q2, c2⟩ := y
            simp only [] at b0 b1 b2 b3 b4 b5 b6
            have T2 : ad2 + sz2 ≤ 140737488355328 := by
              unfold sizeOk withinN at SY
              simp only [Bool.and_eq_true, decide_eq_true_eq] at SY
              exact SY.2
            have k1 : U64 ad2 := FY.addr
            have k2 : U64 sz2 := FY.size
            have k3 := k1.1
            have k4 := k2.1
            obtain ⟨E, hE⟩ : ∃ E, ad2 + sz2 = E := ⟨_, rfl⟩
            have HE := Lib.hid hE
            have m7 : (ad2 + sz2) % 18446744073709551616 = E := by omega
            have m8 : IntKind.u64.wrap (ad2 + sz2) = E := by rw [IntKind.wrap_u64]; exact m7
            have g7 := grown1 wr (.cells #[.string (strOfNums nm2), .int .u64 ad2, .int .u64 sz2, .int .u64 of2, .int .u64 fs2, .int .i64 pr2, .slice q2 sl2.length c2] 58)
            have q7 : SegAt (wr.alloc (.cells #[.string (strOfNums nm2), .int .u64 ad2, .int .u64 sz2, .int .u64 of2, .int .u64 fs2, .int .i64 pr2, .slice q2 sl2.length c2] 58)) wr.heap.size ⟨nm2, ad2, sz2, of2, fs2, pr2, sl2⟩ (.slice q2 sl2.length c2) := heap_alloc_new wr _
            have p7 := P6.out.kept g7 (by simp)
            obtain ⟨wx, hwx⟩ : ∃ wx, wr.alloc (.cells #[.string (strOfNums nm2), .int .u64 ad2, .int .u64 sz2, .int .u64 of2, .int .u64 fs2, .int .i64 pr2, .slice q2 sl2.length c2] 58) = wx := ⟨_, rfl⟩
            obtain ⟨px, hpx⟩ : ∃ px, wr.heap.size = px := ⟨_, rfl⟩
            rw [hwx] at g7 q7 p7
            rw [hpx] at q7
            have GX := Lib.hid (grown_trans hg g7)
            have GY := Lib.hid (grown_trans g6 g7)
            have Q7 := Lib.hid q7
            have P7 := Lib.hid p7
            clear hg hall g6 hy SY FY k1 k2 k3 k4 hE T2 g7 q7 p7 hq'
            go_upto_region 14 with fail
            clear hwx hpx
            obtain ⟨y0, y1, y2, y3, y4, y5, y6⟩ := P7.out.c
            obtain ⟨t0, t1, t2, t3, t4, t5, t6⟩ := Q7.out.c
            have yl := P7.out.lt
            have tl := Q7.out.lt
            simp only [] at y0 y1 y2 y3 y4 y5 t0 t1 t2 t3 t4 t5
            by_cases hnp : (strOfNums nm2).toList = (strOfNums nm).toList
            rotate_left
            · have hnn : ((strOfNums nm2).toList == (strOfNums nm).toList) = false := by simpa using hnp
              cases hae : decide (ad < E)
              · have YES : RiseR ⟨nm2, ad2, sz2, of2, fs2, pr2, sl2⟩ ⟨nm, ad, sz, of, fs, pr, sl⟩ := by
                  refine ⟨by unfold nmOf; exact hnp, ?_⟩
                  have := of_decide_eq_false hae
                  have := HE.out
                  simp only []
                  omega
                go_wp2
                go_roundw
                case rel =>
                  refine ⟨m + 1, hmt, by go_num, GX.out, fun a y ha hay => ?_⟩
                  rcases Nat.lt_or_ge a m with e1 | e1
                  · exact AL.out a y e1 hay
                  · obtain rfl : a = m := by omega
                    rw [HY.out] at hay
                    injection hay with hay
                    rw [← hay]; exact YES
                case measure => simp [intOf]; omega
              · have NEQ := Lib.hid (NR.out (fun hz => by
                  have := of_decide_eq_true hae
                  have := HE.out
                  have := hz.2
                  simp only [] at this
                  omega))
                go_wp2
                go_ret
                exact ⟨ret_int NEQ.out.symm, grown_trans G.out GY.out⟩
            · have hnn : ((strOfNums nm2).toList == (strOfNums nm).toList) = true := by simpa using hnp
              have NEQ := Lib.hid (NR.out (fun hz => hz.1 (by unfold nmOf; exact hnp)))
              go_wp2
              go_ret
              exact ⟨ret_int NEQ.out.symm, grown_trans G.out GY.out⟩
          · have hm' : m = i1 := by omega
            subst hm'
            have dm : decide ((m : Int) < (m : Int)) = false := by simp
            obtain ⟨y0, y1, y2, y3, y4, y5, y6⟩ := P6.out.c
            have yl := P6.out.lt
            simp only [] at y0 y1 y2 y3 y4 y5
            have FN := Lib.hid (FI.out.next HX.out POK.out SOK.out hall)
            clear hg hall g6
            rcases F1.out with ⟨rfl, hno⟩ | ⟨a, z, rfl, ha, hz, hlz, hno⟩
            · have NO := Lib.hid hno
              clear hno
              obtain ⟨bx, hbx⟩ : ∃ bx, bx = laidS ⟨nm, ad, sz, of, fs, pr, sl⟩ := ⟨_, rfl⟩
              rw [← hbx] at LD
              have HB := Lib.hid hbx
              clear hbx
              go_wp2_with fail
              refine (LD.out _).mono ?_
              rintro e w8 ⟨rfl, hg8⟩
              have G8 := Lib.hid (grown_trans G6.out hg8)
              clear hg8
              cases bx
              · go_wp2
                go_roundw
                case rel =>
                  refine ⟨m + 1, -1, hlt, by go_num, rfl, G8.out, FN.out, .inl ⟨rfl, fun j y hj hjy => ?_⟩⟩
                  rcases Nat.lt_or_ge j m with e1 | e1
                  · exact NO.out j y e1 hjy
                  · obtain rfl : j = m := by omega
                    rw [HX.out] at hjy
                    injection hjy with hjy
                    rw [← hjy]; exact HB.out.symm
                case measure => simp [intOf]; omega
              · go_wp2
                go_roundw
                case rel => exact ⟨m + 1, m, hlt, by go_num, rfl, G8.out, FN.out, .inr ⟨m, _, rfl, Nat.lt_succ_self m, HX.out, HB.out.symm, NO.out⟩⟩
                case measure => simp [intOf]; omega
            · have NO := Lib.hid hno
              have HZ := Lib.hid hz
              have HL := Lib.hid hlz
              have da : decide ((a : Int) < 0) = false := by simp
              clear hno hz hlz
              go_wp2
              go_roundw
              case rel => exact ⟨m + 1, a, hlt, by go_num, rfl, G6.out, FN.out, .inr ⟨a, z, rfl, Nat.lt_succ_of_lt ha, HZ.out, HL.out, NO.out⟩⟩
              case measure => simp [intOf]; omega
    · have hi' : i1 = l.length := by omega
      subst hi'
      have dl : decide ((l.length : Int) < (l.length : Int)) = false := by simp
      have RA := Lib.hid (RALL.out hfine)
      rcases hfirst with ⟨rfl, hno⟩ | ⟨a, z, rfl, ha, hz, hlz, hno⟩
      · have NEQ := Lib.hid (show r = 8 from by rw [RA.out, FNO.out hno]; rfl)
        clear hg hno hfine
        generalize l.length = N at *
        go_wp2
        go_ret
        exact ⟨ret_int NEQ.out.symm, grown_trans G.out G3.out⟩
      · have FZ := Lib.hid (FSO.out a z hno hz hlz)
        obtain ⟨g, rfl, a0, a1, a2, a3, a4, a5, a6⟩ := (RW.out wr hg).at hz
        have PZ := FI.out.prot a z ha hz
        have da : decide ((a : Int) < 0) = false := by simp
        have hcp : l.length ≤ cs := CP.out
        have hal : (a : Int) < (l.length : Int) := by omega
        obtain ⟨⟨nm, ad, sz, of, fs, pr, sl⟩, q1, c1⟩ := z
        simp only [] at a0 a1 a2 a3 a4 a5 a6
        have HP : 0 ≤ pr ∧ pr ≤ 7 := by unfold protOk at PZ; simp at PZ; omega
        have g5 := grown_trans hg (grown1 wr (.cells #[.string (strOfNums nm), .int .u64 ad, .int .u64 sz, .int .u64 of, .int .u64 fs, .int .i64 pr, .slice q1 sl.length c1] 58))
        have p5 : SegAt (wr.alloc (.cells #[.string (strOfNums nm), .int .u64 ad, .int .u64 sz, .int .u64 of, .int .u64 fs, .int .i64 pr, .slice q1 sl.length c1] 58)) wr.heap.size ⟨nm, ad, sz, of, fs, pr, sl⟩ (.slice q1 sl.length c1) := heap_alloc_new wr _
        obtain ⟨wd, hwd⟩ : ∃ wd, wr.alloc (.cells #[.string (strOfNums nm), .int .u64 ad, .int .u64 sz, .int .u64 of, .int .u64 fs, .int .i64 pr, .slice q1 sl.length c1] 58) = wd := ⟨_, rfl⟩
        obtain ⟨pd, hpd⟩ : ∃ pd, wr.heap.size = pd := ⟨_, rfl⟩
        rw [hwd] at g5 p5
        rw [hpd] at p5
        have P5 := Lib.hid p5
        have G5 := Lib.hid g5
        have FZ2 : r = if ((of == 0) && decide (hd ≤ fs) && (pr % 2 == 1) && !wrOk ⟨nm, ad, sz, of, fs, pr, sl⟩) = true then 0 else 8 := by rw [RA.out, FZ.out]
        have FZ := Lib.hid FZ2
        clear hg hno hfine hz hlz PZ g5 p5 RA FZ2
        generalize l.length = N at *
        go_upto_region 21 with fail
        clear hwd hpd
        obtain ⟨y0, y1, y2, y3, y4, y5, y6⟩ := P5.out.c
        have yl := P5.out.lt
        simp only [] at y0 y1 y2 y3 y4 y5
        by_cases e1 : of = 0
        rotate_left
        · have NEQ := Lib.hid (show r = 8 from by rw [FZ.out, show (of == 0) = false by simpa using e1]; rfl)
          have d1 : (of != 0) = true := by simpa using e1
          clear e1
          go_wp2
          go_ret
          exact ⟨ret_int NEQ.out.symm, grown_trans G.out G5.out⟩

        have d1 : (of != 0) = false := by simpa using e1
        by_cases e2 : fs < hd
        · have NEQ := Lib.hid (show r = 8 from by rw [FZ.out, show decide (hd ≤ fs) = false by simp; omega]; simp)
          have d2 : decide (fs < hd) = true := by simpa using e2
          clear e1 e2
          go_wp2
          go_ret
          exact ⟨ret_int NEQ.out.symm, grown_trans G.out G5.out⟩

        have d2 : decide (fs < hd) = false := by simpa using e2
        have FZ3 : r = if ((pr % 2 == 1) && !wrOk ⟨nm, ad, sz, of, fs, pr, sl⟩) = true then 0 else 8 := by rw [FZ.out, show (of == 0) = true by simpa using e1, show decide (hd ≤ fs) = true by simp; omega]; rfl
        clear e1 e2 FZ
        rcases (show pr = 0 ∨ pr = 1 ∨ pr = 2 ∨ pr = 3 ∨ pr = 4 ∨ pr = 5 ∨ pr = 6 ∨ pr = 7 by omega) with rfl | rfl | rfl | rfl | rfl | rfl | rfl | rfl
        · have NEQ := Lib.hid (show r = 8 from by rw [FZ3]; rfl)
          clear FZ3 HP
          go_wp2
          go_ret
          exact ⟨ret_int NEQ.out.symm, grown_trans G.out G5.out⟩
        · have NEQ := Lib.hid (show r = 0 from by rw [FZ3]; rfl)
          clear FZ3 HP
          go_wp2
          go_ret
          exact ⟨ret_int NEQ.out.symm, grown_trans G.out G5.out⟩
        · have NEQ := Lib.hid (show r = 8 from by rw [FZ3]; rfl)
          clear FZ3 HP
          go_wp2
          go_ret
          exact ⟨ret_int NEQ.out.symm, grown_trans G.out G5.out⟩
        · have NEQ := Lib.hid (show r = 8 from by rw [FZ3]; rfl)
          clear FZ3 HP
          go_wp2
          go_ret
          exact ⟨ret_int NEQ.out.symm, grown_trans G.out G5.out⟩
        · have NEQ := Lib.hid (show r = 8 from by rw [FZ3]; rfl)
          clear FZ3 HP
          go_wp2
          go_ret
          exact ⟨ret_int NEQ.out.symm, grown_trans G.out G5.out⟩
        · have NEQ := Lib.hid (show r = 0 from by rw [FZ3]; rfl)
          clear FZ3 HP
          go_wp2
          go_ret
          exact ⟨ret_int NEQ.out.symm, grown_trans G.out G5.out⟩
        · have NEQ := Lib.hid (show r = 8 from by rw [FZ3]; rfl)
          clear FZ3 HP
          go_wp2
          go_ret
          exact ⟨ret_int NEQ.out.symm, grown_trans G.out G5.out⟩
        · have NEQ := Lib.hid (show r = 8 from by rw [FZ3]; rfl)
          clear FZ3 HP
          go_wp2
          go_ret
          exact ⟨ret_int NEQ.out.symm, grown_trans G.out G5.out⟩
end Go.Proofs.YtdagnkdonlfobaaGreat
