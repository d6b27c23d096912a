import Derived.Test.YtemdbfgpimfkdaaGreatM16
import Derived.Test.YtemdbfgpimfkdaaGreatM7
import Derived.Deep.RegionHeld3
/- The program's May, whole. No condition but that numbers fit their types. -/
namespace Go.Proofs.YtemdbfgpimfkdaaGreat
open Go.RowKit
variable {w w' : World} {h : Hx} {s : St} {sv dv : Value} {n hd : Int}

theorem askInfo : (Tryz.prog.info? 59).map (·.size) = some 26 := by kernel_rfl
theorem askArr_one (h : Hx) (s : St) (n hd : Int) {sv dv : Value} (h1 : ∃ q n c, sv = .slice q n c) (h2 : ∃ q n c, dv = .slice q n c) : (askArr h s sv dv n hd).all (·.oneCell') = true := by
  obtain ⟨q, n, c, rfl⟩ := h1
  obtain ⟨q', n', c', rfl⟩ := h2
  simp [askArr, Value.oneCell']
theorem wpList_store_ask {g : Nat} {old : Array Value} {ops : Array Oper} {rest : List Oper} {o : Oper} {a : Act} {Q : Exit → Act → World → Prop} (hgd : o.guard = none) (x y : Operand) (ho : o.op = .store 59 x y)
    (hx : a.eval x = .pointer (some ⟨g, 0, none⟩)) (hy : a.eval y = askV h s sv dv n hd) (k : w.heap[g]? = some (.cells old 59 (0, 0))) (hs : old.size = 26) (h1 : ∃ q n c, sv = .slice q n c) (h2 : ∃ q n c, dv = .slice q n c)
    (hK : wpList Tryz.prog ops Q rest (a.put o.dst undef) (w.setRow g (askArr h s sv dv n hd))) : wpList Tryz.prog ops Q (o :: rest) a w :=
  wpList_store_row hgd _ x y ho g (askArr h s sv dv n hd) hx hy _ _ k askInfo hs (askArr_one h s n hd h1 h2) hK
theorem wpList_load_ask {g : Nat} {ops : Array Oper} {rest : List Oper} {o : Oper} {a : Act} {Q : Exit → Act → World → Prop} (hgd : o.guard = none) (x : Operand) (ho : o.op = .load 59 x)
    (hx : a.eval x = .pointer (some ⟨g, 0, none⟩)) (k : AskAt w g h s sv dv n hd) (hK : wpList Tryz.prog ops Q rest (a.put o.dst (askV h s sv dv n hd)) w) : wpList Tryz.prog ops Q (o :: rest) a w :=
  BigFrame.wpList_want (by unfold Region.wanted; rw [hgd]) fun _ hK' => wp_load_row _ x ho g hx _ _ _ _ k Tryz.underlying59 rfl (by kernel_rfl) (hK' _ _ hK)

theorem drop_dem {D : List Dem} {k : Nat} {d : Dem} (hd : D[k]? = some d) : D.drop k = d :: D.drop (k + 1) := by
  obtain ⟨hk, rfl⟩ := List.getElem?_eq_some_iff.1 hd
  exact List.drop_eq_getElem_cons hk
theorem askN_cons (d : Dem) (l : List Dem) : askN (d :: l) = if d.2.all (·.2) = true then askN l else d.1 := rfl
/-- What each rule answers, wherever it is asked. -/
structure Rule (w : World) (h : Hx) (s : St) (sv dv : Value) (n hd : Int) (x : Nat × Bool) : Prop where
  enter : ∀ args W, (callFunc x.1 args).run Tryz.prog W = .ok (.enter x.1 args) W
  ask : ∀ W, w.grownBy W none → Calls Tryz.prog x.1 #[askV h s sv dv n hd] W fun e w' => e = .returned (.bool x.2) ∧ W.grownBy w' none
set_option maxRecDepth 20000 in
set_option maxHeartbeats 400000 in
theorem May_dem {qs : Option Addr} {len cs : Nat} (D : List Dem) (hD : D.length = 4) (h47 : ∀ d ∈ D, d.2.length ≤ 1000) (h2 : ∃ q n c, dv = .slice q n c) (hR : ∀ d ∈ D, ∀ x ∈ d.2, Rule w h s (.slice qs len cs) dv n hd x)
    (hDem : ∀ W, Calls Tryz.prog 17 #[] W fun e w' => ∃ b, e = .returned (.slice (some ⟨b, 0, none⟩) 4 4) ∧ DemsAt w' b D ∧ W.grownBy w' none) :
    Calls Tryz.prog 8 #[imgV h s (.slice qs len cs) dv, .int .u64 n, .int .u64 hd] w fun e w' => e = .returned (.int .i64 (askN D)) ∧ w.grownBy w' none := by
  have gB := grown1 w (.cells (imgArr h s (.slice qs len cs) dv) 32)
  have aA : ImgAt (w.alloc (.cells (imgArr h s (.slice qs len cs) dv) 32)) w.heap.size h s (.slice qs len cs) dv := heap_alloc_new w _
  obtain ⟨W, hW⟩ : ∃ W, w.alloc (.cells (imgArr h s (.slice qs len cs) dv) 32) = W := ⟨_, rfl⟩
  obtain ⟨b, hb⟩ : ∃ b, w.heap.size = b := ⟨_, rfl⟩
  rw [hW] at gB aA
  rw [hb] at aA
  have AA := Lib.hid aA
  have G := Lib.hid gB
  have gl := lt_of_block aA
  have ZA := Lib.hid (heap_alloc_new W (.cells #[.int .i64 0, .int .i64 0, .int .u32 0, .string ⟨#[]⟩, .slice none 0 0, .slice none 0 0, .int .u64 0, .int .u64 0, .int .u64 0, .int .u64 0, .int .u64 0, .int .u64 0, .int .u64 0, .int .u64 0, .int .u64 0, .int .u64 0, .int .u64 0, .int .u64 0, .int .u64 0, .int .u64 0, .int .u64 0, .int .u64 0, .int .u64 0, .bool false, .int .u64 0, .int .u64 0] 59))
  have DM := Lib.hid hDem
  have RL := Lib.hid hR
  have H2 := Lib.hid h2
  have HL := Lib.hid hD
  have H47 := Lib.hid h47
  clear gB aA hDem hR h2 hD h47
  rw [show imgV h s (.slice qs len cs) dv = .agg (imgArr h s (.slice qs len cs) dv) from rfl]
  unfold imgArr at hW ⊢
  go_enter Tryz.func8, Tryz.ntmps8
  go_wp2_with fail
  go_step3
  clear hW hb
  go_upto_region 2 with (first | (refine wpList_load_imgI rfl _ rfl rfl AA.out ?_; unfold imgV imgArr) | refine wpList_store_ask (h := h) (s := s) (sv := .slice qs len cs) (dv := dv) (n := n) (hd := hd) rfl _ _ rfl rfl rfl ZA.out rfl ⟨_, _, _, rfl⟩ H2.out ?_ | fail)
  have A2 : AskAt ((W.alloc (.cells #[.int .i64 0, .int .i64 0, .int .u32 0, .string ⟨#[]⟩, .slice none 0 0, .slice none 0 0, .int .u64 0, .int .u64 0, .int .u64 0, .int .u64 0, .int .u64 0, .int .u64 0, .int .u64 0, .int .u64 0, .int .u64 0, .int .u64 0, .int .u64 0, .int .u64 0, .int .u64 0, .int .u64 0, .int .u64 0, .int .u64 0, .int .u64 0, .bool false, .int .u64 0, .int .u64 0] 59)).setRow W.heap.size (askArr h s (.slice qs len cs) dv n hd)) W.heap.size h s (.slice qs len cs) dv n hd := setRow_heap _ _ _ _ _ _ ZA.out
  have g2 := grown_new (grown1 W (.cells #[.int .i64 0, .int .i64 0, .int .u32 0, .string ⟨#[]⟩, .slice none 0 0, .slice none 0 0, .int .u64 0, .int .u64 0, .int .u64 0, .int .u64 0, .int .u64 0, .int .u64 0, .int .u64 0, .int .u64 0, .int .u64 0, .int .u64 0, .int .u64 0, .int .u64 0, .int .u64 0, .int .u64 0, .int .u64 0, .int .u64 0, .int .u64 0, .bool false, .int .u64 0, .int .u64 0] 59)) (grown_setRow (g := W.heap.size) (W.alloc (.cells #[.int .i64 0, .int .i64 0, .int .u32 0, .string ⟨#[]⟩, .slice none 0 0, .slice none 0 0, .int .u64 0, .int .u64 0, .int .u64 0, .int .u64 0, .int .u64 0, .int .u64 0, .int .u64 0, .int .u64 0, .int .u64 0, .int .u64 0, .int .u64 0, .int .u64 0, .int .u64 0, .int .u64 0, .int .u64 0, .int .u64 0, .int .u64 0, .bool false, .int .u64 0, .int .u64 0] 59)) (askArr h s (.slice qs len cs) dv n hd)) (Nat.le_refl _)
  obtain ⟨W2, hW2⟩ : ∃ W2, (W.alloc (.cells #[.int .i64 0, .int .i64 0, .int .u32 0, .string ⟨#[]⟩, .slice none 0 0, .slice none 0 0, .int .u64 0, .int .u64 0, .int .u64 0, .int .u64 0, .int .u64 0, .int .u64 0, .int .u64 0, .int .u64 0, .int .u64 0, .int .u64 0, .int .u64 0, .int .u64 0, .int .u64 0, .int .u64 0, .int .u64 0, .int .u64 0, .int .u64 0, .bool false, .int .u64 0, .int .u64 0] 59)).setRow W.heap.size (askArr h s (.slice qs len cs) dv n hd) = W2 := ⟨_, rfl⟩
  rw [hW2] at A2 g2 ⊢
  have G2 := Lib.hid (grown_trans G.out g2)
  have AA2 := Lib.hid A2
  clear hW2 g2 ZA gl A2 AA
  generalize W.heap.size = p at *
  generalize Value.agg #[.int .i64 h.kd, .int .i64 h.sb, .int .u32 h.fl, .string (strOfNums s.name), .slice qs len cs, dv, .int .u64 s.rb.1, .int .u64 s.rb.2, .int .u64 s.bd.1, .int .u64 s.bd.2, .int .u64 s.wk.1, .int .u64 s.wk.2, .int .u64 s.lz.1, .int .u64 s.lz.2, .int .u64 s.tr.1, .int .u64 s.tr.2, .int .u64 s.ch.1, .int .u64 s.ch.2, .int .u64 s.sy.1, .int .u64 s.sy.2, .int .u64 s.st.1, .int .u64 s.st.2, .int .u64 s.entry, .bool s.has] = v0
  generalize Value.agg #[.int .i64 h.kd, .int .i64 h.sb, .int .u32 h.fl, .string (strOfNums s.name), .slice qs len cs, dv, .int .u64 s.rb.1, .int .u64 s.rb.2, .int .u64 s.bd.1, .int .u64 s.bd.2, .int .u64 s.wk.1, .int .u64 s.wk.2, .int .u64 s.lz.1, .int .u64 s.lz.2, .int .u64 s.tr.1, .int .u64 s.tr.2, .int .u64 s.ch.1, .int .u64 s.ch.2, .int .u64 s.sy.1, .int .u64 s.sy.2, .int .u64 s.st.1, .int .u64 s.st.2, .int .u64 s.entry, .bool s.has, .int .u64 n, .int .u64 hd] = v1
  go_wp2_with fail
  go_step3
  go_wp2_with fail
  refine (DM.out _).mono ?_
  rintro e w3 ⟨bd, rfl, hda, hg⟩
  have G3 := Lib.hid (grown_trans G2.out hg)
  have AA3 := Lib.hid (AA2.out.kept hg (by simp))
  have DA := Lib.hid hda
  clear hda hg AA2 G2 DM
  go_wp2_with fail
  go_loopw [8, 19] (fun e i wr => ∃ k : Nat, k ≤ 4 ∧ i = .int .i64 k ∧ e = .int .i64 0 ∧ w3.grownBy wr none ∧ askN D = askN (D.drop k)) (fun _ i _ => 4 - (intOf i).toNat)
  case atStart => exact ⟨0, Nat.zero_le _, rfl, rfl, grown_refl _ _, rfl⟩
  case round =>
    obtain ⟨k, hk, rfl, rfl, hg, ha⟩ := hrel
    have G4 := Lib.hid hg
    have HA := Lib.hid ha
    by_cases hlt : k < 4
    · obtain ⟨⟨er, rs⟩, hd2⟩ : ∃ d, D[k]? = some d := ⟨_, List.getElem?_eq_getElem (by rw [HL.out]; exact hlt)⟩
      obtain ⟨g, c0, c1, c2⟩ := (DA.out.grown hg) k _ hd2
      have HD := Lib.hid hd2
      have CC := Lib.hid c2
      have dl : decide ((k : Int) < 4) = true := by simp; omega
      simp only [] at c0 c1
      have L5 := H47.out _ (List.mem_of_getElem? hd2)
      have NX := Lib.hid (drop_dem hd2)
      simp only [] at L5
      clear hd2 c2 hg ha
      go_wp2_with fail
      have g5 := grown1 wr (.cells #[.int .i64 er, .slice (some ⟨g, 0, none⟩) rs.length rs.length] 64)
      have e0 : (wr.alloc (.cells #[.int .i64 er, .slice (some ⟨g, 0, none⟩) rs.length rs.length] 64)).cell? ⟨wr.heap.size, 0, none⟩ = some (.int .i64 er) := cell_new 0 _ rfl
      obtain ⟨wd, hwd⟩ : ∃ wd, wr.alloc (.cells #[.int .i64 er, .slice (some ⟨g, 0, none⟩) rs.length rs.length] 64) = wd := ⟨_, rfl⟩
      rw [hwd] at g5 e0 ⊢
      obtain ⟨pd, hpd⟩ : ∃ pd, wr.heap.size = pd := ⟨_, rfl⟩
      rw [hpd] at e0 ⊢
      have G5 := Lib.hid (grown_trans G4.out g5)
      have E0 := Lib.hid e0
      have CD := Lib.hid (fun j x hx => grown_cell g5 (CC.out j x hx))
      have RD := Lib.hid (fun x hx => RL.out (er, rs) (List.mem_of_getElem? HD.out) x hx)
      clear c0 c1 hwd hpd e0 g5
      go_loopw [8, 26] (fun e i wx => ∃ m : Nat, m ≤ rs.length ∧ i = .int .i64 m ∧ e = .int .i64 0 ∧ wd.grownBy wx none ∧ ∀ j x, j < m → rs[j]? = some x → x.2 = true) (fun _ i _ => rs.length - (intOf i).toNat)
      case atStart => exact ⟨0, Nat.zero_le _, rfl, rfl, grown_refl _ _, fun j x hj => by omega⟩
      case round =>
        obtain ⟨m, hm, rfl, rfl, hg, hall⟩ := hrel
        have AL := Lib.hid hall
        have GH := Lib.hid hg
        have G6 := Lib.hid (grown_trans G5.out hg)
        have AA6 := Lib.hid (AA3.out.kept G6.out (by simp))
        have e0 := grown_cell hg E0.out
        have el := block_lt_of_cell e0
        simp only [] at el
        by_cases hmt : m < rs.length
        · obtain ⟨⟨f, bx⟩, hx⟩ : ∃ x, rs[m]? = some x := ⟨_, List.getElem?_eq_getElem hmt⟩
          have c3 := grown_cell hg (CD.out m _ hx)
          have R := RD.out _ (List.mem_of_getElem? hx)
          have en := R.enter
          have AK := Lib.hid (R.ask wr (grown_trans G3.out G6.out))
          have HX := Lib.hid hx
          have dm : decide ((m : Int) < (rs.length : Int)) = true := by simp; omega
          have hml : (m : Int) < (rs.length : Int) := by omega
          simp only [] at c3 en AK
          clear hg hall R hx
          generalize rs.length = N at *
          go_wp2_with (first | refine wpList_load_ask rfl _ rfl rfl AA6.out ?_ | fail)
          refine AK.out.mono ?_
          rintro e w7 ⟨rfl, hg7⟩
          have G7 := Lib.hid (grown_trans G6.out hg7)
          have GW := Lib.hid (grown_trans GH.out hg7)
          have e7 := grown_cell hg7 e0
          have l7 := Nat.lt_of_lt_of_le el hg7.size
          clear hg7 en
          cases bx
          · have HE : askN D = er := by
              rw [HA.out, NX.out, askN_cons, if_neg]
              intro hal
              rw [List.all_eq_true] at hal
              have := hal _ (List.mem_of_getElem? HX.out)
              cases this
            go_wp2
            rw [Exit.noGoto_ret]
            go_ret
            exact ⟨ret_int HE.symm, grown_trans G3.out G7.out⟩
          · go_wp2
            go_roundw
            case rel =>
              refine ⟨m + 1, hmt, by go_num, rfl, GW.out, fun j x hj hjx => ?_⟩
              rcases Nat.lt_or_ge j m with h1 | h1
              · exact AL.out j x h1 hjx
              · obtain rfl : j = m := by omega
                rw [HX.out] at hjx
                injection hjx with hjx
                rw [← hjx]
            case measure => simp [intOf]; omega
        · have hm' : m = rs.length := by omega
          have dm : decide ((m : Int) < (rs.length : Int)) = false := by simp; omega
          have HALL : rs.all (·.2) = true := by
            rw [List.all_eq_true]
            intro x hx
            obtain ⟨j, hj, rfl⟩ := List.getElem_of_mem hx
            exact hall j _ (by omega) (List.getElem?_eq_getElem hj)
          have HQ := Lib.hid HALL
          clear hg hall HALL
          generalize rs.length = N at *
          go_wp2
          go_roundw
          case rel =>
            refine ⟨k + 1, hlt, by go_num, rfl, G6.out, ?_⟩
            rw [HA.out, NX.out, askN_cons, if_pos HQ.out]
          case measure => simp [intOf]; omega
    · have hk4 : k = 4 := by omega
      subst hk4
      have HF : askN D = 0 := by rw [ha, List.drop_eq_nil_of_le (by rw [HL.out]; exact Nat.le_refl _)]; rfl
      clear hg ha
      go_wp2
      rw [Exit.noGoto_ret]
      go_ret
      exact ⟨ret_int HF.symm, grown_trans G3.out G4.out⟩

theorem ask_may (h : Hx) (s : St) (n hd : Int) (hf : ∀ x ∈ s.segs, 0 ≤ x.addr) : askN (demandsN h s n hd) = mayN h s n hd := by
  unfold mayN
  rw [segsOk_eq s n hd hf]
  unfold demandsN secsOk
  simp only [askN_cons, List.all_cons, List.all_nil, Bool.and_true]
  rw [show askN [] = 0 from rfl]
  generalize s.segs.all protOk = b1
  generalize s.segs.all (fun x => sizeOk x n) = b2
  generalize diffN s.segs = b3
  generalize riseN 0 s.segs = b4
  generalize frontOk s.segs hd = b5
  generalize (s.segs.all fun z => z.secs.all (secOk z)) = b6
  generalize (s.sy.2 % 16 == 0) = b7
  generalize spansOk s n = b8
  generalize entryOk s = b9
  generalize nameOk h s = b10
  cases b1 <;> cases b2 <;> cases b3 <;> cases b4 <;> cases b5 <;> try rfl
  cases b6 <;> cases b7 <;> cases b8 <;> cases b9 <;> cases b10 <;> rfl
theorem May_any {l : List Sg} {qs : Option Addr} {cs : Nat} (k : ImgRows w s l qs cs) (hf : SegsFit s) (hs : SpFit s) (hm : NmFit s) (hn : U64 n) (h2 : ∃ q n c, dv = .slice q n c) :
    Calls Tryz.prog 8 #[imgV h s (.slice qs l.length cs) dv, .int .u64 n, .int .u64 hd] w fun e w' => e = .returned (.int .i64 (mayN h s n hd)) ∧ w.grownBy w' none := by
  rw [← ask_may h s n hd (fun x hx => (hf.seg x hx).addr.1)]
  refine May_dem (demandsN h s n hd) rfl ?_ h2 ?_ (fun W => demands_any h s n hd)
  · intro d hd'
    unfold demandsN at hd'
    simp only [List.mem_cons, List.not_mem_nil, or_false] at hd'
    rcases hd' with rfl | rfl | rfl | rfl <;> (simp only [List.length_cons, List.length_nil]; decide)
  · intro d hd' x hx
    unfold demandsN at hd'
    simp only [List.mem_cons, List.not_mem_nil, or_false] at hd'
    rcases hd' with rfl | rfl | rfl | rfl
    · simp only [List.mem_cons, List.not_mem_nil, or_false] at hx
      rcases hx with rfl | rfl | rfl | rfl | rfl
      · exact ⟨enters_of Tryz.func29 (by kernel_rfl) rfl, fun W hg => protsMay_any (k.grown hg)⟩
      · exact ⟨enters_of Tryz.func30 (by kernel_rfl) rfl, fun W hg => sizesMay_any (k.grown hg) hf hn⟩
      · exact ⟨enters_of Tryz.func31 (by kernel_rfl) rfl, fun W hg => namesDiffer_any (k.grown hg) hm⟩
      · exact ⟨enters_of Tryz.func32 (by kernel_rfl) rfl, fun W hg => rise_any (k.grown hg)⟩
      · exact ⟨enters_of Tryz.func33 (by kernel_rfl) rfl, fun W hg => frontMay_any (k.grown hg)⟩
    · simp only [List.mem_cons, List.not_mem_nil, or_false] at hx
      subst hx
      exact ⟨enters_of Tryz.func34 (by kernel_rfl) rfl, fun W hg => sectionsMay_any (k.grown hg) hf⟩
    · simp only [List.mem_cons, List.not_mem_nil, or_false] at hx
      rcases hx with rfl | rfl
      · exact ⟨enters_of Tryz.func35 (by kernel_rfl) rfl, fun W _ => spansMay_any hs hn ⟨_, _, _, rfl⟩ h2⟩
      · exact ⟨enters_of Tryz.func36 (by kernel_rfl) rfl, fun W hg => entryMay_any (k.grown hg)⟩
    · simp only [List.mem_cons, List.not_mem_nil, or_false] at hx
      subst hx
      exact ⟨enters_of Tryz.func37 (by kernel_rfl) rfl, fun W _ => nameMay_any⟩
end Go.Proofs.YtemdbfgpimfkdaaGreat

/- The numbers of an image that bytes are fit their types; its lists' rows have room. No condition. -/
namespace Go.Proofs.YtemdbfgpimfkdaaGreat
open Go.RowKit
variable {w w' : World} {h : Hx} {s : St} {sv dv : Value} {n hd : Int}

theorem num_le {b : List Int} (hr : Small b) (p k : Nat) (hk : k ≤ 8) : U64 (numAt b p k) := by
  have hl : Small ((b.drop p).take k) := fun x hx => hr x (List.mem_of_mem_drop (List.mem_of_mem_take hx))
  have h1 := leN_bd _ hl
  have h2 : ((b.drop p).take k).length ≤ 8 := Nat.le_trans (List.length_take_le _ _) hk
  have h3 : (2 : Int) ^ (8 * ((b.drop p).take k).length) ≤ 2 ^ 64 := by
    have : (2 : Nat) ^ (8 * ((b.drop p).take k).length) ≤ 2 ^ 64 := Nat.pow_le_pow_right (by decide) (by omega)
    exact_mod_cast this
  exact ⟨h1.1, by unfold numAt; have : (2 : Int) ^ 64 = 18446744073709551616 := by decide
                  omega⟩
theorem field_len (b : List Int) (p : Nat) : (fieldAt b p).length ≤ 16 := by
  unfold fieldAt
  have := pre_le ((b.drop p).take 16)
  have := List.length_take_le 16 (b.drop p)
  omega
theorem span_fit {b : List Int} (hr : Small b) (p : Nat) {u : Int} (hu : 0 ≤ u ∧ u ≤ 16) : U64 (spanAt b p u).1 ∧ U64 (spanAt b p u).2 := by
  unfold spanAt
  have h1 := numAt_lt hr p
  have h2 := numAt_lt hr (p + 4)
  refine ⟨⟨h1.1, by simp only []; omega⟩, ?_, ?_⟩
  · exact Int.mul_nonneg h2.1 hu.1
  · have : numAt b (p + 4) 4 * u ≤ numAt b (p + 4) 4 * 16 := Int.mul_le_mul_of_nonneg_left hu.2 h2.1
    simp only []
    omega
/-- What holds of an image in the making. -/
structure StFit (s : St) : Prop where
  segs : SegsFit s
  spans : SpFit s
  names : NmFit s
theorem zero_spans : SpFit St.zero := by
  intro x hx
  unfold spansList St.zero at hx
  simp only [List.mem_cons, List.not_mem_nil, or_false] at hx
  rcases hx with rfl | rfl | rfl | rfl | rfl | rfl | rfl | rfl <;> exact ⟨⟨by decide, by decide⟩, by decide, by decide⟩
theorem StFit.zero : StFit St.zero := ⟨⟨fun x hx => (by cases hx), fun x hx => (by cases hx)⟩, zero_spans, fun x hx => (by cases hx)⟩
theorem StFit.as {s s' : St} (f : StFit s) (h1 : s'.segs = s.segs) (h2 : spansList s' = spansList s) : StFit s' :=
  ⟨⟨fun x hx => f.segs.seg x (h1 ▸ hx), fun x hx => f.segs.sec x (h1 ▸ hx)⟩, fun x hx => f.spans x (h2 ▸ hx), fun x hx => f.names x (h1 ▸ hx)⟩
theorem StFit.sp {s s' : St} (f : StFit s) (h1 : s'.segs = s.segs) (h2 : ∀ x ∈ spansList s', x ∈ spansList s ∨ (U64 x.1 ∧ U64 x.2)) : StFit s' :=
  ⟨⟨fun x hx => f.segs.seg x (h1 ▸ hx), fun x hx => f.segs.sec x (h1 ▸ hx)⟩, fun x hx => (h2 x hx).elim (f.spans x) id, fun x hx => f.names x (h1 ▸ hx)⟩
theorem seg_fit {b : List Int} (hr : Small b) : SegFit (segOf b) :=
  ⟨num_le hr 24 8 (by decide), num_le hr 32 8 (by decide), num_le hr 40 8 (by decide), num_le hr 48 8 (by decide), by
    have := numAt_lt hr 60
    show -9223372036854775808 ≤ numAt b 60 4 ∧ numAt b 60 4 ≤ 9223372036854775807
    omega⟩
theorem sec_fit {b : List Int} (hr : Small b) {y : Sec} (hy : y ∈ (segOf b).secs) : SecFit y := by
  obtain ⟨i, _, rfl⟩ := List.mem_map.1 (show y ∈ (List.range (manyAt b)).map fun i => secAt b (72 + 80 * i) from hy)
  exact ⟨num_le hr _ 8 (by decide), num_le hr _ 8 (by decide), num_le hr _ 4 (by decide)⟩
theorem StFit.seg {s : St} (f : StFit s) {b : List Int} (hr : Small b) : StFit (segS s b) := by
  refine ⟨⟨fun x hx => ?_, fun x hx y hy => ?_⟩, f.spans, fun x hx => ?_⟩
  · rcases List.mem_append.1 hx with hx | hx
    · exact f.segs.seg x hx
    · rw [List.mem_singleton.1 hx]; exact seg_fit hr
  · rcases List.mem_append.1 hx with hx | hx
    · exact f.segs.sec x hx y hy
    · rw [List.mem_singleton.1 hx] at hy; exact sec_fit hr hy
  · rcases List.mem_append.1 hx with hx | hx
    · exact f.names x hx
    · rw [List.mem_singleton.1 hx]
      exact Nat.le_trans (field_len b 8) (by decide)
theorem StFit.trie {s : St} (f : StFit s) {x : Int × Int} (hx : U64 x.1 ∧ U64 x.2) : StFit (trieS s x) := by
  unfold trieS
  split
  · exact f
  · refine f.sp rfl (fun y hy => ?_)
    unfold spansList St.meet at hy
    unfold spansList
    simp only [List.mem_cons, List.not_mem_nil, or_false] at hy ⊢
    rcases hy with rfl | rfl | rfl | rfl | rfl | rfl | rfl | rfl <;> simp [hx]
theorem StFit.step {s : St} (f : StFit s) {b : List Int} (hr : Small b) : StFit (stepS s b) := by
  have sp1 := fun p => span_fit hr p (u := 1) (by decide)
  have sp16 := fun p => span_fit hr p (u := 16) (by decide)
  unfold stepS
  split
  · exact f.seg hr
  split
  · exact f.as rfl rfl
  split
  · exact f.as rfl rfl
  split
  · unfold spS
    split
    · refine StFit.trie ?_ (sp1 40)
      refine f.sp rfl (fun y hy => ?_)
      unfold spansList infoS St.meet at hy
      unfold spansList
      simp only [List.mem_cons, List.not_mem_nil, or_false] at hy ⊢
      rcases hy with rfl | rfl | rfl | rfl | rfl | rfl | rfl | rfl <;> simp [sp1]
    split
    · exact f.trie (sp1 8)
    split
    · refine f.sp rfl (fun y hy => ?_)
      unfold spansList St.meet at hy
      unfold spansList
      simp only [List.mem_cons, List.not_mem_nil, or_false] at hy ⊢
      rcases hy with rfl | rfl | rfl | rfl | rfl | rfl | rfl | rfl <;> simp [sp1]
    · refine f.sp rfl (fun y hy => ?_)
      unfold spansList St.meet at hy
      unfold spansList
      simp only [List.mem_cons, List.not_mem_nil, or_false] at hy ⊢
      rcases hy with rfl | rfl | rfl | rfl | rfl | rfl | rfl | rfl <;> simp [sp1, sp16]
  split
  · exact f.as rfl rfl
  · exact f
theorem StFit.run {s : St} (f : StFit s) {l : List (List Int)} (hr : ∀ b ∈ l, Small b) : StFit (runS s l) := by
  induction l generalizing s with
  | nil => exact f
  | cons b l ih =>
    rw [runS]
    exact ih (f.step (hr b (List.mem_cons_self ..))) (fun c hc => hr c (List.mem_cons_of_mem _ hc))
theorem img_fit {ys : List Int} (hs : Small ys) : StFit (imgS ys) := by
  unfold imgS
  split
  · refine StFit.zero.run (fun b hb => ?_)
    obtain ⟨d, hd, rfl⟩ := List.mem_map.1 hb
    exact (readL_may hs d hd).2.1
  · exact StFit.zero
theorem own_room {lo n c : Nat} {q : Option Addr} {T : TypeId} {k : Nat} {xs : List Value} (hw : w.ownsRow lo T k (.slice q n c) n xs) : n ≤ c := by
  rcases hw.2 with ⟨e, e0⟩ | ⟨g, cap, cur, hv, _, _, h1, _⟩
  · rw [e0]; exact Nat.zero_le _
  · injection hv with _ _ e3; subst e3; exact h1
theorem ImgRows.of2 {lo : Nat} (L : Lists w lo s sv dv) : ∃ l qs cs, sv = .slice qs l.length cs ∧ ImgRows w s l qs cs ∧ ∀ x ∈ l, x.seg.secs.length ≤ x.c := by
  obtain ⟨l, a2, a3, a4⟩ := L.segs
  obtain ⟨qs, cs, rfl⟩ := own_slice a3
  refine ⟨l, qs, cs, rfl, ⟨a2, rowSg_of a3, fun x hx => rowSec_of (a4 x hx), own_most a3, fun x hx => own_most (a4 x hx), own_room a3⟩, fun x hx => own_room (a4 x hx)⟩
end Go.Proofs.YtemdbfgpimfkdaaGreat

/- The document's numbers and fields of a command, and what it is. No condition but that it has at most 2^47 bytes. -/
namespace Go.Proofs.YtemdbfgpimfkdaaGreat
open Go.RowKit
variable {w w' : World}

theorem leN_step {ys : List Int} {i : Nat} {x : Int} (h : ys[i]? = some x) : leN (ys.drop i) = x + 256 * leN (ys.drop (i + 1)) := by
  rw [List.drop_eq_getElem?_toList_append, h]
  rfl
set_option maxRecDepth 20000 in
theorem get5_any (ys : List Int) {q : Option Addr} {c n : Nat} (h : IsBytes w q c ys) (hn : ys.length = n) (h8 : n ≤ 8) (hr : Small ys) :
    Calls Tryz.prog 111 #[.slice q n c] w fun e w' => e = .returned (.int .u64 (leN ys)) ∧ w = w' := by
  have HB := Lib.hid h
  have HN := Lib.hid hn
  have HR := Lib.hid hr
  have hbd : ∀ k, k ≤ n → 0 ≤ leN (ys.drop k) ∧ leN (ys.drop k) < 18446744073709551616 := fun k hk => by
    have := leN_bd (ys.drop k) (fun x hx => hr x (List.mem_of_mem_drop hx))
    have hl : (ys.drop k).length ≤ 8 := by rw [List.length_drop]; omega
    have : (2 : Int) ^ (8 * (ys.drop k).length) ≤ 18446744073709551616 := by
      have h1 : (2 : Nat) ^ (8 * (ys.drop k).length) ≤ 2 ^ 64 := Nat.pow_le_pow_right (by decide) (by omega)
      have h2 : ((2 ^ (8 * (ys.drop k).length) : Nat) : Int) ≤ ((2 ^ 64 : Nat) : Int) := by exact_mod_cast h1
      have h3 : ((2 ^ (8 * (ys.drop k).length) : Nat) : Int) = (2 : Int) ^ (8 * (ys.drop k).length) := by simp
      rw [h3] at h2
      exact h2
    omega
  have BD := Lib.hid hbd
  clear h hn hr hbd
  go_enter Tryz.func111, Tryz.ntmps111
  go_wp2
  go_loopw [3, 4] (fun v i wr => ∃ k : Nat, k ≤ n ∧ i = .int .i64 ((k : Int) - 1) ∧ v = .int .u64 (leN (ys.drop k)) ∧ wr = w) (fun _ i _ => (intOf i + 1).toNat)
  case atStart => exact ⟨n, Nat.le_refl _, rfl, by rw [List.drop_of_length_le (by rw [HN.out]; exact Nat.le_refl _)]; rfl, rfl⟩
  case round =>
    obtain ⟨k, hk, rfl, rfl, rfl⟩ := hrel
    by_cases h0 : 0 < k
    · obtain ⟨j, rfl⟩ : ∃ j, k = j + 1 := ⟨k - 1, by omega⟩
      obtain ⟨x, hx⟩ : ∃ x, ys[j]? = some x := ⟨_, List.getElem?_eq_getElem (by rw [HN.out]; omega)⟩
      have hst := leN_step hx
      have hb1 := BD.out (j + 1) hk
      have hb0 := BD.out j (by omega)
      have hxs := HR.out x (List.mem_of_getElem? hx)
      obtain ⟨b, o, rfl, hc⟩ := HB.out.2 (by rw [HN.out]; omega)
      have c0 := hc j (by rw [HN.out]; omega)
      rw [show ys.getD j 0 = x by simp [List.getD, hx]] at c0
      obtain ⟨L1, hL1⟩ : ∃ L, L = leN (ys.drop (j + 1)) := ⟨_, rfl⟩
      obtain ⟨L0, hL0⟩ : ∃ L, L = leN (ys.drop j) := ⟨_, rfl⟩
      rw [← hL1] at hst hb1 ⊢
      rw [← hL0] at hst hb0
      have hm : (L1 * 256) % 18446744073709551616 = L1 * 256 := by omega
      have hm2 : IntKind.u64.wrap (L1 * 256) = L1 * 256 := by rw [IntKind.wrap_u64]; exact hm
      have ha : (L1 * 256 + x) % 18446744073709551616 = L0 := by omega
      have ha2 : IntKind.u64.wrap (L1 * 256 + x) = L0 := by rw [IntKind.wrap_u64]; exact ha
      have i0 : ((j + 1 : Nat) : Int) - 1 = (j : Int) := by omega
      have hjn : (j : Int) < (n : Int) := by omega
      have E0 := Lib.hid hL0
      rw [i0]
      clear hc hx hst hL1 hL0 HB
      go_wp2
      refine ⟨⟨j, by omega, rfl, by rw [E0.out], trivial⟩, by simp [intOf]⟩
    · have hk0 : k = 0 := by omega
      subst hk0
      go_wp2
      go_ret
      exact ⟨by rw [List.drop_zero]; rfl, rfl⟩

set_option maxRecDepth 20000 in
theorem least_any (cm : Int) : Calls Tryz.prog 47 #[.int .u32 cm] w fun e w' => e = .returned (.int .i64 (leastN cm)) ∧ w = w' := by
  by_cases h : cm = 25 ∨ cm = 34 ∨ cm = 2147483682 ∨ cm = 2 ∨ cm = 12 ∨ cm = 13 ∨ cm = 2147483672 ∨ cm = 2147483679 ∨ cm = 2147483683 ∨ cm = 2147483688 ∨ cm = 2147483699 ∨ cm = 2147483700
  · rcases h with rfl | rfl | rfl | rfl | rfl | rfl | rfl | rfl | rfl | rfl | rfl | rfl
    all_goals
      go_enter Tryz.func47, Tryz.ntmps47
      go_wp2
      go_ret
      exact ⟨rfl, rfl⟩
  · simp only [not_or] at h
    obtain ⟨n1, n2, n3, n4, n5, n6, n7, n8, n9, n10, n11, n12⟩ := h
    have L0 := Lib.hid (show leastN cm = 0 by unfold leastN; simp [n1, n2, n3, n4, n5, n6, n7, n8, n9, n10, n11, n12])
    have b1 : (cm == 25) = false := by simpa using n1
    have b2 : (cm == 34) = false := by simpa using n2
    have b3 : (cm == 2147483682) = false := by simpa using n3
    have b4 : (cm == 2) = false := by simpa using n4
    have b5 : (cm == 12) = false := by simpa using n5
    have b6 : (cm == 13) = false := by simpa using n6
    have b7 : (cm == 2147483672) = false := by simpa using n7
    have b8 : (cm == 2147483679) = false := by simpa using n8
    have b9 : (cm == 2147483683) = false := by simpa using n9
    have b10 : (cm == 2147483688) = false := by simpa using n10
    have b11 : (cm == 2147483699) = false := by simpa using n11
    have b12 : (cm == 2147483700) = false := by simpa using n12
    rw [L0.out]
    clear n1 n2 n3 n4 n5 n6 n7 n8 n9 n10 n11 n12
    go_enter Tryz.func47, Tryz.ntmps47
    go_wp2
    go_ret
    exact ⟨rfl, rfl⟩
theorem dep_any (cm : Int) : Calls Tryz.prog 49 #[.int .u32 cm] w fun e w' => e = .returned (.int .i64 (depKind cm)) ∧ w = w' := by
  by_cases h : cm = 12 ∨ cm = 2147483672 ∨ cm = 2147483679 ∨ cm = 2147483683
  · rcases h with rfl | rfl | rfl | rfl
    all_goals
      go_enter Tryz.func49, Tryz.ntmps49
      go_wp2
      go_ret
      exact ⟨rfl, rfl⟩
  · simp only [not_or] at h
    obtain ⟨n1, n2, n3, n4⟩ := h
    have L0 := Lib.hid (show depKind cm = 0 by unfold depKind; simp [n1, n2, n3, n4])
    have b1 : (cm == 12) = false := by simpa using n1
    have b2 : (cm == 2147483672) = false := by simpa using n2
    have b3 : (cm == 2147483679) = false := by simpa using n3
    have b4 : (cm == 2147483683) = false := by simpa using n4
    rw [L0.out]
    clear n1 n2 n3 n4
    go_enter Tryz.func49, Tryz.ntmps49
    go_wp2
    go_ret
    exact ⟨rfl, rfl⟩

/-- A number at a place. -/
theorem numat_any (ys : List Int) {q : Option Addr} {c n : Nat} (h : IsBytes w q c ys) (hn : ys.length = n) (hc : n ≤ c) (hcm : c ≤ 9223372036854775807) (hr : Small ys) (p m : Nat) (hm : 0 < m ∧ m ≤ 8) (hp : p + m ≤ n) :
    Calls Tryz.prog 84 #[.slice q n c, .int .i64 p, .int .i64 m] w fun e w' => e = .returned (.int .u64 (numAt ys p m)) ∧ w = w' := by
  obtain ⟨b, o, rfl, hcell⟩ := h.2 (by omega)
  have hib : IsBytes w (some ⟨b, o + p, none⟩) (c - p) ((ys.drop p).take m) := IsBytes.mk_at fun i hi => by
    have hi' : i < m := by rw [List.length_take] at hi; omega
    rw [Nat.add_assoc, hcell (p + i) (by omega)]
    simp [List.getD, List.getElem?_drop, hi']
  have GT := Lib.hid (get5_any (w := w) ((ys.drop p).take m) hib (by rw [List.length_take, List.length_drop]; omega) hm.2 (fun x hx => hr x (List.mem_of_mem_drop (List.mem_of_mem_take hx))))
  have i1 : (p : Int) + (m : Int) ≤ (c : Int) := by omega
  have i2 : (p : Int) ≤ (p : Int) + (m : Int) := by omega
  have i3 : ¬ c = p := by omega
  have i5 : ((p : Int) + (m : Int)).toNat - p = m := by omega
  have i6 : IntKind.i64.wrap ((p : Int) + (m : Int)) = (p : Int) + (m : Int) := IntWalk.i64_in _ (by omega)
  have hm0 := hm.1
  clear h hcell hib hr hm
  go_enter Tryz.func84, Tryz.ntmps84
  go_wp2_with fail
  refine GT.out.mono ?_
  rintro e w1 ⟨rfl, rfl⟩
  go_wp2
  go_ret
  exact ⟨rfl, rfl⟩

set_option maxHeartbeats 1600000 in
theorem cmd5_any (ys : List Int) {q : Option Addr} {c n : Nat} (h : IsBytes w q c ys) (hn : ys.length = n) (hc : n ≤ c) (hcm : c ≤ 9223372036854775807) (hr : Small ys) (hs : ¬ shortB ys) :
    Calls Tryz.prog 46 #[.slice q n c] w fun e w' => e = .returned (.tuple #[.int .u32 (cmdAt ys), .int .i64 0]) ∧ w = w' := by
  have h8 : 8 ≤ n := by
    rcases Nat.lt_or_ge n 8 with h1 | h1
    · exact absurd (.inl (by omega)) hs
    · exact h1
  have hle : ¬ ((n : Int) < leastN (cmdAt ys)) := fun h => hs (.inr (by rw [hn]; exact h))
  have AT := Lib.hid (numat_any (w := w) ys h hn hc hcm hr 0 4 ⟨by decide, by decide⟩ (by omega))
  have hcb := numAt_lt hr 0
  obtain ⟨cm, hcm'⟩ : ∃ z, z = cmdAt ys := ⟨_, rfl⟩
  have e1 : numAt ys 0 4 = cm := hcm'.symm
  rw [← hcm'] at hle ⊢
  rw [e1] at AT hcb
  have LS := Lib.hid (fun w : World => least_any (w := w) cm)
  obtain ⟨L, hL⟩ : ∃ L, L = leastN cm := ⟨_, rfl⟩
  rw [← hL] at hle LS
  have d1 : decide ((n : Int) < 8) = false := by simp; omega
  have d2 : decide ((n : Int) < L) = false := by simpa using hle
  clear h hr hs hL hle hcm' e1 hn
  go_enter Tryz.func46, Tryz.ntmps46
  go_wp2_with fail
  refine AT.out.mono ?_
  rintro e w1 ⟨rfl, rfl⟩
  go_wp2_with fail
  refine (LS.out _).mono ?_
  rintro e w2 ⟨rfl, rfl⟩
  go_wp2
  go_ret2
  exact ⟨rfl, rfl⟩

theorem pre_step {L : List Int} {k : Nat} {x : Int} (h : L[k]? = some x) (hx : x ≠ 0) : pre (L.drop k) = x :: pre (L.drop (k + 1)) := by
  rw [List.drop_eq_getElem?_toList_append, h]
  show (if x = 0 then [] else x :: pre (L.drop (k + 1))) = _
  rw [if_neg hx]
theorem pre_stop {L : List Int} {k : Nat} (h : L[k]? = some 0) : pre (L.drop k) = [] := by
  rw [List.drop_eq_getElem?_toList_append, h]
  rfl
theorem pre_inv_step {L : List Int} {k : Nat} {x : Int} (hi : pre L = L.take k ++ pre (L.drop k)) (h : L[k]? = some x) (hx : x ≠ 0) : pre L = L.take (k + 1) ++ pre (L.drop (k + 1)) := by
  rw [hi, pre_step h hx, List.take_add_one, h]
  simp
theorem pre_inv_stop {L : List Int} {k : Nat} (hi : pre L = L.take k ++ pre (L.drop k)) (h : L[k]? = some 0) : pre L = L.take k := by
  rw [hi, pre_stop h, List.append_nil]

set_option maxRecDepth 20000 in
theorem field5_any (ys : List Int) {q : Option Addr} {c n : Nat} (h : IsBytes w q c ys) (hn : ys.length = n) (hc : n ≤ c) (hcm : c ≤ 9223372036854775807) (_hr : Small ys) (p : Nat) (hp : p + 16 ≤ n) :
    Calls Tryz.prog 112 #[.slice q n c, .int .i64 p] w fun e w' => e = .returned (.string (strOfNums (fieldAt ys p))) ∧ w = w' := by
  obtain ⟨b, o, rfl, hcell⟩ := h.2 (by omega)
  obtain ⟨L, hL⟩ : ∃ L, L = (ys.drop p).take 16 := ⟨_, rfl⟩
  have hLl : L.length = 16 := by rw [hL, List.length_take, List.length_drop]; omega
  have HC := Lib.hid (fun (k : Nat) (x : Int) (hk : L[k]? = some x) => (show w.cell? ⟨b, o + (p + k), none⟩ = some (.int .u8 x) from by
    have hk16 : k < 16 := by
      rcases Nat.lt_or_ge k 16 with h1 | h1
      · exact h1
      · rw [List.getElem?_eq_none (by omega)] at hk; cases hk
    rw [hcell (p + k) (by omega)]
    rw [hL, List.getElem?_take, if_pos hk16, List.getElem?_drop] at hk
    simp [List.getD, hk]))
  have FA := Lib.hid (show fieldAt ys p = pre L by rw [hL]; rfl)
  have IB := Lib.hid (show IsBytes w (some ⟨b, o + p, none⟩) (c - p) L from IsBytes.mk_at fun i hi => by
    have hi' : i < 16 := by omega
    rw [Nat.add_assoc, hcell (p + i) (by omega), hL]
    simp [List.getD, List.getElem?_drop, hi'])
  have HL := Lib.hid hLl
  have i3 : ¬ c = p := by omega
  have hpc : (p : Int) + 16 ≤ (c : Int) := by omega
  rw [FA.out]
  clear h hcell hL hLl
  go_enter Tryz.func112, Tryz.ntmps112
  go_wp2
  go_loopw [5] (fun i wr => ∃ k : Nat, k ≤ 16 ∧ i = .int .i64 k ∧ wr = w ∧ pre L = L.take k ++ pre (L.drop k)) (fun i _ => 16 - (intOf i).toNat)
  case atStart => exact ⟨0, by omega, rfl, rfl, by simp⟩
  case round =>
    obtain ⟨k, hk, rfl, rfl, hi⟩ := hrel
    have HI := Lib.hid hi
    have j1 : (p : Int) + (k : Int) ≤ (c : Int) := by omega
    have j2 : (p : Int) ≤ (p : Int) + (k : Int) := by omega
    have j3 : ((p : Int) + (k : Int)).toNat - p = k := by omega
    have j4 : IntKind.i64.wrap ((p : Int) + (k : Int)) = (p : Int) + (k : Int) := IntWalk.i64_in _ (by omega)
    have j5 : ((p : Int) + (k : Int)).toNat = p + k := by omega
    have cv := (IB.out.take (c' := c - p) k (fun h => by cases h)).text (n := k) (by rw [List.length_take, HL.out]; omega)
    clear hi
    by_cases hlt : k < 16
    · obtain ⟨x, hx⟩ : ∃ x, L[k]? = some x := ⟨_, List.getElem?_eq_getElem (by rw [HL.out]; exact hlt)⟩
      have c0 := HC.out k x hx
      have HX := Lib.hid hx
      have j6 : (p : Int) + (k : Int) < (n : Int) := by omega
      have d1 : decide ((k : Int) < 16) = true := by simp; omega
      clear hx
      by_cases hx0 : x = 0
      · subst hx0
        have PE := Lib.hid (pre_inv_stop HI.out HX.out)
        rw [← PE.out] at cv
        go_wp2
        go_ret
        exact ⟨rfl, rfl⟩
      · have hx1 : (x != 0) = true := by simpa using hx0
        have PE := Lib.hid (pre_inv_step HI.out HX.out hx0)
        clear hx0 cv
        go_wp2
        refine ⟨⟨k + 1, by omega, by go_num, trivial, PE.out⟩, by simp [intOf]; omega⟩
    · have hk16 : k = 16 := by omega
      subst hk16
      have PE := Lib.hid (show pre L = L.take 16 by rw [HI.out, List.drop_of_length_le (by rw [HL.out]; exact Nat.le_refl _)]; simp [pre])
      rw [← PE.out] at cv
      go_wp2
      go_ret
      exact ⟨rfl, rfl⟩
end Go.Proofs.YtemdbfgpimfkdaaGreat

/- The document's segment of a command that is one. No condition but that it has at most 2^47 bytes. -/
namespace Go.Proofs.YtemdbfgpimfkdaaGreat
open Go.RowKit
variable {w w' : World}

theorem seg_facts {ys : List Int} (h : segErr ys = 0) : ¬ shortB ys ∧ cmdAt ys = 25 ∧ manyAt ys ≤ (ys.length - 72) / 80 ∧ numAt ys 60 4 ≤ 7 ∧ oddSec ys (manyAt ys) = false ∧ manyAt ys ≤ 64 := by
  unfold segErr at h
  split at h; cases h
  rename_i h1
  split at h; cases h
  rename_i h2
  split at h; cases h
  rename_i h3
  split at h; cases h
  rename_i h4
  split at h; cases h
  rename_i h5
  split at h; cases h
  rename_i h6
  exact ⟨h1, Classical.byContradiction h2, by omega, by omega, by simpa using h5, by omega⟩
theorem sub_num (ys : List Int) (a p m : Nat) (h : p + m ≤ 80) : numAt ((ys.drop a).take 80) p m = numAt ys (a + p) m := by
  unfold numAt
  rw [List.drop_take, List.drop_drop, List.take_take, Nat.min_eq_left (by omega)]
theorem sub_field (ys : List Int) (a p : Nat) (h : p + 16 ≤ 80) : fieldAt ((ys.drop a).take 80) p = fieldAt ys (a + p) := by
  unfold fieldAt
  rw [List.drop_take, List.drop_drop, List.take_take, Nat.min_eq_left (by omega)]
theorem odd_each {b : List Int} {M k : Nat} (h : oddSec b M = false) (hk : k < M) : (secAt b (72 + 80 * k)).seg = fieldAt b 8 := by
  unfold oddSec at h
  rw [List.any_eq_false] at h
  have := h _ (List.mem_map.2 ⟨k, List.mem_range.2 hk, rfl⟩)
  simpa using this

set_option maxHeartbeats 6400000 in
set_option maxRecDepth 20000 in
theorem refSegment_any (ys : List Int) {q : Option Addr} {c n : Nat} (h : IsBytes w q c ys) (hn : ys.length = n) (hc : n ≤ c) (hcm : c ≤ 9223372036854775807) (hn47 : n ≤ 140737488355328) (hr : Small ys) (he : segErr ys = 0) :
    Calls Tryz.prog 85 #[.slice q n c] w fun e w' => ∃ q1 N c1 base, N = (segOf ys).secs.length ∧ e = .returned (.tuple #[segV (segOf ys) (.slice q1 N c1), .int .i64 0]) ∧
      w'.ownsRow base 88 6 (.slice q1 N c1) N ((segOf ys).secs.flatMap secCs) ∧ w.heap.size ≤ base ∧ w.grownBy w' none := by
  obtain ⟨hs, hcmd, hmany, hprot, hodd, h64⟩ := seg_facts he
  have h72 : 72 ≤ n := by
    have h1 : ¬ ((ys.length : Int) < leastN (cmdAt ys)) := fun h => hs (.inr h)
    rw [hcmd, show leastN 25 = 72 by decide] at h1
    omega
  obtain ⟨b, o, hq, hcell⟩ := h.2 (by omega)
  have HC := Lib.hid hcell
  have QE := Lib.hid hq
  have CD := Lib.hid (fun (w1 : World) (hg : w.grownBy w1 none) => cmd5_any (w := w1) ys (h.kept hg (by simp)) hn hc hcm hr hs)
  rw [hcmd] at CD
  have AT := Lib.hid (fun (w1 : World) (hg : w.grownBy w1 none) (p m : Nat) (hm : 0 < m ∧ m ≤ 8) (hp : p + m ≤ n) => numat_any (w := w1) ys (h.kept hg (by simp)) hn hc hcm hr p m hm hp)
  have FD := Lib.hid (fun (w1 : World) (hg : w.grownBy w1 none) (p : Nat) (hp : p + 16 ≤ n) => field5_any (w := w1) ys (h.kept hg (by simp)) hn hc hcm hr p hp)
  have HB := Lib.hid h
  have HR := Lib.hid hr
  have HN := Lib.hid hn
  have OD := Lib.hid hodd
  obtain ⟨⟨nm, ad, sz, of, fs, pr, sl⟩, hseg⟩ : ∃ s, s = segOf ys := ⟨_, rfl⟩
  have SE := Lib.hid hseg
  have epr : numAt ys 60 4 = pr := (congrArg Seg.prot SE.out).symm
  have hpb := numAt_lt hr 60
  have hmb := numAt_lt hr 64
  rw [epr] at hpb hprot
  obtain ⟨M, hM⟩ : ∃ M, M = manyAt ys := ⟨_, rfl⟩
  have hMi : numAt ys 64 4 = M := by rw [hM]; unfold manyAt; omega
  have ME := Lib.hid hM
  rw [← hM, hn] at hmany
  rw [← hM] at h64
  have NM := Lib.hid (show fieldAt ys 8 = nm from (congrArg Seg.name SE.out).symm)
  have F1 := Lib.hid (fun w1 hg => (by have := FD.out w1 hg 8 (by omega); rw [NM.out] at this; exact this : Calls Tryz.prog 112 #[.slice q n c, .int .i64 8] w1 fun e w' => e = .returned (.string (strOfNums nm)) ∧ w1 = w'))
  have A1 := Lib.hid (fun w1 hg => (by have := AT.out w1 hg 24 8 ⟨by decide, by decide⟩ (by omega); rw [show numAt ys 24 8 = ad from (congrArg Seg.addr SE.out).symm] at this; exact this : Calls Tryz.prog 84 #[.slice q n c, .int .i64 24, .int .i64 8] w1 fun e w' => e = .returned (.int .u64 ad) ∧ w1 = w'))
  have A2 := Lib.hid (fun w1 hg => (by have := AT.out w1 hg 32 8 ⟨by decide, by decide⟩ (by omega); rw [show numAt ys 32 8 = sz from (congrArg Seg.size SE.out).symm] at this; exact this : Calls Tryz.prog 84 #[.slice q n c, .int .i64 32, .int .i64 8] w1 fun e w' => e = .returned (.int .u64 sz) ∧ w1 = w'))
  have A3 := Lib.hid (fun w1 hg => (by have := AT.out w1 hg 40 8 ⟨by decide, by decide⟩ (by omega); rw [show numAt ys 40 8 = of from (congrArg Seg.off SE.out).symm] at this; exact this : Calls Tryz.prog 84 #[.slice q n c, .int .i64 40, .int .i64 8] w1 fun e w' => e = .returned (.int .u64 of) ∧ w1 = w'))
  have A4 := Lib.hid (fun w1 hg => (by have := AT.out w1 hg 48 8 ⟨by decide, by decide⟩ (by omega); rw [show numAt ys 48 8 = fs from (congrArg Seg.fsize SE.out).symm] at this; exact this : Calls Tryz.prog 84 #[.slice q n c, .int .i64 48, .int .i64 8] w1 fun e w' => e = .returned (.int .u64 fs) ∧ w1 = w'))
  have A5 := Lib.hid (fun w1 hg => (by have := AT.out w1 hg 60 4 ⟨by decide, by decide⟩ (by omega); rw [epr] at this; exact this : Calls Tryz.prog 84 #[.slice q n c, .int .i64 60, .int .i64 4] w1 fun e w' => e = .returned (.int .u64 pr) ∧ w1 = w'))
  have A6 := Lib.hid (fun w1 hg => (by have := AT.out w1 hg 64 4 ⟨by decide, by decide⟩ (by omega); rw [hMi] at this; exact this : Calls Tryz.prog 84 #[.slice q n c, .int .i64 64, .int .i64 4] w1 fun e w' => e = .returned (.int .u64 M) ∧ w1 = w'))
  have g0 := grown1 w (.cells #[.string ⟨#[]⟩, .int .u64 0, .int .u64 0, .int .u64 0, .int .u64 0, .int .i64 0, .slice none 0 0] 42)
  have G := Lib.hid g0
  have Z0 := Lib.hid (show SegAt (w.alloc (.cells #[.string ⟨#[]⟩, .int .u64 0, .int .u64 0, .int .u64 0, .int .u64 0, .int .i64 0, .slice none 0 0] 42)) w.heap.size Seg.zero (.slice none 0 0) from heap_alloc_new w _)
  have hprw : IntKind.i64.wrap pr = pr := IntWalk.i64_in _ (by omega)
  have m1 : ((n : Int) - 72) % 18446744073709551616 = (n : Int) - 72 := by omega
  have m2 : IntKind.u64.wrap ((n : Int) - 72) = (n : Int) - 72 := by rw [IntKind.wrap_u64]; exact m1
  obtain ⟨R, hR⟩ : ∃ R, R = (n - 72) / 80 := ⟨_, rfl⟩
  have m3 : ((n : Int) - 72) / 80 = (R : Int) := by omega
  have m4 : ((n : Int) - 72).tdiv 80 = (R : Int) := by rw [Int.tdiv_eq_ediv_of_nonneg (by omega)]; omega
  have d1 : decide (R < M) = false := by simp; omega
  have d2 : decide (7 < pr) = false := by simp; omega
  have d3 : decide (64 < M) = false := by simp; omega
  have hRn : 72 + 80 * M ≤ n := by omega
  have mw : IntKind.i64.wrap (M : Int) = (M : Int) := IntWalk.i64_in _ (by omega)
  clear h hr hn hcell hq hs hcmd hmany hodd he hseg hM hMi g0 hmb hR AT FD
  go_enter Tryz.func85, Tryz.ntmps85
  go_upto_region 7 with (first
    | (go_at_call 46; refine (CD.out _ G.out).mono ?_; rintro e w3 ⟨rfl, rfl⟩)
    | (go_at_call 112; refine (F1.out _ G.out).mono ?_; rintro e w3 ⟨rfl, rfl⟩)
    | (go_at_call 84; (first | with_reducible refine (A1.out _ G.out).mono ?_ | with_reducible refine (A2.out _ G.out).mono ?_ | with_reducible refine (A3.out _ G.out).mono ?_ | with_reducible refine (A4.out _ G.out).mono ?_ | with_reducible refine (A5.out _ G.out).mono ?_); rintro e w3 ⟨rfl, rfl⟩))
  have g7 := grown1 (w.alloc (.cells #[.string ⟨#[]⟩, .int .u64 0, .int .u64 0, .int .u64 0, .int .u64 0, .int .i64 0, .slice none 0 0] 42)) (.cells #[.string (strOfNums nm), .int .u64 ad, .int .u64 sz, .int .u64 of, .int .u64 fs, .int .i64 pr, .slice none 0 0] 42)
  have G2 := Lib.hid (grown_trans G.out g7)
  have ZA := Lib.hid (Z0.out.kept g7 (by simp))
  have SA := Lib.hid (show SegAt ((w.alloc (.cells #[.string ⟨#[]⟩, .int .u64 0, .int .u64 0, .int .u64 0, .int .u64 0, .int .i64 0, .slice none 0 0] 42)).alloc (.cells #[.string (strOfNums nm), .int .u64 ad, .int .u64 sz, .int .u64 of, .int .u64 fs, .int .i64 pr, .slice none 0 0] 42)) (w.heap.size + 1) ⟨nm, ad, sz, of, fs, pr, []⟩ (.slice none 0 0) from by have := heap_alloc_new (w.alloc (.cells #[.string ⟨#[]⟩, .int .u64 0, .int .u64 0, .int .u64 0, .int .u64 0, .int .i64 0, .slice none 0 0] 42)) (.cells #[.string (strOfNums nm), .int .u64 ad, .int .u64 sz, .int .u64 of, .int .u64 fs, .int .i64 pr, .slice none 0 0] 42); rw [World.size_alloc] at this; exact this)
  obtain ⟨wy, hwy⟩ : ∃ wy, (w.alloc (.cells #[.string ⟨#[]⟩, .int .u64 0, .int .u64 0, .int .u64 0, .int .u64 0, .int .i64 0, .slice none 0 0] 42)).alloc (.cells #[.string (strOfNums nm), .int .u64 ad, .int .u64 sz, .int .u64 of, .int .u64 fs, .int .i64 pr, .slice none 0 0] 42) = wy := ⟨_, rfl⟩
  have WS := Lib.hid (show wy.heap.size = w.heap.size + 2 by rw [← hwy, World.size_alloc, World.size_alloc])
  rw [hwy] at G2 SA ZA ⊢
  clear hwy g7 G Z0 F1 A1 A2 A3 A4 CD
  go_upto_region 11 with (go_at_call 84; (first | with_reducible refine (A5.out _ G2.out).mono ?_ | with_reducible refine (A6.out _ G2.out).mono ?_); rintro e w3 ⟨rfl, rfl⟩)
  clear A5 A6
  go_wp2
  go_loopw [8, 9, 10, 11] (fun bd i _ _ wr => ∃ (k : Nat) (q' : Option Addr) (c' : Nat), k ≤ M ∧ bd = .bool false ∧ i = .int .i64 k ∧ SegAt wr (w.heap.size + 1) ⟨nm, ad, sz, of, fs, pr, []⟩ (.slice q' k c') ∧ SegAt wr w.heap.size Seg.zero (.slice none 0 0) ∧ wr.ownsRow (w.heap.size + 2) 88 6 (.slice q' k c') k ((secsN ys k).flatMap secCs) ∧ w.grownBy wr none ∧ w.heap.size + 2 ≤ wr.heap.size) (fun _ i _ _ _ => M - (intOf i).toNat)
  case atStart => exact ⟨0, none, 0, Nat.zero_le _, rfl, rfl, SA.out, ZA.out, World.ownsRow_nil _ _ _ _, G2.out, by rw [WS.out]; exact Nat.le_refl _⟩
  case round =>
    obtain ⟨k, q', c', hk, rfl, rfl, hsa, hza, hown, hgr, hBs⟩ := hrel
    have SA' := Lib.hid hsa
    have ZA' := Lib.hid hza
    have G := Lib.hid hgr
    have OW := Lib.hid hown
    clear hsa hza hgr hown SA ZA
    have SA := SA'
    have ZA := ZA'
    clear SA' ZA'
    by_cases hlt : k < M
    · obtain ⟨A, hA⟩ : ∃ A, A = 72 + 80 * k := ⟨_, rfl⟩
      obtain ⟨B, hB⟩ : ∃ B, B = 80 * k := ⟨_, rfl⟩
      obtain ⟨D, hD⟩ : ∃ D, D = A + 80 := ⟨_, rfl⟩
      have hAn : A + 80 ≤ n := by omega
      have a1 : (80 : Int) * (k : Int) = (B : Int) := by omega
      have a2 : (72 : Int) + (B : Int) = (A : Int) := by omega
      have a3 : (152 : Int) + (B : Int) = (D : Int) := by omega
      have a4 : IntKind.i64.wrap (B : Int) = (B : Int) := IntWalk.i64_in _ (by omega)
      have a5 : IntKind.i64.wrap (A : Int) = (A : Int) := IntWalk.i64_in _ (by omega)
      have a6 : IntKind.i64.wrap (D : Int) = (D : Int) := IntWalk.i64_in _ (by omega)
      have i1 : (D : Int) ≤ (c : Int) := by omega
      have i2 : (A : Int) ≤ (D : Int) := by omega
      have i3 : ¬ c = A := by omega
      have i4 : D - A = 80 := by omega
      have HA := Lib.hid hA
      have HB := Lib.hid hB
      have HD := Lib.hid hD
      clear hA hB hD
      have hq := QE.out
      subst hq
      obtain ⟨⟨sn, ss, sa, sb, so, sk⟩, hX⟩ : ∃ s, s = secAt ys A := ⟨_, rfl⟩
      have XE := Lib.hid hX
      have hsub : IsBytes w (some ⟨b, o + A, none⟩) (c - A) ((ys.drop A).take 80) := IsBytes.mk_at fun i hi => by
        have hi' : i < 80 := by rw [List.length_take] at hi; omega
        rw [Nat.add_assoc, HC.out (A + i) (by have := HN.out; omega)]
        simp [List.getD, List.getElem?_drop, hi']
      have hsl : ((ys.drop A).take 80).length = 80 := by have := HN.out; rw [List.length_take, List.length_drop]; omega
      have hsr : Small ((ys.drop A).take 80) := fun x hx => HR.out x (List.mem_of_mem_drop (List.mem_of_mem_take hx))
      have B1 := Lib.hid (fun w1 (hg : w.grownBy w1 none) => (by have := field5_any (w := w1) _ (hsub.kept hg (by simp)) hsl (show 80 ≤ c - A by omega) (by omega) hsr 0 (by decide); rw [sub_field ys A 0 (by decide), Nat.add_zero, show fieldAt ys A = sn from (congrArg Sec.name XE.out).symm] at this; exact this : Calls Tryz.prog 112 #[.slice (some ⟨b, o + A, none⟩) 80 (c - A), .int .i64 0] w1 fun e w' => e = .returned (.string (strOfNums sn)) ∧ w1 = w'))
      have B2 := Lib.hid (fun w1 (hg : w.grownBy w1 none) => (by have := field5_any (w := w1) _ (hsub.kept hg (by simp)) hsl (show 80 ≤ c - A by omega) (by omega) hsr 16 (by decide); rw [sub_field ys A 16 (by decide), show fieldAt ys (A + 16) = ss from (congrArg Sec.seg XE.out).symm] at this; exact this : Calls Tryz.prog 112 #[.slice (some ⟨b, o + A, none⟩) 80 (c - A), .int .i64 16] w1 fun e w' => e = .returned (.string (strOfNums ss)) ∧ w1 = w'))
      have B3 := Lib.hid (fun w1 (hg : w.grownBy w1 none) => (by have := numat_any (w := w1) _ (hsub.kept hg (by simp)) hsl (show 80 ≤ c - A by omega) (by omega) hsr 32 8 ⟨by decide, by decide⟩ (by decide); rw [sub_num ys A 32 8 (by decide), show numAt ys (A + 32) 8 = sa from (congrArg Sec.addr XE.out).symm] at this; exact this : Calls Tryz.prog 84 #[.slice (some ⟨b, o + A, none⟩) 80 (c - A), .int .i64 32, .int .i64 8] w1 fun e w' => e = .returned (.int .u64 sa) ∧ w1 = w'))
      have B4 := Lib.hid (fun w1 (hg : w.grownBy w1 none) => (by have := numat_any (w := w1) _ (hsub.kept hg (by simp)) hsl (show 80 ≤ c - A by omega) (by omega) hsr 40 8 ⟨by decide, by decide⟩ (by decide); rw [sub_num ys A 40 8 (by decide), show numAt ys (A + 40) 8 = sb from (congrArg Sec.size XE.out).symm] at this; exact this : Calls Tryz.prog 84 #[.slice (some ⟨b, o + A, none⟩) 80 (c - A), .int .i64 40, .int .i64 8] w1 fun e w' => e = .returned (.int .u64 sb) ∧ w1 = w'))
      have B5 := Lib.hid (fun w1 (hg : w.grownBy w1 none) => (by have := numat_any (w := w1) _ (hsub.kept hg (by simp)) hsl (show 80 ≤ c - A by omega) (by omega) hsr 48 4 ⟨by decide, by decide⟩ (by decide); rw [sub_num ys A 48 4 (by decide), show numAt ys (A + 48) 4 = so from (congrArg Sec.off XE.out).symm] at this; exact this : Calls Tryz.prog 84 #[.slice (some ⟨b, o + A, none⟩) 80 (c - A), .int .i64 48, .int .i64 4] w1 fun e w' => e = .returned (.int .u64 so) ∧ w1 = w'))
      have hAl : A + 64 < ys.length := by have := HN.out; omega
      have hsk : numAt ys (A + 64) 1 = ys.getD (A + 64) 0 := by
        unfold numAt
        have h1 : (ys.drop (A + 64)).take 1 = [ys[A + 64]] := by rw [List.drop_eq_getElem_cons hAl]; rfl
        rw [h1]
        simp [List.getD, hAl, leN]
      have hkb : w.cell? ⟨b, o + (A + 64), none⟩ = some (.int .u8 sk) := by
        rw [HC.out (A + 64) hAl, ← hsk, show numAt ys (A + 64) 1 = sk from (congrArg Sec.kind XE.out).symm]
      have hsk8 : 0 ≤ sk ∧ sk < 256 := by
        rw [show sk = numAt ys (A + 64) 1 from congrArg Sec.kind XE.out, hsk]
        have := HR.out (ys.getD (A + 64) 0) (by rw [List.getD_eq_getElem?_getD, List.getElem?_eq_getElem hAl]; exact List.getElem_mem hAl)
        exact this
      have skw : IntKind.i64.wrap sk = sk := IntWalk.i64_in _ (by omega)
      have hk0 : wr.cell? ⟨b, o + A + 64, none⟩ = some (.int .u8 sk) := by rw [Nat.add_assoc]; exact G.out.cell hkb (by simp)
      have GD := Lib.hid (show w.grownBy wr.drew none from grown_drewN G.out 1)
      have hk1 : wr.drew.cell? ⟨b, o + A + 64, none⟩ = some (.int .u8 sk) := hk0
      have ga := grown_drewN (grown1 wr (.cells #[.string ⟨#[]⟩, .string ⟨#[]⟩, .int .u64 0, .int .u64 0, .int .u64 0, .int .i64 0] 88)) 1
      have GA := Lib.hid (show w.grownBy (wr.alloc (.cells #[.string ⟨#[]⟩, .string ⟨#[]⟩, .int .u64 0, .int .u64 0, .int .u64 0, .int .i64 0] 88)).drew none from grown_trans G.out ga)
      have hk2 : (wr.alloc (.cells #[.string ⟨#[]⟩, .string ⟨#[]⟩, .int .u64 0, .int .u64 0, .int .u64 0, .int .i64 0] 88)).drew.cell? ⟨b, o + A + 64, none⟩ = some (.int .u8 sk) := grown_cell ga hk0
      have gx := grown_drewN (grown1 wr (.cells #[.string (strOfNums sn), .string (strOfNums ss), .int .u64 sa, .int .u64 sb, .int .u64 so, .int .i64 sk] 88)) 1
      have hk3 : (wr.alloc (.cells #[.string (strOfNums sn), .string (strOfNums ss), .int .u64 sa, .int .u64 sb, .int .u64 so, .int .i64 sk] 88)).drew.cell? ⟨b, o + A + 64, none⟩ = some (.int .u8 sk) := grown_cell gx hk0
      clear ga gx
      clear hsub hsl hsr hAl hsk hkb hsk8 hX
      go_upto_region 15 with fail
      clear hk0
      go_region_held3 (fun X => X.cell? ⟨b, o + A + 64, none⟩ = some (.int .u8 sk))
        (first | exact hk1 | exact hk2 | exact hk3)
        (first
          | (go_at_call 112; (first | with_reducible refine (B1.out _ GD.out).mono ?_ | with_reducible refine (B1.out _ GA.out).mono ?_ | with_reducible refine (B2.out _ GD.out).mono ?_ | with_reducible refine (B2.out _ GA.out).mono ?_); rintro e w3 ⟨rfl, rfl⟩)
          | (go_at_call 84; (first | with_reducible refine (B3.out _ GD.out).mono ?_ | with_reducible refine (B3.out _ GA.out).mono ?_ | with_reducible refine (B4.out _ GD.out).mono ?_ | with_reducible refine (B4.out _ GA.out).mono ?_ | with_reducible refine (B5.out _ GD.out).mono ?_ | with_reducible refine (B5.out _ GA.out).mono ?_); rintro e w3 ⟨rfl, rfl⟩))
      all_goals
        clear hk1 hk2 hk3 B1 B2 B3 B4 B5 GD GA
        have g3 : wr.grownBy (wr.alloc (.cells #[.string (strOfNums sn), .string (strOfNums ss), .int .u64 sa, .int .u64 sb, .int .u64 so, .int .i64 sk] 88)).drew none := grown_drewN (grown1 wr (.cells #[.string (strOfNums sn), .string (strOfNums ss), .int .u64 sa, .int .u64 sb, .int .u64 so, .int .i64 sk] 88)) 1
        have SX := Lib.hid (show SecAt (wr.alloc (.cells #[.string (strOfNums sn), .string (strOfNums ss), .int .u64 sa, .int .u64 sb, .int .u64 so, .int .i64 sk] 88)).drew wr.heap.size ⟨sn, ss, sa, sb, so, sk⟩ from heap_alloc_new wr _)
        have SA' := Lib.hid (SA.out.kept g3 (by simp))
        have ZA' := Lib.hid (ZA.out.kept g3 (by simp))
        have G' := Lib.hid (grown_trans G.out g3)
        have OW' := Lib.hid (own_grown OW.out g3)
        have hB2 : w.heap.size + 2 ≤ (wr.alloc (.cells #[.string (strOfNums sn), .string (strOfNums ss), .int .u64 sa, .int .u64 sb, .int .u64 so, .int .i64 sk] 88)).drew.heap.size := by have := g3.size; omega
        obtain ⟨w3, hw3⟩ : ∃ w3, (wr.alloc (.cells #[.string (strOfNums sn), .string (strOfNums ss), .int .u64 sa, .int .u64 sb, .int .u64 so, .int .i64 sk] 88)).drew = w3 := ⟨_, rfl⟩
        obtain ⟨x, hx⟩ : ∃ x, wr.heap.size = x := ⟨_, rfl⟩
        rw [hw3] at SA' ZA' G' OW' SX hB2 ⊢
        rw [hx] at SX
        simp only [hx]
        clear hw3 hx g3 SA ZA G OW
        have SA := SA'
        have ZA := ZA'
        have G := G'
        have OW := OW'
        clear SA' ZA' G' OW'
        have hsn : ss = nm := by
          have h1 := odd_each OD.out (show k < manyAt ys by rw [← ME.out]; exact hlt)
          rw [← HA.out, ← XE.out, NM.out] at h1
          exact h1
        subst hsn
        obtain ⟨c0, c1, c2, c3, c4, c5⟩ := SX.out.c
        obtain ⟨s0, s1, s2, s3, s4, s5, s6⟩ := SA.out.c
        simp only [] at c0 c1 c2 c3 c4 c5 s0 s1 s2 s3 s4 s5
        have sf := SA.out.fz 6
        have sl' := SA.out.lt
        go_wp2_with (at_builtin; refine wp_append_st secType rfl _ _ rfl _ k _ rfl (own_grown OW.out (grown1 w3 (.cells #[.string (strOfNums sn), .string (strOfNums ss), .int .u64 sa, .int .u64 sb, .int .u64 so, .int .i64 sk] 88))) (secCs ⟨sn, ss, sa, sb, so, sk⟩) rfl w3.heap.size rfl (heap_alloc_new w3 _) (secCs_one _) (by omega) (by decide) ?_ ?_)
        · rw [World.size_alloc]; omega
        intro v' w4 ho hg4
        obtain ⟨q4, c4', rfl⟩ := own_slice ho
        have hlo := fun (g' : Nat) (e : (Value.slice q' k c').ownBlock = some g') => (OW.out.lt g' e).1
        have R4 := Lib.hid (show w4.ownsRow (w.heap.size + 2) 88 6 (.slice q4 (k + 1) c4') (k + 1) ((secsN ys (k + 1)).flatMap secCs) by
          rw [secsN_succ, List.flatMap_append, ← HA.out, ← XE.out]
          exact ho)
        have g3 := grown1 w3 (.cells #[.string (strOfNums sn), .string (strOfNums ss), .int .u64 sa, .int .u64 sb, .int .u64 so, .int .i64 sk] 88)
        have SA' := Lib.hid ((SA.out.kept g3 (by simp)).kept hg4 (fun e => by have := hlo _ e; omega))
        have ZA' := Lib.hid ((ZA.out.kept g3 (by simp)).kept hg4 (fun e => by have := hlo _ e; omega))
        have G' := Lib.hid (grown_own (grown_trans G.out g3) hg4 hlo (by omega))
        have hB4 : w.heap.size + 2 ≤ w4.heap.size := by have h1 := hg4.size; rw [World.size_alloc] at h1; omega
        clear g3 ho hg4 SX c0 c1 c2 c3 c4 c5 s0 s1 s2 s3 s4 s5 s6 sf sl' SA ZA G
        have s6 := SA'.out.c.2.2.2.2.2.2
        have sf := SA'.out.fz 6
        have sl' := SA'.out.lt
        go_wp2
        have gS := grown_setCell (i := 6) (grown_refl w4 (some (w.heap.size + 1))) (.slice q4 (k + 1) c4')
        have hno : some w.heap.size ≠ some (w.heap.size + 1) := by intro e; injection e with e; omega
        exact ⟨⟨k + 1, q4, c4', hlt, rfl, by go_num, SA'.out.secs _, ZA'.out.kept gS (fun e => hno e.symm), R4.out.kept gS (.inr (fun e => by have := (R4.out.lt _ e).1; omega)), grown_new G'.out gS (by omega), Nat.le_trans hB4 gS.size⟩, by simp [intOf]; omega⟩
    · have hkm : k = M := by omega
      subst hkm
      obtain ⟨s0, s1, s2, s3, s4, s5, s6⟩ := SA.out.c
      obtain ⟨d0, d1', d2', d3', d4, d5, d6⟩ := ZA.out.c
      have f0 := ZA.out.fz 0
      have f1 := ZA.out.fz 1
      have f2 := ZA.out.fz 2
      have f3 := ZA.out.fz 3
      have f4 := ZA.out.fz 4
      have f5 := ZA.out.fz 5
      have f6 := ZA.out.fz 6
      have hl := ZA.out.lt
      have hl2 := SA.out.lt
      simp only [] at s0 s1 s2 s3 s4 s5
      go_wp2
      have PA := ZA.out.put ⟨nm, ad, sz, of, fs, pr, []⟩ (.slice q' k c')
      have gP := grown_put7 (grown_refl wr (some w.heap.size)) (.string (strOfNums nm)) (.int .u64 ad) (.int .u64 sz) (.int .u64 of) (.int .u64 fs) (.int .i64 pr) (.slice q' k c')
      refine bodyPost_ret (results_seg rfl rfl rfl PA) rfl ?_
      refine ⟨q', k, c', w.heap.size + 2, ?_, ?_, ?_, by omega, grown_new G.out gP (Nat.le_refl _)⟩
      · show k = (secsN ys (manyAt ys)).length
        rw [← ME.out]; unfold secsN; simp
      · rw [← SE.out]; rfl
      · have := OW.out.kept gP (.inr (fun e => by have := (OW.out.lt _ e).1; omega))
        show World.ownsRow _ _ _ _ _ _ ((secsN ys (manyAt ys)).flatMap secCs)
        rw [← ME.out]
        exact this
end Go.Proofs.YtemdbfgpimfkdaaGreat
