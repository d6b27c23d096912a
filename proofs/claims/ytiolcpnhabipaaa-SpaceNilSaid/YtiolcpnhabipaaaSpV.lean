/- Bytes are written, if they may be: put. Conditions: they are bytes, that lie in none of the space's blocks. -/
import Derived.Test.YtiolcpnhabipaaaSpU
import Derived.OrdersIn
namespace Go.Proofs.Ytiolcpnhabipaaa
open Go.RowKit Go.Maps Go.ChangeMaps
attribute [local go_sem] Oper.semAt_some
variable {w w' W : World} {F : Nat → Prop} {σ : Spc}

/-- Bytes that lie where nothing of these is. -/
def Apart (w : World) (F : Nat → Prop) (q : Option Addr) (c : Nat) (ys : List Int) : Prop :=
  (q = none → c = 0) ∧ (0 < ys.length → ∃ b o, q = some ⟨b, o, none⟩ ∧ b < w.heap.size ∧ ¬ F b ∧ ∀ i, i < ys.length → w.cell? ⟨b, o + i, none⟩ = some (.int .u8 (ys.getD i 0)))
theorem cell_block {b : Nat} {o : Nat} (h : W.heap[b]? = w.heap[b]?) : W.cell? ⟨b, o, none⟩ = w.cell? ⟨b, o, none⟩ := by unfold World.cell?; rw [h]
theorem Apart.kept {G : Nat → Prop} {q : Option Addr} {c : Nat} {ys : List Int} (h : Apart w F q c ys) (hg : Chg G w w') (hG : ∀ k, k < w.heap.size → G k → F k) : Apart w' F q c ys :=
  ⟨h.1, fun h0 => by
    obtain ⟨b, o, e, hlt, hF, hc⟩ := h.2 h0
    exact ⟨b, o, e, Nat.lt_of_lt_of_le hlt hg.size, hF, fun i hi => (cell_block (hg.block b hlt (fun hg' => hF (hG b hlt hg')))).trans (hc i hi)⟩⟩
theorem Apart.foot {q : Option Addr} {c : Nat} {ys : List Int} (h : Apart w F q c ys) : Apart w (fun k => F k ∨ w.heap.size ≤ k) q c ys :=
  ⟨h.1, fun h0 => by
    obtain ⟨b, o, e, hlt, hF, hc⟩ := h.2 h0
    exact ⟨b, o, e, hlt, fun h => h.elim hF (fun h => by omega), hc⟩⟩

theorem stepIn_copy {Fe : Fence} {fu : Nat} {ops : Array Oper} {o : Oper} {a : Act} {K : Act → World → Prop} {Q : Exit → Act → World → Prop} {E : Prop} {w2 : World} (hgd : o.guard = none) (d s : Operand)
    (ho : o.op = .call { callee := .builtin .copy, args := #[d, s], argTypes := #[35, 35] }) (dv sv : Value) (hd : a.eval d = dv) (hs : a.eval s = sv) (m : Nat)
    (hrun : ∀ ty, (Builtin.copy_ #[35, 35] ty #[dv, sv]).run Try.prog w = .ok (goInt m) w2) (h : K (a.put o.dst (.int .i64 m)) w2) :
    if Region.wanted o (yielded ops a.tmps) = true then Oper.wpIn Fe fu Try.prog o a w K Q else E := by
  have hw : Region.wanted o (yielded ops a.tmps) = true := by simp [Region.wanted, hgd]
  rw [if_pos hw]
  unfold Oper.wpIn
  refine ⟨?_, ?_⟩
  · intro f hf
    simp [Oper.about, ho, resolve, Target.leads, Sem.run_pure] at hf
  · rw [Oper.semAt_plain Fe _ _ (by rw [ho]; intro c hc; cases hc)]
    simp [execOp, ho, resolve, invoke, builtin, hd, hs, hrun, Result.andThen]
    exact h
theorem info_u8_size : (Try.prog.info? 5).map (·.size) = some 1 := by kernel_rfl
/-- The copy of so many bytes into a page. -/
theorem copy_page {G o m c b oo N c' p : Nat} {ys : List Int} (hG : w.heap[G]? = some (.cells (pageArr σ.B p) 76 (0, 0))) (ho : o + m ≤ 4096) (hm : m ≤ N) (hl : ys.length = N) (hc : ∀ i, i < ys.length → w.cell? ⟨b, oo + i, none⟩ = some (.int .u8 (ys.getD i 0))) (ty : TypeId) :
    (Builtin.copy_ #[35, 35] ty #[.slice (some ⟨G, o, none⟩) m c, .slice (some ⟨b, oo, none⟩) N c']).run Try.prog w = .ok (goInt m) (w.setRow G (splice (pageArr σ.B p).toList o (u8s (ys.take m))).toArray) := by
  have hlen : (u8s (ys.take m)).length = m := by rw [u8s_len, List.length_take]; omega
  have h := run_copy_row (P := Try.prog) w 35 35 ty 5 G o m c ⟨b, oo, none⟩ N c' (pageArr σ.B p) 76 (u8s (ys.take m)) Try.underlying35 info_u8_size hG (by rw [hlen]; exact (Nat.min_eq_right hm).symm)
    (fun j v hv => by
      unfold u8s at hv
      rw [List.getElem?_map] at hv
      obtain ⟨z, hz, rfl⟩ := Option.map_eq_some_iff.1 hv
      obtain ⟨hj, hz⟩ := List.getElem?_eq_some_iff.1 hz
      rw [List.length_take] at hj
      rw [List.getElem_take] at hz
      rw [add_flat, hc j (by omega)]
      simp [List.getD, show j < ys.length by omega, hz])
    (by rw [hlen]; unfold pageArr; rw [pageVals_size]; exact ho) u8s_one
  rw [h, hlen]
  unfold splice
  rw [hlen, List.append_assoc]
theorem bytes_sl : Try.prog.underlying 35 = some (.slice (Try.prog.elem 35)) := by kernel_rfl
theorem bytes_elem (w : World) : (sizeOf (Try.prog.elem 35)).run Try.prog w = .ok 1 w := by kernel_rfl
/-- A slice from a place on. -/
theorem slice_from {b oo N c' m : Nat} (hm : m ≤ N) (X : World) : (Instr.sliceAt 35 (.slice (some ⟨b, oo, none⟩) N c') (some (.int .i64 (m : Int))) none none).run Try.prog X = .ok (.slice (if c' = m then some ⟨b, oo, none⟩ else some ⟨b, oo + m, none⟩) (N - m) (c' - m)) X := by
  rw [run_sliceAt_slice _ _ _ _ _ _ bytes_sl, run_slice_l X 35 _ N c' bytes_sl .i64 _ (by omega) (by omega), bytes_elem]
  show Result.ok (sliced _ _ _ _ _) X = _
  unfold sliced
  rw [Int.toNat_natCast]
  congr 2
  split
  · rfl
  · simp [add_flat]
theorem mayErr_there {a s : Nat} {p : Int} (h : mayErr σ a s p = 0) (hs : 0 < s) : a + s ≤ 140737488355328 ∧ thereB σ (a / 4096) (spanK a s) = true := by
  cases hb : belowB a s
  · rw [mayErr_far (by omega) hb] at h; cases h
  · cases ht : thereB σ (a / 4096) (spanK a s)
    · rw [mayErr_gap (by omega) hb ht] at h; cases h
    · exact ⟨belowB_iff.1 hb, rfl⟩

/-- What put's rounds may turn. -/
def PtG (F : Nat → Prop) (bb rc : Nat) (x : Nat) : Prop := F x ∨ x = bb ∨ x = rc
structure PtJ (F : Nat → Prop) (a bp bb rc : Nat) (W1 : World) (rv : Loop) (σ : Spc) (at' : Nat) (xs : List Int) (k : Nat) (W : World) : Prop where
  chg : Chg (PtG F bb rc) W1 W
  spc : SpcAt W F a (σ.put at' (xs.take k))
  same : W.heap[a]? = W1.heap[a]? ∧ W.heap[bp]? = W1.heap[bp]?
  box : ∃ q c, OneAt W bb (.slice q (xs.length - k) c) 35 ∧ xs.length - k ≤ c ∧ c ≤ 9223372036854775807 ∧ Apart W1 (PtG F bb rc) q c (xs.drop k)
  lp : W.heap[rc]? = some (.loop rv)
  dfr : W.heap[rc - 1]? = some (.deferred (some []))

set_option maxHeartbeats 1600000 in
set_option maxRecDepth 20000 in
theorem spput_any {a : Nat} (h : SpcAt w F a σ) (at' : Nat) (hat : at' < 18446744073709551616) (xs : List Int) (n : Nat) (hn : xs.length = n) (q : Option Addr) (c : Nat) (hc : n ≤ c) (hcm : c ≤ 9223372036854775807) (hxs : ∀ x ∈ xs, 0 ≤ x ∧ x < 256) (p : Int) (hb : Apart w F q c xs) (hF : ∀ k, F k → k < w.heap.size)
    (h0 : mayErr σ at' n p = 0) :
    Calls Try.prog 45 #[.pointer (some ⟨a, 0, none⟩), .int .u64 at', .slice q n c, .int .i64 p] w fun e w' => e = .returned (.int .i64 0) ∧ SpcAt w' F a (σ.put at' xs) ∧ Chg F w w' := by
  refine (callsIn_wide (n := 1)).1 (callsIn_of_wp_marks Try.func45 rfl trivial ((wpIn_wide).2 ?_))
  simp only [Try.ntmps45, List.size_toArray, List.length_cons, List.length_nil, Nat.reduceAdd, Nat.reduceSub, Array.replicate_succ, Array.replicate_zero, List.push_toArray, List.append_toArray, List.nil_append, List.cons_append]
  have hnm : n ≤ 9223372036854775807 := by omega
  obtain ⟨W2, hW2⟩ : ∃ W2, w.alloc (.cells #[.slice q n c] 35) = W2 := ⟨_, rfl⟩
  have hbx : OneAt W2 w.heap.size (.slice q n c) 35 := by rw [← hW2]; exact OneAt.new w _ _
  have g12 : w.grownBy W2 none := by rw [← hW2]; exact grown1 _ _
  have HS := h.kept (Chg.of_grown g12 (F := fun _ => False) (fun _ h => by cases h)) (fun _ _ h => h)
  have kb := hbx.c
  go_wp2_with fail
  refine (spmay_any HS at' n p).mono ?_
  rw [h0]
  rintro e w1 ⟨rfl, rfl⟩
  clear hW2
  go_wp2_with fail
  refine (parts_any (some ⟨a, 0, none⟩) at' n W2).mono ?_
  rintro e w3 ⟨rfl, hb1, hb2, hb3, hg3⟩
  have hlt1 : w.heap.size < W2.heap.size := hbx.lt
  have B1 := Lib.hid hb1
  have B2 := Lib.hid hb2
  have B3 := Lib.hid hb3
  have BX := Lib.hid (hbx.grown hg3)
  have G3 := Lib.hid (grown_trans g12 hg3)
  have hlt3 : W2.heap.size + 1 + 1 < w3.heap.size := hb3.lt
  have HB := Lib.hid hb
  have HN := Lib.hid hn
  have HX := Lib.hid hxs
  have H0 := Lib.hid h0
  have HSP := Lib.hid h
  have HFF := Lib.hid hF
  clear hb1 hb2 hb3 hg3 hbx g12 HS hb hn hxs h0 h hF kb
  go_wp2
  refine wp_rangeFunc_rec (gf := 59) (lb := #[.pointer (some ⟨W2.heap.size + 1, 0, none⟩), .pointer (some ⟨W2.heap.size + 1 + 1, 0, none⟩), .pointer (some ⟨W2.heap.size, 0, none⟩)]) rfl (enters_of Try.func59 (by kernel_rfl) rfl) ?_
  intro rec YR ER OR
  obtain ⟨W1, hW1⟩ : ∃ W1, (w3.alloc (.deferred (some []))).alloc (.loop (rec .ready none)) = W1 := ⟨_, rfl⟩
  have g31 : w3.grownBy W1 none := by rw [← hW1]; exact grown2 _ _ _
  have hlp : W1.heap[w3.heap.size + 1]? = some (.loop (rec .ready none)) := by
    rw [← hW1]; have := World.alloc_heap_new (w3.alloc (.deferred (some []))) (.loop (rec .ready none)); rwa [World.size_alloc] at this
  have hdf : W1.heap[w3.heap.size]? = some (.deferred (some [])) := by
    rw [← hW1]; exact (Below.heap_alloc _ _ _ (by simp)).trans (World.alloc_heap_new w3 _)
  have hW1s : w3.heap.size + 1 < W1.heap.size := (Array.getElem?_eq_some_iff.1 hlp).1
  rw [hW1]
  have gW1 := grown_trans G3.out g31
  have S1 : SpcAt W1 F a σ := HSP.out.kept (Chg.of_grown gW1 (F := fun _ => False) (fun _ h => by cases h)) (fun _ _ h => h)
  obtain ⟨mp, g, bp, fbp, hbp, nbp, nba, hlook⟩ := S1.look
  have hFlt : ∀ k, F k → k < w.heap.size := HFF.out
  have LK := Lib.hid hlook
  have Fa := S1.mine
  have JZ : PtJ F a bp w.heap.size (w3.heap.size + 1) W1 (rec .ready none) σ at' xs 0 W1 := by
    refine ⟨Chg.refl _ _, by rw [List.take_zero, put_nil]; exact S1, ⟨rfl, rfl⟩, ⟨q, c, by rw [Nat.sub_zero, HN.out]; exact BX.out.grown g31, by rw [HN.out]; omega, hcm, ?_⟩, hlp, hdf⟩
    rw [List.drop_zero]
    refine ⟨HB.out.1, fun h0 => ?_⟩
    obtain ⟨b, o, e, hlt, hnF, hc⟩ := HB.out.2 h0
    exact ⟨b, o, e, by omega, fun e => by unfold PtG at e; rcases e with e | e | e; exact hnF e; omega; omega, fun i hi => grown_cell gW1 (hc i hi)⟩
  have IO : PartsOk Try.prog (w3.heap.size + 1) at' n g W2.heap.size a mp (fun k W => PtJ F a bp w.heap.size (w3.heap.size + 1) W1 (rec .ready none) σ at' xs k W) := by
    refine ⟨fun k W hJ => ?_, fun k W hJ hk => ?_, fun k W m hJ => ?_⟩
    · obtain ⟨c1, c2⟩ := LK.out W hJ.same.1 hJ.same.2
      refine ⟨?_, c1, fun m h0 h1 h2 => ?_⟩
      · exact (OneAt.c (T := 26) (show OneAt W W2.heap.size _ _ from (hJ.chg.block W2.heap.size (by omega) (fun e => by unfold PtG at e; rcases e with e | e | e; have := hFlt _ e; omega; omega; omega)).trans (B1.out.grown g31)))
      · obtain ⟨t1, t2⟩ := mayErr_there H0.out h0
        exact c2 m (by omega) (thereB_iff.1 t2 m h1 (by unfold spanK; omega))
    · have hpl := partLen_pos (a := at') hk
      obtain ⟨t1, t2⟩ := mayErr_there H0.out (by omega)
      obtain ⟨c1, c2⟩ := LK.out W hJ.same.1 hJ.same.2
      have hP := thereB_iff.1 t2 ((at' + k) / 4096) (Nat.div_le_div_right (by omega)) (by unfold spanK; have : (at' + k) / 4096 ≤ (at' + n - 1) / 4096 := Nat.div_le_div_right (by omega); have : at' / 4096 ≤ (at' + k) / 4096 := Nat.div_le_div_right (by omega); omega)
      have hl := c2 ((at' + k) / 4096) (by omega) hP
      have hfit : (at' + k) % 4096 + partLen at' n k ≤ 4096 := by unfold partLen; have : (at' + k) % 4096 < 4096 := Nat.mod_lt _ (by omega); omega
      have hdm : 4096 * ((at' + k) / 4096) + (at' + k) % 4096 = at' + k := Nat.div_add_mod _ _
      obtain ⟨q1, c', hbx, hNc, hcm', hap⟩ := hJ.box
      obtain ⟨N, hN⟩ : ∃ N, N = xs.length - k := ⟨_, rfl⟩
      have hNn : N = n - k := by rw [hN, HN.out]
      have hdl : (xs.drop k).length = N := by rw [List.length_drop, hN]
      rw [← hN] at hbx hNc
      obtain ⟨b, oo, rfl, hblt, hbG, hbc⟩ := hap.2 (by rw [hdl]; omega)
      obtain ⟨G, hG⟩ : ∃ G, G = g ((at' + k) / 4096) := ⟨_, rfl⟩
      obtain ⟨m, hm⟩ : ∃ m, m = partLen at' n k := ⟨_, rfl⟩
      obtain ⟨o, ho⟩ : ∃ o, o = (at' + k) % 4096 := ⟨_, rfl⟩
      obtain ⟨pp, hp⟩ : ∃ p, p = (at' + k) / 4096 := ⟨_, rfl⟩
      rw [← hG, ← hp] at hl
      rw [← hp] at hP
      rw [← hG, ← hm, ← ho]
      rw [← ho, ← hm] at hfit
      rw [← hm] at hpl
      rw [← hp, ← ho] at hdm
      have hml : ((xs.drop k).take m).length = m := by rw [List.length_take, hdl]; omega
      have htk : xs.take k ++ (xs.drop k).take m = xs.take (k + m) := by rw [List.take_add]
      have hkl : (xs.take k).length = k := by rw [List.length_take, HN.out]; omega
      have eS : (σ.put at' (xs.take k)).put (4096 * pp + o) ((xs.drop k).take m) = σ.put at' (xs.take (k + m)) := by
        rw [hdm, ← htk, ← put_put, hkl]
      have hWs : W1.heap.size ≤ W.heap.size := hJ.chg.size
      have gP := grownBy_putObj' W (w3.heap.size + 1) (.loop (rec .busy none))
      have cP : Chg (fun x => x = w3.heap.size + 1) W (W.putObj (w3.heap.size + 1) (.loop (rec .busy none))) := Chg.of_grown gP (fun b e => by injection e with e; exact .inl e.symm)
      have hlpB : (W.putObj (w3.heap.size + 1) (.loop (rec .busy none))).heap[w3.heap.size + 1]? = some (.loop (rec .busy none)) := World.putObj_heap_same (Array.getElem?_eq_some_iff.1 hJ.lp).1
      have E1 := Lib.hid (show g pp = G by rw [hG, hp])
      have hpp : pp < 18446744073709551616 := by rw [hp]; omega
      have EDL := Lib.hid hdl
      have EML := Lib.hid hml
      have ES := Lib.hid eS
      have EN := Lib.hid hNn
      have hmN : m ≤ N := by omega
      have hdl' : ∀ i, i < N → i < (xs.drop k).length := fun i hi => by rw [hdl]; exact hi
      have BC := Lib.hid hbc
      have HPL := Lib.hid hpl
      have EXN := Lib.hid hN
      have HJ := Lib.hid hJ
      clear hG hm ho hp hN hdl hml eS hNn hdm htk hkl hbc hpl hJ t1 t2
      refine YR _ _ _ _ HJ.out.lp rfl ?_
      have HLB := Lib.hid hlpB
      clear hlpB
      gi_wp2
      refine ⟨HJ.out.lp, fun _ => ?_⟩
      have hlpB := HLB.out
      clear HLB
      have hJ := HJ.out
      obtain ⟨Wc, hWc⟩ : ∃ Wc, W.putObj (w3.heap.size + 1) (.loop (rec .busy none)) = Wc := ⟨_, rfl⟩
      rw [hWc] at gP cP hlpB ⊢
      have hbC := hbx.kept gP (by simp; omega)
      have hSC := hJ.spc.kept cP (fun x hx e => by have := hFlt x hx; omega)
      have hsame : Wc.heap[a]? = W1.heap[a]? ∧ Wc.heap[bp]? = W1.heap[bp]? :=
        ⟨(cP.block a (by have := hFlt a Fa; omega) (by have := hFlt a Fa; omega)).trans hJ.same.1, (cP.block bp (by omega) (by have := hFlt bp fbp; omega)).trans hJ.same.2⟩
      obtain ⟨c1', c2'⟩ := LK.out Wc hsame.1 hsame.2
      have hl' := c2' pp hpp hP
      rw [E1.out] at hl'
      obtain ⟨fG, hGp, hS2⟩ := hSC.wrote c1' hP hpp hl' (o := o) (xs := (xs.drop k).take m) (by rw [EML.out]; exact hfit) (fun x hx => HX.out x (List.mem_of_mem_drop (List.mem_of_mem_take hx)))
      rw [ES.out] at hS2
      have hCC := hJ.chg.trans (cP.mono (G := PtG F w.heap.size (w3.heap.size + 1)) (fun x e => .inr (.inr e)))
      have hsrc : ∀ i, i < (xs.drop k).length → Wc.cell? ⟨b, oo + i, none⟩ = some (.int .u8 ((xs.drop k).getD i 0)) := fun i hi => (cell_block (hCC.block b hblt hbG)).trans (BC.out i hi)
      have hcopy := copy_page (w := Wc.drew) (σ := σ.put at' (xs.take k)) (c := 4096 - o) (c' := c') (m := m) hGp hfit hmN EDL.out hsrc
      have kb := hbC.c
      have kf := hbC.f
      obtain ⟨V, hV⟩ : ∃ V : Option Addr, (if c' = m then some (⟨b, oo, none⟩ : Addr) else some ⟨b, oo + m, none⟩) = V := ⟨_, rfl⟩
      have hcut := fun X : World => slice_from (b := b) (oo := oo) (N := N) (c' := c') (m := m) hmN X
      rw [hV] at hcut
      have HCP := Lib.hid hcopy
      have HS2 := Lib.hid hS2
      have HV := Lib.hid hV
      have HCC := Lib.hid hCC
      have HSM := Lib.hid hsame
      have HGP := Lib.hid hGp
      have HBC := Lib.hid hbC
      have HLP := Lib.hid hlpB
      clear hcopy hS2 hCC hsame hGp hV hl hl' hSC hbC hlpB c1' c2' c1 c2 hsrc hJ
      obtain ⟨X2, hX2⟩ : ∃ X2, Wc.drew.setRow G (splice (pageArr (σ.put at' (xs.take k)).B pp).toList o (u8s ((xs.drop k).take m))).toArray = X2 := ⟨_, rfl⟩
      rw [hX2] at HCP
      have gX : Wc.grownBy X2 (some G) := by rw [← hX2]; have h := grown_setRow (g := G) Wc.drew (splice (pageArr (σ.put at' (xs.take k)).B pp).toList o (u8s ((xs.drop k).take m))).toArray; exact ⟨h.os, h.tape, h.output, h.size, h.block⟩
      have hGb : G ≠ w.heap.size := by have := hFlt G fG; omega
      have kb2 : X2.cell? ⟨w.heap.size, 0, none⟩ = some (.slice (some ⟨b, oo, none⟩) N c') := (HBC.out.kept gX (by simp; omega)).c
      have kf2 : X2.frozen? ⟨w.heap.size, 0, none⟩ = false := (HBC.out.kept gX (by simp; omega)).f
      have HX2 := Lib.hid hX2
      obtain ⟨X3, hX3⟩ : ∃ X3, X2.setCell ⟨w.heap.size, 0, none⟩ (.slice V (N - m) (c' - m)) = X3 := ⟨_, rfl⟩
      have gS : X2.grownBy X3 (some w.heap.size) := by rw [← hX3]; exact grown_setCell (i := 0) (grown_refl X2 (some w.heap.size)) _
      have hb3 : OneAt X3 w.heap.size (.slice V (N - m) (c' - m)) 35 := by rw [← hX3]; exact (HBC.out.kept gX (by simp; omega)).set _
      have L3 := grown_obj gS (grown_obj gX HLP.out (by intro e; injection e with e; have := hFlt G fG; omega)) (by intro e; injection e with e; omega)
      have hdX : (W.putObj (w3.heap.size + 1) (.loop (rec .busy none))).heap[w3.heap.size]? = some (.deferred (some [])) := grown_obj (grownBy_putObj' W (w3.heap.size + 1) (.loop (rec .busy none))) HJ.out.dfr (by intro e; injection e with e; simp at e)
      rw [hWc] at hdX
      have D3 := grown_obj gS (grown_obj gX hdX (by intro e; injection e with e; have := hFlt G fG; omega)) (by intro e; injection e with e; omega)
      have g8 := grownBy_putObj' X3 (w3.heap.size + 1) (.loop (rec .ready none))
      have C3 : Chg (PtG F w.heap.size (w3.heap.size + 1)) W1 (X3.putObj (w3.heap.size + 1) (.loop (rec .ready none))) :=
        ((HCC.out.trans (Chg.of_grown gX (fun x e => by injection e with e; subst e; exact .inl (.inl fG)))).trans (Chg.of_grown gS (fun x e => by injection e with e; exact .inl (.inr (.inl e.symm))))).trans (Chg.of_grown g8 (fun x e => by injection e with e; exact .inl (.inr (.inr e.symm))))
      have nGa : G ≠ a := fun e => nba _ (by rw [← HSM.out.1, ← e]; exact HGP.out)
      have nGb : G ≠ bp := fun e => nbp _ (by rw [← HSM.out.2, ← e]; exact HGP.out)
      have hsz3 : w3.heap.size + 1 < X3.heap.size := (Array.getElem?_eq_some_iff.1 L3).1
      have keep : ∀ x, x < w.heap.size → x ≠ G → (X3.putObj (w3.heap.size + 1) (.loop (rec .ready none))).heap[x]? = Wc.heap[x]? := fun x hx hg => by
        have hxc : x < Wc.heap.size := by have := HBC.out.lt; omega
        exact (g8.block x (by omega) (by simp; omega)).trans ((gS.block x (Nat.lt_of_lt_of_le hxc gX.size) (by simp; omega)).trans (gX.block x hxc (by simp [hg])))
      have FIN : X3.heap[w3.heap.size + 1]? = some (.loop (rec .busy none)) ∧ PtJ F a bp w.heap.size (w3.heap.size + 1) W1 (rec .ready none) σ at' xs (k + m) (X3.putObj (w3.heap.size + 1) (.loop (rec .ready none))) := by
        refine ⟨L3, C3, ?_, ⟨(keep a (hFlt a Fa) nGa.symm).trans HSM.out.1, (keep bp (hFlt bp fbp) nGb.symm).trans HSM.out.2⟩, ⟨V, c' - m, ?_, ?_, ?_, ?_, ?_⟩, World.putObj_heap_same (Array.getElem?_eq_some_iff.1 L3).1, grown_obj g8 D3 (by simp)⟩
        · have h1 : SpcAt X2 F a (σ.put at' (xs.take (k + m))) := by rw [← HX2.out]; exact HS2.out.kept (G := fun _ => False) ⟨rfl, rfl, rfl, Nat.le_refl _, fun _ _ _ => rfl⟩ (fun _ _ h => h)
          exact (h1.kept (Chg.of_grown gS (F := fun x => x = w.heap.size) (fun x e => by injection e with e; exact .inl e.symm)) (fun x hx e => by have := hFlt x hx; omega)).kept (Chg.of_grown g8 (F := fun x => x = w3.heap.size + 1) (fun x e => by injection e with e; exact .inl e.symm)) (fun x hx e => by have := hFlt x hx; omega)
        · rw [show xs.length - (k + m) = N - m by rw [EXN.out]; omega]
          exact hb3.kept g8 (by simp; omega)
        · rw [show xs.length - (k + m) = N - m by rw [EXN.out]; omega]; omega
        · omega
        · intro e
          rw [← HV.out] at e
          split at e <;> cases e
        · intro h0
          have hl2 : (xs.drop (k + m)).length = N - m := by rw [List.length_drop, EXN.out]; omega
          rw [hl2] at h0
          refine ⟨b, oo + m, ?_, hblt, hbG, fun i hi => ?_⟩
          · rw [← HV.out, if_neg (by omega)]
          · rw [hl2] at hi
            rw [Nat.add_assoc, BC.out (m + i) (by rw [EDL.out]; omega), ← List.drop_drop]
            simp [List.getD, List.getElem?_drop, Nat.add_assoc]
      have HFIN := Lib.hid FIN
      have HX3 := Lib.hid hX3
      clear FIN hX2 hX3 gS hb3 L3 hdX D3 g8 C3 nGa nGb keep gX
      gi_wp2
      refine wpIn_region_any (by kernel_rfl) ?_
      change wpAnyIn _ _ _ _ _ _ _ _ _ (World.drew _)
      refine wpAnyIn_ready (rs := [0, 1, 2]) (by kernel_rfl) (by simp) ?_
      refine AllReadyIn.cons (o := ⟨some 28, _, _, _, _, _⟩) rfl (fun K hK => ?_) (AllReadyIn.cons (o := ⟨some 29, _, _, _, _, _⟩) rfl (fun K hK => ?_) (AllReadyIn.cons (o := ⟨some 30, _, _, _, _, _⟩) rfl (fun K hK => ?_) AllReadyIn.nil))
      · skip
        go_simp
        refine hK _ _ ?_
        clear hK K
        try simp only [Act.put, List.setIfInBounds_toArray, List.set_cons_zero, List.set_cons_succ]
        refine wpAnyIn_ready (rs := [1, 2]) (by kernel_rfl) (by simp) ?_
        refine AllReadyIn.cons (o := ⟨some 29, _, _, _, _, _⟩) rfl (fun K hK => ?_) (AllReadyIn.cons (o := ⟨some 30, _, _, _, _, _⟩) rfl (fun K hK => ?_) AllReadyIn.nil)
        · skip
          go_simp
          refine hK _ _ ?_
          clear hK K
          try simp only [Act.put, List.setIfInBounds_toArray, List.set_cons_zero, List.set_cons_succ]
          refine wpAnyIn_ready (rs := [2]) (by kernel_rfl) (by simp) ?_
          refine AllReadyIn.cons (o := ⟨some 30, _, _, _, _, _⟩) rfl (fun K hK => ?_) AllReadyIn.nil
          go_simp
          refine hK _ _ ?_
          clear hK K
          try simp only [Act.put, List.setIfInBounds_toArray, List.set_cons_zero, List.set_cons_succ]
          refine wpAnyIn_ready (rs := [3]) (by kernel_rfl) (by simp) ?_
          refine AllReadyIn.cons (o := ⟨some 31, _, _, _, _, _⟩) rfl (fun K hK => ?_) AllReadyIn.nil
          refine stepIn_copy rfl _ _ rfl _ _ rfl rfl m HCP.out ?_
          refine hK _ _ ?_
          clear hK K
          try simp only [Act.put, List.setIfInBounds_toArray, List.set_cons_zero, List.set_cons_succ]
          refine wpAnyIn_ready (rs := [4]) (by kernel_rfl) (by simp) ?_
          refine AllReadyIn.cons (o := ⟨some 32, _, _, _, _, _⟩) rfl (fun K hK => ?_) AllReadyIn.nil
          go_simp
          refine hK _ _ ?_
          clear hK K
          try simp only [Act.put, List.setIfInBounds_toArray, List.set_cons_zero, List.set_cons_succ]
          refine wpAnyIn_ready (rs := [5]) (by kernel_rfl) (by simp) ?_
          refine AllReadyIn.cons (o := ⟨none, _, _, _, _, _⟩) rfl (fun K hK => ?_) AllReadyIn.nil
          go_simp
          refine hK _ _ ?_
          clear hK K
          try simp only [Act.put, List.setIfInBounds_toArray, List.set_cons_zero, List.set_cons_succ]
          refine wpAnyIn_done (by kernel_rfl) ?_ _
          rw [HX3.out]
          exact ⟨_, _, ER _ _ none HFIN.out.1, rfl, HFIN.out.2⟩
        · skip
          go_simp
          refine hK _ _ ?_
          clear hK K
          try simp only [Act.put, List.setIfInBounds_toArray, List.set_cons_zero, List.set_cons_succ]
          refine wpAnyIn_ready (rs := [1]) (by kernel_rfl) (by simp) ?_
          refine AllReadyIn.cons (o := ⟨some 29, _, _, _, _, _⟩) rfl (fun K hK => ?_) AllReadyIn.nil
          go_simp
          refine hK _ _ ?_
          clear hK K
          try simp only [Act.put, List.setIfInBounds_toArray, List.set_cons_zero, List.set_cons_succ]
          refine wpAnyIn_ready (rs := [3]) (by kernel_rfl) (by simp) ?_
          refine AllReadyIn.cons (o := ⟨some 31, _, _, _, _, _⟩) rfl (fun K hK => ?_) AllReadyIn.nil
          refine stepIn_copy rfl _ _ rfl _ _ rfl rfl m HCP.out ?_
          refine hK _ _ ?_
          clear hK K
          try simp only [Act.put, List.setIfInBounds_toArray, List.set_cons_zero, List.set_cons_succ]
          refine wpAnyIn_ready (rs := [4]) (by kernel_rfl) (by simp) ?_
          refine AllReadyIn.cons (o := ⟨some 32, _, _, _, _, _⟩) rfl (fun K hK => ?_) AllReadyIn.nil
          go_simp
          refine hK _ _ ?_
          clear hK K
          try simp only [Act.put, List.setIfInBounds_toArray, List.set_cons_zero, List.set_cons_succ]
          refine wpAnyIn_ready (rs := [5]) (by kernel_rfl) (by simp) ?_
          refine AllReadyIn.cons (o := ⟨none, _, _, _, _, _⟩) rfl (fun K hK => ?_) AllReadyIn.nil
          go_simp
          refine hK _ _ ?_
          clear hK K
          try simp only [Act.put, List.setIfInBounds_toArray, List.set_cons_zero, List.set_cons_succ]
          refine wpAnyIn_done (by kernel_rfl) ?_ _
          rw [HX3.out]
          exact ⟨_, _, ER _ _ none HFIN.out.1, rfl, HFIN.out.2⟩
      · skip
        go_simp
        refine hK _ _ ?_
        clear hK K
        try simp only [Act.put, List.setIfInBounds_toArray, List.set_cons_zero, List.set_cons_succ]
        refine wpAnyIn_ready (rs := [0, 2]) (by kernel_rfl) (by simp) ?_
        refine AllReadyIn.cons (o := ⟨some 28, _, _, _, _, _⟩) rfl (fun K hK => ?_) (AllReadyIn.cons (o := ⟨some 30, _, _, _, _, _⟩) rfl (fun K hK => ?_) AllReadyIn.nil)
        · skip
          go_simp
          refine hK _ _ ?_
          clear hK K
          try simp only [Act.put, List.setIfInBounds_toArray, List.set_cons_zero, List.set_cons_succ]
          refine wpAnyIn_ready (rs := [2]) (by kernel_rfl) (by simp) ?_
          refine AllReadyIn.cons (o := ⟨some 30, _, _, _, _, _⟩) rfl (fun K hK => ?_) AllReadyIn.nil
          go_simp
          refine hK _ _ ?_
          clear hK K
          try simp only [Act.put, List.setIfInBounds_toArray, List.set_cons_zero, List.set_cons_succ]
          refine wpAnyIn_ready (rs := [3]) (by kernel_rfl) (by simp) ?_
          refine AllReadyIn.cons (o := ⟨some 31, _, _, _, _, _⟩) rfl (fun K hK => ?_) AllReadyIn.nil
          refine stepIn_copy rfl _ _ rfl _ _ rfl rfl m HCP.out ?_
          refine hK _ _ ?_
          clear hK K
          try simp only [Act.put, List.setIfInBounds_toArray, List.set_cons_zero, List.set_cons_succ]
          refine wpAnyIn_ready (rs := [4]) (by kernel_rfl) (by simp) ?_
          refine AllReadyIn.cons (o := ⟨some 32, _, _, _, _, _⟩) rfl (fun K hK => ?_) AllReadyIn.nil
          go_simp
          refine hK _ _ ?_
          clear hK K
          try simp only [Act.put, List.setIfInBounds_toArray, List.set_cons_zero, List.set_cons_succ]
          refine wpAnyIn_ready (rs := [5]) (by kernel_rfl) (by simp) ?_
          refine AllReadyIn.cons (o := ⟨none, _, _, _, _, _⟩) rfl (fun K hK => ?_) AllReadyIn.nil
          go_simp
          refine hK _ _ ?_
          clear hK K
          try simp only [Act.put, List.setIfInBounds_toArray, List.set_cons_zero, List.set_cons_succ]
          refine wpAnyIn_done (by kernel_rfl) ?_ _
          rw [HX3.out]
          exact ⟨_, _, ER _ _ none HFIN.out.1, rfl, HFIN.out.2⟩
        · skip
          go_simp
          refine hK _ _ ?_
          clear hK K
          try simp only [Act.put, List.setIfInBounds_toArray, List.set_cons_zero, List.set_cons_succ]
          refine wpAnyIn_ready (rs := [0, 3]) (by kernel_rfl) (by simp) ?_
          refine AllReadyIn.cons (o := ⟨some 28, _, _, _, _, _⟩) rfl (fun K hK => ?_) (AllReadyIn.cons (o := ⟨some 31, _, _, _, _, _⟩) rfl (fun K hK => ?_) AllReadyIn.nil)
          · skip
            go_simp
            refine hK _ _ ?_
            clear hK K
            try simp only [Act.put, List.setIfInBounds_toArray, List.set_cons_zero, List.set_cons_succ]
            refine wpAnyIn_ready (rs := [3]) (by kernel_rfl) (by simp) ?_
            refine AllReadyIn.cons (o := ⟨some 31, _, _, _, _, _⟩) rfl (fun K hK => ?_) AllReadyIn.nil
            refine stepIn_copy rfl _ _ rfl _ _ rfl rfl m HCP.out ?_
            refine hK _ _ ?_
            clear hK K
            try simp only [Act.put, List.setIfInBounds_toArray, List.set_cons_zero, List.set_cons_succ]
            refine wpAnyIn_ready (rs := [4]) (by kernel_rfl) (by simp) ?_
            refine AllReadyIn.cons (o := ⟨some 32, _, _, _, _, _⟩) rfl (fun K hK => ?_) AllReadyIn.nil
            go_simp
            refine hK _ _ ?_
            clear hK K
            try simp only [Act.put, List.setIfInBounds_toArray, List.set_cons_zero, List.set_cons_succ]
            refine wpAnyIn_ready (rs := [5]) (by kernel_rfl) (by simp) ?_
            refine AllReadyIn.cons (o := ⟨none, _, _, _, _, _⟩) rfl (fun K hK => ?_) AllReadyIn.nil
            go_simp
            refine hK _ _ ?_
            clear hK K
            try simp only [Act.put, List.setIfInBounds_toArray, List.set_cons_zero, List.set_cons_succ]
            refine wpAnyIn_done (by kernel_rfl) ?_ _
            rw [HX3.out]
            exact ⟨_, _, ER _ _ none HFIN.out.1, rfl, HFIN.out.2⟩
          · skip
            refine stepIn_copy rfl _ _ rfl _ _ rfl rfl m HCP.out ?_
            refine hK _ _ ?_
            clear hK K
            try simp only [Act.put, List.setIfInBounds_toArray, List.set_cons_zero, List.set_cons_succ]
            refine wpAnyIn_ready (rs := [0]) (by kernel_rfl) (by simp) ?_
            refine AllReadyIn.cons (o := ⟨some 28, _, _, _, _, _⟩) rfl (fun K hK => ?_) AllReadyIn.nil
            go_simp
            refine hK _ _ ?_
            clear hK K
            try simp only [Act.put, List.setIfInBounds_toArray, List.set_cons_zero, List.set_cons_succ]
            refine wpAnyIn_ready (rs := [4]) (by kernel_rfl) (by simp) ?_
            refine AllReadyIn.cons (o := ⟨some 32, _, _, _, _, _⟩) rfl (fun K hK => ?_) AllReadyIn.nil
            go_simp
            refine hK _ _ ?_
            clear hK K
            try simp only [Act.put, List.setIfInBounds_toArray, List.set_cons_zero, List.set_cons_succ]
            refine wpAnyIn_ready (rs := [5]) (by kernel_rfl) (by simp) ?_
            refine AllReadyIn.cons (o := ⟨none, _, _, _, _, _⟩) rfl (fun K hK => ?_) AllReadyIn.nil
            go_simp
            refine hK _ _ ?_
            clear hK K
            try simp only [Act.put, List.setIfInBounds_toArray, List.set_cons_zero, List.set_cons_succ]
            refine wpAnyIn_done (by kernel_rfl) ?_ _
            rw [HX3.out]
            exact ⟨_, _, ER _ _ none HFIN.out.1, rfl, HFIN.out.2⟩
      · skip
        go_simp
        refine hK _ _ ?_
        clear hK K
        try simp only [Act.put, List.setIfInBounds_toArray, List.set_cons_zero, List.set_cons_succ]
        refine wpAnyIn_ready (rs := [0, 1]) (by kernel_rfl) (by simp) ?_
        refine AllReadyIn.cons (o := ⟨some 28, _, _, _, _, _⟩) rfl (fun K hK => ?_) (AllReadyIn.cons (o := ⟨some 29, _, _, _, _, _⟩) rfl (fun K hK => ?_) AllReadyIn.nil)
        · skip
          go_simp
          refine hK _ _ ?_
          clear hK K
          try simp only [Act.put, List.setIfInBounds_toArray, List.set_cons_zero, List.set_cons_succ]
          refine wpAnyIn_ready (rs := [1]) (by kernel_rfl) (by simp) ?_
          refine AllReadyIn.cons (o := ⟨some 29, _, _, _, _, _⟩) rfl (fun K hK => ?_) AllReadyIn.nil
          go_simp
          refine hK _ _ ?_
          clear hK K
          try simp only [Act.put, List.setIfInBounds_toArray, List.set_cons_zero, List.set_cons_succ]
          refine wpAnyIn_ready (rs := [3]) (by kernel_rfl) (by simp) ?_
          refine AllReadyIn.cons (o := ⟨some 31, _, _, _, _, _⟩) rfl (fun K hK => ?_) AllReadyIn.nil
          refine stepIn_copy rfl _ _ rfl _ _ rfl rfl m HCP.out ?_
          refine hK _ _ ?_
          clear hK K
          try simp only [Act.put, List.setIfInBounds_toArray, List.set_cons_zero, List.set_cons_succ]
          refine wpAnyIn_ready (rs := [4]) (by kernel_rfl) (by simp) ?_
          refine AllReadyIn.cons (o := ⟨some 32, _, _, _, _, _⟩) rfl (fun K hK => ?_) AllReadyIn.nil
          go_simp
          refine hK _ _ ?_
          clear hK K
          try simp only [Act.put, List.setIfInBounds_toArray, List.set_cons_zero, List.set_cons_succ]
          refine wpAnyIn_ready (rs := [5]) (by kernel_rfl) (by simp) ?_
          refine AllReadyIn.cons (o := ⟨none, _, _, _, _, _⟩) rfl (fun K hK => ?_) AllReadyIn.nil
          go_simp
          refine hK _ _ ?_
          clear hK K
          try simp only [Act.put, List.setIfInBounds_toArray, List.set_cons_zero, List.set_cons_succ]
          refine wpAnyIn_done (by kernel_rfl) ?_ _
          rw [HX3.out]
          exact ⟨_, _, ER _ _ none HFIN.out.1, rfl, HFIN.out.2⟩
        · skip
          go_simp
          refine hK _ _ ?_
          clear hK K
          try simp only [Act.put, List.setIfInBounds_toArray, List.set_cons_zero, List.set_cons_succ]
          refine wpAnyIn_ready (rs := [0, 3]) (by kernel_rfl) (by simp) ?_
          refine AllReadyIn.cons (o := ⟨some 28, _, _, _, _, _⟩) rfl (fun K hK => ?_) (AllReadyIn.cons (o := ⟨some 31, _, _, _, _, _⟩) rfl (fun K hK => ?_) AllReadyIn.nil)
          · skip
            go_simp
            refine hK _ _ ?_
            clear hK K
            try simp only [Act.put, List.setIfInBounds_toArray, List.set_cons_zero, List.set_cons_succ]
            refine wpAnyIn_ready (rs := [3]) (by kernel_rfl) (by simp) ?_
            refine AllReadyIn.cons (o := ⟨some 31, _, _, _, _, _⟩) rfl (fun K hK => ?_) AllReadyIn.nil
            refine stepIn_copy rfl _ _ rfl _ _ rfl rfl m HCP.out ?_
            refine hK _ _ ?_
            clear hK K
            try simp only [Act.put, List.setIfInBounds_toArray, List.set_cons_zero, List.set_cons_succ]
            refine wpAnyIn_ready (rs := [4]) (by kernel_rfl) (by simp) ?_
            refine AllReadyIn.cons (o := ⟨some 32, _, _, _, _, _⟩) rfl (fun K hK => ?_) AllReadyIn.nil
            go_simp
            refine hK _ _ ?_
            clear hK K
            try simp only [Act.put, List.setIfInBounds_toArray, List.set_cons_zero, List.set_cons_succ]
            refine wpAnyIn_ready (rs := [5]) (by kernel_rfl) (by simp) ?_
            refine AllReadyIn.cons (o := ⟨none, _, _, _, _, _⟩) rfl (fun K hK => ?_) AllReadyIn.nil
            go_simp
            refine hK _ _ ?_
            clear hK K
            try simp only [Act.put, List.setIfInBounds_toArray, List.set_cons_zero, List.set_cons_succ]
            refine wpAnyIn_done (by kernel_rfl) ?_ _
            rw [HX3.out]
            exact ⟨_, _, ER _ _ none HFIN.out.1, rfl, HFIN.out.2⟩
          · skip
            refine stepIn_copy rfl _ _ rfl _ _ rfl rfl m HCP.out ?_
            refine hK _ _ ?_
            clear hK K
            try simp only [Act.put, List.setIfInBounds_toArray, List.set_cons_zero, List.set_cons_succ]
            refine wpAnyIn_ready (rs := [0]) (by kernel_rfl) (by simp) ?_
            refine AllReadyIn.cons (o := ⟨some 28, _, _, _, _, _⟩) rfl (fun K hK => ?_) AllReadyIn.nil
            go_simp
            refine hK _ _ ?_
            clear hK K
            try simp only [Act.put, List.setIfInBounds_toArray, List.set_cons_zero, List.set_cons_succ]
            refine wpAnyIn_ready (rs := [4]) (by kernel_rfl) (by simp) ?_
            refine AllReadyIn.cons (o := ⟨some 32, _, _, _, _, _⟩) rfl (fun K hK => ?_) AllReadyIn.nil
            go_simp
            refine hK _ _ ?_
            clear hK K
            try simp only [Act.put, List.setIfInBounds_toArray, List.set_cons_zero, List.set_cons_succ]
            refine wpAnyIn_ready (rs := [5]) (by kernel_rfl) (by simp) ?_
            refine AllReadyIn.cons (o := ⟨none, _, _, _, _, _⟩) rfl (fun K hK => ?_) AllReadyIn.nil
            go_simp
            refine hK _ _ ?_
            clear hK K
            try simp only [Act.put, List.setIfInBounds_toArray, List.set_cons_zero, List.set_cons_succ]
            refine wpAnyIn_done (by kernel_rfl) ?_ _
            rw [HX3.out]
            exact ⟨_, _, ER _ _ none HFIN.out.1, rfl, HFIN.out.2⟩
    · exact ⟨⟨hJ.chg.os, hJ.chg.tape, hJ.chg.output, hJ.chg.size, hJ.chg.block⟩, hJ.spc.kept (Chg.of_grown (grown_drewN (grown_refl W none) m) (F := fun _ => False) (fun _ h => by cases h)) (fun _ _ h => h), hJ.same, hJ.box, hJ.lp, hJ.dfr⟩
  have h64 : at' < 18446744073709551616 := hat
  refine (parts1_any (w := W1) (w3.heap.size + 1) at' n h64 (fun h0 => (mayErr_there H0.out h0).1) g (W2.heap.size + 1) (W2.heap.size + 1 + 1) W2.heap.size a mp _ (B2.out.grown g31).c (B3.out.grown g31).c IO JZ).mono ?_
  rintro e w5 ⟨⟨v, rfl⟩, hJ⟩
  refine ⟨none, _, OR _ _ _ _ (by simp) hJ.lp, ?_⟩
  have gR := grownBy_putObj' w5 (w3.heap.size + 1) (.loop (rec .exhausted none))
  have hws : W1.heap.size ≤ w5.heap.size := hJ.chg.size
  have hdC := grown_obj gR hJ.dfr (by intro e; injection e with e; simp at e)
  have hSV := hJ.spc.kept (Chg.of_grown gR (F := fun x => x = w3.heap.size + 1) (fun x e => by injection e with e; exact .inl e.symm)) (fun x hx e => by have := hFlt x hx; omega)
  rw [List.take_of_length_le (by rw [HN.out]; omega)] at hSV
  have CC := hJ.chg.trans (Chg.of_grown gR (fun b e => by injection e with e; exact .inl (.inr (.inr e.symm))))
  obtain ⟨V, hV⟩ : ∃ V, w5.putObj (w3.heap.size + 1) (.loop (rec .exhausted none)) = V := ⟨_, rfl⟩
  rw [hV] at hdC hSV CC ⊢
  have DV := Lib.hid hdC
  have CV := Lib.hid CC
  have SV := Lib.hid hSV
  clear hdC CC hSV gR hV hJ
  go_wp2
  have gD := grownBy_putObj' V w3.heap.size (.deferred none)
  refine ⟨by simp, .inl ⟨_, _, rfl, run_takeDeferred DV.out, ?_⟩⟩
  refine ⟨_, results_tmp rfl _ _ _, ?_⟩
  refine ⟨rfl, SV.out.kept (Chg.of_grown gD (F := fun x => x = w3.heap.size) (fun x e => by injection e with e; exact .inl e.symm)) (fun x hx e => by have := hFlt x hx; omega), ?_⟩
  exact ⟨gD.os.trans (CV.out.os.trans gW1.os), gD.tape.trans (CV.out.tape.trans gW1.tape), gD.output.trans (CV.out.output.trans gW1.output), Nat.le_trans gW1.size (Nat.le_trans CV.out.size gD.size), fun x hx hn => by
      have hs := gW1.size
      have := CV.out.size
      exact (gD.block x (by omega) (by simp; omega)).trans ((CV.out.block x (by omega) (fun e => by unfold PtG at e; rcases e with e | e | e; exact hn e; omega; omega)).trans (gW1.block x hx (by simp)))⟩
end Go.Proofs.Ytiolcpnhabipaaa
