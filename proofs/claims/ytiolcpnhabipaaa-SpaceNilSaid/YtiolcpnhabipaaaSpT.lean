/- A range's bytes, copied out: told. Condition: the range's pages are there. -/
import Derived.Test.YtiolcpnhabipaaaSpP
import Derived.Test.YtiolcpnhabipaaaOneAt
import Derived.Maps.OwnIn
namespace Go.Proofs.Ytiolcpnhabipaaa
open Go.RowKit Go.Maps Go.ChangeMaps
attribute [local go_sem] Oper.semAt_some
variable {w w' W : World} {F : Nat → Prop} {σ : Spc}

/-- The closure over a range's parts. -/
theorem parts_any (q : Option Addr) (a n : Int) (w : World) :
    Calls Try.prog 56 #[.pointer q, .int .u64 a, .int .u64 n] w fun e w' =>
      e = .returned (.func (.func 59) #[] #[.pointer (some ⟨w.heap.size + 1, 0, none⟩), .pointer (some ⟨w.heap.size + 1 + 1, 0, none⟩), .pointer (some ⟨w.heap.size, 0, none⟩)]) ∧
      OneAt w' w.heap.size (.pointer q) 26 ∧ OneAt w' (w.heap.size + 1) (.int .u64 a) 24 ∧ OneAt w' (w.heap.size + 1 + 1) (.int .u64 n) 24 ∧ w.grownBy w' none := by
  go_enter Try.func56, Try.ntmps56
  go_wp2
  go_ret
  have h1 := OneAt.new w (.pointer q) 26
  have h2 := OneAt.new (w.alloc (.cells #[.pointer q] 26)) (.int .u64 a) 24
  have h3 := OneAt.new ((w.alloc (.cells #[.pointer q] 26)).alloc (.cells #[.int .u64 a] 24)) (.int .u64 n) 24
  refine ⟨rfl, (h1.grown (grown1 _ _)).grown (grown1 _ _), ?_, ?_, grown_trans (grown2 _ _ _) (grown1 _ _)⟩
  · have := h2.grown (grown1 _ (.cells #[.int .u64 n] 24)); simpa using this
  · simpa using h3

/-- So many bytes, from an address on. -/
def bytesOf (σ : Spc) (a n : Nat) : List Int := (List.range n).map fun i => σ.B (a + i)
theorem bytesOf_len (a n : Nat) : (bytesOf σ a n).length = n := by simp [bytesOf]
theorem bytesOf_add (a k m : Nat) : bytesOf σ a (k + m) = bytesOf σ a k ++ bytesOf σ (a + k) m := by
  unfold bytesOf
  rw [List.range_add, List.map_append, List.map_map]
  congr 1
  exact List.map_congr_left fun i _ => by show σ.B (a + (k + i)) = _; rw [Nat.add_assoc]
theorem bytesOf_get (a n : Nat) {i : Nat} (h : i < n) : (bytesOf σ a n).getD i 0 = σ.B (a + i) := by simp [bytesOf, h]

/-- What is read of a space, in whatever world that has turned none of its blocks. -/
theorem SpcAt.told {a : Nat} (h : SpcAt w F a σ) : ∃ (mp : Value) (g : Nat → Nat), ∀ W : World, (∀ k, k < w.heap.size → W.heap[k]? = w.heap[k]?) → W.cell? ⟨a, 0, none⟩ = some mp ∧
    ∀ m, m < 18446744073709551616 → σ.P m ≠ 0 → (Instr.lookup 62 mp (.int .u64 m) false).run Try.prog W = .ok (.pointer (some ⟨g m, 0, none⟩)) W ∧ W.heap[g m]? = some (.cells (pageArr σ.B m) 76 (0, 0)) := by
  obtain ⟨_, _, mp, mq, hb, hm⟩ := h
  cases hm with
  | bare h0 _ =>
    refine ⟨.map none, fun _ => 0, fun W hW => ⟨?_, fun m _ hP => absurd (h0 m) hP⟩⟩
    rw [cell_of ((hW a (lt_of_block hb)).trans hb)]; rfl
  | full bp bq g Dp Dq hne hp hq hm fp fq fg =>
    refine ⟨.map (some bp), g, fun W hW => ⟨?_, fun m hm64 hP => ⟨?_, (hW _ (lt_of_block (fg m hP).2)).trans (fg m hP).2⟩⟩⟩
    · rw [cell_of ((hW a (lt_of_block hb)).trans hb)]; rfl
    · have hp' : PMap W bp σ.K Dp := owns_at hp (hW _ (World.ownsMap.lt hp))
      obtain ⟨v, ps, h1, h2⟩ := World.ownsMap.lookup hp' u64keyed Try.underlying62 (zeroPtr W) (zd := .nil) (zp := []) rfl (key_of hm64)
      rw [hm.atp m _ hP] at h2
      rw [h1, ptrElem_inv h2]

/-- A page's bytes, from one on, as far as the page goes. -/
theorem page_bytes {G p o m : Nat} (h : W.heap[G]? = some (.cells (pageArr σ.B p) 76 (0, 0))) (ho : o + m ≤ 4096) (c : Nat) : IsBytes W (some ⟨G, o, none⟩) c (bytesOf σ (4096 * p + o) m) :=
  IsBytes.mk_at fun i hi => by
    rw [bytesOf_len] at hi
    rw [cell_of h, bytesOf_get _ _ hi]
    have := pageVals_get (fun i => σ.B (4096 * p + i)) (show o + i < 4096 by omega)
    rw [Nat.add_assoc]
    exact this

/-- append of bytes, in a round. -/
theorem wpIn_append_bytes {Fe : Fence} {fu : Nat} {ops : Array Oper} {rest : List Oper} {o : Oper} {a : Act} {Q : Exit → Act → World → Prop} {base : Nat} (hgd : o.guard = none) (s x : Operand)
    (ho : o.op = .call { callee := .builtin .append, args := #[s, x], argTypes := #[35, 35] })
    (v : Value) (n : Nat) (xs : List Value) (hs : a.eval s = v) (hown : w.ownsRow base 5 1 v n xs)
    (b oo c : Nat) (news : List Int) (m : Nat) (hm : news.length = m) (h0 : 0 < m) (hx : a.eval x = .slice (some ⟨b, oo, none⟩) m c) (hb : IsBytes w (some ⟨b, oo, none⟩) c news)
    (h63 : n + m ≤ 140737488355328) (hbase : base ≤ w.heap.size)
    (h : ∀ v' w', w'.ownsRow base 5 1 v' (n + m) (xs ++ news.map (Value.int .u8)) → w.grownBy w' v.ownBlock → (v'.ownBlock = v.ownBlock ∨ v'.ownBlock = some w.heap.size) → wpListIn Fe fu Try.prog ops Q rest (a.put o.dst v') w') : wpListIn Fe fu Try.prog ops Q (o :: rest) a w := by
  subst hm
  obtain ⟨i, hi, hz0, hz1, hz2⟩ := info_parts info_u8
  obtain ⟨b', o', e, hc⟩ := hb.2 h0
  injection e with e
  injection e with e1 e2
  subst e1 e2
  refine wpListIn_append_own_at w hgd s x _ ho base 5 i (.int .u8 0) 1 1 Try.underlying35 hi hz0 hz1 hz2 rfl (by decide) v n xs hs hown ⟨b, oo, none⟩ news.length c (news.map (Value.int .u8)) hx (by simp) ?_ ?_ (by unfold maxLen; omega) (by omega) hbase ?_
  · intro j u hu
    rw [List.getElem?_map] at hu
    obtain ⟨z, hz, rfl⟩ := Option.map_eq_some_iff.1 hu
    obtain ⟨hj, hz⟩ := List.getElem?_eq_some_iff.1 hz
    rw [add_flat, hc j hj]
    simp [List.getD, hj, hz]
  · intro u hu
    obtain ⟨z, _, rfl⟩ := List.mem_map.1 hu
    rfl
  · intro v' w' h1 h2 _ h4
    exact h v' w' h1 h2 h4

/-- What told's rounds may turn. -/
def TlG (r0 bb rc : Nat) (x : Nat) : Prop := x = r0 ∨ x = bb ∨ x = rc
structure TlJ (lo r0 bb rc : Nat) (W1 : World) (rv : Loop) (bs : Nat → List Int) (k : Nat) (W : World) : Prop where
  chg : Chg (TlG r0 bb rc) W1 W
  box : ∃ q c, OneAt W bb (.slice q k c) 35 ∧ W.ownsRow lo 5 1 (.slice q k c) k ((bs k).map (Value.int .u8)) ∧ ∀ g, (Value.slice q k c).ownBlock = some g → g = r0 ∨ W1.heap.size ≤ g
  lp : W.heap[rc]? = some (.loop rv)

set_option maxHeartbeats 1600000 in
set_option maxRecDepth 20000 in
theorem told_any {a : Nat} (h : SpcAt w F a σ) (at' n : Nat) (h64 : at' < 18446744073709551616) (hn47 : n ≤ 140737488355328) (h47 : 0 < n → at' + n ≤ 140737488355328) (hth : 0 < n → thereB σ (at' / 4096) (spanK at' n) = true) :
    Calls Try.prog 44 #[.pointer (some ⟨a, 0, none⟩), .int .u64 at', .int .u64 n] w fun e w' =>
      ∃ q c, e = .returned (.slice q n c) ∧ w'.ownsRow w.heap.size 5 1 (.slice q n c) n ((bytesOf σ at' n).map (Value.int .u8)) ∧ w.grownBy w' none := by
  obtain ⟨mp, g, hTold⟩ := h.told
  have HT := Lib.hid hTold
  have HH := Lib.hid hth
  have H47 := Lib.hid h47
  clear hTold hth h47
  obtain ⟨iu, hiu, hz0, hz1, hz2⟩ := info_parts info_u8
  refine (callsIn_wide (n := 1)).1 (callsIn_of_wp_marks Try.func44 rfl trivial ((wpIn_wide).2 ?_))
  simp only [Try.ntmps44, List.size_toArray, List.length_cons, List.length_nil, Nat.reduceAdd, Nat.reduceSub, Array.replicate_succ, Array.replicate_zero, List.push_toArray, List.append_toArray, List.nil_append, List.cons_append]
  have BN := Lib.hid (show w.heap.size ≤ w.heap.size from Nat.le_refl _)
  have q0 : (0 : Int) ≤ n := by omega
  go_wp2_with (at_make; refine wpList_make_own _ rfl _ _ 35 rfl w.heap.size 5 iu (.int .u8 0) 1 Try.underlying35 hiu hz0 hz1 .i64 .u64 _ n rfl rfl rfl (by rw [hz2]; omega) (by unfold maxLen; omega) (Nat.le_refl _) ?_; (intro w1 hown hg1; have O1 := Lib.hid hown; have G1 := Lib.hid hg1; clear hown hg1))
  clear hz0 hz1 hz2 hiu
  obtain ⟨W2, hW2⟩ : ∃ W2, w1.alloc (.cells #[.slice (some ⟨w.heap.size, 0, none⟩) 0 n] 35) = W2 := ⟨_, rfl⟩
  rw [hW2]
  refine (parts_any (some ⟨a, 0, none⟩) at' n W2).mono ?_
  rintro e w3 ⟨rfl, hb1, hb2, hb3, hg3⟩
  have hbx : OneAt W2 w1.heap.size (.slice (some ⟨w.heap.size, 0, none⟩) 0 n) 35 := by rw [← hW2]; exact OneAt.new w1 _ _
  have g12 : w1.grownBy W2 none := by rw [← hW2]; exact grown1 _ _
  have hlt1 : w.heap.size < w1.heap.size := O1.out.lt w.heap.size rfl |>.2
  have hlt2 : w1.heap.size < W2.heap.size := hbx.lt
  have B1 := Lib.hid hb1
  have B2 := Lib.hid hb2
  have B3 := Lib.hid hb3
  have BX := Lib.hid (hbx.grown hg3)
  have G3 := Lib.hid (grown_trans (grown_trans G1.out g12) hg3)
  have OW := Lib.hid (own_grown (own_grown O1.out g12) hg3)
  have hlt3 : W2.heap.size + 1 + 1 < w3.heap.size := hb3.lt
  clear hb1 hb2 hb3 hg3 hbx g12 hW2 O1 G1
  go_wp2
  refine wp_rangeFunc_rec (gf := 59) (lb := #[.pointer (some ⟨W2.heap.size + 1, 0, none⟩), .pointer (some ⟨W2.heap.size + 1 + 1, 0, none⟩), .pointer (some ⟨W2.heap.size, 0, none⟩)]) rfl (enters_of Try.func59 (by kernel_rfl) rfl) ?_
  intro rec YR ER OR
  obtain ⟨W1, hW1⟩ : ∃ W1, (w3.alloc (.deferred (some []))).alloc (.loop (rec .ready none)) = W1 := ⟨_, rfl⟩
  have g31 : w3.grownBy W1 none := by rw [← hW1]; exact grown2 _ _ _
  have hlp : W1.heap[w3.heap.size + 1]? = some (.loop (rec .ready none)) := by
    rw [← hW1]; have := World.alloc_heap_new (w3.alloc (.deferred (some []))) (.loop (rec .ready none)); rwa [World.size_alloc] at this
  have hdf : W1.heap[w3.heap.size]? = some (.deferred (some [])) := by
    rw [← hW1]; exact (Below.heap_alloc _ _ _ (by simp)).trans (World.alloc_heap_new w3 _)
  have hW1s : w3.heap.size + 1 < W1.heap.size := (Array.getElem?_eq_some_iff.1 hlp).1
  rw [hW1]
  have gW1 := grown_trans G3.out g31
  obtain ⟨r0, hr0⟩ : ∃ r0, r0 = w.heap.size := ⟨_, rfl⟩
  have JZ : TlJ w.heap.size w.heap.size w1.heap.size (w3.heap.size + 1) W1 (rec .ready none) (bytesOf σ at') 0 W1 :=
    ⟨Chg.refl _ _, ⟨_, _, BX.out.grown g31, own_grown OW.out g31, fun g e => by injection e with e; exact .inl e.symm⟩, hlp⟩
  have IO : PartsOk Try.prog (w3.heap.size + 1) at' n g W2.heap.size a mp (fun k W => TlJ w.heap.size w.heap.size w1.heap.size (w3.heap.size + 1) W1 (rec .ready none) (bytesOf σ at') k W) := by
    have hold : ∀ k W, TlJ w.heap.size w.heap.size w1.heap.size (w3.heap.size + 1) W1 (rec .ready none) (bytesOf σ at') k W → ∀ x, x < w.heap.size → W.heap[x]? = w.heap[x]? := fun k W hJ x hx =>
      (hJ.chg.block x (by have := gW1.size; omega) (fun e => by unfold TlG at e; omega)).trans (gW1.block x hx (by simp))
    refine ⟨fun k W hJ => ?_, fun k W hJ hk => ?_, fun k W m hJ => ?_⟩
    · obtain ⟨c1, c2⟩ := HT.out W (hold k W hJ)
      refine ⟨?_, c1, fun m h0 h1 h2 => (c2 m (by have := H47.out h0; omega) (thereB_iff.1 (HH.out h0) m h1 (by unfold spanK; omega))).1⟩
      have hbs := B1.out.grown g31
      exact (OneAt.c (T := 26) (show OneAt W W2.heap.size _ _ from (hJ.chg.block W2.heap.size (by omega) (fun e => by unfold TlG at e; omega)).trans hbs))
    · have hpl := partLen_pos (a := at') hk
      have h47 := H47.out (by omega)
      have hK := Lib.hid hk
      obtain ⟨_, c2⟩ := HT.out W (hold k W hJ)
      have hq : at' + k < at' + n := by omega
      obtain ⟨_, hpg⟩ := c2 ((at' + k) / 4096) (by omega) (thereB_iff.1 (HH.out (by omega)) _ (Nat.div_le_div_right (by omega)) (by unfold spanK; have : (at' + k) / 4096 ≤ (at' + n - 1) / 4096 := Nat.div_le_div_right (by omega); have : at' / 4096 ≤ (at' + k) / 4096 := Nat.div_le_div_right (by omega); omega))
      have hfit : (at' + k) % 4096 + partLen at' n k ≤ 4096 := by unfold partLen; have : (at' + k) % 4096 < 4096 := Nat.mod_lt _ (by omega); omega
      have hdm : 4096 * ((at' + k) / 4096) + (at' + k) % 4096 = at' + k := Nat.div_add_mod _ _
      obtain ⟨G, hG⟩ : ∃ G, G = g ((at' + k) / 4096) := ⟨_, rfl⟩
      obtain ⟨m, hm⟩ : ∃ m, m = partLen at' n k := ⟨_, rfl⟩
      obtain ⟨o, ho⟩ : ∃ o, o = (at' + k) % 4096 := ⟨_, rfl⟩
      obtain ⟨p, hp⟩ : ∃ p, p = (at' + k) / 4096 := ⟨_, rfl⟩
      have HB := Lib.hid (show bytesOf σ at' (k + m) = bytesOf σ at' k ++ bytesOf σ (4096 * p + o) m by rw [hp, ho, hdm, bytesOf_add])
      rw [← hG, ← hm, ← ho]
      rw [← hG, ← hp] at hpg
      rw [← ho, ← hm] at hfit
      rw [← hm] at hpl
      have HPG := Lib.hid hpg
      have HN := Lib.hid (show n ≤ 140737488355328 by omega)
      clear hG hm ho hp hdm hpg c2 hq hk
      refine YR _ _ _ _ hJ.lp rfl ?_
      gi_wp2
      refine ⟨hJ.lp, fun _ => ?_⟩
      obtain ⟨q, c, hbx, how, hwh⟩ := hJ.box
      have gP := grownBy_putObj' W (w3.heap.size + 1) (.loop (rec .busy none))
      have hlpB : (W.putObj (w3.heap.size + 1) (.loop (rec .busy none))).heap[w3.heap.size + 1]? = some (.loop (rec .busy none)) := World.putObj_heap_same (Array.getElem?_eq_some_iff.1 hJ.lp).1
      have hWs : W1.heap.size ≤ W.heap.size := hJ.chg.size
      have hnr : ∀ b, (Value.slice q k c).ownBlock = some b → b ≠ w3.heap.size + 1 ∧ b ≠ w1.heap.size := fun b e => by rcases hwh b e with h | h <;> omega
      have hbC := hbx.kept gP (by simp; omega)
      have how2 := how.kept gP (by cases e : (Value.slice q k c).ownBlock with | none => exact .inl rfl | some b => exact .inr (by have := (hnr b e).1; simpa using this))
      have hpgC := grown_obj gP HPG.out (fun e => by
        have e1 : w3.heap.size + 1 = G := by injection e
        have h1 := HPG.out
        have h2 := hJ.lp
        rw [← e1, h2] at h1
        injection h1 with h1
        cases h1)
      have CP := Lib.hid (show Chg (TlG w.heap.size w1.heap.size (w3.heap.size + 1)) W1 (W.putObj (w3.heap.size + 1) (.loop (rec .busy none))) from hJ.chg.trans (Chg.of_grown gP (fun b e => by injection e with e; exact .inl (.inr (.inr e.symm)))))
      obtain ⟨Wc, hWc⟩ : ∃ Wc, W.putObj (w3.heap.size + 1) (.loop (rec .busy none)) = Wc := ⟨_, rfl⟩
      rw [hWc] at hlpB hbC how2 hpgC CP ⊢
      have kb := hbC.c
      have kf := hbC.f
      have OWN := Lib.hid how2
      have HBX := Lib.hid hbC
      have HLP := Lib.hid hlpB
      have HNR := Lib.hid hnr
      have HWH := Lib.hid hwh
      have BY := Lib.hid (fun c => page_bytes (σ := σ) (m := m) hpgC (o := o) hfit c)
      have hszc : w.heap.size ≤ Wc.heap.size := by have := gW1.size; have := CP.out.size; omega
      clear hbC how2 hlpB hbx how hpgC gP hWc hnr hwh
      gi_wp2_with (gi_at_builtin; refine wpIn_append_bytes rfl _ _ rfl (.slice q k c) k ((bytesOf σ at' k).map (Value.int .u8)) rfl OWN.out G o _ (bytesOf σ (4096 * p + o) m) m (bytesOf_len _ _) hpl.1 rfl (BY.out _) (by have := HN.out; omega) hszc ?_)
      intro v' w6 ho6 hg6 hat6
      obtain ⟨q6, c6, rfl⟩ := own_slice ho6
      have nb : ∀ x, (Value.slice q k c).ownBlock = some x → x ≠ w3.heap.size + 1 ∧ x ≠ w1.heap.size := HNR.out
      have hb6 := HBX.out.kept hg6 (fun e => (nb _ e).2 rfl)
      have kb6 := hb6.c
      have kf6 := hb6.f
      have hL6 := grown_obj hg6 HLP.out (fun e => (nb _ e).1 rfl)
      have C6 : Chg (TlG w.heap.size w1.heap.size (w3.heap.size + 1)) W1 w6 :=
        ⟨hg6.os.trans CP.out.os, hg6.tape.trans CP.out.tape, hg6.output.trans CP.out.output, Nat.le_trans CP.out.size hg6.size, fun x hx hn => (hg6.block x (Nat.lt_of_lt_of_le hx CP.out.size) (fun e => by
          rcases HWH.out x e.symm with h | h
          · exact hn (.inl h)
          · omega)).trans (CP.out.block x hx hn)⟩
      have HW6 : ∀ x, (Value.slice q6 (k + m) c6).ownBlock = some x → x = w.heap.size ∨ W1.heap.size ≤ x := fun x e => by
        rcases hat6 with h | h
        · rw [h] at e; exact HWH.out x e
        · rw [h] at e; injection e with e; have := CP.out.size; omega
      have O6 := Lib.hid ho6
      have X6 := Lib.hid hb6
      have L6 := Lib.hid hL6
      have D6 := Lib.hid C6
      have V6 := Lib.hid HW6
      clear ho6 hg6 hat6 hb6 hL6 C6 HW6 nb
      gi_wp2
      have gS := grown_setCell (i := 0) (grown_refl w6 (some w1.heap.size)) (.slice q6 (k + m) c6)
      have nr6 : ∀ x, (Value.slice q6 (k + m) c6).ownBlock = some x → x ≠ w1.heap.size ∧ x ≠ w3.heap.size + 1 := fun x e => by have := V6.out x e; omega
      have hb7 := X6.out.set (.slice q6 (k + m) c6)
      have L7 := grown_obj gS L6.out (by simp; omega)
      have O7 := O6.out.kept gS (by cases e : (Value.slice q6 (k + m) c6).ownBlock with | none => exact .inl rfl | some b => exact .inr (by have := (nr6 b e).1; simpa using this))
      have C7 := D6.out.trans (Chg.of_grown gS (fun b e => by injection e with e; exact .inl (.inr (.inl e.symm))))
      obtain ⟨w7, hw7⟩ : ∃ w7, w6.setCell ⟨w1.heap.size, 0, none⟩ (.slice q6 (k + m) c6) = w7 := ⟨_, rfl⟩
      rw [hw7] at hb7 L7 O7 C7 ⊢
      have g8 := grownBy_putObj' w7 (w3.heap.size + 1) (.loop (rec .ready none))
      refine ⟨_, _, ER _ _ none L7, rfl, ⟨C7.trans (Chg.of_grown g8 (fun b e => by injection e with e; exact .inl (.inr (.inr e.symm)))), ⟨q6, c6, hb7.kept g8 (by simp; omega), ?_, V6.out⟩, World.putObj_heap_same (Array.getElem?_eq_some_iff.1 L7).1⟩⟩
      have O8 := O7.kept g8 (by cases e : (Value.slice q6 (k + m) c6).ownBlock with | none => exact .inl rfl | some b => exact .inr (by have := (nr6 b e).2; simpa using this))
      rw [HB.out, List.map_append]
      exact O8
    · exact ⟨⟨hJ.chg.os, hJ.chg.tape, hJ.chg.output, hJ.chg.size, hJ.chg.block⟩, hJ.box, hJ.lp⟩
  refine (parts1_any (w := W1) (w3.heap.size + 1) at' n h64 H47.out g (W2.heap.size + 1) (W2.heap.size + 1 + 1) W2.heap.size a mp _ (B2.out.grown g31).c (B3.out.grown g31).c IO JZ).mono ?_
  rintro e w5 ⟨⟨v, rfl⟩, hJ⟩
  refine ⟨none, _, OR _ _ _ _ (by simp) hJ.lp, ?_⟩
  obtain ⟨q, c, hbx, how, hwh⟩ := hJ.box
  have gR := grownBy_putObj' w5 (w3.heap.size + 1) (.loop (rec .exhausted none))
  have hws : W1.heap.size ≤ w5.heap.size := hJ.chg.size
  have hbC := hbx.kept gR (by simp; omega)
  have how2 := how.kept gR (by cases e : (Value.slice q n c).ownBlock with | none => exact .inl rfl | some b => exact .inr (by have := hwh b e; simp; omega))
  have hdC := grown_obj gR ((hJ.chg.block w3.heap.size (by omega) (fun e => by unfold TlG at e; omega)).trans hdf) (by simp)
  have CC := hJ.chg.trans (Chg.of_grown gR (fun b e => by injection e with e; exact .inl (.inr (.inr e.symm))))
  obtain ⟨V, hV⟩ : ∃ V, w5.putObj (w3.heap.size + 1) (.loop (rec .exhausted none)) = V := ⟨_, rfl⟩
  rw [hV] at hbC how2 hdC CC ⊢
  have kb := hbC.c
  have OV := Lib.hid how2
  have DV := Lib.hid hdC
  have CV := Lib.hid CC
  have WV := Lib.hid hwh
  clear hbC how2 hdC CC hwh hbx how gR hV hJ
  go_wp2
  have gD := grownBy_putObj' V w3.heap.size (.deferred none)
  refine ⟨by simp, .inl ⟨_, _, rfl, run_takeDeferred DV.out, ?_⟩⟩
  refine ⟨_, results_tmp rfl _ _ _, ?_⟩
  refine ⟨q, c, rfl, OV.out.kept gD (by cases e : (Value.slice q n c).ownBlock with | none => exact .inl rfl | some b => exact .inr (by have := WV.out b e; simp; omega)), ?_⟩
  have hg : Chg (fun _ => False) w (V.putObj w3.heap.size (.deferred none)) :=
    ⟨gD.os.trans (CV.out.os.trans gW1.os), gD.tape.trans (CV.out.tape.trans gW1.tape), gD.output.trans (CV.out.output.trans gW1.output), Nat.le_trans gW1.size (Nat.le_trans CV.out.size gD.size), fun x hx _ => by
      have hs := gW1.size
      have := CV.out.size
      exact (gD.block x (by omega) (by simp; omega)).trans ((CV.out.block x (by omega) (fun e => by unfold TlG at e; omega)).trans (gW1.block x hx (by simp)))⟩
  exact hg.grown
end Go.Proofs.Ytiolcpnhabipaaa
