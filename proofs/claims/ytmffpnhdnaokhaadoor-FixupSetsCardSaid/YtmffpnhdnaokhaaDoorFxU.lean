/- A fixup's text at the chapter's rows, what is written, and the chapter's rows. Conditions: the library's table reads as it was laid. -/
import Derived.Test.YtmffpnhdnaokhaaDoorFxT
import Derived.Test.YtmffpnhdnaokhaaDoorFxS
import Derived.Lib.QuietBelow
namespace Go.Proofs.YtmffpnhdnaokhaaDoor
open Go.RowKit
variable {w w' W V : World}

def hexA (n : Nat) : ByteArray := ⟨#[48, 120]⟩ ++ strOfNums (hexL n)
def joinA (xs : List ByteArray) : ByteArray := ⟨(Lib.join (xs.map (·.data.toList)) [32]).toArray⟩
theorem hexA_len (n : Nat) : (hexA n).size ≤ 100 := by
  have h := (hexF_len 15 n).1
  have e : (hexA n).size = 2 + (hexL n).length := by
    show (⟨#[48, 120]⟩ ++ strOfNums (hexL n) : ByteArray).size = _
    rw [ByteArray.size_append, str_size]
    rfl
  rw [e]
  unfold hexL
  omega
theorem join_len3 {a b c : ByteArray} (ha : a.size ≤ 100) (hb : b.size ≤ 1000) (hc : c.size ≤ 100) : (Lib.join ([a, b, c].map (·.data.toList)) [32]).length ≤ 140737488355328 := by
  have e : ∀ x : ByteArray, x.data.toList.length = x.size := fun x => by rw [Array.length_toList]; rfl
  simp [Lib.join, e]
  omega
theorem dec_len (o : Nat) (h : o < 100) : (⟨(Lib.decDigits o).toArray⟩ : ByteArray).size ≤ 100 := by
  show (Lib.decDigits o).toArray.size ≤ 100
  rw [List.size_toArray, Lib.decDigits]
  split
  · simp
  · rw [Lib.decDigits, dif_pos (by omega)]; simp
theorem join_len5 {a b c d e : ByteArray} (ha : a.size ≤ 100) (hb : b.size ≤ 1000) (hc : c.size ≤ 100) (hd : d.size ≤ 1000) (he : e.size ≤ 100) : (Lib.join ([a, b, c, d, e].map (·.data.toList)) [32]).length ≤ 140737488355328 := by
  have e : ∀ x : ByteArray, x.data.toList.length = x.size := fun x => by rw [Array.length_toList]; rfl
  simp [Lib.join, e]
  omega
theorem line_any (g n : Nat) (xs : List ByteArray) (hl : xs.length = n) (hn : n ≤ 10) (hc : ∀ (j : Nat) x, xs[j]? = some x → w.cell? ⟨g, j, none⟩ = some (.string x)) (hg : g < w.heap.size) (hb : (Lib.join (xs.map (·.data.toList)) [32]).length ≤ 140737488355328) :
    Calls Tryd.prog 33 #[.slice (some ⟨g, 0, none⟩) n n] w fun e w' => e = .returned (.string (joinA xs)) ∧ w.grownBy w' none := by
  subst hl
  have J := Lib.hid (Tryd.strings_Join g 0 xs.length xs ⟨#[32]⟩ w (fun j x hx => by rw [Nat.zero_add]; exact hc j x hx) hg (by omega) (Nat.le_refl _) hb)
  obtain ⟨n, hn'⟩ : ∃ n, n = xs.length := ⟨_, rfl⟩
  rw [← hn'] at J ⊢
  clear hc hb hn hn'
  go_enter Tryd.func33, Tryd.ntmps33
  go_wp2_with (go_at_call 66; refine J.out.mono ?_; rintro e w' ⟨rfl, hw⟩)
  go_ret
  exact ⟨rfl, grown_below hw none⟩
set_option maxRecDepth 20000 in
set_option maxHeartbeats 3200000 in
theorem text_r (x : Fx) (n m : Nat) (hx : x = ⟨n, 1, m, 0, ⟨#[]⟩, 0, false⟩) (hn : n < 18446744073709551616) (hm : m < 18446744073709551616) (ht : TabOk w) : Calls Tryd.prog 20 #[fxV x] w fun e w' => e = .returned (.string (joinA [hexA n, ⟨#[114, 101, 98, 97, 115, 101]⟩, hexA m])) ∧ w.grownBy w' none := by
  obtain ⟨SN, hSN⟩ : ∃ S, S = hexA n := ⟨_, rfl⟩
  obtain ⟨SM, hSM⟩ : ∃ S, S = hexA m := ⟨_, rfl⟩
  rw [← hSN, ← hSM]
  have HSN := Lib.hid hSN
  have HSM := Lib.hid hSM
  clear hSN hSM
  have MR := Lib.hid (may_r x (by rw [hx]) (by rw [hx]; exact ⟨rfl, rfl, rfl, rfl⟩))
  have hnw := FxAt.new w x
  have hg := grown1 w (.cells #[.int .u64 x.at_, .int .i64 x.kind, .int .u64 x.target, .int .i64 x.ord, .string x.sym, .int .i64 x.add, .bool x.weak] 26)
  obtain ⟨W, hW⟩ : ∃ W, w.alloc (.cells #[.int .u64 x.at_, .int .i64 x.kind, .int .u64 x.target, .int .i64 x.ord, .string x.sym, .int .i64 x.add, .bool x.weak] 26) = W := ⟨_, rfl⟩
  obtain ⟨g, hgg⟩ : ∃ g, w.heap.size = g := ⟨_, rfl⟩
  rw [hW] at hnw hg
  rw [hgg] at hnw
  have CC := Lib.hid hnw.c
  have A1 := Lib.hid hnw
  have T1 := Lib.hid (ht.grown hg)
  have G1 := Lib.hid hg
  subst hx
  unfold fxV fxArr at MR ⊢
  simp only [] at hW MR CC ⊢
  clear hnw hg ht
  obtain ⟨c0, c1, c2, c3, c4, c5, c6⟩ := CC.out
  go_enter Tryd.func20, Tryd.ntmps20
  go_upto_region 1 with fail
  clear hW hgg
  go_wp2_with (go_at_call 23; refine (MR.out _).mono ?_; rintro e w2 ⟨rfl, hg⟩; have G2 := Lib.hid (grown_trans G1.out hg); have A2 := Lib.hid (A1.out.grown hg); have T2 := Lib.hid (T1.out.grown hg); clear hg; have C2 := A2.out.c; simp only [] at C2; obtain ⟨b0, b1, b2, b3, b4, b5, b6⟩ := C2)
  clear c0 c1 c2 c3 c4 c5 c6 b1 b3 b4 b5 b6
  have KG := fun d os => grown_below (below_regrown w2 d os) none
  have B0 := fun d os => cell_regrown b0 d os
  have B2 := fun d os => cell_regrown b2 d os
  have HN := Lib.hid (fun d os => Calls.regrown_of ((hex_any n hn (T2.out.grown (KG d os))).mono (fun _ _ h => (⟨h.1, below_grown h.2 (Nat.le_refl _) (by simp)⟩ : _ ∧ _))))
  have HM := Lib.hid (fun d os => Calls.regrown_of ((hex_any m hm (T2.out.grown (KG d os))).mono (fun _ _ h => (⟨h.1, below_grown h.2 (Nat.le_refl _) (by simp)⟩ : _ ∧ _))))
  rw [show (⟨#[48, 120]⟩ ++ strOfNums (hexL n) : ByteArray) = SN from HSN.out.symm] at HN
  rw [show (⟨#[48, 120]⟩ ++ strOfNums (hexL m) : ByteArray) = SM from HSM.out.symm] at HM
  have LN : SN.size ≤ 100 := by rw [HSN.out]; exact hexA_len n
  have LM : SM.size ≤ 100 := by rw [HSM.out]; exact hexA_len m
  clear b0 b2 T1 CC A1
  have HK := Lib.hid KG
  clear KG hn hm
  refine wp_region_quiet_tail 6 (by kernel_rfl) (by kernel_rfl) ?_
  simp only [List.take_succ_cons, List.take_zero, List.drop_succ_cons, List.drop_zero]
  iterate 2 (quiet_step (fail))
  quiet_step (with_reducible exact HN.out _ _)
  iterate 2 (quiet_step (fail))
  quiet_step (with_reducible exact HM.out _ _)
  refine wpQuiet_nil ?_
  intro _ hw'
  obtain ⟨⟨dq, osq⟩, hw''⟩ := hw'
  subst hw''
  have g3 := HK.out dq osq
  obtain ⟨w3, hw3⟩ : ∃ W, Go.Sort.grow (redrawn w2 dq) osq = W := ⟨_, rfl⟩
  rw [hw3] at g3 ⊢
  clear hw3 HN HM HK
  have G3 := Lib.hid (grown_trans G2.out g3)
  clear g3 G2
  have g4 := grown1 w3 (.cells #[.string SN, .string ⟨#[114, 101, 98, 97, 115, 101]⟩, .string SM] 9)
  have h4 := heap_alloc_new w3 (.cells #[.string SN, .string ⟨#[114, 101, 98, 97, 115, 101]⟩, .string SM] 9)
  have LI := Lib.hid (line_any (w := w3.alloc (.cells #[.string SN, .string ⟨#[114, 101, 98, 97, 115, 101]⟩, .string SM] 9)) w3.heap.size 3 [SN, ⟨#[114, 101, 98, 97, 115, 101]⟩, SM] rfl (by decide) (fun j x hx => by
    rw [cell_of h4]
    rcases j with _ | _ | _ | j
    · injection hx with hx; subst hx; rfl
    · injection hx with hx; subst hx; rfl
    · injection hx with hx; subst hx; rfl
    · simp at hx) (lt_of_block h4) (join_len3 LN (by decide) LM))
  have G4 := Lib.hid (grown_trans G3.out g4)
  clear g4 h4 LN LM
  go_wp2_with (go_at_call 33; refine LI.out.mono ?_; rintro e w5 ⟨rfl, hg⟩)
  go_ret
  exact ⟨rfl, grown_trans G4.out hg⟩
set_option maxRecDepth 20000 in
set_option maxHeartbeats 3200000 in
theorem text_b (x : Fx) (n o d : Nat) (t : List Int) (hx : x = ⟨n, 2, 0, o, strOfNums t, d, false⟩) (hn : n < 18446744073709551616) (ho : o ≤ 64) (hd : d < 100) (hp : ∀ x ∈ t, 33 ≤ x ∧ x ≤ 126 ∧ x ≠ 37) (hl1 : 1 ≤ t.length) (hl2 : t.length ≤ 255) (hz : Lib.indexByte (strOfNums t).data.toList 0 = -1) (ht : TabOk w) : Calls Tryd.prog 20 #[fxV x] w fun e w' => e = .returned (.string (joinA [hexA n, ⟨#[98, 105, 110, 100]⟩, ⟨(Lib.decDigits o).toArray⟩, strOfNums t, ⟨(Lib.decDigits d).toArray⟩])) ∧ w.grownBy w' none := by
  obtain ⟨SN, hSN⟩ : ∃ S, S = hexA n := ⟨_, rfl⟩
  obtain ⟨SO, hSO⟩ : ∃ S : ByteArray, S = ⟨(Lib.decDigits o).toArray⟩ := ⟨_, rfl⟩
  obtain ⟨SD, hSD⟩ : ∃ S : ByteArray, S = ⟨(Lib.decDigits d).toArray⟩ := ⟨_, rfl⟩
  obtain ⟨ST, hST⟩ : ∃ S, S = strOfNums t := ⟨_, rfl⟩
  have SZ := str_size t
  rw [← hST] at hx hz SZ
  rw [← hSN, ← hSO, ← hSD, ← hST]
  have HSN := Lib.hid hSN
  have HSO := Lib.hid hSO
  have HSD := Lib.hid hSD
  have HST := Lib.hid hST
  clear hSN hSO hSD hST
  have MR := Lib.hid (may_b x (by rw [hx]) (by rw [hx]) (by rw [hx]; simp only []; omega) (by rw [hx]; simp only []; omega) (by rw [hx]; simp only []; omega) (by rw [hx]; exact hz))
  have hnw := FxAt.new w x
  have hg := grown1 w (.cells #[.int .u64 x.at_, .int .i64 x.kind, .int .u64 x.target, .int .i64 x.ord, .string x.sym, .int .i64 x.add, .bool x.weak] 26)
  obtain ⟨W, hW⟩ : ∃ W, w.alloc (.cells #[.int .u64 x.at_, .int .i64 x.kind, .int .u64 x.target, .int .i64 x.ord, .string x.sym, .int .i64 x.add, .bool x.weak] 26) = W := ⟨_, rfl⟩
  obtain ⟨g, hgg⟩ : ∃ g, w.heap.size = g := ⟨_, rfl⟩
  rw [hW] at hnw hg
  rw [hgg] at hnw
  have CC := Lib.hid hnw.c
  have A1 := Lib.hid hnw
  have T1 := Lib.hid (ht.grown hg)
  have G1 := Lib.hid hg
  subst hx
  unfold fxV fxArr at MR ⊢
  simp only [] at hW MR CC ⊢
  clear hnw hg ht
  obtain ⟨c0, c1, c2, c3, c4, c5, c6⟩ := CC.out
  go_enter Tryd.func20, Tryd.ntmps20
  go_upto_region 1 with fail
  clear hW hgg
  go_wp2_with (go_at_call 23; refine (MR.out _).mono ?_; rintro e w2 ⟨rfl, hg⟩; have G2 := Lib.hid (grown_trans G1.out hg); have A2 := Lib.hid (A1.out.grown hg); have T2 := Lib.hid (T1.out.grown hg); clear hg; have C2 := A2.out.c; simp only [] at C2; obtain ⟨b0, b1, b2, b3, b4, b5, b6⟩ := C2)
  clear c0 c1 c2 c3 c4 c5 c6 b1 b2 b6
  have KG := fun d os => grown_below (below_regrown w2 d os) none
  have B0 := fun d os => cell_regrown b0 d os
  have B3 := fun d os => cell_regrown b3 d os
  have B4 := fun d os => cell_regrown b4 d os
  have B5 := fun d os => cell_regrown b5 d os
  have HN := Lib.hid (fun d os => Calls.regrown_of ((hex_any n hn (T2.out.grown (KG d os))).mono (fun _ _ h => (⟨h.1, below_grown h.2 (Nat.le_refl _) (by simp)⟩ : _ ∧ _))))
  have HO := Lib.hid (fun dd os => Calls.regrown_of ((Tryd.strconv_Itoa_small o (by omega) (Go.Sort.grow (redrawn w2 dd) os)).mono (fun _ _ h => (⟨h.1, by rw [h.2]; exact Below.refl _ _⟩ : _ ∧ _))))
  have HD := Lib.hid (fun dd os => Calls.regrown_of ((Tryd.strconv_FormatInt_10_small d hd (Go.Sort.grow (redrawn w2 dd) os)).mono (fun _ _ h => (⟨h.1, by rw [h.2]; exact Below.refl _ _⟩ : _ ∧ _))))
  have HQ := Lib.hid (fun dd os => Calls.regrown_of ((quote_plain t hp (by omega) (Go.Sort.grow (redrawn w2 dd) os)).mono (fun _ _ h => (⟨h.1, below_grown h.2 (Nat.le_refl _) (by simp)⟩ : _ ∧ _))))
  rw [show (⟨#[48, 120]⟩ ++ strOfNums (hexL n) : ByteArray) = SN from HSN.out.symm] at HN
  rw [← HSO.out] at HO
  rw [← HSD.out] at HD
  rw [← HST.out] at HQ
  have LN : SN.size ≤ 100 := by rw [HSN.out]; exact hexA_len n
  have LO : SO.size ≤ 100 := by rw [HSO.out]; exact dec_len o (by omega)
  have LD : SD.size ≤ 100 := by rw [HSD.out]; exact dec_len d hd
  clear b0 b3 b4 b5 T1 CC A1 hz hp
  have HK := Lib.hid KG
  clear KG hn ho hd
  refine wp_region_quiet_tail 12 (by kernel_rfl) (by kernel_rfl) ?_
  simp only [List.take_succ_cons, List.take_zero, List.drop_succ_cons, List.drop_zero]
  iterate 2 (quiet_step (fail))
  quiet_step (with_reducible exact HN.out _ _)
  iterate 2 (quiet_step (fail))
  quiet_step (with_reducible exact HO.out _ _)
  iterate 2 (quiet_step (fail))
  quiet_step (with_reducible exact HQ.out _ _)
  iterate 2 (quiet_step (fail))
  quiet_step (with_reducible exact HD.out _ _)
  refine wpQuiet_nil ?_
  intro _ hw'
  obtain ⟨⟨dq, osq⟩, hw''⟩ := hw'
  subst hw''
  have g3 := HK.out dq osq
  obtain ⟨w3, hw3⟩ : ∃ W, Go.Sort.grow (redrawn w2 dq) osq = W := ⟨_, rfl⟩
  rw [hw3] at g3 ⊢
  clear hw3 HN HO HQ HD HK
  have A3 := Lib.hid (A2.out.grown g3)
  have G3 := Lib.hid (grown_trans G2.out g3)
  clear g3 G2
  have g4 := grown1 w3 (.cells #[.string SN, .string ⟨#[98, 105, 110, 100]⟩, .string SO, .string ST, .string SD] 9)
  have h4 := heap_alloc_new w3 (.cells #[.string SN, .string ⟨#[98, 105, 110, 100]⟩, .string SO, .string ST, .string SD] 9)
  have LI := Lib.hid (line_any (w := w3.alloc (.cells #[.string SN, .string ⟨#[98, 105, 110, 100]⟩, .string SO, .string ST, .string SD] 9)) w3.heap.size 5 [SN, ⟨#[98, 105, 110, 100]⟩, SO, ST, SD] rfl (by decide) (fun j x hx => by
    rw [cell_of h4]
    rcases j with _ | _ | _ | _ | _ | j
    · injection hx with hx; subst hx; rfl
    · injection hx with hx; subst hx; rfl
    · injection hx with hx; subst hx; rfl
    · injection hx with hx; subst hx; rfl
    · injection hx with hx; subst hx; rfl
    · simp at hx) (lt_of_block h4) (join_len5 LN (by decide) LO (by omega) LD))
  have G4 := Lib.hid (grown_trans G3.out g4)
  have A4 := Lib.hid (A3.out.grown g4)
  clear g4 h4 LN LO LD
  go_wp2_with (go_at_call 33; refine LI.out.mono ?_; rintro e w5 ⟨rfl, hg⟩; have C5 := (A4.out.grown hg).c; simp only [] at C5; obtain ⟨f0, f1, f2, f3, f4, f5, f6⟩ := C5; have G5 := Lib.hid (grown_trans G4.out hg); clear hg)
  go_ret
  exact ⟨rfl, G5.out⟩
end Go.Proofs.YtmffpnhdnaokhaaDoor
