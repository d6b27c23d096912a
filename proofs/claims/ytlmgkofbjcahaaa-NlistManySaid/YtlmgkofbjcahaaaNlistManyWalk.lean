/- The walk of NlistMany: just so many names are told, and made, as may be; one that stands there twice is told so. -/
import Derived.Test.YtlmgkofbjcahaaaNlMy
import Derived.Test.YtlmgkofbjcahaaaNlRk
import Derived.Test.YtlmgkofbjcahaaaNlS
namespace Go.Proofs.Ytlmgkofbjcahaaa.nlistMany
open Go.RowKit
/-- Where the loop that lays them stands. -/
structure MyL (w wr : World) (m : Nat) (vl vt vn vi : Value) : Prop where
  ex : ∃ (k : Nat) (ql : Option Addr) (cl : Nat) (qa : Option Addr) (ca : Nat) (qb : Option Addr) (cb : Nat), k ≤ m ∧ vi = .int .i64 (k : Int) ∧ vl = .slice ql k cl ∧ vt = .slice qa (16 * k) ca ∧ vn = .slice qb (1 + 3 * k) cb ∧
    wr.ownsRow w.heap.size 32 4 (.slice ql k cl) k ((manyD k).flatMap syCs) ∧ Duo w wr (.slice qa (16 * k) ca) (tabS (manyD k) k) (.slice qb (1 + 3 * k) cb) (nmB (manyD k))
theorem apartT : (32 : TypeId) ≠ 5 := by decide +kernel
/-- What is done to bytes keeps symbols, and the other way. -/
theorem keepS {w w' : World} {base base' k n m : Nat} {v u : Value} {xs ys : List Value} (h : w.ownsRow base 32 k v n xs) (h' : w.ownsRow base' 5 1 u m ys) (g : w.grownBy w' u.ownBlock) : w'.ownsRow base 32 k v n xs :=
  h.kept g (rows_apart apartT h h')
theorem keepB {w w' : World} {base base' k n m : Nat} {v u : Value} {xs ys : List Value} (h : w.ownsRow base 32 k v n xs) (h' : w.ownsRow base' 5 1 u m ys) (g : w.grownBy w' v.ownBlock) : w'.ownsRow base' 5 1 u m ys :=
  h'.kept g (rows_apart (fun e => apartT e.symm) h' h)
theorem keepD {w0 w w' : World} {n : Nat} {v va vb : Value} {xs : List Value} {A C : List Int} (h : w.ownsRow w0.heap.size 32 4 v n xs) (d : Duo w0 w va A vb C) (g : w.grownBy w' v.ownBlock) : Duo w0 w' va A vb C :=
  ⟨keepB h d.a g, keepB h d.b g, d.ne, grown_own d.grown g (fun b hb => (h.lt b hb).1) (Nat.le_refl _)⟩
/-- A row of one's own, cut. -/
theorem own_cut {w : World} {base n c m : Nat} {q : Option Addr} {xs : List Int} (h : w.ownsRow base 5 1 (.slice q n c) n (xs.map (Value.int .u8))) (h0 : 0 < n) (hm : m ≤ n) : ∃ g, q = some ⟨g, 0, none⟩ ∧ w.ownsRow base 5 1 (.slice q m c) m ((xs.take m).map (Value.int .u8)) := by
  obtain ⟨hl, hx | ⟨g, cap, cur, hv, hb, hg, hle, hmx, hs, ht⟩⟩ := h
  · omega
  · injection hv with e1 _ e3
    subst e1 e3
    refine ⟨g, rfl, ?_, .inr ⟨g, c, cur, rfl, hb, hg, by omega, hmx, hs, ?_⟩⟩
    · rw [List.length_map, List.length_take]
      rw [List.length_map] at hl
      omega
    · rw [List.map_take, ← ht, List.take_take]
      congr 1
      omega
theorem tab_next (k : Nat) : tabS (manyD (k + 1)) (k + 1) = tabS (manyD k) k ++ entS ((1 + 3 * k : Nat) : Int) (symM k).2 := by
  have h1 : ∀ j, j ≤ k → tabS (manyD (k + 1)) j = tabS (manyD k) j := by
    intro j
    induction j with
    | zero => intro _; rfl
    | succ j ih =>
      intro hj
      rw [tabS, tabS, ih (by omega), manyD_take (show j ≤ k + 1 by omega), manyD_take (show j ≤ k by omega), List.getD_eq_getElem?_getD, List.getD_eq_getElem?_getD, manyD_at (show j < k + 1 by omega), manyD_at (show j < k by omega)]
  rw [tabS, h1 k (Nat.le_refl _), manyD_take (by omega), nmM_len, List.getD_eq_getElem?_getD, manyD_at (by omega)]
  rfl
theorem nm_next (k : Nat) : nmB (manyD (k + 1)) = nmB (manyD k) ++ ((symM k).1 ++ [0]) := by
  have := nmB_take (manyD_at (m := k + 1) (i := k) (by omega))
  rwa [manyD_take (Nat.le_refl _), manyD_take (by omega)] at this
set_option maxHeartbeats 6400000 in
set_option maxRecDepth 20000 in
theorem walk (m t : Int) (w : World) (hm : -9223372036854775808 ≤ m ∧ m ≤ 9223372036854775807) (ht : -9223372036854775808 ≤ t ∧ t ≤ 9223372036854775807) :
    Calls Try.prog 7 #[.int .i64 m, .int .i64 t] w fun e w' => e = .returned (.bool true) ∧ Below w.heap.size w w' := by
  have K := Lib.hid (fun w : World => known10_any w)
  have BL := Lib.hid (fun (w' : World) (h : w.grownBy w' none) => (below_grown h (Nat.le_refl _) (fun k e => by cases e) : Below w.heap.size w w'))
  by_cases h1 : m < 4090 ∨ 4100 < m
  · obtain ⟨d0, hd0⟩ : ∃ d, d = decide (m < 4090) := ⟨_, rfl⟩
    obtain ⟨d1, hd1⟩ : ∃ d, d = decide (4100 < m) := ⟨_, rfl⟩
    have hor : (d0 || d1) = true := by rw [hd0, hd1]; simp; omega
    have q0 := hd0.symm
    have q1 := hd1.symm
    clear h1 hd0 hd1 hm ht
    cases d0 <;> cases d1 <;> first | (cases hor; done) | (
      go_enter Try.func7, Try.ntmps7
      go_wp2_with fail
      refine (K.out _).mono ?_
      rintro e w' ⟨rfl, hg⟩
      have B := Lib.hid (BL.out _ hg)
      clear hg
      go_wp2
      go_ret
      exact ⟨rfl, B.out⟩)
  have q0 : decide (m < 4090) = false := by simp; omega
  have q1 : decide (4100 < m) = false := by simp; omega
  obtain ⟨M, rfl⟩ : ∃ M : Nat, m = M := ⟨m.toNat, by omega⟩
  have hM0 : 4090 ≤ M := by omega
  have hM1 : M ≤ 4100 := by omega
  clear h1 hm
  have s1 : Duo w (w.alloc (.cells #[.int .u8 0] 5)) (.slice none (16 * 0) 0) (tabS (manyD 0) 0) (.slice (some ⟨w.heap.size, 0, none⟩) (1 + 3 * 0) 1) (nmB (manyD 0)) :=
    ⟨World.ownsRow_nil _ _ _ _, World.ownsRow_lit w #[.int .u8 0] 1 (Nat.le_refl _) (by decide) rfl, fun g hg => (by cases hg), grown1 w _⟩
  have ST := Lib.hid (show MyL w (w.alloc (.cells #[.int .u8 0] 5)) M (.slice none 0 0) (.slice none 0 0) (.slice (some ⟨w.heap.size, 0, none⟩) 1 1) (.int .i64 0) from ⟨⟨0, none, 0, _, _, _, _, Nat.zero_le _, rfl, rfl, rfl, rfl, World.ownsRow_nil _ _ _ _, s1⟩⟩)
  clear s1
  go_enter Try.func7, Try.ntmps7
  go_wp2
  go_loopw [5, 6, 7, 8] (fun vl vt vn vi wr => MyL w wr M vl vt vn vi) (fun _ _ _ vi _ => M - (intOf vi).toNat)
  case atStart => exact ST.out
  case round =>
    obtain ⟨⟨k, ql, cl, qa, ca, qb, cb, hk, rfl, rfl, rfl, rfl, hl, hd⟩⟩ := hrel
    obtain ⟨P, hP⟩ : ∃ P, P = 1 + 3 * k := ⟨_, rfl⟩
    obtain ⟨Tn, hTn⟩ : ∃ T, T = 16 * k := ⟨_, rfl⟩
    rw [← hP, ← hTn] at hd ⊢
    have hPb : P ≤ 20000 := by omega
    have hTb : Tn ≤ 80000 := by omega
    have HP := Lib.hid hP
    have HT := Lib.hid hTn
    have LT := Lib.hid (show (tabS (manyD k) k).length = Tn by rw [tabS_len, hTn])
    have LN := Lib.hid (show (nmB (manyD k)).length = P by rw [nmM_len, hP])
    have TN := tab_next k
    have NN := nm_next k
    rw [← hP] at TN
    clear hP hTn
    obtain ⟨TS, hTS⟩ : ∃ T, T = tabS (manyD k) k := ⟨_, rfl⟩
    obtain ⟨NS, hNS⟩ : ∃ T, T = nmB (manyD k) := ⟨_, rfl⟩
    rw [← hTS] at hd LT TN
    rw [← hNS] at hd LN NN
    by_cases hlt : k < M
    · have dl : decide ((k : Int) < (M : Int)) = true := by simp; omega
      have dl2 : decide (k < M) = true := decide_eq_true hlt
      have hkI : (k : Int) < 4100 := by omega
      have hsy : (symM k).1 = [97 + (k : Int) % 64, 97 + (k : Int) / 64] := by
        show [((97 + k % 64 : Nat) : Int), ((97 + k / 64 : Nat) : Int)] = _
        congr 1
      have cv : (convert 22 9 (.slice (some ⟨wr.heap.size, 0, none⟩) 2 2)).run Try.prog (wr.alloc (.cells #[.int .u8 (97 + (k : Int) % 64), .int .u8 (97 + (k : Int) / 64)] 5)) = .ok (.string (strOfNums (symM k).1)) (wr.alloc (.cells #[.int .u8 (97 + (k : Int) % 64), .int .u8 (97 + (k : Int) / 64)] 5)) := by
        rw [hsy]
        exact (two_bytes wr (97 + (k : Int) % 64) (97 + (k : Int) / 64)).text rfl
      have g1 := grown1 wr (.cells #[.int .u8 (97 + (k : Int) % 64), .int .u8 (97 + (k : Int) / 64)] 5)
      obtain ⟨w1, hw1⟩ : ∃ W, W = wr.alloc (.cells #[.int .u8 (97 + (k : Int) % 64), .int .u8 (97 + (k : Int) / 64)] 5) := ⟨_, rfl⟩
      rw [← hw1] at g1
      have L1 := own_grown hl g1
      have D1 := hd.past g1
      have hln : (symM k).1.length = 2 := rfl
      have hst : (strOfNums (symM k).1).size = 2 := by rw [strOfNums_size, hln]
      have BY := Lib.hid (symM_byt (i := k) (by omega))
      have SYS := Lib.hid (show syCs (symM k) = [.string (strOfNums (symM k).1), .int .i64 0, .int .u64 (k : Int), .bool false] from rfl)
      obtain ⟨S, hS⟩ : ∃ S, S = (symM k).1 := ⟨_, rfl⟩
      rw [← hS] at cv BY SYS hst hln NN
      obtain ⟨EV, hEV⟩ : ∃ E, E = entS (P : Int) (symM k).2 := ⟨_, rfl⟩
      rw [← hEV] at TN
      have LE := Lib.hid (show EV.length = 16 by rw [hEV]; exact entS_len _ _)
      have EN := Lib.hid (fun V => (show Calls Try.prog 18 #[.int .i64 (P : Int), .int .i64 3, .int .i64 0, .int .i64 0, .int .u64 (k : Int)] V fun e w' => NOut V w' EV e from by rw [hEV]; exact entry10_any P (by omega) 3 (by decide) 0 (by decide) 0 (by decide) (k : Int) (by omega) V))
      have TNH := Lib.hid TN
      have NNH := Lib.hid NN
      clear TN NN hEV hTS hNS
      have HS := Lib.hid hS
      have g2 := grown1 w1 (.cells #[.string (strOfNums S), .int .i64 0, .int .u64 (k : Int), .bool false] 32)
      have L2 := Lib.hid (own_grown L1 g2)
      have D2 := Lib.hid (D1.past g2)
      have N2 := Lib.hid (heap_alloc_new w1 (.cells #[.string (strOfNums S), .int .i64 0, .int .u64 (k : Int), .bool false] 32))
      have HW1 := Lib.hid hw1.symm
      have BW2 := Lib.hid (D1.past g2).grown.size
      have hf : (k + 1) * 40 ≤ 140737488355328 := by omega
      clear hl hd g1 g2 L1 D1 hsy hS hw1
      go_upto_region 10 with fail
      rw [HW1.out]
      clear HW1 cv
      go_wp2_with (at_builtin; refine wp_append_st syType rfl _ _ rfl _ k _ rfl L2.out [.string (strOfNums S), .int .i64 0, .int .u64 (k : Int), .bool false] rfl w1.heap.size rfl N2.out (by intro u hu; simp only [List.mem_cons, List.not_mem_nil, or_false] at hu; rcases hu with rfl | rfl | rfl | rfl <;> rfl) hf (by decide) BW2.out ?_)
      intro v3 w3 ho hg
      have D3 := Lib.hid (keepD L2.out D2.out hg)
      have L3 := Lib.hid (show w3.ownsRow w.heap.size 32 4 v3 (k + 1) ((manyD (k + 1)).flatMap syCs) from by
        rw [manyD_snoc, List.flatMap_append, List.flatMap_singleton, SYS.out]; exact ho)
      obtain ⟨q3, c3, rfl⟩ := own_slice ho
      clear ho hg
      go_wp2_with fail
      refine (EN.out w3).mono ?_
      rintro e w4 ⟨⟨qe, ce, rfl, hoe⟩, hge⟩
      rw [LE.out] at hoe ⊢
      have BE := Lib.hid (IsBytes.of_own LE.out hoe)
      have D4 := Lib.hid (D3.out.past hge)
      have L4 := Lib.hid (own_grown L3.out hge)
      have B4 := Lib.hid D4.out.grown.size
      have RT := Lib.hid (RowTo.refl D4.out.a)
      clear hoe hge
      go_wp2_with (at_builtin; refine wp_append_to rfl (.tmp 47) (.tmp 52) rfl rfl (v := .slice qa Tn ca) (by rfl) RT.out EV 16 LE.out rfl BE.out (by rw [LT.out]; omega) B4.out ?_)
      intro q5 c5 w5 hr5
      rw [LT.out, ← TNH.out] at hr5
      rw [LT.out]
      have D5 := Lib.hid (D4.out.step hr5)
      have L5 := Lib.hid (keepS L4.out D4.out.a hr5.grown)
      have LTA := Lib.hid hr5.len
      have B5 := Lib.hid D5.out.grown.size
      have RN := Lib.hid (RowTo.refl D5.out.symm.a)
      have HPB := Lib.hid (show NS.length + S.length ≤ 140737488355328 by rw [LN.out, hln]; omega)
      clear hr5
      go_wp2_with (at_builtin; refine wp_append_sto rfl (.tmp 54) (.tmp 55) rfl rfl (v := .slice qb P cb) (by rfl) RN.out S BY.out (by rfl) HPB.out B5.out ?_)
      intro q6 c6 w6 hr6
      rw [LN.out] at hr6 ⊢
      have R6 := Lib.hid (RowTo.past hr6 (grown1 w6 (.cells #[.int .u8 0] 5)))
      have B6 := Lib.hid (Nat.le_trans B5.out (Nat.le_trans hr6.grown.size (grown1 w6 (.cells #[.int .u8 0] 5)).size))
      have IB := Lib.hid (one_byte w6 0)
      have L6 := Lib.hid hr6.len
      obtain ⟨X6, hX6⟩ : ∃ X, NS ++ S = X := ⟨_, rfl⟩
      rw [hX6] at R6 L6
      have HX6 := Lib.hid hX6
      clear hr6 hX6
      go_wp2_with (at_builtin; refine wp_append_to rfl (.tmp 56) (.tmp 57) rfl rfl (v := .slice q6 (P + 2) c6) (by rfl) R6.out [0] 1 rfl rfl IB.out (by rw [L6.out]; omega) B6.out ?_)
      intro q7 c7 w7 hr7
      rw [L6.out, show X6 ++ [0] = nmB (manyD (k + 1)) by rw [NNH.out, ← HX6.out, List.append_assoc]] at hr7
      rw [L6.out]
      have D7 := Lib.hid (D5.out.symm.step hr7).symm
      have L7 := Lib.hid (keepS L5.out D5.out.b hr7.grown)
      clear hr7
      go_wp2
      go_roundw
      case rel => exact ⟨⟨k + 1, q3, c3, q5, c5, q7, c7, hlt, by simp, rfl, by rw [HT.out]; rfl, by rw [HP.out]; rfl, L7.out, by
        rw [show 16 * (k + 1) = Tn + 16 by rw [HT.out]; omega, show 1 + 3 * (k + 1) = P + 2 + 1 by rw [HP.out]; omega]
        exact D7.out⟩⟩
      case measure => simp [intOf]; omega
    · have hkM : M = k := by omega
      subst hkM
      have dl : decide ((M : Int) < (M : Int)) = false := by simp
      have SL := Lib.hid (SysAt.of hl)
      have CL := own_cap hl
      have ROWL := Lib.hid hl
      have DD := Lib.hid hd
      have MP := Lib.hid (Make10_any (D := manyD M) (c := cl) (manyD_len M) SL.out (by omega) (fun y hy => by
        obtain ⟨i, hi, rfl⟩ := manyD_mem hy
        exact ⟨symM_byt (by omega), by simp [symM], by constructor <;> (simp only [symM]; omega), by constructor <;> (simp only [symM]; omega)⟩))
      have G1 := Lib.hid hd.grown
      have IT := Lib.hid (IsBytes.of_own LT.out (by have := hd.a; rw [LT.out] at this; exact this))
      have IN := Lib.hid (IsBytes.of_own LN.out (by have := hd.b; rw [LN.out] at this; exact this))
      have CT := Lib.hid (own_cap (by have := hd.a; rw [LT.out] at this; exact this))
      have CN := Lib.hid (own_cap (by have := hd.b; rw [LN.out] at this; exact this))
      have BT := Lib.hid (show Byt TS by rw [hTS]; exact tabS_byt _ _)
      have BN := Lib.hid (show Byt NS by rw [hNS]; exact nmB_byt (fun y hy => by obtain ⟨i, hi, rfl⟩ := manyD_mem hy; exact symM_byt (by omega)))
      have hall := many_all (m := M) (by omega)
      rw [← hTS, ← hNS] at hall
      have AL := Lib.hid (fun (V : World) (hV : wr.grownBy V none) => allP_any (w := V) (n := 0) (IT.out.kept hV (by simp)) LT.out (by omega) CT.out.1 CT.out.2 BT.out (IN.out.kept hV (by simp)) LN.out (by omega) BN.out)
      rw [hall] at AL
      have hme := many_err (m := M) (by omega)
      have HTS := Lib.hid hTS
      have HNS := Lib.hid hNS
      clear hl hd TN NN hall hTS hNS hlt
      by_cases h4 : 4096 < M
      · have d4 : decide ((4096 : Int) < (M : Int)) = true := by simp; omega
        rw [if_pos h4] at AL hme
        have HME := Lib.hid hme
        clear hme h4
        go_wp2_with fail
        refine MP.out.mono ?_
        rintro r x2 ⟨⟨qc, cc, qd, cd, rfl, -, -, -, -, -, -⟩, hg⟩
        have GW2 := Lib.hid hg
        rw [HME.out]
        generalize (mkT (manyD M)).length = l1 at *
        generalize (mkN (manyD M)).length = l2 at *
        clear hg
        go_wp2_with fail
        refine (AL.out x2 GW2.out).mono ?_
        rintro r x3 ⟨⟨q3, c3, rfl, -, -, -⟩, hbel⟩
        have G3 := Lib.hid (grown_trans (grown_trans G1.out GW2.out) (grown_below hbel none))
        clear hbel
        simp only [List.length_nil]
        go_wp2_with fail
        refine (K.out _).mono ?_
        rintro e x4 ⟨rfl, hg⟩
        have B := Lib.hid (BL.out _ (grown_trans G3.out hg))
        clear hg
        go_wp2
        go_ret
        exact ⟨rfl, B.out⟩
      · have d4 : decide ((4096 : Int) < (M : Int)) = false := by simp; omega
        rw [if_neg h4] at AL hme
        have HME := Lib.hid hme
        have H4 := Lib.hid h4
        clear hme h4
        go_wp2_with fail
        refine MP.out.mono ?_
        rintro r x2 ⟨⟨qc, cc, qd, cd, rfl, -, -, -, -, -, -⟩, hg⟩
        have GW2 := Lib.hid hg
        rw [HME.out]
        generalize (mkT (manyD M)).length = l1 at *
        generalize (mkN (manyD M)).length = l2 at *
        clear hg
        go_wp2_with fail
        refine (AL.out x2 GW2.out).mono ?_
        rintro r x3 ⟨⟨q3, c3, rfl, hsa, -, -⟩, hbel⟩
        have GW3 := Lib.hid (grown_trans GW2.out (grown_below hbel none))
        simp only [manyD_len] at hsa ⊢
        have SM := Lib.hid (same10_any (manyD M) M (manyD_len M) q3 ql c3 cl (by omega) hsa (SL.out.grown GW3.out))
        clear hbel hsa
        go_wp2_with fail
        refine SM.out.mono ?_
        rintro e x4 ⟨rfl, hg⟩
        have GW4 := Lib.hid (grown_trans GW3.out hg)
        clear hg SM
        by_cases htt : t < 0 ∨ (M : Int) ≤ t
        · obtain ⟨e0, he0⟩ : ∃ d, d = decide (t < 0) := ⟨_, rfl⟩
          obtain ⟨e1, he1⟩ : ∃ d, d = decide ((M : Int) ≤ t) := ⟨_, rfl⟩
          have hor : (e0 || e1) = true := by rw [he0, he1]; simp; omega
          have r0 := he0.symm
          have r1 := he1.symm
          clear htt he0 he1 ht
          cases e0 <;> cases e1 <;> first | (cases hor; done) | (
            go_wp2_with fail
            refine (K.out _).mono ?_
            rintro e w' ⟨rfl, hg⟩
            have B := Lib.hid (BL.out _ (grown_trans (grown_trans G1.out GW4.out) hg))
            clear hg
            go_wp2
            go_ret
            exact ⟨rfl, B.out⟩)
        · have r0 : decide (t < 0) = false := by simp; omega
          have r1 : decide ((M : Int) ≤ t) = false := by simp; omega
          obtain ⟨T, rfl⟩ : ∃ T : Nat, t = T := ⟨t.toNat, by omega⟩
          have hTM : T < M := by omega
          clear htt ht
          have hU0 : 0 < Tn := by rw [HT.out]; omega
          obtain ⟨U, hU⟩ : ∃ U, U = 16 * (M - 1) := ⟨_, rfl⟩
          have hUT : U ≤ Tn := by rw [hU, HT.out]; omega
          have hUb : U ≤ 80000 := by omega
          have hUI : 16 * ((M : Int) - 1) = (U : Int) := by omega
          obtain ⟨P2, hP2⟩ : ∃ P, P = 1 + 3 * T := ⟨_, rfl⟩
          have hPI : 1 + 3 * (T : Int) = (P2 : Int) := by omega
          have hPle : P2 ≤ 20000 := by omega
          have dd := DD.out.past (grown_trans GW4.out (show x4.grownBy x4.drew none from grown_drewN (grown_refl x4 none) 1))
          have ha := dd.a
          rw [LT.out] at ha
          obtain ⟨g, rfl, hcut⟩ := own_cut ha hU0 hUT
          have htk : TS.take U = tabS (manyD M) (M - 1) := by
            rw [HTS.out]
            obtain ⟨M', rfl⟩ : ∃ M', M = M' + 1 := ⟨M - 1, by omega⟩
            rw [tabS, List.take_left' (by rw [tabS_len, hU, Nat.add_sub_cancel])]
            rfl
          rw [htk] at hcut
          have dc : Duo w x4.drew (.slice (some ⟨g, 0, none⟩) U ca) (tabS (manyD M) (M - 1)) (.slice qb P cb) NS := ⟨by rw [tabS_len, ← hU]; exact hcut, dd.b, dd.ne, dd.grown⟩
          have hUca : U ≤ ca := by have := CT.out.1; omega
          have SLC := Lib.hid (fun W => (show (Instr.slice 22 (.slice (some ⟨g, 0, none⟩) Tn ca) none (some (.int .i64 (16 * ((M : Int) - 1)))) none).run Try.prog W = .ok (.slice (some ⟨g, 0, none⟩) U ca) W from by rw [hUI]; exact cut_hi (T := 22) (k := 1) (by kernel_rfl) (fun W => by kernel_rfl) g 0 Tn ca U .i64 hUca W))
          obtain ⟨TP, hTP⟩ : ∃ X, X = tabS (manyD M) (M - 1) := ⟨_, rfl⟩
          rw [← hTP] at dc
          have LP := Lib.hid (show TP.length = U by rw [hTP, tabS_len, hU])
          obtain ⟨EV, hEV⟩ : ∃ E, E = entS (P2 : Int) ⟨0, 0, false⟩ := ⟨_, rfl⟩
          have LE := Lib.hid (show EV.length = 16 by rw [hEV]; exact entS_len _ _)
          have EN := Lib.hid (fun V => (show Calls Try.prog 18 #[.int .i64 (1 + 3 * (T : Int)), .int .i64 3, .int .i64 0, .int .i64 0, .int .u64 0] V fun e w' => NOut V w' EV e from by rw [hEV, hPI]; exact entry10_any P2 (by omega) 3 (by decide) 0 (by decide) 0 (by decide) 0 (by decide) V))
          have hmt := many_twice (m := M) ⟨by omega, by have := H4.out; omega⟩ hTM
          rw [← hTP, ← hP2, ← hEV, ← HNS.out] at hmt
          have BP := Lib.hid (show Byt (TP ++ EV) by rw [hTP, hEV]; exact (tabS_byt _ _).app (entS_byt _ _))
          have HMT := Lib.hid hmt
          have DC := Lib.hid dc
          have RC := Lib.hid (RowTo.refl dc.a)
          have BC := Lib.hid dc.grown.size
          have y1 := SLC.out x4.drew
          have i64 : ∀ x : Int, 0 ≤ x → x ≤ 1000000 → IntKind.i64.wrap x = x := fun x h0 h1 => by rw [IntWalk.i64_left]; exact IntWalk.wrap64_in x ⟨by omega, by omega⟩
          have w1 := i64 ((M : Int) - 1) (by omega) (by omega)
          have w2 := i64 (16 * ((M : Int) - 1)) (by omega) (by omega)
          have w3 := i64 (3 * (T : Int)) (by omega) (by omega)
          have w4 := i64 (1 + 3 * (T : Int)) (by omega) (by omega)
          clear i64
          have dT : decide ((T : Int) < (M : Int) - 1) = decide (T < M - 1) := decide_eq_decide.2 (by omega)
          clear dd ha hcut htk dc hTP hEV hmt hU hP2 hUT hUca hUI hPI
          go_wp2
          go_region_held3 (fun W => (Instr.slice 22 (.slice (some ⟨g, 0, none⟩) Tn ca) none (some (.int .i64 (16 * ((M : Int) - 1)))) none).run Try.prog W = .ok (.slice (some ⟨g, 0, none⟩) U ca) W)
            (exact y1)
            (first
              | (go_simp; go_at_call 18; (with_reducible refine (EN.out _).mono ?_); rintro e x5 ⟨⟨qe, ce, rfl, hoe⟩, hge⟩; rw [LE.out] at hoe ⊢; have BE := Lib.hid (IsBytes.of_own LE.out hoe); have RD := Lib.hid (RC.out.past hge); have BD := Lib.hid (Nat.le_trans BC.out hge.size); have y2 := SLC.out x5; clear y1; have y1 := y2; clear y2)
              | (refine step_append_to (by with_reducible rfl) _ _ (by with_reducible rfl) (by with_reducible rfl) (v := .slice (some ⟨g, 0, none⟩) U ca) (by rfl) RD.out EV 16 LE.out (by rfl) BE.out (by rw [LP.out]; omega) BD.out ?_; intro q6 c6 x6 hr6; rw [LP.out] at hr6 ⊢; have y2 := SLC.out x6; clear y1; have y1 := y2; clear y2))
          clear y1 w1 w2 w3 w4
          have D6 := DC.out.step hr6
          have G6 := Lib.hid D6.grown
          have I6 := Lib.hid (IsBytes.of_own (by rw [List.length_append, LP.out, LE.out]) hr6.row)
          have C6 := Lib.hid (own_cap hr6.row)
          have N6 := Lib.hid (IsBytes.of_own LN.out (by have := D6.b; rw [LN.out] at this; exact this))
          have A6 := Lib.hid (allP_any (w := x6) (n := 0) (t := TP ++ EV) I6.out (by rw [List.length_append, LP.out, LE.out]) (by omega) C6.out.1 C6.out.2 BP.out N6.out LN.out (by omega) BN.out)
          have hmt := HMT.out
          generalize nlAll (TP ++ EV) NS 0 = R2 at *
          obtain ⟨E2, DD2⟩ := R2
          simp only [] at hmt
          subst hmt
          clear hr6 D6
          go_wp2_with fail
          refine A6.out.mono ?_
          rintro r x7 ⟨⟨q7, c7, rfl, -, -, -⟩, hbel⟩
          have G7 := Lib.hid (grown_trans G6.out (grown_below hbel none))
          clear hbel
          by_cases hlast : T < M - 1
          · rw [decide_eq_true hlast] at dT
            rw [if_pos hlast]
            generalize DD2.length = l7 at *
            clear hlast
            go_wp2_with fail
            refine (K.out _).mono ?_
            rintro e x8 ⟨rfl, hg⟩
            have B := Lib.hid (BL.out _ (grown_trans G7.out hg))
            clear hg
            go_wp2
            go_ret
            exact ⟨rfl, B.out⟩
          · rw [decide_eq_false hlast] at dT
            rw [if_neg hlast]
            generalize DD2.length = l7 at *
            clear hlast
            go_wp2_with fail
            refine (K.out _).mono ?_
            rintro e x8 ⟨rfl, hg⟩
            have B := Lib.hid (BL.out _ (grown_trans G7.out hg))
            clear hg
            go_wp2
            go_ret
            exact ⟨rfl, B.out⟩
end Go.Proofs.Ytlmgkofbjcahaaa.nlistMany
