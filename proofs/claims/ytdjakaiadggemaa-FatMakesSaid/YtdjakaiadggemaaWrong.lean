/- Why slices may not stand in a file: the two loops over them. No condition. -/
import Derived.Test.YtdjakaiadggemaaBad
import Derived.Deep.Cut
import Derived.Deep.CutRange
import Derived.Lib.QuietBelow
namespace Go.Proofs.Ytdjakaiadggemaa
open Go.RowKit Go.Sort
variable {w w' : World}

/-- Nothing was found below k; the slices lie where they did. -/
structure WRel (w wr : World) (p : Option Addr) (l : List Sl) (X : Nat → Prop) (k : Nat) : Prop where
  le : k ≤ l.length
  none : ∀ i, i < k → ¬ X i
  sl : IsSl wr p l
  grown : w.grownBy wr Option.none
theorem IsSl.take {p : Option Addr} {l : List Sl} (h : IsSl w p l) (k : Nat) : IsSl w p (l.take k) := by
  intro hl
  obtain ⟨b, o, rfl, hc⟩ := h (by simp at hl; omega)
  refine ⟨b, o, rfl, fun i s hs => hc i s ?_⟩
  rw [List.getElem?_take] at hs
  split at hs
  · exact hs
  · cases hs
theorem WRel.next {wr : World} {p : Option Addr} {l : List Sl} {X : Nat → Prop} {k : Nat} (h : WRel w wr p l X k) (hlt : k < l.length) (hx : ¬ X k) (hg : wr.grownBy w' Option.none) : WRel w w' p l X (k + 1) :=
  ⟨hlt, fun i hi => by rcases Nat.lt_or_ge i k with h1 | h1; exact h.none i h1; obtain rfl : i = k := by omega
                       exact hx, h.sl.grown hg, grown_trans h.grown hg⟩
theorem any_take {l : List Sl} {k : Nat} {pr : Sl → Bool} (hk : k ≤ l.length) : (l.take k).any pr = true ↔ ∃ j t, j < k ∧ l[j]? = some t ∧ pr t = true := by
  rw [List.any_eq_true]
  constructor
  · rintro ⟨x, hx, hp⟩
    obtain ⟨i, hi, rfl⟩ := List.getElem_of_mem hx
    simp only [List.length_take] at hi
    exact ⟨i, _, by omega, by rw [List.getElem_take]; exact List.getElem?_eq_getElem (by omega), hp⟩
  · rintro ⟨j, t, hj, ht, hp⟩
    exact ⟨t, List.mem_of_getElem? (i := j) (by rw [List.getElem?_take, if_pos hj]; exact ht), hp⟩

open Classical in
theorem twice_any (l : List Sl) (hl : l.length ≤ 1152921504606846976) (hfit : ∀ t ∈ l, t.Fits) (p : Option Addr) (c : Nat) (hp : IsSl w p l) (hc : l.length ≤ c) (hcm : c ≤ 9223372036854775807) :
    Calls Try.prog 33 #[.slice p l.length c] w fun e w' => e = .returned (.bool (decide (Twin l))) ∧ w.grownBy w' none := by
  have R0 : WRel w w p l (TwinAt l) 0 := ⟨Nat.zero_le _, fun i hi => by omega, hp, grown_refl _ _⟩
  have F := Lib.hid hfit
  obtain ⟨b, hb⟩ : ∃ b, b = decide (Twin l) := ⟨_, rfl⟩
  rw [← hb]
  have HB := Lib.hid hb
  have I := Lib.hid (fun (w : World) (s : Sl) (hs : s ∈ l) (k : Nat) (hk : k ≤ l.length) (hp : IsSl w p l) (g : Nat) (ha : SlAt w g s) => contains_any (w := w) (l.take k) k (by simp; omega) (by omega) p c (hp.take k) 57 (enters_of Try.func57 (by kernel_rfl) rfl) g (fun t => t.alike s) (fun t ht w' hg' => twice1_any t (hfit t (List.mem_of_mem_take ht)) g s (hfit s hs) (ha.grown hg')))
  clear hfit hp hb
  go_enter Try.func33, Try.ntmps33
  go_wp2
  go_loopw [7] (fun i wr => ∃ k : Nat, i = .int .i64 k ∧ WRel w wr p l (TwinAt l) k) (fun i _ => l.length - (intOf i).toNat)
  case atStart => exact ⟨0, rfl, R0⟩
  case round =>
    obtain ⟨k, rfl, hk⟩ := hrel
    have hle := hk.le
    by_cases hlt : k < l.length
    · obtain ⟨s, hs⟩ : ∃ s, l[k]? = some s := ⟨_, List.getElem?_eq_getElem hlt⟩
      have hmem : s ∈ l := List.mem_of_getElem? hs
      obtain ⟨b', o, rfl, hc'⟩ := hk.sl (by omega)
      obtain ⟨c0, c1, c2, c3, c4⟩ := hc' k s hs
      have K := Lib.hid hk
      have S := Lib.hid hs
      have M := Lib.hid hmem
      clear hk hs hmem hc'
      go_wp2_with fail
      refine (I.out _ s M.out k (by omega) (K.out.sl.grown (grown1 _ _)) _ (SlAt.new wr s)).mono ?_
      rintro e w' ⟨rfl, hg⟩
      have G := Lib.hid (grown_trans (grown1 _ _) hg)
      clear hg
      cases hpr : (l.take k).any (fun t => t.alike s)
      · have hno : ¬ TwinAt l k := by
          rintro ⟨s', hs', hx⟩
          rw [S.out] at hs'
          injection hs' with hs'
          subst hs'
          rw [(any_take (Nat.le_of_lt hlt)).2 hx] at hpr
          cases hpr
        have N := Lib.hid hno
        clear hno hpr
        go_wp2
        go_roundw
        case rel => exact ⟨k + 1, by go_num, K.out.next hlt N.out G.out⟩
        case measure => simp [intOf]; omega
      · have hyes : Twin l := ⟨k, s, S.out, (any_take (Nat.le_of_lt hlt)).1 hpr⟩
        have N := Lib.hid hyes
        clear hyes hpr
        go_wp2
        go_ret
        exact ⟨ret_bool (by rw [HB.out, decide_eq_true N.out]), grown_trans K.out.grown G.out⟩
    · have hk' : k = l.length := by omega
      subst hk'
      have hno : ¬ Twin l := fun ⟨i, hi⟩ => by
        obtain ⟨s, hs, hx⟩ := hi
        have : i < l.length := by
          rcases Nat.lt_or_ge i l.length with h | h
          · exact h
          · simp [h] at hs
        exact hk.none i this ⟨s, hs, hx⟩
      have N := Lib.hid hno
      have K := Lib.hid hk
      clear hk hno
      go_wp2
      go_ret
      exact ⟨ret_bool (by rw [HB.out, decide_eq_false N.out]), K.out.grown⟩

open Classical in
theorem wrong_any (l : List Sl) (hl : l.length ≤ 1152921504606846976) (hfit : ∀ t ∈ l, t.Fits) (p : Option Addr) (c : Nat) (hp : IsSl w p l) (hc : l.length ≤ c) (hcm : c ≤ 9223372036854775807)
    (e all : Int) (he : 0 ≤ e ∧ e < 18446744073709551616) (ha : 0 ≤ all ∧ all < 18446744073709551616) :
    Calls Try.prog 43 #[.slice p l.length c, .int .u64 e, .int .u64 all] w fun x w' => x = .returned (.int .i64 (if Bad l e all then 4 else if Twin l then 21 else 0)) ∧ w.grownBy w' none := by
  have R0 : WRel w w p l (BadAt l e all) 0 := ⟨Nat.zero_le _, fun i hi => by omega, hp, grown_refl _ _⟩
  have TW := Lib.hid (fun (w : World) (hp : IsSl w p l) => twice_any l hl hfit p c hp hc hcm)
  have M := Lib.hid (fun (w : World) (s : Sl) (hs : s ∈ l) => may_any (w := w) s (hfit s hs) e all he ha)
  have A := Lib.hid (fun (w : World) (s : Sl) (hs : s ∈ l) (k : Nat) (hk : k ≤ l.length) (hp : IsSl w p l) => meetsAny_any (w := w) s (hfit s hs) (l.take k) k (by simp; omega) (by omega) (fun t ht => hfit t (List.mem_of_mem_take ht)) p c (hp.take k))
  obtain ⟨b, hb⟩ : ∃ b : Int, b = (if Bad l e all then 4 else if Twin l then 21 else 0) := ⟨_, rfl⟩
  rw [← hb]
  have HB := Lib.hid hb
  clear hfit hp hb he ha
  go_enter Try.func43, Try.ntmps43
  go_wp2
  go_loopw [11] (fun i wr => ∃ k : Nat, i = .int .i64 k ∧ WRel w wr p l (BadAt l e all) k) (fun i _ => l.length - (intOf i).toNat)
  case atStart => exact ⟨0, rfl, R0⟩
  case round =>
    obtain ⟨k, rfl, hk⟩ := hrel
    have hle := hk.le
    by_cases hlt : k < l.length
    · obtain ⟨s, hs⟩ : ∃ s, l[k]? = some s := ⟨_, List.getElem?_eq_getElem hlt⟩
      have hmem : s ∈ l := List.mem_of_getElem? hs
      obtain ⟨b', o, rfl, hc'⟩ := hk.sl (by omega)
      obtain ⟨c0, c1, c2, c3, c4⟩ := hc' k s hs
      have K := Lib.hid hk
      have S := Lib.hid hs
      have E := Lib.hid hmem
      clear hk hs hmem hc'
      have hkc : k ≤ c := by omega
      have hz := SlAt.new wr s
      have hsl := K.out.sl.grown (grown1 wr (.cells #[.int .u32 s.cpu, .int .u32 s.sub, .int .u64 s.off, .int .u64 s.size, .int .i64 s.align] 42))
      have hgr := grown1 wr (.cells #[.int .u32 s.cpu, .int .u32 s.sub, .int .u64 s.off, .int .u64 s.size, .int .i64 s.align] 42)
      go_upto_region 4 with fail
      generalize hW : wr.alloc _ = W at *
      have k0 := fun d os => cell_regrown hz.c0 d os
      have k1 := fun d os => cell_regrown hz.c1 d os
      have k2 := fun d os => cell_regrown hz.c2 d os
      have k3 := fun d os => cell_regrown hz.c3 d os
      have k4 := fun d os => cell_regrown hz.c4 d os
      clear hW hz
      have cM := fun d os => Calls.regrown_of ((M.out (grow (redrawn W d) os) s E.out).mono (fun _ _ h => (⟨h.1, below_grown h.2 (Nat.le_refl _) (by simp)⟩ : _ ∧ _)))
      have cA := fun d os => Calls.regrown_of ((A.out (grow (redrawn W d) os) s E.out k (by omega) (hsl.grown (grown_below (below_regrown W d os) none))).mono (fun _ _ h => (⟨h.1, below_grown h.2 (Nat.le_refl _) (by simp)⟩ : _ ∧ _)))
      have G := Lib.hid hgr
      clear hsl hgr
      rw [show s.v = .agg #[.int .u32 s.cpu, .int .u32 s.sub, .int .u64 s.off, .int .u64 s.size, .int .i64 s.align] from rfl] at cM cA
      cases hm : s.may e all
      · have hx : Bad l e all := ⟨k, s, S.out, .inl hm⟩
        have X := Lib.hid hx
        rw [hm] at cM
        have CM := Lib.hid cM
        clear hm hx cM cA
        refine wp_region_quiet_below (by kernel_rfl) (by kernel_rfl) ?_
        repeat (quiet_step (exact CM.out _ _))
        refine wpQuiet_nil ?_
        intro _ hw'
        obtain ⟨⟨dq, osq⟩, hw''⟩ := hw'
        subst hw''
        go_wp2
        go_ret
        exact ⟨ret_int (by rw [HB.out, if_pos X.out]), grown_trans (grown_trans K.out.grown G.out) (grown_below (below_regrown W dq osq) none)⟩
      · rw [hm] at cM
        have CM := Lib.hid cM
        cases hpr : (l.take k).any (fun t => s.meet t)
        · have hno : ¬ BadAt l e all k := by
            rintro ⟨s', hs', hx⟩
            rw [S.out] at hs'
            injection hs' with hs'
            subst hs'
            rcases hx with hx | hx
            · rw [hm] at hx; cases hx
            · rw [(any_take (Nat.le_of_lt hlt)).2 hx] at hpr
              cases hpr
          have N := Lib.hid hno
          rw [hpr] at cA
          have CA := Lib.hid cA
          clear hno hpr hm cM cA
          refine wp_region_quiet_below (by kernel_rfl) (by kernel_rfl) ?_
          repeat (quiet_step (first | exact CM.out _ _ | exact CA.out _ _))
          refine wpQuiet_nil ?_
          intro _ hw'
          obtain ⟨⟨dq, osq⟩, hw''⟩ := hw'
          subst hw''
          go_wp2
          go_roundw
          case rel => exact ⟨k + 1, by go_num, K.out.next hlt N.out (grown_trans G.out (grown_below (below_regrown W dq osq) none))⟩
          case measure => simp [intOf]; omega
        · have hx : Bad l e all := ⟨k, s, S.out, .inr ((any_take (Nat.le_of_lt hlt)).1 hpr)⟩
          have X := Lib.hid hx
          rw [hpr] at cA
          have CA := Lib.hid cA
          clear hx hpr hm cM cA
          refine wp_region_quiet_below (by kernel_rfl) (by kernel_rfl) ?_
          repeat (quiet_step (first | exact CM.out _ _ | exact CA.out _ _))
          refine wpQuiet_nil ?_
          intro _ hw'
          obtain ⟨⟨dq, osq⟩, hw''⟩ := hw'
          subst hw''
          go_wp2
          go_ret
          exact ⟨ret_int (by rw [HB.out, if_pos X.out]), grown_trans (grown_trans K.out.grown G.out) (grown_below (below_regrown W dq osq) none)⟩
    · have hk' : k = l.length := by omega
      subst hk'
      have hno : ¬ Bad l e all := fun ⟨i, hi⟩ => by
        obtain ⟨s, hs, hx⟩ := hi
        have : i < l.length := by
          rcases Nat.lt_or_ge i l.length with h | h
          · exact h
          · simp [h] at hs
        exact hk.none i this ⟨s, hs, hx⟩
      have N := Lib.hid hno
      have K := Lib.hid hk
      clear hk hno
      go_wp2_with fail
      refine (TW.out _ K.out.sl).mono ?_
      rintro x w' ⟨rfl, hg⟩
      have G := Lib.hid hg
      clear hg
      by_cases ht : Twin l
      · rw [decide_eq_true ht]
        have T := Lib.hid ht
        clear ht
        go_wp2
        go_ret
        exact ⟨ret_int (by rw [HB.out, if_neg N.out, if_pos T.out]), grown_trans K.out.grown G.out⟩
      · rw [decide_eq_false ht]
        have T := Lib.hid ht
        clear ht
        go_wp2
        go_ret
        exact ⟨ret_int (by rw [HB.out, if_neg N.out, if_neg T.out]), grown_trans K.out.grown G.out⟩
end Go.Proofs.Ytdjakaiadggemaa
