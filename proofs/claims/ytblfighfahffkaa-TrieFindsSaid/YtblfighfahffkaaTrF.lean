/- One name of a trie, as the program looks for it: trie.leading, and what trie.Find is told of each node. No condition. -/
import Derived.Test.YtblfighfahffkaaTrB
namespace Go.Proofs.Ytblfighfahffkaa
open Go.RowKit
variable {w w' W V : World} {xs : List Int}

theorem leadN_none {l : List Kid} {rest : List Int} (h : ∀ (i : Nat) (y : Kid), l[i]? = some y → pfx y.1 rest = false) : leadN l rest = [] := by
  unfold leadN
  rw [List.find?_eq_none.2 (fun x hx => by
    obtain ⟨i, hi, rfl⟩ := List.getElem_of_mem hx
    rw [h i _ (List.getElem?_eq_getElem hi)]; simp)]
theorem leadN_some {l : List Kid} {rest : List Int} {k : Nat} {x : Kid} (hx : l[k]? = some x) (hp : pfx x.1 rest = true) (h : ∀ (i : Nat) (y : Kid), i < k → l[i]? = some y → pfx y.1 rest = false) : leadN l rest = [x] := by
  have e : l.find? (fun k => pfx k.1 rest) = some x := by
    obtain ⟨hk, rfl⟩ := List.getElem?_eq_some_iff.1 hx
    rw [List.find?_eq_some_iff_getElem]
    refine ⟨hp, k, hk, rfl, fun j hj => ?_⟩
    rw [h j _ hj (List.getElem?_eq_getElem (by omega))]; rfl
  unfold leadN
  rw [e]
theorem strOf_cut (l : List Int) (i j : Nat) : (strOfNums l).extract i j = strOfNums ((l.take j).drop i) := by
  apply ByteArray.ext
  apply Array.ext'
  rw [ByteArray.data_extract, Array.toList_extract, strOfNums_data, strOfNums_data, List.extract_eq_take_drop, List.map_drop, List.map_take]
  rw [List.drop_take]
theorem hasPrefix0_any (a b : List Int) (ha : Byt a) (hb : Byt b) (W : World) : Calls Try.prog 80 #[.string (strOfNums a), .string (strOfNums b)] W fun e w' => e = .returned (.bool (pfx b a)) ∧ w' = W := by
  have s1 : (strOfNums a).size = a.length := strOfNums_size _
  have s2 : (strOfNums b).size = b.length := strOfNums_size _
  by_cases hl : b.length ≤ a.length
  · have PX := Lib.hid (show (((strOfNums a).extract 0 b.length).toList == (strOfNums b).toList) = pfx b a by
      rw [strOf_cut, List.drop_zero, Lib.strOfNums_toList b, text_is (ha.take _) hb]
      unfold pfx
      rw [decide_eq_true hl, Bool.true_and])
    clear ha hb
    go_enter Try.func80, Try.ntmps80
    go_wp2
    go_ret
    exact ⟨ret_bool PX.out, rfl⟩
  · have PX := Lib.hid (show false = pfx b a by unfold pfx; rw [decide_eq_false hl, Bool.false_and])
    have dl : decide ((b.length : Int) ≤ (a.length : Int)) = false := by simp; omega
    have dl2 : decide (b.length ≤ a.length) = false := by simp; omega
    clear ha hb hl
    go_enter Try.func80, Try.ntmps80
    go_wp2
    go_ret
    exact ⟨ret_bool PX.out, rfl⟩
theorem hasPrefix_any (a b : List Int) (ha : Byt a) (hb : Byt b) (W : World) : Calls Try.prog 50 #[.string (strOfNums a), .string (strOfNums b)] W fun e w' => e = .returned (.bool (pfx b a)) ∧ w' = W := by
  have H := Lib.hid (hasPrefix0_any a b ha hb W)
  clear ha hb
  go_enter Try.func50, Try.ntmps50
  go_wp2_with fail
  refine H.out.mono ?_
  rintro e w' ⟨rfl, rfl⟩
  go_wp2
  go_ret
  exact ⟨rfl, rfl⟩
theorem leading1_any (k : Kid) (rest : List Int) (hk : Byt k.1) (hr : Byt rest) {g : Nat} (hg : OneAt W g (.string (strOfNums rest)) 9) :
    Calls Try.prog 49 #[.agg #[.string (strOfNums k.1), .int .u64 k.2], .pointer (some ⟨g, 0, none⟩)] W fun e w' => e = .returned (.bool (pfx k.1 rest)) ∧ W.grownBy w' none := by
  have gB := grown1 W (.cells #[.string (strOfNums k.1), .int .u64 k.2] 92)
  have d0 := (hg.grown gB).c
  have dl := (hg.grown gB).lt
  have G := Lib.hid gB
  have H := Lib.hid (hasPrefix_any rest k.1 hr hk (W.alloc (.cells #[.string (strOfNums k.1), .int .u64 k.2] 92)))
  obtain ⟨e1, p1⟩ := k
  simp only [] at *
  clear gB hg hk hr
  go_enter Try.func49, Try.ntmps49
  go_wp2_with fail
  refine H.out.mono ?_
  rintro e w' ⟨rfl, rfl⟩
  go_wp2
  go_ret
  exact ⟨rfl, G.out⟩
set_option maxRecDepth 20000 in
set_option maxHeartbeats 800000 in
theorem indexLead_any (l : List Kid) (n : Nat) (hn : l.length = n) (hl : n ≤ 9223372036854775807) (q : Option Addr) (c : Nat) (hr : KidsAt w q l) (rest : List Int) {g : Nat} (hx : OneAt w g (.string (strOfNums rest)) 9) (b2 : Byt rest) (ho : ∀ k ∈ l, Byt k.1) :
    Calls Try.prog 48 #[.slice q n c, .func (.func 49) #[] #[.pointer (some ⟨g, 0, none⟩)]] w fun e w' =>
      ((e = .returned (.int .i64 (-1)) ∧ leadN l rest = []) ∨ ∃ (k : Nat) (x : Kid), k < n ∧ e = .returned (.int .i64 k) ∧ l[k]? = some x ∧ leadN l rest = [x]) ∧ w.grownBy w' none := by
  subst hn
  have RR := Lib.hid hr
  have OO := Lib.hid ho
  have HX := Lib.hid hx
  have BB := Lib.hid b2
  clear hr ho hx b2
  go_enter Try.func48, Try.ntmps48
  go_wp2
  go_loopw [8] (fun i wr => ∃ k : Nat, k ≤ l.length ∧ i = .int .i64 k ∧ w.grownBy wr none ∧ ∀ (i : Nat) (y : Kid), i < k → l[i]? = some y → pfx y.1 rest = false) (fun i _ => l.length - (intOf i).toNat)
  case atStart => exact ⟨0, Nat.zero_le _, rfl, grown_refl _ _, fun i y h => by omega⟩
  case round =>
    obtain ⟨k, hk, rfl, hg, hno⟩ := hrel
    have G := Lib.hid hg
    have NO := Lib.hid hno
    by_cases hlt : k < l.length
    · obtain ⟨x, hx⟩ : ∃ x, l[k]? = some x := ⟨_, List.getElem?_eq_getElem hlt⟩
      obtain ⟨gq, oq, rfl, c0, c1⟩ := (RR.out.grown hg).at k x hx
      have M1 := Lib.hid (leading1_any x rest (OO.out x (List.mem_of_getElem? hx)) BB.out (HX.out.grown hg))
      have XX := Lib.hid hx
      have dl : decide ((k : Int) < (l.length : Int)) = true := by simp; omega
      have hkl : (k : Int) < (l.length : Int) := by omega
      obtain ⟨bx, hbx⟩ : ∃ bx, bx = pfx x.1 rest := ⟨_, rfl⟩
      rw [← hbx] at M1
      have PX := Lib.hid hbx
      have LD := Lib.hid (fun (h : bx = true) => leadN_some hx (hbx ▸ h) hno)
      obtain ⟨xe, xp⟩ := x
      simp only [] at c0 c1 M1
      clear hg hno hx hbx
      generalize l.length = N at *
      go_wp2_with fail
      refine M1.out.mono ?_
      rintro e w3 ⟨rfl, hg⟩
      have G3 := Lib.hid (grown_trans G.out hg)
      clear hg
      cases bx
      · go_wp2
        go_roundw
        case rel =>
          refine ⟨k + 1, hlt, by go_num, G3.out, fun i y hi hy => ?_⟩
          rcases Nat.lt_or_ge i k with h | h
          · exact NO.out i y h hy
          · obtain rfl : i = k := by omega
            rw [XX.out] at hy
            injection hy with hy
            rw [← hy]; exact PX.out.symm
        case measure => simp [intOf]; omega
      · go_wp2
        go_ret
        exact ⟨.inr ⟨k, _, (List.getElem?_eq_some_iff.1 XX.out).1, rfl, XX.out, by first | exact LD.out rfl | exact LD.out trivial⟩, G3.out⟩
    · have NA := Lib.hid (leadN_none (rest := rest) (l := l) (fun i y hy => hno i y (by have := (List.getElem?_eq_some_iff.1 hy).1; omega) hy))
      have dl : decide ((k : Int) < (l.length : Int)) = false := by simp; omega
      clear hno hg
      generalize l.length = N at *
      go_wp2
      go_ret
      exact ⟨.inl ⟨rfl, NA.out⟩, G.out⟩
set_option maxRecDepth 20000 in
theorem leading_any (l : List Kid) (n : Nat) (hn : l.length = n) (q : Option Addr) (c : Nat) (hnc : n ≤ c) (hc : c ≤ 9223372036854775807) (hr : KidsAt w q l) (rest : List Int) (b2 : Byt rest) (ho : ∀ k ∈ l, Byt k.1) :
    Calls Try.prog 26 #[.slice q n c, .string (strOfNums rest)] w fun e w' =>
      (∃ q' c', e = .returned (.slice q' (leadN l rest).length c') ∧ KidsAt w q' (leadN l rest) ∧ (∀ g o, q' = some ⟨g, o, none⟩ → ∃ o', q = some ⟨g, o', none⟩) ∧ (leadN l rest).length ≤ c' ∧ c' ≤ 9223372036854775807) ∧ w.grownBy w' none := by
  have gB := grown1 w (.cells #[.string (strOfNums rest)] 9)
  have o1 := OneAt.new w (.string (strOfNums rest)) 9
  have I := Lib.hid (indexLead_any (w := w.alloc (.cells #[.string (strOfNums rest)] 9)) l n hn (by omega) q c (hr.grown gB) rest o1 b2 ho)
  have G := Lib.hid gB
  have RR := Lib.hid hr
  clear gB o1 hr b2 ho
  go_enter Try.func26, Try.ntmps26
  go_wp2_with fail
  refine I.out.mono ?_
  rintro e w' ⟨h, hg⟩
  have G2 := Lib.hid (grown_trans G.out hg)
  clear hg
  rcases h with ⟨rfl, hL⟩ | ⟨k, x, hk, rfl, hx, hL⟩
  · have FN := Lib.hid (show ∃ q' c', Ending.returned (.slice none 0 0) = .returned (.slice q' (leadN l rest).length c') ∧ KidsAt w q' (leadN l rest) ∧ (∀ g o, q' = some ⟨g, o, none⟩ → ∃ o', q = some ⟨g, o', none⟩) ∧ (leadN l rest).length ≤ c' ∧ c' ≤ 9223372036854775807 from by
      rw [hL]; exact ⟨none, 0, rfl, KidsAt.nil, fun g o e => (by cases e), Nat.le_refl _, by decide⟩)
    clear hL
    go_wp2
    go_ret
    exact ⟨FN.out, G2.out⟩
  · obtain ⟨gq, oq, rfl, c0, c1⟩ := RR.out k x hx
    have FN := Lib.hid (show ∃ q' c', Ending.returned (.slice (some ⟨gq, oq + k * 2, none⟩) 1 (c - k)) = .returned (.slice q' (leadN l rest).length c') ∧ KidsAt w q' (leadN l rest) ∧ (∀ g o, q' = some ⟨g, o, none⟩ → ∃ o', (some ⟨gq, oq, none⟩ : Option Addr) = some ⟨g, o', none⟩) ∧ (leadN l rest).length ≤ c' ∧ c' ≤ 9223372036854775807 from by
      rw [hL]
      refine ⟨_, _, rfl, fun i y hy => ?_, fun g o e => ⟨oq, by injection e with e; injection e with e1 _ _; rw [e1]⟩, by simp; omega, by omega⟩
      match i, hy with
      | 0, hy =>
        injection hy with hy
        subst hy
        exact ⟨gq, oq + k * 2, rfl, by rw [Nat.zero_mul, Nat.add_zero]; exact c0, by rw [Nat.zero_mul, Nat.add_zero]; exact c1⟩)
    have hS : ∀ W, (Instr.slice 51 (.slice (some ⟨gq, oq, none⟩) n c) (some (.int .i64 (k : Int))) (some (.int .i64 ((k : Int) + 1))) none).run Try.prog W = .ok (.slice (some ⟨gq, oq + k * 2, none⟩) 1 (c - k)) W := fun W => by
      rw [run_slice_lh (P := Try.prog) W 51 (some ⟨gq, oq, none⟩) n c (by kernel_rfl) .i64 .i64 (k : Int) ((k : Int) + 1) (by omega) (by omega) (by omega)]
      have hs : ((sizeOf (Try.prog.elem 51)).run Try.prog W) = .ok 2 W := by kernel_rfl
      rw [hs]
      simp only [Result.andThen, sliced]
      rw [if_neg (by omega), show ((k : Int) + 1).toNat - ((k : Int)).toNat = 1 by omega, show ((k : Int)).toNat = k by omega]
      simp only [Option.map_some, add_flat]
    have hk63 : (k : Int) ≤ 9223372036854775806 := by omega
    clear hL hx c0 c1 hn hnc hc
    go_wp2
    go_ret
    exact ⟨FN.out, G2.out⟩
end Go.Proofs.Ytblfighfahffkaa
