/- Two lists of commands are the same just where each one's number and bytes are. No condition. -/
import Derived.Test.YthdppaooemdmaaaRowC
import Derived.Test.YthdppaooemdmaaaIter
import Derived.Test.YthdppaooemdmaaaStr
namespace Go.Proofs.Ythdppaooemdmaaa
open Go.RowKit
variable {w w' : World}

theorem text_eq {xs ys : List Int} (hx : Small xs) (hy : Small ys) : ((strOfNums xs).toList == (strOfNums ys).toList) = decide (xs = ys) := by
  rw [Lib.strOfNums_toList ys]
  exact text_is hx hy
theorem take_same {α : Type} {l m : List α} {k : Nat} {x : α} (h : l.take k = m.take k) (hx : l[k]? = some x) (hy : m[k]? = some x) : l.take (k + 1) = m.take (k + 1) := by
  rw [List.take_add_one, List.take_add_one, h, hx, hy]

set_option maxRecDepth 20000 in
theorem same_any (a b : List Cm) (n m : Nat) (hn : a.length = n) (hm : b.length = m) (p q : Option Addr) (c d : Nat) (hp : IsCms w p a) (hq : IsCms w q b) (fa : ∀ x ∈ a, x.Fits) (fb : ∀ x ∈ b, x.Fits) (h47 : n ≤ 9223372036854775807) :
    Calls Try.prog 11 #[.slice p n c, .slice q m d] w fun e w' => e = .returned (.bool (decide (a.map Cm.d = b.map Cm.d))) ∧ w.grownBy w' none := by
  have P := Lib.hid hp
  have Q := Lib.hid hq
  have HN := Lib.hid hn
  have HM := Lib.hid hm
  have FA := Lib.hid fa
  have FB := Lib.hid fb
  clear hp hq hn hm fa fb
  obtain ⟨B, hB⟩ : ∃ B, B = decide (a.map Cm.d = b.map Cm.d) := ⟨_, rfl⟩
  rw [← hB]
  have HB := Lib.hid hB
  clear hB
  go_enter Try.func11, Try.ntmps11
  by_cases hnm : n = m
  · subst hnm
    have d1 : ((n : Int) != (n : Int)) = false := by simp
    go_wp2
    go_loopw [5] (fun i wr => ∃ k : Nat, k ≤ n ∧ i = .int .i64 k ∧ w.grownBy wr none ∧ (a.map Cm.d).take k = (b.map Cm.d).take k) (fun i _ => n - (intOf i).toNat)
    case atStart => exact ⟨0, Nat.zero_le _, rfl, grown_refl _ _, by simp⟩
    case round =>
      obtain ⟨k, hk, rfl, hg, hsm⟩ := hrel
      by_cases hlt : k < n
      · obtain ⟨x, hx⟩ : ∃ x, a[k]? = some x := ⟨_, List.getElem?_eq_getElem (by rw [HN.out]; exact hlt)⟩
        obtain ⟨y, hy⟩ : ∃ y, b[k]? = some y := ⟨_, List.getElem?_eq_getElem (by rw [HM.out]; exact hlt)⟩
        obtain ⟨ba, oa, rfl, hca⟩ := (P.out.grown hg) (by rw [HN.out]; omega)
        obtain ⟨bb, ob, rfl, hcb⟩ := (Q.out.grown hg) (by rw [HM.out]; omega)
        obtain ⟨⟨x0, x1⟩, hxb⟩ := hca k x hx
        obtain ⟨⟨y0, y1⟩, hyb⟩ := hcb k y hy
        have hxf := FA.out x (List.mem_of_getElem? hx)
        have hyf := FB.out y (List.mem_of_getElem? hy)
        have te := text_eq hxf.bytes hyf.bytes
        have G := Lib.hid hg
        have SM := Lib.hid hsm
        have XE := Lib.hid (show (a.map Cm.d)[k]? = some x.d by rw [List.getElem?_map, hx]; rfl)
        have YE := Lib.hid (show (b.map Cm.d)[k]? = some y.d by rw [List.getElem?_map, hy]; rfl)
        have t1 := fun n => (hxb.drewN n).text rfl
        have t2 := fun n => (hyb.drewN n).text rfl
        clear hca hcb hx hy hg hsm hxf hyf hxb hyb
        by_cases hcm : x.cmd = y.cmd
        · have e1 : (x.cmd != y.cmd) = false := by simpa using hcm
          by_cases hbs : x.bytes = y.bytes
          · rw [decide_eq_true hbs] at te
            have HBS := Lib.hid hbs
            clear hbs
            go_wp2
            go_quiet (fail)
            go_wp2
            go_roundw
            case rel => exact ⟨k + 1, hlt, by go_num, grown_drewN G.out _, take_same SM.out XE.out (by rw [YE.out]; unfold Cm.d; rw [hcm, HBS.out])⟩
            case measure => simp [intOf]; omega
          · rw [decide_eq_false hbs] at te
            go_wp2
            go_quiet (fail)
            go_wp2
            go_ret
            refine ⟨?_, grown_drewN G.out _⟩
            show Ending.returned (.bool false) = _
            rw [HB.out, decide_eq_false (fun h => hbs (congrArg Prod.snd (Option.some.inj (XE.out.symm.trans ((congrArg (·[k]?) h).trans YE.out)))))]
        · have e1 : (x.cmd != y.cmd) = true := by simpa using hcm
          clear te t1 t2
          go_wp2
          go_quiet (fail)
          go_wp2
          go_ret
          refine ⟨?_, grown_drewN G.out _⟩
          show Ending.returned (.bool false) = _
          rw [HB.out, decide_eq_false (fun h => hcm (congrArg Prod.fst (Option.some.inj (XE.out.symm.trans ((congrArg (·[k]?) h).trans YE.out)))))]
      · have hkn : k = n := by omega
        subst hkn
        have G := Lib.hid hg
        have SM := Lib.hid hsm
        clear hg hsm
        go_wp2
        go_ret
        refine ⟨?_, G.out⟩
        have h := SM.out
        rw [List.take_of_length_le (by rw [List.length_map, HN.out]; exact Nat.le_refl _), List.take_of_length_le (by rw [List.length_map, HM.out]; exact Nat.le_refl _)] at h
        show Ending.returned (.bool true) = _
        rw [HB.out, decide_eq_true h]
  · have d1 : ((n : Int) != (m : Int)) = true := by simpa using fun h => hnm (by omega)
    go_wp2
    go_ret
    refine ⟨?_, grown_refl _ _⟩
    show Ending.returned (.bool false) = _
    have hne : ¬ a.map Cm.d = b.map Cm.d := fun h => hnm (by
      have := congrArg List.length h
      rw [List.length_map, List.length_map, HN.out, HM.out] at this
      exact this)
    rw [HB.out, decide_eq_false hne]
end Go.Proofs.Ythdppaooemdmaaa
