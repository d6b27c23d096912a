import Derived.Test.YtblfighfahffkaaT9
import Derived.Test.YtblfighfahffkaaT10
import Derived.ProofKit
import Derived.OpenShut
import Derived.ShutString
import Derived.ChangeOld
import Derived.Below
import Derived.ChangeSame
import Derived.Lib.SmallJoins
/- The walk of TrieReads: all exports, and one name's, are the document's. -/
namespace Go.Proofs.Ytblfighfahffkaa.trieReads
open Go.RowKit
set_option maxHeartbeats 6400000 in
set_option maxRecDepth 20000 in
theorem walk (a0 : Option Addr) (len0 cap0 : Nat) (z0 : List Int) (t : List Int) (w : World) (w0 : IsRow .u8 w a0 len0 cap0 z0) (ht : Byt t) (htm : t.length ≤ 9223372036854775807) :
    Calls Try.prog 3 #[.slice a0 len0 cap0, .string (strOfNums t)] w fun e w' => e = .returned (.bool true) ∧ Below w.heap.size w w' := by
  have hcap : len0 ≤ cap0 ∧ cap0 ≤ 9223372036854775807 := by
    rcases w0 with ⟨_, rfl, rfl, _⟩ | ⟨_, _, h1, h2, _⟩
    · omega
    · unfold maxLen at h2; omega
  obtain ⟨ys, rfl, hys, hb, _⟩ := w0.bytes
  have K := Lib.hid (fun w : World => known9_any w)
  have BL := Lib.hid (fun (w' : World) (h : w.grownBy w' none) => (below_grown h (Nat.le_refl _) (fun k e => by cases e) : Below w.heap.size w w'))
  have hst : (strOfNums t).size = t.length := strOfNums_size _
  by_cases h20 : 5000 < ys.length
  · have hd : decide ((5000 : Int) < ys.length) = true := by simp; omega
    clear w0 hb hys ht htm hcap hst
    go_enter Try.func3, Try.ntmps3
    go_wp2_with fail
    refine (K.out _).mono ?_
    rintro e w' ⟨rfl, hg⟩
    have B := Lib.hid (BL.out _ hg)
    clear hg
    go_wp2
    go_ret
    exact ⟨rfl, B.out⟩
  have hd : decide ((5000 : Int) < ys.length) = false := by simp; omega
  by_cases h25 : 400 < t.length
  · have hd2 : decide ((400 : Int) < (t.length : Int)) = true := by simp; omega
    clear w0 hb hys ht htm hcap
    go_enter Try.func3, Try.ntmps3
    go_wp2_with fail
    refine (K.out _).mono ?_
    rintro e w' ⟨rfl, hg⟩
    have B := Lib.hid (BL.out _ hg)
    clear hg
    go_wp2
    go_ret
    exact ⟨rfl, B.out⟩
  have hd2 : decide ((400 : Int) < (t.length : Int)) = false := by simp; omega
  have HB := Lib.hid hb
  have HY := Lib.hid hys
  have HT := Lib.hid (And.intro ht htm)
  have HC := Lib.hid hcap
  have hy5 : ys.length ≤ 5000 := by omega
  clear w0 hb hys ht htm hcap h20 h25
  go_enter Try.func3, Try.ntmps3
  go_wp2_with (at_builtin; refine wp_append_bytes rfl (.const (.slice none 0 0)) (.tmp 25) rfl rfl _ _ _ rfl (World.ownsRow_nil w w.heap.size 5 1) ys ys.length rfl rfl HB.out ?_ ?_ ?_)
  · omega
  · exact Nat.le_refl _
  intro v1 w1 h1 hg1
  try rw [Nat.zero_add] at h1
  try rw [List.nil_append] at h1
  obtain ⟨q1, c1, rfl⟩ := own_slice h1
  have G1 := Lib.hid (show w.grownBy w1 none from hg1)
  have IO := Lib.hid (IsBytes.of_own rfl h1)
  have HC1 := Lib.hid (And.intro (own_room8 h1) (own_max h1))
  clear h1 hg1
  have AL := Lib.hid (All_any (w := w1) IO.out rfl HY.out HC1.out.1 HC1.out.2 (by omega))
  have FA := Lib.hid (fun (W : World) (h : w1.grownBy W none) => Find_any (w := W) (IO.out.kept h (by simp)) rfl HY.out HC1.out.1 HC1.out.2 (by omega) t HT.out.1 HT.out.2)
  have RA := Lib.hid (fun (W : World) (h : w.grownBy W none) => refAll_any (w := W) (HB.out.kept h (by simp)) rfl HY.out HC.out.1 HC.out.2 (by omega))
  have RF := Lib.hid (fun (W : World) (h : w.grownBy W none) => refFind_any (w := W) (HB.out.kept h (by simp)) rfl HY.out HC.out.1 HC.out.2 (by omega) t HT.out.1 HT.out.2)
  go_wp2_with fail
  refine AL.out.mono ?_
  rintro e w2 ⟨⟨D, q2, c2, rfl, hD, hR, hP, hlc, hc63⟩, hg⟩
  have G2 := Lib.hid (grown_trans G1.out hg)
  have GO2 := Lib.hid hg
  have RD := Lib.hid hD
  have RI := Lib.hid (And.intro hR hP)
  have DL := Lib.hid (And.intro hlc hc63)
  clear hD hR hP hlc hc63 hg AL
  go_wp2_with fail
  refine (RA.out w2 G2.out).mono ?_
  rintro e w3 ⟨⟨E, q3, c3, rfl, hD, hR, hP, -, -⟩, hg⟩
  obtain rfl : D = E := all_one HY.out RI.out.1 RI.out.2 hR hP
  have G3 := Lib.hid (grown_trans G2.out hg)
  have GO3 := Lib.hid (grown_trans GO2.out hg)
  have RD3 := Lib.hid (RD.out.grown hg)
  have RE3 := Lib.hid hD
  clear hD hR hP hg RA
  obtain ⟨er, her⟩ : ∃ er, er = (allN ys).2 := ⟨_, rfl⟩
  rw [← her]
  clear her
  go_wp2_with fail
  refine (FA.out w3 GO3.out).mono ?_
  rintro e w4 ⟨rfl, hg⟩
  have G4 := Lib.hid (grown_trans G3.out hg)
  have GO4 := Lib.hid (grown_trans GO3.out hg)
  have RD4 := Lib.hid (RD3.out.grown hg)
  have RE4 := Lib.hid (RE3.out.grown hg)
  obtain ⟨⟨fe, fx⟩, hfw⟩ : ∃ r, r = findW ys t := ⟨_, rfl⟩
  rw [← hfw]
  have HFW := Lib.hid hfw
  clear hg FA RD3 RE3 hfw
  simp only []
  obtain ⟨nm, hnm⟩ : ∃ nm, nm = nmOf (strOfNums t) fx := ⟨_, rfl⟩
  obtain ⟨x, hx⟩ : ∃ x, x = exOf fx := ⟨_, rfl⟩
  rw [← hnm, ← hx]
  have NX := Lib.hid (And.intro hnm hx)
  clear hnm hx
  have g5 := grown1 w4 (.cells (exArr nm x) 33)
  have E5 := Lib.hid (show ExAt (w4.alloc (.cells (exArr nm x) 33)) w4.heap.size nm x from heap_alloc_new w4 _)
  have G5 := Lib.hid (grown_trans G4.out g5)
  have GO5 := Lib.hid (grown_trans GO4.out g5)
  have RD5 := Lib.hid (RD4.out.grown g5)
  have RE5 := Lib.hid (RE4.out.grown g5)
  obtain ⟨w5, hw5⟩ : ∃ w5, w4.alloc (.cells (exArr nm x) 33) = w5 := ⟨_, rfl⟩
  obtain ⟨g, hgg⟩ : ∃ g, w4.heap.size = g := ⟨_, rfl⟩
  rw [hw5] at E5 G5 GO5 RD5 RE5
  rw [hgg] at E5
  have HW5 := Lib.hid hw5
  have HG := Lib.hid hgg
  clear g5 RD4 RE4 hw5 hgg
  simp only [exV, exArr] at HW5 ⊢
  go_upto_region 7 with fail
  rw [HW5.out, HG.out]
  clear HW5 HG
  go_wp2_with fail
  refine (RF.out w5 G5.out).mono ?_
  rintro e w6 ⟨rfl, hg⟩
  rw [← HFW.out]
  simp only []
  rw [← NX.out.1, ← NX.out.2]
  have g7 := grown1 w6 (.cells (exArr nm x) 33)
  have gg := grown_trans hg g7
  have E7 := Lib.hid (E5.out.kept gg (by simp))
  have F7 := Lib.hid (show ExAt (w6.alloc (.cells (exArr nm x) 33)) w6.heap.size nm x from heap_alloc_new w6 _)
  have G7 := Lib.hid (grown_trans G5.out gg)
  have GO7 := Lib.hid (grown_trans GO5.out gg)
  have RD7 := Lib.hid (RD5.out.grown gg)
  have RE7 := Lib.hid (RE5.out.grown gg)
  obtain ⟨w7, hw7⟩ : ∃ w7, w6.alloc (.cells (exArr nm x) 33) = w7 := ⟨_, rfl⟩
  obtain ⟨h', hhg⟩ : ∃ h', w6.heap.size = h' := ⟨_, rfl⟩
  rw [hw7] at E7 F7 G7 GO7 RD7 RE7
  rw [hhg] at F7
  have HW7 := Lib.hid hw7
  have HG7 := Lib.hid hhg
  clear hg g7 gg RD5 RE5 hw7 hhg RF E5 G5 GO5
  simp only [exV, exArr] at HW7 ⊢
  go_upto_region 8 with fail
  rw [HW7.out, HG7.out]
  clear HW7 HG7
  have SM := Lib.hid (same9_any D D.length rfl q2 q3 c2 c3 (by have := DL.out; omega) RD7.out RE7.out)
  obtain ⟨dn, hdn⟩ : ∃ dn, dn = D.length := ⟨_, rfl⟩
  rw [← hdn] at SM ⊢
  clear hdn
  go_wp2_with fail
  refine SM.out.mono ?_
  rintro e w8 ⟨rfl, hg⟩
  have G8 := Lib.hid (grown_trans G7.out hg)
  have E8 := Lib.hid (E7.out.kept hg (by simp))
  have F8 := Lib.hid (F7.out.kept hg (by simp))
  have cv1 := (IO.out.kept (grown_trans GO7.out hg) (by simp)).text rfl
  have cv2 := (HB.out.kept G8.out (by simp)).text rfl
  obtain ⟨k0, k1, k2, k3, k4, k5, k6⟩ := E8.out.c
  obtain ⟨j0, j1, j2, j3, j4, j5, j6⟩ := F8.out.c
  clear hg SM
  go_wp2_with fail
  refine (K.out _).mono ?_
  rintro e w9 ⟨rfl, hg⟩
  have B := Lib.hid (BL.out _ (grown_trans G8.out hg))
  clear hg
  go_wp2
  go_ret
  exact ⟨rfl, B.out⟩
end Go.Proofs.Ytblfighfahffkaa.trieReads

/- 'TrieReads': for every input the call returns true, and what was handed in reads as it did. The form's own reach is the one condition. -/
namespace Go.Proofs.Ytblfighfahffkaa.trieReads
open Go.ChangeShapes Go.WideShapes Go.ChangeAt Go.RowKit
open Go.ChangeMaps (open_string shut_string)

theorem own : ownKnob Try.prog.godebug = none := by kernel_rfl
theorem laidOut : laidOutB Try.prog = true := by kernel_rfl

theorem text_nums (s : ByteArray) (h : s.size ≤ maxLen) : ∃ t : List Int, Byt t ∧ t.length ≤ 9223372036854775807 ∧ strOfNums t = s := by
  refine ⟨s.data.toList.map fun u => (u.toNat : Int), ?_, ?_, ?_⟩
  · intro x hx
    obtain ⟨u, _, rfl⟩ := List.mem_map.1 hx
    have := u.toNat_lt
    omega
  · rw [List.length_map, Array.length_toList]
    exact h
  · apply ByteArray.ext
    apply Array.toList_inj.1
    rw [strOfNums_data, List.map_map]
    conv => rhs; rw [← List.map_id s.data.toList]
    apply List.map_congr_left
    intro u _
    apply UInt8.toNat_inj.1
    have := u.toNat_lt
    simp only [Function.comp, UInt8.toNat_ofNat', id]
    omega

set_option maxRecDepth 100000 in
theorem lifted (os : Os) (started : os.Started) (H : Type) (enc : TypeId × Value → H) :
    ReturnsInHanded {} Try.checked os 3 .any (Rows.trieReadsSpec.pre6 enc Try.prog Try.f3 Rows.trieReadsRow.domain false) (Rows.trieReadsSpec.post enc Try.prog Try.f3 false true false false) := by
  refine returnsInHanded_of_change (C := Try.checked) own started (by kernel_rfl) Try.func3
    (ChangeSpec.witness6 (enc := enc) (C := Try.checked) false ⟨#[], #[.slice none 0 0, .string ⟨#[]⟩], []⟩ 8 (by kernel_rfl) (by kernel_rfl) (by kernel_rfl) (by kernel_rfl)) ?_
  intro W base args ds gs before hval0 hW hcnd _
  have hval : ∀ (j : Nat) t v, Try.f3.params[j]? = some t → args[j]? = some v → Value.okWide Try.prog W .any base t v := hval0
  have hW' := hW
  obtain ⟨p, q, hA0, hV, rfl, hfz, hnd⟩ := hW
  have hA : DataW.TrodAll enc Try.prog W 0 (fun _ => true) true Try.f3.params.toList args.toList ds p := hA0
  rw [Try.params3] at hA hval
  obtain ⟨v0, vs0, d0, ds0, p0, q0, hargs, rfl, rfl, h0, r0⟩ := trodAll_cons hA
  obtain ⟨v1, vs1, d1, ds1, p1, q1, rfl, rfl, rfl, h1, r1⟩ := trodAll_cons r0
  obtain ⟨rfl, rfl, rfl⟩ := trodAll_nil r1
  obtain rfl : args = #[v0, v1] := by cases args; simp_all
  obtain ⟨rfl, rfl⟩ := trodVars_none hV
  obtain ⟨a0, len0, cap0, rfl⟩ := okWide_slice Try.underlying22 (hval 0 22 v0 rfl rfl)
  have k0 := h0
  have lt0 : ∀ x ∈ p0, x.block < W.heap.size := by obtain ⟨m, hm⟩ := k0; exact DataW.trod_lt m _ _ _ hm
  obtain ⟨z0, w0⟩ : ∃ zs, IsRow .u8 W a0 len0 cap0 zs := by
    obtain ⟨fuel, hf⟩ := h0
    rcases open_ints Try.underlying22 Try.underlying5 (by kernel_rfl) hf with ⟨hcs, _⟩ | ⟨x, l, c, zs, hcs, _, hl, hm, hz, _, hcell, hwz⟩
    · simp [Value.cells] at hcs
      obtain ⟨rfl, rfl, rfl⟩ := hcs
      exact ⟨[], .inl ⟨rfl, rfl, rfl, rfl⟩⟩
    · simp [Value.cells] at hcs
      obtain ⟨rfl, rfl, rfl⟩ := hcs
      exact ⟨zs, .inr ⟨_, rfl, hl, hm, by simpa using hz, hcell, hwz⟩⟩
  obtain ⟨s1, rfl, rfl, rfl, ls1⟩ := open_string Try.underlying9 (hval 1 9 v1 rfl rfl) h1
  obtain ⟨t1, bt1, mt1, rfl⟩ := text_nums s1 ls1
  clear hA0 hval0
  refine (walk a0 len0 cap0 z0 t1 W w0 bt1 mt1).mono fun e W' ⟨he, bel⟩ => ?_
  subst he
  exact ⟨_, rfl, _, _, _, [], _, [], hW', trodAll_mk1 (shut_bool Try.underlying4 _), (trodAll_cons_mk (Below.trod laidOut (by kernel_rfl) (of_decide_eq_true (by kernel_rfl)) k0 bel lt0) (trodAll_cons_mk (shut_string Try.underlying9 ls1) trodAll_mk0)), rfl, bel.frame _, fun h => by cases h⟩

theorem proved : Rows.TrieReadsSaid :=
  OpenClaim.holds_of_wide 3 Try.f3 rfl rfl rfl rfl rfl rfl rfl ⟨rfl, rfl, rfl, rfl, rfl⟩ rfl rfl rfl rfl rfl (by kernel_rfl) Try.func3 (by kernel_rfl)
    (of_decide_eq_true (by kernel_rfl)) (by unfold Func.isWrapper; first | (rw [if_pos (by decide +kernel)]; kernel_rfl) | (rw [if_neg (by decide +kernel)]; exact ⟨rfl, rfl⟩))
    (fun os started H enc _ => lifted os started H enc)
end Go.Proofs.Ytblfighfahffkaa.trieReads
