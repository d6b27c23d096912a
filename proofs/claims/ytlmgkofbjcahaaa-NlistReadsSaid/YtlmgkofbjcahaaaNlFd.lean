/- The symbol of a name: nlist.Find. Conditions: the bytes lie in memory. -/
import Derived.Test.YtlmgkofbjcahaaaNlF
namespace Go.Proofs.Ytlmgkofbjcahaaa
open Go.RowKit Go.Maps
variable {w w' W V : World} {ys t : List Int} {n : Int}

theorem results_sy3 {fn : Func} {p u v : Tmp} {g : Nat} {nm : ByteArray} {x : Sy} (hr : fn.results = #[.cell p 32, .tmp u, .tmp v]) {tmps : Array Value} {y z : Value} (hp : tmps.getD p undef = .pointer (some ⟨g, 0, none⟩)) (hu : tmps.getD u undef = y) (hv : tmps.getD v undef = z) (h : SyAt w g nm x) :
    (results fn tmps).run Try.prog w = .ok (.tuple #[syV nm x, y, z]) w := by
  have e : (asAddr (.pointer (some ⟨g, 0, none⟩)) : Sem Addr).run Try.prog w = .ok ⟨g, 0, none⟩ w := rfl
  simp only [Array.getD_eq_getD_getElem?] at hp hu hv
  simp only [results, hr]
  simp [Sem.run_bind, Result.andThen, hp, hu, hv, e, load_sy h]
/-- What Find answers. -/
structure FdOut (w w' : World) (R : Int × Syms) (s : List Int) (r : Ending) : Prop where
  ex : ∃ (y : Sym), r = .returned (.tuple #[syV (strOfNums y.1) y.2, .bool (nlHas R.2 s), .int .i64 R.1]) ∧ (nlHas R.2 s = true → y ∈ R.2 ∧ y.1 = s) ∧ (nlHas R.2 s = false → y = ([], Sy.zero))
  grown : w.grownBy w' none
set_option maxRecDepth 20000 in
set_option maxHeartbeats 3200000 in
theorem Find10_any {q q2 : Option Addr} {c c2 L N : Nat} (hb : IsBytes w q c t) (hL : t.length = L) (hbigL : L ≤ 140737488355328) (hc : L ≤ c) (hcm : c ≤ 9223372036854775807) (ht : Byt t)
    (hb2 : IsBytes w q2 c2 ys) (hN : ys.length = N) (hbig : N ≤ 140737488355328) (hy : Byt ys) {s : List Int} (hs : Byt s) :
    Calls Try.prog 11 #[.slice q L c, .slice q2 N c2, .int .i64 n, .string (strOfNums s)] w fun r w' => FdOut w w' (nlAll t ys n) s r := by
  have g1 := grown1 w (.cells #[.string (strOfNums s)] 9)
  have o1 := OneAt.new w (.string (strOfNums s)) 9
  obtain ⟨w1, hw1⟩ : ∃ W, W = w.alloc (.cells #[.string (strOfNums s)] 9) := ⟨_, rfl⟩
  obtain ⟨G, hG⟩ : ∃ G, G = w.heap.size := ⟨_, rfl⟩
  rw [← hw1] at g1 o1
  rw [← hG] at o1
  have g2 := grown1 w1 (.cells #[.string ⟨#[]⟩, .int .i64 0, .int .u64 0, .bool false] 32)
  have s2 := SyAt.new w1 ⟨#[]⟩ Sy.zero
  obtain ⟨w2, hw2⟩ : ∃ W, W = w1.alloc (.cells #[.string ⟨#[]⟩, .int .i64 0, .int .u64 0, .bool false] 32) := ⟨_, rfl⟩
  obtain ⟨X, hX⟩ : ∃ X, X = w1.heap.size := ⟨_, rfl⟩
  simp only [Sy.zero] at s2
  rw [← hw2] at g2 s2
  rw [← hX] at s2
  have hGX : G + 1 = X := by rw [hG, hX, hw1]; simp
  have g02 := grown_trans g1 g2
  have AL := Lib.hid (allP_any (n := n) (hb.kept g02 (by simp)) hL hbigL hc hcm ht (hb2.kept g02 (by simp)) hN hbig hy)
  have OKK := Lib.hid (nlAll_ok (n := n) ht hy)
  have HERR := Lib.hid (fun h => nlAll_err (t := t) (ys := ys) (n := n) h)
  generalize nlAll t ys n = R at *
  have O2 := Lib.hid (o1.grown g2)
  have S2 := Lib.hid s2
  have G2 := Lib.hid g02
  have HW1 := Lib.hid hw1.symm
  have HW2 := Lib.hid hw2.symm
  have HG := Lib.hid hG.symm
  have HGX := Lib.hid hGX
  have HS := Lib.hid hs
  have hwX : w.heap.size ≤ X := by omega
  clear hb hb2 ht hy hs g1 g2 o1 s2 hw1 hw2 hG hX hGX g02
  go_enter Try.func11, Try.ntmps11
  go_upto_region 1 with fail
  rw [HW1.out, HG.out, HW2.out, HGX.out]
  clear HW1 HW2 HG HGX
  go_wp2_with fail
  refine AL.out.mono ?_
  rintro r w3 ⟨⟨qa, ca, rfl, hsa, hlc, hcm2⟩, hbel⟩
  have g3 := grown_below hbel none
  have O3 := Lib.hid (O2.out.grown g3)
  have S3 := Lib.hid (S2.out.kept g3 (by simp))
  have G3 := Lib.hid (grown_trans G2.out g3)
  have SA := Lib.hid hsa
  have hfew := OKK.out.few
  have IX := Lib.hid (indexSy_any (w := w3) (f := 24) (cbs := #[.pointer (some ⟨G, 0, none⟩)]) (enters_of Try.func24 (by kernel_rfl) rfl) (fun y => decide (y.1 = s)) R.2 R.2.length rfl (by omega) qa ca hsa (fun W y hW hy => by
    refine (find1_any y.2 (OKK.out.each y hy).1 HS.out W (O3.out.grown hW)).mono ?_
    rintro e w' ⟨rfl, hg⟩
    exact ⟨rfl, hg⟩))
  clear hbel g3 hsa AL S2 O2 G2
  obtain ⟨E, D⟩ := R
  simp only [] at *
  obtain ⟨L2, hL2⟩ : ∃ L, L = D.length := ⟨_, rfl⟩
  rw [← hL2] at IX hlc hfew ⊢
  have HL2 := Lib.hid hL2
  clear hL2
  go_wp2_with fail
  refine IX.out.mono ?_
  rintro r w4 ⟨hr, hg⟩
  have G4 := Lib.hid (grown_trans G3.out hg)
  have S4 := Lib.hid (S3.out.kept hg (by simp))
  have SA4 := Lib.hid (SA.out.grown hg)
  clear hg
  obtain ⟨c0, c1, c2, c3⟩ := S4.out.c
  have xl := S4.out.lt
  have xf := S4.out.fz
  rcases hr with ⟨rfl, hno⟩ | ⟨k, x, hk, rfl, hx, hpx, _⟩
  · have hH : nlHas D s = false := by
      unfold nlHas
      rw [List.any_eq_false]
      intro y hy
      rw [hno y hy]; simp
    have HH := Lib.hid hH
    have SF := Lib.hid (S4.out.put ⟨#[]⟩ Sy.zero)
    have GF := Lib.hid (grown_new G4.out (grown_put4 (grown_refl w4 (some X)) (.string ⟨#[]⟩) (.int .i64 0) (.int .u64 0) (.bool false)) hwX)
    simp only [Sy.zero] at SF
    clear hno hH
    go_wp2
    refine bodyPost_ret (results_sy3 rfl rfl rfl rfl SF.out) rfl ?_
    refine ⟨⟨([], Sy.zero), ?_, fun h => (by rw [HH.out] at h; cases h), fun _ => rfl⟩, GF.out⟩
    rw [HH.out]
    rfl
  · have hm := List.mem_of_getElem? hx
    have hps : x.1 = s := of_decide_eq_true hpx
    have hH : nlHas D s = true := nlHas_mem.2 ⟨x, hm, hps⟩
    have hE : E = 0 := by
      by_cases h : E = 0
      · exact h
      · have := HERR.out h
        rw [this] at hm
        cases hm
    subst hE
    have HH := Lib.hid (And.intro hH (And.intro hm hps))
    obtain ⟨gq, oq, rfl, a0, a1, a2, a3⟩ := SA4.out.at hx
    have dk : decide ((k : Int) < 0) = false := by simp
    have hkl : (k : Int) < (L2 : Int) := by omega
    have SF := Lib.hid (S4.out.put (strOfNums x.1) x.2)
    have GF := Lib.hid (grown_new G4.out (grown_put4 (grown_refl w4 (some X)) (.string (strOfNums x.1)) (.int .i64 x.2.sec) (.int .u64 x.2.value) (.bool x.2.weak)) hwX)
    clear hx hpx hm hps hH hk
    go_wp2
    refine bodyPost_ret (results_sy3 rfl rfl rfl rfl SF.out) rfl ?_
    refine ⟨⟨x, ?_, fun _ => HH.out.2, fun h => (by rw [HH.out.1] at h; cases h)⟩, GF.out⟩
    rw [HH.out.1]
    rfl
end Go.Proofs.Ytlmgkofbjcahaaa
