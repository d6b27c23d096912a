/- The chapter's rows, as a law's program goes through them. Condition: the library's table reads as it was laid. -/
import Derived.Test.YtmffpnhdnaokhaaDoorFxV
namespace Go.Proofs.YtmffpnhdnaokhaaDoor
open Go.RowKit
variable {w w' W V : World}

def kB : Fx := ⟨16384, 2, 0, 1, ⟨#[95, 112, 117, 116, 115]⟩, 0, false⟩
def kR : Fx := ⟨8, 1, 72057594037927952, 0, ⟨#[]⟩, 0, false⟩
theorem kB_is : kB = ⟨(16384 : Nat), 2, 0, (1 : Nat), strOfNums [95, 112, 117, 116, 115], (0 : Nat), false⟩ := by
  unfold kB
  congr 1
theorem dec1 : Lib.decDigits 1 = [49] := by rw [Lib.decDigits]; rfl
theorem dec0 : Lib.decDigits 0 = [48] := by rw [Lib.decDigits]; rfl
def tB : ByteArray := ⟨#[48, 120, 52, 48, 48, 48, 32, 98, 105, 110, 100, 32, 49, 32, 95, 112, 117, 116, 115, 32, 48]⟩
def tR : ByteArray := ⟨#[48, 120, 56, 32, 114, 101, 98, 97, 115, 101, 32, 48, 120, 49, 48, 48, 48, 48, 48, 48, 48, 48, 48, 48, 48, 48, 49, 48]⟩
theorem joinB : joinA [hexA 16384, ⟨#[98, 105, 110, 100]⟩, ⟨(Lib.decDigits 1).toArray⟩, strOfNums [95, 112, 117, 116, 115], ⟨(Lib.decDigits 0).toArray⟩] = tB := by
  rw [dec1, dec0]
  kernel_rfl
theorem joinR : joinA [hexA 8, ⟨#[114, 101, 98, 97, 115, 101]⟩, hexA 72057594037927952] = tR := by kernel_rfl
theorem textB (ht : TabOk w) : Calls Tryd.prog 20 #[fxV kB] w fun e w' => e = .returned (.string tB) ∧ w.grownBy w' none := by
  have := text_b kB 16384 1 0 [95, 112, 117, 116, 115] kB_is (by decide) (by decide) (by decide) (by decide) (by decide) (by decide) (by kernel_rfl) ht
  rw [joinB] at this
  exact this
theorem textR (ht : TabOk w) : Calls Tryd.prog 20 #[fxV kR] w fun e w' => e = .returned (.string tR) ∧ w.grownBy w' none := by
  have := text_r kR 8 72057594037927952 rfl (by decide) (by decide) ht
  rw [joinR] at this
  exact this
theorem kB_ok : FxOk kB := ⟨by decide, by decide, by decide, by decide, by decide, by decide⟩
theorem kR_ok : FxOk kR := ⟨by decide, by decide, by decide, by decide, by decide, by decide⟩
theorem FxAt.put {g : Nat} {z : Fx} (h : FxAt w g z) (x : Fx) :
    FxAt (((((((w.setCell ⟨g, 0, none⟩ (.int .u64 x.at_)).setCell ⟨g, 1, none⟩ (.int .i64 x.kind)).setCell ⟨g, 2, none⟩ (.int .u64 x.target)).setCell ⟨g, 3, none⟩ (.int .i64 x.ord)).setCell ⟨g, 4, none⟩ (.string x.sym)).setCell ⟨g, 5, none⟩ (.int .i64 x.add)).setCell ⟨g, 6, none⟩ (.bool x.weak)) g x := by
  unfold FxAt
  rw [heap_setCell_same _ g 6 _ _ _ (heap_setCell_same _ g 5 _ _ _ (heap_setCell_same _ g 4 _ _ _ (heap_setCell_same _ g 3 _ _ _ (heap_setCell_same _ g 2 _ _ _ (heap_setCell_same _ g 1 _ _ _ (heap_setCell_same w g 0 _ _ _ h))))))]
  rfl
set_option maxRecDepth 20000 in
set_option maxHeartbeats 3200000 in
theorem known_any (ht : TabOk w) : Calls Tryd.prog 7 #[] w fun e w' => e = .returned (.bool true) ∧ w.grownBy w' none := by
  obtain ⟨W, hW, ha, hb, hg⟩ := two_new w kB kR
  have T0 := Lib.hid (ht.grown hg)
  have G := Lib.hid hg
  have A0 := Lib.hid ha
  have B0 := Lib.hid hb
  obtain ⟨a0, a1, a2, a3, a4, a5, a6⟩ := ha.c
  obtain ⟨c0, c1, c2, c3, c4, c5, c6⟩ := hb.c
  obtain ⟨g, hgg⟩ : ∃ g, w.heap.size = g := ⟨_, rfl⟩
  rw [hgg] at A0 B0 a0 a1 a2 a3 a4 a5 a6 c0 c1 c2 c3 c4 c5 c6
  clear ht ha hb hg
  simp only [kB, kR] at hW a0 a1 a2 a3 a4 a5 a6 c0 c1 c2 c3 c4 c5 c6
  have TB := Lib.hid (textB T0.out)
  have TR := Lib.hid (fun (V : World) (h : W.grownBy V none) => textR (T0.out.grown h))
  have VR := Lib.hid (fun (V : World) => val_any kR kR_ok 4096 0 V)
  have VB := Lib.hid (fun (V : World) => val_any kB kB_ok 4096 7 V)
  rw [show valN kR 4096 0 = 72057594037932048 from rfl] at VR
  rw [show valN kB 4096 7 = 7 from rfl] at VB
  unfold fxV fxArr at TB TR VR VB
  simp only [kB, kR] at TB TR VR VB
  have q1 : (tB.toList == [48, 120, 52, 48, 48, 48, 32, 98, 105, 110, 100, 32, 49, 32, 95, 112, 117, 116, 115, 32, 48]) = true := by rw [Lib.toList_data]; rfl
  have q2 : (tR.toList == [48, 120, 56, 32, 114, 101, 98, 97, 115, 101, 32, 48, 120, 49, 48, 48, 48, 48, 48, 48, 48, 48, 48, 48, 48, 48, 49, 48]) = true := by rw [Lib.toList_data]; rfl
  have HW := Lib.hid hW
  have HGG := Lib.hid hgg
  clear hW hgg
  go_enter Tryd.func7, Tryd.ntmps7
  go_upto_region 3 with fail
  rw [HW.out, HGG.out]
  go_wp2_with fail
  refine TB.out.mono ?_
  rintro e w2 ⟨rfl, hg⟩
  have G2 := Lib.hid hg
  have B2 := B0.out.grown hg
  obtain ⟨d0, d1, d2, d3, d4, d5, d6⟩ := B2.c
  simp only [kR] at d0 d1 d2 d3 d4 d5 d6
  have TR2 := Lib.hid (TR.out w2 hg)
  clear hg B2 TB TR c0 c1 c2 c3 c4 c5 c6 a0 a1 a2 a3 a4 a5 a6
  go_wp2_with fail
  refine TR2.out.mono ?_
  rintro e w3 ⟨rfl, hg⟩
  have G3 := Lib.hid (grown_trans G2.out hg)
  have B3 := B0.out.grown G3.out
  have A3 := A0.out.grown G3.out
  obtain ⟨c0, c1, c2, c3, c4, c5, c6⟩ := B3.c
  simp only [kR] at c0 c1 c2 c3 c4 c5 c6
  clear hg B3 A3 TR2 d0 d1 d2 d3 d4 d5 d6
  go_wp2_with fail
  refine (VR.out _).mono ?_
  rintro e w4 ⟨rfl, hg⟩
  have G4 := Lib.hid (grown_trans G3.out hg)
  have A4 := A0.out.grown G4.out
  obtain ⟨a0, a1, a2, a3, a4, a5, a6⟩ := A4.c
  simp only [kB] at a0 a1 a2 a3 a4 a5 a6
  clear hg A4 VR c0 c1 c2 c3 c4 c5 c6
  go_wp2_with fail
  refine (VB.out _).mono ?_
  rintro e w5 ⟨rfl, hg⟩
  have G5 := Lib.hid (grown_trans G.out (grown_trans G4.out hg))
  clear hg VB a0 a1 a2 a3 a4 a5 a6
  go_wp2
  go_ret
  exact ⟨rfl, G5.out⟩
end Go.Proofs.YtmffpnhdnaokhaaDoor
