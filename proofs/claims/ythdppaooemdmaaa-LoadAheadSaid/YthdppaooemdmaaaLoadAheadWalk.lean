/- The walk of LoadAhead: an image hangs on its header and commands alone. -/
import Derived.Test.YthdppaooemdmaaaSame5
import Derived.Test.YthdppaooemdmaaaKnown5
import Derived.BigFrame
namespace Go.Proofs.Ythdppaooemdmaaa
open Go.RowKit
variable {w w' : World}
noncomputable section
def imgH (ys : List Int) : Hx := if imgErr ys = 0 then imgHx ys else Hx.zero
def imgS (ys : List Int) : St := if imgErr ys = 0 then imgSt ys else St.zero
end
theorem Image_all (ys : List Int) (q : Option Addr) (c n : Nat) (h : IsBytes w q c ys) (hn : ys.length = n) (hc : n ≤ c) (hcm : c ≤ 9223372036854775807) (hn47 : n ≤ 140737488355328) (hr : Small ys) :
    Calls Try.prog 17 #[.slice q n c] w fun e w' => ∃ sv dv lo, e = .returned (.tuple #[imgV (imgH ys) (imgS ys) sv dv, .int .i64 (imgErr ys)]) ∧ Lists w' lo (imgS ys) sv dv ∧ w.grownBy w' none := by
  refine (Image_any ys q c n h hn hc hcm hn47 hr).mono ?_
  rintro e w' ⟨hbad, hgood, hg⟩
  unfold imgH imgS
  by_cases h0 : imgErr ys = 0
  · obtain ⟨sv, dv, lo, rfl, hL, _⟩ := hgood h0
    rw [if_pos h0, if_pos h0, h0]
    exact ⟨sv, dv, lo, rfl, hL, hg⟩
  · rw [hbad h0, if_neg h0, if_neg h0]
    exact ⟨_, _, w'.heap.size, rfl, ⟨⟨[], rfl, World.ownsRow_nil _ _ _ _, fun x hx => by cases hx⟩, World.ownsRow_nil _ _ _ _⟩, hg⟩

theorem fr_ahead {ys more : List Int} (h : rdErr ys = 0) : rdErr (ys.take (readZ ys) ++ more) = 0 ∧ readH (ys.take (readZ ys) ++ more) = readH ys ∧ readL (ys.take (readZ ys) ++ more) = readL ys ∧ readZ ys ≤ ys.length := by
  have hf : frErr (ys.take 32) ys.length = 0 := by
    have h' := h
    unfold rdErr at h'
    by_cases h2 : frErr (ys.take 32) ys.length = 0
    · exact h2
    · rw [if_neg h2] at h'; exact absurd h' h2
  have hz : readZ ys = 32 + sizeF ys := by unfold readZ; rw [if_pos h]
  have hf2 := hf
  unfold frErr at hf2
  split at hf2; cases hf2
  split at hf2; cases hf2
  split at hf2; cases hf2
  split at hf2; cases hf2
  split at hf2; cases hf2
  split at hf2; cases hf2
  rename_i c0 c1 c2 c3 c4 c5
  have h32 : 32 ≤ ys.length := by rw [List.length_take] at c0; omega
  have hsz : 32 + sizeF ys ≤ ys.length := by
    have : (sizeF ys : Int) = wordN (ys.take 32) 5 ∨ sizeF ys = 0 := by unfold sizeF; omega
    omega
  have ht : (ys.take (readZ ys) ++ more).take 32 = ys.take 32 := by
    rw [List.take_append_of_le_length (by rw [List.length_take]; omega), List.take_take, Nat.min_eq_left (by omega)]
  have hlen : (ys.take (readZ ys) ++ more).length = readZ ys + more.length := by rw [List.length_append, List.length_take, Nat.min_eq_left (by omega)]
  have hfz : frErr ((ys.take (readZ ys) ++ more).take 32) (ys.take (readZ ys) ++ more).length = 0 := by
    rw [ht, hlen]
    unfold frErr
    rw [if_neg c0, if_neg c1, if_neg c2, if_neg c3, if_neg c4, if_neg]
    have : (sizeF ys : Int) = wordN (ys.take 32) 5 ∨ wordN (ys.take 32) 5 < 0 := by unfold sizeF; omega
    omega
  have hs : sizeF (ys.take (readZ ys) ++ more) = sizeF ys := by unfold sizeF; rw [ht]
  have hc : cntF (ys.take (readZ ys) ++ more) = cntF ys := by unfold cntF; rw [ht]
  have hrn : readN (ys.take (readZ ys) ++ more) = readN ys := by
    unfold readN
    rw [hs, hc]
    have : ((ys.take (readZ ys) ++ more).drop 32).take (sizeF ys) = (ys.drop 32).take (sizeF ys) := by
      rw [List.drop_append_of_le_length (by rw [List.length_take]; omega), List.take_append_of_le_length (by rw [List.length_drop, List.length_take]; omega), List.drop_take, List.take_take, hz]
      congr 1; omega
    rw [this]
  have hre : rdErr (ys.take (readZ ys) ++ more) = 0 := by
    unfold rdErr at h ⊢
    rw [if_pos hfz, hrn]
    rwa [if_pos hf] at h
  refine ⟨hre, ?_, ?_, by omega⟩
  · unfold readH; rw [if_pos hre, if_pos h, ht]
  · unfold readL; rw [if_pos hre, if_pos h, hrn]
theorem img_ahead {ys more : List Int} (h : rdErr ys = 0) : imgErr (ys.take (readZ ys) ++ more) = imgErr ys ∧ imgH (ys.take (readZ ys) ++ more) = imgH ys ∧ imgS (ys.take (readZ ys) ++ more) = imgS ys := by
  obtain ⟨h1, h2, h3, _⟩ := fr_ahead (more := more) h
  have hb : imgBs (ys.take (readZ ys) ++ more) = imgBs ys := by unfold imgBs; rw [h3]
  have he : imgErr (ys.take (readZ ys) ++ more) = imgErr ys := by unfold imgErr; rw [h1, h, hb]
  have hx : imgHx (ys.take (readZ ys) ++ more) = imgHx ys := by unfold imgHx; rw [h2]
  have hs : imgSt (ys.take (readZ ys) ++ more) = imgSt ys := by unfold imgSt; rw [hb]
  exact ⟨he, by unfold imgH; rw [he, hx], by unfold imgS; rw [he, hs]⟩
theorem wpList_load_imgW {g : Nat} {h : Hx} {s : St} {sv dv : Value} {ops : Array Oper} {rest : List Oper} {o : Oper} {a : Act} {Q : Exit → Act → World → Prop} (hw : Region.wanted o (yielded ops a.tmps) = true) (x : Operand) (ho : o.op = .load 50 x)
    (hx : a.eval x = .pointer (some ⟨g, 0, none⟩)) (k : ImgAt w g h s sv dv) (hK : wpList Try.prog ops Q rest (a.put o.dst (imgV h s sv dv)) w) : wpList Try.prog ops Q (o :: rest) a w :=
  BigFrame.wpList_want hw fun _ hK' => wp_load_row _ x ho g hx _ _ _ _ k Try.underlying50 rfl (by kernel_rfl) (hK' _ _ hK)
theorem bytesApart : 59 ≠ 5 ∧ 101 ≠ 5 ∧ 68 ≠ 5 := by decide
end Go.Proofs.Ythdppaooemdmaaa
namespace Go.Proofs.Ythdppaooemdmaaa.loadAhead
open Go.RowKit

set_option maxHeartbeats 6400000 in
set_option maxRecDepth 20000 in
theorem walk (a0 : Option Addr) (len0 cap0 : Nat) (z0 : List Int) (a1 : Option Addr) (len1 cap1 : Nat) (z1 : List Int) (w : World) (w0 : IsRow .u8 w a0 len0 cap0 z0) (w1 : IsRow .u8 w a1 len1 cap1 z1) :
    Calls Try.prog 5 #[.slice a0 len0 cap0, .slice a1 len1 cap1] w fun e w' => e = .returned (.bool true) ∧ Below w.heap.size w w' := by
  have hcap0 : len0 ≤ cap0 ∧ cap0 ≤ 9223372036854775807 := by
    rcases w0 with ⟨_, rfl, rfl, _⟩ | ⟨_, _, h1, h2, _⟩
    · omega
    · unfold maxLen at h2; omega
  have hcap1 : len1 ≤ cap1 ∧ cap1 ≤ 9223372036854775807 := by
    rcases w1 with ⟨_, rfl, rfl, _⟩ | ⟨_, _, h1, h2, _⟩
    · omega
    · unfold maxLen at h2; omega
  obtain ⟨ys, rfl, hys, hb, _⟩ := w0.bytes
  obtain ⟨ms, rfl, hms, hbm, _⟩ := w1.bytes
  have K := Lib.hid (fun w : World => known5_any (w := w))
  by_cases hbig : 20000 < ys.length ∨ 5000 < ms.length
  · have hd : decide ((20000 : Int) < ys.length) = true ∨ (decide ((20000 : Int) < ys.length) = false ∧ decide ((5000 : Int) < ms.length) = true) := by
      by_cases h : 20000 < ys.length
      · exact .inl (by simp; omega)
      · exact .inr ⟨by simp; omega, by simp; omega⟩
    clear hbig hb hbm w0 w1 hys hms
    rcases hd with d1 | ⟨d1, d2⟩
    all_goals
      go_enter Try.func5, Try.ntmps5
      go_wp2_with fail
      refine (K.out _).mono ?_
      rintro e w' ⟨rfl, hbel⟩
      have B := Lib.hid hbel
      clear hbel
      go_wp2
      go_ret
      exact ⟨rfl, B.out⟩
  have d1 : decide ((20000 : Int) < ys.length) = false := by simp; omega
  have d2 : decide ((5000 : Int) < ms.length) = false := by simp; omega
  have SB := Lib.hid (RefRead_all (w := w) ys a0 cap0 ys.length hb rfl hcap0.1 hcap0.2 (by omega) hys)
  have IM := Lib.hid (fun (w1 : World) (hg : w.grownBy w1 none) => Image_all (w := w1) ys a0 cap0 ys.length (hb.kept hg (by simp)) rfl hcap0.1 hcap0.2 (by omega) hys)
  have HB := Lib.hid hb
  have HBM := Lib.hid hbm
  have AH := Lib.hid (fun h => img_ahead (ys := ys) (more := ms) h)
  have FA := Lib.hid (fun h => (fr_ahead (ys := ys) (more := ms) h).2.2.2)
  have SMY := Lib.hid hys
  have SMM := Lib.hid hms
  have hZ := readZ_lt hys
  have hy2 : ys.length ≤ 20000 := by omega
  have hm2 : ms.length ≤ 5000 := by omega
  clear hbig hb hbm w0 w1 hys hms
  obtain ⟨er, her⟩ : ∃ z, z = rdErr ys := ⟨_, rfl⟩
  rw [← her] at SB AH FA
  obtain ⟨⟨h1, h2, h3⟩, hh⟩ : ∃ z, z = readH ys := ⟨_, rfl⟩
  rw [← hh] at SB
  obtain ⟨Z, hz⟩ : ∃ Z, Z = readZ ys := ⟨_, rfl⟩
  rw [← hz] at SB AH FA hZ
  clear her hh hz
  unfold Hd.v at SB
  simp only [] at SB
  by_cases h0 : er = 0
  rotate_left
  · have hne : (er != 0) = true := by simpa using h0
    clear h0
    go_enter Try.func5, Try.ntmps5
    go_wp2_with fail
    refine SB.out.mono ?_
    rintro e w2 ⟨pr2, qb, cb, _, rfl, _, _, _, _, hg⟩
    have G2 := Lib.hid (grown_trans hg (grown1 w2 (.cells #[.int .i64 h1, .int .i64 h2, .int .u32 h3] 27)))
    clear hg
    go_wp2_with fail
    refine (K.out _).mono ?_
    rintro e w' ⟨rfl, hbel⟩
    have B := Lib.hid ((below_grown G2.out (Nat.le_refl _) (by simp)).trans (hbel.mono G2.out.size))
    clear hbel
    go_wp2
    go_ret
    exact ⟨rfl, B.out⟩
  subst h0
  have hZy := FA.out rfl
  obtain ⟨ae, ah, a3⟩ := AH.out rfl
  have AE := Lib.hid ae
  have AHH := Lib.hid ah
  have AS := Lib.hid a3
  clear ae ah a3 AH FA
  obtain ⟨E, hE⟩ : ∃ E, E = imgErr ys := ⟨_, rfl⟩
  obtain ⟨h, hhx⟩ : ∃ z, z = imgH ys := ⟨_, rfl⟩
  obtain ⟨s, hsx⟩ : ∃ z, z = imgS ys := ⟨_, rfl⟩
  rw [← hE] at IM AE
  rw [← hhx] at IM AHH
  rw [← hsx] at IM AS
  clear hE hhx hsx
  go_enter Try.func5, Try.ntmps5
  go_wp2_with fail
  refine SB.out.mono ?_
  rintro e w2 ⟨pr2, qb, cb, _, rfl, _, _, _, _, hg⟩
  have G2 := Lib.hid (grown_trans hg (grown1 w2 (.cells #[.int .i64 h1, .int .i64 h2, .int .u32 h3] 27)))
  clear hg
  go_wp2_with fail
  refine (IM.out _ G2.out).mono ?_
  rintro e w3 ⟨sv, dv, lo, rfl, hL, hg⟩
  have G3 := Lib.hid (grown_trans G2.out hg)
  have L3 := Lib.hid hL
  obtain ⟨qs, cs, ns, rfl⟩ : ∃ q c n, sv = .slice q n c := by obtain ⟨l, _, a3, _⟩ := hL.segs; obtain ⟨q, c, rfl⟩ := own_slice a3; exact ⟨q, c, _, rfl⟩
  obtain ⟨qd, cd, nd, rfl⟩ : ∃ q c n, dv = .slice q n c := by obtain ⟨q, c, rfl⟩ := own_slice hL.deps; exact ⟨q, c, _, rfl⟩
  have Z3 := Lib.hid (ImgAt.new w3)
  clear hL hg
  have gX : w3.grownBy ((w3.alloc (.cells #[.int .i64 0, .int .i64 0, .int .u32 0, .string ⟨#[]⟩, .slice none 0 0, .slice none 0 0, .int .u64 0, .int .u64 0, .int .u64 0, .int .u64 0, .int .u64 0, .int .u64 0, .int .u64 0, .int .u64 0, .int .u64 0, .int .u64 0, .int .u64 0, .int .u64 0, .int .u64 0, .int .u64 0, .int .u64 0, .int .u64 0, .int .u64 0, .bool false] 50)).setRow w3.heap.size (imgArr h s (.slice qs ns cs) (.slice qd nd cd))) none := grown_new (grown1 w3 _) (grown_setRow _ _) (Nat.le_refl _)
  have MX := Lib.hid (Z3.out.put (h := h) (s := s) (sv := .slice qs ns cs) (dv := .slice qd nd cd))
  have GX := Lib.hid (grown_trans G3.out gX)
  have LX := Lib.hid (L3.out.grown gX)
  have IX := Lib.hid ((HB.out.kept GX.out (by simp)).take (c' := cap0) Z (HB.out.1))
  have hZl : (ys.take Z).length = Z := by rw [List.length_take]; omega
  have ZL := Lib.hid hZl
  have i1 : (Z : Int) ≤ (cap0 : Int) := by omega
  clear gX hZl
  go_wp2_with (first | refine wpList_store_img (h := h) (s := s) (sv := .slice qs ns cs) (dv := .slice qd nd cd) rfl _ _ rfl rfl rfl Z3.out ⟨_, _, _, rfl⟩ ⟨_, _, _, rfl⟩ ?_ | (at_builtin; refine wp_append_bytes rfl _ _ rfl rfl _ _ _ rfl (World.ownsRow_nil _ (World.heap ((w3.alloc (.cells #[.int .i64 0, .int .i64 0, .int .u32 0, .string ⟨#[]⟩, .slice none 0 0, .slice none 0 0, .int .u64 0, .int .u64 0, .int .u64 0, .int .u64 0, .int .u64 0, .int .u64 0, .int .u64 0, .int .u64 0, .int .u64 0, .int .u64 0, .int .u64 0, .int .u64 0, .int .u64 0, .int .u64 0, .int .u64 0, .int .u64 0, .int .u64 0, .bool false] 50)).setRow w3.heap.size (imgArr h s (.slice qs ns cs) (.slice qd nd cd)))).size _ _) (ys.take Z) Z ZL.out rfl IX.out (by omega) (Nat.le_refl _) ?_))
  intro v' w4 ho hg0
  have gX4 : World.grownBy ((w3.alloc (.cells #[.int .i64 0, .int .i64 0, .int .u32 0, .string ⟨#[]⟩, .slice none 0 0, .slice none 0 0, .int .u64 0, .int .u64 0, .int .u64 0, .int .u64 0, .int .u64 0, .int .u64 0, .int .u64 0, .int .u64 0, .int .u64 0, .int .u64 0, .int .u64 0, .int .u64 0, .int .u64 0, .int .u64 0, .int .u64 0, .int .u64 0, .int .u64 0, .bool false] 50)).setRow w3.heap.size (imgArr h s (.slice qs ns cs) (.slice qd nd cd))) w4 none := hg0
  have M4 := Lib.hid (MX.out.kept gX4 (by simp))
  have G4 := Lib.hid (grown_trans GX.out gX4)
  have L4 := Lib.hid (LX.out.grown gX4)
  have OW := Lib.hid ho
  have hxb := (MX.out.kept gX4 (by simp))
  have hx4 : w3.heap.size < w4.heap.size := lt_of_block hxb
  obtain ⟨B, hB⟩ : ∃ B, B = (World.heap ((w3.alloc (.cells #[.int .i64 0, .int .i64 0, .int .u32 0, .string ⟨#[]⟩, .slice none 0 0, .slice none 0 0, .int .u64 0, .int .u64 0, .int .u64 0, .int .u64 0, .int .u64 0, .int .u64 0, .int .u64 0, .int .u64 0, .int .u64 0, .int .u64 0, .int .u64 0, .int .u64 0, .int .u64 0, .int .u64 0, .int .u64 0, .int .u64 0, .int .u64 0, .bool false] 50)).setRow w3.heap.size (imgArr h s (.slice qs ns cs) (.slice qd nd cd)))).size := ⟨_, rfl⟩
  have hB4 : B ≤ w4.heap.size := by rw [hB]; exact gX4.size
  have hBw : w.heap.size ≤ B := by rw [hB]; exact GX.out.size
  have OB := Lib.hid (show w4.ownsRow B 5 1 v' Z ((ys.take Z).map (Value.int .u8)) from by rw [hB]; simpa using ho)
  clear ho hg0 gX4 OW hxb hB IX
  have IBM := Lib.hid (HBM.out.kept G4.out (by simp))
  go_wp2_with (at_builtin; refine wp_append_bytes rfl _ _ rfl rfl _ Z _ rfl OB.out ms ms.length rfl rfl IBM.out (by omega) hB4 ?_)
  intro v2 w5 ho hg0
  obtain ⟨qo, co, rfl⟩ := own_slice ho
  have ho2 : w5.ownsRow B 5 1 (.slice qo (Z + ms.length) co) (Z + ms.length) ((ys.take Z ++ ms).map (Value.int .u8)) := by rw [List.map_append, List.map_take]; exact ho
  clear ho
  have ho := ho2
  clear ho2
  have hoB : ∀ g, v'.ownBlock = some g → B ≤ g := fun g e => (OB.out.lt g e).1
  have G5 := Lib.hid (grown_own G4.out hg0 hoB hBw)
  have hlb : ∀ g, v'.ownBlock = some g → g ≠ w3.heap.size := fun g e => by
    rcases row_off OB.out M4.out (show 5 ≠ 50 by decide) with e' | e'
    · rw [e'] at e; cases e
    · intro h; rw [e, h] at e'; exact e' rfl
  have M5 := Lib.hid (M4.out.kept hg0 (fun e => hlb _ e rfl))
  have L5 := Lib.hid (show Lists w5 lo s (.slice qs ns cs) (.slice qd nd cd) from by
    obtain ⟨l, a2, a3, a4⟩ := L4.out.segs
    have u := bytesApart
    exact ⟨⟨l, a2, a3.kept hg0 (rows_apart u.1 a3 OB.out), fun x hx => (a4 x hx).kept hg0 (rows_apart u.2.1 (a4 x hx) OB.out)⟩, L4.out.deps.kept hg0 (rows_apart u.2.2 L4.out.deps OB.out)⟩)
  have hco : Z + ms.length ≤ co ∧ co ≤ 9223372036854775807 := by
    rcases ho.2 with ⟨e, e0⟩ | ⟨g, cap, cur, hv, _, _, h1, h2, _⟩
    · injection e with _ _ e3; subst e3; omega
    · injection hv with _ _ e3; subst e3; unfold maxLen at h2; omega
  have hzl2 : (ys.take Z ++ ms).length = Z + ms.length := by rw [List.length_append, ZL.out]
  have IZ := Image_all (w := w5) (ys.take Z ++ ms) qo co (Z + ms.length) (IsBytes.of_own hzl2 ho) hzl2 hco.1 hco.2 (by omega) (by intro x hx; rcases List.mem_append.1 hx with hx | hx; exact SMY.out x (List.mem_of_mem_take hx); exact SMM.out x hx)
  rw [AE.out, AHH.out, AS.out] at IZ
  have IMZ := Lib.hid IZ
  clear ho hg0 hoB hlb IZ hzl2
  go_wp2_with fail
  refine IMZ.out.mono ?_
  rintro e w6 ⟨sv2, dv2, lo2, rfl, hL, hg⟩
  obtain ⟨qs2, cs2, ns2, rfl⟩ : ∃ q c n, sv2 = .slice q n c := by obtain ⟨l, _, a3, _⟩ := hL.segs; obtain ⟨q, c, rfl⟩ := own_slice a3; exact ⟨q, c, _, rfl⟩
  obtain ⟨qd2, cd2, nd2, rfl⟩ : ∃ q c n, dv2 = .slice q n c := by obtain ⟨q, c, rfl⟩ := own_slice hL.deps; exact ⟨q, c, _, rfl⟩
  have Z6 := Lib.hid (ImgAt.new w6)
  have gX : w6.grownBy ((w6.alloc (.cells #[.int .i64 0, .int .i64 0, .int .u32 0, .string ⟨#[]⟩, .slice none 0 0, .slice none 0 0, .int .u64 0, .int .u64 0, .int .u64 0, .int .u64 0, .int .u64 0, .int .u64 0, .int .u64 0, .int .u64 0, .int .u64 0, .int .u64 0, .int .u64 0, .int .u64 0, .int .u64 0, .int .u64 0, .int .u64 0, .int .u64 0, .int .u64 0, .bool false] 50)).setRow w6.heap.size (imgArr h s (.slice qs2 ns2 cs2) (.slice qd2 nd2 cd2))) none := grown_new (grown1 w6 _) (grown_setRow _ _) (Nat.le_refl _)
  have N7 := Lib.hid (Z6.out.put (h := h) (s := s) (sv := .slice qs2 ns2 cs2) (dv := .slice qd2 nd2 cd2))
  have G7 := Lib.hid (grown_trans (grown_trans G5.out hg) gX)
  have M7 := Lib.hid (M5.out.kept (grown_trans hg gX) (by simp))
  have L7 := Lib.hid (L5.out.grown (grown_trans hg gX))
  have K7 := Lib.hid (hL.grown gX)
  clear hL hg gX
  go_upto_region 8 with (refine wpList_store_img (h := h) (s := s) (sv := .slice qs2 ns2 cs2) (dv := .slice qd2 nd2 cd2) rfl _ _ rfl rfl rfl Z6.out ⟨_, _, _, rfl⟩ ⟨_, _, _, rfl⟩ ?_)
  obtain ⟨W, hW⟩ : ∃ W, ((w6.alloc (.cells #[.int .i64 0, .int .i64 0, .int .u32 0, .string ⟨#[]⟩, .slice none 0 0, .slice none 0 0, .int .u64 0, .int .u64 0, .int .u64 0, .int .u64 0, .int .u64 0, .int .u64 0, .int .u64 0, .int .u64 0, .int .u64 0, .int .u64 0, .int .u64 0, .int .u64 0, .int .u64 0, .int .u64 0, .int .u64 0, .int .u64 0, .int .u64 0, .bool false] 50)).setRow w6.heap.size (imgArr h s (.slice qs2 ns2 cs2) (.slice qd2 nd2 cd2))) = W := ⟨_, rfl⟩
  rw [hW] at N7 G7 M7 L7 K7 ⊢
  obtain ⟨x, hx⟩ : ∃ x, w3.heap.size = x := ⟨_, rfl⟩
  obtain ⟨y, hy⟩ : ∃ y, w6.heap.size = y := ⟨_, rfl⟩
  rw [hx] at M7
  rw [hy] at N7
  simp only [hx, hy]
  clear hW hx hy Z3 Z6 MX M4 M5
  have SM := same5_any h s L7.out K7.out
  have SA := Lib.hid SM
  clear SM
  go_wp2_with (first | refine wpList_load_imgW rfl _ rfl rfl M7.out ?_ | refine wpList_load_imgW rfl _ rfl rfl N7.out ?_)
  refine SA.out.mono ?_
  rintro e w8 ⟨rfl, hg⟩
  have G8 := Lib.hid (grown_trans G7.out hg)
  clear hg
  go_wp2_with fail
  refine (K.out _).mono ?_
  rintro e w' ⟨rfl, hbel⟩
  have B9 := Lib.hid ((below_grown G8.out (Nat.le_refl _) (by simp)).trans (hbel.mono G8.out.size))
  clear hbel
  go_wp2
  go_ret
  exact ⟨rfl, B9.out⟩
end Go.Proofs.Ythdppaooemdmaaa.loadAhead
