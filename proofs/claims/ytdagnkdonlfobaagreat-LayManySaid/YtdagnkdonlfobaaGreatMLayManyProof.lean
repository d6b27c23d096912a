import Derived.Test.YtdagnkdonlfobaaGreatM27
import Derived.Test.YtdagnkdonlfobaaGreatM20
import Derived.Test.YtdagnkdonlfobaaGreatM17
import Derived.ProofKit
import Derived.OpenShut
import Derived.ShutString
import Derived.ChangeOld
import Derived.Below
import Derived.ChangeSame
import Derived.Lib.SmallJoins
/- How many pages an image has, as the statements of layer 8 ask it: pages. Condition: bytes, wherever they lie. -/
namespace Go.Proofs.YtdagnkdonlfobaaGreat
open Go.RowKit Go.Sort
variable {w w' W : World}

def pgTo (segs : List Seg) (k : Nat) : Int := ((segs.take k).map (fun x => x.size / 4096)).sum
def pgAll (segs : List Seg) : Int := (segs.map (fun x => x.size / 4096)).sum
def smallTo (segs : List Seg) (k : Nat) : Prop := ∀ j x, j < k → segs[j]? = some x → x.size ≤ 33554432
def pagesB (segs : List Seg) (most : Int) : Bool := segs.all (fun x => decide (x.size ≤ 33554432)) && decide (pgAll segs ≤ most)
theorem pgTo_succ {segs : List Seg} {k : Nat} {x : Seg} (h : segs[k]? = some x) : pgTo segs (k + 1) = pgTo segs k + x.size / 4096 := by
  obtain ⟨hk, rfl⟩ := List.getElem?_eq_some_iff.1 h
  unfold pgTo
  rw [List.take_succ_eq_append_getElem hk, List.map_append, List.sum_append]
  simp
theorem pgTo_len (segs : List Seg) : pgTo segs segs.length = pgAll segs := by unfold pgTo pgAll; rw [List.take_length]
theorem pgTo_bound {segs : List Seg} (hs : ∀ x ∈ segs, 0 ≤ x.size) {k : Nat} (h : smallTo segs k) : 0 ≤ pgTo segs k ∧ pgTo segs k ≤ 8192 * (k : Int) := by
  induction k with
  | zero => exact ⟨Int.le_refl _, by show (0 : Int) ≤ 0; omega⟩
  | succ k ih =>
    have ih := ih (fun j x hj hx => h j x (by omega) hx)
    rcases Nat.lt_or_ge k segs.length with hk | hk
    · have hx : segs[k]? = some (segs[k]'hk) := List.getElem?_eq_getElem hk
      rw [pgTo_succ hx]
      have h1 := h k _ (Nat.lt_succ_self k) hx
      have h2 := hs _ (List.getElem_mem hk)
      omega
    · have e : pgTo segs (k + 1) = pgTo segs k := by unfold pgTo; rw [List.take_of_length_le hk, List.take_of_length_le (by omega)]
      rw [e]; omega

set_option maxRecDepth 20000 in
set_option maxHeartbeats 1600000 in
theorem lpages_any (ys : List Int) (q : Option Addr) (c n : Nat) (hb : IsBytes w q c ys) (hn : ys.length = n) (hc : n ≤ c) (hcm : c ≤ 9223372036854775807) (hn47 : n ≤ 140737488355328) (hr : Small ys) (most : Int) :
    Calls Tryz.prog 8 #[.slice q n c, .int .u64 most] w fun e w' => e = .returned (.bool (pagesB (ofS ys).segs most)) ∧ w.grownBy w' none := by
  have OF := Lib.hid (rof_any ys q c n hb hn hc hcm hn47 hr)
  have few := few_segs ys
  have EZ := Lib.hid (show ofErr ys ≠ 0 → (ofS ys).segs = [] from fun h => by unfold ofS; rw [if_neg h]; rfl)
  have SZ := Lib.hid (show ∀ x ∈ (ofS ys).segs, 0 ≤ x.size from fun x hx => by
    rcases Classical.em (ofErr ys = 0) with e | e
    · have := ((segs_may hr e).sizes hx).2.2.1; omega
    · rw [EZ.out e] at hx; cases hx)
  obtain ⟨oe, hoe⟩ : ∃ x, x = ofErr ys := ⟨_, rfl⟩
  obtain ⟨oS, hoS⟩ : ∃ x, x = ofS ys := ⟨_, rfl⟩
  obtain ⟨oH, hoH⟩ : ∃ x, x = ofH ys := ⟨_, rfl⟩
  rw [← hoS] at few SZ ⊢
  rw [← hoe, ← hoS] at EZ
  rw [← hoe, ← hoS, ← hoH] at OF
  have FW := Lib.hid few
  clear hb hn hr hc hcm hn47 hoe hoS hoH few
  go_enter Tryz.func8, Tryz.ntmps8
  go_wp2_with fail
  refine OF.out.mono ?_
  rintro e w2 ⟨sv, dv, lo, rfl, hL, hg⟩
  obtain ⟨l, qs, cs, rfl, hk, hcap⟩ := ImgRows.of2 hL
  obtain ⟨qd, cd, rfl⟩ := own_slice hL.deps
  have GA := Lib.hid hg
  have ZB := Lib.hid (ImgAt.new w2)
  have K2 := Lib.hid hk
  clear hL hk hcap hg OF
  go_upto_region 2 with (refine wpList_store_img (h := oH) (s := oS) (sv := .slice qs l.length cs) (dv := .slice qd oS.deps.length cd) rfl _ _ rfl rfl rfl ZB.out ⟨_, _, _, rfl⟩ ⟨_, _, _, rfl⟩ ?_)
  have gN := grown_new (grown1 w2 (.cells #[.int .i64 0, .int .i64 0, .int .u32 0, .string ⟨#[]⟩, .slice none 0 0, .slice none 0 0, .int .u64 0, .int .u64 0, .int .u64 0, .int .u64 0, .int .u64 0, .int .u64 0, .int .u64 0, .int .u64 0, .int .u64 0, .int .u64 0, .int .u64 0, .int .u64 0, .int .u64 0, .int .u64 0, .int .u64 0, .int .u64 0, .int .u64 0, .bool false] 41)) (grown_setRow (g := w2.heap.size) (w2.alloc (.cells #[.int .i64 0, .int .i64 0, .int .u32 0, .string ⟨#[]⟩, .slice none 0 0, .slice none 0 0, .int .u64 0, .int .u64 0, .int .u64 0, .int .u64 0, .int .u64 0, .int .u64 0, .int .u64 0, .int .u64 0, .int .u64 0, .int .u64 0, .int .u64 0, .int .u64 0, .int .u64 0, .int .u64 0, .int .u64 0, .int .u64 0, .int .u64 0, .bool false] 41)) (imgArr oH oS (.slice qs l.length cs) (.slice qd oS.deps.length cd))) (Nat.le_refl _)
  have I3 := ZB.out.put (h := oH) (s := oS) (sv := .slice qs l.length cs) (dv := .slice qd oS.deps.length cd)
  obtain ⟨w3, hw3⟩ : ∃ w3, (w2.alloc (.cells #[.int .i64 0, .int .i64 0, .int .u32 0, .string ⟨#[]⟩, .slice none 0 0, .slice none 0 0, .int .u64 0, .int .u64 0, .int .u64 0, .int .u64 0, .int .u64 0, .int .u64 0, .int .u64 0, .int .u64 0, .int .u64 0, .int .u64 0, .int .u64 0, .int .u64 0, .int .u64 0, .int .u64 0, .int .u64 0, .int .u64 0, .int .u64 0, .bool false] 41)).setRow w2.heap.size (imgArr oH oS (.slice qs l.length cs) (.slice qd oS.deps.length cd)) = w3 := ⟨_, rfl⟩
  rw [hw3] at gN I3 ⊢
  have G3 := Lib.hid (grown_trans GA.out gN)
  have IM3 := Lib.hid I3
  have K3 := Lib.hid (K2.out.grown gN)
  have LE := Lib.hid (show oS.segs.length = l.length by rw [← K3.out.segs, List.length_map])
  have L16 := Lib.hid (show l.length ≤ 16 by rw [← LE.out]; exact FW.out)
  have hcp : l.length ≤ cs := K3.out.cap
  have GET := Lib.hid (fun k (x : Sg) (hx : l[k]? = some x) => (by rw [← K3.out.segs, List.getElem?_map, hx]; rfl : oS.segs[k]? = some x.seg))
  clear gN I3 hw3 ZB GA K2
  generalize w2.heap.size = p at *
  obtain ⟨N, hN⟩ : ∃ N, N = l.length := ⟨_, rfl⟩
  have c4 := IM3.out.c 4 (.slice qs l.length cs) rfl
  have pl := lt_of_block IM3.out
  rw [← hN] at c4 hcp LE L16
  have HN := Lib.hid hN
  generalize imgV oH oS (.slice qs l.length cs) (.slice qd oS.deps.length cd) = v1 at *
  have l16 := L16.out
  clear hN
  by_cases he : oe = 0
  rotate_left
  · have hN0 : N = 0 := by rw [← LE.out, EZ.out he]; rfl
    subst hN0
    have PB := Lib.hid (show pagesB oS.segs most = decide (0 ≤ most) by rw [EZ.out he]; rfl)
    have de : (oe == 0) = false := by simpa using he
    clear he
    go_wp2
    go_loopw [7, 8] (fun e i wr => e = .int .u64 0 ∧ i = .int .i64 0 ∧ wr = w3) (fun _ _ _ => 0)
    case atStart => exact ⟨rfl, rfl, rfl⟩
    case round =>
      obtain ⟨rfl, rfl, rfl⟩ := hrel
      go_wp2
      go_ret
      exact ⟨ret_bool PB.out.symm, G3.out⟩
  · subst he
    go_wp2
    go_loopw [7, 8] (fun e i wr => ∃ k1 : Nat, k1 ≤ N ∧ i = .int .i64 k1 ∧ e = .int .u64 (pgTo oS.segs k1) ∧ wr = w3 ∧ smallTo oS.segs k1) (fun _ i _ => N - (intOf i).toNat)
    case atStart => exact ⟨0, Nat.zero_le _, rfl, rfl, rfl, fun j x hj => by omega⟩
    case round =>
      obtain ⟨k1, hk, rfl, rfl, rfl, hsm⟩ := hrel
      have hbd := pgTo_bound SZ.out hsm
      by_cases hlt : k1 < N
      · obtain ⟨x, hx⟩ : ∃ x, l[k1]? = some x := ⟨_, List.getElem?_eq_getElem (HN.out ▸ hlt)⟩
        have hs := GET.out k1 x hx
        have XS := Lib.hid hs
        have SU := Lib.hid (pgTo_succ hs)
        have h0 := SZ.out _ (List.mem_of_getElem? hs)
        obtain ⟨g, rfl, a0, a1, a2, a3, a4, a5, a6⟩ := K3.out.row.at hx
        have dl : decide ((k1 : Int) < (N : Int)) = true := by simp; omega
        have hkl : (k1 : Int) < (N : Int) := by omega
        have SM := Lib.hid hsm
        have h16 : (k1 : Int) ≤ 16 := by omega
        obtain ⟨P, hP⟩ : ∃ P, P = pgTo oS.segs k1 := ⟨_, rfl⟩
        rw [← hP] at hbd SU ⊢
        clear hs hx hsm hP a0 a1 a3 a4 a5 a6
        obtain ⟨⟨nm, ad, sz, of, fs, pr, sl⟩, q1, c1⟩ := x
        simp only [] at a2 h0 SU XS
        by_cases hbig : 33554432 < sz
        · have db : decide (33554432 < sz) = true := by simpa using hbig
          have HF := Lib.hid (show pagesB oS.segs most = false by
            unfold pagesB
            have : oS.segs.all (fun x => decide (x.size ≤ 33554432)) = false := by
              rw [List.all_eq_false]
              exact ⟨_, List.mem_of_getElem? XS.out, by simp; exact hbig⟩
            rw [this]; rfl)
          clear hbd h0 hbig
          go_wp2
          go_ret
          exact ⟨ret_bool HF.out.symm, G3.out⟩
        · have db : decide (33554432 < sz) = false := by simpa using hbig
          have hw : IntKind.u64.wrap (P + sz / 4096) = P + sz / 4096 := IntWalk.u64_in _ (by omega)
          have h0' : 0 ≤ sz := h0
          have hwq : IntKind.u64.wrap (sz / 4096) = sz / 4096 := IntWalk.u64_in _ (by omega)
          have htd : sz.tdiv 4096 = sz / 4096 := Int.tdiv_eq_ediv_of_nonneg h0'
          have HT := Lib.hid (And.intro hw (And.intro hwq htd))
          clear hw hwq htd
          have ST := Lib.hid (show smallTo oS.segs (k1 + 1) from fun j y hj hy => by
            rcases Nat.lt_or_ge j k1 with h1 | h1
            · exact SM.out j y h1 hy
            · obtain rfl : j = k1 := by omega
              rw [XS.out] at hy; injection hy with hy; subst hy
              show sz ≤ _; omega)
          clear hbd hbig
          go_wp2
          go_roundw
          case rel => exact ⟨k1 + 1, hlt, by go_num, (by obtain ⟨hw, hwq, htd⟩ := HT.out; rw [SU.out]; first | rfl | rw [htd, hwq, hw] | rw [hwq, hw] | rw [htd, hw] | rw [hw]), (by first | rfl | trivial), ST.out⟩
          case measure => simp [intOf]; omega
      · have hk' : k1 = N := by omega
        subst hk'
        have dl : decide ((k1 : Int) < (k1 : Int)) = false := by simp
        have HF := Lib.hid (show pagesB oS.segs most = decide (pgTo oS.segs k1 ≤ most) by
          unfold pagesB
          have : oS.segs.all (fun x => decide (x.size ≤ 33554432)) = true := by
            rw [List.all_eq_true]
            intro x hx
            obtain ⟨j, hj, rfl⟩ := List.getElem_of_mem hx
            simpa using hsm j _ (by rw [← LE.out]; exact hj) (List.getElem?_eq_getElem hj)
          rw [this, Bool.true_and, ← pgTo_len, LE.out])
        clear hbd hsm
        generalize pgTo oS.segs k1 = P at *
        go_wp2
        go_ret
        exact ⟨ret_bool HF.out.symm, G3.out⟩
end Go.Proofs.YtdagnkdonlfobaaGreat

/- What LayMany asks, by numbers: so many pages first, then an image far above them. Conditions: the image may be, and ends at 2^45 or below. -/
namespace Go.Proofs.YtdagnkdonlfobaaGreat

def nTo (segs : List Seg) (k : Nat) : Int := (((segs.take k).filter laidS).map (fun x => x.size / 4096)).sum
def nAll (segs : List Seg) : Int := ((segs.filter laidS).map (fun x => x.size / 4096)).sum
theorem nTo_succ {segs : List Seg} {k : Nat} {x : Seg} (h : segs[k]? = some x) : nTo segs (k + 1) = nTo segs k + (if laidS x = true then x.size / 4096 else 0) := by
  obtain ⟨hk, rfl⟩ := List.getElem?_eq_some_iff.1 h
  unfold nTo
  rw [List.take_succ_eq_append_getElem hk, List.filter_append, List.map_append, List.sum_append]
  congr 1
  cases hl : laidS (segs[k]'hk)
  · simp [hl]
  · simp [hl]
theorem nTo_len (segs : List Seg) : nTo segs segs.length = nAll segs := by unfold nTo nAll; rw [List.take_length]
theorem nTo_bound {segs : List Seg} (hs : ∀ x ∈ segs, 0 ≤ x.size ∧ x.size ≤ 33554432) (k : Nat) : 0 ≤ nTo segs k ∧ nTo segs k ≤ 8192 * (k : Int) := by
  induction k with
  | zero => exact ⟨Int.le_refl _, by show (0 : Int) ≤ 0; omega⟩
  | succ k ih =>
    rcases Nat.lt_or_ge k segs.length with hk | hk
    · have hx : segs[k]? = some (segs[k]'hk) := List.getElem?_eq_getElem hk
      rw [nTo_succ hx]
      have h2 := hs _ (List.getElem_mem hk)
      split <;> omega
    · have e : nTo segs (k + 1) = nTo segs k := by unfold nTo; rw [List.take_of_length_le hk, List.take_of_length_le (by omega)]
      rw [e]; omega
theorem hi_fold (l : List Seg) (a : Int) : a ≤ l.foldl hiS a := by
  induction l generalizing a with
  | nil => exact Int.le_refl _
  | cons y l ih =>
    refine Int.le_trans ?_ (ih (hiS a y))
    unfold hiS
    split
    · exact Int.le_max_left _ _
    · exact Int.le_refl _
theorem high_le {l : List Seg} {x : Seg} (hx : x ∈ l) (hl : laidS x = true) (a : Int) : (x.addr + x.size) % 18446744073709551616 ≤ l.foldl hiS a := by
  induction l generalizing a with
  | nil => cases hx
  | cons y l ih =>
    rcases List.mem_cons.1 hx with rfl | hx
    · refine Int.le_trans ?_ (hi_fold l (hiS a x))
      unfold hiS
      rw [if_pos hl]
      exact Int.le_max_right _ _
    · exact ih hx _
theorem pg_sum {segs : List Seg} {n : Int} (m : SegsMay segs n) (ys : List Int) (sl : Int) : (pgSum ((laysOf ys segs sl).map LayS.seat) : Int) = nAll segs := by
  unfold laysOf pgSum nAll
  rw [List.map_map, List.map_map]
  have hm : ∀ x ∈ segs.filter laidS, 0 ≤ x.size := fun x hx => by have := (m.sizes (List.mem_filter.1 hx).1).2.2.1; omega
  generalize segs.filter laidS = l at *
  induction l with
  | nil => rfl
  | cons x l ih =>
    simp only [List.map_cons, List.sum_cons]
    rw [Int.natCast_add, ih (fun y hy => hm y (List.mem_cons_of_mem _ hy))]
    congr 1
    show ((x.size.toNat / 4096 : Nat) : Int) = x.size / 4096
    have := hm x (List.mem_cons_self ..)
    omega
theorem many_fit {ys : List Int} {segs : List Seg} (m : SegsMay segs ys.length) {sl many : Nat} (hsl : sl % 4096 = 0) (h1 : 1099511627776 ≤ sl) (h2 : sl ≤ 35184372088832) (hh : highN segs ≤ 35184372088832) (hm : many ≤ 8192) :
    fitErr (Spc.zero.lays 0 many 1) ((laysOf ys segs sl).map LayS.seat) = if 8192 < (many : Int) + nAll segs then 11 else 0 := by
  have hmay := may_lay (ys := ys) m hsl
  have hx : ∀ y ∈ laysOf ys segs sl, 1099511627776 ≤ y.at' ∧ y.at' + y.sz ≤ 70368744177664 := by
    intro y hy
    obtain ⟨x, hx, rfl⟩ := List.mem_map.1 hy
    obtain ⟨hx1, hx2⟩ := List.mem_filter.1 hx
    obtain ⟨h1', h2', h3, h4, h5, h6, h7, h8, h9⟩ := m.sizes hx1
    have hhi := high_le hx1 hx2 0
    rw [← highN_eq] at hhi
    show 1099511627776 ≤ ((x.addr + sl) % 18446744073709551616).toNat ∧ ((x.addr + sl) % 18446744073709551616).toNat + x.size.toNat ≤ 70368744177664
    omega
  have hb : ∀ x ∈ (laysOf ys segs sl).map LayS.seat, x.1 + x.2 ≤ 140737488355328 := by
    intro z hz
    obtain ⟨y, hy, rfl⟩ := List.mem_map.1 hz
    have := (hx y hy).2
    show y.at' + y.sz ≤ _
    omega
  have hf : ∀ x ∈ (laysOf ys segs sl).map LayS.seat, freeOf (Spc.zero.lays 0 many 1) x.1 x.2 = true := by
    intro z hz
    have hzb := hb z hz
    obtain ⟨y, hy, rfl⟩ := List.mem_map.1 hz
    refine (free_in (hmay y hy).paged hzb).2 fun n hn => ?_
    have h3 := (hx y hy).1
    have h4 : y.at' / 4096 ≤ n := hn.1
    rw [lays_P (by omega)]; rfl
  have hs := pg_sum m ys sl
  unfold fitErr
  rw [if_neg (fun h => h hb), if_neg (fun h => h hf)]
  have hK : (Spc.zero.lays 0 many 1).K = many := by show 0 + many = many; omega
  rw [hK, ← hs]
  by_cases h : 8192 < many + pgSum ((laysOf ys segs sl).map LayS.seat)
  · rw [if_pos h, if_pos (by omega)]
  · rw [if_neg h, if_neg (by omega)]
end Go.Proofs.YtdagnkdonlfobaaGreat

/- The walk of LayMany: an image that has not enough pages is not laid at all. No condition. -/
namespace Go.Proofs.YtdagnkdonlfobaaGreat.layMany
open Go.RowKit Go.Sort
variable {w w' W : World}

theorem nat_u64 {a : Int} (h : (Lit.int .u64 a).wf = true) : ∃ n : Nat, a = n ∧ n < 18446744073709551616 := by
  have : 0 ≤ a ∧ a ≤ 18446744073709551615 := by simpa [Lit.wf, IntKind.min, IntKind.max, IntKind.signed, IntKind.bits] using h
  exact ⟨a.toNat, by omega, by omega⟩
theorem map_first {n : Nat} (h : n ≤ 8192) (hn : 0 < n) : mapErr Spc.zero 0 (n * 4096) 1 = 0 := by
  refine mapErr_ok (by unfold mapArg; omega) (belowB_iff.2 (by omega)) ?_ (by show ¬ 8192 - 0 < _; omega)
  rw [freeOf_is (by omega) (belowB_iff.2 (by omega))]
  exact freeB_iff.2 fun _ _ _ => rfl

set_option maxHeartbeats 6400000 in
set_option maxRecDepth 20000 in
theorem walk (a0 : Int) (a1 : Option Addr) (len1 cap1 : Nat) (z1 : List Int) (a2 : Int) (w : World) (w0 : (Lit.int .u64 a0).wf = true) (w1 : IsRow .u8 w a1 len1 cap1 z1) (w2 : (Lit.int .u64 a2).wf = true) :
    Calls Tryz.prog 4 #[.int .u64 a0, .slice a1 len1 cap1, .int .u64 a2] w fun e w' => e = .returned (.bool true) ∧ Below w.heap.size w w' := by
  have hcap : len1 ≤ cap1 ∧ cap1 ≤ 9223372036854775807 := by
    rcases w1 with ⟨_, rfl, rfl, _⟩ | ⟨_, _, h1, h2, _⟩
    · omega
    · unfold maxLen at h2; omega
  obtain ⟨ys, rfl, hys, hb, hbk⟩ := w1.bytes
  obtain ⟨n, rfl, hn64⟩ := nat_u64 w0
  obtain ⟨sl, rfl, hs64⟩ := nat_u64 w2
  have K := Lib.hid (fun w : World => known8_any w)
  clear w0 w1 w2
  by_cases c1 : n < 1
  · have d1 : decide ((n : Int) < 1) = true := by simp; omega
    clear hb hys hbk
    go_enter Tryz.func4, Tryz.ntmps4
    go_wp2_with fail
    refine (K.out _).mono ?_
    rintro e w9 ⟨rfl, hg⟩
    have B := Lib.hid (below_grown hg (Nat.le_refl _) (by simp))
    clear hg
    go_wp2
    go_ret
    exact ⟨rfl, B.out⟩
  have d1 : decide ((n : Int) < 1) = false := by simp; omega
  by_cases c2 : 8192 < n
  · have d2 : decide ((8192 : Int) < n) = true := by simp; omega
    clear hb hys hbk
    go_enter Tryz.func4, Tryz.ntmps4
    go_wp2_with fail
    refine (K.out _).mono ?_
    rintro e w9 ⟨rfl, hg⟩
    have B := Lib.hid (below_grown hg (Nat.le_refl _) (by simp))
    clear hg
    go_wp2
    go_ret
    exact ⟨rfl, B.out⟩
  have d2 : decide ((8192 : Int) < n) = false := by simp; omega
  by_cases c3 : 20000 < ys.length
  · have d3 : decide ((20000 : Int) < ys.length) = true := by simp; omega
    clear hb hys hbk
    go_enter Tryz.func4, Tryz.ntmps4
    go_wp2_with fail
    refine (K.out _).mono ?_
    rintro e w9 ⟨rfl, hg⟩
    have B := Lib.hid (below_grown hg (Nat.le_refl _) (by simp))
    clear hg
    go_wp2
    go_ret
    exact ⟨rfl, B.out⟩
  have d3 : decide ((20000 : Int) < ys.length) = false := by simp; omega
  have PG := Lib.hid (lpages_any (w := w) ys a1 cap1 ys.length hb rfl hcap.1 hcap.2 (by omega) hys 40)
  have BY := Lib.hid hb
  have BK := Lib.hid hbk
  have BK := Lib.hid hbk
  have BK := Lib.hid hbk
  have BK := Lib.hid hbk
  have BK := Lib.hid hbk
  have BK := Lib.hid hbk
  have BK := Lib.hid hbk
  have SM := Lib.hid hys
  have HC := Lib.hid hcap
  have HL := Lib.hid (show ys.length ≤ 20000 by omega)
  obtain ⟨oe, hoe⟩ : ∃ x, x = ofErr ys := ⟨_, rfl⟩
  obtain ⟨oS, hoS⟩ : ∃ x, x = ofS ys := ⟨_, rfl⟩
  rw [← hoS] at PG
  have OEr := Lib.hid hoe
  have OSr := Lib.hid hoS
  clear hb hys hoe hoS hbk
  cases hpb : pagesB oS.segs 40
  · rw [hpb] at PG
    clear c3
    generalize hnn : ys.length = N at *
    go_enter Tryz.func4, Tryz.ntmps4
    go_wp2_with fail
    refine PG.out.mono ?_
    rintro e w3 ⟨rfl, hg3⟩
    have G3 := Lib.hid hg3
    clear hg3
    go_wp2_with fail
    refine (K.out _).mono ?_
    rintro e w9 ⟨rfl, hg⟩
    have B := Lib.hid (below_grown (grown_trans G3.out hg) (Nat.le_refl _) (by simp))
    clear hg
    go_wp2
    go_ret
    exact ⟨rfl, B.out⟩
  rw [hpb] at PG
  have PB := Lib.hid hpb
  clear hpb
  by_cases c5 : 35184372088832 < sl
  · have d5 : decide ((35184372088832 : Int) < sl) = true := by simp; omega
    clear c3
    generalize hnn : ys.length = N at *
    go_enter Tryz.func4, Tryz.ntmps4
    go_wp2_with fail
    refine PG.out.mono ?_
    rintro e w3 ⟨rfl, hg3⟩
    have G3 := Lib.hid hg3
    clear hg3
    go_wp2_with fail
    refine (K.out _).mono ?_
    rintro e w9 ⟨rfl, hg⟩
    have B := Lib.hid (below_grown (grown_trans G3.out hg) (Nat.le_refl _) (by simp))
    clear hg
    go_wp2
    go_ret
    exact ⟨rfl, B.out⟩
  have d5 : decide ((35184372088832 : Int) < sl) = false := by simp; omega
  by_cases c6 : sl < 1099511627776
  · have d6 : decide ((sl : Int) < 1099511627776) = true := by simp; omega
    clear c3
    generalize hnn : ys.length = N at *
    go_enter Tryz.func4, Tryz.ntmps4
    go_wp2_with fail
    refine PG.out.mono ?_
    rintro e w3 ⟨rfl, hg3⟩
    have G3 := Lib.hid hg3
    clear hg3
    go_wp2_with fail
    refine (K.out _).mono ?_
    rintro e w9 ⟨rfl, hg⟩
    have B := Lib.hid (below_grown (grown_trans G3.out hg) (Nat.le_refl _) (by simp))
    clear hg
    go_wp2
    go_ret
    exact ⟨rfl, B.out⟩
  have d6 : decide ((sl : Int) < 1099511627776) = false := by simp; omega
  have CN := Lib.hid (show 0 < n ∧ n ≤ 8192 by omega)
  have CS := Lib.hid (show 1099511627776 ≤ sl ∧ sl ≤ 35184372088832 by omega)
  have E1 := Lib.hid (map_first (n := n) (by omega) (by omega))
  have hwm : IntKind.u64.wrap ((n : Int) * 4096) = (n : Int) * 4096 := IntWalk.u64_in _ (by omega)
  have ROF := Lib.hid (fun (V : World) (hg : w.grownBy V none) => rof_any (w := V) ys a1 cap1 ys.length (BY.out.kept hg (by simp)) rfl HC.out.1 HC.out.2 (by have := HL.out; omega) SM.out)
  obtain ⟨oH, hoH⟩ : ∃ x, x = ofH ys := ⟨_, rfl⟩
  have ROF := Lib.hid (fun (V : World) (hg : w.grownBy V none) => (by have := ROF.out V hg; rw [← hoH, ← OSr.out, ← OEr.out] at this; exact this : Calls Tryz.prog 9 #[.slice a1 ys.length cap1] V fun e w' => ∃ sv dv lo, e = .returned (.tuple #[imgV oH oS sv dv, .int .i64 oe]) ∧ Lists w' lo oS sv dv ∧ V.grownBy w' none))
  clear c1 c2 c3 c5 c6 hoH
  generalize hnn : ys.length = N at *
  have LNY := Lib.hid hnn
  clear hnn
  go_enter Tryz.func4, Tryz.ntmps4
  go_wp2_with fail
  refine PG.out.mono ?_
  rintro e w3 ⟨rfl, hg3⟩
  have G3 := Lib.hid hg3
  clear hg3 PG
  go_wp2_with fail
  refine (spnew_any w3).mono ?_
  rintro e w4 ⟨rfl, s4, b4⟩
  go_wp2_with fail
  have M1 := map_any s4 0 (n * 4096) 1
  rw [show ((n * 4096 : Nat) : Int) = (n : Int) * 4096 from by omega] at M1
  refine M1.mono ?_
  rintro e w5 ⟨rfl, hd, _, ch⟩
  have s5 := (hd E1.out).mono (span_foot b4.size ch.size)
  rw [show 0 / 4096 = 0 from rfl, show n * 4096 / 4096 = n by omega] at s5
  have b5 := span_below b4 ch
  rw [E1.out]
  have S5 := Lib.hid s5
  have G5 := Lib.hid (grown_trans G3.out (grown_below b5 none))
  have Z5 := Lib.hid b5.size
  clear hd ch s4 b4 s5 b5 M1
  obtain ⟨sa, hsa⟩ : ∃ x, w3.heap.size = x := ⟨_, rfl⟩
  rw [hsa] at S5 ⊢
  have SA := Lib.hid hsa
  clear hsa
  go_wp2_with fail
  refine (ROF.out _ G5.out).mono ?_
  rintro e w6 ⟨sv, dv, lo, rfl, hL, hg⟩
  obtain ⟨l, qs, cs, rfl, hk, hcap'⟩ := ImgRows.of2 hL
  obtain ⟨qd, cd, rfl⟩ := own_slice hL.deps
  have GA := Lib.hid hg
  have ZB := Lib.hid (ImgAt.new w6)
  have K2 := Lib.hid hk
  clear hL hk hcap' hg ROF
  go_upto_region 7 with (refine wpList_store_img (h := oH) (s := oS) (sv := .slice qs l.length cs) (dv := .slice qd oS.deps.length cd) rfl _ _ rfl rfl rfl ZB.out ⟨_, _, _, rfl⟩ ⟨_, _, _, rfl⟩ ?_)
  have gN := grown_new (grown1 w6 (.cells #[.int .i64 0, .int .i64 0, .int .u32 0, .string ⟨#[]⟩, .slice none 0 0, .slice none 0 0, .int .u64 0, .int .u64 0, .int .u64 0, .int .u64 0, .int .u64 0, .int .u64 0, .int .u64 0, .int .u64 0, .int .u64 0, .int .u64 0, .int .u64 0, .int .u64 0, .int .u64 0, .int .u64 0, .int .u64 0, .int .u64 0, .int .u64 0, .bool false] 41)) (grown_setRow (g := w6.heap.size) (w6.alloc (.cells #[.int .i64 0, .int .i64 0, .int .u32 0, .string ⟨#[]⟩, .slice none 0 0, .slice none 0 0, .int .u64 0, .int .u64 0, .int .u64 0, .int .u64 0, .int .u64 0, .int .u64 0, .int .u64 0, .int .u64 0, .int .u64 0, .int .u64 0, .int .u64 0, .int .u64 0, .int .u64 0, .int .u64 0, .int .u64 0, .int .u64 0, .int .u64 0, .bool false] 41)) (imgArr oH oS (.slice qs l.length cs) (.slice qd oS.deps.length cd))) (Nat.le_refl _)
  have I3 := ZB.out.put (h := oH) (s := oS) (sv := .slice qs l.length cs) (dv := .slice qd oS.deps.length cd)
  obtain ⟨w7, hw7⟩ : ∃ w7, (w6.alloc (.cells #[.int .i64 0, .int .i64 0, .int .u32 0, .string ⟨#[]⟩, .slice none 0 0, .slice none 0 0, .int .u64 0, .int .u64 0, .int .u64 0, .int .u64 0, .int .u64 0, .int .u64 0, .int .u64 0, .int .u64 0, .int .u64 0, .int .u64 0, .int .u64 0, .int .u64 0, .int .u64 0, .int .u64 0, .int .u64 0, .int .u64 0, .int .u64 0, .bool false] 41)).setRow w6.heap.size (imgArr oH oS (.slice qs l.length cs) (.slice qd oS.deps.length cd)) = w7 := ⟨_, rfl⟩
  rw [hw7] at gN I3 ⊢
  have G57 := Lib.hid (grown_trans GA.out gN)
  have G7 := Lib.hid (grown_trans G5.out G57.out)
  have S7 := Lib.hid (spc_kept S5.out G57.out (by simp))
  have IM7 := Lib.hid I3
  have K7 := Lib.hid (K2.out.grown gN)
  clear gN I3 hw7 ZB GA K2
  generalize w6.heap.size = p at *
  by_cases he : oe = 0
  rotate_left
  · have de : (oe == 0) = false := by simpa using he
    have de2 : (oe != 0) = true := by simpa using he
    clear he
    go_wp2_with fail
    refine (K.out _).mono ?_
    rintro e w9 ⟨rfl, hg⟩
    have B := Lib.hid (below_grown (grown_trans G7.out hg) (Nat.le_refl _) (by simp))
    clear hg
    go_wp2
    go_ret
    exact ⟨rfl, B.out⟩
  subst he
  have MY := Lib.hid (show SegsMay oS.segs ys.length from OSr.out ▸ segs_may SM.out OEr.out.symm)
  have HI := Lib.hid (rHigh_any (h := oH) (dv := .slice qd oS.deps.length cd) K7.out)
  obtain ⟨H, hH⟩ : ∃ H, H = highN oS.segs := ⟨_, rfl⟩
  rw [← hH] at HI
  have HH := Lib.hid hH
  clear hH
  by_cases c7 : 35184372088832 < H
  · have d7 : decide (35184372088832 < H) = true := by simpa using c7
    clear c7
    go_wp2_with (first | refine wpList_load_imgW rfl _ rfl rfl IM7.out ?_ | fail)
    refine HI.out.mono ?_
    rintro e w8 ⟨rfl, hg⟩
    have G8 := Lib.hid (grown_trans G7.out hg)
    clear hg
    go_wp2_with fail
    refine (K.out _).mono ?_
    rintro e w9 ⟨rfl, hg⟩
    have B := Lib.hid (below_grown (grown_trans G8.out hg) (Nat.le_refl _) (by simp))
    clear hg
    go_wp2
    go_ret
    exact ⟨rfl, B.out⟩
  have d7 : decide (35184372088832 < H) = false := by simpa using c7
  have H45 := Lib.hid (show highN oS.segs ≤ 35184372088832 by rw [← HH.out]; omega)
  clear c7
  go_wp2_with (first | refine wpList_load_imgW rfl _ rfl rfl IM7.out ?_ | fail)
  refine HI.out.mono ?_
  rintro e w8 ⟨rfl, hg⟩
  have G8 := Lib.hid (grown_trans G7.out hg)
  have S8 := Lib.hid (spc_kept S7.out hg (by simp))
  have G58 := Lib.hid (grown_trans G57.out hg)
  have IM8 := Lib.hid (IM7.out.kept hg (by simp))
  have K8 := Lib.hid (K7.out.grown hg)
  clear hg IM7 K7 S7 G7 G57 HI
  have LE := Lib.hid (show oS.segs.length = l.length by rw [← K8.out.segs, List.length_map])
  have L16 := Lib.hid (show l.length ≤ 16 by rw [← LE.out, OSr.out]; exact few_segs ys)
  have GET := Lib.hid (fun k (x : Sg) (hx : l[k]? = some x) => (by rw [← K8.out.segs, List.getElem?_map, hx]; rfl : oS.segs[k]? = some x.seg))
  have SB := Lib.hid (show ∀ x ∈ oS.segs, 0 ≤ x.size ∧ x.size ≤ 33554432 from fun x hx => by
    have h1 := (MY.out.sizes hx).2.2.1
    have h2 := PB.out
    unfold pagesB at h2
    rw [Bool.and_eq_true] at h2
    have h3 := List.all_eq_true.1 h2.1 x hx
    simp at h3
    omega)
  obtain ⟨L, hL⟩ : ∃ L, L = l.length := ⟨_, rfl⟩
  have HLL := Lib.hid hL
  have hcp : L ≤ cs := by rw [hL]; exact K8.out.cap
  have l16 : L ≤ 16 := by rw [hL]; exact L16.out
  have c4 := IM8.out.c 4 (.slice qs l.length cs) rfl
  have pl := lt_of_block IM8.out
  rw [← hL] at LE c4
  clear hL
  generalize imgV oH oS (.slice qs l.length cs) (.slice qd oS.deps.length cd) = v1 at *
  go_wp2
  go_loopw [10, 11] (fun e i wr => ∃ k1 : Nat, k1 ≤ L ∧ i = .int .i64 k1 ∧ e = .int .u64 (nTo oS.segs k1) ∧ w8.grownBy wr none) (fun _ i _ => L - (intOf i).toNat)
  case atStart => exact ⟨0, Nat.zero_le _, rfl, rfl, grown_refl _ _⟩
  case round =>
    obtain ⟨k1, hk, rfl, rfl, hg⟩ := hrel
    have hbd := nTo_bound SB.out k1
    have c4' := grown_cell hg c4
    have pl' := Nat.lt_of_lt_of_le pl hg.size
    by_cases hlt : k1 < L
    · obtain ⟨x, hx⟩ : ∃ x, l[k1]? = some x := ⟨_, List.getElem?_eq_getElem (HLL.out ▸ hlt)⟩
      have hs := GET.out k1 x hx
      have SU := Lib.hid (nTo_succ hs)
      have h0 := SB.out _ (List.mem_of_getElem? hs)
      obtain ⟨g, rfl, a0, a1', a2', a3, a4, a5, a6⟩ := (K8.out.row.grown hg).at hx
      have dl : decide ((k1 : Int) < (L : Int)) = true := by simp; omega
      have hkl : (k1 : Int) < (L : Int) := by omega
      have h16 : (k1 : Int) ≤ 16 := by omega
      have G9 := Lib.hid hg
      have LD := Lib.hid (fun (V : World) => hole_any (w := V) x.seg x.q x.seg.secs.length x.c)
      obtain ⟨bx, hbx⟩ : ∃ bx, bx = laidS x.seg := ⟨_, rfl⟩
      rw [← hbx] at LD SU
      obtain ⟨P, hP⟩ : ∃ P, P = nTo oS.segs k1 := ⟨_, rfl⟩
      rw [← hP] at hbd SU ⊢
      clear hs hx hP hbx c4
      obtain ⟨⟨nm, ad, sz, of, fs, pr, sc⟩, q1, c1⟩ := x
      simp only [] at a0 a1' a2' a3 a4 a5 a6 h0 SU LD
      unfold segV segArr at LD
      have h0' : 0 ≤ sz := h0.1
      have HT := Lib.hid (show IntKind.u64.wrap (P + IntKind.u64.wrap (sz / 4096)) = P + sz / 4096 by
        rw [IntWalk.u64_in (sz / 4096) (by omega), IntWalk.u64_in _ (by omega)])
      have HT2 := Lib.hid (Int.tdiv_eq_ediv_of_nonneg h0' : sz.tdiv 4096 = sz / 4096)
      have HT3 := Lib.hid (show IntKind.u64.wrap (P + sz / 4096) = P + sz / 4096 by rw [IntWalk.u64_in _ (by omega)])
      have HT4 := Lib.hid (show IntKind.u64.wrap (sz / 4096) = sz / 4096 by rw [IntWalk.u64_in _ (by omega)])
      clear hbd hg
      go_wp2_with fail
      refine (LD.out _).mono ?_
      rintro e w9 ⟨rfl, hg⟩
      have b2 := grown_cell hg a2'
      have b4 := grown_cell hg c4'
      have GW := Lib.hid (grown_trans G9.out hg)
      have pl9 := Nat.lt_of_lt_of_le pl' hg.size
      clear hg a0 a1' a2' a3 a4 a5 a6 c4' pl' LD
      cases bx
      · go_wp2
        go_roundw
        case rel => exact ⟨k1 + 1, hlt, by go_num, by rw [SU.out, if_neg (by decide), Int.add_zero], GW.out⟩
        case measure => simp [intOf]; omega
      · go_wp2
        go_roundw
        case rel => exact ⟨k1 + 1, hlt, by go_num, by (rw [SU.out]; first | rw [if_pos rfl] | rw [if_pos trivial]); first | rfl | rw [HT2.out, HT.out] | rw [HT2.out, HT3.out] | rw [HT.out] | rw [HT3.out] | rw [HT4.out, HT3.out], GW.out⟩
        case measure => simp [intOf]; omega
    · have hk' : k1 = L := by omega
      subst hk'
      have dl : decide ((k1 : Int) < (k1 : Int)) = false := by simp
      have NA := Lib.hid (show nTo oS.segs k1 = nAll oS.segs by rw [← nTo_len, LE.out])
      have GR := Lib.hid (grown_trans G8.out hg)
      have SR := Lib.hid (spc_kept S8.out hg (by simp))
      have ZR := Lib.hid (Nat.le_trans G58.out.size hg.size)
      have LA := Lib.hid (Lay_any (w := wr) (F := Span w3 w5) (σ := Spc.zero.lays 0 n 1) ys a1 cap1 N sa (BY.out.kept GR.out (by simp)) LNY.out HC.out.1 HC.out.2 (Nat.le_trans HL.out (by decide)) SM.out sl hs64 SR.out (fun k hk => Nat.lt_of_lt_of_le hk.2 ZR.out)
        (fun h0 x hx => by
          have h1 := BK.out x hx (by rw [← LNY.out]; exact h0)
          have h2 := G3.out.size
          have h3 := GR.out.size
          exact ⟨fun hf => by have := hf.1; omega, by omega⟩))
      clear hg c4 pl hbd
      obtain ⟨P, hP⟩ : ∃ P, P = nTo oS.segs k1 := ⟨_, rfl⟩
      rw [← hP] at NA ⊢
      have hPb : 0 ≤ P ∧ P ≤ 131072 := by
        have := nTo_bound SB.out k1
        rw [← hP] at this; omega
      clear hP
      obtain ⟨cn1, cn2⟩ := CN.out
      have hws : IntKind.u64.wrap ((n : Int) + P) = (n : Int) + P := IntWalk.u64_in _ (by omega)
      have hwi : IntKind.i64.wrap ((n : Int) + P) = (n : Int) + P := IntWalk.i64_in _ (by omega)
      have hwn : IntKind.i64.wrap (n : Int) = (n : Int) := IntWalk.i64_in _ (by omega)
      obtain ⟨er, her⟩ : ∃ er, layErr (Spc.zero.lays 0 n 1) ys sl = er := ⟨_, rfl⟩
      by_cases c8 : sl % 4096 = 0
      rotate_left
      · have hc8 : ¬ (sl : Int) % 4096 = 0 := by omega
        have hE : er = 2 := by rw [← her]; exact if_pos c8
        subst hE
        have HER := Lib.hid her
        clear c8 her hws hwi hwn hPb
        go_wp2_with fail
        refine LA.out.mono ?_
        rintro e wx ⟨rfl, hd, hl, hch⟩
        rw [HER.out]
        have GX := Lib.hid (grown_chg GR.out hch (fun k hk => Nat.le_trans G3.out.size hk.1))
        clear hch hd hl
        have hq : ((sl : Int) % 4096 != 0) = true := by simpa using hc8
        go_upto_region 16 with fail
        go_upto_if 86 with (fail)
        clear hc8 hq
        go_upto_region 17 with fail
        go_wp2_with fail
        refine (K.out _).mono ?_
        rintro e wy ⟨rfl, hg⟩
        have B := Lib.hid (below_grown (grown_trans GX.out hg) (Nat.le_refl _) (by simp))
        clear hg
        go_wp2
        go_ret
        exact ⟨rfl, B.out⟩
      have hc8 : (sl : Int) % 4096 = 0 := by omega
      have hfit : er = if 8192 < (n : Int) + nAll oS.segs then 11 else 0 := by
        rw [← her]
        unfold layErr
        rw [if_neg (by simpa using c8), if_neg (by rw [← OEr.out]; simp), ← OSr.out]
        exact many_fit MY.out c8 CS.out.1 CS.out.2 H45.out cn2
      rw [← NA.out] at hfit
      by_cases c9 : 8192 < (n : Int) + P
      · have hE : er = 11 := by rw [hfit, if_pos c9]
        subst hE
        have HER := Lib.hid her
        clear c8 her hfit
        go_wp2_with fail
        refine LA.out.mono ?_
        rintro e wx ⟨rfl, hd, hl, hch⟩
        have SX := Lib.hid (hl (by rw [HER.out]; decide))
        rw [HER.out]
        have GX := Lib.hid (grown_chg GR.out hch (fun k hk => Nat.le_trans G3.out.size hk.1))
        clear hch hd hl
        go_wp2_with fail
        refine (pages_any SX.out).mono ?_
        rintro e wy ⟨rfl, rfl⟩
        rw [show (((Spc.zero.lays 0 n 1).K : Nat) : Int) = n from by show ((0 + n : Nat) : Int) = n; omega]
        go_wp2_with fail
        refine (K.out _).mono ?_
        rintro e wy ⟨rfl, hg⟩
        have B := Lib.hid (below_grown (grown_trans GX.out hg) (Nat.le_refl _) (by simp))
        clear hg
        go_wp2
        go_ret
        exact ⟨rfl, B.out⟩
      · have hE : er = 0 := by rw [hfit, if_neg c9]
        subst hE
        have HER := Lib.hid her
        have PS := Lib.hid (show (((layL (Spc.zero.lays 0 n 1) (laysOf ys (ofS ys).segs sl)).K : Nat) : Int) = (n : Int) + P by
          rw [layL_K, Int.natCast_add, ← OSr.out, pg_sum MY.out ys sl, ← NA.out]
          show ((0 + n : Nat) : Int) + P = n + P
          omega)
        obtain ⟨T, hT⟩ : ∃ T, T = (n : Int) + P := ⟨_, rfl⟩
        have hws2 : IntKind.u64.wrap ((n : Int) + P) = T := hws.trans hT.symm
        have hwi2 : IntKind.i64.wrap T = T := by rw [hT]; exact hwi
        rw [← hT] at PS
        have c9T : decide (8192 < T) = false := by rw [hT]; simpa using c9
        clear c8 her hfit hws hwi hT
        go_wp2_with fail
        refine LA.out.mono ?_
        rintro e wx ⟨rfl, hd, hl, hch⟩
        have SX := Lib.hid (hd HER.out)
        rw [HER.out]
        have GX := Lib.hid (grown_chg GR.out hch (fun k hk => Nat.le_trans G3.out.size hk.1))
        clear hch hd hl
        have hq : ((sl : Int) % 4096 != 0) = false := by simpa using hc8
        have hqt : (T == T) = true := by simp
        clear c9 hPb cn1 cn2 dl hlt hk c4' pl' hcp l16 hwn hwm d1 d2 d3 d5 d6 d7
        go_upto_region 16 with fail
        go_upto_if 86 with (fail)
        go_upto_region 18 with fail
        go_upto_if 95 with (fail)
        go_upto_region 20 with fail
        go_wp2_with fail
        refine (pages_any SX.out).mono ?_
        rw [PS.out]
        rintro e wy ⟨rfl, rfl⟩
        go_wp2_with fail
        refine (K.out _).mono ?_
        rintro e wy ⟨rfl, hg⟩
        have B := Lib.hid (below_grown (grown_trans GX.out hg) (Nat.le_refl _) (by simp))
        clear hg
        go_wp2
        go_ret
        exact ⟨rfl, B.out⟩
end Go.Proofs.YtdagnkdonlfobaaGreat.layMany

/- 'LayMany': for every input the call returns true, and what was handed in reads as it did. The form's own reach is the one condition. -/
namespace Go.Proofs.YtdagnkdonlfobaaGreat.layMany
open Go.ChangeShapes Go.WideShapes Go.ChangeAt Go.RowKit
open Go.ChangeMaps (open_string shut_string)

theorem own : ownKnob Tryz.prog.godebug = none := by kernel_rfl
theorem laidOut : laidOutB Tryz.prog = true := by kernel_rfl

set_option maxRecDepth 100000 in
theorem lifted (os : Os) (started : os.Started) (H : Type) (enc : TypeId × Value → H) :
    ReturnsInHanded {} Tryz.checked os 4 .any (Rows.layManySpec.pre6 enc Tryz.prog Tryz.f4 Rows.layManyRow.domain false) (Rows.layManySpec.post enc Tryz.prog Tryz.f4 false true false false) := by
  refine returnsInHanded_of_change (C := Tryz.checked) own started (by kernel_rfl) Tryz.func4
    (ChangeSpec.witness6 (enc := enc) (C := Tryz.checked) false ⟨#[], #[.int .u64 0, .slice none 0 0, .int .u64 0], []⟩ 8 (by kernel_rfl) (by kernel_rfl) (by kernel_rfl) (by kernel_rfl)) ?_
  intro W base args ds gs before hval0 hW hcnd _
  have hval : ∀ (j : Nat) t v, Tryz.f4.params[j]? = some t → args[j]? = some v → Value.okWide Tryz.prog W .any base t v := hval0
  have hW' := hW
  obtain ⟨p, q, hA0, hV, rfl, hfz, hnd⟩ := hW
  have hA : DataW.TrodAll enc Tryz.prog W 0 (fun _ => true) true Tryz.f4.params.toList args.toList ds p := hA0
  rw [Tryz.params4] at hA hval
  obtain ⟨v0, vs0, d0, ds0, p0, q0, hargs, rfl, rfl, h0, r0⟩ := trodAll_cons hA
  obtain ⟨v1, vs1, d1, ds1, p1, q1, rfl, rfl, rfl, h1, r1⟩ := trodAll_cons r0
  obtain ⟨v2, vs2, d2, ds2, p2, q2, rfl, rfl, rfl, h2, r2⟩ := trodAll_cons r1
  obtain ⟨rfl, rfl, rfl⟩ := trodAll_nil r2
  obtain rfl : args = #[v0, v1, v2] := by cases args; simp_all
  obtain ⟨rfl, rfl⟩ := trodVars_none hV
  obtain ⟨a0, rfl, rfl, rfl, w0⟩ := open_int Tryz.underlying33 (hval 0 33 v0 rfl rfl) h0
  obtain ⟨a1, len1, cap1, rfl⟩ := okWide_slice Tryz.underlying31 (hval 1 31 v1 rfl rfl)
  have k1 := h1
  have lt1 : ∀ x ∈ p1, x.block < W.heap.size := by obtain ⟨m, hm⟩ := k1; exact DataW.trod_lt m _ _ _ hm
  obtain ⟨z1, w1⟩ : ∃ zs, IsRow .u8 W a1 len1 cap1 zs := by
    obtain ⟨fuel, hf⟩ := h1
    rcases open_ints Tryz.underlying31 Tryz.underlying5 (by kernel_rfl) hf with ⟨hcs, _⟩ | ⟨x, l, c, zs, hcs, _, hl, hm, hz, _, hcell, hwz⟩
    · simp [Value.cells] at hcs
      obtain ⟨rfl, rfl, rfl⟩ := hcs
      exact ⟨[], .inl ⟨rfl, rfl, rfl, rfl⟩⟩
    · simp [Value.cells] at hcs
      obtain ⟨rfl, rfl, rfl⟩ := hcs
      exact ⟨zs, .inr ⟨_, rfl, hl, hm, by simpa using hz, hcell, hwz⟩⟩
  obtain ⟨a2, rfl, rfl, rfl, w2⟩ := open_int Tryz.underlying33 (hval 2 33 v2 rfl rfl) h2
  clear hA0 hval0
  refine (walk a0 a1 len1 cap1 z1 a2 W w0 w1 w2).mono fun e W' ⟨he, bel⟩ => ?_
  subst he
  exact ⟨_, rfl, _, _, _, [], _, [], hW', trodAll_mk1 (shut_bool Tryz.underlying4 _), (trodAll_cons_mk (shut_int Tryz.underlying33 w0) (trodAll_cons_mk (Below.trod laidOut (by kernel_rfl) (of_decide_eq_true (by kernel_rfl)) k1 bel lt1) (trodAll_cons_mk (shut_int Tryz.underlying33 w2) trodAll_mk0))), rfl, bel.frame _, fun h => by cases h⟩

theorem proved : Rows.LayManySaid :=
  OpenClaim.holds_of_wide 4 Tryz.f4 rfl rfl rfl rfl rfl rfl rfl ⟨rfl, rfl, rfl, rfl, rfl⟩ rfl rfl rfl rfl rfl (by kernel_rfl) Tryz.func4 (by kernel_rfl)
    (of_decide_eq_true (by kernel_rfl)) (by unfold Func.isWrapper; first | (rw [if_pos (by decide +kernel)]; kernel_rfl) | (rw [if_neg (by decide +kernel)]; exact ⟨rfl, rfl⟩))
    (fun os started H enc _ => lifted os started H enc)
end Go.Proofs.YtdagnkdonlfobaaGreat.layMany
