/- 'RebaseMany': for every input the call returns true, and what was handed in reads as it did. The form's own reach is the one condition. -/
import Derived.Shelf.Small.Bits
import Derived.Shelf.Small.Strs
import Derived.Shelf.Strconv.Itoa0
import Derived.Shelf.Strings.Search1
import Derived.Shelf.Bytes.SlIndexAt
import Derived.Shelf.Bytes.SlSearch0
import Derived.Ground.SlbCloneProg
import Derived.Shelf.Bytes.SlClone
import Derived.Shelf.Bytes.IndexByte
import Derived.Test.YtbnnlbdjjpmgeaaGreatProg
import Derived.Test.YtbnnlbdjjpmgeaaGreatRows
import Derived.WalkKit
import Derived.WalkSpells
import Derived.WalkLawsBesides
import Derived.BigQuiet
import Derived.Deep.QuietTactic
import Derived.Lib.Hide
import Derived.IntWalk
import Derived.OneCell
import Derived.Laws.Rows
import Derived.Laws.BytesArg
import Derived.Shelf.Bytes.SlEqualAll
import Derived.Lib.SlFresh
import Derived.Maps.AppendAt
import Derived.OpenShut
import Derived.ProofKit
import Derived.Deep.AppendSrc
import Derived.Deep.Upon
import Derived.Lib.AppendZeros
import Derived.Laws.IdiomStrings
import Derived.Lib.AppendZerosOnto
import Derived.Laws.StructEq
import Derived.Below
import Derived.Shelf.Abstract
import Derived.Laws.ResultCell
import Derived.Deep.Slices
import Derived.ChangeSame
import Derived.Laws.OwnMore
import Derived.Stop.Asserts
import Derived.Laws.Externs
import Derived.Laws.Bits128
import Derived.Lib.SmallJoins
import Derived.Deep.Cut
import Derived.Deep.CutRange
import Derived.WalkArith
import Derived.Maps.Own
import Derived.Maps.OwnOps
import Derived.Maps.OwnSet
import Derived.Maps.Views
import Derived.RangeFuncRecord
import Derived.RangeFuncSeq
import Derived.RangeFuncCalls
import Derived.RangeFuncBound
import Derived.OwnWalkIn
import Derived.TacticsInMore
import Derived.Shelf.RegionOpen
import Derived.Deep.RegionHeld3
import Derived.BigRegion
import Derived.Deep.RegionLaw
import Derived.StillTailTactics
import Derived.RangeFuncNested
import Derived.RangeFuncIn
import Derived.RangeFuncLeaves
import Derived.RegionTactic
import Derived.Laws.Slices
import Derived.Lib.ConvBytes
import Derived.StringKeys
import Derived.WideShapes
import Derived.Lib.QuietBelow
import Derived.Laws.Tables
import Derived.BigFrame
import Derived.Lib.EndianBits
import Derived.ChangeAlike
import Derived.WalkMore
import Derived.Deep.LoopGhost
import Derived.PlainAid
import Derived.Lib.SlBytesRow
import Derived.Deep.Onto
import Derived.Laws.EntriesVeiled
import Derived.Shelf.SlSortCmp.WholeK
import Derived.Shelf.SlGeneric
import Derived.Ground.SlsfProg
import Derived.Sort.Walk0
import Derived.Laws.CopyOwn
import Derived.Lib.SliceRun
import Derived.Deep.MidRow
import Derived.OwnWalk
import Derived.ShutString
import Derived.ChangeOld
import Derived.Test.YtbnnlbdjjpmgeaaGreatPR1
import Derived.Test.YtbnnlbdjjpmgeaaGreatPR3
import Derived.Test.YtbnnlbdjjpmgeaaGreatPR4
import Derived.Test.YtbnnlbdjjpmgeaaGreatPR5
namespace Go.Proofs.YtbnnlbdjjpmgeaaGreat
open Go.RowKit Go.Sort
variable {w w' W V w0 : World} {h : Hx} {s : St} {dv : Value} {l : List Sg} {qs : Option Addr} {cs : Nat} {bb : Nat} {X : List Int}

theorem say_at (k : SayAt w0 bb w X) (what i : Int) (hw : 16 * (what / 16) = what ∧ 0 ≤ what ∧ what < 256) (hi : 0 ≤ i ∧ i < 16) (hlen : X.length ≤ 1000000000) (ns : List Int) (n : Nat) (hn : ns.length = n) (hb : ∀ x ∈ ns, 0 ≤ x ∧ x < 18446744073709551616) (hfew : n ≤ 1000) (q : Option Addr) (c : Nat) (hr : NumAt w q ns) :
    Calls Tryz.prog 89 #[.int .u8 what, .int .i64 i, .slice q n c, .pointer (some ⟨bb, 0, none⟩)] w fun e w' => e = .returned (.tuple #[]) ∧ SayAt w0 bb w' (X ++ (what + i) :: numsB ns) ∧ w.heap.size ≤ w'.heap.size := by
  have := say_any k (t := what / 16) (i := i) ⟨by omega, by omega⟩ hi hlen ns n hn hb hfew q c hr
  rw [hw.1] at this
  exact this
theorem num_nil : NumAt w none [] := ⟨fun i x h => by simp at h, fun g e => by cases e⟩
theorem num_new (w : World) (x : Int) : NumAt (w.alloc (.cells #[.int .u64 x] 26)) (some ⟨w.heap.size, 0, none⟩) [x] := by
  refine ⟨fun i y hy => ⟨_, rfl, ?_⟩, fun g e => ?_⟩
  · cases i with
    | zero =>
      injection hy with hy
      subst hy
      rw [cell_of (heap_alloc_new w _)]
      rfl
    | succ i => simp at hy
  · injection e with e
    injection e with e _ _
    subst e
    exact ⟨_, _, heap_alloc_new w _⟩
theorem nums_one (x : Int) : numsB [x] = encU x.toNat := by simp [numsB]
theorem at_seg {E : List Seg} (hs : l.map Sg.seg = E) {a : Int} {j : Nat} (hj : atI E a = (j : Int)) : ∃ x, l[j]? = some x ∧ ((E[(atI E a).toNat]?).getD ⟨[], 0, 0, 0, 0, 0, []⟩).addr = x.seg.addr := by
  have h1 : atO E a = some j := by
    unfold atI at hj
    cases h : atO E a with
    | none => rw [h] at hj; simp only [] at hj; omega
    | some k =>
      rw [h] at hj
      simp only [] at hj
      have : k = j := by omega
      rw [this]
  obtain ⟨y, hy, -⟩ := at_find h1
  have hy2 := hy
  rw [← hs, List.getElem?_map] at hy2
  cases hx : l[j]? with
  | none => rw [hx] at hy2; cases hy2
  | some x =>
    rw [hx] at hy2
    injection hy2 with hy2
    refine ⟨x, rfl, ?_⟩
    rw [hj, Int.toNat_natCast, hy, ← hy2]
    rfl
theorem putb_step (E : List Seg) (k : Nat) (a : Int) (L : List Int) (sg p : Int) : putB E (k + 1) (a :: L) sg p = (if atI E a ≠ sg then (32 + atI E a) :: encU (a - ((E[(atI E a).toNat]?).getD ⟨[], 0, 0, 0, 0, 0, []⟩).addr).toNat else 48 :: encU (a - p).toNat) ++
    (cntB (runA E (a :: L)) ++ putB E k ((a :: L).drop (runA E (a :: L))) (atI E a) (((a :: L).getD (runA E (a :: L) - 1) 0) + 8)) := rfl
theorem cnt_len (n : Nat) (hn : n < 18446744073709551616) : (cntB n).length ≤ 11 := by
  unfold cntB
  split
  · simp
  · have := encU_10 n hn
    rw [List.length_cons]
    omega
structure PutI (W : World) (E : List Seg) (M : List Int) (n bb : Nat) (wl : World) (v1 v7 v8 : Value) : Prop where
  ex : ∃ (L : List Int) (q : Option Addr) (m c : Nat) (sg p : Int) (X : List Int) (K : Nat), v1 = .slice q m c ∧ L.length = m ∧ m ≤ n ∧ m ≤ c ∧ v7 = .int .i64 sg ∧ v8 = .int .u64 p ∧ AdAt W q L ∧ (∀ a ∈ L, RbGood E a) ∧ L.Pairwise (fun a b => a + 8 ≤ b) ∧
    (sg = -1 ∨ ∀ a ∈ L, p ≤ a) ∧ 0 ≤ p ∧ SayAt W bb wl X ∧ X.length + 30 * m ≤ 30 * n + 1 ∧ m ≤ K ∧ X ++ putB E K L sg p = M
def slLen : Value → Nat
  | .slice _ n _ => n
  | _ => 0
set_option maxRecDepth 20000 in
set_option maxHeartbeats 6400000 in
theorem putR_any (k : ImgRows w s l qs cs) (hf : SegsFit s) {A : List Int} {n c : Nat} {q : Option Addr} (hA : A.length = n) (hn : n ≤ 20000) (hc : n ≤ c) (hq : AdAt w q A) (hg : ∀ a ∈ A, RbGood s.segs a) (hp : A.Pairwise (fun a b => a + 8 ≤ b)) :
    Calls Tryz.prog 44 #[imgV h s (.slice qs l.length cs) dv, .slice q n c] w fun e w' => BOut w w' (makeB s.segs A) e := by
  have g0 := grown1 w (.cells (imgArr h s (.slice qs l.length cs) dv) 49)
  have a0 : ImgAt (w.alloc (.cells (imgArr h s (.slice qs l.length cs) dv) 49)) w.heap.size h s (.slice qs l.length cs) dv := heap_alloc_new w _
  obtain ⟨W, hW⟩ : ∃ W, w.alloc (.cells (imgArr h s (.slice qs l.length cs) dv) 49) = W := ⟨_, rfl⟩
  obtain ⟨b, hb⟩ : ∃ b, w.heap.size = b := ⟨_, rfl⟩
  rw [hW] at g0 a0
  rw [hb] at a0
  have G := Lib.hid g0
  have K := Lib.hid (k.grown g0)
  have HQ := Lib.hid (hq.same g0)
  have HG := Lib.hid hg
  have HP := Lib.hid hp
  have HA := Lib.hid hA
  have HN := Lib.hid (And.intro hn hc)
  have HFW := Lib.hid k.few
  have HB := Lib.hid hb
  obtain ⟨E, hE⟩ : ∃ E, E = s.segs := ⟨_, rfl⟩
  have SGE := Lib.hid (show l.map Sg.seg = E by rw [hE]; exact k.segs)
  have AT := Lib.hid (fun (V : World) (hV : W.grownBy V none) (a : Int) (ha : U64 a) => (by rw [hE]; exact At_any (w := V) (h := h) (dv := dv) (K.out.grown hV) hf a ha : Calls Tryz.prog 90 #[imgV h s (.slice qs l.length cs) dv, .int .u64 a] V fun e w' => e = .returned (.int .i64 (atI E a)) ∧ V.grownBy w' none))
  have RN := Lib.hid (fun (V : World) (hV : W.grownBy V none) (L : List Int) (m c' : Nat) (q' : Option Addr) (hL : L.length = m) (h0 : 0 < m) (hm : m ≤ 1000000) (hq : AdAt V q' L) (hok : ∀ a ∈ L, U64 a) (up : ∀ (i : Nat) (a b : Int), L[i]? = some a → L[i + 1]? = some b → a + 8 ≤ b) => (by rw [hE]; exact run_any (w := V) (c := c') (h := h) (dv := dv) (K.out.grown hV) hf hL h0 hm hq hok up : Calls Tryz.prog 91 #[imgV h s (.slice qs l.length cs) dv, .slice q' m c'] V fun e w' => e = .returned (.int .i64 (runA E L)) ∧ V.grownBy w' none))
  have LDI := Lib.hid (fun (V : World) (hV : W.grownBy V none) => run_loadI (a0.kept hV (by simp)))
  have C4 := Lib.hid (fun (V : World) (hV : W.grownBy V none) => (a0.kept hV (by simp)).c 4 (.slice qs l.length cs) rfl)
  have LB := Lib.hid (lt_of_block a0)
  rw [← hE] at HG ⊢
  have RW := Lib.hid (fun (V : World) (hV : W.grownBy V none) => K.out.row.grown hV)
  obtain ⟨N, hN⟩ : ∃ N, N = l.length := ⟨_, rfl⟩
  have HNL := Lib.hid hN
  rw [← hN] at AT RN LDI C4 hW ⊢
  clear k g0 a0 hf hq hg hp hE hN hn hc
  unfold imgV imgArr at *
  have hmf : ∀ (fn : Fn) (first cap : Array Value) (w : World), (Instr.makeFunc fn first cap).run Tryz.prog w = .ok (.func fn first cap) w := fun _ _ _ _ => rfl
  go_enter Tryz.func44, Tryz.ntmps44
  go_upto_region 1 with fail
  clear hW hb
  have b1 : BbAt (W.alloc (.cells #[.slice none 0 0] 29)) W.heap.size (.slice none 0 0) := heap_alloc_new W _
  have gb := grown1 W (.cells #[.slice none 0 0] 29)
  have S0 := Lib.hid (show SayAt W W.heap.size (W.alloc (.cells #[.slice none 0 0] 29)) [] from ⟨⟨none, 0, b1, World.ownsRow_nil _ _ _ _⟩, gb, Nat.le_refl _⟩)
  obtain ⟨w1, hw1⟩ : ∃ x, W.alloc (.cells #[.slice none 0 0] 29) = x := ⟨_, rfl⟩
  obtain ⟨bb, hbb⟩ : ∃ x, W.heap.size = x := ⟨_, rfl⟩
  rw [hw1, hbb] at S0
  have HBB := Lib.hid hbb
  clear b1 gb
  go_upto_region 3 with fail
  clear hw1 hbb
  go_wp2_with fail
  refine (say_at S0.out 16 1 (by decide) (by decide) (by simp) [] 0 rfl (fun x hx => by cases hx) (by decide) none 0 num_nil).mono ?_
  rintro e w2 ⟨rfl, hs2, -⟩
  have S2 := Lib.hid (show SayAt W bb w2 [17] from hs2)
  have I0 := Lib.hid (show PutI W E (makeB E A) n bb w2 (.slice q n c) (.int .i64 (-1)) (.int .u64 0) from
    ⟨⟨A, q, n, c, -1, 0, [17], n, rfl, HA.out, Nat.le_refl _, HN.out.2, rfl, rfl, HQ.out, HG.out, HP.out, .inl rfl, Int.le_refl _, hs2, by simp; omega, Nat.le_refl _, by rw [← HA.out]; rfl⟩⟩)
  clear hs2 S0
  go_wp2
  go_loopw [1, 7, 8] (fun v1 v7 v8 wl => PutI W E (makeB E A) n bb wl v1 v7 v8) (fun v1 _ _ _ => slLen v1)
  case atStart => exact I0.out
  case round =>
    obtain ⟨⟨L, q, m, c, sg, p, X, KK, rfl, hL, hmn, hmc, rfl, rfl, hq, hg, hpw, hps, hp0, hs, hX, hK, hM⟩⟩ := hrel
    have GW := Lib.hid hs.grown
    by_cases h0 : 0 < m
    · obtain ⟨a, L', rfl⟩ : ∃ a L', L = a :: L' := by
        cases L with
        | nil => simp at hL; omega
        | cons a L' => exact ⟨a, L', rfl⟩
      obtain ⟨kk, rfl⟩ : ∃ kk, KK = kk + 1 := ⟨KK - 1, by omega⟩
      have ga := hg a (List.mem_cons_self ..)
      obtain ⟨j, hj⟩ : ∃ j : Nat, atI E a = (j : Int) := ⟨(atI E a).toNat, by have := ga.at_.1; omega⟩
      obtain ⟨x, hx, hxa⟩ := at_seg SGE.out hj
      obtain ⟨ad, had⟩ : ∃ z, z = x.seg.addr := ⟨_, rfl⟩
      have ok : ∀ y ∈ a :: L', U64 y := fun y hy => ⟨(hg y hy).pos, by have := (hg y hy).top; have := (hg y hy).pos; omega⟩
      have up : ∀ (i : Nat) (y z : Int), (a :: L')[i]? = some y → (a :: L')[i + 1]? = some z → y + 8 ≤ z := fun i y z h1 h2 => by
        obtain ⟨i1, e1⟩ := List.getElem?_eq_some_iff.1 h1
        obtain ⟨i2, e2⟩ := List.getElem?_eq_some_iff.1 h2
        have := List.pairwise_iff_getElem.1 hpw i (i + 1) i1 i2 (by omega)
        rw [e1, e2] at this
        exact this
      have RT := runA_take (E := E) a L'
      obtain ⟨r, hr⟩ : ∃ r, r = runA E (a :: L') := ⟨_, rfl⟩
      have ua := ok a (List.mem_cons_self ..)
      have hoff := ga.off
      have hoffm := ga.offm
      rw [hxa, ← had] at hoff hoffm
      have h15 := ga.at_.2
      rw [hj] at h15
      have hjN : (j : Int) < (N : Int) := by
        have := (List.getElem?_eq_some_iff.1 hx).1
        have := HNL.out
        omega
      have dpos : decide ((0 : Int) < (m : Int)) = true := by simp; omega
      have dpos2 : decide (0 < m) = true := by simp; omega
      have h0i : (0 : Int) < (m : Int) := by omega
      obtain ⟨g, o, rfl, c0⟩ := (hq.same hs.grown) 0 a rfl
      rw [Nat.zero_mul, Nat.add_zero] at c0
      obtain ⟨gs, hqs, -, d1, -⟩ := RW.out wr hs.grown j x hx
      obtain ⟨HD, hHD⟩ : ∃ z, z = (if atI E a ≠ sg then (32 + (j : Int)) :: encU (a - ad).toNat else 48 :: encU (a - p).toNat) := ⟨_, rfl⟩
      have hMM : X ++ (HD ++ (cntB r ++ putB E kk ((a :: L').drop r) (atI E a) ((a :: L').getD (r - 1) 0 + 8))) = makeB E A := by
        rw [← hM, putb_step, hxa, ← had, hHD, hr, hj]
      have w1 : IntKind.u64.wrap (a - ad) = a - ad := by
        show (a - ad) % 18446744073709551616 = a - ad
        omega
      have HR := Lib.hid hr
      have HJ := Lib.hid hj
      have RTH := Lib.hid RT
      have UP := Lib.hid up
      have OK := Lib.hid ok
      have GOOD := Lib.hid hg
      have PW := Lib.hid hpw
      have PS := Lib.hid hps
      have Q0 := Lib.hid hq
      have S1 := Lib.hid hs
      have XL := Lib.hid hX
      have MM := Lib.hid hMM
      have MN := Lib.hid (And.intro hmn (And.intro hmc (And.intro hK hL)))
      have OFF := Lib.hid (And.intro hoff (And.intro hoffm (And.intro h15 ua)))
      have P0 := Lib.hid hp0
      have HH := Lib.hid hHD
      have A1 := Lib.hid (AT.out wr hs.grown a ua)
      rw [hj] at A1
      have ld := LDI.out wr hs.grown
      have JN := Lib.hid hjN
      have HX := Lib.hid (And.intro hx had)
      have H0 := Lib.hid h0
      clear hr hj RT up ok hg hpw hps hq hs hX hMM hM hmn hmc hK hL hoff hoffm h15 ua hp0 hHD ga hxa h0 hx hqs d1 had
      obtain ⟨tb, htb⟩ : ∃ z, ((j : Int) != sg) = z := ⟨_, rfl⟩
      have HTB := Lib.hid htb
      go_upto_region 7 with fail
      go_wp2_with (first | refine wpList_load_run rfl _ rfl rfl ld ?_ | fail)
      refine A1.out.mono ?_
      rintro e w3 ⟨rfl, hg3⟩
      have G3 := Lib.hid (grown_trans GW.out hg3)
      have S3 := Lib.hid (S1.out.kept hg3)
      clear hg3 A1 ld c0
      go_upto_if 27 with fail
      clear htb
      go_cut [7] from 28 to 46 (fun v7 wx => v7 = .int .i64 (j : Int) ∧ SayAt W bb wx (X ++ HD))
      case first =>
        cases tb
        · have hne : (j : Int) = sg := by simpa using HTB.out
          have HNE := Lib.hid hne
          have hpa : p ≤ a := by
            rcases PS.out with h | h
            · omega
            · exact h a (List.mem_cons_self ..)
          have w2 : IntKind.u64.wrap (a - p) = a - p := by
            show (a - p) % 18446744073709551616 = a - p
            have := OFF.out.2.2.2.2
            have := P0.out
            omega
          have gn := grown1 w3 (.cells #[.int .u64 (a - p)] 26)
          have FIN := Lib.hid (fun (w4 : World) (h4 : SayAt W bb w4 (X ++ (48 + 0) :: numsB [a - p])) => (show SayAt W bb w4 (X ++ HD) by
            rw [HH.out, if_neg (fun h => h (HJ.out.trans hne)), ← nums_one]
            exact h4))
          have SY := Lib.hid (say_at (S3.out.kept gn) 48 0 (by decide) (by decide) (by have := XL.out; have := HN.out; have := MN.out; omega) [a - p] 1 rfl (fun y hy => by
            rw [List.mem_singleton] at hy
            have := OFF.out.2.2.2.2
            have := P0.out
            omega) (by decide) _ 1 (num_new w3 (a - p)))
          clear hne gn
          go_wp2_with fail
          refine SY.out.mono ?_
          rintro e w4 ⟨rfl, h4, -⟩
          have F4 := Lib.hid (FIN.out w4 h4)
          clear h4 SY FIN
          go_wp2_with fail
          go_meet
          exact ⟨by rw [HNE.out], F4.out⟩
        · have hne : ¬ (j : Int) = sg := by simpa using HTB.out
          obtain ⟨gs, rfl, -, d1, -⟩ := RW.out w3 G3.out j x HX.out.1
          rw [← HX.out.2] at d1
          have c4 := C4.out w3 G3.out
          have gl := Nat.lt_of_lt_of_le LB.out G3.out.size
          have hjN := JN.out
          have gn := grown1 w3 (.cells #[.int .u64 (a - ad)] 26)
          have FIN := Lib.hid (fun (w4 : World) (h4 : SayAt W bb w4 (X ++ (32 + (j : Int)) :: numsB [a - ad])) => (show SayAt W bb w4 (X ++ HD) by
            rw [HH.out, if_pos (fun h => hne (HJ.out.symm.trans h)), ← nums_one]
            exact h4))
          have SY := Lib.hid (say_at (S3.out.kept gn) 32 (j : Int) (by decide) (by have := OFF.out.2.2.1; omega) (by have := XL.out; have := HN.out; have := MN.out; omega) [a - ad] 1 rfl (fun y hy => by
            rw [List.mem_singleton] at hy
            have := OFF.out
            omega) (by decide) _ 1 (num_new w3 (a - ad)))
          clear hne gn
          go_wp2_with fail
          refine SY.out.mono ?_
          rintro e w4 ⟨rfl, h4, -⟩
          have F4 := Lib.hid (FIN.out w4 h4)
          clear h4 SY FIN
          go_wp2_with fail
          go_meet
          exact ⟨rfl, F4.out⟩
      case rest =>
        obtain ⟨rfl, h4⟩ := hcut
        have S4 := Lib.hid h4
        have RNC := Lib.hid (RN.out wc h4.grown (a :: L') m c (some ⟨g, o, none⟩) MN.out.2.2.2 H0.out (by have := HN.out; have := MN.out; omega) (Q0.out.same h4.grown) OK.out UP.out)
        rw [← HR.out] at RNC
        have ld := LDI.out wc h4.grown
        clear h4 S3 G3
        have R15 := Lib.hid (show ∃ rb, decide ((r : Int) ≤ 15) = rb from ⟨_, rfl⟩)
        obtain ⟨rb, hrb⟩ := R15.out
        have HRB := Lib.hid hrb
        clear R15
        have HDL := Lib.hid (show HD.length ≤ 11 by
          rw [HH.out]
          have := OFF.out
          have := P0.out
          have := OFF.out.2.2.2.2
          split
          · have h1 := encU_10 (a - ad).toNat (by omega)
            rw [List.length_cons]
            omega
          · have h1 := encU_10 (a - p).toNat (by omega)
            rw [List.length_cons]
            omega)
        have XH := Lib.hid (show (X ++ HD).length ≤ 1000000000 by
          rw [List.length_append]
          have := XL.out
          have := HDL.out
          have := HN.out
          have := MN.out
          omega)
        have RL := Lib.hid (show 0 < r ∧ r ≤ m from ⟨by rw [HR.out]; exact RTH.out.2.1, by rw [HR.out, ← MN.out.2.2.2]; exact RTH.out.2.2⟩)
        go_upto_region 12 with fail
        go_wp2_with (first | refine wpList_load_run rfl _ rfl rfl ld ?_ | fail)
        refine RNC.out.mono ?_
        rintro e w5 ⟨rfl, hg5⟩
        have S5 := Lib.hid (S4.out.kept hg5)
        clear hg5 RNC ld S4
        go_upto_if 51 with fail
        clear hrb
        go_cut [] from 52 to 59 (fun wx => SayAt W bb wx ((X ++ HD) ++ cntB r))
        case first =>
          cases rb
          · have wr8 : IntKind.u64.wrap (r : Int) = (r : Int) := by
              show (r : Int) % 18446744073709551616 = r
              have := RL.out
              have := HN.out
              have := MN.out
              omega
            have gn := grown1 w5 (.cells #[.int .u64 (r : Int)] 26)
            have FIN := Lib.hid (fun (w6 : World) (h6 : SayAt W bb w6 ((X ++ HD) ++ (96 + 0) :: numsB [(r : Int)])) => (show SayAt W bb w6 ((X ++ HD) ++ cntB r) by
              have hb := HRB.out
              rw [decide_eq_false_iff_not] at hb
              rw [cntB, if_neg (by omega), show encU r = encU ((r : Int)).toNat by rw [Int.toNat_natCast], ← nums_one]
              exact h6))
            have SY := Lib.hid (say_at (S5.out.kept gn) 96 0 (by decide) (by decide) XH.out [(r : Int)] 1 rfl (fun y hy => by
              rw [List.mem_singleton] at hy
              have := RL.out
              have := HN.out
              have := MN.out
              omega) (by decide) _ 1 (num_new w5 (r : Int)))
            clear gn
            go_wp2_with fail
            refine SY.out.mono ?_
            rintro e w6 ⟨rfl, h6, -⟩
            have F6 := Lib.hid (FIN.out w6 h6)
            clear h6 SY FIN
            go_wp2_with fail
            go_meet
            exact F6.out
          · have FIN := Lib.hid (fun (w6 : World) (h6 : SayAt W bb w6 ((X ++ HD) ++ (80 + (r : Int)) :: numsB [])) => (show SayAt W bb w6 ((X ++ HD) ++ cntB r) by
              have hb := HRB.out
              rw [decide_eq_true_eq] at hb
              rw [cntB, if_pos (by omega)]
              exact h6))
            have SY := Lib.hid (say_at S5.out 80 (r : Int) (by decide) (by have hb := HRB.out; rw [decide_eq_true_eq] at hb; omega) XH.out [] 0 rfl (fun y hy => by cases hy) (by decide) none 0 num_nil)
            go_wp2_with fail
            refine SY.out.mono ?_
            rintro e w6 ⟨rfl, h6, -⟩
            have F6 := Lib.hid (FIN.out w6 h6)
            clear h6 SY FIN
            go_wp2_with fail
            go_meet
            exact F6.out
        case rest =>
          have S6 := Lib.hid hcut
          obtain ⟨r1, hr1⟩ : ∃ r1, r = r1 + 1 := ⟨r - 1, by have := RL.out; omega⟩
          have hlen := MN.out.2.2.2
          obtain ⟨y, hy⟩ : ∃ y, (a :: L')[r1]? = some y := ⟨_, List.getElem?_eq_getElem (by have := RL.out; omega)⟩
          obtain ⟨g', o', e', cy⟩ := (Q0.out.same hcut.grown) r1 y hy
          injection e' with e'
          injection e' with e1 e2 _
          subst e1 e2
          have gy := GOOD.out y (List.mem_of_getElem? hy)
          have wy : IntKind.u64.wrap (y + 8) = y + 8 := by
            show (y + 8) % 18446744073709551616 = y + 8
            have := gy.top
            have := gy.pos
            omega
          have ws : IntKind.i64.wrap ((r : Int) - 1) = (r1 : Int) := by
            have := RL.out
            have := HN.out
            have := MN.out
            rw [IntWalk.i64_left, IntWalk.wrap64_in _ ⟨by omega, by omega⟩]
            omega
          have r1m : (r1 : Int) < (m : Int) := by have := RL.out; omega
          obtain ⟨V, hV, hVV⟩ := cut_lo (T := 41) (k := 7) (by kernel_rfl) (fun W => by kernel_rfl) g o m c r .i64 RL.out.2
          have NEW := Lib.hid (fun (wl : World) (hwl : SayAt W bb wl ((X ++ HD) ++ cntB r)) => (show PutI W E (makeB E A) n bb wl (.slice V (m - r) (c - r)) (.int .i64 (j : Int)) (.int .u64 (y + 8)) from by
            refine ⟨⟨(a :: L').drop r, V, m - r, c - r, (j : Int), y + 8, (X ++ HD) ++ cntB r, kk, rfl, by rw [List.length_drop, hlen], by have := MN.out; omega, by have := MN.out; omega, rfl, rfl, ?_, fun z hz => GOOD.out z (List.mem_of_mem_drop hz), PW.out.drop, .inr ?_, by have := gy.pos; omega, hwl, ?_, by have := MN.out; have := RL.out; omega, ?_⟩⟩
            · intro i z hz
              rw [List.getElem?_drop] at hz
              rcases hVV with ⟨_, hcr⟩ | rfl
              · have := (List.getElem?_eq_some_iff.1 hz).1
                have := MN.out
                have := RL.out
                omega
              · obtain ⟨g2, o2, e2, c2⟩ := Q0.out (r + i) z hz
                injection e2 with e2
                injection e2 with e3 e4 _
                subst e3 e4
                exact ⟨g, _, rfl, by rw [show o + r * 7 + i * 7 = o + (r + i) * 7 by omega]; exact c2⟩
            · intro z hz
              obtain ⟨i, hi, hz2⟩ := List.getElem_of_mem hz
              rw [List.getElem_drop] at hz2
              obtain ⟨h1, h2⟩ := List.getElem?_eq_some_iff.1 hy
              rw [List.length_drop] at hi
              have := List.pairwise_iff_getElem.1 PW.out r1 (r + i) h1 (by omega) (by omega)
              rw [h2, hz2] at this
              exact this
            · rw [List.length_append, List.length_append]
              have h1 : HD.length ≤ 11 := HDL.out
              have h2 : (cntB r).length ≤ 11 := cnt_len _ (by have := RL.out; have := HN.out; have := MN.out; omega)
              have := XL.out
              have := RL.out
              omega
            · have := MM.out
              rw [HJ.out, show (a :: L').getD (r - 1) 0 = y by rw [hr1, Nat.add_sub_cancel, List.getD_eq_getElem?_getD, hy]; rfl] at this
              rw [← this, List.append_assoc, List.append_assoc]))
          clear hcut gy hy hlen hVV hr1
          go_wp2
          go_roundw
          case rel => exact NEW.out _ S6.out
          case measure =>
            simp only [slLen]
            have := RL.out
            omega
    · have hm0 : m = 0 := by omega
      subst hm0
      have hL0 : L = [] := List.eq_nil_of_length_eq_zero hL
      subst hL0
      have hM0 : X ++ [0] = makeB E A := by
        rw [← hM]
        cases KK <;> rfl
      have SY := Lib.hid (say_at hs 0 0 (by decide) (by decide) (by have := HN.out; omega) [] 0 rfl (fun y hy => by cases hy) (by decide) none 0 num_nil)
      have FIN := Lib.hid (fun (w6 : World) (h6 : SayAt W bb w6 (X ++ (0 + 0) :: numsB [])) => (show SayAt W bb w6 (makeB E A) by
        rw [← hM0]
        exact h6))
      have dz : decide ((0 : Int) < ((0 : Nat) : Int)) = false := by decide
      clear hs hX hM hL hq hg hpw hps hp0 hM0 hK hmn hmc h0
      go_wp2_with fail
      refine SY.out.mono ?_
      rintro e w6 ⟨rfl, h6, -⟩
      have F6 := Lib.hid (FIN.out w6 h6)
      clear h6 SY FIN
      obtain ⟨q6, c6, k6, o6⟩ := F6.out.ex
      have y6 := cell_of (i := 0) k6
      have DONE := Lib.hid (show BOut w w6 (makeB E A) (.returned (.slice q6 (makeB E A).length c6)) from ⟨⟨q6, c6, rfl, own_low o6 (by have := G.out.size; have := F6.out.low; omega)⟩, grown_trans G.out F6.out.grown⟩)
      obtain ⟨ml, hml⟩ : ∃ z, z = (makeB E A).length := ⟨_, rfl⟩
      rw [← hml] at y6 DONE
      clear k6 o6 hml
      go_wp2
      go_ret
      exact DONE.out
end Go.Proofs.YtbnnlbdjjpmgeaaGreat


namespace Go.Proofs.YtbnnlbdjjpmgeaaGreat
open Go.RowKit Go.Sort
variable {w w' W V w0 : World} {h : Hx} {s : St} {dv : Value} {l : List Sg} {qs : Option Addr} {cs : Nat}

structure MkRO (w w' : World) (E : List Seg) (D : List Fx) (e : Ending) : Prop where
  ex : ∃ (q : Option Addr) (m c : Nat) (er : Int), e = .returned (.tuple #[.slice q m c, .int .i64 er]) ∧ (er = 0 ↔ NoRef E (setF D)) ∧ (er ≠ 0 → q = none ∧ m = 0 ∧ c = 0) ∧
    (er = 0 → m = (makeB E ((setF D).map Fx.at_)).length ∧ w'.ownsRow w.heap.size 5 1 (.slice q m c) m ((makeB E ((setF D).map Fx.at_)).map (Value.int .u8)))
  grown : w.grownBy w' none
theorem ref_pair {S D : List Fx} (hs : IsSet S D) (hm : ¬ MeetL D)  : (S.map Fx.at_).Pairwise (fun a b => a + 8 ≤ b) := by
  rw [List.pairwise_map]
  have up := List.pairwise_iff_getElem.1 hs.up
  refine List.pairwise_iff_getElem.2 fun i j hi hj hij => ?_
  have hl := up i j hi hj hij
  have h1 := ltF_at hl
  apply Classical.byContradiction
  intro hc
  refine hm ⟨S[i], S[j], (hs.mem _).1 (List.getElem_mem hi), (hs.mem _).1 (List.getElem_mem hj), ⟨fun e => ?_, ?_⟩⟩
  · rw [e] at hl
    exact ltF_irr _ hl
  · split <;> omega
set_option maxRecDepth 20000 in
set_option maxHeartbeats 3200000 in
theorem Make13_any (k : ImgRows w s l qs cs) (hf : SegsFit s) {D : List Fx} {n c : Nat} {q : Option Addr} (hD : D.length = n) (hn : n ≤ 1000000) (hq : FxsAt w q D) (ok : ∀ x ∈ D, FxOk x) (ht : ∀ x ∈ D, wrN s.segs x.at_ 8 = true → x.at_ + 8 < 18446744073709551616) :
    Calls Tryz.prog 15 #[imgV h s (.slice qs l.length cs) dv, .slice q n c] w fun e w' => MkRO w w' s.segs D e := by
  have g0 := grown1 w (.cells (imgArr h s (.slice qs l.length cs) dv) 49)
  have a0 : ImgAt (w.alloc (.cells (imgArr h s (.slice qs l.length cs) dv) 49)) w.heap.size h s (.slice qs l.length cs) dv := heap_alloc_new w _
  obtain ⟨W, hW⟩ : ∃ W, w.alloc (.cells (imgArr h s (.slice qs l.length cs) dv) 49) = W := ⟨_, rfl⟩
  obtain ⟨b, hb⟩ : ∃ b, w.heap.size = b := ⟨_, rfl⟩
  rw [hW] at g0 a0
  rw [hb] at a0
  have G := Lib.hid g0
  have K := Lib.hid (k.grown g0)
  have SO := Lib.hid (Set_any (w := W) (c := c) hD (by omega) (hq.same g0))
  have LS := Lib.hid (show (setF D).length ≤ 1000000 by have := setF_len D; omega)
  have IS := Lib.hid (setF_is D)
  have OK := Lib.hid (fun x (hx : x ∈ setF D) => ok x (((setF_is D).mem x).1 hx))
  have OKD := Lib.hid ok
  have HT := Lib.hid (fun x (hx : x ∈ setF D) => ht x (((setF_is D).mem x).1 hx))
  have HB := Lib.hid hb
  obtain ⟨E, hE⟩ : ∃ E, E = s.segs := ⟨_, rfl⟩
  have HF := Lib.hid hf
  have RF := Lib.hid (fun (V : World) (hV : W.grownBy V none) (S : List Fx) (m c' : Nat) (q' : Option Addr) (hS : S.length = m) (hm : m ≤ 1000000) (hq : FxsAt V q' S) (okS : ∀ x ∈ S, FxOk x) => (by rw [hE]; exact refusal_any (w := V) (c := c') (h := h) (dv := dv) (K.out.grown hV) hf hS hm hq okS : Calls Tryz.prog 43 #[imgV h s (.slice qs l.length cs) dv, .slice q' m c'] V fun e w' => RfO V w' E S e))
  have PU := Lib.hid (fun (V : World) (hV : W.grownBy V none) (A : List Int) (m c' : Nat) (q' : Option Addr) (hA : A.length = m) (hm : m ≤ 20000) (hc : m ≤ c') (hq : AdAt V q' A) (hg : ∀ a ∈ A, RbGood E a) (hp : A.Pairwise (fun a b => a + 8 ≤ b)) => (by rw [hE]; exact putR_any (w := V) (c := c') (h := h) (dv := dv) (K.out.grown hV) hf hA hm hc hq (hE ▸ hg) hp : Calls Tryz.prog 44 #[imgV h s (.slice qs l.length cs) dv, .slice q' m c'] V fun e w' => BOut V w' (makeB E A) e))
  have LDI := Lib.hid (fun (V : World) (hV : W.grownBy V none) => run_loadI (a0.kept hV (by simp)))
  have SF := Lib.hid (show ∀ x ∈ E, SegFit x from hE ▸ hf.seg)
  rw [← hE] at HT ⊢
  obtain ⟨N, hN⟩ : ∃ N, N = l.length := ⟨_, rfl⟩
  rw [← hN] at RF PU LDI hW ⊢
  clear k g0 a0 hf hq hE hN hn ok ht hD
  obtain ⟨S, hS⟩ : ∃ S, S = setF D := ⟨_, rfl⟩
  have HS := Lib.hid hS
  rw [← hS] at LS IS OK HT
  clear hS
  unfold imgV imgArr at *
  go_enter Tryz.func15, Tryz.ntmps15
  go_upto_region 1 with fail
  clear hW hb
  go_wp2_with fail
  refine SO.out.mono ?_
  rintro e w2 ⟨⟨q2, c2, rfl, ho2⟩, hg2⟩
  rw [← HS.out] at ho2 ⊢
  have F2 := Lib.hid (FxsAt.of ho2)
  have G2 := Lib.hid hg2
  obtain ⟨m, hm⟩ : ∃ m, m = S.length := ⟨_, rfl⟩
  have HM := Lib.hid hm
  have C2 := Lib.hid (own_capF ho2)
  rw [← hm] at C2 LS ⊢
  clear ho2 hg2 SO hm
  have R3 := Lib.hid (RF.out w2 G2.out S m c2 q2 HM.out.symm LS.out F2.out OK.out)
  have ld := LDI.out w2 G2.out
  go_upto_region 2 with fail
  go_wp2_with (first | refine wpList_load_run rfl _ rfl rfl ld ?_ | fail)
  refine R3.out.mono ?_
  rintro e w3 ⟨⟨er, rfl, her⟩, hg3⟩
  have G3 := Lib.hid (grown_trans G2.out hg3)
  have GL3 := Lib.hid hg3
  have HER := Lib.hid her
  clear hg3 her R3 ld RF
  by_cases h0 : er = 0
  · subst h0
    have NR := HER.out.1 rfl
    have PW := Lib.hid (ref_pair IS.out (fun hm => NR.meet (by
      obtain ⟨x, y, hx, hy, hn⟩ := hm
      exact ⟨x, y, (IS.out.mem x).2 hx, (IS.out.mem y).2 hy, hn⟩)))
    have P4 := Lib.hid (PU.out w3 G3.out (S.map Fx.at_) m c2 q2 (by rw [List.length_map]; exact HM.out.symm) (by have := NR.few; have := HM.out; omega) C2.out.1 (ad_of (F2.out.same GL3.out)) (fun a ha => by
      obtain ⟨x, hx, rfl⟩ := List.mem_map.1 ha
      exact rb_good SF.out (OK.out x hx).at_.1 (NR.wr x hx) (HT.out x hx (NR.wr x hx)) (NR.far x hx)) PW.out)
    have ld := LDI.out w3 G3.out
    clear NR PU LDI
    go_wp2_with (first | refine wpList_load_run rfl _ rfl rfl ld ?_ | fail)
    refine P4.out.mono ?_
    rintro e w4 ⟨⟨q4, c4, rfl, ho4⟩, hg4⟩
    have DONE := Lib.hid (show MkRO w w4 E D (.returned (.tuple #[.slice q4 (makeB E (S.map Fx.at_)).length c4, .int .i64 0])) from
      ⟨⟨q4, _, c4, 0, rfl, by rw [← HS.out]; simpa using HER.out, fun h => absurd rfl h, fun _ => by rw [← HS.out]; exact ⟨rfl, own_low ho4 (by have := G.out.size; have := G3.out.size; omega)⟩⟩, grown_trans G.out (grown_trans G3.out hg4)⟩)
    obtain ⟨z, hz⟩ : ∃ z, z = (makeB E (S.map Fx.at_)).length := ⟨_, rfl⟩
    rw [← hz] at DONE ⊢
    clear ho4 hg4 hz P4 ld
    go_wp2
    go_ret2
    exact DONE.out
  · have dz : (er != 0) = true := by simpa using h0
    have DONE := Lib.hid (show MkRO w w3 E D (.returned (.tuple #[.slice none 0 0, .int .i64 er])) from
      ⟨⟨none, 0, 0, er, rfl, by rw [← HS.out]; exact HER.out, fun _ => ⟨rfl, rfl, rfl⟩, fun h => absurd h h0⟩, grown_trans G.out G3.out⟩)
    clear h0 LDI PU
    go_wp2
    go_ret2
    exact DONE.out
end Go.Proofs.YtbnnlbdjjpmgeaaGreat


namespace Go.Proofs.YtbnnlbdjjpmgeaaGreat
open Go.RowKit
variable {w w' : World}

def tA : Seg := ⟨[97], 0, 4096, 0, 4096, 5, []⟩
def tB : Seg := ⟨[98], 4096, 4096, 4096, 16, 3, []⟩
def tS : St := { St.zero with segs := [tA, tB] }
def tL : List Sg := [⟨tA, none, 0⟩, ⟨tB, none, 0⟩]
def tH : Hx := ⟨2, 0, 0⟩
theorem tA_fit : SegFit tA := ⟨⟨by decide, by decide⟩, ⟨by decide, by decide⟩, ⟨by decide, by decide⟩, ⟨by decide, by decide⟩, by decide⟩
theorem tB_fit : SegFit tB := ⟨⟨by decide, by decide⟩, ⟨by decide, by decide⟩, ⟨by decide, by decide⟩, ⟨by decide, by decide⟩, by decide⟩
theorem t_fit : SegsFit tS := by
  refine ⟨fun x hx => ?_, fun x hx y hy => ?_⟩
  all_goals simp only [tS, List.mem_cons, List.not_mem_nil, or_false] at hx
  · rcases hx with rfl | rfl
    · exact tA_fit
    · exact tB_fit
  · rcases hx with rfl | rfl <;> cases hy
theorem t_rows {g : Nat} (k : w.heap[g]? = some (.cells #[.string ⟨#[97]⟩, .int .u64 0, .int .u64 4096, .int .u64 0, .int .u64 4096, .int .i64 5, .slice none 0 0, .string ⟨#[98]⟩, .int .u64 4096, .int .u64 4096, .int .u64 4096, .int .u64 16, .int .i64 3, .slice none 0 0] 64 (0, 0))) :
    ImgRows w tS tL (some ⟨g, 0, none⟩) 2 := by
  refine ⟨rfl, ?_, ?_, show (2 : Nat) ≤ 9223372036854775807 by decide, ?_, show (2 : Nat) ≤ 2 by decide⟩
  · intro i x hx
    refine ⟨g, rfl, ?_⟩
    unfold tL at hx
    match i, hx with
    | 0, hx => injection hx with hx; subst hx; refine ⟨?_, ?_, ?_, ?_, ?_, ?_, ?_⟩ <;> (rw [cell_of k]; rfl)
    | 1, hx => injection hx with hx; subst hx; refine ⟨?_, ?_, ?_, ?_, ?_, ?_, ?_⟩ <;> (rw [cell_of k]; rfl)
    | j + 2, hx => simp at hx
  · intro x hx i y hy
    simp only [tL, List.mem_cons, List.not_mem_nil, or_false] at hx
    rcases hx with rfl | rfl <;> simp [tA, tB] at hy
  · intro x hx
    simp only [tL, List.mem_cons, List.not_mem_nil, or_false] at hx
    rcases hx with rfl | rfl <;> exact Nat.zero_le _
structure TwO (w w' : World) (e : Ending) : Prop where
  ex : ∃ g, e = .returned (imgV tH tS (.slice (some ⟨g, 0, none⟩) 2 2) (.slice none 0 0)) ∧ ImgRows w' tS tL (some ⟨g, 0, none⟩) 2
  grown : w.grownBy w' none
set_option maxHeartbeats 2000000 in
set_option maxRecDepth 20000 in
theorem two_any (w : World) : Calls Tryz.prog 41 #[] w fun e w' => TwO w w' e := by
  have z0 := ImgAt.new w
  have g0 := grown1 w (.cells #[.int .i64 0, .int .i64 0, .int .u32 0, .string ⟨#[]⟩, .slice none 0 0, .slice none 0 0, .int .u64 0, .int .u64 0, .int .u64 0, .int .u64 0, .int .u64 0, .int .u64 0, .int .u64 0, .int .u64 0, .int .u64 0, .int .u64 0, .int .u64 0, .int .u64 0, .int .u64 0, .int .u64 0, .int .u64 0, .int .u64 0, .int .u64 0, .bool false] 49)
  obtain ⟨W, hW⟩ : ∃ W, w.alloc (.cells #[.int .i64 0, .int .i64 0, .int .u32 0, .string ⟨#[]⟩, .slice none 0 0, .slice none 0 0, .int .u64 0, .int .u64 0, .int .u64 0, .int .u64 0, .int .u64 0, .int .u64 0, .int .u64 0, .int .u64 0, .int .u64 0, .int .u64 0, .int .u64 0, .int .u64 0, .int .u64 0, .int .u64 0, .int .u64 0, .int .u64 0, .int .u64 0, .bool false] 49) = W := ⟨_, rfl⟩
  obtain ⟨b, hb⟩ : ∃ g, w.heap.size = g := ⟨_, rfl⟩
  rw [hW] at z0 g0
  rw [hb] at z0
  have gR := grown1 W (.cells #[.string ⟨#[97]⟩, .int .u64 0, .int .u64 4096, .int .u64 0, .int .u64 4096, .int .i64 5, .slice none 0 0, .string ⟨#[98]⟩, .int .u64 4096, .int .u64 4096, .int .u64 4096, .int .u64 16, .int .i64 3, .slice none 0 0] 64)
  have hR := heap_alloc_new W (.cells #[.string ⟨#[97]⟩, .int .u64 0, .int .u64 4096, .int .u64 0, .int .u64 4096, .int .i64 5, .slice none 0 0, .string ⟨#[98]⟩, .int .u64 4096, .int .u64 4096, .int .u64 4096, .int .u64 16, .int .i64 3, .slice none 0 0] 64)
  obtain ⟨V, hV⟩ : ∃ V, W.alloc (.cells #[.string ⟨#[97]⟩, .int .u64 0, .int .u64 4096, .int .u64 0, .int .u64 4096, .int .i64 5, .slice none 0 0, .string ⟨#[98]⟩, .int .u64 4096, .int .u64 4096, .int .u64 4096, .int .u64 16, .int .i64 3, .slice none 0 0] 64) = V := ⟨_, rfl⟩
  obtain ⟨g, hgg⟩ : ∃ g, W.heap.size = g := ⟨_, rfl⟩
  rw [hV] at gR hR
  rw [hgg] at hR
  have Z1 := Lib.hid (z0.kept gR (by simp))
  have hbg : b ≠ g := by
    have := lt_of_block z0
    omega
  have i2 : ImgAt (V.setRow b (imgArr tH tS (.slice (some ⟨g, 0, none⟩) 2 2) (.slice none 0 0))) b tH tS (.slice (some ⟨g, 0, none⟩) 2 2) (.slice none 0 0) := Z1.out.put
  have g2 : V.grownBy (V.setRow b (imgArr tH tS (.slice (some ⟨g, 0, none⟩) 2 2) (.slice none 0 0))) (some b) := grown_setRow (g := b) _ _
  have K2 := Lib.hid (t_rows (w := V.setRow b (imgArr tH tS (.slice (some ⟨g, 0, none⟩) 2 2) (.slice none 0 0))) ((g2.block g (lt_of_block hR) (fun e => hbg (by injection e with e; exact e.symm))).trans hR))
  have G2 := Lib.hid (grown_new (grown_trans g0 gR) g2 (by rw [hb]; exact Nat.le_refl _))
  obtain ⟨w2, hw2⟩ : ∃ w2, V.setRow b (imgArr tH tS (.slice (some ⟨g, 0, none⟩) 2 2) (.slice none 0 0)) = w2 := ⟨_, rfl⟩
  rw [hw2] at i2 K2 G2
  have I2 := Lib.hid i2
  have HW2 := Lib.hid hw2
  clear z0 g0 gR hR i2 g2 hbg hw2
  go_enter Tryz.func41, Tryz.ntmps41
  go_wp2_with (refine wpList_store_img (h := tH) (s := tS) (sv := .slice (some ⟨g, 0, none⟩) 2 2) (dv := .slice none 0 0) rfl _ _ rfl rfl rfl Z1.out ⟨_, _, _, rfl⟩ ⟨_, _, _, rfl⟩ ?_)
  rw [HW2.out]
  refine bodyPost_ret (results_cell_row rfl _ _ b _ _ _ _ rfl I2.out Tryz.underlying49 rfl (by kernel_rfl)) rfl ?_
  exact ⟨⟨g, rfl, K2.out⟩, G2.out⟩
end Go.Proofs.YtbnnlbdjjpmgeaaGreat


namespace Go.Proofs.YtbnnlbdjjpmgeaaGreat
open Go.RowKit
variable {w w' : World}

def tX : List Int := List.replicate 4096 0 ++ [7, 0, 0, 0, 0, 0, 0, 0, 9, 0, 0, 0, 0, 0, 0, 0]
def tD : List Fx := [rbFx (4096, 7), rbFx (4104, 9)]
theorem tX_len : tX.length = 4112 := by
  unfold tX
  rw [List.length_append, List.length_replicate]
  rfl
theorem tX_small : Small tX := by
  intro x hx
  unfold tX at hx
  rcases List.mem_append.1 hx with h | h
  · rw [(List.mem_replicate.1 h).2]
    decide
  · exact (by decide +kernel : ∀ y ∈ ([7, 0, 0, 0, 0, 0, 0, 0, 9, 0, 0, 0, 0, 0, 0, 0] : List Int), 0 ≤ y ∧ y < 256) x h
theorem tX_file : fileB tX tB = [7, 0, 0, 0, 0, 0, 0, 0, 9, 0, 0, 0, 0, 0, 0, 0] := by
  unfold fileB
  rw [partN_in (by rw [tX_len]; decide), show tB.off.toNat = 4096 from rfl, show tB.fsize.toNat = 16 from rfl]
  unfold tX
  rw [List.drop_left' List.length_replicate]
  rfl
theorem t_good : ∀ a ∈ [(4096 : Int), 4104], RbGood tS.segs a := by
  intro a ha
  simp only [List.mem_cons, List.not_mem_nil, or_false] at ha
  rcases ha with rfl | rfl
  · exact rb_good t_fit.seg (by decide) (by decide) (by decide) (by decide)
  · exact rb_good t_fit.seg (by decide) (by decide) (by decide) (by decide)
theorem t_make : makeB tS.segs [4096, 4104] = [17, 33, 0, 82, 0] := by decide +kernel
theorem t_wd (a v : Int) (h : (a = 4096 ∧ v = 7) ∨ (a = 4104 ∧ v = 9)) : wdA tS.segs tX a = v := by
  rcases h with ⟨rfl, rfl⟩ | ⟨rfl, rfl⟩
  · have h1 : withinO tS.segs 4096 8 = some tB := by rfl
    unfold wdA
    rw [h1]
    simp only []
    unfold wdN eightB
    rw [tX_file]
    rfl
  · have h1 : withinO tS.segs 4104 8 = some tB := by rfl
    unfold wdA
    rw [h1]
    simp only []
    unfold wdN eightB
    rw [tX_file]
    rfl
theorem t_dec : decN tS.segs tX [17, 33, 0, 82, 0] = (0, [(4096, 7), (4104, 9)]) := by
  rw [← t_make, dec_make t_good (by simp) (by decide)]
  simp only [List.map_cons, List.map_nil]
  rw [t_wd 4096 7 (.inl ⟨rfl, rfl⟩), t_wd 4104 9 (.inr ⟨rfl, rfl⟩)]
theorem t_dec2 (xs : List Int) : decN tS.segs xs [81] = (14, []) := rfl
theorem t_set : setF tD = tD := by
  refine up_one (setF_is tD).up ?_ (setF_is tD).mem
  refine List.pairwise_cons.2 ⟨fun y hy => ?_, List.pairwise_cons.2 ⟨fun y hy => (by cases hy), List.Pairwise.nil⟩⟩
  rw [List.mem_singleton] at hy
  subst hy
  show ordN (rbFx (4096, 7)) (rbFx (4104, 9)) < 0
  rw [show ordN (rbFx (4096, 7)) (rbFx (4104, 9)) = -1 from rfl]
  decide
theorem t_ref : NoRef tS.segs tD := by
  refine ⟨?_, ?_, by decide, ?_, ?_⟩
  · intro x hx
    simp only [tD, List.mem_cons, List.not_mem_nil, or_false] at hx
    rcases hx with rfl | rfl
    · rfl
    · rfl
  · rintro ⟨a, b, ha, hb, hn⟩
    simp only [tD, List.mem_cons, List.not_mem_nil, or_false] at ha hb
    rcases ha with rfl | rfl <;> rcases hb with rfl | rfl
    · exact hn.1 rfl
    · have := hn.2; revert this; decide
    · have := hn.2; revert this; decide
    · exact hn.1 rfl
  · intro x hx
    simp only [tD, List.mem_cons, List.not_mem_nil, or_false] at hx
    rcases hx with rfl | rfl
    · show atI tS.segs 4096 ≤ 15
      decide
    · show atI tS.segs 4104 ≤ 15
      decide
  · intro x hx
    simp only [tD, List.mem_cons, List.not_mem_nil, or_false] at hx
    rcases hx with rfl | rfl
    · show wrN tS.segs 4096 8 = true
      decide
    · show wrN tS.segs 4104 8 = true
      decide
end Go.Proofs.YtbnnlbdjjpmgeaaGreat


namespace Go.Proofs.YtbnnlbdjjpmgeaaGreat
open Go.RowKit
variable {w w' : World}

theorem own_fz {T : TypeId} {k n c g lo : Nat} {xs : List Value} (h : w.ownsRow lo T k (.slice (some ⟨g, 0, none⟩) n c) n xs) (j : Nat) : w.frozen? ⟨g, j, none⟩ = false := by
  obtain ⟨_, hn | ⟨g', cap, cur, hv, _, hg, _⟩⟩ := h
  · cases hn.1
  · injection hv with h1 _ _
    injection h1 with h1
    injection h1 with h1 _ _
    subst h1
    exact free_of hg
theorem tX_0 (j : Nat) (hj : j < 4112) (h1 : j ≠ 4096) (h2 : j ≠ 4104) : tX.getD j 0 = 0 := by
  unfold tX
  rw [List.getD_eq_getElem?_getD]
  rcases Nat.lt_or_ge j 4096 with h | h
  · rw [List.getElem?_append_left (by rw [List.length_replicate]; exact h), List.getElem?_replicate, if_pos h]
    rfl
  · rw [List.getElem?_append_right (by rw [List.length_replicate]; exact h), List.length_replicate]
    obtain ⟨i, rfl⟩ : ∃ i, j = 4096 + i := ⟨j - 4096, by omega⟩
    rw [Nat.add_sub_cancel_left]
    have hi : i < 16 := by omega
    match i, hi with
    | 0, _ => exact absurd rfl h1
    | 1, _ => rfl
    | 2, _ => rfl
    | 3, _ => rfl
    | 4, _ => rfl
    | 5, _ => rfl
    | 6, _ => rfl
    | 7, _ => rfl
    | 8, _ => exact absurd rfl h2
    | 9, _ => rfl
    | 10, _ => rfl
    | 11, _ => rfl
    | 12, _ => rfl
    | 13, _ => rfl
    | 14, _ => rfl
    | 15, _ => rfl
    | k + 16, hk => exact absurd hk (by omega)
theorem tX_7 : tX.getD 4096 0 = 7 := by
  unfold tX
  rw [List.getD_eq_getElem?_getD, List.getElem?_append_right (by rw [List.length_replicate]; exact Nat.le_refl _), List.length_replicate]
  rfl
theorem tX_9 : tX.getD 4104 0 = 9 := by
  unfold tX
  rw [List.getD_eq_getElem?_getD, List.getElem?_append_right (by rw [List.length_replicate]; decide), List.length_replicate]
  rfl
theorem tX_at {g c : Nat} (hz : ∀ j, j < 4112 → w.cell? ⟨g, j, none⟩ = some (.int .u8 0)) :
    IsBytes ((w.setCell ⟨g, 4096, none⟩ (.int .u8 7)).setCell ⟨g, 4104, none⟩ (.int .u8 9)) (some ⟨g, 0, none⟩) c tX := by
  refine IsBytes.mk_at fun i hi => ?_
  rw [tX_len] at hi
  rw [Nat.zero_add]
  by_cases h2 : i = 4104
  · subst h2
    rw [tX_9]
    exact World.cell?_setCell_same _ _ _ (u := .int .u8 0) ((World.cell?_setCell_other _ ⟨g, 4096, none⟩ ⟨g, 4104, none⟩ _ (fun e => by cases e)).trans (hz 4104 (by decide)))
  · rw [World.cell?_setCell_other _ ⟨g, 4104, none⟩ ⟨g, i, none⟩ _ (fun e => by injection e with _ e _; exact h2 e.symm)]
    by_cases h1 : i = 4096
    · subst h1
      rw [tX_7]
      exact World.cell?_setCell_same _ _ _ (hz 4096 (by decide))
    · rw [World.cell?_setCell_other _ ⟨g, 4096, none⟩ ⟨g, i, none⟩ _ (fun e => by injection e with _ e _; exact h1 e.symm), tX_0 i hi h1 h2]
      exact hz i hi
theorem bytes_lit (w : World) (ys : List Int) (c : Nat) : IsBytes (w.alloc (.cells (ys.map (Value.int .u8)).toArray 5)) (some ⟨w.heap.size, 0, none⟩) c ys := by
  refine IsBytes.mk_at fun i hi => ?_
  rw [cell_of (heap_alloc_new w _), Nat.zero_add]
  simp [hi]
theorem t_ctx {g gx n0 : Nat} (im : ImgRows w tS tL (some ⟨g, 0, none⟩) 2) (hb : IsBytes w (some ⟨gx, 0, none⟩) n0 tX) (hn : n0 = 4112) : Ctx w tS tL (some ⟨g, 0, none⟩) 2 (some ⟨gx, 0, none⟩) n0 n0 tX :=
  ⟨im, t_fit, by decide, hb, tX_len.trans hn.symm, Nat.le_refl _, by rw [hn]; decide, tX_small, by rw [hn]; decide⟩
theorem t_dec_any {g gx n0 : Nat} (im : ImgRows w tS tL (some ⟨g, 0, none⟩) 2) (hb : IsBytes w (some ⟨gx, 0, none⟩) n0 tX) (hn : n0 = 4112) {gt : Nat} (ht : IsBytes w (some ⟨gt, 0, none⟩) 5 [17, 33, 0, 82, 0]) :
    Calls Tryz.prog 17 #[.slice (some ⟨gx, 0, none⟩) n0 n0, imgV tH tS (.slice (some ⟨g, 0, none⟩) 2 2) (.slice none 0 0), .slice (some ⟨gt, 0, none⟩) 5 5] w fun e w' =>
      ∃ q c, e = .returned (.tuple #[.slice q 2 c, .int .i64 0]) ∧ w'.ownsRow w.heap.size 60 7 (.slice q 2 c) 2 (tD.flatMap fxCs) ∧ w.grownBy w' none := by
  have h := Decode_any (h := tH) (qd := none) (nd := 0) (cd := 0) (t_ctx im hb hn) (ts := [17, 33, 0, 82, 0]) (nt := 5) ht rfl (by decide) (fun x hx => (by decide +kernel : ∀ y ∈ ([17, 33, 0, 82, 0] : List Int), 0 ≤ y ∧ y < 256) x hx)
  rw [t_dec] at h
  exact h.mono fun e w' ⟨⟨q, c, he, ho⟩, hg⟩ => ⟨q, c, he, ho, hg⟩
theorem t_dec2_any {g gx n0 : Nat} (im : ImgRows w tS tL (some ⟨g, 0, none⟩) 2) (hb : IsBytes w (some ⟨gx, 0, none⟩) n0 tX) (hn : n0 = 4112) {gt : Nat} (ht : IsBytes w (some ⟨gt, 0, none⟩) 1 [81]) :
    Calls Tryz.prog 17 #[.slice (some ⟨gx, 0, none⟩) n0 n0, imgV tH tS (.slice (some ⟨g, 0, none⟩) 2 2) (.slice none 0 0), .slice (some ⟨gt, 0, none⟩) 1 1] w fun e w' =>
      ∃ q c, e = .returned (.tuple #[.slice q 0 c, .int .i64 14]) ∧ w.grownBy w' none := by
  have h := Decode_any (h := tH) (qd := none) (nd := 0) (cd := 0) (t_ctx im hb hn) (ts := [81]) (nt := 1) ht rfl (by decide) (fun x hx => (by decide +kernel : ∀ y ∈ ([81] : List Int), 0 ≤ y ∧ y < 256) x hx)
  rw [t_dec2] at h
  exact h.mono fun e w' ⟨⟨q, c, he, _⟩, hg⟩ => ⟨q, c, he, hg⟩
theorem tD_ok : ∀ x ∈ tD, FxOk x := by
  intro x hx
  simp only [tD, List.mem_cons, List.not_mem_nil, or_false] at hx
  rcases hx with rfl | rfl
  · exact ⟨⟨by decide, by decide⟩, ⟨by decide, by decide⟩, ⟨by decide, by decide⟩, ⟨by decide, by decide⟩, ⟨by decide, by decide⟩, by decide⟩
  · exact ⟨⟨by decide, by decide⟩, ⟨by decide, by decide⟩, ⟨by decide, by decide⟩, ⟨by decide, by decide⟩, ⟨by decide, by decide⟩, by decide⟩
theorem t_make_any {g : Nat} (im : ImgRows w tS tL (some ⟨g, 0, none⟩) 2) {q : Option Addr} {c : Nat} (hq : FxsAt w q tD) :
    Calls Tryz.prog 15 #[imgV tH tS (.slice (some ⟨g, 0, none⟩) 2 2) (.slice none 0 0), .slice q 2 c] w fun e w' =>
      ∃ q c, e = .returned (.tuple #[.slice q 5 c, .int .i64 0]) ∧ IsBytes w' q c [17, 33, 0, 82, 0] ∧ w.grownBy w' none := by
  have h := Make13_any (h := tH) (dv := .slice none 0 0) im t_fit (D := tD) (n := 2) (c := c) rfl (by decide) hq tD_ok (fun x hx _ => by
    simp only [tD, List.mem_cons, List.not_mem_nil, or_false] at hx
    rcases hx with rfl | rfl <;> decide)
  refine h.mono fun e w' ⟨⟨q, m, c, er, he, h1, _, h3⟩, hg⟩ => ?_
  have h0 : er = 0 := h1.2 (by rw [t_set]; exact t_ref)
  subst h0
  obtain ⟨hm, ho⟩ := h3 rfl
  rw [t_set, show tD.map Fx.at_ = [4096, 4104] from rfl, t_make] at hm ho
  have hm : m = 5 := hm
  subst hm
  exact ⟨q, c, he, IsBytes.of_own rfl ho, hg⟩
set_option maxHeartbeats 6400000 in
set_option maxRecDepth 20000 in
theorem known13_any (w : World) : Calls Tryz.prog 14 #[] w fun e w' => e = .returned (.bool true) ∧ w.grownBy w' none := by
  obtain ⟨iu, hiu, hz0, hz1, hz2⟩ := info_parts info_u8
  have IU := Lib.hid (And.intro hiu (And.intro hz0 (And.intro hz1 hz2)))
  obtain ⟨n0, hn0⟩ : ∃ n : Nat, n = 4112 := ⟨_, rfl⟩
  have HN0 := Lib.hid hn0
  have Z0 := Lib.hid (show (madeCells (Value.int IntKind.u8 0).cells (n0 * 1)).toList = (List.replicate n0 (0 : Int)).map (Value.int .u8) from by
    rw [Nat.mul_one, show (Value.int IntKind.u8 0).cells = #[Value.int IntKind.u8 0] from rfl, toList_madeCells_one, List.map_replicate])
  clear hn0 hiu hz0 hz1 hz2
  go_enter Tryz.func14, Tryz.ntmps14
  go_upto_region 2 with (at_make; refine wpList_make_full _ rfl _ _ 29 rfl w.heap.size 5 iu (.int .u8 0) 1 Tryz.underlying29 IU.out.1 IU.out.2.1 IU.out.2.2.1 .i64 .i64 _ _ n0 rfl rfl (by rw [HN0.out]; rfl) (by rw [HN0.out]; rfl) (by rw [IU.out.2.2.2, HN0.out]; omega) (by unfold maxLen; rw [HN0.out]; omega) (Nat.le_refl _) ?_; (intro w1 hown hg1; have G1 := Lib.hid hg1; have R1 := Lib.hid hown; clear hown hg1))
  rw [Z0.out] at R1
  have hz : ∀ j, j < 4112 → w1.cell? ⟨w.heap.size, j, none⟩ = some (.int .u8 0) := fun j hj => by
    rcases (IsBytes.of_own (by rw [List.length_replicate]) R1.out).ways with ⟨h, -⟩ | ⟨x, hx, hc⟩
    · cases h
    · injection hx with hx
      subst hx
      have := hc j (by rw [List.length_replicate, HN0.out]; exact hj)
      rw [add_flat, Nat.zero_add, List.getD_eq_getElem?_getD, List.getElem?_replicate] at this
      rw [this]
      split <;> rfl
  have BX := Lib.hid (tX_at (c := n0) hz)
  have z1 := hz 4096 (by decide)
  have z2 := hz 4104 (by decide)
  have fz := own_fz R1.out
  have f1 := fz 4096
  have f2 := fz 4104
  have ln := (R1.out.lt w.heap.size rfl).2
  have i1 : (4096 : Int) < (n0 : Int) := by rw [HN0.out]; decide
  have i2 : (4104 : Int) < (n0 : Int) := by rw [HN0.out]; decide
  have G2 := Lib.hid (grown_new G1.out (grown_setCell (i := 4104) (grown_setCell (i := 4096) (grown_refl w1 (some w.heap.size)) (.int .u8 7)) (.int .u8 9)) (Nat.le_refl _))
  clear hz fz
  obtain ⟨gx, hgx⟩ : ∃ g, w.heap.size = g := ⟨_, rfl⟩
  rw [hgx] at BX z1 z2 f1 f2 ln G2 ⊢
  have HGX := Lib.hid hgx
  clear hgx R1
  go_wp2_with fail
  obtain ⟨w2, hw2⟩ : ∃ x, (w1.setCell ⟨gx, 4096, none⟩ (.int .u8 7)).setCell ⟨gx, 4104, none⟩ (.int .u8 9) = x := ⟨_, rfl⟩
  rw [hw2] at BX G2 ⊢
  clear hw2 z1 z2 f1 f2 ln i1 i2
  refine (two_any w2).mono ?_
  rintro e w3 ⟨⟨g3, rfl, hi3⟩, hg3⟩
  have g4 := grown1 w3 (.cells (([17, 33, 0, 82, 0] : List Int).map (Value.int .u8)).toArray 5)
  have D4 := Lib.hid (t_dec_any (hi3.grown g4) ((BX.out.kept hg3 (by simp)).kept g4 (by simp)) HN0.out (bytes_lit w3 [17, 33, 0, 82, 0] 5))
  have G3 := Lib.hid (grown_trans (grown_trans G2.out hg3) g4)
  have GX := Lib.hid (grown_trans hg3 g4)
  have HW := Lib.hid (show w3.alloc (.cells (([17, 33, 0, 82, 0] : List Int).map (Value.int .u8)).toArray 5) = w3.alloc (.cells #[.int .u8 17, .int .u8 33, .int .u8 0, .int .u8 82, .int .u8 0] 5) from rfl)
  rw [HW.out] at D4 G3 GX
  clear hg3 hi3 g4 HW
  go_wp2_with fail
  refine D4.out.mono ?_
  rintro e w5 ⟨q5, c5, rfl, ho5, hg5⟩
  have F5 := Lib.hid (FxsAt.of ho5)
  have B5 := Lib.hid (BX.out.kept (grown_trans GX.out hg5) (by simp))
  have G5 := Lib.hid (grown_trans G3.out hg5)
  clear ho5 hg5 D4 GX G3 BX
  go_wp2_with fail
  refine (two_any w5).mono ?_
  rintro e w6 ⟨⟨g6, rfl, hi6⟩, hg6⟩
  have g7 := grown1 w6 (.cells (([81] : List Int).map (Value.int .u8)).toArray 5)
  have D7 := Lib.hid (t_dec2_any (hi6.grown g7) ((B5.out.kept hg6 (by simp)).kept g7 (by simp)) HN0.out (bytes_lit w6 [81] 1))
  have G7 := Lib.hid (grown_trans hg6 g7)
  have HW := Lib.hid (show w6.alloc (.cells (([81] : List Int).map (Value.int .u8)).toArray 5) = w6.alloc (.cells #[.int .u8 81] 5) from rfl)
  rw [HW.out] at D7 G7
  clear hg6 hi6 g7 HW B5
  go_wp2_with fail
  refine D7.out.mono ?_
  rintro e w8 ⟨q8, c8, rfl, hg8⟩
  have F8 := Lib.hid (F5.out.same (grown_trans G7.out hg8))
  have G8 := Lib.hid (grown_trans G5.out (grown_trans G7.out hg8))
  clear hg8 D7 G7 F5 G5
  go_wp2_with fail
  refine (two_any w8).mono ?_
  rintro e w9 ⟨⟨g9, rfl, hi9⟩, hg9⟩
  have M9 := Lib.hid (t_make_any hi9 (c := c5) (F8.out.same hg9))
  have G9 := Lib.hid (grown_trans G8.out hg9)
  have F9 := Lib.hid (F8.out.same hg9)
  clear hi9 hg9 F8 G8
  go_wp2_with fail
  refine M9.out.mono ?_
  rintro e w10 ⟨q10, c10, rfl, hb10, hg10⟩
  have G10 := Lib.hid (grown_trans G9.out hg10)
  obtain ⟨ga, oa, rfl, a0, -, a2, -⟩ := (F9.out.same hg10).at (i := 0) rfl
  obtain ⟨gb, ob, eb, b0, -, b2, -⟩ := (F9.out.same hg10).at (i := 1) rfl
  injection eb with eb
  injection eb with e1 e2 _
  subst e1 e2
  rw [Nat.zero_mul, Nat.add_zero] at a0 a2
  rw [Nat.one_mul] at b0 b2
  have b3 := b2
  rw [Nat.add_assoc] at b3
  have cv := hb10.text (n := 5) rfl
  rw [show strOfNums [17, 33, 0, 82, 0] = (⟨#[17, 33, 0, 82, 0]⟩ : ByteArray) from rfl] at cv
  clear hb10 hg10 F9 M9 G9
  go_wp2
  go_ret
  exact ⟨rfl, G10.out⟩
end Go.Proofs.YtbnnlbdjjpmgeaaGreat


namespace Go.Proofs.YtbnnlbdjjpmgeaaGreat
open Go.RowKit
variable {E : List Seg} {xs : List Int}

def n3 (a : Int) : List Int := [a % 128 + 128, a / 128 % 128 + 128, a / 16384]
theorem reads_3 {a : Int} (h0 : 0 ≤ a) (h : a ≤ 1048576) : Reads ulP (n3 a) a := fun r => by
  have hs : szN 10 (n3 a ++ r) = 3 := by
    show szN 10 ((a % 128 + 128) :: (a / 128 % 128 + 128) :: (a / 16384) :: r) = 3
    have e1 : ¬ (a % 128 + 128 < 128) := by omega
    have e2 : ¬ (a / 128 % 128 + 128 < 128) := by omega
    have e3 : a / 16384 < 128 := by omega
    simp only [szN, if_neg e1, if_neg e2, if_pos e3]
    rfl
  have hv : valN (n3 a) = a := by
    simp only [n3, valN]
    omega
  have hu : ulebN (n3 a ++ r) = (a, 3) := by
    unfold ulebN
    rw [hs, show (n3 a ++ r).take 3 = n3 a from rfl, hv, if_pos (by omega)]
  unfold ulP
  rw [hu]
  rfl
theorem nums_3 {o a : Int} (h : behN o = 1) (h0 : 0 ≤ a) (h1 : a ≤ 1048576) : Reads (numsP o) (n3 a) (a, (0 : Int)) := by
  unfold numsP; rw [if_neg (by omega), if_pos h]; exact Reads.then0 (reads_3 h0 h1) (Reads.ret _)
theorem dec_err {k : Nat} {o imm er : Int} {e r : List Int} {v : Int × Int} {s : RbS} (ho : 0 < o) (hi : 0 ≤ imm ∧ imm < 16) (hr : Reads (numsP o) e v) (hm : mayS o s = true) (hd : (doS E xs ⟨o, imm, v.1, v.2⟩ s).1 = er) (he : er ≠ 0) :
    decS E xs (k + 1) ((16 * o + imm) :: (e ++ r)) s = (er, []) := by
  have e1 : (16 * o + imm) / 16 = o := by omega
  have e2 : (16 * o + imm) % 16 = imm := by omega
  rw [decS, e1, e2, if_neg (by omega), hr r]
  simp only []
  rw [if_pos hm, hd, if_pos he]
def mA : Seg := ⟨[97], 0, 262144, 0, 0, 3, []⟩
theorem m_wr {x : Int} (h0 : 0 ≤ x) (h : x + 8 ≤ 262144) : wrN [mA] x 8 = true := by
  have h1 : hasN mA x 1 = true := by
    have e1 : decide (mA.addr ≤ x) = true := decide_eq_true (show (0 : Int) ≤ x from h0)
    have e2 : decide (x - mA.addr + 1 ≤ mA.size) = true := decide_eq_true (show x - 0 + 1 ≤ (262144 : Int) by omega)
    have e3 : decide (x + 1 ≤ 18446744073709551616) = true := decide_eq_true (by omega)
    unfold hasN withinN
    rw [e1, e2, e3]
    rfl
  have h2 : hasN mA x 8 = true := by
    have e1 : decide (mA.addr ≤ x) = true := decide_eq_true (show (0 : Int) ≤ x from h0)
    have e2 : decide (x - mA.addr + 8 ≤ mA.size) = true := decide_eq_true (show x - 0 + 8 ≤ (262144 : Int) by omega)
    have e3 : decide (x + 8 ≤ 18446744073709551616) = true := decide_eq_true (by omega)
    unfold hasN withinN
    rw [e1, e2, e3]
    rfl
  have h3 : inS x mA = true := by
    unfold inS
    rw [h1]
    rfl
  unfold wrN withinO
  rw [List.find?_cons_of_pos h3]
  simp only []
  rw [if_pos h2]
  rfl
theorem runL_in : ∀ (n : Nat) (a x : Int), x ∈ runL a n → a ≤ x ∧ x + 8 ≤ a + 8 * n
  | 0, _, _, h => by cases h
  | n + 1, a, x, h => by
    rcases List.mem_cons.1 h with rfl | h
    · omega
    · have := runL_in n (a + 8) x h
      omega
theorem num_0 : Reads (numsP 2) [0] ((0 : Int), (0 : Int)) := by
  have h := nums_1 (o := 2) (n := 0) rfl (by decide)
  have e : encU 0 = [0] := by
    unfold encU
    rfl
  rw [e] at h
  exact h
theorem many_dec (a b : Nat) (ha : a ≤ 1048576) (hb : b ≤ 1048576) :
    (20000 < a + b → decN [mA] xs ([17, 32, 0, 96] ++ (n3 a ++ (96 :: n3 b))) = (11, [])) ∧ (a + b ≤ 20000 → ∃ L, decN [mA] xs ([17, 32, 0, 96] ++ (n3 a ++ (96 :: n3 b))) = (0, L) ∧ L.length = a + b) := by
  have s1 : ∀ r, decS [mA] xs 12 (17 :: r) RbS.zero = decS [mA] xs 11 r ⟨0, false, 1, []⟩ := fun r => dec_op (o := 1) (imm := 1) (e := []) (v := (0, 0)) (by decide) (by decide) (nums_0 (o := 1) rfl) rfl rfl
  have s2 : ∀ r, decS [mA] xs 11 (32 :: 0 :: r) ⟨0, false, 1, []⟩ = decS [mA] xs 10 r ⟨0, true, 1, []⟩ := fun r => dec_op (o := 2) (imm := 0) (e := [0]) (v := (0, 0)) (by decide) (by decide) num_0 rfl rfl
  have e0 : decN [mA] xs ([17, 32, 0, 96] ++ (n3 a ++ (96 :: n3 b))) = decS [mA] xs 10 (96 :: (n3 a ++ (96 :: n3 b))) ⟨0, true, 1, []⟩ := by
    show decS [mA] xs 12 (17 :: 32 :: 0 :: 96 :: (n3 a ++ (96 :: n3 b))) RbS.zero = _
    rw [s1, s2]
  rw [e0]
  have hmay : ∀ (p : Int) (o : List (Int × Int)), mayS 6 ⟨p, true, 1, o⟩ = true := fun _ _ => rfl
  by_cases h1 : a ≤ 20000
  · have m1 : doS [mA] xs ⟨6, 0, (a : Int), 0⟩ ⟨0, true, 1, []⟩ = (0, ⟨0 + 8 * a, true, 1, [] ++ (runL 0 a).map fun x => (x, wdA [mA] xs x)⟩) := many_run (by simpa using h1) rfl (fun x hx => by
      have := runL_in a 0 x hx
      exact ⟨m_wr (by omega) (by omega), by omega⟩)
    have s3 : decS [mA] xs 10 (96 :: (n3 a ++ (96 :: n3 b))) ⟨0, true, 1, []⟩ = _ := dec_op (o := 6) (imm := 0) (e := n3 a) (v := ((a : Int), 0)) (by decide) (by decide) (nums_3 (o := 6) (show behN 6 = 1 from rfl) (by omega) (by omega)) (hmay _ _) m1
    rw [s3]
    have hl : ([] ++ (runL 0 a).map fun x => (x, wdA [mA] xs x)).length = a := by rw [List.nil_append, List.length_map, runL_len]
    refine ⟨fun h => ?_, fun h => ?_⟩
    · have m2 : (doS [mA] xs ⟨6, 0, (b : Int), 0⟩ ⟨0 + 8 * a, true, 1, [] ++ (runL 0 a).map fun x => (x, wdA [mA] xs x)⟩).1 = 11 := by
        show (manyS [mA] xs (b : Int) 0 _).1 = 11
        unfold manyS
        rw [if_pos (by simp only [hl]; omega)]
      have := dec_err (k := 8) (o := 6) (imm := 0) (e := n3 b) (r := []) (v := ((b : Int), 0)) (by decide) (by decide) (nums_3 (o := 6) (show behN 6 = 1 from rfl) (by omega) (by omega)) (hmay _ _) m2 (by decide)
      rw [List.append_nil] at this
      exact this
    · have m2 : doS [mA] xs ⟨6, 0, (b : Int), 0⟩ ⟨0 + 8 * a, true, 1, [] ++ (runL 0 a).map fun x => (x, wdA [mA] xs x)⟩ = _ := many_run (a := 0 + 8 * a) (n := b) (by simp only [hl]; omega) rfl (fun x hx => by
        have := runL_in b (0 + 8 * a) x hx
        exact ⟨m_wr (by omega) (by omega), by omega⟩)
      have := dec_op (k := 8) (o := 6) (imm := 0) (e := n3 b) (r := []) (v := ((b : Int), 0)) (by decide) (by decide) (nums_3 (o := 6) (show behN 6 = 1 from rfl) (by omega) (by omega)) (hmay _ _) m2
      rw [List.append_nil] at this
      refine ⟨_, this, ?_⟩
      show (_ ++ _ : List (Int × Int)).length = a + b
      rw [List.length_append, hl, List.length_map, runL_len]
  · refine ⟨fun _ => ?_, fun h => absurd h (by omega)⟩
    have m1 : (doS [mA] xs ⟨6, 0, (a : Int), 0⟩ ⟨0, true, 1, []⟩).1 = 11 := by
      show (manyS [mA] xs (a : Int) 0 _).1 = 11
      unfold manyS
      rw [if_pos (by simp only [List.length_nil]; omega)]
    exact dec_err (k := 9) (o := 6) (imm := 0) (e := n3 a) (v := ((a : Int), 0)) (by decide) (by decide) (nums_3 (o := 6) (show behN 6 = 1 from rfl) (by omega) (by omega)) (hmay _ _) m1 (by decide)
end Go.Proofs.YtbnnlbdjjpmgeaaGreat


namespace Go.Proofs.YtbnnlbdjjpmgeaaGreat.rebaseMany
open Go.RowKit
variable {w w' W V : World}

theorem nat_u64 {a : Int} (h : (Lit.int .u64 a).wf = true) : ∃ n : Nat, a = n ∧ n < 18446744073709551616 := by
  have : 0 ≤ a ∧ a ≤ 18446744073709551615 := by simpa [Lit.wf, IntKind.min, IntKind.max, IntKind.signed, IntKind.bits] using h
  exact ⟨a.toNat, by omega, by omega⟩
theorem own_of_new {w : World} {base : Nat} {T : TypeId} {l : List Value} (hb : base ≤ w.heap.size) (hl : l.length ≤ 1000) : (w.alloc (.cells l.toArray T (0, 0))).ownsRow base T 1 (.slice (some ⟨w.heap.size, 0, none⟩) l.length l.length) l.length l :=
  ⟨by rw [Nat.mul_one], .inr ⟨w.heap.size, l.length, l.toArray, rfl, hb, heap_alloc_new w _, Nat.le_refl _, by unfold maxLen; omega, by simp, by simp⟩⟩
def mS : St := { St.zero with segs := [mA] }
def mL : List Sg := [⟨mA, none, 0⟩]
theorem m_fit : SegsFit mS := by
  refine ⟨fun x hx => ?_, fun x hx y hy => ?_⟩
  all_goals simp only [mS, List.mem_singleton] at hx
  · subst hx
    exact ⟨⟨by decide, by decide⟩, ⟨by decide, by decide⟩, ⟨by decide, by decide⟩, ⟨by decide, by decide⟩, by decide⟩
  · subst hx
    cases hy
theorem m_rows {g : Nat} (k : w.heap[g]? = some (.cells #[.string ⟨#[97]⟩, .int .u64 0, .int .u64 262144, .int .u64 0, .int .u64 0, .int .i64 3, .slice none 0 0] 64 (0, 0))) :
    ImgRows w mS mL (some ⟨g, 0, none⟩) 1 := by
  refine ⟨rfl, ?_, ?_, show (1 : Nat) ≤ 9223372036854775807 by decide, ?_, show (1 : Nat) ≤ 1 by decide⟩
  · intro i x hx
    refine ⟨g, rfl, ?_⟩
    unfold mL at hx
    match i, hx with
    | 0, hx => injection hx with hx; subst hx; refine ⟨?_, ?_, ?_, ?_, ?_, ?_, ?_⟩ <;> (rw [cell_of k]; rfl)
    | j + 1, hx => simp at hx
  · intro x hx i y hy
    simp only [mL, List.mem_singleton] at hx
    subst hx
    simp [mA] at hy
  · intro x hx
    simp only [mL, List.mem_singleton] at hx
    subst hx
    exact Nat.zero_le _
theorem m_dec_any {g : Nat} (im : ImgRows w mS mL (some ⟨g, 0, none⟩) 1) (a b : Nat) (ha : a ≤ 1048576) (hb : b ≤ 1048576) {q : Option Addr} {c : Nat} (ht : IsBytes w q c ([17, 32, 0, 96] ++ (n3 a ++ (96 :: n3 b)))) :
    Calls Tryz.prog 17 #[.slice none 0 0, imgV tH mS (.slice (some ⟨g, 0, none⟩) 1 1) (.slice none 0 0), .slice q 11 c] w fun e w' =>
      ∃ q m c er, e = .returned (.tuple #[.slice q m c, .int .i64 er]) ∧ w.grownBy w' none ∧ (20000 < a + b → er = 11 ∧ m = 0) ∧ (a + b ≤ 20000 → er = 0 ∧ m = a + b) := by
  have h := Decode_any (h := tH) (qd := none) (nd := 0) (cd := 0) (xs := []) (n := 0) (c := 0) (q := none) (⟨im, m_fit, by decide, IsBytes.nil, rfl, Nat.le_refl _, by decide, (fun x hx => by cases hx), by decide⟩) (ts := [17, 32, 0, 96] ++ (n3 a ++ (96 :: n3 b))) (nt := 11) ht rfl (by decide) (fun x hx => by
    simp only [n3, List.cons_append, List.nil_append, List.mem_cons, List.not_mem_nil, or_false] at hx
    omega)
  obtain ⟨h1, h2⟩ := many_dec (xs := []) a b ha hb
  rcases Nat.lt_or_ge 20000 (a + b) with hc | hc
  · rw [show mS.segs = [mA] from rfl, h1 hc] at h
    exact h.mono fun e w' ⟨⟨q, c, he, _⟩, hg⟩ => ⟨q, 0, c, 11, he, hg, fun _ => ⟨rfl, rfl⟩, fun h => absurd h (by omega)⟩
  · obtain ⟨L, hL, hl⟩ := h2 hc
    rw [show mS.segs = [mA] from rfl, hL] at h
    exact h.mono fun e w' ⟨⟨q, c, he, _⟩, hg⟩ => ⟨q, L.length, c, 0, he, hg, fun h => absurd h (by omega), fun _ => ⟨rfl, hl⟩⟩
set_option maxHeartbeats 6400000 in
set_option maxRecDepth 20000 in
theorem walk (a0 a1 : Int) (w : World) (w0 : (Lit.int .u64 a0).wf = true) (w1 : (Lit.int .u64 a1).wf = true) :
    Calls Tryz.prog 5 #[.int .u64 a0, .int .u64 a1] w fun e w' => e = .returned (.bool true) ∧ Below w.heap.size w w' := by
  obtain ⟨a, rfl, ha⟩ := nat_u64 w0
  obtain ⟨b, rfl, hb⟩ := nat_u64 w1
  have gR := grown1 w (.cells #[.string ⟨#[97]⟩, .int .u64 0, .int .u64 262144, .int .u64 0, .int .u64 0, .int .i64 3, .slice none 0 0] 64)
  have hR := heap_alloc_new w (.cells #[.string ⟨#[97]⟩, .int .u64 0, .int .u64 262144, .int .u64 0, .int .u64 0, .int .i64 3, .slice none 0 0] 64)
  obtain ⟨W, hW⟩ : ∃ W, w.alloc (.cells #[.string ⟨#[97]⟩, .int .u64 0, .int .u64 262144, .int .u64 0, .int .u64 0, .int .i64 3, .slice none 0 0] 64) = W := ⟨_, rfl⟩
  obtain ⟨g, hgg⟩ : ∃ g, w.heap.size = g := ⟨_, rfl⟩
  rw [hW] at gR hR
  rw [hgg] at hR
  have KR := Lib.hid (m_rows hR)
  have z0 := ImgAt.new W
  have g0 := grown1 W (.cells #[.int .i64 0, .int .i64 0, .int .u32 0, .string ⟨#[]⟩, .slice none 0 0, .slice none 0 0, .int .u64 0, .int .u64 0, .int .u64 0, .int .u64 0, .int .u64 0, .int .u64 0, .int .u64 0, .int .u64 0, .int .u64 0, .int .u64 0, .int .u64 0, .int .u64 0, .int .u64 0, .int .u64 0, .int .u64 0, .int .u64 0, .int .u64 0, .bool false] 49)
  obtain ⟨V, hV⟩ : ∃ V, W.alloc (.cells #[.int .i64 0, .int .i64 0, .int .u32 0, .string ⟨#[]⟩, .slice none 0 0, .slice none 0 0, .int .u64 0, .int .u64 0, .int .u64 0, .int .u64 0, .int .u64 0, .int .u64 0, .int .u64 0, .int .u64 0, .int .u64 0, .int .u64 0, .int .u64 0, .int .u64 0, .int .u64 0, .int .u64 0, .int .u64 0, .int .u64 0, .int .u64 0, .bool false] 49) = V := ⟨_, rfl⟩
  obtain ⟨b0, hb0⟩ : ∃ g, W.heap.size = g := ⟨_, rfl⟩
  rw [hV] at z0 g0
  rw [hb0] at z0
  have Z1 := Lib.hid z0
  have i2 : ImgAt (V.setRow b0 (imgArr tH mS (.slice (some ⟨g, 0, none⟩) 1 1) (.slice none 0 0))) b0 tH mS (.slice (some ⟨g, 0, none⟩) 1 1) (.slice none 0 0) := Z1.out.put
  have g2 : V.grownBy (V.setRow b0 (imgArr tH mS (.slice (some ⟨g, 0, none⟩) 1 1) (.slice none 0 0))) (some b0) := grown_setRow (g := b0) _ _
  have G2 := Lib.hid (grown_new (grown_trans gR g0) g2 (by have := gR.size; omega))
  have WG := Lib.hid (grown_new g0 g2 (by rw [hb0]; exact Nat.le_refl _))
  obtain ⟨w2, hw2⟩ : ∃ w2, V.setRow b0 (imgArr tH mS (.slice (some ⟨g, 0, none⟩) 1 1) (.slice none 0 0)) = w2 := ⟨_, rfl⟩
  rw [hw2] at i2 G2 WG
  have I2 := Lib.hid i2
  have HW2 := Lib.hid hw2
  have KN := Lib.hid known13_any
  have HGG := Lib.hid hgg
  clear z0 g0 gR hR i2 g2 hw2
  go_enter Tryz.func5, Tryz.ntmps5
  go_upto_region 2 with (refine wpList_store_img (h := tH) (s := mS) (sv := .slice (some ⟨g, 0, none⟩) 1 1) (dv := .slice none 0 0) rfl _ _ rfl rfl rfl Z1.out ⟨_, _, _, rfl⟩ ⟨_, _, _, rfl⟩ ?_)
  rw [HW2.out]
  clear HW2 hV hW hb0 hgg Z1
  by_cases hA : a ≤ 1048576
  · have d1 : decide ((1048576 : Int) < (a : Int)) = false := by simp; omega
    have d1' : decide (1048576 < a) = false := by simp; omega
    by_cases hB : b ≤ 1048576
    · have d2 : decide ((1048576 : Int) < (b : Int)) = false := by simp; omega
      have d2' : decide (1048576 < b) = false := by simp; omega
      have HAB := Lib.hid (And.intro hA hB)
      clear hA hB
      go_upto_region 5 with fail
      clear d1 d1' d2 d2'
      obtain ⟨a0, ea0⟩ : ∃ z, z = a % 128 := ⟨_, rfl⟩
      obtain ⟨aq, eaq⟩ : ∃ z, z = a / 128 := ⟨_, rfl⟩
      obtain ⟨a1, ea1⟩ : ∃ z, z = aq % 128 := ⟨_, rfl⟩
      obtain ⟨a2, ea2⟩ : ∃ z, z = a / 16384 := ⟨_, rfl⟩
      obtain ⟨c0, ec0⟩ : ∃ z, z = b % 128 := ⟨_, rfl⟩
      obtain ⟨bq, ebq⟩ : ∃ z, z = b / 128 := ⟨_, rfl⟩
      obtain ⟨c1, ec1⟩ : ∃ z, z = bq % 128 := ⟨_, rfl⟩
      obtain ⟨c2, ec2⟩ : ∃ z, z = b / 16384 := ⟨_, rfl⟩
      have EQ := Lib.hid (show n3 (a : Int) ++ (96 :: n3 (b : Int)) = [(a0 : Int) + 128, (a1 : Int) + 128, (a2 : Int), 96, (c0 : Int) + 128, (c1 : Int) + 128, (c2 : Int)] by
        rw [ea0, ea1, ea2, ec0, ec1, ec2, eaq, ebq]
        rfl)
      have m1 : (a : Int) % 128 = (a0 : Int) := by omega
      have m2 : (a : Int) / 128 = (aq : Int) := by omega
      have m3 : (aq : Int) % 128 = (a1 : Int) := by omega
      have m4 : (a : Int) / 16384 = (a2 : Int) := by omega
      have m5 : (b : Int) % 128 = (c0 : Int) := by omega
      have m6 : (b : Int) / 128 = (bq : Int) := by omega
      have m7 : (bq : Int) % 128 = (c1 : Int) := by omega
      have m8 : (b : Int) / 16384 = (c2 : Int) := by omega
      have l0 : a0 < 128 := by omega
      have l1 : a1 < 128 := by omega
      have l2 : a2 < 128 := by have := HAB.out; omega
      have l3 : c0 < 128 := by omega
      have l4 : c1 < 128 := by omega
      have l5 : c2 < 128 := by have := HAB.out; omega
      have o3 : (w2.alloc (.cells #[.int .u8 17, .int .u8 32, .int .u8 0, .int .u8 96] 5)).ownsRow w2.heap.size 5 1 (.slice (some ⟨w2.heap.size, 0, none⟩) 4 4) 4 (([17, 32, 0, 96] : List Int).map (Value.int .u8)) := own_of_new (l := ([17, 32, 0, 96] : List Int).map (Value.int .u8)) (Nat.le_refl _) (by decide)
      have g3 := grown1 w2 (.cells #[.int .u8 17, .int .u8 32, .int .u8 0, .int .u8 96] 5)
      obtain ⟨w3, hw3⟩ : ∃ x, w2.alloc (.cells #[.int .u8 17, .int .u8 32, .int .u8 0, .int .u8 96] 5) = x := ⟨_, rfl⟩
      obtain ⟨s2, hs2⟩ : ∃ x, w2.heap.size = x := ⟨_, rfl⟩
      rw [hw3, hs2] at o3
      rw [hw3] at g3
      have g4 := grown1 w3 (.cells #[.int .u8 ((a0 : Int) + 128), .int .u8 ((a1 : Int) + 128), .int .u8 (a2 : Int), .int .u8 96, .int .u8 ((c0 : Int) + 128), .int .u8 ((c1 : Int) + 128), .int .u8 (c2 : Int)] 5)
      have B4 := Lib.hid (show IsBytes (w3.alloc (.cells #[.int .u8 ((a0 : Int) + 128), .int .u8 ((a1 : Int) + 128), .int .u8 (a2 : Int), .int .u8 96, .int .u8 ((c0 : Int) + 128), .int .u8 ((c1 : Int) + 128), .int .u8 (c2 : Int)] 5)) (some ⟨w3.heap.size, 0, none⟩) 7 [(a0 : Int) + 128, (a1 : Int) + 128, (a2 : Int), 96, (c0 : Int) + 128, (c1 : Int) + 128, (c2 : Int)] from bytes_lit w3 _ 7)
      have R4 := Lib.hid ((RowTo.refl (xs := [17, 32, 0, 96]) o3).past g4)
      have S4 := Lib.hid (show s2 ≤ (w3.alloc (.cells #[.int .u8 ((a0 : Int) + 128), .int .u8 ((a1 : Int) + 128), .int .u8 (a2 : Int), .int .u8 96, .int .u8 ((c0 : Int) + 128), .int .u8 ((c1 : Int) + 128), .int .u8 (c2 : Int)] 5)).heap.size from by have := g3.size; have := g4.size; omega)
      have G3 := Lib.hid g3
      have S2 := Lib.hid hs2
      clear ea0 eaq ea1 ea2 ec0 ebq ec1 ec2 g3 g4 o3
      rw [hw3, hs2]
      clear hw3 hs2
      go_wp2_with (at_builtin; refine wp_append_to rfl _ _ rfl rfl (v := .slice (some ⟨s2, 0, none⟩) 4 4) (by rfl) R4.out [(a0 : Int) + 128, (a1 : Int) + 128, (a2 : Int), 96, (c0 : Int) + 128, (c1 : Int) + 128, (c2 : Int)] 7 rfl (by rfl) B4.out (by decide) S4.out ?_)
      intro q5 c5 w5 hr5
      have g5 := grown_opt G3.out hr5.grown (fun y e => by have e1 : some s2 = some y := e; injection e1 with e1; have := S2.out; omega)
      have ld := run_loadI (I2.out.kept g5 (by simp))
      have D5 := Lib.hid (m_dec_any ((KR.out.grown WG.out).grown g5) a b HAB.out.1 HAB.out.2 (q := q5) (c := c5) (by rw [EQ.out]; exact IsBytes.of_own rfl hr5.row))
      have G5 := Lib.hid (grown_trans G2.out g5)
      clear hr5 g5 R4 B4 S4 G3 S2 m1 m2 m3 m4 m5 m6 m7 m8 l0 l1 l2 l3 l4 l5 EQ
      go_upto_region 6 with fail
      go_wp2_with (first | refine wpList_load_run rfl _ rfl rfl ld ?_ | fail)
      refine D5.out.mono ?_
      rintro e w6 ⟨q6, m6, c6, er, rfl, hg6, h1, h2⟩
      have G6 := Lib.hid (grown_trans G5.out hg6)
      have ws : IntKind.u64.wrap ((a : Int) + (b : Int)) = (a : Int) + (b : Int) := by
        show ((a : Int) + (b : Int)) % 18446744073709551616 = _
        have := HAB.out
        omega
      clear hg6 D5 ld G5
      by_cases hab : 20000 < a + b
      · obtain ⟨rfl, rfl⟩ := h1 hab
        have d3 : decide ((20000 : Int) < (a : Int) + (b : Int)) = true := by simp; omega
        have d3' : decide (20000 < a + b) = true := by simpa using hab
        clear h1 h2 hab
        go_wp2_with fail
        refine (KN.out w6).mono ?_
        rintro e w7 ⟨rfl, hg⟩
        have B3 := Lib.hid (below_grown (grown_trans G6.out hg) (Nat.le_refl _) (by simp))
        clear hg
        go_wp2
        go_ret
        exact ⟨rfl, B3.out⟩
      · obtain ⟨rfl, rfl⟩ := h2 (by omega)
        have d3 : decide ((20000 : Int) < (a : Int) + (b : Int)) = false := by simp; omega
        have d3' : decide (20000 < a + b) = false := by simpa using hab
        clear h1 h2 hab
        go_wp2_with fail
        refine (KN.out w6).mono ?_
        rintro e w7 ⟨rfl, hg⟩
        have B3 := Lib.hid (below_grown (grown_trans G6.out hg) (Nat.le_refl _) (by simp))
        clear hg
        go_wp2
        go_ret
        exact ⟨rfl, B3.out⟩
    · have d2 : decide ((1048576 : Int) < (b : Int)) = true := by simp; omega
      have d2' : decide (1048576 < b) = true := by simp; omega
      go_wp2_with fail
      refine (KN.out w2).mono ?_
      rintro e w3 ⟨rfl, hg⟩
      have B3 := Lib.hid (below_grown (grown_trans G2.out hg) (Nat.le_refl _) (by simp))
      clear hg
      go_wp2
      go_ret
      exact ⟨rfl, B3.out⟩
  · have d1 : decide ((1048576 : Int) < (a : Int)) = true := by simp; omega
    have d1' : decide (1048576 < a) = true := by simp; omega
    go_wp2_with fail
    refine (KN.out w2).mono ?_
    rintro e w3 ⟨rfl, hg⟩
    have B3 := Lib.hid (below_grown (grown_trans G2.out hg) (Nat.le_refl _) (by simp))
    clear hg
    go_wp2
    go_ret
    exact ⟨rfl, B3.out⟩
end Go.Proofs.YtbnnlbdjjpmgeaaGreat.rebaseMany


/- 'RebaseMany': for every input the call returns true, and what was handed in reads as it did. The form's own reach is the one condition. -/
namespace Go.Proofs.YtbnnlbdjjpmgeaaGreat.rebaseMany
open Go.ChangeShapes Go.WideShapes Go.ChangeAt Go.RowKit
open Go.ChangeMaps (open_string shut_string)

theorem own : ownKnob Tryz.prog.godebug = none := by kernel_rfl
theorem laidOut : laidOutB Tryz.prog = true := by kernel_rfl

set_option maxRecDepth 100000 in
theorem lifted (os : Os) (started : os.Started) (H : Type) (enc : TypeId × Value → H) :
    ReturnsInHanded {} Tryz.checked os 5 .any (Rows.rebaseManySpec.pre6 enc Tryz.prog Tryz.f5 Rows.rebaseManyRow.domain false) (Rows.rebaseManySpec.post enc Tryz.prog Tryz.f5 false true false false) := by
  refine returnsInHanded_of_change (C := Tryz.checked) own started (by kernel_rfl) Tryz.func5
    (ChangeSpec.witness6 (enc := enc) (C := Tryz.checked) false ⟨#[], #[.int .u64 0, .int .u64 0], []⟩ 8 (by kernel_rfl) (by kernel_rfl) (by kernel_rfl) (by kernel_rfl)) ?_
  intro W base args ds gs before hval0 hW hcnd _
  have hval : ∀ (j : Nat) t v, Tryz.f5.params[j]? = some t → args[j]? = some v → Value.okWide Tryz.prog W .any base t v := hval0
  have hW' := hW
  obtain ⟨p, q, hA0, hV, rfl, hfz, hnd⟩ := hW
  have hA : DataW.TrodAll enc Tryz.prog W 0 (fun _ => true) true Tryz.f5.params.toList args.toList ds p := hA0
  rw [Tryz.params5] at hA hval
  obtain ⟨v0, vs0, d0, ds0, p0, q0, hargs, rfl, rfl, h0, r0⟩ := trodAll_cons hA
  obtain ⟨v1, vs1, d1, ds1, p1, q1, rfl, rfl, rfl, h1, r1⟩ := trodAll_cons r0
  obtain ⟨rfl, rfl, rfl⟩ := trodAll_nil r1
  obtain rfl : args = #[v0, v1] := by cases args; simp_all
  obtain ⟨rfl, rfl⟩ := trodVars_none hV
  obtain ⟨a0, rfl, rfl, rfl, w0⟩ := open_int Tryz.underlying26 (hval 0 26 v0 rfl rfl) h0
  obtain ⟨a1, rfl, rfl, rfl, w1⟩ := open_int Tryz.underlying26 (hval 1 26 v1 rfl rfl) h1
  clear hA0 hval0
  simp only [List.append_nil] at hW'
  refine (walk a0 a1 W w0 w1).mono fun e W' ⟨he, bel⟩ => ?_
  subst he
  exact ⟨_, rfl, _, _, _, [], _, [], hW', trodAll_mk1 (shut_bool Tryz.underlying4 _), (trodAll_cons_mk (shut_int Tryz.underlying26 w0) (trodAll_cons_mk (shut_int Tryz.underlying26 w1) trodAll_mk0)), rfl, bel.frame _, fun h => by cases h⟩

theorem proved : Rows.RebaseManySaid :=
  OpenClaim.holds_of_wide 5 Tryz.f5 rfl rfl rfl rfl rfl rfl rfl ⟨rfl, rfl, rfl, rfl, rfl⟩ rfl rfl rfl rfl rfl (by kernel_rfl) Tryz.func5 (by kernel_rfl)
    (of_decide_eq_true (by kernel_rfl)) (by unfold Func.isWrapper; first | (rw [if_pos (by decide +kernel)]; kernel_rfl) | (rw [if_neg (by decide +kernel)]; exact ⟨rfl, rfl⟩))
    (fun os started H enc _ => lifted os started H enc)
end Go.Proofs.YtbnnlbdjjpmgeaaGreat.rebaseMany
