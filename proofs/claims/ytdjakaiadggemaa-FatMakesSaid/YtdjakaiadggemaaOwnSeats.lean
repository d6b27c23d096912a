/- Which parts may not be, and where each one comes to stand: the program's own calls. No condition but that there are few parts, of few bytes. -/
import Derived.Test.YtdjakaiadggemaaOwnPut
import Derived.Test.YtdjakaiadggemaaSlice
import Derived.Test.YtdjakaiadggemaaSame
import Derived.Deep.RegionWith
import Derived.Deep.RegionHeld3
import Derived.Deep.Cut
import Derived.Deep.CutRange
namespace Go.Proofs.Ytdjakaiadggemaa
open Go.RowKit
variable {w w' : World}

def Mb.v (m : Mb) : Value := .agg #[.int .u32 m.cpu, .int .u32 m.sub, .int .i64 m.align, .slice m.q m.bytes.length m.cap]
def Mb.odd (m : Mb) : Bool := !decide (0 ≤ m.align ∧ m.align ≤ 15)
theorem make1_any (m : Mb) : Calls Try.prog 30 #[m.v] w fun e w' => e = .returned (.bool m.odd) ∧ w.grownBy w' none := by
  have A := Lib.hid (fun w => alignMay_any (w := w) m.align)
  unfold Mb.odd Mb.v
  generalize decide (0 ≤ m.align ∧ m.align ≤ 15) = b at *
  go_enter Try.func30, Try.ntmps30
  go_wp2_with fail
  refine (A.out _).mono ?_
  rintro e w' ⟨rfl, rfl⟩
  go_wp2
  go_ret
  exact ⟨rfl, grown1 _ _⟩

/-- slices.IndexFunc over parts: is one odd? -/
structure MRel (w wr : World) (p : Option Addr) (l : List Mb) (k : Nat) : Prop where
  le : k ≤ l.length
  none : ∀ i s, i < k → l[i]? = some s → s.odd = false
  mbs : IsMbs wr p l
  grown : w.grownBy wr Option.none
theorem indexM_any (l : List Mb) (n : Nat) (hn : l.length = n) (hl : n ≤ 1152921504606846976) (p : Option Addr) (c : Nat) (hp : IsMbs w p l) :
    Calls Try.prog 51 #[.slice p n c, .func (.func 30) #[] #[]] w fun e w' =>
      (∃ z : Int, e = .returned (.int .i64 z) ∧ (0 ≤ z ↔ l.any Mb.odd = true)) ∧ w.grownBy w' none := by
  subst hn
  have R0 : MRel w w p l 0 := ⟨Nat.zero_le _, fun i s hi => by omega, hp, grown_refl _ _⟩
  clear hp
  go_enter Try.func51, Try.ntmps51
  go_wp2
  go_loopw [8] (fun i wr => ∃ k : Nat, i = .int .i64 k ∧ MRel w wr p l k) (fun i _ => l.length - (intOf i).toNat)
  case atStart => exact ⟨0, rfl, R0⟩
  case round =>
    obtain ⟨k, rfl, hk⟩ := hrel
    have hle := hk.le
    by_cases hlt : k < l.length
    · obtain ⟨s, hs⟩ : ∃ s, l[k]? = some s := ⟨_, List.getElem?_eq_getElem hlt⟩
      obtain ⟨b, o, rfl, hc⟩ := hk.mbs (by omega)
      obtain ⟨⟨c0, c1, c2, c3⟩, _⟩ := hc k s hs
      have K := Lib.hid hk
      have S := Lib.hid hs
      have M1 := Lib.hid (fun w => make1_any (w := w) s)
      unfold Mb.v at M1
      clear hk hs hc
      go_wp2_with fail
      refine (M1.out _).mono ?_
      rintro e w' ⟨rfl, hg⟩
      have G := Lib.hid hg
      clear hg
      cases hpr : s.odd
      · have P1 := Lib.hid hpr
        clear hpr
        go_wp2
        go_roundw
        case rel =>
          have hk := K.out
          refine ⟨k + 1, by go_num, by omega, fun i t hi ht => ?_, hk.mbs.grown G.out, grown_trans hk.grown G.out⟩
          rcases Nat.lt_or_ge i k with h | h
          · exact hk.none i t h ht
          · obtain rfl : i = k := by omega
            rw [S.out] at ht
            injection ht with ht
            rw [← ht]; exact P1.out
        case measure => simp [intOf]; omega
      · have P1 := Lib.hid hpr
        clear hpr
        go_wp2
        go_ret
        exact ⟨⟨k, rfl, ⟨fun _ => List.any_eq_true.2 ⟨s, List.mem_of_getElem? S.out, P1.out⟩, fun _ => by omega⟩⟩, grown_trans K.out.grown G.out⟩
    · have hk' : k = l.length := by omega
      subst hk'
      have K := Lib.hid hk
      clear hk
      go_wp2
      go_ret
      refine ⟨⟨-1, rfl, ⟨fun h => by omega, fun h => ?_⟩⟩, K.out.grown⟩
      obtain ⟨x, hx, hp⟩ := List.any_eq_true.1 h
      obtain ⟨i, hi, rfl⟩ := List.getElem_of_mem hx
      rw [K.out.none i _ hi (List.getElem?_eq_getElem hi)] at hp
      cases hp
theorem containsM_any (l : List Mb) (n : Nat) (hn : l.length = n) (hl : n ≤ 1152921504606846976) (p : Option Addr) (c : Nat) (hp : IsMbs w p l) :
    Calls Try.prog 29 #[.slice p n c, .func (.func 30) #[] #[]] w fun e w' =>
      e = .returned (.bool (l.any Mb.odd)) ∧ w.grownBy w' none := by
  have I := Lib.hid (indexM_any l n hn hl p c hp)
  clear hp
  obtain ⟨b, hb⟩ : ∃ b, b = l.any Mb.odd := ⟨_, rfl⟩
  rw [← hb] at I ⊢
  clear hb
  go_enter Try.func29, Try.ntmps29
  go_wp2_with fail
  refine I.out.mono ?_
  rintro e w' ⟨⟨z, rfl, hz⟩, hg⟩
  have G := Lib.hid hg
  have Z := Lib.hid hz
  clear hg hz
  go_wp2
  go_ret
  refine ⟨ret_bool ?_, G.out⟩
  have hz := Z.out
  cases b
  · rw [decide_eq_false (fun h => by have := hz.1 h; cases this)]
  · rw [decide_eq_true (hz.2 rfl)]

/-- Where a part comes to stand, behind an end; and where it ends. -/
def spot (e : Int) (m : Mb) : Sl := ⟨m.cpu, m.sub, upN e (2 ^ m.align.toNat), m.bytes.length, m.align⟩
def stepE (e : Int) (m : Mb) : Int := upN e (2 ^ m.align.toNat) + m.bytes.length
def endN (e0 : Int) (l : List Mb) : Int := l.foldl stepE e0
def Mb.zero : Mb := ⟨0, 0, 0, none, 0, []⟩
def spots (e0 : Int) (l : List Mb) (k : Nat) : List Sl := (List.range k).map fun i => spot (endN e0 (l.take i)) (l.getD i Mb.zero)
theorem spots_len (e0 : Int) (l : List Mb) (k : Nat) : (spots e0 l k).length = k := by simp [spots]
theorem spots_succ {e0 : Int} {l : List Mb} {k : Nat} {m : Mb} (h : l[k]? = some m) : spots e0 l (k + 1) = spots e0 l k ++ [spot (endN e0 (l.take k)) m] := by
  simp [spots, List.range_succ, List.getD, h]
theorem endN_succ {e0 : Int} {l : List Mb} {k : Nat} {m : Mb} (h : l[k]? = some m) : endN e0 (l.take (k + 1)) = stepE (endN e0 (l.take k)) m := by
  have hk : k < l.length := by
    rcases Nat.lt_or_ge k l.length with h1 | h1
    · exact h1
    · simp [h1] at h
  rw [List.getElem?_eq_getElem hk] at h
  injection h with h
  unfold endN
  rw [List.take_succ_eq_append_getElem hk, List.foldl_append, h]
  rfl
theorem upN_bd {e u : Int} (hu : 0 < u) : e ≤ upN e u ∧ upN e u ≤ e + u - 1 := by
  unfold upN
  have h1 : (e + u - 1) / u * u ≤ e + u - 1 := Int.ediv_mul_le _ (by omega)
  have h2 := Int.lt_ediv_add_one_mul_self (e + u - 1) hu
  rw [Int.add_mul, Int.one_mul] at h2
  omega
/-- Have all of them room? -/
def Room (e0 : Int) (l : List Mb) : Prop := ∀ i, i < l.length → endN e0 (l.take (i + 1)) ≤ 1048576

theorem spAt_kept {g : Nat} {o z : Int} {row : Option Nat} (h : SpAt w g o z) (hg : w.grownBy w' row) (hr : row ≠ some g) : SpAt w' g o z := (hg.block g (lt_of_block h) (fun e => hr e.symm)).trans h

structure TakenS (w wr : World) (wide : Bool) (e0 : Int) (p : Option Addr) (l : List Mb) (v ev : Value) (k : Nat) : Prop where
  le : k ≤ l.length
  own : wr.ownsRow (w.heap.size + 1) 42 5 v k (rowOf (spots e0 l k))
  at_ : ev = .int .u64 (endN e0 (l.take k))
  lo : 0 ≤ endN e0 (l.take k)
  fit : endN e0 (l.take k) ≤ 1048576
  all : ∀ i, i < k → endN e0 (l.take (i + 1)) ≤ 1048576
  shape : ShapeAt wr w.heap.size wide
  mbs : IsMbs wr p l
  grown : w.grownBy wr none
theorem unit_at (z : Int) (k : Nat) (hz : z = k) (hk : k ≤ 15) : Calls Try.prog 54 #[.int .i64 z] w fun e w' => e = .returned (.int .u64 (2 ^ k)) ∧ w' = w := by
  subst hz
  exact (unit_any k hk).mono fun _ _ h => ⟨h.1, h.2.symm⟩

set_option maxHeartbeats 1600000 in
set_option maxRecDepth 20000 in
theorem seats_any (wide : Bool) (l : List Mb) (n : Nat) (hn : l.length = n) (hl : n ≤ 32) (p : Option Addr) (c : Nat) (hp : IsMbs w p l) (hfit : ∀ m ∈ l, m.Fits) (hal : ∀ m ∈ l, 0 ≤ m.align ∧ m.align ≤ 15) :
    Calls Try.prog 32 #[shapeV wide, .slice p n c] w fun e w' =>
      ((Room (8 + (n : Int) * (esize wide : Nat)) l → ∃ q c', e = .returned (.tuple #[.slice q n c', .bool true]) ∧ IsSl w' q (spots (8 + (n : Int) * (esize wide : Nat)) l n) ∧ n ≤ c' ∧ c' ≤ 9223372036854775807) ∧
       (¬ Room (8 + (n : Int) * (esize wide : Nat)) l → e = .returned (.tuple #[.slice none 0 0, .bool false]))) ∧ w.grownBy w' none := by
  have SZ := Lib.hid (fun w => size_any (w := w) wide)
  have hes : esize wide ≤ 32 := by cases wide <;> decide
  obtain ⟨es, hE⟩ : ∃ es, es = esize wide := ⟨_, rfl⟩
  rw [← hE] at SZ hes ⊢
  have he0 : 8 + (n : Int) * (es : Nat) ≤ 1048576 ∧ 0 ≤ 8 + (n : Int) * (es : Nat) := by
    have h1 : (n : Int) * es ≤ 32 * 32 := Int.mul_le_mul (by omega) (by omega) (by omega) (by decide)
    have h2 : (0 : Int) ≤ (n : Int) * es := Int.mul_nonneg (by omega) (by omega)
    omega
  have S0 : ShapeAt (w.alloc (.cells #[.string (magicOf wide), .int .i64 (plc wide), .int .i64 (rst wide)] 62)) w.heap.size wide := heap_alloc_new w _
  have M0 := hp.grown (grown1 w (.cells #[.string (magicOf wide), .int .i64 (plc wide), .int .i64 (rst wide)] 62))
  have F := Lib.hid hfit
  have AL := Lib.hid hal
  have HN := Lib.hid hn
  have HP := Lib.hid hp
  clear hp hfit hal hE
  unfold shapeV at SZ
  unfold shapeV
  obtain ⟨e0, hq0⟩ : ∃ z : Int, z = 8 + (n : Int) * es := ⟨_, rfl⟩
  have hz0 : IntKind.u64.wrap (8 + (n : Int) * es) = e0 := by rw [IntKind.wrap_u64, ← hq0]; omega
  have hz1 : (8 + (n : Int) * es) % 18446744073709551616 = e0 := by rw [← hq0]; omega
  rw [← hq0] at he0 ⊢
  go_enter Try.func32, Try.ntmps32
  go_wp2_with fail
  refine (SZ.out _).mono ?_
  rintro e w1 ⟨rfl, hg1⟩
  have T0 : TakenS w w1 wide e0 p l (.slice none 0 0) (.int .u64 e0) 0 :=
    ⟨Nat.zero_le _, World.ownsRow_nil _ _ _ _, rfl, he0.2, he0.1, fun i hi => by omega, S0.kept hg1 (by simp), M0.grown hg1, grown_trans (grown1 _ _) hg1⟩
  have B1 := hg1.size
  clear hg1 S0 M0
  go_wp2
  have HQ := Lib.hid hq0
  clear hq0 hz0 hz1 B1 he0
  go_loopw [6, 7, 20] (fun v ev i wr => ∃ k : Nat, i = .int .i64 k ∧ TakenS w wr wide e0 p l v ev k) (fun _ _ i _ => n - (intOf i).toNat)
  case atStart => exact ⟨0, rfl, by rw [← HQ.out]; exact T0⟩
  case round =>
    obtain ⟨k, rfl, ht⟩ := hrel
    have hkn : k ≤ n := by rw [← hn]; exact ht.le
    obtain ⟨qv, cv, rfl⟩ := own_slice ht.own
    have hat := ht.at_
    subst hat
    have K := Lib.hid ht
    have lo := ht.lo
    have hi := ht.fit
    clear ht T0
    by_cases hlt : k < n
    · obtain ⟨m, hm⟩ : ∃ m, l[k]? = some m := ⟨_, List.getElem?_eq_getElem (by rw [HN.out]; exact hlt)⟩
      obtain ⟨b, o, rfl, hc⟩ := K.out.mbs (by rw [HN.out]; omega)
      obtain ⟨⟨c0, c1, c2, c3⟩, _⟩ := hc k m hm
      have mf := F.out m (List.mem_of_getElem? hm)
      have ma := AL.out m (List.mem_of_getElem? hm)
      obtain ⟨a, ha⟩ := Int.eq_ofNat_of_zero_le ma.1
      have ha15 : a ≤ 15 := by omega
      have ES := Lib.hid (endN_succ (e0 := e0) hm)
      have SS := Lib.hid (spots_succ (e0 := e0) hm)
      have M := Lib.hid hm
      have MF := Lib.hid mf
      have hlen := mf.len
      have hcap := mf.cap
      obtain ⟨E, hE⟩ : ∃ z, z = endN e0 (l.take k) := ⟨_, rfl⟩
      rw [← hE] at lo hi ES SS ⊢
      have HE := Lib.hid hE
      have hub := upN_bd (e := E) (show (0 : Int) < 2 ^ a from Int.pow_pos (by decide))
      have hP15 : (2 : Int) ^ a ≤ 32768 := two_le ha15
      have UN := Lib.hid (fun w => unit_at (w := w) m.align a ha ha15)
      have RU := Lib.hid (fun w => roundUp_any (w := w) E (2 ^ a) ⟨lo, by omega⟩ ⟨Int.pow_pos (by decide), by omega⟩)
      have SP := Lib.hid (show spot E m = ⟨m.cpu, m.sub, upN E (2 ^ a), m.bytes.length, m.align⟩ by unfold spot; rw [ha]; rfl)
      have ST := Lib.hid (show stepE E m = upN E (2 ^ a) + m.bytes.length by unfold stepE; rw [ha]; rfl)
      have u1 : ((m.bytes.length : Int) % 18446744073709551616) = m.bytes.length := by omega
      have u2 : IntKind.u64.wrap (m.bytes.length : Int) = m.bytes.length := by rw [IntKind.wrap_u64]; exact u1
      have WI := Lib.hid (fun w => withini_any (upN E (2 ^ a)) m.bytes.length 1048576 ⟨by omega, by omega⟩ ⟨by omega, by omega⟩ (by decide) w)
      have hb0 : 0 ≤ upN E (2 ^ a) := by omega
      have hb1 : upN E (2 ^ a) ≤ 1081344 := by omega
      clear hc hm mf ma ha hE hub hP15
      generalize (2 : Int) ^ a = P at *
      generalize upN E P = U at *
      obtain ⟨W, hW⟩ : ∃ W, W = wr.alloc (.cells #[.int .u32 m.cpu, .int .u32 m.sub, .int .i64 m.align, .slice m.q m.bytes.length m.cap] 56) := ⟨_, rfl⟩
      have hmem : W.heap[wr.heap.size]? = some (.cells #[.int .u32 m.cpu, .int .u32 m.sub, .int .i64 m.align, .slice m.q m.bytes.length m.cap] 56 (0, 0)) := by rw [hW]; exact heap_alloc_new wr _
      have hgm : wr.grownBy W none := by rw [hW]; exact grown1 wr _
      go_upto_region 6 with fail
      rw [← hW]
      clear hW
      have d0 : W.cell? ⟨wr.heap.size, 0, none⟩ = some (.int .u32 m.cpu) := by rw [cell_of hmem]; rfl
      have d1 : W.cell? ⟨wr.heap.size, 1, none⟩ = some (.int .u32 m.sub) := by rw [cell_of hmem]; rfl
      have d2 : W.cell? ⟨wr.heap.size, 2, none⟩ = some (.int .i64 m.align) := by rw [cell_of hmem]; rfl
      have d3 : W.cell? ⟨wr.heap.size, 3, none⟩ = some (.slice m.q m.bytes.length m.cap) := by rw [cell_of hmem]; rfl
      have hlW := lt_of_block hmem
      have GM := Lib.hid hgm
      clear hmem hgm
      have GD := Lib.hid (show wr.grownBy W.drew none from grown_drewN GM.out 1)
      have e0' : W.drew.cell? ⟨wr.heap.size, 0, none⟩ = some (.int .u32 m.cpu) := d0
      have e1' : W.drew.cell? ⟨wr.heap.size, 1, none⟩ = some (.int .u32 m.sub) := d1
      have e2' : W.drew.cell? ⟨wr.heap.size, 2, none⟩ = some (.int .i64 m.align) := d2
      have EE := Lib.hid (And.intro e0' (And.intro e1' e2'))
      clear e0' e1' e2' GM
      go_region_held3 (fun X => X.cell? ⟨wr.heap.size, 2, none⟩ = some (.int .i64 m.align) ∧ X.cell? ⟨wr.heap.size, 3, none⟩ = some (.slice m.q m.bytes.length m.cap) ∧ wr.heap.size < X.heap.size)
        (first | exact ⟨d2, d3, hlW⟩ | (refine ⟨?_, ?_, ?_⟩ <;> simp [go_sem, *]; done))
        (first
          | (go_at_call 54; refine (UN.out _).mono ?_; rintro e x1 ⟨rfl, rfl⟩)
          | (go_at_call 53; refine (RU.out _).mono ?_; rintro e x2 ⟨rfl, rfl⟩))
      all_goals
        clear d0 d1 d2 d3
        have hS : SpAt (W.alloc (.cells #[.int .u64 U, .int .u64 m.bytes.length] 33)).drew W.heap.size U m.bytes.length := SpAt.new W U m.bytes.length
        have hgX : W.drew.grownBy (W.alloc (.cells #[.int .u64 U, .int .u64 m.bytes.length] 33)).drew none := grown1 W.drew (.cells #[.int .u64 U, .int .u64 m.bytes.length] 33)
        have e0' := grown_cell hgX EE.out.1
        have e1' := grown_cell hgX EE.out.2.1
        have e2' := grown_cell hgX EE.out.2.2
        have s0 := hS.c0
        have s1 := hS.c1
        have GX := Lib.hid (grown_trans GD.out hgX)
        have SX := Lib.hid hS
        have hlX := lt_of_block hS
        clear EE GD hgX hS
        generalize (W.alloc _).drew = X at *
        by_cases hfit : U + m.bytes.length ≤ 1048576
        · rw [decide_eq_true hfit] at WI
          go_wp2_with fail
          refine (WI.out _).mono ?_
          rintro x w3 ⟨rfl, rfl⟩
          have OA := Lib.hid ((own_grown K.out.own GX.out).alloc (.cells #[.int .u32 m.cpu, .int .u32 m.sub, .int .u64 U, .int .u64 m.bytes.length, .int .i64 m.align] 42))
          have hgA := grown_trans GX.out (grown1 X (.cells #[.int .u32 m.cpu, .int .u32 m.sub, .int .u64 U, .int .u64 m.bytes.length, .int .i64 m.align] 42))
          have GA := Lib.hid hgA
          have SA := Lib.hid (SX.out.grown (grown1 X (.cells #[.int .u32 m.cpu, .int .u32 m.sub, .int .u64 U, .int .u64 m.bytes.length, .int .i64 m.align] 42)))
          have OLT := Lib.hid (fun g (hg : (Value.slice qv k cv).ownBlock = some g) => K.out.own.lt g hg)
          have BZ := Lib.hid (Nat.le_trans (lt_of_block (show wr.heap[w.heap.size]? = _ from K.out.shape)) hgA.size)
          clear hgA
          go_wp2_with (at_builtin; refine wp_append_sl rfl _ _ rfl _ _ (spots e0 l k) rfl OA.out ⟨m.cpu, m.sub, U, m.bytes.length, m.align⟩ X.heap.size rfl ?_ ?_ ?_ ?_)
          · exact SlAt.new X ⟨m.cpu, m.sub, U, m.bytes.length, m.align⟩
          · omega
          · exact BZ.out
          intro v' w6 ho6 hg6
          obtain ⟨q6, c6, rfl⟩ := own_slice ho6
          have hS6 := spAt_kept SA.out hg6 (fun e => by have := (OLT.out _ e).2; omega)
          have z0 := hS6.c0
          have z1 := hS6.c1
          have hG6 := grown_own (grown_trans K.out.grown GA.out) hg6 (fun g hg => (OLT.out g hg).1) (Nat.le_succ _)
          have NO : TakenS w w6 wide e0 (some ⟨b, o, none⟩) l (.slice q6 (k + 1) c6) (.int .u64 (U + m.bytes.length)) (k + 1) := by
            have hend : endN e0 (l.take (k + 1)) = U + m.bytes.length := by rw [ES.out, ST.out]
            refine ⟨by rw [HN.out]; exact hlt, by rw [SS.out, SP.out]; exact ho6, by rw [hend], by rw [hend]; omega, by rw [hend]; exact hfit, fun i hi => ?_, ?_, HP.out.grown hG6, hG6⟩
            · rcases Nat.lt_or_ge i k with h | h
              · exact K.out.all i h
              · obtain rfl : i = k := by omega
                rw [hend]; exact hfit
            · exact (K.out.shape.kept GA.out (by simp)).kept hg6 (fun e => by have := (OLT.out _ e).1; omega)
          have NX := Lib.hid NO
          clear ho6 hg6 hS6 hG6 NO
          go_wp2
          go_roundw
          case rel => exact ⟨k + 1, by go_num, NX.out⟩
          case measure => simp [intOf]; omega
        · rw [decide_eq_false hfit] at WI
          have NR : ¬ Room e0 l := fun h => by
            have h1 := h k (by rw [HN.out]; exact hlt)
            rw [ES.out, ST.out] at h1
            exact hfit h1
          have HR := Lib.hid NR
          clear NR
          go_wp2_with fail
          refine (WI.out _).mono ?_
          rintro x w3 ⟨rfl, rfl⟩
          have G := Lib.hid (grown_trans K.out.grown GX.out)
          go_wp2
          go_ret2
          exact ⟨⟨fun h => absurd h HR.out, fun _ => rfl⟩, G.out⟩
    · have hkn' : k = n := by omega
      subst hkn'
      have HR := Lib.hid (show Room e0 l from fun i hi => K.out.all i (by rw [← HN.out]; exact hi))
      obtain ⟨hsl, hc1, hc2⟩ := IsSl.of_own (spots_len e0 l k) K.out.own
      have SL := Lib.hid hsl
      clear hsl
      go_wp2
      go_ret2
      exact ⟨⟨fun _ => ⟨qv, cv, rfl, SL.out, hc1, hc2⟩, fun h => absurd HR.out h⟩, K.out.grown⟩
end Go.Proofs.Ytdjakaiadggemaa
