/- Parts of the proof, put together: Puts, Enc, Round, MkA, MkB, MkC, MkD, MkE, MkF. No condition beyond those that each part names. -/
import Derived.Shelf.Small.Bits
import Derived.Shelf.Small.Strs
import Derived.Shelf.Strconv.Itoa0
import Derived.Shelf.Strings.Search1
import Derived.Shelf.Bytes.SlIndexAt
import Derived.Shelf.Bytes.SlSearch0
import Derived.Ground.SlbCloneProg
import Derived.Shelf.Bytes.SlClone
import Derived.Shelf.Bytes.IndexByte
import Derived.Test.YtbnnlbdjjpmgeaaProg
import Derived.Test.YtbnnlbdjjpmgeaaRows
import Derived.WalkKit
import Derived.WalkSpells
import Derived.WalkLawsBesides
import Derived.BigQuiet
import Derived.Deep.QuietTactic
import Derived.Lib.Hide
import Derived.IntWalk
import Derived.OneCell
import Derived.Laws.Rows
import Derived.OpenShut
import Derived.ProofKit
import Derived.Lib.EndianBits
import Derived.RegionTactic
import Derived.ChangeAlike
import Derived.WalkMore
import Derived.Laws.BytesArg
import Derived.Shelf.Bytes.SlEqualAll
import Derived.Lib.SlFresh
import Derived.Maps.AppendAt
import Derived.Deep.AppendSrc
import Derived.Deep.Upon
import Derived.Lib.AppendZeros
import Derived.Laws.IdiomStrings
import Derived.Lib.AppendZerosOnto
import Derived.Laws.StructEq
import Derived.Below
import Derived.Shelf.Abstract
import Derived.Laws.ResultCell
import Derived.Deep.Slices
import Derived.ChangeSame
import Derived.Laws.OwnMore
import Derived.Laws.Slices
import Derived.Lib.ConvBytes
import Derived.StringKeys
import Derived.Maps.Own
import Derived.Maps.OwnOps
import Derived.Maps.OwnSet
import Derived.WideShapes
import Derived.Deep.Cut
import Derived.Deep.CutRange
import Derived.PlainAid
import Derived.Lib.SlBytesRow
import Derived.Deep.Onto
import Derived.Laws.EntriesVeiled
import Derived.Shelf.SlSortCmp.WholeK
import Derived.Shelf.SlGeneric
import Derived.Ground.SlsfProg
import Derived.Deep.LoopGhost
import Derived.StillTailTactics
import Derived.Deep.RegionWith
import Derived.Deep.RegionHeld3
import Derived.Lib.SmallJoins
import Derived.Laws.Bits128
import Derived.Test.YtbnnlbdjjpmgeaaPT1
import Derived.Test.YtbnnlbdjjpmgeaaPT2
import Derived.Test.YtbnnlbdjjpmgeaaPT4
import Derived.Test.YtbnnlbdjjpmgeaaPT5
namespace Go.Proofs.Ytbnnlbdjjpmgeaa
open Go.RowKit
variable {w : World}

theorem own_slice8 {w : World} {base : Nat} {v : Value} {n : Nat} {xs : List Value} (h : w.ownsRow base 5 1 v n xs) : ∃ q c, v = .slice q n c := by
  rcases h.2 with ⟨rfl, h0⟩ | ⟨g, cap, cur, rfl, _⟩
  · have : n = 0 := by omega
    subst this; exact ⟨_, _, rfl⟩
  · exact ⟨_, _, rfl⟩
theorem own_kept {w w' : World} {base : Nat} {v : Value} {n : Nat} {xs : List Value} {b : Nat} (h : w.ownsRow base 5 1 v n xs) (hg : w.grownBy w' (some b)) (hb : b < base) : w'.ownsRow base 5 1 v n xs :=
  h.kept hg (by
    cases hv : v.ownBlock with
    | none => exact .inl rfl
    | some g => exact .inr (fun e => by injection e with e; have := (h.lt g hv).1; omega))
theorem lt_block {w : World} {b : Nat} {o : Obj} (h : w.heap[b]? = some o) : b < w.heap.size := (Array.getElem?_eq_some_iff.1 h).1
theorem encU_len (k : Nat) : ∀ n : Nat, n < 128 ^ (k + 1) → (encU n).length ≤ k + 1 := by
  induction k with
  | zero => intro n h; rw [encU_small (by simpa using h)]; simp
  | succ k ih =>
    intro n h
    by_cases h1 : n < 128
    · rw [encU_small h1]; simp
    · rw [encU_big h1, List.length_cons]
      have := ih (n / 128) (by rw [Nat.pow_succ] at h; omega)
      omega
theorem encU_10 (n : Nat) (h : n < 18446744073709551616) : (encU n).length ≤ 10 := encU_len 9 n (by omega)
def cellAbs (w : World) (b : Nat) : Nat := match w.cell? ⟨b, 0, none⟩ with
  | some (.int _ m) => m.natAbs
  | _ => 0
structure PRel (w0 w : World) (all : List Int) (k : IntKind) (t : TypeId) (enc : Int → List Int) (ok : Int → Prop) (bn : Nat) (v : Value) : Prop where
  part : ∃ (m : Int) (pre : List Int) (q : Option Addr) (c : Nat), v = .slice q pre.length c ∧ w.ownsRow w0.heap.size 5 1 (.slice q pre.length c) pre.length (pre.map (Value.int .u8)) ∧ all = pre ++ enc m ∧
    w.heap[bn]? = some (.cells #[.int k m] t (0, 0)) ∧ ok m
  kept : KeptBut w0 w [bn]
def POut (w0 w : World) (all : List Int) (bn : Nat) (e : Ending) : Prop :=
  (∃ q c, e = .returned (.slice q all.length c) ∧ w.ownsRow w0.heap.size 5 1 (.slice q all.length c) all.length (all.map (Value.int .u8))) ∧ KeptBut w0 w [bn]
theorem one_byte (w : World) (x : Int) (t : TypeId) : IsBytes (w.alloc (.cells #[.int .u8 x] t)) (some ⟨w.heap.size, 0, none⟩) 1 [x] := by
  refine IsBytes.mk_at fun i hi => ?_
  rw [cell_of (heap_alloc_new w _)]
  obtain rfl : i = 0 := by simp at hi; omega
  rfl
theorem KeptBut.row {w0 w1 w2 : World} {S : List Nat} (h : KeptBut w0 w1 S) {r : Option Nat} (hg : w1.grownBy w2 r) (hr : ∀ g, r = some g → w0.heap.size ≤ g) : KeptBut w0 w2 S :=
  ⟨hg.os.trans h.os, hg.tape.trans h.tape, hg.output.trans h.output, Nat.le_trans h.size hg.size, fun i hi hm =>
    (hg.block i (Nat.lt_of_lt_of_le hi h.size) (fun e => by have := hr i e.symm; omega)).trans (h.block i hi hm)⟩
theorem put_step {w w2 w3 : World} {bn : Nat} {mv : Int} {pre : List Int} {x : Int} {q : Option Addr} {c : Nat} {k : IntKind} {t : TypeId} {v' : Value} (hbn : bn < w.heap.size)
    (hown : w2.ownsRow w.heap.size 5 1 (.slice q pre.length c) pre.length (pre.map (Value.int .u8))) (hcell : w2.heap[bn]? = some (.cells #[.int k mv] t (0, 0))) (hk : KeptBut w w2 [bn])
    (h1 : w3.ownsRow w.heap.size 5 1 v' (pre.length + 1) (pre.map (Value.int .u8) ++ [x].map (Value.int .u8))) (h2 : (w2.alloc (.cells #[.int .u8 x] 5)).grownBy w3 (Value.slice q pre.length c).ownBlock) :
    (∃ q' c', v' = .slice q' (pre ++ [x]).length c' ∧ w3.ownsRow w.heap.size 5 1 (.slice q' (pre ++ [x]).length c') (pre ++ [x]).length ((pre ++ [x]).map (Value.int .u8))) ∧
      w3.heap[bn]? = some (.cells #[.int k mv] t (0, 0)) ∧ KeptBut w w3 [bn] := by
  obtain ⟨q', c', rfl⟩ := own_slice8 h1
  have hrow : ∀ g, (Value.slice q pre.length c).ownBlock = some g → w.heap.size ≤ g := fun g hg => (hown.lt g hg).1
  have hl : (pre ++ [x]).length = pre.length + 1 := by simp
  refine ⟨⟨q', c', by rw [hl], by rw [hl, List.map_append]; exact h1⟩, ?_, (hk.row (World.grownBy_alloc w2 _ none) (by simp)).row h2 hrow⟩
  have hz := hk.size
  rw [h2.block bn (by simp; omega) (fun e => by have := hrow bn e.symm; omega)]
  exact (heap_alloc_old _ _ (by omega)).trans hcell
set_option maxHeartbeats 800000 in
theorem putu_any (bn n : Nat) (hn : n < 18446744073709551616) (hb : w.heap[bn]? = some (.cells #[.int .u64 n] 36 (0, 0))) :
    Calls Try.prog 54 #[.func (.func 55) #[] #[.pointer (some ⟨bn, 0, none⟩)]] w fun e w' => POut w w' (encU n) bn e := by
  have R0 : PRel w w (encU n) .u64 36 (fun m => encU m.toNat) (fun m => 0 ≤ m) bn (.slice none 0 0) := ⟨⟨n, [], none, 0, rfl, World.ownsRow_nil _ _ _ _, by simp, hb, by omega⟩, KeptBut.refl _ _⟩
  have hlen := encU_10 n hn
  have hbn := lt_block hb
  generalize hall : encU n = all at *
  clear hb hall
  go_enter Try.func54, Try.ntmps54
  go_wp2_with fail
  go_loopw [3] (fun v wr => PRel w wr all .u64 36 (fun m => encU m.toNat) (fun m => 0 ≤ m) bn v) (fun _ wr => cellAbs wr bn)
  case atStart => exact R0
  case round =>
    obtain ⟨⟨mi, pre, q, c, rfl, hown, hpre, hcell, hok⟩, hkept⟩ := hrel
    obtain ⟨m, rfl⟩ := Int.eq_ofNat_of_zero_le hok
    by_cases hlt : m < 128
    · have hd : decide (m < 128) = true := decide_eq_true hlt
      go_wp2_with fail
      refine (putclo_any bn m hcell).mono ?_
      rintro e w2 ⟨rfl, hcell2, hg2⟩
      rw [hd]
      have hown2 := own_kept hown hg2 hbn
      have hkept2 := hkept.trans (.of_grown hg2 (by simp))
      have S := fun v' w3 h1 h2 => put_step (x := ((m % 128 : Nat) : Int)) (v' := v') (w3 := w3) hbn hown2 hcell2 hkept2 h1 h2
      have hz2 := hkept2.size
      have hall : all = pre ++ [((m % 128 : Nat) : Int)] := by rw [hpre, show ((m : Int)).toNat = m from by omega, encU_small hlt, Nat.mod_eq_of_lt hlt]
      have A := Lib.hid hall
      have hsz : pre.length + 1 ≤ 140737488355328 := by rw [hall] at hlen; simp at hlen; omega
      have SS := Lib.hid S
      have OA := Lib.hid (hown2.alloc (.cells #[.int .u8 (((m % 128 : Nat) : Int))] 5))
      have OB := Lib.hid (one_byte w2 (((m % 128 : Nat) : Int)) 5)
      have SZ := Lib.hid hsz
      have HZ := Lib.hid hz2
      clear hown2 hkept2 S hall hpre hown hcell hkept hcell2 hg2 hsz hz2 hd hlen
      generalize ((m % 128 : Nat) : Int) = x at *
      go_wp2_with (at_builtin; refine wp_append_bytes rfl _ _ rfl rfl _ _ _ rfl OA.out [x] 1 rfl rfl OB.out SZ.out ?_ ?_)
      · have := HZ.out; simp; omega
      · intro v' w3 h1 h2
        obtain ⟨⟨q', c', rfl, ho⟩, _, hk3⟩ := SS.out v' w3 h1 h2
        have E := Lib.hid (And.intro ho hk3)
        clear h1 h2 ho hk3
        go_wp2
        go_ret
        rw [A.out]
        exact ⟨⟨_, _, rfl, E.out.1⟩, E.out.2⟩
    · have hd : decide (m < 128) = false := decide_eq_false hlt
      go_wp2_with fail
      refine (putclo_any bn m hcell).mono ?_
      rintro e w2 ⟨rfl, hcell2, hg2⟩
      rw [hd]
      have hown2 := own_kept hown hg2 hbn
      have hkept2 := hkept.trans (.of_grown hg2 (by simp))
      have hor := u8_or128_right (((m % 128 : Nat) : Int)) (by omega) (by omega)
      have S := fun v' w3 h1 h2 => put_step (x := ((m % 128 : Nat) : Int) + 128) (v' := v') (w3 := w3) hbn hown2 hcell2 hkept2 h1 h2
      have hz2 := hkept2.size
      have hall : all = (pre ++ [((m % 128 : Nat) : Int) + 128]) ++ encU (((m / 128 : Nat) : Int)).toNat := by rw [hpre, show ((m : Int)).toNat = m from by omega, show (((m / 128 : Nat) : Int)).toNat = m / 128 from by omega, encU_big hlt]; simp
      have A := Lib.hid hall
      have hsz : pre.length + 1 ≤ 140737488355328 := by rw [hall] at hlen; simp at hlen; omega
      have M := Lib.hid (show ((m / 128 : Nat) : Int).natAbs < cellAbs wr bn from by unfold cellAbs; rw [show wr.cell? ⟨bn, 0, none⟩ = some (.int .u64 m) by rw [cell_of hcell]; rfl]; simp; omega)
      have SS := Lib.hid S
      have OA := Lib.hid (hown2.alloc (.cells #[.int .u8 (((m % 128 : Nat) : Int) + 128)] 5))
      have OB := Lib.hid (one_byte w2 (((m % 128 : Nat) : Int) + 128) 5)
      have SZ := Lib.hid hsz
      have HZ := Lib.hid hz2
      clear hown2 hkept2 S hall hpre hown hcell hkept hcell2 hg2 hsz hz2 hd hlen
      generalize ((m % 128 : Nat) : Int) = x at *
      go_wp2_with (at_builtin; refine wp_append_bytes rfl _ _ rfl rfl _ _ _ rfl OA.out [x + 128] 1 rfl rfl OB.out SZ.out ?_ ?_)
      · have := HZ.out; simp; omega
      · intro v' w3 h1 h2
        obtain ⟨⟨q', c', rfl, ho⟩, hc3, hk3⟩ := SS.out v' w3 h1 h2
        have hm : cellAbs w3 bn < cellAbs wr bn := by
          have := M.out
          unfold cellAbs at this ⊢
          rw [show w3.cell? ⟨bn, 0, none⟩ = some (.int .u64 ((m / 128 : Nat) : Int)) by rw [cell_of hc3]; rfl]
          exact this
        have R : PRel w w3 all .u64 36 (fun m => encU m.toNat) (fun m => 0 ≤ m) bn (.slice q' (pre ++ [x + 128]).length c') := ⟨⟨((m / 128 : Nat) : Int), _, q', c', rfl, ho, A.out, hc3, by omega⟩, hk3⟩
        have RR := Lib.hid R
        have MM := Lib.hid hm
        clear h1 h2 ho hk3 hc3 R hm
        go_wp2
        go_roundw
        case rel => exact RR.out
        case measure => exact MM.out
theorem own_base {w : World} {b b' : Nat} {v : Value} {n : Nat} {xs : List Value} (h : w.ownsRow b 5 1 v n xs) (hb : b' ≤ b) : w.ownsRow b' 5 1 v n xs := by
  refine ⟨h.1, ?_⟩
  rcases h.2 with h1 | ⟨g, cap, cur, hv, hgg, rest⟩
  · exact .inl h1
  · exact .inr ⟨g, cap, cur, hv, Nat.le_trans hb hgg, rest⟩
theorem put_below {w w2 : World} {o : Obj} (h : KeptBut (w.alloc o) w2 [w.heap.size]) : Below w.heap.size w w2 :=
  ⟨h.os, h.tape, h.output, by have := h.size; simp at this; omega, fun i hi => (h.block i (by simp; omega) (by simp; omega)).trans (heap_alloc_old _ _ (by omega))⟩
theorem putU_any (n : Nat) (hn : n < 18446744073709551616) (w : World) :
    Calls Try.prog 38 #[.int .u64 n] w fun e w' =>
      (∃ q c, e = .returned (.slice q (encU n).length c) ∧ w'.ownsRow w.heap.size 5 1 (.slice q (encU n).length c) (encU n).length ((encU n).map (Value.int .u8))) ∧ Below w.heap.size w w' := by
  have P := Lib.hid (putu_any w.heap.size n hn (heap_alloc_new w (.cells #[.int .u64 n] 36)))
  generalize encU n = all at *
  go_enter Try.func38, Try.ntmps38
  go_wp2_with fail
  refine P.out.mono ?_
  rintro e w2 ⟨⟨q, c, rfl, ho⟩, hk⟩
  have E := Lib.hid (And.intro (own_base (b' := w.heap.size) ho (by simp)) (put_below hk))
  clear ho hk
  go_wp2
  go_ret
  exact ⟨⟨_, _, rfl, E.out.1⟩, E.out.2⟩
end Go.Proofs.Ytbnnlbdjjpmgeaa


namespace Go.Proofs.Ytbnnlbdjjpmgeaa
open Go.RowKit

theorem encU_ne (n : Nat) : 0 < (encU n).length := by
  by_cases h : n < 128
  · rw [encU_small h]; simp
  · rw [encU_big h]; simp
theorem encU_range : ∀ k n : Nat, n < k → ∀ x ∈ encU n, 0 ≤ x ∧ x < 256 := by
  intro k
  induction k with
  | zero => intro n h; omega
  | succ k ih =>
    intro n hk x hx
    by_cases h : n < 128
    · rw [encU_small h] at hx
      have := List.mem_singleton.1 hx
      omega
    · rw [encU_big h] at hx
      rcases List.mem_cons.1 hx with e | e
      · omega
      · exact ih (n / 128) (by omega) x e
theorem encU_bytes (n : Nat) : ∀ x ∈ encU n, 0 ≤ x ∧ x < 256 := encU_range (n + 1) n (by omega)
theorem encU_mono : ∀ k n m : Nat, n < k → n ≤ m → (encU n).length ≤ (encU m).length := by
  intro k
  induction k with
  | zero => intro n m h; omega
  | succ k ih =>
    intro n m hk h
    by_cases hn : n < 128
    · rw [encU_small hn]; have := encU_ne m; simp; omega
    · rw [encU_big hn, encU_big (show ¬ m < 128 by omega)]
      have := ih (n / 128) (m / 128) (by omega) (by omega)
      simpa using this
end Go.Proofs.Ytbnnlbdjjpmgeaa


namespace Go.Proofs.Ytbnnlbdjjpmgeaa

theorem szN_encU : ∀ (k n : Nat) (r : List Int), (encU n).length ≤ k → szN k (encU n ++ r) = (encU n).length := by
  intro k
  induction k with
  | zero => intro n r h; have := encU_ne n; omega
  | succ k ih =>
    intro n r h
    by_cases h1 : n < 128
    · rw [encU_small h1]
      simp only [List.cons_append, List.nil_append, szN, List.length_cons, List.length_nil]
      rw [if_pos (by omega)]
    · rw [encU_big h1] at h ⊢
      simp only [List.length_cons] at h
      have := ih (n / 128) r (by omega)
      have hne := encU_ne (n / 128)
      simp only [List.cons_append, szN, List.length_cons, this]
      rw [if_neg (by omega), if_neg (by omega)]
theorem valN_encU : ∀ (k n : Nat), n < k → valN (encU n) = n := by
  intro k
  induction k with
  | zero => intro n h; omega
  | succ k ih =>
    intro n h
    by_cases h1 : n < 128
    · rw [encU_small h1]; simp only [valN]; omega
    · rw [encU_big h1]
      simp only [valN]
      rw [ih (n / 128) (by omega)]; omega
theorem uleb_enc (n : Nat) (r : List Int) (hn : n < 18446744073709551616) : ulebN (encU n ++ r) = ((n : Int), (encU n).length) := by
  have hs := szN_encU 10 n r (encU_10 n hn)
  refine uleb_yes hs ?_ (by omega)
  rw [List.take_left' rfl, valN_encU (n + 1) n (by omega)]
end Go.Proofs.Ytbnnlbdjjpmgeaa


namespace Go.Proofs.Ytbnnlbdjjpmgeaa
open Go.RowKit

def Reads {α : Type} (f : Ps α) (a : List Int) (v : α) : Prop := ∀ r, f (a ++ r) = some (v, a.length)
section
variable {α β : Type} {f : Ps α} {g : α → Ps β} {a b : List Int} {v : α} {u : β}
theorem Reads.ret (v : α) : Reads (psR v) [] v := fun _ => rfl
theorem Reads.bind (h : Reads f a v) (k : Reads (g v) b u) : Reads (psB f g) (a ++ b) u := fun r => by
  unfold psB
  rw [List.append_assoc, h (b ++ r)]
  simp only [List.drop_left]
  rw [k r]
  simp [List.length_append]
theorem Reads.then0 (h : Reads f a v) (k : Reads (g v) [] u) : Reads (psB f g) a u := by
  have := h.bind k
  rw [List.append_nil] at this
  exact this
theorem Reads.sz (h : Reads f a v) : Reads (psZ f (a.length : Int)) a v := fun r => by
  unfold psZ
  rw [h r]
  simp
theorem reads_ul {n : Nat} (hn : n < 18446744073709551616) : Reads ulP (encU n) (n : Int) := fun r => by
  unfold ulP
  rw [uleb_enc n r hn]
  have := encU_ne n
  simp only []
  rw [if_neg (by omega)]
theorem reads_ulI {n : Int} (h0 : 0 ≤ n) (hn : n < 18446744073709551616) : Reads ulP (encU n.toNat) n := by
  have := reads_ul (n := n.toNat) (by omega)
  rw [show ((n.toNat : Nat) : Int) = n by omega] at this
  exact this
theorem pre_zero : ∀ {s : List Int} (r : List Int), (0 : Int) ∉ s → pre (s ++ 0 :: r) = s
  | [], r, _ => by simp [pre]
  | x :: s, r, h => by
    simp only [List.cons_append, pre]
    rw [if_neg (fun e => h (by rw [e]; exact List.mem_cons_self ..)), pre_zero r (fun e => h (List.mem_cons_of_mem _ e))]
theorem reads_tx {s : List Int} (h0 : (0 : Int) ∉ s) (hl : s.length ≤ 255) : Reads txP (s ++ [0]) s := fun r => by
  unfold txP
  rw [List.append_assoc, List.singleton_append, pre_zero r h0, if_pos ⟨by simp, hl⟩]
  simp
theorem reads_by (x : Int) : Reads byP [x] x := fun _ => rfl
end

def flagN (x : Ex) : Nat := (if x.weak = true then 4 else 0) + (if x.kind = 2 then 2 else if x.kind = 3 then 8 else if x.kind = 4 then 16 else 0)
def saidB (x : Ex) : List Int := encU (flagN x) ++
  (if x.kind = 3 then encU x.ordinal.toNat ++ (x.other ++ [0]) else if x.kind = 4 then encU x.value.toNat ++ encU x.resolver.toNat else encU x.value.toNat)
structure ExOk (x : Ex) : Prop where
  value : 0 ≤ x.value ∧ x.value < 18446744073709551616
  resolver : 0 ≤ x.resolver ∧ x.resolver < 18446744073709551616
  ordinal : 0 ≤ x.ordinal ∧ x.ordinal < 18446744073709551616
  other : Byt x.other
  may : kindM x = true
  text : textM x.other = true
theorem sayK_0 (w : Bool) : sayK (((if w = true then 4 else 0) + 0 : Nat) : Int) = psB ulP fun v => psR ⟨1, w, v, 0, 0, []⟩ := by cases w <;> simp [sayK, knN, wkN]
theorem sayK_2 (w : Bool) : sayK (((if w = true then 4 else 0) + 2 : Nat) : Int) = psB ulP fun v => psR ⟨2, w, v, 0, 0, []⟩ := by cases w <;> simp [sayK, knN, wkN]
theorem sayK_8 (w : Bool) : sayK (((if w = true then 4 else 0) + 8 : Nat) : Int) = psB ulP fun o => psB txP fun t => psR ⟨3, w, 0, 0, o, t⟩ := by cases w <;> simp [sayK, knN, wkN]
theorem sayK_16 (w : Bool) : sayK (((if w = true then 4 else 0) + 16 : Nat) : Int) = psB ulP fun v => psB ulP fun r => psR ⟨4, w, v, r, 0, []⟩ := by cases w <;> simp [sayK, knN, wkN]
theorem reads_say {x : Ex} (h : ExOk x) : Reads sayP (saidB x) x := by
  obtain ⟨hv, hr, ho, -, hm, ht⟩ := h
  obtain ⟨kind, weak, value, resolver, ordinal, other⟩ := x
  simp only [] at hv hr ho hm ht
  unfold textM at ht
  rw [Bool.and_eq_true, decide_eq_true_eq, decide_eq_true_eq] at ht
  have hf : flagN ⟨kind, weak, value, resolver, ordinal, other⟩ < 18446744073709551616 := by
    unfold flagN; simp only []; split <;> split <;> (try split) <;> (try split) <;> omega
  unfold saidB
  refine (reads_ul hf).bind ?_
  unfold kindM at hm
  simp only [] at hm
  split at hm
  · rename_i hk
    rw [Bool.and_eq_true, Bool.and_eq_true, decide_eq_true_eq, decide_eq_true_eq, decide_eq_true_eq] at hm
    obtain ⟨⟨h1, h2⟩, h3⟩ := hm
    subst h1 h2 h3
    rcases hk with rfl | rfl
    · show Reads (sayK (((if weak = true then 4 else 0) + 0 : Nat) : Int)) (encU value.toNat) _
      rw [sayK_0]
      exact Reads.then0 (reads_ulI hv.1 hv.2) (Reads.ret _)
    · show Reads (sayK (((if weak = true then 4 else 0) + 2 : Nat) : Int)) (encU value.toNat) _
      rw [sayK_2]
      exact Reads.then0 (reads_ulI hv.1 hv.2) (Reads.ret _)
  split at hm
  · rename_i hk
    rw [Bool.and_eq_true, decide_eq_true_eq, decide_eq_true_eq] at hm
    obtain ⟨h1, h2⟩ := hm
    subst h1 h2 hk
    show Reads (sayK (((if weak = true then 4 else 0) + 8 : Nat) : Int)) (encU ordinal.toNat ++ (other ++ [0])) _
    rw [sayK_8]
    exact Reads.bind (reads_ulI ho.1 ho.2) (Reads.then0 (reads_tx ht.2 ht.1) (Reads.ret _))
  split at hm
  · rename_i hk
    rw [Bool.and_eq_true, decide_eq_true_eq, decide_eq_true_eq] at hm
    obtain ⟨h1, h2⟩ := hm
    subst h1 h2 hk
    show Reads (sayK (((if weak = true then 4 else 0) + 16 : Nat) : Int)) (encU value.toNat ++ encU resolver.toNat) _
    rw [sayK_16]
    exact Reads.bind (reads_ulI hv.1 hv.2) (Reads.then0 (reads_ulI hr.1 hr.2) (Reads.ret _))
  · cases hm
structure PN where
  says : Option Ex
  kids : List (List Int × Nat)
def frontB : Option Ex → List Int
  | none => [0]
  | some x => encU (saidB x).length ++ saidB x
def kidB (pl : List Nat) (k : List Int × Nat) : List Int := (k.1 ++ [0]) ++ encU (pl.getD k.2 0)
def nodeB (pl : List Nat) (nd : PN) : List Int := frontB nd.says ++ ([(nd.kids.length : Int)] ++ nd.kids.flatMap (kidB pl))
def kidOf (pl : List Nat) (k : List Int × Nat) : Kid := (k.1, ((pl.getD k.2 0 : Nat) : Int))
def ndOf (pl : List Nat) (nd : PN) : Nd := ⟨nd.says, nd.kids.map (kidOf pl)⟩
structure EdgeOk (e : List Int) : Prop where
  ne : e ≠ []
  zero : (0 : Int) ∉ e
  len : e.length ≤ 255
  byt : Byt e
structure PnOk (nd : PN) : Prop where
  says : ∀ x, nd.says = some x → ExOk x
  edge : ∀ k ∈ nd.kids, EdgeOk k.1
  apart : nd.kids.Pairwise fun a b => a.1.getD 0 0 ≠ b.1.getD 0 0
theorem reads_kids {pl : List Nat} (hp : ∀ i, pl.getD i 0 < 18446744073709551616) : ∀ (kids : List (List Int × Nat)) (acc : List Kid), (∀ k ∈ kids, EdgeOk k.1) → (kids.Pairwise fun a b => a.1.getD 0 0 ≠ b.1.getD 0 0) → (∀ k ∈ kids, ∀ a ∈ acc, a.1.getD 0 0 ≠ k.1.getD 0 0) →
    Reads (kidsP kids.length acc) (kids.flatMap (kidB pl)) (acc ++ kids.map (kidOf pl)) := by
  intro kids
  induction kids with
  | nil =>
    intro acc _ _ _
    rw [List.map_nil, List.append_nil]
    exact Reads.ret _
  | cons k kids ih =>
    intro acc he ha hm
    have hk := he k (List.mem_cons_self ..)
    rw [List.flatMap_cons, List.length_cons]
    unfold kidsP kidB
    rw [List.append_assoc]
    refine Reads.bind (reads_tx hk.zero hk.len) (Reads.bind (reads_ul (hp k.2)) ?_)
    have hme : meets k.1 acc = false := by
      unfold meets
      rw [List.any_eq_false]
      intro a hac
      have := hm k (List.mem_cons_self ..) a hac
      simpa using this
    rw [if_neg (by rw [hme]; simp [hk.ne])]
    have h := ih (acc ++ [kidOf pl k]) (fun x hx => he x (List.mem_cons_of_mem _ hx)) (List.pairwise_cons.1 ha).2 (fun x hx a hac => by
      rcases List.mem_append.1 hac with h | h
      · exact hm x (List.mem_cons_of_mem _ hx) a h
      · rw [List.mem_singleton.1 h]
        exact (List.pairwise_cons.1 ha).1 x hx)
    rw [List.append_assoc, List.singleton_append] at h
    rw [List.map_cons]
    exact h
theorem saidB_pos (x : Ex) : 0 < (saidB x).length := by
  unfold saidB
  rw [List.length_append]
  have := encU_ne (flagN x)
  omega
theorem reads_front {o : Option Ex} (h : ∀ x, o = some x → ExOk x ∧ (saidB x).length < 18446744073709551616) : Reads (psB ulP exP) (frontB o) o := by
  cases o with
  | none =>
    have h0 : Reads ulP (encU 0) ((0 : Nat) : Int) := reads_ul (by decide)
    rw [show encU 0 = [0] by rw [encU_small (by decide)]; rfl] at h0
    exact Reads.then0 h0 (Reads.ret _)
  | some x =>
    obtain ⟨h1, h2⟩ := h x rfl
    refine Reads.bind (reads_ul h2) ?_
    unfold exP
    have := saidB_pos x
    rw [if_neg (by omega)]
    exact Reads.then0 (Reads.sz (reads_say h1)) (Reads.ret _)
theorem psB_assoc {α β γ : Type} (f : Ps α) (g : α → Ps β) (h : β → Ps γ) : psB f (fun a => psB (g a) h) = psB (psB f g) h := by
  funext l
  unfold psB
  cases h1 : f l with
  | none => rfl
  | some a =>
    obtain ⟨v, n⟩ := a
    simp only []
    cases h2 : g v (l.drop n) with
    | none => rfl
    | some b =>
      obtain ⟨u, m⟩ := b
      simp only []
      rw [List.drop_drop]
      cases h3 : h u (l.drop (n + m)) with
      | none => rfl
      | some c => obtain ⟨t, j⟩ := c; simp [Nat.add_assoc]
theorem reads_node {pl : List Nat} (hp : ∀ i, pl.getD i 0 < 18446744073709551616) {nd : PN} (h : PnOk nd) (hs : ∀ x, nd.says = some x → (saidB x).length < 18446744073709551616) : Reads nodeP (nodeB pl nd) (ndOf pl nd) := by
  have e : nodeP = psB (psB ulP exP) fun x => psB byP fun m => psB (kidsP m.toNat []) fun k => psR ⟨x, k⟩ := by
    unfold nodeP
    exact psB_assoc ulP exP _
  rw [e]
  unfold nodeB
  refine Reads.bind (reads_front (fun x hx => ⟨h.says x hx, hs x hx⟩)) (Reads.bind (reads_by _) (Reads.then0 (u := ndOf pl nd) ?_ (Reads.ret _)))
  have := reads_kids hp nd.kids [] h.edge h.apart (fun k _ a ha => by cases ha)
  rw [List.nil_append] at this
  exact this
end Go.Proofs.Ytbnnlbdjjpmgeaa


namespace Go.Proofs.Ytbnnlbdjjpmgeaa
open Go.RowKit

def lcpN : List Int → List Int → Nat
  | x :: a, y :: b => if x = y then lcpN a b + 1 else 0
  | _, _ => 0
theorem lcp_take : ∀ (a b : List Int), a.take (lcpN a b) = b.take (lcpN a b) ∧ lcpN a b ≤ a.length ∧ lcpN a b ≤ b.length
  | [], b => by cases b <;> simp [lcpN]
  | x :: a, [] => by simp [lcpN]
  | x :: a, y :: b => by
    unfold lcpN
    split
    · rename_i h
      have := lcp_take a b
      subst h
      refine ⟨?_, ?_, ?_⟩
      · simp only [List.take_succ_cons]; rw [this.1]
      · simp only [List.length_cons]; omega
      · simp only [List.length_cons]; omega
    · simp
theorem lcp_ge : ∀ (n : Nat) (a b : List Int), a.take n = b.take n → n ≤ a.length → n ≤ b.length → n ≤ lcpN a b
  | 0, _, _, _, _, _ => Nat.zero_le _
  | n + 1, [], _, _, h, _ => by simp at h
  | n + 1, _ :: _, [], _, _, h => by simp at h
  | n + 1, x :: a, y :: b, h, h1, h2 => by
    simp only [List.take_succ_cons, List.cons.injEq] at h
    unfold lcpN
    rw [if_pos h.1]
    have := lcp_ge n a b h.2 (by simpa using h1) (by simpa using h2)
    omega
theorem nmLt_app (p : List Int) : ∀ (a b : List Int), nmLt (p ++ a) (p ++ b) = nmLt a b := by
  induction p with
  | nil => intro a b; rfl
  | cons x p ih =>
    intro a b
    simp only [List.cons_append, nmLt]
    rw [if_neg (by omega), if_neg (by omega)]
    exact ih a b
theorem nmLt_pre (p s : List Int) : nmLt (p ++ s) p = false := by
  have := nmLt_app p s []
  rw [List.append_nil] at this
  rw [this]
  cases s <;> rfl
theorem between : ∀ (n : Nat) {a x b : List Int}, nmLt a x = true → nmLt x b = true → a.take n = b.take n → n ≤ a.length → x.take n = a.take n ∧ n ≤ x.length
  | 0, _, _, _, _, _, _, _ => by simp
  | n + 1, [], _, _, _, _, _, h => by simp at h
  | n + 1, c :: a, [], b, h1, _, _, _ => by simp [nmLt] at h1
  | n + 1, c :: a, d :: x, [], _, h2, _, _ => by simp [nmLt] at h2
  | n + 1, c :: a, d :: x, f :: b, h1, h2, h3, h4 => by
    simp only [List.take_succ_cons, List.cons.injEq] at h3
    obtain ⟨e, h3⟩ := h3
    subst e
    unfold nmLt at h1 h2
    have hcd : d = c := by
      by_cases h5 : c < d
      · have h6 : ¬ d < c := by omega
        rw [if_neg h6, if_pos h5] at h2
        cases h2
      · by_cases h7 : d < c
        · rw [if_neg h5, if_pos h7] at h1
          cases h1
        · omega
    subst hcd
    rw [if_neg (by omega), if_neg (by omega)] at h1 h2
    have := between n h1 h2 h3 (by simpa using h4)
    exact ⟨by simp only [List.take_succ_cons]; rw [this.1], by simpa using this.2⟩
structure Rise (p : List Int) (l : Out) : Prop where
  pre : ∀ y ∈ l, ∃ s, y.1 = p ++ s
  up : l.Pairwise fun a b => nmLt a.1 b.1 = true
structure RiseL (p : List Int) (l : Out) : Prop where
  pre : ∀ y ∈ l, ∃ c s, y.1 = p ++ c :: s
  up : l.Pairwise fun a b => nmLt a.1 b.1 = true
theorem Rise.rest {p : List Int} {y : List Int × Ex} {l : Out} (h : Rise p (y :: l)) (hy : y.1.length = p.length) : y.1 = p ∧ RiseL p l := by
  obtain ⟨s, hs⟩ := h.pre y (List.mem_cons_self ..)
  have hyp : y.1 = p := by
    have : s = [] := by
      apply List.eq_nil_of_length_eq_zero
      have := congrArg List.length hs
      rw [List.length_append] at this
      omega
    rw [hs, this, List.append_nil]
  refine ⟨hyp, ⟨fun z hz => ?_, (List.pairwise_cons.1 h.up).2⟩⟩
  obtain ⟨t, ht⟩ := h.pre z (List.mem_cons_of_mem _ hz)
  cases t with
  | nil =>
    have := (List.pairwise_cons.1 h.up).1 z hz
    rw [hyp, ht, List.append_nil, nmLt_irrefl] at this
    cases this
  | cons c t => exact ⟨c, t, ht⟩
theorem Rise.all {p : List Int} {y : List Int × Ex} {l : Out} (h : Rise p (y :: l)) (hy : y.1.length ≠ p.length) : RiseL p (y :: l) := by
  refine ⟨fun z hz => ?_, h.up⟩
  obtain ⟨t, ht⟩ := h.pre z hz
  cases t with
  | nil =>
    rcases List.mem_cons.1 hz with e | hz
    · rw [e] at ht; exact absurd (by rw [ht, List.append_nil]) hy
    · have h1 := (List.pairwise_cons.1 h.up).1 z hz
      obtain ⟨s, hs⟩ := h.pre y (List.mem_cons_self ..)
      rw [ht, hs, List.append_nil, nmLt_pre] at h1
      cases h1
  | cons c t => exact ⟨c, t, ht⟩
def sameAt (n : Nat) (a b : List Int × Ex) : Bool := decide (b.1.getD n 0 = a.1.getD n 0)
def alikeN (n : Nat) : Out → Nat
  | [] => 0
  | y :: l => ((y :: l).takeWhile (sameAt n y)).length
theorem alike_pos {n : Nat} {y : List Int × Ex} {l : Out} : 1 ≤ alikeN n (y :: l) ∧ alikeN n (y :: l) ≤ (y :: l).length := by
  show 1 ≤ ((y :: l).takeWhile (sameAt n y)).length ∧ ((y :: l).takeWhile (sameAt n y)).length ≤ (y :: l).length
  constructor
  · rw [List.takeWhile_cons]
    have : sameAt n y y = true := by simp [sameAt]
    rw [this]
    simp
  · exact (List.takeWhile_sublist _).length_le
theorem take_while {α : Type} (f : α → Bool) : ∀ (l : List α), l.take (l.takeWhile f).length = l.takeWhile f ∧ l.drop (l.takeWhile f).length = l.dropWhile f
  | [] => ⟨rfl, rfl⟩
  | x :: l => by
    have ih := take_while f l
    simp only [List.takeWhile_cons, List.dropWhile_cons]
    split
    · simp only [List.length_cons, List.take_succ_cons, List.drop_succ_cons]
      exact ⟨by rw [ih.1], ih.2⟩
    · simp
theorem at_pre (p : List Int) (c : Int) (s : List Int) : (p ++ c :: s).getD p.length 0 = c := by
  simp [List.getD]
theorem RiseL.split {p : List Int} {y : List Int × Ex} {l : Out} (h : RiseL p (y :: l)) :
    (∀ z ∈ (y :: l).take (alikeN p.length (y :: l)), z.1.getD p.length 0 = y.1.getD p.length 0) ∧ (∀ z ∈ (y :: l).drop (alikeN p.length (y :: l)), y.1.getD p.length 0 < z.1.getD p.length 0) ∧ RiseL p ((y :: l).take (alikeN p.length (y :: l))) ∧ RiseL p ((y :: l).drop (alikeN p.length (y :: l))) := by
  have tw := take_while (sameAt p.length y) (y :: l)
  refine ⟨fun z hz => ?_, fun z hz => ?_, ⟨fun z hz => h.pre z (List.mem_of_mem_take hz), h.up.sublist (List.take_sublist ..)⟩, ⟨fun z hz => h.pre z (List.mem_of_mem_drop hz), h.up.sublist (List.drop_sublist ..)⟩⟩
  · unfold alikeN at hz
    rw [tw.1] at hz
    have := List.all_takeWhile (p := sameAt p.length y) (l := y :: l)
    rw [List.all_eq_true] at this
    have := this z hz
    simpa [sameAt] using this
  · unfold alikeN at hz
    rw [tw.2] at hz
    -- the first one that is left differs; those behind it are not below it
    have hord : ∀ {a b : List Int × Ex}, a ∈ y :: l → b ∈ y :: l → nmLt a.1 b.1 = true → a.1.getD p.length 0 ≤ b.1.getD p.length 0 := by
      intro a b ha hb hlt
      obtain ⟨c, s, e1⟩ := h.pre a ha
      obtain ⟨d, t, e2⟩ := h.pre b hb
      rw [e1, e2, nmLt_app] at hlt
      rw [e1, e2, at_pre, at_pre]
      unfold nmLt at hlt
      by_cases h5 : c < d
      · omega
      · by_cases h6 : d < c
        · rw [if_neg h5, if_pos h6] at hlt; cases hlt
        · omega
    have hsub : ((y :: l).dropWhile (sameAt p.length y)).Sublist (y :: l) := List.dropWhile_sublist _
    cases hd : (y :: l).dropWhile (sameAt p.length y) with
    | nil => rw [hd] at hz; cases hz
    | cons x m =>
      have hx : sameAt p.length y x = false := by
        have := List.head_dropWhile_not (p := sameAt p.length y) (l := y :: l) (by rw [hd]; simp)
        simpa [hd] using this
      have hxm : x ∈ y :: l := hsub.mem (by rw [hd]; exact List.mem_cons_self ..)
      have hxy : x ≠ y := by rintro rfl; simp [sameAt] at hx
      have hyx : nmLt y.1 x.1 = true := by
        rcases List.mem_cons.1 hxm with e | e
        · exact absurd e hxy
        · exact (List.pairwise_cons.1 h.up).1 x e
      have h1 := hord (List.mem_cons_self ..) hxm hyx
      have h2 : y.1.getD p.length 0 < x.1.getD p.length 0 := by
        have : ¬ x.1.getD p.length 0 = y.1.getD p.length 0 := by simpa [sameAt] using hx
        omega
      rw [hd] at hz hsub
      rcases List.mem_cons.1 hz with e | e
      · rw [e]; exact h2
      · have hup := h.up.sublist hsub
        have h3 := (List.pairwise_cons.1 hup).1 z e
        have := hord hxm (hsub.mem (List.mem_cons_of_mem _ e)) h3
        omega
end Go.Proofs.Ytbnnlbdjjpmgeaa


namespace Go.Proofs.Ytbnnlbdjjpmgeaa
open Go.RowKit

def lastN (l : Out) : List Int := ((l.getLast?).map Prod.fst).getD []
theorem last_of {l : Out} (hl : l ≠ []) (hu : l.Pairwise fun a b => nmLt a.1 b.1 = true) : ∃ z ∈ l, lastN l = z.1 ∧ ∀ x ∈ l, x = z ∨ nmLt x.1 z.1 = true := by
  refine ⟨l.getLast hl, List.getLast_mem hl, ?_, ?_⟩
  · unfold lastN
    rw [List.getLast?_eq_some_getLast hl]
    rfl
  · intro x hx
    have e := List.dropLast_concat_getLast hl
    rw [← e] at hx hu
    rcases List.mem_append.1 hx with h | h
    · right
      exact (List.pairwise_append.1 hu).2.2 x h _ (List.mem_cons_self ..)
    · left
      exact List.mem_singleton.1 h
theorem RiseL.group {p : List Int} {y : List Int × Ex} {l : Out} (h : RiseL p (y :: l)) :
    let g := (y :: l).take (alikeN p.length (y :: l))
    p.length < lcpN y.1 (lastN g) ∧ lcpN y.1 (lastN g) ≤ y.1.length ∧ p <+: y.1.take (lcpN y.1 (lastN g)) ∧ Rise (y.1.take (lcpN y.1 (lastN g))) g := by
  intro g
  obtain ⟨h1, -, h3, -⟩ := h.split
  have hap := alike_pos (n := p.length) (y := y) (l := l)
  have hyg : y ∈ g := by
    show y ∈ (y :: l).take _
    obtain ⟨k, hk⟩ : ∃ k, alikeN p.length (y :: l) = k + 1 := ⟨_, (Nat.succ_pred_eq_of_pos hap.1).symm⟩
    rw [hk, List.take_succ_cons]
    exact List.mem_cons_self ..
  have hfirst : ∀ x ∈ g, x = y ∨ nmLt y.1 x.1 = true := fun x hx => by
    rcases List.mem_cons.1 (List.mem_of_mem_take hx) with e | e
    · exact .inl e
    · exact .inr ((List.pairwise_cons.1 h.up).1 x e)
  obtain ⟨z, hz, hzl, hzo⟩ := last_of (l := g) (List.ne_nil_of_mem hyg) h3.up
  have hyz := hfirst z hz
  obtain ⟨c, s, e1⟩ := h3.pre y hyg
  obtain ⟨d, t, e2⟩ := h3.pre z hz
  have hcd : d = c := by
    have := h1 z hz
    rw [e1, e2, at_pre, at_pre] at this
    exact this
  subst hcd
  have hge : p.length + 1 ≤ lcpN y.1 (lastN g) := by
    rw [hzl]
    refine lcp_ge _ _ _ ?_ (by rw [e1]; simp) (by rw [e2]; simp)
    rw [e1, e2, List.take_append, List.take_append]
    simp
  have hlt := lcp_take y.1 (lastN g)
  refine ⟨hge, hlt.2.1, ?_, ?_, h3.up⟩
  · rw [e1]
    refine ⟨((d :: s).take (lcpN (p ++ d :: s) (lastN g) - p.length)), ?_⟩
    rw [List.take_append, List.take_of_length_le (l := p) (by rw [← e1]; omega)]
  · intro x hx
    have key : x.1.take (lcpN y.1 (lastN g)) = y.1.take (lcpN y.1 (lastN g)) := by
      rcases hfirst x hx with e | hyx
      · rw [e]
      · rcases hzo x hx with e | hxz
        · rw [e, ← hzl]; exact hlt.1.symm
        · exact (between _ hyx hxz (by rw [← hzl]; exact hlt.1) hlt.2.1).1
    exact ⟨x.1.drop (lcpN y.1 (lastN g)), by rw [← key]; exact (List.take_append_drop _ _).symm⟩
def ownN (size : Nat) : Out → Option Ex
  | [] => none
  | y :: _ => if y.1.length = size then some y.2 else none
def restN (size : Nat) : Out → Out
  | [] => []
  | y :: l => if y.1.length = size then l else y :: l
def planK (rec : Out → Nat → Nat → List PN) : Nat → Out → Nat → Nat → List (List Int × Nat) × List PN
  | 0, _, _, _ => ([], [])
  | _ + 1, [], _, _ => ([], [])
  | n + 1, y :: l, size, base =>
    let g := (y :: l).take (alikeN size (y :: l))
    let e := lcpN y.1 (lastN g)
    let sub := rec g e base
    let r := planK rec n ((y :: l).drop (alikeN size (y :: l))) size (base + sub.length)
    (((y.1.drop size).take (e - size), base) :: r.1, sub ++ r.2)
def plan : Nat → Out → Nat → Nat → List PN
  | 0, _, _, _ => []
  | k + 1, l, size, base =>
    let r := planK (plan k) (restN size l).length (restN size l) size (base + 1)
    ⟨ownN size l, r.1⟩ :: r.2
theorem Rise.own {p : List Int} {l : Out} (h : Rise p l) (hl : l ≠ []) : RiseL p (restN p.length l) ∧ (match ownN p.length l with | none => restN p.length l = l | some x => l = (p, x) :: restN p.length l) := by
  cases l with
  | nil => exact absurd rfl hl
  | cons y l =>
    have e1 : ownN p.length (y :: l) = if y.1.length = p.length then some y.2 else none := rfl
    have e2 : restN p.length (y :: l) = if y.1.length = p.length then l else y :: l := rfl
    rw [e1, e2]
    by_cases hy : y.1.length = p.length
    · rw [if_pos hy, if_pos hy]
      obtain ⟨h1, h2⟩ := h.rest hy
      refine ⟨h2, ?_⟩
      show y :: l = (p, y.2) :: l
      rw [← h1]
    · rw [if_neg hy, if_neg hy]
      exact ⟨h.all hy, rfl⟩
section
variable {xs : List Int} {pl : List Nat} {nodes : List PN}
theorem walk_made (hnd : ∀ i nd, nodes[i]? = some nd → ndAt xs ((pl.getD i 0 : Nat) : Int) = some (ndOf pl nd)) (hinc : ∀ i j, i < j → j < nodes.length → pl.getD i 0 < pl.getD j 0) :
    ∀ (k : Nat) (l : Out) (p : List Int) (base : Nat) (pre post : List PN) (way : List Int) (m : Nat) (out : Out) (v : Nat), l ≠ [] → Rise p l → (∀ y ∈ l, y.1.length ≤ 255) → 257 ≤ k + p.length → nodes = pre ++ plan k l p.length base ++ post → pre.length = base → 257 ≤ v + p.length →
      (∀ q ∈ way, ∃ i, i < base ∧ q = ((pl.getD i 0 : Nat) : Int)) → m + (plan k l p.length base).length ≤ 8192 → out.length + l.length ≤ 4096 →
      vis xs mtAll v way p ((pl.getD base 0 : Nat) : Int) (m, out) = (0, (m + (plan k l p.length base).length, out ++ l)) := by
  intro k
  induction k with
  | zero =>
    intro l p base pre post way m out v hl hr h255 hk
    cases l with
    | nil => exact absurd rfl hl
    | cons y l =>
      obtain ⟨s, hs⟩ := hr.pre y (List.mem_cons_self ..)
      have h1 := h255 y (List.mem_cons_self ..)
      rw [hs, List.length_append] at h1
      omega
  | succ k ih =>
    intro l p base pre post way m out v hl hr h255 hk hnodes hpre hv hway hm hout
    have hp255 : p.length ≤ 255 := by
      cases l with
      | nil => exact absurd rfl hl
      | cons y l =>
        obtain ⟨s, hs⟩ := hr.pre y (List.mem_cons_self ..)
        have h1 := h255 y (List.mem_cons_self ..)
        rw [hs, List.length_append] at h1
        omega
    obtain ⟨v, rfl⟩ : ∃ v', v = v' + 1 := ⟨v - 1, by omega⟩
    obtain ⟨hrl, hown⟩ := hr.own hl
    have hrest255 : ∀ y ∈ restN p.length l, y.1.length ≤ 255 := by
      intro y hy
      cases ho : ownN p.length l with
      | none => rw [ho] at hown; rw [hown] at hy; exact h255 y hy
      | some x => rw [ho] at hown; exact h255 y (by rw [hown]; exact List.mem_cons_of_mem _ hy)
    -- the children, one group after the other
    have kidsW : ∀ (n : Nat) (l2 : Out) (base2 : Nat) (pre2 post2 : List PN) (m2 : Nat) (out2 : Out), l2.length ≤ n → RiseL p l2 → (∀ y ∈ l2, y.1.length ≤ 255) → nodes = pre2 ++ (planK (plan k) n l2 p.length base2).2 ++ post2 → pre2.length = base2 → base < base2 →
        m2 + (planK (plan k) n l2 p.length base2).2.length ≤ 8192 → out2.length + l2.length ≤ 4096 →
        visK (vis xs mtAll v (way ++ [((pl.getD base 0 : Nat) : Int)])) p ((planK (plan k) n l2 p.length base2).1.map (kidOf pl)) 0 (m2, out2) = (0, (m2 + (planK (plan k) n l2 p.length base2).2.length, out2 ++ l2)) := by
      intro n
      induction n with
      | zero =>
        intro l2 base2 pre2 post2 m2 out2 hl2 _ _ _ _ _ _ _
        have : l2 = [] := List.eq_nil_of_length_eq_zero (by omega)
        subst this
        simp [planK, visK]
      | succ n ihn =>
        intro l2 base2 pre2 post2 m2 out2 hl2 hr2 h2 hn2 hp2 hb hm2 ho2
        cases l2 with
        | nil => simp [planK, visK]
        | cons y l2 =>
          obtain ⟨g1, g2, g3, g4⟩ := hr2.group
          obtain ⟨-, -, -, s4⟩ := hr2.split
          have hap := alike_pos (n := p.length) (y := y) (l := l2)
          obtain ⟨A, hA⟩ : ∃ A, A = alikeN p.length (y :: l2) := ⟨_, rfl⟩
          rw [← hA] at g1 g2 g3 g4 s4 hap
          obtain ⟨e, he⟩ : ∃ e, e = lcpN y.1 (lastN ((y :: l2).take A)) := ⟨_, rfl⟩
          rw [← he] at g1 g2 g3 g4
          have hstep : planK (plan k) (n + 1) (y :: l2) p.length base2 = (((y.1.drop p.length).take (e - p.length), base2) :: (planK (plan k) n ((y :: l2).drop A) p.length (base2 + (plan k ((y :: l2).take A) e base2).length)).1, plan k ((y :: l2).take A) e base2 ++ (planK (plan k) n ((y :: l2).drop A) p.length (base2 + (plan k ((y :: l2).take A) e base2).length)).2) := by
            rw [he, hA]
            rfl
          rw [hstep] at hn2 hm2 ⊢
          simp only [] at hn2 hm2 ⊢
          have hlen : (y.1.take e).length = e := by rw [List.length_take]; omega
          have hname : p ++ (y.1.drop p.length).take (e - p.length) = y.1.take e := by
            obtain ⟨c, s, e1⟩ := hr2.pre y (List.mem_cons_self ..)
            rw [e1, List.drop_left, List.take_append, List.take_of_length_le (l := p) (by omega)]
          have hgne : (y :: l2).take A ≠ [] := by
            obtain ⟨A', rfl⟩ : ∃ A', A = A' + 1 := ⟨A - 1, by omega⟩
            simp
          obtain ⟨sub, hsub⟩ : ∃ sub, sub = plan k ((y :: l2).take A) e base2 := ⟨_, rfl⟩
          have hsub2 : plan k ((y :: l2).take A) (y.1.take e).length base2 = sub := by rw [hlen, hsub]
          rw [← hsub] at hn2 hm2 ⊢
          rw [List.length_append] at hm2 ⊢
          have W := ih ((y :: l2).take A) (y.1.take e) base2 pre2 ((planK (plan k) n ((y :: l2).drop A) p.length (base2 + sub.length)).2 ++ post2) (way ++ [((pl.getD base 0 : Nat) : Int)]) m2 out2 v hgne g4 (fun x hx => h2 x (List.mem_of_mem_take hx)) (by rw [hlen]; omega) (by rw [hsub2, hn2]; simp) hp2 (by rw [hlen]; omega) (by
              intro q hq
              rcases List.mem_append.1 hq with h | h
              · obtain ⟨i, hi, e⟩ := hway q h
                exact ⟨i, by omega, e⟩
              · rw [List.mem_singleton.1 h]
                exact ⟨base, hb, rfl⟩) (by rw [hsub2]; omega) (by rw [List.length_take]; have : (y :: l2).length = l2.length + 1 := rfl; omega)
          rw [hsub2] at W
          rw [List.map_cons]
          show visK _ p (((y.1.drop p.length).take (e - p.length), ((pl.getD base2 0 : Nat) : Int)) :: _) 0 (m2, out2) = _
          unfold visK
          simp only []
          rw [hname, W]
          simp only [ne_eq, not_true, if_false]
          have hdl : ((y :: l2).drop A).length ≤ n := by rw [List.length_drop]; have : (y :: l2).length = l2.length + 1 := rfl; omega
          have R := ihn ((y :: l2).drop A) (base2 + sub.length) (pre2 ++ sub) post2 (m2 + sub.length) (out2 ++ (y :: l2).take A) hdl s4 (fun x hx => h2 x (List.mem_of_mem_drop hx)) (by rw [hn2]; simp) (by rw [List.length_append, hp2]) (by omega) (by omega) (by
            rw [List.length_append, List.length_take, List.length_drop]
            have : (y :: l2).length = l2.length + 1 := rfl
            omega)
          rw [R]
          simp only [Prod.mk.injEq, true_and]
          refine ⟨by omega, ?_⟩
          rw [List.append_assoc, List.take_append_drop]
    obtain ⟨r, hr'⟩ : ∃ r, r = planK (plan k) (restN p.length l).length (restN p.length l) p.length (base + 1) := ⟨_, rfl⟩
    have hplan : plan (k + 1) l p.length base = ⟨ownN p.length l, r.1⟩ :: r.2 := by rw [hr']; rfl
    rw [hplan] at hnodes hm ⊢
    have hnode : nodes[base]? = some ⟨ownN p.length l, r.1⟩ := by
      rw [hnodes, List.append_assoc, List.getElem?_append_right (by omega), hpre, Nat.sub_self]
      rfl
    have hbl : base < nodes.length := by
      rcases Nat.lt_or_ge base nodes.length with h | h
      · exact h
      · rw [List.getElem?_eq_none h] at hnode; cases hnode
    have hnin : ((pl.getD base 0 : Nat) : Int) ∉ way := by
      intro hin
      obtain ⟨i, hi, e⟩ := hway _ hin
      have := hinc i base hi hbl
      omega
    simp only [List.length_cons] at hm ⊢
    rw [vis_go (by omega), if_neg hnin, if_neg (by omega), hnd base _ hnode]
    simp only []
    have hoN : outN out p (ndOf pl ⟨ownN p.length l, r.1⟩) ++ restN p.length l = out ++ l ∧ (outN out p (ndOf pl ⟨ownN p.length l, r.1⟩)).length + (restN p.length l).length = out.length + l.length := by
      unfold outN ndOf
      simp only []
      cases ho : ownN p.length l with
      | none => rw [ho] at hown; simp only []; rw [hown]; exact ⟨rfl, rfl⟩
      | some x =>
        rw [ho] at hown
        simp only [] at hown ⊢
        have hl2 := congrArg List.length hown
        refine ⟨?_, ?_⟩
        · rw [List.append_assoc, List.singleton_append, ← hown]
        · rw [List.length_append, List.length_singleton, hl2, List.length_cons]
          omega
    obtain ⟨O, hO⟩ : ∃ O, O = outN out p (ndOf pl ⟨ownN p.length l, r.1⟩) := ⟨_, rfl⟩
    have hmt : mtAll out p (ndOf pl ⟨ownN p.length l, r.1⟩) = (O, r.1.map (kidOf pl), 0) := by
      have : mtAll out p (ndOf pl ⟨ownN p.length l, r.1⟩) = if 4096 < O.length then (O, [], 11) else (O, r.1.map (kidOf pl), 0) := by rw [hO]; rfl
      rw [this, if_neg (by rw [hO]; omega)]
    rw [hmt]
    simp only []
    rw [← hO] at hoN
    have K := kidsW (restN p.length l).length (restN p.length l) (base + 1) (pre ++ [⟨ownN p.length l, r.1⟩]) post (m + 1) O (Nat.le_refl _) hrl hrest255 (by rw [← hr', hnodes]; simp) (by rw [List.length_append, hpre]; rfl) (by omega) (by rw [← hr']; omega) (by omega)
    rw [← hr'] at K
    rw [K, hoN.1]
    simp only [Prod.mk.injEq, true_and]
    exact ⟨by omega, trivial⟩
end
end Go.Proofs.Ytbnnlbdjjpmgeaa


namespace Go.Proofs.Ytbnnlbdjjpmgeaa
open Go.RowKit

structure NameOk (t : List Int) : Prop where
  ne : t ≠ []
  zero : (0 : Int) ∉ t
  len : t.length ≤ 255
  byt : Byt t
theorem may_name {nm : List Int} {x : Ex} (h : mayE nm x = true) (hb : Byt nm) : NameOk nm := by
  unfold mayE textM at h
  simp only [Bool.and_eq_true, Bool.not_eq_true', decide_eq_true_eq, decide_eq_false_iff_not] at h
  exact ⟨h.1.1.1, h.1.1.2.2, h.1.1.2.1, hb⟩
theorem edge_of {t : List Int} (h : NameOk t) {n e : Nat} (h1 : n < e) (h2 : e ≤ t.length) : EdgeOk ((t.drop n).take (e - n)) := by
  refine ⟨?_, ?_, ?_, (h.byt.drop n).take _⟩
  · intro e0
    have := congrArg List.length e0
    rw [List.length_take, List.length_drop, List.length_nil] at this
    omega
  · intro hz
    exact h.zero (List.mem_of_mem_drop (List.mem_of_mem_take hz))
  · have := h.len
    rw [List.length_take, List.length_drop]
    omega
theorem edge_first (t : List Int) {n e : Nat} (h1 : n < e) : ((t.drop n).take (e - n)).getD 0 0 = t.getD n 0 := by
  simp only [List.getD]
  rw [List.getElem?_take, if_pos (by omega), List.getElem?_drop, Nat.add_zero]
section
variable {rec : Out → Nat → Nat → List PN}
theorem planK_kids {p : List Int} : ∀ (n : Nat) (l : Out) (base : Nat), RiseL p l → (∀ y ∈ l, NameOk y.1) →
    (∀ k ∈ (planK rec n l p.length base).1, EdgeOk k.1 ∧ ∃ y ∈ l, k.1.getD 0 0 = y.1.getD p.length 0) ∧ ((planK rec n l p.length base).1.Pairwise fun a b => a.1.getD 0 0 ≠ b.1.getD 0 0) := by
  intro n
  induction n with
  | zero => intro l base _ _; exact ⟨fun k hk => (by cases hk), List.Pairwise.nil⟩
  | succ n ih =>
    intro l base hr hn
    cases l with
    | nil => exact ⟨fun k hk => (by cases hk), List.Pairwise.nil⟩
    | cons y l =>
      obtain ⟨g1, g2, -, -⟩ := hr.group
      obtain ⟨-, s2, -, s4⟩ := hr.split
      have IH := ih ((y :: l).drop (alikeN p.length (y :: l))) (base + (rec ((y :: l).take (alikeN p.length (y :: l))) (lcpN y.1 (lastN ((y :: l).take (alikeN p.length (y :: l))))) base).length) s4 (fun z hz => hn z (List.mem_of_mem_drop hz))
      unfold planK
      simp only []
      refine ⟨fun k hk => ?_, List.pairwise_cons.2 ⟨fun k hk => ?_, IH.2⟩⟩
      · rcases List.mem_cons.1 hk with e | hk
        · rw [e]
          exact ⟨edge_of (hn y (List.mem_cons_self ..)) g1 g2, y, List.mem_cons_self .., edge_first _ g1⟩
        · obtain ⟨h1, z, hz, h2⟩ := IH.1 k hk
          exact ⟨h1, z, List.mem_of_mem_drop hz, h2⟩
      · obtain ⟨-, z, hz, h2⟩ := IH.1 k hk
        have := s2 z hz
        rw [edge_first _ g1, h2]
        omega
theorem planK_all {p : List Int} {P : PN → Prop} (hrec : ∀ l q base, l ≠ [] → Rise q l → (∀ y ∈ l, NameOk y.1 ∧ ExOk y.2) → ∀ nd ∈ rec l q.length base, P nd) : ∀ (n : Nat) (l : Out) (base : Nat), RiseL p l → (∀ y ∈ l, NameOk y.1 ∧ ExOk y.2) → ∀ nd ∈ (planK rec n l p.length base).2, P nd := by
  intro n
  induction n with
  | zero => intro l base _ _ nd h; cases h
  | succ n ih =>
    intro l base hr hn nd h
    cases l with
    | nil => cases h
    | cons y l =>
      obtain ⟨g1, g2, -, g4⟩ := hr.group
      obtain ⟨-, -, -, s4⟩ := hr.split
      have hap := alike_pos (n := p.length) (y := y) (l := l)
      unfold planK at h
      simp only [] at h
      rcases List.mem_append.1 h with h | h
      · have hlen : (y.1.take (lcpN y.1 (lastN ((y :: l).take (alikeN p.length (y :: l)))))).length = lcpN y.1 (lastN ((y :: l).take (alikeN p.length (y :: l)))) := by rw [List.length_take]; omega
        rw [← hlen] at h
        refine hrec _ _ base ?_ g4 (fun z hz => hn z (List.mem_of_mem_take hz)) nd h
        obtain ⟨A', hA⟩ : ∃ A', alikeN p.length (y :: l) = A' + 1 := ⟨alikeN p.length (y :: l) - 1, by omega⟩
        rw [hA]
        simp
      · exact ih _ _ s4 (fun z hz => hn z (List.mem_of_mem_drop hz)) nd h
end
theorem plan_ok : ∀ (k : Nat) (l : Out) (p : List Int) (base : Nat), l ≠ [] → Rise p l → (∀ y ∈ l, NameOk y.1 ∧ ExOk y.2) → ∀ nd ∈ plan k l p.length base, PnOk nd := by
  intro k
  induction k with
  | zero => intro l p base _ _ _ nd h; cases h
  | succ k ih =>
    intro l p base hl hr hn nd h
    obtain ⟨hrl, hown⟩ := hr.own hl
    have hsub : ∀ y ∈ restN p.length l, y ∈ l := by
      intro y hy
      cases ho : ownN p.length l with
      | none => rw [ho] at hown; rw [← hown]; exact hy
      | some x => rw [ho] at hown; rw [hown]; exact List.mem_cons_of_mem _ hy
    unfold plan at h
    simp only [] at h
    rcases List.mem_cons.1 h with e | h
    · have K := planK_kids (rec := plan k) (restN p.length l).length (restN p.length l) (base + 1) hrl (fun y hy => (hn y (hsub y hy)).1)
      rw [e]
      refine ⟨fun x hx => ?_, fun k hk => (K.1 k hk).1, K.2⟩
      simp only [] at hx
      rw [hx] at hown
      simp only [] at hown
      exact (hn (p, x) (by rw [hown]; exact List.mem_cons_self ..)).2
    · exact planK_all (fun l q base hl hr hn => ih l q base hl hr hn) _ _ _ hrl (fun y hy => hn y (hsub y hy)) nd h
def Tight (p : List Int) (l : Out) : Prop := ∀ y m, l = y :: m → p.length = lcpN y.1 (lastN l)
theorem planK_len {rec : Out → Nat → Nat → List PN} {p : List Int} (hrec : ∀ l q base, l ≠ [] → Rise q l → Tight q l → (rec l q.length base).length + 1 ≤ 2 * l.length) : ∀ (n : Nat) (l : Out) (base : Nat), l.length ≤ n → RiseL p l →
    (planK rec n l p.length base).2.length + (planK rec n l p.length base).1.length ≤ 2 * l.length ∧ (l ≠ [] → 1 ≤ (planK rec n l p.length base).1.length) ∧ (∀ y m, l = y :: m → alikeN p.length l < l.length → 2 ≤ (planK rec n l p.length base).1.length) := by
  intro n
  induction n with
  | zero =>
    intro l base hl _
    have : l = [] := List.eq_nil_of_length_eq_zero (by omega)
    subst this
    exact ⟨by simp [planK], fun h => absurd rfl h, fun y m h => by cases h⟩
  | succ n ih =>
    intro l base hl hr
    cases l with
    | nil => exact ⟨by simp [planK], fun h => absurd rfl h, fun y m h => by cases h⟩
    | cons y l =>
      obtain ⟨g1, g2, -, g4⟩ := hr.group
      obtain ⟨-, -, -, s4⟩ := hr.split
      have hap := alike_pos (n := p.length) (y := y) (l := l)
      obtain ⟨A, hA⟩ : ∃ A, A = alikeN p.length (y :: l) := ⟨_, rfl⟩
      rw [← hA] at g1 g2 g4 s4 hap
      obtain ⟨e, he⟩ : ∃ e, e = lcpN y.1 (lastN ((y :: l).take A)) := ⟨_, rfl⟩
      rw [← he] at g1 g2 g4
      have hlen : (y.1.take e).length = e := by rw [List.length_take]; omega
      have hgne : (y :: l).take A ≠ [] := by
        obtain ⟨A', rfl⟩ : ∃ A', A = A' + 1 := ⟨A - 1, by omega⟩
        simp
      have hstep : planK rec (n + 1) (y :: l) p.length base = (((y.1.drop p.length).take (e - p.length), base) :: (planK rec n ((y :: l).drop A) p.length (base + (rec ((y :: l).take A) e base).length)).1, rec ((y :: l).take A) e base ++ (planK rec n ((y :: l).drop A) p.length (base + (rec ((y :: l).take A) e base).length)).2) := by
        rw [he, hA]
        rfl
      have S := hrec ((y :: l).take A) (y.1.take e) base hgne g4 (fun z m hz => by
        rw [hlen, he]
        obtain ⟨A', hA'⟩ : ∃ A', A = A' + 1 := ⟨A - 1, by omega⟩
        have hz2 := hz
        rw [hA', List.take_succ_cons] at hz2
        injection hz2 with hz2 _
        rw [hz2])
      rw [hlen] at S
      have hdl : ((y :: l).drop A).length ≤ n := by rw [List.length_drop]; have : (y :: l).length = l.length + 1 := rfl; omega
      have IH := ih ((y :: l).drop A) (base + (rec ((y :: l).take A) e base).length) hdl s4
      rw [hstep]
      simp only [List.length_append, List.length_cons]
      have h1 : ((y :: l).take A).length + ((y :: l).drop A).length = l.length + 1 := by
        rw [List.length_take, List.length_drop]
        have : (y :: l).length = l.length + 1 := rfl
        omega
      refine ⟨by omega, fun _ => by omega, fun z m hz hlt => ?_⟩
      have hne : (y :: l).drop A ≠ [] := by
        intro e0
        have := congrArg List.length e0
        simp only [List.length_drop, List.length_nil, List.length_cons] at this
        rw [← hA] at hlt
        omega
      have := IH.2.1 hne
      omega
theorem plan_len : ∀ (k : Nat) (l : Out) (p : List Int) (base : Nat), l ≠ [] → Rise p l → Tight p l → (plan k l p.length base).length + 1 ≤ 2 * l.length := by
  intro k
  induction k with
  | zero =>
    intro l p base hl _ _
    have : 0 < l.length := List.length_pos_iff.2 hl
    simp only [plan, List.length_nil]
    omega
  | succ k ih =>
    intro l p base hl hr ht
    obtain ⟨hrl, hown⟩ := hr.own hl
    have K := planK_len (rec := plan k) (fun l q base hl hr ht => ih l q base hl hr ht) (restN p.length l).length (restN p.length l) (base + 1) (Nat.le_refl _) hrl
    unfold plan
    simp only [List.length_cons]
    have hpos : 0 < l.length := List.length_pos_iff.2 hl
    cases ho : ownN p.length l with
    | some x =>
      rw [ho] at hown
      simp only [] at hown
      have h2 := congrArg List.length hown
      rw [List.length_cons] at h2
      omega
    | none =>
      rw [ho] at hown
      simp only [] at hown
      rw [hown] at K hrl ⊢
      cases l with
      | nil => exact absurd rfl hl
      | cons y l =>
        have h2 := K.2.2 y l rfl (by
          rcases Nat.lt_or_ge (alikeN p.length (y :: l)) (y :: l).length with h | h
          · exact h
          · -- all have one byte there: then they begin with more
            exfalso
            obtain ⟨g1, -, -, -⟩ := hrl.group
            rw [List.take_of_length_le h] at g1
            have := ht y l rfl
            omega)
        omega
theorem plan_len0 (k : Nat) (l : Out) (base : Nat) (hl : l ≠ []) (hr : Rise [] l) (hn : ∀ y ∈ l, y.1 ≠ []) : (plan (k + 1) l 0 base).length ≤ 2 * l.length := by
  obtain ⟨hrl, hown⟩ := hr.own hl
  have K := planK_len (rec := plan k) (fun l q base hl hr ht => plan_len k l q base hl hr ht) (restN 0 l).length (restN 0 l) (base + 1) (Nat.le_refl _) hrl
  have ho : ownN 0 l = none := by
    cases l with
    | nil => rfl
    | cons y l =>
      have : ownN 0 (y :: l) = if y.1.length = 0 then some y.2 else none := rfl
      rw [this, if_neg (fun e => hn y (List.mem_cons_self ..) (List.eq_nil_of_length_eq_zero e))]
  have hre : restN 0 l = l := by
    have h := hown
    simp only [List.length_nil] at h
    rw [ho] at h
    exact h
  unfold plan
  simp only [List.length_cons]
  rw [hre] at K ⊢
  have := K.2.1 hl
  have h1 := K.1
  simp only [List.length_nil] at this h1
  omega
end Go.Proofs.Ytbnnlbdjjpmgeaa


namespace Go.Proofs.Ytbnnlbdjjpmgeaa
open Go.RowKit

def layB (pl : List Nat) (nodes : List PN) : List Int := nodes.flatMap (nodeB pl)
def placesF (pl : List Nat) : Nat → List PN → List Nat
  | _, [] => []
  | s, nd :: l => s :: placesF pl (s + (nodeB pl nd).length) l
theorem placesF_len (pl : List Nat) : ∀ (l : List PN) (s : Nat), (placesF pl s l).length = l.length
  | [], _ => rfl
  | nd :: l, s => by simp [placesF, placesF_len pl l]
theorem placesF_at (pl : List Nat) : ∀ (l : List PN) (s i : Nat), i < l.length → (placesF pl s l).getD i 0 = s + (layB pl (l.take i)).length
  | [], _, _, h => by simp at h
  | nd :: l, s, 0, _ => by simp [placesF, layB]
  | nd :: l, s, i + 1, h => by
    have := placesF_at pl l (s + (nodeB pl nd).length) i (by simpa using h)
    simp only [placesF, List.getD_cons_succ, this]
    rw [List.take_succ_cons, layB, layB, List.flatMap_cons, List.length_append]
    omega
theorem node_pos (pl : List Nat) (nd : PN) : 0 < (nodeB pl nd).length := by
  unfold nodeB
  rw [List.length_append, List.length_append, List.length_singleton]
  omega
theorem lay_split (pl : List Nat) {nodes : List PN} {i : Nat} {nd : PN} (h : nodes[i]? = some nd) : layB pl nodes = layB pl (nodes.take i) ++ (nodeB pl nd ++ layB pl (nodes.drop (i + 1))) := by
  obtain ⟨hi, e⟩ := List.getElem?_eq_some_iff.1 h
  have h2 : nodes = nodes.take i ++ (nd :: nodes.drop (i + 1)) := by
    rw [← e, ← List.drop_eq_getElem_cons hi, List.take_append_drop]
  conv => lhs; rw [h2]
  unfold layB
  rw [List.flatMap_append, List.flatMap_cons]
theorem lay_le (pl : List Nat) {nodes : List PN} {i : Nat} (h : i < nodes.length) : (layB pl (nodes.take i)).length < (layB pl nodes).length := by
  rw [lay_split pl (List.getElem?_eq_getElem h), List.length_append, List.length_append]
  have := node_pos pl nodes[i]
  omega
theorem said_in (pl : List Nat) {nd : PN} {x : Ex} (h : nd.says = some x) : (saidB x).length ≤ (nodeB pl nd).length := by
  unfold nodeB
  rw [h]
  unfold frontB
  simp only [List.length_append]
  omega
section
variable {pl : List Nat} {nodes : List PN} (hfix : placesF pl 0 nodes = pl) (hok : ∀ nd ∈ nodes, PnOk nd) (hbig : (layB pl nodes).length < 18446744073709551616)
include hfix hok hbig
omit hok in
theorem places_small (i : Nat) : pl.getD i 0 < 18446744073709551616 := by
  rcases Nat.lt_or_ge i nodes.length with h | h
  · rw [← hfix, placesF_at pl nodes 0 i h]
    have := lay_le pl h
    omega
  · have hl : pl.length = nodes.length := by rw [← hfix, placesF_len]
    rw [List.getD_eq_getElem?_getD, List.getElem?_eq_none (by omega)]
    decide
theorem made_node (i : Nat) (nd : PN) (h : nodes[i]? = some nd) : ndAt (layB pl nodes) ((pl.getD i 0 : Nat) : Int) = some (ndOf pl nd) := by
  obtain ⟨hi, e⟩ := List.getElem?_eq_some_iff.1 h
  have hp : pl.getD i 0 = (layB pl (nodes.take i)).length := by
    have := placesF_at pl nodes 0 i hi
    rw [hfix] at this
    omega
  have hlt := lay_le pl hi
  unfold ndAt
  rw [if_pos ⟨by omega, by omega⟩, show (((pl.getD i 0 : Nat) : Int)).toNat = (layB pl (nodes.take i)).length by omega, lay_split pl h, List.drop_left]
  have hm : nd ∈ nodes := List.mem_of_getElem? h
  have hnl : (nodeB pl nd).length ≤ (layB pl nodes).length := by
    rw [lay_split pl h, List.length_append, List.length_append]
    omega
  rw [reads_node (places_small hfix hbig) (hok nd hm) (fun x hx => by have := said_in pl hx; omega) (layB pl (nodes.drop (i + 1)))]
  rfl
omit hok hbig in
theorem places_rise (i j : Nat) (hij : i < j) (hj : j < nodes.length) : pl.getD i 0 < pl.getD j 0 := by
  have h1 := placesF_at pl nodes 0 i (by omega)
  have h2 := placesF_at pl nodes 0 j hj
  rw [hfix] at h1 h2
  have h3 := lay_le (i := i) pl (nodes := nodes.take j) (by rw [List.length_take]; omega)
  rw [List.take_take, Nat.min_eq_left (by omega)] at h3
  omega
end
theorem made_all {l : Out} (hl : l ≠ []) (hr : Rise [] l) (hn : ∀ y ∈ l, NameOk y.1 ∧ ExOk y.2) (hfew : l.length ≤ 4096) {pl : List Nat} (hfix : placesF pl 0 (plan 257 l 0 0) = pl) (hbig : (layB pl (plan 257 l 0 0)).length < 18446744073709551616) :
    allN (layB pl (plan 257 l 0 0)) = (l, 0) := by
  have hok := plan_ok 257 l [] 0 hl hr hn
  have hlen := plan_len0 256 l 0 hl hr (fun y hy => (hn y hy).1.ne)
  have hne : ∃ nd rest, plan 257 l 0 0 = nd :: rest := ⟨_, _, rfl⟩
  have h0 : pl.getD 0 0 = 0 := by
    obtain ⟨nd, rest, e⟩ := hne
    have := placesF_at pl (plan 257 l 0 0) 0 0 (by rw [e]; simp)
    rw [hfix] at this
    rw [this]
    simp [layB]
  have hxs : layB pl (plan 257 l 0 0) ≠ [] := by
    obtain ⟨nd, rest, e⟩ := hne
    rw [e]
    unfold layB
    rw [List.flatMap_cons]
    intro e0
    have := congrArg List.length e0
    rw [List.length_append, List.length_nil] at this
    have := node_pos pl nd
    omega
  have W := walk_made (xs := layB pl (plan 257 l 0 0)) (pl := pl) (nodes := plan 257 l 0 0) (made_node hfix hok hbig) (places_rise hfix) 257 l [] 0 [] [] [] 0 [] 257 hl hr (fun y hy => (hn y hy).1.len) (by simp) (by simp) rfl (by simp) (fun q hq => by cases hq) (by
    have : (plan 257 l ([] : List Int).length 0).length ≤ 2 * l.length := hlen
    omega) (by simpa using hfew)
  rw [h0] at W
  unfold allN
  rw [if_neg hxs]
  have W' : vis (layB pl (plan 257 l 0 0)) mtAll 257 [] [] 0 (0, []) = (0, (0 + (plan 257 l 0 0).length, [] ++ l)) := W
  rw [W', if_neg (by simp)]
  rfl
def Le (P Q : List Nat) : Prop := P.length = Q.length ∧ ∀ i, P.getD i 0 ≤ Q.getD i 0
theorem nodeB_mono {P Q : List Nat} (h : Le P Q) (nd : PN) : (nodeB P nd).length ≤ (nodeB Q nd).length := by
  unfold nodeB
  rw [List.length_append, List.length_append, List.length_append, List.length_append]
  have : ∀ ks : List (List Int × Nat), (ks.flatMap (kidB P)).length ≤ (ks.flatMap (kidB Q)).length := by
    intro ks
    induction ks with
    | nil => exact Nat.le_refl _
    | cons k ks ih =>
      rw [List.flatMap_cons, List.flatMap_cons, List.length_append, List.length_append]
      have h1 : (kidB P k).length ≤ (kidB Q k).length := by
        unfold kidB
        rw [List.length_append, List.length_append, List.length_append, List.length_append]
        have := encU_mono _ _ _ (Nat.lt_succ_self _) (h.2 k.2)
        omega
      omega
  have := this nd.kids
  omega
theorem placesF_mono {P Q : List Nat} (h : Le P Q) : ∀ (l : List PN) (s t : Nat), s ≤ t → Le (placesF P s l) (placesF Q t l)
  | [], _, _, _ => ⟨rfl, fun i => Nat.le_refl _⟩
  | nd :: l, s, t, hst => by
    have ih := placesF_mono h l (s + (nodeB P nd).length) (t + (nodeB Q nd).length) (by have := nodeB_mono h nd; omega)
    refine ⟨by simp [placesF, ih.1], fun i => ?_⟩
    cases i with
    | zero => simpa [placesF] using hst
    | succ i => simpa [placesF] using ih.2 i
def roundsN (nodes : List PN) : Nat → List Nat
  | 0 => List.replicate nodes.length 0
  | t + 1 => placesF (roundsN nodes t) 0 nodes
theorem rounds_len (nodes : List PN) (t : Nat) : (roundsN nodes t).length = nodes.length := by
  cases t with
  | zero => simp [roundsN]
  | succ t => simp [roundsN, placesF_len]
theorem rounds_le (nodes : List PN) : ∀ t, Le (roundsN nodes t) (roundsN nodes (t + 1))
  | 0 => ⟨by rw [rounds_len, rounds_len], fun i => by
      simp only [roundsN, List.getD_eq_getElem?_getD, List.getElem?_replicate]
      split <;> simp⟩
  | t + 1 => placesF_mono (rounds_le nodes t) nodes 0 0 (Nat.le_refl _)
theorem rounds_same {nodes : List PN} {t : Nat} (h : roundsN nodes (t + 1) = roundsN nodes t) : ∀ s, roundsN nodes (t + s) = roundsN nodes t
  | 0 => rfl
  | s + 1 => by
    show placesF (roundsN nodes (t + s)) 0 nodes = _
    rw [rounds_same h s]
    exact h
theorem rounds_one {nodes : List PN} {t s : Nat} (h : roundsN nodes (t + 1) = roundsN nodes t) (k : roundsN nodes (s + 1) = roundsN nodes s) : roundsN nodes t = roundsN nodes s := by
  rcases Nat.le_total t s with hts | hts
  · have := rounds_same h (s - t)
    rw [show t + (s - t) = s by omega] at this
    exact this.symm
  · have := rounds_same k (t - s)
    rw [show s + (t - s) = t by omega] at this
    exact this
def sumN : List Nat → Nat
  | [] => 0
  | x :: l => x + sumN l
theorem sum_lt : ∀ {P Q : List Nat}, Le P Q → P ≠ Q → sumN P < sumN Q
  | [], [], _, h => absurd rfl h
  | [], _ :: _, h, _ => by have := h.1; simp at this
  | _ :: _, [], h, _ => by have := h.1; simp at this
  | x :: P, y :: Q, h, hne => by
    have h0 : x ≤ y := by simpa using h.2 0
    have ht : Le P Q := ⟨by simpa using h.1, fun i => by simpa using h.2 (i + 1)⟩
    by_cases hpq : P = Q
    · subst hpq
      have : x ≠ y := fun e => hne (by rw [e])
      simp only [sumN]; omega
    · have := sum_lt ht hpq
      simp only [sumN]; omega
theorem sum_le {M : Nat} : ∀ {P : List Nat}, (∀ i, P.getD i 0 ≤ M) → sumN P ≤ P.length * M
  | [], _ => by simp [sumN]
  | x :: P, h => by
    have h0 : x ≤ M := by simpa using h 0
    have := sum_le (P := P) (fun i => by simpa using h (i + 1))
    simp only [sumN, List.length_cons, Nat.succ_mul]
    omega
end Go.Proofs.Ytbnnlbdjjpmgeaa


namespace Go.Proofs.Ytbnnlbdjjpmgeaa
open Go.RowKit

def namesK (rec : Out → Nat → List (List Int)) : Nat → Out → Nat → List (List Int)
  | 0, _, _ => []
  | _ + 1, [], _ => []
  | n + 1, y :: l, size =>
    let g := (y :: l).take (alikeN size (y :: l))
    rec g (lcpN y.1 (lastN g)) ++ namesK rec n ((y :: l).drop (alikeN size (y :: l))) size
def headN : Out → List Int
  | [] => []
  | y :: _ => y.1
def namesA : Nat → Out → Nat → List (List Int)
  | 0, _, _ => []
  | k + 1, l, size => (headN l).take size :: namesK (namesA k) (restN size l).length (restN size l) size
def adjN : Out → List (List Int)
  | [] => []
  | [_] => []
  | a :: b :: l => a.1.take (lcpN a.1 b.1) :: adjN (b :: l)
theorem adj_app : ∀ (a : Out) (x : List Int × Ex) (b : Out), adjN (a ++ x :: b) = adjN (a ++ [x]) ++ adjN (x :: b)
  | [], x, b => by simp [adjN]
  | [y], x, b => by simp [adjN]
  | y :: z :: a, x, b => by
    have := adj_app (z :: a) x b
    simp only [List.cons_append, adjN] at this ⊢
    rw [this]
theorem lcp_min {a b c : List Int} (h1 : nmLt a b = true) (h2 : nmLt b c = true) : lcpN a c = min (lcpN a b) (lcpN b c) := by
  have t1 := lcp_take a b
  have t2 := lcp_take b c
  have t3 := lcp_take a c
  have hb := between (lcpN a c) h1 h2 t3.1 t3.2.1
  apply Nat.le_antisymm
  · refine Nat.le_min.2 ⟨lcp_ge _ _ _ hb.1.symm t3.2.1 hb.2, lcp_ge _ _ _ (hb.1.trans t3.1) hb.2 t3.2.2⟩
  · obtain ⟨m, hm⟩ : ∃ m, m = min (lcpN a b) (lcpN b c) := ⟨_, rfl⟩
    rw [← hm]
    have e1 : a.take m = b.take m := by
      have := congrArg (List.take m) t1.1
      rwa [List.take_take, List.take_take, Nat.min_eq_left (by omega)] at this
    have e2 : b.take m = c.take m := by
      have := congrArg (List.take m) t2.1
      rwa [List.take_take, List.take_take, Nat.min_eq_left (by omega)] at this
    exact lcp_ge _ _ _ (e1.trans e2) (by omega) (by omega)
theorem last_cons (x y : List Int × Ex) (l : Out) : lastN (x :: y :: l) = lastN (y :: l) := by
  unfold lastN
  rw [List.getLast?_cons_cons]
theorem lcp_self (a : List Int) : lcpN a a = a.length := by
  have := lcp_ge a.length a a rfl (Nat.le_refl _) (Nat.le_refl _)
  have := lcp_take a a
  omega
theorem group_adj : ∀ (l : Out) (a : List Int × Ex), ((a :: l).Pairwise fun a b => nmLt a.1 b.1 = true) → (l = [] ∧ a.1.take (lcpN a.1 (lastN (a :: l))) = a.1) ∨ a.1.take (lcpN a.1 (lastN (a :: l))) ∈ adjN (a :: l)
  | [], a, _ => .inl ⟨rfl, by
      have : lastN [a] = a.1 := rfl
      rw [this, lcp_self, List.take_length]⟩
  | [b], a, _ => .inr (by
      have : lastN [a, b] = b.1 := rfl
      rw [this]
      exact List.mem_cons_self ..)
  | b :: c :: l, a, h => .inr (by
      obtain ⟨z, hz, hzl, hzo⟩ := last_of (l := b :: c :: l) (by simp) (List.pairwise_cons.1 h).2
      have hab := (List.pairwise_cons.1 h).1 b (List.mem_cons_self ..)
      have hbz : nmLt b.1 z.1 = true := by
        rcases hzo b (List.mem_cons_self ..) with e | e
        · exfalso
          have hbc := (List.pairwise_cons.1 (List.pairwise_cons.1 h).2).1 c (List.mem_cons_self ..)
          rcases hzo c (by simp) with e2 | e2
          · rw [e2, ← e, nmLt_irrefl] at hbc; cases hbc
          · rw [← e] at e2
            have := nmLt_trans hbc e2
            rw [nmLt_irrefl] at this; cases this
        · exact e
      rw [last_cons, hzl]
      have hmin := lcp_min hab hbz
      have t1 := lcp_take a.1 b.1
      simp only [adjN]
      rcases Nat.le_total (lcpN a.1 b.1) (lcpN b.1 z.1) with hle | hle
      · rw [hmin, Nat.min_eq_left hle]
        exact List.mem_cons_self ..
      · rw [hmin, Nat.min_eq_right hle]
        have e1 : a.1.take (lcpN b.1 z.1) = b.1.take (lcpN b.1 z.1) := by
          have := congrArg (List.take (lcpN b.1 z.1)) t1.1
          rwa [List.take_take, List.take_take, Nat.min_eq_left hle] at this
        rw [e1, ← hzl]
        rcases group_adj (c :: l) b (List.pairwise_cons.1 h).2 with ⟨e, _⟩ | e
        · cases e
        · exact List.mem_cons_of_mem _ e)
theorem rise_ext : ∀ {A B : List (List Int)}, (A.Pairwise fun a b => nmLt a b = true) → (B.Pairwise fun a b => nmLt a b = true) → (∀ q, q ∈ A ↔ q ∈ B) → A = B
  | [], [], _, _, _ => rfl
  | [], b :: B, _, _, h => by have := (h b).2 (List.mem_cons_self ..); cases this
  | a :: A, [], _, _, h => by have := (h a).1 (List.mem_cons_self ..); cases this
  | a :: A, b :: B, hA, hB, h => by
    have ha := (h a).1 (List.mem_cons_self ..)
    have hb := (h b).2 (List.mem_cons_self ..)
    have hab : a = b := by
      rcases List.mem_cons.1 ha with e | e
      · exact e
      · rcases List.mem_cons.1 hb with e2 | e2
        · exact e2.symm
        · have h1 := (List.pairwise_cons.1 hB).1 a e
          have h2 := (List.pairwise_cons.1 hA).1 b e2
          have := nmLt_trans h1 h2
          rw [nmLt_irrefl] at this; cases this
    subst hab
    rw [rise_ext (List.pairwise_cons.1 hA).2 (List.pairwise_cons.1 hB).2 (fun q => ?_)]
    have hq := h q
    simp only [List.mem_cons] at hq
    constructor
    · intro hm
      rcases hq.1 (.inr hm) with e | e
      · have := (List.pairwise_cons.1 hA).1 q hm
        rw [e, nmLt_irrefl] at this; cases this
      · exact e
    · intro hm
      rcases hq.2 (.inr hm) with e | e
      · have := (List.pairwise_cons.1 hB).1 q hm
        rw [e, nmLt_irrefl] at this; cases this
      · exact e
structure NamesOf (p : List Int) (l : Out) (N : List (List Int)) : Prop where
  up : N.Pairwise fun a b => nmLt a b = true
  pre : ∀ q ∈ N, p <+: q
  mem : ∀ q, q ∈ N ↔ q = p ∨ q ∈ l.map Prod.fst ∨ q ∈ adjN l
structure NamesL (p : List Int) (l : Out) (N : List (List Int)) : Prop where
  up : N.Pairwise fun a b => nmLt a b = true
  pre : ∀ q ∈ N, ∃ y ∈ l, p ++ [y.1.getD p.length 0] <+: q
  mem : ∀ q, q ∈ N ∨ q = p ↔ q = p ∨ q ∈ l.map Prod.fst ∨ q ∈ adjN l
theorem nmLt_step {p : List Int} {c d : Int} {a b : List Int} (ha : p ++ [c] <+: a) (hb : p ++ [d] <+: b) (h : c < d) : nmLt a b = true := by
  obtain ⟨s, rfl⟩ := ha
  obtain ⟨t, rfl⟩ := hb
  rw [List.append_assoc, List.append_assoc, nmLt_app, List.singleton_append, List.singleton_append]
  simp [nmLt, h]
theorem nmLt_more {p q : List Int} {c : Int} (h : p ++ [c] <+: q) : nmLt p q = true := by
  obtain ⟨s, rfl⟩ := h
  have := nmLt_app p [] ([c] ++ s)
  rw [List.append_nil, ← List.append_assoc] at this
  rw [this]
  rfl
theorem lcp_diff {p : List Int} {c d : Int} {s t : List Int} (h : c ≠ d) : lcpN (p ++ c :: s) (p ++ d :: t) = p.length := by
  induction p with
  | nil => simp [lcpN, h]
  | cons x p ih => simp only [List.cons_append, lcpN, if_true, List.length_cons]; rw [ih]
theorem lcp_pre (p s : List Int) : lcpN p (p ++ s) = p.length := by
  induction p with
  | nil => cases s <;> rfl
  | cons x p ih => simp only [List.cons_append, lcpN, if_true, List.length_cons]; rw [ih]
theorem names_ok : ∀ (k : Nat) (l : Out) (p : List Int), l ≠ [] → Rise p l → (∀ y ∈ l, y.1.length ≤ 255) → 257 ≤ k + p.length → NamesOf p l (namesA k l p.length) := by
  intro k
  induction k with
  | zero =>
    intro l p hl hr h255 hk
    cases l with
    | nil => exact absurd rfl hl
    | cons y l =>
      obtain ⟨s, hs⟩ := hr.pre y (List.mem_cons_self ..)
      have h1 := h255 y (List.mem_cons_self ..)
      rw [hs, List.length_append] at h1
      omega
  | succ k ih =>
    intro l p hl hr h255 hk
    obtain ⟨hrl, hown⟩ := hr.own hl
    have hrest : ∀ y ∈ restN p.length l, y ∈ l := by
      intro y hy
      cases ho : ownN p.length l with
      | none => rw [ho] at hown; rw [← hown]; exact hy
      | some x => rw [ho] at hown; rw [hown]; exact List.mem_cons_of_mem _ hy
    have kids : ∀ (n : Nat) (l2 : Out), l2.length ≤ n → RiseL p l2 → (∀ y ∈ l2, y.1.length ≤ 255) → NamesL p l2 (namesK (namesA k) n l2 p.length) := by
      intro n
      induction n with
      | zero =>
        intro l2 hl2 _ _
        have : l2 = [] := List.eq_nil_of_length_eq_zero (by omega)
        subst this
        exact ⟨List.Pairwise.nil, fun q hq => (by cases hq), fun q => by simp [namesK, adjN]⟩
      | succ n ihn =>
        intro l2 hl2 hr2 h2
        cases l2 with
        | nil => exact ⟨List.Pairwise.nil, fun q hq => (by cases hq), fun q => by simp [namesK, adjN]⟩
        | cons y l2 =>
          obtain ⟨g1, g2, g3, g4⟩ := hr2.group
          obtain ⟨s1, s2, s3, s4⟩ := hr2.split
          have hap := alike_pos (n := p.length) (y := y) (l := l2)
          obtain ⟨A, hA⟩ : ∃ A, A = alikeN p.length (y :: l2) := ⟨_, rfl⟩
          rw [← hA] at g1 g2 g3 g4 s1 s2 s3 s4 hap
          obtain ⟨e, he⟩ : ∃ e, e = lcpN y.1 (lastN ((y :: l2).take A)) := ⟨_, rfl⟩
          rw [← he] at g1 g2 g3 g4
          have hlen : (y.1.take e).length = e := by rw [List.length_take]; omega
          obtain ⟨A', hA'⟩ : ∃ A', A = A' + 1 := ⟨A - 1, by omega⟩
          have hg : (y :: l2).take A = y :: l2.take A' := by rw [hA', List.take_succ_cons]
          have G := ih ((y :: l2).take A) (y.1.take e) (by rw [hg]; simp) g4 (fun x hx => h2 x (List.mem_of_mem_take hx)) (by rw [hlen]; omega)
          rw [hlen] at G
          have hdl : ((y :: l2).drop A).length ≤ n := by rw [List.length_drop]; have : (y :: l2).length = l2.length + 1 := rfl; omega
          have R := ihn ((y :: l2).drop A) hdl s4 (fun x hx => h2 x (List.mem_of_mem_drop hx))
          have hstep : namesK (namesA k) (n + 1) (y :: l2) p.length = namesA k ((y :: l2).take A) e ++ namesK (namesA k) n ((y :: l2).drop A) p.length := by rw [he, hA]; rfl
          rw [hstep]
          obtain ⟨cy, sy, ey⟩ := hr2.pre y (List.mem_cons_self ..)
          have hcy : y.1.getD p.length 0 = cy := by rw [ey, at_pre]
          have hpe : p ++ [cy] <+: y.1.take e := by
            rw [ey]
            obtain ⟨e', rfl⟩ : ∃ e', e = p.length + 1 + e' := ⟨e - (p.length + 1), by omega⟩
            refine ⟨sy.take e', ?_⟩
            rw [List.take_append, List.take_of_length_le (l := p) (by omega), show p.length + 1 + e' - p.length = e' + 1 by omega, List.take_succ_cons, List.append_assoc]
            rfl
          refine ⟨?_, ?_, ?_⟩
          · rw [List.pairwise_append]
            refine ⟨G.up, R.up, fun a ha b hb => ?_⟩
            obtain ⟨z, hz, hpz⟩ := R.pre b hb
            exact nmLt_step (hpe.trans (G.pre a ha)) hpz (by have := s2 z hz; rw [hcy] at this; exact this)
          · intro q hq
            rcases List.mem_append.1 hq with h | h
            · exact ⟨y, List.mem_cons_self .., by rw [hcy]; exact hpe.trans (G.pre q h)⟩
            · obtain ⟨z, hz, hpz⟩ := R.pre q h
              exact ⟨z, List.mem_of_mem_drop hz, hpz⟩
          · intro q
            have hge : y.1.take e ∈ ((y :: l2).take A).map Prod.fst ∨ y.1.take e ∈ adjN ((y :: l2).take A) := by
              have := group_adj (l2.take A') y (by rw [← hg]; exact s3.up)
              rw [← hg, ← he] at this
              rcases this with ⟨_, h⟩ | h
              · left; rw [h, hg]; simp
              · exact .inr h
            have hadj : ∀ q, (q ∈ adjN (y :: l2) ∨ q = p) ↔ (q ∈ adjN ((y :: l2).take A) ∨ q ∈ adjN ((y :: l2).drop A) ∨ q = p) := by
              intro q
              cases hd : (y :: l2).drop A with
              | nil =>
                have : (y :: l2).take A = y :: l2 := by
                  have := List.take_append_drop A (y :: l2)
                  rw [hd, List.append_nil] at this
                  exact this
                rw [this]
                simp [adjN]
              | cons x m =>
                have hsp := List.take_append_drop A (y :: l2)
                rw [hd] at hsp
                -- the neighbours across
                obtain ⟨z, hz, hzl, -⟩ := last_of (l := (y :: l2).take A) (by rw [hg]; simp) s3.up
                have hcross : adjN ((y :: l2).take A ++ [x]) = adjN ((y :: l2).take A) ++ [p] := by
                  have hne : (y :: l2).take A ≠ [] := by rw [hg]; simp
                  have hdl := List.dropLast_concat_getLast hne
                  obtain ⟨w, hw⟩ : ∃ w, w = ((y :: l2).take A).getLast hne := ⟨_, rfl⟩
                  rw [← hw] at hdl
                  have hwm : w ∈ (y :: l2).take A := by rw [hw]; exact List.getLast_mem hne
                  rw [← hdl, List.append_assoc, List.singleton_append, adj_app]
                  congr 1
                  show [w.1.take (lcpN w.1 x.1)] = [p]
                  obtain ⟨cw, sw, ew⟩ := s3.pre w hwm
                  obtain ⟨cx, sx, ex⟩ := s4.pre x (by rw [hd]; exact List.mem_cons_self ..)
                  have h1 := s1 w hwm
                  have h2 := s2 x (by rw [hd]; exact List.mem_cons_self ..)
                  rw [ew, at_pre, hcy] at h1
                  rw [ex, at_pre, hcy] at h2
                  rw [ew, ex, lcp_diff (by omega), List.take_left]
                have htot : adjN (y :: l2) = (adjN ((y :: l2).take A) ++ [p]) ++ adjN (x :: m) := by
                  rw [← hcross, ← adj_app]
                  rw [hsp]
                rw [htot]
                simp only [List.mem_append, List.mem_singleton]
                constructor
                · rintro (((h | h) | h) | h)
                  · exact .inl h
                  · exact .inr (.inr h)
                  · exact .inr (.inl h)
                  · exact .inr (.inr h)
                · rintro (h | h | h)
                  · exact .inl (.inl (.inl h))
                  · exact .inl (.inr h)
                  · exact .inr h
            have hmap : q ∈ (y :: l2).map Prod.fst ↔ q ∈ ((y :: l2).take A).map Prod.fst ∨ q ∈ ((y :: l2).drop A).map Prod.fst := by
              rw [← List.mem_append, ← List.map_append, List.take_append_drop]
            have m1 := G.mem q
            have m2 := R.mem q
            have m3 := hadj q
            rw [List.mem_append, hmap]
            constructor
            · rintro ((h | h) | h)
              · rcases m1.1 h with e1 | e1 | e1
                · rcases hge with h3 | h3
                  · rw [e1]; exact .inr (.inl (.inl h3))
                  · rw [e1]
                    rcases (hadj (y.1.take e)).2 (.inl h3) with h4 | h4
                    · exact .inr (.inr h4)
                    · exact .inl h4
                · exact .inr (.inl (.inl e1))
                · rcases m3.2 (.inl e1) with h4 | h4
                  · exact .inr (.inr h4)
                  · exact .inl h4
              · rcases m2.1 (.inl h) with e1 | e1 | e1
                · exact .inl e1
                · exact .inr (.inl (.inr e1))
                · rcases m3.2 (.inr (.inl e1)) with h4 | h4
                  · exact .inr (.inr h4)
                  · exact .inl h4
              · exact .inl h
            · rintro (h | (h | h) | h)
              · exact .inr h
              · exact .inl (.inl (m1.2 (.inr (.inl h))))
              · rcases m2.2 (.inr (.inl h)) with h4 | h4
                · exact .inl (.inr h4)
                · exact .inr h4
              · rcases m3.1 (.inl h) with h4 | h4 | h4
                · exact .inl (.inl (m1.2 (.inr (.inr h4))))
                · rcases m2.2 (.inr (.inr h4)) with h5 | h5
                  · exact .inl (.inr h5)
                  · exact .inr h5
                · exact .inr h4
    have K := kids (restN p.length l).length (restN p.length l) (Nat.le_refl _) hrl (fun y hy => h255 y (hrest y hy))
    have hhead : (headN l).take p.length = p := by
      cases l with
      | nil => exact absurd rfl hl
      | cons y l =>
        obtain ⟨s, hs⟩ := hr.pre y (List.mem_cons_self ..)
        show y.1.take p.length = p
        rw [hs, List.take_left]
    have hA : namesA (k + 1) l p.length = p :: namesK (namesA k) (restN p.length l).length (restN p.length l) p.length := by
      show (headN l).take p.length :: _ = _
      rw [hhead]
    rw [hA]
    refine ⟨List.pairwise_cons.2 ⟨fun q hq => ?_, K.up⟩, fun q hq => ?_, fun q => ?_⟩
    · obtain ⟨y, _, hy⟩ := K.pre q hq
      exact nmLt_more hy
    · rcases List.mem_cons.1 hq with e | hq
      · rw [e]; exact List.prefix_refl _
      · obtain ⟨y, _, hy⟩ := K.pre q hq
        exact (List.prefix_append p _).trans hy
    · have m := K.mem q
      rw [List.mem_cons]
      have key : (q = p ∨ q ∈ l.map Prod.fst ∨ q ∈ adjN l) ↔ (q = p ∨ q ∈ (restN p.length l).map Prod.fst ∨ q ∈ adjN (restN p.length l)) := by
        cases ho : ownN p.length l with
        | none => rw [ho] at hown; simp only [] at hown; rw [hown]
        | some x =>
          rw [ho] at hown
          simp only [] at hown
          obtain ⟨r, hr'⟩ : ∃ r, r = restN p.length l := ⟨_, rfl⟩
          rw [← hr'] at hown hrl ⊢
          rw [hown]
          cases r with
          | nil => simp [adjN]
          | cons z r =>
            obtain ⟨c, s, ez⟩ := hrl.pre z (List.mem_cons_self ..)
            have : (p : List Int).take (lcpN p z.1) = p := by rw [ez, lcp_pre, List.take_length]
            simp only [adjN, List.map_cons, List.mem_cons, this]
            constructor
            · rintro (h | (h | h | h) | h | h)
              · exact .inl h
              · exact .inl h
              · exact .inr (.inl (.inl h))
              · exact .inr (.inl (.inr h))
              · exact .inl h
              · exact .inr (.inr h)
            · rintro (h | (h | h) | h)
              · exact .inl h
              · exact .inr (.inl (.inr (.inl h)))
              · exact .inr (.inl (.inr (.inr h)))
              · exact .inr (.inr (.inr h))
      rw [key, ← m]
      exact or_comm
end Go.Proofs.Ytbnnlbdjjpmgeaa

