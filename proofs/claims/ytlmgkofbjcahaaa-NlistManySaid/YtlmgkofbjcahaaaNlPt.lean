/- The entry of a symbol, laid behind bytes of one's own: nlist.put. Conditions: the section fits an entry. -/
import Derived.Test.YtlmgkofbjcahaaaNlL
namespace Go.Proofs.Ytlmgkofbjcahaaa
open Go.RowKit
variable {w w1 w2 w' : World} {base : Nat} {v v1 v2 v' : Value} {xs ys : List Int}

def kindS (x : Sy) : Int := if x.sec = 0 then 3 else 15
def descS (x : Sy) : Int := if x.weak then 128 else 0
/-- An entry's bytes. -/
def entS (p : Int) (x : Sy) : List Int := lowB 4 p ++ (lowB 1 (kindS x) ++ (lowB 1 x.sec ++ (lowB 2 (descS x) ++ lowB 8 x.value)))
theorem entS_len (p : Int) (x : Sy) : (entS p x).length = 16 := by simp [entS, lowB_len]
theorem entS_byt (p : Int) (x : Sy) : Byt (entS p x) := (lowB_byt _ _).app ((lowB_byt _ _).app ((lowB_byt _ _).app ((lowB_byt _ _).app (lowB_byt _ _))))
set_option maxRecDepth 20000 in
set_option maxHeartbeats 1600000 in
theorem put_to {q : Option Addr} {n c : Nat} (hn : xs.length = n) (hown : w.ownsRow base 5 1 (.slice q n c) n (xs.map (Value.int .u8))) (hb : base ≤ w.heap.size) (hbig : n ≤ 900000000) (nm : ByteArray) (x : Sy) (hx : 0 ≤ x.sec ∧ x.sec ≤ 255) (P : Int) :
    Calls Try.prog 36 #[.slice q n c, syV nm x, .int .u64 P] w fun e w' => ∃ q' c', e = .returned (.slice q' (n + 16) c') ∧ RowTo w w' base (.slice q n c) (.slice q' (n + 16) c') (xs ++ entS P x) := by
  have g1 := grown1 w (.cells #[.string nm, .int .i64 x.sec, .int .u64 x.value, .bool x.weak] 32)
  have x1 := SyAt.new w nm x
  obtain ⟨W1, hW1⟩ : ∃ W, W = w.alloc (.cells #[.string nm, .int .i64 x.sec, .int .u64 x.value, .bool x.weak] 32) := ⟨_, rfl⟩
  obtain ⟨X, hX⟩ : ∃ X, X = w.heap.size := ⟨_, rfl⟩
  rw [← hW1] at g1 x1
  rw [← hX] at x1
  have hqX : (Value.slice q n c).ownBlock ≠ some X := fun e => by have := (hown.lt X e).2; omega
  have R1 := Lib.hid (RowTo.pre g1 (RowTo.refl (v := .slice q n c) (by rw [hn]; exact own_grown hown g1)))
  have ST := Lib.hid (own_grown hown g1)
  have B1 := Lib.hid (Nat.le_trans hb g1.size)
  -- what turns the row alone keeps the symbol
  have KP := Lib.hid (fun (V V' : World) (u u' : Value) (zs : List Int) (hs : SyAt V X nm x) (hu : u.ownBlock ≠ some X) (k : RowTo V V' base u u' zs) => hs.kept k.grown hu)
  have KU := Lib.hid (fun (V V' : World) (u u' : Value) (zs : List Int) (hs : SyAt V X nm x) (hu : u.ownBlock ≠ some X) (k : RowTo V V' base u u' zs) => (show u'.ownBlock ≠ some X from fun e => by
    rcases k.lies with h | ⟨b, h, h2⟩
    · exact hu (h ▸ e)
    · rw [h] at e; injection e with e; have := hs.lt; omega))
  obtain ⟨kd, hkd⟩ : ∃ k, k = kindS x := ⟨_, rfl⟩
  obtain ⟨ds, hds⟩ : ∃ k, k = descS x := ⟨_, rfl⟩
  have hE : entS P x = lowB 4 P ++ (lowB 1 kd ++ (lowB 1 x.sec ++ (lowB 2 ds ++ lowB 8 x.value))) := by rw [hkd, hds]; rfl
  rw [hE]
  unfold kindS at hkd
  unfold descS at hds
  obtain ⟨c0, c1, c2, c3⟩ := x1.c
  have xl := x1.lt
  have X1 := Lib.hid x1
  have HW := Lib.hid hW1
  have HX := Lib.hid hX
  have HN := Lib.hid hn
  have HB := Lib.hid hb
  have hsw : IntKind.u64.wrap x.sec = x.sec := by rw [IntKind.wrap_u64]; omega
  clear hE g1 x1 hown hb hW1 hX hn
  unfold syV syArr
  obtain ⟨sec, value, weak⟩ := x
  simp only [] at *
  have hcs : (sec = 0 ∧ (sec == 0) = true ∧ kd = 3) ∨ ((sec == 0) = false ∧ kd = 15) := by
    by_cases h : sec = 0
    · rw [if_pos h] at hkd; exact .inl ⟨h, by rw [h]; rfl, hkd⟩
    · rw [if_neg h] at hkd; exact .inr ⟨by rw [beq_eq_false_iff_ne]; exact h, hkd⟩
  have hcw : (weak = true ∧ ds = 128) ∨ (weak = false ∧ ds = 0) := by
    cases weak
    · exact .inr ⟨rfl, by rw [hds]; rfl⟩
    · exact .inl ⟨rfl, by rw [hds]; rfl⟩
  clear hkd hds
  have NM := Lib.hid (fun (V : World) (zs : List Int) (m c : Nat) (q : Option Addr) (hm : zs.length = m) (hB : base ≤ V.heap.size) (ho : V.ownsRow base 5 1 (.slice q m c) m (zs.map (Value.int .u8))) (hbm : m ≤ 1000000000) (size : Nat) (hs : size ≤ 8) (N : Int) => number_to hm ho hB hbm size hs N)
  rcases hcs with ⟨rfl, hz, rfl⟩ | ⟨hz, rfl⟩ <;> rcases hcw with ⟨rfl, rfl⟩ | ⟨rfl, rfl⟩
  all_goals
    go_enter Try.func36, Try.ntmps36
    go_upto_region 1 with fail
    rw [← HW.out, ← HX.out]
    clear HW HX
    go_wp2_with fail
    refine (NM.out W1 xs n c q HN.out B1.out ST.out (by omega) 4 (by decide) P).mono ?_
    rintro r w2 ⟨q2, c2', rfl, hr⟩
    have R2 := Lib.hid (RowTo.trans R1.out hr)
    have X2 := Lib.hid (KP.out _ _ _ _ _ X1.out hqX hr)
    have U2 := Lib.hid (KU.out _ _ _ _ _ X1.out hqX hr)
    have O2 := Lib.hid (show w2.ownsRow base 5 1 (.slice q2 (n + 4) c2') (n + 4) ((xs ++ lowB 4 P).map (Value.int .u8)) from by
      have := hr.own; rw [List.length_append, lowB_len, HN.out] at this; exact this)
    have B2 := Lib.hid (Nat.le_trans B1.out hr.grown.size)
    clear hr c0 c1 c2 c3 xl
    go_wp2_with fail
    refine (NM.out w2 (xs ++ lowB 4 P) (n + 4) c2' q2 (by rw [List.length_append, lowB_len, HN.out]) B2.out O2.out (by omega) 1 (by decide) _).mono ?_
    rintro r w3 ⟨q3, c3', rfl, hr⟩
    have R3 := Lib.hid (RowTo.trans R2.out hr)
    have X3 := Lib.hid (KP.out _ _ _ _ _ X2.out U2.out hr)
    have U3 := Lib.hid (KU.out _ _ _ _ _ X2.out U2.out hr)
    have L3 := Lib.hid hr.len
    have O3 := Lib.hid hr.row
    obtain ⟨d0, d1, d2, d3⟩ := X3.out.c
    have xl := X3.out.lt
    simp only [] at d0 d1 d2 d3
    clear hr R2 X2 U2 O2
    go_wp2_with fail
    refine (NM.out w3 _ (n + 5) c3' q3 L3.out (Nat.le_trans HB.out R3.out.grown.size) O3.out (by omega) 1 (by decide) _).mono ?_
    clear d0 d1 d2 d3 xl
    rintro r w4 ⟨q4, c4', rfl, hr⟩
    have R4 := Lib.hid (RowTo.trans R3.out hr)
    have X4 := Lib.hid (KP.out _ _ _ _ _ X3.out U3.out hr)
    have U4 := Lib.hid (KU.out _ _ _ _ _ X3.out U3.out hr)
    have L4 := Lib.hid hr.len
    have O4 := Lib.hid hr.row
    obtain ⟨d0, d1, d2, d3⟩ := X4.out.c
    have xl := X4.out.lt
    simp only [] at d0 d1 d2 d3
    clear hr R3 X3 U3 O3
    go_wp2_with fail
    refine (NM.out w4 _ (n + 6) c4' q4 L4.out (Nat.le_trans HB.out R4.out.grown.size) O4.out (by omega) 2 (by decide) _).mono ?_
    clear d0 d1 d2 d3 xl
    rintro r w5 ⟨q5, c5', rfl, hr⟩
    have R5 := Lib.hid (RowTo.trans R4.out hr)
    have X5 := Lib.hid (KP.out _ _ _ _ _ X4.out U4.out hr)
    have U5 := Lib.hid (KU.out _ _ _ _ _ X4.out U4.out hr)
    have L5 := Lib.hid hr.len
    have O5 := Lib.hid hr.row
    obtain ⟨d0, d1, d2, d3⟩ := X5.out.c
    have xl := X5.out.lt
    simp only [] at d0 d1 d2 d3
    clear hr R4 X4 U4 O4
    go_wp2_with fail
    refine (NM.out w5 _ (n + 8) c5' q5 L5.out (Nat.le_trans HB.out R5.out.grown.size) O5.out (by omega) 8 (by decide) _).mono ?_
    clear d0 d1 d2 d3 xl
    rintro r w6 ⟨q6, c6', rfl, hr⟩
    have R6 := Lib.hid (RowTo.trans R5.out hr)
    clear hr
    go_wp2
    go_ret
    refine ⟨q6, c6', rfl, ?_⟩
    have := R6.out
    simp only [List.append_assoc] at this
    exact this
end Go.Proofs.Ytlmgkofbjcahaaa
