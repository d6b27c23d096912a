/- A symbol of plain bytes is its own word: the program's quote; words put together. Condition: the bytes are from '!' to '~', and none is '%'. -/
import Derived.Test.YtmffpnhdnaokhaaDoorFxI
import Derived.Test.YtmffpnhdnaokhaaDoorShelfL
namespace Go.Proofs.YtmffpnhdnaokhaaDoor
open Go.RowKit
variable {w w' W V : World}

theorem byteType : StType Tryd.prog 5 69 1 1 := .mk' Tryd.underlying69 (z := .int .u8 0) (by kernel_rfl) rfl (by decide)
theorem str_size (t : List Int) : (strOfNums t).size = t.length := by simp [strOfNums, ByteArray.size]
theorem str_at (t : List Int) (k : Nat) (x : Int) (hx : t[k]? = some x) (hb : 0 ≤ x ∧ x < 256) (h : k < (strOfNums t).size) : (((strOfNums t)[k]'h).toNat : Int) = x := by
  have hk : k < t.length := by rw [str_size] at h; exact h
  rw [List.getElem?_eq_getElem hk] at hx
  injection hx with hx
  have e : (strOfNums t)[k]'h = UInt8.ofNat (t[k]).toNat := by
    show (strOfNums t).data[k]'_ = _
    simp [strOfNums]
  rw [e, hx, UInt8.toNat_ofNat']
  omega
theorem map_is_flat {α β : Type} (f : α → β) : ∀ t : List α, t.map f = t.flatMap fun x => [f x]
  | [] => rfl
  | a :: t => by rw [List.map_cons, List.flatMap_cons, map_is_flat f t]; rfl
structure QtL (w wr : World) (t : List Int) (v3 v8 : Value) : Prop where
  ex : ∃ k : Nat, k ≤ t.length ∧ v8 = .int .i64 (k : Int) ∧ wr.ownsRow w.heap.size 5 1 v3 k ((t.take k).map (Value.int .u8))
  grown : w.grownBy wr none
set_option maxRecDepth 20000 in
set_option maxHeartbeats 1600000 in
theorem quote_plain (t : List Int) (ht : ∀ x ∈ t, 33 ≤ x ∧ x ≤ 126 ∧ x ≠ 37) (few : t.length ≤ 1000) (w : World) : Calls Tryd.prog 36 #[.string (strOfNums t)] w fun e w' => e = .returned (.string (strOfNums t)) ∧ w.grownBy w' none := by
  have HT := Lib.hid ht
  clear ht
  obtain ⟨S, hS⟩ : ∃ S, S = strOfNums t := ⟨_, rfl⟩
  have SZ := str_size t
  rw [← hS] at SZ ⊢
  have HS := Lib.hid hS
  clear hS
  go_enter Tryd.func36, Tryd.ntmps36
  go_wp2
  go_loopw [3, 8] (fun v3 v8 wr => QtL w wr t v3 v8) (fun _ v8 _ => t.length - (intOf v8).toNat)
  case atStart => exact ⟨⟨0, Nat.zero_le _, rfl, ⟨rfl, .inl ⟨rfl, rfl⟩⟩⟩, grown_refl _ _⟩
  case round =>
    obtain ⟨⟨k, hk, rfl, hr⟩, hg⟩ := hrel
    have G := Lib.hid hg
    have R := Lib.hid hr
    clear hg hr
    by_cases hlt : k < t.length
    · obtain ⟨x, hx⟩ : ∃ x, t[k]? = some x := ⟨_, List.getElem?_eq_getElem hlt⟩
      obtain ⟨x1, x2, x3⟩ := HT.out x (List.mem_of_getElem? hx)
      have XX := Lib.hid hx
      have ks : k < S.size := by omega
      have at1 : ∀ h : k < S.size, ((S[k]'h).toNat : Int) = x := fun h => by
        have := HS.out
        subst this
        exact str_at t k x XX.out (by omega) h
      have d1 : decide ((k : Int) < (S.size : Int)) = true := decide_eq_true (by omega)
      have d2 : decide (x < 33) = false := decide_eq_false (by omega)
      have d3 : decide (126 < x) = false := decide_eq_false (by omega)
      have d4 : decide (x = 37) = false := decide_eq_false (by omega)
      clear hx
      have ga := grown1 wr (.cells #[.int .u8 x] 5)
      have ha := heap_alloc_new wr (.cells #[.int .u8 x] 5)
      have szs : w.heap.size ≤ wr.heap.size := G.out.size
      have GA := Lib.hid ga
      have HA := Lib.hid ha
      have WS := Lib.hid szs
      clear ga ha szs
      go_wp2_with (at_builtin; refine wp_append_st byteType rfl _ _ rfl u3 k _ rfl (own_grown R.out GA.out) [.int .u8 x] rfl wr.heap.size (by rfl) HA.out (by intro u hu; simp at hu; subst hu; rfl) (by omega) (by decide) (Nat.le_trans WS.out GA.out.size) ?_; intro v' w2 hr2 hg2; have R2 := Lib.hid hr2; have G2 := Lib.hid hg2; clear hr2 hg2)
      go_roundw
      case rel =>
        refine ⟨⟨k + 1, hlt, by go_num, ?_⟩, ?_⟩
        · rw [List.take_succ_eq_append_getElem hlt, List.map_append]
          have := XX.out
          rw [List.getElem?_eq_getElem hlt] at this
          injection this with this
          rw [this]
          exact R2.out
        · exact grown_own (grown_trans G.out GA.out) G2.out (fun g e => (R.out.lt g e).1) (Nat.le_refl _)
      case measure => simp [intOf]; omega
    · obtain rfl : k = t.length := by omega
      have d1 : decide ((t.length : Int) < (S.size : Int)) = false := decide_eq_false (by omega)
      have tk : t.take t.length = t := List.take_length
      rw [tk] at R
      have OUT := Lib.hid (grown_trans G.out (grown_refl wr none))
      obtain ⟨n, hn⟩ : ∃ n, n = t.length := ⟨_, rfl⟩
      have NN := Lib.hid hn.symm
      rw [← hn] at R d1 SZ
      rw [← hn]
      have cv : (convert 69 9 u3).run Tryd.prog wr = .ok (.string S) wr := by
        have r0 := R.out
        have s0 := HS.out
        obtain ⟨-, ⟨e1, e2⟩ | ⟨g, cap, cur, e1, -⟩⟩ := R.out
        · subst e1
          have t0 : t = [] := List.length_eq_zero_iff.1 (by rw [NN.out]; exact e2)
          rw [s0, t0]
          exact run_convert_bytes_nil (P := Tryd.prog) wr _ _ Tryd.underlying69 Tryd.underlying5 0 0 _ Tryd.underlying9
        · subst e1
          rw [s0]
          refine run_convert_bytes_arg (P := Tryd.prog) wr 69 5 Tryd.underlying69 Tryd.underlying5 g 0 n cap t NN.out (fun i hi => ?_) 9 Tryd.underlying9
          have hi' : i < t.length := by rw [NN.out]; exact hi
          have hm := map_is_flat (Value.int .u8) t
          rw [hm] at r0
          obtain ⟨g', e, hc⟩ := row_cell (f := fun x : Int => [Value.int .u8 x]) (fun _ => rfl) r0 (List.getElem?_eq_getElem hi') (j := 0) (by decide)
          injection e with e
          injection e with e _ _
          subst e
          rw [Nat.zero_add]
          rw [Nat.mul_one, Nat.add_zero] at hc
          rw [hc, List.getD_eq_getElem?_getD, List.getElem?_eq_getElem hi']
          rfl
      go_wp2
      go_ret
      exact ⟨rfl, OUT.out⟩
end Go.Proofs.YtmffpnhdnaokhaaDoor
