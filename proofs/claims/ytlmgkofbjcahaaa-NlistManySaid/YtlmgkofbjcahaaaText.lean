/- A text of layer 1 (cursor): what stands up to the next 0; and the calls that take one. No condition. -/
import Derived.Test.YtlmgkofbjcahaaaOps
import Derived.Test.YtlmgkofbjcahaaaStr
namespace Go.Proofs.Ytlmgkofbjcahaaa
open Go.RowKit
variable {w : World} {base a : Nat} {q : Option Addr} {c : Nat} {xs : List Int} {p : Nat} {big bad : Bool}

/-- What stands ahead of the first 0. -/
def pre : List Int → List Int
  | [] => []
  | x :: l => if x = 0 then [] else x :: pre l
theorem pre_le (l : List Int) : (pre l).length ≤ l.length := by
  induction l with
  | nil => simp [pre]
  | cons x l ih => simp only [pre]; split <;> simp; omega
theorem pre_take (l : List Int) : pre l = l.take (pre l).length := by
  induction l with
  | nil => simp [pre]
  | cons x l ih =>
    simp only [pre]
    split
    · simp
    · rw [List.length_cons, List.take_succ_cons, ← ih]
/-- How many bytes the next text has; below 0: none stands that may be taken. -/
def textLen (l : List Int) (m : Int) : Int := if (pre l).length < l.length ∧ ((pre l).length : Int) ≤ m then (pre l).length else -1
theorem index_pre (l : List Int) (h : ∀ x ∈ l, 0 ≤ x ∧ x < 256) : Lib.indexByte (Lib.bytesOf l) (0 : Int).toNat.toUInt8 = if (pre l).length < l.length then ((pre l).length : Int) else -1 := by
  induction l with
  | nil => simp [pre, Lib.bytesOf, Lib.indexByte]
  | cons x l ih =>
    have h1 := ih (fun y hy => h y (List.mem_cons_of_mem _ hy))
    have h2 := h x (List.mem_cons_self ..)
    have e : Lib.bytesOf (x :: l) = UInt8.ofNat x.toNat :: Lib.bytesOf l := rfl
    rw [e]
    unfold Lib.indexByte
    rw [h1]
    by_cases hx : x = 0
    · subst hx; simp [pre]
    · have hb : (UInt8.ofNat x.toNat == (0 : Int).toNat.toUInt8) = false := by
        rw [beq_eq_false_iff_ne]
        intro e
        have := congrArg UInt8.toNat e
        simp at this
        omega
      rw [hb]
      simp only [pre, if_neg hx, List.length_cons, Bool.false_eq_true, if_false, Nat.add_lt_add_iff_right]
      by_cases hl : (pre l).length < l.length
      · rw [if_pos hl, if_pos hl]
        rw [if_neg (by simp)]
        omega
      · rw [if_neg hl, if_neg hl]; rfl
theorem textLen_take (l : List Int) : ∀ m : Nat, (if (pre (l.take (m + 1))).length < (l.take (m + 1)).length then ((pre (l.take (m + 1))).length : Int) else -1) = textLen l m := by
  induction l with
  | nil => intro m; simp [pre, textLen]
  | cons x l ih =>
    intro m
    simp only [List.take_succ_cons, textLen, pre]
    by_cases hx : x = 0
    · simp [hx]
    · simp only [if_neg hx, List.length_cons, Nat.add_lt_add_iff_right]
      cases m with
      | zero => simp [pre]; omega
      | succ m =>
        have h := ih m
        simp only [textLen] at h
        by_cases h1 : (pre (l.take (m + 1))).length < (l.take (m + 1)).length
        · rw [if_pos h1] at h ⊢
          by_cases h2 : (pre l).length < l.length ∧ ((pre l).length : Int) ≤ m
          · rw [if_pos h2] at h
            rw [if_pos (by omega)]
            omega
          · rw [if_neg h2] at h; omega
        · rw [if_neg h1] at h ⊢
          by_cases h2 : (pre l).length < l.length ∧ ((pre l).length : Int) ≤ m
          · rw [if_pos h2] at h; omega
          · rw [if_neg (by omega)]
theorem textLen_all (l : List Int) (m : Int) (h : l.length ≤ m) : (if (pre l).length < l.length then ((pre l).length : Int) else -1) = textLen l m := by
  have := pre_le l
  unfold textLen
  by_cases h1 : (pre l).length < l.length
  · rw [if_pos h1, if_pos (by omega)]
  · rw [if_neg h1, if_neg (by omega)]

theorem IsBytes.index {q : Option Addr} {c : Nat} {ys : List Int} (h : IsBytes w q c ys) (hr : ∀ x ∈ ys, 0 ≤ x ∧ x < 256) :
    Calls Try.prog 50 #[.slice q ys.length c, .int .u8 0] w fun e w' => e = .returned (.int .i64 (if (pre ys).length < ys.length then ((pre ys).length : Int) else -1)) ∧ w = w' := by
  rw [← index_pre ys hr]
  rcases h.ways with ⟨rfl, rfl, rfl⟩ | ⟨x, rfl, hc⟩
  · exact (Try.bytes_IndexByte_nil 0 w).mono fun e w' ⟨h1, h2⟩ => ⟨h1, h2.symm⟩
  · exact (Try.bytes_IndexByte_at x ys.length c ys 0 w rfl hc).mono fun e w' ⟨h1, h2⟩ => ⟨h1, h2.symm⟩

theorem textSize_any (h : Cur w base a q c xs p big bad) (m : Int) :
    Calls Try.prog 46 #[.pointer (some ⟨a, 0, none⟩), .int .i64 m] w fun e w' =>
      e = .returned (.int .i64 (textLen (xs.drop p) m)) ∧ ∃ n, w.drewN n = w' := by
  have hle := h.le
  have hbig := h.big
  have hlen : (xs.drop p).length = xs.length - p := by simp
  have hr : ∀ x ∈ xs.drop p, 0 ≤ x ∧ x < 256 := fun x hx => h.bytes x (List.mem_of_mem_drop hx)
  by_cases hneg : m < 0
  · have e : textLen (xs.drop p) m = -1 := by unfold textLen; rw [if_neg (by omega)]
    rw [e]
    clear e hr hlen
    go_enter Try.func46, Try.ntmps46
    go_wp2
    go_ret
    exact ⟨rfl, 0, rfl⟩
  · have hrest := rest_any h
    rw [← hlen] at hrest
    by_cases hlt : m < (xs.drop p).length
    · obtain ⟨k, rfl⟩ := Int.eq_ofNat_of_zero_le (Int.not_lt.1 hneg)
      have hlt' : k < xs.length - p := by omega
      have hk := textLen_take (xs.drop p) k
      have hl2 : ((xs.drop p).take (k + 1)).length = k + 1 := by simp; omega
      have hr2 : ∀ x ∈ (xs.drop p).take (k + 1), 0 ≤ x ∧ x < 256 := fun x hx => hr x (List.mem_of_mem_take hx)
      rw [hl2] at hk
      have K := Lib.hid hk
      have R := Lib.hid hr2
      have L := Lib.hid hl2
      have LL := Lib.hid hlen
      rw [hlen] at hlt
      clear hk hr2 hl2 hr
      go_enter Try.func46, Try.ntmps46
      go_wp2_with fail
      refine hrest.mono ?_
      rintro e w' ⟨⟨q', rfl, hb⟩, n, rfl⟩
      have hcap : k + 1 ≤ c - p := by
        rcases h.form with ⟨_, h2, _⟩ | ⟨_, _, h3, _⟩
        · subst h2; simp at hlt'
        · omega
      have hb2 := hb.take (k + 1) (c' := c - p) (fun hq => by
        rcases hb.ways with ⟨_, h2, _⟩ | ⟨_, h3, _⟩
        · rw [h2] at hlen; simp at hlen; omega
        · rw [h3] at hq; cases hq)
      have I := (hb2.drewN n).index R.out
      rw [L.out] at I
      have IH := Lib.hid I
      clear I hb2
      rw [hlen]
      clear hlen
      go_wp2_with fail
      refine IH.out.mono ?_
      rintro e w' ⟨rfl, rfl⟩
      rw [K.out]
      clear hrest
      go_wp2
      go_ret
      exact ⟨rfl, n, rfl⟩
    · have hall := textLen_all (xs.drop p) m (by omega)
      rw [hlen] at hall
      have K := Lib.hid hall
      have R := Lib.hid hr
      clear hall hr
      go_enter Try.func46, Try.ntmps46
      go_wp2_with fail
      refine hrest.mono ?_
      rintro e w' ⟨⟨q', rfl, hb⟩, n, rfl⟩
      have I := (hb.drewN n).index R.out
      rw [hlen] at I hlt
      rw [hlen]
      have IH := Lib.hid I
      clear I hlen
      go_wp2_with fail
      refine IH.out.mono ?_
      rintro e w' ⟨rfl, rfl⟩
      rw [K.out]
      clear hrest
      go_wp2
      go_ret
      exact ⟨rfl, n, rfl⟩

/-- No text that may be taken: nothing, and the cursor has failed. -/
theorem text_no (h : Cur w base a q c xs p big bad) (m : Int) (hn : bad = true ∨ textLen (xs.drop p) m = -1) :
    Calls Try.prog 41 #[.pointer (some ⟨a, 0, none⟩), .int .i64 m] w fun e w' =>
      e = .returned (.string ByteArray.empty) ∧ Cur w' base a q c xs p big true ∧ w.grownBy w' (some a) := by
  have hb : bad = true ∨ textLen (xs.drop p) m < 0 ∨ (xs.length : Int) - p < textLen (xs.drop p) m := by
    rcases hn with h1 | h1
    · exact .inl h1
    · exact .inr (.inl (by omega))
  have B := Lib.hid hb
  have T := Lib.hid (textSize_any h m)
  generalize textLen (xs.drop p) m = t at *
  clear hn hb
  go_enter Try.func41, Try.ntmps41
  go_wp2_with fail
  refine T.out.mono ?_
  rintro e w1 ⟨rfl, n, rfl⟩
  go_wp2_with fail
  refine (take_no (h.drewN n) t B.out).mono ?_
  rintro e w2 ⟨rfl, hc2, hg2⟩
  have cv := run_convert_bytes_nil (P := Try.prog) w2 _ _ Try.underlying22 Try.underlying5 0 0 _ Try.underlying9
  go_wp2_with fail
  refine (take_no hc2 1 (.inl rfl)).mono ?_
  rintro e w3 ⟨rfl, hc3, hg3⟩
  have hg := grown_trans (grown_trans (grown_drewN (grown_refl w (some a)) n) hg2) hg3
  clear cv
  go_wp2
  go_ret
  exact ⟨rfl, hc3, hg⟩

/-- A text that may be taken, and the 0 behind it. -/
theorem text_ok (h : Cur w base a q c xs p big false) (m : Int) (hn : (pre (xs.drop p)).length < (xs.drop p).length ∧ ((pre (xs.drop p)).length : Int) ≤ m) :
    Calls Try.prog 41 #[.pointer (some ⟨a, 0, none⟩), .int .i64 m] w fun e w' =>
      e = .returned (.string (strOfNums (pre (xs.drop p)))) ∧ Cur w' base a q c xs (p + (pre (xs.drop p)).length + 1) big false ∧ w.grownBy w' (some a) := by
  have ht : textLen (xs.drop p) m = (pre (xs.drop p)).length := by unfold textLen; rw [if_pos hn]
  have hs := textSize_any h m
  rw [ht] at hs
  have hl : (xs.drop p).length = xs.length - p := by simp
  have hle := h.le
  have h1 : p + (pre (xs.drop p)).length ≤ xs.length := by omega
  have h2 : p + (pre (xs.drop p)).length + 1 ≤ xs.length := by omega
  have hpt := pre_take (xs.drop p)
  have htk := fun n => take_ok (h.drewN n) _ h1
  rw [← hpt] at htk
  generalize pre (xs.drop p) = t at *
  have T := Lib.hid hs
  have K := Lib.hid htk
  clear ht hs hl hpt htk hn
  go_enter Try.func41, Try.ntmps41
  go_wp2_with fail
  refine T.out.mono ?_
  rintro e w1 ⟨rfl, n, rfl⟩
  go_wp2_with fail
  refine (K.out n).mono ?_
  rintro e w2 ⟨⟨q', rfl, hb, _⟩, hc2, hg2⟩
  have cv := hb.text rfl
  go_wp2_with fail
  refine (take_ok hc2 1 h2).mono ?_
  rintro e w3 ⟨⟨q3, rfl, _, _⟩, hc3, hg3⟩
  have hg := grown_trans (grown_trans (grown_drewN (grown_refl w (some a)) n) hg2) hg3
  clear cv
  go_wp2
  go_ret
  exact ⟨rfl, hc3, hg⟩
end Go.Proofs.Ytlmgkofbjcahaaa
