/- A text of a field, and one that ends at a 0: as a cursor in blocks of its own takes them. No condition. -/
import Derived.Test.YthdppaooemdmaaaRowT
import Derived.Test.YthdppaooemdmaaaText
import Derived.Test.YthdppaooemdmaaaPenC
import Derived.Test.YthdppaooemdmaaaTakeC
namespace Go.Proofs.Ythdppaooemdmaaa
open Go.RowKit
variable {w w' : World} {lo hi a : Nat} {xs : List Int} {p : Nat} {big bad : Bool}

theorem one_zero (w : World) : (w.alloc (.cells #[.int .u8 0] 5)).cell? ⟨w.heap.size, 0, none⟩ = some (.int .u8 0) := by rw [cell_of (heap_alloc_new w _)]; rfl
set_option maxRecDepth 20000 in
theorem pen_field (h : Pen w lo hi a xs p big false) (n : Nat) (h0 : 0 < n) (hn : p + n ≤ xs.length) :
    Calls Try.prog 86 #[.pointer (some ⟨a, 0, none⟩), .int .i64 n] w fun e w' =>
      e = .returned (.string (strOfNums (pre ((xs.drop p).take n)))) ∧ Pen w' lo hi a xs (p + n) big false ∧ w.grownBy w' (some a) := by
  obtain ⟨⟨base, q, c, hc, hl, ho⟩, h1, h2, h3⟩ := h
  have hsm : Small ((xs.drop p).take n) := fun x hx => hc.bytes x (List.mem_of_mem_drop (List.mem_of_mem_take hx))
  have hlen : ((xs.drop p).take n).length = n := by rw [List.length_take, List.length_drop]; omega
  have hbig := hc.big
  have hix := index_pre _ hsm
  have hpt := pre_take ((xs.drop p).take n)
  have hpl := pre_le ((xs.drop p).take n)
  have T := Lib.hid (take_ok hc n hn)
  have PN := Lib.hid (fun (w' : World) (h : Cur w' base a q c xs (p + n) big false) (hg : w.grownBy w' (some a)) => (⟨⟨base, q, c, h, hl, ho⟩, h1, h2, Nat.le_trans h3 hg.size⟩ : Pen w' lo hi a xs (p + n) big false))
  rw [hlen] at hix hpl
  generalize (xs.drop p).take n = L at *
  obtain ⟨k, hk⟩ : ∃ k, k = (pre L).length := ⟨_, rfl⟩
  rw [← hk] at hix hpt hpl
  have IX := Lib.hid hix
  have PT := Lib.hid hpt
  have HL := Lib.hid hlen
  have AL := Lib.hid hc.lt
  have HO := Lib.hid ho
  clear hix hpt hlen hsm ho hl hk hc h1 h2 h3
  have hkI : (k : Int) ≤ n := by omega
  go_enter Try.func86, Try.ntmps86
  go_wp2_with fail
  refine T.out.mono ?_
  rintro e w1 ⟨⟨q', rfl, hb, _⟩, hcur, hg⟩
  obtain ⟨b, o, rfl, hcell⟩ := hb.2 (by rw [HL.out]; exact h0)
  have g1 := grown1 w1 (.cells #[.int .u8 0] 5)
  have HB := Lib.hid (hb.kept g1 (by simp))
  have G1 := Lib.hid (grown_then hg g1)
  have HC := Lib.hid (hcur.kept g1 (by simp) (by cases (Value.slice q xs.length c).ownBlock <;> simp))
  have hidx := Try.bytes_Index_one_at ⟨b, o, none⟩ n n w1.heap.size 0 1 L 0 (w1.alloc (.cells #[.int .u8 0] 5)) HL.out (fun i hi => by
    have := HB.out.ways
    rcases this with ⟨h, _⟩ | ⟨x, h, hx⟩
    · cases h
    · injection h with h; subst h; exact hx i (by rw [HL.out]; exact hi)) (one_zero w1)
  rw [IX.out] at hidx
  by_cases hlt : k < n
  · rw [if_pos hlt] at hidx
    have CU := Lib.hid (Try.bytes_Cut_of (some ⟨b, o, none⟩) (some ⟨w1.heap.size, 0, none⟩) n n 1 1 (k : Int) (w1.alloc (.cells #[.int .u8 0] 5)) (Nat.le_refl _) (by omega) (fun _ => by omega) (by omega) (hidx.mono (fun e w' h => ⟨h.1, 0, h.2⟩)))
    clear hidx hcell hb hcur hg g1
    unfold Lib.cutV at CU
    rw [if_pos (by omega)] at CU
    obtain ⟨FV, hFV⟩ : ∃ v, Lib.fromV (some ⟨b, o, none⟩) n n ((k : Int).toNat + 1) = v := ⟨_, rfl⟩
    rw [hFV] at CU
    clear hFV
    go_wp2_with fail
    refine CU.out.mono ?_
    rintro e w2 ⟨rfl, j, rfl⟩
    have cv := ((HB.out.take (c' := n) k (fun h => by cases h)).drewN j).text (n := k) (by rw [List.length_take, HL.out]; omega)
    have GD := Lib.hid (grown_drewN G1.out j)
    have HD := Lib.hid (HC.out.drewN j)
    rw [← PT.out] at cv
    clear HC G1
    go_wp2
    go_ret
    exact ⟨rfl, PN.out _ HD.out GD.out, GD.out⟩
  · rw [if_neg hlt] at hidx
    have CU := Lib.hid (Try.bytes_Cut_of (some ⟨b, o, none⟩) (some ⟨w1.heap.size, 0, none⟩) n n 1 1 (-1) (w1.alloc (.cells #[.int .u8 0] 5)) (Nat.le_refl _) (by omega) (fun h => by omega) (by omega) (hidx.mono (fun e w' h => ⟨h.1, 0, h.2⟩)))
    clear hidx hcell hb hcur hg g1
    unfold Lib.cutV at CU
    rw [if_neg (by omega)] at CU
    have hkn : k = n := by omega
    subst hkn
    go_wp2_with fail
    refine CU.out.mono ?_
    rintro e w2 ⟨rfl, j, rfl⟩
    have cv := (HB.out.drewN j).text (n := k) HL.out
    have GD := Lib.hid (grown_drewN G1.out j)
    have HD := Lib.hid (HC.out.drewN j)
    have hpe : pre L = L := by rw [PT.out, List.take_of_length_le (by rw [HL.out]; exact Nat.le_refl _)]
    clear HC G1
    go_wp2
    go_ret
    exact ⟨by rw [hpe]; rfl, PN.out _ HD.out GD.out, GD.out⟩

/-- A text, where one stands that may be taken; else no bytes, and it has failed or not. -/
theorem pen_text (h : Pen w lo hi a xs p big bad) (m : Nat) :
    Calls Try.prog 58 #[.pointer (some ⟨a, 0, none⟩), .int .i64 m] w fun e w' =>
      e = .returned (.string (strOfNums (if bad = false ∧ (pre (xs.drop p)).length < (xs.drop p).length ∧ (pre (xs.drop p)).length ≤ m then pre (xs.drop p) else []))) ∧ w.grownBy w' (some a) := by
  obtain ⟨⟨base, q, c, hc, hl, ho⟩, h1, h2, h3⟩ := h
  by_cases hb : bad = true
  · subst hb
    rw [if_neg (by simp)]
    refine (text_no hc m (.inl rfl)).mono ?_
    rintro e w' ⟨rfl, _, hg⟩
    exact ⟨rfl, hg⟩
  · obtain rfl : bad = false := by simpa using hb
    by_cases hx : (pre (xs.drop p)).length < (xs.drop p).length ∧ (pre (xs.drop p)).length ≤ m
    · rw [if_pos ⟨rfl, hx⟩]
      refine (text_ok hc m ⟨hx.1, by omega⟩).mono ?_
      rintro e w' ⟨rfl, _, hg⟩
      exact ⟨rfl, hg⟩
    · rw [if_neg (fun h => hx h.2)]
      refine (text_no hc m (.inr (by unfold textLen; rw [if_neg (fun h => hx ⟨h.1, by omega⟩)]))).mono ?_
      rintro e w' ⟨rfl, _, hg⟩
      exact ⟨rfl, hg⟩
end Go.Proofs.Ythdppaooemdmaaa
