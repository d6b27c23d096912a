/- What a file that was made of parts is read as: its slices are the places of its parts, and each one's bytes are its part's. -/
import Derived.Test.YtdjakaiadggemaaMkFacts
namespace Go.Proofs.Ytdjakaiadggemaa
open Go.RowKit
variable {w w' : World}

theorem bigN_snoc (n : Int) (k : Nat) : bigN n (k + 1) = bigN (n / 256) k ++ [n % 256] := by
  unfold bigN
  rw [List.range_succ, List.map_append]
  congr 1
  · refine List.map_congr_left fun j hj => ?_
    have hj' : j < k := List.mem_range.1 hj
    rw [show 8 * (k + 1 - 1 - j) = 8 + 8 * (k - 1 - j) by omega, Int.pow_add, ← Int.ediv_ediv_of_nonneg (by decide)]
    rfl
  · simp
theorem beN_big : ∀ (k : Nat) (n : Int), 0 ≤ n → n < 256 ^ k → beN (bigN n k) = n
  | 0, n, h0, h1 => by
    have : n = 0 := by rw [Int.pow_zero] at h1; omega
    subst this; rfl
  | k + 1, n, h0, h1 => by
    rw [bigN_snoc, beN_snoc, beN_big k (n / 256) (by omega) (by rw [Int.pow_succ] at h1; omega)]
    omega
theorem at_past (A ys : List Int) (k n m : Nat) (hm : A.length = m) : at' (A ++ ys) (m + k) n = at' ys k n := by
  subst hm
  unfold at'
  rw [List.drop_append, List.drop_eq_nil_of_le (by omega), List.nil_append, show A.length + k - A.length = k by omega]
theorem at_big (x : Int) (k : Nat) (ys : List Int) (h0 : 0 ≤ x) (h1 : x < 256 ^ k) : at' (bigN x k ++ ys) 0 k = x := by
  unfold at'
  rw [List.drop_zero, List.take_append_of_le_length (by rw [bigN_len]; exact Nat.le_refl _), List.take_of_length_le (by rw [bigN_len]; exact Nat.le_refl _)]
  exact beN_big k x h0 h1
theorem put_read (wide : Bool) (s : Sl) (ys A : List Int) (p : Nat) (hp : A.length = p) (hf : s.Fits) (ho : s.off < 4294967296) (hz : s.size < 4294967296) (ha : 0 ≤ s.align ∧ s.align ≤ 15) :
    entry wide (A ++ (putN wide s ++ ys)) p = s := by
  have f1 := hf.cpu
  have f2 := hf.sub
  have f3 := hf.off
  have f4 := hf.size
  unfold entry putN
  obtain ⟨c, u, o, z, a⟩ := s
  simp only [] at f1 f2 f3 f4 ho hz ha ⊢
  have e1 : ∀ k n, at' (A ++ ys) (p + k) n = at' ys k n := fun k n => at_past A ys k n p hp
  have e0 : at' (A ++ (bigN c 4 ++ (bigN u 4 ++ (bigN o (plc wide) ++ (bigN z (plc wide) ++ (bigN a 4 ++ bigN 0 (rst wide))))) ++ ys)) p 4 = c := by
    have h := at_past A (bigN c 4 ++ (bigN u 4 ++ (bigN o (plc wide) ++ (bigN z (plc wide) ++ (bigN a 4 ++ bigN 0 (rst wide))))) ++ ys) 0 4 p hp
    rw [Nat.add_zero] at h
    rw [h, List.append_assoc]
    exact at_big _ _ _ f1.1 (by omega)
  have hpl : (4294967296 : Int) ≤ 256 ^ plc wide := by cases wide <;> decide
  rw [e0, show p + 8 = p + (4 + 4) from rfl, show p + (4 + 4) + plc wide = p + (4 + (4 + plc wide)) by omega, show p + (4 + 4) + 2 * plc wide = p + (4 + (4 + (plc wide + plc wide))) by omega]
  rw [at_past A _ 4 4 p hp, at_past A _ _ _ p hp, at_past A _ _ _ p hp, at_past A _ _ _ p hp]
  simp only [List.append_assoc]
  have g2 : ∀ Z, at' (bigN c 4 ++ (bigN u 4 ++ Z)) 4 4 = u := fun Z => by
    have h := at_past (bigN c 4) (bigN u 4 ++ Z) 0 4 4 (bigN_len _ _)
    rw [Nat.add_zero] at h
    rw [h]
    exact at_big _ _ _ f2.1 (by omega)
  have g3 : ∀ Z, at' (bigN c 4 ++ (bigN u 4 ++ (bigN o (plc wide) ++ Z))) (4 + 4) (plc wide) = o := fun Z => by
    rw [at_past (bigN c 4) _ 4 _ 4 (bigN_len _ _)]
    have h := at_past (bigN u 4) (bigN o (plc wide) ++ Z) 0 (plc wide) 4 (bigN_len _ _)
    rw [Nat.add_zero] at h
    rw [h]
    exact at_big _ _ _ f3.1 (by omega)
  have g4 : ∀ Z, at' (bigN c 4 ++ (bigN u 4 ++ (bigN o (plc wide) ++ (bigN z (plc wide) ++ Z)))) (4 + (4 + plc wide)) (plc wide) = z := fun Z => by
    rw [at_past (bigN c 4) _ _ _ 4 (bigN_len _ _), at_past (bigN u 4) _ _ _ 4 (bigN_len _ _)]
    have h := at_past (bigN o (plc wide)) (bigN z (plc wide) ++ Z) 0 (plc wide) (plc wide) (bigN_len _ _)
    rw [Nat.add_zero] at h
    rw [h]
    exact at_big _ _ _ f4.1 (by omega)
  have g5 : ∀ Z, at' (bigN c 4 ++ (bigN u 4 ++ (bigN o (plc wide) ++ (bigN z (plc wide) ++ (bigN a 4 ++ Z))))) (4 + (4 + (plc wide + plc wide))) 4 = a := fun Z => by
    rw [at_past (bigN c 4) _ _ _ 4 (bigN_len _ _), at_past (bigN u 4) _ _ _ 4 (bigN_len _ _), at_past (bigN o (plc wide)) _ _ _ _ (bigN_len _ _)]
    have h := at_past (bigN z (plc wide)) (bigN a 4 ++ Z) 0 4 (plc wide) (bigN_len _ _)
    rw [Nat.add_zero] at h
    rw [h]
    exact at_big _ _ _ ha.1 (by omega)
  rw [g2, g3, g4, g5]

/-- The header is what the file begins by; each part's bytes stand at its place. -/
theorem partsN_pre (hdr : List Int) (S : List Sl) (l : List Mb) (j k : Nat) (h : j ≤ k) : ∃ T, partsN hdr S l k = partsN hdr S l j ++ T := by
  induction k with
  | zero => obtain rfl : j = 0 := by omega
            exact ⟨[], (List.append_nil _).symm⟩
  | succ k ih =>
    rcases Nat.lt_or_ge j (k + 1) with h1 | h1
    · obtain ⟨T, hT⟩ := ih (by omega)
      refine ⟨T ++ List.replicate ((S.getD k Sl.zero).off.toNat - (partsN hdr S l k).length) 0 ++ (l.getD k Mb.zero).bytes, ?_⟩
      show partsN hdr S l k ++ _ ++ _ = _
      rw [hT]
      simp only [List.append_assoc]
    · obtain rfl : j = k + 1 := by omega
      exact ⟨[], (List.append_nil _).symm⟩
structure Made (wide : Bool) (l : List Mb) (n : Nat) : Prop where
  len : l.length = n
  few : n ≤ 32
  pos : 0 < n
  fits : ∀ m ∈ l, m.Fits
  aligns : ∀ m ∈ l, 0 ≤ m.align ∧ m.align ≤ 15
  room : Room (e0N wide n) l
  twin : ¬ Twin (spots (e0N wide n) l n)
def fileN (wide : Bool) (l : List Mb) (n : Nat) : List Int := partsN (hdrN wide n (spots (e0N wide n) l n) n) (spots (e0N wide n) l n) l n
section
variable {wide : Bool} {l : List Mb} {n : Nat}
theorem e0N_bd (wide : Bool) (n : Nat) (h : n ≤ 32) : 8 ≤ e0N wide n ∧ e0N wide n ≤ 1032 := by
  unfold e0N
  have h1 : (0 : Int) ≤ (n : Int) * (esize wide : Nat) := Int.mul_nonneg (by omega) (by omega)
  have h2 : n * esize wide ≤ 32 * 32 := Nat.mul_le_mul h (by cases wide <;> decide)
  have h3 : ((n * esize wide : Nat) : Int) = (n : Int) * (esize wide : Nat) := by rw [Int.natCast_mul]
  omega
theorem Made.plen (h : Made wide l n) (k : Nat) (hk : k ≤ n) : ((partsN (hdrN wide n (spots (e0N wide n) l n) n) (spots (e0N wide n) l n) l k).length : Int) = endN (e0N wide n) (l.take k) :=
  (partsN_len h.len (by rw [hdrN_len _ _ _ _ (by rw [spots_len]; exact Nat.le_refl _)]; unfold e0N; omega) k hk).1
theorem Made.flen (h : Made wide l n) : ((fileN wide l n).length : Int) = endN (e0N wide n) l ∧ (fileN wide l n).length ≤ 1048576 ∧ 8 ≤ (fileN wide l n).length := by
  have h1 := h.plen n (Nat.le_refl _)
  rw [List.take_of_length_le (by rw [h.len]; exact Nat.le_refl _)] at h1
  have h2 := (room_iff (e0 := e0N wide n) (l := l) (by rw [h.len]; exact h.pos)).1 h.room
  have h3 := endN_mono (e0 := e0N wide n) l 0 l.length (by omega) (Nat.le_refl _)
  rw [List.take_length] at h3
  have h4 := e0N_bd wide n h.few
  have h5 : endN (e0N wide n) (l.take 0) = e0N wide n := rfl
  exact ⟨h1, by unfold fileN; omega, by unfold fileN; omega⟩
/-- One part's place. -/
theorem Made.place (h : Made wide l n) {i : Nat} {m : Mb} (hi : i < n) (hm : l[i]? = some m) :
    (spots (e0N wide n) l n)[i]? = some (spot (endN (e0N wide n) (l.take i)) m) ∧ endN (e0N wide n) (l.take i) ≤ (spot (endN (e0N wide n) (l.take i)) m).off ∧ e0N wide n ≤ (spot (endN (e0N wide n) (l.take i)) m).off ∧
    (spot (endN (e0N wide n) (l.take i)) m).off + m.bytes.length = endN (e0N wide n) (l.take (i + 1)) ∧ endN (e0N wide n) (l.take (i + 1)) ≤ (fileN wide l n).length ∧ (fileN wide l n).length ≤ 1048576 := by
  have hup := upN_bd (e := endN (e0N wide n) (l.take i)) (show (0 : Int) < 2 ^ m.align.toNat from Int.pow_pos (by decide))
  have h1 := endN_mono (e0 := e0N wide n) l 0 i (by omega) (by rw [h.len]; omega)
  have h5 : endN (e0N wide n) (l.take 0) = e0N wide n := rfl
  have h6 := endN_mono (e0 := e0N wide n) l (i + 1) l.length (by rw [h.len]; omega) (Nat.le_refl _)
  rw [List.take_length] at h6
  obtain ⟨h7, h8, _⟩ := h.flen
  refine ⟨spots_at hi hm, hup.1, ?_, ?_, ?_, h8⟩
  · show _ ≤ upN _ _; omega
  · rw [endN_succ hm]; rfl
  · omega
theorem Made.spot_fits (h : Made wide l n) {i : Nat} {m : Mb} (hi : i < n) (hm : l[i]? = some m) :
    (spot (endN (e0N wide n) (l.take i)) m).Fits ∧ (spot (endN (e0N wide n) (l.take i)) m).off < 4294967296 ∧ (m.bytes.length : Int) < 4294967296 := by
  obtain ⟨_, _, p3, p4, p5, p6⟩ := h.place hi hm
  have mf := h.fits m (List.mem_of_getElem? hm)
  have he := e0N_bd wide n h.few
  refine ⟨⟨mf.cpu, mf.sub, ⟨by omega, by omega⟩, ⟨?_, ?_⟩, mf.align⟩, by omega, by omega⟩
  · show (0 : Int) ≤ (m.bytes.length : Int); omega
  · show (m.bytes.length : Int) < _; omega
theorem Made.part (h : Made wide l n) {i : Nat} {m : Mb} (hi : i < n) (hm : l[i]? = some m) :
    ((fileN wide l n).drop (spot (endN (e0N wide n) (l.take i)) m).off.toNat).take m.bytes.length = m.bytes := by
  obtain ⟨hs, p2, p3, p4, _, _⟩ := h.place hi hm
  obtain ⟨T, hT⟩ := partsN_pre (hdrN wide n (spots (e0N wide n) l n) n) (spots (e0N wide n) l n) l (i + 1) n hi
  unfold fileN
  rw [hT, partsN_succ hs hm]
  have hl := h.plen i (by omega)
  have he := e0N_bd wide n h.few
  generalize partsN _ _ l i = A at hl
  generalize (spot (endN (e0N wide n) (l.take i)) m).off = o at p2 p3 p4
  have hlen : (A ++ List.replicate (o.toNat - A.length) 0).length = o.toNat := by
    rw [List.length_append, List.length_replicate]; omega
  rw [List.append_assoc (A ++ _) m.bytes T]
  generalize A ++ List.replicate (o.toNat - A.length) 0 = B at hlen ⊢
  rw [← hlen, List.drop_left, List.take_left]
theorem Made.entry (h : Made wide l n) {i : Nat} (hi : i < n) : entry wide (fileN wide l n) (8 + i * esize wide) = (spots (e0N wide n) l n).getD i Sl.zero := by
  obtain ⟨m, hm⟩ : ∃ m, l[i]? = some m := ⟨_, List.getElem?_eq_getElem (by rw [h.len]; exact hi)⟩
  obtain ⟨hs, _⟩ := h.place hi hm
  obtain ⟨f1, f2, f3⟩ := h.spot_fits hi hm
  have ma := h.aligns m (List.mem_of_getElem? hm)
  rw [List.getD_eq_getElem?_getD, hs, Option.getD_some]
  obtain ⟨T, hT⟩ := partsN_pre (hdrN wide n (spots (e0N wide n) l n) n) (spots (e0N wide n) l n) l 0 n (Nat.zero_le _)
  unfold fileN
  rw [hT]
  show Go.Proofs.Ytdjakaiadggemaa.entry wide (hdrN wide n (spots (e0N wide n) l n) n ++ T) _ = _
  have hl := spots_len (e0N wide n) l n
  generalize spots (e0N wide n) l n = S at hs hl
  have hsp : hdrN wide n S n = hdrN wide n S i ++ (putN wide (spot (endN (e0N wide n) (l.take i)) m) ++ (S.drop (i + 1)).flatMap (putN wide)) := by
    unfold hdrN
    rw [List.take_of_length_le (Nat.le_of_eq hl), List.append_assoc _ ((S.take i).flatMap _), ← List.flatMap_cons, ← List.flatMap_append]
    congr 2
    have hi' : i < S.length := by omega
    have e := List.getElem?_eq_getElem hi'
    rw [hs] at e
    injection e with e
    rw [e, List.getElem_cons_drop, List.take_append_drop]
  rw [hsp, List.append_assoc, List.append_assoc]
  exact put_read wide _ _ _ _ (hdrN_len _ _ _ _ (by omega)) f1 f2 f3 ma
theorem Made.front (h : Made wide l n) : (fileN wide l n).take 4 = mg wide ∧ at' (fileN wide l n) 4 4 = n := by
  obtain ⟨T, hT⟩ := partsN_pre (hdrN wide n (spots (e0N wide n) l n) n) (spots (e0N wide n) l n) l 0 n (Nat.zero_le _)
  unfold fileN
  rw [hT]
  show List.take 4 (hdrN wide n _ n ++ T) = _ ∧ at' (hdrN wide n _ n ++ T) 4 4 = _
  unfold hdrN
  constructor
  · rw [List.append_assoc, List.append_assoc, List.take_append_of_le_length (by rw [mg_len]; exact Nat.le_refl _), List.take_of_length_le (by rw [mg_len]; exact Nat.le_refl _)]
  · rw [List.append_assoc, List.append_assoc]
    have h1 := at_past (mg wide) (bigN n 4 ++ (List.flatMap (putN wide) ((spots (e0N wide n) l n).take n) ++ T)) 0 4 4 (mg_len _)
    rw [Nat.add_zero] at h1
    rw [h1]
    have := h.few
    exact at_big _ _ _ (by omega) (by omega)
theorem Made.entries (h : Made wide l n) : entries wide (fileN wide l n) n = spots (e0N wide n) l n := by
  refine List.ext_getElem? fun i => ?_
  rcases Nat.lt_or_ge i n with hi | hi
  · unfold Go.Proofs.Ytdjakaiadggemaa.entries
    rw [List.getElem?_map, List.getElem?_range hi]
    show some (Go.Proofs.Ytdjakaiadggemaa.entry wide _ _) = _
    rw [h.entry hi, List.getD_eq_getElem?_getD, List.getElem?_eq_getElem (by rw [spots_len]; exact hi)]
    rfl
  · rw [List.getElem?_eq_none (by rw [entries_len]; exact hi), List.getElem?_eq_none (by rw [spots_len]; exact hi)]
theorem Made.good (h : Made wide l n) : ¬ Bad (spots (e0N wide n) l n) (8 + n * esize wide) (fileN wide l n).length := by
  rintro ⟨i, s, hs, hb⟩
  have hi : i < n := by
    rcases Nat.lt_or_ge i n with h1 | h1
    · exact h1
    · rw [List.getElem?_eq_none (by rw [spots_len]; exact h1)] at hs; cases hs
  obtain ⟨m, hm⟩ : ∃ m, l[i]? = some m := ⟨_, List.getElem?_eq_getElem (by rw [h.len]; exact hi)⟩
  obtain ⟨p1, p2, p3, p4, p5, p6⟩ := h.place hi hm
  rw [p1] at hs
  injection hs with hs
  subst hs
  have ma := h.aligns m (List.mem_of_getElem? hm)
  rcases hb with hb | ⟨j, t, hj, ht, hmt⟩
  · unfold Sl.may at hb
    refine absurd ?_ (of_decide_eq_false hb)
    have e0 : e0N wide n = 8 + (n : Int) * (esize wide : Nat) := rfl
    refine ⟨?_, ?_, ma.1, ma.2, ?_⟩
    · show _ + (m.bytes.length : Int) ≤ _; omega
    · omega
    · show upN _ (2 ^ m.align.toNat) % 2 ^ m.align.toNat = 0
      unfold upN
      exact Int.mul_emod_left _ _
  · obtain ⟨m', hm'⟩ : ∃ m, l[j]? = some m := ⟨_, List.getElem?_eq_getElem (by rw [h.len]; omega)⟩
    obtain ⟨q1, q2, q3, q4, q5, q6⟩ := h.place (show j < n by omega) hm'
    rw [q1] at ht
    injection ht with ht
    subst ht
    have hmono := endN_mono (e0 := e0N wide n) l (j + 1) i (by omega) (by rw [h.len]; omega)
    unfold Sl.meet meetB at hmt
    have := of_decide_eq_true hmt
    have e1 : (spot (endN (e0N wide n) (l.take j)) m').size = (m'.bytes.length : Int) := rfl
    rw [e1] at this
    omega
theorem Made.slices (h : Made wide l n) : slicesN (fileN wide l n) = (spots (e0N wide n) l n, 0) := by
  obtain ⟨h1, h2, h3⟩ := h.flen
  obtain ⟨f1, f2⟩ := h.front
  have hn := h.few
  have hL : listN wide (fileN wide l n) = (spots (e0N wide n) l n, 0) := by
    unfold listN
    rw [f2, if_neg (by omega), if_neg (by omega), show ((n : Nat) : Int).toNat = n by omega, h.entries]
    have hm := endN_mono (e0 := e0N wide n) l 0 l.length (by omega) (Nat.le_refl _)
    rw [List.take_length] at hm
    have h5 : endN (e0N wide n) (l.take 0) = 8 + (n : Int) * (esize wide : Nat) := rfl
    have h6 : ((n * esize wide : Nat) : Int) = (n : Int) * (esize wide : Nat) := by rw [Int.natCast_mul]
    rw [if_neg (by omega), if_neg h.good, if_neg h.twin]
  unfold slicesN
  rw [if_neg (by omega), if_neg (by omega), f1]
  cases wide
  · rw [if_neg (by decide), if_pos (show mg false = [202, 254, 186, 190] from rfl)]; exact hL
  · rw [if_neg (by decide), if_neg (by decide), if_pos (show mg true = [202, 254, 186, 191] from rfl)]; exact hL
end
theorem makeN_made {wide : Bool} {l : List Mb} (hfit : ∀ m ∈ l, m.Fits) (h : (makeN wide l).2 = 0) : (makeN wide l).1 = fileN wide l l.length ∧ Made wide l l.length := by
  have hw := makeN_way wide l
  revert hw h
  generalize makeN wide l = r
  rintro h (_ | _ | _ | ⟨h0, hl, hal, hroom, htw⟩)
  · cases h
  · cases h
  · cases h
  · exact ⟨rfl, rfl, hl, h0, hfit, hal, hroom, htw⟩
end Go.Proofs.Ytdjakaiadggemaa
