import Derived.Test.YtemdbfgpimfkdaaM22
import Derived.Test.YtemdbfgpimfkdaaM13
/- What the program's Read and the document's tell of any bytes, in one form. No condition but that there are at most 2^47 bytes. -/
namespace Go.Proofs.Ytemdbfgpimfkdaa
open Go.RowKit
variable {w w' : World}

theorem cmdsN_may {xs : List Int} (hs : Small xs) : ∀ (n p : Nat) (l : List (Int × List Int)), cmdsN xs n p = some l → ∀ d ∈ l, (0 ≤ d.1 ∧ d.1 < 4294967296) ∧ Small d.2 ∧ mayB d.1 d.2 = true
  | 0, _, l, h, d, hd => by
    rw [cmdsN] at h
    injection h with h
    subst h
    cases hd
  | n + 1, p, l, h, d, hd => by
    rw [cmdsN] at h
    by_cases ho : okN xs p
    · rw [if_pos ho] at h
      obtain ⟨l', hl', rfl⟩ := Option.map_eq_some_iff.1 h
      rcases List.mem_cons.1 hd with rfl | hd
      · refine ⟨leN4_bd hs p, fun x hx => hs x (List.mem_of_mem_drop (List.mem_of_mem_take hx)), may_of_ok ?_ ho⟩
        have := ho.2.1
        omega
      · exact cmdsN_may hs n _ l' hl' d hd
    · rw [if_neg ho] at h
      cases h

def readL (ys : List Int) : List (Int × List Int) := if rdErr ys = 0 then (readN ys).getD [] else []
def readH (ys : List Int) : Hd := if rdErr ys = 0 then Hd.of (frOf (ys.take 32)) else ⟨0, 0, 0⟩
def readZ (ys : List Int) : Nat := if rdErr ys = 0 then 32 + sizeF ys else 0
theorem readL_may {ys : List Int} (hs : Small ys) : ∀ d ∈ readL ys, (0 ≤ d.1 ∧ d.1 < 4294967296) ∧ Small d.2 ∧ mayB d.1 d.2 = true := by
  intro d hd
  unfold readL at hd
  split at hd
  · cases h : readN ys with
    | none => rw [h] at hd; cases hd
    | some l =>
      rw [h] at hd
      exact cmdsN_may (fun x hx => hs x (List.mem_of_mem_drop (List.mem_of_mem_take hx))) _ _ l h d hd
  · cases hd
theorem readZ_lt {ys : List Int} (hs : Small ys) : readZ ys < 4294967328 := by
  unfold readZ
  have w5 := wordN_bd (show Small (ys.take 32) from fun x hx => hs x (List.mem_of_mem_take hx)) 5
  have : sizeF ys < 4294967296 := by unfold sizeF; omega
  split <;> omega

theorem Read_all (ys : List Int) (q : Option Addr) (c n : Nat) (h : IsBytes w q c ys) (hn : ys.length = n) (hc : n ≤ c) (hcm : c ≤ 9223372036854775807) (hn47 : n ≤ 140737488355328) (hr : Small ys) :
    Calls Try.prog 16 #[.slice q n c] w fun e w' => ∃ pre q' c' base, pre.map Cm.d = readL ys ∧ e = .returned (.tuple #[(readH ys).v, .slice q' pre.length c', .int .i64 (rdErr ys)]) ∧ w.heap.size ≤ base ∧ Got w' base pre (.slice q' pre.length c') ∧ w.grownBy w' none := by
  refine (Read_any ys q c n h hn hc hcm hn47 hr).mono ?_
  rintro e w' ⟨hbad, hgood, hg⟩
  by_cases h0 : rdErr ys = 0
  · obtain ⟨pre, q', c', base, hp, rfl, hb, hG⟩ := hgood h0
    unfold readL readH
    rw [if_pos h0, if_pos h0, hp, h0]
    exact ⟨pre, q', c', base, rfl, rfl, hb, hG, hg⟩
  · rw [hbad h0]
    unfold readL readH
    rw [if_neg h0, if_neg h0]
    exact ⟨[], none, 0, w'.heap.size, rfl, rfl, hg.size, Got.start _ _, hg⟩

theorem RefRead_all (ys : List Int) (q : Option Addr) (c n : Nat) (h : IsBytes w q c ys) (hn : ys.length = n) (hc : n ≤ c) (hcm : c ≤ 9223372036854775807) (hn47 : n ≤ 140737488355328) (hr : Small ys) :
    Calls Try.prog 6 #[.slice q n c] w fun e w' => ∃ pre q' c', pre.map Cm.d = readL ys ∧ e = .returned (.tuple #[(readH ys).v, .slice q' pre.length c', .int .i64 (readZ ys), .int .i64 (rdErr ys)]) ∧ IsCms w' q' pre ∧ pre.length ≤ c' ∧ c' ≤ 9223372036854775807 ∧ (∀ m ∈ pre, m.Fits) ∧ w.grownBy w' none := by
  refine (RefRead_any ys q c n h hn hc hcm hn47 hr).mono ?_
  rintro e w' ⟨hbad, hgood, hg⟩
  by_cases h0 : rdErr ys = 0
  · obtain ⟨pre, q', c', hp, rfl, hI, h1, h2, hF⟩ := hgood h0
    unfold readL readH readZ
    rw [if_pos h0, if_pos h0, if_pos h0, hp, h0]
    exact ⟨pre, q', c', rfl, rfl, hI, h1, h2, hF, hg⟩
  · rw [hbad h0]
    unfold readL readH readZ
    rw [if_neg h0, if_neg h0, if_neg h0]
    exact ⟨[], none, 0, rfl, rfl, (fun h => by cases h), by simp, by omega, (fun m h => by cases h), hg⟩

/-- A byte of a row of one's own is written. -/
theorem OwnM.set {base g n cap : Nat} {xs : List Int} (h : OwnM w base g n cap xs) {i : Nat} (hi : i < n) (x : Int) : OwnM (w.setCell ⟨g, i, none⟩ (.int .u8 x)) base g n cap (xs.set i x) := by
  have hsz := (grown_setCell (i := i) (grown_refl w (some g)) (.int .u8 x)).size
  have hthere : ∀ j, ((w.setCell ⟨g, i, none⟩ (.int .u8 x)).cell? ⟨g, j, none⟩) = if j = i then some (.int .u8 x) else w.cell? ⟨g, j, none⟩ := fun j => by
    by_cases hj : j = i
    · subst hj
      rw [if_pos rfl, World.cell?_setCell_same' _ _ _ (h.there j (by have := h.le; omega))]
    · rw [if_neg hj, World.cell?_setCell_other _ ⟨g, i, none⟩ ⟨g, j, none⟩ _ (fun e => hj (by injection e with _ e _; exact e.symm))]
  refine ⟨h.lo, Nat.lt_of_lt_of_le h.lt hsz, h.le, by rw [List.length_set, h.len], h.most, fun j hj => ?_, fun j hj => ?_, fun j hj => ?_⟩
  · rw [hthere]
    split
    · rfl
    · exact h.there j hj
  · rw [World.frozen?_setCell]; exact h.free j hj
  · rw [hthere]
    by_cases e : j = i
    · subst e
      rw [if_pos rfl]
      simp [List.getD, h.len, hj]
    · rw [if_neg e, h.cell j hj]
      simp [List.getD, Ne.symm e]
end Go.Proofs.Ytemdbfgpimfkdaa
