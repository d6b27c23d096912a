/- Two lists of the same slices are the same; and each slice that is told stands in the file. No condition. -/
import Derived.Test.YtdjakaiadggemaaSlice
namespace Go.Proofs.Ytdjakaiadggemaa
open Go.RowKit
variable {w w' : World}

set_option maxRecDepth 20000 in
theorem same_any (l : List Sl) (n : Nat) (hn : l.length = n) (h32 : n ≤ 32) (p q : Option Addr) (c d : Nat) (hp : IsSl w p l) (hq : IsSl w q l) :
    Calls Try.prog 13 #[.slice p n c, .slice q n d] w fun e w' => e = .returned (.bool true) ∧ w.grownBy w' none := by
  have P := Lib.hid hp
  have Q := Lib.hid hq
  have HN := Lib.hid hn
  clear hp hq hn
  go_enter Try.func13, Try.ntmps13
  go_wp2
  go_loopw [5] (fun i wr => ∃ k : Nat, i = .int .i64 k ∧ w.grownBy wr none) (fun i _ => n - (intOf i).toNat)
  case atStart => exact ⟨0, rfl, grown_refl _ _⟩
  case round =>
    obtain ⟨k, rfl, hg⟩ := hrel
    by_cases hlt : k < n
    · obtain ⟨s, hs⟩ : ∃ s, l[k]? = some s := ⟨_, List.getElem?_eq_getElem (by rw [HN.out]; exact hlt)⟩
      obtain ⟨b, o, rfl, hc⟩ := (P.out.grown hg) (by rw [HN.out]; omega)
      obtain ⟨b', o', rfl, hc'⟩ := (Q.out.grown hg) (by rw [HN.out]; omega)
      obtain ⟨c0, c1, c2, c3, c4⟩ := hc k s hs
      obtain ⟨d0, d1, d2, d3, d4⟩ := hc' k s hs
      have G := Lib.hid hg
      clear hc hc' hs hg
      go_wp2
      go_quiet (fail)
      go_wp2
      go_roundw
      case rel => exact ⟨k + 1, by go_num, grown_drewN G.out _⟩
      case measure => simp [intOf]; omega
    · have G := Lib.hid hg
      clear hg
      go_wp2
      go_ret
      exact ⟨rfl, G.out⟩

/-- Whatever is told stands in the file. -/
theorem listN_in {ys : List Int} (wide : Bool) : ∀ s ∈ (listN wide ys).1, s.off + s.size ≤ ys.length := by
  unfold listN
  split; exact fun s hs => by cases hs
  split; exact fun s hs => by cases hs
  split; exact fun s hs => by cases hs
  split; exact fun s hs => by cases hs
  rename_i hbad
  split; exact fun s hs => by cases hs
  intro s hs
  obtain ⟨i, hi, rfl⟩ := List.getElem_of_mem hs
  refine Classical.byContradiction fun hno => hbad ⟨i, _, List.getElem?_eq_getElem hi, .inl ?_⟩
  unfold Sl.may
  rw [decide_eq_false_iff_not]
  exact fun h => hno h.1
theorem slicesN_in {ys : List Int} : ∀ s ∈ (slicesN ys).1, s.off + s.size ≤ ys.length := by
  unfold slicesN
  split; exact fun s hs => by cases hs
  split; exact fun s hs => by cases hs
  split
  · unfold thinN
    split; exact fun s hs => by cases hs
    intro s hs
    rw [List.mem_singleton.1 hs]
    show (0 : Int) + ys.length ≤ ys.length
    omega
  split; exact listN_in _
  split; exact listN_in _
  exact fun s hs => by cases hs
theorem pickN_mem (l : List Sl) (a : Int) : (pickN l a).1 = Sl.zero ∨ (pickN l a).1 ∈ l := by
  have key : ∀ pr, 0 ≤ Sl.findI pr l → l.getD (Sl.findI pr l).toNat Sl.zero ∈ l := fun pr h => by
    rcases findI_ways pr l with e | ⟨k, s, e, hk, hs, hd⟩
    · rw [e] at h; omega
    · rw [e, Int.toNat_natCast, hd]; exact List.mem_of_getElem? hs
  unfold pickN
  split
  · split
    · rename_i h
      exact .inr (key _ h.2)
    · split
      · rename_i h
        exact .inr (key _ h)
      · exact .inl rfl
  · exact .inl rfl
theorem sliceN_in (ys : List Int) (a : Int) : (sliceN ys a).1 + (sliceN ys a).2.1 ≤ ys.length := by
  unfold sliceN
  split
  · show (0 : Int) + 0 ≤ _; omega
  · split
    · show (0 : Int) + 0 ≤ _; omega
    · rcases pickN_mem (slicesN ys).1 a with h | h
      · rw [h]; show (0 : Int) + 0 ≤ _; omega
      · exact slicesN_in _ h
theorem zz : (0 : Int) ≤ 0 ∧ (0 : Int) < 18446744073709551616 := by decide
theorem sliceN_fits {ys : List Int} (h : Small ys) (a : Int) : (0 ≤ (sliceN ys a).1 ∧ (sliceN ys a).1 < 18446744073709551616) ∧ 0 ≤ (sliceN ys a).2.1 ∧ (sliceN ys a).2.1 < 18446744073709551616 := by
  unfold sliceN
  split
  · exact ⟨zz, zz⟩
  · split
    · exact ⟨zz, zz⟩
    · rcases pickN_mem (slicesN ys).1 a with h' | h'
      · rw [h']; exact ⟨zz, zz⟩
      · have := (slicesN_fits h).1 _ h'
        exact ⟨this.off, this.size⟩
end Go.Proofs.Ytdjakaiadggemaa
