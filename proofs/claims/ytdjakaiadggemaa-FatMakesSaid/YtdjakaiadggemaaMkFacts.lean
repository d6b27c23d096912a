/- What is true of the file of parts: its bytes are bytes, and how many there are. No condition but each theorem's own. -/
import Derived.Test.YtdjakaiadggemaaRefMakeN
import Derived.Test.YtdjakaiadggemaaRefMakeW
namespace Go.Proofs.Ytdjakaiadggemaa
open Go.RowKit
variable {w w' : World}

theorem refmake_any (wide : Bool) (l : List Mb) (n : Nat) (hn : l.length = n) (hl : n ≤ 1000000) (p : Option Addr) (c : Nat) (hp : IsMbs w p l) (hfit : ∀ m ∈ l, m.Fits) (hb : ∀ m ∈ l, m.bytes.length ≤ 1100000) :
    Calls Try.prog 19 #[.bool wide, .slice p n c] w fun e w' => MkOut w w' (makeN wide l) e := by
  cases wide
  · exact refmake_false l n hn hl p c hp hfit hb
  · exact refmake_true l n hn hl p c hp hfit hb

theorem small_app {xs ys : List Int} (h : Small xs) (k : Small ys) : Small (xs ++ ys) := fun x hx => by
  rcases List.mem_append.1 hx with h1 | h1
  · exact h x h1
  · exact k x h1
theorem small_flat {α : Type} {f : α → List Int} {l : List α} (h : ∀ a ∈ l, Small (f a)) : Small (l.flatMap f) := fun x hx => by
  obtain ⟨a, ha, hxa⟩ := List.mem_flatMap.1 hx
  exact h a ha x hxa
theorem mg_small (wide : Bool) : Small (mg wide) := by cases wide <;> exact small_lit rfl
theorem putN_small (wide : Bool) (s : Sl) : Small (putN wide s) := by
  unfold putN
  exact small_app (bigN_small _ _) (small_app (bigN_small _ _) (small_app (bigN_small _ _) (small_app (bigN_small _ _) (small_app (bigN_small _ _) (bigN_small _ _)))))
theorem hdrN_small (wide : Bool) (n : Nat) (S : List Sl) (k : Nat) : Small (hdrN wide n S k) :=
  small_app (small_app (mg_small wide) (bigN_small _ _)) (small_flat fun s _ => putN_small wide s)
theorem zeros_small (n : Nat) : Small (List.replicate n 0) := fun x hx => by
  rw [List.eq_of_mem_replicate hx]; decide
theorem partsN_small {hdr : List Int} {S : List Sl} {l : List Mb} (hh : Small hdr) (hfit : ∀ m ∈ l, m.Fits) : ∀ k, Small (partsN hdr S l k)
  | 0 => hh
  | k + 1 => by
    show Small (partsN hdr S l k ++ List.replicate _ 0 ++ (l.getD k Mb.zero).bytes)
    refine small_app (small_app (partsN_small hh hfit k) (zeros_small _)) ?_
    rw [List.getD_eq_getElem?_getD]
    rcases h : l[k]? with _ | m
    · intro x hx; simp [Mb.zero] at hx
    · exact (hfit m (List.mem_of_getElem? h)).bytes

/-- The ways of it. -/
inductive MkWay (wide : Bool) (l : List Mb) : List Int × Int → Prop
  | arg : MkWay wide l ([], 2)
  | many : MkWay wide l ([], 11)
  | twice : MkWay wide l ([], 21)
  | file (h0 : 0 < l.length) (hl : l.length ≤ 32) (hal : ∀ m ∈ l, 0 ≤ m.align ∧ m.align ≤ 15) (hroom : Room (e0N wide l.length) l) (htw : ¬ Twin (spots (e0N wide l.length) l l.length)) :
      MkWay wide l (partsN (hdrN wide l.length (spots (e0N wide l.length) l l.length) l.length) (spots (e0N wide l.length) l l.length) l l.length, 0)
theorem makeN_way (wide : Bool) (l : List Mb) : MkWay wide l (makeN wide l) := by
  unfold makeN
  by_cases h1 : l.length = 0 ∨ l.any Mb.odd = true
  · rw [if_pos h1]; exact .arg
  rw [if_neg h1]
  by_cases h2 : 32 < l.length
  · rw [if_pos h2]; exact .many
  rw [if_neg h2]
  by_cases h3 : ¬ Room (e0N wide l.length) l
  · rw [if_pos h3]; exact .many
  rw [if_neg h3]
  by_cases h4 : Twin (spots (e0N wide l.length) l l.length)
  · rw [if_pos h4]; exact .twice
  rw [if_neg h4]
  refine .file (by omega) (by omega) (fun m hm => ?_) (Classical.not_not.1 h3) h4
  have h5 : l.any Mb.odd = false := by
    rcases h : l.any Mb.odd with _ | _
    · rfl
    · exact absurd (.inr h) h1
  have := (List.any_eq_false.1 h5) m hm
  simpa [Mb.odd] using this
theorem makeN_small (wide : Bool) {l : List Mb} (hfit : ∀ m ∈ l, m.Fits) : Small (makeN wide l).1 := by
  have h := makeN_way wide l
  revert h
  generalize makeN wide l = r
  rintro (_ | _ | _ | _)
  · intro x hx; cases hx
  · intro x hx; cases hx
  · intro x hx; cases hx
  · exact partsN_small (hdrN_small _ _ _ _) hfit _
theorem makeN_len (wide : Bool) (l : List Mb) : (makeN wide l).1.length ≤ 1048576 ∧ ((makeN wide l).2 = 0 → 8 ≤ (makeN wide l).1.length) ∧ ((makeN wide l).2 ≠ 0 → (makeN wide l).1 = []) ∧ 0 ≤ (makeN wide l).2 ∧ (makeN wide l).2 ≤ 21 := by
  have h := makeN_way wide l
  revert h
  generalize makeN wide l = r
  rintro (_ | _ | _ | ⟨h0, hl, hal, hroom, htw⟩)
  · exact ⟨by simp, fun h => by simp at h, fun _ => rfl, by simp, by simp⟩
  · exact ⟨by simp, fun h => by simp at h, fun _ => rfl, by simp, by simp⟩
  · exact ⟨by simp, fun h => by simp at h, fun _ => rfl, by simp, by simp⟩
  · have hp := partsN_len (hdr := hdrN wide l.length (spots (e0N wide l.length) l l.length) l.length) (e0 := e0N wide l.length) (l := l) rfl (by
      rw [hdrN_len _ _ _ _ (by rw [spots_len]; exact Nat.le_refl _)]; unfold e0N; omega) l.length (Nat.le_refl _)
    have hr := (room_iff (e0 := e0N wide l.length) h0).1 hroom
    rw [List.take_length] at hp
    have hm := endN_mono (e0 := e0N wide l.length) l 0 l.length (by omega) (Nat.le_refl _)
    rw [List.take_length] at hm
    have he : (8 : Int) ≤ endN (e0N wide l.length) (l.take 0) := by
      show 8 ≤ e0N wide l.length
      unfold e0N
      have : (0 : Int) ≤ (l.length : Int) * (esize wide : Nat) := Int.mul_nonneg (by omega) (by omega)
      omega
    generalize partsN _ _ l l.length = P at hp
    exact ⟨by show P.length ≤ _; omega, fun _ => by show 8 ≤ P.length; omega, fun h => absurd rfl h, by simp, by simp⟩
end Go.Proofs.Ytdjakaiadggemaa
