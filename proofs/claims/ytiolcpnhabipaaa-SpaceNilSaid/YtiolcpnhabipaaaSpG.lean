/- Free: is no page there? By the numbers, and by the pages. No condition. -/
import Derived.Test.YtiolcpnhabipaaaSpF
namespace Go.Proofs.Ytiolcpnhabipaaa
open Go.RowKit Go.Maps Go.ChangeMaps
variable {w w' W : World} {F : Nat → Prop} {σ : Spc}

def freeB (σ : Spc) (f l : Nat) : Bool := (List.range (l + 1 - f)).all fun i => decide (σ.P (f + i) = 0)
theorem freeB_iff {f l : Nat} : freeB σ f l = true ↔ ∀ n, f ≤ n → n ≤ l → σ.P n = 0 := by
  unfold freeB
  rw [List.all_eq_true]
  constructor
  · intro h n h1 h2
    have := h (n - f) (List.mem_range.2 (by omega))
    rw [decide_eq_true_iff, show f + (n - f) = n by omega] at this
    exact this
  · intro h i hi
    rw [List.mem_range] at hi
    exact decide_eq_true (h _ (by omega) (by omega))
theorem freeB_no {f l n : Nat} (h1 : f ≤ n) (h2 : n ≤ l) (h : σ.P n ≠ 0) : freeB σ f l = false := by
  cases e : freeB σ f l
  · rfl
  · exact absurd (freeB_iff.1 e n h1 h2) h

set_option maxRecDepth 20000 in
theorem isBare_any {a : Nat} (h : SpcAt w F a σ) (f l : Nat) (hl : l < 34359738368) : Calls Try.prog 46 #[.pointer (some ⟨a, 0, none⟩), .int .u64 f, .int .u64 l] w fun e w' => e = .returned (.bool (freeB σ f l)) ∧ w = w' := by
  obtain ⟨_, _, mp, mq, hb, hm⟩ := h
  have c0 : w.cell? ⟨a, 0, none⟩ = some mp := by rw [cell_of hb]; rfl
  have HN := Lib.hid (fun (n : Nat) (h : n < 18446744073709551616) (h0 : σ.P n = 0) => hm.no h h0)
  have HP := Lib.hid (fun (n : Nat) (h : n < 18446744073709551616) (h0 : σ.P n ≠ 0) => hm.page h h0)
  clear hb hm
  go_enter Try.func46, Try.ntmps46
  go_wp2
  go_loop [7] (fun i => ∃ k : Nat, i = .int .u64 k ∧ f ≤ k ∧ (k ≤ l + 1 ∨ k = f) ∧ ∀ n, f ≤ n → n < k → σ.P n = 0) (fun i => (l + 1 - (intOf i).toNat))
  case atStart => exact ⟨f, rfl, Nat.le_refl _, .inr rfl, fun n h1 h2 => absurd h1 (by omega)⟩
  case round =>
    obtain ⟨k, rfl, hk1, hk2, hk3⟩ := hrel
    have HK := Lib.hid hk3
    clear hk3
    by_cases hkl : k ≤ l
    · have hlt : (k : Int) ≤ l := by omega
      by_cases h0 : σ.P k = 0
      · have hlook := HN.out k (by omega) h0
        have H0 := Lib.hid h0
        clear h0
        go_wp2
        go_round
        case rel => exact ⟨k + 1, by go_num, by omega, by omega, fun n h1 h2 => by
          by_cases e : n = k
          · rw [e]; exact H0.out
          · exact HK.out n h1 (by omega)⟩
        case measure => simp [intOf]; omega
      · obtain ⟨b, hlook, _, _⟩ := HP.out k (by omega) h0
        have hb := Lib.hid (freeB_no (f := f) hk1 hkl h0)
        clear h0
        go_wp2
        go_ret
        exact ⟨ret_bool (by rw [hb.out]), rfl⟩
    · have hlt : ¬ (k : Int) ≤ l := by omega
      have hb := Lib.hid (show freeB σ f l = true from freeB_iff.2 fun n h1 h2 => HK.out n h1 (by omega))
      go_wp2
      go_ret
      exact ⟨ret_bool (by rw [hb.out]), rfl⟩

set_option maxRecDepth 20000 in
theorem isApart_nil (f l : Nat) (w : World) : Calls Try.prog 47 #[.pointer none, .int .u64 f, .int .u64 l] w fun e w' => e = .returned (.bool true) ∧ w = w' := by
  go_enter Try.func47, Try.ntmps47
  go_wp2
  go_ret
  exact ⟨rfl, rfl⟩

set_option maxRecDepth 20000 in
theorem isApart_bare {a : Nat} (hb : w.heap[a]? = some (.cells #[.map none, .map none] 65 (0, 0))) (f l : Nat) : Calls Try.prog 47 #[.pointer (some ⟨a, 0, none⟩), .int .u64 f, .int .u64 l] w fun e w' => e = .returned (.bool true) ∧ w.grownBy w' none := by
  have c0 : w.cell? ⟨a, 0, none⟩ = some (.map none) := by rw [cell_of hb]; rfl
  have hg := Lib.hid (grown1 w (.mapIter none 0 #[] 0))
  have hrg := run_range_nilMap (P := Try.prog) w 62 24 73 Try.underlying62
  have hnx : ∀ ty, (Instr.next (.pointer (some ⟨w.heap.size, 0, none⟩)) false ty).run Try.prog (w.alloc (.mapIter none 0 #[] 0)) = _ := fun ty => run_next_nilMap w ty 0 0 #[]
  clear hb
  go_enter Try.func47, Try.ntmps47
  go_wp2
  refine wp_loop_rounds 1 ?_
  rw [rounds_succ]
  go_wp2
  go_ret
  exact ⟨rfl, hg.out⟩
end Go.Proofs.Ytiolcpnhabipaaa
