/- Numbers of four bytes laid one behind the other, by the program and by the document. No condition but that there are few. -/
import Derived.Test.YthdppaooemdmaaaCm
namespace Go.Proofs.Ythdppaooemdmaaa
open Go.RowKit
variable {w w' : World}

/-- Numbers, wherever they lie. -/
def IsU32s (w : World) (q : Option Addr) (ns : List Int) : Prop := 0 < ns.length → ∃ b o, q = some ⟨b, o, none⟩ ∧ ∀ i x, ns[i]? = some x → w.cell? ⟨b, o + i, none⟩ = some (.int .u32 x)
theorem IsU32s.grown {q : Option Addr} {ns : List Int} (h : IsU32s w q ns) (hg : w.grownBy w' none) : IsU32s w' q ns := fun hl => by
  obtain ⟨b, o, rfl, hc⟩ := h hl
  exact ⟨b, o, rfl, fun i x hx => hg.cell (hc i x hx) (by simp)⟩
theorem isU32s_at {g : Nat} {ns : List Int} {T : TypeId} (h : w.heap[g]? = some (.cells (ns.map (Value.int .u32)).toArray T (0, 0))) : IsU32s w (some ⟨g, 0, none⟩) ns := fun _ =>
  ⟨g, 0, rfl, fun i x hx => by rw [Nat.zero_add, cell_of h]; simp [hx]⟩
def puts4 (ns : List Int) : List Int := ns.flatMap le4
theorem puts4_len (ns : List Int) : (puts4 ns).length = 4 * ns.length := by
  induction ns with
  | nil => rfl
  | cons n ns ih => show (le4 n ++ puts4 ns).length = _; rw [List.length_append, ih, le4_len, List.length_cons]; omega
theorem puts4_take {ns : List Int} {k : Nat} {x : Int} (h : ns[k]? = some x) : puts4 (ns.take (k + 1)) = puts4 (ns.take k) ++ le4 x := by
  have hk : k < ns.length := by
    rcases Nat.lt_or_ge k ns.length with h1 | h1
    · exact h1
    · simp [h1] at h
  rw [List.getElem?_eq_getElem hk] at h
  injection h with h
  unfold puts4
  rw [List.take_succ_eq_append_getElem hk, List.flatMap_append, h]
  simp
theorem four_bytes (w : World) (a b c d : Int) : IsBytes (w.alloc (.cells #[.int .u8 a, .int .u8 b, .int .u8 c, .int .u8 d] 5)) (some ⟨w.heap.size, 0, none⟩) 4 [a, b, c, d] := by
  refine IsBytes.mk_at fun i hi => ?_
  rw [cell_of (heap_alloc_new w _), Nat.zero_add]
  have hi4 : i < 4 := hi
  match i, hi4 with
  | 0, _ => rfl
  | 1, _ => rfl
  | 2, _ => rfl
  | 3, _ => rfl
/-- A row of one's own that is not nil is one whatever mark it bears. -/
theorem OwnM.of_own {base n : Nat} {q : Option Addr} {c : Nat} {xs : List Int} (hn : 0 < n) (hl : xs.length = n) (h : w.ownsRow base 5 1 (.slice q n c) n (xs.map (Value.int .u8))) : ∃ g, q = some ⟨g, 0, none⟩ ∧ OwnM w base g n c xs := by
  have h' := h
  obtain ⟨_, hx | ⟨g, cap, cur, hv, hb, hg, hle, hm, hs, ht⟩⟩ := h
  · omega
  injection hv with e1 _ e3
  subst e1 e3
  refine ⟨g, rfl, hb, lt_of_block hg, hle, hl, hm, fun j hj => ?_, fun j _ => free_of hg, fun j hj => ?_⟩
  · rw [cell_of hg, Array.getElem?_eq_getElem (by rw [hs]; omega)]; rfl
  · have hc := h'.cells (g := g) rfl j (.int .u8 (xs.getD j 0)) (by simp [hl, hj])
    rw [add_flat, Nat.zero_add] at hc
    exact hc

set_option maxHeartbeats 800000 in
theorem put_any (ns : List Int) (n : Nat) (hn : ns.length = n) (h0 : 0 < n) (hl : n ≤ 1000) (hr : ∀ x ∈ ns, 0 ≤ x ∧ x < 4294967296) (q : Option Addr) (c : Nat) (hq : IsU32s w q ns) :
    Calls Try.prog 43 #[.slice none 0 0, .slice q n c] w fun e w' => ∃ g cap, e = .returned (.slice (some ⟨g, 0, none⟩) (4 * n) cap) ∧ OwnM w' w.heap.size g (4 * n) cap (puts4 ns) ∧ w.grownBy w' none := by
  have HN := Lib.hid hn
  have HR := Lib.hid hr
  have HQ := Lib.hid hq
  clear hn hr hq
  go_enter Try.func43, Try.ntmps43
  go_wp2
  go_loopw [0, 9] (fun v i wr => ∃ k : Nat, k ≤ n ∧ i = .int .i64 k ∧ wr.ownsRow w.heap.size 5 1 v (4 * k) ((puts4 (ns.take k)).map (Value.int .u8)) ∧ w.grownBy wr none) (fun _ i _ => n - (intOf i).toNat)
  case atStart => exact ⟨0, Nat.zero_le _, rfl, World.ownsRow_nil _ _ _ _, grown_refl _ _⟩
  case round =>
    obtain ⟨k, hk, rfl, hown, hg⟩ := hrel
    obtain ⟨qv, cv, rfl⟩ := own_slice hown
    by_cases hlt : k < n
    · obtain ⟨x, hx⟩ : ∃ x, ns[k]? = some x := ⟨_, List.getElem?_eq_getElem (by rw [HN.out]; exact hlt)⟩
      have hxr := HR.out x (List.mem_of_getElem? hx)
      obtain ⟨b, o, rfl, hc⟩ := (HQ.out.grown hg) (by rw [HN.out]; omega)
      have cx := hc k x hx
      have PT := Lib.hid (puts4_take hx)
      have OW := Lib.hid hown
      have G := Lib.hid hg
      clear hc hx hown hg
      have OA := Lib.hid (OW.out.alloc (.cells #[.int .u8 (x % 256), .int .u8 (x / 256 % 256), .int .u8 (x / 65536 % 256), .int .u8 (x / 16777216)] 5))
      have GA := Lib.hid (grown_trans G.out (grown1 wr (.cells #[.int .u8 (x % 256), .int .u8 (x / 256 % 256), .int .u8 (x / 65536 % 256), .int .u8 (x / 16777216)] 5)))
      have FB := Lib.hid (four_bytes wr (x % 256) (x / 256 % 256) (x / 65536 % 256) (x / 16777216))
      have hL : le4 x = [x % 256, x / 256 % 256, x / 65536 % 256, x / 16777216] := by
        unfold le4
        rw [show x / 16777216 % 256 = x / 16777216 by omega]
      have HL := Lib.hid hL
      have BZ := Lib.hid GA.out.size
      clear hL
      go_wp2_with (at_builtin; refine wp_append_bytes rfl _ _ rfl rfl _ _ _ rfl OA.out [x % 256, x / 256 % 256, x / 65536 % 256, x / 16777216] 4 rfl rfl FB.out (by omega) BZ.out ?_)
      intro v' w6 ho hg6
      have E1 := Lib.hid (show w6.ownsRow w.heap.size 5 1 v' (4 * (k + 1)) ((puts4 (ns.take (k + 1))).map (Value.int .u8)) by
        rw [PT.out, HL.out, List.map_append]
        exact ho)
      have E2 := Lib.hid (grown_own GA.out hg6 (fun g hg => (OA.out.lt g hg).1) (Nat.le_refl _))
      clear ho hg6
      go_wp2
      go_roundw
      case rel => exact ⟨k + 1, by omega, by go_num, E1.out, E2.out⟩
      case measure => simp [intOf]; omega
    · have hkn : k = n := by omega
      subst hkn
      have hl4 : (puts4 (ns.take k)).length = 4 * k := by rw [puts4_len, List.length_take, HN.out, Nat.min_self]
      obtain ⟨g, rfl, hO⟩ := OwnM.of_own (by omega) hl4 hown
      rw [List.take_of_length_le (by rw [HN.out]; exact Nat.le_refl _)] at hO
      have E := Lib.hid hO
      have G := Lib.hid hg
      clear hO hown hg hl4
      go_wp2
      go_ret
      exact ⟨_, _, rfl, E.out, G.out⟩
end Go.Proofs.Ythdppaooemdmaaa
