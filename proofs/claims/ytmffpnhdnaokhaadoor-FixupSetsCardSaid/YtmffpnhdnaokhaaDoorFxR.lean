/- Fixups sorted by the program's order: slices.SortFunc at fixups. Condition: they lie in a row of one's own. -/
import Derived.Test.YtmffpnhdnaokhaaDoorFxD
import Derived.Test.YtmffpnhdnaokhaaDoorFxS
import Derived.Test.YtmffpnhdnaokhaaDoorSortK
import Derived.Test.YtmffpnhdnaokhaaDoorSortFx
import Derived.Lib.QuietBelow
namespace Go.Proofs.YtmffpnhdnaokhaaDoor
open Go.RowKit Go.Sort Go.Shelf
variable {w w' W V : World}

theorem own_sorted {α : Type} [Inhabited α] {T : TypeId} {k n c g lo m : Nat} {f : α → List Value} {xs : List Value} {d : Array α} {os : Array Obj} (hf : ∀ x, (f x).length = k) (hk : 0 < k) (h : w.ownsRow lo T k (.slice (some ⟨g, 0, none⟩) n c) n xs) (hd : d.size = n) :
    (sortWorldK f k w g 0 m d os).ownsRow lo T k (.slice (some ⟨g, 0, none⟩) n c) n (d.toList.flatMap f) := by
  obtain ⟨hB, hn | ⟨g', cap, cur, hv, hg', hb, h1, h2, h3, h4⟩⟩ := h
  · cases hn.1
  · injection hv with e1 e2 e3
    injection e1 with e1
    injection e1 with e1 _ _
    subst e1 e3
    have hlt := lt_of_block hb
    have hsz : (flatK f k d).size = n * k := by rw [size_flatK, hd]
    refine ⟨?_, .inr ⟨g, c, putCells id 0 (flatK f k d) cur, rfl, hg', ?_, h1, h2, ?_, ?_⟩⟩
    · rw [flat_len hf, Array.length_toList, hd]
    · simp only [sortWorldK, grow, putRowK, putRow, mapBlock, Sort.ahead]
      rw [Array.getElem?_append_left (by rw [Array.size_modify]; exact hlt), Array.getElem?_modify, if_pos rfl, hb]
      rfl
    · unfold putCells
      rw [Array.size_mapIdx, h3]
    · apply List.ext_getElem?
      intro t
      by_cases ht : t < n * k
      · have hd' : t / k < d.toList.length := by rw [Array.length_toList, hd]; exact Nat.div_lt_of_lt_mul (by rw [Nat.mul_comm]; exact ht)
        have hm : t % k < k := Nat.mod_lt _ hk
        have hx : d.toList[t / k]? = some (d.toList[t / k]'hd') := List.getElem?_eq_getElem hd'
        have hfa := flat_at hf d.toList (t / k) (t % k) _ hx hm
        rw [show t / k * k + t % k = t by rw [Nat.mul_comm]; exact Nat.div_add_mod t k] at hfa
        have hc : t < cur.size := by rw [h3]; exact Nat.lt_of_lt_of_le ht (Nat.mul_le_mul_right k h1)
        rw [hfa, List.getElem?_take_of_lt ht]
        unfold putCells
        rw [Array.getElem?_toList, Array.getElem?_mapIdx, Array.getElem?_eq_getElem hc, Option.map_some, if_pos ⟨Nat.zero_le _, by rw [hsz]; omega⟩, Nat.sub_zero, get_flatK _ _ _ _ (by rw [hd]; exact ht)]
        have hdd : t / k < d.size := by simpa using hd'
        rw [getElem!_pos d (t / k) hdd, getElem!_pos (f d[t / k]) (t % k) (by rw [hf]; exact hm), List.getElem?_eq_getElem (by rw [hf]; exact hm)]
        rfl
      · rw [List.getElem?_eq_none (by rw [List.length_take]; omega), List.getElem?_eq_none (by rw [flat_len hf, Array.length_toList, hd]; omega)]
theorem grew_grow (h : Grew w w') : ∃ q os', w' = grow (w.drewN q) os' := by
  obtain ⟨hg, hd⟩ := h
  refine ⟨0, w'.heap.extract w.heap.size w'.heap.size, ?_⟩
  obtain ⟨p, hp⟩ := regrown_of_below (below_grown hg (Nat.le_refl _) (fun k e => by cases e) : Go.RowKit.Below w.heap.size w w')
  have e : p.d = w.drawn := by rw [← hd, hp]; rfl
  have e2 : w'.heap.extract w.heap.size w'.heap.size = p.os := by
    rw [hp]
    simp [grow, redrawn]
  rw [e2, hp, e]
  rfl
instance : Inhabited Fx := ⟨fx0⟩
theorem swoFx : SWO (ltOf ordN) where
  irrefl x := by show decide (ordN x x < 0) = false; rw [ord_self]; rfl
  trans x y z h1 h2 := by
    have a : LtF x y := by unfold LtF; simpa [ltOf] using h1
    have b : LtF y z := by unfold LtF; simpa [ltOf] using h2
    have := ltF_trans a b
    simpa [ltOf, LtF] using this
  ntrans x y z h1 h2 := by
    have a : 0 ≤ ordN x y := by simpa [ltOf] using h1
    have b : 0 ≤ ordN y z := by simpa [ltOf] using h2
    have a' := held_ord.anti x y
    have b' := held_ord.anti y z
    have c' := held_ord.anti x z
    have t := held_ord.trans z y x (by omega) (by omega)
    have : 0 ≤ ordN x z := by omega
    simpa [ltOf] using this
theorem ord_lays (blk off size : Nat) (w : World) : CmpLays Tryd.prog 11 #[] fxCs 7 ordN blk off size w := fun _ _ _ _ x y => (order_grew x y _).mono fun _ _ h => ⟨h.1, grew_grow h.2⟩
def ordV : Value := .func (.func 11) #[] #[]
/-! The sort, of nothing. -/
theorem insNoneF (p : Option Addr) (cap : Nat) (W : World) : Calls Tryd.prog 106 #[.slice p 0 cap, .int .i64 0, .int .i64 0, .func (.func 11) #[] #[]] W fun e w' => e = .returned (.tuple #[]) ∧ w' = W := by
  go_enter Tryd.func106, Tryd.ntmps106
  go_wp2
  refine wp_loop_rounds 1 ?_
  rw [rounds_succ]
  go_wp2
  go_end0
  exact ⟨rfl, rfl⟩
set_option maxRecDepth 20000 in
theorem pdqNoneF (p : Option Addr) (cap : Nat) (lim : Int) (W : World) : Calls Tryd.prog 84 #[.slice p 0 cap, .int .i64 0, .int .i64 0, .int .i64 lim, .func (.func 11) #[] #[]] W fun e w' => e = .returned (.tuple #[]) ∧ w' = W := by
  have I := Lib.hid (fun V => insNoneF p cap V)
  go_enter Tryd.func84, Tryd.ntmps84
  go_wp2_with fail
  refine wp_loop_rounds 1 ?_
  rw [rounds_succ]
  go_wp2_with fail
  refine (I.out _).mono ?_
  rintro e w' ⟨rfl, rfl⟩
  go_wp2
  (try simp only [Exit.inBlock, Exit.then])
  refine bodyPost_ret (results_none rfl _ _ _) rfl ?_
  exact ⟨rfl, rfl⟩
theorem sortNoneF (p : Option Addr) (cap : Nat) (W : World) : Calls Tryd.prog 63 #[.slice p 0 cap, .func (.func 11) #[] #[]] W fun e w' => e = .returned (.tuple #[]) ∧ w' = W := by
  have P := Lib.hid (fun lim V => pdqNoneF p cap lim V)
  have L := Lib.hid (fun V => (show Calls Tryd.prog 85 #[.int .u64 0] V fun e w' => e = .returned (.int .i64 (Lib.bitLen 0 : Nat)) ∧ w' = V from
    Go.Proofs.Any.bits_Len (Go.Proofs.SlLaysF0.n15.bits (P := Tryd.prog) (ρ := Tryd.sortFx_ren) { Tryd.sortFx with }) 0 V (by omega) (by omega)))
  go_enter Tryd.func63, Tryd.ntmps63
  go_wp2_with fail
  refine (L.out _).mono ?_
  rintro e w' ⟨rfl, rfl⟩
  go_wp2_with fail
  refine (P.out _ _).mono ?_
  rintro e w' ⟨rfl, rfl⟩
  go_wp2
  go_end0
  exact ⟨rfl, rfl⟩
/-- Sorted: a permutation in order, in the same row. -/
structure SrtF (w w' : World) (lo n c : Nat) (q : Option Addr) (l : List Fx) : Prop where
  ex : ∃ R : List Fx, R.Perm l ∧ (R.Pairwise fun a b => ordN a b ≤ 0) ∧ w'.ownsRow lo 26 7 (.slice q n c) n (R.flatMap fxCs)
  grown : w.grownBy w' (Value.slice q n c).ownBlock
theorem sortF_any {lo n c g : Nat} {l : List Fx} (h : w.ownsRow lo 26 7 (.slice (some ⟨g, 0, none⟩) n c) n (l.flatMap fxCs)) (hl : l.length = n) (hn : n ≤ 1000000000) :
    Calls Tryd.prog 63 #[.slice (some ⟨g, 0, none⟩) n c, .func (.func 11) #[] #[]] w fun e w' => e = .returned (.tuple #[]) ∧ SrtF w w' lo n c (some ⟨g, 0, none⟩) l := by
  have HK := holdsK_own fxCs_len h
  have hlt2 := h.lt g rfl
  have hsz : l.toArray.size = n := by simpa using hl
  have hcon := AnyQ.slices_SortFunc Tryd.sortFx 7 Tryd.isAgg26 Tryd.sizeOf26 fxCs fxCs_len fxCs_one ordN swoFx 11 #[] g 0 c l.toArray w (enters_of Tryd.func11 (by kernel_rfl) rfl) (ord_lays g 0 _ w) HK hlt2.2 (by rw [hsz]; omega)
  change Calls Tryd.prog 63 _ _ _ at hcon
  rw [hsz] at hcon
  refine hcon.mono ?_
  rintro e w9 ⟨rfl, d', n9, os9, hp, hs, rfl⟩
  rw [← hsz] at hp hs
  obtain ⟨p1, p2, p3⟩ := perm_list hp hs
  have e1 : l.toArray.toList = l := by simp
  rw [e1] at p1
  refine ⟨rfl, ⟨d'.toList, p1, ?_, own_sorted fxCs_len (by decide) h (p2.trans hsz)⟩, grown_sort fxCs 7 w g 0 n9 d' os9⟩
  rw [List.pairwise_iff_getElem]
  intro i j hi hj hij
  have hi' : i < d'.size := by simpa using hi
  have hj' : j < d'.size := by simpa using hj
  have := p3 i j hij hj'
  rw [getElem!_pos d' i hi', getElem!_pos d' j hj'] at this
  have h0 : 0 ≤ ordN d'[j] d'[i] := by simpa [ltOf] using this
  have := held_ord.anti d'[i] d'[j]
  simp only [Array.getElem_toList]
  omega
end Go.Proofs.YtmffpnhdnaokhaaDoor
