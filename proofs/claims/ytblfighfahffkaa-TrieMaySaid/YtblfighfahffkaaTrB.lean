/- A walk over a trie from its root on: trie.walk. Conditions: what is told of a node is a function by its contract (MeetOk); the bytes lie in memory, apart from what that function turns. -/
import Derived.Test.YtblfighfahffkaaTrV
import Derived.Laws.EntriesVeiled
namespace Go.Proofs.Ytblfighfahffkaa
open Go.RowKit
variable {w w' W V : World} {xs : List Int}

def walkN {S : Type} (xs : List Int) (mt : Mt S) (s : S) : Int × S := if xs = [] then (0, s) else ((vis xs mt 257 [] [] 0 (0, s)).1, (vis xs mt 257 [] [] 0 (0, s)).2.2)
structure WOut (S : Type) (Fine : S → Prop) (Inv : World → (Nat → Prop) → S → Prop) (G : Nat → Prop) (W W' : World) (r : Int × S) (e : Ending) : Prop where
  ret : e = .returned (.int .i64 r.1)
  ex : ∃ G', Inv W' G' r.2 ∧ ∀ k, G' k → G k ∨ W.heap.size ≤ k
  chg : Chg G W W'
  few : r.1 = 0 → Fine r.2
section
variable {S : Type} {mt : Mt S} {Pre : List Int → Prop} {Fine : S → Prop} {Inv : World → (Nat → Prop) → S → Prop} {fm : Nat} {cbs : Array Value}
set_option maxRecDepth 20000 in
set_option maxHeartbeats 1600000 in
theorem walk_any (M : MeetOk S fm cbs mt Pre Fine Inv) (hp : Pre []) {G : Nat → Prop} {s : S} (hfs : Fine s) (hi : Inv W G s) (hG : ∀ k, G k → k < W.heap.size) {b o c : Nat} (hx : ∀ i, i < xs.length → W.cell? ⟨b, o + i, none⟩ = some (.int .u8 (xs.getD i 0))) (hn : xs ≠ []) (hgb : ¬ G b)
    (hb : Byt xs) (hc : xs.length ≤ c) (hcm : c ≤ 9223372036854775807) (hbig : xs.length ≤ 140737488355328) :
    Calls Try.prog 20 #[.slice (some ⟨b, o, none⟩) xs.length c, .func (.func fm) #[] cbs] W fun e W' => WOut S Fine Inv G W W' (walkN xs mt s) e := by
  have hz : 0 < xs.length := by
    cases xs with
    | nil => exact absurd rfl hn
    | cons => simp
  have hbl := World.block_lt_of_cell? W _ (hx 0 hz)
  simp only at hbl
  have dz : decide ((xs.length : Int) = 0) = false := by simp; omega
  have dz2 : ((xs.length : Int) == 0) = false := by rw [beq_eq_false_iff_ne]; omega
  obtain ⟨n, hn'⟩ : ∃ n, n = W.heap.size := ⟨_, rfl⟩
  rw [← hn'] at hbl hG
  have g0 := grown1 W (.cells #[.slice (some ⟨b, o, none⟩) xs.length c] 22)
  have o0 := OneAt.new W (.slice (some ⟨b, o, none⟩) xs.length c) 22
  have z0 : (W.alloc (.cells #[.slice (some ⟨b, o, none⟩) xs.length c] 22)).heap.size = n + 1 := by rw [World.size_alloc, hn']
  rw [← hn'] at o0
  obtain ⟨V0, hV0⟩ : ∃ V0, W.alloc (.cells #[.slice (some ⟨b, o, none⟩) xs.length c] 22) = V0 := ⟨_, rfl⟩
  rw [hV0] at g0 o0 z0
  have g1 := grown1 V0 (.cells #[.func (.func fm) #[] cbs] 54)
  have o1 := OneAt.new V0 (.func (.func fm) #[] cbs) 54
  have z1 : (V0.alloc (.cells #[.func (.func fm) #[] cbs] 54)).heap.size = n + 1 + 1 := by rw [World.size_alloc, z0]
  rw [z0] at o1
  obtain ⟨V1, hV1⟩ : ∃ V1, V0.alloc (.cells #[.func (.func fm) #[] cbs] 54) = V1 := ⟨_, rfl⟩
  rw [hV1] at g1 o1 z1
  have g2 := grown1 V1 (.cells #[.int .i64 0] 3)
  have o2 := OneAt.new V1 (.int .i64 0) 3
  have z2 : (V1.alloc (.cells #[.int .i64 0] 3)).heap.size = n + 1 + 1 + 1 := by rw [World.size_alloc, z1]
  rw [z1] at o2
  obtain ⟨V2, hV2⟩ : ∃ V2, V1.alloc (.cells #[.int .i64 0] 3) = V2 := ⟨_, rfl⟩
  rw [hV2] at g2 o2 z2
  have g3 := grown1 V2 (.cells #[.slice none 0 0] 85)
  have o3 := OneAt.new V2 (.slice none 0 0) 85
  have z3 : (V2.alloc (.cells #[.slice none 0 0] 85)).heap.size = n + 1 + 1 + 1 + 1 := by rw [World.size_alloc, z2]
  rw [z2] at o3
  obtain ⟨V3, hV3⟩ : ∃ V3, V2.alloc (.cells #[.slice none 0 0] 85) = V3 := ⟨_, rfl⟩
  rw [hV3] at g3 o3 z3
  have g4 := grown1 V3 (.cells #[.nilFunc] 86)
  have o4 := OneAt.new V3 .nilFunc 86
  have z4 : (V3.alloc (.cells #[.nilFunc] 86)).heap.size = n + 1 + 1 + 1 + 1 + 1 := by rw [World.size_alloc, z3]
  rw [z3] at o4
  obtain ⟨V4, hV4⟩ : ∃ V4, V3.alloc (.cells #[.nilFunc] 86) = V4 := ⟨_, rfl⟩
  rw [hV4] at g4 o4 z4
  have g5 := grown_setCell (i := 0) (grown_refl V4 (some (n + 1 + 1 + 1 + 1))) (.func (.func 42) #[] #[.pointer (some ⟨n + 1 + 1, 0, none⟩), .pointer (some ⟨n + 1 + 1 + 1, 0, none⟩), .pointer (some ⟨n, 0, none⟩), .pointer (some ⟨n + 1, 0, none⟩), .pointer (some ⟨n + 1 + 1 + 1 + 1, 0, none⟩)])
  have o5 := o4.set (.func (.func 42) #[] #[.pointer (some ⟨n + 1 + 1, 0, none⟩), .pointer (some ⟨n + 1 + 1 + 1, 0, none⟩), .pointer (some ⟨n, 0, none⟩), .pointer (some ⟨n + 1, 0, none⟩), .pointer (some ⟨n + 1 + 1 + 1 + 1, 0, none⟩)])
  have c4 := o4.c
  have f4 := o4.f
  have l4 := o4.lt
  obtain ⟨V5, hV5⟩ : ∃ V5, V4.setCell ⟨n + 1 + 1 + 1 + 1, 0, none⟩ (.func (.func 42) #[] #[.pointer (some ⟨n + 1 + 1, 0, none⟩), .pointer (some ⟨n + 1 + 1 + 1, 0, none⟩), .pointer (some ⟨n, 0, none⟩), .pointer (some ⟨n + 1, 0, none⟩), .pointer (some ⟨n + 1 + 1 + 1 + 1, 0, none⟩)]) = V5 := ⟨_, rfl⟩
  rw [hV5] at g5 o5
  have g04 := grown_trans (grown_trans (grown_trans (grown_trans g0 g1) g2) g3) g4
  have g14 := grown_trans (grown_trans (grown_trans g1 g2) g3) g4
  have ch5 : Chg (fun k => n < k) W V5 := (Chg.of_grown g04 (fun b e => by cases e)).trans (Chg.of_grown g5 (fun b e => by injection e with e; exact .inl (by omega)))
  have s5 : V5.heap.size = n + 1 + 1 + 1 + 1 + 1 := by rw [← hV5, ← z4]; simp
  have ne4 : ∀ k, k ≠ n + 1 + 1 + 1 + 1 → (some (n + 1 + 1 + 1 + 1) : Option Nat) ≠ some k := fun k hk e => by injection e with e; omega
  have K5 := Lib.hid (show Wk S ⟨0, n + 1 + 1, n + 1 + 1 + 1, n, n + 1, n + 1 + 1 + 1 + 1, b, o, c, fm, cbs⟩ xs Inv V5 (fun k => G k ∨ k = n + 1 + 1 ∨ k = n + 1 + 1 + 1) 0 [] s from
    { met := ((o2.grown g3).grown g4).kept g5 (ne4 _ (by omega))
      way := ⟨none, 0, (o3.grown g4).kept g5 (ne4 _ (by omega)), World.ownsRow_nil _ _ _ _, fun g e => by cases e⟩
      inv := ⟨G, fun k hk => .inl hk, M.kept _ _ _ _ _ hi ch5 (fun k hk e => by have := hG k hk; omega), fun hk => by have := hG _ hk; simp only at this; omega, fun hk => by have := hG _ hk; simp only at this; omega, fun q n' cap e g eg hk => by
        rw [((o3.grown g4).kept g5 (ne4 _ (by omega))).c] at e
        injection e with e; injection e with e1 e2 e3; subst e1; cases eg⟩
      fmet := .inr (.inl rfl)
      fway := .inr (.inr rfl)
      fb := fun k hk => ⟨Nat.zero_le _, by rw [s5]; rcases hk with hk | hk | hk; have := hG k hk; omega; omega; omega⟩
      bb := (o0.grown g14).kept g5 (ne4 _ (by omega))
      me := (((o1.grown g2).grown g3).grown g4).kept g5 (ne4 _ (by omega))
      vi := o5
      nb := fun hk => hk.elim (fun hk => by have := hG _ hk; simp only at this; omega) (fun hk => by simp only at hk; omega)
      nm := fun hk => hk.elim (fun hk => by have := hG _ hk; simp only at this; omega) (fun hk => by simp only at hk; omega)
      nv := fun hk => hk.elim (fun hk => by have := hG _ hk; simp only at this; omega) (fun hk => by simp only at hk; omega)
      cell := fun i hi => cell_chg (hx i hi) ch5 (by simp only; omega)
      nx := fun hk => hk.elim hgb (fun hk => by simp only at hk; omega)
      ne := by simp only; omega
      nz := hz })
  have CALL := Lib.hid (visit_any (z := ⟨0, n + 1 + 1, n + 1 + 1 + 1, n, n + 1, n + 1 + 1 + 1 + 1, b, o, c, fm, cbs⟩) M hb hc hcm hbig 257 V5 _ 0 [] s [] 0 (by simp) (by simp) hp (Int.le_refl _) (by decide) (by omega) (Nat.le_refl _) hfs K5.out)
  have CE := Lib.hid ch5
  have v5 := o5.c
  have HW := Lib.hid (And.intro hV0 (And.intro hV1 (And.intro hV2 (And.intro hV3 (And.intro hV4 hV5)))))
  have HN := Lib.hid hn'
  have hwn : walkN xs mt s = ((vis xs mt 257 [] [] 0 (0, s)).1, (vis xs mt 257 [] [] 0 (0, s)).2.2) := if_neg hn
  have WN := Lib.hid hwn
  clear g0 g1 g2 g3 g4 g5 o0 o1 o2 o3 o4 o5 z0 z1 z2 z3 z4 hV0 hV1 hV2 hV3 hV4 hV5 g04 g14 ch5 s5 ne4 K5 hi hG hx hgb hn' hwn hn
  simp only [] at CALL
  rw [show strOfNums [] = (⟨#[]⟩ : ByteArray) from rfl] at CALL
  go_enter Try.func20, Try.ntmps20
  go_upto_region 6 with fail
  rw [← HN.out, HW.out.1, HW.out.2.1, HW.out.2.2.1, HW.out.2.2.2.1, HW.out.2.2.2.2.1]
  go_upto_region 7 with fail
  rw [HW.out.2.2.2.2.2]
  go_wp2_with fail
  refine CALL.out.mono ?_
  rintro e w' ⟨rfl, ⟨F', k', f'⟩, c', few⟩
  obtain ⟨G', b1, b2, _, _, _⟩ := k'.inv
  have FN := Lib.hid (show WOut S Fine Inv G W w' (walkN xs mt s) (.returned (.int .i64 (vis xs mt 257 [] [] 0 (0, s)).1)) by
    rw [WN.out]
    refine ⟨rfl, ⟨G', b2, fun k hk => ?_⟩, ?_, fun h => (few h).2⟩
    · have hs := CE.out.size
      have hnn := HN.out
      rcases f' k (b1 k hk) with h | h
      · rcases h with h | h
        · exact .inl h
        · exact .inr (by omega)
      · exact .inr (by omega)
    · have ce := CE.out
      have hnn := HN.out
      exact ⟨c'.os.trans ce.os, c'.tape.trans ce.tape, c'.output.trans ce.output, Nat.le_trans ce.size c'.size, fun i hi hf => (c'.block i (Nat.lt_of_lt_of_le hi ce.size) (fun e => e.elim hf (fun e => by omega))).trans (ce.block i hi (by omega))⟩)
  generalize (vis xs mt 257 [] [] 0 (0, s)).1 = r at *
  clear k' f' c' few b1 b2
  go_wp2
  go_ret
  exact FN.out

/-- Of no bytes. -/
theorem walk_no (q : Option Addr) (c fm : Nat) (cbs : Array Value) :
    Calls Try.prog 20 #[.slice q 0 c, .func (.func fm) #[] cbs] W fun e W' => e = .returned (.int .i64 0) ∧ W.grownBy W' none := by
  go_enter Try.func20, Try.ntmps20
  go_wp2
  go_ret
  exact ⟨rfl, grown_trans (grown1 W _) (grown1 _ _)⟩
end
end Go.Proofs.Ytblfighfahffkaa
