/- What trie.All answers. Conditions: the bytes lie in memory. -/
import Derived.Test.YtblfighfahffkaaTrO
namespace Go.Proofs.Ytblfighfahffkaa
open Go.RowKit Go.Sort
variable {w w' W V : World} {xs : List Int}

/-- Exports, by their cells. -/
def RowEx (w : World) (q : Option Addr) (D : Out) : Prop := ∀ i y, D[i]? = some y → ∃ g, q = some ⟨g, 0, none⟩ ∧ ∀ j, j < 7 → w.cell? ⟨g, i * 7 + j, none⟩ = (outCs y)[j]?
theorem RowEx.of {lo n c : Nat} {q : Option Addr} {D : Out} (h : w.ownsRow lo 33 7 (.slice q n c) n (D.flatMap outCs)) : RowEx w q D := fun i y hy => by
  obtain ⟨g, e, _⟩ := row_cell outCs_len h hy (j := 0) (by decide)
  refine ⟨g, e, fun j hj => ?_⟩
  obtain ⟨g', e', h'⟩ := row_cell outCs_len h hy hj
  rw [e] at e'
  injection e' with e'
  injection e' with e' _ _
  subst e'
  exact h'
theorem RowEx.hold {g : Nat} {d : Array (List Int × Ex)} (h : HoldsK outCs 7 w g 0 d) : RowEx w (some ⟨g, 0, none⟩) d.toList := fun i y hy => by
  refine ⟨g, rfl, fun j hj => ?_⟩
  obtain ⟨hi, rfl⟩ := List.getElem?_eq_some_iff.1 hy
  have hi' : i < d.size := by simpa using hi
  have h0 := (h.cell hi' (c := j) hj).1
  rw [Nat.zero_add] at h0
  rw [h0, getElem!_pos d i hi']
  simp only [Array.getElem_toList]
  have hl : j < (outCs d[i]).length := hj
  rw [List.getElem?_eq_getElem hl, getElem!_pos _ j hl]
theorem RowEx.grown {q : Option Addr} {D : Out} (h : RowEx w q D) (hg : w.grownBy w' none) : RowEx w' q D := fun i y hy => by
  obtain ⟨g, e, hc⟩ := h i y hy
  refine ⟨g, e, fun j hj => ?_⟩
  have hl : j < (outCs y).length := hj
  have := hc j hj
  rw [List.getElem?_eq_getElem hl] at this ⊢
  exact grown_cell hg this
theorem RowEx.nil {q : Option Addr} : RowEx w q [] := fun i y hy => by simp at hy
/-! The sort, of nothing. -/
theorem insNone (p : Option Addr) (cap : Nat) (W : World) : Calls Try.prog 69 #[.slice p 0 cap, .int .i64 0, .int .i64 0, .func (.func 23) #[] #[]] W fun e w' => e = .returned (.tuple #[]) ∧ w' = W := by
  go_enter Try.func69, Try.ntmps69
  go_wp2
  refine wp_loop_rounds 1 ?_
  rw [rounds_succ]
  go_wp2
  go_end0
  exact ⟨rfl, rfl⟩
set_option maxRecDepth 20000 in
theorem pdqNone (p : Option Addr) (cap : Nat) (lim : Int) (W : World) : Calls Try.prog 45 #[.slice p 0 cap, .int .i64 0, .int .i64 0, .int .i64 lim, .func (.func 23) #[] #[]] W fun e w' => e = .returned (.tuple #[]) ∧ w' = W := by
  have I := Lib.hid (fun V => insNone p cap V)
  go_enter Try.func45, Try.ntmps45
  go_wp2_with fail
  refine wp_loop_rounds 1 ?_
  rw [rounds_succ]
  go_wp2_with fail
  refine (I.out _).mono ?_
  rintro e w' ⟨rfl, rfl⟩
  go_wp2
  (try simp only [Exit.inBlock, Exit.then])
  refine bodyPost_ret (results_none rfl _ _ _) rfl ?_
  exact ⟨rfl, rfl⟩
theorem sortNone (p : Option Addr) (cap : Nat) (W : World) : Calls Try.prog 22 #[.slice p 0 cap, .func (.func 23) #[] #[]] W fun e w' => e = .returned (.tuple #[]) ∧ w' = W := by
  have P := Lib.hid (fun lim V => pdqNone p cap lim V)
  have L := Lib.hid (fun V => (show Calls Try.prog 46 #[.int .u64 0] V fun e w' => e = .returned (.int .i64 (Lib.bitLen 0 : Nat)) ∧ w' = V from
    Go.Proofs.Any.bits_Len (Go.Proofs.SlLaysF0.n15.bits (P := Try.prog) (ρ := Try.sortExp_ren) { Try.sortExp with }) 0 V (by omega) (by omega)))
  go_enter Try.func22, Try.ntmps22
  go_wp2_with fail
  refine (L.out _).mono ?_
  rintro e w' ⟨rfl, rfl⟩
  go_wp2_with fail
  refine (P.out _ _).mono ?_
  rintro e w' ⟨rfl, rfl⟩
  go_wp2
  go_end0
  exact ⟨rfl, rfl⟩
structure AlOut (w w' : World) (xs : List Int) (e : Ending) : Prop where
  ex : ∃ (D : Out) (q : Option Addr) (c : Nat), e = .returned (.tuple #[.slice q D.length c, .int .i64 (allN xs).2]) ∧ RowEx w' q D ∧ Rises D ∧ D.Perm (allN xs).1 ∧ D.length ≤ c ∧ c ≤ 9223372036854775807
  grown : w.grownBy w' none
theorem allN_walk (xs : List Int) : allN xs = if (walkN xs mtAll []).1 ≠ 0 then ([], (walkN xs mtAll []).1) else ((walkN xs mtAll []).2, 0) := by
  unfold allN walkN
  by_cases h : xs = []
  · rw [if_pos h, if_pos h]; simp
  · rw [if_neg h, if_neg h]
theorem grown_chg0 {G : Nat → Prop} (h : Chg G W V) (hw : w.grownBy W none) (hG : ∀ k, G k → w.heap.size ≤ k) : w.grownBy V none :=
  ⟨h.os.trans hw.os, h.tape.trans hw.tape, h.output.trans hw.output, Nat.le_trans hw.size h.size, fun i hi _ => (h.block i (Nat.lt_of_lt_of_le hi hw.size) (fun e => by have := hG i e; omega)).trans (hw.block i hi (by simp))⟩

set_option maxRecDepth 20000 in
set_option maxHeartbeats 1600000 in
theorem All_any {q : Option Addr} {c n : Nat} (h : IsBytes w q c xs) (hn : xs.length = n) (hb : Byt xs) (hc : n ≤ c) (hcm : c ≤ 9223372036854775807) (hbig : n ≤ 140737488355328) :
    Calls Try.prog 9 #[.slice q n c] w fun e w' => AlOut w w' xs e := by
  have g1 := grown1 w (.cells #[.slice none 0 0] 24)
  have o1 := OneAt.new w (.slice none 0 0) 24
  obtain ⟨cl, hcl⟩ : ∃ cl, cl = w.heap.size := ⟨_, rfl⟩
  have i1 : InvAll cl (w.alloc (.cells #[.slice none 0 0] 24)) (fun k => k = cl) [] := ⟨none, 0, by rw [hcl]; exact o1, World.ownsRow_nil _ _ _ _, rfl, fun g e => by cases e⟩
  have WK : Calls Try.prog 20 #[.slice q n c, .func (.func 21) #[] #[.pointer (some ⟨cl, 0, none⟩)]] (w.alloc (.cells #[.slice none 0 0] 24)) fun e W' => WOut Out (fun out => out.length ≤ 4096) (InvAll cl) (fun k => k = cl) (w.alloc (.cells #[.slice none 0 0] 24)) W' (walkN xs mtAll []) e := by
    by_cases hx : xs = []
    · subst hx
      simp only [List.length_nil] at hn
      subst hn
      refine (walk_no q c _ _).mono ?_
      rintro e W' ⟨rfl, hg⟩
      exact ⟨rfl, ⟨_, invAll_kept i1 (Chg.of_grown hg (fun b e => by cases e) : Chg (fun _ => False) _ _) (fun _ _ e => e), fun k hk => .inl hk⟩, Chg.of_grown hg (fun b e => by cases e), fun _ => by show (0 : Nat) ≤ 4096; decide⟩
    · subst hn
      obtain ⟨b, o, rfl, hcell⟩ := h.2 (by cases xs with | nil => exact absurd rfl hx | cons => simp)
      refine walk_any (allMeet cl) trivial (by simp) i1 ?_ (fun i hi => grown_cell g1 (hcell i hi)) hx ?_ hb hc hcm hbig
      · intro k hk; rw [World.size_alloc]; omega
      · intro e
        have := World.block_lt_of_cell? w _ (hcell 0 (by cases xs with | nil => exact absurd rfl hx | cons => simp))
        simp only at this
        omega
  have WH := Lib.hid WK
  have GA := Lib.hid g1
  have AN := Lib.hid (allN_walk xs)
  have HCL := Lib.hid hcl
  clear g1 o1 i1 WK h hn hb hc hcm hbig
  obtain ⟨W1, hW1⟩ : ∃ W1, w.alloc (.cells #[.slice none 0 0] 24) = W1 := ⟨_, rfl⟩
  rw [hW1] at WH GA
  have HW1 := Lib.hid hW1
  clear hW1 hcl
  obtain ⟨⟨er, out⟩, hr⟩ : ∃ r, r = walkN xs mtAll [] := ⟨_, rfl⟩
  rw [← hr] at WH AN
  clear hr
  go_enter Try.func9, Try.ntmps9
  go_upto_region 2 with fail
  rw [← HCL.out, HW1.out]
  go_wp2_with fail
  refine WH.out.mono ?_
  rintro e W2 ⟨rfl, ⟨G', ⟨ql, cq, a1, a2, a3, a4⟩, hG'⟩, hch, hfew⟩
  have G2 := Lib.hid (grown_chg0 hch GA.out (fun k hk => by have := HCL.out; omega))
  have c1 := a1.c
  simp only [] at c1 AN a1 a2 a4 hfew
  by_cases he : er = 0
  · subst he
    rw [if_neg (by simp)] at AN
    have hLc : out.length ≤ cq := own_room8 a2
    have hcm := own_max a2
    by_cases h0 : out = []
    · subst h0
      have SN := Lib.hid (sortNone ql cq W2)
      have FN := Lib.hid (show AlOut w W2 xs (.returned (.tuple #[.slice ql 0 cq, .int .i64 0])) from ⟨⟨[], ql, cq, by rw [AN.out]; rfl, RowEx.nil, List.Pairwise.nil, by rw [AN.out], Nat.zero_le _, hcm⟩, G2.out⟩)
      simp only [List.length_nil] at c1
      clear a1 a2 a3 a4 hG' hch hfew hLc hcm
      go_wp2_with fail
      refine SN.out.mono ?_
      rintro e w' ⟨rfl, hw'⟩
      have hw2 := hw'.symm
      subst hw2
      clear hw'
      go_wp2
      go_ret2
      exact FN.out
    · have hl0 : 0 < out.length := by
        cases out with
        | nil => exact absurd rfl h0
        | cons => simp
      have hq : ∃ gv, ql = some ⟨gv, 0, none⟩ := by
        rcases a2.2 with ⟨_, hn⟩ | ⟨g', cap, cur, hv, _⟩
        · omega
        · injection hv with h1 _ _; exact ⟨g', h1⟩
      obtain ⟨gv, rfl⟩ := hq
      have hlt2 := a2.lt gv rfl
      have HK := holdsK_own outCs_len a2
      have hsz : out.toArray.size = out.length := by simp
      have hln : out.length < 4611686018427387904 := by have h : out.length ≤ 4096 := hfew rfl; omega
      have hcon := AnyQ.slices_SortFunc Try.sortExp 7 Try.isAgg33 Try.sizeOf33 outCs outCs_len outCs_one cmpEx swoEx 23 #[] gv 0 cq out.toArray W2 (enters_of Try.func23 (by kernel_rfl) rfl) (cmpEx_lays gv 0 _ W2) HK hlt2.2 (by rw [hsz]; exact hln)
      change Calls Try.prog 22 _ _ _ at hcon
      rw [hsz] at hcon
      have HCON := Lib.hid hcon
      have HKH := Lib.hid HK
      have hgv : w.heap.size ≤ gv := by
        have h1 := HCL.out
        have h2 := GA.out.size
        rcases hG' gv (a4 gv rfl) with h | h <;> omega
      have hgc : (some gv : Option Nat) ≠ some cl := own_ne a2 a1 (by decide)
      have A1 := Lib.hid a1
      have FACT := Lib.hid (And.intro hLc (And.intro hcm (And.intro hlt2 (And.intro hsz (And.intro hgv hgc)))))
      clear a1 a2 a3 a4 hG' hch hfew hLc hcm hcon HK hsz hln hgv hgc hlt2 hl0 h0
      obtain ⟨N, hN⟩ : ∃ N, N = out.length := ⟨_, rfl⟩
      rw [← hN] at c1 HCON
      have HN := Lib.hid hN
      clear hN
      go_wp2_with fail
      refine HCON.out.mono ?_
      rintro e w9 ⟨rfl, d', n9, os9, hp, hs, rfl⟩
      obtain ⟨hLc, hcm, hlt2, hsz, hgv, hgc⟩ := FACT.out
      rw [HN.out, ← hsz] at hp hs
      obtain ⟨p1, p2, p3⟩ := perm_list hp hs
      have gs := grown_sort outCs 7 W2 gv 0 n9 d' os9
      have hold := holds_grown (os := os9) (n := n9) outCs 7 HKH.out p2 hlt2.2
      have e1 : out.toArray.toList = out := by simp
      rw [e1] at p1
      have a9 := A1.out.kept gs hgc
      have c9 := a9.c
      have hdl : d'.toList.length = N := by rw [Array.length_toList, p2, hsz, HN.out]
      have RES := Lib.hid (show AlOut w (sortWorldK outCs 7 W2 gv 0 n9 d' os9) xs (.returned (.tuple #[.slice (some ⟨gv, 0, none⟩) N cq, .int .i64 0])) from
        ⟨⟨d'.toList, some ⟨gv, 0, none⟩, cq, by rw [hdl, AN.out], RowEx.hold hold, (by
          unfold Rises
          rw [List.pairwise_iff_getElem]
          intro i j hi hj hij
          have hi' : i < d'.size := by simpa using hi
          have hj' : j < d'.size := by simpa using hj
          have := p3 i j hij hj'
          rw [ltEx, getElem!_pos d' i hi', getElem!_pos d' j hj'] at this
          simpa using this), (by rw [AN.out]; exact p1), (by rw [hdl, HN.out]; exact hLc), hcm⟩, grown_new G2.out gs hgv⟩)
      have HNN := HN.out
      rw [← HNN] at c9
      clear hp hs p1 p2 p3 gs hold a9 e1 hdl HNN hLc hcm hlt2 hsz hgv hgc
      generalize sortWorldK outCs 7 W2 gv 0 n9 d' os9 = w9 at *
      go_wp2
      go_ret2
      exact RES.out
  · have de : (er != 0) = true := by simpa using he
    rw [if_pos he] at AN
    have FN := Lib.hid (show AlOut w W2 xs (.returned (.tuple #[.slice none 0 0, .int .i64 er])) from ⟨⟨[], none, 0, by rw [AN.out]; rfl, RowEx.nil, List.Pairwise.nil, by rw [AN.out], Nat.le_refl _, by decide⟩, G2.out⟩)
    clear he a1 a2 a3 a4 hG' hch hfew
    go_wp2
    go_ret2
    exact FN.out
end Go.Proofs.Ytblfighfahffkaa
