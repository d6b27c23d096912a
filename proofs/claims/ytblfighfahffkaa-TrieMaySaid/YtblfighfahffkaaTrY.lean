/- A walk over a trie in memory: what it keeps (how many nodes are met, the way, what is told of them), and that a place stands on the way. No condition. -/
import Derived.Test.YtblfighfahffkaaTrU
import Derived.Test.YtblfighfahffkaaChg
namespace Go.Proofs.Ytblfighfahffkaa
open Go.RowKit
variable {w w' W V : World} {xs : List Int}

theorem strOfNums_app (a b : List Int) : strOfNums a ++ strOfNums b = strOfNums (a ++ b) := by
  apply ByteArray.ext
  apply Array.ext'
  rw [ByteArray.data_append, Array.toList_append, strOfNums_data, strOfNums_data, strOfNums_data, List.map_append]
theorem u64Type : StType Try.prog 31 85 1 8 := .mk' Try.underlying85 (z := .int .u64 0) (by kernel_rfl) rfl (by decide)
def u64Cs (x : Int) : List Value := [.int .u64 x]
/-- A row of its own, the last one left away. -/
theorem own_less {T : TypeId} {k n base c : Nat} {q : Option Addr} {ys zs : List Value} (h : w.ownsRow base T k (.slice q (n + 1) c) (n + 1) (ys ++ zs)) (hy : ys.length = n * k) : w.ownsRow base T k (.slice q n c) n ys := by
  obtain ⟨_, hn | ⟨g, cap, cur, hv, hb, hg, hle, hm, hs, ht⟩⟩ := h
  · cases hn.2
  · injection hv with e1 e2 e3
    subst e1 e3
    refine ⟨hy, .inr ⟨g, c, cur, rfl, hb, hg, by omega, hm, hs, ?_⟩⟩
    have := congrArg (List.take (n * k)) ht
    rw [List.take_take, Nat.min_eq_left (Nat.mul_le_mul_right k (Nat.le_succ n)), ← hy, List.take_left] at this
    rw [← hy]; exact this

/-- Is a place on a way? -/
def U64At (w : World) (q : Option Addr) (l : List Int) : Prop := ∀ i x, l[i]? = some x → ∃ g, q = some ⟨g, 0, none⟩ ∧ w.cell? ⟨g, i, none⟩ = some (.int .u64 x)
theorem U64At.of {lo n c : Nat} {q : Option Addr} {l : List Int} (h : w.ownsRow lo 31 1 (.slice q n c) n (l.flatMap u64Cs)) : U64At w q l := fun i x hx => by
  obtain ⟨g, e, h0⟩ := row_cell (f := u64Cs) (k := 1) (fun _ => rfl) h hx (j := 0) (by decide)
  refine ⟨g, e, ?_⟩
  rw [Nat.mul_one, Nat.add_zero] at h0
  exact h0

theorem index64_any (l : List Int) (n : Nat) (hn : l.length = n) (hl : n ≤ 9223372036854775807) (q : Option Addr) (c : Nat) (hr : U64At w q l) (p : Int) :
    Calls Try.prog 65 #[.slice q n c, .int .u64 p] w fun e w' => (∃ z : Int, e = .returned (.int .i64 z) ∧ decide (0 ≤ z) = decide (p ∈ l)) ∧ w' = w := by
  subst hn
  have RR := Lib.hid hr
  clear hr
  go_enter Try.func65, Try.ntmps65
  go_wp2
  go_loop [8] (fun i => ∃ k : Nat, k ≤ l.length ∧ i = .int .i64 k ∧ ∀ j y, j < k → l[j]? = some y → p ≠ y) (fun i => l.length - (intOf i).toNat)
  case atStart => exact ⟨0, Nat.zero_le _, rfl, fun i y h => by omega⟩
  case round =>
    obtain ⟨k, hk, rfl, hno⟩ := hrel
    have NO := Lib.hid hno
    by_cases hlt : k < l.length
    · obtain ⟨x, hx⟩ : ∃ x, l[k]? = some x := ⟨_, List.getElem?_eq_getElem hlt⟩
      obtain ⟨gq, rfl, c0⟩ := RR.out k x hx
      have dl : decide ((k : Int) < (l.length : Int)) = true := by simp; omega
      have hkl : (k : Int) < (l.length : Int) := by omega
      have HX := Lib.hid hx
      have HM := Lib.hid (List.mem_of_getElem? hx)
      clear hx hno
      by_cases he : p = x
      · have de : (p == x) = true := by simpa using he
        have HE := Lib.hid (show p ∈ l by rw [he]; exact HM.out)
        generalize l.length = N at *
        clear he
        go_wp2
        go_ret
        exact ⟨⟨k, rfl, by first | exact iff_of_true (by omega) HE.out | (rw [decide_eq_true HE.out]; simp)⟩, rfl⟩
      · have de : (p == x) = false := by simpa using he
        have HE := Lib.hid he
        generalize l.length = N at *
        clear he
        go_wp2
        go_round
        case rel =>
          refine ⟨k + 1, hlt, by go_num, fun i y hi hy => ?_⟩
          rcases Nat.lt_or_ge i k with h | h
          · exact NO.out i y h hy
          · obtain rfl : i = k := by omega
            rw [HX.out] at hy
            injection hy with hy
            rw [← hy]; exact HE.out
        case measure => simp [intOf]; omega
    · have NA := Lib.hid (show ¬ p ∈ l from fun h => by
        obtain ⟨i, hi, e⟩ := List.getElem_of_mem h
        exact hno i _ (by omega) (List.getElem?_eq_getElem hi) e.symm)
      have dl : decide ((k : Int) < (l.length : Int)) = false := by simp; omega
      clear hno
      generalize l.length = N at *
      go_wp2
      go_ret
      exact ⟨⟨-1, rfl, by first | exact iff_of_false (by omega) NA.out | (rw [decide_eq_false NA.out]; rfl)⟩, rfl⟩
theorem contains64_any (l : List Int) (n : Nat) (hn : l.length = n) (hl : n ≤ 9223372036854775807) (q : Option Addr) (c : Nat) (hr : U64At w q l) (p : Int) :
    Calls Try.prog 43 #[.slice q n c, .int .u64 p] w fun e w' => e = .returned (.bool (decide (p ∈ l))) ∧ w' = w := by
  have I := Lib.hid (index64_any l n hn hl q c hr p)
  clear hr
  go_enter Try.func43, Try.ntmps43
  go_wp2_with fail
  refine I.out.mono ?_
  rintro e w' ⟨⟨z, rfl, hz⟩, rfl⟩
  have Z := Lib.hid hz
  clear hz
  go_wp2
  go_ret
  exact ⟨ret_bool Z.out, rfl⟩

theorem OneAt.chg {F : Nat → Prop} {g : Nat} {v : Value} {T : TypeId} (h : OneAt W g v T) (hg : Chg F W V) (hf : ¬ F g) : OneAt V g v T := (hg.block g (lt_of_block h) hf).trans h
theorem cell_chg {F : Nat → Prop} {b i : Nat} {v : Value} (h : W.cell? ⟨b, i, none⟩ = some v) (hg : Chg F W V) (hf : ¬ F b) : V.cell? ⟨b, i, none⟩ = some v := by
  have := hg.block b (World.block_lt_of_cell? W _ h) hf
  unfold World.cell? at h ⊢
  simp only [this]
  exact h
theorem KidsAt.chg {F : Nat → Prop} {q : Option Addr} {l : List Kid} (h : KidsAt W q l) (hg : Chg F W V) (hf : ∀ g o, q = some ⟨g, o, none⟩ → ¬ F g) : KidsAt V q l := fun i x hx => by
  obtain ⟨g, o, e, c0, c1⟩ := h i x hx
  exact ⟨g, o, e, cell_chg c0 hg (hf g o e), cell_chg c1 hg (hf g o e)⟩

/-- What is told of each node: a function of the program's (fm, with what it holds), its memory (Inv). -/
structure MOut (S : Type) (mt : Mt S) (Inv : World → (Nat → Prop) → S → Prop) (s : S) (name : List Int) (nd : Nd) (v : Value) (G : Nat → Prop) (W W' : World) (e : Ending) : Prop where
  ex : ∃ q c G', e = .returned (.tuple #[.slice q (mt s name nd).2.1.length c, .int .i64 (mt s name nd).2.2]) ∧ Inv W' G' (mt s name nd).1 ∧ (∀ k, G' k → G k ∨ (W.heap.size ≤ k ∧ k < W'.heap.size)) ∧ KidsAt W' q (mt s name nd).2.1 ∧ (∀ g o, q = some ⟨g, o, none⟩ → v.ownBlock = some g) ∧ (mt s name nd).2.1.length ≤ c ∧ c ≤ 9223372036854775807
  chg : Chg G W W'
structure MeetOk (S : Type) (fm : Nat) (cbs : Array Value) (mt : Mt S) (Pre : List Int → Prop) (Fine : S → Prop) (Inv : World → (Nat → Prop) → S → Prop) : Prop where
  enters : ∀ args V, (callFunc fm args).run Try.prog V = .ok (.enter fm args) V
  kept : ∀ W V G s H, Inv W G s → Chg H W V → (∀ k, G k → ¬ H k) → Inv V G s
  sub : ∀ s name nd, ∀ x ∈ (mt s name nd).2.1, x ∈ nd.kids
  pre : ∀ s name nd, Pre name → ∀ x ∈ (mt s name nd).2.1, Pre (name ++ x.1)
  next : ∀ s name nd, Fine s → (mt s name nd).2.2 = 0 → Fine (mt s name nd).1
  stop : ∀ s name nd, (mt s name nd).2.2 ≠ 0 → (mt s name nd).2.1 = []
  call : ∀ W G s name nd v base, Inv W G s → Fine s → Pre name → name.length ≤ 255 → NdOk nd → W.ownsRow base 92 2 v nd.kids.length (nd.kids.flatMap kidCs) → (∀ g, v.ownBlock = some g → ¬ G g) → (∀ k, G k → k < W.heap.size) →
    Calls Try.prog fm (#[.string (strOfNums name), nodeV nd.ex.isSome (nmOf (strOfNums name) nd.ex) (exOf nd.ex) v] ++ cbs) W fun e W' => MOut S mt Inv s name nd v G W W' e
/-- What a walk holds. -/
structure Wfx where
  B : Nat
  cmet : Nat
  cway : Nat
  cb : Nat
  cm : Nat
  cv : Nat
  b : Nat
  o : Nat
  c : Nat
  fm : Nat
  cbs : Array Value
def Wfx.caps (z : Wfx) : Array Value := #[.pointer (some ⟨z.cmet, 0, none⟩), .pointer (some ⟨z.cway, 0, none⟩), .pointer (some ⟨z.cb, 0, none⟩), .pointer (some ⟨z.cm, 0, none⟩), .pointer (some ⟨z.cv, 0, none⟩)]
structure Wk (S : Type) (z : Wfx) (xs : List Int) (Inv : World → (Nat → Prop) → S → Prop) (W : World) (F : Nat → Prop) (m : Nat) (way : List Int) (s : S) : Prop where
  met : OneAt W z.cmet (.int .i64 m) 3
  way : ∃ q cap, OneAt W z.cway (.slice q way.length cap) 85 ∧ W.ownsRow z.B 31 1 (.slice q way.length cap) way.length (way.flatMap u64Cs) ∧ (∀ g, (Value.slice q way.length cap).ownBlock = some g → F g)
  inv : ∃ G, (∀ k, G k → F k) ∧ Inv W G s ∧ ¬ G z.cmet ∧ ¬ G z.cway ∧ ∀ q n cap, W.cell? ⟨z.cway, 0, none⟩ = some (.slice q n cap) → ∀ g, (Value.slice q n cap).ownBlock = some g → ¬ G g
  fmet : F z.cmet
  fway : F z.cway
  fb : ∀ k, F k → z.B ≤ k ∧ k < W.heap.size
  bb : OneAt W z.cb (.slice (some ⟨z.b, z.o, none⟩) xs.length z.c) 22
  me : OneAt W z.cm (.func (.func z.fm) #[] z.cbs) 54
  vi : OneAt W z.cv (.func (.func 42) #[] z.caps) 86
  nb : ¬ F z.cb
  nm : ¬ F z.cm
  nv : ¬ F z.cv
  cell : ∀ i, i < xs.length → W.cell? ⟨z.b, z.o + i, none⟩ = some (.int .u8 (xs.getD i 0))
  nx : ¬ F z.b
  ne : z.cmet ≠ z.cway
  nz : 0 < xs.length
section
variable {S : Type} {fm : Nat} {cbs : Array Value} {mt : Mt S} {Pre : List Int → Prop} {Fine : S → Prop} {Inv : World → (Nat → Prop) → S → Prop} {z : Wfx} {F H : Nat → Prop} {m : Nat} {way : List Int} {s : S}
/-- What turns nothing of it. -/
theorem Wk.kept (M : MeetOk S fm cbs mt Pre Fine Inv) (h : Wk S z xs Inv W F m way s) (hg : Chg H W V) (hd : ∀ k, F k → ¬ H k) (hb : ¬ H z.cb) (hm : ¬ H z.cm) (hv : ¬ H z.cv) (hx : ¬ H z.b) : Wk S z xs Inv V F m way s := by
  obtain ⟨q, cap, a1, a2, a3⟩ := h.way
  obtain ⟨G, b1, b2, b3, b4, b5⟩ := h.inv
  have a4 := a1.chg hg (hd _ h.fway)
  refine ⟨h.met.chg hg (hd _ h.fmet), ⟨q, cap, a4, ?_, a3⟩, ⟨G, b1, M.kept _ _ _ _ _ b2 hg (fun k hk => hd k (b1 k hk)), b3, b4, ?_⟩, h.fmet, h.fway, fun k hk => ⟨(h.fb k hk).1, Nat.lt_of_lt_of_le (h.fb k hk).2 hg.size⟩, h.bb.chg hg hb, h.me.chg hg hm, h.vi.chg hg hv, h.nb, h.nm, h.nv, fun i hi => cell_chg (h.cell i hi) hg hx, h.nx, h.ne, h.nz⟩
  · obtain ⟨x1, hn | ⟨g, cp, cur, y1, y2, y3, y4, y5, y6, y7⟩⟩ := a2
    · exact ⟨x1, .inl hn⟩
    · refine ⟨x1, .inr ⟨g, cp, cur, y1, y2, ?_, y4, y5, y6, y7⟩⟩
      rw [hg.block g (lt_of_block y3) (hd g (a3 g (by rw [y1]; rfl)))]
      exact y3
  · intro q' n' cap' e
    rw [a4.c] at e
    rw [a1.c] at b5
    exact b5 q' n' cap' e
theorem Wk.grown (M : MeetOk S fm cbs mt Pre Fine Inv) (h : Wk S z xs Inv W F m way s) (hg : W.grownBy V none) : Wk S z xs Inv V F m way s :=
  h.kept M (H := fun _ => False) (Chg.of_grown hg (fun b e => by cases e)) (fun _ _ e => e) (fun e => e) (fun e => e) (fun e => e) (fun e => e)
theorem Wk.setMet (M : MeetOk S fm cbs mt Pre Fine Inv) (h : Wk S z xs Inv W F m way s) (n : Nat) {N : Int} (hN : N = n) : Wk S z xs Inv (W.setCell ⟨z.cmet, 0, none⟩ (.int .i64 N)) F n way s := by
  subst hN
  have g1 : W.grownBy (W.setCell ⟨z.cmet, 0, none⟩ (.int .i64 (n : Nat))) (some z.cmet) := grown_setCell (grown_refl W _) _
  have c1 : Chg (fun k => k = z.cmet) W (W.setCell ⟨z.cmet, 0, none⟩ (.int .i64 (n : Nat))) := Chg.of_grown g1 (fun b e => by injection e with e; exact .inl e.symm)
  obtain ⟨q, cap, a1, a2, a3⟩ := h.way
  obtain ⟨G, b1, b2, b3, b4, b5⟩ := h.inv
  have a4 := a1.chg c1 h.ne.symm
  refine ⟨h.met.set _, ⟨q, cap, a4, a2.kept g1 (.inr (own_ne a2 h.met (by decide))), a3⟩, ⟨G, b1, M.kept _ _ _ _ _ b2 c1 (fun k hk e => b3 (e ▸ hk)), b3, b4, ?_⟩, h.fmet, h.fway, fun k hk => ⟨(h.fb k hk).1, Nat.lt_of_lt_of_le (h.fb k hk).2 g1.size⟩,
    h.bb.chg c1 (fun e => h.nb (e ▸ h.fmet)), h.me.chg c1 (fun e => h.nm (e ▸ h.fmet)), h.vi.chg c1 (fun e => h.nv (e ▸ h.fmet)), h.nb, h.nm, h.nv, fun i hi => cell_chg (h.cell i hi) c1 (fun e => h.nx (e ▸ h.fmet)), h.nx, h.ne, h.nz⟩
  intro q' n' cap' e
  rw [a4.c] at e
  rw [a1.c] at b5
  exact b5 q' n' cap' e
end
end Go.Proofs.Ytblfighfahffkaa
