/- Parts (members) as records in memory: how an argument that is a slice of them lies there; are they few. No condition. -/
import Derived.Test.YtdjakaiadggemaaArgSl
namespace Go.Proofs.Ytdjakaiadggemaa
open Go.RowKit Go.ChangeShapes Go.WideShapes Go.Deep
variable {w w' : World}

structure Mb where
  cpu : Int
  sub : Int
  align : Int
  q : Option Addr
  cap : Nat
  bytes : List Int
structure Mb.Fits (m : Mb) : Prop where
  cpu : 0 ≤ m.cpu ∧ m.cpu < 4294967296
  sub : 0 ≤ m.sub ∧ m.sub < 4294967296
  align : -9223372036854775808 ≤ m.align ∧ m.align ≤ 9223372036854775807
  bytes : ∀ x ∈ m.bytes, 0 ≤ x ∧ x < 256
  len : m.bytes.length ≤ m.cap
  cap : m.cap ≤ 9223372036854775807
/-- One part's four cells, and its bytes. -/
def MbCells (w : World) (a : Addr) (m : Mb) : Prop :=
  (w.cell? (a.add 0) = some (.int .u32 m.cpu) ∧ w.cell? (a.add 1) = some (.int .u32 m.sub) ∧ w.cell? (a.add 2) = some (.int .i64 m.align) ∧ w.cell? (a.add 3) = some (.slice m.q m.bytes.length m.cap)) ∧ IsBytes w m.q m.cap m.bytes
def IsMbs (w : World) (p : Option Addr) (l : List Mb) : Prop :=
  0 < l.length → ∃ b o, p = some ⟨b, o, none⟩ ∧ ∀ i m, l[i]? = some m →
    (w.cell? ⟨b, o + i * 4, none⟩ = some (.int .u32 m.cpu) ∧ w.cell? ⟨b, o + i * 4 + 1, none⟩ = some (.int .u32 m.sub) ∧ w.cell? ⟨b, o + i * 4 + 2, none⟩ = some (.int .i64 m.align) ∧ w.cell? ⟨b, o + i * 4 + 3, none⟩ = some (.slice m.q m.bytes.length m.cap)) ∧
    IsBytes w m.q m.cap m.bytes
theorem IsMbs.grown {p : Option Addr} {l : List Mb} (h : IsMbs w p l) (hg : w.grownBy w' none) : IsMbs w' p l := by
  intro hl
  obtain ⟨b, o, rfl, hc⟩ := h hl
  refine ⟨b, o, rfl, fun i m hm => ?_⟩
  obtain ⟨⟨h0, h1, h2, h3⟩, h4⟩ := hc i m hm
  exact ⟨⟨hg.cell h0 (by simp), hg.cell h1 (by simp), hg.cell h2 (by simp), hg.cell h3 (by simp)⟩, h4.kept hg (by simp)⟩

set_option maxRecDepth 20000 in
theorem open_mb {H : Type} {enc : TypeId × Value → H} {base : Nat} {held : Bool} {fuel : Nat} {cs : List Value} {x : DataW H × List MemPlace} {a : Addr}
    (hc : w.cells? base a 4 = some cs) (h : DataW.trod enc Try.prog w base (fun _ => true) held fuel 56 cs = some x) : ∃ m : Mb, m.Fits ∧ MbCells w a m := by
  obtain ⟨_, hcl, hat⟩ := World.cells?_some hc
  obtain ⟨xs, n, _, _, _, hxl, hf⟩ := DataW.trod_struct Try.underlying56 h
  have q4 : Try.prog.cellsOf 40 = 1 := by kernel_rfl
  have qi : Try.prog.cellsOf 3 = 1 := by kernel_rfl
  have qs : Try.prog.cellsOf 22 = 1 := by kernel_rfl
  match cs, hcl with
  | [c0, c1, c2, c3], _ =>
    have g0 : DataW.trod enc Try.prog w base (fun _ => true) held n 40 (([c0, c1, c2, c3].drop 0).take (Try.prog.cellsOf 40)) = xs[0]? := hf 0 _ rfl
    have g1 : DataW.trod enc Try.prog w base (fun _ => true) held n 40 (([c0, c1, c2, c3].drop 1).take (Try.prog.cellsOf 40)) = xs[1]? := hf 1 _ rfl
    have g2 : DataW.trod enc Try.prog w base (fun _ => true) held n 3 (([c0, c1, c2, c3].drop 2).take (Try.prog.cellsOf 3)) = xs[2]? := hf 2 _ rfl
    have g3 : DataW.trod enc Try.prog w base (fun _ => true) held n 22 (([c0, c1, c2, c3].drop 3).take (Try.prog.cellsOf 22)) = xs[3]? := hf 3 _ rfl
    have lx : xs.length = 4 := hxl
    rw [List.getElem?_eq_getElem (by omega)] at g0
    rw [List.getElem?_eq_getElem (by omega)] at g1
    rw [List.getElem?_eq_getElem (by omega)] at g2
    rw [List.getElem?_eq_getElem (by omega)] at g3
    rw [q4] at g0 g1
    rw [qi] at g2
    rw [qs] at g3
    obtain ⟨n0, e0, _, w0⟩ := DataW.trod_int Try.underlying40 g0
    obtain ⟨n1, e1, _, w1⟩ := DataW.trod_int Try.underlying40 g1
    obtain ⟨n2, e2, _, w2⟩ := DataW.trod_int Try.underlying3 g2
    obtain ⟨q, l, c, zs, e3, hrow⟩ : ∃ q l c zs, c3 = .slice q l c ∧ IsRow .u8 w q l c zs := by
      rcases open_ints Try.underlying22 Try.underlying5 (by kernel_rfl) g3 with ⟨hcs, _⟩ | ⟨y, l, c, zs, hcs, _, hl, hm, hz, _, hcell, hwz⟩
      · simp at hcs
        exact ⟨none, 0, 0, [], hcs, .inl ⟨rfl, rfl, rfl, rfl⟩⟩
      · simp at hcs
        exact ⟨some y, l, c, zs, hcs, .inr ⟨_, rfl, hl, hm, by simpa using hz, hcell, hwz⟩⟩
    have hlc : l ≤ c ∧ c ≤ 9223372036854775807 := by
      rcases hrow with ⟨_, rfl, rfl, _⟩ | ⟨_, _, h1, h2, _⟩
      · omega
      · unfold maxLen at h2; omega
    obtain ⟨ys, hyl, hys, hyb, _⟩ := hrow.bytes
    subst hyl
    simp at e0 e1 e2
    subst e0 e1 e2 e3
    exact ⟨⟨n0, n1, n2, q, c, ys⟩, ⟨u32_range w0, u32_range w1, i64_range w2, hys, hlc.1, hlc.2⟩, ⟨hat 0 (by decide), hat 1 (by decide), hat 2 (by decide), hat 3 (by decide)⟩, hyb⟩

theorem list_of' {α : Type} (z : α) (n : Nat) (P : Nat → α → Prop) (h : ∀ i, i < n → ∃ s, P i s) : ∃ l : List α, l.length = n ∧ ∀ i s, l[i]? = some s → P i s := by
  have h' : ∀ i, ∃ s, i < n → P i s := fun i => by
    by_cases hi : i < n
    · obtain ⟨s, hs⟩ := h i hi; exact ⟨s, fun _ => hs⟩
    · exact ⟨z, fun h => absurd h hi⟩
  refine ⟨(List.range n).map fun i => Classical.choose (h' i), by simp, fun i s hs => ?_⟩
  rw [List.getElem?_map] at hs
  rcases Nat.lt_or_ge i n with hi | hi
  · rw [List.getElem?_range hi] at hs
    injection hs with hs
    rw [← hs]
    exact Classical.choose_spec (h' i) hi
  · rw [List.getElem?_eq_none (by simpa using hi)] at hs
    cases hs

/-- A slice of parts that came in. -/
theorem open_mbs {H : Type} {enc : TypeId × Value → H} {base : Nat} {held : Bool} {fuel : Nat} {x : DataW H × List MemPlace} {a : Option Addr} {len cap : Nat}
    (h : DataW.trod enc Try.prog w base (fun _ => true) held fuel 49 [.slice a len cap] = some x) :
    ∃ l : List Mb, l.length = len ∧ IsMbs w a l ∧ (∀ m ∈ l, m.Fits) ∧ len ≤ cap ∧ cap ≤ 9223372036854775807 := by
  rcases open_slice Try.underlying49 h with ⟨e, _⟩ | ⟨a', len', cap', m, n, D, Pl, hcs, hb, hl, hm, hmm, hx, hi⟩
  · injection e with e
    injection e with e1 e2 e3
    subst e1 e2 e3
    exact ⟨[], rfl, (fun h => by cases h), (fun s hs => by cases hs), Nat.le_refl _, by omega⟩
  · injection hcs with hcs
    injection hcs with e1 e2 e3
    subst e1 e2 e3
    simp only [if_true] at hmm
    subst hmm
    obtain ⟨l, hll, hlp⟩ := list_of' (⟨0, 0, 0, none, 0, []⟩ : Mb) len (fun i s => s.Fits ∧ MbCells w (a'.add (i * 4)) s) (fun i hil => by
      obtain ⟨cs', hc, ht⟩ := hi i (by omega)
      rw [show Try.prog.cellsOf 56 = 4 by kernel_rfl] at hc
      exact open_mb hc ht)
    refine ⟨l, hll, fun h0 => ?_, fun s hs => ?_, hl, by unfold maxLen at hm; omega⟩
    · obtain ⟨_, ⟨hc, _⟩, _⟩ := hlp 0 (l[0]'h0) (List.getElem?_eq_getElem h0)
      have hc' : w.cell? (a'.add 0) = some (.int .u32 (l[0]'h0).cpu) := by rw [Go.Deep.add_add] at hc; simpa using hc
      obtain ⟨b, o, rfl⟩ := flat_of_cell hc'
      refine ⟨b, o, rfl, fun i s hs => ?_⟩
      obtain ⟨_, ⟨c0, c1, c2, c3⟩, hbs⟩ := hlp i s hs
      simp only [add_flat] at c0 c1 c2 c3
      exact ⟨⟨c0, c1, c2, c3⟩, hbs⟩
    · obtain ⟨i, hi2, rfl⟩ := List.getElem_of_mem hs
      exact (hlp i _ (List.getElem?_eq_getElem hi2)).1

/-- Few parts, of few bytes: at most so many, each of at most 3000 bytes. -/
def fewB (l : List Mb) (most : Int) : Bool := l.all (fun m => decide (m.bytes.length ≤ 3000)) && decide ((l.length : Int) ≤ most)
theorem few_any (l : List Mb) (n : Nat) (hn : l.length = n) (p : Option Addr) (c : Nat) (hp : IsMbs w p l) (hl : n ≤ c) (hc : c ≤ 9223372036854775807) (hfit : ∀ m ∈ l, m.Fits) (most : Int) :
    Calls Try.prog 17 #[.slice p n c, .int .i64 most] w fun e w' => e = .returned (.bool (fewB l most)) ∧ w.grownBy w' none := by
  obtain ⟨b, hb⟩ : ∃ b, b = fewB l most := ⟨_, rfl⟩
  rw [← hb]
  have HB := Lib.hid hb
  have P := Lib.hid hp
  have F := Lib.hid hfit
  have HN := Lib.hid hn
  clear hb hp hfit hn
  go_enter Try.func17, Try.ntmps17
  go_wp2
  go_loopw [5] (fun i wr => ∃ k : Nat, i = .int .i64 k ∧ k ≤ n ∧ w.grownBy wr none ∧ ∀ j m, j < k → l[j]? = some m → m.bytes.length ≤ 3000) (fun i _ => n - (intOf i).toNat)
  case atStart => exact ⟨0, rfl, Nat.zero_le _, grown_refl _ _, fun j m hj => by omega⟩
  case round =>
    obtain ⟨k, rfl, hk, hg, hall⟩ := hrel
    have P := Lib.hid (P.out.grown hg)
    have G := Lib.hid hg
    clear hg
    by_cases hlt : k < n
    · obtain ⟨m, hm⟩ : ∃ m, l[k]? = some m := ⟨_, List.getElem?_eq_getElem (by rw [HN.out]; exact hlt)⟩
      obtain ⟨b', o, rfl, hcl⟩ := P.out (by rw [HN.out]; omega)
      obtain ⟨⟨c0, c1, c2, c3⟩, _⟩ := hcl k m hm
      have hml := (F.out m (List.mem_of_getElem? hm)).len
      have hmc := (F.out m (List.mem_of_getElem? hm)).cap
      have A := Lib.hid hall
      have M := Lib.hid hm
      clear hcl hall hm
      by_cases h3 : m.bytes.length ≤ 3000
      · have hd : decide ((3000 : Int) < m.bytes.length) = false := by simp; omega
        go_wp2
        go_roundw
        case rel =>
          refine ⟨k + 1, by go_num, by omega, G.out, fun j t hj ht => ?_⟩
          rcases Nat.lt_or_ge j k with h | h
          · exact A.out j t h ht
          · obtain rfl : j = k := by omega
            rw [M.out] at ht
            injection ht with ht
            subst ht
            exact h3
        case measure => simp [intOf]; omega
      · have hd : decide ((3000 : Int) < m.bytes.length) = true := by simp; omega
        have hf : fewB l most = false := by
          unfold fewB
          rw [Bool.and_eq_false_iff]
          refine .inl ?_
          rw [Bool.eq_false_iff]
          intro h
          have := List.all_eq_true.1 h m (List.mem_of_getElem? M.out)
          simp at this
          omega
        have HF := Lib.hid hf
        clear hf
        go_wp2
        go_ret
        exact ⟨ret_bool (by rw [HB.out, HF.out]), G.out⟩
    · have hk' : k = n := by omega
      subst hk'
      have hf : fewB l most = decide ((k : Int) ≤ most) := by
        unfold fewB
        rw [HN.out]
        have : l.all (fun m => decide (m.bytes.length ≤ 3000)) = true := by
          rw [List.all_eq_true]
          intro m hm
          obtain ⟨i, hi, rfl⟩ := List.getElem_of_mem hm
          have := hall i _ (by rw [← HN.out]; exact hi) (List.getElem?_eq_getElem hi)
          simpa using this
        rw [this, Bool.true_and]
      have HF := Lib.hid hf
      clear hf hall
      go_wp2
      go_ret
      exact ⟨ret_bool (by rw [HB.out, HF.out]), G.out⟩
end Go.Proofs.Ytdjakaiadggemaa
