/- Commands as records in memory: how an argument that is a slice of them lies there; are they few; which may be. No condition. -/
import Derived.Test.YthdppaooemdmaaaGrow
namespace Go.Proofs.Ythdppaooemdmaaa
open Go.RowKit Go.ChangeShapes Go.WideShapes Go.Deep
variable {w w' : World}

structure Cm where
  cmd : Int
  q : Option Addr
  cap : Nat
  bytes : List Int
structure Cm.Fits (m : Cm) : Prop where
  cmd : 0 ≤ m.cmd ∧ m.cmd < 4294967296
  bytes : Small m.bytes
  len : m.bytes.length ≤ m.cap
  cap : m.cap ≤ 9223372036854775807
def Cm.zero : Cm := ⟨0, none, 0, []⟩
def Cm.v (m : Cm) : Value := .agg #[.int .u32 m.cmd, .slice m.q m.bytes.length m.cap]
/-- One command's two cells, and its bytes. -/
def CmCells (w : World) (a : Addr) (m : Cm) : Prop :=
  (w.cell? (a.add 0) = some (.int .u32 m.cmd) ∧ w.cell? (a.add 1) = some (.slice m.q m.bytes.length m.cap)) ∧ IsBytes w m.q m.cap m.bytes
def IsCms (w : World) (p : Option Addr) (l : List Cm) : Prop :=
  0 < l.length → ∃ b o, p = some ⟨b, o, none⟩ ∧ ∀ i m, l[i]? = some m →
    (w.cell? ⟨b, o + i * 2, none⟩ = some (.int .u32 m.cmd) ∧ w.cell? ⟨b, o + i * 2 + 1, none⟩ = some (.slice m.q m.bytes.length m.cap)) ∧
    IsBytes w m.q m.cap m.bytes
theorem IsCms.grown {p : Option Addr} {l : List Cm} (h : IsCms w p l) (hg : w.grownBy w' none) : IsCms w' p l := by
  intro hl
  obtain ⟨b, o, rfl, hc⟩ := h hl
  refine ⟨b, o, rfl, fun i m hm => ?_⟩
  obtain ⟨⟨h0, h1⟩, h4⟩ := hc i m hm
  exact ⟨⟨hg.cell h0 (by simp), hg.cell h1 (by simp)⟩, h4.kept hg (by simp)⟩
/-- One command, in a block of its own. -/
def CmAt (w : World) (g : Nat) (m : Cm) : Prop := w.heap[g]? = some (.cells #[.int .u32 m.cmd, .slice m.q m.bytes.length m.cap] 40 (0, 0))
theorem CmAt.c0 {g : Nat} {m : Cm} (h : CmAt w g m) : w.cell? ⟨g, 0, none⟩ = some (.int .u32 m.cmd) := by rw [cell_of h]; rfl
theorem CmAt.c1 {g : Nat} {m : Cm} (h : CmAt w g m) : w.cell? ⟨g, 1, none⟩ = some (.slice m.q m.bytes.length m.cap) := by rw [cell_of h]; rfl
theorem CmAt.new (w : World) (m : Cm) : CmAt (w.alloc (.cells #[.int .u32 m.cmd, .slice m.q m.bytes.length m.cap] 40)) w.heap.size m := heap_alloc_new w _
theorem CmAt.kept {g : Nat} {m : Cm} {row : Option Nat} (h : CmAt w g m) (hg : w.grownBy w' row) (hr : row ≠ some g) : CmAt w' g m := (hg.block g (lt_of_block h) (fun e => hr e.symm)).trans h
theorem CmAt.grown {g : Nat} {m : Cm} (h : CmAt w g m) (hg : w.grownBy w' none) : CmAt w' g m := h.kept hg (by simp)
theorem isCms_one {g : Nat} {m : Cm} (h : CmAt w g m) (hb : IsBytes w m.q m.cap m.bytes) : IsCms w (some ⟨g, 0, none⟩) [m] := by
  intro _
  refine ⟨g, 0, rfl, fun i s hs => ?_⟩
  have hi : i = 0 := by
    rcases Nat.eq_zero_or_pos i with h | h
    · exact h
    · rw [List.getElem?_eq_none (by simp; omega)] at hs; cases hs
  subst hi
  injection hs with hs
  subst hs
  exact ⟨⟨by rw [cell_of h]; rfl, by rw [cell_of h]; rfl⟩, hb⟩

set_option maxRecDepth 20000 in
theorem open_cm {H : Type} {enc : TypeId × Value → H} {base : Nat} {held : Bool} {fuel : Nat} {cs : List Value} {x : DataW H × List MemPlace} {a : Addr}
    (hc : w.cells? base a 2 = some cs) (h : DataW.trod enc Try.prog w base (fun _ => true) held fuel 40 cs = some x) : ∃ m : Cm, m.Fits ∧ CmCells w a m := by
  obtain ⟨_, hcl, hat⟩ := World.cells?_some hc
  obtain ⟨xs, n, _, _, _, hxl, hf⟩ := DataW.trod_struct Try.underlying40 h
  have q4 : Try.prog.cellsOf 25 = 1 := by kernel_rfl
  have qs : Try.prog.cellsOf 22 = 1 := by kernel_rfl
  match cs, hcl with
  | [c0, c3], _ =>
    have g0 : DataW.trod enc Try.prog w base (fun _ => true) held n 25 (([c0, c3].drop 0).take (Try.prog.cellsOf 25)) = xs[0]? := hf 0 _ rfl
    have g3 : DataW.trod enc Try.prog w base (fun _ => true) held n 22 (([c0, c3].drop 1).take (Try.prog.cellsOf 22)) = xs[1]? := hf 1 _ rfl
    have lx : xs.length = 2 := hxl
    rw [List.getElem?_eq_getElem (by omega)] at g0
    rw [List.getElem?_eq_getElem (by omega)] at g3
    rw [q4] at g0
    rw [qs] at g3
    obtain ⟨n0, e0, _, w0⟩ := DataW.trod_int Try.underlying25 g0
    obtain ⟨q, l, c, zs, e3, hrow⟩ : ∃ q l c zs, c3 = .slice q l c ∧ IsRow .u8 w q l c zs := by
      rcases open_ints Try.underlying22 Try.underlying5 (by kernel_rfl) g3 with ⟨hcs, _⟩ | ⟨y, l, c, zs, hcs, _, hl, hm, hz, _, hcell, hwz⟩
      · simp at hcs
        exact ⟨none, 0, 0, [], hcs, .inl ⟨rfl, rfl, rfl, rfl⟩⟩
      · simp at hcs
        exact ⟨some y, l, c, zs, hcs, .inr ⟨_, rfl, hl, hm, by simpa using hz, hcell, hwz⟩⟩
    have hlc : l ≤ c ∧ c ≤ 9223372036854775807 := by
      rcases hrow with ⟨_, rfl, rfl, _⟩ | ⟨_, _, h1, h2, _⟩
      · omega
      · unfold maxLen at h2; omega
    obtain ⟨ys, hyl, hys, hyb, _⟩ := hrow.bytes
    subst hyl
    simp at e0
    subst e0 e3
    exact ⟨⟨n0, q, c, ys⟩, ⟨u32_range w0, hys, hlc.1, hlc.2⟩, ⟨hat 0 (by decide), hat 1 (by decide)⟩, hyb⟩

/-- A slice of commands that came in. -/
theorem open_cms {H : Type} {enc : TypeId × Value → H} {base : Nat} {held : Bool} {fuel : Nat} {x : DataW H × List MemPlace} {a : Option Addr} {len cap : Nat}
    (h : DataW.trod enc Try.prog w base (fun _ => true) held fuel 28 [.slice a len cap] = some x) :
    ∃ l : List Cm, l.length = len ∧ IsCms w a l ∧ (∀ m ∈ l, m.Fits) ∧ len ≤ cap ∧ cap ≤ 9223372036854775807 := by
  rcases open_slice Try.underlying28 h with ⟨e, _⟩ | ⟨a', len', cap', m, n, D, Pl, hcs, hb, hl, hm, hmm, hx, hi⟩
  · injection e with e
    injection e with e1 e2 e3
    subst e1 e2 e3
    exact ⟨[], rfl, (fun h => by cases h), (fun s hs => by cases hs), Nat.le_refl _, by omega⟩
  · injection hcs with hcs
    injection hcs with e1 e2 e3
    subst e1 e2 e3
    simp only [if_true] at hmm
    subst hmm
    obtain ⟨l, hll, hlp⟩ := list_of' (⟨0, none, 0, []⟩ : Cm) len (fun i s => s.Fits ∧ CmCells w (a'.add (i * 2)) s) (fun i hil => by
      obtain ⟨cs', hc, ht⟩ := hi i (by omega)
      rw [show Try.prog.cellsOf 40 = 2 by kernel_rfl] at hc
      exact open_cm hc ht)
    refine ⟨l, hll, fun h0 => ?_, fun s hs => ?_, hl, by unfold maxLen at hm; omega⟩
    · obtain ⟨_, ⟨hc, _⟩, _⟩ := hlp 0 (l[0]'h0) (List.getElem?_eq_getElem h0)
      have hc' : w.cell? (a'.add 0) = some (.int .u32 (l[0]'h0).cmd) := by rw [Go.Deep.add_add] at hc; simpa using hc
      obtain ⟨b, o, rfl⟩ := flat_of_cell hc'
      refine ⟨b, o, rfl, fun i s hs => ?_⟩
      obtain ⟨_, ⟨c0, c1⟩, hbs⟩ := hlp i s hs
      simp only [add_flat] at c0 c1
      exact ⟨⟨c0, c1⟩, hbs⟩
    · obtain ⟨i, hi2, rfl⟩ := List.getElem_of_mem hs
      exact (hlp i _ (List.getElem?_eq_getElem hi2)).1

/-- May a command be? -/
def mayB (cmd : Int) (ys : List Int) : Bool := decide (8 ≤ ys.length ∧ ys.length % 8 = 0 ∧ leN (ys.take 4) = cmd ∧ leN ((ys.drop 4).take 4) = ys.length)
def Cm.odd (m : Cm) : Bool := !mayB m.cmd m.bytes
/-- A number's four bytes, the lowest first. -/
def le4 (n : Int) : List Int := [n % 256, n / 256 % 256, n / 65536 % 256, n / 16777216 % 256]
theorem le4_len (n : Int) : (le4 n).length = 4 := rfl
theorem le4_small (n : Int) : Small (le4 n) := fun x hx => by
  simp [le4] at hx
  omega
theorem leN_le4 {n : Int} (h : 0 ≤ n ∧ n < 4294967296) : leN (le4 n) = n := by
  simp only [le4, leN]; omega
theorem leN4_bd {ys : List Int} (h : Small ys) (p : Nat) : 0 ≤ leN ((ys.drop p).take 4) ∧ leN ((ys.drop p).take 4) < 4294967296 := by
  have h1 := leN_bd ((ys.drop p).take 4) (fun x hx => h x (List.mem_of_mem_drop (List.mem_of_mem_take hx)))
  have h2 : ((ys.drop p).take 4).length ≤ 4 := by simp; omega
  have h3 : (2 : Int) ^ (8 * ((ys.drop p).take 4).length) ≤ 2 ^ 32 := by
    have : (2 : Nat) ^ (8 * ((ys.drop p).take 4).length) ≤ 2 ^ 32 := Nat.pow_le_pow_right (by decide) (by omega)
    exact_mod_cast this
  exact ⟨h1.1, Int.lt_of_lt_of_le h1.2 h3⟩
/-- Few commands, of few bytes: at most so many, each of at most 2000 bytes. -/
def fewB (l : List Cm) (most : Int) : Bool := l.all (fun m => decide (m.bytes.length ≤ 2000)) && decide ((l.length : Int) ≤ most)
theorem few_any (l : List Cm) (n : Nat) (hn : l.length = n) (p : Option Addr) (c : Nat) (hp : IsCms w p l) (hl : n ≤ c) (hc : c ≤ 9223372036854775807) (hfit : ∀ m ∈ l, m.Fits) (most : Int) :
    Calls Try.prog 32 #[.slice p n c, .int .i64 most] w fun e w' => e = .returned (.bool (fewB l most)) ∧ w.grownBy w' none := by
  obtain ⟨b, hb⟩ : ∃ b, b = fewB l most := ⟨_, rfl⟩
  rw [← hb]
  have HB := Lib.hid hb
  have P := Lib.hid hp
  have F := Lib.hid hfit
  have HN := Lib.hid hn
  clear hb hp hfit hn
  go_enter Try.func32, Try.ntmps32
  go_wp2
  go_loopw [5] (fun i wr => ∃ k : Nat, i = .int .i64 k ∧ k ≤ n ∧ w.grownBy wr none ∧ ∀ j m, j < k → l[j]? = some m → m.bytes.length ≤ 2000) (fun i _ => n - (intOf i).toNat)
  case atStart => exact ⟨0, rfl, Nat.zero_le _, grown_refl _ _, fun j m hj => by omega⟩
  case round =>
    obtain ⟨k, rfl, hk, hg, hall⟩ := hrel
    have P := Lib.hid (P.out.grown hg)
    have G := Lib.hid hg
    clear hg
    by_cases hlt : k < n
    · obtain ⟨m, hm⟩ : ∃ m, l[k]? = some m := ⟨_, List.getElem?_eq_getElem (by rw [HN.out]; exact hlt)⟩
      obtain ⟨b', o, rfl, hcl⟩ := P.out (by rw [HN.out]; omega)
      obtain ⟨⟨c0, c1⟩, _⟩ := hcl k m hm
      have hml := (F.out m (List.mem_of_getElem? hm)).len
      have hmc := (F.out m (List.mem_of_getElem? hm)).cap
      have A := Lib.hid hall
      have M := Lib.hid hm
      clear hcl hall hm
      by_cases h3 : m.bytes.length ≤ 2000
      · have hd : decide ((2000 : Int) < m.bytes.length) = false := by simp; omega
        go_wp2
        go_roundw
        case rel =>
          refine ⟨k + 1, by go_num, by omega, G.out, fun j t hj ht => ?_⟩
          rcases Nat.lt_or_ge j k with h | h
          · exact A.out j t h ht
          · obtain rfl : j = k := by omega
            rw [M.out] at ht
            injection ht with ht
            subst ht
            exact h3
        case measure => simp [intOf]; omega
      · have hd : decide ((2000 : Int) < m.bytes.length) = true := by simp; omega
        have hf : fewB l most = false := by
          unfold fewB
          rw [Bool.and_eq_false_iff]
          refine .inl ?_
          rw [Bool.eq_false_iff]
          intro h
          have := List.all_eq_true.1 h m (List.mem_of_getElem? M.out)
          simp at this
          omega
        have HF := Lib.hid hf
        clear hf
        go_wp2
        go_ret
        exact ⟨ret_bool (by rw [HB.out, HF.out]), G.out⟩
    · have hk' : k = n := by omega
      subst hk'
      have hf : fewB l most = decide ((k : Int) ≤ most) := by
        unfold fewB
        rw [HN.out]
        have : l.all (fun m => decide (m.bytes.length ≤ 2000)) = true := by
          rw [List.all_eq_true]
          intro m hm
          obtain ⟨i, hi, rfl⟩ := List.getElem_of_mem hm
          have := hall i _ (by rw [← HN.out]; exact hi) (List.getElem?_eq_getElem hi)
          simpa using this
        rw [this, Bool.true_and]
      have HF := Lib.hid hf
      clear hf hall
      go_wp2
      go_ret
      exact ⟨ret_bool (by rw [HB.out, HF.out]), G.out⟩
end Go.Proofs.Ythdppaooemdmaaa
