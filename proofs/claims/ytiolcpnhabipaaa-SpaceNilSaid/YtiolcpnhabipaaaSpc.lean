/- A space in memory: two maps, of pages and of protections, and the pages' blocks; what is read of it, and what keeps it. No condition. -/
import Derived.Test.YtiolcpnhabipaaaMe
import Derived.Test.YtiolcpnhabipaaaGrow
import Derived.Maps.Views
namespace Go.Proofs.Ytiolcpnhabipaaa
open Go.RowKit Go.Maps
variable {w w' : World}

/-- What a space tells: each page's protection (0: it is not there), each byte, how many pages. -/
structure Spc where
  P : Nat → Int
  B : Nat → Int
  K : Nat

def keyN (n : Nat) : Lit := .int .u64 n
theorem keyN_inj {n m : Nat} (h : keyN n = keyN m) : n = m := by unfold keyN at h; injection h with _ h; omega
theorem keyN_key (n : Nat) : WideAt.IsKeyLit (keyN n) := trivial
def pageVals (c : Nat → Int) : Array Value := ((List.range 4096).map fun i => Value.int .u8 (c i)).toArray
theorem pageVals_size (c : Nat → Int) : (pageVals c).size = 4096 := by simp [pageVals]
theorem pageVals_get (c : Nat → Int) {i : Nat} (h : i < 4096) : (pageVals c)[i]? = some (.int .u8 (c i)) := by simp [pageVals, h]
theorem pageVals_congr {c d : Nat → Int} (h : ∀ i, i < 4096 → c i = d i) : pageVals c = pageVals d := by
  unfold pageVals
  rw [List.map_congr_left (fun i hi => by rw [h i (by simpa using hi)])]
def pageArr (B : Nat → Int) (n : Nat) : Array Value := pageVals fun i => B (4096 * n + i)

/-- A pointer to a page's block, or none, as a map's element. -/
def ptrElem (v : Value) : Option (DataW Unit × List MemPlace) :=
  match v with
  | .pointer none => some (.nil, [])
  | .pointer (some ⟨b, 0, none⟩) => some (.lit (.int .u64 b), [])
  | _ => none
theorem ptrElem_mk (b : Nat) : ptrElem (.pointer (some ⟨b, 0, none⟩)) = some (.lit (.int .u64 b), []) := rfl
theorem ptrElem_inv {v : Value} {b : Nat} {ps : List MemPlace} (h : ptrElem v = some (.lit (.int .u64 (b : Int)), ps)) : v = .pointer (some ⟨b, 0, none⟩) := by
  unfold ptrElem at h
  split at h
  · simp at h
  · rename_i c
    have e : (c : Int) = b := by injection h with h; injection h with h _; injection h with h; injection h
    rw [Int.ofNat_inj.1 e]
  · simp at h
theorem ptrElem_nil {v : Value} {ps : List MemPlace} (h : ptrElem v = some (.nil, ps)) : v = .pointer none := by
  unfold ptrElem at h
  split at h
  · rfl
  · simp at h
  · simp at h

theorem u64keyed : Keyed Try.prog 24 := int_keyed Try.underlying24
theorem zeroPtr (w : World) : (zeroValue 73).run Try.prog w = .ok (.pointer none) w := by kernel_rfl
theorem zeroI (w : World) : (zeroValue 3).run Try.prog w = .ok (.int .i64 0) w := by kernel_rfl
theorem key_of {n : Nat} (h : n < 18446744073709551616) : keyOf Try.prog 24 (.int .u64 n) = some (keyN n) := keyOf_int_mk Try.underlying24 (WalkArith.wf_u64 (by omega))

def PMap (w : World) (b n : Nat) (D : DataW Unit) : Prop := w.ownsMap Try.prog 24 ptrElem b n D
def QMap (w : World) (b n : Nat) (D : DataW Unit) : Prop := w.ownsMap Try.prog 24 (plainElem Try.prog 3) b n D

/-- What the two maps tell of a space, of pages at these blocks. -/
structure MapsOf (σ : Spc) (g : Nat → Nat) (Dp Dq : DataW Unit) : Prop where
  szp : Maps.size Dp = σ.K
  szq : Maps.size Dq = σ.K
  hasp : ∀ kl, Maps.has Dp kl = true ↔ ∃ n, kl = keyN n ∧ σ.P n ≠ 0
  hasq : ∀ kl, Maps.has Dq kl = true ↔ ∃ n, kl = keyN n ∧ σ.P n ≠ 0
  atp : ∀ n z, σ.P n ≠ 0 → Dp.atKey (keyN n) z = .lit (.int .u64 (g n))
  atq : ∀ n z, σ.P n ≠ 0 → Dq.atKey (keyN n) z = .lit (.int .i64 (σ.P n))
  inj : ∀ n m, σ.P n ≠ 0 → σ.P m ≠ 0 → g n = g m → n = m

/-- What may be: few pages, below the greatest address. -/
structure Fits (σ : Spc) : Prop where
  few : σ.K ≤ 8192
  low : ∀ n, σ.P n ≠ 0 → n < 34359738368
  prot : ∀ n, 0 ≤ σ.P n ∧ σ.P n ≤ 7
  bytes : ∀ x, 0 ≤ σ.B x ∧ σ.B x < 256
  none : σ.K = 0 → ∀ n, σ.P n = 0

/-- The two maps' values, and the pages. -/
inductive Maps2 (w : World) (F : Nat → Prop) (σ : Spc) : Value → Value → Prop
  | bare (h : ∀ n, σ.P n = 0) (hK : σ.K = 0) : Maps2 w F σ (.map none) (.map none)
  | full (bp bq : Nat) (g : Nat → Nat) (Dp Dq : DataW Unit) (hne : bp ≠ bq) (hp : PMap w bp σ.K Dp) (hq : QMap w bq σ.K Dq) (hm : MapsOf σ g Dp Dq) (fp : F bp) (fq : F bq)
      (fg : ∀ n, σ.P n ≠ 0 → F (g n) ∧ w.heap[g n]? = some (.cells (pageArr σ.B n) 76 (0, 0))) : Maps2 w F σ (.map (some bp)) (.map (some bq))

/-- A space at a block. -/
structure SpcAt (w : World) (F : Nat → Prop) (a : Nat) (σ : Spc) : Prop where
  mine : F a
  fits : Fits σ
  maps : ∃ mp mq, w.heap[a]? = some (.cells #[mp, mq] 65 (0, 0)) ∧ Maps2 w F σ mp mq

/-- Nothing but these blocks, and new ones, has turned. -/
structure Chg (F : Nat → Prop) (w w' : World) : Prop where
  os : w'.os = w.os
  tape : w'.tape = w.tape
  output : w'.output = w.output
  size : w.heap.size ≤ w'.heap.size
  block : ∀ k, k < w.heap.size → ¬ F k → w'.heap[k]? = w.heap[k]?

/-- A footprint, and what was laid between two worlds. -/
def Foot (F : Nat → Prop) (w w' : World) (k : Nat) : Prop := F k ∨ (w.heap.size ≤ k ∧ k < w'.heap.size)

theorem Chg.refl (F : Nat → Prop) (w : World) : Chg F w w := ⟨rfl, rfl, rfl, Nat.le_refl _, fun _ _ _ => rfl⟩
theorem Chg.trans {F : Nat → Prop} {w1 w2 w3 : World} (h : Chg F w1 w2) (k : Chg F w2 w3) : Chg F w1 w3 :=
  ⟨k.os.trans h.os, k.tape.trans h.tape, k.output.trans h.output, Nat.le_trans h.size k.size, fun i hi hf => (k.block i (Nat.lt_of_lt_of_le hi h.size) hf).trans (h.block i hi hf)⟩
/-- .. where the second one may turn what the first one laid, too. -/
theorem Chg.then {F : Nat → Prop} {w1 w2 w3 : World} (h : Chg F w1 w2) (k : Chg (Foot F w1 w2) w2 w3) : Chg F w1 w3 :=
  ⟨k.os.trans h.os, k.tape.trans h.tape, k.output.trans h.output, Nat.le_trans h.size k.size, fun i hi hf => (k.block i (Nat.lt_of_lt_of_le hi h.size) (fun e => e.elim hf (fun e => absurd e.1 (by omega)))).trans (h.block i hi hf)⟩
theorem Chg.mono {F G : Nat → Prop} (h : Chg F w w') (hs : ∀ k, F k → G k) : Chg G w w' := ⟨h.os, h.tape, h.output, h.size, fun k hk hg => h.block k hk (fun e => hg (hs k e))⟩
theorem Chg.of_grown {F : Nat → Prop} {r : Option Nat} (h : w.grownBy w' r) (hr : ∀ b, r = some b → F b ∨ w.heap.size ≤ b) : Chg F w w' :=
  ⟨h.os, h.tape, h.output, h.size, fun k hk hf => h.block k hk (fun e => (hr k e.symm).elim hf (fun h => absurd hk (by omega)))⟩
theorem Chg.below (h : Chg (fun k => w.heap.size ≤ k) w w') : Below w.heap.size w w' :=
  ⟨h.os, h.tape, h.output, h.size, fun k hk => h.block k hk (by omega)⟩
theorem Chg.grown (h : Chg (fun _ => False) w w') : w.grownBy w' none := ⟨h.os, h.tape, h.output, h.size, fun k hk _ => h.block k hk (fun e => e)⟩

theorem Maps2.mono {F G : Nat → Prop} {σ : Spc} {mp mq : Value} (h : Maps2 w F σ mp mq) (hs : ∀ k, F k → G k) : Maps2 w G σ mp mq := by
  cases h with
  | bare h hK => exact .bare h hK
  | full bp bq g Dp Dq hne hp hq hm fp fq fg => exact .full bp bq g Dp Dq hne hp hq hm (hs _ fp) (hs _ fq) fun n hn => ⟨hs _ (fg n hn).1, (fg n hn).2⟩
theorem owns_lt {P : Program} {k : TypeId} {R : Value → Option (DataW Unit × List MemPlace)} {b n : Nat} {D : DataW Unit} (h : w.ownsMap P k R b n D) : b < w.heap.size := h.lt
/-- What turns nothing of it keeps it. -/
theorem Maps2.kept {F G : Nat → Prop} {σ : Spc} {mp mq : Value} (h : Maps2 w F σ mp mq) (hg : Chg G w w') (hd : ∀ k, F k → ¬ G k) : Maps2 w' F σ mp mq := by
  cases h with
  | bare h hK => exact .bare h hK
  | full bp bq g Dp Dq hne hp hq hm fp fq fg =>
    refine .full bp bq g Dp Dq hne (owns_at hp (hg.block _ hp.lt (hd _ fp))) (owns_at hq (hg.block _ hq.lt (hd _ fq))) hm fp fq fun n hn => ⟨(fg n hn).1, ?_⟩
    exact (hg.block _ (lt_of_block (fg n hn).2) (hd _ (fg n hn).1)).trans (fg n hn).2
theorem SpcAt.mono {F G : Nat → Prop} {a : Nat} {σ : Spc} (h : SpcAt w F a σ) (hs : ∀ k, F k → G k) : SpcAt w G a σ := by
  obtain ⟨h1, h2, mp, mq, h3, h4⟩ := h
  exact ⟨hs _ h1, h2, mp, mq, h3, h4.mono hs⟩
theorem SpcAt.kept {F G : Nat → Prop} {a : Nat} {σ : Spc} (h : SpcAt w F a σ) (hg : Chg G w w') (hd : ∀ k, F k → ¬ G k) : SpcAt w' F a σ := by
  obtain ⟨h1, h2, mp, mq, h3, h4⟩ := h
  exact ⟨h1, h2, mp, mq, (hg.block _ (lt_of_block h3) (hd _ h1)).trans h3, h4.kept hg hd⟩
theorem SpcAt.lt {F : Nat → Prop} {a : Nat} {σ : Spc} (h : SpcAt w F a σ) : a < w.heap.size := by
  obtain ⟨_, _, _, _, h, _⟩ := h
  exact lt_of_block h

def litOf : DataW Unit → Int
  | .lit (.int _ n) => n
  | _ => 0
section reads
variable {F : Nat → Prop} {σ : Spc} {mp mq : Value}
theorem Maps2.len (h : Maps2 w F σ mp mq) (ty : TypeId) : (Builtin.len_ #[62] ty #[mp]).run Try.prog w = .ok (.int .i64 σ.K) w := by
  cases h with
  | bare h hK => rw [hK]; exact Maps.len_nil Try.underlying62 ty
  | full bp bq g Dp Dq hne hp hq hm fp fq fg => rw [← hm.szp]; exact World.ownsMap.len hp Try.underlying62 ty
theorem hasp_no {g : Nat → Nat} {Dp Dq : DataW Unit} (hm : MapsOf σ g Dp Dq) {n : Nat} (h : σ.P n = 0) : Maps.has Dp (keyN n) = false := by
  cases e : Maps.has Dp (keyN n)
  · rfl
  · obtain ⟨m, h1, h2⟩ := (hm.hasp _).1 e
    rw [← keyN_inj h1] at h2
    exact absurd h h2
theorem hasq_no {g : Nat → Nat} {Dp Dq : DataW Unit} (hm : MapsOf σ g Dp Dq) {n : Nat} (h : σ.P n = 0) : Maps.has Dq (keyN n) = false := by
  cases e : Maps.has Dq (keyN n)
  · rfl
  · obtain ⟨m, h1, h2⟩ := (hm.hasq _).1 e
    rw [← keyN_inj h1] at h2
    exact absurd h h2
/-- A page that is not there. -/
theorem Maps2.no (h : Maps2 w F σ mp mq) {n : Nat} (hn : n < 18446744073709551616) (h0 : σ.P n = 0) : (Instr.lookup 62 mp (.int .u64 n) false).run Try.prog w = .ok (.pointer none) w := by
  cases h with
  | bare h hK => exact Maps.look_nil false u64keyed Try.underlying62 (zeroPtr w) (key_of hn)
  | full bp bq g Dp Dq hne hp hq hm fp fq fg =>
    obtain ⟨v, ps, h1, h2⟩ := World.ownsMap.lookup hp u64keyed Try.underlying62 (zeroPtr w) (zd := .nil) (zp := []) rfl (key_of hn)
    rw [atKey_of_not_has (hasp_no hm h0)] at h2
    rw [h1, ptrElem_nil h2]
/-- A page that is there. -/
theorem Maps2.page (h : Maps2 w F σ mp mq) {n : Nat} (hn : n < 18446744073709551616) (h0 : σ.P n ≠ 0) :
    ∃ b, (Instr.lookup 62 mp (.int .u64 n) false).run Try.prog w = .ok (.pointer (some ⟨b, 0, none⟩)) w ∧ F b ∧ w.heap[b]? = some (.cells (pageArr σ.B n) 76 (0, 0)) := by
  cases h with
  | bare h hK => exact absurd (h n) h0
  | full bp bq g Dp Dq hne hp hq hm fp fq fg =>
    obtain ⟨v, ps, h1, h2⟩ := World.ownsMap.lookup hp u64keyed Try.underlying62 (zeroPtr w) (zd := .nil) (zp := []) rfl (key_of hn)
    rw [hm.atp n _ h0] at h2
    exact ⟨g n, by rw [h1, ptrElem_inv h2], fg n h0⟩
/-- A page's protection. -/
theorem Maps2.prot (h : Maps2 w F σ mp mq) {n : Nat} (hn : n < 18446744073709551616) : (Instr.lookup 63 mq (.int .u64 n) false).run Try.prog w = .ok (.int .i64 (σ.P n)) w := by
  cases h with
  | bare h hK => rw [h n]; exact Maps.look_nil false u64keyed Try.underlying63 (zeroI w) (key_of hn)
  | full bp bq g Dp Dq hne hp hq hm fp fq fg =>
    obtain ⟨v, h1, h2, _⟩ := World.ownsMap.lookup_int hq u64keyed Try.underlying63 Try.underlying3 (zeroI w) (key_of hn)
    have e : v = σ.P n := by
      by_cases h0 : σ.P n = 0
      · rw [atKey_of_not_has (hasq_no hm h0)] at h2
        exact (congrArg litOf h2).symm.trans h0.symm
      · rw [hm.atq n _ h0] at h2
        exact (congrArg litOf h2).symm
    rw [h1, e]
/-- .. and whether it is there. -/
theorem Maps2.prot_ok (h : Maps2 w F σ mp mq) {n : Nat} (hn : n < 18446744073709551616) : (Instr.lookup 63 mq (.int .u64 n) true).run Try.prog w = .ok (.tuple #[.int .i64 (σ.P n), .bool (decide (σ.P n ≠ 0))]) w := by
  cases h with
  | bare h hK => rw [h n, decide_eq_false (fun h => h rfl)]; exact Maps.look_nil true u64keyed Try.underlying63 (zeroI w) (key_of hn)
  | full bp bq g Dp Dq hne hp hq hm fp fq fg =>
    obtain ⟨v, ps, h1, h2⟩ := World.ownsMap.look_ok hq u64keyed Try.underlying63 (zeroI w) (plainElem_int Try.underlying3 (a := 0) (by decide)) (key_of hn)
    obtain ⟨c, rfl, h3, _⟩ := plainElem_int_inv Try.underlying3 h2
    replace h3 := congrArg Prod.fst h3
    simp only at h3
    have e : c = σ.P n ∧ Maps.has Dq (keyN n) = decide (σ.P n ≠ 0) := by
      by_cases h0 : σ.P n = 0
      · rw [atKey_of_not_has (hasq_no hm h0)] at h3
        exact ⟨(congrArg litOf h3).symm.trans h0.symm, by rw [hasq_no hm h0, decide_eq_false (fun h => h h0)]⟩
      · rw [hm.atq n _ h0] at h3
        exact ⟨(congrArg litOf h3).symm, by rw [(hm.hasq _).2 ⟨n, rfl, h0⟩, decide_eq_true h0]⟩
    rw [h1, e.1, e.2]
end reads
end Go.Proofs.Ytiolcpnhabipaaa
