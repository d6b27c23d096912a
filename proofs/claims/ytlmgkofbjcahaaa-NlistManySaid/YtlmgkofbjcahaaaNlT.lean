/- A table in the telling, in memory: names that were met, symbols that were told, the strings' cursor. No condition. -/
import Derived.Test.YtlmgkofbjcahaaaNlM
import Derived.Test.YtlmgkofbjcahaaaPenT
import Derived.Test.YtlmgkofbjcahaaaOneAt
namespace Go.Proofs.Ytlmgkofbjcahaaa
open Go.RowKit Go.Maps
variable {w w' : World}

def keyN (t : List Int) : Lit := .string (strOfNums t).data.toList
theorem keyN_is (t : List Int) : WideAt.IsKeyLit (keyN t) := trivial
theorem keyN_inj {a b : List Int} (ha : Byt a) (hb : Byt b) : keyN a = keyN b ↔ a = b := by
  constructor
  · intro h
    unfold keyN at h
    injection h with h
    rw [strOfNums_data, strOfNums_data] at h
    rw [← nums_byt ha, ← nums_byt hb]
    unfold nums Lib.bytesOf
    rw [h]
  · rintro rfl; rfl
/-- The names that were met. -/
def MetN (w : World) (m k : Nat) (D : Syms) : Prop := w.ownsMap (H := Unit) Try.prog 9 unitElem m k (setOf (.agg []) (D.map fun y => keyN y.1))
theorem zeroUnit (w : World) : (zeroValue 72).run Try.prog w = .ok (.agg #[]) w := by kernel_rfl
theorem has_names {D : Syms} {t : List Int} (hD : ∀ y ∈ D, Byt y.1) (ht : Byt t) : Maps.has (setOf (H := Unit) (.agg []) (D.map fun y => keyN y.1)) (keyN t) = nlHas D t := by
  rw [has_setOf _ _ _ (fun x hx => by obtain ⟨y, _, rfl⟩ := List.mem_map.1 hx; exact keyN_is _)]
  unfold nlHas
  rw [List.any_map, Bool.eq_iff_iff, List.any_eq_true, List.any_eq_true]
  constructor
  · rintro ⟨y, hy, h⟩
    refine ⟨y, hy, decide_eq_true ?_⟩
    by_cases e : keyN y.1 = keyN t
    · exact (keyN_inj (hD y hy) ht).1 e
    · simp only [Function.comp] at h
      rw [sameKey_ne e] at h; cases h
  · rintro ⟨y, hy, h⟩
    refine ⟨y, hy, ?_⟩
    rw [decide_eq_true_eq] at h
    simp only [Function.comp, h]
    exact WideAt.sameKey_self (keyN_is t)
theorem MetN.look {m k : Nat} {D : Syms} (h : MetN w m k D) (hD : ∀ y ∈ D, Byt y.1) {t : List Int} (ht : Byt t) (hl : t.length ≤ 140737488355328) :
    (Instr.lookup 49 (.map (some m)) (.string (strOfNums t)) true).run Try.prog w = .ok (.tuple #[.agg #[], .bool (nlHas D t)]) w := by
  obtain ⟨v, ps, hr, hv⟩ := World.ownsMap.look_ok h strKeyed Try.underlying49 (zeroUnit w) unitElem_mk (Go.WideMaps.keyOf_string_mk Try.underlying9 (s := strOfNums t) (by rw [strOfNums_size]; unfold maxLen; omega))
  obtain ⟨rfl, _⟩ := unitElem_inv hv
  rw [hr]
  have := has_names hD ht
  unfold keyN at this
  rw [← this]
  rfl
theorem MetN.put {m k : Nat} {D : Syms} (h : MetN w m k D) (y : Sym) (hl : y.1.length ≤ 140737488355328) (hk : k < maxLen) :
    ∃ w', (Instr.mapUpdate 49 (.map (some m)) (.string (strOfNums y.1)) (.agg #[])).run Try.prog w = .ok () w' ∧ MetN w' m (k + 1) (D ++ [y]) ∧ w.grownBy w' (some m) := by
  obtain ⟨w', hr, ho', hg⟩ := World.ownsMap.update h strKeyed Try.underlying49 hk (Go.WideMaps.keyOf_string_mk Try.underlying9 (s := strOfNums y.1) (by rw [strOfNums_size]; unfold maxLen; omega)) unitElem_mk
  refine ⟨w', hr, ?_, hg⟩
  unfold MetN
  rw [List.map_append, List.map_singleton, setOf_snoc]
  exact ho'
theorem MetN.kept {m k : Nat} {D : Syms} {r : Option Nat} (h : MetN w m k D) (hg : w.grownBy w' r) (hr : r ≠ some m) : MetN w' m k D := World.ownsMap.kept h hg (fun e => hr e.symm)
theorem MetN.made (w : World) : MetN (w.alloc (.map #[] 0)) w.heap.size 0 [] := World.ownsMap_made w _ _ _
theorem MetN.drewN {m k : Nat} {D : Syms} (h : MetN w m k D) (n : Nat) : MetN (w.drewN n) m k D := h.kept (grown_drewN (grown_refl w none) n) (by simp)

variable {B g a lo hi m : Nat} {v : Value} {ys : List Int} {n : Int} {p : Nat} {D : Syms}
/-- Where the telling's parts lie: the strings' cursor a, the row of symbols v, the names m. -/
structure TelAt (w : World) (B g a lo hi m : Nat) (v : Value) (ys : List Int) (n : Int) (p : Nat) (D : Syms) : Prop where
  blk : w.heap[g]? = some (.cells #[.pointer (some ⟨a, 0, none⟩), .int .i64 n, v, .map (some m)] 51 (0, 0))
  pen : Pen w lo hi a ys p false false
  row : w.ownsRow hi 32 4 v D.length (D.flatMap syCs)
  met : MetN w m D.length D
  lo : B ≤ lo
  hg : hi ≤ g
  hm : hi ≤ m
theorem TelAt.ne (h : TelAt w B g a lo hi m v ys n p D) : m ≠ g := by
  intro e
  obtain ⟨es, clock, hb, _⟩ := h.met
  have := h.blk
  rw [← e, hb] at this
  injection this with this
  cases this
theorem TelAt.off (h : TelAt w B g a lo hi m v ys n p D) : ∀ b, v.ownBlock = some b → b ≠ g ∧ b ≠ m ∧ hi ≤ b := by
  intro b hb
  have h1 := (h.row.lt b hb).1
  rcases h.row.2 with ⟨rfl, _⟩ | ⟨b', cap, cur, rfl, _, hg, _⟩
  · cases hb
  · simp only [Value.ownBlock, Option.some.injEq] at hb
    subst hb
    refine ⟨fun e => ?_, fun e => ?_, h1⟩
    · have := h.blk
      rw [← e, hg] at this
      injection this with this
      injection this with _ e2 _
      revert e2
      decide +kernel
    · obtain ⟨es, clock, hb, _⟩ := h.met
      rw [← e, hg] at hb
      injection hb with hb
      cases hb
theorem TelAt.c (h : TelAt w B g a lo hi m v ys n p D) : w.cell? ⟨g, 0, none⟩ = some (.pointer (some ⟨a, 0, none⟩)) ∧ w.cell? ⟨g, 1, none⟩ = some (.int .i64 n) ∧ w.cell? ⟨g, 2, none⟩ = some v ∧ w.cell? ⟨g, 3, none⟩ = some (.map (some m)) := by
  refine ⟨?_, ?_, ?_, ?_⟩ <;> (rw [cell_of h.blk]; rfl)
theorem TelAt.lt (h : TelAt w B g a lo hi m v ys n p D) : g < w.heap.size := lt_of_block h.blk
theorem TelAt.fz (h : TelAt w B g a lo hi m v ys n p D) (i : Nat) : w.frozen? ⟨g, i, none⟩ = false := free_of h.blk
/-- What lays new blocks alone keeps it. -/
theorem TelAt.grown (h : TelAt w B g a lo hi m v ys n p D) (k : w.grownBy w' none) : TelAt w' B g a lo hi m v ys n p D :=
  ⟨(k.block g (lt_of_block h.blk) (by simp)).trans h.blk, h.pen.same k, h.row.kept k (by cases v.ownBlock <;> simp), h.met.kept k (by simp), h.lo, h.hg, h.hm⟩
theorem TelAt.drewN (h : TelAt w B g a lo hi m v ys n p D) (j : Nat) : TelAt (w.drewN j) B g a lo hi m v ys n p D := h.grown (grown_drewN (grown_refl w none) j)
/-- The cursor was moved. -/
theorem TelAt.moved (h : TelAt w B g a lo hi m v ys n p D) (k : w.grownBy w' (some a)) {p' : Nat} (hp : Pen w' lo hi a ys p' false false) : TelAt w' B g a lo hi m v ys n p' D := by
  have h1 := h.hg
  have h2 := h.hm
  have h3 := h.pen.up
  refine ⟨(k.block g (lt_of_block h.blk) (fun e => by injection e with e; omega)).trans h.blk, hp, h.row.kept k ?_, h.met.kept k (fun e => by injection e with e; omega), h.lo, h.hg, h.hm⟩
  cases hv : v.ownBlock with
  | none => exact .inl rfl
  | some b => exact .inr (fun e => by injection e with e; have := (h.off b hv).2.2; omega)
end Go.Proofs.Ytlmgkofbjcahaaa
