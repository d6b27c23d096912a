/- Slices of a file, as records in memory: what one is told by, and which one of some is found. No condition. -/
import Derived.Test.YtdjakaiadggemaaOps
import Derived.Laws.StructEq
import Derived.Below
import Derived.Shelf.Abstract
import Derived.Laws.ResultCell
namespace Go.Proofs.Ytdjakaiadggemaa
open Go.RowKit
variable {w w' : World}

structure Sl where
  cpu : Int
  sub : Int
  off : Int
  size : Int
  align : Int
def Sl.cs (s : Sl) : List Value := [.int .u32 s.cpu, .int .u32 s.sub, .int .u64 s.off, .int .u64 s.size, .int .i64 s.align]
def Sl.v (s : Sl) : Value := .agg #[.int .u32 s.cpu, .int .u32 s.sub, .int .u64 s.off, .int .u64 s.size, .int .i64 s.align]
/-- A slice's numbers are those of their types. -/
structure Sl.Fits (s : Sl) : Prop where
  cpu : 0 ≤ s.cpu ∧ s.cpu < 4294967296
  sub : 0 ≤ s.sub ∧ s.sub < 4294967296
  off : 0 ≤ s.off ∧ s.off < 18446744073709551616
  size : 0 ≤ s.size ∧ s.size < 18446744073709551616
  align : -9223372036854775808 ≤ s.align ∧ s.align ≤ 9223372036854775807
def Sl.zero : Sl := ⟨0, 0, 0, 0, 0⟩

/-- Is it of a cputype, and a subtype's low 24 bits? -/
def Sl.isOf (s : Sl) (cpu sub : Int) : Bool := (s.cpu == cpu) && (s.sub % 16777216 == sub % 16777216)
def Sl.alike (a b : Sl) : Bool := a.isOf b.cpu b.sub

/-- These slices lie one behind the other, from p on. -/
def IsSl (w : World) (p : Option Addr) (l : List Sl) : Prop :=
  0 < l.length → ∃ b o, p = some ⟨b, o, none⟩ ∧ ∀ i s, l[i]? = some s →
    w.cell? ⟨b, o + i * 5, none⟩ = some (.int .u32 s.cpu) ∧ w.cell? ⟨b, o + i * 5 + 1, none⟩ = some (.int .u32 s.sub) ∧ w.cell? ⟨b, o + i * 5 + 2, none⟩ = some (.int .u64 s.off) ∧
    w.cell? ⟨b, o + i * 5 + 3, none⟩ = some (.int .u64 s.size) ∧ w.cell? ⟨b, o + i * 5 + 4, none⟩ = some (.int .i64 s.align)
theorem IsSl.kept {row : Option Nat} {p : Option Addr} {l : List Sl} (h : IsSl w p l) (hg : w.grownBy w' row) (hr : ∀ b, p = some b → row ≠ some b.block) : IsSl w' p l := by
  intro hl
  obtain ⟨b, o, rfl, hc⟩ := h hl
  have hne : some b ≠ row := fun e => hr _ rfl e.symm
  refine ⟨b, o, rfl, fun i s hs => ?_⟩
  obtain ⟨h0, h1, h2, h3, h4⟩ := hc i s hs
  exact ⟨hg.cell h0 hne, hg.cell h1 hne, hg.cell h2 hne, hg.cell h3 hne, hg.cell h4 hne⟩
theorem IsSl.grown {p : Option Addr} {l : List Sl} (h : IsSl w p l) (hg : w.grownBy w' none) : IsSl w' p l := h.kept hg (by simp)

/-- One slice in a block of its own. -/
def SlAt (w : World) (g : Nat) (s : Sl) : Prop := w.heap[g]? = some (.cells #[.int .u32 s.cpu, .int .u32 s.sub, .int .u64 s.off, .int .u64 s.size, .int .i64 s.align] 42 (0, 0))
section
variable {g : Nat} {s : Sl}
theorem SlAt.c0 (h : SlAt w g s) : w.cell? ⟨g, 0, none⟩ = some (.int .u32 s.cpu) := by rw [cell_of h]; rfl
theorem SlAt.c1 (h : SlAt w g s) : w.cell? ⟨g, 1, none⟩ = some (.int .u32 s.sub) := by rw [cell_of h]; rfl
theorem SlAt.c2 (h : SlAt w g s) : w.cell? ⟨g, 2, none⟩ = some (.int .u64 s.off) := by rw [cell_of h]; rfl
theorem SlAt.c3 (h : SlAt w g s) : w.cell? ⟨g, 3, none⟩ = some (.int .u64 s.size) := by rw [cell_of h]; rfl
theorem SlAt.c4 (h : SlAt w g s) : w.cell? ⟨g, 4, none⟩ = some (.int .i64 s.align) := by rw [cell_of h]; rfl
theorem SlAt.f (h : SlAt w g s) (i : Nat) : w.frozen? ⟨g, i, none⟩ = false := free_of h
theorem SlAt.new (w : World) (s : Sl) : SlAt (w.alloc (.cells #[.int .u32 s.cpu, .int .u32 s.sub, .int .u64 s.off, .int .u64 s.size, .int .i64 s.align] 42)) w.heap.size s := heap_alloc_new w _
theorem SlAt.kept {row : Option Nat} (h : SlAt w g s) (hg : w.grownBy w' row) (hr : row ≠ some g) : SlAt w' g s := (hg.block g (lt_of_block h) (fun e => hr e.symm)).trans h
theorem SlAt.grown (h : SlAt w g s) (hg : w.grownBy w' none) : SlAt w' g s := h.kept hg (by simp)
theorem SlAt.lt (h : SlAt w g s) : g < w.heap.size := lt_of_block h
theorem SlAt.set0 (h : SlAt w g s) (n : Int) : SlAt (w.setCell ⟨g, 0, none⟩ (.int .u32 n)) g { s with cpu := n } := by unfold SlAt; rw [heap_setCell_same w g 0 _ _ _ h]; rfl
theorem SlAt.set1 (h : SlAt w g s) (n : Int) : SlAt (w.setCell ⟨g, 1, none⟩ (.int .u32 n)) g { s with sub := n } := by unfold SlAt; rw [heap_setCell_same w g 1 _ _ _ h]; rfl
theorem SlAt.set2 (h : SlAt w g s) (n : Int) : SlAt (w.setCell ⟨g, 2, none⟩ (.int .u64 n)) g { s with off := n } := by unfold SlAt; rw [heap_setCell_same w g 2 _ _ _ h]; rfl
theorem SlAt.set3 (h : SlAt w g s) (n : Int) : SlAt (w.setCell ⟨g, 3, none⟩ (.int .u64 n)) g { s with size := n } := by unfold SlAt; rw [heap_setCell_same w g 3 _ _ _ h]; rfl
theorem SlAt.set4 (h : SlAt w g s) (n : Int) : SlAt (w.setCell ⟨g, 4, none⟩ (.int .i64 n)) g { s with align := n } := by unfold SlAt; rw [heap_setCell_same w g 4 _ _ _ h]; rfl
theorem SlAt.put (h : SlAt w g s) (t : Sl) : SlAt (((((w.setCell ⟨g, 0, none⟩ (.int .u32 t.cpu)).setCell ⟨g, 1, none⟩ (.int .u32 t.sub)).setCell ⟨g, 2, none⟩ (.int .u64 t.off)).setCell ⟨g, 3, none⟩ (.int .u64 t.size)).setCell ⟨g, 4, none⟩ (.int .i64 t.align)) g t :=
  ((((h.set0 t.cpu).set1 t.sub).set2 t.off).set3 t.size).set4 t.align
theorem grown_put (h : w.grownBy w' (some g)) (v0 v1 v2 v3 v4 : Value) : w.grownBy (((((w'.setCell ⟨g, 0, none⟩ v0).setCell ⟨g, 1, none⟩ v1).setCell ⟨g, 2, none⟩ v2).setCell ⟨g, 3, none⟩ v3).setCell ⟨g, 4, none⟩ v4) (some g) :=
  grown_setCell (grown_setCell (grown_setCell (grown_setCell (grown_setCell h _) _) _) _) _
/-- What the call itself has made, it may turn. -/
theorem grown_new {w1 : World} (h : w.grownBy w1 none) (k : w1.grownBy w' (some g)) (hg : w.heap.size ≤ g) : w.grownBy w' none :=
  ⟨k.os.trans h.os, k.tape.trans h.tape, k.output.trans h.output, Nat.le_trans h.size k.size, fun i hi _ =>
    (k.block i (Nat.lt_of_lt_of_le hi h.size) (fun e => by injection e with e; omega)).trans (h.block i hi (by simp))⟩
theorem load_sl (h : SlAt w g s) : (loadVar 42 ⟨g, 0, none⟩).run Try.prog w = .ok s.v w :=
  run_loadVar_row w g _ _ _ _ _ h Try.underlying42 rfl (by kernel_rfl)
theorem results_sl {fn : Func} {p u : Tmp} (hr : fn.results = #[.cell p 42, .tmp u]) {tmps : Array Value} {v : Value} (hp : tmps.getD p undef = .pointer (some ⟨g, 0, none⟩)) (hu : tmps.getD u undef = v) (h : SlAt w g s) :
    (results fn tmps).run Try.prog w = .ok (.tuple #[s.v, v]) w := by
  rw [results_cell_tmp hr, hp, hu, show (asAddr (.pointer (some ⟨g, 0, none⟩)) : Sem Addr).run Try.prog w = .ok ⟨g, 0, none⟩ w from rfl, Result.andThen_ok, load_sl h, Result.andThen_ok]
end

theorem and24 (n : Int) (h : 0 ≤ n ∧ n < 4294967296) : bits .and .u32 n 16777215 = n % 16777216 := by
  have hm : (BitVec.ofInt 32 16777215).toNat = 2 ^ 24 - 1 := by decide
  have key : (BitVec.ofInt 32 n &&& BitVec.ofInt 32 16777215).toNat = (n % ((2 ^ 32 : Nat) : Int)).toNat % 2 ^ 24 := by
    rw [BitVec.toNat_and, BitVec.toNat_ofInt, hm, Nat.and_two_pow_sub_one_eq_mod]
  show IntKind.u32.wrap ((BitVec.ofInt 32 n &&& BitVec.ofInt 32 16777215).toNat : Nat) = n % 16777216
  rw [key, IntKind.wrap_u32]
  omega

theorem grown1 (w : World) (o : Obj) : w.grownBy (w.alloc o) none := World.grownBy_alloc w o none
theorem grown2 (w : World) (o o' : Obj) : w.grownBy ((w.alloc o).alloc o') none := grown_alloc (grown1 w o) o'
theorem grown_cell {a : Addr} {v : Value} (hg : w.grownBy w' none) (h : w.cell? a = some v) : w'.cell? a = some v := hg.cell h (by simp)

theorem isOf_any (s : Sl) (hs : s.Fits) (cpu sub : Int) (hc : 0 ≤ sub ∧ sub < 4294967296) :
    Calls Try.prog 50 #[s.v, .int .u32 cpu, .int .u32 sub] w fun e w' => e = .returned (.bool (s.isOf cpu sub)) ∧ w.grownBy w' none := by
  have a1 := and24 s.sub hs.sub
  have a2 := and24 sub hc
  unfold Sl.v Sl.isOf
  clear hs hc
  go_enter Try.func50, Try.ntmps50
  go_wp2
  all_goals
    go_ret
    exact ⟨ret_bool (by simp_all), grown1 _ _⟩

/-- The closure that looks for a subtype of the one cputype. -/
theorem find1_any (s : Sl) (hs : s.Fits) (bn : Nat) (sub : Int) (hc : 0 ≤ sub ∧ sub < 4294967296) (hb : w.cell? ⟨bn, 0, none⟩ = some (.int .u32 sub)) :
    Calls Try.prog 49 #[s.v, .pointer (some ⟨bn, 0, none⟩)] w fun e w' => e = .returned (.bool (s.isOf 16777228 sub)) ∧ w.grownBy w' none := by
  have I := Lib.hid (fun (w : World) => isOf_any (w := w) s hs 16777228 sub hc)
  have hlt := block_lt_of_cell hb
  clear hs hc
  rw [show s.v = .agg #[.int .u32 s.cpu, .int .u32 s.sub, .int .u64 s.off, .int .u64 s.size, .int .i64 s.align] from rfl]
  go_enter Try.func49, Try.ntmps49
  go_wp2_with fail
  refine (I.out _).mono ?_
  rintro e w' ⟨rfl, hg⟩
  have G := Lib.hid (grown_trans (grown1 _ _) hg)
  clear hg
  go_wp2
  go_ret
  exact ⟨rfl, G.out⟩

theorem alike_any (s t : Sl) (hs : s.Fits) (ht : t.Fits) :
    Calls Try.prog 26 #[s.v, t.v] w fun e w' => e = .returned (.bool (s.alike t)) ∧ w.grownBy w' none := by
  have h1 := hs.sub
  have h2 := ht.sub
  unfold Sl.v Sl.alike Sl.isOf
  clear hs ht
  go_enter Try.func26, Try.ntmps26
  go_wp2
  all_goals
    go_ret
    exact ⟨ret_bool (by simp_all), grown2 _ _ _⟩

/-- Where the first one stands that is so; -1 where none is. -/
def Sl.findI (pr : Sl → Bool) (l : List Sl) : Int := if l.findIdx pr < l.length then (l.findIdx pr : Int) else -1

/-- What has been looked at is none; the world has grown. -/
structure FRel (w wr : World) (p : Option Addr) (l : List Sl) (pr : Sl → Bool) (k : Nat) : Prop where
  le : k ≤ l.length
  none : ∀ i s, i < k → l[i]? = some s → pr s = false
  sl : IsSl wr p l
  grown : w.grownBy wr Option.none
theorem findI_yes {pr : Sl → Bool} {l : List Sl} {k : Nat} {s : Sl} (hn : ∀ i s, i < k → l[i]? = some s → pr s = false) (hs : l[k]? = some s) (hp : pr s = true) : Sl.findI pr l = k := by
  have hk : k < l.length := by
    rcases Nat.lt_or_ge k l.length with h | h
    · exact h
    · simp [h] at hs
  have e : l.findIdx pr = k := by
    rw [List.findIdx_eq hk]
    refine ⟨by rw [List.getElem?_eq_getElem hk] at hs; injection hs with hs; rw [hs]; exact hp, fun j hj => ?_⟩
    have := hn j (l[j]'(by omega)) hj (List.getElem?_eq_getElem (by omega))
    simpa using this
  unfold Sl.findI
  rw [e, if_pos hk]
theorem findI_no {pr : Sl → Bool} {l : List Sl} (hn : ∀ i s, i < l.length → l[i]? = some s → pr s = false) : Sl.findI pr l = -1 := by
  have : ¬ l.findIdx pr < l.length := by
    rw [List.findIdx_lt_length]
    rintro ⟨x, hx, hp⟩
    obtain ⟨i, hi, rfl⟩ := List.getElem_of_mem hx
    have := hn i _ hi (List.getElem?_eq_getElem hi)
    rw [this] at hp; cases hp
  unfold Sl.findI
  rw [if_neg this]

/-- slices.IndexFunc over slices, of a closure that lays new blocks alone. -/
theorem index_any (l : List Sl) (hl : l.length ≤ 1152921504606846976) (p : Option Addr) (c : Nat) (hp : IsSl w p l) (f : Nat) (ent : ∀ args w, (callFunc f args).run Try.prog w = .ok (.enter f args) w) (bn : Nat) (pr : Sl → Bool)
    (hf : ∀ s ∈ l, ∀ w', w.grownBy w' none → Calls Try.prog f #[s.v, .pointer (some ⟨bn, 0, none⟩)] w' fun e w'' => e = .returned (.bool (pr s)) ∧ w'.grownBy w'' none) :
    Calls Try.prog 48 #[.slice p l.length c, .func (.func f) #[] #[.pointer (some ⟨bn, 0, none⟩)]] w fun e w' =>
      e = .returned (.int .i64 (Sl.findI pr l)) ∧ w.grownBy w' none := by
  have R0 : FRel w w p l pr 0 := ⟨Nat.zero_le _, fun i s hi => by omega, hp, grown_refl _ _⟩
  have F := Lib.hid hf
  clear hf hp
  go_enter Try.func48, Try.ntmps48
  go_wp2
  go_loopw [8] (fun i wr => ∃ k : Nat, i = .int .i64 k ∧ FRel w wr p l pr k) (fun i _ => l.length - (intOf i).toNat)
  case atStart => exact ⟨0, rfl, R0⟩
  case round =>
    obtain ⟨k, rfl, hk⟩ := hrel
    have hle := hk.le
    by_cases hlt : k < l.length
    · obtain ⟨s, hs⟩ : ∃ s, l[k]? = some s := ⟨_, List.getElem?_eq_getElem hlt⟩
      have hmem : s ∈ l := List.mem_of_getElem? hs
      obtain ⟨b, o, rfl, hc⟩ := hk.sl (by omega)
      obtain ⟨c0, c1, c2, c3, c4⟩ := hc k s hs
      have K := Lib.hid hk
      have S := Lib.hid hs
      have M := Lib.hid hmem
      clear hk hs hmem hc
      go_wp2_with fail
      refine (F.out s M.out wr K.out.grown).mono ?_
      rintro e w' ⟨rfl, hg⟩
      have G := Lib.hid hg
      clear hg
      cases hpr : pr s
      · have P1 := Lib.hid hpr
        clear hpr
        go_wp2
        go_roundw
        case rel =>
          have hk := K.out
          refine ⟨k + 1, by go_num, by omega, fun i t hi ht => ?_, hk.sl.grown G.out, grown_trans hk.grown G.out⟩
          rcases Nat.lt_or_ge i k with h | h
          · exact hk.none i t h ht
          · obtain rfl : i = k := by omega
            rw [S.out] at ht
            injection ht with ht
            rw [← ht]; exact P1.out
        case measure => simp [intOf]; omega
      · have P1 := Lib.hid hpr
        clear hpr
        go_wp2
        go_ret
        exact ⟨congrArg (fun n => Ending.returned (Value.int .i64 n)) (findI_yes K.out.none S.out P1.out).symm, grown_trans K.out.grown G.out⟩
    · have hk' : k = l.length := by omega
      subst hk'
      have K := Lib.hid hk
      clear hk
      go_wp2
      go_ret
      exact ⟨congrArg (fun n => Ending.returned (Value.int .i64 n)) (findI_no K.out.none).symm, K.out.grown⟩

theorem find_any (l : List Sl) (hl : l.length ≤ 1152921504606846976) (hfit : ∀ s ∈ l, s.Fits) (p : Option Addr) (c : Nat) (hp : IsSl w p l) (sub : Int) (hc : 0 ≤ sub ∧ sub < 4294967296) :
    Calls Try.prog 27 #[.slice p l.length c, .int .u32 sub] w fun e w' => e = .returned (.int .i64 (Sl.findI (fun s => s.isOf 16777228 sub) l)) ∧ w.grownBy w' none := by
  have H := Lib.hid hfit
  have P := Lib.hid hp
  clear hfit hp
  go_enter Try.func27, Try.ntmps27
  go_wp2_with fail
  refine (index_any l hl p c (P.out.grown (grown1 _ _)) 49 (enters_of Try.func49 (by kernel_rfl) rfl) w.heap.size (fun s => s.isOf 16777228 sub) (fun s hs w' hg => find1_any s (H.out s hs) _ sub hc (grown_cell hg (by simp [go_sem])))).mono ?_
  rintro e w' ⟨rfl, hg⟩
  have G := Lib.hid hg
  clear hg
  go_wp2
  go_ret
  exact ⟨rfl, grown_trans (grown1 _ _) G.out⟩

/-- The document's own. -/
theorem find2_any (l : List Sl) (hl : l.length ≤ 1152921504606846976) (hfit : ∀ s ∈ l, s.Fits) (p : Option Addr) (c : Nat) (hp : IsSl w p l) (sub : Int) (hc : 0 ≤ sub ∧ sub < 4294967296) :
    Calls Try.prog 28 #[.slice p l.length c, .int .u32 sub] w fun e w' => e = .returned (.int .i64 (Sl.findI (fun s => s.isOf 16777228 sub) l)) ∧ w.grownBy w' none := by
  have R0 : FRel w w p l (fun s => s.isOf 16777228 sub) 0 := ⟨Nat.zero_le _, fun i s hi => by omega, hp, grown_refl _ _⟩
  have F := Lib.hid (fun (s : Sl) (hs : s ∈ l) (w : World) => alike_any (w := w) s ⟨16777228, sub, 0, 0, 0⟩ (hfit s hs) ⟨by simp, hc, by simp, by simp, by simp⟩)
  clear hfit hp hc
  go_enter Try.func28, Try.ntmps28
  go_wp2
  go_loopw [5] (fun i wr => ∃ k : Nat, i = .int .i64 k ∧ FRel w wr p l (fun s => s.isOf 16777228 sub) k) (fun i _ => l.length - (intOf i).toNat)
  case atStart => exact ⟨0, rfl, R0⟩
  case round =>
    obtain ⟨k, rfl, hk⟩ := hrel
    have hle := hk.le
    by_cases hlt : k < l.length
    · obtain ⟨s, hs⟩ : ∃ s, l[k]? = some s := ⟨_, List.getElem?_eq_getElem hlt⟩
      have hmem : s ∈ l := List.mem_of_getElem? hs
      obtain ⟨b, o, rfl, hc⟩ := hk.sl (by omega)
      obtain ⟨c0, c1, c2, c3, c4⟩ := hc k s hs
      have K := Lib.hid hk
      have S := Lib.hid hs
      have M := Lib.hid hmem
      clear hk hs hmem hc
      go_wp2_with fail
      refine (F.out s M.out _).mono ?_
      rintro e w' ⟨rfl, hg⟩
      have G := Lib.hid hg
      clear hg
      have hpp : s.alike ⟨16777228, sub, 0, 0, 0⟩ = s.isOf 16777228 sub := rfl
      rw [hpp]
      cases hpr : s.isOf 16777228 sub
      · have P1 := Lib.hid hpr
        clear hpr hpp
        go_wp2
        go_roundw
        case rel =>
          have hk := K.out
          refine ⟨k + 1, by go_num, by omega, fun i t hi ht => ?_, hk.sl.grown G.out, grown_trans hk.grown G.out⟩
          rcases Nat.lt_or_ge i k with h | h
          · exact hk.none i t h ht
          · obtain rfl : i = k := by omega
            rw [S.out] at ht
            injection ht with ht
            rw [← ht]; exact P1.out
        case measure => simp [intOf]; omega
      · have P1 := Lib.hid hpr
        clear hpr hpp
        go_wp2
        go_ret
        exact ⟨congrArg (fun n => Ending.returned (Value.int .i64 n)) (findI_yes K.out.none S.out P1.out).symm, grown_trans K.out.grown G.out⟩
    · have hk' : k = l.length := by omega
      subst hk'
      have K := Lib.hid hk
      clear hk
      go_wp2
      go_ret
      exact ⟨congrArg (fun n => Ending.returned (Value.int .i64 n)) (findI_no K.out.none).symm, K.out.grown⟩

/-- The one that is taken, and the error: 2, 6 or 0. -/
def pickN (l : List Sl) (arch : Int) : Sl × Int :=
  if arch = 1 ∨ arch = 2 then
    if arch = 2 ∧ 0 ≤ Sl.findI (fun s => s.isOf 16777228 2) l then (l.getD (Sl.findI (fun s => s.isOf 16777228 2) l).toNat Sl.zero, 0)
    else if 0 ≤ Sl.findI (fun s => s.isOf 16777228 0) l then (l.getD (Sl.findI (fun s => s.isOf 16777228 0) l).toNat Sl.zero, 0)
    else (Sl.zero, 6)
  else (Sl.zero, 2)
theorem findI_ways (pr : Sl → Bool) (l : List Sl) : Sl.findI pr l = -1 ∨ ∃ k s, Sl.findI pr l = (k : Nat) ∧ k < l.length ∧ l[k]? = some s ∧ l.getD k Sl.zero = s := by
  unfold Sl.findI
  split
  · rename_i h
    refine .inr ⟨_, l[l.findIdx pr], rfl, h, List.getElem?_eq_getElem h, by rw [List.getD_eq_getElem?_getD, List.getElem?_eq_getElem h]; rfl⟩
  · exact .inl rfl
end Go.Proofs.Ytdjakaiadggemaa
