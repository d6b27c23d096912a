/- The chapter's own rows of layer 2, answered as it says: known() is true, and all that was in memory stays. -/
import Derived.Test.YtfdbmdkjmifpaaaPen
namespace Go.Proofs.Ytfdbmdkjmifpaaa
open Go.RowKit
variable {w w' : World}

def rowX : List Int := [229, 142, 38, 1]
def rowZ : List Int := [255, 255, 255, 255, 255, 255, 255, 255, 255, 2]
theorem rowX_u : ulebN (rowX.drop 0) = (624485, 3) := by decide +kernel
theorem rowY_s : slebN (([127] : List Int).drop 0) = (-1, 1) := by decide +kernel
theorem rowZ_u : ulebN (rowZ.drop 0) = (0, 0) := by decide +kernel
theorem lit_bytes {v : List Int} {w W : World} (t : TypeId) (h : W = w.alloc (.cells (v.map (Value.int .u8)).toArray t)) (n : Nat) : IsBytes W (some ⟨w.heap.size, 0, none⟩) n v := by
  subst h
  refine IsBytes.mk_at fun i hi => ?_
  rw [cell_of (heap_alloc_new w _)]
  simp [hi]

/-- A new row of bytes, and a cursor made of it: what lies below stays. -/
theorem made {B : Nat} {w0 w W w1 : World} {o : Obj} (h0 : Below B w0 w) (hB : B ≤ w.heap.size) (hW : W = w.alloc o) (hb : Below W.heap.size W w1) : Below B w0 w1 ∧ w.grownBy w1 none := by
  subst hW
  exact ⟨(h0.alloc hB o).trans (hb.mono (by simp; omega)), grown_trans (World.grownBy_alloc w o none) (grown_below hb none)⟩

theorem known_any (w : World) : Calls Try.prog 9 #[] w fun e w' => e = .returned (.bool true) ∧ Below w.heap.size w w' := by
  have LX := Lib.hid fun W : World => lit_bytes (v := rowX) (w := W) 5 rfl 4
  have LY := Lib.hid fun W : World => lit_bytes (v := [127]) (w := W) 5 rfl 1
  have LZ := Lib.hid fun W : World => lit_bytes (v := rowZ) (w := W) 5 rfl 10
  go_enter Try.func9, Try.ntmps9
  go_wp2_with fail
  refine (pen_new (LX.out w) rfl (by decide) (by decide) false).mono ?_
  rintro e w1 ⟨ax, rfl, px, bx⟩
  have B1 := Lib.hid (made (Below.refl w.heap.size w) (Nat.le_refl _) rfl bx)
  clear bx
  go_wp2_with fail
  refine (pen_new (LY.out w1) rfl (by decide) (by decide) false).mono ?_
  rintro e w2 ⟨ay, rfl, py, by'⟩
  have B2 := Lib.hid (made B1.out.1 B1.out.1.size rfl by')
  have px2 := px.same B2.out.2
  have ly : w1.heap.size ≤ ay := by have := py.lw; simp at this; omega
  clear by' px
  go_wp2_with fail
  refine (pen_new (LZ.out w2) rfl (by decide) (by decide) true).mono ?_
  rintro e w3 ⟨az, rfl, pz, bz⟩
  have B3 := Lib.hid (made B2.out.1 B2.out.1.size rfl bz)
  have px3 := px2.same B3.out.2
  have py3 := py.same B3.out.2
  have lz : w2.heap.size ≤ az := by have := pz.lw; simp at this; omega
  clear bz px2 py
  go_wp2_with fail
  refine (pen_uleb px3 rowX_u).mono ?_
  rintro e w4 ⟨rfl, px4, g4⟩
  have s1 := B1.out.2.size
  have s2 := B2.out.2.size
  have s3 := B3.out.2.size
  have B4 := Lib.hid (B3.out.1.trans (px3.frame (by simp <;> omega) g4))
  have py4 := py3.kept g4 (.inl (by have := px3.up; simp <;> omega))
  have pz4 := pz.kept g4 (.inl (by have := px3.up; simp <;> omega))
  clear py3 pz
  go_wp2_with fail
  refine (pen_at px4).mono ?_
  rintro e w' ⟨rfl, rfl⟩
  go_wp2_with fail
  refine (pen_sleb py4 rowY_s).mono ?_
  rintro e w5 ⟨rfl, py5, g5⟩
  have B5 := Lib.hid (B4.out.trans (py4.frame (by simp <;> omega) g5))
  have pz5 := pz4.kept g5 (.inl (by have := py4.up; simp <;> omega))
  clear g4 g5 pz4 px4
  go_wp2_with fail
  refine (pen_uleb pz5 rowZ_u).mono ?_
  rintro e w6 ⟨rfl, pz6, g6⟩
  have B6 := Lib.hid (B5.out.trans (pz5.frame (by simp <;> omega) g6))
  clear g6
  go_wp2_with fail
  refine (pen_err3 pz6 rfl).mono ?_
  rintro e w' ⟨rfl, rfl⟩
  go_wp2_with fail
  refine (pen_at pz6).mono ?_
  rintro e w' ⟨rfl, rfl⟩
  go_wp2
  go_ret
  exact ⟨rfl, B6.out⟩
end Go.Proofs.Ytfdbmdkjmifpaaa
