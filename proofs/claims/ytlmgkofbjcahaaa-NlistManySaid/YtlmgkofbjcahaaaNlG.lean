/- The document's number of an entry, and its symbol: clevisref10.get, one, Told. Conditions: the bytes lie in memory. -/
import Derived.Test.YtlmgkofbjcahaaaNlM
import Derived.Test.YtlmgkofbjcahaaaRefCur
import Derived.Test.YtlmgkofbjcahaaaName01
import Derived.Laws.ResultCell
namespace Go.Proofs.Ytlmgkofbjcahaaa
open Go.RowKit
variable {w w' : World}

theorem get10_any (ys : List Int) {q : Option Addr} {c n : Nat} (h : IsBytes w q c ys) (hn : ys.length = n) (hc : n ≤ c) (hcm : c ≤ 9223372036854775807) (hy : Byt ys) (p k : Nat) (hs : k = 2 ∨ k = 4 ∨ k = 8) (hk : p + k ≤ n) :
    Calls Try.prog 35 #[.slice q n c, .int .i64 p, .int .i64 k] w fun e w' => e = .returned (.int .u64 (leN ((ys.drop p).take k))) ∧ w.grownBy w' none := by
  obtain ⟨b, o, rfl, hcell⟩ := h.2 (by omega)
  have X := Lib.hid (fun (w1 : World) (a : Nat) (hw : w.grownBy w1 none) (ha : w.heap.size ≤ a) (hr : RCur w1 a (some ⟨b, o + p, none⟩) k (c - p) 0 false false) =>
    rnumber_248 ((ys.drop p).take k) hr k hs (by omega) (by omega) (by omega) (by simp; omega) (fun x hx => hy x (List.mem_of_mem_drop (List.mem_of_mem_take hx))) (fun i hi w' hg => by
      have h1 := hcell (p + i) (by omega)
      have h2 : w'.cell? ⟨b, o + (p + i), none⟩ = some (.int .u8 (ys.getD (p + i) 0)) := (grown_new hw hg ha).cell h1 (by simp)
      rw [show o + p + i = o + (p + i) by omega, h2]
      simp [List.getD, hi]))
  have hS := fun W => cut_run (T := 22) (by kernel_rfl) size_u8 b o n c p k hk hc (by omega) (p : Int) ((p : Int) + k) rfl rfl W
  have hb1 : (p : Int) + k ≤ 9223372036854775807 := by omega
  unfold numOf at X
  rw [if_neg (by simp)] at X
  clear h hcell hn hk hc hcm hs
  generalize leN ((ys.drop p).take k) = V at *
  go_enter Try.func35, Try.ntmps35
  go_wp2_with fail
  have R : RCur (w.alloc (.cells #[.slice (some ⟨b, o + p, none⟩) k (c - p), .int .i64 0, .bool false, .bool false] 81)) w.heap.size (some ⟨b, o + p, none⟩) k (c - p) 0 false false := heap_alloc_new w _
  refine (X.out _ _ (grown1 _ _) (Nat.le_refl _) R).mono ?_
  rintro e w' ⟨rfl, hg⟩
  have G := Lib.hid (grown_new (grown1 _ _) hg (Nat.le_refl _))
  clear hg hS
  go_wp2
  go_ret
  exact ⟨rfl, G.out⟩

theorem told10_any (k : Int) (hk : 0 ≤ k ∧ k < 256) (w : World) :
    Calls Try.prog 21 #[.int .i64 k] w fun e w' => e = .returned (.bool (decide (k = 15) || decide (k = 3))) ∧ w' = w := by
  obtain ⟨r, hr⟩ : ∃ r, r = (decide (k = 15) || decide (k = 3)) := ⟨_, rfl⟩
  rw [← hr]
  have HR := Lib.hid hr
  clear hr
  obtain ⟨h0, h1⟩ := hk
  go_enter Try.func21, Try.ntmps21
  go_wp2
  all_goals
    go_ret
    refine ⟨ret_bool ?_, rfl⟩
    rw [HR.out, Bool.eq_iff_iff]
    simp_all
    try omega
theorem results_sy2 {g : Nat} {nm : ByteArray} {x : Sy} {fn : Func} {p u : Tmp} (hr : fn.results = #[.cell p 32, .tmp u]) {tmps : Array Value} {y : Value} (hp : tmps.getD p undef = .pointer (some ⟨g, 0, none⟩)) (hu : tmps.getD u undef = y) (h : SyAt w g nm x) :
    (results fn tmps).run Try.prog w = .ok (.tuple #[syV nm x, y]) w := by
  rw [results_cell_tmp hr, hp, hu, show (asAddr (.pointer (some ⟨g, 0, none⟩)) : Sem Addr).run Try.prog w = .ok ⟨g, 0, none⟩ w from rfl, Result.andThen_ok, load_sy h, Result.andThen_ok]
end Go.Proofs.Ytlmgkofbjcahaaa
