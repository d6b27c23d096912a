/- The command that says something: the program's own call. No condition but that there are at most 2^40 bytes. -/
import Derived.Test.YthdppaooemdmaaaPut4
import Derived.Test.YthdppaooemdmaaaWithin
import Derived.Test.YthdppaooemdmaaaZerosI
namespace Go.Proofs.Ythdppaooemdmaaa
open Go.RowKit
variable {w w' : World}

def upTo8 (n : Nat) : Nat := (n + 7) / 8 * 8
def oneN (cmd : Int) (ys : List Int) : List Int := le4 cmd ++ le4 (upTo8 (8 + ys.length)) ++ ys ++ List.replicate (upTo8 (8 + ys.length) - (8 + ys.length)) 0
theorem upTo8_bd (n : Nat) : n ≤ upTo8 n ∧ upTo8 n ≤ n + 7 ∧ upTo8 n % 8 = 0 := by unfold upTo8; omega
theorem oneN_len (cmd : Int) (ys : List Int) : (oneN cmd ys).length = upTo8 (8 + ys.length) := by
  have := upTo8_bd (8 + ys.length)
  unfold oneN
  simp only [List.length_append, le4_len, List.length_replicate]
  omega
theorem oneN_small (cmd : Int) {ys : List Int} (h : Small ys) : Small (oneN cmd ys) :=
  small_app (small_app (small_app (le4_small _) (le4_small _)) h) (zeros_small _)
theorem two_words (w : World) (a b : Int) : IsU32s (w.alloc (.cells #[.int .u32 a, .int .u32 b] 25)) (some ⟨w.heap.size, 0, none⟩) [a, b] :=
  isU32s_at (ns := [a, b]) (heap_alloc_new w _)

/-- What a call that makes a command tells: the command, and an error. -/
structure OneOut (w w' : World) (cmd : Int) (ys : List Int) (e : Ending) : Prop where
  no : 1048576 < 8 + ys.length → e = .returned (.tuple #[.agg #[.int .u32 0, .slice none 0 0], .int .i64 11])
  yes : 8 + ys.length ≤ 1048576 → ∃ g c, e = .returned (.tuple #[.agg #[.int .u32 cmd, .slice (some ⟨g, 0, none⟩) (upTo8 (8 + ys.length)) c], .int .i64 0]) ∧ OwnM w' w.heap.size g (upTo8 (8 + ys.length)) c (oneN cmd ys)
  grown : w.grownBy w' none

theorem load_cm {g : Nat} {m : Cm} (h : CmAt w g m) : (loadVar 40 ⟨g, 0, none⟩).run Try.prog w = .ok m.v w :=
  run_loadVar_row w g _ _ _ _ _ h Try.underlying40 rfl (by kernel_rfl)
theorem results_cm {fn : Func} {p u : Tmp} (hr : fn.results = #[.cell p 40, .tmp u]) {tmps : Array Value} {v : Value} {g : Nat} {m : Cm} (hp : tmps.getD p undef = .pointer (some ⟨g, 0, none⟩)) (hu : tmps.getD u undef = v) (h : CmAt w g m) :
    (results fn tmps).run Try.prog w = .ok (.tuple #[m.v, v]) w := by
  rw [results_cell_tmp hr, hp, hu, show (asAddr (.pointer (some ⟨g, 0, none⟩)) : Sem Addr).run Try.prog w = .ok ⟨g, 0, none⟩ w from rfl, Result.andThen_ok, load_cm h, Result.andThen_ok]
theorem CmAt.put {g : Nat} {m : Cm} (h : CmAt w g m) (t : Cm) : CmAt ((w.setCell ⟨g, 0, none⟩ (.int .u32 t.cmd)).setCell ⟨g, 1, none⟩ (.slice t.q t.bytes.length t.cap)) g t := by
  unfold CmAt
  rw [heap_setCell_same _ g 1 _ _ _ (heap_setCell_same w g 0 _ _ _ h)]
  rfl
theorem CmAt.f {g : Nat} {m : Cm} (h : CmAt w g m) (i : Nat) : w.frozen? ⟨g, i, none⟩ = false := free_of h
theorem grown_put2 {g : Nat} (h : w.grownBy w' (some g)) (v0 v1 : Value) : w.grownBy ((w'.setCell ⟨g, 0, none⟩ v0).setCell ⟨g, 1, none⟩ v1) (some g) := grown_setCell (grown_setCell h _) _
theorem OwnM.mono {b b' g n cap : Nat} {xs : List Int} (h : OwnM w b g n cap xs) (hb : b' ≤ b) : OwnM w b' g n cap xs := ⟨Nat.le_trans hb h.lo, h.lt, h.le, h.len, h.most, h.there, h.free, h.cell⟩

set_option maxHeartbeats 800000 in
theorem one_any (cmd : Int) (hcmd : 0 ≤ cmd ∧ cmd < 4294967296) (ys : List Int) (q : Option Addr) (c n : Nat) (h : IsBytes w q c ys) (hn : ys.length = n) (hm : n ≤ 1099511627776) :
    Calls Try.prog 24 #[.int .u32 cmd, .slice q n c] w fun e w' => OneOut w w' cmd ys e := by
  subst hn
  have WI := Lib.hid (fun w => withini_any 8 ys.length 1048576 (by decide) ⟨by omega, by omega⟩ (by decide) w)
  have Z0 := Lib.hid (show CmAt (w.alloc (.cells #[.int .u32 0, .slice none 0 0] 40)) w.heap.size Cm.zero from CmAt.new w Cm.zero)
  have G0 := Lib.hid (grown1 w (.cells #[.int .u32 0, .slice none 0 0] 40))
  have HB := Lib.hid h
  clear h
  by_cases hfit : 8 + ys.length ≤ 1048576
  · have hd : decide ((8 : Int) + ys.length ≤ 1048576) = true := by simp; omega
    rw [hd] at WI
    have hbd := upTo8_bd (8 + ys.length)
    obtain ⟨S, hS⟩ : ∃ S, S = upTo8 (8 + ys.length) := ⟨_, rfl⟩
    have HS := Lib.hid hS
    rw [← hS] at hbd
    have e1 : (8 + (ys.length : Int) + 8 - 1) / 8 * 8 = S := by rw [hS]; unfold upTo8; omega
    clear hS
    go_enter Try.func24, Try.ntmps24
    go_wp2_with fail
    refine (WI.out _).mono ?_
    rintro e w1 ⟨rfl, rfl⟩
    have GB := Lib.hid (grown_trans G0.out (grown1 (w.alloc (.cells #[.int .u32 0, .slice none 0 0] 40)) (.cells #[.int .u32 cmd, .int .u32 (S : Int)] 25)))
    have ZB := Lib.hid (Z0.out.grown (grown1 _ (.cells #[.int .u32 cmd, .int .u32 (S : Int)] 25)))
    have U2 : IsU32s ((w.alloc (.cells #[.int .u32 0, .slice none 0 0] 40)).alloc (.cells #[.int .u32 cmd, .int .u32 (S : Int)] 25)) (some ⟨w.heap.size + 1, 0, none⟩) [cmd, (S : Int)] := by
      have := two_words (w.alloc (.cells #[.int .u32 0, .slice none 0 0] 40)) cmd S
      simpa using this
    have PU := Lib.hid (put_any [cmd, (S : Int)] 2 rfl (by omega) (by omega) (by
      intro x hx
      simp at hx
      rcases hx with rfl | rfl
      · exact hcmd
      · omega) _ 2 U2)
    clear U2
    go_wp2_with fail
    refine PU.out.mono ?_
    rintro e w2 ⟨g, c2, rfl, ho, hg⟩
    have hgl := ho.lo
    have O2 := Lib.hid (ho.mono (show w.heap.size + 1 ≤ _ by have := GB.out.size; simp))
    have Z2 := Lib.hid (ZB.out.grown hg)
    have G2 := Lib.hid (grown_trans GB.out hg)
    have B2 := Lib.hid (HB.out.kept G2.out (by simp))
    clear ho hg hgl PU
    go_wp2_with (at_builtin; refine wp_appendM rfl _ _ rfl rfl rfl O2.out ys ys.length rfl rfl B2.out ?_ ?_)
    · omega
    intro g3 c3 w3 ho hg3 _
    have Z3 := Lib.hid (Z2.out.kept hg3 (fun e => by injection e with e; have := O2.out.lo; omega))
    have G3 := Lib.hid (grown_new G2.out hg3 (Nat.le_trans (Nat.le_succ _) O2.out.lo))
    have O3 := Lib.hid ho
    have hz : ((S : Int) - (8 + ys.length)) = ((S - (8 + ys.length) : Nat) : Int) := by omega
    have HZ := Lib.hid hz
    clear ho hg3 hz
    go_wp2_with (at_builtin; refine wp_zerosMI rfl _ _ rfl rfl rfl O3.out (S - (8 + ys.length)) ?_ rfl ?_ ?_)
    · exact HZ.out
    · omega
    intro g4 c4 w4 ho hg4 _
    have hlo := ho.lo
    have hO : OwnM w4 (w.heap.size + 1) g4 S c4 (oneN cmd ys) := by
      have h1 := ho
      have h2 : oneN cmd ys = puts4 [cmd, (S : Int)] ++ ys ++ List.replicate (S - (8 + ys.length)) 0 := by
        unfold oneN puts4
        rw [← HS.out]
        simp
      rw [h2]
      simpa using h1
    have Z4 := Lib.hid (Z3.out.kept hg4 (fun e => by injection e with e; have := O3.out.lo; omega))
    have G4 := Lib.hid (grown_new G3.out hg4 (Nat.le_trans (Nat.le_succ _) O3.out.lo))
    have c0 := Z4.out.c0
    have c1 := Z4.out.c1
    have f0 := Z4.out.f 0
    have f1 := Z4.out.f 1
    have hlt := lt_of_block Z4.out
    have O4 := Lib.hid hO
    have HL := Lib.hid (oneN_len cmd ys)
    have HF := Lib.hid hfit
    clear ho hg4 hO hbd
    go_wp2
    have hP := Z4.out.put ⟨cmd, some ⟨g4, 0, none⟩, c4, oneN cmd ys⟩
    simp only [HL.out, ← HS.out] at hP
    refine bodyPost_ret (results_cm (v := .int .i64 0) (m := ⟨cmd, some ⟨g4, 0, none⟩, c4, oneN cmd ys⟩) rfl rfl rfl ?_) rfl ?_
    · unfold CmAt
      simp only [HL.out, ← HS.out]
      have := hP
      unfold CmAt at this
      simp only [HL.out, ← HS.out] at this
      exact this
    have hgp := grown_put2 (grown_refl w4 (some w.heap.size)) (.int .u32 cmd) (.slice (some ⟨g4, 0, none⟩) S c4)
    refine ⟨fun h => by have := HF.out; omega, fun _ => ⟨g4, c4, ?_, ?_⟩, grown_new G4.out hgp (Nat.le_refl _)⟩
    · unfold Cm.v
      simp only [HL.out]
    · rw [← HS.out]
      exact (O4.out.kept hgp (fun e => by injection e with e; omega)).mono (Nat.le_succ _)
  · have hd : decide ((8 : Int) + ys.length ≤ 1048576) = false := by simp; omega
    rw [hd] at WI
    go_enter Try.func24, Try.ntmps24
    go_wp2_with fail
    refine (WI.out _).mono ?_
    rintro e w1 ⟨rfl, rfl⟩
    have c0 := Z0.out.c0
    have c1 := Z0.out.c1
    have HF := Lib.hid hfit
    go_wp2
    refine bodyPost_ret (results_cm rfl rfl rfl Z0.out) rfl ?_
    exact ⟨fun _ => rfl, fun h => absurd h HF.out, G0.out⟩
end Go.Proofs.Ythdppaooemdmaaa
