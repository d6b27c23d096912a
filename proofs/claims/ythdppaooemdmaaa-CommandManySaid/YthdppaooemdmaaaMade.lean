/- What was made of a header and commands is read as these. No condition. -/
import Derived.Test.YthdppaooemdmaaaBoth
import Derived.Test.YthdppaooemdmaaaRefMakeC
import Derived.LoopN
namespace Go.Proofs.Ythdppaooemdmaaa
open Go.RowKit
variable {w w' : World}

theorem fewB_le {l : List Cm} {most : Int} (h : fewB l most = true) : (∀ m ∈ l, m.bytes.length ≤ 2000) ∧ (l.length : Int) ≤ most := by
  unfold fewB at h
  rw [Bool.and_eq_true] at h
  refine ⟨fun m hm => ?_, by simpa using h.2⟩
  have := List.all_eq_true.1 h.1 m hm
  simpa using this
theorem puts4_small (ns : List Int) : Small (puts4 ns) := small_flat fun n _ => le4_small n
theorem makeN_small (sub kind flags : Int) {l : List Cm} (hfit : ∀ m ∈ l, m.Fits) : Small (makeN sub kind flags l).1 := by
  unfold makeN
  split
  · intro x hx; cases hx
  · split
    · intro x hx; cases hx
    · exact small_app (puts4_small _) (small_flat fun m hm => (hfit m (List.mem_of_mem_take hm)).bytes)
/-- A word of what was made. -/
theorem word_made (ns T : List Int) (hns : ∀ x ∈ ns, 0 ≤ x ∧ x < 4294967296) (k : Nat) (x : Int) (hx : ns[k]? = some x) : leN (((puts4 ns ++ T).drop (4 * k)).take 4) = x := by
  induction ns generalizing k with
  | nil => cases hx
  | cons y ns ih =>
    cases k with
    | zero =>
      injection hx with hx
      subst hx
      have : ((puts4 (y :: ns) ++ T).drop (4 * 0)).take 4 = le4 y := by
        show (List.drop 0 ((le4 y ++ puts4 ns) ++ T)).take 4 = _
        rw [List.drop_zero, List.append_assoc, List.take_append_of_le_length (by rw [le4_len]; exact Nat.le_refl _), List.take_of_length_le (by rw [le4_len]; exact Nat.le_refl _)]
      rw [this]
      exact leN_le4 (hns y (List.mem_cons_self ..))
    | succ k =>
      have h1 : (puts4 (y :: ns) ++ T).drop (4 * (k + 1)) = (puts4 ns ++ T).drop (4 * k) := by
        show ((le4 y ++ puts4 ns) ++ T).drop _ = _
        rw [List.append_assoc, List.drop_append, le4_len, List.drop_eq_nil_of_le (by rw [le4_len]; omega), List.nil_append]
        congr 1
      rw [h1]
      exact ih (fun x hx => hns x (List.mem_cons_of_mem _ hx)) k hx

theorem cmds_flat (l : List Cm) : ∀ (p : List Int), l.any Cm.odd = false → cmdsN (p ++ l.flatMap (·.bytes)) l.length p.length = some (l.map Cm.d) := by
  induction l with
  | nil => intro p _; rw [List.length_nil, cmdsN]; rfl
  | cons m l ih =>
    intro p ho
    rw [List.any_cons, Bool.or_eq_false_iff] at ho
    have hm : mayB m.cmd m.bytes = true := by simpa [Cm.odd] using ho.1
    obtain ⟨h8, hd8, hc, hz⟩ := of_decide_eq_true hm
    obtain ⟨F, hF⟩ : ∃ F, F = l.flatMap (·.bytes) := ⟨_, rfl⟩
    have hx : p ++ (m :: l).flatMap (·.bytes) = p ++ (m.bytes ++ F) := by rw [hF]; rfl
    have hx' : p ++ (m :: l).flatMap (·.bytes) = (p ++ m.bytes) ++ F := by rw [hx, List.append_assoc]
    have hdrop : (p ++ (m.bytes ++ F)).drop p.length = m.bytes ++ F := List.drop_left
    have hsz : szN (p ++ (m.bytes ++ F)) p.length = m.bytes.length := by
      unfold szN
      rw [← List.drop_drop, hdrop, List.drop_append_of_le_length (by omega), List.take_append_of_le_length (by rw [List.length_drop]; omega), hz]
    have hok : okN (p ++ (m.bytes ++ F)) p.length := by
      unfold okN
      rw [hsz]
      simp only [List.length_append]
      refine ⟨by omega, by omega, by omega, by omega⟩
    rw [hx, List.length_cons, cmdsN, if_pos hok, hsz, Int.toNat_natCast, hdrop, List.take_append_of_le_length (by omega), hc, List.take_left]
    have hi := ih (p ++ m.bytes) ho.2
    rw [← hF, List.length_append, List.append_assoc] at hi
    rw [hi]
    rfl

theorem made_bad {sub kind flags : Int} {l : List Cm} (h : (makeN sub kind flags l).2 ≠ 0) : (makeN sub kind flags l).1 = [] := by
  revert h
  unfold makeN
  split
  · intro _; rfl
  · split
    · intro _; rfl
    · intro h; exact absurd rfl h
theorem made_of {sub kind flags : Int} {l : List Cm} (h : (makeN sub kind flags l).2 = 0) :
    (sub = 0 ∨ sub = 2) ∧ (kind = 2 ∨ kind = 6) ∧ l.any Cm.odd = false ∧ l.length ≤ 256 ∧ 32 + sizeN l ≤ 1048576 ∧ (makeN sub kind flags l).1 = headN sub kind l.length (sizeN l) flags ++ l.flatMap (·.bytes) := by
  revert h
  unfold makeN
  by_cases h1 : ¬ (sub = 0 ∨ sub = 2) ∨ ¬ (kind = 2 ∨ kind = 6) ∨ l.any Cm.odd = true
  · rw [if_pos h1]; intro h; cases h
  rw [if_neg h1]
  by_cases h2 : 256 < l.length ∨ 1048576 < 32 + sizeN l
  · rw [if_pos h2]; intro h; cases h
  rw [if_neg h2]
  intro _
  have h3 : l.any Cm.odd = false := by
    cases h : l.any Cm.odd with
    | false => rfl
    | true => exact absurd (.inr (.inr h)) h1
  refine ⟨by omega, by omega, h3, by omega, by omega, ?_⟩
  show laidN _ l l.length = _
  unfold laidN
  rw [List.take_length]

theorem made_read {sub kind flags : Int} (hfl : 0 ≤ flags ∧ flags < 4294967296) {l : List Cm} (h0 : (makeN sub kind flags l).2 = 0) :
    rdErr (makeN sub kind flags l).1 = 0 ∧ readH (makeN sub kind flags l).1 = ⟨sub, kind, flags⟩ ∧ readL (makeN sub kind flags l).1 = l.map Cm.d ∧ readZ (makeN sub kind flags l).1 = (makeN sub kind flags l).1.length := by
  obtain ⟨hs, hk, ho, hl, hz, hys⟩ := made_of h0
  obtain ⟨ys, hy⟩ : ∃ ys, ys = (makeN sub kind flags l).1 := ⟨_, rfl⟩
  rw [← hy] at hys ⊢
  obtain ⟨F, hF⟩ : ∃ F, F = l.flatMap (·.bytes) := ⟨_, rfl⟩
  have hFl : F.length = sizeN l := by rw [hF, List.length_flatMap]; rfl
  rw [← hF] at hys
  have hlen : ys.length = 32 + sizeN l := by rw [hys, List.length_append, headN_len, hFl]
  have hW : ∀ (j : Nat) (x : Int), j < 8 → [4277009103, 16777228, sub, kind, (l.length : Int), (sizeN l : Int), flags, 0][j]? = some x → wordN (ys.take 32) j = x := fun j x hj hx => by
    rw [wordN_take (by omega) j hj, hys]
    unfold headN
    exact word_made _ _ (by
      intro x hx
      simp at hx
      omega) j x hx
  have w0 := hW 0 _ (by omega) rfl
  have w1 := hW 1 _ (by omega) rfl
  have w2 := hW 2 _ (by omega) rfl
  have w3 := hW 3 _ (by omega) rfl
  have w4 := hW 4 _ (by omega) rfl
  have w5 := hW 5 _ (by omega) rfl
  have w6 := hW 6 _ (by omega) rfl
  have hfr : frErr (ys.take 32) ys.length = 0 := by
    unfold frErr
    rw [w0, w1, w2, w3, w4, w5, if_neg (by rw [List.length_take]; omega), if_neg (by omega), if_neg (by omega), if_neg (by omega), if_neg (by omega), if_neg (by omega)]
  have hsz : sizeF ys = sizeN l := by unfold sizeF; rw [w5]; simp
  have hct : cntF ys = l.length := by unfold cntF; rw [w4]; simp
  have hdr : ys.drop 32 = F := by rw [hys, List.drop_left' (headN_len ..)]
  have hrn : readN ys = some (l.map Cm.d) := by
    unfold readN
    rw [hsz, hct, hdr, List.take_of_length_le (by omega), hF]
    exact cmds_flat l [] ho
  have hre : rdErr ys = 0 := by unfold rdErr; rw [if_pos hfr, hrn, if_neg (by simp)]
  refine ⟨hre, ?_, ?_, ?_⟩
  · unfold readH Hd.of frOf
    rw [if_pos hre, w2, w3, w6]
    rcases hs with rfl | rfl <;> rfl
  · unfold readL
    rw [if_pos hre, hrn]
    rfl
  · unfold readZ
    rw [if_pos hre, hsz, hlen]

/-- The bytes of a number, of one's own. -/
theorem four_own (w : World) (a b c d : Int) : OwnM (w.alloc (.cells #[.int .u8 a, .int .u8 b, .int .u8 c, .int .u8 d] 5)) w.heap.size w.heap.size 4 4 [a, b, c, d] := by
  have hb := heap_alloc_new w (.cells #[.int .u8 a, .int .u8 b, .int .u8 c, .int .u8 d] 5 (0, 0))
  refine ⟨Nat.le_refl _, lt_of_block hb, Nat.le_refl _, rfl, by unfold maxLen; omega, fun j hj => ?_, fun j hj => free_of hb, fun j hj => ?_⟩
  · rw [cell_of hb]
    match j, hj with
    | 0, _ => rfl
    | 1, _ => rfl
    | 2, _ => rfl
    | 3, _ => rfl
  · rw [cell_of hb]
    match j, hj with
    | 0, _ => rfl
    | 1, _ => rfl
    | 2, _ => rfl
    | 3, _ => rfl
theorem refput_own (n : Int) (hn : 0 ≤ n ∧ n < 4294967296) :
    Calls Try.prog 31 #[.int .i64 n] w fun e w' => ∃ g, e = .returned (.slice (some ⟨g, 0, none⟩) 4 4) ∧ OwnM w' w.heap.size g 4 4 (le4 n) ∧ w.grownBy w' none := by
  have hl : le4 n = [n % 256, n / 256 % 256, n / 65536 % 256, n / 16777216 % 256] := rfl
  have FB := Lib.hid (four_own w (n % 256) (n / 256 % 256) (n / 65536 % 256) (n / 16777216 % 256))
  have HL := Lib.hid hl
  clear hl
  go_enter Try.func31, Try.ntmps31
  go_wp2
  go_ret
  exact ⟨_, rfl, by rw [HL.out]; exact FB.out, grown1 _ _⟩

/-- The document's command that says nothing. -/
theorem refone_any (cmd : Int) (hcmd : 0 ≤ cmd ∧ cmd < 4294967296) :
    Calls Try.prog 14 #[.int .u32 cmd, .slice none 0 0] w fun e w' => ∃ m : Cm, e = .returned m.v ∧ m.cmd = cmd ∧ m.bytes = le4 cmd ++ le4 8 ∧ m.Fits ∧ IsBytes w' m.q m.cap m.bytes ∧ w.grownBy w' none := by
  have Z0 := Lib.hid (show CmAt (w.alloc (.cells #[.int .u32 0, .slice none 0 0] 40)) w.heap.size Cm.zero from CmAt.new w Cm.zero)
  have G0 := Lib.hid (grown1 w (.cells #[.int .u32 0, .slice none 0 0] 40))
  have PA := Lib.hid (fun w : World => refput_own (w := w) cmd hcmd)
  have PB := Lib.hid (fun w : World => refput_own (w := w) 8 (by decide))
  have e1 : (cmd % 4294967296) = cmd := by omega
  have e2 : IntKind.i64.wrap cmd = cmd := IntWalk.i64_in _ (by omega)
  go_enter Try.func14, Try.ntmps14
  go_wp2
  refine wp_loop_rounds 1 ?_
  simp only [Code.rounds]
  go_wp2_with fail
  refine (PA.out _).mono ?_
  rintro e w1 ⟨g, rfl, ho, hg⟩
  have OA := Lib.hid ho
  have G1 := Lib.hid (grown_trans G0.out hg)
  have Z1 := Lib.hid (Z0.out.grown hg)
  clear ho hg
  go_wp2_with fail
  refine (PB.out _).mono ?_
  rintro e w2 ⟨g2, rfl, ho, hg⟩
  have OA2 := Lib.hid (OA.out.grown hg)
  have BB := Lib.hid (ho.bytes 4)
  have G2 := Lib.hid (grown_trans G1.out hg)
  have Z2 := Lib.hid (Z1.out.grown hg)
  clear ho hg OA G1 Z1
  go_wp2_with (at_builtin; refine wp_appendM rfl _ _ rfl rfl rfl OA2.out (le4 8) 4 rfl rfl BB.out (by omega) ?_)
  intro g3 c3 w3 ho hg3 _
  have O3 := Lib.hid ho
  have G3 := Lib.hid (grown_new G2.out hg3 (by have := OA2.out.lo; have := G0.out.size; omega))
  have Z3 := Lib.hid (Z2.out.kept hg3 (fun e => by injection e with e; have := OA2.out.lo; have := lt_of_block Z0.out; omega))
  clear ho hg3
  go_wp2_with (at_builtin; refine wp_appendM rfl _ _ rfl rfl rfl O3.out [] 0 rfl rfl IsBytes.nil (by omega) ?_)
  intro g4 c4 w4 ho hg4 _
  have O4 := Lib.hid ho
  have G4 := Lib.hid (grown_new G3.out hg4 (by have := O3.out.lo; have := G0.out.size; omega))
  have Z4 := Lib.hid (Z3.out.kept hg4 (fun e => by injection e with e; have := O3.out.lo; have := lt_of_block Z0.out; omega))
  clear ho hg4
  go_wp2
  refine wp_loop_rounds 1 ?_
  simp only [Code.rounds]
  have c0 := Z4.out.c0
  have c1 := Z4.out.c1
  have f0 := Z4.out.f 0
  have f1 := Z4.out.f 1
  have hlt := lt_of_block Z4.out
  go_wp2
  have hP := Z4.out.put ⟨cmd, some ⟨g4, 0, none⟩, c4, le4 cmd ++ le4 8⟩
  have hgp := grown_put2 (grown_refl w4 (some w.heap.size)) (.int .u32 cmd) (.slice (some ⟨g4, 0, none⟩) 8 c4)
  have hO := O4.out
  have hO2 := hO.kept hgp (fun e => by injection e with e; have := hO.lo; have := lt_of_block Z0.out; omega)
  refine bodyPost_ret (results_cm1 (m := ⟨cmd, some ⟨g4, 0, none⟩, c4, le4 cmd ++ le4 8⟩) rfl rfl hP) rfl ?_
  exact ⟨⟨cmd, some ⟨g4, 0, none⟩, c4, le4 cmd ++ le4 8⟩, rfl, rfl, rfl, ⟨hcmd, small_app (le4_small _) (le4_small _), hO.le, by have := hO.most; unfold maxLen at this; omega⟩, hO2.bytes _, grown_new G4.out hgp (Nat.le_refl _)⟩
end Go.Proofs.Ythdppaooemdmaaa
