/- Which exports may be: the program's May, the document's. -/
import Derived.Test.YtblfighfahffkaaTrL
import Derived.Test.YtblfighfahffkaaTrM
namespace Go.Proofs.Ytblfighfahffkaa
open Go.RowKit
variable {w w' W V : World} {xs : List Int}

/-- What may stand with a kind. -/
def kindM (x : Ex) : Bool :=
  if x.kind = 1 ∨ x.kind = 2 then decide (x.resolver = 0) && decide (x.ordinal = 0) && decide (x.other = [])
  else if x.kind = 3 then decide (x.value = 0) && decide (x.resolver = 0)
  else if x.kind = 4 then decide (x.ordinal = 0) && decide (x.other = [])
  else false
def mayE (nm : List Int) (x : Ex) : Bool := !decide (nm = []) && textM nm && textM x.other && kindM x
theorem text_nil (t : List Int) : ((strOfNums t).toList == []) = decide (t = []) := by
  rw [Lib.strOfNums_toList]
  cases t <;> simp [Lib.bytesOf]
set_option maxRecDepth 20000 in
set_option maxHeartbeats 1600000 in
theorem May_any {nm : List Int} {x : Ex} (hn : Byt nm) (ho : Byt x.other) (hl : nm.length ≤ 9223372036854775807) (hl2 : x.other.length ≤ 9223372036854775807) (w : World) :
    Calls Try.prog 18 #[exV (strOfNums nm) x] w fun e w' => e = .returned (.bool (mayE nm x)) ∧ w.grownBy w' none := by
  have TN := Lib.hid (fun W => textMay_any hn hl W)
  have TO := Lib.hid (fun W => textMay_any ho hl2 W)
  have n1 := text_nil nm
  have n2 := text_nil x.other
  have E3 : ExAt (w.alloc (.cells (exArr (strOfNums nm) x) 33)) w.heap.size (strOfNums nm) x := heap_alloc_new w _
  obtain ⟨c0, c1, c2, c3, c4, c5, c6⟩ := E3.c
  clear E3
  obtain ⟨r, hr⟩ : ∃ r, r = mayE nm x := ⟨_, rfl⟩
  rw [← hr]
  unfold mayE kindM at hr
  generalize textM nm = M at *
  generalize textM x.other = O at *
  obtain ⟨kind, weak, value, resolver, ordinal, other⟩ := x
  simp only [exV, exArr] at *
  have HR := Lib.hid hr
  clear hr ho hn
  cases M <;> cases O <;> (
    go_enter Try.func18, Try.ntmps18
    go_wp2_with (first
      | (with_reducible refine (TN.out _).mono ?_; rintro e w' ⟨rfl, rfl⟩)
      | (with_reducible refine (TO.out _).mono ?_; rintro e w' ⟨rfl, rfl⟩)))
  all_goals (go_ret; refine ⟨?_, grown1 _ _⟩; have hr := HR.out; clear HR TN TO; simp_all)
  all_goals rfl
set_option maxRecDepth 20000 in
set_option maxHeartbeats 1600000 in
theorem refMay_any {nm : List Int} {x : Ex} (hn : Byt nm) (ho : Byt x.other) (hl : nm.length ≤ 140737488355328) (hl2 : x.other.length ≤ 140737488355328) (w : World) :
    Calls Try.prog 19 #[exV (strOfNums nm) x] w fun e w' => e = .returned (.bool (mayE nm x)) ∧ w.grownBy w' none := by
  have TN := Lib.hid (fun W => refTextMay_any hn hl 1 W)
  have TO := Lib.hid (fun W => refTextMay_any ho hl2 0 W)
  have n1 : decide (1 ≤ nm.length) = !decide (nm = []) := by cases nm <;> simp
  have n2 := text_nil x.other
  rw [n1] at TN
  rw [show decide (0 ≤ x.other.length) = true from rfl, Bool.true_and] at TO
  have g1 := grown1 w (.cells (exArr (strOfNums nm) x) 33)
  have E3 : ExAt (w.alloc (.cells (exArr (strOfNums nm) x) 33)) w.heap.size (strOfNums nm) x := heap_alloc_new w _
  obtain ⟨c0, c1, c2, c3, c4, c5, c6⟩ := E3.c
  obtain ⟨r, hr⟩ : ∃ r, r = mayE nm x := ⟨_, rfl⟩
  rw [← hr]
  unfold mayE kindM at hr
  generalize (!decide (nm = []) && textM nm) = M at *
  generalize textM x.other = O at *
  have HE := Lib.hid E3
  have HG := Lib.hid g1
  clear g1 E3 n1
  obtain ⟨kind, weak, value, resolver, ordinal, other⟩ := x
  simp only [exV, exArr] at *
  have HR := Lib.hid hr
  clear hr ho hn
  cases M
  · go_enter Try.func19, Try.ntmps19
    go_wp2_with fail
    refine (TN.out _).mono ?_
    rintro e w1 ⟨rfl, hg1⟩
    have G1 := Lib.hid (grown_trans HG.out hg1)
    clear hg1
    go_wp2
    go_ret
    exact ⟨by rw [HR.out]; rfl, G1.out⟩
  · go_enter Try.func19, Try.ntmps19
    go_wp2_with fail
    refine (TN.out _).mono ?_
    rintro e w1 ⟨rfl, hg1⟩
    have E1 := HE.out.kept hg1 (by simp)
    obtain ⟨c0, c1, c2, c3, c4, c5, c6⟩ := E1.c
    have H1 := Lib.hid E1
    have G1 := Lib.hid (grown_trans HG.out hg1)
    clear hg1 E1
    go_wp2_with fail
    refine (TO.out _).mono ?_
    rintro e w2 ⟨rfl, hg2⟩
    have E2 := H1.out.kept hg2 (by simp)
    obtain ⟨c0, c1, c2, c3, c4, c5, c6⟩ := E2.c
    have G2 := Lib.hid (grown_trans G1.out hg2)
    clear hg2 E2
    cases O
    all_goals go_wp2
    all_goals (go_ret; refine ⟨?_, G2.out⟩; have hr := HR.out; clear HR TN TO G1 G2 HE HG H1; simp_all)
    all_goals rfl
end Go.Proofs.Ytblfighfahffkaa
