/- Which texts may be: the program's textMay, the document's text. -/
import Derived.Test.YtblfighfahffkaaTrR
import Derived.Test.YtblfighfahffkaaTrO
import Derived.Test.YtblfighfahffkaaShelf
import Derived.Lib.ConvBytes
namespace Go.Proofs.Ytblfighfahffkaa
open Go.RowKit
variable {w w' W V : World} {xs : List Int}

/-- May a text be? -/
def textM (t : List Int) : Bool := decide (t.length ≤ 255) && decide ((0 : Int) ∉ t)
theorem index0 : ∀ {t : List Int}, Byt t → decide (Lib.indexByte (Lib.bytesOf t) 0 < 0) = decide ((0 : Int) ∉ t)
  | [], _ => by simp [Lib.bytesOf, Lib.indexByte]
  | x :: t, h => by
    have ih := index0 (t := t) (fun y hy => h y (List.mem_cons_of_mem _ hy))
    have hx := h x (List.mem_cons_self ..)
    have ge := Lib.indexByte_ge (Lib.bytesOf t) 0
    have e : Lib.indexByte (Lib.bytesOf (x :: t)) 0 = if UInt8.ofNat x.toNat == 0 then 0 else if Lib.indexByte (Lib.bytesOf t) 0 == -1 then -1 else Lib.indexByte (Lib.bytesOf t) 0 + 1 := rfl
    by_cases h0 : x = 0
    · subst h0
      rw [e]
      simp
    · have hne : (UInt8.ofNat x.toNat == 0) = false := by
        rw [beq_eq_false_iff_ne]
        intro e
        have := congrArg UInt8.toNat e
        simp only [UInt8.toNat_ofNat'] at this
        have z : (0 : UInt8).toNat = 0 := rfl
        omega
      have hm : (0 : Int) ∉ x :: t ↔ (0 : Int) ∉ t := by
        simp only [List.mem_cons, not_or]
        exact ⟨fun h => h.2, fun h => ⟨fun e => h0 e.symm, h⟩⟩
      rw [e, hne, decide_eq_decide.2 hm, ← ih, decide_eq_decide]
      simp only [Bool.false_eq_true, if_false, beq_iff_eq]
      split <;> omega
theorem pre_self : ∀ (t : List Int), decide (pre t = t) = decide ((0 : Int) ∉ t)
  | [] => by simp [pre]
  | x :: t => by
    have ih := pre_self t
    by_cases h0 : x = 0
    · subst h0; simp [pre]
    · rw [show pre (x :: t) = x :: pre t from if_neg h0]
      have hm : (0 : Int) ∉ x :: t ↔ (0 : Int) ∉ t := by
        simp only [List.mem_cons, not_or]
        exact ⟨fun h => h.2, fun h => ⟨fun e => h0 e.symm, h⟩⟩
      rw [decide_eq_decide.2 hm, ← ih, decide_eq_decide]
      exact ⟨fun e => (List.cons.inj e).2, fun e => by rw [e]⟩
theorem textMay_any {t : List Int} (ht : Byt t) (hl : t.length ≤ 9223372036854775807) (w : World) :
    Calls Try.prog 40 #[.string (strOfNums t)] w fun e w' => e = .returned (.bool (textM t)) ∧ w' = w := by
  have hst : (strOfNums t).size = t.length := strOfNums_size _
  have IB := Lib.hid (Try.strings_IndexByte (strOfNums t) 0 w)
  rw [show (strOfNums t).data.toList = Lib.bytesOf t from strOfNums_data t, show (0 : Int).toNat.toUInt8 = 0 from rfl] at IB
  have HI := index0 ht
  unfold textM
  rw [← HI]
  generalize Lib.indexByte (Lib.bytesOf t) 0 = r at *
  clear HI ht
  by_cases h : t.length ≤ 255
  · have hd : decide ((t.length : Int) ≤ 255) = true := by simp; omega
    rw [decide_eq_true h]
    go_enter Try.func40, Try.ntmps40
    go_wp2_with (refine IB.out.mono ?_; rintro e w' ⟨rfl, rfl⟩)
    go_ret
    exact ⟨rfl, rfl⟩
  · have hd : decide ((t.length : Int) ≤ 255) = false := by simp; omega
    rw [decide_eq_false h]
    go_enter Try.func40, Try.ntmps40
    go_wp2
    go_ret
    exact ⟨rfl, rfl⟩
theorem turned_grown (w : World) (e : TypeId) (s : ByteArray) : w.grownBy (Lib.bytesWorld w e s) none where
  os := rfl
  tape := rfl
  output := rfl
  size := by rw [Lib.bytesWorld_size]; omega
  block j hj _ := Lib.bytesWorld_at_old w e s j hj
theorem text_same {a b : List Int} (ha : Byt a) (hb : Byt b) : ((strOfNums a).toList == (strOfNums b).toList) = decide (a = b) := by
  rw [Lib.strOfNums_toList, Lib.strOfNums_toList]
  by_cases h : a = b
  · subst h; simp
  · rw [decide_eq_false h, beq_eq_false_iff_ne]
    intro e
    apply h
    rw [← nums_byt ha, ← nums_byt hb]
    unfold nums
    rw [e]
theorem pre_bytes : ∀ {t : List Int}, Byt t → Byt (pre t)
  | [], h => h
  | x :: t, h => by
    by_cases h0 : x = 0
    · subst h0; intro y hy; simp [pre] at hy
    · rw [show pre (x :: t) = x :: pre t from if_neg h0]
      intro y hy
      rcases List.mem_cons.1 hy with rfl | hy
      · exact h _ (List.mem_cons_self ..)
      · exact pre_bytes (t := t) (fun z hz => h z (List.mem_cons_of_mem _ hz)) y hy
theorem bytes_there (w : World) (e : TypeId) {t : List Int} (ht : Byt t) (c : Nat) : IsBytes (Lib.bytesWorld w e (strOfNums t)) (some ⟨w.heap.size, 0, none⟩) c t := by
  refine IsBytes.mk_at fun i hi => ?_
  have hi' : i < t.length := hi
  rw [Nat.zero_add, Lib.bytesWorld_cell w e _ i (by rw [strOfNums_size]; exact hi'), strOfNums_data]
  have hm := ht _ (List.getElem_mem hi')
  simp only [List.getD_eq_getElem?_getD, List.getElem?_map, List.getElem?_eq_getElem hi', Option.map_some, Option.getD_some, UInt8.toNat_ofNat']
  congr 3
  omega
set_option maxRecDepth 20000 in
/-- The document's text. -/
theorem refTextMay_any {t : List Int} (ht : Byt t) (hl : t.length ≤ 140737488355328) (n : Nat) (w : World) :
    Calls Try.prog 41 #[.string (strOfNums t), .int .i64 n] w fun e w' => e = .returned (.bool (decide (n ≤ t.length) && textM t)) ∧ w.grownBy w' none := by
  have hst : (strOfNums t).size = t.length := strOfNums_size _
  have PS := pre_self t
  unfold textM
  rw [← PS]
  by_cases h0 : n ≤ t.length
  · have hd0 : decide ((n : Int) ≤ (t.length : Int)) = true := by simp; omega
    rw [decide_eq_true h0]
    by_cases h : t.length ≤ 255
    · have hd : decide ((t.length : Int) ≤ 255) = true := by simp; omega
      rw [decide_eq_true h]
      have CV := Lib.run_convert_string_bytes (P := Try.prog) w 9 22 5 (strOfNums t) Try.underlying9 Try.underlying22 Try.underlying5
      have GB := Lib.hid (turned_grown w 5 (strOfNums t))
      have NM := Lib.hid (name01_any w.heap.size 0 _ _ t (bytes_there w 5 ht _) rfl hl (grownCap_ge w t.length 0 5))
      rw [hst] at CV
      have HN : ((strOfNums (pre t)).toList == (strOfNums t).toList) = decide (pre t = t) := text_same (pre_bytes ht) ht
      go_enter Try.func41, Try.ntmps41
      go_wp2_with (refine NM.out.mono ?_; rintro e w' ⟨rfl, rfl⟩)
      go_ret
      exact ⟨by rw [PS]; simp, GB.out⟩
    · have hd : decide ((t.length : Int) ≤ 255) = false := by simp; omega
      rw [decide_eq_false h]
      go_enter Try.func41, Try.ntmps41
      go_wp2
      go_ret
      exact ⟨rfl, grown_refl _ _⟩
  · have hd0 : decide ((n : Int) ≤ (t.length : Int)) = false := by simp; omega
    rw [decide_eq_false h0]
    go_enter Try.func41, Try.ntmps41
    go_wp2
    go_ret
    exact ⟨rfl, grown_refl _ _⟩
end Go.Proofs.Ytblfighfahffkaa
