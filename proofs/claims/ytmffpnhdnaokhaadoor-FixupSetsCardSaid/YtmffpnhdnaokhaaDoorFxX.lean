/- Do two of some fixups meet: the program's Meet, the document's. Conditions: they lie in memory, their numbers are of their types. -/
import Derived.Test.YtmffpnhdnaokhaaDoorFxO
namespace Go.Proofs.YtmffpnhdnaokhaaDoor
open Go.RowKit
variable {w w' W V : World}

/-- No neighbours meet, so far. -/
structure MeP (w wr : World) (S : List Fx) (n : Nat) (vi : Value) : Prop where
  ex : ∃ k : Nat, 1 ≤ k ∧ vi = .int .i64 (k : Int) ∧ (k ≤ n ∨ k = 1) ∧ ∀ (i : Nat) (a b : Fx), i + 1 < k → S[i]? = some a → S[i + 1]? = some b → ¬ b.at_ - a.at_ < 8
  grown : w.grownBy wr none
structure MeetO (w w' : World) (D : List Fx) (e : Ending) : Prop where
  ex : ∃ b : Bool, e = .returned (.bool b) ∧ (b = true ↔ MeetL D)
  grown : w.grownBy w' none
set_option maxRecDepth 20000 in
set_option maxHeartbeats 1600000 in
theorem Meet_any {D : List Fx} {n c : Nat} {q : Option Addr} (hD : D.length = n) (hn : n ≤ 1000000000) (h : FxsAt w q D) (hf : ∀ y ∈ D, FxOk y) :
    Calls Tryd.prog 17 #[.slice q n c] w fun e w' => MeetO w w' D e := by
  have SO := Lib.hid (Set_any (c := c) hD hn h)
  have LS := Lib.hid (show (setF D).length ≤ 1000000000 by have := setF_len D; omega)
  have IS := Lib.hid (setF_is D)
  have OKS := Lib.hid (fun y (hy : y ∈ setF D) => hf y (((setF_is D).mem y).1 hy))
  clear h hD hf
  go_enter Tryd.func17, Tryd.ntmps17
  go_wp2_with fail
  refine SO.out.mono ?_
  rintro e w2 ⟨⟨q2, c2, rfl, ho⟩, hg⟩
  have G2 := Lib.hid hg
  have R2 := Lib.hid (FxsAt.of ho)
  clear ho hg SO
  generalize setF D = S at *
  obtain ⟨N, hN⟩ : ∃ N, N = S.length := ⟨_, rfl⟩
  rw [← hN] at LS ⊢
  have HN := Lib.hid hN.symm
  have hNb := LS.out
  clear hN
  go_wp2_with fail
  go_loopw [4] (fun vi wr => MeP w2 wr S N vi) (fun vi _ => N - (intOf vi).toNat)
  case atStart => exact ⟨⟨1, Nat.le_refl _, rfl, .inr rfl, fun i a b hi => by omega⟩, grown_refl _ _⟩
  case round =>
    obtain ⟨⟨k, hk1, rfl, hk, hall⟩, hg⟩ := hrel
    have AL := Lib.hid hall
    have G := Lib.hid hg
    clear hall
    by_cases hlt : k < N
    · obtain ⟨x, hx⟩ : ∃ x, S[k]? = some x := ⟨_, List.getElem?_eq_getElem (by rw [HN.out]; exact hlt)⟩
      obtain ⟨y, hy⟩ : ∃ y, S[k - 1]? = some y := ⟨_, List.getElem?_eq_getElem (by rw [HN.out]; omega)⟩
      have hle := ltF_at ((List.pairwise_iff_getElem.1 IS.out.up) (k - 1) k (by rw [HN.out]; omega) (by rw [HN.out]; exact hlt) (by omega))
      rw [(List.getElem?_eq_some_iff.1 hx).2, (List.getElem?_eq_some_iff.1 hy).2] at hle
      have ox := (OKS.out x (List.mem_of_getElem? hx)).at_
      have oy := (OKS.out y (List.mem_of_getElem? hy)).at_
      have XY := Lib.hid (And.intro hx hy)
      obtain ⟨j, hj⟩ : ∃ j, j = k - 1 := ⟨_, rfl⟩
      have hwp : IntKind.i64.wrap ((k : Int) - 1) = (j : Int) := by rw [IntWalk.i64_in _ (by omega)]; omega
      have hjn : (j : Int) < (N : Int) := by omega
      have hkI : (k : Int) < (N : Int) := by omega
      rw [← hj] at hy
      obtain ⟨ga, oa, e, a0, -⟩ := (R2.out.same hg).at hx
      obtain ⟨gb, ob, e', b0, -⟩ := (R2.out.same hg).at hy
      rw [e] at e'
      injection e' with e'
      injection e' with e1 e2 _
      subst e e1 e2
      obtain ⟨d, hd⟩ : ∃ d, x.at_ - y.at_ = d := ⟨_, rfl⟩
      have hws : IntKind.u64.wrap (x.at_ - y.at_) = d := by rw [IntKind.wrap_u64]; omega
      have HD := Lib.hid hd
      have HJ := Lib.hid hj
      clear hd hj hx hy hg hle ox oy
      by_cases hm : d < 8
      · have dm : decide (d < 8) = true := decide_eq_true hm
        have YES := Lib.hid (show MeetL D from (meet_one IS.out).2 ⟨k - 1, y, x, XY.out.2, by rw [show k - 1 + 1 = k by omega]; exact XY.out.1, by rw [HD.out]; exact hm⟩)
        clear hm
        go_wp2_with fail
        go_quiet (fail)
        go_wp2_with fail
        go_ret
        exact ⟨⟨true, rfl, by simp [YES.out]⟩, grown_trans G2.out (grown_drewN G.out _)⟩
      · have dm : decide (d < 8) = false := decide_eq_false hm
        have NM := Lib.hid hm
        clear hm
        go_wp2_with fail
        go_quiet (fail)
        go_wp2_with fail
        go_roundw
        case rel => exact ⟨⟨k + 1, by omega, by go_num, .inl hlt, fun i a b hi ha hb => by
          rcases Nat.lt_or_ge (i + 1) k with c | c
          · have := AL.out i a b c ha hb; omega
          · obtain rfl : i = k - 1 := by omega
            rw [show k - 1 + 1 = k by omega, XY.out.1] at hb
            rw [XY.out.2] at ha
            injection hb with hb
            injection ha with ha
            rw [← hb, ← ha, HD.out]; have := NM.out; omega⟩, grown_drewN G.out _⟩
        case measure => simp [intOf]; omega
    · have NO := Lib.hid (show ¬ MeetL D from fun h => by
        obtain ⟨i, a, b, ha, hb, hm⟩ := (meet_one IS.out).1 h
        have := (List.getElem?_eq_some_iff.1 hb).1
        rw [HN.out] at this
        exact AL.out i a b (by omega) ha hb hm)
      clear hg
      go_wp2_with fail
      go_ret
      exact ⟨⟨false, rfl, by simp [NO.out]⟩, grown_trans G2.out G.out⟩
end Go.Proofs.YtmffpnhdnaokhaaDoor
