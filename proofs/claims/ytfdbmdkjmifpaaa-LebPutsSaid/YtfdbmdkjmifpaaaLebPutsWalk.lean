/- The walk of LebPuts: a number's bytes, and that they are taken as it, whatever stands behind them. -/
import Derived.Test.YtfdbmdkjmifpaaaKnown2
import Derived.Test.YtfdbmdkjmifpaaaRefPut
import Derived.Test.YtfdbmdkjmifpaaaRound
import Derived.Deep.RegionWith
import Derived.Deep.RegionHeld
import Derived.Deep.Cut
import Derived.Deep.CutRange
namespace Go.Proofs.Ytfdbmdkjmifpaaa.lebPuts
open Go.RowKit

theorem nat_u64 {a : Int} (h : (Lit.int .u64 a).wf = true) : ∃ n : Nat, a = n ∧ n < 18446744073709551616 := by
  have : 0 ≤ a ∧ a ≤ 18446744073709551615 := by simpa [Lit.wf, IntKind.min, IntKind.max, IntKind.signed, IntKind.bits] using h
  exact ⟨a.toNat, by omega, by omega⟩

set_option maxHeartbeats 1600000 in
theorem walk (a0 a1 : Int) (a2 : Option Addr) (len2 cap2 : Nat) (z2 : List Int) (w : World) (w0 : (Lit.int .u64 a0).wf = true) (w1 : (Lit.int .i64 a1).wf = true) (w2 : IsRow .u8 w a2 len2 cap2 z2) :
    Calls Try.prog 4 #[.int .u64 a0, .int .i64 a1, .slice a2 len2 cap2] w fun e w' => e = .returned (.bool true) ∧ Below w.heap.size w w' := by
  obtain ⟨n, rfl, hn⟩ := nat_u64 w0
  have hm := i64_range w1
  obtain ⟨rs, rfl, hrs, hbr, _⟩ := w2.bytes
  clear w0 w1 w2
  have K := Lib.hid known_any
  have HRS := Lib.hid hrs
  have HBR := Lib.hid hbr
  clear hrs hbr
  by_cases h1 : 100 < rs.length
  · go_enter Try.func4, Try.ntmps4
    go_wp2_with fail
    refine (K.out w).mono ?_
    rintro e w' ⟨rfl, hbel⟩
    go_wp2
    go_ret
    exact ⟨rfl, hbel⟩
  have hm' : -9223372036854775808 ≤ a1 ∧ a1 < 9223372036854775808 := by omega
  have PU := Lib.hid (putU_any n hn)
  have PS := Lib.hid (putS_any a1 hm')
  have RU := Lib.hid (refput_any (n + 1) n (by omega) hn)
  have RS := Lib.hid (refputs_any (a1.natAbs + 1) a1 (by omega) hm')
  have l1 := encU_10 n hn
  have l2 := encS_10 a1 hm'
  have TU := Lib.hid (uleb_enc n (encS a1 ++ rs) hn)
  have TS := Lib.hid (sleb_enc a1 rs hm')
  have NA := Lib.hid (encU_ne n)
  have NB := Lib.hid (encS_ne a1)
  have BU := Lib.hid (encU_bytes n)
  have BS := Lib.hid (encS_bytes a1)
  generalize encU n = A at *
  generalize encS a1 = B at *
  clear hm hm'
  go_enter Try.func4, Try.ntmps4
  go_wp2_with fail
  refine (PU.out w).mono ?_
  rintro e w1 ⟨⟨qa, ca, rfl, oa⟩, ba⟩
  go_wp2_with fail
  refine (PS.out w1).mono ?_
  rintro e w2 ⟨⟨qb, cb, rfl, ob⟩, bb⟩
  have B2 := Lib.hid (ba.trans (bb.mono ba.size))
  have HA := Lib.hid (fun W (h : Below w2.heap.size w2 W) => ((IsBytes.of_own rfl oa).below bb).below h)
  have HB := Lib.hid (fun W (h : Below w2.heap.size w2 W) => (IsBytes.of_own rfl ob).below h)
  clear oa ob ba bb PU PS
  go_upto_region 4 with fail
  go_cut [41] from 18 to 41 (fun c wx => c = .bool false ∧ Below w2.heap.size w2 wx)
  case first =>
    have b0 : Below w2.heap.size w2 w2.drew := (Below.refl _ _).drew
    have cq : ∀ (x : List Int), (!(strOfNums x).toList == (strOfNums x).toList) = false := fun x => by simp
    have i1 : decide ((10 : Int) < (A.length : Int)) = false := by simp; omega
    have i2 : decide ((10 : Int) < (B.length : Int)) = false := by simp; omega
    go_region_held (fun W => (convert 22 9 (.slice qa A.length ca)).run Try.prog W = .ok (.string (strOfNums A)) W ∧ (convert 22 9 (.slice qb B.length cb)).run Try.prog W = .ok (.string (strOfNums B)) W)
      (first | exact ⟨(HA.out _ b0).text rfl, (HB.out _ b0).text rfl⟩ | exact ⟨(HA.out _ b3').text rfl, (HB.out _ b3').text rfl⟩ | exact ⟨(HA.out _ b4').text rfl, (HB.out _ b4').text rfl⟩)
      (first
        | (go_at_call 21; refine (RU.out _).mono ?_; rintro e w3 ⟨⟨q3, c3, rfl, o3⟩, b3⟩; have b3' := b0.trans (b3.mono b0.size); have cv3 := (IsBytes.of_own rfl o3).text rfl; clear o3 b3)
        | (go_at_call 22; refine (RS.out _).mono ?_; rintro e w4 ⟨⟨q4, c4, rfl, o4⟩, b4⟩; have b4' := b3'.trans (b4.mono b3'.size); have cv4 := (IsBytes.of_own rfl o4).text rfl; clear o4 b4))
    go_wp2_with fail
    go_meet
    exact ⟨rfl, b4'⟩
  case rest =>
    obtain ⟨rfl, bc⟩ := hcut
    have B3 := Lib.hid (B2.out.trans (bc.mono B2.out.size))
    have hA := HA.out _ bc
    have hB := HB.out _ bc
    have hR := HBR.out.below B3.out
    have hW := B2.out.size
    have hW2 := bc.size
    have A1 := Lib.hid hA
    have A2 := Lib.hid hB
    have A3 := Lib.hid (show IsBytes wc a2 cap2 rs from hR)
    have O0 := Lib.hid (World.ownsRow_nil wc wc.heap.size 5 1)
    clear hA hB hR bc
    go_wp2_with (at_builtin; refine wp_append_bytes rfl (.const (.slice none 0 0)) (.tmp 42) rfl rfl _ _ _ rfl O0.out A A.length rfl rfl A1.out ?_ ?_ ?_)
    · omega
    · exact Nat.le_refl _
    · intro v1 x1 h1 g1
      have c1 : Below wc.heap.size wc x1 := below_grown g1 (Nat.le_refl _) (fun g hg => by simp [Value.ownBlock] at hg)
      have A2' := Lib.hid (A2.out.below c1)
      have O1 := Lib.hid h1
      have C1 := Lib.hid c1
      clear h1 g1 c1
      go_wp2_with (at_builtin; refine wp_append_bytes rfl (.tmp 43) (.tmp 44) rfl rfl _ _ _ rfl O1.out B B.length rfl rfl A2'.out ?_ ?_ ?_)
      · omega
      · exact C1.out.size
      · intro v2 x2 h2 g2
        have c2 : Below wc.heap.size wc x2 := C1.out.trans (below_grown g2 C1.out.size (fun g hg => (O1.out.lt g hg).1))
        have A3' := Lib.hid (A3.out.below c2)
        have O2 := Lib.hid h2
        have C2 := Lib.hid c2
        clear h2 g2 c2
        go_wp2_with (at_builtin; refine wp_append_bytes rfl (.tmp 45) (.tmp 46) rfl rfl _ _ _ rfl O2.out rs rs.length rfl rfl A3'.out ?_ ?_ ?_)
        · omega
        · exact C2.out.size
        · intro v3 x3 h3 g3
          have c3 : Below wc.heap.size wc x3 := C2.out.trans (below_grown g3 C2.out.size (fun g hg => (O2.out.lt g hg).1))
          obtain ⟨q3, c3', rfl⟩ := own_slice h3
          have hly : (A ++ (B ++ rs)).length = A.length + B.length + rs.length := by simp; omega
          rw [← List.map_append, ← List.map_append] at h3
          have hY := IsBytes.of_own hly h3
          have hbY : ∀ x ∈ A ++ (B ++ rs), 0 ≤ x ∧ x < 256 := by
            intro x hx
            rcases List.mem_append.1 hx with h | h
            · exact BU.out x h
            · rcases List.mem_append.1 h with h | h
              · exact BS.out x h
              · exact HRS.out x h
          have d1 : (A ++ (B ++ rs)).drop 0 = A ++ (B ++ rs) := rfl
          have d2 : (A ++ (B ++ rs)).drop (0 + A.length) = B ++ rs := by rw [Nat.zero_add]; exact List.drop_left' rfl
          have TU' := TU.out
          have TS' := TS.out
          rw [← d1] at TU'
          rw [← d2] at TS'
          have U1 := Lib.hid TU'
          have U2 := Lib.hid TS'
          have C3 := Lib.hid (B3.out.trans (c3.mono B3.out.size))
          have NW := Lib.hid (pen_new hY hly (by omega) hbY false)
          have HL := Lib.hid hly
          have neA : decide (A.length = 0) = false := by
            rw [decide_eq_false_iff_not]; intro h; have := NA.out; omega
          have neB : decide (B.length = 0) = false := by
            rw [decide_eq_false_iff_not]; intro h; have := NB.out; omega
          have DA := Lib.hid neA
          have DB := Lib.hid neB
          clear h3 g3 c3 hY hbY d1 d2 TU' TS' hly neA neB
          go_wp2_with fail
          refine NW.out.mono ?_
          rintro e x4 ⟨ac, rfl, p4, b4⟩
          have C4 := Lib.hid (C3.out.trans (b4.mono C3.out.size))
          have hB4 := C3.out.size
          clear b4
          go_wp2_with fail
          refine (pen_uleb p4 U1.out).mono ?_
          rintro e x5 ⟨rfl, p5, g5⟩
          have C5 := Lib.hid (C4.out.trans (p4.frame hB4 g5))
          rw [DA.out] at p5
          clear p4 g5
          go_wp2_with fail
          refine (pen_sleb p5 U2.out).mono ?_
          rintro e x6 ⟨rfl, p6, g6⟩
          have C6 := Lib.hid (C5.out.trans (p5.frame hB4 g6))
          clear p5 g6
          go_wp2_with fail
          refine (pen_err0 p6 DB.out).mono ?_
          rintro e w' ⟨rfl, rfl⟩
          go_wp2_with fail
          refine (pen_left (n := rs.length) p6 (by rw [HL.out]; omega)).mono ?_
          rintro e x7 ⟨rfl, p7, g7⟩
          have C7 := Lib.hid (C6.out.trans (p6.frame0 hB4 g7))
          clear p6 p7 g7
          go_wp2_with fail
          refine (K.out x7).mono ?_
          rintro e x8 ⟨rfl, bk⟩
          go_wp2
          go_ret
          exact ⟨rfl, C7.out.trans (bk.mono C7.out.size)⟩
end Go.Proofs.Ytfdbmdkjmifpaaa.lebPuts
