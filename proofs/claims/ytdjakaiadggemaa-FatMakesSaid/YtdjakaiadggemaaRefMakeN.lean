/- The fat file of parts: the document's own call, the narrow form. No condition but that there are few bytes in each part. -/
import Derived.Test.YtdjakaiadggemaaRefMk1
namespace Go.Proofs.Ytdjakaiadggemaa
open Go.RowKit
variable {w w' : World}
attribute [local go_sem ↓] Go.wp_at_zero Go.wp_at_succ

open Classical in
set_option maxHeartbeats 3200000 in
set_option maxRecDepth 20000 in
theorem refmake_false (l : List Mb) (n : Nat) (hn : l.length = n) (hl : n ≤ 1000000) (p : Option Addr) (c : Nat) (hp : IsMbs w p l) (hfit : ∀ m ∈ l, m.Fits) (hb : ∀ m ∈ l, m.bytes.length ≤ 1100000) :
    Calls Try.prog 19 #[.bool false, .slice p n c] w fun e w' => MkOut w w' (makeN false l) e := by
  obtain ⟨r, hrr⟩ : ∃ r, r = makeN false l := ⟨_, rfl⟩
  rw [← hrr]
  unfold makeN at hrr
  rw [hn] at hrr
  have HN := Lib.hid hn
  have HP := Lib.hid hp
  have F := Lib.hid hfit
  have HB := Lib.hid hb
  have R0 := Lib.hid hrr
  clear hfit hb hp
  by_cases h0 : n = 0
  · rw [if_pos (.inl h0)] at hrr
    have R := Lib.hid hrr
    subst h0
    clear hrr hn R0
    go_enter Try.func19, Try.ntmps19
    go_wp2
    go_ret2
    rw [R.out]
    exact mkOut_nil (grown_refl _ _)
  · clear hrr hn
    have MM := Lib.hid (fun k (hk : k < n) => (⟨_, List.getElem?_eq_getElem (by rw [HN.out]; exact hk)⟩ : ∃ m, l[k]? = some m))
    have hne : ((n : Int) == 0) = false := by simp; omega
    have he0 : 0 ≤ e0N false n := by
      unfold e0N
      have : (0 : Int) ≤ (n : Int) * (esize false : Nat) := Int.mul_nonneg (by omega) (by omega)
      omega
    have HZ0 := Lib.hid he0
    clear he0
    go_enter Try.func19, Try.ntmps19
    go_wp2
    go_loopw [9] (fun i wr => ∃ k : Nat, k ≤ n ∧ i = .int .i64 k ∧ w.grownBy wr none ∧ ∀ j m, j < k → l[j]? = some m → m.odd = false) (fun i _ => n - (intOf i).toNat)
    case atStart => exact ⟨0, Nat.zero_le _, rfl, grown_refl _ _, fun j m hj => by omega⟩
    case round =>
      obtain ⟨k, hk, rfl, hg, hall⟩ := hrel
      have G := Lib.hid hg
      have A := Lib.hid hall
      by_cases hlt : k < n
      · obtain ⟨m, hm⟩ := MM.out k hlt
        obtain ⟨b, o, rfl, hc⟩ := (HP.out.grown hg) (by rw [HN.out]; omega)
        obtain ⟨⟨_, _, y2, _⟩, _⟩ := hc k m hm
        have M := Lib.hid hm
        clear hc hm hg hall
        by_cases hodd : m.odd = true
        · have R := Lib.hid (show r = ([], 2) by rw [R0.out, if_pos (.inr (List.any_eq_true.2 ⟨m, List.mem_of_getElem? M.out, hodd⟩))])
          have hcase : m.align < 0 ∨ (0 ≤ m.align ∧ 15 < m.align) := by
            unfold Mb.odd at hodd
            simp at hodd
            omega
          clear hodd
          rcases hcase with hc | ⟨hc1, hc2⟩
          · go_wp2
            go_ret2
            rw [R.out]
            exact mkOut_nil G.out
          · go_wp2
            go_ret2
            rw [R.out]
            exact mkOut_nil G.out
        · have ho : m.odd = false := by simpa using hodd
          have HO := Lib.hid ho
          have hcase : 0 ≤ m.align ∧ m.align ≤ 15 := by
            unfold Mb.odd at ho
            simpa using ho
          obtain ⟨hc1, hc2⟩ := hcase
          clear hodd ho
          go_wp2
          go_roundw
          case rel =>
            refine ⟨k + 1, by omega, by go_num, G.out, fun j t hj ht => ?_⟩
            rcases Nat.lt_or_ge j k with h | h
            · exact A.out j t h ht
            · obtain rfl : j = k := by omega
              rw [M.out] at ht
              injection ht with ht
              subst ht
              exact HO.out
          case measure => simp [intOf]; omega
      · have hkn : k = n := by omega
        subst hkn
        have AL := Lib.hid (show ∀ m ∈ l, 0 ≤ m.align ∧ m.align ≤ 15 from fun m hm => by
          obtain ⟨i, hi, rfl⟩ := List.getElem_of_mem hm
          have ho := A.out i _ (by rw [← HN.out]; exact hi) (List.getElem?_eq_getElem hi)
          unfold Mb.odd at ho
          simpa using ho)
        have hno : ¬ (k = 0 ∨ l.any Mb.odd = true) := by
          rintro (h | h)
          · exact h0 h
          · obtain ⟨m, hm, hp⟩ := List.any_eq_true.1 h
            obtain ⟨i, hi, rfl⟩ := List.getElem_of_mem hm
            rw [A.out i _ (by rw [← HN.out]; exact hi) (List.getElem?_eq_getElem hi)] at hp
            cases hp
        have R1 := Lib.hid (R0.out.trans (if_neg hno))
        clear hg hall hno hk hlt
        by_cases h32 : 32 < k
        · have R := Lib.hid (R1.out.trans (if_pos h32))
          go_wp2
          go_ret2
          rw [R.out]
          exact mkOut_nil G.out
        · have R2 := Lib.hid (R1.out.trans (if_neg h32))
          have TOP := Lib.hid (fun j (hj : j ≤ k) => endN_top (e0 := e0N false k) l AL.out HB.out j (by rw [HN.out]; exact hj))
          have LO := Lib.hid (fun j (hj : j ≤ k) => endN_le (e0 := e0N false k) l j (by rw [HN.out]; exact hj) HZ0.out)
          have he : e0N false k = 8 + (k : Int) * 20 := rfl
          have HE := Lib.hid he
          clear he
          go_wp2
          go_loopw [10, 11, 12] (fun at_ v i wr => ∃ j : Nat, j ≤ k ∧ i = .int .i64 j ∧ at_ = .int .i64 (endN (e0N false k) (l.take j)) ∧ wr.ownsRow w.heap.size 3 1 v j ((spots (e0N false k) l j).map fun s => .int .i64 s.off) ∧ w.grownBy wr none) (fun _ _ i _ => k - (intOf i).toNat)
          case atStart => exact ⟨0, Nat.zero_le _, rfl, congrArg (Value.int .i64) HE.out.symm, World.ownsRow_nil _ _ _ _, G.out⟩
          case round =>
            obtain ⟨j, hj, rfl, rfl, hown, hg⟩ := hrel
            obtain ⟨qv, cv, rfl⟩ := own_slice hown
            have top : endN (e0N false k) (l.take j) ≤ 8 + (k : Int) * 20 + j * 1132768 := by
              have h1 := TOP.out j hj
              have h2 := HE.out
              omega
            have lo := LO.out j hj
            obtain ⟨E, hE⟩ : ∃ E, E = endN (e0N false k) (l.take j) := ⟨_, rfl⟩
            rw [← hE] at top lo ⊢
            have HEE := Lib.hid hE
            have G2 := Lib.hid hg
            have OW := Lib.hid hown
            clear hE hg hown
            by_cases hlt : j < k
            · obtain ⟨m, hm⟩ := MM.out j hlt
              obtain ⟨b, o, rfl, hc⟩ := (HP.out.grown G2.out) (by rw [HN.out]; omega)
              have M := Lib.hid hm
              have hbm := HB.out m (List.mem_of_getElem? hm)
              have ma := AL.out m (List.mem_of_getElem? hm)
              obtain ⟨a, ha⟩ := Int.eq_ofNat_of_zero_le ma.1
              have ha15 : a ≤ 15 := by omega
              have SS := Lib.hid (spots_succ (e0 := e0N false k) hm)
              have ES := Lib.hid (endN_succ (e0 := e0N false k) hm)
              rw [← HEE.out] at SS ES
              have hP0 : (0 : Int) < 2 ^ a := Int.pow_pos (by decide)
              have hP15 : (2 : Int) ^ a ≤ 32768 := two_le ha15
              have PW := Lib.hid (fun w z (hz : z = (a : Int)) => power_at (w := w) z a hz (by omega))
              have SP := Lib.hid (show spot E m = ⟨m.cpu, m.sub, upN E (2 ^ a), m.bytes.length, m.align⟩ by unfold spot; rw [ha]; rfl)
              have STE := Lib.hid (show stepE E m = upN E (2 ^ a) + m.bytes.length by unfold stepE; rw [ha]; rfl)
              have hub := upN_bd (e := E) hP0
              have GE := Lib.hid (gap_end (a := E) hP0)
              have YC := Lib.hid (hc j m hm)
              have hne2 : ((2 : Int) ^ a == 0) = false := by simp; omega
              clear hc hm
              generalize (2 : Int) ^ a = P at *
              go_wp2
              go_loopw [10] (fun at_ wq => ∃ z : Int, E ≤ z ∧ at_ = .int .i64 z ∧ z + (-z) % P = upN E P ∧ wr.grownBy wq none) (fun at_ _ => ((-(intOf at_)) % P).toNat)
              case atStart => exact ⟨E, Int.le_refl _, rfl, GE.out, grown_refl _ _⟩
              case round =>
                obtain ⟨z, hz1, rfl, hz2, hgq⟩ := hrel
                have hgap0 : 0 ≤ (-z) % P := Int.emod_nonneg _ (by omega)
                obtain ⟨b', o', e', hcl⟩ := (HP.out.grown (grown_trans G2.out hgq)) (by rw [HN.out]; omega)
                injection e' with e'
                injection e' with e1 e2
                subst e1 e2
                obtain ⟨⟨_, _, y2, y3⟩, _⟩ := hcl j m M.out
                have GQ := Lib.hid hgq
                have zb : z ≤ 1073741824 := by omega
                have uz : (z % 18446744073709551616) = z := by omega
                have uz2 : IntKind.u64.wrap z = z := by rw [IntKind.wrap_u64]; exact uz
                have ua : (m.align % 18446744073709551616) = m.align := by omega
                have ua2 : IntKind.u64.wrap m.align = m.align := by rw [IntKind.wrap_u64]; exact ua
                have hzm : 0 ≤ z % P ∧ z % P < P := ⟨Int.emod_nonneg _ (by omega), Int.emod_lt_of_pos _ hP0⟩
                have htm : z.tmod P = z % P := Int.tmod_eq_emod_of_nonneg (by omega)
                have Z2 := Lib.hid hz2
                clear hcl hgq hz2
                by_cases hzero : z % P = 0
                · have hzb : (z % P != 0) = false := by simpa using hzero
                  have hgz : (-z) % P = 0 := by
                    have := Int.dvd_of_emod_eq_zero hzero
                    exact Int.emod_eq_zero_of_dvd ((Int.dvd_neg).2 this)
                  have hzU : z = upN E P := by have := Z2.out; omega
                  have ZU := Lib.hid hzU
                  clear hgz hzU hgap0
                  go_wp2_with fail
                  refine (PW.out _ _ (by first | rfl | exact ha)).mono ?_
                  rintro e wz ⟨rfl, rfl⟩
                  have OA := Lib.hid ((own_grown OW.out GQ.out).alloc (.cells #[.int .i64 z] 3))
                  have hgA := grown_trans (grown_trans G2.out GQ.out) (grown1 wz (.cells #[.int .i64 z] 3))
                  have GA := Lib.hid hgA
                  have BZ := Lib.hid hgA.size
                  clear hgA
                  go_wp2_with (at_builtin; refine wp_append_int rfl _ _ rfl _ _ _ rfl OA.out z wz.heap.size rfl ?_ ?_ ?_ ?_)
                  · rw [cell_of (heap_alloc_new wz _)]; rfl
                  · omega
                  · exact BZ.out
                  intro v' w6 ho6 hg6
                  obtain ⟨q6, c6, rfl⟩ := own_slice ho6
                  have hG6 := grown_own GA.out hg6 (fun g hg => (OA.out.lt g hg).1) (Nat.le_refl _)
                  obtain ⟨b2, o2, e2', hcl⟩ := (HP.out.grown hG6) (by rw [HN.out]; omega)
                  injection e2' with e2'
                  injection e2' with e3 e4
                  subst e3 e4
                  obtain ⟨⟨_, _, _, y3'⟩, _⟩ := hcl j m M.out
                  have GH := Lib.hid hG6
                  have E1 := Lib.hid (show w6.ownsRow w.heap.size 3 1 (.slice q6 (j + 1) c6) (j + 1) ((spots (e0N false k) l (j + 1)).map fun s => .int .i64 s.off) by
                    rw [SS.out, SP.out, List.map_append]
                    have := ho6
                    rw [ZU.out] at this
                    exact this)
                  have E2 := Lib.hid (show (z + m.bytes.length : Int) = endN (e0N false k) (l.take (j + 1)) by rw [ES.out, STE.out, ZU.out])
                  clear hcl hG6 ho6 hg6
                  go_wp2
                  go_roundw
                  case rel => exact ⟨j + 1, by omega, by go_num, congrArg (Value.int .i64) E2.out, E1.out, GH.out⟩
                  case measure => simp [intOf]; omega
                · have hzb : (z % P != 0) = true := by simpa using hzero
                  have hst := gap_step hP0 hzero
                  have hg1 : 0 ≤ (-(z + 1)) % P := Int.emod_nonneg _ (by omega)
                  have hz3 : z + 1 + (-(z + 1)) % P = upN E P := by have := Z2.out; omega
                  have Z3 := Lib.hid hz3
                  have HST := Lib.hid (show ((-(z + 1)) % P).toNat < ((-z) % P).toNat by omega)
                  clear hst hg1 hz3 hzero
                  go_wp2_with fail
                  refine (PW.out _ _ (by first | rfl | exact ha)).mono ?_
                  rintro e wz ⟨rfl, rfl⟩
                  go_wp2
                  go_roundw
                  case rel => exact ⟨z + 1, by omega, rfl, Z3.out, GQ.out⟩
                  case measure => exact HST.out
            · have hjk : j = k := by omega
              subst hjk
              have hEl : E = endN (e0N false j) l := by
                have := HEE.out
                rwa [List.take_of_length_le (by rw [HN.out]; exact Nat.le_refl _)] at this
              have hri := room_iff (e0 := e0N false j) (l := l) (by rw [HN.out]; omega)
              rw [← hEl] at hri
              by_cases hroom : E ≤ 1048576
              · have R3 := Lib.hid (R2.out.trans (if_neg (by simpa using hri.2 hroom)))
                have hRoom := Lib.hid (hri.2 hroom)
                have hdE : decide ((1048576 : Int) < E) = false := by simp; omega
                clear hri hEl hj hlt
                go_wp2
                go_loopw [13] (fun i wq => ∃ q : Nat, q ≤ j ∧ i = .int .i64 q ∧ Places w wq (.slice qv j cv) j (spots (e0N false j) l j) ∧ ∀ i' j', i' < q → j' < i' → ¬ TwinM l i' j') (fun i _ => j - (intOf i).toNat)
                case atStart => exact ⟨0, Nat.zero_le _, rfl, ⟨OW.out, G2.out⟩, fun i' j' h => by omega⟩
                case round =>
                  obtain ⟨q, hq, rfl, hgq, hallq⟩ := hrel
                  have AQ := Lib.hid hallq
                  have GQ := Lib.hid hgq
                  clear hallq hgq
                  by_cases hqj : q < j
                  · obtain ⟨m, hm⟩ := MM.out q hqj
                    have M := Lib.hid hm
                    clear hm
                    go_wp2
                    go_loopw [14] (fun i wv => ∃ v : Nat, v ≤ q ∧ i = .int .i64 v ∧ Places w wv (.slice qv j cv) j (spots (e0N false j) l j) ∧ ∀ j', j' < v → ¬ TwinM l q j') (fun i _ => q - (intOf i).toNat)
                    case atStart => exact ⟨0, Nat.zero_le _, rfl, GQ.out, fun j' h => by omega⟩
                    case round =>
                      obtain ⟨v, hv, rfl, hgv, hallv⟩ := hrel
                      have AV := Lib.hid hallv
                      have GV := Lib.hid hgv
                      by_cases hvq : v < q
                      · obtain ⟨m', hm'⟩ := MM.out v (by omega)
                        have M' := Lib.hid hm'
                        obtain ⟨b, o, rfl, hcl⟩ := (HP.out.grown hgv.2) (by rw [HN.out]; omega)
                        obtain ⟨⟨y0, y1, _, _⟩, _⟩ := hcl q m M.out
                        obtain ⟨⟨v0, v1, _, _⟩, _⟩ := hcl v m' hm'
                        have f1 := (F.out m (List.mem_of_getElem? M.out)).sub
                        have f2 := (F.out m' (List.mem_of_getElem? hm')).sub
                        clear hcl hm' hgv hallv
                        by_cases hc1 : m.cpu = m'.cpu
                        · have hb1 : (m.cpu == m'.cpu) = true := by simpa using hc1
                          by_cases hc2 : m.sub % 16777216 = m'.sub % 16777216
                          · have hb2 : (m.sub % 16777216 == m'.sub % 16777216) = true := by simpa using hc2
                            have R4 := Lib.hid (R3.out.trans (if_pos ((twin_parts HN.out).2 ⟨q, v, hqj, hvq, m, m', M.out, M'.out, hc1, hc2⟩)))
                            clear hc1 hc2
                            go_wp2
                            go_quiet (fail)
                            go_wp2
                            go_ret2
                            rw [R4.out]
                            exact mkOut_nil (grown_drewN GV.out.2 _)
                          · have hb2 : (m.sub % 16777216 == m'.sub % 16777216) = false := by simpa using hc2
                            have NT := Lib.hid (show ¬ TwinM l q v from fun ⟨s, t, h1, h2, _, h4⟩ => by
                              rw [M.out] at h1
                              rw [M'.out] at h2
                              injection h1 with h1
                              injection h2 with h2
                              subst h1 h2
                              exact hc2 h4)
                            clear hc1 hc2
                            go_wp2
                            go_quiet (fail)
                            go_wp2
                            go_roundw
                            case rel =>
                              refine ⟨v + 1, by omega, by go_num, Places.drewN GV.out _, fun j' h => ?_⟩
                              rcases Nat.lt_or_ge j' v with h1 | h1
                              · exact AV.out j' h1
                              · obtain rfl : j' = v := by omega
                                exact NT.out
                            case measure => simp [intOf]; omega
                        · have hb1 : (m.cpu == m'.cpu) = false := by simpa using hc1
                          have NT := Lib.hid (show ¬ TwinM l q v from fun ⟨s, t, h1, h2, h3, _⟩ => by
                            rw [M.out] at h1
                            rw [M'.out] at h2
                            injection h1 with h1
                            injection h2 with h2
                            subst h1 h2
                            exact hc1 h3)
                          clear hc1
                          go_wp2
                          go_quiet (fail)
                          go_wp2
                          go_roundw
                          case rel =>
                            refine ⟨v + 1, by omega, by go_num, Places.drewN GV.out _, fun j' h => ?_⟩
                            rcases Nat.lt_or_ge j' v with h1 | h1
                            · exact AV.out j' h1
                            · obtain rfl : j' = v := by omega
                              exact NT.out
                          case measure => simp [intOf]; omega
                      · clear hgv hallv
                        have hvq' : v = q := by omega
                        subst hvq'
                        go_wp2
                        go_roundw
                        case rel =>
                          refine ⟨v + 1, by omega, by go_num, GV.out, fun i' j' h h' => ?_⟩
                          rcases Nat.lt_or_ge i' v with h1 | h1
                          · exact AQ.out i' j' h1 h'
                          · obtain rfl : i' = v := by omega
                            exact AV.out j' h'
                        case measure => simp [intOf]; omega
                  · have hqj' : q = j := by omega
                    subst hqj'
                    have NTW := Lib.hid (show ¬ Twin (spots (e0N false q) l q) from fun h => by
                      obtain ⟨i', j', h1, h2, h3⟩ := (twin_parts HN.out).1 h
                      exact AQ.out i' j' h1 h2 h3)
                    have R4 := Lib.hid (R3.out.trans (if_neg NTW.out))
                    obtain ⟨cap0, w5, hcv, hown0, hg5⟩ := ownM_text (w := wr) (magicOf false) (mg false) (mg_text false) (by rw [mg_size]; omega)
                    rw [mg_size] at hcv hown0
                    rw [show magicOf false = (⟨#[202, 254, 186, 190]⟩ : ByteArray) from rfl] at hcv
                    have O0 := Lib.hid hown0
                    have G5 := Lib.hid hg5
                    have BA := Lib.hid (fun w => big_any (w := w) q (by omega) 4 (.inl rfl))
                    clear hown0 hg5 hq hqj NTW AQ
                    go_wp2_with fail
                    refine (BA.out _).mono ?_
                    rintro e w6 ⟨qb, cb, rfl, hob, hg6⟩
                    have OB := Lib.hid (IsBytes.of_own (bigN_len _ _) hob)
                    have O1 := Lib.hid (O0.out.grown hg6)
                    have G6 := Lib.hid (grown_trans G5.out hg6)
                    clear hob hg6 hcv
                    go_wp2_with (at_builtin; refine wp_appendM rfl _ _ rfl rfl rfl O1.out (bigN q 4) 4 (bigN_len _ _) rfl OB.out ?_ ?_)
                    · omega
                    intro g7 c7 w7 ho7 hg7 _
                    have hW7 := grown_new G6.out hg7 O1.out.lo
                    have E7 := Lib.hid ho7
                    have P7 := Lib.hid (Places.next GQ.out hW7)
                    have W7 := Lib.hid hW7
                    clear ho7 hg7 hW7
                    obtain ⟨S, hS⟩ : ∃ S, S = spots (e0N false q) l q := ⟨_, rfl⟩
                    have SLN := spots_len (e0N false q) l q
                    rw [← hS] at R4 GQ SLN
                    have hO7 : OwnM w7 wr.heap.size g7 (8 + 0 * 20) c7 (hdrN false q S 0) := by
                      have := E7.out
                      rw [Nat.zero_mul]
                      simpa [hdrN] using this
                    have HS := Lib.hid hS
                    have O7 := Lib.hid hO7
                    obtain ⟨wo, hwo⟩ : ∃ wo : World, wo = wr := ⟨_, rfl⟩
                    subst hwo
                    clear hS hO7 P7 E7 O1 O0 G5 G6 OB BA TOP
                    go_wp2
                    go_loopw [15, 16] (fun v i wv => ∃ k g' cap' : Nat, k ≤ q ∧ i = .int .i64 k ∧ v = .slice (some ⟨g', 0, none⟩) (8 + k * 20) cap' ∧ OwnM wv wo.heap.size g' (8 + k * 20) cap' (hdrN false q S k) ∧ wo.grownBy wv none) (fun _ i _ => q - (intOf i).toNat)
                    case atStart => exact ⟨0, g7, c7, Nat.zero_le _, rfl, by rw [Nat.zero_mul], O7.out, W7.out⟩
                    case round =>
                      obtain ⟨k, g1, c1, hk, rfl, rfl, hown, hgr⟩ := hrel
                      by_cases hlt : k < q
                      · obtain ⟨m, hm⟩ := MM.out k hlt
                        have hs : S[k]? = some (spot (endN (e0N false q) (l.take k)) m) := by rw [HS.out]; exact spots_at hlt hm
                        have hup := upN_bd (e := endN (e0N false q) (l.take k)) (show (0 : Int) < 2 ^ m.align.toNat from Int.pow_pos (by decide))
                        have hrm := hRoom.out k (by rw [HN.out]; exact hlt)
                        rw [endN_succ hm] at hrm
                        unfold stepE at hrm
                        have lo0 := LO.out k (by omega)
                        have mf := F.out m (List.mem_of_getElem? hm)
                        have ma := AL.out m (List.mem_of_getElem? hm)
                        have m0 := mf.cpu
                        have m1 := mf.sub
                        have ho0 : 0 ≤ (spot (endN (e0N false q) (l.take k)) m).off ∧ (spot (endN (e0N false q) (l.take k)) m).off ≤ 1048576 := by
                          show 0 ≤ upN _ _ ∧ upN _ _ ≤ 1048576
                          omega
                        have hml : (m.bytes.length : Int) ≤ 1048576 := by omega
                        have HK := Lib.hid (hdrN_succ (wide := false) (n := q) hs)
                        have PU : Hid (putN false (spot (endN (e0N false q) (l.take k)) m) = bigN m.cpu 4 ++ (bigN m.sub 4 ++ (bigN (spot (endN (e0N false q) (l.take k)) m).off 4 ++ (bigN m.bytes.length 4 ++ (bigN m.align 4 ++ List.replicate 0 0))))) := Lib.hid rfl
                        obtain ⟨gq, hqv, Y4⟩ := GQ.out.cell hs
                        obtain ⟨s, hss⟩ : ∃ s, s = spot (endN (e0N false q) (l.take k)) m := ⟨_, rfl⟩
                        rw [← hss] at hs HK PU ho0 Y4
                        obtain ⟨so, hso⟩ : ∃ so, so = s.off := ⟨_, rfl⟩
                        rw [← hso] at PU ho0 Y4
                        obtain ⟨b, o, rfl, hcl⟩ := (HP.out.grown GQ.out.2) (by rw [HN.out]; omega)
                        obtain ⟨⟨Y0, Y1, Y2, Y3⟩, _⟩ := hcl k m hm
                        have YY := Lib.hid (And.intro Y0 (And.intro Y1 (And.intro Y2 (And.intro Y3 Y4))))
                        subst hqv
                        have hle : k * 20 ≤ 2000 := by omega
                        have q0 : 8 + k * 20 + 4 ≤ 140737488355328 := by omega
                        have q1 : 8 + k * 20 + 4 + 4 ≤ 140737488355328 := by omega
                        have q2 : 8 + k * 20 + 4 + 4 + 4 ≤ 140737488355328 := by omega
                        have q3 : 8 + k * 20 + 4 + 4 + 4 + 4 ≤ 140737488355328 := by omega
                        have q4 : 8 + k * 20 + 4 + 4 + 4 + 4 + 4 ≤ 140737488355328 := by omega
                        have b0 : 0 ≤ m.cpu ∧ m.cpu < 18446744073709551616 := by omega
                        have b1 : 0 ≤ m.sub ∧ m.sub < 18446744073709551616 := by omega
                        have b2 : 0 ≤ so ∧ so < 18446744073709551616 := by omega
                        have b3 : 0 ≤ (m.bytes.length : Int) ∧ (m.bytes.length : Int) < 18446744073709551616 := by omega
                        have b4 : 0 ≤ m.align ∧ m.align < 18446744073709551616 := by omega
                        have u0 : (m.cpu % 18446744073709551616) = m.cpu := by omega
                        have u1 : (m.sub % 18446744073709551616) = m.sub := by omega
                        have u2 : (so % 18446744073709551616) = so := by omega
                        have u3 : ((m.bytes.length : Int) % 18446744073709551616) = m.bytes.length := by omega
                        have u4 : (m.align % 18446744073709551616) = m.align := by omega
                        have v0 : IntKind.u64.wrap m.cpu = m.cpu := by rw [IntKind.wrap_u64]; exact u0
                        have v1 : IntKind.u64.wrap m.sub = m.sub := by rw [IntKind.wrap_u64]; exact u1
                        have v2 : IntKind.u64.wrap so = so := by rw [IntKind.wrap_u64]; exact u2
                        have v3 : IntKind.u64.wrap (m.bytes.length : Int) = m.bytes.length := by rw [IntKind.wrap_u64]; exact u3
                        have v4 : IntKind.u64.wrap m.align = m.align := by rw [IntKind.wrap_u64]; exact u4
                        have OW := Lib.hid hown
                        have GR := Lib.hid hgr
                        clear hcl hs mf ma hup hrm hown hgr Y0 Y1 Y2 Y3 Y4 O7 lo0 hso hss m0 m1 ho0
                        go_wp2
                        have GC := Lib.hid (show wo.grownBy wr.drew none from grown_drewN GR.out 1)
                        have OC := Lib.hid (show OwnM wr.drew wo.heap.size g1 (8 + k * 20) c1 (hdrN false q S k) from OW.out.grown (grown_drewN (grown_refl wr none) 1))
                        have y0 := grown_cell GC.out YY.out.1
                        have y1 := grown_cell GC.out YY.out.2.1
                        go_region_held3 (fun X => X.cell? ⟨b, o + k * 4, none⟩ = some (.int .u32 m.cpu) ∧ X.cell? ⟨b, o + k * 4 + 1, none⟩ = some (.int .u32 m.sub))
                          (exact ⟨y0, y1⟩)
                          (first
                            | (go_simp; go_at_call 37; refine (big_any _ (by first | exact b0 | exact b1) 4 (.inl rfl)).mono ?_; rintro e x1 ⟨qb, cb, rfl, hob, hgb⟩; have BB := Lib.hid (IsBytes.of_own (bigN_len _ _) hob); have OD := Lib.hid (OC.out.grown hgb); clear OC; have OC := OD; clear OD; have GD := Lib.hid (grown_trans GC.out hgb); clear GC; have GC := GD; clear GD; clear hob hgb y0 y1; have y0 := grown_cell GC.out YY.out.1; have y1 := grown_cell GC.out YY.out.2.1)
                            | (refine step_appendM (by with_reducible rfl) _ _ (by with_reducible rfl) (by with_reducible rfl) (by rfl) OC.out (bigN _ 4) 4 (bigN_len _ _) (by rfl) BB.out (by first | exact q0 | exact q1 | exact q2 | exact q3) ?_; intro g2 c2 x2 ho2 hg2; have GD := Lib.hid (grown_new GC.out hg2 OC.out.lo); clear GC OC BB; have GC := GD; clear GD; have OC := Lib.hid ho2; clear ho2 hg2 y0 y1; have y0 := grown_cell GC.out YY.out.1; have y1 := grown_cell GC.out YY.out.2.1))
                        clear y0 y1
                        go_wp2
                        have GD := Lib.hid (show wo.grownBy x2.drew none from grown_drewN GC.out 1)
                        have OD := Lib.hid (show OwnM x2.drew wo.heap.size g2 (8 + k * 20 + 4 + 4) c2 (hdrN false q S k ++ bigN m.cpu 4 ++ bigN m.sub 4) from OC.out.grown (grown_drewN (grown_refl x2 none) 1))
                        clear GC OC
                        have GC := GD
                        have OC := OD
                        clear GD OD
                        have y0 := grown_cell GC.out YY.out.2.2.2.2
                        have y1 := grown_cell GC.out YY.out.2.2.2.1
                        go_region_held3 (fun X => X.cell? ⟨gq, k, none⟩ = some (.int .i64 so) ∧ X.cell? ⟨b, o + k * 4 + 3, none⟩ = some (.slice m.q m.bytes.length m.cap))
                          (exact ⟨y0, y1⟩)
                          (first
                            | (go_simp; go_at_call 37; refine (big_any _ (by first | exact b2 | exact b3) 4 (.inl rfl)).mono ?_; rintro e x1 ⟨qb, cb, rfl, hob, hgb⟩; have BB := Lib.hid (IsBytes.of_own (bigN_len _ _) hob); have OD := Lib.hid (OC.out.grown hgb); clear OC; have OC := OD; clear OD; have GD := Lib.hid (grown_trans GC.out hgb); clear GC; have GC := GD; clear GD; clear hob hgb y0 y1; have y0 := grown_cell GC.out YY.out.2.2.2.2; have y1 := grown_cell GC.out YY.out.2.2.2.1)
                            | (refine step_appendM (by with_reducible rfl) _ _ (by with_reducible rfl) (by with_reducible rfl) (by rfl) OC.out (bigN _ 4) 4 (bigN_len _ _) (by rfl) BB.out (by first | exact q0 | exact q1 | exact q2 | exact q3) ?_; intro g2 c2 x2 ho2 hg2; have GD := Lib.hid (grown_new GC.out hg2 OC.out.lo); clear GC OC BB; have GC := GD; clear GD; have OC := Lib.hid ho2; clear ho2 hg2 y0 y1; have y0 := grown_cell GC.out YY.out.2.2.2.2; have y1 := grown_cell GC.out YY.out.2.2.2.1))
                        clear y0 y1
                        have y2 := grown_cell GC.out YY.out.2.2.1
                        go_wp2_with fail
                        refine (big_any _ b4 4 (.inl rfl)).mono ?_
                        rintro e x5 ⟨qb, cb, rfl, hob, hgb⟩
                        have BB := Lib.hid (IsBytes.of_own (bigN_len _ _) hob)
                        have OD := Lib.hid (OC.out.grown hgb)
                        have GD := Lib.hid (grown_trans GC.out hgb)
                        clear OC GC hob hgb y2
                        go_wp2_with (at_builtin; refine wp_appendM rfl _ _ rfl rfl rfl OD.out (bigN m.align 4) 4 (bigN_len _ _) rfl BB.out q4 ?_)
                        intro g6 c6 x6 ho6 hg6 _
                        have G6 := Lib.hid (grown_new GD.out hg6 OD.out.lo)
                        have hL6 : 8 + k * 20 + 4 + 4 + 4 + 4 + 4 = 8 + k * 20 + 20 + 0 := by omega
                        have O6 := Lib.hid (show OwnM x6 wo.heap.size g6 (8 + k * 20 + 20 + 0) c6 (hdrN false q S k ++ (bigN m.cpu 4 ++ (bigN m.sub 4 ++ (bigN so 4 ++ (bigN m.bytes.length 4 ++ (bigN m.align 4 ++ List.replicate 0 0)))))) by
                          have := ho6
                          rw [hL6] at this
                          simpa using this)
                        clear hL6 GD OD BB ho6 hg6 u0 u1 u2 u3 u4 v0 v1 v2 v3 v4 b0 b1 b2 b3 b4 q0 q1 q2 q3 q4
                        have hk32 : k ≤ 31 := by omega
                        go_wp2
                        go_loopw [15] (fun v wv => ∃ t g' cap' : Nat, t ≤ 0 ∧ v = .slice (some ⟨g', 0, none⟩) (8 + k * 20 + 20 + t) cap' ∧ OwnM wv wo.heap.size g' (8 + k * 20 + 20 + t) cap' (hdrN false q S k ++ (bigN m.cpu 4 ++ (bigN m.sub 4 ++ (bigN so 4 ++ (bigN m.bytes.length 4 ++ (bigN m.align 4 ++ List.replicate t 0)))))) ∧ wo.grownBy wv none) (fun v _ => (8 + k * 20 + 20) - lenV v)
                        case atStart => exact ⟨0, g6, c6, Nat.zero_le _, rfl, O6.out, G6.out⟩
                        case round =>
                          obtain ⟨t, g3, c3, ht, rfl, hown, hgr⟩ := hrel
                          have OW3 := Lib.hid hown
                          have GR3 := Lib.hid hgr
                          by_cases htr : t < 0
                          · omega
                          · obtain rfl : t = 0 := by omega
                            have E1 := Lib.hid (show OwnM wr wo.heap.size g3 (8 + (k + 1) * 20) c3 (hdrN false q S (k + 1)) by
                              rw [HK.out, PU.out, show 8 + (k + 1) * 20 = 8 + k * 20 + 20 + 0 by omega]
                              exact hown)
                            have HL := Lib.hid (show 8 + k * 20 + 20 + 0 = 8 + (k + 1) * 20 by omega)
                            clear hown hgr
                            go_wp2
                            go_roundw
                            case rel => exact ⟨k + 1, g3, c3, by omega, by go_num, by rw [← HL.out], E1.out, GR3.out⟩
                            case measure => simp [intOf]; omega
                      · have hkn : k = q := by omega
                        subst hkn
                        have hhl := hdrN_len false k S k (by rw [SLN]; exact Nat.le_refl _)
                        have PL := Lib.hid (fun j (hj : j ≤ k) => partsN_len (hdr := hdrN false k S k) (e0 := e0N false k) HN.out (by rw [hhl]; rfl) j hj)
                        rw [← HS.out] at PL
                        obtain ⟨H, hH⟩ : ∃ H, H = hdrN false k S k := ⟨_, rfl⟩
                        rw [← hH] at PL R4 hown hhl
                        have hO0 : OwnM wr wo.heap.size g1 (partsN H S l 0).length c1 (partsN H S l 0) := by
                          show OwnM wr wo.heap.size g1 H.length c1 H
                          rw [hhl]; exact hown
                        have hL0 : 8 + k * 20 = (partsN H S l 0).length := hhl.symm
                        have O0 := Lib.hid hO0
                        have G0 := Lib.hid hgr
                        have HL0 := Lib.hid hL0
                        clear hH hown hgr hO0 hL0 hhl hk hlt O7 W7
                        go_wp2
                        go_loopw [15, 17] (fun v i wv => ∃ j g' cap' : Nat, j ≤ k ∧ i = .int .i64 j ∧ v = .slice (some ⟨g', 0, none⟩) (partsN H S l j).length cap' ∧ OwnM wv wo.heap.size g' (partsN H S l j).length cap' (partsN H S l j) ∧ wo.grownBy wv none) (fun _ i _ => k - (intOf i).toNat)
                        case atStart => exact ⟨0, g1, c1, Nat.zero_le _, rfl, by rw [HL0.out], O0.out, G0.out⟩
                        case round =>
                          obtain ⟨j, g3, c3, hj, rfl, rfl, hown, hgr⟩ := hrel
                          obtain ⟨hpl, hp0⟩ := PL.out j hj
                          by_cases hlt : j < k
                          · obtain ⟨m, hm⟩ := MM.out j hlt
                            have hs : S[j]? = some (spot (endN (e0N false k) (l.take j)) m) := by rw [HS.out]; exact spots_at hlt hm
                            have hup := upN_bd (e := endN (e0N false k) (l.take j)) (show (0 : Int) < 2 ^ m.align.toNat from Int.pow_pos (by decide))
                            have hrm := hRoom.out j (by rw [HN.out]; exact hlt)
                            rw [endN_succ hm] at hrm
                            unfold stepE at hrm
                            have PS := Lib.hid (partsN_succ (hdr := H) hs hm)
                            have hso : (spot (endN (e0N false k) (l.take j)) m).off = upN (endN (e0N false k) (l.take j)) (2 ^ m.align.toNat) := rfl
                            have mf := F.out m (List.mem_of_getElem? hm)
                            have hml := mf.len
                            have hmc := mf.cap
                            obtain ⟨gq, hqv, Y4⟩ := GQ.out.cell hs
                            obtain ⟨so, hss⟩ : ∃ so, so = (spot (endN (e0N false k) (l.take j)) m).off := ⟨_, rfl⟩
                            rw [← hss] at PS hso Y4
                            rw [← hso] at hup hrm
                            obtain ⟨b, o, rfl, hclm⟩ := (HP.out.grown GQ.out.2) (by rw [HN.out]; omega)
                            obtain ⟨⟨_, _, _, Y3⟩, hmb⟩ := hclm j m hm
                            subst hqv
                            obtain ⟨L, hL⟩ : ∃ L, L = (partsN H S l j).length := ⟨_, rfl⟩
                            obtain ⟨Q, hQ⟩ : ∃ Q, Q = partsN H S l j := ⟨_, rfl⟩
                            rw [← hL] at hpl hown PS
                            rw [← hQ] at hown PS
                            rw [← hL]
                            have hle : (L : Int) ≤ so := by omega
                            have ho20 : so ≤ 1048576 := by omega
                            have hmlen : (m.bytes.length : Int) ≤ 1048576 := by omega
                            have YY := Lib.hid (And.intro Y3 Y4)
                            have MB := Lib.hid hmb
                            have OQ := Lib.hid (show OwnM wr wo.heap.size g3 (L + 0) c3 (Q ++ List.replicate 0 0) by simpa using hown)
                            have GR := Lib.hid hgr
                            obtain ⟨sn, hsn⟩ := Int.eq_ofNat_of_zero_le (show 0 ≤ so by omega)
                            subst hsn
                            have hle' : L ≤ sn := by omega
                            have hs20 : sn ≤ 1048576 := by omega
                            have hm20 : m.bytes.length ≤ 1048576 := by omega
                            clear hclm hs hss hso hup hrm mf hown hgr hm hL hQ hpl hp0 Y3 Y4 hmb hmlen hle ho20 hml hmc
                            go_wp2
                            go_loopw [15] (fun v wv => ∃ t g' cap' : Nat, L + t ≤ sn ∧ v = .slice (some ⟨g', 0, none⟩) (L + t) cap' ∧ OwnM wv wo.heap.size g' (L + t) cap' (Q ++ List.replicate t 0) ∧ wo.grownBy wv none) (fun v _ => sn - lenV v)
                            case atStart => exact ⟨0, g3, c3, by omega, rfl, OQ.out, GR.out⟩
                            case round =>
                              obtain ⟨t, g4, c4, ht, rfl, hown, hgr⟩ := hrel
                              have y4 := grown_cell hgr YY.out.2
                              have OW4 := Lib.hid hown
                              have GR4 := Lib.hid hgr
                              by_cases htr : L + t < sn
                              · have OA := Lib.hid (hown.grown (grown1 wr (.cells #[.int .u8 0] 5)))
                                have GA := Lib.hid (grown_trans hgr (grown1 wr (.cells #[.int .u8 0] 5)))
                                have OB := Lib.hid (one_byte' wr 0)
                                clear hown hgr
                                go_wp2_with (at_builtin; refine wp_appendM rfl _ _ rfl rfl rfl OA.out [0] 1 rfl rfl OB.out ?_ ?_)
                                · omega
                                intro g5 c5 w5' ho5 hg5 _
                                have E1 := Lib.hid (show OwnM w5' wo.heap.size g5 (L + (t + 1)) c5 (Q ++ List.replicate (t + 1) 0) by
                                  have := ho5
                                  rw [List.replicate_succ']
                                  exact this)
                                have E2 := Lib.hid (grown_new GA.out hg5 OA.out.lo)
                                clear ho5 hg5 y4
                                go_wp2
                                go_roundw
                                case rel => exact ⟨t + 1, g5, c5, by omega, rfl, E1.out, E2.out⟩
                                case measure => simp [lenV]; omega
                              · have hts : L + t = sn := by omega
                                have y3 := grown_cell hgr YY.out.1
                                have MB4 := Lib.hid (MB.out.kept hgr (by simp))
                                have HT := Lib.hid (show t = (((sn : Nat) : Int).toNat - L) by omega)
                                have hsum : L + t + m.bytes.length ≤ 140737488355328 := by omega
                                clear hown hgr
                                go_wp2_with (at_builtin; refine wp_appendM rfl _ _ rfl rfl rfl OW4.out m.bytes m.bytes.length rfl rfl MB4.out hsum ?_)
                                intro g8 c8 w8 ho8 hg8 _
                                have hlen : (partsN H S l (j + 1)).length = sn + m.bytes.length := by
                                  rw [PS.out, ← HT.out, List.append_assoc]; exact ho8.len
                                have E1 := Lib.hid (show OwnM w8 wo.heap.size g8 (partsN H S l (j + 1)).length c8 (partsN H S l (j + 1)) by
                                  rw [hlen, PS.out, ← HT.out, List.append_assoc]; exact ho8)
                                have E2 := Lib.hid (grown_new GR4.out hg8 OW4.out.lo)
                                have HL := Lib.hid hlen
                                clear ho8 hg8 hlen y3 y4 hts
                                go_wp2
                                go_roundw
                                case rel => exact ⟨j + 1, g8, c8, by omega, by go_num, by rw [HL.out], E1.out, E2.out⟩
                                case measure => simp [intOf]; omega
                          · have hjk : j = k := by omega
                            subst hjk
                            have OW := Lib.hid hown
                            have GR := Lib.hid (grown_trans GQ.out.2 hgr)
                            have hcap := hown.most
                            have hle := hown.le
                            clear hown hgr hpl hp0
                            go_wp2
                            go_ret2
                            rw [R4.out]
                            exact ⟨⟨_, _, rfl, OW.out.bytes _, hle, by unfold maxLen at hcap; omega⟩, GR.out⟩
              · have R3 := Lib.hid (R2.out.trans (if_pos (fun h => hroom (hri.1 h))))
                clear hri hEl
                go_wp2
                go_ret2
                rw [R3.out]
                exact mkOut_nil G2.out

end Go.Proofs.Ytdjakaiadggemaa
