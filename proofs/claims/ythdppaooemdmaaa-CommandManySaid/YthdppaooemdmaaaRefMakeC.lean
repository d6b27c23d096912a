/- A header and commands, as bytes: the document's own call. No condition but that there are at most a million commands. -/
import Derived.Test.YthdppaooemdmaaaMakeC
import Derived.Test.YthdppaooemdmaaaGet
import Derived.Deep.Cut
import Derived.Deep.CutRange
namespace Go.Proofs.Ythdppaooemdmaaa
open Go.RowKit
variable {w w' : World}

theorem refput_any (n : Int) (hn : 0 ≤ n ∧ n < 4294967296) :
    Calls Try.prog 31 #[.int .i64 n] w fun e w' => ∃ g, e = .returned (.slice (some ⟨g, 0, none⟩) 4 4) ∧ IsBytes w' (some ⟨g, 0, none⟩) 4 (le4 n) ∧ w.grownBy w' none := by
  have hl : le4 n = [n % 256, n / 256 % 256, n / 65536 % 256, n / 16777216 % 256] := rfl
  have FB := Lib.hid (four_bytes w (n % 256) (n / 256 % 256) (n / 65536 % 256) (n / 16777216 % 256))
  have HL := Lib.hid hl
  clear hl
  go_enter Try.func31, Try.ntmps31
  go_wp2
  go_ret
  exact ⟨_, rfl, by rw [HL.out]; exact FB.out, grown1 _ _⟩

/-- Numbers as ints, wherever they lie. -/
def IsI64s (w : World) (q : Option Addr) (ns : List Int) : Prop := 0 < ns.length → ∃ b o, q = some ⟨b, o, none⟩ ∧ ∀ i x, ns[i]? = some x → w.cell? ⟨b, o + i, none⟩ = some (.int .i64 x)
theorem IsI64s.grown {q : Option Addr} {ns : List Int} (h : IsI64s w q ns) (hg : w.grownBy w' none) : IsI64s w' q ns := fun hl => by
  obtain ⟨b, o, rfl, hc⟩ := h hl
  exact ⟨b, o, rfl, fun i x hx => hg.cell (hc i x hx) (by simp)⟩
theorem isI64s_at {g : Nat} {ns : List Int} {T : TypeId} (h : w.heap[g]? = some (.cells (ns.map (Value.int .i64)).toArray T (0, 0))) : IsI64s w (some ⟨g, 0, none⟩) ns := fun _ =>
  ⟨g, 0, rfl, fun i x hx => by rw [Nat.zero_add, cell_of h]; simp [hx]⟩
theorem eight_ints (w : World) (a b c d e f g h : Int) : IsI64s (w.alloc (.cells #[.int .i64 a, .int .i64 b, .int .i64 c, .int .i64 d, .int .i64 e, .int .i64 f, .int .i64 g, .int .i64 h] 3)) (some ⟨w.heap.size, 0, none⟩) [a, b, c, d, e, f, g, h] :=
  isI64s_at (ns := [a, b, c, d, e, f, g, h]) (heap_alloc_new w _)

open Classical in
set_option maxHeartbeats 3200000 in
set_option maxRecDepth 20000 in
theorem refmake_any (sub kind flags : Int) (hfl : 0 ≤ flags ∧ flags < 4294967296) (l : List Cm) (n : Nat) (hn : l.length = n) (hl : n ≤ 1000000) (hfit : ∀ m ∈ l, m.Fits) (p : Option Addr) (c : Nat) (hp : IsCms w p l) :
    Calls Try.prog 33 #[.agg #[.int .i64 sub, .int .i64 kind, .int .u32 flags], .slice p n c] w fun e w' => MkOut w w' (makeN sub kind flags l) e := by
  obtain ⟨r, hrr⟩ : ∃ r, r = makeN sub kind flags l := ⟨_, rfl⟩
  rw [← hrr]
  unfold makeN at hrr
  rw [hn] at hrr
  have HN := Lib.hid hn
  have HP := Lib.hid hp
  have F := Lib.hid hfit
  have gX := grown1 w (.cells #[.int .i64 sub, .int .i64 kind, .int .u32 flags] 27)
  have GX := Lib.hid gX
  have HB := Lib.hid (show (w.alloc (.cells #[.int .i64 sub, .int .i64 kind, .int .u32 flags] 27)).heap[w.heap.size]? = some (.cells #[.int .i64 sub, .int .i64 kind, .int .u32 flags] 27 (0, 0)) from heap_alloc_new w _)
  have SB := Lib.hid (sizeN_bd hfit)
  have R0 := Lib.hid hrr
  clear hn hp hfit gX hrr
  by_cases hsub : sub = 0 ∨ sub = 2
  · by_cases hkind : kind = 2 ∨ kind = 6
    · have HSUB := Lib.hid hsub
      have HKIND := Lib.hid hkind
      have hs0 : 0 ≤ sub ∧ sub < 4294967296 := by omega
      have hk0 : 0 ≤ kind ∧ kind < 4294967296 := by omega
      have hsv : (sub != 0) = false ∨ ((sub != 0) = true ∧ (sub != 2) = false) := by
        rcases hsub with rfl | rfl
        · exact .inl rfl
        · exact .inr ⟨rfl, rfl⟩
      have hkv : (kind != 2) = false ∨ ((kind != 2) = true ∧ (kind != 6) = false) := by
        rcases hkind with rfl | rfl
        · exact .inl rfl
        · exact .inr ⟨rfl, rfl⟩
      clear hsub hkind
      go_enter Try.func33, Try.ntmps33
      rcases hsv with s1 | ⟨s1, s2⟩ <;> rcases hkv with k1 | ⟨k1, k2⟩
      all_goals
        go_wp2
        go_loopw [6, 7] (fun z i wr => ∃ k : Nat, k ≤ n ∧ i = .int .i64 k ∧ z = .int .i64 (sizeN (l.take k)) ∧ (w.alloc (.cells #[.int .i64 sub, .int .i64 kind, .int .u32 flags] 27)).grownBy wr none ∧ (l.take k).any Cm.odd = false) (fun _ i _ => n - (intOf i).toNat)
        case atStart => exact ⟨0, Nat.zero_le _, rfl, rfl, grown_refl _ _, rfl⟩
        case round =>
          obtain ⟨k, hk, rfl, rfl, hg, hno⟩ := hrel
          have hszk : (sizeN (l.take k) : Int) ≤ 4294967296000000 := by
            have h1 := sizeN_bd (fun m hm => F.out m (List.mem_of_mem_take hm)) hno
            rw [List.length_take, HN.out, Nat.min_eq_left hk] at h1
            have h2 : ((sizeN (l.take k) : Nat) : Int) ≤ ((k * 4294967296 : Nat) : Int) := Int.ofNat_le.2 h1
            rw [Int.natCast_mul] at h2
            omega
          by_cases hlt : k < n
          · obtain ⟨m, hm⟩ : ∃ m, l[k]? = some m := ⟨_, List.getElem?_eq_getElem (by rw [HN.out]; exact hlt)⟩
            obtain ⟨b, o, rfl, hc⟩ := (HP.out.grown (grown_trans GX.out hg)) (by rw [HN.out]; omega)
            obtain ⟨⟨c0, c1⟩, hbs⟩ := hc k m hm
            have MY := Lib.hid (refmay_any (w := wr) m (F.out m (List.mem_of_getElem? hm)) hbs)
            have HST := Lib.hid (sizeN_take hm)
            have HTK := Lib.hid (show l.take (k + 1) = l.take k ++ [m] by
              have hk' : k < l.length := by rw [HN.out]; exact hlt
              have e := List.getElem?_eq_getElem hk'
              rw [hm] at e
              injection e with e
              rw [List.take_succ_eq_append_getElem hk', ← e])
            have M := Lib.hid hm
            have G := Lib.hid hg
            have NO := Lib.hid hno
            unfold Cm.v at MY
            obtain ⟨A, hA⟩ : ∃ A, A = sizeN (l.take k) := ⟨_, rfl⟩
            rw [← hA] at HST hszk ⊢
            clear hc hm hbs hg hno hA
            cases hmay : mayB m.cmd m.bytes
            · rw [hmay] at MY
              have R := Lib.hid (show r = ([], 2) by
                rw [R0.out, if_pos (.inr (.inr (List.any_eq_true.2 ⟨m, List.mem_of_getElem? M.out, by unfold Cm.odd; rw [hmay]; rfl⟩)))])
              clear hmay c0 c1
              have c0 := (HP.out.grown (grown_trans GX.out G.out)) (by rw [HN.out]; omega)
              obtain ⟨b', o', e', hc⟩ := c0
              injection e' with e'
              injection e' with e1 e2
              subst e1 e2
              obtain ⟨⟨c0, c1⟩, _⟩ := hc k m M.out
              clear hc
              go_wp2_with fail
              refine MY.out.mono ?_
              rintro e w2 ⟨rfl, hg2⟩
              have G2 := Lib.hid (grown_trans GX.out (grown_trans G.out hg2))
              clear hg2
              go_wp2
              go_ret2
              rw [R.out]
              exact mkOut_nil G2.out
            · rw [hmay] at MY
              have NX := Lib.hid (show (l.take (k + 1)).any Cm.odd = false by
                rw [HTK.out, List.any_append, NO.out]
                simp [Cm.odd, hmay])
              clear hmay
              go_wp2_with fail
              refine MY.out.mono ?_
              rintro e w2 ⟨rfl, hg2⟩
              have c1 := grown_cell hg2 c1
              have G2 := Lib.hid (grown_trans G.out hg2)
              have hmb : (m.bytes.length : Int) ≤ 9223372036854775807 := by
                have h1 := (F.out m (List.mem_of_getElem? M.out)).len
                have h2 := (F.out m (List.mem_of_getElem? M.out)).cap
                omega
              have hszn : (A : Int) + m.bytes.length ≤ 8589934592000000 := by
                have h1 := sizeN_bd (fun m hm => F.out m (List.mem_of_mem_take hm)) NX.out
                rw [List.length_take, HN.out, Nat.min_eq_left hlt, HST.out] at h1
                have h2 : ((A + m.bytes.length : Nat) : Int) ≤ (((k + 1) * 4294967296 : Nat) : Int) := Int.ofNat_le.2 h1
                rw [Int.natCast_mul] at h2
                omega
              clear hg2
              go_wp2
              go_roundw
              case rel => exact ⟨k + 1, by omega, by go_num, congrArg (Value.int .i64) (by rw [HST.out]; simp), G2.out, NX.out⟩
              case measure => simp [intOf]; omega
          · have hkn : n = k := by omega
            subst hkn
            have HT := Lib.hid (List.take_of_length_le (show l.length ≤ n by rw [HN.out]; exact Nat.le_refl _))
            rw [HT.out] at hno hszk ⊢
            have hno2 := hno
            have R1 := Lib.hid (R0.out.trans (if_neg (by
              rintro (h | h | h)
              · exact h HSUB.out
              · exact h HKIND.out
              · rw [hno2] at h; cases h)))
            obtain ⟨S, hS⟩ : ∃ S, S = sizeN l := ⟨_, rfl⟩
            rw [← hS] at R1 hszk ⊢
            have HS := Lib.hid hS
            have GZ2 := Lib.hid hg
            have G2 := Lib.hid (grown_trans GX.out hg)
            clear hno hno2 hS hg hk hlt
            by_cases hbig : 256 < n
            · have R := Lib.hid (R1.out.trans (if_pos (.inl hbig)))
              have hd : decide ((256 : Int) < n) = true := by simp; omega
              go_wp2
              go_ret2
              rw [R.out]
              exact mkOut_nil G2.out
            · have hd : decide ((256 : Int) < n) = false := by simp; omega
              by_cases hlong : 1048576 < 32 + S
              · have R := Lib.hid (R1.out.trans (if_pos (.inr hlong)))
                have hd2 : decide ((1048576 : Int) < 32 + S) = true := by simp; omega
                go_wp2
                go_ret2
                rw [R.out]
                exact mkOut_nil G2.out
              · have R := Lib.hid (R1.out.trans (if_neg (by omega)))
                have hd2 : decide ((1048576 : Int) < 32 + S) = false := by simp; omega
                have hB2 : wr.heap[w.heap.size]? = some (.cells #[.int .i64 sub, .int .i64 kind, .int .u32 flags] 27 (0, 0)) := (GZ2.out.block _ (lt_of_block HB.out) (by simp)).trans HB.out
                have d0 : wr.cell? ⟨w.heap.size, 0, none⟩ = some (.int .i64 sub) := by rw [cell_of hB2]; rfl
                have d1 : wr.cell? ⟨w.heap.size, 1, none⟩ = some (.int .i64 kind) := by rw [cell_of hB2]; rfl
                have d2 : wr.cell? ⟨w.heap.size, 2, none⟩ = some (.int .u32 flags) := by rw [cell_of hB2]; rfl
                have E8 := Lib.hid (eight_ints wr 4277009103 16777228 sub kind n S flags 0)
                have gE := grown1 wr (.cells #[.int .i64 4277009103, .int .i64 16777228, .int .i64 sub, .int .i64 kind, .int .i64 (n : Int), .int .i64 (S : Int), .int .i64 flags, .int .i64 0] 3)
                have GE := Lib.hid (grown_trans G2.out gE)
                have W8 := Lib.hid (show ∀ x ∈ [4277009103, 16777228, sub, kind, (n : Int), (S : Int), flags, 0], 0 ≤ x ∧ x < 4294967296 by
                  intro x hx
                  simp at hx
                  omega)
                have hS20 : S ≤ 1048544 := by omega
                obtain ⟨wo, hwo⟩ : ∃ wo : World, wo = wr.alloc (.cells #[.int .i64 4277009103, .int .i64 16777228, .int .i64 sub, .int .i64 kind, .int .i64 (n : Int), .int .i64 (S : Int), .int .i64 flags, .int .i64 0] 3) := ⟨_, rfl⟩
                have hlt8 : wr.heap.size < wo.heap.size := by rw [hwo]; simp
                rw [← hwo] at E8 GE
                clear hB2 gE hlong hbig
                go_upto_region 13 with fail
                rw [← hwo]
                clear hwo d0 d1 d2
                obtain ⟨ws, hws⟩ : ∃ ws : List Int, ws = [4277009103, 16777228, sub, kind, (n : Int), (S : Int), flags, 0] := ⟨_, rfl⟩
                rw [← hws] at E8 W8
                have hw8 : ws.length = 8 := by rw [hws]; rfl
                have HD : Hid (puts4 ws = headN sub kind n S flags) := Lib.hid (by rw [hws]; rfl)
                have HW8 := Lib.hid hw8
                have B8 := Lib.hid hlt8
                clear hws hw8 hlt8
                go_wp2
                go_loopw [9, 10] (fun v i wv => ∃ t : Nat, t ≤ 8 ∧ i = .int .i64 t ∧ wv.ownsRow wo.heap.size 5 1 v (4 * t) ((puts4 (ws.take t)).map (Value.int .u8)) ∧ wo.grownBy wv none) (fun _ i _ => 8 - (intOf i).toNat)
                case atStart => exact ⟨0, by omega, rfl, World.ownsRow_nil _ _ _ _, grown_refl _ _⟩
                case round =>
                  obtain ⟨t, ht, rfl, hown, hg⟩ := hrel
                  obtain ⟨qv, cv, rfl⟩ := own_slice hown
                  by_cases ht8 : t < 8
                  · obtain ⟨x, hx⟩ : ∃ x, ws[t]? = some x := ⟨_, List.getElem?_eq_getElem (by rw [HW8.out]; exact ht8)⟩
                    obtain ⟨b8, o8, e8, hc8⟩ := (E8.out.grown hg) (by rw [HW8.out]; omega)
                    injection e8 with e8
                    injection e8 with e81 e82
                    subst e81 e82
                    have cx := hc8 t x hx
                    rw [Nat.zero_add] at cx
                    have PT := Lib.hid (puts4_take hx)
                    have PU := Lib.hid (refput_any (w := wr) x (W8.out x (List.mem_of_getElem? hx)))
                    have OW := Lib.hid hown
                    have G := Lib.hid hg
                    clear hc8 hx hown hg
                    go_wp2_with fail
                    refine PU.out.mono ?_
                    rintro e w6 ⟨g6, rfl, hb6, hg6⟩
                    have OA := Lib.hid (own_grown OW.out hg6)
                    have GA := Lib.hid (grown_trans G.out hg6)
                    have B6 := Lib.hid hb6
                    have BZ := Lib.hid GA.out.size
                    clear hb6 hg6 cx
                    go_wp2_with (at_builtin; refine wp_append_bytes rfl _ _ rfl rfl _ _ _ rfl OA.out (le4 x) 4 (le4_len x) rfl B6.out (by omega) BZ.out ?_)
                    intro v' w7 ho7 hg7
                    have E1 := Lib.hid (show w7.ownsRow wo.heap.size 5 1 v' (4 * (t + 1)) ((puts4 (ws.take (t + 1))).map (Value.int .u8)) by
                      rw [PT.out, List.map_append]
                      exact ho7)
                    have E2 := Lib.hid (grown_own GA.out hg7 (fun g hg => (OA.out.lt g hg).1) (Nat.le_refl _))
                    clear ho7 hg7
                    go_wp2
                    go_roundw
                    case rel => exact ⟨t + 1, by omega, by go_num, E1.out, E2.out⟩
                    case measure => simp [intOf]; omega
                  · have ht : t = 8 := by omega
                    subst ht
                    have hl4 : (puts4 (ws.take 8)).length = 4 * 8 := by rw [puts4_len, List.length_take, HW8.out, Nat.min_self]
                    obtain ⟨g, rfl, hO⟩ := OwnM.of_own (by omega) hl4 hown
                    rw [List.take_of_length_le (by rw [HW8.out]; exact Nat.le_refl _), HD.out] at hO
                    obtain ⟨H, hH⟩ : ∃ H, H = headN sub kind n S flags := ⟨_, rfl⟩
                    rw [← hH] at R hO
                    have hHl : H.length = 32 := by rw [hH]; rfl
                    have hO0 : OwnM wr wo.heap.size g (laidN H l 0).length cv (laidN H l 0) := by
                      have e : laidN H l 0 = H := by simp [laidN]
                      rw [e, hHl]
                      exact hO
                    have hL0 : 32 = (laidN H l 0).length := by simp [laidN, hHl]
                    have LL := Lib.hid (fun k => laidN_len H l k)
                    have O0 := Lib.hid hO0
                    have HL0 := Lib.hid hL0
                    have G4 := Lib.hid hg
                    clear hown hg hH hO hO0 hL0 hl4 ht8
                    rw [show ((8 : Nat) : Int) = 8 from rfl]
                    go_wp2
                    go_loopw [9, 11] (fun v i wr => ∃ k g' c' : Nat, k ≤ n ∧ i = .int .i64 k ∧ v = .slice (some ⟨g', 0, none⟩) (laidN H l k).length c' ∧ OwnM wr wo.heap.size g' (laidN H l k).length c' (laidN H l k) ∧ wo.grownBy wr none) (fun _ i _ => n - (intOf i).toNat)
                    case atStart => exact ⟨0, g, cv, Nat.zero_le _, rfl, by rw [← HL0.out], O0.out, G4.out⟩
                    case round =>
                      obtain ⟨k, g1, c1, hk, rfl, rfl, hown, hg⟩ := hrel
                      by_cases hlt : k < n
                      · obtain ⟨m, hm⟩ : ∃ m, l[k]? = some m := ⟨_, List.getElem?_eq_getElem (by rw [HN.out]; exact hlt)⟩
                        obtain ⟨b, o, rfl, hc⟩ := (HP.out.grown (grown_trans GE.out hg)) (by rw [HN.out]; omega)
                        obtain ⟨⟨y0, y1⟩, hmb⟩ := hc k m hm
                        have hlk := LL.out k
                        have hlk1 := LL.out (k + 1)
                        have hle := sizeN_le l k
                        have hle1 := sizeN_le l (k + 1)
                        rw [sizeN_take hm] at hle1 hlk1
                        rw [← HS.out] at hle hle1
                        have hsum : (laidN H l k).length + m.bytes.length ≤ 140737488355328 := by omega
                        have hlen1 : (laidN H l (k + 1)).length = (laidN H l k).length + m.bytes.length := by omega
                        have LS := Lib.hid (laidN_succ (hd := H) hm)
                        have HL1 := Lib.hid hlen1
                        obtain ⟨L, hL⟩ : ∃ L, L = (laidN H l k).length := ⟨_, rfl⟩
                        obtain ⟨Q, hQ⟩ : ∃ Q, Q = laidN H l k := ⟨_, rfl⟩
                        rw [← hL] at HL1 hsum hown
                        rw [← hQ] at LS hown
                        rw [← hL]
                        have MB := Lib.hid hmb
                        have OA := Lib.hid hown
                        have GA := Lib.hid hg
                        clear hc hm hmb hlk hlk1 hle hle1 hlen1 hown hg hL hQ
                        go_wp2_with (at_builtin; refine wp_appendM rfl _ _ rfl rfl rfl OA.out m.bytes m.bytes.length rfl rfl MB.out hsum ?_)
                        intro g5 c5 w5 ho5 hg5 _
                        have E1 := Lib.hid (show OwnM w5 wo.heap.size g5 (laidN H l (k + 1)).length c5 (laidN H l (k + 1)) by
                          rw [HL1.out, LS.out]; exact ho5)
                        have E2 := Lib.hid (grown_new GA.out hg5 OA.out.lo)
                        clear ho5 hg5
                        go_wp2
                        go_roundw
                        case rel => exact ⟨k + 1, g5, c5, by omega, by go_num, by rw [HL1.out], E1.out, E2.out⟩
                        case measure => simp [intOf]; omega
                      · have hkn : k = n := by omega
                        subst hkn
                        have OW := Lib.hid hown
                        have GR := Lib.hid (grown_trans GE.out hg)
                        have hcap := hown.most
                        have hle := hown.le
                        clear hown hg
                        go_wp2
                        go_ret2
                        rw [R.out]
                        exact ⟨⟨_, _, rfl, OW.out.bytes _, hle, by unfold maxLen at hcap; omega⟩, GR.out⟩
    · have R := Lib.hid (R0.out.trans (if_pos (.inr (.inl hkind))))
      have k1 : (kind != 2) = true := by simp; omega
      have k2 : (kind != 6) = true := by simp; omega
      have hsv : (sub != 0) = false ∨ ((sub != 0) = true ∧ (sub != 2) = false) := by
        rcases hsub with rfl | rfl
        · exact .inl rfl
        · exact .inr ⟨rfl, rfl⟩
      clear hsub hkind SB R0
      go_enter Try.func33, Try.ntmps33
      rcases hsv with s1 | ⟨s1, s2⟩
      all_goals
        go_wp2
        go_ret2
        rw [R.out]
        exact mkOut_nil GX.out
  · have R := Lib.hid (R0.out.trans (if_pos (.inl hsub)))
    have s1 : (sub != 0) = true := by simp; omega
    have s2 : (sub != 2) = true := by simp; omega
    clear hsub SB R0
    go_enter Try.func33, Try.ntmps33
    go_wp2
    go_ret2
    rw [R.out]
    exact mkOut_nil GX.out
end Go.Proofs.Ythdppaooemdmaaa
