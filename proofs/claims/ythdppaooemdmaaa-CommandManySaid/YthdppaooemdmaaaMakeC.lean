/- A header and commands, as bytes: the program's own call, whole. No condition but that there are at most a million commands. -/
import Derived.Test.YthdppaooemdmaaaMakeCm
namespace Go.Proofs.Ythdppaooemdmaaa
open Go.RowKit
variable {w w' : World}

def headN (sub kind : Int) (many size : Nat) (flags : Int) : List Int := puts4 [4277009103, 16777228, sub, kind, many, size, flags, 0]
theorem headN_len (sub kind : Int) (many size : Nat) (flags : Int) : (headN sub kind many size flags).length = 32 := rfl
def laidN (hd : List Int) (l : List Cm) (k : Nat) : List Int := hd ++ (l.take k).flatMap (·.bytes)
open Classical in
noncomputable def makeN (sub kind flags : Int) (l : List Cm) : List Int × Int :=
  if ¬ (sub = 0 ∨ sub = 2) ∨ ¬ (kind = 2 ∨ kind = 6) ∨ l.any Cm.odd = true then ([], 2) else
  if 256 < l.length ∨ 1048576 < 32 + sizeN l then ([], 11) else
  (laidN (headN sub kind l.length (sizeN l) flags) l l.length, 0)
theorem laidN_succ {hd : List Int} {l : List Cm} {k : Nat} {m : Cm} (h : l[k]? = some m) : laidN hd l (k + 1) = laidN hd l k ++ m.bytes := by
  have hk : k < l.length := by
    rcases Nat.lt_or_ge k l.length with h1 | h1
    · exact h1
    · simp [h1] at h
  rw [List.getElem?_eq_getElem hk] at h
  injection h with h
  unfold laidN
  rw [List.take_succ_eq_append_getElem hk, List.flatMap_append, h]
  simp
theorem laidN_len (hd : List Int) (l : List Cm) (k : Nat) : (laidN hd l k).length = hd.length + sizeN (l.take k) := by
  unfold laidN sizeN
  rw [List.length_append, List.length_flatMap]
/-- A file, and an error: what the call tells. -/
structure MkOut (w w' : World) (r : List Int × Int) (e : Ending) : Prop where
  val : ∃ q c, e = .returned (.tuple #[.slice q r.1.length c, .int .i64 r.2]) ∧ IsBytes w' q c r.1 ∧ r.1.length ≤ c ∧ c ≤ 9223372036854775807
  grown : w.grownBy w' none
theorem mkOut_nil {k : Int} (h : w.grownBy w' none) : MkOut w w' ([], k) (.returned (.tuple #[.slice none 0 0, .int .i64 k])) :=
  ⟨⟨_, _, rfl, IsBytes.nil, Nat.zero_le _, by omega⟩, h⟩
theorem eight_words (w : World) (a b c d e f g h : Int) : IsU32s (w.alloc (.cells #[.int .u32 a, .int .u32 b, .int .u32 c, .int .u32 d, .int .u32 e, .int .u32 f, .int .u32 g, .int .u32 h] 25)) (some ⟨w.heap.size, 0, none⟩) [a, b, c, d, e, f, g, h] :=
  isU32s_at (ns := [a, b, c, d, e, f, g, h]) (heap_alloc_new w _)
/-- Of commands that may be each has less than 2^32 bytes. -/
theorem sizeN_bd {l : List Cm} (hfit : ∀ m ∈ l, m.Fits) (ho : l.any Cm.odd = false) : sizeN l ≤ l.length * 4294967296 := by
  induction l with
  | nil => simp [sizeN]
  | cons m l ih =>
    rw [List.any_cons, Bool.or_eq_false_iff] at ho
    have h1 := ih (fun x hx => hfit x (List.mem_cons_of_mem _ hx)) ho.2
    have h2 : mayB m.cmd m.bytes = true := by simpa [Cm.odd] using ho.1
    unfold mayB at h2
    have h3 := (of_decide_eq_true h2).2.2.2
    have h4 := leN4_bd (hfit m (List.mem_cons_self ..)).bytes 4
    have h5 : sizeN (m :: l) = m.bytes.length + sizeN l := rfl
    rw [h5, List.length_cons]
    omega

open Classical in
set_option maxHeartbeats 1600000 in
set_option maxRecDepth 20000 in
theorem make_any (sub kind flags : Int) (hfl : 0 ≤ flags ∧ flags < 4294967296) (l : List Cm) (n : Nat) (hn : l.length = n) (hl : n ≤ 1000000) (hfit : ∀ m ∈ l, m.Fits) (p : Option Addr) (c : Nat) (hp : IsCms w p l) :
    Calls Try.prog 25 #[.agg #[.int .i64 sub, .int .i64 kind, .int .u32 flags], .slice p n c] w fun e w' => MkOut w w' (makeN sub kind flags l) e := by
  obtain ⟨r, hrr⟩ : ∃ r, r = makeN sub kind flags l := ⟨_, rfl⟩
  rw [← hrr]
  unfold makeN at hrr
  rw [hn] at hrr
  have HN := Lib.hid hn
  have HP := Lib.hid hp
  have F := Lib.hid hfit
  have SM := Lib.hid (fun (w1 : World) => submay_any (w := w1) sub)
  have KM := Lib.hid (fun (w1 : World) => kindmay_any (w := w1) kind)
  have gX := grown1 w (.cells #[.int .i64 sub, .int .i64 kind, .int .u32 flags] 27)
  have GX := Lib.hid gX
  have CC := Lib.hid (containsC_any (w := w.alloc (.cells #[.int .i64 sub, .int .i64 kind, .int .u32 flags] 27)) l n hn (by omega) hfit p c (hp.grown gX))
  have SB := Lib.hid (sizeN_bd hfit)
  have R0 := Lib.hid hrr
  clear hn hp hfit gX hrr
  by_cases hsub : sub = 0 ∨ sub = 2
  · rw [decide_eq_true hsub] at SM
    by_cases hkind : kind = 2 ∨ kind = 6
    · rw [decide_eq_true hkind] at KM
      cases hodd : l.any Cm.odd
      · rw [hodd] at CC R0
        have R1 := Lib.hid (R0.out.trans (if_neg (by simp [hsub, hkind])))
        have hsb := SB.out hodd
        have hsz : (sizeN l : Int) ≤ 4294967296000000 := by
          rw [HN.out] at hsb
          have h1 : ((sizeN l : Nat) : Int) ≤ ((n * 4294967296 : Nat) : Int) := Int.ofNat_le.2 hsb
          rw [Int.natCast_mul] at h1
          omega
        have SZ := Lib.hid (fun (w1 : World) (hg : w.grownBy w1 none) => sizeOf_any (w := w1) l n HN.out (by omega) (by omega) p c (HP.out.grown hg))
        have HSUB := Lib.hid hsub
        have HKIND := Lib.hid hkind
        have hs0 : 0 ≤ sub ∧ sub < 4294967296 := by omega
        have hk0 : 0 ≤ kind ∧ kind < 4294967296 := by omega
        obtain ⟨S, hS⟩ : ∃ S, S = sizeN l := ⟨_, rfl⟩
        rw [← hS] at R1 SZ hsz
        have WI := Lib.hid (fun w => withini_any 32 S 1048576 (by decide) ⟨by omega, by omega⟩ (by decide) w)
        have HS := Lib.hid hS
        clear hsb hS hsub hkind hodd SB R0
        go_enter Try.func25, Try.ntmps25
        go_wp2_with fail
        refine (SM.out _).mono ?_
        rintro e w1 ⟨rfl, rfl⟩
        go_wp2_with fail
        refine (KM.out _).mono ?_
        rintro e w1 ⟨rfl, rfl⟩
        go_wp2_with fail
        refine CC.out.mono ?_
        rintro e w1 ⟨rfl, hg⟩
        have GZ := Lib.hid hg
        have G1 := Lib.hid (grown_trans GX.out hg)
        clear hg CC
        go_wp2_with fail
        refine (SZ.out _ G1.out).mono ?_
        rintro e w2 ⟨rfl, hg⟩
        have GZ2 := Lib.hid (grown_trans GZ.out hg)
        have G2 := Lib.hid (grown_trans G1.out hg)
        clear hg SZ GZ
        by_cases hbig : 256 < n
        · have R := Lib.hid (R1.out.trans (if_pos (.inl hbig)))
          have hd : decide ((256 : Int) < n) = true := by simp; omega
          go_wp2
          go_ret2
          rw [R.out]
          exact mkOut_nil G2.out
        · by_cases hlong : 1048576 < 32 + S
          · have R := Lib.hid (R1.out.trans (if_pos (.inr hlong)))
            have hd : decide ((32 : Int) + S ≤ 1048576) = false := by simp; omega
            rw [hd] at WI
            clear hd
            go_wp2_with fail
            refine (WI.out _).mono ?_
            rintro e w3 ⟨rfl, rfl⟩
            go_wp2
            go_ret2
            rw [R.out]
            exact mkOut_nil G2.out
          · have R := Lib.hid (R1.out.trans (if_neg (by omega)))
            have hd : decide ((32 : Int) + S ≤ 1048576) = true := by simp; omega
            rw [hd] at WI
            clear hd
            have hB : (w.alloc (.cells #[.int .i64 sub, .int .i64 kind, .int .u32 flags] 27)).heap[w.heap.size]? = some (.cells #[.int .i64 sub, .int .i64 kind, .int .u32 flags] 27 (0, 0)) := heap_alloc_new w _
            have hB2 : w2.heap[w.heap.size]? = some (.cells #[.int .i64 sub, .int .i64 kind, .int .u32 flags] 27 (0, 0)) := (GZ2.out.block _ (lt_of_block hB) (by simp)).trans hB
            have d0 : w2.cell? ⟨w.heap.size, 0, none⟩ = some (.int .i64 sub) := by rw [cell_of hB2]; rfl
            have d1 : w2.cell? ⟨w.heap.size, 1, none⟩ = some (.int .i64 kind) := by rw [cell_of hB2]; rfl
            have d2 : w2.cell? ⟨w.heap.size, 2, none⟩ = some (.int .u32 flags) := by rw [cell_of hB2]; rfl
            have u0 : sub % 4294967296 = sub := by omega
            have u1 : kind % 4294967296 = kind := by omega
            have u2 : (n : Int) % 4294967296 = n := by omega
            have u3 : (S : Int) % 4294967296 = S := by omega
            have v0 : IntKind.u32.wrap sub = sub := by rw [IntKind.wrap_u32]; exact u0
            have v1 : IntKind.u32.wrap kind = kind := by rw [IntKind.wrap_u32]; exact u1
            have v2 : IntKind.u32.wrap (n : Int) = n := by rw [IntKind.wrap_u32]; exact u2
            have v3 : IntKind.u32.wrap (S : Int) = S := by rw [IntKind.wrap_u32]; exact u3
            have PU := Lib.hid (fun (w3 : World) (g : Nat) (h : IsU32s w3 (some ⟨g, 0, none⟩) [4277009103, 16777228, sub, kind, (n : Int), (S : Int), flags, 0]) => put_any (w := w3) [4277009103, 16777228, sub, kind, (n : Int), (S : Int), flags, 0] 8 rfl (by omega) (by omega) (by
              intro x hx
              simp at hx
              omega) _ 8 h)
            have E8 := Lib.hid (eight_words w2 4277009103 16777228 sub kind n S flags 0)
            have G3 := Lib.hid (grown_trans G2.out (grown1 w2 (.cells #[.int .u32 4277009103, .int .u32 16777228, .int .u32 sub, .int .u32 kind, .int .u32 (n : Int), .int .u32 (S : Int), .int .u32 flags, .int .u32 0] 25)))
            clear hB hB2
            go_wp2_with fail
            refine (WI.out _).mono ?_
            rintro e w3 ⟨rfl, rfl⟩
            go_wp2_with fail
            refine (PU.out _ _ E8.out).mono ?_
            rintro e w4 ⟨g, c4, rfl, ho, hg⟩
            obtain ⟨H, hH⟩ : ∃ H, H = headN sub kind n S flags := ⟨_, rfl⟩
            rw [← hH] at R
            have hHl : H.length = 32 := by rw [hH]; rfl
            have hO0 : OwnM w4 w2.heap.size g (laidN H l 0).length c4 (laidN H l 0) := by
              have e : laidN H l 0 = H := by simp [laidN]
              rw [e, hHl, hH]
              exact ho.mono (by simp)
            have hL0 : 32 = (laidN H l 0).length := by simp [laidN, hHl]
            have LL := Lib.hid (fun k => laidN_len H l k)
            have O0 := Lib.hid hO0
            have HL0 := Lib.hid hL0
            have G4 := Lib.hid (grown_trans (grown1 w2 (.cells #[.int .u32 4277009103, .int .u32 16777228, .int .u32 sub, .int .u32 kind, .int .u32 (n : Int), .int .u32 (S : Int), .int .u32 flags, .int .u32 0] 25)) hg)
            have hS20 : S ≤ 1048544 := by omega
            clear ho hg hH hO0 hL0 d0 d1 d2 u0 u1 u2 u3 v0 v1 v2 v3 PU E8 hlong
            go_wp2
            go_loopw [8, 53] (fun v i wr => ∃ k g' c' : Nat, k ≤ n ∧ i = .int .i64 k ∧ v = .slice (some ⟨g', 0, none⟩) (laidN H l k).length c' ∧ OwnM wr w2.heap.size g' (laidN H l k).length c' (laidN H l k) ∧ w2.grownBy wr none) (fun _ i _ => n - (intOf i).toNat)
            case atStart => exact ⟨0, g, c4, Nat.zero_le _, rfl, by rw [← HL0.out], O0.out, G4.out⟩
            case round =>
              obtain ⟨k, g1, c1, hk, rfl, rfl, hown, hg⟩ := hrel
              by_cases hlt : k < n
              · obtain ⟨m, hm⟩ : ∃ m, l[k]? = some m := ⟨_, List.getElem?_eq_getElem (by rw [HN.out]; exact hlt)⟩
                obtain ⟨b, o, rfl, hc⟩ := (HP.out.grown (grown_trans G2.out hg)) (by rw [HN.out]; omega)
                obtain ⟨⟨y0, y1⟩, hmb⟩ := hc k m hm
                have hlk := LL.out k
                have hlk1 := LL.out (k + 1)
                have hle := sizeN_le l k
                have hle1 := sizeN_le l (k + 1)
                rw [sizeN_take hm] at hle1 hlk1
                rw [← HS.out] at hle hle1
                have hsum : (laidN H l k).length + m.bytes.length ≤ 140737488355328 := by omega
                have hlen1 : (laidN H l (k + 1)).length = (laidN H l k).length + m.bytes.length := by omega
                have LS := Lib.hid (laidN_succ (hd := H) hm)
                have HL1 := Lib.hid hlen1
                obtain ⟨L, hL⟩ : ∃ L, L = (laidN H l k).length := ⟨_, rfl⟩
                obtain ⟨Q, hQ⟩ : ∃ Q, Q = laidN H l k := ⟨_, rfl⟩
                rw [← hL] at HL1 hsum hown
                rw [← hQ] at LS hown
                rw [← hL]
                have gm := grown1 wr (.cells #[.int .u32 m.cmd, .slice m.q m.bytes.length m.cap] 40)
                have MB := Lib.hid (hmb.kept gm (by simp))
                have OA := Lib.hid (hown.grown gm)
                have GA := Lib.hid (grown_trans hg gm)
                clear hc hm hmb hlk hlk1 hle hle1 hlen1 hown hg gm hL hQ O0
                go_wp2_with (at_builtin; refine wp_appendM rfl _ _ rfl rfl rfl OA.out m.bytes m.bytes.length rfl rfl MB.out hsum ?_)
                intro g5 c5 w5 ho5 hg5 _
                have E1 := Lib.hid (show OwnM w5 w2.heap.size g5 (laidN H l (k + 1)).length c5 (laidN H l (k + 1)) by
                  rw [HL1.out, LS.out]; exact ho5)
                have E2 := Lib.hid (grown_new GA.out hg5 OA.out.lo)
                clear ho5 hg5
                go_wp2
                go_roundw
                case rel => exact ⟨k + 1, g5, c5, by omega, by go_num, by rw [HL1.out], E1.out, E2.out⟩
                case measure => simp [intOf]; omega
              · have hkn : k = n := by omega
                subst hkn
                have OW := Lib.hid hown
                have GR := Lib.hid (grown_trans G2.out hg)
                have hcap := hown.most
                have hle := hown.le
                clear hown hg O0
                go_wp2
                go_ret2
                rw [R.out]
                exact ⟨⟨_, _, rfl, OW.out.bytes _, hle, by unfold maxLen at hcap; omega⟩, GR.out⟩
      · rw [hodd] at CC R0
        have R := Lib.hid (R0.out.trans (if_pos (.inr (.inr rfl))))
        clear hodd hsub hkind SB R0
        go_enter Try.func25, Try.ntmps25
        go_wp2_with fail
        refine (SM.out _).mono ?_
        rintro e w1 ⟨rfl, rfl⟩
        go_wp2_with fail
        refine (KM.out _).mono ?_
        rintro e w1 ⟨rfl, rfl⟩
        go_wp2_with fail
        refine CC.out.mono ?_
        rintro e w1 ⟨rfl, hg⟩
        have G1 := Lib.hid (grown_trans GX.out hg)
        clear hg
        go_wp2
        go_ret2
        rw [R.out]
        exact mkOut_nil G1.out
    · rw [decide_eq_false hkind] at KM
      have R := Lib.hid (R0.out.trans (if_pos (.inr (.inl hkind))))
      clear hsub hkind SB R0
      go_enter Try.func25, Try.ntmps25
      go_wp2_with fail
      refine (SM.out _).mono ?_
      rintro e w1 ⟨rfl, rfl⟩
      go_wp2_with fail
      refine (KM.out _).mono ?_
      rintro e w1 ⟨rfl, rfl⟩
      go_wp2
      go_ret2
      rw [R.out]
      exact mkOut_nil GX.out
  · rw [decide_eq_false hsub] at SM
    have R := Lib.hid (R0.out.trans (if_pos (.inl hsub)))
    clear hsub SB R0
    go_enter Try.func25, Try.ntmps25
    go_wp2_with fail
    refine (SM.out _).mono ?_
    rintro e w1 ⟨rfl, rfl⟩
    go_wp2
    go_ret2
    rw [R.out]
    exact mkOut_nil GX.out
end Go.Proofs.Ythdppaooemdmaaa
