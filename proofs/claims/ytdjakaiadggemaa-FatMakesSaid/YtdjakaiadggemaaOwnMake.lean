/- The fat file of parts: the program's own call. No condition but that there are few bytes in each part. -/
import Derived.Test.YtdjakaiadggemaaOwnSeats
import Derived.Test.YtdjakaiadggemaaZeros
namespace Go.Proofs.Ytdjakaiadggemaa
open Go.RowKit
variable {w w' : World}

def mg (wide : Bool) : List Int := if wide then [202, 254, 186, 191] else [202, 254, 186, 190]
theorem mg_text (wide : Bool) : (magicOf wide).data.toList.map (fun b => (b.toNat : Int)) = mg wide := by cases wide <;> rfl
theorem mg_size (wide : Bool) : (magicOf wide).size = 4 := by cases wide <;> rfl
theorem mg_len (wide : Bool) : (mg wide).length = 4 := by cases wide <;> rfl
def e0N (wide : Bool) (n : Nat) : Int := 8 + (n : Int) * (esize wide : Nat)
def hdrN (wide : Bool) (n : Nat) (S : List Sl) (k : Nat) : List Int := mg wide ++ bigN n 4 ++ (S.take k).flatMap (putN wide)
def partsN (hdr : List Int) (S : List Sl) (l : List Mb) : Nat → List Int
  | 0 => hdr
  | k + 1 => partsN hdr S l k ++ List.replicate ((S.getD k Sl.zero).off.toNat - (partsN hdr S l k).length) 0 ++ (l.getD k Mb.zero).bytes
open Classical in
noncomputable def makeN (wide : Bool) (l : List Mb) : List Int × Int :=
  if l.length = 0 ∨ l.any Mb.odd = true then ([], 2) else
  if 32 < l.length then ([], 11) else
  if ¬ Room (e0N wide l.length) l then ([], 11) else
  if Twin (spots (e0N wide l.length) l l.length) then ([], 21) else
  (partsN (hdrN wide l.length (spots (e0N wide l.length) l l.length) l.length) (spots (e0N wide l.length) l l.length) l l.length, 0)
theorem put_any {base g m cap : Nat} {xs : List Int} (wide : Bool) (s : Sl) (hs : s.Fits) (ha : 0 ≤ s.align) (hown : OwnM w base g m cap xs) (hm : m ≤ 1000000000) :
    Calls Try.prog 35 #[shapeV wide, .slice (some ⟨g, 0, none⟩) m cap, s.v] w fun e w' => ∃ g' cap', e = .returned (.slice (some ⟨g', 0, none⟩) (m + esize wide) cap') ∧ Grew w w' base g g' (m + esize wide) cap' (xs ++ putN wide s) := by
  cases wide
  · exact put_false s hs ha hown hm
  · exact put_true s hs ha hown hm
theorem hdrN_len (wide : Bool) (n : Nat) (S : List Sl) (k : Nat) (hk : k ≤ S.length) : (hdrN wide n S k).length = 8 + k * esize wide := by
  unfold hdrN
  rw [List.length_append, List.length_append, mg_len, bigN_len]
  have : ∀ (S : List Sl), (S.flatMap (putN wide)).length = S.length * esize wide := fun S => by
    induction S with
    | nil => simp
    | cons s S ih => rw [List.flatMap_cons, List.length_append, ih, putN_len, List.length_cons, Nat.succ_mul]; omega
  rw [this, List.length_take, Nat.min_eq_left hk]
theorem hdrN_succ {wide : Bool} {n : Nat} {S : List Sl} {k : Nat} {s : Sl} (hs : S[k]? = some s) : hdrN wide n S (k + 1) = hdrN wide n S k ++ putN wide s := by
  have hk : k < S.length := by
    rcases Nat.lt_or_ge k S.length with h | h
    · exact h
    · simp [h] at hs
  rw [List.getElem?_eq_getElem hk] at hs
  injection hs with hs
  unfold hdrN
  rw [List.take_succ_eq_append_getElem hk, List.flatMap_append, hs, List.append_assoc]
  simp
theorem spots_at {e0 : Int} {l : List Mb} {n k : Nat} {m : Mb} (hk : k < n) (h : l[k]? = some m) : (spots e0 l n)[k]? = some (spot (endN e0 (l.take k)) m) := by
  unfold spots
  rw [List.getElem?_map, List.getElem?_range hk]
  simp [List.getD, h]
/-- Each part's end is where its bytes end. -/
theorem partsN_len {hdr : List Int} {e0 : Int} {l : List Mb} {n : Nat} (hn : l.length = n) (h0 : (hdr.length : Int) = e0) (k : Nat) (hk : k ≤ n) : ((partsN hdr (spots e0 l n) l k).length : Int) = endN e0 (l.take k) ∧ 0 ≤ endN e0 (l.take k) := by
  induction k with
  | zero => exact ⟨h0, by show 0 ≤ e0; omega⟩
  | succ k ih =>
    obtain ⟨h1, h2⟩ := ih (by omega)
    obtain ⟨m, hm⟩ : ∃ m, l[k]? = some m := ⟨_, List.getElem?_eq_getElem (by omega)⟩
    have hs := spots_at (e0 := e0) (n := n) (show k < n by omega) hm
    have hup := upN_bd (e := endN e0 (l.take k)) (show (0 : Int) < 2 ^ m.align.toNat from Int.pow_pos (by decide))
    rw [endN_succ hm]
    unfold partsN stepE
    rw [List.length_append, List.length_append, List.length_replicate, List.getD_eq_getElem?_getD, hs, List.getD_eq_getElem?_getD, hm]
    simp only [Option.getD_some]
    show _ ∧ _
    have e1 : (spot (endN e0 (l.take k)) m).off = upN (endN e0 (l.take k)) (2 ^ m.align.toNat) := rfl
    rw [e1]
    constructor <;> omega
theorem spots_fits {e0 : Int} {l : List Mb} (hf : ∀ m ∈ l, m.Fits) (hal : ∀ m ∈ l, 0 ≤ m.align ∧ m.align ≤ 15) (h0 : 0 ≤ e0) (hroom : Room e0 l) : ∀ s ∈ spots e0 l l.length, s.Fits ∧ 0 ≤ s.align := by
  intro s hs
  obtain ⟨i, hi, rfl⟩ := List.mem_map.1 hs
  have hi' : i < l.length := List.mem_range.1 hi
  have hm : l[i]? = some l[i] := List.getElem?_eq_getElem hi'
  have mf := hf _ (List.getElem_mem hi')
  have ma := hal _ (List.getElem_mem hi')
  have hgd : l.getD i Mb.zero = l[i] := by rw [List.getD_eq_getElem?_getD, hm]; rfl
  rw [hgd]
  have hlo : ∀ k, k ≤ l.length → 0 ≤ endN e0 (l.take k) := fun k => by
    induction k with
    | zero => intro _; show 0 ≤ e0; exact h0
    | succ k ih =>
      intro hk
      have hmk : l[k]? = some l[k] := List.getElem?_eq_getElem (by omega)
      have hup := upN_bd (e := endN e0 (l.take k)) (show (0 : Int) < 2 ^ l[k].align.toNat from Int.pow_pos (by decide))
      have := ih (by omega)
      rw [endN_succ hmk]
      unfold stepE
      omega
  have h1 := hlo i (by omega)
  have hup := upN_bd (e := endN e0 (l.take i)) (show (0 : Int) < 2 ^ l[i].align.toNat from Int.pow_pos (by decide))
  have hr := hroom i hi'
  rw [endN_succ hm] at hr
  unfold stepE at hr
  have hc := mf.cap
  have hl := mf.len
  refine ⟨⟨mf.cpu, mf.sub, ?_, ?_, mf.align⟩, ma.1⟩
  · show 0 ≤ upN (endN e0 (l.take i)) (2 ^ l[i].align.toNat) ∧ upN (endN e0 (l.take i)) (2 ^ l[i].align.toNat) < 18446744073709551616
    omega
  · show 0 ≤ (l[i].bytes.length : Int) ∧ (l[i].bytes.length : Int) < 18446744073709551616
    omega

theorem partsN_succ {hdr : List Int} {S : List Sl} {l : List Mb} {k : Nat} {s : Sl} {m : Mb} (hs : S[k]? = some s) (hm : l[k]? = some m) :
    partsN hdr S l (k + 1) = partsN hdr S l k ++ List.replicate (s.off.toNat - (partsN hdr S l k).length) 0 ++ m.bytes := by
  show partsN hdr S l k ++ List.replicate ((S.getD k Sl.zero).off.toNat - (partsN hdr S l k).length) 0 ++ (l.getD k Mb.zero).bytes = _
  rw [List.getD_eq_getElem?_getD, hs, List.getD_eq_getElem?_getD, hm]
  rfl

/-- A file, and an error: what the call tells. -/
structure MkOut (w w' : World) (r : List Int × Int) (e : Ending) : Prop where
  val : ∃ q c, e = .returned (.tuple #[.slice q r.1.length c, .int .i64 r.2]) ∧ IsBytes w' q c r.1 ∧ r.1.length ≤ c ∧ c ≤ 9223372036854775807
  grown : w.grownBy w' none
theorem mkOut_nil {k : Int} (h : w.grownBy w' none) : MkOut w w' ([], k) (.returned (.tuple #[.slice none 0 0, .int .i64 k])) :=
  ⟨⟨_, _, rfl, IsBytes.nil, Nat.zero_le _, by omega⟩, h⟩

open Classical in
set_option maxHeartbeats 1600000 in
set_option maxRecDepth 20000 in
theorem make_any (wide : Bool) (l : List Mb) (n : Nat) (hn : l.length = n) (hl : n ≤ 1000000) (p : Option Addr) (c : Nat) (hp : IsMbs w p l) (hfit : ∀ m ∈ l, m.Fits) (_hc : n ≤ c) (_hcm : c ≤ 9223372036854775807) :
    Calls Try.prog 18 #[.bool wide, .slice p n c] w fun e w' => MkOut w w' (makeN wide l) e := by
  obtain ⟨r, hrr⟩ : ∃ r, r = makeN wide l := ⟨_, rfl⟩
  rw [← hrr]
  unfold makeN at hrr
  rw [hn] at hrr
  have HN := Lib.hid hn
  have HP := Lib.hid hp
  have F := Lib.hid hfit
  by_cases h0 : n = 0
  · rw [if_pos (.inl h0)] at hrr
    have R := Lib.hid hrr
    subst h0
    clear hrr hp hfit hn
    go_enter Try.func18, Try.ntmps18
    go_wp2
    go_ret2
    rw [R.out]
    exact mkOut_nil (grown_refl _ _)
  · have hne : ((n : Int) == 0) = false := by simp; omega
    have CM := Lib.hid (containsM_any (w := w) l n hn (by omega) p c hp)
    cases hodd : l.any Mb.odd
    · rw [hodd] at CM hrr
      rw [if_neg (by simp; exact h0)] at hrr
      have hal : ∀ m ∈ l, 0 ≤ m.align ∧ m.align ≤ 15 := fun m hm => by
        have := (List.any_eq_false.1 hodd) m hm
        simpa [Mb.odd] using this
      have AL := Lib.hid hal
      by_cases h32 : 32 < n
      · rw [if_pos h32] at hrr
        have R := Lib.hid hrr
        clear hrr hp hfit hn hal hodd
        go_enter Try.func18, Try.ntmps18
        go_wp2_with fail
        refine CM.out.mono ?_
        rintro e w1 ⟨rfl, hg⟩
        have G := Lib.hid hg
        clear hg
        go_wp2
        go_ret2
        rw [R.out]
        exact mkOut_nil G.out
      · rw [if_neg h32] at hrr
        have SF := Lib.hid (fun h0 hr => spots_fits (e0 := e0N wide n) hfit hal h0 hr)
        have hes : esize wide ≤ 32 := by cases wide <;> decide
        have he0 : 0 ≤ e0N wide n := by
          unfold e0N
          have : (0 : Int) ≤ (n : Int) * (esize wide : Nat) := Int.mul_nonneg (by omega) (by omega)
          omega
        have ST := Lib.hid (fun (w1 : World) (hg : w.grownBy w1 none) => seats_any (w := w1) wide l n hn (by omega) p c (hp.grown hg) hfit hal)
        rw [show (8 + (n : Int) * (esize wide : Nat)) = e0N wide n from rfl] at ST
        clear hp hfit hn hal hodd
        unfold shapeV at ST
        go_enter Try.func18, Try.ntmps18
        go_wp2_with fail
        refine CM.out.mono ?_
        rintro e w1 ⟨rfl, hg⟩
        have G1 := Lib.hid hg
        clear hg CM
        go_wp2_with fail
        refine (shapeOf_any wide).mono ?_
        rintro e w2 ⟨rfl, hg⟩
        have hgn := grown_trans hg (grown1 w2 (.cells #[.string (magicOf wide), .int .i64 (plc wide), .int .i64 (rst wide)] 62))
        have G2 := Lib.hid (grown_trans G1.out hgn)
        have S2 := Lib.hid (show ShapeAt (w2.alloc (.cells #[.string (magicOf wide), .int .i64 (plc wide), .int .i64 (rst wide)] 62)) w2.heap.size wide from heap_alloc_new w2 _)
        clear hg hgn
        unfold shapeV
        go_wp2_with fail
        refine (ST.out _ G2.out).mono ?_
        rintro e w3 ⟨⟨hyes, hno⟩, hg⟩
        have G3 := Lib.hid (grown_trans G2.out hg)
        have S3 := Lib.hid (S2.out.kept hg (by simp))
        clear hg
        by_cases hroom : Room (e0N wide n) l
        · rw [if_neg (by simpa using hroom)] at hrr
          obtain ⟨q2, c2, rfl, hsl, hc1, hc2⟩ := hyes hroom
          have SFs := SF.out he0 hroom
          rw [HN.out] at SFs
          have TW := Lib.hid (twice_any (w := w3) (spots (e0N wide n) l n) (by rw [spots_len]; omega) (fun s hs => (SFs s hs).1) q2 c2 hsl (by rw [spots_len]; exact hc1) hc2)
          rw [spots_len] at TW
          have SL3 := Lib.hid hsl
          have SFH := Lib.hid SFs
          have RM := Lib.hid hroom
          clear hyes hno hsl SFs hroom SF
          go_wp2_with fail
          refine TW.out.mono ?_
          rintro e w4 ⟨rfl, hg⟩
          have G4 := Lib.hid (grown_trans G3.out hg)
          have S4 := Lib.hid (S3.out.kept hg (by simp))
          have SL4 := Lib.hid (SL3.out.grown hg)
          clear hg TW
          by_cases htw : Twin (spots (e0N wide n) l n)
          · rw [if_pos htw] at hrr
            rw [decide_eq_true htw]
            have R := Lib.hid hrr
            clear hrr htw
            go_wp2
            go_ret2
            rw [R.out]
            exact mkOut_nil G4.out
          · rw [if_neg htw] at hrr
            rw [decide_eq_false htw]
            have R := Lib.hid hrr
            clear hrr htw
            have hsh := S4.out
            have c0 := hsh.c0
            have hlt := lt_of_block (show w4.heap[w2.heap.size]? = _ from hsh)
            obtain ⟨cap0, w5, hcv, hown0, hg5⟩ := ownM_text (w := w4) (magicOf wide) (mg wide) (mg_text wide) (by rw [mg_size]; omega)
            rw [mg_size] at hcv hown0
            have O0 := Lib.hid hown0
            have G5 := Lib.hid hg5
            clear hown0 hg5 hsh
            go_wp2_with fail
            refine (number_any O0.out (by omega) 4 (by omega) n (by omega)).mono ?_
            rintro e w6 ⟨g6, c6, rfl, hN⟩
            have hB6 := grown_new G5.out hN.grown (Nat.le_refl _)
            have hO6 : OwnM w6 w4.heap.size g6 (8 + 0 * esize wide) c6 (hdrN wide n (spots (e0N wide n) l n) 0) := by
              have := hN.own
              rw [Nat.zero_mul]
              simpa [hdrN] using this
            have SLN := spots_len (e0N wide n) l n
            have MM := Lib.hid (fun k (hk : k < n) => (⟨_, List.getElem?_eq_getElem (by rw [HN.out]; exact hk)⟩ : ∃ m, l[k]? = some m))
            obtain ⟨S, hS⟩ : ∃ S, S = spots (e0N wide n) l n := ⟨_, rfl⟩
            rw [← hS] at SL4 SFH R hO6 SLN
            have HS := Lib.hid hS
            clear hN c0 hlt hcv O0 G5 hS SL3 S3 G3
            go_wp2
            go_loopw [9, 45] (fun v i wr => ∃ k g' cap' : Nat, k ≤ n ∧ i = .int .i64 k ∧ v = .slice (some ⟨g', 0, none⟩) (8 + k * esize wide) cap' ∧ OwnM wr w4.heap.size g' (8 + k * esize wide) cap' (hdrN wide n S k) ∧ w4.grownBy wr none) (fun _ i _ => n - (intOf i).toNat)
            case atStart => exact ⟨0, g6, c6, Nat.zero_le _, rfl, by rw [Nat.zero_mul], hO6, hB6⟩
            case round =>
              obtain ⟨k, g1, c1, hk, rfl, rfl, hown, hgr⟩ := hrel
              have hke : k * esize wide ≤ 32 * 32 := Nat.mul_le_mul (by omega) hes
              by_cases hlt : k < n
              · obtain ⟨s, hs⟩ : ∃ s, S[k]? = some s := ⟨_, List.getElem?_eq_getElem (by rw [SLN]; exact hlt)⟩
                have sf := SFH.out s (List.mem_of_getElem? hs)
                obtain ⟨b, o, rfl, hcl⟩ := (SL4.out.grown hgr) (by rw [SLN]; omega)
                obtain ⟨c0, c1', c2', c3, c4⟩ := hcl k s hs
                have sh := S4.out.kept hgr (by simp)
                have d0 := sh.c0
                have d1 := sh.c1
                have d2 := sh.c2
                have hshl := lt_of_block (show wr.heap[w2.heap.size]? = _ from sh)
                have PA := Lib.hid (put_any (w := wr.alloc (.cells #[.int .u32 s.cpu, .int .u32 s.sub, .int .u64 s.off, .int .u64 s.size, .int .i64 s.align] 42)) wide s sf.1 sf.2 (hown.grown (grown1 _ _)) (by omega))
                have HK := Lib.hid (hdrN_succ (wide := wide) (n := n) hs)
                have OW := Lib.hid hown
                have GR := Lib.hid hgr
                unfold shapeV Sl.v at PA
                clear hcl sh sf hs hown hgr hO6 hB6
                go_wp2_with fail
                refine PA.out.mono ?_
                rintro e w7 ⟨g7, c7, rfl, hN⟩
                have E1 := Lib.hid (show OwnM w7 w4.heap.size g7 (8 + (k + 1) * esize wide) c7 (hdrN wide n S (k + 1)) by
                  rw [HK.out, Nat.succ_mul, ← Nat.add_assoc]; exact hN.own)
                have E2 := Lib.hid (grown_new (grown_trans GR.out (grown1 wr _)) hN.grown OW.out.lo)
                clear hN
                go_wp2
                go_roundw
                case rel => exact ⟨k + 1, g7, c7, by omega, by go_num, by rw [Nat.succ_mul, ← Nat.add_assoc], E1.out, E2.out⟩
                case measure => simp [intOf]; omega
              · have hkn : k = n := by omega
                subst hkn
                have hhl := hdrN_len wide k S k (by rw [SLN]; exact Nat.le_refl _)
                have PL := Lib.hid (fun j (hj : j ≤ k) => partsN_len (hdr := hdrN wide k S k) (e0 := e0N wide k) HN.out (by rw [hhl]; unfold e0N; omega) j hj)
                rw [← HS.out] at PL
                obtain ⟨H, hH⟩ : ∃ H, H = hdrN wide k S k := ⟨_, rfl⟩
                rw [← hH] at PL R hown hhl
                have hO0 : OwnM wr w4.heap.size g1 (partsN H S l 0).length c1 (partsN H S l 0) := by
                  show OwnM wr w4.heap.size g1 H.length c1 H
                  rw [hhl]; exact hown
                have hL0 : (partsN H S l 0).length = 8 + k * esize wide := hhl
                clear hH hown hO6 hB6
                have G0 := Lib.hid hgr
                have HL0 := Lib.hid hL0
                clear hgr hL0 hk hlt
                go_wp2
                go_loopw [9, 56] (fun v i wr => ∃ j g' cap' : Nat, j ≤ k ∧ i = .int .i64 j ∧ v = .slice (some ⟨g', 0, none⟩) (partsN H S l j).length cap' ∧ OwnM wr w4.heap.size g' (partsN H S l j).length cap' (partsN H S l j) ∧ w4.grownBy wr none) (fun _ i _ => k - (intOf i).toNat)
                case atStart => exact ⟨0, g1, c1, Nat.zero_le _, rfl, by rw [HL0.out], hO0, G0.out⟩
                case round =>
                  obtain ⟨j, g3, c3, hj, rfl, rfl, hown, hgr⟩ := hrel
                  obtain ⟨hpl, hp0⟩ := PL.out j hj
                  by_cases hlt : j < k
                  · obtain ⟨m, hm⟩ := MM.out j hlt
                    have hs : S[j]? = some (spot (endN (e0N wide k) (l.take j)) m) := by rw [HS.out]; exact spots_at hlt hm
                    have hup := upN_bd (e := endN (e0N wide k) (l.take j)) (show (0 : Int) < 2 ^ m.align.toNat from Int.pow_pos (by decide))
                    have hrm := RM.out j (by rw [HN.out]; exact hlt)
                    rw [endN_succ hm] at hrm
                    unfold stepE at hrm
                    have PS := Lib.hid (partsN_succ (hdr := H) hs hm)
                    have hso : (spot (endN (e0N wide k) (l.take j)) m).off = upN (endN (e0N wide k) (l.take j)) (2 ^ m.align.toNat) := rfl
                    have mf := F.out m (List.mem_of_getElem? hm)
                    have hml := mf.len
                    have hmc := mf.cap
                    obtain ⟨s, hss⟩ : ∃ s, s = spot (endN (e0N wide k) (l.take j)) m := ⟨_, rfl⟩
                    rw [← hss] at hs PS hso
                    rw [← hso] at hup hrm
                    obtain ⟨b, o, rfl, hcl⟩ := (SL4.out.grown hgr) (by rw [SLN]; omega)
                    obtain ⟨x0, x1, x2, x3, x4⟩ := hcl j s hs
                    obtain ⟨bm, om, rfl, hclm⟩ := HP.out (by rw [HN.out]; omega)
                    obtain ⟨⟨_, _, _, y3⟩, hmb⟩ := hclm j m hm
                    obtain ⟨L, hL⟩ : ∃ L, L = (partsN H S l j).length := ⟨_, rfl⟩
                    obtain ⟨Q, hQ⟩ : ∃ Q, Q = partsN H S l j := ⟨_, rfl⟩
                    rw [← hL] at hpl hown PS
                    rw [← hQ] at hown PS
                    rw [← hL]
                    have hle : (L : Int) ≤ s.off := by omega
                    have hl20 : (L : Int) ≤ 1048576 := by omega
                    have ho20 : s.off ≤ 1048576 := by omega
                    have hz : s.off - (L : Int) = ((s.off.toNat - L : Nat) : Int) := by omega
                    have u1 : ((L : Int) % 18446744073709551616) = L := by omega
                    have u2 : IntKind.u64.wrap (L : Int) = L := by rw [IntKind.wrap_u64]; exact u1
                    have HZ := Lib.hid hz
                    have GR := Lib.hid hgr
                    have Y3 := Lib.hid y3
                    have MB := Lib.hid hmb
                    have gX := grown1 wr (.cells #[.int .u32 s.cpu, .int .u32 s.sub, .int .u64 s.off, .int .u64 s.size, .int .i64 s.align] 42)
                    have OA := Lib.hid (hown.grown gX)
                    have GX := Lib.hid (grown_trans hgr gX)
                    have BL := Lib.hid (show (L : Int) + m.bytes.length ≤ 1048576 + 1048576 by omega)
                    have hmlen : (m.bytes.length : Int) ≤ 1048576 := by omega
                    clear hcl hclm hs hss hso hup hrm mf hown hgr hm hz hL hQ hpl hp0 y3 hmb gX hO0
                    go_wp2_with (at_builtin; refine wp_zerosM rfl _ _ rfl rfl rfl OA.out (s.off.toNat - L) ?_ rfl ?_ ?_)
                    · exact HZ.out
                    · omega
                    intro g7 c7 w7 ho7 hg7 _
                    have hW7 := grown_new GX.out hg7 OA.out.lo
                    have hA7 := grown_trans G4.out hW7
                    have z3 := grown_cell hA7 Y3.out
                    have MB7 := Lib.hid (MB.out.kept hA7 (by simp))
                    have OB := Lib.hid ho7
                    have GW := Lib.hid hW7
                    clear ho7 hg7 hW7 hA7
                    go_wp2_with (at_builtin; refine wp_appendM rfl _ _ rfl rfl rfl OB.out m.bytes m.bytes.length rfl rfl MB7.out ?_ ?_)
                    · omega
                    intro g8 c8 w8 ho8 hg8 _
                    have hlen : (partsN H S l (j + 1)).length = L + (s.off.toNat - L) + m.bytes.length := by
                      rw [PS.out, List.append_assoc]; exact ho8.len
                    have E1 := Lib.hid (show OwnM w8 w4.heap.size g8 (partsN H S l (j + 1)).length c8 (partsN H S l (j + 1)) by
                      rw [hlen, PS.out, List.append_assoc]; exact ho8)
                    have E2 := Lib.hid (grown_new GW.out hg8 OB.out.lo)
                    have HL := Lib.hid hlen
                    clear ho8 hg8 hlen
                    go_wp2
                    go_roundw
                    case rel => exact ⟨j + 1, g8, c8, by omega, by go_num, by rw [HL.out], E1.out, E2.out⟩
                    case measure => simp [intOf]; omega
                  · have hjk : j = k := by omega
                    subst hjk
                    have OW := Lib.hid hown
                    have GR := Lib.hid (grown_trans G4.out hgr)
                    have hcap := hown.most
                    have hle := hown.le
                    clear hown hgr hO0 hpl hp0
                    go_wp2
                    go_ret2
                    rw [R.out]
                    exact ⟨⟨_, _, rfl, OW.out.bytes _, hle, by unfold maxLen at hcap; omega⟩, GR.out⟩
        · rw [if_pos (by simpa using hroom)] at hrr
          have he := hno hroom
          subst he
          have R := Lib.hid hrr
          clear hrr hyes hno hroom
          go_wp2
          go_ret2
          rw [R.out]
          exact mkOut_nil G3.out
    · rw [hodd] at CM hrr
      rw [if_pos (.inr rfl)] at hrr
      have R := Lib.hid hrr
      clear hrr hp hfit hn hodd
      go_enter Try.func18, Try.ntmps18
      go_wp2_with fail
      refine CM.out.mono ?_
      rintro e w1 ⟨rfl, hg⟩
      have G := Lib.hid hg
      clear hg
      go_wp2
      go_ret2
      rw [R.out]
      exact mkOut_nil G.out
end Go.Proofs.Ytdjakaiadggemaa
