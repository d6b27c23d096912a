/- Numbers in a space: Word, SetWord. No condition. -/
import Derived.Test.YtiolcpnhabipaaaSpX
namespace Go.Proofs.Ytiolcpnhabipaaa
open Go.RowKit Go.Maps Go.ChangeMaps
variable {w w' W : World} {F : Nat → Prop} {σ : Spc}

/-- The number of so many bytes, the lowest one first. -/
def numB (b : Nat → Int) : Nat → Int
  | 0 => 0
  | k + 1 => numB b k + b k * 256 ^ k
theorem numB_bd {b : Nat → Int} (h : ∀ i, 0 ≤ b i ∧ b i < 256) : ∀ k, 0 ≤ numB b k ∧ numB b k < 256 ^ k
  | 0 => by simp [numB]
  | k + 1 => by
    obtain ⟨h1, h2⟩ := numB_bd h k
    obtain ⟨h3, h4⟩ := h k
    unfold numB
    have hp : (0 : Int) < 256 ^ k := Int.pow_pos (by omega)
    have e : (256 : Int) ^ (k + 1) = 256 * 256 ^ k := by rw [Int.pow_succ]; omega
    have h5 : b k * 256 ^ k ≤ 255 * 256 ^ k := Int.mul_le_mul_of_nonneg_right (by omega) (by omega)
    have h6 : 0 ≤ b k * 256 ^ k := Int.mul_nonneg h3 (by omega)
    rw [e]
    omega
theorem pow7 : ∀ k, k < 8 → (256 : Int) ^ k ≤ 72057594037927936 := by decide
theorem or_step {v B : Int} {k : Nat} (hk : k < 8) (hv : 0 ≤ v ∧ v < 256 ^ k) (hB : 0 ≤ B ∧ B < 256) : bits BinOp.or IntKind.u64 v (IntKind.u64.wrap (B * 2 ^ (8 * k))) = v + B * 256 ^ k := by
  have e : (2 : Int) ^ (8 * k) = 256 ^ k := by rw [Int.pow_mul]; rfl
  have hp : (0 : Int) < 256 ^ k := Int.pow_pos (by omega)
  have h1 : 0 ≤ B * 256 ^ k := Int.mul_nonneg hB.1 (by omega)
  have h2 : B * 256 ^ k < 18446744073709551616 := by
    have h5 : B * 256 ^ k ≤ 255 * 256 ^ k := Int.mul_le_mul_of_nonneg_right (by omega) (by omega)
    have h6 := pow7 k hk
    omega
  have h8 : v < 18446744073709551616 := by
    have h6 := pow7 k hk
    omega
  rw [e, u64_wrap_id _ h1 h2]
  exact bits_join_low .u64 64 (by decide) (fun n a b => wraps_u64 n a (by simpa using b)) (8 * k) v (B * 256 ^ k) hv.1 (by rw [e]; exact hv.2) (by omega) h1 (by rw [e]; exact Int.mul_emod_left _ _) (by omega)

structure WordOut (w w' : World) (σ : Spc) (at' : Nat) (e : Ending) : Prop where
  done : readErr σ at' 8 = 0 → e = .returned (.tuple #[.int .u64 (numB (fun i => σ.B (at' + i)) 8), .int .i64 0])
  left : readErr σ at' 8 ≠ 0 → e = .returned (.tuple #[.int .u64 0, .int .i64 (readErr σ at' 8)])
  grown : w.grownBy w' none

set_option maxRecDepth 20000 in
theorem word_any {a : Nat} (h : SpcAt w F a σ) (at' : Nat) (hat : at' < 18446744073709551616) :
    Calls Try.prog 21 #[.pointer (some ⟨a, 0, none⟩), .int .u64 at'] w fun e w' => WordOut w w' σ at' e := by
  have RD := Lib.hid (read_any h at' hat 8)
  have HF := Lib.hid h.fits.bytes
  clear h
  by_cases h0 : readErr σ at' 8 = 0
  · have H0 := Lib.hid h0
    clear h0
    go_enter Try.func21, Try.ntmps21
    go_wp2_with fail
    refine RD.out.mono ?_
    rintro e w1 ⟨hd, _, hg⟩
    obtain ⟨q, c, rfl, ho⟩ := hd H0.out
    have HG := Lib.hid hg
    have hq : ∃ g, q = some ⟨g, 0, none⟩ := by
      obtain ⟨_, hn | ⟨g, cap, cur, hv, _⟩⟩ := ho
      · obtain ⟨e, h0⟩ := hn
        cases h0
      · injection hv with e1 _ _
        exact ⟨g, e1⟩
    obtain ⟨g, rfl⟩ := hq
    have HC := Lib.hid (fun (k : Nat) (hk : k < 8) => (show w1.cell? ⟨g, k, none⟩ = some (.int .u8 (σ.B (at' + k))) from by
      have h1 := ho.cells (g := g) rfl k (.int .u8 (σ.B (at' + k))) (by rw [List.getElem?_map]; simp [bytesOf, hk])
      rw [add_flat, Nat.zero_add] at h1
      exact h1))
    clear hd hg ho
    go_wp2
    go_loop [8, 9, 10, 19] (fun n _ _ i => ∃ (k : Nat) (v : Int), i = .int .i64 k ∧ k ≤ 8 ∧ n = .int .u64 v ∧ v = numB (fun i => σ.B (at' + i)) k) (fun _ _ _ i => 8 - (intOf i).toNat)
    case atStart => exact ⟨0, 0, rfl, by omega, rfl, rfl⟩
    case round =>
      obtain ⟨k, v, rfl, hk, rfl, hv⟩ := hrel
      have hvb := numB_bd (b := fun i => σ.B (at' + i)) (fun i => HF.out _) k
      rw [← hv] at hvb
      by_cases hlt : k < 8
      · have hlt' : (k : Int) < 8 := by omega
        have hc := HC.out k hlt
        have hs : numB (fun i => σ.B (at' + i)) (k + 1) = numB (fun i => σ.B (at' + i)) k + σ.B (at' + k) * 256 ^ k := rfl
        have hBb := HF.out (at' + k)
        rw [← hv] at hs
        obtain ⟨B, hB⟩ : ∃ B, B = σ.B (at' + k) := ⟨_, rfl⟩
        rw [← hB] at hc hBb hs
        have hor := or_step hlt hvb hBb
        have HS := Lib.hid hs
        have HV := Lib.hid hv
        clear hB hs hv hvb
        obtain ⟨V', hV'⟩ : ∃ V', V' = v + B * 256 ^ k := ⟨_, rfl⟩
        rw [← hV'] at hor
        have HV' := Lib.hid hV'
        clear hV'
        go_wp2
        go_round
        case rel => exact ⟨k + 1, V', by go_num, by omega, rfl, by rw [HS.out, HV'.out]⟩
        case measure => simp [intOf]; omega
      · obtain rfl : k = 8 := by omega
        have HV := Lib.hid hv
        clear hv hvb
        go_wp2
        go_ret2
        exact ⟨fun _ => by rw [← HV.out]; rfl, fun h => absurd H0.out h, HG.out⟩
  · obtain ⟨er, her⟩ : ∃ er, readErr σ at' 8 = er := ⟨_, rfl⟩
    have H0 := Lib.hid h0
    have HE := Lib.hid her
    clear h0 her
    go_enter Try.func21, Try.ntmps21
    go_wp2_with fail
    refine RD.out.mono ?_
    rintro e w1 ⟨_, hl, hg⟩
    have he := hl H0.out
    rw [HE.out] at he
    subst he
    have HG := Lib.hid hg
    clear hl hg
    go_wp2
    refine wp_loop_rounds 1 ?_
    rw [rounds_succ]
    go_wp2
    go_ret2
    exact ⟨fun h => absurd h H0.out, fun _ => by rw [HE.out]; rfl, HG.out⟩
set_option maxRecDepth 20000 in
theorem word_nil (a : Nat) (w : World) : Calls Try.prog 21 #[.pointer none, .int .u64 a] w fun e w' => e = .returned (.tuple #[.int .u64 0, .int .i64 1]) ∧ w = w' := by
  go_enter Try.func21, Try.ntmps21
  go_wp2_with fail
  refine (spread_nil a 8 w).mono ?_
  rintro e w1 ⟨rfl, rfl⟩
  go_wp2
  refine wp_loop_rounds 1 ?_
  rw [rounds_succ]
  go_wp2
  go_ret2
  exact ⟨rfl, rfl⟩

/-- A number's eight bytes. -/
def wordL (n : Nat) : List Int := (List.range 8).map fun i => ((n / 256 ^ i % 256 : Nat) : Int)
theorem wordL_len (n : Nat) : (wordL n).length = 8 := by simp [wordL]
theorem wordL_bytes (n : Nat) : ∀ x ∈ wordL n, 0 ≤ x ∧ x < 256 := by
  intro x hx
  obtain ⟨i, _, rfl⟩ := List.mem_map.1 hx
  omega
def wordArr (n : Nat) : Array Value := #[.int .u8 ((n : Int) % 256), .int .u8 ((n : Int) / 256 % 256), .int .u8 ((n : Int) / 65536 % 256), .int .u8 ((n : Int) / 16777216 % 256), .int .u8 ((n : Int) / 4294967296 % 256), .int .u8 ((n : Int) / 1099511627776 % 256), .int .u8 ((n : Int) / 281474976710656 % 256), .int .u8 ((n : Int) / 72057594037927936)]
theorem wordArr_get (n : Nat) (hn : n < 18446744073709551616) : ∀ i, i < 8 → (wordArr n)[i]? = some (.int .u8 ((wordL n).getD i 0)) := by
  intro i hi
  have e : (wordL n).getD i 0 = ((n / 256 ^ i % 256 : Nat) : Int) := by simp [wordL, hi]
  rw [e]
  match i, hi with
  | 0, _ => simp [wordArr]
  | 1, _ => simp [wordArr]
  | 2, _ => simp [wordArr]
  | 3, _ => simp [wordArr]
  | 4, _ => simp [wordArr]
  | 5, _ => simp [wordArr]
  | 6, _ => simp [wordArr]
  | 7, _ => rw [show n / 256 ^ 7 % 256 = n / 72057594037927936 by omega]; simp [wordArr]
set_option maxRecDepth 20000 in
set_option maxHeartbeats 800000 in
theorem setWord_any {a : Nat} (h : SpcAt w F a σ) (hF : ∀ k, F k → k < w.heap.size) (at' : Nat) (hat : at' < 18446744073709551616) (n : Nat) (hn : n < 18446744073709551616) :
    Calls Try.prog 24 #[.pointer (some ⟨a, 0, none⟩), .int .u64 at', .int .u64 n] w fun e w' => PutOut w w' F a σ at' (wordL n) 2 e := by
  have g1 := grown1 w (.cells (wordArr n) 84)
  have WR := Lib.hid (write_any (w := w.alloc (.cells (wordArr n) 84)) (h.kept (Chg.of_grown g1 (F := fun _ => False) (fun _ h => by cases h)) (fun _ _ h => h)) at' hat (wordL n) 8 (wordL_len n) (some ⟨w.heap.size, 0, none⟩) 8 (by omega) (by omega) (wordL_bytes n)
    ⟨fun h => (by cases h), fun _ => ⟨w.heap.size, 0, rfl, by simp, fun h => by have := hF _ h; omega, fun i hi => by
      rw [wordL_len] at hi
      rw [cell_of (heap_alloc_new w _), Nat.zero_add]
      exact wordArr_get n hn i hi⟩⟩ (fun k hk => by have := hF k hk; simp; omega))
  have CG := Lib.hid (Chg.of_grown (F := F) g1 (fun _ h => by cases h))
  unfold wordArr at WR CG
  clear h hF g1
  go_enter Try.func24, Try.ntmps24
  go_wp2
  refine wp_loop_rounds 9 ?_
  rw [rounds_succ]
  go_wp2
  rw [rounds_succ]
  go_wp2
  rw [rounds_succ]
  go_wp2
  rw [rounds_succ]
  go_wp2
  rw [rounds_succ]
  go_wp2
  rw [rounds_succ]
  go_wp2
  rw [rounds_succ]
  go_wp2
  rw [rounds_succ]
  go_wp2
  rw [rounds_succ]
  go_wp2_with fail
  refine WR.out.mono ?_
  rintro e w1 ⟨rfl, h1, h2, h3⟩
  have H := Lib.hid (And.intro h1 (And.intro h2 (CG.out.trans h3)))
  clear h1 h2 h3
  obtain ⟨er, her⟩ : ∃ er, mayErr σ at' (wordL n).length 2 = er := ⟨_, rfl⟩
  rw [her]
  have HE := Lib.hid her
  clear her
  go_wp2
  go_ret
  exact ⟨by rw [HE.out]; rfl, H.out.1, H.out.2.1, H.out.2.2⟩
end Go.Proofs.Ytiolcpnhabipaaa
