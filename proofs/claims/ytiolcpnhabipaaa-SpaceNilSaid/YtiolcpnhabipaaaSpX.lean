/- What a space answers: Fill, Write, Read, Word, SetWord, Prot, whole. Conditions: bytes are bytes, and lie apart. -/
import Derived.Test.YtiolcpnhabipaaaSpV
import Derived.Lib.EndianBits
namespace Go.Proofs.Ytiolcpnhabipaaa
open Go.RowKit Go.Maps Go.ChangeMaps
variable {w w' W : World} {F : Nat → Prop} {σ : Spc}

/-- What lies in F, as far as it is there. -/
theorem SpcAt.cut {a : Nat} (h : SpcAt w F a σ) : SpcAt w (fun k => F k ∧ k < w.heap.size) a σ := by
  obtain ⟨h1, h2, mp, mq, hb, hm⟩ := h
  refine ⟨⟨h1, lt_of_block hb⟩, h2, mp, mq, hb, ?_⟩
  cases hm with
  | bare h0 hK => exact .bare h0 hK
  | full bp bq g Dp Dq hne hp hq hm fp fq fg => exact .full bp bq g Dp Dq hne hp hq hm ⟨fp, World.ownsMap.lt hp⟩ ⟨fq, World.ownsMap.lt hq⟩ fun n hn => ⟨⟨(fg n hn).1, lt_of_block (fg n hn).2⟩, (fg n hn).2⟩

structure PutOut (w w' : World) (F : Nat → Prop) (a : Nat) (σ : Spc) (at' : Nat) (xs : List Int) (p : Int) (e : Ending) : Prop where
  ret : e = .returned (.int .i64 (mayErr σ at' xs.length p))
  done : mayErr σ at' xs.length p = 0 → SpcAt w' F a (σ.put at' xs)
  left : mayErr σ at' xs.length p ≠ 0 → SpcAt w' F a σ
  chg : Chg F w w'

set_option maxRecDepth 20000 in
theorem spput_bad {a : Nat} (h : SpcAt w F a σ) (at' : Nat) (n : Nat) (q : Option Addr) (c : Nat) (hcm : n ≤ 9223372036854775807) (p : Int) (h0 : mayErr σ at' n p ≠ 0) :
    Calls Try.prog 45 #[.pointer (some ⟨a, 0, none⟩), .int .u64 at', .slice q n c, .int .i64 p] w fun e w' => e = .returned (.int .i64 (mayErr σ at' n p)) ∧ w.grownBy w' none := by
  obtain ⟨er, her⟩ : ∃ er, mayErr σ at' n p = er := ⟨_, rfl⟩
  rw [her] at h0 ⊢
  have hd : (er == 0) = false := by simpa using h0
  have hd' : (er != 0) = true := by simpa using h0
  obtain ⟨W2, hW2⟩ : ∃ W2, w.alloc (.cells #[.slice q n c] 35) = W2 := ⟨_, rfl⟩
  have hbx : OneAt W2 w.heap.size (.slice q n c) 35 := by rw [← hW2]; exact OneAt.new w _ _
  have g12 : w.grownBy W2 none := by rw [← hW2]; exact grown1 _ _
  have HS := h.kept (Chg.of_grown g12 (F := fun _ => False) (fun _ h => by cases h)) (fun _ _ h => h)
  have kb := hbx.c
  have HE := Lib.hid her
  clear her h0
  go_enter Try.func45, Try.ntmps45
  go_wp2_with fail
  refine (spmay_any HS at' n p).mono ?_
  rw [HE.out]
  rintro e w1 ⟨rfl, rfl⟩
  go_wp2
  go_ret
  exact ⟨rfl, g12⟩

theorem spput_whole {a : Nat} (h : SpcAt w F a σ) (at' : Nat) (hat : at' < 18446744073709551616) (xs : List Int) (n : Nat) (hn : xs.length = n) (q : Option Addr) (c : Nat) (hc : n ≤ c) (hcm : c ≤ 9223372036854775807) (hxs : ∀ x ∈ xs, 0 ≤ x ∧ x < 256) (p : Int) (hb : Apart w F q c xs) (hF : ∀ k, F k → k < w.heap.size) :
    Calls Try.prog 45 #[.pointer (some ⟨a, 0, none⟩), .int .u64 at', .slice q n c, .int .i64 p] w fun e w' => PutOut w w' F a σ at' xs p e := by
  by_cases h0 : mayErr σ at' n p = 0
  · refine (spput_any h at' hat xs n hn q c hc hcm hxs p hb hF h0).mono ?_
    rintro e w' ⟨rfl, h1, h2⟩
    exact ⟨by rw [hn, h0], fun _ => h1, fun h => absurd (by rw [hn]; exact h0) h, h2⟩
  · refine (spput_bad h at' n q c (by omega) p h0).mono ?_
    rintro e w' ⟨rfl, hg⟩
    exact ⟨by rw [hn], fun h => absurd (by rw [← hn]; exact h) h0, fun _ => h.kept (Chg.of_grown hg (F := fun _ => False) (fun _ h => by cases h)) (fun _ _ h => h), Chg.of_grown hg (fun _ h => by cases h)⟩

theorem fill_any {a : Nat} (h : SpcAt w F a σ) (at' : Nat) (hat : at' < 18446744073709551616) (xs : List Int) (n : Nat) (hn : xs.length = n) (q : Option Addr) (c : Nat) (hc : n ≤ c) (hcm : c ≤ 9223372036854775807) (hxs : ∀ x ∈ xs, 0 ≤ x ∧ x < 256) (hb : Apart w F q c xs) (hF : ∀ k, F k → k < w.heap.size) :
    Calls Try.prog 22 #[.pointer (some ⟨a, 0, none⟩), .int .u64 at', .slice q n c] w fun e w' => PutOut w w' F a σ at' xs 0 e := by
  have P := Lib.hid (spput_whole h at' hat xs n hn q c hc hcm hxs 0 hb hF)
  clear h hn hb hF hxs
  go_enter Try.func22, Try.ntmps22
  go_wp2_with fail
  refine P.out.mono ?_
  rintro e w1 ⟨rfl, h1, h2, h3⟩
  have H := Lib.hid (And.intro h1 (And.intro h2 h3))
  clear h1 h2 h3
  obtain ⟨er, her⟩ : ∃ er, mayErr σ at' xs.length 0 = er := ⟨_, rfl⟩
  rw [her]
  have HE := Lib.hid her
  clear her
  go_wp2
  go_ret
  exact ⟨by rw [HE.out]; rfl, H.out.1, H.out.2.1, H.out.2.2⟩
theorem write_any {a : Nat} (h : SpcAt w F a σ) (at' : Nat) (hat : at' < 18446744073709551616) (xs : List Int) (n : Nat) (hn : xs.length = n) (q : Option Addr) (c : Nat) (hc : n ≤ c) (hcm : c ≤ 9223372036854775807) (hxs : ∀ x ∈ xs, 0 ≤ x ∧ x < 256) (hb : Apart w F q c xs) (hF : ∀ k, F k → k < w.heap.size) :
    Calls Try.prog 23 #[.pointer (some ⟨a, 0, none⟩), .int .u64 at', .slice q n c] w fun e w' => PutOut w w' F a σ at' xs 2 e := by
  have P := Lib.hid (spput_whole h at' hat xs n hn q c hc hcm hxs 2 hb hF)
  clear h hn hb hF hxs
  go_enter Try.func23, Try.ntmps23
  go_wp2_with fail
  refine P.out.mono ?_
  rintro e w1 ⟨rfl, h1, h2, h3⟩
  have H := Lib.hid (And.intro h1 (And.intro h2 h3))
  clear h1 h2 h3
  obtain ⟨er, her⟩ : ∃ er, mayErr σ at' xs.length 2 = er := ⟨_, rfl⟩
  rw [her]
  have HE := Lib.hid her
  clear her
  go_wp2
  go_ret
  exact ⟨by rw [HE.out]; rfl, H.out.1, H.out.2.1, H.out.2.2⟩

def readErr (σ : Spc) (a n : Nat) : Int := if 1048576 < n then 4 else mayErr σ a n 1
structure ReadOut (w w' : World) (σ : Spc) (at' n : Nat) (e : Ending) : Prop where
  done : readErr σ at' n = 0 → ∃ q c, e = .returned (.tuple #[.slice q n c, .int .i64 0]) ∧ w'.ownsRow w.heap.size 5 1 (.slice q n c) n ((bytesOf σ at' n).map (Value.int .u8))
  left : readErr σ at' n ≠ 0 → e = .returned (.tuple #[.slice none 0 0, .int .i64 (readErr σ at' n)])
  grown : w.grownBy w' none

set_option maxRecDepth 20000 in
theorem read_any {a : Nat} (h : SpcAt w F a σ) (at' : Nat) (hat : at' < 18446744073709551616) (n : Nat) :
    Calls Try.prog 20 #[.pointer (some ⟨a, 0, none⟩), .int .u64 at', .int .u64 n] w fun e w' => ReadOut w w' σ at' n e := by
  by_cases hn : 1048576 < n
  · have hn' : (1048576 : Int) < n := by omega
    have E := Lib.hid (show readErr σ at' n = 4 from if_pos hn)
    have G := Lib.hid (grown_refl w none)
    clear h
    go_enter Try.func20, Try.ntmps20
    go_wp2
    go_ret2
    exact ⟨fun h => (by rw [E.out] at h; cases h), fun _ => by rw [E.out]; rfl, G.out⟩
  · have hn' : ¬ (1048576 : Int) < n := by omega
    have E := Lib.hid (show readErr σ at' n = mayErr σ at' n 1 from if_neg hn)
    have MA := Lib.hid (spmay_any h at' n 1)
    by_cases h0 : mayErr σ at' n 1 = 0
    · have H0 := Lib.hid h0
      have TL := Lib.hid (told_any h at' n hat (by omega) (fun h1 => (mayErr_there h0 h1).1) (fun h1 => (mayErr_there h0 h1).2))
      clear h h0
      go_enter Try.func20, Try.ntmps20
      go_wp2_with fail
      refine MA.out.mono ?_
      rw [H0.out]
      rintro e w1 ⟨rfl, rfl⟩
      go_wp2_with fail
      refine TL.out.mono ?_
      rintro e w1 ⟨q, c, rfl, ho, hg⟩
      have HO := Lib.hid (And.intro ho hg)
      clear ho hg
      go_wp2
      go_ret2
      exact ⟨fun _ => ⟨q, c, rfl, HO.out.1⟩, fun h => absurd (E.out.trans H0.out) h, HO.out.2⟩
    · obtain ⟨er, her⟩ : ∃ er, mayErr σ at' n 1 = er := ⟨_, rfl⟩
      rw [her] at h0
      have hd : (er == 0) = false := by simpa using h0
      have hd' : (er != 0) = true := by simpa using h0
      have H0 := Lib.hid her
      have HN := Lib.hid h0
      have G := Lib.hid (grown_refl w none)
      clear h h0 her
      go_enter Try.func20, Try.ntmps20
      go_wp2_with fail
      refine MA.out.mono ?_
      rw [H0.out]
      rintro e w1 ⟨rfl, rfl⟩
      go_wp2
      go_ret2
      exact ⟨fun h => absurd (H0.out.symm.trans (E.out.symm.trans h)) HN.out, fun _ => by rw [E.out, H0.out]; rfl, G.out⟩
set_option maxRecDepth 20000 in
theorem spread_nil (a n : Nat) (w : World) : Calls Try.prog 20 #[.pointer none, .int .u64 a, .int .u64 n] w fun e w' => e = .returned (.tuple #[.slice none 0 0, .int .i64 1]) ∧ w = w' := by
  go_enter Try.func20, Try.ntmps20
  go_wp2_with fail
  refine (spmay_nil a n 1 w).mono ?_
  rintro e w1 ⟨rfl, rfl⟩
  go_wp2
  go_ret2
  exact ⟨rfl, rfl⟩
theorem put_nil_any (a : Nat) (q : Option Addr) (n c : Nat) (hn : n ≤ 9223372036854775807) (p : Int) (w : World) : Calls Try.prog 45 #[.pointer none, .int .u64 a, .slice q n c, .int .i64 p] w fun e w' => e = .returned (.int .i64 1) ∧ w.grownBy w' none := by
  obtain ⟨W2, hW2⟩ : ∃ W2, w.alloc (.cells #[.slice q n c] 35) = W2 := ⟨_, rfl⟩
  have hbx : OneAt W2 w.heap.size (.slice q n c) 35 := by rw [← hW2]; exact OneAt.new w _ _
  have g12 : w.grownBy W2 none := by rw [← hW2]; exact grown1 _ _
  have kb := hbx.c
  go_enter Try.func45, Try.ntmps45
  go_wp2_with fail
  refine (spmay_nil a n p W2).mono ?_
  rintro e w1 ⟨rfl, rfl⟩
  go_wp2
  go_ret
  exact ⟨rfl, g12⟩
theorem fill_nil (a : Nat) (q : Option Addr) (n c : Nat) (hn : n ≤ 9223372036854775807) (w : World) : Calls Try.prog 22 #[.pointer none, .int .u64 a, .slice q n c] w fun e w' => e = .returned (.int .i64 1) ∧ w.grownBy w' none := by
  go_enter Try.func22, Try.ntmps22
  go_wp2_with fail
  refine (put_nil_any a q n c hn 0 w).mono ?_
  rintro e w1 ⟨rfl, hg⟩
  go_wp2
  go_ret
  exact ⟨rfl, hg⟩
theorem write_nil (a : Nat) (q : Option Addr) (n c : Nat) (hn : n ≤ 9223372036854775807) (w : World) : Calls Try.prog 23 #[.pointer none, .int .u64 a, .slice q n c] w fun e w' => e = .returned (.int .i64 1) ∧ w.grownBy w' none := by
  go_enter Try.func23, Try.ntmps23
  go_wp2_with fail
  refine (put_nil_any a q n c hn 2 w).mono ?_
  rintro e w1 ⟨rfl, hg⟩
  go_wp2
  go_ret
  exact ⟨rfl, hg⟩
set_option maxRecDepth 20000 in
theorem prot_any {a : Nat} (h : SpcAt w F a σ) (at' : Nat) (hat : at' < 18446744073709551616) : Calls Try.prog 25 #[.pointer (some ⟨a, 0, none⟩), .int .u64 at'] w fun e w' => e = .returned (.int .i64 (σ.P (at' / 4096))) ∧ w = w' := by
  obtain ⟨_, _, mp, mq, hb, hm⟩ := h
  have c1 : w.cell? ⟨a, 1, none⟩ = some mq := by rw [cell_of hb]; rfl
  have hl := hm.prot (n := at' / 4096) (by omega)
  rw [show ((at' / 4096 : Nat) : Int) = (at' : Int) / 4096 by omega] at hl
  obtain ⟨P, hP⟩ : ∃ P, σ.P (at' / 4096) = P := ⟨_, rfl⟩
  rw [hP] at hl ⊢
  clear hb hm hP
  go_enter Try.func25, Try.ntmps25
  go_wp2
  go_ret
  exact ⟨rfl, rfl⟩
end Go.Proofs.Ytiolcpnhabipaaa
