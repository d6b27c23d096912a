import Derived.Test.YtemdbfgpimfkdaaM9
import Derived.RangeFuncRecord
import Derived.RangeFuncSeq
import Derived.RangeFuncCalls
import Derived.RangeFuncBound
import Derived.OwnWalkIn
import Derived.TacticsInMore
import Derived.Shelf.RegionOpen
/- The commands in a row of bytes, one behind the other: the closure that command.commands makes, over whatever a loop's rounds do. No condition but that the round takes what is a command, and ends where there is none. -/
namespace Go.Proofs.Ytemdbfgpimfkdaa
open Go.RowKit
variable {w w' : World}
attribute [local go_sem] Oper.semAt_some

/-- What lies in the blocks from lo up to hi lies as it lay. -/
structure Around (lo hi : Nat) (w w' : World) : Prop where
  size : w.heap.size ≤ w'.heap.size
  same : ∀ k, lo ≤ k → k < hi → w'.heap[k]? = w.heap[k]?
theorem Pen.around {lo hi a : Nat} {xs : List Int} {p : Nat} {big bad : Bool} (h : Pen w lo hi a xs p big bad) (hA : Around lo hi w w') : Pen w' lo hi a xs p big bad := by
  obtain ⟨⟨base, q, c, hc, hl, ho⟩, h1, h2, h3⟩ := h
  refine ⟨⟨base, q, c, ⟨(hA.same a h1 h2).trans hc.blk, ?_, hc.le, hc.ne, hc.big, hc.bytes⟩, hl, ho⟩, h1, h2, Nat.le_trans h3 hA.size⟩
  obtain ⟨hn, hw⟩ := hc.own
  refine ⟨hn, ?_⟩
  rcases hw with hw | ⟨g, cap, cur, hv, hbg, hg, hr⟩
  · exact .inl hw
  · refine .inr ⟨g, cap, cur, hv, hbg, ?_, hr⟩
    rw [hA.same g (Nat.le_trans hl hbg) (ho g (by rw [hv]; rfl))]
    exact hg

instance {xs : List Int} {p : Nat} : Decidable (okN xs p) := by unfold okN; infer_instance
/-- So many commands from the place p on: each one's cmd, and its bytes; none where one of them is no command. -/
def cmdsN (xs : List Int) : Nat → Nat → Option (List (Int × List Int))
  | 0, _ => some []
  | n + 1, p => if okN xs p then (cmdsN xs n (p + (szN xs p).toNat)).map (fun l => (leN ((xs.drop p).take 4), (xs.drop p).take (szN xs p).toNat) :: l) else none
def Cm.d (m : Cm) : Int × List Int := (m.cmd, m.bytes)
/-- What has come, and what is left from the place p on. -/
def Came (xs : List Int) (cnt i p : Nat) (pre : List Cm) : Prop := (i ≤ cnt ∧ pre.length = i) ∧ cmdsN xs cnt 0 = (cmdsN xs (cnt - i) p).map (pre.map Cm.d ++ ·)
theorem Came.start (xs : List Int) (cnt : Nat) : Came xs cnt 0 0 [] := by
  refine ⟨⟨Nat.zero_le _, rfl⟩, ?_⟩
  simp
theorem Came.step {xs : List Int} {cnt i p : Nat} {pre : List Cm} (h : Came xs cnt i p pre) (hi : i < cnt) (ho : okN xs p) {m : Cm} (h1 : m.cmd = leN ((xs.drop p).take 4)) (h2 : m.bytes = (xs.drop p).take (szN xs p).toNat) :
    Came xs cnt (i + 1) (p + (szN xs p).toNat) (pre ++ [m]) := by
  refine ⟨⟨hi, by rw [List.length_append, h.1.2]; rfl⟩, ?_⟩
  rw [h.2, show cnt - i = (cnt - (i + 1)) + 1 from by omega, cmdsN, if_pos ho, ← h1, ← h2, Option.map_map, List.map_append]
  congr 1
  funext l
  simp [Cm.d]
theorem Came.bad {xs : List Int} {cnt i p : Nat} {pre : List Cm} (h : Came xs cnt i p pre) (hi : i < cnt) (ho : ¬ okN xs p) : cmdsN xs cnt 0 = none := by
  rw [h.2, show cnt - i = (cnt - (i + 1)) + 1 from by omega, cmdsN, if_neg ho]
  rfl
theorem Came.done {xs : List Int} {cnt p : Nat} {pre : List Cm} (h : Came xs cnt cnt p pre) : cmdsN xs cnt 0 = some (pre.map Cm.d) := by
  rw [h.2, Nat.sub_self, cmdsN]
  simp

theorem commands_any (q : Option Addr) (n c : Nat) (cnt : Int) (w : World) :
    Calls Try.prog 42 #[.slice q n c, .int .u64 cnt] w fun e w' =>
      e = .returned (.func (.func 57) #[] #[.pointer (some ⟨w.heap.size, 0, none⟩), .pointer (some ⟨w.heap.size + 1, 0, none⟩)]) ∧
      OneAt w' w.heap.size (.slice q n c) 22 ∧ OneAt w' (w.heap.size + 1) (.int .u64 cnt) 28 ∧ w.grownBy w' none := by
  go_enter Try.func42, Try.ntmps42
  go_wp2
  go_ret
  refine ⟨rfl, ?_, ?_, grown2 _ _ _⟩
  · exact (OneAt.new w _ _).grown (grown1 _ _)
  · have := OneAt.new (w.alloc (.cells #[.slice q n c] 22)) (.int .u64 cnt) 28
    simpa using this

theorem ite_no {c : Prop} [Decidable c] {a b : Prop} (hc : ¬ c) (h : b) : if c then a else b := by rw [if_neg hc]; exact h
/-- A command that was taken: it lies in a row of its own, at or beyond the block base. -/
structure Taken (w : World) (base : Nat) (m : Cm) : Prop where
  row : ∃ g, m.q = some ⟨g, 0, none⟩ ∧ OwnM w base g m.bytes.length m.cap m.bytes
structure IterOk (P : Program) (l cnt : Nat) (J : Nat → Nat → List Cm → World → Prop) (Jx : World → Prop) : Prop where
  abides : ∀ lo hi pre A B r, J lo hi pre A → A.grownBy B r → (∀ j, r = some j → lo ≤ j ∧ j < hi) → J lo hi pre B
  yes : ∀ lo hi pre m W0 W r, J lo hi pre W0 → pre.length < cnt → hi ≤ W0.heap.size → W0.grownBy W r → (∀ j, r = some j → lo ≤ j ∧ j < hi) → Taken W W0.heap.size m → YieldAt Fence.wide 0 P l #[m.v, .nilIface] W fun e W' => e = .returned (.bool true) ∧ J lo hi (pre ++ [m]) W' ∧ Around lo hi W W'
  no : ∀ lo hi pre cmd q n c b W, J lo hi pre W → hi ≤ W.heap.size → W.cell? ⟨b, 1, none⟩ = some (.int .i64 3) → YieldAt Fence.wide 0 P l #[.agg #[.int .u32 cmd, .slice q (n : Nat) c], .iface 135 (.pointer (some ⟨b, 0, none⟩))] W fun e W' => e = .returned (.bool false) ∧ Jx W'

set_option maxHeartbeats 1600000 in
theorem iter_any (l : Nat) {q : Option Addr} {n c : Nat} {xs : List Int} {b0 b1 cnt : Nat} (hq : IsBytes w q c xs) (hn : xs.length = n) (hle : n ≤ 140737488355328) (hsm : Small xs)
    (h0 : OneAt w b0 (.slice q n c) 22) (h1 : OneAt w b1 (.int .u64 cnt) 28) (hcnt : cnt < 18446744073709551616)
    (J : Nat → Nat → List Cm → World → Prop) (Jx : World → Prop) (hJ0 : ∀ lo hi W, w.heap.size ≤ lo → lo ≤ hi → w.grownBy W none → J lo hi [] W) (hJ : IterOk Try.prog l cnt J Jx) :
    Calls Try.prog 57 #[.func (.yield l) #[] #[], .pointer (some ⟨b0, 0, none⟩), .pointer (some ⟨b1, 0, none⟩)] w fun e w' =>
      (∃ v, e = .returned v) ∧ ((∃ lo hi pre, cmdsN xs cnt 0 = some (pre.map Cm.d) ∧ J lo hi pre w') ∨ (cmdsN xs cnt 0 = none ∧ Jx w')) := by
  have PN := Lib.hid (pen_new (w := w) hq hn hle hsm false)
  have JO := Lib.hid hJ
  have J0 := Lib.hid hJ0
  have H1 := Lib.hid h1
  have a0 := h0.c
  clear hq hJ hJ0 h0 h1
  go_enter Try.func57, Try.ntmps57
  go_wp2_with fail
  refine PN.out.mono ?_
  rintro e w1 ⟨a, rfl, hp, hb⟩
  have G1 := Lib.hid (show w.grownBy w1 none from grown_below hb none)
  have c1 := (H1.out.grown G1.out).c
  have J1 := Lib.hid (J0.out w.heap.size w1.heap.size w1 (Nat.le_refl _) G1.out.size G1.out)
  have P1 := Lib.hid hp
  obtain ⟨lo, hlo⟩ : ∃ lo, lo = w.heap.size := ⟨_, rfl⟩
  obtain ⟨hi, hhi⟩ : ∃ hi, hi = w1.heap.size := ⟨_, rfl⟩
  rw [← hlo, ← hhi] at J1 P1
  clear hp hb hlo hhi a0
  go_wp2
  go_loopw [9] (fun i wr => ∃ k p pre, i = .int .u64 (k : Nat) ∧ Came xs cnt k p pre ∧ Pen wr lo hi a xs p false false ∧ J lo hi pre wr) (fun i _ => cnt - (intOf i).toNat)
  case atStart => exact ⟨0, 0, [], rfl, Came.start xs cnt, P1.out, J1.out⟩
  case round =>
    obtain ⟨k, p, pre, rfl, hcm, hp, hj⟩ := hrel
    have hk := hcm.1.1
    have hpl := hcm.1.2
    by_cases hlt : k < cnt
    · have CM := Lib.hid hcm
      have JW := Lib.hid hj
      have TK := Lib.hid (takec_any hp)
      have hsz := hp.sz
      have hlw := hp.lw
      have hup := hp.up
      clear hcm hj hp
      go_wp2_with fail
      refine TK.out.mono ?_
      rintro e w2 ht
      have JW2 := Lib.hid (JO.out.abides _ _ _ _ _ _ JW.out ht.grown (by intro j e; injection e with e; omega))
      by_cases hok : okN xs p
      · obtain ⟨g, cc, rfl, hO, hP⟩ := ht.yes hok
        have CN0 : Came xs cnt (k + 1) (p + (szN xs p).toNat) (pre ++ [⟨leN ((xs.drop p).take 4), some ⟨g, 0, none⟩, cc, (xs.drop p).take (szN xs p).toNat⟩]) := CM.out.step hlt hok rfl rfl
        have hml : ((xs.drop p).take (szN xs p).toNat).length = (szN xs p).toNat := hO.len
        obtain ⟨V, hV⟩ : ∃ V, V = leN ((xs.drop p).take 4) := ⟨_, rfl⟩
        obtain ⟨bs, hbs⟩ : ∃ bs, bs = (xs.drop p).take (szN xs p).toNat := ⟨_, rfl⟩
        obtain ⟨m, hm⟩ : ∃ m, m = (szN xs p).toNat := ⟨_, rfl⟩
        rw [← hm] at hml hO hP CN0 hbs
        rw [← hbs] at hml hO CN0
        rw [← hV] at CN0
        rw [← hV, ← hm]
        have CN := Lib.hid CN0
        have HG := Lib.hid ht.grown
        have HL := Lib.hid hml
        have CmV : (Cm.mk V (some ⟨g, 0, none⟩) cc bs).v = .agg #[.int .u32 V, .slice (some ⟨g, 0, none⟩) m cc] := by unfold Cm.v; simp only [HL.out]
        clear ht hok CN0 hml hV hbs hm
        go_wp2
        have CA := Lib.hid (show CmAt (w2.alloc (.cells #[.int .u32 V, .slice (some ⟨g, 0, none⟩) m cc] 44)).drew w2.heap.size ⟨V, some ⟨g, 0, none⟩, cc, bs⟩ from by
          unfold CmAt
          simp only [HL.out]
          exact heap_alloc_new w2 _)
        have GD : w2.grownBy (w2.alloc (.cells #[.int .u32 V, .slice (some ⟨g, 0, none⟩) m cc] 44)).drew none := grown_drewN (grown1 _ _) 1
        have PW := Lib.hid (hP.same GD)
        have GW := Lib.hid (grown_trans HG.out (grown_any GD (some a)))
        have TD := Lib.hid (show Taken (w2.alloc (.cells #[.int .u32 V, .slice (some ⟨g, 0, none⟩) m cc] 44)).drew wr.heap.size ⟨V, some ⟨g, 0, none⟩, cc, bs⟩ from
          ⟨g, rfl, by simp only [HL.out]; exact hO.grown GD⟩)
        clear hP GD hO
        refine (wpIn_wide (n := 1)).1 ?_
        refine wpIn_region_any (by kernel_rfl) ?_
        change wpAnyIn _ _ _ _ _ _ _ _ _ (World.drew _)
        refine wpAnyIn_take (i := 0) (oi := ⟨some 13, _, _, _, _, _⟩) (v := .func (.yield l) #[] #[]) rfl rfl (by kernel_rfl) (by kernel_rfl) (by kernel_rfl) (fun _ _ _ h => h) ⟨Or.inl ⟨by rfl, fun W => ?_⟩, fun _ => rfl⟩ ?_
        · go_simp
        try simp only [Act.put, List.setIfInBounds_toArray, List.set_cons_zero, List.set_cons_succ]
        refine wpAnyIn_take (i := 2) (oi := ⟨some 15, _, _, _, _, _⟩) (v := .pointer (some ⟨a, 0, none⟩)) rfl rfl (by kernel_rfl) (by kernel_rfl) (by kernel_rfl) (fun _ _ _ h => h) ⟨Or.inl ⟨by rfl, fun W => ?_⟩, fun _ => rfl⟩ ?_
        · go_simp
        try simp only [Act.put, List.setIfInBounds_toArray, List.set_cons_zero, List.set_cons_succ]
        refine wpAnyIn_ready (rs := [1, 3]) (by kernel_rfl) (by simp) ?_
        refine AllReadyIn.cons (o := ⟨some 14, _, _, _, _, _⟩) rfl (fun K hK => ?_) (AllReadyIn.cons (o := ⟨some 16, _, _, _, _, _⟩) rfl (fun K hK => ?_) AllReadyIn.nil)
        · have k0 := CA.out.c0
          have k1 := CA.out.c1
          try simp only [HL.out] at k1
          go_simp
          refine hK _ _ ?_
          clear hK K
          try simp only [Act.put, List.setIfInBounds_toArray, List.set_cons_zero, List.set_cons_succ]
          refine wpAnyIn_ready (rs := [3]) (by kernel_rfl) (by simp) ?_
          refine AllReadyIn.cons (o := ⟨some 16, _, _, _, _, _⟩) rfl (fun K hK => ?_) AllReadyIn.nil
          clear k0 k1
          go_simp
          refine ⟨trivial, (callsIn_wide.2 (wrong_no PW.out)).mono ?_⟩
          rintro e w4 ⟨rfl, rfl⟩
          obtain ⟨fn, tm, sg, bo, hy, hR⟩ := JO.out.yes lo hi pre ⟨V, some ⟨g, 0, none⟩, cc, bs⟩ _ _ _ JW.out (by omega) hsz GW.out (by intro j e; injection e with e; omega) TD.out
          have PW4 := PW.out
          rw [CmV] at hy
          refine hK _ _ ?_
          clear hK K
          try simp only [Act.put, List.setIfInBounds_toArray, List.set_cons_zero, List.set_cons_succ]
          refine wpAnyIn_ready (rs := [4]) (by kernel_rfl) (by simp) ?_
          refine AllReadyIn.cons (o := ⟨some 17, _, _, _, _, _⟩) rfl (fun K hK => ?_) AllReadyIn.nil
          go_simp
          refine hR.mono ?_
          rintro e w5 ⟨rfl, hj5, ha5⟩
          have PW5 := Pen.around PW4 ha5
          refine hK _ _ ?_
          clear hK K hR hy
          try simp only [Act.put, List.setIfInBounds_toArray, List.set_cons_zero, List.set_cons_succ]
          refine wpAnyIn_take (i := 5) (oi := ⟨some 18, _, _, _, _, _⟩) (v := .bool false) rfl rfl (by kernel_rfl) (by kernel_rfl) (by kernel_rfl) (fun _ _ _ h => h) ⟨Or.inl ⟨by rfl, fun W => ?_⟩, fun _ => rfl⟩ ?_
          · go_simp
          try simp only [Act.put, List.setIfInBounds_toArray, List.set_cons_zero, List.set_cons_succ]
          refine wpAnyIn_take (i := 6) (oi := ⟨some 19, _, _, _, _, _⟩) (v := .bool false) rfl rfl (by kernel_rfl) (by kernel_rfl) (by kernel_rfl) (fun _ _ _ h => h) ⟨Or.inl ⟨by rfl, fun W => ?_⟩, fun _ => rfl⟩ ?_
          · go_simp
          try simp only [Act.put, List.setIfInBounds_toArray, List.set_cons_zero, List.set_cons_succ]
          refine wpAnyIn_take (i := 7) (oi := ⟨some 20, _, _, _, _, _⟩) (v := .pointer (some ⟨a, 0, none⟩)) rfl rfl (by kernel_rfl) (by kernel_rfl) (by kernel_rfl) (fun _ _ _ h => h) ⟨Or.inl ⟨by rfl, fun W => ?_⟩, fun _ => rfl⟩ ?_
          · go_simp
          try simp only [Act.put, List.setIfInBounds_toArray, List.set_cons_zero, List.set_cons_succ]
          refine wpAnyIn_ready (rs := [8]) (by kernel_rfl) (by simp) ?_
          refine AllReadyIn.cons (o := ⟨some 21, _, _, _, _, _⟩) rfl (fun K hK => ?_) AllReadyIn.nil
          go_simp
          refine ⟨trivial, (callsIn_wide.2 (pen_err PW5)).mono ?_⟩
          rintro e w6 ⟨rfl, rfl⟩
          refine hK _ _ ?_
          clear hK K
          try simp only [Act.put, List.setIfInBounds_toArray, List.set_cons_zero, List.set_cons_succ]
          refine wpAnyIn_take (i := 9) (oi := ⟨some 22, _, _, _, _, _⟩) (v := .bool false) rfl rfl (by kernel_rfl) (by kernel_rfl) (by kernel_rfl) (fun _ _ _ h => h) ⟨Or.inl ⟨by rfl, fun W => ?_⟩, fun _ => rfl⟩ ?_
          · go_simp
          try simp only [Act.put, List.setIfInBounds_toArray, List.set_cons_zero, List.set_cons_succ]
          refine wpAnyIn_take (i := 10) (oi := ⟨some 23, _, _, _, _, _⟩) (v := .bool false) rfl rfl (by kernel_rfl) (by kernel_rfl) (by kernel_rfl) (fun _ _ _ h => h) ⟨Or.inl ⟨by rfl, fun W => ?_⟩, fun _ => rfl⟩ ?_
          · go_simp
          try simp only [Act.put, List.setIfInBounds_toArray, List.set_cons_zero, List.set_cons_succ]
          refine wpAnyIn_done (by kernel_rfl) ?_ _
          have R5 := Lib.hid (And.intro PW5 hj5)
          clear PW5 hj5 ha5 PW4
          go_wp2
          go_roundw
          case rel => exact ⟨k + 1, _, _, by go_num, CN.out, R5.out.1, R5.out.2⟩
          case measure => simp [intOf]; omega
        · have k0 := CA.out.c0
          have k1 := CA.out.c1
          try simp only [HL.out] at k1
          go_simp
          refine ⟨trivial, (callsIn_wide.2 (wrong_no PW.out)).mono ?_⟩
          rintro e w4 ⟨rfl, rfl⟩
          obtain ⟨fn, tm, sg, bo, hy, hR⟩ := JO.out.yes lo hi pre ⟨V, some ⟨g, 0, none⟩, cc, bs⟩ _ _ _ JW.out (by omega) hsz GW.out (by intro j e; injection e with e; omega) TD.out
          have PW4 := PW.out
          rw [CmV] at hy
          refine hK _ _ ?_
          clear hK K
          try simp only [Act.put, List.setIfInBounds_toArray, List.set_cons_zero, List.set_cons_succ]
          refine wpAnyIn_ready (rs := [1]) (by kernel_rfl) (by simp) ?_
          refine AllReadyIn.cons (o := ⟨some 14, _, _, _, _, _⟩) rfl (fun K hK => ?_) AllReadyIn.nil
          go_simp
          refine hK _ _ ?_
          clear hK K
          try simp only [Act.put, List.setIfInBounds_toArray, List.set_cons_zero, List.set_cons_succ]
          refine wpAnyIn_ready (rs := [4]) (by kernel_rfl) (by simp) ?_
          refine AllReadyIn.cons (o := ⟨some 17, _, _, _, _, _⟩) rfl (fun K hK => ?_) AllReadyIn.nil
          go_simp
          refine hR.mono ?_
          rintro e w5 ⟨rfl, hj5, ha5⟩
          have PW5 := Pen.around PW4 ha5
          refine hK _ _ ?_
          clear hK K hR hy
          try simp only [Act.put, List.setIfInBounds_toArray, List.set_cons_zero, List.set_cons_succ]
          refine wpAnyIn_take (i := 5) (oi := ⟨some 18, _, _, _, _, _⟩) (v := .bool false) rfl rfl (by kernel_rfl) (by kernel_rfl) (by kernel_rfl) (fun _ _ _ h => h) ⟨Or.inl ⟨by rfl, fun W => ?_⟩, fun _ => rfl⟩ ?_
          · go_simp
          try simp only [Act.put, List.setIfInBounds_toArray, List.set_cons_zero, List.set_cons_succ]
          refine wpAnyIn_take (i := 6) (oi := ⟨some 19, _, _, _, _, _⟩) (v := .bool false) rfl rfl (by kernel_rfl) (by kernel_rfl) (by kernel_rfl) (fun _ _ _ h => h) ⟨Or.inl ⟨by rfl, fun W => ?_⟩, fun _ => rfl⟩ ?_
          · go_simp
          try simp only [Act.put, List.setIfInBounds_toArray, List.set_cons_zero, List.set_cons_succ]
          refine wpAnyIn_take (i := 7) (oi := ⟨some 20, _, _, _, _, _⟩) (v := .pointer (some ⟨a, 0, none⟩)) rfl rfl (by kernel_rfl) (by kernel_rfl) (by kernel_rfl) (fun _ _ _ h => h) ⟨Or.inl ⟨by rfl, fun W => ?_⟩, fun _ => rfl⟩ ?_
          · go_simp
          try simp only [Act.put, List.setIfInBounds_toArray, List.set_cons_zero, List.set_cons_succ]
          refine wpAnyIn_ready (rs := [8]) (by kernel_rfl) (by simp) ?_
          refine AllReadyIn.cons (o := ⟨some 21, _, _, _, _, _⟩) rfl (fun K hK => ?_) AllReadyIn.nil
          go_simp
          refine ⟨trivial, (callsIn_wide.2 (pen_err PW5)).mono ?_⟩
          rintro e w6 ⟨rfl, rfl⟩
          refine hK _ _ ?_
          clear hK K
          try simp only [Act.put, List.setIfInBounds_toArray, List.set_cons_zero, List.set_cons_succ]
          refine wpAnyIn_take (i := 9) (oi := ⟨some 22, _, _, _, _, _⟩) (v := .bool false) rfl rfl (by kernel_rfl) (by kernel_rfl) (by kernel_rfl) (fun _ _ _ h => h) ⟨Or.inl ⟨by rfl, fun W => ?_⟩, fun _ => rfl⟩ ?_
          · go_simp
          try simp only [Act.put, List.setIfInBounds_toArray, List.set_cons_zero, List.set_cons_succ]
          refine wpAnyIn_take (i := 10) (oi := ⟨some 23, _, _, _, _, _⟩) (v := .bool false) rfl rfl (by kernel_rfl) (by kernel_rfl) (by kernel_rfl) (fun _ _ _ h => h) ⟨Or.inl ⟨by rfl, fun W => ?_⟩, fun _ => rfl⟩ ?_
          · go_simp
          try simp only [Act.put, List.setIfInBounds_toArray, List.set_cons_zero, List.set_cons_succ]
          refine wpAnyIn_done (by kernel_rfl) ?_ _
          have R5 := Lib.hid (And.intro PW5 hj5)
          clear PW5 hj5 ha5 PW4
          go_wp2
          go_roundw
          case rel => exact ⟨k + 1, _, _, by go_num, CN.out, R5.out.1, R5.out.2⟩
          case measure => simp [intOf]; omega
      · obtain ⟨cmd, q', n', c', p', rfl, hP⟩ := ht.no hok
        have CB := Lib.hid (CM.out.bad hlt hok)
        clear ht hok
        go_wp2
        have CA := Lib.hid (show CmAt (w2.alloc (.cells #[.int .u32 cmd, .slice q' n' c'] 44)).drew w2.heap.size ⟨cmd, q', c', List.replicate n' 0⟩ from by
          unfold CmAt
          simp only [List.length_replicate]
          exact heap_alloc_new w2 _)
        have HL := Lib.hid (show (List.replicate n' (0 : Int)).length = n' from List.length_replicate ..)
        have GD : w2.grownBy (w2.alloc (.cells #[.int .u32 cmd, .slice q' n' c'] 44)).drew none := grown_drewN (grown1 _ _) 1
        have PW := Lib.hid (hP.same GD)
        have JD := Lib.hid (JO.out.abides _ _ _ _ _ _ JW2.out GD (by simp))
        have SZ := Lib.hid (show hi ≤ (w2.alloc (.cells #[.int .u32 cmd, .slice q' n' c'] 44)).drew.heap.size from Nat.le_trans hP.sz GD.size)
        clear hP GD
        refine (wpIn_wide (n := 1)).1 ?_
        refine wpIn_region_any (by kernel_rfl) ?_
        change wpAnyIn _ _ _ _ _ _ _ _ _ (World.drew _)
        refine wpAnyIn_take (i := 0) (oi := ⟨some 13, _, _, _, _, _⟩) (v := .func (.yield l) #[] #[]) rfl rfl (by kernel_rfl) (by kernel_rfl) (by kernel_rfl) (fun _ _ _ h => h) ⟨Or.inl ⟨by rfl, fun W => ?_⟩, fun _ => rfl⟩ ?_
        · go_simp
        try simp only [Act.put, List.setIfInBounds_toArray, List.set_cons_zero, List.set_cons_succ]
        refine wpAnyIn_take (i := 2) (oi := ⟨some 15, _, _, _, _, _⟩) (v := .pointer (some ⟨a, 0, none⟩)) rfl rfl (by kernel_rfl) (by kernel_rfl) (by kernel_rfl) (fun _ _ _ h => h) ⟨Or.inl ⟨by rfl, fun W => ?_⟩, fun _ => rfl⟩ ?_
        · go_simp
        try simp only [Act.put, List.setIfInBounds_toArray, List.set_cons_zero, List.set_cons_succ]
        refine wpAnyIn_ready (rs := [1, 3]) (by kernel_rfl) (by simp) ?_
        refine AllReadyIn.cons (o := ⟨some 14, _, _, _, _, _⟩) rfl (fun K hK => ?_) (AllReadyIn.cons (o := ⟨some 16, _, _, _, _, _⟩) rfl (fun K hK => ?_) AllReadyIn.nil)
        · have k0 := CA.out.c0
          have k1 := CA.out.c1
          try simp only [HL.out] at k1
          go_simp
          refine hK _ _ ?_
          clear hK K
          try simp only [Act.put, List.setIfInBounds_toArray, List.set_cons_zero, List.set_cons_succ]
          refine wpAnyIn_ready (rs := [3]) (by kernel_rfl) (by simp) ?_
          refine AllReadyIn.cons (o := ⟨some 16, _, _, _, _, _⟩) rfl (fun K hK => ?_) AllReadyIn.nil
          clear k0 k1
          go_simp
          refine ⟨trivial, (callsIn_wide.2 (wrong_yes PW.out)).mono ?_⟩
          rintro e w4 ⟨b, rfl, hb, hg4⟩
          obtain ⟨fn, tm, sg, bo, hy, hR⟩ := JO.out.no lo hi pre cmd q' n' c' b w4 (JO.out.abides _ _ _ _ _ _ JD.out hg4 (by simp)) (Nat.le_trans SZ.out hg4.size) hb
          have k0 := (CA.out.grown hg4).c0
          have k1 := (CA.out.grown hg4).c1
          try simp only [HL.out] at k1
          refine hK _ _ ?_
          clear hK K
          try simp only [Act.put, List.setIfInBounds_toArray, List.set_cons_zero, List.set_cons_succ]
          refine wpAnyIn_ready (rs := [4]) (by kernel_rfl) (by simp) ?_
          refine AllReadyIn.cons (o := ⟨some 17, _, _, _, _, _⟩) rfl (fun K hK => ?_) AllReadyIn.nil
          go_simp
          refine hR.mono ?_
          rintro e w5 ⟨rfl, hx⟩
          refine hK _ _ ?_
          clear hK K hR hy
          try simp only [Act.put, List.setIfInBounds_toArray, List.set_cons_zero, List.set_cons_succ]
          refine wpAnyIn_take (i := 5) (oi := ⟨some 18, _, _, _, _, _⟩) (v := .bool true) rfl rfl (by kernel_rfl) (by kernel_rfl) (by kernel_rfl) (fun _ _ _ h => h) ⟨Or.inl ⟨by rfl, fun W => ?_⟩, fun _ => rfl⟩ ?_
          · go_simp
          try simp only [Act.put, List.setIfInBounds_toArray, List.set_cons_zero, List.set_cons_succ]
          refine wpAnyIn_take (i := 6) (oi := ⟨some 19, _, _, _, _, _⟩) (v := .bool true) rfl rfl (by kernel_rfl) (by kernel_rfl) (by kernel_rfl) (fun _ _ _ h => h) ⟨Or.inl ⟨by rfl, fun W => ?_⟩, fun _ => rfl⟩ ?_
          · go_simp
          try simp only [Act.put, List.setIfInBounds_toArray, List.set_cons_zero, List.set_cons_succ]
          refine wpAnyIn_ready (rs := [7]) (by kernel_rfl) (by simp) ?_
          refine AllReadyIn.cons (o := ⟨some 20, _, _, _, _, _⟩) rfl (fun K hK => ?_) AllReadyIn.nil
          refine ite_no (fun h => Bool.false_ne_true h) ⟨fun _ _ => trivial, hK _ _ ?_⟩
          clear hK K
          try simp only [Act.put, List.setIfInBounds_toArray, List.set_cons_zero, List.set_cons_succ]
          refine wpAnyIn_ready (rs := [8]) (by kernel_rfl) (by simp) ?_
          refine AllReadyIn.cons (o := ⟨some 21, _, _, _, _, _⟩) rfl (fun K hK => ?_) AllReadyIn.nil
          refine ite_no (fun h => Bool.false_ne_true h) ⟨fun _ _ => trivial, hK _ _ ?_⟩
          clear hK K
          try simp only [Act.put, List.setIfInBounds_toArray, List.set_cons_zero, List.set_cons_succ]
          refine wpAnyIn_ready (rs := [9]) (by kernel_rfl) (by simp) ?_
          refine AllReadyIn.cons (o := ⟨some 22, _, _, _, _, _⟩) rfl (fun K hK => ?_) AllReadyIn.nil
          refine ite_no (fun h => Bool.false_ne_true h) ⟨fun _ _ => trivial, hK _ _ ?_⟩
          clear hK K
          try simp only [Act.put, List.setIfInBounds_toArray, List.set_cons_zero, List.set_cons_succ]
          refine wpAnyIn_take (i := 10) (oi := ⟨some 23, _, _, _, _, _⟩) (v := .bool true) rfl rfl (by kernel_rfl) (by kernel_rfl) (by kernel_rfl) (fun _ _ _ h => h) ⟨Or.inl ⟨by rfl, fun W => ?_⟩, fun _ => rfl⟩ ?_
          · go_simp
          try simp only [Act.put, List.setIfInBounds_toArray, List.set_cons_zero, List.set_cons_succ]
          refine wpAnyIn_done (by kernel_rfl) ?_ _
          go_wp2
          refine bodyPost_ret (results_none rfl _ _ _) rfl ?_
          exact ⟨⟨_, rfl⟩, .inr ⟨CB.out, hx⟩⟩
        · skip
          go_simp
          refine ⟨trivial, (callsIn_wide.2 (wrong_yes PW.out)).mono ?_⟩
          rintro e w4 ⟨b, rfl, hb, hg4⟩
          obtain ⟨fn, tm, sg, bo, hy, hR⟩ := JO.out.no lo hi pre cmd q' n' c' b w4 (JO.out.abides _ _ _ _ _ _ JD.out hg4 (by simp)) (Nat.le_trans SZ.out hg4.size) hb
          have k0 := (CA.out.grown hg4).c0
          have k1 := (CA.out.grown hg4).c1
          try simp only [HL.out] at k1
          refine hK _ _ ?_
          clear hK K
          try simp only [Act.put, List.setIfInBounds_toArray, List.set_cons_zero, List.set_cons_succ]
          refine wpAnyIn_ready (rs := [1]) (by kernel_rfl) (by simp) ?_
          refine AllReadyIn.cons (o := ⟨some 14, _, _, _, _, _⟩) rfl (fun K hK => ?_) AllReadyIn.nil
          go_simp
          refine hK _ _ ?_
          clear hK K
          try simp only [Act.put, List.setIfInBounds_toArray, List.set_cons_zero, List.set_cons_succ]
          refine wpAnyIn_ready (rs := [4]) (by kernel_rfl) (by simp) ?_
          refine AllReadyIn.cons (o := ⟨some 17, _, _, _, _, _⟩) rfl (fun K hK => ?_) AllReadyIn.nil
          go_simp
          refine hR.mono ?_
          rintro e w5 ⟨rfl, hx⟩
          refine hK _ _ ?_
          clear hK K hR hy
          try simp only [Act.put, List.setIfInBounds_toArray, List.set_cons_zero, List.set_cons_succ]
          refine wpAnyIn_take (i := 5) (oi := ⟨some 18, _, _, _, _, _⟩) (v := .bool true) rfl rfl (by kernel_rfl) (by kernel_rfl) (by kernel_rfl) (fun _ _ _ h => h) ⟨Or.inl ⟨by rfl, fun W => ?_⟩, fun _ => rfl⟩ ?_
          · go_simp
          try simp only [Act.put, List.setIfInBounds_toArray, List.set_cons_zero, List.set_cons_succ]
          refine wpAnyIn_take (i := 6) (oi := ⟨some 19, _, _, _, _, _⟩) (v := .bool true) rfl rfl (by kernel_rfl) (by kernel_rfl) (by kernel_rfl) (fun _ _ _ h => h) ⟨Or.inl ⟨by rfl, fun W => ?_⟩, fun _ => rfl⟩ ?_
          · go_simp
          try simp only [Act.put, List.setIfInBounds_toArray, List.set_cons_zero, List.set_cons_succ]
          refine wpAnyIn_ready (rs := [7]) (by kernel_rfl) (by simp) ?_
          refine AllReadyIn.cons (o := ⟨some 20, _, _, _, _, _⟩) rfl (fun K hK => ?_) AllReadyIn.nil
          refine ite_no (fun h => Bool.false_ne_true h) ⟨fun _ _ => trivial, hK _ _ ?_⟩
          clear hK K
          try simp only [Act.put, List.setIfInBounds_toArray, List.set_cons_zero, List.set_cons_succ]
          refine wpAnyIn_ready (rs := [8]) (by kernel_rfl) (by simp) ?_
          refine AllReadyIn.cons (o := ⟨some 21, _, _, _, _, _⟩) rfl (fun K hK => ?_) AllReadyIn.nil
          refine ite_no (fun h => Bool.false_ne_true h) ⟨fun _ _ => trivial, hK _ _ ?_⟩
          clear hK K
          try simp only [Act.put, List.setIfInBounds_toArray, List.set_cons_zero, List.set_cons_succ]
          refine wpAnyIn_ready (rs := [9]) (by kernel_rfl) (by simp) ?_
          refine AllReadyIn.cons (o := ⟨some 22, _, _, _, _, _⟩) rfl (fun K hK => ?_) AllReadyIn.nil
          refine ite_no (fun h => Bool.false_ne_true h) ⟨fun _ _ => trivial, hK _ _ ?_⟩
          clear hK K
          try simp only [Act.put, List.setIfInBounds_toArray, List.set_cons_zero, List.set_cons_succ]
          refine wpAnyIn_take (i := 10) (oi := ⟨some 23, _, _, _, _, _⟩) (v := .bool true) rfl rfl (by kernel_rfl) (by kernel_rfl) (by kernel_rfl) (fun _ _ _ h => h) ⟨Or.inl ⟨by rfl, fun W => ?_⟩, fun _ => rfl⟩ ?_
          · go_simp
          try simp only [Act.put, List.setIfInBounds_toArray, List.set_cons_zero, List.set_cons_succ]
          refine wpAnyIn_done (by kernel_rfl) ?_ _
          go_wp2
          refine bodyPost_ret (results_none rfl _ _ _) rfl ?_
          exact ⟨⟨_, rfl⟩, .inr ⟨CB.out, hx⟩⟩
    · have hkn : k = cnt := by omega
      subst hkn
      have CD := Lib.hid hcm.done
      have JW := Lib.hid hj
      clear hcm hj hp
      go_wp2
      go_end0
      exact ⟨⟨_, rfl⟩, .inl ⟨_, _, _, CD.out, JW.out⟩⟩
end Go.Proofs.Ytemdbfgpimfkdaa
