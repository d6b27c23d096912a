import Derived.Test.YtdagnkdonlfobaaGreatM5
import Derived.RangeFuncRecord
import Derived.RangeFuncSeq
import Derived.RangeFuncCalls
import Derived.RangeFuncBound
import Derived.OwnWalkIn
import Derived.TacticsInMore
import Derived.Shelf.RegionOpen
import Derived.Maps.AppendAt
import Derived.Laws.Rows
import Derived.Test.YtdagnkdonlfobaaGreatM1
import Derived.Test.YtdagnkdonlfobaaGreatM3
/- The commands in a row of bytes, one behind the other: the closure that command.commands makes, over whatever a loop's rounds do. No condition but that the round takes what is a command, and ends where there is none. -/
namespace Go.Proofs.YtdagnkdonlfobaaGreat
open Go.RowKit
variable {w w' : World}
attribute [local go_sem] Oper.semAt_some

/-- What lies in the blocks from lo up to hi lies as it lay. -/
structure Around (lo hi : Nat) (w w' : World) : Prop where
  size : w.heap.size ≤ w'.heap.size
  same : ∀ k, lo ≤ k → k < hi → w'.heap[k]? = w.heap[k]?
theorem Pen.around {lo hi a : Nat} {xs : List Int} {p : Nat} {big bad : Bool} (h : Pen w lo hi a xs p big bad) (hA : Around lo hi w w') : Pen w' lo hi a xs p big bad := by
  obtain ⟨⟨base, q, c, hc, hl, ho⟩, h1, h2, h3⟩ := h
  refine ⟨⟨base, q, c, ⟨(hA.same a h1 h2).trans hc.blk, ?_, hc.le, hc.ne, hc.big, hc.bytes⟩, hl, ho⟩, h1, h2, Nat.le_trans h3 hA.size⟩
  obtain ⟨hn, hw⟩ := hc.own
  refine ⟨hn, ?_⟩
  rcases hw with hw | ⟨g, cap, cur, hv, hbg, hg, hr⟩
  · exact .inl hw
  · refine .inr ⟨g, cap, cur, hv, hbg, ?_, hr⟩
    rw [hA.same g (Nat.le_trans hl hbg) (ho g (by rw [hv]; rfl))]
    exact hg

instance {xs : List Int} {p : Nat} : Decidable (okN xs p) := by unfold okN; infer_instance
/-- So many commands from the place p on: each one's cmd, and its bytes; none where one of them is no command. -/
def cmdsN (xs : List Int) : Nat → Nat → Option (List (Int × List Int))
  | 0, _ => some []
  | n + 1, p => if okN xs p then (cmdsN xs n (p + (szN xs p).toNat)).map (fun l => (leN ((xs.drop p).take 4), (xs.drop p).take (szN xs p).toNat) :: l) else none
def Cm.d (m : Cm) : Int × List Int := (m.cmd, m.bytes)
/-- What has come, and what is left from the place p on. -/
def Came (xs : List Int) (cnt i p : Nat) (pre : List Cm) : Prop := (i ≤ cnt ∧ pre.length = i) ∧ cmdsN xs cnt 0 = (cmdsN xs (cnt - i) p).map (pre.map Cm.d ++ ·)
theorem Came.start (xs : List Int) (cnt : Nat) : Came xs cnt 0 0 [] := by
  refine ⟨⟨Nat.zero_le _, rfl⟩, ?_⟩
  simp
theorem Came.step {xs : List Int} {cnt i p : Nat} {pre : List Cm} (h : Came xs cnt i p pre) (hi : i < cnt) (ho : okN xs p) {m : Cm} (h1 : m.cmd = leN ((xs.drop p).take 4)) (h2 : m.bytes = (xs.drop p).take (szN xs p).toNat) :
    Came xs cnt (i + 1) (p + (szN xs p).toNat) (pre ++ [m]) := by
  refine ⟨⟨hi, by rw [List.length_append, h.1.2]; rfl⟩, ?_⟩
  rw [h.2, show cnt - i = (cnt - (i + 1)) + 1 from by omega, cmdsN, if_pos ho, ← h1, ← h2, Option.map_map, List.map_append]
  congr 1
  funext l
  simp [Cm.d]
theorem Came.bad {xs : List Int} {cnt i p : Nat} {pre : List Cm} (h : Came xs cnt i p pre) (hi : i < cnt) (ho : ¬ okN xs p) : cmdsN xs cnt 0 = none := by
  rw [h.2, show cnt - i = (cnt - (i + 1)) + 1 from by omega, cmdsN, if_neg ho]
  rfl
theorem Came.done {xs : List Int} {cnt p : Nat} {pre : List Cm} (h : Came xs cnt cnt p pre) : cmdsN xs cnt 0 = some (pre.map Cm.d) := by
  rw [h.2, Nat.sub_self, cmdsN]
  simp

theorem commands_any (q : Option Addr) (n c : Nat) (cnt : Int) (w : World) :
    Calls Tryz.prog 125 #[.slice q n c, .int .u64 cnt] w fun e w' =>
      e = .returned (.func (.func 160) #[] #[.pointer (some ⟨w.heap.size, 0, none⟩), .pointer (some ⟨w.heap.size + 1, 0, none⟩)]) ∧
      OneAt w' w.heap.size (.slice q n c) 31 ∧ OneAt w' (w.heap.size + 1) (.int .u64 cnt) 33 ∧ w.grownBy w' none := by
  go_enter Tryz.func125, Tryz.ntmps125
  go_wp2
  go_ret
  refine ⟨rfl, ?_, ?_, grown2 _ _ _⟩
  · exact (OneAt.new w _ _).grown (grown1 _ _)
  · have := OneAt.new (w.alloc (.cells #[.slice q n c] 31)) (.int .u64 cnt) 33
    simpa using this

theorem ite_no {c : Prop} [Decidable c] {a b : Prop} (hc : ¬ c) (h : b) : if c then a else b := by rw [if_neg hc]; exact h
/-- A command that was taken: it lies in a row of its own, at or beyond the block base. -/
structure Taken (w : World) (base : Nat) (m : Cm) : Prop where
  row : ∃ g, m.q = some ⟨g, 0, none⟩ ∧ OwnM w base g m.bytes.length m.cap m.bytes
structure IterOk (P : Program) (l cnt : Nat) (J : Nat → Nat → List Cm → World → Prop) (Jx : World → Prop) : Prop where
  abides : ∀ lo hi pre A B r, J lo hi pre A → A.grownBy B r → (∀ j, r = some j → lo ≤ j ∧ j < hi) → J lo hi pre B
  yes : ∀ lo hi pre m W0 W r, J lo hi pre W0 → pre.length < cnt → hi ≤ W0.heap.size → W0.grownBy W r → (∀ j, r = some j → lo ≤ j ∧ j < hi) → Taken W W0.heap.size m → YieldAt Fence.wide 0 P l #[m.v, .nilIface] W fun e W' => e = .returned (.bool true) ∧ J lo hi (pre ++ [m]) W' ∧ Around lo hi W W'
  no : ∀ lo hi pre cmd q n c b W, J lo hi pre W → hi ≤ W.heap.size → W.cell? ⟨b, 1, none⟩ = some (.int .i64 3) → YieldAt Fence.wide 0 P l #[.agg #[.int .u32 cmd, .slice q (n : Nat) c], .iface 266 (.pointer (some ⟨b, 0, none⟩))] W fun e W' => e = .returned (.bool false) ∧ Jx W'

set_option maxHeartbeats 1600000 in
theorem iter_any (l : Nat) {q : Option Addr} {n c : Nat} {xs : List Int} {b0 b1 cnt : Nat} (hq : IsBytes w q c xs) (hn : xs.length = n) (hle : n ≤ 140737488355328) (hsm : Small xs)
    (h0 : OneAt w b0 (.slice q n c) 31) (h1 : OneAt w b1 (.int .u64 cnt) 33) (hcnt : cnt < 18446744073709551616)
    (J : Nat → Nat → List Cm → World → Prop) (Jx : World → Prop) (hJ0 : ∀ lo hi W, w.heap.size ≤ lo → lo ≤ hi → w.grownBy W none → J lo hi [] W) (hJ : IterOk Tryz.prog l cnt J Jx) :
    Calls Tryz.prog 160 #[.func (.yield l) #[] #[], .pointer (some ⟨b0, 0, none⟩), .pointer (some ⟨b1, 0, none⟩)] w fun e w' =>
      (∃ v, e = .returned v) ∧ ((∃ lo hi pre, cmdsN xs cnt 0 = some (pre.map Cm.d) ∧ J lo hi pre w') ∨ (cmdsN xs cnt 0 = none ∧ Jx w')) := by
  have PN := Lib.hid (pen_new (w := w) hq hn hle hsm false)
  have JO := Lib.hid hJ
  have J0 := Lib.hid hJ0
  have H1 := Lib.hid h1
  have a0 := h0.c
  clear hq hJ hJ0 h0 h1
  go_enter Tryz.func160, Tryz.ntmps160
  go_wp2_with fail
  refine PN.out.mono ?_
  rintro e w1 ⟨a, rfl, hp, hb⟩
  have G1 := Lib.hid (show w.grownBy w1 none from grown_below hb none)
  have c1 := (H1.out.grown G1.out).c
  have J1 := Lib.hid (J0.out w.heap.size w1.heap.size w1 (Nat.le_refl _) G1.out.size G1.out)
  have P1 := Lib.hid hp
  obtain ⟨lo, hlo⟩ : ∃ lo, lo = w.heap.size := ⟨_, rfl⟩
  obtain ⟨hi, hhi⟩ : ∃ hi, hi = w1.heap.size := ⟨_, rfl⟩
  rw [← hlo, ← hhi] at J1 P1
  clear hp hb hlo hhi a0
  go_wp2
  go_loopw [9] (fun i wr => ∃ k p pre, i = .int .u64 (k : Nat) ∧ Came xs cnt k p pre ∧ Pen wr lo hi a xs p false false ∧ J lo hi pre wr) (fun i _ => cnt - (intOf i).toNat)
  case atStart => exact ⟨0, 0, [], rfl, Came.start xs cnt, P1.out, J1.out⟩
  case round =>
    obtain ⟨k, p, pre, rfl, hcm, hp, hj⟩ := hrel
    have hk := hcm.1.1
    have hpl := hcm.1.2
    by_cases hlt : k < cnt
    · have CM := Lib.hid hcm
      have JW := Lib.hid hj
      have TK := Lib.hid (takec_any hp)
      have hsz := hp.sz
      have hlw := hp.lw
      have hup := hp.up
      clear hcm hj hp
      go_wp2_with fail
      refine TK.out.mono ?_
      rintro e w2 ht
      have JW2 := Lib.hid (JO.out.abides _ _ _ _ _ _ JW.out ht.grown (by intro j e; injection e with e; omega))
      by_cases hok : okN xs p
      · obtain ⟨g, cc, rfl, hO, hP⟩ := ht.yes hok
        have CN0 : Came xs cnt (k + 1) (p + (szN xs p).toNat) (pre ++ [⟨leN ((xs.drop p).take 4), some ⟨g, 0, none⟩, cc, (xs.drop p).take (szN xs p).toNat⟩]) := CM.out.step hlt hok rfl rfl
        have hml : ((xs.drop p).take (szN xs p).toNat).length = (szN xs p).toNat := hO.len
        obtain ⟨V, hV⟩ : ∃ V, V = leN ((xs.drop p).take 4) := ⟨_, rfl⟩
        obtain ⟨bs, hbs⟩ : ∃ bs, bs = (xs.drop p).take (szN xs p).toNat := ⟨_, rfl⟩
        obtain ⟨m, hm⟩ : ∃ m, m = (szN xs p).toNat := ⟨_, rfl⟩
        rw [← hm] at hml hO hP CN0 hbs
        rw [← hbs] at hml hO CN0
        rw [← hV] at CN0
        rw [← hV, ← hm]
        have CN := Lib.hid CN0
        have HG := Lib.hid ht.grown
        have HL := Lib.hid hml
        have CmV : (Cm.mk V (some ⟨g, 0, none⟩) cc bs).v = .agg #[.int .u32 V, .slice (some ⟨g, 0, none⟩) m cc] := by unfold Cm.v; simp only [HL.out]
        clear ht hok CN0 hml hV hbs hm
        go_wp2
        have CA := Lib.hid (show CmAt (w2.alloc (.cells #[.int .u32 V, .slice (some ⟨g, 0, none⟩) m cc] 109)).drew w2.heap.size ⟨V, some ⟨g, 0, none⟩, cc, bs⟩ from by
          unfold CmAt
          simp only [HL.out]
          exact heap_alloc_new w2 _)
        have GD : w2.grownBy (w2.alloc (.cells #[.int .u32 V, .slice (some ⟨g, 0, none⟩) m cc] 109)).drew none := grown_drewN (grown1 _ _) 1
        have PW := Lib.hid (hP.same GD)
        have GW := Lib.hid (grown_trans HG.out (grown_any GD (some a)))
        have TD := Lib.hid (show Taken (w2.alloc (.cells #[.int .u32 V, .slice (some ⟨g, 0, none⟩) m cc] 109)).drew wr.heap.size ⟨V, some ⟨g, 0, none⟩, cc, bs⟩ from
          ⟨g, rfl, by simp only [HL.out]; exact hO.grown GD⟩)
        clear hP GD hO
        refine (wpIn_wide (n := 1)).1 ?_
        refine wpIn_region_any (by kernel_rfl) ?_
        change wpAnyIn _ _ _ _ _ _ _ _ _ (World.drew _)
        refine wpAnyIn_take (i := 0) (oi := ⟨some 13, _, _, _, _, _⟩) (v := .func (.yield l) #[] #[]) rfl rfl (by kernel_rfl) (by kernel_rfl) (by kernel_rfl) (fun _ _ _ h => h) ⟨Or.inl ⟨by rfl, fun W => ?_⟩, fun _ => rfl⟩ ?_
        · go_simp
        try simp only [Act.put, List.setIfInBounds_toArray, List.set_cons_zero, List.set_cons_succ]
        refine wpAnyIn_take (i := 2) (oi := ⟨some 15, _, _, _, _, _⟩) (v := .pointer (some ⟨a, 0, none⟩)) rfl rfl (by kernel_rfl) (by kernel_rfl) (by kernel_rfl) (fun _ _ _ h => h) ⟨Or.inl ⟨by rfl, fun W => ?_⟩, fun _ => rfl⟩ ?_
        · go_simp
        try simp only [Act.put, List.setIfInBounds_toArray, List.set_cons_zero, List.set_cons_succ]
        refine wpAnyIn_ready (rs := [1, 3]) (by kernel_rfl) (by simp) ?_
        refine AllReadyIn.cons (o := ⟨some 14, _, _, _, _, _⟩) rfl (fun K hK => ?_) (AllReadyIn.cons (o := ⟨some 16, _, _, _, _, _⟩) rfl (fun K hK => ?_) AllReadyIn.nil)
        · have k0 := CA.out.c0
          have k1 := CA.out.c1
          try simp only [HL.out] at k1
          go_simp
          refine hK _ _ ?_
          clear hK K
          try simp only [Act.put, List.setIfInBounds_toArray, List.set_cons_zero, List.set_cons_succ]
          refine wpAnyIn_ready (rs := [3]) (by kernel_rfl) (by simp) ?_
          refine AllReadyIn.cons (o := ⟨some 16, _, _, _, _, _⟩) rfl (fun K hK => ?_) AllReadyIn.nil
          clear k0 k1
          go_simp
          refine ⟨trivial, (callsIn_wide.2 (wrong_no PW.out)).mono ?_⟩
          rintro e w4 ⟨rfl, rfl⟩
          obtain ⟨fn, tm, sg, bo, hy, hR⟩ := JO.out.yes lo hi pre ⟨V, some ⟨g, 0, none⟩, cc, bs⟩ _ _ _ JW.out (by omega) hsz GW.out (by intro j e; injection e with e; omega) TD.out
          have PW4 := PW.out
          rw [CmV] at hy
          refine hK _ _ ?_
          clear hK K
          try simp only [Act.put, List.setIfInBounds_toArray, List.set_cons_zero, List.set_cons_succ]
          refine wpAnyIn_ready (rs := [4]) (by kernel_rfl) (by simp) ?_
          refine AllReadyIn.cons (o := ⟨some 17, _, _, _, _, _⟩) rfl (fun K hK => ?_) AllReadyIn.nil
          go_simp
          refine hR.mono ?_
          rintro e w5 ⟨rfl, hj5, ha5⟩
          have PW5 := Pen.around PW4 ha5
          refine hK _ _ ?_
          clear hK K hR hy
          try simp only [Act.put, List.setIfInBounds_toArray, List.set_cons_zero, List.set_cons_succ]
          refine wpAnyIn_take (i := 5) (oi := ⟨some 18, _, _, _, _, _⟩) (v := .bool false) rfl rfl (by kernel_rfl) (by kernel_rfl) (by kernel_rfl) (fun _ _ _ h => h) ⟨Or.inl ⟨by rfl, fun W => ?_⟩, fun _ => rfl⟩ ?_
          · go_simp
          try simp only [Act.put, List.setIfInBounds_toArray, List.set_cons_zero, List.set_cons_succ]
          refine wpAnyIn_take (i := 6) (oi := ⟨some 19, _, _, _, _, _⟩) (v := .bool false) rfl rfl (by kernel_rfl) (by kernel_rfl) (by kernel_rfl) (fun _ _ _ h => h) ⟨Or.inl ⟨by rfl, fun W => ?_⟩, fun _ => rfl⟩ ?_
          · go_simp
          try simp only [Act.put, List.setIfInBounds_toArray, List.set_cons_zero, List.set_cons_succ]
          refine wpAnyIn_take (i := 7) (oi := ⟨some 20, _, _, _, _, _⟩) (v := .pointer (some ⟨a, 0, none⟩)) rfl rfl (by kernel_rfl) (by kernel_rfl) (by kernel_rfl) (fun _ _ _ h => h) ⟨Or.inl ⟨by rfl, fun W => ?_⟩, fun _ => rfl⟩ ?_
          · go_simp
          try simp only [Act.put, List.setIfInBounds_toArray, List.set_cons_zero, List.set_cons_succ]
          refine wpAnyIn_ready (rs := [8]) (by kernel_rfl) (by simp) ?_
          refine AllReadyIn.cons (o := ⟨some 21, _, _, _, _, _⟩) rfl (fun K hK => ?_) AllReadyIn.nil
          go_simp
          refine ⟨trivial, (callsIn_wide.2 (pen_err PW5)).mono ?_⟩
          rintro e w6 ⟨rfl, rfl⟩
          refine hK _ _ ?_
          clear hK K
          try simp only [Act.put, List.setIfInBounds_toArray, List.set_cons_zero, List.set_cons_succ]
          refine wpAnyIn_take (i := 9) (oi := ⟨some 22, _, _, _, _, _⟩) (v := .bool false) rfl rfl (by kernel_rfl) (by kernel_rfl) (by kernel_rfl) (fun _ _ _ h => h) ⟨Or.inl ⟨by rfl, fun W => ?_⟩, fun _ => rfl⟩ ?_
          · go_simp
          try simp only [Act.put, List.setIfInBounds_toArray, List.set_cons_zero, List.set_cons_succ]
          refine wpAnyIn_take (i := 10) (oi := ⟨some 23, _, _, _, _, _⟩) (v := .bool false) rfl rfl (by kernel_rfl) (by kernel_rfl) (by kernel_rfl) (fun _ _ _ h => h) ⟨Or.inl ⟨by rfl, fun W => ?_⟩, fun _ => rfl⟩ ?_
          · go_simp
          try simp only [Act.put, List.setIfInBounds_toArray, List.set_cons_zero, List.set_cons_succ]
          refine wpAnyIn_done (by kernel_rfl) ?_ _
          have R5 := Lib.hid (And.intro PW5 hj5)
          clear PW5 hj5 ha5 PW4
          go_wp2
          go_roundw
          case rel => exact ⟨k + 1, _, _, by go_num, CN.out, R5.out.1, R5.out.2⟩
          case measure => simp [intOf]; omega
        · have k0 := CA.out.c0
          have k1 := CA.out.c1
          try simp only [HL.out] at k1
          go_simp
          refine ⟨trivial, (callsIn_wide.2 (wrong_no PW.out)).mono ?_⟩
          rintro e w4 ⟨rfl, rfl⟩
          obtain ⟨fn, tm, sg, bo, hy, hR⟩ := JO.out.yes lo hi pre ⟨V, some ⟨g, 0, none⟩, cc, bs⟩ _ _ _ JW.out (by omega) hsz GW.out (by intro j e; injection e with e; omega) TD.out
          have PW4 := PW.out
          rw [CmV] at hy
          refine hK _ _ ?_
          clear hK K
          try simp only [Act.put, List.setIfInBounds_toArray, List.set_cons_zero, List.set_cons_succ]
          refine wpAnyIn_ready (rs := [1]) (by kernel_rfl) (by simp) ?_
          refine AllReadyIn.cons (o := ⟨some 14, _, _, _, _, _⟩) rfl (fun K hK => ?_) AllReadyIn.nil
          go_simp
          refine hK _ _ ?_
          clear hK K
          try simp only [Act.put, List.setIfInBounds_toArray, List.set_cons_zero, List.set_cons_succ]
          refine wpAnyIn_ready (rs := [4]) (by kernel_rfl) (by simp) ?_
          refine AllReadyIn.cons (o := ⟨some 17, _, _, _, _, _⟩) rfl (fun K hK => ?_) AllReadyIn.nil
          go_simp
          refine hR.mono ?_
          rintro e w5 ⟨rfl, hj5, ha5⟩
          have PW5 := Pen.around PW4 ha5
          refine hK _ _ ?_
          clear hK K hR hy
          try simp only [Act.put, List.setIfInBounds_toArray, List.set_cons_zero, List.set_cons_succ]
          refine wpAnyIn_take (i := 5) (oi := ⟨some 18, _, _, _, _, _⟩) (v := .bool false) rfl rfl (by kernel_rfl) (by kernel_rfl) (by kernel_rfl) (fun _ _ _ h => h) ⟨Or.inl ⟨by rfl, fun W => ?_⟩, fun _ => rfl⟩ ?_
          · go_simp
          try simp only [Act.put, List.setIfInBounds_toArray, List.set_cons_zero, List.set_cons_succ]
          refine wpAnyIn_take (i := 6) (oi := ⟨some 19, _, _, _, _, _⟩) (v := .bool false) rfl rfl (by kernel_rfl) (by kernel_rfl) (by kernel_rfl) (fun _ _ _ h => h) ⟨Or.inl ⟨by rfl, fun W => ?_⟩, fun _ => rfl⟩ ?_
          · go_simp
          try simp only [Act.put, List.setIfInBounds_toArray, List.set_cons_zero, List.set_cons_succ]
          refine wpAnyIn_take (i := 7) (oi := ⟨some 20, _, _, _, _, _⟩) (v := .pointer (some ⟨a, 0, none⟩)) rfl rfl (by kernel_rfl) (by kernel_rfl) (by kernel_rfl) (fun _ _ _ h => h) ⟨Or.inl ⟨by rfl, fun W => ?_⟩, fun _ => rfl⟩ ?_
          · go_simp
          try simp only [Act.put, List.setIfInBounds_toArray, List.set_cons_zero, List.set_cons_succ]
          refine wpAnyIn_ready (rs := [8]) (by kernel_rfl) (by simp) ?_
          refine AllReadyIn.cons (o := ⟨some 21, _, _, _, _, _⟩) rfl (fun K hK => ?_) AllReadyIn.nil
          go_simp
          refine ⟨trivial, (callsIn_wide.2 (pen_err PW5)).mono ?_⟩
          rintro e w6 ⟨rfl, rfl⟩
          refine hK _ _ ?_
          clear hK K
          try simp only [Act.put, List.setIfInBounds_toArray, List.set_cons_zero, List.set_cons_succ]
          refine wpAnyIn_take (i := 9) (oi := ⟨some 22, _, _, _, _, _⟩) (v := .bool false) rfl rfl (by kernel_rfl) (by kernel_rfl) (by kernel_rfl) (fun _ _ _ h => h) ⟨Or.inl ⟨by rfl, fun W => ?_⟩, fun _ => rfl⟩ ?_
          · go_simp
          try simp only [Act.put, List.setIfInBounds_toArray, List.set_cons_zero, List.set_cons_succ]
          refine wpAnyIn_take (i := 10) (oi := ⟨some 23, _, _, _, _, _⟩) (v := .bool false) rfl rfl (by kernel_rfl) (by kernel_rfl) (by kernel_rfl) (fun _ _ _ h => h) ⟨Or.inl ⟨by rfl, fun W => ?_⟩, fun _ => rfl⟩ ?_
          · go_simp
          try simp only [Act.put, List.setIfInBounds_toArray, List.set_cons_zero, List.set_cons_succ]
          refine wpAnyIn_done (by kernel_rfl) ?_ _
          have R5 := Lib.hid (And.intro PW5 hj5)
          clear PW5 hj5 ha5 PW4
          go_wp2
          go_roundw
          case rel => exact ⟨k + 1, _, _, by go_num, CN.out, R5.out.1, R5.out.2⟩
          case measure => simp [intOf]; omega
      · obtain ⟨cmd, q', n', c', p', rfl, hP⟩ := ht.no hok
        have CB := Lib.hid (CM.out.bad hlt hok)
        clear ht hok
        go_wp2
        have CA := Lib.hid (show CmAt (w2.alloc (.cells #[.int .u32 cmd, .slice q' n' c'] 109)).drew w2.heap.size ⟨cmd, q', c', List.replicate n' 0⟩ from by
          unfold CmAt
          simp only [List.length_replicate]
          exact heap_alloc_new w2 _)
        have HL := Lib.hid (show (List.replicate n' (0 : Int)).length = n' from List.length_replicate ..)
        have GD : w2.grownBy (w2.alloc (.cells #[.int .u32 cmd, .slice q' n' c'] 109)).drew none := grown_drewN (grown1 _ _) 1
        have PW := Lib.hid (hP.same GD)
        have JD := Lib.hid (JO.out.abides _ _ _ _ _ _ JW2.out GD (by simp))
        have SZ := Lib.hid (show hi ≤ (w2.alloc (.cells #[.int .u32 cmd, .slice q' n' c'] 109)).drew.heap.size from Nat.le_trans hP.sz GD.size)
        clear hP GD
        refine (wpIn_wide (n := 1)).1 ?_
        refine wpIn_region_any (by kernel_rfl) ?_
        change wpAnyIn _ _ _ _ _ _ _ _ _ (World.drew _)
        refine wpAnyIn_take (i := 0) (oi := ⟨some 13, _, _, _, _, _⟩) (v := .func (.yield l) #[] #[]) rfl rfl (by kernel_rfl) (by kernel_rfl) (by kernel_rfl) (fun _ _ _ h => h) ⟨Or.inl ⟨by rfl, fun W => ?_⟩, fun _ => rfl⟩ ?_
        · go_simp
        try simp only [Act.put, List.setIfInBounds_toArray, List.set_cons_zero, List.set_cons_succ]
        refine wpAnyIn_take (i := 2) (oi := ⟨some 15, _, _, _, _, _⟩) (v := .pointer (some ⟨a, 0, none⟩)) rfl rfl (by kernel_rfl) (by kernel_rfl) (by kernel_rfl) (fun _ _ _ h => h) ⟨Or.inl ⟨by rfl, fun W => ?_⟩, fun _ => rfl⟩ ?_
        · go_simp
        try simp only [Act.put, List.setIfInBounds_toArray, List.set_cons_zero, List.set_cons_succ]
        refine wpAnyIn_ready (rs := [1, 3]) (by kernel_rfl) (by simp) ?_
        refine AllReadyIn.cons (o := ⟨some 14, _, _, _, _, _⟩) rfl (fun K hK => ?_) (AllReadyIn.cons (o := ⟨some 16, _, _, _, _, _⟩) rfl (fun K hK => ?_) AllReadyIn.nil)
        · have k0 := CA.out.c0
          have k1 := CA.out.c1
          try simp only [HL.out] at k1
          go_simp
          refine hK _ _ ?_
          clear hK K
          try simp only [Act.put, List.setIfInBounds_toArray, List.set_cons_zero, List.set_cons_succ]
          refine wpAnyIn_ready (rs := [3]) (by kernel_rfl) (by simp) ?_
          refine AllReadyIn.cons (o := ⟨some 16, _, _, _, _, _⟩) rfl (fun K hK => ?_) AllReadyIn.nil
          clear k0 k1
          go_simp
          refine ⟨trivial, (callsIn_wide.2 (wrong_yes PW.out)).mono ?_⟩
          rintro e w4 ⟨b, rfl, hb, hg4⟩
          obtain ⟨fn, tm, sg, bo, hy, hR⟩ := JO.out.no lo hi pre cmd q' n' c' b w4 (JO.out.abides _ _ _ _ _ _ JD.out hg4 (by simp)) (Nat.le_trans SZ.out hg4.size) hb
          have k0 := (CA.out.grown hg4).c0
          have k1 := (CA.out.grown hg4).c1
          try simp only [HL.out] at k1
          refine hK _ _ ?_
          clear hK K
          try simp only [Act.put, List.setIfInBounds_toArray, List.set_cons_zero, List.set_cons_succ]
          refine wpAnyIn_ready (rs := [4]) (by kernel_rfl) (by simp) ?_
          refine AllReadyIn.cons (o := ⟨some 17, _, _, _, _, _⟩) rfl (fun K hK => ?_) AllReadyIn.nil
          go_simp
          refine hR.mono ?_
          rintro e w5 ⟨rfl, hx⟩
          refine hK _ _ ?_
          clear hK K hR hy
          try simp only [Act.put, List.setIfInBounds_toArray, List.set_cons_zero, List.set_cons_succ]
          refine wpAnyIn_take (i := 5) (oi := ⟨some 18, _, _, _, _, _⟩) (v := .bool true) rfl rfl (by kernel_rfl) (by kernel_rfl) (by kernel_rfl) (fun _ _ _ h => h) ⟨Or.inl ⟨by rfl, fun W => ?_⟩, fun _ => rfl⟩ ?_
          · go_simp
          try simp only [Act.put, List.setIfInBounds_toArray, List.set_cons_zero, List.set_cons_succ]
          refine wpAnyIn_take (i := 6) (oi := ⟨some 19, _, _, _, _, _⟩) (v := .bool true) rfl rfl (by kernel_rfl) (by kernel_rfl) (by kernel_rfl) (fun _ _ _ h => h) ⟨Or.inl ⟨by rfl, fun W => ?_⟩, fun _ => rfl⟩ ?_
          · go_simp
          try simp only [Act.put, List.setIfInBounds_toArray, List.set_cons_zero, List.set_cons_succ]
          refine wpAnyIn_ready (rs := [7]) (by kernel_rfl) (by simp) ?_
          refine AllReadyIn.cons (o := ⟨some 20, _, _, _, _, _⟩) rfl (fun K hK => ?_) AllReadyIn.nil
          refine ite_no (fun h => Bool.false_ne_true h) ⟨fun _ _ => trivial, hK _ _ ?_⟩
          clear hK K
          try simp only [Act.put, List.setIfInBounds_toArray, List.set_cons_zero, List.set_cons_succ]
          refine wpAnyIn_ready (rs := [8]) (by kernel_rfl) (by simp) ?_
          refine AllReadyIn.cons (o := ⟨some 21, _, _, _, _, _⟩) rfl (fun K hK => ?_) AllReadyIn.nil
          refine ite_no (fun h => Bool.false_ne_true h) ⟨fun _ _ => trivial, hK _ _ ?_⟩
          clear hK K
          try simp only [Act.put, List.setIfInBounds_toArray, List.set_cons_zero, List.set_cons_succ]
          refine wpAnyIn_ready (rs := [9]) (by kernel_rfl) (by simp) ?_
          refine AllReadyIn.cons (o := ⟨some 22, _, _, _, _, _⟩) rfl (fun K hK => ?_) AllReadyIn.nil
          refine ite_no (fun h => Bool.false_ne_true h) ⟨fun _ _ => trivial, hK _ _ ?_⟩
          clear hK K
          try simp only [Act.put, List.setIfInBounds_toArray, List.set_cons_zero, List.set_cons_succ]
          refine wpAnyIn_take (i := 10) (oi := ⟨some 23, _, _, _, _, _⟩) (v := .bool true) rfl rfl (by kernel_rfl) (by kernel_rfl) (by kernel_rfl) (fun _ _ _ h => h) ⟨Or.inl ⟨by rfl, fun W => ?_⟩, fun _ => rfl⟩ ?_
          · go_simp
          try simp only [Act.put, List.setIfInBounds_toArray, List.set_cons_zero, List.set_cons_succ]
          refine wpAnyIn_done (by kernel_rfl) ?_ _
          go_wp2
          refine bodyPost_ret (results_none rfl _ _ _) rfl ?_
          exact ⟨⟨_, rfl⟩, .inr ⟨CB.out, hx⟩⟩
        · skip
          go_simp
          refine ⟨trivial, (callsIn_wide.2 (wrong_yes PW.out)).mono ?_⟩
          rintro e w4 ⟨b, rfl, hb, hg4⟩
          obtain ⟨fn, tm, sg, bo, hy, hR⟩ := JO.out.no lo hi pre cmd q' n' c' b w4 (JO.out.abides _ _ _ _ _ _ JD.out hg4 (by simp)) (Nat.le_trans SZ.out hg4.size) hb
          have k0 := (CA.out.grown hg4).c0
          have k1 := (CA.out.grown hg4).c1
          try simp only [HL.out] at k1
          refine hK _ _ ?_
          clear hK K
          try simp only [Act.put, List.setIfInBounds_toArray, List.set_cons_zero, List.set_cons_succ]
          refine wpAnyIn_ready (rs := [1]) (by kernel_rfl) (by simp) ?_
          refine AllReadyIn.cons (o := ⟨some 14, _, _, _, _, _⟩) rfl (fun K hK => ?_) AllReadyIn.nil
          go_simp
          refine hK _ _ ?_
          clear hK K
          try simp only [Act.put, List.setIfInBounds_toArray, List.set_cons_zero, List.set_cons_succ]
          refine wpAnyIn_ready (rs := [4]) (by kernel_rfl) (by simp) ?_
          refine AllReadyIn.cons (o := ⟨some 17, _, _, _, _, _⟩) rfl (fun K hK => ?_) AllReadyIn.nil
          go_simp
          refine hR.mono ?_
          rintro e w5 ⟨rfl, hx⟩
          refine hK _ _ ?_
          clear hK K hR hy
          try simp only [Act.put, List.setIfInBounds_toArray, List.set_cons_zero, List.set_cons_succ]
          refine wpAnyIn_take (i := 5) (oi := ⟨some 18, _, _, _, _, _⟩) (v := .bool true) rfl rfl (by kernel_rfl) (by kernel_rfl) (by kernel_rfl) (fun _ _ _ h => h) ⟨Or.inl ⟨by rfl, fun W => ?_⟩, fun _ => rfl⟩ ?_
          · go_simp
          try simp only [Act.put, List.setIfInBounds_toArray, List.set_cons_zero, List.set_cons_succ]
          refine wpAnyIn_take (i := 6) (oi := ⟨some 19, _, _, _, _, _⟩) (v := .bool true) rfl rfl (by kernel_rfl) (by kernel_rfl) (by kernel_rfl) (fun _ _ _ h => h) ⟨Or.inl ⟨by rfl, fun W => ?_⟩, fun _ => rfl⟩ ?_
          · go_simp
          try simp only [Act.put, List.setIfInBounds_toArray, List.set_cons_zero, List.set_cons_succ]
          refine wpAnyIn_ready (rs := [7]) (by kernel_rfl) (by simp) ?_
          refine AllReadyIn.cons (o := ⟨some 20, _, _, _, _, _⟩) rfl (fun K hK => ?_) AllReadyIn.nil
          refine ite_no (fun h => Bool.false_ne_true h) ⟨fun _ _ => trivial, hK _ _ ?_⟩
          clear hK K
          try simp only [Act.put, List.setIfInBounds_toArray, List.set_cons_zero, List.set_cons_succ]
          refine wpAnyIn_ready (rs := [8]) (by kernel_rfl) (by simp) ?_
          refine AllReadyIn.cons (o := ⟨some 21, _, _, _, _, _⟩) rfl (fun K hK => ?_) AllReadyIn.nil
          refine ite_no (fun h => Bool.false_ne_true h) ⟨fun _ _ => trivial, hK _ _ ?_⟩
          clear hK K
          try simp only [Act.put, List.setIfInBounds_toArray, List.set_cons_zero, List.set_cons_succ]
          refine wpAnyIn_ready (rs := [9]) (by kernel_rfl) (by simp) ?_
          refine AllReadyIn.cons (o := ⟨some 22, _, _, _, _, _⟩) rfl (fun K hK => ?_) AllReadyIn.nil
          refine ite_no (fun h => Bool.false_ne_true h) ⟨fun _ _ => trivial, hK _ _ ?_⟩
          clear hK K
          try simp only [Act.put, List.setIfInBounds_toArray, List.set_cons_zero, List.set_cons_succ]
          refine wpAnyIn_take (i := 10) (oi := ⟨some 23, _, _, _, _, _⟩) (v := .bool true) rfl rfl (by kernel_rfl) (by kernel_rfl) (by kernel_rfl) (fun _ _ _ h => h) ⟨Or.inl ⟨by rfl, fun W => ?_⟩, fun _ => rfl⟩ ?_
          · go_simp
          try simp only [Act.put, List.setIfInBounds_toArray, List.set_cons_zero, List.set_cons_succ]
          refine wpAnyIn_done (by kernel_rfl) ?_ _
          go_wp2
          refine bodyPost_ret (results_none rfl _ _ _) rfl ?_
          exact ⟨⟨_, rfl⟩, .inr ⟨CB.out, hx⟩⟩
    · have hkn : k = cnt := by omega
      subst hkn
      have CD := Lib.hid hcm.done
      have JW := Lib.hid hj
      clear hcm hj hp
      go_wp2
      go_end0
      exact ⟨⟨_, rfl⟩, .inl ⟨_, _, _, CD.out, JW.out⟩⟩
end Go.Proofs.YtdagnkdonlfobaaGreat

/- A row of commands that the call itself makes: one more appended to it, in a loop's round too; what such a row reads as. No condition. -/
namespace Go.Proofs.YtdagnkdonlfobaaGreat
open Go.RowKit
variable {w w' : World} {base : Nat}

def Cm.cs (m : Cm) : List Value := [.int .u32 m.cmd, .slice m.q m.bytes.length m.cap]
def rowC (l : List Cm) : List Value := l.flatMap Cm.cs
theorem rowC_len (l : List Cm) : (rowC l).length = l.length * 2 := by
  induction l with
  | nil => rfl
  | cons s l ih => simp only [rowC, List.flatMap_cons, List.length_append, List.length_cons] at ih ⊢; rw [ih, show s.cs.length = 2 from rfl]; omega
theorem rowC_at (l : List Cm) (i j : Nat) (s : Cm) (h : l[i]? = some s) (hj : j < 2) : (rowC l)[i * 2 + j]? = s.cs[j]? := by
  induction l generalizing i with
  | nil => simp at h
  | cons t l ih =>
    simp only [rowC, List.flatMap_cons] at ih ⊢
    cases i with
    | zero =>
      simp at h
      subst h
      rw [List.getElem?_append_left (by rw [show t.cs.length = 2 from rfl]; omega)]
      simp
    | succ i =>
      rw [List.getElem?_append_right (by rw [show t.cs.length = 2 from rfl]; omega), show t.cs.length = 2 from rfl, show (i + 1) * 2 + j - 2 = i * 2 + j by omega]
      exact ih i (by simpa using h)
theorem rowC_snoc (l : List Cm) (s : Cm) : rowC (l ++ [s]) = rowC l ++ s.cs := by simp [rowC]

theorem info_cm : (Tryz.prog.info? 109).map (fun i => (i.zero, i.size, i.bytes)) = some (some Cm.zero.v, 2, 32) := by kernel_rfl

/-- What the call owns reads as commands. -/
theorem IsCms.of_own {p : Option Addr} {n c : Nat} {l : List Cm} (hl : l.length = n) (h : w.ownsRow base 109 2 (.slice p n c) n (rowC l)) (hb : ∀ m ∈ l, IsBytes w m.q m.cap m.bytes) : IsCms w p l ∧ n ≤ c ∧ c ≤ 9223372036854775807 := by
  subst hl
  have h' := h
  obtain ⟨_, hn | ⟨g, cap, cur, hv, _, hg, hle, hm, hs, ht⟩⟩ := h
  · obtain ⟨e, h0⟩ := hn
    injection e with e1 e2 e3
    subst e3
    exact ⟨fun h => by omega, by omega, by omega⟩
  · injection hv with e1 e2 e3
    subst e1 e3
    refine ⟨fun _ => ⟨g, 0, rfl, fun i s hi => ?_⟩, hle, by unfold maxLen at hm; omega⟩
    have key : ∀ j, j < 2 → w.cell? ⟨g, 0 + i * 2 + j, none⟩ = s.cs[j]? := fun j hj => by
      have hr := rowC_at l i j s hi hj
      have hc := h'.cells (g := g) rfl (i * 2 + j) (s.cs[j]'(by simpa [Cm.cs] using hj)) (by rw [hr]; exact List.getElem?_eq_getElem _)
      rw [add_flat] at hc
      rw [show 0 + i * 2 + j = 0 + (i * 2 + j) by omega, hc]
      exact (List.getElem?_eq_getElem _).symm
    exact ⟨⟨key 0 (by decide), key 1 (by decide)⟩, hb s (List.mem_of_getElem? hi)⟩

theorem wp_append_cm {ops : Array Oper} {rest : List Oper} {o : Oper} {a : Act} {Q : Exit → Act → World → Prop} (hgd : o.guard = none) (s x : Operand)
    (ho : o.op = .call { callee := .builtin .append, args := #[s, x], argTypes := #[69, 69] })
    (v : Value) (n : Nat) (l : List Cm) (hs : a.eval s = v) (hown : w.ownsRow base 109 2 v n (rowC l)) (t : Cm) (g : Nat) (hx : a.eval x = .slice (some ⟨g, 0, none⟩) 1 1) (hb : CmAt w g t)
    (h63 : n ≤ 1000000) (hbase : base ≤ w.heap.size)
    (h : ∀ v' w', w'.ownsRow base 109 2 v' (n + 1) (rowC (l ++ [t])) → w.grownBy w' v.ownBlock → wpList Tryz.prog ops Q rest (a.put o.dst v') w') : wpList Tryz.prog ops Q (o :: rest) a w := by
  obtain ⟨i, hi, hz0, hz1, hz2⟩ := info_parts info_cm
  refine wpList_append_own w hgd s x _ ho base 109 i Cm.zero.v 2 32 Tryz.underlying69 hi hz0 hz1 hz2 rfl (by decide) v n (rowC l) hs hown ⟨g, 0, none⟩ 1 1 t.cs hx rfl ?_ ?_ (by unfold maxLen; omega) (by omega) hbase ?_
  · intro j u hu
    rw [add_flat, cell_of hb, ← hu]
    simp [Cm.cs]
  · intro u hu
    simp only [Cm.cs, List.mem_cons, List.not_mem_nil, or_false] at hu
    rcases hu with rfl | rfl <;> rfl
  · intro v' w' h1 h2 _
    rw [← rowC_snoc] at h1
    exact h v' w' h1 h2

/-- In a loop's round; and where the new row lies. -/
theorem wpIn_append_cm {F : Fence} {fu : Nat} {ops : Array Oper} {rest : List Oper} {o : Oper} {a : Act} {Q : Exit → Act → World → Prop} (hgd : o.guard = none) (s x : Operand)
    (ho : o.op = .call { callee := .builtin .append, args := #[s, x], argTypes := #[69, 69] })
    (v : Value) (n : Nat) (l : List Cm) (hs : a.eval s = v) (hown : w.ownsRow base 109 2 v n (rowC l)) (t : Cm) (g : Nat) (hx : a.eval x = .slice (some ⟨g, 0, none⟩) 1 1) (hb : CmAt w g t)
    (h63 : n ≤ 1000000) (hbase : base ≤ w.heap.size)
    (h : ∀ v' w', w'.ownsRow base 109 2 v' (n + 1) (rowC (l ++ [t])) → w.grownBy w' v.ownBlock → (v'.ownBlock = v.ownBlock ∨ v'.ownBlock = some w.heap.size) → wpListIn F fu Tryz.prog ops Q rest (a.put o.dst v') w') : wpListIn F fu Tryz.prog ops Q (o :: rest) a w := by
  obtain ⟨i, hi, hz0, hz1, hz2⟩ := info_parts info_cm
  refine wpListIn_plain hgd fun K hK => ?_
  obtain ⟨v', w', hr, h1, h2, _, h4⟩ := run_append_own_at (P := Tryz.prog) w base 69 o.type 109 i Cm.zero.v 2 32 Tryz.underlying69 hi hz0 hz1 hz2 rfl (by decide) v n (rowC l) hown ⟨g, 0, none⟩ 1 1 t.cs rfl
    (by
      intro j u hu
      rw [add_flat, cell_of hb, ← hu]
      simp [Cm.cs])
    (by
      intro u hu
      simp only [Cm.cs, List.mem_cons, List.not_mem_nil, or_false] at hu
      rcases hu with rfl | rfl <;> rfl)
    (by unfold maxLen; omega) (by omega) hbase
  rw [← rowC_snoc] at h1
  refine ⟨?_, ?_⟩
  · intro f hf
    simp [Oper.about, ho, resolve, Target.leads, Sem.run_pure] at hf
  · rw [Oper.semAt_plain F _ _ (by rw [ho]; intro c hc; cases hc)]
    simp [execOp, ho, resolve, invoke, builtin, hs, hx, hr, Result.andThen]
    exact hK _ _ (h v' w' h1 h2 h4)

/-- At a region that draws, held. -/
theorem step_append_cm {ops : Array Oper} {o : Oper} {a : Act} {K : Act → World → Prop} {Q : Exit → Act → World → Prop} {E : Prop} (hgd : o.guard = none) (s x : Operand)
    (ho : o.op = .call { callee := .builtin .append, args := #[s, x], argTypes := #[69, 69] })
    (v : Value) (n : Nat) (l : List Cm) (hs : a.eval s = v) (hown : w.ownsRow base 109 2 v n (rowC l)) (t : Cm) (g : Nat) (hx : a.eval x = .slice (some ⟨g, 0, none⟩) 1 1) (hb : CmAt w g t)
    (h63 : n ≤ 1000000) (hbase : base ≤ w.heap.size)
    (h : ∀ v' w', w'.ownsRow base 109 2 v' (n + 1) (rowC (l ++ [t])) → w.grownBy w' v.ownBlock → K (a.put o.dst v') w') :
    if Region.wanted o (yielded ops a.tmps) = true then Oper.wp Tryz.prog o a w K Q else E := by
  have hw : Region.wanted o (yielded ops a.tmps) = true := by simp [Region.wanted, hgd]
  rw [if_pos hw]
  obtain ⟨i, hi, hz0, hz1, hz2⟩ := info_parts info_cm
  obtain ⟨v', w', hr, h1, h2, _, _⟩ := run_append_own_at (P := Tryz.prog) w base 69 o.type 109 i Cm.zero.v 2 32 Tryz.underlying69 hi hz0 hz1 hz2 rfl (by decide) v n (rowC l) hown ⟨g, 0, none⟩ 1 1 t.cs rfl
    (by
      intro j u hu
      rw [add_flat, cell_of hb, ← hu]
      simp [Cm.cs])
    (by
      intro u hu
      simp only [Cm.cs, List.mem_cons, List.not_mem_nil, or_false] at hu
      rcases hu with rfl | rfl <;> rfl)
    (by unfold maxLen; omega) (by omega) hbase
  rw [← rowC_snoc] at h1
  exact Lib.wp_append_run w s x _ _ ho _ _ hs hx _ _ hr (h v' w' h1 h2)
end Go.Proofs.YtdagnkdonlfobaaGreat

/- Rows of structs of one's own, of whatever type: one more is appended. No condition. -/
namespace Go.Proofs.YtdagnkdonlfobaaGreat
open Go.RowKit
variable {w w' : World} {base : Nat}

theorem grown_past {w1 : World} {a g : Nat} (h : w.grownBy w1 (some a)) (k : w1.grownBy w' (some g)) (hg : w.heap.size ≤ g) : w.grownBy w' (some a) :=
  ⟨k.os.trans h.os, k.tape.trans h.tape, k.output.trans h.output, Nat.le_trans h.size k.size, fun i hi hn =>
    (k.block i (Nat.lt_of_lt_of_le hi h.size) (fun e => by injection e with e; omega)).trans (h.block i hi hn)⟩
theorem grown_then {w1 : World} {a : Option Nat} (h : w.grownBy w1 a) (k : w1.grownBy w' none) : w.grownBy w' a :=
  ⟨k.os.trans h.os, k.tape.trans h.tape, k.output.trans h.output, Nat.le_trans h.size k.size, fun i hi hn =>
    (k.block i (Nat.lt_of_lt_of_le hi h.size) (by simp)).trans (h.block i hi hn)⟩
theorem grown_first {w1 : World} {a : Option Nat} (h : w.grownBy w1 none) (k : w1.grownBy w' a) : w.grownBy w' a :=
  ⟨k.os.trans h.os, k.tape.trans h.tape, k.output.trans h.output, Nat.le_trans h.size k.size, fun i hi hn =>
    (k.block i (Nat.lt_of_lt_of_le hi h.size) hn).trans (h.block i hi (by simp))⟩
theorem grown_same {w1 : World} {a : Nat} (h : w.grownBy w1 (some a)) (k : w1.grownBy w' (some a)) : w.grownBy w' (some a) :=
  ⟨k.os.trans h.os, k.tape.trans h.tape, k.output.trans h.output, Nat.le_trans h.size k.size, fun i hi hn =>
    (k.block i (Nat.lt_of_lt_of_le hi h.size) hn).trans (h.block i hi hn)⟩

theorem grown_row {w1 : World} {a : Nat} {v : Value} (h : w.grownBy w1 (some a)) (k : w1.grownBy w' v.ownBlock) (hv : ∀ g, v.ownBlock = some g → w.heap.size ≤ g) : w.grownBy w' (some a) := by
  cases hb : v.ownBlock with
  | none => rw [hb] at k; exact grown_then h k
  | some g => rw [hb] at k; exact grown_past h k (hv g hb)
theorem Pen.row {lo hi a : Nat} {xs : List Int} {p : Nat} {big bad : Bool} {v : Value} (h : Pen w lo hi a xs p big bad) (k : w.grownBy w' v.ownBlock) (hv : ∀ g, v.ownBlock = some g → hi ≤ g) : Pen w' lo hi a xs p big bad := by
  cases hb : v.ownBlock with
  | none => rw [hb] at k; exact h.same k
  | some g => rw [hb] at k; exact h.kept k (.inr (hv g hb))
/-- A struct's type, and its slices': what the law on append asks. -/
structure StType (P : Program) (T TS : TypeId) (k by' : Nat) : Prop where
  under : P.underlying TS = some (.slice T)
  info : ∃ i z, P.info? T = some i ∧ i.zero = some z ∧ i.size = k ∧ i.bytes = by' ∧ z.cells.size = k
  pos : 0 < k
theorem StType.mk' {P : Program} {T TS : TypeId} {k by' : Nat} (hu : P.underlying TS = some (.slice T)) {z : Value} (hi : (P.info? T).map (fun i => (i.zero, i.size, i.bytes)) = some (some z, k, by')) (hz : z.cells.size = k) (hk : 0 < k) : StType P T TS k by' := by
  obtain ⟨i, h1, h2, h3, h4⟩ := info_parts hi
  exact ⟨hu, ⟨i, z, h1, h2, h3, h4, hz⟩, hk⟩

theorem wp_append_st {T TS : TypeId} {k by' : Nat} (st : StType Tryz.prog T TS k by') {ops : Array Oper} {rest : List Oper} {o : Oper} {a : Act} {Q : Exit → Act → World → Prop} (hgd : o.guard = none) (s x : Operand)
    (ho : o.op = .call { callee := .builtin .append, args := #[s, x], argTypes := #[TS, TS] })
    (v : Value) (n : Nat) (xs : List Value) (hs : a.eval s = v) (hown : w.ownsRow base T k v n xs) (cs : List Value) (hl : cs.length = k) (g : Nat) (hx : a.eval x = .slice (some ⟨g, 0, none⟩) 1 1)
    (hb : w.heap[g]? = some (.cells cs.toArray T (0, 0))) (h1 : ∀ u ∈ cs, u.oneCell' = true)
    (h63 : (n + 1) * by' ≤ 140737488355328) (hby : 0 < by') (hbase : base ≤ w.heap.size)
    (h : ∀ v' w', w'.ownsRow base T k v' (n + 1) (xs ++ cs) → w.grownBy w' v.ownBlock → wpList Tryz.prog ops Q rest (a.put o.dst v') w') : wpList Tryz.prog ops Q (o :: rest) a w := by
  obtain ⟨i, z, hi, hz0, hz1, hz2, hzs⟩ := st.info
  refine wpList_append_own w hgd s x _ ho base T i z k by' st.under hi hz0 hz1 hz2 hzs st.pos v n xs hs hown ⟨g, 0, none⟩ 1 1 cs hx (by rw [hl, Nat.one_mul]) ?_ h1 (by have := Nat.le_mul_of_pos_right (n + 1) hby; unfold maxLen; omega) h63 hbase ?_
  · intro j u hu
    rw [add_flat, cell_of hb, ← hu]
    simp
  · intro v' w' h2 h3 _
    exact h v' w' h2 h3
/-- At a region that draws, held. -/
theorem step_append_st {T TS : TypeId} {k by' : Nat} (st : StType Tryz.prog T TS k by') {ops : Array Oper} {o : Oper} {a : Act} {K : Act → World → Prop} {Q : Exit → Act → World → Prop} {E : Prop} (hgd : o.guard = none) (s x : Operand)
    (ho : o.op = .call { callee := .builtin .append, args := #[s, x], argTypes := #[TS, TS] })
    (v : Value) (n m : Nat) (xs : List Value) (hs : a.eval s = v) (hown : w.ownsRow base T k v n xs) (cs : List Value) (hl : cs.length = m * k) (g : Nat) (hx : a.eval x = .slice (some ⟨g, 0, none⟩) m m)
    (hb : w.heap[g]? = some (.cells cs.toArray T (0, 0))) (h1 : ∀ u ∈ cs, u.oneCell' = true)
    (h63 : (n + m) * by' ≤ 140737488355328) (hby : 0 < by') (hbase : base ≤ w.heap.size)
    (h : ∀ v' w', w'.ownsRow base T k v' (n + m) (xs ++ cs) → w.grownBy w' v.ownBlock → K (a.put o.dst v') w') :
    if Region.wanted o (yielded ops a.tmps) = true then Oper.wp Tryz.prog o a w K Q else E := by
  have hw : Region.wanted o (yielded ops a.tmps) = true := by simp [Region.wanted, hgd]
  rw [if_pos hw]
  obtain ⟨i, z, hi, hz0, hz1, hz2, hzs⟩ := st.info
  obtain ⟨v', w', hr, h2, h3, _, _⟩ := run_append_own_at (P := Tryz.prog) w base TS o.type T i z k by' st.under hi hz0 hz1 hz2 hzs st.pos v n xs hown ⟨g, 0, none⟩ m m cs hl
    (by
      intro j u hu
      rw [add_flat, cell_of hb, ← hu]
      simp)
    h1 (by have := Nat.le_mul_of_pos_right (n + m) hby; unfold maxLen; omega) h63 hbase
  exact Lib.wp_append_run w s x _ _ ho _ _ hs hx _ _ hr (h v' w' h2 h3)
theorem flat_len {α : Type} {f : α → List Value} {k : Nat} (hf : ∀ x, (f x).length = k) (l : List α) : (l.flatMap f).length = l.length * k := by
  induction l with
  | nil => simp
  | cons x l ih => rw [List.flatMap_cons, List.length_append, hf, ih, List.length_cons, Nat.succ_mul, Nat.add_comm]
theorem flat_at {α : Type} {f : α → List Value} {k : Nat} (hf : ∀ x, (f x).length = k) (l : List α) (i j : Nat) (x : α) (h : l[i]? = some x) (hj : j < k) : (l.flatMap f)[i * k + j]? = (f x)[j]? := by
  induction l generalizing i with
  | nil => simp at h
  | cons y l ih =>
    rw [List.flatMap_cons]
    cases i with
    | zero =>
      simp only [List.getElem?_cons_zero, Option.some.injEq] at h
      subst h
      rw [Nat.zero_mul, Nat.zero_add, List.getElem?_append_left (by rw [hf]; exact hj)]
    | succ i =>
      rw [List.getElem?_append_right (by rw [hf, Nat.succ_mul]; omega), hf]
      have e : (i + 1) * k + j - k = i * k + j := by rw [Nat.succ_mul]; omega
      rw [e]
      exact ih i (by simpa using h)
/-- Of a row of structs: the cells of one. -/
theorem row_cell {T : TypeId} {k n c : Nat} {q : Option Addr} {α : Type} {f : α → List Value} {l : List α} (hf : ∀ x, (f x).length = k) (h : w.ownsRow base T k (.slice q n c) n (l.flatMap f)) {i : Nat} {x : α} (hx : l[i]? = some x) {j : Nat} (hj : j < k) :
    ∃ g, q = some ⟨g, 0, none⟩ ∧ w.cell? ⟨g, i * k + j, none⟩ = (f x)[j]? := by
  have hil : i < l.length := by
    rcases Nat.lt_or_ge i l.length with h1 | h1
    · exact h1
    · simp [h1] at hx
  have h' := h
  obtain ⟨hl, hn | ⟨g, cap, cur, hv, _, hg, hle, hm, hs, ht⟩⟩ := h
  · rw [flat_len hf, hn.2, Nat.zero_mul] at hl
    have : 0 < l.length * k := Nat.mul_pos (by omega) (by omega)
    omega
  · injection hv with e1 e2 e3
    subst e1 e3
    refine ⟨g, rfl, ?_⟩
    have hr := flat_at hf l i j x hx hj
    have hjl : j < (f x).length := by rw [hf]; exact hj
    have hc := h'.cells (g := g) rfl (i * k + j) ((f x)[j]) (by rw [hr]; exact List.getElem?_eq_getElem _)
    rw [add_flat, Nat.zero_add] at hc
    rw [hc]
    exact (List.getElem?_eq_getElem _).symm
/-- Rows of two types lie apart. -/
theorem rows_apart {base' : Nat} {T T' : TypeId} {k k' n n' : Nat} {v v' : Value} {xs xs' : List Value} (hT : T ≠ T') (h : w.ownsRow base T k v n xs) (h' : w.ownsRow base' T' k' v' n' xs') : v.ownBlock = none ∨ v.ownBlock ≠ v'.ownBlock := by
  rcases h.2 with ⟨rfl, _⟩ | ⟨g, cap, cur, rfl, _, hg, _⟩
  · exact .inl rfl
  · rcases h'.2 with ⟨rfl, _⟩ | ⟨g', cap', cur', rfl, _, hg', _⟩
    · exact .inr (by simp [Value.ownBlock])
    · refine .inr fun e => hT ?_
      simp only [Value.ownBlock, Option.some.injEq] at e
      subst e
      rw [hg] at hg'
      injection hg' with e
      injection e
theorem row_len {T : TypeId} {k n : Nat} {v : Value} {α : Type} {f : α → List Value} {l : List α} (hf : ∀ x, (f x).length = k) (hk : 0 < k) (h : w.ownsRow base T k v n (l.flatMap f)) : l.length = n := by
  have := h.1
  rw [flat_len hf] at this
  exact Nat.eq_of_mul_eq_mul_right hk this
end Go.Proofs.YtdagnkdonlfobaaGreat

/- A text of a field, and one that ends at a 0: as a cursor in blocks of its own takes them. No condition. -/
namespace Go.Proofs.YtdagnkdonlfobaaGreat
open Go.RowKit
variable {w w' : World} {lo hi a : Nat} {xs : List Int} {p : Nat} {big bad : Bool}

theorem one_zero (w : World) : (w.alloc (.cells #[.int .u8 0] 5)).cell? ⟨w.heap.size, 0, none⟩ = some (.int .u8 0) := by rw [cell_of (heap_alloc_new w _)]; rfl
set_option maxRecDepth 20000 in
theorem pen_field (h : Pen w lo hi a xs p big false) (n : Nat) (h0 : 0 < n) (hn : p + n ≤ xs.length) :
    Calls Tryz.prog 179 #[.pointer (some ⟨a, 0, none⟩), .int .i64 n] w fun e w' =>
      e = .returned (.string (strOfNums (pre ((xs.drop p).take n)))) ∧ Pen w' lo hi a xs (p + n) big false ∧ w.grownBy w' (some a) := by
  obtain ⟨⟨base, q, c, hc, hl, ho⟩, h1, h2, h3⟩ := h
  have hsm : Small ((xs.drop p).take n) := fun x hx => hc.bytes x (List.mem_of_mem_drop (List.mem_of_mem_take hx))
  have hlen : ((xs.drop p).take n).length = n := by rw [List.length_take, List.length_drop]; omega
  have hbig := hc.big
  have hix := index_pre _ hsm
  have hpt := pre_take ((xs.drop p).take n)
  have hpl := pre_le ((xs.drop p).take n)
  have T := Lib.hid (take_ok hc n hn)
  have PN := Lib.hid (fun (w' : World) (h : Cur w' base a q c xs (p + n) big false) (hg : w.grownBy w' (some a)) => (⟨⟨base, q, c, h, hl, ho⟩, h1, h2, Nat.le_trans h3 hg.size⟩ : Pen w' lo hi a xs (p + n) big false))
  rw [hlen] at hix hpl
  generalize (xs.drop p).take n = L at *
  obtain ⟨k, hk⟩ : ∃ k, k = (pre L).length := ⟨_, rfl⟩
  rw [← hk] at hix hpt hpl
  have IX := Lib.hid hix
  have PT := Lib.hid hpt
  have HL := Lib.hid hlen
  have AL := Lib.hid hc.lt
  have HO := Lib.hid ho
  clear hix hpt hlen hsm ho hl hk hc h1 h2 h3
  have hkI : (k : Int) ≤ n := by omega
  go_enter Tryz.func179, Tryz.ntmps179
  go_wp2_with fail
  refine T.out.mono ?_
  rintro e w1 ⟨⟨q', rfl, hb, _⟩, hcur, hg⟩
  obtain ⟨b, o, rfl, hcell⟩ := hb.2 (by rw [HL.out]; exact h0)
  have g1 := grown1 w1 (.cells #[.int .u8 0] 5)
  have HB := Lib.hid (hb.kept g1 (by simp))
  have G1 := Lib.hid (grown_then hg g1)
  have HC := Lib.hid (hcur.kept g1 (by simp) (by cases (Value.slice q xs.length c).ownBlock <;> simp))
  have hidx := Tryz.bytes_Index_one_at ⟨b, o, none⟩ n n w1.heap.size 0 1 L 0 (w1.alloc (.cells #[.int .u8 0] 5)) HL.out (fun i hi => by
    have := HB.out.ways
    rcases this with ⟨h, _⟩ | ⟨x, h, hx⟩
    · cases h
    · injection h with h; subst h; exact hx i (by rw [HL.out]; exact hi)) (one_zero w1)
  rw [IX.out] at hidx
  by_cases hlt : k < n
  · rw [if_pos hlt] at hidx
    have CU := Lib.hid (Tryz.bytes_Cut_of (some ⟨b, o, none⟩) (some ⟨w1.heap.size, 0, none⟩) n n 1 1 (k : Int) (w1.alloc (.cells #[.int .u8 0] 5)) (Nat.le_refl _) (by omega) (fun _ => by omega) (by omega) (hidx.mono (fun e w' h => ⟨h.1, 0, h.2⟩)))
    clear hidx hcell hb hcur hg g1
    unfold Lib.cutV at CU
    rw [if_pos (by omega)] at CU
    obtain ⟨FV, hFV⟩ : ∃ v, Lib.fromV (some ⟨b, o, none⟩) n n ((k : Int).toNat + 1) = v := ⟨_, rfl⟩
    rw [hFV] at CU
    clear hFV
    go_wp2_with fail
    refine CU.out.mono ?_
    rintro e w2 ⟨rfl, j, rfl⟩
    have cv := ((HB.out.take (c' := n) k (fun h => by cases h)).drewN j).text (n := k) (by rw [List.length_take, HL.out]; omega)
    have GD := Lib.hid (grown_drewN G1.out j)
    have HD := Lib.hid (HC.out.drewN j)
    rw [← PT.out] at cv
    clear HC G1
    go_wp2
    go_ret
    exact ⟨rfl, PN.out _ HD.out GD.out, GD.out⟩
  · rw [if_neg hlt] at hidx
    have CU := Lib.hid (Tryz.bytes_Cut_of (some ⟨b, o, none⟩) (some ⟨w1.heap.size, 0, none⟩) n n 1 1 (-1) (w1.alloc (.cells #[.int .u8 0] 5)) (Nat.le_refl _) (by omega) (fun h => by omega) (by omega) (hidx.mono (fun e w' h => ⟨h.1, 0, h.2⟩)))
    clear hidx hcell hb hcur hg g1
    unfold Lib.cutV at CU
    rw [if_neg (by omega)] at CU
    have hkn : k = n := by omega
    subst hkn
    go_wp2_with fail
    refine CU.out.mono ?_
    rintro e w2 ⟨rfl, j, rfl⟩
    have cv := (HB.out.drewN j).text (n := k) HL.out
    have GD := Lib.hid (grown_drewN G1.out j)
    have HD := Lib.hid (HC.out.drewN j)
    have hpe : pre L = L := by rw [PT.out, List.take_of_length_le (by rw [HL.out]; exact Nat.le_refl _)]
    clear HC G1
    go_wp2
    go_ret
    exact ⟨by rw [hpe]; rfl, PN.out _ HD.out GD.out, GD.out⟩

/-- A text, where one stands that may be taken; else no bytes, and it has failed or not. -/
theorem pen_text (h : Pen w lo hi a xs p big bad) (m : Nat) :
    Calls Tryz.prog 183 #[.pointer (some ⟨a, 0, none⟩), .int .i64 m] w fun e w' =>
      e = .returned (.string (strOfNums (if bad = false ∧ (pre (xs.drop p)).length < (xs.drop p).length ∧ (pre (xs.drop p)).length ≤ m then pre (xs.drop p) else []))) ∧ w.grownBy w' (some a) := by
  obtain ⟨⟨base, q, c, hc, hl, ho⟩, h1, h2, h3⟩ := h
  by_cases hb : bad = true
  · subst hb
    rw [if_neg (by simp)]
    refine (text_no hc m (.inl rfl)).mono ?_
    rintro e w' ⟨rfl, _, hg⟩
    exact ⟨rfl, hg⟩
  · obtain rfl : bad = false := by simpa using hb
    by_cases hx : (pre (xs.drop p)).length < (xs.drop p).length ∧ (pre (xs.drop p)).length ≤ m
    · rw [if_pos ⟨rfl, hx⟩]
      refine (text_ok hc m ⟨hx.1, by omega⟩).mono ?_
      rintro e w' ⟨rfl, _, hg⟩
      exact ⟨rfl, hg⟩
    · rw [if_neg (fun h => hx h.2)]
      refine (text_no hc m (.inr (by unfold textLen; rw [if_neg (fun h => hx ⟨h.1, by omega⟩)]))).mono ?_
      rintro e w' ⟨rfl, _, hg⟩
      exact ⟨rfl, hg⟩
end Go.Proofs.YtdagnkdonlfobaaGreat
