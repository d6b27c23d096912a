import Derived.Test.YtblfighfahffkaaT2
import Derived.Test.YtblfighfahffkaaT3
import Derived.Deep.AppendSrc
import Derived.Test.YtblfighfahffkaaT9
import Derived.Test.YtblfighfahffkaaT10
import Derived.ProofKit
import Derived.OpenShut
import Derived.ShutString
import Derived.ChangeOld
import Derived.Below
import Derived.ChangeSame
import Derived.Lib.SmallJoins
/- A string's bytes appended onto bytes of the call's own. Conditions: its length is within bounds. -/
namespace Go.Proofs.Ytblfighfahffkaa
open Go.RowKit
variable {w : World} {base : Nat}

theorem byteCells_nums {l : List Int} (h : Byt l) : byteCells (strOfNums l) = l.map (Value.int .u8) := by
  unfold byteCells
  rw [strOfNums_data, List.map_map]
  apply List.map_congr_left
  intro x hx
  have := h x hx
  simp only [Function.comp, UInt8.toNat_ofNat']
  congr 1
  omega
set_option maxRecDepth 20000 in
theorem run_append_own_str (v : Value) (n : Nat) (xs : List Value) (hown : w.ownsRow base 5 1 v n xs) (s : ByteArray) (hbytes : n + s.size ≤ 140737488355328) (hbase : base ≤ w.heap.size) :
    ∃ v' w', (Builtin.append_ #[22, 9] 22 #[v, .string s]).run Try.prog w = .ok v' w' ∧ w'.ownsRow base 5 1 v' (n + s.size) (xs ++ byteCells s) ∧ w.grownBy w' v.ownBlock ∧ (v'.ownBlock = v.ownBlock ∨ v'.ownBlock = some w.heap.size) := by
  obtain ⟨i, hi, hz, hs, hb⟩ := info_parts info_u8
  have hu := Try.underlying22
  have hk := Try.underlying9
  have SRC : Src Try.prog i.size 9 (.string s) s.size (byteCells s) w := by rw [hs]; exact Src.ofString w hk s
  have hl : (byteCells s).length = s.size * 1 := by rw [byteCells_length, Nat.mul_one]
  have hlen : (xs ++ byteCells s).length = (n + s.size) * 1 := by rw [List.length_append, hown.1, hl, Nat.add_mul]
  have grown : ∀ (old : Nat), old < n + s.size → ∀ (row : Option Nat),
      (w.drew.alloc (.cells ((xs ++ byteCells s).toArray ++ Builtin.zeroCells (Value.int .u8 0).cells (grownCap w (n + s.size) old 5 - (n + s.size))) 5)).ownsRow base 5 1
        (.slice (some ⟨w.heap.size, 0, none⟩) (n + s.size) (grownCap w (n + s.size) old 5)) (n + s.size) (xs ++ byteCells s) ∧
      w.grownBy (w.drew.alloc (.cells ((xs ++ byteCells s).toArray ++ Builtin.zeroCells (Value.int .u8 0).cells (grownCap w (n + s.size) old 5 - (n + s.size))) 5)) row := by
    intro old ho row
    have hge := grownCap_ge w (n + s.size) old 5
    have hcm : grownCap w (n + s.size) old 5 ≤ maxLen := grownCap_le_maxLen w (n + s.size) old 5 (by unfold maxLen; omega)
    refine ⟨⟨hlen, .inr ⟨w.heap.size, _, _, rfl, hbase, heap_alloc_new w.drew _, hge, hcm, ?_, ?_⟩⟩, ⟨rfl, rfl, rfl, by simp, fun k hk _ => Go.heap_alloc_old w.drew _ hk⟩⟩
    · rw [Array.size_append, size_zeroCells, List.size_toArray, hlen]
      show (n + s.size) * 1 + _ * 1 = _
      omega
    · rw [Array.toList_append, ← hlen]
      exact List.take_left
  rcases hown.2 with ⟨rfl, rfl⟩ | ⟨g, cap, cur, rfl, hbg, hg, hnc, hcm, hcs, htake⟩
  · have hx : xs = [] := List.eq_nil_of_length_eq_zero (by simpa using hown.1)
    subst hx
    by_cases hm : s.size = 0
    · have hn : byteCells s = [] := List.eq_nil_of_length_eq_zero (by rw [hl, hm])
      refine ⟨.slice none 0 0, w, ?_, by rw [hn, hm]; exact World.ownsRow_nil w base _ _, grown_refl w _, .inl rfl⟩
      have h2 := SRC.cells
      rw [hn, hs, hm] at h2
      simp [Builtin.append_, run_underlying hu, run_underlying hk, sizeOf, typeInfo, hi, SRC.len, hs, hm, h2, Result.andThen]
    · have hr := run_append_grow_src (P := Try.prog) w 22 9 22 5 i (.int .u8 0) hu hi hz none 0 0 [] (run_firstCells_none w.drew i.size 0 0 0) (.string s) s.size (byteCells s) SRC (by omega) (by omega) (by rw [hb]; exact growslice_fits (by omega) (by omega))
      have hgr := grown 0 (by omega) (Value.ownBlock (.slice none 0 0))
      simp only [Nat.zero_add, List.nil_append] at hr hgr ⊢
      exact ⟨_, _, hr, hgr.1, hgr.2, .inr rfl⟩
  · by_cases hroom : n + s.size ≤ cap
    · have hfit : n * 1 + (byteCells s).length ≤ cur.size := by rw [hl, hcs, ← Nat.add_mul]; exact Nat.mul_le_mul_right _ hroom
      have hst := run_storeCells_at Try.prog g (n * 1) 5 (byteCells s) 0 cur w hg (by simpa using hfit) SRC.one
      simp only [Nat.add_zero, Nat.mul_one] at hst
      have hr : (Builtin.append_ #[22, 9] 22 #[.slice (some ⟨g, 0, none⟩) n cap, .string s]).run Try.prog w =
          .ok (.slice (some ⟨g, 0, none⟩) (n + s.size) cap) (w.setRow g (cur.toList.take (n * 1) ++ byteCells s ++ cur.toList.drop (n * 1 + (byteCells s).length)).toArray) := by
        have h2 := SRC.cells
        rw [hs] at h2
        simp [Builtin.append_, run_underlying hu, run_underlying hk, sizeOf, typeInfo, hi, hs, SRC.len, hroom, h2, Addr.add_lit, hst]
      refine ⟨_, _, hr, ⟨hlen, .inr ⟨g, cap, _, rfl, hbg, setRow_heap w g cur _ _ _ hg, hroom, hcm, ?_, ?_⟩⟩, ⟨rfl, rfl, rfl, by simp, fun k _ hk => setRow_other w g k _ (fun e => hk (by simp [Value.ownBlock, e]))⟩, .inl rfl⟩
      · simp only [List.size_toArray, List.length_append, List.length_take, List.length_drop, Array.length_toList]
        omega
      · rw [htake, ← hlen]
        exact List.take_left
    · have holds : ∀ j u, xs[j]? = some u → w.cell? ((⟨g, 0, none⟩ : Addr).add j) = some u := hown.cells (g := g) rfl
      have hold : (Builtin.firstCells i.size n (.slice (some ⟨g, 0, none⟩) n cap)).run Try.prog w.drew = .ok xs.toArray w.drew :=
        run_firstCells_some w.drew i.size n ⟨g, 0, none⟩ n cap xs (by rw [hs]; exact hown.1) (by simpa using holds)
      have hr := run_append_grow_src (P := Try.prog) w 22 9 22 5 i (.int .u8 0) hu hi hz (some ⟨g, 0, none⟩) n cap xs hold (.string s) s.size (byteCells s) SRC (by omega) (by omega) (by rw [hb]; exact growslice_fits (by omega) (by omega))
      have hgr := grown cap (by omega) (Value.ownBlock (.slice (some ⟨g, 0, none⟩) n cap))
      exact ⟨_, _, hr, hgr.1, hgr.2, .inr rfl⟩
theorem wp_append_str {ops : Array Oper} {rest : List Oper} {o : Oper} {a : Act} {Q : Exit → Act → World → Prop} (hgd : o.guard = none) (s x : Operand)
    (ho : o.op = .call { callee := .builtin .append, args := #[s, x], argTypes := #[22, 9] }) (hty : o.type = 22)
    (v : Value) (n : Nat) (xs : List Value) (hs : a.eval s = v) (hown : w.ownsRow base 5 1 v n xs) (l : List Int) (hb : Byt l) (hx : a.eval x = .string (strOfNums l))
    (h63 : n + l.length ≤ 140737488355328) (hbase : base ≤ w.heap.size)
    (h : ∀ v' w', w'.ownsRow base 5 1 v' (n + l.length) (xs ++ l.map (Value.int .u8)) → w.grownBy w' v.ownBlock → (v'.ownBlock = v.ownBlock ∨ v'.ownBlock = some w.heap.size) → wpList Try.prog ops Q rest (a.put o.dst v') w') : wpList Try.prog ops Q (o :: rest) a w := by
  refine wpList_plain hgd fun K hK => ?_
  obtain ⟨v', w', hr, h2, h3, h5⟩ := run_append_own_str v n xs hown (strOfNums l) (by rw [strOfNums_size]; exact h63) hbase
  rw [strOfNums_size, byteCells_nums hb] at h2
  rw [← hty] at hr
  unfold Oper.wp execOp
  simp only [ho, resolve, invoke, builtin, Sem.run_bind, Sem.run_pure, Result.andThen_ok, List.map_toArray, List.map_cons, List.map_nil, hs, hx]
  rw [hty] at hr ⊢
  simp only [hr]
  exact hK _ _ (h v' w' h2 h3 h5)
end Go.Proofs.Ytblfighfahffkaa

/- The walk of TrieRound: tries that go round. -/
namespace Go.Proofs.Ytblfighfahffkaa.trieRound
open Go.RowKit Go.PlainAid
theorem bt_at {l : List Int} (h : Byt l) {i : Nat} (hi : i < l.length) : bt (strOfNums l) i = l.getD i 0 := by
  have h0 : i < (strOfNums l).size := by rw [strOfNums_size]; exact hi
  unfold bt
  rw [dif_pos h0]
  have hx := h (l[i]) (List.getElem_mem hi)
  have e : (strOfNums l)[i] = UInt8.ofNat (l[i]).toNat := by
    have := strOfNums_data l
    show (strOfNums l).data[i] = _
    have h1 : (strOfNums l).data.toList[i]'(by rw [Array.length_toList]; exact h0) = (l.map fun x => UInt8.ofNat x.toNat)[i]'(by rw [List.length_map]; exact hi) := by
      congr 1
    rw [Array.getElem_toList] at h1
    rw [h1, List.getElem_map]
  rw [e]
  simp only [UInt8.toNat_ofNat', List.getD_eq_getElem?_getD, List.getElem?_eq_getElem hi, Option.getD_some]
  omega
def toN (one r : Int) : Int := if r = 0 then 0 else if r = 1 then one else if r = 2 then 2 * one else 1
theorem own_of_new {w : World} {base : Nat} {T : TypeId} {l : List Value} (hb : base ≤ w.heap.size) (hl : l.length ≤ 1000) : (w.alloc (.cells l.toArray T (0, 0))).ownsRow base T 1 (.slice (some ⟨w.heap.size, 0, none⟩) l.length l.length) l.length l :=
  ⟨by rw [Nat.mul_one], .inr ⟨w.heap.size, l.length, l.toArray, rfl, hb, heap_alloc_new w _, Nat.le_refl _, by unfold maxLen; omega, by simp, by simp⟩⟩
set_option maxHeartbeats 6400000 in
set_option maxRecDepth 20000 in
theorem walk (t : List Int) (back : Int) (w : World) (ht : Byt t) (htm : t.length ≤ 9223372036854775807) (hbk : (Lit.int .i64 back).wf = true) :
    Calls Try.prog 7 #[.string (strOfNums t), .int .i64 back] w fun e w' => e = .returned (.bool true) ∧ Below w.heap.size w w' := by
  have K := Lib.hid (fun w : World => known9_any w)
  have BL := Lib.hid (fun (w' : World) (h : w.grownBy w' none) => (below_grown h (Nat.le_refl _) (fun k e => by cases e) : Below w.heap.size w w'))
  have hst : (strOfNums t).size = t.length := strOfNums_size _
  have hbr := i64_range hbk
  by_cases hbad : t.length < 1 ∨ 200 < t.length ∨ back < 0
  · have hbad2 := hbad
    by_cases h1 : t.length < 1
    · have d1 : decide ((t.length : Int) < 1) = true := by simp; omega
      clear hbad hbad2 ht
      go_enter Try.func7, Try.ntmps7
      go_wp2_with fail
      refine (K.out _).mono ?_
      rintro e w' ⟨rfl, hg⟩
      have B := Lib.hid (BL.out _ hg)
      clear hg
      go_wp2
      go_ret
      exact ⟨rfl, B.out⟩
    have d1 : decide ((t.length : Int) < 1) = false := by simp; omega
    by_cases h2 : 200 < t.length
    · have d2 : decide ((200 : Int) < (t.length : Int)) = true := by simp; omega
      clear hbad hbad2 ht
      go_enter Try.func7, Try.ntmps7
      go_wp2_with fail
      refine (K.out _).mono ?_
      rintro e w' ⟨rfl, hg⟩
      have B := Lib.hid (BL.out _ hg)
      clear hg
      go_wp2
      go_ret
      exact ⟨rfl, B.out⟩
    have d2 : decide ((200 : Int) < (t.length : Int)) = false := by simp; omega
    have h3 : back < 0 := by omega
    have d3 : decide (back < 0) = true := by simpa using h3
    clear hbad hbad2 ht
    go_enter Try.func7, Try.ntmps7
    go_wp2_with fail
    refine (K.out _).mono ?_
    rintro e w' ⟨rfl, hg⟩
    have B := Lib.hid (BL.out _ hg)
    clear hg
    go_wp2
    go_ret
    exact ⟨rfl, B.out⟩
  have d1 : decide ((t.length : Int) < 1) = false := by simp; omega
  have d2 : decide ((200 : Int) < (t.length : Int)) = false := by simp; omega
  have d3 : decide (back < 0) = false := by simp; omega
  have hb1 : 1 ≤ t.length := by omega
  have hb2 : t.length ≤ 200 := by omega
  have hb3 : 0 ≤ back := by omega
  have HT := Lib.hid ht
  clear hbad ht
  go_enter Try.func7, Try.ntmps7
  go_upto_region 4 with fail
  clear d1 d2 d3
  go_loopw [5] (fun vi wl => ∃ i : Nat, i ≤ t.length ∧ vi = .int .i64 i ∧ wl = w ∧ Hid (∀ j, j < i → t.getD j 0 ≠ 0)) (fun vi _ => t.length - (intOf vi).toNat)
  case atStart => exact ⟨0, Nat.zero_le _, rfl, rfl, Lib.hid (fun j h => by omega)⟩
  case round =>
    obtain ⟨i, hi, rfl, hwl, NO⟩ := hrel
    have hwl2 := hwl.symm
    subst hwl2
    clear hwl
    by_cases hlt : i < t.length
    · have k1 := get_bt (strOfNums t)
      have k2 := bt_at HT.out hlt
      have di : decide ((i : Int) < (t.length : Int)) = true := by simp; omega
      have di2 : (i : Int) < (t.length : Int) := by omega
      by_cases hz : t.getD i 0 = 0
      · have dz : (bt (strOfNums t) i == 0) = true := by rw [k2, hz]; rfl
        clear hz k2
        go_wp2_with fail
        refine (K.out _).mono ?_
        rintro e w' ⟨rfl, hg⟩
        have B := Lib.hid (BL.out _ hg)
        clear hg
        go_wp2
        go_ret
        exact ⟨rfl, B.out⟩
      · have dz : (bt (strOfNums t) i == 0) = false := by rw [k2]; simpa using hz
        have NO2 := Lib.hid (show ∀ j, j < i + 1 → t.getD j 0 ≠ 0 from fun j hj => by
          rcases Nat.lt_or_ge j i with h | h
          · exact NO.out j h
          · obtain rfl : j = i := by omega
            exact hz)
        clear hz k2 NO
        go_wp2_with fail
        go_roundw
        case rel => exact ⟨i + 1, by omega, by go_num, by first | rfl | trivial, Lib.hid NO2.out⟩
        case measure => simp [intOf]; omega
    · have di : decide ((i : Int) < (t.length : Int)) = false := by simp; omega
      have di2 : decide (i < t.length) = false := by simp; omega
      have NZ := Lib.hid (show ∀ x ∈ t, x ≠ 0 from fun x hx => by
        obtain ⟨j, hj, e⟩ := List.getElem_of_mem hx
        have h := NO.out j (by omega)
        rw [List.getD_eq_getElem?_getD, List.getElem?_eq_getElem hj, Option.getD_some, e] at h
        exact h)
      clear NO hlt hi
      go_upto_region 9 with fail
      clear di di2
      have o1 := own_of_new (w := w) (base := w.heap.size) (T := 5) (l := [.int .u8 0, .int .u8 1]) (Nat.le_refl _) (by decide)
      have O1 := Lib.hid o1
      have G1 := Lib.hid (grown1 w (.cells #[.int .u8 0, .int .u8 1] 5))
      clear o1
      go_wp2_with (at_builtin; refine wp_append_str rfl _ _ rfl rfl _ 2 _ rfl O1.out t HT.out rfl (by omega) (by rw [World.size_alloc]; omega) ?_)
      intro v2 w2 ho2 hg2 hv2
      rw [show 2 + t.length = t.length + 2 by omega] at ho2
      obtain ⟨q2, c2, rfl⟩ := own_slice ho2
      have G2 := Lib.hid (grown_opt G1.out hg2 (fun g e => (O1.out.lt g e).1))
      have O2 := Lib.hid ho2
      clear ho2 hg2 hv2 O1 G1
      have g23 := grown1 w2 (.cells #[.int .u8 0, .int .u8 (((t.length : Int) + 4) % 128 + 128), .int .u8 (((t.length : Int) + 4) / 128)] 5)
      have OA2 := Lib.hid (own_grown O2.out g23)
      have ob2 := IsBytes.of_own (ys := [0, ((t.length : Int) + 4) % 128 + 128, ((t.length : Int) + 4) / 128]) rfl (own_of_new (w := w2) (base := 0) (T := 5) (l := [.int .u8 0, .int .u8 (((t.length : Int) + 4) % 128 + 128), .int .u8 (((t.length : Int) + 4) / 128)]) (Nat.zero_le _) (by simp))
      have OB2 := Lib.hid ob2
      have GA2 := Lib.hid (grown_trans G2.out g23)
      clear g23 ob2
      go_wp2_with (at_builtin; refine wp_append_at rfl _ _ rfl rfl _ (t.length + 2) _ rfl OA2.out [0, ((t.length : Int) + 4) % 128 + 128, ((t.length : Int) + 4) / 128] 3 rfl rfl OB2.out (by omega) (GA2.out.size) ?_)
      intro v3 w3 ho3 hg3 hv3
      rw [show t.length + 2 + 3 = t.length + 5 by omega] at ho3
      obtain ⟨q3, c3, rfl⟩ := own_slice ho3
      have G3 := Lib.hid (grown_opt GA2.out hg3 (fun g e => (OA2.out.lt g e).1))
      clear ho3 hg3 hv3 OA2 OB2 GA2 O2 G2
      have o4 := own_of_new (w := w3) (base := w.heap.size) (T := 5) (l := [.int .u8 0, .int .u8 1]) G3.out.size (by decide)
      have O4 := Lib.hid o4
      have G4 := Lib.hid (grown_trans G3.out (grown1 w3 (.cells #[.int .u8 0, .int .u8 1] 5)))
      clear o4
      go_wp2_with (at_builtin; refine wp_append_str rfl _ _ rfl rfl _ 2 _ rfl O4.out t HT.out rfl (by omega) (G4.out.size) ?_)
      intro v5 w5 ho5 hg5 hv5
      rw [show 2 + t.length = t.length + 2 by omega] at ho5
      obtain ⟨q5, c5, rfl⟩ := own_slice ho5
      have G5 := Lib.hid (grown_opt G4.out hg5 (fun g e => (O4.out.lt g e).1))
      have O5 := Lib.hid ho5
      clear ho5 hg5 hv5 O4 G4 G3
      have g53 := grown1 w5 (.cells #[.int .u8 0, .int .u8 (((t.length : Int) + 5) % 128 + 128), .int .u8 (((t.length : Int) + 5) / 128)] 5)
      have OA5 := Lib.hid (own_grown O5.out g53)
      have ob5 := IsBytes.of_own (ys := [0, ((t.length : Int) + 5) % 128 + 128, ((t.length : Int) + 5) / 128]) rfl (own_of_new (w := w5) (base := 0) (T := 5) (l := [.int .u8 0, .int .u8 (((t.length : Int) + 5) % 128 + 128), .int .u8 (((t.length : Int) + 5) / 128)]) (Nat.zero_le _) (by simp))
      have OB5 := Lib.hid ob5
      have GA5 := Lib.hid (grown_trans G5.out g53)
      clear g53 ob5
      go_wp2_with (at_builtin; refine wp_append_at rfl _ _ rfl rfl _ (t.length + 2) _ rfl OA5.out [0, ((t.length : Int) + 5) % 128 + 128, ((t.length : Int) + 5) / 128] 3 rfl rfl OB5.out (by omega) (GA5.out.size) ?_)
      intro v6 w6 ho6 hg6 hv6
      rw [show t.length + 2 + 3 = t.length + 5 by omega] at ho6
      obtain ⟨q6, c6, rfl⟩ := own_slice ho6
      have G6 := Lib.hid (grown_opt GA5.out hg6 (fun g e => (OA5.out.lt g e).1))
      have O6 := Lib.hid (show w6.ownsRow w.heap.size 5 1 (.slice q6 (t.length + 5) c6) (t.length + 5) ((ndB t ((t.length : Int) + 5)).map (Value.int .u8)) from by
        have e : (ndB t ((t.length : Int) + 5)).map (Value.int .u8) = ([.int .u8 0, .int .u8 1] ++ t.map (Value.int .u8)) ++ [0, ((t.length : Int) + 5) % 128 + 128, ((t.length : Int) + 5) / 128].map (Value.int .u8) := by simp [ndB]
        rw [e]; exact ho6)
      clear ho6 hg6 hv6 OA5 OB5 GA5 O5 G5
      go_upto_region 12 with fail
      obtain ⟨r, hr4, hmod⟩ : ∃ r : Nat, r < 4 ∧ back % 4 = (r : Int) := ⟨(back % 4).toNat, by omega, by omega⟩
      obtain ⟨T, hT⟩ : ∃ T, T = toN ((t.length : Int) + 5) r := ⟨_, rfl⟩
      have g7 := grown1 w6 (.cells #[.int .i64 0, .int .i64 ((t.length : Int) + 5), .int .i64 (2 * ((t.length : Int) + 5)), .int .i64 1] 3)
      have hcell : (w6.alloc (.cells #[.int .i64 0, .int .i64 ((t.length : Int) + 5), .int .i64 (2 * ((t.length : Int) + 5)), .int .i64 1] 3 (0, 0))).cell? ⟨w6.heap.size, r, none⟩ = some (.int .i64 T) := by
        rw [cell_of (heap_alloc_new w6 _), hT]
        match r, hr4 with
        | 0, _ => rfl
        | 1, _ => rfl
        | 2, _ => rfl
        | 3, _ => rfl
      have hTb : 0 ≤ T ∧ T ≤ 2 * ((t.length : Int) + 5) := by
        rw [hT]; unfold toN
        split
        · omega
        split
        · omega
        split <;> omega
      have HRT := Lib.hid (And.intro hmod (And.intro hT hr4))
      have G7 := Lib.hid (grown_trans G6.out g7)
      have O7 := Lib.hid (own_grown O6.out g7)
      clear g7 hT G6 O6
      have hri : decide ((r : Int) < 4) = true := by simp; omega
      have hri2 : (r : Int) < 4 := by omega
      go_upto_region 13 with fail
      clear hcell hri hri2 hmod
      obtain ⟨w7, hw7⟩ : ∃ w7, w6.alloc (.cells #[.int .i64 0, .int .i64 ((t.length : Int) + 5), .int .i64 (2 * ((t.length : Int) + 5)), .int .i64 1] 3 (0, 0)) = w7 := ⟨_, rfl⟩
      rw [hw7] at G7 O7 ⊢
      clear hw7
      obtain ⟨ND, hND⟩ : ∃ L, L = ndB t ((t.length : Int) + 5) := ⟨_, rfl⟩
      rw [← hND] at O7
      have HND := Lib.hid hND
      clear hND
      have g8 := grown1 w7 (.cells #[.int .u8 0, .int .u8 1] 5)
      have OA8 := Lib.hid (own_grown O7.out g8)
      have ob8 := IsBytes.of_own (ys := [0, 1]) rfl (own_of_new (w := w7) (base := 0) (T := 5) (l := [.int .u8 0, .int .u8 1]) (Nat.zero_le _) (by decide))
      have OB8 := Lib.hid ob8
      have GA8 := Lib.hid (grown_trans G7.out g8)
      clear g8 ob8
      go_wp2_with (at_builtin; refine wp_append_at rfl _ _ rfl rfl _ (t.length + 5) _ rfl OA8.out [0, 1] 2 rfl rfl OB8.out (by omega) (GA8.out.size) ?_)
      intro v8 w8 ho8 hg8 hv8
      rw [show t.length + 5 + 2 = t.length + 7 by omega] at ho8
      obtain ⟨q8, c8, rfl⟩ := own_slice ho8
      have G8 := Lib.hid (grown_opt GA8.out hg8 (fun g e => (OA8.out.lt g e).1))
      have O8 := Lib.hid ho8
      clear ho8 hg8 hv8 OA8 OB8 GA8 O7 G7
      go_wp2_with (at_builtin; refine wp_append_str rfl _ _ rfl rfl _ (t.length + 7) _ rfl O8.out t HT.out rfl (by omega) (G8.out.size) ?_)
      intro v9 w9 ho9 hg9 hv9
      obtain ⟨q9, c9, rfl⟩ := own_slice ho9
      have G9 := Lib.hid (grown_opt G8.out hg9 (fun g e => (O8.out.lt g e).1))
      have O9 := Lib.hid ho9
      clear ho9 hg9 hv9 O8 G8
      have g93 := grown1 w9 (.cells #[.int .u8 0, .int .u8 (T % 128 + 128), .int .u8 (T / 128)] 5)
      have OA9 := Lib.hid (own_grown O9.out g93)
      have ob9 := IsBytes.of_own (ys := [0, T % 128 + 128, T / 128]) rfl (own_of_new (w := w9) (base := 0) (T := 5) (l := [.int .u8 0, .int .u8 (T % 128 + 128), .int .u8 (T / 128)]) (Nat.zero_le _) (by simp))
      have OB9 := Lib.hid ob9
      have GA9 := Lib.hid (grown_trans G9.out g93)
      clear g93 ob9
      go_wp2_with (at_builtin; refine wp_append_at rfl _ _ rfl rfl _ (t.length + 7 + t.length) _ rfl OA9.out [0, T % 128 + 128, T / 128] 3 rfl rfl OB9.out (by omega) (GA9.out.size) ?_)
      intro v10 w10 ho10 hg10 hv10
      obtain ⟨n10, hn10⟩ : ∃ n, n = t.length + 7 + t.length + 3 := ⟨_, rfl⟩
      rw [← hn10] at ho10
      obtain ⟨q10, c10, rfl⟩ := own_slice ho10
      have G10 := Lib.hid (grown_opt GA9.out hg10 (fun g e => (OA9.out.lt g e).1))
      have hlist : (rndB t T).length = n10 := by rw [rnd_len, hn10]; omega
      have IO := Lib.hid (IsBytes.of_own (ys := rndB t T) hlist (show w10.ownsRow w.heap.size 5 1 (.slice q10 n10 c10) n10 ((rndB t T).map (Value.int .u8)) from by
        have e : (rndB t T).map (Value.int .u8) = ND.map (Value.int .u8) ++ .int .u8 0 :: .int .u8 1 :: (t.map (Value.int .u8) ++ [.int .u8 0, .int .u8 (T % 128 + 128), .int .u8 (T / 128)]) := by
          rw [HND.out]; simp [rndB, ndB]
        rw [e]; exact ho10))
      have HC := Lib.hid (And.intro hlist (And.intro (own_room8 ho10) (own_max ho10)))
      have HN10 := Lib.hid (show n10 ≤ 1000 by omega)
      clear ho10 hg10 hv10 OA9 OB9 GA9 O9 G9 hlist hn10
      have HY := Lib.hid (show Byt (rndB t T) from by
        intro y hy
        unfold rndB ndB at hy
        simp only [List.mem_append, List.mem_cons, List.not_mem_nil, or_false] at hy
        have h5 := hTb
        rcases hy with ((h | h) | (h | (h | h | h))) | ((h | h) | (h | (h | h | h)))
        all_goals first | exact HT.out y h | omega)
      have HS := Lib.hid hst
      have ER := Lib.hid (fun (h : (r : Int) < 3) => (show (allN (rndB t T)).2 ≠ 0 from by
        refine rnd_round (by intro e; rw [e] at hb1; simp at hb1) NZ.out hb2 hTb.1 (by omega) ?_
        have hT := HRT.out.2.1
        have h4 := HRT.out.2.2
        unfold toN at hT
        split at hT
        · exact .inl hT
        split at hT
        · exact .inr (.inl (by rw [hT]; omega))
        split at hT
        · exact .inr (.inr (by rw [hT]; omega))
        · omega))
      have HM := Lib.hid HRT.out.1
      have HR4 := Lib.hid HRT.out.2.2
      have HT2 := Lib.hid (show Byt (t ++ t) from HT.out.app HT.out)
      obtain ⟨bs, hbs⟩ : ∃ b, b = rndB t T := ⟨_, rfl⟩
      rw [← hbs] at IO HC HY ER
      clear hbs HRT hTb NZ HND
      have AL := Lib.hid (All_any (w := w10) IO.out HC.out.1 HY.out HC.out.2.1 HC.out.2.2 (by have := HN10.out; omega))
      have RA := Lib.hid (fun (W : World) (h : w10.grownBy W none) => refAll_any (w := W) (IO.out.kept h (by simp)) HC.out.1 HY.out HC.out.2.1 HC.out.2.2 (by have := HN10.out; omega))
      have FA := Lib.hid (fun (W : World) (h : w10.grownBy W none) => Find_any (w := W) (IO.out.kept h (by simp)) HC.out.1 HY.out HC.out.2.1 HC.out.2.2 (by have := HN10.out; omega) (t ++ t) HT2.out (by rw [List.length_append]; omega))
      have RF := Lib.hid (fun (W : World) (h : w10.grownBy W none) => refFind_any (w := W) (IO.out.kept h (by simp)) HC.out.1 HY.out HC.out.2.1 HC.out.2.2 (by have := HN10.out; omega) (t ++ t) HT2.out (by rw [List.length_append]; omega))
      go_upto_region 14 with fail
      go_wp2_with fail
      refine AL.out.mono ?_
      rintro e w11 ⟨⟨D, qa, ca, rfl, hD, hR, hP, hlc, hc63⟩, hg⟩
      have GA := Lib.hid (grown_trans G10.out hg)
      have GO := Lib.hid hg
      have RD := Lib.hid hD
      have RI := Lib.hid (And.intro hR hP)
      have DL := Lib.hid (And.intro hlc hc63)
      clear hD hR hP hlc hc63 hg AL
      go_wp2_with fail
      refine (RA.out w11 GO.out).mono ?_
      rintro e w12 ⟨⟨E, qb, cb, rfl, hD, hR, hP, -, -⟩, hg⟩
      obtain rfl : D = E := all_one HY.out RI.out.1 RI.out.2 hR hP
      have GA2 := Lib.hid (grown_trans GA.out hg)
      have GO2 := Lib.hid (grown_trans GO.out hg)
      have SM := Lib.hid (same9_any D D.length rfl qa qb ca cb (by have := DL.out; omega) (RD.out.grown hg) hD)
      clear hD hR hP hg RA RD RI GA GO
      obtain ⟨er, her⟩ : ∃ er, er = (allN bs).2 := ⟨_, rfl⟩
      rw [← her] at ER
      rw [← her]
      clear her
      obtain ⟨dn, hdn⟩ : ∃ dn, dn = D.length := ⟨_, rfl⟩
      rw [← hdn] at SM
      rw [← hdn]
      clear hdn
      go_wp2_with fail
      refine SM.out.mono ?_
      rintro e w13 ⟨rfl, hg⟩
      have GA3 := Lib.hid (grown_trans GA2.out hg)
      have GO3 := Lib.hid (grown_trans GO2.out hg)
      clear hg SM GA2 GO2
      have hmod := HM.out
      have hst := HS.out
      have hcl : ¬ 9223372036854775807 < t.length + t.length := by omega
      have hcat : strOfNums t ++ strOfNums t = strOfNums (t ++ t) := strOfNums_app t t
      have hdec : (r : Int) < 3 ∧ (er == 0) = false ∨ ¬ (r : Int) < 3 := by
        by_cases h3 : (r : Int) < 3
        · exact .inl ⟨h3, by simpa using ER.out h3⟩
        · exact .inr h3
      rcases hdec with ⟨h3, hne⟩ | h3
      · have hr3 : decide ((r : Int) < 3) = true := by simp; omega
        have hr5 : decide (r < 3) = true := by simp; omega
        go_wp2_with fail
        clear h3 hne hr3 hr5 hmod
        refine (FA.out w13 GO3.out).mono ?_
        rintro e w14 ⟨rfl, hg⟩
        have GA4 := Lib.hid (grown_trans GA3.out hg)
        have GO4 := Lib.hid (grown_trans GO3.out hg)
        obtain ⟨⟨fe, fx⟩, hfw⟩ : ∃ z, z = findW bs (t ++ t) := ⟨_, rfl⟩
        rw [← hfw]
        have HFW := Lib.hid hfw
        clear hg FA hfw
        simp only []
        obtain ⟨nm, hnm⟩ : ∃ nm, nm = nmOf (strOfNums (t ++ t)) fx := ⟨_, rfl⟩
        obtain ⟨x, hx⟩ : ∃ x, x = exOf fx := ⟨_, rfl⟩
        rw [← hnm, ← hx]
        have NX := Lib.hid (And.intro hnm hx)
        clear hnm hx
        have g5 := grown1 w14 (.cells (exArr nm x) 33)
        have E5 := Lib.hid (show ExAt (w14.alloc (.cells (exArr nm x) 33)) w14.heap.size nm x from heap_alloc_new w14 _)
        have GA5 := Lib.hid (grown_trans GA4.out g5)
        have GO5 := Lib.hid (grown_trans GO4.out g5)
        obtain ⟨w15, hw15⟩ : ∃ w15, w14.alloc (.cells (exArr nm x) 33) = w15 := ⟨_, rfl⟩
        obtain ⟨g, hgg⟩ : ∃ g, w14.heap.size = g := ⟨_, rfl⟩
        rw [hw15] at E5 GA5 GO5
        rw [hgg] at E5
        have HW5 := Lib.hid hw15
        have HG := Lib.hid hgg
        clear g5 hw15 hgg
        simp only [exV, exArr] at HW5 ⊢
        go_upto_region 19 with fail
        rw [HW5.out, HG.out]
        clear HW5 HG
        go_wp2_with fail
        refine (RF.out w15 GO5.out).mono ?_
        rintro e w16 ⟨rfl, hg⟩
        rw [← HFW.out]
        simp only []
        rw [← NX.out.1, ← NX.out.2]
        have g7 := grown1 w16 (.cells (exArr nm x) 33)
        have gg := grown_trans hg g7
        have E7 := Lib.hid (E5.out.kept gg (by simp))
        have F7 := Lib.hid (show ExAt (w16.alloc (.cells (exArr nm x) 33)) w16.heap.size nm x from heap_alloc_new w16 _)
        have GA7 := Lib.hid (grown_trans GA5.out gg)
        obtain ⟨w17, hw17⟩ : ∃ w17, w16.alloc (.cells (exArr nm x) 33) = w17 := ⟨_, rfl⟩
        obtain ⟨h', hhg⟩ : ∃ h', w16.heap.size = h' := ⟨_, rfl⟩
        rw [hw17] at E7 F7 GA7
        rw [hhg] at F7
        have HW7 := Lib.hid hw17
        have HG7 := Lib.hid hhg
        clear hg g7 gg hw17 hhg RF E5
        simp only [exV, exArr] at HW7 ⊢
        go_upto_region 20 with fail
        rw [HW7.out, HG7.out]
        clear HW7 HG7
        obtain ⟨k0, k1, k2, k3, k4, k5, k6⟩ := E7.out.c
        obtain ⟨j0, j1, j2, j3, j4, j5, j6⟩ := F7.out.c
        go_wp2_with fail
        refine (K.out _).mono ?_
        rintro e w18 ⟨rfl, hg⟩
        have B := Lib.hid (BL.out _ (grown_trans GA7.out hg))
        clear hg
        go_wp2
        go_ret
        exact ⟨rfl, B.out⟩
      · have hr3 : decide ((r : Int) < 3) = false := by simp; omega
        have hr5 : decide (r < 3) = false := by simp; omega
        go_wp2_with fail
        clear h3 hr3 hr5 hmod
        refine (FA.out w13 GO3.out).mono ?_
        rintro e w14 ⟨rfl, hg⟩
        have GA4 := Lib.hid (grown_trans GA3.out hg)
        have GO4 := Lib.hid (grown_trans GO3.out hg)
        obtain ⟨⟨fe, fx⟩, hfw⟩ : ∃ z, z = findW bs (t ++ t) := ⟨_, rfl⟩
        rw [← hfw]
        have HFW := Lib.hid hfw
        clear hg FA hfw
        simp only []
        obtain ⟨nm, hnm⟩ : ∃ nm, nm = nmOf (strOfNums (t ++ t)) fx := ⟨_, rfl⟩
        obtain ⟨x, hx⟩ : ∃ x, x = exOf fx := ⟨_, rfl⟩
        rw [← hnm, ← hx]
        have NX := Lib.hid (And.intro hnm hx)
        clear hnm hx
        have g5 := grown1 w14 (.cells (exArr nm x) 33)
        have E5 := Lib.hid (show ExAt (w14.alloc (.cells (exArr nm x) 33)) w14.heap.size nm x from heap_alloc_new w14 _)
        have GA5 := Lib.hid (grown_trans GA4.out g5)
        have GO5 := Lib.hid (grown_trans GO4.out g5)
        obtain ⟨w15, hw15⟩ : ∃ w15, w14.alloc (.cells (exArr nm x) 33) = w15 := ⟨_, rfl⟩
        obtain ⟨g, hgg⟩ : ∃ g, w14.heap.size = g := ⟨_, rfl⟩
        rw [hw15] at E5 GA5 GO5
        rw [hgg] at E5
        have HW5 := Lib.hid hw15
        have HG := Lib.hid hgg
        clear g5 hw15 hgg
        simp only [exV, exArr] at HW5 ⊢
        go_upto_region 19 with fail
        rw [HW5.out, HG.out]
        clear HW5 HG
        go_wp2_with fail
        refine (RF.out w15 GO5.out).mono ?_
        rintro e w16 ⟨rfl, hg⟩
        rw [← HFW.out]
        simp only []
        rw [← NX.out.1, ← NX.out.2]
        have g7 := grown1 w16 (.cells (exArr nm x) 33)
        have gg := grown_trans hg g7
        have E7 := Lib.hid (E5.out.kept gg (by simp))
        have F7 := Lib.hid (show ExAt (w16.alloc (.cells (exArr nm x) 33)) w16.heap.size nm x from heap_alloc_new w16 _)
        have GA7 := Lib.hid (grown_trans GA5.out gg)
        obtain ⟨w17, hw17⟩ : ∃ w17, w16.alloc (.cells (exArr nm x) 33) = w17 := ⟨_, rfl⟩
        obtain ⟨h', hhg⟩ : ∃ h', w16.heap.size = h' := ⟨_, rfl⟩
        rw [hw17] at E7 F7 GA7
        rw [hhg] at F7
        have HW7 := Lib.hid hw17
        have HG7 := Lib.hid hhg
        clear hg g7 gg hw17 hhg RF E5
        simp only [exV, exArr] at HW7 ⊢
        go_upto_region 20 with fail
        rw [HW7.out, HG7.out]
        clear HW7 HG7
        obtain ⟨k0, k1, k2, k3, k4, k5, k6⟩ := E7.out.c
        obtain ⟨j0, j1, j2, j3, j4, j5, j6⟩ := F7.out.c
        go_wp2_with fail
        refine (K.out _).mono ?_
        rintro e w18 ⟨rfl, hg⟩
        have B := Lib.hid (BL.out _ (grown_trans GA7.out hg))
        clear hg
        go_wp2
        go_ret
        exact ⟨rfl, B.out⟩
end Go.Proofs.Ytblfighfahffkaa.trieRound

/- 'TrieRound': for every input the call returns true, and what was handed in reads as it did. The form's own reach is the one condition. -/
namespace Go.Proofs.Ytblfighfahffkaa.trieRound
open Go.ChangeShapes Go.WideShapes Go.ChangeAt Go.RowKit
open Go.ChangeMaps (open_string shut_string)

theorem own : ownKnob Try.prog.godebug = none := by kernel_rfl
theorem laidOut : laidOutB Try.prog = true := by kernel_rfl

theorem text_nums (s : ByteArray) (h : s.size ≤ maxLen) : ∃ t : List Int, Byt t ∧ t.length ≤ 9223372036854775807 ∧ strOfNums t = s := by
  refine ⟨s.data.toList.map fun u => (u.toNat : Int), ?_, ?_, ?_⟩
  · intro x hx
    obtain ⟨u, _, rfl⟩ := List.mem_map.1 hx
    have := u.toNat_lt
    omega
  · rw [List.length_map, Array.length_toList]
    exact h
  · apply ByteArray.ext
    apply Array.toList_inj.1
    rw [strOfNums_data, List.map_map]
    conv => rhs; rw [← List.map_id s.data.toList]
    apply List.map_congr_left
    intro u _
    apply UInt8.toNat_inj.1
    have := u.toNat_lt
    simp only [Function.comp, UInt8.toNat_ofNat', id]
    omega

set_option maxRecDepth 100000 in
theorem lifted (os : Os) (started : os.Started) (H : Type) (enc : TypeId × Value → H) :
    ReturnsInHanded {} Try.checked os 7 .any (Rows.trieRoundSpec.pre6 enc Try.prog Try.f7 Rows.trieRoundRow.domain false) (Rows.trieRoundSpec.post enc Try.prog Try.f7 false true false false) := by
  refine returnsInHanded_of_change (C := Try.checked) own started (by kernel_rfl) Try.func7
    (ChangeSpec.witness6 (enc := enc) (C := Try.checked) false ⟨#[], #[.string ⟨#[]⟩, .int .i64 0], []⟩ 8 (by kernel_rfl) (by kernel_rfl) (by kernel_rfl) (by kernel_rfl)) ?_
  intro W base args ds gs before hval0 hW hcnd _
  have hval : ∀ (j : Nat) t v, Try.f7.params[j]? = some t → args[j]? = some v → Value.okWide Try.prog W .any base t v := hval0
  have hW' := hW
  obtain ⟨p, q, hA0, hV, rfl, hfz, hnd⟩ := hW
  have hA : DataW.TrodAll enc Try.prog W 0 (fun _ => true) true Try.f7.params.toList args.toList ds p := hA0
  rw [Try.params7] at hA hval
  obtain ⟨v0, vs0, d0, ds0, p0, q0, hargs, rfl, rfl, h0, r0⟩ := trodAll_cons hA
  obtain ⟨v1, vs1, d1, ds1, p1, q1, rfl, rfl, rfl, h1, r1⟩ := trodAll_cons r0
  obtain ⟨rfl, rfl, rfl⟩ := trodAll_nil r1
  obtain rfl : args = #[v0, v1] := by cases args; simp_all
  obtain ⟨rfl, rfl⟩ := trodVars_none hV
  obtain ⟨s0, rfl, rfl, rfl, ls0⟩ := open_string Try.underlying9 (hval 0 9 v0 rfl rfl) h0
  obtain ⟨t0, bt0, mt0, rfl⟩ := text_nums s0 ls0
  obtain ⟨a1, rfl, rfl, rfl, w1⟩ := open_int Try.underlying3 (hval 1 3 v1 rfl rfl) h1
  clear hA0 hval0
  refine (walk t0 a1 W bt0 mt0 w1).mono fun e W' ⟨he, bel⟩ => ?_
  subst he
  exact ⟨_, rfl, _, _, _, [], _, [], hW', trodAll_mk1 (shut_bool Try.underlying4 _), (trodAll_cons_mk (shut_string Try.underlying9 ls0) (trodAll_cons_mk (shut_int Try.underlying3 w1) trodAll_mk0)), rfl, bel.frame _, fun h => by cases h⟩

theorem proved : Rows.TrieRoundSaid :=
  OpenClaim.holds_of_wide 7 Try.f7 rfl rfl rfl rfl rfl rfl rfl ⟨rfl, rfl, rfl, rfl, rfl⟩ rfl rfl rfl rfl rfl (by kernel_rfl) Try.func7 (by kernel_rfl)
    (of_decide_eq_true (by kernel_rfl)) (by unfold Func.isWrapper; first | (rw [if_pos (by decide +kernel)]; kernel_rfl) | (rw [if_neg (by decide +kernel)]; exact ⟨rfl, rfl⟩))
    (fun os started H enc _ => lifted os started H enc)
end Go.Proofs.Ytblfighfahffkaa.trieRound
