/- A page is laid: what the space tells behind it. Conditions: the page was not there; few pages; what may be. -/
import Derived.Test.YtiolcpnhabipaaaLay
namespace Go.Proofs.Ytiolcpnhabipaaa
open Go.RowKit Go.Maps Go.ChangeMaps
variable {w w' W : World} {F : Nat → Prop} {σ : Spc}

def Spc.lay (σ : Spc) (n : Nat) (p : Int) (c : Nat → Int) : Spc := ⟨fun m => if m = n then p else σ.P m, fun x => if x / 4096 = n then c (x % 4096) else σ.B x, σ.K + 1⟩
theorem lay_at (σ : Spc) (n : Nat) (p : Int) (c : Nat → Int) : pageArr (σ.lay n p c).B n = pageVals c :=
  pageVals_congr fun i hi => by
    show (if (4096 * n + i) / 4096 = n then c ((4096 * n + i) % 4096) else _) = _
    rw [if_pos (by omega), show (4096 * n + i) % 4096 = i by omega]
theorem lay_off (σ : Spc) {n m : Nat} (h : m ≠ n) (p : Int) (c : Nat → Int) : pageArr (σ.lay n p c).B m = pageArr σ.B m :=
  pageVals_congr fun i hi => by
    show (if (4096 * m + i) / 4096 = n then c ((4096 * m + i) % 4096) else σ.B (4096 * m + i)) = _
    rw [if_neg (by omega)]
theorem lay_same (σ : Spc) (n : Nat) (p : Int) (c : Nat → Int) : (σ.lay n p c).P n = p := if_pos rfl
theorem lay_other (σ : Spc) {n m : Nat} (h : m ≠ n) (p : Int) (c : Nat → Int) : (σ.lay n p c).P m = σ.P m := if_neg h
theorem owns_empty {P : Program} {k : TypeId} {R : Value → Option (DataW Unit × List MemPlace)} {b : Nat} (h : W.heap[b]? = some (.map #[] 0)) : W.ownsMap P k R b 0 (.map []) := by
  have h1 := World.ownsMap_made { W with heap := W.heap.extract 0 b } P k R
  have hb := (Array.getElem?_eq_some_iff.1 h).1
  have e : ({ W with heap := W.heap.extract 0 b } : World).heap.size = b := by simp; omega
  rw [e] at h1
  refine owns_at h1 ?_
  rw [h]
  have := heap_alloc_new { W with heap := W.heap.extract 0 b } (.map #[] 0)
  rw [e] at this
  exact this.symm
theorem obj_ne {b c : Nat} {cs : Array Value} {t : TypeId} {f : Nat × Nat} {es : Array MapEntry} {k : Nat} (h : w.heap[b]? = some (.cells cs t f)) (h' : w.heap[c]? = some (.map es k)) : b ≠ c := by
  rintro rfl
  rw [h] at h'
  injection h' with h'
  cases h'
theorem none_maps (h : ∀ n, σ.P n = 0) (hK : σ.K = 0) (g : Nat → Nat) : MapsOf σ g (.map []) (.map []) :=
  ⟨hK.symm, hK.symm, fun kl => ⟨fun h => (by cases h), fun ⟨n, _, h'⟩ => absurd (h n) h'⟩, fun kl => ⟨fun h => (by cases h), fun ⟨n, _, h'⟩ => absurd (h n) h'⟩, fun n _ h' => absurd (h n) h', fun n _ h' => absurd (h n) h', fun n _ h' => absurd (h n) h'⟩

theorem maps_put {g : Nat → Nat} {Dp Dq : DataW Unit} (hm : MapsOf σ g Dp Dq) (tp : Tidy Dp) (tq : Tidy Dq) {n : Nat} (h0 : σ.P n = 0) {p : Int} (hp : 1 ≤ p) (c : Nat → Int) {b : Nat} (hb : ∀ m, σ.P m ≠ 0 → g m ≠ b) :
    MapsOf (σ.lay n p c) (fun m => if m = n then b else g m) (Dp.put (keyN n) (.lit (.int .u64 b))) (Dq.put (keyN n) (.lit (.int .i64 p))) := by
  have hpn : (σ.lay n p c).P n ≠ 0 := by rw [lay_same]; omega
  have hh : ∀ D : DataW Unit, ∀ d, IsMap D → (∀ kl, Maps.has D kl = true ↔ ∃ n, kl = keyN n ∧ σ.P n ≠ 0) → ∀ kl, Maps.has (D.put (keyN n) d) kl = true ↔ ∃ m, kl = keyN m ∧ (σ.lay n p c).P m ≠ 0 := by
    intro D d hi hD kl
    by_cases e : kl = keyN n
    · subst e
      rw [has_put_same hi (keyN_key n)]
      exact ⟨fun _ => ⟨n, rfl, hpn⟩, fun _ => rfl⟩
    · rw [has_put_other e, hD]
      constructor
      · rintro ⟨m, rfl, hm⟩
        exact ⟨m, rfl, by rw [lay_other σ (fun h => e (by rw [h]))]; exact hm⟩
      · rintro ⟨m, rfl, hm⟩
        exact ⟨m, rfl, by rw [lay_other σ (fun h => e (by rw [h]))] at hm; exact hm⟩
  refine ⟨?_, ?_, hh _ _ tp.isMap hm.hasp, hh _ _ tq.isMap hm.hasq, fun m z hmm => ?_, fun m z hmm => ?_, fun m k h1 h2 h3 => ?_⟩
  · rw [size_put tp, if_neg (by rw [hasp_no hm h0]; exact Bool.false_ne_true), hm.szp]; rfl
  · rw [size_put tq, if_neg (by rw [hasq_no hm h0]; exact Bool.false_ne_true), hm.szq]; rfl
  · by_cases e : m = n
    · subst e; rw [atKey_put_same tp.isMap (keyN_key m), if_pos rfl]
    · rw [atKey_put_other (fun h => e (keyN_inj h)), if_neg e]
      rw [lay_other σ e] at hmm
      exact hm.atp m z hmm
  · by_cases e : m = n
    · subst e; rw [atKey_put_same tq.isMap (keyN_key m), lay_same]
    · rw [atKey_put_other (fun h => e (keyN_inj h)), lay_other σ e]
      rw [lay_other σ e] at hmm
      exact hm.atq m z hmm
  · by_cases e : m = n
    · subst e
      by_cases f : k = m
      · exact f.symm
      · rw [if_pos rfl, if_neg f] at h3
        rw [lay_other σ f] at h2
        exact absurd h3.symm (hb k h2)
    · rw [lay_other σ e] at h1
      by_cases f : k = n
      · subst f
        rw [if_neg e, if_pos rfl] at h3
        exact absurd h3 (hb m h1)
      · rw [lay_other σ f] at h2
        rw [if_neg e, if_neg f] at h3
        exact hm.inj m k h1 h2 h3

theorem lay_fits (hf : Fits σ) {n : Nat} (hn : n < 34359738368) {p : Int} (hp : 1 ≤ p ∧ p ≤ 7) {c : Nat → Int} (hc : ∀ i, 0 ≤ c i ∧ c i < 256) (hK : σ.K < 8192) : Fits (σ.lay n p c) := by
  refine ⟨?_, fun m hm => ?_, fun m => ?_, fun x => ?_, fun h => ?_⟩
  · show σ.K + 1 ≤ 8192; omega
  · by_cases e : m = n
    · rw [e]; exact hn
    · rw [lay_other σ e] at hm; exact hf.low m hm
  · by_cases e : m = n
    · rw [e, lay_same]; omega
    · rw [lay_other σ e]; exact hf.prot m
  · show 0 ≤ (if x / 4096 = n then c (x % 4096) else σ.B x) ∧ (if x / 4096 = n then c (x % 4096) else σ.B x) < 256
    split
    · exact hc _
    · exact hf.bytes x
  · exact absurd h (Nat.succ_ne_zero _)

/-- The space, once the entries are written. -/
theorem lay_close {a bp bq n : Nat} {p : Int} {c : Nat → Int} {o2 q2 : Obj} {g : Nat → Nat} {Dp Dq : DataW Unit} (hma : F a) (hf : Fits (σ.lay n p c)) (hm : MapsOf σ g Dp Dq) (tp : Tidy Dp) (tq : Tidy Dq) (h0 : σ.P n = 0) (hp1 : 1 ≤ p)
    (hs : w.heap.size < W.heap.size) (ho : W.os = w.os) (ht : W.tape = w.tape) (hu : W.output = w.output) (hW : ∀ k, k < w.heap.size → k ≠ a → W.heap[k]? = w.heap[k]?)
    (hpage : W.heap[w.heap.size]? = some (.cells (pageVals c) 76 (0, 0))) (ha : W.heap[a]? = some (.cells #[.map (some bp), .map (some bq)] 65 (0, 0)))
    (hS : Sets W w' bp bq o2 q2) (fp : F bp ∨ (w.heap.size ≤ bp ∧ bp < W.heap.size)) (fq : F bq ∨ (w.heap.size ≤ bq ∧ bq < W.heap.size)) (ne : bp ≠ bq) (nap : a ≠ bp) (naq : a ≠ bq) (np : w.heap.size ≠ bp) (nq : w.heap.size ≠ bq)
    (op : w'.heap[bp]? = some o2 → PMap w' bp (σ.K + 1) (Dp.put (keyN n) (.lit (.int .u64 w.heap.size)))) (oq : w'.heap[bq]? = some q2 → QMap w' bq (σ.K + 1) (Dq.put (keyN n) (.lit (.int .i64 p))))
    (pages : ∀ m, σ.P m ≠ 0 → F (g m) ∧ w.heap[g m]? = some (.cells (pageArr σ.B m) 76 (0, 0)) ∧ g m ≠ a ∧ g m ≠ bp ∧ g m ≠ bq) :
    SpcAt w' (Foot F w w') a (σ.lay n p c) ∧ Chg F w w' := by
  have hsz : w'.heap.size = W.heap.size := hS.size
  have ff : ∀ k, (F k ∨ (w.heap.size ≤ k ∧ k < W.heap.size)) → Foot F w w' k := fun k h => h.elim .inl (fun h => .inr ⟨h.1, by omega⟩)
  refine ⟨⟨.inl hma, hf, _, _, (hS.other a nap naq).trans ha, .full bp bq (fun m => if m = n then w.heap.size else g m) _ _ ne (op hS.p) (oq hS.q) (maps_put hm tp tq h0 hp1 c (fun m hm => Nat.ne_of_lt (lt_of_block (pages m hm).2.1))) (ff _ fp) (ff _ fq) fun m hmm => ?_⟩, ⟨hS.os.trans ho, hS.tape.trans ht, hS.output.trans hu, by omega, fun k hk hFk => ?_⟩⟩
  · by_cases e : m = n
    · subst e
      rw [if_pos rfl, lay_at]
      exact ⟨.inr ⟨Nat.le_refl _, by omega⟩, (hS.other _ np nq).trans hpage⟩
    · rw [lay_other σ e] at hmm
      rw [if_neg e, lay_off σ e]
      obtain ⟨h1, h2, h3, h4, h5⟩ := pages m hmm
      exact ⟨.inl h1, (hS.other _ h4 h5).trans ((hW _ (lt_of_block h2) h3).trans h2)⟩
  · have e1 : k ≠ bp := fun e => by subst e; rcases fp with h | h; exact hFk h; omega
    have e2 : k ≠ bq := fun e => by subst e; rcases fq with h | h; exact hFk h; omega
    exact (hS.other k e1 e2).trans (hW k hk (fun e => hFk (e ▸ hma)))

theorem bareW_a {a : Nat} {pg : Array Value} (ha : w.heap[a]? = some (.cells #[.map none, .map none] 65 (0, 0))) : (bareW w a pg).heap[a]? = some (.cells #[.map (some (w.heap.size + 1)), .map (some (w.heap.size + 1 + 1))] 65 (0, 0)) := by
  have hlt := lt_of_block ha
  have hA : (((w.alloc (.cells pg 76)).alloc (.map #[] 0)).alloc (.map #[] 0)).heap[a]? = some (.cells #[.map none, .map none] 65 (0, 0)) := by
    rw [heap_alloc_old _ _ (by simp; omega), heap_alloc_old _ _ (by simp; omega), heap_alloc_old _ _ hlt]; exact ha
  unfold bareW
  have h1 := heap_setCell_same _ a 0 _ _ (.map (some (w.heap.size + 1))) hA
  exact (heap_setCell_same _ a 1 _ _ (.map (some (w.heap.size + 1 + 1))) h1).trans rfl
theorem bareW_else {a k : Nat} {pg : Array Value} (h : k ≠ a) : (bareW w a pg).heap[k]? = (((w.alloc (.cells pg 76)).alloc (.map #[] 0)).alloc (.map #[] 0)).heap[k]? := by
  unfold bareW
  rw [heap_setCell_other _ _ _ _ (show k ≠ a from h), heap_setCell_other _ _ _ _ (show k ≠ a from h)]
theorem bareW_size {a : Nat} {pg : Array Value} : (bareW w a pg).heap.size = w.heap.size + 3 := by unfold bareW; simp
theorem lay_any {a : Nat} (h : SpcAt w F a σ) {n : Nat} (hn : n < 34359738368) (h0 : σ.P n = 0) {p : Int} (hp : 1 ≤ p ∧ p ≤ 7) {c : Nat → Int} (hc : ∀ i, 0 ≤ c i ∧ c i < 256) (hK : σ.K < 8192) :
    Calls Try.prog 37 #[.pointer (some ⟨a, 0, none⟩), .int .u64 n, .agg (pageVals c), .int .i64 p] w fun e w' => e = .returned (.tuple #[]) ∧ SpcAt w' (Foot F w w') a (σ.lay n p c) ∧ Chg F w w' := by
  obtain ⟨hma, hf, mp, mq, hb, hmaps⟩ := h
  have hf' := lay_fits hf hn hp hc hK
  have hk := key_of (show n < 18446744073709551616 by omega)
  have hwp : (Lit.int .i64 p).wf = true := WalkArith.wf_i64 (by omega)
  cases hmaps with
  | bare hbare hK0 =>
    have hlt := lt_of_block hb
    obtain ⟨W, hW⟩ : ∃ W, bareW w a (pageVals c) = W := ⟨_, rfl⟩
    have wa := bareW_a (pg := pageVals c) hb
    have wp : W.heap[w.heap.size + 1]? = some (.map #[] 0) := by
      rw [← hW, bareW_else (by omega), heap_alloc_old _ _ (by simp)]
      have := heap_alloc_new (w.alloc (.cells (pageVals c) 76)) (.map #[] 0)
      simpa using this
    have wq : W.heap[w.heap.size + 1 + 1]? = some (.map #[] 0) := by
      rw [← hW, bareW_else (by omega)]
      have := heap_alloc_new ((w.alloc (.cells (pageVals c) 76)).alloc (.map #[] 0)) (.map #[] 0)
      simpa using this
    have wg : W.heap[w.heap.size]? = some (.cells (pageVals c) 76 (0, 0)) := by
      rw [← hW, bareW_else (by omega), heap_alloc_old _ _ (by simp; omega), heap_alloc_old _ _ (by simp)]
      exact heap_alloc_new _ _
    have wo : ∀ k, k < w.heap.size → k ≠ a → W.heap[k]? = w.heap[k]? := fun k hk hka => by
      rw [← hW, bareW_else hka, heap_alloc_old _ _ (by simp; omega), heap_alloc_old _ _ (by simp; omega), heap_alloc_old _ _ hk]
    have ws : W.heap.size = w.heap.size + 3 := by rw [← hW]; exact bareW_size
    have w1 : W.os = w.os ∧ W.tape = w.tape ∧ W.output = w.output := by rw [← hW]; exact ⟨rfl, rfl, rfl⟩
    rw [hW] at wa
    have ep : PMap W (w.heap.size + 1) 0 (.map []) := owns_empty wp
    have eq : QMap W (w.heap.size + 1 + 1) 0 (.map []) := owns_empty wq
    obtain ⟨o0, o1, o2, ho0, hHp, hop⟩ := owns_halves ep u64keyed Try.underlying62 zeroPtr (by unfold maxLen; omega) hk (ptrElem_mk w.heap.size)
    obtain ⟨q0, q1, q2, hq0, hHq, hoq⟩ := owns_halves eq u64keyed Try.underlying63 zeroI (by unfold maxLen; omega) hk (plainElem_int Try.underlying3 hwp)
    obtain rfl : o0 = .map #[] 0 := Option.some.inj (ho0.symm.trans wp)
    obtain rfl : q0 = .map #[] 0 := Option.some.inj (hq0.symm.trans wq)
    refine (lay_bare_raw a n (pageVals c) p o1 o2 q1 q2 hb w.heap.size _ _ W rfl rfl rfl hW hHp hHq).mono ?_
    rintro e w2 ⟨rfl, hS⟩
    refine ⟨rfl, lay_close (W := W) hma hf' (none_maps hbare hK0 (fun _ => 0)) tidy_empty tidy_empty h0 hp.1 (by omega) w1.1 w1.2.1 w1.2.2 wo wg wa hS (.inr (by omega)) (.inr (by omega)) (by omega) (by omega) (by omega) (by omega) (by omega)
      (fun h => by rw [hK0]; exact hop w2 h) (fun h => by rw [hK0]; exact hoq w2 h) fun m hmm => absurd (hbare m) hmm⟩
  | full bp bq g Dp Dq hne hp' hq' hm fp fq fg =>
    obtain ⟨o0, o1, o2, ho0, hHp, hop⟩ := owns_halves hp' u64keyed Try.underlying62 zeroPtr (by unfold maxLen; omega) hk (ptrElem_mk w.heap.size)
    obtain ⟨q0, q1, q2, hq0, hHq, hoq⟩ := owns_halves hq' u64keyed Try.underlying63 zeroI (by unfold maxLen; omega) hk (plainElem_int Try.underlying3 hwp)
    obtain ⟨_, _, mp⟩ := owns_obj hp'
    obtain ⟨_, _, mq⟩ := owns_obj hq'
    have nap := obj_ne hb mp
    have naq := obj_ne hb mq
    refine (lay_raw a bp bq n (pageVals c) p o0 o1 o2 q0 q1 q2 hne nap naq hb ho0 hq0 hHp hHq).mono ?_
    rintro e w1 ⟨rfl, hS⟩
    have hlt := lt_of_block hb
    refine ⟨rfl, lay_close (W := w.alloc (.cells (pageVals c) 76)) hma hf' hm (World.ownsMap.tidy hp' u64keyed) (World.ownsMap.tidy hq' u64keyed) h0 hp.1 (by simp) rfl rfl rfl (fun k hk _ => heap_alloc_old _ _ hk) (heap_alloc_new _ _) ((heap_alloc_old _ _ hlt).trans hb) hS (.inl fp) (.inl fq) hne nap naq
      (Nat.ne_of_gt (lt_of_block mp)) (Nat.ne_of_gt (lt_of_block mq)) (hop w1) (hoq w1) fun m hmm => ?_⟩
    obtain ⟨h1, h2⟩ := fg m hmm
    refine ⟨h1, h2, ?_, obj_ne h2 mp, obj_ne h2 mq⟩
    rintro rfl
    rw [hb] at h2
    injection h2 with h2
    injection h2 with _ h2 _
    cases h2
end Go.Proofs.Ytiolcpnhabipaaa
