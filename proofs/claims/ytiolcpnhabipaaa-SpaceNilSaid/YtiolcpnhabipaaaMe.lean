/- 'm[k] = v' among other assignments of one statement: the entry is looked for first, and written behind. No condition but that the map has room. -/
import Derived.Test.YtiolcpnhabipaaaRows
import Derived.Maps.Own
import Derived.Maps.OwnOps
import Derived.Maps.OwnSet
import Derived.WideKeyEntry
namespace Go.Proofs.Ytiolcpnhabipaaa
open Go.Maps Go.WideElems Go.ChangeMaps
section
variable {H : Type} {P : Program} {k e t : TypeId} {R : Value → Option (DataW H × List MemPlace)} {b n : Nat} {D : DataW H} {w : World}

/-- A map is told by its block alone. -/
theorem owns_at {W : World} (h : w.ownsMap P k R b n D) (hb : W.heap[b]? = w.heap[b]?) : W.ownsMap P k R b n D := by
  obtain ⟨es, c, h1, F, h2, h3⟩ := h
  exact ⟨es, c, hb.trans h1, F, h2, h3⟩
theorem owns_obj (h : w.ownsMap P k R b n D) : ∃ es c, w.heap[b]? = some (.map es c) := by
  obtain ⟨es, c, h1, _⟩ := h
  exact ⟨es, c, h1⟩

/-- What the two halves of the store do, in whatever world. -/
def Halves (P : Program) (t : TypeId) (b : Nat) (key val : Value) (o0 o1 o2 : Obj) : Prop :=
  ∃ (v0 : Value) (st : Int), (∀ W : World, W.heap[b]? = some o0 → (Instr.mapEntry t (.map (some b)) key).run P W = .ok (.tuple #[v0, .int .i64 st]) (setBlock W b o1)) ∧
    (∀ W : World, W.heap[b]? = some o1 → (Instr.entryStore t (.map (some b)) (.int .i64 st) val).run P W = .ok () (setBlock W b o2))

theorem owns_halves (h : w.ownsMap P k R b n D) (K : Keyed P k) (ht : P.underlying t = some (.map k e)) {z : Value} (hz : ∀ u : World, (zeroValue e).run P u = .ok z u) (hn : n < maxLen) {key val : Value} {kl : Lit} {d : DataW H} {ps : List MemPlace}
    (hkey : keyOf P k key = some kl) (hv : R val = some (d, ps)) :
    ∃ o0 o1 o2, w.heap[b]? = some o0 ∧ Halves P t b key val o0 o1 o2 ∧ ∀ W : World, W.heap[b]? = some o2 → W.ownsMap P k R b (n + 1) (D.put kl d) := by
  obtain ⟨w', hrun, hown', hg⟩ := h.update K ht hn hkey hv
  obtain ⟨es, clock, hb, F, hs, rfl⟩ := h
  obtain ⟨s1, s2, s3⟩ := F.stamped
  rcases K.find w hkey es.toList F.keys with ⟨h1, h2⟩ | ⟨j, e0, h1, h2, h3⟩
  · have hfind : ∀ W : World, (Instr.findKey k key es.toList).run P W = .ok none W := by
      intro W
      rcases K.find W hkey es.toList F.keys with ⟨h, _⟩ | ⟨j, e, _, h, h'⟩
      · exact h
      · exact absurd h' (h2 e (List.mem_of_getElem? h))
    have hidx : (es.push ⟨key, z, clock⟩).findIdx? (fun e => ((e.born : Nat) : Int) == ((clock : Nat) : Int)) = some es.size := by
      rw [findIdx_arr]
      refine findIdx_born (l := (es.push ⟨key, z, clock⟩).toList) (j := es.size) (e0 := ⟨key, z, clock⟩) ?_ (by simp)
      simp only [Array.toList_push, List.map_append, List.map_cons, List.map_nil]
      refine List.nodup_append.2 ⟨s2, by simp, fun a ha c hc e1 => ?_⟩
      simp only [List.mem_singleton] at hc
      obtain ⟨x, hx, rfl⟩ := List.mem_map.1 ha
      have := s1 x hx
      omega
    have hmod : (es.push ⟨key, z, clock⟩).modify es.size (fun e => { e with val := val }) = es.push ⟨key, val, clock⟩ := by
      apply Array.ext'
      rw [Array.toList_modify, Array.toList_push, Array.toList_push, ← Array.length_toList, modify_last]
    refine ⟨_, .map (es.push ⟨key, z, clock⟩) (clock + 1), .map (es.push ⟨key, val, clock⟩) (clock + 1), hb, ⟨z, clock, fun W hW => ?_, fun W hW => ?_⟩, fun W hW => owns_at hown' ?_⟩
    · simp [Instr.mapEntry, run_underlying ht, MapKept.run_getObj_map hW, K.check W false hkey, hfind W, hz, MapKept.run_setObj_map _ hW, Result.andThen, setBlock, goInt]
    · simp [Instr.entryStore, MapKept.run_getObj_map hW, asInt, asIntOf, hidx, hmod, MapKept.run_setObj_map _ hW, Result.andThen, setBlock]
    · have hr : (Instr.mapUpdate t (.map (some b)) key val).run P w = .ok () (setBlock w b (.map (es.push ⟨key, val, clock⟩) (clock + 1))) := by
        simp [Instr.mapUpdate, run_underlying ht, MapKept.run_getObj_map hb, K.check w false hkey, hfind w, MapKept.run_setObj_map _ hb, Result.andThen, setBlock]
      rw [hr] at hrun
      injection hrun with _ hw
      subst hw
      rw [hW, heap_setBlock_same hb _]
  · have hone : ∀ j' e', es.toList[j']? = some e' → e'.key = key → j' = j ∧ e' = e0 := by
      intro j' e' h h'
      have hj : j' = j := by
        have g1 : (es.toList.map (·.key))[j']? = some key := by rw [List.getElem?_map, h]; simp [h']
        have g2 : (es.toList.map (·.key))[j]? = some key := by rw [List.getElem?_map, h2]; simp [h3]
        exact (List.getElem?_inj (by rw [List.length_map]; exact (List.getElem?_eq_some_iff.1 h).1) s3).1 (g1.trans g2.symm)
      subst hj
      rw [h2] at h
      injection h with h
      exact ⟨rfl, h.symm⟩
    have hfind : ∀ W : World, (Instr.findKey k key es.toList).run P W = .ok (some (j, e0.val)) W := by
      intro W
      rcases K.find W hkey es.toList F.keys with ⟨_, h⟩ | ⟨j', e', h, h', h''⟩
      · exact absurd h3 (h e0 (List.mem_of_getElem? h2))
      · obtain ⟨e1, e2⟩ := hone j' e' h' h''
        rw [h, e1, e2]
    have hj : es[j]? = some e0 := by simpa using h2
    have hsame : es.modify j (fun e => { e with key := key }) = es := by
      apply Array.ext'
      rw [Array.toList_modify, modify_eq_set _ _ _ _ h2]
      have : ({ e0 with key := key } : MapEntry) = e0 := by rw [← h3]
      rw [this]
      exact set_self _ _ _ h2
    have hidx : es.findIdx? (fun e => ((e.born : Nat) : Int) == ((e0.born : Nat) : Int)) = some j := by
      rw [findIdx_arr]
      exact findIdx_born s2 h2
    have hmod : es.modify j (fun e => { e with val := val }) = es.modify j (fun e' => { e' with key := key, val := val }) := by
      apply Array.ext'
      rw [Array.toList_modify, Array.toList_modify, modify_eq_set _ _ _ _ h2, modify_eq_set _ _ _ _ h2, ← h3]
    refine ⟨_, .map es clock, .map (es.modify j (fun e' => { e' with key := key, val := val })) clock, hb, ⟨e0.val, e0.born, fun W hW => ?_, fun W hW => ?_⟩, fun W hW => owns_at hown' ?_⟩
    · simp [Instr.mapEntry, run_underlying ht, MapKept.run_getObj_map hW, K.check W false hkey, hfind W, hj, h3, K.stays W hkey, hsame, MapKept.run_setObj_map _ hW, Result.andThen, setBlock, goInt]
    · simp [Instr.entryStore, MapKept.run_getObj_map hW, asInt, asIntOf, hidx, hmod, MapKept.run_setObj_map _ hW, Result.andThen, setBlock]
    · have hr : (Instr.mapUpdate t (.map (some b)) key val).run P w = .ok () (setBlock w b (.map (es.modify j (fun e' => { e' with key := key, val := val })) clock)) := by
        simp [Instr.mapUpdate, run_underlying ht, MapKept.run_getObj_map hb, K.check w false hkey, hfind w, hj, h3, K.stays w hkey, MapKept.run_setObj_map _ hb, Result.andThen, setBlock]
      rw [hr] at hrun
      injection hrun with _ hw
      subst hw
      rw [hW, heap_setBlock_same hb _]
end
end Go.Proofs.Ytiolcpnhabipaaa
