/- Parts of the proof, put together: Dwn, RAll, NlN, NlM, PenT, NlT, NlA, NlB. No condition beyond those that each part names. -/
import Derived.Test.YtkmbkpoclhbmgaaGreatPA11
set_option maxRecDepth 20000
set_option maxHeartbeats 6400000
namespace Go.Proofs.YtkmbkpoclhbmgaaGreat
open Go.RowKit
variable {w w' W V:World}
section
def WkR (w:World) (k:Nat) (bv:Value) (m:Int) (ov:Value):Prop:=w.heap[k]?=some (.cells #[bv,.int .i64 m,ov] 92 (0,0))
section
variable {k:Nat} {bv ov:Value} {m:Int}
theorem WkR.kept {r:Option Nat} (h:WkR w k bv m ov) (hg:w.grownBy w' r) (hr:r≠some k):WkR w' k bv m ov:=(hg.block k (lt_of_block h) (fun e=>hr e.symm)).trans h
theorem WkR.lt (h:WkR w k bv m ov):k < w.heap.size:=lt_of_block h
theorem WkR.fz (h:WkR w k bv m ov) (i:Nat):w.frozen? ⟨k,i,none⟩=false:=Xg h
theorem WkR.c (h:WkR w k bv m ov):w.cell? ⟨k,0,none⟩=some bv∧w.cell? ⟨k,1,none⟩=some (.int .i64 m)∧w.cell? ⟨k,2,none⟩=some ov:=by
 refine ⟨?_,?_,?_⟩ <;> (rw [Qm h];rfl)
theorem WkR.met (h:WkR w k bv m ov) (n:Int):WkR (w.setCell ⟨k,1,none⟩ (.int .i64 n)) k bv n ov:=by unfold WkR;rw [heap_setCell_same w k 1 _ _ _ h];rfl
theorem WkR.out (h:WkR w k bv m ov) (v:Value):WkR (w.setCell ⟨k,2,none⟩ v) k bv m v:=by unfold WkR;rw [heap_setCell_same w k 2 _ _ _ h];rfl
end
structure DnI (wk:Nat) (bv:Value) (W:World) (F:Nat→Prop) (m:Nat) (out:Out):Prop where
 ex:∃ q c,WkR W wk bv (m:Nat) (.slice q out.length c)∧W.ownsRow 0 28 7 (.slice q out.length c) out.length (out.flatMap Q4)∧∀ g,(Value.slice q out.length c).ownBlock=some g→F g
 fw:F wk
 fb:∀ k,F k→k < W.heap.size
structure Bu (wk:Nat) (bv:Value) (F:Nat→Prop) (W W':World) (r:Int × (Nat × Out)) (e:Ending):Prop where
 ret:e=.returned (.int .i64 r.1)
 ex:∃ F',DnI wk bv W' F' r.2.1 r.2.2∧∀ k,F' k→F k∨W.heap.size≤k
 chg:Chg F W W'
 few:r.1=0→r.2.1≤8192∧r.2.2.length≤4096
section
variable {wk:Nat} {bv:Value} {F:Nat→Prop} {m:Nat} {out:Out}
theorem DnI.grown (h:DnI wk bv W F m out) (hg:W.grownBy V none):DnI wk bv V F m out:=by
 obtain ⟨⟨q,c,h1,h2,h3⟩,h4,h5⟩:=h;exact ⟨⟨q,c,h1.kept hg (by simp),Qy h2 hg,h3⟩,h4,fun k hk=>Nat.lt_of_lt_of_le (h5 k hk) hg.size⟩
theorem DnI.met (h:DnI wk bv W F m out) (n:Nat) {N:Int} (hN:N=(n:Nat)):DnI wk bv (W.setCell ⟨wk,1,none⟩ (.int .i64 N)) F n out:=by
 subst hN;obtain ⟨⟨q,c,h1,h2,h3⟩,h4,h5⟩:=h;have g:=Qx (i:=1) (Qq W (some wk)) (.int .i64 n);exact ⟨⟨q,c,h1.met _,h2.kept g (.inr (Zb h2 h1 (by decide))),h3⟩,h4,fun k hk=>Nat.lt_of_lt_of_le (h5 k hk) g.size⟩
theorem DnI.chg1 (h:DnI wk bv W F m out) (i:Nat) (v:Value):Chg F W (W.setCell ⟨wk,i,none⟩ v) :=
 Chg.of_grown (Qx (Qq W (some wk)) v) (fun b e=>by injection e with e;exact .inl (e ▸ h.fw))
theorem Bu.at {F0:Nat→Prop} {W0:World} {r:Int} (h:DnI wk bv V F m out) (hF:∀ k,F k→F0 k∨W0.heap.size≤k) (hg:Chg F0 W0 V) (hm:r=0→m≤8192∧out.length≤4096):Bu wk bv F0 W0 V (r,(m,out)) (.returned (.int .i64 r)) :=
 ⟨rfl,⟨F,h,hF⟩,hg,hm⟩
end
variable {b o c:Nat} {xs:List Int}
structure Lk (p:Prop):Prop where
 opened : p
def rk (n:Nat) (p:Int):Int:=if p < n then p else -1
theorem down_long {wk:Nat} {bv:Value} {F:Nat→Prop} {m:Nat} {out:Out} (name:List Int) (at':Int) (wv:Value) (hn : 255 < name.length) (hn2:name.length≤510) (hm:m≤8192) (h:DnI wk bv W F m out) :
  Calls Tryz.prog 43 #[.pointer (some ⟨wk,0,none⟩),.int .i64 at',.string (strOfNums name),wv] W fun e W'=>Bu wk bv F W W' (10,(m + 1,out)) e:=by
 obtain ⟨q,cq,h1,h2,h3⟩:=h.ex;obtain ⟨c0,c1,c2⟩:=h1.c;have f1:=h1.fz 1;have hl1:=h1.lt;have hsz:(strOfNums name).size=name.length:=strOfNums_size _;have FN:=Lv (fun (N:Int) (hN:N=(m + 1:Nat))=>Bu.at (r:=10) (h.met (m + 1) hN) (fun k hk=>.inl hk) (h.chg1 1 (.int .i64 N)) (fun e=>by cases e));obtain ⟨nl,hnl⟩:∃ nl,nl=name.length:=⟨_,rfl⟩
 rw [← hnl] at hsz hn hn2;have dn:decide ((255:Int) < (nl:Int))=true:=by simp;omega
 generalize strOfNums name=SN at *;clear h hnl h1 h2 h3;go_enter Tryz.func43,Tryz.ntmps43;go_wp2;go_ret
 exact FN.o _ (by omega)
theorem rk_mem {n:Nat} {p:Int} {way:List Int} (hw:∀ x∈way,0≤x∧x < n):decide (rk n p∈way)=decide (p∈way):=by
 unfold rk;by_cases h:p < n
 ·rw [if_pos h]
 ·rw [if_neg h,decide_eq_false (fun e=>by have:=hw _ e;omega),decide_eq_false (fun e=>by have:=hw _ e;omega)]
theorem flat1 (l:List Int) (j:Nat) (u:Value) (h:(l.flatMap Jl)[j]?=some u):∃ x,l[j]?=some x∧u=.int .i64 x:=by
 have e:l.flatMap Jl=l.map (fun x=>Value.int .i64 x):=by
  clear h
  induction l with
  | nil=>rfl
  | cons x l ih=>rw [List.flatMap_cons,ih];rfl
 rw [e,List.getElem?_map] at h;cases hx:l[j]? with
 | none=>rw [hx] at h;cases h
 | some x=>rw [hx] at h;injection h with h;exact ⟨x,rfl,h.symm⟩
theorem Ba.chg {F:Nat→Prop} {q:Option Addr} {l:List Kid} (h:Ba W q l) (hg:Chg F W V) (hf:∀ g o,q=some ⟨g,o,none⟩→¬ F g):Ba V q l:=fun i x hx=>by
 obtain ⟨g,e,c0,c1⟩:=h i x hx;exact ⟨g,e,Je c0 hg (hf g 0 e),Je c1 hg (hf g 0 e)⟩
theorem Q5.chg {F:Nat→Prop} {g:Nat} {b:Bool} {nm:ByteArray} {x:Ex} {v:Value} (h:Q5 W g b nm x v) (hg:Chg F W V) (hf:¬ F g):Q5 V g b nm x v:=(hg.block g (lt_of_block h) hf).trans h
theorem DnI.put {wk:Nat} {bv:Value} {F:Nat→Prop} {m g:Nat} {out:Out} (h:DnI wk bv W F m out) (hg:W.grownBy V (some g)) (hn:¬ F g):DnI wk bv V F m out:=by
 obtain ⟨⟨q,c,h1,h2,h3⟩,h4,h5⟩:=h;exact ⟨⟨q,c,h1.kept hg (by intro e;injection e with e;exact hn (e ▸ h4)),h2.kept hg (.inr (fun e=>hn (h3 g e))),h3⟩,h4,fun k hk=>Nat.lt_of_lt_of_le (h5 k hk) hg.size⟩
structure DnL (gn:Nat) (bb:Bool) (nm:ByteArray) (x:Ex) (v:Value) (qn:Option Addr) (L:List Kid) (q2:Option Addr) (way:List Int) (F:Nat→Prop) (W:World):Prop where
 nd:Q5 W gn bb nm x v
 fn:¬ F gn
 kd:Ba W qn L
 fk:∀ g o,qn=some ⟨g,o,none⟩→¬ F g∧g < W.heap.size
 wy:Kq W q2 way
 fw:∀ g o,q2=some ⟨g,o,none⟩→¬ F g∧g < W.heap.size
theorem DnL.next {gn:Nat} {bb:Bool} {nm:ByteArray} {x:Ex} {v:Value} {qn q2:Option Addr} {L:List Kid} {way:List Int} {F F':Nat→Prop} (h:DnL gn bb nm x v qn L q2 way F W) (hg:Chg F W V) (hF:∀ k,F' k→F k∨W.heap.size≤k):DnL gn bb nm x v qn L q2 way F' V:=by
 have hl:=h.nd.lt;refine ⟨h.nd.chg hg h.fn,fun e=>(hF gn e).elim h.fn (fun e=>by omega),h.kd.chg hg (fun g o e=>(h.fk g o e).1),fun g o e=>?_,h.wy.chg hg (fun g o e=>(h.fw g o e).1),fun g o e=>?_⟩
 ·have:=h.fk g o e;have:=hg.size
  exact ⟨fun e=>(hF g e).elim (h.fk g o ‹_›).1 (fun e=>by omega),by omega⟩
 ·have:=h.fw g o e;have:=hg.size
  exact ⟨fun e=>(hF g e).elim (h.fw g o ‹_›).1 (fun e=>by omega),by omega⟩
def Lq (wk:Nat) (bv:Value) (F:Nat→Prop) (W:World) (gn:Nat) (v:Value) (qn:Option Addr) (L:List Kid) (m:Nat) (out:Out) (V:World):Prop :=
 ∃ F4 bb nm x,DnI wk bv V F4 m out∧(∀ k,F4 k→F k∨W.heap.size≤k)∧Chg F W V∧DnL gn bb nm x v qn L none [] F4 V
theorem chg_chain {F F':Nat→Prop} {W1 W2 W3:World} (h:Chg F W1 W2) (k:Chg F' W2 W3) (hF:∀ i,F' i→F i∨W1.heap.size≤i):Chg F W1 W3 :=
 ⟨k.os.trans h.os,k.tape.trans h.tape,k.output.trans h.output,Nat.le_trans h.size k.size,fun i hi hn=>(k.block i (Nat.lt_of_lt_of_le hi h.size) (fun e=>(hF i e).elim hn (fun e=>by omega))).trans (h.block i hi hn)⟩
theorem down_any {wk:Nat} (hb:Byt xs) (hc:xs.length≤c) (hcm:c≤9223372036854775807) (hbig:xs.length≤140737488355328):∀ (k:Nat) (W:World) (F:Nat→Prop) (m:Nat) (way:List Int) (out:Out) (name:List Int) (pl:Int) (qw:Option Addr) (cw:Nat),
  256≤k + name.length→name.length≤510→0≤pl→m≤8192→way.length≤name.length→out.length≤4096→(∀ x∈way,0≤x∧x < xs.length)→Kq W qw way→(∀ g o,qw=some ⟨g,o,none⟩→¬ F g) →
  (∀ i,i < xs.length→W.cell? ⟨b,o + i,none⟩=some (.int .u8 (xs.getD i 0)))→¬ F b→b < W.heap.size→DnI wk (.slice (some ⟨b,o,none⟩) xs.length c) W F m out →
  Calls Tryz.prog 43 #[.pointer (some ⟨wk,0,none⟩),.int .i64 (rk xs.length pl),.string (strOfNums name),.slice qw way.length cw] W fun e W' =>
    Bu wk (.slice (some ⟨b,o,none⟩) xs.length c) F W W' (vis xs Zh k way name pl (m,out)) e:=by
 intro k
 induction k with
 | zero =>
  intro W F m way out name pl qw cw hk hn2 _ hm _ _ _ _ _ _ _ _ h;exact down_long name _ _ (by omega) hn2 hm h
 | succ k ih =>
  intro W F m way out name pl qw cw hk hn2 hp0 hm hway hout hwr hwa hwf hx hbF hbl h;by_cases hn : 255 < name.length
  · have e:vis xs Zh (k + 1) way name pl (m,out)=(10,(m + 1,out)):=by unfold vis;rw [if_pos hn]
    rw [e];exact down_long name _ _ hn hn2 hm h
  have IH:=Lv ih;obtain ⟨q0,cq0,x1,x2,x3⟩:=h.ex;obtain ⟨c0,c1,c2⟩:=x1.c;have f1:=x1.fz 1;have hl1:=x1.lt;have H1:=And.intro (h.met (m + 1) (N:=(m:Int) + 1) (by omega)) (h.chg1 1 (.int .i64 ((m:Int) + 1)));have hwkF:F wk:=h.fw;obtain ⟨W1,hW1⟩:∃ W1,W.setCell ⟨wk,1,none⟩ (.int .i64 ((m:Int) + 1))=W1:=⟨_,rfl⟩
  rw [hW1] at H1;have HW1:=Lv hW1;have K1:=Lv H1.1;have C1:=Lv H1.2;have HX0:=Lv hx;have HWA0:=Lv hwa;have BL0:=Lv hbl;have HX1:=Lv (fun i hi=>Je (hx i hi) H1.2 hbF);have HWA1:=Lv (hwa.chg H1.2 hwf);have BL1:=Lv (show b < W1.heap.size from Nat.lt_of_lt_of_le hbl H1.2.size);have SZ1:=Lv H1.2.size;clear hW1 H1 ih h x1 x2 x3 hwkF hx hwa hbl;obtain ⟨r,hr⟩:∃ r,r=vis xs Zh (k + 1) way name pl (m,out):=⟨_,rfl⟩
  rw [← hr];have HR:=Lv (show r=if pl∈way then (12,(m + 1,out)) else if 8192 < m + 1 then (11,(m + 1,out)) else match ndAt xs pl with
    | none=>(12,(m + 1,out))
    | some nd=>visK (vis xs Zh k (way ++ [pl])) name (Zh out name nd).2.1 (Zh out name nd).2.2 (m + 1,(Zh out name nd).1) from hr.trans (Pb hn))
  clear hr;have hnl:name.length≤255:=by omega
  have hsz:(strOfNums name).size=name.length:=strOfNums_size _;obtain ⟨SN,hSN⟩:∃ SN,SN=strOfNums name:=⟨_,rfl⟩
  obtain ⟨nl,hnl2⟩:∃ nl,nl=name.length:=⟨_,rfl⟩
  rw [← hSN] at hsz ⊢;rw [← hnl2] at hsz hnl hn hn2 hk hway;have HSN:=Lv hSN;have HNL:=Lv hnl2;clear hSN hnl2;have dn:decide ((255:Int) < (nl:Int))=false:=by simp;omega
  have CT:=Lv (has_any (w:=W1) way way.length rfl (by omega) qw cw HWA1.o (rk xs.length pl));have RM:=Lv (rk_mem (n:=xs.length) (p:=pl) hwr);have HWR:=Lv hwr;obtain ⟨at',hat⟩:∃ a,a=rk xs.length pl:=⟨_,rfl⟩
  rw [← hat] at CT RM ⊢;have HAT:=Lv hat;clear hat hwr;go_enter Tryz.func43,Tryz.ntmps43;go_upto_region 2 with fail;rw [HW1.o];clear HW1 c0 c1 c2 f1 hl1;go_wp2_with fail;refine CT.o.mono ?_
  rintro e W1' ⟨rfl,hw'⟩;have hw2:=hw'.symm;subst hw2;clear hw' CT;rw [RM.o];by_cases hin:pl∈way
  · have FN:=Lv (Bu.at (r:=12) K1.o (fun k hk=>.inl hk) C1.o (fun e=>by cases e))
    rw [if_pos hin] at HR;rw [show decide (pl∈way)=true from decide_eq_true hin];clear hin;go_wp2;go_ret
    rw [HR.o];exact FN.o
  rw [if_neg hin] at HR;rw [show decide (pl∈way)=false from decide_eq_false hin];clear hin RM;obtain ⟨q1,cq1,y1,y2,y3⟩:=K1.o.ex;obtain ⟨c0,c1,c2⟩:=y1.c;clear y1 y2 y3;by_cases hmm : 8192 < m + 1
  · have FN:=Lv (Bu.at (r:=11) K1.o (fun k hk=>.inl hk) C1.o (fun e=>by cases e))
    rw [if_pos hmm] at HR;have dm:decide ((8192:Int) < ((m + 1:Nat):Int))=true:=by simp;omega
    have dm2:decide ((8192:Int) < (m:Int) + 1)=true:=by simp;omega
    clear hmm;go_wp2;go_ret
    rw [HR.o];exact FN.o
  rw [if_neg hmm] at HR;have dm:decide ((8192:Int) < ((m + 1:Nat):Int))=false:=by simp;omega
  have dm2:decide ((8192:Int) < (m:Int) + 1)=false:=by simp;omega
  by_cases hpl:pl < xs.length
  case neg =>
    have hnd:ndAt xs pl=none:=by unfold ndAt;rw [if_neg (fun h=>hpl h.2)]
    rw [hnd] at HR;have da:decide (at' < 0)=true:=by rw [HAT.o];unfold rk;rw [if_neg hpl];rfl
    have FN:=Lv (Bu.at (r:=12) K1.o (fun k hk=>.inl hk) C1.o (fun e=>by cases e));clear hpl hnd;go_wp2;go_ret
    rw [HR.o];exact FN.o
  case pos =>
  obtain ⟨p,rfl⟩:∃ p:Nat,pl=(p:Int):=⟨pl.toNat,by omega⟩
  have ha:at'=(p:Int):=by rw [HAT.o];unfold rk;rw [if_pos hpl]
  subst ha;have da:decide ((p:Int) < 0)=false:=by simp
  have RD:=Lv (read9_any (w:=W1) HX1.o hc hcm BL1.o hbig hb p (by omega));have PL:=Lv hpl;clear hpl HAT;go_wp2_with fail;refine RD.o.mono ?_
  rintro e W2 ⟨hex,hg2⟩;clear RD c0 c1 c2 dm dm2 da dn;have K2:=Lv (K1.o.grown hg2);have C2:=Lv (C1.o.trans (Chg.of_grown hg2 (fun b e=>by cases e)));have SZ2:=Lv hg2.size;have HX2:=Lv (fun i hi=>Qv hg2 (HX1.o i hi));have HWA2:=Lv (HWA1.o.grown hg2);clear HX1 HWA1;rcases hex with ⟨nd,v,hnd,rfl,ho⟩ | ⟨hnd,rfl⟩
  case inr =>
    rw [hnd] at HR;have GZ:=Lv (fun (o:Obj)=>And.intro (K2.o.grown (grown1 W2 o)) (C2.o.trans (Chg.of_grown (grown1 W2 o) (fun b e=>by cases e))));have FN:=Lv (fun (o:Obj)=>Bu.at (r:=12) (GZ.o o).1 (fun k hk=>.inl hk) (GZ.o o).2 (fun e=>by cases e));clear hnd hg2;unfold Kw;go_wp2;go_ret
    rw [HR.o];exact FN.o _
  case inl =>
    rw [hnd] at HR;have NK:=Lv (W8 hb hnd);obtain ⟨qn,cn,rfl⟩:=Qp ho;have KF:=Lv K1.o.fb;have NV:=Lv (fun g (e:(Value.slice qn nd.kids.length cn).ownBlock=some g)=>(ho.lt g e));have HC:=Lv (HR.o);simp only [] at HC;clear HR hnd;have g3:=grown1 W2 (.cells #[.bool nd.ex.isSome,.string ⟨#[]⟩,.int .i64 (exOf nd.ex).kind,.bool (exOf nd.ex).weak,.int .u64 (exOf nd.ex).value,.int .u64 (exOf nd.ex).resolver,.int .u64 (exOf nd.ex).ordinal,.string (strOfNums (exOf nd.ex).other),.slice qn nd.kids.length cn] 152)
    have N3:=Lv (show Q5 (W2.alloc (.cells #[.bool nd.ex.isSome,.string ⟨#[]⟩,.int .i64 (exOf nd.ex).kind,.bool (exOf nd.ex).weak,.int .u64 (exOf nd.ex).value,.int .u64 (exOf nd.ex).resolver,.int .u64 (exOf nd.ex).ordinal,.string (strOfNums (exOf nd.ex).other),.slice qn nd.kids.length cn] 152)) W2.heap.size nd.ex.isSome ⟨#[]⟩ (exOf nd.ex) (.slice qn nd.kids.length cn) from heap_alloc_new W2 _)
    have K3:=Lv (K2.o.grown g3);have C3:=Lv (C2.o.trans (Chg.of_grown g3 (fun b e=>by cases e)));have O3:=Lv (Qy ho g3);have HX3:=Lv (fun i hi=>Qv g3 (HX2.o i hi));have HWA3:=Lv (HWA2.o.grown g3);unfold Kw;obtain ⟨nb,hnb⟩:∃ x,x=nd.ex.isSome:=⟨_,rfl⟩
    obtain ⟨nx,hnx⟩:∃ x,x=exOf nd.ex:=⟨_,rfl⟩
    obtain ⟨kl,hkl⟩:∃ x,x=nd.kids.length:=⟨_,rfl⟩
    rw [← hnb,← hnx,← hkl] at N3 K3 C3 O3 HX3 HWA3;rw [← hkl] at NV;rw [← hnb,← hnx,← hkl];have EQ:=Lv (And.intro hnb (And.intro hnx hkl));clear hnb hnx hkl g3 ho K2 C2 hg2 HX2 HWA2;obtain ⟨W3,hW3⟩:∃ W3,W2.alloc (.cells #[.bool nb,.string ⟨#[]⟩,.int .i64 nx.kind,.bool nx.weak,.int .u64 nx.value,.int .u64 nx.resolver,.int .u64 nx.ordinal,.string (strOfNums nx.other),.slice qn kl cn] 152)=W3:=⟨_,rfl⟩
    obtain ⟨gn,hgn⟩:∃ gn,W2.heap.size=gn:=⟨_,rfl⟩
    rw [hW3] at N3 K3 C3 O3 HX3 HWA3;rw [hgn] at N3;have HW3:=Lv hW3;have HGN:=Lv hgn;have HGN2:=Lv hgn;clear hW3 hgn;go_upto_region 11 with fail;rw [HW3.o,HGN.o];clear HW3 HGN;obtain ⟨d0,d1,d2,d3,d4,d5,d6,d7,d8⟩:=N3.o.c;have dl:=N3.o.lt;have GF:=Lv (show ¬ F gn from fun e=>by have:=KF.o gn e;have:=HGN2.o;have:=SZ2.o;omega);have KD3:=Lv (Ba.of (l:=nd.kids.map (rkid xs.length)) O3.o)
    have KB3:=Lv (show ∀ g o,qn=some ⟨g,o,none⟩→¬ F g∧g < W3.heap.size from fun g o e=>by
     have h1:=NV.o g (by rw [e];rfl);refine ⟨fun e=>by have:=KF.o g e;omega,?_⟩
     have:=HGN2.o;have:=N3.o.lt;omega)
    go_upto_if 46 with fail
    go_cut [] from 47 to 60 (fun wx=>Lq wk (.slice (some ⟨b,o,none⟩) xs.length c) F W gn (.slice qn kl cn) qn (nd.kids.map (rkid xs.length)) (m + 1) (outN out name nd) wx)
    case first =>
     cases hex:nd.ex with
     | none =>
      have e0:nb=false:=by rw [EQ.o.1,hex];rfl
      subst e0;have hO:outN out name nd=out:=by unfold outN;rw [hex]
      have RL:=Lv (show Lq wk (.slice (some ⟨b,o,none⟩) xs.length c) F W gn (.slice qn kl cn) qn (nd.kids.map (rkid xs.length)) (m + 1) (outN out name nd) W3 from by
       rw [hO];exact ⟨F,false,⟨#[]⟩,nx,K3.o,fun k hk=>.inl hk,C3.o,⟨N3.o,GF.o,KD3.o,KB3.o,Kq.nil,fun g o e=>by cases e⟩⟩)
      clear hO hex;go_wp2;go_meet
      exact RL.o
     | some x =>
      have e0:nb=true:=by rw [EQ.o.1,hex];rfl
      have e1:nx=x:=by rw [EQ.o.2.1,hex];rfl
      subst e0 e1;have hO:outN out name nd=out ++ [(name,nx)]:=by unfold outN;rw [hex]
      have HO:=Lv hO;clear hO hex;have g4:=Qx (i:=1) (Qq W3 (some gn)) (.string SN);have k4:=K3.o.put g4 GF.o;have n4:=N3.o.s1 SN;have c4:=chg_chain C3.o (Chg.of_grown (F:=fun k=>k=gn) g4 (fun b e=>by injection e with e;exact .inl e.symm)) (fun i e=>by right;rw [e];have:=HGN2.o;have:=SZ2.o;have:=SZ1.o;omega);have df:=N3.o.fz 1;have kd4:Ba (W3.setCell ⟨gn,1,none⟩ (.string SN)) qn (nd.kids.map (rkid xs.length)):=fun i y hy=>by
       obtain ⟨g,e,a0,a1⟩:=KD3.o i y hy;have h1:=NV.o g (by rw [e];rfl);have hne:some g≠some gn:=by intro e;injection e with e;have:=HGN2.o;omega
       exact ⟨g,e,g4.cell a0 hne,g4.cell a1 hne⟩
      have hs4:=g4.size;obtain ⟨W4,hW4⟩:∃ W4,W3.setCell ⟨gn,1,none⟩ (.string SN)=W4:=⟨_,rfl⟩
      rw [hW4] at g4 k4 n4 c4 kd4 hs4;have HW4:=Lv hW4;have KD4:=Lv kd4;have C4:=Lv c4;have N4:=Lv n4;have K4:=Lv k4;have S4:=Lv hs4;have L4:=Lv (show gn < W4.heap.size from n4.lt);clear hW4 g4 kd4 c4 hs4;go_upto_region 15 with fail;rw [HW4.o];clear HW4 df d0 d1 d2 d3 d4 d5 d6 d7 d8 dl;obtain ⟨q4,cq4,y1,y2,y3⟩:=k4.ex;obtain ⟨c0,c1,c2⟩:=y1.c;have f2:=y1.fz 2;have wl:=y1.lt
      obtain ⟨d0,d1,d2,d3,d4,d5,d6,d7,d8⟩:=n4.c;have dl:=n4.lt;have hsn:exCs SN nx=Q4 (name,nx):=by unfold Q4;rw [HSN.o]
      have gA:W4.grownBy (W4.drew.alloc (.cells (exCs SN nx).toArray 28 (0,0))) none:=Qz (Qj (Qq W4 none) 1) (grown1 W4.drew _);have OWA:=Lv (Qy y2 gA);have HNA:=Lv (show (W4.drew.alloc (.cells (exCs SN nx).toArray 28 (0,0))).heap[W4.drew.heap.size]?=some (.cells (exCs SN nx).toArray 28 (0,0)) from heap_alloc_new W4.drew _);have ONE:=Lv (J5 SN nx)
      have WKA:=Lv (y1.kept gA (by simp));have WNE:=Lv (Zb y2 y1 (by decide));have GA:=Lv gA;have Y3:=Lv y3;have FIN:=Lv (fun (v5:Value) (w5:World) (ho5:w5.ownsRow 0 28 7 v5 (out.length + 1) (out.flatMap Q4 ++ exCs SN nx)) (hg5:(W4.drew.alloc (.cells (exCs SN nx).toArray 28 (0,0))).grownBy w5 (Value.slice q4 out.length cq4).ownBlock) (hv5:v5.ownBlock=(Value.slice q4 out.length cq4).ownBlock∨v5.ownBlock=some (W4.drew.alloc (.cells (exCs SN nx).toArray 28 (0,0))).heap.size) =>
       (show Lq wk (.slice (some ⟨b,o,none⟩) xs.length c) F W gn (.slice qn kl cn) qn (nd.kids.map (rkid xs.length)) (m + 1) (outN out name nd) (w5.setCell ⟨wk,2,none⟩ v5) from by
         obtain ⟨q5,c5,rfl⟩:=Qp ho5;have w5k:=WKA.o.kept hg5 WNE.o;have ne5:=Zb ho5 w5k (by decide);have g6:=Qx (i:=2) (Qq w5 (some wk)) (.slice q5 (out.length + 1) c5);have hsz5:W4.heap.size≤w5.heap.size:=Nat.le_trans GA.o.size hg5.size;have hF5:∀ g,(Value.slice q5 (out.length + 1) c5).ownBlock=some g→F g∨W4.heap.size < g:=fun g e=>by
           rcases hv5 with h | h
           · rw [h] at e;exact .inl (Y3.o g e)
           · rw [h] at e;injection e with e;right;rw [World.size_alloc] at e;have:W4.drew.heap.size=W4.heap.size:=rfl;omega
         have ch:Chg F W4 (w5.setCell ⟨wk,2,none⟩ (.slice q5 (out.length + 1) c5)) :=
           ((Chg.of_grown GA.o (fun b e=>by cases e)).trans (Chg.of_grown hg5 (fun b e=>.inl (Y3.o b e)))).trans (Chg.of_grown g6 (fun b e=>by injection e with e;exact .inl (e ▸ K4.o.fw)))
         have o6:=ho5.kept g6 (.inr ne5);rw [hsn] at o6;have hlen:(outN out name nd).length=out.length + 1:=by rw [HO.o];simp
         refine ⟨fun k=>F k∨(Value.slice q5 (out.length + 1) c5).ownBlock=some k,true,SN,nx,⟨⟨q5,c5,?_,?_,?_⟩,.inl K4.o.fw,?_⟩,?_,?_,?_⟩
         · rw [hlen];exact w5k.out _
         · rw [hlen,HO.o,List.flatMap_append,List.flatMap_singleton];exact o6
         · rw [hlen];exact fun g e=>.inr e
         · intro k hk
           rcases hk with hk | hk
           · exact Nat.lt_of_lt_of_le (K4.o.fb k hk) ch.size
           · exact (o6.lt k hk).2
         · intro k hk
           rcases hk with hk | hk
           · exact .inl hk
           · rcases hF5 k hk with h | h
             ·exact .inl h
             ·right;have:=C4.o.size;omega
         · exact C4.o.trans ch
         · have hq:∀ g o,qn=some ⟨g,o,none⟩→¬ F g∧g < W4.heap.size:=fun g o e=>⟨(KB3.o g o e).1,by have:=(KB3.o g o e).2;have:=S4.o;omega⟩
           refine ⟨N4.o.chg ch GF.o,?_,KD4.o.chg ch (fun g o e=>(hq g o e).1),?_,Kq.nil,fun g o e=>by cases e⟩
           · rintro (h | h)
             ·exact GF.o h
             ·rcases hF5 gn h with h | h
              ·exact GF.o h
              ·have:=L4.o;omega
           · intro g o e
             have:=hq g o e
             have:=ch.size
             refine ⟨?_,by omega⟩;rintro (h | h)
             ·exact (hq g o e).1 h
             ·rcases hF5 g h with h | h
              ·exact (hq g o e).1 h
              ·omega))
      clear gA y1 y2 y3 hsn k4 n4;go_region_law (refine step_append_sta Vt (by with_reducible rfl) _ _ (by with_reducible rfl) _ out.length 1 (out.flatMap Q4) (by rfl) OWA.o (exCs SN nx) rfl W4.drew.heap.size (by rfl) HNA.o ONE.o (by omega) (by decide) (Nat.zero_le _) ?_;intro v5 w5 ho5 hg5 hv5;obtain ⟨q5,c5,rfl⟩:=Qp ho5;have c2':=(WKA.o.kept hg5 WNE.o).c.2.2;have f2':=(WKA.o.kept hg5 WNE.o).fz 2;have wl':=(WKA.o.kept hg5 WNE.o).lt;have FI:=Lv (FIN.o _ w5 ho5 hg5 hv5);clear ho5 hg5 hv5)
      all_goals
       go_wp2;go_meet
       exact FI.o
    case rest =>
     obtain ⟨F4,bb4,nm4,x4,k4,hF4,hC4,hL4⟩:=hcut;have K4:=Lv k4;have F4H:=Lv hF4;have C4:=Lv hC4;have L4:=Lv hL4;clear hL4 hC4 hF4 k4 d0 d1 d2 d3 d4 d5 d6 d7 d8 dl K3 C3 N3 O3 HX3 HWA3 NV KD3 KB3 GF HGN2;obtain ⟨OUT,hOUT⟩:∃ O,O=outN out name nd:=⟨_,rfl⟩
     have hmt:Zh out name nd=if 4096 < OUT.length then (OUT,[],11) else (OUT,nd.kids,0):=by rw [hOUT];rfl
     rw [hmt] at HC;rw [← hOUT] at K4;clear hmt hOUT;obtain ⟨q4,cq4,y1,y2,y3⟩:=K4.o.ex;obtain ⟨c0,c1,c2⟩:=y1.c;clear y1 y2 y3;by_cases hmany : 4096 < OUT.length
     ·have dm:decide ((4096:Int) < (OUT.length:Int))=true:=by simp;omega
      rw [if_pos hmany] at HC;have FN:=Lv (Bu.at (r:=11) K4.o F4H.o C4.o (fun e=>by cases e));clear hmany;go_wp2;go_ret
      rw [HC.o];exact FN.o
     have dm:decide ((4096:Int) < (OUT.length:Int))=false:=by simp;omega
     rw [if_neg hmany] at HC;have HMANY:=Lv hmany;clear hmany;go_upto_region 18 with fail;clear dm c0 c1 c2;have HW4':=Lv (fun j u (hu:(way.flatMap Jl)[j]?=some u)=>(show ∃ g o',qw=some ⟨g,o',none⟩∧wc.cell? ⟨g,o' + j,none⟩=some u from by
      obtain ⟨y,hy,rfl⟩:=flat1 way j u hu;obtain ⟨g,e,h0⟩:=HWA0.o j y hy;exact ⟨g,0,e,by rw [Nat.zero_add];exact Je h0 C4.o (hwf g 0 e)⟩))
     have HL1:=Lv (show (way.flatMap Jl).length=way.length * 1 from Gw (f:=Jl) (fun _=>rfl) way);have HO1:=Lv (show ∀ u∈way.flatMap Jl,u.oneCell'=true from fun u hu=>by
      obtain ⟨j,hj,e⟩:=List.getElem_of_mem hu;obtain ⟨y,_,rfl⟩:=flat1 way j u (by rw [← e];exact List.getElem?_eq_getElem hj);rfl)
     go_wp2_with (at_builtin;refine wp_append_rows Wh rfl _ _ rfl rfl (.slice none 0 0) 0 [] rfl (World.ownsRow_nil _ wc.heap.size 3 1) qw way.length cw rfl (way.flatMap Jl) HL1.o HW4'.o HO1.o (by omega) (by decide) (Nat.le_refl _) ?_)
     intro v1 w5 ho5 hg5 hv5
     try rw [Nat.zero_add] at ho5
     try rw [List.nil_append] at ho5
     have G5:=Lv (show wc.grownBy w5 none from hg5);obtain ⟨q5,c5,rfl⟩:=Qp ho5;have g6:=grown1 w5 (.cells #[.int .i64 (p:Int)] 3);have O6:=Lv (Qy ho5 g6);have N6:=Lv (heap_alloc_new w5 (.cells #[.int .i64 (p:Int)] 3));have G6:=Lv (Qz G5.o g6);clear ho5 hg5 hv5 g6 HW4' HL1 HO1;go_wp2_with (at_builtin;refine Zz Wh rfl _ _ rfl _ way.length _ rfl O6.o [.int .i64 (p:Int)] rfl w5.heap.size rfl N6.o (fun u hu=>by simp at hu;subst hu;rfl) (by omega) (by decide) ?_ ?_)
     ·have:=G6.o.size;exact this
     intro v2 w7 ho7 hg7 hv7;obtain ⟨q7,c7,rfl⟩:=Qp ho7;have G7:=Lv (Qr G6.o hg7 (fun g e=>(O6.o.lt g e).1));have hfl:way.flatMap Jl ++ [.int .i64 (p:Int)]=(way ++ [(p:Int)]).flatMap Jl:=by rw [List.flatMap_append,List.flatMap_singleton];rfl
     rw [hfl] at ho7;have O7:=Lv ho7;have L7:=Lv (show DnL gn bb4 nm4 x4 (.slice qn kl cn) qn (nd.kids.map (rkid xs.length)) q7 (way ++ [(p:Int)]) F4 w7 from by
      have h:=L4.o.next (F':=F4) (Chg.of_grown G7.o (fun b e=>by cases e)) (fun k hk=>.inl hk);refine ⟨h.nd,h.fn,h.kd,h.fk,Kq.of O7.o,fun g o e=>?_⟩;have h1:=O7.o.lt g (by rw [e];rfl);exact ⟨fun e=>by have:=K4.o.fb g e;omega,h1.2⟩)
     have K7:=Lv (K4.o.grown G7.o);have C7:=Lv (C4.o.trans (Chg.of_grown G7.o (fun b e=>by cases e)));clear ho7 hg7 hv7 hfl O6 N6 G6 G5 K4 L4 C4;go_upto_region 20 with fail;go_loopw [12,13] (fun i er wr=>Lk (∃ (j:Nat) (F':Nat→Prop) (m':Nat) (out':Out),j≤nd.kids.length∧i=.int .i64 j∧DnI wk (.slice (some ⟨b,o,none⟩) xs.length c) wr F' m' out'∧(∀ k,F' k→F k∨W.heap.size≤k)∧Chg F W wr∧DnL gn bb4 nm4 x4 (.slice qn kl cn) qn (nd.kids.map (rkid xs.length)) q7 (way ++ [(p:Int)]) F' wr∧Hid (r=visK (vis xs Zh k (way ++ [(p:Int)])) name (nd.kids.drop j) 0 (m',out'))∧m'≤8192∧out'.length≤4096)) (fun i _ _=>nd.kids.length - (intOf i).toNat)
     case atStart=>exact Lk.mk ⟨0,F4,m + 1,OUT,Nat.zero_le _,rfl,K7.o,F4H.o,C7.o,L7.o,Lv HC.o,by omega,by have:=HMANY.o;omega⟩
     case round =>
      obtain ⟨j,F',m',out',hj,rfl,hK,hF',hC,hL,CO,hm',ho'⟩:=hrel.opened;have K8:=Lv hK;have F8:=Lv hF';have C8:=Lv hC;have L8:=Lv hL;clear hK hF' hC hL;have d8:=L8.o.nd.c.2.2.2.2.2.2.2.2;have dl:=L8.o.nd.lt;by_cases hlt:j < nd.kids.length
      ·obtain ⟨x,hx⟩:∃ x,nd.kids[j]?=some x:=⟨_,List.getElem?_eq_getElem hlt⟩
       have KO:=Lv (NK.o.kids.each x (List.mem_of_getElem? hx));have CO2:=Lv (show r=if (vis xs Zh k (way ++ [(p:Int)]) (name ++ x.1) x.2 (m',out')).1≠0 then vis xs Zh k (way ++ [(p:Int)]) (name ++ x.1) x.2 (m',out') else visK (vis xs Zh k (way ++ [(p:Int)])) name (nd.kids.drop (j + 1)) 0 (vis xs Zh k (way ++ [(p:Int)]) (name ++ x.1) x.2 (m',out')).2 by
         obtain ⟨hjj,he⟩:=List.getElem?_eq_some_iff.1 hx;have h:=CO.o;rw [List.drop_eq_getElem_cons hjj,he] at h;exact h)
       have hxL:(nd.kids.map (rkid xs.length))[j]?=some (rkid xs.length x):=by rw [List.getElem?_map,hx];rfl
       obtain ⟨gq,rfl,c0,c1⟩:=L8.o.kd j _ hxL;obtain ⟨xe,xp⟩:=x;have hr1:(rkid xs.length (xe,xp)).1=xe:=rfl;have hr2:(rkid xs.length (xe,xp)).2=rk xs.length xp:=rfl;rw [hr1] at c0;rw [hr2] at c1;have hcat:SN ++ strOfNums xe=strOfNums (name ++ xe):=by rw [HSN.o,strOfNums_app]
       simp only [] at KO CO2;have X1:=Lv (show 1≤xe.length by
         have h:=KO.o.ne;cases xe with
         | nil=>exact absurd rfl h
         | cons=>simp)
       have hsx:(strOfNums xe).size=xe.length:=strOfNums_size _;have hxl:xe.length≤255:=KO.o.len;have hkf:kl≤255:=by rw [EQ.o.2.2];exact NK.o.few
       have hjn:j < kl:=by rw [EQ.o.2.2];exact hlt
       have KLH:=Lv EQ.o.2.2;have hcl:¬ 9223372036854775807 < nl + xe.length:=by omega
       have dj:decide ((j:Int) < (kl:Int))=true:=by simp;omega
       have hjl:(j:Int) < (kl:Int):=by omega
       have gD:wr.grownBy wr.drew none:=Qj (Qq wr none) 1;have KD:=K8.o.grown gD;have CD:=C8.o.trans (Chg.of_grown gD (fun b e=>by cases e));have LD:=L8.o.next (F':=F') (Chg.of_grown gD (fun b e=>by cases e)) (fun k hk=>.inl hk);have CALL:=Lv (IH.o wr.drew F' m' (way ++ [(p:Int)]) out' (name ++ xe) xp q7 c7 (by rw [List.length_append,← HNL.o];have:=X1.o;omega) (by rw [List.length_append,← HNL.o];have:=KO.o.len;simp only [] at this;omega) KO.o.lo hm'
         (by rw [List.length_append,List.length_append,List.length_singleton,← HNL.o];have:=X1.o;omega) ho' (by
           intro y hy;rcases List.mem_append.1 hy with h | h
           · exact HWR.o y h
           · rw [List.mem_singleton.1 h];exact ⟨hp0,PL.o⟩) LD.wy (fun g o e=>(LD.fw g o e).1) (fun i hi=>Je (HX0.o i hi) CD hbF) (fun e=>(F8.o b e).elim hbF (fun e=>by have:=BL0.o;omega)) (Nat.lt_of_lt_of_le BL0.o CD.size) KD)
       rw [show (way ++ [(p:Int)]).length=way.length + 1 by rw [List.length_append,List.length_singleton]] at CALL;have CD8:=Lv CD;have LD8:=Lv LD;obtain ⟨⟨R,m9,s9⟩,hR⟩:∃ x,x=vis xs Zh k (way ++ [(p:Int)]) (name ++ xe) xp (m',out'):=⟨_,rfl⟩
       rw [← hR] at CALL CO2;clear hR gD KD CD LD hx hxL hr1 hr2 CO;go_wp2;go_still_tail 16,(by kernel_rfl)
       change wpList _ _ _ _ _ wr.drew;clear c0 c1 d8 dl hcl dj hsz hsx;go_wp2_with fail;refine CALL.o.mono ?_
       rintro e w9 ⟨rfl,⟨F9,k9,f9⟩,c9,few9⟩;have K9:=Lv k9;have F9H:=Lv (show ∀ i,F9 i→F i∨W.heap.size≤i from fun i hi=>(f9 i hi).elim (F8.o i) (fun e=>.inr (by have:=CD8.o.size;omega)));have C9:=Lv (chg_chain CD8.o c9 F8.o);have L9:=Lv (LD8.o.next c9 f9);have FEW9:=Lv few9;simp only [] at K9 FEW9 CO2;clear k9 f9 c9 few9 CALL CD8 LD8;by_cases hR0:R=0
       · have dr:(R != 0)=false:=by rw [hR0];rfl
         have CO3:=Lv (show r=visK (vis xs Zh k (way ++ [(p:Int)])) name (nd.kids.drop (j + 1)) 0 (m9,s9) by
           have h:=CO2.o;rw [if_neg (fun h=>h hR0)] at h;exact h)
         have M9:=Lv (FEW9.o hR0);clear CO2 FEW9;subst hR0;go_wp2;go_roundw
         case rel=>exact Lk.mk ⟨j + 1,F9,m9,s9,hlt,by go_num,K9.o,F9H.o,C9.o,L9.o,Lv CO3.o,M9.o.1,M9.o.2⟩
         case measure=>(have:=KLH.o;simp [intOf];omega)
       · have dr:(R != 0)=true:=by simpa using hR0
         have FN:=Lv (show Bu wk (.slice (some ⟨b,o,none⟩) xs.length c) F W w9 r (.returned (.int .i64 R)) by
           have h:=CO2.o;rw [if_pos hR0] at h;rw [h];exact Bu.at K9.o F9H.o C9.o (fun e=>absurd e hR0))
         clear CO2 hR0 FEW9;go_wp2;go_ret
         exact FN.o
      ·have hjL:j=nd.kids.length:=by omega
       have hjn:¬ j < kl:=by rw [EQ.o.2.2];exact hlt
       have dj:decide ((j:Int) < (kl:Int))=false:=by simp;omega
       have dj2:decide (j < kl)=false:=by simp;omega
       have FN:=Lv (show Bu wk (.slice (some ⟨b,o,none⟩) xs.length c) F W wr r (.returned (.int .i64 0)) by
         have h:=CO.o;rw [hjL,List.drop_length] at h;rw [h];exact Bu.at K8.o F8.o C8.o (fun _=>⟨hm',ho'⟩))
       clear CO hjL hlt;go_wp2;go_ret
       exact FN.o
end
section
variable {w w' W V:World} {xs:List Int}
theorem allN_vis (xs:List Int) (h:xs≠[]) {r:Int × (Nat × Out)} (hr:vis xs Zh 257 [] [] 0 (0,[])=r):allN xs=if r.1≠0 then ([],r.1) else (r.2.2,0):=by
 unfold allN;rw [if_neg h,hr]
theorem refAll_any {q:Option Addr} {c n:Nat} (h:Qk w q c xs) (hn:xs.length=n) (hb:Byt xs) (hc:n≤c) (hcm:c≤9223372036854775807) (hbig:n≤140737488355328) :
  Calls Tryz.prog 13 #[.slice q n c] w fun e w'=>Ty w w' xs e:=by
 by_cases hx:xs=[]
 ·subst hx
  have FN:=Lv (show Ty w w [] (.returned (.tuple #[.slice none 0 0,.int .i64 0])) from ⟨⟨[],none,0,rfl,Xk.nil,List.Pairwise.nil,List.Perm.refl _,Nat.le_refl _,by decide⟩,Qq _ _⟩);have h0:((n:Int) == 0)=true:=by rw [← hn];rfl
  clear h hn hb;go_enter Tryz.func13,Tryz.ntmps13;go_wp2;go_ret2
  exact FN.o
 have hpos : 0 < xs.length:=by cases xs with | nil=>exact absurd rfl hx | cons=>simp
 obtain ⟨b,o,rfl,hcell⟩:=h.2 hpos;have hbl:b < w.heap.size:=by
  have:=World.block_lt_of_cell? w _ (hcell 0 hpos)
  exact this
 have h0:((n:Int) == 0)=false:=by simp;omega
 obtain ⟨wk,hwk⟩:∃ wk,w.heap.size=wk:=⟨_,rfl⟩
 have g1:=grown1 w (.cells #[.slice (some ⟨b,o,none⟩) n c,.int .i64 0,.slice none 0 0] 92);have k1:WkR (w.alloc (.cells #[.slice (some ⟨b,o,none⟩) n c,.int .i64 0,.slice none 0 0] 92)) w.heap.size (.slice (some ⟨b,o,none⟩) n c) 0 (.slice none 0 0):=heap_alloc_new w _;obtain ⟨W1,hW1⟩:∃ W1,w.alloc (.cells #[.slice (some ⟨b,o,none⟩) n c,.int .i64 0,.slice none 0 0] 92)=W1:=⟨_,rfl⟩
 rw [hW1] at g1 k1;rw [hwk] at k1;have d1:DnI wk (.slice (some ⟨b,o,none⟩) n c) W1 (fun k=>k=wk) 0 []:=⟨⟨none,0,k1,World.ownsRow_nil _ _ _ _,fun g e=>by cases e⟩,rfl,fun k hk=>by rw [hk];exact k1.lt⟩
 rw [← hn] at d1;have DN:=down_any (b:=b) (o:=o) (c:=c) (wk:=wk) hb (by omega) hcm (by omega) 257 W1 (fun k=>k=wk) 0 [] [] [] 0 none 0 (by simp) (by simp) (by decide) (by decide) (by simp) (by simp) (fun x hx=>by cases hx) Kq.nil (fun g o e=>by cases e) (fun i hi=>Qv g1 (hcell i hi)) (by omega) (Nat.lt_of_lt_of_le hbl g1.size) d1;have hrk:rk xs.length 0=0:=by unfold rk;rw [if_pos (by omega)]
 rw [hrk,hn] at DN;have AN:=allN_vis xs hx rfl;obtain ⟨⟨er,m9,out⟩,hr⟩:∃ r,r=vis xs Zh 257 [] [] 0 (0,[]):=⟨_,rfl⟩
 rw [← hr] at DN AN;simp only [] at AN;have ANH:=Lv AN;have DNH:=Lv DN;have G1:=Lv g1;have HW1:=Lv hW1;have HWK:=Lv hwk;clear hr AN DN d1 k1 g1 hW1 hwk hcell hrk h hx hpos;go_enter Tryz.func13,Tryz.ntmps13;go_upto_region 4 with fail;rw [HW1.o,HWK.o];have HWK2:=HWK.o;clear HW1 HWK;go_wp2_with fail;refine DNH.o.mono ?_
 rintro e W2 ⟨rfl,⟨F2,⟨⟨ql,cq,y1,y2,y3⟩,-,-⟩,hF2⟩,hch,hfew⟩;have G2:=Lv (grown_chg0 hch G1.o (fun k hk=>by rw [hk];omega));simp only [] at y1 y2 hfew;obtain ⟨c0,c1,c2⟩:=y1.c;by_cases he:er=0
 ·subst he
  have AN:=ANH.o;rw [if_neg (by simp)] at AN;have FW:=hfew rfl;have SO:=Lv (Gh out.length out ql cq W2 rfl (by omega) (Jw y2) (Vp y2) (Xk.of y2).exs);have FIN:=Lv (fun (R:Out) (v:Value) (W3:World) (ho:W3.ownsRow W2.heap.size 28 7 v R.length (R.flatMap Q4)) (hp:R.Perm out) (hs:Srt R) (hg:W2.grownBy W3 none)=>(show Ty w W3 xs (.returned (.tuple #[v,.int .i64 0])) from by
   obtain ⟨q3,c3,rfl⟩:=Qp ho;exact ⟨⟨R,q3,c3,by rw [AN],Xk.of ho,hs,by rw [AN];exact hp,Jw ho,Vp ho⟩,Qz G2.o hg⟩))
  clear y1 y2 y3 hF2 hch hfew AN FW;obtain ⟨N,hN⟩:∃ N,N=out.length:=⟨_,rfl⟩
  rw [← hN] at c2 SO;clear hN;go_wp2_with fail;refine SO.o.mono ?_
  rintro e W3 ⟨⟨R,v,rfl,ho,hp,hs⟩,hg⟩;have F:=Lv (FIN.o R v W3 ho hp hs hg);clear ho hp hs hg;go_wp2;go_ret2
  exact F.o
 ·have de:(er != 0)=true:=by simpa using he
  have AN:=ANH.o;rw [if_pos he] at AN;have FN:=Lv (show Ty w W2 xs (.returned (.tuple #[.slice none 0 0,.int .i64 er])) from ⟨⟨[],none,0,by rw [AN];rfl,Xk.nil,List.Pairwise.nil,by rw [AN],Nat.le_refl _,by decide⟩,G2.o⟩);clear he y1 y2 y3 hF2 hch hfew AN;go_wp2;go_ret2
  exact FN.o
end
structure Sy where
 sec:Int
 value:Int
 weak:Bool
def Sy.zero:Sy:=⟨0,0,false⟩
abbrev Sym:=List Int × Sy
abbrev Syms:=List Sym
def J4 (e:List Int):Int:=leN (e.take 4)
def X9 (e:List Int):Int:=e.getD 4 0
def Yk (e:List Int):Int:=e.getD 5 0
def By (e:List Int):Int:=leN ((e.drop 6).take 2)
def My (e:List Int):Int:=leN ((e.drop 8).take 8)
def Ym (e:List Int):Bool:=decide (X9 e=15) || decide (X9 e=3)
def nlSy (e:List Int):Sy:=⟨if X9 e=15 then Yk e else 0,My e,decide (By e / 128 % 2=1)⟩
def nlNm (ys e:List Int):List Int:=pre (ys.drop (J4 e).toNat)
def Bs (ys:List Int) (n:Int) (e:List Int):Int :=
 if X9 e=15∧(Yk e=0∨n < Yk e) then 13
 else if (ys.length:Int)≤J4 e then 13
 else if nlNm ys e=[]∨(ys.drop (J4 e).toNat).length≤(nlNm ys e).length then 13
 else if 255 < (nlNm ys e).length then 10 else 0
def Kl (D:Syms) (t:List Int):Bool:=D.any fun y=>decide (y.1=t)
def Hr (ys:List Int) (n:Int) (D:Syms) (e:List Int):Int :=
 if Bs ys n e≠0 then Bs ys n e else if Kl D (nlNm ys e)=true then 21 else if D.length=4096 then 11 else 0
def Hf (ys e:List Int):Sym:=(nlNm ys e,nlSy e)
def Bn (ys:List Int) (n:Int):List (List Int)→Syms→Int × Syms
 | [],D=>(0,D)
 | e :: r,D=>if Ym e then (if Hr ys n D e=0 then Bn ys n r (D ++ [Hf ys e]) else (Hr ys n D e,[])) else Bn ys n r D
def Zf (t:List Int) (i:Nat):List Int:=(t.drop (16 * i)).take 16
def ents (t:List Int):List (List Int):=(List.range (t.length / 16)).map (Zf t)
def Jk (t ys:List Int) (n:Int):Int × Syms:=if t.length % 16=0 then Bn ys n (ents t) [] else (13,[])
theorem ents_len (t:List Int):(ents t).length=t.length / 16:=by simp [ents]
theorem ents_at (t:List Int) {k:Nat} (h:k < t.length / 16):(ents t).drop k=Zf t k :: (ents t).drop (k + 1):=by
 rw [List.drop_eq_getElem_cons (by rw [ents_len];exact h)];simp [ents]
theorem ents_end (t:List Int):(ents t).drop (t.length / 16)=[]:=List.drop_eq_nil_of_le (by rw [ents_len];exact Nat.le_refl _)
theorem Wv {t:List Int} {k:Nat} (h:k < t.length / 16):(Zf t k).length=16:=by
 unfold Zf;rw [List.length_take,List.length_drop]
 have:=Nat.div_mul_le_self t.length 16
 omega
theorem Vj {t:List Int} (h:Byt t) (k:Nat):Byt (Zf t k):=(h.drop _).take _
structure Jg (D:Syms):Prop where
 few:D.length≤4096
 apart:D.Pairwise fun a b=>a.1≠b.1
 each:∀ y∈D,Byt y.1∧0 < y.1.length∧y.1.length≤255∧(0≤y.2.sec∧y.2.sec < 256)∧(0≤y.2.value∧y.2.value < 18446744073709551616)
theorem Jg.nil:Jg []:=⟨by simp,List.Pairwise.nil,fun y h=>(by cases h)⟩
theorem nlAdd_0 {ys:List Int} {n:Int} {D:Syms} {e:List Int} (h:Hr ys n D e=0):Bs ys n e=0∧Kl D (nlNm ys e)=false∧D.length≠4096:=by
 unfold Hr at h
 split at h
 ·rename_i h1;exact absurd h h1
 ·rename_i h1
  split at h
  ·cases h
  ·rename_i h2
   split at h
   ·cases h
   ·rename_i h3
    exact ⟨by omega,by simpa using h2,h3⟩
theorem nlErr_0 {ys:List Int} {n:Int} {e:List Int} (h:Bs ys n e=0):¬ (X9 e=15∧(Yk e=0∨n < Yk e))∧J4 e < ys.length∧nlNm ys e≠[]∧(nlNm ys e).length < (ys.drop (J4 e).toNat).length∧(nlNm ys e).length≤255:=by
 unfold Bs at h
 split at h
 ·cases h
 ·rename_i h1
  split at h
  ·cases h
  ·rename_i h2
   split at h
   ·cases h
   ·rename_i h3
    split at h
    ·cases h
    ·rename_i h4
     exact ⟨h1,by omega,fun e=>h3 (.inl e),by have:¬ _:=fun h=>h3 (.inr h);omega,by omega⟩
theorem Gk {D:Syms} {t:List Int}:Kl D t=true↔∃ y∈D,y.1=t:=by
 unfold Kl;rw [List.any_eq_true];simp
theorem Mn {e:List Int} (h:Byt e) (i:Nat) : 0≤e.getD i 0∧e.getD i 0 < 256:=by
 rw [List.getD_eq_getElem?_getD];rcases Nat.lt_or_ge i e.length with hi | hi
 ·rw [List.getElem?_eq_getElem hi];exact h _ (List.getElem_mem hi)
 ·rw [List.getElem?_eq_none hi];simp
theorem Pu {l:List Int} (h:Byt l) {k:Nat} (hk:l.length≤k) : 0≤leN l∧leN l < 2 ^ (8 * k):=by
 have h1:=Ws l h;refine ⟨h1.1,Int.lt_of_lt_of_le h1.2 ?_⟩
 have:(2:Nat) ^ (8 * l.length)≤2 ^ (8 * k):=Nat.pow_le_pow_right (by decide) (by omega)
 exact_mod_cast this
theorem nlPlace_bd {e:List Int} (h:Byt e) : 0≤J4 e∧J4 e < 4294967296:=Pu (h.take 4) (k:=4) (by simp;omega)
theorem nlDesc_bd {e:List Int} (h:Byt e) : 0≤By e∧By e < 65536:=Pu ((h.drop 6).take 2) (k:=2) (by simp;omega)
theorem Rt {e:List Int} (h:Byt e) : 0≤My e∧My e < 18446744073709551616:=Pu ((h.drop 8).take 8) (k:=8) (by simp;omega)
theorem Jg.add {ys:List Int} {n:Int} {D:Syms} {e:List Int} (h:Jg D) (hy:Byt ys) (he:Byt e) (h0:Hr ys n D e=0):Jg (D ++ [Hf ys e]):=by
 obtain ⟨h1,h2,h3⟩:=nlAdd_0 h0;obtain ⟨_,_,h4,_,h5⟩:=nlErr_0 h1;refine ⟨?_,?_,?_⟩
 ·rw [List.length_append,List.length_singleton]
  have:=h.few
  omega
 ·rw [List.pairwise_append]
  refine ⟨h.apart,List.pairwise_singleton _ _,fun a ha b hb=>?_⟩;rw [List.mem_singleton] at hb;subst hb;intro e1
  have:Kl D (nlNm ys e)=true:=Gk.2 ⟨a,ha,e1⟩
  rw [h2] at this;cases this
 ·intro y hm
  rcases List.mem_append.1 hm with hm | hm
  ·exact h.each y hm
  ·rw [List.mem_singleton] at hm
   subst hm;refine ⟨Byt.pre (hy.drop _),List.length_pos_iff.2 h4,h5,?_,Rt he⟩;unfold Hf nlSy;simp only []
   split
   ·exact Mn he 5
   ·omega
theorem Rx {ys:List Int} {n:Int} (hy:Byt ys):∀ (l:List (List Int)) (D:Syms),(∀ e∈l,Byt e)→Jg D→Jg (Bn ys n l D).2
 | [],D,_,h=>h
 | e :: r,D,hl,h=>by
  unfold Bn
  split
  ·split
   ·rename_i h0
    exact Rx hy r _ (fun x hx=>hl x (List.mem_cons_of_mem _ hx)) (h.add hy (hl e (List.mem_cons_self ..)) h0)
   ·exact Jg.nil
  ·exact Rx hy r _ (fun x hx=>hl x (List.mem_cons_of_mem _ hx)) h
theorem Bk {t ys:List Int} {n:Int} (ht:Byt t) (hy:Byt ys):Jg (Jk t ys n).2:=by
 unfold Jk
 split
 ·refine Rx hy _ _ (fun e he=>?_) Jg.nil
  obtain ⟨i,_,rfl⟩:=List.mem_map.1 he;exact Vj ht i
 ·exact Jg.nil
theorem Tx {ys:List Int} {n:Int}:∀ (l:List (List Int)) (D:Syms),(Bn ys n l D).1≠0→(Bn ys n l D).2=[]
 | [],D,h=>absurd rfl h
 | e :: r,D,h=>by
  unfold Bn at h ⊢
  split
  ·rename_i h1
   rw [if_pos h1] at h
   split
   ·rename_i h0
    rw [if_pos h0] at h;exact Tx r _ h
   ·rfl
  ·rename_i h1
   rw [if_neg h1] at h;exact Tx r _ h
theorem Tq {t ys:List Int} {n:Int} (h:(Jk t ys n).1≠0):(Jk t ys n).2=[]:=by
 unfold Jk at h ⊢
 split
 ·rename_i h1
  rw [if_pos h1] at h;exact Tx _ _ h
 ·rfl
def nlE (ys:List Int) (n:Int) (D:Syms) (e:List Int):Int:=if Ym e then Hr ys n D e else 0
def nlD (ys:List Int) (D:Syms) (e:List Int):Syms:=if Ym e then D ++ [Hf ys e] else D
theorem Wo (ys:List Int) (n:Int) (e:List Int) (r:List (List Int)) (D:Syms):Bn ys n (e :: r) D=if nlE ys n D e=0 then Bn ys n r (nlD ys D e) else (nlE ys n D e,[]):=by
 unfold nlE nlD;rw [Bn];by_cases h:Ym e=true
 ·rw [if_pos h,if_pos h,if_pos h]
 ·rw [if_neg h,if_neg h,if_neg h,if_pos rfl]
theorem Jg.next {ys:List Int} {n:Int} {D:Syms} {e:List Int} (h:Jg D) (hy:Byt ys) (he:Byt e) (h0:nlE ys n D e=0):Jg (nlD ys D e):=by
 unfold nlE at h0;unfold nlD
 split
 ·rename_i h1
  rw [if_pos h1] at h0;exact h.add hy he h0
 ·exact h
theorem one_at {e:List Int} {i:Nat} (h:i < e.length):(e.drop i).take 1=[e.getD i 0]:=by
 rw [List.drop_eq_getElem_cons h,List.take_succ_cons,List.take_zero,List.getD_eq_getElem?_getD,List.getElem?_eq_getElem h];rfl
theorem le_one (x:Int):leN [x]=x:=by simp [leN]
theorem nat_and128 (n:Nat):n &&& 128=n / 128 % 2 * 128:=by
 apply Nat.eq_of_testBit_eq
 intro i;rw [Nat.testBit_and,show (128:Nat)=2 ^ 7 by decide,Nat.testBit_two_pow];rcases Nat.mod_two_eq_zero_or_one (n / 2 ^ 7) with h | h
 ·rw [h,Nat.zero_mul,Nat.zero_testBit]
  by_cases hi : 7=i
  ·subst hi
   rw [Nat.testBit_eq_decide_div_mod_eq,h];rfl
  ·rw [decide_eq_false hi,Bool.and_false]
 ·rw [h,Nat.one_mul,Nat.testBit_two_pow]
  by_cases hi : 7=i
  ·subst hi
   rw [Nat.testBit_eq_decide_div_mod_eq,h];rfl
  ·rw [decide_eq_false hi,Bool.and_false]
theorem and128 (F:Int) (h : 0≤F∧F < 18446744073709551616):bits .and .u64 F 128=F / 128 % 2 * 128:=by
 obtain ⟨n,rfl⟩:=Int.eq_ofNat_of_zero_le h.1;have e:((n:Int) % ((2 ^ 64:Nat):Int)).toNat=n:=by omega
 have key:(BitVec.ofInt 64 (n:Int) &&& BitVec.ofInt 64 128).toNat=n / 128 % 2 * 128:=by
  rw [BitVec.toNat_and,BitVec.toNat_ofInt,e,show (BitVec.ofInt 64 128).toNat=128 by decide,nat_and128]
 show IntKind.u64.wrap ((BitVec.ofInt 64 (n:Int) &&& BitVec.ofInt 64 128).toNat:Nat)=_
 rw [key,IntKind.wrap_u64];omega
section
open Go.RowKit Go.ChangeShapes Go.WideShapes Go.Deep
def Yi (nm:ByteArray) (x:Sy):Array Value:=#[.string nm,.int .i64 x.sec,.int .u64 x.value,.bool x.weak]
def syV (nm:ByteArray) (x:Sy):Value:=.agg (Yi nm x)
def syCs (y:Sym):List Value:=[.string (strOfNums y.1),.int .i64 y.2.sec,.int .u64 y.2.value,.bool y.2.weak]
theorem syCs_len (y:Sym):(syCs y).length=4:=rfl
theorem syCs_one (y:Sym):∀ u∈syCs y,u.oneCell'=true:=by
 intro u hu;simp only [syCs,List.mem_cons,List.not_mem_nil,or_false] at hu;rcases hu with rfl | rfl | rfl | rfl <;> rfl
theorem syType:Kx Tryz.prog 95 59 4 40:=.mk' Tryz.underlying59 (z:=.agg #[.string ⟨#[]⟩,.int .i64 0,.int .u64 0,.bool false]) (by kernel_rfl) rfl (by decide)
def SyAt (w:World) (g:Nat) (nm:ByteArray) (x:Sy):Prop :=
 w.heap[g]?=some (.cells #[.string nm,.int .i64 x.sec,.int .u64 x.value,.bool x.weak] 95 (0,0))
section
variable {g:Nat} {nm:ByteArray} {x:Sy}
theorem SyAt.kept {r:Option Nat} (h:SyAt w g nm x) (hg:w.grownBy w' r) (hr:r≠some g):SyAt w' g nm x:=(hg.block g (lt_of_block h) (fun e=>hr e.symm)).trans h
theorem SyAt.lt (h:SyAt w g nm x):g < w.heap.size:=lt_of_block h
theorem SyAt.fz (h:SyAt w g nm x) (i:Nat):w.frozen? ⟨g,i,none⟩=false:=Xg h
theorem SyAt.c (h:SyAt w g nm x):w.cell? ⟨g,0,none⟩=some (.string nm)∧w.cell? ⟨g,1,none⟩=some (.int .i64 x.sec)∧w.cell? ⟨g,2,none⟩=some (.int .u64 x.value)∧w.cell? ⟨g,3,none⟩=some (.bool x.weak):=by
 refine ⟨?_,?_,?_,?_⟩ <;> (rw [Qm h];rfl)
theorem SyAt.s0 (h:SyAt w g nm x) (k:ByteArray):SyAt (w.setCell ⟨g,0,none⟩ (.string k)) g k x:=by unfold SyAt;rw [heap_setCell_same w g 0 _ _ _ h];rfl
theorem SyAt.s1 (h:SyAt w g nm x) (k:Int):SyAt (w.setCell ⟨g,1,none⟩ (.int .i64 k)) g nm { x with sec:=k }:=by unfold SyAt;rw [heap_setCell_same w g 1 _ _ _ h];rfl
theorem SyAt.s2 (h:SyAt w g nm x) (k:Int):SyAt (w.setCell ⟨g,2,none⟩ (.int .u64 k)) g nm { x with value:=k }:=by unfold SyAt;rw [heap_setCell_same w g 2 _ _ _ h];rfl
theorem SyAt.s3 (h:SyAt w g nm x) (k:Bool):SyAt (w.setCell ⟨g,3,none⟩ (.bool k)) g nm { x with weak:=k }:=by unfold SyAt;rw [heap_setCell_same w g 3 _ _ _ h];rfl
theorem SyAt.new (w:World) (nm:ByteArray) (x:Sy):SyAt (w.alloc (.cells #[.string nm,.int .i64 x.sec,.int .u64 x.value,.bool x.weak] 95)) w.heap.size nm x:=heap_alloc_new w _
theorem SyAt.put {nm0:ByteArray} {x0:Sy} (h:SyAt w g nm0 x0) (nm:ByteArray) (x:Sy) :
  SyAt ((((w.setCell ⟨g,0,none⟩ (.string nm)).setCell ⟨g,1,none⟩ (.int .i64 x.sec)).setCell ⟨g,2,none⟩ (.int .u64 x.value)).setCell ⟨g,3,none⟩ (.bool x.weak)) g nm x:=by
 unfold SyAt;rw [heap_setCell_same _ g 3 _ _ _ (heap_setCell_same _ g 2 _ _ _ (heap_setCell_same _ g 1 _ _ _ (heap_setCell_same w g 0 _ _ _ h)))];rfl
theorem Xu (h:w.grownBy w' (some g)) (v0 v1 v2 v3:Value):w.grownBy ((((w'.setCell ⟨g,0,none⟩ v0).setCell ⟨g,1,none⟩ v1).setCell ⟨g,2,none⟩ v2).setCell ⟨g,3,none⟩ v3) (some g) :=
 Qx (Qx (Qx (Qx h _) _) _) _
theorem load_sy (h:SyAt w g nm x):(loadVar 95 ⟨g,0,none⟩).run Tryz.prog w=.ok (syV nm x) w :=
 run_loadVar_row w g _ _ _ _ _ h Tryz.underlying95 rfl (by kernel_rfl)
end
def Vx (w:World) (q:Option Addr) (D:Syms):Prop:=∀ i y,D[i]?=some y→∃ g o,q=some ⟨g,o,none⟩∧∀ j,j < 4→w.cell? ⟨g,o + i * 4 + j,none⟩=(syCs y)[j]?
theorem Vx.nil {q:Option Addr}:Vx w q []:=fun i y hy=>by simp at hy
theorem Vx.grown {q:Option Addr} {D:Syms} (h:Vx w q D) (hg:w.grownBy w' none):Vx w' q D:=fun i y hy=>by
 obtain ⟨g,o,e,hc⟩:=h i y hy;refine ⟨g,o,e,fun j hj=>?_⟩;have hl:j < (syCs y).length:=hj
 have:=hc j hj
 rw [List.getElem?_eq_getElem hl] at this ⊢;exact Qv hg this
theorem Vx.of {lo n c:Nat} {q:Option Addr} {D:Syms} (h:w.ownsRow lo 95 4 (.slice q n c) n (D.flatMap syCs)):Vx w q D:=fun i y hy=>by
 obtain ⟨g,e,h0⟩:=Jz syCs_len h hy (j:=0) (by decide);refine ⟨g,0,e,fun j hj=>?_⟩;obtain ⟨g',e',hc⟩:=Jz syCs_len h hy (j:=j) hj;rw [e] at e';injection e' with e';injection e' with e' _ _;subst e';rw [Nat.zero_add];exact hc
theorem Vx.at {q:Option Addr} {D:Syms} (h:Vx w q D) {i:Nat} {y:Sym} (hy:D[i]?=some y):∃ g o,q=some ⟨g,o,none⟩∧w.cell? ⟨g,o + i * 4,none⟩=some (.string (strOfNums y.1))∧w.cell? ⟨g,o + i * 4 + 1,none⟩=some (.int .i64 y.2.sec)∧w.cell? ⟨g,o + i * 4 + 2,none⟩=some (.int .u64 y.2.value) ∧
  w.cell? ⟨g,o + i * 4 + 3,none⟩=some (.bool y.2.weak):=by
 obtain ⟨g,o,e,hc⟩:=h i y hy;exact ⟨g,o,e,hc 0 (by decide),hc 1 (by decide),hc 2 (by decide),hc 3 (by decide)⟩
structure SyFits (nm:List Int) (x:Sy):Prop where
 name:Byt nm
 len:nm.length≤9223372036854775807
 sec : -9223372036854775808≤x.sec∧x.sec≤9223372036854775807
 value : 0≤x.value∧x.value < 18446744073709551616
end
section
variable {w w':World} {lo hi a:Nat} {xs:List Int} {p:Nat} {big bad:Bool}
theorem pen_text_ok (h:Pen w lo hi a xs p big false) (m:Int) (hn:(pre (xs.drop p)).length < (xs.drop p).length∧((pre (xs.drop p)).length:Int)≤m) :
  Calls Tryz.prog 135 #[.pointer (some ⟨a,0,none⟩),.int .i64 m] w fun e w' =>
   e=.returned (.string (strOfNums (pre (xs.drop p))))∧Pen w' lo hi a xs (p + (pre (xs.drop p)).length + 1) big false∧w.grownBy w' (some a):=by
 obtain ⟨⟨base,q,c,hc,hl,ho⟩,h1,h2,h3⟩:=h;refine (text_ok hc m hn).mono ?_
 rintro e w' ⟨rfl,hc',hg⟩;exact ⟨rfl,⟨⟨_,_,_,hc',hl,ho⟩,h1,h2,Nat.le_trans h3 hg.size⟩,hg⟩
theorem pen_text_no (h:Pen w lo hi a xs p big bad) (m:Int) (hn:bad=true∨Jh (xs.drop p) m=-1) :
  Calls Tryz.prog 135 #[.pointer (some ⟨a,0,none⟩),.int .i64 m] w fun e w' =>
   e=.returned (.string ByteArray.empty)∧Pen w' lo hi a xs p big true∧w.grownBy w' (some a):=by
 obtain ⟨⟨base,q,c,hc,hl,ho⟩,h1,h2,h3⟩:=h;refine (text_no hc m hn).mono ?_
 rintro e w' ⟨rfl,hc',hg⟩;exact ⟨rfl,⟨⟨_,_,_,hc',hl,ho⟩,h1,h2,Nat.le_trans h3 hg.size⟩,hg⟩
theorem pen_left (h:Pen w lo hi a xs p big bad) :
  Calls Tryz.prog 165 #[.pointer (some ⟨a,0,none⟩)] w fun e w'=>e=.returned (.int .i64 ((xs.length:Int) - p))∧∃ n,w.drewN n=w':=by
 obtain ⟨⟨base,q,c,hc,hl,ho⟩,h1,h2,h3⟩:=h;exact Gy hc
end
section
open Go.RowKit Go.Maps
def keyN (t:List Int):Lit:=.string (strOfNums t).data.toList
theorem keyN_is (t:List Int):WideAt.IsKeyLit (keyN t):=trivial
theorem keyN_inj {a b:List Int} (ha:Byt a) (hb:Byt b):keyN a=keyN b↔a=b:=by
 constructor
 ·intro h
  unfold keyN at h;injection h with h;rw [strOfNums_data,strOfNums_data] at h;rw [← Jv ha,← Jv hb];unfold nums Lib.bytesOf;rw [h]
 ·rintro rfl;rfl
def MetN (w:World) (m k:Nat) (D:Syms):Prop:=w.ownsMap (H:=Unit) Tryz.prog 9 unitElem m k (setOf (.agg []) (D.map fun y=>keyN y.1))
theorem zeroUnit (w:World):(zeroValue 170).run Tryz.prog w=.ok (.agg #[]) w:=by kernel_rfl
theorem has_names {D:Syms} {t:List Int} (hD:∀ y∈D,Byt y.1) (ht:Byt t):Maps.has (setOf (H:=Unit) (.agg []) (D.map fun y=>keyN y.1)) (keyN t)=Kl D t:=by
 rw [has_setOf _ _ _ (fun x hx=>by obtain ⟨y,_,rfl⟩:=List.mem_map.1 hx;exact keyN_is _)];unfold Kl;rw [List.any_map,Bool.eq_iff_iff,List.any_eq_true,List.any_eq_true]
 constructor
 ·rintro ⟨y,hy,h⟩
  refine ⟨y,hy,decide_eq_true ?_⟩;by_cases e:keyN y.1=keyN t
  ·exact (keyN_inj (hD y hy) ht).1 e
  ·simp only [Function.comp] at h
   rw [sameKey_ne e] at h;cases h
 ·rintro ⟨y,hy,h⟩
  refine ⟨y,hy,?_⟩;rw [decide_eq_true_eq] at h;simp only [Function.comp,h];exact WideAt.sameKey_self (keyN_is t)
theorem MetN.look {m k:Nat} {D:Syms} (h:MetN w m k D) (hD:∀ y∈D,Byt y.1) {t:List Int} (ht:Byt t) (hl:t.length≤140737488355328) :
  (Instr.lookup 283 (.map (some m)) (.string (strOfNums t)) true).run Tryz.prog w=.ok (.tuple #[.agg #[],.bool (Kl D t)]) w:=by
 obtain ⟨v,ps,hr,hv⟩:=World.ownsMap.look_ok h strKeyed Tryz.underlying283 (zeroUnit w) unitElem_mk (Go.WideMaps.keyOf_string_mk Tryz.underlying9 (s:=strOfNums t) (by rw [strOfNums_size];unfold maxLen;omega));obtain ⟨rfl,_⟩:=unitElem_inv hv;rw [hr]
 have:=has_names hD ht
 unfold keyN at this;rw [← this];rfl
theorem MetN.put {m k:Nat} {D:Syms} (h:MetN w m k D) (y:Sym) (hl:y.1.length≤140737488355328) (hk:k < maxLen) :
  ∃ w',(Instr.mapUpdate 283 (.map (some m)) (.string (strOfNums y.1)) (.agg #[])).run Tryz.prog w=.ok () w'∧MetN w' m (k + 1) (D ++ [y])∧w.grownBy w' (some m):=by
 obtain ⟨w',hr,ho',hg⟩:=World.ownsMap.update h strKeyed Tryz.underlying283 hk (Go.WideMaps.keyOf_string_mk Tryz.underlying9 (s:=strOfNums y.1) (by rw [strOfNums_size];unfold maxLen;omega)) unitElem_mk;refine ⟨w',hr,?_,hg⟩;unfold MetN;rw [List.map_append,List.map_singleton,setOf_snoc];exact ho'
theorem MetN.kept {m k:Nat} {D:Syms} {r:Option Nat} (h:MetN w m k D) (hg:w.grownBy w' r) (hr:r≠some m):MetN w' m k D:=World.ownsMap.kept h hg (fun e=>hr e.symm)
theorem MetN.made (w:World):MetN (w.alloc (.map #[] 0)) w.heap.size 0 []:=World.ownsMap_made w _ _ _
theorem MetN.drewN {m k:Nat} {D:Syms} (h:MetN w m k D) (n:Nat):MetN (w.drewN n) m k D:=h.kept (Qj (Qq w none) n) (by simp)
variable {B g a lo hi m:Nat} {v:Value} {ys:List Int} {n:Int} {p:Nat} {D:Syms}
structure Xi (w:World) (B g a lo hi m:Nat) (v:Value) (ys:List Int) (n:Int) (p:Nat) (D:Syms):Prop where
 blk:w.heap[g]?=some (.cells #[.pointer (some ⟨a,0,none⟩),.int .i64 n,v,.map (some m)] 285 (0,0))
 pen:Pen w lo hi a ys p false false
 row:w.ownsRow hi 95 4 v D.length (D.flatMap syCs)
 met:MetN w m D.length D
 lo:B≤lo
 hg:hi≤g
 hm:hi≤m
theorem Xi.ne (h:Xi w B g a lo hi m v ys n p D):m≠g:=by
 intro e;obtain ⟨es,clock,hb,_⟩:=h.met
 have:=h.blk
 rw [← e,hb] at this;injection this with this;cases this
theorem Xi.off (h:Xi w B g a lo hi m v ys n p D):∀ b,v.ownBlock=some b→b≠g∧b≠m∧hi≤b:=by
 intro b hb;have h1:=(h.row.lt b hb).1;rcases h.row.2 with ⟨rfl,_⟩ | ⟨b',cap,cur,rfl,_,hg,_⟩
 ·cases hb
 ·simp only [Value.ownBlock,Option.some.injEq] at hb
  subst hb;refine ⟨fun e=>?_,fun e=>?_,h1⟩
  ·have:=h.blk
   rw [← e,hg] at this;injection this with this;injection this with _ e2 _
   revert e2
   decide +kernel
  ·obtain ⟨es,clock,hb,_⟩:=h.met
   rw [← e,hg] at hb;injection hb with hb;cases hb
theorem Xi.c (h:Xi w B g a lo hi m v ys n p D):w.cell? ⟨g,0,none⟩=some (.pointer (some ⟨a,0,none⟩))∧w.cell? ⟨g,1,none⟩=some (.int .i64 n)∧w.cell? ⟨g,2,none⟩=some v∧w.cell? ⟨g,3,none⟩=some (.map (some m)):=by
 refine ⟨?_,?_,?_,?_⟩ <;> (rw [Qm h.blk];rfl)
theorem Xi.lt (h:Xi w B g a lo hi m v ys n p D):g < w.heap.size:=lt_of_block h.blk
theorem Xi.grown (h:Xi w B g a lo hi m v ys n p D) (k:w.grownBy w' none):Xi w' B g a lo hi m v ys n p D :=
 ⟨(k.block g (lt_of_block h.blk) (by simp)).trans h.blk,h.pen.same k,h.row.kept k (by cases v.ownBlock <;> simp),h.met.kept k (by simp),h.lo,h.hg,h.hm⟩
theorem Xi.drewN (h:Xi w B g a lo hi m v ys n p D) (j:Nat):Xi (w.drewN j) B g a lo hi m v ys n p D:=h.grown (Qj (Qq w none) j)
theorem Xi.moved (h:Xi w B g a lo hi m v ys n p D) (k:w.grownBy w' (some a)) {p':Nat} (hp:Pen w' lo hi a ys p' false false):Xi w' B g a lo hi m v ys n p' D:=by
 have h1:=h.hg;have h2:=h.hm;have h3:=h.pen.up;refine ⟨(k.block g (lt_of_block h.blk) (fun e=>by injection e with e;omega)).trans h.blk,hp,h.row.kept k ?_,h.met.kept k (fun e=>by injection e with e;omega),h.lo,h.hg,h.hm⟩;cases hv:v.ownBlock with
 | none=>exact .inl rfl
 | some b=>exact .inr (fun e=>by injection e with e;have:=(h.off b hv).2.2;omega)
end
section
open Go.RowKit Go.Maps
variable {w w':World} {B g a lo hi m:Nat} {v:Value} {ys:List Int} {n:Int} {p:Nat} {D:Syms}
theorem Xi.kept {r:Nat} (h:Xi w B g a lo hi m v ys n p D) (k:w.grownBy w' (some r)) (h1:r≠g) (h2:r≠m) (h3:r < lo∨hi≤r) (h4:v.ownBlock≠some r):Xi w' B g a lo hi m v ys n p D :=
 ⟨(k.block g (lt_of_block h.blk) (fun e=>by injection e with e;exact h1 e.symm)).trans h.blk,h.pen.kept k h3,h.row.kept k (.inr h4),h.met.kept k (fun e=>by injection e with e;exact h2 e),h.lo,h.hg,h.hm⟩
structure Apart4 (r g m lo hi:Nat) (v:Value):Prop where
 g:r≠g
 m:r≠m
 c:r < lo∨hi≤r
 v:v.ownBlock≠some r
theorem Xi.new (h:Xi w B g a lo hi m v ys n p D) {r:Nat} (hr:w.heap.size≤r):Apart4 r g m lo hi v:=by
 have h1:=h.lt;have h2:=h.pen.sz;obtain ⟨es,clock,hb,_⟩:=h.met;have h3:=(Array.getElem?_eq_some_iff.1 hb).1;refine ⟨by omega,by omega,.inr (by omega),fun e=>?_⟩
 have:=(h.row.lt r e).2
 omega
theorem Xi.keptA {r:Nat} (h:Xi w B g a lo hi m v ys n p D) (k:w.grownBy w' (some r)) (o:Apart4 r g m lo hi v):Xi w' B g a lo hi m v ys n p D:=h.kept k o.g o.m o.c o.v
def Pg (ys:List Int) (p:Int):Int :=
 if (ys.length:Int)≤p then 13
 else if pre (ys.drop p.toNat)=[]∨(ys.drop p.toNat).length≤(pre (ys.drop p.toNat)).length then 13
 else if 255 < (pre (ys.drop p.toNat)).length then 10 else 0
def addE (ys:List Int) (D:Syms) (p:Int):Int :=
 if Pg ys p≠0 then Pg ys p else if Kl D (pre (ys.drop p.toNat))=true then 21 else if D.length=4096 then 11 else 0
theorem nlAdd_is (ys:List Int) (n:Int) (D:Syms) (e:List Int):Hr ys n D e=if X9 e=15∧(Yk e=0∨n < Yk e) then 13 else addE ys D (J4 e):=by
 unfold Hr Bs addE Pg nlNm
 split
 ·simp
 ·rfl
theorem seek_none (h:Pen w lo hi a ys p false false) (q:Nat) (hq:¬ (q≤ys.length∧(pre (ys.drop q)).length < (ys.drop q).length)) :
  Calls Tryz.prog 166 #[.pointer (some ⟨a,0,none⟩),.int .i64 q] w fun e w' =>
   e=.returned (.tuple #[])∧(∃ (p':Nat) (bad:Bool) (m:Int),Pen w' lo hi a ys p' false bad∧m=(ys.length:Int) - p'∧(bad=true∨Jh (ys.drop p') m=-1))∧w.grownBy w' (some a):=by
 by_cases h1:q≤ys.length
 ·refine (pen_seek h q h1).mono ?_
  rintro e w' ⟨rfl,hp,hg⟩;refine ⟨rfl,⟨q,false,_,hp,rfl,.inr ?_⟩,hg⟩;unfold Jh;rw [if_neg (fun h2=>hq ⟨h1,h2.1⟩)]
 ·refine (pen_seek_no h q (by omega)).mono ?_
  rintro e w' ⟨rfl,hp,hg⟩;exact ⟨rfl,⟨p,true,_,hp,rfl,.inl rfl⟩,hg⟩
theorem add_none (h:Xi w B g a lo hi m v ys n p D) (hD:∀ y∈D,Byt y.1) (q:Nat) (hq:¬ (q≤ys.length∧(pre (ys.drop q)).length < (ys.drop q).length)) (h32:(q:Int) < 4294967296) (nm:ByteArray) (x:Sy) :
  Calls Tryz.prog 205 #[.pointer (some ⟨g,0,none⟩),syV nm x,.int .u64 q] w fun e w'=>e=.returned (.int .i64 13)∧Below B w w':=by
 have hBw:B≤w.heap.size:=Nat.le_trans h.lo (Nat.le_trans (Nat.le_of_lt (Nat.lt_of_le_of_lt h.pen.lw h.pen.up)) h.pen.sz);have BA:=Lv (show B≤a from Nat.le_trans h.lo h.pen.lw);have g0:=grown1 w (.cells #[.string nm,.int .i64 x.sec,.int .u64 x.value,.bool x.weak] 95);have t0:=h.grown g0;have s0:=SyAt.new w nm x;have OFF:=h.new (Nat.le_refl w.heap.size);obtain ⟨X,hX⟩:∃ X,X=w.heap.size:=⟨_,rfl⟩
 rw [← hX] at s0 OFF;obtain ⟨W,hW⟩:∃ W,W=w.alloc (.cells #[.string nm,.int .i64 x.sec,.int .u64 x.value,.bool x.weak] 95):=⟨_,rfl⟩
 rw [← hW] at g0 t0 s0;have B0:=Lv (Qg g0 hBw (by simp):Below B w W);have hBW:B≤W.heap.size:=Nat.le_trans hBw g0.size;have SK:=Lv (seek_none t0.pen q hq);have T0:=Lv t0;have c0:=t0.c.1;have S0:=Lv s0;have HW:=Lv hW;have HX:=Lv hX;have gl:=t0.lt;have HD:=Lv hD;have hXa:X≠a:=fun e=>by have:=h.pen.lt;omega
 have hga:g≠a:=fun e=>by have:=h.hg;have:=h.pen.up;omega
 have hma:m≠a:=fun e=>by have:=h.hm;have:=h.pen.up;omega
 have hva:v.ownBlock≠some a:=fun e=>by have:=(h.off a e).2.2;have:=h.pen.up;omega
 clear h g0 t0 s0 hq hD;unfold syV Yi;go_enter Tryz.func205,Tryz.ntmps205;go_upto_region 1 with fail;rw [← HW.o,← HX.o];clear HW HX hW;go_wp2_with fail;refine SK.o.mono ?_
 rintro e w1 ⟨rfl,⟨p1,bad,M,hp,hM,hb⟩,hg⟩;have PP:=Lv hp;have k0:=hg.cell c0 (fun e=>by injection e with e;exact hga e);have K1:=Lv (hg.cell T0.o.c.2.2.2 (fun e=>by injection e with e;exact hga e));have S1:=Lv (S0.o.kept hg (fun e=>by injection e with e;exact hXa e.symm));have M1:=Lv (T0.o.met.kept hg (fun e=>by injection e with e;exact hma e.symm));have B1:=Lv (B0.o.trans (Qg hg hBW (by simp;exact BA.o)):Below B w w1)
 have hB1:B≤w1.heap.size:=Nat.le_trans hBW hg.size;have hp':Pen w1.drew lo hi a ys p1 false bad:=hp.same (show w1.grownBy w1.drew none from Qj (Qq w1 none) 1);have KK:=Lv (fun k w3 (hg3:(w1.drewN k).grownBy w3 (some a))=>hg3.cell (show (w1.drewN k).cell? _=_ from k0) (fun e=>by injection e with e;exact hga e));have SS:=Lv (fun k w3 (hg3:(w1.drewN k).grownBy w3 (some a))=>(S1.o.kept (Qj (Qq w1 none) k) (by simp)).kept hg3 (fun e=>by injection e with e;exact hXa e.symm))
 have KT:=Lv (fun k w3 (hg3:(w1.drewN k).grownBy w3 (some a))=>(Qx (i:=0) (Qq w3 (some X)) (.string ByteArray.empty)).cell (hg3.cell (show (w1.drewN k).cell? _=_ from K1.o) (fun e=>by injection e with e;exact hga e)) (fun e=>by injection e with e;exact OFF.g e.symm));have XB:=Lv (show B≤X by rw [hX];exact hBw);clear hX;have LF:=Lv (pen_left hp');have TN:=Lv (fun j=>pen_text_no (hp.same (Qj (Qq w1 none) j)) M hb)
 rw [← hM] at LF;clear hM hb hp hp';have hBd:B≤w1.drew.heap.size:=hB1;go_wp2;go_region_held3 (fun V=>V.cell? ⟨g,0,none⟩=some (.pointer (some ⟨a,0,none⟩)))
  (first | exact k0 | exact k3 | exact k4)
  (first
    |(go_at_call 165;(with_reducible refine (LF.o).mono ?_);rintro e w2 ⟨rfl,j,rfl⟩)
    |(go_at_call 135;(with_reducible refine (TN.o _).mono ?_);rintro e w3 ⟨rfl,hp3,hg3⟩;have k3:=KK.o _ _ hg3;have S3:=SS.o _ _ hg3;have x3:=S3.c.1;have f3:=S3.fz 0;have l3:=S3.lt;have k4:=(Qx (i:=0) (Qq w3 (some X)) (.string ByteArray.empty)).cell k3 (fun e=>by injection e with e;exact OFF.g e.symm)))
 have g4:=Qz (Qj (Qq w1 (some a)) (1 + j)) hg3;have S4:=S3.s0 ByteArray.empty;have MM:=((M1.o.kept (Qj (Qq w1 none) (1 + j)) (by simp)).kept hg3 (fun e=>by injection e with e;exact hma e.symm)).kept (Qx (i:=0) (Qq w3 (some X)) (.string ByteArray.empty)) (fun e=>by injection e with e;exact OFF.m e);have B4:=Lv (B1.o.trans (Qg (Qz (Qj (Qq w1 (some a)) (1 + j)) hg3) hB1 (by simp;exact BA.o)) |>.trans (Qg (Qx (i:=0) (Qq w3 (some X)) (.string ByteArray.empty)) (Nat.le_trans hB1 hg3.size) (by simp;exact XB.o)):Below B w _)
 have c3:=(KT.o _ _ hg3)
 have d0:=S4.c.1;obtain ⟨W4,hW4⟩:∃ W4,W4=w3.setCell ⟨X,0,none⟩ (.string ByteArray.empty):=⟨_,rfl⟩
 rw [← hW4] at B4 c3 d0 MM k4 ⊢;have MW:=Lv MM;have LX:=Lv (show X < W4.heap.size by rw [hW4];exact S4.lt);have hl4:B≤W4.heap.size:=by have:=B4.o.size;omega
 clear hW4 MM S4 S3 x3 f3 l3 g4 hp3 hg3 k3 k0;have gA:=grown1 W4 (.cells #[] 170);have c3a:=Qv gA c3;have d0a:=Qv gA d0;have LKd:=(show MetN W4.drew m D.length D from MW.o.drewN 1).look HD.o (t:=[]) (fun _ h=>by cases h) (by decide);have LKa:=(show MetN (W4.alloc (.cells #[] 170)).drew m D.length D from (MW.o.kept gA (by simp)).drewN 1).look HD.o (t:=[]) (fun _ h=>by cases h) (by decide)
 obtain ⟨b0,hb0⟩:∃ b,b=Kl D []:=⟨_,rfl⟩
 rw [← hb0,show strOfNums []=ByteArray.empty from rfl] at LKd LKa;have GA:=Lv gA;clear hb0 gA;have x4:=LX.o;have BF:=Lv (B4.o.trans (Hu (Qg GA.o hl4 (by simp)) 1));go_wp2;go_region
 all_goals
  go_wp2;go_ret
  exact ⟨rfl,BF.o⟩
theorem sy_off {base:Nat} {u:Value} {k:Nat} {l:List Value} {cs:Array Value} (h:w.ownsRow base 95 4 u k l) (hg:w.heap[g]?=some (.cells cs 285 (0,0))):u.ownBlock≠some g:=by
 intro e;rcases h.2 with ⟨rfl,_⟩ | ⟨b',cap,cur,rfl,_,hb,_⟩
 ·cases e
 ·simp only [Value.ownBlock,Option.some.injEq] at e
  subst e;rw [hg] at hb;injection hb with hb;injection hb with _ e2 _
  revert e2
  decide +kernel
theorem Xi.next (h:Xi w B g a lo hi m v ys n p D) {w6 wa w7:World} {v':Value} (x:Sym) (k6:w.grownBy w6 (some m)) (n6:MetN w6 m (D.length + 1) (D ++ [x])) (ka:w6.grownBy wa none)
  (ho:w7.ownsRow hi 95 4 v' (D.length + 1) (D.flatMap syCs ++ syCs x)) (k7:wa.grownBy w7 v.ownBlock):Xi (w7.setCell ⟨g,2,none⟩ v') B g a lo hi m v' ys n p (D ++ [x]):=by
 have hmg:=h.ne;have hug:=h.pen.up;have hgh:=h.hg;have hmh:=h.hm;have hoff:=h.off;have b6:=(k6.block g (lt_of_block h.blk) (fun e=>by injection e with e;exact hmg e.symm)).trans h.blk;have ba:=(ka.block g (lt_of_block b6) (by simp)).trans b6;have hvg:v.ownBlock≠some g:=fun e=>(hoff g e).1 rfl;have hvm:v.ownBlock≠some m:=fun e=>(hoff m e).2.1 rfl;have b7:=(k7.block g (lt_of_block ba) (fun e=>hvg e.symm)).trans ba
 have hvg':=sy_off ho b7;have p6:=h.pen.kept k6 (.inr hmh);have pa:=p6.same ka;have p7:Pen w7 lo hi a ys p false false:=pa.row k7 (fun b hb=>(hoff b hb).2.2);have m7:MetN w7 m (D.length + 1) (D ++ [x]):=(n6.kept ka (by simp)).kept k7 hvm;have gs:=Qx (i:=2) (Qq w7 (some g)) v';refine ⟨?_,p7.kept gs (.inr hgh),?_,?_,h.lo,hgh,hmh⟩
 ·rw [heap_setCell_same w7 g 2 _ _ _ b7];rfl
 ·rw [List.length_append,List.length_singleton,List.flatMap_append,List.flatMap_singleton]
  exact ho.kept gs (.inr hvg')
 ·rw [List.length_append,List.length_singleton]
  exact m7.kept gs (fun e=>by injection e with e;exact hmg e.symm)
end
section
open Go.RowKit Go.Maps
variable {w w':World} {B g a lo hi m:Nat} {v:Value} {ys:List Int} {n:Int} {p:Nat} {D:Syms}
theorem addE_text {q:Nat} (hq:q≤ys.length∧(pre (ys.drop q)).length < (ys.drop q).length) :
  addE ys D q=if pre (ys.drop q)=[] then 13 else if 255 < (pre (ys.drop q)).length then 10 else if Kl D (pre (ys.drop q))=true then 21 else if D.length=4096 then 11 else 0:=by
 have h2:=hq.2;rw [List.length_drop] at h2;unfold addE Pg;rw [Int.toNat_natCast,if_neg (show ¬ (ys.length:Int)≤(q:Int) by omega)];by_cases h:pre (ys.drop q)=[]
 ·have h3:(pre (ys.drop q)=[]∨(ys.drop q).length≤(pre (ys.drop q)).length):=.inl h
  rw [if_pos h3,if_pos h];rfl
 ·have h3:¬ (pre (ys.drop q)=[]∨(ys.drop q).length≤(pre (ys.drop q)).length):=fun e=>e.elim h (fun e=>absurd hq.2 (by omega))
  rw [if_neg h3,if_neg h];by_cases h4 : 255 < (pre (ys.drop q)).length
  ·rw [if_pos h4,if_pos h4];rfl
  ·rw [if_neg h4,if_neg h4];rfl
structure Pm (w w':World) (B g a lo hi m:Nat) (ys:List Int) (n:Int) (D D':Syms) (E:Int) (e:Ending):Prop where
 ret:e=.returned (.int .i64 E)
 below:Below B w w'
 tel:E=0→∃ v' p',Xi w' B g a lo hi m v' ys n p' D'
theorem add_some (h:Xi w B g a lo hi m v ys n p D) (hok:Jg D) (hy:Byt ys) (q:Nat) (hq:q≤ys.length∧(pre (ys.drop q)).length < (ys.drop q).length) (h32:(q:Int) < 4294967296) (x:Sy) :
  Calls Tryz.prog 205 #[.pointer (some ⟨g,0,none⟩),syV ⟨#[]⟩ x,.int .u64 q] w fun e w'=>Pm w w' B g a lo hi m ys n D (D ++ [(pre (ys.drop q),x)]) (addE ys D q) e:=by
 have hBw:B≤w.heap.size:=Nat.le_trans h.lo (Nat.le_trans (Nat.le_of_lt (Nat.lt_of_le_of_lt h.pen.lw h.pen.up)) h.pen.sz);have hBa:B≤a:=Nat.le_trans h.lo h.pen.lw;have g0:=grown1 w (.cells #[.string ⟨#[]⟩,.int .i64 x.sec,.int .u64 x.value,.bool x.weak] 95);have t0:=h.grown g0;have s0:=SyAt.new w ⟨#[]⟩ x;have OFF:=h.new (Nat.le_refl w.heap.size);obtain ⟨X,hX⟩:∃ X,X=w.heap.size:=⟨_,rfl⟩
 rw [← hX] at s0 OFF;obtain ⟨W,hW⟩:∃ W,W=w.alloc (.cells #[.string ⟨#[]⟩,.int .i64 x.sec,.int .u64 x.value,.bool x.weak] 95):=⟨_,rfl⟩
 rw [← hW] at g0 t0 s0;have hBX:B≤X:=by rw [hX];exact hBw
 have B0:=Lv (Qg g0 hBw (by simp):Below B w W);have hBW:B≤W.heap.size:=Nat.le_trans hBw g0.size;have hXa:X≠a:=fun e=>by have:=h.pen.lt;omega
 have hga:g≠a:=fun e=>by have:=h.hg;have:=h.pen.up;omega
 have SK:=Lv (pen_seek t0.pen q hq.1);have LF:=Lv (fun (V:World) (hp:Pen V lo hi a ys q false false)=>pen_left hp);have TX:=Lv (fun (V:World) (hp:Pen V lo hi a ys q false false)=>pen_text_ok hp ((ys.length:Int) - q) ⟨hq.2,by have:=hq.2;rw [List.length_drop] at this;omega⟩);have hT0:Byt (pre (ys.drop q)):=(hy.drop q).pre;have hTl:(pre (ys.drop q)).length < ys.length - q:=by have:=hq.2;rwa [List.length_drop] at this
 have hbig:=h.pen.most;obtain ⟨E,hE⟩:∃ E,E=addE ys D q:=⟨_,rfl⟩
 rw [← hE];rw [addE_text hq] at hE;obtain ⟨T,hT⟩:∃ T,T=pre (ys.drop q):=⟨_,rfl⟩
 rw [← hT] at TX hT0 hTl hE ⊢;have T0:=Lv t0;have c0:=t0.c.1;have S0:=Lv s0;have HW:=Lv hW;have HX:=Lv hX;have HO:=Lv hok;have BT:=Lv hT0;have HE:=Lv hE;have n1:=Wa T;have hsz:(strOfNums T).size=T.length:=strOfNums_size _;have hTm:T.length≤140737488355328:=by omega
 clear h g0 t0 s0 hq hok hy hT hE hT0 hTl hbig hBw;unfold syV Yi;go_enter Tryz.func205,Tryz.ntmps205;go_upto_region 1 with fail;rw [← HW.o,← HX.o];clear HW HX hW hX;go_wp2_with fail;refine SK.o.mono ?_
 rintro e w1 ⟨rfl,hp,hg⟩;have t1:=T0.o.moved hg hp;have S1:=Lv (S0.o.kept hg (fun e=>by injection e with e;exact hXa e.symm));have B1:=Lv (B0.o.trans (Qg hg hBW (by simp;exact hBa)):Below B w w1);have hB1:B≤w1.heap.size:=Nat.le_trans hBW hg.size;have t1':Xi w1.drew B g a lo hi m v ys n q D:=t1.grown (show w1.grownBy w1.drew none from Qj (Qq w1 none) 1);have T1:=Lv t1
 have k0:=t1.c.1;have LF1:=Lv (LF.o _ t1'.pen);have TX1:=Lv (fun k=>TX.o (w1.drewN k) (t1.drewN k).pen);have ST:=Lv (fun k w3 p3 (hg3:(w1.drewN k).grownBy w3 (some a)) (hp3:Pen w3 lo hi a ys p3 false false)=>(t1.drewN k).moved hg3 hp3);have SS:=Lv (fun k w3 (hg3:(w1.drewN k).grownBy w3 (some a))=>(S1.o.kept (Qj (Qq w1 none) k) (by simp)).kept hg3 (fun e=>by injection e with e;exact hXa e.symm))
 clear hg hp t1 t1' c0 SK LF TX T0 S0 B0;go_wp2;go_region_held3 (fun V=>V.cell? ⟨g,0,none⟩=some (.pointer (some ⟨a,0,none⟩)))
  (first | exact k0 | exact k3 | exact k4)
  (first
    |(go_at_call 165;(with_reducible refine (LF1.o).mono ?_);rintro e w2 ⟨rfl,j,rfl⟩)
    |(go_at_call 135;(with_reducible refine (TX1.o _).mono ?_);rintro e w3 ⟨rfl,hp3,hg3⟩;have t3:=ST.o _ _ _ hg3 hp3;have k3:=t3.c.1;have S3:=SS.o _ _ hg3;have x3:=S3.c.1;have f3:=S3.fz 0;have l3:=S3.lt;have k4:=(Qx (i:=0) (Qq w3 (some X)) (.string (strOfNums T))).cell k3 (fun e=>by injection e with e;exact OFF.g e.symm)))
 have S4:=S3.s0 (strOfNums T);have gs:=Qx (i:=0) (Qq w3 (some X)) (.string (strOfNums T));have t4:=t3.keptA gs OFF;have B4:=Lv (B1.o.trans (Qg (Qz (Qj (Qq w1 (some a)) (1 + j)) hg3) hB1 (by simp;exact hBa)) |>.trans (Qg gs (Nat.le_trans hB1 hg3.size) (by simp;exact hBX)):Below B w _);obtain ⟨W4,hW4⟩:∃ W4,W4=w3.setCell ⟨X,0,none⟩ (.string (strOfNums T)):=⟨_,rfl⟩
 rw [← hW4] at B4 S4 t4 k4 ⊢;have hl4:B≤W4.heap.size:=Nat.le_trans hBX (Nat.le_of_lt S4.lt);have gA:=grown1 W4 (.cells #[] 170);have c3:=t4.c.2.2.2;have d0:=S4.c.1;have c3a:=Qv gA c3;have d0a:=Qv gA d0;have hDB:∀ y∈D,Byt y.1:=fun y hy=>(HO.o.each y hy).1;have LKd:=(show MetN W4.drew m D.length D from t4.met.drewN 1).look hDB BT.o hTm;have t5:Xi (W4.alloc (.cells #[] 170)).drew B g a lo hi m v ys n _ D:=(t4.grown gA).drewN 1
 have s5:SyAt (W4.alloc (.cells #[] 170)).drew X (strOfNums T) x:=S4.kept (Qj gA 1) (by simp);have LKa:=t5.met.look hDB BT.o hTm;have B5:=Lv (B4.o.trans (Hu (Qg gA hl4 (by simp)) 1):Below B w (W4.alloc (.cells #[] 170)).drew);have T5:=Lv t5;have S5:=Lv s5;have x4:=S4.lt;obtain ⟨hs,hhs⟩:∃ b,b=Kl D T:=⟨_,rfl⟩
 rw [← hhs] at LKd LKa;have HH:=Lv hhs;clear hW4 S4 S3 x3 f3 l3 hp3 hg3 k3 k0 t3 t4 gs t5 s5 gA hDB hhs k4 S1 B1 B4 T1 ST SS LF1 TX1;go_wp2;go_region
 all_goals
  clear LKd LKa c3 c3a d0 d0a;have t5:=T5.o;have d0:=S5.o.c.1;have xl:=S5.o.lt;obtain ⟨W5,hW5⟩:∃ W5,W5=(W4.alloc (.cells #[] 170)).drew:=⟨_,rfl⟩
  rw [← hW5] at T5 S5 B5 t5 d0 xl ⊢;clear hW5;have he:=HE.o;by_cases h1:T=[]
  · rw [decide_eq_true h1] at n1
    rw [if_pos h1] at he;have EE:=Lv he;clear h1 he t5;go_wp2;go_ret
    exact ⟨by rw [EE.o];rfl,B5.o,fun h=>by rw [EE.o] at h;cases h⟩
  · rw [decide_eq_false h1] at n1
    rw [if_neg h1] at he;clear h1;by_cases h2 : 255 < T.length
    ·have d2:decide ((255:Int) < (T.length:Int))=true:=by simp;omega
     rw [if_pos h2] at he;have EE:=Lv he;clear h2 he t5;go_wp2;go_ret
     exact ⟨by rw [EE.o];rfl,B5.o,fun h=>by rw [EE.o] at h;cases h⟩
    ·have d2:decide ((255:Int) < (T.length:Int))=false:=by simp;omega
     rw [if_neg h2,← HH.o] at he;clear h2;cases hs
     · rw [if_neg (by simp)] at he
       obtain ⟨qs,cs,rfl⟩:=Qp t5.row;have c2:=t5.c.2.2.1;have gl:=t5.lt;by_cases h3:D.length=4096
       ·have d3:((D.length:Int) == 4096)=true:=by rw [h3];rfl
        rw [if_pos h3] at he;have EE:=Lv he;clear h3 he t5;go_wp2;go_ret
        exact ⟨by rw [EE.o];rfl,B5.o,fun h=>by rw [EE.o] at h;cases h⟩
       ·have d3:((D.length:Int) == 4096)=false:=by rw [beq_eq_false_iff_ne];omega
        rw [if_neg h3] at he;have EE:=Lv he;have hfew:=HO.o.few;clear h3 he;have c3:=t5.c.2.2.2;obtain ⟨w6,hr6,n6,g6⟩:=(show MetN W5.drew m D.length D from t5.met.drewN 1).put (T,x) hTm (by unfold maxLen;omega);have g56:W5.grownBy w6 (some m):=Qz (Qj (Qq W5 (some m)) 1) g6;have s6:=S5.o.kept g56 (fun e=>by injection e with e;exact OFF.m e.symm);have NX:=Lv (fun (wa w7:World) (v':Value) (ka:w6.grownBy wa none) (ho:w7.ownsRow hi 95 4 v' (D.length + 1) (D.flatMap syCs ++ syCs (T,x))) (k7:wa.grownBy w7 (Value.slice qs D.length cs).ownBlock)=>t5.next (T,x) g56 n6 ka ho k7)
        have OW:=Lv (t5.row.kept g56 (.inr (fun e=>(t5.off m e).2.1 rfl)));have OO:=Lv t5.off;have hmg:g≠m:=fun e=>t5.ne e.symm;have b6:=(g56.block g (lt_of_block t5.blk) (fun e=>by injection e with e;exact hmg e)).trans t5.blk;have hBhi:B≤hi:=Nat.le_trans t5.lo (Nat.le_of_lt (Nat.lt_of_le_of_lt t5.pen.lw t5.pen.up));have hB5:B≤W5.heap.size:=Nat.le_trans hBhi t5.pen.sz;have hB6:B≤w6.heap.size:=Nat.le_trans hB5 g56.size
        have hH6:hi≤w6.heap.size:=Nat.le_trans t5.pen.sz g56.size;have hBg:B≤g:=Nat.le_trans hBhi t5.hg;have B6:=Lv (B5.o.trans (Qg g56 hB5 (by simp;exact Nat.le_trans hBhi t5.hm)):Below B w w6);have BK:=Lv b6;have e2:w6.cell? ⟨g,2,none⟩=some (.slice qs D.length cs):=by rw [Qm b6];rfl
        have S6:=Lv s6;simp only [] at hr6;clear t5 n6 g6 g56 s6 b6;go_wp2;go_region
        clear c3 hr6 d0 c2 gl xl n1 d2 d3;obtain ⟨x0,x1,x2,x3⟩:=S6.o.c;have xl:=S6.o.lt;have f2:=Xg (i:=2) BK.o;have gl:=lt_of_block BK.o;have gA:w6.grownBy (w6.alloc (.cells #[.string (strOfNums T),.int .i64 x.sec,.int .u64 x.value,.bool x.weak] 95)).drew none:=Qj (grown1 w6 _) 1;have OWA:=Lv (Qy OW.o gA);have HNA:=Lv (show (w6.alloc (.cells #[.string (strOfNums T),.int .i64 x.sec,.int .u64 x.value,.bool x.weak] 95)).drew.heap[w6.heap.size]?=some (.cells ([.string (strOfNums T),.int .i64 x.sec,.int .u64 x.value,.bool x.weak]:List Value).toArray 95 (0,0)) from heap_alloc_new w6 _)
        have ONE:=Lv (syCs_one (T,x));have GA:=Lv gA;have BKA:=Lv (((gA.block g (lt_of_block BK.o) (by simp)).trans BK.o));have HLO:=Lv (show hi≤(w6.alloc (.cells #[.string (strOfNums T),.int .i64 x.sec,.int .u64 x.value,.bool x.weak] 95)).drew.heap.size from Nat.le_trans hH6 gA.size);have hf:(D.length + 1) * 40≤140737488355328:=by omega
        have NV:=Lv (fun e=>(OO.o g e).1 rfl:(Value.slice qs D.length cs).ownBlock≠some g);obtain ⟨rows,hrows⟩:∃ r,r=D.flatMap syCs:=⟨_,rfl⟩
        rw [← hrows] at OWA NX OW;obtain ⟨L,hL⟩:∃ L,L=D.length:=⟨_,rfl⟩
        rw [← hL] at OWA NX OW e2 hf OO NV BKA;clear gA hrows hL hfew;go_wp2;go_region_law (refine Bg syType (by with_reducible rfl) _ _ (by with_reducible rfl) _ L 1 rows (by rfl) OWA.o [.string (strOfNums T),.int .i64 x.sec,.int .u64 x.value,.bool x.weak] rfl w6.heap.size (by rfl) HNA.o ONE.o hf (by decide) HLO.o ?_;intro v7 w7 ho7 hg7;obtain ⟨q7,c7,rfl⟩:=Qp ho7;have b7:=(hg7.block g (lt_of_block BKA.o) (fun e=>NV.o e.symm)).trans BKA.o;have e2':w7.cell? ⟨g,2,none⟩=some (.slice qs L cs):=(by rw [Qm b7];rfl);have f2':=Xg (i:=2) b7;have gl':=lt_of_block b7)
        all_goals
         have TF:=Lv (NX.o _ w7 _ GA.o ho7 hg7);have BF:=Lv (B6.o.trans (Qg GA.o hB6 (by simp)) |>.trans (Qg hg7 (Nat.le_trans hB6 GA.o.size) (fun b hb=>Nat.le_trans hBhi (OO.o b hb).2.2)) |>.trans (Qg (Qx (i:=2) (Qq w7 (some g)) (.slice q7 (L + 1) c7)) (Nat.le_trans hB6 (Nat.le_trans GA.o.size hg7.size)) (by simp;exact hBg)));clear ho7 hg7 b7 e2' f2' gl'
         go_wp2;go_ret
         exact ⟨by rw [EE.o];rfl,BF.o,fun _=>⟨_,_,TF.o⟩⟩
     · rw [if_pos rfl] at he
       have EE:=Lv he;clear he t5;go_wp2;go_ret
       exact ⟨by rw [EE.o];rfl,B5.o,fun h=>by rw [EE.o] at h;cases h⟩
end
end Go.Proofs.YtkmbkpoclhbmgaaGreat
