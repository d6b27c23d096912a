/- Parts of the proof, put together: TrH, TrJ, TrS, TrD. No condition beyond those that each part names. -/
import Derived.Test.YtkmbkpoclhbmgaaGreatPA9
set_option maxRecDepth 20000
set_option maxHeartbeats 6400000
namespace Go.Proofs.YtkmbkpoclhbmgaaGreat
open Go.RowKit
variable {w w' W V:World}
section
variable {w w' W V:World} {xs:List Int}
def Vg (cn co:Nat) (t:List Int) (W:World) (G:Nat→Prop) (own:Option Ex):Prop :=
 Xv W cn (.string (strOfNums t)) 9∧(∃ q n c,Qn W co own.isSome (nmOf (strOfNums t) own) (exOf own) (.slice q n c))∧G cn∧G co
theorem invFind_kept {cn co:Nat} {t:List Int} {G H:Nat→Prop} {own:Option Ex} (h:Vg cn co t W G own) (hg:Chg H W V) (hd:∀ k,G k→¬ H k):Vg cn co t V G own:=by
 obtain ⟨h1,⟨q,n,c,h2⟩,h3,h4⟩:=h;exact ⟨h1.chg hg (hd _ h3),⟨q,n,c,(hg.block co (lt_of_block h2) (hd _ h4)).trans h2⟩,h3,h4⟩
theorem Qn.putAny {g0:Nat} {b0:Bool} {nm0:ByteArray} {x0:Ex} {v0:Value} (h:Qn W g0 b0 nm0 x0 v0) (b:Bool) (nm':ByteArray) (y:Ex) (v':Value) :
   Qn (((((((((W.setCell ⟨g0,0,none⟩ (.bool b)).setCell ⟨g0,1,none⟩ (.string nm')).setCell ⟨g0,2,none⟩ (.int .i64 y.kind)).setCell ⟨g0,3,none⟩ (.bool y.weak)).setCell ⟨g0,4,none⟩ (.int .u64 y.value)).setCell ⟨g0,5,none⟩ (.int .u64 y.resolver)).setCell ⟨g0,6,none⟩ (.int .u64 y.ordinal)).setCell ⟨g0,7,none⟩ (.string (strOfNums y.other))).setCell ⟨g0,8,none⟩ v') g0 b nm' y v' :=
 ((((((((h.s0 b).s1 nm').s2 y.kind).s3 y.weak).s4 y.value).s5 y.resolver).s6 y.ordinal).s7 y.other).kids v'
theorem find1_any {cn co:Nat} {t:List Int} (ht:Byt t) {G:Nat→Prop} {own:Option Ex} {name:List Int} {nd:Nd} {v:Value} {base:Nat} (h:Vg cn co t W G own) (hp:∃ rest,t=name ++ rest) (hk:NdOk nd) (ho:W.ownsRow base 145 2 v nd.kids.length (nd.kids.flatMap Hp)) (hv:∀ g,v.ownBlock=some g→¬ G g) (hG:∀ k,G k→k < W.heap.size) :
  Calls Tryz.prog 191 #[.string (strOfNums name),Kw nd.ex.isSome (nmOf (strOfNums name) nd.ex) (exOf nd.ex) v,.pointer (some ⟨cn,0,none⟩),.pointer (some ⟨co,0,none⟩)] W fun e W'=>MOut (Option Ex) (Z7 t) (Vg cn co t) own name nd v G W W' e:=by
 obtain ⟨q,c,rfl⟩:=Qp ho;obtain ⟨o1,⟨qo,no,co',n1⟩,a3,a4⟩:=h;obtain ⟨rest,hrest⟩:=hp;have hkl:nd.kids.length≤255:=hk.few;have hrm:=Jw ho;have hc63:c≤9223372036854775807:=by
  rcases ho.2 with ⟨hn,_⟩ | ⟨g,cp,cur,hn,_,_,_,hm,_⟩
  ·injection hn with _ _ e;omega
  ·injection hn with _ _ e;unfold maxLen at hm;omega
 have hdrop:t.drop name.length=rest:=by rw [hrest];simp
 have hl1:name.length + rest.length=t.length:=by rw [hrest,List.length_append]
 have CUT:=Lv (show (strOfNums t).extract name.length t.length=strOfNums rest by rw [V8,List.take_length,hdrop]);have hcut:=CUT.o;have st:(strOfNums t).size=t.length:=strOfNums_size _;have sn:(strOfNums name).size=name.length:=strOfNums_size _;have hnl:name.length≤t.length:=by omega
 have g1:=grown1 W (.cells #[.bool nd.ex.isSome,.string (nmOf (strOfNums name) nd.ex),.int .i64 (exOf nd.ex).kind,.bool (exOf nd.ex).weak,.int .u64 (exOf nd.ex).value,.int .u64 (exOf nd.ex).resolver,.int .u64 (exOf nd.ex).ordinal,.string (strOfNums (exOf nd.ex).other),.slice q nd.kids.length c] 87);have N1:=Lv (show Qn (W.alloc (.cells #[.bool nd.ex.isSome,.string (nmOf (strOfNums name) nd.ex),.int .i64 (exOf nd.ex).kind,.bool (exOf nd.ex).weak,.int .u64 (exOf nd.ex).value,.int .u64 (exOf nd.ex).resolver,.int .u64 (exOf nd.ex).ordinal,.string (strOfNums (exOf nd.ex).other),.slice q nd.kids.length c] 87)) W.heap.size nd.ex.isSome (nmOf (strOfNums name) nd.ex) (exOf nd.ex) (.slice q nd.kids.length c) from heap_alloc_new W _)
 obtain ⟨W1,hW1⟩:∃ W1,W.alloc (.cells #[.bool nd.ex.isSome,.string (nmOf (strOfNums name) nd.ex),.int .i64 (exOf nd.ex).kind,.bool (exOf nd.ex).weak,.int .u64 (exOf nd.ex).value,.int .u64 (exOf nd.ex).resolver,.int .u64 (exOf nd.ex).ordinal,.string (strOfNums (exOf nd.ex).other),.slice q nd.kids.length c] 87)=W1:=⟨_,rfl⟩
 obtain ⟨gn,hgn⟩:∃ gn,W.heap.size=gn:=⟨_,rfl⟩
 rw [hW1] at g1 N1;rw [hgn] at N1;have O1:=Lv (o1.grown g1);have M1:=Lv (n1.kept g1 (by simp));have KS1:=Lv (Qy ho g1);have C1:=Lv (show Chg G W W1 from Chg.of_grown g1 (fun b e=>by cases e));have AG:=Lv (And.intro a3 a4);have HV:=Lv hv;have HK:=Lv (And.intro hrm (And.intro hc63 hk));have HG:=Lv hG;have HW1:=Lv hW1;have HGN:=Lv hgn;have HT:=Lv (And.intro ht (And.intro hrest hdrop))
 have c0:=(o1.grown g1).c;have cl:=(o1.grown g1).lt;clear o1 n1 a3 a4 g1 ho hv hk hG hW1 hgn hrest hdrop ht CUT;unfold Kw;go_enter Tryz.func191,Tryz.ntmps191;go_upto_region 1 with fail;rw [HW1.o,HGN.o];clear HW1;obtain ⟨d0,d1,d2,d3,d4,d5,d6,d7,d8⟩:=N1.o.c;have dl:=N1.o.lt;by_cases hr:rest=[]
 ·have he:(strOfNums rest).toList.isEmpty=true:=by rw [hr,Lib.strOfNums_toList];rfl
  have eM:Z7 t own name nd=(nd.ex,[],0):=if_pos (by rw [HT.o.2.2,hr]);have eN:nmOf (strOfNums name) nd.ex=nmOf (strOfNums t) nd.ex:=by rw [HT.o.2.1,hr,List.append_nil]
  have GP:=Jx (Qq W1 (some co)) (.bool nd.ex.isSome) (.string (nmOf (strOfNums name) nd.ex)) (.int .i64 (exOf nd.ex).kind) (.bool (exOf nd.ex).weak) (.int .u64 (exOf nd.ex).value) (.int .u64 (exOf nd.ex).resolver) (.int .u64 (exOf nd.ex).ordinal) (.string (strOfNums (exOf nd.ex).other)) (.slice q nd.kids.length c);have PUT:=M1.o.putAny nd.ex.isSome (nmOf (strOfNums name) nd.ex) (exOf nd.ex) (.slice q nd.kids.length c)
  have hne:(some co:Option Nat)≠some cn:=by
   intro e;injection e with e;have h1:=O1.o;have h2:=M1.o;unfold Xv at h1;unfold Qn at h2;rw [← e,h2] at h1;injection h1 with h1;injection h1 with _ h1 _;exact absurd h1 (by decide)
  obtain ⟨Wp,hWp⟩:∃ Wp,((((((((W1.setCell ⟨co,0,none⟩ (.bool nd.ex.isSome)).setCell ⟨co,1,none⟩ (.string (nmOf (strOfNums name) nd.ex))).setCell ⟨co,2,none⟩ (.int .i64 (exOf nd.ex).kind)).setCell ⟨co,3,none⟩ (.bool (exOf nd.ex).weak)).setCell ⟨co,4,none⟩ (.int .u64 (exOf nd.ex).value)).setCell ⟨co,5,none⟩ (.int .u64 (exOf nd.ex).resolver)).setCell ⟨co,6,none⟩ (.int .u64 (exOf nd.ex).ordinal)).setCell ⟨co,7,none⟩ (.string (strOfNums (exOf nd.ex).other))).setCell ⟨co,8,none⟩ (.slice q nd.kids.length c)=Wp:=⟨_,rfl⟩
  rw [hWp] at GP PUT;rw [eN] at PUT;have i1:Vg cn co t Wp G nd.ex:=⟨O1.o.kept GP hne,⟨_,_,_,PUT⟩,AG.o⟩
  have ch:Chg G W Wp:=C1.o.trans (Chg.of_grown GP (fun b e=>by injection e with e;exact .inl (e ▸ AG.o.2)));have FN:=Lv (show MOut (Option Ex) (Z7 t) (Vg cn co t) own name nd (.slice q nd.kids.length c) G W Wp (.returned (.tuple #[.slice none 0 0,.int .i64 0])) from
   { ex:=⟨none,0,G,by rw [eM];rfl,by rw [eM];exact i1,fun k hk=>.inl hk,by rw [eM];exact Xp.nil,fun g o e=>(by cases e),by rw [eM];exact Nat.le_refl _,by decide⟩,chg:=ch })
  have HWp:=Lv hWp;clear i1 ch hWp;obtain ⟨e0,e1,e2,e3,e4,e5,e6,e7,e8⟩:=M1.o.c;have ef:=M1.o.fz;have el:=M1.o.lt;clear hr eM eN GP PUT hne;go_upto_region 4 with fail;rw [HWp.o];clear HWp e0 e1 e2 e3 e4 e5 e6 e7 e8 ef el;go_wp2;go_ret2
  exact FN.o
 ·have he:(strOfNums rest).toList.isEmpty=false:=by
   rw [Lib.strOfNums_toList];cases rest with
   | nil=>exact absurd rfl hr
   | cons=>rfl
  have eM:Z7 t own name nd=(own,J7 nd.kids rest,0):=by
   have e:Z7 t own name nd=(own,J7 nd.kids (t.drop name.length),0):=if_neg (by rw [HT.o.2.2];exact hr);rw [e,HT.o.2.2]
  have hbr:Byt rest:=by
   have:=HT.o.1
   rw [HT.o.2.1] at this;exact fun x hx=>this x (List.mem_append_right _ hx)
  have LE:=Lv (leading_any (w:=W1) nd.kids nd.kids.length rfl q c hrm hc63 (Xp.of KS1.o) rest hbr (fun k hk=>(HK.o.2.2.kids.each k hk).byt));have EM:=Lv eM;clear hr hbr eM;go_wp2_with fail;refine LE.o.mono ?_
  rintro e W2 ⟨⟨q',c',rfl,hks,hq,hlc,hc2⟩,hg⟩;have FN:=Lv (show MOut (Option Ex) (Z7 t) (Vg cn co t) own name nd (.slice q nd.kids.length c) G W W2 (.returned (.tuple #[.slice q' (J7 nd.kids rest).length c',.int .i64 0])) from
   ⟨⟨q',c',G,by rw [EM.o],by rw [EM.o];exact ⟨O1.o.grown hg,⟨_,_,_,M1.o.kept hg (by simp)⟩,AG.o⟩,fun k hk=>.inl hk,by rw [EM.o];exact hks.grown hg,fun g o e=>by
    obtain ⟨o',e'⟩:=hq g o e;rw [e'];rfl,by rw [EM.o];exact hlc,hc2⟩,C1.o.trans (Chg.of_grown hg (fun b e=>by cases e))⟩)
  clear hks hq hlc hc2 hg;go_wp2;go_ret2
  exact FN.o
theorem findMeet (cn co:Nat) {t:List Int} (ht:Byt t):Gj (Option Ex) 191 #[.pointer (some ⟨cn,0,none⟩),.pointer (some ⟨co,0,none⟩)] (Z7 t) (fun name=>∃ rest,t=name ++ rest) (fun _=>True) (Vg cn co t) where
 enters:=enters_of Tryz.func191 (by kernel_rfl) rfl
 kept:=fun W V G s H h hg hd=>invFind_kept h hg hd
 sub:=fun s name nd x hx=>by
  unfold Z7 at hx
  split at hx
  ·cases hx
  ·simp only [J7] at hx
   split at hx
   ·cases hx
   ·rename_i k hk
    rw [List.mem_singleton.1 hx];exact List.mem_of_find?_eq_some hk
 pre:=fun s name nd ⟨rest,hr⟩ x hx=>by
  unfold Z7 at hx
  split at hx
  ·cases hx
  ·simp only [J7] at hx
   split at hx
   ·cases hx
   ·rename_i k hk
    rw [List.mem_singleton.1 hx];obtain ⟨r2,h2⟩:=To.1 (List.find?_some (p:=fun k:Kid=>pfx k.1 (t.drop name.length)) hk);have hd:t.drop name.length=rest:=by rw [hr];simp
    rw [hd] at h2;exact ⟨r2,by rw [hr,h2,List.append_assoc]⟩
 next:=fun _ _ _ _ _=>trivial
 stop:=fun s name nd he=>by
  unfold Z7 at he
  split at he <;> exact absurd rfl he
 call:=fun W G s name nd v base h _ hp _ hk ho hv hG=>find1_any ht h hp hk ho hv hG
def Kf (xs t:List Int):Int × Option Ex:=if 255 < t.length then (10,none) else Yj xs (Z7 t) none
structure Pa (w w':World) (xs t:List Int) (e:Ending):Prop where
 ret:e=.returned (.tuple #[exV (nmOf (strOfNums t) (Kf xs t).2) (exOf (Kf xs t).2),.bool (Kf xs t).2.isSome,.int .i64 (Kf xs t).1])
 grown:w.grownBy w' none
theorem Q2 {fn:Func} {p u v:Tmp} {g:Nat} {nm:ByteArray} {x:Ex} (hr:fn.results=#[.cell p 28,.tmp u,.tmp v]) {tmps:Array Value} {y z:Value} (hp:tmps.getD p undef=.pointer (some ⟨g,0,none⟩)) (hu:tmps.getD u undef=y) (hv:tmps.getD v undef=z) (h:ExAt w g nm x) :
  (results fn tmps).run Tryz.prog w=.ok (.tuple #[exV nm x,y,z]) w:=by
 have e:(asAddr (.pointer (some ⟨g,0,none⟩)):Sem Addr).run Tryz.prog w=.ok ⟨g,0,none⟩ w:=rfl;simp only [Array.getD_eq_getD_getElem?] at hp hu hv;simp only [results,hr];simp [Sem.run_bind,Result.andThen,hp,hu,hv,e,Tt h]
theorem ExAt.drewF {g:Nat} {nm:ByteArray} {x:Ex} (h:ExAt W g nm x):ExAt W.drew g nm x:=h
theorem Find_any {q:Option Addr} {c n:Nat} (h:Qk w q c xs) (hn:xs.length=n) (hb:Byt xs) (hc:n≤c) (hcm:c≤9223372036854775807) (hbig:n≤140737488355328) (t:List Int) (ht:Byt t) (htl:t.length≤9223372036854775807) :
  Calls Tryz.prog 190 #[.slice q n c,.string (strOfNums t)] w fun e w'=>Pa w w' xs t e:=by
 have g1:=grown1 w (.cells #[.string (strOfNums t)] 9);have o1:=Xv.new w (.string (strOfNums t)) 9;obtain ⟨w1,hw1⟩:∃ w1,w.alloc (.cells #[.string (strOfNums t)] 9)=w1:=⟨_,rfl⟩
 obtain ⟨cn,hcn⟩:∃ cn,w.heap.size=cn:=⟨_,rfl⟩
 rw [hw1] at g1 o1;rw [hcn] at o1;have g2:=grown1 w1 (.cells #[.string ⟨#[]⟩,.int .i64 0,.bool false,.int .u64 0,.int .u64 0,.int .u64 0,.string ⟨#[]⟩] 28);have r2:ExAt (w1.alloc (.cells #[.string ⟨#[]⟩,.int .i64 0,.bool false,.int .u64 0,.int .u64 0,.int .u64 0,.string ⟨#[]⟩] 28)) w1.heap.size ⟨#[]⟩ Ex.zero:=heap_alloc_new w1 _;obtain ⟨w2,hw2⟩:∃ w2,w1.alloc (.cells #[.string ⟨#[]⟩,.int .i64 0,.bool false,.int .u64 0,.int .u64 0,.int .u64 0,.string ⟨#[]⟩] 28)=w2:=⟨_,rfl⟩
 obtain ⟨g0,hg0⟩:∃ g0,w1.heap.size=g0:=⟨_,rfl⟩
 have l1:=o1.lt;have hcn1:cn + 1=g0:=by rw [← hg0,← hw1,World.size_alloc,hcn]
 rw [hw2] at g2 r2;rw [hg0] at r2 l1;have O2:=Lv (o1.grown g2);have R2:=Lv r2;have G2:=Lv (Qz g1 g2);have HW:=Lv (And.intro hw1 (And.intro hcn (And.intro hw2 hcn1)));have hst:(strOfNums t).size=t.length:=strOfNums_size _;have HA:=Lv (And.intro h (And.intro hn (And.intro hb ht)));have BL:=Lv (And.intro (show w.heap.size≤g0 by have:=g1.size;omega) (And.intro (show cn < g0 by omega) (show g0 < w2.heap.size from r2.lt)))
 have c2:=(o1.grown g2).c;have cl2:=(o1.grown g2).lt;clear g1 o1 g2 r2 l1 h hn hb ht hw1 hcn hw2 hg0 hcn1;by_cases hl : 255 < t.length
 ·have FW:=Lv (show Kf xs t=(10,none) from if_pos hl)
  have dl:decide ((255:Int) < (t.length:Int))=true:=by simp;omega
  obtain ⟨d0,d1,d2,d3,d4,d5,d6⟩:=R2.o.c;have df:=R2.o.fz;have dll:=R2.o.lt;clear hl;go_enter Tryz.func190,Tryz.ntmps190;go_upto_region 1 with fail;rw [HW.o.1,HW.o.2.1,HW.o.2.2.1,HW.o.2.2.2];go_wp2;refine bodyPost_ret (Q2 rfl rfl rfl rfl (R2.o.put ⟨#[]⟩ Ex.zero)) rfl ?_
  exact ⟨by rw [FW.o];rfl,Qw G2.o (Qh (Qq _ (some g0)) _ _ _ _ _ _ _) BL.o.1⟩
 ·have FW:=Lv (show Kf xs t=Yj xs (Z7 t) none from if_neg hl)
  have dl:decide ((255:Int) < (t.length:Int))=false:=by simp;omega
  have g3:=grown1 w2 (.cells #[.bool false,.string ⟨#[]⟩,.int .i64 0,.bool false,.int .u64 0,.int .u64 0,.int .u64 0,.string ⟨#[]⟩,.slice none 0 0] 87);have n3:Qn (w2.alloc (.cells #[.bool false,.string ⟨#[]⟩,.int .i64 0,.bool false,.int .u64 0,.int .u64 0,.int .u64 0,.string ⟨#[]⟩,.slice none 0 0] 87)) w2.heap.size false ⟨#[]⟩ Ex.zero (.slice none 0 0):=heap_alloc_new w2 _;obtain ⟨w3,hw3⟩:∃ w3,w2.alloc (.cells #[.bool false,.string ⟨#[]⟩,.int .i64 0,.bool false,.int .u64 0,.int .u64 0,.int .u64 0,.string ⟨#[]⟩,.slice none 0 0] 87)=w3:=⟨_,rfl⟩
  obtain ⟨co,hco⟩:∃ co,w2.heap.size=co:=⟨_,rfl⟩
  have hco1:g0 + 1=co:=by
   have e1:=HW.o.1;have e2:=HW.o.2.2.1;have e3:=HW.o.2.2.2;have e4:=HW.o.2.1;rw [← hco,← e2,World.size_alloc,← e1,World.size_alloc,e4,e3]
  rw [hw3] at g3 n3;rw [hco] at n3;have i3:Vg cn co t w3 (fun k=>k=cn∨k=co) none:=⟨O2.o.grown g3,⟨none,0,0,n3⟩,.inl rfl,.inr rfl⟩
  have WK:Calls Tryz.prog 40 #[.slice q n c,.func (.func 191) #[] #[.pointer (some ⟨cn,0,none⟩),.pointer (some ⟨co,0,none⟩)]] w3 fun e W'=>WOut (Option Ex) (fun _=>True) (Vg cn co t) (fun k=>k=cn∨k=co) w3 W' (Yj xs (Z7 t) none) e:=by
   obtain ⟨h,hn,hb,ht⟩:=HA.o;by_cases hx:xs=[]
   ·subst hx
    simp only [List.length_nil] at hn;subst hn;refine (walk_no q c _ _).mono ?_
    rintro e W' ⟨rfl,hg⟩;exact ⟨rfl,⟨_,invFind_kept i3 (Chg.of_grown hg (fun b e=>by cases e):Chg (fun _=>False) _ _) (fun _ _ e=>e),fun k hk=>.inl hk⟩,Chg.of_grown hg (fun b e=>by cases e),fun _=>trivial⟩
   ·subst hn
    obtain ⟨b,o,rfl,hcell⟩:=h.2 (by cases xs with | nil=>exact absurd rfl hx | cons=>simp);have hbl:=World.block_lt_of_cell? w _ (hcell 0 (by cases xs with | nil=>exact absurd rfl hx | cons=>simp))
    simp only at hbl
    have e4:=HW.o.2.1;have b3:=BL.o;refine walk_any (findMeet cn co ht) ⟨t,rfl⟩ trivial i3 ?_ (fun i hi=>Qv (Qz G2.o g3) (hcell i hi)) hx ?_ hb hc hcm hbig
    ·have:=n3.lt
     rintro k (rfl | rfl)
     ·omega
     ·exact this
    ·rintro (e | e) <;> omega
  have WH:=Lv WK;have G3:=Lv (Qz G2.o g3);have R3:=Lv (R2.o.kept g3 (by simp));have HW3:=Lv (And.intro hw3 hco1);have NE:=Lv (And.intro (show cn≠g0 by have:=BL.o.2.1;omega) (show co≠g0 by omega));have HCO:=Lv hco;clear g3 n3 i3 WK hl hw3 hco1 hco;obtain ⟨⟨er,own⟩,hr⟩:∃ r,r=Yj xs (Z7 t) none:=⟨_,rfl⟩
  rw [← hr] at WH FW;clear hr;go_enter Tryz.func190,Tryz.ntmps190;go_upto_region 1 with fail;rw [HW.o.1,HW.o.2.1,HW.o.2.2.1,HW.o.2.2.2];go_upto_region 4 with fail;rw [HCO.o,HW3.o.1];clear c2 cl2;go_wp2_with fail;refine WH.o.mono ?_
  rintro e w4 ⟨rfl,⟨G',⟨o4,⟨qo,no,cc,n4⟩,a3,a4⟩,hG'⟩,hch,_⟩;have hg4:w.grownBy w4 none :=
   ⟨hch.os.trans G3.o.os,hch.tape.trans G3.o.tape,hch.output.trans G3.o.output,Nat.le_trans G3.o.size hch.size,fun i hi _=>(hch.block i (Nat.lt_of_lt_of_le hi G3.o.size) (fun e=>by
    have e4:=HW.o.2.1;have e5:=HCO.o;have e6:=G2.o.size;rcases e with e | e <;> omega)).trans (G3.o.block i hi (by simp))⟩
  have r4:ExAt w4 g0 ⟨#[]⟩ Ex.zero:=(hch.block g0 R3.o.lt (fun e=>e.elim (fun e=>NE.o.1 e.symm) (fun e=>NE.o.2 e.symm))).trans R3.o;simp only [] at n4;obtain ⟨e0,e1,e2,e3,e4,e5,e6,e7,e8⟩:=n4.c;obtain ⟨d0,d1,d2,d3,d4,d5,d6⟩:=r4.c;have df:=r4.fz;have dll:=r4.lt;have nl:=n4.lt;have nco:¬ co=g0:=NE.o.2;have nco':¬ g0=co:=fun e=>NE.o.2 e.symm;have P4:=Lv (r4.put (nmOf (strOfNums t) own) (exOf own))
  have GF:=Lv (Qj (Qw hg4 (Qh (Qq w4 (some g0)) (.string (nmOf (strOfNums t) own)) (.int .i64 (exOf own).kind) (.bool (exOf own).weak) (.int .u64 (exOf own).value) (.int .u64 (exOf own).resolver) (.int .u64 (exOf own).ordinal) (.string (strOfNums (exOf own).other))) BL.o.1) 1);clear o4 n4 a3 a4 hG' hch hg4 r4;go_upto_region 5 with fail;go_region
  go_wp2;refine bodyPost_ret (Q2 rfl rfl rfl rfl P4.o.drewF) rfl ?_
  exact ⟨by rw [FW.o];rfl,GF.o⟩
end
section
variable {xs:List Int}
def Told (y:List Int × Ex):Prop:=Byt y.1∧y.1.length≤255
theorem visK_told {rec:List Int→Int→Nat × Out→Int × (Nat × Out)} (name:List Int) (hn:Byt name)
  (IH:∀ nm pl m out m' out',Byt nm→rec nm pl (m,out)=(0,(m',out'))→(∀ y∈out,Told y)→∀ y∈out',Told y) :
  ∀ (l:List Kid),(∀ k∈l,Byt k.1)→∀ m out m' out',visK rec name l 0 (m,out)=(0,(m',out'))→(∀ y∈out,Told y)→∀ y∈out',Told y:=by
 intro l
 induction l with
 | nil =>
  intro _ m out m' out' h ho;simp only [visK,Prod.mk.injEq,true_and] at h;rw [← h.2];exact ho
 | cons x l ih =>
  intro hk m out m' out' h ho;obtain ⟨⟨m1,o1⟩,h1,h2⟩:=visK_cons h;exact ih (fun k hk'=>hk k (List.mem_cons_of_mem _ hk')) _ _ _ _ h2 (IH _ _ _ _ _ _ (hn.app (hk x (List.mem_cons_self ..))) h1 ho)
theorem vis_told (hb:Byt xs):∀ (k:Nat) (way name:List Int) (pl:Int) (m:Nat) (out:Out) (m':Nat) (out':Out),Byt name→vis xs Zh k way name pl (m,out)=(0,(m',out'))→(∀ y∈out,Told y)→∀ y∈out',Told y:=by
 intro k
 induction k with
 | zero=>intro way name pl m out m' out' _ h;simp [vis] at h
 | succ k ih =>
  intro way name pl m out m' out' hn h ho;by_cases hl : 255 < name.length
  ·have e:vis xs Zh (k + 1) way name pl (m,out)=(10,(m + 1,out)):=by unfold vis;rw [if_pos hl]
   rw [e] at h;simp at h
  ·rw [Pb hl] at h
   split at h
   ·simp at h
   split at h
   ·simp at h
   cases hnd:ndAt xs pl with
   | none=>rw [hnd] at h;simp at h
   | some nd =>
    rw [hnd] at h;simp only [] at h;have hok:=W8 hb hnd;have h1:∀ y∈outN out name nd,Told y:=by
     intro y hy;unfold outN at hy;cases hx:nd.ex with
     | none=>rw [hx] at hy;exact ho y hy
     | some x =>
      rw [hx] at hy;rcases List.mem_append.1 hy with hy | hy
      ·exact ho y hy
      ·rw [List.mem_singleton.1 hy];exact ⟨hn,by show name.length≤255;omega⟩
    by_cases c4 : 4096 < (outN out name nd).length
    ·have e:Zh out name nd=(outN out name nd,[],11):=if_pos c4
     rw [e] at h;simp [visK] at h
    ·have e:Zh out name nd=(outN out name nd,nd.kids,0):=if_neg c4
     rw [e] at h;exact visK_told (rec:=vis xs Zh k (way ++ [pl])) name hn (fun nm p m o m' o' hb' h ho=>ih _ nm p m o m' o' hb' h ho) nd.kids (fun k hk=>(hok.kids.each k hk).byt) _ _ _ _ h h1
structure Whole (xs:List Int) (out:Out):Prop where
 once:out.Pairwise fun a b=>a.1≠b.1
 told:∀ y∈out,Told y
 find:∀ t:List Int,t.length≤255→Kf xs t=(0,(Xz t out).map (·.2))
theorem whole_of (hb:Byt xs) {out:Out} (h:Yj xs Zh []=(0,out)):Whole xs out:=by
 unfold Yj at h;by_cases hx:xs=[]
 ·rw [if_pos hx] at h
  injection h with _ h;subst h;refine ⟨List.Pairwise.nil,fun y hy=>(by cases hy),fun t ht=>?_⟩;unfold Kf Yj;rw [if_neg (by omega),if_pos hx];rfl
 ·rw [if_neg hx] at h
  obtain ⟨⟨er,m',o'⟩,hr⟩:∃ r,r=vis xs Zh 257 [] [] 0 (0,[]):=⟨_,rfl⟩
  rw [← hr] at h;simp only [Prod.mk.injEq] at h;obtain ⟨rfl,rfl⟩:=h;obtain ⟨new,A,F⟩:=vis_all hb 257 [] [] 0 0 [] m' o' hr.symm;have e:o'=new:=by rw [A.eq];rfl
  refine ⟨e ▸ A.once,vis_told hb 257 [] [] 0 0 [] m' o' (fun x hx=>by cases hx) hr.symm (fun y hy=>by cases hy),fun t ht=>?_⟩;obtain ⟨j',hj⟩:=F t 0 (by simpa using ht) (Nat.le_refl _);unfold Kf Yj;rw [if_neg (by omega),if_neg hx];simp only [List.nil_append] at hj;rw [hj,e]
end
section
variable {w w' W:World} {b o c:Nat} {xs:List Int} {s s':Cs}
structure RsI (w0 W:World) (g b o c:Nat) (xs:List Int) (s:Cs) (g0 g1:Nat) (x:Ex):Prop where
 rd:Rd W g b o c xs s
 res:ExAt W g0 ⟨#[]⟩ Ex.zero
 ex:ExAt W g1 ⟨#[]⟩ x
 grown:w0.grownBy W none
 newg:w0.heap.size≤g
 new0:w0.heap.size≤g0
 new1:w0.heap.size≤g1
 n01:g0≠g1
 n0g:g0≠g
 n1g:g1≠g
 old:b < w0.heap.size
section
variable {w0:World} {g g0 g1:Nat} {x x':Ex}
theorem RsI.call (h:RsI w0 W g b o c xs s g0 g1 x) (hp:Rd w' g b o c xs s') (hg:W.grownBy w' (some g)):RsI w0 w' g b o c xs s' g0 g1 x :=
 ⟨hp,h.res.kept hg (by intro e;injection e with e;exact h.n0g e.symm),h.ex.kept hg (by intro e;injection e with e;exact h.n1g e.symm),Qw h.grown hg h.newg,h.newg,h.new0,h.new1,h.n01,h.n0g,h.n1g,h.old⟩
theorem RsI.set (h:RsI w0 W g b o c xs s g0 g1 x) (hg:W.grownBy w' (some g1)) (he:ExAt w' g1 ⟨#[]⟩ x'):RsI w0 w' g b o c xs s g0 g1 x' :=
 ⟨h.rd.kept hg (by intro e;injection e with e;exact h.n1g e) (by intro e;injection e with e;have:=h.new1;have:=h.old;omega),h.res.kept hg (by intro e;injection e with e;exact h.n01 e.symm),he,Qw h.grown hg h.new1,h.newg,h.new0,h.new1,h.n01,h.n0g,h.n1g,h.old⟩
theorem RsI.fin (h:RsI w0 W g b o c xs s g0 g1 x) (y:Ex) :
  ExAt (((((((W.setCell ⟨g0,0,none⟩ (.string ⟨#[]⟩)).setCell ⟨g0,1,none⟩ (.int .i64 y.kind)).setCell ⟨g0,2,none⟩ (.bool y.weak)).setCell ⟨g0,3,none⟩ (.int .u64 y.value)).setCell ⟨g0,4,none⟩ (.int .u64 y.resolver)).setCell ⟨g0,5,none⟩ (.int .u64 y.ordinal)).setCell ⟨g0,6,none⟩ (.string (strOfNums y.other))) g0 ⟨#[]⟩ y ∧
   w0.grownBy (((((((W.setCell ⟨g0,0,none⟩ (.string ⟨#[]⟩)).setCell ⟨g0,1,none⟩ (.int .i64 y.kind)).setCell ⟨g0,2,none⟩ (.bool y.weak)).setCell ⟨g0,3,none⟩ (.int .u64 y.value)).setCell ⟨g0,4,none⟩ (.int .u64 y.resolver)).setCell ⟨g0,5,none⟩ (.int .u64 y.ordinal)).setCell ⟨g0,6,none⟩ (.string (strOfNums y.other))) none :=
 ⟨h.res.put _ y,Qw h.grown (Qh (Qq W (some g0)) _ _ _ _ _ _ _) h.new0⟩
theorem ExAt.drew {nm:ByteArray} (h:ExAt W g nm x):ExAt W.drew g nm x:=h
end
theorem Qo {fn:Func} {p u:Tmp} {g:Nat} {nm:ByteArray} {x:Ex} (hr:fn.results=#[.cell p 28,.tmp u]) {tmps:Array Value} {y:Value} (hp:tmps.getD p undef=.pointer (some ⟨g,0,none⟩)) (hu:tmps.getD u undef=y) (h:ExAt w g nm x) :
  (results fn tmps).run Tryz.prog w=.ok (.tuple #[exV nm x,y]) w:=by
 rw [results_cell_tmp hr,hp,hu,show (asAddr (.pointer (some ⟨g,0,none⟩)):Sem Addr).run Tryz.prog w=.ok ⟨g,0,none⟩ w from rfl,Result.andThen_ok,Tt h,Result.andThen_ok]
structure SayOut (w w':World) (xs:List Int) (e:Ending):Prop where
 ex:∃ x r,e=.returned (.tuple #[exV ⟨#[]⟩ x,.bool r])∧(r=true→sayP xs=some (x,xs.length))∧(r=false→∀ y,sayP xs≠some (y,xs.length))
 grown:w.grownBy w' none
theorem Bd {x:Ex} {s2:Cs} (h:Sim sayP xs (0,false) x s2):((!s2.2 && decide (s2.1=xs.length))=true→sayP xs=some (x,xs.length))∧((!s2.2 && decide (s2.1=xs.length))=false→∀ y,sayP xs≠some (y,xs.length)):=by
 refine ⟨fun h1=>?_,fun h1 y hy=>?_⟩
 ·simp only [Bool.and_eq_true,Bool.not_eq_true',decide_eq_true_eq] at h1
  have:=(h.ok h1.1).2
  rw [List.drop_zero,h1.2] at this;exact this
 ·cases hb:s2.2 with
  | true=>have:=h.no rfl hb;rw [List.drop_zero,hy] at this;cases this
  | false =>
   have:=(h.ok hb).2
   rw [List.drop_zero,hy] at this;injection this with this;injection this with _ this;rw [hb] at h1;simp only [Bool.not_false,Bool.true_and,decide_eq_false_iff_not] at h1;exact h1 this.symm
theorem says_any (hx:∀ i,i < xs.length→w.cell? ⟨b,o + i,none⟩=some (.int .u8 (xs.getD i 0))) (hc:xs.length≤c) (hcm:c≤9223372036854775807) (hb:b < w.heap.size) (hbig:xs.length≤140737488355328) (hr:Byt xs) :
  Calls Tryz.prog 114 #[.slice (some ⟨b,o,none⟩) xs.length c] w fun e w'=>SayOut w w' xs e:=by
 have g1:=grown1 w (.cells #[.string ⟨#[]⟩,.int .i64 0,.bool false,.int .u64 0,.int .u64 0,.int .u64 0,.string ⟨#[]⟩] 28);have r1:ExAt (w.alloc (.cells #[.string ⟨#[]⟩,.int .i64 0,.bool false,.int .u64 0,.int .u64 0,.int .u64 0,.string ⟨#[]⟩] 28)) w.heap.size ⟨#[]⟩ Ex.zero:=heap_alloc_new w _;obtain ⟨w1,hw1⟩:∃ w1,w.alloc (.cells #[.string ⟨#[]⟩,.int .i64 0,.bool false,.int .u64 0,.int .u64 0,.int .u64 0,.string ⟨#[]⟩] 28)=w1:=⟨_,rfl⟩
 obtain ⟨g0,hg0⟩:∃ g0,w.heap.size=g0:=⟨_,rfl⟩
 rw [hw1] at g1 r1;rw [hg0] at r1;have g2:=grown1 w1 (.cells #[.slice (some ⟨b,o,none⟩) xs.length c,.int .i64 0,.bool false] 200);have gl:=r1.lt;have R2:=Lv (show Rd (w1.alloc (.cells #[.slice (some ⟨b,o,none⟩) xs.length c,.int .i64 0,.bool false] 200)) w1.heap.size b o c xs (0,false) from
  ⟨heap_alloc_new w1 _,fun i hi=>Qv g2 (Qv g1 (hx i hi)),hc,hcm,Nat.zero_le _,hbig,hr,by omega⟩)
 have E2:=Lv (r1.kept g2 (by simp));have G2:=Lv (Qz g1 g2);have N2:=Lv (show g0≠w1.heap.size by omega);have M2:=Lv (show w.heap.size≤w1.heap.size from g1.size);obtain ⟨w2,hw2⟩:∃ w2,w1.alloc (.cells #[.slice (some ⟨b,o,none⟩) xs.length c,.int .i64 0,.bool false] 200)=w2:=⟨_,rfl⟩
 obtain ⟨g,hg⟩:∃ g,w1.heap.size=g:=⟨_,rfl⟩
 rw [hw2] at R2 E2 G2;rw [hg] at R2 N2 M2;have HW1:=Lv hw1;have HG0:=Lv hg0;have HW2:=Lv hw2;have HG:=Lv hg;have HB:=Lv hb;clear g1 r1 hw1 hg0 g2 gl hw2 hg hx hb hr;have S0:=Lv (Kh xs (0,false));have B0:=Lv (Pk (xs:=xs) (s:=(0,false)));go_enter Tryz.func114,Tryz.ntmps114;go_upto_region 1 with fail;rw [HW1.o,HG0.o];go_upto_region 2 with fail;rw [HW2.o,HG.o]
 go_wp2_with fail;refine (Z8 R2.o).mono ?_
 rintro e w3 ⟨rfl,hp,hg⟩;obtain ⟨F,hF⟩:∃ F,F=(ulR xs (0,false)).1:=⟨_,rfl⟩
 obtain ⟨s1,hs1⟩:∃ s1,s1=(ulR xs (0,false)).2:=⟨_,rfl⟩
 rw [← hF,← hs1] at S0;rw [← hF] at B0;rw [← hs1] at hp;rw [← hF];clear hF hs1;obtain ⟨K,hK⟩:∃ K,K=knN F:=⟨_,rfl⟩
 obtain ⟨wk,hwk⟩:∃ wk,wk=wkN F:=⟨_,rfl⟩
 have SK:=Lv (show sayK F=if K=0 then psB ulP fun v=>psR ⟨1,wk,v,0,0,[]⟩
  else if K=2 then psB ulP fun v=>psR ⟨2,wk,v,0,0,[]⟩
  else if K=8 then psB ulP fun o=>psB txP fun t=>psR ⟨3,wk,0,0,o,t⟩
  else if K=16 then psB ulP fun v=>psB ulP fun r=>psR ⟨4,wk,v,r,0,[]⟩
  else psF by rw [hK,hwk];rfl)
 have hwb:(F / 4 % 2 == 1)=wk:=by
  rw [hwk];unfold wkN;by_cases h1:F / 4 % 2=1
  ·rw [decide_eq_true h1,h1];rfl
  ·rw [decide_eq_false h1,beq_eq_false_iff_ne];exact h1
 have KF:=Lv (show (wk=true→F - 4=K∧0≤F - 4)∧(wk=false→F=K) from by
  rw [hK,hwk];unfold wkN knN
  have:=B0.o
  refine ⟨fun h=>?_,fun h=>?_⟩
  ·rw [decide_eq_true_eq] at h;rw [if_pos h];exact ⟨rfl,by omega⟩
  ·rw [decide_eq_false_iff_not] at h;rw [if_neg h])
 have hF1:=B0.o.1;have hF2:=B0.o.2;clear hK hwk;have g4:=grown1 w3 (.cells #[.string ⟨#[]⟩,.int .i64 0,.bool wk,.int .u64 0,.int .u64 0,.int .u64 0,.string ⟨#[]⟩] 28);have e4:=E2.o.kept hg (by intro e;injection e with e;exact N2.o e.symm);have l4:=e4.lt;have lg:=hp.lt;have T4:=Lv (show RsI w (w3.alloc (.cells #[.string ⟨#[]⟩,.int .i64 0,.bool wk,.int .u64 0,.int .u64 0,.int .u64 0,.string ⟨#[]⟩] 28)) g b o c xs s1 g0 w3.heap.size ⟨0,wk,0,0,0,[]⟩ from
  ⟨hp.grown g4,e4.kept g4 (by simp),heap_alloc_new w3 _,Qz (Qw G2.o hg M2.o) g4,M2.o,by have:=HG0.o;omega,by have:=(Qw G2.o hg M2.o).size;omega,by omega,N2.o,by omega,HB.o⟩)
 obtain ⟨w4,hw4⟩:∃ w4,w3.alloc (.cells #[.string ⟨#[]⟩,.int .i64 0,.bool wk,.int .u64 0,.int .u64 0,.int .u64 0,.string ⟨#[]⟩] 28)=w4:=⟨_,rfl⟩
 obtain ⟨gx,hgx⟩:∃ gx,w3.heap.size=gx:=⟨_,rfl⟩
 rw [hw4,hgx] at T4;have HW4:=Lv hw4;have HGX:=Lv hgx;clear hp hg R2 E2 G2 N2 M2 HW1 HW2 HG HG0 g4 e4 l4 lg hw4 hgx;go_upto_region 4 with fail;rw [HW4.o,HGX.o];clear HW4 HGX;have xw:=T4.o.ex.c.2.2.1;have xl:=T4.o.ex.lt;simp only [] at xw;cases wk with
 | true =>
  obtain ⟨hK,hF4⟩:=KF.o.1 rfl;have hwr:IntKind.u64.wrap (F - 4)=K:=by rw [IntKind.wrap_u64];omega
  clear hK hF4;go_upto_region 6 with fail;clear hwr;have Tw4:=T4;by_cases h0:K=0
  ·subst h0
   rw [if_pos rfl] at SK;have f1:=Tw4.out.ex.fz;have gl5:=Tw4.out.ex.lt;obtain ⟨k0,k1,k2,k3,k4,k5,k6⟩:=Tw4.out.ex.c;go_upto_region 10 with fail;have Tw4z0:=Lv (Tw4.out.set (Qx (i:=1) (Qq _ (some gx)) (.int .i64 1)) (Tw4.out.ex.kind 1));obtain ⟨w4e,hwe⟩:∃ we,(w4.setCell ⟨gx,1,none⟩ (.int .i64 1))=we:=⟨_,rfl⟩
   rw [hwe] at Tw4z0
   (try rw [hwe])
   have Tw4e:=Lv Tw4z0.o;clear hwe f1 gl5 k0 k1 k2 k3 k4 k5 k6;have S1:=Lv (Kh xs s1);go_wp2_with fail;refine (Z8 Tw4e.o.rd).mono ?_
   rintro e w5 ⟨rfl,hp,hg⟩;have Tw5:=Lv (Tw4e.o.call hp hg);clear hp hg Tw4e;obtain ⟨V,hV⟩:∃ z,z=(ulR xs s1).1:=⟨_,rfl⟩
   obtain ⟨s2,hs2⟩:∃ z,z=(ulR xs s1).2:=⟨_,rfl⟩
   rw [← hV,← hs2] at S1;rw [← hs2] at Tw5;rw [← hV];clear hV hs2;have f1:=Tw5.o.ex.fz;have gl5:=Tw5.o.ex.lt;obtain ⟨k0,k1,k2,k3,k4,k5,k6⟩:=Tw5.o.ex.c;go_upto_region 22 with fail;have Tw5z0:=Lv (Tw5.o.set (Qx (i:=3) (Qq _ (some gx)) (.int .u64 V)) (Tw5.o.ex.value V));obtain ⟨w5e,hwe⟩:∃ we,(w5.setCell ⟨gx,3,none⟩ (.int .u64 V))=we:=⟨_,rfl⟩
   rw [hwe] at Tw5z0
   (try rw [hwe])
   have Tw5e:=Lv Tw5z0.o;clear hwe f1 gl5 k0 k1 k2 k3 k4 k5 k6;have SX:=Lv (show Sim sayP xs (0,false) (⟨1,true,V,0,0,[]⟩:Ex) s2 from Sim.B S0.o (by rw [SK.o];exact Sim.B S1.o (Sim.R _ _)));have SE:=Lv (Bd SX.o);obtain ⟨Q,bd⟩:=s2;simp only [] at SE;obtain ⟨i0,i1,i2⟩:=And.intro Tw5e.o.rd.c0 (And.intro Tw5e.o.rd.c1 Tw5e.o.rd.c2);obtain ⟨c0,c1,c2,c3,c4,c5,c6⟩:=Tw5e.o.ex.c
   obtain ⟨d0,d1,d2,d3,d4,d5,d6⟩:=Tw5e.o.res.c;have f:=Tw5e.o.res.fz;have rl:=Tw5e.o.res.lt;have xl:=Tw5e.o.ex.lt;have n01:=Tw5e.o.n01;have n0g:=Tw5e.o.n0g;simp only [] at i1 i2 c0 c1 c2 c3 c4 c5 c6 d0 d1 d2 d3 d4 d5 d6;have FN:=Lv (Tw5e.o.fin ⟨1,true,V,0,0,[]⟩);simp only [] at FN;cases bd with
   | true =>
     go_region
     go_wp2;refine bodyPost_ret (Qo rfl rfl rfl FN.o.1.drew) rfl ?_
     exact ⟨⟨_,_,rfl,fun h=>(by cases h),fun _=>SE.o.2 rfl⟩,Qj FN.o.2 1⟩
   | false =>
     by_cases hQ:Q=xs.length
     ·have dq:((Q:Int) == (xs.length:Int))=true:=by rw [hQ];simp
      have SQ:=Lv (SE.o.1 (by rw [decide_eq_true hQ];rfl));clear hQ SE;go_region
      go_wp2;refine bodyPost_ret (Qo rfl rfl rfl FN.o.1.drew) rfl ?_
      exact ⟨⟨_,_,rfl,fun _=>SQ.o,fun h=>(by cases h)⟩,Qj FN.o.2 1⟩
     ·have dq:((Q:Int) == (xs.length:Int))=false:=by rw [beq_eq_false_iff_ne];omega
      have SQ:=Lv (SE.o.2 (by rw [decide_eq_false hQ];rfl));clear hQ SE;go_region
      go_wp2;refine bodyPost_ret (Qo rfl rfl rfl FN.o.1.drew) rfl ?_
      exact ⟨⟨_,_,rfl,fun h=>(by cases h),fun _=>SQ.o⟩,Qj FN.o.2 1⟩
  by_cases h2:K=2
  ·subst h2
   rw [if_neg (by decide),if_pos rfl] at SK;have f1:=Tw4.out.ex.fz;have gl5:=Tw4.out.ex.lt;obtain ⟨k0,k1,k2,k3,k4,k5,k6⟩:=Tw4.out.ex.c;go_upto_region 13 with fail;have Tw4z0:=Lv (Tw4.out.set (Qx (i:=1) (Qq _ (some gx)) (.int .i64 2)) (Tw4.out.ex.kind 2));obtain ⟨w4e,hwe⟩:∃ we,(w4.setCell ⟨gx,1,none⟩ (.int .i64 2))=we:=⟨_,rfl⟩
   rw [hwe] at Tw4z0
   (try rw [hwe])
   have Tw4e:=Lv Tw4z0.o;clear hwe f1 gl5 k0 k1 k2 k3 k4 k5 k6;have S1:=Lv (Kh xs s1);go_wp2_with fail;refine (Z8 Tw4e.o.rd).mono ?_
   rintro e w5 ⟨rfl,hp,hg⟩;have Tw5:=Lv (Tw4e.o.call hp hg);clear hp hg Tw4e;obtain ⟨V,hV⟩:∃ z,z=(ulR xs s1).1:=⟨_,rfl⟩
   obtain ⟨s2,hs2⟩:∃ z,z=(ulR xs s1).2:=⟨_,rfl⟩
   rw [← hV,← hs2] at S1;rw [← hs2] at Tw5;rw [← hV];clear hV hs2;have f1:=Tw5.o.ex.fz;have gl5:=Tw5.o.ex.lt;obtain ⟨k0,k1,k2,k3,k4,k5,k6⟩:=Tw5.o.ex.c;go_upto_region 22 with fail;have Tw5z0:=Lv (Tw5.o.set (Qx (i:=3) (Qq _ (some gx)) (.int .u64 V)) (Tw5.o.ex.value V));obtain ⟨w5e,hwe⟩:∃ we,(w5.setCell ⟨gx,3,none⟩ (.int .u64 V))=we:=⟨_,rfl⟩
   rw [hwe] at Tw5z0
   (try rw [hwe])
   have Tw5e:=Lv Tw5z0.o;clear hwe f1 gl5 k0 k1 k2 k3 k4 k5 k6;have SX:=Lv (show Sim sayP xs (0,false) (⟨2,true,V,0,0,[]⟩:Ex) s2 from Sim.B S0.o (by rw [SK.o];exact Sim.B S1.o (Sim.R _ _)));have SE:=Lv (Bd SX.o);obtain ⟨Q,bd⟩:=s2;simp only [] at SE;obtain ⟨i0,i1,i2⟩:=And.intro Tw5e.o.rd.c0 (And.intro Tw5e.o.rd.c1 Tw5e.o.rd.c2);obtain ⟨c0,c1,c2,c3,c4,c5,c6⟩:=Tw5e.o.ex.c
   obtain ⟨d0,d1,d2,d3,d4,d5,d6⟩:=Tw5e.o.res.c;have f:=Tw5e.o.res.fz;have rl:=Tw5e.o.res.lt;have xl:=Tw5e.o.ex.lt;have n01:=Tw5e.o.n01;have n0g:=Tw5e.o.n0g;simp only [] at i1 i2 c0 c1 c2 c3 c4 c5 c6 d0 d1 d2 d3 d4 d5 d6;have FN:=Lv (Tw5e.o.fin ⟨2,true,V,0,0,[]⟩);simp only [] at FN;cases bd with
   | true =>
     go_region
     go_wp2;refine bodyPost_ret (Qo rfl rfl rfl FN.o.1.drew) rfl ?_
     exact ⟨⟨_,_,rfl,fun h=>(by cases h),fun _=>SE.o.2 rfl⟩,Qj FN.o.2 1⟩
   | false =>
     by_cases hQ:Q=xs.length
     ·have dq:((Q:Int) == (xs.length:Int))=true:=by rw [hQ];simp
      have SQ:=Lv (SE.o.1 (by rw [decide_eq_true hQ];rfl));clear hQ SE;go_region
      go_wp2;refine bodyPost_ret (Qo rfl rfl rfl FN.o.1.drew) rfl ?_
      exact ⟨⟨_,_,rfl,fun _=>SQ.o,fun h=>(by cases h)⟩,Qj FN.o.2 1⟩
     ·have dq:((Q:Int) == (xs.length:Int))=false:=by rw [beq_eq_false_iff_ne];omega
      have SQ:=Lv (SE.o.2 (by rw [decide_eq_false hQ];rfl));clear hQ SE;go_region
      go_wp2;refine bodyPost_ret (Qo rfl rfl rfl FN.o.1.drew) rfl ?_
      exact ⟨⟨_,_,rfl,fun h=>(by cases h),fun _=>SQ.o⟩,Qj FN.o.2 1⟩
  by_cases h8:K=8
  ·subst h8
   rw [if_neg (by decide),if_neg (by decide),if_pos rfl] at SK;have f1:=Tw4.out.ex.fz;have gl5:=Tw4.out.ex.lt;obtain ⟨k0,k1,k2,k3,k4,k5,k6⟩:=Tw4.out.ex.c;go_upto_region 16 with fail;have Tw4z0:=Lv (Tw4.out.set (Qx (i:=1) (Qq _ (some gx)) (.int .i64 3)) (Tw4.out.ex.kind 3));obtain ⟨w4e,hwe⟩:∃ we,(w4.setCell ⟨gx,1,none⟩ (.int .i64 3))=we:=⟨_,rfl⟩
   rw [hwe] at Tw4z0
   (try rw [hwe])
   have Tw4e:=Lv Tw4z0.o;clear hwe f1 gl5 k0 k1 k2 k3 k4 k5 k6;have S1:=Lv (Kh xs s1);go_wp2_with fail;refine (Z8 Tw4e.o.rd).mono ?_
   rintro e w5 ⟨rfl,hp,hg⟩;have Tw5:=Lv (Tw4e.o.call hp hg);clear hp hg Tw4e;obtain ⟨V,hV⟩:∃ z,z=(ulR xs s1).1:=⟨_,rfl⟩
   obtain ⟨s2,hs2⟩:∃ z,z=(ulR xs s1).2:=⟨_,rfl⟩
   rw [← hV,← hs2] at S1;rw [← hs2] at Tw5;rw [← hV];clear hV hs2;have f1:=Tw5.o.ex.fz;have gl5:=Tw5.o.ex.lt;obtain ⟨k0,k1,k2,k3,k4,k5,k6⟩:=Tw5.o.ex.c;go_upto_region 17 with fail;have Tw5z0:=Lv (Tw5.o.set (Qx (i:=5) (Qq _ (some gx)) (.int .u64 V)) (Tw5.o.ex.ordinal V));obtain ⟨w5e,hwe⟩:∃ we,(w5.setCell ⟨gx,5,none⟩ (.int .u64 V))=we:=⟨_,rfl⟩
   rw [hwe] at Tw5z0
   (try rw [hwe])
   have Tw5e:=Lv Tw5z0.o;clear hwe f1 gl5 k0 k1 k2 k3 k4 k5 k6;have S2:=Lv (Tu xs s2);go_wp2_with fail;refine (Wm Tw5e.o.rd).mono ?_
   rintro e w6 ⟨rfl,hp,hg⟩;have Tw6:=Lv (Tw5e.o.call hp hg);clear hp hg Tw5e;obtain ⟨T,hV⟩:∃ z,z=(txR xs s2).1:=⟨_,rfl⟩
   obtain ⟨s3,hs2⟩:∃ z,z=(txR xs s2).2:=⟨_,rfl⟩
   rw [← hV,← hs2] at S2;rw [← hs2] at Tw6;rw [← hV];clear hV hs2;have f1:=Tw6.o.ex.fz;have gl5:=Tw6.o.ex.lt;obtain ⟨k0,k1,k2,k3,k4,k5,k6⟩:=Tw6.o.ex.c;go_upto_region 22 with fail;have Tw6z0:=Lv (Tw6.o.set (Qx (i:=6) (Qq _ (some gx)) (.string (strOfNums T))) (Tw6.o.ex.other T));obtain ⟨w6e,hwe⟩:∃ we,(w6.setCell ⟨gx,6,none⟩ (.string (strOfNums T)))=we:=⟨_,rfl⟩
   rw [hwe] at Tw6z0
   (try rw [hwe])
   have Tw6e:=Lv Tw6z0.o;clear hwe f1 gl5 k0 k1 k2 k3 k4 k5 k6;have SX:=Lv (show Sim sayP xs (0,false) (⟨3,true,0,0,V,T⟩:Ex) s3 from Sim.B S0.o (by rw [SK.o];exact Sim.B S1.o (Sim.B S2.o (Sim.R _ _))));have SE:=Lv (Bd SX.o);obtain ⟨Q,bd⟩:=s3;simp only [] at SE;obtain ⟨i0,i1,i2⟩:=And.intro Tw6e.o.rd.c0 (And.intro Tw6e.o.rd.c1 Tw6e.o.rd.c2);obtain ⟨c0,c1,c2,c3,c4,c5,c6⟩:=Tw6e.o.ex.c
   obtain ⟨d0,d1,d2,d3,d4,d5,d6⟩:=Tw6e.o.res.c;have f:=Tw6e.o.res.fz;have rl:=Tw6e.o.res.lt;have xl:=Tw6e.o.ex.lt;have n01:=Tw6e.o.n01;have n0g:=Tw6e.o.n0g;simp only [] at i1 i2 c0 c1 c2 c3 c4 c5 c6 d0 d1 d2 d3 d4 d5 d6;have FN:=Lv (Tw6e.o.fin ⟨3,true,0,0,V,T⟩);simp only [] at FN;cases bd with
   | true =>
     go_region
     go_wp2;refine bodyPost_ret (Qo rfl rfl rfl FN.o.1.drew) rfl ?_
     exact ⟨⟨_,_,rfl,fun h=>(by cases h),fun _=>SE.o.2 rfl⟩,Qj FN.o.2 1⟩
   | false =>
     by_cases hQ:Q=xs.length
     ·have dq:((Q:Int) == (xs.length:Int))=true:=by rw [hQ];simp
      have SQ:=Lv (SE.o.1 (by rw [decide_eq_true hQ];rfl));clear hQ SE;go_region
      go_wp2;refine bodyPost_ret (Qo rfl rfl rfl FN.o.1.drew) rfl ?_
      exact ⟨⟨_,_,rfl,fun _=>SQ.o,fun h=>(by cases h)⟩,Qj FN.o.2 1⟩
     ·have dq:((Q:Int) == (xs.length:Int))=false:=by rw [beq_eq_false_iff_ne];omega
      have SQ:=Lv (SE.o.2 (by rw [decide_eq_false hQ];rfl));clear hQ SE;go_region
      go_wp2;refine bodyPost_ret (Qo rfl rfl rfl FN.o.1.drew) rfl ?_
      exact ⟨⟨_,_,rfl,fun h=>(by cases h),fun _=>SQ.o⟩,Qj FN.o.2 1⟩
  by_cases h16:K=16
  ·subst h16
   rw [if_neg (by decide),if_neg (by decide),if_neg (by decide),if_pos rfl] at SK;have f1:=Tw4.out.ex.fz;have gl5:=Tw4.out.ex.lt;obtain ⟨k0,k1,k2,k3,k4,k5,k6⟩:=Tw4.out.ex.c;go_upto_region 20 with fail;have Tw4z0:=Lv (Tw4.out.set (Qx (i:=1) (Qq _ (some gx)) (.int .i64 4)) (Tw4.out.ex.kind 4));obtain ⟨w4e,hwe⟩:∃ we,(w4.setCell ⟨gx,1,none⟩ (.int .i64 4))=we:=⟨_,rfl⟩
   rw [hwe] at Tw4z0
   (try rw [hwe])
   have Tw4e:=Lv Tw4z0.o;clear hwe f1 gl5 k0 k1 k2 k3 k4 k5 k6;have S1:=Lv (Kh xs s1);go_wp2_with fail;refine (Z8 Tw4e.o.rd).mono ?_
   rintro e w5 ⟨rfl,hp,hg⟩;have Tw5:=Lv (Tw4e.o.call hp hg);clear hp hg Tw4e;obtain ⟨V,hV⟩:∃ z,z=(ulR xs s1).1:=⟨_,rfl⟩
   obtain ⟨s2,hs2⟩:∃ z,z=(ulR xs s1).2:=⟨_,rfl⟩
   rw [← hV,← hs2] at S1;rw [← hs2] at Tw5;rw [← hV];clear hV hs2;have f1:=Tw5.o.ex.fz;have gl5:=Tw5.o.ex.lt;obtain ⟨k0,k1,k2,k3,k4,k5,k6⟩:=Tw5.o.ex.c;go_upto_region 21 with fail;have Tw5z0:=Lv (Tw5.o.set (Qx (i:=3) (Qq _ (some gx)) (.int .u64 V)) (Tw5.o.ex.value V));obtain ⟨w5e,hwe⟩:∃ we,(w5.setCell ⟨gx,3,none⟩ (.int .u64 V))=we:=⟨_,rfl⟩
   rw [hwe] at Tw5z0
   (try rw [hwe])
   have Tw5e:=Lv Tw5z0.o;clear hwe f1 gl5 k0 k1 k2 k3 k4 k5 k6;have S2:=Lv (Kh xs s2);go_wp2_with fail;refine (Z8 Tw5e.o.rd).mono ?_
   rintro e w6 ⟨rfl,hp,hg⟩;have Tw6:=Lv (Tw5e.o.call hp hg);clear hp hg Tw5e;obtain ⟨R,hV⟩:∃ z,z=(ulR xs s2).1:=⟨_,rfl⟩
   obtain ⟨s3,hs2⟩:∃ z,z=(ulR xs s2).2:=⟨_,rfl⟩
   rw [← hV,← hs2] at S2;rw [← hs2] at Tw6;rw [← hV];clear hV hs2;have f1:=Tw6.o.ex.fz;have gl5:=Tw6.o.ex.lt;obtain ⟨k0,k1,k2,k3,k4,k5,k6⟩:=Tw6.o.ex.c;go_upto_region 22 with fail;have Tw6z0:=Lv (Tw6.o.set (Qx (i:=4) (Qq _ (some gx)) (.int .u64 R)) (Tw6.o.ex.resolver R));obtain ⟨w6e,hwe⟩:∃ we,(w6.setCell ⟨gx,4,none⟩ (.int .u64 R))=we:=⟨_,rfl⟩
   rw [hwe] at Tw6z0
   (try rw [hwe])
   have Tw6e:=Lv Tw6z0.o;clear hwe f1 gl5 k0 k1 k2 k3 k4 k5 k6;have SX:=Lv (show Sim sayP xs (0,false) (⟨4,true,V,R,0,[]⟩:Ex) s3 from Sim.B S0.o (by rw [SK.o];exact Sim.B S1.o (Sim.B S2.o (Sim.R _ _))));have SE:=Lv (Bd SX.o);obtain ⟨Q,bd⟩:=s3;simp only [] at SE;obtain ⟨i0,i1,i2⟩:=And.intro Tw6e.o.rd.c0 (And.intro Tw6e.o.rd.c1 Tw6e.o.rd.c2);obtain ⟨c0,c1,c2,c3,c4,c5,c6⟩:=Tw6e.o.ex.c
   obtain ⟨d0,d1,d2,d3,d4,d5,d6⟩:=Tw6e.o.res.c;have f:=Tw6e.o.res.fz;have rl:=Tw6e.o.res.lt;have xl:=Tw6e.o.ex.lt;have n01:=Tw6e.o.n01;have n0g:=Tw6e.o.n0g;simp only [] at i1 i2 c0 c1 c2 c3 c4 c5 c6 d0 d1 d2 d3 d4 d5 d6;have FN:=Lv (Tw6e.o.fin ⟨4,true,V,R,0,[]⟩);simp only [] at FN;cases bd with
   | true =>
     go_region
     go_wp2;refine bodyPost_ret (Qo rfl rfl rfl FN.o.1.drew) rfl ?_
     exact ⟨⟨_,_,rfl,fun h=>(by cases h),fun _=>SE.o.2 rfl⟩,Qj FN.o.2 1⟩
   | false =>
     by_cases hQ:Q=xs.length
     ·have dq:((Q:Int) == (xs.length:Int))=true:=by rw [hQ];simp
      have SQ:=Lv (SE.o.1 (by rw [decide_eq_true hQ];rfl));clear hQ SE;go_region
      go_wp2;refine bodyPost_ret (Qo rfl rfl rfl FN.o.1.drew) rfl ?_
      exact ⟨⟨_,_,rfl,fun _=>SQ.o,fun h=>(by cases h)⟩,Qj FN.o.2 1⟩
     ·have dq:((Q:Int) == (xs.length:Int))=false:=by rw [beq_eq_false_iff_ne];omega
      have SQ:=Lv (SE.o.2 (by rw [decide_eq_false hQ];rfl));clear hQ SE;go_region
      go_wp2;refine bodyPost_ret (Qo rfl rfl rfl FN.o.1.drew) rfl ?_
      exact ⟨⟨_,_,rfl,fun h=>(by cases h),fun _=>SQ.o⟩,Qj FN.o.2 1⟩
  rw [if_neg h0,if_neg h2,if_neg h8,if_neg h16] at SK;have b0:(K == 0)=false:=by simpa using h0
  have b2:(K == 2)=false:=by simpa using h2
  have b8:(K == 8)=false:=by simpa using h8
  have b16:(K == 16)=false:=by simpa using h16
  obtain ⟨d0,d1,d2,d3,d4,d5,d6⟩:=Tw4.out.res.c;have f:=Tw4.out.res.fz;have rl:=Tw4.out.res.lt;have FN:=Lv (Tw4.out.fin Ex.zero);have NO:=Lv (fun y (hy:sayP xs=some (y,xs.length))=>(show False by
   obtain ⟨v,m,m',q1,q2,-⟩:=Xf hy;have q3:=S0.o;rcases hb:s1.2 with _ | _
   · have q4:=(q3.ok hb).2
     rw [List.drop_zero,q1] at q4;injection q4 with q4;injection q4 with q4 _;rw [q4,SK.o] at q2;cases q2
   · have:=q3.no rfl hb
     rw [List.drop_zero,q1] at this;cases this))
  go_wp2;refine bodyPost_ret (Qo rfl rfl rfl FN.o.1) rfl ?_
  exact ⟨⟨_,_,rfl,fun h=>(by cases h),fun _=>NO.o⟩,FN.o.2⟩
 | false =>
  obtain rfl:=KF.o.2 rfl;go_upto_region 6 with fail;have Tw4:=T4;by_cases h0:F=0
  ·subst h0
   rw [if_pos rfl] at SK;have f1:=Tw4.out.ex.fz;have gl5:=Tw4.out.ex.lt;obtain ⟨k0,k1,k2,k3,k4,k5,k6⟩:=Tw4.out.ex.c;go_upto_region 10 with fail;have Tw4z0:=Lv (Tw4.out.set (Qx (i:=1) (Qq _ (some gx)) (.int .i64 1)) (Tw4.out.ex.kind 1));obtain ⟨w4e,hwe⟩:∃ we,(w4.setCell ⟨gx,1,none⟩ (.int .i64 1))=we:=⟨_,rfl⟩
   rw [hwe] at Tw4z0
   (try rw [hwe])
   have Tw4e:=Lv Tw4z0.o;clear hwe f1 gl5 k0 k1 k2 k3 k4 k5 k6;have S1:=Lv (Kh xs s1);go_wp2_with fail;refine (Z8 Tw4e.o.rd).mono ?_
   rintro e w5 ⟨rfl,hp,hg⟩;have Tw5:=Lv (Tw4e.o.call hp hg);clear hp hg Tw4e;obtain ⟨V,hV⟩:∃ z,z=(ulR xs s1).1:=⟨_,rfl⟩
   obtain ⟨s2,hs2⟩:∃ z,z=(ulR xs s1).2:=⟨_,rfl⟩
   rw [← hV,← hs2] at S1;rw [← hs2] at Tw5;rw [← hV];clear hV hs2;have f1:=Tw5.o.ex.fz;have gl5:=Tw5.o.ex.lt;obtain ⟨k0,k1,k2,k3,k4,k5,k6⟩:=Tw5.o.ex.c;go_upto_region 22 with fail;have Tw5z0:=Lv (Tw5.o.set (Qx (i:=3) (Qq _ (some gx)) (.int .u64 V)) (Tw5.o.ex.value V));obtain ⟨w5e,hwe⟩:∃ we,(w5.setCell ⟨gx,3,none⟩ (.int .u64 V))=we:=⟨_,rfl⟩
   rw [hwe] at Tw5z0
   (try rw [hwe])
   have Tw5e:=Lv Tw5z0.o;clear hwe f1 gl5 k0 k1 k2 k3 k4 k5 k6;have SX:=Lv (show Sim sayP xs (0,false) (⟨1,false,V,0,0,[]⟩:Ex) s2 from Sim.B S0.o (by rw [SK.o];exact Sim.B S1.o (Sim.R _ _)));have SE:=Lv (Bd SX.o);obtain ⟨Q,bd⟩:=s2;simp only [] at SE;obtain ⟨i0,i1,i2⟩:=And.intro Tw5e.o.rd.c0 (And.intro Tw5e.o.rd.c1 Tw5e.o.rd.c2);obtain ⟨c0,c1,c2,c3,c4,c5,c6⟩:=Tw5e.o.ex.c
   obtain ⟨d0,d1,d2,d3,d4,d5,d6⟩:=Tw5e.o.res.c;have f:=Tw5e.o.res.fz;have rl:=Tw5e.o.res.lt;have xl:=Tw5e.o.ex.lt;have n01:=Tw5e.o.n01;have n0g:=Tw5e.o.n0g;simp only [] at i1 i2 c0 c1 c2 c3 c4 c5 c6 d0 d1 d2 d3 d4 d5 d6;have FN:=Lv (Tw5e.o.fin ⟨1,false,V,0,0,[]⟩);simp only [] at FN;cases bd with
   | true =>
     go_region
     go_wp2;refine bodyPost_ret (Qo rfl rfl rfl FN.o.1.drew) rfl ?_
     exact ⟨⟨_,_,rfl,fun h=>(by cases h),fun _=>SE.o.2 rfl⟩,Qj FN.o.2 1⟩
   | false =>
     by_cases hQ:Q=xs.length
     ·have dq:((Q:Int) == (xs.length:Int))=true:=by rw [hQ];simp
      have SQ:=Lv (SE.o.1 (by rw [decide_eq_true hQ];rfl));clear hQ SE;go_region
      go_wp2;refine bodyPost_ret (Qo rfl rfl rfl FN.o.1.drew) rfl ?_
      exact ⟨⟨_,_,rfl,fun _=>SQ.o,fun h=>(by cases h)⟩,Qj FN.o.2 1⟩
     ·have dq:((Q:Int) == (xs.length:Int))=false:=by rw [beq_eq_false_iff_ne];omega
      have SQ:=Lv (SE.o.2 (by rw [decide_eq_false hQ];rfl));clear hQ SE;go_region
      go_wp2;refine bodyPost_ret (Qo rfl rfl rfl FN.o.1.drew) rfl ?_
      exact ⟨⟨_,_,rfl,fun h=>(by cases h),fun _=>SQ.o⟩,Qj FN.o.2 1⟩
  by_cases h2:F=2
  ·subst h2
   rw [if_neg (by decide),if_pos rfl] at SK;have f1:=Tw4.out.ex.fz;have gl5:=Tw4.out.ex.lt;obtain ⟨k0,k1,k2,k3,k4,k5,k6⟩:=Tw4.out.ex.c;go_upto_region 13 with fail;have Tw4z0:=Lv (Tw4.out.set (Qx (i:=1) (Qq _ (some gx)) (.int .i64 2)) (Tw4.out.ex.kind 2));obtain ⟨w4e,hwe⟩:∃ we,(w4.setCell ⟨gx,1,none⟩ (.int .i64 2))=we:=⟨_,rfl⟩
   rw [hwe] at Tw4z0
   (try rw [hwe])
   have Tw4e:=Lv Tw4z0.o;clear hwe f1 gl5 k0 k1 k2 k3 k4 k5 k6;have S1:=Lv (Kh xs s1);go_wp2_with fail;refine (Z8 Tw4e.o.rd).mono ?_
   rintro e w5 ⟨rfl,hp,hg⟩;have Tw5:=Lv (Tw4e.o.call hp hg);clear hp hg Tw4e;obtain ⟨V,hV⟩:∃ z,z=(ulR xs s1).1:=⟨_,rfl⟩
   obtain ⟨s2,hs2⟩:∃ z,z=(ulR xs s1).2:=⟨_,rfl⟩
   rw [← hV,← hs2] at S1;rw [← hs2] at Tw5;rw [← hV];clear hV hs2;have f1:=Tw5.o.ex.fz;have gl5:=Tw5.o.ex.lt;obtain ⟨k0,k1,k2,k3,k4,k5,k6⟩:=Tw5.o.ex.c;go_upto_region 22 with fail;have Tw5z0:=Lv (Tw5.o.set (Qx (i:=3) (Qq _ (some gx)) (.int .u64 V)) (Tw5.o.ex.value V));obtain ⟨w5e,hwe⟩:∃ we,(w5.setCell ⟨gx,3,none⟩ (.int .u64 V))=we:=⟨_,rfl⟩
   rw [hwe] at Tw5z0
   (try rw [hwe])
   have Tw5e:=Lv Tw5z0.o;clear hwe f1 gl5 k0 k1 k2 k3 k4 k5 k6;have SX:=Lv (show Sim sayP xs (0,false) (⟨2,false,V,0,0,[]⟩:Ex) s2 from Sim.B S0.o (by rw [SK.o];exact Sim.B S1.o (Sim.R _ _)));have SE:=Lv (Bd SX.o);obtain ⟨Q,bd⟩:=s2;simp only [] at SE;obtain ⟨i0,i1,i2⟩:=And.intro Tw5e.o.rd.c0 (And.intro Tw5e.o.rd.c1 Tw5e.o.rd.c2);obtain ⟨c0,c1,c2,c3,c4,c5,c6⟩:=Tw5e.o.ex.c
   obtain ⟨d0,d1,d2,d3,d4,d5,d6⟩:=Tw5e.o.res.c;have f:=Tw5e.o.res.fz;have rl:=Tw5e.o.res.lt;have xl:=Tw5e.o.ex.lt;have n01:=Tw5e.o.n01;have n0g:=Tw5e.o.n0g;simp only [] at i1 i2 c0 c1 c2 c3 c4 c5 c6 d0 d1 d2 d3 d4 d5 d6;have FN:=Lv (Tw5e.o.fin ⟨2,false,V,0,0,[]⟩);simp only [] at FN;cases bd with
   | true =>
     go_region
     go_wp2;refine bodyPost_ret (Qo rfl rfl rfl FN.o.1.drew) rfl ?_
     exact ⟨⟨_,_,rfl,fun h=>(by cases h),fun _=>SE.o.2 rfl⟩,Qj FN.o.2 1⟩
   | false =>
     by_cases hQ:Q=xs.length
     ·have dq:((Q:Int) == (xs.length:Int))=true:=by rw [hQ];simp
      have SQ:=Lv (SE.o.1 (by rw [decide_eq_true hQ];rfl));clear hQ SE;go_region
      go_wp2;refine bodyPost_ret (Qo rfl rfl rfl FN.o.1.drew) rfl ?_
      exact ⟨⟨_,_,rfl,fun _=>SQ.o,fun h=>(by cases h)⟩,Qj FN.o.2 1⟩
     ·have dq:((Q:Int) == (xs.length:Int))=false:=by rw [beq_eq_false_iff_ne];omega
      have SQ:=Lv (SE.o.2 (by rw [decide_eq_false hQ];rfl));clear hQ SE;go_region
      go_wp2;refine bodyPost_ret (Qo rfl rfl rfl FN.o.1.drew) rfl ?_
      exact ⟨⟨_,_,rfl,fun h=>(by cases h),fun _=>SQ.o⟩,Qj FN.o.2 1⟩
  by_cases h8:F=8
  ·subst h8
   rw [if_neg (by decide),if_neg (by decide),if_pos rfl] at SK;have f1:=Tw4.out.ex.fz;have gl5:=Tw4.out.ex.lt;obtain ⟨k0,k1,k2,k3,k4,k5,k6⟩:=Tw4.out.ex.c;go_upto_region 16 with fail;have Tw4z0:=Lv (Tw4.out.set (Qx (i:=1) (Qq _ (some gx)) (.int .i64 3)) (Tw4.out.ex.kind 3));obtain ⟨w4e,hwe⟩:∃ we,(w4.setCell ⟨gx,1,none⟩ (.int .i64 3))=we:=⟨_,rfl⟩
   rw [hwe] at Tw4z0
   (try rw [hwe])
   have Tw4e:=Lv Tw4z0.o;clear hwe f1 gl5 k0 k1 k2 k3 k4 k5 k6;have S1:=Lv (Kh xs s1);go_wp2_with fail;refine (Z8 Tw4e.o.rd).mono ?_
   rintro e w5 ⟨rfl,hp,hg⟩;have Tw5:=Lv (Tw4e.o.call hp hg);clear hp hg Tw4e;obtain ⟨V,hV⟩:∃ z,z=(ulR xs s1).1:=⟨_,rfl⟩
   obtain ⟨s2,hs2⟩:∃ z,z=(ulR xs s1).2:=⟨_,rfl⟩
   rw [← hV,← hs2] at S1;rw [← hs2] at Tw5;rw [← hV];clear hV hs2;have f1:=Tw5.o.ex.fz;have gl5:=Tw5.o.ex.lt;obtain ⟨k0,k1,k2,k3,k4,k5,k6⟩:=Tw5.o.ex.c;go_upto_region 17 with fail;have Tw5z0:=Lv (Tw5.o.set (Qx (i:=5) (Qq _ (some gx)) (.int .u64 V)) (Tw5.o.ex.ordinal V));obtain ⟨w5e,hwe⟩:∃ we,(w5.setCell ⟨gx,5,none⟩ (.int .u64 V))=we:=⟨_,rfl⟩
   rw [hwe] at Tw5z0
   (try rw [hwe])
   have Tw5e:=Lv Tw5z0.o;clear hwe f1 gl5 k0 k1 k2 k3 k4 k5 k6;have S2:=Lv (Tu xs s2);go_wp2_with fail;refine (Wm Tw5e.o.rd).mono ?_
   rintro e w6 ⟨rfl,hp,hg⟩;have Tw6:=Lv (Tw5e.o.call hp hg);clear hp hg Tw5e;obtain ⟨T,hV⟩:∃ z,z=(txR xs s2).1:=⟨_,rfl⟩
   obtain ⟨s3,hs2⟩:∃ z,z=(txR xs s2).2:=⟨_,rfl⟩
   rw [← hV,← hs2] at S2;rw [← hs2] at Tw6;rw [← hV];clear hV hs2;have f1:=Tw6.o.ex.fz;have gl5:=Tw6.o.ex.lt;obtain ⟨k0,k1,k2,k3,k4,k5,k6⟩:=Tw6.o.ex.c;go_upto_region 22 with fail;have Tw6z0:=Lv (Tw6.o.set (Qx (i:=6) (Qq _ (some gx)) (.string (strOfNums T))) (Tw6.o.ex.other T));obtain ⟨w6e,hwe⟩:∃ we,(w6.setCell ⟨gx,6,none⟩ (.string (strOfNums T)))=we:=⟨_,rfl⟩
   rw [hwe] at Tw6z0
   (try rw [hwe])
   have Tw6e:=Lv Tw6z0.o;clear hwe f1 gl5 k0 k1 k2 k3 k4 k5 k6;have SX:=Lv (show Sim sayP xs (0,false) (⟨3,false,0,0,V,T⟩:Ex) s3 from Sim.B S0.o (by rw [SK.o];exact Sim.B S1.o (Sim.B S2.o (Sim.R _ _))));have SE:=Lv (Bd SX.o);obtain ⟨Q,bd⟩:=s3;simp only [] at SE;obtain ⟨i0,i1,i2⟩:=And.intro Tw6e.o.rd.c0 (And.intro Tw6e.o.rd.c1 Tw6e.o.rd.c2);obtain ⟨c0,c1,c2,c3,c4,c5,c6⟩:=Tw6e.o.ex.c
   obtain ⟨d0,d1,d2,d3,d4,d5,d6⟩:=Tw6e.o.res.c;have f:=Tw6e.o.res.fz;have rl:=Tw6e.o.res.lt;have xl:=Tw6e.o.ex.lt;have n01:=Tw6e.o.n01;have n0g:=Tw6e.o.n0g;simp only [] at i1 i2 c0 c1 c2 c3 c4 c5 c6 d0 d1 d2 d3 d4 d5 d6;have FN:=Lv (Tw6e.o.fin ⟨3,false,0,0,V,T⟩);simp only [] at FN;cases bd with
   | true =>
     go_region
     go_wp2;refine bodyPost_ret (Qo rfl rfl rfl FN.o.1.drew) rfl ?_
     exact ⟨⟨_,_,rfl,fun h=>(by cases h),fun _=>SE.o.2 rfl⟩,Qj FN.o.2 1⟩
   | false =>
     by_cases hQ:Q=xs.length
     ·have dq:((Q:Int) == (xs.length:Int))=true:=by rw [hQ];simp
      have SQ:=Lv (SE.o.1 (by rw [decide_eq_true hQ];rfl));clear hQ SE;go_region
      go_wp2;refine bodyPost_ret (Qo rfl rfl rfl FN.o.1.drew) rfl ?_
      exact ⟨⟨_,_,rfl,fun _=>SQ.o,fun h=>(by cases h)⟩,Qj FN.o.2 1⟩
     ·have dq:((Q:Int) == (xs.length:Int))=false:=by rw [beq_eq_false_iff_ne];omega
      have SQ:=Lv (SE.o.2 (by rw [decide_eq_false hQ];rfl));clear hQ SE;go_region
      go_wp2;refine bodyPost_ret (Qo rfl rfl rfl FN.o.1.drew) rfl ?_
      exact ⟨⟨_,_,rfl,fun h=>(by cases h),fun _=>SQ.o⟩,Qj FN.o.2 1⟩
  by_cases h16:F=16
  ·subst h16
   rw [if_neg (by decide),if_neg (by decide),if_neg (by decide),if_pos rfl] at SK;have f1:=Tw4.out.ex.fz;have gl5:=Tw4.out.ex.lt;obtain ⟨k0,k1,k2,k3,k4,k5,k6⟩:=Tw4.out.ex.c;go_upto_region 20 with fail;have Tw4z0:=Lv (Tw4.out.set (Qx (i:=1) (Qq _ (some gx)) (.int .i64 4)) (Tw4.out.ex.kind 4));obtain ⟨w4e,hwe⟩:∃ we,(w4.setCell ⟨gx,1,none⟩ (.int .i64 4))=we:=⟨_,rfl⟩
   rw [hwe] at Tw4z0
   (try rw [hwe])
   have Tw4e:=Lv Tw4z0.o;clear hwe f1 gl5 k0 k1 k2 k3 k4 k5 k6;have S1:=Lv (Kh xs s1);go_wp2_with fail;refine (Z8 Tw4e.o.rd).mono ?_
   rintro e w5 ⟨rfl,hp,hg⟩;have Tw5:=Lv (Tw4e.o.call hp hg);clear hp hg Tw4e;obtain ⟨V,hV⟩:∃ z,z=(ulR xs s1).1:=⟨_,rfl⟩
   obtain ⟨s2,hs2⟩:∃ z,z=(ulR xs s1).2:=⟨_,rfl⟩
   rw [← hV,← hs2] at S1;rw [← hs2] at Tw5;rw [← hV];clear hV hs2;have f1:=Tw5.o.ex.fz;have gl5:=Tw5.o.ex.lt;obtain ⟨k0,k1,k2,k3,k4,k5,k6⟩:=Tw5.o.ex.c;go_upto_region 21 with fail;have Tw5z0:=Lv (Tw5.o.set (Qx (i:=3) (Qq _ (some gx)) (.int .u64 V)) (Tw5.o.ex.value V));obtain ⟨w5e,hwe⟩:∃ we,(w5.setCell ⟨gx,3,none⟩ (.int .u64 V))=we:=⟨_,rfl⟩
   rw [hwe] at Tw5z0
   (try rw [hwe])
   have Tw5e:=Lv Tw5z0.o;clear hwe f1 gl5 k0 k1 k2 k3 k4 k5 k6;have S2:=Lv (Kh xs s2);go_wp2_with fail;refine (Z8 Tw5e.o.rd).mono ?_
   rintro e w6 ⟨rfl,hp,hg⟩;have Tw6:=Lv (Tw5e.o.call hp hg);clear hp hg Tw5e;obtain ⟨R,hV⟩:∃ z,z=(ulR xs s2).1:=⟨_,rfl⟩
   obtain ⟨s3,hs2⟩:∃ z,z=(ulR xs s2).2:=⟨_,rfl⟩
   rw [← hV,← hs2] at S2;rw [← hs2] at Tw6;rw [← hV];clear hV hs2;have f1:=Tw6.o.ex.fz;have gl5:=Tw6.o.ex.lt;obtain ⟨k0,k1,k2,k3,k4,k5,k6⟩:=Tw6.o.ex.c;go_upto_region 22 with fail;have Tw6z0:=Lv (Tw6.o.set (Qx (i:=4) (Qq _ (some gx)) (.int .u64 R)) (Tw6.o.ex.resolver R));obtain ⟨w6e,hwe⟩:∃ we,(w6.setCell ⟨gx,4,none⟩ (.int .u64 R))=we:=⟨_,rfl⟩
   rw [hwe] at Tw6z0
   (try rw [hwe])
   have Tw6e:=Lv Tw6z0.o;clear hwe f1 gl5 k0 k1 k2 k3 k4 k5 k6;have SX:=Lv (show Sim sayP xs (0,false) (⟨4,false,V,R,0,[]⟩:Ex) s3 from Sim.B S0.o (by rw [SK.o];exact Sim.B S1.o (Sim.B S2.o (Sim.R _ _))));have SE:=Lv (Bd SX.o);obtain ⟨Q,bd⟩:=s3;simp only [] at SE;obtain ⟨i0,i1,i2⟩:=And.intro Tw6e.o.rd.c0 (And.intro Tw6e.o.rd.c1 Tw6e.o.rd.c2);obtain ⟨c0,c1,c2,c3,c4,c5,c6⟩:=Tw6e.o.ex.c
   obtain ⟨d0,d1,d2,d3,d4,d5,d6⟩:=Tw6e.o.res.c;have f:=Tw6e.o.res.fz;have rl:=Tw6e.o.res.lt;have xl:=Tw6e.o.ex.lt;have n01:=Tw6e.o.n01;have n0g:=Tw6e.o.n0g;simp only [] at i1 i2 c0 c1 c2 c3 c4 c5 c6 d0 d1 d2 d3 d4 d5 d6;have FN:=Lv (Tw6e.o.fin ⟨4,false,V,R,0,[]⟩);simp only [] at FN;cases bd with
   | true =>
     go_region
     go_wp2;refine bodyPost_ret (Qo rfl rfl rfl FN.o.1.drew) rfl ?_
     exact ⟨⟨_,_,rfl,fun h=>(by cases h),fun _=>SE.o.2 rfl⟩,Qj FN.o.2 1⟩
   | false =>
     by_cases hQ:Q=xs.length
     ·have dq:((Q:Int) == (xs.length:Int))=true:=by rw [hQ];simp
      have SQ:=Lv (SE.o.1 (by rw [decide_eq_true hQ];rfl));clear hQ SE;go_region
      go_wp2;refine bodyPost_ret (Qo rfl rfl rfl FN.o.1.drew) rfl ?_
      exact ⟨⟨_,_,rfl,fun _=>SQ.o,fun h=>(by cases h)⟩,Qj FN.o.2 1⟩
     ·have dq:((Q:Int) == (xs.length:Int))=false:=by rw [beq_eq_false_iff_ne];omega
      have SQ:=Lv (SE.o.2 (by rw [decide_eq_false hQ];rfl));clear hQ SE;go_region
      go_wp2;refine bodyPost_ret (Qo rfl rfl rfl FN.o.1.drew) rfl ?_
      exact ⟨⟨_,_,rfl,fun h=>(by cases h),fun _=>SQ.o⟩,Qj FN.o.2 1⟩
  rw [if_neg h0,if_neg h2,if_neg h8,if_neg h16] at SK;have b0:(F == 0)=false:=by simpa using h0
  have b2:(F == 2)=false:=by simpa using h2
  have b8:(F == 8)=false:=by simpa using h8
  have b16:(F == 16)=false:=by simpa using h16
  obtain ⟨d0,d1,d2,d3,d4,d5,d6⟩:=Tw4.out.res.c;have f:=Tw4.out.res.fz;have rl:=Tw4.out.res.lt;have FN:=Lv (Tw4.out.fin Ex.zero);have NO:=Lv (fun y (hy:sayP xs=some (y,xs.length))=>(show False by
   obtain ⟨v,m,m',q1,q2,-⟩:=Xf hy;have q3:=S0.o;rcases hb:s1.2 with _ | _
   · have q4:=(q3.ok hb).2
     rw [List.drop_zero,q1] at q4;injection q4 with q4;injection q4 with q4 _;rw [q4,SK.o] at q2;cases q2
   · have:=q3.no rfl hb
     rw [List.drop_zero,q1] at this;cases this))
  go_wp2;refine bodyPost_ret (Qo rfl rfl rfl FN.o.1) rfl ?_
  exact ⟨⟨_,_,rfl,fun h=>(by cases h),fun _=>NO.o⟩,FN.o.2⟩
end
section
open Go.RowKit Go.PlainAid
def Q5 (w:World) (g:Nat) (b:Bool) (nm:ByteArray) (x:Ex) (v:Value):Prop :=
 w.heap[g]?=some (.cells #[.bool b,.string nm,.int .i64 x.kind,.bool x.weak,.int .u64 x.value,.int .u64 x.resolver,.int .u64 x.ordinal,.string (strOfNums x.other),v] 152 (0,0))
section
variable {g:Nat} {b:Bool} {nm:ByteArray} {x:Ex} {v:Value}
theorem Q5.kept {r:Option Nat} (h:Q5 w g b nm x v) (hg:w.grownBy w' r) (hr:r≠some g):Q5 w' g b nm x v:=(hg.block g (lt_of_block h) (fun e=>hr e.symm)).trans h
theorem Q5.lt (h:Q5 w g b nm x v):g < w.heap.size:=lt_of_block h
theorem Q5.fz (h:Q5 w g b nm x v) (i:Nat):w.frozen? ⟨g,i,none⟩=false:=Xg h
theorem Q5.c (h:Q5 w g b nm x v):w.cell? ⟨g,0,none⟩=some (.bool b)∧w.cell? ⟨g,1,none⟩=some (.string nm)∧w.cell? ⟨g,2,none⟩=some (.int .i64 x.kind)∧w.cell? ⟨g,3,none⟩=some (.bool x.weak)∧w.cell? ⟨g,4,none⟩=some (.int .u64 x.value) ∧
  w.cell? ⟨g,5,none⟩=some (.int .u64 x.resolver)∧w.cell? ⟨g,6,none⟩=some (.int .u64 x.ordinal)∧w.cell? ⟨g,7,none⟩=some (.string (strOfNums x.other))∧w.cell? ⟨g,8,none⟩=some v:=by
 refine ⟨?_,?_,?_,?_,?_,?_,?_,?_,?_⟩ <;> (rw [Qm h];rfl)
theorem Q5.kids (h:Q5 w g b nm x v) (u:Value):Q5 (w.setCell ⟨g,8,none⟩ u) g b nm x u:=by unfold Q5;rw [heap_setCell_same w g 8 _ _ _ h];rfl
theorem Q5.s0 (h:Q5 w g b nm x v) (k:Bool):Q5 (w.setCell ⟨g,0,none⟩ (.bool k)) g k nm x v:=by unfold Q5;rw [heap_setCell_same w g 0 _ _ _ h];rfl
theorem Q5.s1 (h:Q5 w g b nm x v) (k:ByteArray):Q5 (w.setCell ⟨g,1,none⟩ (.string k)) g b k x v:=by unfold Q5;rw [heap_setCell_same w g 1 _ _ _ h];rfl
theorem Q5.s2 (h:Q5 w g b nm x v) (k:Int):Q5 (w.setCell ⟨g,2,none⟩ (.int .i64 k)) g b nm { x with kind:=k } v:=by unfold Q5;rw [heap_setCell_same w g 2 _ _ _ h];rfl
theorem Q5.s3 (h:Q5 w g b nm x v) (k:Bool):Q5 (w.setCell ⟨g,3,none⟩ (.bool k)) g b nm { x with weak:=k } v:=by unfold Q5;rw [heap_setCell_same w g 3 _ _ _ h];rfl
theorem Q5.s4 (h:Q5 w g b nm x v) (k:Int):Q5 (w.setCell ⟨g,4,none⟩ (.int .u64 k)) g b nm { x with value:=k } v:=by unfold Q5;rw [heap_setCell_same w g 4 _ _ _ h];rfl
theorem Q5.s5 (h:Q5 w g b nm x v) (k:Int):Q5 (w.setCell ⟨g,5,none⟩ (.int .u64 k)) g b nm { x with resolver:=k } v:=by unfold Q5;rw [heap_setCell_same w g 5 _ _ _ h];rfl
theorem Q5.s6 (h:Q5 w g b nm x v) (k:Int):Q5 (w.setCell ⟨g,6,none⟩ (.int .u64 k)) g b nm { x with ordinal:=k } v:=by unfold Q5;rw [heap_setCell_same w g 6 _ _ _ h];rfl
theorem Q5.s7 (h:Q5 w g b nm x v) (k:List Int):Q5 (w.setCell ⟨g,7,none⟩ (.string (strOfNums k))) g b nm { x with other:=k } v:=by unfold Q5;rw [heap_setCell_same w g 7 _ _ _ h];rfl
theorem Q5.said (h:Q5 w g b nm x v) (nm':ByteArray) (y:Ex) :
   Q5 ((((((((w.setCell ⟨g,0,none⟩ (.bool true)).setCell ⟨g,1,none⟩ (.string nm')).setCell ⟨g,2,none⟩ (.int .i64 y.kind)).setCell ⟨g,3,none⟩ (.bool y.weak)).setCell ⟨g,4,none⟩ (.int .u64 y.value)).setCell ⟨g,5,none⟩ (.int .u64 y.resolver)).setCell ⟨g,6,none⟩ (.int .u64 y.ordinal)).setCell ⟨g,7,none⟩ (.string (strOfNums y.other))) g true nm' y v :=
 (((((((h.s0 true).s1 nm').s2 y.kind).s3 y.weak).s4 y.value).s5 y.resolver).s6 y.ordinal).s7 y.other
theorem load_nodeR (h:Q5 w g b nm x v):(loadVar 152 ⟨g,0,none⟩).run Tryz.prog w=.ok (Kw b nm x v) w :=
 run_loadVar_row w g _ _ _ _ _ h Tryz.underlying152 rfl (by kernel_rfl)
theorem Qa {fn:Func} {p u:Tmp} (hr:fn.results=#[.cell p 152,.tmp u]) {tmps:Array Value} {y:Value} (hp:tmps.getD p undef=.pointer (some ⟨g,0,none⟩)) (hu:tmps.getD u undef=y) (h:Q5 w g b nm x v) :
  (results fn tmps).run Tryz.prog w=.ok (.tuple #[Kw b nm x v,y]) w:=by
 rw [results_cell_tmp hr,hp,hu,show (asAddr (.pointer (some ⟨g,0,none⟩)):Sem Addr).run Tryz.prog w=.ok ⟨g,0,none⟩ w from rfl,Result.andThen_ok,load_nodeR h,Result.andThen_ok]
end
variable {b o c:Nat} {xs:List Int} {s s':Cs}
def rkid (n:Nat) (k:Kid):Kid:=(k.1,if k.2 < n then k.2 else -1)
def V9 (x:Kid):List Value:=[.string (strOfNums x.1),.int .i64 x.2]
theorem Gc (x:Kid):∀ u∈V9 x,u.oneCell'=true:=by
 intro u hu;simp only [V9,List.mem_cons,List.not_mem_nil,or_false] at hu;rcases hu with rfl | rfl <;> rfl
theorem Mj:Kx Tryz.prog 156 150 2 24:=.mk' Tryz.underlying150 (z:=.agg #[.string ⟨#[]⟩,.int .i64 0]) (by kernel_rfl) rfl (by decide)
def Ba (w:World) (q:Option Addr) (l:List Kid):Prop:=∀ i x,l[i]?=some x→∃ g,q=some ⟨g,0,none⟩∧w.cell? ⟨g,i * 2,none⟩=some (.string (strOfNums x.1))∧w.cell? ⟨g,i * 2 + 1,none⟩=some (.int .i64 x.2)
theorem Ba.of {lo n c:Nat} {q:Option Addr} {l:List Kid} (h:w.ownsRow lo 156 2 (.slice q n c) n (l.flatMap V9)):Ba w q l:=fun i x hx=>by
 obtain ⟨g,e,h0⟩:=Jz (f:=V9) (fun _=>rfl) h hx (j:=0) (by decide);obtain ⟨g',e',h1⟩:=Jz (f:=V9) (fun _=>rfl) h hx (j:=1) (by decide);rw [e] at e';injection e' with e';injection e' with e' _ _;subst e';exact ⟨g,e,h0,h1⟩
theorem exP_big {Z:Int} {l:List Int} (h:(l.length:Int) < Z):exP Z l=none:=by
 unfold exP;rw [if_neg (by omega)];unfold psB psZ;cases h1:sayP l with
 | none=>rfl
 | some a =>
  obtain ⟨v,n⟩:=a;have h2:=(Th _ _ _ h1).1;simp only [];rw [if_neg (by omega)]
theorem exP_yes {Z:Nat} {l:List Int} {x:Ex} (h0 : 0 < Z) (hZ:Z≤l.length) (h:sayP (l.take Z)=some (x,(l.take Z).length)):exP Z l=some (some x,Z):=by
 have h1:=(loc_front Th h).1;rw [List.length_take,Nat.min_eq_left hZ] at h1;unfold exP;rw [if_neg (by omega)];unfold psB psZ;rw [h1];simp [psR]
theorem exP_no {Z:Nat} {l:List Int} (h0 : 0 < Z) (hZ:Z≤l.length) (h:∀ y,sayP (l.take Z)≠some (y,(l.take Z).length)):exP Z l=none:=by
 unfold exP;rw [if_neg (by omega)];unfold psB psZ;cases h1:sayP l with
 | none=>rfl
 | some a =>
  obtain ⟨v,n⟩:=a;simp only [];by_cases hn:(n:Int)=Z
  ·exfalso
   obtain rfl:n=Z:=by omega
   have:=loc_back Th h1 (Nat.le_refl n)
   refine h v ?_
   rw [List.length_take,Nat.min_eq_left hZ];exact this
  ·rw [if_neg hn]
structure RrI (w0 W:World) (g b o c:Nat) (xs:List Int) (s:Cs) (g0 g1:Nat) (x:Option Ex) (l:List Kid) (v:Value):Prop where
 rd:Rd W g b o c xs s
 res:Q5 W g0 false ⟨#[]⟩ Ex.zero (.slice none 0 0)
 nod:Q5 W g1 x.isSome ⟨#[]⟩ (exOf x) v
 own:W.ownsRow w0.heap.size 156 2 v l.length ((l.map (rkid xs.length)).flatMap V9)
 each:∀ k∈l,k.1≠[]∧Byt k.1
 grown:w0.grownBy W none
 newg:w0.heap.size≤g
 new0:w0.heap.size≤g0
 new1:w0.heap.size≤g1
 n01:g0≠g1
 n0g:g0≠g
 n1g:g1≠g
 old:b < w0.heap.size
section
variable {w0:World} {g g0 g1:Nat} {x:Option Ex} {l:List Kid} {v:Value}
theorem RrI.call (h:RrI w0 W g b o c xs s g0 g1 x l v) (hp:Rd w' g b o c xs s') (hg:W.grownBy w' (some g)):RrI w0 w' g b o c xs s' g0 g1 x l v :=
 ⟨hp,h.res.kept hg (by intro e;injection e with e;exact h.n0g e.symm),h.nod.kept hg (by intro e;injection e with e;exact h.n1g e.symm),h.own.kept hg (.inr (Zb h.own h.rd.blk (by decide))),h.each,Qw h.grown hg h.newg,h.newg,h.new0,h.new1,h.n01,h.n0g,h.n1g,h.old⟩
theorem RrI.same (h:RrI w0 W g b o c xs s g0 g1 x l v) (hg:W.grownBy w' none):RrI w0 w' g b o c xs s g0 g1 x l v :=
 ⟨h.rd.grown hg,h.res.kept hg (by simp),h.nod.kept hg (by simp),Qy h.own hg,h.each,Qz h.grown hg,h.newg,h.new0,h.new1,h.n01,h.n0g,h.n1g,h.old⟩
theorem RrI.mine (h:RrI w0 W g b o c xs s g0 g1 x l v) {gk:Nat} (hg:W.grownBy w' (some gk)) (h0:w0.heap.size≤gk) (ng:gk≠g) (n0:gk≠g0) (n1:gk≠g1) (nv:v.ownBlock≠some gk):RrI w0 w' g b o c xs s g0 g1 x l v :=
 ⟨h.rd.kept hg (by intro e;injection e with e;exact ng e) (by intro e;injection e with e;have:=h.old;omega),h.res.kept hg (by intro e;injection e with e;exact n0 e),h.nod.kept hg (by intro e;injection e with e;exact n1 e),h.own.kept hg (.inr nv),h.each,Qw h.grown hg h0,h.newg,h.new0,h.new1,h.n01,h.n0g,h.n1g,h.old⟩
theorem RrI.said (h:RrI w0 W g b o c xs s g0 g1 none l v) (y:Ex) (hg:W.grownBy w' (some g1)) (hn:Q5 w' g1 true ⟨#[]⟩ y v):RrI w0 w' g b o c xs s g0 g1 (some y) l v :=
 ⟨h.rd.kept hg (by intro e;injection e with e;exact h.n1g e) (by intro e;injection e with e;have:=h.old;have:=h.new1;omega),h.res.kept hg (by intro e;injection e with e;exact h.n01 e.symm),hn,h.own.kept hg (.inr (Zb h.own h.nod (by decide))),h.each,Qw h.grown hg h.new1,h.newg,h.new0,h.new1,h.n01,h.n0g,h.n1g,h.old⟩
theorem RrI.more (h:RrI w0 W g b o c xs s g0 g1 x l v) (k:Kid) (hk:k.1≠[]∧Byt k.1) {w1:World} {v':Value} (ho:w1.ownsRow w0.heap.size 156 2 v' (l.length + 1) ((l.map (rkid xs.length)).flatMap V9 ++ V9 (rkid xs.length k))) (hg:W.grownBy w1 v.ownBlock) :
  RrI w0 (w1.setCell ⟨g1,8,none⟩ v') g b o c xs s g0 g1 x (l ++ [k]) v':=by
 have hv:∀ g,v.ownBlock=some g→w0.heap.size≤g:=fun g e=>(h.own.lt g e).1;have r1:Q5 w1 g0 false ⟨#[]⟩ Ex.zero (.slice none 0 0):=h.res.kept hg (Zb h.own h.res (by decide));have n1:Q5 w1 g1 x.isSome ⟨#[]⟩ (exOf x) v:=h.nod.kept hg (Zb h.own h.nod (by decide));have d1:Rd w1 g b o c xs s:=h.rd.kept hg (Zb h.own h.rd.blk (by decide)) (fun e=>by have:=hv b e;have:=h.old;omega);have gs:=Qx (i:=8) (Qq w1 (some g1)) v'
 refine ⟨d1.kept gs (by intro e;injection e with e;exact h.n1g e) (by intro e;injection e with e;have:=h.old;have:=h.new1;omega),r1.kept gs (by intro e;injection e with e;exact h.n01 e.symm),n1.kids v',?_,?_,Qw (Jc h.grown hg hv (Nat.le_refl _)) gs h.new1,h.newg,h.new0,h.new1,h.n01,h.n0g,h.n1g,h.old⟩
 ·rw [List.length_append,List.length_singleton,List.map_append,List.flatMap_append]
  rw [show (List.map (rkid xs.length) [k]).flatMap V9=V9 (rkid xs.length k) by simp];exact ho.kept gs (.inr (Zb ho n1 (by decide)))
 ·intro y hy
  rcases List.mem_append.1 hy with hy | hy
  ·exact h.each y hy
  ·rw [List.mem_singleton.1 hy];exact hk
theorem Q5.put (h:Q5 W g0 false ⟨#[]⟩ Ex.zero (.slice none 0 0)) (b:Bool) (nm':ByteArray) (y:Ex) (v':Value) :
   Q5 (((((((((W.setCell ⟨g0,0,none⟩ (.bool b)).setCell ⟨g0,1,none⟩ (.string nm')).setCell ⟨g0,2,none⟩ (.int .i64 y.kind)).setCell ⟨g0,3,none⟩ (.bool y.weak)).setCell ⟨g0,4,none⟩ (.int .u64 y.value)).setCell ⟨g0,5,none⟩ (.int .u64 y.resolver)).setCell ⟨g0,6,none⟩ (.int .u64 y.ordinal)).setCell ⟨g0,7,none⟩ (.string (strOfNums y.other))).setCell ⟨g0,8,none⟩ v') g0 b nm' y v' :=
 ((((((((h.s0 b).s1 nm').s2 y.kind).s3 y.weak).s4 y.value).s5 y.resolver).s6 y.ordinal).s7 y.other).kids v'
end
structure RdOut (w w':World) (xs:List Int) (p:Int) (e:Ending):Prop where
 ex:(∃ nd v,ndAt xs p=some nd∧e=.returned (.tuple #[Kw nd.ex.isSome ⟨#[]⟩ (exOf nd.ex) v,.bool true])∧w'.ownsRow w.heap.size 156 2 v nd.kids.length ((nd.kids.map (rkid xs.length)).flatMap V9)) ∨
  (ndAt xs p=none∧e=.returned (.tuple #[Kw false ⟨#[]⟩ Ex.zero (.slice none 0 0),.bool false]))
 grown:w.grownBy w' none
theorem RrI.fin {w0:World} {g g0 g1:Nat} {x:Option Ex} {l:List Kid} {v:Value} (h:RrI w0 W g b o c xs s g0 g1 x l v) {p:Nat} (hN:ndAt xs p=none) :
  Q5 (((((((((W.setCell ⟨g0,0,none⟩ (.bool false)).setCell ⟨g0,1,none⟩ (.string ⟨#[]⟩)).setCell ⟨g0,2,none⟩ (.int .i64 Ex.zero.kind)).setCell ⟨g0,3,none⟩ (.bool Ex.zero.weak)).setCell ⟨g0,4,none⟩ (.int .u64 Ex.zero.value)).setCell ⟨g0,5,none⟩ (.int .u64 Ex.zero.resolver)).setCell ⟨g0,6,none⟩ (.int .u64 Ex.zero.ordinal)).setCell ⟨g0,7,none⟩ (.string (strOfNums Ex.zero.other))).setCell ⟨g0,8,none⟩ (.slice none 0 0)) g0 false ⟨#[]⟩ Ex.zero (.slice none 0 0) ∧
  RdOut w0 (((((((((W.setCell ⟨g0,0,none⟩ (.bool false)).setCell ⟨g0,1,none⟩ (.string ⟨#[]⟩)).setCell ⟨g0,2,none⟩ (.int .i64 Ex.zero.kind)).setCell ⟨g0,3,none⟩ (.bool Ex.zero.weak)).setCell ⟨g0,4,none⟩ (.int .u64 Ex.zero.value)).setCell ⟨g0,5,none⟩ (.int .u64 Ex.zero.resolver)).setCell ⟨g0,6,none⟩ (.int .u64 Ex.zero.ordinal)).setCell ⟨g0,7,none⟩ (.string (strOfNums Ex.zero.other))).setCell ⟨g0,8,none⟩ (.slice none 0 0)) xs p (.returned (.tuple #[Kw false ⟨#[]⟩ Ex.zero (.slice none 0 0),.bool false])) :=
 ⟨h.res.put _ _ _ _,⟨.inr ⟨hN,rfl⟩,Qw h.grown (Jx (Qq W (some g0)) _ _ _ _ _ _ _ _ _) h.new0⟩⟩
end
end Go.Proofs.YtkmbkpoclhbmgaaGreat
