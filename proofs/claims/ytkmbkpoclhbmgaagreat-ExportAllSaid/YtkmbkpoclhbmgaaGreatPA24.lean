/- 'ExportAll': for every input the call returns true, and what was handed in reads as it did. The form's own reach is the one condition. -/
import Derived.ShutString
import Derived.ChangeOld
import Derived.Test.YtkmbkpoclhbmgaaGreatPA23
set_option maxRecDepth 20000
set_option maxHeartbeats 6400000
namespace Go.Proofs.YtkmbkpoclhbmgaaGreat
open Go.RowKit
variable {w w' W V:World}
section
open Go.RowKit Go.Sort
variable {w w' W V:World} {h:Hx} {s:St} {sv dv:Value}
theorem named_take {D:Out} {t:List Int} {k:Nat} {y:List Int × Ex} (hd:D.Pairwise fun a b=>a.1≠b.1) (hy:D[k]?=some y) :
  (y.1=t→Xz t (D.take (k + 1))=some y)∧(y.1≠t→Xz t (D.take (k + 1))=Xz t (D.take k)):=by
 obtain ⟨hk,rfl⟩:=List.getElem?_eq_some_iff.1 hy;rw [List.take_succ_eq_append_getElem hk];unfold Xz;rw [List.find?_append]
 constructor
 ·intro e
  have hno:List.find? (fun y=>decide (y.1=t)) (D.take k)=none:=by
    rw [List.find?_eq_none];intro z hz;obtain ⟨i,hi,rfl⟩:=List.getElem_of_mem hz;rw [List.length_take] at hi;rw [List.getElem_take];simp only [decide_eq_true_eq];rw [← e];exact (List.pairwise_iff_getElem.1 hd) i k (by omega) hk (by omega)
  rw [hno];simp [e]
 ·intro e
  simp [e]
theorem named_fst {t:List Int} {D:Out} {y:List Int × Ex} (h:Xz t D=some y):y.1=t:=by
 unfold Xz at h
 have:=List.find?_some h
 simpa using this
theorem raw_apart {ys:List Int} (hb:Byt ys) (s:St) (h0:¬ 0 < s.tr.2):(Zy ys s).2.Pairwise fun a b=>a.1≠b.1:=by
 unfold Zy;rw [if_neg h0]
 split
 ·have OK:=Bk (n:=(secN s.segs:Int)) (Jy hb s.sy.1 s.sy.2) (Jy hb s.st.1 s.st.2)
  refine (Gb _).symm.pairwise ?_ (fun h=>Ne.symm h)
  rw [List.pairwise_map];exact OK.apart
 ·exact List.Pairwise.nil
theorem named_perm {t:List Int} {D E:Out} (hp:D.Perm E) (hd:D.Pairwise fun a b=>a.1≠b.1):Xz t D=Xz t E:=by
 have he:=hp.pairwise hd (fun h=>Ne.symm h);cases h:Xz t D with
 | none =>
  symm
  unfold Xz at h ⊢;rw [List.find?_eq_none] at h ⊢;exact fun y hy=>h y (hp.mem_iff.2 hy)
 | some y =>
  have hy:y∈D:=List.mem_of_find?_eq_some h
  have hyt:=named_fst h;cases k:Xz t E with
  | none =>
   unfold Xz at k;rw [List.find?_eq_none] at k;exact absurd hyt (by simpa using k y (hp.mem_iff.1 hy))
  | some z =>
   have hz:z∈D:=hp.mem_iff.2 (List.mem_of_find?_eq_some k);have hzt:=named_fst k;obtain ⟨i,hi,rfl⟩:=List.getElem_of_mem hy;obtain ⟨j,hj,rfl⟩:=List.getElem_of_mem hz;have P:=List.pairwise_iff_getElem.1 hd;rcases Nat.lt_trichotomy i j with e | e | e
   ·exact absurd (hyt.trans hzt.symm) (P i j hi hj e)
   ·subst e;rfl
   ·exact absurd (hzt.trans hyt.symm) (P j i hj hi e)
theorem rawF_tab {ys:List Int} (hb:Byt ys) (s:St) (h0:¬ 0 < s.tr.2) (t:List Int):Zo ys s t=((Zy ys s).1,(Xz t (Zy ys s).2).map (·.2)):=by
 have hp:=raw_apart hb s h0;unfold Zo;rw [if_neg h0];unfold Zy at hp ⊢;rw [if_neg h0] at hp ⊢
 split
 ·rename_i h1
  rw [if_pos h1] at hp;simp only [] at hp ⊢;rw [named_perm (Gb _) hp]
 ·rfl
theorem rawF_res {ys:List Int} (hb:Byt ys) (s:St) (t:List Int):∀ x,(Zo ys s t).2=some x→Vq x:=by
 intro x hx;by_cases h0 : 0 < s.tr.2
 ·unfold Zo at hx
  rw [if_pos h0] at hx;exact find_res _ _ x hx
 ·rw [rawF_tab hb s h0] at hx
  simp only [Option.map_eq_some_iff] at hx;obtain ⟨y,hy,rfl⟩:=hx;exact raw_res hb s y (List.mem_of_find?_eq_some hy)
theorem raw_names {ys:List Int} (hb:Byt ys) (s:St) (h0:¬ 0 < s.tr.2):∀ y∈(Zy ys s).2,Byt y.1∧y.1≠[]:=by
 intro y hy;unfold Zy at hy;rw [if_neg h0] at hy
 split at hy
 ·have OK:=Bk (n:=(secN s.segs:Int)) (Jy hb s.sy.1 s.sy.2) (Jy hb s.st.1 s.st.2)
  obtain ⟨z,hz,rfl⟩:=List.mem_map.1 (Hl.1 hy)
  have:=OK.each z hz
  exact ⟨this.1,fun e=>by have h:=this.2.1;have e2:z.1=[]:=e;exact absurd h (by rw [e2];decide)⟩
 ·cases hy
theorem Xk.keptR {X:Nat} {q:Option Addr} {D:Out} (h:Xk w q D) (hg:w.grownBy w' (some X)) (hne:∀ g,q=some ⟨g,0,none⟩→D≠[]→g≠X):Xk w' q D:=fun i y hy=>by
 obtain ⟨g,e,hc⟩:=h i y hy;have hD:D≠[]:=fun e0=>by rw [e0] at hy;simp at hy
 refine ⟨g,e,fun j hj=>?_⟩;have hl:j < (Q4 y).length:=hj
 have:=hc j hj
 rw [List.getElem?_eq_getElem hl] at this ⊢;exact hg.cell this (fun e2=>hne g e hD (by injection e2 with e2;first | done | exact e2.symm))
theorem row_ne {X:Nat} {q:Option Addr} {D:Out} (h:Xk w q D) (hx:ExAt w X ⟨#[]⟩ Ex.zero) (hn:∀ y∈D,y.1≠[]):∀ g,q=some ⟨g,0,none⟩→D≠[]→g≠X:=by
 intro g e hD hgx;subst hgx;cases D with
 | nil=>exact hD rfl
 | cons y D =>
  obtain ⟨g',e',hc⟩:=h 0 y rfl;rw [e] at e';injection e' with e';injection e' with e' _ _;subst e';have h1:=hc 0 (by decide);have h2:=hx.c.1;rw [Nat.zero_mul,Nat.zero_add,h2] at h1;have h3:(Q4 y)[0]?=some (.string (strOfNums y.1)):=rfl
  rw [h3] at h1;injection h1 with h1;injection h1 with h1;have h4:=congrArg ByteArray.size h1;rw [strOfNums_size] at h4;exact hn y (List.mem_cons_self ..) (List.eq_nil_of_length_eq_zero h4.symm)
structure FdL (W1 wr:World) (b3:Nat) (D:Out) (t:List Int) (n:Nat) (v10 v13:Value):Prop where
 ex:∃ k:Nat,k≤n∧v13=.int .i64 (k:Int)∧v10=.bool ((Xz t (D.take k)).map (·.2)).isSome∧ExAt wr b3 (nmOf (strOfNums t) ((Xz t (D.take k)).map (·.2))) (exOf ((Xz t (D.take k)).map (·.2)))
 grown:W1.grownBy wr (some b3)
structure FdX (W1 wr:World) (b3:Nat) (t:List Int) (R:Int × Option Ex) (v10 v11:Value):Prop where
 ex:v10=.bool R.2.isSome∧v11=.int .i64 R.1∧ExAt wr b3 (nmOf (strOfNums t) R.2) (exOf R.2)
 grown:W1.grownBy wr none
theorem refFind11_any {ys:List Int} {q:Option Addr} {c n:Nat} {l:List Sg} {qs qd:Option Addr} {cs nd cd:Nat} (hI:Bt w ys q c s l qs cs nd) (hn:ys.length=n) (t:List Int) (ht:Byt t) (htl:t.length≤9223372036854775807) :
  Calls Tryz.prog 20 #[.slice q n c,imgV h s (.slice qs l.length cs) (.slice qd nd cd),.string (strOfNums t)] w fun e w'=>FiO w w' t (Gr ys s nd t) e:=by
 obtain ⟨N,hN⟩:∃ N,N=l.length:=⟨_,rfl⟩
 rw [← hN];have gB:=grown1 w (.cells (Qf h s (.slice qs N cs) (.slice qd nd cd)) 48);have aA:Zp (w.alloc (.cells (Qf h s (.slice qs N cs) (.slice qd nd cd)) 48)) w.heap.size h s (.slice qs N cs) (.slice qd nd cd):=heap_alloc_new w _;obtain ⟨W,hW⟩:∃ W,w.alloc (.cells (Qf h s (.slice qs N cs) (.slice qd nd cd)) 48)=W:=⟨_,rfl⟩
 obtain ⟨b,hb'⟩:∃ b,w.heap.size=b:=⟨_,rfl⟩
 rw [hW] at gB aA;rw [hb'] at aA;have g1:=grown1 W (.cells #[.string ⟨#[]⟩,.int .i64 0,.bool false,.int .u64 0,.int .u64 0,.int .u64 0,.string ⟨#[]⟩] 28);have r1:=Wt W;obtain ⟨W1,hW1⟩:∃ W1,W.alloc (.cells #[.string ⟨#[]⟩,.int .i64 0,.bool false,.int .u64 0,.int .u64 0,.int .u64 0,.string ⟨#[]⟩] 28)=W1:=⟨_,rfl⟩
 obtain ⟨b2,hb2⟩:∃ b,W.heap.size=b:=⟨_,rfl⟩
 rw [hW1] at g1 r1;rw [hb2] at r1;have g2:=grown1 W1 (.cells #[.string ⟨#[]⟩,.int .i64 0,.bool false,.int .u64 0,.int .u64 0,.int .u64 0,.string ⟨#[]⟩] 28);have r2:=Wt W1;obtain ⟨W2,hW2⟩:∃ W2,W1.alloc (.cells #[.string ⟨#[]⟩,.int .i64 0,.bool false,.int .u64 0,.int .u64 0,.int .u64 0,.string ⟨#[]⟩] 28)=W2:=⟨_,rfl⟩
 obtain ⟨b3,hb3⟩:∃ b,W1.heap.size=b:=⟨_,rfl⟩
 rw [hW2] at g2 r2;rw [hb3] at r2;have I1:=hI.grown (Qz gB g1);have hcn:n≤c:=by rw [← hn];exact I1.le
 have a1:=aA.kept g1 (by simp);have PT:=Lv (fun (V:World) (hg:W1.grownBy V none)=>Wx (I1.grown hg).b hn hcn I1.most I1.tr.1 I1.tr.2);have RF:=Lv (fun (V:World) qq cc (hb:OneB V qq cc (Q1 ys s.tr.1 s.tr.2))=>refFind_any hb.b rfl (Jy I1.byt s.tr.1 s.tr.2) hb.le hb.most (Nat.le_trans (Yc ys s.tr.1 s.tr.2) I1.few) t ht htl);have RW:=Lv (fun (V:World) (hg:W1.grownBy V none)=>refRaw_any (h:=h) (qd:=qd) (cd:=cd) (I1.grown hg) hn)
 have MY:=Lv (fun (V:World) (hg:W1.grownBy V none) (nm:ByteArray) (x:Ex) (hx:Vq x)=>refMay11_any (h:=h) (qd:=qd) (cd:=cd) I1.deps (I1.img.grown hg) nm x hx);rw [← hN] at RW MY;have RS:=Lv (rawF_res I1.byt s t);have RT:=Lv (fun h0=>rawF_tab I1.byt s h0 t);have RA:=Lv (fun h0=>raw_apart I1.byt s h0);have RNM:=Lv (fun h0=>raw_names I1.byt s h0);have RTR:=Lv (show 0 < s.tr.2→Zo ys s t=Kf (Q1 ys s.tr.1 s.tr.2) t from fun h0=>by unfold Zo;rw [if_pos h0])
 have KA:=Lv (fun (V:World) (hg:W1.grownBy V none)=>a1.kept hg (by simp));have B2:=Lv (fun (V:World) (hg:W1.grownBy V none)=>r1.kept hg (by simp));have G1:=Lv (Qz gB g1);have G12:=Lv g2;have R2:=Lv r2;have BB:=Lv (And.intro (show w.heap.size≤b2 by have:=gB.size;omega) (show W1.heap.size≤b3 by omega));have HT:=Lv ht;have OUT:=Lv (show Gr ys s nd t=if (Zo ys s t).1≠0 then ((Zo ys s t).1,none) else match (Zo ys s t).2 with
  | none=>(0,none)
  | some x=>if Jn s nd x≠0 then (Jn s nd x,none) else (0,some x) from rfl)
 generalize Gr ys s nd t=RES at *;have k2:=KA.o W2 G12.o;have c14:=k2.c 14 (.int .u64 s.tr.1) rfl;have c15:=k2.c 15 (.int .u64 s.tr.2) rfl;have gl:=lt_of_block k2;clear I1 hI gB aA hN g1 r1 g2 r2 a1 ht hcn k2;rw [show imgV h s (.slice qs N cs) (.slice qd nd cd)=.agg (Qf h s (.slice qs N cs) (.slice qd nd cd)) from rfl];unfold Qf at hW ⊢;go_enter Tryz.func20,Tryz.ntmps20;go_upto_region 2 with fail
 clear hW hb' hW1 hb2 hW2 hb3;go_upto_if 17 with fail
 go_cut [10,11] from 12 to 50 (fun v10 v11 wx=>FdX W1 wx b3 t (Zo ys s t) v10 v11)
 case first =>
  by_cases h0 : 0 < s.tr.2
  ·have d0:decide (0 < s.tr.2)=true:=decide_eq_true h0
   have RTR:=Lv (RTR.o h0);clear RT RA RW;go_wp2_with fail;refine (PT.o _ G12.o).mono ?_
   rintro e w3 ⟨V,cc,rfl,hb,hg3⟩;have F3:=Lv (RF.o w3 V cc hb);have G3:=Lv (Qz G12.o hg3);have G23:=Lv hg3;clear hb hg3 c14 c15 gl;go_wp2_with fail;refine F3.o.mono ?_
   rintro e w4 ⟨rfl,hg4⟩;rw [← RTR.o];obtain ⟨⟨E,o⟩,hR⟩:∃ R,R=Zo ys s t:=⟨_,rfl⟩
   rw [← hR];simp only [];have HR:=Lv hR;have G4:=Lv (Qz G3.o hg4);have r4:=R2.o.kept (Qz G23.o hg4) (by simp);obtain ⟨nm,hnm⟩:∃ nm,nm=nmOf (strOfNums t) o:=⟨_,rfl⟩
   obtain ⟨x,hx⟩:∃ x,x=exOf o:=⟨_,rfl⟩
   rw [← hnm,← hx];have HNX:=Lv (And.intro hnm hx);have R5:=Lv (r4.put nm x);have z0:=r4.fz 0;have z1:=r4.fz 1;have z2:=r4.fz 2;have z3:=r4.fz 3;have z4:=r4.fz 4;have z5:=r4.fz 5;have z6:=r4.fz 6;have e0:=r4.c;have l5:=r4.lt;clear hR hnm hx hg4 r4;unfold exV Zd;go_wp2;go_meet
   exact ⟨⟨by rw [← HR.o],by rw [← HR.o],by rw [← HR.o];simp only [];rw [← HNX.o.1,← HNX.o.2];exact R5.o⟩,Qr G4.o (Qh (Qq w4 (some b3)) _ _ _ _ _ _ _) (fun g e=>by injection e with e;have:=BB.o;omega)⟩
  ·have d0:decide (0 < s.tr.2)=false:=decide_eq_false h0
   have RT2:=Lv (RT.o h0);have RA2:=Lv (RA.o h0);have RNM2:=Lv (RNM.o h0);have RW2:=Lv (RW.o W2 G12.o);obtain ⟨⟨E,D⟩,hR⟩:∃ R,R=Zy ys s:=⟨_,rfl⟩
   rw [← hR] at RT2 RA2 RW2 RNM2;simp only [] at RT2 RA2 RNM2;have K2:=Lv (KA.o W2 G12.o);clear hR RTR RT RA RNM PT RF RW c14 c15 gl;go_wp2_with (refine Qi rfl _ rfl rfl K2.o ?_;unfold imgV Qf)
   refine RW2.o.mono ?_
   rintro e w3 ⟨⟨q3,c3,rfl,hD,hle,hmost⟩,hg3⟩;simp only [] at hD hle ⊢;have RD:=Lv hD;obtain ⟨M,hM⟩:∃ M,M=D.length:=⟨_,rfl⟩
   rw [← hM] at hle ⊢;have HM:=Lv hM.symm;have G3:=Lv (Qz G12.o hg3);have G23:=Lv hg3;have r3:=R2.o.kept hg3 (by simp);have ST:=Lv (show FdL w3 w3 b3 D t M (.bool false) (.int .i64 0) from ⟨⟨0,Nat.zero_le _,rfl,rfl,r3⟩,Qq _ _⟩);have NE:=Lv (row_ne hD r3 (fun y hy=>(RNM2.o y hy).2));clear hD hM hg3 r3 K2 RW2;go_wp2;go_loopw [10,13] (fun v10 v13 wr=>FdL w3 wr b3 D t M v10 v13) (fun _ v13 _=>M - (intOf v13).toNat)
   case atStart=>exact ST.o
   case round =>
    obtain ⟨⟨k,hk,rfl,rfl,hx⟩,hg⟩:=hrel;have GX:=Lv hg;have HXX:=Lv hx;by_cases hlt:k < M
    ·obtain ⟨y,hy⟩:∃ y,D[k]?=some y:=⟨_,List.getElem?_eq_getElem (by rw [HM.o];exact hlt)⟩
     obtain ⟨ga,oa,rfl,a0,a1,a2,a3,a4,a5,a6⟩:=(RD.o.keptR hg NE.o).exs.at hy;have dl:decide ((k:Int) < (M:Int))=true:=by simp;omega
     have hkI:(k:Int) < (M:Int):=by omega
     have hnm:=Mx (RNM2.o y (List.mem_of_getElem? hy)).1 HT.o;have NT:=Lv (named_take (t:=t) RA2.o hy);obtain ⟨o,ho⟩:∃ o,o=(Xz t (D.take k)).map (·.2):=⟨_,rfl⟩
     rw [← ho] at hx ⊢;have HO:=Lv ho;by_cases he:y.1=t
     ·rw [decide_eq_true he] at hnm
      have N2:=Lv (NT.o.1 he);have R5:=Lv (hx.put (strOfNums y.1) y.2);have HE:=Lv he;have z0:=hx.fz 0;have z1:=hx.fz 1;have z2:=hx.fz 2;have z3:=hx.fz 3;have z4:=hx.fz 4;have z5:=hx.fz 5;have z6:=hx.fz 6;have e0:=hx.c;have l5:=hx.lt;clear hg hy ho he hx;go_wp2;go_roundw
      case rel=>exact ⟨⟨k + 1,hlt,by go_num,by rw [N2.o];rfl,by rw [N2.o];show ExAt _ b3 (strOfNums t) y.2;rw [← HE.o];exact R5.o⟩,Qh GX.o _ _ _ _ _ _ _⟩
      case measure=>simp [intOf];omega
     ·rw [decide_eq_false he] at hnm
      have N2:=Lv (NT.o.2 he);clear hg hy ho he hx;go_wp2;go_roundw
      case rel=>exact ⟨⟨k + 1,hlt,by go_num,by rw [N2.o,HO.o],by rw [N2.o];exact HXX.o⟩,GX.o⟩
      case measure=>simp [intOf];omega
    ·have hkm:M=k:=by omega
     subst hkm;have dl:decide ((M:Int) < (M:Int))=false:=by simp
     have hfull:D.take M=D:=by rw [← HM.o,List.take_length]
     rw [hfull] at hx ⊢;have F:=Lv (show FdX W1 wr b3 t (Zo ys s t) (.bool ((Xz t D).map (·.2)).isSome) (.int .i64 E) from
      ⟨by rw [RT2.o];exact ⟨rfl,rfl,hx⟩,Qr G3.o hg (fun g e=>by injection e with e;have:=BB.o;omega)⟩)
     obtain ⟨o,ho⟩:∃ o,o=(Xz t D).map (·.2):=⟨_,rfl⟩
     rw [← ho] at F ⊢;clear hg hx hfull ho HXX;go_wp2;go_meet
     exact F.o
 case rest =>
  obtain ⟨⟨hv1,hv2,hx⟩,hg⟩:=hcut;obtain ⟨⟨E,o⟩,hR⟩:∃ R,R=Zo ys s t:=⟨_,rfl⟩
  rw [← hR] at OUT RS hv1 hv2 hx;simp only [] at OUT RS hv1 hv2 hx;subst hv1 hv2;have GC:=Lv hg;have XC:=Lv hx;obtain ⟨is,his⟩:∃ b,b=o.isSome:=⟨_,rfl⟩
  rw [← his];have HIS:=Lv his;clear hR hx hg his RT RA RNM RTR PT RF RW;by_cases hE:E=0
  ·subst hE
   have OUTB:=Lv (OUT.o.trans (if_neg (by simp)));cases o with
   | none =>
    obtain rfl:is=false:=HIS.o;have RN:=Lv (show RES=(0,none) from OUTB.o);have r2':=B2.o wc GC.o;have R6:=Lv (r2'.put ⟨#[]⟩ Ex.zero);have z0:=r2'.fz 0;have z1:=r2'.fz 1;have z2:=r2'.fz 2;have z3:=r2'.fz 3;have z4:=r2'.fz 4;have z5:=r2'.fz 5;have z6:=r2'.fz 6;have e0:=r2'.c;have l5:=r2'.lt;clear r2';go_wp2;refine bodyPost_ret (Q2 rfl rfl rfl rfl R6.o) rfl ?_
    exact ⟨by rw [RN.o];rfl,Qr (Qz G1.o GC.o) (Qh (Qq wc (some b2)) _ _ _ _ _ _ _) (fun g e=>by injection e with e;have:=BB.o;omega)⟩
   | some x =>
    obtain rfl:is=true:=HIS.o;simp only [] at OUTB;have X7:=Lv (show ExAt wc b3 (strOfNums t) x from XC.o);have IM:=Lv (KA.o wc GC.o);have MAY:=Lv (MY.o wc GC.o (strOfNums t) x (RS.o x rfl));obtain ⟨r,hr⟩:∃ r,r=Jn s nd x:=⟨_,rfl⟩
    rw [← hr] at MAY OUTB;have HR:=Lv hr;unfold exV Zd at MAY;clear hr XC;have x0:=X7.o.c;have xl:=X7.o.lt;go_wp2_with (refine Qi rfl _ rfl rfl IM.o ?_;unfold imgV Qf)
    refine MAY.o.mono ?_
    rintro e w8 ⟨rfl,hg8⟩;have G8:=Lv (Qz GC.o hg8);have X8:=Lv (X7.o.kept hg8 (by simp));have r2':=B2.o w8 G8.o;clear x0 xl hg8;have z0:=r2'.fz 0;have z1:=r2'.fz 1;have z2:=r2'.fz 2;have z3:=r2'.fz 3;have z4:=r2'.fz 4;have z5:=r2'.fz 5;have z6:=r2'.fz 6;have e0:=r2'.c;have l5:=r2'.lt;by_cases hr0:r=0
    ·subst hr0
     have RN:=Lv (show RES=(0,some x) from by rw [OUTB.o,if_neg (by simp)]);have R6:=Lv (r2'.put (strOfNums t) x);have x0:=X8.o.c;have xl:=X8.o.lt;clear r2';go_wp2;refine bodyPost_ret (Q2 rfl rfl rfl rfl R6.o) rfl ?_
     exact ⟨by rw [RN.o];rfl,Qr (Qz G1.o G8.o) (Qh (Qq w8 (some b2)) _ _ _ _ _ _ _) (fun g e=>by injection e with e;have:=BB.o;omega)⟩
    ·have dr:(r != 0)=true:=by simpa using hr0
     have RN:=Lv (show RES=(r,none) from by rw [OUTB.o,if_pos hr0]);have R6:=Lv (r2'.put ⟨#[]⟩ Ex.zero);clear r2' hr0;go_wp2;refine bodyPost_ret (Q2 rfl rfl rfl rfl R6.o) rfl ?_
     exact ⟨by rw [RN.o];rfl,Qr (Qz G1.o G8.o) (Qh (Qq w8 (some b2)) _ _ _ _ _ _ _) (fun g e=>by injection e with e;have:=BB.o;omega)⟩
  ·have dE:(E != 0)=true:=by simpa using hE
   have dE2:(E == 0)=false:=by simpa using hE
   have RN:=Lv (show RES=(E,none) from by rw [OUT.o,if_pos hE]);have r2':=B2.o wc GC.o;have R6:=Lv (r2'.put ⟨#[]⟩ Ex.zero);have z0:=r2'.fz 0;have z1:=r2'.fz 1;have z2:=r2'.fz 2;have z3:=r2'.fz 3;have z4:=r2'.fz 4;have z5:=r2'.fz 5;have z6:=r2'.fz 6;have e0:=r2'.c;have l5:=r2'.lt;clear r2' hE;go_wp2;refine bodyPost_ret (Q2 rfl rfl rfl rfl R6.o) rfl ?_
   exact ⟨by rw [RN.o];rfl,Qr (Qz G1.o GC.o) (Qh (Qq wc (some b2)) _ _ _ _ _ _ _) (fun g e=>by injection e with e;have:=BB.o;omega)⟩
end
section
open Go.RowKit Go.Sort
variable {w w' W:World} {h:Hx} {s:St} {sv dv:Value}
def atN (s:St) (x:Ex) (sl:Int):Int:=if x.kind=2 then x.value else if x.kind=1∨x.kind=4 then IntKind.u64.wrap (IntKind.u64.wrap (lowN s.segs + sl) + x.value) else 0
theorem At_any {l:List Sg} {qs:Option Addr} {cs:Nat} (k:Zt w s l qs cs) (nm:ByteArray) (x:Ex) (sl:Int) :
  Calls Tryz.prog 21 #[imgV h s (.slice qs l.length cs) dv,exV nm x,.int .u64 sl] w fun e w'=>e=.returned (.int .u64 (atN s x sl))∧w.grownBy w' none:=by
 obtain ⟨N,hN⟩:∃ N,N=l.length:=⟨_,rfl⟩
 rw [← hN];have gB:=grown1 w (.cells (Qf h s (.slice qs N cs) dv) 48);have aA:Zp (w.alloc (.cells (Qf h s (.slice qs N cs) dv) 48)) w.heap.size h s (.slice qs N cs) dv:=heap_alloc_new w _;obtain ⟨W,hW⟩:∃ W,w.alloc (.cells (Qf h s (.slice qs N cs) dv) 48)=W:=⟨_,rfl⟩
 obtain ⟨b,hb⟩:∃ b,w.heap.size=b:=⟨_,rfl⟩
 rw [hW] at gB aA;rw [hb] at aA;have gr:=grown1 W (.cells (Zd nm x) 28);have x2:ExAt (W.alloc (.cells (Zd nm x) 28)) W.heap.size nm x:=heap_alloc_new W _;obtain ⟨W2,hW2⟩:∃ W2,W.alloc (.cells (Zd nm x) 28)=W2:=⟨_,rfl⟩
 obtain ⟨b2,hb2⟩:∃ b,W.heap.size=b:=⟨_,rfl⟩
 rw [hW2] at gr x2;rw [hb2] at x2;have a2:=aA.kept gr (by simp);have KG:=fun d os=>Qt (below_regrown W2 d os) none;have LO:=Lv (fun d os=>Calls.regrown_of ((Pq (h:=h) (dv:=dv) (((k.grown gB).grown gr).grown (KG d os))).mono (fun _ _ h=>(⟨h.1,Qg h.2 (Nat.le_refl _) (by simp)⟩ : _∧_))));have LD:=Lv (fun (V:World) (hV:∃ p:Regrown,V=Go.Sort.grow (redrawn W2 p.d) p.os)=>(by obtain ⟨p,rfl⟩:=hV;exact Kn (a2.kept (KG p.d p.os) (by simp)):(loadVar 48 ⟨b,0,none⟩).run Tryz.prog V=.ok (imgV h s (.slice qs N cs) dv) V))
 have AL:=Lv (lt_of_block a2);rw [← hN] at LO;obtain ⟨r,hr⟩:∃ r:Int,r=atN s x sl:=⟨_,rfl⟩
 rw [← hr];unfold atN at hr;generalize lowN s.segs=L at *;have RR:=Lv hr;have G2:=Lv (Qz gB gr);have K3:=Lv (fun d os=>cell_regrown x2.c.2.2.2.1 d os);obtain ⟨-,y1,-,y3,-,-,-⟩:=x2.c;have yl:=x2.lt;have HK:=Lv KG;obtain ⟨kind,weak,value,resolver,ordinal,other⟩:=x;simp only [] at y1 y3 RR K3;clear k gB aA gr x2 hN KG a2 hr;simp only [imgV,Qf,exV,Zd] at hW hW2 LO LD ⊢
 by_cases k2:kind=2
 ·subst k2
  have E:=Lv (show r=value from by rw [RR.o,if_pos rfl]);go_enter Tryz.func21,Tryz.ntmps21;go_upto_region 1 with fail;clear hW hb hW2 hb2;go_wp2;go_ret
  exact ⟨by rw [E.o];rfl,G2.o⟩
 have k2':(kind == 2)=false:=by simp;exact k2
 by_cases k14:kind=1∨kind=4
 ·have hk:(kind == 1)=true∨((kind == 1)=false∧(kind == 4)=true):=by
   rcases k14 with rfl | rfl
   ·exact .inl rfl
   ·exact .inr ⟨rfl,rfl⟩
  have E:=Lv (show r=IntKind.u64.wrap (IntKind.u64.wrap (L + sl) + value) from by rw [RR.o,if_neg k2,if_pos k14]);clear k14 k2;rcases hk with k1 | ⟨k1,k4⟩
  all_goals
   go_enter Tryz.func21,Tryz.ntmps21;go_upto_region 1 with fail;clear hW hb hW2 hb2;go_upto_region 4 with fail;have k3:=K3.o;refine wp_region_quiet_below (by kernel_rfl) (by kernel_rfl) ?_
   refine Zj rfl _ rfl rfl LD.o ?_
   quiet_step (with_reducible exact LO.o _ _)
   repeat (quiet_step (fail))
   refine wpQuiet_nil ?_
   intro _ hw';obtain ⟨⟨dq,osq⟩,hw''⟩:=hw';subst hw'';have GG:=Lv (Qz G2.o (HK.o dq osq));clear k3 y1 y3;go_wp2;go_ret
   exact ⟨by rw [E.o];rfl,GG.o⟩
 have k1':(kind == 1)=false:=by simp;omega
 have k4':(kind == 4)=false:=by simp;omega
 have E:=Lv (show r=0 from by rw [RR.o,if_neg k2,if_neg k14]);clear k14 k2;go_enter Tryz.func21,Tryz.ntmps21;go_upto_region 1 with fail;clear hW hb hW2 hb2;go_wp2;go_ret
 exact ⟨by rw [E.o];rfl,G2.o⟩
theorem refAt_any {l:List Sg} {qs:Option Addr} {cs:Nat} (k:Zt w s l qs cs) (nm:ByteArray) (x:Ex) (sl:Int) :
  Calls Tryz.prog 22 #[imgV h s (.slice qs l.length cs) dv,exV nm x,.int .u64 sl] w fun e w'=>e=.returned (.int .u64 (atN s x sl))∧w.grownBy w' none:=by
 obtain ⟨N,hN⟩:∃ N,N=l.length:=⟨_,rfl⟩
 rw [← hN];have gB:=grown1 w (.cells (Qf h s (.slice qs N cs) dv) 48);have aA:Zp (w.alloc (.cells (Qf h s (.slice qs N cs) dv) 48)) w.heap.size h s (.slice qs N cs) dv:=heap_alloc_new w _;obtain ⟨W,hW⟩:∃ W,w.alloc (.cells (Qf h s (.slice qs N cs) dv) 48)=W:=⟨_,rfl⟩
 obtain ⟨b,hb⟩:∃ b,w.heap.size=b:=⟨_,rfl⟩
 rw [hW] at gB aA;rw [hb] at aA;have gr:=grown1 W (.cells (Zd nm x) 28);have x2:ExAt (W.alloc (.cells (Zd nm x) 28)) W.heap.size nm x:=heap_alloc_new W _;obtain ⟨W2,hW2⟩:∃ W2,W.alloc (.cells (Zd nm x) 28)=W2:=⟨_,rfl⟩
 obtain ⟨b2,hb2⟩:∃ b,W.heap.size=b:=⟨_,rfl⟩
 rw [hW2] at gr x2;rw [hb2] at x2;have a2:=aA.kept gr (by simp);have KG:=fun d os=>Qt (below_regrown W2 d os) none;have LO:=Lv (fun d os=>Calls.regrown_of ((W9 (h:=h) (dv:=dv) (((k.grown gB).grown gr).grown (KG d os))).mono (fun _ _ h=>(⟨h.1,Qg h.2 (Nat.le_refl _) (by simp)⟩ : _∧_))));have LD:=Lv (fun (V:World) (hV:∃ p:Regrown,V=Go.Sort.grow (redrawn W2 p.d) p.os)=>(by obtain ⟨p,rfl⟩:=hV;exact Kn (a2.kept (KG p.d p.os) (by simp)):(loadVar 48 ⟨b,0,none⟩).run Tryz.prog V=.ok (imgV h s (.slice qs N cs) dv) V))
 have AL:=Lv (lt_of_block a2);rw [← hN] at LO;obtain ⟨r,hr⟩:∃ r:Int,r=atN s x sl:=⟨_,rfl⟩
 rw [← hr];unfold atN at hr;generalize lowN s.segs=L at *;have RR:=Lv hr;have G2:=Lv (Qz gB gr);have K3:=Lv (fun d os=>cell_regrown x2.c.2.2.2.1 d os);obtain ⟨-,y1,-,y3,-,-,-⟩:=x2.c;have yl:=x2.lt;have HK:=Lv KG;obtain ⟨kind,weak,value,resolver,ordinal,other⟩:=x;simp only [] at y1 y3 RR K3;clear k gB aA gr x2 hN KG a2 hr;simp only [imgV,Qf,exV,Zd] at hW hW2 LO LD ⊢
 by_cases k2:kind=2
 ·subst k2
  have E:=Lv (show r=value from by rw [RR.o,if_pos rfl]);go_enter Tryz.func22,Tryz.ntmps22;go_upto_region 1 with fail;clear hW hb hW2 hb2;go_wp2;go_ret
  exact ⟨by rw [E.o];rfl,G2.o⟩
 have k2':(kind == 2)=false:=by simp;exact k2
 by_cases k14:kind=1∨kind=4
 ·have hk:(kind == 1)=true∨((kind == 1)=false∧(kind == 4)=true):=by
   rcases k14 with rfl | rfl
   ·exact .inl rfl
   ·exact .inr ⟨rfl,rfl⟩
  have E:=Lv (show r=IntKind.u64.wrap (IntKind.u64.wrap (L + sl) + value) from by rw [RR.o,if_neg k2,if_pos k14]);clear k14 k2;rcases hk with k1 | ⟨k1,k4⟩
  all_goals
   go_enter Tryz.func22,Tryz.ntmps22;go_upto_region 1 with fail;clear hW hb hW2 hb2;go_upto_region 4 with fail;have k3:=K3.o;refine wp_region_quiet_below (by kernel_rfl) (by kernel_rfl) ?_
   refine Zj rfl _ rfl rfl LD.o ?_
   quiet_step (with_reducible exact LO.o _ _)
   repeat (quiet_step (fail))
   refine wpQuiet_nil ?_
   intro _ hw';obtain ⟨⟨dq,osq⟩,hw''⟩:=hw';subst hw'';have GG:=Lv (Qz G2.o (HK.o dq osq));clear k3 y1 y3;go_wp2;go_ret
   exact ⟨by rw [E.o];rfl,GG.o⟩
 have k1':(kind == 1)=false:=by simp;omega
 have k4':(kind == 4)=false:=by simp;omega
 have E:=Lv (show r=0 from by rw [RR.o,if_neg k2,if_neg k14]);clear k14 k2;go_enter Tryz.func22,Tryz.ntmps22;go_upto_region 1 with fail;clear hW hb hW2 hb2;go_wp2;go_ret
 exact ⟨by rw [E.o];rfl,G2.o⟩
end
end Go.Proofs.YtkmbkpoclhbmgaaGreat
namespace Go.Proofs.YtkmbkpoclhbmgaaGreat.exportAll
open Go.RowKit Go.Sort
variable {w:World}
structure AlP (wc wr:World) (N:Nat) (i:Value):Prop where
 ex:∃ k:Nat,k≤N∧i=.int .i64 (k:Int)
 grown:wc.grownBy wr none
theorem load_row {q:Option Addr} {D:Out} (h:Xk w q D) {i g:Nat} {y:List Int × Ex} (hq:q=some ⟨g,0,none⟩) (hy:D[i]?=some y):(loadVar 28 ⟨g,i * 7,none⟩).run Tryz.prog w=.ok (exV (strOfNums y.1) y.2) w:=by
 obtain ⟨g',e,hc⟩:=h i y hy;rw [hq] at e;injection e with e;injection e with e _ _;subst e;exact run_loadVar_mid (P:=Tryz.prog) w g (i * 7) 28 (Q4 y) _ (fun j v hv=>by have hj:j < 7:=(List.getElem?_eq_some_iff.1 hv).1;rw [← hv];exact hc j hj) Tryz.underlying28 rfl (by kernel_rfl)
theorem Bt.on {ys:List Int} {q q1:Option Addr} {c c1:Nat} {s:St} {l:List Sg} {qs:Option Addr} {cs nd:Nat} (h:Bt w ys q c s l qs cs nd) (hb:Qk w q1 c1 ys) (hc:ys.length≤c1) (hm:c1≤9223372036854775807):Bt w ys q1 c1 s l qs cs nd :=
 ⟨hb,hc,hm,h.few,h.byt,h.img,h.secs,h.tr,h.sy,h.st,h.deps⟩
theorem walk (a0:Option Addr) (len0 cap0:Nat) (z0:List Int) (t:List Int) (sl:Int) (w:World) (w0:P9 .u8 w a0 len0 cap0 z0) (ht:Byt t) (htm:t.length≤9223372036854775807) (_:(Lit.int .u64 sl).wf=true) :
  Calls Tryz.prog 4 #[.slice a0 len0 cap0,.string (strOfNums t),.int .u64 sl] w fun e w'=>e=.returned (.bool true)∧Below w.heap.size w w':=by
 have hcap:len0≤cap0∧cap0≤9223372036854775807:=by
  rcases w0 with ⟨_,rfl,rfl,_⟩ | ⟨_,_,h1,h2,_⟩
  ·omega
  ·unfold maxLen at h2;omega
 obtain ⟨ys,rfl,hys,hb,_⟩:=w0.bytes;have K:=Lv (fun V=>known11_any V);have BL:=Lv (fun (w':World) (h:w.grownBy w' none)=>(Qg h (Nat.le_refl _) (fun k e=>by cases e):Go.RowKit.Below w.heap.size w w'));have hst:(strOfNums t).size=t.length:=strOfNums_size _;by_cases h0 : 60000 < ys.length
 ·have d0:decide ((60000:Int) < (ys.length:Int))=true:=by simp;omega
  clear w0 hb hys ht htm hcap;go_enter Tryz.func4,Tryz.ntmps4;go_wp2_with fail;refine (K.o _).mono ?_
  rintro e wz ⟨rfl,hg⟩;have GZ:=Lv (Qz (Qq w none) hg);clear hg;go_wp2;go_ret
  exact ⟨rfl,BL.o _ GZ.o⟩
 have d0:decide ((60000:Int) < (ys.length:Int))=false:=by simp;omega
 by_cases h1 : 300 < t.length
 ·have d1:decide ((300:Int) < (t.length:Int))=true:=by simp;omega
  clear w0 hb hys ht htm hcap;go_enter Tryz.func4,Tryz.ntmps4;go_wp2_with fail;refine (K.o _).mono ?_
  rintro e wz ⟨rfl,hg⟩;have GZ:=Lv (Qz (Qq w none) hg);clear hg;go_wp2;go_ret
  exact ⟨rfl,BL.o _ GZ.o⟩
 have d1:decide ((300:Int) < (t.length:Int))=false:=by simp;omega
 have HB:=Lv hb;have HY:=Lv hys;have HT:=Lv (And.intro ht htm);have HC:=Lv hcap;have h47:ys.length≤140737488355328:=by omega
 have H47:=Lv h47;have RO:=Lv (rof_any (w:=w) ys a0 cap0 ys.length hb rfl hcap.1 hcap.2 h47 hys);have IN:=Lv (fun (V:World) (lo:Nat) (sv dv:Value) (hV:w.grownBy V none) (L:Ya V lo (ofS ys) sv dv)=>in_of (w:=V) (HB.o.kept hV (by simp)) HC.o.1 HC.o.2 H47.o HY.o L);obtain ⟨H,hH⟩:∃ H,H=ofH ys:=⟨_,rfl⟩
 obtain ⟨S,hS⟩:∃ S,S=ofS ys:=⟨_,rfl⟩
 obtain ⟨E,hE⟩:∃ E,E=Hw ys:=⟨_,rfl⟩
 rw [← hH,← hS,← hE] at RO;rw [← hS] at IN;clear w0 hb hys ht htm hcap h0 h1 hH hS hE h47;go_enter Tryz.func4,Tryz.ntmps4;go_upto_region 3 with fail;go_wp2_with fail;refine RO.o.mono ?_
 rintro e w2 ⟨sv,dv,lo,rfl,hL,hg⟩;obtain ⟨l,qs,cs,qd,cd,rfl,rfl,hI⟩:=IN.o w2 lo sv dv hg hL;have G2:=Lv hg;have X2:=Lv hI;have ZB:=Lv (Zp.new w2);obtain ⟨N1,hN1⟩:∃ n,n=l.length:=⟨_,rfl⟩
 obtain ⟨nd,hnd⟩:∃ n,n=S.deps.length:=⟨_,rfl⟩
 rw [← hnd] at X2;rw [← hN1,← hnd];have HN1:=Lv hN1.symm;clear hL hg hI IN RO hN1 hnd;go_upto_region 4 with (refine Zx (h:=H) (s:=S) (sv:=.slice qs N1 cs) (dv:=.slice qd nd cd) rfl _ _ rfl rfl rfl ZB.o ⟨_,_,_,rfl⟩ ⟨_,_,_,rfl⟩ ?_)
 have gN:=Qw (grown1 w2 (.cells #[.int .i64 0,.int .i64 0,.int .u32 0,.string ⟨#[]⟩,.slice none 0 0,.slice none 0 0,.int .u64 0,.int .u64 0,.int .u64 0,.int .u64 0,.int .u64 0,.int .u64 0,.int .u64 0,.int .u64 0,.int .u64 0,.int .u64 0,.int .u64 0,.int .u64 0,.int .u64 0,.int .u64 0,.int .u64 0,.int .u64 0,.int .u64 0,.bool false] 48)) (Za (g:=w2.heap.size) (w2.alloc (.cells #[.int .i64 0,.int .i64 0,.int .u32 0,.string ⟨#[]⟩,.slice none 0 0,.slice none 0 0,.int .u64 0,.int .u64 0,.int .u64 0,.int .u64 0,.int .u64 0,.int .u64 0,.int .u64 0,.int .u64 0,.int .u64 0,.int .u64 0,.int .u64 0,.int .u64 0,.int .u64 0,.int .u64 0,.int .u64 0,.int .u64 0,.int .u64 0,.bool false] 48)) (Qf H S (.slice qs N1 cs) (.slice qd nd cd))) (Nat.le_refl _)
 have I3:=ZB.o.put (h:=H) (s:=S) (sv:=.slice qs N1 cs) (dv:=.slice qd nd cd);obtain ⟨w3,hw3⟩:∃ w3,(w2.alloc (.cells #[.int .i64 0,.int .i64 0,.int .u32 0,.string ⟨#[]⟩,.slice none 0 0,.slice none 0 0,.int .u64 0,.int .u64 0,.int .u64 0,.int .u64 0,.int .u64 0,.int .u64 0,.int .u64 0,.int .u64 0,.int .u64 0,.int .u64 0,.int .u64 0,.int .u64 0,.int .u64 0,.int .u64 0,.int .u64 0,.int .u64 0,.int .u64 0,.bool false] 48)).setRow w2.heap.size (Qf H S (.slice qs N1 cs) (.slice qd nd cd))=w3:=⟨_,rfl⟩
 rw [hw3] at gN I3 ⊢;have G3:=Lv (Qz G2.o gN);have M3:=Lv I3;have X3:=Lv (X2.o.grown gN);clear gN I3 hw3 ZB X2;generalize w2.heap.size=M at *;by_cases h0:E=0
 rotate_left
 ·have e1:decide (E=0)=false:=decide_eq_false h0
  go_wp2_with fail;refine (K.o _).mono ?_
  rintro e wz ⟨rfl,hg⟩;have GZ:=Lv (Qz G3.o hg);clear hg;go_wp2;go_ret
  exact ⟨rfl,BL.o _ GZ.o⟩
 subst h0;go_upto_region 7 with (at_builtin;refine wp_append_bytes rfl (.const (.slice none 0 0)) (.tmp 38) rfl rfl _ _ _ rfl (World.ownsRow_nil w3 w3.heap.size 5 1) ys ys.length rfl rfl (HB.o.kept G3.o (by simp)) ?_ ?_ ?_)
 ·have:=H47.o;omega
 ·exact Nat.le_refl _
 intro v1 w4 h1 hg1
 try rw [Nat.zero_add] at h1
 try rw [List.nil_append] at h1
 obtain ⟨q1,c1,rfl⟩:=Qp h1;have g34:w3.grownBy w4 none:=hg1;have G4:=Lv (Qz G3.o g34);have IO:=Lv (Qk.of_own rfl h1);have M4:=Lv (M3.o.kept g34 (by simp));have X4:=Lv (X3.o.grown g34);have Y4:=Lv (Bt.on X4.o (Qk.of_own rfl h1) (Jw h1) (Vp h1));clear h1 hg1 g34 X3;obtain ⟨Z,hZ⟩:∃ n,n=ys.length:=⟨_,rfl⟩
 obtain ⟨⟨NE,L⟩,hR⟩:∃ R,R=Bj ys S nd:=⟨_,rfl⟩
 have HR:=Lv hR.symm;obtain ⟨⟨FE,FX⟩,hF⟩:∃ R,R=Gr ys S nd t:=⟨_,rfl⟩
 have HF:=Lv hF.symm;rw [← hZ];have HZ:=Lv hZ.symm;have EA:=Lv (show Calls Tryz.prog 17 #[.slice q1 Z c1,imgV H S (.slice qs N1 cs) (.slice qd nd cd)] w4 fun e w'=>ExsO w4 w' (NE,L) e by
  have:=Gx (h:=H) (qd:=qd) (cd:=cd) Y4.o HZ.o
  rw [HR.o,HN1.o] at this;exact this)
 have EB:=Lv (show ∀ V,w4.grownBy V none→Calls Tryz.prog 18 #[.slice a0 Z cap0,imgV H S (.slice qs N1 cs) (.slice qd nd cd)] V fun e w'=>ExsO V w' (NE,L) e from fun V hV=>by
  have:=refAll11_any (h:=H) (qd:=qd) (cd:=cd) (X4.o.grown hV) HZ.o
  rw [HR.o,HN1.o] at this;exact this)
 have EF:=Lv (show ∀ V,w4.grownBy V none→Calls Tryz.prog 19 #[.slice q1 Z c1,imgV H S (.slice qs N1 cs) (.slice qd nd cd),.string (strOfNums t)] V fun e w'=>FiO V w' t (FE,FX) e from fun V hV=>by
  have:=exportFind_any (h:=H) (qd:=qd) (cd:=cd) (Y4.o.grown hV) HZ.o t HT.o.1 HT.o.2
  rw [HF.o,HN1.o] at this;exact this)
 have EG:=Lv (show ∀ V,w4.grownBy V none→Calls Tryz.prog 20 #[.slice a0 Z cap0,imgV H S (.slice qs N1 cs) (.slice qd nd cd),.string (strOfNums t)] V fun e w'=>FiO V w' t (FE,FX) e from fun V hV=>by
  have:=refFind11_any (h:=H) (qd:=qd) (cd:=cd) (X4.o.grown hV) HZ.o t HT.o.1 HT.o.2
  rw [HF.o,HN1.o] at this;exact this)
 have A1:=Lv (show ∀ (nm:ByteArray) (x:Ex) V,w4.grownBy V none→Calls Tryz.prog 21 #[imgV H S (.slice qs N1 cs) (.slice qd nd cd),exV nm x,.int .u64 sl] V fun e w'=>e=.returned (.int .u64 (atN S x sl))∧V.grownBy w' none from fun nm x V hV=>by
  have:=At_any (h:=H) (dv:=.slice qd nd cd) (X4.o.grown hV).img nm x sl
  rw [HN1.o] at this;exact this)
 have A2:=Lv (show ∀ (nm:ByteArray) (x:Ex) V,w4.grownBy V none→Calls Tryz.prog 22 #[imgV H S (.slice qs N1 cs) (.slice qd nd cd),exV nm x,.int .u64 sl] V fun e w'=>e=.returned (.int .u64 (atN S x sl))∧V.grownBy w' none from fun nm x V hV=>by
  have:=refAt_any (h:=H) (dv:=.slice qd nd cd) (X4.o.grown hV).img nm x sl
  rw [HN1.o] at this;exact this)
 clear hZ hR hF X4 Y4;go_upto_region 8 with (first
  |(refine Qi rfl (.tmp 7) rfl (by kernel_rfl) M4.o ?_)
  |(go_at_call 17;refine EA.o.mono ?_;rintro e w5 ⟨⟨q5,c5,rfl,hr5,hl5,hc5⟩,hg⟩))
 try simp only [] at hr5 hl5 ⊢
 have P5:=Lv hg;have R5:=Lv hr5;have C5:=Lv (And.intro hl5 hc5);have M5:=Lv (M4.o.kept hg (by simp));clear hg hr5 hl5 hc5 EA;go_upto_region 9 with (first
  |(refine Qi rfl (.tmp 7) rfl (by kernel_rfl) M5.o ?_)
  |(go_at_call 18;refine (EB.o w5 P5.o).mono ?_;rintro e w6 ⟨⟨q6,c6,rfl,hr6,hl6,hc6⟩,hg⟩))
 try simp only [] at hr6 hl6 ⊢
 have P6:=Lv (Qz P5.o hg);have R6:=Lv hr6;have R56:=Lv (R5.o.grown hg);have M6:=Lv (M4.o.kept P6.o (by simp));clear hg hr6 hl6 hc6 EB R5 M5;obtain ⟨N,hN⟩:∃ N,N=L.length:=⟨_,rfl⟩
 rw [← hN] at C5 ⊢;have HN:=Lv hN.symm;clear hN;obtain ⟨nm,hnm⟩:∃ nm,nm=nmOf (strOfNums t) FX:=⟨_,rfl⟩
 obtain ⟨x,hx⟩:∃ x,x=exOf FX:=⟨_,rfl⟩
 obtain ⟨fb,hfb⟩:∃ b,b=FX.isSome:=⟨_,rfl⟩
 have NX:=Lv (And.intro hnm.symm (And.intro hx.symm hfb.symm));clear hnm hx hfb;have EF':=Lv (show ∀ V,w4.grownBy V none→Calls Tryz.prog 19 #[.slice q1 Z c1,imgV H S (.slice qs N1 cs) (.slice qd nd cd),.string (strOfNums t)] V fun e w'=>e=.returned (.tuple #[.agg (Zd nm x),.bool fb,.int .i64 FE])∧V.grownBy w' none from fun V hV=>(EF.o V hV).mono fun e w' h=>⟨by have:=h.ret;simp only [] at this;rw [NX.o.1,NX.o.2.1,NX.o.2.2] at this;exact this,h.grown⟩)
 have EG':=Lv (show ∀ V,w4.grownBy V none→Calls Tryz.prog 20 #[.slice a0 Z cap0,imgV H S (.slice qs N1 cs) (.slice qd nd cd),.string (strOfNums t)] V fun e w'=>e=.returned (.tuple #[.agg (Zd nm x),.bool fb,.int .i64 FE])∧V.grownBy w' none from fun V hV=>(EG.o V hV).mono fun e w' h=>⟨by have:=h.ret;simp only [] at this;rw [NX.o.1,NX.o.2.1,NX.o.2.2] at this;exact this,h.grown⟩);clear EF EG NX
 unfold Zd at EF' EG';go_upto_region 10 with (first
  |(refine Qi rfl (.tmp 7) rfl (by kernel_rfl) M6.o ?_)
  |(go_at_call 19;refine (EF'.o w6 P6.o).mono ?_;rintro e w7 ⟨rfl,hg⟩))
 have g8:=grown1 w7 (.cells (Zd nm x) 28);have E8:=Lv (show ExAt (w7.alloc (.cells (Zd nm x) 28)) w7.heap.size nm x from heap_alloc_new w7 _);unfold Zd at g8 E8;obtain ⟨w8,hw8⟩:∃ W,W=w7.alloc (.cells #[.string nm,.int .i64 x.kind,.bool x.weak,.int .u64 x.value,.int .u64 x.resolver,.int .u64 x.ordinal,.string (strOfNums x.other)] 28):=⟨_,rfl⟩
 obtain ⟨b8,hb8⟩:∃ g,g=w7.heap.size:=⟨_,rfl⟩
 rw [← hw8] at g8 E8 ⊢;rw [← hb8] at E8 ⊢;have P8:=Lv (Qz P6.o (Qz hg g8));have S8:=Lv (Qz hg g8);have M8:=Lv (M4.o.kept P8.o (by simp));clear hg g8 hw8 hb8 M6;go_upto_region 11 with (first
  |(refine Qi rfl (.tmp 7) rfl (by kernel_rfl) M8.o ?_)
  |(go_at_call 20;refine (EG'.o w8 P8.o).mono ?_;rintro e w9 ⟨rfl,hg⟩))
 have g10:=grown1 w9 (.cells (Zd nm x) 28);have F10:=Lv (show ExAt (w9.alloc (.cells (Zd nm x) 28)) w9.heap.size nm x from heap_alloc_new w9 _);unfold Zd at g10 F10;obtain ⟨wt,hwt⟩:∃ W,W=w9.alloc (.cells #[.string nm,.int .i64 x.kind,.bool x.weak,.int .u64 x.value,.int .u64 x.resolver,.int .u64 x.ordinal,.string (strOfNums x.other)] 28):=⟨_,rfl⟩
 obtain ⟨bt,hbt⟩:∃ g,g=w9.heap.size:=⟨_,rfl⟩
 rw [← hwt] at g10 F10 ⊢;rw [← hbt] at F10 ⊢;have PT:=Lv (Qz P8.o (Qz hg g10));have ST:=Lv (Qz S8.o (Qz hg g10));have ET:=Lv (E8.o.kept (Qz hg g10) (by simp));clear hg g10 hwt hbt M8 EF' EG';have SM:=Lv (same9_any L N HN.o q5 q6 c5 c6 (by have:=C5.o;omega) (R56.o.grown ST.o) (R6.o.grown ST.o));go_upto_region 11 with fail
 go_wp2_with fail;refine SM.o.mono ?_
 rintro e wu ⟨rfl,hg⟩;have PU:=Lv (Qz PT.o hg);have SU:=Lv (Qz ST.o hg);have EU:=ET.o.kept hg (by simp);have FU:=F10.o.kept hg (by simp);obtain ⟨k0,k1,k2,k3,k4,k5,k6⟩:=EU.c;obtain ⟨j0,j1,j2,j3,j4,j5,j6⟩:=FU.c;have cv1:=(IO.o.kept PU.o (by simp)).text HZ.o;have cv2:=(HB.o.kept (Qz G4.o PU.o) (by simp)).text HZ.o;clear hg SM EU FU;go_upto_region 13 with fail
 clear k0 k1 k2 k3 k4 k5 k6 j0 j1 j2 j3 j4 j5 j6 cv1 cv2;go_wp2_with fail;go_loopw [20] (fun i wr=>AlP wu wr N i) (fun i _=>N - (intOf i).toNat)
 case atStart=>exact ⟨⟨0,Nat.zero_le _,rfl⟩,Qq _ _⟩
 case round =>
  obtain ⟨⟨k,hk,rfl⟩,hg⟩:=hrel;by_cases hlt:k < N
  ·obtain ⟨y,hy⟩:∃ y,L[k]?=some y:=⟨_,List.getElem?_eq_getElem (by rw [HN.o];exact hlt)⟩
   obtain ⟨g5,rfl,-⟩:=(R56.o.grown (Qz SU.o hg)).at hy;have GR:=Lv (Qz PU.o hg);have GU:=Lv hg;have RW:=Lv (fun (V:World) (hV:wr.grownBy V none)=>load_row (R56.o.grown (Qz SU.o (Qz GU.o hV))) rfl hy);have hNb:N≤9223372036854775807:=by have:=C5.o;omega
   have hdl:decide ((k:Int) < (N:Int))=true:=by simp;omega
   have hkI:(k:Int) < (N:Int):=by omega
   clear hg hy;have KG:=fun d os=>Qt (below_regrown wr d os) none;obtain ⟨AT,hAT⟩:∃ a,a=atN S y.2 sl:=⟨_,rfl⟩
   have T1:=Lv (fun d os=>Calls.regrown_of ((A1.o (strOfNums y.1) y.2 (grow (redrawn wr d) os) (Qz GR.o (KG d os))).mono (fun _ _ h=>(⟨h.1,Qg h.2 (Nat.le_refl _) (by simp)⟩ : _∧_))));have T2:=Lv (fun d os=>Calls.regrown_of ((A2.o (strOfNums y.1) y.2 (grow (redrawn wr d) os) (Qz GR.o (KG d os))).mono (fun _ _ h=>(⟨h.1,Qg h.2 (Nat.le_refl _) (by simp)⟩ : _∧_))))
   rw [← hAT] at T1 T2;have LI:=Lv (fun (V:World) (hV:∃ p:Regrown,V=grow (redrawn wr p.d) p.os)=>(by obtain ⟨p,rfl⟩:=hV;exact run_loadVar_row _ M _ _ _ _ _ (M4.o.kept (Qz GR.o (KG p.d p.os)) (by simp)) Tryz.underlying48 rfl (by kernel_rfl):(loadVar 48 ⟨M,0,none⟩).run Tryz.prog V=.ok (imgV H S (.slice qs N1 cs) (.slice qd nd cd)) V));have LX:=Lv (fun (V:World) (hV:∃ p:Regrown,V=grow (redrawn wr p.d) p.os)=>(by obtain ⟨p,rfl⟩:=hV;exact RW.o _ (KG p.d p.os):(loadVar 28 ⟨g5,k * 7,none⟩).run Tryz.prog V=.ok (exV (strOfNums y.1) y.2) V))
   have HK:=Lv KG;clear KG hAT;go_upto_region 16 with fail;refine wp_region_quiet_below (by kernel_rfl) (by kernel_rfl) ?_
   refine Zj rfl _ rfl rfl LI.o ?_
   iterate 3 (quiet_step (fail))
   refine Kk rfl _ rfl rfl LX.o ?_
   iterate 1 (quiet_step (fail))
   quiet_step (with_reducible exact T1.o _ _)
   refine Zj rfl _ rfl rfl LI.o ?_
   iterate 3 (quiet_step (fail))
   refine Kk rfl _ rfl rfl LX.o ?_
   iterate 1 (quiet_step (fail))
   quiet_step (with_reducible exact T2.o _ _)
   repeat (quiet_step (fail))
   refine wpQuiet_nil ?_
   intro _ hw';obtain ⟨⟨dq,osq⟩,hw''⟩:=hw';subst hw'';have GW:=Lv (Qz GU.o (HK.o dq osq));go_wp2_with fail;go_roundw
   case rel=>exact ⟨⟨k + 1,hlt,by go_num⟩,GW.o⟩
   case measure=>simp [intOf];omega
  ·obtain rfl:k=N:=by omega
   have GR:=Lv (Qz G4.o (Qz PU.o hg));clear hg;go_wp2_with fail;refine (K.o _).mono ?_
   rintro e wz ⟨rfl,hg⟩;have GZ:=Lv (Qz GR.o hg);clear hg;go_wp2;go_ret
   exact ⟨rfl,BL.o _ GZ.o⟩
end Go.Proofs.YtkmbkpoclhbmgaaGreat.exportAll
/- 'ExportAll': for every input the call returns true, and what was handed in reads as it did. The form's own reach is the one condition. -/
namespace Go.Proofs.YtkmbkpoclhbmgaaGreat.exportAll
open Go.ChangeShapes Go.WideShapes Go.ChangeAt Go.RowKit
open Go.ChangeMaps (open_string shut_string)
theorem own:ownKnob Tryz.prog.godebug=none:=by kernel_rfl
theorem laidOut:laidOutB Tryz.prog=true:=by kernel_rfl
theorem text_nums (s:ByteArray) (h:s.size≤maxLen):∃ t:List Int,Byt t∧t.length≤9223372036854775807∧strOfNums t=s:=by
 refine ⟨s.data.toList.map fun u=>(u.toNat:Int),?_,?_,?_⟩
 ·intro x hx
  obtain ⟨u,_,rfl⟩:=List.mem_map.1 hx
  have:=u.toNat_lt
  omega
 ·rw [List.length_map,Array.length_toList]
  exact h
 ·apply ByteArray.ext
  apply Array.toList_inj.1
  rw [strOfNums_data,List.map_map]
  conv=>rhs;rw [← List.map_id s.data.toList]
  apply List.map_congr_left
  intro u _;apply UInt8.toNat_inj.1
  have:=u.toNat_lt
  simp only [Function.comp,UInt8.toNat_ofNat',id];omega
set_option maxRecDepth 100000 in
theorem lifted (os:Os) (started:os.Started) (H:Type) (enc:TypeId × Value→H) :
  ReturnsInHanded {} Tryz.checked os 4 .any (Rows.exportAllSpec.pre6 enc Tryz.prog Tryz.f4 Rows.exportAllRow.domain false) (Rows.exportAllSpec.post enc Tryz.prog Tryz.f4 false true false false):=by
 refine returnsInHanded_of_change (C:=Tryz.checked) own started (by kernel_rfl) Tryz.func4
  (ChangeSpec.witness6 (enc:=enc) (C:=Tryz.checked) false ⟨#[],#[.slice none 0 0,.string ⟨#[]⟩,.int .u64 0],[]⟩ 8 (by kernel_rfl) (by kernel_rfl) (by kernel_rfl) (by kernel_rfl)) ?_
 intro W base args ds gs before hval0 hW hcnd _;have hval:∀ (j:Nat) t v,Tryz.f4.params[j]?=some t→args[j]?=some v→Value.okWide Tryz.prog W .any base t v:=hval0
 have hW':=hW;obtain ⟨p,q,hA0,hV,rfl,hfz,hnd⟩:=hW;have hA:DataW.TrodAll enc Tryz.prog W 0 (fun _=>true) true Tryz.f4.params.toList args.toList ds p:=hA0;rw [Tryz.params4] at hA hval;obtain ⟨v0,vs0,d0,ds0,p0,q0,hargs,rfl,rfl,h0,r0⟩:=trodAll_cons hA;obtain ⟨v1,vs1,d1,ds1,p1,q1,rfl,rfl,rfl,h1,r1⟩:=trodAll_cons r0;obtain ⟨v2,vs2,d2,ds2,p2,q2,rfl,rfl,rfl,h2,r2⟩:=trodAll_cons r1;obtain ⟨rfl,rfl,rfl⟩:=trodAll_nil r2
 obtain rfl:args=#[v0,v1,v2]:=by cases args;simp_all
 obtain ⟨rfl,rfl⟩:=trodVars_none hV;obtain ⟨a0,len0,cap0,rfl⟩:=okWide_slice Tryz.underlying29 (hval 0 29 v0 rfl rfl);have k0:=h0;have lt0:∀ x∈p0,x.block < W.heap.size:=by obtain ⟨m,hm⟩:=k0;exact DataW.trod_lt m _ _ _ hm
 obtain ⟨z0,w0⟩:∃ zs,P9 .u8 W a0 len0 cap0 zs:=by
  obtain ⟨fuel,hf⟩:=h0;rcases open_ints Tryz.underlying29 Tryz.underlying5 (by kernel_rfl) hf with ⟨hcs,_⟩ | ⟨x,l,c,zs,hcs,_,hl,hm,hz,_,hcell,hwz⟩
  · simp [Value.cells] at hcs
    obtain ⟨rfl,rfl,rfl⟩:=hcs;exact ⟨[],.inl ⟨rfl,rfl,rfl,rfl⟩⟩
  · simp [Value.cells] at hcs
    obtain ⟨rfl,rfl,rfl⟩:=hcs;exact ⟨zs,.inr ⟨_,rfl,hl,hm,by simpa using hz,hcell,hwz⟩⟩
 obtain ⟨s1,rfl,rfl,rfl,ls1⟩:=open_string Tryz.underlying9 (hval 1 9 v1 rfl rfl) h1;obtain ⟨t1,bt1,mt1,rfl⟩:=text_nums s1 ls1;obtain ⟨a2,rfl,rfl,rfl,w2⟩:=open_int Tryz.underlying26 (hval 2 26 v2 rfl rfl) h2;clear hA0 hval0;refine (walk a0 len0 cap0 z0 t1 a2 W w0 bt1 mt1 w2).mono fun e W' ⟨he,bel⟩=>?_
 subst he;exact ⟨_,rfl,_,_,_,[],_,[],hW',trodAll_mk1 (shut_bool Tryz.underlying4 _),(trodAll_cons_mk (Below.trod laidOut (by kernel_rfl) (of_decide_eq_true (by kernel_rfl)) k0 bel lt0) (trodAll_cons_mk (shut_string Tryz.underlying9 ls1) (trodAll_cons_mk (shut_int Tryz.underlying26 w2) trodAll_mk0))),rfl,bel.frame _,fun h=>by cases h⟩
theorem proved:Rows.ExportAllSaid :=
 OpenClaim.holds_of_wide 4 Tryz.f4 rfl rfl rfl rfl rfl rfl rfl ⟨rfl,rfl,rfl,rfl,rfl⟩ rfl rfl rfl rfl rfl (by kernel_rfl) Tryz.func4 (by kernel_rfl)
  (of_decide_eq_true (by kernel_rfl)) (by unfold Func.isWrapper;first | (rw [if_pos (by decide +kernel)];kernel_rfl) | (rw [if_neg (by decide +kernel)];exact ⟨rfl,rfl⟩))
  (fun os started H enc _=>lifted os started H enc)
end Go.Proofs.YtkmbkpoclhbmgaaGreat.exportAll
