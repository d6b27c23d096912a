/- Parts of the proof, put together: NlF, NlFd, ExM, ExF, ExC, ExL, ExG. No condition beyond those that each part names. -/
import Derived.Test.YtkmbkpoclhbmgaaGreatPA15
set_option maxRecDepth 20000
set_option maxHeartbeats 6400000
namespace Go.Proofs.YtkmbkpoclhbmgaaGreat
open Go.RowKit
variable {w w' W V:World}
section
open Go.RowKit Go.Maps
variable {w w' W V:World} {ys t:List Int} {n:Int}
theorem indexSy_any {f:Nat} {cbs:Array Value} (en:∀ args V,(callFunc f args).run Tryz.prog V=.ok (.enter f args) V) (pr:Sym→Bool) (D:Syms) (n:Nat) (hn:D.length=n) (hbig:n≤1000000000) (q:Option Addr) (c:Nat) (hr:Vx w q D)
  (hcall:∀ W y,w.grownBy W none→y∈D→Calls Tryz.prog f (#[syV (strOfNums y.1) y.2] ++ cbs) W fun e w'=>e=.returned (.bool (pr y))∧W.grownBy w' none) :
  Calls Tryz.prog 203 #[.slice q n c,.func (.func f) #[] cbs] w fun e w' =>
    ((e=.returned (.int .i64 (-1))∧∀ y∈D,pr y=false)∨∃ (k:Nat) (x:Sym),k < n∧e=.returned (.int .i64 k)∧D[k]?=some x∧pr x=true∧∀ i y,i < k→D[i]?=some y→pr y=false)∧w.grownBy w' none:=by
 subst hn;have RR:=Lv hr;have HC:=Lv hcall;clear hr hcall;go_enter Tryz.func203,Tryz.ntmps203;go_wp2;go_loopw [8] (fun i wr=>∃ k:Nat,k≤D.length∧i=.int .i64 k∧w.grownBy wr none∧Hid (∀ (i:Nat) (y:Sym),i < k→D[i]?=some y→pr y=false)) (fun i _=>D.length - (intOf i).toNat)
 case atStart=>exact ⟨0,Nat.zero_le _,rfl,Qq _ _,Lv (fun i y h=>by omega)⟩
 case round =>
  obtain ⟨k,hk,rfl,hg,NO⟩:=hrel;have G:=Lv hg;by_cases hlt:k < D.length
  · obtain ⟨x,hx⟩:∃ x,D[k]?=some x:=⟨_,List.getElem?_eq_getElem hlt⟩
    obtain ⟨gq,oq,rfl,a0,a1,a2,a3⟩:=(RR.o.grown hg).at hx;have M1:=HC.o wr x hg (List.mem_of_getElem? hx);simp only [syV,Yi] at M1;have M:=Lv M1;have XX:=Lv hx;have dl:decide ((k:Int) < (D.length:Int))=true:=by simp;omega
    have hkl:(k:Int) < (D.length:Int):=by omega
    obtain ⟨bx,hbx⟩:∃ bx,bx=pr x:=⟨_,rfl⟩
    rw [← hbx] at M;have PX:=Lv hbx;clear hg hx hbx M1;go_wp2_with fail;refine M.o.mono ?_
    rintro e w3 ⟨rfl,hg⟩;have G3:=Lv (Qz G.o hg);clear hg M a0 a1 a2 a3;cases bx
    · go_wp2
      go_roundw
      case rel =>
       refine ⟨k + 1,hlt,by go_num,G3.o,Lv (fun i y hi hy=>?_)⟩;rcases Nat.lt_or_ge i k with h | h
       ·exact NO.o i y h hy
       ·obtain rfl:i=k:=by omega
        rw [XX.o] at hy;injection hy with hy;rw [← hy];exact PX.o.symm
      case measure=>simp [intOf];omega
    · go_wp2
      go_ret
      exact ⟨.inr ⟨k,_,hlt,rfl,XX.o,PX.o.symm,NO.o⟩,G3.o⟩
  · have NA:=Lv (show ∀ y∈D,pr y=false from fun y hy=>by
      obtain ⟨i,hi,rfl⟩:=List.getElem_of_mem hy;exact NO.o i _ (by omega) (List.getElem?_eq_getElem hi))
    have dl:decide ((k:Int) < (D.length:Int))=false:=by simp;omega
    have dl2:decide (k < D.length)=false:=by simp;omega
    clear NO hg hlt;go_wp2;go_ret
    exact ⟨.inl ⟨rfl,NA.o⟩,G.o⟩
theorem find1S_any {nm t:List Int} (x:Sy) (hn:Byt nm) (ht:Byt t) {g:Nat} (W:World) (hg:Xv W g (.string (strOfNums t)) 9) :
  Calls Tryz.prog 204 #[syV (strOfNums nm) x,.pointer (some ⟨g,0,none⟩)] W fun e w'=>e=.returned (.bool (decide (nm=t)))∧W.grownBy w' none:=by
 have g1:=grown1 W (.cells #[.string (strOfNums nm),.int .i64 x.sec,.int .u64 x.value,.bool x.weak] 95);have c1:=(hg.grown g1).c;have c0:=(SyAt.new W (strOfNums nm) x).c.1;have ee:=Gg hn ht;obtain ⟨b,hb⟩:∃ b,b=decide (nm=t):=⟨_,rfl⟩
 rw [← hb] at ee ⊢;have G:=Lv g1;clear g1 hb hg hn ht;unfold syV Yi;go_enter Tryz.func204,Tryz.ntmps204;go_wp2;go_ret
 exact ⟨rfl,G.o⟩
end
section
open Go.RowKit Go.Maps
variable {w w' W V:World} {ys t:List Int} {n:Int}
theorem results_sy3 {fn:Func} {p u v:Tmp} {g:Nat} {nm:ByteArray} {x:Sy} (hr:fn.results=#[.cell p 95,.tmp u,.tmp v]) {tmps:Array Value} {y z:Value} (hp:tmps.getD p undef=.pointer (some ⟨g,0,none⟩)) (hu:tmps.getD u undef=y) (hv:tmps.getD v undef=z) (h:SyAt w g nm x) :
  (results fn tmps).run Tryz.prog w=.ok (.tuple #[syV nm x,y,z]) w:=by
 have e:(asAddr (.pointer (some ⟨g,0,none⟩)):Sem Addr).run Tryz.prog w=.ok ⟨g,0,none⟩ w:=rfl;simp only [Array.getD_eq_getD_getElem?] at hp hu hv;simp only [results,hr];simp [Sem.run_bind,Result.andThen,hp,hu,hv,e,load_sy h]
structure FdOut (w w':World) (R:Int × Syms) (s:List Int) (r:Ending):Prop where
 ex:∃ (y:Sym),r=.returned (.tuple #[syV (strOfNums y.1) y.2,.bool (Kl R.2 s),.int .i64 R.1])∧(Kl R.2 s=true→y∈R.2∧y.1=s)∧(Kl R.2 s=false→y=([],Sy.zero))
 grown:w.grownBy w' none
theorem Find10_any {q q2:Option Addr} {c c2 L N:Nat} (hb:Qk w q c t) (hL:t.length=L) (hbigL:L≤140737488355328) (hc:L≤c) (hcm:c≤9223372036854775807) (ht:Byt t)
  (hb2:Qk w q2 c2 ys) (hN:ys.length=N) (hbig:N≤140737488355328) (hy:Byt ys) {s:List Int} (hs:Byt s) :
  Calls Tryz.prog 201 #[.slice q L c,.slice q2 N c2,.int .i64 n,.string (strOfNums s)] w fun r w'=>FdOut w w' (Jk t ys n) s r:=by
 have g1:=grown1 w (.cells #[.string (strOfNums s)] 9);have o1:=Xv.new w (.string (strOfNums s)) 9;obtain ⟨w1,hw1⟩:∃ W,W=w.alloc (.cells #[.string (strOfNums s)] 9):=⟨_,rfl⟩
 obtain ⟨G,hG⟩:∃ G,G=w.heap.size:=⟨_,rfl⟩
 rw [← hw1] at g1 o1;rw [← hG] at o1;have g2:=grown1 w1 (.cells #[.string ⟨#[]⟩,.int .i64 0,.int .u64 0,.bool false] 95);have s2:=SyAt.new w1 ⟨#[]⟩ Sy.zero;obtain ⟨w2,hw2⟩:∃ W,W=w1.alloc (.cells #[.string ⟨#[]⟩,.int .i64 0,.int .u64 0,.bool false] 95):=⟨_,rfl⟩
 obtain ⟨X,hX⟩:∃ X,X=w1.heap.size:=⟨_,rfl⟩
 simp only [Sy.zero] at s2;rw [← hw2] at g2 s2;rw [← hX] at s2;have hGX:G + 1=X:=by rw [hG,hX,hw1];simp
 have g02:=Qz g1 g2;have AL:=Lv (allP_any (n:=n) (hb.kept g02 (by simp)) hL hbigL hc hcm ht (hb2.kept g02 (by simp)) hN hbig hy);have OKK:=Lv (Bk (n:=n) ht hy);have HERR:=Lv (fun h=>Tq (t:=t) (ys:=ys) (n:=n) h);generalize Jk t ys n=R at *;have O2:=Lv (o1.grown g2);have S2:=Lv s2;have G2:=Lv g02;have HW1:=Lv hw1.symm;have HW2:=Lv hw2.symm
 have HG:=Lv hG.symm;have HGX:=Lv hGX;have HS:=Lv hs;have hwX:w.heap.size≤X:=by omega
 clear hb hb2 ht hy hs g1 g2 o1 s2 hw1 hw2 hG hX hGX g02;go_enter Tryz.func201,Tryz.ntmps201;go_upto_region 1 with fail;rw [HW1.o,HG.o,HW2.o,HGX.o];clear HW1 HW2 HG HGX;go_wp2_with fail;refine AL.o.mono ?_
 rintro r w3 ⟨⟨qa,ca,rfl,hsa,hlc,hcm2⟩,hbel⟩;have g3:=Qt hbel none;have O3:=Lv (O2.o.grown g3);have S3:=Lv (S2.o.kept g3 (by simp));have G3:=Lv (Qz G2.o g3);have SA:=Lv hsa;have hfew:=OKK.o.few;have IX:=Lv (indexSy_any (w:=w3) (f:=204) (cbs:=#[.pointer (some ⟨G,0,none⟩)]) (enters_of Tryz.func204 (by kernel_rfl) rfl) (fun y=>decide (y.1=s)) R.2 R.2.length rfl (by omega) qa ca hsa (fun W y hW hy=>by
  refine (find1S_any y.2 (OKK.o.each y hy).1 HS.o W (O3.o.grown hW)).mono ?_
  rintro e w' ⟨rfl,hg⟩;exact ⟨rfl,hg⟩))
 clear hbel g3 hsa AL S2 O2 G2;obtain ⟨E,D⟩:=R;simp only [] at *;obtain ⟨L2,hL2⟩:∃ L,L=D.length:=⟨_,rfl⟩
 rw [← hL2] at IX hlc hfew ⊢;have HL2:=Lv hL2;clear hL2;go_wp2_with fail;refine IX.o.mono ?_
 rintro r w4 ⟨hr,hg⟩;have G4:=Lv (Qz G3.o hg);have S4:=Lv (S3.o.kept hg (by simp));have SA4:=Lv (SA.o.grown hg);clear hg;obtain ⟨c0,c1,c2,c3⟩:=S4.o.c;have xl:=S4.o.lt;have xf:=S4.o.fz;rcases hr with ⟨rfl,hno⟩ | ⟨k,x,hk,rfl,hx,hpx,_⟩
 ·have hH:Kl D s=false:=by
    unfold Kl;rw [List.any_eq_false];intro y hy;rw [hno y hy];simp
  have HH:=Lv hH;have SF:=Lv (S4.o.put ⟨#[]⟩ Sy.zero);have GF:=Lv (Qw G4.o (Xu (Qq w4 (some X)) (.string ⟨#[]⟩) (.int .i64 0) (.int .u64 0) (.bool false)) hwX);simp only [Sy.zero] at SF;clear hno hH;go_wp2;refine bodyPost_ret (results_sy3 rfl rfl rfl rfl SF.o) rfl ?_
  refine ⟨⟨([],Sy.zero),?_,fun h=>(by rw [HH.o] at h;cases h),fun _=>rfl⟩,GF.o⟩;rw [HH.o];rfl
 ·have hm:=List.mem_of_getElem? hx
  have hps:x.1=s:=of_decide_eq_true hpx;have hH:Kl D s=true:=Gk.2 ⟨x,hm,hps⟩;have hE:E=0:=by
    by_cases h:E=0
    ·exact h
    ·have:=HERR.o h
     rw [this] at hm;cases hm
  subst hE;have HH:=Lv (And.intro hH (And.intro hm hps));obtain ⟨gq,oq,rfl,a0,a1,a2,a3⟩:=SA4.o.at hx;have dk:decide ((k:Int) < 0)=false:=by simp
  have hkl:(k:Int) < (L2:Int):=by omega
  have SF:=Lv (S4.o.put (strOfNums x.1) x.2);have GF:=Lv (Qw G4.o (Xu (Qq w4 (some X)) (.string (strOfNums x.1)) (.int .i64 x.2.sec) (.int .u64 x.2.value) (.bool x.2.weak)) hwX);clear hx hpx hm hps hH hk;go_wp2;refine bodyPost_ret (results_sy3 rfl rfl rfl rfl SF.o) rfl ?_
  refine ⟨⟨x,?_,fun _=>HH.o.2,fun h=>(by rw [HH.o.1] at h;cases h)⟩,GF.o⟩;rw [HH.o.1];rfl
end
section
open Go.RowKit Go.Sort
def tabV (a b:Value) (n low:Int):Value:=.agg #[a,b,.int .i64 n,.int .u64 low]
theorem tabExport_any (a b:Value) (n low:Int) (y:Sym) (w:World) :
  Calls Tryz.prog 199 #[tabV a b n low,syV (strOfNums y.1) y.2] w fun e w'=>e=.returned (exV (strOfNums y.1) (Xy low y).2)∧w.grownBy w' none:=by
 have g1:=grown1 w (.cells #[a,b,.int .i64 n,.int .u64 low] 169);have k1:=heap_alloc_new w (.cells #[a,b,.int .i64 n,.int .u64 low] 169);obtain ⟨w1,hw1⟩:∃ W,w.alloc (.cells #[a,b,.int .i64 n,.int .u64 low] 169)=W:=⟨_,rfl⟩
 obtain ⟨b1,hb1⟩:∃ b,w.heap.size=b:=⟨_,rfl⟩
 rw [hw1] at g1 k1;rw [hb1] at k1;have g2:=grown1 w1 (.cells (Yi (strOfNums y.1) y.2) 95);have s2:=SyAt.new w1 (strOfNums y.1) y.2;obtain ⟨w2,hw2⟩:∃ W,w1.alloc (.cells (Yi (strOfNums y.1) y.2) 95)=W:=⟨_,rfl⟩
 obtain ⟨b2,hb2⟩:∃ b,w1.heap.size=b:=⟨_,rfl⟩
 unfold Yi at hw2 g2;rw [hw2] at g2 s2;rw [hb2] at s2;have g3:=grown1 w2 (.cells #[.string ⟨#[]⟩,.int .i64 0,.bool false,.int .u64 0,.int .u64 0,.int .u64 0,.string ⟨#[]⟩] 28);have r3:ExAt (w2.alloc (.cells #[.string ⟨#[]⟩,.int .i64 0,.bool false,.int .u64 0,.int .u64 0,.int .u64 0,.string ⟨#[]⟩] 28)) w2.heap.size ⟨#[]⟩ Ex.zero:=heap_alloc_new w2 _;obtain ⟨w3,hw3⟩:∃ W,w2.alloc (.cells #[.string ⟨#[]⟩,.int .i64 0,.bool false,.int .u64 0,.int .u64 0,.int .u64 0,.string ⟨#[]⟩] 28)=W:=⟨_,rfl⟩
 obtain ⟨b3,hb3⟩:∃ b,w2.heap.size=b:=⟨_,rfl⟩
 rw [hw3] at g3 r3;rw [hb3] at r3;have c3:w3.cell? ⟨b1,3,none⟩=some (.int .u64 low):=Qv g3 (Qv g2 (by rw [Qm k1];rfl))
 obtain ⟨y0,y1,y2,y3⟩:=(s2.kept g3 (by simp)).c;have l3:=r3.lt;have l1:b1 < w3.heap.size:=by have:=lt_of_block k1;have:=g2.size;have:=g3.size;omega
 have l2:b2 < w3.heap.size:=by have:=s2.lt;have:=g3.size;omega
 have R3:=Lv r3;have z0:=r3.fz 0;have z1:=r3.fz 1;have z2:=r3.fz 2;have z3:=r3.fz 3;have z4:=r3.fz 4;have z5:=r3.fz 5;have z6:=r3.fz 6;have e0:=r3.c;have G3:=Lv (Qz (Qz g1 g2) g3);have BL:=Lv (show w.heap.size≤b3 by rw [← hb3];have:=g1.size;have:=g2.size;omega);clear g1 k1 g2 s2 g3 r3;unfold tabV syV Yi;obtain ⟨nm,sec,value,weak⟩:=y;simp only [] at y0 y1 y2 y3 hw2 ⊢
 by_cases h0:sec=0
 ·subst h0
  have E:=Lv (show (Xy low (nm,⟨0,value,weak⟩)).2=⟨2,weak,value,0,0,[]⟩ from rfl);have F:=Lv (R3.o.put (strOfNums nm) ⟨2,weak,value,0,0,[]⟩);rw [E.o];clear R3;go_enter Tryz.func199,Tryz.ntmps199;go_upto_region 1 with fail;clear hw1 hb1 hw2 hb2 hw3 hb3;go_wp2;refine bodyPost_ret (Jf rfl rfl F.o) rfl ?_
  exact ⟨rfl,Qr G3.o (Qh (Qq w3 (some b3)) _ _ _ _ _ _ _) (fun g e=>by injection e with e;have:=BL.o;omega)⟩
 ·have d0:(sec == 0)=false:=by simp;exact h0
  have hm:IntKind.u64.wrap (value - low)=(value - low) % 18446744073709551616:=IntKind.wrap_u64 _;obtain ⟨u,hu⟩:∃ u,u=(value - low) % 18446744073709551616:=⟨_,rfl⟩
  rw [← hu] at hm;have E:=Lv (show (Xy low (nm,⟨sec,value,weak⟩)).2=⟨1,weak,u,0,0,[]⟩ from by
   unfold Xy;simp only [];rw [if_neg h0,hu])
  have F:=Lv (R3.o.put (strOfNums nm) ⟨1,weak,u,0,0,[]⟩);rw [E.o];clear R3 hu h0;go_enter Tryz.func199,Tryz.ntmps199;go_upto_region 1 with fail;clear hw1 hb1 hw2 hb2 hw3 hb3;go_wp2;refine bodyPost_ret (Jf rfl rfl F.o) rfl ?_
  exact ⟨rfl,Qr G3.o (Qh (Qq w3 (some b3)) _ _ _ _ _ _ _) (fun g e=>by injection e with e;have:=BL.o;omega)⟩
structure ExsO (w w':World) (R:Int × Out) (e:Ending):Prop where
 ex:∃ (q:Option Addr) (c:Nat),e=.returned (.tuple #[.slice q R.2.length c,.int .i64 R.1])∧Xk w' q R.2∧R.2.length≤c∧c≤9223372036854775807
 grown:w.grownBy w' none
theorem ExsO.none {R:Int × Out} {E:Int} (hR:R=(E,[])) (hg:w.grownBy w' Option.none):ExsO w w' R (.returned (.tuple #[.slice Option.none 0 0,.int .i64 E])):=by
 subst hR;exact ⟨⟨_,_,rfl,Xk.nil,Nat.le_refl _,by decide⟩,hg⟩
def Wr (t ys:List Int) (n low:Int):Int × Out:=((Jk t ys n).1,srtN ((Jk t ys n).2.map (Xy low)))
theorem tabRaw_err {t ys:List Int} {n low:Int} (h:(Jk t ys n).1≠0):Wr t ys n low=((Jk t ys n).1,[]):=by
 unfold Wr;rw [Tq h];simp [srtN]
structure TaL (w2 wr:World) (D:Syms) (low:Int) (n:Nat) (v6 v24:Value):Prop where
 ex:∃ (k:Nat) (q:Option Addr) (c:Nat),k≤n∧v24=.int .i64 (k:Int)∧v6=.slice q k c∧wr.ownsRow w2.heap.size 28 7 (.slice q k c) k (((D.take k).map (Xy low)).flatMap Q4)
 grown:w2.grownBy wr none
theorem sym_take {D:Syms} {k:Nat} {y:Sym} {low:Int} (h:D[k]?=some y):((D.take (k + 1)).map (Xy low)).flatMap Q4=((D.take k).map (Xy low)).flatMap Q4 ++ exCs (strOfNums y.1) (Xy low y).2:=by
 obtain ⟨hk,rfl⟩:=List.getElem?_eq_some_iff.1 h;rw [List.take_succ_eq_append_getElem hk,List.map_append,List.flatMap_append];simp [Q4,Xy]
theorem tabAll_any {q q2:Option Addr} {c c2 L N:Nat} {t ys:List Int} {n low:Int} (hb:Qk w q c t) (hL:t.length=L) (hbigL:L≤140737488355328) (hc:L≤c) (hcm:c≤9223372036854775807) (ht:Byt t)
  (hb2:Qk w q2 c2 ys) (hN:ys.length=N) (hbig:N≤140737488355328) (hy:Byt ys) :
  Calls Tryz.prog 196 #[tabV (.slice q L c) (.slice q2 N c2) n low] w fun e w'=>ExsO w w' (Wr t ys n low) e:=by
 have g1:=grown1 w (.cells #[.slice q L c,.slice q2 N c2,.int .i64 n,.int .u64 low] 169);have k1:=heap_alloc_new w (.cells #[.slice q L c,.slice q2 N c2,.int .i64 n,.int .u64 low] 169);obtain ⟨w1,hw1⟩:∃ W,w.alloc (.cells #[.slice q L c,.slice q2 N c2,.int .i64 n,.int .u64 low] 169)=W:=⟨_,rfl⟩
 obtain ⟨b1,hb1⟩:∃ b,w.heap.size=b:=⟨_,rfl⟩
 rw [hw1] at g1 k1;rw [hb1] at k1;have AL:=Lv (allP_any (n:=n) (hb.kept g1 (by simp)) hL hbigL hc hcm ht (hb2.kept g1 (by simp)) hN hbig hy);have OK:=Lv (Bk (n:=n) ht hy);have KC:=Lv (fun (V:World) (hg:w1.grownBy V none)=>And.intro (Qv hg (show w1.cell? ⟨b1,0,none⟩=some (.slice q L c) by rw [Qm k1];rfl)) (And.intro (Qv hg (show w1.cell? ⟨b1,1,none⟩=some (.slice q2 N c2) by rw [Qm k1];rfl)) (And.intro (Qv hg (show w1.cell? ⟨b1,2,none⟩=some (.int .i64 n) by rw [Qm k1];rfl)) (And.intro (Qv hg (show w1.cell? ⟨b1,3,none⟩=some (.int .u64 low) by rw [Qm k1];rfl)) (Nat.lt_of_lt_of_le (lt_of_block k1) hg.size)))))
 have ERR:=Lv (fun h=>tabRaw_err (t:=t) (ys:=ys) (n:=n) (low:=low) h);have TR:=Lv (show Wr t ys n low=((Jk t ys n).1,srtN ((Jk t ys n).2.map (Xy low))) from rfl);generalize Wr t ys n low=TRv at *;obtain ⟨⟨E,D⟩,hR⟩:∃ R,R=Jk t ys n:=⟨_,rfl⟩
 rw [← hR] at AL OK ERR TR;simp only [] at OK ERR TR;have G1:=Lv g1;obtain ⟨c0,c1,c2',c3,l1⟩:=KC.o w1 (Qq _ _);clear hb hb2 ht hy g1 k1 hR;unfold tabV;go_enter Tryz.func196,Tryz.ntmps196;go_upto_region 1 with fail;clear hw1 hb1;go_wp2_with fail;refine AL.o.mono ?_
 rintro e w2 ⟨⟨ql,cl,rfl,hD,hlc,hlm⟩,hbel⟩;have hg2:=Qt hbel none;have G2:=Lv (Qz G1.o hg2);have G12:=Lv hg2;simp only [] at hD hlc ⊢;by_cases hE:E=0
 ·subst hE
  have HD:=Lv hD;have few:=OK.o.few;obtain ⟨c0,c1,c2',c3,l1⟩:=KC.o w2 hg2;obtain ⟨M,hM⟩:∃ M,M=D.length:=⟨_,rfl⟩
  rw [← hM] at few hlc ⊢;have HM:=Lv hM.symm;have ST:=Lv (show TaL w2 w2 D low M (.slice none 0 0) (.int .i64 0) from ⟨⟨0,none,0,Nat.zero_le _,rfl,rfl,World.ownsRow_nil _ _ _ _⟩,Qq _ _⟩);clear hD hbel hg2 hM;go_wp2;go_loopw [6,24] (fun v6 v24 wr=>TaL w2 wr D low M v6 v24) (fun _ v24 _=>M - (intOf v24).toNat)
  case atStart=>exact ST.o
  case round =>
    obtain ⟨⟨k,q6,c6,hk,rfl,rfl,ho⟩,hg⟩:=hrel;have GX:=Lv hg;by_cases hlt:k < M
    ·obtain ⟨y,hy⟩:∃ y,D[k]?=some y:=⟨_,List.getElem?_eq_getElem (by rw [HM.o];exact hlt)⟩
     obtain ⟨gq,oq,rfl,a0,a1,a2,a3⟩:=(HD.o.grown hg).at hy;obtain ⟨c0,c1,c2',c3,l1⟩:=KC.o wr (Qz G12.o hg);have TK:=Lv (sym_take (low:=low) hy);have dl:decide ((k:Int) < (M:Int))=true:=by simp;omega
     have hkI:(k:Int) < (M:Int):=by omega
     have s3:=SyAt.new wr (strOfNums y.1) y.2;have g3:=grown1 wr (.cells #[.string (strOfNums y.1),.int .i64 y.2.sec,.int .u64 y.2.value,.bool y.2.weak] 95);obtain ⟨w3,hw3⟩:∃ W,W=wr.alloc (.cells #[.string (strOfNums y.1),.int .i64 y.2.sec,.int .u64 y.2.value,.bool y.2.weak] 95):=⟨_,rfl⟩
     obtain ⟨X,hX⟩:∃ X,X=wr.heap.size:=⟨_,rfl⟩
     rw [← hw3] at s3 g3;rw [← hX] at s3;have HW3:=Lv hw3.symm;have HX:=Lv hX.symm;have O3:=Lv (Qy ho g3);have G3:=Lv (Qz hg g3);have S3:=Lv s3;have EXP:=Lv (fun V=>tabExport_any (.slice q L c) (.slice q2 N c2) n low y V);obtain ⟨x,hx⟩:∃ x,x=(Xy low y).2:=⟨_,rfl⟩
     rw [← hx] at EXP TK;unfold tabV syV Yi exV Zd at EXP;clear ho hg hy g3 hw3 hX hx s3;go_upto_region 8 with fail;rw [HW3.o,HX.o];obtain ⟨c0,c1,c2',c3,l1⟩:=KC.o w3 (Qz G12.o G3.o);obtain ⟨d0,d1,d2,d3⟩:=S3.o.c;have d4:=S3.o.lt;clear a0 a1 a2 a3 HW3 HX;go_wp2_with fail;refine (EXP.o _).mono ?_
     rintro e w4 ⟨rfl,hg4⟩;have g5:=grown1 w4 (.cells #[.string (strOfNums y.1),.int .i64 x.kind,.bool x.weak,.int .u64 x.value,.int .u64 x.resolver,.int .u64 x.ordinal,.string (strOfNums x.other)] 28);have O5:=Lv (Qy O3.o (Qz hg4 g5));have G5:=Lv (Qz G3.o (Qz hg4 g5));have N5:=Lv (heap_alloc_new w4 (.cells #[.string (strOfNums y.1),.int .i64 x.kind,.bool x.weak,.int .u64 x.value,.int .u64 x.resolver,.int .u64 x.ordinal,.string (strOfNums x.other)] 28))
     clear hg4 g5 O3 S3;go_wp2_with (at_builtin;refine Zz Vt rfl _ _ rfl _ k _ rfl O5.o [.string (strOfNums y.1),.int .i64 x.kind,.bool x.weak,.int .u64 x.value,.int .u64 x.resolver,.int .u64 x.ordinal,.string (strOfNums x.other)] rfl w4.heap.size rfl N5.o (J5 (strOfNums y.1) x) (by omega) (by decide) G5.o.size ?_)
     intro v6 w6 ho6 hg6 hv6;obtain ⟨q7,c7,rfl⟩:=Qp ho6;have G6:=Lv (Qr G5.o hg6 (fun g e=>(O5.o.lt g e).1));have O6:=Lv (show w6.ownsRow w2.heap.size 28 7 (.slice q7 (k + 1) c7) (k + 1) (((D.take (k + 1)).map (Xy low)).flatMap Q4) from by rw [TK.o,List.map_take];exact ho6);clear ho6 hg6 hv6 O5 N5;go_wp2;go_roundw
     case rel=>exact ⟨⟨k + 1,q7,c7,hlt,by go_num,rfl,O6.o⟩,G6.o⟩
     case measure=>simp [intOf];omega
    ·have hkm:M=k:=by omega
     subst hkm;have dl:decide ((M:Int) < (M:Int))=false:=by simp
     have hfull:D.take M=D:=by rw [← HM.o,List.take_length]
     rw [hfull] at ho;have SO:=Lv (sortX_any (W:=wr) (out:=D.map (Xy low)) (by rw [List.length_map,HM.o]) (by omega) ho);have LO:=Lv (fun g e=>(ho.lt g e).1);have CP:=Lv (And.intro (Jw ho) (Vp ho));clear ho hg hfull;go_wp2_with fail;refine SO.o.mono ?_
     rintro e w7 ⟨rfl,⟨S,hp,hs,hr⟩,hg7⟩;have G7:=Qr (Qz G2.o GX.o) hg7 (fun g e=>by have:=LO.o g e;have:=G2.o.size;omega);have SE:=Rr (D:=D.map (Xy low)) (R:=S) (fun y hy=>by
      obtain ⟨z,hz,rfl⟩:=List.mem_map.1 hy;exact (OK.o.each z hz).1) (by
      rw [List.pairwise_map];exact OK.o.apart) hs hp
     subst SE;have F:=Lv (show ExsO w w7 TRv (.returned (.tuple #[.slice q6 M c6,.int .i64 0])) from by
      rw [TR.o];exact ⟨⟨q6,c6,by simp only [];rw [srtN_len,List.length_map,HM.o],hr,by rw [srtN_len,List.length_map,HM.o];exact CP.o.1,CP.o.2⟩,G7⟩)
     clear hp hs hr hg7 G7;go_wp2;go_ret2
     exact F.o
 ·have dE:(E != 0)=true:=by simpa using hE
  have F:=Lv (ExsO.none (ERR.o hE) G2.o);clear hD hbel hg2 hE;go_wp2;go_ret2
  exact F.o
end
section
open Go.RowKit Go.Sort
structure FiO (w w':World) (t:List Int) (R:Int × Option Ex) (e:Ending):Prop where
 ret:e=.returned (.tuple #[exV (nmOf (strOfNums t) R.2) (exOf R.2),.bool R.2.isSome,.int .i64 R.1])
 grown:w.grownBy w' none
theorem Wt (w:World):ExAt (w.alloc (.cells #[.string ⟨#[]⟩,.int .i64 0,.bool false,.int .u64 0,.int .u64 0,.int .u64 0,.string ⟨#[]⟩] 28)) w.heap.size ⟨#[]⟩ Ex.zero:=heap_alloc_new w _
theorem namesAll_any {q:Option Addr} {c n:Nat} {xs:List Int} (h:Qk w q c xs) (hn:xs.length=n) (hb:Byt xs) (hc:n≤c) (hcm:c≤9223372036854775807) (hbig:n≤140737488355328) :
  Calls Tryz.prog 188 #[.slice q n c] w fun e w'=>ExsO w w' ((allN xs).2,srtN (allN xs).1) e:=by
 have AL:=Lv (All_any (w:=w) h hn hb hc hcm hbig);have HB:=Lv hb;clear h hb;go_enter Tryz.func188,Tryz.ntmps188;go_wp2_with fail;refine AL.o.mono ?_
 rintro e w2 ⟨⟨D,q2,c2,rfl,hr,hs,hp,hlc,hlm⟩,hg⟩;have E:=all_srt HB.o hs hp;have F:=Lv (show ExsO w w2 ((allN xs).2,srtN (allN xs).1) (.returned (.tuple #[.slice q2 D.length c2,.int .i64 (allN xs).2])) from by
  rw [← E];exact ⟨⟨q2,c2,rfl,hr,hlc,hlm⟩,hg⟩)
 clear hr hs hp hlc hlm hg E;go_wp2;go_ret2
 exact F.o
theorem nothingAll_any (w:World):Calls Tryz.prog 206 #[.agg #[]] w fun e w'=>ExsO w w' (0,[]) e:=by
 have g1:=grown1 w (.cells #[] 171);have F:=Lv (ExsO.none (R:=(0,[])) rfl g1);clear g1;go_enter Tryz.func206,Tryz.ntmps206;go_wp2;go_ret2
 exact F.o
theorem namesFind_any {q:Option Addr} {c n:Nat} {xs:List Int} (h:Qk w q c xs) (hn:xs.length=n) (hb:Byt xs) (hc:n≤c) (hcm:c≤9223372036854775807) (hbig:n≤140737488355328) (t:List Int) (ht:Byt t) (htl:t.length≤9223372036854775807) :
  Calls Tryz.prog 189 #[.slice q n c,.string (strOfNums t)] w fun e w'=>FiO w w' t (Kf xs t) e:=by
 have g1:=grown1 w (.cells #[.string ⟨#[]⟩,.int .i64 0,.bool false,.int .u64 0,.int .u64 0,.int .u64 0,.string ⟨#[]⟩] 28);have r1:=Wt w;obtain ⟨w1,hw1⟩:∃ W,w.alloc (.cells #[.string ⟨#[]⟩,.int .i64 0,.bool false,.int .u64 0,.int .u64 0,.int .u64 0,.string ⟨#[]⟩] 28)=W:=⟨_,rfl⟩
 obtain ⟨b1,hb1⟩:∃ b,w.heap.size=b:=⟨_,rfl⟩
 rw [hw1] at g1 r1;rw [hb1] at r1;have FI:=Lv (Find_any (w:=w1) (h.kept g1 (by simp)) hn hb hc hcm hbig t ht htl);have R1:=Lv r1;have G1:=Lv g1;have BL:=Lv (show w.heap.size≤b1 by omega);clear h hb ht g1 r1;go_enter Tryz.func189,Tryz.ntmps189;go_upto_region 1 with fail;clear hw1 hb1;go_wp2_with fail;refine FI.o.mono ?_
 rintro e w2 ⟨rfl,hg⟩;have r2:=R1.o.kept hg (by simp);have G2:=Lv (Qz G1.o hg);obtain ⟨⟨E,o⟩,hR⟩:∃ R,R=Kf xs t:=⟨_,rfl⟩
 rw [← hR];simp only [];obtain ⟨nm,hnm⟩:∃ nm,nm=nmOf (strOfNums t) o:=⟨_,rfl⟩
 obtain ⟨x,hx⟩:∃ x,x=exOf o:=⟨_,rfl⟩
 rw [← hnm,← hx];have HNX:=Lv (And.intro hnm hx);have HR:=Lv hR;have R3:=Lv (r2.put nm x);have z0:=r2.fz 0;have z1:=r2.fz 1;have z2:=r2.fz 2;have z3:=r2.fz 3;have z4:=r2.fz 4;have z5:=r2.fz 5;have z6:=r2.fz 6;have e0:=r2.c;have l2:=r2.lt;clear hg hR hnm hx r2;unfold exV Zd;go_wp2;refine bodyPost_ret (Q2 rfl rfl rfl rfl R3.o) rfl ?_
 exact ⟨by rw [← HR.o];simp only [];rw [← HNX.o.1,← HNX.o.2];rfl,Qr G2.o (Qh (Qq w2 (some b1)) _ _ _ _ _ _ _) (fun g e=>by injection e with e;have:=BL.o;omega)⟩
theorem nothingFind_any (t:List Int) (w:World):Calls Tryz.prog 207 #[.agg #[],.string (strOfNums t)] w fun e w'=>FiO w w' t (0,none) e:=by
 have g1:=grown1 w (.cells #[] 171);obtain ⟨w1,hw1⟩:∃ W,w.alloc (.cells #[] 171)=W:=⟨_,rfl⟩
 rw [hw1] at g1;have g2:=grown1 w1 (.cells #[.string ⟨#[]⟩,.int .i64 0,.bool false,.int .u64 0,.int .u64 0,.int .u64 0,.string ⟨#[]⟩] 28);have r1:=Wt w1;obtain ⟨w2,hw2⟩:∃ W,w1.alloc (.cells #[.string ⟨#[]⟩,.int .i64 0,.bool false,.int .u64 0,.int .u64 0,.int .u64 0,.string ⟨#[]⟩] 28)=W:=⟨_,rfl⟩
 obtain ⟨b1,hb1⟩:∃ b,w1.heap.size=b:=⟨_,rfl⟩
 rw [hw2] at g2 r1;rw [hb1] at r1;have R1:=Lv (r1.put ⟨#[]⟩ Ex.zero);have G2:=Lv (Qz g1 g2);have BL:=Lv (show w.heap.size≤b1 by have:=g1.size;omega);have z0:=r1.fz 0;have z1:=r1.fz 1;have z2:=r1.fz 2;have z3:=r1.fz 3;have z4:=r1.fz 4;have z5:=r1.fz 5;have z6:=r1.fz 6;have e0:=r1.c;have l2:=r1.lt;clear g1 g2 r1;go_enter Tryz.func207,Tryz.ntmps207;go_upto_region 1 with fail;clear hw1 hw2 hb1
 go_wp2;refine bodyPost_ret (Q2 rfl rfl rfl rfl R1.o) rfl ?_
 exact ⟨rfl,Qr G2.o (Qh (Qq w2 (some b1)) _ _ _ _ _ _ _) (fun g e=>by injection e with e;have:=BL.o;omega)⟩
def Mq (t ys:List Int) (n low:Int) (s:List Int):Int × Option Ex:=((Jk t ys n).1,(Xz s ((Jk t ys n).2.map (Xy low))).map (·.2))
theorem named_sym {D:Syms} {low:Int} {s:List Int}:(∀ y,y∈D→y.1=s→(D.Pairwise fun a b=>a.1≠b.1)→Xz s (D.map (Xy low))=some (Xy low y))∧(Kl D s=false→Xz s (D.map (Xy low))=none):=by
 constructor
 ·intro y hy hs hd
  unfold Xz
  induction D with
  | nil=>cases hy
  | cons z D ih =>
   rw [List.map_cons,List.find?_cons];rcases List.mem_cons.1 hy with e | e
   ·subst e
    have:decide ((Xy low y).1=s)=true:=decide_eq_true hs
    rw [this]
   ·have hne:(Xy low z).1≠s:=fun h=>(List.pairwise_cons.1 hd).1 y e (by rw [hs];exact h)
    rw [show decide ((Xy low z).1=s)=false by simpa using hne];exact ih e (List.pairwise_cons.1 hd).2
 ·intro h
  unfold Xz;rw [List.find?_eq_none];intro x hx;obtain ⟨z,hz,rfl⟩:=List.mem_map.1 hx;simp only [decide_eq_true_eq];intro e
  have:Kl D s=true:=Gk.2 ⟨z,hz,e⟩
  rw [this] at h;cases h
theorem tabFind_any {q q2:Option Addr} {c c2 L N:Nat} {t ys:List Int} {n low:Int} (hb:Qk w q c t) (hL:t.length=L) (hbigL:L≤140737488355328) (hc:L≤c) (hcm:c≤9223372036854775807) (ht:Byt t)
  (hb2:Qk w q2 c2 ys) (hN:ys.length=N) (hbig:N≤140737488355328) (hy:Byt ys) {s:List Int} (hs:Byt s) :
  Calls Tryz.prog 197 #[tabV (.slice q L c) (.slice q2 N c2) n low,.string (strOfNums s)] w fun e w'=>FiO w w' s (Mq t ys n low s) e:=by
 have g1:=grown1 w (.cells #[.slice q L c,.slice q2 N c2,.int .i64 n,.int .u64 low] 169);have k1:=heap_alloc_new w (.cells #[.slice q L c,.slice q2 N c2,.int .i64 n,.int .u64 low] 169);obtain ⟨w1,hw1⟩:∃ W,w.alloc (.cells #[.slice q L c,.slice q2 N c2,.int .i64 n,.int .u64 low] 169)=W:=⟨_,rfl⟩
 obtain ⟨b1,hb1⟩:∃ b,w.heap.size=b:=⟨_,rfl⟩
 rw [hw1] at g1 k1;rw [hb1] at k1;have g2:=grown1 w1 (.cells #[.string ⟨#[]⟩,.int .i64 0,.bool false,.int .u64 0,.int .u64 0,.int .u64 0,.string ⟨#[]⟩] 28);have r2:=Wt w1;obtain ⟨w2,hw2⟩:∃ W,w1.alloc (.cells #[.string ⟨#[]⟩,.int .i64 0,.bool false,.int .u64 0,.int .u64 0,.int .u64 0,.string ⟨#[]⟩] 28)=W:=⟨_,rfl⟩
 obtain ⟨b2,hb2'⟩:∃ b,w1.heap.size=b:=⟨_,rfl⟩
 rw [hw2] at g2 r2;rw [hb2'] at r2;have FI:=Lv (Find10_any (n:=n) ((hb.kept g1 (by simp)).kept g2 (by simp)) hL hbigL hc hcm ht ((hb2.kept g1 (by simp)).kept g2 (by simp)) hN hbig hy hs);have OK:=Lv (Bk (n:=n) ht hy);have KC:=Lv (fun (V:World) (hg:w2.grownBy V none)=>And.intro (Qv hg (Qv g2 (show w1.cell? ⟨b1,0,none⟩=some (.slice q L c) by rw [Qm k1];rfl))) (And.intro (Qv hg (Qv g2 (show w1.cell? ⟨b1,1,none⟩=some (.slice q2 N c2) by rw [Qm k1];rfl))) (And.intro (Qv hg (Qv g2 (show w1.cell? ⟨b1,2,none⟩=some (.int .i64 n) by rw [Qm k1];rfl))) (And.intro (Qv hg (Qv g2 (show w1.cell? ⟨b1,3,none⟩=some (.int .u64 low) by rw [Qm k1];rfl))) (show b1 < V.heap.size by have:=lt_of_block k1;have:=g2.size;have:=hg.size;omega)))))
 have TR:=Lv (show Mq t ys n low s=((Jk t ys n).1,(Xz s ((Jk t ys n).2.map (Xy low))).map (·.2)) from rfl);have ERR:=Lv (fun h=>Tq (t:=t) (ys:=ys) (n:=n) h);generalize Mq t ys n low s=TRv at *;obtain ⟨⟨E,D⟩,hR⟩:∃ R,R=Jk t ys n:=⟨_,rfl⟩
 rw [← hR] at FI OK TR ERR;simp only [] at OK TR ERR;have R2:=Lv r2;have G2:=Lv (Qz g1 g2);have BL:=Lv (show w.heap.size≤b2 by have:=g1.size;omega);obtain ⟨c0,c1,c2',c3,l1⟩:=KC.o w2 (Qq _ _);clear hb hb2 ht hy hs g1 k1 g2 r2 hR;unfold tabV;go_enter Tryz.func197,Tryz.ntmps197;go_upto_region 1 with fail;clear hw1 hb1 hw2 hb2';go_wp2_with fail;refine FI.o.mono ?_
 rintro e w3 ⟨⟨y,rfl,hyes,hno⟩,hg⟩;simp only [] at hyes hno ⊢;obtain ⟨hs',hhs⟩:∃ b,b=Kl D s:=⟨_,rfl⟩
 rw [← hhs] at hyes hno ⊢;have HHS:=Lv hhs;have YES:=Lv hyes;have NO:=Lv hno;obtain ⟨c0,c1,c2',c3,l1⟩:=KC.o w3 hg;have G3:=Lv (Qz G2.o hg);have G23:=Lv hg;have r3:=R2.o.kept hg (by simp);have g4:=grown1 w3 (.cells #[.string (strOfNums y.1),.int .i64 y.2.sec,.int .u64 y.2.value,.bool y.2.weak] 95);have s4:=SyAt.new w3 (strOfNums y.1) y.2;obtain ⟨w4,hw4⟩:∃ W,W=w3.alloc (.cells #[.string (strOfNums y.1),.int .i64 y.2.sec,.int .u64 y.2.value,.bool y.2.weak] 95):=⟨_,rfl⟩
 obtain ⟨X,hX⟩:∃ X,X=w3.heap.size:=⟨_,rfl⟩
 rw [← hw4] at g4 s4;rw [← hX] at s4;have HW4:=Lv hw4.symm;have HX:=Lv hX.symm;have S4:=Lv s4;have R4:=Lv (r3.kept g4 (by simp));have G4:=Lv (Qz G3.o g4);have G24:=Lv (Qz hg g4);clear hyes hno hhs hg r3 g4 s4 hw4 hX;unfold syV Yi;by_cases hE:E=0
 ·subst hE
  cases hs'
  · have F:=Lv (show TRv=(0,none) from by rw [TR.o,named_sym.2 HHS.o.symm];rfl)
    go_upto_region 2 with fail;rw [HW4.o,HX.o];have z0:=R4.o.fz 0;have z1:=R4.o.fz 1;have z2:=R4.o.fz 2;have z3:=R4.o.fz 3;have z4:=R4.o.fz 4;have z5:=R4.o.fz 5;have z6:=R4.o.fz 6;have e0:=R4.o.c;have l4:=R4.o.lt;have R5:=Lv (R4.o.put ⟨#[]⟩ Ex.zero);clear c0 c1 c2' c3 l1;go_wp2;refine bodyPost_ret (Q2 rfl rfl rfl rfl R5.o) rfl ?_
    exact ⟨by rw [F.o];rfl,Qr G4.o (Qh (Qq w4 (some b2)) _ _ _ _ _ _ _) (fun g e=>by injection e with e;have:=BL.o;omega)⟩
  · have hy2:=YES.o rfl
    have F:=Lv (show TRv=(0,some (Xy low y).2) from by rw [TR.o,named_sym.1 y hy2.1 hy2.2 OK.o.apart];rfl);have NMS:=Lv hy2.2;clear hy2;go_upto_region 2 with fail;rw [HW4.o,HX.o];obtain ⟨c0,c1,c2',c3,l1⟩:=KC.o w4 G24.o;obtain ⟨d0,d1,d2,d3⟩:=S4.o.c;have d4:=S4.o.lt;have EXP:=Lv (fun V=>tabExport_any (.slice q L c) (.slice q2 N c2) n low y V);obtain ⟨x,hx⟩:∃ x,x=(Xy low y).2:=⟨_,rfl⟩
    rw [← hx] at EXP F;unfold tabV syV Yi exV Zd at EXP;clear hx HW4 HX;go_wp2_with fail;refine (EXP.o _).mono ?_
    rintro e w5 ⟨rfl,hg5⟩;have r5:=R4.o.kept hg5 (by simp);have z0:=r5.fz 0;have z1:=r5.fz 1;have z2:=r5.fz 2;have z3:=r5.fz 3;have z4:=r5.fz 4;have z5:=r5.fz 5;have z6:=r5.fz 6;have e0:=r5.c;have l5:=r5.lt;have R6:=Lv (r5.put (strOfNums y.1) x);have G5:=Lv (Qz G4.o hg5);clear c0 c1 c2' c3 l1 d0 d1 d2 d3 d4 r5 hg5;go_wp2;refine bodyPost_ret (Q2 rfl rfl rfl rfl R6.o) rfl ?_
    exact ⟨by rw [F.o,← NMS.o];rfl,Qr G5.o (Qh (Qq w5 (some b2)) _ _ _ _ _ _ _) (fun g e=>by injection e with e;have:=BL.o;omega)⟩
 ·have hD:D=[]:=ERR.o hE
  have F:=Lv (show TRv=(E,none) from by rw [TR.o,hD];rfl);have dE:(E != 0)=true:=by simpa using hE
  clear hE hD;go_upto_region 2 with fail;rw [HW4.o,HX.o];have z0:=R4.o.fz 0;have z1:=R4.o.fz 1;have z2:=R4.o.fz 2;have z3:=R4.o.fz 3;have z4:=R4.o.fz 4;have z5:=R4.o.fz 5;have z6:=R4.o.fz 6;have e0:=R4.o.c;have l4:=R4.o.lt;have R5:=Lv (R4.o.put ⟨#[]⟩ Ex.zero);clear c0 c1 c2' c3 l1;go_wp2;refine bodyPost_ret (Q2 rfl rfl rfl rfl R5.o) rfl ?_
  exact ⟨by rw [F.o];rfl,Qr G4.o (Qh (Qq w4 (some b2)) _ _ _ _ _ _ _) (fun g e=>by injection e with e;have:=BL.o;omega)⟩
end
section
open Go.RowKit Go.Sort
variable {w w' W V:World} {h:Hx} {s:St} {sv dv:Value}
theorem Sk {P:Program} {o:Oper} {ev:Operand→Value} {T:TypeId} {x:Operand} {ad:Addr} {v:Value} (ho:o.op=.load T x) (hx:ev x=.pointer (some ad)) (hl:(loadVar T ad).run P V=.ok v V):(execOp ev o).run P V=.ok (Next.value v) V:=by
 unfold execOp;simp only [ho,hx,Instr.loadAt,Instr.sureAddr,Sem.run_bind,Sem.run_pure,Result.andThen_ok,hl]
structure OneB (w:World) (q:Option Addr) (c:Nat) (xs:List Int):Prop where
 b:Qk w q c xs
 le:xs.length≤c
 most:c≤9223372036854775807
theorem OneB.kept {q:Option Addr} {c:Nat} {xs:List Int} (h:OneB w q c xs) (hg:w.grownBy w' none):OneB w' q c xs:=⟨h.b.kept hg (by simp),h.le,h.most⟩
theorem own_bytes {base n c:Nat} {q:Option Addr} {xs:List Int} (h:w.ownsRow base 5 1 (.slice q n c) n (xs.map (Value.int .u8))) (hn:n=xs.length):OneB w q c xs:=by
 subst hn
 have:=Gd h
 exact ⟨Qk.of_own rfl h,this.1,this.2⟩
inductive SrcIs (w':World) (ys:List Int) (s:St):Value→Prop
 | trie (q:Option Addr) (c:Nat) (h0 : 0 < s.tr.2) (hb:OneB w' q c (Q1 ys s.tr.1 s.tr.2)):SrcIs w' ys s (.iface 167 (.slice q (Q1 ys s.tr.1 s.tr.2).length c))
 | table (q q2:Option Addr) (c c2:Nat) (h0:¬ 0 < s.tr.2) (h1 : 0 < s.sy.2) (hb:OneB w' q c (Q1 ys s.sy.1 s.sy.2)) (hb2:OneB w' q2 c2 (Q1 ys s.st.1 s.st.2)) :
  SrcIs w' ys s (.iface 169 (tabV (.slice q (Q1 ys s.sy.1 s.sy.2).length c) (.slice q2 (Q1 ys s.st.1 s.st.2).length c2) (secN s.segs) (lowN s.segs)))
 | nothing (h0:¬ 0 < s.tr.2) (h1:¬ 0 < s.sy.2):SrcIs w' ys s (.iface 171 (.agg #[]))
structure SrcO (w w':World) (ys:List Int) (s:St) (e:Ending):Prop where
 ex:∃ v,e=.returned v∧SrcIs w' ys s v
 grown:w.grownBy w' none
theorem Re {ys:List Int} {q:Option Addr} {c n:Nat} (h:Qk w q c ys) (hn:ys.length=n) (hc:n≤c) (hcm:c≤9223372036854775807) (h47:n≤140737488355328) {off sz:Int} (ho:U64 off) (hz:U64 sz) :
  Calls Tryz.prog 83 #[.slice q n c,.agg #[.int .u64 off,.int .u64 sz]] w fun e w'=>∃ V cc,e=.returned (.slice V (Q1 ys off sz).length cc)∧OneB w' V cc (Q1 ys off sz)∧w.grownBy w' none:=by
 subst hn;obtain ⟨h1,h2⟩:=ho;obtain ⟨h3,h4⟩:=hz;obtain ⟨o,rfl⟩:∃ o:Nat,off=o:=⟨off.toNat,by omega⟩
 obtain ⟨z,rfl⟩:∃ z:Nat,sz=z:=⟨sz.toNat,by omega⟩
 refine (Part_any h hc hcm h47 o z (by omega) (by omega)).mono ?_
 rintro e w' ⟨V,cc,rfl,ho,hg⟩;exact ⟨V,cc,rfl,own_bytes ho rfl,hg⟩
theorem sourceOf_any {ys:List Int} {q:Option Addr} {c n:Nat} (hb:Qk w q c ys) (hn:ys.length=n) (hc:n≤c) (hcm:c≤9223372036854775807) (h47:n≤140737488355328)
  {l:List Sg} {qs qd:Option Addr} {cs nd cd:Nat} (k:Zt w s l qs cs) (hsec:secN s.segs≤1000000000) (ht:U64 s.tr.1∧U64 s.tr.2) (hy:U64 s.sy.1∧U64 s.sy.2) (hs:U64 s.st.1∧U64 s.st.2) :
  Calls Tryz.prog 47 #[.slice q n c,imgV h s (.slice qs l.length cs) (.slice qd nd cd)] w fun e w'=>SrcO w w' ys s e:=by
 obtain ⟨N,hN⟩:∃ N,N=l.length:=⟨_,rfl⟩
 rw [← hN];have gB:=grown1 w (.cells (Qf h s (.slice qs N cs) (.slice qd nd cd)) 48);have aA:Zp (w.alloc (.cells (Qf h s (.slice qs N cs) (.slice qd nd cd)) 48)) w.heap.size h s (.slice qs N cs) (.slice qd nd cd):=heap_alloc_new w _;obtain ⟨W,hW⟩:∃ W,w.alloc (.cells (Qf h s (.slice qs N cs) (.slice qd nd cd)) 48)=W:=⟨_,rfl⟩
 obtain ⟨b,hb'⟩:∃ b,w.heap.size=b:=⟨_,rfl⟩
 rw [hW] at gB aA;rw [hb'] at aA;have PT:=Lv (fun (V:World) (hg:W.grownBy V none)=>Re ((hb.kept gB (by simp)).kept hg (by simp)) hn hc hcm h47 ht.1 ht.2);have PA:=Lv (fun (V:World) (hg:W.grownBy V none)=>Re ((hb.kept gB (by simp)).kept hg (by simp)) hn hc hcm h47 hy.1 hy.2);have PB:=Lv (fun (V:World) (hg:W.grownBy V none)=>Re ((hb.kept gB (by simp)).kept hg (by simp)) hn hc hcm h47 hs.1 hs.2)
 have SE:=Lv (fun (V:World) (hg:W.grownBy V none)=>sectionsOf_any (h:=h) (dv:=.slice qd nd cd) ((k.grown gB).grown hg) hsec);have LO:=Lv (fun (V:World) (hg:W.grownBy V none)=>Pq (h:=h) (dv:=.slice qd nd cd) ((k.grown gB).grown hg));rw [← hN] at SE LO;have KI:=Lv (fun (V:World) (hg:W.grownBy V none)=>Kn (aA.kept hg (by simp)));have KS:=Lv (fun (V:World) (hg:W.grownBy V none)=>And.intro ((aA.kept hg (by simp)).c 18 (.int .u64 s.sy.1) rfl) (And.intro ((aA.kept hg (by simp)).c 19 (.int .u64 s.sy.2) rfl) (And.intro ((aA.kept hg (by simp)).c 20 (.int .u64 s.st.1) rfl) ((aA.kept hg (by simp)).c 21 (.int .u64 s.st.2) rfl))))
 have G:=Lv gB;have c14:=aA.c 14 (.int .u64 s.tr.1) rfl;have c15:=aA.c 15 (.int .u64 s.tr.2) rfl;have c18:=aA.c 18 (.int .u64 s.sy.1) rfl;have c19:=aA.c 19 (.int .u64 s.sy.2) rfl;have gl:=lt_of_block aA;have TRI:=Lv (fun h0 (V:World) q c hb (hg:W.grownBy V none)=>(⟨⟨_,rfl,SrcIs.trie q c h0 hb⟩,Qz G.o hg⟩:SrcO w V ys s _));have NOT:=Lv (fun h0 h1 (V:World) (hg:W.grownBy V none)=>(⟨⟨_,rfl,SrcIs.nothing h0 h1⟩,Qz G.o hg⟩:SrcO w V ys s _))
 have TAB:=Lv (fun h0 h1 (V:World) (hg:W.grownBy V none) q c q2 c2 hb hb2=>(⟨⟨_,rfl,SrcIs.table q q2 c c2 h0 h1 hb hb2⟩,Qz G.o hg⟩:SrcO w V ys s _));clear hb hn hc hcm h47 k hsec ht hy hs gB aA hN;by_cases h0 : 0 < s.tr.2
 ·have d0:decide (0 < s.tr.2)=true:=decide_eq_true h0
  have TRI:=Lv (TRI.o h0);clear h0 TAB NOT PA PB SE LO KI KS c18 c19;obtain ⟨t1,ht1⟩:∃ t,t=s.tr.1:=⟨_,rfl⟩
  obtain ⟨t2,ht2⟩:∃ t,t=s.tr.2:=⟨_,rfl⟩
  rw [show imgV h s (.slice qs N cs) (.slice qd nd cd)=.agg (Qf h s (.slice qs N cs) (.slice qd nd cd)) from rfl];unfold Qf at hW ⊢;go_enter Tryz.func47,Tryz.ntmps47;go_upto_region 1 with fail;clear hW hb';go_wp2_with fail;refine (PT.o _ (Qq _ _)).mono ?_
  rintro e w2 ⟨V,cc,rfl,hb,hg⟩;have F:=Lv (TRI.o w2 V cc hb hg);clear hb hg;go_wp2;go_ret
  exact F.o
 have d0:decide (0 < s.tr.2)=false:=decide_eq_false h0;by_cases h1 : 0 < s.sy.2
 ·have d1:decide (0 < s.sy.2)=true:=decide_eq_true h1
  have FIN:=Lv (fun (V:World) V1 c1 V2 c2 (hg:W.grownBy V none) hb1 hb2=>TAB.o h0 h1 V hg V1 c1 V2 c2 hb1 hb2);obtain ⟨L1,hL1⟩:∃ L,L=(Q1 ys s.sy.1 s.sy.2).length:=⟨_,rfl⟩
  obtain ⟨L2,hL2⟩:∃ L,L=(Q1 ys s.st.1 s.st.2).length:=⟨_,rfl⟩
  obtain ⟨SN,hSN⟩:∃ n,n=secN s.segs:=⟨_,rfl⟩
  obtain ⟨LN,hLN⟩:∃ n,n=lowN s.segs:=⟨_,rfl⟩
  rw [← hL1] at PA;rw [← hL2] at PB;rw [← hSN] at SE;rw [← hLN] at LO;rw [← hL1,← hL2,← hSN,← hLN] at FIN;unfold tabV at FIN;have GD:=Lv (show W.grownBy W.drew none from Qj (Qq W none) 1);clear h0 h1 TRI NOT PT TAB hL1 hL2 hSN hLN c14;rw [show imgV h s (.slice qs N cs) (.slice qd nd cd)=.agg (Qf h s (.slice qs N cs) (.slice qd nd cd)) from rfl];unfold imgV at SE LO KI;unfold Qf at hW SE LO KI ⊢
  go_enter Tryz.func47,Tryz.ntmps47;go_upto_region 1 with fail;clear hW hb';go_upto_region 4 with fail;clear c15 c18 c19;refine wp_region_held_drew (S:=fun V=>W.grownBy V none) (by kernel_rfl) GD.o (fun hS=>?_);refine tkY (i:=0) (oi:=⟨some 20,_,_,_,_,_⟩) (v:=Value.slice q n c) rfl (by kernel_rfl) (fun _ _ _ h=>h) rfl (fun V hV=>?_) hS ?_
  ·go_simp
  refine tkY (i:=1) (oi:=⟨some 21,_,_,_,_,_⟩) (v:=Value.pointer (some ⟨b,18,none⟩)) rfl (by kernel_rfl) (fun _ _ _ h=>h) rfl (fun V hV=>?_) hS ?_
  ·go_simp
  refine tkY (i:=2) (oi:=⟨some 22,_,_,_,_,_⟩) (v:=Value.agg #[.int .u64 s.sy.1,.int .u64 s.sy.2]) rfl (by kernel_rfl) (fun _ _ _ h=>h) rfl (fun V hV=>?_) hS ?_
  ·(obtain ⟨c0,c1,c2,c3⟩:=KS.o V hV;go_simp)
  refine tkY (i:=4) (oi:=⟨some 24,_,_,_,_,_⟩) (v:=Value.slice q n c) rfl (by kernel_rfl) (fun _ _ _ h=>h) rfl (fun V hV=>?_) hS ?_
  ·go_simp
  refine tkY (i:=5) (oi:=⟨some 25,_,_,_,_,_⟩) (v:=Value.pointer (some ⟨b,20,none⟩)) rfl (by kernel_rfl) (fun _ _ _ h=>h) rfl (fun V hV=>?_) hS ?_
  ·go_simp
  refine tkY (i:=6) (oi:=⟨some 26,_,_,_,_,_⟩) (v:=Value.agg #[.int .u64 s.st.1,.int .u64 s.st.2]) rfl (by kernel_rfl) (fun _ _ _ h=>h) rfl (fun V hV=>?_) hS ?_
  ·(obtain ⟨c0,c1,c2,c3⟩:=KS.o V hV;go_simp)
  refine tkY (i:=8) (oi:=⟨some 28,_,_,_,_,_⟩) (v:=Value.agg #[.int .i64 h.kd,.int .i64 h.sb,.int .u32 h.fl,.string (strOfNums s.name),.slice qs N cs,.slice qd nd cd,.int .u64 s.rb.1,.int .u64 s.rb.2,.int .u64 s.bd.1,.int .u64 s.bd.2,.int .u64 s.wk.1,.int .u64 s.wk.2,.int .u64 s.lz.1,.int .u64 s.lz.2,.int .u64 s.tr.1,.int .u64 s.tr.2,.int .u64 s.ch.1,.int .u64 s.ch.2,.int .u64 s.sy.1,.int .u64 s.sy.2,.int .u64 s.st.1,.int .u64 s.st.2,.int .u64 s.entry,.bool s.has]) rfl (by kernel_rfl) (fun _ _ _ h=>h) rfl (fun V hV=>?_) hS ?_
  ·(exact Sk rfl rfl (KI.o V hV))
  refine tkY (i:=10) (oi:=⟨some 30,_,_,_,_,_⟩) (v:=Value.agg #[.int .i64 h.kd,.int .i64 h.sb,.int .u32 h.fl,.string (strOfNums s.name),.slice qs N cs,.slice qd nd cd,.int .u64 s.rb.1,.int .u64 s.rb.2,.int .u64 s.bd.1,.int .u64 s.bd.2,.int .u64 s.wk.1,.int .u64 s.wk.2,.int .u64 s.lz.1,.int .u64 s.lz.2,.int .u64 s.tr.1,.int .u64 s.tr.2,.int .u64 s.ch.1,.int .u64 s.ch.2,.int .u64 s.sy.1,.int .u64 s.sy.2,.int .u64 s.st.1,.int .u64 s.st.2,.int .u64 s.entry,.bool s.has]) rfl (by kernel_rfl) (fun _ _ _ h=>h) rfl (fun V hV=>?_) hS ?_
  ·(exact Sk rfl rfl (KI.o V hV))
  try simp only [Act.put,List.setIfInBounds_toArray,List.set_cons_zero,List.set_cons_succ]
  refine wpAnyH_ready (rs:=[3]) (by kernel_rfl) (by simp) ?_
  refine AllReadyH.cons (o:=⟨some 23,_,_,_,_,_⟩) rfl (fun K' hK'=>by
   go_simp;go_at_call 83
   refine (PA.o _ hS).mono ?_
   rintro e w1 ⟨V1,c1,rfl,hb1,hg⟩;have B1:=Lv hb1;have HG1:=Lv hg;have hS':=Qz hS hg;refine hK'.out _ _ hS' (fun hS=>?_);clear hK' K' hS' hb1 hg
   try simp only [Act.put,List.setIfInBounds_toArray,List.set_cons_zero,List.set_cons_succ]
   refine wpAnyH_ready (rs:=[7]) (by kernel_rfl) (by simp) ?_
   refine AllReadyH.cons (o:=⟨some 27,_,_,_,_,_⟩) rfl (fun K' hK'=>by
    go_simp;go_at_call 83
    refine (PB.o _ hS).mono ?_
    rintro e w2 ⟨V2,c2,rfl,hb2,hg⟩;have B2:=Lv hb2;have HG2:=Lv hg;have hS':=Qz hS hg;refine hK'.out _ _ hS' (fun hS=>?_);clear hK' K' hS' hb2 hg
    try simp only [Act.put,List.setIfInBounds_toArray,List.set_cons_zero,List.set_cons_succ]
    refine wpAnyH_ready (rs:=[9]) (by kernel_rfl) (by simp) ?_
    refine AllReadyH.cons (o:=⟨some 29,_,_,_,_,_⟩) rfl (fun K' hK'=>by
     go_simp;go_at_call 84
     refine (SE.o _ hS).mono ?_
     rintro e w3 ⟨rfl,hg⟩;have HG3:=Lv hg;have hS':=Qz hS hg;refine hK'.out _ _ hS' (fun hS=>?_);clear hK' K' hS' hg
     try simp only [Act.put,List.setIfInBounds_toArray,List.set_cons_zero,List.set_cons_succ]
     refine wpAnyH_ready (rs:=[11]) (by kernel_rfl) (by simp) ?_
     refine AllReadyH.cons (o:=⟨some 31,_,_,_,_,_⟩) rfl (fun K' hK'=>by
      go_simp;go_at_call 54
      refine (LO.o _ hS).mono ?_
      rintro e w4 ⟨rfl,hg⟩;have HG4:=Lv hg;have hS':=Qz hS hg;refine hK'.out _ _ hS' (fun hS=>?_);clear hK' K' hS' hg;refine tkY (i:=12) (oi:=⟨some 32,_,_,_,_,_⟩) (v:=Value.agg #[.slice V1 L1 c1,.slice V2 L2 c2,.int .i64 (SN:Int),.int .u64 LN]) rfl (by kernel_rfl) (fun _ _ _ h=>h) rfl (fun V hV=>?_) hS ?_
      ·go_simp
      refine tkY (i:=13) (oi:=⟨some 33,_,_,_,_,_⟩) (v:=Value.iface 169 (Value.agg #[.slice V1 L1 c1,.slice V2 L2 c2,.int .i64 (SN:Int),.int .u64 LN])) rfl (by kernel_rfl) (fun _ _ _ h=>h) rfl (fun V hV=>?_) hS ?_
      ·go_simp
      refine tkY (i:=14) (oi:=⟨some 4,_,_,_,_,_⟩) (v:=Value.iface 169 (Value.agg #[.slice V1 L1 c1,.slice V2 L2 c2,.int .i64 (SN:Int),.int .u64 LN])) rfl (by kernel_rfl) (fun _ _ _ h=>h) rfl (fun V hV=>?_) hS ?_
      ·go_simp
      try simp only [Act.put,List.setIfInBounds_toArray,List.set_cons_zero,List.set_cons_succ]
      refine wpAnyH_done (by kernel_rfl) ?_ _
      have FX:=FIN.o w4 V1 c1 V2 c2 hS (OneB.kept B1.o (Qz HG2.o (Qz HG3.o (HG4.o)))) (OneB.kept B2.o (Qz HG3.o (HG4.o)));clear B1 B2 HG1 HG2 HG3 HG4;have FXH:=Lv FX;clear FX;go_wp2;go_ret
      exact FXH.o) ?_
     exact AllReadyH.nil) ?_
    exact AllReadyH.nil) ?_
   exact AllReadyH.nil) ?_
  exact AllReadyH.nil
 ·have d1:decide (0 < s.sy.2)=false:=decide_eq_false h1
  have F:=Lv (NOT.o h0 h1 W (Qq _ _));clear h0 h1 TAB TRI PT PA PB SE LO KI KS;rw [show imgV h s (.slice qs N cs) (.slice qd nd cd)=.agg (Qf h s (.slice qs N cs) (.slice qd nd cd)) from rfl];unfold Qf at hW ⊢;go_enter Tryz.func47,Tryz.ntmps47;go_upto_region 1 with fail;clear hW hb';go_wp2;go_ret
  exact F.o
end
section
open Go.RowKit Go.Sort
variable {w w' W V:World} {h:Hx} {s:St} {sv dv:Value}
theorem names_all (v : Value) (W : World) : (method 392 167 v "clevis/export.all").run Tryz.prog W = .ok (188, v) W := by kernel_rfl
theorem table_all (v : Value) (W : World) : (method 392 169 v "clevis/export.all").run Tryz.prog W = .ok (196, v) W := by kernel_rfl
theorem nothing_all (v : Value) (W : World) : (method 392 171 v "clevis/export.all").run Tryz.prog W = .ok (206, v) W := by kernel_rfl
theorem names_find (v : Value) (W : World) : (method 392 167 v "clevis/export.find").run Tryz.prog W = .ok (189, v) W := by kernel_rfl
theorem table_find (v : Value) (W : World) : (method 392 169 v "clevis/export.find").run Tryz.prog W = .ok (197, v) W := by kernel_rfl
theorem nothing_find (v : Value) (W : World) : (method 392 171 v "clevis/export.find").run Tryz.prog W = .ok (207, v) W := by kernel_rfl
structure SrcAll (w2:World) (ys:List Int) (s:St) (T:TypeId) (recv:Value) (f:FuncId):Prop where
 is : ∀ W, (method 392 T recv "clevis/export.all").run Tryz.prog W = .ok (f, recv) W
 enter:∀ args W,(callFunc f args).run Tryz.prog W=.ok (.enter f args) W
 call:∀ W,w2.grownBy W none→Calls Tryz.prog f #[recv] W fun e w'=>ExsO W w' (Zy ys s) e
structure SrcFind (w2:World) (ys:List Int) (s:St) (T:TypeId) (recv:Value) (f:FuncId) (t:List Int):Prop where
 is : ∀ W, (method 392 T recv "clevis/export.find").run Tryz.prog W = .ok (f, recv) W
 enter:∀ args W,(callFunc f args).run Tryz.prog W=.ok (.enter f args) W
 call:∀ W,w2.grownBy W none→Calls Tryz.prog f #[recv,.string (strOfNums t)] W fun e w'=>FiO W w' t (Zo ys s t) e
theorem srcAll {w2:World} {ys:List Int} {v:Value} (h:SrcIs w2 ys s v) (hb:Byt ys) (h47:ys.length≤140737488355328):∃ T recv f,v=.iface T recv∧SrcAll w2 ys s T recv f:=by
 cases h with
 | trie q c h0 hp =>
  have hl:=Yc ys s.tr.1 s.tr.2;have e:Zy ys s=((allN (Q1 ys s.tr.1 s.tr.2)).2,srtN (allN (Q1 ys s.tr.1 s.tr.2)).1):=by unfold Zy;rw [if_pos h0]
  refine ⟨_,_,_,rfl,names_all _,enters_of Tryz.func188 (by kernel_rfl) rfl,fun W hg=>?_⟩;rw [e];have hp':=hp.kept hg;exact namesAll_any hp'.b rfl (Jy hb _ _) hp'.le hp'.most (by omega)
 | table q q2 c c2 h0 h1 hp hp2 =>
  have hl:=Yc ys s.sy.1 s.sy.2;have hl2:=Yc ys s.st.1 s.st.2;have e:Zy ys s=Wr (Q1 ys s.sy.1 s.sy.2) (Q1 ys s.st.1 s.st.2) (secN s.segs) (lowN s.segs):=by unfold Zy Wr;rw [if_neg h0,if_pos h1]
  refine ⟨_,_,_,rfl,table_all _,enters_of Tryz.func196 (by kernel_rfl) rfl,fun W hg=>?_⟩;rw [e];have hp':=hp.kept hg;have hp2':=hp2.kept hg;exact tabAll_any hp'.b rfl (by omega) hp'.le hp'.most (Jy hb _ _) hp2'.b rfl (by omega) (Jy hb _ _)
 | nothing h0 h1 =>
  have e:Zy ys s=(0,[]):=by unfold Zy;rw [if_neg h0,if_neg h1]
  refine ⟨_,_,_,rfl,nothing_all _,enters_of Tryz.func206 (by kernel_rfl) rfl,fun W hg=>?_⟩;rw [e];exact nothingAll_any W
theorem srcFind {w2:World} {ys:List Int} {v:Value} (h:SrcIs w2 ys s v) (hb:Byt ys) (h47:ys.length≤140737488355328) {t:List Int} (ht:Byt t) (htl:t.length≤9223372036854775807):∃ T recv f,v=.iface T recv∧SrcFind w2 ys s T recv f t:=by
 cases h with
 | trie q c h0 hp =>
  have hl:=Yc ys s.tr.1 s.tr.2;have e:Zo ys s t=Kf (Q1 ys s.tr.1 s.tr.2) t:=by unfold Zo;rw [if_pos h0]
  refine ⟨_,_,_,rfl,names_find _,enters_of Tryz.func189 (by kernel_rfl) rfl,fun W hg=>?_⟩;rw [e];have hp':=hp.kept hg;exact namesFind_any hp'.b rfl (Jy hb _ _) hp'.le hp'.most (by omega) t ht htl
 | table q q2 c c2 h0 h1 hp hp2 =>
  have hl:=Yc ys s.sy.1 s.sy.2;have hl2:=Yc ys s.st.1 s.st.2;have e:Zo ys s t=Mq (Q1 ys s.sy.1 s.sy.2) (Q1 ys s.st.1 s.st.2) (secN s.segs) (lowN s.segs) t:=by unfold Zo Mq;rw [if_neg h0,if_pos h1]
  refine ⟨_,_,_,rfl,table_find _,enters_of Tryz.func197 (by kernel_rfl) rfl,fun W hg=>?_⟩;rw [e];have hp':=hp.kept hg;have hp2':=hp2.kept hg;exact tabFind_any hp'.b rfl (by omega) hp'.le hp'.most (Jy hb _ _) hp2'.b rfl (by omega) (Jy hb _ _) ht
 | nothing h0 h1 =>
  have e:Zo ys s t=(0,none):=by unfold Zo;rw [if_neg h0,if_neg h1]
  refine ⟨_,_,_,rfl,nothing_find _,enters_of Tryz.func207 (by kernel_rfl) rfl,fun W hg=>?_⟩;rw [e];exact nothingFind_any t W
theorem Hk {nd:Nat}:∀ {D:Out} {k:Nat} {y:List Int × Ex},(∀ (i:Nat) (z:List Int × Ex),i < k→D[i]?=some z→Jn s nd z.2=0)→D[k]?=some y→Jn s nd y.2≠0→Jt s nd D=Jn s nd y.2
 | [],_,_,_,h,_=>by simp at h
 | z :: D,0,y,_,h,h0=>by
  simp at h;subst h;unfold Jt;rw [if_pos h0]
 | z :: D,k + 1,y,hk,h,h0=>by
  have hz:=hk 0 z (by omega) rfl;unfold Jt;rw [if_neg (by rw [hz];decide)];exact Hk (k:=k) (fun i x hi hx=>hk (i + 1) x (by omega) (by simpa using hx)) (by simpa using h) h0
theorem H5 {nd:Nat}:∀ {D:Out},(∀ (i:Nat) (z:List Int × Ex),D[i]?=some z→Jn s nd z.2=0)→Jt s nd D=0
 | [],_=>rfl
 | z :: D,h=>by
  have hz:=h 0 z rfl;unfold Jt;rw [if_neg (by rw [hz];decide)];exact H5 (fun i x hx=>h (i + 1) x (by simpa using hx))
structure Bt (w:World) (ys:List Int) (q:Option Addr) (c:Nat) (s:St) (l:List Sg) (qs:Option Addr) (cs nd:Nat):Prop where
 b:Qk w q c ys
 le:ys.length≤c
 most:c≤9223372036854775807
 few:ys.length≤140737488355328
 byt:Byt ys
 img:Zt w s l qs cs
 secs:secN s.segs≤1000000000
 tr:U64 s.tr.1∧U64 s.tr.2
 sy:U64 s.sy.1∧U64 s.sy.2
 st:U64 s.st.1∧U64 s.st.2
 deps:nd≤9223372036854775807
theorem Bt.grown {ys:List Int} {q:Option Addr} {c:Nat} {l:List Sg} {qs:Option Addr} {cs nd:Nat} (h:Bt w ys q c s l qs cs nd) (hg:w.grownBy w' none):Bt w' ys q c s l qs cs nd :=
 ⟨h.b.kept hg (by simp),h.le,h.most,h.few,h.byt,h.img.grown hg,h.secs,h.tr,h.sy,h.st,h.deps⟩
structure AlL (w2 wr:World) (s:St) (nd:Nat) (D:Out) (n:Nat) (v:Value):Prop where
 ex:∃ k:Nat,k≤n∧v=.int .i64 (k:Int)∧∀ (i:Nat) (z:List Int × Ex),i < k→D[i]?=some z→Jn s nd z.2=0
 grown:w2.grownBy wr none
theorem Gx {ys:List Int} {q:Option Addr} {c n:Nat} {l:List Sg} {qs qd:Option Addr} {cs nd cd:Nat} (hI:Bt w ys q c s l qs cs nd) (hn:ys.length=n) :
  Calls Tryz.prog 17 #[.slice q n c,imgV h s (.slice qs l.length cs) (.slice qd nd cd)] w fun e w'=>ExsO w w' (Bj ys s nd) e:=by
 obtain ⟨N,hN⟩:∃ N,N=l.length:=⟨_,rfl⟩
 rw [← hN];have gB:=grown1 w (.cells (Qf h s (.slice qs N cs) (.slice qd nd cd)) 48);have aA:Zp (w.alloc (.cells (Qf h s (.slice qs N cs) (.slice qd nd cd)) 48)) w.heap.size h s (.slice qs N cs) (.slice qd nd cd):=heap_alloc_new w _;obtain ⟨W,hW⟩:∃ W,w.alloc (.cells (Qf h s (.slice qs N cs) (.slice qd nd cd)) 48)=W:=⟨_,rfl⟩
 obtain ⟨b,hb'⟩:∃ b,w.heap.size=b:=⟨_,rfl⟩
 rw [hW] at gB aA;rw [hb'] at aA;have I1:=hI.grown gB;have SO:=Lv (sourceOf_any (h:=h) (qd:=qd) (cd:=cd) I1.b hn (by rw [← hn];exact I1.le) I1.most (by rw [← hn];exact I1.few) I1.img I1.secs I1.tr I1.sy I1.st (nd:=nd));have RO:=Lv (fun (V:World) (hg:W.grownBy V none)=>roomOf_any (h:=h) (qd:=qd) (cd:=cd) I1.deps (I1.img.grown hg));rw [← hN] at SO RO;have AA:=Lv (fun (V:World) (hg:W.grownBy V none)=>aA.kept hg (by simp))
 have HB:=Lv (And.intro I1.byt I1.few);have G:=Lv gB;have OUT:=Lv (show Bj ys s nd=if (Zy ys s).1≠0 then ((Zy ys s).1,[]) else if Jt s nd (Zy ys s).2≠0 then (Jt s nd (Zy ys s).2,[]) else (0,(Zy ys s).2) from rfl);generalize Bj ys s nd=RES at *;have k1:=AA.o W (Qq _ _);have K1:=Lv k1;clear I1 hI gB aA hN;rw [show imgV h s (.slice qs N cs) (.slice qd nd cd)=.agg (Qf h s (.slice qs N cs) (.slice qd nd cd)) from rfl]
 unfold Qf at hW ⊢;go_enter Tryz.func17,Tryz.ntmps17;go_upto_region 1 with fail;clear hW hb';go_wp2_with (refine Qi rfl _ rfl rfl K1.o ?_;unfold imgV Qf)
 refine SO.o.mono ?_
 rintro e w2 ⟨⟨v,rfl,hv⟩,hg2⟩;obtain ⟨T,recv,f,rfl,hA⟩:=srcAll hv HB.o.1 HB.o.2;have HM:=hA.is;have HE:=hA.enter;have HC:=Lv (hA.call w2 (Qq _ _));obtain ⟨⟨E,D⟩,hR⟩:∃ R,R=Zy ys s:=⟨_,rfl⟩
 rw [← hR] at HC OUT;simp only [] at OUT;have G2:=Lv (Qz G.o hg2);have GW2:=Lv hg2;clear hv hA hg2 hR SO k1;go_wp2_with fail;refine HC.o.mono ?_
 rintro e w3 ⟨⟨q3,c3,rfl,hD,hle,hmost⟩,hg3⟩;simp only [] at hD hle ⊢;have G3:=Lv (Qz G2.o hg3);have GW3:=Lv (Qz GW2.o hg3);have HD:=Lv hD;clear hD hg3 HM HE HC;by_cases hE:E=0
 ·subst hE
  have OUT:=Lv (OUT.o.trans (if_neg (by simp)));obtain ⟨M,hM⟩:∃ M,M=D.length:=⟨_,rfl⟩
  rw [← hM] at hle ⊢;have HM:=Lv hM.symm;have K3:=Lv (AA.o w3 GW3.o);have RO3:=Lv (RO.o w3 GW3.o);clear hM;go_wp2_with (refine Qi rfl _ rfl rfl K3.o ?_;unfold imgV Qf)
  refine RO3.o.mono ?_
  rintro e w4 ⟨rfl,hg4⟩;unfold Rg Vb;have RMAY:=Lv (fun (nm:ByteArray) (x:Ex) (V:World)=>roomMay_any nm x s nd V);unfold Rg Vb at RMAY;obtain ⟨LG,hLG⟩:∃ L,L=Yh s:=⟨_,rfl⟩
  rw [← hLG] at RMAY ⊢;have r5:Y5 (w4.alloc (.cells #[.int .u64 LG,.int .u64 (nd:Int)] 107)) w4.heap.size LG nd:=heap_alloc_new w4 _;have g5:=grown1 w4 (.cells #[.int .u64 LG,.int .u64 (nd:Int)] 107);obtain ⟨w5,hw5⟩:∃ W,W=w4.alloc (.cells #[.int .u64 LG,.int .u64 (nd:Int)] 107):=⟨_,rfl⟩
  obtain ⟨X,hX⟩:∃ X,X=w4.heap.size:=⟨_,rfl⟩
  rw [← hw5] at r5 g5;rw [← hX] at r5;have HW5:=Lv hw5.symm;have HX:=Lv hX.symm;have R5:=Lv r5;have D5:=Lv (HD.o.grown (Qz hg4 g5)).exs;have DR5:=Lv (HD.o.grown (Qz hg4 g5));have G5:=Lv (Qz G3.o (Qz hg4 g5));have ST:=Lv (show AlL w5 w5 s nd D M (.int .i64 0) from ⟨⟨0,Nat.zero_le _,rfl,fun i z h=>by omega⟩,Qq _ _⟩)
  clear hLG r5 g5 hw5 hX hg4 RO3 K3;go_upto_region 5 with fail;rw [HW5.o,HX.o];clear HW5 HX;go_wp2;go_loopw [26] (fun v26 wr=>AlL w5 wr s nd D M v26) (fun v26 _=>M - (intOf v26).toNat)
  case atStart=>exact ST.o
  case round =>
   obtain ⟨⟨k,hk,rfl,hmay⟩,hg⟩:=hrel;have MY:=Lv hmay;have GX:=Lv hg;have r6:=R5.o.kept hg (by simp);by_cases hlt:k < M
   ·obtain ⟨y,hy⟩:∃ y,D[k]?=some y:=⟨_,List.getElem?_eq_getElem (by rw [HM.o];exact hlt)⟩
    obtain ⟨ga,oa,rfl,a0,a1,a2,a3,a4,a5,a6⟩:=(D5.o.grown hg).at hy;have HY:=Lv hy;have dl:decide ((k:Int) < (M:Int))=true:=by simp;omega
    have hkI:(k:Int) < (M:Int):=by omega
    have x7:ExAt (wr.alloc (.cells #[.string (strOfNums y.1),.int .i64 y.2.kind,.bool y.2.weak,.int .u64 y.2.value,.int .u64 y.2.resolver,.int .u64 y.2.ordinal,.string (strOfNums y.2.other)] 28)) wr.heap.size (strOfNums y.1) y.2:=heap_alloc_new wr _;have g7:=grown1 wr (.cells #[.string (strOfNums y.1),.int .i64 y.2.kind,.bool y.2.weak,.int .u64 y.2.value,.int .u64 y.2.resolver,.int .u64 y.2.ordinal,.string (strOfNums y.2.other)] 28)
    obtain ⟨w7,hw7⟩:∃ W,W=wr.alloc (.cells #[.string (strOfNums y.1),.int .i64 y.2.kind,.bool y.2.weak,.int .u64 y.2.value,.int .u64 y.2.resolver,.int .u64 y.2.ordinal,.string (strOfNums y.2.other)] 28):=⟨_,rfl⟩
    obtain ⟨Z,hZ⟩:∃ Z,Z=wr.heap.size:=⟨_,rfl⟩
    rw [← hw7] at x7 g7;rw [← hZ] at x7;have HW7:=Lv hw7.symm;have HZ:=Lv hZ.symm;have r7:=r6.kept g7 (by simp);have G7:=Lv (Qz hg g7);have MAY:=Lv (RMAY.o (strOfNums y.1) y.2 w7);obtain ⟨r,hr⟩:∃ r,r=Jn s nd y.2:=⟨_,rfl⟩
    rw [← hr] at MAY;have HR:=Lv hr;unfold exV Zd at MAY;have X7:=Lv x7;have R7:=Lv r7;clear hmay hg hy g7 hw7 hZ r6 r7 x7 hr;go_upto_region 8 with fail;rw [HW7.o,HZ.o];obtain ⟨b0,b1,b2,b3,b4,b5,b6⟩:=X7.o.c;have bl:=X7.o.lt;obtain ⟨e0,e1⟩:=R7.o.c;have el:=lt_of_block R7.o;clear a0 a1 a2 a3 a4 a5 a6 HW7 HZ;go_wp2_with fail;refine MAY.o.mono ?_
    rintro e w8 ⟨rfl,hg8⟩;have G8:=Lv (Qz G7.o hg8);clear hg8 b0 b1 b2 b3 b4 b5 b6 bl e0 e1 el X7 R7;by_cases hr0:r=0
    ·subst hr0
     go_wp2;go_roundw
     case rel=>exact ⟨⟨k + 1,hlt,by go_num,fun i z hi hz=>by
      rcases Nat.lt_or_ge i k with h | h
      ·exact MY.o i z h hz
      ·obtain rfl:i=k:=by omega
       rw [HY.o] at hz;injection hz with hz;rw [← hz];exact HR.o.symm⟩,G8.o⟩
     case measure=>simp [intOf];omega
    ·have dr:(r != 0)=true:=by simpa using hr0
     have F:=Lv (ExsO.none (w:=w) (w':=w8) (OUT.o.trans (by
      have e:=Hk MY.o HY.o (by rw [← HR.o];exact hr0);show (if Jt s nd D≠0 then (Jt s nd D,[]) else (0,D))=(r,[])
      rw [e,← HR.o,if_pos hr0])) (Qz G5.o G8.o))
     clear hr0;go_wp2;go_ret2
     exact F.o
   ·have hkm:M=k:=by omega
    subst hkm;have dl:decide ((M:Int) < (M:Int))=false:=by simp
    have F:=Lv (show ExsO w wr RES (.returned (.tuple #[.slice q3 M c3,.int .i64 0])) from by
     rw [OUT.o];have e:Jt s nd D=0:=H5 (fun i z hz=>hmay i z (by
      obtain ⟨h1,_⟩:=List.getElem?_eq_some_iff.1 hz;rw [HM.o] at h1;exact h1) hz)
     show ExsO w wr (if Jt s nd D≠0 then (Jt s nd D,[]) else (0,D)) _
     rw [e,if_neg (by simp)];exact ⟨⟨q3,c3,by simp only [];rw [HM.o],DR5.o.grown hg,by simp only [];rw [HM.o];exact hle,hmost⟩,Qz G5.o hg⟩)
    clear hmay hg r6;go_wp2;go_ret2
    exact F.o
 ·have dE:(E != 0)=true:=by simpa using hE
  have F:=Lv (ExsO.none (OUT.o.trans (if_pos hE)) G3.o);clear hE;go_wp2;go_ret2
  exact F.o
end
section
open Go.RowKit Go.Sort
variable {w w' W V:World} {h:Hx} {s:St} {sv dv:Value}
theorem Kk {ops:Array Oper} {C:World→Prop} {Q:Act→Prop} {a:Act} {o:Oper} {rest:List Oper} {T:TypeId} {ad:Addr} {v:Value} (hw:Region.wanted o (yielded ops a.tmps)=true) (x:Operand) (ho:o.op=.load T x)
  (hx:a.eval x=.pointer (some ad)) (hl:∀ w,C w→(loadVar T ad).run Tryz.prog w=.ok v w) (hK:wpQuiet Tryz.prog ops C Q rest (a.put o.dst v)):wpQuiet Tryz.prog ops C Q (o :: rest) a:=by
 refine wpQuiet_step fun K hK'=>?_
 rw [if_pos hw];refine ⟨v,fun W hW=>?_,hK' _ hK⟩;unfold Oper.quietAt execOp;simp only [ho,hx,Instr.loadAt,Instr.sureAddr,Sem.run_bind,Sem.run_pure,Result.andThen_ok,hl W hW];exact ⟨rfl,rfl⟩
theorem exportFind_any {ys:List Int} {q:Option Addr} {c n:Nat} {l:List Sg} {qs qd:Option Addr} {cs nd cd:Nat} (hI:Bt w ys q c s l qs cs nd) (hn:ys.length=n) (t:List Int) (ht:Byt t) (htl:t.length≤9223372036854775807) :
  Calls Tryz.prog 19 #[.slice q n c,imgV h s (.slice qs l.length cs) (.slice qd nd cd),.string (strOfNums t)] w fun e w'=>FiO w w' t (Gr ys s nd t) e:=by
 obtain ⟨N,hN⟩:∃ N,N=l.length:=⟨_,rfl⟩
 rw [← hN];have gB:=grown1 w (.cells (Qf h s (.slice qs N cs) (.slice qd nd cd)) 48);have aA:Zp (w.alloc (.cells (Qf h s (.slice qs N cs) (.slice qd nd cd)) 48)) w.heap.size h s (.slice qs N cs) (.slice qd nd cd):=heap_alloc_new w _;obtain ⟨W,hW⟩:∃ W,w.alloc (.cells (Qf h s (.slice qs N cs) (.slice qd nd cd)) 48)=W:=⟨_,rfl⟩
 obtain ⟨b,hb'⟩:∃ b,w.heap.size=b:=⟨_,rfl⟩
 rw [hW] at gB aA;rw [hb'] at aA;have g2:=grown1 W (.cells #[.string ⟨#[]⟩,.int .i64 0,.bool false,.int .u64 0,.int .u64 0,.int .u64 0,.string ⟨#[]⟩] 28);have r2:=Wt W;obtain ⟨W2,hW2⟩:∃ W2,W.alloc (.cells #[.string ⟨#[]⟩,.int .i64 0,.bool false,.int .u64 0,.int .u64 0,.int .u64 0,.string ⟨#[]⟩] 28)=W2:=⟨_,rfl⟩
 obtain ⟨b2,hb2⟩:∃ b,W.heap.size=b:=⟨_,rfl⟩
 rw [hW2] at g2 r2;rw [hb2] at r2;have I2:=hI.grown (Qz gB g2);have SO:=Lv (sourceOf_any (h:=h) (qd:=qd) (cd:=cd) I2.b hn (by rw [← hn];exact I2.le) I2.most (by rw [← hn];exact I2.few) I2.img I2.secs I2.tr I2.sy I2.st (nd:=nd));have RO:=Lv (fun (V:World) (hg:W2.grownBy V none)=>roomOf_any (h:=h) (qd:=qd) (cd:=cd) I2.deps (I2.img.grown hg));rw [← hN] at SO RO;have a2:=aA.kept g2 (by simp)
 have AA:=Lv (fun (V:World) (hg:W2.grownBy V none)=>a2.kept hg (by simp));have HB:=Lv (And.intro I2.byt I2.few);have HT:=Lv (And.intro ht htl);have G2:=Lv (Qz gB g2);have R2:=Lv r2;have BL:=Lv (show w.heap.size≤b2 by have:=gB.size;omega);have OUT:=Lv (show Gr ys s nd t=if (Zo ys s t).1≠0 then ((Zo ys s t).1,none) else match (Zo ys s t).2 with
  | none=>(0,none)
  | some x=>if Jn s nd x≠0 then (Jn s nd x,none) else (0,some x) from rfl)
 generalize Gr ys s nd t=RES at *;have K2:=Lv a2;clear I2 hI gB aA hN g2 r2 a2 ht;rw [show imgV h s (.slice qs N cs) (.slice qd nd cd)=.agg (Qf h s (.slice qs N cs) (.slice qd nd cd)) from rfl];unfold Qf at hW ⊢;go_enter Tryz.func19,Tryz.ntmps19;go_upto_region 1 with fail;clear hW hb' hW2 hb2;go_wp2_with (refine Qi rfl _ rfl rfl K2.o ?_;unfold imgV Qf)
 refine SO.o.mono ?_
 rintro e w3 ⟨⟨v,rfl,hv⟩,hg3⟩;obtain ⟨T,recv,f,rfl,hA⟩:=srcFind hv HB.o.1 HB.o.2 HT.o.1 HT.o.2;have HM:=hA.is;have HE:=hA.enter;have HC:=Lv (hA.call w3 (Qq _ _));obtain ⟨⟨E,o⟩,hR⟩:∃ R,R=Zo ys s t:=⟨_,rfl⟩
 rw [← hR] at HC OUT;simp only [] at OUT;have GW3:=Lv hg3;clear hv hA hg3 hR SO;go_wp2_with fail;refine HC.o.mono ?_
 rintro e w4 ⟨rfl,hg4⟩;simp only [];have GW4:=Lv (Qz GW3.o hg4);clear hg4 HM HE HC;obtain ⟨nm,hnm⟩:∃ nm,nm=nmOf (strOfNums t) o:=⟨_,rfl⟩
 obtain ⟨x,hx⟩:∃ x,x=exOf o:=⟨_,rfl⟩
 obtain ⟨is,his⟩:∃ b,b=o.isSome:=⟨_,rfl⟩
 rw [← hnm,← hx,← his];have HNX:=Lv (And.intro hnm (And.intro hx his));have x5:ExAt (w4.alloc (.cells #[.string nm,.int .i64 x.kind,.bool x.weak,.int .u64 x.value,.int .u64 x.resolver,.int .u64 x.ordinal,.string (strOfNums x.other)] 28)) w4.heap.size nm x:=heap_alloc_new w4 _;have g5:=grown1 w4 (.cells #[.string nm,.int .i64 x.kind,.bool x.weak,.int .u64 x.value,.int .u64 x.resolver,.int .u64 x.ordinal,.string (strOfNums x.other)] 28)
 obtain ⟨w5,hw5⟩:∃ W,W=w4.alloc (.cells #[.string nm,.int .i64 x.kind,.bool x.weak,.int .u64 x.value,.int .u64 x.resolver,.int .u64 x.ordinal,.string (strOfNums x.other)] 28):=⟨_,rfl⟩
 obtain ⟨Z,hZ⟩:∃ Z,Z=w4.heap.size:=⟨_,rfl⟩
 rw [← hw5] at x5 g5;rw [← hZ] at x5;have HW5:=Lv hw5.symm;have HZ:=Lv hZ.symm;have X5:=Lv x5;have GW5:=Lv (Qz GW4.o g5);have r5:=R2.o.kept GW5.o (by simp);have R5:=Lv r5;have ZL:=Lv (show Z < w5.heap.size from x5.lt);clear hnm hx his x5 g5 hw5 hZ r5;unfold exV Zd;by_cases hok:E=0∧is=true
 ·obtain ⟨rfl,rfl⟩:=hok
  have OUT:=Lv (OUT.o.trans (if_neg (by simp)));obtain ⟨y,hy⟩:∃ y,o=some y:=by
   have:=HNX.o.2.2
   cases o with
   | none=>cases this
   | some y=>exact ⟨y,rfl⟩
  subst hy;have hxy:x=y:=HNX.o.2.1;subst hxy;have hnmt:nm=strOfNums t:=HNX.o.1;have HNT:=Lv hnmt;simp only [] at OUT;clear hnmt;go_upto_region 4 with fail;rw [HW5.o,HZ.o];clear HW5 HZ;have KG:=fun d os=>Qt (below_regrown w5 d os) none;have RQ:=Lv (fun d os=>Calls.regrown_of ((RO.o _ (Qz GW5.o (KG d os))).mono (fun _ _ h=>(⟨h.1,Qg h.2 (Nat.le_refl _) (by simp)⟩ : _∧_))))
  have MQ:=Lv (fun d os=>Calls.regrown_of ((roomMay_any nm x s nd (Go.Sort.grow (redrawn w5 d) os)).mono (fun _ _ h=>(⟨h.1,Qg h.2 (Nat.le_refl _) (by simp)⟩ : _∧_))));have LD:=Lv (fun (V:World) (hV:∃ p:Regrown,V=Go.Sort.grow (redrawn w5 p.d) p.os)=>(by obtain ⟨p,rfl⟩:=hV;exact Kn (AA.o _ (Qz GW5.o (KG p.d p.os))):(loadVar 48 ⟨b,0,none⟩).run Tryz.prog V=.ok (imgV h s (.slice qs N cs) (.slice qd nd cd)) V))
  have LX:=Lv (fun (V:World) (hV:∃ p:Regrown,V=Go.Sort.grow (redrawn w5 p.d) p.os)=>(by obtain ⟨p,rfl⟩:=hV;exact Tt (X5.o.kept (KG p.d p.os) (by simp)):(loadVar 28 ⟨Z,0,none⟩).run Tryz.prog V=.ok (exV nm x) V));obtain ⟨r,hr⟩:∃ r,r=Jn s nd x:=⟨_,rfl⟩
  rw [← hr] at MQ OUT;have HR:=Lv hr;have HK:=Lv KG;unfold imgV Qf at RQ LD;unfold Rg at RQ MQ;unfold exV Zd at LX MQ;clear hr KG;refine wp_region_quiet_below (by kernel_rfl) (by kernel_rfl) ?_
  refine Kk rfl _ rfl rfl LD.o ?_
  quiet_step (with_reducible exact RQ.o _ _)
  refine Kk rfl _ rfl rfl LX.o ?_
  quiet_step (with_reducible exact MQ.o _ _)
  repeat (quiet_step (fail))
  refine wpQuiet_nil ?_
  intro _ hw';obtain ⟨⟨dq,osq⟩,hw''⟩:=hw';subst hw'';have gk:=HK.o dq osq;have R6:=Lv (R5.o.kept gk (by simp));have X6:=Lv (X5.o.kept gk (by simp));have GW6:=Lv (Qz GW5.o gk);obtain ⟨w6,hw6⟩:∃ w6,Go.Sort.grow (redrawn w5 dq) osq=w6:=⟨_,rfl⟩
  rw [hw6] at R6 X6 GW6 ⊢;have z0:=R6.o.fz 0;have z1:=R6.o.fz 1;have z2:=R6.o.fz 2;have z3:=R6.o.fz 3;have z4:=R6.o.fz 4;have z5:=R6.o.fz 5;have z6:=R6.o.fz 6;have e0:=R6.o.c;have l6:=R6.o.lt;clear hw6 gk;by_cases hr0:r=0
  ·subst hr0
   have RN:=Lv (show RES=(0,some x) from by rw [OUT.o,if_neg (by simp)]);have R7:=Lv (R6.o.put nm x);have x0:=X6.o.c;have xl:=X6.o.lt;go_wp2;refine bodyPost_ret (Q2 rfl rfl rfl rfl R7.o) rfl ?_
   exact ⟨by rw [RN.o,HNT.o];rfl,Qr (Qz G2.o GW6.o) (Qh (Qq w6 (some b2)) _ _ _ _ _ _ _) (fun g e=>by injection e with e;have:=BL.o;omega)⟩
  ·have dr:(r != 0)=true:=by simpa using hr0
   have RN:=Lv (show RES=(r,none) from by rw [OUT.o,if_pos hr0]);have R7:=Lv (R6.o.put ⟨#[]⟩ Ex.zero);clear hr0;go_wp2;refine bodyPost_ret (Q2 rfl rfl rfl rfl R7.o) rfl ?_
   exact ⟨by rw [RN.o];rfl,Qr (Qz G2.o GW6.o) (Qh (Qq w6 (some b2)) _ _ _ _ _ _ _) (fun g e=>by injection e with e;have:=BL.o;omega)⟩
 ·have dok:((E != 0) || !is)=true:=by
   cases is
   ·simp
   ·have:E≠0:=fun h=>hok ⟨h,rfl⟩
    simpa using this
  have RN:=Lv (show RES=(E,none) from by
   rw [OUT.o];by_cases h0:E=0
   ·rw [if_neg (by simpa using h0),h0]
    cases o with
    | none=>rfl
    | some y=>exact absurd ⟨h0,HNX.o.2.2⟩ hok
   ·rw [if_pos h0])
  go_upto_region 2 with fail;rw [HW5.o,HZ.o];clear HW5 HZ;have z0:=R5.o.fz 0;have z1:=R5.o.fz 1;have z2:=R5.o.fz 2;have z3:=R5.o.fz 3;have z4:=R5.o.fz 4;have z5:=R5.o.fz 5;have z6:=R5.o.fz 6;have e0:=R5.o.c;have l5:=R5.o.lt;have R6:=Lv (R5.o.put ⟨#[]⟩ Ex.zero);have hcase:(E != 0)=true∨((E != 0)=false∧is=false):=by
   cases he:(E != 0)
   ·right
    rw [he] at dok;simpa using dok
   ·exact .inl rfl
  clear hok dok;rcases hcase with dE | ⟨dE,rfl⟩
  ·go_wp2
   refine bodyPost_ret (Q2 rfl rfl rfl rfl R6.o) rfl ?_
   exact ⟨by rw [RN.o];rfl,Qr (Qz G2.o GW5.o) (Qh (Qq w5 (some b2)) _ _ _ _ _ _ _) (fun g e=>by injection e with e;have:=BL.o;omega)⟩
  ·go_wp2
   refine bodyPost_ret (Q2 rfl rfl rfl rfl R6.o) rfl ?_
   exact ⟨by rw [RN.o];rfl,Qr (Qz G2.o GW5.o) (Qh (Qq w5 (some b2)) _ _ _ _ _ _ _) (fun g e=>by injection e with e;have:=BL.o;omega)⟩
end
end Go.Proofs.YtkmbkpoclhbmgaaGreat
