/- Parts of the proof, put together: ImP, ImQ, ImR, Ref5. No condition beyond those that each part names. -/
import Derived.Test.YtkmbkpoclhbmgaaGreatPA18
set_option maxRecDepth 20000
set_option maxHeartbeats 6400000
namespace Go.Proofs.YtkmbkpoclhbmgaaGreat
open Go.RowKit
variable {w w' W V:World}
section
variable {w w':World} {h:Hx} {s:St} {sv dv:Value} {n hd:Int}
set_option maxHeartbeats 4000000 in
theorem rsegments_any {l:List Sg} {qs:Option Addr} {cs:Nat} (k:Zt w s l qs cs) (hf:We s) (hn:U64 n) (_hh:U64 hd) :
  Calls Tryz.prog 79 #[imgV h s (.slice qs l.length cs) dv,.int .u64 n,.int .u64 hd] w fun e w'=>e=.returned (.int .i64 (if Yp s n hd=true then 0 else 8))∧w.grownBy w' none:=by
 have gB:=grown1 w (.cells (Qf h s (.slice qs l.length cs) dv) 48);have aA:Zp (w.alloc (.cells (Qf h s (.slice qs l.length cs) dv) 48)) w.heap.size h s (.slice qs l.length cs) dv:=heap_alloc_new w _;obtain ⟨W,hW⟩:∃ W,w.alloc (.cells (Qf h s (.slice qs l.length cs) dv) 48)=W:=⟨_,rfl⟩
 obtain ⟨b,hb⟩:∃ b,w.heap.size=b:=⟨_,rfl⟩
 rw [hW] at gB aA;rw [hb] at aA;have RW:=Lv (fun (V:World) (hg:W.grownBy V none)=>(k.grown gB).row.grown hg);have G:=Lv gB;have AA:=Lv aA;have CP:=Lv k.cap;have FW:=Lv k.few;have FF:=Lv (fun (x:Sg) (hx:x∈l)=>(k.fit hf hx).1);have NN:=Lv hn;obtain ⟨r,hr⟩:∃ r:Int,r=if Yp s n hd=true then 0 else 8:=⟨_,rfl⟩
 rw [← hr];have R8:=Lv (fun (hs:Yp s n hd=false)=>(show r=8 by rw [hr,hs];rfl));have NPR:=Lv (fun (x:Sg) (hx:x∈l) (hs:Yf x.seg=false)=>R8.o (segs_prot k.segs hx hs));have NSZ:=Lv (fun (x:Sg) (hx:x∈l) (hs:Yz x.seg n=false)=>R8.o (segs_size k.segs hx hs));have NRI:=Lv (fun (a b:Nat) (x y:Sg) (hab:a < b) (hx:l[a]?=some x) (hy:l[b]?=some y) (hs:¬ Hb x.seg y.seg)=>R8.o (segs_rise k.segs hab hx hy hs))
 have RALL:=Lv (fun (f:Mv l n l.length)=>(show r=if Gn s.segs hd=true then 0 else 8 by rw [hr,segs_all k.segs f]));have FNO:=Lv (fun hz=>front_none (hd:=hd) k.segs hz);have FSO:=Lv (fun (a:Nat) (x:Sg) hz=>front_some (hd:=hd) (k:=a) (x:=x) k.segs hz);clear k gB aA hr hf hn _hh R8;rw [show imgV h s (.slice qs l.length cs) dv=.agg (Qf h s (.slice qs l.length cs) dv) from rfl]
 unfold Qf at hW ⊢;go_enter Tryz.func79,Tryz.ntmps79;go_upto_region 1 with fail;clear hW hb;generalize Value.agg #[.int .i64 h.kd,.int .i64 h.sb,.int .u32 h.fl,.string (strOfNums s.name),.slice qs l.length cs,dv,.int .u64 s.rb.1,.int .u64 s.rb.2,.int .u64 s.bd.1,.int .u64 s.bd.2,.int .u64 s.wk.1,.int .u64 s.wk.2,.int .u64 s.lz.1,.int .u64 s.lz.2,.int .u64 s.tr.1,.int .u64 s.tr.2,.int .u64 s.ch.1,.int .u64 s.ch.2,.int .u64 s.sy.1,.int .u64 s.sy.2,.int .u64 s.st.1,.int .u64 s.st.2,.int .u64 s.entry,.bool s.has]=v0
 go_wp2;go_loopw [7,8] (fun fi i wr=>∃ (i1:Nat) (F:Int),i1≤l.length∧i=.int .i64 i1∧fi=.int .i64 F∧W.grownBy wr none∧Mv l n i1∧FirstOf l i1 F) (fun _ i _=>l.length - (intOf i).toNat)
 case atStart=>exact ⟨0,-1,Nat.zero_le _,rfl,rfl,Qq _ _,Mv.zero l n,.inl ⟨rfl,fun j y h=>by omega⟩⟩
 case round =>
  obtain ⟨i1,F,hi,rfl,rfl,hg,hfine,hfirst⟩:=hrel;have FI:=Lv hfine;have F1:=Lv hfirst;have G3:=Lv hg;have c4:=(AA.o.kept hg (by simp)).c 4 (.slice qs l.length cs) rfl;have gl:=lt_of_block (AA.o.kept hg (by simp));have hfw:l.length≤9223372036854775807:=FW.o;by_cases hlt:i1 < l.length
  ·obtain ⟨x,hx⟩:∃ x,l[i1]?=some x:=⟨_,List.getElem?_eq_getElem hlt⟩
   obtain ⟨g,rfl,a0,a1,a2,a3,a4,a5,a6⟩:=(RW.o wr hg).at hx;have hxm:=List.mem_of_getElem? hx
   have HX:=Lv hx;have dl:decide ((i1:Int) < (l.length:Int))=true:=by simp;omega
   have hil:(i1:Int) < (l.length:Int):=by omega
   have hcp:l.length≤cs:=CP.o;have NP:=NPR.o x hxm;have NS:=NSZ.o x hxm;have FX:=FF.o x hxm;have LD:=Lv (fun (V:World)=>Ro (w:=V) x.seg x.q x.seg.secs.length x.c);obtain ⟨⟨nm,ad,sz,of,fs,pr,sl⟩,q1,c1⟩:=x;simp only [] at a0 a1 a2 a3 a4 a5 a6 NP NS LD;unfold segV Vi at LD;obtain ⟨⟨f1,f2⟩,⟨f3,f4⟩,⟨f5,f6⟩,⟨f7,f8⟩,f9,f10⟩:=(⟨FX.addr,FX.size,FX.off,FX.fsize,FX.prot⟩:U64 ad∧U64 sz∧U64 of∧U64 fs∧(-9223372036854775808≤pr∧pr≤9223372036854775807))
   have g5:=Qz hg (grown1 wr (.cells #[.string (strOfNums nm),.int .u64 ad,.int .u64 sz,.int .u64 of,.int .u64 fs,.int .i64 pr,.slice q1 sl.length c1] 121));have p5:Zn (wr.alloc (.cells #[.string (strOfNums nm),.int .u64 ad,.int .u64 sz,.int .u64 of,.int .u64 fs,.int .i64 pr,.slice q1 sl.length c1] 121)) wr.heap.size ⟨nm,ad,sz,of,fs,pr,sl⟩ (.slice q1 sl.length c1):=heap_alloc_new wr _;obtain ⟨wd,hwd⟩:∃ wd,wr.alloc (.cells #[.string (strOfNums nm),.int .u64 ad,.int .u64 sz,.int .u64 of,.int .u64 fs,.int .i64 pr,.slice q1 sl.length c1] 121)=wd:=⟨_,rfl⟩
   obtain ⟨pd,hpd⟩:∃ pd,wr.heap.size=pd:=⟨_,rfl⟩
   rw [hwd] at g5 p5;rw [hpd] at p5;have P5:=Lv p5;have G5:=Lv g5;clear hg hx g5 hxm FX hfine hfirst p5;have NP:=Lv NP;have NS:=Lv NS;generalize hN:l.length=N at *;have HN:=Lv hN;clear hN;go_upto_region 6 with fail;clear hwd hpd;obtain ⟨y0,y1,y2,y3,y4,y5,y6⟩:=P5.o.c;have yl:=P5.o.lt;simp only [] at y0 y1 y2 y3 y4 y5;by_cases hA:pr < 0
   ·have NEQ:=Lv (NP.o (by unfold Yf;simp;omega))
    have dA:decide (pr < 0)=true:=by simpa using hA
    clear f1 f2 f3 f4 f5 f6 f7 f8 f9 f10 hA;go_wp2;go_ret
    exact ⟨Ql NEQ.o.symm,Qz G.o G5.o⟩
   have dA:decide (pr < 0)=false:=by simpa using hA
   by_cases hB : 7 < pr
   ·have NEQ:=Lv (NP.o (by unfold Yf;simp;omega))
    have dB:decide (7 < pr)=true:=by simpa using hB
    clear f1 f2 f3 f4 f5 f6 f7 f8 f9 f10 hA hB;go_wp2;go_ret
    exact ⟨Ql NEQ.o.symm,Qz G.o G5.o⟩
   have dB:decide (7 < pr)=false:=by simpa using hB
   by_cases hC:pr=0
   ·have dC:(pr == 0)=true:=by simpa using hC
    by_cases hD:fs=0
    ·have dD:(fs != 0)=false:=by simpa using hD
     have POK:=Lv (show Yf ⟨nm,ad,sz,of,fs,pr,sl⟩=true by unfold Yf;simp;omega);clear hA hB hC hD;go_upto_region 8 with fail;have ST:=Lv (show Yz ⟨nm,ad,sz,of,fs,pr,sl⟩ n=((ad % 4096 == 0) && (sz % 4096 == 0) && decide (0 < sz) && decide (fs≤sz) && Zq of fs n && Zq ad sz 140737488355328) from rfl);have t1:ad.tmod 4096=ad % 4096:=Int.tmod_eq_emod_of_nonneg f1;have t2:sz.tmod 4096=sz % 4096:=Int.tmod_eq_emod_of_nonneg f3
     obtain ⟨r1,hr1⟩:∃ r,ad % 4096=r:=⟨_,rfl⟩
     obtain ⟨r2,hr2⟩:∃ r,sz % 4096=r:=⟨_,rfl⟩
     have m1:IntKind.u64.wrap r1=r1:=by rw [IntKind.wrap_u64];omega
     have m2:IntKind.u64.wrap r2=r2:=by rw [IntKind.wrap_u64];omega
     have m3:r1 % 18446744073709551616=r1:=by omega
     have m4:r2 % 18446744073709551616=r2:=by omega
     rw [hr1] at t1;rw [hr2] at t2;rw [hr1,hr2] at ST;have W1:=Lv (fun w=>J9 of fs n ⟨f5,f6⟩ ⟨f7,f8⟩ NN.o w);have W2:=Lv (fun w=>J9 ad sz 140737488355328 ⟨f1,f2⟩ ⟨f3,f4⟩ ⟨by decide,by decide⟩ w);obtain ⟨v1,hv1⟩:∃ v,v=Zq of fs n:=⟨_,rfl⟩
     obtain ⟨v2,hv2⟩:∃ v,v=Zq ad sz 140737488355328:=⟨_,rfl⟩
     rw [← hv1] at W1 ST;rw [← hv2] at W2 ST;have H3:=Lv f3;clear hr1 hr2 hv1 hv2 f1 f2 f3 f4 f5 f6 f7 f8 f9 f10;by_cases e1:r1=0
     rotate_left
     ·have NEQ:=Lv (NS.o (by rw [ST.o,show (r1 == 0)=false by simpa using e1];rfl))
      have d1:(r1 != 0)=true:=by simpa using e1
      clear e1;go_wp2;go_ret
      exact ⟨Ql NEQ.o.symm,Qz G.o G5.o⟩
     have d1:(r1 != 0)=false:=by simpa using e1
     rw [show (r1 == 0)=true by simpa using e1] at ST;clear e1;by_cases e2:r2=0
     rotate_left
     ·have NEQ:=Lv (NS.o (by rw [ST.o,show (r2 == 0)=false by simpa using e2];rfl))
      have d2:(r2 != 0)=true:=by simpa using e2
      clear e2;go_wp2;go_ret
      exact ⟨Ql NEQ.o.symm,Qz G.o G5.o⟩
     have d2:(r2 != 0)=false:=by simpa using e2
     rw [show (r2 == 0)=true by simpa using e2] at ST;clear e2;by_cases e3:sz=0
     ·have NEQ:=Lv (NS.o (by rw [ST.o,show decide (0 < sz)=false by simp;omega];rfl))
      have d3:(sz == 0)=true:=by simpa using e3
      clear e3;go_wp2;go_ret
      exact ⟨Ql NEQ.o.symm,Qz G.o G5.o⟩
     have d3:(sz == 0)=false:=by simpa using e3
     rw [show decide (0 < sz)=true by have:=H3.o;simp;omega] at ST;clear e3;by_cases e4:sz < fs
     ·have NEQ:=Lv (NS.o (by rw [ST.o,show decide (fs≤sz)=false by simp;omega];rfl))
      have d4:decide (sz < fs)=true:=by simpa using e4
      clear e4;go_wp2;go_ret
      exact ⟨Ql NEQ.o.symm,Qz G.o G5.o⟩
     have d4:decide (sz < fs)=false:=by simpa using e4
     rw [show decide (fs≤sz)=true by simp;omega] at ST;clear e4;cases v1
     ·have NEQ:=Lv (NS.o (by rw [ST.o];rfl))
      go_wp2_with fail;refine (W1.o _).mono ?_
      rintro e w8 ⟨rfl,rfl⟩;go_wp2;go_ret
      exact ⟨Ql NEQ.o.symm,Qz G.o G5.o⟩
     cases v2
     ·have NEQ:=Lv (NS.o (by rw [ST.o];rfl))
      go_wp2_with fail;refine (W1.o _).mono ?_
      rintro e w8 ⟨rfl,rfl⟩;go_wp2_with fail;refine (W2.o _).mono ?_
      rintro e w8 ⟨rfl,rfl⟩;go_wp2;go_ret
      exact ⟨Ql NEQ.o.symm,Qz G.o G5.o⟩
     have SOK:=Lv (show Yz ⟨nm,ad,sz,of,fs,pr,sl⟩ n=true by rw [ST.o];rfl);go_wp2_with fail;refine (W1.o _).mono ?_
     rintro e w8 ⟨rfl,rfl⟩;go_wp2_with fail;refine (W2.o _).mono ?_
     rintro e w8 ⟨rfl,rfl⟩;clear ST W1 W2 d1 d2 d3 d4 t1 t2 m1 m2 m3 m4;go_wp2_with fail;go_loopw [10] (fun i wx=>∃ m:Nat,m≤i1∧i=.int .i64 m∧wd.grownBy wx none∧∀ a y,a < m→l[a]?=some y→Hb y.seg ⟨nm,ad,sz,of,fs,pr,sl⟩) (fun i _=>i1 - (intOf i).toNat)
     case atStart=>exact ⟨0,Nat.zero_le _,rfl,Qq _ _,fun a y ha=>by omega⟩
     case round =>
      obtain ⟨m,hm,rfl,hg,hall⟩:=hrel;have AL:=Lv hall;have GH:=Lv hg;have g6:=Qz G5.o hg;have G6:=Lv g6;have P6:=Lv (P5.o.kept hg (by simp));by_cases hmt:m < i1
      ·obtain ⟨y,hy⟩:∃ y,l[m]?=some y:=⟨_,List.getElem?_eq_getElem (by rw [HN.o];omega)⟩
       obtain ⟨g',hq',b0,b1,b2,b3,b4,b5,b6⟩:=(RW.o wr g6).at hy;obtain rfl:g=g':=by injection hq' with e;injection e
       have c5:=(AA.o.kept g6 (by simp)).c 4 (.slice (some ⟨g,0,none⟩) N cs) rfl;have cl:=lt_of_block (AA.o.kept g6 (by simp));have dm:decide ((m:Int) < (i1:Int))=true:=by simp;omega
       have hml:(m:Int) < (N:Int):=by omega
       have HY:=Lv hy;have SY:=FI.o.size m y hmt hy;have FY:=FF.o y (List.mem_of_getElem? hy);have NR:=Lv (NRI.o m i1 y _ hmt hy HX.o);obtain ⟨⟨nm2,ad2,sz2,of2,fs2,pr2,sl2⟩,q2,c2⟩:=y;simp only [] at b0 b1 b2 b3 b4 b5 b6;have T2:ad2 + sz2≤140737488355328:=by
        unfold Yz Zq at SY;simp only [Bool.and_eq_true,decide_eq_true_eq] at SY;exact SY.2
       have k1:U64 ad2:=FY.addr;have k2:U64 sz2:=FY.size;have k3:=k1.1;have k4:=k2.1;obtain ⟨E,hE⟩:∃ E,ad2 + sz2=E:=⟨_,rfl⟩
       have HE:=Lv hE;have m7:(ad2 + sz2) % 18446744073709551616=E:=by omega
       have m8:IntKind.u64.wrap (ad2 + sz2)=E:=by rw [IntKind.wrap_u64];exact m7
       have g7:=grown1 wr (.cells #[.string (strOfNums nm2),.int .u64 ad2,.int .u64 sz2,.int .u64 of2,.int .u64 fs2,.int .i64 pr2,.slice q2 sl2.length c2] 121);have q7:Zn (wr.alloc (.cells #[.string (strOfNums nm2),.int .u64 ad2,.int .u64 sz2,.int .u64 of2,.int .u64 fs2,.int .i64 pr2,.slice q2 sl2.length c2] 121)) wr.heap.size ⟨nm2,ad2,sz2,of2,fs2,pr2,sl2⟩ (.slice q2 sl2.length c2):=heap_alloc_new wr _
       have p7:=P6.o.kept g7 (by simp);obtain ⟨wx,hwx⟩:∃ wx,wr.alloc (.cells #[.string (strOfNums nm2),.int .u64 ad2,.int .u64 sz2,.int .u64 of2,.int .u64 fs2,.int .i64 pr2,.slice q2 sl2.length c2] 121)=wx:=⟨_,rfl⟩
       obtain ⟨px,hpx⟩:∃ px,wr.heap.size=px:=⟨_,rfl⟩
       rw [hwx] at g7 q7 p7;rw [hpx] at q7;have GX:=Lv (Qz hg g7);have GY:=Lv (Qz g6 g7);have Q7:=Lv q7;have P7:=Lv p7;clear hg hall g6 hy SY FY k1 k2 k3 k4 hE T2 g7 q7 p7 hq';go_upto_region 14 with fail;clear hwx hpx;obtain ⟨y0,y1,y2,y3,y4,y5,y6⟩:=P7.o.c;obtain ⟨t0,t1,t2,t3,t4,t5,t6⟩:=Q7.o.c;have yl:=P7.o.lt;have tl:=Q7.o.lt;simp only [] at y0 y1 y2 y3 y4 y5 t0 t1 t2 t3 t4 t5
       by_cases hnp:(strOfNums nm2).toList=(strOfNums nm).toList
       rotate_left
       ·have hnn:((strOfNums nm2).toList == (strOfNums nm).toList)=false:=by simpa using hnp
        cases hae:decide (ad < E)
        ·have YES:Hb ⟨nm2,ad2,sz2,of2,fs2,pr2,sl2⟩ ⟨nm,ad,sz,of,fs,pr,sl⟩:=by
          refine ⟨by unfold Sq;exact hnp,?_⟩
          have:=of_decide_eq_false hae
          have:=HE.o
          simp only [];omega
         go_wp2;go_roundw
         case rel =>
          refine ⟨m + 1,hmt,by go_num,GX.o,fun a y ha hay=>?_⟩;rcases Nat.lt_or_ge a m with e1 | e1
          ·exact AL.o a y e1 hay
          ·obtain rfl:a=m:=by omega
           rw [HY.o] at hay;injection hay with hay;rw [← hay];exact YES
         case measure=>simp [intOf];omega
        ·have NEQ:=Lv (NR.o (fun hz=>by
          have:=of_decide_eq_true hae
          have:=HE.o
          have:=hz.2
          simp only [] at this;omega))
         go_wp2;go_ret
         exact ⟨Ql NEQ.o.symm,Qz G.o GY.o⟩
       ·have hnn:((strOfNums nm2).toList == (strOfNums nm).toList)=true:=by simpa using hnp
        have NEQ:=Lv (NR.o (fun hz=>hz.1 (by unfold Sq;exact hnp)));go_wp2;go_ret
        exact ⟨Ql NEQ.o.symm,Qz G.o GY.o⟩
      ·have hm':m=i1:=by omega
       subst hm';have dm:decide ((m:Int) < (m:Int))=false:=by simp
       obtain ⟨y0,y1,y2,y3,y4,y5,y6⟩:=P6.o.c;have yl:=P6.o.lt;simp only [] at y0 y1 y2 y3 y4 y5;have FN:=Lv (FI.o.next HX.o POK.o SOK.o hall);clear hg hall g6;rcases F1.o with ⟨rfl,hno⟩ | ⟨a,z,rfl,ha,hz,hlz,hno⟩
       ·have NO:=Lv hno
        clear hno;obtain ⟨bx,hbx⟩:∃ bx,bx=Jj ⟨nm,ad,sz,of,fs,pr,sl⟩:=⟨_,rfl⟩
        rw [← hbx] at LD;have HB:=Lv hbx;clear hbx;go_wp2_with fail;refine (LD.o _).mono ?_
        rintro e w8 ⟨rfl,hg8⟩;have G8:=Lv (Qz G6.o hg8);clear hg8;cases bx
        ·go_wp2
         go_roundw
         case rel =>
          refine ⟨m + 1,-1,hlt,by go_num,rfl,G8.o,FN.o,.inl ⟨rfl,fun j y hj hjy=>?_⟩⟩;rcases Nat.lt_or_ge j m with e1 | e1
          ·exact NO.o j y e1 hjy
          ·obtain rfl:j=m:=by omega
           rw [HX.o] at hjy;injection hjy with hjy;rw [← hjy];exact HB.o.symm
         case measure=>simp [intOf];omega
        ·go_wp2
         go_roundw
         case rel=>exact ⟨m + 1,m,hlt,by go_num,rfl,G8.o,FN.o,.inr ⟨m,_,rfl,Nat.lt_succ_self m,HX.o,HB.o.symm,NO.o⟩⟩
         case measure=>simp [intOf];omega
       ·have NO:=Lv hno
        have HZ:=Lv hz;have HL:=Lv hlz;have da:decide ((a:Int) < 0)=false:=by simp
        clear hno hz hlz;go_wp2;go_roundw
        case rel=>exact ⟨m + 1,a,hlt,by go_num,rfl,G6.o,FN.o,.inr ⟨a,z,rfl,Nat.lt_succ_of_lt ha,HZ.o,HL.o,NO.o⟩⟩
        case measure=>simp [intOf];omega
    ·have NEQ:=Lv (NP.o (by unfold Yf;simp;omega))
     have dD:(fs != 0)=true:=by simpa using hD
     clear f1 f2 f3 f4 f5 f6 f7 f8 f9 f10 hA hB hC hD;go_wp2;go_ret
     exact ⟨Ql NEQ.o.symm,Qz G.o G5.o⟩
   ·have dC:(pr == 0)=false:=by simpa using hC
    have POK:=Lv (show Yf ⟨nm,ad,sz,of,fs,pr,sl⟩=true by unfold Yf;simp;omega);clear hA hB hC;go_upto_region 8 with fail;have ST:=Lv (show Yz ⟨nm,ad,sz,of,fs,pr,sl⟩ n=((ad % 4096 == 0) && (sz % 4096 == 0) && decide (0 < sz) && decide (fs≤sz) && Zq of fs n && Zq ad sz 140737488355328) from rfl);have t1:ad.tmod 4096=ad % 4096:=Int.tmod_eq_emod_of_nonneg f1;have t2:sz.tmod 4096=sz % 4096:=Int.tmod_eq_emod_of_nonneg f3
    obtain ⟨r1,hr1⟩:∃ r,ad % 4096=r:=⟨_,rfl⟩
    obtain ⟨r2,hr2⟩:∃ r,sz % 4096=r:=⟨_,rfl⟩
    have m1:IntKind.u64.wrap r1=r1:=by rw [IntKind.wrap_u64];omega
    have m2:IntKind.u64.wrap r2=r2:=by rw [IntKind.wrap_u64];omega
    have m3:r1 % 18446744073709551616=r1:=by omega
    have m4:r2 % 18446744073709551616=r2:=by omega
    rw [hr1] at t1;rw [hr2] at t2;rw [hr1,hr2] at ST;have W1:=Lv (fun w=>J9 of fs n ⟨f5,f6⟩ ⟨f7,f8⟩ NN.o w);have W2:=Lv (fun w=>J9 ad sz 140737488355328 ⟨f1,f2⟩ ⟨f3,f4⟩ ⟨by decide,by decide⟩ w);obtain ⟨v1,hv1⟩:∃ v,v=Zq of fs n:=⟨_,rfl⟩
    obtain ⟨v2,hv2⟩:∃ v,v=Zq ad sz 140737488355328:=⟨_,rfl⟩
    rw [← hv1] at W1 ST;rw [← hv2] at W2 ST;have H3:=Lv f3;clear hr1 hr2 hv1 hv2 f1 f2 f3 f4 f5 f6 f7 f8 f9 f10;by_cases e1:r1=0
    rotate_left
    ·have NEQ:=Lv (NS.o (by rw [ST.o,show (r1 == 0)=false by simpa using e1];rfl))
     have d1:(r1 != 0)=true:=by simpa using e1
     clear e1;go_wp2;go_ret
     exact ⟨Ql NEQ.o.symm,Qz G.o G5.o⟩
    have d1:(r1 != 0)=false:=by simpa using e1
    rw [show (r1 == 0)=true by simpa using e1] at ST;clear e1;by_cases e2:r2=0
    rotate_left
    ·have NEQ:=Lv (NS.o (by rw [ST.o,show (r2 == 0)=false by simpa using e2];rfl))
     have d2:(r2 != 0)=true:=by simpa using e2
     clear e2;go_wp2;go_ret
     exact ⟨Ql NEQ.o.symm,Qz G.o G5.o⟩
    have d2:(r2 != 0)=false:=by simpa using e2
    rw [show (r2 == 0)=true by simpa using e2] at ST;clear e2;by_cases e3:sz=0
    ·have NEQ:=Lv (NS.o (by rw [ST.o,show decide (0 < sz)=false by simp;omega];rfl))
     have d3:(sz == 0)=true:=by simpa using e3
     clear e3;go_wp2;go_ret
     exact ⟨Ql NEQ.o.symm,Qz G.o G5.o⟩
    have d3:(sz == 0)=false:=by simpa using e3
    rw [show decide (0 < sz)=true by have:=H3.o;simp;omega] at ST;clear e3;by_cases e4:sz < fs
    ·have NEQ:=Lv (NS.o (by rw [ST.o,show decide (fs≤sz)=false by simp;omega];rfl))
     have d4:decide (sz < fs)=true:=by simpa using e4
     clear e4;go_wp2;go_ret
     exact ⟨Ql NEQ.o.symm,Qz G.o G5.o⟩
    have d4:decide (sz < fs)=false:=by simpa using e4
    rw [show decide (fs≤sz)=true by simp;omega] at ST;clear e4;cases v1
    ·have NEQ:=Lv (NS.o (by rw [ST.o];rfl))
     go_wp2_with fail;refine (W1.o _).mono ?_
     rintro e w8 ⟨rfl,rfl⟩;go_wp2;go_ret
     exact ⟨Ql NEQ.o.symm,Qz G.o G5.o⟩
    cases v2
    ·have NEQ:=Lv (NS.o (by rw [ST.o];rfl))
     go_wp2_with fail;refine (W1.o _).mono ?_
     rintro e w8 ⟨rfl,rfl⟩;go_wp2_with fail;refine (W2.o _).mono ?_
     rintro e w8 ⟨rfl,rfl⟩;go_wp2;go_ret
     exact ⟨Ql NEQ.o.symm,Qz G.o G5.o⟩
    have SOK:=Lv (show Yz ⟨nm,ad,sz,of,fs,pr,sl⟩ n=true by rw [ST.o];rfl);go_wp2_with fail;refine (W1.o _).mono ?_
    rintro e w8 ⟨rfl,rfl⟩;go_wp2_with fail;refine (W2.o _).mono ?_
    rintro e w8 ⟨rfl,rfl⟩;clear ST W1 W2 d1 d2 d3 d4 t1 t2 m1 m2 m3 m4;go_wp2_with fail;go_loopw [10] (fun i wx=>∃ m:Nat,m≤i1∧i=.int .i64 m∧wd.grownBy wx none∧∀ a y,a < m→l[a]?=some y→Hb y.seg ⟨nm,ad,sz,of,fs,pr,sl⟩) (fun i _=>i1 - (intOf i).toNat)
    case atStart=>exact ⟨0,Nat.zero_le _,rfl,Qq _ _,fun a y ha=>by omega⟩
    case round =>
     obtain ⟨m,hm,rfl,hg,hall⟩:=hrel;have AL:=Lv hall;have GH:=Lv hg;have g6:=Qz G5.o hg;have G6:=Lv g6;have P6:=Lv (P5.o.kept hg (by simp));by_cases hmt:m < i1
     ·obtain ⟨y,hy⟩:∃ y,l[m]?=some y:=⟨_,List.getElem?_eq_getElem (by rw [HN.o];omega)⟩
      obtain ⟨g',hq',b0,b1,b2,b3,b4,b5,b6⟩:=(RW.o wr g6).at hy;obtain rfl:g=g':=by injection hq' with e;injection e
      have c5:=(AA.o.kept g6 (by simp)).c 4 (.slice (some ⟨g,0,none⟩) N cs) rfl;have cl:=lt_of_block (AA.o.kept g6 (by simp));have dm:decide ((m:Int) < (i1:Int))=true:=by simp;omega
      have hml:(m:Int) < (N:Int):=by omega
      have HY:=Lv hy;have SY:=FI.o.size m y hmt hy;have FY:=FF.o y (List.mem_of_getElem? hy);have NR:=Lv (NRI.o m i1 y _ hmt hy HX.o);obtain ⟨⟨nm2,ad2,sz2,of2,fs2,pr2,sl2⟩,q2,c2⟩:=y;simp only [] at b0 b1 b2 b3 b4 b5 b6;have T2:ad2 + sz2≤140737488355328:=by
       unfold Yz Zq at SY;simp only [Bool.and_eq_true,decide_eq_true_eq] at SY;exact SY.2
      have k1:U64 ad2:=FY.addr;have k2:U64 sz2:=FY.size;have k3:=k1.1;have k4:=k2.1;obtain ⟨E,hE⟩:∃ E,ad2 + sz2=E:=⟨_,rfl⟩
      have HE:=Lv hE;have m7:(ad2 + sz2) % 18446744073709551616=E:=by omega
      have m8:IntKind.u64.wrap (ad2 + sz2)=E:=by rw [IntKind.wrap_u64];exact m7
      have g7:=grown1 wr (.cells #[.string (strOfNums nm2),.int .u64 ad2,.int .u64 sz2,.int .u64 of2,.int .u64 fs2,.int .i64 pr2,.slice q2 sl2.length c2] 121);have q7:Zn (wr.alloc (.cells #[.string (strOfNums nm2),.int .u64 ad2,.int .u64 sz2,.int .u64 of2,.int .u64 fs2,.int .i64 pr2,.slice q2 sl2.length c2] 121)) wr.heap.size ⟨nm2,ad2,sz2,of2,fs2,pr2,sl2⟩ (.slice q2 sl2.length c2):=heap_alloc_new wr _
      have p7:=P6.o.kept g7 (by simp);obtain ⟨wx,hwx⟩:∃ wx,wr.alloc (.cells #[.string (strOfNums nm2),.int .u64 ad2,.int .u64 sz2,.int .u64 of2,.int .u64 fs2,.int .i64 pr2,.slice q2 sl2.length c2] 121)=wx:=⟨_,rfl⟩
      obtain ⟨px,hpx⟩:∃ px,wr.heap.size=px:=⟨_,rfl⟩
      rw [hwx] at g7 q7 p7;rw [hpx] at q7;have GX:=Lv (Qz hg g7);have GY:=Lv (Qz g6 g7);have Q7:=Lv q7;have P7:=Lv p7;clear hg hall g6 hy SY FY k1 k2 k3 k4 hE T2 g7 q7 p7 hq';go_upto_region 14 with fail;clear hwx hpx;obtain ⟨y0,y1,y2,y3,y4,y5,y6⟩:=P7.o.c;obtain ⟨t0,t1,t2,t3,t4,t5,t6⟩:=Q7.o.c;have yl:=P7.o.lt;have tl:=Q7.o.lt;simp only [] at y0 y1 y2 y3 y4 y5 t0 t1 t2 t3 t4 t5
      by_cases hnp:(strOfNums nm2).toList=(strOfNums nm).toList
      rotate_left
      ·have hnn:((strOfNums nm2).toList == (strOfNums nm).toList)=false:=by simpa using hnp
       cases hae:decide (ad < E)
       ·have YES:Hb ⟨nm2,ad2,sz2,of2,fs2,pr2,sl2⟩ ⟨nm,ad,sz,of,fs,pr,sl⟩:=by
         refine ⟨by unfold Sq;exact hnp,?_⟩
         have:=of_decide_eq_false hae
         have:=HE.o
         simp only [];omega
        go_wp2;go_roundw
        case rel =>
         refine ⟨m + 1,hmt,by go_num,GX.o,fun a y ha hay=>?_⟩;rcases Nat.lt_or_ge a m with e1 | e1
         ·exact AL.o a y e1 hay
         ·obtain rfl:a=m:=by omega
          rw [HY.o] at hay;injection hay with hay;rw [← hay];exact YES
        case measure=>simp [intOf];omega
       ·have NEQ:=Lv (NR.o (fun hz=>by
         have:=of_decide_eq_true hae
         have:=HE.o
         have:=hz.2
         simp only [] at this;omega))
        go_wp2;go_ret
        exact ⟨Ql NEQ.o.symm,Qz G.o GY.o⟩
      ·have hnn:((strOfNums nm2).toList == (strOfNums nm).toList)=true:=by simpa using hnp
       have NEQ:=Lv (NR.o (fun hz=>hz.1 (by unfold Sq;exact hnp)));go_wp2;go_ret
       exact ⟨Ql NEQ.o.symm,Qz G.o GY.o⟩
     ·have hm':m=i1:=by omega
      subst hm';have dm:decide ((m:Int) < (m:Int))=false:=by simp
      obtain ⟨y0,y1,y2,y3,y4,y5,y6⟩:=P6.o.c;have yl:=P6.o.lt;simp only [] at y0 y1 y2 y3 y4 y5;have FN:=Lv (FI.o.next HX.o POK.o SOK.o hall);clear hg hall g6;rcases F1.o with ⟨rfl,hno⟩ | ⟨a,z,rfl,ha,hz,hlz,hno⟩
      ·have NO:=Lv hno
       clear hno;obtain ⟨bx,hbx⟩:∃ bx,bx=Jj ⟨nm,ad,sz,of,fs,pr,sl⟩:=⟨_,rfl⟩
       rw [← hbx] at LD;have HB:=Lv hbx;clear hbx;go_wp2_with fail;refine (LD.o _).mono ?_
       rintro e w8 ⟨rfl,hg8⟩;have G8:=Lv (Qz G6.o hg8);clear hg8;cases bx
       ·go_wp2
        go_roundw
        case rel =>
         refine ⟨m + 1,-1,hlt,by go_num,rfl,G8.o,FN.o,.inl ⟨rfl,fun j y hj hjy=>?_⟩⟩;rcases Nat.lt_or_ge j m with e1 | e1
         ·exact NO.o j y e1 hjy
         ·obtain rfl:j=m:=by omega
          rw [HX.o] at hjy;injection hjy with hjy;rw [← hjy];exact HB.o.symm
        case measure=>simp [intOf];omega
       ·go_wp2
        go_roundw
        case rel=>exact ⟨m + 1,m,hlt,by go_num,rfl,G8.o,FN.o,.inr ⟨m,_,rfl,Nat.lt_succ_self m,HX.o,HB.o.symm,NO.o⟩⟩
        case measure=>simp [intOf];omega
      ·have NO:=Lv hno
       have HZ:=Lv hz;have HL:=Lv hlz;have da:decide ((a:Int) < 0)=false:=by simp
       clear hno hz hlz;go_wp2;go_roundw
       case rel=>exact ⟨m + 1,a,hlt,by go_num,rfl,G6.o,FN.o,.inr ⟨a,z,rfl,Nat.lt_succ_of_lt ha,HZ.o,HL.o,NO.o⟩⟩
       case measure=>simp [intOf];omega
  ·have hi':i1=l.length:=by omega
   subst hi';have dl:decide ((l.length:Int) < (l.length:Int))=false:=by simp
   have RA:=Lv (RALL.o hfine);rcases hfirst with ⟨rfl,hno⟩ | ⟨a,z,rfl,ha,hz,hlz,hno⟩
   ·have NEQ:=Lv (show r=8 from by rw [RA.o,FNO.o hno];rfl)
    clear hg hno hfine;generalize l.length=N at *;go_wp2;go_ret
    exact ⟨Ql NEQ.o.symm,Qz G.o G3.o⟩
   ·have FZ:=Lv (FSO.o a z hno hz hlz)
    obtain ⟨g,rfl,a0,a1,a2,a3,a4,a5,a6⟩:=(RW.o wr hg).at hz;have PZ:=FI.o.prot a z ha hz;have da:decide ((a:Int) < 0)=false:=by simp
    have hcp:l.length≤cs:=CP.o;have hal:(a:Int) < (l.length:Int):=by omega
    obtain ⟨⟨nm,ad,sz,of,fs,pr,sl⟩,q1,c1⟩:=z;simp only [] at a0 a1 a2 a3 a4 a5 a6;have HP : 0≤pr∧pr≤7:=by unfold Yf at PZ;simp at PZ;omega
    have g5:=Qz hg (grown1 wr (.cells #[.string (strOfNums nm),.int .u64 ad,.int .u64 sz,.int .u64 of,.int .u64 fs,.int .i64 pr,.slice q1 sl.length c1] 121));have p5:Zn (wr.alloc (.cells #[.string (strOfNums nm),.int .u64 ad,.int .u64 sz,.int .u64 of,.int .u64 fs,.int .i64 pr,.slice q1 sl.length c1] 121)) wr.heap.size ⟨nm,ad,sz,of,fs,pr,sl⟩ (.slice q1 sl.length c1):=heap_alloc_new wr _
    obtain ⟨wd,hwd⟩:∃ wd,wr.alloc (.cells #[.string (strOfNums nm),.int .u64 ad,.int .u64 sz,.int .u64 of,.int .u64 fs,.int .i64 pr,.slice q1 sl.length c1] 121)=wd:=⟨_,rfl⟩
    obtain ⟨pd,hpd⟩:∃ pd,wr.heap.size=pd:=⟨_,rfl⟩
    rw [hwd] at g5 p5;rw [hpd] at p5;have P5:=Lv p5;have G5:=Lv g5;have FZ2:r=if ((of == 0) && decide (hd≤fs) && (pr % 2 == 1) && !wrOk ⟨nm,ad,sz,of,fs,pr,sl⟩)=true then 0 else 8:=by rw [RA.o,FZ.o]
    have FZ:=Lv FZ2;clear hg hno hfine hz hlz PZ g5 p5 RA FZ2;generalize l.length=N at *;go_upto_region 21 with fail;clear hwd hpd;obtain ⟨y0,y1,y2,y3,y4,y5,y6⟩:=P5.o.c;have yl:=P5.o.lt;simp only [] at y0 y1 y2 y3 y4 y5;by_cases e1:of=0
    rotate_left
    ·have NEQ:=Lv (show r=8 from by rw [FZ.o,show (of == 0)=false by simpa using e1];rfl)
     have d1:(of != 0)=true:=by simpa using e1
     clear e1;go_wp2;go_ret
     exact ⟨Ql NEQ.o.symm,Qz G.o G5.o⟩
    have d1:(of != 0)=false:=by simpa using e1
    by_cases e2:fs < hd
    ·have NEQ:=Lv (show r=8 from by rw [FZ.o,show decide (hd≤fs)=false by simp;omega];simp)
     have d2:decide (fs < hd)=true:=by simpa using e2
     clear e1 e2;go_wp2;go_ret
     exact ⟨Ql NEQ.o.symm,Qz G.o G5.o⟩
    have d2:decide (fs < hd)=false:=by simpa using e2
    have FZ3:r=if ((pr % 2 == 1) && !wrOk ⟨nm,ad,sz,of,fs,pr,sl⟩)=true then 0 else 8:=by rw [FZ.o,show (of == 0)=true by simpa using e1,show decide (hd≤fs)=true by simp;omega];rfl
    clear e1 e2 FZ;rcases (show pr=0∨pr=1∨pr=2∨pr=3∨pr=4∨pr=5∨pr=6∨pr=7 by omega) with rfl | rfl | rfl | rfl | rfl | rfl | rfl | rfl
    ·have NEQ:=Lv (show r=8 from by rw [FZ3];rfl)
     clear FZ3 HP;go_wp2;go_ret
     exact ⟨Ql NEQ.o.symm,Qz G.o G5.o⟩
    ·have NEQ:=Lv (show r=0 from by rw [FZ3];rfl)
     clear FZ3 HP;go_wp2;go_ret
     exact ⟨Ql NEQ.o.symm,Qz G.o G5.o⟩
    ·have NEQ:=Lv (show r=8 from by rw [FZ3];rfl)
     clear FZ3 HP;go_wp2;go_ret
     exact ⟨Ql NEQ.o.symm,Qz G.o G5.o⟩
    ·have NEQ:=Lv (show r=8 from by rw [FZ3];rfl)
     clear FZ3 HP;go_wp2;go_ret
     exact ⟨Ql NEQ.o.symm,Qz G.o G5.o⟩
    ·have NEQ:=Lv (show r=8 from by rw [FZ3];rfl)
     clear FZ3 HP;go_wp2;go_ret
     exact ⟨Ql NEQ.o.symm,Qz G.o G5.o⟩
    ·have NEQ:=Lv (show r=0 from by rw [FZ3];rfl)
     clear FZ3 HP;go_wp2;go_ret
     exact ⟨Ql NEQ.o.symm,Qz G.o G5.o⟩
    ·have NEQ:=Lv (show r=8 from by rw [FZ3];rfl)
     clear FZ3 HP;go_wp2;go_ret
     exact ⟨Ql NEQ.o.symm,Qz G.o G5.o⟩
    ·have NEQ:=Lv (show r=8 from by rw [FZ3];rfl)
     clear FZ3 HP;go_wp2;go_ret
     exact ⟨Ql NEQ.o.symm,Qz G.o G5.o⟩
end
section
open Go.RowKit Go.Sort
variable {w w':World} {h:Hx} {s:St} {sv dv:Value} {n hd:Int}
theorem run_loadImg0 {g:Nat} (k:Zp w g h s sv dv):(loadVar 48 ⟨g,0,none⟩).run Tryz.prog w=.ok (imgV h s sv dv) w :=
 run_loadVar_row w g _ _ _ _ _ k Tryz.underlying48 rfl (by kernel_rfl)
set_option maxHeartbeats 4000000 in
theorem rMay_any {l:List Sg} {qs:Option Addr} {cs:Nat} (k:Zt w s l qs cs) (hf:We s) (hs:Lx s) (hn:U64 n) (hh:U64 hd) (hcap:∀ x∈l,x.seg.secs.length≤x.c) :
  Calls Tryz.prog 46 #[imgV h s (.slice qs l.length cs) dv,.int .u64 n,.int .u64 hd] w fun e w'=>e=.returned (.int .i64 (mayN h s n hd))∧w.grownBy w' none:=by
 have gB:=grown1 w (.cells (Qf h s (.slice qs l.length cs) dv) 48);have aA:Zp (w.alloc (.cells (Qf h s (.slice qs l.length cs) dv) 48)) w.heap.size h s (.slice qs l.length cs) dv:=heap_alloc_new w _;obtain ⟨W,hW⟩:∃ W,w.alloc (.cells (Qf h s (.slice qs l.length cs) dv) 48)=W:=⟨_,rfl⟩
 obtain ⟨b,hb⟩:∃ b,w.heap.size=b:=⟨_,rfl⟩
 rw [hW] at gB aA;rw [hb] at aA;have IA:=Lv aA;have G:=Lv gB;have SG:=Lv (rsegments_any (dv:=dv) (h:=h) (k.grown gB) hf hn hh);have SC:=Lv (fun (V:World) (hg:W.grownBy V none) (hz:Yp s n hd=true)=>rsections_any (dv:=dv) (h:=h) ((k.grown gB).grown hg) hf (fun x hx=>(by
  unfold Yp at hz;simp only [Bool.and_eq_true] at hz
  have:=List.all_eq_true.1 hz.1.1.2 x hx
  unfold Yz at this;simp only [Bool.and_eq_true,decide_eq_true_eq] at this;exact this.1.1.2)) hcap)
 have KK:=Lv (fun (V:World) (hg:W.grownBy V none)=>(k.grown gB).grown hg);have SP:=Lv hs;have NN:=Lv hn;obtain ⟨r,hr⟩:∃ r,r=mayN h s n hd:=⟨_,rfl⟩
 rw [← hr];unfold mayN at hr;clear k gB aA hf hs hn hh hcap;rw [show imgV h s (.slice qs l.length cs) dv=.agg (Qf h s (.slice qs l.length cs) dv) from rfl];unfold Qf at hW ⊢;go_enter Tryz.func46,Tryz.ntmps46;go_upto_region 1 with fail;clear hW hb;generalize Value.agg #[.int .i64 h.kd,.int .i64 h.sb,.int .u32 h.fl,.string (strOfNums s.name),.slice qs l.length cs,dv,.int .u64 s.rb.1,.int .u64 s.rb.2,.int .u64 s.bd.1,.int .u64 s.bd.2,.int .u64 s.wk.1,.int .u64 s.wk.2,.int .u64 s.lz.1,.int .u64 s.lz.2,.int .u64 s.tr.1,.int .u64 s.tr.2,.int .u64 s.ch.1,.int .u64 s.ch.2,.int .u64 s.sy.1,.int .u64 s.sy.2,.int .u64 s.st.1,.int .u64 s.st.2,.int .u64 s.entry,.bool s.has]=v0
 go_wp2_with (first | refine Qi rfl _ rfl rfl IA.o ?_ | fail)
 refine SG.o.mono ?_
 rintro e w2 ⟨rfl,hg2⟩;have G2:=Lv hg2;clear SG;cases hso:Yp s n hd
 ·have HR:=Lv (hr.trans (by rw [hso];rfl):r=8)
  clear hr hg2;rw [if_neg (by decide)];go_wp2;go_ret
  exact ⟨Ql HR.o.symm,Qz G.o G2.o⟩
 rw [hso,if_neg (by decide)] at hr;rw [if_pos rfl];have I2:=Lv (IA.o.kept hg2 (by simp));have S2:=Lv (SC.o w2 hg2 hso);clear hg2 SC;go_wp2_with (first | refine Qi rfl _ rfl rfl I2.o ?_ | fail)
 refine S2.o.mono ?_
 rintro e w3 ⟨rfl,hg3⟩;have G3:=Lv (Qz G2.o hg3);clear S2;cases hsc:Mu s
 ·have HR:=Lv (hr.trans (by rw [hsc];rfl):r=9)
  clear hr hg3;rw [if_neg (by decide)];go_wp2;go_ret
  exact ⟨Ql HR.o.symm,Qz G.o G3.o⟩
 rw [hsc,if_neg (by decide)] at hr;rw [if_pos rfl];have I3:=I2.o.kept hg3 (by simp);clear hg3 I2;have HR:=Lv hr;clear hr;have c6:=I3.c 6 (.int .u64 s.rb.1) rfl;have c7:=I3.c 7 (.int .u64 s.rb.2) rfl;have c8:=I3.c 8 (.int .u64 s.bd.1) rfl;have c9:=I3.c 9 (.int .u64 s.bd.2) rfl;have c10:=I3.c 10 (.int .u64 s.wk.1) rfl;have c11:=I3.c 11 (.int .u64 s.wk.2) rfl;have c12:=I3.c 12 (.int .u64 s.lz.1) rfl
 have c13:=I3.c 13 (.int .u64 s.lz.2) rfl;have c14:=I3.c 14 (.int .u64 s.tr.1) rfl;have c15:=I3.c 15 (.int .u64 s.tr.2) rfl;have c16:=I3.c 16 (.int .u64 s.ch.1) rfl;have c17:=I3.c 17 (.int .u64 s.ch.2) rfl;have c18:=I3.c 18 (.int .u64 s.sy.1) rfl;have c19:=I3.c 19 (.int .u64 s.sy.2) rfl;have c20:=I3.c 20 (.int .u64 s.st.1) rfl;have c21:=I3.c 21 (.int .u64 s.st.2) rfl;have gl:=lt_of_block I3;have II3:=Lv I3
 clear I3;go_upto_region 8 with fail;have R4:=Sj.of_arr (heap_alloc_new w3 (.cells #[.int .u64 s.rb.1,.int .u64 s.rb.2,.int .u64 s.bd.1,.int .u64 s.bd.2,.int .u64 s.wk.1,.int .u64 s.wk.2,.int .u64 s.lz.1,.int .u64 s.lz.2,.int .u64 s.tr.1,.int .u64 s.tr.2,.int .u64 s.ch.1,.int .u64 s.ch.2,.int .u64 s.sy.1,.int .u64 s.sy.2,.int .u64 s.st.1,.int .u64 s.st.2] 46));have g4:=grown1 w3 (.cells #[.int .u64 s.rb.1,.int .u64 s.rb.2,.int .u64 s.bd.1,.int .u64 s.bd.2,.int .u64 s.wk.1,.int .u64 s.wk.2,.int .u64 s.lz.1,.int .u64 s.lz.2,.int .u64 s.tr.1,.int .u64 s.tr.2,.int .u64 s.ch.1,.int .u64 s.ch.2,.int .u64 s.sy.1,.int .u64 s.sy.2,.int .u64 s.st.1,.int .u64 s.st.2] 46)
 obtain ⟨W4,hW4⟩:∃ W4,w3.alloc (.cells #[.int .u64 s.rb.1,.int .u64 s.rb.2,.int .u64 s.bd.1,.int .u64 s.bd.2,.int .u64 s.wk.1,.int .u64 s.wk.2,.int .u64 s.lz.1,.int .u64 s.lz.2,.int .u64 s.tr.1,.int .u64 s.tr.2,.int .u64 s.ch.1,.int .u64 s.ch.2,.int .u64 s.sy.1,.int .u64 s.sy.2,.int .u64 s.st.1,.int .u64 s.st.2] 46)=W4:=⟨_,rfl⟩
 rw [hW4] at R4 g4 ⊢;have G4:=Lv (Qz G3.o g4);have RR:=Lv R4;clear hW4 R4 g4 c6 c7 c8 c9 c10 c11 c12 c13 c14 c15 c16 c17 c18 c19 c20 c21 gl II3;obtain ⟨p4,hp4⟩:∃ p,w3.heap.size=p:=⟨_,rfl⟩
 rw [hp4] at RR ⊢;clear hp4;go_wp2_with fail;go_loopw [10] (fun i wr=>∃ m:Nat,m≤8∧i=.int .i64 m∧W4.grownBy wr none∧∀ j x,j < m→(Zw s)[j]?=some x→Zq x.1 x.2 n=true) (fun i _=>8 - (intOf i).toNat)
 case atStart=>exact ⟨0,Nat.zero_le _,rfl,Qq _ _,fun j x hj=>by omega⟩
 case round =>
  obtain ⟨m,hm,rfl,hg,hall⟩:=hrel;have AL:=Lv hall;have GB:=Lv (Qz G4.o hg);have GA:=Lv (Qz G.o GB.o);have GX:=Lv hg;by_cases hmt:m < 8
  ·obtain ⟨⟨X,Y⟩,hx⟩:∃ x,(Zw s)[m]?=some x:=⟨_,List.getElem?_eq_getElem (by exact hmt)⟩
   obtain ⟨g',hq',e0,e1⟩:=(RR.o.grown hg) m _ hx;obtain rfl:p4=g':=by injection hq' with e;injection e
   simp only [] at e0 e1;have FX:=SP.o _ (List.mem_of_getElem? hx);have WI:=Lv (fun V=>(J9 X Y n FX.1 FX.2 NN.o V).mono (fun _ _ h=>(⟨h.1,h.2.symm⟩ : _∧_)));have HX:=Lv hx;have dm:decide ((m:Int) < 8)=true:=by simp;omega
   have hm8:(m:Int) < 8:=by omega
   obtain ⟨v,hv⟩:∃ v,v=Zq X Y n:=⟨_,rfl⟩
   rw [← hv] at WI;have HV:=Lv hv;clear hall hx hq' FX hv hg;cases v
   ·have HE:=Lv (HR.o.trans (show (if (Wq s n && (s.sy.2 % 16 == 0) && Sf s)=false then 4 else if Kp h s=false then 10 else 0:Int)=4 by
      rw [if_pos]
      have:Wq s n=false:=by
       unfold Wq;rw [List.all_eq_false];exact ⟨_,List.mem_of_getElem? HX.o,by rw [← HV.o];decide⟩
      rw [this];rfl))
    go_wp2;go_quiet ((go_at_call 81;exact Calls.quiet_of_same (WI.o _)))
    go_wp2;go_ret
    exact ⟨Ql HE.o.symm,Qj GA.o _⟩
   ·go_wp2
    go_quiet ((go_at_call 81;exact Calls.quiet_of_same (WI.o _)))
    go_wp2;go_roundw
    case rel =>
      refine ⟨m + 1,hmt,by go_num,Qj GX.o _,fun j x hj hjx=>?_⟩;rcases Nat.lt_or_ge j m with z1 | z1
      ·exact AL.o j x z1 hjx
      ·obtain rfl:j=m:=by omega
       rw [HX.o] at hjx;injection hjx with hjx;rw [← hjx];exact HV.o.symm
    case measure=>simp [intOf];omega
  ·have hm':m=8:=by omega
   subst hm';have SOKS:Wq s n=true:=by
    unfold Wq;rw [List.all_eq_true];intro x hx;obtain ⟨j,hj,rfl⟩:=List.getElem_of_mem hx;exact hall j _ hj (List.getElem?_eq_getElem hj)
   have HR:=HR.o;rw [SOKS,Bool.true_and] at HR;have iR:=IA.o.kept GB.o (by simp);have gl:=lt_of_block iR;have q19:=iR.c 19 (.int .u64 s.sy.2) rfl;have q22:=iR.c 22 (.int .u64 s.entry) rfl;have q23:=iR.c 23 (.bool s.has) rfl;have k19:=fun d os=>cell_regrown q19 d os;have k22:=fun d os=>cell_regrown q22 d os;have k23:=fun d os=>cell_regrown q23 d os;have KG:=fun d os=>Qt (below_regrown wr d os) none
   have LH:=Lv (fun d os=>Calls.regrown_of ((rHigh_any (h:=h) (dv:=dv) (KK.o _ (Qz GB.o (KG d os)))).mono (fun _ _ h=>(⟨h.1,Qg h.2 (Nat.le_refl _) (by simp)⟩ : _∧_))));have LL:=Lv (fun d os=>Calls.regrown_of ((W9 (h:=h) (dv:=dv) (KK.o _ (Qz GB.o (KG d os)))).mono (fun _ _ h=>(⟨h.1,Qg h.2 (Nat.le_refl _) (by simp)⟩ : _∧_))));have LD:=Lv (fun (V:World) (hV:∃ p:Regrown,V=grow (redrawn wr p.d) p.os)=>(by obtain ⟨p,rfl⟩:=hV;exact run_loadImg0 (iR.kept (KG p.d p.os) (by simp)):(loadVar 48 ⟨b,0,none⟩).run Tryz.prog V=.ok (imgV h s (.slice qs l.length cs) dv) V))
   have hsy:=(SP.o s.sy (by unfold Zw;simp)).2;have t1:s.sy.2.tmod 16=s.sy.2 % 16:=Int.tmod_eq_emod_of_nonneg hsy.1;obtain ⟨r1,hr1⟩:∃ r,s.sy.2 % 16=r:=⟨_,rfl⟩
   have m1:IntKind.u64.wrap r1=r1:=by rw [IntKind.wrap_u64];omega
   have m3:r1 % 18446744073709551616=r1:=by omega
   rw [hr1] at t1 HR;unfold Sf at HR;obtain ⟨H,hH⟩:∃ H,Hm s.segs=H:=⟨_,rfl⟩
   obtain ⟨L,hL⟩:∃ L,lowN s.segs=L:=⟨_,rfl⟩
   rw [hH] at LH HR;rw [hL] at LL HR;obtain ⟨T,hT⟩:∃ T,(H - L) % 18446744073709551616=T:=⟨_,rfl⟩
   have hT2:IntKind.u64.wrap (H - L)=T:=by rw [IntKind.wrap_u64];exact hT
   rw [hT] at HR;obtain ⟨hs2,hhs⟩:∃ b,s.has=b:=⟨_,rfl⟩
   rw [hhs] at HR q23 k23;clear hall hg iR KG hsy hr1 hH hL SOKS q19 q22 q23 hhs;generalize hWR:wr=WR at *;clear hWR;by_cases e1:r1=0
   rotate_left
   ·have HE:=Lv (HR.trans (by rw [show (r1 == 0)=false by simpa using e1];rfl):r=4)
    have d1:(r1 != 0)=true:=by simpa using e1
    clear e1 HR;go_wp2_with fail;refine wp_region_quiet_below (by kernel_rfl) (by kernel_rfl) ?_
    refine WpQ.out ?_
    iterate 6 (refine WpQ.step (fun K hK=>?_);go_simp;first | (refine hK _ ?_;clear hK K) | (apply Exists.intro;refine ⟨fun _=>?_,hK _ ?_⟩;clear hK K))
    iterate 12 (refine WpQ.skip (by kernel_rfl) ?_)
    (refine WpQ.step (fun K hK=>?_);go_simp;first | (refine hK _ ?_;clear hK K) | (apply Exists.intro;refine ⟨fun _=>?_,hK _ ?_⟩;clear hK K))
    refine WpQ.nil ?_
    intro _ hw';obtain ⟨⟨dq,osq⟩,hw''⟩:=hw';subst hw'';have GQ:=Lv (Qz GA.o (Qt (below_regrown WR dq osq) none));clear LH LL LD k22 k23 k19;go_wp2;go_ret
    exact ⟨Ql HE.o.symm,GQ.o⟩
   have d1:(r1 != 0)=false:=by simpa using e1
   rw [show (r1 == 0)=true by simpa using e1,Bool.true_and] at HR;clear e1;cases hs2
   ·rw [show (!false || decide (s.entry < T))=true from rfl,if_neg (by decide)] at HR
    have HR:=Lv HR;go_wp2_with fail;refine wp_region_quiet_below (by kernel_rfl) (by kernel_rfl) ?_
    refine WpQ.out ?_
    iterate 9 (refine WpQ.step (fun K hK=>?_);go_simp;first | (refine hK _ ?_;clear hK K) | (apply Exists.intro;refine ⟨fun _=>?_,hK _ ?_⟩;clear hK K))
    iterate 8 (refine WpQ.skip (by kernel_rfl) ?_)
    iterate 2 (refine WpQ.step (fun K hK=>?_);go_simp;first | (refine hK _ ?_;clear hK K) | (apply Exists.intro;refine ⟨fun _=>?_,hK _ ?_⟩;clear hK K))
    refine WpQ.nil ?_
    intro _ hw';obtain ⟨⟨dq,osq⟩,hw''⟩:=hw';subst hw'';have GQ:=Lv (Qz GA.o (Qt (below_regrown WR dq osq) none));clear LH LL LD k22 k23 k19;have IQ:=IA.o.kept (Qz GB.o (Qt (below_regrown WR dq osq) none)) (by simp);have c0:=IQ.c 0 (.int .i64 h.kd) rfl;have c3:=IQ.c 3 (.string (strOfNums s.name)) rfl;have ql:=lt_of_block IQ;clear IQ;cases hk6:(h.kd == 6)
    · have hk6n:(h.kd != 6)=true:=by unfold bne;rw [hk6];rfl
      cases hnm:(strOfNums s.name).toList.isEmpty
      ·have HE:=Lv (HR.o.trans (show (if (Kp h s)=false then 10 else 0:Int)=10 by unfold Kp;rw [hk6,hnm];rfl))
       go_wp2;go_ret
       exact ⟨Ql HE.o.symm,GQ.o⟩
      ·have HE:=Lv (HR.o.trans (show (if (Kp h s)=false then 10 else 0:Int)=0 by unfold Kp;rw [hk6,hnm];rfl))
       go_wp2;go_ret
       exact ⟨Ql HE.o.symm,GQ.o⟩
    · have hk6n:(h.kd != 6)=false:=by unfold bne;rw [hk6];rfl
      cases hnm:(strOfNums s.name).toList.isEmpty
      ·have HE:=Lv (HR.o.trans (show (if (Kp h s)=false then 10 else 0:Int)=0 by unfold Kp;rw [hk6,hnm];rfl))
       go_wp2;go_ret
       exact ⟨Ql HE.o.symm,GQ.o⟩
      ·have HE:=Lv (HR.o.trans (show (if (Kp h s)=false then 10 else 0:Int)=10 by unfold Kp;rw [hk6,hnm];rfl))
       go_wp2;go_ret
       exact ⟨Ql HE.o.symm,GQ.o⟩
   ·cases hE:decide (s.entry < T)
    · have dE:decide (T≤s.entry)=true:=by have:=of_decide_eq_false hE;simp;omega
      have HE:=Lv (HR.trans (by rw [hE];rfl):r=4);clear HR hE;go_wp2_with fail;refine wp_region_quiet_below (by kernel_rfl) (by kernel_rfl) ?_
      iterate 11 (quiet_step (fail))
      refine Zj rfl _ rfl rfl LD.o ?_
      quiet_step (with_reducible exact LH.o _ _)
      refine Zj rfl _ rfl rfl LD.o ?_
      quiet_step (with_reducible exact LL.o _ _)
      iterate 4 (quiet_step (fail))
      refine wpQuiet_nil ?_
      intro _ hw';obtain ⟨⟨dq,osq⟩,hw''⟩:=hw';subst hw'';have GQ:=Lv (Qz GA.o (Qt (below_regrown WR dq osq) none));clear LH LL LD k22 k23 k19;go_wp2;go_ret
      exact ⟨Ql HE.o.symm,GQ.o⟩
    · have dE:decide (T≤s.entry)=false:=by have:=of_decide_eq_true hE;simp;omega
      rw [hE,if_neg (by decide)] at HR;have HR:=Lv HR;clear hE;go_wp2_with fail;refine wp_region_quiet_below (by kernel_rfl) (by kernel_rfl) ?_
      iterate 11 (quiet_step (fail))
      refine Zj rfl _ rfl rfl LD.o ?_
      quiet_step (with_reducible exact LH.o _ _)
      refine Zj rfl _ rfl rfl LD.o ?_
      quiet_step (with_reducible exact LL.o _ _)
      iterate 4 (quiet_step (fail))
      refine wpQuiet_nil ?_
      intro _ hw';obtain ⟨⟨dq,osq⟩,hw''⟩:=hw';subst hw'';have GQ:=Lv (Qz GA.o (Qt (below_regrown WR dq osq) none));clear LH LL LD k22 k23 k19;have IQ:=IA.o.kept (Qz GB.o (Qt (below_regrown WR dq osq) none)) (by simp);have c0:=IQ.c 0 (.int .i64 h.kd) rfl;have c3:=IQ.c 3 (.string (strOfNums s.name)) rfl;have ql:=lt_of_block IQ;clear IQ;cases hk6:(h.kd == 6)
      ·have hk6n:(h.kd != 6)=true:=by unfold bne;rw [hk6];rfl
       cases hnm:(strOfNums s.name).toList.isEmpty
       ·have HE:=Lv (HR.o.trans (show (if (Kp h s)=false then 10 else 0:Int)=10 by unfold Kp;rw [hk6,hnm];rfl))
        go_wp2;go_ret
        exact ⟨Ql HE.o.symm,GQ.o⟩
       ·have HE:=Lv (HR.o.trans (show (if (Kp h s)=false then 10 else 0:Int)=0 by unfold Kp;rw [hk6,hnm];rfl))
        go_wp2;go_ret
        exact ⟨Ql HE.o.symm,GQ.o⟩
      ·have hk6n:(h.kd != 6)=false:=by unfold bne;rw [hk6];rfl
       cases hnm:(strOfNums s.name).toList.isEmpty
       ·have HE:=Lv (HR.o.trans (show (if (Kp h s)=false then 10 else 0:Int)=0 by unfold Kp;rw [hk6,hnm];rfl))
        go_wp2;go_ret
        exact ⟨Ql HE.o.symm,GQ.o⟩
       ·have HE:=Lv (HR.o.trans (show (if (Kp h s)=false then 10 else 0:Int)=10 by unfold Kp;rw [hk6,hnm];rfl))
        go_wp2;go_ret
        exact ⟨Ql HE.o.symm,GQ.o⟩
end
section
variable {w w':World} {h:Hx} {s:St} {sv dv:Value} {n hd:Int}
theorem Wn {b:List Int} (hr:Q3 b) (p k:Nat) (hk:k≤8):U64 (Qc b p k):=by
 have hl:Q3 ((b.drop p).take k):=fun x hx=>hr x (List.mem_of_mem_drop (List.mem_of_mem_take hx));have h1:=Ws _ hl;have h2:((b.drop p).take k).length≤8:=Nat.le_trans (List.length_take_le _ _) hk;have h3:(2:Int) ^ (8 * ((b.drop p).take k).length)≤2 ^ 64:=by
  have:(2:Nat) ^ (8 * ((b.drop p).take k).length)≤2 ^ 64:=Nat.pow_le_pow_right (by decide) (by omega)
  exact_mod_cast this
 exact ⟨h1.1,by unfold Qc;have:(2:Int) ^ 64=18446744073709551616:=(by decide);omega⟩
theorem field_len (b:List Int) (p:Nat):(Xl b p).length≤16:=by
 unfold Xl
 have:=Ru ((b.drop p).take 16)
 have:=List.length_take_le 16 (b.drop p)
 omega
theorem span_fit {b:List Int} (hr:Q3 b) (p:Nat) {u:Int} (hu : 0≤u∧u≤16):U64 (Qb b p u).1∧U64 (Qb b p u).2:=by
 unfold Qb;have h1:=Jm hr p;have h2:=Jm hr (p + 4);refine ⟨⟨h1.1,by simp only [];omega⟩,?_,?_⟩
 ·exact Int.mul_nonneg h2.1 hu.1
 ·have:Qc b (p + 4) 4 * u≤Qc b (p + 4) 4 * 16:=Int.mul_le_mul_of_nonneg_left hu.2 h2.1
  simp only [];omega
structure Kz (s:St):Prop where
 segs:We s
 spans:Lx s
 names:NmFit s
theorem zero_spans:Lx St.zero:=by
 intro x hx;unfold Zw St.zero at hx;simp only [List.mem_cons,List.not_mem_nil,or_false] at hx;rcases hx with rfl | rfl | rfl | rfl | rfl | rfl | rfl | rfl <;> exact ⟨⟨by decide,by decide⟩,by decide,by decide⟩
theorem Kz.zero:Kz St.zero:=⟨⟨fun x hx=>(by cases hx),fun x hx=>(by cases hx)⟩,zero_spans,fun x hx=>(by cases hx)⟩
theorem Kz.as {s s':St} (f:Kz s) (h1:s'.segs=s.segs) (h2:Zw s'=Zw s):Kz s' :=
 ⟨⟨fun x hx=>f.segs.seg x (h1 ▸ hx),fun x hx=>f.segs.sec x (h1 ▸ hx)⟩,fun x hx=>f.spans x (h2 ▸ hx),fun x hx=>f.names x (h1 ▸ hx)⟩
theorem Kz.sp {s s':St} (f:Kz s) (h1:s'.segs=s.segs) (h2:∀ x∈Zw s',x∈Zw s∨(U64 x.1∧U64 x.2)):Kz s' :=
 ⟨⟨fun x hx=>f.segs.seg x (h1 ▸ hx),fun x hx=>f.segs.sec x (h1 ▸ hx)⟩,fun x hx=>(h2 x hx).elim (f.spans x) id,fun x hx=>f.names x (h1 ▸ hx)⟩
theorem seg_fit {b:List Int} (hr:Q3 b):Pc (Ky b) :=
 ⟨Wn hr 24 8 (by decide),Wn hr 32 8 (by decide),Wn hr 40 8 (by decide),Wn hr 48 8 (by decide),by
  have:=Jm hr 60
  show -9223372036854775808≤Qc b 60 4∧Qc b 60 4≤9223372036854775807
  omega⟩
theorem sec_fit {b:List Int} (hr:Q3 b) {y:Sec} (hy:y∈(Ky b).secs):Pt y:=by
 obtain ⟨i,_,rfl⟩:=List.mem_map.1 (show y∈(List.range (Xn b)).map fun i=>Rf b (72 + 80 * i) from hy);exact ⟨Wn hr _ 8 (by decide),Wn hr _ 8 (by decide),Wn hr _ 4 (by decide)⟩
theorem Kz.seg {s:St} (f:Kz s) {b:List Int} (hr:Q3 b):Kz (segS s b):=by
 refine ⟨⟨fun x hx=>?_,fun x hx y hy=>?_⟩,f.spans,fun x hx=>?_⟩
 ·rcases List.mem_append.1 hx with hx | hx
  ·exact f.segs.seg x hx
  ·rw [List.mem_singleton.1 hx];exact seg_fit hr
 ·rcases List.mem_append.1 hx with hx | hx
  ·exact f.segs.sec x hx y hy
  ·rw [List.mem_singleton.1 hx] at hy;exact sec_fit hr hy
 ·rcases List.mem_append.1 hx with hx | hx
  ·exact f.names x hx
  ·rw [List.mem_singleton.1 hx]
   exact Nat.le_trans (field_len b 8) (by decide)
theorem Kz.trie {s:St} (f:Kz s) {x:Int × Int} (hx:U64 x.1∧U64 x.2):Kz (Km s x):=by
 unfold Km
 split
 ·exact f
 ·refine f.sp rfl (fun y hy=>?_)
  unfold Zw St.meet at hy;unfold Zw;simp only [List.mem_cons,List.not_mem_nil,or_false] at hy ⊢;rcases hy with rfl | rfl | rfl | rfl | rfl | rfl | rfl | rfl <;> simp [hx]
theorem Kz.step {s:St} (f:Kz s) {b:List Int} (hr:Q3 b):Kz (Zg s b):=by
 have sp1:=fun p=>span_fit hr p (u:=1) (by decide);have sp16:=fun p=>span_fit hr p (u:=16) (by decide);unfold Zg
 split
 ·exact f.seg hr
 split
 ·exact f.as rfl rfl
 split
 ·exact f.as rfl rfl
 split
 ·unfold spS
  split
  ·refine Kz.trie ?_ (sp1 40)
   refine f.sp rfl (fun y hy=>?_);unfold Zw Vr St.meet at hy;unfold Zw;simp only [List.mem_cons,List.not_mem_nil,or_false] at hy ⊢;rcases hy with rfl | rfl | rfl | rfl | rfl | rfl | rfl | rfl <;> simp [sp1]
  split
  ·exact f.trie (sp1 8)
  split
  ·refine f.sp rfl (fun y hy=>?_)
   unfold Zw St.meet at hy;unfold Zw;simp only [List.mem_cons,List.not_mem_nil,or_false] at hy ⊢;rcases hy with rfl | rfl | rfl | rfl | rfl | rfl | rfl | rfl <;> simp [sp1]
  ·refine f.sp rfl (fun y hy=>?_)
   unfold Zw St.meet at hy;unfold Zw;simp only [List.mem_cons,List.not_mem_nil,or_false] at hy ⊢;rcases hy with rfl | rfl | rfl | rfl | rfl | rfl | rfl | rfl <;> simp [sp1,sp16]
 split
 ·exact f.as rfl rfl
 ·exact f
theorem Kz.run {s:St} (f:Kz s) {l:List (List Int)} (hr:∀ b∈l,Q3 b):Kz (runS s l):=by
 induction l generalizing s with
 | nil=>exact f
 | cons b l ih =>
  rw [runS];exact ih (f.step (hr b (List.mem_cons_self ..))) (fun c hc=>hr c (List.mem_cons_of_mem _ hc))
theorem img_fit {ys:List Int} (hs:Q3 ys):Kz (imgS ys):=by
 unfold imgS
 split
 ·refine Kz.zero.run (fun b hb=>?_)
  obtain ⟨d,hd,rfl⟩:=List.mem_map.1 hb;exact (readL_may hs d hd).2.1
 ·exact Kz.zero
theorem own_room {lo n c:Nat} {q:Option Addr} {T:TypeId} {k:Nat} {xs:List Value} (hw:w.ownsRow lo T k (.slice q n c) n xs):n≤c:=by
 rcases hw.2 with ⟨e,e0⟩ | ⟨g,cap,cur,hv,_,_,h1,_⟩
 ·rw [e0];exact Nat.zero_le _
 ·injection hv with _ _ e3;subst e3;exact h1
theorem Zt.of2 {lo:Nat} (L:Ya w lo s sv dv):∃ l qs cs,sv=.slice qs l.length cs∧Zt w s l qs cs∧∀ x∈l,x.seg.secs.length≤x.c:=by
 obtain ⟨l,a2,a3,a4⟩:=L.segs;obtain ⟨qs,cs,rfl⟩:=Qp a3;refine ⟨l,qs,cs,rfl,⟨a2,rowSg_of a3,fun x hx=>rowSec_of (a4 x hx),Ht a3,fun x hx=>Ht (a4 x hx),own_room a3⟩,fun x hx=>own_room (a4 x hx)⟩
end
theorem leN_step {ys:List Int} {i:Nat} {x:Int} (h:ys[i]?=some x):leN (ys.drop i)=x + 256 * leN (ys.drop (i + 1)):=by
 rw [List.drop_eq_getElem?_toList_append,h];rfl
theorem get5_any (ys:List Int) {q:Option Addr} {c n:Nat} (h:Qk w q c ys) (hn:ys.length=n) (h8:n≤8) (hr:Q3 ys) :
  Calls Tryz.prog 162 #[.slice q n c] w fun e w'=>e=.returned (.int .u64 (leN ys))∧w=w':=by
 have HB:=Lv h;have HN:=Lv hn;have HR:=Lv hr;have hbd:∀ k,k≤n→0≤leN (ys.drop k)∧leN (ys.drop k) < 18446744073709551616:=fun k hk=>by
  have:=Ws (ys.drop k) (fun x hx=>hr x (List.mem_of_mem_drop hx))
  have hl:(ys.drop k).length≤8:=by rw [List.length_drop];omega
  have:(2:Int) ^ (8 * (ys.drop k).length)≤18446744073709551616:=by
   have h1:(2:Nat) ^ (8 * (ys.drop k).length)≤2 ^ 64:=Nat.pow_le_pow_right (by decide) (by omega);have h2:((2 ^ (8 * (ys.drop k).length):Nat):Int)≤((2 ^ 64:Nat):Int):=by exact_mod_cast h1
   have h3:((2 ^ (8 * (ys.drop k).length):Nat):Int)=(2:Int) ^ (8 * (ys.drop k).length):=by simp
   rw [h3] at h2;exact h2
  omega
 have BD:=Lv hbd;clear h hn hr hbd;go_enter Tryz.func162,Tryz.ntmps162;go_wp2;go_loopw [3,4] (fun v i wr=>∃ k:Nat,k≤n∧i=.int .i64 ((k:Int) - 1)∧v=.int .u64 (leN (ys.drop k))∧wr=w) (fun _ i _=>(intOf i + 1).toNat)
 case atStart=>exact ⟨n,Nat.le_refl _,rfl,by rw [List.drop_of_length_le (by rw [HN.o];exact Nat.le_refl _)];rfl,rfl⟩
 case round =>
  obtain ⟨k,hk,rfl,rfl,rfl⟩:=hrel;by_cases h0 : 0 < k
  ·obtain ⟨j,rfl⟩:∃ j,k=j + 1:=⟨k - 1,by omega⟩
   obtain ⟨x,hx⟩:∃ x,ys[j]?=some x:=⟨_,List.getElem?_eq_getElem (by rw [HN.o];omega)⟩
   have hst:=leN_step hx;have hb1:=BD.o (j + 1) hk;have hb0:=BD.o j (by omega);have hxs:=HR.o x (List.mem_of_getElem? hx);obtain ⟨b,o,rfl,hc⟩:=HB.o.2 (by rw [HN.o];omega);have c0:=hc j (by rw [HN.o];omega);rw [show ys.getD j 0=x by simp [List.getD,hx]] at c0;obtain ⟨L1,hL1⟩:∃ L,L=leN (ys.drop (j + 1)):=⟨_,rfl⟩
   obtain ⟨L0,hL0⟩:∃ L,L=leN (ys.drop j):=⟨_,rfl⟩
   rw [← hL1] at hst hb1 ⊢;rw [← hL0] at hst hb0;have hm:(L1 * 256) % 18446744073709551616=L1 * 256:=by omega
   have hm2:IntKind.u64.wrap (L1 * 256)=L1 * 256:=by rw [IntKind.wrap_u64];exact hm
   have ha:(L1 * 256 + x) % 18446744073709551616=L0:=by omega
   have ha2:IntKind.u64.wrap (L1 * 256 + x)=L0:=by rw [IntKind.wrap_u64];exact ha
   have i0:((j + 1:Nat):Int) - 1=(j:Int):=by omega
   have hjn:(j:Int) < (n:Int):=by omega
   have E0:=Lv hL0;rw [i0];clear hc hx hst hL1 hL0 HB;go_wp2;refine ⟨⟨j,by omega,rfl,by rw [E0.o],trivial⟩,by simp [intOf]⟩
  ·have hk0:k=0:=by omega
   subst hk0;go_wp2;go_ret
   exact ⟨by rw [List.drop_zero];rfl,rfl⟩
theorem Mi (cm:Int):Calls Tryz.prog 117 #[.int .u32 cm] w fun e w'=>e=.returned (.int .i64 (Xx cm))∧w=w':=by
 by_cases h:cm=25∨cm=34∨cm=2147483682∨cm=2∨cm=12∨cm=13∨cm=2147483672∨cm=2147483679∨cm=2147483683∨cm=2147483688∨cm=2147483699∨cm=2147483700
 ·rcases h with rfl | rfl | rfl | rfl | rfl | rfl | rfl | rfl | rfl | rfl | rfl | rfl
  all_goals
   go_enter Tryz.func117,Tryz.ntmps117;go_wp2;go_ret
   exact ⟨rfl,rfl⟩
 ·simp only [not_or] at h
  obtain ⟨n1,n2,n3,n4,n5,n6,n7,n8,n9,n10,n11,n12⟩:=h;have L0:=Lv (show Xx cm=0 by unfold Xx;simp [n1,n2,n3,n4,n5,n6,n7,n8,n9,n10,n11,n12]);have b1:(cm == 25)=false:=by simpa using n1
  have b2:(cm == 34)=false:=by simpa using n2
  have b3:(cm == 2147483682)=false:=by simpa using n3
  have b4:(cm == 2)=false:=by simpa using n4
  have b5:(cm == 12)=false:=by simpa using n5
  have b6:(cm == 13)=false:=by simpa using n6
  have b7:(cm == 2147483672)=false:=by simpa using n7
  have b8:(cm == 2147483679)=false:=by simpa using n8
  have b9:(cm == 2147483683)=false:=by simpa using n9
  have b10:(cm == 2147483688)=false:=by simpa using n10
  have b11:(cm == 2147483699)=false:=by simpa using n11
  have b12:(cm == 2147483700)=false:=by simpa using n12
  rw [L0.o];clear n1 n2 n3 n4 n5 n6 n7 n8 n9 n10 n11 n12;go_enter Tryz.func117,Tryz.ntmps117;go_wp2;go_ret
  exact ⟨rfl,rfl⟩
theorem Tr (cm:Int):Calls Tryz.prog 119 #[.int .u32 cm] w fun e w'=>e=.returned (.int .i64 (Xr cm))∧w=w':=by
 by_cases h:cm=12∨cm=2147483672∨cm=2147483679∨cm=2147483683
 ·rcases h with rfl | rfl | rfl | rfl
  all_goals
   go_enter Tryz.func119,Tryz.ntmps119;go_wp2;go_ret
   exact ⟨rfl,rfl⟩
 ·simp only [not_or] at h
  obtain ⟨n1,n2,n3,n4⟩:=h;have L0:=Lv (show Xr cm=0 by unfold Xr;simp [n1,n2,n3,n4]);have b1:(cm == 12)=false:=by simpa using n1
  have b2:(cm == 2147483672)=false:=by simpa using n2
  have b3:(cm == 2147483679)=false:=by simpa using n3
  have b4:(cm == 2147483683)=false:=by simpa using n4
  rw [L0.o];clear n1 n2 n3 n4;go_enter Tryz.func119,Tryz.ntmps119;go_wp2;go_ret
  exact ⟨rfl,rfl⟩
theorem Zu (ys:List Int) {q:Option Addr} {c n:Nat} (h:Qk w q c ys) (hn:ys.length=n) (hc:n≤c) (hcm:c≤9223372036854775807) (hr:Q3 ys) (p m:Nat) (hm : 0 < m∧m≤8) (hp:p + m≤n) :
  Calls Tryz.prog 144 #[.slice q n c,.int .i64 p,.int .i64 m] w fun e w'=>e=.returned (.int .u64 (Qc ys p m))∧w=w':=by
 obtain ⟨b,o,rfl,hcell⟩:=h.2 (by omega);have hib:Qk w (some ⟨b,o + p,none⟩) (c - p) ((ys.drop p).take m):=Qk.mk_at fun i hi=>by
  have hi':i < m:=by rw [List.length_take] at hi;omega
  rw [Nat.add_assoc,hcell (p + i) (by omega)];simp [List.getD,List.getElem?_drop,hi']
 have GT:=Lv (get5_any (w:=w) ((ys.drop p).take m) hib (by rw [List.length_take,List.length_drop];omega) hm.2 (fun x hx=>hr x (List.mem_of_mem_drop (List.mem_of_mem_take hx))));have i1:(p:Int) + (m:Int)≤(c:Int):=by omega
 have i2:(p:Int)≤(p:Int) + (m:Int):=by omega
 have i3:¬ c=p:=by omega
 have i5:((p:Int) + (m:Int)).toNat - p=m:=by omega
 have i6:IntKind.i64.wrap ((p:Int) + (m:Int))=(p:Int) + (m:Int):=IntWalk.i64_in _ (by omega);have hm0:=hm.1;clear h hcell hib hr hm;go_enter Tryz.func144,Tryz.ntmps144;go_wp2_with fail;refine GT.o.mono ?_
 rintro e w1 ⟨rfl,rfl⟩;go_wp2;go_ret
 exact ⟨rfl,rfl⟩
theorem Y7 (ys:List Int) {q:Option Addr} {c n:Nat} (h:Qk w q c ys) (hn:ys.length=n) (hc:n≤c) (hcm:c≤9223372036854775807) (hr:Q3 ys) (hs:¬ Ji ys) :
  Calls Tryz.prog 116 #[.slice q n c] w fun e w'=>e=.returned (.tuple #[.int .u32 (Qd ys),.int .i64 0])∧w=w':=by
 have h8 : 8≤n:=by
  rcases Nat.lt_or_ge n 8 with h1 | h1
  ·exact absurd (.inl (by omega)) hs
  ·exact h1
 have hle:¬ ((n:Int) < Xx (Qd ys)):=fun h=>hs (.inr (by rw [hn];exact h));have AT:=Lv (Zu (w:=w) ys h hn hc hcm hr 0 4 ⟨by decide,by decide⟩ (by omega));have hcb:=Jm hr 0;obtain ⟨cm,hcm'⟩:∃ z,z=Qd ys:=⟨_,rfl⟩
 have e1:Qc ys 0 4=cm:=hcm'.symm;rw [← hcm'] at hle ⊢;rw [e1] at AT hcb;have LS:=Lv (fun w:World=>Mi (w:=w) cm);obtain ⟨L,hL⟩:∃ L,L=Xx cm:=⟨_,rfl⟩
 rw [← hL] at hle LS;have d1:decide ((n:Int) < 8)=false:=by simp;omega
 have d2:decide ((n:Int) < L)=false:=by simpa using hle
 clear h hr hs hL hle hcm' e1 hn;go_enter Tryz.func116,Tryz.ntmps116;go_wp2_with fail;refine AT.o.mono ?_
 rintro e w1 ⟨rfl,rfl⟩;go_wp2_with fail;refine (LS.o _).mono ?_
 rintro e w2 ⟨rfl,rfl⟩;go_wp2;go_ret2
 exact ⟨rfl,rfl⟩
theorem pre_step {L:List Int} {k:Nat} {x:Int} (h:L[k]?=some x) (hx:x≠0):pre (L.drop k)=x :: pre (L.drop (k + 1)):=by
 rw [List.drop_eq_getElem?_toList_append,h];show (if x=0 then [] else x :: pre (L.drop (k + 1)))=_
 rw [if_neg hx]
theorem pre_stop {L:List Int} {k:Nat} (h:L[k]?=some 0):pre (L.drop k)=[]:=by
 rw [List.drop_eq_getElem?_toList_append,h];rfl
theorem Gs {L:List Int} {k:Nat} {x:Int} (hi:pre L=L.take k ++ pre (L.drop k)) (h:L[k]?=some x) (hx:x≠0):pre L=L.take (k + 1) ++ pre (L.drop (k + 1)):=by
 rw [hi,pre_step h hx,List.take_add_one,h];simp
theorem Hj {L:List Int} {k:Nat} (hi:pre L=L.take k ++ pre (L.drop k)) (h:L[k]?=some 0):pre L=L.take k:=by
 rw [hi,pre_stop h,List.append_nil]
theorem Yb (ys:List Int) {q:Option Addr} {c n:Nat} (h:Qk w q c ys) (hn:ys.length=n) (hc:n≤c) (hcm:c≤9223372036854775807) (_hr:Q3 ys) (p:Nat) (hp:p + 16≤n) :
  Calls Tryz.prog 163 #[.slice q n c,.int .i64 p] w fun e w'=>e=.returned (.string (strOfNums (Xl ys p)))∧w=w':=by
 obtain ⟨b,o,rfl,hcell⟩:=h.2 (by omega);obtain ⟨L,hL⟩:∃ L,L=(ys.drop p).take 16:=⟨_,rfl⟩
 have hLl:L.length=16:=by rw [hL,List.length_take,List.length_drop];omega
 have HC:=Lv (fun (k:Nat) (x:Int) (hk:L[k]?=some x)=>(show w.cell? ⟨b,o + (p + k),none⟩=some (.int .u8 x) from by
  have hk16:k < 16:=by
   rcases Nat.lt_or_ge k 16 with h1 | h1
   ·exact h1
   ·rw [List.getElem?_eq_none (by omega)] at hk;cases hk
  rw [hcell (p + k) (by omega)];rw [hL,List.getElem?_take,if_pos hk16,List.getElem?_drop] at hk;simp [List.getD,hk]))
 have FA:=Lv (show Xl ys p=pre L by rw [hL];rfl);have IB:=Lv (show Qk w (some ⟨b,o + p,none⟩) (c - p) L from Qk.mk_at fun i hi=>by
  have hi':i < 16:=by omega
  rw [Nat.add_assoc,hcell (p + i) (by omega),hL];simp [List.getD,List.getElem?_drop,hi'])
 have HL:=Lv hLl;have i3:¬ c=p:=by omega
 have hpc:(p:Int) + 16≤(c:Int):=by omega
 rw [FA.o];clear h hcell hL hLl;go_enter Tryz.func163,Tryz.ntmps163;go_wp2;go_loopw [5] (fun i wr=>∃ k:Nat,k≤16∧i=.int .i64 k∧wr=w∧pre L=L.take k ++ pre (L.drop k)) (fun i _=>16 - (intOf i).toNat)
 case atStart=>exact ⟨0,by omega,rfl,rfl,by simp⟩
 case round =>
  obtain ⟨k,hk,rfl,rfl,hi⟩:=hrel;have HI:=Lv hi;have j1:(p:Int) + (k:Int)≤(c:Int):=by omega
  have j2:(p:Int)≤(p:Int) + (k:Int):=by omega
  have j3:((p:Int) + (k:Int)).toNat - p=k:=by omega
  have j4:IntKind.i64.wrap ((p:Int) + (k:Int))=(p:Int) + (k:Int):=IntWalk.i64_in _ (by omega);have j5:((p:Int) + (k:Int)).toNat=p + k:=by omega
  have cv:=(IB.o.take (c':=c - p) k (fun h=>by cases h)).text (n:=k) (by rw [List.length_take,HL.o];omega);clear hi;by_cases hlt:k < 16
  ·obtain ⟨x,hx⟩:∃ x,L[k]?=some x:=⟨_,List.getElem?_eq_getElem (by rw [HL.o];exact hlt)⟩
   have c0:=HC.o k x hx;have HX:=Lv hx;have j6:(p:Int) + (k:Int) < (n:Int):=by omega
   have d1:decide ((k:Int) < 16)=true:=by simp;omega
   clear hx;by_cases hx0:x=0
   ·subst hx0
    have PE:=Lv (Hj HI.o HX.o);rw [← PE.o] at cv;go_wp2;go_ret
    exact ⟨rfl,rfl⟩
   ·have hx1:(x != 0)=true:=by simpa using hx0
    have PE:=Lv (Gs HI.o HX.o hx0);clear hx0 cv;go_wp2;refine ⟨⟨k + 1,by omega,by go_num,trivial,PE.o⟩,by simp [intOf];omega⟩
  ·have hk16:k=16:=by omega
   subst hk16;have PE:=Lv (show pre L=L.take 16 by rw [HI.o,List.drop_of_length_le (by rw [HL.o];exact Nat.le_refl _)];simp [pre]);rw [← PE.o] at cv;go_wp2;go_ret
   exact ⟨rfl,rfl⟩
end Go.Proofs.YtkmbkpoclhbmgaaGreat
