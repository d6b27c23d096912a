/- Parts of the proof, put together: NlRk, ExW, ExX, ImN, ImO. No condition beyond those that each part names. -/
import Derived.Test.YtkmbkpoclhbmgaaGreatPA17
set_option maxRecDepth 20000
set_option maxHeartbeats 6400000
namespace Go.Proofs.YtkmbkpoclhbmgaaGreat
open Go.RowKit
variable {w w' W V:World}
section
variable {w w' W V:World} {D:Syms}
structure Boxed10 (p:Prop):Prop where
 out:p
structure MkI (w3 wr:World) (D:Syms) (n:Nat) (vi:Value):Prop where
 ex:∃ k:Nat,k≤n∧vi=.int .i64 (k:Int)∧∀ (i j:Nat) (x y:Sym),i < j→j < k→D[i]?=some x→D[j]?=some y→x.1≠y.1
 grown:w3.grownBy wr none
structure MkJ (w3 wr:World) (D:Syms) (i:Nat) (y:Sym) (vk:Value):Prop where
 ex:∃ k:Nat,k≤i∧vk=.int .i64 (k:Int)∧∀ (j:Nat) (x:Sym),j < k→D[j]?=some x→x.1≠y.1
 grown:w3.grownBy wr none
structure MkL (w wr:World) (D:Syms) (n:Nat) (vt vn vi:Value):Prop where
 ex:∃ (k:Nat) (qa:Option Addr) (ca:Nat) (qb:Option Addr) (cb:Nat),k≤n∧vi=.int .i64 (k:Int)∧vt=.slice qa (16 * k) ca∧vn=.slice qb (nmB (D.take k)).length cb∧Duo w wr (.slice qa (16 * k) ca) (tabS D k) (.slice qb (nmB (D.take k)).length cb) (nmB (D.take k))
theorem ent_is (P:Nat) (x:Sy):Sx (P:Int) x=entV (P:Int) (Rk x) x.sec (Rp x) x.value:=rfl
theorem refMake10_any {q:Option Addr} {n c:Nat} (hn:D.length=n) (hD:Vx w q D) (hfew:n≤5000) (hm:∀ y∈D,SyFits y.1 y.2) :
  Calls Tryz.prog 23 #[.slice q n c] w fun r w'=>MkO w w' D r:=by
 have HD:=Lv hD;have HN:=Lv hn;have HM:=Lv hm;clear hD hm hn;go_enter Tryz.func23,Tryz.ntmps23;go_wp2;go_loopw [5] (fun vi wr=>Boxed10 (∃ k:Nat,k≤n∧vi=.int .i64 (k:Int)∧w.grownBy wr none∧∀ (i:Nat) (y:Sym),i < k→D[i]?=some y→mayS y.1 y.2=true)) (fun vi _=>n - (intOf vi).toNat)
 case atStart=>exact .mk ⟨0,Nat.zero_le _,rfl,Qq _ _,fun i y h=>by omega⟩
 case round =>
  obtain ⟨k,hk,rfl,hg,hmay⟩:=hrel.out;have G:=Lv hg;have MY:=Lv hmay;by_cases hlt:k < n
  ·obtain ⟨y,hy⟩:∃ y,D[k]?=some y:=⟨_,List.getElem?_eq_getElem (by rw [HN.o];exact hlt)⟩
   obtain ⟨gq,oq,rfl,a0,a1,a2,a3⟩:=(HD.o.grown hg).at hy;have hmy:=HM.o y (List.mem_of_getElem? hy);have M:=Lv (refMay10_any (x:=y.2) hmy.name hmy.len wr);have dl:decide ((k:Int) < (n:Int))=true:=by simp;omega
   have hkI:(k:Int) < (n:Int):=by omega
   obtain ⟨b,hb⟩:∃ b,b=mayS y.1 y.2:=⟨_,rfl⟩
   rw [← hb] at M;have HB:=Lv hb;have HYY:=Lv hy;unfold syV Yi at M;clear hg hmay hrel hy hmy hb;go_wp2_with fail;refine M.o.mono ?_
   rintro e w2 ⟨rfl,hg⟩;have G2:=Lv (Qz G.o hg);clear hg M a0 a1 a2 a3;cases b
   ·have EE:=Lv (show Bo D=2 by
     unfold Bo;rw [if_pos];unfold Sd;rw [List.all_eq_false];exact ⟨y,List.mem_of_getElem? HYY.o,by rw [← HB.o];decide⟩)
    go_wp2;go_ret3
    exact MkO.no G2.o EE.o (by decide)
   ·have NW:=Lv (show Boxed10 (∃ k':Nat,k'≤n∧Value.int .i64 ((k:Int) + 1)=.int .i64 (k':Int)∧w.grownBy w2 none∧∀ (i:Nat) (y:Sym),i < k'→D[i]?=some y→mayS y.1 y.2=true) from .mk ⟨k + 1,hlt,by simp,G2.o,fun i z hi hz=>by
     rcases Nat.lt_or_ge i k with h | h
     ·exact MY.o i z h hz
     ·obtain rfl:i=k:=by omega
      rw [HYY.o] at hz;injection hz with hz;rw [← hz];exact HB.o.symm⟩)
    go_wp2;go_roundw
    case rel=>exact NW.o
    case measure=>simp [intOf];omega
  ·have hkn:n=k:=by omega
   subst hkn;have dl:decide ((n:Int) < (n:Int))=false:=by simp
   have ALL:=Lv (show ∀ y∈D,mayS y.1 y.2=true from fun y hy=>by
    obtain ⟨i,hi,rfl⟩:=List.getElem_of_mem hy;exact hmay i _ (by rw [← HN.o];exact hi) (List.getElem?_eq_getElem hi))
   have HA:=Lv (show Sd D=true from by
    unfold Sd;rw [List.all_eq_true];exact ALL.o)
   have g1:=grown1 wr (.cells #[.int .u8 0] 5);have s1:Duo w (wr.alloc (.cells #[.int .u8 0] 5)) (.slice none (16 * 0) 0) (tabS D 0) (.slice (some ⟨wr.heap.size,0,none⟩) (nmB (D.take 0)).length 1) (nmB (D.take 0)) :=
    ⟨World.ownsRow_nil _ _ _ _,World.ownsRow_lit wr #[.int .u8 0] 1 hg.size (by decide) rfl,fun g hg=>(by cases hg),Qz hg g1⟩
   have ST:=Lv (show MkL w (wr.alloc (.cells #[.int .u8 0] 5)) D n (.slice none 0 0) (.slice (some ⟨wr.heap.size,0,none⟩) 1 1) (.int .i64 0) from ⟨⟨0,_,_,_,_,Nat.zero_le _,rfl,rfl,rfl,s1⟩⟩);clear hg hmay hrel g1 s1 MY G;go_wp2;go_loopw [6,7,8] (fun vt vn vi wr=>MkL w wr D n vt vn vi) (fun _ _ vi _=>n - (intOf vi).toNat)
   case atStart=>exact ST.o
   case round =>
    obtain ⟨⟨i,qa,ca,qb,cb,hi,rfl,rfl,rfl,hduo⟩⟩:=hrel;have DU:=Lv hduo;by_cases hlt:i < n
    ·obtain ⟨y,hy⟩:∃ y,D[i]?=some y:=⟨_,List.getElem?_eq_getElem (by rw [HN.o];exact hlt)⟩
     obtain ⟨gq,oq,rfl,a0,a1,a2,a3⟩:=(HD.o.grown hduo.grown).at hy;have hmy:=ALL.o y (List.mem_of_getElem? hy);obtain ⟨m1,m2,m3,m4,m5⟩:=Sb hmy;have hfy:=HM.o y (List.mem_of_getElem? hy);have BY:=Lv hfy.name;have hst:(strOfNums y.1).size=y.1.length:=strOfNums_size _;have TT:=Lv (tabS_take hy);have NT:=Lv (nmB_take hy);have nl:=nmB_len_le (l:=D.take i) (fun y hy=>(Sb (ALL.o y (List.mem_of_mem_take hy))).2.1)
     rw [List.length_take] at nl;have dl:decide ((i:Int) < (n:Int))=true:=by simp;omega
     have hiI:(i:Int) < (n:Int):=by omega
     obtain ⟨P,hP⟩:∃ P,P=(nmB (D.take i)).length:=⟨_,rfl⟩
     obtain ⟨Tn,hTn⟩:∃ T,T=16 * i:=⟨_,rfl⟩
     have hkd:(decide (0 < y.2.sec)=true∧Rk y.2=15)∨(decide (0 < y.2.sec)=false∧Rk y.2=3):=by
      unfold Rk;by_cases h:y.2.sec=0
      ·exact .inr ⟨by simp;omega,by rw [if_pos h]⟩
      ·exact .inl ⟨by simp;omega,by rw [if_neg h]⟩
     have hds:(y.2.weak=true∧Rp y.2=128)∨(y.2.weak=false∧Rp y.2=0):=by
      unfold Rp;cases y.2.weak
      ·exact .inr ⟨rfl,rfl⟩
      ·exact .inl ⟨rfl,rfl⟩
     have EN:=Lv (fun (V:World)=>entry10_any P (by omega) (Rk y.2) (by unfold Rk;split <;> decide) y.2.sec (by omega) (Rp y.2) (by unfold Rp;split <;> decide) y.2.value hfy.value V);rw [hP,← ent_is,← hP] at EN;rw [← hP,← hTn];rw [← hP,← hTn] at hduo;obtain ⟨EV,hEV⟩:∃ EV,EV=Sx (P:Int) y.2:=⟨_,rfl⟩
     rw [← hEV] at EN;have LE:=Lv (show EV.length=16 by rw [hEV];exact entS_len _ _);rw [← hP,← hEV] at TT;obtain ⟨TS,hTS⟩:∃ TS,TS=tabS D i:=⟨_,rfl⟩
     rw [← hTS] at TT hduo;have LT:=Lv (show TS.length=Tn by rw [hTS,tabS_len,hTn]);have DD:=Lv (show Duo w wr.drew _ _ _ _ from hduo.past (show wr.grownBy wr.drew none from Qj (Qq wr none) 1));have GR:=Lv (show wr.grownBy wr.drew none from Qj (Qq wr none) 1);have KK:=Lv (And.intro hkd hds);have HP:=Lv hP;have HT:=Lv hTn;have hPI:(P:Int)≤1400000:=by omega
     have hTI:Tn≤80000:=by omega
     obtain ⟨g',o',e',z0,z1,z2,z3⟩:=HD.o.at hy;injection e' with e';injection e' with e1 e2 _;subst e1 e2;have Z0:=Lv z0;have Z1:=Lv z1;have Z2:=Lv z2;clear z0 z1 z2 z3;clear hduo hy hmy m1 m3 hP hTn hfy DU nl;rcases hkd with ⟨hk1,hk2⟩ | ⟨hk1,hk2⟩ <;> rcases hds with ⟨hd1,hd2⟩ | ⟨hd1,hd2⟩
     all_goals
      rw [hk2,hd2] at EN;rw [hd1] at a3;clear hk2 hd2;have RC:=Lv (Xm.refl DD.o.a);have BC:=Lv DD.o.grown.size;have y1:wr.drew.cell? ⟨gq,oq + i * 4 + 1,none⟩=some (.int .i64 y.2.sec):=a1
      have y2:wr.drew.cell? ⟨gq,oq + i * 4 + 2,none⟩=some (.int .u64 y.2.value):=a2
      have Y1:=Lv y1;have Y2:=Lv y2;go_wp2;go_region_held3 (fun X=>X.cell? ⟨gq,oq + i * 4 + 1,none⟩=some (.int .i64 y.2.sec)∧X.cell? ⟨gq,oq + i * 4 + 2,none⟩=some (.int .u64 y.2.value))
       (exact ⟨y1,y2⟩)
       (first
         |(go_simp;go_at_call 57;(with_reducible refine (EN.o _).mono ?_);rintro e x1 ⟨⟨qe,ce,rfl,hoe⟩,hge⟩;rw [LE.o] at hoe ⊢;have BE:=Lv (Qk.of_own LE.o hoe);have RD:=Lv (RC.o.past hge);have BD:=Lv (Nat.le_trans BC.o hge.size);clear y1 y2;have y1:=Qv hge Y1.o;have y2:=Qv hge Y2.o)
         |(refine Bb (by with_reducible rfl) _ _ (by with_reducible rfl) (by with_reducible rfl) (v:=.slice qa Tn ca) (by rfl) RD.o EV 16 LE.o (by rfl) BE.o (by rw [LT.o];omega) BD.o ?_;intro q2 c2 x2 hr2;rw [LT.o,← TT.o] at hr2;rw [LT.o];have D2:=DD.o.step hr2;clear y1 y2;have y1:=Qv D2.grown Z1.o;have y2:=Qv D2.grown Z2.o))
      have D3:=Lv D2;have B3:=Lv D2.grown.size;have RB:=Lv (Xm.refl D2.symm.a);have b0:=Qv D2.grown Z0.o;have HPB:=Lv (show (nmB (D.take i)).length + y.1.length≤140737488355328 by rw [← HP.o];omega);clear hr2 D2 y1 y2 BE RD BD RC BC DD;go_wp2_with (at_builtin;refine wp_append_sto rfl (.tmp 60) (.tmp 65) rfl rfl (v:=.slice qb P cb) (by rfl) RB.o y.1 BY.o (by rfl) HPB.o B3.o ?_)
      intro q4 c4 w4 hr4;rw [← HP.o] at hr4 ⊢;have R4:=Lv (Xm.past hr4 (grown1 w4 (.cells #[.int .u8 0] 5)));have B4:=Lv (Nat.le_trans B3.o (Nat.le_trans hr4.grown.size (grown1 w4 (.cells #[.int .u8 0] 5)).size));have IB:=Lv (He w4 0);have L4:=Lv (show (nmB (D.take i) ++ y.1).length=P + y.1.length by rw [List.length_append,← HP.o]);have HP4:=Lv (show (nmB (D.take i) ++ y.1).length + 1≤140737488355328 by rw [L4.o];omega)
      clear hr4 b0;go_wp2_with (at_builtin;refine Zi rfl (.tmp 66) (.tmp 67) rfl rfl (v:=.slice q4 (P + y.1.length) c4) (by rfl) R4.o [0] 1 rfl rfl IB.o HP4.o B4.o ?_)
      intro q5 c5 w5 hr5;rw [← HP.o,← NT.o] at hr5;rw [← HP.o];have L5:=Lv hr5.len;have D5:=D3.o.symm.step hr5;have DE:=Lv D5.symm;clear hr5 D5;go_wp2;go_roundw
      case rel=>exact ⟨⟨i + 1,q2,c2,q5,c5,hlt,by simp,by rw [HT.o];rfl,by rw [L5.o],by rw [L5.o,show 16 * (i + 1)=Tn + 16 by rw [HT.o];omega];exact DE.o⟩⟩
      case measure=>simp [intOf];omega
    ·have hin:n=i:=by omega
     subst hin;have dl:decide ((n:Int) < (n:Int))=false:=by simp
     have htk:nmB (D.take n)=nmB D:=by rw [← HN.o,List.take_length]
     rw [htk] at hduo ⊢;obtain ⟨P,hP⟩:∃ P,P=(nmB D).length:=⟨_,rfl⟩
     obtain ⟨Tn,hTn⟩:∃ T,T=16 * n:=⟨_,rfl⟩
     rw [← hP,← hTn] at hduo ⊢;have D3:=Lv hduo;have G3:=Lv hduo.grown;have HP:=Lv hP;have HT:=Lv hTn;have nl:=nmB_len_le (l:=D) (fun y hy=>(Sb (ALL.o y hy)).2.1);rw [HN.o,← hP] at nl;have hPI:P≤1400000:=by omega
     clear hduo htk hP hTn DU nl;by_cases h4 : 4096 < n
     ·have d4:decide ((4096:Int) < (n:Int))=true:=by simp;omega
      have EE:=Lv (show Bo D=11 by unfold Bo;rw [if_neg (by rw [HA.o];decide),if_pos (.inl (by rw [HN.o];exact h4))]);clear h4;go_wp2;go_ret3
      exact MkO.no G3.o EE.o (by decide)
     ·have d4:decide ((4096:Int) < (n:Int))=false:=by simp;omega
      by_cases hb : 1048576 < P
      ·have db:decide ((1048576:Int) < (P:Int))=true:=by simp;omega
       have EE:=Lv (show Bo D=11 by unfold Bo;rw [if_neg (by rw [HA.o];decide),if_pos (.inr (by rw [← HP.o];exact hb))]);clear h4 hb;go_wp2;go_ret3
       exact MkO.no G3.o EE.o (by decide)
      ·have db:decide ((1048576:Int) < (P:Int))=false:=by simp;omega
       have HE:=Lv (show Bo D=if twB D=true then 21 else 0 by unfold Bo;rw [if_neg (by rw [HA.o];decide),if_neg (fun h=>h.elim (fun h=>h4 (by rw [← HN.o];exact h)) (fun h=>hb (by rw [HP.o];exact h)))]);have ST3:=Lv (show MkI wr wr D n (.int .i64 0) from ⟨⟨0,Nat.zero_le _,rfl,fun i j x y _ h=>by omega⟩,Qq _ _⟩);clear h4 hb;go_wp2;obtain ⟨w3,hw3⟩:∃ W,W=wr:=⟨_,rfl⟩
       rw [← hw3] at ST3 G3 D3;have SD3:=Lv (HD.o.grown G3.o);rw [← hw3];go_loopw [11] (fun vi wr=>MkI w3 wr D n vi) (fun vi _=>n - (intOf vi).toNat)
       case atStart=>exact ST3.o
       case round =>
         obtain ⟨⟨k,hk,rfl,hdis⟩,hg⟩:=hrel;have GG:=Lv hg;have DI:=Lv hdis;by_cases hlt:k < n
         ·obtain ⟨y,hy⟩:∃ y,D[k]?=some y:=⟨_,List.getElem?_eq_getElem (by rw [HN.o];exact hlt)⟩
          have dl:decide ((k:Int) < (n:Int))=true:=by simp;omega
          have dl2:decide (k < n)=true:=decide_eq_true hlt;have hkI:(k:Int) < (n:Int):=by omega
          have HYY:=Lv hy;have BYN:=Lv (HM.o y (List.mem_of_getElem? hy)).name;have STJ:=Lv (show MkJ w3 wr D k y (.int .i64 0) from ⟨⟨0,Nat.zero_le _,rfl,fun j x h=>by omega⟩,GG.o⟩);clear hg hdis hy;go_wp2;go_loopw [12] (fun vk wr=>MkJ w3 wr D k y vk) (fun vk _=>k - (intOf vk).toNat)
          case atStart=>exact STJ.o
          case round =>
            obtain ⟨⟨j,hj,rfl,hno⟩,hgj⟩:=hrel;have GJ:=Lv hgj;have NO:=Lv hno;by_cases hjk:j < k
            ·obtain ⟨x,hx⟩:∃ x,D[j]?=some x:=⟨_,List.getElem?_eq_getElem (by rw [HN.o];omega)⟩
             obtain ⟨g1,o1,e1,a0,a1,a2,a3⟩:=(SD3.o.grown hgj).at hx;obtain ⟨g2,o2,e2,b0,b1,b2,b3⟩:=(SD3.o.grown hgj).at HYY.o;rw [e1] at e2;injection e2 with e2;injection e2 with e3 e4 _;subst e1 e3 e4;have dj:decide ((j:Int) < (k:Int))=true:=by simp;omega
             have dj2:decide (j < k)=true:=decide_eq_true hjk;have hjI:(j:Int) < (n:Int):=by omega
             have ee:=Gg (HM.o x (List.mem_of_getElem? hx)).name BYN.o;have HXX:=Lv hx;clear hx hno hgj a1 a2 a3 b1 b2 b3;by_cases hs:x.1=y.1
             ·rw [decide_eq_true hs] at ee
              have EE:=Lv (show Bo D=21 by
               rw [HE.o,if_pos];cases h:twB D with
               | true=>rfl
               | false =>
                have hp:=twB_no h;obtain ⟨h1,r1⟩:=List.getElem?_eq_some_iff.1 HXX.o;obtain ⟨h2,r2⟩:=List.getElem?_eq_some_iff.1 HYY.o
                have:=List.pairwise_iff_getElem.1 hp j k h1 h2 hjk
                rw [r1,r2] at this;exact absurd hs this)
              have GF:=Lv (Qz G3.o GJ.o);clear hs;go_wp2;go_quiet (fail);go_wp2;go_ret3
              exact MkO.no (Qj GF.o _) EE.o (by decide)
             ·rw [decide_eq_false hs] at ee
              have HS:=Lv hs;have NW:=Lv (fun m=>(⟨⟨j + 1,hjk,by simp,fun i' z hi hz=>by
               rcases Nat.lt_or_ge i' j with h | h
               ·exact NO.o i' z h hz
               ·obtain rfl:i'=j:=by omega
                rw [HXX.o] at hz;injection hz with hz;rw [← hz];exact HS.o⟩,Qj GJ.o m⟩:MkJ w3 (wr.drewN m) D k y (.int .i64 ((j:Int) + 1))))
              clear hs;go_wp2;go_quiet (fail);go_wp2;go_roundw
              case rel=>exact NW.o _
              case measure=>simp [intOf];omega
            ·have hjk2:j=k:=by omega
             subst hjk2;have dj:decide ((j:Int) < (j:Int))=false:=by simp
             have NW:=Lv (show MkI w3 wr D n (.int .i64 ((j:Int) + 1)) from ⟨⟨j + 1,hlt,by simp,fun i1 i2 x z h1 h2 hx hz=>by
              rcases Nat.lt_or_ge i2 j with h | h
              ·exact DI.o i1 i2 x z h1 h hx hz
              ·obtain rfl:i2=j:=by omega
               rw [HYY.o] at hz;injection hz with hz;rw [← hz];exact NO.o i1 x h1 hx⟩,GJ.o⟩)
             clear hno hgj;go_wp2;go_roundw
             case rel=>exact NW.o
             case measure=>simp [intOf];omega
         ·have hkn:n=k:=by omega
          subst hkn;have dl:decide ((n:Int) < (n:Int))=false:=by simp
          have EE:=Lv (show Bo D=0 by
            rw [HE.o,if_neg];intro h;refine twB_yes h (List.pairwise_iff_getElem.2 fun i j hi hj hij=>?_);exact hdis i j _ _ hij (by rw [← HN.o];exact hj) (List.getElem?_eq_getElem hi) (List.getElem?_eq_getElem hj))
          have DF:=Lv (D3.o.past hg);clear hg hdis;go_wp2;go_ret3
          have hd:=DF.o;obtain rfl:=HP.o;obtain rfl:=HT.o;have e1:mkT D=tabS D n:=by unfold mkT;rw [if_pos EE.o,HN.o]
          have e2:mkN D=nmB D:=by unfold mkN;rw [if_pos EE.o]
          have tl:(tabS D n).length=16 * n:=tabS_len _ _;have ha:=hd.a;rw [tl] at ha;have ca':=Gd ha;have cb':=Gd hd.b;refine ⟨⟨qa,ca,qb,cb,by rw [e1,e2,EE.o,tl];rfl,?_,?_,?_⟩,hd.grown⟩
          · rw [e1];exact Qk.of_own tl ha
          · rw [e2];exact Qk.of_own rfl hd.b
          · rw [e1,e2,tl];exact ⟨ca'.1,ca'.2,cb'.1,cb'.2⟩
end
def exA:Out:=[([97],⟨1,false,16,0,0,[]⟩)]
def syB:Syms:=[([98],⟨1,4128,false⟩)]
def exB:Out:=[([98],⟨1,false,32,0,0,[]⟩)]
def triA:List Int:=Tp exA 3
theorem triA_fix:Qs (plan 257 exA 0 0) 4=Qs (plan 257 exA 0 0) 3:=by kernel_rfl
theorem triA_len:triA.length≤1048576:=by decide +kernel
theorem exA_0:mkE0 exA=0:=by
 unfold mkE0;rw [if_pos (by decide +kernel),if_neg (by decide +kernel),if_pos (by simp [exA])]
theorem mkA {E:Int} {B:List Int} (h:MkIs exA E B):E=0∧B=triA:=by
 obtain ⟨R,t,hp,hu,hf,h1,h2⟩:=h.yes exA_0 (by simp [exA]);have hR:R=exA:=List.perm_singleton.1 hp;subst hR;have e:Tp exA t=triA:=by
  unfold triA Tp;rw [rounds_one hf triA_fix]
 rw [e] at h1 h2;exact h2 triA_len
theorem triA_all:allN triA=(exA,0):=by kernel_rfl
theorem Pr (Z T B S:List Int) (z:Nat) (hz:Z.length=z):Q1 (((Z ++ T) ++ B) ++ S) (z:Int) (T.length:Int)=T∧Q1 (((Z ++ T) ++ B) ++ S) ((z:Int) + (T.length:Int)) (B.length:Int)=B∧Q1 (((Z ++ T) ++ B) ++ S) ((z:Int) + ((T.length:Int) + (B.length:Int))) (S.length:Int)=S:=by
 have hl:(((Z ++ T) ++ B) ++ S).length=z + T.length + B.length + S.length:=by simp only [List.length_append,hz]
 refine ⟨?_,?_,?_⟩
 ·rw [Bf (by unfold Zq;rw [hl];exact decide_eq_true (by omega)),show (z:Int).toNat=Z.length by rw [hz];omega]
  simp [List.append_assoc]
 ·rw [Bf (by unfold Zq;rw [hl];exact decide_eq_true (by omega)),show ((z:Int) + (T.length:Int)).toNat=(Z ++ T).length by rw [List.length_append,hz];omega]
  rw [List.append_assoc (Z ++ T),List.drop_left];simp
 ·rw [Bf (by unfold Zq;rw [hl];exact decide_eq_true (by omega)),show ((z:Int) + ((T.length:Int) + (B.length:Int))).toNat=((Z ++ T) ++ B).length by rw [List.length_append,List.length_append,hz];omega]
  rw [List.drop_left];simp
theorem part_tr {T B S:List Int}:Q1 (plB T B S) 4096 (T.length:Int)=T:=(Pr (List.replicate 4096 0) T B S 4096 List.length_replicate).1
theorem part_sy {T B S:List Int}:Q1 (plB T B S) (4096 + (T.length:Int)) (B.length:Int)=B:=(Pr (List.replicate 4096 0) T B S 4096 List.length_replicate).2.1
theorem part_st {T B S:List Int}:Q1 (plB T B S) (4096 + ((T.length:Int) + (B.length:Int))) (S.length:Int)=S:=(Pr (List.replicate 4096 0) T B S 4096 List.length_replicate).2.2
theorem raw_plain (T B S:List Int):Zy (plB T B S) (plSt T.length B.length S.length)=if 0 < (T.length:Int) then ((allN T).2,srtN (allN T).1) else if 0 < (B.length:Int) then ((Jk B S 1).1,srtN ((Jk B S 1).2.map (Xy 4096))) else (0,[]):=by
 unfold Zy;simp only [plSt];rw [part_tr,part_sy,part_st];have e1:(secN [Hg]:Int)=1:=rfl;have e2:lowN [Hg]=4096:=rfl;rw [e1,e2];rfl
theorem srtN_1 (y:List Int × Ex):srtN [y]=[y]:=by unfold srtN;exact List.mergeSort_singleton y
theorem all_plainA (B S:List Int):Bj (plB triA B S) (plSt triA.length B.length S.length) 1=(0,exA):=by
 have r:=raw_plain triA B S;rw [if_pos (by decide +kernel),triA_all] at r;simp only [exA,srtN_1] at r;unfold Bj;rw [r];rfl
theorem all_plainB:Bj (plB [] (mkT syB) (mkN syB)) (plSt 0 (mkT syB).length (mkN syB).length) 1=(0,exB):=by
 unfold Bj;have r:=raw_plain [] (mkT syB) (mkN syB);rw [if_neg (by simp),if_pos (by decide +kernel)] at r;have n:Jk (mkT syB) (mkN syB) 1=(0,syB):=by kernel_rfl
 rw [n] at r;have m:syB.map (Xy 4096)=exB:=by kernel_rfl
 simp only [m] at r;simp only [List.length_nil] at r;rw [r];simp only [exB,srtN_1];rfl
theorem exA_fit:Pv exA:=by
 refine ⟨?_,?_,?_,?_,?_⟩ <;> (intro y hy;rw [exA,List.mem_singleton] at hy;subst hy)
 ·intro z hz;simp at hz;subst hz;decide
 ·intro z hz;cases hz
 ·decide
 ·decide
 ·decide
theorem exA_at (w:World):Xt (w.alloc (.cells #[.string ⟨#[97]⟩,.int .i64 1,.bool false,.int .u64 16,.int .u64 0,.int .u64 0,.string ⟨#[]⟩] 28 (0,0))) (some ⟨w.heap.size,0,none⟩) exA:=by
 intro i y hy;rcases i with _ | i
 ·injection hy with hy
  subst hy;refine ⟨_,0,rfl,fun j hj=>?_⟩;rw [Qm (heap_alloc_new w _)];rcases (show j=0∨j=1∨j=2∨j=3∨j=4∨j=5∨j=6 by omega) with rfl | rfl | rfl | rfl | rfl | rfl | rfl <;> rfl
 ·simp [exA] at hy
theorem syB_at (w:World):Vx (w.alloc (.cells #[.string ⟨#[98]⟩,.int .i64 1,.int .u64 4128,.bool false] 95 (0,0))) (some ⟨w.heap.size,0,none⟩) syB:=by
 intro i y hy;rcases i with _ | i
 ·injection hy with hy
  subst hy;refine ⟨_,0,rfl,fun j hj=>?_⟩;rw [Qm (heap_alloc_new w _)];rcases (show j=0∨j=1∨j=2∨j=3 by omega) with rfl | rfl | rfl | rfl <;> rfl
 ·simp [syB] at hy
theorem syB_fit:∀ y∈syB,SyFits y.1 y.2:=by
 intro y hy;rw [syB,List.mem_singleton] at hy;subst hy;refine ⟨?_,by decide,by decide,by decide⟩;intro z hz;simp at hz;subst hz;decide
theorem triA_byt:Byt triA:=by
 have h:triA.all (fun z=>decide (0≤z) && decide (z < 256))=true:=by decide +kernel
 intro z hz
 have:=List.all_eq_true.1 h z hz
 simpa using this
theorem mkT_byt:Byt (mkT syB):=by
 have h:(mkT syB).all (fun z=>decide (0≤z) && decide (z < 256))=true:=by decide +kernel
 intro z hz
 have:=List.all_eq_true.1 h z hz
 simpa using this
theorem mkN_byt:Byt (mkN syB):=by
 have h:(mkN syB).all (fun z=>decide (0≤z) && decide (z < 256))=true:=by decide +kernel
 intro z hz
 have:=List.all_eq_true.1 h z hz
 simpa using this
theorem known11_any (w:World):Calls Tryz.prog 15 #[] w fun e w'=>e=.returned (.bool true)∧w.grownBy w' none:=by
 have RA:=Lv (refMake_any (D:=exA) rfl exA_fit (by decide) (by intro y hy;rw [exA,List.mem_singleton] at hy;subst hy;exact ⟨rfl,rfl⟩) (by intro y hy;rw [exA,List.mem_singleton] at hy;subst hy;decide) (Nat.le_refl 1) (by decide) (exA_at w));have g1:=grown1 w (.cells #[.string ⟨#[97]⟩,.int .i64 1,.bool false,.int .u64 16,.int .u64 0,.int .u64 0,.string ⟨#[]⟩] 28 (0,0));have G1:=Lv g1;clear g1
 go_enter Tryz.func15,Tryz.ntmps15;go_upto_region 2 with (go_at_call 11;refine RA.o.mono ?_;rintro e w2 ⟨⟨E,B,q,c,rfl,hm,ho⟩,hg⟩;obtain ⟨rfl,rfl⟩:=mkA hm)
 have BT:=Lv (Qk.of_own rfl ho);have CT:=Lv (own_cap2 ho);have G2:=Lv (Qz G1.o hg);clear hm ho hg RA;have RB:=Lv (refMake10_any (D:=syB) (w:=w2.alloc (.cells #[.string ⟨#[98]⟩,.int .i64 1,.int .u64 4128,.bool false] 95 (0,0))) (q:=some ⟨w2.heap.size,0,none⟩) (c:=1) rfl (syB_at w2) (by decide) syB_fit);have G3:=Lv (Qz G2.o (grown1 w2 (.cells #[.string ⟨#[98]⟩,.int .i64 1,.int .u64 4128,.bool false] 95 (0,0))))
 have S3:=Lv (grown1 w2 (.cells #[.string ⟨#[98]⟩,.int .i64 1,.int .u64 4128,.bool false] 95 (0,0)));obtain ⟨nt,hnt⟩:∃ n,n=triA.length:=⟨_,rfl⟩
 rw [← hnt];have NT:=Lv hnt.symm;have FT:=Lv (show nt≤1000000000 by rw [hnt];exact Nat.le_trans triA_len (by decide));clear hnt;go_upto_region 3 with (go_at_call 23;refine RB.o.mono ?_;rintro e w4 ⟨⟨qa,ca,qb,cb,rfl,ba,bb,c1,c2,c3,c4⟩,hg⟩)
 obtain ⟨nb,hnb⟩:∃ n,n=(mkT syB).length:=⟨_,rfl⟩
 obtain ⟨ns,hns⟩:∃ n,n=(mkN syB).length:=⟨_,rfl⟩
 rw [← hnb,← hns];have NB:=Lv hnb.symm;have NS:=Lv hns.symm;have FB:=Lv (show nb≤1000000000 by rw [hnb];decide +kernel);have FS:=Lv (show ns≤1000000000 by rw [hns];decide +kernel);have BA:=Lv ba;have BB:=Lv bb;have G4:=Lv (Qz G3.o hg);have BT4:=Lv (BT.o.kept (Qz S3.o hg) (by simp));have PL:=Lv (plain_any (T:=triA) (B:=mkT syB) (S:=mkN syB) NT.o NB.o NS.o BT4.o ba bb ⟨FT.o,FB.o,FS.o⟩ triA_byt mkT_byt mkN_byt)
 have PN:=Lv (fun (V:World) (h:w4.grownBy V none)=>plain_any (w:=V) (T:=[]) (B:=mkT syB) (S:=mkN syB) (qt:=none) (ct:=0) rfl NB.o NS.o Qk.nil (ba.kept h (by simp)) (bb.kept h (by simp)) ⟨by decide,FB.o,FS.o⟩ (fun z hz=>by cases hz) mkT_byt mkN_byt);clear hnb hns ba bb c1 c2 c3 c4 hg RB S3 BT CT;go_upto_region 4 with (first
  |(go_at_call 24;refine PL.o.mono ?_;rintro e w5 ⟨⟨q5,c5,x5,qs5,qd5,rfl,hi⟩,hg⟩;rw [NT.o,NB.o,NS.o] at hi ⊢;have I5:=Lv (hi w5 none (Qq _ _) (by simp));have G5:=Lv (Qz G4.o hg);have GP:=Lv hg;clear hi hg)
  |(refine wpList_alloc rfl 48 _ rfl (img_alloc _) ?_;skip)
  |(refine Zx (h:=⟨2,0,0⟩) (s:=plSt nt nb ns) (sv:=.slice qs5 1 1) (dv:=.slice qd5 1 1) rfl (.tmp 7) (.tmp 31) rfl (by kernel_rfl) (by kernel_rfl) (heap_alloc_new _ _) ⟨_,_,_,rfl⟩ ⟨_,_,_,rfl⟩ ?_))
 obtain ⟨M,hM⟩:∃ M,M=w5.heap.size:=⟨_,rfl⟩
 obtain ⟨w6,hw6⟩:∃ V,V=(w5.alloc (.cells (Qf Hx.zero St.zero (.slice none 0 0) (.slice none 0 0)) 48 (0,0))).setRow w5.heap.size (Qf ⟨2,0,0⟩ (plSt nt nb ns) (.slice qs5 1 1) (.slice qd5 1 1)):=⟨_,rfl⟩
 have i6:Zp w6 M ⟨2,0,0⟩ (plSt nt nb ns) (.slice qs5 1 1) (.slice qd5 1 1):=by
  rw [hw6,hM];exact setRow_heap _ _ _ _ _ _ (heap_alloc_new w5 _)
 have g6:w5.grownBy w6 none:=by
  rw [hw6];exact Qw (grown1 _ _) (Za _ _) (Nat.le_refl _)
 rw [← hw6,← hM];have I6:=Lv i6;have G6:=Lv (Qz G5.o g6);have L5:(plB triA (mkT syB) (mkN syB)).length=4096 + nt + nb + ns:=by
  unfold plB;simp only [List.length_append,NT.o,NB.o,NS.o,List.length_replicate]
 have EA:Calls Tryz.prog 17 #[.slice q5 (4096 + nt + nb + ns) c5,imgV ⟨2,0,0⟩ (plSt nt nb ns) (.slice qs5 1 1) (.slice qd5 1 1)] w6 fun e w'=>(∃ q c,e=.returned (.tuple #[.slice q 1 c,.int .i64 0])∧Xk w' q exA)∧w6.grownBy w' none:=by
  have:=Gx (h:=⟨2,0,0⟩) (qd:=qd5) (cd:=1) (I5.o.grown g6) L5
  have r:=all_plainA (mkT syB) (mkN syB);rw [NT.o,NB.o,NS.o] at r;rw [r] at this;exact this.mono fun e w' ⟨⟨q,c,h1,h2,_,_⟩,h3⟩=>⟨⟨q,c,h1,h2⟩,h3⟩
 have EAH:=Lv EA;have P6:=Lv (Qz GP.o g6);have M5:=Lv (show w5.heap.size=M from hM.symm);clear hM hw6 i6 g6 L5 EA PL I5;go_upto_region 5 with (first
  |(refine Qi rfl (.tmp 7) rfl (by kernel_rfl) I6.o ?_)
  |(go_at_call 17;refine EAH.o.mono ?_;rintro e w7 ⟨⟨q7,c7,rfl,r7⟩,hg⟩))
 have GP7:=Lv (Qz G6.o hg);have I7:=Lv (I6.o.kept hg (by simp));have R7:=Lv r7;have PN7:=Lv (PN.o w7 (Qz P6.o hg));obtain ⟨g7,eq7,hc7⟩:=r7 0 _ rfl;have M7:g7≠M:=fun e=>by
  have h1:=hc7 0 (by decide);rw [e,Nat.zero_mul,Nat.zero_add,Qm (I6.o.kept hg (by simp))] at h1;cases h1
 subst eq7;have C7:=Lv hc7;have M7H:=Lv M7;have M7L:=Lv (show M < w7.heap.size from lt_of_block (I6.o.kept hg (by simp)));clear hg r7 EAH hc7 M7;go_upto_region 6 with (first
  |(go_at_call 24;refine PN7.o.mono ?_;rintro e w8 ⟨⟨q8,c8,x8,qs8,qd8,rfl,hi⟩,hg⟩;rw [NB.o,NS.o] at hi ⊢;simp only [List.length_nil] at hi ⊢;have I8:=Lv hi;have S8:=Lv (hg.size);have G8:=Lv hg;have J8:=Lv (I7.o.kept hg (by simp));clear hi hg)
  |(refine Zx (g:=M) (h:=⟨2,0,0⟩) (s:=plSt 0 nb ns) (sv:=.slice qs8 1 1) (dv:=.slice qd8 1 1) rfl (.tmp 7) (.tmp 43) rfl (by kernel_rfl) (by kernel_rfl) J8.o ⟨_,_,_,rfl⟩ ⟨_,_,_,rfl⟩ ?_))
 obtain ⟨w9,hw9⟩:∃ V,V=w8.setRow M (Qf ⟨2,0,0⟩ (plSt 0 nb ns) (.slice qs8 1 1) (.slice qd8 1 1)):=⟨_,rfl⟩
 have i9:Zp w9 M ⟨2,0,0⟩ (plSt 0 nb ns) (.slice qs8 1 1) (.slice qd8 1 1):=by rw [hw9];exact J8.o.put
 have g9:w8.grownBy w9 (some M):=by rw [hw9];exact Za _ _
 rw [← hw9];have I9:=Lv i9;have G9:=Lv (show w.grownBy w9 none from Qw (Qz GP7.o G8.o) g9 (by
  have:=G5.o.size
  have:=M5.o
  omega))
 have L9:(plB [] (mkT syB) (mkN syB)).length=4096 + nb + ns:=by
  unfold plB;simp only [List.length_append,NB.o,NS.o,List.length_replicate,List.length_nil,Nat.add_zero]
 have EB:Calls Tryz.prog 17 #[.slice q8 (4096 + nb + ns) c8,imgV ⟨2,0,0⟩ (plSt 0 nb ns) (.slice qs8 1 1) (.slice qd8 1 1)] w9 fun e w'=>(∃ q c,e=.returned (.tuple #[.slice q 1 c,.int .i64 0])∧Xk w' q exB)∧w9.grownBy w' none:=by
  have:=Gx (h:=⟨2,0,0⟩) (qd:=qd8) (cd:=1) (I8.o w9 (some M) g9 (fun a e=>by injection e with e;subst e;exact M7L.o)) L9
  have r:=all_plainB;rw [NB.o,NS.o] at r;rw [r] at this;exact this.mono fun e w' ⟨⟨q,c,h1,h2,_,_⟩,h3⟩=>⟨⟨q,c,h1,h2⟩,h3⟩
 have EBH:=Lv EB;have C9:=Lv (fun j (hj:j < 7)=>(by
  have h1:=C7.o j hj;have h2:(Q4 ([97],(⟨1,false,16,0,0,[]⟩:Ex)))[j]?=some ((Q4 ([97],(⟨1,false,16,0,0,[]⟩:Ex)))[j]'hj):=List.getElem?_eq_getElem _
  rw [h2] at h1;rw [h2];exact g9.cell (Qv G8.o h1) (fun e=>M7H.o (by injection e)):w9.cell? ⟨g7,0 * 7 + j,none⟩=(Q4 ([97],(⟨1,false,16,0,0,[]⟩:Ex)))[j]?))
 clear L9 EB hw9 i9 g9;go_upto_region 7 with (first
  |(refine Qi rfl (.tmp 7) rfl (by kernel_rfl) I9.o ?_)
  |(go_at_call 17;refine EBH.o.mono ?_;rintro e w10 ⟨⟨q10,c10,rfl,r10⟩,hg⟩))
 obtain ⟨g10,eq10,hc10⟩:=r10 0 _ rfl;subst eq10;have a0:=hc10 0 (by decide);have a1:=hc10 1 (by decide);have a2:=hc10 2 (by decide);have a3:=hc10 3 (by decide);have a4:=hc10 4 (by decide);have a5:=hc10 5 (by decide);have a6:=hc10 6 (by decide);have b0:=Qv hg ((C9.o 0 (by decide)).trans rfl:w9.cell? ⟨g7,0 * 7 + 0,none⟩=some (.string ⟨#[97]⟩));rw [Nat.zero_mul,Nat.zero_add] at a0 a1 a2 a3 a4 a5 a6 b0
 replace a0:w10.cell? ⟨g10,0,none⟩=some (.string ⟨#[98]⟩):=a0;replace a1:w10.cell? ⟨g10,1,none⟩=some (.int .i64 1):=a1;replace a2:w10.cell? ⟨g10,2,none⟩=some (.bool false):=a2;replace a3:w10.cell? ⟨g10,3,none⟩=some (.int .u64 32):=a3;replace a4:w10.cell? ⟨g10,4,none⟩=some (.int .u64 0):=a4;replace a5:w10.cell? ⟨g10,5,none⟩=some (.int .u64 0):=a5;replace a6:w10.cell? ⟨g10,6,none⟩=some (.string ⟨#[]⟩):=a6
 have G10:=Lv (Qz G9.o hg);clear hg hc10 r10 EBH;go_wp2;go_ret
 exact ⟨rfl,G10.o⟩
section
variable {w w':World} {h:Hx} {s:St} {sv dv:Value} {n hd:Int}
theorem Wi.at {l:List Sec} {qs:Option Addr} (r:Wi w qs l) {k:Nat} {x:Sec} (hx:l[k]?=some x):∃ g,qs=some ⟨g,0,none⟩∧w.cell? ⟨g,k * 6,none⟩=some (.string (strOfNums x.name))∧w.cell? ⟨g,k * 6 + 1,none⟩=some (.string (strOfNums x.seg))∧w.cell? ⟨g,k * 6 + 2,none⟩=some (.int .u64 x.addr) ∧
 w.cell? ⟨g,k * 6 + 3,none⟩=some (.int .u64 x.size)∧w.cell? ⟨g,k * 6 + 4,none⟩=some (.int .u64 x.off)∧w.cell? ⟨g,k * 6 + 5,none⟩=some (.int .i64 x.kind):=r k x hx
theorem rsections_any {l:List Sg} {qs:Option Addr} {cs:Nat} (k:Zt w s l qs cs) (hf:We s) (hfs:∀ x∈s.segs,x.fsize≤x.size) (hcap:∀ x∈l,x.seg.secs.length≤x.c) :
  Calls Tryz.prog 80 #[imgV h s (.slice qs l.length cs) dv] w fun e w'=>e=.returned (.int .i64 (if Mu s=true then 0 else 9))∧w.grownBy w' none:=by
 have gB:=grown1 w (.cells (Qf h s (.slice qs l.length cs) dv) 48);have aA:Zp (w.alloc (.cells (Qf h s (.slice qs l.length cs) dv) 48)) w.heap.size h s (.slice qs l.length cs) dv:=heap_alloc_new w _;obtain ⟨W,hW⟩:∃ W,w.alloc (.cells (Qf h s (.slice qs l.length cs) dv) 48)=W:=⟨_,rfl⟩
 obtain ⟨b,hb⟩:∃ b,w.heap.size=b:=⟨_,rfl⟩
 rw [hW] at gB aA;rw [hb] at aA;have RW:=Lv (fun (V:World) (hg:W.grownBy V none)=>(k.grown gB).row.grown hg);have RS:=Lv (fun (V:World) (hg:W.grownBy V none) (x:Sg) (hx:x∈l)=>((k.grown gB).grown hg).secs x hx);have G:=Lv gB;have AA:=Lv aA;have CP:=Lv k.cap;have FW:=Lv k.few;have MW:=Lv k.many;have CC:=Lv hcap;have FF:=Lv (fun (x:Sg) (hx:x∈l)=>k.fit hf hx)
 have FS:=Lv (fun (x:Sg) (hx:x∈l)=>hfs x.seg (by rw [← k.segs];exact List.mem_map_of_mem hx));have SO:=Lv (show Mu s=l.all (fun x=>x.seg.secs.all (Rb x.seg)) by unfold Mu;rw [← Mm k.segs]);obtain ⟨r,hr⟩:∃ r:Int,r=if Mu s=true then 0 else 9:=⟨_,rfl⟩
 rw [← hr];have HR:=Lv hr;have NO9:=Lv (fun (x:Sg) (hx:x∈l) (y:Sec) (hy:y∈x.seg.secs) (hs:Rb x.seg y=false)=>(show r=9 by
  rw [HR.o,if_neg];rw [SO.o,List.all_eq_true];intro hal;have h1:=hal x hx;rw [List.all_eq_true] at h1;have h2:=h1 y hy;rw [hs] at h2;cases h2))
 clear k gB aA hr hf hfs hcap;rw [show imgV h s (.slice qs l.length cs) dv=.agg (Qf h s (.slice qs l.length cs) dv) from rfl];unfold Qf at hW ⊢;go_enter Tryz.func80,Tryz.ntmps80;go_upto_region 1 with fail;clear hW hb;go_wp2;go_loopw [3] (fun i wr=>∃ k1:Nat,k1≤l.length∧i=.int .i64 k1∧W.grownBy wr none∧∀ j y,j < k1→l[j]?=some y→y.seg.secs.all (Rb y.seg)=true) (fun i _=>l.length - (intOf i).toNat)
 case atStart=>exact ⟨0,Nat.zero_le _,rfl,Qq _ _,fun j y hj=>by omega⟩
 case round =>
  obtain ⟨k1,hk,rfl,hg,hno⟩:=hrel;have NO:=Lv hno;have G3:=Lv hg;have c4:=(AA.o.kept hg (by simp)).c 4 (.slice qs l.length cs) rfl;have gl:=lt_of_block (AA.o.kept hg (by simp));by_cases hlt:k1 < l.length
  ·obtain ⟨x,hx⟩:∃ x,l[k1]?=some x:=⟨_,List.getElem?_eq_getElem hlt⟩
   obtain ⟨g,rfl,a0,a1,a2,a3,a4,a5,a6⟩:=(RW.o wr hg).at hx;have dl:decide ((k1:Int) < (l.length:Int))=true:=by simp;omega
   have hkl:(k1:Int) < (l.length:Int):=by omega
   have HX:=Lv hx;have hxm:=List.mem_of_getElem? hx
   have RSX:=Lv (fun (V:World) (hv:W.grownBy V none)=>RS.o V hv x hxm);have FX:=Lv (FF.o x hxm);have FSX:=Lv (FS.o x hxm);have MX:=Lv (MW.o x hxm);have CX:=Lv (CC.o x hxm);have N9:=Lv (NO9.o x hxm);obtain ⟨⟨nm,ad,sz,of,fs,pr,sl⟩,q1,c1⟩:=x;simp only [] at a0 a1 a2 a3 a4 a5 a6 RSX FX FSX MX CX N9;have hcp:l.length≤cs:=CP.o;have hfw:l.length≤9223372036854775807:=FW.o
   have g5:=Qz hg (grown1 wr (.cells #[.string (strOfNums nm),.int .u64 ad,.int .u64 sz,.int .u64 of,.int .u64 fs,.int .i64 pr,.slice q1 sl.length c1] 121));have p5:Zn (wr.alloc (.cells #[.string (strOfNums nm),.int .u64 ad,.int .u64 sz,.int .u64 of,.int .u64 fs,.int .i64 pr,.slice q1 sl.length c1] 121)) wr.heap.size ⟨nm,ad,sz,of,fs,pr,sl⟩ (.slice q1 sl.length c1):=heap_alloc_new wr _;obtain ⟨wd,hwd⟩:∃ wd,wr.alloc (.cells #[.string (strOfNums nm),.int .u64 ad,.int .u64 sz,.int .u64 of,.int .u64 fs,.int .i64 pr,.slice q1 sl.length c1] 121)=wd:=⟨_,rfl⟩
   obtain ⟨pd,hpd⟩:∃ pd,wr.heap.size=pd:=⟨_,rfl⟩
   rw [hwd] at g5 p5;rw [hpd] at p5;have P5:=Lv p5;have G5:=Lv g5;clear hg hx g5 hno p5 hxm;generalize l.length=N at *;go_wp2_with fail;clear hwd hpd;go_loopw [5] (fun i wx=>∃ m:Nat,m≤sl.length∧i=.int .i64 m∧wd.grownBy wx none∧∀ j y,j < m→sl[j]?=some y→Rb ⟨nm,ad,sz,of,fs,pr,sl⟩ y=true) (fun i _=>sl.length - (intOf i).toNat)
   case atStart=>exact ⟨0,Nat.zero_le _,rfl,Qq _ _,fun j y hj=>by omega⟩
   case round =>
    obtain ⟨m,hm,rfl,hg,hall⟩:=hrel;have AL:=Lv hall;have GH:=Lv hg;have g6:=Qz G5.o hg;have G6:=Lv g6;have P6:=P5.o.kept hg (by simp);have z6:=P6.c.2.2.2.2.2.2;have zl:=P6.lt;by_cases hmt:m < sl.length
    ·obtain ⟨y,hy⟩:∃ y,sl[m]?=some y:=⟨_,List.getElem?_eq_getElem hmt⟩
     obtain ⟨gs,hq1,b0,b1,b2,b3,b4,b5⟩:=(RSX.o wr g6).at hy;subst hq1;have hym:=List.mem_of_getElem? hy
     have dm:decide ((m:Int) < (sl.length:Int))=true:=by simp;omega
     have hml:(m:Int) < (sl.length:Int):=by omega
     have hcx:sl.length≤c1:=CX.o;have hmx:sl.length≤9223372036854775807:=MX.o;obtain ⟨⟨f1,f2⟩,f3,f4,f5,f6⟩:=(⟨FX.o.1.addr,FX.o.1.size,FX.o.1.fsize,FX.o.1.off,FX.o.1.prot,trivial⟩:U64 ad∧U64 sz∧U64 fs∧U64 of∧_∧True)
     have SF:=FX.o.2 y hym;have NY:=Lv (N9.o y hym);have HY:=Lv hy;obtain ⟨sn,ss,sa,sb,so,sk⟩:=y;obtain ⟨⟨h1,h2⟩,h3,h4⟩:=(⟨SF.addr,SF.size,SF.off⟩:U64 sa∧U64 sb∧U64 so)
     simp only [] at b0 b1 b2 b3 b4 b5;have g7:=grown1 wr (.cells #[.string (strOfNums sn),.string (strOfNums ss),.int .u64 sa,.int .u64 sb,.int .u64 so,.int .i64 sk] 118);have q7:Rv (wr.alloc (.cells #[.string (strOfNums sn),.string (strOfNums ss),.int .u64 sa,.int .u64 sb,.int .u64 so,.int .i64 sk] 118)) wr.heap.size ⟨sn,ss,sa,sb,so,sk⟩:=heap_alloc_new wr _;have p7:=P6.kept g7 (by simp);obtain ⟨wx,hwx⟩:∃ wx,wr.alloc (.cells #[.string (strOfNums sn),.string (strOfNums ss),.int .u64 sa,.int .u64 sb,.int .u64 so,.int .i64 sk] 118)=wx:=⟨_,rfl⟩
     obtain ⟨px,hpx⟩:∃ px,wr.heap.size=px:=⟨_,rfl⟩
     rw [hwx] at g7 q7 p7;rw [hpx] at q7;have GX:=Lv (Qz hg g7);have GY:=Lv (Qz g6 g7);have Q7:=Lv q7;have P7:=Lv p7;have SOK:=Lv (show Rb ⟨nm,ad,sz,of,fs,pr,sl⟩ ⟨sn,ss,sa,sb,so,sk⟩=if sa < ad then false else if sk=1 then Zq (sa - ad) sb sz else Zq (sa - ad) sb fs && (so == (of + (sa - ad)) % 18446744073709551616) from rfl);have FSZ:=Lv (show fs≤sz from FSX.o)
     clear hg hall g6 P6 hy hym SF g7 q7 p7;generalize sl.length=M at *;go_upto_region 9 with fail;clear hwx hpx z6 zl;obtain ⟨y0,y1,y2,y3,y4,y5,y6⟩:=P7.o.c;obtain ⟨t0,t1,t2,t3,t4,t5⟩:=Q7.o.c;have yl:=P7.o.lt;have tl:=Q7.o.lt;simp only [] at y0 y1 y2 y3 y4 y5 t0 t1 t2 t3 t4 t5;by_cases hlow:sa < ad
     ·have NEQ:=NY.o (by rw [SOK.o,if_pos hlow])
      have d1:decide (sa < ad)=true:=by simpa using hlow
      clear h1 h2 h3 h4 f1 f2 f3 f4 f5 f6 SOK hlow;go_wp2;go_ret
      exact ⟨Ql NEQ.symm,Qz G.o GY.o⟩
     ·rw [if_neg hlow] at SOK
      have d1:decide (sa < ad)=false:=by simpa using hlow
      have hF:U64 (sa - ad):=⟨by omega,by omega⟩
      have m1:IntKind.u64.wrap (sa - ad)=sa - ad:=by rw [IntKind.wrap_u64];have:=hF.1;have:=hF.2;omega
      have m2:(sa - ad) % 18446744073709551616=sa - ad:=by have:=hF.1;have:=hF.2;omega
      have m3:((of + sa) % 18446744073709551616 - ad) % 18446744073709551616=(of + (sa - ad)) % 18446744073709551616:=by omega
      obtain ⟨T,hT⟩:∃ T,(of + (sa - ad)) % 18446744073709551616=T:=⟨_,rfl⟩
      obtain ⟨T1,hT1⟩:∃ T1,(of + sa) % 18446744073709551616=T1:=⟨_,rfl⟩
      have m4:IntKind.u64.wrap (of + sa)=T1:=by rw [IntKind.wrap_u64];exact hT1
      rw [hT1,hT] at m3;have m5:IntKind.u64.wrap (T1 - ad)=T:=by rw [IntKind.wrap_u64];exact m3
      rw [hT] at SOK;obtain ⟨F,hFe⟩:∃ F,sa - ad=F:=⟨_,rfl⟩
      rw [hFe] at hF m1 m2 SOK;have hFe2:=Lv hFe;have W1:=Lv (fun w=>J9 F sb sz hF h3 f3 w);have W2:=Lv (fun w=>J9 F sb fs hF h3 f4 w);have IMP:=Lv (show Zq F sb fs=true→Zq F sb sz=true from fun h=>by unfold Zq at h ⊢;have:=FSZ.o;simp at h ⊢;omega);obtain ⟨v1,hv1⟩:∃ v,v=Zq F sb sz:=⟨_,rfl⟩
      obtain ⟨v2,hv2⟩:∃ v,v=Zq F sb fs:=⟨_,rfl⟩
      rw [← hv1] at W1 SOK IMP;rw [← hv2] at W2 SOK IMP;clear h1 h2 h3 h4 f1 f2 f3 f4 f5 f6 hlow hF hv1 hv2 hT hT1;cases v1
      ·have NEQ:=NY.o (by
        rw [SOK.o];by_cases e:sk=1
        ·rw [if_pos e]
        ·rw [if_neg e]
         cases v2
         ·rfl
         ·exact absurd (IMP.o rfl) (by decide))
       go_wp2_with fail;refine (W1.o _).mono ?_
       rintro e w8 ⟨rfl,rfl⟩;go_wp2;go_ret
       exact ⟨Ql NEQ.symm,Qz G.o GY.o⟩
      ·by_cases hk1:sk=1
       ·have YES:=SOK.o.trans (if_pos hk1)
        have d2:(sk != 1)=false:=by simp;omega
        clear hk1 SOK;go_wp2_with fail;refine (W1.o _).mono ?_
        rintro e w8 ⟨rfl,rfl⟩;go_wp2;go_roundw
        case rel =>
         refine ⟨m + 1,hmt,by go_num,GX.o,fun j y hj hjy=>?_⟩;rcases Nat.lt_or_ge j m with e1 | e1
         ·exact AL.o j y e1 hjy
         ·obtain rfl:j=m:=by omega
          rw [HY.o] at hjy;injection hjy with hjy;rw [← hjy];exact YES
        case measure=>simp [intOf];omega
       ·rw [if_neg hk1] at SOK
        have d2:(sk != 1)=true:=by simp;omega
        clear hk1;cases hso:(so == T)
        ·have hsn:(so != T)=true:=by unfold bne;rw [hso];rfl
         rw [hso,Bool.and_false] at SOK;have NEQ:=NY.o SOK.o;go_wp2_with fail;refine (W1.o _).mono ?_
         rintro e w8 ⟨rfl,rfl⟩;go_wp2;go_ret
         exact ⟨Ql NEQ.symm,Qz G.o GY.o⟩
        ·have hsn:(so != T)=false:=by unfold bne;rw [hso];rfl
         rw [hso,Bool.and_true] at SOK;cases v2
         ·have NEQ:=NY.o SOK.o
          go_wp2_with fail;refine (W1.o _).mono ?_
          rintro e w8 ⟨rfl,rfl⟩;go_wp2_with fail;refine (W2.o _).mono ?_
          rintro e w8 ⟨rfl,rfl⟩;go_wp2;go_ret
          exact ⟨Ql NEQ.symm,Qz G.o GY.o⟩
         ·have YES:=SOK.o
          go_wp2_with fail;refine (W1.o _).mono ?_
          rintro e w8 ⟨rfl,rfl⟩;go_wp2_with fail;refine (W2.o _).mono ?_
          rintro e w8 ⟨rfl,rfl⟩;go_wp2;go_roundw
          case rel =>
           refine ⟨m + 1,hmt,by go_num,GX.o,fun j y hj hjy=>?_⟩;rcases Nat.lt_or_ge j m with e1 | e1
           ·exact AL.o j y e1 hjy
           ·obtain rfl:j=m:=by omega
            rw [HY.o] at hjy;injection hjy with hjy;rw [← hjy];exact YES
          case measure=>simp [intOf];omega
    ·have hm':m=sl.length:=by omega
     have dm:decide ((m:Int) < (sl.length:Int))=false:=by simp;omega
     have HALL:sl.all (Rb ⟨nm,ad,sz,of,fs,pr,sl⟩)=true:=by
      rw [List.all_eq_true];intro x hx;obtain ⟨j,hj,rfl⟩:=List.getElem_of_mem hx;exact hall j _ (by omega) (List.getElem?_eq_getElem hj)
     have HQ:=Lv HALL;clear hg hall HALL g6 P6;generalize sl.length=M at *;go_wp2;go_roundw
     case rel =>
      refine ⟨k1 + 1,hlt,by go_num,G6.o,fun j y hj hy=>?_⟩;rcases Nat.lt_or_ge j k1 with h1 | h1
      ·exact NO.o j y h1 hy
      ·obtain rfl:j=k1:=by omega
       rw [HX.o] at hy;injection hy with hy;rw [← hy];exact HQ.o
     case measure=>simp [intOf];omega
  ·have hk':k1=l.length:=by omega
   subst hk';have dl:decide ((l.length:Int) < (l.length:Int))=false:=by simp
   have HF:r=0:=by
    rw [HR.o,if_pos];rw [SO.o,List.all_eq_true];intro y hy;obtain ⟨j,hj,rfl⟩:=List.getElem_of_mem hy;exact hno j _ hj (List.getElem?_eq_getElem hj)
   clear hg hno;generalize l.length=N at *;go_wp2;go_ret
   exact ⟨Ql HF.symm,Qz G.o G3.o⟩
end
section
variable {w w':World} {h:Hx} {s:St} {sv dv:Value} {n hd:Int}
def FirstOf (l:List Sg) (i:Nat) (F:Int):Prop:=(F=-1∧∀ j y,j < i→l[j]?=some y→Jj y.seg=false)∨∃ (a:Nat) (x:Sg),F=(a:Int)∧a < i∧l[a]?=some x∧Jj x.seg=true∧∀ j y,j < a→l[j]?=some y→Jj y.seg=false
structure Mv (l:List Sg) (n:Int) (i:Nat):Prop where
 prot:∀ j y,j < i→l[j]?=some y→Yf y.seg=true
 size:∀ j y,j < i→l[j]?=some y→Yz y.seg n=true
 rise:∀ a b x y,a < b→b < i→l[a]?=some x→l[b]?=some y→Hb x.seg y.seg
theorem Mv.zero (l:List Sg) (n:Int):Mv l n 0:=⟨fun j y h=>by omega,fun j y h=>by omega,fun a b x y h1 h2=>by omega⟩
theorem Mv.next {l:List Sg} {n:Int} {i:Nat} {x:Sg} (f:Mv l n i) (hx:l[i]?=some x) (h1:Yf x.seg=true) (h2:Yz x.seg n=true) (h3:∀ a y,a < i→l[a]?=some y→Hb y.seg x.seg):Mv l n (i + 1):=by
 refine ⟨fun j y hj hy=>?_,fun j y hj hy=>?_,fun a b y z ha hb hy hz=>?_⟩
 ·rcases Nat.lt_or_ge j i with e | e
  ·exact f.prot j y e hy
  ·obtain rfl:j=i:=by omega
   rw [hx] at hy;injection hy with hy;rw [← hy];exact h1
 ·rcases Nat.lt_or_ge j i with e | e
  ·exact f.size j y e hy
  ·obtain rfl:j=i:=by omega
   rw [hx] at hy;injection hy with hy;rw [← hy];exact h2
 ·rcases Nat.lt_or_ge b i with e | e
  ·exact f.rise a b y z ha e hy hz
  ·obtain rfl:b=i:=by omega
   rw [hx] at hz;injection hz with hz;rw [← hz];exact h3 a y ha hy
theorem segs_all {l:List Sg} (hl:l.map Sg.seg=s.segs) (f:Mv l n l.length):Yp s n hd=Gn s.segs hd:=by
 have e1:s.segs.all Yf=true:=by
  rw [← Mm hl,List.all_eq_true];intro x hx;obtain ⟨j,hj,rfl⟩:=List.getElem_of_mem hx;exact f.prot j _ hj (List.getElem?_eq_getElem hj)
 have e2:s.segs.all (fun x=>Yz x n)=true:=by
  rw [← Mm hl (fun x=>Yz x n),List.all_eq_true];intro x hx;obtain ⟨j,hj,rfl⟩:=List.getElem_of_mem hx;exact f.size j _ hj (List.getElem?_eq_getElem hj)
 have e3:decide (s.segs.Pairwise Hb)=true:=by
  rw [decide_eq_true_eq,← hl,List.pairwise_map,List.pairwise_iff_getElem];intro i j hi hj hij;exact f.rise i j _ _ hij hj (List.getElem?_eq_getElem hi) (List.getElem?_eq_getElem hj)
 unfold Yp;rw [e1,e2,e3];rfl
theorem segs_prot {l:List Sg} (hl:l.map Sg.seg=s.segs) {x:Sg} (hx:x∈l) (h:Yf x.seg=false):Yp s n hd=false:=by
 have e1:s.segs.all Yf=false:=by
  rw [← Mm hl,List.all_eq_false];exact ⟨x,hx,by rw [h];decide⟩
 unfold Yp;rw [e1];rfl
theorem segs_size {l:List Sg} (hl:l.map Sg.seg=s.segs) {x:Sg} (hx:x∈l) (h:Yz x.seg n=false):Yp s n hd=false:=by
 have e1:s.segs.all (fun x=>Yz x n)=false:=by
  rw [← Mm hl (fun x=>Yz x n),List.all_eq_false];exact ⟨x,hx,by rw [h];decide⟩
 unfold Yp;rw [e1,Bool.and_false];rfl
theorem segs_rise {l:List Sg} (hl:l.map Sg.seg=s.segs) {a b:Nat} {x y:Sg} (hab:a < b) (hx:l[a]?=some x) (hy:l[b]?=some y) (h:¬ Hb x.seg y.seg):Yp s n hd=false:=by
 have e1:decide (s.segs.Pairwise Hb)=false:=by
  rw [decide_eq_false_iff_not,← hl,List.pairwise_map,List.pairwise_iff_getElem];intro hp;obtain ⟨ha,rfl⟩:=List.getElem?_eq_some_iff.1 hx;obtain ⟨hb,rfl⟩:=List.getElem?_eq_some_iff.1 hy;exact h (hp a b ha hb hab)
 unfold Yp;rw [e1];simp
theorem front_none {l:List Sg} (hl:l.map Sg.seg=s.segs) (h:∀ j y,j < l.length→l[j]?=some y→Jj y.seg=false):Gn s.segs hd=false:=by
 have:s.segs.find? Jj=none:=by
  rw [← hl,List.find?_eq_none];intro y hy;obtain ⟨z,hz,rfl⟩:=List.mem_map.1 hy;obtain ⟨j,hj,rfl⟩:=List.getElem_of_mem hz;rw [h j _ hj (List.getElem?_eq_getElem hj)];simp
 unfold Gn;rw [this]
theorem front_some {l:List Sg} (hl:l.map Sg.seg=s.segs) {k:Nat} {x:Sg} (h:∀ j y,j < k→l[j]?=some y→Jj y.seg=false) (hx:l[k]?=some x) (hp:Jj x.seg=true) :
  Gn s.segs hd=((x.seg.off == 0) && decide (hd≤x.seg.fsize) && (x.seg.prot % 2 == 1) && !wrOk x.seg):=by
 have:s.segs.find? Jj=some x.seg:=by
  rw [← hl,List.find?_map];obtain ⟨hk,he⟩:=List.getElem?_eq_some_iff.1 hx
  have:l.find? (Jj ∘ Sg.seg)=some x:=by
   rw [List.find?_eq_some_iff_getElem];exact ⟨hp,k,hk,he,fun j hj=>by show (!Jj _)=true;rw [h j _ hj (List.getElem?_eq_getElem (Nat.lt_trans hj hk))];rfl⟩
  rw [this];rfl
 unfold Gn;rw [this]
end
end Go.Proofs.YtkmbkpoclhbmgaaGreat
