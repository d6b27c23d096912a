/- Parts of the proof, put together: RMk. No condition beyond those that each part names. -/
import Derived.Deep.RegionHeld
import Derived.Lib.QuietBelow
import Derived.Test.YtkmbkpoclhbmgaaGreatPA8
set_option maxRecDepth 20000
set_option maxHeartbeats 6400000
namespace Go.Proofs.YtkmbkpoclhbmgaaGreat
open Go.RowKit
variable {w w' W V:World}
section
variable {P:Program} {md:Region.Mode} {ops:Array Oper} {Q:Exit → Act → World → Prop} {S:World → Prop}
theorem tkY {i:Nat} {oi:Oper} {v:Value} {fuel:Nat} {listed:Array Bool} {a:Act} {w:World} (hi:ops[i]? = some oi) (hb:(Region.noSelect ops&&(Region.free md ops listed i&&(Region.ready md ops listed).contains i)) = true) (hQ:∀ c a w,Q (.panic c) (a.put oi.dst v) w → Q (.panic c) a w) (hw:Region.wanted oi (yielded ops a.tmps) = true) (hy:∀ W,S W → (execOp a.eval oi).run P W = .ok (Next.value v) W) (hS:S w) (h:wpAnyH P md ops Q S fuel (listed.setIfInBounds i true) (a.put oi.dst v) w):wpAnyH P md ops Q S (fuel+1) listed a w:=by
 rw [Bool.and_eq_true,Bool.and_eq_true] at hb
 exact wpAnyH_take hi hb.1 hb.2.1 hb.2.2 hQ (Or.inl ⟨hw,hy⟩) hS h
theorem tkN {i:Nat} {oi:Oper} {fuel:Nat} {listed:Array Bool} {a:Act} {w:World} (hi:ops[i]? = some oi) (hb:(Region.noSelect ops&&(Region.free md ops listed i&&(Region.ready md ops listed).contains i)) = true) (hQ:∀ c a w,Q (.panic c) (a.put oi.dst undef) w → Q (.panic c) a w) (hw:Region.wanted oi (yielded ops a.tmps) = false) (hS:S w) (h:wpAnyH P md ops Q S fuel (listed.setIfInBounds i true) (a.put oi.dst undef) w):wpAnyH P md ops Q S (fuel+1) listed a w:=by
 rw [Bool.and_eq_true,Bool.and_eq_true] at hb
 exact wpAnyH_take hi hb.1 hb.2.1 hb.2.2 hQ (Or.inr ⟨hw,rfl⟩) hS h
end
section
structure RmO (w w':World) (D:Out) (e:Ending):Prop where
 ex:∃ (E:Int) (B:List Int) (q:Option Addr) (c:Nat),e=.returned (.tuple #[.slice q B.length c,.int .i64 E])∧MkIs D E B∧w'.ownsRow w.heap.size 5 1 (.slice q B.length c) B.length (B.map (Value.int .u8))
 grown:w.grownBy w' none
theorem RmO.no {D:Out} {E:Int} (h:mkE0 D=E) (h0:E≠0) (hg:w.grownBy w' none):RmO w w' D (.returned (.tuple #[.slice none 0 0,.int .i64 E])) :=
 ⟨⟨E,[],none,0,rfl,mkE0_no h h0,World.ownsRow_nil _ _ _ _⟩,hg⟩
structure RmA (w wr:World) (D:Out) (n:Nat) (v4:Value):Prop where
 ex:∃ k:Nat,k≤n∧v4=.int .i64 (k:Int)∧∀ i y,i < k→D[i]?=some y→mayE y.1 y.2=true
 grown:w.grownBy wr none
structure RmB (w wr:World) (R:Out) (n:Nat) (v5:Value):Prop where
 ex:∃ i:Nat,1≤i∧i≤n∧v5=.int .i64 (i:Int)∧∀ j a b,j + 1 < i→R[j]?=some a→R[j + 1]?=some b→a.1≠b.1
 grown:w.grownBy wr none
theorem up_of {R:Out} (hb:∀ y∈R,Byt y.1) (hs:Srt R) (hd:∀ j a b,R[j]?=some a→R[j + 1]?=some b→a.1≠b.1):Up R:=by
 induction R with
 | nil=>exact List.Pairwise.nil
 | cons a R ih =>
  have h1:=ih (fun y hy=>hb y (List.mem_cons_of_mem _ hy)) (List.pairwise_cons.1 hs).2 (fun j x y hx hy=>hd (j + 1) x y (by simpa using hx) (by simpa using hy));refine List.pairwise_cons.2 ⟨fun z hz=>?_,h1⟩;cases R with
  | nil=>cases hz
  | cons b R =>
   have hab:nmLt a.1 b.1=true:=by
    have h3:=(List.pairwise_cons.1 hs).1 b (List.mem_cons_self ..);unfold leX at h3;rw [Jv (hb a (List.mem_cons_self ..)),Jv (hb b (by simp))] at h3;cases hc:nmLt a.1 b.1 with
    | true=>rfl
    | false=>exact absurd (Vy hc h3) (hd 0 a b rfl rfl)
   rcases List.mem_cons.1 hz with e | e
   ·rw [e];exact hab
   ·exact J0 hab ((List.pairwise_cons.1 h1).1 z e)
theorem dup_no {R D:Out} (hp:R.Perm D) {j:Nat} {a b:List Int × Ex} (ha:R[j]?=some a) (hb:R[j + 1]?=some b) (he:a.1=b.1):¬ D.Pairwise fun a b=>a.1≠b.1:=fun h=>by
 have h2:=hp.symm.pairwise h (fun h e=>h e.symm);obtain ⟨h3,e3⟩:=List.getElem?_eq_some_iff.1 ha;obtain ⟨h4,e4⟩:=List.getElem?_eq_some_iff.1 hb
 have:=List.pairwise_iff_getElem.1 h2 j (j + 1) h3 h4 (by omega)
 rw [e3,e4] at this;exact this he
set_option maxHeartbeats 40000000 in
theorem refMake_any {D:Out} {n:Nat} (hn:D.length=n) (hfit:Pv D) (hbig:n≤1000000) (hk1:∀ y∈D,y.2.kind=1∧y.2.weak=false) (hlen:∀ y∈D,y.1.length≤9223372036854775807∧y.2.other.length≤9223372036854775807) {q:Option Addr} {c:Nat} (hc:n≤c) (hcm:c≤9223372036854775807) (h:Xt w q D) :
  Calls Tryz.prog 11 #[.slice q n c] w fun e w'=>RmO w w' D e:=by
 have HN:=Lv hn;have HF:=Lv hfit;have HL:=Lv hlen;have HK1:=Lv hk1;have HE:=Lv h;clear hn hfit hlen h hk1;go_enter Tryz.func11,Tryz.ntmps11;go_wp2;go_loopw [4] (fun v4 wr=>RmA w wr D n v4) (fun v4 _=>n - (intOf v4).toNat)
 case atStart=>exact ⟨⟨0,Nat.zero_le _,rfl,fun i y h=>by omega⟩,Qq _ _⟩
 case round =>
  obtain ⟨⟨k,hk,rfl,hmay⟩,hg⟩:=hrel;have G:=Lv hg;have MY:=Lv hmay;clear hmay;by_cases hlt:k < n
  ·obtain ⟨y,hy⟩:∃ y,D[k]?=some y:=⟨_,List.getElem?_eq_getElem (by rw [HN.o];exact hlt)⟩
   obtain ⟨ga,oa,rfl,a0,a1,a2,a3,a4,a5,a6⟩:=(HE.o.grown hg).at hy;have hym:=List.mem_of_getElem? hy
   have hyl:=HL.o y hym;have M:=Lv (refMay_any (HF.o.name y hym) (HF.o.other y hym) hyl.1 hyl.2 wr);have dl:decide ((k:Int) < (n:Int))=true:=by simp;omega
   have hkI:(k:Int) < (n:Int):=by omega
   obtain ⟨b,hb⟩:∃ b,b=mayE y.1 y.2:=⟨_,rfl⟩
   rw [← hb] at M;have HB:=Lv hb;have HY:=Lv hy;unfold exV Zd at M;clear hg hy hym hyl hb;go_wp2_with fail;refine M.o.mono ?_
   rintro e w2 ⟨rfl,hg⟩;have G2:=Lv (Qz G.o hg);clear hg M a0 a1 a2 a3 a4 a5 a6;cases b
   ·have EE:=Lv (show mkE0 D=2 by
     unfold mkE0;rw [if_neg];intro h;unfold Wz at h;rw [List.all_eq_true] at h
     have:=h y (List.mem_of_getElem? HY.o)
     rw [← HB.o] at this;cases this)
    go_wp2;go_ret2
    exact RmO.no EE.o (by decide) G2.o
   ·go_wp2
    go_roundw
    case rel=>exact ⟨⟨k + 1,hlt,by go_num,fun i z hi hz=>by
     rcases Nat.lt_or_ge i k with h | h
     ·exact MY.o i z h hz
     ·obtain rfl:i=k:=by omega
      rw [HY.o] at hz;injection hz with hz;rw [← hz];exact HB.o.symm⟩,G2.o⟩
    case measure=>simp [intOf];omega
  ·have hkn:n=k:=by omega
   subst hkn;have dl:decide ((n:Int) < (n:Int))=false:=by simp
   have ALL:=Lv (show Wz D=true from by
    unfold Wz;rw [List.all_eq_true];intro y hy;obtain ⟨i,hi,rfl⟩:=List.getElem_of_mem hy;exact MY.o i _ (by rw [← HN.o];exact hi) (List.getElem?_eq_getElem hi))
   clear hk hlt MY;by_cases h4 : 4096 < n
   ·have d4:decide ((4096:Int) < (n:Int))=true:=by simp;omega
    have EE:=Lv (show mkE0 D=11 by unfold mkE0;rw [if_pos ALL.o,if_pos (by rw [HN.o];exact h4)]);clear h4;go_wp2;go_ret2
    exact RmO.no EE.o (by decide) G.o
   have d4:decide ((4096:Int) < (n:Int))=false:=by simp;omega
   by_cases h0:n=0
   ·have d0:(((n:Nat):Int) == 0)=true:=by rw [h0];rfl
    have EE:=Lv (show RmO w wr D (.returned (.tuple #[.slice none 0 0,.int .i64 0])) from ⟨⟨0,[],none,0,rfl,by
     have:D=[]:=List.eq_nil_of_length_eq_zero (by rw [HN.o];exact h0)
     rw [this];exact mkIs_nil,World.ownsRow_nil _ _ _ _⟩,hg⟩)
    clear h0 hg;go_wp2;go_ret2
    exact EE.o
   have d0:(((n:Nat):Int) == 0)=false:=by simp;omega
   have SO:=Lv (Gh n D q c wr HN.o (by omega) hc hcm (HE.o.grown hg));clear hg;go_wp2_with fail;refine SO.o.mono ?_
   rintro e w2 ⟨⟨R,v,rfl,ho,hp,hs⟩,hg⟩;have G2:=Lv (Qz G.o hg);have hRn:R.length=n:=by rw [hp.length_eq,HN.o]
   rw [hRn] at ho;obtain ⟨q2,c2,rfl⟩:=Qp ho;have R2:=Lv (Xk.of ho).exs;have PS:=Lv (And.intro hp hs);have HKR:=Lv (fun y hy=>HK1.o y (hp.mem_iff.1 hy):∀ y∈R,y.2.kind=1∧y.2.weak=false);have RN:=Lv hRn;have RB:=Lv (fun y hy=>HF.o.name y (hp.mem_iff.1 hy):∀ y∈R,Byt y.1);clear ho hp hs hg hRn SO;go_wp2;go_loopw [5] (fun v5 wl=>RmB w2 wl R n v5) (fun v5 _=>n + 1 - (intOf v5).toNat)
   case atStart=>exact ⟨⟨1,Nat.le_refl _,by omega,rfl,fun j a b h=>by omega⟩,Qq _ _⟩
   case round =>
    obtain ⟨⟨i,h1,hi,rfl,hno⟩,hg⟩:=hrel;have G3:=Lv hg;have NO:=Lv hno;clear hno;by_cases hlt:i < n
    ·obtain ⟨k,rfl⟩:∃ k,i=k + 1:=⟨i - 1,by omega⟩
     obtain ⟨a,ha⟩:∃ a,R[k]?=some a:=⟨_,List.getElem?_eq_getElem (by rw [RN.o];omega)⟩
     obtain ⟨b,hb⟩:∃ b,R[k + 1]?=some b:=⟨_,List.getElem?_eq_getElem (by rw [RN.o];exact hlt)⟩
     obtain ⟨g,o,rfl,c0⟩:=(R2.o.grown hg).name ha;obtain ⟨g',o',e,c1⟩:=(R2.o.grown hg).name hb;injection e with e;injection e with e1 e2 _;subst e1 e2;have dl:decide (((k + 1:Nat):Int) < (n:Int))=true:=by simp;omega
     have dl2:decide ((k:Int) + 1 < (n:Int))=true:=by simp;omega
     have hk1:(k:Int) + 1 < (n:Int):=by omega
     have hk0:(k:Int) < (n:Int):=by omega
     have hcan:(k:Int) + 1 - 1=(k:Int):=by omega
     have hnm:=Mx (RB.o b (List.mem_of_getElem? hb)) (RB.o a (List.mem_of_getElem? ha));have HA:=Lv ha;have HBB:=Lv hb;clear ha hb hg;by_cases he:b.1=a.1
     ·rw [decide_eq_true he] at hnm
      have EE:=Lv (show mkE0 D=21 by
       unfold mkE0;rw [if_pos ALL.o,if_neg (by rw [HN.o];omega),if_neg (dup_no PS.o.1 HA.o HBB.o he.symm)])
      clear he;go_wp2;go_quiet (fail);go_wp2;go_ret2
      exact RmO.no EE.o (by decide) (Qz G2.o (Qj G3.o _))
     ·rw [decide_eq_false he] at hnm
      have NO2:=Lv (show ∀ j x y,j + 1 < k + 1 + 1→R[j]?=some x→R[j + 1]?=some y→x.1≠y.1 from fun j x y hj hx hy=>by
       rcases Nat.lt_or_ge (j + 1) (k + 1) with h | h
       ·exact NO.o j x y h hx hy
       ·obtain rfl:j=k:=by omega
        rw [HA.o] at hx;rw [HBB.o] at hy;injection hx with hx;injection hy with hy;rw [← hx,← hy];exact fun e=>he e.symm)
      clear he NO;go_wp2;go_quiet (fail);go_wp2;go_roundw
      case rel=>exact ⟨⟨k + 1 + 1,by omega,by omega,by go_num,NO2.o⟩,Qj G3.o _⟩
      case measure=>simp [intOf];omega
    ·have hin:n=i:=by omega
     subst hin;have dl:decide ((n:Int) < (n:Int))=false:=by simp
     have UP:=Lv (show Up R from up_of RB.o PS.o.2 (fun j a b ha hb=>NO.o j a b (by
      obtain ⟨h2,_⟩:=List.getElem?_eq_some_iff.1 hb;rw [RN.o] at h2;exact h2) ha hb))
     have E0:=Lv (show mkE0 D=0 by
      unfold mkE0;rw [if_pos ALL.o,if_neg (by rw [HN.o];omega),if_pos (UP.o.apart PS.o.1)])
     have RNE:=Lv (show R≠[] from fun e=>by have:=RN.o;rw [e] at this;simp at this;omega);have OK:=Lv (fun y hy=>HF.o.ok ALL.o y (PS.o.1.mem_iff.1 hy):∀ y∈R,Ge y.1∧ExOk y.2);have PF:=Lv (planF RNE.o UP.o OK.o (by rw [RN.o];omega));have RO:=Lv (rounds_ok PF.o.ok PF.o.few);have DONE:=Lv (fun (t:Nat) (h:Qs (plan 257 R 0 0) (t + 1)=Qs (plan 257 R 0 0) t)=>(show (1048576 < (layB (Qs (plan 257 R 0 0) t) (plan 257 R 0 0)).length→MkIs D 11 [])∧((layB (Qs (plan 257 R 0 0) t) (plan 257 R 0 0)).length≤1048576→MkIs D 0 (layB (Qs (plan 257 R 0 0) t) (plan 257 R 0 0))) from by
      have hD:D≠[]:=fun e=>by have h:=HN.o;rw [e] at h;simp at h;omega
      exact ⟨fun hl=>⟨fun h0=>absurd E0.o h0,fun e=>absurd e hD,fun _ _=>⟨R,t,PS.o.1,UP.o,h,fun _=>⟨rfl,rfl⟩,fun h2=>absurd h2 (by have:(Tp R t).length=(layB (Qs (plan 257 R 0 0) t) (plan 257 R 0 0)).length:=rfl;omega)⟩⟩,
       fun hl=>⟨fun h0=>absurd E0.o h0,fun e=>absurd e hD,fun _ _=>⟨R,t,PS.o.1,UP.o,h,fun h2=>absurd h2 (by have:(Tp R t).length=(layB (Qs (plan 257 R 0 0) t) (plan 257 R 0 0)).length:=rfl;omega),fun _=>⟨rfl,rfl⟩⟩⟩⟩))
     have KN:=Lv (knots_any (w:=wr) (c:=c2) RN.o (by omega) RNE.o UP.o (fun y hy=>⟨(OK.o y hy).1.byt,(OK.o y hy).1.len⟩) (R2.o.grown hg));obtain ⟨N,hN⟩:∃ N,N=Qe 257 R 0:=⟨_,rfl⟩
     obtain ⟨P,hP⟩:∃ P,P=plan 257 R 0 0:=⟨_,rfl⟩
     rw [← hN] at PF KN;rw [← hP] at PF RO DONE;obtain ⟨m,hm⟩:∃ m,m=N.length:=⟨_,rfl⟩
     have NM:=Lv hm.symm;have PM:=Lv (PF.o.len.symm.trans hm.symm);have MF:=PF.o.few;rw [PM.o] at MF;have M1 : 1≤m:=by rw [hm,hN];simp [Qe]
     clear hN hP hm hg;obtain ⟨ii,hii,hi0,hi1,hi2⟩:=info_parts (show (Tryz.prog.info? 80).map (fun i=>(i.zero,i.size,i.bytes))=some (some (.slice none 0 0),1,24) from by kernel_rfl);go_wp2_with fail;refine KN.o.mono ?_
     rintro e w4 ⟨⟨qn,cn,rfl,on⟩,g4⟩;rw [NM.o] at on ⊢;have G4:=Lv (Qz (Qz G2.o G3.o) g4);have R4:=Lv (R2.o.grown (Qz G3.o g4));have NS:=Lv (Sz.of on);have NC:=Gd on;clear on g4 KN;go_wp2_with (at_make;refine wpList_make_full _ rfl _ _ 79 rfl w4.heap.size 80 ii (.slice none 0 0) 1 Tryz.underlying79 hii hi0 hi1 .i64 .i64 _ _ m rfl rfl rfl rfl (by rw [hi2];omega) (by unfold maxLen;omega) (Nat.le_refl _) ?_;(intro w5 hown hg5;have O5:=Lv hown;have G5:=Lv hg5;clear hown hg5))
     have ST:=Lv (show KdL w4.heap.size w4 w5 N m (.slice (some ⟨w4.heap.size,0,none⟩) m m) (.slice none 0 0) (.int .i64 0) from ⟨⟨0,[],fun _=>[],none,0,Nat.zero_le _,rfl,rfl,rfl,KdS.new (by
      have h:=O5.o;rw [Nat.mul_one,show (Value.slice none 0 0).cells=#[Value.slice none 0 0] from rfl,toList_madeCells_one] at h;exact h),fun s h=>(by cases h),Nat.le_refl _,fun j=>Nat.le_refl _⟩,G5.o⟩)
     obtain ⟨gk,hgk⟩:∃ g,g=w4.heap.size:=⟨_,rfl⟩
     have BK:=Lv (show w4.heap.size≤gk by omega);have GKW:=Lv (show gk≤w4.heap.size by omega);rw [← hgk] at ST ⊢;clear hgk hii hi0 hi1 hi2 O5;have NB:=Lv PF.o.name;go_wp2;go_loopw [8,9] (fun v8 v9 wx=>KdL gk w4 wx N m (.slice (some ⟨gk,0,none⟩) m m) v8 v9) (fun _ v9 _=>m - (intOf v9).toNat)
     case atStart=>exact ST.o
     case round =>
      obtain ⟨⟨i,st,K,qo,co,hi,rfl,rfl,hrun,hkd,hst,hsl,hkl⟩,hg⟩:=hrel;have HRUN:=Lv hrun;have HKL:=Lv hkl;have GX:=Lv hg;by_cases hlt:i < m
      ·have iN:i < N.length:=by rw [NM.o];exact hlt
       obtain ⟨nm,hnm⟩:∃ nm,N[i]?=some nm:=⟨_,List.getElem?_eq_getElem iN⟩
       have hND:N.getD i []=nm:=by rw [List.getD_eq_getElem?_getD,hnm];rfl
       have HNM:=Lv (NB.o nm (List.mem_of_getElem? hnm));have HNI:=Lv hnm;have hmI:i < m:=hlt;have hmI2:(i:Int) < (m:Int):=by omega
       have dl:decide ((i:Int) < (m:Int))=true:=by simp;omega
       have STEP:=Lv (show runK N (i + 1) 0 ([],fun _=>[])=(i :: popN N nm st,match popN N nm st with
         | []=>K
         | u :: _=>fun j=>if j=u then K j ++ [i] else K j) from by
        rw [run_step,HRUN.o];unfold Tv;simp only [];rw [hND];rfl)
       have P0:=Lv (show KdP gk w4 wr N nm m i (.slice (some ⟨gk,0,none⟩) m m) (.slice qo st.length co) st K from ⟨⟨st,qo,co,rfl,rfl,hkd,hst,hsl⟩,hg⟩);clear hrun hkd hst hsl hkl hg hnm hND HRUN hlt;obtain ⟨L0,hL0⟩:∃ L,L=st.length:=⟨_,rfl⟩
       rw [← hL0] at P0 ⊢;clear hL0;go_wp2;go_loopw [8] (fun v8 wx=>KdP gk w4 wx N nm m i (.slice (some ⟨gk,0,none⟩) m m) v8 st K) (fun v8 _=>slN v8)
       case atStart=>exact P0.o
       case round =>
        obtain ⟨⟨st',q',c',rfl,hpop,hkd,hst,hsl⟩,hg⟩:=hrel;have POP:=Lv hpop;have KD:=Lv hkd;have GY:=Lv hg;have HST:=Lv hst;cases st' with
        | nil =>
         have d0:decide ((0:Int) < 0)=false:=by decide
         go_wp2;go_quiet (fail);have GW:=Lv (Qj GY.o nq);have KW:=Lv (KD.o.grown (Qj (Qq wr none) nq));obtain ⟨WY,hWY⟩:∃ W,wr.drewN nq=W:=⟨_,rfl⟩
         rw [hWY] at GW KW ⊢;clear hWY hkd hg;have kdY:=KW.o;have g7:=grown1 WY (.cells #[.int .i64 (i:Int)] 3);have KG:=Lv (kdY.grown g7);have N7:=Lv (heap_alloc_new WY (.cells #[.int .i64 (i:Int)] 3));have G7:=Lv (Qz GW.o g7);clear kdY g7;go_wp2_with (at_builtin;refine Zz Wh rfl _ _ rfl _ 0 _ rfl KG.o.op [.int .i64 (i:Int)] rfl WY.heap.size rfl N7.o (M0 (i:Int)) (by omega) (by decide) (Nat.le_trans GKW.o G7.o.size) ?_)
         intro v8 w8 ho8 hg8 hv8;obtain ⟨q8,c8,rfl⟩:=Qp ho8;have G8:=Lv (Qr G7.o hg8 (fun g e=>Nat.le_trans BK.o (KG.o.op.lt g e).1));have K8:=Lv (KG.o.push ho8 hg8 (by rw [World.size_alloc];exact hv8));clear ho8 hg8 hv8 KG N7;go_wp2;go_roundw
         case rel=>exact ⟨⟨i + 1,i :: [],K,q8,c8,hmI,by go_num,rfl,by rw [STEP.o,← POP.o,show popN N nm []=[] from rfl],K8.o,fun s hs=>by rw [List.mem_singleton.1 hs];omega,by simp,fun j=>by have:=HKL.o j;omega⟩,G8.o⟩
         case measure=>simp [intOf];omega
        | cons a rest =>
         obtain ⟨-,g,rfl,ct⟩:=KD.o.top;have hai:a < i:=HST.o a (List.mem_cons_self ..);obtain ⟨L,hL⟩:∃ L,L=rest.length:=⟨_,rfl⟩
         have hlen:(a :: rest).length=L + 1:=by rw [hL];rfl
         have KD1:=Lv (show KdS gk wr m (.slice (some ⟨gk,0,none⟩) m m) (.slice (some ⟨g,0,none⟩) (L + 1) c') (a :: rest) K from by rw [← hlen];exact KD.o);rw [hlen] at hsl ⊢;rw [← hL] at ct;have HLEN:=Lv hlen;have LC:=Gd (show wr.ownsRow gk 3 1 (.slice (some ⟨g,0,none⟩) (L + 1) c') (L + 1) _ from by rw [← hlen];exact KD.o.op);obtain ⟨na,hna⟩:∃ na,N[a]?=some na:=⟨_,List.getElem?_eq_getElem (by rw [NM.o];omega)⟩
         have hNa:N.getD a []=na:=by rw [List.getD_eq_getElem?_getD,hna];rfl
         have BA:=NB.o na (List.mem_of_getElem? hna);obtain ⟨gn,rfl,ca⟩:=(NS.o.grown GY.o) a na hna;obtain ⟨gn',e',ci⟩:=(NS.o.grown GY.o) i nm HNI.o;injection e' with e';injection e' with e1 _ _;subst e1;have SH:=Lv (fun d os=>Calls.regrown_of ((share_any na nm BA.1 HNM.o.1 (by have:=HNM.o.2;omega) (Go.Sort.grow (redrawn wr d) os)).mono (fun e w' h=>(⟨h.1,Qg h.2 (Nat.le_refl _) (by simp)⟩ : _∧_))))
         have hcmp:=Mx (BA.1.take (lcpN na nm)) BA.1;obtain ⟨b,hb⟩:∃ b,b=preB na nm:=⟨_,rfl⟩
         rw [show decide (na.take (lcpN na nm)=na)=b from hb.symm] at hcmp;obtain ⟨T,hT⟩:∃ T,T=na.take (lcpN na nm):=⟨_,rfl⟩
         rw [← hT] at SH hcmp;have HB:=Lv (show preB (N.getD a []) nm=b by rw [hNa,hb]);have CA:=Lv (fun d os=>cell_regrown ca d os);have CI:=Lv (fun d os=>cell_regrown ci d os);have CT:=Lv (fun d os=>cell_regrown ct d os);have d0:decide ((0:Int) < ((L + 1:Nat):Int))=true:=by simp <;> omega
         have d02:decide ((0:Int) < (L:Int) + 1)=true:=by simp <;> omega
         have hcan:(L:Int) + 1 - 1=(L:Int):=by omega
         have hwk:IntKind.i64.wrap (L:Int)=(L:Int):=IntWalk.i64_in _ (by omega);have ham:(a:Int) < (m:Int):=by omega
         have hLL:(L:Int) < (L:Int) + 1:=by omega
         have hL0':(0:Int)≤(L:Int):=by omega
         have HLR:=Lv hL.symm;clear hna hNa BA hb hT ca ci ct hkd hg hL hlen;go_wp2;have ca:=CA.o;have ci:=CI.o;have ct:=CT.o;refine wp_region_quiet_below (by kernel_rfl) (by kernel_rfl) ?_
         repeat (quiet_step (exact SH.o _ _))
         refine wpQuiet_nil ?_
         intro _ hw';obtain ⟨⟨dq,osq⟩,hw''⟩:=hw';subst hw'';have gq:=Qt (below_regrown wr dq osq) none;have GW:=Lv (Qz GY.o gq);have KW:=Lv (KD1.o.grown gq);have ctq:=ct dq osq;obtain ⟨WY,hWY⟩:∃ W,Go.Sort.grow (redrawn wr dq) osq=W:=⟨_,rfl⟩
         rw [hWY] at GW KW ctq ⊢;clear hWY gq ca ci ct CA CI CT SH hcmp;cases b
         ·have CH:=Rl (T:=80) (k:=1) (by kernel_rfl) (fun W=>by kernel_rfl) g 0 (L + 1) c' L .i64 (by omega)
          go_wp2;go_roundw
          case rel=>exact ⟨⟨rest,some ⟨g,0,none⟩,c',by rw [HLR.o],by rw [← POP.o,pop_no HB.o],by
           have h:=KW.o;rw [← HLEN.o] at h;exact h.pop,fun s hs=>HST.o s (List.mem_cons_of_mem _ hs),by rw [HLR.o];omega⟩,GW.o⟩
          case measure=>simp [slN]
         ·obtain ⟨qk,ck,cu,ok⟩:=KW.o.get (show a < m by omega)
          have g6:=grown1 WY (.cells #[.int .i64 (i:Int)] 3);have OK6:=Lv (Qy ok g6);have KG6:=Lv (KW.o.grown g6);have CU6:=Lv (Qv g6 cu);have N6:=Lv (heap_alloc_new WY (.cells #[.int .i64 (i:Int)] 3));have G6:=Lv (Qz GW.o g6);have hkl:=HKL.o a;have HA:=Lv hai;obtain ⟨ka,hka⟩:∃ k,k=(K a).length:=⟨_,rfl⟩
          have HKA:=Lv hka;rw [← hka] at cu hkl CU6;clear ok g6 hka;go_wp2_with (at_builtin;refine Zz Wh rfl _ _ rfl _ ka _ rfl (by rw [HKA.o];exact OK6.o) [.int .i64 (i:Int)] rfl WY.heap.size rfl N6.o (M0 (i:Int)) (by omega) (by decide) (Nat.le_trans GKW.o G6.o.size) ?_)
          intro vk wk hok hgk hvk;have hok2:wk.ownsRow gk 3 1 vk ((K a).length + 1) ((natI (K a)).flatMap Jl ++ [.int .i64 (i:Int)]):=by rw [← HKA.o];exact hok
          have OK7:(WY.alloc (.cells #[.int .i64 (i:Int)] 3)).ownsRow gk 3 1 (.slice qk ka ck) (K a).length ((natI (K a)).flatMap Jl):=by rw [HKA.o];exact OK6.o
          obtain ⟨cs,fs,ls⟩:=KG6.o.seat CU6.o (show a < m by omega) OK7 hgk;have GK:=Qr G6.o hgk (fun g e=>Nat.le_trans BK.o (OK7.lt g e).1);obtain ⟨qk2,ck2,rfl⟩:=Qp hok;have KZ:=Lv (KG6.o.kid CU6.o (show a < m by omega) hok2 hgk (by rw [World.size_alloc];exact hvk));have GZ:=Lv (Qr GK (Qx (i:=a) (Qq wk (some gk)) (.slice qk2 (ka + 1) ck2)) (fun g e=>by injection e with e;have:=BK.o;omega))
          have g7:=grown1 (wk.setCell ⟨gk,a,none⟩ (.slice qk2 (ka + 1) ck2)) (.cells #[.int .i64 (i:Int)] 3);have KG:=Lv (KZ.o.grown g7);have hz:(wk.setCell ⟨gk,a,none⟩ (.slice qk2 (ka + 1) ck2)).heap.size=wk.heap.size:=by simp
          have HZ:=Lv hz;have N7:=Lv (by have h:=heap_alloc_new (wk.setCell ⟨gk,a,none⟩ (.slice qk2 (ka + 1) ck2)) (.cells #[.int .i64 (i:Int)] 3);rw [hz] at h;exact h:((wk.setCell ⟨gk,a,none⟩ (.slice qk2 (ka + 1) ck2)).alloc (.cells #[.int .i64 (i:Int)] 3)).heap[wk.heap.size]?=some (.cells #[.int .i64 (i:Int)] 3 (0,0)));clear hz;have G7:=Lv (Qz GZ.o g7);clear g7 hok hok2 hgk hvk OK7 GK KG6 CU6 N6 G6 OK6 cu ctq
          go_wp2_with (at_builtin;refine Zz Wh rfl _ _ rfl _ (L + 1) _ rfl (by have h:=KG.o.op;rw [HLEN.o] at h;exact h) [.int .i64 (i:Int)] rfl wk.heap.size rfl N7.o (M0 (i:Int)) (by omega) (by decide) (Nat.le_trans GKW.o G7.o.size) ?_)
          intro v8 w8 ho8 hg8 hv8;obtain ⟨q8,c8,rfl⟩:=Qp ho8;have G8:=Lv (Qr G7.o hg8 (fun g e=>Nat.le_trans BK.o (KG.o.op.lt g e).1));have K8:=Lv (KG.o.push (v':=.slice q8 (L + 1 + 1) c8) (i:=i) (by rw [HLEN.o,List.reverse_cons];exact ho8) hg8 (by rw [World.size_alloc];first | exact hv8 | (rw [HZ.o];exact hv8)));clear ho8 hg8 hv8 KG N7;go_wp2;go_roundw
          case rel=>exact ⟨⟨i + 1,i :: a :: rest,(fun j=>if j=a then K j ++ [i] else K j),q8,c8,hmI,by go_num,by rw [List.length_cons,HLEN.o],by rw [STEP.o,← POP.o,pop_yes HB.o],by rw [List.length_cons,HLEN.o];exact K8.o,fun s hs=>by
           rcases List.mem_cons.1 hs with e | e
           ·omega
           ·have:=HST.o s e;omega,by rw [List.length_cons,HLEN.o];omega,fun j=>by
           have:=HKL.o j
           show (if j=a then K j ++ [i] else K j).length≤i + 1
           split
           ·rw [List.length_append,List.length_singleton];omega
           ·omega⟩,G8.o⟩
          case measure=>simp [intOf];omega
      ·have him:m=i:=by omega
       subst him;have dl:decide ((m:Int) < (m:Int))=false:=by simp
       obtain ⟨wb,hwb⟩:∃ W,W=wr:=⟨_,rfl⟩
       subst hwb;have KA:=Lv (fun (j:Nat) (hj:j < m)=>(show K j=K0 P j from by
        have h:=PF.o.kids j (by rw [PM.o];exact hj);rw [PM.o,HRUN.o] at h;exact h))
       have KR:=Lv (fun (j:Nat) (hj:j < m)=>(show ∃ q' c',wb.cell? ⟨gk,j,none⟩=some (.slice q' (K0 P j).length c')∧Kq wb q' (natI (K0 P j)) from by
        obtain ⟨q',c',h1,h2⟩:=hkd.get hj;rw [KA.o j hj] at h1 h2;exact ⟨q',c',h1,Kq.of h2⟩))
       have GB:=Lv (Qz G4.o GX.o);have RB2:=Lv (R4.o.grown GX.o);have NB2:=Lv (NS.o.grown GX.o);clear hkd hrun hkl hst hsl hg HRUN HKL KA hlt hi;obtain ⟨iu,hiu⟩:=info_parts (show (Tryz.prog.info? 3).map (fun i=>(i.zero,i.size,i.bytes))=some (some (.int .i64 0),1,8) from by kernel_rfl);have IU:=Lv hiu;clear hiu;go_wp2_with (at_make;refine wpList_make_full _ rfl _ _ 80 rfl wb.heap.size 3 iu (.int .i64 0) 1 Tryz.underlying80 IU.o.1 IU.o.2.1 IU.o.2.2.1 .i64 .i64 _ _ m rfl rfl rfl rfl (by rw [IU.o.2.2.2];omega) (by unfold maxLen;omega) (Nat.le_refl _) ?_;(intro w6 hown hg6;have O6:=Lv hown;have G6:=Lv hg6;clear hown hg6))
       have U6:=Lv (show Kq w6 (some ⟨wb.heap.size,0,none⟩) (natI (Qs P 0)) from by
        have h:=O6.o;rw [Nat.mul_one,show (Value.int IntKind.i64 0).cells=#[Value.int IntKind.i64 0] from rfl,toList_madeCells_one,← ints_zero,← PM.o] at h;exact Kq.of h)
       have ST:=Lv (show RmG wb w6 P m (m * 1099511627776) (.slice (some ⟨wb.heap.size,0,none⟩) m m) from ⟨⟨0,_,_,Nat.sub_le _ _,rfl,U6.o,Nat.le_refl _,by omega⟩,G6.o⟩);clear O6 G6 U6;go_wp2;go_loopg [11] (m * 1099511627776) (fun g v11 wx=>RmG wb wx P m g v11)
       case atStart=>exact ST.o
       case round =>
        obtain ⟨⟨t,qp,cp,hgk,rfl,hu,hcp,hcx⟩,hg⟩:=hrel;obtain ⟨w0,hw0⟩:∃ W,W=wr:=⟨_,rfl⟩
        subst hw0;have HG:=Lv hg;have HK:=Lv hgk;obtain ⟨pl,hpl⟩:∃ pl,pl=Qs P t:=⟨_,rfl⟩
        have HPL:=Lv hpl;have PL64:=Lv (show ∀ i,pl.getD i 0≤558211072 from by rw [hpl];exact (RO.o t).1);have PLN:=Lv (show (layB pl P).length≤558211072 from by rw [hpl];exact (RO.o t).2);have PLL:=Lv (show pl.length=m from by rw [hpl,Bq,PM.o]);rw [← hpl] at hu;have HU:=Lv hu;have GW0:=Lv (Qz GB.o hg);clear hg hu hgk hpl ST;go_wp2_with (at_make;refine wpList_make_full _ rfl _ _ 80 rfl w0.heap.size 3 iu (.int .i64 0) 1 Tryz.underlying80 IU.o.1 IU.o.2.1 IU.o.2.2.1 .i64 .i64 _ _ m rfl rfl rfl rfl (by rw [IU.o.2.2.2];omega) (by unfold maxLen;omega) (Nat.le_refl _) ?_;(intro w7 hown hg7;have O7:=Lv hown;have G7:=Lv hg7;clear hown hg7))
        obtain ⟨gx,hgx⟩:∃ g,g=w0.heap.size:=⟨_,rfl⟩
        have HGX:=Lv hgx;have ST:=Lv (show RmN gx w0 w7 N P pl m (.slice none 0 0) (.int .i64 0) (.int .i64 0) from ⟨⟨0,none,0,Nat.zero_le _,rfl,rfl,rfl,⟨World.ownsRow_nil _ _ _ _,by
         have h:=O7.o;rw [Nat.mul_one,show (Value.int IntKind.i64 0).cells=#[Value.int IntKind.i64 0] from rfl,toList_madeCells_one] at h;rw [nextL_zero,hgx];exact h,G7.o⟩⟩⟩)
        rw [← hgx];clear hgx O7 G7;go_wp2;go_loopw [12,14,15] (fun v12 v14 v15 wx=>RmN gx w0 wx N P pl m v12 v14 v15) (fun _ _ v15 _=>m - (intOf v15).toNat)
        case atStart=>exact ST.o
        case round =>
         obtain ⟨⟨i,qb,cb,hi,rfl,rfl,rfl,hd⟩⟩:=hrel;obtain ⟨wy,hwy⟩:∃ W,W=wr:=⟨_,rfl⟩
         subst hwy;clear ST;by_cases hlt:i < m
         ·have dl:decide ((i:Int) < (m:Int))=true:=by simp;omega
          have hiI:(i:Int) < (m:Int):=by omega
          obtain ⟨nd,hnd⟩:∃ nd,P[i]?=some nd:=⟨_,List.getElem?_eq_getElem (by rw [PM.o];exact hlt)⟩
          obtain ⟨nm,hnm⟩:∃ nm,N[i]?=some nm:=⟨_,List.getElem?_eq_getElem (by rw [NM.o];exact hlt)⟩
          have ok:=PF.o.ok nd (List.mem_of_getElem? hnd);have TB:=Lv (layB_take' pl hnd);have TO:=Lv (owns_next PF.o.len hnd);have TN:=Lv (nextL_set (pl:=pl) PM.o hlt);have nl:(layB pl (P.take (i + 1))).length≤558211072:=Nat.le_trans (layG_le pl P (i + 1)) PLN.o;rw [TB.o] at nl;have hka:K0 P i=nd.kids.map Prod.snd:=by unfold K0;rw [hnd];rfl
          obtain ⟨qk,ck,kc,kr⟩:=KR.o i hlt;rw [hka] at kc kr;rw [List.length_map] at kc;have KC:=Lv (Qv HG.o kc);have KI:=Lv (kr.grown HG.o);have few:=kids_few ok;obtain ⟨kl,hkl⟩:∃ kl,kl=nd.kids.length:=⟨_,rfl⟩
          rw [← hkl] at KC few;have HKL:=Lv hkl;have EDG:=Lv (fun k (hk:k∈nd.kids)=>And.intro (ok.edge k hk) (PF.o.edge i nd hnd k hk));have SAYS:=Lv ok.says;have OA:=own_at i PF.o.len PF.o.up nm nd hnm hnd;rw [PF.o.own] at OA;obtain ⟨a,ha⟩:∃ a,a=(Jb (N.take i) (P.take i)).length:=⟨_,rfl⟩
          rw [← ha] at OA TO ⊢;obtain ⟨B,hB⟩:∃ B,B=layB pl (P.take i):=⟨_,rfl⟩
          rw [← hB] at hd TB TN nl ⊢;obtain ⟨L,hL⟩:∃ L,L=Hy pl P m i:=⟨_,rfl⟩
          rw [← hL] at hd TN;obtain ⟨Bl,hBl⟩:∃ Bl,Bl=B.length:=⟨_,rfl⟩
          have HBL:=Lv hBl;unfold Vn at nl;rw [List.length_append,List.length_append,List.length_append,List.length_singleton,← hBl] at nl;rw [← hBl] at hd TN ⊢;obtain ⟨fl,hfl⟩:∃ fl,fl=(Yx nd.says).length:=⟨_,rfl⟩
          rw [← hfl] at nl;have HFL:=Lv hfl;have NMB:=Lv (NB.o nm (List.mem_of_getElem? hnm));obtain ⟨⟨x0,cx⟩,fx,lx⟩:=hd.seat hlt;have D1:=Lv (hd.set (i:=i) (Bl:Int));rw [TN.o] at D1;have HNM:=Lv hnm;have HND:=Lv hnd;have OAH:=Lv OA;clear hd hka kc kr ok hkl hnm hnd OA ha hB hL hBl hfl TN;go_wp2;obtain ⟨wz,hwz⟩:∃ W,wy.setCell ⟨gx,i,none⟩ (.int .i64 (Bl:Int))=W:=⟨_,rfl⟩
          rw [hwz] at D1 ⊢;clear hwz cx fx lx;have GZ:=Lv (Qz HG.o D1.o.grown);obtain ⟨gn,hqn,cn0⟩:=(NB2.o.grown GZ.o) i nm HNM.o;subst hqn;have hnl:=NMB.o.2;have h3:(∃ x,nd.says=some x)∨(nd.says=none∧a < n)∨(nd.says=none∧n≤a):=by
           cases hs:nd.says with
           | some x=>exact .inl ⟨x,rfl⟩
           | none=>exact .inr ((Nat.lt_or_ge a n).imp (fun h=>⟨rfl,h⟩) (fun h=>⟨rfl,h⟩))
          go_cut [158] from 132 to 217 (fun c wx=>c=.bool nd.says.isSome∧RmD gx w0 wx (.slice qb Bl cb) B m (Hy pl P m (i + 1)))
          case first =>
           rcases h3 with ⟨x,hs⟩ | ⟨hs,ha2⟩ | ⟨hs,ha2⟩
           ·have hR:=OAH.o.1 x hs
            have ha2:a < n:=by
             obtain ⟨h,_⟩:=List.getElem?_eq_some_iff.1 hR;rw [RN.o] at h;exact h
            obtain ⟨ga,oa,hq2,a0,a1,a2,a3,a4,a5,a6⟩:=(RB2.o.grown GZ.o).at hR;subst hq2;simp only [] at a0 a1 a2 a3 a4 a5 a6;have da:decide ((a:Int) < (n:Int))=true:=by simp;omega
            have haI:(a:Int) < (n:Int):=by omega
            have heq:((strOfNums nm).toList == (strOfNums nm).toList)=true:=by simp
            have HS:=Lv hs;clear hR hs;go_quiet (fail);go_wp2_with fail;go_meet
            exact ⟨by rw [HS.o];rfl,D1.o.past (Qj (Qq wz none) nq)⟩
           ·obtain ⟨y,hy⟩:∃ y,R[a]?=some y:=⟨_,List.getElem?_eq_getElem (by rw [RN.o];exact ha2)⟩
            have hne:=OAH.o.2 hs y hy;obtain ⟨ga,oa,hq2,a0⟩:=(RB2.o.grown GZ.o).name hy;subst hq2;have da:decide ((a:Int) < (n:Int))=true:=by simp;omega
            have haI:(a:Int) < (n:Int):=by omega
            have heq:=Mx (RB.o y (List.mem_of_getElem? hy)) NMB.o.1;rw [decide_eq_false hne] at heq;have HS:=Lv hs;clear hy hs hne;go_quiet (fail);go_wp2_with fail;go_meet
            exact ⟨by rw [HS.o];rfl,D1.o.past (Qj (Qq wz none) nq)⟩
           ·have da:decide ((a:Int) < (n:Int))=false:=by simp;omega
            have haI:¬ ((a:Int) < (n:Int)):=by omega
            have HS:=Lv hs;clear hs;go_quiet (fail);go_wp2_with fail;go_meet
            exact ⟨by rw [HS.o];rfl,D1.o.past (Qj (Qq wz none) nq)⟩
          case rest =>
           obtain ⟨rfl,D2⟩:=hcut;obtain ⟨wq,hwq⟩:∃ W,W=wc:=⟨_,rfl⟩
           subst hwq;have DQ:=Lv D2;clear D2 D1 cn0 h3;go_upto_if 158 with fail
           go_cut [12,14] from 132 to 217 (fun v12 v14 wx=>∃ (q9:Option Addr) (c9 F1l:Nat),F1l=Bl + fl∧v12=.slice q9 F1l c9∧v14=.int .i64 ((Jb (N.take (i + 1)) (P.take (i + 1))).length:Int)∧RmD gx w0 wx (.slice q9 F1l c9) (B ++ Yx nd.says) m (Hy pl P m (i + 1)))
           case first =>
            have h4:(∃ x,nd.says=some x)∨nd.says=none:=by
             cases hs:nd.says with
             | some x=>exact .inl ⟨x,rfl⟩
             | none=>exact .inr rfl
            rcases h4 with ⟨x,hs⟩ | hs
            ·have hR:=OAH.o.1 x hs
             have hsm:nd.says.isSome=true:=by rw [hs];rfl
             rw [hsm];have ha2:a < n:=by
              obtain ⟨h,_⟩:=List.getElem?_eq_some_iff.1 hR;rw [RN.o] at h;exact h
             obtain ⟨ga,oa,hq2,b0,b1,b2,b3,b4,b5,b6⟩:=(RB2.o.grown (Qz HG.o DQ.o.grown)).at hR;subst hq2;simp only [] at b0 b1 b2 b3 b4 b5 b6;have haI:(a:Int) < (n:Int):=by omega
             have SA:=Lv (fun W=>said_any (strOfNums nm) x (SAYS.o x hs) (HKR.o _ (List.mem_of_getElem? hR)) W);unfold exV Zd at SA;have HS:=Lv hs;clear hR hs hsm;go_wp2_with fail;refine (SA.o _).mono ?_
             rintro e w8 ⟨⟨q8,c8,rfl,ho8⟩,hg8⟩;rw [show Yx (some x)=Yx nd.says by rw [HS.o]] at ho8 ⊢;have IB:=Lv (Qk.of_own rfl ho8);rw [← HFL.o] at ho8 ⊢;have D8:=Lv (DQ.o.past hg8);have R8:=Lv (Xm.refl D8.o.b);have S8:=Lv D8.o.grown.size;have L8:=Lv (show B.length + fl≤140737488355328 by rw [← HBL.o];omega);clear b0 b1 b2 b3 b4 b5 b6 ho8 hg8 SA DQ
             go_wp2_with (at_builtin;refine Zi rfl _ _ rfl rfl (v:=.slice qb Bl cb) (by rfl) R8.o (Yx nd.says) fl HFL.o.symm (by rfl) IB.o L8.o S8.o ?_)
             intro q9 c9 w9 hr9;rw [← HBL.o] at hr9 ⊢;have D9:=Lv (D8.o.step hr9);have HA9:=Lv (show Value.int .i64 ((a:Int) + 1)=.int .i64 ((Jb (N.take (i + 1)) (P.take (i + 1))).length:Int) from by rw [TO.o,HS.o];simp);clear hr9 IB D8 R8 S8 L8;go_wp2;go_meet
             exact ⟨_,_,_,rfl,rfl,HA9.o,D9.o⟩
            ·have hsm:nd.says.isSome=false:=by rw [hs];rfl
             rw [hsm];have HS:=Lv hs;have g8:=grown1 wq (.cells #[.int .u8 0] 5);have D8:=Lv (DQ.o.past g8);have R8:=Lv (Xm.refl D8.o.b);have S8:=Lv D8.o.grown.size;have I8:=Lv (He wq 0);have L8:=Lv (show B.length + 1≤140737488355328 by rw [← HBL.o];omega);have HF9:=Lv (show Bl + 1=Bl + fl by rw [HFL.o,HS.o];rfl);clear g8 hs hsm;go_wp2_with (at_builtin;refine Zi rfl _ _ rfl rfl (v:=.slice qb Bl cb) (by rfl) R8.o [0] 1 rfl (by rfl) I8.o L8.o S8.o ?_)
             intro q9 c9 w9 hr9;rw [← HBL.o] at hr9 ⊢;have d9:=D8.o.step hr9;rw [show ([0]:List Int)=Yx nd.says by rw [HS.o];rfl] at d9;have D9:=Lv d9;have HA9:=Lv (show Value.int .i64 (a:Int)=.int .i64 ((Jb (N.take (i + 1)) (P.take (i + 1))).length:Int) from by rw [TO.o,HS.o];simp);clear hr9 d9 I8 D8 R8 S8 L8;go_wp2;go_meet
             exact ⟨_,_,_,HF9.o,rfl,HA9.o,D9.o⟩
           case rest =>
            obtain ⟨q9,c9,F1l,hF1l,rfl,rfl,d9⟩:=hcut;obtain ⟨w9,hw9⟩:∃ W,W=wc:=⟨_,rfl⟩
            subst hw9;obtain ⟨a9,ha9⟩:∃ a9,a9=(Jb (N.take (i + 1)) (P.take (i + 1))).length:=⟨_,rfl⟩
            rw [← ha9];have HA9:=Lv (show Value.int .i64 (a9:Int)=.int .i64 ((Jb (N.take (i + 1)) (P.take (i + 1))).length:Int) from by rw [ha9]);have HF1l:=Lv hF1l;have D9:=Lv d9;clear hF1l d9 ha9 DQ;have C9:=Qv D9.o.grown KC.o;have g10:=grown1 w9 (.cells #[.int .u8 (kl:Int)] 5);have D10:=Lv (D9.o.past g10);have hF1m:F1l≤558211072 + 1:=by have:=HF1l.o;omega
            obtain ⟨F1,hF1⟩:∃ F,F=B ++ Yx nd.says:=⟨_,rfl⟩
            rw [← hF1] at D10;have HF1:=Lv hF1;have LF1:=Lv (show F1.length=F1l by rw [hF1,List.length_append,← HBL.o,← HFL.o,← HF1l.o]);have R10:=Lv (Xm.refl D10.o.b);have S10:=Lv D10.o.grown.size;have I10:=Lv (He w9 (kl:Int));have L10:=Lv (show F1.length + 1≤140737488355328 by rw [LF1.o];omega);have hkw:IntKind.u8.wrap (kl:Int)=kl:=by rw [IntKind.wrap_u8];omega
            clear hF1 g10 D9;go_wp2_with (at_builtin;refine Zi rfl _ _ rfl rfl (v:=.slice q9 F1l c9) (by rfl) R10.o [(kl:Int)] 1 rfl (by rfl) I10.o L10.o S10.o ?_)
            intro q11 c11 w11 hr11;rw [LF1.o] at hr11 ⊢;have d11:=D10.o.step hr11;obtain ⟨F2,hF2⟩:∃ F,F=F1 ++ [(kl:Int)]:=⟨_,rfl⟩
            have LF2:=Lv (show F2.length=F1l + 1 by rw [hF2,List.length_append,LF1.o];rfl);rw [← hF2] at d11;have TNX:=Lv (show F2 ++ nd.kids.flatMap (kidB pl)=layB pl (P.take (i + 1)) by
             rw [TB.o,hF2,HF1.o,HKL.o];unfold Vn;simp only [List.append_assoc])
            have e0:F2 ++ (nd.kids.take 0).flatMap (kidB pl)=F2:=by simp
            obtain ⟨L1,hL1⟩:∃ L1,L1=Hy pl P m (i + 1):=⟨_,rfl⟩
            rw [← hL1] at d11;have HL1:=Lv hL1;have S11:=Lv (show RmK gx w0 w11 pl F2 nd.kids m L1 (.slice q11 (F1l + 1) c11) (.int .i64 0) from ⟨⟨0,q11,c11,Nat.zero_le _,rfl,by rw [e0,LF2.o],by rw [e0,LF2.o];exact d11⟩⟩);clear hr11 d11 hF2 hL1 e0 C9 D10 R10 S10 I10 L10 hkw HF1 LF1 TB;go_wp2;go_loopw [12,16] (fun v12 v16 wx=>RmK gx w0 wx pl F2 nd.kids m L1 v12 v16) (fun _ v16 _=>kl - (intOf v16).toNat)
            case atStart=>exact S11.o
            case round =>
             obtain ⟨⟨j,qm,cm,hj,rfl,rfl,hd⟩⟩:=hrel;obtain ⟨wx,hwx⟩:∃ W,W=wr:=⟨_,rfl⟩
             subst hwx;clear S11;have kc:=Qv hd.grown KC.o;by_cases hjl:j < kl
             ·obtain ⟨k,hk⟩:∃ k,nd.kids[j]?=some k:=⟨_,List.getElem?_eq_getElem (by rw [← HKL.o];exact hjl)⟩
              have hkm:=List.mem_of_getElem? hk
              obtain ⟨eok,elt,ehi,enm⟩:=EDG.o k hkm;rw [PM.o] at ehi;have hnk:N[k.2]?=some (nm ++ k.1):=by
               have h1:N.getD i []=nm:=by rw [List.getD_eq_getElem?_getD,HNM.o];rfl
               have h2:k.2 < N.length:=by rw [NM.o];exact ehi
               rw [h1,List.getD_eq_getElem?_getD,List.getElem?_eq_getElem h2,Option.getD_some] at enm;rw [List.getElem?_eq_getElem h2,enm]
              have BY:=Lv eok.byt;have klen:=eok.len;obtain ⟨p,hp⟩:∃ p,p=pl.getD k.2 0:=⟨_,rfl⟩
              have hpm:p≤558211072:=by rw [hp];exact PL64.o _
              have hp64:p < 18446744073709551616:=by omega
              have pat:=Pw (l:=pl) (i:=k.2) (by rw [PLL.o];exact ehi);rw [← hp] at pat;have kt:(nd.kids.take (j + 1)).flatMap (kidB pl)=(nd.kids.take j).flatMap (kidB pl) ++ ((k.1 ++ [0]) ++ encU p):=by rw [kidsG_take pl hk,hp];rfl
              have kle:=kidsG_le pl nd.kids (j + 1);rw [kt,List.length_append,List.length_append,List.length_append,List.length_singleton] at kle;obtain ⟨M,hM⟩:∃ M,M=F2 ++ (nd.kids.take j).flatMap (kidB pl):=⟨_,rfl⟩
              have hMl:M.length=F2.length + ((nd.kids.take j).flatMap (kidB pl)).length:=by rw [hM,List.length_append]
              rw [LF2.o,HF1l.o] at hMl;have MN:=Lv (show ((M ++ k.1) ++ [0]) ++ encU p=F2 ++ (nd.kids.take (j + 1)).flatMap (kidB pl) by rw [kt,hM];simp only [List.append_assoc]);rw [← hM] at hd ⊢;obtain ⟨Ml,hMm⟩:∃ m,m=M.length:=⟨_,rfl⟩
              rw [← hMm] at hd hMl ⊢;have HMM:=Lv hMm;have bound:Ml + k.1.length + 1 + (encU p).length≤1116422144:=by omega
              obtain ⟨o,ho⟩:∃ o,o=k.2:=⟨_,rfl⟩
              rw [← ho] at hnk pat ehi;have kj:(natI (nd.kids.map Prod.snd))[j]?=some (o:Int):=by
               unfold natI;rw [List.getElem?_map,List.getElem?_map,hk,ho];rfl
              obtain ⟨gj,rfl,cj⟩:=(KI.o.grown hd.grown) j _ kj;obtain ⟨gp,rfl,cp0⟩:=(HU.o) o _ pat;have CP:=Lv cp0;obtain ⟨gn2,e1,co⟩:=(NB2.o.grown (Qz HG.o hd.grown)) o _ hnk;injection e1 with e1;injection e1 with e1 _ _;subst e1;obtain ⟨gn2,e1,cnm⟩:=(NB2.o.grown (Qz HG.o hd.grown)) i _ HNM.o;injection e1 with e1;injection e1 with e1 _ _;subst e1;have DJ:=Lv (fun (V:World) (hV:wx.grownBy V none)=>And.intro (Qv hV co) (Qv hV cnm))
              have CO:=Lv (fun (V:World) (hV:w0.grownBy V none)=>(show V.cell? ⟨gn,o,none⟩=some (.string (strOfNums (nm ++ k.1)))∧V.cell? ⟨gn,i,none⟩=some (.string (strOfNums nm)) from by
               obtain ⟨g1,e1,h1⟩:=(NB2.o.grown (Qz HG.o hV)) o _ hnk;injection e1 with e1;injection e1 with e1 _ _;subst e1;obtain ⟨g2,e2,h2⟩:=(NB2.o.grown (Qz HG.o hV)) i _ HNM.o;injection e2 with e2;injection e2 with e2 _ _;subst e2;exact ⟨h1,h2⟩))
              have dj:decide ((j:Int) < (kl:Int))=true:=by simp;omega
              have hjI:(j:Int) < (kl:Int):=by omega
              have hoI:(o:Int) < (m:Int):=by omega
              have sz1:(strOfNums nm).size=nm.length:=strOfNums_size _;have sz2:(strOfNums (nm ++ k.1)).size=nm.length + k.1.length:=by rw [strOfNums_size,List.length_append]
              have cut:(strOfNums (nm ++ k.1)).extract nm.length (nm.length + k.1.length)=strOfNums k.1:=by
               rw [V8,List.take_of_length_le (Nat.le_of_eq List.length_append),List.drop_left]
              have hle1:nm.length≤nm.length + k.1.length:=by omega
              have DU:=Lv hd;have kn1:(nm.length:Int)≤(nm.length:Int) + (k.1.length:Int):=by omega
              clear DJ ho hk hkm eok elt enm hp pat kt kle hM hMl hMm kj cp0 hd hnk;go_wp2;have GXD:=Lv (show w0.grownBy wx.drew none from Qj DU.o.grown 1);refine wp_region_held_drew (S:=fun V=>w0.grownBy V none) (by kernel_rfl) GXD.o (fun hS=>?_);refine tkY (i:=0) (oi:=⟨some 196,_,_,_,_,_⟩) (v:=Value.slice qm Ml cm) rfl (by kernel_rfl) (fun _ _ _ h=>h) rfl (fun V hV=>?_) hS ?_
              ·go_simp
              refine tkY (i:=1) (oi:=⟨some 197,_,_,_,_,_⟩) (v:=Value.slice (some ⟨gn,0,none⟩) m cn) rfl (by kernel_rfl) (fun _ _ _ h=>h) rfl (fun V hV=>?_) hS ?_
              ·go_simp
              refine tkY (i:=2) (oi:=⟨some 198,_,_,_,_,_⟩) (v:=Value.int .i64 (o:Int)) rfl (by kernel_rfl) (fun _ _ _ h=>h) rfl (fun V hV=>?_) hS ?_
              ·go_simp
              refine tkY (i:=3) (oi:=⟨some 199,_,_,_,_,_⟩) (v:=Value.pointer (some ⟨gn,o,none⟩)) rfl (by kernel_rfl) (fun _ _ _ h=>h) rfl (fun V hV=>?_) hS ?_
              ·go_simp
              refine tkY (i:=4) (oi:=⟨some 200,_,_,_,_,_⟩) (v:=Value.string (strOfNums (nm ++ k.1))) rfl (by kernel_rfl) (fun _ _ _ h=>h) rfl (fun V hV=>?_) hS ?_
              ·(obtain ⟨co1,co2⟩:=CO.o V hV;go_simp)
              refine tkY (i:=5) (oi:=⟨some 201,_,_,_,_,_⟩) (v:=Value.slice (some ⟨gn,0,none⟩) m cn) rfl (by kernel_rfl) (fun _ _ _ h=>h) rfl (fun V hV=>?_) hS ?_
              ·go_simp
              refine tkY (i:=6) (oi:=⟨some 202,_,_,_,_,_⟩) (v:=Value.int .i64 (i:Int)) rfl (by kernel_rfl) (fun _ _ _ h=>h) rfl (fun V hV=>?_) hS ?_
              ·go_simp
              refine tkY (i:=7) (oi:=⟨some 203,_,_,_,_,_⟩) (v:=Value.pointer (some ⟨gn,i,none⟩)) rfl (by kernel_rfl) (fun _ _ _ h=>h) rfl (fun V hV=>?_) hS ?_
              ·go_simp
              refine tkY (i:=8) (oi:=⟨some 204,_,_,_,_,_⟩) (v:=Value.string (strOfNums nm)) rfl (by kernel_rfl) (fun _ _ _ h=>h) rfl (fun V hV=>?_) hS ?_
              ·(obtain ⟨co1,co2⟩:=CO.o V hV;go_simp)
              refine tkY (i:=9) (oi:=⟨some 205,_,_,_,_,_⟩) (v:=Value.int .i64 (nm.length:Int)) rfl (by kernel_rfl) (fun _ _ _ h=>h) rfl (fun V hV=>?_) hS ?_
              ·go_simp
              refine tkY (i:=10) (oi:=⟨some 206,_,_,_,_,_⟩) (v:=Value.string (strOfNums k.1)) rfl (by kernel_rfl) (fun _ _ _ h=>h) rfl (fun V hV=>?_) hS ?_
              ·go_simp
              try simp only [Act.put,List.setIfInBounds_toArray,List.set_cons_zero,List.set_cons_succ]
              have DX:=Lv (DU.o.past (Qj (Qq wx none) 1));have BLK:=Lv (fun X (e:(Value.slice qm Ml cm).ownBlock=some X)=>(DX.o.b.lt X e).2);have MN:=MN.o;refine wpAnyH_ready (rs:=[11,12]) (by kernel_rfl) (by simp) ?_
              refine AllReadyH.cons (o:=⟨some 207,_,_,_,_,_⟩) rfl (fun K' hK'=>?_) (AllReadyH.cons (o:=⟨some 208,_,_,_,_,_⟩) rfl (fun K' hK'=>?_) AllReadyH.nil)
              ·have R1:=Lv (Xm.refl DX.o.b)
               have S1:=Lv DX.o.grown.size;have L1b:=Lv (show M.length + k.1.length≤140737488355328 by rw [← HMM.o];omega);refine step_append_sto (by with_reducible rfl) _ _ (by with_reducible rfl) (by rfl) (v:=.slice qm Ml cm) (by rfl) R1.o k.1 BY.o (by rfl) L1b.o S1.o ?_
               intro q2 c2 w3 hr3;rw [← HMM.o] at hr3 ⊢;obtain ⟨M1,hM1⟩:∃ M1,M1=M ++ k.1:=⟨_,rfl⟩
               rw [← hM1] at hr3 MN;have LM:=Lv (show M1.length=Ml + k.1.length by rw [hM1,List.length_append,← HMM.o]);have d3:=DX.o.step hr3;refine hK'.out _ _ d3.grown (fun hS=>?_);clear hK' K' hM1 R1 S1 L1b hr3
               try simp only [Act.put,List.setIfInBounds_toArray,List.set_cons_zero,List.set_cons_succ]
               refine wpAnyH_ready (rs:=[12]) (by kernel_rfl) (by simp) ?_
               refine AllReadyH.cons (o:=⟨some 208,_,_,_,_,_⟩) rfl (fun K' hK'=>?_) AllReadyH.nil;go_simp;have g4:=grown1 w3 (.cells #[.int .u8 0] 5);have D4:=Lv (d3.past g4);have I4:=Lv (He w3 0);refine hK'.out _ _ (Qz hS g4) (fun hS=>?_);clear hK' K' g4 d3
               try simp only [Act.put,List.setIfInBounds_toArray,List.set_cons_zero,List.set_cons_succ]
               have R4:=Lv (Xm.refl D4.o.b);have S4:=Lv D4.o.grown.size;have L4:=Lv (show M1.length + 1≤140737488355328 by rw [LM.o];omega);refine wpAnyH_ready (rs:=[13]) (by kernel_rfl) (by simp) ?_
               refine AllReadyH.cons (o:=⟨some 209,_,_,_,_,_⟩) rfl (fun K' hK'=>?_) AllReadyH.nil;refine Bb (by with_reducible rfl) _ _ (by with_reducible rfl) (by rfl) (v:=.slice q2 (Ml + k.1.length) c2) (by rfl) R4.o [0] 1 rfl (by rfl) I4.o L4.o S4.o ?_
               intro q4 c4 w5 hr5;rw [LM.o] at hr5 ⊢;obtain ⟨M2,hM2⟩:∃ M2,M2=M1 ++ [0]:=⟨_,rfl⟩
               rw [← hM2] at hr5 MN;have d5:=D4.o.step hr5;refine hK'.out _ _ d5.grown (fun hS=>?_);clear hK' K' R4 S4 L4 I4 D4;refine tkY (i:=14) (oi:=⟨some 12,_,_,_,_,_⟩) (v:=Value.slice q4 (Ml + k.1.length + 1) c4) rfl (by kernel_rfl) (fun _ _ _ h=>h) rfl (fun V hV=>?_) hS ?_
               ·go_simp
               try simp only [Act.put,List.setIfInBounds_toArray,List.set_cons_zero,List.set_cons_succ]
               refine wpAnyH_done (by kernel_rfl) ?_ _
               have LN:=Lv (show M2.length=Ml + k.1.length + 1 by rw [hM2,List.length_append,LM.o];rfl);have D5:=Lv d5;have MNH:=Lv MN;clear MN;have PT:=Lv (Vk (n:=p) hp64 w5);have yp:=Qv d5.grown CP.o;have hpw:IntKind.u64.wrap (p:Int)=p:=by rw [IntKind.wrap_u64];omega
               clear hM2 hr5 d5 hS;go_wp2_with fail;refine PT.o.mono ?_
               rintro e w6 ⟨⟨q6,c6,rfl,ho6⟩,hg6⟩;have I6:=Lv (Qk.of_own rfl ho6);have D6:=Lv (D5.o.past hg6);have R6:=Lv (Xm.refl D6.o.b);have S6:=Lv D6.o.grown.size;have L6:=Lv (show M2.length + (encU p).length≤140737488355328 by rw [LN.o];omega);clear ho6 hg6 D5 PT yp;go_wp2_with (at_builtin;refine Zi rfl _ _ rfl rfl (v:=.slice q4 (Ml + k.1.length + 1) c4) (by rfl) R6.o (encU p) (encU p).length rfl (by rfl) I6.o L6.o S6.o ?_)
               intro q7 c7 w7 hr7;have L7:=Lv hr7.len;have d7:=D6.o.step hr7;rw [MNH.o] at d7 L7;have D7:=Lv d7;clear hr7 d7 R6 S6 L6 I6 D6;go_wp2;go_roundw
               case rel=>exact ⟨⟨j + 1,q7,c7,by rw [← HKL.o];exact hjl,by go_num,by rw [L7.o],by rw [L7.o];exact D7.o⟩⟩
               case measure=>simp [intOf];omega
              ·go_simp
               have g4:=grown1 wx.drew (.cells #[.int .u8 0] 5);have D3:=Lv (DX.o.past g4);have Z3:=zero_new wx.drew;refine hK'.out _ _ (Qz hS g4) (fun hS=>?_);clear hK' K' g4
               try simp only [Act.put,List.setIfInBounds_toArray,List.set_cons_zero,List.set_cons_succ]
               have R1:=Lv (Xm.refl D3.o.b);have S1:=Lv D3.o.grown.size;have L1b:=Lv (show M.length + k.1.length≤140737488355328 by rw [← HMM.o];omega);refine wpAnyH_ready (rs:=[11]) (by kernel_rfl) (by simp) ?_
               refine AllReadyH.cons (o:=⟨some 207,_,_,_,_,_⟩) rfl (fun K' hK'=>?_) AllReadyH.nil;refine step_append_sto (by with_reducible rfl) _ _ (by with_reducible rfl) (by rfl) (v:=.slice qm Ml cm) (by rfl) R1.o k.1 BY.o (by rfl) L1b.o S1.o ?_
               intro q2 c2 w3 hr3;rw [← HMM.o] at hr3 ⊢;obtain ⟨M1,hM1⟩:∃ M1,M1=M ++ k.1:=⟨_,rfl⟩
               rw [← hM1] at hr3 MN;have LM:=Lv (show M1.length=Ml + k.1.length by rw [hM1,List.length_append,← HMM.o]);have z3:=hr3.grown.cell Z3 (fun e=>absurd (BLK.o _ e.symm) (Nat.lt_irrefl _));have I4:=Lv (zero_is z3);have D4:=Lv (D3.o.step hr3);refine hK'.out _ _ D4.o.grown (fun hS=>?_);clear hK' K' hM1 R1 S1 L1b hr3 z3 Z3 D3
               try simp only [Act.put,List.setIfInBounds_toArray,List.set_cons_zero,List.set_cons_succ]
               have R4:=Lv (Xm.refl D4.o.b);have S4:=Lv D4.o.grown.size;have L4:=Lv (show M1.length + 1≤140737488355328 by rw [LM.o];omega);refine wpAnyH_ready (rs:=[13]) (by kernel_rfl) (by simp) ?_
               refine AllReadyH.cons (o:=⟨some 209,_,_,_,_,_⟩) rfl (fun K' hK'=>?_) AllReadyH.nil;refine Bb (by with_reducible rfl) _ _ (by with_reducible rfl) (by rfl) (v:=.slice q2 (Ml + k.1.length) c2) (by rfl) R4.o [0] 1 rfl (by rfl) I4.o L4.o S4.o ?_
               intro q4 c4 w5 hr5;rw [LM.o] at hr5 ⊢;obtain ⟨M2,hM2⟩:∃ M2,M2=M1 ++ [0]:=⟨_,rfl⟩
               rw [← hM2] at hr5 MN;have d5:=D4.o.step hr5;refine hK'.out _ _ d5.grown (fun hS=>?_);clear hK' K' R4 S4 L4 I4 D4;refine tkY (i:=14) (oi:=⟨some 12,_,_,_,_,_⟩) (v:=Value.slice q4 (Ml + k.1.length + 1) c4) rfl (by kernel_rfl) (fun _ _ _ h=>h) rfl (fun V hV=>?_) hS ?_
               ·go_simp
               try simp only [Act.put,List.setIfInBounds_toArray,List.set_cons_zero,List.set_cons_succ]
               refine wpAnyH_done (by kernel_rfl) ?_ _
               have LN:=Lv (show M2.length=Ml + k.1.length + 1 by rw [hM2,List.length_append,LM.o];rfl);have D5:=Lv d5;have MNH:=Lv MN;clear MN;have PT:=Lv (Vk (n:=p) hp64 w5);have yp:=Qv d5.grown CP.o;have hpw:IntKind.u64.wrap (p:Int)=p:=by rw [IntKind.wrap_u64];omega
               clear hM2 hr5 d5 hS;go_wp2_with fail;refine PT.o.mono ?_
               rintro e w6 ⟨⟨q6,c6,rfl,ho6⟩,hg6⟩;have I6:=Lv (Qk.of_own rfl ho6);have D6:=Lv (D5.o.past hg6);have R6:=Lv (Xm.refl D6.o.b);have S6:=Lv D6.o.grown.size;have L6:=Lv (show M2.length + (encU p).length≤140737488355328 by rw [LN.o];omega);clear ho6 hg6 D5 PT yp;go_wp2_with (at_builtin;refine Zi rfl _ _ rfl rfl (v:=.slice q4 (Ml + k.1.length + 1) c4) (by rfl) R6.o (encU p) (encU p).length rfl (by rfl) I6.o L6.o S6.o ?_)
               intro q7 c7 w7 hr7;have L7:=Lv hr7.len;have d7:=D6.o.step hr7;rw [MNH.o] at d7 L7;have D7:=Lv d7;clear hr7 d7 R6 S6 L6 I6 D6;go_wp2;go_roundw
               case rel=>exact ⟨⟨j + 1,q7,c7,by rw [← HKL.o];exact hjl,by go_num,by rw [L7.o],by rw [L7.o];exact D7.o⟩⟩
               case measure=>simp [intOf];omega
             ·have hje:j=kl:=by have:=HKL.o;omega
              subst hje;have dj:decide ((j:Int) < (j:Int))=false:=by simp
              have htk:F2 ++ (nd.kids.take j).flatMap (kidB pl)=layB pl (P.take (i + 1)):=by rw [HKL.o,List.take_length,TNX.o]
              rw [htk,HL1.o] at hd;rw [htk];have DD:=Lv hd;obtain ⟨PL,hPL⟩:∃ P',P'=(layB pl (P.take (i + 1))).length:=⟨_,rfl⟩
              rw [← hPL];have HPP:=Lv hPL;clear hd htk hPL;go_wp2;go_roundw
              case rel=>exact ⟨⟨i + 1,qm,cm,hlt,by go_num,HA9.o,by rw [HPP.o],DD.o⟩⟩
              case measure=>simp [intOf];omega
         ·have him:m=i:=by omega
          subst him;have dl:decide ((m:Int) < (m:Int))=false:=by simp
          have htk:P.take m=P:=by rw [← PM.o,List.take_length]
          rw [htk,nextL_all PM.o] at hd;rw [htk];have e1:Xc pl 0 P=Qs P (t + 1):=by rw [HPL.o];rfl
          rw [e1] at hd;have D8:=Lv hd;have HU8:=Lv (HU.o.grown hd.grown);obtain ⟨PL,hPL⟩:∃ P',P'=(layB pl P).length:=⟨_,rfl⟩
          have HPP:=Lv hPL;have hpn:PL≤558211072:=by rw [hPL];exact PLN.o
          rw [← hPL] at D8 ⊢;obtain ⟨w8,hw8⟩:∃ W,W=wy:=⟨_,rfl⟩
          subst hw8;have RL1:=Lv (show (Qs P (t + 1)).length=m from by rw [Bq,PM.o]);have RL0:=Lv (show (Qs P t).length=m from by rw [Bq,PM.o]);have N8:=Lv (Kq.of D8.o.n);rw [HPL.o] at HU8;have SE:=Lv (show RmE w8 w8 (Qs P (t + 1)) (Qs P t) m (.bool true) (.int .i64 0) from ⟨⟨0,true,Nat.zero_le _,rfl,rfl,by simp⟩,Qq _ _⟩);clear hd htk e1 hPL hi hlt
          go_wp2;go_loopw [18,19] (fun v18 v19 wx=>RmE w8 wx (Qs P (t + 1)) (Qs P t) m v18 v19) (fun _ v19 _=>m - (intOf v19).toNat)
          case atStart=>exact SE.o
          case round =>
           obtain ⟨⟨i,b,hi,rfl,rfl,hb⟩,hg⟩:=hrel;obtain ⟨wy,hwy⟩:∃ W,W=wr:=⟨_,rfl⟩
           subst hwy;clear SE;have HB:=Lv hb;have GE:=Lv hg;clear hb;by_cases hlt:i < m
           ·have dl:decide ((i:Int) < (m:Int))=true:=by simp;omega
            have hiI:(i:Int) < (m:Int):=by omega
            obtain ⟨x,hx⟩:∃ x,(Qs P (t + 1))[i]?=some x:=⟨_,List.getElem?_eq_getElem (by rw [RL1.o];exact hlt)⟩
            obtain ⟨y,hy⟩:∃ y,(Qs P t)[i]?=some y:=⟨_,List.getElem?_eq_getElem (by rw [RL0.o];exact hlt)⟩
            have TS:=Lv (take_sameR hx hy);obtain ⟨g1,e1,c1⟩:=(N8.o.grown hg) i (x:Int) (by have:=Pw (l:=Qs P (t + 1)) (i:=i) (by rw [RL1.o];exact hlt);rw [List.getD_eq_getElem?_getD,hx] at this;exact this);injection e1 with e1;injection e1 with e1 _ _;subst e1;obtain ⟨gp,rfl,c0⟩:=(HU8.o.grown hg) i (y:Int) (by have:=Pw (l:=Qs P t) (i:=i) (by rw [RL0.o];exact hlt);rw [List.getD_eq_getElem?_getD,hy] at this;exact this)
            clear hx hy hg;cases b
            ·go_wp2
             go_quiet (fail);go_wp2;go_roundw
             case rel=>exact ⟨⟨i + 1,false,hlt,by go_num,rfl,by
              rw [TS.o]
              constructor
              ·intro h;cases h
              ·rintro ⟨h,-⟩;exact HB.o.2 h⟩,Qj GE.o _⟩
             case measure=>simp [intOf];omega
            ·by_cases hxy:x=y
             ·subst hxy
              have db:((x:Int) == (x:Int))=true:=by simp
              go_wp2;go_quiet (fail);go_wp2;go_roundw
              case rel=>exact ⟨⟨i + 1,true,hlt,by go_num,rfl,by
               rw [TS.o];exact ⟨fun _=>⟨HB.o.1 (by first | rfl | trivial),by first | rfl | trivial⟩,fun _=>by first | rfl | trivial⟩⟩,Qj GE.o _⟩
              case measure=>simp [intOf];omega
             ·have db:((x:Int) == (y:Int))=false:=by simp;omega
              have hxi:¬ ((x:Int)=(y:Int)):=by omega
              have HXY:=Lv hxy;go_wp2;go_quiet (fail);go_wp2;go_roundw
              case rel=>exact ⟨⟨i + 1,false,hlt,by go_num,rfl,by
               rw [TS.o]
               constructor
               ·intro h;cases h
               ·rintro ⟨-,h⟩;exact absurd h HXY.o⟩,Qj GE.o _⟩
              case measure=>simp [intOf];omega
           ·have him:m=i:=by omega
            subst him;have dl:decide ((m:Int) < (m:Int))=false:=by simp
            have HB2:=Lv (show b=true↔Qs P (t + 1)=Qs P t from by
             have h1:(Qs P (t + 1)).take m=Qs P (t + 1):=by rw [← RL1.o,List.take_length]
             have h2:(Qs P t).take m=Qs P t:=by rw [← RL0.o,List.take_length]
             have h3:=HB.o;rw [h1,h2] at h3;exact h3)
            have DD:=Lv (D8.o.past hg);have ND:=Lv (N8.o.grown hg);have GG:=Lv (Qz GW0.o (Qz D8.o.grown hg));clear hg hlt hi;cases b
            ·have LT:=Lv (sum_lt (rounds_le P t) (fun e=>by have:=HB2.o.2 e.symm;cases this))
             have RS:=Lv (sum_le (P:=Qs P (t + 1)) (M:=558211072) (RO.o (t + 1)).1);go_wp2;go_roundg (m * 1099511627776 - sumN (Qs P (t + 1)))
             case measure=>have h1:=LT.o;have h2:=RS.o;have h3:=HK.o;rw [RL1.o] at h2;omega
             case rel=>exact ⟨⟨t + 1,_,_,Nat.le_refl _,rfl,ND.o,Nat.le_refl _,by omega⟩,Qz HG.o (Qz D8.o.grown GE.o)⟩
            ·have FX:=Lv (show (1048576 < PL→MkIs D 11 [])∧(PL≤1048576→MkIs D 0 (layB pl P)) from by
              have h:=DONE.o t (HB2.o.1 (by first | rfl | trivial));rw [← HPL.o] at h;rw [HPP.o];exact h)
             by_cases hbig : 1048576 < PL
             ·have db:decide ((1048576:Int) < (PL:Int))=true:=by simp;omega
              have hbI:(1048576:Int) < (PL:Int):=by omega
              go_wp2;go_ret2
              exact ⟨⟨11,[],none,0,rfl,FX.o.1 hbig,World.ownsRow_nil _ _ _ _⟩,GG.o⟩
             ·have db:decide ((1048576:Int) < (PL:Int))=false:=by simp;omega
              have hbI:¬ ((1048576:Int) < (PL:Int)):=by omega
              go_wp2;go_ret2
              obtain rfl:=HPP.o;exact ⟨⟨0,layB pl P,qb,cb,rfl,FX.o.2 (by omega),Go.Joins.ownsRow_le DD.o.b GW0.o.size⟩,GG.o⟩
end
end Go.Proofs.YtkmbkpoclhbmgaaGreat
