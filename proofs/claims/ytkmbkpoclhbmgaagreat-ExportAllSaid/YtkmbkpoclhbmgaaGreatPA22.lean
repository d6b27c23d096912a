/- Parts of the proof, put together: SeenTake, RefImg, ImT, ExAx, ExP, ExT. No condition beyond those that each part names. -/
import Derived.Test.YtkmbkpoclhbmgaaGreatPA21
set_option maxRecDepth 20000
set_option maxHeartbeats 6400000
namespace Go.Proofs.YtkmbkpoclhbmgaaGreat
open Go.RowKit
variable {w w' W V:World}
section
variable {w w':World} {lo g:Nat} {h:Hx} {s:St}
theorem Ze.as {s1 s':St} {f1 f':Fl} {k1 k' er er':Int} {e:Ending} (o:Ze w w' lo g h s1 f1 k1 er e) (he:er=er') (hs:er'=0→({ s1 with met:=[],secs:=0 }:St)={ s' with met:=[],secs:=0 }) (hf:er'=0→f1=f') (hk:er'=0→k1=k'):Ze w w' lo g h s' f' k' er' e:=by
 subst he;exact ⟨o.val,fun hz=>(o.good hz).as (hs hz) (hf hz) (hk hz),o.below⟩
structure Sl (w w':World) (lo g:Nat) (h:Hx) (s:St) (b:List Int) (e:Ending):Prop where
 out:Ze w w' lo g h (Zg s b) (flOf (Zg s b)) (Zg s b).secs (Zs s b) e
theorem take5_any (H:Xa w lo g h s (flOf s) s.secs) (T:TrOk s) (h16:s.segs.length≤16) (h64 : 0≤s.secs∧s.secs≤64) (hd64:s.deps.length≤64) (b:List Int) (q:Option Addr) (c n:Nat) (hb:Qk w q c b) (hn:b.length=n) (hc:n≤c) (hcm:c≤9223372036854775807) (hn47:n≤140737488355328) (hr:Q3 b) (h8 : 8≤n) (hq:∀ x,q=some x→x.block < lo) :
  Calls Tryz.prog 77 #[.pointer (some ⟨g,0,none⟩),.slice q n c] w fun e w'=>Sl w w' lo g h s b e:=by
 by_cases hs:Ji b
 ·have SE:=Lv (step_short_err (s:=s) hs (by omega))
  have CD:=Lv (Rh (w:=w) b hb hn hc hcm hr hs);have BR:=Lv (Below.refl lo w);clear H hb hn hr hs T hq;go_enter Tryz.func77,Tryz.ntmps77;go_wp2_with fail;refine CD.o.mono ?_
  rintro e w1 ⟨cm,rfl,rfl⟩;go_wp2;go_ret
  exact ⟨⟨by rw [SE.o];rfl,fun hz=>(by rw [SE.o] at hz;cases hz),BR.o⟩⟩
 have CD:=Lv (Y7 (w:=w) b hb hn hc hcm hr hs);have hcb:=Jm hr 0;obtain ⟨cm,hcm'⟩:∃ z,z=Qd b:=⟨_,rfl⟩
 have e1:Qc b 0 4=cm:=hcm'.symm;rw [← hcm'] at CD;rw [e1] at hcb;have CE:=Lv hcm';have LS:=Lv (fun w:World=>Mi (w:=w) cm);have DP:=Lv (fun w:World=>Tr (w:=w) cm);clear hcm' e1;rcases cmd_ways cm with ⟨hl,n25,n13,nd,nsp,nen⟩ | ⟨hl,hw⟩
 ·-- an unknown one
  have hS:Zg s b=s:=by
   unfold Zg;rw [← CE.o,if_neg n25,if_neg n13,if_neg (by rw [nd];simp),if_neg nsp,if_neg nen]
  have hE:Zs s b=if 2147483648≤cm then 7 else 0:=by
   unfold Zs;rw [← CE.o,if_neg n25,if_neg n13,if_neg (by rw [nd];simp),if_neg nsp,if_neg nen]
  have fin:∀ e,e=.returned (.int .i64 (if 2147483648≤cm then 7 else 0))→Sl w w lo g h s b e:=fun e he=>⟨by rw [hS,hE];exact ⟨he,fun _=>H,Below.refl _ _⟩⟩
  have FIN:=Lv fin;rw [hl] at LS;clear H hb hn hr hs T hq hS hE fin n25 n13 nd nsp nen hl;by_cases h31 : 2147483648≤cm
  ·have d1:decide ((2147483648:Int)≤cm)=true:=by simpa using h31
   rw [if_pos h31] at FIN;clear h31;go_enter Tryz.func77,Tryz.ntmps77;go_wp2_with fail;refine CD.o.mono ?_
   rintro e w1 ⟨rfl,rfl⟩;go_wp2_with (go_at_call 117;refine (LS.o _).mono ?_;rintro e w2 ⟨rfl,rfl⟩)
   go_ret
   exact FIN.o _ rfl
  ·have d1:decide ((2147483648:Int)≤cm)=false:=by simp;omega
   rw [if_neg h31] at FIN;clear h31;go_enter Tryz.func77,Tryz.ntmps77;go_wp2_with fail;refine CD.o.mono ?_
   rintro e w1 ⟨rfl,rfl⟩;go_wp2_with (go_at_call 117;refine (LS.o _).mono ?_;rintro e w2 ⟨rfl,rfl⟩)
   go_ret
   exact FIN.o _ rfl
 obtain ⟨L,hL⟩:∃ L,L=Xx cm:=⟨_,rfl⟩
 rw [← hL] at LS hl;clear hL;have ns:∀ (P:Prop) [Decidable P] (x y:Int),¬ P→(if P then x else y)=y:=fun P _ x y h=>if_neg h;clear ns;rcases hw with rfl | rfl | ⟨n25,n13,hd⟩ | rfl | rfl | rfl | rfl | rfl | rfl
 ·have SG:=Lv (rseg_any H b q c n hb hn hc hcm hn47 hr h16 h64)
  have hS:Zg s b=segS s b:=by unfold Zg;rw [if_pos CE.o.symm]
  have hE:Zs s b=segE s b:=by unfold Zs;rw [if_pos CE.o.symm]
  have FIN:=Lv (fun w' e (o:Ze w w' lo g h (segS s b) (flOf s) (s.secs + (Ky b).secs.length) (segE s b) e)=>(⟨by rw [hS,hE];exact o⟩:Sl w w' lo g h s b e));clear H hb hn hr hs T hq hS hE;go_enter Tryz.func77,Tryz.ntmps77;go_wp2_with fail;refine CD.o.mono ?_
  rintro e w1 ⟨rfl,rfl⟩;go_wp2_with (go_at_call 117;refine (LS.o _).mono ?_;rintro e w2 ⟨rfl,rfl⟩)
  refine SG.o.mono ?_
  intro e w2 hO;have OO:=Lv hO;obtain rfl:=hO.val;clear hO;go_wp2;go_ret
  exact FIN.o _ _ OO.o
 ·have NA:=Lv (refName_all (w:=w) b hb hn hc hcm hr)
  have hS:Zg s b=ownS s b:=by unfold Zg;rw [if_neg (by rw [← CE.o];decide),if_pos CE.o.symm]
  have hE:Zs s b=if Xj b≠0 then Xj b else Kr s 13:=by unfold Zs;rw [if_neg (by rw [← CE.o];decide),if_pos CE.o.symm];rfl
  obtain ⟨E,hE2⟩:∃ E,E=Xj b:=⟨_,rfl⟩
  have hNN:E=0→Wu b=Vz b:=fun h=>by unfold Wu;rw [if_pos (by rw [← hE2];exact h)]
  rw [← hE2] at NA hE;obtain ⟨T',hT⟩:∃ T',T'=Wu b:=⟨_,rfl⟩
  rw [← hT] at NA hNN;have HE:=Lv hE;have HS:=Lv hS;have HH:=Lv H;have NN:=Lv hNN;clear H hb hn hr hs T hq hS hE hE2 hT hNN;by_cases h0:E=0
  rotate_left
  ·have hne:(E != 0)=true:=by simpa using h0
   have H0:=Lv h0;clear h0;go_enter Tryz.func77,Tryz.ntmps77;go_wp2_with fail;refine CD.o.mono ?_
   rintro e w1 ⟨rfl,rfl⟩;go_wp2_with (first | (go_at_call 117;refine (LS.o _).mono ?_;rintro e w2 ⟨rfl,rfl⟩) | (go_at_call 120;refine NA.o.mono ?_;rintro e w2 ⟨rfl,rfl⟩))
   go_ret
   have hE3:=HE.o.trans (if_pos H0.o);exact ⟨⟨by rw [hE3];rfl,fun hz=>absurd (hE3.symm.trans hz) H0.o,Below.refl _ _⟩⟩
  subst h0;have hE3:=HE.o.trans (if_neg (by simp));have TN:=Lv (NN.o rfl);obtain ⟨sv,dv,a1⟩:=HH.o.at;obtain ⟨fn,hfn⟩:∃ z,z=decide (13∈s.met):=⟨_,rfl⟩
  have c24:=a1.c 24 (.bool (decide (13∈s.met))) rfl;rw [← hfn] at c24;have f24:=a1.fz 24;have gl:=a1.lt;have ON:=Lv (Kg c24 f24 gl);have gS:=Qx (i:=24) (Qq w (some g)) (.bool true);have H2:=Lv (HH.o.cells (s':=s) (f':=flOf (s.meet 13)) (k':=s.secs) gS (fun sv dv a=>by
   unfold Zm;rw [heap_setCell_same w g 24 _ _ _ a];simp [Si,flOf,St.meet]) rfl rfl)
  have B2:=Lv (Xb gS HH.o.lo1 HH.o.lt);have HX:=Lv hE3;clear c24 f24 gS a1 hE3;cases fn
  ·have hE4:=Lv (HX.o.trans (show Kr s 13=0 by unfold Kr;rw [if_neg (by simpa using hfn.symm)]))
   clear hfn;go_enter Tryz.func77,Tryz.ntmps77;go_wp2_with fail;refine CD.o.mono ?_
   rintro e w1 ⟨rfl,rfl⟩;go_wp2_with (first | (go_at_call 117;refine (LS.o _).mono ?_;rintro e w2 ⟨rfl,rfl⟩) | (go_at_call 120;refine NA.o.mono ?_;rintro e w2 ⟨rfl,rfl⟩))
   refine ON.o.mono ?_
   rintro e w2 ⟨rfl,rfl⟩;obtain ⟨W,hW⟩:∃ W,w.setCell ⟨g,24,none⟩ (.bool true)=W:=⟨_,rfl⟩
   rw [hW] at H2 B2 ⊢;clear hW;obtain ⟨sv2,dv2,a2⟩:=H2.o.at;have c3:=a2.c 3 (.string (strOfNums s.name)) rfl;have f3:=a2.fz 3;have gl2:=a2.lt;have gT:=Qx (i:=3) (Qq W (some g)) (.string (strOfNums T'));have H3:=Lv (H2.o.cells (s':={ s with name:=T' }) (f':=flOf (s.meet 13)) (k':=s.secs) gT (fun sv dv a=>by
    unfold Zm;rw [heap_setCell_same W g 3 _ _ _ a];rfl) rfl rfl)
   have B3:=Lv (B2.o.trans (Xb gT H2.o.lo1 H2.o.lt));clear a2 gT;go_wp2;go_ret
   refine ⟨⟨by rw [hE4.o];rfl,fun _=>?_,B3.o⟩⟩;rw [HS.o];refine H3.o.as ?_ ?_ rfl
   ·unfold ownS St.meet
    rw [TN.o]
   ·unfold ownS flOf St.meet;simp
  ·have hE4:=Lv (HX.o.trans (show Kr s 13=21 by unfold Kr;rw [if_pos (by simpa using hfn.symm)]))
   clear hfn;go_enter Tryz.func77,Tryz.ntmps77;go_wp2_with fail;refine CD.o.mono ?_
   rintro e w1 ⟨rfl,rfl⟩;go_wp2_with (first | (go_at_call 117;refine (LS.o _).mono ?_;rintro e w2 ⟨rfl,rfl⟩) | (go_at_call 120;refine NA.o.mono ?_;rintro e w2 ⟨rfl,rfl⟩))
   refine ON.o.mono ?_
   rintro e w2 ⟨rfl,rfl⟩;go_wp2;go_ret
   exact ⟨⟨by rw [hE4.o];rfl,fun hz=>(by rw [hE4.o] at hz;cases hz),B2.o⟩⟩
 ·have NA:=Lv (refName_all (w:=w) b hb hn hc hcm hr)
  have hS:Zg s b=depS s b (Xr cm):=by unfold Zg;rw [← CE.o,if_neg n25,if_neg n13,if_pos hd]
  have hE:Zs s b=if Xj b≠0 then Xj b else if s.deps.length=64 then 11 else 0:=by unfold Zs;rw [← CE.o,if_neg n25,if_neg n13,if_pos hd];rfl
  obtain ⟨E,hE2⟩:∃ E,E=Xj b:=⟨_,rfl⟩
  have hNN:E=0→Wu b=Vz b:=fun h=>by unfold Wu;rw [if_pos (by rw [← hE2];exact h)]
  rw [← hE2] at NA hE;obtain ⟨T',hT⟩:∃ T',T'=Wu b:=⟨_,rfl⟩
  rw [← hT] at NA hNN;have HE:=Lv hE;have HS:=Lv hS;have HH:=Lv H;have NN:=Lv hNN;have p1:(cm == 25)=false:=by simpa using n25
  have p2:(cm == 13)=false:=by simpa using n13
  obtain ⟨kk,hkk⟩:∃ z,z=Xr cm:=⟨_,rfl⟩
  rw [← hkk] at DP hd HS;have p3:(kk != 0)=true:=by simpa using hd
  clear H hb hn hr hs T hq hS hE hE2 hT hNN n25 n13 hd hkk;by_cases h0:E=0
  rotate_left
  ·have hne:(E != 0)=true:=by simpa using h0
   have H0:=Lv h0;clear h0;go_enter Tryz.func77,Tryz.ntmps77;go_wp2_with fail;refine CD.o.mono ?_
   rintro e w1 ⟨rfl,rfl⟩;go_wp2_with (first | (go_at_call 117;refine (LS.o _).mono ?_;rintro e w2 ⟨rfl,rfl⟩) | (go_at_call 119;refine (DP.o _).mono ?_;rintro e w2 ⟨rfl,rfl⟩) | (go_at_call 120;refine NA.o.mono ?_;rintro e w2 ⟨rfl,rfl⟩))
   go_ret
   have hE3:=HE.o.trans (if_pos H0.o);exact ⟨⟨by rw [hE3];rfl,fun hz=>absurd (hE3.symm.trans hz) H0.o,Below.refl _ _⟩⟩
  subst h0;have hE3:=HE.o.trans (if_neg (by simp));have TN:=Lv (NN.o rfl);obtain ⟨sv,dv,l,a1,a2,a3,a4,a5⟩:=HH.o.ex;obtain ⟨qd,cd,rfl⟩:=Qp a5;obtain ⟨D,hD⟩:∃ D,D=s.deps.length:=⟨_,rfl⟩
  have c5:=a1.c 5 (.slice qd s.deps.length cd) rfl;have f5:=a1.fz 5;have gl:=a1.lt;by_cases hfull:s.deps.length=64
  ·have OF:=Lv (hE3.trans (if_pos hfull))
   rw [hfull] at c5;clear a1 a2 a3 a4 a5 hE3 hfull hD;go_enter Tryz.func77,Tryz.ntmps77;go_wp2_with fail;refine CD.o.mono ?_
   rintro e w1 ⟨rfl,rfl⟩;go_wp2_with (first | (go_at_call 117;refine (LS.o _).mono ?_;rintro e w2 ⟨rfl,rfl⟩) | (go_at_call 119;refine (DP.o _).mono ?_;rintro e w2 ⟨rfl,rfl⟩) | (go_at_call 120;refine NA.o.mono ?_;rintro e w2 ⟨rfl,rfl⟩))
   go_ret
   exact ⟨⟨by rw [OF.o];rfl,fun hz=>(by rw [OF.o] at hz;cases hz),Below.refl _ _⟩⟩
  have OF:=Lv (hE3.trans (if_neg hfull));have hd:((s.deps.length:Int) == 64)=false:=by simp;omega
  have hlt:s.deps.length < 64:=by omega
  have A5:=a5;rw [← hD] at c5 hd hlt A5;have DE:=Lv hD;obtain ⟨gx,hgx⟩:∃ wx,wx=(w.alloc (.cells #[.string (strOfNums T'),.int .i64 kk] 124)).drew:=⟨_,rfl⟩
  have g2:w.grownBy (w.alloc (.cells #[.string (strOfNums T'),.int .i64 kk] 124)).drew none:=Qj (grown1 w (.cells #[.string (strOfNums T'),.int .i64 kk] 124)) 1;have HD:=Lv (fun (w3:World) (dv':Value) (ho:w3.ownsRow lo 124 2 dv' (D + 1) (s.deps.flatMap Bi ++ Bi (T',kk))) (hg:(w.alloc (.cells #[.string (strOfNums T'),.int .i64 kk] 124)).drew.grownBy w3 (Value.slice qd s.deps.length cd).ownBlock) =>
   holdsR_dep (x:=(T',kk)) (a1.kept g2 (by simp)) a2 (Qy a3 g2) (fun x hx=>Qy (a4 x hx) g2) (Qy a5 g2) HH.o.lo1 (hD ▸ ho) hg)
  have NG:=Ja (Qy a5 g2) (a1.kept g2 (by simp)) Ys.2.2.1;have AK:=Lv (a1.kept g2 (by simp));have OWA:=Lv (Qy A5 g2);have HNA:=Lv (show (w.alloc (.cells #[.string (strOfNums T'),.int .i64 kk] 124)).drew.heap[w.heap.size]?=some (.cells (Bi (T',kk)).toArray 124 (0,0)) from heap_alloc_new w _);have HLO:=Lv (show lo≤(w.alloc (.cells #[.string (strOfNums T'),.int .i64 kk] 124)).drew.heap.size from Nat.le_trans HH.o.lt g2.size)
  have ng:(Value.slice qd D cd).ownBlock≠some g:=by
   rw [hD];rcases NG with e | e
   ·rw [e];simp
   ·exact e
  have NGH:=Lv ng;have OW:=Lv A5;have GA:=Lv g2;obtain ⟨rows,hrows⟩:∃ r,r=s.deps.flatMap Bi:=⟨_,rfl⟩
  rw [← hrows] at HD OWA OW;have hgx2:(Value.slice qd s.deps.length cd).ownBlock=(Value.slice qd D cd).ownBlock:=by rw [hD]
  have HD2:=Lv (fun (w3:World) (dv':Value) ho (hg:(w.alloc (.cells #[.string (strOfNums T'),.int .i64 kk] 124)).drew.grownBy w3 (Value.slice qd D cd).ownBlock)=>HD.o w3 dv' ho (by rw [hgx2];exact hg));have AK2:=Lv (show Zm (w.alloc (.cells #[.string (strOfNums T'),.int .i64 kk] 124)).drew g h s sv (.slice qd D cd) (flOf s) s.secs by rw [hD];exact AK.o);clear hD a1 a2 a3 a4 a5 A5 g2 hfull hE3 hrows hgx2 HD AK NG ng hgx gx
  go_enter Tryz.func77,Tryz.ntmps77;go_wp2_with fail;refine CD.o.mono ?_
  rintro e w1 ⟨rfl,rfl⟩;go_upto_region 21 with (first | (go_at_call 117;refine (LS.o _).mono ?_;rintro e w2 ⟨rfl,rfl⟩) | (go_at_call 119;refine (DP.o _).mono ?_;rintro e w2 ⟨rfl,rfl⟩) | (go_at_call 120;refine NA.o.mono ?_;rintro e w2 ⟨rfl,rfl⟩))
  go_region_law (first | (refine Bg depType (by with_reducible rfl) _ _ (by with_reducible rfl) _ D 1 rows (by rfl) OWA.o (Bi (T',kk)) rfl w.heap.size (by rfl) HNA.o (depCs_one _) (by omega) (by decide) HLO.o ?_;intro v5 w5 ho5 hg5;obtain ⟨q5,c5',rfl⟩:=Qp ho5;have c4':=(AK2.o.kept hg5 NGH.o).c 5 (.slice qd D cd) rfl;have f4':=(AK2.o.kept hg5 NGH.o).fz 5;have gl':=(AK2.o.kept hg5 NGH.o).lt) | (go_simp;go_at_call 119;refine (DP.o _).mono ?_;rintro e w2 ⟨rfl,rfl⟩))
  all_goals
   have HF:=Lv (HD2.o _ _ ho5 hg5);have hlo:=fun g' (e:(Value.slice qd D cd).ownBlock=some g')=>(OW.o.lt g' e).1;have B5:=Lv (Below.trans (Qg GA.o HH.o.lt (by simp)) (Qg hg5 HLO.o hlo));have B6:=Lv (B5.o.trans (Xb (Qx (i:=5) (Qq w5 (some g)) (.slice q5 (D + 1) c5')) HH.o.lo1 (Nat.le_trans HLO.o hg5.size)));clear ho5 hg5 c4' f4' gl' B5
   go_wp2;go_ret
   refine ⟨⟨by rw [OF.o];rfl,fun _=>?_,B6.o⟩⟩;rw [HS.o];refine HF.o.as ?_ rfl rfl
   unfold depS;rw [TN.o]
 ·have RS:=Lv (rinfo_any H b 34 (.inl rfl) q c n hb hn hc hcm hr hs hq CE.o.symm)
  have hi:Xq (Qd b):=by rw [← CE.o];exact .inl rfl
  have hsp:Jo b=0:=by unfold Jo;rw [if_neg hs,if_pos (.inl hi)]
  have hS:Zg s b=Km (Vr s b) (Qb b 40 1):=by unfold Zg;rw [if_neg (by rw [← CE.o];decide),if_neg (by rw [← CE.o];decide),if_neg (by rw [← CE.o];decide),if_pos (.inl hi)];unfold spS;rw [if_pos hi]
  have hE:Zs s b=if Kr s 34≠0 then Kr s 34 else Rm (Vr s b) (Qb b 40 1):=by unfold Zs;rw [if_neg (by rw [← CE.o];decide),if_neg (by rw [← CE.o];decide),if_neg (by rw [← CE.o];decide),if_pos (.inl hi)];unfold spE;rw [if_neg (by rw [hsp];simp),if_pos hi]
  have hX:(if (flOf s).sp=true then 21 else Y8 ({ s with rb:=Qb b 8 1,bd:=Qb b 16 1,wk:=Qb b 24 1,lz:=Qb b 32 1 }:St) (Qb b 40 1))=Zs s b:=by
   rw [hE,Mo (T.info b) _ (Bz hr 40)];unfold Kr;by_cases hm:(34:Int)∈s.met
   ·rw [if_pos (show (flOf s).sp=true from decide_eq_true hm),if_pos hm];rfl
   ·rw [if_neg (show ¬ (flOf s).sp=true by show ¬ decide (34∈s.met)=true;simpa using hm),if_neg hm];rfl
  have FIN:=Lv (fun w' e (o:Ze w w' lo g h (Gi ({ s with rb:=Qb b 8 1,bd:=Qb b 16 1,wk:=Qb b 24 1,lz:=Qb b 32 1 }:St) (Qb b 40 1)) { flOf s with sp:=true } s.secs (if (flOf s).sp=true then 21 else Y8 ({ s with rb:=Qb b 8 1,bd:=Qb b 16 1,wk:=Qb b 24 1,lz:=Qb b 32 1 }:St) (Qb b 40 1)) e)=>(by
   refine o.as hX (fun _=>?_) (fun _=>?_) (fun _=>?_)
   ·rw [hS];exact (Se ({ s with rb:=Qb b 8 1,bd:=Qb b 16 1,wk:=Qb b 24 1,lz:=Qb b 32 1 }:St) (Qb b 40 1)).trans (by unfold Km Vr St.meet;split <;> rfl)
   ·rw [hS,Su];unfold Vr flOf St.meet;simp
   ·rw [hS];unfold Km Vr St.meet;split <;> rfl
   : Ze w w' lo g h (Zg s b) (flOf (Zg s b)) (Zg s b).secs (Zs s b) e))
  clear hX;obtain ⟨er,her⟩:∃ z:Int,z=(if (flOf s).sp=true then 21 else Y8 ({ s with rb:=Qb b 8 1,bd:=Qb b 16 1,wk:=Qb b 24 1,lz:=Qb b 32 1 }:St) (Qb b 40 1)):=⟨_,rfl⟩
  rw [← her] at RS FIN;clear her;clear H hb hn hr hs T hq hE hS;go_enter Tryz.func77,Tryz.ntmps77;go_wp2_with fail;refine CD.o.mono ?_
  rintro e w1 ⟨rfl,rfl⟩;go_wp2_with (first | (go_at_call 117;refine (LS.o _).mono ?_;rintro e w2 ⟨rfl,rfl⟩) | (go_at_call 119;refine (DP.o _).mono ?_;rintro e w2 ⟨rfl,rfl⟩))
  refine RS.o.mono ?_
  intro e w2 hO;have OO:=Lv (FIN.o _ _ hO);obtain rfl:=hO.val;clear hO;go_wp2;go_ret
  exact ⟨OO.o⟩
 ·have RS:=Lv (rinfo_any H b 2147483682 (.inr rfl) q c n hb hn hc hcm hr hs hq CE.o.symm)
  have hi:Xq (Qd b):=by rw [← CE.o];exact .inr rfl
  have hsp:Jo b=0:=by unfold Jo;rw [if_neg hs,if_pos (.inl hi)]
  have hS:Zg s b=Km (Vr s b) (Qb b 40 1):=by unfold Zg;rw [if_neg (by rw [← CE.o];decide),if_neg (by rw [← CE.o];decide),if_neg (by rw [← CE.o];decide),if_pos (.inl hi)];unfold spS;rw [if_pos hi]
  have hE:Zs s b=if Kr s 34≠0 then Kr s 34 else Rm (Vr s b) (Qb b 40 1):=by unfold Zs;rw [if_neg (by rw [← CE.o];decide),if_neg (by rw [← CE.o];decide),if_neg (by rw [← CE.o];decide),if_pos (.inl hi)];unfold spE;rw [if_neg (by rw [hsp];simp),if_pos hi]
  have hX:(if (flOf s).sp=true then 21 else Y8 ({ s with rb:=Qb b 8 1,bd:=Qb b 16 1,wk:=Qb b 24 1,lz:=Qb b 32 1 }:St) (Qb b 40 1))=Zs s b:=by
   rw [hE,Mo (T.info b) _ (Bz hr 40)];unfold Kr;by_cases hm:(34:Int)∈s.met
   ·rw [if_pos (show (flOf s).sp=true from decide_eq_true hm),if_pos hm];rfl
   ·rw [if_neg (show ¬ (flOf s).sp=true by show ¬ decide (34∈s.met)=true;simpa using hm),if_neg hm];rfl
  have FIN:=Lv (fun w' e (o:Ze w w' lo g h (Gi ({ s with rb:=Qb b 8 1,bd:=Qb b 16 1,wk:=Qb b 24 1,lz:=Qb b 32 1 }:St) (Qb b 40 1)) { flOf s with sp:=true } s.secs (if (flOf s).sp=true then 21 else Y8 ({ s with rb:=Qb b 8 1,bd:=Qb b 16 1,wk:=Qb b 24 1,lz:=Qb b 32 1 }:St) (Qb b 40 1)) e)=>(by
   refine o.as hX (fun _=>?_) (fun _=>?_) (fun _=>?_)
   ·rw [hS];exact (Se ({ s with rb:=Qb b 8 1,bd:=Qb b 16 1,wk:=Qb b 24 1,lz:=Qb b 32 1 }:St) (Qb b 40 1)).trans (by unfold Km Vr St.meet;split <;> rfl)
   ·rw [hS,Su];unfold Vr flOf St.meet;simp
   ·rw [hS];unfold Km Vr St.meet;split <;> rfl
   : Ze w w' lo g h (Zg s b) (flOf (Zg s b)) (Zg s b).secs (Zs s b) e))
  clear hX;obtain ⟨er,her⟩:∃ z:Int,z=(if (flOf s).sp=true then 21 else Y8 ({ s with rb:=Qb b 8 1,bd:=Qb b 16 1,wk:=Qb b 24 1,lz:=Qb b 32 1 }:St) (Qb b 40 1)):=⟨_,rfl⟩
  rw [← her] at RS FIN;clear her;clear H hb hn hr hs T hq hE hS;go_enter Tryz.func77,Tryz.ntmps77;go_wp2_with fail;refine CD.o.mono ?_
  rintro e w1 ⟨rfl,rfl⟩;go_wp2_with (first | (go_at_call 117;refine (LS.o _).mono ?_;rintro e w2 ⟨rfl,rfl⟩) | (go_at_call 119;refine (DP.o _).mono ?_;rintro e w2 ⟨rfl,rfl⟩))
  refine RS.o.mono ?_
  intro e w2 hO;have OO:=Lv (FIN.o _ _ hO);obtain rfl:=hO.val;clear hO;go_wp2;go_ret
  exact ⟨OO.o⟩
 ·have RS:=Lv (rtriec_any H b q c n hb hn hc hcm hr hs hq CE.o.symm)
  have hni:¬ Xq (Qd b):=by rw [← CE.o];unfold Xq;decide
  have hl:Xq (Qd b)∨J1 (Qd b)∨Qd b=2:=by rw [← CE.o];exact .inr (.inl (.inl rfl))
  have hsp:Jo b=0:=by unfold Jo;rw [if_neg hs,if_pos hl]
  have hS:Zg s b=Km s (Qb b 8 1):=by unfold Zg;rw [if_neg (by rw [← CE.o];decide),if_neg (by rw [← CE.o];decide),if_neg (by rw [← CE.o];decide),if_pos hl];unfold spS;rw [if_neg hni,if_pos CE.o.symm]
  have hE:Zs s b=Rm s (Qb b 8 1):=by unfold Zs;rw [if_neg (by rw [← CE.o];decide),if_neg (by rw [← CE.o];decide),if_neg (by rw [← CE.o];decide),if_pos hl];unfold spE;rw [if_neg (by rw [hsp];simp),if_neg hni,if_pos CE.o.symm]
  have FIN:=Lv (fun w' e (o:Ze w w' lo g h (Gi s (Qb b 8 1)) (flOf s) s.secs (Y8 s (Qb b 8 1)) e)=>(by
   refine o.as (by rw [hE,Mo T _ (Bz hr 8)]) (fun _=>?_) (fun _=>?_) (fun _=>?_)
   ·rw [hS];exact Se _ _
   ·rw [hS,Su]
   ·rw [hS];unfold Km St.meet;split <;> rfl
   : Ze w w' lo g h (Zg s b) (flOf (Zg s b)) (Zg s b).secs (Zs s b) e))
  obtain ⟨er,her⟩:∃ z:Int,z=(Y8 s (Qb b 8 1)):=⟨_,rfl⟩
  rw [← her] at RS FIN;clear her;clear H hb hn hr hs T hq hE hS;go_enter Tryz.func77,Tryz.ntmps77;go_wp2_with fail;refine CD.o.mono ?_
  rintro e w1 ⟨rfl,rfl⟩;go_wp2_with (first | (go_at_call 117;refine (LS.o _).mono ?_;rintro e w2 ⟨rfl,rfl⟩) | (go_at_call 119;refine (DP.o _).mono ?_;rintro e w2 ⟨rfl,rfl⟩))
  refine RS.o.mono ?_
  intro e w2 hO;have OO:=Lv (FIN.o _ _ hO);obtain rfl:=hO.val;clear hO;go_wp2;go_ret
  exact ⟨OO.o⟩
 ·have RS:=Lv (rchain_any H b q c n hb hn hc hcm hr hs hq CE.o.symm)
  have hni:¬ Xq (Qd b):=by rw [← CE.o];unfold Xq;decide
  have hl:Xq (Qd b)∨J1 (Qd b)∨Qd b=2:=by rw [← CE.o];exact .inr (.inl (.inr rfl))
  have hsp:Jo b=0:=by unfold Jo;rw [if_neg hs,if_pos hl]
  have hS:Zg s b=({ s with ch:=Qb b 8 1 }:St).meet 2147483700:=by unfold Zg;rw [if_neg (by rw [← CE.o];decide),if_neg (by rw [← CE.o];decide),if_neg (by rw [← CE.o];decide),if_pos hl];unfold spS;rw [if_neg hni,if_neg (by rw [← CE.o];decide),if_pos CE.o.symm,← CE.o]
  have hE:Zs s b=Kr s 2147483700:=by unfold Zs;rw [if_neg (by rw [← CE.o];decide),if_neg (by rw [← CE.o];decide),if_neg (by rw [← CE.o];decide),if_pos hl];unfold spE;rw [if_neg (by rw [hsp];simp),if_neg hni,if_neg (by rw [← CE.o];decide),← CE.o]
  have FIN:=Lv (fun w' e (o:Ze w w' lo g h ({ s with ch:=Qb b 8 1 }) { flOf s with ch:=true } s.secs (if (flOf s).ch=true then 21 else 0) e)=>(by
   refine o.as ?_ (fun _=>?_) (fun _=>?_) (fun _=>?_)
   ·rw [hE];unfold Kr
    by_cases hm:(2147483700:Int)∈s.met
    ·rw [if_pos (show (flOf s).ch=true from decide_eq_true hm),if_pos hm]
    ·rw [if_neg (show ¬ (flOf s).ch=true by show ¬ decide (2147483700∈s.met)=true;simpa using hm),if_neg hm]
   ·rw [hS];rfl
   ·rw [hS];unfold flOf St.meet;simp
   ·rw [hS];rfl
   : Ze w w' lo g h (Zg s b) (flOf (Zg s b)) (Zg s b).secs (Zs s b) e))
  obtain ⟨er,her⟩:∃ z:Int,z=(if (flOf s).ch=true then 21 else 0):=⟨_,rfl⟩
  rw [← her] at RS FIN;clear her;clear H hb hn hr hs T hq hE hS;go_enter Tryz.func77,Tryz.ntmps77;go_wp2_with fail;refine CD.o.mono ?_
  rintro e w1 ⟨rfl,rfl⟩;go_wp2_with (first | (go_at_call 117;refine (LS.o _).mono ?_;rintro e w2 ⟨rfl,rfl⟩) | (go_at_call 119;refine (DP.o _).mono ?_;rintro e w2 ⟨rfl,rfl⟩))
  refine RS.o.mono ?_
  intro e w2 hO;have OO:=Lv (FIN.o _ _ hO);obtain rfl:=hO.val;clear hO;go_wp2;go_ret
  exact ⟨OO.o⟩
 ·have RS:=Lv (rsym_any H b q c n hb hn hc hcm hr hs hq CE.o.symm)
  have hni:¬ Xq (Qd b):=by rw [← CE.o];unfold Xq;decide
  have hl:Xq (Qd b)∨J1 (Qd b)∨Qd b=2:=by rw [← CE.o];exact .inr (.inr rfl)
  have hsp:Jo b=0:=by unfold Jo;rw [if_neg hs,if_pos hl]
  have hS:Zg s b=({ s with sy:=Qb b 8 16,st:=Qb b 16 1 }:St).meet 2:=by unfold Zg;rw [if_neg (by rw [← CE.o];decide),if_neg (by rw [← CE.o];decide),if_neg (by rw [← CE.o];decide),if_pos hl];unfold spS;rw [if_neg hni,if_neg (by rw [← CE.o];decide),if_neg (by rw [← CE.o];decide),← CE.o]
  have hE:Zs s b=Kr s 2:=by unfold Zs;rw [if_neg (by rw [← CE.o];decide),if_neg (by rw [← CE.o];decide),if_neg (by rw [← CE.o];decide),if_pos hl];unfold spE;rw [if_neg (by rw [hsp];simp),if_neg hni,if_neg (by rw [← CE.o];decide),← CE.o]
  have FIN:=Lv (fun w' e (o:Ze w w' lo g h ({ s with sy:=Qb b 8 16,st:=Qb b 16 1 }) { flOf s with sy:=true } s.secs (if (flOf s).sy=true then 21 else 0) e)=>(by
   refine o.as ?_ (fun _=>?_) (fun _=>?_) (fun _=>?_)
   ·rw [hE];unfold Kr
    by_cases hm:(2:Int)∈s.met
    ·rw [if_pos (show (flOf s).sy=true from decide_eq_true hm),if_pos hm]
    ·rw [if_neg (show ¬ (flOf s).sy=true by show ¬ decide (2∈s.met)=true;simpa using hm),if_neg hm]
   ·rw [hS];rfl
   ·rw [hS];unfold flOf St.meet;simp
   ·rw [hS];rfl
   : Ze w w' lo g h (Zg s b) (flOf (Zg s b)) (Zg s b).secs (Zs s b) e))
  obtain ⟨er,her⟩:∃ z:Int,z=(if (flOf s).sy=true then 21 else 0):=⟨_,rfl⟩
  rw [← her] at RS FIN;clear her;clear H hb hn hr hs T hq hE hS;go_enter Tryz.func77,Tryz.ntmps77;go_wp2_with fail;refine CD.o.mono ?_
  rintro e w1 ⟨rfl,rfl⟩;go_wp2_with (first | (go_at_call 117;refine (LS.o _).mono ?_;rintro e w2 ⟨rfl,rfl⟩) | (go_at_call 119;refine (DP.o _).mono ?_;rintro e w2 ⟨rfl,rfl⟩))
  refine RS.o.mono ?_
  intro e w2 hO;have OO:=Lv (FIN.o _ _ hO);obtain rfl:=hO.val;clear hO;go_wp2;go_ret
  exact ⟨OO.o⟩
 ·have RS:=Lv (rentry_any H b q c n hb hn hc hcm hr hs hq CE.o.symm)
  have hl:¬ (Xq (Qd b)∨J1 (Qd b)∨Qd b=2):=by rw [← CE.o];unfold Xq J1;decide
  have hS:Zg s b=({ s with entry:=Qc b 8 8,has:=true }:St).meet 2147483688:=by unfold Zg;rw [if_neg (by rw [← CE.o];decide),if_neg (by rw [← CE.o];decide),if_neg (by rw [← CE.o];decide),if_neg hl,if_pos CE.o.symm];rfl
  have hE:Zs s b=Kr s 2147483688:=by unfold Zs;rw [if_neg (by rw [← CE.o];decide),if_neg (by rw [← CE.o];decide),if_neg (by rw [← CE.o];decide),if_neg hl,if_pos CE.o.symm];unfold entE;rw [if_neg hs]
  have FIN:=Lv (fun w' e (o:Ze w w' lo g h ({ s with entry:=Qc b 8 8,has:=true }) { flOf s with en:=true } s.secs (if (flOf s).en=true then 21 else 0) e)=>(by
   refine o.as ?_ (fun _=>?_) (fun _=>?_) (fun _=>?_)
   ·rw [hE];unfold Kr
    by_cases hm:(2147483688:Int)∈s.met
    ·rw [if_pos (show (flOf s).en=true from decide_eq_true hm),if_pos hm]
    ·rw [if_neg (show ¬ (flOf s).en=true by show ¬ decide (2147483688∈s.met)=true;simpa using hm),if_neg hm]
   ·rw [hS];rfl
   ·rw [hS];unfold flOf St.meet;simp
   ·rw [hS];rfl
   : Ze w w' lo g h (Zg s b) (flOf (Zg s b)) (Zg s b).secs (Zs s b) e))
  obtain ⟨er,her⟩:∃ z:Int,z=(if (flOf s).en=true then 21 else 0):=⟨_,rfl⟩
  rw [← her] at RS FIN;clear her;clear H hb hn hr hs T hq hE hS;go_enter Tryz.func77,Tryz.ntmps77;go_wp2_with fail;refine CD.o.mono ?_
  rintro e w1 ⟨rfl,rfl⟩;go_wp2_with (first | (go_at_call 117;refine (LS.o _).mono ?_;rintro e w2 ⟨rfl,rfl⟩) | (go_at_call 119;refine (DP.o _).mono ?_;rintro e w2 ⟨rfl,rfl⟩))
  refine RS.o.mono ?_
  intro e w2 hO;have OO:=Lv (FIN.o _ _ hO);obtain rfl:=hO.val;clear hO;go_wp2;go_ret
  exact ⟨OO.o⟩
end
theorem run_loadImgR {g:Nat} {h:Hx} {s:St} {sv dv:Value} {f:Fl} {k:Int} (a:Zm w g h s sv dv f k):(loadVar 48 ⟨g,0,none⟩).run Tryz.prog w=.ok (imgV h s sv dv) w:=by
 have hl:(loadCells ⟨g,0,none⟩ (Qf h s sv dv).toList.length).run Tryz.prog w=.ok (Qf h s sv dv).toList.toArray w :=
  run_loadCells_list (P:=Tryz.prog) w ⟨g,0,none⟩ (Qf h s sv dv).toList (fun j v hv=>by
   have hadd:(⟨g,0,none⟩:Addr).add j=⟨g,j,none⟩:=by unfold Addr.add;split <;> simp_all
   rw [hadd,Qm a];have hj:j < 24:=by
    rcases Nat.lt_or_ge j 24 with h1 | h1
    ·exact h1
    ·rw [List.getElem?_eq_none (by exact h1)] at hv;cases hv
   rw [← hv]
   match j,hj with
   | 0,_=>rfl
   | 1,_=>rfl
   | 2,_=>rfl
   | 3,_=>rfl
   | 4,_=>rfl
   | 5,_=>rfl
   | 6,_=>rfl
   | 7,_=>rfl
   | 8,_=>rfl
   | 9,_=>rfl
   | 10,_=>rfl
   | 11,_=>rfl
   | 12,_=>rfl
   | 13,_=>rfl
   | 14,_=>rfl
   | 15,_=>rfl
   | 16,_=>rfl
   | 17,_=>rfl
   | 18,_=>rfl
   | 19,_=>rfl
   | 20,_=>rfl
   | 21,_=>rfl
   | 22,_=>rfl
   | 23,_=>rfl
   )
 cases hq:Tryz.prog.info? 48 with
 | none=>have:=Sw;simp [hq] at this
 | some i =>
  have hs:i.size=24:=by have:=Sw;simpa [hq] using this
  have hagg:(isAgg 48).run Tryz.prog w=.ok true w:=by
   unfold isAgg;rw [Sem.run_bind,run_underlying Tryz.underlying48 w];rfl
  have hl':(loadCells ⟨g,0,none⟩ 24).run Tryz.prog w=.ok (Qf h s sv dv) w:=hl;simp [loadVar,Sem.run_bind,hagg,sizeOf,typeInfo,hq,hs,hl',imgV]
theorem wpList_load_imgR {g:Nat} {h:Hx} {s:St} {sv dv:Value} {f:Fl} {k:Int} {ops:Array Oper} {rest:List Oper} {o:Oper} {a:Act} {Q:Exit→Act→World→Prop} (hgd:o.guard=none) (x:Operand) (ho:o.op=.load 48 x)
  (hx:a.eval x=.pointer (some ⟨g,0,none⟩)) (i:Zm w g h s sv dv f k) (hK:wpList Tryz.prog ops Q rest (a.put o.dst (imgV h s sv dv)) w):wpList Tryz.prog ops Q (o :: rest) a w:=by
 refine wpList_plain hgd fun _ hK'=>?_
 unfold Oper.wp execOp;simp only [ho,hx,Instr.loadAt,Instr.sureAddr,Sem.run_bind,Sem.run_pure,Result.andThen_ok,run_loadImgR i];exact hK' _ _ hK
theorem Qk.under {q:Option Addr} {c:Nat} {ys:List Int} {lo:Nat} (h:Qk w q c ys) (hb:Below lo w w') (hq:∀ x,q=some x→x.block < lo):Qk w' q c ys:=by
 refine ⟨h.1,fun hl=>?_⟩;obtain ⟨b,o,e,hc⟩:=h.2 hl;exact ⟨b,o,e,fun i hi=>by rw [hb.cell (show (⟨b,o + i,none⟩:Addr).block < lo from hq ⟨b,o,none⟩ e)];exact hc i hi⟩
theorem Zp.under {g:Nat} {h:Hx} {s:St} {sv dv:Value} {lo:Nat} (k:Zp w g h s sv dv) (hb:Below lo w w') (hl:g < lo):Zp w' g h s sv dv:=(hb.block g hl).trans k
theorem cell_in {a:Addr} {v:Value} (h:w.cell? a=some v):a.block < w.heap.size:=by
 unfold World.cell? at h
 split at h
 ·rename_i hx
  rcases Nat.lt_or_ge a.block w.heap.size with h1 | h1
  ·exact h1
  ·rw [Array.getElem?_eq_none h1] at hx;cases hx
 ·cases h
theorem trok_step {s:St} {b:List Int} (T:TrOk s) (hr:Q3 b):TrOk (Zg s b):=by
 have meet:∀ (s:St) (k:Int),k≠2147483699→TrOk s→TrOk (s.meet k):=fun s k hk h=>⟨by
  show 2147483699∈s.met ++ [k]↔s.tr.2≠0
  rw [List.mem_append,← h.iff];simp [Ne.symm hk],h.pos⟩
 unfold Zg
 split
 ·exact ⟨T.iff,T.pos⟩
 split
 ·exact meet _ _ (by decide) ⟨T.iff,T.pos⟩
 split
 ·exact ⟨T.iff,T.pos⟩
 split
 ·unfold spS
  split
  ·exact trie_ok (T.info b) _ (Bz hr 40)
  split
  ·exact trie_ok T _ (Bz hr 8)
  rename_i n1 n2
  split
  ·exact meet _ _ n2 ⟨T.iff,T.pos⟩
  ·exact meet _ _ n2 ⟨T.iff,T.pos⟩
 split
 ·exact meet _ _ (by decide) ⟨T.iff,T.pos⟩
 ·exact T
theorem RefImage_all (ys:List Int) (q:Option Addr) (c n:Nat) (h:Qk w q c ys) (hn:ys.length=n) (hc:n≤c) (hcm:c≤9223372036854775807) (hn47:n≤140737488355328) (hr:Q3 ys) :
  Calls Tryz.prog 44 #[.slice q n c] w fun e w'=>∃ sv dv lo,e=.returned (.tuple #[imgV (imgH ys) (imgS ys) sv dv,.int .i64 (Yq ys)])∧Ya w' lo (imgS ys) sv dv∧w.grownBy w' none:=by
 have g0:=grown1 w (.cells #[.int .i64 0,.int .i64 0,.int .u32 0,.string ⟨#[]⟩,.slice none 0 0,.slice none 0 0,.int .u64 0,.int .u64 0,.int .u64 0,.int .u64 0,.int .u64 0,.int .u64 0,.int .u64 0,.int .u64 0,.int .u64 0,.int .u64 0,.int .u64 0,.int .u64 0,.int .u64 0,.int .u64 0,.int .u64 0,.int .u64 0,.int .u64 0,.bool false] 48);have RD:=Lv (RefRead_all (w:=w.alloc (.cells #[.int .i64 0,.int .i64 0,.int .u32 0,.string ⟨#[]⟩,.slice none 0 0,.slice none 0 0,.int .u64 0,.int .u64 0,.int .u64 0,.int .u64 0,.int .u64 0,.int .u64 0,.int .u64 0,.int .u64 0,.int .u64 0,.int .u64 0,.int .u64 0,.int .u64 0,.int .u64 0,.int .u64 0,.int .u64 0,.int .u64 0,.int .u64 0,.bool false] 48)) ys q c n (h.kept g0 (by simp)) hn hc hcm hn47 hr)
 have Z0:=Lv (Zp.new w);have G0:=Lv g0;have RM:=Lv (readL_may hr);have RL:=Lv (readL_len ys);have HN:=Lv hn;obtain ⟨⟨hs,hk,hf⟩,hh⟩:∃ z,z=Tf ys:=⟨_,rfl⟩
 rw [← hh] at RD;have HX:=Lv (show Lj ys=⟨hk,hs,hf⟩ by unfold Lj;rw [← hh]);have IE:=Lv (show Yq ys=if Xs ys≠0 then Xs ys else runE St.zero (Ke ys) from rfl);have IS:=Lv (show Po ys=runS St.zero (Ke ys) from rfl);have no:∀ (er:Int) (W:World),Yq ys=er→er≠0→w.grownBy W none→∃ sv dv lo,Ending.returned (.tuple #[imgV Hx.zero St.zero (.slice none 0 0) (.slice none 0 0),.int .i64 er])=Ending.returned (.tuple #[imgV (imgH ys) (imgS ys) sv dv,.int .i64 (Yq ys)])∧Ya W lo (imgS ys) sv dv∧w.grownBy W none:=fun er W h1 h2 hg=>by
  unfold imgH imgS;rw [if_neg (by rw [h1];exact h2),if_neg (by rw [h1];exact h2),h1];exact ⟨_,_,W.heap.size,rfl,⟨⟨[],rfl,World.ownsRow_nil _ _ _ _,fun x hx=>by cases hx⟩,World.ownsRow_nil _ _ _ _⟩,hg⟩
 have NO:=Lv no;obtain ⟨er,her⟩:∃ z,z=Xs ys:=⟨_,rfl⟩
 obtain ⟨Zr,hzr⟩:∃ z,z=readZ ys:=⟨_,rfl⟩
 rw [← her] at RD IE;rw [← hzr] at RD;clear h hr g0 hh her hn hzr no;unfold Hd.v at RD;simp only [] at RD;by_cases h0:er=0
 rotate_left
 ·have HE:=Lv (IE.o.trans (if_pos h0))
  have HNZ:=Lv h0;have hne:(er != 0)=true:=by simpa using h0
  clear h0;go_enter Tryz.func44,Tryz.ntmps44;go_wp2_with fail;refine RD.o.mono ?_
  rintro e w2 ⟨pre,qa,ca,hpl,rfl,hI,hpc,hcm2,hF,hg⟩;have hgn:=Qz hg (grown1 w2 (.cells #[.int .i64 hs,.int .i64 hk,.int .u32 hf] 97));have G2:=Lv (Qz G0.o hgn);have ZA:=Lv (Z0.o.kept hgn (by simp));clear hg hgn hpl hI hF hpc hcm2;go_wp2_with (refine Zx (h:=Hx.zero) (s:=St.zero) (sv:=.slice none 0 0) (dv:=.slice none 0 0) rfl _ _ rfl rfl rfl ZA.o ⟨_,_,_,rfl⟩ ⟨_,_,_,rfl⟩ ?_)
  go_wp2;refine bodyPost_ret (Yn (v:=.int .i64 er) rfl rfl rfl (ZA.o.put (h:=Hx.zero) (s:=St.zero) (sv:=.slice none 0 0) (dv:=.slice none 0 0))) rfl ?_
  exact NO.o _ _ HE.o HNZ.o (Qw G2.o (Za _ _) (Nat.le_refl _))
 subst h0;have IE0:=Lv (IE.o.trans (if_neg (by simp)));clear IE;go_enter Tryz.func44,Tryz.ntmps44;go_wp2_with fail;refine RD.o.mono ?_
 rintro e w2 ⟨pre,qa,ca,hpl,rfl,hI,hpc,hcm2,hF,hg⟩;have gh:=grown1 w2 (.cells #[.int .i64 hs,.int .i64 hk,.int .u32 hf] 97);have hgn:=Qz hg gh;have G3:=Lv (Qz G0.o hgn);have ZA:=Lv (Z0.o.kept hgn (by simp));have HD:=Lv (HdAt.new w2 ⟨hs,hk,hf⟩);have I3:=Lv (hI.grown gh);have PL:=Lv hpl;have FF:=Lv hF;have ZL:=Lv (show w.heap.size < (w2.alloc (.cells #[.int .i64 hs,.int .i64 hk,.int .u32 hf] 97)).heap.size from lt_of_block (Z0.o.kept hgn (by simp)))
 clear hg hgn hpl hI hF gh;go_upto_region 4 with fail;obtain ⟨w3,hw3⟩:∃ w3,w2.alloc (.cells #[.int .i64 hs,.int .i64 hk,.int .u32 hf] 97)=w3:=⟨_,rfl⟩
 obtain ⟨hb,hhb⟩:∃ z,w2.heap.size=z:=⟨_,rfl⟩
 rw [hw3] at G3 ZA HD I3 ZL ⊢;rw [hhb] at HD;simp only [hhb];clear hw3 hhb;have k0:=HD.o.c0;have k1:=HD.o.c1;have k2:=HD.o.c2;simp only [] at k0 k1 k2;go_upto_region 5 with fail;have gA:=grown1 w3 (.cells #[.int .i64 hk,.int .i64 hs,.int .u32 hf,.string ⟨#[]⟩,.slice none 0 0,.slice none 0 0,.int .u64 0,.int .u64 0,.int .u64 0,.int .u64 0,.int .u64 0,.int .u64 0,.int .u64 0,.int .u64 0,.int .u64 0,.int .u64 0,.int .u64 0,.int .u64 0,.int .u64 0,.int .u64 0,.int .u64 0,.int .u64 0,.int .u64 0,.bool false,.bool false,.bool false,.bool false,.bool false,.bool false,.int .i64 0] 159)
 have HS:=Lv (show Xa (w3.alloc (.cells #[.int .i64 hk,.int .i64 hs,.int .u32 hf,.string ⟨#[]⟩,.slice none 0 0,.slice none 0 0,.int .u64 0,.int .u64 0,.int .u64 0,.int .u64 0,.int .u64 0,.int .u64 0,.int .u64 0,.int .u64 0,.int .u64 0,.int .u64 0,.int .u64 0,.int .u64 0,.int .u64 0,.int .u64 0,.int .u64 0,.int .u64 0,.int .u64 0,.bool false,.bool false,.bool false,.bool false,.bool false,.bool false,.int .i64 0] 159)) w3.heap.size w3.heap.size ⟨hk,hs,hf⟩ St.zero (flOf St.zero) 0 from
  ⟨⟨.slice none 0 0,.slice none 0 0,[],heap_alloc_new w3 _,rfl,World.ownsRow_nil _ _ _ _,fun x hx=>(by cases hx),World.ownsRow_nil _ _ _ _⟩,Nat.le_refl _⟩)
 have GW:=Lv (Qz G3.o gA);have ZW:=Lv (ZA.o.kept gA (by simp));have IW:=Lv (I3.o.grown gA);have OLD:=Lv (fun (m:Cm) (hm:m∈pre)=>(show ∀ x,m.q=some x→x.block < w3.heap.size from fun x hx=>by
  obtain ⟨k,hk⟩:=List.getElem?_of_mem hm;obtain ⟨b0,o0,_,hc⟩:=I3.o (List.length_pos_of_mem hm);have hib:=(hc k m hk).2;have hm8 : 8≤m.bytes.length:=(of_decide_eq_true (RM.o m.d (by rw [← PL.o];exact List.mem_map_of_mem hm)).2.2).1;obtain ⟨b1,o1,e1,hc1⟩:=hib.2 (by omega);rw [hx] at e1;injection e1 with e1;subst e1;exact cell_in (hc1 0 (by omega))))
 have OQ:=Lv (fun (hl : 0 < pre.length)=>(show ∀ x,qa=some x→x.block < w3.heap.size from fun x hx=>by
  obtain ⟨b0,o0,e0,hc⟩:=I3.o hl;rw [hx] at e0;injection e0 with e0;subst e0;exact cell_in (hc 0 _ (List.getElem?_eq_getElem hl)).1.1))
 clear gA k0 k1 k2;obtain ⟨lo,hlo⟩:∃ lo,w3.heap.size=lo:=⟨_,rfl⟩
 obtain ⟨W,hW⟩:∃ W,w3.alloc (.cells #[.int .i64 hk,.int .i64 hs,.int .u32 hf,.string ⟨#[]⟩,.slice none 0 0,.slice none 0 0,.int .u64 0,.int .u64 0,.int .u64 0,.int .u64 0,.int .u64 0,.int .u64 0,.int .u64 0,.int .u64 0,.int .u64 0,.int .u64 0,.int .u64 0,.int .u64 0,.int .u64 0,.int .u64 0,.int .u64 0,.int .u64 0,.int .u64 0,.bool false,.bool false,.bool false,.bool false,.bool false,.bool false,.int .i64 0] 159)=W:=⟨_,rfl⟩
 have WL:=Lv (show lo≤W.heap.size by rw [← hW,← hlo,World.size_alloc];exact Nat.le_succ _);rw [hW,hlo] at HS;rw [hW] at GW ZW IW ⊢;rw [hlo] at ZL OLD OQ;simp only [hlo];clear hW hlo HD G3 ZA I3;obtain ⟨N,hNp⟩:∃ N,N=pre.length:=⟨_,rfl⟩
 have hpc':N≤ca:=by rw [hNp];exact hpc
 have PN:=Lv hNp;rw [← hNp];have BE:=Lv (show Ke ys=pre.map Cm.bytes by unfold Ke;rw [← PL.o,List.map_map];rfl);have N256:=Lv (show N≤256 by rw [hNp,← List.length_map (f:=Cm.d),PL.o];exact RL.o.1);clear hNp hpc;go_wp2;go_loopw [9] (fun i wr=>∃ k:Nat,k≤N∧i=.int .i64 k∧Xa wr lo lo ⟨hk,hs,hf⟩ (runS St.zero ((Ke ys).take k)) (flOf (runS St.zero ((Ke ys).take k))) (runS St.zero ((Ke ys).take k)).secs∧runE St.zero ((Ke ys).take k)=0∧TrOk (runS St.zero ((Ke ys).take k))∧Wl k (runS St.zero ((Ke ys).take k))∧Below lo W wr) (fun i _=>N - (intOf i).toNat)
 case atStart=>exact ⟨0,Nat.zero_le _,rfl,HS.o,rfl,TrOk.zero,Wl.zero,Below.refl _ _⟩
 case round =>
  obtain ⟨k,hk1,rfl,hH,hE,hT,hF,hB⟩:=hrel;have n256:=N256.o;by_cases hlt:k < N
  ·obtain ⟨m,hm⟩:∃ m,pre[k]?=some m:=⟨_,List.getElem?_eq_getElem (by rw [← PN.o];exact hlt)⟩
   have hmem:=List.mem_of_getElem? hm
   obtain ⟨b0,o0,rfl,hcc⟩:=IW.o (List.length_pos_of_mem hmem);obtain ⟨⟨c0,c1⟩,hib⟩:=hcc k m hm;have hq:=OLD.o m hmem;have hq0:=OQ.o (List.length_pos_of_mem hmem) _ rfl;have hfit:=FF.o m hmem;have hmay:=RM.o m.d (by rw [← PL.o];exact List.mem_map_of_mem hmem);have hm8 : 8≤m.bytes.length:=(of_decide_eq_true hmay.2.2).1;have hmn:m.bytes.length≤ys.length:=RL.o.2 m.d (by rw [← PL.o];exact List.mem_map_of_mem hmem)
   have hnn:=HN.o;have d0:wr.cell? ⟨b0,o0 + k * 2 + 1,none⟩=some (.slice m.q m.bytes.length m.cap):=by rw [hB.cell (by exact hq0)];exact c1
   have hbk:(Ke ys)[k]?=some m.bytes:=by rw [BE.o,List.getElem?_map,hm];rfl
   have htk:(Ke ys).take (k + 1)=(Ke ys).take k ++ [m.bytes]:=take_snocI hbk;obtain ⟨s,hs'⟩:∃ s,s=runS St.zero ((Ke ys).take k):=⟨_,rfl⟩
   rw [← hs'] at hH hT hF;have hS1:runS St.zero ((Ke ys).take (k + 1))=Zg s m.bytes:=by rw [htk,runS_snoc,hs']
   have hE1:runE St.zero ((Ke ys).take (k + 1))=Zs s m.bytes:=by rw [htk,runE_snoc _ _ _ hE,hs']
   have hstop:Zs s m.bytes≠0→Yq ys=Zs s m.bytes:=fun h=>by
    rw [IE0.o,← hE1]
    conv=>lhs;rw [← List.take_append_drop (k + 1) (Ke ys)]
    exact runE_stop _ _ _ (by rw [hE1];exact h)
   have TK:=Lv (take5_any hH hT hF.segs ⟨hF.secs.1,hF.secs.2⟩ hF.deps m.bytes m.q m.cap m.bytes.length (hib.under hB hq) rfl hfit.len hfit.cap (by omega) hfit.bytes hm8 hq);have FS:=Lv (fun h0=>fine_step (b:=m.bytes) hF h0);have TS:=Lv (trok_step (b:=m.bytes) hT hfit.bytes);have S1:=Lv hS1;have E1:=Lv hE1;have ST:=Lv hstop;have BB:=Lv hB;have dl:decide ((k:Int) < (N:Int))=true:=by simp;omega
   have hkc:(k:Int) < (ca:Int):=by omega
   clear hm hmem hcc c0 c1 hib hq hq0 hfit hmay hm8 hmn hnn hbk htk hs' hH hT hF hE hS1 hE1 hstop hB;obtain ⟨er,her⟩:∃ z,z=Zs s m.bytes:=⟨_,rfl⟩
   go_wp2_with fail;refine TK.o.mono ?_
   intro e w4 hO;have OO:=Lv hO.out;obtain rfl:=hO.out.val;rw [← her];by_cases h0:er=0
   ·have SE:=Lv (her.symm.trans h0)
    subst h0;clear hO her;go_wp2;refine ⟨⟨k + 1,hlt,by go_num,?_,by rw [E1.o];exact SE.o,by rw [S1.o];exact TS.o,by rw [S1.o];exact FS.o SE.o,BB.o.trans OO.o.below⟩,by simp [intOf];omega⟩;rw [S1.o];exact OO.o.good SE.o
   ·have hne:(er != 0)=true:=by simpa using h0
    have HER:=Lv (show Yq ys=er by rw [her];exact ST.o (by rw [← her];exact h0));have H0:=Lv h0;have ZF:=Lv (ZW.o.under (BB.o.trans OO.o.below) ZL.o);have GF:=Lv (show w.grownBy w4 none from Qt ((Qg GW.o (Nat.le_refl _) (by simp)).trans ((BB.o.trans OO.o.below).mono (Nat.le_of_lt ZL.o))) none);clear hO her h0;go_wp2_with (refine Zx (h:=Hx.zero) (s:=St.zero) (sv:=.slice none 0 0) (dv:=.slice none 0 0) rfl _ _ rfl rfl rfl ZF.o ⟨_,_,_,rfl⟩ ⟨_,_,_,rfl⟩ ?_)
    go_wp2;refine bodyPost_ret (Yn (v:=.int .i64 er) rfl rfl rfl (ZF.o.put (h:=Hx.zero) (s:=St.zero) (sv:=.slice none 0 0) (dv:=.slice none 0 0))) rfl ?_
    exact NO.o _ _ HER.o H0.o (Qw GF.o (Za _ _) (Nat.le_refl _))
  ·have hkn:k=N:=by omega
   subst hkn;have hall:(Ke ys).take k=Ke ys:=by rw [PN.o,show pre.length=(Ke ys).length by rw [BE.o,List.length_map],List.take_length]
   rw [hall] at hH hE;rw [← IS.o] at hH;rw [← IE0.o] at hE;have dl:decide ((k:Int) < (k:Int))=false:=by simp
   have EZ:=Lv hE;have ZF:=Lv (ZW.o.under hB ZL.o);have GF:=Lv (show w.grownBy wr none from Qt ((Qg GW.o (Nat.le_refl _) (by simp)).trans (hB.mono (Nat.le_of_lt ZL.o))) none);obtain ⟨sv,dv,l,a1,a2,a3,a4,a5⟩:=hH.ex;have hapart:lo≠w.heap.size:=fun e=>by have:=ZL.o;omega
   have LS:=Lv (show Ya wr lo (Po ys) sv dv from ⟨⟨l,a2,a3,a4⟩,a5⟩);obtain ⟨qs,cs,rfl⟩:=Qp a3;obtain ⟨qd,cd,rfl⟩:=Qp a5;have A1:=Lv a1;clear a1 a2 a3 a4 a5 hH hall hE hB hT hF;obtain ⟨S,hS⟩:∃ S,S=Po ys:=⟨_,rfl⟩
   rw [← hS] at A1 LS;have SE:=Lv hS;clear hS;go_wp2_with (first | refine wpList_load_imgR rfl _ rfl rfl A1.o ?_ | refine Zx (h:=⟨hk,hs,hf⟩) (s:=S) (sv:=.slice qs l.length cs) (dv:=.slice qd S.deps.length cd) rfl _ _ rfl rfl rfl ZF.o ⟨_,_,_,rfl⟩ ⟨_,_,_,rfl⟩ ?_)
   go_wp2;refine bodyPost_ret (Yn (v:=.int .i64 0) rfl rfl rfl (ZF.o.put (h:=⟨hk,hs,hf⟩) (s:=S) (sv:=.slice qs l.length cs) (dv:=.slice qd S.deps.length cd))) rfl ?_
   have gR:wr.grownBy (wr.setRow w.heap.size (Qf ⟨hk,hs,hf⟩ S (.slice qs l.length cs) (.slice qd S.deps.length cd))) (some w.heap.size):=Za _ _;refine ⟨.slice qs l.length cs,.slice qd S.deps.length cd,lo,?_,?_,Qw GF.o gR (Nat.le_refl _)⟩
   ·rw [EZ.o]
    unfold imgH imgS;rw [if_pos EZ.o,if_pos EZ.o,HX.o,SE.o]
   ·unfold imgS
    rw [if_pos EZ.o,← SE.o];exact LS.o.kept gR ZF.o
section
noncomputable section
def Hw (ys:List Int):Int:=if Yq ys≠0 then Yq ys else mayN (imgH ys) (imgS ys) (ys.length:Int) (readZ ys:Int)
def ofH (ys:List Int):Hx:=if Hw ys=0 then imgH ys else Hx.zero
def ofS (ys:List Int):St:=if Hw ys=0 then imgS ys else St.zero
end
theorem img_read0 {ys:List Int} (h:Yq ys=0):Xs ys=0:=by
 unfold Yq at h
 split at h
 ·rename_i h0;exact absurd h h0
 ·rename_i h0;omega
theorem lists_zero (w:World):Ya w w.heap.size St.zero (.slice none 0 0) (.slice none 0 0):=⟨⟨[],rfl,World.ownsRow_nil _ _ _ _,fun x hx=>(by cases hx)⟩,World.ownsRow_nil _ _ _ _⟩
theorem of_no {ys:List Int} {er:Int} (h:Hw ys=er) (h0:er≠0) (W:World) (hg:w.grownBy W none) :
  ∃ sv dv lo,Ending.returned (.tuple #[imgV Hx.zero St.zero (.slice none 0 0) (.slice none 0 0),.int .i64 er])=Ending.returned (.tuple #[imgV (ofH ys) (ofS ys) sv dv,.int .i64 (Hw ys)])∧Ya W lo (ofS ys) sv dv∧w.grownBy W none:=by
 unfold ofH ofS;rw [if_neg (by rw [h];exact h0),if_neg (by rw [h];exact h0),h];exact ⟨_,_,W.heap.size,rfl,lists_zero W,hg⟩
theorem of_yes {ys:List Int} (h:Hw ys=0) {sv dv:Value} {lo:Nat} {W:World} (hL:Ya W lo (imgS ys) sv dv) (hg:w.grownBy W none) :
  ∃ sv' dv' lo',Ending.returned (.tuple #[imgV (imgH ys) (imgS ys) sv dv,.int .i64 0])=Ending.returned (.tuple #[imgV (ofH ys) (ofS ys) sv' dv',.int .i64 (Hw ys)])∧Ya W lo' (ofS ys) sv' dv'∧w.grownBy W none:=by
 unfold ofH ofS;rw [if_pos h,if_pos h,h];exact ⟨_,_,lo,rfl,hL,hg⟩
theorem rof_any (ys:List Int) (q:Option Addr) (c n:Nat) (h:Qk w q c ys) (hn:ys.length=n) (hc:n≤c) (hcm:c≤9223372036854775807) (hn47:n≤140737488355328) (hr:Q3 ys) :
  Calls Tryz.prog 16 #[.slice q n c] w fun e w'=>∃ sv dv lo,e=.returned (.tuple #[imgV (ofH ys) (ofS ys) sv dv,.int .i64 (Hw ys)])∧Ya w' lo (ofS ys) sv dv∧w.grownBy w' none:=by
 have g0:=grown1 w (.cells #[.int .i64 0,.int .i64 0,.int .u32 0,.string ⟨#[]⟩,.slice none 0 0,.slice none 0 0,.int .u64 0,.int .u64 0,.int .u64 0,.int .u64 0,.int .u64 0,.int .u64 0,.int .u64 0,.int .u64 0,.int .u64 0,.int .u64 0,.int .u64 0,.int .u64 0,.int .u64 0,.int .u64 0,.int .u64 0,.int .u64 0,.int .u64 0,.bool false] 48);have IM:=Lv (RefImage_all (w:=w.alloc (.cells #[.int .i64 0,.int .i64 0,.int .u32 0,.string ⟨#[]⟩,.slice none 0 0,.slice none 0 0,.int .u64 0,.int .u64 0,.int .u64 0,.int .u64 0,.int .u64 0,.int .u64 0,.int .u64 0,.int .u64 0,.int .u64 0,.int .u64 0,.int .u64 0,.int .u64 0,.int .u64 0,.int .u64 0,.int .u64 0,.int .u64 0,.int .u64 0,.bool false] 48)) ys q c n (h.kept g0 (by simp)) hn hc hcm hn47 hr)
 have RD:=Lv (fun (V:World) (hg:w.grownBy V none)=>RefRead_all (w:=V) ys q c n (h.kept hg (by simp)) hn hc hcm hn47 hr);have Z0:=Lv (Zp.new w);have G0:=Lv g0;have FT:=Lv (img_fit hr);have m1:IntKind.u64.wrap (n:Int)=n:=by rw [IntKind.wrap_u64];omega
 have m2:(n:Int) % 18446744073709551616=n:=by omega
 have UN:=Lv (show U64 (n:Int) from ⟨by omega,by omega⟩);have zl:=readZ_lt hr;have UZ:=Lv (show U64 (readZ ys:Int) from ⟨by omega,by omega⟩);have m3:IntKind.u64.wrap (readZ ys:Int)=(readZ ys:Int):=by rw [IntKind.wrap_u64];omega
 have m4:(readZ ys:Int) % 18446744073709551616=(readZ ys:Int):=by omega
 have OE:=Lv (show Hw ys=if Yq ys≠0 then Yq ys else mayN (imgH ys) (imgS ys) (n:Int) (readZ ys:Int) by rw [← hn];rfl);have NO:=Lv (fun (er:Int) (W:World) (h1:Hw ys=er) (h0:er≠0) (hg:w.grownBy W none)=>of_no h1 h0 W hg);have YES:=Lv (fun (h1:Hw ys=0) (sv dv:Value) (lo:Nat) (W:World) (hL:Ya W lo (imgS ys) sv dv) (hg:w.grownBy W none)=>of_yes h1 hL hg);have R0:=Lv (fun hz=>img_read0 (ys:=ys) hz)
 obtain ⟨E,hE⟩:∃ E,E=Yq ys:=⟨_,rfl⟩
 obtain ⟨RE,hRE⟩:∃ E,E=Xs ys:=⟨_,rfl⟩
 obtain ⟨OEr,hOE⟩:∃ E,E=Hw ys:=⟨_,rfl⟩
 obtain ⟨ZZ,hZZ⟩:∃ Z,Z=readZ ys:=⟨_,rfl⟩
 obtain ⟨H,hH⟩:∃ H,H=imgH ys:=⟨_,rfl⟩
 obtain ⟨S,hS⟩:∃ S,S=imgS ys:=⟨_,rfl⟩
 rw [← hE] at IM OE R0;rw [← hRE] at RD R0;rw [← hOE] at OE NO YES;rw [← hZZ] at OE RD UZ m3 m4;rw [← hH] at IM OE YES;rw [← hS] at IM OE YES FT;obtain ⟨⟨hs,hk,hf⟩,hh⟩:∃ z,z=Tf ys:=⟨_,rfl⟩
 rw [← hh] at RD;unfold Hd.v at RD;simp only [] at RD;clear hh;have HOE:=Lv hOE;rw [← hOE];obtain ⟨OH,hOH⟩:∃ x,x=ofH ys:=⟨_,rfl⟩
 obtain ⟨OS,hOS⟩:∃ x,x=ofS ys:=⟨_,rfl⟩
 rw [← hOH] at NO YES ⊢;rw [← hOS] at NO YES ⊢;clear h hn hr g0 zl hE hRE hOE hZZ hH hS HOE hOH hOS hn47;go_enter Tryz.func16,Tryz.ntmps16;go_wp2_with fail;refine IM.o.mono ?_
 rintro e w2 ⟨sv,dv,lo,rfl,hL,hg⟩;obtain ⟨l,qs,cs,rfl,hk,hcap⟩:=Zt.of2 hL;obtain ⟨qd,cd,rfl⟩:=Qp hL.deps;have GA:=Lv (Qz G0.o hg);have Z2:=Lv (Z0.o.kept hg (by simp));have ZB:=Lv (Zp.new w2);have L2:=Lv hL;have K2:=Lv hk;have CAP:=Lv hcap;clear hL hk hcap hg;go_upto_region 2 with (refine Zx (h:=H) (s:=S) (sv:=.slice qs l.length cs) (dv:=.slice qd S.deps.length cd) rfl _ _ rfl rfl rfl ZB.o ⟨_,_,_,rfl⟩ ⟨_,_,_,rfl⟩ ?_)
 have gN:=Qw (grown1 w2 (.cells #[.int .i64 0,.int .i64 0,.int .u32 0,.string ⟨#[]⟩,.slice none 0 0,.slice none 0 0,.int .u64 0,.int .u64 0,.int .u64 0,.int .u64 0,.int .u64 0,.int .u64 0,.int .u64 0,.int .u64 0,.int .u64 0,.int .u64 0,.int .u64 0,.int .u64 0,.int .u64 0,.int .u64 0,.int .u64 0,.int .u64 0,.int .u64 0,.bool false] 48)) (Za (g:=w2.heap.size) (w2.alloc (.cells #[.int .i64 0,.int .i64 0,.int .u32 0,.string ⟨#[]⟩,.slice none 0 0,.slice none 0 0,.int .u64 0,.int .u64 0,.int .u64 0,.int .u64 0,.int .u64 0,.int .u64 0,.int .u64 0,.int .u64 0,.int .u64 0,.int .u64 0,.int .u64 0,.int .u64 0,.int .u64 0,.int .u64 0,.int .u64 0,.int .u64 0,.int .u64 0,.bool false] 48)) (Qf H S (.slice qs l.length cs) (.slice qd S.deps.length cd))) (Nat.le_refl _)
 have I3:=ZB.o.put (h:=H) (s:=S) (sv:=.slice qs l.length cs) (dv:=.slice qd S.deps.length cd);obtain ⟨w3,hw3⟩:∃ w3,(w2.alloc (.cells #[.int .i64 0,.int .i64 0,.int .u32 0,.string ⟨#[]⟩,.slice none 0 0,.slice none 0 0,.int .u64 0,.int .u64 0,.int .u64 0,.int .u64 0,.int .u64 0,.int .u64 0,.int .u64 0,.int .u64 0,.int .u64 0,.int .u64 0,.int .u64 0,.int .u64 0,.int .u64 0,.int .u64 0,.int .u64 0,.int .u64 0,.int .u64 0,.bool false] 48)).setRow w2.heap.size (Qf H S (.slice qs l.length cs) (.slice qd S.deps.length cd))=w3:=⟨_,rfl⟩
 rw [hw3] at gN I3 ⊢;have G3:=Lv (Qz GA.o gN);have Z3:=Lv (Z2.o.kept gN (by simp));have IM3:=Lv I3;have K3:=Lv (K2.o.grown gN);have L3:=Lv (L2.o.grown gN);clear gN I3 hw3 ZB Z2 GA L2 K2;generalize w2.heap.size=p at *;by_cases hE0:E=0
 rotate_left
 ·have HNE:=Lv hE0
  have HX:=Lv (OE.o.trans (if_pos hE0));have d1:(E != 0)=true:=by simpa using hE0
  clear hE0;go_wp2_with (refine Zx (h:=Hx.zero) (s:=St.zero) (sv:=.slice none 0 0) (dv:=.slice none 0 0) rfl _ _ rfl rfl rfl Z3.o ⟨_,_,_,rfl⟩ ⟨_,_,_,rfl⟩ ?_)
  go_wp2;refine bodyPost_ret (Yn rfl rfl rfl (Z3.o.put (h:=Hx.zero) (s:=St.zero) (sv:=.slice none 0 0) (dv:=.slice none 0 0))) rfl ?_
  rw [HX.o];exact (HX.o ▸ NO.o E _ HX.o HNE.o (Qw G3.o (Za _ _) (Nat.le_refl _)))
 subst hE0;have OE:=Lv (OE.o.trans (if_neg (by decide)));have RE0:=R0.o rfl;subst RE0;clear R0;go_wp2_with fail;refine (RD.o _ G3.o).mono ?_
 rintro e w4 ⟨pre,qa,ca,hpl,rfl,hI,hpc,hcm2,hF,hg4'⟩;have hg4:=Qz hg4' (grown1 w4 (.cells #[.int .i64 hs,.int .i64 hk,.int .u32 hf] 97));have G4:=Lv (Qz G3.o hg4);have Z4:=Lv (Z3.o.kept hg4 (by simp));have IM4:=Lv (IM3.o.kept hg4 (by simp));have K4:=Lv (K3.o.grown hg4);have L4:=Lv (L3.o.grown hg4);clear hg4 hg4' hpl hI hpc hcm2 hF;have MY:=Lv (rMay_any (h:=H) (hd:=(ZZ:Int)) (dv:=.slice qd S.deps.length cd) K4.o FT.o.segs FT.o.spans UN.o UZ.o CAP.o)
 obtain ⟨M,hM⟩:∃ M,M=mayN H S (n:Int) (ZZ:Int):=⟨_,rfl⟩
 rw [← hM] at MY OE;clear hM;go_upto_region 5 with fail;obtain ⟨w4',hw4⟩:∃ x,w4.alloc (.cells #[.int .i64 hs,.int .i64 hk,.int .u32 hf] 97)=x:=⟨_,rfl⟩
 rw [hw4] at G4 Z4 IM4 K4 L4 MY ⊢;clear hw4;go_wp2_with (first | refine Qi rfl _ rfl rfl IM4.o ?_ | fail)
 refine MY.o.mono ?_
 rintro e w5 ⟨rfl,hg5⟩;have G5:=Lv (Qz G4.o hg5);have Z5:=Lv (Z4.o.kept hg5 (by simp));have IM5:=Lv (IM4.o.kept hg5 (by simp));have L5:=Lv (L4.o.grown hg5);clear hg5;cases hm:(M != 0)
 rotate_left
 ·have HNE:=Lv (show M≠0 by simpa using hm)
  have HX:=Lv OE.o;go_wp2_with (refine Zx (h:=Hx.zero) (s:=St.zero) (sv:=.slice none 0 0) (dv:=.slice none 0 0) rfl _ _ rfl rfl rfl Z5.o ⟨_,_,_,rfl⟩ ⟨_,_,_,rfl⟩ ?_)
  go_wp2;refine bodyPost_ret (Yn rfl rfl rfl (Z5.o.put (h:=Hx.zero) (s:=St.zero) (sv:=.slice none 0 0) (dv:=.slice none 0 0))) rfl ?_
  rw [HX.o];exact (HX.o ▸ NO.o M _ HX.o HNE.o (Qw G5.o (Za _ _) (Nat.le_refl _)))
 ·have HX:=Lv (OE.o.trans (show M=0 by simpa using hm))
  go_wp2_with (first | refine Qi rfl _ rfl rfl IM5.o ?_ | refine Zx (h:=H) (s:=S) (sv:=.slice qs l.length cs) (dv:=.slice qd S.deps.length cd) rfl _ _ rfl rfl rfl Z5.o ⟨_,_,_,rfl⟩ ⟨_,_,_,rfl⟩ ?_)
  go_wp2;refine bodyPost_ret (Yn rfl rfl rfl (Z5.o.put (h:=H) (s:=S) (sv:=.slice qs l.length cs) (dv:=.slice qd S.deps.length cd))) rfl ?_
  rw [HX.o];exact (HX.o ▸ YES.o HX.o _ _ lo _ (L5.o.kept (Za _ _) Z5.o) (Qw G5.o (Za _ _) (Nat.le_refl _)))
end
theorem secN_snoc (l:List Seg) (x:Seg):secN (l ++ [x])=secN l + x.secs.length:=by
 unfold secN;rw [List.map_append,List.sum_append];simp
def Yg (s:St):Prop:=s.secs=(secN s.segs:Int)∧secN s.segs≤64
theorem Yg.as {s s':St} (h:Yg s) (h1:s'.segs=s.segs) (h2:s'.secs=s.secs):Yg s':=by
 unfold Yg at *;rw [h1,h2];exact h
theorem Yg.step {s:St} {b:List Int} (h:Yg s) (he:Zs s b=0):Yg (Zg s b):=by
 have tr:∀ (s:St) x,(Km s x).segs=s.segs∧(Km s x).secs=s.secs:=fun s x=>by unfold Km;split <;> exact ⟨rfl,rfl⟩
 unfold Zs at he;unfold Zg;by_cases h1:Qd b=25
 ·rw [if_pos h1] at he ⊢
  unfold segE at he;by_cases e1:Z6 b≠0
  ·rw [if_pos e1] at he;exact absurd he e1
  ·rw [if_neg e1] at he
   by_cases e2:s.segs.length=16∨64 < s.secs + (Ky b).secs.length
   ·rw [if_pos e2] at he;cases he
   ·unfold Yg segS at *
    simp only [secN_snoc];omega
 rw [if_neg h1];by_cases h2:Qd b=13
 ·rw [if_pos h2];exact h.as rfl rfl
 rw [if_neg h2];by_cases h3:Xr (Qd b)≠0
 ·rw [if_pos h3];exact h.as rfl rfl
 rw [if_neg h3]
 split
 ·unfold spS
  split
  ·exact h.as (tr _ _).1 (tr _ _).2
  split
  ·exact h.as (tr _ _).1 (tr _ _).2
  split <;> exact h.as rfl rfl
 split <;> exact h.as rfl rfl
theorem Yg.run:∀ {l:List (List Int)} {s:St},Yg s→runE s l=0→Yg (runS s l)
 | [],_,h,_=>h
 | b :: l,s,h,he=>by
  unfold runE at he;by_cases c:Zs s b=0
  ·rw [if_pos c] at he
   unfold runS;exact Yg.run (h.step c) he
  ·rw [if_neg c] at he;exact absurd he c
theorem Yg.zero:Yg St.zero:=⟨rfl,by decide⟩
theorem secs_of (ys:List Int):secN (ofS ys).segs≤64:=by
 have hz:secN St.zero.segs≤64:=by decide
 unfold ofS
 split
 ·unfold imgS
  split
  ·rename_i h
   unfold Yq at h;by_cases c:Xs ys≠0
   ·rw [if_pos c] at h;exact absurd h c
   ·rw [if_neg c] at h
    exact (Yg.zero.run h).2
  ·exact hz
 ·exact hz
theorem of_fit {ys:List Int} (hs:Q3 ys):Kz (ofS ys):=by
 unfold ofS
 split
 ·exact img_fit hs
 ·exact Kz.zero
theorem in_of {ys:List Int} {q:Option Addr} {c lo:Nat} {sv dv:Value} (h:Qk w q c ys) (hc:ys.length≤c) (hcm:c≤9223372036854775807) (hn:ys.length≤140737488355328) (hs:Q3 ys) (L:Ya w lo (ofS ys) sv dv) :
  ∃ (l:List Sg) (qs:Option Addr) (cs:Nat) (qd:Option Addr) (cd:Nat),sv=.slice qs l.length cs∧dv=.slice qd (ofS ys).deps.length cd∧Bt w ys q c (ofS ys) l qs cs (ofS ys).deps.length:=by
 obtain ⟨l,qs,cs,e1,k⟩:=Zt.of L;obtain ⟨qd,cd,e2⟩:=Qp L.deps;have F:=(of_fit hs).spans;refine ⟨l,qs,cs,qd,cd,e1,e2,⟨h,hc,hcm,hn,hs,k,by have:=secs_of ys;omega,?_,?_,?_,by have:=L.deps;rw [e2] at this;exact Ht this⟩⟩
 ·exact F _ (by unfold Zw;simp)
 ·exact F _ (by unfold Zw;simp)
 ·exact F _ (by unfold Zw;simp)
theorem cut2_at {q:Option Addr} {c:Nat} {ys:List Int} (h:Qk w q c ys) (hc:ys.length≤c) (so k:Nat) (hend:so + k≤ys.length) :
  ∃ V,(∀ W,(Instr.slice 29 (.slice q ys.length c) (some (.int .u64 (so:Int))) (some (.int .u64 ((so:Int) + (k:Int)))) none).run Tryz.prog W=.ok (.slice V k (c - so)) W)∧Qk w V (c - so) ((ys.drop so).take k):=by
 have run:∀ W,(Instr.slice 29 (.slice q ys.length c) (some (.int .u64 (so:Int))) (some (.int .u64 ((so:Int) + (k:Int)))) none).run Tryz.prog W=.ok (sliced q so (so + k) c 1) W:=fun W=>by
  rw [run_slice_lh (P:=Tryz.prog) W 29 q ys.length c (by kernel_rfl) .u64 .u64 (so:Int) ((so:Int) + (k:Int)) (by omega) (by omega) (by omega)];have hs:((sizeOf (Tryz.prog.elem 29)).run Tryz.prog W)=.ok 1 W:=by kernel_rfl
  rw [hs];simp only [Result.andThen];rw [show ((so:Int) + (k:Int)).toNat=so + k by omega,show ((so:Int)).toNat=so by omega]
 by_cases hcs:c=so
 ·have hk:k=0:=by omega
  subst hk;refine ⟨q,fun W=>?_,?_⟩
  ·rw [run W];simp [sliced,hcs]
  ·have e:(ys.drop so).take 0=[]:=rfl
   rw [e];exact ⟨fun _=>by omega,fun h=>by simp at h⟩
 ·cases q with
  | none=>have:=h.1 rfl;omega
  | some ad =>
   refine ⟨some (ad.add so),fun W=>?_,?_⟩
   ·rw [run W]
    unfold sliced;rw [if_neg (by omega),show so + k - so=k by omega];simp only [Option.map_some,Nat.mul_one]
   ·rcases Nat.eq_zero_or_pos k with hk | hk
    ·subst hk
     have e:(ys.drop so).take 0=[]:=rfl;rw [e];exact Qk.empty
    ·obtain ⟨b,o,e,hb⟩:=sub_bytes h so k hend hk
     injection e with e;subst e;obtain ⟨-,h2⟩:=hb;have e2:(⟨b,o,none⟩:Addr).add so=⟨b,o + so,none⟩:=Xd _ _ _;rw [e2];exact ⟨fun e=>(by cases e),h2⟩
theorem rPart_any {ys:List Int} {q:Option Addr} {c:Nat} (h:Qk w q c ys) (hc:ys.length≤c) (hcm:c≤9223372036854775807) (off sz:Nat) (ho:off < 18446744073709551616) (hz:sz < 18446744073709551616) :
  Calls Tryz.prog 53 #[.slice q ys.length c,.agg #[.int .u64 off,.int .u64 sz]] w fun e w'=>(∃ V cc,e=.returned (.slice V (Q1 ys off sz).length cc)∧Qk w' V cc (Q1 ys off sz)∧(Q1 ys off sz).length≤cc∧cc≤9223372036854775807)∧w.grownBy w' none:=by
 have gB:=grown1 w (.cells #[.int .u64 off,.int .u64 sz] 46);have aA:(w.alloc (.cells #[.int .u64 off,.int .u64 sz] 46)).heap[w.heap.size]?=some (.cells #[.int .u64 off,.int .u64 sz] 46 (0,0)):=heap_alloc_new w _
 obtain ⟨W,hW⟩:∃ W,w.alloc (.cells #[.int .u64 off,.int .u64 sz] 46)=W:=⟨_,rfl⟩
 obtain ⟨b,hb⟩:∃ b,w.heap.size=b:=⟨_,rfl⟩
 rw [hW] at gB aA;rw [hb] at aA;have c0:W.cell? ⟨b,0,none⟩=some (.int .u64 off):=by rw [Qm aA];rfl
 have c1:W.cell? ⟨b,1,none⟩=some (.int .u64 sz):=by rw [Qm aA];rfl
 have gl:=lt_of_block aA;have G:=Lv gB;have WI:=Lv (fun V=>J9 off sz ys.length ⟨by omega,by omega⟩ ⟨by omega,by omega⟩ ⟨by omega,by omega⟩ V);have cv:IntKind.u64.wrap (ys.length:Int)=ys.length:=IntWalk.u64_in _ (by omega);clear aA gB;cases hw:Zq off sz ys.length
 ·have E:=Lv (partN_no hw)
  rw [hw] at WI;rw [E.o];clear hw h;generalize ys.length=n at *;go_enter Tryz.func53,Tryz.ntmps53;go_upto_region 1 with fail;clear hW hb;go_wp2_with fail;refine (WI.o _).mono ?_
  rintro e w1 ⟨rfl,rfl⟩;go_wp2;go_ret
  exact ⟨⟨none,0,rfl,Qk.nil,Nat.le_refl _,by omega⟩,G.o⟩
 ·have hle:off + sz≤ys.length:=by unfold Zq at hw;simp at hw;omega
  have hl:(Q1 ys off sz).length=sz:=by rw [Bf hw];simp;omega
  have hp:Q1 ys off sz=(ys.drop off).take sz:=Bf hw;obtain ⟨V,hV,hB⟩:=cut2_at h hc off sz hle;rw [hl,hp];have ws:IntKind.u64.wrap ((off:Int) + sz)=(off:Int) + sz:=IntWalk.u64_in _ (by omega);have HB:=Lv (hB.kept G.o (by simp));have hsc:sz≤c - off:=by omega
  rw [hw] at WI;clear hw h hl hp hB hc;generalize (ys.drop off).take sz=zs at *;generalize ys.length=n at *;go_enter Tryz.func53,Tryz.ntmps53;go_upto_region 1 with fail;clear hW hb;go_wp2_with fail;refine (WI.o _).mono ?_
  rintro e w1 ⟨rfl,rfl⟩;go_wp2;go_ret
  exact ⟨⟨V,c - off,rfl,HB.o,hsc,by omega⟩,G.o⟩
section
open Go.RowKit Go.Sort
variable {w w' W:World} {h:Hx} {s:St} {sv dv:Value}
theorem refMay11_any {l:List Sg} {qs qd:Option Addr} {cs nd cd:Nat} (hnd:nd≤9223372036854775807) (k:Zt w s l qs cs) (nm:ByteArray) (x:Ex) (hx:Vq x) :
  Calls Tryz.prog 51 #[imgV h s (.slice qs l.length cs) (.slice qd nd cd),exV nm x] w fun e w'=>e=.returned (.int .i64 (Jn s nd x))∧w.grownBy w' none:=by
 rw [expMay_doc hx];have ho:=hx.2.2.2;obtain ⟨N,hN⟩:∃ N,N=l.length:=⟨_,rfl⟩
 rw [← hN];have gB:=grown1 w (.cells (Qf h s (.slice qs N cs) (.slice qd nd cd)) 48);have aA:Zp (w.alloc (.cells (Qf h s (.slice qs N cs) (.slice qd nd cd)) 48)) w.heap.size h s (.slice qs N cs) (.slice qd nd cd):=heap_alloc_new w _;obtain ⟨W,hW⟩:∃ W,w.alloc (.cells (Qf h s (.slice qs N cs) (.slice qd nd cd)) 48)=W:=⟨_,rfl⟩
 obtain ⟨b,hb⟩:∃ b,w.heap.size=b:=⟨_,rfl⟩
 rw [hW] at gB aA;rw [hb] at aA;have gr:=grown1 W (.cells (Zd nm x) 28);have x2:ExAt (W.alloc (.cells (Zd nm x) 28)) W.heap.size nm x:=heap_alloc_new W _;obtain ⟨W2,hW2⟩:∃ W2,W.alloc (.cells (Zd nm x) 28)=W2:=⟨_,rfl⟩
 obtain ⟨b2,hb2⟩:∃ b,W.heap.size=b:=⟨_,rfl⟩
 rw [hW2] at gr x2;rw [hb2] at x2;have a2:=aA.kept gr (by simp);have KG:=fun d os=>Qt (below_regrown W2 d os) none;have HI:=Lv (fun d os=>Calls.regrown_of ((rHigh_any (h:=h) (dv:=.slice qd nd cd) (((k.grown gB).grown gr).grown (KG d os))).mono (fun _ _ h=>(⟨h.1,Qg h.2 (Nat.le_refl _) (by simp)⟩ : _∧_))));have LO:=Lv (fun d os=>Calls.regrown_of ((W9 (h:=h) (dv:=.slice qd nd cd) (((k.grown gB).grown gr).grown (KG d os))).mono (fun _ _ h=>(⟨h.1,Qg h.2 (Nat.le_refl _) (by simp)⟩ : _∧_))))
 have LD:=Lv (fun (V:World) (hV:∃ p:Regrown,V=Go.Sort.grow (redrawn W2 p.d) p.os)=>(by obtain ⟨p,rfl⟩:=hV;exact Kn (a2.kept (KG p.d p.os) (by simp)):(loadVar 48 ⟨b,0,none⟩).run Tryz.prog V=.ok (imgV h s (.slice qs N cs) (.slice qd nd cd)) V));have A5:=Lv (a2.c 5 (.slice qd nd cd) rfl);have AL:=Lv (lt_of_block a2);rw [← hN] at HI LO;have LW:=longN_wrap s;generalize Hm s.segs=H at *
 generalize lowN s.segs=L at *;generalize Yh s=D at *;have G2:=Lv (Qz gB gr);have X2:=Lv x2;have hcv:IntKind.u64.wrap (nd:Int)=nd:=IntWalk.u64_in _ (by omega);have HK:=Lv KG;obtain ⟨kind,weak,value,resolver,ordinal,other⟩:=x;simp only [] at ho ⊢;clear k gB aA gr x2 hN KG a2 hx;simp only [imgV,Qf,exV,Zd] at hW hW2 HI LO LD ⊢;obtain ⟨r,hr⟩:∃ r:Int,r=if ((kind=1∨kind=4)∧D≤value)∨(kind=4∧D≤resolver) then 4 else if kind=3∧(ordinal < 1∨(nd:Int) < ordinal) then 22 else 0:=⟨_,rfl⟩
 rw [← hr];have RR:=Lv hr;clear hr;go_enter Tryz.func51,Tryz.ntmps51;go_upto_region 1 with fail;clear hW hb hW2 hb2;refine wp_region_quiet_below (by kernel_rfl) (by kernel_rfl) ?_
 refine Zj rfl _ rfl rfl LD.o ?_
 quiet_step (with_reducible exact HI.o _ _)
 refine Zj rfl _ rfl rfl LD.o ?_
 quiet_step (with_reducible exact LO.o _ _)
 repeat (quiet_step (fail))
 refine wpQuiet_nil ?_
 intro _ hw';obtain ⟨⟨dq,osq⟩,hw''⟩:=hw';subst hw'';have c5:=Qv (HK.o dq osq) A5.o;have X3:=X2.o.kept (HK.o dq osq) (by simp);have rl:=Nat.lt_of_lt_of_le AL.o (HK.o dq osq).size;obtain ⟨W3,hW3⟩:∃ W3,Go.Sort.grow (redrawn W2 dq) osq=W3:=⟨_,rfl⟩
 have GG:=Lv (Qz G2.o (HK.o dq osq));rw [hW3] at X3 GG c5 rl ⊢;obtain ⟨-,y1,-,y3,y4,y5,-⟩:=X3.c;have yl:=X3.lt;simp only [] at y1 y3 y4 y5;clear hW3 X3 LW;by_cases k1:kind=1
 ·subst k1
  by_cases hv:D≤value
  ·have dv:decide (D≤value)=true:=decide_eq_true hv
   have E:=Lv (show r=4 from by rw [RR.o,if_pos (.inl ⟨.inl rfl,hv⟩)]);clear hv;go_wp2;go_ret
   exact ⟨Ql E.o.symm,GG.o⟩
  ·have dv:decide (D≤value)=false:=decide_eq_false hv
   have E:=Lv (show r=0 from by rw [RR.o,if_neg (by omega),if_neg (by omega)]);clear hv;go_wp2;go_ret
   exact ⟨Ql E.o.symm,GG.o⟩
 have k1':(kind == 1)=false:=by simp;exact k1
 by_cases k4:kind=4
 ·subst k4
  by_cases hv:D≤value
  ·have dv:decide (D≤value)=true:=decide_eq_true hv
   have E:=Lv (show r=4 from by rw [RR.o,if_pos (.inl ⟨.inr rfl,hv⟩)]);clear hv k1;go_wp2;go_ret
   exact ⟨Ql E.o.symm,GG.o⟩
  ·have dv:decide (D≤value)=false:=decide_eq_false hv
   by_cases hr:D≤resolver
   ·have dr:decide (D≤resolver)=true:=decide_eq_true hr
    have E:=Lv (show r=4 from by rw [RR.o,if_pos (.inr ⟨rfl,hr⟩)]);clear hv hr k1;go_wp2;go_ret
    exact ⟨Ql E.o.symm,GG.o⟩
   ·have dr:decide (D≤resolver)=false:=decide_eq_false hr
    have E:=Lv (show r=0 from by rw [RR.o,if_neg (by omega),if_neg (by omega)]);clear hv hr k1;go_wp2;go_ret
    exact ⟨Ql E.o.symm,GG.o⟩
 have k4':(kind == 4)=false:=by simp;exact k4
 by_cases k3:kind=3
 ·subst k3
  by_cases h0:ordinal=0
  ·subst h0
   have E:=Lv (show r=22 from by rw [RR.o,if_neg (by omega),if_pos ⟨rfl,.inl (by decide)⟩]);clear k1 k4;go_wp2;go_ret
   exact ⟨Ql E.o.symm,GG.o⟩
  ·have d0:(ordinal == 0)=false:=by simp;exact h0
   by_cases hn:(nd:Int) < ordinal
   ·have dn:decide ((nd:Int) < ordinal)=true:=decide_eq_true hn
    have E:=Lv (show r=22 from by rw [RR.o,if_neg (by omega),if_pos ⟨rfl,.inr hn⟩]);clear k1 k4 h0 hn ho;go_wp2;go_ret
    exact ⟨Ql E.o.symm,GG.o⟩
   ·have dn:decide ((nd:Int) < ordinal)=false:=decide_eq_false hn
    have E:=Lv (show r=0 from by rw [RR.o,if_neg (by omega),if_neg (by omega)]);clear k1 k4 h0 hn ho;go_wp2;go_ret
    exact ⟨Ql E.o.symm,GG.o⟩
 have k3':(kind == 3)=false:=by simp;exact k3
 have E:=Lv (show r=0 from by rw [RR.o,if_neg (by omega),if_neg (by omega)]);clear k1 k4 k3 ho;go_wp2;go_ret
 exact ⟨Ql E.o.symm,GG.o⟩
end
end Go.Proofs.YtkmbkpoclhbmgaaGreat
