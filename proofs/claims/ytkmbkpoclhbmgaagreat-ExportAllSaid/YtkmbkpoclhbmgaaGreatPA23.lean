/- Parts of the proof, put together: ExH, ExI, RFnd. No condition beyond those that each part names. -/
import Derived.Test.YtkmbkpoclhbmgaaGreatPA22
set_option maxRecDepth 20000
set_option maxHeartbeats 6400000
namespace Go.Proofs.YtkmbkpoclhbmgaaGreat
open Go.RowKit
variable {w w' W V:World}
section
open Go.RowKit Go.Sort
variable {w w' W V:World} {h:Hx} {s:St} {sv dv:Value}
theorem Wx {ys:List Int} {q:Option Addr} {c n:Nat} (h:Qk w q c ys) (hn:ys.length=n) (hc:n≤c) (hcm:c≤9223372036854775807) {off sz:Int} (ho:U64 off) (hz:U64 sz) :
  Calls Tryz.prog 53 #[.slice q n c,.agg #[.int .u64 off,.int .u64 sz]] w fun e w'=>∃ V cc,e=.returned (.slice V (Q1 ys off sz).length cc)∧OneB w' V cc (Q1 ys off sz)∧w.grownBy w' none:=by
 subst hn;obtain ⟨h1,h2⟩:=ho;obtain ⟨h3,h4⟩:=hz;obtain ⟨o,rfl⟩:∃ o:Nat,off=o:=⟨off.toNat,by omega⟩
 obtain ⟨z,rfl⟩:∃ z:Nat,sz=z:=⟨sz.toNat,by omega⟩
 refine (rPart_any h hc hcm o z (by omega) (by omega)).mono ?_
 rintro e w' ⟨⟨V,cc,rfl,hb,hl,hm⟩,hg⟩;exact ⟨V,cc,rfl,⟨hb,hl,hm⟩,hg⟩
structure RwL (w2 wr:World) (D:Syms) (low:Int) (n:Nat) (v8 v9:Value):Prop where
 ex:∃ (k:Nat) (q:Option Addr) (c:Nat),k≤n∧v9=.int .i64 (k:Int)∧v8=.slice q k c∧wr.ownsRow w2.heap.size 28 7 (.slice q k c) k (((D.take k).map (Xy low)).flatMap Q4)
 grown:w2.grownBy wr none
theorem refRaw_any {ys:List Int} {q:Option Addr} {c n:Nat} {l:List Sg} {qs qd:Option Addr} {cs nd cd:Nat} (hI:Bt w ys q c s l qs cs nd) (hn:ys.length=n) :
  Calls Tryz.prog 50 #[.slice q n c,imgV h s (.slice qs l.length cs) (.slice qd nd cd)] w fun e w'=>ExsO w w' (Zy ys s) e:=by
 obtain ⟨N,hN⟩:∃ N,N=l.length:=⟨_,rfl⟩
 rw [← hN];have gB:=grown1 w (.cells (Qf h s (.slice qs N cs) (.slice qd nd cd)) 48);have aA:Zp (w.alloc (.cells (Qf h s (.slice qs N cs) (.slice qd nd cd)) 48)) w.heap.size h s (.slice qs N cs) (.slice qd nd cd):=heap_alloc_new w _;obtain ⟨W,hW⟩:∃ W,w.alloc (.cells (Qf h s (.slice qs N cs) (.slice qd nd cd)) 48)=W:=⟨_,rfl⟩
 obtain ⟨b,hb'⟩:∃ b,w.heap.size=b:=⟨_,rfl⟩
 rw [hW] at gB aA;rw [hb'] at aA;have I1:=hI.grown gB;have hcn:n≤c:=by rw [← hn];exact I1.le
 have PT:=Lv (fun (V:World) (hg:W.grownBy V none)=>Wx (I1.grown hg).b hn hcn I1.most I1.tr.1 I1.tr.2);have PA:=Lv (fun (V:World) (hg:W.grownBy V none)=>Wx (I1.grown hg).b hn hcn I1.most I1.sy.1 I1.sy.2);have PB:=Lv (fun (V:World) (hg:W.grownBy V none)=>Wx (I1.grown hg).b hn hcn I1.most I1.st.1 I1.st.2);have SE:=Lv (fun (V:World) (hg:W.grownBy V none)=>sections_any (h:=h) (dv:=.slice qd nd cd) (I1.img.grown hg) I1.secs)
 have LO:=Lv (fun (V:World) (hg:W.grownBy V none)=>W9 (h:=h) (dv:=.slice qd nd cd) (I1.img.grown hg));rw [← hN] at SE LO;have PL:=Lv (fun off sz=>Nat.le_trans (Yc ys off sz) I1.few);have PY:=Lv (fun off sz=>Jy I1.byt off sz);have KA:=Lv (fun (V:World) (hg:W.grownBy V none)=>aA.kept hg (by simp));have KI:=Lv (fun (V:World) (hg:W.grownBy V none)=>Kn (aA.kept hg (by simp)))
 have KS:=Lv (fun (V:World) (hg:W.grownBy V none)=>And.intro ((aA.kept hg (by simp)).c 18 (.int .u64 s.sy.1) rfl) (And.intro ((aA.kept hg (by simp)).c 19 (.int .u64 s.sy.2) rfl) (And.intro ((aA.kept hg (by simp)).c 20 (.int .u64 s.st.1) rfl) ((aA.kept hg (by simp)).c 21 (.int .u64 s.st.2) rfl))));have G:=Lv gB;have SYP:=Lv I1.sy.2;have c14:=aA.c 14 (.int .u64 s.tr.1) rfl;have c15:=aA.c 15 (.int .u64 s.tr.2) rfl
 have c18:=aA.c 18 (.int .u64 s.sy.1) rfl;have c19:=aA.c 19 (.int .u64 s.sy.2) rfl;have gl:=lt_of_block aA;obtain ⟨RES,hRES⟩:∃ R,R=Zy ys s:=⟨_,rfl⟩
 rw [← hRES];have OUT:=Lv hRES;clear hI I1 hn gB aA hN hcn hRES;by_cases h0 : 0 < s.tr.2
 ·have d0:decide (0 < s.tr.2)=true:=decide_eq_true h0
  have OUT:=Lv (show RES=((allN (Q1 ys s.tr.1 s.tr.2)).2,srtN (allN (Q1 ys s.tr.1 s.tr.2)).1) from by rw [OUT.o];unfold Zy;rw [if_pos h0]);have AL:=Lv (fun (V:World) q c (hb:OneB V q c (Q1 ys s.tr.1 s.tr.2))=>refAll_any hb.b rfl (PY.o _ _) hb.le hb.most (PL.o _ _));have PY1:=Lv (PY.o s.tr.1 s.tr.2);generalize Q1 ys s.tr.1 s.tr.2=p at *;clear h0 PA PB SE LO KI KS c18 c19 PL PY
  rw [show imgV h s (.slice qs N cs) (.slice qd nd cd)=.agg (Qf h s (.slice qs N cs) (.slice qd nd cd)) from rfl];unfold Qf at hW ⊢;go_enter Tryz.func50,Tryz.ntmps50;go_upto_region 1 with fail;clear hW hb';go_wp2_with fail;refine (PT.o _ (Qq _ _)).mono ?_
  rintro e w2 ⟨V,cc,rfl,hb,hg⟩;have A2:=Lv (AL.o w2 V cc hb);have G2:=Lv (Qz G.o hg);clear hb hg c14 c15 gl;go_wp2_with fail;refine A2.o.mono ?_
  rintro e w3 ⟨⟨D,q3,c3,rfl,hr,hs,hp,hlc,hlm⟩,hg⟩;have E:=all_srt PY1.o hs hp;have F:=Lv (show ExsO w w3 RES (.returned (.tuple #[.slice q3 D.length c3,.int .i64 (allN p).2])) from by
   rw [OUT.o,← E];exact ⟨⟨q3,c3,rfl,hr,hlc,hlm⟩,Qz G2.o hg⟩)
  clear hr hs hp hlc hlm hg E;go_wp2;go_ret2
  exact F.o
 have d0:decide (0 < s.tr.2)=false:=decide_eq_false h0;by_cases h1 : 0 < s.sy.2
 ·have d1:(s.sy.2 == 0)=false:=by simp;omega
  have OUT:=Lv (show RES=((Jk (Q1 ys s.sy.1 s.sy.2) (Q1 ys s.st.1 s.st.2) (secN s.segs:Int)).1,srtN ((Jk (Q1 ys s.sy.1 s.sy.2) (Q1 ys s.st.1 s.st.2) (secN s.segs:Int)).2.map (Xy (lowN s.segs)))) from by rw [OUT.o];unfold Zy;rw [if_neg h0,if_pos h1]);have AL:=Lv (fun (V:World) q c q2 c2 (hb:OneB V q c (Q1 ys s.sy.1 s.sy.2)) (hb2:OneB V q2 c2 (Q1 ys s.st.1 s.st.2))=>all10_any (n:=(secN s.segs:Int)) hb.b rfl (PL.o _ _) hb.le hb.most (PY.o _ _) hb2.b rfl (PL.o _ _) hb2.le (PY.o _ _))
  have OK:=Lv (Bk (n:=(secN s.segs:Int)) (PY.o s.sy.1 s.sy.2) (PY.o s.st.1 s.st.2));obtain ⟨⟨E,D⟩,hR⟩:∃ R,R=Jk (Q1 ys s.sy.1 s.sy.2) (Q1 ys s.st.1 s.st.2) (secN s.segs:Int):=⟨_,rfl⟩
  rw [← hR] at OUT AL OK;simp only [] at OUT OK;obtain ⟨L1,hL1⟩:∃ L,L=(Q1 ys s.sy.1 s.sy.2).length:=⟨_,rfl⟩
  obtain ⟨L2,hL2⟩:∃ L,L=(Q1 ys s.st.1 s.st.2).length:=⟨_,rfl⟩
  obtain ⟨SN,hSN⟩:∃ n,n=secN s.segs:=⟨_,rfl⟩
  obtain ⟨LN,hLN⟩:∃ n,n=lowN s.segs:=⟨_,rfl⟩
  obtain ⟨M,hM⟩:∃ n,n=D.length:=⟨_,rfl⟩
  rw [← hL1] at PA AL;rw [← hL2] at PB AL;rw [← hSN] at SE AL;rw [← hLN] at LO OUT;have HM:=Lv hM.symm;have GD:=Lv (show W.grownBy W.drew none from Qj (Qq W none) 1);clear h0 h1 PT hL1 hL2 hSN hLN c14 hR hM PL PY;rw [show imgV h s (.slice qs N cs) (.slice qd nd cd)=.agg (Qf h s (.slice qs N cs) (.slice qd nd cd)) from rfl];unfold imgV at SE LO KI;unfold Qf at hW SE LO KI ⊢
  go_enter Tryz.func50,Tryz.ntmps50;go_upto_region 1 with fail;clear hW hb';go_upto_region 5 with fail;clear c15 c18 c19;refine wp_region_held_drew (S:=fun V=>W.grownBy V none) (by kernel_rfl) GD.o (fun hS=>?_);refine tkY (i:=0) (oi:=⟨some 27,_,_,_,_,_⟩) (v:=Value.slice q n c) rfl (by kernel_rfl) (fun _ _ _ h=>h) (by rfl) (fun V hV=>?_) hS ?_
  ·go_simp
  try simp only [Act.put,List.setIfInBounds_toArray,List.set_cons_zero,List.set_cons_succ]
  refine tkY (i:=1) (oi:=⟨some 28,_,_,_,_,_⟩) (v:=Value.pointer (some ⟨b,18,none⟩)) rfl (by kernel_rfl) (fun _ _ _ h=>h) (by rfl) (fun V hV=>?_) hS ?_
  ·go_simp
  try simp only [Act.put,List.setIfInBounds_toArray,List.set_cons_zero,List.set_cons_succ]
  refine tkY (i:=2) (oi:=⟨some 29,_,_,_,_,_⟩) (v:=Value.agg #[.int .u64 s.sy.1,.int .u64 s.sy.2]) rfl (by kernel_rfl) (fun _ _ _ h=>h) (by rfl) (fun V hV=>?_) hS ?_
  ·(obtain ⟨c0,c1,c2,c3⟩:=KS.o V hV;go_simp)
  try simp only [Act.put,List.setIfInBounds_toArray,List.set_cons_zero,List.set_cons_succ]
  refine tkY (i:=4) (oi:=⟨some 31,_,_,_,_,_⟩) (v:=Value.slice q n c) rfl (by kernel_rfl) (fun _ _ _ h=>h) (by rfl) (fun V hV=>?_) hS ?_
  ·go_simp
  try simp only [Act.put,List.setIfInBounds_toArray,List.set_cons_zero,List.set_cons_succ]
  refine tkY (i:=5) (oi:=⟨some 32,_,_,_,_,_⟩) (v:=Value.pointer (some ⟨b,20,none⟩)) rfl (by kernel_rfl) (fun _ _ _ h=>h) (by rfl) (fun V hV=>?_) hS ?_
  ·go_simp
  try simp only [Act.put,List.setIfInBounds_toArray,List.set_cons_zero,List.set_cons_succ]
  refine tkY (i:=6) (oi:=⟨some 33,_,_,_,_,_⟩) (v:=Value.agg #[.int .u64 s.st.1,.int .u64 s.st.2]) rfl (by kernel_rfl) (fun _ _ _ h=>h) (by rfl) (fun V hV=>?_) hS ?_
  ·(obtain ⟨c0,c1,c2,c3⟩:=KS.o V hV;go_simp)
  try simp only [Act.put,List.setIfInBounds_toArray,List.set_cons_zero,List.set_cons_succ]
  refine tkY (i:=8) (oi:=⟨some 35,_,_,_,_,_⟩) (v:=Value.agg #[.int .i64 h.kd,.int .i64 h.sb,.int .u32 h.fl,.string (strOfNums s.name),.slice qs N cs,.slice qd nd cd,.int .u64 s.rb.1,.int .u64 s.rb.2,.int .u64 s.bd.1,.int .u64 s.bd.2,.int .u64 s.wk.1,.int .u64 s.wk.2,.int .u64 s.lz.1,.int .u64 s.lz.2,.int .u64 s.tr.1,.int .u64 s.tr.2,.int .u64 s.ch.1,.int .u64 s.ch.2,.int .u64 s.sy.1,.int .u64 s.sy.2,.int .u64 s.st.1,.int .u64 s.st.2,.int .u64 s.entry,.bool s.has]) rfl (by kernel_rfl) (fun _ _ _ h=>h) (by rfl) (fun V hV=>?_) hS ?_
  ·(exact Sk rfl rfl (KI.o V hV))
  try simp only [Act.put,List.setIfInBounds_toArray,List.set_cons_zero,List.set_cons_succ]
  refine wpAnyH_ready (rs:=[3]) (by kernel_rfl) (by simp) ?_
  refine AllReadyH.cons (o:=⟨some 30,_,_,_,_,_⟩) rfl (fun K' hK'=>?_) AllReadyH.nil;go_simp;go_at_call 53
  refine (PA.o _ hS).mono ?_
  rintro e w1 ⟨V1,c1,rfl,hb1,hg⟩;have B1:=Lv hb1;clear hb1;have HG1:=Lv hg;have hS':=Qz hS hg;refine hK'.out _ _ hS' (fun hS=>?_);clear hK' K' hS' hg
  try simp only [Act.put,List.setIfInBounds_toArray,List.set_cons_zero,List.set_cons_succ]
  refine wpAnyH_ready (rs:=[7]) (by kernel_rfl) (by simp) ?_
  refine AllReadyH.cons (o:=⟨some 34,_,_,_,_,_⟩) rfl (fun K' hK'=>?_) AllReadyH.nil;go_simp;go_at_call 53
  refine (PB.o _ hS).mono ?_
  rintro e w2 ⟨V2,c2,rfl,hb2,hg⟩;have B2:=Lv hb2;clear hb2;have HG2:=Lv hg;have hS':=Qz hS hg;refine hK'.out _ _ hS' (fun hS=>?_);clear hK' K' hS' hg
  try simp only [Act.put,List.setIfInBounds_toArray,List.set_cons_zero,List.set_cons_succ]
  refine wpAnyH_ready (rs:=[9]) (by kernel_rfl) (by simp) ?_
  refine AllReadyH.cons (o:=⟨some 36,_,_,_,_,_⟩) rfl (fun K' hK'=>?_) AllReadyH.nil;go_simp;go_at_call 87
  refine (SE.o _ hS).mono ?_
  rintro e w3 ⟨rfl,hg⟩;have HG3:=Lv hg;have hS':=Qz hS hg;refine hK'.out _ _ hS' (fun hS=>?_);clear hK' K' hS' hg
  try simp only [Act.put,List.setIfInBounds_toArray,List.set_cons_zero,List.set_cons_succ]
  refine wpAnyH_ready (rs:=[10]) (by kernel_rfl) (by simp) ?_
  refine AllReadyH.cons (o:=⟨some 37,_,_,_,_,_⟩) rfl (fun K' hK'=>?_) AllReadyH.nil;go_simp;go_at_call 86
  refine (AL.o w3 V1 c1 V2 c2 (OneB.kept B1.o (Qz HG2.o HG3.o)) (OneB.kept B2.o HG3.o)).mono ?_
  rintro e w4 ⟨⟨q5,c5,rfl,hD,hle,hmost⟩,hbel⟩;have hg:=Qt hbel none;simp only [] at hD hle ⊢;rw [HM.o] at hle ⊢;have HD:=Lv hD;clear hD hbel;have HG4:=Lv hg;have hS':=Qz hS hg;refine hK'.out _ _ hS' (fun hS=>?_);clear hK' K' hS' hg;refine tkY (i:=11) (oi:=⟨some 26,_,_,_,_,_⟩) (v:=Value.tuple #[.slice q5 M c5,.int .i64 E]) rfl (by kernel_rfl) (fun _ _ _ h=>h) (by rfl) (fun V hV=>?_) hS ?_
  ·go_simp
  try simp only [Act.put,List.setIfInBounds_toArray,List.set_cons_zero,List.set_cons_succ]
  refine tkY (i:=12) (oi:=⟨some 38,_,_,_,_,_⟩) (v:=Value.slice q5 M c5) rfl (by kernel_rfl) (fun _ _ _ h=>h) (by rfl) (fun V hV=>?_) hS ?_
  ·go_simp
  try simp only [Act.put,List.setIfInBounds_toArray,List.set_cons_zero,List.set_cons_succ]
  refine tkY (i:=13) (oi:=⟨some 39,_,_,_,_,_⟩) (v:=Value.int .i64 E) rfl (by kernel_rfl) (fun _ _ _ h=>h) (by rfl) (fun V hV=>?_) hS ?_
  ·go_simp
  try simp only [Act.put,List.setIfInBounds_toArray,List.set_cons_zero,List.set_cons_succ]
  refine tkY (i:=14) (oi:=⟨some 6,_,_,_,_,_⟩) (v:=Value.slice q5 M c5) rfl (by kernel_rfl) (fun _ _ _ h=>h) (by rfl) (fun V hV=>?_) hS ?_
  ·go_simp
  try simp only [Act.put,List.setIfInBounds_toArray,List.set_cons_zero,List.set_cons_succ]
  refine tkY (i:=15) (oi:=⟨some 7,_,_,_,_,_⟩) (v:=Value.int .i64 E) rfl (by kernel_rfl) (fun _ _ _ h=>h) (by rfl) (fun V hV=>?_) hS ?_
  ·go_simp
  try simp only [Act.put,List.setIfInBounds_toArray,List.set_cons_zero,List.set_cons_succ]
  refine wpAnyH_done (by kernel_rfl) ?_ _
  have GH:=Lv hS;have few:=OK.o.few;rw [HM.o] at few;have CP:=Lv (And.intro hle hmost);have ST:=Lv (show RwL w4 w4 D LN M (.slice none 0 0) (.int .i64 0) from ⟨⟨0,none,0,Nat.zero_le _,rfl,rfl,World.ownsRow_nil _ _ _ _⟩,Qq _ _⟩);clear hS PA PB SE AL B1 B2 HG1 HG2 HG3 HG4 KS hle hmost;go_wp2;go_loopw [8,9] (fun v8 v9 wr=>RwL w4 wr D LN M v8 v9) (fun _ v9 _=>M - (intOf v9).toNat)
  case atStart=>exact ST.o
  case round =>
   obtain ⟨⟨k,q8,c8,hk,rfl,rfl,ho⟩,hg⟩:=hrel;have GX:=Lv hg;by_cases hlt:k < M
   ·obtain ⟨y,hy⟩:∃ y,D[k]?=some y:=⟨_,List.getElem?_eq_getElem (by rw [HM.o];exact hlt)⟩
    obtain ⟨gq,oq,rfl,a0,a1,a2,a3⟩:=(HD.o.grown hg).at hy;have TK:=Lv (sym_take (low:=LN) hy);have dl:decide ((k:Int) < (M:Int))=true:=by simp;omega
    have hkI:(k:Int) < (M:Int):=by omega
    have ysec:=(OK.o.each y (List.mem_of_getElem? hy)).2.2.2.1;have OW:=Lv ho;have DY:=Lv (fun (V:World) (hV:wr.grownBy V none)=>And.intro (Qv hV a0) (And.intro (Qv hV a1) (And.intro (Qv hV a2) (Qv hV a3))));have GV:=Lv (Qj (Qq wr none) 1);clear ho hg hy;go_upto_region 10 with fail;have GXD:=Lv (show wr.grownBy wr.drew none from Qj (Qq wr none) 1)
    have hk63:(k:Int) < (M:Int):=hkI;refine wp_region_held_drew (S:=fun V=>wr.grownBy V none) (by kernel_rfl) GXD.o (fun hS=>?_);refine tkY (i:=0) (oi:=⟨some 46,_,_,_,_,_⟩) (v:=Value.slice (some ⟨gq,oq,none⟩) M c5) rfl (by kernel_rfl) (fun _ _ _ h=>h) (by rfl) (fun V hV=>?_) hS ?_
    ·go_simp
    try simp only [Act.put,List.setIfInBounds_toArray,List.set_cons_zero,List.set_cons_succ]
    refine tkY (i:=1) (oi:=⟨some 47,_,_,_,_,_⟩) (v:=Value.int .i64 (k:Int)) rfl (by kernel_rfl) (fun _ _ _ h=>h) (by rfl) (fun V hV=>?_) hS ?_
    ·go_simp
    try simp only [Act.put,List.setIfInBounds_toArray,List.set_cons_zero,List.set_cons_succ]
    refine tkY (i:=2) (oi:=⟨some 48,_,_,_,_,_⟩) (v:=Value.pointer (some ⟨gq,oq + k * 4,none⟩)) rfl (by kernel_rfl) (fun _ _ _ h=>h) (by rfl) (fun V hV=>?_) hS ?_
    ·go_simp
    try simp only [Act.put,List.setIfInBounds_toArray,List.set_cons_zero,List.set_cons_succ]
    refine tkY (i:=3) (oi:=⟨some 49,_,_,_,_,_⟩) (v:=Value.pointer (some ⟨gq,oq + k * 4,none⟩)) rfl (by kernel_rfl) (fun _ _ _ h=>h) (by rfl) (fun V hV=>?_) hS ?_
    ·go_simp
    try simp only [Act.put,List.setIfInBounds_toArray,List.set_cons_zero,List.set_cons_succ]
    refine tkY (i:=4) (oi:=⟨some 50,_,_,_,_,_⟩) (v:=Value.string (strOfNums y.1)) rfl (by kernel_rfl) (fun _ _ _ h=>h) (by rfl) (fun V hV=>?_) hS ?_
    ·(obtain ⟨c0,c1,c2,c3⟩:=DY.o V hV;go_simp)
    try simp only [Act.put,List.setIfInBounds_toArray,List.set_cons_zero,List.set_cons_succ]
    refine tkY (i:=5) (oi:=⟨some 51,_,_,_,_,_⟩) (v:=Value.slice (some ⟨gq,oq,none⟩) M c5) rfl (by kernel_rfl) (fun _ _ _ h=>h) (by rfl) (fun V hV=>?_) hS ?_
    ·go_simp
    try simp only [Act.put,List.setIfInBounds_toArray,List.set_cons_zero,List.set_cons_succ]
    refine tkY (i:=6) (oi:=⟨some 52,_,_,_,_,_⟩) (v:=Value.int .i64 (k:Int)) rfl (by kernel_rfl) (fun _ _ _ h=>h) (by rfl) (fun V hV=>?_) hS ?_
    ·go_simp
    try simp only [Act.put,List.setIfInBounds_toArray,List.set_cons_zero,List.set_cons_succ]
    refine tkY (i:=7) (oi:=⟨some 53,_,_,_,_,_⟩) (v:=Value.pointer (some ⟨gq,oq + k * 4,none⟩)) rfl (by kernel_rfl) (fun _ _ _ h=>h) (by rfl) (fun V hV=>?_) hS ?_
    ·go_simp
    try simp only [Act.put,List.setIfInBounds_toArray,List.set_cons_zero,List.set_cons_succ]
    refine tkY (i:=8) (oi:=⟨some 54,_,_,_,_,_⟩) (v:=Value.pointer (some ⟨gq,oq + k * 4 + 3,none⟩)) rfl (by kernel_rfl) (fun _ _ _ h=>h) (by rfl) (fun V hV=>?_) hS ?_
    ·go_simp
    try simp only [Act.put,List.setIfInBounds_toArray,List.set_cons_zero,List.set_cons_succ]
    refine tkY (i:=9) (oi:=⟨some 55,_,_,_,_,_⟩) (v:=Value.bool y.2.weak) rfl (by kernel_rfl) (fun _ _ _ h=>h) (by rfl) (fun V hV=>?_) hS ?_
    ·(obtain ⟨c0,c1,c2,c3⟩:=DY.o V hV;go_simp)
    try simp only [Act.put,List.setIfInBounds_toArray,List.set_cons_zero,List.set_cons_succ]
    refine tkY (i:=10) (oi:=⟨some 56,_,_,_,_,_⟩) (v:=Value.slice (some ⟨gq,oq,none⟩) M c5) rfl (by kernel_rfl) (fun _ _ _ h=>h) (by rfl) (fun V hV=>?_) hS ?_
    ·go_simp
    try simp only [Act.put,List.setIfInBounds_toArray,List.set_cons_zero,List.set_cons_succ]
    refine tkY (i:=11) (oi:=⟨some 57,_,_,_,_,_⟩) (v:=Value.int .i64 (k:Int)) rfl (by kernel_rfl) (fun _ _ _ h=>h) (by rfl) (fun V hV=>?_) hS ?_
    ·go_simp
    try simp only [Act.put,List.setIfInBounds_toArray,List.set_cons_zero,List.set_cons_succ]
    refine tkY (i:=12) (oi:=⟨some 58,_,_,_,_,_⟩) (v:=Value.pointer (some ⟨gq,oq + k * 4,none⟩)) rfl (by kernel_rfl) (fun _ _ _ h=>h) (by rfl) (fun V hV=>?_) hS ?_
    ·go_simp
    try simp only [Act.put,List.setIfInBounds_toArray,List.set_cons_zero,List.set_cons_succ]
    refine tkY (i:=13) (oi:=⟨some 59,_,_,_,_,_⟩) (v:=Value.pointer (some ⟨gq,oq + k * 4 + 2,none⟩)) rfl (by kernel_rfl) (fun _ _ _ h=>h) (by rfl) (fun V hV=>?_) hS ?_
    ·go_simp
    try simp only [Act.put,List.setIfInBounds_toArray,List.set_cons_zero,List.set_cons_succ]
    refine tkY (i:=14) (oi:=⟨some 60,_,_,_,_,_⟩) (v:=Value.int .u64 y.2.value) rfl (by kernel_rfl) (fun _ _ _ h=>h) (by rfl) (fun V hV=>?_) hS ?_
    ·(obtain ⟨c0,c1,c2,c3⟩:=DY.o V hV;go_simp)
    try simp only [Act.put,List.setIfInBounds_toArray,List.set_cons_zero,List.set_cons_succ]
    refine tkY (i:=15) (oi:=⟨some 61,_,_,_,_,_⟩) (v:=Value.agg #[.string (strOfNums y.1),.int .i64 2,.bool y.2.weak,.int .u64 y.2.value,.int .u64 0,.int .u64 0,.string ⟨#[]⟩]) rfl (by kernel_rfl) (fun _ _ _ h=>h) (by rfl) (fun V hV=>?_) hS ?_
    ·go_simp
    try simp only [Act.put,List.setIfInBounds_toArray,List.set_cons_zero,List.set_cons_succ]
    refine wpAnyH_ready (rs:=[16]) (by kernel_rfl) (by simp) ?_
    refine AllReadyH.cons (o:=⟨some 10,_,_,_,_,_⟩) rfl (fun K' hK'=>?_) AllReadyH.nil;go_simp;have r5:ExAt ((wr.alloc (.cells #[.string ⟨#[]⟩,.int .i64 0,.bool false,.int .u64 0,.int .u64 0,.int .u64 0,.string ⟨#[]⟩] 28)).drew) wr.heap.size ⟨#[]⟩ Ex.zero:=Wt wr;have g5:wr.grownBy ((wr.alloc (.cells #[.string ⟨#[]⟩,.int .i64 0,.bool false,.int .u64 0,.int .u64 0,.int .u64 0,.string ⟨#[]⟩] 28)).drew) none:=Qj (grown1 wr (.cells #[.string ⟨#[]⟩,.int .i64 0,.bool false,.int .u64 0,.int .u64 0,.int .u64 0,.string ⟨#[]⟩] 28)) 1
    obtain ⟨w5,hw5⟩:∃ W,W=(wr.alloc (.cells #[.string ⟨#[]⟩,.int .i64 0,.bool false,.int .u64 0,.int .u64 0,.int .u64 0,.string ⟨#[]⟩] 28)).drew:=⟨_,rfl⟩
    obtain ⟨X,hX⟩:∃ X,X=wr.heap.size:=⟨_,rfl⟩
    rw [← hw5] at r5 g5 ⊢;rw [← hX] at r5 ⊢;refine hK'.out _ _ g5 (fun hS=>?_);have HX:=Lv hX;clear hK' K' g5 hw5 hX
    try simp only [Act.put,List.setIfInBounds_toArray,List.set_cons_zero,List.set_cons_succ]
    refine wpAnyH_ready (rs:=[17]) (by kernel_rfl) (by simp) ?_
    have z0:=r5.fz 0;have z1:=r5.fz 1;have z2:=r5.fz 2;have z3:=r5.fz 3;have z4:=r5.fz 4;have z5:=r5.fz 5;have z6:=r5.fz 6;have e0:=r5.c;have l5:=r5.lt;refine AllReadyH.cons (o:=⟨none,_,_,_,_,_⟩) rfl (fun K' hK'=>?_) AllReadyH.nil;go_simp;have hS':=Qr hS (Qh (Qq w5 (some X)) (.string (strOfNums y.1)) (.int .i64 2) (.bool y.2.weak) (.int .u64 y.2.value) (.int .u64 0) (.int .u64 0) (.string ⟨#[]⟩)) (fun g e=>by injection e with e;have:=HX.o;omega)
    have r6:=r5.put (strOfNums y.1) ⟨2,y.2.weak,y.2.value,0,0,[]⟩;refine hK'.out _ _ hS' (fun hS=>?_);clear hK' K' hS'
    try simp only [Act.put,List.setIfInBounds_toArray,List.set_cons_zero,List.set_cons_succ]
    refine wpAnyH_done (by kernel_rfl) ?_ _
    obtain ⟨w6,hw6⟩:∃ W,W=((((((w5.setCell ⟨X,0,none⟩ (.string (strOfNums y.1))).setCell ⟨X,1,none⟩ (.int .i64 2)).setCell ⟨X,2,none⟩ (.bool y.2.weak)).setCell ⟨X,3,none⟩ (.int .u64 y.2.value)).setCell ⟨X,4,none⟩ (.int .u64 0)).setCell ⟨X,5,none⟩ (.int .u64 0)).setCell ⟨X,6,none⟩ (.string ⟨#[]⟩):=⟨_,rfl⟩
    rw [show strOfNums ([]:List Int)=(⟨#[]⟩:ByteArray) from rfl] at r6;simp only [] at r6;rw [← hw6] at hS r6 ⊢;clear hw6 z0 z1 z2 z3 z4 z5 z6 e0 l5 r5 a0 a1 a2 a3;obtain ⟨a0,a1,a2,a3⟩:=DY.o w6 hS;have xl:=r6.lt;have G6:=Lv hS;have R6:=Lv r6;by_cases hsec:y.2.sec=0
    ·have ds:decide ((0:Int) < y.2.sec)=false:=by simp;omega
     have SX:=Lv (show exCs (strOfNums y.1) (Xy LN y).2=[.string (strOfNums y.1),.int .i64 2,.bool y.2.weak,.int .u64 y.2.value,.int .u64 0,.int .u64 0,.string ⟨#[]⟩] from by
      unfold Xy;simp only [];rw [if_pos hsec];rfl)
     have GN:=G6;obtain ⟨e0,e1,e2,e3,e4,e5,e6⟩:=r6.c;rw [show strOfNums ([]:List Int)=(⟨#[]⟩:ByteArray) from rfl] at e6;simp only [] at e1 e2 e3 e4 e5;clear hS r6 hsec;have g9:=grown1 w6 (.cells #[.string (strOfNums y.1),.int .i64 2,.bool y.2.weak,.int .u64 y.2.value,.int .u64 0,.int .u64 0,.string ⟨#[]⟩] 28);have O9:=Lv (Qy OW.o (Qz GN.o g9));have N9:=Lv (heap_alloc_new w6 (.cells #[.string (strOfNums y.1),.int .i64 2,.bool y.2.weak,.int .u64 y.2.value,.int .u64 0,.int .u64 0,.string ⟨#[]⟩] 28))
     have G9:=Lv (Qz GX.o (Qz GN.o g9));clear g9;go_wp2_with (at_builtin;refine Zz Vt rfl _ _ rfl _ k _ rfl O9.o [.string (strOfNums y.1),.int .i64 2,.bool y.2.weak,.int .u64 y.2.value,.int .u64 0,.int .u64 0,.string ⟨#[]⟩] rfl w6.heap.size rfl N9.o (J5 (strOfNums y.1) ⟨2,y.2.weak,y.2.value,0,0,[]⟩) (by omega) (by decide) G9.o.size ?_)
     intro v10 w10 ho10 hg10 hv10;obtain ⟨q10,c10,rfl⟩:=Qp ho10;have G10:=Lv (Qr G9.o hg10 (fun g e=>(O9.o.lt g e).1));have O10:=Lv (show w10.ownsRow w4.heap.size 28 7 (.slice q10 (k + 1) c10) (k + 1) (((D.take (k + 1)).map (Xy LN)).flatMap Q4) from by rw [TK.o,List.map_take,SX.o];exact ho10);clear ho10 hg10 hv10 O9 N9;go_wp2;go_roundw
     case rel=>exact ⟨⟨k + 1,q10,c10,hlt,by go_num,rfl,O10.o⟩,G10.o⟩
     case measure=>simp [intOf];omega
    ·have ds:decide ((0:Int) < y.2.sec)=true:=by simp;omega
     obtain ⟨u,hu⟩:∃ u,u=(y.2.value - LN) % 18446744073709551616:=⟨_,rfl⟩
     have hm:IntKind.u64.wrap (y.2.value - LN)=u:=by rw [hu];exact IntKind.wrap_u64 _
     have SX:=Lv (show exCs (strOfNums y.1) (Xy LN y).2=[.string (strOfNums y.1),.int .i64 1,.bool y.2.weak,.int .u64 u,.int .u64 0,.int .u64 0,.string ⟨#[]⟩] from by
      unfold Xy;simp only [];rw [if_neg hsec,← hu];rfl)
     have z1:=r6.fz 1;have e0:=r6.c.2.1;simp only [] at e0;have r7:=r6.kind 1;have g7:=Qr hS (Qx (i:=1) (Qq w6 (some X)) (.int .i64 1)) (fun g e=>by injection e with e;have:=HX.o;omega);obtain ⟨w7,hw7⟩:∃ W,W=w6.setCell ⟨X,1,none⟩ (.int .i64 1):=⟨_,rfl⟩
     rw [← hw7] at r7 g7;have HW7:=Lv hw7.symm;have G7:=Lv g7;have R7:=Lv r7;clear hS r6 hsec hu hw7;go_upto_region 13 with fail;rw [HW7.o];clear HW7 e0 z1 a0 a1 a2 a3 xl;have KG:=fun d os=>Qt (below_regrown w7 d os) none;have A2:=Lv (fun d os=>cell_regrown (DY.o w7 G7.o).2.2.1 d os);have GW7:=Qz GH.o (Qz GX.o g7);have LQ:=Lv (fun d os=>Calls.regrown_of ((LO.o _ (Qz GW7 (KG d os))).mono (fun _ _ h=>(⟨h.1,Qg h.2 (Nat.le_refl _) (by simp)⟩ : _∧_))))
     have LD:=Lv (fun (V:World) (hV:∃ p:Regrown,V=Go.Sort.grow (redrawn w7 p.d) p.os)=>(by obtain ⟨p,rfl⟩:=hV;exact KI.o _ (Qz GW7 (KG p.d p.os)):(loadVar 48 ⟨b,0,none⟩).run Tryz.prog V=.ok _ V));have HK:=Lv KG;clear KG g7 r7 GW7;have a2:=A2.o;refine Kt 9 (by kernel_rfl) (by kernel_rfl) ?_
     simp only [List.take_succ_cons,List.take_zero,List.drop_succ_cons,List.drop_zero]
     iterate 5 (quiet_step (fail))
     refine Kk rfl _ rfl rfl LD.o ?_
     quiet_step (with_reducible exact LQ.o _ _)
     repeat (quiet_step (fail))
     refine wpQuiet_nil ?_
     intro _ hw';obtain ⟨⟨dq,osq⟩,hw''⟩:=hw';subst hw'';have gk:=HK.o dq osq;have r8:=R7.o.kept gk (by simp);have g8:=Qz G7.o gk;obtain ⟨w8,hw8⟩:∃ W,Go.Sort.grow (redrawn w7 dq) osq=W:=⟨_,rfl⟩
     rw [hw8] at r8 g8 ⊢;have z3:=r8.fz 3;have e3:=r8.c.2.2.2.1;have l8:=r8.lt;simp only [] at e3;have r9:=r8.value u;have g9':=Qr g8 (Qx (i:=3) (Qq w8 (some X)) (.int .u64 u)) (fun g e=>by injection e with e;have:=HX.o;omega);obtain ⟨w9,hw9⟩:∃ W,W=w8.setCell ⟨X,3,none⟩ (.int .u64 u):=⟨_,rfl⟩
     rw [← hw9] at r9 g9';have HW9:=Lv hw9.symm;have GN:=Lv g9';have R9:=Lv r9;clear hw8 r8 g8 gk hw9 r9 g9' a2;go_upto_region 14 with fail;rw [HW9.o];clear HW9 e3 z3 l8;obtain ⟨e0,e1,e2,e3,e4,e5,e6⟩:=R9.o.c;have xl:=R9.o.lt;rw [show strOfNums ([]:List Int)=(⟨#[]⟩:ByteArray) from rfl] at e6;simp only [] at e1 e2 e3 e4 e5;have g9:=grown1 w9 (.cells #[.string (strOfNums y.1),.int .i64 1,.bool y.2.weak,.int .u64 u,.int .u64 0,.int .u64 0,.string ⟨#[]⟩] 28)
     have O9:=Lv (Qy OW.o (Qz GN.o g9));have N9:=Lv (heap_alloc_new w9 (.cells #[.string (strOfNums y.1),.int .i64 1,.bool y.2.weak,.int .u64 u,.int .u64 0,.int .u64 0,.string ⟨#[]⟩] 28));have G9:=Lv (Qz GX.o (Qz GN.o g9));clear g9;go_wp2_with (at_builtin;refine Zz Vt rfl _ _ rfl _ k _ rfl O9.o [.string (strOfNums y.1),.int .i64 1,.bool y.2.weak,.int .u64 u,.int .u64 0,.int .u64 0,.string ⟨#[]⟩] rfl w9.heap.size rfl N9.o (J5 (strOfNums y.1) ⟨1,y.2.weak,u,0,0,[]⟩) (by omega) (by decide) G9.o.size ?_)
     intro v10 w10 ho10 hg10 hv10;obtain ⟨q10,c10,rfl⟩:=Qp ho10;have G10:=Lv (Qr G9.o hg10 (fun g e=>(O9.o.lt g e).1));have O10:=Lv (show w10.ownsRow w4.heap.size 28 7 (.slice q10 (k + 1) c10) (k + 1) (((D.take (k + 1)).map (Xy LN)).flatMap Q4) from by rw [TK.o,List.map_take,SX.o];exact ho10);clear ho10 hg10 hv10 O9 N9;go_wp2;go_roundw
     case rel=>exact ⟨⟨k + 1,q10,c10,hlt,by go_num,rfl,O10.o⟩,G10.o⟩
     case measure=>simp [intOf];omega
   ·have hkm:M=k:=by omega
    subst hkm;have dl:decide ((M:Int) < (M:Int))=false:=by simp
    have hfull:D.take M=D:=by rw [← HM.o,List.take_length]
    rw [hfull] at ho;have SO:=Lv (Gh M (D.map (Xy LN)) q8 c8 wr (by rw [List.length_map,HM.o]) (by omega) (Jw ho) (Vp ho) (Xk.of ho).exs);have GT:=Lv (Qz (Qz G.o GH.o) hg);clear ho hg hfull;go_wp2_with fail;refine SO.o.mono ?_
    rintro e w11 ⟨⟨R,v,rfl,o11,p11,s11⟩,g11⟩;have SE:=Rr (D:=D.map (Xy LN)) (R:=R) (fun y hy=>by
     obtain ⟨z,hz,rfl⟩:=List.mem_map.1 hy;exact (OK.o.each z hz).1) (by
     rw [List.pairwise_map];exact OK.o.apart) s11 p11
    have hlen:R.length=M:=by rw [p11.length_eq,List.length_map,HM.o]
    obtain ⟨q11,c11,rfl⟩:=Qp o11;have F:=Lv (show ExsO w w11 RES (.returned (.tuple #[.slice q11 R.length c11,.int .i64 E])) from by
     rw [OUT.o,← SE];exact ⟨⟨q11,c11,rfl,Xk.of o11,Jw o11,Vp o11⟩,Qz GT.o g11⟩)
    clear o11 p11 s11 g11 SE hlen SO;go_wp2;go_ret2
    exact F.o
 ·have h2:s.sy.2=0:=by have:=SYP.o;obtain ⟨h3,_⟩:=this;omega
  have d1:(s.sy.2 == 0)=true:=by simpa using h2
  have F:=Lv (show ExsO w W RES (.returned (.tuple #[.slice none 0 0,.int .i64 0])) from ExsO.none (by rw [OUT.o];unfold Zy;rw [if_neg h0,if_neg h1]) G.o);clear h0 h1 h2 PT PA PB SE LO KI KS;rw [show imgV h s (.slice qs N cs) (.slice qd nd cd)=.agg (Qf h s (.slice qs N cs) (.slice qd nd cd)) from rfl];unfold Qf at hW ⊢;go_enter Tryz.func50,Tryz.ntmps50;go_upto_region 1 with fail
  clear hW hb';go_wp2;go_ret2
  exact F.o
end
section
open Go.RowKit Go.Sort
variable {w w' W V:World} {h:Hx} {s:St} {sv dv:Value}
theorem sym_res {D:Syms} (h:Jg D) (low:Int):∀ y∈D.map (Xy low),Vq y.2:=by
 intro y hy;obtain ⟨z,hz,rfl⟩:=List.mem_map.1 hy
 have:=(h.each z hz).2.2.2.2
 unfold Xy;simp only []
 split
 ·exact ⟨fun h=>(by cases h),this.1,this.2,Int.le_refl 0⟩
 ·exact ⟨fun _=>rfl,Int.emod_nonneg _ (by decide),Int.emod_lt_of_pos _ (by decide),Int.le_refl 0⟩
theorem raw_res {ys:List Int} (hb:Byt ys) (s:St):∀ y∈(Zy ys s).2,Vq y.2:=by
 intro y hy;unfold Zy at hy
 split at hy
 ·exact all_res _ y (Hl.1 hy)
 split at hy
 ·exact sym_res (Bk (Jy hb _ _) (Jy hb _ _)) _ y (Hl.1 hy)
 ·cases hy
theorem refAll11_any {ys:List Int} {q:Option Addr} {c n:Nat} {l:List Sg} {qs qd:Option Addr} {cs nd cd:Nat} (hI:Bt w ys q c s l qs cs nd) (hn:ys.length=n) :
  Calls Tryz.prog 18 #[.slice q n c,imgV h s (.slice qs l.length cs) (.slice qd nd cd)] w fun e w'=>ExsO w w' (Bj ys s nd) e:=by
 obtain ⟨N,hN⟩:∃ N,N=l.length:=⟨_,rfl⟩
 rw [← hN];have gB:=grown1 w (.cells (Qf h s (.slice qs N cs) (.slice qd nd cd)) 48);have aA:Zp (w.alloc (.cells (Qf h s (.slice qs N cs) (.slice qd nd cd)) 48)) w.heap.size h s (.slice qs N cs) (.slice qd nd cd):=heap_alloc_new w _;obtain ⟨W,hW⟩:∃ W,w.alloc (.cells (Qf h s (.slice qs N cs) (.slice qd nd cd)) 48)=W:=⟨_,rfl⟩
 obtain ⟨b,hb'⟩:∃ b,w.heap.size=b:=⟨_,rfl⟩
 rw [hW] at gB aA;rw [hb'] at aA;have I1:=hI.grown gB;have RW:=Lv (refRaw_any (h:=h) (qd:=qd) (cd:=cd) I1 hn);have MY:=Lv (fun (V:World) (hg:W.grownBy V none) (nm:ByteArray) (x:Ex) (hx:Vq x)=>refMay11_any (h:=h) (qd:=qd) (cd:=cd) I1.deps (I1.img.grown hg) nm x hx);rw [← hN] at RW MY;have RS:=Lv (raw_res I1.byt s);have KI:=Lv (fun (V:World) (hg:W.grownBy V none)=>Kn (aA.kept hg (by simp)))
 have G:=Lv gB;have OUT:=Lv (show Bj ys s nd=if (Zy ys s).1≠0 then ((Zy ys s).1,[]) else if Jt s nd (Zy ys s).2≠0 then (Jt s nd (Zy ys s).2,[]) else (0,(Zy ys s).2) from rfl);generalize Bj ys s nd=RES at *;obtain ⟨⟨E,D⟩,hR⟩:∃ R,R=Zy ys s:=⟨_,rfl⟩
 rw [← hR] at OUT RW RS;simp only [] at OUT RS;have K1:=Lv aA;clear I1 hI gB aA hN hR;rw [show imgV h s (.slice qs N cs) (.slice qd nd cd)=.agg (Qf h s (.slice qs N cs) (.slice qd nd cd)) from rfl];unfold Qf at hW ⊢;go_enter Tryz.func18,Tryz.ntmps18;go_upto_region 1 with fail;clear hW hb';go_wp2_with (refine Qi rfl _ rfl rfl K1.o ?_;unfold imgV Qf)
 refine RW.o.mono ?_
 rintro e w2 ⟨⟨q3,c3,rfl,hD,hle,hmost⟩,hg2⟩;simp only [] at hD hle ⊢;have G2:=Lv (Qz G.o hg2);have GW2:=Lv hg2;have HD:=Lv hD;have D2:=Lv hD.exs;clear hD hg2 RW;by_cases hE:E=0
 ·subst hE
  have OUT:=Lv (OUT.o.trans (if_neg (by simp)));obtain ⟨M,hM⟩:∃ M,M=D.length:=⟨_,rfl⟩
  rw [← hM] at hle ⊢;have HM:=Lv hM.symm;have ST:=Lv (show AlL w2 w2 s nd D M (.int .i64 0) from ⟨⟨0,Nat.zero_le _,rfl,fun i z h=>by omega⟩,Qq _ _⟩);clear hM;go_wp2;go_loopw [8] (fun v8 wr=>AlL w2 wr s nd D M v8) (fun v8 _=>M - (intOf v8).toNat)
  case atStart=>exact ST.o
  case round =>
   obtain ⟨⟨k,hk,rfl,hmay⟩,hg⟩:=hrel;have MA:=Lv hmay;have GX:=Lv hg;by_cases hlt:k < M
   ·obtain ⟨y,hy⟩:∃ y,D[k]?=some y:=⟨_,List.getElem?_eq_getElem (by rw [HM.o];exact hlt)⟩
    obtain ⟨ga,oa,rfl,a0,a1,a2,a3,a4,a5,a6⟩:=(D2.o.grown hg).at hy;have HY:=Lv hy;have dl:decide ((k:Int) < (M:Int))=true:=by simp;omega
    have hkI:(k:Int) < (M:Int):=by omega
    have k0:=fun d os=>cell_regrown a0 d os;have k1:=fun d os=>cell_regrown a1 d os;have k2:=fun d os=>cell_regrown a2 d os;have k3:=fun d os=>cell_regrown a3 d os;have k4:=fun d os=>cell_regrown a4 d os;have k5:=fun d os=>cell_regrown a5 d os;have k6:=fun d os=>cell_regrown a6 d os;have GWr:=Qz GW2.o hg;have KG:=fun d os=>Qt (below_regrown wr d os) none;have MQ:=Lv (fun d os=>Calls.regrown_of ((MY.o _ (Qz GWr (KG d os)) (strOfNums y.1) y.2 (RS.o y (List.mem_of_getElem? hy))).mono (fun _ _ h=>(⟨h.1,Qg h.2 (Nat.le_refl _) (by simp)⟩ : _∧_))))
    have LD:=Lv (fun (V:World) (hV:∃ p:Regrown,V=Go.Sort.grow (redrawn wr p.d) p.os)=>(by obtain ⟨p,rfl⟩:=hV;exact KI.o _ (Qz GWr (KG p.d p.os)):(loadVar 48 ⟨b,0,none⟩).run Tryz.prog V=.ok (imgV h s (.slice qs N cs) (.slice qd nd cd)) V));obtain ⟨r,hr⟩:∃ r,r=Jn s nd y.2:=⟨_,rfl⟩
    rw [← hr] at MQ;have HR:=Lv hr;have HK:=Lv KG;unfold imgV Qf exV Zd at MQ;unfold imgV Qf at LD;clear hmay hg hy hr GWr KG a0 a1 a2 a3 a4 a5 a6;go_wp2;refine wp_region_quiet_below (by kernel_rfl) (by kernel_rfl) ?_
    refine Kk rfl _ rfl rfl LD.o ?_
    repeat (quiet_step (with_reducible exact MQ.o _ _))
    refine wpQuiet_nil ?_
    intro _ hw';obtain ⟨⟨dq,osq⟩,hw''⟩:=hw';subst hw'';have G8:=Lv (Qz GX.o (HK.o dq osq));clear k0 k1 k2 k3 k4 k5 k6;by_cases hr0:r=0
    ·subst hr0
     go_wp2;go_roundw
     case rel=>exact ⟨⟨k + 1,hlt,by go_num,fun i z hi hz=>by
      rcases Nat.lt_or_ge i k with h | h
      ·exact MA.o i z h hz
      ·obtain rfl:i=k:=by omega
       rw [HY.o] at hz;injection hz with hz;rw [← hz];exact HR.o.symm⟩,G8.o⟩
     case measure=>simp [intOf];omega
    ·have dr:(r != 0)=true:=by simpa using hr0
     have F:=Lv (ExsO.none (w:=w) (OUT.o.trans (by
      have e:=Hk MA.o HY.o (by rw [← HR.o];exact hr0);show (if Jt s nd D≠0 then (Jt s nd D,[]) else (0,D))=(r,[])
      rw [e,← HR.o,if_pos hr0])) (Qz G2.o G8.o))
     clear hr0;go_wp2;go_ret2
     exact F.o
   ·have hkm:M=k:=by omega
    subst hkm;have dl:decide ((M:Int) < (M:Int))=false:=by simp
    have F:=Lv (show ExsO w wr RES (.returned (.tuple #[.slice q3 M c3,.int .i64 0])) from by
     rw [OUT.o];have e:Jt s nd D=0:=H5 (fun i z hz=>hmay i z (by
      obtain ⟨h1,_⟩:=List.getElem?_eq_some_iff.1 hz;rw [HM.o] at h1;exact h1) hz)
     show ExsO w wr (if Jt s nd D≠0 then (Jt s nd D,[]) else (0,D)) _
     rw [e,if_neg (by simp)];exact ⟨⟨q3,c3,by simp only [];rw [HM.o],HD.o.grown hg,by simp only [];rw [HM.o];exact hle,hmost⟩,Qz G2.o hg⟩)
    clear hmay hg;go_wp2;go_ret2
    exact F.o
 ·have dE:(E != 0)=true:=by simpa using hE
  have F:=Lv (ExsO.none (OUT.o.trans (if_pos hE)) G2.o);clear hE;go_wp2;go_ret2
  exact F.o
end
section
variable {w w' W V:World} {xs:List Int}
def strN:Value→Nat
 | .string s=>s.size
 | _=>0
def fiV (r:Int × (Nat × Option Ex)):Int × Option Ex:=(r.1,r.2.2)
theorem visK_lead {S:Type} {rec:List Int→Int→Nat × S→Int × (Nat × S)} (name:List Int) (l:List Kid) (rest:List Int) (st:Nat × S) :
  visK rec name (J7 l rest) 0 st=match l.find? (fun k=>pfx k.1 rest) with
   | none=>(0,st)
   | some x=>rec (name ++ x.1) x.2 st:=by
 unfold J7;cases l.find? (fun k=>pfx k.1 rest) with
 | none=>rfl
 | some x =>
  simp only [visK];by_cases h:(rec (name ++ x.1) x.2 st).1=0
  ·rw [if_neg (fun e=>e h)]
   exact Prod.ext h.symm rfl
  ·rw [if_pos h]
theorem visF_go {t:List Int} {k m j:Nat} {way:List Int} {pl:Int} (hj:j≤t.length) (ht:t.length≤255) (hm:m≤8000) :
  vis xs (Z7 t) (k + 1) way (t.take j) pl (m,none)=if pl∈way then (12,(m + 1,none)) else match ndAt xs pl with
   | none=>(12,(m + 1,none))
   | some nd=>if t.drop j=[] then (0,(m + 1,nd.ex)) else match nd.kids.find? (fun k=>pfx k.1 (t.drop j)) with
    | none=>(0,(m + 1,none))
    | some x=>vis xs (Z7 t) k (way ++ [pl]) (t.take j ++ x.1) x.2 (m + 1,none):=by
 have hl:(t.take j).length=j:=by rw [List.length_take];omega
 rw [Pb (by omega)];by_cases h1:pl∈way
 ·rw [if_pos h1,if_pos h1]
 rw [if_neg h1,if_neg h1,if_neg (by omega)];cases ndAt xs pl with
 | none=>rfl
 | some nd =>
  simp only [];by_cases h2:t.drop j=[]
  ·have e:Z7 t none (t.take j) nd=(nd.ex,[],0):=if_pos (by rw [hl];exact h2)
   rw [if_pos h2,e];rfl
  ·have e:Z7 t none (t.take j) nd=(none,J7 nd.kids (t.drop j),0):=by
    have e:Z7 t none (t.take j) nd=(none,J7 nd.kids (t.drop (t.take j).length),0):=if_neg (by rw [hl];exact h2);rw [e,hl]
   rw [if_neg h2,e];exact visK_lead _ _ _ _
theorem find_first {α:Type} {f : α→Bool}:∀ {l:List α} {i:Nat} {x : α},(∀ j y,j < i→l[j]?=some y→f y=false)→l[i]?=some x→f x=true→l.find? f=some x
 | [],_,_,_,h,_=>by simp at h
 | a :: l,0,x,_,h,hf=>by
  injection h with h;subst h;rw [List.find?_cons,hf]
 | a :: l,i + 1,x,hn,h,hf=>by
  rw [List.find?_cons,hn 0 a (by omega) rfl];exact find_first (fun j y hj hy=>hn (j + 1) y (by omega) hy) h hf
theorem find_none {α:Type} {f : α→Bool} {l:List α} (h:∀ j y,j < l.length→l[j]?=some y→f y=false):l.find? f=none:=by
 rw [List.find?_eq_none];intro x hx;obtain ⟨i,hi,rfl⟩:=List.getElem_of_mem hx;rw [h i _ hi (List.getElem?_eq_getElem hi)];simp
structure FnLp (w w1:World) (g0:Nat) (xs t:List Int) (R:Int × Option Ex) (vw va vr:Value) (wr:World):Prop where
 ex:∃ (k j:Nat) (way:List Int) (pl:Int) (qw:Option Addr) (cw:Nat),vw=.slice qw way.length cw∧va=.int .i64 (rk xs.length pl)∧vr=.string (strOfNums (t.drop j))∧wr.ownsRow w1.heap.size 3 1 (.slice qw way.length cw) way.length (way.flatMap Jl)∧way.length≤j∧j≤t.length∧256≤k + j∧0≤pl∧(∀ x∈way,0≤x∧x < xs.length)∧R=fiV (vis xs (Z7 t) k way (t.take j) pl (way.length,none))
 res:ExAt wr g0 ⟨#[]⟩ Ex.zero
 grown:w.grownBy wr none
theorem refFind_any {q:Option Addr} {c n:Nat} (h:Qk w q c xs) (hn:xs.length=n) (hb:Byt xs) (hc:n≤c) (hcm:c≤9223372036854775807) (hbig:n≤140737488355328) (t:List Int) (ht:Byt t) (htl:t.length≤9223372036854775807) :
  Calls Tryz.prog 52 #[.slice q n c,.string (strOfNums t)] w fun e w'=>Pa w w' xs t e:=by
 have g1:=grown1 w (.cells #[.string ⟨#[]⟩,.int .i64 0,.bool false,.int .u64 0,.int .u64 0,.int .u64 0,.string ⟨#[]⟩] 28);have r1:ExAt (w.alloc (.cells #[.string ⟨#[]⟩,.int .i64 0,.bool false,.int .u64 0,.int .u64 0,.int .u64 0,.string ⟨#[]⟩] 28)) w.heap.size ⟨#[]⟩ Ex.zero:=heap_alloc_new w _;obtain ⟨w1,hw1⟩:∃ w1,w.alloc (.cells #[.string ⟨#[]⟩,.int .i64 0,.bool false,.int .u64 0,.int .u64 0,.int .u64 0,.string ⟨#[]⟩] 28)=w1:=⟨_,rfl⟩
 obtain ⟨g0,hg0⟩:∃ g0,w.heap.size=g0:=⟨_,rfl⟩
 rw [hw1] at g1 r1;rw [hg0] at r1;have R1:=Lv r1;have G1:=Lv g1;have HW1:=Lv hw1;have HG0:=Lv hg0;have LG:=Lv (show w.heap.size≤g0 by omega);have W1S:=Lv (show w1.heap.size=g0 + 1 by rw [← hw1,World.size_alloc,hg0]);have hst:(strOfNums t).size=t.length:=strOfNums_size _;obtain ⟨d0,d1,d2,d3,d4,d5,d6⟩:=r1.c;have df:=r1.fz;have dll:=r1.lt;clear g1 r1 hw1 hg0;by_cases hl : 255 < t.length
 ·have FW:=Lv (show Kf xs t=(10,none) from if_pos hl)
  have dl:decide ((255:Int) < (t.length:Int))=true:=by simp;omega
  clear hl h hn hb ht;go_enter Tryz.func52,Tryz.ntmps52;go_upto_region 1 with fail;rw [HW1.o,HG0.o];go_wp2;refine bodyPost_ret (Q2 rfl rfl rfl rfl (R1.o.put ⟨#[]⟩ Ex.zero)) rfl ?_
  exact ⟨by rw [FW.o];rfl,Qw G1.o (Qh (Qq _ (some g0)) _ _ _ _ _ _ _) LG.o⟩
 have dl:decide ((255:Int) < (t.length:Int))=false:=by simp;omega
 by_cases hx:xs=[]
 ·have FW:=Lv (show Kf xs t=(0,none) by unfold Kf Yj;rw [if_neg hl,if_pos hx])
  have h0:((n:Int) == 0)=true:=by rw [← hn,hx];rfl
  clear hl h hn hb ht hx;go_enter Tryz.func52,Tryz.ntmps52;go_upto_region 1 with fail;rw [HW1.o,HG0.o];go_wp2;refine bodyPost_ret (Q2 rfl rfl rfl rfl (R1.o.put ⟨#[]⟩ Ex.zero)) rfl ?_
  exact ⟨by rw [FW.o];rfl,Qw G1.o (Qh (Qq _ (some g0)) _ _ _ _ _ _ _) LG.o⟩
 have hpos : 0 < xs.length:=by cases xs with | nil=>exact absurd rfl hx | cons=>simp
 obtain ⟨b,o,rfl,hcell⟩:=h.2 hpos;have hbl:b < w.heap.size:=by
  have:=World.block_lt_of_cell? w _ (hcell 0 hpos)
  exact this
 have h0:((n:Int) == 0)=false:=by simp;omega
 obtain ⟨R,hR⟩:∃ R,R=Kf xs t:=⟨_,rfl⟩
 have HR:=Lv hR;have hR2:R=fiV (vis xs (Z7 t) 257 [] [] 0 (0,none)):=by
  rw [hR];unfold Kf Yj;rw [if_neg hl,if_neg hx];rfl
 have HB:=Lv (fun (V:World) (hg:w.grownBy V none) i hi=>Qv hg (hcell i hi));have ENT:=Lv (show FnLp w w1 g0 xs t R (.slice none 0 0) (.int .i64 0) (.string (strOfNums t)) w1 from
  ⟨⟨257,0,[],0,none,0,rfl,by unfold rk;rw [if_pos (by omega)],rfl,World.ownsRow_nil _ _ _ _,Nat.le_refl _,Nat.zero_le _,by decide,Int.le_refl _,fun x hx=>(by cases hx),hR2⟩,R1.o,G1.o⟩)
 have HL:=Lv (And.intro hbl (And.intro hb (And.intro ht (show t.length≤255 by omega))));have hzero:decide ((rk xs.length 0:Int) < 0)=false:=by unfold rk;rw [if_pos (by omega)];rfl
 clear hR2 hR hcell hpos h hx hb ht hbl hzero;go_enter Tryz.func52,Tryz.ntmps52;go_upto_region 1 with fail;rw [HW1.o,HG0.o];clear d0 d1 d2 d3 d4 d5 d6 df dll;go_upto_region 7 with fail;go_loopw [7,8,9] (fun vw va vr wr=>FnLp w w1 g0 xs t R vw va vr wr) (fun _ _ vr _=>strN vr)
 case atStart=>exact ENT.o
 case round =>
  obtain ⟨⟨k0,j,way,pl,qw,cw,rfl,rfl,rfl,oo,hway,hj,hk,hp0,hwr,hR⟩,hres,hg⟩:=hrel;obtain ⟨k,rfl⟩:∃ k,k0=k + 1:=⟨k0 - 1,by have:=HL.o.2.2.2;omega⟩
  have RS:=Lv hres;have G:=Lv hg;have OO:=Lv oo;have HWR:=Lv hwr;have hR2:=hR;rw [visF_go hj HL.o.2.2.2 (by have:=HL.o.2.2.2;omega)] at hR2;have HR2:=Lv hR2;have hj5:j≤255:=by have:=HL.o.2.2.2;omega
  have CT:=Lv (fun (V:World) (hv:wr.grownBy V none)=>has_any (w:=V) way way.length rfl (by omega) qw cw ((Kq.of oo).grown hv) (rk xs.length pl));obtain ⟨d0,d1,d2,d3,d4,d5,d6⟩:=RS.o.c;have df:=RS.o.fz;have dll:=RS.o.lt;have ZR:=Lv (fun (V:World) (er:Int) (hR:R=(er,none)) (hv:wr.grownBy V none) (hr:ExAt V g0 ⟨#[]⟩ Ex.zero)=>(show Pa w (((((((V.setCell ⟨g0,0,none⟩ (.string ⟨#[]⟩)).setCell ⟨g0,1,none⟩ (.int .i64 Ex.zero.kind)).setCell ⟨g0,2,none⟩ (.bool Ex.zero.weak)).setCell ⟨g0,3,none⟩ (.int .u64 Ex.zero.value)).setCell ⟨g0,4,none⟩ (.int .u64 Ex.zero.resolver)).setCell ⟨g0,5,none⟩ (.int .u64 Ex.zero.ordinal)).setCell ⟨g0,6,none⟩ (.string (strOfNums Ex.zero.other))) xs t (.returned (.tuple #[exV ⟨#[]⟩ Ex.zero,.bool false,.int .i64 er])) from
   ⟨by rw [← HR.o,hR];rfl,Qw (Qz G.o hv) (Qh (Qq V (some g0)) _ _ _ _ _ _ _) LG.o⟩))
  clear hres hg oo hwr hR hR2;by_cases hpl:pl < xs.length
  case neg =>
   have ha:rk xs.length pl=-1:=by unfold rk;rw [if_neg hpl]
   rw [ha];have ER:R=(12,none):=by
     have h:=HR2.o;have hnd:ndAt xs pl=none:=by unfold ndAt;rw [if_neg (fun h=>hpl h.2)]
     rw [hnd] at h
     split at h <;> exact h
   have F:=Lv (ZR.o wr 12 ER (Qq _ _) RS.o);clear hpl ER ha;go_wp2
   (try simp only [Exit.inBlock,Exit.then])
   refine bodyPost_ret (Q2 rfl rfl rfl rfl (RS.o.put ⟨#[]⟩ Ex.zero)) rfl ?_
   exact F.o
  case pos =>
  obtain ⟨p,rfl⟩:∃ p:Nat,pl=(p:Int):=⟨pl.toNat,by omega⟩
  have ha:rk xs.length (p:Int)=(p:Int):=by unfold rk;rw [if_pos hpl]
  rw [ha] at CT ⊢;have da:decide ((p:Int) < 0)=false:=by simp
  have PL:=Lv hpl;clear hpl ha;go_wp2_with fail;refine (CT.o wr (Qq _ _)).mono ?_
  rintro e W1' ⟨rfl,hw'⟩;have hw2:=hw'.symm;subst hw2;clear hw' CT;by_cases hin:(p:Int)∈way
  ·have ER:R=(12,none):=by
     have h:=HR2.o;rw [if_pos hin] at h;exact h
   have F:=Lv (ZR.o wr 12 ER (Qq _ _) RS.o);rw [show decide ((p:Int)∈way)=true from decide_eq_true hin];clear hin ER;go_wp2
   (try simp only [Exit.inBlock,Exit.then])
   refine bodyPost_ret (Q2 rfl rfl rfl rfl (RS.o.put ⟨#[]⟩ Ex.zero)) rfl ?_
   exact F.o
  have HR3:=Lv (HR2.o.trans (by rw [if_neg hin]));rw [show decide ((p:Int)∈way)=false from decide_eq_false hin];clear hin HR2;have RD:=Lv (read9_any (w:=wr) (HB.o wr G.o) (by omega) hcm (Nat.lt_of_lt_of_le HL.o.1 G.o.size) (by omega) HL.o.2.1 p (by have:=PL.o;omega));rw [hn] at RD;go_wp2_with fail;refine RD.o.mono ?_
  rintro e W2 ⟨hex,hg2⟩;clear RD da d0 d1 d2 d3 d4 d5 d6 df dll;have G2:=Lv hg2;rcases hex with ⟨nd,v,hnd,rfl,ho⟩ | ⟨hnd,rfl⟩
  case inr =>
   have ER:R=(12,none):=by have h:=HR3.o;rw [hnd] at h;exact h
   have gz:=fun (o:Obj)=>Qz G2.o (grown1 W2 o);have F:=Lv (fun (o:Obj)=>ZR.o _ 12 ER (gz o) (RS.o.kept (gz o) (by simp)));have RZ:=Lv (fun (o:Obj)=>RS.o.kept (gz o) (by simp));clear hnd hg2 gz;unfold Kw;obtain ⟨d0,d1,d2,d3,d4,d5,d6⟩:=(RZ.o (.cells #[.bool false,.string ⟨#[]⟩,.int .i64 Ex.zero.kind,.bool Ex.zero.weak,.int .u64 Ex.zero.value,.int .u64 Ex.zero.resolver,.int .u64 Ex.zero.ordinal,.string (strOfNums Ex.zero.other),.slice none 0 0] 152 (0,0))).c
   have df:=(RZ.o (.cells #[.bool false,.string ⟨#[]⟩,.int .i64 Ex.zero.kind,.bool Ex.zero.weak,.int .u64 Ex.zero.value,.int .u64 Ex.zero.resolver,.int .u64 Ex.zero.ordinal,.string (strOfNums Ex.zero.other),.slice none 0 0] 152 (0,0))).fz;have dll:=(RZ.o (.cells #[.bool false,.string ⟨#[]⟩,.int .i64 Ex.zero.kind,.bool Ex.zero.weak,.int .u64 Ex.zero.value,.int .u64 Ex.zero.resolver,.int .u64 Ex.zero.ordinal,.string (strOfNums Ex.zero.other),.slice none 0 0] 152 (0,0))).lt
   go_wp2
   (try simp only [Exit.inBlock,Exit.then])
   refine bodyPost_ret (Q2 rfl rfl rfl rfl ((RZ.o _).put ⟨#[]⟩ Ex.zero)) rfl ?_
   exact F.o _
  case inl =>
   rw [hnd] at HR3;have NK:=Lv (W8 HL.o.2.1 hnd);obtain ⟨qn,cn,rfl⟩:=Qp ho;have NV:=Lv (fun g (e:(Value.slice qn nd.kids.length cn).ownBlock=some g)=>(ho.lt g e));have HC:=Lv HR3.o;simp only [] at HC;clear HR3 hnd;have g3:=grown1 W2 (.cells #[.bool nd.ex.isSome,.string ⟨#[]⟩,.int .i64 (exOf nd.ex).kind,.bool (exOf nd.ex).weak,.int .u64 (exOf nd.ex).value,.int .u64 (exOf nd.ex).resolver,.int .u64 (exOf nd.ex).ordinal,.string (strOfNums (exOf nd.ex).other),.slice qn nd.kids.length cn] 152)
   have N3:=Lv (show Q5 (W2.alloc (.cells #[.bool nd.ex.isSome,.string ⟨#[]⟩,.int .i64 (exOf nd.ex).kind,.bool (exOf nd.ex).weak,.int .u64 (exOf nd.ex).value,.int .u64 (exOf nd.ex).resolver,.int .u64 (exOf nd.ex).ordinal,.string (strOfNums (exOf nd.ex).other),.slice qn nd.kids.length cn] 152)) W2.heap.size nd.ex.isSome ⟨#[]⟩ (exOf nd.ex) (.slice qn nd.kids.length cn) from heap_alloc_new W2 _)
   have G3:=Lv (Qz G2.o g3);have KD3:=Lv (Ba.of (l:=nd.kids.map (rkid xs.length)) (Qy ho g3));unfold Kw;obtain ⟨nb,hnb⟩:∃ x,x=nd.ex.isSome:=⟨_,rfl⟩
   obtain ⟨nx,hnx⟩:∃ x,x=exOf nd.ex:=⟨_,rfl⟩
   obtain ⟨kl,hkl⟩:∃ x,x=nd.kids.length:=⟨_,rfl⟩
   rw [← hnb,← hnx,← hkl] at N3 G3 KD3;rw [← hkl] at NV;rw [← hnb,← hnx,← hkl];have EQ:=Lv (And.intro hnb (And.intro hnx hkl));clear hnb hnx hkl g3 ho hg2;obtain ⟨W3,hW3⟩:∃ W3,W2.alloc (.cells #[.bool nb,.string ⟨#[]⟩,.int .i64 nx.kind,.bool nx.weak,.int .u64 nx.value,.int .u64 nx.resolver,.int .u64 nx.ordinal,.string (strOfNums nx.other),.slice qn kl cn] 152)=W3:=⟨_,rfl⟩
   obtain ⟨gn,hgn⟩:∃ gn,W2.heap.size=gn:=⟨_,rfl⟩
   rw [hW3] at N3 G3 KD3;rw [hgn] at N3;have HW3:=Lv hW3;have HGN:=Lv hgn;have HGN2:=Lv hgn;clear hW3 hgn;go_upto_region 12 with fail;rw [HW3.o,HGN.o];clear HW3 HGN;have g4:=grown1 W3 (.cells #[.int .i64 (p:Int)] 3);have O4:=Lv (Qy (Qy OO.o G3.o) g4);have N4:=Lv (heap_alloc_new W3 (.cells #[.int .i64 (p:Int)] 3));have G4:=Lv (Qz G3.o g4)
   have SZ:=Lv (show w1.heap.size≤wr.heap.size by have:=RS.o.lt;have:=W1S.o;omega);clear g4;go_wp2_with (at_builtin;refine Zz Wh rfl _ _ rfl _ way.length _ rfl O4.o [.int .i64 (p:Int)] rfl W3.heap.size rfl N4.o (fun u hu=>by simp at hu;subst hu;rfl) (by omega) (by decide) ?_ ?_)
   · have:=G4.o.size;have:=SZ.o;omega
   intro v' W5 ho5 hg5 hv5;obtain ⟨q5,c5,rfl⟩:=Qp ho5;have G5:=Lv (Qr (Qz G.o G4.o) hg5 (fun g e=>by have:=(O4.o.lt g e).1;have:=W1S.o;have:=LG.o;omega));have res4:=RS.o.kept G4.o (by simp);have nd4:=N3.o.kept (show W3.grownBy _ none from grown1 W3 (.cells #[.int .i64 (p:Int)] 3)) (by simp);have R5:=Lv (res4.kept hg5 (Zb O4.o res4 (by decide)))
   have N5:=Lv (nd4.kept hg5 (Zb O4.o nd4 (by decide)));have KD5:=Lv (show Ba W5 qn (nd.kids.map (rkid xs.length)) from fun i y hy=>by
     obtain ⟨g,e,a0,a1⟩:=KD3.o i y hy;have h1:=(NV.o g (by rw [e];rfl)).1;have hne:(some g:Option Nat)≠(Value.slice qw way.length cw).ownBlock:=by
      intro e2;have h2:=(OO.o.lt g e2.symm).2;omega
     have g4:=grown1 W3 (.cells #[.int .i64 (p:Int)] 3);exact ⟨g,e,hg5.cell (Qv g4 a0) hne,hg5.cell (Qv g4 a1) hne⟩)
   have hfl:way.flatMap Jl ++ [.int .i64 (p:Int)]=(way ++ [(p:Int)]).flatMap Jl:=by rw [List.flatMap_append,List.flatMap_singleton];rfl
   rw [hfl] at ho5;have O5:=Lv ho5;have LGN:=Lv (show g0 < gn by have:=HGN2.o;have:=RS.o.lt;have:=G2.o.size;omega);have NE:=Lv (show gn≠g0 by have:=HGN2.o;have:=RS.o.lt;have:=G2.o.size;omega);clear ho5 hg5 hv5 hfl res4 nd4 O4 N4 G4 KD3 N3 G3 G2 NV HGN2 OO SZ;obtain ⟨SN,hSN⟩:∃ SN,SN=strOfNums t:=⟨_,rfl⟩
   rw [← hSN] at hst ⊢;have HSN:=Lv hSN;clear hSN;by_cases hr:t.drop j=[]
   · have he:(strOfNums (t.drop j)).toList.isEmpty=true:=by rw [hr,Lib.strOfNums_toList];rfl
     have ER:R=(0,nd.ex):=by have h:=HC.o;rw [if_pos hr] at h;exact h
     have ERH:=Lv ER;obtain ⟨rest,hrest⟩:∃ rest,rest=strOfNums (t.drop j):=⟨_,rfl⟩
     rw [← hrest] at he ⊢;clear hr ER hrest;have FIN:=Lv (fun (W:World) (nm:ByteArray) (hnm:nm=nmOf SN nd.ex) (hw:w.grownBy W none)=>(show (Ending.returned (.tuple #[exV nm nx,.bool nb,.int .i64 0])=.returned (.tuple #[exV (nmOf (strOfNums t) (Kf xs t).2) (exOf (Kf xs t).2),.bool (Kf xs t).2.isSome,.int .i64 (Kf xs t).1]))∧w.grownBy ((((((((W.setCell ⟨g0,0,none⟩ (.string nm)).setCell ⟨g0,1,none⟩ (.int .i64 nx.kind)).setCell ⟨g0,2,none⟩ (.bool nx.weak)).setCell ⟨g0,3,none⟩ (.int .u64 nx.value)).setCell ⟨g0,4,none⟩ (.int .u64 nx.resolver)).setCell ⟨g0,5,none⟩ (.int .u64 nx.ordinal)).setCell ⟨g0,6,none⟩ (.string (strOfNums nx.other))).drewN 1) none from
      ⟨by rw [← HR.o,ERH.o,hnm,EQ.o.1,EQ.o.2.1,HSN.o],Qj (Qw hw (Qh (Qq W (some g0)) _ _ _ _ _ _ _) LG.o) 1⟩))
     cases hex:nd.ex with
     | none =>
      have e0:nb=false:=by rw [EQ.o.1,hex];rfl
      have F:=Lv (FIN.o W5 ⟨#[]⟩ (by rw [hex];rfl) G5.o);have P:=Lv (R5.o.put ⟨#[]⟩ nx);subst e0;obtain ⟨d0,d1,d2,d3,d4,d5,d6⟩:=R5.o.c;have df:=R5.o.fz;have dll:=R5.o.lt;obtain ⟨e0,e1,e2,e3,e4,e5,e6,e7,e8⟩:=N5.o.c;have el:=N5.o.lt;have ne1:¬ gn=g0:=NE.o;have ne2:¬ g0=gn:=fun e=>NE.o e.symm;clear hex;go_upto_region 16 with fail;go_region
      go_wp2
      (try simp only [Exit.inBlock,Exit.then])
      refine bodyPost_ret (Q2 rfl rfl rfl rfl P.o.drewF) rfl ?_
      exact ⟨F.o.1,F.o.2⟩
     | some x =>
      have e0:nb=true:=by rw [EQ.o.1,hex];rfl
      have g6:=Qx (i:=1) (Qq W5 (some gn)) (.string SN);have r6:=R5.o.kept g6 (by intro e;injection e with e;exact NE.o e);have n6:=N5.o.s1 SN;have gw6:=Qw G5.o g6 (by have:=LG.o;have:=LGN.o;omega);obtain ⟨W6,hW6⟩:∃ W6,W5.setCell ⟨gn,1,none⟩ (.string SN)=W6:=⟨_,rfl⟩
      rw [hW6] at g6 r6 n6 gw6;have F:=Lv (FIN.o W6 SN (by rw [hex];rfl) gw6);have P:=Lv (r6.put SN nx);subst e0;have R6:=Lv r6;have N6:=Lv n6;have HW6:=Lv hW6;obtain ⟨e0,e1,e2,e3,e4,e5,e6,e7,e8⟩:=N5.o.c;have el:=N5.o.lt;have ef:=N5.o.fz 1;clear hex g6 r6 n6 gw6 hW6;go_upto_region 16 with fail;rw [HW6.o];clear e0 e1 e2 e3 e4 e5 e6 e7 e8 el ef;obtain ⟨d0,d1,d2,d3,d4,d5,d6⟩:=R6.o.c
      have df:=R6.o.fz;have dll:=R6.o.lt;obtain ⟨e0,e1,e2,e3,e4,e5,e6,e7,e8⟩:=N6.o.c;have el:=N6.o.lt;have ne1:¬ gn=g0:=NE.o;have ne2:¬ g0=gn:=fun e=>NE.o e.symm;go_region
      go_wp2
      (try simp only [Exit.inBlock,Exit.then])
      refine bodyPost_ret (Q2 rfl rfl rfl rfl P.o.drewF) rfl ?_
      exact ⟨F.o.1,F.o.2⟩
   · have he:(strOfNums (t.drop j)).toList.isEmpty=false:=by
      rw [Lib.strOfNums_toList];cases hd:t.drop j with
      | nil=>exact absurd hd hr
      | cons=>rfl
     have HC2:=Lv (show R=fiV (match nd.kids.find? (fun k=>pfx k.1 (t.drop j)) with
      | none=>(0,(way.length + 1,none))
      | some x=>vis xs (Z7 t) k (way ++ [(p:Int)]) (t.take j ++ x.1) x.2 (way.length + 1,none)) by have h:=HC.o;rw [if_neg hr] at h;exact h)
     obtain ⟨rest,hrest⟩:∃ rest,rest=t.drop j:=⟨_,rfl⟩
     rw [← hrest] at HC2 he ⊢;have hrl:rest.length=t.length - j:=by rw [hrest,List.length_drop]
     have HREST:=Lv hrest;have hsr:(strOfNums rest).size=rest.length:=strOfNums_size _;have hr255:rest.length≤255:=by have:=HL.o.2.2.2;omega
     have d8:=N5.o.c.2.2.2.2.2.2.2.2;have dln:=N5.o.lt;have HRL:=Lv hrl;have HN:=Lv hn;clear hr hrest HC hrl hn;go_upto_region 19 with fail;go_loopw [9,12,13] (fun vr vn vi wl=>∃ i:Nat,i≤nd.kids.length∧vi=.int .i64 i∧vn=.int .i64 (-2)∧vr=.string (strOfNums rest)∧wl=W5∧Hid (∀ j' y,j' < i→nd.kids[j']?=some y→pfx y.1 rest=false)) (fun _ _ vi _=>nd.kids.length - (intOf vi).toNat)
     case atStart=>exact ⟨0,Nat.zero_le _,rfl,rfl,rfl,rfl,Lv (fun j' y h=>by omega)⟩
     case round =>
      obtain ⟨i,hi,rfl,rfl,rfl,hwl,NO⟩:=hrel;have hwl2:=hwl.symm;subst hwl2;clear hwl;by_cases hlt:i < nd.kids.length
      · obtain ⟨x,hx⟩:∃ x,nd.kids[i]?=some x:=⟨_,List.getElem?_eq_getElem hlt⟩
        have KO:=Lv (NK.o.kids.each x (List.mem_of_getElem? hx));have HX:=Lv hx;have hxL:(nd.kids.map (rkid xs.length))[i]?=some (rkid xs.length x):=by rw [List.getElem?_map,hx];rfl
        obtain ⟨gq,rfl,c0,c1⟩:=KD5.o i _ hxL;obtain ⟨xe,xp⟩:=x;have hr1:(rkid xs.length (xe,xp)).1=xe:=rfl;have hr2:(rkid xs.length (xe,xp)).2=rk xs.length xp:=rfl;rw [hr1] at c0;rw [hr2] at c1;have hsx:(strOfNums xe).size=xe.length:=strOfNums_size _;have hxl:xe.length≤255:=KO.o.len;have hx1 : 1≤xe.length:=by
          have h:=KO.o.ne;cases xe with
          | nil=>exact absurd rfl h
          | cons=>simp
        have hkf:kl≤255:=by rw [EQ.o.2.2];exact NK.o.few
        have hjn:i < kl:=by rw [EQ.o.2.2];exact hlt
        have dj:decide ((i:Int) < (kl:Int))=true:=by simp;omega
        have hjl:(i:Int) < (kl:Int):=by omega
        have KLH:=Lv EQ.o.2.2;have hbr:Byt rest:=by rw [HREST.o];exact HL.o.2.2.1.drop j
        have hcut:(strOfNums rest).extract 0 xe.length=strOfNums (rest.take xe.length):=by rw [V8,List.drop_zero]
        have heq:((strOfNums (rest.take xe.length)).toList == (strOfNums xe).toList)=decide (rest.take xe.length=xe):=by
          rw [nums_same,Jv (hbr.take _),Jv KO.o.byt]
        clear hx hxL hr1 hr2 hbr;cases hpf:pfx xe rest with
        | true =>
          have hpd:=hpf;unfold pfx at hpd;rw [Bool.and_eq_true,decide_eq_true_eq,decide_eq_true_eq] at hpd;have hle:=hpd.1;have hjt:=HRL.o;rw [hpd.2] at heq hcut;rw [decide_eq_true rfl] at heq;have dle:decide ((xe.length:Int)≤(rest.length:Int))=true:=by simp;omega
          have hcut2:(strOfNums rest).extract xe.length rest.length=strOfNums (rest.drop xe.length):=by rw [V8,List.take_length]
          have hnx:(rk xs.length xp == -2)=false:=by
           have:=KO.o.lo
           simp only [] at this;unfold rk
           split <;> simp <;> omega
          have hs2:(strOfNums (rest.drop xe.length)).size=rest.length - xe.length:=by rw [strOfNums_size,List.length_drop]
          have NEW:=Lv (show FnLp w w1 g0 xs t R (.slice q5 (way.length + 1) c5) (.int .i64 (rk xs.length xp)) (.string (strOfNums (rest.drop xe.length))) W5 from by
           have hwl:(way ++ [(p:Int)]).length=way.length + 1:=by rw [List.length_append,List.length_singleton]
           have hdr:rest.drop xe.length=t.drop (j + xe.length):=by rw [HREST.o,List.drop_drop]
           have htk:t.take j ++ xe=t.take (j + xe.length):=by rw [List.take_add,← HREST.o,hpd.2]
           refine ⟨⟨k,j + xe.length,way ++ [(p:Int)],xp,q5,c5,by rw [hwl],rfl,by rw [hdr],by rw [hwl];exact O5.o,by rw [hwl];omega,by omega,by omega,KO.o.lo,?_,?_⟩,R5.o,G5.o⟩
           ·intro y hy
            rcases List.mem_append.1 hy with h | h
            ·exact HWR.o y h
            ·rw [List.mem_singleton.1 h];exact ⟨by omega,PL.o⟩
           ·have h:=HC2.o
            rw [find_first (f:=fun k:Kid=>pfx k.1 rest) NO.o HX.o hpf] at h;simp only [] at h;rw [hwl,← htk];exact h)
          have HS2:=Lv (show (rest.drop xe.length).length < rest.length by rw [List.length_drop];omega);clear hpd hpf NO hjt;go_wp2;have hsn:=HSN.o;subst hsn;have hrs:=HREST.o;subst hrs;go_roundw
          case rel=>exact NEW.o
          case measure =>
           show (strOfNums ((t.drop j).drop xe.length)).size < (strOfNums (t.drop j)).size
           rw [strOfNums_size,strOfNums_size];exact HS2.o
        | false =>
          have NO2:=Lv (show ∀ j' y,j' < i + 1→nd.kids[j']?=some y→pfx y.1 rest=false from fun j' y hj' hy=>by
           rcases Nat.lt_or_ge j' i with h | h
           ·exact NO.o j' y h hy
           ·obtain rfl:j'=i:=by omega
            rw [HX.o] at hy;injection hy with hy;rw [← hy];exact hpf)
          clear NO;by_cases hle:xe.length≤rest.length
          ·have hne:¬ rest.take xe.length=xe:=fun e=>by
            unfold pfx at hpf;rw [decide_eq_true hle,decide_eq_true e] at hpf;cases hpf
           rw [decide_eq_false hne] at heq;have dle:decide ((xe.length:Int)≤(rest.length:Int))=true:=by simp;omega
           clear hne hpf;go_wp2;go_roundw
           case rel=>exact ⟨i + 1,by omega,by go_num,by first | rfl | trivial,by first | rfl | trivial,by first | rfl | trivial,Lv NO2.o⟩
           case measure=>(have:=KLH.o;simp [intOf];omega)
          ·have dle:decide ((xe.length:Int)≤(rest.length:Int))=false:=by simp;omega
           have dle2:decide (xe.length≤rest.length)=false:=by simp;omega
           clear heq hcut hpf;go_wp2;go_roundw
           case rel=>exact ⟨i + 1,by omega,by go_num,by first | rfl | trivial,by first | rfl | trivial,by first | rfl | trivial,Lv NO2.o⟩
           case measure=>(have:=KLH.o;simp [intOf];omega)
      · have hjn:¬ i < kl:=by rw [EQ.o.2.2];exact hlt
        have dj:decide ((i:Int) < (kl:Int))=false:=by simp;omega
        have dj2:decide (i < kl)=false:=by simp;omega
        have ER:R=(0,none):=by
          have h:=HC2.o;rw [find_none (fun j y hj hy=>NO.o j y (by omega) hy)] at h;exact h
        have F:=Lv (show Pa w (((((((W5.setCell ⟨g0,0,none⟩ (.string ⟨#[]⟩)).setCell ⟨g0,1,none⟩ (.int .i64 Ex.zero.kind)).setCell ⟨g0,2,none⟩ (.bool Ex.zero.weak)).setCell ⟨g0,3,none⟩ (.int .u64 Ex.zero.value)).setCell ⟨g0,4,none⟩ (.int .u64 Ex.zero.resolver)).setCell ⟨g0,5,none⟩ (.int .u64 Ex.zero.ordinal)).setCell ⟨g0,6,none⟩ (.string (strOfNums Ex.zero.other))) xs t (.returned (.tuple #[exV ⟨#[]⟩ Ex.zero,.bool false,.int .i64 0])) from
          ⟨by rw [← HR.o,ER];rfl,Qw G5.o (Qh (Qq W5 (some g0)) _ _ _ _ _ _ _) LG.o⟩)
        obtain ⟨d0,d1,d2,d3,d4,d5,d6⟩:=R5.o.c;have df:=R5.o.fz;have dll:=R5.o.lt;clear ER hlt NO;go_wp2
        (try simp only [Exit.inBlock,Exit.then])
        refine bodyPost_ret (Q2 rfl rfl rfl rfl (R5.o.put ⟨#[]⟩ Ex.zero)) rfl ?_
        exact F.o
end
end Go.Proofs.YtkmbkpoclhbmgaaGreat
