/- Parts of the proof, put together: TrE. No condition beyond those that each part names. -/
import Derived.Test.YtkmbkpoclhbmgaaGreatPA10
set_option maxRecDepth 20000
set_option maxHeartbeats 6400000
namespace Go.Proofs.YtkmbkpoclhbmgaaGreat
open Go.RowKit
variable {w w' W V:World}
section
open Go.RowKit Go.PlainAid
variable {w w' W V:World} {b o c:Nat} {xs:List Int} {s s':Cs}
def J3 (w:World) (g:Nat) (k:Kid):Prop:=w.heap[g]?=some (.cells #[.string (strOfNums k.1),.int .i64 k.2] 156 (0,0))
section
variable {g:Nat} {k:Kid}
theorem J3.kept {r:Option Nat} (h:J3 w g k) (hg:w.grownBy w' r) (hr:r≠some g):J3 w' g k:=(hg.block g (lt_of_block h) (fun e=>hr e.symm)).trans h
theorem J3.lt (h:J3 w g k):g < w.heap.size:=lt_of_block h
theorem J3.fz (h:J3 w g k) (i:Nat):w.frozen? ⟨g,i,none⟩=false:=Xg h
theorem J3.c0 (h:J3 w g k):w.cell? ⟨g,0,none⟩=some (.string (strOfNums k.1)):=by rw [Qm h];rfl
theorem J3.c1 (h:J3 w g k):w.cell? ⟨g,1,none⟩=some (.int .i64 k.2):=by rw [Qm h];rfl
theorem J3.place (h:J3 w g k) (n:Int):J3 (w.setCell ⟨g,1,none⟩ (.int .i64 n)) g (k.1,n):=by unfold J3;rw [heap_setCell_same w g 1 _ _ _ h];rfl
end
theorem Wj {T:TypeId} {k n c base:Nat} {q:Option Addr} {ys:List Value} (h:W.ownsRow base T k (.slice q n c) n ys):n≤c:=by
 rcases h.2 with ⟨hv,hn⟩ | ⟨g,cp,cur,hv,_,_,hle,_⟩
 ·omega
 ·injection hv with _ _ e;omega
theorem Mz {T:TypeId} {k n c base:Nat} {q:Option Addr} {ys:List Value} (h:W.ownsRow base T k (.slice q n c) n ys):c≤9223372036854775807:=by
 rcases h.2 with ⟨hv,hn⟩ | ⟨g,cp,cur,hv,_,_,hle,hm,_⟩
 ·injection hv with _ _ e;omega
 ·injection hv with _ _ e;unfold maxLen at hm;omega
theorem join {P:Prop} {G Facts:Nat→World→Ex→Bool→Prop} (main:(∀ g W x r,Facts g W x r→G g W x r)→P) (rest:∀ g W x r,Facts g W x r→G g W x r):P:=main rest
theorem Bm {α:Type} {f:Ps α} {v : α} (h:Sim f xs s v s') (hs:s.2=false) (hb:s'.2=true):f (xs.drop s.1)=none:=h.no hs hb
set_option maxHeartbeats 12000000 in
theorem read9_any (hx:∀ i,i < xs.length→w.cell? ⟨b,o + i,none⟩=some (.int .u8 (xs.getD i 0))) (hc:xs.length≤c) (hcm:c≤9223372036854775807) (hb:b < w.heap.size) (hbig:xs.length≤140737488355328) (hr:Byt xs) (p:Nat) (hp:p < xs.length) :
  Calls Tryz.prog 76 #[.slice (some ⟨b,o,none⟩) xs.length c,.int .i64 p] w fun e w'=>RdOut w w' xs p e:=by
 have g1:=grown1 w (.cells #[.bool false,.string ⟨#[]⟩,.int .i64 0,.bool false,.int .u64 0,.int .u64 0,.int .u64 0,.string ⟨#[]⟩,.slice none 0 0] 152);have r1:Q5 (w.alloc (.cells #[.bool false,.string ⟨#[]⟩,.int .i64 0,.bool false,.int .u64 0,.int .u64 0,.int .u64 0,.string ⟨#[]⟩,.slice none 0 0] 152)) w.heap.size false ⟨#[]⟩ Ex.zero (.slice none 0 0):=heap_alloc_new w _;obtain ⟨w1,hw1⟩:∃ w1,w.alloc (.cells #[.bool false,.string ⟨#[]⟩,.int .i64 0,.bool false,.int .u64 0,.int .u64 0,.int .u64 0,.string ⟨#[]⟩,.slice none 0 0] 152)=w1:=⟨_,rfl⟩
 obtain ⟨g0,hg0⟩:∃ g0,w.heap.size=g0:=⟨_,rfl⟩
 rw [hw1] at g1 r1;rw [hg0] at r1;have g2:=grown1 w1 (.cells #[.bool false,.string ⟨#[]⟩,.int .i64 0,.bool false,.int .u64 0,.int .u64 0,.int .u64 0,.string ⟨#[]⟩,.slice none 0 0] 152);have r2:Q5 (w1.alloc (.cells #[.bool false,.string ⟨#[]⟩,.int .i64 0,.bool false,.int .u64 0,.int .u64 0,.int .u64 0,.string ⟨#[]⟩,.slice none 0 0] 152)) w1.heap.size false ⟨#[]⟩ Ex.zero (.slice none 0 0):=heap_alloc_new w1 _
 obtain ⟨w2,hw2⟩:∃ w2,w1.alloc (.cells #[.bool false,.string ⟨#[]⟩,.int .i64 0,.bool false,.int .u64 0,.int .u64 0,.int .u64 0,.string ⟨#[]⟩,.slice none 0 0] 152)=w2:=⟨_,rfl⟩
 obtain ⟨gx,hgx⟩:∃ gx,w1.heap.size=gx:=⟨_,rfl⟩
 have l1:=r1.lt;rw [hw2] at g2 r2;rw [hgx] at r2 l1;have g3:=grown1 w2 (.cells #[.slice (some ⟨b,o,none⟩) xs.length c,.int .i64 p,.bool false] 200);have l2:=r2.lt;have T3:=Lv (show RrI w (w2.alloc (.cells #[.slice (some ⟨b,o,none⟩) xs.length c,.int .i64 p,.bool false] 200)) w2.heap.size b o c xs (p,false) g0 gx none [] (.slice none 0 0) from
  ⟨⟨heap_alloc_new w2 _,fun i hi=>Qv g3 (Qv g2 (Qv g1 (hx i hi))),hc,hcm,Nat.le_of_lt hp,hbig,hr,by have:=(Qz g1 g2).size;omega⟩,(r1.kept g2 (by simp)).kept g3 (by simp),r2.kept g3 (by simp),World.ownsRow_nil _ _ _ _,fun k hk=>(by cases hk),Qz (Qz g1 g2) g3,(Qz g1 g2).size,by omega,by have:=g1.size;omega,by omega,by omega,by omega,hb⟩)
 obtain ⟨w3,hw3⟩:∃ w3,w2.alloc (.cells #[.slice (some ⟨b,o,none⟩) xs.length c,.int .i64 p,.bool false] 200)=w3:=⟨_,rfl⟩
 obtain ⟨gc,hgc⟩:∃ gc,w2.heap.size=gc:=⟨_,rfl⟩
 rw [hw3,hgc] at T3;have HW:=Lv (And.intro hw1 (And.intro hg0 (And.intro hw2 (And.intro hgx (And.intro hw3 hgc)))));have HR:=Lv hr;have S0:=Lv (Kh xs (p,false));have B0:=Lv (Pk (xs:=xs) (s:=(p,false)));have hl1:=ulR_le (xs:=xs) (s:=(p,false)) (Nat.le_of_lt hp);clear g1 r1 g2 r2 g3 l1 l2 hw1 hg0 hw2 hgx hw3 hgc hr hx;go_enter Tryz.func76,Tryz.ntmps76;go_upto_region 1 with fail
 rw [HW.o.1,HW.o.2.1];go_upto_region 2 with fail;rw [HW.o.2.2.1,HW.o.2.2.2.1];go_upto_region 3 with fail;rw [HW.o.2.2.2.2.1,HW.o.2.2.2.2.2];clear HW;go_wp2_with fail;refine (Z8 T3.o.rd).mono ?_
 rintro e w4 ⟨rfl,hp4,hg4⟩;have T4:=Lv (T3.o.call hp4 hg4);clear hp4 hg4 T3;obtain ⟨Z,hZ⟩:∃ Z:Nat,(Z:Int)=(ulR xs (p,false)).1:=⟨((ulR xs (p,false)).1).toNat,by have:=B0.o;omega⟩
 obtain ⟨s1,hs1⟩:∃ z,z=(ulR xs (p,false)).2:=⟨_,rfl⟩
 rw [← hZ,← hs1] at S0;rw [← hs1] at T4 hl1;rw [← hZ] at B0 ⊢;clear hZ hs1;obtain ⟨p1,bad1⟩:=s1;simp only [] at hl1;have i0:=T4.o.rd.c0;have i1:=T4.o.rd.c1;have i2:=T4.o.rd.c2;have iz:=B0.o.2;simp only [] at i1 i2;cases bad1 with
 | true =>
  have NN:=Lv (show ndAt xs p=none from Jd (Bm (Sim.B S0.o (Sim.bad (v:=(⟨none,[]⟩:Nd)) (Nat.le_refl _) rfl (fun h=>by cases h))) rfl rfl));have FN:=Lv (T4.o.fin NN.o);obtain ⟨d0,d1,d2,d3,d4,d5,d6,d7,d8⟩:=T4.o.res.c;have df:=T4.o.res.fz;have dl:=T4.o.res.lt;go_wp2_with fail;refine bodyPost_ret (Qa rfl rfl rfl FN.o.1) rfl ?_
  exact FN.o.2
 | false =>
  have hu:IntKind.u64.wrap ((xs.length:Int) - (p1:Int))=(xs.length:Int) - (p1:Int):=by rw [IntKind.wrap_u64];omega
  by_cases hbz:xs.length - p1 < Z
  ·have dz:decide ((xs.length:Int) - (p1:Int) < (Z:Int))=true:=by simp;omega
   have NX:=Lv (show Ko (xs.drop p)=none by
    have e:=exP_big (Z:=Z) (l:=xs.drop p1) (by rw [List.length_drop];omega);exact Bm (s:=(p,false)) (Sim.B S0.o (Sim.B (Sim.bad (s:=(p1,false)) (s1:=(p1,true)) (v:=none) (Nat.le_refl _) rfl (fun _=>e)) (Sim.bad (v:=(⟨none,[]⟩:Nd)) (Nat.le_refl _) rfl (fun h=>by cases h)))) rfl rfl)
   clear hbz;have NN:=Lv (show ndAt xs p=none from Jd (NX.o));have FN:=Lv (T4.o.fin NN.o);obtain ⟨d0,d1,d2,d3,d4,d5,d6,d7,d8⟩:=T4.o.res.c;have df:=T4.o.res.fz;have dl:=T4.o.res.lt;go_wp2_with fail;refine bodyPost_ret (Qa rfl rfl rfl FN.o.1) rfl ?_
   exact FN.o.2
  ·have dz:decide ((xs.length:Int) - (p1:Int) < (Z:Int))=false:=by simp;omega
   have hZn:p1 + Z≤xs.length:=by omega
   clear hbz;by_cases hz0 : 0 < Z
   ·obtain ⟨Y,hY⟩:∃ Y,Y=(xs.drop p1).take Z:=⟨_,rfl⟩
    have hYl:Y.length=Z:=by rw [hY,List.length_take,List.length_drop];omega
    have SY:=Lv (fun (V:World) (hV:w4.grownBy V none)=>(says_any (w:=V) (b:=b) (o:=o + p1) (c:=c - p1) (xs:=Y) (fun i hi=>by
      rw [hYl] at hi;rw [Nat.add_assoc,Qv hV (T4.o.rd.cell (p1 + i) (by omega)),hY];simp [List.getD,hi,List.getElem?_drop]) (by omega) (by omega) (Nat.lt_of_lt_of_le T4.o.old (Nat.le_trans T4.o.grown.size hV.size)) (by omega) (by rw [hY];exact (HR.o.drop _).take _)))
    rw [hYl] at SY;have dzp:decide ((0:Int) < (Z:Int))=true:=by simp;omega
    have dzn:decide (0 < Z)=true:=by simp;omega
    have DZN:=Lv dzn;have hcp:¬ c=p1:=by omega
    obtain ⟨E,hE⟩:∃ E:Nat,(p1:Int) + (Z:Int)=(E:Int):=⟨p1 + Z,by omega⟩
    have hV:∀ W,(Instr.slice 29 (.slice (some ⟨b,o,none⟩) xs.length c) (some (.int .i64 (p1:Int))) (some (.int .i64 (E:Int))) none).run Tryz.prog W=.ok (.slice (some ⟨b,o + p1,none⟩) Z (c - p1)) W:=fun W=>by
      rw [run_slice_lh (P:=Tryz.prog) W 29 (some ⟨b,o,none⟩) xs.length c (by kernel_rfl) .i64 .i64 (p1:Int) (E:Int) (by omega) (by omega) (by omega)];have hs:((sizeOf (Tryz.prog.elem 29)).run Tryz.prog W)=.ok 1 W:=by kernel_rfl
      rw [hs];simp only [Result.andThen,sliced];rw [if_neg (by omega),show ((E:Int)).toNat - ((p1:Int)).toNat=Z by omega,show ((p1:Int)).toNat=p1 by omega];simp only [Option.map_some,Xd,Nat.mul_one]
    have hwz:IntKind.i64.wrap (Z:Int)=(Z:Int):=IntWalk.i64_in _ (by omega);have hwE:IntKind.i64.wrap ((p1:Int) + (Z:Int))=(E:Int):=by rw [hE];exact IntWalk.i64_in _ (by omega)
    have KEEP:=Lv (And.intro hc (And.intro hcm (And.intro hbig (And.intro hp (And.intro hl1 (And.intro hE (show p1 + Z≤xs.length from hZn)))))));have HYH:=Lv (And.intro hY hYl);clear hY hYl hz0 hcp hZn;go_upto_region 7 with fail;clear hc hcm hbig hp hl1 hE iz hu dz dzp dzn i2 hb;have GD1:=Lv (show w4.grownBy w4.drew none from Qj (Qq _ _) 1);have GD2:=Lv (show w4.grownBy (w4.alloc (.cells #[.string ⟨#[]⟩,.int .i64 0,.bool false,.int .u64 0,.int .u64 0,.int .u64 0,.string ⟨#[]⟩] 28)).drew none from Qj (grown1 _ _) 1)
    have X2:=Lv (show ExAt (w4.alloc (.cells #[.string ⟨#[]⟩,.int .i64 0,.bool false,.int .u64 0,.int .u64 0,.int .u64 0,.string ⟨#[]⟩] 28)).drew w4.heap.size ⟨#[]⟩ Ex.zero from heap_alloc_new w4 _);have NGC:=Lv (show gc≠w4.heap.size from fun e=>by have:=T4.o.rd.lt;omega);have SY2:=Lv ((SY.o _ GD2.o).mono (fun e w' h=>(show SayOut _ w' Y e∧ExAt w' w4.heap.size ⟨#[]⟩ Ex.zero from ⟨h,X2.o.kept h.grown (by simp)⟩)))
    have l4:=T4.o.rd.lt;have l4n:¬ gc=w4.heap.size:=fun e=>by omega
    apply join (Facts:=fun g W x r=>RrI w W gc b o c xs (p1,false) g0 gx none [] (.slice none 0 0)∧ExAt W g ⟨#[]⟩ x∧w.heap.size≤g∧g≠gc∧g≠g0∧g≠gx∧(r=true→sayP Y=some (x,Y.length))∧(r=false→∀ y,sayP Y≠some (y,Y.length)))
    case main =>
     intro REST;have RS:=Lv REST;clear REST;go_region_with (go_at_call 114;(first | (with_reducible refine (SY.o _ GD1.o).mono ?_;rintro e w5 ⟨⟨x,rr,rfl,hy,hno⟩,hg5⟩;unfold exV Zd) | (with_reducible refine SY2.o.mono ?_;rintro e w5 ⟨⟨⟨x,rr,rfl,hy,hno⟩,hg5⟩,hX5⟩;obtain ⟨x0,x1,x2,x3,x4,x5,x6⟩:=hX5.c;have xf:=hX5.fz;have xl:=hX5.lt;unfold exV Zd)))
     all_goals
      first
       |(have gB:=Qh (Qq w5 (some w4.heap.size)) (.string ⟨#[]⟩) (.int .i64 x.kind) (.bool x.weak) (.int .u64 x.value) (.int .u64 x.resolver) (.int .u64 x.ordinal) (.string (strOfNums x.other))
         have FB:=Lv (And.intro ((T4.o.same (Qz GD2.o hg5)).mine gB T4.o.grown.size (Ne.symm NGC.o) (fun e=>by have:=T4.o.res.lt;omega) (fun e=>by have:=T4.o.nod.lt;omega) (by simp [Value.ownBlock])) (And.intro (hX5.put ⟨#[]⟩ x) (And.intro T4.o.grown.size (And.intro (Ne.symm NGC.o) (And.intro (show w4.heap.size≠g0 from fun e=>by have:=T4.o.res.lt;omega) (And.intro (show w4.heap.size≠gx from fun e=>by have:=T4.o.nod.lt;omega) (And.intro hy hno)))))))
         obtain ⟨Wf,hWf⟩:∃ Wf,((((((w5.setCell ⟨w4.heap.size,0,none⟩ (.string ⟨#[]⟩)).setCell ⟨w4.heap.size,1,none⟩ (.int .i64 x.kind)).setCell ⟨w4.heap.size,2,none⟩ (.bool x.weak)).setCell ⟨w4.heap.size,3,none⟩ (.int .u64 x.value)).setCell ⟨w4.heap.size,4,none⟩ (.int .u64 x.resolver)).setCell ⟨w4.heap.size,5,none⟩ (.int .u64 x.ordinal)).setCell ⟨w4.heap.size,6,none⟩ (.string (strOfNums x.other))=Wf:=⟨_,rfl⟩
         rw [hWf] at FB ⊢;obtain ⟨gX,hgX⟩:∃ gX,w4.heap.size=gX:=⟨_,rfl⟩
         rw [hgX] at FB ⊢;exact RS.o gX Wf x rr FB.o)
       |(have gA:=grown1 w5 (.cells #[.string ⟨#[]⟩,.int .i64 x.kind,.bool x.weak,.int .u64 x.value,.int .u64 x.resolver,.int .u64 x.ordinal,.string (strOfNums x.other)] 28)
         have szA:gc < w5.heap.size∧g0 < w5.heap.size∧gx < w5.heap.size:=⟨(T4.o.same (Qz GD1.o hg5)).rd.lt,(T4.o.same (Qz GD1.o hg5)).res.lt,(T4.o.same (Qz GD1.o hg5)).nod.lt⟩
         have FA:=Lv (And.intro (T4.o.same (Qz GD1.o (Qz hg5 gA))) (And.intro (show ExAt _ w5.heap.size ⟨#[]⟩ x from heap_alloc_new w5 _) (And.intro (Nat.le_trans T4.o.grown.size (Qz GD1.o hg5).size) (And.intro (show w5.heap.size≠gc by omega) (And.intro (show w5.heap.size≠g0 by omega) (And.intro (show w5.heap.size≠gx by omega) (And.intro hy hno)))))));obtain ⟨Wf,hWf⟩:∃ Wf,w5.alloc (.cells #[.string ⟨#[]⟩,.int .i64 x.kind,.bool x.weak,.int .u64 x.value,.int .u64 x.resolver,.int .u64 x.ordinal,.string (strOfNums x.other)] 28)=Wf:=⟨_,rfl⟩
         rw [hWf] at FA ⊢;obtain ⟨gX,hgX⟩:∃ gX,w5.heap.size=gX:=⟨_,rfl⟩
         rw [hgX] at FA ⊢;exact RS.o gX Wf x rr FA.o)
    case rest =>
      intro gX W5 x rr ⟨t5,hX5,hgX,nXc,nX0,nXx,hy,hno⟩;obtain ⟨hc,hcm,hbig,hp,hl1,hE,hZn⟩:=KEEP.o;have T5:=Lv t5;have X5:=Lv hX5;have HY:=Lv hy;have HNO:=Lv hno;have NX:=Lv (And.intro hgX (And.intro nXc (And.intro nX0 nXx)));clear t5 hX5 hgX nXc nX0 nXx hy hno hV hwz hwE i0 i1 T4;have hz0 : 0 < Z:=by simpa using DZN.o
      cases rr with
      | false =>
       have NN0:=Lv (show Ko (xs.drop p)=none by
        have e:exP Z (xs.drop p1)=none:=exP_no hz0 (by rw [List.length_drop];omega) (by rw [← HYH.o.1];exact HNO.o rfl);exact Bm (s:=(p,false)) (Sim.B S0.o (Sim.B (Sim.bad (s:=(p1,false)) (s1:=(p1,true)) (v:=none) (Nat.le_refl _) rfl (fun _=>e)) (Sim.bad (v:=(⟨none,[]⟩:Nd)) (Nat.le_refl _) rfl (fun h=>by cases h)))) rfl rfl)
       clear HY HNO hz0;have NN:=Lv (show ndAt xs p=none from Jd (NN0.o));have FN:=Lv (T5.o.fin NN.o);obtain ⟨d0,d1,d2,d3,d4,d5,d6,d7,d8⟩:=T5.o.res.c;have df:=T5.o.res.fz;have dl:=T5.o.res.lt;go_wp2_with fail;refine bodyPost_ret (Qa rfl rfl rfl FN.o.1) rfl ?_
       exact FN.o.2
      | true =>
       have S1:=Lv (show Sim (exP Z) xs (p1,false) (some x) (E,false) from
        ⟨by simp only [];omega,fun _=>⟨rfl,by simp only [];rw [show E - p1=Z by omega];exact exP_yes hz0 (by rw [List.length_drop];omega) (by rw [← HYH.o.1];exact HY.o rfl)⟩,fun _ h=>by cases h⟩)
       clear HY HNO hz0;obtain ⟨n0,n1,n2,n3,n4,n5,n6,n7,n8⟩:=T5.o.nod.c;obtain ⟨x0,x1,x2,x3,x4,x5,x6⟩:=X5.o.c;have nf:=T5.o.nod.fz;have nl:=T5.o.nod.lt;have xl:=X5.o.lt;have nxx:¬ gX=gx:=NX.o.2.2.2;have nxx':¬ gx=gX:=fun e=>NX.o.2.2.2 e.symm;simp only [Option.isSome,exOf] at n0 n1 n2 n3 n4 n5 n6 n7;have T6:=Lv (T5.o.said x (grown_put8 (Qq W5 (some gx)) (.bool true) (.string ⟨#[]⟩) (.int .i64 x.kind) (.bool x.weak) (.int .u64 x.value) (.int .u64 x.resolver) (.int .u64 x.ordinal) (.string (strOfNums x.other))) (T5.o.nod.said ⟨#[]⟩ x))
       go_upto_region 12 with fail;obtain ⟨W6,hW6⟩:∃ W6,(((((((W5.setCell ⟨gx,0,none⟩ (.bool true)).setCell ⟨gx,1,none⟩ (.string ⟨#[]⟩)).setCell ⟨gx,2,none⟩ (.int .i64 x.kind)).setCell ⟨gx,3,none⟩ (.bool x.weak)).setCell ⟨gx,4,none⟩ (.int .u64 x.value)).setCell ⟨gx,5,none⟩ (.int .u64 x.resolver)).setCell ⟨gx,6,none⟩ (.int .u64 x.ordinal)).setCell ⟨gx,7,none⟩ (.string (strOfNums x.other))=W6:=⟨_,rfl⟩
       rw [hW6] at T6 ⊢;clear hW6 n0 n1 n2 n3 n4 n5 n6 n7 n8 x0 x1 x2 x3 x4 x5 x6 nf nl xl nxx nxx' T5 X5;have j1:=T6.o.rd.c1;have jf:=T6.o.rd.f 1;have jl:=T6.o.rd.lt;simp only [] at j1;have hwz:IntKind.i64.wrap (Z:Int)=(Z:Int):=IntWalk.i64_in _ (by omega);have hwE:IntKind.i64.wrap ((p1:Int) + (Z:Int))=(E:Int):=by rw [hE];exact IntWalk.i64_in _ (by omega)
       have hz63:(Z:Int)≤9223372036854775807:=by omega
       have TA:=Lv (T6.o.call (s':=(E,false)) (w':=W6.setCell ⟨gc,1,none⟩ (.int .i64 (E:Int))) (by
        refine T6.o.rd.set (s':=(E,false)) (Qx (Qq _ _) _) ?_ (by omega)
        rw [heap_setCell_same _ gc 1 _ _ _ T6.o.rd.blk];rfl) (Qx (Qq _ _) _))
       go_upto_region 13 with fail;obtain ⟨WA,hWA⟩:∃ WA,W6.setCell ⟨gc,1,none⟩ (.int .i64 (E:Int))=WA:=⟨_,rfl⟩
       rw [hWA] at TA ⊢;obtain ⟨pQ,hpQ⟩:∃ z,z=E:=⟨_,rfl⟩
       rw [← hpQ] at TA S1;clear hWA hpQ j1 jf jl hwz hwE hz63 T6 hE hZn;have j0:=TA.o.rd.c0;have j1:=TA.o.rd.c1;simp only [] at j1;have hpQl:=TA.o.rd.le;simp only [] at hpQl;by_cases hend:pQ=xs.length
       ·have dq:((pQ:Int) == (xs.length:Int))=true:=by rw [hend];simp
        have NN0:=Lv (show Ko (xs.drop p)=none by
          refine Bm (s:=(p,false)) (Sim.B S0.o (Sim.B S1.o (Sim.B (Sim.bad (s:=(pQ,false)) (s1:=(pQ,true)) (v:=0) (Nat.le_refl _) rfl (fun _=>by rw [hend,List.drop_length];rfl)) (Sim.bad (v:=(⟨none,[]⟩:Nd)) (Nat.le_refl _) rfl (fun h=>by cases h))))) rfl rfl)
        clear hend;have NN:=Lv (show ndAt xs p=none from Jd (NN0.o));have FN:=Lv (TA.o.fin NN.o);obtain ⟨d0,d1,d2,d3,d4,d5,d6,d7,d8⟩:=TA.o.res.c;have df:=TA.o.res.fz;have dl:=TA.o.res.lt;go_wp2_with fail;refine bodyPost_ret (Qa rfl rfl rfl FN.o.1) rfl ?_
        exact FN.o.2
       ·have dq:((pQ:Int) == (xs.length:Int))=false:=by rw [beq_eq_false_iff_ne];omega
        have hpQn:pQ < xs.length:=by omega
        have jb:=TA.o.rd.cell pQ hpQn;have hM:=HR.o (xs.getD pQ 0) (by simp [List.getD,hpQn,List.getElem_mem]);have S2:=Lv (show Sim byP xs (pQ,false) (xs.getD pQ 0) (pQ + 1,false) from
          ⟨Nat.le_succ _,fun _=>⟨rfl,by rw [List.drop_eq_getElem_cons hpQn];simp only [byP,Option.some.injEq,Prod.mk.injEq];exact ⟨by simp [hpQn],by omega⟩⟩,fun _ h=>by cases h⟩)
        obtain ⟨M,hMM⟩:∃ M:Nat,(M:Int)=xs.getD pQ 0:=⟨(xs.getD pQ 0).toNat,by omega⟩
        rw [← hMM] at jb hM S2;clear hMM hend;have jf:=TA.o.rd.f 1;have jl:=TA.o.rd.lt;have T8:=Lv (TA.o.call (s':=(pQ + 1,false)) (w':=WA.setCell ⟨gc,1,none⟩ (.int .i64 ((pQ + 1:Nat):Int))) (by
          refine TA.o.rd.set (s':=(pQ + 1,false)) (Qx (Qq _ _) _) ?_ hpQn
          rw [heap_setCell_same _ gc 1 _ _ _ TA.o.rd.blk];rfl) (Qx (Qq _ _) _))
        rw [show ((pQ + 1:Nat):Int)=(pQ:Int) + 1 by omega] at T8;have mM:M < 256:=by omega
        go_upto_region 17 with fail;obtain ⟨w8,hw8⟩:∃ w8,WA.setCell ⟨gc,1,none⟩ (.int .i64 ((pQ:Int) + 1))=w8:=⟨_,rfl⟩
        rw [hw8] at T8 ⊢;clear hw8 j0 j1 jb jf jl TA hM;have NONE:=Lv (fun (r:List Kid) (s':Cs) (h:Sim (Js M []) xs (pQ + 1,false) r s') (hb:s'.2=true)=>(show Ko (xs.drop p)=none from
          Bm (s:=(p,false)) (Sim.B S0.o (Sim.B S1.o (Sim.B S2.o (Sim.B h (Sim.bad (v:=(⟨none,[]⟩:Nd)) (Nat.le_refl _) hb (fun h=>by rw [hb] at h;cases h)))))) rfl hb))
        go_wp2_with fail;go_loopw [12] (fun i wr=>∃ (k:Nat) (L:List Kid) (v:Value) (sk:Nat),k≤M∧i=.int .i64 k∧L.length=k∧RrI w wr gc b o c xs (sk,false) g0 gx (some x) L v∧Hid (∀ r s',Sim (Js (M - k) L) xs (sk,false) r s'→Sim (Js M []) xs (pQ + 1,false) r s')) (fun i _=>M - (intOf i).toNat)
        case atStart=>exact ⟨0,[],_,pQ + 1,Nat.zero_le _,rfl,rfl,T8.o,Lv (fun r s' h=>h)⟩
        case round =>
          obtain ⟨k,L,v,sk,hk,rfl,hl,hT,CO⟩:=hrel;obtain ⟨q,cq,rfl⟩:=Qp hT.own;have T:=Lv hT;have HL:=Lv hl;clear hT hl T8;by_cases hlt:k < M
          · have ST:=Lv (Tu xs (sk,false))
            have CO2:=Lv (show ∀ r s',Sim (Js (M - (k + 1) + 1) L) xs (sk,false) r s'→Sim (Js M []) xs (pQ + 1,false) r s' by rw [show M - (k + 1) + 1=M - k by omega];exact CO.o);have dkM:decide ((k:Int) < (M:Int))=true:=by simp;omega
            have dkM2:decide (k < M)=true:=by simp;omega
            clear CO;go_wp2_with fail;refine (Wm T.o.rd).mono ?_
            rintro e wa ⟨rfl,hp,hg⟩;have Ta:=Lv (T.o.call hp hg);clear hp hg T;obtain ⟨E,hE⟩:∃ z,z=(txR xs (sk,false)).1:=⟨_,rfl⟩
            obtain ⟨s4,hs4⟩:∃ z,z=(txR xs (sk,false)).2:=⟨_,rfl⟩
            have BE:=Lv (show Byt E by
             rw [hE];unfold txR
             split
             · exact (HR.o.drop _).pre
             · intro x hx;cases hx)
            rw [← hE,← hs4] at ST;rw [← hs4] at Ta;rw [← hE];clear hE hs4;have gb:=grown1 wa (.cells #[.string (strOfNums E),.int .i64 (-1)] 156);have kb:J3 (wa.alloc (.cells #[.string (strOfNums E),.int .i64 (-1)] 156)) wa.heap.size (E,-1):=heap_alloc_new wa _;have Tb:=Lv (Ta.o.same gb);have Kb:=Lv kb;have LK:=Lv (And.intro (show w.heap.size≤wa.heap.size from Ta.o.grown.size) (And.intro Ta.o.rd.lt (And.intro Ta.o.res.lt (And.intro Ta.o.nod.lt (fun g (e:(Value.slice q L.length cq).ownBlock=some g)=>((Ta.o.own.lt g e).2:g < wa.heap.size))))))
            obtain ⟨wb,hwb⟩:∃ wb,wa.alloc (.cells #[.string (strOfNums E),.int .i64 (-1)] 156)=wb:=⟨_,rfl⟩
            obtain ⟨gk,hgk⟩:∃ gk,wa.heap.size=gk:=⟨_,rfl⟩
            rw [hwb] at Tb Kb;rw [hgk] at Kb LK;have HWb:=Lv hwb;have HGK:=Lv hgk;clear gb kb hwb hgk Ta;go_upto_region 21 with fail;rw [HWb.o,HGK.o];clear HWb HGK;have SU:=Lv (Kh xs s4);have BU:=Lv (Pk (xs:=xs) (s:=s4));go_wp2_with fail;refine (Z8 Tb.o.rd).mono ?_
            rintro e wc ⟨rfl,hp,hg⟩;have Tc:=Lv (Tb.o.call hp hg);have kc:=Kb.o.kept hg (by intro e;injection e with e;have:=LK.o.2.1;omega);have Kc:=Lv kc;have kf:=kc.fz;have kl:=kc.lt;have k1:=kc.c1;clear hp hg Tb Kb kc;obtain ⟨P,hP⟩:∃ z,z=(ulR xs s4).1:=⟨_,rfl⟩
            obtain ⟨s5,hs5⟩:∃ z,z=(ulR xs s4).2:=⟨_,rfl⟩
            rw [← hP,← hs5] at SU;rw [← hP] at BU;rw [← hs5] at Tc;rw [← hP];clear hP hs5;have LE:=Lv SU.o.le;have bu0:=BU.o.1;have bu1:=BU.o.2;by_cases hPn:P < (xs.length:Int)
            ·have dP:decide (P < (xs.length:Int))=true:=decide_eq_true hPn
             have RK:=Lv (show rkid xs.length (E,P)=(E,P) by unfold rkid;rw [if_pos hPn]);have hwP:IntKind.i64.wrap P=P:=IntWalk.i64_in _ (by omega);have gz:=Qx (i:=1) (Qq wc (some gk)) (.int .i64 P);have Td:=Lv (Tc.o.mine gz LK.o.1 (by have:=LK.o.2.1;omega) (by have:=LK.o.2.2.1;omega) (by have:=LK.o.2.2.2.1;omega) (by intro e;have:=LK.o.2.2.2.2 gk e;omega))
             have Kd:=Lv (Kc.o.place P);go_upto_region 24 with fail;obtain ⟨wd,hwd⟩:∃ wd,wc.setCell ⟨gk,1,none⟩ (.int .i64 P)=wd:=⟨_,rfl⟩
             rw [hwd] at Td Kd
             (try rw [hwd])
             clear hwd gz kf kl k1 Tc Kc hPn bu0 bu1 hwP dP;have i2:=Td.o.rd.c2;have q0:=Kd.o.c0;have q1:=Kd.o.c1;have ql:=Kd.o.lt;obtain ⟨p5,bad5⟩:=s5;simp only [] at i2 LE;cases bad5 with
             | true =>
               have NN0:=Lv (NONE.o [] (p5,true) (CO2.o _ _ (Sim.B ST.o (Sim.B SU.o (Sim.bad (Nat.le_refl _) rfl (fun h=>by cases h))))) rfl);have NN:=Lv (show ndAt xs p=none from Jd (NN0.o));have FN:=Lv (Td.o.fin NN.o);obtain ⟨d0,d1,d2,d3,d4,d5,d6,d7,d8⟩:=Td.o.res.c;have df:=Td.o.res.fz;have dl:=Td.o.res.lt;go_wp2_with fail;refine bodyPost_ret (Qa rfl rfl rfl FN.o.1) rfl ?_
               exact FN.o.2
             | false =>
               by_cases hE:E=[]
               ·have he:(strOfNums E).toList.isEmpty=true:=by rw [hE,Lib.strOfNums_toList];rfl
                have NN0:=Lv (NONE.o [] (p5,true) (CO2.o _ _ (Sim.B ST.o (Sim.B SU.o (by rw [if_pos (.inl hE)];exact Sim.F _ (Nat.le_refl _) rfl)))) rfl);clear hE;have NN:=Lv (show ndAt xs p=none from Jd (NN0.o));have FN:=Lv (Td.o.fin NN.o);obtain ⟨d0,d1,d2,d3,d4,d5,d6,d7,d8⟩:=Td.o.res.c;have df:=Td.o.res.fz;have dl:=Td.o.res.lt;go_wp2_with fail;refine bodyPost_ret (Qa rfl rfl rfl FN.o.1) rfl ?_
                exact FN.o.2
               ·have he:(strOfNums E).toList.isEmpty=false:=by
                 rw [Lib.strOfNums_toList];cases E with
                 | nil=>exact absurd rfl hE
                 | cons=>rfl
                have HE:=Lv hE;obtain ⟨m0,m1,m2,m3,m4,m5,m6,m7,m8⟩:=Td.o.nod.c;have ml:=Td.o.nod.lt;clear hE m0 m1 m2 m3 m4 m5 m6 m7;go_wp2_with fail;go_loopw [15] (fun jj wi=>∃ (j:Nat),j≤L.length∧jj=.int .i64 j∧RrI w wi gc b o c xs (p5,false) g0 gx (some x) L (.slice q L.length cq)∧J3 wi gk (E,P)∧∀ i y,i < j→L[i]?=some y→(y.1.getD 0 0 == E.getD 0 0)=false) (fun jj _=>L.length - (intOf jj).toNat)
                case atStart=>exact ⟨0,Nat.zero_le _,rfl,Td.o,Kd.o,fun i y h=>by omega⟩
                case round =>
                 obtain ⟨j,hj,rfl,hTi,hKi,hno⟩:=hrel;have Ti:=Lv hTi;have Ki:=Lv hKi;have NO:=Lv hno;obtain ⟨m0,m1,m2,m3,m4,m5,m6,m7,m8⟩:=hTi.nod.c;have ml:=hTi.nod.lt;have q0:=hKi.c0;have q1:=hKi.c1;have ql:=hKi.lt;clear hTi hKi hno m0 m1 m2 m3 m4 m5 m6 m7 i2;have hLk:L.length < 256:=by have:=HL.o;omega
                 have hLc:=Wj Ti.o.own;have hLm:=Mz Ti.o.own;by_cases hjl:j < L.length
                 ·obtain ⟨y,hy⟩:∃ y,L[j]?=some y:=⟨_,List.getElem?_eq_getElem hjl⟩
                  have hy2:(L.map (rkid xs.length))[j]?=some (rkid xs.length y):=by rw [List.getElem?_map,hy];rfl
                  obtain ⟨gq,rfl,c0,c1⟩:=Ba.of Ti.o.own j _ hy2;have yo:=Ti.o.each y (List.mem_of_getElem? hy);have HY:=Lv hy;have dj:decide ((j:Int) < (L.length:Int))=true:=by simp;omega
                  have dj2:decide (j < L.length)=true:=by simp;omega
                  have hjli:(j:Int) < (L.length:Int):=by omega
                  have c0':wr.cell? ⟨gq,j * 2,none⟩=some (.string (strOfNums y.1)):=c0
                  have MT:=Lv (fun (h:(y.1.getD 0 0 == E.getD 0 0)=true)=>(show meets E L=true by
                   unfold meets;rw [List.any_eq_true];exact ⟨y,List.mem_of_getElem? hy,h⟩))
                  obtain ⟨ye,yp⟩:=y;simp only [] at c0' yo MT;cases ye with
                  | nil=>exact absurd rfl yo.1
                  | cons yx ys =>
                  cases hEE:E with
                  | nil=>exact absurd hEE HE.o
                  | cons ex es =>
                  have y1:=Vf yx ys (yo.2 yx (List.mem_cons_self ..));have y2:=Vf ex es ((hEE ▸ BE.o:Byt (ex :: es)) ex (List.mem_cons_self ..));have z1 : 0 < (strOfNums (yx :: ys)).size:=by rw [strOfNums_size];simp
                  have z2 : 0 < (strOfNums (ex :: es)).size:=by rw [strOfNums_size];simp
                  have HEE:=Lv hEE;simp only [] at q0;rw [hEE] at q0;obtain ⟨S1',hS1⟩:∃ z,z=strOfNums (yx :: ys):=⟨_,rfl⟩
                  obtain ⟨S2',hS2⟩:∃ z,z=strOfNums (ex :: es):=⟨_,rfl⟩
                  rw [← hS1] at c0' y1 z1;rw [← hS2] at q0 y2 z2;have b1:=get_bt S1';have b2:=get_bt S2';have BQ:=Lv (show ((yx :: ys).getD 0 0 == E.getD 0 0)=(bt S1' 0 == bt S2' 0) by rw [y1,y2,hEE];rfl);obtain ⟨bq,hbq⟩:∃ z,z=(bt S1' 0 == bt S2' 0):=⟨_,rfl⟩
                  rw [← hbq] at BQ;have hbq':=hbq.symm;clear hEE c0 c1 hy hy2 yo y1 y2 hS1 hS2 hbq hjl;cases bq with
                  | true =>
                   have NN0:=Lv (NONE.o [] (p5,true) (CO2.o _ _ (Sim.B ST.o (Sim.B SU.o (by rw [if_pos (.inr (MT.o BQ.o))];exact Sim.F _ (Nat.le_refl _) rfl)))) rfl);have NN:=Lv (show ndAt xs p=none from Jd NN0.o);have FN:=Lv (fun n=>(Ti.o.same (Qj (Qq wr none) n)).fin NN.o);obtain ⟨d0,d1,d2,d3,d4,d5,d6,d7,d8⟩:=Ti.o.res.c;have df:=Ti.o.res.fz
                   have dl:=Ti.o.res.lt;go_wp2;go_quiet (fail);go_wp2;refine bodyPost_ret (Qa rfl rfl rfl (FN.o _).1) rfl ?_
                   exact (FN.o _).2
                  | false =>
                   go_wp2;go_quiet (fail);go_wp2;go_roundw
                   case rel =>
                    rw [← HEE.o];refine ⟨j + 1,by omega,by go_num,Ti.o.same (Qj (Qq _ _) _),Ki.o.kept (r:=none) (Qj (Qq _ _) _) (by simp),fun i y hi hy=>?_⟩;rcases Nat.lt_or_ge i j with h | h
                    ·exact NO.o i y h hy
                    ·obtain rfl:i=j:=by omega
                     rw [HY.o] at hy;injection hy with hy;rw [← hy];exact BQ.o
                   case measure=>simp [intOf];omega
                 ·have NM:=Lv (Mw L E j NO.o (by omega))
                  have dj:decide ((j:Int) < (L.length:Int))=false:=by simp;omega
                  have dj2:decide (j < L.length)=false:=by simp;omega
                  have gn:=grown1 wr (.cells #[.string (strOfNums E),.int .i64 P] 156);have T12:=Lv (Ti.o.same gn);have N12:=Lv (heap_alloc_new wr (.cells #[.string (strOfNums E),.int .i64 P] 156));have SZ:=Lv (show w.heap.size≤wr.heap.size from Ti.o.grown.size);clear hjl gn;go_wp2_with (at_builtin;refine Zv Mj rfl _ _ rfl _ L.length _ rfl T12.o.own [.string (strOfNums E),.int .i64 P] rfl wr.heap.size rfl N12.o (Gc (E,P)) (by have:=HL.o;omega) (by decide) ?_ ?_)
                  ·have:=SZ.o;(try rw [World.size_alloc]);omega
                  intro v' wz ho hg3;obtain ⟨q',c',rfl⟩:=Qp ho;have nd3:=T12.o.nod.kept hg3 (Zb T12.o.own T12.o.nod (by decide));have c8:=nd3.c.2.2.2.2.2.2.2.2;have cf:=nd3.fz;have cl:=nd3.lt;have T13:=Lv (T12.o.more (E,P) ⟨HE.o,BE.o⟩ (by rw [RK.o];exact ho) hg3);clear nd3 ho hg3 m8 ml q0 q1 ql;go_wp2;go_roundw
                  case rel=>exact ⟨k + 1,L ++ [(E,P)],_,p5,hlt,by go_num,by rw [List.length_append,HL.o];rfl,T13.o,Lv (fun r s' h=>CO2.o r s' (Sim.B ST.o (Sim.B SU.o (by rw [if_neg (fun h=>h.elim HE.o (fun h=>by rw [NM.o] at h;cases h))];exact h))))⟩
                  case measure=>simp [intOf];omega
            ·have dP:decide (P < (xs.length:Int))=false:=decide_eq_false hPn
             have RK:=Lv (show rkid xs.length (E,P)=(E,-1) by unfold rkid;rw [if_neg hPn]);have Td:=Tc;have Kd:=Kc;go_upto_region 24 with fail;clear kf kl k1 Tc Kc hPn bu0 bu1 dP;have i2:=Td.o.rd.c2;have q0:=Kd.o.c0;have q1:=Kd.o.c1;have ql:=Kd.o.lt;obtain ⟨p5,bad5⟩:=s5;simp only [] at i2 LE;cases bad5 with
             | true =>
               have NN0:=Lv (NONE.o [] (p5,true) (CO2.o _ _ (Sim.B ST.o (Sim.B SU.o (Sim.bad (Nat.le_refl _) rfl (fun h=>by cases h))))) rfl);have NN:=Lv (show ndAt xs p=none from Jd (NN0.o));have FN:=Lv (Td.o.fin NN.o);obtain ⟨d0,d1,d2,d3,d4,d5,d6,d7,d8⟩:=Td.o.res.c;have df:=Td.o.res.fz;have dl:=Td.o.res.lt;go_wp2_with fail;refine bodyPost_ret (Qa rfl rfl rfl FN.o.1) rfl ?_
               exact FN.o.2
             | false =>
               by_cases hE:E=[]
               ·have he:(strOfNums E).toList.isEmpty=true:=by rw [hE,Lib.strOfNums_toList];rfl
                have NN0:=Lv (NONE.o [] (p5,true) (CO2.o _ _ (Sim.B ST.o (Sim.B SU.o (by rw [if_pos (.inl hE)];exact Sim.F _ (Nat.le_refl _) rfl)))) rfl);clear hE;have NN:=Lv (show ndAt xs p=none from Jd (NN0.o));have FN:=Lv (Td.o.fin NN.o);obtain ⟨d0,d1,d2,d3,d4,d5,d6,d7,d8⟩:=Td.o.res.c;have df:=Td.o.res.fz;have dl:=Td.o.res.lt;go_wp2_with fail;refine bodyPost_ret (Qa rfl rfl rfl FN.o.1) rfl ?_
                exact FN.o.2
               ·have he:(strOfNums E).toList.isEmpty=false:=by
                 rw [Lib.strOfNums_toList];cases E with
                 | nil=>exact absurd rfl hE
                 | cons=>rfl
                have HE:=Lv hE;obtain ⟨m0,m1,m2,m3,m4,m5,m6,m7,m8⟩:=Td.o.nod.c;have ml:=Td.o.nod.lt;clear hE m0 m1 m2 m3 m4 m5 m6 m7;go_wp2_with fail;go_loopw [15] (fun jj wi=>∃ (j:Nat),j≤L.length∧jj=.int .i64 j∧RrI w wi gc b o c xs (p5,false) g0 gx (some x) L (.slice q L.length cq)∧J3 wi gk (E,(-1))∧∀ i y,i < j→L[i]?=some y→(y.1.getD 0 0 == E.getD 0 0)=false) (fun jj _=>L.length - (intOf jj).toNat)
                case atStart=>exact ⟨0,Nat.zero_le _,rfl,Td.o,Kd.o,fun i y h=>by omega⟩
                case round =>
                 obtain ⟨j,hj,rfl,hTi,hKi,hno⟩:=hrel;have Ti:=Lv hTi;have Ki:=Lv hKi;have NO:=Lv hno;obtain ⟨m0,m1,m2,m3,m4,m5,m6,m7,m8⟩:=hTi.nod.c;have ml:=hTi.nod.lt;have q0:=hKi.c0;have q1:=hKi.c1;have ql:=hKi.lt;clear hTi hKi hno m0 m1 m2 m3 m4 m5 m6 m7 i2;have hLk:L.length < 256:=by have:=HL.o;omega
                 have hLc:=Wj Ti.o.own;have hLm:=Mz Ti.o.own;by_cases hjl:j < L.length
                 ·obtain ⟨y,hy⟩:∃ y,L[j]?=some y:=⟨_,List.getElem?_eq_getElem hjl⟩
                  have hy2:(L.map (rkid xs.length))[j]?=some (rkid xs.length y):=by rw [List.getElem?_map,hy];rfl
                  obtain ⟨gq,rfl,c0,c1⟩:=Ba.of Ti.o.own j _ hy2;have yo:=Ti.o.each y (List.mem_of_getElem? hy);have HY:=Lv hy;have dj:decide ((j:Int) < (L.length:Int))=true:=by simp;omega
                  have dj2:decide (j < L.length)=true:=by simp;omega
                  have hjli:(j:Int) < (L.length:Int):=by omega
                  have c0':wr.cell? ⟨gq,j * 2,none⟩=some (.string (strOfNums y.1)):=c0
                  have MT:=Lv (fun (h:(y.1.getD 0 0 == E.getD 0 0)=true)=>(show meets E L=true by
                   unfold meets;rw [List.any_eq_true];exact ⟨y,List.mem_of_getElem? hy,h⟩))
                  obtain ⟨ye,yp⟩:=y;simp only [] at c0' yo MT;cases ye with
                  | nil=>exact absurd rfl yo.1
                  | cons yx ys =>
                  cases hEE:E with
                  | nil=>exact absurd hEE HE.o
                  | cons ex es =>
                  have y1:=Vf yx ys (yo.2 yx (List.mem_cons_self ..));have y2:=Vf ex es ((hEE ▸ BE.o:Byt (ex :: es)) ex (List.mem_cons_self ..));have z1 : 0 < (strOfNums (yx :: ys)).size:=by rw [strOfNums_size];simp
                  have z2 : 0 < (strOfNums (ex :: es)).size:=by rw [strOfNums_size];simp
                  have HEE:=Lv hEE;simp only [] at q0;rw [hEE] at q0;obtain ⟨S1',hS1⟩:∃ z,z=strOfNums (yx :: ys):=⟨_,rfl⟩
                  obtain ⟨S2',hS2⟩:∃ z,z=strOfNums (ex :: es):=⟨_,rfl⟩
                  rw [← hS1] at c0' y1 z1;rw [← hS2] at q0 y2 z2;have b1:=get_bt S1';have b2:=get_bt S2';have BQ:=Lv (show ((yx :: ys).getD 0 0 == E.getD 0 0)=(bt S1' 0 == bt S2' 0) by rw [y1,y2,hEE];rfl);obtain ⟨bq,hbq⟩:∃ z,z=(bt S1' 0 == bt S2' 0):=⟨_,rfl⟩
                  rw [← hbq] at BQ;have hbq':=hbq.symm;clear hEE c0 c1 hy hy2 yo y1 y2 hS1 hS2 hbq hjl;cases bq with
                  | true =>
                   have NN0:=Lv (NONE.o [] (p5,true) (CO2.o _ _ (Sim.B ST.o (Sim.B SU.o (by rw [if_pos (.inr (MT.o BQ.o))];exact Sim.F _ (Nat.le_refl _) rfl)))) rfl);have NN:=Lv (show ndAt xs p=none from Jd NN0.o);have FN:=Lv (fun n=>(Ti.o.same (Qj (Qq wr none) n)).fin NN.o);obtain ⟨d0,d1,d2,d3,d4,d5,d6,d7,d8⟩:=Ti.o.res.c;have df:=Ti.o.res.fz
                   have dl:=Ti.o.res.lt;go_wp2;go_quiet (fail);go_wp2;refine bodyPost_ret (Qa rfl rfl rfl (FN.o _).1) rfl ?_
                   exact (FN.o _).2
                  | false =>
                   go_wp2;go_quiet (fail);go_wp2;go_roundw
                   case rel =>
                    rw [← HEE.o];refine ⟨j + 1,by omega,by go_num,Ti.o.same (Qj (Qq _ _) _),Ki.o.kept (r:=none) (Qj (Qq _ _) _) (by simp),fun i y hi hy=>?_⟩;rcases Nat.lt_or_ge i j with h | h
                    ·exact NO.o i y h hy
                    ·obtain rfl:i=j:=by omega
                     rw [HY.o] at hy;injection hy with hy;rw [← hy];exact BQ.o
                   case measure=>simp [intOf];omega
                 ·have NM:=Lv (Mw L E j NO.o (by omega))
                  have dj:decide ((j:Int) < (L.length:Int))=false:=by simp;omega
                  have dj2:decide (j < L.length)=false:=by simp;omega
                  have gn:=grown1 wr (.cells #[.string (strOfNums E),.int .i64 (-1)] 156);have T12:=Lv (Ti.o.same gn);have N12:=Lv (heap_alloc_new wr (.cells #[.string (strOfNums E),.int .i64 (-1)] 156));have SZ:=Lv (show w.heap.size≤wr.heap.size from Ti.o.grown.size);clear hjl gn;go_wp2_with (at_builtin;refine Zv Mj rfl _ _ rfl _ L.length _ rfl T12.o.own [.string (strOfNums E),.int .i64 (-1)] rfl wr.heap.size rfl N12.o (Gc (E,(-1))) (by have:=HL.o;omega) (by decide) ?_ ?_)
                  ·have:=SZ.o;(try rw [World.size_alloc]);omega
                  intro v' wz ho hg3;obtain ⟨q',c',rfl⟩:=Qp ho;have nd3:=T12.o.nod.kept hg3 (Zb T12.o.own T12.o.nod (by decide));have c8:=nd3.c.2.2.2.2.2.2.2.2;have cf:=nd3.fz;have cl:=nd3.lt;have T13:=Lv (T12.o.more (E,P) ⟨HE.o,BE.o⟩ (by rw [RK.o];exact ho) hg3);clear nd3 ho hg3 m8 ml q0 q1 ql;go_wp2;go_roundw
                  case rel=>exact ⟨k + 1,L ++ [(E,P)],_,p5,hlt,by go_num,by rw [List.length_append,HL.o];rfl,T13.o,Lv (fun r s' h=>CO2.o r s' (Sim.B ST.o (Sim.B SU.o (by rw [if_neg (fun h=>h.elim HE.o (fun h=>by rw [NM.o] at h;cases h))];exact h))))⟩
                  case measure=>simp [intOf];omega
          · have hkM:k=M:=by omega
            have CO3:=Lv (show ∀ r s',Sim (Js 0 L) xs (sk,false) r s'→Sim (Js M []) xs (pQ + 1,false) r s' by rw [show 0=M - k by omega];exact CO.o);have dkM:decide ((k:Int) < (M:Int))=false:=by simp;omega
            have dkM2:decide (k < M)=false:=by simp;omega
            have YES:=Lv (show ndAt xs p=some ⟨(some x),L⟩ from by
             have SX:Sim Ko xs (p,false) (⟨(some x),L⟩:Nd) (sk,false):=Sim.B S0.o (Sim.B S1.o (Sim.B S2.o (Sim.B (CO3.o L _ (Sim.R _ _)) (Sim.R _ _))));exact Rq hp (SX.ok rfl).2)
            clear CO hlt;have TF:=Lv T.o;obtain ⟨m0,m1,m2,m3,m4,m5,m6,m7,m8⟩:=T.o.nod.c;obtain ⟨d0,d1,d2,d3,d4,d5,d6,d7,d8⟩:=T.o.res.c;have df:=T.o.res.fz;have dl:=T.o.res.lt;have ml:=T.o.nod.lt;simp only [Option.isSome,exOf] at m0 m1 m2 m3 m4 m5 m6 m7;go_wp2_with fail;refine bodyPost_ret (Qa rfl rfl rfl (TF.o.res.put true ⟨#[]⟩ x (.slice q L.length cq))) rfl ?_
            have GP:=fun W:World=>Jx (Qq W (some g0)) (.bool true) (.string ⟨#[]⟩) (.int .i64 (x:Ex).kind) (.bool (x:Ex).weak) (.int .u64 (x:Ex).value) (.int .u64 (x:Ex).resolver) (.int .u64 (x:Ex).ordinal) (.string (strOfNums (x:Ex).other)) (.slice q L.length cq);exact ⟨.inl ⟨⟨(some x),L⟩,.slice q L.length cq,YES.o,rfl,TF.o.own.kept (GP _) (.inr (Zb TF.o.own TF.o.res (by decide)))⟩,Qw TF.o.grown (GP _) TF.o.new0⟩
   ·obtain rfl:Z=0:=by omega
    have dzp:decide ((0:Int) < ((0:Nat):Int))=false:=rfl;have S1:=Lv (show Sim (exP ((0:Nat):Int)) xs (p1,false) none (p1,false) from Sim.R _ _);have TA:=T4;go_upto_region 13 with fail;clear hz0 dz hu i0 i1 i2 iz hZn;have j0:=TA.o.rd.c0;have j1:=TA.o.rd.c1;simp only [] at j1;have hp1l:=TA.o.rd.le;simp only [] at hp1l;by_cases hend:p1=xs.length
    · have dq:((p1:Int) == (xs.length:Int))=true:=by rw [hend];simp
      have NN0:=Lv (show Ko (xs.drop p)=none by
       refine Bm (s:=(p,false)) (Sim.B S0.o (Sim.B S1.o (Sim.B (Sim.bad (s:=(p1,false)) (s1:=(p1,true)) (v:=0) (Nat.le_refl _) rfl (fun _=>by rw [hend,List.drop_length];rfl)) (Sim.bad (v:=(⟨none,[]⟩:Nd)) (Nat.le_refl _) rfl (fun h=>by cases h))))) rfl rfl)
      clear hend;have NN:=Lv (show ndAt xs p=none from Jd (NN0.o));have FN:=Lv (TA.o.fin NN.o);obtain ⟨d0,d1,d2,d3,d4,d5,d6,d7,d8⟩:=TA.o.res.c;have df:=TA.o.res.fz;have dl:=TA.o.res.lt;go_wp2_with fail;refine bodyPost_ret (Qa rfl rfl rfl FN.o.1) rfl ?_
      exact FN.o.2
    · have dq:((p1:Int) == (xs.length:Int))=false:=by rw [beq_eq_false_iff_ne];omega
      have hp1n:p1 < xs.length:=by omega
      have jb:=TA.o.rd.cell p1 hp1n;have hM:=HR.o (xs.getD p1 0) (by simp [List.getD,hp1n,List.getElem_mem]);have S2:=Lv (show Sim byP xs (p1,false) (xs.getD p1 0) (p1 + 1,false) from
       ⟨Nat.le_succ _,fun _=>⟨rfl,by rw [List.drop_eq_getElem_cons hp1n];simp only [byP,Option.some.injEq,Prod.mk.injEq];exact ⟨by simp [hp1n],by omega⟩⟩,fun _ h=>by cases h⟩)
      obtain ⟨M,hMM⟩:∃ M:Nat,(M:Int)=xs.getD p1 0:=⟨(xs.getD p1 0).toNat,by omega⟩
      rw [← hMM] at jb hM S2;clear hMM hend;have jf:=TA.o.rd.f 1;have jl:=TA.o.rd.lt;have T8:=Lv (TA.o.call (s':=(p1 + 1,false)) (w':=w4.setCell ⟨gc,1,none⟩ (.int .i64 ((p1 + 1:Nat):Int))) (by
       refine TA.o.rd.set (s':=(p1 + 1,false)) (Qx (Qq _ _) _) ?_ hp1n
       rw [heap_setCell_same _ gc 1 _ _ _ TA.o.rd.blk];rfl) (Qx (Qq _ _) _))
      rw [show ((p1 + 1:Nat):Int)=(p1:Int) + 1 by omega] at T8;have mM:M < 256:=by omega
      go_upto_region 17 with fail;obtain ⟨w8,hw8⟩:∃ w8,w4.setCell ⟨gc,1,none⟩ (.int .i64 ((p1:Int) + 1))=w8:=⟨_,rfl⟩
      rw [hw8] at T8 ⊢;clear hw8 j0 j1 jb jf jl TA hM;have NONE:=Lv (fun (r:List Kid) (s':Cs) (h:Sim (Js M []) xs (p1 + 1,false) r s') (hb:s'.2=true)=>(show Ko (xs.drop p)=none from
       Bm (s:=(p,false)) (Sim.B S0.o (Sim.B S1.o (Sim.B S2.o (Sim.B h (Sim.bad (v:=(⟨none,[]⟩:Nd)) (Nat.le_refl _) hb (fun h=>by rw [hb] at h;cases h)))))) rfl hb))
      go_wp2_with fail;go_loopw [12] (fun i wr=>∃ (k:Nat) (L:List Kid) (v:Value) (sk:Nat),k≤M∧i=.int .i64 k∧L.length=k∧RrI w wr gc b o c xs (sk,false) g0 gx none L v∧Hid (∀ r s',Sim (Js (M - k) L) xs (sk,false) r s'→Sim (Js M []) xs (p1 + 1,false) r s')) (fun i _=>M - (intOf i).toNat)
      case atStart=>exact ⟨0,[],_,p1 + 1,Nat.zero_le _,rfl,rfl,T8.o,Lv (fun r s' h=>h)⟩
      case round =>
       obtain ⟨k,L,v,sk,hk,rfl,hl,hT,CO⟩:=hrel;obtain ⟨q,cq,rfl⟩:=Qp hT.own;have T:=Lv hT;have HL:=Lv hl;clear hT hl T8;by_cases hlt:k < M
       ·have ST:=Lv (Tu xs (sk,false))
        have CO2:=Lv (show ∀ r s',Sim (Js (M - (k + 1) + 1) L) xs (sk,false) r s'→Sim (Js M []) xs (p1 + 1,false) r s' by rw [show M - (k + 1) + 1=M - k by omega];exact CO.o);have dkM:decide ((k:Int) < (M:Int))=true:=by simp;omega
        have dkM2:decide (k < M)=true:=by simp;omega
        clear CO;go_wp2_with fail;refine (Wm T.o.rd).mono ?_
        rintro e wa ⟨rfl,hp,hg⟩;have Ta:=Lv (T.o.call hp hg);clear hp hg T;obtain ⟨E,hE⟩:∃ z,z=(txR xs (sk,false)).1:=⟨_,rfl⟩
        obtain ⟨s4,hs4⟩:∃ z,z=(txR xs (sk,false)).2:=⟨_,rfl⟩
        have BE:=Lv (show Byt E by
          rw [hE];unfold txR
          split
          · exact (HR.o.drop _).pre
          · intro x hx;cases hx)
        rw [← hE,← hs4] at ST;rw [← hs4] at Ta;rw [← hE];clear hE hs4;have gb:=grown1 wa (.cells #[.string (strOfNums E),.int .i64 (-1)] 156);have kb:J3 (wa.alloc (.cells #[.string (strOfNums E),.int .i64 (-1)] 156)) wa.heap.size (E,-1):=heap_alloc_new wa _;have Tb:=Lv (Ta.o.same gb);have Kb:=Lv kb;have LK:=Lv (And.intro (show w.heap.size≤wa.heap.size from Ta.o.grown.size) (And.intro Ta.o.rd.lt (And.intro Ta.o.res.lt (And.intro Ta.o.nod.lt (fun g (e:(Value.slice q L.length cq).ownBlock=some g)=>((Ta.o.own.lt g e).2:g < wa.heap.size))))))
        obtain ⟨wb,hwb⟩:∃ wb,wa.alloc (.cells #[.string (strOfNums E),.int .i64 (-1)] 156)=wb:=⟨_,rfl⟩
        obtain ⟨gk,hgk⟩:∃ gk,wa.heap.size=gk:=⟨_,rfl⟩
        rw [hwb] at Tb Kb;rw [hgk] at Kb LK;have HWb:=Lv hwb;have HGK:=Lv hgk;clear gb kb hwb hgk Ta;go_upto_region 21 with fail;rw [HWb.o,HGK.o];clear HWb HGK;have SU:=Lv (Kh xs s4);have BU:=Lv (Pk (xs:=xs) (s:=s4));go_wp2_with fail;refine (Z8 Tb.o.rd).mono ?_
        rintro e wc ⟨rfl,hp,hg⟩;have Tc:=Lv (Tb.o.call hp hg);have kc:=Kb.o.kept hg (by intro e;injection e with e;have:=LK.o.2.1;omega);have Kc:=Lv kc;have kf:=kc.fz;have kl:=kc.lt;have k1:=kc.c1;clear hp hg Tb Kb kc;obtain ⟨P,hP⟩:∃ z,z=(ulR xs s4).1:=⟨_,rfl⟩
        obtain ⟨s5,hs5⟩:∃ z,z=(ulR xs s4).2:=⟨_,rfl⟩
        rw [← hP,← hs5] at SU;rw [← hP] at BU;rw [← hs5] at Tc;rw [← hP];clear hP hs5;have LE:=Lv SU.o.le;have bu0:=BU.o.1;have bu1:=BU.o.2;by_cases hPn:P < (xs.length:Int)
        · have dP:decide (P < (xs.length:Int))=true:=decide_eq_true hPn
          have RK:=Lv (show rkid xs.length (E,P)=(E,P) by unfold rkid;rw [if_pos hPn]);have hwP:IntKind.i64.wrap P=P:=IntWalk.i64_in _ (by omega);have gz:=Qx (i:=1) (Qq wc (some gk)) (.int .i64 P);have Td:=Lv (Tc.o.mine gz LK.o.1 (by have:=LK.o.2.1;omega) (by have:=LK.o.2.2.1;omega) (by have:=LK.o.2.2.2.1;omega) (by intro e;have:=LK.o.2.2.2.2 gk e;omega));have Kd:=Lv (Kc.o.place P)
          go_upto_region 24 with fail;obtain ⟨wd,hwd⟩:∃ wd,wc.setCell ⟨gk,1,none⟩ (.int .i64 P)=wd:=⟨_,rfl⟩
          rw [hwd] at Td Kd
          (try rw [hwd])
          clear hwd gz kf kl k1 Tc Kc hPn bu0 bu1 hwP dP;have i2:=Td.o.rd.c2;have q0:=Kd.o.c0;have q1:=Kd.o.c1;have ql:=Kd.o.lt;obtain ⟨p5,bad5⟩:=s5;simp only [] at i2 LE;cases bad5 with
          | true =>
            have NN0:=Lv (NONE.o [] (p5,true) (CO2.o _ _ (Sim.B ST.o (Sim.B SU.o (Sim.bad (Nat.le_refl _) rfl (fun h=>by cases h))))) rfl);have NN:=Lv (show ndAt xs p=none from Jd (NN0.o));have FN:=Lv (Td.o.fin NN.o);obtain ⟨d0,d1,d2,d3,d4,d5,d6,d7,d8⟩:=Td.o.res.c;have df:=Td.o.res.fz;have dl:=Td.o.res.lt;go_wp2_with fail;refine bodyPost_ret (Qa rfl rfl rfl FN.o.1) rfl ?_
            exact FN.o.2
          | false =>
            by_cases hE:E=[]
            ·have he:(strOfNums E).toList.isEmpty=true:=by rw [hE,Lib.strOfNums_toList];rfl
             have NN0:=Lv (NONE.o [] (p5,true) (CO2.o _ _ (Sim.B ST.o (Sim.B SU.o (by rw [if_pos (.inl hE)];exact Sim.F _ (Nat.le_refl _) rfl)))) rfl);clear hE;have NN:=Lv (show ndAt xs p=none from Jd (NN0.o));have FN:=Lv (Td.o.fin NN.o);obtain ⟨d0,d1,d2,d3,d4,d5,d6,d7,d8⟩:=Td.o.res.c;have df:=Td.o.res.fz;have dl:=Td.o.res.lt;go_wp2_with fail;refine bodyPost_ret (Qa rfl rfl rfl FN.o.1) rfl ?_
             exact FN.o.2
            ·have he:(strOfNums E).toList.isEmpty=false:=by
               rw [Lib.strOfNums_toList];cases E with
               | nil=>exact absurd rfl hE
               | cons=>rfl
             have HE:=Lv hE;obtain ⟨m0,m1,m2,m3,m4,m5,m6,m7,m8⟩:=Td.o.nod.c;have ml:=Td.o.nod.lt;clear hE m0 m1 m2 m3 m4 m5 m6 m7;go_wp2_with fail;go_loopw [15] (fun jj wi=>∃ (j:Nat),j≤L.length∧jj=.int .i64 j∧RrI w wi gc b o c xs (p5,false) g0 gx none L (.slice q L.length cq)∧J3 wi gk (E,P)∧∀ i y,i < j→L[i]?=some y→(y.1.getD 0 0 == E.getD 0 0)=false) (fun jj _=>L.length - (intOf jj).toNat)
             case atStart=>exact ⟨0,Nat.zero_le _,rfl,Td.o,Kd.o,fun i y h=>by omega⟩
             case round =>
               obtain ⟨j,hj,rfl,hTi,hKi,hno⟩:=hrel;have Ti:=Lv hTi;have Ki:=Lv hKi;have NO:=Lv hno;obtain ⟨m0,m1,m2,m3,m4,m5,m6,m7,m8⟩:=hTi.nod.c;have ml:=hTi.nod.lt;have q0:=hKi.c0;have q1:=hKi.c1;have ql:=hKi.lt;clear hTi hKi hno m0 m1 m2 m3 m4 m5 m6 m7 i2;have hLk:L.length < 256:=by have:=HL.o;omega
               have hLc:=Wj Ti.o.own;have hLm:=Mz Ti.o.own;by_cases hjl:j < L.length
               ·obtain ⟨y,hy⟩:∃ y,L[j]?=some y:=⟨_,List.getElem?_eq_getElem hjl⟩
                have hy2:(L.map (rkid xs.length))[j]?=some (rkid xs.length y):=by rw [List.getElem?_map,hy];rfl
                obtain ⟨gq,rfl,c0,c1⟩:=Ba.of Ti.o.own j _ hy2;have yo:=Ti.o.each y (List.mem_of_getElem? hy);have HY:=Lv hy;have dj:decide ((j:Int) < (L.length:Int))=true:=by simp;omega
                have dj2:decide (j < L.length)=true:=by simp;omega
                have hjli:(j:Int) < (L.length:Int):=by omega
                have c0':wr.cell? ⟨gq,j * 2,none⟩=some (.string (strOfNums y.1)):=c0
                have MT:=Lv (fun (h:(y.1.getD 0 0 == E.getD 0 0)=true)=>(show meets E L=true by
                 unfold meets;rw [List.any_eq_true];exact ⟨y,List.mem_of_getElem? hy,h⟩))
                obtain ⟨ye,yp⟩:=y;simp only [] at c0' yo MT;cases ye with
                | nil=>exact absurd rfl yo.1
                | cons yx ys =>
                cases hEE:E with
                | nil=>exact absurd hEE HE.o
                | cons ex es =>
                have y1:=Vf yx ys (yo.2 yx (List.mem_cons_self ..));have y2:=Vf ex es ((hEE ▸ BE.o:Byt (ex :: es)) ex (List.mem_cons_self ..));have z1 : 0 < (strOfNums (yx :: ys)).size:=by rw [strOfNums_size];simp
                have z2 : 0 < (strOfNums (ex :: es)).size:=by rw [strOfNums_size];simp
                have HEE:=Lv hEE;simp only [] at q0;rw [hEE] at q0;obtain ⟨S1',hS1⟩:∃ z,z=strOfNums (yx :: ys):=⟨_,rfl⟩
                obtain ⟨S2',hS2⟩:∃ z,z=strOfNums (ex :: es):=⟨_,rfl⟩
                rw [← hS1] at c0' y1 z1;rw [← hS2] at q0 y2 z2;have b1:=get_bt S1';have b2:=get_bt S2';have BQ:=Lv (show ((yx :: ys).getD 0 0 == E.getD 0 0)=(bt S1' 0 == bt S2' 0) by rw [y1,y2,hEE];rfl);obtain ⟨bq,hbq⟩:∃ z,z=(bt S1' 0 == bt S2' 0):=⟨_,rfl⟩
                rw [← hbq] at BQ;have hbq':=hbq.symm;clear hEE c0 c1 hy hy2 yo y1 y2 hS1 hS2 hbq hjl;cases bq with
                | true =>
                 have NN0:=Lv (NONE.o [] (p5,true) (CO2.o _ _ (Sim.B ST.o (Sim.B SU.o (by rw [if_pos (.inr (MT.o BQ.o))];exact Sim.F _ (Nat.le_refl _) rfl)))) rfl);have NN:=Lv (show ndAt xs p=none from Jd NN0.o);have FN:=Lv (fun n=>(Ti.o.same (Qj (Qq wr none) n)).fin NN.o);obtain ⟨d0,d1,d2,d3,d4,d5,d6,d7,d8⟩:=Ti.o.res.c;have df:=Ti.o.res.fz
                 have dl:=Ti.o.res.lt;go_wp2;go_quiet (fail);go_wp2;refine bodyPost_ret (Qa rfl rfl rfl (FN.o _).1) rfl ?_
                 exact (FN.o _).2
                | false =>
                 go_wp2;go_quiet (fail);go_wp2;go_roundw
                 case rel =>
                  rw [← HEE.o];refine ⟨j + 1,by omega,by go_num,Ti.o.same (Qj (Qq _ _) _),Ki.o.kept (r:=none) (Qj (Qq _ _) _) (by simp),fun i y hi hy=>?_⟩;rcases Nat.lt_or_ge i j with h | h
                  ·exact NO.o i y h hy
                  ·obtain rfl:i=j:=by omega
                   rw [HY.o] at hy;injection hy with hy;rw [← hy];exact BQ.o
                 case measure=>simp [intOf];omega
               ·have NM:=Lv (Mw L E j NO.o (by omega))
                have dj:decide ((j:Int) < (L.length:Int))=false:=by simp;omega
                have dj2:decide (j < L.length)=false:=by simp;omega
                have gn:=grown1 wr (.cells #[.string (strOfNums E),.int .i64 P] 156);have T12:=Lv (Ti.o.same gn);have N12:=Lv (heap_alloc_new wr (.cells #[.string (strOfNums E),.int .i64 P] 156));have SZ:=Lv (show w.heap.size≤wr.heap.size from Ti.o.grown.size);clear hjl gn;go_wp2_with (at_builtin;refine Zv Mj rfl _ _ rfl _ L.length _ rfl T12.o.own [.string (strOfNums E),.int .i64 P] rfl wr.heap.size rfl N12.o (Gc (E,P)) (by have:=HL.o;omega) (by decide) ?_ ?_)
                ·have:=SZ.o;(try rw [World.size_alloc]);omega
                intro v' wz ho hg3;obtain ⟨q',c',rfl⟩:=Qp ho;have nd3:=T12.o.nod.kept hg3 (Zb T12.o.own T12.o.nod (by decide));have c8:=nd3.c.2.2.2.2.2.2.2.2;have cf:=nd3.fz;have cl:=nd3.lt;have T13:=Lv (T12.o.more (E,P) ⟨HE.o,BE.o⟩ (by rw [RK.o];exact ho) hg3);clear nd3 ho hg3 m8 ml q0 q1 ql;go_wp2;go_roundw
                case rel=>exact ⟨k + 1,L ++ [(E,P)],_,p5,hlt,by go_num,by rw [List.length_append,HL.o];rfl,T13.o,Lv (fun r s' h=>CO2.o r s' (Sim.B ST.o (Sim.B SU.o (by rw [if_neg (fun h=>h.elim HE.o (fun h=>by rw [NM.o] at h;cases h))];exact h))))⟩
                case measure=>simp [intOf];omega
        · have dP:decide (P < (xs.length:Int))=false:=decide_eq_false hPn
          have RK:=Lv (show rkid xs.length (E,P)=(E,-1) by unfold rkid;rw [if_neg hPn]);have Td:=Tc;have Kd:=Kc;go_upto_region 24 with fail;clear kf kl k1 Tc Kc hPn bu0 bu1 dP;have i2:=Td.o.rd.c2;have q0:=Kd.o.c0;have q1:=Kd.o.c1;have ql:=Kd.o.lt;obtain ⟨p5,bad5⟩:=s5;simp only [] at i2 LE;cases bad5 with
          | true =>
            have NN0:=Lv (NONE.o [] (p5,true) (CO2.o _ _ (Sim.B ST.o (Sim.B SU.o (Sim.bad (Nat.le_refl _) rfl (fun h=>by cases h))))) rfl);have NN:=Lv (show ndAt xs p=none from Jd (NN0.o));have FN:=Lv (Td.o.fin NN.o);obtain ⟨d0,d1,d2,d3,d4,d5,d6,d7,d8⟩:=Td.o.res.c;have df:=Td.o.res.fz;have dl:=Td.o.res.lt;go_wp2_with fail;refine bodyPost_ret (Qa rfl rfl rfl FN.o.1) rfl ?_
            exact FN.o.2
          | false =>
            by_cases hE:E=[]
            ·have he:(strOfNums E).toList.isEmpty=true:=by rw [hE,Lib.strOfNums_toList];rfl
             have NN0:=Lv (NONE.o [] (p5,true) (CO2.o _ _ (Sim.B ST.o (Sim.B SU.o (by rw [if_pos (.inl hE)];exact Sim.F _ (Nat.le_refl _) rfl)))) rfl);clear hE;have NN:=Lv (show ndAt xs p=none from Jd (NN0.o));have FN:=Lv (Td.o.fin NN.o);obtain ⟨d0,d1,d2,d3,d4,d5,d6,d7,d8⟩:=Td.o.res.c;have df:=Td.o.res.fz;have dl:=Td.o.res.lt;go_wp2_with fail;refine bodyPost_ret (Qa rfl rfl rfl FN.o.1) rfl ?_
             exact FN.o.2
            ·have he:(strOfNums E).toList.isEmpty=false:=by
               rw [Lib.strOfNums_toList];cases E with
               | nil=>exact absurd rfl hE
               | cons=>rfl
             have HE:=Lv hE;obtain ⟨m0,m1,m2,m3,m4,m5,m6,m7,m8⟩:=Td.o.nod.c;have ml:=Td.o.nod.lt;clear hE m0 m1 m2 m3 m4 m5 m6 m7;go_wp2_with fail;go_loopw [15] (fun jj wi=>∃ (j:Nat),j≤L.length∧jj=.int .i64 j∧RrI w wi gc b o c xs (p5,false) g0 gx none L (.slice q L.length cq)∧J3 wi gk (E,(-1))∧∀ i y,i < j→L[i]?=some y→(y.1.getD 0 0 == E.getD 0 0)=false) (fun jj _=>L.length - (intOf jj).toNat)
             case atStart=>exact ⟨0,Nat.zero_le _,rfl,Td.o,Kd.o,fun i y h=>by omega⟩
             case round =>
               obtain ⟨j,hj,rfl,hTi,hKi,hno⟩:=hrel;have Ti:=Lv hTi;have Ki:=Lv hKi;have NO:=Lv hno;obtain ⟨m0,m1,m2,m3,m4,m5,m6,m7,m8⟩:=hTi.nod.c;have ml:=hTi.nod.lt;have q0:=hKi.c0;have q1:=hKi.c1;have ql:=hKi.lt;clear hTi hKi hno m0 m1 m2 m3 m4 m5 m6 m7 i2;have hLk:L.length < 256:=by have:=HL.o;omega
               have hLc:=Wj Ti.o.own;have hLm:=Mz Ti.o.own;by_cases hjl:j < L.length
               ·obtain ⟨y,hy⟩:∃ y,L[j]?=some y:=⟨_,List.getElem?_eq_getElem hjl⟩
                have hy2:(L.map (rkid xs.length))[j]?=some (rkid xs.length y):=by rw [List.getElem?_map,hy];rfl
                obtain ⟨gq,rfl,c0,c1⟩:=Ba.of Ti.o.own j _ hy2;have yo:=Ti.o.each y (List.mem_of_getElem? hy);have HY:=Lv hy;have dj:decide ((j:Int) < (L.length:Int))=true:=by simp;omega
                have dj2:decide (j < L.length)=true:=by simp;omega
                have hjli:(j:Int) < (L.length:Int):=by omega
                have c0':wr.cell? ⟨gq,j * 2,none⟩=some (.string (strOfNums y.1)):=c0
                have MT:=Lv (fun (h:(y.1.getD 0 0 == E.getD 0 0)=true)=>(show meets E L=true by
                 unfold meets;rw [List.any_eq_true];exact ⟨y,List.mem_of_getElem? hy,h⟩))
                obtain ⟨ye,yp⟩:=y;simp only [] at c0' yo MT;cases ye with
                | nil=>exact absurd rfl yo.1
                | cons yx ys =>
                cases hEE:E with
                | nil=>exact absurd hEE HE.o
                | cons ex es =>
                have y1:=Vf yx ys (yo.2 yx (List.mem_cons_self ..));have y2:=Vf ex es ((hEE ▸ BE.o:Byt (ex :: es)) ex (List.mem_cons_self ..));have z1 : 0 < (strOfNums (yx :: ys)).size:=by rw [strOfNums_size];simp
                have z2 : 0 < (strOfNums (ex :: es)).size:=by rw [strOfNums_size];simp
                have HEE:=Lv hEE;simp only [] at q0;rw [hEE] at q0;obtain ⟨S1',hS1⟩:∃ z,z=strOfNums (yx :: ys):=⟨_,rfl⟩
                obtain ⟨S2',hS2⟩:∃ z,z=strOfNums (ex :: es):=⟨_,rfl⟩
                rw [← hS1] at c0' y1 z1;rw [← hS2] at q0 y2 z2;have b1:=get_bt S1';have b2:=get_bt S2';have BQ:=Lv (show ((yx :: ys).getD 0 0 == E.getD 0 0)=(bt S1' 0 == bt S2' 0) by rw [y1,y2,hEE];rfl);obtain ⟨bq,hbq⟩:∃ z,z=(bt S1' 0 == bt S2' 0):=⟨_,rfl⟩
                rw [← hbq] at BQ;have hbq':=hbq.symm;clear hEE c0 c1 hy hy2 yo y1 y2 hS1 hS2 hbq hjl;cases bq with
                | true =>
                 have NN0:=Lv (NONE.o [] (p5,true) (CO2.o _ _ (Sim.B ST.o (Sim.B SU.o (by rw [if_pos (.inr (MT.o BQ.o))];exact Sim.F _ (Nat.le_refl _) rfl)))) rfl);have NN:=Lv (show ndAt xs p=none from Jd NN0.o);have FN:=Lv (fun n=>(Ti.o.same (Qj (Qq wr none) n)).fin NN.o);obtain ⟨d0,d1,d2,d3,d4,d5,d6,d7,d8⟩:=Ti.o.res.c;have df:=Ti.o.res.fz
                 have dl:=Ti.o.res.lt;go_wp2;go_quiet (fail);go_wp2;refine bodyPost_ret (Qa rfl rfl rfl (FN.o _).1) rfl ?_
                 exact (FN.o _).2
                | false =>
                 go_wp2;go_quiet (fail);go_wp2;go_roundw
                 case rel =>
                  rw [← HEE.o];refine ⟨j + 1,by omega,by go_num,Ti.o.same (Qj (Qq _ _) _),Ki.o.kept (r:=none) (Qj (Qq _ _) _) (by simp),fun i y hi hy=>?_⟩;rcases Nat.lt_or_ge i j with h | h
                  ·exact NO.o i y h hy
                  ·obtain rfl:i=j:=by omega
                   rw [HY.o] at hy;injection hy with hy;rw [← hy];exact BQ.o
                 case measure=>simp [intOf];omega
               ·have NM:=Lv (Mw L E j NO.o (by omega))
                have dj:decide ((j:Int) < (L.length:Int))=false:=by simp;omega
                have dj2:decide (j < L.length)=false:=by simp;omega
                have gn:=grown1 wr (.cells #[.string (strOfNums E),.int .i64 (-1)] 156);have T12:=Lv (Ti.o.same gn);have N12:=Lv (heap_alloc_new wr (.cells #[.string (strOfNums E),.int .i64 (-1)] 156));have SZ:=Lv (show w.heap.size≤wr.heap.size from Ti.o.grown.size);clear hjl gn;go_wp2_with (at_builtin;refine Zv Mj rfl _ _ rfl _ L.length _ rfl T12.o.own [.string (strOfNums E),.int .i64 (-1)] rfl wr.heap.size rfl N12.o (Gc (E,(-1))) (by have:=HL.o;omega) (by decide) ?_ ?_)
                ·have:=SZ.o;(try rw [World.size_alloc]);omega
                intro v' wz ho hg3;obtain ⟨q',c',rfl⟩:=Qp ho;have nd3:=T12.o.nod.kept hg3 (Zb T12.o.own T12.o.nod (by decide));have c8:=nd3.c.2.2.2.2.2.2.2.2;have cf:=nd3.fz;have cl:=nd3.lt;have T13:=Lv (T12.o.more (E,P) ⟨HE.o,BE.o⟩ (by rw [RK.o];exact ho) hg3);clear nd3 ho hg3 m8 ml q0 q1 ql;go_wp2;go_roundw
                case rel=>exact ⟨k + 1,L ++ [(E,P)],_,p5,hlt,by go_num,by rw [List.length_append,HL.o];rfl,T13.o,Lv (fun r s' h=>CO2.o r s' (Sim.B ST.o (Sim.B SU.o (by rw [if_neg (fun h=>h.elim HE.o (fun h=>by rw [NM.o] at h;cases h))];exact h))))⟩
                case measure=>simp [intOf];omega
       ·have hkM:k=M:=by omega
        have CO3:=Lv (show ∀ r s',Sim (Js 0 L) xs (sk,false) r s'→Sim (Js M []) xs (p1 + 1,false) r s' by rw [show 0=M - k by omega];exact CO.o);have dkM:decide ((k:Int) < (M:Int))=false:=by simp;omega
        have dkM2:decide (k < M)=false:=by simp;omega
        have YES:=Lv (show ndAt xs p=some ⟨none,L⟩ from by
          have SX:Sim Ko xs (p,false) (⟨none,L⟩:Nd) (sk,false):=Sim.B S0.o (Sim.B S1.o (Sim.B S2.o (Sim.B (CO3.o L _ (Sim.R _ _)) (Sim.R _ _))));exact Rq hp (SX.ok rfl).2)
        clear CO hlt;have TF:=Lv T.o;obtain ⟨m0,m1,m2,m3,m4,m5,m6,m7,m8⟩:=T.o.nod.c;obtain ⟨d0,d1,d2,d3,d4,d5,d6,d7,d8⟩:=T.o.res.c;have df:=T.o.res.fz;have dl:=T.o.res.lt;have ml:=T.o.nod.lt;simp only [Option.isSome,exOf] at m0 m1 m2 m3 m4 m5 m6 m7;go_wp2_with fail;refine bodyPost_ret (Qa rfl rfl rfl (TF.o.res.put false ⟨#[]⟩ Ex.zero (.slice q L.length cq))) rfl ?_
        have GP:=fun W:World=>Jx (Qq W (some g0)) (.bool false) (.string ⟨#[]⟩) (.int .i64 (Ex.zero:Ex).kind) (.bool (Ex.zero:Ex).weak) (.int .u64 (Ex.zero:Ex).value) (.int .u64 (Ex.zero:Ex).resolver) (.int .u64 (Ex.zero:Ex).ordinal) (.string (strOfNums (Ex.zero:Ex).other)) (.slice q L.length cq);exact ⟨.inl ⟨⟨none,L⟩,.slice q L.length cq,YES.o,rfl,TF.o.own.kept (GP _) (.inr (Zb TF.o.own TF.o.res (by decide)))⟩,Qw TF.o.grown (GP _) TF.o.new0⟩
end
end Go.Proofs.YtkmbkpoclhbmgaaGreat
