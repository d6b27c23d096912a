/- Parts of the proof, put together: RefSp, Seen, SeenN, SeenSeg, SeenRest. No condition beyond those that each part names. -/
import Derived.Test.YtkmbkpoclhbmgaaGreatPA20
set_option maxRecDepth 20000
set_option maxHeartbeats 6400000
namespace Go.Proofs.YtkmbkpoclhbmgaaGreat
open Go.RowKit
variable {w w' W V:World}
def Bc (w:World) (g:Nat) (l:List (Int × Int)):Prop:=∀ i x,l[i]?=some x→w.cell? ⟨g,i * 2,none⟩=some (.int .u64 x.1)∧w.cell? ⟨g,i * 2 + 1,none⟩=some (.int .u64 x.2)
theorem Bc.of_own {lo n c g:Nat} {l:List (Int × Int)} (h:w.ownsRow lo 46 2 (.slice (some ⟨g,0,none⟩) n c) n (l.flatMap Kj)):Bc w g l:=fun i x hx=>by
 obtain ⟨g1,e1,h1⟩:=Jz spanCs_len h hx (show 0 < 2 by decide);obtain ⟨g2,e2,h2⟩:=Jz spanCs_len h hx (show 1 < 2 by decide);injection e1 with e1;injection e1 with e1;subst e1;injection e2 with e2;injection e2 with e2;subst e2;exact ⟨h1,h2⟩
theorem refSpans_none (ys:List Int) {q:Option Addr} {c n:Nat} (h:Qk w q c ys) (hn:ys.length=n) (hc:n≤c) (hcm:c≤9223372036854775807) (hr:Q3 ys) (hs:¬ Ji ys) (he:Qd ys=2147483688) :
  Calls Tryz.prog 146 #[.slice q n c] w fun e w'=>e=.returned (.tuple #[.slice none 0 0,.int .i64 7])∧w=w':=by
 have CD:=Lv (Y7 (w:=w) ys h hn hc hcm hr hs);rw [he] at CD;clear h hr hs he hn;go_enter Tryz.func146,Tryz.ntmps146;go_wp2_with fail;refine CD.o.mono ?_
 rintro e w1 ⟨rfl,rfl⟩;go_wp2;go_ret2
 exact ⟨rfl,rfl⟩
def Bh (ys:List Int) (k:Nat):List (Int × Int):=(List.range k).map (fun i=>Qb ys (8 + 8 * i) 1)
theorem Bw (ys:List Int) (k:Nat):Bh ys (k + 1)=Bh ys k ++ [Qb ys (8 + 8 * k) 1]:=by unfold Bh;rw [List.range_succ,List.map_append];rfl
structure RefSp (w w':World) (ys:List Int) (e:Ending):Prop where
 out:∃ g c,e=.returned (.tuple #[.slice (some ⟨g,0,none⟩) (Kv ys).length c,.int .i64 0])∧w.heap.size≤g∧g < w'.heap.size∧Bc w' g (Kv ys)
 grown:w.grownBy w' none
theorem Ve (ys:List Int) {q:Option Addr} {c n:Nat} (h:Qk w q c ys) (hn:ys.length=n) (hc:n≤c) (hcm:c≤9223372036854775807) (hr:Q3 ys) (hs:¬ Ji ys) (he:Xq (Qd ys)∨J1 (Qd ys)∨Qd ys=2) :
  Calls Tryz.prog 146 #[.slice q n c] w fun e w'=>RefSp w w' ys e:=by
 have CD:=Lv (Y7 (w:=w) ys h hn hc hcm hr hs);have AT:=Lv (fun (w1:World) (hg:w.grownBy w1 none) (p:Nat) (hp:p + 4≤n)=>(by have:=Zu (w:=w1) ys (h.kept hg (by simp)) hn hc hcm hr p 4 ⟨by decide,by decide⟩ hp;exact this:Calls Tryz.prog 144 #[.slice q n c,.int .i64 p,.int .i64 4] w1 fun e w'=>e=.returned (.int .u64 (Qc ys p 4))∧w1=w'));have hlen:¬ ((ys.length:Int) < Xx (Qd ys)):=fun h=>hs (.inr h)
 have NB:=Lv (Jm hr 12);rw [hn] at hlen;clear h hr hs hn;have key:∀ M,(M=5∧Xq (Qd ys))∨(M=1∧J1 (Qd ys))→Kv ys=Bh ys M:=fun M hM=>by
  rcases hM with ⟨rfl,h⟩ | ⟨rfl,h⟩
  ·unfold Kv;rw [if_pos h];rfl
  ·unfold Kv
   have:¬ Xq (Qd ys):=fun h2=>by rcases h with h | h <;> rcases h2 with h2 | h2 <;> rw [h] at h2 <;> cases h2
   rw [if_neg this,if_pos h];rfl
 have KEY:=Lv key;have K2:=Lv (fun (h:Qd ys=2)=>(show Kv ys=[((Qb ys 8 1).1,(Qb ys 8 1).2 * 16),Qb ys 16 1] by
  unfold Kv;rw [if_neg (by rw [h];unfold Xq;decide),if_neg (by rw [h];unfold J1;decide),if_pos h];simp only [Qb,Int.mul_one]))
 obtain ⟨cm,hcm'⟩:∃ z,z=Qd ys:=⟨_,rfl⟩
 have CE:=Lv hcm';rw [← hcm'] at CD he hlen;clear key hcm';rcases he with (rfl | rfl) | (rfl | rfl) | rfl
 ·have HM:=Lv (show 48≤n by rw [show Xx 34=48 by decide] at hlen;omega)
  have SE:=Lv (KEY.o 5 (.inl ⟨rfl,by rw [← CE.o];unfold Xq;decide⟩));clear KEY K2 hlen CE;go_enter Tryz.func146,Tryz.ntmps146;go_wp2_with fail;refine CD.o.mono ?_
  rintro e w1 ⟨rfl,rfl⟩;clear CD;go_wp2;go_loopw [7,8] (fun l i wr=>∃ (k:Nat) (q':Option Addr) (c':Nat),k≤5∧i=.int .i64 k∧l=.slice q' k c'∧wr.ownsRow w.heap.size 46 2 (.slice q' k c') k ((Bh ys k).flatMap Kj)∧w.grownBy wr none) (fun _ i _=>5 - (intOf i).toNat)
  case atStart=>exact ⟨0,none,0,by omega,rfl,rfl,World.ownsRow_nil _ _ _ _,Qq _ _⟩
  case round =>
   obtain ⟨k,q',c',hk,rfl,rfl,hown,hg⟩:=hrel;have OW:=Lv hown;have G:=Lv hg;clear hown hg;by_cases hlt:k < 5
   ·obtain ⟨A,hA⟩:∃ A,A=8 + 8 * k:=⟨_,rfl⟩
    obtain ⟨B,hB⟩:∃ B,B=8 * k:=⟨_,rfl⟩
    obtain ⟨D,hD⟩:∃ D,D=12 + 8 * k:=⟨_,rfl⟩
    have a1:(8:Int) * (k:Int)=(B:Int):=by omega
    have a2:(8:Int) + (B:Int)=(A:Int):=by omega
    have a3:(12:Int) + (B:Int)=(D:Int):=by omega
    have a4:IntKind.i64.wrap (B:Int)=(B:Int):=IntWalk.i64_in _ (by omega);have a5:IntKind.i64.wrap (A:Int)=(A:Int):=IntWalk.i64_in _ (by omega);have a6:IntKind.i64.wrap (D:Int)=(D:Int):=IntWalk.i64_in _ (by omega);have hx:Qb ys (8 + 8 * k) 1=(Qc ys A 4,Qc ys D 4):=by unfold Qb;rw [hA,hD,show 8 + 8 * k + 4=12 + 8 * k by omega,Int.mul_one]
    have N1:=Lv (AT.o _ G.o A (by have:=HM.o;omega));have N2:=Lv (AT.o _ G.o D (by have:=HM.o;omega));obtain ⟨x1,hx1⟩:∃ z,z=Qc ys A 4:=⟨_,rfl⟩
    obtain ⟨x2,hx2⟩:∃ z,z=Qc ys D 4:=⟨_,rfl⟩
    rw [← hx1] at N1 hx;rw [← hx2] at N2 hx;have HX:=Lv hx;clear hA hB hD hx hx1 hx2;go_wp2_with (first | (go_at_call 144;(first | with_reducible refine N1.o.mono ?_ | with_reducible refine N2.o.mono ?_);rintro e w3 ⟨rfl,rfl⟩) | (at_builtin;refine Zv Ho rfl _ _ rfl _ k _ rfl (Qy OW.o (grown1 wr (.cells #[.int .u64 x1,.int .u64 x2] 46))) (Kj (x1,x2)) rfl wr.heap.size rfl (heap_alloc_new wr _) (Bp _) (by omega) (by decide) ?_ ?_))
    ·exact Nat.le_trans G.o.size (by rw [World.size_alloc];exact Nat.le_succ _)
    intro v' w3 ho hg3;obtain ⟨q3,c3,rfl⟩:=Qp ho;have R3:=Lv (show w3.ownsRow w.heap.size 46 2 (.slice q3 (k + 1) c3) (k + 1) ((Bh ys (k + 1)).flatMap Kj) by
     rw [Bw,List.flatMap_append,HX.o];simpa using ho)
    have hlo:=fun g (e:(Value.slice q' k c').ownBlock=some g)=>(OW.o.lt g e).1;have G4:=Lv (Jc (Qz G.o (grown1 wr (.cells #[.int .u64 x1,.int .u64 x2] 46))) hg3 hlo (Nat.le_refl _));clear ho hg3 N1 N2;go_wp2;refine ⟨⟨k + 1,q3,c3,by omega,by go_num,rfl,R3.o,G4.o⟩,by simp [intOf];omega⟩
   ·have hk2:k=5:=by omega
    subst hk2;obtain ⟨g,hq⟩:∃ g,q'=some ⟨g,0,none⟩:=by
     rcases OW.o.2 with ⟨e,e0⟩ | ⟨g,cap,cur,hv,_⟩
     · cases e0
     · injection hv with e1 _ _;exact ⟨g,e1⟩
    subst hq;have SR:=Lv (Bc.of_own OW.o);have LO:=Lv ((OW.o.lt g rfl).1);have LT:=Lv ((OW.o.lt g rfl).2);go_wp2;go_ret2
    exact ⟨⟨g,c',by rw [SE.o];rfl,LO.o,LT.o,by rw [SE.o];exact SR.o⟩,G.o⟩
 ·have HM:=Lv (show 48≤n by rw [show Xx 2147483682=48 by decide] at hlen;omega)
  have SE:=Lv (KEY.o 5 (.inl ⟨rfl,by rw [← CE.o];unfold Xq;decide⟩));clear KEY K2 hlen CE;go_enter Tryz.func146,Tryz.ntmps146;go_wp2_with fail;refine CD.o.mono ?_
  rintro e w1 ⟨rfl,rfl⟩;clear CD;go_wp2;go_loopw [7,8] (fun l i wr=>∃ (k:Nat) (q':Option Addr) (c':Nat),k≤5∧i=.int .i64 k∧l=.slice q' k c'∧wr.ownsRow w.heap.size 46 2 (.slice q' k c') k ((Bh ys k).flatMap Kj)∧w.grownBy wr none) (fun _ i _=>5 - (intOf i).toNat)
  case atStart=>exact ⟨0,none,0,by omega,rfl,rfl,World.ownsRow_nil _ _ _ _,Qq _ _⟩
  case round =>
   obtain ⟨k,q',c',hk,rfl,rfl,hown,hg⟩:=hrel;have OW:=Lv hown;have G:=Lv hg;clear hown hg;by_cases hlt:k < 5
   ·obtain ⟨A,hA⟩:∃ A,A=8 + 8 * k:=⟨_,rfl⟩
    obtain ⟨B,hB⟩:∃ B,B=8 * k:=⟨_,rfl⟩
    obtain ⟨D,hD⟩:∃ D,D=12 + 8 * k:=⟨_,rfl⟩
    have a1:(8:Int) * (k:Int)=(B:Int):=by omega
    have a2:(8:Int) + (B:Int)=(A:Int):=by omega
    have a3:(12:Int) + (B:Int)=(D:Int):=by omega
    have a4:IntKind.i64.wrap (B:Int)=(B:Int):=IntWalk.i64_in _ (by omega);have a5:IntKind.i64.wrap (A:Int)=(A:Int):=IntWalk.i64_in _ (by omega);have a6:IntKind.i64.wrap (D:Int)=(D:Int):=IntWalk.i64_in _ (by omega);have hx:Qb ys (8 + 8 * k) 1=(Qc ys A 4,Qc ys D 4):=by unfold Qb;rw [hA,hD,show 8 + 8 * k + 4=12 + 8 * k by omega,Int.mul_one]
    have N1:=Lv (AT.o _ G.o A (by have:=HM.o;omega));have N2:=Lv (AT.o _ G.o D (by have:=HM.o;omega));obtain ⟨x1,hx1⟩:∃ z,z=Qc ys A 4:=⟨_,rfl⟩
    obtain ⟨x2,hx2⟩:∃ z,z=Qc ys D 4:=⟨_,rfl⟩
    rw [← hx1] at N1 hx;rw [← hx2] at N2 hx;have HX:=Lv hx;clear hA hB hD hx hx1 hx2;go_wp2_with (first | (go_at_call 144;(first | with_reducible refine N1.o.mono ?_ | with_reducible refine N2.o.mono ?_);rintro e w3 ⟨rfl,rfl⟩) | (at_builtin;refine Zv Ho rfl _ _ rfl _ k _ rfl (Qy OW.o (grown1 wr (.cells #[.int .u64 x1,.int .u64 x2] 46))) (Kj (x1,x2)) rfl wr.heap.size rfl (heap_alloc_new wr _) (Bp _) (by omega) (by decide) ?_ ?_))
    ·exact Nat.le_trans G.o.size (by rw [World.size_alloc];exact Nat.le_succ _)
    intro v' w3 ho hg3;obtain ⟨q3,c3,rfl⟩:=Qp ho;have R3:=Lv (show w3.ownsRow w.heap.size 46 2 (.slice q3 (k + 1) c3) (k + 1) ((Bh ys (k + 1)).flatMap Kj) by
     rw [Bw,List.flatMap_append,HX.o];simpa using ho)
    have hlo:=fun g (e:(Value.slice q' k c').ownBlock=some g)=>(OW.o.lt g e).1;have G4:=Lv (Jc (Qz G.o (grown1 wr (.cells #[.int .u64 x1,.int .u64 x2] 46))) hg3 hlo (Nat.le_refl _));clear ho hg3 N1 N2;go_wp2;refine ⟨⟨k + 1,q3,c3,by omega,by go_num,rfl,R3.o,G4.o⟩,by simp [intOf];omega⟩
   ·have hk2:k=5:=by omega
    subst hk2;obtain ⟨g,hq⟩:∃ g,q'=some ⟨g,0,none⟩:=by
     rcases OW.o.2 with ⟨e,e0⟩ | ⟨g,cap,cur,hv,_⟩
     · cases e0
     · injection hv with e1 _ _;exact ⟨g,e1⟩
    subst hq;have SR:=Lv (Bc.of_own OW.o);have LO:=Lv ((OW.o.lt g rfl).1);have LT:=Lv ((OW.o.lt g rfl).2);go_wp2;go_ret2
    exact ⟨⟨g,c',by rw [SE.o];rfl,LO.o,LT.o,by rw [SE.o];exact SR.o⟩,G.o⟩
 ·have HM:=Lv (show 16≤n by rw [show Xx 2147483699=16 by decide] at hlen;omega)
  have SE:=Lv (KEY.o 1 (.inr ⟨rfl,by rw [← CE.o];unfold J1;decide⟩));clear KEY K2 hlen CE;go_enter Tryz.func146,Tryz.ntmps146;go_wp2_with fail;refine CD.o.mono ?_
  rintro e w1 ⟨rfl,rfl⟩;clear CD;go_wp2;go_loopw [7,8] (fun l i wr=>∃ (k:Nat) (q':Option Addr) (c':Nat),k≤1∧i=.int .i64 k∧l=.slice q' k c'∧wr.ownsRow w.heap.size 46 2 (.slice q' k c') k ((Bh ys k).flatMap Kj)∧w.grownBy wr none) (fun _ i _=>1 - (intOf i).toNat)
  case atStart=>exact ⟨0,none,0,by omega,rfl,rfl,World.ownsRow_nil _ _ _ _,Qq _ _⟩
  case round =>
   obtain ⟨k,q',c',hk,rfl,rfl,hown,hg⟩:=hrel;have OW:=Lv hown;have G:=Lv hg;clear hown hg;by_cases hlt:k < 1
   ·obtain ⟨A,hA⟩:∃ A,A=8 + 8 * k:=⟨_,rfl⟩
    obtain ⟨B,hB⟩:∃ B,B=8 * k:=⟨_,rfl⟩
    obtain ⟨D,hD⟩:∃ D,D=12 + 8 * k:=⟨_,rfl⟩
    have a1:(8:Int) * (k:Int)=(B:Int):=by omega
    have a2:(8:Int) + (B:Int)=(A:Int):=by omega
    have a3:(12:Int) + (B:Int)=(D:Int):=by omega
    have a4:IntKind.i64.wrap (B:Int)=(B:Int):=IntWalk.i64_in _ (by omega);have a5:IntKind.i64.wrap (A:Int)=(A:Int):=IntWalk.i64_in _ (by omega);have a6:IntKind.i64.wrap (D:Int)=(D:Int):=IntWalk.i64_in _ (by omega);have hx:Qb ys (8 + 8 * k) 1=(Qc ys A 4,Qc ys D 4):=by unfold Qb;rw [hA,hD,show 8 + 8 * k + 4=12 + 8 * k by omega,Int.mul_one]
    have N1:=Lv (AT.o _ G.o A (by have:=HM.o;omega));have N2:=Lv (AT.o _ G.o D (by have:=HM.o;omega));obtain ⟨x1,hx1⟩:∃ z,z=Qc ys A 4:=⟨_,rfl⟩
    obtain ⟨x2,hx2⟩:∃ z,z=Qc ys D 4:=⟨_,rfl⟩
    rw [← hx1] at N1 hx;rw [← hx2] at N2 hx;have HX:=Lv hx;clear hA hB hD hx hx1 hx2;go_wp2_with (first | (go_at_call 144;(first | with_reducible refine N1.o.mono ?_ | with_reducible refine N2.o.mono ?_);rintro e w3 ⟨rfl,rfl⟩) | (at_builtin;refine Zv Ho rfl _ _ rfl _ k _ rfl (Qy OW.o (grown1 wr (.cells #[.int .u64 x1,.int .u64 x2] 46))) (Kj (x1,x2)) rfl wr.heap.size rfl (heap_alloc_new wr _) (Bp _) (by omega) (by decide) ?_ ?_))
    ·exact Nat.le_trans G.o.size (by rw [World.size_alloc];exact Nat.le_succ _)
    intro v' w3 ho hg3;obtain ⟨q3,c3,rfl⟩:=Qp ho;have R3:=Lv (show w3.ownsRow w.heap.size 46 2 (.slice q3 (k + 1) c3) (k + 1) ((Bh ys (k + 1)).flatMap Kj) by
     rw [Bw,List.flatMap_append,HX.o];simpa using ho)
    have hlo:=fun g (e:(Value.slice q' k c').ownBlock=some g)=>(OW.o.lt g e).1;have G4:=Lv (Jc (Qz G.o (grown1 wr (.cells #[.int .u64 x1,.int .u64 x2] 46))) hg3 hlo (Nat.le_refl _));clear ho hg3 N1 N2;go_wp2;refine ⟨⟨k + 1,q3,c3,by omega,by go_num,rfl,R3.o,G4.o⟩,by simp [intOf];omega⟩
   ·have hk2:k=1:=by omega
    subst hk2;obtain ⟨g,hq⟩:∃ g,q'=some ⟨g,0,none⟩:=by
     rcases OW.o.2 with ⟨e,e0⟩ | ⟨g,cap,cur,hv,_⟩
     · cases e0
     · injection hv with e1 _ _;exact ⟨g,e1⟩
    subst hq;have SR:=Lv (Bc.of_own OW.o);have LO:=Lv ((OW.o.lt g rfl).1);have LT:=Lv ((OW.o.lt g rfl).2);go_wp2;go_ret2
    exact ⟨⟨g,c',by rw [SE.o];rfl,LO.o,LT.o,by rw [SE.o];exact SR.o⟩,G.o⟩
 ·have HM:=Lv (show 16≤n by rw [show Xx 2147483700=16 by decide] at hlen;omega)
  have SE:=Lv (KEY.o 1 (.inr ⟨rfl,by rw [← CE.o];unfold J1;decide⟩));clear KEY K2 hlen CE;go_enter Tryz.func146,Tryz.ntmps146;go_wp2_with fail;refine CD.o.mono ?_
  rintro e w1 ⟨rfl,rfl⟩;clear CD;go_wp2;go_loopw [7,8] (fun l i wr=>∃ (k:Nat) (q':Option Addr) (c':Nat),k≤1∧i=.int .i64 k∧l=.slice q' k c'∧wr.ownsRow w.heap.size 46 2 (.slice q' k c') k ((Bh ys k).flatMap Kj)∧w.grownBy wr none) (fun _ i _=>1 - (intOf i).toNat)
  case atStart=>exact ⟨0,none,0,by omega,rfl,rfl,World.ownsRow_nil _ _ _ _,Qq _ _⟩
  case round =>
   obtain ⟨k,q',c',hk,rfl,rfl,hown,hg⟩:=hrel;have OW:=Lv hown;have G:=Lv hg;clear hown hg;by_cases hlt:k < 1
   ·obtain ⟨A,hA⟩:∃ A,A=8 + 8 * k:=⟨_,rfl⟩
    obtain ⟨B,hB⟩:∃ B,B=8 * k:=⟨_,rfl⟩
    obtain ⟨D,hD⟩:∃ D,D=12 + 8 * k:=⟨_,rfl⟩
    have a1:(8:Int) * (k:Int)=(B:Int):=by omega
    have a2:(8:Int) + (B:Int)=(A:Int):=by omega
    have a3:(12:Int) + (B:Int)=(D:Int):=by omega
    have a4:IntKind.i64.wrap (B:Int)=(B:Int):=IntWalk.i64_in _ (by omega);have a5:IntKind.i64.wrap (A:Int)=(A:Int):=IntWalk.i64_in _ (by omega);have a6:IntKind.i64.wrap (D:Int)=(D:Int):=IntWalk.i64_in _ (by omega);have hx:Qb ys (8 + 8 * k) 1=(Qc ys A 4,Qc ys D 4):=by unfold Qb;rw [hA,hD,show 8 + 8 * k + 4=12 + 8 * k by omega,Int.mul_one]
    have N1:=Lv (AT.o _ G.o A (by have:=HM.o;omega));have N2:=Lv (AT.o _ G.o D (by have:=HM.o;omega));obtain ⟨x1,hx1⟩:∃ z,z=Qc ys A 4:=⟨_,rfl⟩
    obtain ⟨x2,hx2⟩:∃ z,z=Qc ys D 4:=⟨_,rfl⟩
    rw [← hx1] at N1 hx;rw [← hx2] at N2 hx;have HX:=Lv hx;clear hA hB hD hx hx1 hx2;go_wp2_with (first | (go_at_call 144;(first | with_reducible refine N1.o.mono ?_ | with_reducible refine N2.o.mono ?_);rintro e w3 ⟨rfl,rfl⟩) | (at_builtin;refine Zv Ho rfl _ _ rfl _ k _ rfl (Qy OW.o (grown1 wr (.cells #[.int .u64 x1,.int .u64 x2] 46))) (Kj (x1,x2)) rfl wr.heap.size rfl (heap_alloc_new wr _) (Bp _) (by omega) (by decide) ?_ ?_))
    ·exact Nat.le_trans G.o.size (by rw [World.size_alloc];exact Nat.le_succ _)
    intro v' w3 ho hg3;obtain ⟨q3,c3,rfl⟩:=Qp ho;have R3:=Lv (show w3.ownsRow w.heap.size 46 2 (.slice q3 (k + 1) c3) (k + 1) ((Bh ys (k + 1)).flatMap Kj) by
     rw [Bw,List.flatMap_append,HX.o];simpa using ho)
    have hlo:=fun g (e:(Value.slice q' k c').ownBlock=some g)=>(OW.o.lt g e).1;have G4:=Lv (Jc (Qz G.o (grown1 wr (.cells #[.int .u64 x1,.int .u64 x2] 46))) hg3 hlo (Nat.le_refl _));clear ho hg3 N1 N2;go_wp2;refine ⟨⟨k + 1,q3,c3,by omega,by go_num,rfl,R3.o,G4.o⟩,by simp [intOf];omega⟩
   ·have hk2:k=1:=by omega
    subst hk2;obtain ⟨g,hq⟩:∃ g,q'=some ⟨g,0,none⟩:=by
     rcases OW.o.2 with ⟨e,e0⟩ | ⟨g,cap,cur,hv,_⟩
     · cases e0
     · injection hv with e1 _ _;exact ⟨g,e1⟩
    subst hq;have SR:=Lv (Bc.of_own OW.o);have LO:=Lv ((OW.o.lt g rfl).1);have LT:=Lv ((OW.o.lt g rfl).2);go_wp2;go_ret2
    exact ⟨⟨g,c',by rw [SE.o];rfl,LO.o,LT.o,by rw [SE.o];exact SR.o⟩,G.o⟩
 ·have HM:=Lv (show 24≤n by rw [show Xx 2=24 by decide] at hlen;omega)
  have SE:=Lv (K2.o CE.o.symm);clear KEY K2 hlen CE;go_enter Tryz.func146,Tryz.ntmps146;go_wp2_with fail;refine CD.o.mono ?_
  rintro e w1 ⟨rfl,rfl⟩;clear CD;go_wp2;go_loopw [7,8] (fun l i wr=>∃ (k:Nat) (q':Option Addr) (c':Nat),k≤2∧i=.int .i64 k∧l=.slice q' k c'∧wr.ownsRow w.heap.size 46 2 (.slice q' k c') k ((Bh ys k).flatMap Kj)∧w.grownBy wr none) (fun _ i _=>2 - (intOf i).toNat)
  case atStart=>exact ⟨0,none,0,by omega,rfl,rfl,World.ownsRow_nil _ _ _ _,Qq _ _⟩
  case round =>
   obtain ⟨k,q',c',hk,rfl,rfl,hown,hg⟩:=hrel;have OW:=Lv hown;have G:=Lv hg;clear hown hg;by_cases hlt:k < 2
   ·obtain ⟨A,hA⟩:∃ A,A=8 + 8 * k:=⟨_,rfl⟩
    obtain ⟨B,hB⟩:∃ B,B=8 * k:=⟨_,rfl⟩
    obtain ⟨D,hD⟩:∃ D,D=12 + 8 * k:=⟨_,rfl⟩
    have a1:(8:Int) * (k:Int)=(B:Int):=by omega
    have a2:(8:Int) + (B:Int)=(A:Int):=by omega
    have a3:(12:Int) + (B:Int)=(D:Int):=by omega
    have a4:IntKind.i64.wrap (B:Int)=(B:Int):=IntWalk.i64_in _ (by omega);have a5:IntKind.i64.wrap (A:Int)=(A:Int):=IntWalk.i64_in _ (by omega);have a6:IntKind.i64.wrap (D:Int)=(D:Int):=IntWalk.i64_in _ (by omega);have hx:Qb ys (8 + 8 * k) 1=(Qc ys A 4,Qc ys D 4):=by unfold Qb;rw [hA,hD,show 8 + 8 * k + 4=12 + 8 * k by omega,Int.mul_one]
    have N1:=Lv (AT.o _ G.o A (by have:=HM.o;omega));have N2:=Lv (AT.o _ G.o D (by have:=HM.o;omega));obtain ⟨x1,hx1⟩:∃ z,z=Qc ys A 4:=⟨_,rfl⟩
    obtain ⟨x2,hx2⟩:∃ z,z=Qc ys D 4:=⟨_,rfl⟩
    rw [← hx1] at N1 hx;rw [← hx2] at N2 hx;have HX:=Lv hx;clear hA hB hD hx hx1 hx2;go_wp2_with (first | (go_at_call 144;(first | with_reducible refine N1.o.mono ?_ | with_reducible refine N2.o.mono ?_);rintro e w3 ⟨rfl,rfl⟩) | (at_builtin;refine Zv Ho rfl _ _ rfl _ k _ rfl (Qy OW.o (grown1 wr (.cells #[.int .u64 x1,.int .u64 x2] 46))) (Kj (x1,x2)) rfl wr.heap.size rfl (heap_alloc_new wr _) (Bp _) (by omega) (by decide) ?_ ?_))
    ·exact Nat.le_trans G.o.size (by rw [World.size_alloc];exact Nat.le_succ _)
    intro v' w3 ho hg3;obtain ⟨q3,c3,rfl⟩:=Qp ho;have R3:=Lv (show w3.ownsRow w.heap.size 46 2 (.slice q3 (k + 1) c3) (k + 1) ((Bh ys (k + 1)).flatMap Kj) by
     rw [Bw,List.flatMap_append,HX.o];simpa using ho)
    have hlo:=fun g (e:(Value.slice q' k c').ownBlock=some g)=>(OW.o.lt g e).1;have G4:=Lv (Jc (Qz G.o (grown1 wr (.cells #[.int .u64 x1,.int .u64 x2] 46))) hg3 hlo (Nat.le_refl _));clear ho hg3 N1 N2;go_wp2;refine ⟨⟨k + 1,q3,c3,by omega,by go_num,rfl,R3.o,G4.o⟩,by simp [intOf];omega⟩
   ·have hk2:k=2:=by omega
    subst hk2;obtain ⟨g,hq⟩:∃ g,q'=some ⟨g,0,none⟩:=by
     rcases OW.o.2 with ⟨e,e0⟩ | ⟨g,cap,cur,hv,_⟩
     · cases e0
     · injection hv with e1 _ _;exact ⟨g,e1⟩
    subst hq;have SR:=Lv (Bc.of_own OW.o);have LO:=Lv ((OW.o.lt g rfl).1);have LT:=Lv ((OW.o.lt g rfl).2);obtain ⟨s0,s1⟩:=SR.o 0 _ rfl;obtain ⟨s2,s3⟩:=SR.o 1 _ rfl;have hb:=NB.o;have e12:(Qb ys 8 1).2=Qc ys 12 4:=by simp [Qb]
    simp only [Nat.zero_mul,Nat.zero_add,Nat.one_mul] at s0 s1 s2 s3;have fz:wr.frozen? ⟨g,1,none⟩=false:=OW.o.frozenAt 1
    obtain ⟨x0,hx0⟩:∃ z,z=(Qb ys 8 1).1:=⟨_,rfl⟩
    obtain ⟨x1,hx1⟩:∃ z,z=(Qb ys 8 1).2:=⟨_,rfl⟩
    rw [← hx0] at SE;rw [← hx1] at SE e12;have t1:wr.cell? ⟨g,1,none⟩=some (.int .u64 x1):=by rw [hx1];exact s1
    have t0:wr.cell? ⟨g,0,none⟩=some (.int .u64 x0):=by rw [hx0];exact s0
    have m1:(16 * x1) % 18446744073709551616=16 * x1:=by omega
    have m2:IntKind.u64.wrap (16 * x1)=16 * x1:=by rw [IntKind.wrap_u64];exact m1
    have T0:=Lv t0;have S2:=Lv s2;have S3:=Lv s3;have LT2:=LT.o;clear s0 s1 s2 s3 hx0 hx1 hb e12;go_wp2;go_ret2
    have gS:=Qx (i:=1) (Qq wr (some g)) (.int .u64 (16 * x1));have hth:(wr.cell? ⟨g,1,none⟩).isSome=true:=by rw [t1];rfl
    refine ⟨⟨g,c',by rw [SE.o];rfl,LO.o,Nat.lt_of_lt_of_le LT.o gS.size,?_⟩,Qw G.o gS LO.o⟩;rw [SE.o];have other:∀ j v,j≠1→wr.cell? ⟨g,j,none⟩=some v→(wr.setCell ⟨g,1,none⟩ (.int .u64 (16 * x1))).cell? ⟨g,j,none⟩=some v:=fun j v hj hv=>by
     rw [World.cell?_setCell_other _ ⟨g,1,none⟩ ⟨g,j,none⟩ _ (fun e=>hj (by injection e with _ e _;exact e.symm))];exact hv
    intro i x hx
    match i,hx with
    | 0,hx =>
     injection hx with hx;subst hx;exact ⟨other 0 _ (by decide) T0.o,by rw [show 0 * 2 + 1=1 from rfl,World.cell?_setCell_same' _ _ _ hth];simp only [Int.mul_comm]⟩
    | 1,hx =>
     injection hx with hx;subst hx;exact ⟨other 2 _ (by decide) S2.o,other 3 _ (by decide) S3.o⟩
    |(j + 2),hx=>cases hx
section
variable {w w':World} {lo g:Nat} {h:Hx} {s:St}
structure Fl where
 nm:Bool
 ch:Bool
 sy:Bool
 en:Bool
 sp:Bool
def Si (h:Hx) (s:St) (sv dv:Value) (f:Fl) (k:Int):Array Value:=#[.int .i64 h.kd,.int .i64 h.sb,.int .u32 h.fl,.string (strOfNums s.name),sv,dv,.int .u64 s.rb.1,.int .u64 s.rb.2,.int .u64 s.bd.1,.int .u64 s.bd.2,.int .u64 s.wk.1,.int .u64 s.wk.2,.int .u64 s.lz.1,.int .u64 s.lz.2,.int .u64 s.tr.1,.int .u64 s.tr.2,.int .u64 s.ch.1,.int .u64 s.ch.2,.int .u64 s.sy.1,.int .u64 s.sy.2,.int .u64 s.st.1,.int .u64 s.st.2,.int .u64 s.entry,.bool s.has,.bool f.nm,.bool f.ch,.bool f.sy,.bool f.en,.bool f.sp,.int .i64 k]
def Zm (w:World) (g:Nat) (h:Hx) (s:St) (sv dv:Value) (f:Fl) (k:Int):Prop:=w.heap[g]?=some (.cells (Si h s sv dv f k) 159 (0,0))
section
variable {sv dv:Value} {f:Fl} {k:Int}
theorem Zm.kept {r:Option Nat} (a:Zm w g h s sv dv f k) (hg:w.grownBy w' r) (hr:r≠some g):Zm w' g h s sv dv f k:=(hg.block g (lt_of_block a) (fun e=>hr e.symm)).trans a
theorem Zm.lt (a:Zm w g h s sv dv f k):g < w.heap.size:=lt_of_block a
theorem Zm.fz (a:Zm w g h s sv dv f k) (i:Nat):w.frozen? ⟨g,i,none⟩=false:=Xg a
theorem Zm.c (a:Zm w g h s sv dv f k) (i:Nat) (v:Value) (hv:(Si h s sv dv f k)[i]?=some v):w.cell? ⟨g,i,none⟩=some v:=by rw [Qm a];exact hv
end
theorem Ys : 121≠159∧118≠159∧124≠159∧118≠121∧124≠121∧121≠124∧118≠124:=by decide
structure Xa (w:World) (lo g:Nat) (h:Hx) (s:St) (f:Fl) (k:Int):Prop where
 ex:∃ (sv dv:Value) (l:List Sg),Zm w g h s sv dv f k∧l.map Sg.seg=s.segs∧w.ownsRow lo 121 7 sv l.length (l.flatMap sgCs)∧(∀ x∈l,w.ownsRow lo 118 6 x.v x.seg.secs.length (x.seg.secs.flatMap J6)) ∧
  w.ownsRow lo 124 2 dv s.deps.length (s.deps.flatMap Bi)
 lo1:lo≤g
theorem Xa.grown {f:Fl} {k:Int} (H:Xa w lo g h s f k) (hg:w.grownBy w' none):Xa w' lo g h s f k:=by
 obtain ⟨sv,dv,l,h1,h2,h3,h4,h5⟩:=H.ex;exact ⟨⟨sv,dv,l,h1.kept hg (by simp),h2,Qy h3 hg,fun x hx=>Qy (h4 x hx) hg,Qy h5 hg⟩,H.lo1⟩
theorem Xa.at {f:Fl} {k:Int} (H:Xa w lo g h s f k):∃ sv dv,Zm w g h s sv dv f k:=by obtain ⟨sv,dv,_,a1,_⟩:=H.ex;exact ⟨sv,dv,a1⟩
theorem Xa.lt {f:Fl} {k:Int} (H:Xa w lo g h s f k):lo≤w.heap.size:=by obtain ⟨_,_,a1⟩:=H.at;exact Nat.le_trans H.lo1 (Nat.le_of_lt a1.lt)
theorem Xa.cells {f f':Fl} {k k':Int} {s':St} (H:Xa w lo g h s f k) (hg:w.grownBy w' (some g)) (hc:∀ sv dv,Zm w g h s sv dv f k→Zm w' g h s' sv dv f' k') (h1:s'.segs=s.segs) (h2:s'.deps=s.deps):Xa w' lo g h s' f' k':=by
 obtain ⟨sv,dv,l,a1,a2,a3,a4,a5⟩:=H.ex;refine ⟨⟨sv,dv,l,hc sv dv a1,a2.trans h1.symm,a3.kept hg (Ja a3 a1 Ys.1),fun x hx=>(a4 x hx).kept hg (Ja (a4 x hx) a1 Ys.2.1),?_⟩,H.lo1⟩;rw [h2];exact a5.kept hg (Ja a5 a1 Ys.2.2.1)
structure Ze (w w':World) (lo g:Nat) (h:Hx) (s':St) (f':Fl) (k':Int) (er:Int) (e:Ending):Prop where
 val:e=.returned (.int .i64 er)
 good:er=0→Xa w' lo g h s' f' k'
 below:Below lo w w'
theorem Ze.after {w1:World} {s':St} {f':Fl} {k' er:Int} {e:Ending} (hb:Below lo w w1) (k:Ze w1 w' lo g h s' f' k' er e):Ze w w' lo g h s' f' k' er e:=⟨k.val,k.good,hb.trans k.below⟩
theorem Kg {g i:Nat} {b:Bool} (hc:w.cell? ⟨g,i,none⟩=some (.bool b)) (hf:w.frozen? ⟨g,i,none⟩=false) (_hl:g < w.heap.size) :
  Calls Tryz.prog 121 #[.pointer (some ⟨g,i,none⟩)] w fun e w'=>e=.returned (.bool (!b))∧w'=w.setCell ⟨g,i,none⟩ (.bool true):=by
 go_enter Tryz.func121,Tryz.ntmps121;go_wp2;go_ret
 exact ⟨rfl,rfl⟩
def Y8 (s:St) (x:Int × Int):Int:=if x.2=0 then 0 else if 0 < s.tr.2 then 21 else 0
def Gi (s:St) (x:Int × Int):St:=if x.2=0 then s else { s with tr:=x }
theorem Tz {f:Fl} {k:Int} (H:Xa w lo g h s f k) (x:Int × Int) :
  Calls Tryz.prog 147 #[.pointer (some ⟨g,0,none⟩),Pf x] w fun e w'=>Ze w w' lo g h (Gi s x) f k (Y8 s x) e:=by
 obtain ⟨X,Y⟩:=x;unfold Pf;have gA:=grown1 w (.cells #[.int .u64 X,.int .u64 Y] 46);have HA:=Lv (H.grown gA);have SA:=Lv (show SpanAt (w.alloc (.cells #[.int .u64 X,.int .u64 Y] 46)) w.heap.size (X,Y) from heap_alloc_new w _);have BA:=Lv (Qg gA H.lt (by simp):Below lo w (w.alloc (.cells #[.int .u64 X,.int .u64 Y] 46)));have LO:=Lv HA.o.lt;obtain ⟨sv,dv,a1⟩:=HA.o.at
 clear H gA;obtain ⟨wA,hwA⟩:∃ wA,w.alloc (.cells #[.int .u64 X,.int .u64 Y] 46)=wA:=⟨_,rfl⟩
 obtain ⟨b,hb⟩:∃ b,w.heap.size=b:=⟨_,rfl⟩
 rw [hwA] at HA SA BA LO a1;rw [hb] at SA;have s0:wA.cell? ⟨b,0,none⟩=some (.int .u64 X):=by rw [Qm SA.o];rfl
 have s1:wA.cell? ⟨b,1,none⟩=some (.int .u64 Y):=by rw [Qm SA.o];rfl
 have sl:=lt_of_block SA.o;have c14:=a1.c 14 (.int .u64 s.tr.1) rfl;have c15:=a1.c 15 (.int .u64 s.tr.2) rfl;have f14:=a1.fz 14;have f15:=a1.fz 15;have gl:=a1.lt;clear a1;have OT:=Lv (show Y8 s (X,Y)=if Y=0 then 0 else if 0 < s.tr.2 then 21 else 0 from rfl);have ST:=Lv (show Gi s (X,Y)=if Y=0 then s else { s with tr:=(X,Y) } from rfl);by_cases h0:Y=0
 ·have OE:=Lv (OT.o.trans (if_pos h0))
  have SE:=Lv (ST.o.trans (if_pos h0));have hd:(Y == 0)=true:=by simpa using h0
  clear h0;go_enter Tryz.func147,Tryz.ntmps147;go_wp2;go_ret
  exact ⟨by rw [OE.o];rfl,fun _=>by rw [SE.o];exact HA.o,BA.o⟩
 have OE:=Lv (OT.o.trans (if_neg h0));have SE:=Lv (ST.o.trans (if_neg h0));have hd:(Y == 0)=false:=by simpa using h0
 clear h0 OT ST;obtain ⟨T,hT⟩:∃ T,T=s.tr.2:=⟨_,rfl⟩
 rw [← hT] at OE c15;by_cases h1 : 0 < T
 ·have OF:=Lv (OE.o.trans (if_pos h1))
  have hd1:decide (0 < T)=true:=by simpa using h1
  clear h1 hT;go_enter Tryz.func147,Tryz.ntmps147;go_wp2;go_ret
  exact ⟨by rw [OF.o];rfl,fun hz=>(by rw [OF.o] at hz;cases hz),BA.o⟩
 ·have OF:=Lv (OE.o.trans (if_neg h1))
  have hd1:decide (0 < T)=false:=by simpa using h1
  have gS:=Qx (i:=15) (Qx (i:=14) (Qq wA (some g)) (.int .u64 X)) (.int .u64 Y);have HB:=Lv (HA.o.cells (s':={ s with tr:=(X,Y) }) (f':=f) (k':=k) gS (fun sv dv a=>by
   unfold Zm;rw [heap_setCell_same _ g 15 _ _ _ (heap_setCell_same wA g 14 _ _ _ a)];rfl) rfl rfl)
  have BB:=Lv (BA.o.trans (Xb gS HA.o.lo1 LO.o));clear h1 gS hT;go_enter Tryz.func147,Tryz.ntmps147;go_wp2;go_ret
  exact ⟨by rw [OF.o];rfl,fun _=>by rw [SE.o];exact HB.o,BB.o⟩
theorem holdsR_seg {wA w3:World} {sv dv sv':Value} {l:List Sg} {x:Sg} {f:Fl} {k:Int} (a1:Zm wA g h s sv dv f k) (a2:l.map Sg.seg=s.segs) (a3:wA.ownsRow lo 121 7 sv l.length (l.flatMap sgCs))
  (a4:∀ x∈l,wA.ownsRow lo 118 6 x.v x.seg.secs.length (x.seg.secs.flatMap J6)) (a5:wA.ownsRow lo 124 2 dv s.deps.length (s.deps.flatMap Bi)) (l1:lo≤g)
  (ax:wA.ownsRow lo 118 6 x.v x.seg.secs.length (x.seg.secs.flatMap J6))
  (ho:w3.ownsRow lo 121 7 sv' (l.length + 1) (l.flatMap sgCs ++ sgCs x)) (hg:wA.grownBy w3 sv.ownBlock):Xa (w3.setCell ⟨g,4,none⟩ sv') lo g h { s with segs:=s.segs ++ [x.seg] } f k:=by
 have hT:=Ys;have ng:sv.ownBlock≠some g:=by
  rcases Ja a3 a1 hT.1 with e | e
  · rw [e];simp
  · exact e
 have b1:=a1.kept hg ng;have b5:=a5.kept hg (J2 hT.2.2.2.2.1 a5 a3);have b4:∀ y∈l ++ [x],w3.ownsRow lo 118 6 y.v y.seg.secs.length (y.seg.secs.flatMap J6):=fun y hy=>by
  rcases List.mem_append.1 hy with hy | hy
  · exact (a4 y hy).kept hg (J2 hT.2.2.2.1 (a4 y hy) a3)
  · rw [List.mem_singleton.1 hy]
    exact ax.kept hg (J2 hT.2.2.2.1 ax a3)
 have gS:=Qx (i:=4) (Qq w3 (some g)) sv';refine ⟨⟨sv',dv,l ++ [x],?_,by rw [List.map_append,a2];rfl,?_,fun y hy=>(b4 y hy).kept gS (Ja (b4 y hy) b1 hT.2.1),b5.kept gS (Ja b5 b1 hT.2.2.1)⟩,l1⟩
 ·unfold Zm
  rw [heap_setCell_same w3 g 4 _ _ _ b1];rfl
 ·have:=ho.kept gS (Ja ho b1 hT.1)
  rw [List.length_append,List.flatMap_append];simpa using this
theorem holdsR_dep {wA w3:World} {sv dv dv':Value} {l:List Sg} {x:List Int × Int} {f:Fl} {k:Int} (a1:Zm wA g h s sv dv f k) (a2:l.map Sg.seg=s.segs) (a3:wA.ownsRow lo 121 7 sv l.length (l.flatMap sgCs))
  (a4:∀ x∈l,wA.ownsRow lo 118 6 x.v x.seg.secs.length (x.seg.secs.flatMap J6)) (a5:wA.ownsRow lo 124 2 dv s.deps.length (s.deps.flatMap Bi)) (l1:lo≤g)
  (ho:w3.ownsRow lo 124 2 dv' (s.deps.length + 1) (s.deps.flatMap Bi ++ Bi x)) (hg:wA.grownBy w3 dv.ownBlock):Xa (w3.setCell ⟨g,5,none⟩ dv') lo g h { s with deps:=s.deps ++ [x] } f k:=by
 have hT:=Ys;have ng:dv.ownBlock≠some g:=by
  rcases Ja a5 a1 hT.2.2.1 with e | e
  · rw [e];simp
  · exact e
 have b1:=a1.kept hg ng;have b3:=a3.kept hg (J2 hT.2.2.2.2.2.1 a3 a5);have b4:∀ x∈l,w3.ownsRow lo 118 6 x.v x.seg.secs.length (x.seg.secs.flatMap J6):=fun x hx=>(a4 x hx).kept hg (J2 hT.2.2.2.2.2.2 (a4 x hx) a5);have gS:=Qx (i:=5) (Qq w3 (some g)) dv';refine ⟨⟨sv,dv',l,?_,a2,b3.kept gS (Ja b3 b1 hT.1),fun x hx=>(b4 x hx).kept gS (Ja (b4 x hx) b1 hT.2.1),?_⟩,l1⟩
 ·unfold Zm
  rw [heap_setCell_same w3 g 5 _ _ _ b1];rfl
 ·have:=ho.kept gS (Ja ho b1 hT.2.2.1)
  show World.ownsRow _ _ _ _ _ (s.deps ++ [x]).length ((s.deps ++ [x]).flatMap Bi)
  rw [List.length_append,List.flatMap_append];simpa using this
end
def flOf (s:St):Fl:=⟨decide (13∈s.met),decide (2147483700∈s.met),decide (2∈s.met),decide (2147483688∈s.met),decide (34∈s.met)⟩
structure TrOk (s:St):Prop where
 iff : 2147483699∈s.met↔s.tr.2≠0
 pos : 0≤s.tr.2
theorem TrOk.zero:TrOk St.zero:=⟨by simp [St.zero],by simp [St.zero]⟩
theorem Bz {b:List Int} (hr:Q3 b) (p:Nat) : 0≤(Qb b p 1).2:=by
 have:=Jm hr (p + 4)
 show 0≤Qc b (p + 4) 4 * 1
 omega
theorem Mo {s:St} (h:TrOk s) (x:Int × Int) (_hx : 0≤x.2):Rm s x=Y8 s x:=by
 unfold Rm Y8 Kr;by_cases h0:x.2=0
 ·rw [if_pos h0,if_pos h0]
 ·rw [if_neg h0,if_neg h0]
  by_cases h1 : 0 < s.tr.2
  ·rw [if_pos h1,if_pos (h.iff.2 (by omega))]
  ·rw [if_neg h1,if_neg (fun hm=>by have:=h.iff.1 hm;have:=h.pos;omega)]
theorem trie_ok {s:St} (h:TrOk s) (x:Int × Int) (hx : 0≤x.2):TrOk (Km s x):=by
 unfold Km
 split
 ·exact h
 ·rename_i h0
  exact ⟨⟨fun _=>h0,fun _=>by simp [St.meet]⟩,hx⟩
theorem Su (s:St) (x:Int × Int):flOf (Km s x)=flOf s:=by
 unfold Km
 split
 ·rfl
 ·unfold flOf St.meet;simp
theorem Se (s:St) (x:Int × Int):({ Gi s x with met:=[],secs:=0 }:St)={ Km s x with met:=[],secs:=0 }:=by
 unfold Gi Km
 split <;> rfl
theorem TrOk.info {s:St} (h:TrOk s) (b:List Int):TrOk (Vr s b):=by
 refine ⟨?_,h.pos⟩;show 2147483699∈s.met ++ [34]↔s.tr.2≠0
 rw [List.mem_append];simp [h.iff]
theorem step_short_err {s:St} {b:List Int} (hs:Ji b) (h8 : 8≤b.length):Zs s b=3:=by
 have h3:Z6 b=3:=by unfold Z6;rw [if_pos hs]
 have h4:Xj b=3:=by unfold Xj;rw [if_pos hs]
 have h5:Jo b=3:=by unfold Jo;rw [if_pos hs]
 have e1:segE s b=3:=by unfold segE;rw [h3];rfl
 have e2:ownE s b=3:=by unfold ownE;rw [h4];rfl
 have e3:depE s b=3:=by unfold depE;rw [h4];rfl
 have e4:spE s b=3:=by unfold spE;rw [h5];rfl
 have e5:entE s b=3:=by unfold entE;rw [if_pos hs]
 unfold Zs;rw [e1,e2,e3,e4,e5];by_cases c1:Qd b=25
 ·rw [if_pos c1]
 rw [if_neg c1];by_cases c2:Qd b=13
 ·rw [if_pos c2]
 rw [if_neg c2];by_cases c3:Xr (Qd b)≠0
 ·rw [if_pos c3]
 rw [if_neg c3];by_cases c4:Xq (Qd b)∨J1 (Qd b)∨Qd b=2
 ·rw [if_pos c4]
 rw [if_neg c4];by_cases c5:Qd b=2147483688
 ·rw [if_pos c5]
 exfalso
 have hl:Xx (Qd b)=0:=by
  have hd':Xr (Qd b)=0:=Classical.byContradiction c3;unfold Xq J1 at c4;simp only [not_or] at c4;obtain ⟨⟨a1,a2⟩,⟨a3,a4⟩,a5⟩:=c4;unfold Xr at hd'
  split at hd';cases hd'
  split at hd';cases hd'
  split at hd';cases hd'
  split at hd';cases hd'
  unfold Xx;simp [*]
 rcases hs with h | h
 ·omega
 ·rw [hl] at h;omega
theorem cmd_ways (cm:Int):(Xx cm=0∧cm≠25∧cm≠13∧Xr cm=0∧¬ (Xq cm∨J1 cm∨cm=2)∧cm≠2147483688) ∨
  ((Xx cm == 0)=false∧(cm=25∨cm=13∨(cm≠25∧cm≠13∧Xr cm≠0)∨cm=34∨cm=2147483682∨cm=2147483699∨cm=2147483700∨cm=2∨cm=2147483688)):=by
 by_cases h:cm=25∨cm=34∨cm=2147483682∨cm=2∨cm=12∨cm=13∨cm=2147483672∨cm=2147483679∨cm=2147483683∨cm=2147483688∨cm=2147483699∨cm=2147483700
 ·right
  rcases h with rfl | rfl | rfl | rfl | rfl | rfl | rfl | rfl | rfl | rfl | rfl | rfl <;> decide
 ·simp only [not_or] at h
  obtain ⟨n1,n2,n3,n4,n5,n6,n7,n8,n9,n10,n11,n12⟩:=h
  left
  refine ⟨by unfold Xx;simp [*],n1,n6,by unfold Xr;simp [*],?_,n10⟩;unfold Xq J1;simp [*]
section
variable {w w':World} {lo g:Nat} {h:Hx} {s:St}
theorem rseg_any {f:Fl} (H:Xa w lo g h s f s.secs) (b:List Int) (q:Option Addr) (c n:Nat) (hb:Qk w q c b) (hn:b.length=n) (hc:n≤c) (hcm:c≤9223372036854775807) (hn47:n≤140737488355328) (hr:Q3 b) (h16:s.segs.length≤16) (h64 : 0≤s.secs∧s.secs≤64) :
  Calls Tryz.prog 118 #[.pointer (some ⟨g,0,none⟩),.slice q n c] w fun e w'=>Ze w w' lo g h (segS s b) f (s.secs + (Ky b).secs.length) (segE s b) e:=by
 have SG:=Lv (refSegment_all (w:=w) b hb hn hc hcm hn47 hr);have SN:=Lv (show segN b=if Z6 b=0 then Ky b else Seg.zero from rfl);have HH:=Lv H;have OT:=Lv (show segE s b=if Z6 b≠0 then Z6 b else if s.segs.length=16∨64 < s.secs + (Ky b).secs.length then 11 else 0 from rfl);have ST:=Lv (show segS s b={ s with secs:=s.secs + (Ky b).secs.length,segs:=s.segs ++ [Ky b] } from rfl)
 clear H hb hn hr;by_cases h0:Z6 b=0
 ·have OE:=Lv (OT.o.trans (if_neg (fun h=>h h0)))
  have H0:=Lv h0;clear h0 OT;go_enter Tryz.func118,Tryz.ntmps118;go_wp2_with fail;refine SG.o.mono ?_
  rintro e w1 ⟨q1,N,c1,base,hN,rfl,hown,hbase,hg⟩;rw [SN.o,if_pos H0.o] at hN hown ⊢;rw [H0.o];have hN64:N≤64:=by rw [hN];exact seg_many H0.o
  have NE:=Lv hN;obtain ⟨⟨nm,ad,sz,of,fs,pr,sl⟩,hS⟩:∃ z,z=Ky b:=⟨_,rfl⟩
  rw [← hS] at hN hown ⊢;have SE:=Lv hS;unfold segV Vi;have hlw:=HH.o.lt;have g2:=grown1 w1 (.cells #[.string (strOfNums nm),.int .u64 ad,.int .u64 sz,.int .u64 of,.int .u64 fs,.int .i64 pr,.slice q1 N c1] 121);have X2:=Lv (show Zn (w1.alloc (.cells #[.string (strOfNums nm),.int .u64 ad,.int .u64 sz,.int .u64 of,.int .u64 fs,.int .i64 pr,.slice q1 N c1] 121)) w1.heap.size ⟨nm,ad,sz,of,fs,pr,sl⟩ (.slice q1 N c1) from heap_alloc_new w1 _)
  have H2:=Lv (HH.o.grown (Qz hg g2));have B2:=Lv (Qg (Qz hg g2) hlw (by simp):Below lo w _);have R2:=Lv (Qy (own_lower hown (Nat.le_trans hlw hbase)) g2);have hxg:g < w1.heap.size:=by obtain ⟨_,_,a1⟩:=HH.o.at;exact Nat.lt_of_lt_of_le a1.lt hg.size
  clear hg hown hbase hS hN g2 hlw;simp only [];go_upto_region 2 with fail;obtain ⟨w2,hw2⟩:∃ w2,w1.alloc (.cells #[.string (strOfNums nm),.int .u64 ad,.int .u64 sz,.int .u64 of,.int .u64 fs,.int .i64 pr,.slice q1 N c1] 121)=w2:=⟨_,rfl⟩
  obtain ⟨x,hx⟩:∃ x,w1.heap.size=x:=⟨_,rfl⟩
  rw [hw2,hx] at X2;rw [hw2] at H2 B2 R2 ⊢;simp only [hx] at hxg ⊢;clear hw2 hx;obtain ⟨sv,dv,l,a1,a2,a3,a4,a5⟩:=H2.o.ex;have c29:=a1.c 29 (.int .i64 s.secs) rfl;have f29:=a1.fz 29;have gl:=a1.lt;have x6:=X2.o.c.2.2.2.2.2.2;have xl:=X2.o.lt;have i1:s.secs + (N:Int)≤9223372036854775807:=by omega
  clear a1 a2 a3 a4 a5;go_wp2;go_still_tail 10,(by kernel_rfl)
  change wpList _ _ _ _ _ w2.drew;have gD:w2.grownBy w2.drew none:=Qj (Qq w2 none) 1;have H3:=Lv (H2.o.grown gD);have B3:=Lv (B2.o.trans (Qg gD H2.o.lt (by simp)));have R3:=Lv (Qy R2.o gD);have X3:=Lv (X2.o.grown gD);clear c29 f29 gl x6 xl gD H2 B2 R2 X2 sv dv l;generalize w2.drew=w3 at *;obtain ⟨sv,dv,l,a1,a2,a3,a4,a5⟩:=H3.o.ex;have c29:=a1.c 29 (.int .i64 s.secs) rfl
  have f29:=a1.fz 29;have gl:=a1.lt;have gS:=Qx (i:=29) (Qq w3 (some g)) (.int .i64 (s.secs + N));have H4:=Lv (H3.o.cells (s':={ s with secs:=s.secs + N }) (f':=f) (k':=s.secs + N) gS (fun sv dv a=>by
   unfold Zm;rw [heap_setCell_same w3 g 29 _ _ _ a];rfl) rfl rfl)
  have B4:=Lv (B3.o.trans (Xb gS H3.o.lo1 H3.o.lt));have R4:=Lv (R3.o.kept gS (Ja R3.o a1 Ys.2.1));have X4:=Lv (X3.o.kept gS (fun e=>by injection e with e;omega));clear a1 a2 a3 a4 a5 sv dv l gS;go_upto_region 5 with fail;obtain ⟨w4,hw4⟩:∃ w4,w3.setCell ⟨g,29,none⟩ (.int .i64 (s.secs + N))=w4:=⟨_,rfl⟩
  rw [hw4] at H4 B4 R4 X4 ⊢;clear hw4 c29 f29 gl H3 B3 R3 X3;obtain ⟨sv,dv,l,a1,a2,a3,a4,a5⟩:=H4.o.ex;obtain ⟨qs,cs,rfl⟩:=Qp a3;have hll:l.length=s.segs.length:=by rw [← List.length_map (f:=Sg.seg),a2]
  have c4:=a1.c 4 (.slice qs l.length cs) rfl;have c29:=a1.c 29 (.int .i64 (s.secs + N)) rfl;have gl:=a1.lt;have hNE:(Ky b).secs.length=N:=NE.o.symm;by_cases hfull:s.segs.length=16∨64 < s.secs + (N:Int)
  ·have OF:=Lv (OE.o.trans (if_pos (by rw [hNE];exact hfull)))
   have hb2:((l.length:Int) == 16)=true∨(((l.length:Int) == 16)=false∧decide (64 < s.secs + (N:Int))=true):=by
    rw [← hll] at hfull;by_cases h:l.length=16
    ·exact .inl (by simp;omega)
    ·exact .inr ⟨by simp;omega,by simp;omega⟩
   have B5:=Lv B4.o;clear a1 a2 a3 a4 a5 hfull hll;generalize l.length=D at *;rcases hb2 with d1 | ⟨d1,d2⟩
   all_goals
    go_wp2;go_ret
    exact ⟨by rw [OF.o];rfl,fun hz=>(by rw [OF.o] at hz;cases hz),B5.o⟩
  ·have OF:=Lv (OE.o.trans (if_neg (by rw [hNE];exact hfull)))
   have d1:((l.length:Int) == 16)=false:=by rw [hll];simp;omega
   have d2:decide (64 < s.secs + (N:Int))=false:=by simp;omega
   have hlt:l.length < 16:=by omega
   have hsl:sl.length=N:=by rw [NE.o,← SE.o]
   have HSG:=Lv (fun (wA w5:World) (v':Value) (gA:w4.grownBy wA none) (ho:w5.ownsRow lo 121 7 v' (l.length + 1) (l.flatMap sgCs ++ [.string (strOfNums nm),.int .u64 ad,.int .u64 sz,.int .u64 of,.int .u64 fs,.int .i64 pr,.slice q1 N c1])) (hg:wA.grownBy w5 (Value.slice qs l.length cs).ownBlock) =>
    holdsR_seg (x:=⟨⟨nm,ad,sz,of,fs,pr,sl⟩,q1,c1⟩) (a1.kept gA (by simp)) a2 (Qy a3 gA) (fun x hx=>Qy (a4 x hx) gA) (Qy a5 gA) H4.o.lo1 (by
     have:=Qy R4.o gA
     show World.ownsRow _ _ _ _ (Value.slice q1 sl.length c1) sl.length _
     rw [hsl];exact this) (by
     rw [show sgCs ⟨⟨nm,ad,sz,of,fs,pr,sl⟩,q1,c1⟩=[.string (strOfNums nm),.int .u64 ad,.int .u64 sz,.int .u64 of,.int .u64 fs,.int .i64 pr,.slice q1 N c1] by unfold sgCs Sg.v;simp only [];rw [hsl]];exact ho) hg)
   have AK:=Lv a1;have OW:=Lv a3;have NG:=Lv (Ja a3 a1 Ys.1);have hr:(l.flatMap sgCs).length=l.length * 7:=Gw Rw l;obtain ⟨rows,hrows⟩:∃ r,r=l.flatMap sgCs:=⟨_,rfl⟩
   rw [← hrows] at HSG OW;obtain ⟨D,hD⟩:∃ D,D=l.length:=⟨_,rfl⟩
   rw [← hD] at HSG OW c4 d1 hlt NG AK;clear a1 a2 a3 a4 a5 hfull hll hr hrows hD;obtain ⟨x0,x1,x2,x3,x4,x5,x6⟩:=X4.o.c;simp only [] at x0 x1 x2 x3 x4 x5;have xl:=X4.o.lt;have f4:=AK.o.fz 4;go_wp2;have gA:w4.grownBy (w4.alloc (.cells #[.string (strOfNums nm),.int .u64 ad,.int .u64 sz,.int .u64 of,.int .u64 fs,.int .i64 pr,.slice q1 N c1] 121)).drew none:=Qj (grown1 w4 _) 1;have OWA:=Lv (Qy OW.o gA)
   have HNA:=Lv (show (w4.alloc (.cells #[.string (strOfNums nm),.int .u64 ad,.int .u64 sz,.int .u64 of,.int .u64 fs,.int .i64 pr,.slice q1 N c1] 121)).drew.heap[w4.heap.size]?=some (.cells ([.string (strOfNums nm),.int .u64 ad,.int .u64 sz,.int .u64 of,.int .u64 fs,.int .i64 pr,.slice q1 N c1]:List Value).toArray 121 (0,0)) from heap_alloc_new w4 _);have hlw4:=H4.o.lt;have HLO:=Lv (show lo≤(w4.alloc (.cells #[.string (strOfNums nm),.int .u64 ad,.int .u64 sz,.int .u64 of,.int .u64 fs,.int .i64 pr,.slice q1 N c1] 121)).drew.heap.size from Nat.le_trans hlw4 gA.size)
   have ONE:=Lv (show ∀ u∈([.string (strOfNums nm),.int .u64 ad,.int .u64 sz,.int .u64 of,.int .u64 fs,.int .i64 pr,.slice q1 N c1]:List Value),u.oneCell'=true from by
    intro u hu;simp only [List.mem_cons,List.not_mem_nil,or_false] at hu;rcases hu with rfl | rfl | rfl | rfl | rfl | rfl | rfl <;> rfl)
   have GA:=Lv gA;have ng:(Value.slice qs D cs).ownBlock≠some g:=by
    rcases NG.o with e | e
    ·rw [e];simp
    ·exact e
   have NGH:=Lv ng;clear gA ng;go_region_law (refine Bg segType (by with_reducible rfl) _ _ (by with_reducible rfl) _ D 1 rows (by rfl) OWA.o [.string (strOfNums nm),.int .u64 ad,.int .u64 sz,.int .u64 of,.int .u64 fs,.int .i64 pr,.slice q1 N c1] rfl w4.heap.size (by rfl) HNA.o ONE.o (by omega) (by decide) HLO.o ?_;intro v5 w5 ho5 hg5;obtain ⟨q5,c5,rfl⟩:=Qp ho5;have c4':=((AK.o.kept GA.o (by simp)).kept hg5 NGH.o).c 4 (.slice qs D cs) rfl;have f4':=((AK.o.kept GA.o (by simp)).kept hg5 NGH.o).fz 4;have gl':=((AK.o.kept GA.o (by simp)).kept hg5 NGH.o).lt)
   all_goals
    have HF:=Lv (HSG.o _ _ _ GA.o ho5 hg5);have hlo:=fun g' (e:(Value.slice qs D cs).ownBlock=some g')=>(OW.o.lt g' e).1;have B5:=Lv (B4.o.trans (Below.trans (Qg GA.o hlw4 (by simp)) (Qg hg5 HLO.o hlo)));have B6:=Lv (B5.o.trans (Xb (Qx (i:=4) (Qq w5 (some g)) (.slice q5 (D + 1) c5)) H4.o.lo1 (Nat.le_trans HLO.o hg5.size)))
    clear ho5 hg5 c4' f4' gl' B5;go_wp2;go_ret
    refine ⟨by rw [OF.o];rfl,fun _=>?_,B6.o⟩;rw [ST.o,hNE,← SE.o];exact HF.o
 ·have OE:=Lv (OT.o.trans (if_pos h0))
  have H0:=Lv h0;have hne:(Z6 b != 0)=true:=by simpa using h0
  clear h0;obtain ⟨E,hE⟩:∃ E,E=Z6 b:=⟨_,rfl⟩
  rw [← hE] at hne;have EE:=Lv hE;go_enter Tryz.func118,Tryz.ntmps118;go_wp2_with fail;refine SG.o.mono ?_
  rintro e w1 ⟨q1,N,c1,base,hN,rfl,_,_,hg⟩;have B1:=Lv (Qg hg HH.o.lt (by simp):Below lo w w1);rw [SN.o,if_neg H0.o] at hN ⊢;obtain rfl:N=0:=hN;rw [← hE];unfold segV Vi Seg.zero;have B2:=Lv (B1.o.trans (Qg (grown1 w1 (.cells #[.string (strOfNums []),.int .u64 0,.int .u64 0,.int .u64 0,.int .u64 0,.int .i64 0,.slice q1 0 c1] 121)) (Nat.le_trans HH.o.lt hg.size) (by simp)))
  clear hg hE;go_wp2;go_ret
  exact ⟨by rw [OE.o,← EE.o];rfl,fun hz=>absurd (OE.o.symm.trans hz) H0.o,B2.o⟩
end
section
variable {w w':World} {lo g:Nat} {h:Hx} {s:St}
theorem Xa.as {s':St} {f f':Fl} {k k':Int} (H:Xa w lo g h s f k) (hs:{ s with met:=[],secs:=0 }={ s' with met:=[],secs:=0 }) (hf:f=f') (hk:k=k'):Xa w lo g h s' f' k':=by
 subst hf hk;obtain ⟨a1,a2,a3,a4,a5,a6,a7,a8,a9,a10,a11,a12,a13,a14,a15⟩:=s;obtain ⟨b1,b2,b3,b4,b5,b6,b7,b8,b9,b10,b11,b12,b13,b14,b15⟩:=s';simp only [St.mk.injEq,and_true] at hs;obtain ⟨rfl,rfl,rfl,rfl,rfl,rfl,rfl,rfl,rfl,rfl,rfl,rfl,rfl⟩:=hs;exact ⟨H.ex,H.lo1⟩
theorem Qk.old {w w':World} {q:Option Addr} {c g:Nat} {ys:List Int} {lo:Nat} (h:Qk w q c ys) (hq:∀ x,q=some x→x.block < lo) (hl:lo≤g) (hg:w.grownBy w' (some g)):Qk w' q c ys :=
 h.kept hg (fun x hx e=>by injection e with e;have:=hq x hx;omega)
theorem rentry_any {f:Fl} {k:Int} (H:Xa w lo g h s f k) (b:List Int) (q:Option Addr) (c n:Nat) (hb:Qk w q c b) (hn:b.length=n) (hc:n≤c) (hcm:c≤9223372036854775807) (hr:Q3 b) (hs:¬ Ji b) (hq:∀ x,q=some x→x.block < lo) (he:Qd b=2147483688) :
  Calls Tryz.prog 122 #[.pointer (some ⟨g,0,none⟩),.int .u32 2147483688,.slice q n c] w fun e w'=>Ze w w' lo g h ({ s with entry:=Qc b 8 8,has:=true }) { f with en:=true } k (if f.en=true then 21 else 0) e:=by
 have SP:=Lv (refSpans_none (w:=w) b hb hn hc hcm hr hs he);have h24 : 24≤n:=by
  have h1:¬ ((b.length:Int) < Xx (Qd b)):=fun h=>hs (.inr h);rw [he,show Xx 2147483688=24 by decide] at h1;omega
 have AT:=Lv (fun (w1:World) (i:Qk w1 q c b)=>(by have:=Zu (w:=w1) b i hn hc hcm hr 8 8 ⟨by decide,by decide⟩ (by omega);exact this:Calls Tryz.prog 144 #[.slice q n c,.int .i64 8,.int .i64 8] w1 fun e w'=>e=.returned (.int .u64 (Qc b 8 8))∧w1=w'));obtain ⟨V,hV⟩:∃ V,V=Qc b 8 8:=⟨_,rfl⟩
 rw [← hV] at AT ⊢;obtain ⟨fn,fc,fy,fe,fp⟩:=f;have HH:=Lv H;have IB:=Lv hb;have HQ:=Lv hq;clear H hb hn hr hs he h24 hV hq;obtain ⟨sv,dv,a1⟩:=HH.o.at;have c27:=a1.c 27 (.bool fe) rfl;have f27:=a1.fz 27;have gl:=a1.lt;have ON:=Lv (Kg c27 f27 gl);have gS:=Qx (i:=27) (Qq w (some g)) (.bool true);have H2:=Lv (HH.o.cells (s':=s) (f':=⟨fn,fc,fy,true,fp⟩) (k':=k) gS (fun sv dv a=>by
   unfold Zm;rw [heap_setCell_same w g 27 _ _ _ a];rfl) rfl rfl)
 have GS:=Lv gS;have BS:=Lv (Xb GS.o HH.o.lo1 HH.o.lt);have I2:=Lv (IB.o.old HQ.o HH.o.lo1 GS.o);clear a1 gS c27 f27;cases fe
 ·go_enter Tryz.func122,Tryz.ntmps122
  go_wp2_with fail;refine SP.o.mono ?_
  rintro e w1 ⟨rfl,rfl⟩;go_wp2_with fail;refine ON.o.mono ?_
  rintro e w2 ⟨rfl,rfl⟩;obtain ⟨W,hW⟩:∃ W,w.setCell ⟨g,27,none⟩ (.bool true)=W:=⟨_,rfl⟩
  rw [hW] at H2 I2 BS ⊢;clear hW;obtain ⟨sv2,dv2,a2⟩:=H2.o.at;have c22:=a2.c 22 (.int .u64 s.entry) rfl;have c23:=a2.c 23 (.bool s.has) rfl;have f22:=a2.fz 22;have f23:=a2.fz 23;have gl2:=a2.lt;have gT:=Qx (i:=23) (Qx (i:=22) (Qq W (some g)) (.int .u64 V)) (.bool true);have H3:=Lv (H2.o.cells (s':={ s with entry:=V,has:=true }) (f':=⟨fn,fc,fy,true,fp⟩) (k':=k) gT (fun sv dv a=>by
   unfold Zm;rw [heap_setCell_same _ g 23 _ _ _ (heap_setCell_same W g 22 _ _ _ a)];rfl) rfl rfl)
  have B3:=Lv (BS.o.trans (Xb gT H2.o.lo1 H2.o.lt));clear a2 gT;go_wp2_with fail;refine (AT.o _ I2.o).mono ?_
  rintro e w3 ⟨rfl,rfl⟩;go_wp2;go_ret
  exact ⟨rfl,fun _=>H3.o,B3.o⟩
 ·go_enter Tryz.func122,Tryz.ntmps122
  go_wp2_with fail;refine SP.o.mono ?_
  rintro e w1 ⟨rfl,rfl⟩;go_wp2_with fail;refine ON.o.mono ?_
  rintro e w2 ⟨rfl,rfl⟩;go_wp2;go_ret
  exact ⟨rfl,fun hz=>(by cases hz),BS.o⟩
theorem rtriec_any {f:Fl} {k:Int} (H:Xa w lo g h s f k) (b:List Int) (q:Option Addr) (c n:Nat) (hb:Qk w q c b) (hn:b.length=n) (hc:n≤c) (hcm:c≤9223372036854775807) (hr:Q3 b) (hs:¬ Ji b) (_hq:∀ x,q=some x→x.block < lo) (he:Qd b=2147483699) :
  Calls Tryz.prog 122 #[.pointer (some ⟨g,0,none⟩),.int .u32 2147483699,.slice q n c] w fun e w'=>Ze w w' lo g h (Gi s (Qb b 8 1)) f k (Y8 s (Qb b 8 1)) e:=by
 have SP:=Lv (Ve (w:=w) b hb hn hc hcm hr hs (by rw [he];exact .inr (.inl (.inl rfl))));have SPE:=Lv (show Kv b=[Qb b 8 1] by unfold Kv;rw [he];rfl);obtain ⟨fn,fc,fy,fe,fp⟩:=f;have HH:=Lv H;obtain ⟨⟨X0,Y0⟩,e0⟩:∃ z,z=Qb b 8 1:=⟨_,rfl⟩
 rw [← e0] at SPE ⊢;clear H hb hn hr hs he _hq e0;go_enter Tryz.func122,Tryz.ntmps122;go_wp2_with fail;refine SP.o.mono ?_
 rintro e w1 ⟨⟨rb,cb,rfl,hlo,hlt,hrow⟩,hg⟩;rw [SPE.o] at hrow ⊢;have H1:=Lv (HH.o.grown hg);have B1:=Lv (Qg hg HH.o.lt (by simp):Below lo w w1);have hrg:rb≠g:=by
  obtain ⟨sv,dv,a1⟩:=HH.o.at
  have:=a1.lt
  omega
 obtain ⟨r0,r1⟩:=hrow 0 (X0,Y0) rfl;simp only [Nat.zero_mul,Nat.zero_add] at r0 r1;clear hlo hrow hg;simp only [List.length_cons,List.length_nil];have TR:=Lv (Tz H1.o (X0,Y0));unfold Pf at TR;simp only [] at TR;go_wp2_with fail;refine TR.o.mono ?_
 intro e w4 hO;have OO:=Lv (hO.after B1.o);obtain rfl:=hO.val;clear hO;go_wp2;go_ret
 exact OO.o
theorem rchain_any {f:Fl} {k:Int} (H:Xa w lo g h s f k) (b:List Int) (q:Option Addr) (c n:Nat) (hb:Qk w q c b) (hn:b.length=n) (hc:n≤c) (hcm:c≤9223372036854775807) (hr:Q3 b) (hs:¬ Ji b) (_hq:∀ x,q=some x→x.block < lo) (he:Qd b=2147483700) :
  Calls Tryz.prog 122 #[.pointer (some ⟨g,0,none⟩),.int .u32 2147483700,.slice q n c] w fun e w'=>Ze w w' lo g h ({ s with ch:=Qb b 8 1 }) { f with ch:=true } k (if f.ch=true then 21 else 0) e:=by
 have SP:=Lv (Ve (w:=w) b hb hn hc hcm hr hs (by rw [he];exact .inr (.inl (.inr rfl))));have SPE:=Lv (show Kv b=[Qb b 8 1] by unfold Kv;rw [he];rfl);obtain ⟨fn,fc,fy,fe,fp⟩:=f;have HH:=Lv H;obtain ⟨⟨X0,Y0⟩,e0⟩:∃ z,z=Qb b 8 1:=⟨_,rfl⟩
 rw [← e0] at SPE ⊢;clear H hb hn hr hs he _hq e0;cases fc
 ·go_enter Tryz.func122,Tryz.ntmps122
  go_wp2_with fail;refine SP.o.mono ?_
  rintro e w1 ⟨⟨rb,cb,rfl,hlo,hlt,hrow⟩,hg⟩;rw [SPE.o] at hrow ⊢;have H1:=Lv (HH.o.grown hg);have B1:=Lv (Qg hg HH.o.lt (by simp):Below lo w w1);have hrg:rb≠g:=by
   obtain ⟨sv,dv,a1⟩:=HH.o.at
   have:=a1.lt
   omega
  obtain ⟨r0,r1⟩:=hrow 0 (X0,Y0) rfl;simp only [Nat.zero_mul,Nat.zero_add] at r0 r1;clear hlo hrow hg;simp only [List.length_cons,List.length_nil];obtain ⟨sv,dv,a1⟩:=H1.o.at;have c25:=a1.c 25 (.bool false) rfl;have f25:=a1.fz 25;have gl:=a1.lt;have ON:=Lv (Kg c25 f25 gl);have gS:=Qx (i:=25) (Qq w1 (some g)) (.bool true);have H2:=Lv (H1.o.cells (s':=s) (f':=⟨fn,true,fy,fe,fp⟩) (k':=k) gS (fun sv dv a=>by
    unfold Zm;rw [heap_setCell_same w1 g 25 _ _ _ a];rfl) rfl rfl)
  have GS:=Lv gS;have BS:=Lv (B1.o.trans (Xb GS.o H1.o.lo1 H1.o.lt));have q0:=gS.cell r0 (fun e=>hrg (by injection e));have q1:=gS.cell r1 (fun e=>hrg (by injection e));clear a1 gS c25 f25 r0 r1;go_wp2_with fail;refine ON.o.mono ?_
  rintro e w2 ⟨rfl,rfl⟩;obtain ⟨W,hW⟩:∃ W,w1.setCell ⟨g,25,none⟩ (.bool true)=W:=⟨_,rfl⟩
  rw [hW] at H2 BS q0 q1 ⊢;clear hW;obtain ⟨sv2,dv2,a2⟩:=H2.o.at;have c16:=a2.c 16 (.int .u64 s.ch.1) rfl;have f16:=a2.fz 16;have c17:=a2.c 17 (.int .u64 s.ch.2) rfl;have f17:=a2.fz 17;have gl2:=a2.lt;have gT:=Qx (i:=17) (Qx (i:=16) (Qq W (some g)) (.int .u64 X0)) (.int .u64 Y0);have H3:=Lv (H2.o.cells (s':={ s with ch:=(X0,Y0) }) (f':=⟨fn,true,fy,fe,fp⟩) (k':=k) gT (fun sv dv a=>by
   unfold Zm;rw [heap_setCell_same _ g 17 _ _ _ (heap_setCell_same W g 16 _ _ _ a)];rfl) rfl rfl)
  have B3:=Lv (BS.o.trans (Xb gT H2.o.lo1 H2.o.lt));clear a2 gT;go_wp2;go_ret
  exact ⟨rfl,fun _=>H3.o,B3.o⟩
 ·go_enter Tryz.func122,Tryz.ntmps122
  go_wp2_with fail;refine SP.o.mono ?_
  rintro e w1 ⟨⟨rb,cb,rfl,hlo,hlt,hrow⟩,hg⟩;rw [SPE.o] at hrow ⊢;have H1:=Lv (HH.o.grown hg);have B1:=Lv (Qg hg HH.o.lt (by simp):Below lo w w1);have hrg:rb≠g:=by
   obtain ⟨sv,dv,a1⟩:=HH.o.at
   have:=a1.lt
   omega
  obtain ⟨r0,r1⟩:=hrow 0 (X0,Y0) rfl;simp only [Nat.zero_mul,Nat.zero_add] at r0 r1;clear hlo hrow hg;simp only [List.length_cons,List.length_nil];obtain ⟨sv,dv,a1⟩:=H1.o.at;have c25:=a1.c 25 (.bool true) rfl;have f25:=a1.fz 25;have gl:=a1.lt;have ON:=Lv (Kg c25 f25 gl);have gS:=Qx (i:=25) (Qq w1 (some g)) (.bool true);have H2:=Lv (H1.o.cells (s':=s) (f':=⟨fn,true,fy,fe,fp⟩) (k':=k) gS (fun sv dv a=>by
    unfold Zm;rw [heap_setCell_same w1 g 25 _ _ _ a];rfl) rfl rfl)
  have GS:=Lv gS;have BS:=Lv (B1.o.trans (Xb GS.o H1.o.lo1 H1.o.lt));have q0:=gS.cell r0 (fun e=>hrg (by injection e));have q1:=gS.cell r1 (fun e=>hrg (by injection e));clear a1 gS c25 f25 r0 r1;go_wp2_with fail;refine ON.o.mono ?_
  rintro e w2 ⟨rfl,rfl⟩;go_wp2;go_ret
  exact ⟨rfl,fun hz=>(by cases hz),BS.o⟩
theorem rsym_any {f:Fl} {k:Int} (H:Xa w lo g h s f k) (b:List Int) (q:Option Addr) (c n:Nat) (hb:Qk w q c b) (hn:b.length=n) (hc:n≤c) (hcm:c≤9223372036854775807) (hr:Q3 b) (hs:¬ Ji b) (_hq:∀ x,q=some x→x.block < lo) (he:Qd b=2) :
  Calls Tryz.prog 122 #[.pointer (some ⟨g,0,none⟩),.int .u32 2,.slice q n c] w fun e w'=>Ze w w' lo g h ({ s with sy:=Qb b 8 16,st:=Qb b 16 1 }) { f with sy:=true } k (if f.sy=true then 21 else 0) e:=by
 have SP:=Lv (Ve (w:=w) b hb hn hc hcm hr hs (by rw [he];exact .inr (.inr rfl)));have SPE:=Lv (show Kv b=[Qb b 8 16,Qb b 16 1] by unfold Kv;rw [he];rfl);obtain ⟨fn,fc,fy,fe,fp⟩:=f;have HH:=Lv H;obtain ⟨⟨X0,Y0⟩,e0⟩:∃ z,z=Qb b 8 16:=⟨_,rfl⟩
 rw [← e0] at SPE ⊢;obtain ⟨⟨X1,Y1⟩,e1⟩:∃ z,z=Qb b 16 1:=⟨_,rfl⟩
 rw [← e1] at SPE ⊢;clear H hb hn hr hs he _hq e0 e1;cases fy
 ·go_enter Tryz.func122,Tryz.ntmps122
  go_wp2_with fail;refine SP.o.mono ?_
  rintro e w1 ⟨⟨rb,cb,rfl,hlo,hlt,hrow⟩,hg⟩;rw [SPE.o] at hrow ⊢;have H1:=Lv (HH.o.grown hg);have B1:=Lv (Qg hg HH.o.lt (by simp):Below lo w w1);have hrg:rb≠g:=by
   obtain ⟨sv,dv,a1⟩:=HH.o.at
   have:=a1.lt
   omega
  obtain ⟨r0,r1⟩:=hrow 0 (X0,Y0) rfl;obtain ⟨r2,r3⟩:=hrow 1 (X1,Y1) rfl;simp only [Nat.zero_mul,Nat.zero_add,Nat.reduceAdd,Nat.one_mul] at r0 r1 r2 r3;clear hlo hrow hg;simp only [List.length_cons,List.length_nil];obtain ⟨sv,dv,a1⟩:=H1.o.at;have c26:=a1.c 26 (.bool false) rfl;have f26:=a1.fz 26;have gl:=a1.lt;have ON:=Lv (Kg c26 f26 gl);have gS:=Qx (i:=26) (Qq w1 (some g)) (.bool true)
  have H2:=Lv (H1.o.cells (s':=s) (f':=⟨fn,fc,true,fe,fp⟩) (k':=k) gS (fun sv dv a=>by
    unfold Zm;rw [heap_setCell_same w1 g 26 _ _ _ a];rfl) rfl rfl)
  have GS:=Lv gS;have BS:=Lv (B1.o.trans (Xb GS.o H1.o.lo1 H1.o.lt));have q0:=gS.cell r0 (fun e=>hrg (by injection e));have q1:=gS.cell r1 (fun e=>hrg (by injection e));have q2:=gS.cell r2 (fun e=>hrg (by injection e));have q3:=gS.cell r3 (fun e=>hrg (by injection e));clear a1 gS c26 f26 r0 r1 r2 r3;go_wp2_with fail;refine ON.o.mono ?_
  rintro e w2 ⟨rfl,rfl⟩;obtain ⟨W,hW⟩:∃ W,w1.setCell ⟨g,26,none⟩ (.bool true)=W:=⟨_,rfl⟩
  rw [hW] at H2 BS q0 q1 q2 q3 ⊢;clear hW;have H2d:=Lv (H2.o.grown (show W.grownBy W.drew none from Qj (Qq W none) 1));obtain ⟨sv2,dv2,a2⟩:=H2d.o.at;have c18:=a2.c 18 (.int .u64 s.sy.1) rfl;have f18:=a2.fz 18;have c19:=a2.c 19 (.int .u64 s.sy.2) rfl;have f19:=a2.fz 19;have c20:=a2.c 20 (.int .u64 s.st.1) rfl;have f20:=a2.fz 20;have c21:=a2.c 21 (.int .u64 s.st.2) rfl;have f21:=a2.fz 21
  have gl2:=a2.lt;have gT:=Qx (i:=21) (Qx (i:=20) (Qx (i:=19) (Qx (i:=18) (Qq W.drew (some g)) (.int .u64 X0)) (.int .u64 Y0)) (.int .u64 X1)) (.int .u64 Y1);have H3:=Lv (H2d.o.cells (s':={ s with sy:=(X0,Y0),st:=(X1,Y1) }) (f':=⟨fn,fc,true,fe,fp⟩) (k':=k) gT (fun sv dv a=>by
   unfold Zm;rw [heap_setCell_same _ g 21 _ _ _ (heap_setCell_same _ g 20 _ _ _ (heap_setCell_same _ g 19 _ _ _ (heap_setCell_same W.drew g 18 _ _ _ a)))];rfl) rfl rfl)
  have B3:=Lv ((BS.o.trans (Hu (Below.refl _ _) 1)).trans (Xb gT H2d.o.lo1 H2d.o.lt));clear gT;obtain ⟨sv3,dv3,a3⟩:=H2.o.at;have d18:=a3.c 18 (.int .u64 s.sy.1) rfl;have d19:=a3.c 19 (.int .u64 s.sy.2) rfl;have d20:=a3.c 20 (.int .u64 s.st.1) rfl;have d21:=a3.c 21 (.int .u64 s.st.2) rfl;have e18:=a3.fz 18;have e19:=a3.fz 19;have e20:=a3.fz 20;have e21:=a3.fz 21;have gl3:=a3.lt
  clear a2 a3;go_wp2;go_region
  go_wp2;go_ret
  exact ⟨rfl,fun _=>H3.o,B3.o⟩
 ·go_enter Tryz.func122,Tryz.ntmps122
  go_wp2_with fail;refine SP.o.mono ?_
  rintro e w1 ⟨⟨rb,cb,rfl,hlo,hlt,hrow⟩,hg⟩;rw [SPE.o] at hrow ⊢;have H1:=Lv (HH.o.grown hg);have B1:=Lv (Qg hg HH.o.lt (by simp):Below lo w w1);have hrg:rb≠g:=by
   obtain ⟨sv,dv,a1⟩:=HH.o.at
   have:=a1.lt
   omega
  obtain ⟨r0,r1⟩:=hrow 0 (X0,Y0) rfl;obtain ⟨r2,r3⟩:=hrow 1 (X1,Y1) rfl;simp only [Nat.zero_mul,Nat.zero_add,Nat.reduceAdd,Nat.one_mul] at r0 r1 r2 r3;clear hlo hrow hg;simp only [List.length_cons,List.length_nil];obtain ⟨sv,dv,a1⟩:=H1.o.at;have c26:=a1.c 26 (.bool true) rfl;have f26:=a1.fz 26;have gl:=a1.lt;have ON:=Lv (Kg c26 f26 gl);have gS:=Qx (i:=26) (Qq w1 (some g)) (.bool true)
  have H2:=Lv (H1.o.cells (s':=s) (f':=⟨fn,fc,true,fe,fp⟩) (k':=k) gS (fun sv dv a=>by
    unfold Zm;rw [heap_setCell_same w1 g 26 _ _ _ a];rfl) rfl rfl)
  have GS:=Lv gS;have BS:=Lv (B1.o.trans (Xb GS.o H1.o.lo1 H1.o.lt));have q0:=gS.cell r0 (fun e=>hrg (by injection e));have q1:=gS.cell r1 (fun e=>hrg (by injection e));have q2:=gS.cell r2 (fun e=>hrg (by injection e));have q3:=gS.cell r3 (fun e=>hrg (by injection e));clear a1 gS c26 f26 r0 r1 r2 r3;go_wp2_with fail;refine ON.o.mono ?_
  rintro e w2 ⟨rfl,rfl⟩;go_wp2;go_ret
  exact ⟨rfl,fun hz=>(by cases hz),BS.o⟩
theorem rinfo_any {f:Fl} {k:Int} (H:Xa w lo g h s f k) (b:List Int) (cm:Int) (hcmd:cm=34∨cm=2147483682) (q:Option Addr) (c n:Nat) (hb:Qk w q c b) (hn:b.length=n) (hc:n≤c) (hcm:c≤9223372036854775807) (hr:Q3 b) (hs:¬ Ji b) (_hq:∀ x,q=some x→x.block < lo) (he:Qd b=cm) :
  Calls Tryz.prog 122 #[.pointer (some ⟨g,0,none⟩),.int .u32 cm,.slice q n c] w fun e w'=>Ze w w' lo g h (Gi { s with rb:=Qb b 8 1,bd:=Qb b 16 1,wk:=Qb b 24 1,lz:=Qb b 32 1 } (Qb b 40 1)) { f with sp:=true } k (if f.sp=true then 21 else Y8 { s with rb:=Qb b 8 1,bd:=Qb b 16 1,wk:=Qb b 24 1,lz:=Qb b 32 1 } (Qb b 40 1)) e:=by
 have SP:=Lv (Ve (w:=w) b hb hn hc hcm hr hs (by rw [he];exact .inl hcmd));have SPE:=Lv (show Kv b=[Qb b 8 1,Qb b 16 1,Qb b 24 1,Qb b 32 1,Qb b 40 1] by unfold Kv;rw [he];rcases hcmd with rfl | rfl <;> rfl);obtain ⟨fn,fc,fy,fe,fp⟩:=f;have HH:=Lv H;obtain ⟨⟨X0,Y0⟩,e0⟩:∃ z,z=Qb b 8 1:=⟨_,rfl⟩
 rw [← e0] at SPE ⊢;obtain ⟨⟨X1,Y1⟩,e1⟩:∃ z,z=Qb b 16 1:=⟨_,rfl⟩
 rw [← e1] at SPE ⊢;obtain ⟨⟨X2,Y2⟩,e2⟩:∃ z,z=Qb b 24 1:=⟨_,rfl⟩
 rw [← e2] at SPE ⊢;obtain ⟨⟨X3,Y3⟩,e3⟩:∃ z,z=Qb b 32 1:=⟨_,rfl⟩
 rw [← e3] at SPE ⊢;obtain ⟨⟨X4,Y4⟩,e4⟩:∃ z,z=Qb b 40 1:=⟨_,rfl⟩
 rw [← e4] at SPE ⊢;clear H hb hn hr hs he _hq e0 e1 e2 e3 e4;rcases hcmd with rfl | rfl
 ·cases fp
  ·go_enter Tryz.func122,Tryz.ntmps122
   go_wp2_with fail;refine SP.o.mono ?_
   rintro e w1 ⟨⟨rb,cb,rfl,hlo,hlt,hrow⟩,hg⟩;rw [SPE.o] at hrow ⊢;have H1:=Lv (HH.o.grown hg);have B1:=Lv (Qg hg HH.o.lt (by simp):Below lo w w1);have hrg:rb≠g:=by
    obtain ⟨sv,dv,a1⟩:=HH.o.at
    have:=a1.lt
    omega
   obtain ⟨r0,r1⟩:=hrow 0 (X0,Y0) rfl;obtain ⟨r2,r3⟩:=hrow 1 (X1,Y1) rfl;obtain ⟨r4,r5⟩:=hrow 2 (X2,Y2) rfl;obtain ⟨r6,r7⟩:=hrow 3 (X3,Y3) rfl;obtain ⟨r8,r9⟩:=hrow 4 (X4,Y4) rfl;simp only [Nat.zero_mul,Nat.zero_add,Nat.reduceAdd,Nat.one_mul,Nat.reduceMul] at r0 r1 r2 r3 r4 r5 r6 r7 r8 r9;clear hlo hrow hg;simp only [List.length_cons,List.length_nil];obtain ⟨sv,dv,a1⟩:=H1.o.at;have c28:=a1.c 28 (.bool false) rfl
   have f28:=a1.fz 28;have gl:=a1.lt;have ON:=Lv (Kg c28 f28 gl);have gS:=Qx (i:=28) (Qq w1 (some g)) (.bool true);have H2:=Lv (H1.o.cells (s':=s) (f':=⟨fn,fc,fy,fe,true⟩) (k':=k) gS (fun sv dv a=>by
     unfold Zm;rw [heap_setCell_same w1 g 28 _ _ _ a];rfl) rfl rfl)
   have GS:=Lv gS;have BS:=Lv (B1.o.trans (Xb GS.o H1.o.lo1 H1.o.lt));have q0:=gS.cell r0 (fun e=>hrg (by injection e));have q1:=gS.cell r1 (fun e=>hrg (by injection e));have q2:=gS.cell r2 (fun e=>hrg (by injection e));have q3:=gS.cell r3 (fun e=>hrg (by injection e));have q4:=gS.cell r4 (fun e=>hrg (by injection e));have q5:=gS.cell r5 (fun e=>hrg (by injection e));have q6:=gS.cell r6 (fun e=>hrg (by injection e))
   have q7:=gS.cell r7 (fun e=>hrg (by injection e));have q8:=gS.cell r8 (fun e=>hrg (by injection e));have q9:=gS.cell r9 (fun e=>hrg (by injection e));clear a1 gS c28 f28 r0 r1 r2 r3 r4 r5 r6 r7 r8 r9;go_wp2_with fail;refine ON.o.mono ?_
   rintro e w2 ⟨rfl,rfl⟩;obtain ⟨W,hW⟩:∃ W,w1.setCell ⟨g,28,none⟩ (.bool true)=W:=⟨_,rfl⟩
   rw [hW] at H2 BS q0 q1 q2 q3 q4 q5 q6 q7 q8 q9 ⊢;clear hW;obtain ⟨sv2,dv2,a2⟩:=H2.o.at;have c6:=a2.c 6 (.int .u64 s.rb.1) rfl;have f6:=a2.fz 6;have c7:=a2.c 7 (.int .u64 s.rb.2) rfl;have f7:=a2.fz 7;have c8:=a2.c 8 (.int .u64 s.bd.1) rfl;have f8:=a2.fz 8;have c9:=a2.c 9 (.int .u64 s.bd.2) rfl;have f9:=a2.fz 9;have c10:=a2.c 10 (.int .u64 s.wk.1) rfl;have f10:=a2.fz 10;have c11:=a2.c 11 (.int .u64 s.wk.2) rfl
   have f11:=a2.fz 11;have c12:=a2.c 12 (.int .u64 s.lz.1) rfl;have f12:=a2.fz 12;have c13:=a2.c 13 (.int .u64 s.lz.2) rfl;have f13:=a2.fz 13;have gl2:=a2.lt;have gT:=Qx (i:=13) (Qx (i:=12) (Qx (i:=11) (Qx (i:=10) (Qx (i:=9) (Qx (i:=8) (Qx (i:=7) (Qx (i:=6) (Qq W (some g)) (.int .u64 X0)) (.int .u64 Y0)) (.int .u64 X1)) (.int .u64 Y1)) (.int .u64 X2)) (.int .u64 Y2)) (.int .u64 X3)) (.int .u64 Y3)
   have H3:=Lv (H2.o.cells (s':={ s with rb:=(X0,Y0),bd:=(X1,Y1),wk:=(X2,Y2),lz:=(X3,Y3) }) (f':=⟨fn,fc,fy,fe,true⟩) (k':=k) gT (fun sv dv a=>by
    unfold Zm;rw [heap_setCell_same _ g 13 _ _ _ (heap_setCell_same _ g 12 _ _ _ (heap_setCell_same _ g 11 _ _ _ (heap_setCell_same _ g 10 _ _ _ (heap_setCell_same _ g 9 _ _ _ (heap_setCell_same _ g 8 _ _ _ (heap_setCell_same _ g 7 _ _ _ (heap_setCell_same W g 6 _ _ _ a)))))))];rfl) rfl rfl)
   have gT2:=Qj gT 1;have H3d:=Lv (H3.o.grown (Qj (Qq _ none) 1));have B3:=Lv (BS.o.trans (Xb gT2 H2.o.lo1 H2.o.lt));have t8:=gT2.cell q8 (fun e=>hrg (by injection e));have t9:=gT2.cell q9 (fun e=>hrg (by injection e));clear gT gT2;obtain ⟨sv3,dv3,a3⟩:=H2.o.at;have d6:=a3.c 6 (.int .u64 s.rb.1) rfl;have e6:=a3.fz 6;have d7:=a3.c 7 (.int .u64 s.rb.2) rfl
   have e7:=a3.fz 7;have d8:=a3.c 8 (.int .u64 s.bd.1) rfl;have e8:=a3.fz 8;have d9:=a3.c 9 (.int .u64 s.bd.2) rfl;have e9:=a3.fz 9;have d10:=a3.c 10 (.int .u64 s.wk.1) rfl;have e10:=a3.fz 10;have d11:=a3.c 11 (.int .u64 s.wk.2) rfl;have e11:=a3.fz 11;have d12:=a3.c 12 (.int .u64 s.lz.1) rfl;have e12:=a3.fz 12;have d13:=a3.c 13 (.int .u64 s.lz.2) rfl;have e13:=a3.fz 13;have gl3:=a3.lt;clear a2 a3;go_upto_region 5 with fail
   go_region
   obtain ⟨W3,hW3⟩:∃ W3,(((((((((W.setCell ⟨g,6,none⟩ (.int .u64 X0)).setCell ⟨g,7,none⟩ (.int .u64 Y0)).setCell ⟨g,8,none⟩ (.int .u64 X1)).setCell ⟨g,9,none⟩ (.int .u64 Y1)).setCell ⟨g,10,none⟩ (.int .u64 X2)).setCell ⟨g,11,none⟩ (.int .u64 Y2)).setCell ⟨g,12,none⟩ (.int .u64 X3)).setCell ⟨g,13,none⟩ (.int .u64 Y3)).drew)=W3:=⟨_,rfl⟩
   have H3d:Xa W3 lo g h { s with rb:=(X0,Y0),bd:=(X1,Y1),wk:=(X2,Y2),lz:=(X3,Y3) } ⟨fn,fc,fy,fe,true⟩ k:=by rw [← hW3];exact H3d.o
   rw [show World.drewN _ 1=W3 from hW3] at B3 t8 t9;rw [hW3];have TR:=Lv (Tz H3d (X4,Y4));unfold Pf at TR;simp only [] at TR;clear hW3 d6 e6 c6 f6 d7 e7 c7 f7 d8 e8 c8 f8 d9 e9 c9 f9 d10 e10 c10 f10 d11 e11 c11 f11 d12 e12 c12 f12 d13 e13 c13 f13 q0 q1 q2 q3 q4 q5 q6 q7 q8 q9;go_wp2_with fail;refine TR.o.mono ?_
   intro e w4 hO;have OO:=Lv (hO.after B3.o);obtain rfl:=hO.val;clear hO;go_wp2;go_ret
   exact OO.o
  ·go_enter Tryz.func122,Tryz.ntmps122
   go_wp2_with fail;refine SP.o.mono ?_
   rintro e w1 ⟨⟨rb,cb,rfl,hlo,hlt,hrow⟩,hg⟩;rw [SPE.o] at hrow ⊢;have H1:=Lv (HH.o.grown hg);have B1:=Lv (Qg hg HH.o.lt (by simp):Below lo w w1);have hrg:rb≠g:=by
    obtain ⟨sv,dv,a1⟩:=HH.o.at
    have:=a1.lt
    omega
   obtain ⟨r0,r1⟩:=hrow 0 (X0,Y0) rfl;obtain ⟨r2,r3⟩:=hrow 1 (X1,Y1) rfl;obtain ⟨r4,r5⟩:=hrow 2 (X2,Y2) rfl;obtain ⟨r6,r7⟩:=hrow 3 (X3,Y3) rfl;obtain ⟨r8,r9⟩:=hrow 4 (X4,Y4) rfl;simp only [Nat.zero_mul,Nat.zero_add,Nat.reduceAdd,Nat.one_mul,Nat.reduceMul] at r0 r1 r2 r3 r4 r5 r6 r7 r8 r9;clear hlo hrow hg;simp only [List.length_cons,List.length_nil];obtain ⟨sv,dv,a1⟩:=H1.o.at;have c28:=a1.c 28 (.bool true) rfl
   have f28:=a1.fz 28;have gl:=a1.lt;have ON:=Lv (Kg c28 f28 gl);have gS:=Qx (i:=28) (Qq w1 (some g)) (.bool true);have H2:=Lv (H1.o.cells (s':=s) (f':=⟨fn,fc,fy,fe,true⟩) (k':=k) gS (fun sv dv a=>by
     unfold Zm;rw [heap_setCell_same w1 g 28 _ _ _ a];rfl) rfl rfl)
   have GS:=Lv gS;have BS:=Lv (B1.o.trans (Xb GS.o H1.o.lo1 H1.o.lt));have q0:=gS.cell r0 (fun e=>hrg (by injection e));have q1:=gS.cell r1 (fun e=>hrg (by injection e));have q2:=gS.cell r2 (fun e=>hrg (by injection e));have q3:=gS.cell r3 (fun e=>hrg (by injection e));have q4:=gS.cell r4 (fun e=>hrg (by injection e));have q5:=gS.cell r5 (fun e=>hrg (by injection e));have q6:=gS.cell r6 (fun e=>hrg (by injection e))
   have q7:=gS.cell r7 (fun e=>hrg (by injection e));have q8:=gS.cell r8 (fun e=>hrg (by injection e));have q9:=gS.cell r9 (fun e=>hrg (by injection e));clear a1 gS c28 f28 r0 r1 r2 r3 r4 r5 r6 r7 r8 r9;go_wp2_with fail;refine ON.o.mono ?_
   rintro e w2 ⟨rfl,rfl⟩;go_wp2;go_ret
   exact ⟨rfl,fun hz=>(by cases hz),BS.o⟩
 ·cases fp
  ·go_enter Tryz.func122,Tryz.ntmps122
   go_wp2_with fail;refine SP.o.mono ?_
   rintro e w1 ⟨⟨rb,cb,rfl,hlo,hlt,hrow⟩,hg⟩;rw [SPE.o] at hrow ⊢;have H1:=Lv (HH.o.grown hg);have B1:=Lv (Qg hg HH.o.lt (by simp):Below lo w w1);have hrg:rb≠g:=by
    obtain ⟨sv,dv,a1⟩:=HH.o.at
    have:=a1.lt
    omega
   obtain ⟨r0,r1⟩:=hrow 0 (X0,Y0) rfl;obtain ⟨r2,r3⟩:=hrow 1 (X1,Y1) rfl;obtain ⟨r4,r5⟩:=hrow 2 (X2,Y2) rfl;obtain ⟨r6,r7⟩:=hrow 3 (X3,Y3) rfl;obtain ⟨r8,r9⟩:=hrow 4 (X4,Y4) rfl;simp only [Nat.zero_mul,Nat.zero_add,Nat.reduceAdd,Nat.one_mul,Nat.reduceMul] at r0 r1 r2 r3 r4 r5 r6 r7 r8 r9;clear hlo hrow hg;simp only [List.length_cons,List.length_nil];obtain ⟨sv,dv,a1⟩:=H1.o.at;have c28:=a1.c 28 (.bool false) rfl
   have f28:=a1.fz 28;have gl:=a1.lt;have ON:=Lv (Kg c28 f28 gl);have gS:=Qx (i:=28) (Qq w1 (some g)) (.bool true);have H2:=Lv (H1.o.cells (s':=s) (f':=⟨fn,fc,fy,fe,true⟩) (k':=k) gS (fun sv dv a=>by
     unfold Zm;rw [heap_setCell_same w1 g 28 _ _ _ a];rfl) rfl rfl)
   have GS:=Lv gS;have BS:=Lv (B1.o.trans (Xb GS.o H1.o.lo1 H1.o.lt));have q0:=gS.cell r0 (fun e=>hrg (by injection e));have q1:=gS.cell r1 (fun e=>hrg (by injection e));have q2:=gS.cell r2 (fun e=>hrg (by injection e));have q3:=gS.cell r3 (fun e=>hrg (by injection e));have q4:=gS.cell r4 (fun e=>hrg (by injection e));have q5:=gS.cell r5 (fun e=>hrg (by injection e));have q6:=gS.cell r6 (fun e=>hrg (by injection e))
   have q7:=gS.cell r7 (fun e=>hrg (by injection e));have q8:=gS.cell r8 (fun e=>hrg (by injection e));have q9:=gS.cell r9 (fun e=>hrg (by injection e));clear a1 gS c28 f28 r0 r1 r2 r3 r4 r5 r6 r7 r8 r9;go_wp2_with fail;refine ON.o.mono ?_
   rintro e w2 ⟨rfl,rfl⟩;obtain ⟨W,hW⟩:∃ W,w1.setCell ⟨g,28,none⟩ (.bool true)=W:=⟨_,rfl⟩
   rw [hW] at H2 BS q0 q1 q2 q3 q4 q5 q6 q7 q8 q9 ⊢;clear hW;obtain ⟨sv2,dv2,a2⟩:=H2.o.at;have c6:=a2.c 6 (.int .u64 s.rb.1) rfl;have f6:=a2.fz 6;have c7:=a2.c 7 (.int .u64 s.rb.2) rfl;have f7:=a2.fz 7;have c8:=a2.c 8 (.int .u64 s.bd.1) rfl;have f8:=a2.fz 8;have c9:=a2.c 9 (.int .u64 s.bd.2) rfl;have f9:=a2.fz 9;have c10:=a2.c 10 (.int .u64 s.wk.1) rfl;have f10:=a2.fz 10;have c11:=a2.c 11 (.int .u64 s.wk.2) rfl
   have f11:=a2.fz 11;have c12:=a2.c 12 (.int .u64 s.lz.1) rfl;have f12:=a2.fz 12;have c13:=a2.c 13 (.int .u64 s.lz.2) rfl;have f13:=a2.fz 13;have gl2:=a2.lt;have gT:=Qx (i:=13) (Qx (i:=12) (Qx (i:=11) (Qx (i:=10) (Qx (i:=9) (Qx (i:=8) (Qx (i:=7) (Qx (i:=6) (Qq W (some g)) (.int .u64 X0)) (.int .u64 Y0)) (.int .u64 X1)) (.int .u64 Y1)) (.int .u64 X2)) (.int .u64 Y2)) (.int .u64 X3)) (.int .u64 Y3)
   have H3:=Lv (H2.o.cells (s':={ s with rb:=(X0,Y0),bd:=(X1,Y1),wk:=(X2,Y2),lz:=(X3,Y3) }) (f':=⟨fn,fc,fy,fe,true⟩) (k':=k) gT (fun sv dv a=>by
    unfold Zm;rw [heap_setCell_same _ g 13 _ _ _ (heap_setCell_same _ g 12 _ _ _ (heap_setCell_same _ g 11 _ _ _ (heap_setCell_same _ g 10 _ _ _ (heap_setCell_same _ g 9 _ _ _ (heap_setCell_same _ g 8 _ _ _ (heap_setCell_same _ g 7 _ _ _ (heap_setCell_same W g 6 _ _ _ a)))))))];rfl) rfl rfl)
   have gT2:=Qj gT 1;have H3d:=Lv (H3.o.grown (Qj (Qq _ none) 1));have B3:=Lv (BS.o.trans (Xb gT2 H2.o.lo1 H2.o.lt));have t8:=gT2.cell q8 (fun e=>hrg (by injection e));have t9:=gT2.cell q9 (fun e=>hrg (by injection e));clear gT gT2;obtain ⟨sv3,dv3,a3⟩:=H2.o.at;have d6:=a3.c 6 (.int .u64 s.rb.1) rfl;have e6:=a3.fz 6;have d7:=a3.c 7 (.int .u64 s.rb.2) rfl
   have e7:=a3.fz 7;have d8:=a3.c 8 (.int .u64 s.bd.1) rfl;have e8:=a3.fz 8;have d9:=a3.c 9 (.int .u64 s.bd.2) rfl;have e9:=a3.fz 9;have d10:=a3.c 10 (.int .u64 s.wk.1) rfl;have e10:=a3.fz 10;have d11:=a3.c 11 (.int .u64 s.wk.2) rfl;have e11:=a3.fz 11;have d12:=a3.c 12 (.int .u64 s.lz.1) rfl;have e12:=a3.fz 12;have d13:=a3.c 13 (.int .u64 s.lz.2) rfl;have e13:=a3.fz 13;have gl3:=a3.lt;clear a2 a3;go_upto_region 5 with fail
   go_region
   obtain ⟨W3,hW3⟩:∃ W3,(((((((((W.setCell ⟨g,6,none⟩ (.int .u64 X0)).setCell ⟨g,7,none⟩ (.int .u64 Y0)).setCell ⟨g,8,none⟩ (.int .u64 X1)).setCell ⟨g,9,none⟩ (.int .u64 Y1)).setCell ⟨g,10,none⟩ (.int .u64 X2)).setCell ⟨g,11,none⟩ (.int .u64 Y2)).setCell ⟨g,12,none⟩ (.int .u64 X3)).setCell ⟨g,13,none⟩ (.int .u64 Y3)).drew)=W3:=⟨_,rfl⟩
   have H3d:Xa W3 lo g h { s with rb:=(X0,Y0),bd:=(X1,Y1),wk:=(X2,Y2),lz:=(X3,Y3) } ⟨fn,fc,fy,fe,true⟩ k:=by rw [← hW3];exact H3d.o
   rw [show World.drewN _ 1=W3 from hW3] at B3 t8 t9;rw [hW3];have TR:=Lv (Tz H3d (X4,Y4));unfold Pf at TR;simp only [] at TR;clear hW3 d6 e6 c6 f6 d7 e7 c7 f7 d8 e8 c8 f8 d9 e9 c9 f9 d10 e10 c10 f10 d11 e11 c11 f11 d12 e12 c12 f12 d13 e13 c13 f13 q0 q1 q2 q3 q4 q5 q6 q7 q8 q9;go_wp2_with fail;refine TR.o.mono ?_
   intro e w4 hO;have OO:=Lv (hO.after B3.o);obtain rfl:=hO.val;clear hO;go_wp2;go_ret
   exact OO.o
  ·go_enter Tryz.func122,Tryz.ntmps122
   go_wp2_with fail;refine SP.o.mono ?_
   rintro e w1 ⟨⟨rb,cb,rfl,hlo,hlt,hrow⟩,hg⟩;rw [SPE.o] at hrow ⊢;have H1:=Lv (HH.o.grown hg);have B1:=Lv (Qg hg HH.o.lt (by simp):Below lo w w1);have hrg:rb≠g:=by
    obtain ⟨sv,dv,a1⟩:=HH.o.at
    have:=a1.lt
    omega
   obtain ⟨r0,r1⟩:=hrow 0 (X0,Y0) rfl;obtain ⟨r2,r3⟩:=hrow 1 (X1,Y1) rfl;obtain ⟨r4,r5⟩:=hrow 2 (X2,Y2) rfl;obtain ⟨r6,r7⟩:=hrow 3 (X3,Y3) rfl;obtain ⟨r8,r9⟩:=hrow 4 (X4,Y4) rfl;simp only [Nat.zero_mul,Nat.zero_add,Nat.reduceAdd,Nat.one_mul,Nat.reduceMul] at r0 r1 r2 r3 r4 r5 r6 r7 r8 r9;clear hlo hrow hg;simp only [List.length_cons,List.length_nil];obtain ⟨sv,dv,a1⟩:=H1.o.at;have c28:=a1.c 28 (.bool true) rfl
   have f28:=a1.fz 28;have gl:=a1.lt;have ON:=Lv (Kg c28 f28 gl);have gS:=Qx (i:=28) (Qq w1 (some g)) (.bool true);have H2:=Lv (H1.o.cells (s':=s) (f':=⟨fn,fc,fy,fe,true⟩) (k':=k) gS (fun sv dv a=>by
     unfold Zm;rw [heap_setCell_same w1 g 28 _ _ _ a];rfl) rfl rfl)
   have GS:=Lv gS;have BS:=Lv (B1.o.trans (Xb GS.o H1.o.lo1 H1.o.lt));have q0:=gS.cell r0 (fun e=>hrg (by injection e));have q1:=gS.cell r1 (fun e=>hrg (by injection e));have q2:=gS.cell r2 (fun e=>hrg (by injection e));have q3:=gS.cell r3 (fun e=>hrg (by injection e));have q4:=gS.cell r4 (fun e=>hrg (by injection e));have q5:=gS.cell r5 (fun e=>hrg (by injection e));have q6:=gS.cell r6 (fun e=>hrg (by injection e))
   have q7:=gS.cell r7 (fun e=>hrg (by injection e));have q8:=gS.cell r8 (fun e=>hrg (by injection e));have q9:=gS.cell r9 (fun e=>hrg (by injection e));clear a1 gS c28 f28 r0 r1 r2 r3 r4 r5 r6 r7 r8 r9;go_wp2_with fail;refine ON.o.mono ?_
   rintro e w2 ⟨rfl,rfl⟩;go_wp2;go_ret
   exact ⟨rfl,fun hz=>(by cases hz),BS.o⟩
end
end Go.Proofs.YtkmbkpoclhbmgaaGreat
