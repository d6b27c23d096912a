/- Parts of the proof, put together: NlC, RefCur, NlG, NlH, NlR, NlP, Cm, LdN, Within, Front, ReadNo, TakeC, Iter. No condition beyond those that each part names. -/
import Derived.Stop.Asserts
import Derived.Laws.Externs
import Derived.WalkArith
import Derived.Maps.Views
import Derived.RangeFuncRecord
import Derived.RangeFuncSeq
import Derived.RangeFuncCalls
import Derived.RangeFuncBound
import Derived.OwnWalkIn
import Derived.TacticsInMore
import Derived.Shelf.RegionOpen
import Derived.Test.YtkmbkpoclhbmgaaGreatPA12
set_option maxRecDepth 20000
set_option maxHeartbeats 6400000
namespace Go.Proofs.YtkmbkpoclhbmgaaGreat
open Go.RowKit
variable {w w' W V:World}
section
open Go.RowKit Go.Maps
variable {w w':World} {B g a lo hi m:Nat} {v:Value} {ys:List Int} {n:Int} {p:Nat} {D:Syms}
theorem addE_none {q:Nat} (hq:¬ (q≤ys.length∧(pre (ys.drop q)).length < (ys.drop q).length)):addE ys D q=13:=by
 unfold addE Pg;rw [Int.toNat_natCast];by_cases h1:(ys.length:Int)≤(q:Int)
 ·rw [if_pos h1];rfl
 ·rw [if_neg h1]
  have h2:(pre (ys.drop q)=[]∨(ys.drop q).length≤(pre (ys.drop q)).length):=.inr (by have:¬ _:=fun h=>hq ⟨by omega,h⟩;omega);rw [if_pos h2];rfl
theorem add_any (h:Xi w B g a lo hi m v ys n p D) (hok:Jg D) (hy:Byt ys) (q:Nat) (h32:(q:Int) < 4294967296) (x:Sy) :
  Calls Tryz.prog 205 #[.pointer (some ⟨g,0,none⟩),syV ⟨#[]⟩ x,.int .u64 q] w fun e w'=>Pm w w' B g a lo hi m ys n D (D ++ [(pre (ys.drop q),x)]) (addE ys D q) e:=by
 by_cases hq:q≤ys.length∧(pre (ys.drop q)).length < (ys.drop q).length
 ·exact add_some h hok hy q hq h32 x
 ·refine (add_none h (fun y hy=>(hok.each y hy).1) q hq h32 _ x).mono ?_
  rintro e w' ⟨rfl,hb⟩;rw [addE_none hq];exact ⟨rfl,hb,fun h=>by cases h⟩
theorem take_any10 (h:Xi w B g a lo hi m v ys n p D) (hok:Jg D) (hy:Byt ys) {e:List Int} {q:Option Addr} {c:Nat} (hb:Qk w q c e) (hl:e.length=16) (he:Byt e) :
  Calls Tryz.prog 202 #[.pointer (some ⟨g,0,none⟩),.slice q 16 c] w fun r w'=>Pm w w' B g a lo hi m ys n D (nlD ys D e) (nlE ys n D e) r:=by
 have hBhi:B≤hi:=Nat.le_trans h.lo (Nat.le_of_lt (Nat.lt_of_le_of_lt h.pen.lw h.pen.up));have hBw:B≤w.heap.size:=Nat.le_trans hBhi h.pen.sz;have NW:=Lv (Pj hb hl (by omega) he false);have H:=Lv h;have HOK:=Lv hok;have HY:=Lv hy;have HE:=Lv he;have HL:=Lv hl;have N0:=Lv (fun (V:World) (lo hi b:Nat) (hp:Pen V lo hi b e 0 false false)=>Mh hp 4 (by decide) (by omega))
 have N4:=Lv (fun (V:World) (lo hi b:Nat) (hp:Pen V lo hi b e 4 false false)=>Mh hp 1 (by decide) (by omega));have N5:=Lv (fun (V:World) (lo hi b:Nat) (hp:Pen V lo hi b e 5 false false)=>Mh hp 1 (by decide) (by omega));have N6:=Lv (fun (V:World) (lo hi b:Nat) (hp:Pen V lo hi b e 6 false false)=>Mh hp 2 (by decide) (by omega));have N8:=Lv (fun (V:World) (lo hi b:Nat) (hp:Pen V lo hi b e 8 false false)=>Mh hp 8 (by decide) (by omega))
 rw [show Vm false ((e.drop 0).take 4)=J4 e from rfl] at N0;rw [one_at (show 4 < e.length by omega),show Vm false [e.getD 4 0]=X9 e from le_one _] at N4;rw [one_at (show 5 < e.length by omega),show Vm false [e.getD 5 0]=Yk e from le_one _] at N5;rw [show Vm false ((e.drop 6).take 2)=By e from rfl] at N6;rw [show Vm false ((e.drop 8).take 8)=My e from rfl] at N8;have b4 : 0≤X9 e∧X9 e < 256:=Mn he 4
 have b5 : 0≤Yk e∧Yk e < 256:=Mn he 5;have bp:=nlPlace_bd he;have bd:=nlDesc_bd he;have bv:=Rt he;have AD:=Lv (fun (V:World) (hV:w.grownBy V none) (x:Sy) (P:Nat) (hP:(P:Int) < 4294967296)=>add_any (h.grown hV) hok hy P hP x);obtain ⟨P,hP⟩:∃ P:Nat,J4 e=P:=⟨(J4 e).toNat,by omega⟩
 have EB:X9 e=15→(Yk e=0∨n < Yk e)→nlE ys n D e=13:=fun h1 h2=>by
  have ht:Ym e=true:=by unfold Ym;simp [h1]
  unfold nlE;rw [if_pos ht,nlAdd_is,if_pos ⟨h1,h2⟩]
 have EG:(X9 e=3∨(X9 e=15∧¬ (Yk e=0∨n < Yk e)))→nlE ys n D e=addE ys D P∧nlD ys D e=D ++ [(pre (ys.drop P),⟨if X9 e=15 then Yk e else 0,My e,decide (By e / 128 % 2=1)⟩)]:=fun h1=>by
  have ht:Ym e=true:=by unfold Ym;rcases h1 with h1 | h1 <;> simp [h1]
  unfold nlE nlD;rw [if_pos ht,if_pos ht,nlAdd_is,if_neg (fun h2=>by rcases h1 with h1 | h1;(rw [h1] at h2;exact absurd h2.1 (by decide));exact h1.2 h2.2),hP];refine ⟨rfl,?_⟩;unfold Hf nlNm nlSy;rw [hP,Int.toNat_natCast]
 have EN:¬ X9 e=15→¬ X9 e=3→nlE ys n D e=0∧nlD ys D e=D:=fun h1 h2=>by
  have ht:¬ Ym e=true:=by unfold Ym;simp [h1,h2]
  unfold nlE nlD;rw [if_neg ht,if_neg ht];exact ⟨rfl,rfl⟩
 rw [hP] at N0 bp;obtain ⟨E,hE⟩:∃ E,E=nlE ys n D e:=⟨_,rfl⟩
 obtain ⟨D',hD'⟩:∃ D',D'=nlD ys D e:=⟨_,rfl⟩
 rw [← hE,← hD'] at EG EN ⊢;rw [← hE] at EB;generalize X9 e=K at *;generalize Yk e=S at *;generalize My e=Vl at *;generalize By e=De at *;have B1:=Lv EB;have B2:=Lv EG;have B3:=Lv EN;have b2:(P:Int) < 4294967296:=bp.2;obtain ⟨Wk,hWk⟩:∃ W,W=decide (De / 128 % 2=1):=⟨_,rfl⟩
 have hAnd:bits .and .u64 De 128=De / 128 % 2 * 128:=and128 De (by omega);have hz:((De / 128 % 2 * 128) != 0)=Wk:=by
  rw [hWk];by_cases h:De / 128 % 2=1
  ·rw [h];rfl
  ·have:De / 128 % 2=0:=by omega
   rw [this];rfl
 rw [← hWk] at B2;obtain ⟨Z,hZ⟩:∃ Z,Z=De / 128 % 2 * 128:=⟨_,rfl⟩
 rw [← hZ] at hAnd hz;clear hZ hWk;obtain ⟨hS0,hS1⟩:=b5;have hS2:S≤9223372036854775807:=by omega
 have hSw:wrap64 S=S:=IntWalk.wrap64_in S (by omega);clear EB EG EN hE hD' hP he hl hb hok hy h bp hS1;go_enter Tryz.func202,Tryz.ntmps202;go_wp2_with fail;refine NW.o.mono ?_
 rintro r w1 ⟨b,rfl,hp1,hbel⟩;have G1:=Lv (Qt hbel none);obtain ⟨hh,hhh⟩:∃ hh,hh=w1.heap.size:=⟨_,rfl⟩
 rw [← hhh] at hp1;have LB:=hp1.lw;have UB:=hp1.up;have P1:=Lv hp1;clear hp1 hbel NW hhh;go_wp2_with fail;refine (N0.o _ _ _ _ P1.o).mono ?_
 rintro r w2 ⟨rfl,hp2,hg⟩;have G2:=Lv (Qw G1.o hg LB);have P2:=Lv hp2;clear hp2 hg N0 P1 G1;go_wp2_with fail;refine (N4.o _ _ _ _ P2.o).mono ?_
 rintro r w3 ⟨rfl,hp3,hg⟩;have G3:=Lv (Qw G2.o hg LB);have P3:=Lv hp3;clear hp3 hg N4 P2 G2;go_wp2_with fail;refine (N5.o _ _ _ _ P3.o).mono ?_
 rintro r w4 ⟨rfl,hp4,hg⟩;have G4:=Lv (Qw G3.o hg LB);have P4:=Lv hp4;clear hp4 hg N5 P3 G3;obtain ⟨w5,hw5⟩:∃ W,W=w4.alloc (.cells #[.string ⟨#[]⟩,.int .i64 0,.int .u64 0,.bool false] 95):=⟨_,rfl⟩
 have g5:w4.grownBy w5 none:=by rw [hw5];exact grown1 w4 _
 have s5:SyAt w5 w4.heap.size ⟨#[]⟩ Sy.zero:=by rw [hw5];exact SyAt.new w4 ⟨#[]⟩ Sy.zero
 have G5:=Lv (Qz G4.o g5);have P5:=Lv (P4.o.same g5);have S5:=Lv s5;have c1:=(H.o.grown G5.o).c.2.1;have gl:=(H.o.grown G5.o).lt;obtain ⟨X,hX⟩:∃ X,X=w4.heap.size:=⟨_,rfl⟩
 have hXw:w.heap.size≤X:=by rw [hX];exact G4.o.size
 have hbX:hh≤X:=by rw [hX];exact P4.o.sz
 rw [← hX] at S5;clear g5 s5 G4 P4;go_upto_region 6 with fail;rw [← hw5,← hX];clear hw5 hX;clear b4;by_cases k15:K=15
 ·have d15:(K == 15)=true:=by rw [k15];rfl
  by_cases ks0:S=0
  ·have ds0:(S == 0)=true:=by rw [ks0];rfl
   have EE:=Lv (B1.o k15 (.inl ks0));clear k15 ks0;go_wp2;go_ret
   exact ⟨by rw [EE.o];rfl,Qg G5.o hBw (by simp),fun h=>by rw [EE.o] at h;cases h⟩
  ·have ds0:(S == 0)=false:=by rw [beq_eq_false_iff_ne];exact ks0
   by_cases kn:n < S
   ·have dn:decide (n < S)=true:=decide_eq_true kn
    have EE:=Lv (B1.o k15 (.inr kn));clear k15 ks0;go_wp2;go_ret
    exact ⟨by rw [EE.o];rfl,Qg G5.o hBw (by simp),fun h=>by rw [EE.o] at h;cases h⟩
   ·have dn:decide (n < S)=false:=decide_eq_false kn
    have E2:=B2.o (.inr ⟨k15,fun h=>h.elim ks0 kn⟩);rw [if_pos k15] at E2;have EE:=Lv E2;have f5:=S5.o.fz 1;have x5:=S5.o.c.2.1;have l5:=S5.o.lt;have gs:=Qx (i:=1) (Qq w5 (some X)) (.int .i64 S);have S6:=Lv (S5.o.s1 S);have P6:=Lv (P5.o.kept gs (.inr hbX));have G6:=Lv (Qw G5.o gs hXw);simp only [Sy.zero] at x5;clear k15 ks0 kn E2 gs;go_wp2_with fail
    refine (N6.o _ _ _ _ P6.o).mono ?_
    rintro r w7 ⟨rfl,hp7,hg⟩;have G7:=Lv (Qw G6.o hg LB);have P7:=Lv hp7;have S7:=S6.o.kept hg (fun e=>by injection e with e;omega);have f7:=S7.fz 3;have x7:=S7.c.2.2.2;have l7:=S7.lt;have gs7:=Qx (i:=3) (Qq w7 (some X)) (.bool Wk);have S8:=Lv (S7.s3 Wk);have P8:=Lv (P7.o.kept gs7 (.inr hbX));have G8:=Lv (Qw G7.o gs7 hXw);have HSZ:=Lv S7
    clear hp7 hg gs7 S7
    try simp only [Sy.zero] at x7
    go_wp2_with fail;clear x7 f7 l7;refine (N8.o _ _ _ _ P8.o).mono ?_
    rintro r w9 ⟨rfl,hp9,hg⟩;have G9:=Lv (Qw G8.o hg LB);have S9:=S8.o.kept hg (fun e=>by injection e with e;omega);have f9:=S9.fz 2;have x9:=S9.c.2.2.1;have l9:=S9.lt;have gs9:=Qx (i:=2) (Qq w9 (some X)) (.int .u64 Vl);have SA:=S9.s2 Vl;have GA:=Lv (Qw G9.o gs9 hXw);have AA:=AD.o _ GA.o ⟨S,Vl,Wk⟩ P b2;unfold syV Yi at AA;obtain ⟨y0,y1,y2,y3⟩:=SA.c
    have yl:=SA.lt;have AH:=Lv AA
    try simp only [] at y1
    try simp only [] at y2
    try simp only [] at y3
    try simp only [Sy.zero] at x9
    clear hp9 hg gs9 S9 SA AA;go_wp2_with fail;refine AH.o.mono ?_
    rintro r w' ⟨rfl,hb,ht⟩;have BF:=Lv (Below.trans (Qg GA.o hBw (by simp)) hb);have TF:=Lv ht;clear hb ht;go_wp2;go_ret
    rw [EE.o.1,EE.o.2];exact ⟨rfl,BF.o,TF.o⟩
 ·have d15:(K == 15)=false:=by rw [beq_eq_false_iff_ne];exact k15
  by_cases k3:K=3
  ·have d3:(K == 3)=true:=by rw [k3];rfl
   have E2:=B2.o (.inl k3);rw [if_neg k15] at E2;have EE:=Lv E2;clear k15 k3 E2;go_wp2_with fail;refine (N6.o _ _ _ _ P5.o).mono ?_
   rintro r w7 ⟨rfl,hp7,hg⟩;have G7:=Lv (Qw G5.o hg LB);have P7:=Lv hp7;have S7:=S5.o.kept hg (fun e=>by injection e with e;omega);have f7:=S7.fz 3;have x7:=S7.c.2.2.2;have l7:=S7.lt;have gs7:=Qx (i:=3) (Qq w7 (some X)) (.bool Wk);have S8:=Lv (S7.s3 Wk);have P8:=Lv (P7.o.kept gs7 (.inr hbX));have G8:=Lv (Qw G7.o gs7 hXw);have HSZ:=Lv S7
   clear hp7 hg gs7 S7
   try simp only [Sy.zero] at x7
   go_wp2_with fail;clear x7 f7 l7;refine (N8.o _ _ _ _ P8.o).mono ?_
   rintro r w9 ⟨rfl,hp9,hg⟩;have G9:=Lv (Qw G8.o hg LB);have S9:=S8.o.kept hg (fun e=>by injection e with e;omega);have f9:=S9.fz 2;have x9:=S9.c.2.2.1;have l9:=S9.lt;have gs9:=Qx (i:=2) (Qq w9 (some X)) (.int .u64 Vl);have SA:=S9.s2 Vl;have GA:=Lv (Qw G9.o gs9 hXw);have AA:=AD.o _ GA.o ⟨0,Vl,Wk⟩ P b2;unfold syV Yi at AA;obtain ⟨y0,y1,y2,y3⟩:=SA.c
   have yl:=SA.lt;have AH:=Lv AA
   try simp only [Sy.zero] at y1
   try simp only [] at y2
   try simp only [] at y3
   try simp only [Sy.zero] at x9
   clear hp9 hg gs9 S9 SA AA;go_wp2_with fail;refine AH.o.mono ?_
   rintro r w' ⟨rfl,hb,ht⟩;have BF:=Lv (Below.trans (Qg GA.o hBw (by simp)) hb);have TF:=Lv ht;clear hb ht;go_wp2;go_ret
   rw [EE.o.1,EE.o.2];exact ⟨rfl,BF.o,TF.o⟩
  ·have d3:(K == 3)=false:=by rw [beq_eq_false_iff_ne];exact k3
   have EE:=Lv (B3.o k15 k3);clear k15 k3;go_wp2;go_ret
   rw [EE.o.1,EE.o.2];exact ⟨rfl,Qg G5.o hBw (by simp),fun _=>⟨_,_,H.o.grown G5.o⟩⟩
end
section
def RCur (w:World) (a:Nat) (q:Option Addr) (n c:Nat) (p:Int) (big bad:Bool):Prop:=w.heap[a]?=some (.cells #[.slice q n c,.int .i64 p,.bool big,.bool bad] 215 (0,0))
section
variable {a:Nat} {q:Option Addr} {n c:Nat} {p:Int} {big bad:Bool}
theorem RCur.c0 (h:RCur w a q n c p big bad):w.cell? ⟨a,0,none⟩=some (.slice q n c):=by rw [Qm h];rfl
theorem RCur.c1 (h:RCur w a q n c p big bad):w.cell? ⟨a,1,none⟩=some (.int .i64 p):=by rw [Qm h];rfl
theorem RCur.c2 (h:RCur w a q n c p big bad):w.cell? ⟨a,2,none⟩=some (.bool big):=by rw [Qm h];rfl
theorem RCur.c3 (h:RCur w a q n c p big bad):w.cell? ⟨a,3,none⟩=some (.bool bad):=by rw [Qm h];rfl
theorem RCur.f (h:RCur w a q n c p big bad) (i:Nat):w.frozen? ⟨a,i,none⟩=false:=Xg h
theorem RCur.set1 (h:RCur w a q n c p big bad) (k:Int):RCur (w.setCell ⟨a,1,none⟩ (.int .i64 k)) a q n c k big bad:=by unfold RCur;rw [heap_setCell_same w a 1 _ _ _ h];rfl
theorem RCur.set3 (h:RCur w a q n c p big bad) (b:Bool):RCur (w.setCell ⟨a,3,none⟩ (.bool b)) a q n c p big b:=by unfold RCur;rw [heap_setCell_same w a 3 _ _ _ h];rfl
theorem need_ok (h:RCur w a q n c p big false) :
  Calls Tryz.prog 148 #[.pointer (some ⟨a,0,none⟩),.bool true] w fun e w'=>e=.returned (.bool false)∧RCur w' a q n c p big false∧w.grownBy w' (some a):=by
 have c3:=h.c3;have f3:=h.f 3;have F:=Lv (h.set3 false);have G:=Lv (Qx (i:=3) (Qq w (some a)) (.bool false));clear h;go_enter Tryz.func148,Tryz.ntmps148;go_wp2;go_ret
 exact ⟨rfl,F.o,G.o⟩
theorem rbytes_ok {x:Addr} (h:RCur w a (some x) n c 0 big false) (k:Nat) (h0 : 0 < k) (hk:k≤n) (hn:n≤c) (hc:c≤9223372036854775807) :
  Calls Tryz.prog 149 #[.pointer (some ⟨a,0,none⟩),.int .i64 k] w fun e w'=>e=.returned (.slice (some x) k c)∧RCur w' a (some x) n c k big false∧w.grownBy w' (some a):=by
 have c0:=h.c0;have c1:=h.c1;have c3:=h.c3;have N:=Lv (fun (w1:World) (hh:RCur w1 a (some x) n c 0 big false)=>need_ok hh);have H:=Lv (show RCur w.drew a (some x) n c 0 big false from h);have D:=Lv (show w.grownBy w.drew (some a) from Qj (Qq w (some a)) 1);clear h;go_enter Tryz.func149,Tryz.ntmps149;go_wp2;go_still_tail 17,(by kernel_rfl)
 change wpList _ _ _ _ _ w.drew;generalize w.drew=w1 at *;go_wp2_with fail;rw [show decide ((k:Int)≤(n:Int))=true from decide_eq_true (by omega)];refine (N.o _ H.o).mono ?_
 rintro e w2 ⟨rfl,h2,hg2⟩;have d0:=h2.c0;have d1:=h2.c1;have g1:=h2.f 1;have hcne:¬ c=0:=by omega
 have G2:=Lv (Qz D.o hg2);have G:=Lv (fun (w':World) (hg:w.grownBy w' (some a))=>Qx (i:=1) hg (.int .i64 (k:Int)));have F:=Lv (fun m=>RCur.set1 (show RCur (w2.drewN m) a (some x) n c 0 big false from h2) k);clear h2 hg2 N H D c0 c1 c3;go_wp2;go_quiet (fail);go_wp2;go_ret
 exact ⟨rfl,F.o _,G.o _ (Qj G2.o _)⟩
def acc (big:Bool) (ys:List Int) (j:Nat):Int:=if big then beN (ys.take j) else leN (ys.drop (ys.length - j))
theorem acc_bd {ys:List Int} (hy:Q3 ys) (big:Bool) (j:Nat) (hj:j≤ys.length) : 0≤acc big ys j∧acc big ys j < 2 ^ (8 * j):=by
 cases big
 ·have:=Ws (ys.drop (ys.length - j)) (fun x hx=>hy x (List.mem_of_mem_drop hx))
  rw [List.length_drop,show ys.length - (ys.length - j)=j by omega] at this;exact this
 ·have:=beN_bd (ys.take j) (fun x hx=>hy x (List.mem_of_mem_take hx))
  rw [List.length_take,Nat.min_eq_left hj] at this;exact this
theorem acc_big (ys:List Int) (j:Nat) (hj:j < ys.length):acc true ys (j + 1)=acc true ys j * 256 + ys.getD j 0:=by
 unfold acc;rw [if_pos rfl,if_pos rfl,List.take_succ_eq_append_getElem hj,Rn];simp [hj]
theorem acc_little (ys:List Int) (j:Nat) (hj:j < ys.length):acc false ys (j + 1)=acc false ys j * 256 + ys.getD (ys.length - 1 - j) 0:=by
 unfold acc;rw [if_neg (by simp),if_neg (by simp),List.drop_eq_getElem_cons (show ys.length - (j + 1) < ys.length by omega),show ys.length - (j + 1) + 1=ys.length - j by omega];simp only [leN];rw [show ys.length - 1 - j=ys.length - (j + 1) by omega,List.getD_eq_getElem?_getD,List.getElem?_eq_getElem (by omega)];simp only [Option.getD_some];omega
theorem acc_all (big:Bool) (ys:List Int):acc big ys ys.length=Vm big ys:=by cases big <;> simp [acc,Vm]
theorem rnumber_248 {b o:Nat} (ys:List Int) (h:RCur w a (some ⟨b,o,none⟩) n c 0 big false) (k:Nat) (hs:k=2∨k=4∨k=8) (hk:k≤n) (hn:n≤c) (hc:c≤9223372036854775807) (hl:ys.length=k) (hy:Q3 ys)
  (hb:∀ i,i < k→∀ w',w.grownBy w' (some a)→w'.cell? ⟨b,o + i,none⟩=some (.int .u8 (ys.getD i 0))) :
  Calls Tryz.prog 123 #[.pointer (some ⟨a,0,none⟩),.int .i64 k] w fun e w'=>e=.returned (.int .u64 (Vm big ys))∧w.grownBy w' (some a):=by
 have N:=Lv (need_ok h);have B:=Lv (fun w1 (h1:RCur w1 a (some ⟨b,o,none⟩) n c 0 big false)=>rbytes_ok h1 k (by omega) hk hn hc);have C:=Lv hb;have Y:=Lv hy;have L:=Lv hl;have E:=Lv (acc_all big ys);clear h hb hy;rcases hs with rfl | rfl | rfl
 all_goals
  go_enter Tryz.func123,Tryz.ntmps123;go_wp2_with fail;refine N.o.mono ?_
  rintro e w1 ⟨rfl,h1,hg1⟩;have B1:=Lv (B.o w1 h1);clear h1;go_wp2_with fail;refine B1.o.mono ?_
  rintro e w2 ⟨rfl,h2,hg2⟩;have hg:=Qz hg1 hg2;have d2:=h2.c2;have C2:=Lv (fun i hi=>C.o i hi w2 hg);have G:=Lv hg;clear h2 hg1 hg2 hg hl;go_wp2;go_loop [6,7] (fun n i=>∃ j:Nat,j≤ys.length∧i=.int .i64 j∧n=.int .u64 (acc big ys j)) (fun _ i=>8 - (intOf i).toNat)
  case atStart=>exact ⟨0,Nat.zero_le _,rfl,by cases big <;> simp [acc,beN,leN]⟩
  case round =>
    obtain ⟨j,hj,rfl,rfl⟩:=hrel;have hl:=L.o;by_cases hlt:j < ys.length
    ·have hbd:=acc_bd Y.o big j hj
     have hbd2:=acc_bd Y.o big (j + 1) hlt;have hp:(2:Int) ^ (8 * (j + 1))≤2 ^ 64:=by
      have:(2:Nat) ^ (8 * (j + 1))≤2 ^ 64:=Nat.pow_le_pow_right (by decide) (by omega)
      exact_mod_cast this
     have hp64:(2:Int) ^ 64=18446744073709551616:=by decide
     have hb2:acc big ys (j + 1) < 18446744073709551616:=by omega
     have hb0:=hbd2.1;clear hbd2 hp hp64;cases big
     ·have hs:=acc_little ys j hlt
      have cj:=C2.o (ys.length - 1 - j) (by omega);have hx:=Y.o _ (List.getElem_mem (show ys.length - 1 - j < ys.length by omega));rw [show ys[ys.length - 1 - j]=ys.getD (ys.length - 1 - j) 0 by rw [List.getD_eq_getElem?_getD,List.getElem?_eq_getElem (by omega)];rfl] at hx;have hi1:ys.length - 1 - j=ys.length - 1 - j:=rfl;generalize ys.getD (ys.length - 1 - j) 0=y at *;rw [hl] at cj;have S:=Lv hs
      have hA0:=hbd.1;have hA1:acc false ys j * 256 + y < 18446744073709551616:=by omega
      clear hbd hs hi1 hb2 hb0;generalize acc false ys j=A at *;go_wp2;go_round
      case rel=>exact ⟨j + 1,by omega,by go_num,by rw [S.o]⟩
      case measure=>simp [intOf];omega
     ·have hs:=acc_big ys j hlt
      have cj:=C2.o j (by omega);have hx:=Y.o _ (List.getElem_mem hlt);rw [show ys[j]=ys.getD j 0 by rw [List.getD_eq_getElem?_getD,List.getElem?_eq_getElem hlt];rfl] at hx;generalize ys.getD j 0=y at *;have S:=Lv hs;have hA0:=hbd.1;have hA1:acc true ys j * 256 + y < 18446744073709551616:=by omega
      clear hbd hs hb2 hb0;generalize acc true ys j=A at *;go_wp2;go_round
      case rel=>exact ⟨j + 1,by omega,by go_num,by rw [S.o]⟩
      case measure=>simp [intOf];omega
    ·have hjl:j=ys.length:=by omega
     subst hjl;go_wp2;go_ret
     have hE:=E.o;rw [L.o] at hE;exact ⟨congrArg (fun z=>Ending.returned (Value.int .u64 z)) hE,G.o⟩
theorem rnumber_ok {b o:Nat} (ys:List Int) (h:RCur w a (some ⟨b,o,none⟩) n c 0 big false) (k:Nat) (hs:k=4∨k=8) (hk:k≤n) (hn:n≤c) (hc:c≤9223372036854775807) (hl:ys.length=k) (hy:Q3 ys)
  (hb:∀ i,i < k→∀ w',w.grownBy w' (some a)→w'.cell? ⟨b,o + i,none⟩=some (.int .u8 (ys.getD i 0))) :
  Calls Tryz.prog 123 #[.pointer (some ⟨a,0,none⟩),.int .i64 k] w fun e w'=>e=.returned (.int .u64 (Vm big ys))∧w.grownBy w' (some a) :=
 rnumber_248 ys h k (.inr hs) hk hn hc hl hy hb
end
end
theorem Ma (ys:List Int) {q:Option Addr} {c n:Nat} (h:Qk w q c ys) (hn:ys.length=n) (hc:n≤c) (hcm:c≤9223372036854775807) (hy:Byt ys) (p k:Nat) (hs:k=2∨k=4∨k=8) (hk:p + k≤n) :
  Calls Tryz.prog 151 #[.slice q n c,.int .i64 p,.int .i64 k] w fun e w'=>e=.returned (.int .u64 (leN ((ys.drop p).take k)))∧w.grownBy w' none:=by
 obtain ⟨b,o,rfl,hcell⟩:=h.2 (by omega);have X:=Lv (fun (w1:World) (a:Nat) (hw:w.grownBy w1 none) (ha:w.heap.size≤a) (hr:RCur w1 a (some ⟨b,o + p,none⟩) k (c - p) 0 false false) =>
  rnumber_248 ((ys.drop p).take k) hr k hs (by omega) (by omega) (by omega) (by simp;omega) (fun x hx=>hy x (List.mem_of_mem_drop (List.mem_of_mem_take hx))) (fun i hi w' hg=>by
   have h1:=hcell (p + i) (by omega);have h2:w'.cell? ⟨b,o + (p + i),none⟩=some (.int .u8 (ys.getD (p + i) 0)):=(Qw hw hg ha).cell h1 (by simp)
   rw [show o + p + i=o + (p + i) by omega,h2];simp [List.getD,hi]))
 have hS:=fun W=>Ss (T:=29) (by kernel_rfl) Pz b o n c p k hk hc (by omega) (p:Int) ((p:Int) + k) rfl rfl W;have hb1:(p:Int) + k≤9223372036854775807:=by omega
 unfold Vm at X;rw [if_neg (by simp)] at X;clear h hcell hn hk hc hcm hs;generalize leN ((ys.drop p).take k)=V at *;go_enter Tryz.func151,Tryz.ntmps151;go_wp2_with fail;have R:RCur (w.alloc (.cells #[.slice (some ⟨b,o + p,none⟩) k (c - p),.int .i64 0,.bool false,.bool false] 215)) w.heap.size (some ⟨b,o + p,none⟩) k (c - p) 0 false false:=heap_alloc_new w _;refine (X.o _ _ (grown1 _ _) (Nat.le_refl _) R).mono ?_
 rintro e w' ⟨rfl,hg⟩;have G:=Lv (Qw (grown1 _ _) hg (Nat.le_refl _));clear hg hS;go_wp2;go_ret
 exact ⟨rfl,G.o⟩
theorem told10_any (k:Int) (hk : 0≤k∧k < 256) (w:World) :
  Calls Tryz.prog 127 #[.int .i64 k] w fun e w'=>e=.returned (.bool (decide (k=15) || decide (k=3)))∧w'=w:=by
 obtain ⟨r,hr⟩:∃ r,r=(decide (k=15) || decide (k=3)):=⟨_,rfl⟩
 rw [← hr];have HR:=Lv hr;clear hr;obtain ⟨h0,h1⟩:=hk;go_enter Tryz.func127,Tryz.ntmps127;go_wp2
 all_goals
  go_ret
  refine ⟨Vu ?_,rfl⟩;rw [HR.o,Bool.eq_iff_iff];simp_all
  try omega
theorem Xo {g:Nat} {nm:ByteArray} {x:Sy} {fn:Func} {p u:Tmp} (hr:fn.results=#[.cell p 95,.tmp u]) {tmps:Array Value} {y:Value} (hp:tmps.getD p undef=.pointer (some ⟨g,0,none⟩)) (hu:tmps.getD u undef=y) (h:SyAt w g nm x) :
  (results fn tmps).run Tryz.prog w=.ok (.tuple #[syV nm x,y]) w:=by
 rw [results_cell_tmp hr,hp,hu,show (asAddr (.pointer (some ⟨g,0,none⟩)):Sem Addr).run Tryz.prog w=.ok ⟨g,0,none⟩ w from rfl,Result.andThen_ok,load_sy h,Result.andThen_ok]
section
variable {w w':World} {ys e:List Int} {n:Int}
def oneV (ys:List Int) (n:Int) (e:List Int):Sym:=if Bs ys n e=0 then Hf ys e else ([],Sy.zero)
theorem one10_any {q q2:Option Addr} {c c2 N:Nat} (hb:Qk w q c e) (hl:e.length=16) (hc : 16≤c) (hcm:c≤9223372036854775807) (he:Byt e)
  (hb2:Qk w q2 c2 ys) (hN:ys.length=N) (hbig:N≤140737488355328) (hc2:N≤c2) (ht:Ym e=true) :
  Calls Tryz.prog 128 #[.slice q 16 c,.slice q2 N c2,.int .i64 n] w fun r w'=>r=.returned (.tuple #[syV (strOfNums (oneV ys n e).1) (oneV ys n e).2,.int .i64 (Bs ys n e)])∧w.grownBy w' none:=by
 have Q8:=Lv (fun (V:World) (hV:w.grownBy V none)=>Ma e (hb.kept hV (by simp)) hl hc hcm he 8 8 (by decide) (by omega));have Q6:=Lv (fun (V:World) (hV:w.grownBy V none)=>Ma e (hb.kept hV (by simp)) hl hc hcm he 6 2 (by decide) (by omega));have Q0:=Lv (fun (V:World) (hV:w.grownBy V none)=>Ma e (hb.kept hV (by simp)) hl hc hcm he 0 4 (by decide) (by omega));rw [show leN ((e.drop 8).take 8)=My e from rfl] at Q8
 rw [show leN ((e.drop 6).take 2)=By e from rfl] at Q6;rw [show leN ((e.drop 0).take 4)=J4 e from rfl] at Q0;obtain ⟨b,o,rfl,hcell⟩:=hb.2 (by omega);have C4:=Lv (show w.cell? ⟨b,o + 4,none⟩=some (.int .u8 (X9 e)) from hcell 4 (by omega));have C5:=Lv (show w.cell? ⟨b,o + 5,none⟩=some (.int .u8 (Yk e)) from hcell 5 (by omega));have bp:=nlPlace_bd he;have bd:=nlDesc_bd he;have bv:=Rt he
 have b5 : 0≤Yk e∧Yk e < 256:=Mn he 5;obtain ⟨P,hP⟩:∃ P:Nat,J4 e=P:=⟨(J4 e).toNat,by omega⟩
 have NM:=Lv (fun (V:World) (hV:w.grownBy V none) (b2 o2:Nat) (hq:q2=some ⟨b2,o2,none⟩) (h:P < N) =>
  Gm (w:=V) b2 (o2 + P) (c2 - P) (N - P) (ys.drop P) (by
    have:=(hb2.kept hV (by simp)).2 (by omega)
    obtain ⟨b',o',e',hx⟩:=this;rw [hq] at e';injection e' with e';injection e' with e1 e2 _;subst e1 e2;refine Qk.mk_at fun i hi=>?_
    rw [List.length_drop] at hi;rw [Nat.add_assoc,hx (P + i) (by omega)];simp [List.getD,List.getElem?_drop]) (by rw [List.length_drop,hN]) (by omega) (by omega))
 have HQ:=Lv (fun (h:P < N)=>(by
  obtain ⟨b',o',e',hx⟩:=hb2.2 (by omega);obtain ⟨V,hV,_,h3⟩:=H7 (c:=c2) (p:=P) hx (by omega) (by omega) .u64;rw [h3 (by omega),hN] at hV;exact ⟨b',o',e',hV⟩:∃ b2 o2,q2=some ⟨b2,o2,none⟩∧∀ W,(Instr.slice 29 (.slice (some ⟨b2,o2,none⟩) N c2) (some (.int .u64 (P:Int))) none none).run Tryz.prog W=.ok (.slice (some ⟨b2,o2 + P,none⟩) (N - P) (c2 - P)) W))
 obtain ⟨E,hE⟩:∃ E,E=Bs ys n e:=⟨_,rfl⟩
 obtain ⟨y,hyv⟩:∃ y,y=oneV ys n e:=⟨_,rfl⟩
 rw [← hE,← hyv];have Y1:=Lv (show E≠0→y=([],Sy.zero) from fun h=>by rw [hyv];unfold oneV;rw [← hE,if_neg h]);have Y0:=Lv (show E=0→y=(pre (ys.drop P),⟨if X9 e=15 then Yk e else 0,My e,decide (By e / 128 % 2=1)⟩) from fun h=>by
  rw [hyv];unfold oneV;rw [← hE,if_pos h];unfold Hf nlNm nlSy;rw [hP,Int.toNat_natCast])
 unfold Bs nlNm at hE;rw [hP,Int.toNat_natCast,hN,List.length_drop,hN] at hE;have hk:X9 e=15∨X9 e=3:=by
  unfold Ym at ht;simpa using ht
 obtain ⟨Wk,hWk⟩:∃ W,W=decide (By e / 128 % 2=1):=⟨_,rfl⟩
 have hw1:(By e / 128 % 2 == 1)=Wk:=by rw [hWk];rfl
 rw [← hWk] at Y0;rw [hP] at Q0 bp;generalize X9 e=K at *;generalize Yk e=S at *;generalize My e=Vl at *;generalize By e=De at *;have hTl:=Ru (ys.drop P);rw [List.length_drop,hN] at hTl;have n1:=Wa (pre (ys.drop P));have hsz:(strOfNums (pre (ys.drop P))).size=(pre (ys.drop P)).length:=strOfNums_size _;generalize pre (ys.drop P)=T at *;have HE:=Lv hE;have g0:=grown1 w (.cells #[.string ⟨#[]⟩,.int .i64 0,.int .u64 0,.bool false] 95)
 have s0:=SyAt.new w ⟨#[]⟩ Sy.zero;have SI:=Lv (fun (V:World) (hV:w.grownBy V none) (kl:IntKind) (hp:P < N)=>(Sv (T:=29) (k:=1) (by kernel_rfl) (fun W=>by kernel_rfl) 0 0 N c2 P kl (Nat.le_of_lt hp)));clear SI;obtain ⟨R,hR⟩:∃ R,R=w.heap.size:=⟨_,rfl⟩
 have hRw:w.heap.size≤R:=by rw [hR];exact Nat.le_refl _
 obtain ⟨w1,hw1'⟩:∃ W,W=w.alloc (.cells #[.string ⟨#[]⟩,.int .i64 0,.int .u64 0,.bool false] 95):=⟨_,rfl⟩
 rw [← hR] at s0;simp only [Sy.zero] at s0;rw [← hw1'] at s0 g0;have hRl:R < w1.heap.size:=lt_of_block s0;have S0:=Lv s0;have G0:=Lv g0;clear hb hb2 hl he hE hyv hWk ht s0 g0 hcell hN;go_enter Tryz.func128,Tryz.ntmps128;go_upto_region 1 with fail;rw [← hw1',← hR];clear hw1' hR;go_wp2_with fail;refine (Q8.o _ G0.o).mono ?_
 rintro r w2 ⟨rfl,hg⟩;have G2:=Lv (Qz G0.o hg);have S2:=Lv (S0.o.kept hg (by simp));clear hg S0;go_wp2_with fail;refine (Q6.o _ G2.o).mono ?_
 rintro r w3 ⟨rfl,hg⟩;have G3:=Lv (Qz G2.o hg);have S3:=Lv (S2.o.kept hg (by simp));have hl3:R < w3.heap.size:=S3.o.lt;clear hg S2 G2 Q8 Q6;have g4:=grown1 w3 (.cells #[.string ⟨#[]⟩,.int .i64 0,.int .u64 Vl,.bool Wk] 95);have x4:=SyAt.new w3 ⟨#[]⟩ ⟨0,Vl,Wk⟩;obtain ⟨w4,hw4⟩:∃ W,W=w3.alloc (.cells #[.string ⟨#[]⟩,.int .i64 0,.int .u64 Vl,.bool Wk] 95):=⟨_,rfl⟩
 obtain ⟨X,hX⟩:∃ X,X=w3.heap.size:=⟨_,rfl⟩
 rw [← hX] at x4;rw [← hw4] at g4 x4;have G4:=Lv (Qz G3.o g4);have S4:=Lv (S3.o.kept g4 (by simp));have X4:=Lv x4;have hRX:R≠X:=by omega
 have hwX:w.heap.size≤X:=by rw [hX];exact G3.o.size
 have hXl:=x4.lt;have hRl4:=S4.o.lt;go_upto_region 2 with fail;rw [← hw4,← hX];clear hw4 hX g4 x4 S3 G3 hl3 hRl;have c4:=Qv G4.o C4.o;have c5:=Qv G4.o C5.o;have he0:=HE.o;rcases hk with rfl | rfl
 ·rw [if_pos rfl] at Y0
  obtain ⟨hS0,hS1⟩:=b5;have hS2:S≤9223372036854775807:=by omega
  have hSw:wrap64 S=S:=IntWalk.wrap64_in S (by omega);have xq:=X4.o.c;simp only [] at xq;obtain ⟨xq0,xq1,xq2,xq3⟩:=xq;have xqf:=X4.o.fz 1;have gs:=Qx (i:=1) (Qq w4 (some X)) (.int .i64 S);have X5:=Lv (X4.o.s1 S);have S5:=Lv (S4.o.kept gs (fun e=>by injection e with e;exact hRX e.symm));have G5:=Lv (Qw G4.o gs hwX);clear gs;obtain ⟨w5,hw5⟩:∃ W,W=w4.setCell ⟨X,1,none⟩ (.int .i64 S):=⟨_,rfl⟩
  rw [← hw5] at X5 S5 G5;go_upto_region 4 with fail;rw [← hw5];clear hw5 xq0 xq1 xq2 xq3 xqf c4 c5 hRl4 hXl;have xq:=X5.o.c;simp only [] at xq;obtain ⟨xq0,xq1,xq2,xq3⟩:=xq;have hXl:=X5.o.lt;have hRl4:=S5.o.lt;by_cases hs0:S=0
  · have ds:decide (S < 1)=true:=by simp;omega
    rw [if_pos ⟨rfl,.inl hs0⟩] at he0;have EE:=Lv he0;clear he0 hs0;have xr:=S5.o.c;simp only [] at xr;obtain ⟨r0,r1,r2,r3⟩:=xr;have rf:=S5.o.fz;have SE:=Lv (S5.o.put ⟨#[]⟩ Sy.zero);have GE:=Lv (Qw G5.o (Xu (Qq _ (some R)) (.string ⟨#[]⟩) (.int .i64 0) (.int .u64 0) (.bool false)) hRw);simp only [Sy.zero] at SE;go_wp2;refine bodyPost_ret (Xo rfl rfl rfl SE.o) rfl ?_
    refine ⟨?_,GE.o⟩;rw [Y1.o (by rw [EE.o];decide),EE.o];rfl
  · have ds:decide (S < 1)=false:=by simp;omega
    by_cases hsn:n < S
    ·have dn:decide (n < S)=true:=decide_eq_true hsn
     rw [if_pos ⟨rfl,.inr hsn⟩] at he0;have EE:=Lv he0;clear he0 hs0 hsn;have xr:=S5.o.c;simp only [] at xr;obtain ⟨r0,r1,r2,r3⟩:=xr;have rf:=S5.o.fz;have SE:=Lv (S5.o.put ⟨#[]⟩ Sy.zero);have GE:=Lv (Qw G5.o (Xu (Qq _ (some R)) (.string ⟨#[]⟩) (.int .i64 0) (.int .u64 0) (.bool false)) hRw);simp only [Sy.zero] at SE;go_wp2;refine bodyPost_ret (Xo rfl rfl rfl SE.o) rfl ?_
     refine ⟨?_,GE.o⟩;rw [Y1.o (by rw [EE.o];decide),EE.o];rfl
    ·have dn:decide (n < S)=false:=decide_eq_false hsn
     rw [if_neg (fun h=>h.2.elim hs0 hsn)] at he0;clear hs0 hsn;go_wp2_with fail;refine (Q0.o _ G5.o).mono ?_
     rintro r wB ⟨rfl,hg⟩;have GB:=Lv (Qz G5.o hg);have XB:=Lv (X5.o.kept hg (by simp));have SB:=Lv (S5.o.kept hg (by simp));clear hg;by_cases hNP:N≤P
     ·have dNP:decide ((N:Int)≤(P:Int))=true:=by simp;omega
      have dNQ:decide (N≤P)=true:=decide_eq_true hNP;rw [if_pos (by omega)] at he0;have EE:=Lv he0;clear he0 hNP;have xr:=SB.o.c;simp only [] at xr;obtain ⟨r0,r1,r2,r3⟩:=xr;have rf:=SB.o.fz;have SE:=Lv (SB.o.put ⟨#[]⟩ Sy.zero);have GE:=Lv (Qw GB.o (Xu (Qq _ (some R)) (.string ⟨#[]⟩) (.int .i64 0) (.int .u64 0) (.bool false)) hRw);simp only [Sy.zero] at SE
      go_wp2;refine bodyPost_ret (Xo rfl rfl rfl SE.o) rfl ?_
      refine ⟨?_,GE.o⟩;rw [Y1.o (by rw [EE.o];decide),EE.o];rfl
     ·have dNP:decide ((N:Int)≤(P:Int))=false:=by simp;omega
      have dNQ:decide (N≤P)=false:=decide_eq_false hNP;rw [if_neg (by omega)] at he0;obtain ⟨b2,o2,rfl,hcut⟩:=HQ.o (by omega);have hcut:=hcut wB;have NB:=Lv (NM.o _ GB.o b2 o2 rfl (by omega));have xb:=XB.o.c;simp only [] at xb;obtain ⟨xb0,xb1,xb2,xb3⟩:=xb;have xf:=XB.o.fz 0;have xl:=XB.o.lt;have gs:=Qx (i:=0) (Qq wB (some X)) (.string (strOfNums T));have XC:=Lv (XB.o.s0 (strOfNums T))
      have SC:=Lv (SB.o.kept gs (fun e=>by injection e with e;exact hRX e.symm));have GC:=Lv (Qw GB.o gs hwX);clear gs;have hNP2:(P:Int)≤9223372036854775807:=by omega
      go_wp2_with fail;refine NB.o.mono ?_
      rintro r wD ⟨rfl,rfl⟩;obtain ⟨wC,hwC⟩:∃ W,W=wD.setCell ⟨X,0,none⟩ (.string (strOfNums T)):=⟨_,rfl⟩
      rw [← hwC] at XC SC GC;go_upto_region 10 with fail;rw [← hwC];clear hwC hcut xb0 xb1 xb2 xb3 xf xl;have xc:=XC.o.c;simp only [] at xc;obtain ⟨xc0,xc1,xc2,xc3⟩:=xc;have xcl:=XC.o.lt;have sl:=SC.o.lt;by_cases hT0:T=[]
      ·rw [decide_eq_true hT0] at n1
       rw [if_pos (.inl hT0)] at he0;have EE:=Lv he0;clear he0 hNP hT0;have xr:=SC.o.c;simp only [] at xr;obtain ⟨r0,r1,r2,r3⟩:=xr;have rf:=SC.o.fz;have SE:=Lv (SC.o.put ⟨#[]⟩ Sy.zero);have GE:=Lv (Qw GC.o (Xu (Qq _ (some R)) (.string ⟨#[]⟩) (.int .i64 0) (.int .u64 0) (.bool false)) hRw);simp only [Sy.zero] at SE;go_wp2;refine bodyPost_ret (Xo rfl rfl rfl SE.o) rfl ?_
       refine ⟨?_,GE.o⟩;rw [Y1.o (by rw [EE.o];decide),EE.o];rfl
      ·rw [decide_eq_false hT0] at n1
       by_cases hEnd:N - P≤T.length
       ·have dEnd:((P:Int) + (T.length:Int) == (N:Int))=true:=by rw [beq_iff_eq];omega
        rw [if_pos (.inr hEnd)] at he0;have EE:=Lv he0;clear he0 hNP hT0 hEnd;have xr:=SC.o.c;simp only [] at xr;obtain ⟨r0,r1,r2,r3⟩:=xr;have rf:=SC.o.fz;have SE:=Lv (SC.o.put ⟨#[]⟩ Sy.zero);have GE:=Lv (Qw GC.o (Xu (Qq _ (some R)) (.string ⟨#[]⟩) (.int .i64 0) (.int .u64 0) (.bool false)) hRw);simp only [Sy.zero] at SE;go_wp2;refine bodyPost_ret (Xo rfl rfl rfl SE.o) rfl ?_
        refine ⟨?_,GE.o⟩;rw [Y1.o (by rw [EE.o];decide),EE.o];rfl
       ·have dEnd:((P:Int) + (T.length:Int) == (N:Int))=false:=by rw [beq_eq_false_iff_ne];omega
        rw [if_neg (fun h=>h.elim hT0 hEnd)] at he0;by_cases hLong : 255 < T.length
        ·have dLong:decide ((255:Int) < (T.length:Int))=true:=by simp;omega
         rw [if_pos hLong] at he0;have EE:=Lv he0;clear he0 hNP hT0 hEnd hLong;have xr:=SC.o.c;simp only [] at xr;obtain ⟨r0,r1,r2,r3⟩:=xr;have rf:=SC.o.fz;have SE:=Lv (SC.o.put ⟨#[]⟩ Sy.zero);have GE:=Lv (Qw GC.o (Xu (Qq _ (some R)) (.string ⟨#[]⟩) (.int .i64 0) (.int .u64 0) (.bool false)) hRw);simp only [Sy.zero] at SE;go_wp2;refine bodyPost_ret (Xo rfl rfl rfl SE.o) rfl ?_
         refine ⟨?_,GE.o⟩;rw [Y1.o (by rw [EE.o];decide),EE.o];rfl
        ·have dLong:decide ((255:Int) < (T.length:Int))=false:=by simp;omega
         rw [if_neg hLong] at he0;have EE:=Lv he0;clear he0 hNP hT0 hEnd hLong;have xr:=SC.o.c;simp only [] at xr;obtain ⟨r0,r1,r2,r3⟩:=xr;have rf:=SC.o.fz;have SE:=Lv (SC.o.put (strOfNums T) ⟨S,Vl,Wk⟩);have GE:=Lv (Qw GC.o (Xu (Qq _ (some R)) (.string (strOfNums T)) (.int .i64 S) (.int .u64 Vl) (.bool Wk)) hRw);simp only [] at SE;go_wp2;refine bodyPost_ret (Xo rfl rfl rfl SE.o) rfl ?_
         refine ⟨?_,GE.o⟩;rw [Y0.o EE.o,EE.o];rfl
 ·rw [if_neg (fun h=>absurd h.1 (by decide))] at he0
  rw [if_neg (by decide)] at Y0;go_wp2_with fail;refine (Q0.o _ G4.o).mono ?_
  rintro r wB ⟨rfl,hg⟩;have GB:=Lv (Qz G4.o hg);have XB:=Lv (X4.o.kept hg (by simp));have SB:=Lv (S4.o.kept hg (by simp));clear hg;by_cases hNP:N≤P
  · have dNP:decide ((N:Int)≤(P:Int))=true:=by simp;omega
    have dNQ:decide (N≤P)=true:=decide_eq_true hNP;rw [if_pos (by omega)] at he0;have EE:=Lv he0;clear he0 hNP;have xr:=SB.o.c;simp only [] at xr;obtain ⟨r0,r1,r2,r3⟩:=xr;have rf:=SB.o.fz;have SE:=Lv (SB.o.put ⟨#[]⟩ Sy.zero);have GE:=Lv (Qw GB.o (Xu (Qq _ (some R)) (.string ⟨#[]⟩) (.int .i64 0) (.int .u64 0) (.bool false)) hRw);simp only [Sy.zero] at SE
    go_wp2;refine bodyPost_ret (Xo rfl rfl rfl SE.o) rfl ?_
    refine ⟨?_,GE.o⟩;rw [Y1.o (by rw [EE.o];decide),EE.o];rfl
  · have dNP:decide ((N:Int)≤(P:Int))=false:=by simp;omega
    have dNQ:decide (N≤P)=false:=decide_eq_false hNP;rw [if_neg (by omega)] at he0;obtain ⟨b2,o2,rfl,hcut⟩:=HQ.o (by omega);have hcut:=hcut wB;have NB:=Lv (NM.o _ GB.o b2 o2 rfl (by omega));have xb:=XB.o.c;simp only [] at xb;obtain ⟨xb0,xb1,xb2,xb3⟩:=xb;have xf:=XB.o.fz 0;have xl:=XB.o.lt;have gs:=Qx (i:=0) (Qq wB (some X)) (.string (strOfNums T));have XC:=Lv (XB.o.s0 (strOfNums T))
    have SC:=Lv (SB.o.kept gs (fun e=>by injection e with e;exact hRX e.symm));have GC:=Lv (Qw GB.o gs hwX);clear gs;have hNP2:(P:Int)≤9223372036854775807:=by omega
    go_wp2_with fail;refine NB.o.mono ?_
    rintro r wD ⟨rfl,rfl⟩;obtain ⟨wC,hwC⟩:∃ W,W=wD.setCell ⟨X,0,none⟩ (.string (strOfNums T)):=⟨_,rfl⟩
    rw [← hwC] at XC SC GC;go_upto_region 10 with fail;rw [← hwC];clear hwC hcut xb0 xb1 xb2 xb3 xf xl;have xc:=XC.o.c;simp only [] at xc;obtain ⟨xc0,xc1,xc2,xc3⟩:=xc;have xcl:=XC.o.lt;have sl:=SC.o.lt;by_cases hT0:T=[]
    ·rw [decide_eq_true hT0] at n1
     rw [if_pos (.inl hT0)] at he0;have EE:=Lv he0;clear he0 hNP hT0;have xr:=SC.o.c;simp only [] at xr;obtain ⟨r0,r1,r2,r3⟩:=xr;have rf:=SC.o.fz;have SE:=Lv (SC.o.put ⟨#[]⟩ Sy.zero);have GE:=Lv (Qw GC.o (Xu (Qq _ (some R)) (.string ⟨#[]⟩) (.int .i64 0) (.int .u64 0) (.bool false)) hRw);simp only [Sy.zero] at SE;go_wp2;refine bodyPost_ret (Xo rfl rfl rfl SE.o) rfl ?_
     refine ⟨?_,GE.o⟩;rw [Y1.o (by rw [EE.o];decide),EE.o];rfl
    ·rw [decide_eq_false hT0] at n1
     by_cases hEnd:N - P≤T.length
     ·have dEnd:((P:Int) + (T.length:Int) == (N:Int))=true:=by rw [beq_iff_eq];omega
      rw [if_pos (.inr hEnd)] at he0;have EE:=Lv he0;clear he0 hNP hT0 hEnd;have xr:=SC.o.c;simp only [] at xr;obtain ⟨r0,r1,r2,r3⟩:=xr;have rf:=SC.o.fz;have SE:=Lv (SC.o.put ⟨#[]⟩ Sy.zero);have GE:=Lv (Qw GC.o (Xu (Qq _ (some R)) (.string ⟨#[]⟩) (.int .i64 0) (.int .u64 0) (.bool false)) hRw);simp only [Sy.zero] at SE;go_wp2;refine bodyPost_ret (Xo rfl rfl rfl SE.o) rfl ?_
      refine ⟨?_,GE.o⟩;rw [Y1.o (by rw [EE.o];decide),EE.o];rfl
     ·have dEnd:((P:Int) + (T.length:Int) == (N:Int))=false:=by rw [beq_eq_false_iff_ne];omega
      rw [if_neg (fun h=>h.elim hT0 hEnd)] at he0;by_cases hLong : 255 < T.length
      ·have dLong:decide ((255:Int) < (T.length:Int))=true:=by simp;omega
       rw [if_pos hLong] at he0;have EE:=Lv he0;clear he0 hNP hT0 hEnd hLong;have xr:=SC.o.c;simp only [] at xr;obtain ⟨r0,r1,r2,r3⟩:=xr;have rf:=SC.o.fz;have SE:=Lv (SC.o.put ⟨#[]⟩ Sy.zero);have GE:=Lv (Qw GC.o (Xu (Qq _ (some R)) (.string ⟨#[]⟩) (.int .i64 0) (.int .u64 0) (.bool false)) hRw);simp only [Sy.zero] at SE;go_wp2;refine bodyPost_ret (Xo rfl rfl rfl SE.o) rfl ?_
       refine ⟨?_,GE.o⟩;rw [Y1.o (by rw [EE.o];decide),EE.o];rfl
      ·have dLong:decide ((255:Int) < (T.length:Int))=false:=by simp;omega
       rw [if_neg hLong] at he0;have EE:=Lv he0;clear he0 hNP hT0 hEnd hLong;have xr:=SC.o.c;simp only [] at xr;obtain ⟨r0,r1,r2,r3⟩:=xr;have rf:=SC.o.fz;have SE:=Lv (SC.o.put (strOfNums T) ⟨0,Vl,Wk⟩);have GE:=Lv (Qw GC.o (Xu (Qq _ (some R)) (.string (strOfNums T)) (.int .i64 0) (.int .u64 Vl) (.bool Wk)) hRw);simp only [] at SE;go_wp2;refine bodyPost_ret (Xo rfl rfl rfl SE.o) rfl ?_
       refine ⟨?_,GE.o⟩;rw [Y0.o EE.o,EE.o];rfl
end
section
variable {w w':World} {ys t:List Int} {n:Int}
structure AlO (w w':World) (R:Int × Syms) (r:Ending):Prop where
 ex:∃ q c,r=.returned (.tuple #[.slice q R.2.length c,.int .i64 R.1])∧Vx w' q R.2∧R.2.length≤c∧c≤9223372036854775807
 below:Below w.heap.size w w'
structure RaL (w wr:World) (t ys:List Int) (n:Int) (R:Int × Syms) (N:Nat) (vo vi:Value):Prop where
 ex:∃ (k:Nat) (D:Syms) (q:Option Addr) (c:Nat),k≤N∧vi=.int .i64 ((16 * k:Nat):Int)∧vo=.slice q D.length c∧wr.ownsRow w.heap.size 95 4 (.slice q D.length c) D.length (D.flatMap syCs)∧Bn ys n ((ents t).drop k) D=R∧Jg D
 grown:w.grownBy wr none
structure RaI (w3:World) (X:Nat) (y:Sym) (D:Syms) (vj:Value) (wl:World):Prop where
 ex:∃ j:Nat,j≤D.length∧vj=.int .i64 (j:Int)∧∀ (i:Nat) (d:Sym),i < j→D[i]?=some d→d.1≠y.1
 sy:SyAt wl X (strOfNums y.1) y.2
 grown:w3.grownBy wl none
theorem AlO.none (hg:w.grownBy w' Option.none) {E:Int} {R:Int × Syms} (hR:R=(E,[])):AlO w w' R (.returned (.tuple #[.slice Option.none 0 0,.int .i64 E])):=by
 subst hR;exact ⟨⟨_,_,rfl,Vx.nil,Nat.le_refl _,by omega⟩,Qg hg (Nat.le_refl _) (by simp)⟩
theorem all10_any {q q2:Option Addr} {c c2 L N:Nat} (hb:Qk w q c t) (hL:t.length=L) (hbigL:L≤140737488355328) (hc:L≤c) (hcm:c≤9223372036854775807) (ht:Byt t)
  (hb2:Qk w q2 c2 ys) (hN:ys.length=N) (hbig:N≤140737488355328) (hc2:N≤c2) (hy:Byt ys) :
  Calls Tryz.prog 86 #[.slice q L c,.slice q2 N c2,.int .i64 n] w fun r w'=>AlO w w' (Jk t ys n) r:=by
 obtain ⟨R,hR⟩:∃ R,R=Jk t ys n:=⟨_,rfl⟩
 rw [← hR];unfold Jk at hR;rw [hL] at hR;by_cases h16:L % 16=0
 ·have d16:(((L:Int) % 16) != 0)=false:=by simp;omega
  rw [if_pos h16] at hR;obtain ⟨M,hM⟩:∃ M,M=L / 16:=⟨_,rfl⟩
  have hLM:L=16 * M:=by omega
  have hbl:=fun (V:World) (hV:w.grownBy V none) (k:Nat) (hk:k < M)=>(by
    obtain ⟨b,o,e,hx⟩:=hb.2 (by omega);refine ⟨b,o,e,Qv hV (hx (16 * k + 4) (by omega)),fun W=>?_,?_⟩
    ·have:=Ss (T:=29) (by kernel_rfl) Pz b o L c (16 * k) 16 (by omega) hc (by omega) ((16 * k:Nat):Int) (((16 * k:Nat):Int) + 16) rfl rfl W
     exact this
    ·have h1:Qk w (some ⟨b,o + 16 * k,none⟩) (c - 16 * k) (Zf t k):=Qk.mk_at fun i hi=>by
      have hl:(Zf t k).length=16:=Wv (by omega);rw [hl] at hi;rw [Nat.add_assoc,hx (16 * k + i) (by omega)];simp [List.getD,Zf,List.getElem?_drop,hi]
     exact h1.kept hV (by simp):∃ b o,q=some ⟨b,o,none⟩∧V.cell? ⟨b,o + (16 * k + 4),none⟩=some (.int .u8 (t.getD (16 * k + 4) 0))∧(∀ W,(Instr.slice 29 (.slice (some ⟨b,o,none⟩) L c) (some (.int .i64 ((16 * k:Nat):Int))) (some (.int .i64 (((16 * k:Nat):Int) + 16))) none).run Tryz.prog W=.ok (.slice (some ⟨b,o + 16 * k,none⟩) 16 (c - 16 * k)) W)∧Qk V (some ⟨b,o + 16 * k,none⟩) (c - 16 * k) (Zf t k))
  have BL:=Lv hbl;have ONE:=Lv (fun (V:World) (hV:w.grownBy V none) (k:Nat) (hk:k < M) (b o:Nat) (h:Qk V (some ⟨b,o + 16 * k,none⟩) (c - 16 * k) (Zf t k)) (hto:Ym (Zf t k)=true) =>
    one10_any (n:=n) h (Wv (by omega)) (by omega) (by omega) (Vj ht k) (hb2.kept hV (by simp)) hN hbig hc2 hto)
  have KND:=Lv (fun (k:Nat) (hk:k < M)=>(show t.getD (16 * k + 4) 0=X9 (Zf t k) from by
    unfold X9 Zf;simp [List.getD,List.getElem?_drop]))
  have KB:=Lv (fun (k:Nat)=>(show 0≤X9 (Zf t k)∧X9 (Zf t k) < 256 from Mn (Vj ht k) 4));have TD:=Lv (fun (W:World) (k:Nat)=>(show Calls Tryz.prog 127 #[.int .i64 (X9 (Zf t k))] W fun e w'=>e=.returned (.bool (Ym (Zf t k)))∧w'=W from told10_any _ (Mn (Vj ht k) 4) W));have EAT:=Lv (fun (k:Nat) (hk:k < M)=>(show (ents t).drop k=Zf t k :: (ents t).drop (k + 1) from ents_at t (by omega)))
  have END:=Lv (show (ents t).drop M=[] from by rw [hM,← hL];exact ents_end t);have NXT:=Lv (fun (k:Nat) (D:Syms) (h:Jg D) (h0:nlE ys n D (Zf t k)=0)=>h.next hy (Vj ht k) h0);have BYY:=Lv (fun (k:Nat)=>Byt.pre (hy.drop (J4 (Zf t k)).toNat));have ST:=Lv (show RaL w w t ys n R M (.slice none 0 0) (.int .i64 0) from ⟨⟨0,[],none,0,Nat.zero_le _,rfl,rfl,World.ownsRow_nil _ _ _ _,hR.symm,Jg.nil⟩,Qq _ _⟩)
  have hLi:(L:Int)=16 * (M:Int):=by omega
  have HLM:=Lv hLi;clear hbl h16 hR hM hLM hb hb2 hy ht hN hL hLi hbig hc2;go_enter Tryz.func86,Tryz.ntmps86;go_wp2;go_loopw [8,9] (fun vo vi wr=>RaL w wr t ys n R M vo vi) (fun _ vi _=>L - (intOf vi).toNat)
  case atStart=>exact ST.o
  case round =>
    obtain ⟨⟨k,D,qo,co,hk,rfl,rfl,hrow,hrun,hok⟩,hg⟩:=hrel;have RW:=Lv hrow;have RN:=Lv hrun;have OK:=Lv hok;have GR:=Lv hg;obtain ⟨p,hp⟩:∃ p,p=16 * k:=⟨_,rfl⟩
    rw [← hp];have HP:=Lv hp;by_cases hlt:k < M
    ·obtain ⟨b,o,rfl,c4,hcut,hib⟩:=BL.o wr hg k hlt
     rw [KND.o k hlt] at c4;rw [← hp] at hcut c4 hib;have hpL:p + 16≤L:=by have:=HLM.o;omega
     have dl:decide ((p:Int) < (L:Int))=true:=by simp;omega
     have dl2:decide (p < L)=true:=by simp;omega
     have hpl3:(p:Int) < (L:Int):=by omega
     have hi4:(p:Int) + 4 < (L:Int):=by omega
     have hb47:(L:Int)≤140737488355328:=by omega
     have kb:=KB.o k;obtain ⟨kb0,kb1⟩:=kb;have kbw:wrap64 (X9 (Zf t k))=X9 (Zf t k):=IntWalk.wrap64_in _ (by omega);have IB:=Lv hib;clear hrow hrun hok hg hib hp;go_wp2_with fail;refine (TD.o wr k).mono ?_
     rintro r w1 ⟨rfl,rfl⟩;by_cases hto:Ym (Zf t k)=true
     ·have E0:=EAT.o k hlt
      have HRN:=RN.o;rw [E0,Wo] at HRN;rw [hto];have ON0:=ONE.o w1 GR.o k hlt b o (by rw [← HP.o];exact IB.o) hto;rw [← HP.o] at ON0;have ON:=Lv ON0;clear ON0;have e1:nlE ys n D (Zf t k)=Hr ys n D (Zf t k):=by unfold nlE;rw [hto];rfl
      have e2:nlD ys D (Zf t k)=D ++ [Hf ys (Zf t k)]:=by unfold nlD;rw [hto];rfl
      have NX:=Lv (fun h0=>NXT.o k D OK.o h0);rw [e1] at HRN NX;rw [e2] at HRN NX;have HA:Hr ys n D (Zf t k)=if Bs ys n (Zf t k)≠0 then Bs ys n (Zf t k) else if Kl D (nlNm ys (Zf t k))=true then 21 else if D.length=4096 then 11 else 0:=rfl
      have HV:Bs ys n (Zf t k)=0→oneV ys n (Zf t k)=Hf ys (Zf t k):=fun h=>by unfold oneV;rw [if_pos h]
      have HN1:(Hf ys (Zf t k)).1=nlNm ys (Zf t k):=rfl;have BN:=BYY.o k;rw [show pre (ys.drop (J4 (Zf t k)).toNat)=(Hf ys (Zf t k)).1 from rfl] at BN;rw [← HN1] at HA;clear HN1;generalize Hr ys n D (Zf t k)=EA at *;generalize Bs ys n (Zf t k)=EE at *;generalize oneV ys n (Zf t k)=y at *;generalize Hf ys (Zf t k)=z at *;obtain ⟨RR,hRR⟩:∃ RR,RR=Bn ys n ((ents t).drop (k + 1)) (D ++ [z]):=⟨_,rfl⟩
      rw [← hRR] at HRN;have HRR:=Lv hRR;have HRX:=Lv HRN;have HVV:=Lv HV;have HAA:=Lv HA;have NXX:=Lv NX;have BNN:=Lv BN;clear hRR E0 HRN HV HA NX BN e1 e2 hto c4 kb0 kb1 kbw;unfold syV Yi at ON;go_wp2_with fail;refine ON.o.mono ?_
      rintro r w2 ⟨rfl,hg⟩;have x3:=SyAt.new w2 (strOfNums y.1) y.2;have g3:=Qz hg (grown1 w2 (.cells #[.string (strOfNums y.1),.int .i64 y.2.sec,.int .u64 y.2.value,.bool y.2.weak] 95));obtain ⟨w3,hw3⟩:∃ W,W=w2.alloc (.cells #[.string (strOfNums y.1),.int .i64 y.2.sec,.int .u64 y.2.value,.bool y.2.weak] 95):=⟨_,rfl⟩
      obtain ⟨X,hX⟩:∃ X,X=w2.heap.size:=⟨_,rfl⟩
      rw [← hw3] at x3 g3;rw [← hX] at x3;have X3:=Lv x3;have G3:=Lv g3;clear x3 g3 hg ON hcut;go_upto_region 9 with fail;rw [← hw3,← hX];clear hw3 hX;by_cases hE:EE=0
      ·have dE:(EE != 0)=false:=by rw [hE];rfl
       have hA:=HAA.o;rw [if_neg (fun h=>h hE)] at hA;obtain rfl:=HVV.o hE;have HA2:=Lv hA;have GA:=Lv (Qz GR.o G3.o);have ROW3:=Lv (Qy RW.o G3.o);have hfew:=OK.o.few;have IN0:=Lv (show RaI w3 X y D (.int .i64 0) w3 from ⟨⟨0,Nat.zero_le _,rfl,fun i d h _=>by omega⟩,X3.o,Qq _ _⟩);clear hA hE;go_wp2;go_loopw [12] (fun vj wl=>RaI w3 X y D vj wl) (fun vj _=>D.length - (intOf vj).toNat)
       case atStart=>exact IN0.o
       case round =>
        obtain ⟨⟨j,hj,rfl,hno⟩,hsx,hgl⟩:=hrel;have NO:=Lv hno;have SX:=Lv hsx;have GL:=Lv hgl;by_cases hjl:j < D.length
        ·obtain ⟨d,hd⟩:∃ d,D[j]?=some d:=⟨_,List.getElem?_eq_getElem hjl⟩
         obtain ⟨gq,oq,rfl,a0,a1,a2,a3⟩:=(Vx.of (Qy ROW3.o hgl)).at hd;have x0:=hsx.c.1;have dj:decide ((j:Int) < (D.length:Int))=true:=by simp;omega
         have dj2:decide (j < D.length)=true:=by simp;omega
         have hjI:(j:Int) < (D.length:Int):=by omega
         have ee:=Gg (OK.o.each d (List.mem_of_getElem? hd)).1 BNN.o;have HDD:=Lv hd;clear hd hno hsx hgl a1 a2 a3;by_cases hs:d.1=y.1
         ·rw [decide_eq_true hs] at ee
          have hh:Kl D y.1=true:=Gk.2 ⟨d,List.mem_of_getElem? HDD.o,hs⟩;have hA:=HA2.o;rw [if_pos hh] at hA;have hR:=HRX.o;rw [if_neg (by rw [hA];decide),hA] at hR;have HR:=Lv hR.symm;have GF:=Lv (Qz GA.o GL.o);clear hs hh hA hR;go_wp2;go_quiet (fail);go_wp2;go_ret2
          exact AlO.none (Qj GF.o _) HR.o
         ·rw [decide_eq_false hs] at ee
          have HS:=Lv hs;have NW:=Lv (fun k=>(⟨⟨j + 1,hjl,by simp,fun i d' hi hd'=>by
           rcases Nat.lt_or_ge i j with h | h
           ·exact NO.o i d' h hd'
           ·obtain rfl:i=j:=by omega
            rw [HDD.o] at hd';injection hd' with hd';rw [← hd'];exact HS.o⟩,SX.o.kept (Qj (Qq wr (Option.none)) k) (by simp),Qj GL.o k⟩:RaI w3 X y D (.int .i64 ((j:Int) + 1)) (wr.drewN k)))
          clear hs;go_wp2;go_quiet (fail);go_wp2;go_roundw
          case rel=>exact NW.o _
          case measure=>simp [intOf];omega
        ·have hjD:j=D.length:=by omega
         subst hjD;have dj:decide ((D.length:Int) < (D.length:Int))=false:=by simp
         have hh:¬ Kl D y.1=true:=fun h=>by
          obtain ⟨d,hd,e⟩:=Gk.1 h;obtain ⟨i,hi,rfl⟩:=List.getElem_of_mem hd;exact hno i _ hi (List.getElem?_eq_getElem hi) e
         have hA:=HA2.o;rw [if_neg hh] at hA;have GF:=Lv (Qz GA.o GL.o);obtain ⟨x0,x1,x2,x3⟩:=hsx.c;have xl:=hsx.lt;clear hh hno hsx hgl hj;by_cases hfull:D.length=4096
         ·have d3:((D.length:Int) == 4096)=true:=by rw [hfull];rfl
          rw [if_pos hfull] at hA;have hR:=HRX.o;rw [if_neg (by rw [hA];decide),hA] at hR;have HR:=Lv hR.symm;clear hfull hA hR hjl;go_wp2;go_ret2
          exact AlO.none GF.o HR.o
         ·have d3:((D.length:Int) == 4096)=false:=by rw [beq_eq_false_iff_ne];omega
          rw [if_neg hfull] at hA;have hR:=HRX.o;rw [if_pos hA,HRR.o] at hR;have HR:=Lv hR;have OK2:=Lv (NXX.o hA);have g9:=grown1 wr (.cells #[.string (strOfNums y.1),.int .i64 y.2.sec,.int .u64 y.2.value,.bool y.2.weak] 95);have O9:=Lv (Qy (Qy ROW3.o GL.o) g9);have N9:=Lv (heap_alloc_new wr (.cells #[.string (strOfNums y.1),.int .i64 y.2.sec,.int .u64 y.2.value,.bool y.2.weak] 95))
          have G9:=Lv (Qz GF.o g9);have hw9:w.heap.size≤(wr.alloc (.cells #[.string (strOfNums y.1),.int .i64 y.2.sec,.int .u64 y.2.value,.bool y.2.weak] 95)).heap.size:=G9.o.size;have hf:(D.length + 1) * 40≤140737488355328:=by omega
          have HW9:=Lv hw9;clear g9 hfull hA hR hjl hw9;go_wp2_with (at_builtin;refine Zv syType rfl _ _ rfl _ D.length _ rfl O9.o (syCs y) rfl wr.heap.size rfl N9.o (syCs_one y) hf (by decide) HW9.o ?_;intro v7 w7 ho hg7)
          obtain ⟨q7,c7,rfl⟩:=Qp ho;have NEW:=Lv (show RaL w w7 t ys n R M (.slice q7 (D.length + 1) c7) (.int .i64 ((p:Int) + 16)) from ⟨⟨k + 1,D ++ [y],q7,c7,hlt,by rw [HP.o];congr 1,by rw [List.length_append];rfl,by rw [List.length_append,List.flatMap_append,List.flatMap_singleton];exact ho,HR.o,OK2.o⟩,Jc G9.o hg7 (fun b hb=>(O9.o.lt b hb).1) (Nat.le_refl _)⟩);clear ho hg7
          go_wp2;go_roundw
          case rel=>exact NEW.o
          case measure=>simp [intOf];omega
      ·have dE:(EE != 0)=true:=by simpa using hE
       have hA:=HAA.o;rw [if_pos hE] at hA;have hR:=HRX.o;rw [if_neg (by rw [hA];exact hE),hA] at hR;have HR:=Lv hR.symm;have GZ:=Lv (Qz GR.o G3.o);clear hA hE hR;go_wp2;go_ret2
       exact AlO.none GZ.o HR.o
     ·rw [Bool.not_eq_true] at hto
      have E0:=EAT.o k hlt;have HRN:=RN.o;rw [E0,Wo] at HRN;have e1:nlE ys n D (Zf t k)=0:=by unfold nlE;rw [hto];rfl
      have e2:nlD ys D (Zf t k)=D:=by unfold nlD;rw [hto];rfl
      rw [if_pos e1,e2] at HRN;rw [hto];have NEW:=Lv (show RaL w w1 t ys n R M (.slice qo D.length co) (.int .i64 ((p:Int) + 16)) from ⟨⟨k + 1,D,qo,co,hlt,by rw [HP.o];congr 1,rfl,RW.o,HRN,OK.o⟩,GR.o⟩);clear hto E0 HRN e1 e2;go_wp2;go_roundw
      case rel=>exact NEW.o
      case measure=>simp [intOf];omega
    ·have hkM:k=M:=by omega
     subst hkM;have hpL:p=L:=by have:=HLM.o;omega
     subst hpL;have dl:decide ((p:Int) < (p:Int))=false:=by simp
     rw [END.o] at hrun;have HF:=Lv (show R=(0,D) from hrun.symm);have C:=Lv (Gd hrow);have SA:=Lv (Vx.of hrow);clear hrow hrun hok hg hp;go_wp2;go_ret2
     rw [HF.o];exact ⟨⟨_,_,rfl,SA.o,C.o.1,C.o.2⟩,Qg GR.o (Nat.le_refl _) (by simp)⟩
 ·have d16:(((L:Int) % 16) != 0)=true:=by simp;omega
  rw [if_neg h16] at hR;have HR:=Lv hR;clear hR h16 hb hb2 ht hy;go_enter Tryz.func86,Tryz.ntmps86;go_wp2;go_ret2
  exact AlO.none (Qq _ _) HR.o
end
section
open Go.RowKit Go.Maps
variable {w w':World} {ys t:List Int} {n:Int}
structure PaL (w wr:World) (g a lo hi m:Nat) (t ys:List Int) (n:Int) (R:Int × Syms) (N:Nat) (vi:Value):Prop where
 ex:∃ (k:Nat) (D:Syms) (v:Value) (p:Nat),k≤N∧vi=.int .i64 ((16 * k:Nat):Int)∧Xi wr w.heap.size g a lo hi m v ys n p D∧Bn ys n ((ents t).drop k) D=R∧Jg D
 below:Below w.heap.size w wr
theorem allP_any {q q2:Option Addr} {c c2 L N:Nat} (hb:Qk w q c t) (hL:t.length=L) (hbigL:L≤140737488355328) (hc:L≤c) (hcm:c≤9223372036854775807) (ht:Byt t)
  (hb2:Qk w q2 c2 ys) (hN:ys.length=N) (hbig:N≤140737488355328) (hy:Byt ys) :
  Calls Tryz.prog 198 #[.slice q L c,.slice q2 N c2,.int .i64 n] w fun r w'=>AlO w w' (Jk t ys n) r:=by
 obtain ⟨R,hR⟩:∃ R,R=Jk t ys n:=⟨_,rfl⟩
 rw [← hR];unfold Jk at hR;rw [hL] at hR;by_cases h16:L % 16=0
 ·have d16:(((L:Int) % 16) != 0)=false:=by simp;omega
  rw [if_pos h16] at hR;obtain ⟨M,hM⟩:∃ M,M=L / 16:=⟨_,rfl⟩
  have hLM:L=16 * M:=by omega
  have BL:=Lv (fun (V:World) (hV:Below w.heap.size w V) (k:Nat) (hk:k < M)=>(by
    obtain ⟨b,o,e,hx⟩:=hb.2 (by omega);refine ⟨b,o,e,?_⟩;have h1:Qk w (some ⟨b,o + 16 * k,none⟩) 16 (Zf t k):=Qk.mk_at fun i hi=>by
     have hl:(Zf t k).length=16:=Wv (by omega);rw [hl] at hi;rw [Nat.add_assoc,hx (16 * k + i) (by omega)];simp [List.getD,Zf,List.getElem?_drop,hi]
    exact h1.below hV:∃ b o,q=some ⟨b,o,none⟩∧Qk V (some ⟨b,o + 16 * k,none⟩) 16 (Zf t k)))
  have EAT:=Lv (fun (k:Nat) (hk:k < M)=>(show (ents t).drop k=Zf t k :: (ents t).drop (k + 1) from ents_at t (by omega)));have END:=Lv (show (ents t).drop M=[] from by rw [hM,← hL];exact ents_end t);have TK:=Lv (fun (V:World) (g a lo hi m p:Nat) (v:Value) (D:Syms) (h:Xi V w.heap.size g a lo hi m v ys n p D) (hok:Jg D) (k:Nat) (hk:k < M) (b o:Nat) (hb:Qk V (some ⟨b,o + 16 * k,none⟩) 16 (Zf t k)) =>
    take_any10 h hok hy hb (Wv (by omega)) (Vj ht k))
  have NXT:=Lv (fun (k:Nat) (D:Syms) (h:Jg D) (h0:nlE ys n D (Zf t k)=0)=>h.next hy (Vj ht k) h0);have NW:=Lv (Pj hb2 hN hbig hy false);have hLi:(L:Int)=16 * (M:Int):=by omega
  have HLM:=Lv hLi;have HR0:=Lv hR;clear h16 hR hM hLM hb hb2 hy ht hN hL hLi;go_enter Tryz.func198,Tryz.ntmps198;go_wp2_with fail;refine NW.o.mono ?_
  rintro r w1 ⟨a,rfl,hp1,hbel⟩;have gm:=grown1 w1 (.map #[] 0);have nm:=MetN.made w1;obtain ⟨W1,hW1⟩:∃ W,W=w1.alloc (.map #[] 0):=⟨_,rfl⟩
  obtain ⟨m,hm⟩:∃ m,m=w1.heap.size:=⟨_,rfl⟩
  rw [← hW1] at gm nm;rw [← hm] at nm;have hlm:w1.heap.size≤W1.heap.size:=gm.size;have gt:=grown1 W1 (.cells #[.pointer (some ⟨a,0,none⟩),.int .i64 n,.slice none 0 0,.map (some m)] 285);have bt:=heap_alloc_new W1 (.cells #[.pointer (some ⟨a,0,none⟩),.int .i64 n,.slice none 0 0,.map (some m)] 285);obtain ⟨W2,hW2⟩:∃ W,W=W1.alloc (.cells #[.pointer (some ⟨a,0,none⟩),.int .i64 n,.slice none 0 0,.map (some m)] 285):=⟨_,rfl⟩
  obtain ⟨g,hgg⟩:∃ g,g=W1.heap.size:=⟨_,rfl⟩
  rw [← hW2] at gt bt;rw [← hgg] at bt;have T0:Xi W2 w.heap.size g a w.heap.size w1.heap.size m (.slice none 0 0) ys n 0 [] :=
    ⟨bt,(hp1.same gm).same gt,World.ownsRow_nil _ _ _ _,nm.kept gt (by simp),Nat.le_refl _,by omega,by omega⟩
  have B2:Below w.heap.size w W2:=hbel.trans (Qg (Qz gm gt) hbel.size (by simp));have ST:=Lv (show PaL w W2 g a w.heap.size w1.heap.size m t ys n R M (.int .i64 0) from ⟨⟨0,[],_,_,Nat.zero_le _,rfl,T0,HR0.o.symm,Jg.nil⟩,B2⟩);obtain ⟨hi,hhi⟩:∃ hi,hi=w1.heap.size:=⟨_,rfl⟩
  rw [← hhi] at ST;have HM:=Lv hm;have HW1:=Lv hW1;have HW2:=Lv hW2;have HG:=Lv (show m + 1=g by rw [hgg,hW1,hm];simp);clear hm hW1 hW2 hgg gm gt nm bt T0 B2 hbel hp1 hlm hhi;have hmm:=@run_makeMap Tryz.prog;go_upto_region 4 with fail;rw [← HW1.o,← HM.o,← HW2.o,HG.o];clear hmm HW1 HW2 HM HG;go_wp2;go_loopw [9] (fun vi wr=>PaL w wr g a w.heap.size hi m t ys n R M vi) (fun vi _=>L - (intOf vi).toNat)
  case atStart=>exact ST.o
  case round =>
    obtain ⟨⟨k,D,v,p0,hk,rfl,htel,hrun,hok⟩,hbw⟩:=hrel;have TE:=Lv htel;have RN:=Lv hrun;have OK:=Lv hok;have BW:=Lv hbw;obtain ⟨p,hp⟩:∃ p,p=16 * k:=⟨_,rfl⟩
    rw [← hp];have HP:=Lv hp;by_cases hlt:k < M
    ·obtain ⟨b,o,rfl,hib⟩:=BL.o wr hbw k hlt
     have tk:=TK.o wr g a w.heap.size hi m p0 v D htel hok k hlt b o hib;rw [← hp] at tk;have hpL:p + 16≤L:=by have:=HLM.o;omega
     have dl:decide ((p:Int) < (L:Int))=true:=by simp;omega
     have dl2:decide (p < L)=true:=by simp;omega
     have hpl3:(p:Int) + 16≤(L:Int):=by omega
     have hpl4:(p:Int) + 16≤(c:Int):=by omega
     have hb47:(L:Int)≤140737488355328:=by omega
     have hcI:(c:Int)≤9223372036854775807:=by omega
     have TKK:=Lv tk;have HRN:=RN.o;rw [EAT.o k hlt,Wo] at HRN;have NX:=Lv (fun h0=>NXT.o k D OK.o h0);generalize nlE ys n D (Zf t k)=E at *;generalize nlD ys D (Zf t k)=D2 at *;have HRX:=Lv HRN;clear htel hrun hok hbw hib hp tk HRN;go_wp2_with fail;refine TKK.o.mono ?_
     rintro r w2 ⟨rfl,hbl,hte⟩;have B2:=Lv (BW.o.trans hbl);by_cases hE:E=0
     ·have dE:(E != 0)=false:=by rw [hE];rfl
      obtain ⟨v',p',te⟩:=hte hE;have hR:=HRX.o;rw [if_pos hE] at hR;have NEW:=Lv (show PaL w w2 g a w.heap.size hi m t ys n R M (.int .i64 ((p:Int) + 16)) from ⟨⟨k + 1,D2,v',p',hlt,by rw [HP.o];congr 1,te,hR,NX.o hE⟩,B2.o⟩);clear hE hte te hR hbl;go_wp2;go_roundw
      case rel=>exact NEW.o
      case measure=>simp [intOf];omega
     ·have dE:(E != 0)=true:=by simpa using hE
      have hR:=HRX.o;rw [if_neg hE] at hR;have HR:=Lv hR.symm;clear hE hte hR hbl;go_wp2;go_ret2
      rw [HR.o];exact ⟨⟨_,_,rfl,Vx.nil,Nat.le_refl _,by omega⟩,B2.o⟩
    ·have hkM:k=M:=by omega
     subst hkM;have hpL:p=L:=by have:=HLM.o;omega
     subst hpL;have dl:decide ((p:Int) < (p:Int))=false:=by simp
     rw [END.o] at hrun;have HF:=Lv (show R=(0,D) from hrun.symm);obtain ⟨qv,cv,rfl⟩:=Qp htel.row;have C:=Lv (Gd htel.row);have SA:=Lv (Vx.of htel.row);have c2:=htel.c.2.2.1;have gl:=htel.lt;clear htel hrun hok hbw hp;go_wp2;go_ret2
     rw [HF.o];exact ⟨⟨_,_,rfl,SA.o,C.o.1,C.o.2⟩,BW.o⟩
 ·have d16:(((L:Int) % 16) != 0)=true:=by simp;omega
  rw [if_neg h16] at hR;have HR:=Lv hR;clear hR h16 hb hb2 ht hy;go_enter Tryz.func198,Tryz.ntmps198;go_wp2;go_ret2
  exact AlO.none (Qq _ _) HR.o
end
section
open Go.RowKit Go.ChangeShapes Go.WideShapes Go.Deep
structure Cm where
 cmd:Int
 q:Option Addr
 cap:Nat
 bytes:List Int
structure Cm.Fits (m:Cm):Prop where
 cmd : 0≤m.cmd∧m.cmd < 4294967296
 bytes:Q3 m.bytes
 len:m.bytes.length≤m.cap
 cap:m.cap≤9223372036854775807
def Cm.zero:Cm:=⟨0,none,0,[]⟩
def Cm.v (m:Cm):Value:=.agg #[.int .u32 m.cmd,.slice m.q m.bytes.length m.cap]
def Tw (w:World) (p:Option Addr) (l:List Cm):Prop :=
 0 < l.length→∃ b o,p=some ⟨b,o,none⟩∧∀ i m,l[i]?=some m →
  (w.cell? ⟨b,o + i * 2,none⟩=some (.int .u32 m.cmd)∧w.cell? ⟨b,o + i * 2 + 1,none⟩=some (.slice m.q m.bytes.length m.cap)) ∧
  Qk w m.q m.cap m.bytes
theorem Tw.grown {p:Option Addr} {l:List Cm} (h:Tw w p l) (hg:w.grownBy w' none):Tw w' p l:=by
 intro hl;obtain ⟨b,o,rfl,hc⟩:=h hl;refine ⟨b,o,rfl,fun i m hm=>?_⟩;obtain ⟨⟨h0,h1⟩,h4⟩:=hc i m hm;exact ⟨⟨hg.cell h0 (by simp),hg.cell h1 (by simp)⟩,h4.kept hg (by simp)⟩
def CmAt (w:World) (g:Nat) (m:Cm):Prop:=w.heap[g]?=some (.cells #[.int .u32 m.cmd,.slice m.q m.bytes.length m.cap] 162 (0,0))
theorem CmAt.new (w:World) (m:Cm):CmAt (w.alloc (.cells #[.int .u32 m.cmd,.slice m.q m.bytes.length m.cap] 162)) w.heap.size m:=heap_alloc_new w _
def mayB (cmd:Int) (ys:List Int):Bool:=decide (8≤ys.length∧ys.length % 8=0∧leN (ys.take 4)=cmd∧leN ((ys.drop 4).take 4)=ys.length)
theorem Gt {ys:List Int} (h:Q3 ys) (p:Nat) : 0≤leN ((ys.drop p).take 4)∧leN ((ys.drop p).take 4) < 4294967296:=by
 have h1:=Ws ((ys.drop p).take 4) (fun x hx=>h x (List.mem_of_mem_drop (List.mem_of_mem_take hx)));have h2:((ys.drop p).take 4).length≤4:=by simp;omega
 have h3:(2:Int) ^ (8 * ((ys.drop p).take 4).length)≤2 ^ 32:=by
  have:(2:Nat) ^ (8 * ((ys.drop p).take 4).length)≤2 ^ 32:=Nat.pow_le_pow_right (by decide) (by omega)
  exact_mod_cast this
 exact ⟨h1.1,Int.lt_of_lt_of_le h1.2 h3⟩
end
def Qc (b:List Int) (p n:Nat):Int:=leN ((b.drop p).take n)
def Xl (b:List Int) (p:Nat):List Int:=pre ((b.drop p).take 16)
structure Sec where
 name:List Int
 seg:List Int
 addr:Int
 size:Int
 off:Int
 kind:Int
def Rf (b:List Int) (p:Nat):Sec:=⟨Xl b p,Xl b (p + 16),Qc b (p + 32) 8,Qc b (p + 40) 8,Qc b (p + 48) 4,Qc b (p + 64) 1⟩
structure Seg where
 name:List Int
 addr:Int
 size:Int
 off:Int
 fsize:Int
 prot:Int
 secs:List Sec
def Xx (cmd:Int):Int :=
 if cmd=2147483688 then 24 else if cmd=2 then 24 else if cmd=2147483700 then 16 else if cmd=2147483699 then 16 else
 if cmd=2147483682 then 48 else if cmd=34 then 48 else if cmd=2147483683 then 24 else if cmd=2147483679 then 24 else
 if cmd=2147483672 then 24 else if cmd=12 then 24 else if cmd=13 then 24 else if cmd=25 then 72 else 0
def Qd (b:List Int):Int:=Qc b 0 4
def Ji (b:List Int):Prop:=b.length < 8∨(b.length:Int) < Xx (Qd b)
instance (b:List Int):Decidable (Ji b):=by unfold Ji;infer_instance
def Xn (b:List Int):Nat:=(Qc b 64 4).toNat
def Vd (b:List Int) (n:Nat):List Sec:=(List.range n).map fun i=>Rf b (72 + 80 * i)
def Vo (b:List Int) (n:Nat):Bool:=(Vd b n).any fun s=>decide (s.seg≠Xl b 8)
def Z6 (b:List Int):Int :=
 if Ji b then 3 else if Qd b≠25 then 7 else
 if (b.length - 72) / 80 < Xn b then 3 else
 if 7 < Qc b 60 4 then 9 else
 if Vo b (Xn b)=true then 9 else
 if 64 < Xn b then 11 else 0
def Ky (b:List Int):Seg:=⟨Xl b 8,Qc b 24 8,Qc b 32 8,Qc b 40 8,Qc b 48 8,Qc b 60 4,Vd b (Xn b)⟩
def named (cmd:Int):Prop:=cmd=13∨cmd=12∨cmd=2147483672∨cmd=2147483679∨cmd=2147483683
instance (cmd:Int):Decidable (named cmd):=by unfold named;infer_instance
def Pp (l:List Int):List Int:=if (pre l).length < l.length∧(pre l).length≤255 then pre l else []
def Vz (b:List Int):List Int:=if (b.length:Int) < Qc b 8 4 then [] else Pp (b.drop (Qc b 8 4).toNat)
def Xj (b:List Int):Int:=if Ji b then 3 else if ¬ named (Qd b) then 7 else if Vz b=[] then 10 else 0
def Qb (b:List Int) (p:Nat) (u:Int):Int × Int:=(Qc b p 4,Qc b (p + 4) 4 * u)
def Xq (cmd:Int):Prop:=cmd=34∨cmd=2147483682
instance (cmd:Int):Decidable (Xq cmd):=by unfold Xq;infer_instance
def J1 (cmd:Int):Prop:=cmd=2147483699∨cmd=2147483700
instance (cmd:Int):Decidable (J1 cmd):=by unfold J1;infer_instance
def Kv (b:List Int):List (Int × Int) :=
 if Xq (Qd b) then [Qb b 8 1,Qb b 16 1,Qb b 24 1,Qb b 32 1,Qb b 40 1] else
 if J1 (Qd b) then [Qb b 8 1] else
 if Qd b=2 then [Qb b 8 16,Qb b 16 1] else []
def Jo (b:List Int):Int:=if Ji b then 3 else if Xq (Qd b)∨J1 (Qd b)∨Qd b=2 then 0 else 7
structure St where
 name:List Int
 segs:List Seg
 deps:List (List Int × Int)
 rb:Int × Int
 bd:Int × Int
 wk:Int × Int
 lz:Int × Int
 tr:Int × Int
 ch:Int × Int
 sy:Int × Int
 st:Int × Int
 entry:Int
 has:Bool
 met:List Int
 secs:Int
def St.zero:St:=⟨[],[],[],(0,0),(0,0),(0,0),(0,0),(0,0),(0,0),(0,0),(0,0),0,false,[],0⟩
def St.meet (s:St) (k:Int):St:={ s with met:=s.met ++ [k] }
def Kr (s:St) (k:Int):Int:=if k∈s.met then 21 else 0
def Xr (cmd:Int):Int:=if cmd=12 then 1 else if cmd=2147483672 then 2 else if cmd=2147483679 then 3 else if cmd=2147483683 then 4 else 0
def segE (s:St) (b:List Int):Int:=if Z6 b≠0 then Z6 b else if s.segs.length=16∨64 < s.secs + (Ky b).secs.length then 11 else 0
def segS (s:St) (b:List Int):St:={ s with secs:=s.secs + (Ky b).secs.length,segs:=s.segs ++ [Ky b] }
def ownE (s:St) (b:List Int):Int:=if Xj b≠0 then Xj b else Kr s 13
def ownS (s:St) (b:List Int):St:={ s with name:=Vz b }.meet 13
def depE (s:St) (b:List Int):Int:=if Xj b≠0 then Xj b else if s.deps.length=64 then 11 else 0
def depS (s:St) (b:List Int) (k:Int):St:={ s with deps:=s.deps ++ [(Vz b,k)] }
def Rm (s:St) (x:Int × Int):Int:=if x.2=0 then 0 else Kr s 2147483699
def Km (s:St) (x:Int × Int):St:=if x.2=0 then s else { s with tr:=x }.meet 2147483699
def Vr (s:St) (b:List Int):St:={ s.meet 34 with rb:=Qb b 8 1,bd:=Qb b 16 1,wk:=Qb b 24 1,lz:=Qb b 32 1 }
def spE (s:St) (b:List Int):Int :=
 if Jo b≠0 then Jo b else
 if Xq (Qd b) then (if Kr s 34≠0 then Kr s 34 else Rm (Vr s b) (Qb b 40 1)) else
 if Qd b=2147483699 then Rm s (Qb b 8 1) else Kr s (Qd b)
def spS (s:St) (b:List Int):St :=
 if Xq (Qd b) then Km (Vr s b) (Qb b 40 1) else
 if Qd b=2147483699 then Km s (Qb b 8 1) else
 if Qd b=2147483700 then { s with ch:=Qb b 8 1 }.meet (Qd b) else { s with sy:=Qb b 8 16,st:=Qb b 16 1 }.meet (Qd b)
def entE (s:St) (b:List Int):Int:=if Ji b then 3 else Kr s 2147483688
def entS (s:St) (b:List Int):St:={ s with entry:=Qc b 8 8,has:=true }.meet 2147483688
def Zs (s:St) (b:List Int):Int :=
 if Qd b=25 then segE s b else if Qd b=13 then ownE s b else if Xr (Qd b)≠0 then depE s b else
 if Xq (Qd b)∨J1 (Qd b)∨Qd b=2 then spE s b else if Qd b=2147483688 then entE s b else
 if 2147483648≤Qd b then 7 else 0
def Zg (s:St) (b:List Int):St :=
 if Qd b=25 then segS s b else if Qd b=13 then ownS s b else if Xr (Qd b)≠0 then depS s b (Xr (Qd b)) else
 if Xq (Qd b)∨J1 (Qd b)∨Qd b=2 then spS s b else if Qd b=2147483688 then entS s b else s
def runE:St→List (List Int)→Int
 | _,[]=>0
 | s,b :: l=>if Zs s b=0 then runE (Zg s b) l else Zs s b
def runS:St→List (List Int)→St
 | s,[]=>s
 | s,b :: l=>runS (Zg s b) l
theorem runE_snoc (s:St) (l:List (List Int)) (b:List Int) (h:runE s l=0):runE s (l ++ [b])=Zs (runS s l) b:=by
 induction l generalizing s with
 | nil =>
  show (if Zs s b=0 then 0 else Zs s b)=Zs s b
  split
  ·rename_i h;exact h.symm
  ·rfl
 | cons x l ih =>
  simp only [runE,List.cons_append,runS] at h ⊢
  split at h
  ·rename_i h0
   rw [if_pos h0];exact ih _ h
  ·rename_i h0;exact absurd h h0
theorem runS_snoc (s:St) (l:List (List Int)) (b:List Int):runS s (l ++ [b])=Zg (runS s l) b:=by
 induction l generalizing s with
 | nil=>rfl
 | cons x l ih=>exact ih _
theorem runE_stop (s:St) (l r:List (List Int)) (h:runE s l≠0):runE s (l ++ r)=runE s l:=by
 induction l generalizing s with
 | nil=>exact absurd rfl h
 | cons x l ih =>
  simp only [runE,List.cons_append] at h ⊢
  split
  ·rename_i h0
   rw [if_pos h0] at h;exact ih _ h
  ·rfl
theorem Jm {b:List Int} (h:Q3 b) (p:Nat) : 0≤Qc b p 4∧Qc b p 4 < 4294967296:=Gt h p
theorem add64i_run (x y:Int) (w:World) (hx : 0≤x∧x < 18446744073709551616) (hy : 0≤y∧y < 18446744073709551616) :
  (callFunc 170 #[.int .u64 x,.int .u64 y,.int .u64 0]).run Tryz.prog w =
    .ok (.value (.tuple #[.int .u64 ((x + y) % 18446744073709551616),.int .u64 ((x + y) / 18446744073709551616)])) w:=by
 obtain ⟨m,rfl⟩:=Int.eq_ofNat_of_zero_le hx.1;obtain ⟨n,rfl⟩:=Int.eq_ofNat_of_zero_le hy.1;rw [run_callFunc_extern Tryz.func170 (by kernel_rfl) (by kernel_rfl) (by kernel_rfl) (e:=add64Entry) (by kernel_rfl),run_add64 m n 0 (by omega) (by omega) (by omega) (by omega)];simp only [Result.andThen]
 congr 5 <;> omega
theorem addi_yes (a b:Int) (ha : 0≤a∧a < 18446744073709551616) (hb : 0≤b∧b < 18446744073709551616) (h:a + b < 18446744073709551616) (w:World) :
  Calls Tryz.prog 164 #[.int .u64 a,.int .u64 b] w fun e w'=>e=.returned (.tuple #[.int .u64 (a + b),.bool true])∧w=w':=by
 have hr:=add64i_run a b w ha hb;rw [show (a + b) % 18446744073709551616=a + b by omega,show (a + b) / 18446744073709551616=0 by omega] at hr;go_enter Tryz.func164,Tryz.ntmps164;go_wp2;go_ret2
 exact ⟨rfl,rfl⟩
theorem addi_no (a b:Int) (ha : 0≤a∧a < 18446744073709551616) (hb : 0≤b∧b < 18446744073709551616) (h:¬ a + b < 18446744073709551616) (w:World) :
  Calls Tryz.prog 164 #[.int .u64 a,.int .u64 b] w fun e w'=>e=.returned (.tuple #[.int .u64 0,.bool false])∧w=w':=by
 have hr:=add64i_run a b w ha hb;rw [show (a + b) / 18446744073709551616=1 by omega] at hr;go_enter Tryz.func164,Tryz.ntmps164;go_wp2;go_ret2
 exact ⟨rfl,rfl⟩
theorem withini_any (a b c:Int) (ha : 0≤a∧a < 18446744073709551616) (hb : 0≤b∧b < 18446744073709551616) (hc : 0≤c∧c < 18446744073709551616) (w:World) :
  Calls Tryz.prog 150 #[.int .u64 a,.int .u64 b,.int .u64 c] w fun e w'=>e=.returned (.bool (decide (a + b≤c)))∧w=w':=by
 by_cases h:a + b < 18446744073709551616
 ·have hs:=Lv (addi_yes a b ha hb h w)
  go_enter Tryz.func150,Tryz.ntmps150;go_wp2_with fail;refine hs.o.mono ?_
  rintro e w' ⟨rfl,rfl⟩;go_wp2;go_ret
  exact ⟨Vu (by simp),rfl⟩
 ·have hs:=Lv (addi_no a b ha hb h w)
  have e:decide (a + b≤c)=false:=by simp;omega
  rw [e];clear e;go_enter Tryz.func150,Tryz.ntmps150;go_wp2_with fail;refine hs.o.mono ?_
  rintro e w' ⟨rfl,rfl⟩;go_wp2;go_ret
  exact ⟨rfl,rfl⟩
section
def Yr (xs:List Int) (k:Nat):Int:=if xs.length < 4 * (k + 1) then 0 else leN ((xs.drop (4 * k)).take 4)
theorem wordN_bd {xs:List Int} (h:Q3 xs) (k:Nat) : 0≤Yr xs k∧Yr xs k < 4294967296:=by
 unfold Yr
 split
 ·omega
 ·exact Gt h _
theorem Ks {ys:List Int} (h : 32≤ys.length) (k:Nat) (hk:k < 8):Yr (ys.take 32) k=leN ((ys.drop (4 * k)).take 4):=by
 unfold Yr;rw [if_neg (by rw [List.length_take];omega),List.drop_take,List.take_take,Nat.min_eq_left (by omega)]
structure Fr where
 sub:Int
 kind:Int
 flags:Int
 count:Int
 size:Int
section
variable {g:Nat} {f:Fr}
end
section
variable {lo hi a:Nat} {xs:List Int} {p:Nat}
end
def frOf (xs:List Int):Fr:=⟨Yr xs 2 % 16777216,Yr xs 3,Yr xs 6,Yr xs 4,Yr xs 5⟩
def Wc (xs:List Int) (n:Nat):Int :=
 if xs.length < 32 then 3 else
 if Yr xs 0≠4277009103 then 5 else
 if Yr xs 1≠16777228∨¬ (Yr xs 2 % 16777216=0∨Yr xs 2 % 16777216=2) then 6 else
 if ¬ (Yr xs 3=2∨Yr xs 3=6) then 7 else
 if 256 < Yr xs 4 then 11 else
 if ¬ 32 + Yr xs 5≤n then 3 else 0
end
structure Hd where
 sub:Int
 kind:Int
 flags:Int
def Hd.v (h:Hd):Value:=.agg #[.int .i64 h.sub,.int .i64 h.kind,.int .u32 h.flags]
def HdAt (w:World) (g:Nat) (h:Hd):Prop:=w.heap[g]?=some (.cells #[.int .i64 h.sub,.int .i64 h.kind,.int .u32 h.flags] 97 (0,0))
theorem Xh {g:Nat} {h:Hd} (hh:HdAt w g h):(loadVar 97 ⟨g,0,none⟩).run Tryz.prog w=.ok h.v w :=
 run_loadVar_row w g _ _ _ _ _ hh Tryz.underlying97 rfl (by kernel_rfl)
theorem HdAt.put {g:Nat} {h:Hd} (hh:HdAt w g h) (t:Hd):HdAt (((w.setCell ⟨g,0,none⟩ (.int .i64 t.sub)).setCell ⟨g,1,none⟩ (.int .i64 t.kind)).setCell ⟨g,2,none⟩ (.int .u32 t.flags)) g t:=by
 unfold HdAt;rw [heap_setCell_same _ g 2 _ _ _ (heap_setCell_same _ g 1 _ _ _ (heap_setCell_same w g 0 _ _ _ hh))];rfl
theorem Jp {g:Nat} (h:w.grownBy w' (some g)) (v0 v1 v2:Value):w.grownBy (((w'.setCell ⟨g,0,none⟩ v0).setCell ⟨g,1,none⟩ v1).setCell ⟨g,2,none⟩ v2) (some g) :=
 Qx (Qx (Qx h _) _) _
section
section
variable {lo hi a:Nat} {xs:List Int} {p:Nat} {big bad:Bool}
end
def szC (xs:List Int) (p:Nat):Int:=leN ((xs.drop (p + 4)).take 4)
def okN (xs:List Int) (p:Nat):Prop:=p + 8≤xs.length∧8≤szC xs p∧szC xs p % 8=0∧p + szC xs p≤xs.length
theorem may_of_ok {xs:List Int} {p k:Nat} (hk:szC xs p=k) (h:okN xs p):mayB (leN ((xs.drop p).take 4)) ((xs.drop p).take k)=true:=by
 obtain ⟨h1,h2,h3,h4⟩:=h;have hl:((xs.drop p).take k).length=k:=by rw [List.length_take,List.length_drop];omega
 unfold mayB;refine decide_eq_true ⟨by omega,by omega,?_,?_⟩
 ·rw [List.take_take,Nat.min_eq_left (by omega)]
 ·rw [List.drop_take,List.take_take,Nat.min_eq_left (by omega),List.drop_drop,hl,← hk]
  rfl
end
section
attribute [local go_sem] Oper.semAt_some
instance {xs:List Int} {p:Nat}:Decidable (okN xs p):=by unfold okN;infer_instance
def Ye (xs:List Int):Nat→Nat→Option (List (Int × List Int))
 | 0,_=>some []
 | n + 1,p=>if okN xs p then (Ye xs n (p + (szC xs p).toNat)).map (fun l=>(leN ((xs.drop p).take 4),(xs.drop p).take (szC xs p).toNat) :: l) else none
def Cm.d (m:Cm):Int × List Int:=(m.cmd,m.bytes)
def Came (xs:List Int) (cnt i p:Nat) (pre:List Cm):Prop:=(i≤cnt∧pre.length=i)∧Ye xs cnt 0=(Ye xs (cnt - i) p).map (pre.map Cm.d ++ ·)
theorem Came.start (xs:List Int) (cnt:Nat):Came xs cnt 0 0 []:=by
 refine ⟨⟨Nat.zero_le _,rfl⟩,?_⟩;simp
theorem Came.step {xs:List Int} {cnt i p:Nat} {pre:List Cm} (h:Came xs cnt i p pre) (hi:i < cnt) (ho:okN xs p) {m:Cm} (h1:m.cmd=leN ((xs.drop p).take 4)) (h2:m.bytes=(xs.drop p).take (szC xs p).toNat) :
  Came xs cnt (i + 1) (p + (szC xs p).toNat) (pre ++ [m]):=by
 refine ⟨⟨hi,by rw [List.length_append,h.1.2];rfl⟩,?_⟩;rw [h.2,show cnt - i=(cnt - (i + 1)) + 1 from by omega,Ye,if_pos ho,← h1,← h2,Option.map_map,List.map_append]
 congr 1
 funext l
 simp [Cm.d]
theorem Came.bad {xs:List Int} {cnt i p:Nat} {pre:List Cm} (h:Came xs cnt i p pre) (hi:i < cnt) (ho:¬ okN xs p):Ye xs cnt 0=none:=by
 rw [h.2,show cnt - i=(cnt - (i + 1)) + 1 from by omega,Ye,if_neg ho];rfl
theorem Came.done {xs:List Int} {cnt p:Nat} {pre:List Cm} (h:Came xs cnt cnt p pre):Ye xs cnt 0=some (pre.map Cm.d):=by
 rw [h.2,Nat.sub_self,Ye];simp
end
end Go.Proofs.YtkmbkpoclhbmgaaGreat
