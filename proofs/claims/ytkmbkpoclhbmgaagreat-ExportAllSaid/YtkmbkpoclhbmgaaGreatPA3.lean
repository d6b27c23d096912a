/- Parts of the proof, put together: TrR, TrP, TrQ, TrT. No condition beyond those that each part names. -/
import Derived.StillTailTactics
import Derived.Deep.Cut
import Derived.Deep.CutRange
import Derived.PlainAid
import Derived.Lib.SlBytesRow
import Derived.Test.YtkmbkpoclhbmgaaGreatPA2
set_option maxRecDepth 20000
set_option maxHeartbeats 6400000
namespace Go.Proofs.YtkmbkpoclhbmgaaGreat
open Go.RowKit
variable {w w' W V:World}
section
variable {w w' W:World} {g b o c:Nat} {xs:List Int} {s s':Cs}
def ulR (xs:List Int) (s:Cs):Int × Cs:=((Zl (xs.drop s.1)).1,(s.1 + (Zl (xs.drop s.1)).2,s.2 || decide ((Zl (xs.drop s.1)).2=0)))
def txR (xs:List Int) (s:Cs):List Int × Cs :=
 if (pre (xs.drop s.1)).length < (xs.drop s.1).length∧(pre (xs.drop s.1)).length≤255 then (pre (xs.drop s.1),(s.1 + (pre (xs.drop s.1)).length + 1,s.2)) else ([],(s.1,true))
theorem Kh (xs:List Int) (s:Cs):Sim ulP xs s (ulR xs s).1 (ulR xs s).2:=by
 unfold ulR;refine ⟨Nat.le_add_right _ _,fun e=>?_,fun hb e=>?_⟩
 ·simp only [Bool.or_eq_false_iff,decide_eq_false_iff_not] at e
  refine ⟨e.1,?_⟩;unfold ulP;rw [if_neg e.2,Nat.add_sub_cancel_left]
 ·simp only [hb,Bool.false_or,decide_eq_true_eq] at e
  unfold ulP;rw [if_pos e]
theorem Tu (xs:List Int) (s:Cs):Sim txP xs s (txR xs s).1 (txR xs s).2:=by
 unfold txR
 split
 ·rename_i h
  refine ⟨by simp only [];omega,fun e=>⟨e,?_⟩,fun hb e=>by rw [hb] at e;cases e⟩;unfold txP;rw [if_pos h];simp only [Option.some.injEq,Prod.mk.injEq,true_and];omega
 ·rename_i h
  refine Sim.bad (Nat.le_refl _) rfl (fun _=>?_);unfold txP;rw [if_neg h]
theorem ulR_le {xs:List Int} {s:Cs} (h:s.1≤xs.length):(ulR xs s).2.1≤xs.length:=by
 unfold ulR;simp only [];by_cases h0:(Zl (xs.drop s.1)).2=0
 ·omega
 ·obtain ⟨h1,_⟩:=V7 h0
  have:=(Px 10 (xs.drop s.1)).2
  rw [List.length_drop] at this;omega
theorem txR_le {xs:List Int} {s:Cs} (h:s.1≤xs.length):(txR xs s).2.1≤xs.length:=by
 unfold txR
 split
 ·rename_i h1
  have:=h1.1
  rw [List.length_drop] at this;simp only [];omega
 ·exact h
theorem Pk {xs:List Int} {s:Cs} : 0≤(ulR xs s).1∧(ulR xs s).1 < 18446744073709551616:=by
 unfold ulR;simp only [];by_cases h:(Zl (xs.drop s.1)).2=0
 ·rw [Ms h];simp
 ·obtain ⟨_,h2,h3⟩:=V7 h
  have:=Gl ((xs.drop s.1).take (szN 10 (xs.drop s.1)))
  omega
theorem uleb_ten (l:List Int):(Zl l).2≤10:=by
 by_cases h:(Zl l).2=0
 ·omega
 ·obtain ⟨h1,_⟩:=V7 h
  have:=(Px 10 l).1
  omega
structure Rd (w:World) (g b o c:Nat) (xs:List Int) (s:Cs):Prop where
 blk:w.heap[g]?=some (.cells #[.slice (some ⟨b,o,none⟩) xs.length c,.int .i64 s.1,.bool s.2] 200 (0,0))
 cell:∀ i,i < xs.length→w.cell? ⟨b,o + i,none⟩=some (.int .u8 (xs.getD i 0))
 room:xs.length≤c
 top:c≤9223372036854775807
 le:s.1≤xs.length
 big:xs.length≤140737488355328
 byt:Byt xs
 ne:b≠g
theorem Rd.c0 (h:Rd w g b o c xs s):w.cell? ⟨g,0,none⟩=some (.slice (some ⟨b,o,none⟩) xs.length c):=by rw [Qm h.blk];rfl
theorem Rd.c1 (h:Rd w g b o c xs s):w.cell? ⟨g,1,none⟩=some (.int .i64 s.1):=by rw [Qm h.blk];rfl
theorem Rd.c2 (h:Rd w g b o c xs s):w.cell? ⟨g,2,none⟩=some (.bool s.2):=by rw [Qm h.blk];rfl
theorem Rd.f (h:Rd w g b o c xs s) (i:Nat):w.frozen? ⟨g,i,none⟩=false:=Xg h.blk
theorem Rd.lt (h:Rd w g b o c xs s):g < w.heap.size:=lt_of_block h.blk
theorem Rd.kept {r:Option Nat} (h:Rd w g b o c xs s) (hg:w.grownBy w' r) (h1:r≠some g) (h2:r≠some b):Rd w' g b o c xs s :=
 ⟨(hg.block g (lt_of_block h.blk) (fun e=>h1 e.symm)).trans h.blk,fun i hi=>hg.cell (h.cell i hi) (fun e=>h2 e.symm),h.room,h.top,h.le,h.big,h.byt,h.ne⟩
theorem Rd.grown (h:Rd w g b o c xs s) (hg:w.grownBy w' none):Rd w' g b o c xs s:=h.kept hg (by simp) (by simp)
theorem Rd.drewN (h:Rd w g b o c xs s) (n:Nat):Rd (w.drewN n) g b o c xs s:=h.grown (Qj (Qq w none) n)
theorem Rd.set (h:Rd w g b o c xs s) {W:World} (hg:w.grownBy W (some g)) (hb:W.heap[g]?=some (.cells #[.slice (some ⟨b,o,none⟩) xs.length c,.int .i64 s'.1,.bool s'.2] 200 (0,0))) (hl:s'.1≤xs.length):Rd W g b o c xs s' :=
 ⟨hb,fun i hi=>hg.cell (h.cell i hi) (fun e=>h.ne (by injection e)),h.room,h.top,hl,h.big,h.byt,h.ne⟩
theorem Rd.step (h:Rd w g b o c xs s) (k:Nat) (bad:Bool) (p:Nat) {P:Int} (hP:P=p) (hl:p≤xs.length):Rd (((w.drewN k).setCell ⟨g,2,none⟩ (.bool bad)).setCell ⟨g,1,none⟩ (.int .i64 P)) g b o c xs (p,bad):=by
 subst hP;refine h.set (s':=(p,bad)) (Qx (Qx (Qj (Qq w _) k) _) _) ?_ hl
 rw [heap_setCell_same _ g 1 _ _ _ (heap_setCell_same _ g 2 _ _ _ (h.drewN k).blk)];rfl
theorem Rd.grow (_h:Rd w g b o c xs s) (k:Nat) (bad:Bool) (P:Int):w.grownBy (((w.drewN k).setCell ⟨g,2,none⟩ (.bool bad)).setCell ⟨g,1,none⟩ (.int .i64 P)) (some g) :=
 Qx (Qx (Qj (Qq w _) k) _) _
theorem Z8 (h:Rd w g b o c xs s) :
  Calls Tryz.prog 113 #[.pointer (some ⟨g,0,none⟩)] w fun e w'=>e=.returned (.int .u64 (ulR xs s).1)∧Rd w' g b o c xs (ulR xs s).2∧w.grownBy w' (some g):=by
 have hle:=h.le;have hbig:=h.big;have hroom:=h.room;have htop:=h.top;have c0:=h.c0;have c1:=h.c1;have c2:=h.c2;have hl2:=ulR_le h.le;have hten:=uleb_ten (xs.drop s.1);obtain ⟨V,hV,hB,_⟩:=H7 h.cell h.room h.le .i64;have hlen:(xs.drop s.1).length=xs.length - s.1:=by simp
 have UL:=Lv (fun n=>quiet_eq (refuleb_any (w:=w.drewN n) (hB.drewN n) (h.byt.drop _) (by omega)));unfold ulR at hl2 ⊢;rw [hlen] at UL;obtain ⟨⟨v,n⟩,hr⟩:∃ r,r=Zl (xs.drop s.1):=⟨_,rfl⟩
 rw [← hr] at UL hl2 hten ⊢;have H:=Lv h;have f1:=h.f 1;have f2:=h.f 2;obtain ⟨N,hN⟩:∃ N,N=xs.length:=⟨_,rfl⟩
 rw [← hN] at hle hbig hroom c0 UL hl2 hV;have HN:=Lv hN;obtain ⟨p,bad⟩:=s;simp only [] at hle c1 c2 UL hl2 hV hten ⊢;clear h hr hlen hN hB;rw [HN.o] at hl2;have FIN:=Lv (fun k b2 P hP=>And.intro (H.o.step k b2 (p + n) (P:=P) hP hl2) (H.o.grow k b2 P));by_cases h0:n=0
 ·have d0:((n:Int) == 0)=true:=by subst h0;rfl
  have d1:decide (n=0)=true:=decide_eq_true h0;clear h0;cases bad
  all_goals
   go_enter Tryz.func113,Tryz.ntmps113;go_wp2;go_quiet ((go_at_call 143;exact Calls.quiet_of_same (UL.o _)))
   go_wp2;go_ret
   rw [d1];exact ⟨rfl,FIN.o _ _ _ (by omega)⟩
 ·have d0:((n:Int) == 0)=false:=by rw [beq_eq_false_iff_ne];omega
  have d1:decide (n=0)=false:=decide_eq_false h0;clear h0;cases bad
  all_goals
   go_enter Tryz.func113,Tryz.ntmps113;go_wp2;go_quiet ((go_at_call 143;exact Calls.quiet_of_same (UL.o _)))
   go_wp2;go_ret
   rw [d1];exact ⟨rfl,FIN.o _ _ _ (by omega)⟩
theorem Rd.bad (h:Rd w g b o c xs s) (k:Nat):Rd ((w.drewN k).setCell ⟨g,2,none⟩ (.bool true)) g b o c xs (s.1,true):=by
 refine h.set (s':=(s.1,true)) (Qx (Qj (Qq w _) k) _) ?_ h.le
 rw [heap_setCell_same _ g 2 _ _ _ (h.drewN k).blk];rfl
theorem Rd.go (h:Rd w g b o c xs s) (k p:Nat) {P:Int} (hP:P=p) (hl:p≤xs.length):Rd ((w.drewN k).setCell ⟨g,1,none⟩ (.int .i64 P)) g b o c xs (p,s.2):=by
 subst hP;refine h.set (s':=(p,s.2)) (Qx (Qj (Qq w _) k) _) ?_ hl
 rw [heap_setCell_same _ g 1 _ _ _ (h.drewN k).blk];rfl
theorem grown_dset (w:World) (k g i:Nat) (v:Value):w.grownBy ((w.drewN k).setCell ⟨g,i,none⟩ v) (some g):=Qx (Qj (Qq w _) k) _
theorem Wm (h:Rd w g b o c xs s) :
  Calls Tryz.prog 115 #[.pointer (some ⟨g,0,none⟩)] w fun e w'=>e=.returned (.string (strOfNums (txR xs s).1))∧Rd w' g b o c xs (txR xs s).2∧w.grownBy w' (some g):=by
 have hle:=h.le;have hbig:=h.big;have hroom:=h.room;have htop:=h.top;have c0:=h.c0;have c1:=h.c1;have c2:=h.c2;have f1:=h.f 1;have f2:=h.f 2;have hl2:=txR_le h.le;obtain ⟨V,hV,hB,hV2⟩:=H7 h.cell h.room h.le .i64;have hVf:∃ b' o',V=some ⟨b',o',none⟩:=by
  obtain ⟨V',hV',h'⟩:=Sv (T:=29) (k:=1) (by kernel_rfl) (fun W=>by kernel_rfl) b o xs.length c s.1 .i64 h.le;have e:=(hV w).symm.trans (hV' w);injection e with e _;injection e with e _ _;subst e;rcases h' with ⟨rfl,_⟩ | rfl
  ·exact ⟨_,_,rfl⟩
  ·exact ⟨_,_,rfl⟩
 obtain ⟨b',o',rfl⟩:=hVf;have hlen:(xs.drop s.1).length=xs.length - s.1:=by simp
 have UL:=Lv (fun n=>Gm (w:=w.drewN n) b' o' (c - s.1) _ _ (hB.drewN n) hlen (by omega) (by omega));have H:=Lv h;have hpl:=Ru (xs.drop s.1);rw [hlen] at hpl;unfold txR at hl2 ⊢;rw [hlen] at hl2 ⊢;generalize pre (xs.drop s.1)=T at *;have hsz:(strOfNums T).size=T.length:=strOfNums_size _;obtain ⟨k,hk⟩:∃ k,k=T.length:=⟨_,rfl⟩
 rw [← hk] at hpl hl2 hsz ⊢;obtain ⟨S,hS⟩:∃ S,S=strOfNums T:=⟨_,rfl⟩
 rw [← hS] at hsz UL;have HS:=Lv hS;have BAD:=Lv (fun n=>And.intro (H.o.bad n) (grown_dset w n g 2 (.bool true)));obtain ⟨N,hN⟩:∃ N,N=xs.length:=⟨_,rfl⟩
 rw [← hN] at hle hbig hroom c0 UL hl2 hV hpl ⊢;have HN:=Lv hN;obtain ⟨p,bad⟩:=s;simp only [] at hle c1 c2 UL hl2 hV BAD hpl ⊢;clear h hlen hN hB hV2 hk hS;by_cases hA : 255 < k
 ·have d1:decide ((255:Int) < (k:Int))=true:=by simp;omega
  rw [if_neg (by omega)];go_enter Tryz.func115,Tryz.ntmps115;go_wp2;go_quiet ((go_at_call 90;exact Calls.quiet_of_same (UL.o _)))
  go_wp2;go_quiet (fail);go_wp2;go_ret
  exact ⟨rfl,BAD.o _⟩
 have d1:decide ((255:Int) < (k:Int))=false:=by simp;omega
 by_cases hE:N≤p + k
 ·have d2:decide ((N:Int)≤(p:Int) + (k:Int))=true:=by simp;omega
  rw [if_neg (by omega)];go_enter Tryz.func115,Tryz.ntmps115;go_wp2;go_quiet ((go_at_call 90;exact Calls.quiet_of_same (UL.o _)))
  go_wp2;go_quiet (fail);go_wp2;go_ret
  exact ⟨rfl,BAD.o _⟩
 ·have d2:decide ((N:Int)≤(p:Int) + (k:Int))=false:=by simp;omega
  have hc:k < N - p∧k≤255:=by omega
  rw [if_pos hc] at hl2 ⊢;simp only [] at hl2;rw [HN.o] at hl2;have GO:=Lv (fun n P hP=>And.intro (H.o.go n (p + k + 1) (P:=P) hP hl2) (grown_dset w n g 1 (.int .i64 P)));go_enter Tryz.func115,Tryz.ntmps115;go_wp2;go_quiet ((go_at_call 90;exact Calls.quiet_of_same (UL.o _)))
  go_wp2;go_quiet (fail);go_wp2;go_ret
  rw [HS.o];exact ⟨rfl,GO.o _ _ (by omega)⟩
end
section
variable {w w' W:World} {lo hi a:Nat} {xs:List Int} {s s':Cs}
structure TkI (w0 W:World) (lo hi a:Nat) (xs:List Int) (s:Cs) (g0 g1:Nat) (nm:ByteArray) (x:Ex):Prop where
 pen:PenS W lo hi a xs s false
 res:ExAt W g0 ⟨#[]⟩ Ex.zero
 ex:ExAt W g1 nm x
 grown:w0.grownBy W (some a)
 new0:w0.heap.size≤g0
 new1:w0.heap.size≤g1
 ne:g0≠g1
 up:hi≤w0.heap.size
section
variable {w0:World} {g0 g1:Nat} {nm:ByteArray} {x x':Ex}
theorem TkI.al (h:TkI w0 W lo hi a xs s g0 g1 nm x):a < w0.heap.size:=Nat.lt_of_lt_of_le h.pen.up h.up
theorem TkI.call (h:TkI w0 W lo hi a xs s g0 g1 nm x) (hp:PenS w' lo hi a xs s' false) (hg:W.grownBy w' (some a)):TkI w0 w' lo hi a xs s' g0 g1 nm x:=by
 have ha:=h.al;exact ⟨hp,h.res.kept hg (by intro e;injection e with e;have:=h.new0;omega),h.ex.kept hg (by intro e;injection e with e;have:=h.new1;omega),grown_same h.grown hg,h.new0,h.new1,h.ne,h.up⟩
theorem TkI.set (h:TkI w0 W lo hi a xs s g0 g1 nm x) (hg:W.grownBy w' (some g1)) (he:ExAt w' g1 nm x'):TkI w0 w' lo hi a xs s g0 g1 nm x' :=
 ⟨Pen.kept h.pen hg (.inr (Nat.le_trans h.up h.new1)),h.res.kept hg (by intro e;injection e with e;exact h.ne e.symm),he,Zk h.grown hg h.new1,h.new0,h.new1,h.ne,h.up⟩
end
structure TxOut (w w':World) (lo hi a:Nat) (xs:List Int) (s:Cs) (nm:ByteArray) (size:Int) (e:Ending):Prop where
 ex:∃ x s',e=.returned (exV nm x)∧PenS w' lo hi a xs s' false∧Sim (psZ sayP size) xs s x s'
 grown:w.grownBy w' (some a)
theorem takeExport_any (h:PenS w lo hi a xs s false) (nm:ByteArray) (size:Int) (hs : 0≤size∧size < 18446744073709551616) :
   Calls Tryz.prog 133 #[.pointer (some ⟨a,0,none⟩),.string nm,.int .u64 size] w fun e w'=>TxOut w w' lo hi a xs s nm size e:=by
 have hbig:xs.length≤140737488355328:=Pen.most h;have hhi:hi≤w.heap.size:=h.sz;have hal:a < w.heap.size:=Nat.lt_of_lt_of_le h.up h.sz;have hle:s.1≤xs.length:=Pen.le h;have g1:=grown1 w (.cells #[.string ⟨#[]⟩,.int .i64 0,.bool false,.int .u64 0,.int .u64 0,.int .u64 0,.string ⟨#[]⟩] 28);have r1:ExAt (w.alloc (.cells #[.string ⟨#[]⟩,.int .i64 0,.bool false,.int .u64 0,.int .u64 0,.int .u64 0,.string ⟨#[]⟩] 28)) w.heap.size ⟨#[]⟩ Ex.zero:=heap_alloc_new w _
 obtain ⟨w1,hw1⟩:∃ w1,w.alloc (.cells #[.string ⟨#[]⟩,.int .i64 0,.bool false,.int .u64 0,.int .u64 0,.int .u64 0,.string ⟨#[]⟩] 28)=w1:=⟨_,rfl⟩
 obtain ⟨g0,hg0⟩:∃ g0,w.heap.size=g0:=⟨_,rfl⟩
 rw [hw1] at g1 r1;rw [hg0] at r1;have HW1:=Lv hw1;have HG0:=Lv hg0;have G1:=Lv g1;have R1:=Lv r1;have P1:=Lv (Pen.same h g1);have g2:=grown1 w1 (.cells #[.string nm,.int .i64 0,.bool false,.int .u64 0,.int .u64 0,.int .u64 0,.string ⟨#[]⟩] 28);have r2:ExAt (w1.alloc (.cells #[.string nm,.int .i64 0,.bool false,.int .u64 0,.int .u64 0,.int .u64 0,.string ⟨#[]⟩] 28)) w1.heap.size nm Ex.zero:=heap_alloc_new w1 _
 have T2:=Lv (show TkI w (w1.alloc (.cells #[.string nm,.int .i64 0,.bool false,.int .u64 0,.int .u64 0,.int .u64 0,.string ⟨#[]⟩] 28)) lo hi a xs s g0 w1.heap.size nm Ex.zero from
   ⟨Pen.same (Pen.same h g1) g2,r1.kept g2 (by simp),r2,Mr (Qz g1 g2) _,by omega,g1.size,by have:=r1.lt;omega,hhi⟩)
 obtain ⟨w2,hw2⟩:∃ w2,w1.alloc (.cells #[.string nm,.int .i64 0,.bool false,.int .u64 0,.int .u64 0,.int .u64 0,.string ⟨#[]⟩] 28)=w2:=⟨_,rfl⟩
 obtain ⟨gx,hgx⟩:∃ gx,w1.heap.size=gx:=⟨_,rfl⟩
 rw [hw2,hgx] at T2;have HW2:=Lv hw2;have HGX:=Lv hgx;have S0:=Lv (Hz xs s);have B0:=Lv (Sa (xs:=xs) (s:=s));have HS:=Lv hs;clear h g1 g2 r1 r2 hw1 hg0 hw2 hgx hs;go_enter Tryz.func133,Tryz.ntmps133;go_upto_region 1 with fail;rw [HW1.o,HG0.o];go_wp2_with fail;refine (Tk P1.o).mono ?_
 rintro e w1' ⟨rfl,rfl⟩;go_upto_region 3 with fail;rw [HW2.o,HGX.o];clear HW1 HG0 HW2 HGX P1 R1 G1;go_wp2_with fail;refine (Ga T2.o.pen).mono ?_
 rintro e w3 ⟨rfl,hp,hg⟩;have T3:=Lv (T2.o.call hp hg);clear hp hg T2;obtain ⟨F,hF⟩:∃ F,F=(ulS xs s).1:=⟨_,rfl⟩
 obtain ⟨s1,hs1⟩:∃ s1,s1=(ulS xs s).2:=⟨_,rfl⟩
 rw [← hF,← hs1] at S0;rw [← hF] at B0;rw [← hs1] at T3;rw [← hF];clear hF hs1;have a4:=and4 F B0.o;have n4:=andNot4 F B0.o;obtain ⟨K,hK⟩:∃ K,K=knN F:=⟨_,rfl⟩
 obtain ⟨wk,hwk⟩:∃ wk,wk=wkN F:=⟨_,rfl⟩
 have hwb:(F / 4 % 2 * 4 != 0)=wk:=by
   rw [hwk];unfold wkN;by_cases h1:F / 4 % 2=1
   · rw [decide_eq_true h1,h1];rfl
   · rw [decide_eq_false h1,show F / 4 % 2=0 by omega];rfl
 rw [← hK] at n4;obtain ⟨A4,hA4⟩:∃ A,A=F / 4 % 2 * 4:=⟨_,rfl⟩
 rw [← hA4] at a4 hwb;have SK:=Lv (show sayK F=if K=0 then psB ulP fun v=>psR ⟨1,wk,v,0,0,[]⟩
   else if K=2 then psB ulP fun v=>psR ⟨2,wk,v,0,0,[]⟩
   else if K=8 then psB ulP fun o=>psB txP fun t=>psR ⟨3,wk,0,0,o,t⟩
   else if K=16 then psB ulP fun v=>psB ulP fun r=>psR ⟨4,wk,v,r,0,[]⟩
   else psF by rw [hK,hwk];rfl)
 clear hK hwk hA4;have f2:=T3.o.ex.fz 2;have gl3:=T3.o.ex.lt;have c2:=T3.o.ex.c.2.2.1;go_upto_region 5 with fail;have T4:=Lv (T3.o.set (Qx (i:=2) (Qq w3 (some gx)) (.bool wk)) (T3.o.ex.weak wk));obtain ⟨w4,hw4⟩:∃ w4,w3.setCell ⟨gx,2,none⟩ (.bool wk)=w4:=⟨_,rfl⟩
 rw [hw4] at T4
 (try rw [hw4])
 clear hw4 f2 gl3 c2 T3;by_cases h0:K=0
 · subst h0
   rw [if_pos rfl] at SK;have S1:=Lv (Hz xs s1);go_wp2_with fail;refine (Ga T4.o.pen).mono ?_
   rintro e w5 ⟨rfl,hp,hg⟩;have Tw5:=Lv (T4.o.call hp hg);clear hp hg T4;obtain ⟨V,hV⟩:∃ z,z=(ulS xs s1).1:=⟨_,rfl⟩
   obtain ⟨s2,hs2⟩:∃ z,z=(ulS xs s1).2:=⟨_,rfl⟩
   rw [← hV,← hs2] at S1;rw [← hs2] at Tw5;rw [← hV];clear hV hs2;have f1:=Tw5.o.ex.fz;have gl5:=Tw5.o.ex.lt;have c5:=Tw5.o.ex.c;go_upto_region 17 with fail;have Tw5z0:=Lv (Tw5.o.set (Qx (i:=1) (Qq _ (some gx)) (.int .i64 1)) (Tw5.o.ex.kind 1));have Tw5z0z1:=Lv (Tw5z0.o.set (Qx (i:=3) (Qq _ (some gx)) (.int .u64 V)) (Tw5z0.o.ex.value V))
   obtain ⟨w5e,hwe⟩:∃ we,((w5.setCell ⟨gx,1,none⟩ (.int .i64 1)).setCell ⟨gx,3,none⟩ (.int .u64 V))=we:=⟨_,rfl⟩
   rw [hwe] at Tw5z0z1
   (try rw [hwe])
   have Tw5e:=Lv Tw5z0z1.o;clear hwe f1 gl5 c5;have SX:=Lv (show Sim sayP xs s (⟨1,wk,V,0,0,[]⟩:Ex) s2 from Sim.B S0.o (by rw [SK.o];exact Sim.B S1.o (Sim.R _ _)));have hp9:s.1≤s2.1:=SX.o.le;have hl9:s2.1≤xs.length:=Pen.le Tw5e.o.pen;obtain ⟨P,hP⟩:∃ P,P=s.1:=⟨_,rfl⟩
   obtain ⟨Q,hQ⟩:∃ Q,Q=s2.1:=⟨_,rfl⟩
   have PA:=Lv (Tk Tw5e.o.pen);rw [← hQ] at PA;rw [← hP,← hQ] at hp9;rw [← hQ] at hl9;rw [← hP] at hle
   (try rw [← hP])
   have HPQ:=Lv (And.intro hP hQ);clear hP hQ;go_wp2_with fail;refine PA.o.mono ?_
   rintro e w9 ⟨rfl,rfl⟩;obtain ⟨D,hD1,hD2,hD3,hD4⟩:∃ D:Int,(Q:Int) - (P:Int)=D∧D=((Q - P:Nat):Int)∧0≤D∧D≤140737488355328:=⟨_,rfl,by omega,by omega,by omega⟩
   have HD2:=Lv hD2;clear hD2;by_cases hq:D=size
   · have Z:=Lv (show Sim (psZ sayP size) xs s (⟨1,wk,V,0,0,[]⟩:Ex) s2 by
      have h:=SX.o.Z (k:=size);rw [← HPQ.o.1,← HPQ.o.2,← HD2.o,hq,decide_eq_true rfl] at h;simp only [Bool.not_true,Bool.or_false] at h;rw [HPQ.o.2] at h;exact h)
     have hqf:(D != size)=false:=by rw [hq];simp
     obtain ⟨c0,c1,c2,c3,c4,c5,c6⟩:=Tw5e.o.ex.c;obtain ⟨d0,d1,d2,d3,d4,d5,d6⟩:=Tw5e.o.res.c;have f:=Tw5e.o.res.fz;have rl:=Tw5e.o.res.lt;have xl:=Tw5e.o.ex.lt;clear hq;go_wp2_with fail;refine bodyPost_ret (Jf rfl rfl (Tw5e.o.res.put nm ⟨1,wk,V,0,0,[]⟩)) rfl ?_
     exact ⟨⟨_,_,rfl,Pen.kept Tw5e.o.pen (Qh (Qq _ (some g0)) _ _ _ _ _ _ _) (.inr (Nat.le_trans Tw5e.o.up Tw5e.o.new0)),Z.o⟩,Zk Tw5e.o.grown (Qh (Qq _ (some g0)) _ _ _ _ _ _ _) Tw5e.o.new0⟩
   · have Z:=Lv (show Sim (psZ sayP size) xs s (⟨1,wk,V,0,0,[]⟩:Ex) (s2.1,true) by
      have h:=SX.o.Z (k:=size);rw [← HPQ.o.1,← HPQ.o.2,← HD2.o,decide_eq_false hq] at h;simp only [Bool.not_false,Bool.or_true] at h;rw [← HPQ.o.2];exact h)
     have hqf:(D != size)=true:=by simpa using hq
     clear hq;go_wp2_with fail;refine (Gz Tw5e.o.pen).mono ?_
     rintro e wz ⟨rfl,hp,hg⟩;have TZ:=Lv (Tw5e.o.call hp hg);clear hp hg;obtain ⟨c0,c1,c2,c3,c4,c5,c6⟩:=TZ.o.ex.c;obtain ⟨d0,d1,d2,d3,d4,d5,d6⟩:=TZ.o.res.c;have f:=TZ.o.res.fz;have rl:=TZ.o.res.lt;have xl:=TZ.o.ex.lt;go_wp2_with fail;refine bodyPost_ret (Jf rfl rfl (TZ.o.res.put nm ⟨1,wk,V,0,0,[]⟩)) rfl ?_
     exact ⟨⟨_,_,rfl,Pen.kept TZ.o.pen (Qh (Qq _ (some g0)) _ _ _ _ _ _ _) (.inr (Nat.le_trans TZ.o.up TZ.o.new0)),Z.o⟩,Zk TZ.o.grown (Qh (Qq _ (some g0)) _ _ _ _ _ _ _) TZ.o.new0⟩
 by_cases h2:K=2
 · subst h2
   rw [if_neg (by decide),if_pos rfl] at SK;have S1:=Lv (Hz xs s1);go_wp2_with fail;refine (Ga T4.o.pen).mono ?_
   rintro e w5 ⟨rfl,hp,hg⟩;have Tw5:=Lv (T4.o.call hp hg);clear hp hg T4;obtain ⟨V,hV⟩:∃ z,z=(ulS xs s1).1:=⟨_,rfl⟩
   obtain ⟨s2,hs2⟩:∃ z,z=(ulS xs s1).2:=⟨_,rfl⟩
   rw [← hV,← hs2] at S1;rw [← hs2] at Tw5;rw [← hV];clear hV hs2;have f1:=Tw5.o.ex.fz;have gl5:=Tw5.o.ex.lt;have c5:=Tw5.o.ex.c;go_upto_region 17 with fail;have Tw5z0:=Lv (Tw5.o.set (Qx (i:=1) (Qq _ (some gx)) (.int .i64 2)) (Tw5.o.ex.kind 2));have Tw5z0z1:=Lv (Tw5z0.o.set (Qx (i:=3) (Qq _ (some gx)) (.int .u64 V)) (Tw5z0.o.ex.value V))
   obtain ⟨w5e,hwe⟩:∃ we,((w5.setCell ⟨gx,1,none⟩ (.int .i64 2)).setCell ⟨gx,3,none⟩ (.int .u64 V))=we:=⟨_,rfl⟩
   rw [hwe] at Tw5z0z1
   (try rw [hwe])
   have Tw5e:=Lv Tw5z0z1.o;clear hwe f1 gl5 c5;have SX:=Lv (show Sim sayP xs s (⟨2,wk,V,0,0,[]⟩:Ex) s2 from Sim.B S0.o (by rw [SK.o];exact Sim.B S1.o (Sim.R _ _)));have hp9:s.1≤s2.1:=SX.o.le;have hl9:s2.1≤xs.length:=Pen.le Tw5e.o.pen;obtain ⟨P,hP⟩:∃ P,P=s.1:=⟨_,rfl⟩
   obtain ⟨Q,hQ⟩:∃ Q,Q=s2.1:=⟨_,rfl⟩
   have PA:=Lv (Tk Tw5e.o.pen);rw [← hQ] at PA;rw [← hP,← hQ] at hp9;rw [← hQ] at hl9;rw [← hP] at hle
   (try rw [← hP])
   have HPQ:=Lv (And.intro hP hQ);clear hP hQ;go_wp2_with fail;refine PA.o.mono ?_
   rintro e w9 ⟨rfl,rfl⟩;obtain ⟨D,hD1,hD2,hD3,hD4⟩:∃ D:Int,(Q:Int) - (P:Int)=D∧D=((Q - P:Nat):Int)∧0≤D∧D≤140737488355328:=⟨_,rfl,by omega,by omega,by omega⟩
   have HD2:=Lv hD2;clear hD2;by_cases hq:D=size
   · have Z:=Lv (show Sim (psZ sayP size) xs s (⟨2,wk,V,0,0,[]⟩:Ex) s2 by
      have h:=SX.o.Z (k:=size);rw [← HPQ.o.1,← HPQ.o.2,← HD2.o,hq,decide_eq_true rfl] at h;simp only [Bool.not_true,Bool.or_false] at h;rw [HPQ.o.2] at h;exact h)
     have hqf:(D != size)=false:=by rw [hq];simp
     obtain ⟨c0,c1,c2,c3,c4,c5,c6⟩:=Tw5e.o.ex.c;obtain ⟨d0,d1,d2,d3,d4,d5,d6⟩:=Tw5e.o.res.c;have f:=Tw5e.o.res.fz;have rl:=Tw5e.o.res.lt;have xl:=Tw5e.o.ex.lt;clear hq;go_wp2_with fail;refine bodyPost_ret (Jf rfl rfl (Tw5e.o.res.put nm ⟨2,wk,V,0,0,[]⟩)) rfl ?_
     exact ⟨⟨_,_,rfl,Pen.kept Tw5e.o.pen (Qh (Qq _ (some g0)) _ _ _ _ _ _ _) (.inr (Nat.le_trans Tw5e.o.up Tw5e.o.new0)),Z.o⟩,Zk Tw5e.o.grown (Qh (Qq _ (some g0)) _ _ _ _ _ _ _) Tw5e.o.new0⟩
   · have Z:=Lv (show Sim (psZ sayP size) xs s (⟨2,wk,V,0,0,[]⟩:Ex) (s2.1,true) by
      have h:=SX.o.Z (k:=size);rw [← HPQ.o.1,← HPQ.o.2,← HD2.o,decide_eq_false hq] at h;simp only [Bool.not_false,Bool.or_true] at h;rw [← HPQ.o.2];exact h)
     have hqf:(D != size)=true:=by simpa using hq
     clear hq;go_wp2_with fail;refine (Gz Tw5e.o.pen).mono ?_
     rintro e wz ⟨rfl,hp,hg⟩;have TZ:=Lv (Tw5e.o.call hp hg);clear hp hg;obtain ⟨c0,c1,c2,c3,c4,c5,c6⟩:=TZ.o.ex.c;obtain ⟨d0,d1,d2,d3,d4,d5,d6⟩:=TZ.o.res.c;have f:=TZ.o.res.fz;have rl:=TZ.o.res.lt;have xl:=TZ.o.ex.lt;go_wp2_with fail;refine bodyPost_ret (Jf rfl rfl (TZ.o.res.put nm ⟨2,wk,V,0,0,[]⟩)) rfl ?_
     exact ⟨⟨_,_,rfl,Pen.kept TZ.o.pen (Qh (Qq _ (some g0)) _ _ _ _ _ _ _) (.inr (Nat.le_trans TZ.o.up TZ.o.new0)),Z.o⟩,Zk TZ.o.grown (Qh (Qq _ (some g0)) _ _ _ _ _ _ _) TZ.o.new0⟩
 by_cases h8:K=8
 · subst h8
   rw [if_neg (by decide),if_neg (by decide),if_pos rfl] at SK;have S1:=Lv (Hz xs s1);go_wp2_with fail;refine (Ga T4.o.pen).mono ?_
   rintro e w5 ⟨rfl,hp,hg⟩;have Tw5:=Lv (T4.o.call hp hg);clear hp hg T4;obtain ⟨V,hV⟩:∃ z,z=(ulS xs s1).1:=⟨_,rfl⟩
   obtain ⟨s2,hs2⟩:∃ z,z=(ulS xs s1).2:=⟨_,rfl⟩
   rw [← hV,← hs2] at S1;rw [← hs2] at Tw5;rw [← hV];clear hV hs2;have f1:=Tw5.o.ex.fz;have gl5:=Tw5.o.ex.lt;have c5:=Tw5.o.ex.c;go_upto_region 13 with fail;have Tw5z0:=Lv (Tw5.o.set (Qx (i:=1) (Qq _ (some gx)) (.int .i64 3)) (Tw5.o.ex.kind 3));have Tw5z0z1:=Lv (Tw5z0.o.set (Qx (i:=5) (Qq _ (some gx)) (.int .u64 V)) (Tw5z0.o.ex.ordinal V))
   obtain ⟨w5e,hwe⟩:∃ we,((w5.setCell ⟨gx,1,none⟩ (.int .i64 3)).setCell ⟨gx,5,none⟩ (.int .u64 V))=we:=⟨_,rfl⟩
   rw [hwe] at Tw5z0z1
   (try rw [hwe])
   have Tw5e:=Lv Tw5z0z1.o;clear hwe f1 gl5 c5;have S2:=Lv (Pd xs s2);go_wp2_with fail;refine (Pn Tw5e.o.pen).mono ?_
   rintro e w6 ⟨rfl,hp,hg⟩;have Tw6:=Lv (Tw5e.o.call hp hg);clear hp hg Tw5e;obtain ⟨T,hV⟩:∃ z,z=(txS xs s2).1:=⟨_,rfl⟩
   obtain ⟨s3,hs2⟩:∃ z,z=(txS xs s2).2:=⟨_,rfl⟩
   rw [← hV,← hs2] at S2;rw [← hs2] at Tw6;rw [← hV];clear hV hs2;have f1:=Tw6.o.ex.fz;have gl5:=Tw6.o.ex.lt;have c5:=Tw6.o.ex.c;go_upto_region 17 with fail;have Tw6z0:=Lv (Tw6.o.set (Qx (i:=6) (Qq _ (some gx)) (.string (strOfNums T))) (Tw6.o.ex.other T));obtain ⟨w6e,hwe⟩:∃ we,(w6.setCell ⟨gx,6,none⟩ (.string (strOfNums T)))=we:=⟨_,rfl⟩
   rw [hwe] at Tw6z0
   (try rw [hwe])
   have Tw6e:=Lv Tw6z0.o;clear hwe f1 gl5 c5;have SX:=Lv (show Sim sayP xs s (⟨3,wk,0,0,V,T⟩:Ex) s3 from Sim.B S0.o (by rw [SK.o];exact Sim.B S1.o (Sim.B S2.o (Sim.R _ _))));have hp9:s.1≤s3.1:=SX.o.le;have hl9:s3.1≤xs.length:=Pen.le Tw6e.o.pen;obtain ⟨P,hP⟩:∃ P,P=s.1:=⟨_,rfl⟩
   obtain ⟨Q,hQ⟩:∃ Q,Q=s3.1:=⟨_,rfl⟩
   have PA:=Lv (Tk Tw6e.o.pen);rw [← hQ] at PA;rw [← hP,← hQ] at hp9;rw [← hQ] at hl9;rw [← hP] at hle
   (try rw [← hP])
   have HPQ:=Lv (And.intro hP hQ);clear hP hQ;go_wp2_with fail;refine PA.o.mono ?_
   rintro e w9 ⟨rfl,rfl⟩;obtain ⟨D,hD1,hD2,hD3,hD4⟩:∃ D:Int,(Q:Int) - (P:Int)=D∧D=((Q - P:Nat):Int)∧0≤D∧D≤140737488355328:=⟨_,rfl,by omega,by omega,by omega⟩
   have HD2:=Lv hD2;clear hD2;by_cases hq:D=size
   · have Z:=Lv (show Sim (psZ sayP size) xs s (⟨3,wk,0,0,V,T⟩:Ex) s3 by
      have h:=SX.o.Z (k:=size);rw [← HPQ.o.1,← HPQ.o.2,← HD2.o,hq,decide_eq_true rfl] at h;simp only [Bool.not_true,Bool.or_false] at h;rw [HPQ.o.2] at h;exact h)
     have hqf:(D != size)=false:=by rw [hq];simp
     obtain ⟨c0,c1,c2,c3,c4,c5,c6⟩:=Tw6e.o.ex.c;obtain ⟨d0,d1,d2,d3,d4,d5,d6⟩:=Tw6e.o.res.c;have f:=Tw6e.o.res.fz;have rl:=Tw6e.o.res.lt;have xl:=Tw6e.o.ex.lt;clear hq;go_wp2_with fail;refine bodyPost_ret (Jf rfl rfl (Tw6e.o.res.put nm ⟨3,wk,0,0,V,T⟩)) rfl ?_
     exact ⟨⟨_,_,rfl,Pen.kept Tw6e.o.pen (Qh (Qq _ (some g0)) _ _ _ _ _ _ _) (.inr (Nat.le_trans Tw6e.o.up Tw6e.o.new0)),Z.o⟩,Zk Tw6e.o.grown (Qh (Qq _ (some g0)) _ _ _ _ _ _ _) Tw6e.o.new0⟩
   · have Z:=Lv (show Sim (psZ sayP size) xs s (⟨3,wk,0,0,V,T⟩:Ex) (s3.1,true) by
      have h:=SX.o.Z (k:=size);rw [← HPQ.o.1,← HPQ.o.2,← HD2.o,decide_eq_false hq] at h;simp only [Bool.not_false,Bool.or_true] at h;rw [← HPQ.o.2];exact h)
     have hqf:(D != size)=true:=by simpa using hq
     clear hq;go_wp2_with fail;refine (Gz Tw6e.o.pen).mono ?_
     rintro e wz ⟨rfl,hp,hg⟩;have TZ:=Lv (Tw6e.o.call hp hg);clear hp hg;obtain ⟨c0,c1,c2,c3,c4,c5,c6⟩:=TZ.o.ex.c;obtain ⟨d0,d1,d2,d3,d4,d5,d6⟩:=TZ.o.res.c;have f:=TZ.o.res.fz;have rl:=TZ.o.res.lt;have xl:=TZ.o.ex.lt;go_wp2_with fail;refine bodyPost_ret (Jf rfl rfl (TZ.o.res.put nm ⟨3,wk,0,0,V,T⟩)) rfl ?_
     exact ⟨⟨_,_,rfl,Pen.kept TZ.o.pen (Qh (Qq _ (some g0)) _ _ _ _ _ _ _) (.inr (Nat.le_trans TZ.o.up TZ.o.new0)),Z.o⟩,Zk TZ.o.grown (Qh (Qq _ (some g0)) _ _ _ _ _ _ _) TZ.o.new0⟩
 by_cases h16:K=16
 · subst h16
   rw [if_neg (by decide),if_neg (by decide),if_neg (by decide),if_pos rfl] at SK;have S1:=Lv (Hz xs s1);go_wp2_with fail;refine (Ga T4.o.pen).mono ?_
   rintro e w5 ⟨rfl,hp,hg⟩;have Tw5:=Lv (T4.o.call hp hg);clear hp hg T4;obtain ⟨V,hV⟩:∃ z,z=(ulS xs s1).1:=⟨_,rfl⟩
   obtain ⟨s2,hs2⟩:∃ z,z=(ulS xs s1).2:=⟨_,rfl⟩
   rw [← hV,← hs2] at S1;rw [← hs2] at Tw5;rw [← hV];clear hV hs2;have f1:=Tw5.o.ex.fz;have gl5:=Tw5.o.ex.lt;have c5:=Tw5.o.ex.c;go_upto_region 16 with fail;have Tw5z0:=Lv (Tw5.o.set (Qx (i:=1) (Qq _ (some gx)) (.int .i64 4)) (Tw5.o.ex.kind 4));have Tw5z0z1:=Lv (Tw5z0.o.set (Qx (i:=3) (Qq _ (some gx)) (.int .u64 V)) (Tw5z0.o.ex.value V))
   obtain ⟨w5e,hwe⟩:∃ we,((w5.setCell ⟨gx,1,none⟩ (.int .i64 4)).setCell ⟨gx,3,none⟩ (.int .u64 V))=we:=⟨_,rfl⟩
   rw [hwe] at Tw5z0z1
   (try rw [hwe])
   have Tw5e:=Lv Tw5z0z1.o;clear hwe f1 gl5 c5;have S2:=Lv (Hz xs s2);go_wp2_with fail;refine (Ga Tw5e.o.pen).mono ?_
   rintro e w6 ⟨rfl,hp,hg⟩;have Tw6:=Lv (Tw5e.o.call hp hg);clear hp hg Tw5e;obtain ⟨R,hV⟩:∃ z,z=(ulS xs s2).1:=⟨_,rfl⟩
   obtain ⟨s3,hs2⟩:∃ z,z=(ulS xs s2).2:=⟨_,rfl⟩
   rw [← hV,← hs2] at S2;rw [← hs2] at Tw6;rw [← hV];clear hV hs2;have f1:=Tw6.o.ex.fz;have gl5:=Tw6.o.ex.lt;have c5:=Tw6.o.ex.c;go_upto_region 17 with fail;have Tw6z0:=Lv (Tw6.o.set (Qx (i:=4) (Qq _ (some gx)) (.int .u64 R)) (Tw6.o.ex.resolver R));obtain ⟨w6e,hwe⟩:∃ we,(w6.setCell ⟨gx,4,none⟩ (.int .u64 R))=we:=⟨_,rfl⟩
   rw [hwe] at Tw6z0
   (try rw [hwe])
   have Tw6e:=Lv Tw6z0.o;clear hwe f1 gl5 c5;have SX:=Lv (show Sim sayP xs s (⟨4,wk,V,R,0,[]⟩:Ex) s3 from Sim.B S0.o (by rw [SK.o];exact Sim.B S1.o (Sim.B S2.o (Sim.R _ _))));have hp9:s.1≤s3.1:=SX.o.le;have hl9:s3.1≤xs.length:=Pen.le Tw6e.o.pen;obtain ⟨P,hP⟩:∃ P,P=s.1:=⟨_,rfl⟩
   obtain ⟨Q,hQ⟩:∃ Q,Q=s3.1:=⟨_,rfl⟩
   have PA:=Lv (Tk Tw6e.o.pen);rw [← hQ] at PA;rw [← hP,← hQ] at hp9;rw [← hQ] at hl9;rw [← hP] at hle
   (try rw [← hP])
   have HPQ:=Lv (And.intro hP hQ);clear hP hQ;go_wp2_with fail;refine PA.o.mono ?_
   rintro e w9 ⟨rfl,rfl⟩;obtain ⟨D,hD1,hD2,hD3,hD4⟩:∃ D:Int,(Q:Int) - (P:Int)=D∧D=((Q - P:Nat):Int)∧0≤D∧D≤140737488355328:=⟨_,rfl,by omega,by omega,by omega⟩
   have HD2:=Lv hD2;clear hD2;by_cases hq:D=size
   · have Z:=Lv (show Sim (psZ sayP size) xs s (⟨4,wk,V,R,0,[]⟩:Ex) s3 by
      have h:=SX.o.Z (k:=size);rw [← HPQ.o.1,← HPQ.o.2,← HD2.o,hq,decide_eq_true rfl] at h;simp only [Bool.not_true,Bool.or_false] at h;rw [HPQ.o.2] at h;exact h)
     have hqf:(D != size)=false:=by rw [hq];simp
     obtain ⟨c0,c1,c2,c3,c4,c5,c6⟩:=Tw6e.o.ex.c;obtain ⟨d0,d1,d2,d3,d4,d5,d6⟩:=Tw6e.o.res.c;have f:=Tw6e.o.res.fz;have rl:=Tw6e.o.res.lt;have xl:=Tw6e.o.ex.lt;clear hq;go_wp2_with fail;refine bodyPost_ret (Jf rfl rfl (Tw6e.o.res.put nm ⟨4,wk,V,R,0,[]⟩)) rfl ?_
     exact ⟨⟨_,_,rfl,Pen.kept Tw6e.o.pen (Qh (Qq _ (some g0)) _ _ _ _ _ _ _) (.inr (Nat.le_trans Tw6e.o.up Tw6e.o.new0)),Z.o⟩,Zk Tw6e.o.grown (Qh (Qq _ (some g0)) _ _ _ _ _ _ _) Tw6e.o.new0⟩
   · have Z:=Lv (show Sim (psZ sayP size) xs s (⟨4,wk,V,R,0,[]⟩:Ex) (s3.1,true) by
      have h:=SX.o.Z (k:=size);rw [← HPQ.o.1,← HPQ.o.2,← HD2.o,decide_eq_false hq] at h;simp only [Bool.not_false,Bool.or_true] at h;rw [← HPQ.o.2];exact h)
     have hqf:(D != size)=true:=by simpa using hq
     clear hq;go_wp2_with fail;refine (Gz Tw6e.o.pen).mono ?_
     rintro e wz ⟨rfl,hp,hg⟩;have TZ:=Lv (Tw6e.o.call hp hg);clear hp hg;obtain ⟨c0,c1,c2,c3,c4,c5,c6⟩:=TZ.o.ex.c;obtain ⟨d0,d1,d2,d3,d4,d5,d6⟩:=TZ.o.res.c;have f:=TZ.o.res.fz;have rl:=TZ.o.res.lt;have xl:=TZ.o.ex.lt;go_wp2_with fail;refine bodyPost_ret (Jf rfl rfl (TZ.o.res.put nm ⟨4,wk,V,R,0,[]⟩)) rfl ?_
     exact ⟨⟨_,_,rfl,Pen.kept TZ.o.pen (Qh (Qq _ (some g0)) _ _ _ _ _ _ _) (.inr (Nat.le_trans TZ.o.up TZ.o.new0)),Z.o⟩,Zk TZ.o.grown (Qh (Qq _ (some g0)) _ _ _ _ _ _ _) TZ.o.new0⟩
 rw [if_neg h0,if_neg h2,if_neg h8,if_neg h16] at SK;have b0:(K == 0)=false:=by simpa using h0
 have b2:(K == 2)=false:=by simpa using h2
 have b8:(K == 8)=false:=by simpa using h8
 have b16:(K == 16)=false:=by simpa using h16
 go_wp2_with fail;refine (Gz T4.o.pen).mono ?_
 rintro e w5 ⟨rfl,hp,hg⟩;have Tw5e:=Lv (T4.o.call hp hg);clear hp hg;obtain ⟨s2,hs2⟩:∃ s2,s2=(s1.1,true):=⟨_,rfl⟩
 have SX:=Lv (show Sim sayP xs s (⟨0,wk,0,0,0,[]⟩:Ex) s2 from Sim.B S0.o (by rw [SK.o,hs2];exact Sim.F _ (Nat.le_refl _) rfl));rw [← hs2] at Tw5e;clear hs2;have hp9:s.1≤s2.1:=SX.o.le;have hl9:s2.1≤xs.length:=Pen.le Tw5e.o.pen;obtain ⟨P,hP⟩:∃ P,P=s.1:=⟨_,rfl⟩
 obtain ⟨Q,hQ⟩:∃ Q,Q=s2.1:=⟨_,rfl⟩
 have PA:=Lv (Tk Tw5e.o.pen);rw [← hQ] at PA;rw [← hP,← hQ] at hp9;rw [← hQ] at hl9;rw [← hP] at hle
 (try rw [← hP])
 have HPQ:=Lv (And.intro hP hQ);clear hP hQ;go_wp2_with fail;refine PA.o.mono ?_
 rintro e w9 ⟨rfl,rfl⟩;obtain ⟨D,hD1,hD2,hD3,hD4⟩:∃ D:Int,(Q:Int) - (P:Int)=D∧D=((Q - P:Nat):Int)∧0≤D∧D≤140737488355328:=⟨_,rfl,by omega,by omega,by omega⟩
 have HD2:=Lv hD2;clear hD2;by_cases hq:D=size
 · have Z:=Lv (show Sim (psZ sayP size) xs s (⟨0,wk,0,0,0,[]⟩:Ex) s2 by
     have h:=SX.o.Z (k:=size);rw [← HPQ.o.1,← HPQ.o.2,← HD2.o,hq,decide_eq_true rfl] at h;simp only [Bool.not_true,Bool.or_false] at h;rw [HPQ.o.2] at h;exact h)
   have hqf:(D != size)=false:=by rw [hq];simp
   obtain ⟨c0,c1,c2,c3,c4,c5,c6⟩:=Tw5e.o.ex.c;obtain ⟨d0,d1,d2,d3,d4,d5,d6⟩:=Tw5e.o.res.c;have f:=Tw5e.o.res.fz;have rl:=Tw5e.o.res.lt;have xl:=Tw5e.o.ex.lt;clear hq;go_wp2_with fail;refine bodyPost_ret (Jf rfl rfl (Tw5e.o.res.put nm ⟨0,wk,0,0,0,[]⟩)) rfl ?_
   exact ⟨⟨_,_,rfl,Pen.kept Tw5e.o.pen (Qh (Qq _ (some g0)) _ _ _ _ _ _ _) (.inr (Nat.le_trans Tw5e.o.up Tw5e.o.new0)),Z.o⟩,Zk Tw5e.o.grown (Qh (Qq _ (some g0)) _ _ _ _ _ _ _) Tw5e.o.new0⟩
 · have Z:=Lv (show Sim (psZ sayP size) xs s (⟨0,wk,0,0,0,[]⟩:Ex) (s2.1,true) by
     have h:=SX.o.Z (k:=size);rw [← HPQ.o.1,← HPQ.o.2,← HD2.o,decide_eq_false hq] at h;simp only [Bool.not_false,Bool.or_true] at h;rw [← HPQ.o.2];exact h)
   have hqf:(D != size)=true:=by simpa using hq
   clear hq;go_wp2_with fail;refine (Gz Tw5e.o.pen).mono ?_
   rintro e wz ⟨rfl,hp,hg⟩;have TZ:=Lv (Tw5e.o.call hp hg);clear hp hg;obtain ⟨c0,c1,c2,c3,c4,c5,c6⟩:=TZ.o.ex.c;obtain ⟨d0,d1,d2,d3,d4,d5,d6⟩:=TZ.o.res.c;have f:=TZ.o.res.fz;have rl:=TZ.o.res.lt;have xl:=TZ.o.ex.lt;go_wp2_with fail;refine bodyPost_ret (Jf rfl rfl (TZ.o.res.put nm ⟨0,wk,0,0,0,[]⟩)) rfl ?_
   exact ⟨⟨_,_,rfl,Pen.kept TZ.o.pen (Qh (Qq _ (some g0)) _ _ _ _ _ _ _) (.inr (Nat.le_trans TZ.o.up TZ.o.new0)),Z.o⟩,Zk TZ.o.grown (Qh (Qq _ (some g0)) _ _ _ _ _ _ _) TZ.o.new0⟩
end
section
open Go.RowKit Go.PlainAid
variable {w w' W:World} {lo hi a:Nat} {xs:List Int} {s s':Cs}
def Ku (w:World) (g:Nat) (k:Kid):Prop:=w.heap[g]?=some (.cells #[.string (strOfNums k.1),.int .u64 k.2] 145 (0,0))
section
variable {g:Nat} {k:Kid}
theorem Ku.kept {r:Option Nat} (h:Ku w g k) (hg:w.grownBy w' r) (hr:r≠some g):Ku w' g k:=(hg.block g (lt_of_block h) (fun e=>hr e.symm)).trans h
theorem Ku.grown (h:Ku w g k) (hg:w.grownBy w' none):Ku w' g k:=h.kept hg (by simp)
theorem Ku.lt (h:Ku w g k):g < w.heap.size:=lt_of_block h
theorem Ku.fz (h:Ku w g k) (i:Nat):w.frozen? ⟨g,i,none⟩=false:=Xg h
theorem Ku.c0 (h:Ku w g k):w.cell? ⟨g,0,none⟩=some (.string (strOfNums k.1)):=by rw [Qm h];rfl
theorem Ku.c1 (h:Ku w g k):w.cell? ⟨g,1,none⟩=some (.int .u64 k.2):=by rw [Qm h];rfl
theorem Ku.place (h:Ku w g k) (n:Int):Ku (w.setCell ⟨g,1,none⟩ (.int .u64 n)) g (k.1,n):=by unfold Ku;rw [heap_setCell_same w g 1 _ _ _ h];rfl
end
theorem Vf (x:Int) (l:List Int) (h : 0≤x∧x < 256):bt (strOfNums (x :: l)) 0=x:=by
 have h0 : 0 < (strOfNums (x :: l)).size:=by rw [strOfNums_size];simp
 unfold bt;rw [dif_pos h0];show ((UInt8.ofNat x.toNat).toNat:Int)=x
 simp only [UInt8.toNat_ofNat'];omega
theorem meets1_any (k1 k2:Kid) (h1:k1.1≠[]) (h2:k2.1≠[]) (b1:Byt k1.1) (b2:Byt k2.1) {g:Nat} (hx:Ku w g k2) :
  Calls Tryz.prog 159 #[.agg #[.string (strOfNums k1.1),.int .u64 k1.2],.pointer (some ⟨g,0,none⟩)] w fun e w'=>e=.returned (.bool (k1.1.getD 0 0 == k2.1.getD 0 0))∧w.grownBy w' none:=by
 have gB:=grown1 w (.cells #[.string (strOfNums k1.1),.int .u64 k1.2] 145);have d0:=(hx.grown gB).c0;have dl:=(hx.grown gB).lt;have G:=Lv gB;obtain ⟨e1,p1⟩:=k1;obtain ⟨e2,p2⟩:=k2;cases e1 with
 | nil=>exact absurd rfl h1
 | cons x1 e1 =>
 cases e2 with
 | nil=>exact absurd rfl h2
 | cons x2 e2 =>
 have y1:=b1 x1 (List.mem_cons_self ..);have y2:=b2 x2 (List.mem_cons_self ..);clear gB hx h1 h2 b1 b2;simp only [] at *;rw [show (x1 :: e1).getD 0 0=x1 from rfl,show (x2 :: e2).getD 0 0=x2 from rfl];have t1:=Vf x1 e1 y1;have t2:=Vf x2 e2 y2;have z1 : 0 < (strOfNums (x1 :: e1)).size:=by rw [strOfNums_size];simp
 have z2 : 0 < (strOfNums (x2 :: e2)).size:=by rw [strOfNums_size];simp
 generalize strOfNums (x1 :: e1)=S1 at *;generalize strOfNums (x2 :: e2)=S2 at *;have k1:=get_bt S1;have k2:=get_bt S2;rw [← t1,← t2];clear t1 t2 y1 y2;go_enter Tryz.func159,Tryz.ntmps159;go_wp2;go_quiet (fail);go_wp2;go_ret
 exact ⟨rfl,Qj G.o _⟩
theorem Mw (l:List Kid) (e:List Int) (k:Nat) (h:∀ i y,i < k→l[i]?=some y→(y.1.getD 0 0 == e.getD 0 0)=false) (hk:l.length≤k):meets e l=false:=by
 unfold meets;rw [List.any_eq_false];intro x hx;obtain ⟨i,hi,rfl⟩:=List.getElem_of_mem hx;rw [h i _ (by omega) (List.getElem?_eq_getElem hi)];simp
theorem Xp.at {q:Option Addr} {l:List Kid} (h:Xp w q l) (i:Nat) (x:Kid) (hx:l[i]?=some x):∃ g o,q=some ⟨g,o,none⟩∧w.cell? ⟨g,o + i * 2,none⟩=some (.string (strOfNums x.1))∧w.cell? ⟨g,o + i * 2 + 1,none⟩=some (.int .u64 x.2):=h i x hx
theorem indexKid_any (l:List Kid) (n:Nat) (hn:l.length=n) (hl:n≤9223372036854775807) (q:Option Addr) (c:Nat) (hr:Xp w q l) (e2:List Int) {g:Nat} (k2:Int) (hx:Ku w g (e2,k2)) (h2:e2≠[]) (b2:Byt e2) (ho:∀ k∈l,k.1≠[]∧Byt k.1) :
  Calls Tryz.prog 169 #[.slice q n c,.func (.func 159) #[] #[.pointer (some ⟨g,0,none⟩)]] w fun e w'=>(∃ z:Int,e=.returned (.int .i64 z)∧decide (0≤z)=meets e2 l)∧w.grownBy w' none:=by
 subst hn;have RR:=Lv hr;have OO:=Lv ho;have HX:=Lv hx;have NE:=Lv h2;have BB:=Lv b2;clear hr ho hx h2 b2;go_enter Tryz.func169,Tryz.ntmps169;go_wp2;go_loopw [8] (fun i wr=>∃ k:Nat,k≤l.length∧i=.int .i64 k∧w.grownBy wr none∧∀ i y,i < k→l[i]?=some y→(y.1.getD 0 0 == e2.getD 0 0)=false) (fun i _=>l.length - (intOf i).toNat)
 case atStart=>exact ⟨0,Nat.zero_le _,rfl,Qq _ _,fun i y h=>by omega⟩
 case round =>
  obtain ⟨k,hk,rfl,hg,hno⟩:=hrel;have G:=Lv hg;have NO:=Lv hno;by_cases hlt:k < l.length
  ·obtain ⟨x,hx⟩:∃ x,l[k]?=some x:=⟨_,List.getElem?_eq_getElem hlt⟩
   obtain ⟨gq,oq,rfl,c0,c1⟩:=(RR.o.grown hg).at k x hx;have xo:=OO.o x (List.mem_of_getElem? hx);have M1:=Lv (meets1_any x (e2,k2) xo.1 NE.o xo.2 BB.o (HX.o.grown hg));have XX:=Lv hx;have dl:decide ((k:Int) < (l.length:Int))=true:=by simp;omega
   have hkl:(k:Int) < (l.length:Int):=by omega
   obtain ⟨bx,hbx⟩:∃ bx,bx=(x.1.getD 0 0 == e2.getD 0 0):=⟨_,rfl⟩
   rw [← hbx] at M1;have PX:=Lv hbx;have ANY:=Lv (fun (h:bx=true)=>(show meets e2 l=true by
    unfold meets;rw [List.any_eq_true];exact ⟨x,List.mem_of_getElem? hx,by rw [← hbx,h]⟩))
   obtain ⟨xe,xp⟩:=x;simp only [] at c0 c1 M1;clear hg hno hx hbx xo;generalize l.length=N at *;go_wp2_with fail;refine M1.o.mono ?_
   rintro e w3 ⟨rfl,hg⟩;have G3:=Lv (Qz G.o hg);clear hg;cases bx
   ·go_wp2
    go_roundw
    case rel =>
     refine ⟨k + 1,hlt,by go_num,G3.o,fun i y hi hy=>?_⟩;rcases Nat.lt_or_ge i k with h | h
     ·exact NO.o i y h hy
     ·obtain rfl:i=k:=by omega
      rw [XX.o] at hy;injection hy with hy;rw [← hy];exact PX.o.symm
    case measure=>simp [intOf];omega
   ·go_wp2
    go_ret
    exact ⟨⟨k,rfl,by rw [show meets e2 l=true from (by first | exact ANY.o rfl | exact ANY.o trivial)];simp⟩,G3.o⟩
  ·have NA:=Lv (Mw l e2 k hno (by omega))
   have dl:decide ((k:Int) < (l.length:Int))=false:=by simp;omega
   clear hno hg;generalize l.length=N at *;go_wp2;go_ret
   exact ⟨⟨-1,rfl,by rw [NA.o];rfl⟩,G.o⟩
theorem containsKid_any (l:List Kid) (n:Nat) (hn:l.length=n) (hl:n≤9223372036854775807) (q:Option Addr) (c:Nat) (hr:Xp w q l) (e2:List Int) {g:Nat} (k2:Int) (hx:Ku w g (e2,k2)) (h2:e2≠[]) (b2:Byt e2) (ho:∀ k∈l,k.1≠[]∧Byt k.1) :
  Calls Tryz.prog 158 #[.slice q n c,.func (.func 159) #[] #[.pointer (some ⟨g,0,none⟩)]] w fun e w'=>e=.returned (.bool (meets e2 l))∧w.grownBy w' none:=by
 have I:=Lv (indexKid_any l n hn hl q c hr e2 k2 hx h2 b2 ho);clear hr hx ho h2 b2;go_enter Tryz.func158,Tryz.ntmps158;go_wp2_with fail;refine I.o.mono ?_
 rintro e w' ⟨⟨z,rfl,hz⟩,hg⟩;have G:=Lv hg;have Z:=Lv hz;clear hg hz;go_wp2;go_ret
 exact ⟨Vu Z.o,G.o⟩
theorem meetsAny_any (l:List Kid) (n:Nat) (hn:l.length=n) (hl:n≤9223372036854775807) (q:Option Addr) (c:Nat) (hr:Xp w q l) (e2:List Int) (k2:Int) (h2:e2≠[]) (b2:Byt e2) (ho:∀ k∈l,k.1≠[]∧Byt k.1) :
  Calls Tryz.prog 136 #[.agg #[.string (strOfNums e2),.int .u64 k2],.slice q n c] w fun e w'=>e=.returned (.bool (meets e2 l))∧w.grownBy w' none:=by
 have gB:=grown1 w (.cells #[.string (strOfNums e2),.int .u64 k2] 145);have C:=Lv (containsKid_any (w:=w.alloc (.cells #[.string (strOfNums e2),.int .u64 k2] 145)) (g:=w.heap.size) l n hn hl q c (hr.grown gB) e2 k2 (heap_alloc_new w _) h2 b2 ho);have G:=Lv gB;clear hr ho h2 b2 gB;go_enter Tryz.func136,Tryz.ntmps136;go_wp2_with fail;refine C.o.mono ?_
 rintro e w' ⟨rfl,hg⟩;have G2:=Lv (Qz G.o hg);clear hg;go_wp2;go_ret
 exact ⟨rfl,G2.o⟩
end
section
variable {w w' W:World} {lo hi a:Nat} {xs:List Int} {s s':Cs}
def nmOf (nm:ByteArray):Option Ex→ByteArray
 | none=>⟨#[]⟩
 | some _=>nm
def exOf:Option Ex→Ex
 | none=>Ex.zero
 | some x=>x
theorem Zb {T T':TypeId} {k n base g:Nat} {v:Value} {cs:Array Value} {ys:List Value} (h:w.ownsRow base T k v n ys) (hb:w.heap[g]?=some (.cells cs T' (0,0))) (hT:T≠T'):v.ownBlock≠some g:=by
 rcases h.2 with ⟨rfl,_⟩ | ⟨g',cap,cur,rfl,_,hg,_⟩
 ·simp [Value.ownBlock]
 ·intro e
  simp only [Value.ownBlock,Option.some.injEq] at e;subst e;rw [hg] at hb;injection hb with hb;injection hb with _ hb _;exact hT hb
structure TnI (w0 W:World) (lo hi a:Nat) (xs:List Int) (s:Cs) (g0 g1:Nat) (nm:ByteArray) (o:Option Ex) (l:List Kid) (v:Value):Prop where
 pen:PenS W lo hi a xs s false
 res:Qn W g0 false ⟨#[]⟩ Ex.zero (.slice none 0 0)
 nod:Qn W g1 o.isSome (nmOf nm o) (exOf o) v
 own:W.ownsRow w0.heap.size 145 2 v l.length (l.flatMap Hp)
 each:∀ k∈l,k.1≠[]∧Byt k.1
 grown:w0.grownBy W (some a)
 new0:w0.heap.size≤g0
 new1:w0.heap.size≤g1
 ne:g0≠g1
 up:hi≤w0.heap.size
section
variable {w0:World} {g0 g1:Nat} {nm:ByteArray} {o:Option Ex} {l:List Kid} {v:Value}
theorem TnI.al (h:TnI w0 W lo hi a xs s g0 g1 nm o l v):a < w0.heap.size:=Nat.lt_of_lt_of_le h.pen.up h.up
theorem TnI.rowne (h:TnI w0 W lo hi a xs s g0 g1 nm o l v):v.ownBlock=none∨v.ownBlock≠some a:=by
 cases hb:v.ownBlock with
 | none=>exact .inl rfl
 | some g=>exact .inr (fun e=>by injection e with e;have:=(h.own.lt g hb).1;have:=h.al;omega)
theorem TnI.call (h:TnI w0 W lo hi a xs s g0 g1 nm o l v) (hp:PenS w' lo hi a xs s' false) (hg:W.grownBy w' (some a)):TnI w0 w' lo hi a xs s' g0 g1 nm o l v:=by
 have ha:=h.al;exact ⟨hp,h.res.kept hg (by intro e;injection e with e;have:=h.new0;omega),h.nod.kept hg (by intro e;injection e with e;have:=h.new1;omega),h.own.kept hg h.rowne,h.each,grown_same h.grown hg,h.new0,h.new1,h.ne,h.up⟩
theorem TnI.same (h:TnI w0 W lo hi a xs s g0 g1 nm o l v) (hg:W.grownBy w' none):TnI w0 w' lo hi a xs s g0 g1 nm o l v :=
 ⟨Pen.same h.pen hg,h.res.kept hg (by simp),h.nod.kept hg (by simp),Qy h.own hg,h.each,grown_then h.grown hg,h.new0,h.new1,h.ne,h.up⟩
theorem TnI.mine (h:TnI w0 W lo hi a xs s g0 g1 nm o l v) {g:Nat} (hg:W.grownBy w' (some g)) (h0:w0.heap.size≤g) (n0:g≠g0) (n1:g≠g1) (nv:v.ownBlock≠some g):TnI w0 w' lo hi a xs s g0 g1 nm o l v :=
 ⟨Pen.kept h.pen hg (.inr (Nat.le_trans h.up h0)),h.res.kept hg (by intro e;injection e with e;exact n0 e),h.nod.kept hg (by intro e;injection e with e;exact n1 e),h.own.kept hg (.inr nv),h.each,Zk h.grown hg h0,h.new0,h.new1,h.ne,h.up⟩
theorem TnI.said (h:TnI w0 W lo hi a xs s g0 g1 nm none l v) (x:Ex) (hg:W.grownBy w' (some g1)) (hn:Qn w' g1 true nm x v):TnI w0 w' lo hi a xs s g0 g1 nm (some x) l v :=
 ⟨Pen.kept h.pen hg (.inr (Nat.le_trans h.up h.new1)),h.res.kept hg (by intro e;injection e with e;exact h.ne e.symm),hn,h.own.kept hg (.inr (Zb h.own h.nod (by decide))),h.each,Zk h.grown hg h.new1,h.new0,h.new1,h.ne,h.up⟩
theorem TnI.more (h:TnI w0 W lo hi a xs s g0 g1 nm o l v) (k:Kid) (hk:k.1≠[]∧Byt k.1) {w1:World} {v':Value} (ho:w1.ownsRow w0.heap.size 145 2 v' (l.length + 1) (l.flatMap Hp ++ Hp k)) (hg:W.grownBy w1 v.ownBlock) :
  TnI w0 (w1.setCell ⟨g1,8,none⟩ v') lo hi a xs s g0 g1 nm o (l ++ [k]) v':=by
 have hv:∀ g,v.ownBlock=some g→w0.heap.size≤g:=fun g e=>(h.own.lt g e).1;have r1:Qn w1 g0 false ⟨#[]⟩ Ex.zero (.slice none 0 0):=h.res.kept hg (Zb h.own h.res (by decide));have n1:Qn w1 g1 o.isSome (nmOf nm o) (exOf o) v:=h.nod.kept hg (Zb h.own h.nod (by decide));have gs:=Qx (i:=8) (Qq w1 (some g1)) v';have p1:=Pen.row h.pen hg (fun g e=>Nat.le_trans h.up (hv g e))
 refine ⟨Pen.kept p1 gs (.inr (Nat.le_trans h.up h.new1)),r1.kept gs (by intro e;injection e with e;exact h.ne e.symm),n1.kids v',?_,?_,Zk (grown_row h.grown hg (fun g e=>hv g e)) gs h.new1,h.new0,h.new1,h.ne,h.up⟩
 ·rw [List.length_append,List.length_singleton,List.flatMap_append,List.flatMap_singleton]
  exact ho.kept gs (.inr (Zb ho n1 (by decide)))
 ·intro x hx
  rcases List.mem_append.1 hx with hx | hx
  ·exact h.each x hx
  ·rw [List.mem_singleton.1 hx];exact hk
theorem Qn.put (h:Qn W g0 false ⟨#[]⟩ Ex.zero (.slice none 0 0)) (b:Bool) (nm':ByteArray) (y:Ex) (v':Value) :
   Qn (((((((((W.setCell ⟨g0,0,none⟩ (.bool b)).setCell ⟨g0,1,none⟩ (.string nm')).setCell ⟨g0,2,none⟩ (.int .i64 y.kind)).setCell ⟨g0,3,none⟩ (.bool y.weak)).setCell ⟨g0,4,none⟩ (.int .u64 y.value)).setCell ⟨g0,5,none⟩ (.int .u64 y.resolver)).setCell ⟨g0,6,none⟩ (.int .u64 y.ordinal)).setCell ⟨g0,7,none⟩ (.string (strOfNums y.other))).setCell ⟨g0,8,none⟩ v') g0 b nm' y v' :=
 ((((((((h.s0 b).s1 nm').s2 y.kind).s3 y.weak).s4 y.value).s5 y.resolver).s6 y.ordinal).s7 y.other).kids v'
theorem Jx {w1:World} {g:Nat} (h:W.grownBy w1 (some g)) (v0 v1 v2 v3 v4 v5 v6 v7 v8:Value):W.grownBy (((((((((w1.setCell ⟨g,0,none⟩ v0).setCell ⟨g,1,none⟩ v1).setCell ⟨g,2,none⟩ v2).setCell ⟨g,3,none⟩ v3).setCell ⟨g,4,none⟩ v4).setCell ⟨g,5,none⟩ v5).setCell ⟨g,6,none⟩ v6).setCell ⟨g,7,none⟩ v7).setCell ⟨g,8,none⟩ v8) (some g) :=
 Qx (Qx (Qx (Qx (Qx (Qx (Qx (Qx (Qx h _) _) _) _) _) _) _) _) _
theorem grown_put8 {w1:World} {g:Nat} (h:W.grownBy w1 (some g)) (v0 v1 v2 v3 v4 v5 v6 v7:Value):W.grownBy ((((((((w1.setCell ⟨g,0,none⟩ v0).setCell ⟨g,1,none⟩ v1).setCell ⟨g,2,none⟩ v2).setCell ⟨g,3,none⟩ v3).setCell ⟨g,4,none⟩ v4).setCell ⟨g,5,none⟩ v5).setCell ⟨g,6,none⟩ v6).setCell ⟨g,7,none⟩ v7) (some g) :=
 Qx (Qx (Qx (Qx (Qx (Qx (Qx (Qx h _) _) _) _) _) _) _) _
end
structure TnOut (w w':World) (lo hi a:Nat) (xs:List Int) (s:Cs) (nm:ByteArray) (e:Ending):Prop where
 ex:∃ nd v s',e=.returned (Kw nd.ex.isSome (nmOf nm nd.ex) (exOf nd.ex) v)∧PenS w' lo hi a xs s' false∧Sim Ko xs s nd s'∧w'.ownsRow w.heap.size 145 2 v nd.kids.length (nd.kids.flatMap Hp)
 grown:w.grownBy w' (some a)
theorem taken_any (h:PenS w lo hi a xs s false) (nm:ByteArray) (hb:Byt xs) :
  Calls Tryz.prog 101 #[.pointer (some ⟨a,0,none⟩),.string nm] w fun e w'=>TnOut w w' lo hi a xs s nm e:=by
 have hbig:xs.length≤140737488355328:=Pen.most h;have hhi:hi≤w.heap.size:=h.sz;have g1:=grown1 w (.cells #[.bool false,.string ⟨#[]⟩,.int .i64 0,.bool false,.int .u64 0,.int .u64 0,.int .u64 0,.string ⟨#[]⟩,.slice none 0 0] 87);have r1:Qn (w.alloc (.cells #[.bool false,.string ⟨#[]⟩,.int .i64 0,.bool false,.int .u64 0,.int .u64 0,.int .u64 0,.string ⟨#[]⟩,.slice none 0 0] 87)) w.heap.size false ⟨#[]⟩ Ex.zero (.slice none 0 0):=heap_alloc_new w _
 obtain ⟨w1,hw1⟩:∃ w1,w.alloc (.cells #[.bool false,.string ⟨#[]⟩,.int .i64 0,.bool false,.int .u64 0,.int .u64 0,.int .u64 0,.string ⟨#[]⟩,.slice none 0 0] 87)=w1:=⟨_,rfl⟩
 obtain ⟨g0,hg0⟩:∃ g0,w.heap.size=g0:=⟨_,rfl⟩
 rw [hw1] at g1 r1;rw [hg0] at r1;have HW1:=Lv hw1;have HG0:=Lv hg0;have gl:=r1.lt;have g2:=grown1 w1 (.cells #[.bool false,.string ⟨#[]⟩,.int .i64 0,.bool false,.int .u64 0,.int .u64 0,.int .u64 0,.string ⟨#[]⟩,.slice none 0 0] 87);have r2:Qn (w1.alloc (.cells #[.bool false,.string ⟨#[]⟩,.int .i64 0,.bool false,.int .u64 0,.int .u64 0,.int .u64 0,.string ⟨#[]⟩,.slice none 0 0] 87)) w1.heap.size false ⟨#[]⟩ Ex.zero (.slice none 0 0):=heap_alloc_new w1 _
 have T2:=Lv (show TnI w (w1.alloc (.cells #[.bool false,.string ⟨#[]⟩,.int .i64 0,.bool false,.int .u64 0,.int .u64 0,.int .u64 0,.string ⟨#[]⟩,.slice none 0 0] 87)) lo hi a xs s g0 w1.heap.size nm none [] (.slice none 0 0) from
  ⟨Pen.same (Pen.same h g1) g2,r1.kept g2 (by simp),r2,World.ownsRow_nil _ _ _ _,fun k hk=>(by cases hk),Mr (Qz g1 g2) _,by omega,g1.size,by omega,hhi⟩)
 obtain ⟨w2,hw2⟩:∃ w2,w1.alloc (.cells #[.bool false,.string ⟨#[]⟩,.int .i64 0,.bool false,.int .u64 0,.int .u64 0,.int .u64 0,.string ⟨#[]⟩,.slice none 0 0] 87)=w2:=⟨_,rfl⟩
 obtain ⟨gx,hgx⟩:∃ gx,w1.heap.size=gx:=⟨_,rfl⟩
 rw [hw2,hgx] at T2;have HW2:=Lv hw2;have HGX:=Lv hgx;have HB:=Lv hb;clear h g1 g2 r1 r2 gl hw1 hg0 hw2 hgx hb;go_enter Tryz.func101,Tryz.ntmps101;go_upto_region 1 with fail;rw [HW1.o,HG0.o];go_upto_region 2 with fail;rw [HW2.o,HGX.o];clear HW1 HG0 HW2 HGX;have S0:=Lv (Hz xs s);have B0:=Lv (Sa (xs:=xs) (s:=s));go_wp2_with fail;refine (Ga T2.o.pen).mono ?_
 rintro e w3 ⟨rfl,hp,hg⟩;have T3:=Lv (T2.o.call hp hg);clear hp hg T2;obtain ⟨Z,hZ⟩:∃ z,z=(ulS xs s).1:=⟨_,rfl⟩
 obtain ⟨s1,hs1⟩:∃ z,z=(ulS xs s).2:=⟨_,rfl⟩
 rw [← hZ,← hs1] at S0;rw [← hZ] at B0;rw [← hs1] at T3;rw [← hZ];clear hZ hs1;by_cases hz : 0 < Z
 ·have hdz:decide (0 < Z)=true:=decide_eq_true hz
  go_wp2_with fail;refine (takeExport_any T3.o.pen nm Z B0.o).mono ?_
  rintro e w4 ⟨⟨x,s2,rfl,hp,hs⟩,hg⟩;have T4:=Lv (T3.o.call hp hg);have S1:=Lv (show Sim (exP Z) xs s1 (some x) s2 by unfold exP;rw [if_neg (by omega)];exact Sim.B hs (Sim.R _ _));clear hp hg hs T3;obtain ⟨n0,n1,n2,n3,n4,n5,n6,n7,n8⟩:=T4.o.nod.c;have nf:=T4.o.nod.fz;have nl:=T4.o.nod.lt;unfold exV Zd;go_upto_region 5 with fail;have T5:=Lv (T4.o.said x (grown_put8 (Qq w4 (some gx)) (.bool true) (.string nm) (.int .i64 x.kind) (.bool x.weak) (.int .u64 x.value) (.int .u64 x.resolver) (.int .u64 x.ordinal) (.string (strOfNums x.other))) (T4.o.nod.said nm x))
  clear n0 n1 n2 n3 n4 n5 n6 n7 n8 nf nl T4;obtain ⟨w5,hw5⟩:∃ w5,(((((((w4.setCell ⟨gx,0,none⟩ (.bool true)).setCell ⟨gx,1,none⟩ (.string nm)).setCell ⟨gx,2,none⟩ (.int .i64 x.kind)).setCell ⟨gx,3,none⟩ (.bool x.weak)).setCell ⟨gx,4,none⟩ (.int .u64 x.value)).setCell ⟨gx,5,none⟩ (.int .u64 x.resolver)).setCell ⟨gx,6,none⟩ (.int .u64 x.ordinal)).setCell ⟨gx,7,none⟩ (.string (strOfNums x.other))=w5:=⟨_,rfl⟩
  rw [hw5] at T5
  (try rw [hw5])
  clear hw5;have S2:=Lv (sim_by xs s2);have B2:=Lv (byS_bd (s:=s2) HB.o);go_wp2_with fail;refine (pen_by T5.o.pen).mono ?_
  rintro e w6 ⟨rfl,hp,hg⟩;have T6:=Lv (T5.o.call hp hg);clear hp hg T5;obtain ⟨M,hM⟩:∃ M:Nat,(M:Int)=(byS xs s2).1:=⟨((byS xs s2).1).toNat,by have:=B2.o;omega⟩
  obtain ⟨s3,hs3⟩:∃ z,z=(byS xs s2).2:=⟨_,rfl⟩
  rw [← hM,← hs3] at S2;rw [← hM] at B2;rw [← hs3] at T6;rw [← hM];clear hM hs3;have mM:M < 256:=by have:=B2.o;omega
  clear B2;go_wp2_with fail;go_loopw [20] (fun i wr=>∃ (k:Nat) (l:List Kid) (v:Value) (sk:Cs),k≤M∧i=.int .u64 k∧l.length=k∧TnI w wr lo hi a xs sk g0 gx nm (some x) l v∧Hid (∀ r s',Sim (Js (M - k) l) xs sk r s'→Sim (Js M []) xs s3 r s')) (fun i _=>M - (intOf i).toNat)
  case atStart=>exact ⟨0,[],_,s3,Nat.zero_le _,rfl,rfl,T6.o,Lv (fun r s' h=>h)⟩
  case round =>
    obtain ⟨k,l,v,sk,hk,rfl,hl,hT,CO⟩:=hrel;obtain ⟨q,c,rfl⟩:=Qp hT.own;have T:=Lv hT;have HL:=Lv hl;clear hT hl T6;by_cases hlt:k < M
    ·have ST:=Lv (Pd xs sk)
     have CO2:=Lv (show ∀ r s',Sim (Js (M - (k + 1) + 1) l) xs sk r s'→Sim (Js M []) xs s3 r s' by rw [show M - (k + 1) + 1=M - k by omega];exact CO.o);clear CO;go_wp2_with fail;refine (Pn T.o.pen).mono ?_
     rintro e w7 ⟨rfl,hp,hg⟩;have T7:=Lv (T.o.call hp hg);clear hp hg T;obtain ⟨E,hE⟩:∃ z,z=(txS xs sk).1:=⟨_,rfl⟩
     obtain ⟨s4,hs4⟩:∃ z,z=(txS xs sk).2:=⟨_,rfl⟩
     have BE:=Lv (show Byt E by
       rw [hE];unfold txS
       split
       ·exact (HB.o.drop _).pre
       ·intro x hx;cases hx)
     rw [← hE,← hs4] at ST;rw [← hs4] at T7;rw [← hE];clear hE hs4;have g8:=grown1 w7 (.cells #[.string (strOfNums E),.int .u64 0] 145);have k8:Ku (w7.alloc (.cells #[.string (strOfNums E),.int .u64 0] 145)) w7.heap.size (E,0):=heap_alloc_new w7 _;have T8:=Lv (T7.o.same g8);have K8:=Lv k8;have LK:=Lv (show w.heap.size≤w7.heap.size from T7.o.grown.size);have LV:=Lv (fun g (e:(Value.slice q l.length c).ownBlock=some g)=>((T7.o.own.lt g e).2:g < w7.heap.size))
     have L0:=Lv (show g0 < w7.heap.size from T7.o.res.lt);have L1:=Lv (show gx < w7.heap.size from T7.o.nod.lt);obtain ⟨w8,hw8⟩:∃ w8,w7.alloc (.cells #[.string (strOfNums E),.int .u64 0] 145)=w8:=⟨_,rfl⟩
     obtain ⟨gk,hgk⟩:∃ gk,w7.heap.size=gk:=⟨_,rfl⟩
     rw [hw8] at T8 K8;rw [hgk] at K8 LK LV L0 L1;have HW8:=Lv hw8;have HGK:=Lv hgk;clear g8 k8 hw8 hgk T7;go_upto_region 8 with fail;rw [HW8.o,HGK.o];clear HW8 HGK;have SU:=Lv (Hz xs s4);have BU:=Lv (Sa (xs:=xs) (s:=s4));go_wp2_with fail;refine (Ga T8.o.pen).mono ?_
     rintro e w9 ⟨rfl,hp,hg⟩;have T9:=Lv (T8.o.call hp hg);have hak:=T8.o.al;have k9:=K8.o.kept hg (by intro e;injection e with e;have:=LK.o;omega);have kf:=k9.fz;have kl:=k9.lt;have kc:=k9.c1;have K9:=Lv k9;clear hp hg T8 K8 hak k9;obtain ⟨P,hP⟩:∃ z,z=(ulS xs s4).1:=⟨_,rfl⟩
     obtain ⟨s5,hs5⟩:∃ z,z=(ulS xs s4).2:=⟨_,rfl⟩
     rw [← hP,← hs5] at SU;rw [← hP] at BU;rw [← hs5] at T9;rw [← hP];clear hP hs5;go_upto_region 9 with fail;have gz:=Qx (i:=1) (Qq w9 (some gk)) (.int .u64 P);have T10:=Lv (T9.o.mine gz LK.o (by have:=L0.o;omega) (by have:=L1.o;omega) (by intro e;have:=LV.o gk e;omega));have K10:=Lv (K9.o.place P);obtain ⟨wa,hwa⟩:∃ wa,w9.setCell ⟨gk,1,none⟩ (.int .u64 P)=wa:=⟨_,rfl⟩
     rw [hwa] at T10 K10
     (try rw [hwa])
     clear hwa gz kf kl kc T9 K9;have q0:=K10.o.c0;have q1:=K10.o.c1;have ql:=K10.o.lt;obtain ⟨m0,m1,m2,m3,m4,m5,m6,m7,m8⟩:=T10.o.nod.c;have ml:=T10.o.nod.lt;have LE:=Lv (show s5.1≤s5.1∧s4.1≤s5.1 from ⟨Nat.le_refl _,SU.o.le⟩);by_cases hE:E=[]
     · have he:(strOfNums E).toList.isEmpty=true:=by rw [hE,Lib.strOfNums_toList];rfl
       have HE:=Lv hE;clear hE;go_wp2_with fail;refine (Gz T10.o.pen).mono ?_
       rintro e wb ⟨rfl,hp,hg⟩;have T11:=Lv (T10.o.call hp hg);clear hp hg m0 m1 m2 m3 m4 m5 m6 m7 m8 ml q0 q1 ql;have SX:=Lv (show Sim Ko xs s (⟨(some x),l⟩:Nd) (s5.1,true) from Sim.B S0.o (Sim.B S1.o (Sim.B S2.o (Sim.B (CO2.o l (s5.1,true) (Sim.B ST.o (Sim.B SU.o (by rw [if_pos (.inl HE.o)];exact Sim.F _ (Nat.le_refl _) rfl)))) (Sim.R _ _)))));have TF:=Lv T11.o
       obtain ⟨m0,m1,m2,m3,m4,m5,m6,m7,m8⟩:=T11.o.nod.c;obtain ⟨d0,d1,d2,d3,d4,d5,d6,d7,d8⟩:=T11.o.res.c;have df:=T11.o.res.fz;have dl:=T11.o.res.lt;have ml:=T11.o.nod.lt;simp only [Option.isSome,nmOf,exOf] at m0 m1 m2 m3 m4 m5 m6 m7;go_wp2_with fail;refine bodyPost_ret (Ka rfl rfl (TF.o.res.put true nm x (.slice q l.length c))) rfl ?_
       have GP:=fun W:World=>Jx (Qq W (some g0)) (.bool true) (.string nm) (.int .i64 (x:Ex).kind) (.bool (x:Ex).weak) (.int .u64 (x:Ex).value) (.int .u64 (x:Ex).resolver) (.int .u64 (x:Ex).ordinal) (.string (strOfNums (x:Ex).other)) (.slice q l.length c);exact ⟨⟨⟨(some x),l⟩,(.slice q l.length c),_,rfl,Pen.kept TF.o.pen (GP _) (.inr (Nat.le_trans TF.o.up TF.o.new0)),SX.o,TF.o.own.kept (GP _) (.inr (Zb TF.o.own TF.o.res (by decide)))⟩,Zk TF.o.grown (GP _) TF.o.new0⟩
     · have he:(strOfNums E).toList.isEmpty=false:=by
        rw [Lib.strOfNums_toList];cases E with
        | nil=>exact absurd rfl hE
        | cons=>rfl
       have HE:=Lv hE;have hln:l.length≤9223372036854775807:=by have:=HL.o;omega
       have MA:=Lv (meetsAny_any (w:=wa) l l.length rfl hln q c (Xp.of T10.o.own) E P HE.o BE.o T10.o.each);clear hE hln;go_wp2_with fail;refine MA.o.mono ?_
       rintro e wb ⟨rfl,hg⟩;have T11:=Lv (T10.o.same hg);have K11:=Lv (K10.o.grown hg);clear hg m0 m1 m2 m3 m4 m5 m6 m7 m8 ml q0 q1 ql MA T10 K10;obtain ⟨bm,hbm⟩:∃ bm,bm=meets E l:=⟨_,rfl⟩
       rw [← hbm];have HM:=Lv hbm;clear hbm;cases bm with
       | true =>
        go_wp2_with fail;refine (Gz T11.o.pen).mono ?_
        rintro e wc ⟨rfl,hp,hg⟩;have T12:=Lv (T11.o.call hp hg);clear hp hg;have SX:=Lv (show Sim Ko xs s (⟨(some x),l⟩:Nd) (s5.1,true) from Sim.B S0.o (Sim.B S1.o (Sim.B S2.o (Sim.B (CO2.o l (s5.1,true) (Sim.B ST.o (Sim.B SU.o (by rw [if_pos (.inr HM.o.symm)];exact Sim.F _ (Nat.le_refl _) rfl)))) (Sim.R _ _)))));have TF:=Lv T12.o;obtain ⟨m0,m1,m2,m3,m4,m5,m6,m7,m8⟩:=T12.o.nod.c
        obtain ⟨d0,d1,d2,d3,d4,d5,d6,d7,d8⟩:=T12.o.res.c;have df:=T12.o.res.fz;have dl:=T12.o.res.lt;have ml:=T12.o.nod.lt;simp only [Option.isSome,nmOf,exOf] at m0 m1 m2 m3 m4 m5 m6 m7;go_wp2_with fail;refine bodyPost_ret (Ka rfl rfl (TF.o.res.put true nm x (.slice q l.length c))) rfl ?_
        have GP:=fun W:World=>Jx (Qq W (some g0)) (.bool true) (.string nm) (.int .i64 (x:Ex).kind) (.bool (x:Ex).weak) (.int .u64 (x:Ex).value) (.int .u64 (x:Ex).resolver) (.int .u64 (x:Ex).ordinal) (.string (strOfNums (x:Ex).other)) (.slice q l.length c);exact ⟨⟨⟨(some x),l⟩,(.slice q l.length c),_,rfl,Pen.kept TF.o.pen (GP _) (.inr (Nat.le_trans TF.o.up TF.o.new0)),SX.o,TF.o.own.kept (GP _) (.inr (Zb TF.o.own TF.o.res (by decide)))⟩,Zk TF.o.grown (GP _) TF.o.new0⟩
       | false =>
        have q0:=K11.o.c0;have q1:=K11.o.c1;have ql:=K11.o.lt;have m8:=T11.o.nod.c.2.2.2.2.2.2.2.2;have ml:=T11.o.nod.lt;have gn:=grown1 wb (.cells #[.string (strOfNums E),.int .u64 P] 145);have T12:=Lv (T11.o.same gn);have N12:=Lv (heap_alloc_new wb (.cells #[.string (strOfNums E),.int .u64 P] 145));have SZ:=Lv (show w.heap.size≤wb.heap.size from T11.o.grown.size);go_wp2_with (at_builtin;refine Zv kidType rfl _ _ rfl _ l.length _ rfl T12.o.own [.string (strOfNums E),.int .u64 P] rfl wb.heap.size rfl N12.o (kidCs_one (E,P)) (by have:=HL.o;omega) (by decide) ?_ ?_)
        ·have:=SZ.o;(try rw [World.size_alloc]);omega
        intro v' wd ho hg3;obtain ⟨q',c',rfl⟩:=Qp ho;have nd3:Qn wd gx _ _ _ _:=T12.o.nod.kept hg3 (Zb T12.o.own T12.o.nod (by decide));have c8:=nd3.c.2.2.2.2.2.2.2.2;have cf:=nd3.fz;have cl:=nd3.lt;have T13:=Lv (T12.o.more (E,P) ⟨HE.o,BE.o⟩ ho hg3);clear nd3 ho hg3 m8 ml q0 q1 ql gn;go_wp2;go_roundw
        case rel=>exact ⟨k + 1,l ++ [(E,P)],_,s5,hlt,by go_num,by rw [List.length_append,HL.o];rfl,T13.o,Lv (fun r s' h=>CO2.o r s' (Sim.B ST.o (Sim.B SU.o (by rw [if_neg (fun h=>h.elim HE.o (fun h=>by rw [← HM.o] at h;cases h))];exact h))))⟩
        case measure=>simp [intOf];omega
    ·have hkM:k=M:=by omega
     have CO3:=Lv (show ∀ r s',Sim (Js 0 l) xs sk r s'→Sim (Js M []) xs s3 r s' by rw [show 0=M - k by omega];exact CO.o);have dk:decide ((k:Int) < (M:Int))=false:=by simp;omega
     clear CO hlt;have SX:=Lv (show Sim Ko xs s (⟨(some x),l⟩:Nd) sk from Sim.B S0.o (Sim.B S1.o (Sim.B S2.o (Sim.B (CO3.o l sk (Sim.R _ _)) (Sim.R _ _)))));have TF:=Lv T.o;obtain ⟨m0,m1,m2,m3,m4,m5,m6,m7,m8⟩:=T.o.nod.c;obtain ⟨d0,d1,d2,d3,d4,d5,d6,d7,d8⟩:=T.o.res.c;have df:=T.o.res.fz;have dl:=T.o.res.lt;have ml:=T.o.nod.lt;simp only [Option.isSome,nmOf,exOf] at m0 m1 m2 m3 m4 m5 m6 m7
     go_wp2_with fail;refine bodyPost_ret (Ka rfl rfl (TF.o.res.put true nm x (.slice q l.length c))) rfl ?_
     have GP:=fun W:World=>Jx (Qq W (some g0)) (.bool true) (.string nm) (.int .i64 (x:Ex).kind) (.bool (x:Ex).weak) (.int .u64 (x:Ex).value) (.int .u64 (x:Ex).resolver) (.int .u64 (x:Ex).ordinal) (.string (strOfNums (x:Ex).other)) (.slice q l.length c);exact ⟨⟨⟨(some x),l⟩,(.slice q l.length c),_,rfl,Pen.kept TF.o.pen (GP _) (.inr (Nat.le_trans TF.o.up TF.o.new0)),SX.o,TF.o.own.kept (GP _) (.inr (Zb TF.o.own TF.o.res (by decide)))⟩,Zk TF.o.grown (GP _) TF.o.new0⟩
 ·have hdz:decide (0 < Z)=false:=decide_eq_false hz
  have S1:=Lv (show Sim (exP Z) xs s1 none s1 by unfold exP;rw [if_pos (by have:=B0.o;omega)];exact Sim.R _ _);go_upto_region 5 with fail;have T5:=T3;have S2:=Lv (sim_by xs s1);have B2:=Lv (byS_bd (s:=s1) HB.o);go_wp2_with fail;refine (pen_by T5.o.pen).mono ?_
  rintro e w6 ⟨rfl,hp,hg⟩;have T6:=Lv (T5.o.call hp hg);clear hp hg T5;obtain ⟨M,hM⟩:∃ M:Nat,(M:Int)=(byS xs s1).1:=⟨((byS xs s1).1).toNat,by have:=B2.o;omega⟩
  obtain ⟨s3,hs3⟩:∃ z,z=(byS xs s1).2:=⟨_,rfl⟩
  rw [← hM,← hs3] at S2;rw [← hM] at B2;rw [← hs3] at T6;rw [← hM];clear hM hs3;have mM:M < 256:=by have:=B2.o;omega
  clear B2;go_wp2_with fail;go_loopw [20] (fun i wr=>∃ (k:Nat) (l:List Kid) (v:Value) (sk:Cs),k≤M∧i=.int .u64 k∧l.length=k∧TnI w wr lo hi a xs sk g0 gx nm none l v∧Hid (∀ r s',Sim (Js (M - k) l) xs sk r s'→Sim (Js M []) xs s3 r s')) (fun i _=>M - (intOf i).toNat)
  case atStart=>exact ⟨0,[],_,s3,Nat.zero_le _,rfl,rfl,T6.o,Lv (fun r s' h=>h)⟩
  case round =>
    obtain ⟨k,l,v,sk,hk,rfl,hl,hT,CO⟩:=hrel;obtain ⟨q,c,rfl⟩:=Qp hT.own;have T:=Lv hT;have HL:=Lv hl;clear hT hl T6;by_cases hlt:k < M
    ·have ST:=Lv (Pd xs sk)
     have CO2:=Lv (show ∀ r s',Sim (Js (M - (k + 1) + 1) l) xs sk r s'→Sim (Js M []) xs s3 r s' by rw [show M - (k + 1) + 1=M - k by omega];exact CO.o);clear CO;go_wp2_with fail;refine (Pn T.o.pen).mono ?_
     rintro e w7 ⟨rfl,hp,hg⟩;have T7:=Lv (T.o.call hp hg);clear hp hg T;obtain ⟨E,hE⟩:∃ z,z=(txS xs sk).1:=⟨_,rfl⟩
     obtain ⟨s4,hs4⟩:∃ z,z=(txS xs sk).2:=⟨_,rfl⟩
     have BE:=Lv (show Byt E by
       rw [hE];unfold txS
       split
       ·exact (HB.o.drop _).pre
       ·intro x hx;cases hx)
     rw [← hE,← hs4] at ST;rw [← hs4] at T7;rw [← hE];clear hE hs4;have g8:=grown1 w7 (.cells #[.string (strOfNums E),.int .u64 0] 145);have k8:Ku (w7.alloc (.cells #[.string (strOfNums E),.int .u64 0] 145)) w7.heap.size (E,0):=heap_alloc_new w7 _;have T8:=Lv (T7.o.same g8);have K8:=Lv k8;have LK:=Lv (show w.heap.size≤w7.heap.size from T7.o.grown.size);have LV:=Lv (fun g (e:(Value.slice q l.length c).ownBlock=some g)=>((T7.o.own.lt g e).2:g < w7.heap.size))
     have L0:=Lv (show g0 < w7.heap.size from T7.o.res.lt);have L1:=Lv (show gx < w7.heap.size from T7.o.nod.lt);obtain ⟨w8,hw8⟩:∃ w8,w7.alloc (.cells #[.string (strOfNums E),.int .u64 0] 145)=w8:=⟨_,rfl⟩
     obtain ⟨gk,hgk⟩:∃ gk,w7.heap.size=gk:=⟨_,rfl⟩
     rw [hw8] at T8 K8;rw [hgk] at K8 LK LV L0 L1;have HW8:=Lv hw8;have HGK:=Lv hgk;clear g8 k8 hw8 hgk T7;go_upto_region 8 with fail;rw [HW8.o,HGK.o];clear HW8 HGK;have SU:=Lv (Hz xs s4);have BU:=Lv (Sa (xs:=xs) (s:=s4));go_wp2_with fail;refine (Ga T8.o.pen).mono ?_
     rintro e w9 ⟨rfl,hp,hg⟩;have T9:=Lv (T8.o.call hp hg);have hak:=T8.o.al;have k9:=K8.o.kept hg (by intro e;injection e with e;have:=LK.o;omega);have kf:=k9.fz;have kl:=k9.lt;have kc:=k9.c1;have K9:=Lv k9;clear hp hg T8 K8 hak k9;obtain ⟨P,hP⟩:∃ z,z=(ulS xs s4).1:=⟨_,rfl⟩
     obtain ⟨s5,hs5⟩:∃ z,z=(ulS xs s4).2:=⟨_,rfl⟩
     rw [← hP,← hs5] at SU;rw [← hP] at BU;rw [← hs5] at T9;rw [← hP];clear hP hs5;go_upto_region 9 with fail;have gz:=Qx (i:=1) (Qq w9 (some gk)) (.int .u64 P);have T10:=Lv (T9.o.mine gz LK.o (by have:=L0.o;omega) (by have:=L1.o;omega) (by intro e;have:=LV.o gk e;omega));have K10:=Lv (K9.o.place P);obtain ⟨wa,hwa⟩:∃ wa,w9.setCell ⟨gk,1,none⟩ (.int .u64 P)=wa:=⟨_,rfl⟩
     rw [hwa] at T10 K10
     (try rw [hwa])
     clear hwa gz kf kl kc T9 K9;have q0:=K10.o.c0;have q1:=K10.o.c1;have ql:=K10.o.lt;obtain ⟨m0,m1,m2,m3,m4,m5,m6,m7,m8⟩:=T10.o.nod.c;have ml:=T10.o.nod.lt;have LE:=Lv (show s5.1≤s5.1∧s4.1≤s5.1 from ⟨Nat.le_refl _,SU.o.le⟩);by_cases hE:E=[]
     · have he:(strOfNums E).toList.isEmpty=true:=by rw [hE,Lib.strOfNums_toList];rfl
       have HE:=Lv hE;clear hE;go_wp2_with fail;refine (Gz T10.o.pen).mono ?_
       rintro e wb ⟨rfl,hp,hg⟩;have T11:=Lv (T10.o.call hp hg);clear hp hg m0 m1 m2 m3 m4 m5 m6 m7 m8 ml q0 q1 ql;have SX:=Lv (show Sim Ko xs s (⟨none,l⟩:Nd) (s5.1,true) from Sim.B S0.o (Sim.B S1.o (Sim.B S2.o (Sim.B (CO2.o l (s5.1,true) (Sim.B ST.o (Sim.B SU.o (by rw [if_pos (.inl HE.o)];exact Sim.F _ (Nat.le_refl _) rfl)))) (Sim.R _ _)))));have TF:=Lv T11.o;obtain ⟨m0,m1,m2,m3,m4,m5,m6,m7,m8⟩:=T11.o.nod.c
       obtain ⟨d0,d1,d2,d3,d4,d5,d6,d7,d8⟩:=T11.o.res.c;have df:=T11.o.res.fz;have dl:=T11.o.res.lt;have ml:=T11.o.nod.lt;simp only [Option.isSome,nmOf,exOf] at m0 m1 m2 m3 m4 m5 m6 m7;go_wp2_with fail;refine bodyPost_ret (Ka rfl rfl (TF.o.res.put false ⟨#[]⟩ Ex.zero (.slice q l.length c))) rfl ?_
       have GP:=fun W:World=>Jx (Qq W (some g0)) (.bool false) (.string ⟨#[]⟩) (.int .i64 (Ex.zero:Ex).kind) (.bool (Ex.zero:Ex).weak) (.int .u64 (Ex.zero:Ex).value) (.int .u64 (Ex.zero:Ex).resolver) (.int .u64 (Ex.zero:Ex).ordinal) (.string (strOfNums (Ex.zero:Ex).other)) (.slice q l.length c);exact ⟨⟨⟨none,l⟩,(.slice q l.length c),_,rfl,Pen.kept TF.o.pen (GP _) (.inr (Nat.le_trans TF.o.up TF.o.new0)),SX.o,TF.o.own.kept (GP _) (.inr (Zb TF.o.own TF.o.res (by decide)))⟩,Zk TF.o.grown (GP _) TF.o.new0⟩
     · have he:(strOfNums E).toList.isEmpty=false:=by
        rw [Lib.strOfNums_toList];cases E with
        | nil=>exact absurd rfl hE
        | cons=>rfl
       have HE:=Lv hE;have hln:l.length≤9223372036854775807:=by have:=HL.o;omega
       have MA:=Lv (meetsAny_any (w:=wa) l l.length rfl hln q c (Xp.of T10.o.own) E P HE.o BE.o T10.o.each);clear hE hln;go_wp2_with fail;refine MA.o.mono ?_
       rintro e wb ⟨rfl,hg⟩;have T11:=Lv (T10.o.same hg);have K11:=Lv (K10.o.grown hg);clear hg m0 m1 m2 m3 m4 m5 m6 m7 m8 ml q0 q1 ql MA T10 K10;obtain ⟨bm,hbm⟩:∃ bm,bm=meets E l:=⟨_,rfl⟩
       rw [← hbm];have HM:=Lv hbm;clear hbm;cases bm with
       | true =>
        go_wp2_with fail;refine (Gz T11.o.pen).mono ?_
        rintro e wc ⟨rfl,hp,hg⟩;have T12:=Lv (T11.o.call hp hg);clear hp hg;have SX:=Lv (show Sim Ko xs s (⟨none,l⟩:Nd) (s5.1,true) from Sim.B S0.o (Sim.B S1.o (Sim.B S2.o (Sim.B (CO2.o l (s5.1,true) (Sim.B ST.o (Sim.B SU.o (by rw [if_pos (.inr HM.o.symm)];exact Sim.F _ (Nat.le_refl _) rfl)))) (Sim.R _ _)))));have TF:=Lv T12.o;obtain ⟨m0,m1,m2,m3,m4,m5,m6,m7,m8⟩:=T12.o.nod.c
        obtain ⟨d0,d1,d2,d3,d4,d5,d6,d7,d8⟩:=T12.o.res.c;have df:=T12.o.res.fz;have dl:=T12.o.res.lt;have ml:=T12.o.nod.lt;simp only [Option.isSome,nmOf,exOf] at m0 m1 m2 m3 m4 m5 m6 m7;go_wp2_with fail;refine bodyPost_ret (Ka rfl rfl (TF.o.res.put false ⟨#[]⟩ Ex.zero (.slice q l.length c))) rfl ?_
        have GP:=fun W:World=>Jx (Qq W (some g0)) (.bool false) (.string ⟨#[]⟩) (.int .i64 (Ex.zero:Ex).kind) (.bool (Ex.zero:Ex).weak) (.int .u64 (Ex.zero:Ex).value) (.int .u64 (Ex.zero:Ex).resolver) (.int .u64 (Ex.zero:Ex).ordinal) (.string (strOfNums (Ex.zero:Ex).other)) (.slice q l.length c);exact ⟨⟨⟨none,l⟩,(.slice q l.length c),_,rfl,Pen.kept TF.o.pen (GP _) (.inr (Nat.le_trans TF.o.up TF.o.new0)),SX.o,TF.o.own.kept (GP _) (.inr (Zb TF.o.own TF.o.res (by decide)))⟩,Zk TF.o.grown (GP _) TF.o.new0⟩
       | false =>
        have q0:=K11.o.c0;have q1:=K11.o.c1;have ql:=K11.o.lt;have m8:=T11.o.nod.c.2.2.2.2.2.2.2.2;have ml:=T11.o.nod.lt;have gn:=grown1 wb (.cells #[.string (strOfNums E),.int .u64 P] 145);have T12:=Lv (T11.o.same gn);have N12:=Lv (heap_alloc_new wb (.cells #[.string (strOfNums E),.int .u64 P] 145));have SZ:=Lv (show w.heap.size≤wb.heap.size from T11.o.grown.size);go_wp2_with (at_builtin;refine Zv kidType rfl _ _ rfl _ l.length _ rfl T12.o.own [.string (strOfNums E),.int .u64 P] rfl wb.heap.size rfl N12.o (kidCs_one (E,P)) (by have:=HL.o;omega) (by decide) ?_ ?_)
        ·have:=SZ.o;(try rw [World.size_alloc]);omega
        intro v' wd ho hg3;obtain ⟨q',c',rfl⟩:=Qp ho;have nd3:Qn wd gx _ _ _ _:=T12.o.nod.kept hg3 (Zb T12.o.own T12.o.nod (by decide));have c8:=nd3.c.2.2.2.2.2.2.2.2;have cf:=nd3.fz;have cl:=nd3.lt;have T13:=Lv (T12.o.more (E,P) ⟨HE.o,BE.o⟩ ho hg3);clear nd3 ho hg3 m8 ml q0 q1 ql gn;go_wp2;go_roundw
        case rel=>exact ⟨k + 1,l ++ [(E,P)],_,s5,hlt,by go_num,by rw [List.length_append,HL.o];rfl,T13.o,Lv (fun r s' h=>CO2.o r s' (Sim.B ST.o (Sim.B SU.o (by rw [if_neg (fun h=>h.elim HE.o (fun h=>by rw [← HM.o] at h;cases h))];exact h))))⟩
        case measure=>simp [intOf];omega
    ·have hkM:k=M:=by omega
     have CO3:=Lv (show ∀ r s',Sim (Js 0 l) xs sk r s'→Sim (Js M []) xs s3 r s' by rw [show 0=M - k by omega];exact CO.o);have dk:decide ((k:Int) < (M:Int))=false:=by simp;omega
     clear CO hlt;have SX:=Lv (show Sim Ko xs s (⟨none,l⟩:Nd) sk from Sim.B S0.o (Sim.B S1.o (Sim.B S2.o (Sim.B (CO3.o l sk (Sim.R _ _)) (Sim.R _ _)))));have TF:=Lv T.o;obtain ⟨m0,m1,m2,m3,m4,m5,m6,m7,m8⟩:=T.o.nod.c;obtain ⟨d0,d1,d2,d3,d4,d5,d6,d7,d8⟩:=T.o.res.c;have df:=T.o.res.fz;have dl:=T.o.res.lt;have ml:=T.o.nod.lt;simp only [Option.isSome,nmOf,exOf] at m0 m1 m2 m3 m4 m5 m6 m7
     go_wp2_with fail;refine bodyPost_ret (Ka rfl rfl (TF.o.res.put false ⟨#[]⟩ Ex.zero (.slice q l.length c))) rfl ?_
     have GP:=fun W:World=>Jx (Qq W (some g0)) (.bool false) (.string ⟨#[]⟩) (.int .i64 (Ex.zero:Ex).kind) (.bool (Ex.zero:Ex).weak) (.int .u64 (Ex.zero:Ex).value) (.int .u64 (Ex.zero:Ex).resolver) (.int .u64 (Ex.zero:Ex).ordinal) (.string (strOfNums (Ex.zero:Ex).other)) (.slice q l.length c);exact ⟨⟨⟨none,l⟩,(.slice q l.length c),_,rfl,Pen.kept TF.o.pen (GP _) (.inr (Nat.le_trans TF.o.up TF.o.new0)),SX.o,TF.o.own.kept (GP _) (.inr (Zb TF.o.own TF.o.res (by decide)))⟩,Zk TF.o.grown (GP _) TF.o.new0⟩
end
end Go.Proofs.YtkmbkpoclhbmgaaGreat
