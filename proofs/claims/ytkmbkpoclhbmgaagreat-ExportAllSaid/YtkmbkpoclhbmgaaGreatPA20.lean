/- Parts of the proof, put together: RefSeg5, RefName5, Ref5E, RefSegE, RefSegA. No condition beyond those that each part names. -/
import Derived.Test.YtkmbkpoclhbmgaaGreatPA19
set_option maxRecDepth 20000
set_option maxHeartbeats 6400000
namespace Go.Proofs.YtkmbkpoclhbmgaaGreat
open Go.RowKit
variable {w w' W V:World}
theorem seg_facts {ys:List Int} (h:Z6 ys=0):¬ Ji ys∧Qd ys=25∧Xn ys≤(ys.length - 72) / 80∧Qc ys 60 4≤7∧Vo ys (Xn ys)=false∧Xn ys≤64:=by
 unfold Z6 at h
 split at h;cases h
 rename_i h1
 split at h;cases h
 rename_i h2
 split at h;cases h
 rename_i h3
 split at h;cases h
 rename_i h4
 split at h;cases h
 rename_i h5
 split at h;cases h
 rename_i h6;exact ⟨h1,Classical.byContradiction h2,by omega,by omega,by simpa using h5,by omega⟩
theorem Wb (ys:List Int) (a p m:Nat) (h:p + m≤80):Qc ((ys.drop a).take 80) p m=Qc ys (a + p) m:=by
 unfold Qc;rw [List.drop_take,List.drop_drop,List.take_take,Nat.min_eq_left (by omega)]
theorem Wg (ys:List Int) (a p:Nat) (h:p + 16≤80):Xl ((ys.drop a).take 80) p=Xl ys (a + p):=by
 unfold Xl;rw [List.drop_take,List.drop_drop,List.take_take,Nat.min_eq_left (by omega)]
theorem odd_each {b:List Int} {M k:Nat} (h:Vo b M=false) (hk:k < M):(Rf b (72 + 80 * k)).seg=Xl b 8:=by
 unfold Vo at h;rw [List.any_eq_false] at h
 have:=h _ (List.mem_map.2 ⟨k,List.mem_range.2 hk,rfl⟩)
 simpa using this
theorem refSegment_any (ys:List Int) {q:Option Addr} {c n:Nat} (h:Qk w q c ys) (hn:ys.length=n) (hc:n≤c) (hcm:c≤9223372036854775807) (hn47:n≤140737488355328) (hr:Q3 ys) (he:Z6 ys=0) :
  Calls Tryz.prog 145 #[.slice q n c] w fun e w'=>∃ q1 N c1 base,N=(Ky ys).secs.length∧e=.returned (.tuple #[segV (Ky ys) (.slice q1 N c1),.int .i64 0]) ∧
   w'.ownsRow base 118 6 (.slice q1 N c1) N ((Ky ys).secs.flatMap J6)∧w.heap.size≤base∧w.grownBy w' none:=by
 obtain ⟨hs,hcmd,hmany,hprot,hodd,h64⟩:=seg_facts he;have h72 : 72≤n:=by
  have h1:¬ ((ys.length:Int) < Xx (Qd ys)):=fun h=>hs (.inr h);rw [hcmd,show Xx 25=72 by decide] at h1;omega
 obtain ⟨b,o,hq,hcell⟩:=h.2 (by omega);have HC:=Lv hcell;have QE:=Lv hq;have CD:=Lv (fun (w1:World) (hg:w.grownBy w1 none)=>Y7 (w:=w1) ys (h.kept hg (by simp)) hn hc hcm hr hs);rw [hcmd] at CD;have AT:=Lv (fun (w1:World) (hg:w.grownBy w1 none) (p m:Nat) (hm : 0 < m∧m≤8) (hp:p + m≤n)=>Zu (w:=w1) ys (h.kept hg (by simp)) hn hc hcm hr p m hm hp);have FD:=Lv (fun (w1:World) (hg:w.grownBy w1 none) (p:Nat) (hp:p + 16≤n)=>Yb (w:=w1) ys (h.kept hg (by simp)) hn hc hcm hr p hp)
 have HB:=Lv h;have HR:=Lv hr;have HN:=Lv hn;have OD:=Lv hodd;obtain ⟨⟨nm,ad,sz,of,fs,pr,sl⟩,hseg⟩:∃ s,s=Ky ys:=⟨_,rfl⟩
 have SE:=Lv hseg;have epr:Qc ys 60 4=pr:=(congrArg Seg.prot SE.o).symm;have hpb:=Jm hr 60;have hmb:=Jm hr 64;rw [epr] at hpb hprot;obtain ⟨M,hM⟩:∃ M,M=Xn ys:=⟨_,rfl⟩
 have hMi:Qc ys 64 4=M:=by rw [hM];unfold Xn;omega
 have ME:=Lv hM;rw [← hM,hn] at hmany;rw [← hM] at h64;have NM:=Lv (show Xl ys 8=nm from (congrArg Seg.name SE.o).symm);have F1:=Lv (fun w1 hg=>(by have:=FD.o w1 hg 8 (by omega);rw [NM.o] at this;exact this:Calls Tryz.prog 163 #[.slice q n c,.int .i64 8] w1 fun e w'=>e=.returned (.string (strOfNums nm))∧w1=w'));have A1:=Lv (fun w1 hg=>(by have:=AT.o w1 hg 24 8 ⟨by decide,by decide⟩ (by omega);rw [show Qc ys 24 8=ad from (congrArg Seg.addr SE.o).symm] at this;exact this:Calls Tryz.prog 144 #[.slice q n c,.int .i64 24,.int .i64 8] w1 fun e w'=>e=.returned (.int .u64 ad)∧w1=w'))
 have A2:=Lv (fun w1 hg=>(by have:=AT.o w1 hg 32 8 ⟨by decide,by decide⟩ (by omega);rw [show Qc ys 32 8=sz from (congrArg Seg.size SE.o).symm] at this;exact this:Calls Tryz.prog 144 #[.slice q n c,.int .i64 32,.int .i64 8] w1 fun e w'=>e=.returned (.int .u64 sz)∧w1=w'));have A3:=Lv (fun w1 hg=>(by have:=AT.o w1 hg 40 8 ⟨by decide,by decide⟩ (by omega);rw [show Qc ys 40 8=of from (congrArg Seg.off SE.o).symm] at this;exact this:Calls Tryz.prog 144 #[.slice q n c,.int .i64 40,.int .i64 8] w1 fun e w'=>e=.returned (.int .u64 of)∧w1=w'))
 have A4:=Lv (fun w1 hg=>(by have:=AT.o w1 hg 48 8 ⟨by decide,by decide⟩ (by omega);rw [show Qc ys 48 8=fs from (congrArg Seg.fsize SE.o).symm] at this;exact this:Calls Tryz.prog 144 #[.slice q n c,.int .i64 48,.int .i64 8] w1 fun e w'=>e=.returned (.int .u64 fs)∧w1=w'));have A5:=Lv (fun w1 hg=>(by have:=AT.o w1 hg 60 4 ⟨by decide,by decide⟩ (by omega);rw [epr] at this;exact this:Calls Tryz.prog 144 #[.slice q n c,.int .i64 60,.int .i64 4] w1 fun e w'=>e=.returned (.int .u64 pr)∧w1=w'))
 have A6:=Lv (fun w1 hg=>(by have:=AT.o w1 hg 64 4 ⟨by decide,by decide⟩ (by omega);rw [hMi] at this;exact this:Calls Tryz.prog 144 #[.slice q n c,.int .i64 64,.int .i64 4] w1 fun e w'=>e=.returned (.int .u64 M)∧w1=w'));have g0:=grown1 w (.cells #[.string ⟨#[]⟩,.int .u64 0,.int .u64 0,.int .u64 0,.int .u64 0,.int .i64 0,.slice none 0 0] 121);have G:=Lv g0;have Z0:=Lv (show Zn (w.alloc (.cells #[.string ⟨#[]⟩,.int .u64 0,.int .u64 0,.int .u64 0,.int .u64 0,.int .i64 0,.slice none 0 0] 121)) w.heap.size Seg.zero (.slice none 0 0) from heap_alloc_new w _)
 have hprw:IntKind.i64.wrap pr=pr:=IntWalk.i64_in _ (by omega);have m1:((n:Int) - 72) % 18446744073709551616=(n:Int) - 72:=by omega
 have m2:IntKind.u64.wrap ((n:Int) - 72)=(n:Int) - 72:=by rw [IntKind.wrap_u64];exact m1
 obtain ⟨R,hR⟩:∃ R,R=(n - 72) / 80:=⟨_,rfl⟩
 have m3:((n:Int) - 72) / 80=(R:Int):=by omega
 have m4:((n:Int) - 72).tdiv 80=(R:Int):=by rw [Int.tdiv_eq_ediv_of_nonneg (by omega)];omega
 have d1:decide (R < M)=false:=by simp;omega
 have d2:decide (7 < pr)=false:=by simp;omega
 have d3:decide (64 < M)=false:=by simp;omega
 have hRn : 72 + 80 * M≤n:=by omega
 have mw:IntKind.i64.wrap (M:Int)=(M:Int):=IntWalk.i64_in _ (by omega);clear h hr hn hcell hq hs hcmd hmany hodd he hseg hM hMi g0 hmb hR AT FD;go_enter Tryz.func145,Tryz.ntmps145;go_upto_region 7 with (first
  |(go_at_call 116;refine (CD.o _ G.o).mono ?_;rintro e w3 ⟨rfl,rfl⟩)
  |(go_at_call 163;refine (F1.o _ G.o).mono ?_;rintro e w3 ⟨rfl,rfl⟩)
  |(go_at_call 144;(first | with_reducible refine (A1.o _ G.o).mono ?_ | with_reducible refine (A2.o _ G.o).mono ?_ | with_reducible refine (A3.o _ G.o).mono ?_ | with_reducible refine (A4.o _ G.o).mono ?_ | with_reducible refine (A5.o _ G.o).mono ?_);rintro e w3 ⟨rfl,rfl⟩))
 have g7:=grown1 (w.alloc (.cells #[.string ⟨#[]⟩,.int .u64 0,.int .u64 0,.int .u64 0,.int .u64 0,.int .i64 0,.slice none 0 0] 121)) (.cells #[.string (strOfNums nm),.int .u64 ad,.int .u64 sz,.int .u64 of,.int .u64 fs,.int .i64 pr,.slice none 0 0] 121);have G2:=Lv (Qz G.o g7);have ZA:=Lv (Z0.o.kept g7 (by simp));have SA:=Lv (show Zn ((w.alloc (.cells #[.string ⟨#[]⟩,.int .u64 0,.int .u64 0,.int .u64 0,.int .u64 0,.int .i64 0,.slice none 0 0] 121)).alloc (.cells #[.string (strOfNums nm),.int .u64 ad,.int .u64 sz,.int .u64 of,.int .u64 fs,.int .i64 pr,.slice none 0 0] 121)) (w.heap.size + 1) ⟨nm,ad,sz,of,fs,pr,[]⟩ (.slice none 0 0) from by have:=heap_alloc_new (w.alloc (.cells #[.string ⟨#[]⟩,.int .u64 0,.int .u64 0,.int .u64 0,.int .u64 0,.int .i64 0,.slice none 0 0] 121)) (.cells #[.string (strOfNums nm),.int .u64 ad,.int .u64 sz,.int .u64 of,.int .u64 fs,.int .i64 pr,.slice none 0 0] 121);rw [World.size_alloc] at this;exact this)
 obtain ⟨wy,hwy⟩:∃ wy,(w.alloc (.cells #[.string ⟨#[]⟩,.int .u64 0,.int .u64 0,.int .u64 0,.int .u64 0,.int .i64 0,.slice none 0 0] 121)).alloc (.cells #[.string (strOfNums nm),.int .u64 ad,.int .u64 sz,.int .u64 of,.int .u64 fs,.int .i64 pr,.slice none 0 0] 121)=wy:=⟨_,rfl⟩
 have WS:=Lv (show wy.heap.size=w.heap.size + 2 by rw [← hwy,World.size_alloc,World.size_alloc]);rw [hwy] at G2 SA ZA ⊢;clear hwy g7 G Z0 F1 A1 A2 A3 A4 CD;go_upto_region 11 with (go_at_call 144;(first | with_reducible refine (A5.o _ G2.o).mono ?_ | with_reducible refine (A6.o _ G2.o).mono ?_);rintro e w3 ⟨rfl,rfl⟩)
 clear A5 A6;go_wp2;go_loopw [8,9,10,11] (fun bd i _ _ wr=>∃ (k:Nat) (q':Option Addr) (c':Nat),k≤M∧bd=.bool false∧i=.int .i64 k∧Zn wr (w.heap.size + 1) ⟨nm,ad,sz,of,fs,pr,[]⟩ (.slice q' k c')∧Zn wr w.heap.size Seg.zero (.slice none 0 0)∧wr.ownsRow (w.heap.size + 2) 118 6 (.slice q' k c') k ((Vd ys k).flatMap J6)∧w.grownBy wr none∧w.heap.size + 2≤wr.heap.size) (fun _ i _ _ _=>M - (intOf i).toNat)
 case atStart=>exact ⟨0,none,0,Nat.zero_le _,rfl,rfl,SA.o,ZA.o,World.ownsRow_nil _ _ _ _,G2.o,by rw [WS.o];exact Nat.le_refl _⟩
 case round =>
  obtain ⟨k,q',c',hk,rfl,rfl,hsa,hza,hown,hgr,hBs⟩:=hrel;have SA':=Lv hsa;have ZA':=Lv hza;have G:=Lv hgr;have OW:=Lv hown;clear hsa hza hgr hown SA ZA;have SA:=SA';have ZA:=ZA';clear SA' ZA';by_cases hlt:k < M
  ·obtain ⟨A,hA⟩:∃ A,A=72 + 80 * k:=⟨_,rfl⟩
   obtain ⟨B,hB⟩:∃ B,B=80 * k:=⟨_,rfl⟩
   obtain ⟨D,hD⟩:∃ D,D=A + 80:=⟨_,rfl⟩
   have hAn:A + 80≤n:=by omega
   have a1:(80:Int) * (k:Int)=(B:Int):=by omega
   have a2:(72:Int) + (B:Int)=(A:Int):=by omega
   have a3:(152:Int) + (B:Int)=(D:Int):=by omega
   have a4:IntKind.i64.wrap (B:Int)=(B:Int):=IntWalk.i64_in _ (by omega);have a5:IntKind.i64.wrap (A:Int)=(A:Int):=IntWalk.i64_in _ (by omega);have a6:IntKind.i64.wrap (D:Int)=(D:Int):=IntWalk.i64_in _ (by omega);have i1:(D:Int)≤(c:Int):=by omega
   have i2:(A:Int)≤(D:Int):=by omega
   have i3:¬ c=A:=by omega
   have i4:D - A=80:=by omega
   have HA:=Lv hA;have HB:=Lv hB;have HD:=Lv hD;clear hA hB hD;have hq:=QE.o;subst hq;obtain ⟨⟨sn,ss,sa,sb,so,sk⟩,hX⟩:∃ s,s=Rf ys A:=⟨_,rfl⟩
   have XE:=Lv hX;have hsub:Qk w (some ⟨b,o + A,none⟩) (c - A) ((ys.drop A).take 80):=Qk.mk_at fun i hi=>by
     have hi':i < 80:=by rw [List.length_take] at hi;omega
     rw [Nat.add_assoc,HC.o (A + i) (by have:=HN.o;omega)];simp [List.getD,List.getElem?_drop,hi']
   have hsl:((ys.drop A).take 80).length=80:=by have:=HN.o;rw [List.length_take,List.length_drop];omega
   have hsr:Q3 ((ys.drop A).take 80):=fun x hx=>HR.o x (List.mem_of_mem_drop (List.mem_of_mem_take hx));have B1:=Lv (fun w1 (hg:w.grownBy w1 none)=>(by have:=Yb (w:=w1) _ (hsub.kept hg (by simp)) hsl (show 80≤c - A by omega) (by omega) hsr 0 (by decide);rw [Wg ys A 0 (by decide),Nat.add_zero,show Xl ys A=sn from (congrArg Sec.name XE.o).symm] at this;exact this:Calls Tryz.prog 163 #[.slice (some ⟨b,o + A,none⟩) 80 (c - A),.int .i64 0] w1 fun e w'=>e=.returned (.string (strOfNums sn))∧w1=w'))
   have B2:=Lv (fun w1 (hg:w.grownBy w1 none)=>(by have:=Yb (w:=w1) _ (hsub.kept hg (by simp)) hsl (show 80≤c - A by omega) (by omega) hsr 16 (by decide);rw [Wg ys A 16 (by decide),show Xl ys (A + 16)=ss from (congrArg Sec.seg XE.o).symm] at this;exact this:Calls Tryz.prog 163 #[.slice (some ⟨b,o + A,none⟩) 80 (c - A),.int .i64 16] w1 fun e w'=>e=.returned (.string (strOfNums ss))∧w1=w'))
   have B3:=Lv (fun w1 (hg:w.grownBy w1 none)=>(by have:=Zu (w:=w1) _ (hsub.kept hg (by simp)) hsl (show 80≤c - A by omega) (by omega) hsr 32 8 ⟨by decide,by decide⟩ (by decide);rw [Wb ys A 32 8 (by decide),show Qc ys (A + 32) 8=sa from (congrArg Sec.addr XE.o).symm] at this;exact this:Calls Tryz.prog 144 #[.slice (some ⟨b,o + A,none⟩) 80 (c - A),.int .i64 32,.int .i64 8] w1 fun e w'=>e=.returned (.int .u64 sa)∧w1=w'))
   have B4:=Lv (fun w1 (hg:w.grownBy w1 none)=>(by have:=Zu (w:=w1) _ (hsub.kept hg (by simp)) hsl (show 80≤c - A by omega) (by omega) hsr 40 8 ⟨by decide,by decide⟩ (by decide);rw [Wb ys A 40 8 (by decide),show Qc ys (A + 40) 8=sb from (congrArg Sec.size XE.o).symm] at this;exact this:Calls Tryz.prog 144 #[.slice (some ⟨b,o + A,none⟩) 80 (c - A),.int .i64 40,.int .i64 8] w1 fun e w'=>e=.returned (.int .u64 sb)∧w1=w'))
   have B5:=Lv (fun w1 (hg:w.grownBy w1 none)=>(by have:=Zu (w:=w1) _ (hsub.kept hg (by simp)) hsl (show 80≤c - A by omega) (by omega) hsr 48 4 ⟨by decide,by decide⟩ (by decide);rw [Wb ys A 48 4 (by decide),show Qc ys (A + 48) 4=so from (congrArg Sec.off XE.o).symm] at this;exact this:Calls Tryz.prog 144 #[.slice (some ⟨b,o + A,none⟩) 80 (c - A),.int .i64 48,.int .i64 4] w1 fun e w'=>e=.returned (.int .u64 so)∧w1=w'))
   have hAl:A + 64 < ys.length:=by have:=HN.o;omega
   have hsk:Qc ys (A + 64) 1=ys.getD (A + 64) 0:=by
     unfold Qc;have h1:(ys.drop (A + 64)).take 1=[ys[A + 64]]:=by rw [List.drop_eq_getElem_cons hAl];rfl
     rw [h1];simp [List.getD,hAl,leN]
   have hkb:w.cell? ⟨b,o + (A + 64),none⟩=some (.int .u8 sk):=by
     rw [HC.o (A + 64) hAl,← hsk,show Qc ys (A + 64) 1=sk from (congrArg Sec.kind XE.o).symm]
   have hsk8 : 0≤sk∧sk < 256:=by
     rw [show sk=Qc ys (A + 64) 1 from congrArg Sec.kind XE.o,hsk]
     have:=HR.o (ys.getD (A + 64) 0) (by rw [List.getD_eq_getElem?_getD,List.getElem?_eq_getElem hAl];exact List.getElem_mem hAl)
     exact this
   have skw:IntKind.i64.wrap sk=sk:=IntWalk.i64_in _ (by omega);have hk0:wr.cell? ⟨b,o + A + 64,none⟩=some (.int .u8 sk):=by rw [Nat.add_assoc];exact G.o.cell hkb (by simp)
   have GD:=Lv (show w.grownBy wr.drew none from Qj G.o 1);have hk1:wr.drew.cell? ⟨b,o + A + 64,none⟩=some (.int .u8 sk):=hk0
   have ga:=Qj (grown1 wr (.cells #[.string ⟨#[]⟩,.string ⟨#[]⟩,.int .u64 0,.int .u64 0,.int .u64 0,.int .i64 0] 118)) 1;have GA:=Lv (show w.grownBy (wr.alloc (.cells #[.string ⟨#[]⟩,.string ⟨#[]⟩,.int .u64 0,.int .u64 0,.int .u64 0,.int .i64 0] 118)).drew none from Qz G.o ga);have hk2:(wr.alloc (.cells #[.string ⟨#[]⟩,.string ⟨#[]⟩,.int .u64 0,.int .u64 0,.int .u64 0,.int .i64 0] 118)).drew.cell? ⟨b,o + A + 64,none⟩=some (.int .u8 sk):=Qv ga hk0
   have gx:=Qj (grown1 wr (.cells #[.string (strOfNums sn),.string (strOfNums ss),.int .u64 sa,.int .u64 sb,.int .u64 so,.int .i64 sk] 118)) 1;have hk3:(wr.alloc (.cells #[.string (strOfNums sn),.string (strOfNums ss),.int .u64 sa,.int .u64 sb,.int .u64 so,.int .i64 sk] 118)).drew.cell? ⟨b,o + A + 64,none⟩=some (.int .u8 sk):=Qv gx hk0
   clear ga gx;clear hsub hsl hsr hAl hsk hkb hsk8 hX;go_upto_region 15 with fail;clear hk0;go_region_held3 (fun X=>X.cell? ⟨b,o + A + 64,none⟩=some (.int .u8 sk))
     (first | exact hk1 | exact hk2 | exact hk3)
     (first
       |(go_at_call 163;(first | with_reducible refine (B1.o _ GD.o).mono ?_ | with_reducible refine (B1.o _ GA.o).mono ?_ | with_reducible refine (B2.o _ GD.o).mono ?_ | with_reducible refine (B2.o _ GA.o).mono ?_);rintro e w3 ⟨rfl,rfl⟩)
       |(go_at_call 144;(first | with_reducible refine (B3.o _ GD.o).mono ?_ | with_reducible refine (B3.o _ GA.o).mono ?_ | with_reducible refine (B4.o _ GD.o).mono ?_ | with_reducible refine (B4.o _ GA.o).mono ?_ | with_reducible refine (B5.o _ GD.o).mono ?_ | with_reducible refine (B5.o _ GA.o).mono ?_);rintro e w3 ⟨rfl,rfl⟩))
   all_goals
     clear hk1 hk2 hk3 B1 B2 B3 B4 B5 GD GA;have g3:wr.grownBy (wr.alloc (.cells #[.string (strOfNums sn),.string (strOfNums ss),.int .u64 sa,.int .u64 sb,.int .u64 so,.int .i64 sk] 118)).drew none:=Qj (grown1 wr (.cells #[.string (strOfNums sn),.string (strOfNums ss),.int .u64 sa,.int .u64 sb,.int .u64 so,.int .i64 sk] 118)) 1;have SX:=Lv (show Rv (wr.alloc (.cells #[.string (strOfNums sn),.string (strOfNums ss),.int .u64 sa,.int .u64 sb,.int .u64 so,.int .i64 sk] 118)).drew wr.heap.size ⟨sn,ss,sa,sb,so,sk⟩ from heap_alloc_new wr _)
     have SA':=Lv (SA.o.kept g3 (by simp));have ZA':=Lv (ZA.o.kept g3 (by simp));have G':=Lv (Qz G.o g3);have OW':=Lv (Qy OW.o g3);have hB2:w.heap.size + 2≤(wr.alloc (.cells #[.string (strOfNums sn),.string (strOfNums ss),.int .u64 sa,.int .u64 sb,.int .u64 so,.int .i64 sk] 118)).drew.heap.size:=by have:=g3.size;omega
     obtain ⟨w3,hw3⟩:∃ w3,(wr.alloc (.cells #[.string (strOfNums sn),.string (strOfNums ss),.int .u64 sa,.int .u64 sb,.int .u64 so,.int .i64 sk] 118)).drew=w3:=⟨_,rfl⟩
     obtain ⟨x,hx⟩:∃ x,wr.heap.size=x:=⟨_,rfl⟩
     rw [hw3] at SA' ZA' G' OW' SX hB2 ⊢;rw [hx] at SX;simp only [hx];clear hw3 hx g3 SA ZA G OW;have SA:=SA';have ZA:=ZA';have G:=G';have OW:=OW';clear SA' ZA' G' OW';have hsn:ss=nm:=by
       have h1:=odd_each OD.o (show k < Xn ys by rw [← ME.o];exact hlt);rw [← HA.o,← XE.o,NM.o] at h1;exact h1
     subst hsn;obtain ⟨c0,c1,c2,c3,c4,c5⟩:=SX.o.c;obtain ⟨s0,s1,s2,s3,s4,s5,s6⟩:=SA.o.c;simp only [] at c0 c1 c2 c3 c4 c5 s0 s1 s2 s3 s4 s5;have sf:=SA.o.fz 6;have sl':=SA.o.lt;go_wp2_with (at_builtin;refine Zv Ts rfl _ _ rfl _ k _ rfl (Qy OW.o (grown1 w3 (.cells #[.string (strOfNums sn),.string (strOfNums ss),.int .u64 sa,.int .u64 sb,.int .u64 so,.int .i64 sk] 118))) (J6 ⟨sn,ss,sa,sb,so,sk⟩) rfl w3.heap.size rfl (heap_alloc_new w3 _) (Wy _) (by omega) (by decide) ?_ ?_)
     · rw [World.size_alloc];omega
     intro v' w4 ho hg4;obtain ⟨q4,c4',rfl⟩:=Qp ho;have hlo:=fun (g':Nat) (e:(Value.slice q' k c').ownBlock=some g')=>(OW.o.lt g' e).1;have R4:=Lv (show w4.ownsRow (w.heap.size + 2) 118 6 (.slice q4 (k + 1) c4') (k + 1) ((Vd ys (k + 1)).flatMap J6) by
       rw [Bv,List.flatMap_append,← HA.o,← XE.o];exact ho)
     have g3:=grown1 w3 (.cells #[.string (strOfNums sn),.string (strOfNums ss),.int .u64 sa,.int .u64 sb,.int .u64 so,.int .i64 sk] 118);have SA':=Lv ((SA.o.kept g3 (by simp)).kept hg4 (fun e=>by have:=hlo _ e;omega));have ZA':=Lv ((ZA.o.kept g3 (by simp)).kept hg4 (fun e=>by have:=hlo _ e;omega));have G':=Lv (Jc (Qz G.o g3) hg4 hlo (by omega));have hB4:w.heap.size + 2≤w4.heap.size:=by have h1:=hg4.size;rw [World.size_alloc] at h1;omega
     clear g3 ho hg4 SX c0 c1 c2 c3 c4 c5 s0 s1 s2 s3 s4 s5 s6 sf sl' SA ZA G;have s6:=SA'.o.c.2.2.2.2.2.2;have sf:=SA'.o.fz 6;have sl':=SA'.o.lt;go_wp2;have gS:=Qx (i:=6) (Qq w4 (some (w.heap.size + 1))) (.slice q4 (k + 1) c4');have hno:some w.heap.size≠some (w.heap.size + 1):=by intro e;injection e with e;omega
     exact ⟨⟨k + 1,q4,c4',hlt,rfl,by go_num,SA'.o.secs _,ZA'.o.kept gS (fun e=>hno e.symm),R4.o.kept gS (.inr (fun e=>by have:=(R4.o.lt _ e).1;omega)),Qw G'.o gS (by omega),Nat.le_trans hB4 gS.size⟩,by simp [intOf];omega⟩
  ·have hkm:k=M:=by omega
   subst hkm;obtain ⟨s0,s1,s2,s3,s4,s5,s6⟩:=SA.o.c;obtain ⟨d0,d1',d2',d3',d4,d5,d6⟩:=ZA.o.c;have f0:=ZA.o.fz 0;have f1:=ZA.o.fz 1;have f2:=ZA.o.fz 2;have f3:=ZA.o.fz 3;have f4:=ZA.o.fz 4;have f5:=ZA.o.fz 5;have f6:=ZA.o.fz 6;have hl:=ZA.o.lt;have hl2:=SA.o.lt;simp only [] at s0 s1 s2 s3 s4 s5;go_wp2;have PA:=ZA.o.put ⟨nm,ad,sz,of,fs,pr,[]⟩ (.slice q' k c');have gP:=Yl (Qq wr (some w.heap.size)) (.string (strOfNums nm)) (.int .u64 ad) (.int .u64 sz) (.int .u64 of) (.int .u64 fs) (.int .i64 pr) (.slice q' k c')
   refine bodyPost_ret (Yu rfl rfl rfl PA) rfl ?_
   refine ⟨q',k,c',w.heap.size + 2,?_,?_,?_,by omega,Qw G.o gP (Nat.le_refl _)⟩
   · show k=(Vd ys (Xn ys)).length
     rw [← ME.o];unfold Vd;simp
   · rw [← SE.o];rfl
   · have:=OW.o.kept gP (.inr (fun e=>by have:=(OW.o.lt _ e).1;omega))
     show World.ownsRow _ _ _ _ _ _ ((Vd ys (Xn ys)).flatMap J6)
     rw [← ME.o];exact this
theorem name_facts {ys:List Int} (h:Xj ys=0):¬ Ji ys∧named (Qd ys)∧¬ ((ys.length:Int) < Qc ys 8 4)∧Vz ys=pre (ys.drop (Qc ys 8 4).toNat)∧pre (ys.drop (Qc ys 8 4).toNat)≠[] ∧
  (pre (ys.drop (Qc ys 8 4).toNat)).length < (ys.drop (Qc ys 8 4).toNat).length∧(pre (ys.drop (Qc ys 8 4).toNat)).length≤255:=by
 unfold Xj at h
 split at h;cases h
 rename_i h1
 split at h;cases h
 rename_i h2
 split at h;cases h
 rename_i h3;have h2':named (Qd ys):=Classical.byContradiction h2;unfold Vz at h3 ⊢
 split at h3;exact absurd rfl h3
 rename_i h4;rw [if_neg h4];unfold Pp at h3 ⊢
 split at h3
 ·rename_i h5
  rw [if_pos h5];exact ⟨h1,h2',h4,rfl,h3,h5.1,h5.2⟩
 ·exact absurd rfl h3
theorem refName_any (ys:List Int) {q:Option Addr} {c n:Nat} (h:Qk w q c ys) (hn:ys.length=n) (hc:n≤c) (hcm:c≤9223372036854775807) (hr:Q3 ys) (he:Xj ys=0) :
  Calls Tryz.prog 120 #[.slice q n c] w fun e w'=>e=.returned (.tuple #[.string (strOfNums (Vz ys)),.int .i64 0])∧w=w':=by
 obtain ⟨hs,hnm,hF,hT,hT0,hT1,hT2⟩:=name_facts he;have CD:=Lv (Y7 (w:=w) ys h hn hc hcm hr hs);have h24 : 24≤n:=by
  have h1:¬ ((ys.length:Int) < Xx (Qd ys)):=fun h=>hs (.inr h)
  have:Xx (Qd ys)=24:=by rcases hnm with h | h | h | h | h <;> rw [h] <;> decide
  omega
 have AT:=Lv (Zu (w:=w) ys h hn hc hcm hr 8 4 ⟨by decide,by decide⟩ (by omega));obtain ⟨b,o,rfl,hcell⟩:=h.2 (by omega);have hfb:=Jm hr 8;obtain ⟨F,hFe⟩:∃ F:Nat,Qc ys 8 4=F:=⟨(Qc ys 8 4).toNat,by omega⟩
 rw [hFe] at AT hF hT hT0 hT1 hT2 hfb;simp only [Int.toNat_natCast] at hT hT0 hT1 hT2;obtain ⟨L,hL⟩:∃ L,L=ys.drop F:=⟨_,rfl⟩
 rw [← hL] at hT hT0 hT1 hT2;have hLl:L.length=n - F:=by rw [hL,List.length_drop,hn]
 have hFn:F < n:=by omega
 have HC:=Lv (fun (k:Nat) (x:Int) (hk:L[k]?=some x)=>(show w.cell? ⟨b,o + F + k,none⟩=some (.int .u8 x) from by
  have hk16:k < n - F:=by
   rcases Nat.lt_or_ge k (n - F) with h1 | h1
   ·exact h1
   ·rw [List.getElem?_eq_none (by omega)] at hk;cases hk
  rw [Nat.add_assoc,hcell (F + k) (by omega)];rw [hL,List.getElem?_drop] at hk;simp [List.getD,hk]))
 have IB:=Lv (show Qk w (some ⟨b,o + F,none⟩) (c - F) L from Qk.mk_at fun i hi=>by
  rw [Nat.add_assoc,hcell (F + i) (by omega),hL];simp [List.getD,List.getElem?_drop])
 have HL:=Lv hLl;have i3:¬ c=F:=by omega
 have hpc:(F:Int)≤(n:Int):=by omega
 have hpc2:(n:Int)≤(c:Int):=by omega
 have m1:((n:Int) % 18446744073709551616)=n:=by omega
 have m2:IntKind.u64.wrap (n:Int)=n:=by rw [IntKind.wrap_u64];exact m1
 have d1:decide (n < F)=false:=by simp;omega
 have d2:decide ((n:Int) < (F:Int))=false:=by simp;omega
 obtain ⟨R,hR⟩:∃ R,R=n - F:=⟨_,rfl⟩
 have hRi:(n:Int) - (F:Int)=(R:Int):=by omega
 have hRn:n - F=R:=hR.symm;rw [hRn] at HL;have T0:=Lv hT0;have T1:=Lv (show (pre L).length < R by rw [hLl,hRn] at hT1;exact hT1);have T2:=Lv hT2;obtain ⟨T,hTT⟩:∃ T,T=Vz ys:=⟨_,rfl⟩
 rw [← hTT] at hT ⊢;have TE:=Lv hT;obtain ⟨cm,hcm'⟩:∃ z,z=Qd ys:=⟨_,rfl⟩
 rw [← hcm'] at CD hnm;have DP:=Lv (fun w:World=>Tr (w:=w) cm);have hb:(cm != 13)=false∨((cm != 13)=true∧(Xr cm == 0)=false):=by
  rcases hnm with h | h | h | h | h
  ·exact .inl (by rw [h];rfl)
  all_goals exact .inr ⟨by rw [h];rfl,by rw [h];rfl⟩
 obtain ⟨dk,hdk⟩:∃ dk,dk=Xr cm:=⟨_,rfl⟩
 rw [← hdk] at DP hb;have RR:=Lv (show (R:Int)≤9223372036854775807 by omega);clear h hr hcell hL hLl hs hnm hF hT hT0 hT1 hT2 he hTT hcm' hdk hFe hR hn;rcases hb with b1 | ⟨b1,b2⟩
 all_goals
  go_enter Tryz.func120,Tryz.ntmps120;go_wp2_with fail;refine CD.o.mono ?_
  rintro e w1 ⟨rfl,rfl⟩;go_wp2_with (first | (go_at_call 119;refine (DP.o _).mono ?_;rintro e w2 ⟨rfl,rfl⟩) | (go_at_call 144;refine AT.o.mono ?_;rintro e w3 ⟨rfl,rfl⟩))
  go_loopw [8] (fun i wr=>∃ k:Nat,k≤R∧i=.int .i64 k∧wr=w∧pre L=L.take k ++ pre (L.drop k)) (fun i _=>R - (intOf i).toNat)
  case atStart=>exact ⟨0,by omega,rfl,rfl,by simp⟩
  case round =>
   obtain ⟨k,hk,rfl,rfl,hi⟩:=hrel;have HI:=Lv hi;have hR63:=RR.o;have cv:=(IB.o.take (c':=c - F) k (fun h=>by cases h)).text (n:=k) (by rw [List.length_take,HL.o];omega);clear hi;by_cases hlt:k < R
   ·obtain ⟨x,hx⟩:∃ x,L[k]?=some x:=⟨_,List.getElem?_eq_getElem (by rw [HL.o];exact hlt)⟩
    have c0:=HC.o k x hx;have HX:=Lv hx;have dl:decide (k < R)=true:=by simpa using hlt
    clear hx;by_cases hx0:x=0
    ·subst hx0
     have PE:=Lv (Hj HI.o HX.o);have hlen:(pre L).length=k:=by rw [PE.o,List.length_take,HL.o];omega
     have hk0:k≠0:=fun e=>T0.o (List.eq_nil_of_length_eq_zero (hlen.trans e));have hk255:k≤255:=by rw [← hlen];exact T2.o
     have q1:((k:Int) == (R:Int))=false:=by simp;omega
     have q2:((k:Int) == 0)=false:=by simp;omega
     have q3:decide (255 < k)=false:=by simp;omega
     have hkc:(k:Int)≤((c - F:Nat):Int):=by omega
     rw [← PE.o,← TE.o] at cv;clear hlen;go_wp2;go_ret2
     exact ⟨rfl,rfl⟩
    ·have hx1:(x != 0)=true:=by simpa using hx0
     have PE:=Lv (Gs HI.o HX.o hx0);clear hx0 cv;go_wp2;refine ⟨⟨k + 1,by omega,by go_num,trivial,PE.o⟩,by simp [intOf];omega⟩
   ·exfalso
    have hkR:k=R:=by omega
    subst hkR;have h1:pre L=L:=by
     rw [HI.o,List.drop_of_length_le (by rw [HL.o];exact Nat.le_refl _),List.take_of_length_le (by rw [HL.o];exact Nat.le_refl _)];simp [pre]
    have:=T1.o
    rw [h1,HL.o] at this;omega
theorem Rh (ys:List Int) {q:Option Addr} {c n:Nat} (h:Qk w q c ys) (hn:ys.length=n) (hc:n≤c) (hcm:c≤9223372036854775807) (hr:Q3 ys) (hs:Ji ys) :
  Calls Tryz.prog 116 #[.slice q n c] w fun e w'=>∃ cm,e=.returned (.tuple #[.int .u32 cm,.int .i64 3])∧w=w':=by
 by_cases h8:n < 8
 ·have d1:decide ((n:Int) < 8)=true:=by simp;omega
  clear h hr hs h8;go_enter Tryz.func116,Tryz.ntmps116;go_wp2;go_ret2
  exact ⟨_,rfl,rfl⟩
 ·have hle:(n:Int) < Xx (Qd ys):=by
   rcases hs with h1 | h1
   ·omega
   ·rw [hn] at h1;exact h1
  have AT:=Lv (Zu (w:=w) ys h hn hc hcm hr 0 4 ⟨by decide,by decide⟩ (by omega));have hcb:=Jm hr 0;obtain ⟨cm,hcm'⟩:∃ z,z=Qd ys:=⟨_,rfl⟩
  have e1:Qc ys 0 4=cm:=hcm'.symm;rw [← hcm'] at hle;rw [e1] at AT hcb;have LS:=Lv (fun w:World=>Mi (w:=w) cm);obtain ⟨L,hL⟩:∃ L,L=Xx cm:=⟨_,rfl⟩
  rw [← hL] at hle LS;have d1:decide ((n:Int) < 8)=false:=by simp;omega
  have d2:decide ((n:Int) < L)=true:=by simpa using hle
  clear h hr hs hL hle hcm' e1 hn h8;go_enter Tryz.func116,Tryz.ntmps116;go_wp2_with fail;refine AT.o.mono ?_
  rintro e w1 ⟨rfl,rfl⟩;go_wp2_with fail;refine (LS.o _).mono ?_
  rintro e w2 ⟨rfl,rfl⟩;go_wp2;go_ret2
  exact ⟨_,rfl,rfl⟩
def Wu (ys:List Int):List Int:=if Xj ys=0 then Vz ys else []
theorem refName_all (ys:List Int) {q:Option Addr} {c n:Nat} (h:Qk w q c ys) (hn:ys.length=n) (hc:n≤c) (hcm:c≤9223372036854775807) (hr:Q3 ys) :
  Calls Tryz.prog 120 #[.slice q n c] w fun e w'=>e=.returned (.tuple #[.string (strOfNums (Wu ys)),.int .i64 (Xj ys)])∧w=w':=by
 by_cases he:Xj ys=0
 ·refine (refName_any ys h hn hc hcm hr he).mono ?_
  rintro e w' ⟨rfl,rfl⟩;rw [he];unfold Wu;rw [if_pos he];exact ⟨rfl,rfl⟩
 have hN:Wu ys=[]:=by unfold Wu;rw [if_neg he]
 rw [hN];by_cases hs:Ji ys
 ·have hE:Xj ys=3:=by unfold Xj;rw [if_pos hs]
  have CD:=Lv (Rh (w:=w) ys h hn hc hcm hr hs);rw [hE];clear h hr hs hN he hE hn;go_enter Tryz.func120,Tryz.ntmps120;go_wp2_with fail;refine CD.o.mono ?_
  rintro e w1 ⟨cm,rfl,rfl⟩;go_wp2;go_ret2
  exact ⟨rfl,rfl⟩
 have CD:=Lv (Y7 (w:=w) ys h hn hc hcm hr hs);by_cases hnm:named (Qd ys)
 rotate_left
 ·have hE:Xj ys=7:=by unfold Xj;rw [if_neg hs,if_pos hnm]
  obtain ⟨cm,hcm'⟩:∃ z,z=Qd ys:=⟨_,rfl⟩
  rw [← hcm'] at CD hnm;have DP:=Lv (fun w:World=>Tr (w:=w) cm);have b1:(cm != 13)=true:=by unfold named at hnm;simp only [not_or] at hnm;simpa using hnm.1
  have b2:Xr cm=0:=by
   unfold named at hnm;simp only [not_or] at hnm;obtain ⟨n1,n2,n3,n4,n5⟩:=hnm;unfold Xr;simp [n2,n3,n4,n5]
  rw [b2] at DP;rw [hE];clear h hr hs hN he hE hn hnm hcm' b2;go_enter Tryz.func120,Tryz.ntmps120;go_wp2_with fail;refine CD.o.mono ?_
  rintro e w1 ⟨rfl,rfl⟩;go_wp2_with (go_at_call 119;refine (DP.o _).mono ?_;rintro e w2 ⟨rfl,rfl⟩)
  go_ret2
  exact ⟨rfl,rfl⟩
 have hno:Vz ys=[]:=by
  unfold Xj at he;rw [if_neg hs,if_neg (by simpa using hnm)] at he;exact Classical.byContradiction fun h1=>he (if_neg h1)
 have hE:Xj ys=10:=by unfold Xj;rw [if_neg hs,if_neg (by simpa using hnm),if_pos hno]
 have h24 : 24≤n:=by
  have h1:¬ ((ys.length:Int) < Xx (Qd ys)):=fun h=>hs (.inr h)
  have:Xx (Qd ys)=24:=by rcases hnm with h | h | h | h | h <;> rw [h] <;> decide
  omega
 have AT:=Lv (Zu (w:=w) ys h hn hc hcm hr 8 4 ⟨by decide,by decide⟩ (by omega));obtain ⟨b,o,rfl,hcell⟩:=h.2 (by omega);have hfb:=Jm hr 8;obtain ⟨F,hFe⟩:∃ F:Nat,Qc ys 8 4=F:=⟨(Qc ys 8 4).toNat,by omega⟩
 obtain ⟨cm,hcm'⟩:∃ z,z=Qd ys:=⟨_,rfl⟩
 rw [← hcm'] at CD hnm;have DP:=Lv (fun w:World=>Tr (w:=w) cm);have hb:(cm != 13)=false∨((cm != 13)=true∧(Xr cm == 0)=false):=by
  rcases hnm with h | h | h | h | h
  ·exact .inl (by rw [h];rfl)
  all_goals exact .inr ⟨by rw [h];rfl,by rw [h];rfl⟩
 obtain ⟨dk,hdk⟩:∃ dk,dk=Xr cm:=⟨_,rfl⟩
 rw [← hdk] at DP hb;rw [hFe] at AT hfb;have m1:((n:Int) % 18446744073709551616)=n:=by omega
 have m2:IntKind.u64.wrap (n:Int)=n:=by rw [IntKind.wrap_u64];exact m1
 rw [hE];unfold Vz at hno;rw [hFe,hn] at hno;by_cases hF:(n:Int) < (F:Int)
 ·have d1:decide (n < F)=true:=by simp;omega
  have d2:decide ((n:Int) < (F:Int))=true:=by simp;omega
  clear h hr hcell hs hno hE he hN hFe hn hnm hcm' hdk hF;rcases hb with b1 | ⟨b1,b2⟩
  all_goals
   go_enter Tryz.func120,Tryz.ntmps120;go_wp2_with fail;refine CD.o.mono ?_
   rintro e w1 ⟨rfl,rfl⟩;go_wp2_with (first | (go_at_call 119;refine (DP.o _).mono ?_;rintro e w2 ⟨rfl,rfl⟩) | (go_at_call 144;refine AT.o.mono ?_;rintro e w3 ⟨rfl,rfl⟩))
   go_ret2
   exact ⟨rfl,rfl⟩
 rw [if_neg hF] at hno;simp only [Int.toNat_natCast] at hno;obtain ⟨L,hL⟩:∃ L,L=ys.drop F:=⟨_,rfl⟩
 rw [← hL] at hno;have hLl:L.length=n - F:=by rw [hL,List.length_drop,hn]
 have HC:=Lv (fun (k:Nat) (x:Int) (hk:L[k]?=some x)=>(show w.cell? ⟨b,o + F + k,none⟩=some (.int .u8 x) from by
  have hk16:k < n - F:=by
   rcases Nat.lt_or_ge k (n - F) with h1 | h1
   ·exact h1
   ·rw [List.getElem?_eq_none (by omega)] at hk;cases hk
  rw [Nat.add_assoc,hcell (F + k) (by omega)];rw [hL,List.getElem?_drop] at hk;simp [List.getD,hk]))
 have HL:=Lv hLl;have hpc:(F:Int)≤(n:Int):=by omega
 have hpc2:(n:Int)≤(c:Int):=by omega
 have d1:decide (n < F)=false:=by simp;omega
 have d2:decide ((n:Int) < (F:Int))=false:=by simp;omega
 obtain ⟨R,hR⟩:∃ R,R=n - F:=⟨_,rfl⟩
 have hRi:(n:Int) - (F:Int)=(R:Int):=by omega
 have hRn:n - F=R:=hR.symm;rw [hRn] at HL;have hnot:¬ ((pre L).length < R∧(pre L).length≤255∧pre L≠[]):=fun ⟨h1,h2,h3⟩=>by
  unfold Pp at hno;rw [if_pos ⟨by rw [hLl,hRn];exact h1,h2⟩] at hno;exact h3 hno
 have NT:=Lv hnot;have RR:=Lv (show (R:Int)≤9223372036854775807 by omega)
 -- the text is empty, or has no end, or is too long
 by_cases hR0:R=0
 ·have hF2:F=n:=by omega
  have hw:c=n∨c≠n:=by omega
  clear h hr hcell hs hno hE he hN hFe hn hnm hcm' hdk hF hnot hL hLl hR HC HL NT hpc hRi hRn RR h24 hfb;subst hR0;subst hF2;rcases hw with hw | hw
  ·subst hw
   rcases hb with b1 | ⟨b1,b2⟩
   all_goals
    go_enter Tryz.func120,Tryz.ntmps120;go_wp2_with fail;refine CD.o.mono ?_
    rintro e w1 ⟨rfl,rfl⟩;go_wp2_with (first | (go_at_call 119;refine (DP.o _).mono ?_;rintro e w2 ⟨rfl,rfl⟩) | (go_at_call 144;refine AT.o.mono ?_;rintro e w3 ⟨rfl,rfl⟩))
    go_loopw [8] (fun i wr=>i=.int .i64 0∧wr=w) (fun i _=>0)
    case atStart=>exact ⟨rfl,rfl⟩
    case round =>
     obtain ⟨rfl,rfl⟩:=hrel;go_wp2;go_ret2
     exact ⟨rfl,rfl⟩
  ·rcases hb with b1 | ⟨b1,b2⟩
   all_goals
    go_enter Tryz.func120,Tryz.ntmps120;go_wp2_with fail;refine CD.o.mono ?_
    rintro e w1 ⟨rfl,rfl⟩;go_wp2_with (first | (go_at_call 119;refine (DP.o _).mono ?_;rintro e w2 ⟨rfl,rfl⟩) | (go_at_call 144;refine AT.o.mono ?_;rintro e w3 ⟨rfl,rfl⟩))
    go_loopw [8] (fun i wr=>i=.int .i64 0∧wr=w) (fun i _=>0)
    case atStart=>exact ⟨rfl,rfl⟩
    case round =>
     obtain ⟨rfl,rfl⟩:=hrel;go_wp2;go_ret2
     exact ⟨rfl,rfl⟩
 have i3:¬ c=F:=by omega
 clear h hr hcell hs hno hE he hN hFe hn hnm hcm' hdk hF hnot hL hLl hR;rcases hb with b1 | ⟨b1,b2⟩
 all_goals
  go_enter Tryz.func120,Tryz.ntmps120;go_wp2_with fail;refine CD.o.mono ?_
  rintro e w1 ⟨rfl,rfl⟩;go_wp2_with (first | (go_at_call 119;refine (DP.o _).mono ?_;rintro e w2 ⟨rfl,rfl⟩) | (go_at_call 144;refine AT.o.mono ?_;rintro e w3 ⟨rfl,rfl⟩))
  go_loopw [8] (fun i wr=>∃ k:Nat,k≤R∧i=.int .i64 k∧wr=w∧pre L=L.take k ++ pre (L.drop k)) (fun i _=>R - (intOf i).toNat)
  case atStart=>exact ⟨0,by omega,rfl,rfl,by simp⟩
  case round =>
   obtain ⟨k,hk,rfl,rfl,hi⟩:=hrel;have HI:=Lv hi;have hR63:=RR.o;clear hi;have fin:∀ (hT:pre L=L.take k),((k:Int) == (R:Int))=true∨(((k:Int) == (R:Int))=false∧((k:Int) == 0)=true)∨(((k:Int) == (R:Int))=false∧((k:Int) == 0)=false∧decide (255 < k)=true):=fun hT=>by
    have hlen:(pre L).length=k:=by rw [hT,List.length_take,HL.o];omega
    by_cases q1:k=R
    ·exact .inl (by simp;omega)
    by_cases q2:k=0
    ·exact .inr (.inl ⟨by simp;omega,by simp;omega⟩)
    refine .inr (.inr ⟨by simp;omega,by simp;omega,?_⟩)
    have:¬ k≤255:=fun q3=>NT.o ⟨by omega,by omega,fun e=>q2 (by rw [e] at hlen;exact hlen.symm)⟩
    simp;omega
   by_cases hlt:k < R
   ·obtain ⟨x,hx⟩:∃ x,L[k]?=some x:=⟨_,List.getElem?_eq_getElem (by rw [HL.o];exact hlt)⟩
    have c0:=HC.o k x hx;have HX:=Lv hx;have dl:decide (k < R)=true:=by simpa using hlt
    clear hx;by_cases hx0:x=0
    ·subst hx0
     have PE:=Hj HI.o HX.o;rcases fin PE with q1 | ⟨q1,q2⟩ | ⟨q1,q2,q3⟩
     ·exfalso;simp at q1;omega
     ·clear PE fin
      go_wp2;go_ret2
      exact ⟨rfl,rfl⟩
     ·have q3':(255 < k)=True:=by simpa using q3
      have q4:(255:Int) < (k:Int):=by simp at q3;omega
      have q5:decide ((255:Int) < (k:Int))=true:=by simp;omega
      clear PE fin;go_wp2;go_ret2
      exact ⟨rfl,rfl⟩
    ·have hx1:(x != 0)=true:=by simpa using hx0
     have PE:=Lv (Gs HI.o HX.o hx0);clear hx0 fin;go_wp2;refine ⟨⟨k + 1,by omega,by go_num,trivial,PE.o⟩,by simp [intOf];omega⟩
   ·have hkR:k=R:=by omega
    subst hkR;clear fin HI NT HC HL hk hlt RR;have dl:decide (k < k)=false:=by simp
    have q0:((k:Int) == (k:Int))=true:=by simp
    go_wp2;go_ret2
    exact ⟨rfl,rfl⟩
theorem zeroName:strOfNums Seg.zero.name=⟨#[]⟩:=rfl
theorem Zn.clear {g:Nat} {s:Seg} {sv:Value} (h:Zn w g s sv):Zn (((((((w.setCell ⟨g,0,none⟩ (.string ⟨#[]⟩)).setCell ⟨g,1,none⟩ (.int .u64 0)).setCell ⟨g,2,none⟩ (.int .u64 0)).setCell ⟨g,3,none⟩ (.int .u64 0)).setCell ⟨g,4,none⟩ (.int .u64 0)).setCell ⟨g,5,none⟩ (.int .i64 0)).setCell ⟨g,6,none⟩ (.slice none 0 0)) g Seg.zero (.slice none 0 0):=by
 have k:=h.put Seg.zero (.slice none 0 0);rw [zeroName] at k;exact k
def Ph (ys:List Int):Prop:=Z6 ys≠0∧Z6 ys=(if 7 < Qc ys 60 4 then 9 else if Vo ys (Xn ys)=true then 9 else if 64 < Xn ys then 11 else 0)
theorem refSegment_bad (ys:List Int) {q:Option Addr} {c n:Nat} (h:Qk w q c ys) (hn:ys.length=n) (hc:n≤c) (hcm:c≤9223372036854775807) (hn47:n≤140737488355328) (hr:Q3 ys) (hs:¬ Ji ys) (hcmd:Qd ys=25) (hmany:Xn ys≤(ys.length - 72) / 80) (hE:Ph ys) :
  Calls Tryz.prog 145 #[.slice q n c] w fun e w'=>e=.returned (.tuple #[segV Seg.zero (.slice none 0 0),.int .i64 (Z6 ys)])∧w.grownBy w' none:=by
 have h72 : 72≤n:=by
  have h1:¬ ((ys.length:Int) < Xx (Qd ys)):=fun h=>hs (.inr h);rw [hcmd,show Xx 25=72 by decide] at h1;omega
 obtain ⟨b,o,hq,hcell⟩:=h.2 (by omega);have HC:=Lv hcell;have QE:=Lv hq;have CD:=Lv (fun (w1:World) (hg:w.grownBy w1 none)=>Y7 (w:=w1) ys (h.kept hg (by simp)) hn hc hcm hr hs);rw [hcmd] at CD;have AT:=Lv (fun (w1:World) (hg:w.grownBy w1 none) (p m:Nat) (hm : 0 < m∧m≤8) (hp:p + m≤n)=>Zu (w:=w1) ys (h.kept hg (by simp)) hn hc hcm hr p m hm hp);have FD:=Lv (fun (w1:World) (hg:w.grownBy w1 none) (p:Nat) (hp:p + 16≤n)=>Yb (w:=w1) ys (h.kept hg (by simp)) hn hc hcm hr p hp)
 have HB:=Lv h;have HR:=Lv hr;have HN:=Lv hn;have EF:=Lv hE;obtain ⟨⟨nm,ad,sz,of,fs,pr,sl⟩,hseg⟩:∃ s,s=Ky ys:=⟨_,rfl⟩
 have SE:=Lv hseg;have epr:Qc ys 60 4=pr:=(congrArg Seg.prot SE.o).symm;have hpb:=Jm hr 60;have hmb:=Jm hr 64;rw [epr] at hpb;obtain ⟨M,hM⟩:∃ M,M=Xn ys:=⟨_,rfl⟩
 have hMi:Qc ys 64 4=M:=by rw [hM];unfold Xn;omega
 have ME:=Lv hM;rw [← hM,hn] at hmany;have NM:=Lv (show Xl ys 8=nm from (congrArg Seg.name SE.o).symm);have F1:=Lv (fun w1 hg=>(by have:=FD.o w1 hg 8 (by omega);rw [NM.o] at this;exact this:Calls Tryz.prog 163 #[.slice q n c,.int .i64 8] w1 fun e w'=>e=.returned (.string (strOfNums nm))∧w1=w'));have A1:=Lv (fun w1 hg=>(by have:=AT.o w1 hg 24 8 ⟨by decide,by decide⟩ (by omega);rw [show Qc ys 24 8=ad from (congrArg Seg.addr SE.o).symm] at this;exact this:Calls Tryz.prog 144 #[.slice q n c,.int .i64 24,.int .i64 8] w1 fun e w'=>e=.returned (.int .u64 ad)∧w1=w'))
 have A2:=Lv (fun w1 hg=>(by have:=AT.o w1 hg 32 8 ⟨by decide,by decide⟩ (by omega);rw [show Qc ys 32 8=sz from (congrArg Seg.size SE.o).symm] at this;exact this:Calls Tryz.prog 144 #[.slice q n c,.int .i64 32,.int .i64 8] w1 fun e w'=>e=.returned (.int .u64 sz)∧w1=w'));have A3:=Lv (fun w1 hg=>(by have:=AT.o w1 hg 40 8 ⟨by decide,by decide⟩ (by omega);rw [show Qc ys 40 8=of from (congrArg Seg.off SE.o).symm] at this;exact this:Calls Tryz.prog 144 #[.slice q n c,.int .i64 40,.int .i64 8] w1 fun e w'=>e=.returned (.int .u64 of)∧w1=w'))
 have A4:=Lv (fun w1 hg=>(by have:=AT.o w1 hg 48 8 ⟨by decide,by decide⟩ (by omega);rw [show Qc ys 48 8=fs from (congrArg Seg.fsize SE.o).symm] at this;exact this:Calls Tryz.prog 144 #[.slice q n c,.int .i64 48,.int .i64 8] w1 fun e w'=>e=.returned (.int .u64 fs)∧w1=w'));have A5:=Lv (fun w1 hg=>(by have:=AT.o w1 hg 60 4 ⟨by decide,by decide⟩ (by omega);rw [epr] at this;exact this:Calls Tryz.prog 144 #[.slice q n c,.int .i64 60,.int .i64 4] w1 fun e w'=>e=.returned (.int .u64 pr)∧w1=w'))
 have A6:=Lv (fun w1 hg=>(by have:=AT.o w1 hg 64 4 ⟨by decide,by decide⟩ (by omega);rw [hMi] at this;exact this:Calls Tryz.prog 144 #[.slice q n c,.int .i64 64,.int .i64 4] w1 fun e w'=>e=.returned (.int .u64 M)∧w1=w'));have g0:=grown1 w (.cells #[.string ⟨#[]⟩,.int .u64 0,.int .u64 0,.int .u64 0,.int .u64 0,.int .i64 0,.slice none 0 0] 121);have G:=Lv g0;have Z0:=Lv (show Zn (w.alloc (.cells #[.string ⟨#[]⟩,.int .u64 0,.int .u64 0,.int .u64 0,.int .u64 0,.int .i64 0,.slice none 0 0] 121)) w.heap.size Seg.zero (.slice none 0 0) from heap_alloc_new w _)
 have hprw:IntKind.i64.wrap pr=pr:=IntWalk.i64_in _ (by omega);have m1:((n:Int) - 72) % 18446744073709551616=(n:Int) - 72:=by omega
 have m2:IntKind.u64.wrap ((n:Int) - 72)=(n:Int) - 72:=by rw [IntKind.wrap_u64];exact m1
 obtain ⟨R,hR⟩:∃ R,R=(n - 72) / 80:=⟨_,rfl⟩
 have m3:((n:Int) - 72) / 80=(R:Int):=by omega
 have m4:((n:Int) - 72).tdiv 80=(R:Int):=by rw [Int.tdiv_eq_ediv_of_nonneg (by omega)];omega
 have d1:decide (R < M)=false:=by simp;omega
 obtain ⟨P,hP⟩:∃ P:Bool,P=decide (7 < pr):=⟨_,rfl⟩
 have d2:decide (7 < pr)=P:=hP.symm;have d2':decide ((7:Int) < pr)=P:=hP.symm;have PE7:=Lv (show P=decide (7 < Qc ys 60 4) by rw [epr];exact hP);obtain ⟨BB,hBB⟩:∃ BB:Nat→Bool,BB=fun k=>P || Vo ys k:=⟨_,rfl⟩
 have B0:=Lv (show BB 0=P by rw [hBB];simp [Vo,Vd]);have BN:=Lv (fun k (b:Bool) (h:b=(BB k || decide ((Rf ys (72 + 80 * k)).seg≠Xl ys 8)))=>(show BB (k + 1)=b from by rw [h,hBB];simp only [Vo];rw [Bv,List.any_append,Bool.or_assoc];simp));have BF:=Lv (show BB M=(P || Vo ys (Xn ys)) by rw [hBB,hM]);have hRn : 72 + 80 * M≤n:=by omega
 have mw:IntKind.i64.wrap (M:Int)=(M:Int):=IntWalk.i64_in _ (by omega);clear h hr hn hcell hq hs hcmd hmany hE hP hBB hseg hM hMi g0 hmb hR AT FD;go_enter Tryz.func145,Tryz.ntmps145;go_upto_region 7 with (first
  |(go_at_call 116;refine (CD.o _ G.o).mono ?_;rintro e w3 ⟨rfl,rfl⟩)
  |(go_at_call 163;refine (F1.o _ G.o).mono ?_;rintro e w3 ⟨rfl,rfl⟩)
  |(go_at_call 144;(first | with_reducible refine (A1.o _ G.o).mono ?_ | with_reducible refine (A2.o _ G.o).mono ?_ | with_reducible refine (A3.o _ G.o).mono ?_ | with_reducible refine (A4.o _ G.o).mono ?_ | with_reducible refine (A5.o _ G.o).mono ?_);rintro e w3 ⟨rfl,rfl⟩))
 have g7:=grown1 (w.alloc (.cells #[.string ⟨#[]⟩,.int .u64 0,.int .u64 0,.int .u64 0,.int .u64 0,.int .i64 0,.slice none 0 0] 121)) (.cells #[.string (strOfNums nm),.int .u64 ad,.int .u64 sz,.int .u64 of,.int .u64 fs,.int .i64 pr,.slice none 0 0] 121);have G2:=Lv (Qz G.o g7);have ZA:=Lv (Z0.o.kept g7 (by simp));have SA:=Lv (show Zn ((w.alloc (.cells #[.string ⟨#[]⟩,.int .u64 0,.int .u64 0,.int .u64 0,.int .u64 0,.int .i64 0,.slice none 0 0] 121)).alloc (.cells #[.string (strOfNums nm),.int .u64 ad,.int .u64 sz,.int .u64 of,.int .u64 fs,.int .i64 pr,.slice none 0 0] 121)) (w.heap.size + 1) ⟨nm,ad,sz,of,fs,pr,[]⟩ (.slice none 0 0) from by have:=heap_alloc_new (w.alloc (.cells #[.string ⟨#[]⟩,.int .u64 0,.int .u64 0,.int .u64 0,.int .u64 0,.int .i64 0,.slice none 0 0] 121)) (.cells #[.string (strOfNums nm),.int .u64 ad,.int .u64 sz,.int .u64 of,.int .u64 fs,.int .i64 pr,.slice none 0 0] 121);rw [World.size_alloc] at this;exact this)
 obtain ⟨wy,hwy⟩:∃ wy,(w.alloc (.cells #[.string ⟨#[]⟩,.int .u64 0,.int .u64 0,.int .u64 0,.int .u64 0,.int .i64 0,.slice none 0 0] 121)).alloc (.cells #[.string (strOfNums nm),.int .u64 ad,.int .u64 sz,.int .u64 of,.int .u64 fs,.int .i64 pr,.slice none 0 0] 121)=wy:=⟨_,rfl⟩
 have WS:=Lv (show wy.heap.size=w.heap.size + 2 by rw [← hwy,World.size_alloc,World.size_alloc]);rw [hwy] at G2 SA ZA ⊢;clear hwy g7 G Z0 F1 A1 A2 A3 A4 CD;go_upto_region 11 with (go_at_call 144;(first | with_reducible refine (A5.o _ G2.o).mono ?_ | with_reducible refine (A6.o _ G2.o).mono ?_);rintro e w3 ⟨rfl,rfl⟩)
 clear A5 A6;go_wp2;go_loopw [8,9,10,11] (fun bd i _ _ wr=>∃ (k:Nat) (q':Option Addr) (c':Nat),k≤M∧bd=.bool (BB k)∧i=.int .i64 k∧Zn wr (w.heap.size + 1) ⟨nm,ad,sz,of,fs,pr,[]⟩ (.slice q' k c')∧Zn wr w.heap.size Seg.zero (.slice none 0 0)∧wr.ownsRow (w.heap.size + 2) 118 6 (.slice q' k c') k ((Vd ys k).flatMap J6)∧w.grownBy wr none∧w.heap.size + 2≤wr.heap.size) (fun _ i _ _ _=>M - (intOf i).toNat)
 case atStart=>exact ⟨0,none,0,Nat.zero_le _,by rw [B0.o],rfl,SA.o,ZA.o,World.ownsRow_nil _ _ _ _,G2.o,by rw [WS.o];exact Nat.le_refl _⟩
 case round =>
  obtain ⟨k,q',c',hk,rfl,rfl,hsa,hza,hown,hgr,hBs⟩:=hrel;have SA':=Lv hsa;have ZA':=Lv hza;have G:=Lv hgr;have OW:=Lv hown;clear hsa hza hgr hown SA ZA;have SA:=SA';have ZA:=ZA';clear SA' ZA';obtain ⟨bk,hbk⟩:∃ b,b=BB k:=⟨_,rfl⟩
  rw [← hbk];have EB:=Lv hbk;clear hbk;by_cases hlt:k < M
  ·obtain ⟨A,hA⟩:∃ A,A=72 + 80 * k:=⟨_,rfl⟩
   obtain ⟨B,hB⟩:∃ B,B=80 * k:=⟨_,rfl⟩
   obtain ⟨D,hD⟩:∃ D,D=A + 80:=⟨_,rfl⟩
   have hAn:A + 80≤n:=by omega
   have a1:(80:Int) * (k:Int)=(B:Int):=by omega
   have a2:(72:Int) + (B:Int)=(A:Int):=by omega
   have a3:(152:Int) + (B:Int)=(D:Int):=by omega
   have a4:IntKind.i64.wrap (B:Int)=(B:Int):=IntWalk.i64_in _ (by omega);have a5:IntKind.i64.wrap (A:Int)=(A:Int):=IntWalk.i64_in _ (by omega);have a6:IntKind.i64.wrap (D:Int)=(D:Int):=IntWalk.i64_in _ (by omega);have i1:(D:Int)≤(c:Int):=by omega
   have i2:(A:Int)≤(D:Int):=by omega
   have i3:¬ c=A:=by omega
   have i4:D - A=80:=by omega
   have HA:=Lv hA;have HB:=Lv hB;have HD:=Lv hD;clear hA hB hD;have hq:=QE.o;subst hq;obtain ⟨⟨sn,ss,sa,sb,so,sk⟩,hX⟩:∃ s,s=Rf ys A:=⟨_,rfl⟩
   have XE:=Lv hX;have hsub:Qk w (some ⟨b,o + A,none⟩) (c - A) ((ys.drop A).take 80):=Qk.mk_at fun i hi=>by
     have hi':i < 80:=by rw [List.length_take] at hi;omega
     rw [Nat.add_assoc,HC.o (A + i) (by have:=HN.o;omega)];simp [List.getD,List.getElem?_drop,hi']
   have hsl:((ys.drop A).take 80).length=80:=by have:=HN.o;rw [List.length_take,List.length_drop];omega
   have hsr:Q3 ((ys.drop A).take 80):=fun x hx=>HR.o x (List.mem_of_mem_drop (List.mem_of_mem_take hx));have B1:=Lv (fun w1 (hg:w.grownBy w1 none)=>(by have:=Yb (w:=w1) _ (hsub.kept hg (by simp)) hsl (show 80≤c - A by omega) (by omega) hsr 0 (by decide);rw [Wg ys A 0 (by decide),Nat.add_zero,show Xl ys A=sn from (congrArg Sec.name XE.o).symm] at this;exact this:Calls Tryz.prog 163 #[.slice (some ⟨b,o + A,none⟩) 80 (c - A),.int .i64 0] w1 fun e w'=>e=.returned (.string (strOfNums sn))∧w1=w'))
   have B2:=Lv (fun w1 (hg:w.grownBy w1 none)=>(by have:=Yb (w:=w1) _ (hsub.kept hg (by simp)) hsl (show 80≤c - A by omega) (by omega) hsr 16 (by decide);rw [Wg ys A 16 (by decide),show Xl ys (A + 16)=ss from (congrArg Sec.seg XE.o).symm] at this;exact this:Calls Tryz.prog 163 #[.slice (some ⟨b,o + A,none⟩) 80 (c - A),.int .i64 16] w1 fun e w'=>e=.returned (.string (strOfNums ss))∧w1=w'))
   have B3:=Lv (fun w1 (hg:w.grownBy w1 none)=>(by have:=Zu (w:=w1) _ (hsub.kept hg (by simp)) hsl (show 80≤c - A by omega) (by omega) hsr 32 8 ⟨by decide,by decide⟩ (by decide);rw [Wb ys A 32 8 (by decide),show Qc ys (A + 32) 8=sa from (congrArg Sec.addr XE.o).symm] at this;exact this:Calls Tryz.prog 144 #[.slice (some ⟨b,o + A,none⟩) 80 (c - A),.int .i64 32,.int .i64 8] w1 fun e w'=>e=.returned (.int .u64 sa)∧w1=w'))
   have B4:=Lv (fun w1 (hg:w.grownBy w1 none)=>(by have:=Zu (w:=w1) _ (hsub.kept hg (by simp)) hsl (show 80≤c - A by omega) (by omega) hsr 40 8 ⟨by decide,by decide⟩ (by decide);rw [Wb ys A 40 8 (by decide),show Qc ys (A + 40) 8=sb from (congrArg Sec.size XE.o).symm] at this;exact this:Calls Tryz.prog 144 #[.slice (some ⟨b,o + A,none⟩) 80 (c - A),.int .i64 40,.int .i64 8] w1 fun e w'=>e=.returned (.int .u64 sb)∧w1=w'))
   have B5:=Lv (fun w1 (hg:w.grownBy w1 none)=>(by have:=Zu (w:=w1) _ (hsub.kept hg (by simp)) hsl (show 80≤c - A by omega) (by omega) hsr 48 4 ⟨by decide,by decide⟩ (by decide);rw [Wb ys A 48 4 (by decide),show Qc ys (A + 48) 4=so from (congrArg Sec.off XE.o).symm] at this;exact this:Calls Tryz.prog 144 #[.slice (some ⟨b,o + A,none⟩) 80 (c - A),.int .i64 48,.int .i64 4] w1 fun e w'=>e=.returned (.int .u64 so)∧w1=w'))
   have hAl:A + 64 < ys.length:=by have:=HN.o;omega
   have hsk:Qc ys (A + 64) 1=ys.getD (A + 64) 0:=by
     unfold Qc;have h1:(ys.drop (A + 64)).take 1=[ys[A + 64]]:=by rw [List.drop_eq_getElem_cons hAl];rfl
     rw [h1];simp [List.getD,hAl,leN]
   have hkb:w.cell? ⟨b,o + (A + 64),none⟩=some (.int .u8 sk):=by
     rw [HC.o (A + 64) hAl,← hsk,show Qc ys (A + 64) 1=sk from (congrArg Sec.kind XE.o).symm]
   have hsk8 : 0≤sk∧sk < 256:=by
     rw [show sk=Qc ys (A + 64) 1 from congrArg Sec.kind XE.o,hsk]
     have:=HR.o (ys.getD (A + 64) 0) (by rw [List.getD_eq_getElem?_getD,List.getElem?_eq_getElem hAl];exact List.getElem_mem hAl)
     exact this
   have skw:IntKind.i64.wrap sk=sk:=IntWalk.i64_in _ (by omega);have hk0:wr.cell? ⟨b,o + A + 64,none⟩=some (.int .u8 sk):=by rw [Nat.add_assoc];exact G.o.cell hkb (by simp)
   have GD:=Lv (show w.grownBy wr.drew none from Qj G.o 1);have hk1:wr.drew.cell? ⟨b,o + A + 64,none⟩=some (.int .u8 sk):=hk0
   have ga:=Qj (grown1 wr (.cells #[.string ⟨#[]⟩,.string ⟨#[]⟩,.int .u64 0,.int .u64 0,.int .u64 0,.int .i64 0] 118)) 1;have GA:=Lv (show w.grownBy (wr.alloc (.cells #[.string ⟨#[]⟩,.string ⟨#[]⟩,.int .u64 0,.int .u64 0,.int .u64 0,.int .i64 0] 118)).drew none from Qz G.o ga);have hk2:(wr.alloc (.cells #[.string ⟨#[]⟩,.string ⟨#[]⟩,.int .u64 0,.int .u64 0,.int .u64 0,.int .i64 0] 118)).drew.cell? ⟨b,o + A + 64,none⟩=some (.int .u8 sk):=Qv ga hk0
   have gx:=Qj (grown1 wr (.cells #[.string (strOfNums sn),.string (strOfNums ss),.int .u64 sa,.int .u64 sb,.int .u64 so,.int .i64 sk] 118)) 1;have hk3:(wr.alloc (.cells #[.string (strOfNums sn),.string (strOfNums ss),.int .u64 sa,.int .u64 sb,.int .u64 so,.int .i64 sk] 118)).drew.cell? ⟨b,o + A + 64,none⟩=some (.int .u8 sk):=Qv gx hk0
   clear ga gx;clear hsub hsl hsr hAl hsk hkb hsk8 hX;go_upto_region 15 with fail;clear hk0;go_region_held3 (fun X=>X.cell? ⟨b,o + A + 64,none⟩=some (.int .u8 sk))
     (first | exact hk1 | exact hk2 | exact hk3)
     (first
       |(go_at_call 163;(first | with_reducible refine (B1.o _ GD.o).mono ?_ | with_reducible refine (B1.o _ GA.o).mono ?_ | with_reducible refine (B2.o _ GD.o).mono ?_ | with_reducible refine (B2.o _ GA.o).mono ?_);rintro e w3 ⟨rfl,rfl⟩)
       |(go_at_call 144;(first | with_reducible refine (B3.o _ GD.o).mono ?_ | with_reducible refine (B3.o _ GA.o).mono ?_ | with_reducible refine (B4.o _ GD.o).mono ?_ | with_reducible refine (B4.o _ GA.o).mono ?_ | with_reducible refine (B5.o _ GD.o).mono ?_ | with_reducible refine (B5.o _ GA.o).mono ?_);rintro e w3 ⟨rfl,rfl⟩))
   all_goals
     clear hk1 hk2 hk3 B1 B2 B3 B4 B5 GD GA;have g3:wr.grownBy (wr.alloc (.cells #[.string (strOfNums sn),.string (strOfNums ss),.int .u64 sa,.int .u64 sb,.int .u64 so,.int .i64 sk] 118)).drew none:=Qj (grown1 wr (.cells #[.string (strOfNums sn),.string (strOfNums ss),.int .u64 sa,.int .u64 sb,.int .u64 so,.int .i64 sk] 118)) 1;have SX:=Lv (show Rv (wr.alloc (.cells #[.string (strOfNums sn),.string (strOfNums ss),.int .u64 sa,.int .u64 sb,.int .u64 so,.int .i64 sk] 118)).drew wr.heap.size ⟨sn,ss,sa,sb,so,sk⟩ from heap_alloc_new wr _)
     have SA':=Lv (SA.o.kept g3 (by simp));have ZA':=Lv (ZA.o.kept g3 (by simp));have G':=Lv (Qz G.o g3);have OW':=Lv (Qy OW.o g3);have hB2:w.heap.size + 2≤(wr.alloc (.cells #[.string (strOfNums sn),.string (strOfNums ss),.int .u64 sa,.int .u64 sb,.int .u64 so,.int .i64 sk] 118)).drew.heap.size:=by have:=g3.size;omega
     obtain ⟨w3,hw3⟩:∃ w3,(wr.alloc (.cells #[.string (strOfNums sn),.string (strOfNums ss),.int .u64 sa,.int .u64 sb,.int .u64 so,.int .i64 sk] 118)).drew=w3:=⟨_,rfl⟩
     obtain ⟨x,hx⟩:∃ x,wr.heap.size=x:=⟨_,rfl⟩
     rw [hw3] at SA' ZA' G' OW' SX hB2 ⊢;rw [hx] at SX;simp only [hx];clear hw3 hx g3 SA ZA G OW;have SA:=SA';have ZA:=ZA';have G:=G';have OW:=OW';clear SA' ZA' G' OW';have hss:ss=Xl ys (A + 16):=congrArg Sec.seg XE.o;have te:=text_eq (xs:=ss) (ys:=nm) (by rw [hss];exact small_field HR.o _) (by rw [← NM.o];exact small_field HR.o _);have hnx:=BN.o k (bk || decide (ss≠nm)) (by rw [← EB.o,← HA.o,← XE.o,NM.o])
     have hcase:∃ nb,BB (k + 1)=nb∧((bk=true∧nb=true)∨(bk=false∧ss=nm∧nb=false)∨(bk=false∧decide (ss=nm)=false∧nb=true)):=by
       refine ⟨_,hnx,?_⟩;cases bk
       ·by_cases h:ss=nm
        · exact .inr (.inl ⟨rfl,h,by simp [h]⟩)
        · exact .inr (.inr ⟨rfl,decide_eq_false h,by simp [h]⟩)
       ·exact .inl ⟨rfl,rfl⟩
     obtain ⟨nb,hnb,hcase⟩:=hcase;have NB:=Lv hnb;clear hnb hnx hss;obtain ⟨c0,c1,c2,c3,c4,c5⟩:=SX.o.c;obtain ⟨s0,s1,s2,s3,s4,s5,s6⟩:=SA.o.c;simp only [] at c0 c1 c2 c3 c4 c5 s0 s1 s2 s3 s4 s5;have sf:=SA.o.fz 6;have sl':=SA.o.lt;rcases hcase with hc | hc | hc
     · obtain ⟨rfl,rfl⟩:=hc;clear te
       go_wp2_with (at_builtin;refine Zv Ts rfl _ _ rfl _ k _ rfl (Qy OW.o (grown1 w3 (.cells #[.string (strOfNums sn),.string (strOfNums ss),.int .u64 sa,.int .u64 sb,.int .u64 so,.int .i64 sk] 118))) (J6 ⟨sn,ss,sa,sb,so,sk⟩) rfl w3.heap.size rfl (heap_alloc_new w3 _) (Wy _) (by omega) (by decide) ?_ ?_)
       ·rw [World.size_alloc];omega
       intro v' w4 ho hg4;obtain ⟨q4,c4',rfl⟩:=Qp ho;have hlo:=fun (g':Nat) (e:(Value.slice q' k c').ownBlock=some g')=>(OW.o.lt g' e).1;have R4:=Lv (show w4.ownsRow (w.heap.size + 2) 118 6 (.slice q4 (k + 1) c4') (k + 1) ((Vd ys (k + 1)).flatMap J6) by
        rw [Bv,List.flatMap_append,← HA.o,← XE.o];exact ho)
       have g3:=grown1 w3 (.cells #[.string (strOfNums sn),.string (strOfNums ss),.int .u64 sa,.int .u64 sb,.int .u64 so,.int .i64 sk] 118);have SA':=Lv ((SA.o.kept g3 (by simp)).kept hg4 (fun e=>by have:=hlo _ e;omega));have ZA':=Lv ((ZA.o.kept g3 (by simp)).kept hg4 (fun e=>by have:=hlo _ e;omega));have G':=Lv (Jc (Qz G.o g3) hg4 hlo (by omega));have hB4:w.heap.size + 2≤w4.heap.size:=by have h1:=hg4.size;rw [World.size_alloc] at h1;omega
       clear g3 ho hg4 SX c0 c1 c2 c3 c4 c5 s0 s1 s2 s3 s4 s5 s6 sf sl' SA ZA G;have s6:=SA'.o.c.2.2.2.2.2.2;have sf:=SA'.o.fz 6;have sl':=SA'.o.lt;go_wp2;have gS:=Qx (i:=6) (Qq w4 (some (w.heap.size + 1))) (.slice q4 (k + 1) c4');have hno:some w.heap.size≠some (w.heap.size + 1):=by intro e;injection e with e;omega
       exact ⟨⟨k + 1,q4,c4',hlt,by rw [NB.o],by go_num,SA'.o.secs _,ZA'.o.kept gS (fun e=>hno e.symm),R4.o.kept gS (.inr (fun e=>by have:=(R4.o.lt _ e).1;omega)),Qw G'.o gS (by omega),Nat.le_trans hB4 gS.size⟩,by simp [intOf];omega⟩
     · obtain ⟨rfl,rfl,rfl⟩:=hc;clear te
       go_wp2_with (at_builtin;refine Zv Ts rfl _ _ rfl _ k _ rfl (Qy OW.o (grown1 w3 (.cells #[.string (strOfNums sn),.string (strOfNums ss),.int .u64 sa,.int .u64 sb,.int .u64 so,.int .i64 sk] 118))) (J6 ⟨sn,ss,sa,sb,so,sk⟩) rfl w3.heap.size rfl (heap_alloc_new w3 _) (Wy _) (by omega) (by decide) ?_ ?_)
       ·rw [World.size_alloc];omega
       intro v' w4 ho hg4;obtain ⟨q4,c4',rfl⟩:=Qp ho;have hlo:=fun (g':Nat) (e:(Value.slice q' k c').ownBlock=some g')=>(OW.o.lt g' e).1;have R4:=Lv (show w4.ownsRow (w.heap.size + 2) 118 6 (.slice q4 (k + 1) c4') (k + 1) ((Vd ys (k + 1)).flatMap J6) by
        rw [Bv,List.flatMap_append,← HA.o,← XE.o];exact ho)
       have g3:=grown1 w3 (.cells #[.string (strOfNums sn),.string (strOfNums ss),.int .u64 sa,.int .u64 sb,.int .u64 so,.int .i64 sk] 118);have SA':=Lv ((SA.o.kept g3 (by simp)).kept hg4 (fun e=>by have:=hlo _ e;omega));have ZA':=Lv ((ZA.o.kept g3 (by simp)).kept hg4 (fun e=>by have:=hlo _ e;omega));have G':=Lv (Jc (Qz G.o g3) hg4 hlo (by omega));have hB4:w.heap.size + 2≤w4.heap.size:=by have h1:=hg4.size;rw [World.size_alloc] at h1;omega
       clear g3 ho hg4 SX c0 c1 c2 c3 c4 c5 s0 s1 s2 s3 s4 s5 s6 sf sl' SA ZA G;have s6:=SA'.o.c.2.2.2.2.2.2;have sf:=SA'.o.fz 6;have sl':=SA'.o.lt;go_wp2;have gS:=Qx (i:=6) (Qq w4 (some (w.heap.size + 1))) (.slice q4 (k + 1) c4');have hno:some w.heap.size≠some (w.heap.size + 1):=by intro e;injection e with e;omega
       exact ⟨⟨k + 1,q4,c4',hlt,by rw [NB.o],by go_num,SA'.o.secs _,ZA'.o.kept gS (fun e=>hno e.symm),R4.o.kept gS (.inr (fun e=>by have:=(R4.o.lt _ e).1;omega)),Qw G'.o gS (by omega),Nat.le_trans hB4 gS.size⟩,by simp [intOf];omega⟩
     · obtain ⟨rfl,hne,rfl⟩:=hc;rw [hne] at te
       go_wp2_with (at_builtin;refine Zv Ts rfl _ _ rfl _ k _ rfl (Qy OW.o (grown1 w3 (.cells #[.string (strOfNums sn),.string (strOfNums ss),.int .u64 sa,.int .u64 sb,.int .u64 so,.int .i64 sk] 118))) (J6 ⟨sn,ss,sa,sb,so,sk⟩) rfl w3.heap.size rfl (heap_alloc_new w3 _) (Wy _) (by omega) (by decide) ?_ ?_)
       ·rw [World.size_alloc];omega
       intro v' w4 ho hg4;obtain ⟨q4,c4',rfl⟩:=Qp ho;have hlo:=fun (g':Nat) (e:(Value.slice q' k c').ownBlock=some g')=>(OW.o.lt g' e).1;have R4:=Lv (show w4.ownsRow (w.heap.size + 2) 118 6 (.slice q4 (k + 1) c4') (k + 1) ((Vd ys (k + 1)).flatMap J6) by
        rw [Bv,List.flatMap_append,← HA.o,← XE.o];exact ho)
       have g3:=grown1 w3 (.cells #[.string (strOfNums sn),.string (strOfNums ss),.int .u64 sa,.int .u64 sb,.int .u64 so,.int .i64 sk] 118);have SA':=Lv ((SA.o.kept g3 (by simp)).kept hg4 (fun e=>by have:=hlo _ e;omega));have ZA':=Lv ((ZA.o.kept g3 (by simp)).kept hg4 (fun e=>by have:=hlo _ e;omega));have G':=Lv (Jc (Qz G.o g3) hg4 hlo (by omega));have hB4:w.heap.size + 2≤w4.heap.size:=by have h1:=hg4.size;rw [World.size_alloc] at h1;omega
       clear g3 ho hg4 SX c0 c1 c2 c3 c4 c5 s0 s1 s2 s3 s4 s5 s6 sf sl' SA ZA G;have s6:=SA'.o.c.2.2.2.2.2.2;have sf:=SA'.o.fz 6;have sl':=SA'.o.lt;go_wp2;have gS:=Qx (i:=6) (Qq w4 (some (w.heap.size + 1))) (.slice q4 (k + 1) c4');have hno:some w.heap.size≠some (w.heap.size + 1):=by intro e;injection e with e;omega
       exact ⟨⟨k + 1,q4,c4',hlt,by rw [NB.o],by go_num,SA'.o.secs _,ZA'.o.kept gS (fun e=>hno e.symm),R4.o.kept gS (.inr (fun e=>by have:=(R4.o.lt _ e).1;omega)),Qw G'.o gS (by omega),Nat.le_trans hB4 gS.size⟩,by simp [intOf];omega⟩
  ·have hkm:k=M:=by omega
   subst hkm;obtain ⟨d0,d1',d2'',d3',d4,d5,d6⟩:=ZA.o.c;have f0:=ZA.o.fz 0;have f1:=ZA.o.fz 1;have f2:=ZA.o.fz 2;have f3:=ZA.o.fz 3;have f4:=ZA.o.fz 4;have f5:=ZA.o.fz 5;have f6:=ZA.o.fz 6;have hl:=ZA.o.lt;have PA:=ZA.o.clear;have gP:=Yl (Qq wr (some w.heap.size)) (.string ⟨#[]⟩) (.int .u64 0) (.int .u64 0) (.int .u64 0) (.int .u64 0) (.int .i64 0) (.slice none 0 0)
   have GF:=Lv (Qw G.o gP (Nat.le_refl _));have PP:=Lv PA;have hfin:(bk=true∧Z6 ys=9)∨(bk=false∧decide (64 < k)=true∧Z6 ys=11):=by
     have hb:=EB.o;rw [BF.o,PE7.o] at hb;have hE:=EF.o;unfold Ph at hE;have hmk:Xn ys=k:=ME.o.symm;cases bk
     · have h1:¬ 7 < Qc ys 60 4:=fun h=>by simp [h] at hb
       have h2:Vo ys (Xn ys)=false:=by
        cases h:Vo ys (Xn ys)
        · rfl
        · simp [h] at hb
       rw [if_neg h1,if_neg (by rw [h2];simp)] at hE;have h64 : 64 < Xn ys:=Classical.byContradiction fun h=>hE.1 (by rw [hE.2,if_neg h]);exact .inr ⟨rfl,by rw [← hmk];simpa using h64,by rw [hE.2,if_pos h64]⟩
     · refine .inl ⟨rfl,?_⟩
       rw [hE.2];by_cases h1 : 7 < Qc ys 60 4
       ·rw [if_pos h1]
       ·rw [if_neg h1]
        have h2:Vo ys (Xn ys)=true:=by simpa [h1] using hb.symm
        rw [if_pos h2]
   clear gP PA ZA;rcases hfin with ⟨rfl,hE⟩ | ⟨rfl,d64,hE⟩
   · have HE:=Lv hE
     clear hE;go_wp2;refine bodyPost_ret (Yu (v:=.int .i64 9) rfl rfl rfl PP.o) rfl ?_
     exact ⟨by rw [HE.o],GF.o⟩
   · have HE:=Lv hE
     clear hE;have d64a:decide ((64:Int) < (k:Int))=true:=by simp at d64 ⊢;omega
     clear d2 d2' hRn m3 m4 m1 m2 epr hpb;go_wp2;refine bodyPost_ret (Yu (v:=.int .i64 11) rfl rfl rfl PP.o) rfl ?_
     exact ⟨by rw [HE.o],GF.o⟩
def segN (ys:List Int):Seg:=if Z6 ys=0 then Ky ys else Seg.zero
theorem refSegment_all (ys:List Int) {q:Option Addr} {c n:Nat} (h:Qk w q c ys) (hn:ys.length=n) (hc:n≤c) (hcm:c≤9223372036854775807) (hn47:n≤140737488355328) (hr:Q3 ys) :
  Calls Tryz.prog 145 #[.slice q n c] w fun e w'=>∃ q1 N c1 base,N=(segN ys).secs.length∧e=.returned (.tuple #[segV (segN ys) (.slice q1 N c1),.int .i64 (Z6 ys)]) ∧
   w'.ownsRow base 118 6 (.slice q1 N c1) N ((segN ys).secs.flatMap J6)∧w.heap.size≤base∧w.grownBy w' none:=by
 by_cases he:Z6 ys=0
 ·unfold segN
  rw [if_pos he,he];exact refSegment_any ys h hn hc hcm hn47 hr he
 have hN:segN ys=Seg.zero:=by unfold segN;rw [if_neg he]
 rw [hN];have fin:∀ (W:World) (er:Int),Z6 ys=er→w.grownBy W none→∃ q1 N c1 base,N=Seg.zero.secs.length∧Ending.returned (.tuple #[segV Seg.zero (.slice none 0 0),.int .i64 er])=Ending.returned (.tuple #[segV Seg.zero (.slice q1 N c1),.int .i64 (Z6 ys)]) ∧
   W.ownsRow base 118 6 (.slice q1 N c1) N (Seg.zero.secs.flatMap J6)∧w.heap.size≤base∧w.grownBy W none:=fun W er h1 hg=>⟨none,0,0,w.heap.size,rfl,by rw [h1],World.ownsRow_nil _ _ _ _,Nat.le_refl _,hg⟩
 have FIN:=Lv fin;clear fin;have g0:=grown1 w (.cells #[.string ⟨#[]⟩,.int .u64 0,.int .u64 0,.int .u64 0,.int .u64 0,.int .i64 0,.slice none 0 0] 121);have Z0:Zn (w.alloc (.cells #[.string ⟨#[]⟩,.int .u64 0,.int .u64 0,.int .u64 0,.int .u64 0,.int .i64 0,.slice none 0 0] 121)) w.heap.size Seg.zero (.slice none 0 0):=heap_alloc_new w _;have gP:=Yl (Qq (w.alloc (.cells #[.string ⟨#[]⟩,.int .u64 0,.int .u64 0,.int .u64 0,.int .u64 0,.int .i64 0,.slice none 0 0] 121)) (some w.heap.size)) (.string ⟨#[]⟩) (.int .u64 0) (.int .u64 0) (.int .u64 0) (.int .u64 0) (.int .i64 0) (.slice none 0 0)
 have GP:=Lv (Qw g0 gP (Nat.le_refl _));have PP:=Lv (Z0.clear);by_cases hs:Ji ys
 ·have hE:Z6 ys=3:=by unfold Z6;rw [if_pos hs]
  have CD:=Lv (Rh (w:=w.alloc (.cells #[.string ⟨#[]⟩,.int .u64 0,.int .u64 0,.int .u64 0,.int .u64 0,.int .i64 0,.slice none 0 0] 121)) ys (h.kept g0 (by simp)) hn hc hcm hr hs);have HE:=Lv hE;have ZZ:=Lv Z0;clear h hr hs he hN hE hn g0 gP Z0;go_enter Tryz.func145,Tryz.ntmps145;go_wp2_with fail;refine CD.o.mono ?_
  rintro e w1 ⟨cm,rfl,rfl⟩;obtain ⟨W0,hW0⟩:∃ W0,w.alloc (.cells #[.string ⟨#[]⟩,.int .u64 0,.int .u64 0,.int .u64 0,.int .u64 0,.int .i64 0,.slice none 0 0] 121)=W0:=⟨_,rfl⟩
  rw [hW0] at ZZ GP PP ⊢;clear hW0 CD;obtain ⟨d0,d1',d2'',d3',d4,d5,d6⟩:=ZZ.o.c;have f0:=ZZ.o.fz 0;have f1:=ZZ.o.fz 1;have f2:=ZZ.o.fz 2;have f3:=ZZ.o.fz 3;have f4:=ZZ.o.fz 4;have f5:=ZZ.o.fz 5;have f6:=ZZ.o.fz 6;have hl:=ZZ.o.lt;go_wp2;refine bodyPost_ret (Yu (v:=.int .i64 3) rfl rfl rfl PP.o) rfl ?_
  exact FIN.o _ _ HE.o GP.o
 by_cases hcmd:Qd ys=25
 rotate_left
 ·have hE:Z6 ys=7:=by unfold Z6;rw [if_neg hs,if_pos hcmd]
  have CD:=Lv (Y7 (w:=w.alloc (.cells #[.string ⟨#[]⟩,.int .u64 0,.int .u64 0,.int .u64 0,.int .u64 0,.int .i64 0,.slice none 0 0] 121)) ys (h.kept g0 (by simp)) hn hc hcm hr hs);obtain ⟨cm,hcm'⟩:∃ z,z=Qd ys:=⟨_,rfl⟩
  rw [← hcm'] at CD hcmd;have b1:(cm != 25)=true:=by simpa using hcmd
  have HE:=Lv hE;have ZZ:=Lv Z0;clear h hr hs he hN hE hn g0 gP Z0 hcmd hcm';go_enter Tryz.func145,Tryz.ntmps145;go_wp2_with fail;refine CD.o.mono ?_
  rintro e w1 ⟨rfl,rfl⟩;obtain ⟨W0,hW0⟩:∃ W0,w.alloc (.cells #[.string ⟨#[]⟩,.int .u64 0,.int .u64 0,.int .u64 0,.int .u64 0,.int .i64 0,.slice none 0 0] 121)=W0:=⟨_,rfl⟩
  rw [hW0] at ZZ GP PP ⊢;clear hW0 CD;obtain ⟨d0,d1',d2'',d3',d4,d5,d6⟩:=ZZ.o.c;have f0:=ZZ.o.fz 0;have f1:=ZZ.o.fz 1;have f2:=ZZ.o.fz 2;have f3:=ZZ.o.fz 3;have f4:=ZZ.o.fz 4;have f5:=ZZ.o.fz 5;have f6:=ZZ.o.fz 6;have hl:=ZZ.o.lt;go_wp2;refine bodyPost_ret (Yu (v:=.int .i64 7) rfl rfl rfl PP.o) rfl ?_
  exact FIN.o _ _ HE.o GP.o
 by_cases hmany:Xn ys≤(ys.length - 72) / 80
 ·have hE:Ph ys:=⟨he,by unfold Z6;rw [if_neg hs,if_neg (by rw [hcmd];simp),if_neg (by omega)]⟩
  refine (refSegment_bad ys h hn hc hcm hn47 hr hs hcmd hmany hE).mono ?_
  rintro e w' ⟨rfl,hg⟩;exact FIN.o _ _ rfl hg
 have hE:Z6 ys=3:=by unfold Z6;rw [if_neg hs,if_neg (by rw [hcmd];simp),if_pos (by omega)]
 have h72 : 72≤n:=by
  have h1:¬ ((ys.length:Int) < Xx (Qd ys)):=fun h=>hs (.inr h);rw [hcmd,show Xx 25=72 by decide] at h1;omega
 have HE:=Lv hE;have CD:=Lv (fun (w1:World) (hg:w.grownBy w1 none)=>Y7 (w:=w1) ys (h.kept hg (by simp)) hn hc hcm hr hs);rw [hcmd] at CD;have A1:=Lv (fun (w1:World) (hg:w.grownBy w1 none)=>(by have:=Zu (w:=w1) ys (h.kept hg (by simp)) hn hc hcm hr 24 8 ⟨by decide,by decide⟩ (by omega);exact this:Calls Tryz.prog 144 #[.slice q n c,.int .i64 24,.int .i64 8] w1 fun e w'=>e=.returned (.int .u64 (Qc ys 24 8))∧w1=w'))
 have A2:=Lv (fun (w1:World) (hg:w.grownBy w1 none)=>(by have:=Zu (w:=w1) ys (h.kept hg (by simp)) hn hc hcm hr 32 8 ⟨by decide,by decide⟩ (by omega);exact this:Calls Tryz.prog 144 #[.slice q n c,.int .i64 32,.int .i64 8] w1 fun e w'=>e=.returned (.int .u64 (Qc ys 32 8))∧w1=w'));have A3:=Lv (fun (w1:World) (hg:w.grownBy w1 none)=>(by have:=Zu (w:=w1) ys (h.kept hg (by simp)) hn hc hcm hr 40 8 ⟨by decide,by decide⟩ (by omega);exact this:Calls Tryz.prog 144 #[.slice q n c,.int .i64 40,.int .i64 8] w1 fun e w'=>e=.returned (.int .u64 (Qc ys 40 8))∧w1=w'))
 have A4:=Lv (fun (w1:World) (hg:w.grownBy w1 none)=>(by have:=Zu (w:=w1) ys (h.kept hg (by simp)) hn hc hcm hr 48 8 ⟨by decide,by decide⟩ (by omega);exact this:Calls Tryz.prog 144 #[.slice q n c,.int .i64 48,.int .i64 8] w1 fun e w'=>e=.returned (.int .u64 (Qc ys 48 8))∧w1=w'));have A5:=Lv (fun (w1:World) (hg:w.grownBy w1 none)=>(by have:=Zu (w:=w1) ys (h.kept hg (by simp)) hn hc hcm hr 60 4 ⟨by decide,by decide⟩ (by omega);exact this:Calls Tryz.prog 144 #[.slice q n c,.int .i64 60,.int .i64 4] w1 fun e w'=>e=.returned (.int .u64 (Qc ys 60 4))∧w1=w'))
 have A6:=Lv (fun (w1:World) (hg:w.grownBy w1 none)=>(by have:=Zu (w:=w1) ys (h.kept hg (by simp)) hn hc hcm hr 64 4 ⟨by decide,by decide⟩ (by omega);exact this:Calls Tryz.prog 144 #[.slice q n c,.int .i64 64,.int .i64 4] w1 fun e w'=>e=.returned (.int .u64 (Qc ys 64 4))∧w1=w'));have F1:=Lv (fun (w1:World) (hg:w.grownBy w1 none)=>(by have:=Yb (w:=w1) ys (h.kept hg (by simp)) hn hc hcm hr 8 (by omega);exact this:Calls Tryz.prog 163 #[.slice q n c,.int .i64 8] w1 fun e w'=>e=.returned (.string (strOfNums (Xl ys 8)))∧w1=w'))
 have hpb:=Jm hr 60;have hmb:=Jm hr 64;obtain ⟨pr,hpr⟩:∃ z,z=Qc ys 60 4:=⟨_,rfl⟩
 obtain ⟨M,hM⟩:∃ M:Nat,Qc ys 64 4=M:=⟨(Qc ys 64 4).toNat,by omega⟩
 have hMm:Xn ys=M:=by unfold Xn;omega
 rw [← hpr] at A5 hpb;rw [hM] at A6 hmb;rw [hMm,hn] at hmany;obtain ⟨ad,had⟩:∃ z,z=Qc ys 24 8:=⟨_,rfl⟩
 obtain ⟨sz,hsz⟩:∃ z,z=Qc ys 32 8:=⟨_,rfl⟩
 obtain ⟨of,hof⟩:∃ z,z=Qc ys 40 8:=⟨_,rfl⟩
 obtain ⟨fs,hfs⟩:∃ z,z=Qc ys 48 8:=⟨_,rfl⟩
 obtain ⟨nm,hnm⟩:∃ z,z=Xl ys 8:=⟨_,rfl⟩
 rw [← had] at A1;rw [← hsz] at A2;rw [← hof] at A3;rw [← hfs] at A4;rw [← hnm] at F1;have G:=Lv g0;have hprw:IntKind.i64.wrap pr=pr:=IntWalk.i64_in _ (by omega);have m1:((n:Int) - 72) % 18446744073709551616=(n:Int) - 72:=by omega
 have m2:IntKind.u64.wrap ((n:Int) - 72)=(n:Int) - 72:=by rw [IntKind.wrap_u64];exact m1
 obtain ⟨R,hR⟩:∃ R,R=(n - 72) / 80:=⟨_,rfl⟩
 have m3:((n:Int) - 72) / 80=(R:Int):=by omega
 have m4:((n:Int) - 72).tdiv 80=(R:Int):=by rw [Int.tdiv_eq_ediv_of_nonneg (by omega)];omega
 have d1:decide (R < M)=true:=by simp;omega
 have ZZ:=Lv Z0;clear h hr hn hs hcmd he hmany hM hMm hpr had hsz hof hfs hnm g0 hR hE hN gP Z0 GP PP hmb;go_enter Tryz.func145,Tryz.ntmps145;go_upto_region 7 with (first
  |(go_at_call 116;refine (CD.o _ G.o).mono ?_;rintro e w3 ⟨rfl,rfl⟩)
  |(go_at_call 163;refine (F1.o _ G.o).mono ?_;rintro e w3 ⟨rfl,rfl⟩)
  |(go_at_call 144;(first | with_reducible refine (A1.o _ G.o).mono ?_ | with_reducible refine (A2.o _ G.o).mono ?_ | with_reducible refine (A3.o _ G.o).mono ?_ | with_reducible refine (A4.o _ G.o).mono ?_ | with_reducible refine (A5.o _ G.o).mono ?_);rintro e w3 ⟨rfl,rfl⟩))
 have g7:=grown1 (w.alloc (.cells #[.string ⟨#[]⟩,.int .u64 0,.int .u64 0,.int .u64 0,.int .u64 0,.int .i64 0,.slice none 0 0] 121)) (.cells #[.string (strOfNums nm),.int .u64 ad,.int .u64 sz,.int .u64 of,.int .u64 fs,.int .i64 pr,.slice none 0 0] 121);have G2:=Lv (Qz G.o g7);have ZA:=Lv (ZZ.o.kept g7 (by simp));obtain ⟨wy,hwy⟩:∃ wy,(w.alloc (.cells #[.string ⟨#[]⟩,.int .u64 0,.int .u64 0,.int .u64 0,.int .u64 0,.int .i64 0,.slice none 0 0] 121)).alloc (.cells #[.string (strOfNums nm),.int .u64 ad,.int .u64 sz,.int .u64 of,.int .u64 fs,.int .i64 pr,.slice none 0 0] 121)=wy:=⟨_,rfl⟩
 rw [hwy] at G2 ZA ⊢;clear hwy g7 G F1 A1 A2 A3 A4 CD ZZ;obtain ⟨d0,d1',d2'',d3',d4,d5,d6⟩:=ZA.o.c;have f0:=ZA.o.fz 0;have f1:=ZA.o.fz 1;have f2:=ZA.o.fz 2;have f3:=ZA.o.fz 3;have f4:=ZA.o.fz 4;have f5:=ZA.o.fz 5;have f6:=ZA.o.fz 6;have hl:=ZA.o.lt;go_wp2_with (go_at_call 144;(first | with_reducible refine (A5.o _ G2.o).mono ?_ | with_reducible refine (A6.o _ G2.o).mono ?_);rintro e w3 ⟨rfl,rfl⟩)
 have PA:=ZA.o.clear;have gQ:=Yl (Qq wy (some w.heap.size)) (.string ⟨#[]⟩) (.int .u64 0) (.int .u64 0) (.int .u64 0) (.int .u64 0) (.int .i64 0) (.slice none 0 0);refine bodyPost_ret (Yu (v:=.int .i64 3) rfl rfl rfl PA) rfl ?_
 exact FIN.o _ _ HE.o (Qw G2.o gQ (Nat.le_refl _))
end Go.Proofs.YtkmbkpoclhbmgaaGreat
