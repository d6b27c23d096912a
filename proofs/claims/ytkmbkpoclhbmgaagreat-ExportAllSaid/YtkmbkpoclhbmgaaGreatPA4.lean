/- Parts of the proof, put together: TrU, Chg, TrY, TrZ, TrV, TrB, TrC, SortK, SortExp. No condition beyond those that each part names. -/
import Derived.Deep.Onto
import Derived.Laws.EntriesVeiled
import Derived.Shelf.SlSortCmp.WholeK
import Derived.Shelf.SlGeneric
import Derived.Ground.SlsfProg
import Derived.Test.YtkmbkpoclhbmgaaGreatPA3
set_option maxRecDepth 20000
set_option maxHeartbeats 6400000
namespace Go.Proofs.YtkmbkpoclhbmgaaGreat
open Go.RowKit
variable {w w' W V:World}
section
variable {w w' W:World} {xs:List Int}
structure NaOut (w w':World) (xs:List Int) (p:Int) (nm:ByteArray) (e:Ending):Prop where
 ex:(∃ nd v,ndAt xs p=some nd∧e=.returned (.tuple #[Kw nd.ex.isSome (nmOf nm nd.ex) (exOf nd.ex) v,.bool true])∧w'.ownsRow w.heap.size 145 2 v nd.kids.length (nd.kids.flatMap Hp)) ∨
  (ndAt xs p=none∧e=.returned (.tuple #[Kw false ⟨#[]⟩ Ex.zero (.slice none 0 0),.bool false]))
 grown:w.grownBy w' none
theorem Rq {p n:Nat} {nd:Nd} (hp:p < xs.length) (h:Ko (xs.drop p)=some (nd,n)):ndAt xs p=some nd:=by
 unfold ndAt;rw [if_pos ⟨by omega,by omega⟩,Int.toNat_natCast,h];rfl
theorem Jd {p:Nat} (h:Ko (xs.drop p)=none):ndAt xs p=none:=by
 unfold ndAt
 split
 ·rw [Int.toNat_natCast,h];rfl
 ·rfl
theorem nodeAt_any {b o c:Nat} (hx:∀ i,i < xs.length→w.cell? ⟨b,o + i,none⟩=some (.int .u8 (xs.getD i 0))) (hc:xs.length≤c) (hcm:c≤9223372036854775807) (hbig:xs.length≤140737488355328) (hr:Byt xs) (p:Int) (hp0 : 0≤p) (hp1:p < 18446744073709551616) (nm:ByteArray) :
  Calls Tryz.prog 72 #[.slice (some ⟨b,o,none⟩) xs.length c,.int .u64 p,.string nm] w fun e w'=>NaOut w w' xs p nm e:=by
 have g1:=grown1 w (.cells #[.bool false,.string ⟨#[]⟩,.int .i64 0,.bool false,.int .u64 0,.int .u64 0,.int .u64 0,.string ⟨#[]⟩,.slice none 0 0] 87);have r1:Qn (w.alloc (.cells #[.bool false,.string ⟨#[]⟩,.int .i64 0,.bool false,.int .u64 0,.int .u64 0,.int .u64 0,.string ⟨#[]⟩,.slice none 0 0] 87)) w.heap.size false ⟨#[]⟩ Ex.zero (.slice none 0 0):=heap_alloc_new w _;have HX:=Lv (fun i hi=>Qv g1 (hx i hi))
 obtain ⟨w1,hw1⟩:∃ w1,w.alloc (.cells #[.bool false,.string ⟨#[]⟩,.int .i64 0,.bool false,.int .u64 0,.int .u64 0,.int .u64 0,.string ⟨#[]⟩,.slice none 0 0] 87)=w1:=⟨_,rfl⟩
 obtain ⟨g0,hg0⟩:∃ g0,w.heap.size=g0:=⟨_,rfl⟩
 rw [hw1] at g1 r1 HX;rw [hg0] at r1;have HW1:=Lv hw1;have HG0:=Lv hg0;have HG0':=Lv hg0;have G1:=Lv g1;have R1:=Lv r1;clear g1 r1 hw1 hg0 hx;by_cases hp:p < xs.length
 ·obtain ⟨p,rfl⟩:=Int.eq_ofNat_of_zero_le hp0
  have hpn:p < xs.length:=by omega
  obtain ⟨V,hV,hB,hV2⟩:=H7 (p:=p) HX.o hc (by omega) .u64;obtain rfl:=hV2 hpn;have IB:=Lv hB;have RE:=Lv (show Byt (xs.drop p) from hr.drop p);have YES:=Lv (fun nd n (h:Ko (xs.drop p)=some (nd,n))=>Rq hpn h);have NO:=Lv (fun (h:Ko (xs.drop p)=none)=>Jd h);have hlen:(xs.drop p).length=xs.length - p:=by simp
  obtain ⟨R,hR⟩:∃ R,R=xs.drop p:=⟨_,rfl⟩
  rw [← hR] at IB RE YES NO hlen;obtain ⟨L,hL⟩:∃ L,L=xs.length - p:=⟨_,rfl⟩
  rw [← hL] at hlen hV;obtain ⟨C,hC⟩:∃ C,C=c - p:=⟨_,rfl⟩
  rw [← hC] at hV IB;have LL:=Lv hlen;have hLC:L≤C:=by omega
  have hL47:L≤140737488355328:=by omega
  have hC63:C≤9223372036854775807:=by omega
  obtain ⟨o',ho'⟩:∃ o',o'=o + p:=⟨_,rfl⟩
  rw [← ho'] at hV IB;have CH:=Lv (fun h (hh:h≤C)=>Rl (T:=29) (k:=1) (by kernel_rfl) (fun W=>by kernel_rfl) b o' L C h .i64 hh);have dp:decide ((xs.length:Int)≤(p:Int))=false:=by simp;omega
  have dpn:decide (xs.length≤p)=false:=by simp;omega
  clear hR hL hC ho' hB hlen hr hp hp0;have hxl:xs.length≤140737488355328:=hbig;go_enter Tryz.func72,Tryz.ntmps72;go_upto_region 1 with fail;rw [HW1.o,HG0.o];clear HW1 HG0;go_wp2_with fail;go_loopw [9] (fun i wr=>∃ z:Nat,i=.int .i64 z∧128≤z∧(z=128∨z < 2 * L)∧Qn wr g0 false ⟨#[]⟩ Ex.zero (.slice none 0 0)∧w1.grownBy wr none) (fun i _=>2 * L + 128 - (intOf i).toNat)
  case atStart=>exact ⟨128,rfl,Nat.le_refl _,.inl rfl,R1.o,Qq _ _⟩
  case round =>
   obtain ⟨z,rfl,hz,hz2,hN,hg⟩:=hrel;have GR:=Lv hg;have NR:=Lv hN;have IBr:=Lv ((IB.o.kept hg (by simp)));clear hg hN;obtain ⟨m,hm⟩:∃ m:Nat,min (z:Int) (L:Int)=(m:Int):=⟨min z L,by omega⟩
   have hmL:m≤L:=by omega
   have hmz:m=z∨m=L:=by omega
   have HM:=Lv hmz;have CZ:=CH.o m (by omega);have PN:=Lv (Pj (w:=wr) (IBr.o.take (c':=C) m (fun e=>by cases e)) (n:=m) (by rw [List.length_take,LL.o];omega) (by omega) (RE.o.take m) false);clear hmz;go_wp2_with fail;refine PN.o.mono ?_
   rintro e w2 ⟨gc,rfl,hpn2,hb2⟩;have P2:=Lv (show PenS w2 wr.heap.size w2.heap.size gc (R.take m) (0,false) false from hpn2);have G2:=Lv (Qz GR.o (Qt hb2 none));have N2:=Lv (NR.o.kept (Qt hb2 none) (by simp));have B2:=Lv (show wr.heap.size≤gc from hpn2.lw);clear hpn2 hb2 CZ PN NR;go_wp2_with fail;refine (taken_any P2.o nm (RE.o.take m)).mono ?_
   rintro e w3 ⟨⟨nd,v,s',rfl,hp3,hs3,ho3⟩,hg3⟩;obtain ⟨q,c2,rfl⟩:=Qp ho3;have G3:=Lv (Qw G2.o hg3 (Nat.le_trans GR.o.size B2.o));have hne:(some gc:Option Nat)≠some g0:=by intro e;injection e with e;have:=R1.o.lt;have:=GR.o.size;have:=B2.o;omega
   have N3:=Lv (N2.o.kept hg3 hne);have SZ3:=Lv (show w1.heap.size≤w2.heap.size from G2.o.size);have SM:=Lv hs3;have P3:=Lv hp3;have O3:=Lv ho3;clear hg3 hne hp3 hs3 ho3 N2 P2 G2;obtain ⟨bn,hbn⟩:∃ z,z=nd.ex.isSome:=⟨_,rfl⟩
   obtain ⟨nn,hnn⟩:∃ z,z=nmOf nm nd.ex:=⟨_,rfl⟩
   obtain ⟨xn,hxn⟩:∃ z,z=exOf nd.ex:=⟨_,rfl⟩
   obtain ⟨kn,hkn⟩:∃ z,z=nd.kids.length:=⟨_,rfl⟩
   have EQ:=Lv (And.intro hbn (And.intro hnn (And.intro hxn hkn)));rw [← hbn,← hnn,← hxn,← hkn];clear hbn hnn hxn hkn;unfold Kw;have g4:=grown1 w3 (.cells #[.bool bn,.string nn,.int .i64 xn.kind,.bool xn.weak,.int .u64 xn.value,.int .u64 xn.resolver,.int .u64 xn.ordinal,.string (strOfNums xn.other),.slice q kn c2] 87);have M4:=Lv (show Qn (w3.alloc (.cells #[.bool bn,.string nn,.int .i64 xn.kind,.bool xn.weak,.int .u64 xn.value,.int .u64 xn.resolver,.int .u64 xn.ordinal,.string (strOfNums xn.other),.slice q kn c2] 87)) w3.heap.size bn nn xn (.slice q kn c2) from heap_alloc_new w3 _)
   have P4:=Lv (Pen.same P3.o g4);have N4:=Lv (N3.o.kept g4 (by simp));have O4:=Lv (Qy O3.o g4);have G4:=Lv (Qz G3.o g4);have NE4:=Lv (show w3.heap.size≠g0 from fun e=>by have:=N3.o.lt;omega);obtain ⟨w4,hw4⟩:∃ w4,w3.alloc (.cells #[.bool bn,.string nn,.int .i64 xn.kind,.bool xn.weak,.int .u64 xn.value,.int .u64 xn.resolver,.int .u64 xn.ordinal,.string (strOfNums xn.other),.slice q kn c2] 87)=w4:=⟨_,rfl⟩
   obtain ⟨gn,hgn⟩:∃ gn,w3.heap.size=gn:=⟨_,rfl⟩
   rw [hw4] at M4 P4 N4 O4 G4;rw [hgn] at M4 NE4;have HW4:=Lv hw4;have HGN:=Lv hgn;clear g4 hw4 hgn N3 O3 G3 P3;go_upto_region 9 with fail;rw [HW4.o,HGN.o];clear HW4 HGN;obtain ⟨ps,bd⟩:=s';have PE:=Lv (pen_err P4.o);obtain ⟨d0,d1,d2,d3,d4,d5,d6,d7,d8⟩:=N4.o.c;obtain ⟨c0,c1,c2',c3,c4,c5,c6,c7,c8⟩:=M4.o.c;have df:=N4.o.fz;have dl:=N4.o.lt;have ml:=M4.o.lt;cases bd with
   | false =>
    have SY:=Lv (YES.o nd _ (by have:=(SM.o.ok rfl).2;rw [List.drop_zero] at this;exact (loc_front loc_node this).1));go_wp2_with fail;refine PE.o.mono ?_
    rintro e w5 ⟨rfl,rfl⟩;go_wp2;refine bodyPost_ret (Gq rfl rfl rfl (N4.o.put bn nn xn (.slice q kn c2))) rfl ?_
    have GP:=fun W:World=>Jx (Qq W (some g0)) (.bool bn) (.string nn) (.int .i64 xn.kind) (.bool xn.weak) (.int .u64 xn.value) (.int .u64 xn.resolver) (.int .u64 xn.ordinal) (.string (strOfNums xn.other)) (.slice q kn c2);have EO:=EQ.o;refine ⟨.inl ⟨nd,.slice q kn c2,SY.o,by rw [← EO.1,← EO.2.1,← EO.2.2.1];rfl,?_⟩,Qw (Qz G1.o G4.o) (GP _) (by have:=HG0'.o;omega)⟩
    have o5:=(O4.o.kept (GP _) (.inr (Zb O4.o N4.o (by decide))))
    rw [← EO.2.2.2] at o5 ⊢;exact o5.mono (by have:=SZ3.o;have:=G1.o.size;omega)
   | true =>
    by_cases hmL2:m=L
    ·have SN:=Lv (NO.o (by
      have:=SM.o.no rfl rfl
      rw [List.drop_zero,hmL2,List.take_of_length_le (by rw [LL.o];exact Nat.le_refl _)] at this;exact this))
     have dm:((m:Int) == (L:Int))=true:=by rw [hmL2];simp
     have dm2:(m == L)=true:=by rw [hmL2];simp
     clear hmL2;go_wp2_with fail;refine PE.o.mono ?_
     rintro e w5 ⟨rfl,rfl⟩;go_wp2;refine bodyPost_ret (Gq rfl rfl rfl (N4.o.put false ⟨#[]⟩ Ex.zero (.slice none 0 0))) rfl ?_
     have GP:=fun W:World=>Jx (Qq W (some g0)) (.bool false) (.string ⟨#[]⟩) (.int .i64 Ex.zero.kind) (.bool Ex.zero.weak) (.int .u64 Ex.zero.value) (.int .u64 Ex.zero.resolver) (.int .u64 Ex.zero.ordinal) (.string (strOfNums Ex.zero.other)) (.slice none 0 0);exact ⟨.inr ⟨SN.o,rfl⟩,Qw (Qz G1.o G4.o) (GP _) (by have:=HG0'.o;omega)⟩
    ·have dm:((m:Int) == (L:Int))=false:=by rw [beq_eq_false_iff_ne];omega
     have dm2:(m == L)=false:=by rw [beq_eq_false_iff_ne];omega
     have hmz:=HM.o;obtain rfl:m=z:=by omega
     go_wp2_with fail;refine PE.o.mono ?_
     rintro e w5 ⟨rfl,rfl⟩;go_wp2;go_roundw
     case rel=>exact ⟨2 * m,by go_num,by omega,.inr (by omega),N4.o,G4.o⟩
     case measure=>simp [intOf];omega
 ·have NX:=Lv (show ndAt xs p=none by unfold ndAt;rw [if_neg (by omega)])
  have dp:decide ((xs.length:Int)≤p)=true:=by simp;omega
  obtain ⟨d0,d1,d2,d3,d4,d5,d6,d7,d8⟩:=R1.o.c;have df:=R1.o.fz;have dl:=R1.o.lt;clear hp;go_enter Tryz.func72,Tryz.ntmps72;go_upto_region 1 with fail;rw [HW1.o,HG0.o];clear HW1 HG0;go_wp2;refine bodyPost_ret (Gq rfl rfl rfl (R1.o.put false ⟨#[]⟩ Ex.zero (.slice none 0 0))) rfl ?_
  have GP:=fun W:World=>Jx (Qq W (some g0)) (.bool false) (.string ⟨#[]⟩) (.int .i64 Ex.zero.kind) (.bool Ex.zero.weak) (.int .u64 Ex.zero.value) (.int .u64 Ex.zero.resolver) (.int .u64 Ex.zero.ordinal) (.string (strOfNums Ex.zero.other)) (.slice none 0 0);exact ⟨.inr ⟨NX.o,rfl⟩,Qw G1.o (GP _) (by have:=HG0'.o;omega)⟩
end
structure Chg (F:Nat→Prop) (w w':World):Prop where
 os:w'.os=w.os
 tape:w'.tape=w.tape
 output:w'.output=w.output
 size:w.heap.size≤w'.heap.size
 block:∀ k,k < w.heap.size→¬ F k→w'.heap[k]?=w.heap[k]?
def Foot (F:Nat→Prop) (w w':World) (k:Nat):Prop:=F k∨(w.heap.size≤k∧k < w'.heap.size)
theorem Chg.trans {F:Nat→Prop} {w1 w2 w3:World} (h:Chg F w1 w2) (k:Chg F w2 w3):Chg F w1 w3 :=
 ⟨k.os.trans h.os,k.tape.trans h.tape,k.output.trans h.output,Nat.le_trans h.size k.size,fun i hi hf=>(k.block i (Nat.lt_of_lt_of_le hi h.size) hf).trans (h.block i hi hf)⟩
theorem Chg.mono {F G:Nat→Prop} (h:Chg F w w') (hs:∀ k,F k→G k):Chg G w w':=⟨h.os,h.tape,h.output,h.size,fun k hk hg=>h.block k hk (fun e=>hg (hs k e))⟩
theorem Chg.of_grown {F:Nat→Prop} {r:Option Nat} (h:w.grownBy w' r) (hr:∀ b,r=some b→F b∨w.heap.size≤b):Chg F w w' :=
 ⟨h.os,h.tape,h.output,h.size,fun k hk hf=>h.block k hk (fun e=>(hr k e.symm).elim hf (fun h=>absurd hk (by omega)))⟩
section
variable {w w' W V:World} {xs:List Int}
theorem strOfNums_app (a b:List Int):strOfNums a ++ strOfNums b=strOfNums (a ++ b):=by
 apply ByteArray.ext
 apply Array.ext'
 rw [ByteArray.data_append,Array.toList_append,strOfNums_data,strOfNums_data,strOfNums_data,List.map_append]
theorem u64Type:Kx Tryz.prog 26 129 1 8:=.mk' Tryz.underlying129 (z:=.int .u64 0) (by kernel_rfl) rfl (by decide)
def u64Cs (x:Int):List Value:=[.int .u64 x]
theorem own_less {T:TypeId} {k n base c:Nat} {q:Option Addr} {ys zs:List Value} (h:w.ownsRow base T k (.slice q (n + 1) c) (n + 1) (ys ++ zs)) (hy:ys.length=n * k):w.ownsRow base T k (.slice q n c) n ys:=by
 obtain ⟨_,hn | ⟨g,cap,cur,hv,hb,hg,hle,hm,hs,ht⟩⟩:=h
 ·cases hn.2
 ·injection hv with e1 e2 e3
  subst e1 e3;refine ⟨hy,.inr ⟨g,c,cur,rfl,hb,hg,by omega,hm,hs,?_⟩⟩
  have:=congrArg (List.take (n * k)) ht
  rw [List.take_take,Nat.min_eq_left (Nat.mul_le_mul_right k (Nat.le_succ n)),← hy,List.take_left] at this;rw [← hy];exact this
def U64At (w:World) (q:Option Addr) (l:List Int):Prop:=∀ i x,l[i]?=some x→∃ g,q=some ⟨g,0,none⟩∧w.cell? ⟨g,i,none⟩=some (.int .u64 x)
theorem U64At.of {lo n c:Nat} {q:Option Addr} {l:List Int} (h:w.ownsRow lo 26 1 (.slice q n c) n (l.flatMap u64Cs)):U64At w q l:=fun i x hx=>by
 obtain ⟨g,e,h0⟩:=Jz (f:=u64Cs) (k:=1) (fun _=>rfl) h hx (j:=0) (by decide);refine ⟨g,e,?_⟩;rw [Nat.mul_one,Nat.add_zero] at h0;exact h0
theorem index64_any (l:List Int) (n:Nat) (hn:l.length=n) (hl:n≤9223372036854775807) (q:Option Addr) (c:Nat) (hr:U64At w q l) (p:Int) :
  Calls Tryz.prog 99 #[.slice q n c,.int .u64 p] w fun e w'=>(∃ z:Int,e=.returned (.int .i64 z)∧decide (0≤z)=decide (p∈l))∧w'=w:=by
 subst hn;have RR:=Lv hr;clear hr;go_enter Tryz.func99,Tryz.ntmps99;go_wp2;go_loop [8] (fun i=>∃ k:Nat,k≤l.length∧i=.int .i64 k∧∀ j y,j < k→l[j]?=some y→p≠y) (fun i=>l.length - (intOf i).toNat)
 case atStart=>exact ⟨0,Nat.zero_le _,rfl,fun i y h=>by omega⟩
 case round =>
  obtain ⟨k,hk,rfl,hno⟩:=hrel;have NO:=Lv hno;by_cases hlt:k < l.length
  ·obtain ⟨x,hx⟩:∃ x,l[k]?=some x:=⟨_,List.getElem?_eq_getElem hlt⟩
   obtain ⟨gq,rfl,c0⟩:=RR.o k x hx;have dl:decide ((k:Int) < (l.length:Int))=true:=by simp;omega
   have hkl:(k:Int) < (l.length:Int):=by omega
   have HX:=Lv hx;have HM:=Lv (List.mem_of_getElem? hx);clear hx hno;by_cases he:p=x
   ·have de:(p == x)=true:=by simpa using he
    have HE:=Lv (show p∈l by rw [he];exact HM.o);generalize l.length=N at *;clear he;go_wp2;go_ret
    exact ⟨⟨k,rfl,by first | exact iff_of_true (by omega) HE.o | (rw [decide_eq_true HE.o];simp)⟩,rfl⟩
   ·have de:(p == x)=false:=by simpa using he
    have HE:=Lv he;generalize l.length=N at *;clear he;go_wp2;go_round
    case rel =>
     refine ⟨k + 1,hlt,by go_num,fun i y hi hy=>?_⟩;rcases Nat.lt_or_ge i k with h | h
     ·exact NO.o i y h hy
     ·obtain rfl:i=k:=by omega
      rw [HX.o] at hy;injection hy with hy;rw [← hy];exact HE.o
    case measure=>simp [intOf];omega
  ·have NA:=Lv (show ¬ p∈l from fun h=>by
    obtain ⟨i,hi,e⟩:=List.getElem_of_mem h;exact hno i _ (by omega) (List.getElem?_eq_getElem hi) e.symm)
   have dl:decide ((k:Int) < (l.length:Int))=false:=by simp;omega
   clear hno;generalize l.length=N at *;go_wp2;go_ret
   exact ⟨⟨-1,rfl,by first | exact iff_of_false (by omega) NA.o | (rw [decide_eq_false NA.o];rfl)⟩,rfl⟩
theorem contains64_any (l:List Int) (n:Nat) (hn:l.length=n) (hl:n≤9223372036854775807) (q:Option Addr) (c:Nat) (hr:U64At w q l) (p:Int) :
  Calls Tryz.prog 71 #[.slice q n c,.int .u64 p] w fun e w'=>e=.returned (.bool (decide (p∈l)))∧w'=w:=by
 have I:=Lv (index64_any l n hn hl q c hr p);clear hr;go_enter Tryz.func71,Tryz.ntmps71;go_wp2_with fail;refine I.o.mono ?_
 rintro e w' ⟨⟨z,rfl,hz⟩,rfl⟩;have Z:=Lv hz;clear hz;go_wp2;go_ret
 exact ⟨Vu Z.o,rfl⟩
theorem Xv.chg {F:Nat→Prop} {g:Nat} {v:Value} {T:TypeId} (h:Xv W g v T) (hg:Chg F W V) (hf:¬ F g):Xv V g v T:=(hg.block g (lt_of_block h) hf).trans h
theorem Je {F:Nat→Prop} {b i:Nat} {v:Value} (h:W.cell? ⟨b,i,none⟩=some v) (hg:Chg F W V) (hf:¬ F b):V.cell? ⟨b,i,none⟩=some v:=by
 have:=hg.block b (World.block_lt_of_cell? W _ h) hf
 unfold World.cell? at h ⊢;simp only [this];exact h
theorem Xp.chg {F:Nat→Prop} {q:Option Addr} {l:List Kid} (h:Xp W q l) (hg:Chg F W V) (hf:∀ g o,q=some ⟨g,o,none⟩→¬ F g):Xp V q l:=fun i x hx=>by
 obtain ⟨g,o,e,c0,c1⟩:=h i x hx;exact ⟨g,o,e,Je c0 hg (hf g o e),Je c1 hg (hf g o e)⟩
structure MOut (S:Type) (mt:Mt S) (Inv:World→(Nat→Prop)→S→Prop) (s:S) (name:List Int) (nd:Nd) (v:Value) (G:Nat→Prop) (W W':World) (e:Ending):Prop where
 ex:∃ q c G',e=.returned (.tuple #[.slice q (mt s name nd).2.1.length c,.int .i64 (mt s name nd).2.2])∧Inv W' G' (mt s name nd).1∧(∀ k,G' k→G k∨(W.heap.size≤k∧k < W'.heap.size))∧Xp W' q (mt s name nd).2.1∧(∀ g o,q=some ⟨g,o,none⟩→v.ownBlock=some g)∧(mt s name nd).2.1.length≤c∧c≤9223372036854775807
 chg:Chg G W W'
structure Gj (S:Type) (fm:Nat) (cbs:Array Value) (mt:Mt S) (Pre:List Int→Prop) (Fine:S→Prop) (Inv:World→(Nat→Prop)→S→Prop):Prop where
 enters:∀ args V,(callFunc fm args).run Tryz.prog V=.ok (.enter fm args) V
 kept:∀ W V G s H,Inv W G s→Chg H W V→(∀ k,G k→¬ H k)→Inv V G s
 sub:∀ s name nd,∀ x∈(mt s name nd).2.1,x∈nd.kids
 pre:∀ s name nd,Pre name→∀ x∈(mt s name nd).2.1,Pre (name ++ x.1)
 next:∀ s name nd,Fine s→(mt s name nd).2.2=0→Fine (mt s name nd).1
 stop:∀ s name nd,(mt s name nd).2.2≠0→(mt s name nd).2.1=[]
 call:∀ W G s name nd v base,Inv W G s→Fine s→Pre name→name.length≤255→NdOk nd→W.ownsRow base 145 2 v nd.kids.length (nd.kids.flatMap Hp)→(∀ g,v.ownBlock=some g→¬ G g)→(∀ k,G k→k < W.heap.size) →
  Calls Tryz.prog fm (#[.string (strOfNums name),Kw nd.ex.isSome (nmOf (strOfNums name) nd.ex) (exOf nd.ex) v] ++ cbs) W fun e W'=>MOut S mt Inv s name nd v G W W' e
structure Wfx where
 B:Nat
 cmet:Nat
 cway:Nat
 cb:Nat
 cm:Nat
 cv:Nat
 b:Nat
 o:Nat
 c:Nat
 fm:Nat
 cbs:Array Value
def Wfx.caps (z:Wfx):Array Value:=#[.pointer (some ⟨z.cmet,0,none⟩),.pointer (some ⟨z.cway,0,none⟩),.pointer (some ⟨z.cb,0,none⟩),.pointer (some ⟨z.cm,0,none⟩),.pointer (some ⟨z.cv,0,none⟩)]
structure Wk (S:Type) (z:Wfx) (xs:List Int) (Inv:World→(Nat→Prop)→S→Prop) (W:World) (F:Nat→Prop) (m:Nat) (way:List Int) (s:S):Prop where
 met:Xv W z.cmet (.int .i64 m) 3
 way:∃ q cap,Xv W z.cway (.slice q way.length cap) 129∧W.ownsRow z.B 26 1 (.slice q way.length cap) way.length (way.flatMap u64Cs)∧(∀ g,(Value.slice q way.length cap).ownBlock=some g→F g)
 inv:∃ G,(∀ k,G k→F k)∧Inv W G s∧¬ G z.cmet∧¬ G z.cway∧∀ q n cap,W.cell? ⟨z.cway,0,none⟩=some (.slice q n cap)→∀ g,(Value.slice q n cap).ownBlock=some g→¬ G g
 fmet:F z.cmet
 fway:F z.cway
 fb:∀ k,F k→z.B≤k∧k < W.heap.size
 bb:Xv W z.cb (.slice (some ⟨z.b,z.o,none⟩) xs.length z.c) 29
 me:Xv W z.cm (.func (.func z.fm) #[] z.cbs) 88
 vi:Xv W z.cv (.func (.func 70) #[] z.caps) 139
 nb:¬ F z.cb
 nm:¬ F z.cm
 nv:¬ F z.cv
 cell:∀ i,i < xs.length→W.cell? ⟨z.b,z.o + i,none⟩=some (.int .u8 (xs.getD i 0))
 nx:¬ F z.b
 ne:z.cmet≠z.cway
 nz : 0 < xs.length
section
variable {S:Type} {fm:Nat} {cbs:Array Value} {mt:Mt S} {Pre:List Int→Prop} {Fine:S→Prop} {Inv:World→(Nat→Prop)→S→Prop} {z:Wfx} {F H:Nat→Prop} {m:Nat} {way:List Int} {s:S}
theorem Wk.kept (M:Gj S fm cbs mt Pre Fine Inv) (h:Wk S z xs Inv W F m way s) (hg:Chg H W V) (hd:∀ k,F k→¬ H k) (hb:¬ H z.cb) (hm:¬ H z.cm) (hv:¬ H z.cv) (hx:¬ H z.b):Wk S z xs Inv V F m way s:=by
 obtain ⟨q,cap,a1,a2,a3⟩:=h.way;obtain ⟨G,b1,b2,b3,b4,b5⟩:=h.inv;have a4:=a1.chg hg (hd _ h.fway);refine ⟨h.met.chg hg (hd _ h.fmet),⟨q,cap,a4,?_,a3⟩,⟨G,b1,M.kept _ _ _ _ _ b2 hg (fun k hk=>hd k (b1 k hk)),b3,b4,?_⟩,h.fmet,h.fway,fun k hk=>⟨(h.fb k hk).1,Nat.lt_of_lt_of_le (h.fb k hk).2 hg.size⟩,h.bb.chg hg hb,h.me.chg hg hm,h.vi.chg hg hv,h.nb,h.nm,h.nv,fun i hi=>Je (h.cell i hi) hg hx,h.nx,h.ne,h.nz⟩
 ·obtain ⟨x1,hn | ⟨g,cp,cur,y1,y2,y3,y4,y5,y6,y7⟩⟩:=a2
  ·exact ⟨x1,.inl hn⟩
  ·refine ⟨x1,.inr ⟨g,cp,cur,y1,y2,?_,y4,y5,y6,y7⟩⟩
   rw [hg.block g (lt_of_block y3) (hd g (a3 g (by rw [y1];rfl)))];exact y3
 ·intro q' n' cap' e
  rw [a4.c] at e;rw [a1.c] at b5;exact b5 q' n' cap' e
theorem Wk.grown (M:Gj S fm cbs mt Pre Fine Inv) (h:Wk S z xs Inv W F m way s) (hg:W.grownBy V none):Wk S z xs Inv V F m way s :=
 h.kept M (H:=fun _=>False) (Chg.of_grown hg (fun b e=>by cases e)) (fun _ _ e=>e) (fun e=>e) (fun e=>e) (fun e=>e) (fun e=>e)
theorem Wk.setMet (M:Gj S fm cbs mt Pre Fine Inv) (h:Wk S z xs Inv W F m way s) (n:Nat) {N:Int} (hN:N=n):Wk S z xs Inv (W.setCell ⟨z.cmet,0,none⟩ (.int .i64 N)) F n way s:=by
 subst hN;have g1:W.grownBy (W.setCell ⟨z.cmet,0,none⟩ (.int .i64 (n:Nat))) (some z.cmet):=Qx (Qq W _) _;have c1:Chg (fun k=>k=z.cmet) W (W.setCell ⟨z.cmet,0,none⟩ (.int .i64 (n:Nat))):=Chg.of_grown g1 (fun b e=>by injection e with e;exact .inl e.symm);obtain ⟨q,cap,a1,a2,a3⟩:=h.way;obtain ⟨G,b1,b2,b3,b4,b5⟩:=h.inv;have a4:=a1.chg c1 h.ne.symm;refine ⟨h.met.set _,⟨q,cap,a4,a2.kept g1 (.inr (Zb a2 h.met (by decide))),a3⟩,⟨G,b1,M.kept _ _ _ _ _ b2 c1 (fun k hk e=>b3 (e ▸ hk)),b3,b4,?_⟩,h.fmet,h.fway,fun k hk=>⟨(h.fb k hk).1,Nat.lt_of_lt_of_le (h.fb k hk).2 g1.size⟩,
  h.bb.chg c1 (fun e=>h.nb (e ▸ h.fmet)),h.me.chg c1 (fun e=>h.nm (e ▸ h.fmet)),h.vi.chg c1 (fun e=>h.nv (e ▸ h.fmet)),h.nb,h.nm,h.nv,fun i hi=>Je (h.cell i hi) c1 (fun e=>h.nx (e ▸ h.fmet)),h.nx,h.ne,h.nz⟩
 intro q' n' cap' e;rw [a4.c] at e;rw [a1.c] at b5;exact b5 q' n' cap' e
end
end
section
variable {w w' W V:World} {xs:List Int}
theorem Zz {T TS:TypeId} {k by':Nat} (st:Kx Tryz.prog T TS k by') {base:Nat} {ops:Array Oper} {rest:List Oper} {o:Oper} {a:Act} {Q:Exit→Act→World→Prop} (hgd:o.guard=none) (s x:Operand)
  (ho:o.op=.call { callee:=.builtin .append,args:=#[s,x],argTypes:=#[TS,TS] })
  (v:Value) (n:Nat) (ys:List Value) (hs:a.eval s=v) (hown:w.ownsRow base T k v n ys) (cs:List Value) (hl:cs.length=k) (g:Nat) (hx:a.eval x=.slice (some ⟨g,0,none⟩) 1 1)
  (hb:w.heap[g]?=some (.cells cs.toArray T (0,0))) (h1:∀ u∈cs,u.oneCell'=true)
  (h63:(n + 1) * by'≤140737488355328) (hby : 0 < by') (hbase:base≤w.heap.size)
  (h:∀ v' w',w'.ownsRow base T k v' (n + 1) (ys ++ cs)→w.grownBy w' v.ownBlock→(v'.ownBlock=v.ownBlock∨v'.ownBlock=some w.heap.size)→wpList Tryz.prog ops Q rest (a.put o.dst v') w'):wpList Tryz.prog ops Q (o :: rest) a w:=by
 obtain ⟨i,z,hi,hz0,hz1,hz2,hzs⟩:=st.info;refine wpList_append_own_at w hgd s x _ ho base T i z k by' st.under hi hz0 hz1 hz2 hzs st.pos v n ys hs hown ⟨g,0,none⟩ 1 1 cs hx (by rw [hl,Nat.one_mul]) ?_ h1 (by have:=Nat.le_mul_of_pos_right (n + 1) hby;unfold maxLen;omega) h63 hbase ?_
 ·intro j u hu
  rw [Xd,Qm hb,← hu];simp
 ·intro v' w' h2 h3 _ h4
  exact h v' w' h2 h3 h4
theorem ownsRow_chg {F:Nat→Prop} {base n k:Nat} {T:TypeId} {v:Value} {ys:List Value} (h:W.ownsRow base T k v n ys) (hg:Chg F W V) (hf:∀ g,v.ownBlock=some g→¬ F g):V.ownsRow base T k v n ys:=by
 obtain ⟨x1,hn | ⟨g,cp,cur,y1,y2,y3,y4⟩⟩:=h
 ·exact ⟨x1,.inl hn⟩
 ·refine ⟨x1,.inr ⟨g,cp,cur,y1,y2,?_,y4⟩⟩
  rw [hg.block g (lt_of_block y3) (hf g (by rw [y1];rfl))];exact y3
section
variable {S:Type} {fm:Nat} {cbs:Array Value} {mt:Mt S} {Pre:List Int→Prop} {Fine:S→Prop} {Inv:World→(Nat→Prop)→S→Prop} {z:Wfx} {F H:Nat→Prop} {m:Nat} {way:List Int} {s s':S}
theorem Wk.base (h:Wk S z xs Inv W F m way s):z.B≤W.heap.size:=Nat.le_trans (h.fb _ h.fmet).1 (Nat.le_of_lt (h.fb _ h.fmet).2)
theorem Wk.told (h:Wk S z xs Inv W F m way s) {G G':Nat→Prop} (b1:∀ k,G k→F k) (b3:¬ G z.cmet) (b4:¬ G z.cway) (b5:∀ q n cap,W.cell? ⟨z.cway,0,none⟩=some (.slice q n cap)→∀ g,(Value.slice q n cap).ownBlock=some g→¬ G g)
  (hi:Inv V G' s') (hG:∀ k,G' k→G k∨(W.heap.size≤k∧k < V.heap.size)) (hg:Chg G W V):Wk S z xs Inv V (Foot F W V) m way s':=by
 obtain ⟨q,cap,a1,a2,a3⟩:=h.way;have o1:=a1.chg hg b4;have old:∀ k,k < W.heap.size→¬ F k→¬ Foot F W V k:=fun k hk hf e=>e.elim hf (fun e=>by omega);have row:∀ g,(Value.slice q way.length cap).ownBlock=some g→¬ G g:=b5 q way.length cap a1.c;refine ⟨h.met.chg hg b3,⟨q,cap,o1,ownsRow_chg a2 hg row,fun g e=>.inl (a3 g e)⟩,⟨G',fun k hk=>?_,hi,?_,?_,?_⟩,.inl h.fmet,.inl h.fway,?_,h.bb.chg hg (fun e=>h.nb (b1 _ e)),h.me.chg hg (fun e=>h.nm (b1 _ e)),h.vi.chg hg (fun e=>h.nv (b1 _ e)),
  old _ h.bb.lt h.nb,old _ h.me.lt h.nm,old _ h.vi.lt h.nv,fun i hi=>Je (h.cell i hi) hg (fun e=>h.nx (b1 _ e)),?_,h.ne,h.nz⟩
 ·rcases hG k hk with h1 | h1
  · exact .inl (b1 k h1)
  · exact .inr h1
 ·intro e
  rcases hG _ e with h1 | h1
  · exact b3 h1
  · have:=h.met.lt;omega
 ·intro e
  rcases hG _ e with h1 | h1
  · exact b4 h1
  · have:=a1.lt;omega
 ·intro q' n' cap' e g eg hk
  rw [o1.c] at e;injection e with e;injection e with e1 e2 e3;subst e1 e2 e3;rcases hG _ hk with h1 | h1
  · exact row g eg h1
  · have:=(a2.lt g eg).2;omega
 ·intro k hk
  rcases hk with hk | hk
  · exact ⟨(h.fb k hk).1,Nat.lt_of_lt_of_le (h.fb k hk).2 hg.size⟩
  · exact ⟨Nat.le_trans h.base hk.1,hk.2⟩
 ·intro e
  rcases e with e | e
  · exact h.nx e
  · have:=World.block_lt_of_cell? W _ (h.cell 0 h.nz)
    simp only at this
    omega
theorem Wk.push (M:Gj S fm cbs mt Pre Fine Inv) (h:Wk S z xs Inv W F m way s) (pl:Int) {q:Option Addr} {cap:Nat} (hc:W.cell? ⟨z.cway,0,none⟩=some (.slice q way.length cap)) {W1:World} {v':Value} (g1:W.grownBy W1 none)
  {W2:World} (ho:W2.ownsRow z.B 26 1 v' (way.length + 1) (way.flatMap u64Cs ++ u64Cs pl)) (g2:W1.grownBy W2 (Value.slice q way.length cap).ownBlock) (hv:v'.ownBlock=(Value.slice q way.length cap).ownBlock∨v'.ownBlock=some W1.heap.size) :
  Wk S z xs Inv (W2.setCell ⟨z.cway,0,none⟩ v') (Foot F W (W2.setCell ⟨z.cway,0,none⟩ v')) m (way ++ [pl]) s∧Chg F W (W2.setCell ⟨z.cway,0,none⟩ v'):=by
 obtain ⟨q',n',rfl⟩:=Qp ho;obtain ⟨q0,cap0,a1,a2,a3⟩:=h.way;obtain ⟨G,b1,b2,b3,b4,b5⟩:=h.inv;have e:=hc.symm.trans a1.c;injection e with e;injection e with e1 _ e2;subst e1 e2;have g3:=Qx (i:=0) (Qq W2 (some z.cway)) (.slice q' (way.length + 1) n');have c1:Chg (fun k=>(Value.slice q way.length cap).ownBlock=some k∨k=z.cway) W (W2.setCell ⟨z.cway,0,none⟩ (.slice q' (way.length + 1) n')) :=
  ((Chg.of_grown g1 (fun b e=>by cases e)).trans (Chg.of_grown g2 (fun b e=>.inl (.inl e)))).trans (Chg.of_grown g3 (fun b e=>by injection e with e;exact .inl (.inr e.symm)))
 have cF:Chg F W (W2.setCell ⟨z.cway,0,none⟩ (.slice q' (way.length + 1) n')):=c1.mono (fun k hk=>hk.elim (a3 k) (fun e=>e ▸ h.fway));have hG:∀ k,G k→¬ ((Value.slice q way.length cap).ownBlock=some k∨k=z.cway):=fun k hk e=>e.elim (fun e=>b5 q way.length cap a1.c k e hk) (fun e=>b4 (e ▸ hk));have old:∀ k,k < W.heap.size→¬ F k→¬ Foot F W (W2.setCell ⟨z.cway,0,none⟩ (.slice q' (way.length + 1) n')) k:=fun k hk hf e=>e.elim hf (fun e=>by omega)
 have hne:(some z.cway:Option Nat)≠(Value.slice q way.length cap).ownBlock:=fun e=>Zb a2 a1 (by decide) e.symm;have o2:Xv W2 z.cway (.slice q way.length cap) 129:=(a1.grown g1).kept g2 (fun e=>hne e.symm);have hq':(Value.slice q' (way.length + 1) n').ownBlock≠some z.cway:=Zb ho o2 (by decide);have hsz:W.heap.size≤W1.heap.size:=g1.size;have rowold:∀ g,(Value.slice q way.length cap).ownBlock=some g→g < W.heap.size:=fun g e=>(a2.lt g e).2
 have hFv:∀ g,(Value.slice q' (way.length + 1) n').ownBlock=some g→Foot F W (W2.setCell ⟨z.cway,0,none⟩ (.slice q' (way.length + 1) n')) g:=fun g e=>by
  rcases hv with h1 | h1
  · rw [h1] at e;exact .inl (a3 g e)
  · have hlt:=(ho.lt g e).2
    rw [h1] at e;injection e with e;exact .inr ⟨by omega,Nat.lt_of_lt_of_le hlt g3.size⟩
 refine ⟨⟨h.met.chg c1 (fun e=>e.elim (fun e=>Zb a2 h.met (by decide) e) (fun e=>h.ne e)),⟨q',n',?_,?_,?_⟩,⟨G,fun k hk=>.inl (b1 k hk),M.kept _ _ _ _ _ b2 c1 hG,b3,b4,?_⟩,.inl h.fmet,.inl h.fway,?_,
  h.bb.chg cF h.nb,h.me.chg cF h.nm,h.vi.chg cF h.nv,old _ h.bb.lt h.nb,old _ h.me.lt h.nm,old _ h.vi.lt h.nv,fun i hi=>Je (h.cell i hi) cF h.nx,?_,h.ne,h.nz⟩,cF⟩
 ·rw [List.length_append,List.length_singleton]
  exact o2.set _
 ·rw [List.length_append,List.length_singleton,List.flatMap_append,List.flatMap_singleton]
  exact ho.kept g3 (.inr hq')
 ·rw [List.length_append,List.length_singleton]
  exact hFv
 ·intro q2 n2 c2 e g eg hk
  rw [(o2.set (.slice q' (way.length + 1) n')).c] at e;injection e with e;injection e with e1 e2 e3;subst e1 e2 e3;rcases hv with h1 | h1
  · rw [h1] at eg
    exact b5 q way.length cap a1.c g eg hk
  · rw [h1] at eg
    injection eg with eg
    have:=(h.fb g (b1 g hk)).2
    omega
 ·intro k hk
  rcases hk with hk | hk
  · exact ⟨(h.fb k hk).1,Nat.lt_of_lt_of_le (h.fb k hk).2 cF.size⟩
  · exact ⟨Nat.le_trans h.base hk.1,hk.2⟩
 ·intro e
  rcases e with e | e
  · exact h.nx e
  · have:=World.block_lt_of_cell? W _ (h.cell 0 h.nz)
    simp only at this
    omega
theorem Wk.pop (M:Gj S fm cbs mt Pre Fine Inv) {pl:Int} (h:Wk S z xs Inv W F m (way ++ [pl]) s) {q:Option Addr} {cap:Nat} (hc:W.cell? ⟨z.cway,0,none⟩=some (.slice q (way ++ [pl]).length cap)) :
  Wk S z xs Inv (W.setCell ⟨z.cway,0,none⟩ (.slice q way.length cap)) F m way s∧Chg F W (W.setCell ⟨z.cway,0,none⟩ (.slice q way.length cap)):=by
 obtain ⟨q0,cap0,a1,a2,a3⟩:=h.way;obtain ⟨G,b1,b2,b3,b4,b5⟩:=h.inv;have e:=hc.symm.trans a1.c;injection e with e;injection e with e1 _ e2;subst e1 e2;have g3:=Qx (i:=0) (Qq W (some z.cway)) (.slice q way.length cap);have c1:Chg (fun k=>k=z.cway) W (W.setCell ⟨z.cway,0,none⟩ (.slice q way.length cap)):=Chg.of_grown g3 (fun b e=>by injection e with e;exact .inl e.symm);have cF:Chg F W (W.setCell ⟨z.cway,0,none⟩ (.slice q way.length cap)):=c1.mono (fun k e=>e ▸ h.fway)
 have a2':=a2;rw [List.length_append,List.length_singleton,List.flatMap_append,List.flatMap_singleton] at a2';have ob:(Value.slice q way.length cap).ownBlock=(Value.slice q (way ++ [pl]).length cap).ownBlock:=by cases q <;> rfl
 refine ⟨⟨h.met.chg c1 h.ne,⟨q,cap,a1.set _,(own_less a2' (by rw [Gw (f:=u64Cs) (k:=1) (fun _=>rfl)])).kept g3 (.inr (by rw [ob];exact Zb a2 a1 (by decide))),fun g e=>a3 g (ob ▸ e)⟩,⟨G,b1,M.kept _ _ _ _ _ b2 c1 (fun k hk e=>b4 (e ▸ hk)),b3,b4,?_⟩,h.fmet,h.fway,fun k hk=>⟨(h.fb k hk).1,Nat.lt_of_lt_of_le (h.fb k hk).2 cF.size⟩,
  h.bb.chg cF h.nb,h.me.chg cF h.nm,h.vi.chg cF h.nv,h.nb,h.nm,h.nv,fun i hi=>Je (h.cell i hi) cF h.nx,h.nx,h.ne,h.nz⟩,cF⟩
 intro q2 n2 c2 e g eg hk;rw [(a1.set (.slice q way.length cap)).c] at e;injection e with e;injection e with e1 e2 e3;subst e1 e2 e3;exact b5 q _ cap a1.c g (ob ▸ eg) hk
end
end
section
variable {w w' W V:World} {xs:List Int}
structure VOut (S:Type) (Fine:S→Prop) (z:Wfx) (xs:List Int) (Inv:World→(Nat→Prop)→S→Prop) (F:Nat→Prop) (W W':World) (way:List Int) (r:Int × (Nat × S)) (e:Ending):Prop where
 ret:e=.returned (.int .i64 r.1)
 ex:∃ F',Wk S z xs Inv W' F' r.2.1 way r.2.2∧∀ k,F' k→F k∨W.heap.size≤k
 chg:Chg F W W'
 few:r.1=0→r.2.1≤8192∧Fine r.2.2
section
variable {S:Type} {mt:Mt S} {Pre:List Int→Prop} {Fine:S→Prop} {Inv:World→(Nat→Prop)→S→Prop} {z:Wfx}
theorem Pb {k m:Nat} {way name:List Int} {pl:Int} {s:S} (hn:¬ 255 < name.length):vis xs mt (k + 1) way name pl (m,s)=if pl∈way then (12,(m + 1,s)) else if 8192 < m + 1 then (11,(m + 1,s)) else match ndAt xs pl with
  | none=>(12,(m + 1,s))
  | some nd=>visK (vis xs mt k (way ++ [pl])) name (mt s name nd).2.1 (mt s name nd).2.2 (m + 1,(mt s name nd).1):=by
 have e:vis xs mt (k + 1) way name pl (m,s)=if 255 < name.length then (10,(m + 1,s)) else if pl∈way then (12,(m + 1,s)) else if 8192 < m + 1 then (11,(m + 1,s)) else match ndAt xs pl with
  | none=>(12,(m + 1,s))
  | some nd=>visK (vis xs mt k (way ++ [pl])) name (mt s name nd).2.1 (mt s name nd).2.2 (m + 1,(mt s name nd).1):=rfl
 rw [e,if_neg hn]
theorem Jw {T:TypeId} {k n c base:Nat} {q:Option Addr} {ys:List Value} (h:W.ownsRow base T k (.slice q n c) n ys):n≤c:=by
 rcases h.2 with ⟨hv,hn⟩ | ⟨g,cp,cur,hv,_,_,hle,_⟩
 ·omega
 ·injection hv with _ _ e;omega
theorem VOut.at {F F0:Nat→Prop} {W0:World} {m:Nat} {way:List Int} {s:S} {r:Int} (h:Wk S z xs Inv V F m way s) (hF:∀ k,F k→F0 k∨W0.heap.size≤k) (hg:Chg F0 W0 V) (hm:r=0→m≤8192∧Fine s):VOut S Fine z xs Inv F0 W0 V way (r,(m,s)) (.returned (.int .i64 r)) :=
 ⟨rfl,⟨F,h,hF⟩,hg,hm⟩
theorem chg_met {F:Nat→Prop} {m:Nat} {way:List Int} {s:S} (h:Wk S z xs Inv W F m way s) (v:Value):Chg F W (W.setCell ⟨z.cmet,0,none⟩ v) :=
 Chg.of_grown (Qx (Qq W (some z.cmet)) v) (fun b e=>by injection e with e;exact .inl (e ▸ h.fmet))
theorem visit_long (M:Gj S z.fm z.cbs mt Pre Fine Inv) {F:Nat→Prop} {m:Nat} {way:List Int} {s:S} (name:List Int) (pl:Int) (hn : 255 < name.length) (hn2:name.length≤510) (hm:m≤8192) (h:Wk S z xs Inv W F m way s) :
  Calls Tryz.prog 70 #[.string (strOfNums name),.int .u64 pl,.pointer (some ⟨z.cmet,0,none⟩),.pointer (some ⟨z.cway,0,none⟩),.pointer (some ⟨z.cb,0,none⟩),.pointer (some ⟨z.cm,0,none⟩),.pointer (some ⟨z.cv,0,none⟩)] W fun e W' =>
   VOut S Fine z xs Inv F W W' way (10,(m + 1,s)) e:=by
 have c0:=h.met.c;have f0:=h.met.f;have hsz:(strOfNums name).size=name.length:=strOfNums_size _;have FN:=Lv (fun (N:Int) (hN:N=(m + 1:Nat))=>VOut.at (Fine:=Fine) (r:=10) (h.setMet M (m + 1) hN) (fun k hk=>.inl hk) (chg_met h _) (fun e=>by cases e));obtain ⟨nl,hnl⟩:∃ nl,nl=name.length:=⟨_,rfl⟩
 rw [← hnl] at hsz hn hn2;have dn:decide ((255:Int) < (nl:Int))=true:=by simp;omega
 generalize strOfNums name=SN at *;clear h hnl;go_enter Tryz.func70,Tryz.ntmps70;go_wp2;go_ret
 exact FN.o _ (by omega)
theorem visit_any (M:Gj S z.fm z.cbs mt Pre Fine Inv) (hb:Byt xs) (hc:xs.length≤z.c) (hcm:z.c≤9223372036854775807) (hbig:xs.length≤140737488355328):∀ (k:Nat) (W:World) (F:Nat→Prop) (m:Nat) (way:List Int) (s:S) (name:List Int) (pl:Int),
  256≤k + name.length→name.length≤510→Pre name→0≤pl→pl < 18446744073709551616→m≤8192→way.length≤name.length→Fine s→Wk S z xs Inv W F m way s →
  Calls Tryz.prog 70 #[.string (strOfNums name),.int .u64 pl,.pointer (some ⟨z.cmet,0,none⟩),.pointer (some ⟨z.cway,0,none⟩),.pointer (some ⟨z.cb,0,none⟩),.pointer (some ⟨z.cm,0,none⟩),.pointer (some ⟨z.cv,0,none⟩)] W fun e W' =>
   VOut S Fine z xs Inv F W W' way (vis xs mt k way name pl (m,s)) e:=by
 intro k
 induction k with
 | zero =>
  intro W F m way s name pl hk hn2 _ _ _ hm _ _ h;exact visit_long M name pl (by omega) hn2 hm h
 | succ k ih =>
  intro W F m way s name pl hk hn2 hpre hp0 hp1 hm hway hfine h;have FI:=Lv hfine;clear hfine;by_cases hn : 255 < name.length
  ·have e:vis xs mt (k + 1) way name pl (m,s)=(10,(m + 1,s)):=by unfold vis;rw [if_pos hn]
   rw [e];exact visit_long M name pl hn hn2 hm h
  have IH:=Lv ih;have PRE:=Lv hpre;obtain ⟨qw,cw,a1,a2,a3⟩:=h.way;have H1:=Lv (fun (N:Int) (hN:N=(m + 1:Nat))=>And.intro (h.setMet M (m + 1) hN) (chg_met h (.int .i64 N)));have c0:=h.met.c;have f0:=h.met.f;have hsz:(strOfNums name).size=name.length:=strOfNums_size _;have h1':=H1.o ((m:Int) + 1) (by omega);obtain ⟨W1,hW1⟩:∃ W1,W.setCell ⟨z.cmet,0,none⟩ (.int .i64 ((m:Int) + 1))=W1:=⟨_,rfl⟩
  rw [hW1] at h1';have HW1:=Lv hW1;have K1:=Lv h1'.1;have C1:=Lv h1'.2;clear hW1 h1' H1 ih hpre h a1 a2 a3 qw cw;obtain ⟨r,hr⟩:∃ r,r=vis xs mt (k + 1) way name pl (m,s):=⟨_,rfl⟩
  rw [← hr];have HR:=Lv (show r=if pl∈way then (12,(m + 1,s)) else if 8192 < m + 1 then (11,(m + 1,s)) else match ndAt xs pl with
   | none=>(12,(m + 1,s))
   | some nd=>visK (vis xs mt k (way ++ [pl])) name (mt s name nd).2.1 (mt s name nd).2.2 (m + 1,(mt s name nd).1) from hr.trans (Pb hn))
  clear hr;have hnl:name.length≤255:=by omega
  obtain ⟨SN,hSN⟩:∃ SN,SN=strOfNums name:=⟨_,rfl⟩
  obtain ⟨nl,hnl2⟩:∃ nl,nl=name.length:=⟨_,rfl⟩
  rw [← hSN] at hsz ⊢;rw [← hnl2] at hsz hnl hn hn2 hk hway;have HSN:=Lv hSN;have HNL:=Lv hnl2;clear hSN hnl2;have dn:decide ((255:Int) < (nl:Int))=false:=by simp;omega
  go_enter Tryz.func70,Tryz.ntmps70;go_upto_region 2 with fail;rw [HW1.o];clear HW1 c0 f0;obtain ⟨qw,cw,a1,a2,a3⟩:=K1.o.way;have w1:=a1.c;have hwl:way.length≤9223372036854775807:=by omega
  have FB1:=Lv K1.o.fb;have SZ1:=Lv C1.o.size;have CT:=Lv (contains64_any (w:=W1) way way.length rfl hwl qw cw (U64At.of a2) pl);have AO:=Lv a2;clear a1 a2 a3 hwl;go_wp2_with fail;refine CT.o.mono ?_
  rintro e W1' ⟨rfl,hw'⟩;have hw2:=hw'.symm;subst hw2;clear hw';by_cases hin:pl∈way
  ·have FN:=Lv (VOut.at (Fine:=Fine) (r:=12) K1.o (fun k hk=>.inl hk) C1.o (fun e=>by cases e))
   rw [if_pos hin] at HR;rw [show decide (pl∈way)=true from decide_eq_true hin];clear hin;go_wp2;go_ret
   rw [HR.o];exact FN.o
  rw [if_neg hin] at HR;rw [show decide (pl∈way)=false from decide_eq_false hin];clear hin CT;have c0:=K1.o.met.c;by_cases hmm : 8192 < m + 1
  ·have FN:=Lv (VOut.at (Fine:=Fine) (r:=11) K1.o (fun k hk=>.inl hk) C1.o (fun e=>by cases e))
   rw [if_pos hmm] at HR;have dm:decide ((8192:Int) < ((m + 1:Nat):Int))=true:=by simp;omega
   have dm2:decide ((8192:Int) < (m:Int) + 1)=true:=by simp;omega
   clear hmm;go_wp2;go_ret
   rw [HR.o];exact FN.o
  rw [if_neg hmm] at HR;have dm:decide ((8192:Int) < ((m + 1:Nat):Int))=false:=by simp;omega
  have dm2:decide ((8192:Int) < (m:Int) + 1)=false:=by simp;omega
  have b0:=K1.o.bb.c;have NA:=Lv (nodeAt_any (w:=W1) K1.o.cell hc hcm hbig hb pl hp0 hp1 SN);go_wp2_with fail;refine NA.o.mono ?_
  rintro e W2 ⟨hex,hg2⟩;have hsz2:=hg2.size;have K2:=Lv (K1.o.grown M hg2);have C2:=Lv (C1.o.trans (Chg.of_grown hg2 (fun b e=>by cases e)));clear hg2 NA b0 c0 dm dm2 K1 C1;rcases hex with ⟨nd,v,hnd,rfl,ho⟩ | ⟨hnd,rfl⟩
  case inr =>
   rw [hnd] at HR;have GZ:=Lv (fun (o:Obj)=>And.intro (K2.o.grown M (grown1 W2 o)) (C2.o.trans (Chg.of_grown (grown1 W2 o) (fun b e=>by cases e))));have FN:=Lv (fun (o:Obj)=>VOut.at (Fine:=Fine) (r:=12) (GZ.o o).1 (fun k hk=>.inl hk) (GZ.o o).2 (fun e=>by cases e));unfold Kw;go_wp2;go_ret
   rw [HR.o];exact FN.o _
  case inl =>
   rw [hnd] at HR;have NK:=Lv (W8 hb hnd);have SZ2:=Lv (show W1.heap.size≤W2.heap.size from hsz2);obtain ⟨qn,cn,rfl⟩:=Qp ho;have NV:=Lv (fun g (e:(Value.slice qn nd.kids.length cn).ownBlock=some g)=>(ho.lt g e));have HC:=Lv (HR.o);simp only [] at HC;clear HR hnd;have g3:=grown1 W2 (.cells #[.bool nd.ex.isSome,.string (nmOf SN nd.ex),.int .i64 (exOf nd.ex).kind,.bool (exOf nd.ex).weak,.int .u64 (exOf nd.ex).value,.int .u64 (exOf nd.ex).resolver,.int .u64 (exOf nd.ex).ordinal,.string (strOfNums (exOf nd.ex).other),.slice qn nd.kids.length cn] 87)
   have N3:=Lv (show Qn (W2.alloc (.cells #[.bool nd.ex.isSome,.string (nmOf SN nd.ex),.int .i64 (exOf nd.ex).kind,.bool (exOf nd.ex).weak,.int .u64 (exOf nd.ex).value,.int .u64 (exOf nd.ex).resolver,.int .u64 (exOf nd.ex).ordinal,.string (strOfNums (exOf nd.ex).other),.slice qn nd.kids.length cn] 87)) W2.heap.size nd.ex.isSome (nmOf SN nd.ex) (exOf nd.ex) (.slice qn nd.kids.length cn) from heap_alloc_new W2 _)
   have K3:=Lv (K2.o.grown M g3);have C3:=Lv (C2.o.trans (Chg.of_grown g3 (fun b e=>by cases e)));have O3:=Lv (Qy ho g3);unfold Kw;obtain ⟨nb,hnb⟩:∃ x,x=nd.ex.isSome:=⟨_,rfl⟩
   obtain ⟨nn,hnn⟩:∃ x,x=nmOf SN nd.ex:=⟨_,rfl⟩
   obtain ⟨nx,hnx⟩:∃ x,x=exOf nd.ex:=⟨_,rfl⟩
   obtain ⟨kl,hkl⟩:∃ x,x=nd.kids.length:=⟨_,rfl⟩
   rw [← hnb,← hnn,← hnx,← hkl] at N3 K3 C3 O3;rw [← hkl] at NV;rw [← hnb,← hnn,← hnx,← hkl];have EQ:=Lv (And.intro hnb (And.intro hnn (And.intro hnx hkl)));clear hnb hnn hnx hkl g3 ho K2 C2;obtain ⟨W3,hW3⟩:∃ W3,W2.alloc (.cells #[.bool nb,.string nn,.int .i64 nx.kind,.bool nx.weak,.int .u64 nx.value,.int .u64 nx.resolver,.int .u64 nx.ordinal,.string (strOfNums nx.other),.slice qn kl cn] 87)=W3:=⟨_,rfl⟩
   obtain ⟨gn,hgn⟩:∃ gn,W2.heap.size=gn:=⟨_,rfl⟩
   rw [hW3] at N3 K3 C3 O3;rw [hgn] at N3;have HW3:=Lv hW3;have HGN:=Lv hgn;have HGN2:=Lv hgn;clear hW3 hgn;go_upto_region 9 with fail;rw [HW3.o,HGN.o];clear HW3 HGN;obtain ⟨G,b1,b2,b3,b4,b5⟩:=K3.o.inv;have hGF:∀ k,G k→k < W1.heap.size:=fun k hk=>(FB1.o k (b1 k hk)).2;have MC:=M.call W3 G s name nd (.slice qn nd.kids.length cn) _ b2 FI.o PRE.o (by rw [← HNL.o];exact hnl) NK.o (by rw [← EQ.o.2.2.2];exact O3.o) (fun g e hg=>by
    have h1:=(NV.o g (by rw [EQ.o.2.2.2];exact e)).1;have h2:=hGF g hg;omega) (fun k hk=>(K3.o.fb k (b1 k hk)).2)
   rw [← HSN.o,← EQ.o.1,← EQ.o.2.1,← EQ.o.2.2.1,← EQ.o.2.2.2] at MC;unfold Kw at MC;have SUB:=Lv (M.sub s name nd);have PRK:=Lv (M.pre s name nd PRE.o);have NXT:=Lv (M.next s name nd FI.o);have STO:=Lv (M.stop s name nd);have TL:=Lv (fun V G' s' (hi:Inv V G' s') hG (hg:Chg G W3 V)=>And.intro (K3.o.told b1 b3 b4 b5 hi hG hg) (C3.o.trans (hg.mono b1)));have MCH:=Lv MC
   have m0:=K3.o.me.c;have EN:=Lv M.enters;have N3l:=N3.o.lt;obtain ⟨d0,d1,d2,d3,d4,d5,d6,d7,d8⟩:=N3.o.c;have SZ3:=Lv C3.o.size;have SZ23:=Lv (show gn < W3.heap.size from N3.o.lt);clear MC b1 b2 b3 b4 b5 hGF O3;have en:=fun args V=>M.enters args V;go_wp2_with fail;refine MCH.o.mono ?_
   rintro e W4 ⟨⟨q,c,G',rfl,i4,hG4,kd4,hq4,hlc,hcc⟩,hch⟩;have K4C4:=TL.o _ _ _ i4 hG4 hch;have hF4:∀ k,Foot F W3 W4 k→F k∨W.heap.size≤k:=fun k hk=>hk.elim .inl (fun hk=>.inr (by have:=SZ3.o;omega));have QB4:∀ g o,q=some ⟨g,o,none⟩→¬ Foot F W3 W4 g∧g < W4.heap.size:=fun g o e=>by
    have h1:=NV.o g (hq4 g o e);have h2:=K4C4.1.base;refine ⟨fun e=>e.elim (fun e=>by have:=(FB1.o g e).2;omega) (fun e=>by have:=SZ23.o;have:=HGN2.o;omega),?_⟩
    have:=hch.size;have:=SZ23.o;have:=HGN2.o;omega
   have K4:=Lv K4C4.1;have C4:=Lv K4C4.2;have HF4:=Lv hF4;have QB:=Lv QB4;have KD4:=Lv kd4;obtain ⟨⟨s4,L,e0⟩,hmt⟩:∃ x,x=mt s name nd:=⟨_,rfl⟩
   rw [← hmt] at K4 KD4 SUB PRK HC NXT STO hlc;have FS:=Lv (show ∀ j,(j < L.length∨e0=0)→Fine s4 from fun j hj=>NXT.o (hj.elim (fun hj=>Classical.byContradiction fun h0=>by have h1:L=[]:=STO.o h0;rw [h1] at hj;simp at hj) id));simp only [← hmt] at hlc ⊢;have HL:=Lv (And.intro hlc hcc);clear hmt i4 hG4 kd4 hq4 hch K4C4 hF4 QB4 hlc hcc TL MCH m0 d0 d1 d2 d3 d4 d5 d6 d7 d8 N3l SZ3 SZ23 K3 C3 N3 NV EQ EN en
   have hLc:L.length≤c:=HL.o.1;have hc63:c≤9223372036854775807:=HL.o.2;obtain ⟨qy,cy,a1,a2,a3⟩:=K4.o.way;have w4:=a1.c;have f4:=a1.f;have l4:=a1.lt;have g5:=grown1 W4 (.cells #[.int .u64 pl] 26);have O5:=Lv (Qy a2 g5);have N5:=Lv (heap_alloc_new W4 (.cells #[.int .u64 pl] 26));have A5:=Lv (a1.grown g5);have SZ4:=Lv (show z.B≤W4.heap.size from K4.o.base);have PU:=Lv (fun (V:Value) (W2:World) h1 h2 h3=>K4.o.push M pl w4 g5 (v':=V) (W2:=W2) h1 h2 h3)
   clear a1 a2 a3 g5;go_upto_region 12 with fail;go_wp2_with (at_builtin;refine Zz u64Type rfl _ _ rfl _ way.length _ rfl O5.o [.int .u64 pl] rfl W4.heap.size rfl N5.o (fun u hu=>by simp at hu;subst hu;rfl) (by omega) (by decide) ?_ ?_)
   ·have:=SZ4.o;(try rw [World.size_alloc]);omega
   intro v' W5 ho5 hg5 hv5;obtain ⟨q5,c5,rfl⟩:=Qp ho5;have a6:=A5.o.kept hg5 (Zb O5.o A5.o (by decide));have c6:=a6.c;have f6:=a6.f;have l6:=a6.lt;have K6C6:=PU.o _ _ ho5 hg5 (by rw [World.size_alloc];exact hv5);obtain ⟨W6,hW6⟩:∃ W6,W5.setCell ⟨z.cway,0,none⟩ (.slice q5 (way.length + 1) c5)=W6:=⟨_,rfl⟩
   rw [hW6] at K6C6;have hF6:∀ k,Foot (Foot F W3 W4) W4 W6 k→F k∨W.heap.size≤k:=fun k hk=>hk.elim (HF4.o k) (fun hk=>.inr (by have:=C4.o.size;omega));have K6:=Lv K6C6.1;have C6:=Lv (show Chg F W W6 from ⟨K6C6.2.os.trans C4.o.os,K6C6.2.tape.trans C4.o.tape,K6C6.2.output.trans C4.o.output,Nat.le_trans C4.o.size K6C6.2.size,fun i hi hf=>(K6C6.2.block i (Nat.lt_of_lt_of_le hi C4.o.size) (fun e=>(HF4.o i e).elim hf (fun e=>by omega))).trans (C4.o.block i hi hf)⟩)
   have KD6:=Lv (KD4.o.chg K6C6.2 (fun g o e=>(QB.o g o e).1));have QB6:=Lv (show ∀ g o,q=some ⟨g,o,none⟩→¬ Foot (Foot F W3 W4) W4 W6 g from fun g o e hk=>hk.elim (QB.o g o e).1 (fun hk=>by have:=(QB.o g o e).2;omega));have HF6:=Lv hF6;have HW6:=Lv hW6;clear ho5 hg5 hv5 a6 K6C6 hF6 hW6 PU O5 N5 A5 K4 C4 HF4 QB KD4 w4 f4 l4;go_upto_region 13 with fail;rw [HW6.o];clear HW6 c6 f6 l6
   go_wp2_with fail;go_loopw [13,51] (fun er i wr=>∃ (j:Nat) (ej:Int) (F':Nat→Prop) (m':Nat) (s':S),j≤L.length∧i=.int .i64 j∧er=.int .i64 ej∧Wk S z xs Inv wr F' m' (way ++ [pl]) s'∧(∀ k,F' k→F k∨W.heap.size≤k)∧Chg F W wr∧Xp wr q L∧(∀ g o,q=some ⟨g,o,none⟩→¬ F' g)∧Hid (r=visK (vis xs mt k (way ++ [pl])) name (L.drop j) ej (m',s'))∧m'≤8192∧Hid ((j < L.length∨ej=0)→Fine s')) (fun _ i _=>L.length - (intOf i).toNat)
   case atStart=>exact ⟨0,e0,_,m + 1,s4,Nat.zero_le _,rfl,rfl,K6.o,HF6.o,C6.o,KD6.o,QB6.o,Lv HC.o,by omega,Lv (FS.o 0)⟩
   case round =>
    obtain ⟨j,ej,F',m',s',hj,rfl,rfl,hK,hF',hC,hKd,hQ,CO,hm',FJ⟩:=hrel;have K7:=Lv hK;have F7:=Lv hF';have C7:=Lv hC;have Q7:=Lv hQ;have KD7:=Lv hKd;clear hK hF' hC hQ hKd;by_cases hlt:j < L.length
    ·obtain ⟨x,hx⟩:∃ x,L[j]?=some x:=⟨_,List.getElem?_eq_getElem hlt⟩
     have hxm:=List.mem_of_getElem? hx
     have KO:=Lv (NK.o.kids.each x (SUB.o x hxm));have PX:=Lv (PRK.o x hxm);have CO2:=Lv (show r=if (vis xs mt k (way ++ [pl]) (name ++ x.1) x.2 (m',s')).1≠0 then vis xs mt k (way ++ [pl]) (name ++ x.1) x.2 (m',s') else visK (vis xs mt k (way ++ [pl])) name (L.drop (j + 1)) 0 (vis xs mt k (way ++ [pl]) (name ++ x.1) x.2 (m',s')).2 by
      obtain ⟨hjj,he⟩:=List.getElem?_eq_some_iff.1 hx;have h:=CO.o;rw [List.drop_eq_getElem_cons hjj,he] at h;exact h)
     obtain ⟨gq,oq,rfl,c0,c1⟩:=KD7.o j x hx;obtain ⟨xe,xp⟩:=x;have hcat:SN ++ strOfNums xe=strOfNums (name ++ xe):=by rw [HSN.o,strOfNums_app]
     simp only [] at c0 c1 KO PX CO2;have g8:=grown1 wr (.cells #[.string (strOfNums xe),.int .u64 xp] 145);have X8:=Lv (show Ku (wr.alloc (.cells #[.string (strOfNums xe),.int .u64 xp] 145)) wr.heap.size (xe,xp) from heap_alloc_new wr _);have K8:=Lv (K7.o.grown M g8);have C8:=Lv (C7.o.trans (Chg.of_grown g8 (fun b e=>by cases e)));have KD8:=Lv (KD7.o.grown g8);have QS8:=Lv (show gq < wr.heap.size from by have:=World.block_lt_of_cell? wr _ c0;exact this)
     obtain ⟨w8,hw8⟩:∃ w8,wr.alloc (.cells #[.string (strOfNums xe),.int .u64 xp] 145)=w8:=⟨_,rfl⟩
     obtain ⟨gk,hgk⟩:∃ gk,wr.heap.size=gk:=⟨_,rfl⟩
     rw [hw8] at X8 K8 C8 KD8;rw [hgk] at X8 QS8;have HW8:=Lv hw8;have HGK:=Lv hgk;have S8:=Lv (show gk < w8.heap.size from X8.o.lt);have X1:=Lv (show 1≤xe.length by
      have h:=KO.o.ne;cases xe with
      | nil=>exact absurd rfl h
      | cons=>simp)
     have hsx:(strOfNums xe).size=xe.length:=strOfNums_size _;have hxl:xe.length≤255:=KO.o.len;have dl:decide ((j:Int) < (L.length:Int))=true:=by simp;omega
     have hjl:(j:Int) < (L.length:Int):=by omega
     clear g8 hw8 hgk hx hxm K7 C7 KD7 CO;go_upto_region 16 with fail;rw [HW8.o,HGK.o];clear HW8 HGK c0 c1;have x0:=X8.o.c0;have x1:=X8.o.c1;have xl:=X8.o.lt;have v0:=K8.o.vi.c;unfold Wfx.caps at v0;have CALL:=Lv (IH.o w8 F' m' (way ++ [pl]) s' (name ++ xe) xp (by rw [List.length_append,← HNL.o];have:=X1.o;omega) (by rw [List.length_append,← HNL.o];have:=KO.o.len;simp only [] at this;omega) PX.o KO.o.lo KO.o.hi hm'
      (by rw [List.length_append,List.length_append,List.length_singleton,← HNL.o];have:=X1.o;omega) (FJ.out (.inl hlt)) K8.o)
     obtain ⟨⟨R,m9,s9⟩,hR⟩:∃ x,x=vis xs mt k (way ++ [pl]) (name ++ xe) xp (m',s'):=⟨_,rfl⟩
     rw [← hR] at CALL CO2;clear hR;go_wp2_with fail;refine CALL.o.mono ?_
     rintro e w9 ⟨rfl,⟨F9,k9,f9⟩,c9,few9⟩;have K9:=Lv k9;have F9H:=Lv (show ∀ k,F9 k→F k∨W.heap.size≤k from fun k hk=>(f9 k hk).elim (F7.o k) (fun e=>.inr (by have:=C8.o.size;omega)));have C9:=Lv (show Chg F W w9 from ⟨c9.os.trans C8.o.os,c9.tape.trans C8.o.tape,c9.output.trans C8.o.output,Nat.le_trans C8.o.size c9.size,fun i hi hn=>(c9.block i (Nat.lt_of_lt_of_le hi C8.o.size) (fun e=>(F7.o i e).elim hn (fun e=>by omega))).trans (C8.o.block i hi hn)⟩)
     have KD9:=Lv (KD8.o.chg c9 Q7.o);have Q9:=Lv (show ∀ g o,(some ⟨gq,oq,none⟩:Option Addr)=some ⟨g,o,none⟩→¬ F9 g from fun g o e hk=>(f9 g hk).elim (Q7.o g o e) (fun h=>by
      injection e with e;injection e with e _ _;subst e
      have:=QS8.o;have:=S8.o;omega))
     have FEW9:=Lv few9;simp only [] at K9 FEW9 CO2;clear k9 f9 c9 few9 CALL K8 C8 KD8 QS8 S8 X8 x0 x1 xl v0 hcat;by_cases hR0:R=0
     ·have dr:(R != 0)=false:=by rw [hR0];rfl
      have CO3:=Lv (show r=visK (vis xs mt k (way ++ [pl])) name (L.drop (j + 1)) 0 (m9,s9) by
        have h:=CO2.o;rw [if_neg (fun h=>h hR0)] at h;exact h)
      have M9:=Lv (FEW9.o hR0);clear CO2 FEW9;subst hR0;go_wp2;go_roundw
      case rel=>exact ⟨j + 1,0,F9,m9,s9,hlt,by go_num,rfl,K9.o,F9H.o,C9.o,KD9.o,Q9.o,Lv CO3.o,M9.o.1,Lv (fun _=>M9.o.2)⟩
      case measure=>simp [intOf];omega
     ·have dr:(R != 0)=true:=by simpa using hR0
      have RQ:=Lv (show r=(R,(m9,s9)) by
        have h:=CO2.o;rw [if_pos hR0] at h;exact h)
      have HR0:=Lv hR0;clear CO2 hR0;have FWX:=Lv (And.intro (F9H.o) (C9.o));obtain ⟨q8,c8,a1,a2,a3⟩:=(K9.o).way;have PP:=Lv (fun hc=>Wk.pop M (K9.o) (q:=q8) (cap:=c8) hc);obtain ⟨b8,o8,hq8⟩:∃ b o,q8=some ⟨b,o,none⟩:=by
        rcases a2.2 with ⟨_,hn⟩ | ⟨g,cp,cur,hv,_⟩
        ·rw [List.length_append,List.length_singleton] at hn;omega
        ·injection hv with hv _ _;exact ⟨g,0,hv⟩
      subst hq8;have hN8:(way ++ [pl]).length=way.length + 1:=by rw [List.length_append,List.length_singleton]
      have hr8:(way ++ [pl]).length≤c8:=Jw a2;obtain ⟨N8,hNN⟩:∃ n,n=(way ++ [pl]).length:=⟨_,rfl⟩
      rw [← hNN] at a1 PP hN8 hr8;have hsub8:(N8:Int) - 1=(way.length:Int):=by omega
      have CH:=Rl (T:=129) (k:=1) (by kernel_rfl) (fun W=>by kernel_rfl) b8 o8 N8 c8 way.length .i64 (by omega);have w8:=a1.c;have f8:=a1.f;have l8:=a1.lt;have FN:=Lv (show VOut S Fine z xs Inv F W _ way r (.returned (.int .i64 R)) by
        have h:=PP.o w8;have hf:=FWX.o;rw [RQ.o];exact VOut.at h.1 hf.1 (⟨h.2.os.trans hf.2.os,h.2.tape.trans hf.2.tape,h.2.output.trans hf.2.output,Nat.le_trans hf.2.size h.2.size,fun i hi hn=>(h.2.block i (Nat.lt_of_lt_of_le hi hf.2.size) (fun e=>(hf.1 i e).elim hn (fun e=>by omega))).trans (hf.2.block i hi hn)⟩) (fun e=>absurd e HR0.o))
      have hN863:way.length≤9223372036854775807:=by omega
      clear a1 a2 a3 hNN;go_wp2;go_ret
      exact FN.o
    ·have hjL:j=L.length:=by omega
     have RQ:=Lv (show r=(ej,(m',s')) by
      have h:=CO.o;rw [hjL,List.drop_length] at h;exact h)
     have dl:decide ((j:Int) < (L.length:Int))=false:=by simp;omega
     have dl2:decide (j < L.length)=false:=by simp;omega
     clear CO hjL hlt;have FWX:=Lv (And.intro (F7.o) (C7.o));obtain ⟨q8,c8,a1,a2,a3⟩:=(K7.o).way;have PP:=Lv (fun hc=>Wk.pop M (K7.o) (q:=q8) (cap:=c8) hc);obtain ⟨b8,o8,hq8⟩:∃ b o,q8=some ⟨b,o,none⟩:=by
      rcases a2.2 with ⟨_,hn⟩ | ⟨g,cp,cur,hv,_⟩
      · rw [List.length_append,List.length_singleton] at hn;omega
      · injection hv with hv _ _;exact ⟨g,0,hv⟩
     subst hq8;have hN8:(way ++ [pl]).length=way.length + 1:=by rw [List.length_append,List.length_singleton]
     have hr8:(way ++ [pl]).length≤c8:=Jw a2;obtain ⟨N8,hNN⟩:∃ n,n=(way ++ [pl]).length:=⟨_,rfl⟩
     rw [← hNN] at a1 PP hN8 hr8;have hsub8:(N8:Int) - 1=(way.length:Int):=by omega
     have CH:=Rl (T:=129) (k:=1) (by kernel_rfl) (fun W=>by kernel_rfl) b8 o8 N8 c8 way.length .i64 (by omega);have w8:=a1.c;have f8:=a1.f;have l8:=a1.lt;have FN:=Lv (show VOut S Fine z xs Inv F W _ way r (.returned (.int .i64 ej)) by
      have h:=PP.o w8;have hf:=FWX.o;rw [RQ.o];exact VOut.at h.1 hf.1 (⟨h.2.os.trans hf.2.os,h.2.tape.trans hf.2.tape,h.2.output.trans hf.2.output,Nat.le_trans hf.2.size h.2.size,fun i hi hn=>(h.2.block i (Nat.lt_of_lt_of_le hi hf.2.size) (fun e=>(hf.1 i e).elim hn (fun e=>by omega))).trans (hf.2.block i hi hn)⟩) (fun h=>⟨hm',FJ.out (.inr h)⟩))
     have hN863:way.length≤9223372036854775807:=by omega
     clear a1 a2 a3 hNN;go_wp2;go_ret
     exact FN.o
end
end
section
variable {w w' W V:World} {xs:List Int}
def Yj {S:Type} (xs:List Int) (mt:Mt S) (s:S):Int × S:=if xs=[] then (0,s) else ((vis xs mt 257 [] [] 0 (0,s)).1,(vis xs mt 257 [] [] 0 (0,s)).2.2)
structure WOut (S:Type) (Fine:S→Prop) (Inv:World→(Nat→Prop)→S→Prop) (G:Nat→Prop) (W W':World) (r:Int × S) (e:Ending):Prop where
 ret:e=.returned (.int .i64 r.1)
 ex:∃ G',Inv W' G' r.2∧∀ k,G' k→G k∨W.heap.size≤k
 chg:Chg G W W'
 few:r.1=0→Fine r.2
section
variable {S:Type} {mt:Mt S} {Pre:List Int→Prop} {Fine:S→Prop} {Inv:World→(Nat→Prop)→S→Prop} {fm:Nat} {cbs:Array Value}
theorem walk_any (M:Gj S fm cbs mt Pre Fine Inv) (hp:Pre []) {G:Nat→Prop} {s:S} (hfs:Fine s) (hi:Inv W G s) (hG:∀ k,G k→k < W.heap.size) {b o c:Nat} (hx:∀ i,i < xs.length→W.cell? ⟨b,o + i,none⟩=some (.int .u8 (xs.getD i 0))) (hn:xs≠[]) (hgb:¬ G b)
  (hb:Byt xs) (hc:xs.length≤c) (hcm:c≤9223372036854775807) (hbig:xs.length≤140737488355328) :
  Calls Tryz.prog 40 #[.slice (some ⟨b,o,none⟩) xs.length c,.func (.func fm) #[] cbs] W fun e W'=>WOut S Fine Inv G W W' (Yj xs mt s) e:=by
 have hz : 0 < xs.length:=by
  cases xs with
  | nil=>exact absurd rfl hn
  | cons=>simp
 have hbl:=World.block_lt_of_cell? W _ (hx 0 hz)
 simp only at hbl
 have dz:decide ((xs.length:Int)=0)=false:=by simp;omega
 have dz2:((xs.length:Int) == 0)=false:=by rw [beq_eq_false_iff_ne];omega
 obtain ⟨n,hn'⟩:∃ n,n=W.heap.size:=⟨_,rfl⟩
 rw [← hn'] at hbl hG;have g0:=grown1 W (.cells #[.slice (some ⟨b,o,none⟩) xs.length c] 29);have o0:=Xv.new W (.slice (some ⟨b,o,none⟩) xs.length c) 29;have z0:(W.alloc (.cells #[.slice (some ⟨b,o,none⟩) xs.length c] 29)).heap.size=n + 1:=by rw [World.size_alloc,hn']
 rw [← hn'] at o0;obtain ⟨V0,hV0⟩:∃ V0,W.alloc (.cells #[.slice (some ⟨b,o,none⟩) xs.length c] 29)=V0:=⟨_,rfl⟩
 rw [hV0] at g0 o0 z0;have g1:=grown1 V0 (.cells #[.func (.func fm) #[] cbs] 88);have o1:=Xv.new V0 (.func (.func fm) #[] cbs) 88;have z1:(V0.alloc (.cells #[.func (.func fm) #[] cbs] 88)).heap.size=n + 1 + 1:=by rw [World.size_alloc,z0]
 rw [z0] at o1;obtain ⟨V1,hV1⟩:∃ V1,V0.alloc (.cells #[.func (.func fm) #[] cbs] 88)=V1:=⟨_,rfl⟩
 rw [hV1] at g1 o1 z1;have g2:=grown1 V1 (.cells #[.int .i64 0] 3);have o2:=Xv.new V1 (.int .i64 0) 3;have z2:(V1.alloc (.cells #[.int .i64 0] 3)).heap.size=n + 1 + 1 + 1:=by rw [World.size_alloc,z1]
 rw [z1] at o2;obtain ⟨V2,hV2⟩:∃ V2,V1.alloc (.cells #[.int .i64 0] 3)=V2:=⟨_,rfl⟩
 rw [hV2] at g2 o2 z2;have g3:=grown1 V2 (.cells #[.slice none 0 0] 129);have o3:=Xv.new V2 (.slice none 0 0) 129;have z3:(V2.alloc (.cells #[.slice none 0 0] 129)).heap.size=n + 1 + 1 + 1 + 1:=by rw [World.size_alloc,z2]
 rw [z2] at o3;obtain ⟨V3,hV3⟩:∃ V3,V2.alloc (.cells #[.slice none 0 0] 129)=V3:=⟨_,rfl⟩
 rw [hV3] at g3 o3 z3;have g4:=grown1 V3 (.cells #[.nilFunc] 139);have o4:=Xv.new V3 .nilFunc 139;have z4:(V3.alloc (.cells #[.nilFunc] 139)).heap.size=n + 1 + 1 + 1 + 1 + 1:=by rw [World.size_alloc,z3]
 rw [z3] at o4;obtain ⟨V4,hV4⟩:∃ V4,V3.alloc (.cells #[.nilFunc] 139)=V4:=⟨_,rfl⟩
 rw [hV4] at g4 o4 z4;have g5:=Qx (i:=0) (Qq V4 (some (n + 1 + 1 + 1 + 1))) (.func (.func 70) #[] #[.pointer (some ⟨n + 1 + 1,0,none⟩),.pointer (some ⟨n + 1 + 1 + 1,0,none⟩),.pointer (some ⟨n,0,none⟩),.pointer (some ⟨n + 1,0,none⟩),.pointer (some ⟨n + 1 + 1 + 1 + 1,0,none⟩)]);have o5:=o4.set (.func (.func 70) #[] #[.pointer (some ⟨n + 1 + 1,0,none⟩),.pointer (some ⟨n + 1 + 1 + 1,0,none⟩),.pointer (some ⟨n,0,none⟩),.pointer (some ⟨n + 1,0,none⟩),.pointer (some ⟨n + 1 + 1 + 1 + 1,0,none⟩)])
 have c4:=o4.c;have f4:=o4.f;have l4:=o4.lt;obtain ⟨V5,hV5⟩:∃ V5,V4.setCell ⟨n + 1 + 1 + 1 + 1,0,none⟩ (.func (.func 70) #[] #[.pointer (some ⟨n + 1 + 1,0,none⟩),.pointer (some ⟨n + 1 + 1 + 1,0,none⟩),.pointer (some ⟨n,0,none⟩),.pointer (some ⟨n + 1,0,none⟩),.pointer (some ⟨n + 1 + 1 + 1 + 1,0,none⟩)])=V5:=⟨_,rfl⟩
 rw [hV5] at g5 o5;have g04:=Qz (Qz (Qz (Qz g0 g1) g2) g3) g4;have g14:=Qz (Qz (Qz g1 g2) g3) g4;have ch5:Chg (fun k=>n < k) W V5:=(Chg.of_grown g04 (fun b e=>by cases e)).trans (Chg.of_grown g5 (fun b e=>by injection e with e;exact .inl (by omega)));have s5:V5.heap.size=n + 1 + 1 + 1 + 1 + 1:=by rw [← hV5,← z4];simp
 have ne4:∀ k,k≠n + 1 + 1 + 1 + 1→(some (n + 1 + 1 + 1 + 1):Option Nat)≠some k:=fun k hk e=>by injection e with e;omega
 have K5:=Lv (show Wk S ⟨0,n + 1 + 1,n + 1 + 1 + 1,n,n + 1,n + 1 + 1 + 1 + 1,b,o,c,fm,cbs⟩ xs Inv V5 (fun k=>G k∨k=n + 1 + 1∨k=n + 1 + 1 + 1) 0 [] s from
  { met:=((o2.grown g3).grown g4).kept g5 (ne4 _ (by omega))
    way:=⟨none,0,(o3.grown g4).kept g5 (ne4 _ (by omega)),World.ownsRow_nil _ _ _ _,fun g e=>by cases e⟩
    inv:=⟨G,fun k hk=>.inl hk,M.kept _ _ _ _ _ hi ch5 (fun k hk e=>by have:=hG k hk;omega),fun hk=>by have:=hG _ hk;simp only at this;omega,fun hk=>by have:=hG _ hk;simp only at this;omega,fun q n' cap e g eg hk=>by
     rw [((o3.grown g4).kept g5 (ne4 _ (by omega))).c] at e;injection e with e;injection e with e1 e2 e3;subst e1;cases eg⟩
    fmet:=.inr (.inl rfl)
    fway:=.inr (.inr rfl)
    fb:=fun k hk=>⟨Nat.zero_le _,by rw [s5];rcases hk with hk | hk | hk;have:=hG k hk;omega;omega;omega⟩
    bb:=(o0.grown g14).kept g5 (ne4 _ (by omega))
    me:=(((o1.grown g2).grown g3).grown g4).kept g5 (ne4 _ (by omega))
    vi:=o5
    nb:=fun hk=>hk.elim (fun hk=>by have:=hG _ hk;simp only at this;omega) (fun hk=>by simp only at hk;omega)
    nm:=fun hk=>hk.elim (fun hk=>by have:=hG _ hk;simp only at this;omega) (fun hk=>by simp only at hk;omega)
    nv:=fun hk=>hk.elim (fun hk=>by have:=hG _ hk;simp only at this;omega) (fun hk=>by simp only at hk;omega)
    cell:=fun i hi=>Je (hx i hi) ch5 (by simp only;omega)
    nx:=fun hk=>hk.elim hgb (fun hk=>by simp only at hk;omega)
    ne:=by simp only;omega
    nz:=hz })
 have CALL:=Lv (visit_any (z:=⟨0,n + 1 + 1,n + 1 + 1 + 1,n,n + 1,n + 1 + 1 + 1 + 1,b,o,c,fm,cbs⟩) M hb hc hcm hbig 257 V5 _ 0 [] s [] 0 (by simp) (by simp) hp (Int.le_refl _) (by decide) (by omega) (Nat.le_refl _) hfs K5.o);have CE:=Lv ch5;have v5:=o5.c;have HW:=Lv (And.intro hV0 (And.intro hV1 (And.intro hV2 (And.intro hV3 (And.intro hV4 hV5)))));have HN:=Lv hn';have hwn:Yj xs mt s=((vis xs mt 257 [] [] 0 (0,s)).1,(vis xs mt 257 [] [] 0 (0,s)).2.2):=if_neg hn
 have WN:=Lv hwn;clear g0 g1 g2 g3 g4 g5 o0 o1 o2 o3 o4 o5 z0 z1 z2 z3 z4 hV0 hV1 hV2 hV3 hV4 hV5 g04 g14 ch5 s5 ne4 K5 hi hG hx hgb hn' hwn hn;simp only [] at CALL;rw [show strOfNums []=(⟨#[]⟩:ByteArray) from rfl] at CALL;go_enter Tryz.func40,Tryz.ntmps40;go_upto_region 6 with fail;rw [← HN.o,HW.o.1,HW.o.2.1,HW.o.2.2.1,HW.o.2.2.2.1,HW.o.2.2.2.2.1];go_upto_region 7 with fail;rw [HW.o.2.2.2.2.2]
 go_wp2_with fail;refine CALL.o.mono ?_
 rintro e w' ⟨rfl,⟨F',k',f'⟩,c',few⟩;obtain ⟨G',b1,b2,_,_,_⟩:=k'.inv;have FN:=Lv (show WOut S Fine Inv G W w' (Yj xs mt s) (.returned (.int .i64 (vis xs mt 257 [] [] 0 (0,s)).1)) by
  rw [WN.o];refine ⟨rfl,⟨G',b2,fun k hk=>?_⟩,?_,fun h=>(few h).2⟩
  · have hs:=CE.o.size
    have hnn:=HN.o;rcases f' k (b1 k hk) with h | h
    ·rcases h with h | h
     ·exact .inl h
     ·exact .inr (by omega)
    ·exact .inr (by omega)
  · have ce:=CE.o
    have hnn:=HN.o;exact ⟨c'.os.trans ce.os,c'.tape.trans ce.tape,c'.output.trans ce.output,Nat.le_trans ce.size c'.size,fun i hi hf=>(c'.block i (Nat.lt_of_lt_of_le hi ce.size) (fun e=>e.elim hf (fun e=>by omega))).trans (ce.block i hi (by omega))⟩)
 generalize (vis xs mt 257 [] [] 0 (0,s)).1=r at *;clear k' f' c' few b1 b2;go_wp2;go_ret
 exact FN.o
theorem walk_no (q:Option Addr) (c fm:Nat) (cbs:Array Value) :
  Calls Tryz.prog 40 #[.slice q 0 c,.func (.func fm) #[] cbs] W fun e W'=>e=.returned (.int .i64 0)∧W.grownBy W' none:=by
 go_enter Tryz.func40,Tryz.ntmps40;go_wp2;go_ret
 exact ⟨rfl,Qz (grown1 W _) (grown1 _ _)⟩
end
end
section
variable {w w' W V:World} {xs:List Int}
def Q4 (y:List Int × Ex):List Value:=exCs (strOfNums y.1) y.2
theorem Yt (y:List Int × Ex):(Q4 y).length=7:=rfl
theorem Vt:Kx Tryz.prog 28 23 7 72:=.mk' Tryz.underlying23 (z:=.agg #[.string ⟨#[]⟩,.int .i64 0,.bool false,.int .u64 0,.int .u64 0,.int .u64 0,.string ⟨#[]⟩]) (by kernel_rfl) rfl (by decide)
def Hq (cl:Nat) (W:World) (G:Nat→Prop) (out:Out):Prop :=
 ∃ q c,Xv W cl (.slice q out.length c) 23∧W.ownsRow 0 28 7 (.slice q out.length c) out.length (out.flatMap Q4)∧G cl∧∀ g,(Value.slice q out.length c).ownBlock=some g→G g
theorem invAll_kept {cl:Nat} {G H:Nat→Prop} {out:Out} (h:Hq cl W G out) (hg:Chg H W V) (hd:∀ k,G k→¬ H k):Hq cl V G out:=by
 obtain ⟨q,c,h1,h2,h3,h4⟩:=h;exact ⟨q,c,h1.chg hg (hd _ h3),ownsRow_chg h2 hg (fun g e=>hd g (h4 g e)),h3,h4⟩
theorem all1_any {cl:Nat} {G:Nat→Prop} {out:Out} {name:List Int} {nd:Nd} {v:Value} {base:Nat} (h:Hq cl W G out) (hf:out.length≤4096) (hk:NdOk nd) (ho:W.ownsRow base 145 2 v nd.kids.length (nd.kids.flatMap Hp)) (hv:∀ g,v.ownBlock=some g→¬ G g) (hG:∀ k,G k→k < W.heap.size) :
  Calls Tryz.prog 41 #[.string (strOfNums name),Kw nd.ex.isSome (nmOf (strOfNums name) nd.ex) (exOf nd.ex) v,.pointer (some ⟨cl,0,none⟩)] W fun e W'=>MOut Out Zh (Hq cl) out name nd v G W W' e:=by
 obtain ⟨q,c,rfl⟩:=Qp ho;obtain ⟨ql,cl',a1,a2,a3,a4⟩:=h;obtain ⟨ex,kids⟩:=nd;simp only [] at ho hv hk ⊢;have hkl:kids.length≤255:=hk.few;have hrm:=Jw ho;have hc63:c≤9223372036854775807:=by
  rcases ho.2 with ⟨hn,_⟩ | ⟨g,cp,cur,hn,_,_,_,hm,_⟩
  ·injection hn with _ _ e;omega
  ·injection hn with _ _ e;unfold maxLen at hm;omega
 have KS:=Lv (fun (V:World) (hg:Chg G W V)=>(Xp.of ho).chg hg (fun g o e=>hv g (by rw [e];rfl)));have QV:=Lv (fun g o (e:q=some ⟨g,o,none⟩)=>(show (Value.slice q kids.length c).ownBlock=some g by rw [e];rfl));have HK:=Lv (And.intro hrm hc63);cases ex with
 | none =>
  have eN:Zh out name ⟨none,kids⟩=(out,kids,0):=if_neg (by show ¬ 4096 < out.length;omega);simp only [Option.isSome,nmOf,exOf,Kw];have g1:=grown1 W (.cells #[.bool false,.string ⟨#[]⟩,.int .i64 Ex.zero.kind,.bool Ex.zero.weak,.int .u64 Ex.zero.value,.int .u64 Ex.zero.resolver,.int .u64 Ex.zero.ordinal,.string (strOfNums Ex.zero.other),.slice q kids.length c] 87);have n1:=a1.grown g1;have l1:=n1.c
  have ch:Chg G W _:=Chg.of_grown g1 (fun b e=>by cases e);have FN:=Lv (show MOut Out Zh (Hq cl) out name ⟨none,kids⟩ (.slice q kids.length c) G W _ (.returned (.tuple #[.slice q kids.length c,.int .i64 0])) from
   ⟨⟨q,c,G,by rw [eN],by rw [eN];exact ⟨ql,cl',n1,Qy a2 g1,a3,a4⟩,fun k hk=>.inl hk,by rw [eN];exact KS.o _ ch,QV.o,by rw [eN];exact hrm,hc63⟩,ch⟩)
  have dl:decide ((4096:Int) < (out.length:Int))=false:=by simp;omega
  clear a1 a2 a3 a4 g1 n1 ch ho hv hk hG eN;go_enter Tryz.func41,Tryz.ntmps41;go_wp2;go_ret2
  exact FN.o
 | some x =>
  have eN:Zh out name ⟨some x,kids⟩=if 4096 < out.length + 1 then (out ++ [(name,x)],[],11) else (out ++ [(name,x)],kids,0):=by
   unfold Zh;rw [show outN out name ⟨some x,kids⟩=out ++ [(name,x)] from rfl,List.length_append,List.length_singleton]
  simp only [Option.isSome,nmOf,exOf,Kw];have SE:=Lv (show exCs (strOfNums name) x=[.string (strOfNums name),.int .i64 x.kind,.bool x.weak,.int .u64 x.value,.int .u64 x.resolver,.int .u64 x.ordinal,.string (strOfNums x.other)] from rfl);have OC:=Lv (show (out ++ [(name,x)]).flatMap Q4=out.flatMap Q4 ++ exCs (strOfNums name) x by rw [List.flatMap_append,List.flatMap_singleton];rfl)
  have ON:=Lv (J5 (strOfNums name) x);obtain ⟨SN,hSN⟩:∃ z,z=strOfNums name:=⟨_,rfl⟩
  rw [← hSN] at SE OC ON ⊢;clear hSN;have g1:=grown1 W (.cells #[.bool true,.string SN,.int .i64 x.kind,.bool x.weak,.int .u64 x.value,.int .u64 x.resolver,.int .u64 x.ordinal,.string (strOfNums x.other),.slice q kids.length c] 87);have N1:=Lv (show Qn (W.alloc (.cells #[.bool true,.string SN,.int .i64 x.kind,.bool x.weak,.int .u64 x.value,.int .u64 x.resolver,.int .u64 x.ordinal,.string (strOfNums x.other),.slice q kids.length c] 87)) W.heap.size true SN x (.slice q kids.length c) from heap_alloc_new W _)
  obtain ⟨W1,hW1⟩:∃ W1,W.alloc (.cells #[.bool true,.string SN,.int .i64 x.kind,.bool x.weak,.int .u64 x.value,.int .u64 x.resolver,.int .u64 x.ordinal,.string (strOfNums x.other),.slice q kids.length c] 87)=W1:=⟨_,rfl⟩
  obtain ⟨gn,hgn⟩:∃ gn,W.heap.size=gn:=⟨_,rfl⟩
  rw [hW1] at g1 N1;rw [hgn] at N1;have g2:=grown1 W1 (.cells #[.string SN,.int .i64 x.kind,.bool x.weak,.int .u64 x.value,.int .u64 x.resolver,.int .u64 x.ordinal,.string (strOfNums x.other)] 28);have A1:=Lv (a1.grown g1);have A2:=Lv ((a1.grown g1).grown g2);have O2:=Lv (Qy (Qy a2 g1) g2);have X2:=Lv (heap_alloc_new W1 (.cells #[.string SN,.int .i64 x.kind,.bool x.weak,.int .u64 x.value,.int .u64 x.resolver,.int .u64 x.ordinal,.string (strOfNums x.other)] 28))
  have M2:=Lv (N1.o.kept g2 (by simp));have G2:=Lv (Qz g1 g2);have AG:=Lv (And.intro a3 a4);have HG:=Lv hG;have HV:=Lv hv;have EN:=Lv eN;have RL:=Lv (fun g e=>(a2.lt g e).2);have HW1:=Lv hW1;have HGN:=Lv hgn;have c1:=(a1.grown g1).c;have cl1:=(a1.grown g1).lt;clear a1 a2 a3 a4 g1 g2 ho hv hk hG eN hW1 hgn;go_enter Tryz.func41,Tryz.ntmps41;go_upto_region 1 with fail
  rw [HW1.o,HGN.o];have HGN2:=HGN.o;clear HW1 HGN;obtain ⟨d0,d1,d2,d3,d4,d5,d6,d7,d8⟩:=N1.o.c;have dl:=N1.o.lt;go_upto_region 2 with fail;go_wp2_with (at_builtin;refine Zz Vt rfl _ _ rfl _ out.length _ rfl O2.o [.string SN,.int .i64 x.kind,.bool x.weak,.int .u64 x.value,.int .u64 x.resolver,.int .u64 x.ordinal,.string (strOfNums x.other)] rfl W1.heap.size rfl X2.o (by rw [← SE.o];exact ON.o) (by omega) (by decide) (Nat.zero_le _) ?_)
  intro v' W3 ho3 hg3 hv3;obtain ⟨q3,c3,rfl⟩:=Qp ho3;have a3:=A2.o.kept hg3 (Zb O2.o A2.o (by decide));have m3:=M2.o.kept hg3 (Zb O2.o M2.o (by decide));have w3:=a3.c;have f3:=a3.f;have l3:=a3.lt;have g4:=Qx (i:=0) (Qq W3 (some cl)) (.slice q3 (out.length + 1) c3);have a4:=a3.set (.slice q3 (out.length + 1) c3);have hne4:(Value.slice q3 (out.length + 1) c3).ownBlock≠some cl:=Zb ho3 a3 (by decide)
  have o4:=ho3.kept g4 (.inr hne4);have m4:=m3.kept g4 (by intro e;injection e with e;have:=HG.o cl AG.o.1;omega);have ch4:Chg G W (W3.setCell ⟨cl,0,none⟩ (.slice q3 (out.length + 1) c3)) :=
   ((Chg.of_grown G2.o (fun b e=>by cases e)).trans (Chg.of_grown hg3 (fun b e=>.inl (AG.o.2 b e)))).trans (Chg.of_grown g4 (fun b e=>by injection e with e;exact .inl (e ▸ AG.o.1)))
  have szz:W.heap.size≤(W1.alloc (.cells #[.string SN,.int .i64 x.kind,.bool x.weak,.int .u64 x.value,.int .u64 x.resolver,.int .u64 x.ordinal,.string (strOfNums x.other)] 28)).heap.size:=G2.o.size;obtain ⟨W4,hW4⟩:∃ W4,W3.setCell ⟨cl,0,none⟩ (.slice q3 (out.length + 1) c3)=W4:=⟨_,rfl⟩
  rw [hW4] at g4 a4 o4 m4 ch4;have hv4:∀ g,(Value.slice q3 (out.length + 1) c3).ownBlock=some g→G g∨(W.heap.size≤g∧g < W4.heap.size):=fun g e=>by
   rcases hv3 with h | h
   · rw [h] at e;exact .inl (AG.o.2 g e)
   · have h2:=(o4.lt g e).2
     rw [h] at e;injection e with e;exact .inr ⟨by omega,h2⟩
  have FN:=Lv (fun (L:List Kid) (er:Int) (qq:Option Addr) (cc:Nat) (hmt:Zh out name ⟨some x,kids⟩=(out ++ [(name,x)],L,er)) (hL:Xp W4 qq L) (hq:∀ g o,qq=some ⟨g,o,none⟩→(Value.slice q kids.length c).ownBlock=some g) (hcc:L.length≤cc) (hc3:cc≤9223372036854775807) =>
   (show MOut Out Zh (Hq cl) out name ⟨some x,kids⟩ (.slice q kids.length c) G W W4 (.returned (.tuple #[.slice qq L.length cc,.int .i64 er])) from
   ⟨⟨qq,cc,fun k=>G k∨(Value.slice q3 (out.length + 1) c3).ownBlock=some k,by rw [hmt],by
     rw [hmt];refine ⟨q3,c3,?_,?_,.inl AG.o.1,?_⟩
     ·rw [List.length_append,List.length_singleton];exact a4
     ·rw [List.length_append,List.length_singleton,OC.o,SE.o];exact o4
     ·rw [List.length_append,List.length_singleton];exact fun g e=>.inr e,fun k hk=>hk.elim .inl (hv4 k),by rw [hmt];exact hL,hq,by rw [hmt];exact hcc,hc3⟩,ch4⟩))
  have K4:=Lv (KS.o W4 ch4);obtain ⟨e0,e1,e2,e3,e4,e5,e6,e7,e8⟩:=m4.c;have ml4:=m4.lt;have cl4:=a4.c;have HW4:=Lv hW4;clear ho3 hg3 hv3 a3 m3 g4 a4 hne4 o4 m4 ch4 szz hv4 hW4 d0 d1 d2 d3 d4 d5 d6 d7 d8 dl c1 cl1 HGN2 KS;by_cases hm : 4096 < out.length + 1
  ·have dm:decide ((4096:Int) < ((out.length + 1:Nat):Int))=true:=by simp;omega
   have dm2:decide ((4096:Int) < (out.length:Int) + 1)=true:=by simp;omega
   have F2:=Lv (FN.o [] 11 none 0 (by rw [EN.o,if_pos hm]) Xp.nil (fun g o e=>by cases e) (Nat.le_refl _) (by decide));clear hm FN;go_upto_region 3 with fail;rw [HW4.o];clear HW4 w3 f3 l3;go_wp2;go_ret2
   exact F2.o
  ·have dm:decide ((4096:Int) < ((out.length + 1:Nat):Int))=false:=by simp;omega
   have dm2:decide ((4096:Int) < (out.length:Int) + 1)=false:=by simp;omega
   have F2:=Lv (FN.o kids 0 q c (by rw [EN.o,if_neg hm]) K4.o QV.o HK.o.1 HK.o.2);clear hm FN;go_upto_region 3 with fail;rw [HW4.o];clear HW4 w3 f3 l3;go_wp2;go_ret2
   exact F2.o
theorem allMeet (cl:Nat):Gj Out 41 #[.pointer (some ⟨cl,0,none⟩)] Zh (fun _=>True) (fun out=>out.length≤4096) (Hq cl) where
 enters:=enters_of Tryz.func41 (by kernel_rfl) rfl
 kept:=fun W V G s H h hg hd=>invAll_kept h hg hd
 sub:=fun s name nd x hx=>by
  unfold Zh at hx
  split at hx
  ·cases hx
  ·exact hx
 pre:=fun _ _ _ _ _ _=>trivial
 next:=fun s name nd hs he=>by
  unfold Zh at he ⊢
  split
  ·rename_i h;rw [if_pos h] at he;cases he
  ·rename_i h;exact Nat.le_of_not_lt h
 stop:=fun s name nd he=>by
  unfold Zh at he ⊢
  split
  ·rfl
  ·rename_i h;rw [if_neg h] at he;exact absurd rfl he
 call:=fun W G s name nd v base h hf _ _ hk ho hv hG=>all1_any h hf hk ho hv hG
end
section
open Go.RowKit Go.Sort
variable {w w':World} {α:Type} [Inhabited α]
theorem grown_sort (enc : α→List Value) (k:Nat) (w:World) (blk off n:Nat) (d:Array α) (os:Array Obj):w.grownBy (sortWorldK enc k w blk off n d os) (some blk):=by
 refine ⟨rfl,rfl,rfl,?_,fun i hi hne=>?_⟩
 ·simp only [sortWorldK,grow,putRowK,putRow,mapBlock,Sort.ahead,Array.size_append,Array.size_modify]
  omega
 ·have hb:blk≠i:=fun e=>hne (by rw [e])
  simp only [sortWorldK,grow,putRowK,putRow,mapBlock,Sort.ahead];rw [Array.getElem?_append_left (by rw [Array.size_modify];exact hi),Array.getElem?_modify,if_neg hb]
omit [Inhabited α] in
theorem own_free {T:TypeId} {k n c g lo:Nat} {xs:List Value} (h:w.ownsRow lo T k (.slice (some ⟨g,0,none⟩) n c) n xs) (j:Nat):w.frozen? ⟨g,j,none⟩=false:=by
 obtain ⟨_,hn | ⟨g',cap,cur,hv,_,hg,_⟩⟩:=h
 ·cases hn.1
 ·injection hv with h1 _ _
  injection h1 with h1;injection h1 with h1 _ _;subst h1;exact Xg hg
omit [Inhabited α] in
theorem Vp {T:TypeId} {k n c lo:Nat} {q:Option Addr} {xs:List Value} (h:w.ownsRow lo T k (.slice q n c) n xs):c≤9223372036854775807:=by
 obtain ⟨_,hn | ⟨g',cap,cur,hv,_,_,_,hm,_⟩⟩:=h
 ·injection hn.1 with _ _ h3;subst h3;exact Nat.zero_le _
 ·injection hv with _ _ h3;subst h3;unfold maxLen at hm;omega
theorem holdsK_own {T:TypeId} {k n c g lo:Nat} {f : α→List Value} {l:List α} (hf:∀ x,(f x).length=k) (h:w.ownsRow lo T k (.slice (some ⟨g,0,none⟩) n c) n (l.flatMap f)):HoldsK f k w g 0 l.toArray:=by
 intro t ht;rw [size_flatK] at ht;have hk : 0 < k:=by
  rcases Nat.eq_zero_or_pos k with e | e
  ·subst e;simp at ht
  ·exact e
 have hd:t / k < l.toArray.size:=Nat.div_lt_of_lt_mul (by rw [Nat.mul_comm];exact ht);have hd':t / k < l.length:=by simpa using hd
 have hm:t % k < k:=Nat.mod_lt _ hk;have hx:l[t / k]?=some (l[t / k]'hd'):=List.getElem?_eq_getElem hd'
 obtain ⟨g',e,hc⟩:=Jz hf h hx hm;injection e with e;injection e with e _ _;subst e;refine ⟨?_,own_free h _⟩;have ea:l.toArray[t / k]! =l[t / k]'hd':=by rw [getElem!_pos l.toArray (t / k) hd];rfl
 rw [Nat.zero_add,get_flatK _ _ _ _ ht,ea,getElem!_pos (f (l[t / k]'hd')) (t % k) (by rw [hf];exact hm)];have e:t / k * k + t % k=t:=by rw [Nat.mul_comm];exact Nat.div_add_mod t k
 rw [e] at hc;show w.cell? ⟨g,t,none⟩=some ((f (l[t / k]'hd'))[t % k]'_)
 rw [hc,List.getElem?_eq_getElem (by rw [hf];exact hm)]
theorem holds_grown (enc : α→List Value) (k:Nat) {blk n:Nat} {d d0:Array α} {os:Array Obj} (h0:HoldsK enc k w blk 0 d0) (hs:d.size=d0.size) (hb:blk < w.heap.size):HoldsK enc k (sortWorldK enc k w blk 0 n d os) blk 0 d :=
 holdsK_sortWorldK_c enc k w blk 0 d0 d n os h0 hb hs
theorem perm_list {d d':Array α} {lt : α→α→Bool} (hp:PermIn 0 d.size d d') (hs:SortedIn lt 0 d.size d'):d'.toList.Perm d.toList∧d'.size=d.size∧∀ i j,i < j→j < d'.size→lt d'[j]! d'[i]! =false:=by
 obtain ⟨h1,_,h3⟩:=hp;refine ⟨?_,h1,fun i j hij hj=>hs i j (Nat.zero_le _) hij (h1 ▸ hj)⟩;rw [show d'.extract 0 d.size=d' from by rw [← h1];exact Array.extract_size,show d.extract 0 d.size=d from Array.extract_size] at h3;exact h3
end
end Go.Proofs.YtkmbkpoclhbmgaaGreat
namespace Go.Proofs
open Go.Shelf
def Tryz.sortExp_ren:Go.Shelf.Ren:=⟨fun | 6=>42 | 15=>74 | 14=>73 | 28=>111 | 29=>112 | 20=>103 | 21=>104 | 22=>105 | 23=>106 | 24=>107 | 25=>108 | 26=>109 | 27=>110 | 46=>138 | 47=>139 | 48=>140 | 49=>141 | 50=>142 | 57=>160 | n=>n,fun | 22=>23 | 24=>28 | 25=>72 | 3=>3 | 39=>148 | 0=>0 | 53=>42 | 55=>26 | 4=>4 | 46=>190 | 45=>189 | 50=>194 | 5=>5 | 9=>9 | 66=>228 | 70=>231 | 76=>249 | 77=>250 | n=>n,fun | n=>n⟩
theorem Tryz.sortExp:Go.Proofs.SlLaysF0.n6 Tryz.prog Tryz.sortExp_ren:={
 mixed:=by kernel_rfl
 f6:=⟨Tryz.f42.name,by decide,Tryz.func42.trans (congrArg some (by kernel_rfl))⟩
 f14:=⟨Tryz.f73.name,by decide,Tryz.func73.trans (congrArg some (by kernel_rfl))⟩
 f15:=Tryz.func74.trans (congrArg some (by kernel_rfl))
 f20:=⟨Tryz.f103.name,by decide,Tryz.func103.trans (congrArg some (by kernel_rfl))⟩
 f21:=⟨Tryz.f104.name,by decide,Tryz.func104.trans (congrArg some (by kernel_rfl))⟩
 f22:=⟨Tryz.f105.name,by decide,Tryz.func105.trans (congrArg some (by kernel_rfl))⟩
 f23:=⟨Tryz.f106.name,by decide,Tryz.func106.trans (congrArg some (by kernel_rfl))⟩
 f24:=⟨Tryz.f107.name,by decide,Tryz.func107.trans (congrArg some (by kernel_rfl))⟩
 f25:=⟨Tryz.f108.name,by decide,Tryz.func108.trans (congrArg some (by kernel_rfl))⟩
 f26:=⟨Tryz.f109.name,by decide,Tryz.func109.trans (congrArg some (by kernel_rfl))⟩
 f27:=⟨Tryz.f110.name,by decide,Tryz.func110.trans (congrArg some (by kernel_rfl))⟩
 f28:=Tryz.func111.trans (congrArg some (by kernel_rfl))
 f29:=Tryz.func112.trans (congrArg some (by kernel_rfl))
 f46:=⟨Tryz.f138.name,by decide,Tryz.func138.trans (congrArg some (by kernel_rfl))⟩
 f47:=Tryz.func139.trans (congrArg some (by kernel_rfl))
 f48:=Tryz.func140.trans (congrArg some (by kernel_rfl))
 f49:=⟨Tryz.f141.name,by decide,Tryz.func141.trans (congrArg some (by kernel_rfl))⟩
 f50:=⟨Tryz.f142.name,by decide,Tryz.func142.trans (congrArg some (by kernel_rfl))⟩
 f57:=⟨Tryz.f160.name,by decide,Tryz.func160.trans (congrArg some (by kernel_rfl))⟩
 t0:=Tryz.underlying0
 a0:=Tryz.isAgg0
 z0:=Tryz.sizeOf0
 v0:=Tryz.zeroValue0
 t3:=Tryz.underlying3
 a3:=Tryz.isAgg3
 z3:=Tryz.sizeOf3
 v3:=Tryz.zeroValue3
 t4:=Tryz.underlying4
 a4:=Tryz.isAgg4
 z4:=Tryz.sizeOf4
 v4:=Tryz.zeroValue4
 t5:=Tryz.underlying5
 a5:=Tryz.isAgg5
 z5:=Tryz.sizeOf5
 v5:=Tryz.zeroValue5
 t9:=Tryz.underlying9
 a9:=Tryz.isAgg9
 z9:=Tryz.sizeOf9
 v9:=Tryz.zeroValue9
 t22:=Tryz.underlying23
 a22:=Tryz.isAgg23
 z22:=Tryz.sizeOf23
 v22:=Tryz.zeroValue23
 t25:=Tryz.underlying72
 a25:=Tryz.isAgg72
 z25:=Tryz.sizeOf72
 v25:=Tryz.zeroValue72
 t39:=Tryz.underlying148
 a39:=Tryz.isAgg148
 z39:=Tryz.sizeOf148
 v39:=Tryz.zeroValue148
 t45:=Tryz.underlying189
 a45:=Tryz.isAgg189
 z45:=Tryz.sizeOf189
 v45:=Tryz.zeroValue189
 t46:=Tryz.underlying190
 a46:=Tryz.isAgg190
 z46:=Tryz.sizeOf190
 v46:=Tryz.zeroValue190
 t50:=Tryz.underlying194
 a50:=Tryz.isAgg194
 z50:=Tryz.sizeOf194
 v50:=Tryz.zeroValue194
 t53:=Tryz.underlying42
 a53:=Tryz.isAgg42
 z53:=Tryz.sizeOf42
 v53:=Tryz.zeroValue42
 t55:=Tryz.underlying26
 a55:=Tryz.isAgg26
 z55:=Tryz.sizeOf26
 v55:=Tryz.zeroValue26
 t66:=Tryz.underlying228
 a66:=Tryz.isAgg228
 z66:=Tryz.sizeOf228
 v66:=Tryz.zeroValue228
 t70:=Tryz.underlying231
 a70:=Tryz.isAgg231
 z70:=Tryz.sizeOf231
 v70:=Tryz.zeroValue231
 t76:=Tryz.underlying249
 a76:=Tryz.isAgg249
 z76:=Tryz.sizeOf249
 v76:=Tryz.zeroValue249
 t77:=Tryz.underlying250
 a77:=Tryz.isAgg250
 z77:=Tryz.sizeOf250
 v77:=Tryz.zeroValue250 }
end Go.Proofs
