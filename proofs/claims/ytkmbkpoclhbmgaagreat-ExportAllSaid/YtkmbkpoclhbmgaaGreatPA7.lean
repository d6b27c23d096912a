/- Parts of the proof, put together: TrF, MkS, ExsA, RKn, MkQ, RefPut, MkN, AppS, MkSaid, Row, OwnS. No condition beyond those that each part names. -/
import Derived.Deep.RegionLaw
import Derived.Test.YtkmbkpoclhbmgaaGreatPA6
set_option maxRecDepth 20000
set_option maxHeartbeats 6400000
namespace Go.Proofs.YtkmbkpoclhbmgaaGreat
open Go.RowKit
variable {w w' W V:World}
section
variable {w w' W V:World} {xs:List Int}
theorem leadN_none {l:List Kid} {rest:List Int} (h:∀ (i:Nat) (y:Kid),l[i]?=some y→pfx y.1 rest=false):J7 l rest=[]:=by
 unfold J7;rw [List.find?_eq_none.2 (fun x hx=>by
  obtain ⟨i,hi,rfl⟩:=List.getElem_of_mem hx;rw [h i _ (List.getElem?_eq_getElem hi)];simp)]
theorem leadN_some {l:List Kid} {rest:List Int} {k:Nat} {x:Kid} (hx:l[k]?=some x) (hp:pfx x.1 rest=true) (h:∀ (i:Nat) (y:Kid),i < k→l[i]?=some y→pfx y.1 rest=false):J7 l rest=[x]:=by
 have e:l.find? (fun k=>pfx k.1 rest)=some x:=by
  obtain ⟨hk,rfl⟩:=List.getElem?_eq_some_iff.1 hx;rw [List.find?_eq_some_iff_getElem];refine ⟨hp,k,hk,rfl,fun j hj=>?_⟩;rw [h j _ hj (List.getElem?_eq_getElem (by omega))];rfl
 unfold J7;rw [e]
theorem V8 (l:List Int) (i j:Nat):(strOfNums l).extract i j=strOfNums ((l.take j).drop i):=by
 apply ByteArray.ext
 apply Array.ext'
 rw [ByteArray.data_extract,Array.toList_extract,strOfNums_data,strOfNums_data,List.extract_eq_take_drop,List.map_drop,List.map_take];rw [List.drop_take]
theorem hasPrefix0_any (a b:List Int) (ha:Byt a) (hb:Byt b) (W:World):Calls Tryz.prog 195 #[.string (strOfNums a),.string (strOfNums b)] W fun e w'=>e=.returned (.bool (pfx b a))∧w'=W:=by
 have s1:(strOfNums a).size=a.length:=strOfNums_size _;have s2:(strOfNums b).size=b.length:=strOfNums_size _;by_cases hl:b.length≤a.length
 ·have PX:=Lv (show (((strOfNums a).extract 0 b.length).toList == (strOfNums b).toList)=pfx b a by
   rw [V8,List.drop_zero,Lib.strOfNums_toList b,text_is (ha.take _) hb];unfold pfx;rw [decide_eq_true hl,Bool.true_and])
  clear ha hb;go_enter Tryz.func195,Tryz.ntmps195;go_wp2;go_ret
  exact ⟨Vu PX.o,rfl⟩
 ·have PX:=Lv (show false=pfx b a by unfold pfx;rw [decide_eq_false hl,Bool.false_and])
  have dl:decide ((b.length:Int)≤(a.length:Int))=false:=by simp;omega
  have dl2:decide (b.length≤a.length)=false:=by simp;omega
  clear ha hb hl;go_enter Tryz.func195,Tryz.ntmps195;go_wp2;go_ret
  exact ⟨Vu PX.o,rfl⟩
theorem hasPrefix_any (a b:List Int) (ha:Byt a) (hb:Byt b) (W:World):Calls Tryz.prog 194 #[.string (strOfNums a),.string (strOfNums b)] W fun e w'=>e=.returned (.bool (pfx b a))∧w'=W:=by
 have H:=Lv (hasPrefix0_any a b ha hb W);clear ha hb;go_enter Tryz.func194,Tryz.ntmps194;go_wp2_with fail;refine H.o.mono ?_
 rintro e w' ⟨rfl,rfl⟩;go_wp2;go_ret
 exact ⟨rfl,rfl⟩
theorem leading1_any (k:Kid) (rest:List Int) (hk:Byt k.1) (hr:Byt rest) {g:Nat} (hg:Xv W g (.string (strOfNums rest)) 9) :
  Calls Tryz.prog 193 #[.agg #[.string (strOfNums k.1),.int .u64 k.2],.pointer (some ⟨g,0,none⟩)] W fun e w'=>e=.returned (.bool (pfx k.1 rest))∧W.grownBy w' none:=by
 have gB:=grown1 W (.cells #[.string (strOfNums k.1),.int .u64 k.2] 145);have d0:=(hg.grown gB).c;have dl:=(hg.grown gB).lt;have G:=Lv gB;have H:=Lv (hasPrefix_any rest k.1 hr hk (W.alloc (.cells #[.string (strOfNums k.1),.int .u64 k.2] 145)));obtain ⟨e1,p1⟩:=k;simp only [] at *;clear gB hg hk hr;go_enter Tryz.func193,Tryz.ntmps193;go_wp2_with fail;refine H.o.mono ?_
 rintro e w' ⟨rfl,rfl⟩;go_wp2;go_ret
 exact ⟨rfl,G.o⟩
theorem indexLead_any (l:List Kid) (n:Nat) (hn:l.length=n) (hl:n≤9223372036854775807) (q:Option Addr) (c:Nat) (hr:Xp w q l) (rest:List Int) {g:Nat} (hx:Xv w g (.string (strOfNums rest)) 9) (b2:Byt rest) (ho:∀ k∈l,Byt k.1) :
  Calls Tryz.prog 169 #[.slice q n c,.func (.func 193) #[] #[.pointer (some ⟨g,0,none⟩)]] w fun e w' =>
   ((e=.returned (.int .i64 (-1))∧J7 l rest=[])∨∃ (k:Nat) (x:Kid),k < n∧e=.returned (.int .i64 k)∧l[k]?=some x∧J7 l rest=[x])∧w.grownBy w' none:=by
 subst hn;have RR:=Lv hr;have OO:=Lv ho;have HX:=Lv hx;have BB:=Lv b2;clear hr ho hx b2;go_enter Tryz.func169,Tryz.ntmps169;go_wp2;go_loopw [8] (fun i wr=>∃ k:Nat,k≤l.length∧i=.int .i64 k∧w.grownBy wr none∧∀ (i:Nat) (y:Kid),i < k→l[i]?=some y→pfx y.1 rest=false) (fun i _=>l.length - (intOf i).toNat)
 case atStart=>exact ⟨0,Nat.zero_le _,rfl,Qq _ _,fun i y h=>by omega⟩
 case round =>
  obtain ⟨k,hk,rfl,hg,hno⟩:=hrel;have G:=Lv hg;have NO:=Lv hno;by_cases hlt:k < l.length
  ·obtain ⟨x,hx⟩:∃ x,l[k]?=some x:=⟨_,List.getElem?_eq_getElem hlt⟩
   obtain ⟨gq,oq,rfl,c0,c1⟩:=(RR.o.grown hg).at k x hx;have M1:=Lv (leading1_any x rest (OO.o x (List.mem_of_getElem? hx)) BB.o (HX.o.grown hg));have XX:=Lv hx;have dl:decide ((k:Int) < (l.length:Int))=true:=by simp;omega
   have hkl:(k:Int) < (l.length:Int):=by omega
   obtain ⟨bx,hbx⟩:∃ bx,bx=pfx x.1 rest:=⟨_,rfl⟩
   rw [← hbx] at M1;have PX:=Lv hbx;have LD:=Lv (fun (h:bx=true)=>leadN_some hx (hbx ▸ h) hno);obtain ⟨xe,xp⟩:=x;simp only [] at c0 c1 M1;clear hg hno hx hbx;generalize l.length=N at *;go_wp2_with fail;refine M1.o.mono ?_
   rintro e w3 ⟨rfl,hg⟩;have G3:=Lv (Qz G.o hg);clear hg;cases bx
   · go_wp2
     go_roundw
     case rel =>
      refine ⟨k + 1,hlt,by go_num,G3.o,fun i y hi hy=>?_⟩;rcases Nat.lt_or_ge i k with h | h
      ·exact NO.o i y h hy
      ·obtain rfl:i=k:=by omega
       rw [XX.o] at hy;injection hy with hy;rw [← hy];exact PX.o.symm
     case measure=>simp [intOf];omega
   · go_wp2
     go_ret
     exact ⟨.inr ⟨k,_,(List.getElem?_eq_some_iff.1 XX.o).1,rfl,XX.o,by first | exact LD.o rfl | exact LD.o trivial⟩,G3.o⟩
  ·have NA:=Lv (leadN_none (rest:=rest) (l:=l) (fun i y hy=>hno i y (by have:=(List.getElem?_eq_some_iff.1 hy).1;omega) hy))
   have dl:decide ((k:Int) < (l.length:Int))=false:=by simp;omega
   clear hno hg;generalize l.length=N at *;go_wp2;go_ret
   exact ⟨.inl ⟨rfl,NA.o⟩,G.o⟩
theorem leading_any (l:List Kid) (n:Nat) (hn:l.length=n) (q:Option Addr) (c:Nat) (hnc:n≤c) (hc:c≤9223372036854775807) (hr:Xp w q l) (rest:List Int) (b2:Byt rest) (ho:∀ k∈l,Byt k.1) :
  Calls Tryz.prog 192 #[.slice q n c,.string (strOfNums rest)] w fun e w' =>
   (∃ q' c',e=.returned (.slice q' (J7 l rest).length c')∧Xp w q' (J7 l rest)∧(∀ g o,q'=some ⟨g,o,none⟩→∃ o',q=some ⟨g,o',none⟩)∧(J7 l rest).length≤c'∧c'≤9223372036854775807)∧w.grownBy w' none:=by
 have gB:=grown1 w (.cells #[.string (strOfNums rest)] 9);have o1:=Xv.new w (.string (strOfNums rest)) 9;have I:=Lv (indexLead_any (w:=w.alloc (.cells #[.string (strOfNums rest)] 9)) l n hn (by omega) q c (hr.grown gB) rest o1 b2 ho);have G:=Lv gB;have RR:=Lv hr;clear gB o1 hr b2 ho;go_enter Tryz.func192,Tryz.ntmps192;go_wp2_with fail;refine I.o.mono ?_
 rintro e w' ⟨h,hg⟩;have G2:=Lv (Qz G.o hg);clear hg;rcases h with ⟨rfl,hL⟩ | ⟨k,x,hk,rfl,hx,hL⟩
 ·have FN:=Lv (show ∃ q' c',Ending.returned (.slice none 0 0)=.returned (.slice q' (J7 l rest).length c')∧Xp w q' (J7 l rest)∧(∀ g o,q'=some ⟨g,o,none⟩→∃ o',q=some ⟨g,o',none⟩)∧(J7 l rest).length≤c'∧c'≤9223372036854775807 from by
   rw [hL];exact ⟨none,0,rfl,Xp.nil,fun g o e=>(by cases e),Nat.le_refl _,by decide⟩)
  clear hL;go_wp2;go_ret
  exact ⟨FN.o,G2.o⟩
 ·obtain ⟨gq,oq,rfl,c0,c1⟩:=RR.o k x hx
  have FN:=Lv (show ∃ q' c',Ending.returned (.slice (some ⟨gq,oq + k * 2,none⟩) 1 (c - k))=.returned (.slice q' (J7 l rest).length c')∧Xp w q' (J7 l rest)∧(∀ g o,q'=some ⟨g,o,none⟩→∃ o',(some ⟨gq,oq,none⟩:Option Addr)=some ⟨g,o',none⟩)∧(J7 l rest).length≤c'∧c'≤9223372036854775807 from by
   rw [hL];refine ⟨_,_,rfl,fun i y hy=>?_,fun g o e=>⟨oq,by injection e with e;injection e with e1 _ _;rw [e1]⟩,by simp;omega,by omega⟩
   match i,hy with
   | 0,hy =>
     injection hy with hy;subst hy;exact ⟨gq,oq + k * 2,rfl,by rw [Nat.zero_mul,Nat.add_zero];exact c0,by rw [Nat.zero_mul,Nat.add_zero];exact c1⟩)
  have hS:∀ W,(Instr.slice 85 (.slice (some ⟨gq,oq,none⟩) n c) (some (.int .i64 (k:Int))) (some (.int .i64 ((k:Int) + 1))) none).run Tryz.prog W=.ok (.slice (some ⟨gq,oq + k * 2,none⟩) 1 (c - k)) W:=fun W=>by
   rw [run_slice_lh (P:=Tryz.prog) W 85 (some ⟨gq,oq,none⟩) n c (by kernel_rfl) .i64 .i64 (k:Int) ((k:Int) + 1) (by omega) (by omega) (by omega)];have hs:((sizeOf (Tryz.prog.elem 85)).run Tryz.prog W)=.ok 2 W:=by kernel_rfl
   rw [hs];simp only [Result.andThen,sliced];rw [if_neg (by omega),show ((k:Int) + 1).toNat - ((k:Int)).toNat=1 by omega,show ((k:Int)).toNat=k by omega];simp only [Option.map_some,Xd]
  have hk63:(k:Int)≤9223372036854775806:=by omega
  clear hL hx c0 c1 hn hnc hc;go_wp2;go_ret
  exact ⟨FN.o,G2.o⟩
end
section
open Go.RowKit Go.PlainAid
theorem bt_nth {l:List Int} (h:Byt l) {i:Nat} (hi:i < l.length):bt (strOfNums l) i=l.getD i 0:=by
 have h0:i < (strOfNums l).size:=by rw [strOfNums_size];exact hi
 unfold bt;rw [dif_pos h0];have hx:=h (l[i]) (List.getElem_mem hi);have e:(strOfNums l)[i]=UInt8.ofNat (l[i]).toNat:=by
  have:=strOfNums_data l
  show (strOfNums l).data[i]=_
  have h1:(strOfNums l).data.toList[i]'(by rw [Array.length_toList];exact h0)=(l.map fun x=>UInt8.ofNat x.toNat)[i]'(by rw [List.length_map];exact hi):=by
   congr 1
  rw [Array.getElem_toList] at h1;rw [h1,List.getElem_map]
 rw [e];simp only [UInt8.toNat_ofNat',List.getD_eq_getElem?_getD,List.getElem?_eq_getElem hi,Option.getD_some];omega
theorem lcp_next:∀ (n:Nat) (a b:List Int),n≤lcpN a b→(n < lcpN a b↔n < a.length∧n < b.length∧a.getD n 0=b.getD n 0)
 | n,[],b,h=>by cases b <;> simp [lcpN]
 | n,_ :: _,[],h=>by simp [lcpN]
 | 0,x :: a,y :: b,_=>by
  unfold lcpN;by_cases h:x=y
  ·rw [if_pos h];simp [h]
  ·rw [if_neg h];simp [h]
 | n + 1,x :: a,y :: b,h=>by
  unfold lcpN at h ⊢;by_cases hxy:x=y
  ·rw [if_pos hxy] at h ⊢
   have:=lcp_next n a b (by omega)
   simp only [List.length_cons,List.getD_cons_succ];omega
  ·rw [if_neg hxy] at h
   omega
theorem share_any (a b:List Int) (ha:Byt a) (hb:Byt b) (hlb:b.length≤1000000000) (w:World):Calls Tryz.prog 37 #[.string (strOfNums a),.string (strOfNums b)] w fun e w'=>e=.returned (.string (strOfNums (a.take (lcpN a b))))∧w.grownBy w' none:=by
 have s1:(strOfNums a).size=a.length:=strOfNums_size _;have s2:(strOfNums b).size=b.length:=strOfNums_size _;have HA:=Lv (fun i hi=>bt_nth ha (i:=i) hi);have HB:=Lv (fun i hi=>bt_nth hb (i:=i) hi);have CUT:=Lv (V8 a 0 (lcpN a b));have LT:=Lv (Vh a b);clear ha hb;go_enter Tryz.func37,Tryz.ntmps37;go_wp2;go_loopw [5] (fun vn wl=>∃ n:Nat,n≤lcpN a b∧vn=.int .i64 n∧w.grownBy wl none) (fun vn _=>lcpN a b - (intOf vn).toNat)
 case atStart=>exact ⟨0,Nat.zero_le _,rfl,Qq _ _⟩
 case round =>
  obtain ⟨n,hn,rfl,hg⟩:=hrel;have G:=Lv hg;have LN:=Lv (lcp_next n a b hn);have k1:=get_bt (strOfNums a);have k2:=get_bt (strOfNums b);clear hg;obtain ⟨L,hL⟩:∃ L,L=lcpN a b:=⟨_,rfl⟩
  rw [← hL] at LN hn CUT LT ⊢;have HL:=Lv hL;clear hL;by_cases ca:n < a.length
  ·have da:decide ((n:Int) < (a.length:Int))=true:=by simp;omega
   by_cases cb:n < b.length
   ·have db:decide ((n:Int) < (b.length:Int))=true:=by simp;omega
    have e1:=HA.o n ca;have e2:=HB.o n cb;by_cases ce:a.getD n 0=b.getD n 0
    ·have de:(bt (strOfNums a) n == bt (strOfNums b) n)=true:=by rw [e1,e2,ce];simp
     have hlt:n < L:=LN.o.2 ⟨ca,cb,ce⟩;have hL9:=LT.o.2.1;clear e1 e2 ce;go_wp2;go_quiet (fail);go_wp2;go_roundw
     case rel=>exact ⟨n + 1,hlt,by go_num,Qj G.o _⟩
     case measure=>(simp [intOf];omega)
    ·have de:(bt (strOfNums a) n == bt (strOfNums b) n)=false:=by rw [e1,e2];simpa using ce
     have hnl:n=L:=by have h:=LN.o;omega
     clear e1 e2 ce;subst hnl;have hc:=CUT.o;rw [List.drop_zero] at hc;go_wp2;go_quiet (fail);go_wp2;go_ret
     exact ⟨by rw [← HL.o];rfl,Qj G.o _⟩
   ·have db:decide ((n:Int) < (b.length:Int))=false:=by simp;omega
    have db2:decide (n < b.length)=false:=by simp;omega
    have hnl:n=L:=by have h:=LN.o;omega
    subst hnl;have hc:=CUT.o;rw [List.drop_zero] at hc;go_wp2;go_quiet (fail);go_wp2;go_ret
    exact ⟨by rw [← HL.o];rfl,Qj G.o _⟩
  ·have da:decide ((n:Int) < (a.length:Int))=false:=by simp;omega
   have da2:decide (n < a.length)=false:=by simp;omega
   have hnl:n=L:=by have h:=LN.o;omega
   subst hnl;have hc:=CUT.o;rw [List.drop_zero] at hc;have hle:=LT.o.2.1;go_wp2;go_quiet (fail);go_wp2;go_ret
   exact ⟨by rw [← HL.o];rfl,Qj G.o _⟩
end
theorem Xt.name {q:Option Addr} {D:Out} (h:Xt w q D) {i:Nat} {y:List Int × Ex} (hy:D[i]?=some y):∃ g o,q=some ⟨g,o,none⟩∧w.cell? ⟨g,o + i * 7,none⟩=some (.string (strOfNums y.1)):=by
 obtain ⟨g,o,e,hc⟩:=h i y hy
 have:=hc 0 (by decide)
 exact ⟨g,o,e,this⟩
theorem Xt.at {q:Option Addr} {D:Out} (h:Xt w q D) {i:Nat} {y:List Int × Ex} (hy:D[i]?=some y):∃ g o,q=some ⟨g,o,none⟩∧w.cell? ⟨g,o + i * 7,none⟩=some (.string (strOfNums y.1))∧w.cell? ⟨g,o + i * 7 + 1,none⟩=some (.int .i64 y.2.kind)∧w.cell? ⟨g,o + i * 7 + 2,none⟩=some (.bool y.2.weak) ∧
  w.cell? ⟨g,o + i * 7 + 3,none⟩=some (.int .u64 y.2.value)∧w.cell? ⟨g,o + i * 7 + 4,none⟩=some (.int .u64 y.2.resolver)∧w.cell? ⟨g,o + i * 7 + 5,none⟩=some (.int .u64 y.2.ordinal)∧w.cell? ⟨g,o + i * 7 + 6,none⟩=some (.string (strOfNums y.2.other)):=by
 obtain ⟨g,o,e,hc⟩:=h i y hy;exact ⟨g,o,e,hc 0 (by decide),hc 1 (by decide),hc 2 (by decide),hc 3 (by decide),hc 4 (by decide),hc 5 (by decide),hc 6 (by decide)⟩
def Rz (t:List Int):List Value:=[.string (strOfNums t)]
theorem strCs_len (t:List Int):(Rz t).length=1:=rfl
theorem strType:Kx Tryz.prog 9 77 1 16:=.mk' Tryz.underlying77 (z:=.string ⟨#[]⟩) (by kernel_rfl) rfl (by decide)
def Sz (w:World) (q:Option Addr) (l:List (List Int)):Prop:=∀ i t,l[i]?=some t→∃ g,q=some ⟨g,0,none⟩∧w.cell? ⟨g,i,none⟩=some (.string (strOfNums t))
theorem Sz.of {lo n c:Nat} {q:Option Addr} {l:List (List Int)} (h:w.ownsRow lo 9 1 (.slice q n c) n (l.flatMap Rz)):Sz w q l:=fun i x hx=>by
 obtain ⟨g,e,h1⟩:=Jz strCs_len h hx (j:=0) (by decide);rw [Nat.mul_one,Nat.add_zero] at h1;exact ⟨g,e,h1⟩
theorem Sz.grown {q:Option Addr} {l:List (List Int)} (h:Sz w q l) (hg:w.grownBy w' none):Sz w' q l:=fun i x hx=>by
 obtain ⟨g,e,h1⟩:=h i x hx;exact ⟨g,e,Qv hg h1⟩
def setO (N:List (List Int)):Out:=N.map fun t=>(t,Ex.zero)
theorem setO_app (A B:List (List Int)):setO (A ++ B)=setO A ++ setO B:=List.map_append
theorem setO_len (A:List (List Int)):(setO A).length=A.length:=List.length_map _
structure KnL (w wr:World) (N:List (List Int)) (v3:Value):Prop where
 ex:∃ q c,v3=.slice q N.length c∧wr.ownsRow w.heap.size 28 7 (.slice q N.length c) N.length ((setO N).flatMap Q4)
 grown:w.grownBy wr none
theorem KnL.add {N:List (List Int)} {t:List Int} {v:Value} (h:W.grownBy V none) (hw:w.grownBy W none) (ho:V.ownsRow w.heap.size 28 7 v (N.length + 1) ((setO N).flatMap Q4 ++ Q4 (t,Ex.zero))):KnL w V (N ++ [t]) v:=by
 obtain ⟨q',c',rfl⟩:=Qp ho;refine ⟨⟨q',c',by rw [List.length_append];rfl,?_⟩,Qz hw h⟩;rw [List.length_append,List.length_singleton,setO_app,List.flatMap_append];simpa [setO] using ho
structure KnI (w wr:World) (R:Out) (n:Nat) (v3 v4:Value):Prop where
 ex:∃ k:Nat,k≤n∧v4=.int .i64 (k:Int)∧KnL w wr (setK R k) v3
theorem strCs_one (t:List Int):∀ u∈Rz t,u.oneCell'=true:=fun u hu=>by rw [List.mem_singleton.1 hu];rfl
structure KdI (w3 wr:World) (S:List (List Int)) (n:Nat) (v5 v6:Value):Prop where
 ex:∃ (k:Nat) (O:List (List Int)) (q:Option Addr) (c:Nat),k≤n∧O.length≤k∧v6=.int .i64 (k:Int)∧v5=.slice q O.length c∧wr.ownsRow w3.heap.size 9 1 (.slice q O.length c) O.length (O.flatMap Rz)∧DdN S k O
 grown:w3.grownBy wr none
structure KnOut (w w':World) (N:List (List Int)) (e:Ending):Prop where
 ex:∃ q c,e=.returned (.slice q N.length c)∧w'.ownsRow w.heap.size 9 1 (.slice q N.length c) N.length (N.flatMap Rz)
 grown:w.grownBy w' none
theorem setK_len (R:Out):∀ k,(setK R k).length≤1 + 2 * k
 | 0=>by simp [setK]
 | k + 1=>by
  have:=setK_len R k
  simp only [setK,List.length_append,List.length_cons]
  split <;> simp <;> omega
theorem setK_byt {R:Out} (hb:∀ y∈R,Byt y.1):∀ k,∀ t∈setK R k,Byt t
 | 0,t,h=>by rw [List.mem_singleton.1 h];exact fun x hx=>by cases hx
 | k + 1,t,h=>by
  have hat:∀ i,Byt (R.getD i ([],Ex.zero)).1:=fun i=>by
   rw [List.getD_eq_getElem?_getD];cases hi:R[i]? with
   | none=>exact fun x hx=>by cases hx
   | some y=>exact hb y (List.mem_of_getElem? hi)
  simp only [setK] at h;rcases List.mem_append.1 h with h | h
  ·exact setK_byt hb k t h
  ·rcases List.mem_cons.1 h with h | h
   ·rw [h];exact hat k
   ·split at h
    ·cases h
    ·rw [List.mem_singleton.1 h];exact (hat _).take _
theorem knots_any {R:Out} {n:Nat} (hn:R.length=n) (hfew:n≤5000) (h0:R≠[]) (hu:Up R) (hb:∀ y∈R,Byt y.1∧y.1.length≤255) {q:Option Addr} {c:Nat} (h:Xt w q R) :
  Calls Tryz.prog 36 #[.slice q n c] w fun e w'=>KnOut w w' (Qe 257 R 0) e:=by
 have HN:=Lv hn;have HB:=Lv hb;have HE:=Lv h;have ALL:=Lv (fun (S O:List (List Int)) (h:DdN S S.length O) (hp:∀ q,q∈S↔q∈setK R R.length)=>h.all hp h0 hu (fun y hy=>(hb y hy).2));clear hn hb h h0 hu;have g1:=grown1 w (.cells #[.string ⟨#[]⟩,.int .i64 0,.bool false,.int .u64 0,.int .u64 0,.int .u64 0,.string ⟨#[]⟩] 28);have ST:=Lv (show KnI w (w.alloc (.cells #[.string ⟨#[]⟩,.int .i64 0,.bool false,.int .u64 0,.int .u64 0,.int .u64 0,.string ⟨#[]⟩] 28)) R n (.slice (some ⟨w.heap.size,0,none⟩) 1 1) (.int .i64 0) from
  ⟨⟨0,Nat.zero_le _,rfl,⟨⟨_,_,rfl,World.ownsRow_lit w #[.string ⟨#[]⟩,.int .i64 0,.bool false,.int .u64 0,.int .u64 0,.int .u64 0,.string ⟨#[]⟩] 1 (Nat.le_refl _) (by decide) rfl⟩,g1⟩⟩⟩)
 clear g1;go_enter Tryz.func36,Tryz.ntmps36;go_wp2;go_loopw [3,4] (fun v3 v4 wr=>KnI w wr R n v3 v4) (fun _ v4 _=>n - (intOf v4).toNat)
 case atStart=>exact ST.o
 case round =>
  obtain ⟨⟨k,hk,rfl,⟨⟨q3,c3,rfl,ho⟩,hg⟩⟩⟩:=hrel;have G:=Lv hg;have SL:=Lv (setK_len R k);by_cases hlt:k < n
  ·obtain ⟨y,hy⟩:∃ y,R[k]?=some y:=⟨_,List.getElem?_eq_getElem (by rw [HN.o];exact hlt)⟩
   obtain ⟨ga,oa,rfl,k0⟩:=(HE.o.grown hg).name hy;have YB:=Lv (HB.o y (List.mem_of_getElem? hy));have SK:=Lv (show setK R (k + 1)=(setK R k ++ [y.1]) ++ (if k=0 then [] else [(R.getD (k - 1) ([],Ex.zero)).1.take (lcpN (R.getD (k - 1) ([],Ex.zero)).1 y.1)]) from by
    have e:R.getD k ([],Ex.zero)=y:=by rw [List.getD_eq_getElem?_getD,hy];rfl
    simp only [setK];rw [e,List.append_assoc];rfl)
   have PV:=Lv (fun (h : 0 < k)=>(by
    have hk1:k - 1 < R.length:=by rw [HN.o];omega
    refine ⟨R[k - 1],List.getElem?_eq_getElem hk1,?_⟩;rw [List.getD_eq_getElem?_getD,List.getElem?_eq_getElem hk1];rfl:∃ z,R[k - 1]?=some z∧R.getD (k - 1) ([],Ex.zero)=z))
   obtain ⟨M,hM⟩:∃ M,M=setK R k:=⟨_,rfl⟩
   rw [← hM] at ho SL SK;obtain ⟨m,hm⟩:∃ m,m=M.length:=⟨_,rfl⟩
   rw [← hM,← hm];rw [← hm] at ho;have HM:=Lv hm;have hml:m≤10001:=by rw [hm];have:=SL.o;omega
   have g2:=grown1 wr (.cells #[.string (strOfNums y.1),.int .i64 0,.bool false,.int .u64 0,.int .u64 0,.int .u64 0,.string ⟨#[]⟩] 28);have O2:=Lv (Qy ho g2);have N2:=Lv (heap_alloc_new wr (.cells #[.string (strOfNums y.1),.int .i64 0,.bool false,.int .u64 0,.int .u64 0,.int .u64 0,.string ⟨#[]⟩] 28));have G2:=Lv (Qz hg g2);have dl:decide ((k:Int) < (n:Int))=true:=by simp;omega
   have hkI:(k:Int) < (n:Int):=by omega
   have HY:=Lv hy;clear g2 ho hg hM hm hy;go_wp2_with (at_builtin;refine Zz Vt rfl _ _ rfl _ m _ rfl O2.o [.string (strOfNums y.1),.int .i64 0,.bool false,.int .u64 0,.int .u64 0,.int .u64 0,.string ⟨#[]⟩] rfl wr.heap.size rfl N2.o (J5 (strOfNums y.1) Ex.zero) (by omega) (by decide) G2.o.size ?_)
   intro v' w3 ho3 hg3 hv3;have G3:=Lv (Qr G2.o hg3 (fun g e=>(O2.o.lt g e).1));obtain ⟨q4,c4,rfl⟩:=Qp ho3;have K3:=Lv (show KnL w w3 (M ++ [y.1]) (.slice q4 (m + 1) c4) from KnL.add (Qq w3 none) G3.o (by rw [← HM.o];exact ho3));clear ho3 hg3 hv3 O2 N2 G2;by_cases hk0:k=0
   ·subst hk0
    go_wp2;go_roundw
    case rel=>exact ⟨⟨1,hlt,by go_num,by have h:=SK.o;rw [if_pos rfl,List.append_nil] at h;rw [h];exact K3.o⟩⟩
    case measure=>simp [intOf];omega
   ·obtain ⟨z,hz,hzd⟩:=PV.o (by omega)
    obtain ⟨K,rfl⟩:∃ K,k=K + 1:=⟨k - 1,by omega⟩
    rw [Nat.add_sub_cancel] at hz hzd;obtain ⟨g',o',e',j0⟩:=(HE.o.grown G3.o).name HY.o;injection e' with e';injection e' with e1 e2 _;subst e1 e2;obtain ⟨g',o',e',j1⟩:=(HE.o.grown G3.o).name hz;injection e' with e';injection e' with e1 e2 _;subst e1 e2;have BZ:=HB.o z (List.mem_of_getElem? hz);have SH:=Lv (fun (V:World)=>share_any z.1 y.1 BZ.1 YB.o.1 (by have:=YB.o.2;omega) V)
    have SK2:=Lv (show setK R (K + 1 + 1)=(M ++ [y.1]) ++ [z.1.take (lcpN z.1 y.1)] from by
     have h:=SK.o;rw [if_neg (by omega),Nat.add_sub_cancel,hzd] at h;exact h)
    obtain ⟨T,hT⟩:∃ T,T=z.1.take (lcpN z.1 y.1):=⟨_,rfl⟩
    rw [← hT] at SH SK2;have dk:decide ((0:Int) < ((K + 1:Nat):Int))=true:=by simp <;> omega
    have dk2:decide ((0:Int) < (K:Int) + 1)=true:=by simp <;> omega
    have hkI1:(K:Int) + 1 < (n:Int):=by omega
    have hkI2:(K:Int) < (n:Int):=by omega
    have hcan:(K:Int) + 1 - 1=(K:Int):=by omega
    have hwk:IntKind.i64.wrap (K:Int)=(K:Int):=IntWalk.i64_in _ (by omega);have hk0':(0:Int)≤(K:Int) + 1:=by omega
    clear hz hzd hT BZ k0 SK hk0 hkI PV;go_wp2;go_region_law (first
     |(refine step_append_sta Vt (by with_reducible rfl) _ _ (by with_reducible rfl) _ (m + 1) 1 _ (by rfl) O5.o [.string (strOfNums T),.int .i64 0,.bool false,.int .u64 0,.int .u64 0,.int .u64 0,.string ⟨#[]⟩] rfl w4.heap.size (by rfl) N5.o (J5 (strOfNums T) Ex.zero) (by omega) (by decide) GW.o.size ?_;intro v6 w6 ho6 hg6 hv6;(have G6:=Lv (Qr GW.o hg6 (fun g e=>(O5.o.lt g e).1)));(have K6:=Lv (show KnL w w6 ((M ++ [y.1]) ++ [T]) v6 from KnL.add (Qq w6 none) G6.o (by rw [List.length_append,List.length_singleton,← HM.o];exact ho6)));clear ho6 hg6 hv6 O5 N5 GW G5)
     |(go_simp;go_at_call 37;refine (SH.o _).mono ?_;rintro e w4 ⟨rfl,hg4⟩;(have G4:=Qz (show w3.grownBy w3.drew none from Qj (Qq w3 none) 1) hg4);obtain ⟨q5,c5,e5,o5⟩:=K3.o.ex;injection e5 with e5 e7 e6;clear e7;subst e5 e6;rw [List.length_append,List.length_singleton,← HM.o] at o5;(have g5:=grown1 w4 (.cells #[.string (strOfNums T),.int .i64 0,.bool false,.int .u64 0,.int .u64 0,.int .u64 0,.string ⟨#[]⟩] 28));have G5:=Lv (Qz G4 g5);have O5:=Lv (Qy o5 G5.o);(have N5:=Lv (heap_alloc_new w4 (.cells #[.string (strOfNums T),.int .i64 0,.bool false,.int .u64 0,.int .u64 0,.int .u64 0,.string ⟨#[]⟩] 28)));have GW:=Lv (Qz K3.o.grown G5.o);clear g5 o5 hg4 G4 j0 j1))
    all_goals
     go_wp2;go_roundw
     case rel=>exact ⟨⟨K + 1 + 1,by omega,by go_num,by rw [SK2.o];exact K6.o⟩⟩
     case measure=>simp [intOf];omega
  ·have hkn:k=n:=by omega
   subst hkn;have dl:decide ((k:Int) < (k:Int))=false:=by simp
   obtain ⟨M,hM⟩:∃ M,M=setK R k:=⟨_,rfl⟩
   rw [← hM] at ho SL;have MB:=Lv (show ∀ t∈M,Byt t from by rw [hM];exact setK_byt (fun y hy=>(HB.o y hy).1) k);have HM:=Lv (show M=setK R R.length by rw [hM,HN.o]);rw [← hM];obtain ⟨m,hm⟩:∃ m,m=M.length:=⟨_,rfl⟩
   rw [← hm] at ho ⊢;have hml:m≤10001:=by rw [hm];have:=SL.o;omega
   have SO:=Lv (Gh m (setO M) q3 c3 wr (by rw [setO_len,hm]) (by omega) (Jw ho) (Vp ho) (Xk.of ho).exs);have hmM:=Lv hm;clear hm hM ho hg;go_wp2_with fail;refine SO.o.mono ?_
   rintro e w4 ⟨⟨S,v4,rfl,o4,p4,s4⟩,g4⟩;have hSm:S.length=m:=by rw [p4.length_eq,setO_len];exact hmM.o.symm
   obtain ⟨q4,c4,rfl⟩:=Qp o4;have RX:=Lv (Xk.of o4).exs;have SB:=Lv (show ∀ y∈S,Byt y.1 from fun y hy=>by
    have h1:=p4.mem_iff.1 hy;unfold setO at h1;obtain ⟨t,ht,rfl⟩:=List.mem_map.1 h1;exact MB.o t ht)
   obtain ⟨SN,hSN⟩:∃ SN,SN=S.map Prod.fst:=⟨_,rfl⟩
   have SP:=Lv (show SN.Pairwise fun a b=>nmLt b a=false from by
    rw [hSN,List.pairwise_map];refine s4.imp_of_mem ?_
    intro a b ha hb hab;unfold leX at hab;rw [Jv (SB.o a ha),Jv (SB.o b hb)] at hab;exact hab)
   have SM:=Lv (show ∀ q,q∈SN↔q∈setK R R.length from fun q=>by
    rw [← HM.o,hSN];have h1:(S.map Prod.fst).Perm ((setO M).map Prod.fst):=p4.map _;rw [h1.mem_iff];unfold setO;rw [List.map_map];simp)
   have SX:=Lv (show ∀ (i:Nat) (y:List Int × Ex),S[i]?=some y→SN[i]?=some y.1 from fun i y hy=>by rw [hSN,List.getElem?_map,hy];rfl);have SL2:=Lv (show SN.length=m by rw [hSN,List.length_map];exact hSm);have HS:=Lv hSm;rw [hSm];have G4:=Lv (Qz G.o g4);have ST:=Lv (show KdI w4 w4 SN m (.slice none 0 0) (.int .i64 0) from ⟨⟨0,[],none,0,Nat.zero_le _,Nat.le_refl _,rfl,rfl,World.ownsRow_nil _ _ _ _,⟨List.Pairwise.nil,fun q=>by simp⟩⟩,Qq _ _⟩)
   clear o4 p4 s4 g4 hSm hSN SO;go_wp2;go_loopw [5,6] (fun v5 v6 wz=>KdI w4 wz SN m v5 v6) (fun _ v6 _=>m - (intOf v6).toNat)
   case atStart=>exact ST.o
   case round =>
    obtain ⟨⟨k,O,q5,c5,hk,hok,rfl,rfl,ho5,hdd⟩,hg5⟩:=hrel;have DD:=Lv hdd;have G5:=Lv hg5;clear hdd;by_cases hlt:k < m
    ·obtain ⟨y,hy⟩:∃ y,S[k]?=some y:=⟨_,List.getElem?_eq_getElem (by rw [HS.o];exact hlt)⟩
     obtain ⟨ga,oa,rfl,k0⟩:=(RX.o.grown hg5).name hy;have HY:=Lv hy;have dl:decide ((k:Int) < (m:Int))=true:=by simp;omega
     have hkI:(k:Int) < (m:Int):=by omega
     by_cases hk0:k=0
     ·subst hk0
      have DN:=Lv (DD.o.new SP.o (SX.o _ _ hy) (fun _ h=>absurd h (by omega)));have J:=Lv trivial;rw [Nat.zero_mul,Nat.add_zero] at k0;clear hy DD;go_wp2;go_quiet (fail);have g6:=Qj hg5 nq;obtain ⟨W6,hW6⟩:∃ W6,wr.drewN nq=W6:=⟨_,rfl⟩
      have o6:=Qy ho5 (Qj (Qq wr none) nq);rw [hW6] at g6 o6 ⊢;obtain ⟨g',o',e',k0⟩:=(RX.o.grown g6).name HY.o;injection e' with e';injection e' with e1 e2 _;subst e1 e2;rw [Nat.zero_mul,Nat.add_zero] at k0;have g7:=grown1 W6 (.cells #[.string (strOfNums y.1)] 9);have O7:=Lv (Qy o6 g7);have N7:=Lv (heap_alloc_new W6 (.cells #[.string (strOfNums y.1)] 9))
      have G7:=Lv (Qz g6 g7);clear hW6 o6 g6 g7 ho5 hg5 J;go_wp2_with (at_builtin;refine Zz strType rfl _ _ rfl _ (O.length) _ rfl O7.o [.string (strOfNums y.1)] rfl W6.heap.size rfl N7.o (strCs_one y.1) (by omega) (by decide) G7.o.size ?_)
      intro v8 w8 ho8 hg8 hv8;obtain ⟨q8,c8,rfl⟩:=Qp ho8;have G8:=Lv (Qr G7.o hg8 (fun g e=>(O7.o.lt g e).1));have O8:=Lv (show w8.ownsRow w4.heap.size 9 1 (.slice q8 (O ++ [y.1]).length c8) (O ++ [y.1]).length ((O ++ [y.1]).flatMap Rz) from by
        rw [List.length_append,List.length_singleton,List.flatMap_append];exact ho8)
      clear ho8 hg8 hv8 k0 O7 N7;go_wp2;go_roundw
      case rel=>exact ⟨⟨0 + 1,O ++ [y.1],q8,c8,hlt,by rw [List.length_append,List.length_singleton];omega,by go_num,by rw [List.length_append];rfl,O8.o,DN.o⟩,G8.o⟩
      case measure=>simp [intOf];omega
     ·obtain ⟨K,rfl⟩:∃ K,k=K + 1:=⟨k - 1,by omega⟩
      obtain ⟨z,hz⟩:∃ z,S[K]?=some z:=⟨_,List.getElem?_eq_getElem (by rw [HS.o];omega)⟩
      obtain ⟨g',o',e',k1⟩:=(RX.o.grown hg5).name hz;injection e' with e';injection e' with e1 e2 _;subst e1 e2;have dl2:decide ((K:Int) + 1 < (m:Int))=true:=by simp;omega
      have d0:(((K + 1:Nat):Int) == 0)=false:=by simp;omega
      have d02:((K:Int) + 1 == 0)=false:=by simp;omega
      have hkI1:(K:Int) + 1 < (m:Int):=by omega
      have hkI2:(K:Int) < (m:Int):=by omega
      have hcan:(K:Int) + 1 - 1=(K:Int):=by omega
      have hwk:IntKind.i64.wrap (K:Int)=(K:Int):=IntWalk.i64_in _ (by omega);have hnm:=Mx (SB.o y (List.mem_of_getElem? hy)) (SB.o z (List.mem_of_getElem? hz));by_cases he:y.1=z.1
      · rw [decide_eq_true he] at hnm
        have DN:=Lv (DD.o.old (SX.o _ _ hy) (by omega) (by rw [Nat.add_sub_cancel,he];exact SX.o _ _ hz));have OO:=Lv (fun k=>Qy ho5 (Qj (Qq wr none) k));clear hy hz he hkI hk0 ho5 DD;go_wp2;go_quiet (fail);go_wp2;go_roundw
        case rel=>exact ⟨⟨K + 1 + 1,O,q5,c5,hlt,by omega,by go_num,rfl,OO.o _,DN.o⟩,Qj G5.o _⟩
        case measure=>simp [intOf];omega
      · rw [decide_eq_false he] at hnm
        have DN:=Lv (DD.o.new SP.o (SX.o _ _ hy) (fun x h0 hx=>by
         rw [Nat.add_sub_cancel,SX.o _ _ hz] at hx;injection hx with hx;rw [← hx];exact fun e=>he e.symm))
        have J:=Lv trivial;clear hy hz he hkI hk0 DD;go_wp2;go_quiet (fail);clear k0 k1 hnm;have g6:=Qj hg5 nq;obtain ⟨W6,hW6⟩:∃ W6,wr.drewN nq=W6:=⟨_,rfl⟩
        have o6:=Qy ho5 (Qj (Qq wr none) nq);rw [hW6] at g6 o6 ⊢;obtain ⟨g',o',e',k0⟩:=(RX.o.grown g6).name HY.o;injection e' with e';injection e' with e1 e2 _;subst e1 e2;have g7:=grown1 W6 (.cells #[.string (strOfNums y.1)] 9);have O7:=Lv (Qy o6 g7);have N7:=Lv (heap_alloc_new W6 (.cells #[.string (strOfNums y.1)] 9));have G7:=Lv (Qz g6 g7)
        clear hW6 o6 g6 g7 ho5 hg5 J;go_wp2_with (at_builtin;refine Zz strType rfl _ _ rfl _ (O.length) _ rfl O7.o [.string (strOfNums y.1)] rfl W6.heap.size rfl N7.o (strCs_one y.1) (by omega) (by decide) G7.o.size ?_)
        intro v8 w8 ho8 hg8 hv8;obtain ⟨q8,c8,rfl⟩:=Qp ho8;have G8:=Lv (Qr G7.o hg8 (fun g e=>(O7.o.lt g e).1));have O8:=Lv (show w8.ownsRow w4.heap.size 9 1 (.slice q8 (O ++ [y.1]).length c8) (O ++ [y.1]).length ((O ++ [y.1]).flatMap Rz) from by
         rw [List.length_append,List.length_singleton,List.flatMap_append];exact ho8)
        clear ho8 hg8 hv8 k0 O7 N7;go_wp2;go_roundw
        case rel=>exact ⟨⟨K + 1 + 1,O ++ [y.1],q8,c8,hlt,by rw [List.length_append,List.length_singleton];omega,by go_num,by rw [List.length_append];rfl,O8.o,DN.o⟩,G8.o⟩
        case measure=>simp [intOf];omega
    ·have hkm:k=m:=by omega
     subst hkm;have dl:decide ((k:Int) < (k:Int))=false:=by simp
     have FN:=Lv (show KnOut w wr (Qe 257 R 0) (.returned (.slice q5 O.length c5)) from by
      have h:=ALL.o SN O (by rw [SL2.o];exact DD.o) SM.o;subst h;exact ⟨⟨q5,c5,rfl,Go.Joins.ownsRow_le ho5 G4.o.size⟩,Qz G4.o hg5⟩)
     clear ho5 hg5;go_wp2;go_ret
     exact FN.o
theorem few_pos:∀ (m:Nat) (l:List Int),l.Pairwise (·≠·)→(∀ x∈l,1≤x∧x≤m)→l.length≤m
 | 0,[],_,_=>Nat.le_refl _
 | 0,x :: l,_,h=>by have:=h x (List.mem_cons_self ..);omega
 | m + 1,l,hp,h=>by
  have h1:(l.filter fun x=>!decide (x=((m + 1:Nat):Int))).length≤m:=few_pos m _ (hp.filter _) (fun x hx=>by
   obtain ⟨a,b⟩:=List.mem_filter.1 hx
   have:=h x a
   simp only [Bool.not_eq_true',decide_eq_false_iff_not] at b;omega)
  have h2:(l.filter fun x=>decide (x=((m + 1:Nat):Int))).length≤1:=by
   have hq:=hp.filter (fun x=>decide (x=((m + 1:Nat):Int)));have hall:∀ x∈l.filter (fun x=>decide (x=((m + 1:Nat):Int))),x=((m + 1:Nat):Int):=fun x hx=>by
    have:=(List.mem_filter.1 hx).2
    simpa using this
   cases hl:l.filter (fun x=>decide (x=((m + 1:Nat):Int))) with
   | nil=>simp
   | cons a r =>
    cases r with
    | nil=>simp
    | cons b r =>
     exfalso
     rw [hl] at hq hall;exact (List.pairwise_cons.1 hq).1 b (List.mem_cons_self ..) ((hall a (List.mem_cons_self ..)).trans (hall b (by simp)).symm)
  have h3:l.length=(l.filter fun x=>decide (x=((m + 1:Nat):Int))).length + (l.filter fun x=>!decide (x=((m + 1:Nat):Int))).length:=by
   clear h1 h2 h hp
   induction l with
   | nil=>rfl
   | cons a l ih =>
    by_cases ha:a=((m + 1:Nat):Int)
    ·rw [List.filter_cons_of_pos (by simpa using ha),List.filter_cons_of_neg (by simpa using ha),List.length_cons,List.length_cons];omega
    ·rw [List.filter_cons_of_neg (by simpa using ha),List.filter_cons_of_pos (by simpa using ha),List.length_cons,List.length_cons];omega
  omega
theorem kids_few {nd:PN} (h:PnOk nd):nd.kids.length≤255:=by
 have:=few_pos 255 (nd.kids.map fun k=>k.1.getD 0 0) (List.pairwise_map.2 h.apart) (fun x hx=>by
  obtain ⟨k,hk,rfl⟩:=List.mem_map.1 hx;have e:=h.edge k hk;obtain ⟨c,t,hc⟩:∃ c t,k.1=c :: t:=by
   cases hk1:k.1 with
   | nil=>exact absurd hk1 e.ne
   | cons c t=>exact ⟨c,t,rfl⟩
  rw [hc];have hb:=e.byt c (by rw [hc];exact List.mem_cons_self ..);have hz:c≠0:=fun h0=>e.zero (by rw [hc,h0];exact List.mem_cons_self ..);show 1≤c∧c≤255
  omega)
 rwa [List.length_map] at this
theorem said_len {x:Ex} (h:ExOk x):(Gp x).length≤300:=by
 have h1:=Yw (Lz x) (by unfold Lz;repeat' (first | omega | split));have h2:=Yw x.ordinal.toNat (by have:=h.ordinal;omega);have h3:=Yw x.value.toNat (by have:=h.value;omega);have h4:=Yw x.resolver.toNat (by have:=h.resolver;omega);have h5:x.other.length≤255:=by
  have:=h.text
  unfold Hv at this;rw [Bool.and_eq_true,decide_eq_true_eq] at this;exact this.1
 unfold Gp;rw [List.length_append]
 split
 ·simp only [List.length_append,List.length_singleton];omega
 split
 ·simp only [List.length_append];omega
 ·omega
theorem front_len {nd:PN} (h:PnOk nd):(Yx nd.says).length≤310:=by
 cases hs:nd.says with
 | none=>simp [Yx]
 | some x =>
  have:=said_len (h.says x hs)
  have:=Yw (Gp x).length (by omega)
  show (encU (Gp x).length ++ Gp x).length≤310
  rw [List.length_append];omega
theorem node_len {pl:List Nat} (hp:∀ i,pl.getD i 0 < 18446744073709551616) {nd:PN} (h:PnOk nd):(Vn pl nd).length≤68141:=by
 have h1:=front_len h;have h2:=kids_few h;have h3:∀ ks:List (List Int × Nat),(∀ k∈ks,Sh k.1)→(ks.flatMap (kidB pl)).length≤266 * ks.length:=by
  intro ks
  induction ks with
  | nil=>intro _;simp
  | cons k ks ih =>
   intro hk;have a:=(hk k (List.mem_cons_self ..)).len;have b:=Yw (pl.getD k.2 0) (hp _);have c:=ih (fun x hx=>hk x (List.mem_cons_of_mem _ hx));rw [List.flatMap_cons,List.length_append,List.length_cons];unfold kidB at *;rw [List.length_append,List.length_append,List.length_singleton];omega
 have h4:=h3 nd.kids h.edge;unfold Vn;rw [List.length_append,List.length_append,List.length_singleton];omega
theorem lay_len {pl:List Nat} (hp:∀ i,pl.getD i 0 < 18446744073709551616):∀ (nodes:List PN),(∀ nd∈nodes,PnOk nd)→(layB pl nodes).length≤68141 * nodes.length
 | [],_=>by simp [layB]
 | nd :: l,h=>by
  have a:=node_len hp (h nd (List.mem_cons_self ..));have b:=lay_len hp l (fun x hx=>h x (List.mem_cons_of_mem _ hx));unfold layB at b ⊢;rw [List.flatMap_cons,List.length_append,List.length_cons];omega
theorem rounds_ok {nodes:List PN} (hok:∀ nd∈nodes,PnOk nd) (hfew:nodes.length≤8192):∀ t,(∀ i,(Qs nodes t).getD i 0≤558211072)∧(layB (Qs nodes t) nodes).length≤558211072:=by
 have key:∀ t,(∀ i,(Qs nodes t).getD i 0≤558211072)→(layB (Qs nodes t) nodes).length≤558211072:=fun t h=>by
  have:=lay_len (pl:=Qs nodes t) (fun i=>by have:=h i;omega) nodes hok
  omega
 intro t
 induction t with
 | zero =>
  have h0:∀ i,(Qs nodes 0).getD i 0≤558211072:=fun i=>by
   simp only [Qs,List.getD_eq_getElem?_getD,List.getElem?_replicate]
   split <;> simp
  exact ⟨h0,key 0 h0⟩
 | succ t ih =>
  have h1:∀ i,(Qs nodes (t + 1)).getD i 0≤558211072:=fun i=>by
   show (Xc (Qs nodes t) 0 nodes).getD i 0≤558211072
   rcases Nat.lt_or_ge i nodes.length with h | h
   ·rw [placesF_at _ _ _ _ h]
    have:=lay_le (Qs nodes t) h
    have:=ih.2
    omega
   ·have hl:=Vc (Qs nodes t) nodes 0
    rw [List.getD_eq_getElem?_getD,List.getElem?_eq_none (by omega)];exact Nat.zero_le _
  exact ⟨h1,key _ h1⟩
structure PlanF (R:Out) (N:List (List Int)) (P:List PN):Prop where
 len:N.length=P.length
 own:Jb N P=R
 up:N.Pairwise fun a b=>nmLt a b=true
 ok:∀ nd∈P,PnOk nd
 edge:∀ i nd,P[i]?=some nd→∀ x∈nd.kids,i < x.2∧x.2 < P.length∧N.getD x.2 []=N.getD i [] ++ x.1
 kids:∀ j,j < P.length→(runK N P.length 0 ([],fun _=>[])).2 j=K0 P j
 few:P.length≤8192
 name:∀ q∈N,Byt q∧q.length≤255
theorem adj_sub:∀ (l:Out) (q:List Int),q∈adjN l→∃ y∈l,∃ n,q=y.1.take n
 | [],q,h=>by cases h
 | [_],q,h=>by cases h
 | a :: b :: l,q,h=>by
  rcases List.mem_cons.1 h with h | h
  ·exact ⟨a,List.mem_cons_self ..,_,h⟩
  ·obtain ⟨y,hy,n,e⟩:=adj_sub (b :: l) q h
   exact ⟨y,List.mem_cons_of_mem _ hy,n,e⟩
theorem planF {R:Out} (hn:R≠[]) (hu:Up R) (hok:∀ y∈R,Ge y.1∧ExOk y.2) (hfew:R.length≤4096):PlanF R (Qe 257 R 0) (plan 257 R 0 0):=by
 have h255:∀ y∈R,y.1.length≤255:=fun y hy=>(hok y hy).1.len;have NO:=Hs 257 R [] hn hu.rise h255 (by simp);have hat:∀ j,j < (Qe 257 R ([]:List Int).length).length→(Qe 257 R 0).getD (0 + j) []=(Qe 257 R ([]:List Int).length).getD j []:=fun j _=>by rw [Nat.zero_add];rfl
 have E:=edges_plan (Qe 257 R 0) 257 R [] 0 hn hu.rise h255 (by simp) hat;have K:=run_plan (Qe 257 R 0) 257 R [] 0 [] (fun _=>[]) hn hu.rise h255 (by simp) hat (fun s hs=>by cases hs);refine ⟨Ww 257 R 0 0,owns_plan 257 R [] 0 hn hu.rise h255 (by simp),NO.up,plan_ok 257 R [] 0 hn hu.rise hok,fun i nd hi x hx=>?_,fun j hj=>?_,?_,fun q hq=>?_⟩
 ·have:=E.2 i nd hi x hx
  simp only [Nat.zero_add] at this;exact this
 ·have:=K.kids j
  rw [if_pos ⟨Nat.zero_le _,by rw [Nat.zero_add];exact hj⟩,List.nil_append,Nat.sub_zero] at this;exact this
 ·have:(plan 257 R 0 0).length≤2 * R.length:=plan_len0 256 R 0 hn hu.rise (fun y hy=>(hok y hy).1.ne)
  omega
 ·have hm:=(NO.mem q).1 hq
  rcases hm with rfl | h | h
  ·exact ⟨fun x hx=>(by cases hx),by simp⟩
  ·obtain ⟨y,hy,rfl⟩:=List.mem_map.1 h
   exact ⟨(hok y hy).1.byt,(hok y hy).1.len⟩
  ·obtain ⟨y,hy,n,rfl⟩:=adj_sub R q h
   exact ⟨(hok y hy).1.byt.take n,by rw [List.length_take];have:=(hok y hy).1.len;omega⟩
def Bytes (w w':World) (all:List Int) (e:Ending):Prop :=
 (∃ q c,e=.returned (.slice q all.length c)∧w'.ownsRow w.heap.size 5 1 (.slice q all.length c) all.length (all.map (Value.int .u8)))∧Below w.heap.size w w'
theorem own_lit (w:World) (x:Int):(w.alloc (.cells #[.int .u8 x] 5)).ownsRow w.heap.size 5 1 (.slice (some ⟨w.heap.size,0,none⟩) 1 1) 1 [.int .u8 x] :=
 World.ownsRow_lit w #[.int .u8 x] 1 (Nat.le_refl _) (by decide) rfl
theorem own_below {w w':World} {base:Nat} {v:Value} {n:Nat} {xs:List Value} (h:w.ownsRow base 5 1 v n xs) (hb:Below w.heap.size w w') (_:base≤w.heap.size):w'.ownsRow base 5 1 v n xs :=
 h.kept (Qt hb none) (by cases v.ownBlock <;> simp)
theorem refput_any (k:Nat):∀ (n:Nat),n < k→n < 18446744073709551616→∀ w:World,Calls Tryz.prog 39 #[.int .u64 n] w fun e w'=>Bytes w w' (encU n) e:=by
 induction k with
 | zero=>intro n h;omega
 | succ k ih =>
  intro n hk hn w;by_cases h:n < 128
  ·have e1:=Vw h
   have E:=Lv e1;have O:=Lv (own_lit w n);clear e1;clear ih hk;generalize encU n=all at *;go_enter Tryz.func39,Tryz.ntmps39;go_wp2_with fail;go_ret
   rw [E.o];exact ⟨⟨_,_,rfl,O.o⟩,(Below.refl _ _).alloc (Nat.le_refl _) _⟩
  ·have e1:=Gv h
   have hl:=Yw n hn;have I:=Lv (ih (n / 128) (by omega) (by omega));have O:=Lv (own_lit w ((n:Int) % 128 + 128));have e3:((n / 128:Nat):Int)=(n:Int) / 128:=by omega
   have e2:((n % 128:Nat):Int) + 128=(n:Int) % 128 + 128:=by omega
   rw [e2] at e1;rw [e3] at I;have E:=Lv e1;clear ih e1 e2 e3;generalize encU n=all at *;generalize encU (n / 128)=rest at *;have hl2:rest.length≤10:=by rw [E.o] at hl;simp at hl;omega
   go_enter Tryz.func39,Tryz.ntmps39;go_wp2_with fail;refine (I.o _).mono ?_
   rintro e w2 ⟨⟨q2,c2,rfl,o2⟩,b2⟩;have own2:=own_below O.o b2 (by simp);have b3:Below w.heap.size w w2:=((Below.refl _ _).alloc (Nat.le_refl _) _).trans (b2.mono (by simp));have hb2:=Qk.of_own rfl o2;have OW:=Lv own2;have HB:=Lv hb2;have B3:=Lv b3;clear own2 hb2 b3 o2 b2;go_wp2_with (at_builtin;refine wp_append_bytes rfl _ _ rfl rfl _ _ _ rfl OW.o rest rest.length rfl rfl HB.o ?_ ?_ ?_)
   ·omega
   ·exact B3.o.size
   ·intro v' w3 h1 h2
    obtain ⟨q',c',rfl⟩:=own_slice8 h1;have hB:Below w.heap.size w w3:=B3.o.trans (Qg h2 B3.o.size (fun g hg=>(OW.o.lt g hg).1));have hl3:all.length=1 + rest.length:=by rw [E.o];simp;omega
    have h1':w3.ownsRow w.heap.size 5 1 (.slice q' all.length c') all.length (all.map (Value.int .u8)):=by
     rw [hl3,E.o];exact h1
    have F:=Lv (And.intro h1' hB);have L:=Lv hl3;clear h1 h2 hB h1' hl3;go_wp2;go_ret
    rw [← L.o];exact ⟨⟨_,_,rfl,F.o.1⟩,F.o.2⟩
structure BOut (w w':World) (all:List Int) (e:Ending):Prop where
 ex:∃ q c,e=.returned (.slice q all.length c)∧w'.ownsRow w.heap.size 5 1 (.slice q all.length c) all.length (all.map (Value.int .u8))
 grown:w.grownBy w' none
theorem Vk {n:Nat} (hn:n < 18446744073709551616) (w:World):Calls Tryz.prog 39 #[.int .u64 n] w fun e w'=>BOut w w' (encU n) e :=
 (refput_any (n + 1) n (by omega) hn w).mono fun _ _ h=>⟨h.1,Qt h.2 none⟩
section
variable {w:World} {base:Nat}
theorem byteCells_nums {l:List Int} (h:Byt l):byteCells (strOfNums l)=l.map (Value.int .u8):=by
 unfold byteCells;rw [strOfNums_data,List.map_map];apply List.map_congr_left
 intro x hx
 have:=h x hx
 simp only [Function.comp,UInt8.toNat_ofNat']
 congr 1
 omega
theorem run_append_own_str (v:Value) (n:Nat) (xs:List Value) (hown:w.ownsRow base 5 1 v n xs) (s:ByteArray) (hbytes:n + s.size≤140737488355328) (hbase:base≤w.heap.size) :
  ∃ v' w',(Builtin.append_ #[29,9] 29 #[v,.string s]).run Tryz.prog w=.ok v' w'∧w'.ownsRow base 5 1 v' (n + s.size) (xs ++ byteCells s)∧w.grownBy w' v.ownBlock∧(v'.ownBlock=v.ownBlock∨v'.ownBlock=some w.heap.size):=by
 obtain ⟨i,hi,hz,hs,hb⟩:=info_parts H9;have hu:=Tryz.underlying29;have hk:=Tryz.underlying9;have SRC:Src Tryz.prog i.size 9 (.string s) s.size (byteCells s) w:=by rw [hs];exact Src.ofString w hk s
 have hl:(byteCells s).length=s.size * 1:=by rw [byteCells_length,Nat.mul_one]
 have hlen:(xs ++ byteCells s).length=(n + s.size) * 1:=by rw [List.length_append,hown.1,hl,Nat.add_mul]
 have grown:∀ (old:Nat),old < n + s.size→∀ (row:Option Nat),
   (w.drew.alloc (.cells ((xs ++ byteCells s).toArray ++ Builtin.zeroCells (Value.int .u8 0).cells (grownCap w (n + s.size) old 5 - (n + s.size))) 5)).ownsRow base 5 1
     (.slice (some ⟨w.heap.size,0,none⟩) (n + s.size) (grownCap w (n + s.size) old 5)) (n + s.size) (xs ++ byteCells s) ∧
   w.grownBy (w.drew.alloc (.cells ((xs ++ byteCells s).toArray ++ Builtin.zeroCells (Value.int .u8 0).cells (grownCap w (n + s.size) old 5 - (n + s.size))) 5)) row:=by
  intro old ho row;have hge:=grownCap_ge w (n + s.size) old 5;have hcm:grownCap w (n + s.size) old 5≤maxLen:=grownCap_le_maxLen w (n + s.size) old 5 (by unfold maxLen;omega);refine ⟨⟨hlen,.inr ⟨w.heap.size,_,_,rfl,hbase,heap_alloc_new w.drew _,hge,hcm,?_,?_⟩⟩,⟨rfl,rfl,rfl,by simp,fun k hk _=>Go.heap_alloc_old w.drew _ hk⟩⟩
  ·rw [Array.size_append,size_zeroCells,List.size_toArray,hlen]
   show (n + s.size) * 1 + _ * 1=_
   omega
  ·rw [Array.toList_append,← hlen]
   exact List.take_left
 rcases hown.2 with ⟨rfl,rfl⟩ | ⟨g,cap,cur,rfl,hbg,hg,hnc,hcm,hcs,htake⟩
 ·have hx:xs=[]:=List.eq_nil_of_length_eq_zero (by simpa using hown.1)
  subst hx;by_cases hm:s.size=0
  ·have hn:byteCells s=[]:=List.eq_nil_of_length_eq_zero (by rw [hl,hm])
   refine ⟨.slice none 0 0,w,?_,by rw [hn,hm];exact World.ownsRow_nil w base _ _,Qq w _,.inl rfl⟩;have h2:=SRC.cells;rw [hn,hs,hm] at h2;simp [Builtin.append_,run_underlying hu,run_underlying hk,sizeOf,typeInfo,hi,SRC.len,hs,hm,h2,Result.andThen]
  ·have hr:=run_append_grow_src (P:=Tryz.prog) w 29 9 29 5 i (.int .u8 0) hu hi hz none 0 0 [] (run_firstCells_none w.drew i.size 0 0 0) (.string s) s.size (byteCells s) SRC (by omega) (by omega) (by rw [hb];exact growslice_fits (by omega) (by omega))
   have hgr:=grown 0 (by omega) (Value.ownBlock (.slice none 0 0));simp only [Nat.zero_add,List.nil_append] at hr hgr ⊢;exact ⟨_,_,hr,hgr.1,hgr.2,.inr rfl⟩
 ·by_cases hroom:n + s.size≤cap
  ·have hfit:n * 1 + (byteCells s).length≤cur.size:=by rw [hl,hcs,← Nat.add_mul];exact Nat.mul_le_mul_right _ hroom
   have hst:=run_storeCells_at Tryz.prog g (n * 1) 5 (byteCells s) 0 cur w hg (by simpa using hfit) SRC.one;simp only [Nat.add_zero,Nat.mul_one] at hst;have hr:(Builtin.append_ #[29,9] 29 #[.slice (some ⟨g,0,none⟩) n cap,.string s]).run Tryz.prog w =
       .ok (.slice (some ⟨g,0,none⟩) (n + s.size) cap) (w.setRow g (cur.toList.take (n * 1) ++ byteCells s ++ cur.toList.drop (n * 1 + (byteCells s).length)).toArray):=by
     have h2:=SRC.cells;rw [hs] at h2;simp [Builtin.append_,run_underlying hu,run_underlying hk,sizeOf,typeInfo,hi,hs,SRC.len,hroom,h2,Addr.add_lit,hst]
   refine ⟨_,_,hr,⟨hlen,.inr ⟨g,cap,_,rfl,hbg,setRow_heap w g cur _ _ _ hg,hroom,hcm,?_,?_⟩⟩,⟨rfl,rfl,rfl,by simp,fun k _ hk=>setRow_other w g k _ (fun e=>hk (by simp [Value.ownBlock,e]))⟩,.inl rfl⟩
   · simp only [List.size_toArray,List.length_append,List.length_take,List.length_drop,Array.length_toList]
     omega
   · rw [htake,← hlen]
     exact List.take_left
  ·have holds:∀ j u,xs[j]?=some u→w.cell? ((⟨g,0,none⟩:Addr).add j)=some u:=hown.cells (g:=g) rfl
   have hold:(Builtin.firstCells i.size n (.slice (some ⟨g,0,none⟩) n cap)).run Tryz.prog w.drew=.ok xs.toArray w.drew :=
     run_firstCells_some w.drew i.size n ⟨g,0,none⟩ n cap xs (by rw [hs];exact hown.1) (by simpa using holds)
   have hr:=run_append_grow_src (P:=Tryz.prog) w 29 9 29 5 i (.int .u8 0) hu hi hz (some ⟨g,0,none⟩) n cap xs hold (.string s) s.size (byteCells s) SRC (by omega) (by omega) (by rw [hb];exact growslice_fits (by omega) (by omega));have hgr:=grown cap (by omega) (Value.ownBlock (.slice (some ⟨g,0,none⟩) n cap));exact ⟨_,_,hr,hgr.1,hgr.2,.inr rfl⟩
theorem wp_append_str {ops:Array Oper} {rest:List Oper} {o:Oper} {a:Act} {Q:Exit→Act→World→Prop} (hgd:o.guard=none) (s x:Operand)
  (ho:o.op=.call { callee:=.builtin .append,args:=#[s,x],argTypes:=#[29,9] }) (hty:o.type=29)
  (v:Value) (n:Nat) (xs:List Value) (hs:a.eval s=v) (hown:w.ownsRow base 5 1 v n xs) (l:List Int) (hb:Byt l) (hx:a.eval x=.string (strOfNums l))
  (h63:n + l.length≤140737488355328) (hbase:base≤w.heap.size)
  (h:∀ v' w',w'.ownsRow base 5 1 v' (n + l.length) (xs ++ l.map (Value.int .u8))→w.grownBy w' v.ownBlock→(v'.ownBlock=v.ownBlock∨v'.ownBlock=some w.heap.size)→wpList Tryz.prog ops Q rest (a.put o.dst v') w'):wpList Tryz.prog ops Q (o :: rest) a w:=by
 refine wpList_plain hgd fun K hK=>?_
 obtain ⟨v',w',hr,h2,h3,h5⟩:=run_append_own_str v n xs hown (strOfNums l) (by rw [strOfNums_size];exact h63) hbase;rw [strOfNums_size,byteCells_nums hb] at h2;rw [← hty] at hr;unfold Oper.wp execOp;simp only [ho,resolve,invoke,builtin,Sem.run_bind,Sem.run_pure,Result.andThen_ok,List.map_toArray,List.map_cons,List.map_nil,hs,hx];rw [hty] at hr ⊢;simp only [hr];exact hK _ _ (h v' w' h2 h3 h5)
theorem step_append_str {ops:Array Oper} {o:Oper} {a:Act} {K:Act→World→Prop} {Q:Exit→Act→World→Prop} {E:Prop} (hgd:o.guard=none) (s x:Operand)
  (ho:o.op=.call { callee:=.builtin .append,args:=#[s,x],argTypes:=#[29,9] }) (hty:o.type=29)
  (v:Value) (n:Nat) (xs:List Value) (hs:a.eval s=v) (hown:w.ownsRow base 5 1 v n xs) (l:List Int) (hb:Byt l) (hx:a.eval x=.string (strOfNums l))
  (h63:n + l.length≤140737488355328) (hbase:base≤w.heap.size)
  (h:∀ v' w',w'.ownsRow base 5 1 v' (n + l.length) (xs ++ l.map (Value.int .u8))→w.grownBy w' v.ownBlock→(v'.ownBlock=v.ownBlock∨v'.ownBlock=some w.heap.size)→K (a.put o.dst v') w') :
  if Region.wanted o (yielded ops a.tmps)=true then Oper.wp Tryz.prog o a w K Q else E:=by
 have hw:Region.wanted o (yielded ops a.tmps)=true:=by simp [Region.wanted,hgd]
 rw [if_pos hw];obtain ⟨v',w',hr,h2,h3,h5⟩:=run_append_own_str v n xs hown (strOfNums l) (by rw [strOfNums_size];exact h63) hbase;rw [strOfNums_size,byteCells_nums hb] at h2;rw [← hty] at hr;unfold Oper.wp execOp;simp only [ho,resolve,invoke,builtin,Sem.run_bind,Sem.run_pure,Result.andThen_ok,List.map_toArray,List.map_cons,List.map_nil,hs,hx];rw [hty] at hr ⊢;simp only [hr];exact h v' w' h2 h3 h5
end
section
variable {w w' W V:World} {base:Nat} {q:Option Addr} {c:Nat}
theorem step_append_b {ops:Array Oper} {o:Oper} {a:Act} {K:Act→World→Prop} {Q:Exit→Act→World→Prop} {E:Prop} (hgd:o.guard=none) (s x:Operand)
  (ho:o.op=.call { callee:=.builtin .append,args:=#[s,x],argTypes:=#[29,29] }) (hty:o.type=29)
  (v:Value) (n:Nat) (xs:List Value) (hs:a.eval s=v) (hown:w.ownsRow base 5 1 v n xs) (news:List Int) (m:Nat) (hm:news.length=m) (hx:a.eval x=.slice q m c) (hb:Qk w q c news)
  (h63:n + m≤140737488355328) (hbase:base≤w.heap.size)
  (h:∀ v' w',w'.ownsRow base 5 1 v' (n + m) (xs ++ news.map (Value.int .u8))→w.grownBy w' v.ownBlock→(v'.ownBlock=v.ownBlock∨v'.ownBlock=some w.heap.size)→K (a.put o.dst v') w') :
  if Region.wanted o (yielded ops a.tmps)=true then Oper.wp Tryz.prog o a w K Q else E:=by
 subst hm;have hw:Region.wanted o (yielded ops a.tmps)=true:=by simp [Region.wanted,hgd]
 rw [if_pos hw];obtain ⟨i,hi,hz0,hz1,hz2⟩:=info_parts H9;rcases hb.ways with ⟨rfl,rfl,rfl⟩ | ⟨ad,rfl,hc⟩
 ·have hr:=Yv v n xs hown
  rw [← hty] at hr;refine Lib.wp_append_run w s x _ _ ho _ _ hs hx _ _ (by rw [hty] at hr ⊢;exact hr) (h v w (by simpa using hown) (Qq w _) (.inl rfl))
 ·obtain ⟨v',w',hr,h2,h3,_,h5⟩:=run_append_own_at (P:=Tryz.prog) w base 29 o.type 5 i (.int .u8 0) 1 1 Tryz.underlying29 hi hz0 hz1 hz2 rfl (by decide) v n xs hown ad news.length c (news.map (Value.int .u8)) (by simp)
    (by
      intro j u hu;have hj:j < news.length:=by
       rcases Nat.lt_or_ge j news.length with h | h
       ·exact h
       ·simp [h] at hu
      rw [hc j hj];simp [hj] at hu ⊢
      exact hu)
    (by
      intro u hu;obtain ⟨y,_,rfl⟩:=List.mem_map.1 hu;rfl) (by unfold maxLen;omega) (by omega) hbase
  exact Lib.wp_append_run w s x _ _ ho _ _ hs hx _ _ hr (h v' w' h2 h3 h5)
theorem zero_new (W:World):(W.alloc (.cells #[.int .u8 0] 5 (0,0))).cell? ⟨W.heap.size,0,none⟩=some (.int .u8 0):=by
 rw [Qm (heap_alloc_new W _)];rfl
theorem zero_is {b:Nat} (h:w.cell? ⟨b,0,none⟩=some (.int .u8 0)):Qk w (some ⟨b,0,none⟩) 1 [0]:=by
 refine Qk.mk_at (fun i hi=>?_)
 have:i=0:=by simpa using hi
 subst this;exact h
theorem frontB_some (x:Ex):Yx (some x)=encU (Gp x).length ++ Gp x:=rfl
theorem said_any (nm:ByteArray) (x:Ex) (hx:ExOk x) (hk:x.kind=1∧x.weak=false) (w:World):Calls Tryz.prog 38 #[exV nm x] w fun e w'=>BOut w w' (Yx (some x)) e:=by
 have g1:=grown1 w (.cells (Zd nm x) 28);have E1:ExAt (w.alloc (.cells (Zd nm x) 28)) w.heap.size nm x:=heap_alloc_new w _;obtain ⟨w1,hw1⟩:∃ w1,w.alloc (.cells (Zd nm x) 28)=w1:=⟨_,rfl⟩
 obtain ⟨g,hg0⟩:∃ g,w.heap.size=g:=⟨_,rfl⟩
 rw [hw1] at g1 E1;rw [hg0] at E1;obtain ⟨kind,weak,value,resolver,ordinal,other⟩:=x;have HG:=Lv g1;have HW1:=Lv hw1;have HG0:=Lv hg0;obtain ⟨hv,hr,ho,hob,-,ht⟩:=hx;unfold Hv at ht;rw [Bool.and_eq_true,decide_eq_true_eq,decide_eq_true_eq] at ht;simp only [] at hv hr ho hob ht;obtain ⟨nv,rfl⟩:∃ n:Nat,value=(n:Int):=⟨value.toNat,by omega⟩
 obtain ⟨nr,rfl⟩:∃ n:Nat,resolver=(n:Int):=⟨resolver.toNat,by omega⟩
 obtain ⟨no,rfl⟩:∃ n:Nat,ordinal=(n:Int):=⟨ordinal.toNat,by omega⟩
 have hv6:nv < 18446744073709551616:=by omega
 have hr6:nr < 18446744073709551616:=by omega
 have ho6:no < 18446744073709551616:=by omega
 have PV:=Lv (fun W=>Vk hv6 W);have PR:=Lv (fun W=>Vk hr6 W);have PO:=Lv (fun W=>Vk ho6 W);have PF:=Lv (fun (n:Nat) (hn:n < 18446744073709551616) W=>Vk hn W);have hl1:=Yw nv hv6;have hl2:=Yw nr hr6;have hl3:=Yw no ho6;have HOB:=Lv hob;have hol:=ht.1;obtain ⟨c0,c1,c2,c3,c4,c5,c6⟩:=E1.c;simp only [] at c1 c2 c3 c4 c5 c6;have C3:=Lv c3
 have C4:=Lv c4;have C5:=Lv c5;have C6:=Lv c6;clear E1 g1 hw1 hg0 hv hr ho hob ht hv6 hr6 ho6;simp only [] at hk;obtain ⟨hk1,rfl⟩:=hk;have k3:¬ kind=3:=by omega
 have k4:¬ kind=4:=by omega
 have k2:¬ kind=2:=by omega
 clear hk1;have d3:(kind == 3)=false:=by simpa using k3
 have d4:(kind == 4)=false:=by simpa using k4
 have d2:(kind == 2)=false:=by simpa using k2
 go_enter Tryz.func38,Tryz.ntmps38;simp only [exV,Zd] at HW1 ⊢;go_upto_region 1 with fail;rw [HW1.o,HG0.o];clear HW1 HG0;go_wp2_with fail;refine (PV.o w1).mono ?_
 rintro e wz ⟨⟨qz,cz,rfl,hz⟩,hgz⟩;have GZ:=Lv (Qz HG.o hgz);have RO:=Lv hz;have hRl:=hl1;clear hz hgz;obtain ⟨R,hR⟩:∃ R,R=encU nv:=⟨_,rfl⟩
 rw [← hR] at RO hRl ⊢;have HRS:=Lv (show Gp ⟨kind,false,(nv:Int),(nr:Int),(no:Int),other⟩=encU 0 ++ R by rw [hR];simp [Gp,Lz,k2,k3,k4]);clear hR;have HSB:=Lv (show Gp ⟨kind,false,(nv:Int),(nr:Int),(no:Int),other⟩=encU 0 ++ R from HRS.o);have hFl:=Yw 0 (by decide);have GZs:=GZ.o.size;go_wp2_with fail;refine (PF.o 0 (by decide) wz).mono ?_
 rintro e wa ⟨⟨qa,ca,rfl,ha⟩,hga⟩;have OA:=Lv ha;have IR:=Lv (Qk.of_own rfl (Qy RO.o hga));have GA:=Lv (Qz GZ.o hga);have GZA:=Lv hga;clear ha hga RO;go_wp2_with (at_builtin;refine Gu rfl _ _ rfl rfl _ (encU 0).length _ rfl OA.o R R.length rfl rfl IR.o (by omega) GZA.o.size ?_)
 intro vb wb hob hgb hvb;have GB:=Lv (Qr GA.o hgb (fun g e=>by have:=(OA.o.lt g e).1;have:=GZ.o.size;omega));obtain ⟨qb,cb,rfl⟩:=Qp hob;obtain ⟨SB,hSB⟩:∃ L,L=Gp ⟨kind,false,(nv:Int),(nr:Int),(no:Int),other⟩:=⟨_,rfl⟩
 have hsl:SB.length=(encU 0).length + R.length:=by rw [hSB,HSB.o,List.length_append]
 have hsb:SB.map (Value.int .u8)=(encU 0).map (Value.int .u8) ++ R.map (Value.int .u8):=by rw [hSB,HSB.o,List.map_append]
 rw [← hsb,← hsl] at hob;have OB:=Lv hob;have HSL:=Lv hsl;have HFR:=Lv (show Yx (some ⟨kind,false,(nv:Int),(nr:Int),(no:Int),other⟩)=encU SB.length ++ SB by rw [frontB_some,hSB]);rw [← hsl];have hs64:SB.length < 18446744073709551616:=by omega
 have hsm:SB.length≤1000000:=by omega
 clear hob hgb hvb OA IR hSB hsl hsb HSB;have PS:=Lv (PF.o SB.length hs64 wb);have hSl:=Yw SB.length hs64;go_wp2_with fail;refine PS.o.mono ?_
 rintro e wc ⟨⟨qc,cc,rfl,hc⟩,hgc⟩;have OC:=Lv hc;have IS:=Lv (Qk.of_own rfl (Qy OB.o hgc));have GC:=Lv (Qz GB.o hgc);have GBC:=Lv hgc;clear hc hgc OB;go_wp2_with (at_builtin;refine Gu rfl _ _ rfl rfl _ (encU SB.length).length _ rfl OC.o SB SB.length rfl rfl IS.o (by omega) GBC.o.size ?_)
 intro vd wd hod hgd hvd;have GD:=Lv (Qr GC.o hgd (fun g e=>by have:=(OC.o.lt g e).1;have:=GB.o.size;omega));obtain ⟨qd,cd,rfl⟩:=Qp hod;have F:=Lv (show BOut w wd (Yx (some ⟨kind,false,(nv:Int),(nr:Int),(no:Int),other⟩)) (.returned (.slice qd ((encU SB.length).length + SB.length) cd)) from by
  have hl:(Yx (some ⟨kind,false,(nv:Int),(nr:Int),(no:Int),other⟩)).length=(encU SB.length).length + SB.length:=by rw [HFR.o,List.length_append]
  have hm:(Yx (some ⟨kind,false,(nv:Int),(nr:Int),(no:Int),other⟩)).map (Value.int .u8)=(encU SB.length).map (Value.int .u8) ++ SB.map (Value.int .u8):=by rw [HFR.o,List.map_append]
  refine ⟨⟨qd,cd,by rw [hl],?_⟩,GD.o⟩;rw [hl,hm];exact Go.Joins.ownsRow_le hod GB.o.size)
 clear hod hgd hvd OC IS;go_wp2;go_ret
 exact F.o
end
section
variable {w w0 w1 w2 w':World} {base:Nat} {v v1 v2 v' va vb va':Value} {xs ys A A' C:List Int}
theorem Gd {base n c:Nat} {q:Option Addr} {T:TypeId} {k:Nat} {l:List Value} (h:w.ownsRow base T k (.slice q n c) n l):n≤c∧c≤9223372036854775807:=by
 rcases h.2 with ⟨e,h0⟩ | ⟨g,cap,cur,e,_,_,hle,hm,_⟩
 ·injection e with _ e2 e3
  omega
 ·injection e with _ e2 e3
  subst e3;unfold maxLen at hm;omega
structure Xm (w w':World) (base:Nat) (v v':Value) (xs:List Int):Prop where
 own:w'.ownsRow base 5 1 v' xs.length (xs.map (Value.int .u8))
 grown:w.grownBy w' v.ownBlock
 lies:v'.ownBlock=v.ownBlock∨∃ b,v'.ownBlock=some b∧w.heap.size≤b
theorem Xm.refl (h:w.ownsRow base 5 1 v xs.length (xs.map (Value.int .u8))):Xm w w base v v xs:=⟨h,Qq _ _,.inl rfl⟩
theorem Xm.trans (h:Xm w w1 base v v1 xs) (k:Xm w1 w2 base v1 v2 ys):Xm w w2 base v v2 ys:=by
 refine ⟨k.own,⟨k.grown.os.trans h.grown.os,k.grown.tape.trans h.grown.tape,k.grown.output.trans h.grown.output,Nat.le_trans h.grown.size k.grown.size,fun i hi hr=>?_⟩,?_⟩
 ·refine (k.grown.block i (Nat.lt_of_lt_of_le hi h.grown.size) (fun e=>?_)).trans (h.grown.block i hi hr)
  rcases h.lies with hl | ⟨b,hl,hb⟩
  ·exact hr (by rw [← hl];exact e)
  ·rw [hl] at e;injection e with e;omega
 ·rcases k.lies with kl | ⟨b,kl,hb⟩
  ·rcases h.lies with hl | ⟨b,hl,hb⟩
   ·exact .inl (kl.trans hl)
   ·exact .inr ⟨b,kl.trans hl,hb⟩
  ·exact .inr ⟨b,kl,Nat.le_trans h.grown.size hb⟩
theorem Xm.past (h:Xm w w1 base v v1 xs) (g:w1.grownBy w2 none):Xm w w2 base v v1 xs :=
 ⟨Qy h.own g,⟨g.os.trans h.grown.os,g.tape.trans h.grown.tape,g.output.trans h.grown.output,Nat.le_trans h.grown.size g.size,fun i hi hr=>(g.block i (Nat.lt_of_lt_of_le hi h.grown.size) (by simp)).trans (h.grown.block i hi hr)⟩,h.lies⟩
theorem Xm.len {q:Option Addr} {m c:Nat} (h:Xm w w' base v (.slice q m c) xs):xs.length=m:=by
 rcases h.own.2 with ⟨e,h0⟩ | ⟨g,cap,cur,e,_⟩
 ·injection e with _ e2 _
  omega
 ·injection e with _ e2 _
  omega
theorem Xm.out {q:Option Addr} {m c:Nat} {base:Nat} {xs:List Int} {v:Value} (h:Xm w w' base v (.slice q m c) xs) (hv:v.ownBlock=none):w.grownBy w' none:=by
 have:=h.grown
 rwa [hv] at this
theorem He (w:World) (x:Int):Qk (w.alloc (.cells #[.int .u8 x] 5)) (some ⟨w.heap.size,0,none⟩) 1 [x]:=by
 refine Qk.mk_at fun i hi=>?_
 rw [Qm (heap_alloc_new w _),Nat.zero_add];have h1:i < 1:=hi
 match i,h1 with
 | 0,_=>rfl
theorem bytes2_new (w:World) (x y:Int):Qk (w.alloc (.cells #[.int .u8 x,.int .u8 y] 5)) (some ⟨w.heap.size,0,none⟩) 2 [x,y]:=by
 refine Qk.mk_at fun i hi=>?_
 rw [Qm (heap_alloc_new w _),Nat.zero_add];have h1:i < 2:=hi
 match i,h1 with
 | 0,_=>rfl
 | 1,_=>rfl
theorem Zi {ops:Array Oper} {rest:List Oper} {o:Oper} {a:Act} {Q:Exit→Act→World→Prop} (hgd:o.guard=none) (s x:Operand)
  (ho:o.op=.call { callee:=.builtin .append,args:=#[s,x],argTypes:=#[29,29] }) (hty:o.type=29)
  {w0:World} {v0 v:Value} {xs:List Int} (hs:a.eval s=v) (hr:Xm w0 w base v0 v xs) (news:List Int) (m:Nat) (hm:news.length=m) {q:Option Addr} {c:Nat} (hx:a.eval x=.slice q m c) (hb:Qk w q c news)
  (h63:xs.length + m≤140737488355328) (hbase:base≤w.heap.size)
  (h:∀ q' c' w',Xm w0 w' base v0 (.slice q' (xs.length + m) c') (xs ++ news)→wpList Tryz.prog ops Q rest (a.put o.dst (.slice q' (xs.length + m) c')) w'):wpList Tryz.prog ops Q (o :: rest) a w:=by
 refine Gu hgd s x ho hty v xs.length (xs.map (Value.int .u8)) hs hr.own news m hm hx hb h63 hbase ?_
 intro v' w' h1 h2 h3;obtain ⟨q',c',rfl⟩:=Qp h1;refine h q' c' w' (hr.trans ⟨?_,h2,?_⟩)
 ·rw [List.length_append,List.map_append,hm]
  exact h1
 ·rcases h3 with h3 | h3
  · exact .inl h3
  · exact .inr ⟨_,h3,Nat.le_refl _⟩
theorem wp_append_sto {ops:Array Oper} {rest:List Oper} {o:Oper} {a:Act} {Q:Exit→Act→World→Prop} (hgd:o.guard=none) (s x:Operand)
  (ho:o.op=.call { callee:=.builtin .append,args:=#[s,x],argTypes:=#[29,9] }) (hty:o.type=29)
  {w0:World} {v0 v:Value} {xs:List Int} (hs:a.eval s=v) (hr:Xm w0 w base v0 v xs) (l:List Int) (hb:Byt l) (hx:a.eval x=.string (strOfNums l))
  (h63:xs.length + l.length≤140737488355328) (hbase:base≤w.heap.size)
  (h:∀ q' c' w',Xm w0 w' base v0 (.slice q' (xs.length + l.length) c') (xs ++ l)→wpList Tryz.prog ops Q rest (a.put o.dst (.slice q' (xs.length + l.length) c')) w'):wpList Tryz.prog ops Q (o :: rest) a w:=by
 refine wp_append_str hgd s x ho hty v xs.length (xs.map (Value.int .u8)) hs hr.own l hb hx h63 hbase ?_
 intro v' w' h1 h2 h3;obtain ⟨q',c',rfl⟩:=Qp h1;refine h q' c' w' (hr.trans ⟨?_,h2,?_⟩)
 ·rw [List.length_append,List.map_append]
  exact h1
 ·rcases h3 with h3 | h3
  · exact .inl h3
  · exact .inr ⟨_,h3,Nat.le_refl _⟩
theorem Bb {base:Nat} {ops:Array Oper} {o:Oper} {a:Act} {K:Act→World→Prop} {Q:Exit→Act→World→Prop} {E:Prop} (hgd:o.guard=none) (s x:Operand)
  (ho:o.op=.call { callee:=.builtin .append,args:=#[s,x],argTypes:=#[29,29] }) (hty:o.type=29)
  {w0:World} {v0 v:Value} {xs:List Int} (hs:a.eval s=v) (hr:Xm w0 w base v0 v xs) (news:List Int) (m:Nat) (hm:news.length=m) {q:Option Addr} {c:Nat} (hx:a.eval x=.slice q m c) (hb:Qk w q c news)
  (h63:xs.length + m≤140737488355328) (hbase:base≤w.heap.size)
  (h:∀ q' c' w',Xm w0 w' base v0 (.slice q' (xs.length + m) c') (xs ++ news)→K (a.put o.dst (.slice q' (xs.length + m) c')) w') :
  if Region.wanted o (yielded ops a.tmps)=true then Oper.wp Tryz.prog o a w K Q else E:=by
 have hw:Region.wanted o (yielded ops a.tmps)=true:=by simp [Region.wanted,hgd]
 rw [if_pos hw];subst hm;have key:∃ v' w',(Builtin.append_ #[29,29] 29 #[v,.slice q news.length c]).run Tryz.prog w=.ok v' w'∧w'.ownsRow base 5 1 v' (xs.length + news.length) (xs.map (Value.int .u8) ++ news.map (Value.int .u8))∧w.grownBy w' v.ownBlock∧(v'.ownBlock=v.ownBlock∨v'.ownBlock=some w.heap.size):=by
  obtain ⟨i,hi,hz0,hz1,hz2⟩:=info_parts H9;rcases hb.ways with ⟨rfl,rfl,rfl⟩ | ⟨ad,rfl,hc⟩
  · exact ⟨v,w,Yv v _ _ hr.own,by simpa using hr.own,Qq _ _,.inl rfl⟩
  · obtain ⟨v',w',h1,h2,h3,_,h5⟩:=run_append_own_at (P:=Tryz.prog) w base 29 29 5 i (.int .u8 0) 1 1 Tryz.underlying29 hi hz0 hz1 hz2 rfl (by decide) v xs.length _ hr.own ad news.length c (news.map (Value.int .u8)) (by simp) (by
     intro j u hu;have hj:j < news.length:=by
      rcases Nat.lt_or_ge j news.length with h | h
      ·exact h
      ·simp [h] at hu
     rw [hc j hj];simp [hj] at hu ⊢
     exact hu) (by
     intro u hu;obtain ⟨y,_,rfl⟩:=List.mem_map.1 hu;rfl) (by unfold maxLen;omega) (by omega) hbase
    exact ⟨v',w',h1,h2,h3,h5⟩
 obtain ⟨v',w',h1,h2,h3,h5⟩:=key;obtain ⟨q',c',rfl⟩:=Qp h2;rw [← hty] at h1;refine Lib.wp_append_run w s x _ _ ho _ _ hs hx _ _ (by rw [hty] at h1 ⊢;exact h1) (h q' c' w' (hr.trans ⟨by rw [List.length_append,List.map_append];exact h2,h3,?_⟩));rcases h5 with h5 | h5
 ·exact .inl h5
 ·exact .inr ⟨_,h5,Nat.le_refl _⟩
structure Duo (w0 w:World) (va:Value) (A:List Int) (vb:Value) (C:List Int):Prop where
 a:w.ownsRow w0.heap.size 5 1 va A.length (A.map (Value.int .u8))
 b:w.ownsRow w0.heap.size 5 1 vb C.length (C.map (Value.int .u8))
 ne:∀ g,va.ownBlock=some g→vb.ownBlock≠some g
 grown:w0.grownBy w none
theorem Duo.symm (h:Duo w0 w va A vb C):Duo w0 w vb C va A:=⟨h.b,h.a,fun g hg e=>h.ne g e hg,h.grown⟩
theorem Duo.past (h:Duo w0 w va A vb C) (g:w.grownBy w' none):Duo w0 w' va A vb C:=⟨Qy h.a g,Qy h.b g,h.ne,Qz h.grown g⟩
theorem Duo.step (h:Duo w0 w va A vb C) (k:Xm w w' w0.heap.size va va' A'):Duo w0 w' va' A' vb C:=by
 refine ⟨k.own,h.b.kept k.grown ?_,fun g hg e=>?_,?_⟩
 ·cases hb:vb.ownBlock with
  | none=>exact .inl rfl
  | some g=>exact .inr (fun e=>h.ne g e.symm hb)
 ·rcases k.lies with hl | ⟨b,hl,hb⟩
  ·exact h.ne g (hl ▸ hg) e
  ·rw [hl] at hg
   injection hg with hg
   have:=(h.b.lt g e).2
   omega
 ·refine ⟨k.grown.os.trans h.grown.os,k.grown.tape.trans h.grown.tape,k.grown.output.trans h.grown.output,Nat.le_trans h.grown.size k.grown.size,fun i hi _=>?_⟩
  exact (k.grown.block i (Nat.lt_of_lt_of_le hi h.grown.size) (fun e=>by have:=(h.a.lt i e.symm).1;omega)).trans (h.grown.block i hi (by simp))
structure NOut (w w':World) (all:List Int) (e:Ending):Prop where
 ex:∃ q c,e=.returned (.slice q all.length c)∧w'.ownsRow w.heap.size 5 1 (.slice q all.length c) all.length (all.map (Value.int .u8))
 grown:w.grownBy w' none
end
theorem own_set {B n k c g i:Nat} {T:TypeId} {xs:List Value} (h:W.ownsRow B T k (.slice (some ⟨g,0,none⟩) n c) n xs) (u:Value):(W.setCell ⟨g,i,none⟩ u).ownsRow B T k (.slice (some ⟨g,0,none⟩) n c) n (xs.set i u):=by
 obtain ⟨h1,⟨e,_⟩ | ⟨g',cap,cur,e,hb,hg,hn,hc,hs,ht⟩⟩:=h
 ·cases e
 ·injection e with e _ ec
  injection e with e;injection e with e _ _;subst e ec;refine ⟨by rw [List.length_set];exact h1,.inr ⟨g,c,cur.setIfInBounds i u,rfl,hb,heap_setCell_same W g i _ _ _ hg,hn,hc,by rw [Array.size_setIfInBounds];exact hs,?_⟩⟩;rw [Array.toList_setIfInBounds,List.take_set,ht]
theorem own_shrink {B n m k c:Nat} {q:Option Addr} {T:TypeId} {xs:List Value} (h:W.ownsRow B T k (.slice q n c) n xs) (hm:m≤n):W.ownsRow B T k (.slice q m c) m (xs.take (m * k)):=by
 have hk:m * k≤n * k:=Nat.mul_le_mul_right k hm;obtain ⟨h1,⟨e,e0⟩ | ⟨g',cap,cur,e,hb,hg,hn,hc,hs,ht⟩⟩:=h
 ·injection e with e2 e3 e4
  have hm0:m=0:=by omega
  subst e2 e4 hm0;exact ⟨by rw [List.length_take];omega,.inl ⟨rfl,rfl⟩⟩
 ·injection e with e e2 ec
  subst e ec;refine ⟨by rw [List.length_take];omega,.inr ⟨g',c,cur,rfl,hb,hg,by omega,hc,hs,?_⟩⟩;rw [← ht,List.take_take,Nat.min_eq_left hk]
end Go.Proofs.YtkmbkpoclhbmgaaGreat
