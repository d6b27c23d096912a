/- Parts of the proof, put together: TrO, TrL, TrMay, Put, Puts, Enc, MkA, MkB, TrG, MkC, MkD, MkE, MkF. No condition beyond those that each part names. -/
import Derived.Laws.Bits128
import Derived.Test.YtkmbkpoclhbmgaaGreatPA4
set_option maxRecDepth 20000
set_option maxHeartbeats 6400000
namespace Go.Proofs.YtkmbkpoclhbmgaaGreat
open Go.RowKit
variable {w w' W V:World}
section
open Go.RowKit Go.Sort
variable {w w' W V:World} {xs:List Int}
def nmLt:List Int→List Int→Bool
 | _,[]=>false
 | [],_ :: _=>true
 | x :: a,y :: b=>if x < y then true else if y < x then false else nmLt a b
theorem Z9:∀ a,nmLt a a=false
 | []=>rfl
 | x :: a=>by simp [nmLt,Z9 a]
theorem Vy:∀ {a b:List Int},nmLt a b=false→nmLt b a=false→a=b
 | [],[],_,_=>rfl
 | [],_ :: _,h,_=>by simp [nmLt] at h
 | _ :: _,[],_,h=>by simp [nmLt] at h
 | x :: a,y :: b,h,k=>by
  simp only [nmLt] at h k;by_cases h1:x < y
  ·rw [if_pos h1] at h;cases h
  ·by_cases h2:y < x
   ·rw [if_pos h2] at k;cases k
   ·rw [if_neg h1,if_neg h2] at h
    rw [if_neg h2,if_neg h1] at k;rw [Vy h k,show x=y by omega]
theorem J0:∀ {a b c:List Int},nmLt a b=true→nmLt b c=true→nmLt a c=true
 | _,_,[],_,h=>by simp [nmLt] at h
 | _,[],_ :: _,h,_=>by simp [nmLt] at h
 | [],_ :: _,_ :: _,_,_=>rfl
 | x :: a,y :: b,z :: c,h,k=>by
  simp only [nmLt] at h k ⊢;by_cases h1:x < y
  ·by_cases h2:y < z
   ·rw [if_pos (show x < z by omega)]
   ·rw [if_neg h2] at k
    by_cases h3:z < y
    ·rw [if_pos h3] at k;cases k
    ·rw [if_pos (show x < z by omega)]
  ·rw [if_neg h1] at h
   by_cases h2:y < x
   ·rw [if_pos h2] at h;cases h
   ·rw [if_neg h2] at h
    by_cases h3:y < z
    ·rw [if_pos (show x < z by omega)]
    ·rw [if_neg h3] at k
     by_cases h4:z < y
     ·rw [if_pos h4] at k;cases k
     ·rw [if_neg h4] at k
      rw [if_neg (show ¬ x < z by omega),if_neg (show ¬ z < x by omega)];exact J0 h k
theorem H6 {a b c:List Int} (h:nmLt a b=false) (k:nmLt b c=false):nmLt a c=false:=by
 cases hac:nmLt a c with
 | false=>rfl
 | true =>
  cases hba:nmLt b a with
  | true=>rw [J0 hba hac] at k;cases k
  | false=>rw [Vy h hba] at hac;rw [hac] at k;cases k
theorem compare_lt:∀ (a b:List UInt8),decide (Lib.compareBytes a b < 0)=nmLt (a.map fun u=>(u.toNat:Int)) (b.map fun u=>(u.toNat:Int))
 | [],[]=>rfl
 | [],_ :: _=>rfl
 | _ :: _,[]=>rfl
 | x :: a,y :: b=>by
  have e1:(x < y)↔(x.toNat:Int) < (y.toNat:Int):=by rw [UInt8.lt_iff_toNat_lt];omega
  have e2:(y < x)↔(y.toNat:Int) < (x.toNat:Int):=by rw [UInt8.lt_iff_toNat_lt];omega
  have ih:=compare_lt a b;by_cases h1:x < y
  ·have c:Lib.compareBytes (x :: a) (y :: b)=-1:=if_pos h1
   have n:nmLt ((x :: a).map fun u=>(u.toNat:Int)) ((y :: b).map fun u=>(u.toNat:Int))=true:=if_pos (e1.1 h1);rw [n,decide_eq_true (by rw [c];decide)]
  ·by_cases h2:y < x
   ·have c:Lib.compareBytes (x :: a) (y :: b)=1:=(if_neg h1).trans (if_pos h2)
    have n:nmLt ((x :: a).map fun u=>(u.toNat:Int)) ((y :: b).map fun u=>(u.toNat:Int))=false:=(if_neg (fun h=>h1 (e1.2 h))).trans (if_pos (e2.1 h2));rw [n,decide_eq_false (by rw [c];decide)]
   ·have c:Lib.compareBytes (x :: a) (y :: b)=Lib.compareBytes a b:=(if_neg h1).trans (if_neg h2)
    have n:nmLt ((x :: a).map fun u=>(u.toNat:Int)) ((y :: b).map fun u=>(u.toNat:Int))=nmLt (a.map fun u=>(u.toNat:Int)) (b.map fun u=>(u.toNat:Int)):=(if_neg (fun h=>h1 (e1.2 h))).trans (if_neg (fun h=>h2 (e2.2 h)));rw [n,← ih];simp only [c]
instance:Inhabited (List Int × Ex):=⟨([],Ex.zero)⟩
def Br (x y:List Int × Ex):Int:=Lib.compareBytes (Lib.bytesOf x.1) (Lib.bytesOf y.1)
theorem ltEx (x y:List Int × Ex):ltOf Br x y=nmLt (nums x.1) (nums y.1):=compare_lt _ _
theorem swoEx:SWO (ltOf Br) where
 irrefl x:=by rw [ltEx];exact Z9 _
 trans x y z h1 h2:=by rw [ltEx] at *;exact J0 h1 h2
 ntrans x y z h1 h2:=by rw [ltEx] at *;exact H6 h1 h2
theorem byName_any (x y:List Int × Ex) (W:World):Calls Tryz.prog 31 #[.agg (Q4 x).toArray,.agg (Q4 y).toArray] W fun e w'=>e=.returned (.int .i64 (Br x y))∧∃ q os',w'=grow (W.drewN q) os':=by
 obtain ⟨x1,x2⟩:=x;obtain ⟨y1,y2⟩:=y;have C:=Lv (fun V=>Tryz.strings_Compare (strOfNums x1) (strOfNums y1) V);have e1:Lib.compareBytes (strOfNums x1).data.toList (strOfNums y1).data.toList=Br (x1,x2) (y1,y2):=by
  unfold Br;rw [show (strOfNums x1).data.toList=Lib.bytesOf x1 from strOfNums_data x1,show (strOfNums y1).data.toList=Lib.bytesOf y1 from strOfNums_data y1]
 rw [e1] at C;clear e1;simp only [Q4,exCs];generalize Br (x1,x2) (y1,y2)=r at *;go_enter Tryz.func31,Tryz.ntmps31;go_wp2_with (go_at_call 62;refine (C.o _).mono ?_;rintro e w' ⟨rfl,rfl⟩)
 go_ret
 exact ⟨rfl,0,_,by rw [alloc_eq_grow,alloc_eq_grow,grow_grow];rfl⟩
theorem cmpEx_lays (blk off size:Nat) (w:World):CmpLays Tryz.prog 31 #[] Q4 7 Br blk off size w:=fun _ _ _ _ x y=>byName_any x y _
theorem outCs_one (y:List Int × Ex):∀ u∈Q4 y,u.oneCell'=true:=J5 _ _
def Wd (l:Out):Prop:=l.Pairwise fun a b=>nmLt (nums b.1) (nums a.1)=false
theorem rises_one {l m:Out} (hl:Wd l) (hm:Wd m) (hp:l.Perm m) (hb:∀ y∈l,Byt y.1) (ho:l.Pairwise fun a b=>a.1≠b.1):l=m:=by
 refine List.Perm.eq_of_pairwise (le:=fun a b:List Int × Ex=>nmLt (nums b.1) (nums a.1)=false) ?_ hl hm hp
 intro a b ha hb' h1 h2;have hb2:=hp.mem_iff.2 hb';have e:a.1=b.1:=by
  have:=Vy h2 h1
  rw [Jv (hb a ha),Jv (hb b hb2)] at this;exact this
 obtain ⟨i,hi,rfl⟩:=List.getElem_of_mem ha;obtain ⟨j,hj,rfl⟩:=List.getElem_of_mem hb2;rcases Nat.lt_trichotomy i j with h | h | h
 ·exact absurd e ((List.pairwise_iff_getElem.1 ho) i j hi hj h)
 ·subst h;rfl
 ·exact absurd e.symm ((List.pairwise_iff_getElem.1 ho) j i hj hi h)
end
section
variable {w w' W V:World} {xs:List Int}
def Hv (t:List Int):Bool:=decide (t.length≤255) && decide ((0:Int) ∉ t)
theorem refTextMay_any {t:List Int} (ht:Byt t) (hl:t.length≤9223372036854775807) (n:Nat) (w:World) :
  Calls Tryz.prog 69 #[.string (strOfNums t),.int .i64 n] w fun e w'=>e=.returned (.bool (decide (n≤t.length) && Hv t))∧w.grownBy w' none:=by
 have hst:(strOfNums t).size=t.length:=strOfNums_size _;have PS:=Rs t;unfold Hv;rw [← PS];by_cases h0:n≤t.length
 ·have hd0:decide ((n:Int)≤(t.length:Int))=true:=by simp;omega
  rw [decide_eq_true h0];by_cases h:t.length≤255
  ·have hd:decide ((t.length:Int)≤255)=true:=by simp;omega
   rw [decide_eq_true h];have CV:=Lib.run_convert_string_bytes (P:=Tryz.prog) w 9 29 5 (strOfNums t) Tryz.underlying9 Tryz.underlying29 Tryz.underlying5;have GB:=Lv (turned_grown w 5 (strOfNums t));have NM:=Lv (Gm w.heap.size 0 _ _ t (bytes_there w 5 ht _) rfl (show t.length≤140737488355328 by omega) (grownCap_ge w t.length 0 5));rw [hst] at CV;have HN:((strOfNums (pre t)).toList == (strOfNums t).toList)=decide (pre t=t):=Gg (Md ht) ht
   go_enter Tryz.func69,Tryz.ntmps69;go_wp2_with (refine NM.o.mono ?_;rintro e w' ⟨rfl,rfl⟩)
   go_ret
   exact ⟨by rw [PS];simp,GB.o⟩
  ·have hd:decide ((t.length:Int)≤255)=false:=by simp;omega
   rw [decide_eq_false h];go_enter Tryz.func69,Tryz.ntmps69;go_wp2;go_ret
   exact ⟨rfl,Qq _ _⟩
 ·have hd0:decide ((n:Int)≤(t.length:Int))=false:=by simp;omega
  rw [decide_eq_false h0];go_enter Tryz.func69,Tryz.ntmps69;go_wp2;go_ret
  exact ⟨rfl,Qq _ _⟩
end
section
variable {w w' W V:World} {xs:List Int}
def Pe (x:Ex):Bool :=
 if x.kind=1∨x.kind=2 then decide (x.resolver=0) && decide (x.ordinal=0) && decide (x.other=[])
 else if x.kind=3 then decide (x.value=0) && decide (x.resolver=0)
 else if x.kind=4 then decide (x.ordinal=0) && decide (x.other=[])
 else false
def mayE (nm:List Int) (x:Ex):Bool:=!decide (nm=[]) && Hv nm && Hv x.other && Pe x
theorem refMay_any {nm:List Int} {x:Ex} (hn:Byt nm) (ho:Byt x.other) (hl:nm.length≤9223372036854775807) (hl2:x.other.length≤9223372036854775807) (w:World) :
  Calls Tryz.prog 35 #[exV (strOfNums nm) x] w fun e w'=>e=.returned (.bool (mayE nm x))∧w.grownBy w' none:=by
 have TN:=Lv (fun W=>refTextMay_any hn hl 1 W);have TO:=Lv (fun W=>refTextMay_any ho hl2 0 W);have n1:decide (1≤nm.length)=!decide (nm=[]):=by cases nm <;> simp
 have n2:=Wa x.other;rw [n1] at TN;rw [show decide (0≤x.other.length)=true from rfl,Bool.true_and] at TO;have g1:=grown1 w (.cells (Zd (strOfNums nm) x) 28);have E3:ExAt (w.alloc (.cells (Zd (strOfNums nm) x) 28)) w.heap.size (strOfNums nm) x:=heap_alloc_new w _;obtain ⟨c0,c1,c2,c3,c4,c5,c6⟩:=E3.c;obtain ⟨r,hr⟩:∃ r,r=mayE nm x:=⟨_,rfl⟩
 rw [← hr];unfold mayE Pe at hr;generalize (!decide (nm=[]) && Hv nm)=M at *;generalize Hv x.other=O at *;have HE:=Lv E3;have HG:=Lv g1;clear g1 E3 n1;obtain ⟨kind,weak,value,resolver,ordinal,other⟩:=x;simp only [exV,Zd] at *;have HR:=Lv hr;clear hr ho hn;cases M
 ·go_enter Tryz.func35,Tryz.ntmps35
  go_wp2_with fail;refine (TN.o _).mono ?_
  rintro e w1 ⟨rfl,hg1⟩;have G1:=Lv (Qz HG.o hg1);clear hg1;go_wp2;go_ret
  exact ⟨by rw [HR.o];rfl,G1.o⟩
 ·go_enter Tryz.func35,Tryz.ntmps35
  go_wp2_with fail;refine (TN.o _).mono ?_
  rintro e w1 ⟨rfl,hg1⟩;have E1:=HE.o.kept hg1 (by simp);obtain ⟨c0,c1,c2,c3,c4,c5,c6⟩:=E1.c;have H1:=Lv E1;have G1:=Lv (Qz HG.o hg1);clear hg1 E1;go_wp2_with fail;refine (TO.o _).mono ?_
  rintro e w2 ⟨rfl,hg2⟩;have E2:=H1.o.kept hg2 (by simp);obtain ⟨c0,c1,c2,c3,c4,c5,c6⟩:=E2.c;have G2:=Lv (Qz G1.o hg2);clear hg2 E2;cases O
  all_goals go_wp2
  all_goals (go_ret;refine ⟨?_,G2.o⟩;have hr:=HR.o;clear HR TN TO G1 G2 HE HG H1;simp_all)
  all_goals rfl
end
def encU (n:Nat):List Int:=if n < 128 then [(n:Int)] else (((n % 128:Nat):Int) + 128) :: encU (n / 128)
termination_by n
decreasing_by omega
theorem Vw {n:Nat} (h:n < 128):encU n=[(n:Int)]:=by rw [encU,if_pos h]
theorem Gv {n:Nat} (h:¬ n < 128):encU n=(((n % 128:Nat):Int) + 128) :: encU (n / 128):=by rw [encU,if_neg h]
theorem own_slice8 {w:World} {base:Nat} {v:Value} {n:Nat} {xs:List Value} (h:w.ownsRow base 5 1 v n xs):∃ q c,v=.slice q n c:=by
 rcases h.2 with ⟨rfl,h0⟩ | ⟨g,cap,cur,rfl,_⟩
 ·have:n=0:=by omega
  subst this;exact ⟨_,_,rfl⟩
 ·exact ⟨_,_,rfl⟩
theorem encU_len (k:Nat):∀ n:Nat,n < 128 ^ (k + 1)→(encU n).length≤k + 1:=by
 induction k with
 | zero=>intro n h;rw [Vw (by simpa using h)];simp
 | succ k ih =>
  intro n h;by_cases h1:n < 128
  ·rw [Vw h1];simp
  ·rw [Gv h1,List.length_cons]
   have:=ih (n / 128) (by rw [Nat.pow_succ] at h;omega)
   omega
theorem Yw (n:Nat) (h:n < 18446744073709551616):(encU n).length≤10:=encU_len 9 n (by omega)
theorem one_byte (w:World) (x:Int) (t:TypeId):Qk (w.alloc (.cells #[.int .u8 x] t)) (some ⟨w.heap.size,0,none⟩) 1 [x]:=by
 refine Qk.mk_at fun i hi=>?_
 rw [Qm (heap_alloc_new w _)];obtain rfl:i=0:=by simp at hi;omega
 rfl
theorem encU_ne (n:Nat) : 0 < (encU n).length:=by
 by_cases h:n < 128
 ·rw [Vw h];simp
 ·rw [Gv h];simp
theorem encU_range:∀ k n:Nat,n < k→∀ x∈encU n,0≤x∧x < 256:=by
 intro k
 induction k with
 | zero=>intro n h;omega
 | succ k ih =>
  intro n hk x hx;by_cases h:n < 128
  ·rw [Vw h] at hx
   have:=List.mem_singleton.1 hx
   omega
  ·rw [Gv h] at hx
   rcases List.mem_cons.1 hx with e | e
   ·omega
   ·exact ih (n / 128) (by omega) x e
theorem encU_mono:∀ k n m:Nat,n < k→n≤m→(encU n).length≤(encU m).length:=by
 intro k
 induction k with
 | zero=>intro n m h;omega
 | succ k ih =>
  intro n m hk h;by_cases hn:n < 128
  ·rw [Vw hn];have:=encU_ne m;simp;omega
  ·rw [Gv hn,Gv (show ¬ m < 128 by omega)]
   have:=ih (n / 128) (m / 128) (by omega) (by omega)
   simpa using this
section
section
variable {α β:Type} {f:Ps α} {g : α→Ps β} {a b:List Int} {v : α} {u : β}
end
def Lz (x:Ex):Nat:=(if x.weak=true then 4 else 0) + (if x.kind=2 then 2 else if x.kind=3 then 8 else if x.kind=4 then 16 else 0)
def Gp (x:Ex):List Int:=encU (Lz x) ++
 (if x.kind=3 then encU x.ordinal.toNat ++ (x.other ++ [0]) else if x.kind=4 then encU x.value.toNat ++ encU x.resolver.toNat else encU x.value.toNat)
structure ExOk (x:Ex):Prop where
 value : 0≤x.value∧x.value < 18446744073709551616
 resolver : 0≤x.resolver∧x.resolver < 18446744073709551616
 ordinal : 0≤x.ordinal∧x.ordinal < 18446744073709551616
 other:Byt x.other
 may:Pe x=true
 text:Hv x.other=true
structure PN where
 says:Option Ex
 kids:List (List Int × Nat)
def Yx:Option Ex→List Int
 | none=>[0]
 | some x=>encU (Gp x).length ++ Gp x
def kidB (pl:List Nat) (k:List Int × Nat):List Int:=(k.1 ++ [0]) ++ encU (pl.getD k.2 0)
def Vn (pl:List Nat) (nd:PN):List Int:=Yx nd.says ++ ([(nd.kids.length:Int)] ++ nd.kids.flatMap (kidB pl))
structure Sh (e:List Int):Prop where
 ne:e≠[]
 zero:(0:Int) ∉ e
 len:e.length≤255
 byt:Byt e
structure PnOk (nd:PN):Prop where
 says:∀ x,nd.says=some x→ExOk x
 edge:∀ k∈nd.kids,Sh k.1
 apart:nd.kids.Pairwise fun a b=>a.1.getD 0 0≠b.1.getD 0 0
end
def lcpN:List Int→List Int→Nat
 | x :: a,y :: b=>if x=y then lcpN a b + 1 else 0
 | _,_=>0
theorem Vh:∀ (a b:List Int),a.take (lcpN a b)=b.take (lcpN a b)∧lcpN a b≤a.length∧lcpN a b≤b.length
 | [],b=>by cases b <;> simp [lcpN]
 | x :: a,[]=>by simp [lcpN]
 | x :: a,y :: b=>by
  unfold lcpN
  split
  ·rename_i h
   have:=Vh a b
   subst h;refine ⟨?_,?_,?_⟩
   ·simp only [List.take_succ_cons];rw [this.1]
   ·simp only [List.length_cons];omega
   ·simp only [List.length_cons];omega
  ·simp
theorem Tj:∀ (n:Nat) (a b:List Int),a.take n=b.take n→n≤a.length→n≤b.length→n≤lcpN a b
 | 0,_,_,_,_,_=>Nat.zero_le _
 | n + 1,[],_,_,h,_=>by simp at h
 | n + 1,_ :: _,[],_,_,h=>by simp at h
 | n + 1,x :: a,y :: b,h,h1,h2=>by
  simp only [List.take_succ_cons,List.cons.injEq] at h;unfold lcpN;rw [if_pos h.1]
  have:=Tj n a b h.2 (by simpa using h1) (by simpa using h2)
  omega
theorem Mg (p:List Int):∀ (a b:List Int),nmLt (p ++ a) (p ++ b)=nmLt a b:=by
 induction p with
 | nil=>intro a b;rfl
 | cons x p ih =>
  intro a b;simp only [List.cons_append,nmLt];rw [if_neg (by omega),if_neg (by omega)];exact ih a b
theorem nmLt_pre (p s:List Int):nmLt (p ++ s) p=false:=by
 have:=Mg p s []
 rw [List.append_nil] at this;rw [this];cases s <;> rfl
theorem between:∀ (n:Nat) {a x b:List Int},nmLt a x=true→nmLt x b=true→a.take n=b.take n→n≤a.length→x.take n=a.take n∧n≤x.length
 | 0,_,_,_,_,_,_,_=>by simp
 | n + 1,[],_,_,_,_,_,h=>by simp at h
 | n + 1,c :: a,[],b,h1,_,_,_=>by simp [nmLt] at h1
 | n + 1,c :: a,d :: x,[],_,h2,_,_=>by simp [nmLt] at h2
 | n + 1,c :: a,d :: x,f :: b,h1,h2,h3,h4=>by
  simp only [List.take_succ_cons,List.cons.injEq] at h3;obtain ⟨e,h3⟩:=h3;subst e;unfold nmLt at h1 h2;have hcd:d=c:=by
   by_cases h5:c < d
   ·have h6:¬ d < c:=by omega
    rw [if_neg h6,if_pos h5] at h2;cases h2
   ·by_cases h7:d < c
    ·rw [if_neg h5,if_pos h7] at h1
     cases h1
    ·omega
  subst hcd;rw [if_neg (by omega),if_neg (by omega)] at h1 h2
  have:=between n h1 h2 h3 (by simpa using h4)
  exact ⟨by simp only [List.take_succ_cons];rw [this.1],by simpa using this.2⟩
structure Rise (p:List Int) (l:Out):Prop where
 pre:∀ y∈l,∃ s,y.1=p ++ s
 up:l.Pairwise fun a b=>nmLt a.1 b.1=true
structure Va (p:List Int) (l:Out):Prop where
 pre:∀ y∈l,∃ c s,y.1=p ++ c :: s
 up:l.Pairwise fun a b=>nmLt a.1 b.1=true
theorem Rise.rest {p:List Int} {y:List Int × Ex} {l:Out} (h:Rise p (y :: l)) (hy:y.1.length=p.length):y.1=p∧Va p l:=by
 obtain ⟨s,hs⟩:=h.pre y (List.mem_cons_self ..);have hyp:y.1=p:=by
  have:s=[]:=by
   apply List.eq_nil_of_length_eq_zero
   have:=congrArg List.length hs
   rw [List.length_append] at this;omega
  rw [hs,this,List.append_nil]
 refine ⟨hyp,⟨fun z hz=>?_,(List.pairwise_cons.1 h.up).2⟩⟩;obtain ⟨t,ht⟩:=h.pre z (List.mem_cons_of_mem _ hz);cases t with
 | nil =>
  have:=(List.pairwise_cons.1 h.up).1 z hz
  rw [hyp,ht,List.append_nil,Z9] at this;cases this
 | cons c t=>exact ⟨c,t,ht⟩
theorem Rise.all {p:List Int} {y:List Int × Ex} {l:Out} (h:Rise p (y :: l)) (hy:y.1.length≠p.length):Va p (y :: l):=by
 refine ⟨fun z hz=>?_,h.up⟩;obtain ⟨t,ht⟩:=h.pre z hz;cases t with
 | nil =>
  rcases List.mem_cons.1 hz with e | hz
  ·rw [e] at ht;exact absurd (by rw [ht,List.append_nil]) hy
  ·have h1:=(List.pairwise_cons.1 h.up).1 z hz
   obtain ⟨s,hs⟩:=h.pre y (List.mem_cons_self ..);rw [ht,hs,List.append_nil,nmLt_pre] at h1;cases h1
 | cons c t=>exact ⟨c,t,ht⟩
def Y9 (n:Nat) (a b:List Int × Ex):Bool:=decide (b.1.getD n 0=a.1.getD n 0)
def Xe (n:Nat):Out→Nat
 | []=>0
 | y :: l=>((y :: l).takeWhile (Y9 n y)).length
theorem Vv {n:Nat} {y:List Int × Ex} {l:Out} : 1≤Xe n (y :: l)∧Xe n (y :: l)≤(y :: l).length:=by
 show 1≤((y :: l).takeWhile (Y9 n y)).length∧((y :: l).takeWhile (Y9 n y)).length≤(y :: l).length
 constructor
 ·rw [List.takeWhile_cons]
  have:Y9 n y y=true:=by simp [Y9]
  rw [this];simp
 ·exact (List.takeWhile_sublist _).length_le
theorem take_while {α:Type} (f : α→Bool):∀ (l:List α),l.take (l.takeWhile f).length=l.takeWhile f∧l.drop (l.takeWhile f).length=l.dropWhile f
 | []=>⟨rfl,rfl⟩
 | x :: l=>by
  have ih:=take_while f l;simp only [List.takeWhile_cons,List.dropWhile_cons]
  split
  ·simp only [List.length_cons,List.take_succ_cons,List.drop_succ_cons]
   exact ⟨by rw [ih.1],ih.2⟩
  ·simp
theorem Hi (p:List Int) (c:Int) (s:List Int):(p ++ c :: s).getD p.length 0=c:=by
 simp [List.getD]
theorem Va.split {p:List Int} {y:List Int × Ex} {l:Out} (h:Va p (y :: l)) :
  (∀ z∈(y :: l).take (Xe p.length (y :: l)),z.1.getD p.length 0=y.1.getD p.length 0)∧(∀ z∈(y :: l).drop (Xe p.length (y :: l)),y.1.getD p.length 0 < z.1.getD p.length 0)∧Va p ((y :: l).take (Xe p.length (y :: l)))∧Va p ((y :: l).drop (Xe p.length (y :: l))):=by
 have tw:=take_while (Y9 p.length y) (y :: l);refine ⟨fun z hz=>?_,fun z hz=>?_,⟨fun z hz=>h.pre z (List.mem_of_mem_take hz),h.up.sublist (List.take_sublist ..)⟩,⟨fun z hz=>h.pre z (List.mem_of_mem_drop hz),h.up.sublist (List.drop_sublist ..)⟩⟩
 ·unfold Xe at hz
  rw [tw.1] at hz
  have:=List.all_takeWhile (p:=Y9 p.length y) (l:=y :: l)
  rw [List.all_eq_true] at this
  have:=this z hz
  simpa [Y9] using this
 ·unfold Xe at hz
  rw [tw.2] at hz
  -- the first one that is left differs; those behind it are not below it
  have hord:∀ {a b:List Int × Ex},a∈y :: l→b∈y :: l→nmLt a.1 b.1=true→a.1.getD p.length 0≤b.1.getD p.length 0:=by
    intro a b ha hb hlt;obtain ⟨c,s,e1⟩:=h.pre a ha;obtain ⟨d,t,e2⟩:=h.pre b hb;rw [e1,e2,Mg] at hlt;rw [e1,e2,Hi,Hi];unfold nmLt at hlt;by_cases h5:c < d
    ·omega
    ·by_cases h6:d < c
     ·rw [if_neg h5,if_pos h6] at hlt;cases hlt
     ·omega
  have hsub:((y :: l).dropWhile (Y9 p.length y)).Sublist (y :: l):=List.dropWhile_sublist _;cases hd:(y :: l).dropWhile (Y9 p.length y) with
  | nil=>rw [hd] at hz;cases hz
  | cons x m =>
    have hx:Y9 p.length y x=false:=by
     have:=List.head_dropWhile_not (p:=Y9 p.length y) (l:=y :: l) (by rw [hd];simp)
     simpa [hd] using this
    have hxm:x∈y :: l:=hsub.mem (by rw [hd];exact List.mem_cons_self ..);have hxy:x≠y:=by rintro rfl;simp [Y9] at hx
    have hyx:nmLt y.1 x.1=true:=by
     rcases List.mem_cons.1 hxm with e | e
     ·exact absurd e hxy
     ·exact (List.pairwise_cons.1 h.up).1 x e
    have h1:=hord (List.mem_cons_self ..) hxm hyx;have h2:y.1.getD p.length 0 < x.1.getD p.length 0:=by
     have:¬ x.1.getD p.length 0=y.1.getD p.length 0:=by simpa [Y9] using hx
     omega
    rw [hd] at hz hsub;rcases List.mem_cons.1 hz with e | e
    ·rw [e];exact h2
    ·have hup:=h.up.sublist hsub
     have h3:=(List.pairwise_cons.1 hup).1 z e
     have:=hord hxm (hsub.mem (List.mem_cons_of_mem _ e)) h3
     omega
section
open Go.RowKit Go.Sort
variable {w w' W V:World} {xs:List Int}
def Xk (w:World) (q:Option Addr) (D:Out):Prop:=∀ i y,D[i]?=some y→∃ g,q=some ⟨g,0,none⟩∧∀ j,j < 7→w.cell? ⟨g,i * 7 + j,none⟩=(Q4 y)[j]?
theorem Xk.of {lo n c:Nat} {q:Option Addr} {D:Out} (h:w.ownsRow lo 28 7 (.slice q n c) n (D.flatMap Q4)):Xk w q D:=fun i y hy=>by
 obtain ⟨g,e,_⟩:=Jz Yt h hy (j:=0) (by decide);refine ⟨g,e,fun j hj=>?_⟩;obtain ⟨g',e',h'⟩:=Jz Yt h hy hj;rw [e] at e';injection e' with e';injection e' with e' _ _;subst e';exact h'
theorem Xk.hold {g:Nat} {d:Array (List Int × Ex)} (h:HoldsK Q4 7 w g 0 d):Xk w (some ⟨g,0,none⟩) d.toList:=fun i y hy=>by
 refine ⟨g,rfl,fun j hj=>?_⟩;obtain ⟨hi,rfl⟩:=List.getElem?_eq_some_iff.1 hy;have hi':i < d.size:=by simpa using hi
 have h0:=(h.cell hi' (c:=j) hj).1;rw [Nat.zero_add] at h0;rw [h0,getElem!_pos d i hi'];simp only [Array.getElem_toList];have hl:j < (Q4 d[i]).length:=hj;rw [List.getElem?_eq_getElem hl,getElem!_pos _ j hl]
theorem Xk.grown {q:Option Addr} {D:Out} (h:Xk w q D) (hg:w.grownBy w' none):Xk w' q D:=fun i y hy=>by
 obtain ⟨g,e,hc⟩:=h i y hy;refine ⟨g,e,fun j hj=>?_⟩;have hl:j < (Q4 y).length:=hj
 have:=hc j hj
 rw [List.getElem?_eq_getElem hl] at this ⊢;exact Qv hg this
theorem Xk.nil {q:Option Addr}:Xk w q []:=fun i y hy=>by simp at hy
theorem insNone (p:Option Addr) (cap:Nat) (W:World):Calls Tryz.prog 103 #[.slice p 0 cap,.int .i64 0,.int .i64 0,.func (.func 31) #[] #[]] W fun e w'=>e=.returned (.tuple #[])∧w'=W:=by
 go_enter Tryz.func103,Tryz.ntmps103;go_wp2;refine wp_loop_rounds 1 ?_
 rw [rounds_succ];go_wp2;go_end0
 exact ⟨rfl,rfl⟩
theorem pdqNone (p:Option Addr) (cap:Nat) (lim:Int) (W:World):Calls Tryz.prog 73 #[.slice p 0 cap,.int .i64 0,.int .i64 0,.int .i64 lim,.func (.func 31) #[] #[]] W fun e w'=>e=.returned (.tuple #[])∧w'=W:=by
 have I:=Lv (fun V=>insNone p cap V);go_enter Tryz.func73,Tryz.ntmps73;go_wp2_with fail;refine wp_loop_rounds 1 ?_
 rw [rounds_succ];go_wp2_with fail;refine (I.o _).mono ?_
 rintro e w' ⟨rfl,rfl⟩;go_wp2
 (try simp only [Exit.inBlock,Exit.then])
 refine bodyPost_ret (results_none rfl _ _ _) rfl ?_
 exact ⟨rfl,rfl⟩
theorem sortNone (p:Option Addr) (cap:Nat) (W:World):Calls Tryz.prog 42 #[.slice p 0 cap,.func (.func 31) #[] #[]] W fun e w'=>e=.returned (.tuple #[])∧w'=W:=by
 have P:=Lv (fun lim V=>pdqNone p cap lim V);have L:=Lv (fun V=>(show Calls Tryz.prog 74 #[.int .u64 0] V fun e w'=>e=.returned (.int .i64 (Lib.bitLen 0:Nat))∧w'=V from
  Go.Proofs.Any.bits_Len (Go.Proofs.SlLaysF0.n15.bits (P:=Tryz.prog) (ρ:=Tryz.sortExp_ren) { Tryz.sortExp with }) 0 V (by omega) (by omega)))
 go_enter Tryz.func42,Tryz.ntmps42;go_wp2_with fail;refine (L.o _).mono ?_
 rintro e w' ⟨rfl,rfl⟩;go_wp2_with fail;refine (P.o _ _).mono ?_
 rintro e w' ⟨rfl,rfl⟩;go_wp2;go_end0
 exact ⟨rfl,rfl⟩
structure Ty (w w':World) (xs:List Int) (e:Ending):Prop where
 ex:∃ (D:Out) (q:Option Addr) (c:Nat),e=.returned (.tuple #[.slice q D.length c,.int .i64 (allN xs).2])∧Xk w' q D∧Wd D∧D.Perm (allN xs).1∧D.length≤c∧c≤9223372036854775807
 grown:w.grownBy w' none
theorem allN_walk (xs:List Int):allN xs=if (Yj xs Zh []).1≠0 then ([],(Yj xs Zh []).1) else ((Yj xs Zh []).2,0):=by
 unfold allN Yj;by_cases h:xs=[]
 ·rw [if_pos h,if_pos h];simp
 ·rw [if_neg h,if_neg h]
theorem grown_chg0 {G:Nat→Prop} (h:Chg G W V) (hw:w.grownBy W none) (hG:∀ k,G k→w.heap.size≤k):w.grownBy V none :=
 ⟨h.os.trans hw.os,h.tape.trans hw.tape,h.output.trans hw.output,Nat.le_trans hw.size h.size,fun i hi _=>(h.block i (Nat.lt_of_lt_of_le hi hw.size) (fun e=>by have:=hG i e;omega)).trans (hw.block i hi (by simp))⟩
theorem All_any {q:Option Addr} {c n:Nat} (h:Qk w q c xs) (hn:xs.length=n) (hb:Byt xs) (hc:n≤c) (hcm:c≤9223372036854775807) (hbig:n≤140737488355328) :
  Calls Tryz.prog 12 #[.slice q n c] w fun e w'=>Ty w w' xs e:=by
 have g1:=grown1 w (.cells #[.slice none 0 0] 23);have o1:=Xv.new w (.slice none 0 0) 23;obtain ⟨cl,hcl⟩:∃ cl,cl=w.heap.size:=⟨_,rfl⟩
 have i1:Hq cl (w.alloc (.cells #[.slice none 0 0] 23)) (fun k=>k=cl) []:=⟨none,0,by rw [hcl];exact o1,World.ownsRow_nil _ _ _ _,rfl,fun g e=>by cases e⟩
 have WK:Calls Tryz.prog 40 #[.slice q n c,.func (.func 41) #[] #[.pointer (some ⟨cl,0,none⟩)]] (w.alloc (.cells #[.slice none 0 0] 23)) fun e W'=>WOut Out (fun out=>out.length≤4096) (Hq cl) (fun k=>k=cl) (w.alloc (.cells #[.slice none 0 0] 23)) W' (Yj xs Zh []) e:=by
  by_cases hx:xs=[]
  ·subst hx
   simp only [List.length_nil] at hn;subst hn;refine (walk_no q c _ _).mono ?_
   rintro e W' ⟨rfl,hg⟩;exact ⟨rfl,⟨_,invAll_kept i1 (Chg.of_grown hg (fun b e=>by cases e):Chg (fun _=>False) _ _) (fun _ _ e=>e),fun k hk=>.inl hk⟩,Chg.of_grown hg (fun b e=>by cases e),fun _=>by show (0:Nat)≤4096;decide⟩
  ·subst hn
   obtain ⟨b,o,rfl,hcell⟩:=h.2 (by cases xs with | nil=>exact absurd rfl hx | cons=>simp);refine walk_any (allMeet cl) trivial (by simp) i1 ?_ (fun i hi=>Qv g1 (hcell i hi)) hx ?_ hb hc hcm hbig
   ·intro k hk;rw [World.size_alloc];omega
   ·intro e
    have:=World.block_lt_of_cell? w _ (hcell 0 (by cases xs with | nil=>exact absurd rfl hx | cons=>simp))
    simp only at this
    omega
 have WH:=Lv WK;have GA:=Lv g1;have AN:=Lv (allN_walk xs);have HCL:=Lv hcl;clear g1 o1 i1 WK h hn hb hc hcm hbig;obtain ⟨W1,hW1⟩:∃ W1,w.alloc (.cells #[.slice none 0 0] 23)=W1:=⟨_,rfl⟩
 rw [hW1] at WH GA;have HW1:=Lv hW1;clear hW1 hcl;obtain ⟨⟨er,out⟩,hr⟩:∃ r,r=Yj xs Zh []:=⟨_,rfl⟩
 rw [← hr] at WH AN;clear hr;go_enter Tryz.func12,Tryz.ntmps12;go_upto_region 2 with fail;rw [← HCL.o,HW1.o];go_wp2_with fail;refine WH.o.mono ?_
 rintro e W2 ⟨rfl,⟨G',⟨ql,cq,a1,a2,a3,a4⟩,hG'⟩,hch,hfew⟩;have G2:=Lv (grown_chg0 hch GA.o (fun k hk=>by have:=HCL.o;omega));have c1:=a1.c;simp only [] at c1 AN a1 a2 a4 hfew;by_cases he:er=0
 ·subst he
  rw [if_neg (by simp)] at AN;have hLc:out.length≤cq:=Jw a2;have hcm:=Vp a2;by_cases h0:out=[]
  ·subst h0
   have SN:=Lv (sortNone ql cq W2);have FN:=Lv (show Ty w W2 xs (.returned (.tuple #[.slice ql 0 cq,.int .i64 0])) from ⟨⟨[],ql,cq,by rw [AN.o];rfl,Xk.nil,List.Pairwise.nil,by rw [AN.o],Nat.zero_le _,hcm⟩,G2.o⟩);simp only [List.length_nil] at c1;clear a1 a2 a3 a4 hG' hch hfew hLc hcm;go_wp2_with fail;refine SN.o.mono ?_
   rintro e w' ⟨rfl,hw'⟩;have hw2:=hw'.symm;subst hw2;clear hw';go_wp2;go_ret2
   exact FN.o
  ·have hl0 : 0 < out.length:=by
    cases out with
    | nil=>exact absurd rfl h0
    | cons=>simp
   have hq:∃ gv,ql=some ⟨gv,0,none⟩:=by
    rcases a2.2 with ⟨_,hn⟩ | ⟨g',cap,cur,hv,_⟩
    ·omega
    ·injection hv with h1 _ _;exact ⟨g',h1⟩
   obtain ⟨gv,rfl⟩:=hq;have hlt2:=a2.lt gv rfl;have HK:=holdsK_own Yt a2;have hsz:out.toArray.size=out.length:=by simp
   have hln:out.length < 4611686018427387904:=by have h:out.length≤4096:=hfew rfl;omega
   have hcon:=AnyQ.slices_SortFunc Tryz.sortExp 7 Tryz.isAgg28 Tryz.sizeOf28 Q4 Yt outCs_one Br swoEx 31 #[] gv 0 cq out.toArray W2 (enters_of Tryz.func31 (by kernel_rfl) rfl) (cmpEx_lays gv 0 _ W2) HK hlt2.2 (by rw [hsz];exact hln);change Calls Tryz.prog 42 _ _ _ at hcon;rw [hsz] at hcon;have HCON:=Lv hcon;have HKH:=Lv HK;have hgv:w.heap.size≤gv:=by
    have h1:=HCL.o;have h2:=GA.o.size;rcases hG' gv (a4 gv rfl) with h | h <;> omega
   have hgc:(some gv:Option Nat)≠some cl:=Zb a2 a1 (by decide);have A1:=Lv a1;have FACT:=Lv (And.intro hLc (And.intro hcm (And.intro hlt2 (And.intro hsz (And.intro hgv hgc)))));clear a1 a2 a3 a4 hG' hch hfew hLc hcm hcon HK hsz hln hgv hgc hlt2 hl0 h0;obtain ⟨N,hN⟩:∃ N,N=out.length:=⟨_,rfl⟩
   rw [← hN] at c1 HCON;have HN:=Lv hN;clear hN;go_wp2_with fail;refine HCON.o.mono ?_
   rintro e w9 ⟨rfl,d',n9,os9,hp,hs,rfl⟩;obtain ⟨hLc,hcm,hlt2,hsz,hgv,hgc⟩:=FACT.o;rw [HN.o,← hsz] at hp hs;obtain ⟨p1,p2,p3⟩:=perm_list hp hs;have gs:=grown_sort Q4 7 W2 gv 0 n9 d' os9;have hold:=holds_grown (os:=os9) (n:=n9) Q4 7 HKH.o p2 hlt2.2;have e1:out.toArray.toList=out:=by simp
   rw [e1] at p1;have a9:=A1.o.kept gs hgc;have c9:=a9.c;have hdl:d'.toList.length=N:=by rw [Array.length_toList,p2,hsz,HN.o]
   have RES:=Lv (show Ty w (sortWorldK Q4 7 W2 gv 0 n9 d' os9) xs (.returned (.tuple #[.slice (some ⟨gv,0,none⟩) N cq,.int .i64 0])) from
    ⟨⟨d'.toList,some ⟨gv,0,none⟩,cq,by rw [hdl,AN.o],Xk.hold hold,(by
     unfold Wd;rw [List.pairwise_iff_getElem];intro i j hi hj hij;have hi':i < d'.size:=by simpa using hi
     have hj':j < d'.size:=by simpa using hj
     have:=p3 i j hij hj'
     rw [ltEx,getElem!_pos d' i hi',getElem!_pos d' j hj'] at this;simpa using this),(by rw [AN.o];exact p1),(by rw [hdl,HN.o];exact hLc),hcm⟩,Qw G2.o gs hgv⟩)
   have HNN:=HN.o;rw [← HNN] at c9;clear hp hs p1 p2 p3 gs hold a9 e1 hdl HNN hLc hcm hlt2 hsz hgv hgc;generalize sortWorldK Q4 7 W2 gv 0 n9 d' os9=w9 at *;go_wp2;go_ret2
   exact RES.o
 ·have de:(er != 0)=true:=by simpa using he
  rw [if_pos he] at AN;have FN:=Lv (show Ty w W2 xs (.returned (.tuple #[.slice none 0 0,.int .i64 er])) from ⟨⟨[],none,0,by rw [AN.o];rfl,Xk.nil,List.Pairwise.nil,by rw [AN.o],Nat.le_refl _,by decide⟩,G2.o⟩);clear he a1 a2 a3 a4 hG' hch hfew;go_wp2;go_ret2
  exact FN.o
end
section
def Jr (l:Out):List Int:=((l.getLast?).map Prod.fst).getD []
theorem Sn {l:Out} (hl:l≠[]) (hu:l.Pairwise fun a b=>nmLt a.1 b.1=true):∃ z∈l,Jr l=z.1∧∀ x∈l,x=z∨nmLt x.1 z.1=true:=by
 refine ⟨l.getLast hl,List.getLast_mem hl,?_,?_⟩
 ·unfold Jr
  rw [List.getLast?_eq_some_getLast hl];rfl
 ·intro x hx
  have e:=List.dropLast_concat_getLast hl;rw [← e] at hx hu;rcases List.mem_append.1 hx with h | h
  ·right
   exact (List.pairwise_append.1 hu).2.2 x h _ (List.mem_cons_self ..)
  ·left
   exact List.mem_singleton.1 h
theorem Va.group {p:List Int} {y:List Int × Ex} {l:Out} (h:Va p (y :: l)) :
  let g:=(y :: l).take (Xe p.length (y :: l))
  p.length < lcpN y.1 (Jr g)∧lcpN y.1 (Jr g)≤y.1.length∧p <+: y.1.take (lcpN y.1 (Jr g))∧Rise (y.1.take (lcpN y.1 (Jr g))) g:=by
 intro g;obtain ⟨h1,-,h3,-⟩:=h.split;have hap:=Vv (n:=p.length) (y:=y) (l:=l);have hyg:y∈g:=by
  show y∈(y :: l).take _
  obtain ⟨k,hk⟩:∃ k,Xe p.length (y :: l)=k + 1:=⟨_,(Nat.succ_pred_eq_of_pos hap.1).symm⟩
  rw [hk,List.take_succ_cons];exact List.mem_cons_self ..
 have hfirst:∀ x∈g,x=y∨nmLt y.1 x.1=true:=fun x hx=>by
  rcases List.mem_cons.1 (List.mem_of_mem_take hx) with e | e
  ·exact .inl e
  ·exact .inr ((List.pairwise_cons.1 h.up).1 x e)
 obtain ⟨z,hz,hzl,hzo⟩:=Sn (l:=g) (List.ne_nil_of_mem hyg) h3.up;have hyz:=hfirst z hz;obtain ⟨c,s,e1⟩:=h3.pre y hyg;obtain ⟨d,t,e2⟩:=h3.pre z hz;have hcd:d=c:=by
  have:=h1 z hz
  rw [e1,e2,Hi,Hi] at this;exact this
 subst hcd;have hge:p.length + 1≤lcpN y.1 (Jr g):=by
  rw [hzl];refine Tj _ _ _ ?_ (by rw [e1];simp) (by rw [e2];simp)
  rw [e1,e2,List.take_append,List.take_append];simp
 have hlt:=Vh y.1 (Jr g);refine ⟨hge,hlt.2.1,?_,?_,h3.up⟩
 ·rw [e1]
  refine ⟨((d :: s).take (lcpN (p ++ d :: s) (Jr g) - p.length)),?_⟩;rw [List.take_append,List.take_of_length_le (l:=p) (by rw [← e1];omega)]
 ·intro x hx
  have key:x.1.take (lcpN y.1 (Jr g))=y.1.take (lcpN y.1 (Jr g)):=by
   rcases hfirst x hx with e | hyx
   ·rw [e]
   ·rcases hzo x hx with e | hxz
    ·rw [e,← hzl];exact hlt.1.symm
    ·exact (between _ hyx hxz (by rw [← hzl];exact hlt.1) hlt.2.1).1
  exact ⟨x.1.drop (lcpN y.1 (Jr g)),by rw [← key];exact (List.take_append_drop _ _).symm⟩
def ownN (size:Nat):Out→Option Ex
 | []=>none
 | y :: _=>if y.1.length=size then some y.2 else none
def Xw (size:Nat):Out→Out
 | []=>[]
 | y :: l=>if y.1.length=size then l else y :: l
def Zc (rec:Out→Nat→Nat→List PN):Nat→Out→Nat→Nat→List (List Int × Nat) × List PN
 | 0,_,_,_=>([],[])
 | _ + 1,[],_,_=>([],[])
 | n + 1,y :: l,size,base =>
  let g:=(y :: l).take (Xe size (y :: l))
  let e:=lcpN y.1 (Jr g)
  let sub:=rec g e base
  let r:=Zc rec n ((y :: l).drop (Xe size (y :: l))) size (base + sub.length)
  (((y.1.drop size).take (e - size),base) :: r.1,sub ++ r.2)
def plan:Nat→Out→Nat→Nat→List PN
 | 0,_,_,_=>[]
 | k + 1,l,size,base =>
  let r:=Zc (plan k) (Xw size l).length (Xw size l) size (base + 1)
  ⟨ownN size l,r.1⟩ :: r.2
theorem Rise.own {p:List Int} {l:Out} (h:Rise p l) (hl:l≠[]):Va p (Xw p.length l)∧(match ownN p.length l with | none=>Xw p.length l=l | some x=>l=(p,x) :: Xw p.length l):=by
 cases l with
 | nil=>exact absurd rfl hl
 | cons y l =>
  have e1:ownN p.length (y :: l)=if y.1.length=p.length then some y.2 else none:=rfl
  have e2:Xw p.length (y :: l)=if y.1.length=p.length then l else y :: l:=rfl
  rw [e1,e2];by_cases hy:y.1.length=p.length
  ·rw [if_pos hy,if_pos hy]
   obtain ⟨h1,h2⟩:=h.rest hy;refine ⟨h2,?_⟩;show y :: l=(p,y.2) :: l
   rw [← h1]
  ·rw [if_neg hy,if_neg hy]
   exact ⟨h.all hy,rfl⟩
section
variable {xs:List Int} {pl:List Nat} {nodes:List PN}
end
end
section
structure Ge (t:List Int):Prop where
 ne:t≠[]
 zero:(0:Int) ∉ t
 len:t.length≤255
 byt:Byt t
theorem may_name {nm:List Int} {x:Ex} (h:mayE nm x=true) (hb:Byt nm):Ge nm:=by
 unfold mayE Hv at h;simp only [Bool.and_eq_true,Bool.not_eq_true',decide_eq_true_eq,decide_eq_false_iff_not] at h;exact ⟨h.1.1.1,h.1.1.2.2,h.1.1.2.1,hb⟩
theorem edge_of {t:List Int} (h:Ge t) {n e:Nat} (h1:n < e) (h2:e≤t.length):Sh ((t.drop n).take (e - n)):=by
 refine ⟨?_,?_,?_,(h.byt.drop n).take _⟩
 ·intro e0
  have:=congrArg List.length e0
  rw [List.length_take,List.length_drop,List.length_nil] at this;omega
 ·intro hz
  exact h.zero (List.mem_of_mem_drop (List.mem_of_mem_take hz))
 ·have:=h.len
  rw [List.length_take,List.length_drop];omega
theorem edge_first (t:List Int) {n e:Nat} (h1:n < e):((t.drop n).take (e - n)).getD 0 0=t.getD n 0:=by
 simp only [List.getD];rw [List.getElem?_take,if_pos (by omega),List.getElem?_drop,Nat.add_zero]
section
variable {rec:Out→Nat→Nat→List PN}
theorem planK_kids {p:List Int}:∀ (n:Nat) (l:Out) (base:Nat),Va p l→(∀ y∈l,Ge y.1) →
  (∀ k∈(Zc rec n l p.length base).1,Sh k.1∧∃ y∈l,k.1.getD 0 0=y.1.getD p.length 0)∧((Zc rec n l p.length base).1.Pairwise fun a b=>a.1.getD 0 0≠b.1.getD 0 0):=by
 intro n
 induction n with
 | zero=>intro l base _ _;exact ⟨fun k hk=>(by cases hk),List.Pairwise.nil⟩
 | succ n ih =>
  intro l base hr hn;cases l with
  | nil=>exact ⟨fun k hk=>(by cases hk),List.Pairwise.nil⟩
  | cons y l =>
    obtain ⟨g1,g2,-,-⟩:=hr.group;obtain ⟨-,s2,-,s4⟩:=hr.split;have IH:=ih ((y :: l).drop (Xe p.length (y :: l))) (base + (rec ((y :: l).take (Xe p.length (y :: l))) (lcpN y.1 (Jr ((y :: l).take (Xe p.length (y :: l))))) base).length) s4 (fun z hz=>hn z (List.mem_of_mem_drop hz));unfold Zc;simp only [];refine ⟨fun k hk=>?_,List.pairwise_cons.2 ⟨fun k hk=>?_,IH.2⟩⟩
    ·rcases List.mem_cons.1 hk with e | hk
     ·rw [e]
      exact ⟨edge_of (hn y (List.mem_cons_self ..)) g1 g2,y,List.mem_cons_self ..,edge_first _ g1⟩
     ·obtain ⟨h1,z,hz,h2⟩:=IH.1 k hk
      exact ⟨h1,z,List.mem_of_mem_drop hz,h2⟩
    ·obtain ⟨-,z,hz,h2⟩:=IH.1 k hk
     have:=s2 z hz
     rw [edge_first _ g1,h2];omega
theorem planK_all {p:List Int} {P:PN→Prop} (hrec:∀ l q base,l≠[]→Rise q l→(∀ y∈l,Ge y.1∧ExOk y.2)→∀ nd∈rec l q.length base,P nd):∀ (n:Nat) (l:Out) (base:Nat),Va p l→(∀ y∈l,Ge y.1∧ExOk y.2)→∀ nd∈(Zc rec n l p.length base).2,P nd:=by
 intro n
 induction n with
 | zero=>intro l base _ _ nd h;cases h
 | succ n ih =>
  intro l base hr hn nd h;cases l with
  | nil=>cases h
  | cons y l =>
   obtain ⟨g1,g2,-,g4⟩:=hr.group;obtain ⟨-,-,-,s4⟩:=hr.split;have hap:=Vv (n:=p.length) (y:=y) (l:=l);unfold Zc at h;simp only [] at h;rcases List.mem_append.1 h with h | h
   ·have hlen:(y.1.take (lcpN y.1 (Jr ((y :: l).take (Xe p.length (y :: l)))))).length=lcpN y.1 (Jr ((y :: l).take (Xe p.length (y :: l)))):=by rw [List.length_take];omega
    rw [← hlen] at h;refine hrec _ _ base ?_ g4 (fun z hz=>hn z (List.mem_of_mem_take hz)) nd h
    obtain ⟨A',hA⟩:∃ A',Xe p.length (y :: l)=A' + 1:=⟨Xe p.length (y :: l) - 1,by omega⟩
    rw [hA];simp
   ·exact ih _ _ s4 (fun z hz=>hn z (List.mem_of_mem_drop hz)) nd h
end
theorem plan_ok:∀ (k:Nat) (l:Out) (p:List Int) (base:Nat),l≠[]→Rise p l→(∀ y∈l,Ge y.1∧ExOk y.2)→∀ nd∈plan k l p.length base,PnOk nd:=by
 intro k
 induction k with
 | zero=>intro l p base _ _ _ nd h;cases h
 | succ k ih =>
  intro l p base hl hr hn nd h;obtain ⟨hrl,hown⟩:=hr.own hl;have hsub:∀ y∈Xw p.length l,y∈l:=by
   intro y hy;cases ho:ownN p.length l with
   | none=>rw [ho] at hown;rw [← hown];exact hy
   | some x=>rw [ho] at hown;rw [hown];exact List.mem_cons_of_mem _ hy
  unfold plan at h;simp only [] at h;rcases List.mem_cons.1 h with e | h
  ·have K:=planK_kids (rec:=plan k) (Xw p.length l).length (Xw p.length l) (base + 1) hrl (fun y hy=>(hn y (hsub y hy)).1)
   rw [e];refine ⟨fun x hx=>?_,fun k hk=>(K.1 k hk).1,K.2⟩;simp only [] at hx;rw [hx] at hown;simp only [] at hown;exact (hn (p,x) (by rw [hown];exact List.mem_cons_self ..)).2
  ·exact planK_all (fun l q base hl hr hn=>ih l q base hl hr hn) _ _ _ hrl (fun y hy=>hn y (hsub y hy)) nd h
def Tight (p:List Int) (l:Out):Prop:=∀ y m,l=y :: m→p.length=lcpN y.1 (Jr l)
theorem planK_len {rec:Out→Nat→Nat→List PN} {p:List Int} (hrec:∀ l q base,l≠[]→Rise q l→Tight q l→(rec l q.length base).length + 1≤2 * l.length):∀ (n:Nat) (l:Out) (base:Nat),l.length≤n→Va p l →
  (Zc rec n l p.length base).2.length + (Zc rec n l p.length base).1.length≤2 * l.length∧(l≠[]→1≤(Zc rec n l p.length base).1.length)∧(∀ y m,l=y :: m→Xe p.length l < l.length→2≤(Zc rec n l p.length base).1.length):=by
 intro n
 induction n with
 | zero =>
  intro l base hl _
  have:l=[]:=List.eq_nil_of_length_eq_zero (by omega)
  subst this;exact ⟨by simp [Zc],fun h=>absurd rfl h,fun y m h=>by cases h⟩
 | succ n ih =>
  intro l base hl hr;cases l with
  | nil=>exact ⟨by simp [Zc],fun h=>absurd rfl h,fun y m h=>by cases h⟩
  | cons y l =>
    obtain ⟨g1,g2,-,g4⟩:=hr.group;obtain ⟨-,-,-,s4⟩:=hr.split;have hap:=Vv (n:=p.length) (y:=y) (l:=l);obtain ⟨A,hA⟩:∃ A,A=Xe p.length (y :: l):=⟨_,rfl⟩
    rw [← hA] at g1 g2 g4 s4 hap;obtain ⟨e,he⟩:∃ e,e=lcpN y.1 (Jr ((y :: l).take A)):=⟨_,rfl⟩
    rw [← he] at g1 g2 g4;have hlen:(y.1.take e).length=e:=by rw [List.length_take];omega
    have hgne:(y :: l).take A≠[]:=by
     obtain ⟨A',rfl⟩:∃ A',A=A' + 1:=⟨A - 1,by omega⟩
     simp
    have hstep:Zc rec (n + 1) (y :: l) p.length base=(((y.1.drop p.length).take (e - p.length),base) :: (Zc rec n ((y :: l).drop A) p.length (base + (rec ((y :: l).take A) e base).length)).1,rec ((y :: l).take A) e base ++ (Zc rec n ((y :: l).drop A) p.length (base + (rec ((y :: l).take A) e base).length)).2):=by
     rw [he,hA];rfl
    have S:=hrec ((y :: l).take A) (y.1.take e) base hgne g4 (fun z m hz=>by
     rw [hlen,he];obtain ⟨A',hA'⟩:∃ A',A=A' + 1:=⟨A - 1,by omega⟩
     have hz2:=hz;rw [hA',List.take_succ_cons] at hz2;injection hz2 with hz2 _;rw [hz2])
    rw [hlen] at S;have hdl:((y :: l).drop A).length≤n:=by rw [List.length_drop];have:(y :: l).length=l.length + 1:=rfl;omega
    have IH:=ih ((y :: l).drop A) (base + (rec ((y :: l).take A) e base).length) hdl s4;rw [hstep];simp only [List.length_append,List.length_cons];have h1:((y :: l).take A).length + ((y :: l).drop A).length=l.length + 1:=by
     rw [List.length_take,List.length_drop]
     have:(y :: l).length=l.length + 1:=rfl
     omega
    refine ⟨by omega,fun _=>by omega,fun z m hz hlt=>?_⟩;have hne:(y :: l).drop A≠[]:=by
     intro e0
     have:=congrArg List.length e0
     simp only [List.length_drop,List.length_nil,List.length_cons] at this;rw [← hA] at hlt;omega
    have:=IH.2.1 hne
    omega
theorem plan_len:∀ (k:Nat) (l:Out) (p:List Int) (base:Nat),l≠[]→Rise p l→Tight p l→(plan k l p.length base).length + 1≤2 * l.length:=by
 intro k
 induction k with
 | zero =>
  intro l p base hl _ _;have : 0 < l.length:=List.length_pos_iff.2 hl;simp only [plan,List.length_nil];omega
 | succ k ih =>
  intro l p base hl hr ht;obtain ⟨hrl,hown⟩:=hr.own hl;have K:=planK_len (rec:=plan k) (fun l q base hl hr ht=>ih l q base hl hr ht) (Xw p.length l).length (Xw p.length l) (base + 1) (Nat.le_refl _) hrl;unfold plan;simp only [List.length_cons];have hpos : 0 < l.length:=List.length_pos_iff.2 hl;cases ho:ownN p.length l with
  | some x =>
   rw [ho] at hown;simp only [] at hown;have h2:=congrArg List.length hown;rw [List.length_cons] at h2;omega
  | none =>
   rw [ho] at hown;simp only [] at hown;rw [hown] at K hrl ⊢;cases l with
   | nil=>exact absurd rfl hl
   | cons y l =>
    have h2:=K.2.2 y l rfl (by
     rcases Nat.lt_or_ge (Xe p.length (y :: l)) (y :: l).length with h | h
     ·exact h
     ·-- all have one byte there: then they begin with more
      exfalso
      obtain ⟨g1,-,-,-⟩:=hrl.group;rw [List.take_of_length_le h] at g1
      have:=ht y l rfl
      omega)
    omega
theorem plan_len0 (k:Nat) (l:Out) (base:Nat) (hl:l≠[]) (hr:Rise [] l) (hn:∀ y∈l,y.1≠[]):(plan (k + 1) l 0 base).length≤2 * l.length:=by
 obtain ⟨hrl,hown⟩:=hr.own hl;have K:=planK_len (rec:=plan k) (fun l q base hl hr ht=>plan_len k l q base hl hr ht) (Xw 0 l).length (Xw 0 l) (base + 1) (Nat.le_refl _) hrl;have ho:ownN 0 l=none:=by
  cases l with
  | nil=>rfl
  | cons y l =>
   have:ownN 0 (y :: l)=if y.1.length=0 then some y.2 else none:=rfl
   rw [this,if_neg (fun e=>hn y (List.mem_cons_self ..) (List.eq_nil_of_length_eq_zero e))]
 have hre:Xw 0 l=l:=by
  have h:=hown;simp only [List.length_nil] at h;rw [ho] at h;exact h
 unfold plan;simp only [List.length_cons];rw [hre] at K ⊢
 have:=K.2.1 hl
 have h1:=K.1;simp only [List.length_nil] at this h1;omega
end
section
def layB (pl:List Nat) (nodes:List PN):List Int:=nodes.flatMap (Vn pl)
def Xc (pl:List Nat):Nat→List PN→List Nat
 | _,[]=>[]
 | s,nd :: l=>s :: Xc pl (s + (Vn pl nd).length) l
theorem Vc (pl:List Nat):∀ (l:List PN) (s:Nat),(Xc pl s l).length=l.length
 | [],_=>rfl
 | nd :: l,s=>by simp [Xc,Vc pl l]
theorem placesF_at (pl:List Nat):∀ (l:List PN) (s i:Nat),i < l.length→(Xc pl s l).getD i 0=s + (layB pl (l.take i)).length
 | [],_,_,h=>by simp at h
 | nd :: l,s,0,_=>by simp [Xc,layB]
 | nd :: l,s,i + 1,h=>by
  have:=placesF_at pl l (s + (Vn pl nd).length) i (by simpa using h)
  simp only [Xc,List.getD_cons_succ,this];rw [List.take_succ_cons,layB,layB,List.flatMap_cons,List.length_append];omega
theorem node_pos (pl:List Nat) (nd:PN) : 0 < (Vn pl nd).length:=by
 unfold Vn;rw [List.length_append,List.length_append,List.length_singleton];omega
theorem lay_split (pl:List Nat) {nodes:List PN} {i:Nat} {nd:PN} (h:nodes[i]?=some nd):layB pl nodes=layB pl (nodes.take i) ++ (Vn pl nd ++ layB pl (nodes.drop (i + 1))):=by
 obtain ⟨hi,e⟩:=List.getElem?_eq_some_iff.1 h;have h2:nodes=nodes.take i ++ (nd :: nodes.drop (i + 1)):=by
  rw [← e,← List.drop_eq_getElem_cons hi,List.take_append_drop]
 conv=>lhs;rw [h2]
 unfold layB;rw [List.flatMap_append,List.flatMap_cons]
theorem lay_le (pl:List Nat) {nodes:List PN} {i:Nat} (h:i < nodes.length):(layB pl (nodes.take i)).length < (layB pl nodes).length:=by
 rw [lay_split pl (List.getElem?_eq_getElem h),List.length_append,List.length_append]
 have:=node_pos pl nodes[i]
 omega
section
variable {pl:List Nat} {nodes:List PN} (hfix:Xc pl 0 nodes=pl) (hok:∀ nd∈nodes,PnOk nd) (hbig:(layB pl nodes).length < 18446744073709551616)
include hfix hok hbig
end
def Le (P Q:List Nat):Prop:=P.length=Q.length∧∀ i,P.getD i 0≤Q.getD i 0
theorem nodeB_mono {P Q:List Nat} (h:Le P Q) (nd:PN):(Vn P nd).length≤(Vn Q nd).length:=by
 unfold Vn;rw [List.length_append,List.length_append,List.length_append,List.length_append]
 have:∀ ks:List (List Int × Nat),(ks.flatMap (kidB P)).length≤(ks.flatMap (kidB Q)).length:=by
  intro ks
  induction ks with
  | nil=>exact Nat.le_refl _
  | cons k ks ih =>
   rw [List.flatMap_cons,List.flatMap_cons,List.length_append,List.length_append];have h1:(kidB P k).length≤(kidB Q k).length:=by
    unfold kidB;rw [List.length_append,List.length_append,List.length_append,List.length_append]
    have:=encU_mono _ _ _ (Nat.lt_succ_self _) (h.2 k.2)
    omega
   omega
 have:=this nd.kids
 omega
theorem placesF_mono {P Q:List Nat} (h:Le P Q):∀ (l:List PN) (s t:Nat),s≤t→Le (Xc P s l) (Xc Q t l)
 | [],_,_,_=>⟨rfl,fun i=>Nat.le_refl _⟩
 | nd :: l,s,t,hst=>by
  have ih:=placesF_mono h l (s + (Vn P nd).length) (t + (Vn Q nd).length) (by have:=nodeB_mono h nd;omega);refine ⟨by simp [Xc,ih.1],fun i=>?_⟩;cases i with
  | zero=>simpa [Xc] using hst
  | succ i=>simpa [Xc] using ih.2 i
def Qs (nodes:List PN):Nat→List Nat
 | 0=>List.replicate nodes.length 0
 | t + 1=>Xc (Qs nodes t) 0 nodes
theorem Bq (nodes:List PN) (t:Nat):(Qs nodes t).length=nodes.length:=by
 cases t with
 | zero=>simp [Qs]
 | succ t=>simp [Qs,Vc]
theorem rounds_le (nodes:List PN):∀ t,Le (Qs nodes t) (Qs nodes (t + 1))
 | 0=>⟨by rw [Bq,Bq],fun i=>by
  simp only [Qs,List.getD_eq_getElem?_getD,List.getElem?_replicate]
  split <;> simp⟩
 | t + 1=>placesF_mono (rounds_le nodes t) nodes 0 0 (Nat.le_refl _)
theorem Hh {nodes:List PN} {t:Nat} (h:Qs nodes (t + 1)=Qs nodes t):∀ s,Qs nodes (t + s)=Qs nodes t
 | 0=>rfl
 | s + 1=>by
  show Xc (Qs nodes (t + s)) 0 nodes=_
  rw [Hh h s];exact h
theorem rounds_one {nodes:List PN} {t s:Nat} (h:Qs nodes (t + 1)=Qs nodes t) (k:Qs nodes (s + 1)=Qs nodes s):Qs nodes t=Qs nodes s:=by
 rcases Nat.le_total t s with hts | hts
 ·have:=Hh h (s - t)
  rw [show t + (s - t)=s by omega] at this;exact this.symm
 ·have:=Hh k (t - s)
  rw [show s + (t - s)=t by omega] at this;exact this
def sumN:List Nat→Nat
 | []=>0
 | x :: l=>x + sumN l
theorem sum_lt:∀ {P Q:List Nat},Le P Q→P≠Q→sumN P < sumN Q
 | [],[],_,h=>absurd rfl h
 | [],_ :: _,h,_=>by have:=h.1;simp at this
 | _ :: _,[],h,_=>by have:=h.1;simp at this
 | x :: P,y :: Q,h,hne=>by
  have h0:x≤y:=by simpa using h.2 0
  have ht:Le P Q:=⟨by simpa using h.1,fun i=>by simpa using h.2 (i + 1)⟩
  by_cases hpq:P=Q
  ·subst hpq
   have:x≠y:=fun e=>hne (by rw [e])
   simp only [sumN];omega
  ·have:=sum_lt ht hpq
   simp only [sumN];omega
theorem sum_le {M:Nat}:∀ {P:List Nat},(∀ i,P.getD i 0≤M)→sumN P≤P.length * M
 | [],_=>by simp [sumN]
 | x :: P,h=>by
  have h0:x≤M:=by simpa using h 0
  have:=sum_le (P:=P) (fun i=>by simpa using h (i + 1))
  simp only [sumN,List.length_cons,Nat.succ_mul];omega
end
def Jq (rec:Out→Nat→List (List Int)):Nat→Out→Nat→List (List Int)
 | 0,_,_=>[]
 | _ + 1,[],_=>[]
 | n + 1,y :: l,size =>
  let g:=(y :: l).take (Xe size (y :: l))
  rec g (lcpN y.1 (Jr g)) ++ Jq rec n ((y :: l).drop (Xe size (y :: l))) size
def Mf:Out→List Int
 | []=>[]
 | y :: _=>y.1
def Qe:Nat→Out→Nat→List (List Int)
 | 0,_,_=>[]
 | k + 1,l,size=>(Mf l).take size :: Jq (Qe k) (Xw size l).length (Xw size l) size
def adjN:Out→List (List Int)
 | []=>[]
 | [_]=>[]
 | a :: b :: l=>a.1.take (lcpN a.1 b.1) :: adjN (b :: l)
theorem Sm:∀ (a:Out) (x:List Int × Ex) (b:Out),adjN (a ++ x :: b)=adjN (a ++ [x]) ++ adjN (x :: b)
 | [],x,b=>by simp [adjN]
 | [y],x,b=>by simp [adjN]
 | y :: z :: a,x,b=>by
  have:=Sm (z :: a) x b
  simp only [List.cons_append,adjN] at this ⊢;rw [this]
theorem lcp_min {a b c:List Int} (h1:nmLt a b=true) (h2:nmLt b c=true):lcpN a c=min (lcpN a b) (lcpN b c):=by
 have t1:=Vh a b;have t2:=Vh b c;have t3:=Vh a c;have hb:=between (lcpN a c) h1 h2 t3.1 t3.2.1;apply Nat.le_antisymm
 ·refine Nat.le_min.2 ⟨Tj _ _ _ hb.1.symm t3.2.1 hb.2,Tj _ _ _ (hb.1.trans t3.1) hb.2 t3.2.2⟩
 ·obtain ⟨m,hm⟩:∃ m,m=min (lcpN a b) (lcpN b c):=⟨_,rfl⟩
  rw [← hm];have e1:a.take m=b.take m:=by
   have:=congrArg (List.take m) t1.1
   rwa [List.take_take,List.take_take,Nat.min_eq_left (by omega)] at this
  have e2:b.take m=c.take m:=by
   have:=congrArg (List.take m) t2.1
   rwa [List.take_take,List.take_take,Nat.min_eq_left (by omega)] at this
  exact Tj _ _ _ (e1.trans e2) (by omega) (by omega)
theorem last_cons (x y:List Int × Ex) (l:Out):Jr (x :: y :: l)=Jr (y :: l):=by
 unfold Jr;rw [List.getLast?_cons_cons]
theorem lcp_self (a:List Int):lcpN a a=a.length:=by
 have:=Tj a.length a a rfl (Nat.le_refl _) (Nat.le_refl _)
 have:=Vh a a
 omega
theorem group_adj:∀ (l:Out) (a:List Int × Ex),((a :: l).Pairwise fun a b=>nmLt a.1 b.1=true)→(l=[]∧a.1.take (lcpN a.1 (Jr (a :: l)))=a.1)∨a.1.take (lcpN a.1 (Jr (a :: l)))∈adjN (a :: l)
 | [],a,_=>.inl ⟨rfl,by
  have:Jr [a]=a.1:=rfl
  rw [this,lcp_self,List.take_length]⟩
 | [b],a,_=>.inr (by
  have:Jr [a,b]=b.1:=rfl
  rw [this];exact List.mem_cons_self ..)
 | b :: c :: l,a,h=>.inr (by
  obtain ⟨z,hz,hzl,hzo⟩:=Sn (l:=b :: c :: l) (by simp) (List.pairwise_cons.1 h).2;have hab:=(List.pairwise_cons.1 h).1 b (List.mem_cons_self ..);have hbz:nmLt b.1 z.1=true:=by
   rcases hzo b (List.mem_cons_self ..) with e | e
   ·exfalso
    have hbc:=(List.pairwise_cons.1 (List.pairwise_cons.1 h).2).1 c (List.mem_cons_self ..);rcases hzo c (by simp) with e2 | e2
    ·rw [e2,← e,Z9] at hbc;cases hbc
    ·rw [← e] at e2
     have:=J0 hbc e2
     rw [Z9] at this;cases this
   ·exact e
  rw [last_cons,hzl];have hmin:=lcp_min hab hbz;have t1:=Vh a.1 b.1;simp only [adjN];rcases Nat.le_total (lcpN a.1 b.1) (lcpN b.1 z.1) with hle | hle
  ·rw [hmin,Nat.min_eq_left hle]
   exact List.mem_cons_self ..
  ·rw [hmin,Nat.min_eq_right hle]
   have e1:a.1.take (lcpN b.1 z.1)=b.1.take (lcpN b.1 z.1):=by
    have:=congrArg (List.take (lcpN b.1 z.1)) t1.1
    rwa [List.take_take,List.take_take,Nat.min_eq_left hle] at this
   rw [e1,← hzl];rcases group_adj (c :: l) b (List.pairwise_cons.1 h).2 with ⟨e,_⟩ | e
   ·cases e
   ·exact List.mem_cons_of_mem _ e)
theorem rise_ext:∀ {A B:List (List Int)},(A.Pairwise fun a b=>nmLt a b=true)→(B.Pairwise fun a b=>nmLt a b=true)→(∀ q,q∈A↔q∈B)→A=B
 | [],[],_,_,_=>rfl
 | [],b :: B,_,_,h=>by have:=(h b).2 (List.mem_cons_self ..);cases this
 | a :: A,[],_,_,h=>by have:=(h a).1 (List.mem_cons_self ..);cases this
 | a :: A,b :: B,hA,hB,h=>by
  have ha:=(h a).1 (List.mem_cons_self ..);have hb:=(h b).2 (List.mem_cons_self ..);have hab:a=b:=by
   rcases List.mem_cons.1 ha with e | e
   ·exact e
   ·rcases List.mem_cons.1 hb with e2 | e2
    ·exact e2.symm
    ·have h1:=(List.pairwise_cons.1 hB).1 a e
     have h2:=(List.pairwise_cons.1 hA).1 b e2
     have:=J0 h1 h2
     rw [Z9] at this;cases this
  subst hab;rw [rise_ext (List.pairwise_cons.1 hA).2 (List.pairwise_cons.1 hB).2 (fun q=>?_)];have hq:=h q;simp only [List.mem_cons] at hq
  constructor
  ·intro hm
   rcases hq.1 (.inr hm) with e | e
   ·have:=(List.pairwise_cons.1 hA).1 q hm
    rw [e,Z9] at this;cases this
   ·exact e
  ·intro hm
   rcases hq.2 (.inr hm) with e | e
   ·have:=(List.pairwise_cons.1 hB).1 q hm
    rw [e,Z9] at this;cases this
   ·exact e
structure NamesOf (p:List Int) (l:Out) (N:List (List Int)):Prop where
 up:N.Pairwise fun a b=>nmLt a b=true
 pre:∀ q∈N,p <+: q
 mem:∀ q,q∈N↔q=p∨q∈l.map Prod.fst∨q∈adjN l
structure NamesL (p:List Int) (l:Out) (N:List (List Int)):Prop where
 up:N.Pairwise fun a b=>nmLt a b=true
 pre:∀ q∈N,∃ y∈l,p ++ [y.1.getD p.length 0] <+: q
 mem:∀ q,q∈N∨q=p↔q=p∨q∈l.map Prod.fst∨q∈adjN l
theorem nmLt_step {p:List Int} {c d:Int} {a b:List Int} (ha:p ++ [c] <+: a) (hb:p ++ [d] <+: b) (h:c < d):nmLt a b=true:=by
 obtain ⟨s,rfl⟩:=ha;obtain ⟨t,rfl⟩:=hb;rw [List.append_assoc,List.append_assoc,Mg,List.singleton_append,List.singleton_append];simp [nmLt,h]
theorem nmLt_more {p q:List Int} {c:Int} (h:p ++ [c] <+: q):nmLt p q=true:=by
 obtain ⟨s,rfl⟩:=h
 have:=Mg p [] ([c] ++ s)
 rw [List.append_nil,← List.append_assoc] at this;rw [this];rfl
theorem lcp_diff {p:List Int} {c d:Int} {s t:List Int} (h:c≠d):lcpN (p ++ c :: s) (p ++ d :: t)=p.length:=by
 induction p with
 | nil=>simp [lcpN,h]
 | cons x p ih=>simp only [List.cons_append,lcpN,if_true,List.length_cons];rw [ih]
theorem lcp_pre (p s:List Int):lcpN p (p ++ s)=p.length:=by
 induction p with
 | nil=>cases s <;> rfl
 | cons x p ih=>simp only [List.cons_append,lcpN,if_true,List.length_cons];rw [ih]
theorem Hs:∀ (k:Nat) (l:Out) (p:List Int),l≠[]→Rise p l→(∀ y∈l,y.1.length≤255)→257≤k + p.length→NamesOf p l (Qe k l p.length):=by
 intro k
 induction k with
 | zero =>
  intro l p hl hr h255 hk;cases l with
  | nil=>exact absurd rfl hl
  | cons y l =>
   obtain ⟨s,hs⟩:=hr.pre y (List.mem_cons_self ..);have h1:=h255 y (List.mem_cons_self ..);rw [hs,List.length_append] at h1;omega
 | succ k ih =>
  intro l p hl hr h255 hk;obtain ⟨hrl,hown⟩:=hr.own hl;have hrest:∀ y∈Xw p.length l,y∈l:=by
   intro y hy;cases ho:ownN p.length l with
   | none=>rw [ho] at hown;rw [← hown];exact hy
   | some x=>rw [ho] at hown;rw [hown];exact List.mem_cons_of_mem _ hy
  have kids:∀ (n:Nat) (l2:Out),l2.length≤n→Va p l2→(∀ y∈l2,y.1.length≤255)→NamesL p l2 (Jq (Qe k) n l2 p.length):=by
   intro n
   induction n with
   | zero =>
    intro l2 hl2 _ _
    have:l2=[]:=List.eq_nil_of_length_eq_zero (by omega)
    subst this;exact ⟨List.Pairwise.nil,fun q hq=>(by cases hq),fun q=>by simp [Jq,adjN]⟩
   | succ n ihn =>
    intro l2 hl2 hr2 h2;cases l2 with
    | nil=>exact ⟨List.Pairwise.nil,fun q hq=>(by cases hq),fun q=>by simp [Jq,adjN]⟩
    | cons y l2 =>
     obtain ⟨g1,g2,g3,g4⟩:=hr2.group;obtain ⟨s1,s2,s3,s4⟩:=hr2.split;have hap:=Vv (n:=p.length) (y:=y) (l:=l2);obtain ⟨A,hA⟩:∃ A,A=Xe p.length (y :: l2):=⟨_,rfl⟩
     rw [← hA] at g1 g2 g3 g4 s1 s2 s3 s4 hap;obtain ⟨e,he⟩:∃ e,e=lcpN y.1 (Jr ((y :: l2).take A)):=⟨_,rfl⟩
     rw [← he] at g1 g2 g3 g4;have hlen:(y.1.take e).length=e:=by rw [List.length_take];omega
     obtain ⟨A',hA'⟩:∃ A',A=A' + 1:=⟨A - 1,by omega⟩
     have hg:(y :: l2).take A=y :: l2.take A':=by rw [hA',List.take_succ_cons]
     have G:=ih ((y :: l2).take A) (y.1.take e) (by rw [hg];simp) g4 (fun x hx=>h2 x (List.mem_of_mem_take hx)) (by rw [hlen];omega);rw [hlen] at G;have hdl:((y :: l2).drop A).length≤n:=by rw [List.length_drop];have:(y :: l2).length=l2.length + 1:=rfl;omega
     have R:=ihn ((y :: l2).drop A) hdl s4 (fun x hx=>h2 x (List.mem_of_mem_drop hx));have hstep:Jq (Qe k) (n + 1) (y :: l2) p.length=Qe k ((y :: l2).take A) e ++ Jq (Qe k) n ((y :: l2).drop A) p.length:=by rw [he,hA];rfl
     rw [hstep];obtain ⟨cy,sy,ey⟩:=hr2.pre y (List.mem_cons_self ..);have hcy:y.1.getD p.length 0=cy:=by rw [ey,Hi]
     have hpe:p ++ [cy] <+: y.1.take e:=by
      rw [ey];obtain ⟨e',rfl⟩:∃ e',e=p.length + 1 + e':=⟨e - (p.length + 1),by omega⟩
      refine ⟨sy.take e',?_⟩;rw [List.take_append,List.take_of_length_le (l:=p) (by omega),show p.length + 1 + e' - p.length=e' + 1 by omega,List.take_succ_cons,List.append_assoc];rfl
     refine ⟨?_,?_,?_⟩
     ·rw [List.pairwise_append]
      refine ⟨G.up,R.up,fun a ha b hb=>?_⟩;obtain ⟨z,hz,hpz⟩:=R.pre b hb;exact nmLt_step (hpe.trans (G.pre a ha)) hpz (by have:=s2 z hz;rw [hcy] at this;exact this)
     ·intro q hq
      rcases List.mem_append.1 hq with h | h
      ·exact ⟨y,List.mem_cons_self ..,by rw [hcy];exact hpe.trans (G.pre q h)⟩
      ·obtain ⟨z,hz,hpz⟩:=R.pre q h
       exact ⟨z,List.mem_of_mem_drop hz,hpz⟩
     ·intro q
      have hge:y.1.take e∈((y :: l2).take A).map Prod.fst∨y.1.take e∈adjN ((y :: l2).take A):=by
       have:=group_adj (l2.take A') y (by rw [← hg];exact s3.up)
       rw [← hg,← he] at this;rcases this with ⟨_,h⟩ | h
       ·left;rw [h,hg];simp
       ·exact .inr h
      have hadj:∀ q,(q∈adjN (y :: l2)∨q=p)↔(q∈adjN ((y :: l2).take A)∨q∈adjN ((y :: l2).drop A)∨q=p):=by
       intro q;cases hd:(y :: l2).drop A with
       | nil =>
        have:(y :: l2).take A=y :: l2:=by
         have:=List.take_append_drop A (y :: l2)
         rw [hd,List.append_nil] at this;exact this
        rw [this];simp [adjN]
       | cons x m =>
        have hsp:=List.take_append_drop A (y :: l2);rw [hd] at hsp
        -- the neighbours across
        obtain ⟨z,hz,hzl,-⟩:=Sn (l:=(y :: l2).take A) (by rw [hg];simp) s3.up;have hcross:adjN ((y :: l2).take A ++ [x])=adjN ((y :: l2).take A) ++ [p]:=by
         have hne:(y :: l2).take A≠[]:=by rw [hg];simp
         have hdl:=List.dropLast_concat_getLast hne;obtain ⟨w,hw⟩:∃ w,w=((y :: l2).take A).getLast hne:=⟨_,rfl⟩
         rw [← hw] at hdl;have hwm:w∈(y :: l2).take A:=by rw [hw];exact List.getLast_mem hne
         rw [← hdl,List.append_assoc,List.singleton_append,Sm]
         congr 1
         show [w.1.take (lcpN w.1 x.1)]=[p]
         obtain ⟨cw,sw,ew⟩:=s3.pre w hwm;obtain ⟨cx,sx,ex⟩:=s4.pre x (by rw [hd];exact List.mem_cons_self ..);have h1:=s1 w hwm;have h2:=s2 x (by rw [hd];exact List.mem_cons_self ..);rw [ew,Hi,hcy] at h1;rw [ex,Hi,hcy] at h2;rw [ew,ex,lcp_diff (by omega),List.take_left]
        have htot:adjN (y :: l2)=(adjN ((y :: l2).take A) ++ [p]) ++ adjN (x :: m):=by
         rw [← hcross,← Sm];rw [hsp]
        rw [htot];simp only [List.mem_append,List.mem_singleton]
        constructor
        ·rintro (((h | h) | h) | h)
         ·exact .inl h
         ·exact .inr (.inr h)
         ·exact .inr (.inl h)
         ·exact .inr (.inr h)
        ·rintro (h | h | h)
         ·exact .inl (.inl (.inl h))
         ·exact .inl (.inr h)
         ·exact .inr h
      have hmap:q∈(y :: l2).map Prod.fst↔q∈((y :: l2).take A).map Prod.fst∨q∈((y :: l2).drop A).map Prod.fst:=by
       rw [← List.mem_append,← List.map_append,List.take_append_drop]
      have m1:=G.mem q;have m2:=R.mem q;have m3:=hadj q;rw [List.mem_append,hmap]
      constructor
      ·rintro ((h | h) | h)
       ·rcases m1.1 h with e1 | e1 | e1
        ·rcases hge with h3 | h3
         ·rw [e1];exact .inr (.inl (.inl h3))
         ·rw [e1]
          rcases (hadj (y.1.take e)).2 (.inl h3) with h4 | h4
          ·exact .inr (.inr h4)
          ·exact .inl h4
        ·exact .inr (.inl (.inl e1))
        ·rcases m3.2 (.inl e1) with h4 | h4
         ·exact .inr (.inr h4)
         ·exact .inl h4
       ·rcases m2.1 (.inl h) with e1 | e1 | e1
        ·exact .inl e1
        ·exact .inr (.inl (.inr e1))
        ·rcases m3.2 (.inr (.inl e1)) with h4 | h4
         ·exact .inr (.inr h4)
         ·exact .inl h4
       ·exact .inl h
      ·rintro (h | (h | h) | h)
       ·exact .inr h
       ·exact .inl (.inl (m1.2 (.inr (.inl h))))
       ·rcases m2.2 (.inr (.inl h)) with h4 | h4
        ·exact .inl (.inr h4)
        ·exact .inr h4
       ·rcases m3.1 (.inl h) with h4 | h4 | h4
        ·exact .inl (.inl (m1.2 (.inr (.inr h4))))
        ·rcases m2.2 (.inr (.inr h4)) with h5 | h5
         ·exact .inl (.inr h5)
         ·exact .inr h5
        ·exact .inr h4
  have K:=kids (Xw p.length l).length (Xw p.length l) (Nat.le_refl _) hrl (fun y hy=>h255 y (hrest y hy));have hhead:(Mf l).take p.length=p:=by
   cases l with
   | nil=>exact absurd rfl hl
   | cons y l =>
    obtain ⟨s,hs⟩:=hr.pre y (List.mem_cons_self ..);show y.1.take p.length=p
    rw [hs,List.take_left]
  have hA:Qe (k + 1) l p.length=p :: Jq (Qe k) (Xw p.length l).length (Xw p.length l) p.length:=by
   show (Mf l).take p.length :: _=_
   rw [hhead]
  rw [hA];refine ⟨List.pairwise_cons.2 ⟨fun q hq=>?_,K.up⟩,fun q hq=>?_,fun q=>?_⟩
  ·obtain ⟨y,_,hy⟩:=K.pre q hq
   exact nmLt_more hy
  ·rcases List.mem_cons.1 hq with e | hq
   ·rw [e];exact List.prefix_refl _
   ·obtain ⟨y,_,hy⟩:=K.pre q hq
    exact (List.prefix_append p _).trans hy
  ·have m:=K.mem q
   rw [List.mem_cons];have key:(q=p∨q∈l.map Prod.fst∨q∈adjN l)↔(q=p∨q∈(Xw p.length l).map Prod.fst∨q∈adjN (Xw p.length l)):=by
    cases ho:ownN p.length l with
    | none=>rw [ho] at hown;simp only [] at hown;rw [hown]
    | some x =>
     rw [ho] at hown;simp only [] at hown;obtain ⟨r,hr'⟩:∃ r,r=Xw p.length l:=⟨_,rfl⟩
     rw [← hr'] at hown hrl ⊢;rw [hown];cases r with
     | nil=>simp [adjN]
     | cons z r =>
      obtain ⟨c,s,ez⟩:=hrl.pre z (List.mem_cons_self ..)
      have:(p:List Int).take (lcpN p z.1)=p:=by rw [ez,lcp_pre,List.take_length]
      simp only [adjN,List.map_cons,List.mem_cons,this]
      constructor
      ·rintro (h | (h | h | h) | h | h)
       ·exact .inl h
       ·exact .inl h
       ·exact .inr (.inl (.inl h))
       ·exact .inr (.inl (.inr h))
       ·exact .inl h
       ·exact .inr (.inr h)
      ·rintro (h | (h | h) | h)
       ·exact .inl h
       ·exact .inr (.inl (.inr (.inl h)))
       ·exact .inr (.inl (.inr (.inr h)))
       ·exact .inr (.inr (.inr h))
   rw [key,← m];exact or_comm
end Go.Proofs.YtkmbkpoclhbmgaaGreat
