/- Parts of the proof, put together: MkG, MkH, TrK, TrLs, TrI, Srt, RmP. No condition beyond those that each part names. -/
import Derived.Deep.RegionWith
import Derived.Deep.RegionHeld3
import Derived.Lib.SmallJoins
import Derived.Test.YtkmbkpoclhbmgaaGreatPA5
set_option maxRecDepth 20000
set_option maxHeartbeats 6400000
namespace Go.Proofs.YtkmbkpoclhbmgaaGreat
open Go.RowKit
variable {w w' W V:World}
def preB (a q:List Int):Bool:=decide (a.take (lcpN a q)=a)
theorem pre_yes {a q:List Int} (h:a <+: q):preB a q=true:=by
 obtain ⟨s,rfl⟩:=h;unfold preB;rw [lcp_pre,List.take_length];simp
theorem pre_no {p a q:List Int} {c d:Int} (ha:p ++ [c] <+: a) (hq:p ++ [d] <+: q) (h:c≠d):preB a q=false:=by
 obtain ⟨s,rfl⟩:=ha;obtain ⟨t,rfl⟩:=hq;unfold preB;rw [List.append_assoc,List.append_assoc,List.singleton_append,List.singleton_append,lcp_diff h,List.take_left];rw [decide_eq_false_iff_not];intro e
 have:=congrArg List.length e
 rw [List.length_append,List.length_cons] at this;omega
def popN (N:List (List Int)) (q:List Int) (st:List Nat):List Nat:=st.dropWhile fun s=>!preB (N.getD s []) q
abbrev StK:=List Nat × (Nat→List Nat)
def Tv (N:List (List Int)) (i:Nat) (st:StK):StK :=
 (i :: popN N (N.getD i []) st.1,match popN N (N.getD i []) st.1 with
   | []=>st.2
   | u :: _=>fun j=>if j=u then st.2 j ++ [i] else st.2 j)
def runK (N:List (List Int)):Nat→Nat→StK→StK
 | 0,_,st=>st
 | n + 1,i,st=>runK N n (i + 1) (Tv N i st)
theorem Rj (N:List (List Int)):∀ (a b i:Nat) (st:StK),runK N (a + b) i st=runK N b (i + a) (runK N a i st)
 | 0,b,i,st=>by simp [runK]
 | a + 1,b,i,st=>by
  rw [show a + 1 + b=(a + b) + 1 by omega];simp only [runK];rw [Rj N a b (i + 1),show i + 1 + a=i + (a + 1) by omega]
def K0 (nodes:List PN) (i:Nat):List Nat:=((nodes[i]?).map fun nd=>nd.kids.map Prod.snd).getD []
theorem Ww (k:Nat):∀ (l:Out) (size base:Nat),(Qe k l size).length=(plan k l size base).length:=by
 induction k with
 | zero=>intro l size base;rfl
 | succ k ih =>
  have hk:∀ (n:Nat) (l:Out) (size base:Nat),(Jq (Qe k) n l size).length=(Zc (plan k) n l size base).2.length:=by
   intro n
   induction n with
   | zero=>intro l size base;rfl
   | succ n ihn =>
    intro l size base;cases l with
    | nil=>rfl
    | cons y l =>
     simp only [Jq,Zc,List.length_append];rw [ih _ _ base,ihn]
  intro l size base;simp only [Qe,plan,List.length_cons];rw [hk]
theorem pop_step {N:List (List Int)} {p q:List Int} {d:Int} {b:Nat} {rest:List Nat} (hq:p ++ [d] <+: q) (hb:N.getD b []=p):∀ (S:List Nat),(∀ s∈S,∃ c,p ++ [c] <+: N.getD s []∧c≠d)→popN N q (S ++ b :: rest)=b :: rest
 | [],_=>by
  unfold popN;rw [List.nil_append,List.dropWhile_cons,hb,pre_yes ((List.prefix_append p [d]).trans hq)];rfl
 | s :: S,h=>by
  obtain ⟨c,h1,h2⟩:=h s (List.mem_cons_self ..);have ih:=pop_step (rest:=rest) hq hb S (fun s hs=>h s (List.mem_cons_of_mem _ hs));unfold popN at ih ⊢;rw [List.cons_append,List.dropWhile_cons,pre_no h1 hq h2];exact ih
structure SubK (N:List (List Int)) (base len:Nat) (nodes:List PN) (o:List Nat) (K:Nat→List Nat) (st:StK):Prop where
 stack:∃ S,st.1=S ++ base :: o∧∀ s∈S,base < s∧s < base + len
 kids:∀ j,st.2 j=if base≤j∧j < base + len then K j ++ K0 nodes (j - base) else if o.head?=some j then K j ++ [base] else K j
theorem kidsAt_left {a b:List PN} {i:Nat} (h:i < a.length):K0 (a ++ b) i=K0 a i:=by
 unfold K0;rw [List.getElem?_append_left h]
theorem kidsAt_right {a b:List PN} {i:Nat} (h:a.length≤i):K0 (a ++ b) i=K0 b (i - a.length):=by
 unfold K0;rw [List.getElem?_append_right h]
theorem run_plan (N:List (List Int)):∀ (k:Nat) (l:Out) (p:List Int) (base:Nat) (o:List Nat) (K:Nat→List Nat),l≠[]→Rise p l→(∀ y∈l,y.1.length≤255)→257≤k + p.length→(∀ j,j < (Qe k l p.length).length→N.getD (base + j) []=(Qe k l p.length).getD j [])→(∀ s∈o,s < base) →
  SubK N base (plan k l p.length base).length (plan k l p.length base) (popN N p o) K (runK N (plan k l p.length base).length base (o,K)):=by
 intro k
 induction k with
 | zero =>
  intro l p base o K hl hr h255 hk;cases l with
  | nil=>exact absurd rfl hl
  | cons y l =>
   obtain ⟨s,hs⟩:=hr.pre y (List.mem_cons_self ..);have h1:=h255 y (List.mem_cons_self ..);rw [hs,List.length_append] at h1;omega
 | succ k ih =>
  intro l p base o K hl hr h255 hk hN ho;obtain ⟨hrl,hown⟩:=hr.own hl;have hrest:∀ y∈Xw p.length l,y∈l:=by
   intro y hy;cases ho:ownN p.length l with
   | none=>rw [ho] at hown;rw [← hown];exact hy
   | some x=>rw [ho] at hown;rw [hown];exact List.mem_cons_of_mem _ hy
  have kidsR:∀ (n:Nat) (l2:Out) (base2:Nat) (S0:List Nat) (b:Nat) (rest:List Nat) (K2:Nat→List Nat),l2.length≤n→Va p l2→(∀ y∈l2,y.1.length≤255)→(∀ j,j < (Jq (Qe k) n l2 p.length).length→N.getD (base2 + j) []=(Jq (Qe k) n l2 p.length).getD j []) →
    N.getD b []=p→b < base2→(∀ s∈S0,s < base2∧b < s)→(∀ s∈rest,s < b)→(∀ s∈S0,∀ y∈l2,∃ c,p ++ [c] <+: N.getD s []∧c < y.1.getD p.length 0) →
    (∃ S,(runK N (Zc (plan k) n l2 p.length base2).2.length base2 (S0 ++ b :: rest,K2)).1=S ++ b :: rest∧∀ s∈S,b < s∧s < base2 + (Zc (plan k) n l2 p.length base2).2.length) ∧
    ∀ j,(runK N (Zc (plan k) n l2 p.length base2).2.length base2 (S0 ++ b :: rest,K2)).2 j=if base2≤j∧j < base2 + (Zc (plan k) n l2 p.length base2).2.length then K2 j ++ K0 (Zc (plan k) n l2 p.length base2).2 (j - base2) else if j=b then K2 j ++ (Zc (plan k) n l2 p.length base2).1.map Prod.snd else K2 j:=by
   intro n
   induction n with
   | zero =>
    intro l2 base2 S0 b rest K2 hl2 _ _ _ _ _ hS _ _;refine ⟨⟨S0,rfl,fun s hs=>⟨(hS s hs).2,by have:=(hS s hs).1;simp only [Zc,List.length_nil];omega⟩⟩,fun j=>?_⟩;simp only [Zc,runK,List.length_nil,List.map_nil,List.append_nil];rw [if_neg (by omega)]
    split <;> rfl
   | succ n ihn =>
    intro l2 base2 S0 b rest K2 hl2 hr2 h2 hN2 hb hbb hS hrst hSc;cases l2 with
    | nil =>
      refine ⟨⟨S0,rfl,fun s hs=>⟨(hS s hs).2,by have:=(hS s hs).1;simp only [Zc,List.length_nil];omega⟩⟩,fun j=>?_⟩;simp only [Zc,runK,List.length_nil,List.map_nil,List.append_nil];rw [if_neg (by omega)]
      split <;> rfl
    | cons y l2 =>
      obtain ⟨g1,g2,g3,g4⟩:=hr2.group;obtain ⟨s1,s2,s3,s4⟩:=hr2.split;have hap:=Vv (n:=p.length) (y:=y) (l:=l2);obtain ⟨A,hA⟩:∃ A,A=Xe p.length (y :: l2):=⟨_,rfl⟩
      rw [← hA] at g1 g2 g3 g4 s1 s2 s3 s4 hap;obtain ⟨e,he⟩:∃ e,e=lcpN y.1 (Jr ((y :: l2).take A)):=⟨_,rfl⟩
      rw [← he] at g1 g2 g3 g4;have hlen:(y.1.take e).length=e:=by rw [List.length_take];omega
      obtain ⟨A',hA'⟩:∃ A',A=A' + 1:=⟨A - 1,by omega⟩
      have hg:(y :: l2).take A=y :: l2.take A':=by rw [hA',List.take_succ_cons]
      have hgne:(y :: l2).take A≠[]:=by rw [hg];simp
      obtain ⟨sub,hsub⟩:∃ sub,sub=plan k ((y :: l2).take A) e base2:=⟨_,rfl⟩
      have hstep:Zc (plan k) (n + 1) (y :: l2) p.length base2=(((y.1.drop p.length).take (e - p.length),base2) :: (Zc (plan k) n ((y :: l2).drop A) p.length (base2 + sub.length)).1,sub ++ (Zc (plan k) n ((y :: l2).drop A) p.length (base2 + sub.length)).2):=by
       rw [hsub,he,hA];rfl
      have hnstep:Jq (Qe k) (n + 1) (y :: l2) p.length=Qe k ((y :: l2).take A) e ++ Jq (Qe k) n ((y :: l2).drop A) p.length:=by rw [he,hA];rfl
      have hnl:(Qe k ((y :: l2).take A) e).length=sub.length:=by rw [hsub];exact Ww k _ _ _
      rw [hnstep] at hN2;have hNO:=Hs k ((y :: l2).take A) (y.1.take e) hgne g4 (fun x hx=>h2 x (List.mem_of_mem_take hx)) (by rw [hlen];omega);rw [hlen] at hNO;obtain ⟨cy,sy,ey⟩:=hr2.pre y (List.mem_cons_self ..);have hcy:y.1.getD p.length 0=cy:=by rw [ey,Hi]
      have hpe:p ++ [cy] <+: y.1.take e:=by
       rw [ey];obtain ⟨e',rfl⟩:∃ e',e=p.length + 1 + e':=⟨e - (p.length + 1),by omega⟩
       refine ⟨sy.take e',?_⟩;rw [List.take_append,List.take_of_length_le (l:=p) (by omega),show p.length + 1 + e' - p.length=e' + 1 by omega,List.take_succ_cons,List.append_assoc];rfl
      have hNa:∀ j,j < (Qe k ((y :: l2).take A) e).length→N.getD (base2 + j) []=(Qe k ((y :: l2).take A) e).getD j []:=fun j hj=>by
       rw [hN2 j (by rw [List.length_append];omega)];simp only [List.getD_eq_getElem?_getD];rw [List.getElem?_append_left hj]
      have hNb:∀ j,j < (Jq (Qe k) n ((y :: l2).drop A) p.length).length→N.getD (base2 + sub.length + j) []=(Jq (Qe k) n ((y :: l2).drop A) p.length).getD j []:=fun j hj=>by
       have:=hN2 (sub.length + j) (by rw [List.length_append];omega)
       rw [← Nat.add_assoc] at this;rw [this];simp only [List.getD_eq_getElem?_getD];rw [List.getElem?_append_right (by omega),hnl,Nat.add_sub_cancel_left]
      have hpop:popN N (y.1.take e) (S0 ++ b :: rest)=b :: rest:=pop_step hpe hb S0 (fun s hs=>by
       obtain ⟨c,h1,h3⟩:=hSc s hs y (List.mem_cons_self ..);rw [hcy] at h3;exact ⟨c,h1,by omega⟩)
      have W:=ih ((y :: l2).take A) (y.1.take e) base2 (S0 ++ b :: rest) K2 hgne g4 (fun x hx=>h2 x (List.mem_of_mem_take hx)) (by rw [hlen];omega) (by rw [hlen];exact hNa) (fun s hs=>by
       rcases List.mem_append.1 hs with h | h
       ·exact (hS s h).1
       ·rcases List.mem_cons.1 h with h | h
        ·rw [h];exact hbb
        ·have:=hrst s h;omega)
      rw [hlen,← hsub,hpop] at W;obtain ⟨⟨S1,hS1,hS1b⟩,hK1⟩:=W;obtain ⟨st1,hst1⟩:∃ st,st=runK N sub.length base2 (S0 ++ b :: rest,K2):=⟨_,rfl⟩
      rw [← hst1] at hS1 hK1;have hst1':st1=((S1 ++ [base2]) ++ b :: rest,st1.2):=by
       refine Prod.ext ?_ rfl
       simp only [];rw [hS1,List.append_assoc];rfl
      have hsubpos : 1≤sub.length:=by
       rw [← hnl]
       have:=(hNO.mem (y.1.take e)).2 (.inl rfl)
       exact List.length_pos_of_mem this
      have hdl:((y :: l2).drop A).length≤n:=by rw [List.length_drop];have:(y :: l2).length=l2.length + 1:=rfl;omega
      have R:=ihn ((y :: l2).drop A) (base2 + sub.length) (S1 ++ [base2]) b rest st1.2 hdl s4 (fun x hx=>h2 x (List.mem_of_mem_drop hx)) hNb hb (by omega) (fun s hs=>by
       rcases List.mem_append.1 hs with h | h
       ·have:=hS1b s h;omega
       ·rw [List.mem_singleton.1 h];omega) hrst (fun s hs z hz=>by
       have hin:base2≤s∧s < base2 + sub.length:=by
        rcases List.mem_append.1 hs with h | h
        ·have:=hS1b s h;omega
        ·rw [List.mem_singleton.1 h];omega
       refine ⟨cy,?_,by have:=s2 z hz;rw [hcy] at this;exact this⟩;have hj:s - base2 < (Qe k ((y :: l2).take A) e).length:=by omega
       have h3:=hNa (s - base2) hj;rw [show base2 + (s - base2)=s by omega] at h3;rw [h3,List.getD_eq_getElem?_getD,List.getElem?_eq_getElem hj];exact hpe.trans (hNO.pre _ (List.getElem_mem hj)))
      rw [← hst1'] at R;have hrun:runK N (Zc (plan k) (n + 1) (y :: l2) p.length base2).2.length base2 (S0 ++ b :: rest,K2)=runK N (Zc (plan k) n ((y :: l2).drop A) p.length (base2 + sub.length)).2.length (base2 + sub.length) st1:=by
       rw [hstep];simp only [List.length_append];rw [Rj,← hst1]
      obtain ⟨⟨S2,hS2,hS2b⟩,hK2⟩:=R;rw [hrun];refine ⟨⟨S2,hS2,fun s hs=>?_⟩,fun j=>?_⟩
      ·have:=hS2b s hs
       rw [hstep];simp only [List.length_append];omega
      ·rw [hK2 j,hK1 j,hstep]
       simp only [List.length_append,List.head?_cons,Option.some.injEq];by_cases c1:base2 + sub.length≤j∧j < base2 + sub.length + (Zc (plan k) n ((y :: l2).drop A) p.length (base2 + sub.length)).2.length
       ·rw [if_pos c1,if_neg (by omega),if_neg (by omega),if_pos (by omega),kidsAt_right (by omega),show j - base2 - sub.length=j - (base2 + sub.length) by omega]
       ·rw [if_neg c1]
        by_cases c2:j=b
        ·rw [if_pos c2,if_neg (by omega),if_pos c2.symm,if_neg (by omega),if_pos c2]
         rw [List.append_assoc];rfl
        ·rw [if_neg c2]
         by_cases c3:base2≤j∧j < base2 + sub.length
         ·rw [if_pos c3,if_pos (by omega),kidsAt_left (by omega)]
         ·rw [if_neg c3,if_neg (fun h=>c2 h.symm),if_neg (by omega),if_neg c2]
  obtain ⟨r,hr'⟩:∃ r,r=Zc (plan k) (Xw p.length l).length (Xw p.length l) p.length (base + 1):=⟨_,rfl⟩
  have hplan:plan (k + 1) l p.length base=⟨ownN p.length l,r.1⟩ :: r.2:=by rw [hr'];rfl
  have hhead:(Mf l).take p.length=p:=by
   cases l with
   | nil=>exact absurd rfl hl
   | cons y l =>
    obtain ⟨s,hs⟩:=hr.pre y (List.mem_cons_self ..);show y.1.take p.length=p
    rw [hs,List.take_left]
  have hA:Qe (k + 1) l p.length=p :: Jq (Qe k) (Xw p.length l).length (Xw p.length l) p.length:=by
   show (Mf l).take p.length :: _=_
   rw [hhead]
  rw [hA] at hN;have hNb:N.getD base []=p:=by
   have:=hN 0 (by simp)
   simpa using this
  have R:=kidsR (Xw p.length l).length (Xw p.length l) (base + 1) [] base (popN N p o) (Tv N base (o,K)).2 (Nat.le_refl _) hrl (fun y hy=>h255 y (hrest y hy)) (fun j hj=>by
   have:=hN (j + 1) (by simp only [List.length_cons];omega)
   rw [show base + (j + 1)=base + 1 + j by omega] at this;simpa using this) hNb (by omega) (fun s hs=>by cases hs) (fun s hs=>ho s ((List.dropWhile_sublist _).mem hs)) (fun s hs=>by cases hs)
  rw [← hr'] at R;have hrun:runK N (plan (k + 1) l p.length base).length base (o,K)=runK N r.2.length (base + 1) ([] ++ base :: popN N p o,(Tv N base (o,K)).2):=by
   rw [hplan];show runK N r.2.length (base + 1) (Tv N base (o,K))=_
   congr 1
   refine Prod.ext ?_ rfl
   show base :: popN N (N.getD base []) o=_
   rw [hNb];rfl
  rw [hrun,hplan];obtain ⟨⟨S,hS,hSb⟩,hK⟩:=R;refine ⟨⟨S,hS,fun s hs=>by have:=hSb s hs;simp only [List.length_cons];omega⟩,fun j=>?_⟩;rw [hK j];simp only [List.length_cons];have hst:(Tv N base (o,K)).2 j=if (popN N p o).head?=some j then K j ++ [base] else K j:=by
   unfold Tv;simp only [];rw [hNb];cases hp:popN N p o with
   | nil=>simp
   | cons u t =>
    simp only [List.head?_cons,Option.some.injEq];by_cases c:j=u
    · rw [if_pos c,if_pos c.symm]
    · rw [if_neg c,if_neg (fun h=>c h.symm)]
  have hbo:(popN N p o).head?≠some base∧∀ j,base≤j→(popN N p o).head?≠some j:=by
   have:∀ j,base≤j→(popN N p o).head?≠some j:=by
    intro j hj h;have hm:j∈popN N p o:=List.mem_of_head? h
    have:=ho j ((List.dropWhile_sublist _).mem hm)
    omega
   exact ⟨this base (Nat.le_refl _),this⟩
  by_cases c1:base + 1≤j∧j < base + 1 + r.2.length
  ·rw [if_pos c1,if_pos (by omega),hst,if_neg (hbo.2 j (by omega))]
   obtain ⟨i,rfl⟩:∃ i,j=base + 1 + i:=⟨j - (base + 1),by omega⟩
   rw [show base + 1 + i - (base + 1)=i by omega,show base + 1 + i - base=i + 1 by omega];unfold K0;rw [List.getElem?_cons_succ]
  ·rw [if_neg c1]
   by_cases c2:j=base
   ·rw [if_pos c2,if_pos (by omega),hst,if_neg (by rw [c2];exact hbo.1),c2,Nat.sub_self]
    unfold K0;rfl
   ·rw [if_neg c2,if_neg (by omega),hst]
def Jb:List (List Int)→List PN→Out
 | q :: N,nd :: nodes=>(match nd.says with
  | none=>[]
  | some x=>[(q,x)]) ++ Jb N nodes
 | _,_=>[]
theorem W7:∀ {A:List (List Int)} {a:List PN} (B:List (List Int)) (b:List PN),A.length=a.length→Jb (A ++ B) (a ++ b)=Jb A a ++ Jb B b
 | [],[],B,b,_=>by simp [Jb]
 | [],_ :: _,_,_,h=>by simp at h
 | _ :: _,[],_,_,h=>by simp at h
 | q :: A,nd :: a,B,b,h=>by
  simp only [List.cons_append,Jb];rw [W7 B b (by simpa using h),List.append_assoc]
theorem owns_plan:∀ (k:Nat) (l:Out) (p:List Int) (base:Nat),l≠[]→Rise p l→(∀ y∈l,y.1.length≤255)→257≤k + p.length→Jb (Qe k l p.length) (plan k l p.length base)=l:=by
 intro k
 induction k with
 | zero =>
  intro l p base hl hr h255 hk;cases l with
  | nil=>exact absurd rfl hl
  | cons y l =>
   obtain ⟨s,hs⟩:=hr.pre y (List.mem_cons_self ..);have h1:=h255 y (List.mem_cons_self ..);rw [hs,List.length_append] at h1;omega
 | succ k ih =>
  intro l p base hl hr h255 hk;obtain ⟨hrl,hown⟩:=hr.own hl;have hrest:∀ y∈Xw p.length l,y∈l:=by
   intro y hy;cases ho:ownN p.length l with
   | none=>rw [ho] at hown;rw [← hown];exact hy
   | some x=>rw [ho] at hown;rw [hown];exact List.mem_cons_of_mem _ hy
  have kidsO:∀ (n:Nat) (l2:Out) (base2:Nat),l2.length≤n→Va p l2→(∀ y∈l2,y.1.length≤255)→Jb (Jq (Qe k) n l2 p.length) (Zc (plan k) n l2 p.length base2).2=l2:=by
   intro n
   induction n with
   | zero =>
    intro l2 base2 hl2 _ _
    have:l2=[]:=List.eq_nil_of_length_eq_zero (by omega)
    subst this;rfl
   | succ n ihn =>
    intro l2 base2 hl2 hr2 h2;cases l2 with
    | nil=>rfl
    | cons y l2 =>
     obtain ⟨g1,g2,g3,g4⟩:=hr2.group;obtain ⟨-,-,-,s4⟩:=hr2.split;have hap:=Vv (n:=p.length) (y:=y) (l:=l2);obtain ⟨A,hA⟩:∃ A,A=Xe p.length (y :: l2):=⟨_,rfl⟩
     rw [← hA] at g1 g2 g3 g4 s4 hap;obtain ⟨e,he⟩:∃ e,e=lcpN y.1 (Jr ((y :: l2).take A)):=⟨_,rfl⟩
     rw [← he] at g1 g2 g3 g4;have hlen:(y.1.take e).length=e:=by rw [List.length_take];omega
     have hgne:(y :: l2).take A≠[]:=by
      obtain ⟨A',rfl⟩:∃ A',A=A' + 1:=⟨A - 1,by omega⟩
      simp
     have hdl:((y :: l2).drop A).length≤n:=by rw [List.length_drop];have:(y :: l2).length=l2.length + 1:=rfl;omega
     have W:=ih ((y :: l2).take A) (y.1.take e) base2 hgne g4 (fun x hx=>h2 x (List.mem_of_mem_take hx)) (by rw [hlen];omega);rw [hlen] at W;have R:=ihn ((y :: l2).drop A) (base2 + (plan k ((y :: l2).take A) e base2).length) hdl s4 (fun x hx=>h2 x (List.mem_of_mem_drop hx));have hstep:(Zc (plan k) (n + 1) (y :: l2) p.length base2).2=plan k ((y :: l2).take A) e base2 ++ (Zc (plan k) n ((y :: l2).drop A) p.length (base2 + (plan k ((y :: l2).take A) e base2).length)).2:=by
      rw [he,hA];rfl
     have hnstep:Jq (Qe k) (n + 1) (y :: l2) p.length=Qe k ((y :: l2).take A) e ++ Jq (Qe k) n ((y :: l2).drop A) p.length:=by rw [he,hA];rfl
     rw [hstep,hnstep,W7 _ _ (Ww k _ _ _),W,R,List.take_append_drop]
  have hhead:(Mf l).take p.length=p:=by
   cases l with
   | nil=>exact absurd rfl hl
   | cons y l =>
    obtain ⟨s,hs⟩:=hr.pre y (List.mem_cons_self ..);show y.1.take p.length=p
    rw [hs,List.take_left]
  have K:=kidsO (Xw p.length l).length (Xw p.length l) (base + 1) (Nat.le_refl _) hrl (fun y hy=>h255 y (hrest y hy));show Jb ((Mf l).take p.length :: _) (⟨ownN p.length l,_⟩ :: _)=l
  rw [hhead];simp only [Jb];rw [K];cases ho:ownN p.length l with
  | none=>rw [ho] at hown;simp only [] at hown ⊢;rw [hown];rfl
  | some x=>rw [ho] at hown;simp only [] at hown ⊢;rw [List.singleton_append];exact hown.symm
theorem own_at:∀ {N:List (List Int)} {nodes:List PN} (i:Nat),N.length=nodes.length→(N.Pairwise fun a b=>nmLt a b=true)→∀ q nd,N[i]?=some q→nodes[i]?=some nd →
  (∀ x,nd.says=some x→(Jb N nodes)[(Jb (N.take i) (nodes.take i)).length]?=some (q,x))∧(nd.says=none→∀ y,(Jb N nodes)[(Jb (N.take i) (nodes.take i)).length]?=some y→y.1≠q):=by
 intro N nodes i hlen hup q nd hq hnd;obtain ⟨hi,eq⟩:=List.getElem?_eq_some_iff.1 hq;obtain ⟨hi2,end'⟩:=List.getElem?_eq_some_iff.1 hnd;have hsplit:Jb N nodes=Jb (N.take i) (nodes.take i) ++ Jb (N.drop i) (nodes.drop i):=by
  have:=W7 (A:=N.take i) (a:=nodes.take i) (N.drop i) (nodes.drop i) (by rw [List.length_take,List.length_take];omega)
  rw [List.take_append_drop,List.take_append_drop] at this;exact this
 have hd1:N.drop i=q :: N.drop (i + 1):=by rw [List.drop_eq_getElem_cons hi,eq]
 have hd2:nodes.drop i=nd :: nodes.drop (i + 1):=by rw [List.drop_eq_getElem_cons hi2,end']
 have hmem:∀ {A:List (List Int)} {a:List PN} (y:List Int × Ex),y∈Jb A a→y.1∈A:=by
  intro A
  induction A with
  | nil=>intro a y h;simp [Jb] at h
  | cons b A ihA =>
    intro a y h;cases a with
    | nil=>simp [Jb] at h
    | cons c a =>
     simp only [Jb] at h;rcases List.mem_append.1 h with h | h
     ·cases hs:c.says with
      | none=>rw [hs] at h;cases h
      | some x=>rw [hs] at h;rw [List.mem_singleton.1 h];exact List.mem_cons_self ..
     ·exact List.mem_cons_of_mem _ (ihA y h)
 rw [hsplit,List.getElem?_append_right (Nat.le_refl _),Nat.sub_self,hd1,hd2];simp only [Jb];refine ⟨fun x hx=>by rw [hx];rfl,fun hx y hy=>?_⟩;rw [hx] at hy;have hy':y∈Jb (N.drop (i + 1)) (nodes.drop (i + 1)):=List.mem_of_getElem? hy
 have h1:=hmem y hy';have hp:=hup.sublist (List.drop_sublist i N);rw [hd1] at hp
 have:=(List.pairwise_cons.1 hp).1 y.1 h1
 intro e;rw [e,Z9] at this;cases this
theorem edges_plan (N:List (List Int)):∀ (k:Nat) (l:Out) (p:List Int) (base:Nat),l≠[]→Rise p l→(∀ y∈l,y.1.length≤255)→257≤k + p.length→(∀ j,j < (Qe k l p.length).length→N.getD (base + j) []=(Qe k l p.length).getD j []) →
  N.getD base []=p∧∀ i nd,(plan k l p.length base)[i]?=some nd→∀ x∈nd.kids,base + i < x.2∧x.2 < base + (plan k l p.length base).length∧N.getD x.2 []=N.getD (base + i) [] ++ x.1:=by
 intro k
 induction k with
 | zero =>
  intro l p base hl hr h255 hk;cases l with
  | nil=>exact absurd rfl hl
  | cons y l =>
   obtain ⟨s,hs⟩:=hr.pre y (List.mem_cons_self ..);have h1:=h255 y (List.mem_cons_self ..);rw [hs,List.length_append] at h1;omega
 | succ k ih =>
  intro l p base hl hr h255 hk hN;obtain ⟨hrl,hown⟩:=hr.own hl;have hrest:∀ y∈Xw p.length l,y∈l:=by
   intro y hy;cases ho:ownN p.length l with
   | none=>rw [ho] at hown;rw [← hown];exact hy
   | some x=>rw [ho] at hown;rw [hown];exact List.mem_cons_of_mem _ hy
  have kidsE:∀ (n:Nat) (l2:Out) (base2:Nat),l2.length≤n→Va p l2→(∀ y∈l2,y.1.length≤255)→(∀ j,j < (Jq (Qe k) n l2 p.length).length→N.getD (base2 + j) []=(Jq (Qe k) n l2 p.length).getD j []) →
    (∀ x∈(Zc (plan k) n l2 p.length base2).1,base2≤x.2∧x.2 < base2 + (Zc (plan k) n l2 p.length base2).2.length∧N.getD x.2 []=p ++ x.1) ∧
    ∀ i nd,(Zc (plan k) n l2 p.length base2).2[i]?=some nd→∀ x∈nd.kids,base2 + i < x.2∧x.2 < base2 + (Zc (plan k) n l2 p.length base2).2.length∧N.getD x.2 []=N.getD (base2 + i) [] ++ x.1:=by
   intro n
   induction n with
   | zero=>intro l2 base2 _ _ _ _;exact ⟨fun x hx=>(by cases hx),fun i nd h=>by simp [Zc] at h⟩
   | succ n ihn =>
    intro l2 base2 hl2 hr2 h2 hN2;cases l2 with
    | nil=>exact ⟨fun x hx=>(by cases hx),fun i nd h=>by simp [Zc] at h⟩
    | cons y l2 =>
      obtain ⟨g1,g2,g3,g4⟩:=hr2.group;obtain ⟨-,-,-,s4⟩:=hr2.split;have hap:=Vv (n:=p.length) (y:=y) (l:=l2);obtain ⟨A,hA⟩:∃ A,A=Xe p.length (y :: l2):=⟨_,rfl⟩
      rw [← hA] at g1 g2 g3 g4 s4 hap;obtain ⟨e,he⟩:∃ e,e=lcpN y.1 (Jr ((y :: l2).take A)):=⟨_,rfl⟩
      rw [← he] at g1 g2 g3 g4;have hlen:(y.1.take e).length=e:=by rw [List.length_take];omega
      have hgne:(y :: l2).take A≠[]:=by
       obtain ⟨A',rfl⟩:∃ A',A=A' + 1:=⟨A - 1,by omega⟩
       simp
      have hdl:((y :: l2).drop A).length≤n:=by rw [List.length_drop];have:(y :: l2).length=l2.length + 1:=rfl;omega
      obtain ⟨sub,hsub⟩:∃ sub,sub=plan k ((y :: l2).take A) e base2:=⟨_,rfl⟩
      have hstep:Zc (plan k) (n + 1) (y :: l2) p.length base2=(((y.1.drop p.length).take (e - p.length),base2) :: (Zc (plan k) n ((y :: l2).drop A) p.length (base2 + sub.length)).1,sub ++ (Zc (plan k) n ((y :: l2).drop A) p.length (base2 + sub.length)).2):=by
       rw [hsub,he,hA];rfl
      have hnstep:Jq (Qe k) (n + 1) (y :: l2) p.length=Qe k ((y :: l2).take A) e ++ Jq (Qe k) n ((y :: l2).drop A) p.length:=by rw [he,hA];rfl
      have hnl:(Qe k ((y :: l2).take A) e).length=sub.length:=by rw [hsub];exact Ww k _ _ _
      rw [hnstep] at hN2;have hNa:∀ j,j < (Qe k ((y :: l2).take A) e).length→N.getD (base2 + j) []=(Qe k ((y :: l2).take A) e).getD j []:=fun j hj=>by
       rw [hN2 j (by rw [List.length_append];omega)];simp only [List.getD_eq_getElem?_getD];rw [List.getElem?_append_left hj]
      have hNb:∀ j,j < (Jq (Qe k) n ((y :: l2).drop A) p.length).length→N.getD (base2 + sub.length + j) []=(Jq (Qe k) n ((y :: l2).drop A) p.length).getD j []:=fun j hj=>by
       have:=hN2 (sub.length + j) (by rw [List.length_append];omega)
       rw [← Nat.add_assoc] at this;rw [this];simp only [List.getD_eq_getElem?_getD];rw [List.getElem?_append_right (by omega),hnl,Nat.add_sub_cancel_left]
      have W:=ih ((y :: l2).take A) (y.1.take e) base2 hgne g4 (fun x hx=>h2 x (List.mem_of_mem_take hx)) (by rw [hlen];omega) (by rw [hlen];exact hNa);rw [hlen,← hsub] at W;have R:=ihn ((y :: l2).drop A) (base2 + sub.length) hdl s4 (fun x hx=>h2 x (List.mem_of_mem_drop hx)) hNb;have hname:p ++ (y.1.drop p.length).take (e - p.length)=y.1.take e:=by
       obtain ⟨c,s,e1⟩:=hr2.pre y (List.mem_cons_self ..);rw [e1,List.drop_left,List.take_append,List.take_of_length_le (l:=p) (by omega)]
      have hsubpos : 1≤sub.length:=by
       have hNO:=Hs k ((y :: l2).take A) (y.1.take e) hgne g4 (fun x hx=>h2 x (List.mem_of_mem_take hx)) (by rw [hlen];omega);rw [hlen] at hNO;rw [← hnl];exact List.length_pos_of_mem ((hNO.mem (y.1.take e)).2 (.inl rfl))
      rw [hstep];simp only [List.length_append];refine ⟨fun x hx=>?_,fun i nd h=>?_⟩
      ·rcases List.mem_cons.1 hx with e1 | hx
       ·rw [e1]
        exact ⟨Nat.le_refl _,by omega,by rw [hname];exact W.1⟩
       ·have:=R.1 x hx
        exact ⟨by omega,by omega,this.2.2⟩
      ·rcases Nat.lt_or_ge i sub.length with hi | hi
       ·rw [List.getElem?_append_left hi] at h
        intro x hx
        have:=W.2 i nd h x hx
        exact ⟨this.1,by omega,this.2.2⟩
       ·rw [List.getElem?_append_right hi] at h
        intro x hx
        have:=R.2 _ nd h x hx
        rw [show base2 + sub.length + (i - sub.length)=base2 + i by omega] at this;exact ⟨this.1,by omega,this.2.2⟩
  have hhead:(Mf l).take p.length=p:=by
   cases l with
   | nil=>exact absurd rfl hl
   | cons y l =>
    obtain ⟨s,hs⟩:=hr.pre y (List.mem_cons_self ..);show y.1.take p.length=p
    rw [hs,List.take_left]
  have hA:Qe (k + 1) l p.length=p :: Jq (Qe k) (Xw p.length l).length (Xw p.length l) p.length:=by
   show (Mf l).take p.length :: _=_
   rw [hhead]
  rw [hA] at hN;have hNb:N.getD base []=p:=by
   have:=hN 0 (by simp)
   simpa using this
  have K:=kidsE (Xw p.length l).length (Xw p.length l) (base + 1) (Nat.le_refl _) hrl (fun y hy=>h255 y (hrest y hy)) (fun j hj=>by
   have:=hN (j + 1) (by simp only [List.length_cons];omega)
   rw [show base + (j + 1)=base + 1 + j by omega] at this;simpa using this)
  refine ⟨hNb,fun i nd h=>?_⟩;obtain ⟨r,hr'⟩:∃ r,r=Zc (plan k) (Xw p.length l).length (Xw p.length l) p.length (base + 1):=⟨_,rfl⟩
  have hplan:plan (k + 1) l p.length base=⟨ownN p.length l,r.1⟩ :: r.2:=by rw [hr'];rfl
  rw [← hr'] at K;rw [hplan] at h ⊢;simp only [List.length_cons];cases i with
  | zero =>
   simp only [List.getElem?_cons_zero,Option.some.injEq] at h;subst h;intro x hx
   have:=K.1 x hx
   rw [Nat.add_zero,hNb];exact ⟨by omega,by omega,this.2.2⟩
  | succ i =>
   rw [List.getElem?_cons_succ] at h;intro x hx
   have:=K.2 i nd h x hx
   rw [show base + 1 + i=base + (i + 1) by omega] at this;exact ⟨this.1,by omega,this.2.2⟩
section
variable {w w' W V:World} {xs:List Int}
theorem Xk.at {q:Option Addr} {D:Out} (h:Xk w q D) {i:Nat} {y:List Int × Ex} (hy:D[i]?=some y):∃ g,q=some ⟨g,0,none⟩∧w.cell? ⟨g,i * 7,none⟩=some (.string (strOfNums y.1))∧w.cell? ⟨g,i * 7 + 1,none⟩=some (.int .i64 y.2.kind)∧w.cell? ⟨g,i * 7 + 2,none⟩=some (.bool y.2.weak) ∧
  w.cell? ⟨g,i * 7 + 3,none⟩=some (.int .u64 y.2.value)∧w.cell? ⟨g,i * 7 + 4,none⟩=some (.int .u64 y.2.resolver)∧w.cell? ⟨g,i * 7 + 5,none⟩=some (.int .u64 y.2.ordinal)∧w.cell? ⟨g,i * 7 + 6,none⟩=some (.string (strOfNums y.2.other)):=by
 obtain ⟨g,e,hc⟩:=h i y hy;exact ⟨g,e,hc 0 (by decide),hc 1 (by decide),hc 2 (by decide),hc 3 (by decide),hc 4 (by decide),hc 5 (by decide),hc 6 (by decide)⟩
theorem same9_any (D:Out) (n:Nat) (hn:D.length=n) (q1 q2:Option Addr) (c1 c2:Nat) (hm:n≤9223372036854775807) (h1:Xk w q1 D) (h2:Xk w q2 D) :
  Calls Tryz.prog 14 #[.slice q1 n c1,.slice q2 n c2] w fun e w'=>e=.returned (.bool true)∧w.grownBy w' none:=by
 have P:=Lv h1;have Q:=Lv h2;have HN:=Lv hn;clear h1 h2 hn;go_enter Tryz.func14,Tryz.ntmps14;go_wp2;go_loopw [5] (fun i wr=>∃ k:Nat,k≤n∧i=.int .i64 k∧w.grownBy wr none) (fun i _=>n - (intOf i).toNat)
 case atStart=>exact ⟨0,Nat.zero_le _,rfl,Qq _ _⟩
 case round =>
  obtain ⟨k,hk,rfl,hg⟩:=hrel;by_cases hlt:k < n
  ·obtain ⟨y,hy⟩:∃ y,D[k]?=some y:=⟨_,List.getElem?_eq_getElem (by rw [HN.o];exact hlt)⟩
   obtain ⟨g,rfl,a0,a1,a2,a3,a4,a5,a6⟩:=(P.o.grown hg).at hy;obtain ⟨g',rfl,b0,b1,b2,b3,b4,b5,b6⟩:=(Q.o.grown hg).at hy;have G:=Lv hg;clear hy hg;go_wp2;go_quiet (fail);go_wp2;go_roundw
   case rel=>exact ⟨k + 1,hlt,by go_num,Qj G.o _⟩
   case measure=>simp [intOf];omega
  ·have G:=Lv hg
   clear hg;go_wp2;go_ret
   exact ⟨rfl,G.o⟩
end
theorem bytesLess_is:∀ (a b:List UInt8),Op.bytesLess a b=nmLt (a.map fun u=>(u.toNat:Int)) (b.map fun u=>(u.toNat:Int))
 | [],[]=>rfl
 | _ :: _,[]=>rfl
 | [],_ :: _=>rfl
 | x :: a,y :: b=>by
  have e1:(x < y)↔(x.toNat:Int) < (y.toNat:Int):=by rw [UInt8.lt_iff_toNat_lt];omega
  have e2:(y < x)↔(y.toNat:Int) < (x.toNat:Int):=by rw [UInt8.lt_iff_toNat_lt];omega
  have e3:(x=y)↔(x.toNat:Int)=(y.toNat:Int):=by rw [← UInt8.toNat_inj];omega
  simp only [Op.bytesLess,List.map_cons,nmLt,bytesLess_is a b];by_cases h1:x < y
  ·rw [if_pos (e1.1 h1)];simp [h1]
  ·by_cases h2:y < x
   ·have h3:¬ x=y:=fun e=>h1 (by have:=e3.1 e;have:=e2.1 h2;omega)
    rw [if_neg (fun h=>h1 (e1.2 h)),if_pos (e2.1 h2)];simp [h1,h3]
   ·have h3:x=y:=e3.2 (by have a1:¬ (x.toNat:Int) < y.toNat:=fun h=>h1 (e1.2 h);have a2:¬ (y.toNat:Int) < x.toNat:=fun h=>h2 (e2.2 h);omega)
    rw [if_neg (fun h=>h1 (e1.2 h)),if_neg (fun h=>h2 (e2.2 h))];simp [h3]
theorem less_is (a b:List Int):Op.bytesLess (strOfNums a).toList (strOfNums b).toList=nmLt (nums a) (nums b):=by
 rw [Lib.strOfNums_toList,Lib.strOfNums_toList];exact bytesLess_is _ _
theorem Mx {a b:List Int} (ha:Byt a) (hb:Byt b):((strOfNums a).toList == (strOfNums b).toList)=decide (a=b):=by
 rw [Lib.strOfNums_toList,Lib.strOfNums_toList];by_cases h:a=b
 ·subst h;simp
 ·rw [decide_eq_false h,beq_eq_false_iff_ne]
  intro e;apply h
  rw [← Jv ha,← Jv hb];unfold nums;rw [e]
theorem nums_same {a b:List Int}:((strOfNums a).toList == (strOfNums b).toList)=decide (nums a=nums b):=by
 rw [Lib.strOfNums_toList,Lib.strOfNums_toList];by_cases h:nums a=nums b
 ·rw [decide_eq_true h,beq_iff_eq]
  unfold nums at h;exact List.map_inj_right (fun x y e=>by apply UInt8.toNat_inj.1;exact Int.ofNat_inj.1 e) |>.1 h
 ·rw [decide_eq_false h,beq_eq_false_iff_ne]
  intro e;apply h
  unfold nums;rw [e]
theorem le_is (a b:List Int):(Op.bytesLess (strOfNums a).toList (strOfNums b).toList || ((strOfNums a).toList == (strOfNums b).toList))=!nmLt (nums b) (nums a):=by
 rw [less_is,nums_same];cases h1:nmLt (nums a) (nums b) with
 | true =>
  cases h2:nmLt (nums b) (nums a) with
  | false=>rfl
  | true=>have:=J0 h1 h2;rw [Z9] at this;cases this
 | false =>
  by_cases h:nums a=nums b
  ·rw [decide_eq_true h,h,Z9];rfl
  ·rw [decide_eq_false h]
   cases h2:nmLt (nums b) (nums a) with
   | false=>exact absurd (Vy h1 h2) h
   | true=>rfl
def Jl (x:Int):List Value:=[.int .i64 x]
theorem Wh:Kx Tryz.prog 3 80 1 8:=.mk' Tryz.underlying80 (z:=.int .i64 0) (by kernel_rfl) rfl (by decide)
def Kq (w:World) (q:Option Addr) (l:List Int):Prop:=∀ i x,l[i]?=some x→∃ g,q=some ⟨g,0,none⟩∧w.cell? ⟨g,i,none⟩=some (.int .i64 x)
theorem Kq.nil {q:Option Addr}:Kq w q []:=fun i x h=>by simp at h
theorem Kq.of {lo n c:Nat} {q:Option Addr} {l:List Int} (h:w.ownsRow lo 3 1 (.slice q n c) n (l.flatMap Jl)):Kq w q l:=fun i x hx=>by
 obtain ⟨g,e,h0⟩:=Jz (f:=Jl) (k:=1) (fun _=>rfl) h hx (j:=0) (by decide);refine ⟨g,e,?_⟩;rw [Nat.mul_one,Nat.add_zero] at h0;exact h0
theorem Kq.chg {F:Nat→Prop} {q:Option Addr} {l:List Int} (h:Kq W q l) (hg:Chg F W V) (hf:∀ g o,q=some ⟨g,o,none⟩→¬ F g):Kq V q l:=fun i x hx=>by
 obtain ⟨g,e,c0⟩:=h i x hx;exact ⟨g,e,Je c0 hg (hf g 0 e)⟩
theorem Kq.grown {q:Option Addr} {l:List Int} (h:Kq w q l) (hg:w.grownBy w' none):Kq w' q l:=fun i x hx=>by
 obtain ⟨g,e,c0⟩:=h i x hx;exact ⟨g,e,Qv hg c0⟩
theorem has_any (l:List Int) (n:Nat) (hn:l.length=n) (hl:n≤9223372036854775807) (q:Option Addr) (c:Nat) (hr:Kq w q l) (p:Int) :
  Calls Tryz.prog 75 #[.slice q n c,.int .i64 p] w fun e w'=>e=.returned (.bool (decide (p∈l)))∧w'=w:=by
 subst hn;have RR:=Lv hr;clear hr;go_enter Tryz.func75,Tryz.ntmps75;go_wp2;go_loop [5] (fun i=>∃ k:Nat,k≤l.length∧i=.int .i64 k∧∀ j y,j < k→l[j]?=some y→p≠y) (fun i=>l.length - (intOf i).toNat)
 case atStart=>exact ⟨0,Nat.zero_le _,rfl,fun i y h=>by omega⟩
 case round =>
  obtain ⟨k,hk,rfl,hno⟩:=hrel;have NO:=Lv hno;by_cases hlt:k < l.length
  ·obtain ⟨x,hx⟩:∃ x,l[k]?=some x:=⟨_,List.getElem?_eq_getElem hlt⟩
   obtain ⟨gq,rfl,c0⟩:=RR.o k x hx;have dl:decide ((k:Int) < (l.length:Int))=true:=by simp;omega
   have hkl:(k:Int) < (l.length:Int):=by omega
   have HX:=Lv hx;have HM:=Lv (List.mem_of_getElem? hx);clear hx hno;by_cases he:x=p
   ·have de:(x == p)=true:=by simpa using he
    have HE:=Lv (show p∈l by rw [← he];exact HM.o);generalize l.length=N at *;clear he;go_wp2;go_ret
    exact ⟨by rw [decide_eq_true HE.o];rfl,rfl⟩
   ·have de:(x == p)=false:=by simpa using he
    have HE:=Lv he;generalize l.length=N at *;clear he;go_wp2;go_round
    case rel =>
     refine ⟨k + 1,hlt,by go_num,fun i y hi hy=>?_⟩;rcases Nat.lt_or_ge i k with h | h
     ·exact NO.o i y h hy
     ·obtain rfl:i=k:=by omega
      rw [HX.o] at hy;injection hy with hy;rw [← hy];exact fun e=>HE.o e.symm
    case measure=>simp [intOf];omega
  ·have NA:=Lv (show ¬ p∈l from fun h=>by
    obtain ⟨i,hi,e⟩:=List.getElem_of_mem h;exact hno i _ (by omega) (List.getElem?_eq_getElem hi) e.symm)
   have dl:decide ((k:Int) < (l.length:Int))=false:=by simp;omega
   clear hno;generalize l.length=N at *;go_wp2;go_ret
   exact ⟨by rw [decide_eq_false NA.o];rfl,rfl⟩
theorem run_append_no {T TS:TypeId} {k by' base:Nat} (st:Kx Tryz.prog T TS k by') (v:Value) (n c:Nat) (ys:List Value) (h:w.ownsRow base T k v n ys) :
  (Builtin.append_ #[TS,TS] TS #[v,.slice none 0 c]).run Tryz.prog w=.ok v w:=by
 obtain ⟨i,z,hi,hz0,hz1,hz2,hzs⟩:=st.info;rcases h.2 with ⟨rfl,_⟩ | ⟨g,cap,cur,rfl,_,hg,hn,hm,hc,_⟩
 ·simp [Builtin.append_,run_underlying st.under,sizeOf,typeInfo,hi,Builtin.lenOf,Builtin.firstCells,Result.andThen]
 ·simp [Builtin.append_,run_underlying st.under,sizeOf,typeInfo,hi,Builtin.lenOf,hn,Builtin.firstCells,storeCells,Result.andThen]
theorem wp_append_rows {T TS:TypeId} {k by':Nat} (st:Kx Tryz.prog T TS k by') {base:Nat} {ops:Array Oper} {rest:List Oper} {o:Oper} {a:Act} {Q:Exit→Act→World→Prop} (hgd:o.guard=none) (s x:Operand)
  (ho:o.op=.call { callee:=.builtin .append,args:=#[s,x],argTypes:=#[TS,TS] }) (hty:o.type=TS)
  (v:Value) (n:Nat) (ys:List Value) (hs:a.eval s=v) (hown:w.ownsRow base T k v n ys) (q:Option Addr) (m c:Nat) (hx:a.eval x=.slice q m c) (cs:List Value) (hl:cs.length=m * k)
  (hq:∀ j u,cs[j]?=some u→∃ g o,q=some ⟨g,o,none⟩∧w.cell? ⟨g,o + j,none⟩=some u) (h1:∀ u∈cs,u.oneCell'=true)
  (h63:(n + m) * by'≤140737488355328) (hby : 0 < by') (hbase:base≤w.heap.size)
  (h:∀ v' w',w'.ownsRow base T k v' (n + m) (ys ++ cs)→w.grownBy w' v.ownBlock→(v'.ownBlock=v.ownBlock∨v'.ownBlock=some w.heap.size)→wpList Tryz.prog ops Q rest (a.put o.dst v') w'):wpList Tryz.prog ops Q (o :: rest) a w:=by
 obtain ⟨i,z,hi,hz0,hz1,hz2,hzs⟩:=st.info;cases q with
 | none =>
  have hm:cs=[]:=by
    cases cs with
    | nil=>rfl
    | cons u cs=>obtain ⟨g,o',e,_⟩:=hq 0 u rfl;cases e
  subst hm;have hm0:m=0:=by
    have:=st.pos
    simp only [List.length_nil] at hl;rcases Nat.mul_eq_zero.1 hl.symm with e | e
    ·exact e
    ·omega
  subst hm0;have hrun:=run_append_no st v n c ys hown;rw [← hty] at hrun;refine Lib.wpList_append_run_sl w hgd s x _ ho v (.slice none 0 c) hs hx (by rw [hty] at hrun ⊢;exact hrun) ?_
  exact h v w (by simpa using hown) (Qq w _) (.inl rfl)
 | some ad =>
  refine wpList_append_own_at w hgd s x _ ho base T i z k by' st.under hi hz0 hz1 hz2 hzs st.pos v n ys hs hown ad m c cs hx hl ?_ h1 (by have:=Nat.le_mul_of_pos_right (n + m) hby;unfold maxLen;omega) h63 hbase ?_
  · intro j u hu
    obtain ⟨g,o',e,hc⟩:=hq j u hu;injection e with e;subst e;rw [Xd];exact hc
  · intro v' w' h2 h3 _ h4
    exact h v' w' h2 h3 h4
theorem step_append_sta {T TS:TypeId} {k by':Nat} (st:Kx Tryz.prog T TS k by') {base:Nat} {ops:Array Oper} {o:Oper} {a:Act} {K:Act→World→Prop} {Q:Exit→Act→World→Prop} {E:Prop} (hgd:o.guard=none) (s x:Operand)
  (ho:o.op=.call { callee:=.builtin .append,args:=#[s,x],argTypes:=#[TS,TS] })
  (v:Value) (n m:Nat) (xs:List Value) (hs:a.eval s=v) (hown:w.ownsRow base T k v n xs) (cs:List Value) (hl:cs.length=m * k) (g:Nat) (hx:a.eval x=.slice (some ⟨g,0,none⟩) m m)
  (hb:w.heap[g]?=some (.cells cs.toArray T (0,0))) (h1:∀ u∈cs,u.oneCell'=true)
  (h63:(n + m) * by'≤140737488355328) (hby : 0 < by') (hbase:base≤w.heap.size)
  (h:∀ v' w',w'.ownsRow base T k v' (n + m) (xs ++ cs)→w.grownBy w' v.ownBlock→(v'.ownBlock=v.ownBlock∨v'.ownBlock=some w.heap.size)→K (a.put o.dst v') w') :
  if Region.wanted o (yielded ops a.tmps)=true then Oper.wp Tryz.prog o a w K Q else E:=by
 have hw:Region.wanted o (yielded ops a.tmps)=true:=by simp [Region.wanted,hgd]
 rw [if_pos hw];obtain ⟨i,z,hi,hz0,hz1,hz2,hzs⟩:=st.info;obtain ⟨v',w',hr,h2,h3,_,h5⟩:=run_append_own_at (P:=Tryz.prog) w base TS o.type T i z k by' st.under hi hz0 hz1 hz2 hzs st.pos v n xs hown ⟨g,0,none⟩ m m cs hl
  (by
    intro j u hu;rw [Xd,Qm hb,← hu];simp)
  h1 (by have:=Nat.le_mul_of_pos_right (n + m) hby;unfold maxLen;omega) h63 hbase
 exact Lib.wp_append_run w s x _ _ ho _ _ hs hx _ _ hr (h v' w' h2 h3 h5)
theorem Qr {w1 w2:World} {r:Option Nat} (h:w.grownBy w1 none) (k:w1.grownBy w2 r) (hr:∀ g,r=some g→w.heap.size≤g):w.grownBy w2 none:=by
 cases r with
 | none=>exact Qz h k
 | some g=>exact Qw h k (hr g rfl)
def Xt (w:World) (q:Option Addr) (D:Out):Prop:=∀ i y,D[i]?=some y→∃ g o,q=some ⟨g,o,none⟩∧∀ j,j < 7→w.cell? ⟨g,o + i * 7 + j,none⟩=(Q4 y)[j]?
theorem Xk.exs {q:Option Addr} {D:Out} (h:Xk w q D):Xt w q D:=fun i y hy=>by
 obtain ⟨g,e,hc⟩:=h i y hy;exact ⟨g,0,e,fun j hj=>by rw [Nat.zero_add];exact hc j hj⟩
theorem Xt.nil {q:Option Addr}:Xt w q []:=fun i y hy=>by simp at hy
theorem Xt.grown {q:Option Addr} {D:Out} (h:Xt w q D) (hg:w.grownBy w' none):Xt w' q D:=fun i y hy=>by
 obtain ⟨g,o,e,hc⟩:=h i y hy;refine ⟨g,o,e,fun j hj=>?_⟩;have hl:j < (Q4 y).length:=hj
 have:=hc j hj
 rw [List.getElem?_eq_getElem hl] at this ⊢;exact Qv hg this
theorem Xt.take {q:Option Addr} {D:Out} (h:Xt w q D) (n:Nat):Xt w q (D.take n):=fun i y hy=>by
 refine h i y ?_
 rw [List.getElem?_take] at hy
 split at hy
 ·exact hy
 ·cases hy
theorem Xt.drop {b o:Nat} {D:Out} (h:Xt w (some ⟨b,o,none⟩) D) (n:Nat):Xt w (some ⟨b,o + n * 7,none⟩) (D.drop n):=fun i y hy=>by
 rw [List.getElem?_drop] at hy;obtain ⟨g,o',e,hc⟩:=h (n + i) y hy;injection e with e;injection e with e1 e2 _;subst e1 e2;refine ⟨b,o + n * 7,rfl,fun j hj=>?_⟩
 have:=hc j hj
 rw [show o + (n + i) * 7 + j=o + n * 7 + i * 7 + j by omega] at this;exact this
theorem Xt.head {q:Option Addr} {y:List Int × Ex} {D:Out} (h:Xt w q (y :: D)):∃ g o,q=some ⟨g,o,none⟩∧w.cell? ⟨g,o,none⟩=some (.string (strOfNums y.1))∧w.cell? ⟨g,o + 1,none⟩=some (.int .i64 y.2.kind)∧w.cell? ⟨g,o + 2,none⟩=some (.bool y.2.weak) ∧
  w.cell? ⟨g,o + 3,none⟩=some (.int .u64 y.2.value)∧w.cell? ⟨g,o + 4,none⟩=some (.int .u64 y.2.resolver)∧w.cell? ⟨g,o + 5,none⟩=some (.int .u64 y.2.ordinal)∧w.cell? ⟨g,o + 6,none⟩=some (.string (strOfNums y.2.other)):=by
 obtain ⟨g,o,e,hc⟩:=h 0 y rfl;simp only [Nat.zero_mul,Nat.add_zero] at hc;exact ⟨g,o,e,hc 0 (by decide),hc 1 (by decide),hc 2 (by decide),hc 3 (by decide),hc 4 (by decide),hc 5 (by decide),hc 6 (by decide)⟩
theorem flat_inv {α:Type} {f : α→List Value} {k:Nat} (hk : 0 < k) (hf:∀ x,(f x).length=k) (l:List α) (j:Nat) (u:Value) (h:(l.flatMap f)[j]?=some u):∃ y,l[j / k]?=some y∧(f y)[j % k]?=some u:=by
 obtain ⟨hj,-⟩:=List.getElem?_eq_some_iff.1 h;rw [Gw hf] at hj;have hi:j / k < l.length:=by
  rcases Nat.lt_or_ge (j / k) l.length with h | h
  ·exact h
  ·have h1:=Nat.mul_le_mul_right k h
   have h2:=Nat.div_mul_le_self j k;omega
 refine ⟨l[j / k],List.getElem?_eq_getElem hi,?_⟩
 have:=flat_at hf l (j / k) (j % k) _ (List.getElem?_eq_getElem hi) (Nat.mod_lt _ hk)
 rw [show j / k * k + j % k=j by rw [Nat.mul_comm];exact Nat.div_add_mod j k] at this;rw [← this];exact h
theorem Xt.cells {q:Option Addr} {D:Out} (h:Xt w q D) (j:Nat) (u:Value) (hu:(D.flatMap Q4)[j]?=some u):∃ g o,q=some ⟨g,o,none⟩∧w.cell? ⟨g,o + j,none⟩=some u:=by
 obtain ⟨y,hy,hr⟩:=flat_inv (by decide) Yt D j u hu;obtain ⟨g,o,e,hc⟩:=h _ y hy;refine ⟨g,o,e,?_⟩
 have:=hc (j % 7) (Nat.mod_lt _ (by decide))
 rw [show o + j / 7 * 7 + j % 7=o + j by omega] at this;rw [this];exact hr
theorem outs_one (D:Out):∀ u∈D.flatMap Q4,u.oneCell'=true:=fun u hu=>by
 obtain ⟨y,_,h⟩:=List.mem_flatMap.1 hu;exact J5 _ _ u h
def leX (x y:List Int × Ex):Prop:=nmLt (nums y.1) (nums x.1)=false
theorem leX_trans {x y z:List Int × Ex} (h:leX x y) (k:leX y z):leX x z:=H6 k h
def Srt (D:Out):Prop:=D.Pairwise leX
theorem Vs {O A B:Out} {a:List Int × Ex} (ha:Srt (O ++ a :: A)) (hb:Srt (O ++ B)) (hle:∀ b B',B=b :: B'→leX a b):Srt ((O ++ [a]) ++ A)∧Srt ((O ++ [a]) ++ B):=by
 refine ⟨by rw [List.append_assoc];exact ha,?_⟩;unfold Srt at *;rw [List.append_assoc,List.pairwise_append];rw [List.pairwise_append] at ha hb;refine ⟨ha.1,?_,?_⟩
 ·rw [List.singleton_append,List.pairwise_cons]
  refine ⟨?_,hb.2.1⟩;intro x hx;cases B with
  | nil=>cases hx
  | cons b B' =>
   rcases List.mem_cons.1 hx with h | h
   ·rw [h];exact hle b B' rfl
   ·exact leX_trans (hle b B' rfl) ((List.pairwise_cons.1 hb.2.1).1 x h)
 ·intro x hx y hy
  rcases List.mem_append.1 hy with h | h
  ·exact ha.2.2 x hx y (List.mem_cons.2 (.inl (List.mem_singleton.1 h)))
  ·exact hb.2.2 x hx y h
structure Pi (w w':World) (D:Out) (e:Ending):Prop where
 ex:∃ R v,e=.returned v∧w'.ownsRow w.heap.size 28 7 v R.length (R.flatMap Q4)∧R.Perm D∧Srt R
 grown:w.grownBy w' none
theorem sorted_few (D:Out) (q:Option Addr) (c:Nat) (w:World) (hn:D.length < 2) (h:Xt w q D) :
  Calls Tryz.prog 25 #[.slice q D.length c] w fun e w'=>Pi w w' D e:=by
 have hl:(D.flatMap Q4).length=D.length * 7:=Gw Yt D;have HH:=Lv (h.cells);have HL:=Lv hl;have S:Srt D:=by
  match D,hn with
  | [],_=>exact List.Pairwise.nil
  | [x],_=>exact List.pairwise_singleton _ _
 have FN:=Lv (fun v' w' (ho:w'.ownsRow w.heap.size 28 7 v' D.length (D.flatMap Q4)) (hg:w.grownBy w' none)=>(show Pi w w' D (.returned v') from ⟨⟨D,v',rfl,ho,List.Perm.refl _,S⟩,hg⟩));have HO:=Lv (outs_one D);have dn:decide ((D.length:Int) < 2)=true:=by simp;omega
 clear h hl S;obtain ⟨N,hN⟩:∃ N,N=D.length:=⟨_,rfl⟩
 rw [← hN] at HL FN hn dn ⊢;clear hN;go_enter Tryz.func25,Tryz.ntmps25;go_wp2_with (at_builtin;refine wp_append_rows Vt rfl _ _ rfl rfl (.slice none 0 0) 0 [] rfl (World.ownsRow_nil _ w.heap.size 28 7) q N c rfl (D.flatMap Q4) HL.o HH.o HO.o (by omega) (by decide) (Nat.le_refl _) ?_)
 intro v' w' ho hg hv
 try rw [Nat.zero_add] at ho
 try rw [List.nil_append] at ho
 have F:=Lv (FN.o v' w' ho hg);clear ho hg hv;go_wp2;go_ret
 exact F.o
theorem Ra (b o n c p:Nat) (hc:n≤c) (hp:p≤n):∃ V:Option Addr,(∀ W,(Instr.slice 23 (.slice (some ⟨b,o,none⟩) n c) (some (.int .i64 (p:Int))) none none).run Tryz.prog W=.ok (.slice V (n - p) (c - p)) W)∧∀ (w:World) (D:Out),D.length=n→Xt w (some ⟨b,o,none⟩) D→Xt w V (D.drop p):=by
 obtain ⟨V,hV,h⟩:=Sv (T:=23) (k:=7) (by kernel_rfl) (fun W=>by kernel_rfl) b o n c p .i64 hp;refine ⟨V,hV,fun w D hD he=>?_⟩;rcases h with ⟨rfl,h⟩ | rfl
 ·rw [List.drop_eq_nil_of_le (by omega)]
  exact Xt.nil
 ·exact he.drop p
def slN:Value→Nat
 | .slice _ n _=>n
 | _=>0
structure SoMid (w:World) (D:Out) (h:Nat) (va vb:Value) (wx:World):Prop where
 ex:∃ A qa ca B qb cb,va=.slice qa (List.length A) ca∧vb=.slice qb (List.length B) cb∧A.length≤ca∧B.length≤cb∧ca≤9223372036854775807∧cb≤9223372036854775807∧Xt wx qa A∧Xt wx qb B∧A.Perm (D.take h)∧B.Perm (D.drop h)∧Srt A∧Srt B
 grown:w.grownBy wx none
structure SoLp (w:World) (D:Out) (va vb vo:Value) (wr:World):Prop where
 ex:∃ A qa ca B qb cb O,va=.slice qa (List.length A) ca∧vb=.slice qb (List.length B) cb∧A.length≤ca∧B.length≤cb∧ca≤9223372036854775807∧cb≤9223372036854775807∧Xt w qa A∧Xt w qb B∧wr.ownsRow w.heap.size 28 7 vo (List.length O) (O.flatMap Q4)∧(O ++ (A ++ B)).Perm D∧Srt (O ++ A)∧Srt (O ++ B)
 grown:w.grownBy wr none
theorem Gh:∀ (n:Nat) (D:Out) (q:Option Addr) (c:Nat) (w:World),D.length=n→n≤1000000000→n≤c→c≤9223372036854775807→Xt w q D →
  Calls Tryz.prog 25 #[.slice q n c] w fun e w'=>Pi w w' D e:=by
 intro n
 induction n using Nat.strongRecOn with
 | _ n ih =>
 intro D q c w hD hbig hc hcm h;by_cases hfew:n < 2
 ·rw [← hD]
  exact sorted_few D q c w (by omega) h
 obtain ⟨g,o,rfl⟩:∃ g o,q=some ⟨g,o,none⟩:=by
  obtain ⟨g,o,e,_⟩:=h 0 D[0] (List.getElem?_eq_getElem (by omega));exact ⟨g,o,e⟩
 obtain ⟨hf,hhf⟩:∃ hf,hf=n / 2:=⟨_,rfl⟩
 obtain ⟨V,hV,hVE⟩:=Ra g o n c hf hc (by omega);have CH:=Rl (T:=23) (k:=7) (by kernel_rfl) (fun W=>by kernel_rfl) g o n c hf .i64 (by omega);have IA:=Lv (fun (W:World) (hg:w.grownBy W none)=>ih hf (by omega) (D.take hf) (some ⟨g,o,none⟩) c W (by rw [List.length_take];omega) (by omega) (by omega) hcm ((h.grown hg).take hf));have IB:=Lv (fun (W:World) (hg:w.grownBy W none)=>ih (n - hf) (by omega) (D.drop hf) V (c - hf) W (by rw [List.length_drop];omega) (by omega) (by omega) (by omega) (hVE W D hD (h.grown hg)))
 have hdv:IntKind.i64.wrap ((n:Int) / 2)=(hf:Int):=by rw [show (n:Int) / 2=(hf:Int) by omega];exact IntWalk.i64_in _ (by omega)
 have dn:decide ((n:Int) < 2)=false:=by simp;omega
 have G0:=Lv (show w.grownBy w.drew none from Qj (Qq w none) 1);have HD:=Lv hD;have HHF:=Lv (show hf≤n∧1≤hf by omega);clear ih h hVE hD hhf;go_enter Tryz.func25,Tryz.ntmps25;go_upto_region 3 with fail;go_cut [3,4] from 11 to 22 (fun va vb wx=>SoMid w D hf va vb wx)
 case first =>
  go_region_held (fun W=>(Instr.slice 23 (.slice (some ⟨g,o,none⟩) n c) none (some (.int .i64 (hf:Int))) none).run Tryz.prog W=.ok (.slice (some ⟨g,o,none⟩) hf c) W∧(Instr.slice 23 (.slice (some ⟨g,o,none⟩) n c) (some (.int .i64 (hf:Int))) none none).run Tryz.prog W=.ok (.slice V (n - hf) (c - hf)) W)
   (exact ⟨CH _,hV _⟩)
   (first
   |( go_at_call 25;with_reducible refine (IA.o w.drew G0.o).mono ?_;rintro e w1 ⟨⟨A,va,rfl,oa,pa,sa⟩,ga⟩;obtain ⟨qa,ca,rfl⟩:=Qp oa;have G1:=Lv (Qz G0.o ga);have OA:=Lv oa;have PA:=Lv (And.intro pa sa);clear oa pa sa ga)
   |( go_at_call 25;with_reducible refine (IB.o w1 G1.o).mono ?_;rintro e w2 ⟨⟨B,vb,rfl,ob,pb,sb⟩,gb⟩;obtain ⟨qb,cb,rfl⟩:=Qp ob;have G2:=Lv (Qz G1.o gb);have OA2:=Lv (Qy OA.o gb);have OB:=Lv ob;have PB:=Lv (And.intro pb sb);clear ob pb sb gb))
  all_goals
   go_wp2_with fail;go_meet
   exact ⟨⟨A,qa,ca,B,qb,cb,rfl,rfl,Jw OA2.o,Jw OB.o,Vp OA2.o,Vp OB.o,(Xk.of OA2.o).exs,(Xk.of OB.o).exs,PA.o.1,PB.o.1,PA.o.2,PB.o.2⟩,G2.o⟩
 case rest =>
  obtain ⟨A0,qa,ca,B0,qb,cb,rfl,rfl,la,lb,ma,mb,ea,eb,pa,pb,sa,sb⟩:=hcut.ex;have GC:=Lv hcut.grown;have EA:=Lv ea;have EB:=Lv eb;have PM:=Lv (show (A0 ++ B0).Perm D by
   have h:=pa.append pb;rw [List.take_append_drop] at h;exact h)
  have SA:=Lv sa;have SB:=Lv sb;have LB:=Lv (And.intro la (And.intro lb (And.intro ma mb)));clear hcut ea eb pa pb sa sb la lb ma mb;go_upto_region 5 with fail;go_loopw [3,4,5] (fun va vb vo wr=>SoLp wc D va vb vo wr) (fun va vb _ _=>slN va + slN vb)
  case atStart=>exact ⟨⟨A0,qa,ca,B0,qb,cb,[],rfl,rfl,LB.o.1,LB.o.2.1,LB.o.2.2.1,LB.o.2.2.2,EA.o,EB.o,World.ownsRow_nil _ _ _ _,PM.o,SA.o,SB.o⟩,Qq _ _⟩
  case round =>
   obtain ⟨A,qa,ca,B,qb,cb,O,rfl,rfl,la,lb,ma,mb,ea,eb,oo,pm,sa,sb⟩:=hrel.ex;have GL:=Lv hrel.grown;have hlen:O.length + (A.length + B.length)=n:=by
     have:=pm.length_eq
     rw [List.length_append,List.length_append,HD.o] at this;exact this
   obtain ⟨qo,co,rfl⟩:=Qp oo;have OO:=Lv oo;have EA:=Lv ea;have EB:=Lv eb;have PM:=Lv pm;have SA:=Lv sa;have SB:=Lv sb;clear hrel ea eb oo pm sa sb;by_cases hab:A=[]∧B=[]
   · obtain ⟨rfl,rfl⟩:=hab
     have FN:=Lv (show Pi w wr D (.returned (.slice qo (List.length O) co)) from ⟨⟨O,_,rfl,Go.Joins.ownsRow_le OO.o GC.o.size,by have h:=PM.o;rw [List.append_nil,List.append_nil] at h;exact h,by have h:=SA.o;rw [List.append_nil] at h;exact h⟩,Qz GC.o GL.o⟩);clear hlen la lb ma mb;go_wp2;go_ret
     exact FN.o
   have hgo:(∃ a A',A=a :: A'∧∀ b B',B=b :: B'→leX a b)∨(∃ b B',B=b :: B'∧∀ a A',A=a :: A'→leX b a∧¬ leX a b):=by
     cases A with
     | nil =>
       cases B with
       | nil=>exact absurd ⟨rfl,rfl⟩ hab
       | cons b B'=>exact .inr ⟨b,B',rfl,fun a A' e=>by cases e⟩
     | cons a A' =>
       cases B with
       | nil=>exact .inl ⟨a,A',rfl,fun b B' e=>by cases e⟩
       | cons b B' =>
        by_cases hle:leX a b
        ·exact .inl ⟨a,A',rfl,fun b' B'' e=>by injection e with e1 e2;rw [← e1];exact hle⟩
        ·refine .inr ⟨b,B',rfl,fun a' A'' e=>?_⟩
         injection e with e1 e2;rw [← e1];refine ⟨?_,hle⟩;unfold leX at hle ⊢;cases h1:nmLt (nums a.1) (nums b.1) with
         | false=>rfl
         | true =>
          cases h2:nmLt (nums b.1) (nums a.1) with
          | false=>exact absurd h2 hle
          | true=>have:=J0 h1 h2;rw [Z9] at this;cases this
   clear hab;rcases hgo with ⟨a,A',rfl,hle⟩ | ⟨b,B',rfl,hle⟩
   · have HLE:=Lv hle
     obtain ⟨na,hna⟩:∃ na,na=A'.length:=⟨_,rfl⟩
     have NA:=Lv hna;rw [show (a :: A').length=na + 1 by rw [hna];rfl] at la hlen ⊢;obtain ⟨QB,hQB⟩:∃ Q,Q=qb:=⟨_,rfl⟩
     obtain ⟨nb,hnb⟩:∃ nb,nb=B.length:=⟨_,rfl⟩
     have NB:=Lv hnb;rw [← hnb] at lb hlen ⊢;have da:decide ((0:Int) < ((na + 1:Nat):Int))=true:=by simp <;> omega
     have da2:decide ((0:Int) < (na:Int) + 1)=true:=by simp <;> omega
     obtain ⟨ga,oa,rfl,k0,k1,k2,k3,k4,k5,k6⟩:=(EA.o.grown GL.o).head;clear hna hle;cases hB:B with
     | nil =>
       have hnb0:nb=0:=by rw [hnb,hB];rfl
       subst hQB;clear hB hnb;have db:(((nb:Nat):Int) == 0)=true:=by rw [hnb0];rfl
       clear hnb0;go_wp2;go_quiet (fail);clear k0 k1 k2 k3 k4 k5 k6;have G1:=Lv (Qj GL.o nq);obtain ⟨g',o',e,k0,k1,k2,k3,k4,k5,k6⟩:=(EA.o.grown G1.o).head;injection e with e;injection e with e1 e2 _;subst e1 e2;obtain ⟨W1,hW1⟩:∃ W1,wr.drewN nq=W1:=⟨_,rfl⟩
       rw [hW1] at k0 k1 k2 k3 k4 k5 k6 G1 ⊢;have OD:=Lv (show W1.ownsRow wc.heap.size 28 7 (.slice qo (List.length O) co) (List.length O) (O.flatMap Q4) from by rw [← hW1];exact Qy OO.o (Qj (Qq wr none) nq));clear hW1;have g2:=grown1 W1 (.cells #[.string (strOfNums a.1),.int .i64 a.2.kind,.bool a.2.weak,.int .u64 a.2.value,.int .u64 a.2.resolver,.int .u64 a.2.ordinal,.string (strOfNums a.2.other)] 28)
       have O2:=Lv (Qy OD.o g2);have N2:=Lv (heap_alloc_new W1 (.cells #[.string (strOfNums a.1),.int .i64 a.2.kind,.bool a.2.weak,.int .u64 a.2.value,.int .u64 a.2.resolver,.int .u64 a.2.ordinal,.string (strOfNums a.2.other)] 28));have G2:=Lv (Qz G1.o g2);obtain ⟨V2,hV2,hVE2⟩:=Ra ga oa (na + 1) ca 1 (by omega) (by omega);have HV2:∀ W,(Instr.slice 23 (.slice (some ⟨ga,oa,none⟩) (na + 1) ca) (some (.int .i64 1)) none none).run Tryz.prog W=.ok (.slice V2 na (ca - 1)) W:=fun W=>by have h:=hV2 W;rw [show na + 1 - 1=na by omega] at h;exact h
       have EV2:=Lv (show Xt wc V2 A' from hVE2 wc (a :: A') (by rw [List.length_cons,NA.o]) EA.o);have hON:(O.length + 1) * 72≤140737488355328:=by omega
       clear hV2 hVE2 g2;go_wp2_with (at_builtin;refine Zz Vt rfl _ _ rfl _ (List.length O) _ rfl O2.o [.string (strOfNums a.1),.int .i64 a.2.kind,.bool a.2.weak,.int .u64 a.2.value,.int .u64 a.2.resolver,.int .u64 a.2.ordinal,.string (strOfNums a.2.other)] rfl W1.heap.size rfl N2.o (J5 (strOfNums a.1) a.2) hON (by decide) G2.o.size ?_)
       intro v' w5 ho5 hg5 hv5;have G5:=Lv (Qr G2.o hg5 (fun g e=>(O2.o.lt g e).1));have O5:=Lv (show w5.ownsRow wc.heap.size 28 7 v' (O ++ [a]).length ((O ++ [a]).flatMap Q4) from by rw [List.length_append,List.length_singleton,List.flatMap_append,List.flatMap_singleton];exact ho5);clear ho5 hg5 hv5 k0 k1 k2 k3 k4 k5 k6;go_wp2;go_roundw
       case rel=>exact ⟨⟨A',V2,ca - 1,B,_,cb,O ++ [a],by rw [← NA.o],by rw [← NB.o],by rw [← NA.o];omega,by rw [← NB.o];omega,by omega,by omega,EV2.o,EB.o,O5.o,by have h:=PM.o;rw [List.append_assoc];exact h,(Vs SA.o SB.o HLE.o).1,(Vs SA.o SB.o HLE.o).2⟩,G5.o⟩
       case measure=>simp [slN]
     | cons b B' =>
       have EB1:=Lv (show Xt wc qb (b :: B') from hB ▸ EB.o);obtain ⟨gb,ob,hqb,j0,j1,j2,j3,j4,j5,j6⟩:=(EB1.o.grown GL.o).head;have hnb0 : 1≤nb:=by rw [hnb,hB];simp
       have db:(((nb:Nat):Int) == 0)=false:=by simp;omega
       have hcmp:=le_is a.1 b.1;rw [show nmLt (nums b.1) (nums a.1)=false from HLE.o b B' hB] at hcmp;obtain ⟨x,hx⟩:∃ x,Op.bytesLess (strOfNums a.1).toList (strOfNums b.1).toList=x:=⟨_,rfl⟩
       obtain ⟨y,hy⟩:∃ y,((strOfNums a.1).toList == (strOfNums b.1).toList)=y:=⟨_,rfl⟩
       rw [hx,hy,Bool.not_false] at hcmp;have HQB:=Lv hQB;clear hB hnb hQB;subst hqb;go_wp2;go_quiet (fail);clear k0 k1 k2 k3 k4 k5 k6 j0 j1 j2 j3 j4 j5 j6 hx hy hcmp;have hQB:=HQB.o;subst hQB;have G1:=Lv (Qj GL.o nq);obtain ⟨g',o',e,k0,k1,k2,k3,k4,k5,k6⟩:=(EA.o.grown G1.o).head;injection e with e;injection e with e1 e2 _;subst e1 e2;obtain ⟨W1,hW1⟩:∃ W1,wr.drewN nq=W1:=⟨_,rfl⟩
       rw [hW1] at k0 k1 k2 k3 k4 k5 k6 G1 ⊢;have OD:=Lv (show W1.ownsRow wc.heap.size 28 7 (.slice qo (List.length O) co) (List.length O) (O.flatMap Q4) from by rw [← hW1];exact Qy OO.o (Qj (Qq wr none) nq));clear hW1;have g2:=grown1 W1 (.cells #[.string (strOfNums a.1),.int .i64 a.2.kind,.bool a.2.weak,.int .u64 a.2.value,.int .u64 a.2.resolver,.int .u64 a.2.ordinal,.string (strOfNums a.2.other)] 28)
       have O2:=Lv (Qy OD.o g2);have N2:=Lv (heap_alloc_new W1 (.cells #[.string (strOfNums a.1),.int .i64 a.2.kind,.bool a.2.weak,.int .u64 a.2.value,.int .u64 a.2.resolver,.int .u64 a.2.ordinal,.string (strOfNums a.2.other)] 28));have G2:=Lv (Qz G1.o g2);obtain ⟨V2,hV2,hVE2⟩:=Ra ga oa (na + 1) ca 1 (by omega) (by omega);have HV2:∀ W,(Instr.slice 23 (.slice (some ⟨ga,oa,none⟩) (na + 1) ca) (some (.int .i64 1)) none none).run Tryz.prog W=.ok (.slice V2 na (ca - 1)) W:=fun W=>by have h:=hV2 W;rw [show na + 1 - 1=na by omega] at h;exact h
       have EV2:=Lv (show Xt wc V2 A' from hVE2 wc (a :: A') (by rw [List.length_cons,NA.o]) EA.o);have hON:(O.length + 1) * 72≤140737488355328:=by omega
       clear hV2 hVE2 g2;go_wp2_with (at_builtin;refine Zz Vt rfl _ _ rfl _ (List.length O) _ rfl O2.o [.string (strOfNums a.1),.int .i64 a.2.kind,.bool a.2.weak,.int .u64 a.2.value,.int .u64 a.2.resolver,.int .u64 a.2.ordinal,.string (strOfNums a.2.other)] rfl W1.heap.size rfl N2.o (J5 (strOfNums a.1) a.2) hON (by decide) G2.o.size ?_)
       intro v' w5 ho5 hg5 hv5;have G5:=Lv (Qr G2.o hg5 (fun g e=>(O2.o.lt g e).1));have O5:=Lv (show w5.ownsRow wc.heap.size 28 7 v' (O ++ [a]).length ((O ++ [a]).flatMap Q4) from by rw [List.length_append,List.length_singleton,List.flatMap_append,List.flatMap_singleton];exact ho5);clear ho5 hg5 hv5 k0 k1 k2 k3 k4 k5 k6;go_wp2;go_roundw
       case rel=>exact ⟨⟨A',V2,ca - 1,B,_,cb,O ++ [a],by rw [← NA.o],by rw [← NB.o],by rw [← NA.o];omega,by rw [← NB.o];omega,by omega,by omega,EV2.o,EB.o,O5.o,by have h:=PM.o;rw [List.append_assoc];exact h,(Vs SA.o SB.o HLE.o).1,(Vs SA.o SB.o HLE.o).2⟩,G5.o⟩
       case measure=>simp [slN]
   · have HLE:=Lv (show ∀ a A',A=a :: A'→leX b a from fun a A' e=>(hle a A' e).1)
     have HLN:=Lv (show ∀ a A',A=a :: A'→¬ leX a b from fun a A' e=>(hle a A' e).2);obtain ⟨nb,hnb⟩:∃ nb,nb=B'.length:=⟨_,rfl⟩
     have NB:=Lv hnb;rw [show (b :: B').length=nb + 1 by rw [hnb];rfl] at lb hlen ⊢;obtain ⟨QA,hQA⟩:∃ Q,Q=qa:=⟨_,rfl⟩
     obtain ⟨na,hna⟩:∃ na,na=A.length:=⟨_,rfl⟩
     have NA:=Lv hna;rw [← hna] at la hlen ⊢;have db:decide ((0:Int) < ((nb + 1:Nat):Int))=true:=by simp <;> omega
     have db2:decide ((0:Int) < (nb:Int) + 1)=true:=by simp <;> omega
     have db3:(((nb + 1:Nat):Int) == 0)=false:=by simp;omega
     have db4:((nb:Int) + 1 == 0)=false:=by simp;omega
     obtain ⟨gb,ob,rfl,k0,k1,k2,k3,k4,k5,k6⟩:=(EB.o.grown GL.o).head;clear hnb hle;cases hA:A with
     | nil =>
       have hna0:na=0:=by rw [hna,hA];rfl
       subst hQA;clear hA hna;have da:decide ((0:Int) < ((na:Nat):Int))=false:=by rw [hna0];rfl
       have da2:decide (0 < na)=false:=by rw [hna0];rfl
       clear hna0;go_wp2;go_quiet (fail);clear k0 k1 k2 k3 k4 k5 k6;have G1:=Lv (Qj GL.o nq);obtain ⟨g',o',e,k0,k1,k2,k3,k4,k5,k6⟩:=(EB.o.grown G1.o).head;injection e with e;injection e with e1 e2 _;subst e1 e2;obtain ⟨W1,hW1⟩:∃ W1,wr.drewN nq=W1:=⟨_,rfl⟩
       rw [hW1] at k0 k1 k2 k3 k4 k5 k6 G1 ⊢;have OD:=Lv (show W1.ownsRow wc.heap.size 28 7 (.slice qo (List.length O) co) (List.length O) (O.flatMap Q4) from by rw [← hW1];exact Qy OO.o (Qj (Qq wr none) nq));clear hW1;have g2:=grown1 W1 (.cells #[.string (strOfNums b.1),.int .i64 b.2.kind,.bool b.2.weak,.int .u64 b.2.value,.int .u64 b.2.resolver,.int .u64 b.2.ordinal,.string (strOfNums b.2.other)] 28)
       have O2:=Lv (Qy OD.o g2);have N2:=Lv (heap_alloc_new W1 (.cells #[.string (strOfNums b.1),.int .i64 b.2.kind,.bool b.2.weak,.int .u64 b.2.value,.int .u64 b.2.resolver,.int .u64 b.2.ordinal,.string (strOfNums b.2.other)] 28));have G2:=Lv (Qz G1.o g2);obtain ⟨V2,hV2,hVE2⟩:=Ra gb ob (nb + 1) cb 1 (by omega) (by omega);have HV2:∀ W,(Instr.slice 23 (.slice (some ⟨gb,ob,none⟩) (nb + 1) cb) (some (.int .i64 1)) none none).run Tryz.prog W=.ok (.slice V2 nb (cb - 1)) W:=fun W=>by have h:=hV2 W;rw [show nb + 1 - 1=nb by omega] at h;exact h
       have EV2:=Lv (show Xt wc V2 B' from hVE2 wc (b :: B') (by rw [List.length_cons,NB.o]) EB.o);have hON:(O.length + 1) * 72≤140737488355328:=by omega
       clear hV2 hVE2 g2;go_wp2_with (at_builtin;refine Zz Vt rfl _ _ rfl _ (List.length O) _ rfl O2.o [.string (strOfNums b.1),.int .i64 b.2.kind,.bool b.2.weak,.int .u64 b.2.value,.int .u64 b.2.resolver,.int .u64 b.2.ordinal,.string (strOfNums b.2.other)] rfl W1.heap.size rfl N2.o (J5 (strOfNums b.1) b.2) hON (by decide) G2.o.size ?_)
       intro v' w5 ho5 hg5 hv5;have G5:=Lv (Qr G2.o hg5 (fun g e=>(O2.o.lt g e).1));have O5:=Lv (show w5.ownsRow wc.heap.size 28 7 v' (O ++ [b]).length ((O ++ [b]).flatMap Q4) from by rw [List.length_append,List.length_singleton,List.flatMap_append,List.flatMap_singleton];exact ho5);clear ho5 hg5 hv5 k0 k1 k2 k3 k4 k5 k6;go_wp2;go_roundw
       case rel=>exact ⟨⟨A,_,ca,B',V2,cb - 1,O ++ [b],by rw [← NA.o],by rw [← NB.o],by rw [← NA.o];omega,by rw [← NB.o];omega,by omega,by omega,EA.o,EV2.o,O5.o,by have h:=PM.o;refine List.Perm.trans ?_ h;rw [List.append_assoc];exact List.Perm.append_left O (List.perm_middle (l₁:=A) (a:=b) (l₂:=B')).symm,(Vs SB.o SA.o HLE.o).2,(Vs SB.o SA.o HLE.o).1⟩,G5.o⟩
       case measure=>simp [slN]
     | cons a A' =>
       have EA1:=Lv (show Xt wc qa (a :: A') from hA ▸ EA.o);obtain ⟨ga,oa,hqa,j0,j1,j2,j3,j4,j5,j6⟩:=(EA1.o.grown GL.o).head;have hna0 : 1≤na:=by rw [hna,hA];simp
       have da:decide ((0:Int) < ((na:Nat):Int))=true:=by simp;omega
       have da2:decide (0 < na)=true:=by simp;omega
       have hcmp:=le_is a.1 b.1;have hnle:=HLN.o a A' hA;unfold leX at hnle;rw [show nmLt (nums b.1) (nums a.1)=true by simpa using hnle] at hcmp;obtain ⟨x,hx⟩:∃ x,Op.bytesLess (strOfNums a.1).toList (strOfNums b.1).toList=x:=⟨_,rfl⟩
       obtain ⟨y,hy⟩:∃ y,((strOfNums a.1).toList == (strOfNums b.1).toList)=y:=⟨_,rfl⟩
       rw [hx,hy,Bool.not_true] at hcmp;have HQA:=Lv hQA;clear hA hna hQA hnle;subst hqa;go_wp2;go_quiet (fail);clear k0 k1 k2 k3 k4 k5 k6 j0 j1 j2 j3 j4 j5 j6 hx hy hcmp;have hQA:=HQA.o;subst hQA;have G1:=Lv (Qj GL.o nq);obtain ⟨g',o',e,k0,k1,k2,k3,k4,k5,k6⟩:=(EB.o.grown G1.o).head;injection e with e;injection e with e1 e2 _;subst e1 e2;obtain ⟨W1,hW1⟩:∃ W1,wr.drewN nq=W1:=⟨_,rfl⟩
       rw [hW1] at k0 k1 k2 k3 k4 k5 k6 G1 ⊢;have OD:=Lv (show W1.ownsRow wc.heap.size 28 7 (.slice qo (List.length O) co) (List.length O) (O.flatMap Q4) from by rw [← hW1];exact Qy OO.o (Qj (Qq wr none) nq));clear hW1;have g2:=grown1 W1 (.cells #[.string (strOfNums b.1),.int .i64 b.2.kind,.bool b.2.weak,.int .u64 b.2.value,.int .u64 b.2.resolver,.int .u64 b.2.ordinal,.string (strOfNums b.2.other)] 28)
       have O2:=Lv (Qy OD.o g2);have N2:=Lv (heap_alloc_new W1 (.cells #[.string (strOfNums b.1),.int .i64 b.2.kind,.bool b.2.weak,.int .u64 b.2.value,.int .u64 b.2.resolver,.int .u64 b.2.ordinal,.string (strOfNums b.2.other)] 28));have G2:=Lv (Qz G1.o g2);obtain ⟨V2,hV2,hVE2⟩:=Ra gb ob (nb + 1) cb 1 (by omega) (by omega);have HV2:∀ W,(Instr.slice 23 (.slice (some ⟨gb,ob,none⟩) (nb + 1) cb) (some (.int .i64 1)) none none).run Tryz.prog W=.ok (.slice V2 nb (cb - 1)) W:=fun W=>by have h:=hV2 W;rw [show nb + 1 - 1=nb by omega] at h;exact h
       have EV2:=Lv (show Xt wc V2 B' from hVE2 wc (b :: B') (by rw [List.length_cons,NB.o]) EB.o);have hON:(O.length + 1) * 72≤140737488355328:=by omega
       clear hV2 hVE2 g2;go_wp2_with (at_builtin;refine Zz Vt rfl _ _ rfl _ (List.length O) _ rfl O2.o [.string (strOfNums b.1),.int .i64 b.2.kind,.bool b.2.weak,.int .u64 b.2.value,.int .u64 b.2.resolver,.int .u64 b.2.ordinal,.string (strOfNums b.2.other)] rfl W1.heap.size rfl N2.o (J5 (strOfNums b.1) b.2) hON (by decide) G2.o.size ?_)
       intro v' w5 ho5 hg5 hv5;have G5:=Lv (Qr G2.o hg5 (fun g e=>(O2.o.lt g e).1));have O5:=Lv (show w5.ownsRow wc.heap.size 28 7 v' (O ++ [b]).length ((O ++ [b]).flatMap Q4) from by rw [List.length_append,List.length_singleton,List.flatMap_append,List.flatMap_singleton];exact ho5);clear ho5 hg5 hv5 k0 k1 k2 k3 k4 k5 k6;go_wp2;go_roundw
       case rel=>exact ⟨⟨A,_,ca,B',V2,cb - 1,O ++ [b],by rw [← NA.o],by rw [← NB.o],by rw [← NA.o];omega,by rw [← NB.o];omega,by omega,by omega,EA.o,EV2.o,O5.o,by have h:=PM.o;refine List.Perm.trans ?_ h;rw [List.append_assoc];exact List.Perm.append_left O (List.perm_middle (l₁:=A) (a:=b) (l₂:=B')).symm,(Vs SB.o SA.o HLE.o).2,(Vs SB.o SA.o HLE.o).1⟩,G5.o⟩
       case measure=>simp [slN]
def Wz (D:Out):Bool:=D.all fun y=>mayE y.1 y.2
def Up (R:Out):Prop:=R.Pairwise fun a b=>nmLt a.1 b.1=true
def mkE0 (D:Out):Int:=if Wz D=true then if 4096 < D.length then 11 else if (D.Pairwise fun a b=>a.1≠b.1) then 0 else 21 else 2
def Tp (R:Out) (t:Nat):List Int:=layB (Qs (plan 257 R 0 0) t) (plan 257 R 0 0)
structure MkIs (D:Out) (E:Int) (B:List Int):Prop where
 no:mkE0 D≠0→E=mkE0 D∧B=[]
 nil:D=[]→E=0∧B=[]
 yes:mkE0 D=0→D≠[]→∃ R t,R.Perm D∧Up R∧Qs (plan 257 R 0 0) (t + 1)=Qs (plan 257 R 0 0) t∧(1048576 < (Tp R t).length→E=11∧B=[])∧((Tp R t).length≤1048576→E=0∧B=Tp R t)
theorem Up.apart {R D:Out} (h:Up R) (hp:R.Perm D):D.Pairwise fun a b=>a.1≠b.1:=by
 refine hp.pairwise (h.imp fun hab e=>?_) (fun h e=>h e.symm);rw [e,Z9] at hab;cases hab
theorem mkE0_no {D:Out} {E:Int} (h:mkE0 D=E) (h0:E≠0):MkIs D E [] :=
 ⟨fun _=>⟨h.symm,rfl⟩,fun e=>by subst e;exact absurd h.symm h0,fun e=>absurd (h.symm.trans e) h0⟩
theorem mkIs_nil:MkIs [] 0 []:=⟨fun h=>absurd rfl h,fun _=>⟨rfl,rfl⟩,fun _ h=>absurd rfl h⟩
theorem Up.rise {R:Out} (h:Up R):Rise [] R:=⟨fun y _=>⟨y.1,rfl⟩,h⟩
structure Pv (D:Out):Prop where
 name:∀ y∈D,Byt y.1
 other:∀ y∈D,Byt y.2.other
 value:∀ y∈D,0≤y.2.value∧y.2.value < 18446744073709551616
 resolver:∀ y∈D,0≤y.2.resolver∧y.2.resolver < 18446744073709551616
 ordinal:∀ y∈D,0≤y.2.ordinal∧y.2.ordinal < 18446744073709551616
theorem mayE_is {nm:List Int} {x:Ex} (h:mayE nm x=true):nm≠[]∧Hv nm=true∧Hv x.other=true∧Pe x=true:=by
 unfold mayE at h;simp only [Bool.and_eq_true,Bool.not_eq_true',decide_eq_false_iff_not] at h;exact ⟨h.1.1.1,h.1.1.2,h.1.2,h.2⟩
theorem Pv.ok {D:Out} (f:Pv D) (h:Wz D=true):∀ y∈D,Ge y.1∧ExOk y.2:=by
 intro y hy;unfold Wz at h;rw [List.all_eq_true] at h;have hm:=h y hy;obtain ⟨-,-,m3,m4⟩:=mayE_is hm;exact ⟨may_name hm (f.name y hy),f.value y hy,f.resolver y hy,f.ordinal y hy,f.other y hy,m4,m3⟩
def setK (R:Out):Nat→List (List Int)
 | 0=>[[]]
 | k + 1=>setK R k ++ ((R.getD k ([],Ex.zero)).1 :: if k=0 then [] else [(R.getD (k - 1) ([],Ex.zero)).1.take (lcpN (R.getD (k - 1) ([],Ex.zero)).1 (R.getD k ([],Ex.zero)).1)])
theorem adj_mem:∀ (l:Out) (q:List Int),q∈adjN l↔∃ i,i + 1 < l.length∧q=(l.getD i ([],Ex.zero)).1.take (lcpN (l.getD i ([],Ex.zero)).1 (l.getD (i + 1) ([],Ex.zero)).1)
 | [],q=>by simp [adjN]
 | [x],q=>by simp [adjN]
 | a :: b :: l,q=>by
  have ih:=adj_mem (b :: l) q;simp only [adjN,List.mem_cons];rw [ih]
  constructor
  ·rintro (e | ⟨i,hi,e⟩)
   ·exact ⟨0,by simp,by simpa using e⟩
   ·exact ⟨i + 1,by simpa using hi,by simpa using e⟩
  ·rintro ⟨i,hi,e⟩
   cases i with
   | zero=>exact .inl (by simpa using e)
   | succ i=>exact .inr ⟨i,by simpa using hi,by simpa using e⟩
theorem setK_mem (R:Out) (q:List Int):∀ k,k≤R.length→(q∈setK R k↔q=[]∨(∃ i,i < k∧q=(R.getD i ([],Ex.zero)).1)∨∃ i,i + 1 < k∧q=(R.getD i ([],Ex.zero)).1.take (lcpN (R.getD i ([],Ex.zero)).1 (R.getD (i + 1) ([],Ex.zero)).1))
 | 0,_=>by simp [setK]
 | k + 1,hk=>by
  rw [setK,List.mem_append,setK_mem R q k (by omega),List.mem_cons]
  constructor
  ·rintro ((h | ⟨i,hi,e⟩ | ⟨i,hi,e⟩) | h | h)
   ·exact .inl h
   ·exact .inr (.inl ⟨i,by omega,e⟩)
   ·exact .inr (.inr ⟨i,by omega,e⟩)
   ·exact .inr (.inl ⟨k,by omega,h⟩)
   ·split at h
    ·cases h
    ·exact .inr (.inr ⟨k - 1,by omega,by rw [List.mem_singleton.1 h,show k - 1 + 1=k by omega]⟩)
  ·rintro (h | ⟨i,hi,e⟩ | ⟨i,hi,e⟩)
   ·exact .inl (.inl h)
   ·by_cases c:i=k
    ·subst c;exact .inr (.inl e)
    ·exact .inl (.inr (.inl ⟨i,by omega,e⟩))
   ·by_cases c:i + 1=k
    ·refine .inr (.inr ?_)
     rw [if_neg (by omega),show k - 1=i by omega,List.mem_singleton];rw [← c];exact e
    ·exact .inl (.inr (.inr ⟨i,by omega,e⟩))
theorem setK_all {R:Out} (hn:R≠[]) (hr:Up R) (h255:∀ y∈R,y.1.length≤255) (q:List Int):q∈setK R R.length↔q∈Qe 257 R 0:=by
 have N:=(Hs 257 R [] hn hr.rise h255 (by simp)).mem q;rw [setK_mem R q R.length (Nat.le_refl _)];show _↔q∈Qe 257 R ([]:List Int).length
 rw [N,adj_mem];have e:q∈R.map Prod.fst↔∃ i,i < R.length∧q=(R.getD i ([],Ex.zero)).1:=by
  rw [List.mem_map]
  constructor
  ·rintro ⟨y,hy,rfl⟩
   obtain ⟨i,hi,rfl⟩:=List.getElem_of_mem hy;exact ⟨i,hi,by rw [List.getD_eq_getElem?_getD,List.getElem?_eq_getElem hi];rfl⟩
  ·rintro ⟨i,hi,e⟩
   refine ⟨R[i],List.getElem_mem hi,?_⟩;rw [e,List.getD_eq_getElem?_getD,List.getElem?_eq_getElem hi];rfl
 rw [e]
structure DdN (S:List (List Int)) (k:Nat) (O:List (List Int)):Prop where
 up:O.Pairwise fun a b=>nmLt a b=true
 mem:∀ q,q∈O↔q∈S.take k
theorem DdN.new {S O:List (List Int)} {k:Nat} {x:List Int} (h:DdN S k O) (hs:S.Pairwise fun a b=>nmLt b a=false) (hx:S[k]?=some x) (hne:∀ y,0 < k→S[k - 1]?=some y→y≠x):DdN S (k + 1) (O ++ [x]):=by
 obtain ⟨hk,e⟩:=List.getElem?_eq_some_iff.1 hx;have ht:S.take (k + 1)=S.take k ++ [x]:=by rw [List.take_succ_eq_append_getElem hk,e]
 refine ⟨?_,fun q=>?_⟩
 ·rw [List.pairwise_append]
  refine ⟨h.up,List.pairwise_singleton _ _,?_⟩;intro a ha b hb;obtain rfl:=List.mem_singleton.1 hb;have ha:=(h.mem a).1 ha;obtain ⟨i,hi,rfl⟩:=List.getElem_of_mem ha;rw [List.length_take] at hi;rw [List.getElem_take];have hP:=List.pairwise_iff_getElem.1 hs;have h1:nmLt b S[k - 1]=false:=by rw [← e];exact hP (k - 1) k (by omega) hk (by omega)
  have h2:S[k - 1]≠b:=hne _ (by omega) (List.getElem?_eq_getElem (by omega));have h3:nmLt S[k - 1] b=true:=by
   cases hc:nmLt S[k - 1] b with
   | true=>rfl
   | false=>exact absurd (Vy hc h1) h2
  rcases Nat.lt_or_ge i (k - 1) with hik | hik
  ·have h4:=hP i (k - 1) (by omega) (by omega) hik
   cases hc:nmLt S[i] b with
   | true=>rfl
   | false =>
    have h5:nmLt b S[i]=true:=by
     cases hd:nmLt b S[i] with
     | true=>rfl
     | false =>
      have h6:=Vy hc hd;rw [h6] at h4;rw [h4] at h3;cases h3
    have h6:=J0 h3 h5;rw [h6] at h4;cases h4
  ·obtain rfl:i=k - 1:=by omega
   exact h3
 ·rw [ht,List.mem_append,List.mem_append,h.mem q]
theorem DdN.old {S O:List (List Int)} {k:Nat} {x:List Int} (h:DdN S k O) (hx:S[k]?=some x) (h0 : 0 < k) (he:S[k - 1]?=some x):DdN S (k + 1) O:=by
 obtain ⟨hk,e⟩:=List.getElem?_eq_some_iff.1 hx;have ht:S.take (k + 1)=S.take k ++ [x]:=by rw [List.take_succ_eq_append_getElem hk,e]
 refine ⟨h.up,fun q=>?_⟩;rw [ht,List.mem_append,h.mem q,List.mem_singleton]
 constructor
 ·exact .inl
 ·rintro (h1 | rfl)
  ·exact h1
  ·refine List.mem_iff_getElem?.2 ⟨k - 1,?_⟩
   rw [List.getElem?_take,if_pos (by omega)];exact he
theorem DdN.all {S O:List (List Int)} {R:Out} (h:DdN S S.length O) (hp:∀ q,q∈S↔q∈setK R R.length) (hn:R≠[]) (hr:Up R) (h255:∀ y∈R,y.1.length≤255):O=Qe 257 R 0:=by
 refine rise_ext h.up (Hs 257 R [] hn hr.rise h255 (by simp)).up (fun q=>?_);rw [h.mem q,List.take_length,hp q,setK_all hn hr h255]
end Go.Proofs.YtkmbkpoclhbmgaaGreat
