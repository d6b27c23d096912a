/- Parts of the proof, put together: TrN, PenU, App, Grow, OneAt, RowS, Nam, TrM, TrW, TrX, Name01, Ref2. No condition beyond those that each part names. -/
import Derived.Lib.SlFresh
import Derived.Maps.AppendAt
import Derived.Deep.AppendSrc
import Derived.Deep.Upon
import Derived.Lib.AppendZeros
import Derived.Laws.IdiomStrings
import Derived.Lib.AppendZerosOnto
import Derived.Laws.StructEq
import Derived.Below
import Derived.Shelf.Abstract
import Derived.Laws.ResultCell
import Derived.Deep.Slices
import Derived.ChangeSame
import Derived.Laws.OwnMore
import Derived.Laws.Slices
import Derived.Lib.ConvBytes
import Derived.StringKeys
import Derived.Maps.Own
import Derived.Maps.OwnOps
import Derived.Maps.OwnSet
import Derived.WideShapes
import Derived.Deep.LoopGhost
import Derived.Test.YtkmbkpoclhbmgaaGreatPA1
set_option maxRecDepth 20000
set_option maxHeartbeats 6400000
namespace Go.Proofs.YtkmbkpoclhbmgaaGreat
open Go.RowKit
variable {w w' W V:World}
section
abbrev Ps (α:Type):=List Int→Option (α × Nat)
def Loc {α:Type} (f:Ps α):Prop:=∀ l v n,f l=some (v,n)→n≤l.length∧∀ l':List Int,n≤l'.length→l'.take n=l.take n→f l'=some (v,n)
def psR {α:Type} (v : α):Ps α:=fun _=>some (v,0)
def psF {α:Type}:Ps α:=fun _=>none
def psB {α β:Type} (f:Ps α) (g : α→Ps β):Ps β:=fun l =>
 match f l with
 | none=>none
 | some (v,n)=>match g v (l.drop n) with
  | none=>none
  | some (u,m)=>some (u,n + m)
def psZ {α:Type} (f:Ps α) (k:Int):Ps α:=fun l =>
 match f l with
 | none=>none
 | some (v,n)=>if (n:Int)=k then some (v,n) else none
def ulP:Ps Int:=fun l=>if (Zl l).2=0 then none else some (Zl l)
def txP:Ps (List Int):=fun l=>if (pre l).length < l.length∧(pre l).length≤255 then some (pre l,(pre l).length + 1) else none
def byP:Ps Int:=fun l=>match l with
 | []=>none
 | x :: _=>some (x,1)
section
variable {α β:Type}
theorem loc_R (v : α):Loc (psR v):=fun l u n h=>by
 injection h with h;injection h with h1 h2;subst h1 h2;exact ⟨Nat.zero_le _,fun _ _ _=>rfl⟩
theorem loc_F:Loc (psF:Ps α):=fun l u n h=>by cases h
theorem loc_B {f:Ps α} {g : α→Ps β} (hf:Loc f) (hg:∀ v,Loc (g v)):Loc (psB f g):=by
 intro l u k h;unfold psB at h;cases h1:f l with
 | none=>rw [h1] at h;cases h
 | some a =>
  obtain ⟨v,n⟩:=a;rw [h1] at h;simp only [] at h;cases h2:g v (l.drop n) with
  | none=>rw [h2] at h;cases h
  | some b =>
   obtain ⟨u',m⟩:=b;rw [h2] at h;simp only [Option.some.injEq,Prod.mk.injEq] at h;obtain ⟨rfl,rfl⟩:=h;obtain ⟨a1,a2⟩:=hf l v n h1;obtain ⟨b1,b2⟩:=hg v (l.drop n) u' m h2;rw [List.length_drop] at b1;refine ⟨by omega,fun l' hl ht=>?_⟩;have t1:l'.take n=l.take n:=by
    have:=congrArg (List.take n) ht
    rwa [List.take_take,List.take_take,Nat.min_eq_left (Nat.le_add_right _ _)] at this
   have t2:(l'.drop n).take m=(l.drop n).take m:=by
    have:=congrArg (List.drop n) ht
    rwa [List.drop_take,List.drop_take,Nat.add_sub_cancel_left] at this
   unfold psB;rw [a2 l' (by omega) t1];simp only [];rw [b2 (l'.drop n) (by rw [List.length_drop];omega) t2]
theorem loc_Z {f:Ps α} (hf:Loc f) (k:Int):Loc (psZ f k):=by
 intro l u n h;unfold psZ at h;cases h1:f l with
 | none=>rw [h1] at h;cases h
 | some a =>
  obtain ⟨v,m⟩:=a;rw [h1] at h;simp only [] at h
  split at h
  ·rename_i hm
   simp only [Option.some.injEq,Prod.mk.injEq] at h;obtain ⟨rfl,rfl⟩:=h;obtain ⟨a1,a2⟩:=hf l v m h1;refine ⟨a1,fun l' hl ht=>?_⟩;unfold psZ;rw [a2 l' hl ht];simp only [];rw [if_pos hm]
  ·cases h
theorem loc_by:Loc byP:=by
 intro l v n h;cases l with
 | nil=>cases h
 | cons x l =>
  injection h with h;injection h with h1 h2;subst h1 h2;refine ⟨by simp,fun l' hl ht=>?_⟩;cases l' with
  | nil=>simp at hl
  | cons y l'=>simp at ht;subst ht;rfl
theorem szN_take (k:Nat):∀ (l l':List Int) (n:Nat),szN k l=n→0 < n→l'.take n=l.take n→szN k l'=n:=by
 induction k with
 | zero=>intro l l' n h h0;simp [szN] at h;omega
 | succ k ih =>
  intro l l' n h h0 ht;cases l with
  | nil=>simp [szN] at h;omega
  | cons b l =>
   obtain ⟨n,rfl⟩:∃ m,n=m + 1:=⟨n - 1,by omega⟩
   cases l' with
   | nil=>simp at ht
   | cons b' l' =>
    simp only [List.take_succ_cons,List.cons.injEq] at ht;obtain ⟨rfl,ht⟩:=ht;simp only [szN] at h ⊢;by_cases hb:b' < 128
    ·rw [if_pos hb] at h ⊢;exact h
    ·rw [if_neg hb] at h ⊢
     by_cases hz:szN k l=0
     ·rw [if_pos hz] at h;omega
     ·rw [if_neg hz] at h
      have:=ih l l' n (by omega) (by omega) ht
      rw [if_neg (by omega),this]
theorem V7 {l:List Int} (h:(Zl l).2≠0):szN 10 l=(Zl l).2∧(Zl l).1=valN (l.take (szN 10 l))∧valN (l.take (szN 10 l)) < 18446744073709551616:=by
 unfold Zl at *
 split at h
 ·rename_i h1;rw [if_pos h1];exact ⟨rfl,rfl,h1⟩
 ·simp at h
theorem Hn:Loc ulP:=by
 intro l v n h;unfold ulP at h
 split at h
 ·cases h
 ·rename_i h0
  injection h with h;obtain ⟨h1,h2,h3⟩:=V7 h0;rw [h] at h1 h0 h2;simp only [] at h1 h0 h2;refine ⟨by have:=(Px 10 l).2;omega,fun l' hl ht=>?_⟩;have hs:=szN_take 10 l l' n h1 (by omega) ht;unfold ulP;have e:Zl l'=(v,n):=by
   refine uleb_yes hs ?_ ?_
   ·rw [ht,← h1];exact h2.symm
   ·rw [h2];exact h3
  rw [e];simp [h0]
theorem pre_take_eq:∀ (l l':List Int),(pre l).length < l.length→(pre l).length < l'.length→l'.take ((pre l).length + 1)=l.take ((pre l).length + 1)→pre l'=pre l:=by
 intro l
 induction l with
 | nil=>intro l' h;simp at h
 | cons x l ih =>
  intro l' h h' ht;cases l' with
  | nil=>simp at h'
  | cons y l' =>
   simp only [List.take_succ_cons,List.cons.injEq] at ht;obtain ⟨rfl,ht⟩:=ht;simp only [pre] at h h' ht ⊢;by_cases hy:y=0
   ·rw [if_pos hy,if_pos hy]
   ·rw [if_neg hy] at h h' ht ⊢
    rw [if_neg hy];simp only [List.length_cons,Nat.add_lt_add_iff_right] at h h' ht;rw [ih l' h h' ht]
theorem loc_tx:Loc txP:=by
 intro l v n h;unfold txP at h
 split at h
 ·rename_i h0
  injection h with h;injection h with h1 h2;subst h1 h2;refine ⟨by omega,fun l' hl ht=>?_⟩
  have:=pre_take_eq l l' h0.1 (by omega) ht
  unfold txP;rw [this,if_pos ⟨by omega,h0.2⟩]
 ·cases h
theorem loc_front {f:Ps α} (hf:Loc f) {l:List Int} {k:Nat} {v : α} {n:Nat} (h:f (l.take k)=some (v,n)):f l=some (v,n)∧n≤k∧n≤l.length:=by
 obtain ⟨h1,h2⟩:=hf _ _ _ h;rw [List.length_take] at h1;refine ⟨h2 l (by omega) ?_,by omega,by omega⟩;rw [List.take_take,Nat.min_eq_left (by omega)]
theorem loc_back {f:Ps α} (hf:Loc f) {l:List Int} {k:Nat} {v : α} {n:Nat} (h:f l=some (v,n)) (hk:n≤k):f (l.take k)=some (v,n):=by
 obtain ⟨h1,h2⟩:=hf _ _ _ h;refine h2 _ (by rw [List.length_take];omega) ?_
 rw [List.take_take,Nat.min_eq_left hk]
end
abbrev Cs:=Nat × Bool
structure Sim {α:Type} (f:Ps α) (xs:List Int) (s:Cs) (v : α) (s':Cs):Prop where
 le:s.1≤s'.1
 ok:s'.2=false→s.2=false∧f (xs.drop s.1)=some (v,s'.1 - s.1)
 no:s.2=false→s'.2=true→f (xs.drop s.1)=none
section
variable {α β:Type} {xs:List Int} {s s1 s2:Cs} {v : α} {u : β}
theorem Sim.R (v : α) (s:Cs):Sim (psR v) xs s v s:=⟨Nat.le_refl _,fun h=>⟨h,(by unfold psR;rw [Nat.sub_self])⟩,fun h h'=>(by rw [h] at h';cases h')⟩
theorem Sim.F (v : α) (h1:s.1≤s1.1) (h2:s1.2=true):Sim psF xs s v s1:=⟨h1,fun h=>(by rw [h] at h2;cases h2),fun _ _=>rfl⟩
theorem Sim.B {f:Ps α} {g : α→Ps β} (h:Sim f xs s v s1) (k:Sim (g v) xs s1 u s2):Sim (psB f g) xs s u s2:=by
 have h0:=h.le;have k0:=k.le;refine ⟨by omega,fun e=>?_,fun e e'=>?_⟩
 ·obtain ⟨k1,k2⟩:=k.ok e
  obtain ⟨h1,h2⟩:=h.ok k1;refine ⟨h1,?_⟩;unfold psB;rw [h2];simp only [];rw [List.drop_drop,show s.1 + (s1.1 - s.1)=s1.1 by omega,k2];simp only [Option.some.injEq,Prod.mk.injEq,true_and];omega
 ·unfold psB
  cases hb:s1.2 with
  | true=>rw [h.no e hb]
  | false =>
   rw [(h.ok hb).2];simp only [];rw [List.drop_drop,show s.1 + (s1.1 - s.1)=s1.1 by omega,k.no hb e']
theorem Sim.bad {f:Ps α} (h1:s.1≤s1.1) (h2:s1.2=true) (h3:s.2=false→f (xs.drop s.1)=none):Sim f xs s v s1:=⟨h1,fun h=>(by rw [h] at h2;cases h2),fun h _=>h3 h⟩
theorem Sim.Z {f:Ps α} {k:Int} (h:Sim f xs s v s1):Sim (psZ f k) xs s v (s1.1,s1.2 || !decide (((s1.1 - s.1:Nat):Int)=k)):=by
 refine ⟨h.le,fun e=>?_,fun e e'=>?_⟩
 ·simp only [Bool.or_eq_false_iff,Bool.not_eq_false',decide_eq_true_eq] at e
  obtain ⟨h1,h2⟩:=h.ok e.1;refine ⟨h1,?_⟩;unfold psZ;rw [h2];simp only [];rw [if_pos e.2]
 ·unfold psZ
  cases hb:s1.2 with
  | true=>rw [h.no e hb]
  | false =>
   rw [(h.ok hb).2];simp only [hb,Bool.false_or,Bool.not_eq_true',decide_eq_false_iff_not] at e' ⊢;rw [if_neg e']
end
def ulS (xs:List Int) (s:Cs):Int × Cs:=if s.2 then (0,s) else ((Zl (xs.drop s.1)).1,(s.1 + (Zl (xs.drop s.1)).2,decide ((Zl (xs.drop s.1)).2=0)))
def txS (xs:List Int) (s:Cs):List Int × Cs :=
 if s.2=false∧(pre (xs.drop s.1)).length < (xs.drop s.1).length∧(pre (xs.drop s.1)).length≤255 then (pre (xs.drop s.1),(s.1 + (pre (xs.drop s.1)).length + 1,false)) else ([],(s.1,true))
def byS (xs:List Int) (s:Cs):Int × Cs:=if s.2=false∧s.1 < xs.length then (xs.getD s.1 0,(s.1 + 1,false)) else (0,(s.1,true))
theorem Hz (xs:List Int) (s:Cs):Sim ulP xs s (ulS xs s).1 (ulS xs s).2:=by
 unfold ulS;cases hb:s.2 with
 | true=>exact Sim.bad (Nat.le_refl _) hb (fun h=>by rw [h] at hb;cases hb)
 | false =>
  refine ⟨Nat.le_add_right _ _,fun e=>⟨hb,?_⟩,fun _ e=>?_⟩
  ·simp only [Bool.false_eq_true,if_false,decide_eq_false_iff_not] at e ⊢
   unfold ulP;rw [if_neg e,Nat.add_sub_cancel_left]
  ·simp only [Bool.false_eq_true,if_false,decide_eq_true_eq] at e
   unfold ulP;rw [if_pos e]
theorem Pd (xs:List Int) (s:Cs):Sim txP xs s (txS xs s).1 (txS xs s).2:=by
 unfold txS
 split
 ·rename_i h
  refine ⟨by simp only [];omega,fun _=>⟨h.1,?_⟩,fun _ e=>by cases e⟩;unfold txP;rw [if_pos h.2];simp only [Option.some.injEq,Prod.mk.injEq,true_and];omega
 ·rename_i h
  refine Sim.bad (Nat.le_refl _) rfl (fun e=>?_);unfold txP;rw [if_neg (fun h2=>h ⟨e,h2⟩)]
theorem sim_by (xs:List Int) (s:Cs):Sim byP xs s (byS xs s).1 (byS xs s).2:=by
 unfold byS
 split
 ·rename_i h
  refine ⟨Nat.le_succ _,fun _=>⟨h.1,?_⟩,fun _ e=>by cases e⟩;rw [List.drop_eq_getElem_cons h.2];simp only [byP,Option.some.injEq,Prod.mk.injEq];exact ⟨by simp [h.2],by omega⟩
 ·rename_i h
  refine Sim.bad (Nat.le_refl _) rfl (fun e=>?_);rw [List.drop_eq_nil_of_le (by simp [e] at h;omega)];rfl
theorem Sa {xs:List Int} {s:Cs} : 0≤(ulS xs s).1∧(ulS xs s).1 < 18446744073709551616:=by
 unfold ulS
 split
 ·simp
 ·simp only []
  by_cases h:(Zl (xs.drop s.1)).2=0
  ·rw [Ms h];simp
  ·obtain ⟨_,h2,h3⟩:=V7 h
   have:=Gl ((xs.drop s.1).take (szN 10 (xs.drop s.1)))
   omega
theorem byS_bd {xs:List Int} {s:Cs} (h:∀ x∈xs,0≤x∧x < 256) : 0≤(byS xs s).1∧(byS xs s).1 < 256:=by
 unfold byS
 split
 ·rename_i h1
  have e:xs.getD s.1 0=xs[s.1]'h1.2:=by simp [h1.2]
  simp only [e];exact h _ (List.getElem_mem h1.2)
 ·simp
structure Ex where
 kind:Int
 weak:Bool
 value:Int
 resolver:Int
 ordinal:Int
 other:List Int
deriving DecidableEq
def Ex.zero:Ex:=⟨0,false,0,0,0,[]⟩
abbrev Kid:=List Int × Int
structure Nd where
 ex:Option Ex
 kids:List Kid
def wkN (f:Int):Bool:=decide (f / 4 % 2=1)
def knN (f:Int):Int:=if f / 4 % 2=1 then f - 4 else f
def sayK (f:Int):Ps Ex :=
 if knN f=0 then psB ulP fun v=>psR ⟨1,wkN f,v,0,0,[]⟩
 else if knN f=2 then psB ulP fun v=>psR ⟨2,wkN f,v,0,0,[]⟩
 else if knN f=8 then psB ulP fun o=>psB txP fun t=>psR ⟨3,wkN f,0,0,o,t⟩
 else if knN f=16 then psB ulP fun v=>psB ulP fun r=>psR ⟨4,wkN f,v,r,0,[]⟩
 else psF
def sayP:Ps Ex:=psB ulP sayK
def meets (e:List Int) (l:List Kid):Bool:=l.any fun k=>k.1.getD 0 0 == e.getD 0 0
def Js:Nat→List Kid→Ps (List Kid)
 | 0,acc=>psR acc
 | k + 1,acc=>psB txP fun e=>psB ulP fun pl=>if e=[]∨meets e acc=true then psF else Js k (acc ++ [(e,pl)])
def exP (n:Int):Ps (Option Ex):=if n=0 then psR none else psB (psZ sayP n) fun x=>psR (some x)
def Ko:Ps Nd:=psB ulP fun n=>psB (exP n) fun x=>psB byP fun m=>psB (Js m.toNat []) fun k=>psR ⟨x,k⟩
theorem loc_sayK (f:Int):Loc (sayK f):=by
 unfold sayK
 split
 ·exact loc_B Hn fun _=>loc_R _
 split
 ·exact loc_B Hn fun _=>loc_R _
 split
 ·exact loc_B Hn fun _=>loc_B loc_tx fun _=>loc_R _
 split
 ·exact loc_B Hn fun _=>loc_B Hn fun _=>loc_R _
 ·exact loc_F
theorem Th:Loc sayP:=loc_B Hn loc_sayK
theorem loc_kids (k:Nat):∀ acc,Loc (Js k acc):=by
 induction k with
 | zero=>exact fun acc=>loc_R _
 | succ k ih =>
  refine fun acc=>loc_B loc_tx fun e=>loc_B Hn fun pl=>?_
  split
  ·exact loc_F
  ·exact ih _
theorem loc_ex (n:Int):Loc (exP n):=by
 unfold exP
 split
 ·exact loc_R _
 ·exact loc_B (loc_Z Th n) fun _=>loc_R _
theorem loc_node:Loc Ko:=loc_B Hn fun n=>loc_B (loc_ex n) fun _=>loc_B loc_by fun _=>loc_B (loc_kids _ _) fun _=>loc_R _
def ndAt (xs:List Int) (p:Int):Option Nd:=if 0≤p∧p < xs.length then (Ko (xs.drop p.toNat)).map Prod.fst else none
end
section
variable {w w':World} {lo hi a:Nat} {xs:List Int} {s:Cs} {big:Bool}
abbrev PenS (w:World) (lo hi a:Nat) (xs:List Int) (s:Cs) (big:Bool):Prop:=Pen w lo hi a xs s.1 big s.2
theorem Ga (h:PenS w lo hi a xs s big) :
  Calls Tryz.prog 132 #[.pointer (some ⟨a,0,none⟩)] w fun e w'=>e=.returned (.int .u64 (ulS xs s).1)∧PenS w' lo hi a xs (ulS xs s).2 big∧w.grownBy w' (some a):=by
 obtain ⟨p,bad⟩:=s;have h':=h;obtain ⟨⟨base,q,c,hc,hl,ho⟩,h1,h2,h3⟩:=h;unfold ulS;simp only [] at hc ⊢;cases bad with
 | true =>
  refine (uleb_bad hc).mono ?_
  rintro e w' ⟨rfl,hc',hg⟩;exact ⟨rfl,Pen.same h' hg,Mr hg _⟩
 | false =>
  refine (uleb_any hc).mono ?_
  rintro e w' ⟨rfl,hc',hg⟩;exact ⟨rfl,⟨⟨_,_,_,hc',hl,ho⟩,h1,h2,Nat.le_trans h3 hg.size⟩,hg⟩
theorem Pn (h:PenS w lo hi a xs s big) :
  Calls Tryz.prog 135 #[.pointer (some ⟨a,0,none⟩),.int .i64 255] w fun e w'=>e=.returned (.string (strOfNums (txS xs s).1))∧PenS w' lo hi a xs (txS xs s).2 big∧w.grownBy w' (some a):=by
 obtain ⟨p,bad⟩:=s;obtain ⟨⟨base,q,c,hc,hl,ho⟩,h1,h2,h3⟩:=h;unfold txS;simp only [] at hc ⊢;by_cases hx:bad=false∧(pre (xs.drop p)).length < (xs.drop p).length∧(pre (xs.drop p)).length≤255
 ·rw [if_pos hx]
  obtain ⟨rfl,hx⟩:=hx;refine (text_ok hc 255 ⟨hx.1,by omega⟩).mono ?_
  rintro e w' ⟨rfl,hc',hg⟩;exact ⟨rfl,⟨⟨_,_,_,hc',hl,ho⟩,h1,h2,Nat.le_trans h3 hg.size⟩,hg⟩
 ·rw [if_neg hx]
  refine (text_no hc 255 ?_).mono ?_
  ·cases bad with
   | true=>exact .inl rfl
   | false=>exact .inr (by unfold Jh;rw [if_neg (fun h=>hx ⟨rfl,h.1,by omega⟩)])
  ·rintro e w' ⟨rfl,hc',hg⟩
   exact ⟨rfl,⟨⟨_,_,_,hc',hl,ho⟩,h1,h2,Nat.le_trans h3 hg.size⟩,hg⟩
theorem pen_by (h:PenS w lo hi a xs s big) :
  Calls Tryz.prog 134 #[.pointer (some ⟨a,0,none⟩),.int .i64 1] w fun e w'=>e=.returned (.int .u64 (byS xs s).1)∧PenS w' lo hi a xs (byS xs s).2 big∧w.grownBy w' (some a):=by
 obtain ⟨p,bad⟩:=s;have h':=h;obtain ⟨⟨base,q,c,hc,hl,ho⟩,h1,h2,h3⟩:=h;unfold byS;simp only [] at hc h' ⊢;by_cases hx:bad=false∧p < xs.length
 ·rw [if_pos hx]
  obtain ⟨rfl,hx⟩:=hx;refine (number1 hc hx rfl).mono ?_
  rintro e w' ⟨rfl,hc',hg⟩;exact ⟨rfl,⟨⟨_,_,_,hc',hl,ho⟩,h1,h2,Nat.le_trans h3 hg.size⟩,hg⟩
 ·rw [if_neg hx]
  refine (number_no hc 1 ?_).mono ?_
  ·cases bad with
   | true=>exact .inl rfl
   | false=>exact .inr (.inr (by have h1:¬ p < xs.length:=fun h=>hx ⟨rfl,h⟩;omega))
  ·rintro e w' ⟨rfl,hc',hg⟩
   exact ⟨rfl,⟨⟨_,_,_,hc',hl,ho⟩,h1,h2,Nat.le_trans h3 hg.size⟩,hg⟩
theorem Gz (h:PenS w lo hi a xs s big) :
  Calls Tryz.prog 137 #[.pointer (some ⟨a,0,none⟩)] w fun e w'=>e=.returned (.tuple #[])∧PenS w' lo hi a xs (s.1,true) big∧w.grownBy w' (some a):=by
 obtain ⟨⟨base,q,c,hc,hl,ho⟩,h1,h2,h3⟩:=h;refine (Hc hc).mono ?_
 rintro e w' ⟨rfl,hc',hg⟩;exact ⟨rfl,⟨⟨_,_,_,hc',hl,ho⟩,h1,h2,Nat.le_trans h3 hg.size⟩,hg⟩
end
section
variable {w:World} {base:Nat} {q:Option Addr} {c:Nat}
theorem H9:(Tryz.prog.info? 5).map (fun i=>(i.zero,i.size,i.bytes))=some (some (.int .u8 0),1,1):=by kernel_rfl
theorem Yv (v:Value) (n:Nat) (xs:List Value) (h:w.ownsRow base 5 1 v n xs) :
  (Builtin.append_ #[29,29] 29 #[v,.slice none 0 0]).run Tryz.prog w=.ok v w:=by
 obtain ⟨i,hi,hz,hs,hb⟩:=info_parts H9;rcases h.2 with ⟨rfl,_⟩ | ⟨g,cap,cur,rfl,_,hg,hn,hm,hc,_⟩
 ·simp [Builtin.append_,run_underlying Tryz.underlying29,sizeOf,typeInfo,hi,Builtin.lenOf,Builtin.firstCells,Result.andThen]
 ·simp [Builtin.append_,run_underlying Tryz.underlying29,sizeOf,typeInfo,hi,Builtin.lenOf,hn,Builtin.firstCells,storeCells,Result.andThen]
theorem wp_append_bytes {ops:Array Oper} {rest:List Oper} {o:Oper} {a:Act} {Q:Exit→Act→World→Prop} (hgd:o.guard=none) (s x:Operand)
  (ho:o.op=.call { callee:=.builtin .append,args:=#[s,x],argTypes:=#[29,29] }) (hty:o.type=29)
  (v:Value) (n:Nat) (xs:List Value) (hs:a.eval s=v) (hown:w.ownsRow base 5 1 v n xs)
  (news:List Int) (m:Nat) (hm:news.length=m) (hx:a.eval x=.slice q m c) (hb:Qk w q c news)
  (h63:n + m≤140737488355328) (hbase:base≤w.heap.size)
  (h:∀ v' w',w'.ownsRow base 5 1 v' (n + m) (xs ++ news.map (Value.int .u8))→w.grownBy w' v.ownBlock→wpList Tryz.prog ops Q rest (a.put o.dst v') w'):wpList Tryz.prog ops Q (o :: rest) a w:=by
 subst hm;obtain ⟨i,hi,hz0,hz1,hz2⟩:=info_parts H9;rcases hb.ways with ⟨rfl,rfl,rfl⟩ | ⟨ad,rfl,hc⟩
 ·refine Lib.wpList_append_run_sl w hgd s x _ ho v (.slice none 0 0) hs hx (by rw [hty];exact Yv v n xs hown) ?_
  exact h v w (by simpa using hown) (Qq w _)
 ·refine wpList_append_own w hgd s x _ ho base 5 i (.int .u8 0) 1 1 Tryz.underlying29 hi hz0 hz1 hz2 rfl (by decide) v n xs hs hown ad news.length c (news.map (Value.int .u8)) hx (by simp) ?_ ?_ (by unfold maxLen;omega) (by omega) hbase ?_
  · intro j u hu
    have hj:j < news.length:=by
     rcases Nat.lt_or_ge j news.length with h | h
     ·exact h
     ·simp [h] at hu
    rw [hc j hj];simp [hj] at hu ⊢
    exact hu
  · intro u hu
    obtain ⟨y,_,rfl⟩:=List.mem_map.1 hu;rfl
  · intro v' w' h1 h2 _
    exact h v' w' h1 h2
theorem Gu {ops:Array Oper} {rest:List Oper} {o:Oper} {a:Act} {Q:Exit→Act→World→Prop} (hgd:o.guard=none) (s x:Operand)
  (ho:o.op=.call { callee:=.builtin .append,args:=#[s,x],argTypes:=#[29,29] }) (hty:o.type=29)
  (v:Value) (n:Nat) (xs:List Value) (hs:a.eval s=v) (hown:w.ownsRow base 5 1 v n xs)
  (news:List Int) (m:Nat) (hm:news.length=m) (hx:a.eval x=.slice q m c) (hb:Qk w q c news)
  (h63:n + m≤140737488355328) (hbase:base≤w.heap.size)
  (h:∀ v' w',w'.ownsRow base 5 1 v' (n + m) (xs ++ news.map (Value.int .u8))→w.grownBy w' v.ownBlock→(v'.ownBlock=v.ownBlock∨v'.ownBlock=some w.heap.size)→wpList Tryz.prog ops Q rest (a.put o.dst v') w'):wpList Tryz.prog ops Q (o :: rest) a w:=by
 subst hm;obtain ⟨i,hi,hz0,hz1,hz2⟩:=info_parts H9;rcases hb.ways with ⟨rfl,rfl,rfl⟩ | ⟨ad,rfl,hc⟩
 ·refine Lib.wpList_append_run_sl w hgd s x _ ho v (.slice none 0 0) hs hx (by rw [hty];exact Yv v n xs hown) ?_
  exact h v w (by simpa using hown) (Qq w _) (.inl rfl)
 ·refine wpList_append_own_at w hgd s x _ ho base 5 i (.int .u8 0) 1 1 Tryz.underlying29 hi hz0 hz1 hz2 rfl (by decide) v n xs hs hown ad news.length c (news.map (Value.int .u8)) hx (by simp) ?_ ?_ (by unfold maxLen;omega) (by omega) hbase ?_
  · intro j u hu
    have hj:j < news.length:=by
     rcases Nat.lt_or_ge j news.length with h | h
     ·exact h
     ·simp [h] at hu
    rw [hc j hj];simp [hj] at hu ⊢
    exact hu
  · intro u hu
    obtain ⟨y,_,rfl⟩:=List.mem_map.1 hu;rfl
  · intro v' w' h1 h2 _ h5
    exact h v' w' h1 h2 h5
end
section
open Go.RowKit Go.ChangeShapes Go.WideShapes Go.Deep
variable {w w':World} {base g:Nat}
theorem Qw {w1:World} (h:w.grownBy w1 none) (k:w1.grownBy w' (some g)) (hg:w.heap.size≤g):w.grownBy w' none :=
 ⟨k.os.trans h.os,k.tape.trans h.tape,k.output.trans h.output,Nat.le_trans h.size k.size,fun i hi _ =>
  (k.block i (Nat.lt_of_lt_of_le hi h.size) (fun e=>by injection e with e;omega)).trans (h.block i hi (by simp))⟩
theorem grown1 (w:World) (o:Obj):w.grownBy (w.alloc o) none:=World.grownBy_alloc w o none
theorem grown2 (w:World) (o o':Obj):w.grownBy ((w.alloc o).alloc o') none:=grown_alloc (grown1 w o) o'
theorem Qv {a:Addr} {v:Value} (hg:w.grownBy w' none) (h:w.cell? a=some v):w'.cell? a=some v:=hg.cell h (by simp)
theorem Qp {v:Value} {n:Nat} {xs:List Value} {T:TypeId} {k:Nat} (h:w.ownsRow base T k v n xs):∃ q c,v=.slice q n c:=by
 rcases h.2 with ⟨rfl,rfl⟩ | ⟨g,cap,cur,rfl,_⟩
 ·exact ⟨_,_,rfl⟩
 ·exact ⟨_,_,rfl⟩
theorem Jc {w1 w2:World} {v:Value} {B:Nat} (h:w.grownBy w1 none) (hg:w1.grownBy w2 v.ownBlock) (hv:∀ g,v.ownBlock=some g→B≤g) (hB:w.heap.size≤B):w.grownBy w2 none:=by
 cases hb:v.ownBlock with
 | none=>rw [hb] at hg;exact Qz h hg
 | some g=>rw [hb] at hg;exact Qw h hg (Nat.le_trans hB (hv g hb))
theorem Qy {wr:World} {v:Value} {n B:Nat} {xs:List Value} {T:TypeId} {z:Nat} (h:wr.ownsRow B T z v n xs) (hg:wr.grownBy w' none):w'.ownsRow B T z v n xs :=
 h.kept hg (by cases v.ownBlock <;> simp)
theorem bytes_inj:∀ {xs ys:List Int},Q3 xs→Q3 ys→Lib.bytesOf xs=Lib.bytesOf ys→xs=ys
 | [],[],_,_,_=>rfl
 | [],_ :: _,_,_,h=>by simp [Lib.bytesOf] at h
 | _ :: _,[],_,_,h=>by simp [Lib.bytesOf] at h
 | x :: xs,y :: ys,hx,hy,h=>by
  simp only [Lib.bytesOf,List.map_cons,List.cons.injEq] at h;have a:=hx x (List.mem_cons_self ..);have b:=hy y (List.mem_cons_self ..);have e:(UInt8.ofNat x.toNat).toNat=(UInt8.ofNat y.toNat).toNat:=by rw [h.1]
  simp only [UInt8.toNat_ofNat'] at e;rw [bytes_inj (fun z hz=>hx z (List.mem_cons_of_mem _ hz)) (fun z hz=>hy z (List.mem_cons_of_mem _ hz)) h.2,show x=y by omega]
theorem text_is {xs ys:List Int} (hx:Q3 xs) (hy:Q3 ys):((strOfNums xs).toList == Lib.bytesOf ys)=decide (xs=ys):=by
 rw [Lib.strOfNums_toList];by_cases h:xs=ys
 ·subst h;simp
 ·rw [decide_eq_false h,beq_eq_false_iff_ne]
  exact fun e=>h (bytes_inj hx hy e)
end
section
def Xv (w:World) (g:Nat) (v:Value) (T:TypeId):Prop:=w.heap[g]?=some (.cells #[v] T (0,0))
section
variable {g:Nat} {v:Value} {T:TypeId}
theorem Xv.c (h:Xv w g v T):w.cell? ⟨g,0,none⟩=some v:=by rw [Qm h];rfl
theorem Xv.f (h:Xv w g v T):w.frozen? ⟨g,0,none⟩=false:=Xg h
theorem Xv.lt (h:Xv w g v T):g < w.heap.size:=lt_of_block h
theorem Xv.kept {row:Option Nat} (h:Xv w g v T) (hg:w.grownBy w' row) (hr:row≠some g):Xv w' g v T:=(hg.block g (lt_of_block h) (fun e=>hr e.symm)).trans h
theorem Xv.grown (h:Xv w g v T) (hg:w.grownBy w' none):Xv w' g v T:=h.kept hg (by simp)
theorem Xv.set (h:Xv w g v T) (u:Value):Xv (w.setCell ⟨g,0,none⟩ u) g u T:=by unfold Xv;rw [heap_setCell_same w g 0 _ _ _ h];rfl
theorem Xv.new (w:World) (v:Value) (T:TypeId):Xv (w.alloc (.cells #[v] T)) w.heap.size v T:=heap_alloc_new w _
end
theorem Yd {r:Option Nat} {W W':World} {k:Nat} {o:Obj} (hg:W.grownBy W' r) (h:W.heap[k]?=some o) (hr:r≠some k):W'.heap[k]?=some o :=
 (hg.block k (Array.getElem?_eq_some_iff.1 h).1 (fun e=>hr e.symm)).trans h
end
section
variable {w w':World} {base:Nat}
theorem Zk {w1:World} {a g:Nat} (h:w.grownBy w1 (some a)) (k:w1.grownBy w' (some g)) (hg:w.heap.size≤g):w.grownBy w' (some a) :=
 ⟨k.os.trans h.os,k.tape.trans h.tape,k.output.trans h.output,Nat.le_trans h.size k.size,fun i hi hn =>
  (k.block i (Nat.lt_of_lt_of_le hi h.size) (fun e=>by injection e with e;omega)).trans (h.block i hi hn)⟩
theorem grown_then {w1:World} {a:Option Nat} (h:w.grownBy w1 a) (k:w1.grownBy w' none):w.grownBy w' a :=
 ⟨k.os.trans h.os,k.tape.trans h.tape,k.output.trans h.output,Nat.le_trans h.size k.size,fun i hi hn =>
  (k.block i (Nat.lt_of_lt_of_le hi h.size) (by simp)).trans (h.block i hi hn)⟩
theorem grown_same {w1:World} {a:Nat} (h:w.grownBy w1 (some a)) (k:w1.grownBy w' (some a)):w.grownBy w' (some a) :=
 ⟨k.os.trans h.os,k.tape.trans h.tape,k.output.trans h.output,Nat.le_trans h.size k.size,fun i hi hn =>
  (k.block i (Nat.lt_of_lt_of_le hi h.size) hn).trans (h.block i hi hn)⟩
theorem grown_row {w1:World} {a:Nat} {v:Value} (h:w.grownBy w1 (some a)) (k:w1.grownBy w' v.ownBlock) (hv:∀ g,v.ownBlock=some g→w.heap.size≤g):w.grownBy w' (some a):=by
 cases hb:v.ownBlock with
 | none=>rw [hb] at k;exact grown_then h k
 | some g=>rw [hb] at k;exact Zk h k (hv g hb)
theorem Pen.row {lo hi a:Nat} {xs:List Int} {p:Nat} {big bad:Bool} {v:Value} (h:Pen w lo hi a xs p big bad) (k:w.grownBy w' v.ownBlock) (hv:∀ g,v.ownBlock=some g→hi≤g):Pen w' lo hi a xs p big bad:=by
 cases hb:v.ownBlock with
 | none=>rw [hb] at k;exact h.same k
 | some g=>rw [hb] at k;exact h.kept k (.inr (hv g hb))
structure Kx (P:Program) (T TS:TypeId) (k by':Nat):Prop where
 under:P.underlying TS=some (.slice T)
 info:∃ i z,P.info? T=some i∧i.zero=some z∧i.size=k∧i.bytes=by'∧z.cells.size=k
 pos : 0 < k
theorem Kx.mk' {P:Program} {T TS:TypeId} {k by':Nat} (hu:P.underlying TS=some (.slice T)) {z:Value} (hi:(P.info? T).map (fun i=>(i.zero,i.size,i.bytes))=some (some z,k,by')) (hz:z.cells.size=k) (hk : 0 < k):Kx P T TS k by':=by
 obtain ⟨i,h1,h2,h3,h4⟩:=info_parts hi;exact ⟨hu,⟨i,z,h1,h2,h3,h4,hz⟩,hk⟩
theorem Zv {T TS:TypeId} {k by':Nat} (st:Kx Tryz.prog T TS k by') {ops:Array Oper} {rest:List Oper} {o:Oper} {a:Act} {Q:Exit→Act→World→Prop} (hgd:o.guard=none) (s x:Operand)
  (ho:o.op=.call { callee:=.builtin .append,args:=#[s,x],argTypes:=#[TS,TS] })
  (v:Value) (n:Nat) (xs:List Value) (hs:a.eval s=v) (hown:w.ownsRow base T k v n xs) (cs:List Value) (hl:cs.length=k) (g:Nat) (hx:a.eval x=.slice (some ⟨g,0,none⟩) 1 1)
  (hb:w.heap[g]?=some (.cells cs.toArray T (0,0))) (h1:∀ u∈cs,u.oneCell'=true)
  (h63:(n + 1) * by'≤140737488355328) (hby : 0 < by') (hbase:base≤w.heap.size)
  (h:∀ v' w',w'.ownsRow base T k v' (n + 1) (xs ++ cs)→w.grownBy w' v.ownBlock→wpList Tryz.prog ops Q rest (a.put o.dst v') w'):wpList Tryz.prog ops Q (o :: rest) a w:=by
 obtain ⟨i,z,hi,hz0,hz1,hz2,hzs⟩:=st.info;refine wpList_append_own w hgd s x _ ho base T i z k by' st.under hi hz0 hz1 hz2 hzs st.pos v n xs hs hown ⟨g,0,none⟩ 1 1 cs hx (by rw [hl,Nat.one_mul]) ?_ h1 (by have:=Nat.le_mul_of_pos_right (n + 1) hby;unfold maxLen;omega) h63 hbase ?_
 ·intro j u hu
  rw [Xd,Qm hb,← hu];simp
 ·intro v' w' h2 h3 _
  exact h v' w' h2 h3
theorem Bg {T TS:TypeId} {k by':Nat} (st:Kx Tryz.prog T TS k by') {ops:Array Oper} {o:Oper} {a:Act} {K:Act→World→Prop} {Q:Exit→Act→World→Prop} {E:Prop} (hgd:o.guard=none) (s x:Operand)
  (ho:o.op=.call { callee:=.builtin .append,args:=#[s,x],argTypes:=#[TS,TS] })
  (v:Value) (n m:Nat) (xs:List Value) (hs:a.eval s=v) (hown:w.ownsRow base T k v n xs) (cs:List Value) (hl:cs.length=m * k) (g:Nat) (hx:a.eval x=.slice (some ⟨g,0,none⟩) m m)
  (hb:w.heap[g]?=some (.cells cs.toArray T (0,0))) (h1:∀ u∈cs,u.oneCell'=true)
  (h63:(n + m) * by'≤140737488355328) (hby : 0 < by') (hbase:base≤w.heap.size)
  (h:∀ v' w',w'.ownsRow base T k v' (n + m) (xs ++ cs)→w.grownBy w' v.ownBlock→K (a.put o.dst v') w') :
  if Region.wanted o (yielded ops a.tmps)=true then Oper.wp Tryz.prog o a w K Q else E:=by
 have hw:Region.wanted o (yielded ops a.tmps)=true:=by simp [Region.wanted,hgd]
 rw [if_pos hw];obtain ⟨i,z,hi,hz0,hz1,hz2,hzs⟩:=st.info;obtain ⟨v',w',hr,h2,h3,_,_⟩:=run_append_own_at (P:=Tryz.prog) w base TS o.type T i z k by' st.under hi hz0 hz1 hz2 hzs st.pos v n xs hown ⟨g,0,none⟩ m m cs hl
  (by
    intro j u hu;rw [Xd,Qm hb,← hu];simp)
  h1 (by have:=Nat.le_mul_of_pos_right (n + m) hby;unfold maxLen;omega) h63 hbase
 exact Lib.wp_append_run w s x _ _ ho _ _ hs hx _ _ hr (h v' w' h2 h3)
theorem Gw {α:Type} {f : α→List Value} {k:Nat} (hf:∀ x,(f x).length=k) (l:List α):(l.flatMap f).length=l.length * k:=by
 induction l with
 | nil=>simp
 | cons x l ih=>rw [List.flatMap_cons,List.length_append,hf,ih,List.length_cons,Nat.succ_mul,Nat.add_comm]
theorem flat_at {α:Type} {f : α→List Value} {k:Nat} (hf:∀ x,(f x).length=k) (l:List α) (i j:Nat) (x : α) (h:l[i]?=some x) (hj:j < k):(l.flatMap f)[i * k + j]?=(f x)[j]?:=by
 induction l generalizing i with
 | nil=>simp at h
 | cons y l ih =>
  rw [List.flatMap_cons];cases i with
  | zero =>
   simp only [List.getElem?_cons_zero,Option.some.injEq] at h;subst h;rw [Nat.zero_mul,Nat.zero_add,List.getElem?_append_left (by rw [hf];exact hj)]
  | succ i =>
   rw [List.getElem?_append_right (by rw [hf,Nat.succ_mul];omega),hf];have e:(i + 1) * k + j - k=i * k + j:=by rw [Nat.succ_mul];omega
   rw [e];exact ih i (by simpa using h)
theorem Jz {T:TypeId} {k n c:Nat} {q:Option Addr} {α:Type} {f : α→List Value} {l:List α} (hf:∀ x,(f x).length=k) (h:w.ownsRow base T k (.slice q n c) n (l.flatMap f)) {i:Nat} {x : α} (hx:l[i]?=some x) {j:Nat} (hj:j < k) :
  ∃ g,q=some ⟨g,0,none⟩∧w.cell? ⟨g,i * k + j,none⟩=(f x)[j]?:=by
 have hil:i < l.length:=by
  rcases Nat.lt_or_ge i l.length with h1 | h1
  ·exact h1
  ·simp [h1] at hx
 have h':=h;obtain ⟨hl,hn | ⟨g,cap,cur,hv,_,hg,hle,hm,hs,ht⟩⟩:=h
 ·rw [Gw hf,hn.2,Nat.zero_mul] at hl
  have : 0 < l.length * k:=Nat.mul_pos (by omega) (by omega);omega
 ·injection hv with e1 e2 e3
  subst e1 e3;refine ⟨g,rfl,?_⟩;have hr:=flat_at hf l i j x hx hj;have hjl:j < (f x).length:=by rw [hf];exact hj
  have hc:=h'.cells (g:=g) rfl (i * k + j) ((f x)[j]) (by rw [hr];exact List.getElem?_eq_getElem _);rw [Xd,Nat.zero_add] at hc;rw [hc];exact (List.getElem?_eq_getElem _).symm
theorem J2 {base':Nat} {T T':TypeId} {k k' n n':Nat} {v v':Value} {xs xs':List Value} (hT:T≠T') (h:w.ownsRow base T k v n xs) (h':w.ownsRow base' T' k' v' n' xs'):v.ownBlock=none∨v.ownBlock≠v'.ownBlock:=by
 rcases h.2 with ⟨rfl,_⟩ | ⟨g,cap,cur,rfl,_,hg,_⟩
 ·exact .inl rfl
 ·rcases h'.2 with ⟨rfl,_⟩ | ⟨g',cap',cur',rfl,_,hg',_⟩
  ·exact .inr (by simp [Value.ownBlock])
  ·refine .inr fun e=>hT ?_
   simp only [Value.ownBlock,Option.some.injEq] at e;subst e;rw [hg] at hg';injection hg' with e;injection e
end
section
open Go.RowKit Go.Maps
def Byt (l:List Int):Prop:=∀ x∈l,0≤x∧x < 256
theorem Byt.drop {l:List Int} (h:Byt l) (n:Nat):Byt (l.drop n):=fun x hx=>h x (List.mem_of_mem_drop hx)
theorem Byt.take {l:List Int} (h:Byt l) (n:Nat):Byt (l.take n):=fun x hx=>h x (List.mem_of_mem_take hx)
theorem Byt.app {l m:List Int} (h:Byt l) (k:Byt m):Byt (l ++ m):=fun x hx=>(List.mem_append.1 hx).elim (h x) (k x)
theorem pre_mem {l:List Int} {x:Int} (h:x∈pre l):x∈l:=by rw [Mp] at h;exact List.mem_of_mem_take h
theorem Byt.pre {l:List Int} (h:Byt l):Byt (pre l):=fun x hx=>h x (pre_mem hx)
def nums (l:List Int):List Int:=(Lib.bytesOf l).map fun u=>(u.toNat:Int)
theorem Jv:∀ {l:List Int},Byt l→nums l=l
 | [],_=>rfl
 | x :: l,h=>by
  have h1:=h x (List.mem_cons_self ..);have h2:=Jv (l:=l) (fun y hy=>h y (List.mem_cons_of_mem _ hy));unfold nums at h2 ⊢;simp only [Lib.bytesOf,List.map_cons] at h2 ⊢;rw [h2]
  congr 1
  simp only [UInt8.toNat_ofNat'];omega
theorem Wa (t:List Int):((strOfNums t).toList == [])=decide (t=[]):=by
 rw [Lib.strOfNums_toList];cases t <;> simp [Lib.bytesOf]
theorem index0:∀ {t:List Int},Byt t→decide (Lib.indexByte (Lib.bytesOf t) 0 < 0)=decide ((0:Int) ∉ t)
 | [],_=>by simp [Lib.bytesOf,Lib.indexByte]
 | x :: t,h=>by
  have ih:=index0 (t:=t) (fun y hy=>h y (List.mem_cons_of_mem _ hy));have hx:=h x (List.mem_cons_self ..);have ge:=Lib.indexByte_ge (Lib.bytesOf t) 0;have e:Lib.indexByte (Lib.bytesOf (x :: t)) 0=if UInt8.ofNat x.toNat == 0 then 0 else if Lib.indexByte (Lib.bytesOf t) 0 == -1 then -1 else Lib.indexByte (Lib.bytesOf t) 0 + 1:=rfl
  by_cases h0:x=0
  ·subst h0
   rw [e];simp
  ·have hne:(UInt8.ofNat x.toNat == 0)=false:=by
    rw [beq_eq_false_iff_ne];intro e
    have:=congrArg UInt8.toNat e
    simp only [UInt8.toNat_ofNat'] at this;have z:(0:UInt8).toNat=0:=rfl;omega
   have hm:(0:Int) ∉ x :: t↔(0:Int) ∉ t:=by
    simp only [List.mem_cons,not_or];exact ⟨fun h=>h.2,fun h=>⟨fun e=>h0 e.symm,h⟩⟩
   rw [e,hne,decide_eq_decide.2 hm,← ih,decide_eq_decide];simp only [Bool.false_eq_true,if_false,beq_iff_eq]
   split <;> omega
theorem Rs:∀ (t:List Int),decide (pre t=t)=decide ((0:Int) ∉ t)
 | []=>by simp [pre]
 | x :: t=>by
  have ih:=Rs t;by_cases h0:x=0
  ·subst h0;simp [pre]
  ·rw [show pre (x :: t)=x :: pre t from if_neg h0]
   have hm:(0:Int) ∉ x :: t↔(0:Int) ∉ t:=by
    simp only [List.mem_cons,not_or];exact ⟨fun h=>h.2,fun h=>⟨fun e=>h0 e.symm,h⟩⟩
   rw [decide_eq_decide.2 hm,← ih,decide_eq_decide];exact ⟨fun e=>(List.cons.inj e).2,fun e=>by rw [e]⟩
theorem turned_grown (w:World) (e:TypeId) (s:ByteArray):w.grownBy (Lib.bytesWorld w e s) none where
 os:=rfl
 tape:=rfl
 output:=rfl
 size:=by rw [Lib.bytesWorld_size];omega
 block j hj _:=Lib.bytesWorld_at_old w e s j hj
theorem Gg {a b:List Int} (ha:Byt a) (hb:Byt b):((strOfNums a).toList == (strOfNums b).toList)=decide (a=b):=by
 rw [Lib.strOfNums_toList,Lib.strOfNums_toList];by_cases h:a=b
 ·subst h;simp
 ·rw [decide_eq_false h,beq_eq_false_iff_ne]
  intro e;apply h
  rw [← Jv ha,← Jv hb];unfold nums;rw [e]
theorem Md:∀ {t:List Int},Byt t→Byt (pre t)
 | [],h=>h
 | x :: t,h=>by
  by_cases h0:x=0
  ·subst h0;intro y hy;simp [pre] at hy
  ·rw [show pre (x :: t)=x :: pre t from if_neg h0]
   intro y hy;rcases List.mem_cons.1 hy with rfl | hy
   ·exact h _ (List.mem_cons_self ..)
   ·exact Md (t:=t) (fun z hz=>h z (List.mem_cons_of_mem _ hz)) y hy
theorem bytes_there (w:World) (e:TypeId) {t:List Int} (ht:Byt t) (c:Nat):Qk (Lib.bytesWorld w e (strOfNums t)) (some ⟨w.heap.size,0,none⟩) c t:=by
 refine Qk.mk_at fun i hi=>?_
 have hi':i < t.length:=hi;rw [Nat.zero_add,Lib.bytesWorld_cell w e _ i (by rw [strOfNums_size];exact hi'),strOfNums_data];have hm:=ht _ (List.getElem_mem hi');simp only [List.getD_eq_getElem?_getD,List.getElem?_map,List.getElem?_eq_getElem hi',Option.map_some,Option.getD_some,UInt8.toNat_ofNat']
 congr 3
 omega
theorem Sv {T k:Nat} (ht:Tryz.prog.underlying T=some (.slice (Tryz.prog.elem T))) (hs:∀ W,(sizeOf (Tryz.prog.elem T)).run Tryz.prog W=.ok k W) (b o n c p:Nat) (kl:IntKind) (hp:p≤n) :
  ∃ V:Option Addr,(∀ W,(Instr.slice T (.slice (some ⟨b,o,none⟩) n c) (some (.int kl (p:Int))) none none).run Tryz.prog W=.ok (.slice V (n - p) (c - p)) W)∧(V=some ⟨b,o,none⟩∧c=p∨V=some ⟨b,o + p * k,none⟩):=by
 by_cases hc:c=p
 ·refine ⟨some ⟨b,o,none⟩,fun W=>?_,.inl ⟨rfl,hc⟩⟩
  rw [run_slice_l (P:=Tryz.prog) W T (some ⟨b,o,none⟩) n c ht kl (p:Int) (by omega) (by omega),hs];simp only [Result.andThen,sliced];rw [if_pos (by omega),show ((p:Int)).toNat=p by omega]
 ·refine ⟨some ⟨b,o + p * k,none⟩,fun W=>?_,.inr rfl⟩
  rw [run_slice_l (P:=Tryz.prog) W T (some ⟨b,o,none⟩) n c ht kl (p:Int) (by omega) (by omega),hs];simp only [Result.andThen,sliced];rw [if_neg (by omega),show ((p:Int)).toNat=p by omega];simp only [Option.map_some,Xd]
theorem H7 {b o c p:Nat} {xs:List Int} (hx:∀ i,i < xs.length→w.cell? ⟨b,o + i,none⟩=some (.int .u8 (xs.getD i 0))) (hc:xs.length≤c) (hp:p≤xs.length) (kl:IntKind) :
  ∃ V:Option Addr,(∀ W,(Instr.slice 29 (.slice (some ⟨b,o,none⟩) xs.length c) (some (.int kl (p:Int))) none none).run Tryz.prog W=.ok (.slice V (xs.length - p) (c - p)) W)∧Qk w V (c - p) (xs.drop p)∧(p < xs.length→V=some ⟨b,o + p,none⟩):=by
 obtain ⟨V,hV,h⟩:=Sv (T:=29) (k:=1) (by kernel_rfl) (fun W=>by kernel_rfl) b o xs.length c p kl hp;refine ⟨V,hV,?_,fun hlt=>?_⟩
 ·rcases h with ⟨rfl,h⟩ | rfl
  ·rw [List.drop_eq_nil_of_le (by omega)]
   exact Qk.empty
  ·refine Qk.mk_at fun i hi=>?_
   rw [List.length_drop] at hi;rw [Nat.mul_one,Nat.add_assoc,hx (p + i) (by omega)];simp [List.getD,List.getElem?_drop]
 ·rcases h with ⟨_,h⟩ | rfl
  ·omega
  ·rw [Nat.mul_one]
theorem Rl {T k:Nat} (ht:Tryz.prog.underlying T=some (.slice (Tryz.prog.elem T))) (hs:∀ W,(sizeOf (Tryz.prog.elem T)).run Tryz.prog W=.ok k W) (b o n c h:Nat) (kh:IntKind) (hh:h≤c) (W:World) :
  (Instr.slice T (.slice (some ⟨b,o,none⟩) n c) none (some (.int kh (h:Int))) none).run Tryz.prog W=.ok (.slice (some ⟨b,o,none⟩) h c) W:=by
 rw [run_slice_h (P:=Tryz.prog) W T (some ⟨b,o,none⟩) n c ht kh (h:Int) (by omega) (by omega),hs];simp only [Result.andThen,sliced];rw [show ((h:Int)).toNat=h by omega]
 split
 ·simp
 ·simp only [Option.map_some,Xd,Nat.zero_mul,Nat.add_zero,Nat.sub_zero]
theorem strKeyed:Keyed Tryz.prog 9:=string_keyed Tryz.underlying9
theorem Ss {T:TypeId} (hT:Tryz.prog.underlying T=some (.slice (Tryz.prog.elem T))) (hs:∀ W,(sizeOf (Tryz.prog.elem T)).run Tryz.prog W=.ok 1 W) (b o n c p k:Nat) (hk:p + k≤n) (hn:n≤c) (hp : 0 < k) (l h:Int) (hl:l=p) (hh:h=(p:Int) + k) (W:World) :
  (Instr.slice T (.slice (some ⟨b,o,none⟩) n c) (some (.int .i64 l)) (some (.int .i64 h)) none).run Tryz.prog W=.ok (.slice (some ⟨b,o + p,none⟩) k (c - p)) W:=by
 rw [run_slice_lh (P:=Tryz.prog) W T (some ⟨b,o,none⟩) n c hT .i64 .i64 l h (by omega) (by omega) (by omega),hs];simp only [Result.andThen,sliced];rw [if_neg (by omega),show h.toNat - l.toNat=k by omega,show l.toNat=p by omega];simp only [Option.map_some,Xd,Nat.mul_one]
theorem Pz (W:World):(sizeOf (Tryz.prog.elem 29)).run Tryz.prog W=.ok 1 W:=by kernel_rfl
end
section
def Zd (nm:ByteArray) (x:Ex):Array Value:=#[.string nm,.int .i64 x.kind,.bool x.weak,.int .u64 x.value,.int .u64 x.resolver,.int .u64 x.ordinal,.string (strOfNums x.other)]
def exV (nm:ByteArray) (x:Ex):Value:=.agg (Zd nm x)
def exCs (nm:ByteArray) (x:Ex):List Value:=[.string nm,.int .i64 x.kind,.bool x.weak,.int .u64 x.value,.int .u64 x.resolver,.int .u64 x.ordinal,.string (strOfNums x.other)]
theorem J5 (nm:ByteArray) (x:Ex):∀ u∈exCs nm x,u.oneCell'=true:=by
 intro u hu;simp only [exCs,List.mem_cons,List.not_mem_nil,or_false] at hu;rcases hu with rfl | rfl | rfl | rfl | rfl | rfl | rfl <;> rfl
def ExAt (w:World) (g:Nat) (nm:ByteArray) (x:Ex):Prop :=
 w.heap[g]?=some (.cells #[.string nm,.int .i64 x.kind,.bool x.weak,.int .u64 x.value,.int .u64 x.resolver,.int .u64 x.ordinal,.string (strOfNums x.other)] 28 (0,0))
section
variable {g:Nat} {nm:ByteArray} {x:Ex}
theorem ExAt.kept {r:Option Nat} (h:ExAt w g nm x) (hg:w.grownBy w' r) (hr:r≠some g):ExAt w' g nm x:=(hg.block g (lt_of_block h) (fun e=>hr e.symm)).trans h
theorem ExAt.lt (h:ExAt w g nm x):g < w.heap.size:=lt_of_block h
theorem ExAt.fz (h:ExAt w g nm x) (i:Nat):w.frozen? ⟨g,i,none⟩=false:=Xg h
theorem ExAt.c (h:ExAt w g nm x):w.cell? ⟨g,0,none⟩=some (.string nm)∧w.cell? ⟨g,1,none⟩=some (.int .i64 x.kind)∧w.cell? ⟨g,2,none⟩=some (.bool x.weak)∧w.cell? ⟨g,3,none⟩=some (.int .u64 x.value) ∧
  w.cell? ⟨g,4,none⟩=some (.int .u64 x.resolver)∧w.cell? ⟨g,5,none⟩=some (.int .u64 x.ordinal)∧w.cell? ⟨g,6,none⟩=some (.string (strOfNums x.other)):=by
 refine ⟨?_,?_,?_,?_,?_,?_,?_⟩ <;> (rw [Qm h];rfl)
theorem ExAt.kind (h:ExAt w g nm x) (k:Int):ExAt (w.setCell ⟨g,1,none⟩ (.int .i64 k)) g nm { x with kind:=k }:=by unfold ExAt;rw [heap_setCell_same w g 1 _ _ _ h];rfl
theorem ExAt.weak (h:ExAt w g nm x) (k:Bool):ExAt (w.setCell ⟨g,2,none⟩ (.bool k)) g nm { x with weak:=k }:=by unfold ExAt;rw [heap_setCell_same w g 2 _ _ _ h];rfl
theorem ExAt.value (h:ExAt w g nm x) (k:Int):ExAt (w.setCell ⟨g,3,none⟩ (.int .u64 k)) g nm { x with value:=k }:=by unfold ExAt;rw [heap_setCell_same w g 3 _ _ _ h];rfl
theorem ExAt.resolver (h:ExAt w g nm x) (k:Int):ExAt (w.setCell ⟨g,4,none⟩ (.int .u64 k)) g nm { x with resolver:=k }:=by unfold ExAt;rw [heap_setCell_same w g 4 _ _ _ h];rfl
theorem ExAt.ordinal (h:ExAt w g nm x) (k:Int):ExAt (w.setCell ⟨g,5,none⟩ (.int .u64 k)) g nm { x with ordinal:=k }:=by unfold ExAt;rw [heap_setCell_same w g 5 _ _ _ h];rfl
theorem ExAt.other (h:ExAt w g nm x) (k:List Int):ExAt (w.setCell ⟨g,6,none⟩ (.string (strOfNums k))) g nm { x with other:=k }:=by unfold ExAt;rw [heap_setCell_same w g 6 _ _ _ h];rfl
theorem ExAt.put {nm0:ByteArray} {x0:Ex} (h:ExAt w g nm0 x0) (nm:ByteArray) (x:Ex) :
  ExAt (((((((w.setCell ⟨g,0,none⟩ (.string nm)).setCell ⟨g,1,none⟩ (.int .i64 x.kind)).setCell ⟨g,2,none⟩ (.bool x.weak)).setCell ⟨g,3,none⟩ (.int .u64 x.value)).setCell ⟨g,4,none⟩ (.int .u64 x.resolver)).setCell ⟨g,5,none⟩ (.int .u64 x.ordinal)).setCell ⟨g,6,none⟩ (.string (strOfNums x.other))) g nm x:=by
 unfold ExAt;rw [heap_setCell_same _ g 6 _ _ _ (heap_setCell_same _ g 5 _ _ _ (heap_setCell_same _ g 4 _ _ _ (heap_setCell_same _ g 3 _ _ _ (heap_setCell_same _ g 2 _ _ _ (heap_setCell_same _ g 1 _ _ _ (heap_setCell_same w g 0 _ _ _ h))))))];rfl
theorem Qh (h:w.grownBy w' (some g)) (v0 v1 v2 v3 v4 v5 v6:Value):w.grownBy (((((((w'.setCell ⟨g,0,none⟩ v0).setCell ⟨g,1,none⟩ v1).setCell ⟨g,2,none⟩ v2).setCell ⟨g,3,none⟩ v3).setCell ⟨g,4,none⟩ v4).setCell ⟨g,5,none⟩ v5).setCell ⟨g,6,none⟩ v6) (some g) :=
 Qx (Qx (Qx (Qx (Qx (Qx (Qx h _) _) _) _) _) _) _
theorem Tt (h:ExAt w g nm x):(loadVar 28 ⟨g,0,none⟩).run Tryz.prog w=.ok (exV nm x) w :=
 run_loadVar_row w g _ _ _ _ _ h Tryz.underlying28 rfl (by kernel_rfl)
theorem Jf {fn:Func} {p:Tmp} (hr:fn.results=#[.cell p 28]) {tmps:Array Value} (hp:tmps.getD p undef=.pointer (some ⟨g,0,none⟩)) (h:ExAt w g nm x) :
  (results fn tmps).run Tryz.prog w=.ok (exV nm x) w:=by
 have e:(asAddr (.pointer (some ⟨g,0,none⟩)):Sem Addr).run Tryz.prog w=.ok ⟨g,0,none⟩ w:=rfl;simp only [Array.getD_eq_getD_getElem?] at hp;simp only [results,hr];simp [Sem.run_bind,Result.andThen,hp,e,Tt h]
end
def Hp (x:Kid):List Value:=[.string (strOfNums x.1),.int .u64 x.2]
theorem kidCs_len (x:Kid):(Hp x).length=2:=rfl
theorem kidCs_one (x:Kid):∀ u∈Hp x,u.oneCell'=true:=by
 intro u hu;simp only [Hp,List.mem_cons,List.not_mem_nil,or_false] at hu;rcases hu with rfl | rfl <;> rfl
theorem kidType:Kx Tryz.prog 145 85 2 24:=.mk' Tryz.underlying85 (z:=.agg #[.string ⟨#[]⟩,.int .u64 0]) (by kernel_rfl) rfl (by decide)
def Xp (w:World) (q:Option Addr) (l:List Kid):Prop:=∀ i x,l[i]?=some x→∃ g o,q=some ⟨g,o,none⟩∧w.cell? ⟨g,o + i * 2,none⟩=some (.string (strOfNums x.1))∧w.cell? ⟨g,o + i * 2 + 1,none⟩=some (.int .u64 x.2)
theorem Xp.of {lo n c:Nat} {q:Option Addr} {l:List Kid} (h:w.ownsRow lo 145 2 (.slice q n c) n (l.flatMap Hp)):Xp w q l:=fun i x hx=>by
 obtain ⟨g,e,h0⟩:=Jz kidCs_len h hx (j:=0) (by decide);obtain ⟨g',e',h1⟩:=Jz kidCs_len h hx (j:=1) (by decide);rw [e] at e';injection e' with e';injection e' with e' _ _;subst e';refine ⟨g,0,e,?_,?_⟩
 ·rw [Nat.zero_add];exact h0
 ·rw [Nat.zero_add];exact h1
theorem Xp.grown {q:Option Addr} {l:List Kid} (h:Xp w q l) (hg:w.grownBy w' none):Xp w' q l:=fun i x hx=>by
 obtain ⟨g,o,e,c0,c1⟩:=h i x hx;exact ⟨g,o,e,Qv hg c0,Qv hg c1⟩
theorem Xp.nil {q:Option Addr}:Xp w q []:=fun i x hx=>by simp at hx
def Kw (b:Bool) (nm:ByteArray) (x:Ex) (v:Value):Value:=.agg #[.bool b,.string nm,.int .i64 x.kind,.bool x.weak,.int .u64 x.value,.int .u64 x.resolver,.int .u64 x.ordinal,.string (strOfNums x.other),v]
def Qn (w:World) (g:Nat) (b:Bool) (nm:ByteArray) (x:Ex) (v:Value):Prop :=
 w.heap[g]?=some (.cells #[.bool b,.string nm,.int .i64 x.kind,.bool x.weak,.int .u64 x.value,.int .u64 x.resolver,.int .u64 x.ordinal,.string (strOfNums x.other),v] 87 (0,0))
section
variable {g:Nat} {b:Bool} {nm:ByteArray} {x:Ex} {v:Value}
theorem Qn.kept {r:Option Nat} (h:Qn w g b nm x v) (hg:w.grownBy w' r) (hr:r≠some g):Qn w' g b nm x v:=(hg.block g (lt_of_block h) (fun e=>hr e.symm)).trans h
theorem Qn.lt (h:Qn w g b nm x v):g < w.heap.size:=lt_of_block h
theorem Qn.fz (h:Qn w g b nm x v) (i:Nat):w.frozen? ⟨g,i,none⟩=false:=Xg h
theorem Qn.c (h:Qn w g b nm x v):w.cell? ⟨g,0,none⟩=some (.bool b)∧w.cell? ⟨g,1,none⟩=some (.string nm)∧w.cell? ⟨g,2,none⟩=some (.int .i64 x.kind)∧w.cell? ⟨g,3,none⟩=some (.bool x.weak)∧w.cell? ⟨g,4,none⟩=some (.int .u64 x.value) ∧
  w.cell? ⟨g,5,none⟩=some (.int .u64 x.resolver)∧w.cell? ⟨g,6,none⟩=some (.int .u64 x.ordinal)∧w.cell? ⟨g,7,none⟩=some (.string (strOfNums x.other))∧w.cell? ⟨g,8,none⟩=some v:=by
 refine ⟨?_,?_,?_,?_,?_,?_,?_,?_,?_⟩ <;> (rw [Qm h];rfl)
theorem Qn.kids (h:Qn w g b nm x v) (u:Value):Qn (w.setCell ⟨g,8,none⟩ u) g b nm x u:=by unfold Qn;rw [heap_setCell_same w g 8 _ _ _ h];rfl
theorem Qn.s0 (h:Qn w g b nm x v) (k:Bool):Qn (w.setCell ⟨g,0,none⟩ (.bool k)) g k nm x v:=by unfold Qn;rw [heap_setCell_same w g 0 _ _ _ h];rfl
theorem Qn.s1 (h:Qn w g b nm x v) (k:ByteArray):Qn (w.setCell ⟨g,1,none⟩ (.string k)) g b k x v:=by unfold Qn;rw [heap_setCell_same w g 1 _ _ _ h];rfl
theorem Qn.s2 (h:Qn w g b nm x v) (k:Int):Qn (w.setCell ⟨g,2,none⟩ (.int .i64 k)) g b nm { x with kind:=k } v:=by unfold Qn;rw [heap_setCell_same w g 2 _ _ _ h];rfl
theorem Qn.s3 (h:Qn w g b nm x v) (k:Bool):Qn (w.setCell ⟨g,3,none⟩ (.bool k)) g b nm { x with weak:=k } v:=by unfold Qn;rw [heap_setCell_same w g 3 _ _ _ h];rfl
theorem Qn.s4 (h:Qn w g b nm x v) (k:Int):Qn (w.setCell ⟨g,4,none⟩ (.int .u64 k)) g b nm { x with value:=k } v:=by unfold Qn;rw [heap_setCell_same w g 4 _ _ _ h];rfl
theorem Qn.s5 (h:Qn w g b nm x v) (k:Int):Qn (w.setCell ⟨g,5,none⟩ (.int .u64 k)) g b nm { x with resolver:=k } v:=by unfold Qn;rw [heap_setCell_same w g 5 _ _ _ h];rfl
theorem Qn.s6 (h:Qn w g b nm x v) (k:Int):Qn (w.setCell ⟨g,6,none⟩ (.int .u64 k)) g b nm { x with ordinal:=k } v:=by unfold Qn;rw [heap_setCell_same w g 6 _ _ _ h];rfl
theorem Qn.s7 (h:Qn w g b nm x v) (k:List Int):Qn (w.setCell ⟨g,7,none⟩ (.string (strOfNums k))) g b nm { x with other:=k } v:=by unfold Qn;rw [heap_setCell_same w g 7 _ _ _ h];rfl
theorem Qn.said (h:Qn w g b nm x v) (nm':ByteArray) (y:Ex) :
   Qn ((((((((w.setCell ⟨g,0,none⟩ (.bool true)).setCell ⟨g,1,none⟩ (.string nm')).setCell ⟨g,2,none⟩ (.int .i64 y.kind)).setCell ⟨g,3,none⟩ (.bool y.weak)).setCell ⟨g,4,none⟩ (.int .u64 y.value)).setCell ⟨g,5,none⟩ (.int .u64 y.resolver)).setCell ⟨g,6,none⟩ (.int .u64 y.ordinal)).setCell ⟨g,7,none⟩ (.string (strOfNums y.other))) g true nm' y v :=
 (((((((h.s0 true).s1 nm').s2 y.kind).s3 y.weak).s4 y.value).s5 y.resolver).s6 y.ordinal).s7 y.other
theorem load_node (h:Qn w g b nm x v):(loadVar 87 ⟨g,0,none⟩).run Tryz.prog w=.ok (Kw b nm x v) w :=
 run_loadVar_row w g _ _ _ _ _ h Tryz.underlying87 rfl (by kernel_rfl)
theorem Ka {fn:Func} {p:Tmp} (hr:fn.results=#[.cell p 87]) {tmps:Array Value} (hp:tmps.getD p undef=.pointer (some ⟨g,0,none⟩)) (h:Qn w g b nm x v) :
  (results fn tmps).run Tryz.prog w=.ok (Kw b nm x v) w:=by
 have e:(asAddr (.pointer (some ⟨g,0,none⟩)):Sem Addr).run Tryz.prog w=.ok ⟨g,0,none⟩ w:=rfl;simp only [Array.getD_eq_getD_getElem?] at hp;simp only [results,hr];simp [Sem.run_bind,Result.andThen,hp,e,load_node h]
theorem Gq {fn:Func} {p u:Tmp} (hr:fn.results=#[.cell p 87,.tmp u]) {tmps:Array Value} {y:Value} (hp:tmps.getD p undef=.pointer (some ⟨g,0,none⟩)) (hu:tmps.getD u undef=y) (h:Qn w g b nm x v) :
  (results fn tmps).run Tryz.prog w=.ok (.tuple #[Kw b nm x v,y]) w:=by
 rw [results_cell_tmp hr,hp,hu,show (asAddr (.pointer (some ⟨g,0,none⟩)):Sem Addr).run Tryz.prog w=.ok ⟨g,0,none⟩ w from rfl,Result.andThen_ok,load_node h,Result.andThen_ok]
end
theorem nat_and4 (n:Nat):n &&& 4=n / 4 % 2 * 4:=by
 apply Nat.eq_of_testBit_eq
 intro i;rw [Nat.testBit_and,show (4:Nat)=2 ^ 2 by decide,Nat.testBit_two_pow];rcases Nat.mod_two_eq_zero_or_one (n / 2 ^ 2) with h | h
 ·rw [h,Nat.zero_mul,Nat.zero_testBit]
  by_cases hi : 2=i
  ·subst hi
   rw [Nat.testBit_eq_decide_div_mod_eq,h];rfl
  ·rw [decide_eq_false hi,Bool.and_false]
 ·rw [h,Nat.one_mul,Nat.testBit_two_pow]
  by_cases hi : 2=i
  ·subst hi
   rw [Nat.testBit_eq_decide_div_mod_eq,h];rfl
  ·rw [decide_eq_false hi,Bool.and_false]
theorem and4 (F:Int) (h : 0≤F∧F < 18446744073709551616):bits .and .u64 F 4=F / 4 % 2 * 4:=by
 obtain ⟨n,rfl⟩:=Int.eq_ofNat_of_zero_le h.1;have e:((n:Int) % ((2 ^ 64:Nat):Int)).toNat=n:=by omega
 have key:(BitVec.ofInt 64 (n:Int) &&& BitVec.ofInt 64 4).toNat=n / 4 % 2 * 4:=by
  rw [BitVec.toNat_and,BitVec.toNat_ofInt,e,show (BitVec.ofInt 64 4).toNat=4 by decide,nat_and4]
 show IntKind.u64.wrap ((BitVec.ofInt 64 (n:Int) &&& BitVec.ofInt 64 4).toNat:Nat)=_
 rw [key,IntKind.wrap_u64];omega
theorem andNot4 (F:Int) (h : 0≤F∧F < 18446744073709551616):bits .andNot .u64 F 4=knN F:=by
 obtain ⟨n,rfl⟩:=Int.eq_ofNat_of_zero_le h.1;have e:((n:Int) % ((2 ^ 64:Nat):Int)).toNat=n:=by omega
 have key:(BitVec.ofInt 64 (n:Int) &&& ~~~ BitVec.ofInt 64 4).toNat + n / 4 % 2 * 4=n:=by
  have h1:(BitVec.ofInt 64 (n:Int) &&& BitVec.ofInt 64 4).toNat=n / 4 % 2 * 4:=by
   rw [BitVec.toNat_and,BitVec.toNat_ofInt,e,show (BitVec.ofInt 64 4).toNat=4 by decide,nat_and4]
  rw [← h1];have h2:(BitVec.ofInt 64 (n:Int) &&& ~~~ BitVec.ofInt 64 4) + (BitVec.ofInt 64 (n:Int) &&& BitVec.ofInt 64 4)=BitVec.ofInt 64 (n:Int):=by
   rw [BitVec.add_eq_or_of_and_eq_zero]
   ·ext i hi
    simp only [BitVec.getElem_or,BitVec.getElem_and,BitVec.getElem_not];cases (BitVec.ofInt 64 (n:Int))[i] <;> cases (BitVec.ofInt 64 4)[i] <;> rfl
   ·ext i hi
    simp only [BitVec.getElem_and,BitVec.getElem_not,BitVec.getElem_zero];cases (BitVec.ofInt 64 (n:Int))[i] <;> cases (BitVec.ofInt 64 4)[i] <;> rfl
  have h3:=congrArg BitVec.toNat h2;rw [BitVec.toNat_add,BitVec.toNat_ofInt,e] at h3;have h4:(BitVec.ofInt 64 (n:Int) &&& ~~~ BitVec.ofInt 64 4).toNat≤n:=by
   rw [BitVec.toNat_and,BitVec.toNat_ofInt,e];exact Nat.and_le_left
  have h5:(BitVec.ofInt 64 (n:Int) &&& BitVec.ofInt 64 4).toNat≤4:=by rw [h1];omega
  rcases Nat.lt_or_ge ((BitVec.ofInt 64 (n:Int) &&& ~~~ BitVec.ofInt 64 4).toNat + (BitVec.ofInt 64 (n:Int) &&& BitVec.ofInt 64 4).toNat) (2 ^ 64) with h6 | h6
  ·rw [Nat.mod_eq_of_lt h6] at h3;exact h3
  ·rw [Nat.mod_eq_sub_mod h6,Nat.mod_eq_of_lt (by omega)] at h3
   omega
 show IntKind.u64.wrap ((BitVec.ofInt 64 (n:Int) &&& ~~~ BitVec.ofInt 64 4).toNat:Nat)=_
 rw [IntKind.wrap_u64];unfold knN
 split <;> omega
end
section
theorem Xf {α β:Type} {f:Ps α} {g : α→Ps β} {l:List Int} {u : β} {n:Nat} (h:psB f g l=some (u,n)):∃ v m m',f l=some (v,m)∧g v (l.drop m)=some (u,m')∧n=m + m':=by
 unfold psB at h;cases h1:f l with
 | none=>rw [h1] at h;cases h
 | some a =>
  obtain ⟨v,m⟩:=a;rw [h1] at h;simp only [] at h;cases h2:g v (l.drop m) with
  | none=>rw [h2] at h;cases h
  | some b =>
   obtain ⟨u',m'⟩:=b;rw [h2] at h;simp only [Option.some.injEq,Prod.mk.injEq] at h;obtain ⟨rfl,rfl⟩:=h;exact ⟨v,m,m',rfl,h2,rfl⟩
structure KidOk (k:Kid):Prop where
 ne:k.1≠[]
 len:k.1.length≤255
 byt:Byt k.1
 lo : 0≤k.2
 hi:k.2 < 18446744073709551616
structure Be (l:List Kid):Prop where
 each:∀ k∈l,KidOk k
 apart:l.Pairwise fun a b=>a.1.getD 0 0≠b.1.getD 0 0
theorem Be.nil:Be []:=⟨fun k h=>(by cases h),List.Pairwise.nil⟩
theorem ul_bd {l:List Int} {v:Int} {n:Nat} (h:ulP l=some (v,n)) : 0≤v∧v < 18446744073709551616:=by
 unfold ulP at h
 split at h
 ·cases h
 ·rename_i h0
  injection h with h;obtain ⟨_,h2,h3⟩:=V7 h0;rw [h] at h2;simp only [] at h2
  have:=Gl (l.take (szN 10 l))
  omega
theorem Be.snoc {l:List Kid} (h:Be l) {k:Kid} (hk:KidOk k) (hm:meets k.1 l=false):Be (l ++ [k]):=by
 refine ⟨fun x hx=>?_,?_⟩
 ·rcases List.mem_append.1 hx with hx | hx
  ·exact h.each x hx
  ·rw [List.mem_singleton.1 hx];exact hk
 ·rw [List.pairwise_append]
  refine ⟨h.apart,List.pairwise_singleton _ _,fun a ha b hb=>?_⟩;rw [List.mem_singleton.1 hb];unfold meets at hm;rw [List.any_eq_false] at hm
  have:=hm a ha
  simpa using this
theorem kidsP_ok:∀ (k:Nat) (acc:List Kid) (l:List Int) (r:List Kid) (n:Nat),Byt l→Be acc→Js k acc l=some (r,n)→Be r∧r.length=acc.length + k:=by
 intro k
 induction k with
 | zero =>
  intro acc l r n _ ha h;injection h with h;injection h with h1 h2;subst h1;exact ⟨ha,rfl⟩
 | succ k ih =>
  intro acc l r n hb ha h;obtain ⟨e,m,m',h1,h2,-⟩:=Xf h;obtain ⟨pl,j,j',h3,h4,-⟩:=Xf h2
  split at h4
  ·cases h4
  ·rename_i hn
   rw [not_or] at hn;have he:Byt e∧e.length≤255:=by
    unfold txP at h1
    split at h1
    ·rename_i h0
     injection h1 with h1;injection h1 with h1 _;subst h1;exact ⟨hb.pre,h0.2⟩
    ·cases h1
   have hp:=ul_bd h3
   have:=ih (acc ++ [(e,pl)]) _ r j' ((hb.drop m).drop j) (ha.snoc ⟨hn.1,he.2,he.1,hp.1,hp.2⟩ (by simpa using hn.2)) h4
   refine ⟨this.1,?_⟩;rw [this.2,List.length_append,List.length_singleton];omega
structure NdOk (nd:Nd):Prop where
 kids:Be nd.kids
 few:nd.kids.length≤255
theorem ndAt_some {xs:List Int} {p:Int} {nd:Nd} (h:ndAt xs p=some nd) : 0≤p∧p < xs.length∧∃ n,Ko (xs.drop p.toNat)=some (nd,n):=by
 unfold ndAt at h
 split at h
 ·rename_i h0
  cases h1:Ko (xs.drop p.toNat) with
  | none=>rw [h1] at h;cases h
  | some a =>
   obtain ⟨v,n⟩:=a;rw [h1] at h;simp only [Option.map_some,Option.some.injEq] at h;subst h;exact ⟨h0.1,h0.2,n,rfl⟩
 ·cases h
theorem W8 {xs:List Int} (hb:Byt xs) {p:Int} {nd:Nd} (h:ndAt xs p=some nd):NdOk nd:=by
 obtain ⟨_,_,n,h1⟩:=ndAt_some h;obtain ⟨a,m1,m1',_,h2,-⟩:=Xf h1;obtain ⟨x,m2,m2',_,h3,-⟩:=Xf h2;obtain ⟨m,m3,m3',h4,h5,-⟩:=Xf h3;obtain ⟨r,m4,m4',h6,h7,-⟩:=Xf h5;injection h7 with h7;injection h7 with h7 _;have h8:=kidsP_ok _ _ _ _ _ ((((hb.drop _).drop _).drop _).drop _) Be.nil h6;have hm : 0≤m∧m < 256:=by
  have hb2:=(((hb.drop p.toNat).drop m1).drop m2)
  cases hl:((xs.drop p.toNat).drop m1).drop m2 with
  | nil=>rw [hl] at h4;cases h4
  | cons y l =>
   rw [hl] at h4 hb2;injection h4 with h4;injection h4 with h4 _;subst h4;exact hb2 _ (List.mem_cons_self ..)
 subst h7;exact ⟨h8.1,by rw [h8.2];simp;omega⟩
abbrev Mt (S:Type):=S→List Int→Nd→S × List Kid × Int
section
variable {S:Type}
def visK (rec:List Int→Int→Nat × S→Int × (Nat × S)) (name:List Int):List Kid→Int→Nat × S→Int × (Nat × S)
 | [],err,st=>(err,st)
 | x :: l,_,st=>if (rec (name ++ x.1) x.2 st).1≠0 then rec (name ++ x.1) x.2 st else visK rec name l 0 (rec (name ++ x.1) x.2 st).2
def vis (xs:List Int) (mt:Mt S):Nat→List Int→List Int→Int→Nat × S→Int × (Nat × S)
 | 0,_,_,_,st=>(10,(st.1 + 1,st.2))
 | k + 1,way,name,pl,st =>
  if 255 < name.length then (10,(st.1 + 1,st.2))
  else if pl∈way then (12,(st.1 + 1,st.2))
  else if 8192 < st.1 + 1 then (11,(st.1 + 1,st.2))
  else match ndAt xs pl with
   | none=>(12,(st.1 + 1,st.2))
   | some nd=>visK (vis xs mt k (way ++ [pl])) name (mt st.2 name nd).2.1 (mt st.2 name nd).2.2 (st.1 + 1,(mt st.2 name nd).1)
end
abbrev Out:=List (List Int × Ex)
def outN (out:Out) (name:List Int) (nd:Nd):Out:=match nd.ex with
 | none=>out
 | some x=>out ++ [(name,x)]
def Zh:Mt Out:=fun out name nd=>if 4096 < (outN out name nd).length then (outN out name nd,[],11) else (outN out name nd,nd.kids,0)
def pfx (e rest:List Int):Bool:=decide (e.length≤rest.length) && decide (rest.take e.length=e)
def J7 (l:List Kid) (rest:List Int):List Kid:=match l.find? (fun k=>pfx k.1 rest) with
 | none=>[]
 | some k=>[k]
def Z7 (t:List Int):Mt (Option Ex):=fun own name nd=>if t.drop name.length=[] then (nd.ex,[],0) else (own,J7 nd.kids (t.drop name.length),0)
def allN (xs:List Int):Out × Int:=if xs=[] then ([],0) else if (vis xs Zh 257 [] [] 0 (0,[])).1≠0 then ([],(vis xs Zh 257 [] [] 0 (0,[])).1) else ((vis xs Zh 257 [] [] 0 (0,[])).2.2,0)
theorem To {e r:List Int}:pfx e r=true↔∃ s,r=e ++ s:=by
 unfold pfx;simp only [Bool.and_eq_true,decide_eq_true_eq]
 constructor
 ·rintro ⟨_,h⟩
  refine ⟨r.drop e.length,?_⟩;have h2:=List.take_append_drop e.length r;rw [h] at h2;exact h2.symm
 ·rintro ⟨s,rfl⟩
  simp
end
section
section
variable {S:Type} {rec:List Int→Int→Nat × S→Int × (Nat × S)} {name:List Int} {st st':Nat × S}
theorem visK_cons {x:Kid} {l:List Kid} {e:Int} (h:visK rec name (x :: l) e st=(0,st')):∃ st1,rec (name ++ x.1) x.2 st=(0,st1)∧visK rec name l 0 st1=(0,st'):=by
 unfold visK at h;by_cases h0:(rec (name ++ x.1) x.2 st).1=0
 ·rw [if_neg (by simp [h0])] at h
  exact ⟨_,by rw [← h0],h⟩
 ·rw [if_pos h0] at h
  rw [h] at h0;exact absurd rfl h0
end
def Xz (t:List Int) (l:Out):Option (List Int × Ex):=l.find? fun y=>decide (y.1=t)
theorem named_app (t:List Int) (a b:Out) (h:∀ y∈a,y.1≠t):Xz t (a ++ b)=Xz t b:=by
 unfold Xz;rw [List.find?_append,List.find?_eq_none.2 (fun y hy=>by simpa using h y hy)];rfl
theorem named_front (t:List Int) (a b:Out) (h:∀ y∈b,y.1≠t):Xz t (a ++ b)=Xz t a:=by
 have hb:b.find? (fun y=>decide (y.1=t))=none:=List.find?_eq_none.2 (fun y hy=>by simpa using h y hy)
 unfold Xz;rw [List.find?_append,hb];cases List.find? (fun y=>decide (y.1=t)) a <;> rfl
theorem first_eq {e e' s s':List Int} (h:e ++ s=e' ++ s') (he:e≠[]) (he':e'≠[]):e.getD 0 0=e'.getD 0 0:=by
 cases e with
 | nil=>exact absurd rfl he
 | cons x e =>
  cases e' with
  | nil=>exact absurd rfl he'
  | cons y e' =>
   simp only [List.cons_append,List.cons.injEq] at h;simp [h.1]
structure Adds (name:List Int) (out out' new:Out):Prop where
 eq:out'=out ++ new
 pre:∀ y∈new,∃ s,y.1=name ++ s
 once:new.Pairwise fun a b=>a.1≠b.1
section
variable {xs:List Int}
theorem visK_all {rec:List Int→Int→Nat × Out→Int × (Nat × Out)} (name:List Int)
  (IH:∀ nm pl m out m' out',rec nm pl (m,out)=(0,(m',out'))→∃ new,Adds nm out out' new) :
  ∀ (l:List Kid),Be l→∀ m out m' out',visK rec name l 0 (m,out)=(0,(m',out'))→∃ new,Adds name out out' new∧(∀ y∈new,∃ k∈l,∃ s,y.1=name ++ (k.1 ++ s)) ∧
    ∀ rest:List Int,(l.find? (fun k=>pfx k.1 rest)=none∧Xz (name ++ rest) new=none) ∨
     ∃ k,l.find? (fun k=>pfx k.1 rest)=some k∧∃ mi oi mi' oi' ni,rec (name ++ k.1) k.2 (mi,oi)=(0,(mi',oi'))∧Adds (name ++ k.1) oi oi' ni∧Xz (name ++ rest) new=Xz (name ++ rest) ni:=by
 intro l
 induction l with
 | nil =>
  intro _ m out m' out' h;simp only [visK,Prod.mk.injEq,true_and] at h;exact ⟨[],⟨(by rw [List.append_nil];exact h.2.symm),fun y hy=>(by cases hy),List.Pairwise.nil⟩,fun y hy=>(by cases hy),fun rest=>.inl ⟨rfl,rfl⟩⟩
 | cons x l ih =>
  intro hk m out m' out' h;obtain ⟨⟨m1,o1⟩,h1,h2⟩:=visK_cons h;obtain ⟨n1,A1⟩:=IH _ _ _ _ _ _ h1;have hx:=hk.each x (List.mem_cons_self ..);have hp:=List.pairwise_cons.1 hk.apart;obtain ⟨n2,A2,P2,F2⟩:=ih ⟨fun k hk'=>hk.each k (List.mem_cons_of_mem _ hk'),hp.2⟩ _ _ _ _ h2;have hmem1:∀ y∈n1,∃ s,y.1=name ++ (x.1 ++ s):=fun y hy=>by
    obtain ⟨s,e⟩:=A1.pre y hy;exact ⟨s,by rw [e,List.append_assoc]⟩
  refine ⟨n1 ++ n2,⟨by rw [A2.eq,A1.eq,List.append_assoc],?_,?_⟩,?_,?_⟩
  · intro y hy
    rcases List.mem_append.1 hy with hy | hy
    ·obtain ⟨s,e⟩:=hmem1 y hy;exact ⟨_,e⟩
    ·exact A2.pre y hy
  · rw [List.pairwise_append]
    refine ⟨A1.once,A2.once,fun a ha b hb e=>?_⟩;obtain ⟨s,e1⟩:=hmem1 a ha;obtain ⟨k,hkl,s',e2⟩:=P2 b hb;rw [e1,e2] at e
    have:=List.append_cancel_left e
    exact hp.1 k hkl (first_eq this hx.ne (hk.each k (List.mem_cons_of_mem _ hkl)).ne)
  · intro y hy
    rcases List.mem_append.1 hy with hy | hy
    ·obtain ⟨s,e⟩:=hmem1 y hy
     exact ⟨x,List.mem_cons_self ..,s,e⟩
    ·obtain ⟨k,hkl,s',e2⟩:=P2 y hy
     exact ⟨k,List.mem_cons_of_mem _ hkl,s',e2⟩
  · intro rest
    by_cases hpx:pfx x.1 rest=true
    ·refine .inr ⟨x,List.find?_cons_of_pos (p:=fun k:Kid=>pfx k.1 rest) hpx,m,out,m1,o1,n1,h1,A1,?_⟩
     refine named_front _ _ _ fun y hy e=>?_
     obtain ⟨k,hkl,s',e2⟩:=P2 y hy;rw [e2] at e;have e3:=List.append_cancel_left e;obtain ⟨s,e4⟩:=To.1 hpx;rw [e4] at e3;exact hp.1 k hkl (first_eq e3 (hk.each k (List.mem_cons_of_mem _ hkl)).ne hx.ne).symm
    ·have hn:Xz (name ++ rest) (n1 ++ n2)=Xz (name ++ rest) n2:=by
      refine named_app _ _ _ fun y hy e=>?_
      obtain ⟨s,e1⟩:=hmem1 y hy;rw [e1] at e;exact hpx (To.2 ⟨s,(List.append_cancel_left e).symm⟩)
     rw [hn,List.find?_cons_of_neg (p:=fun k:Kid=>pfx k.1 rest) hpx];exact F2 rest
theorem outN_adds (out:Out) (name:List Int) (nd:Nd):∃ own,outN out name nd=out ++ own∧(own=[]∧nd.ex=none∨∃ x,own=[(name,x)]∧nd.ex=some x):=by
 unfold outN;cases nd.ex with
 | none=>exact ⟨[],by simp,.inl ⟨rfl,rfl⟩⟩
 | some x=>exact ⟨[(name,x)],rfl,.inr ⟨x,rfl,rfl⟩⟩
theorem vis_all (hb:Byt xs):∀ (k:Nat) (way name:List Int) (pl:Int) (m:Nat) (out:Out) (m':Nat) (out':Out),vis xs Zh k way name pl (m,out)=(0,(m',out')) →
  ∃ new,Adds name out out' new∧∀ (rest:List Int) (j:Nat),(name ++ rest).length≤255→j≤name.length→∃ j',vis xs (Z7 (name ++ rest)) k way name pl (j,none)=(0,(j',(Xz (name ++ rest) new).map (·.2))):=by
 intro k
 induction k with
 | zero=>intro way name pl m out m' out' h;simp [vis] at h
 | succ k ih =>
  intro way name pl m out m' out' h;unfold vis at h
  split at h
  ·simp at h
  rename_i c1
  split at h
  ·simp at h
  rename_i c2
  split at h
  ·simp at h
  rename_i c3;cases hnd:ndAt xs pl with
  | none=>rw [hnd] at h;simp at h
  | some nd =>
   rw [hnd] at h;have hok:=W8 hb hnd;simp only [] at h;by_cases c4 : 4096 < (outN out name nd).length
   ·have e:Zh out name nd=(outN out name nd,[],11):=if_pos c4
    rw [e] at h;simp [visK] at h
   have em:Zh out name nd=(outN out name nd,nd.kids,0):=if_neg c4;rw [em] at h;simp only [] at h;obtain ⟨own,eo,ho⟩:=outN_adds out name nd;obtain ⟨n2,A2,P2,F2⟩:=visK_all (rec:=vis xs Zh k (way ++ [pl])) name (fun nm p m out m' out' h=>(ih (way ++ [pl]) nm p m out m' out' h).imp fun _ h=>h.1) nd.kids hok.kids _ _ _ _ h;have hne:∀ y∈n2,∃ z s,y.1=name ++ (z :: s):=fun y hy=>by
    obtain ⟨k,hk,s,e⟩:=P2 y hy;have hk':=(hok.kids.each k hk).ne;cases hk1:k.1 with
    | nil=>exact absurd hk1 hk'
    | cons z e'=>exact ⟨z,e' ++ s,by rw [e,hk1];rfl⟩
   refine ⟨own ++ n2,⟨by rw [A2.eq,eo,List.append_assoc],?_,?_⟩,?_⟩
   ·intro y hy
    rcases List.mem_append.1 hy with hy | hy
    ·rcases ho with ⟨rfl,_⟩ | ⟨x,rfl,_⟩
     ·cases hy
     ·rw [List.mem_singleton.1 hy];exact ⟨[],by simp⟩
    ·exact A2.pre y hy
   ·rw [List.pairwise_append]
    refine ⟨?_,A2.once,fun a ha b hb2 e=>?_⟩
    ·rcases ho with ⟨rfl,_⟩ | ⟨x,rfl,_⟩
     ·exact List.Pairwise.nil
     ·exact List.pairwise_singleton _ _
    ·rcases ho with ⟨rfl,_⟩ | ⟨x,rfl,_⟩
     ·cases ha
     ·rw [List.mem_singleton.1 ha] at e
      obtain ⟨z,s,e2⟩:=hne b hb2;rw [e2] at e;simp at e
   ·intro rest j hl hj
    have hlen:name.length + rest.length≤255:=by rwa [List.length_append] at hl
    have hd:(name ++ rest).drop name.length=rest:=by simp
    have hstep:vis xs (Z7 (name ++ rest)) (k + 1) way name pl (j,none)=visK (vis xs (Z7 (name ++ rest)) k (way ++ [pl])) name (Z7 (name ++ rest) none name nd).2.1 (Z7 (name ++ rest) none name nd).2.2 (j + 1,(Z7 (name ++ rest) none name nd).1):=by
     conv=>lhs;unfold vis
     rw [if_neg c1,if_neg c2,if_neg (by simp only [];omega),hnd]
    rw [hstep];by_cases hr:rest=[]
    ·have e:Z7 (name ++ rest) none name nd=(nd.ex,[],0):=if_pos (hd.trans hr)
     rw [e];subst hr;simp only [visK,List.append_nil];have e:Xz name (own ++ n2)=Xz name own:=named_front _ _ _ fun y hy e=>by
      obtain ⟨z,s,e2⟩:=hne y hy;rw [e2] at e;simp at e
     refine ⟨j + 1,?_⟩;rw [e];rcases ho with ⟨rfl,hx⟩ | ⟨x,rfl,hx⟩
     ·rw [hx];rfl
     ·rw [hx];simp [Xz]
    ·have ef:Z7 (name ++ rest) none name nd=(none,J7 nd.kids rest,0):=by
      unfold Z7;rw [hd,if_neg hr]
     rw [ef];have e:Xz (name ++ rest) (own ++ n2)=Xz (name ++ rest) n2:=named_app _ _ _ fun y hy e=>by
      rcases ho with ⟨rfl,_⟩ | ⟨x,rfl,_⟩
      ·cases hy
      ·rw [List.mem_singleton.1 hy] at e
       exact hr (by simpa using e.symm)
     rw [e];simp only [];unfold J7;rcases F2 rest with ⟨f1,f2⟩ | ⟨kd,f1,mi,oi,mi',oi',ni,f3,f4,f5⟩
     ·rw [f1,f2]
      exact ⟨j + 1,rfl⟩
     ·rw [f1,f5]
      simp only [visK];obtain ⟨s,hs⟩:=To.1 (List.find?_some (p:=fun k:Kid=>pfx k.1 rest) f1);have hkd:=hok.kids.each kd (List.mem_of_find?_eq_some f1);obtain ⟨ni',A',G'⟩:=ih (way ++ [pl]) (name ++ kd.1) kd.2 mi oi mi' oi' f3;have en:ni'=ni:=by
       have:=A'.eq.symm.trans f4.eq
       exact List.append_cancel_left this
      subst en;have hk1 : 1≤kd.1.length:=by
       cases hk:kd.1 with
       | nil=>exact absurd hk hkd.ne
       | cons z e'=>simp
      have hname:name ++ rest=(name ++ kd.1) ++ s:=by rw [hs,List.append_assoc]
      obtain ⟨j',hj'⟩:=G' s (j + 1) (by rw [← hname];exact hl) (by rw [List.length_append];omega);rw [← hname] at hj';exact ⟨j',by rw [hj'];rfl⟩
end
end
theorem pre_ne:∀ (l:List Int) (i:Nat),i < (pre l).length→l.getD i 0≠0:=by
 intro l
 induction l with
 | nil=>intro i h;simp [pre] at h
 | cons x l ih =>
  intro i h;simp only [pre] at h;by_cases hx:x=0
  ·rw [if_pos hx] at h;simp at h
  ·rw [if_neg hx] at h
   cases i with
   | zero=>simpa using hx
   | succ i=>simpa using ih i (by simpa using h)
theorem pre_end:∀ (l:List Int),(pre l).length < l.length→l.getD (pre l).length 0=0:=by
 intro l
 induction l with
 | nil=>intro h;simp at h
 | cons x l ih =>
  intro h;simp only [pre] at h ⊢;by_cases hx:x=0
  ·rw [if_pos hx];simpa using hx
  ·rw [if_neg hx] at h ⊢
   simpa using ih (by simpa using h)
theorem quiet_eq {f:FuncId} {args:Array Value} {w:World} {v:Value} (h:Calls Tryz.prog f args w fun e w'=>e=.returned v∧w=w'):Calls Tryz.prog f args w fun e w'=>e=.returned v∧w'=w :=
 h.mono fun _ _ h=>⟨h.1,h.2.symm⟩
theorem Gm (b o c n:Nat) (ys:List Int) (h:Qk w (some ⟨b,o,none⟩) c ys) (hn:ys.length=n) (hb:n≤140737488355328) (hc:n≤c) :
  Calls Tryz.prog 90 #[.slice (some ⟨b,o,none⟩) n c] w fun e w'=>e=.returned (.string (strOfNums (pre ys)))∧w'=w:=by
 have hcell:∀ k,k < n→w.cell? ⟨b,o + k,none⟩=some (.int .u8 (ys.getD k 0)):=by
  intro k hk;obtain ⟨b',o',e,hx⟩:=h.2 (by omega);injection e with e;injection e with e1 e2 _;subst e1 e2;exact hx k (by omega)
 have hpl:=Ru ys;rw [hn] at hpl;have C:=Lv hcell;have NE:=Lv (pre_ne ys);have EN:=Lv (pre_end ys);rw [hn] at EN;have TX:=Lv (fun V W (hV:Qk W V c (pre ys))=>hV.text rfl);have HB:=Lv h;have PT:=Lv (Mp ys);obtain ⟨k,hk⟩:∃ k,k=(pre ys).length:=⟨_,rfl⟩
 rw [← hk] at hpl NE EN TX PT;clear h hcell hn hk;go_enter Tryz.func90,Tryz.ntmps90;go_wp2;go_loop [3] (fun i=>∃ j:Nat,i=.int .i64 j∧j≤k) (fun i=>k - (intOf i).toNat)
 case atStart=>exact ⟨0,rfl,by omega⟩
 case round =>
  obtain ⟨j,rfl,hj⟩:=hrel;by_cases hlt:j < k
  ·have c0:=C.o j (by omega)
   have hne:=NE.o j hlt;generalize ys.getD j 0=y at *;have hjn:j < n:=by omega
   have hb1:(y != 0)=true:=by simpa using hne
   go_wp2;go_round
   case rel=>exact ⟨j + 1,by go_num,by omega⟩
   case measure=>simp [intOf];omega
  ·obtain rfl:j=k:=by omega
   have cv:=TX.o (some ⟨b,o,none⟩) w (by have:=HB.o.take j (c':=c) (fun e=>by cases e);rw [← PT.o] at this;exact this);by_cases hjn:j < n
   ·have c0:=C.o j hjn
    rw [EN.o hjn] at c0;go_wp2;go_ret
    exact ⟨rfl,rfl⟩
   ·go_wp2
    go_ret
    exact ⟨rfl,rfl⟩
section
variable {w:World} {q:Option Addr} {c:Nat} {ys:List Int}
theorem refsize_any (h:Qk w q c ys) (hr:∀ x∈ys,0≤x∧x < 256) (hb:ys.length≤140737488355328) :
  Calls Tryz.prog 161 #[.slice q ys.length c] w fun e w'=>e=.returned (.int .i64 (szN 10 ys))∧w=w':=by
 have hcell:∀ k,k < ys.length→∃ x:Addr,q=some x∧w.cell? (x.add k)=some (.int .u8 (ys.getD k 0)):=by
  intro k hk;rcases h.ways with ⟨_,rfl,_⟩ | ⟨x,rfl,hc⟩
  ·simp at hk
  ·exact ⟨x,rfl,hc k hk⟩
 have C:=Lv hcell;have HR:=Lv hr;clear hcell hr h;go_enter Tryz.func161,Tryz.ntmps161;go_wp2;go_loop [3] (fun i=>∃ k:Nat,i=.int .i64 k∧k≤10∧k≤ys.length∧Hid (More ys k)) (fun i=>10 - (intOf i).toNat)
 case atStart=>exact ⟨0,rfl,by omega,by omega,Lv (fun i hi=>by omega)⟩
 case round =>
  obtain ⟨k,rfl,hk,hl,M⟩:=hrel;by_cases hend:k=10
  ·have hz:=szN_long 10 ys (hend ▸ M.o)
   have Z:=Lv hz;clear hz;have hd:decide ((k:Int) < 10)=false:=by simp;omega
   by_cases he:k < ys.length
   ·go_wp2
    go_ret
    exact ⟨Ql (by rw [Z.o];rfl),rfl⟩
   ·go_wp2
    go_ret
    exact ⟨Ql (by rw [Z.o];rfl),rfl⟩
  ·by_cases he:k < ys.length
   ·obtain ⟨x,rfl,hc⟩:=C.o k he
    have hx:=HR.o (ys.getD k 0) (by simp [List.getD,he,List.getElem_mem]);have hs:ys.getD k 0 < 128→szN 10 ys=k + 1:=fun hlt=>Sc 10 k ys (by omega) he M.o hlt;have hn : 128≤ys.getD k 0→More ys (k + 1):=fun h=>M.o.succ h;generalize ys.getD k 0=y at *;have S:=Lv hs;have HN:=Lv hn;clear hs hn;by_cases hlt:y < 128
    ·go_wp2
     go_ret
     exact ⟨Ql (by rw [S.o hlt];omega),rfl⟩
    ·have hge : 128≤y:=by omega
     go_wp2;go_round
     case rel=>exact ⟨k + 1,by go_num,by omega,by omega,Lv (HN.o hge)⟩
     case measure=>simp [intOf];omega
   ·have hz:=szN_short 10 ys (by rw [show ys.length=k by omega];exact M.o)
    have Z:=Lv hz;clear hz;go_wp2;go_ret
    exact ⟨Ql (by rw [Z.o];rfl),rfl⟩
theorem valN_drop_le (l:List Int):∀ j,valN (l.drop j)≤valN l:=by
 induction l with
 | nil=>intro j;simp
 | cons b l ih =>
  intro j;cases j with
  | zero=>exact Int.le_refl _
  | succ j =>
   have h1:=ih j;have h2:=Gl l;simp only [List.drop_succ_cons,valN];omega
theorem valN_drop_lt (l:List Int) (j:Nat) (hj : 1≤j) : 128 * valN (l.drop j)≤valN l:=by
 cases l with
 | nil=>cases j <;> simp [valN]
 | cons b l =>
  obtain ⟨j,rfl⟩:∃ i,j=i + 1:=⟨j - 1,by omega⟩
  have h1:=valN_drop_le l j;simp only [List.drop_succ_cons,valN];omega
theorem drop_cons {l:List Int} {i:Nat} (h:i < l.length):l.drop i=l.getD i 0 :: l.drop (i + 1):=by
 rw [List.drop_eq_getElem_cons h];simp [h]
theorem getD_take {l:List Int} {s i:Nat} (h:i < s):(l.take s).getD i 0=l.getD i 0:=by simp [List.getD,h]
theorem uleb_eq {l:List Int} (h:valN (l.take (szN 10 l)) < 18446744073709551616):Zl l=(valN (l.take (szN 10 l)),szN 10 l):=by unfold Zl;rw [if_pos h]
theorem uleb_ge {l:List Int} (h : 18446744073709551616≤valN (l.take (szN 10 l))):Zl l=(0,0):=Te (.inr h)
theorem refuleb_any (h:Qk w q c ys) (hr:∀ x∈ys,0≤x∧x < 256) (hb:ys.length≤140737488355328) :
  Calls Tryz.prog 143 #[.slice q ys.length c] w fun e w'=>e=.returned (.tuple #[.int .u64 (Zl ys).1,.int .i64 (Zl ys).2])∧w=w':=by
 have SZ:=Lv (refsize_any h hr hb);have hcell:∀ k,k < ys.length→∃ x:Addr,q=some x∧w.cell? (x.add k)=some (.int .u8 (ys.getD k 0)):=by
  intro k hk;rcases h.ways with ⟨_,rfl,_⟩ | ⟨x,rfl,hc⟩
  ·simp at hk
  ·exact ⟨x,rfl,hc k hk⟩
 have C:=Lv hcell;have HR:=Lv hr;have hs:=Px 10 ys;have YE:=Lv (uleb_eq (l:=ys));have NO:=Lv (uleb_ge (l:=ys));generalize szN 10 ys=s at *;generalize Zl ys=r at *;clear hcell hr h;go_enter Tryz.func143,Tryz.ntmps143;go_wp2_with fail;refine SZ.o.mono ?_
 rintro e w' ⟨rfl,rfl⟩;go_wp2;go_loop [4,6] (fun n i=>∃ (j:Nat) (v:Int),i=.int .i64 ((j:Int) - 1)∧n=.int .u64 v∧j≤s∧0≤v∧v < 18446744073709551616∧Hid (v=valN ((ys.take s).drop j))) (fun _ i=>(intOf i + 1).toNat)
 case atStart=>exact ⟨s,0,by go_num,rfl,by omega,by omega,by omega,Lv (by rw [List.drop_eq_nil_of_le (by simp;omega)];rfl)⟩
 case round =>
  obtain ⟨j,v,rfl,rfl,hj,hv0,hv1,V⟩:=hrel;rcases Nat.eq_zero_or_pos j with rfl | hpos
  ·have hv:=V.out
   rw [List.drop_zero] at hv;have hy:=YE.o (by rw [← hv];exact hv1);rw [← hv] at hy;have Y:=Lv hy;clear hv hy;go_wp2;go_ret2
   rw [Y.o];exact ⟨rfl,rfl⟩
  ·obtain ⟨i,rfl⟩:∃ i,j=i + 1:=⟨j - 1,by omega⟩
   have e1:((i + 1:Nat):Int) - 1=(i:Int):=by omega
   rw [e1];by_cases hbig : 144115188075855872≤v
   ·have hn:=NO.o (by have:=valN_drop_lt (ys.take s) (i + 1) (by omega);rw [← V.out] at this;omega)
    have N:=Lv hn;clear hn e1;go_wp2;go_ret2
    rw [N.o];exact ⟨rfl,rfl⟩
   ·obtain ⟨x,rfl,hc⟩:=C.o i (by omega)
    have hx:=HR.o (ys.getD i 0) (by simp [List.getD,show i < ys.length by omega,List.getElem_mem]);have hd:(ys.take s).drop i=ys.getD i 0 :: (ys.take s).drop (i + 1):=by rw [drop_cons (by simp;omega),getD_take (by omega)]
    generalize ys.getD i 0=y at *;have D:=Lv hd;clear hd e1;go_wp2;go_round
    case rel=>exact ⟨i,v * 128 + y % 128,by go_num,by go_num,by omega,by omega,by omega,Lv (by rw [D.o,V.out];simp only [valN];omega)⟩
    case measure=>simp [intOf]
end
end Go.Proofs.YtkmbkpoclhbmgaaGreat
