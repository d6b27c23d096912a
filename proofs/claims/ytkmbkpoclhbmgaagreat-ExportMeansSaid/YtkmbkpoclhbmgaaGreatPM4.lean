/- Parts of the proof, put together: TrY, TrZ, TrV, TrB, TrC, SortK, SortExp, TrO, TrL, TrMay, Put, Puts. No condition beyond those that each part names. -/
import Derived.Shelf.Small.Bits
import Derived.Shelf.Small.Strs
import Derived.Shelf.Strconv.Itoa0
import Derived.Shelf.Strings.Search1
import Derived.Shelf.Bytes.SlIndexAt
import Derived.Shelf.Bytes.SlSearch0
import Derived.Ground.SlbCloneProg
import Derived.Shelf.Bytes.SlClone
import Derived.Shelf.Bytes.IndexByte
import Derived.Test.YtkmbkpoclhbmgaaGreatProg
import Derived.Test.YtkmbkpoclhbmgaaGreatRows
import Derived.WalkKit
import Derived.WalkSpells
import Derived.WalkLawsBesides
import Derived.BigQuiet
import Derived.Deep.QuietTactic
import Derived.Lib.Hide
import Derived.IntWalk
import Derived.OneCell
import Derived.Laws.Rows
import Derived.OpenShut
import Derived.ProofKit
import Derived.Lib.EndianBits
import Derived.RegionTactic
import Derived.ChangeAlike
import Derived.WalkMore
import Derived.Laws.BytesArg
import Derived.Shelf.Bytes.SlEqualAll
import Derived.Lib.SlFresh
import Derived.Maps.AppendAt
import Derived.Deep.AppendSrc
import Derived.Deep.Upon
import Derived.Lib.AppendZeros
import Derived.Laws.IdiomStrings
import Derived.Lib.AppendZerosOnto
import Derived.Laws.StructEq
import Derived.Below
import Derived.Shelf.Abstract
import Derived.Laws.ResultCell
import Derived.Deep.Slices
import Derived.ChangeSame
import Derived.Laws.OwnMore
import Derived.Laws.Slices
import Derived.Lib.ConvBytes
import Derived.StringKeys
import Derived.Maps.Own
import Derived.Maps.OwnOps
import Derived.Maps.OwnSet
import Derived.WideShapes
import Derived.Deep.LoopGhost
import Derived.StillTailTactics
import Derived.Deep.Cut
import Derived.Deep.CutRange
import Derived.PlainAid
import Derived.Lib.SlBytesRow
import Derived.Deep.Onto
import Derived.Laws.EntriesVeiled
import Derived.Shelf.SlSortCmp.WholeK
import Derived.Shelf.SlGeneric
import Derived.Ground.SlsfProg
import Derived.Laws.Bits128
import Derived.Test.YtkmbkpoclhbmgaaGreatPM1
import Derived.Test.YtkmbkpoclhbmgaaGreatPM2
import Derived.Test.YtkmbkpoclhbmgaaGreatPM3
namespace Go.Proofs.YtkmbkpoclhbmgaaGreat
open Go.RowKit
variable {w w' W V:World} {xs:List Int}
theorem strOfNums_app (a b:List Int):strOfNums a ++ strOfNums b=strOfNums (a ++ b):=by
 apply ByteArray.ext
 apply Array.ext'
 rw [ByteArray.data_append,Array.toList_append,strOfNums_data,strOfNums_data,strOfNums_data,List.map_append]
theorem u64Type:StType Tryz.prog 26 129 1 8:=.mk' Tryz.underlying129 (z:=.int .u64 0) (by kernel_rfl) rfl (by decide)
def u64Cs (x:Int):List Value:=[.int .u64 x]
theorem own_less {T:TypeId} {k n base c:Nat} {q:Option Addr} {ys zs:List Value} (h:w.ownsRow base T k (.slice q (n + 1) c) (n + 1) (ys ++ zs)) (hy:ys.length=n * k):w.ownsRow base T k (.slice q n c) n ys:=by
 obtain ⟨_,hn | ⟨g,cap,cur,hv,hb,hg,hle,hm,hs,ht⟩⟩:=h
 ·cases hn.2
 ·injection hv with e1 e2 e3
  subst e1 e3
  refine ⟨hy,.inr ⟨g,c,cur,rfl,hb,hg,by omega,hm,hs,?_⟩⟩
  have:=congrArg (List.take (n * k)) ht
  rw [List.take_take,Nat.min_eq_left (Nat.mul_le_mul_right k (Nat.le_succ n)),← hy,List.take_left] at this
  rw [← hy];exact this
def U64At (w:World) (q:Option Addr) (l:List Int):Prop:=∀ i x,l[i]?=some x→∃ g,q=some ⟨g,0,none⟩∧w.cell? ⟨g,i,none⟩=some (.int .u64 x)
theorem U64At.of {lo n c:Nat} {q:Option Addr} {l:List Int} (h:w.ownsRow lo 26 1 (.slice q n c) n (l.flatMap u64Cs)):U64At w q l:=fun i x hx=>by
 obtain ⟨g,e,h0⟩:=row_cell (f:=u64Cs) (k:=1) (fun _=>rfl) h hx (j:=0) (by decide)
 refine ⟨g,e,?_⟩
 rw [Nat.mul_one,Nat.add_zero] at h0
 exact h0
theorem index64_any (l:List Int) (n:Nat) (hn:l.length=n) (hl:n≤9223372036854775807) (q:Option Addr) (c:Nat) (hr:U64At w q l) (p:Int) :
  Calls Tryz.prog 99 #[.slice q n c,.int .u64 p] w fun e w'=>(∃ z:Int,e=.returned (.int .i64 z)∧decide (0≤z)=decide (p∈l))∧w'=w:=by
 subst hn
 have RR:=Lib.hid hr
 clear hr
 go_enter Tryz.func99,Tryz.ntmps99
 go_wp2
 go_loop [8] (fun i=>∃ k:Nat,k≤l.length∧i=.int .i64 k∧∀ j y,j < k→l[j]?=some y→p≠y) (fun i=>l.length - (intOf i).toNat)
 case atStart=>exact ⟨0,Nat.zero_le _,rfl,fun i y h=>by omega⟩
 case round =>
  obtain ⟨k,hk,rfl,hno⟩:=hrel
  have NO:=Lib.hid hno
  by_cases hlt:k < l.length
  ·obtain ⟨x,hx⟩:∃ x,l[k]?=some x:=⟨_,List.getElem?_eq_getElem hlt⟩
   obtain ⟨gq,rfl,c0⟩:=RR.out k x hx
   have dl:decide ((k:Int) < (l.length:Int))=true:=by simp;omega
   have hkl:(k:Int) < (l.length:Int):=by omega
   have HX:=Lib.hid hx
   have HM:=Lib.hid (List.mem_of_getElem? hx)
   clear hx hno
   by_cases he:p=x
   ·have de:(p == x)=true:=by simpa using he
    have HE:=Lib.hid (show p∈l by rw [he];exact HM.out)
    generalize l.length=N at *
    clear he
    go_wp2
    go_ret
    exact ⟨⟨k,rfl,by first | exact iff_of_true (by omega) HE.out | (rw [decide_eq_true HE.out];simp)⟩,rfl⟩
   ·have de:(p == x)=false:=by simpa using he
    have HE:=Lib.hid he
    generalize l.length=N at *
    clear he
    go_wp2
    go_round
    case rel =>
     refine ⟨k + 1,hlt,by go_num,fun i y hi hy=>?_⟩
     rcases Nat.lt_or_ge i k with h | h
     ·exact NO.out i y h hy
     ·obtain rfl:i=k:=by omega
      rw [HX.out] at hy
      injection hy with hy
      rw [← hy];exact HE.out
    case measure=>simp [intOf];omega
  ·have NA:=Lib.hid (show ¬ p∈l from fun h=>by
    obtain ⟨i,hi,e⟩:=List.getElem_of_mem h
    exact hno i _ (by omega) (List.getElem?_eq_getElem hi) e.symm)
   have dl:decide ((k:Int) < (l.length:Int))=false:=by simp;omega
   clear hno
   generalize l.length=N at *
   go_wp2
   go_ret
   exact ⟨⟨-1,rfl,by first | exact iff_of_false (by omega) NA.out | (rw [decide_eq_false NA.out];rfl)⟩,rfl⟩
theorem contains64_any (l:List Int) (n:Nat) (hn:l.length=n) (hl:n≤9223372036854775807) (q:Option Addr) (c:Nat) (hr:U64At w q l) (p:Int) :
  Calls Tryz.prog 71 #[.slice q n c,.int .u64 p] w fun e w'=>e=.returned (.bool (decide (p∈l)))∧w'=w:=by
 have I:=Lib.hid (index64_any l n hn hl q c hr p)
 clear hr
 go_enter Tryz.func71,Tryz.ntmps71
 go_wp2_with fail
 refine I.out.mono ?_
 rintro e w' ⟨⟨z,rfl,hz⟩,rfl⟩
 have Z:=Lib.hid hz
 clear hz
 go_wp2
 go_ret
 exact ⟨ret_bool Z.out,rfl⟩
theorem OneAt.chg {F:Nat→Prop} {g:Nat} {v:Value} {T:TypeId} (h:OneAt W g v T) (hg:Chg F W V) (hf:¬ F g):OneAt V g v T:=(hg.block g (lt_of_block h) hf).trans h
theorem cell_chg {F:Nat→Prop} {b i:Nat} {v:Value} (h:W.cell? ⟨b,i,none⟩=some v) (hg:Chg F W V) (hf:¬ F b):V.cell? ⟨b,i,none⟩=some v:=by
 have:=hg.block b (World.block_lt_of_cell? W _ h) hf
 unfold World.cell? at h ⊢
 simp only [this]
 exact h
theorem KidsAt.chg {F:Nat→Prop} {q:Option Addr} {l:List Kid} (h:KidsAt W q l) (hg:Chg F W V) (hf:∀ g o,q=some ⟨g,o,none⟩→¬ F g):KidsAt V q l:=fun i x hx=>by
 obtain ⟨g,o,e,c0,c1⟩:=h i x hx
 exact ⟨g,o,e,cell_chg c0 hg (hf g o e),cell_chg c1 hg (hf g o e)⟩
structure MOut (S:Type) (mt:Mt S) (Inv:World→(Nat→Prop)→S→Prop) (s:S) (name:List Int) (nd:Nd) (v:Value) (G:Nat→Prop) (W W':World) (e:Ending):Prop where
 ex:∃ q c G',e=.returned (.tuple #[.slice q (mt s name nd).2.1.length c,.int .i64 (mt s name nd).2.2])∧Inv W' G' (mt s name nd).1∧(∀ k,G' k→G k∨(W.heap.size≤k∧k < W'.heap.size))∧KidsAt W' q (mt s name nd).2.1∧(∀ g o,q=some ⟨g,o,none⟩→v.ownBlock=some g)∧(mt s name nd).2.1.length≤c∧c≤9223372036854775807
 chg:Chg G W W'
structure MeetOk (S:Type) (fm:Nat) (cbs:Array Value) (mt:Mt S) (Pre:List Int→Prop) (Fine:S→Prop) (Inv:World→(Nat→Prop)→S→Prop):Prop where
 enters:∀ args V,(callFunc fm args).run Tryz.prog V=.ok (.enter fm args) V
 kept:∀ W V G s H,Inv W G s→Chg H W V→(∀ k,G k→¬ H k)→Inv V G s
 sub:∀ s name nd,∀ x∈(mt s name nd).2.1,x∈nd.kids
 pre:∀ s name nd,Pre name→∀ x∈(mt s name nd).2.1,Pre (name ++ x.1)
 next:∀ s name nd,Fine s→(mt s name nd).2.2=0→Fine (mt s name nd).1
 stop:∀ s name nd,(mt s name nd).2.2≠0→(mt s name nd).2.1=[]
 call:∀ W G s name nd v base,Inv W G s→Fine s→Pre name→name.length≤255→NdOk nd→W.ownsRow base 145 2 v nd.kids.length (nd.kids.flatMap kidCs)→(∀ g,v.ownBlock=some g→¬ G g)→(∀ k,G k→k < W.heap.size) →
  Calls Tryz.prog fm (#[.string (strOfNums name),nodeV nd.ex.isSome (nmOf (strOfNums name) nd.ex) (exOf nd.ex) v] ++ cbs) W fun e W'=>MOut S mt Inv s name nd v G W W' e
structure Wfx where
 B:Nat
 cmet:Nat
 cway:Nat
 cb:Nat
 cm:Nat
 cv:Nat
 b:Nat
 o:Nat
 c:Nat
 fm:Nat
 cbs:Array Value
def Wfx.caps (z:Wfx):Array Value:=#[.pointer (some ⟨z.cmet,0,none⟩),.pointer (some ⟨z.cway,0,none⟩),.pointer (some ⟨z.cb,0,none⟩),.pointer (some ⟨z.cm,0,none⟩),.pointer (some ⟨z.cv,0,none⟩)]
structure Wk (S:Type) (z:Wfx) (xs:List Int) (Inv:World→(Nat→Prop)→S→Prop) (W:World) (F:Nat→Prop) (m:Nat) (way:List Int) (s:S):Prop where
 met:OneAt W z.cmet (.int .i64 m) 3
 way:∃ q cap,OneAt W z.cway (.slice q way.length cap) 129∧W.ownsRow z.B 26 1 (.slice q way.length cap) way.length (way.flatMap u64Cs)∧(∀ g,(Value.slice q way.length cap).ownBlock=some g→F g)
 inv:∃ G,(∀ k,G k→F k)∧Inv W G s∧¬ G z.cmet∧¬ G z.cway∧∀ q n cap,W.cell? ⟨z.cway,0,none⟩=some (.slice q n cap)→∀ g,(Value.slice q n cap).ownBlock=some g→¬ G g
 fmet:F z.cmet
 fway:F z.cway
 fb:∀ k,F k→z.B≤k∧k < W.heap.size
 bb:OneAt W z.cb (.slice (some ⟨z.b,z.o,none⟩) xs.length z.c) 29
 me:OneAt W z.cm (.func (.func z.fm) #[] z.cbs) 88
 vi:OneAt W z.cv (.func (.func 70) #[] z.caps) 139
 nb:¬ F z.cb
 nm:¬ F z.cm
 nv:¬ F z.cv
 cell:∀ i,i < xs.length→W.cell? ⟨z.b,z.o + i,none⟩=some (.int .u8 (xs.getD i 0))
 nx:¬ F z.b
 ne:z.cmet≠z.cway
 nz : 0 < xs.length
section
variable {S:Type} {fm:Nat} {cbs:Array Value} {mt:Mt S} {Pre:List Int→Prop} {Fine:S→Prop} {Inv:World→(Nat→Prop)→S→Prop} {z:Wfx} {F H:Nat→Prop} {m:Nat} {way:List Int} {s:S}
theorem Wk.kept (M:MeetOk S fm cbs mt Pre Fine Inv) (h:Wk S z xs Inv W F m way s) (hg:Chg H W V) (hd:∀ k,F k→¬ H k) (hb:¬ H z.cb) (hm:¬ H z.cm) (hv:¬ H z.cv) (hx:¬ H z.b):Wk S z xs Inv V F m way s:=by
 obtain ⟨q,cap,a1,a2,a3⟩:=h.way
 obtain ⟨G,b1,b2,b3,b4,b5⟩:=h.inv
 have a4:=a1.chg hg (hd _ h.fway)
 refine ⟨h.met.chg hg (hd _ h.fmet),⟨q,cap,a4,?_,a3⟩,⟨G,b1,M.kept _ _ _ _ _ b2 hg (fun k hk=>hd k (b1 k hk)),b3,b4,?_⟩,h.fmet,h.fway,fun k hk=>⟨(h.fb k hk).1,Nat.lt_of_lt_of_le (h.fb k hk).2 hg.size⟩,h.bb.chg hg hb,h.me.chg hg hm,h.vi.chg hg hv,h.nb,h.nm,h.nv,fun i hi=>cell_chg (h.cell i hi) hg hx,h.nx,h.ne,h.nz⟩
 ·obtain ⟨x1,hn | ⟨g,cp,cur,y1,y2,y3,y4,y5,y6,y7⟩⟩:=a2
  ·exact ⟨x1,.inl hn⟩
  ·refine ⟨x1,.inr ⟨g,cp,cur,y1,y2,?_,y4,y5,y6,y7⟩⟩
   rw [hg.block g (lt_of_block y3) (hd g (a3 g (by rw [y1];rfl)))]
   exact y3
 ·intro q' n' cap' e
  rw [a4.c] at e
  rw [a1.c] at b5
  exact b5 q' n' cap' e
theorem Wk.grown (M:MeetOk S fm cbs mt Pre Fine Inv) (h:Wk S z xs Inv W F m way s) (hg:W.grownBy V none):Wk S z xs Inv V F m way s :=
 h.kept M (H:=fun _=>False) (Chg.of_grown hg (fun b e=>by cases e)) (fun _ _ e=>e) (fun e=>e) (fun e=>e) (fun e=>e) (fun e=>e)
theorem Wk.setMet (M:MeetOk S fm cbs mt Pre Fine Inv) (h:Wk S z xs Inv W F m way s) (n:Nat) {N:Int} (hN:N=n):Wk S z xs Inv (W.setCell ⟨z.cmet,0,none⟩ (.int .i64 N)) F n way s:=by
 subst hN
 have g1:W.grownBy (W.setCell ⟨z.cmet,0,none⟩ (.int .i64 (n:Nat))) (some z.cmet):=grown_setCell (grown_refl W _) _
 have c1:Chg (fun k=>k=z.cmet) W (W.setCell ⟨z.cmet,0,none⟩ (.int .i64 (n:Nat))):=Chg.of_grown g1 (fun b e=>by injection e with e;exact .inl e.symm)
 obtain ⟨q,cap,a1,a2,a3⟩:=h.way
 obtain ⟨G,b1,b2,b3,b4,b5⟩:=h.inv
 have a4:=a1.chg c1 h.ne.symm
 refine ⟨h.met.set _,⟨q,cap,a4,a2.kept g1 (.inr (own_ne a2 h.met (by decide))),a3⟩,⟨G,b1,M.kept _ _ _ _ _ b2 c1 (fun k hk e=>b3 (e ▸ hk)),b3,b4,?_⟩,h.fmet,h.fway,fun k hk=>⟨(h.fb k hk).1,Nat.lt_of_lt_of_le (h.fb k hk).2 g1.size⟩,
  h.bb.chg c1 (fun e=>h.nb (e ▸ h.fmet)),h.me.chg c1 (fun e=>h.nm (e ▸ h.fmet)),h.vi.chg c1 (fun e=>h.nv (e ▸ h.fmet)),h.nb,h.nm,h.nv,fun i hi=>cell_chg (h.cell i hi) c1 (fun e=>h.nx (e ▸ h.fmet)),h.nx,h.ne,h.nz⟩
 intro q' n' cap' e
 rw [a4.c] at e
 rw [a1.c] at b5
 exact b5 q' n' cap' e
end
end Go.Proofs.YtkmbkpoclhbmgaaGreat
namespace Go.Proofs.YtkmbkpoclhbmgaaGreat
open Go.RowKit
variable {w w' W V:World} {xs:List Int}
theorem wp_append_sta {T TS:TypeId} {k by':Nat} (st:StType Tryz.prog T TS k by') {base:Nat} {ops:Array Oper} {rest:List Oper} {o:Oper} {a:Act} {Q:Exit→Act→World→Prop} (hgd:o.guard=none) (s x:Operand)
  (ho:o.op=.call { callee:=.builtin .append,args:=#[s,x],argTypes:=#[TS,TS] })
  (v:Value) (n:Nat) (ys:List Value) (hs:a.eval s=v) (hown:w.ownsRow base T k v n ys) (cs:List Value) (hl:cs.length=k) (g:Nat) (hx:a.eval x=.slice (some ⟨g,0,none⟩) 1 1)
  (hb:w.heap[g]?=some (.cells cs.toArray T (0,0))) (h1:∀ u∈cs,u.oneCell'=true)
  (h63:(n + 1) * by'≤140737488355328) (hby : 0 < by') (hbase:base≤w.heap.size)
  (h:∀ v' w',w'.ownsRow base T k v' (n + 1) (ys ++ cs)→w.grownBy w' v.ownBlock→(v'.ownBlock=v.ownBlock∨v'.ownBlock=some w.heap.size)→wpList Tryz.prog ops Q rest (a.put o.dst v') w'):wpList Tryz.prog ops Q (o :: rest) a w:=by
 obtain ⟨i,z,hi,hz0,hz1,hz2,hzs⟩:=st.info
 refine wpList_append_own_at w hgd s x _ ho base T i z k by' st.under hi hz0 hz1 hz2 hzs st.pos v n ys hs hown ⟨g,0,none⟩ 1 1 cs hx (by rw [hl,Nat.one_mul]) ?_ h1 (by have:=Nat.le_mul_of_pos_right (n + 1) hby;unfold maxLen;omega) h63 hbase ?_
 ·intro j u hu
  rw [add_flat,cell_of hb,← hu]
  simp
 ·intro v' w' h2 h3 _ h4
  exact h v' w' h2 h3 h4
theorem ownsRow_chg {F:Nat→Prop} {base n k:Nat} {T:TypeId} {v:Value} {ys:List Value} (h:W.ownsRow base T k v n ys) (hg:Chg F W V) (hf:∀ g,v.ownBlock=some g→¬ F g):V.ownsRow base T k v n ys:=by
 obtain ⟨x1,hn | ⟨g,cp,cur,y1,y2,y3,y4⟩⟩:=h
 ·exact ⟨x1,.inl hn⟩
 ·refine ⟨x1,.inr ⟨g,cp,cur,y1,y2,?_,y4⟩⟩
  rw [hg.block g (lt_of_block y3) (hf g (by rw [y1];rfl))]
  exact y3
section
variable {S:Type} {fm:Nat} {cbs:Array Value} {mt:Mt S} {Pre:List Int→Prop} {Fine:S→Prop} {Inv:World→(Nat→Prop)→S→Prop} {z:Wfx} {F H:Nat→Prop} {m:Nat} {way:List Int} {s s':S}
theorem Wk.base (h:Wk S z xs Inv W F m way s):z.B≤W.heap.size:=Nat.le_trans (h.fb _ h.fmet).1 (Nat.le_of_lt (h.fb _ h.fmet).2)
theorem Wk.told (h:Wk S z xs Inv W F m way s) {G G':Nat→Prop} (b1:∀ k,G k→F k) (b3:¬ G z.cmet) (b4:¬ G z.cway) (b5:∀ q n cap,W.cell? ⟨z.cway,0,none⟩=some (.slice q n cap)→∀ g,(Value.slice q n cap).ownBlock=some g→¬ G g)
  (hi:Inv V G' s') (hG:∀ k,G' k→G k∨(W.heap.size≤k∧k < V.heap.size)) (hg:Chg G W V):Wk S z xs Inv V (Foot F W V) m way s':=by
 obtain ⟨q,cap,a1,a2,a3⟩:=h.way
 have o1:=a1.chg hg b4
 have old:∀ k,k < W.heap.size→¬ F k→¬ Foot F W V k:=fun k hk hf e=>e.elim hf (fun e=>by omega)
 have row:∀ g,(Value.slice q way.length cap).ownBlock=some g→¬ G g:=b5 q way.length cap a1.c
 refine ⟨h.met.chg hg b3,⟨q,cap,o1,ownsRow_chg a2 hg row,fun g e=>.inl (a3 g e)⟩,⟨G',fun k hk=>?_,hi,?_,?_,?_⟩,.inl h.fmet,.inl h.fway,?_,h.bb.chg hg (fun e=>h.nb (b1 _ e)),h.me.chg hg (fun e=>h.nm (b1 _ e)),h.vi.chg hg (fun e=>h.nv (b1 _ e)),
  old _ h.bb.lt h.nb,old _ h.me.lt h.nm,old _ h.vi.lt h.nv,fun i hi=>cell_chg (h.cell i hi) hg (fun e=>h.nx (b1 _ e)),?_,h.ne,h.nz⟩
 ·rcases hG k hk with h1 | h1
  · exact .inl (b1 k h1)
  · exact .inr h1
 ·intro e
  rcases hG _ e with h1 | h1
  · exact b3 h1
  · have:=h.met.lt;omega
 ·intro e
  rcases hG _ e with h1 | h1
  · exact b4 h1
  · have:=a1.lt;omega
 ·intro q' n' cap' e g eg hk
  rw [o1.c] at e
  injection e with e
  injection e with e1 e2 e3
  subst e1 e2 e3
  rcases hG _ hk with h1 | h1
  · exact row g eg h1
  · have:=(a2.lt g eg).2;omega
 ·intro k hk
  rcases hk with hk | hk
  · exact ⟨(h.fb k hk).1,Nat.lt_of_lt_of_le (h.fb k hk).2 hg.size⟩
  · exact ⟨Nat.le_trans h.base hk.1,hk.2⟩
 ·intro e
  rcases e with e | e
  · exact h.nx e
  · have:=World.block_lt_of_cell? W _ (h.cell 0 h.nz)
    simp only at this
    omega
theorem Wk.push (M:MeetOk S fm cbs mt Pre Fine Inv) (h:Wk S z xs Inv W F m way s) (pl:Int) {q:Option Addr} {cap:Nat} (hc:W.cell? ⟨z.cway,0,none⟩=some (.slice q way.length cap)) {W1:World} {v':Value} (g1:W.grownBy W1 none)
  {W2:World} (ho:W2.ownsRow z.B 26 1 v' (way.length + 1) (way.flatMap u64Cs ++ u64Cs pl)) (g2:W1.grownBy W2 (Value.slice q way.length cap).ownBlock) (hv:v'.ownBlock=(Value.slice q way.length cap).ownBlock∨v'.ownBlock=some W1.heap.size) :
  Wk S z xs Inv (W2.setCell ⟨z.cway,0,none⟩ v') (Foot F W (W2.setCell ⟨z.cway,0,none⟩ v')) m (way ++ [pl]) s∧Chg F W (W2.setCell ⟨z.cway,0,none⟩ v'):=by
 obtain ⟨q',n',rfl⟩:=own_slice ho
 obtain ⟨q0,cap0,a1,a2,a3⟩:=h.way
 obtain ⟨G,b1,b2,b3,b4,b5⟩:=h.inv
 have e:=hc.symm.trans a1.c
 injection e with e
 injection e with e1 _ e2
 subst e1 e2
 have g3:=grown_setCell (i:=0) (grown_refl W2 (some z.cway)) (.slice q' (way.length + 1) n')
 have c1:Chg (fun k=>(Value.slice q way.length cap).ownBlock=some k∨k=z.cway) W (W2.setCell ⟨z.cway,0,none⟩ (.slice q' (way.length + 1) n')) :=
  ((Chg.of_grown g1 (fun b e=>by cases e)).trans (Chg.of_grown g2 (fun b e=>.inl (.inl e)))).trans (Chg.of_grown g3 (fun b e=>by injection e with e;exact .inl (.inr e.symm)))
 have cF:Chg F W (W2.setCell ⟨z.cway,0,none⟩ (.slice q' (way.length + 1) n')):=c1.mono (fun k hk=>hk.elim (a3 k) (fun e=>e ▸ h.fway))
 have hG:∀ k,G k→¬ ((Value.slice q way.length cap).ownBlock=some k∨k=z.cway):=fun k hk e=>e.elim (fun e=>b5 q way.length cap a1.c k e hk) (fun e=>b4 (e ▸ hk))
 have old:∀ k,k < W.heap.size→¬ F k→¬ Foot F W (W2.setCell ⟨z.cway,0,none⟩ (.slice q' (way.length + 1) n')) k:=fun k hk hf e=>e.elim hf (fun e=>by omega)
 have hne:(some z.cway:Option Nat)≠(Value.slice q way.length cap).ownBlock:=fun e=>own_ne a2 a1 (by decide) e.symm
 have o2:OneAt W2 z.cway (.slice q way.length cap) 129:=(a1.grown g1).kept g2 (fun e=>hne e.symm)
 have hq':(Value.slice q' (way.length + 1) n').ownBlock≠some z.cway:=own_ne ho o2 (by decide)
 have hsz:W.heap.size≤W1.heap.size:=g1.size
 have rowold:∀ g,(Value.slice q way.length cap).ownBlock=some g→g < W.heap.size:=fun g e=>(a2.lt g e).2
 have hFv:∀ g,(Value.slice q' (way.length + 1) n').ownBlock=some g→Foot F W (W2.setCell ⟨z.cway,0,none⟩ (.slice q' (way.length + 1) n')) g:=fun g e=>by
  rcases hv with h1 | h1
  · rw [h1] at e;exact .inl (a3 g e)
  · have hlt:=(ho.lt g e).2
    rw [h1] at e
    injection e with e
    exact .inr ⟨by omega,Nat.lt_of_lt_of_le hlt g3.size⟩
 refine ⟨⟨h.met.chg c1 (fun e=>e.elim (fun e=>own_ne a2 h.met (by decide) e) (fun e=>h.ne e)),⟨q',n',?_,?_,?_⟩,⟨G,fun k hk=>.inl (b1 k hk),M.kept _ _ _ _ _ b2 c1 hG,b3,b4,?_⟩,.inl h.fmet,.inl h.fway,?_,
  h.bb.chg cF h.nb,h.me.chg cF h.nm,h.vi.chg cF h.nv,old _ h.bb.lt h.nb,old _ h.me.lt h.nm,old _ h.vi.lt h.nv,fun i hi=>cell_chg (h.cell i hi) cF h.nx,?_,h.ne,h.nz⟩,cF⟩
 ·rw [List.length_append,List.length_singleton]
  exact o2.set _
 ·rw [List.length_append,List.length_singleton,List.flatMap_append,List.flatMap_singleton]
  exact ho.kept g3 (.inr hq')
 ·rw [List.length_append,List.length_singleton]
  exact hFv
 ·intro q2 n2 c2 e g eg hk
  rw [(o2.set (.slice q' (way.length + 1) n')).c] at e
  injection e with e
  injection e with e1 e2 e3
  subst e1 e2 e3
  rcases hv with h1 | h1
  · rw [h1] at eg
    exact b5 q way.length cap a1.c g eg hk
  · rw [h1] at eg
    injection eg with eg
    have:=(h.fb g (b1 g hk)).2
    omega
 ·intro k hk
  rcases hk with hk | hk
  · exact ⟨(h.fb k hk).1,Nat.lt_of_lt_of_le (h.fb k hk).2 cF.size⟩
  · exact ⟨Nat.le_trans h.base hk.1,hk.2⟩
 ·intro e
  rcases e with e | e
  · exact h.nx e
  · have:=World.block_lt_of_cell? W _ (h.cell 0 h.nz)
    simp only at this
    omega
theorem Wk.pop (M:MeetOk S fm cbs mt Pre Fine Inv) {pl:Int} (h:Wk S z xs Inv W F m (way ++ [pl]) s) {q:Option Addr} {cap:Nat} (hc:W.cell? ⟨z.cway,0,none⟩=some (.slice q (way ++ [pl]).length cap)) :
  Wk S z xs Inv (W.setCell ⟨z.cway,0,none⟩ (.slice q way.length cap)) F m way s∧Chg F W (W.setCell ⟨z.cway,0,none⟩ (.slice q way.length cap)):=by
 obtain ⟨q0,cap0,a1,a2,a3⟩:=h.way
 obtain ⟨G,b1,b2,b3,b4,b5⟩:=h.inv
 have e:=hc.symm.trans a1.c
 injection e with e
 injection e with e1 _ e2
 subst e1 e2
 have g3:=grown_setCell (i:=0) (grown_refl W (some z.cway)) (.slice q way.length cap)
 have c1:Chg (fun k=>k=z.cway) W (W.setCell ⟨z.cway,0,none⟩ (.slice q way.length cap)):=Chg.of_grown g3 (fun b e=>by injection e with e;exact .inl e.symm)
 have cF:Chg F W (W.setCell ⟨z.cway,0,none⟩ (.slice q way.length cap)):=c1.mono (fun k e=>e ▸ h.fway)
 have a2':=a2
 rw [List.length_append,List.length_singleton,List.flatMap_append,List.flatMap_singleton] at a2'
 have ob:(Value.slice q way.length cap).ownBlock=(Value.slice q (way ++ [pl]).length cap).ownBlock:=by cases q <;> rfl
 refine ⟨⟨h.met.chg c1 h.ne,⟨q,cap,a1.set _,(own_less a2' (by rw [flat_len (f:=u64Cs) (k:=1) (fun _=>rfl)])).kept g3 (.inr (by rw [ob];exact own_ne a2 a1 (by decide))),fun g e=>a3 g (ob ▸ e)⟩,⟨G,b1,M.kept _ _ _ _ _ b2 c1 (fun k hk e=>b4 (e ▸ hk)),b3,b4,?_⟩,h.fmet,h.fway,fun k hk=>⟨(h.fb k hk).1,Nat.lt_of_lt_of_le (h.fb k hk).2 cF.size⟩,
  h.bb.chg cF h.nb,h.me.chg cF h.nm,h.vi.chg cF h.nv,h.nb,h.nm,h.nv,fun i hi=>cell_chg (h.cell i hi) cF h.nx,h.nx,h.ne,h.nz⟩,cF⟩
 intro q2 n2 c2 e g eg hk
 rw [(a1.set (.slice q way.length cap)).c] at e
 injection e with e
 injection e with e1 e2 e3
 subst e1 e2 e3
 exact b5 q _ cap a1.c g (ob ▸ eg) hk
end
end Go.Proofs.YtkmbkpoclhbmgaaGreat
namespace Go.Proofs.YtkmbkpoclhbmgaaGreat
open Go.RowKit
variable {w w' W V:World} {xs:List Int}
structure VOut (S:Type) (Fine:S→Prop) (z:Wfx) (xs:List Int) (Inv:World→(Nat→Prop)→S→Prop) (F:Nat→Prop) (W W':World) (way:List Int) (r:Int × (Nat × S)) (e:Ending):Prop where
 ret:e=.returned (.int .i64 r.1)
 ex:∃ F',Wk S z xs Inv W' F' r.2.1 way r.2.2∧∀ k,F' k→F k∨W.heap.size≤k
 chg:Chg F W W'
 few:r.1=0→r.2.1≤8192∧Fine r.2.2
section
variable {S:Type} {mt:Mt S} {Pre:List Int→Prop} {Fine:S→Prop} {Inv:World→(Nat→Prop)→S→Prop} {z:Wfx}
theorem vis_go {k m:Nat} {way name:List Int} {pl:Int} {s:S} (hn:¬ 255 < name.length):vis xs mt (k + 1) way name pl (m,s)=if pl∈way then (12,(m + 1,s)) else if 8192 < m + 1 then (11,(m + 1,s)) else match ndAt xs pl with
  | none=>(12,(m + 1,s))
  | some nd=>visK (vis xs mt k (way ++ [pl])) name (mt s name nd).2.1 (mt s name nd).2.2 (m + 1,(mt s name nd).1):=by
 have e:vis xs mt (k + 1) way name pl (m,s)=if 255 < name.length then (10,(m + 1,s)) else if pl∈way then (12,(m + 1,s)) else if 8192 < m + 1 then (11,(m + 1,s)) else match ndAt xs pl with
  | none=>(12,(m + 1,s))
  | some nd=>visK (vis xs mt k (way ++ [pl])) name (mt s name nd).2.1 (mt s name nd).2.2 (m + 1,(mt s name nd).1):=rfl
 rw [e,if_neg hn]
theorem own_room8 {T:TypeId} {k n c base:Nat} {q:Option Addr} {ys:List Value} (h:W.ownsRow base T k (.slice q n c) n ys):n≤c:=by
 rcases h.2 with ⟨hv,hn⟩ | ⟨g,cp,cur,hv,_,_,hle,_⟩
 ·omega
 ·injection hv with _ _ e;omega
theorem VOut.at {F F0:Nat→Prop} {W0:World} {m:Nat} {way:List Int} {s:S} {r:Int} (h:Wk S z xs Inv V F m way s) (hF:∀ k,F k→F0 k∨W0.heap.size≤k) (hg:Chg F0 W0 V) (hm:r=0→m≤8192∧Fine s):VOut S Fine z xs Inv F0 W0 V way (r,(m,s)) (.returned (.int .i64 r)) :=
 ⟨rfl,⟨F,h,hF⟩,hg,hm⟩
theorem chg_met {F:Nat→Prop} {m:Nat} {way:List Int} {s:S} (h:Wk S z xs Inv W F m way s) (v:Value):Chg F W (W.setCell ⟨z.cmet,0,none⟩ v) :=
 Chg.of_grown (grown_setCell (grown_refl W (some z.cmet)) v) (fun b e=>by injection e with e;exact .inl (e ▸ h.fmet))
set_option maxRecDepth 20000 in
theorem visit_long (M:MeetOk S z.fm z.cbs mt Pre Fine Inv) {F:Nat→Prop} {m:Nat} {way:List Int} {s:S} (name:List Int) (pl:Int) (hn : 255 < name.length) (hn2:name.length≤510) (hm:m≤8192) (h:Wk S z xs Inv W F m way s) :
  Calls Tryz.prog 70 #[.string (strOfNums name),.int .u64 pl,.pointer (some ⟨z.cmet,0,none⟩),.pointer (some ⟨z.cway,0,none⟩),.pointer (some ⟨z.cb,0,none⟩),.pointer (some ⟨z.cm,0,none⟩),.pointer (some ⟨z.cv,0,none⟩)] W fun e W' =>
   VOut S Fine z xs Inv F W W' way (10,(m + 1,s)) e:=by
 have c0:=h.met.c
 have f0:=h.met.f
 have hsz:(strOfNums name).size=name.length:=strOfNums_size _
 have FN:=Lib.hid (fun (N:Int) (hN:N=(m + 1:Nat))=>VOut.at (Fine:=Fine) (r:=10) (h.setMet M (m + 1) hN) (fun k hk=>.inl hk) (chg_met h _) (fun e=>by cases e))
 obtain ⟨nl,hnl⟩:∃ nl,nl=name.length:=⟨_,rfl⟩
 rw [← hnl] at hsz hn hn2
 have dn:decide ((255:Int) < (nl:Int))=true:=by simp;omega
 generalize strOfNums name=SN at *
 clear h hnl
 go_enter Tryz.func70,Tryz.ntmps70
 go_wp2
 go_ret
 exact FN.out _ (by omega)
set_option maxRecDepth 20000 in
set_option maxHeartbeats 3200000 in
theorem visit_any (M:MeetOk S z.fm z.cbs mt Pre Fine Inv) (hb:Byt xs) (hc:xs.length≤z.c) (hcm:z.c≤9223372036854775807) (hbig:xs.length≤140737488355328):∀ (k:Nat) (W:World) (F:Nat→Prop) (m:Nat) (way:List Int) (s:S) (name:List Int) (pl:Int),
  256≤k + name.length→name.length≤510→Pre name→0≤pl→pl < 18446744073709551616→m≤8192→way.length≤name.length→Fine s→Wk S z xs Inv W F m way s →
  Calls Tryz.prog 70 #[.string (strOfNums name),.int .u64 pl,.pointer (some ⟨z.cmet,0,none⟩),.pointer (some ⟨z.cway,0,none⟩),.pointer (some ⟨z.cb,0,none⟩),.pointer (some ⟨z.cm,0,none⟩),.pointer (some ⟨z.cv,0,none⟩)] W fun e W' =>
   VOut S Fine z xs Inv F W W' way (vis xs mt k way name pl (m,s)) e:=by
 intro k
 induction k with
 | zero =>
  intro W F m way s name pl hk hn2 _ _ _ hm _ _ h
  exact visit_long M name pl (by omega) hn2 hm h
 | succ k ih =>
  intro W F m way s name pl hk hn2 hpre hp0 hp1 hm hway hfine h
  have FI:=Lib.hid hfine
  clear hfine
  by_cases hn : 255 < name.length
  ·have e:vis xs mt (k + 1) way name pl (m,s)=(10,(m + 1,s)):=by unfold vis;rw [if_pos hn]
   rw [e]
   exact visit_long M name pl hn hn2 hm h
  have IH:=Lib.hid ih
  have PRE:=Lib.hid hpre
  obtain ⟨qw,cw,a1,a2,a3⟩:=h.way
  have H1:=Lib.hid (fun (N:Int) (hN:N=(m + 1:Nat))=>And.intro (h.setMet M (m + 1) hN) (chg_met h (.int .i64 N)))
  have c0:=h.met.c
  have f0:=h.met.f
  have hsz:(strOfNums name).size=name.length:=strOfNums_size _
  have h1':=H1.out ((m:Int) + 1) (by omega)
  obtain ⟨W1,hW1⟩:∃ W1,W.setCell ⟨z.cmet,0,none⟩ (.int .i64 ((m:Int) + 1))=W1:=⟨_,rfl⟩
  rw [hW1] at h1'
  have HW1:=Lib.hid hW1
  have K1:=Lib.hid h1'.1
  have C1:=Lib.hid h1'.2
  clear hW1 h1' H1 ih hpre h a1 a2 a3 qw cw
  obtain ⟨r,hr⟩:∃ r,r=vis xs mt (k + 1) way name pl (m,s):=⟨_,rfl⟩
  rw [← hr]
  have HR:=Lib.hid (show r=if pl∈way then (12,(m + 1,s)) else if 8192 < m + 1 then (11,(m + 1,s)) else match ndAt xs pl with
   | none=>(12,(m + 1,s))
   | some nd=>visK (vis xs mt k (way ++ [pl])) name (mt s name nd).2.1 (mt s name nd).2.2 (m + 1,(mt s name nd).1) from hr.trans (vis_go hn))
  clear hr
  have hnl:name.length≤255:=by omega
  obtain ⟨SN,hSN⟩:∃ SN,SN=strOfNums name:=⟨_,rfl⟩
  obtain ⟨nl,hnl2⟩:∃ nl,nl=name.length:=⟨_,rfl⟩
  rw [← hSN] at hsz ⊢
  rw [← hnl2] at hsz hnl hn hn2 hk hway
  have HSN:=Lib.hid hSN
  have HNL:=Lib.hid hnl2
  clear hSN hnl2
  have dn:decide ((255:Int) < (nl:Int))=false:=by simp;omega
  go_enter Tryz.func70,Tryz.ntmps70
  go_upto_region 2 with fail
  rw [HW1.out]
  clear HW1 c0 f0
  obtain ⟨qw,cw,a1,a2,a3⟩:=K1.out.way
  have w1:=a1.c
  have hwl:way.length≤9223372036854775807:=by omega
  have FB1:=Lib.hid K1.out.fb
  have SZ1:=Lib.hid C1.out.size
  have CT:=Lib.hid (contains64_any (w:=W1) way way.length rfl hwl qw cw (U64At.of a2) pl)
  have AO:=Lib.hid a2
  clear a1 a2 a3 hwl
  go_wp2_with fail
  refine CT.out.mono ?_
  rintro e W1' ⟨rfl,hw'⟩
  have hw2:=hw'.symm
  subst hw2
  clear hw'
  by_cases hin:pl∈way
  ·have FN:=Lib.hid (VOut.at (Fine:=Fine) (r:=12) K1.out (fun k hk=>.inl hk) C1.out (fun e=>by cases e))
   rw [if_pos hin] at HR
   rw [show decide (pl∈way)=true from decide_eq_true hin]
   clear hin
   go_wp2
   go_ret
   rw [HR.out]
   exact FN.out
  rw [if_neg hin] at HR
  rw [show decide (pl∈way)=false from decide_eq_false hin]
  clear hin CT
  have c0:=K1.out.met.c
  by_cases hmm : 8192 < m + 1
  ·have FN:=Lib.hid (VOut.at (Fine:=Fine) (r:=11) K1.out (fun k hk=>.inl hk) C1.out (fun e=>by cases e))
   rw [if_pos hmm] at HR
   have dm:decide ((8192:Int) < ((m + 1:Nat):Int))=true:=by simp;omega
   have dm2:decide ((8192:Int) < (m:Int) + 1)=true:=by simp;omega
   clear hmm
   go_wp2
   go_ret
   rw [HR.out]
   exact FN.out
  rw [if_neg hmm] at HR
  have dm:decide ((8192:Int) < ((m + 1:Nat):Int))=false:=by simp;omega
  have dm2:decide ((8192:Int) < (m:Int) + 1)=false:=by simp;omega
  have b0:=K1.out.bb.c
  have NA:=Lib.hid (nodeAt_any (w:=W1) K1.out.cell hc hcm hbig hb pl hp0 hp1 SN)
  go_wp2_with fail
  refine NA.out.mono ?_
  rintro e W2 ⟨hex,hg2⟩
  have hsz2:=hg2.size
  have K2:=Lib.hid (K1.out.grown M hg2)
  have C2:=Lib.hid (C1.out.trans (Chg.of_grown hg2 (fun b e=>by cases e)))
  clear hg2 NA b0 c0 dm dm2 K1 C1
  rcases hex with ⟨nd,v,hnd,rfl,ho⟩ | ⟨hnd,rfl⟩
  case inr =>
   rw [hnd] at HR
   have GZ:=Lib.hid (fun (o:Obj)=>And.intro (K2.out.grown M (grown1 W2 o)) (C2.out.trans (Chg.of_grown (grown1 W2 o) (fun b e=>by cases e))))
   have FN:=Lib.hid (fun (o:Obj)=>VOut.at (Fine:=Fine) (r:=12) (GZ.out o).1 (fun k hk=>.inl hk) (GZ.out o).2 (fun e=>by cases e))
   unfold nodeV
   go_wp2
   go_ret
   rw [HR.out]
   exact FN.out _
  case inl =>
   rw [hnd] at HR
   have NK:=Lib.hid (ndAt_ok hb hnd)
   have SZ2:=Lib.hid (show W1.heap.size≤W2.heap.size from hsz2)
   obtain ⟨qn,cn,rfl⟩:=own_slice ho
   have NV:=Lib.hid (fun g (e:(Value.slice qn nd.kids.length cn).ownBlock=some g)=>(ho.lt g e))
   have HC:=Lib.hid (HR.out)
   simp only [] at HC
   clear HR hnd
   have g3:=grown1 W2 (.cells #[.bool nd.ex.isSome,.string (nmOf SN nd.ex),.int .i64 (exOf nd.ex).kind,.bool (exOf nd.ex).weak,.int .u64 (exOf nd.ex).value,.int .u64 (exOf nd.ex).resolver,.int .u64 (exOf nd.ex).ordinal,.string (strOfNums (exOf nd.ex).other),.slice qn nd.kids.length cn] 87)
   have N3:=Lib.hid (show NodeAt (W2.alloc (.cells #[.bool nd.ex.isSome,.string (nmOf SN nd.ex),.int .i64 (exOf nd.ex).kind,.bool (exOf nd.ex).weak,.int .u64 (exOf nd.ex).value,.int .u64 (exOf nd.ex).resolver,.int .u64 (exOf nd.ex).ordinal,.string (strOfNums (exOf nd.ex).other),.slice qn nd.kids.length cn] 87)) W2.heap.size nd.ex.isSome (nmOf SN nd.ex) (exOf nd.ex) (.slice qn nd.kids.length cn) from heap_alloc_new W2 _)
   have K3:=Lib.hid (K2.out.grown M g3)
   have C3:=Lib.hid (C2.out.trans (Chg.of_grown g3 (fun b e=>by cases e)))
   have O3:=Lib.hid (own_grown ho g3)
   unfold nodeV
   obtain ⟨nb,hnb⟩:∃ x,x=nd.ex.isSome:=⟨_,rfl⟩
   obtain ⟨nn,hnn⟩:∃ x,x=nmOf SN nd.ex:=⟨_,rfl⟩
   obtain ⟨nx,hnx⟩:∃ x,x=exOf nd.ex:=⟨_,rfl⟩
   obtain ⟨kl,hkl⟩:∃ x,x=nd.kids.length:=⟨_,rfl⟩
   rw [← hnb,← hnn,← hnx,← hkl] at N3 K3 C3 O3
   rw [← hkl] at NV
   rw [← hnb,← hnn,← hnx,← hkl]
   have EQ:=Lib.hid (And.intro hnb (And.intro hnn (And.intro hnx hkl)))
   clear hnb hnn hnx hkl g3 ho K2 C2
   obtain ⟨W3,hW3⟩:∃ W3,W2.alloc (.cells #[.bool nb,.string nn,.int .i64 nx.kind,.bool nx.weak,.int .u64 nx.value,.int .u64 nx.resolver,.int .u64 nx.ordinal,.string (strOfNums nx.other),.slice qn kl cn] 87)=W3:=⟨_,rfl⟩
   obtain ⟨gn,hgn⟩:∃ gn,W2.heap.size=gn:=⟨_,rfl⟩
   rw [hW3] at N3 K3 C3 O3
   rw [hgn] at N3
   have HW3:=Lib.hid hW3
   have HGN:=Lib.hid hgn
   have HGN2:=Lib.hid hgn
   clear hW3 hgn
   go_upto_region 9 with fail
   rw [HW3.out,HGN.out]
   clear HW3 HGN
   obtain ⟨G,b1,b2,b3,b4,b5⟩:=K3.out.inv
   have hGF:∀ k,G k→k < W1.heap.size:=fun k hk=>(FB1.out k (b1 k hk)).2
   have MC:=M.call W3 G s name nd (.slice qn nd.kids.length cn) _ b2 FI.out PRE.out (by rw [← HNL.out];exact hnl) NK.out (by rw [← EQ.out.2.2.2];exact O3.out) (fun g e hg=>by
    have h1:=(NV.out g (by rw [EQ.out.2.2.2];exact e)).1
    have h2:=hGF g hg
    omega) (fun k hk=>(K3.out.fb k (b1 k hk)).2)
   rw [← HSN.out,← EQ.out.1,← EQ.out.2.1,← EQ.out.2.2.1,← EQ.out.2.2.2] at MC
   unfold nodeV at MC
   have SUB:=Lib.hid (M.sub s name nd)
   have PRK:=Lib.hid (M.pre s name nd PRE.out)
   have NXT:=Lib.hid (M.next s name nd FI.out)
   have STO:=Lib.hid (M.stop s name nd)
   have TL:=Lib.hid (fun V G' s' (hi:Inv V G' s') hG (hg:Chg G W3 V)=>And.intro (K3.out.told b1 b3 b4 b5 hi hG hg) (C3.out.trans (hg.mono b1)))
   have MCH:=Lib.hid MC
   have m0:=K3.out.me.c
   have EN:=Lib.hid M.enters
   have N3l:=N3.out.lt
   obtain ⟨d0,d1,d2,d3,d4,d5,d6,d7,d8⟩:=N3.out.c
   have SZ3:=Lib.hid C3.out.size
   have SZ23:=Lib.hid (show gn < W3.heap.size from N3.out.lt)
   clear MC b1 b2 b3 b4 b5 hGF O3
   have en:=fun args V=>M.enters args V
   go_wp2_with fail
   refine MCH.out.mono ?_
   rintro e W4 ⟨⟨q,c,G',rfl,i4,hG4,kd4,hq4,hlc,hcc⟩,hch⟩
   have K4C4:=TL.out _ _ _ i4 hG4 hch
   have hF4:∀ k,Foot F W3 W4 k→F k∨W.heap.size≤k:=fun k hk=>hk.elim .inl (fun hk=>.inr (by have:=SZ3.out;omega))
   have QB4:∀ g o,q=some ⟨g,o,none⟩→¬ Foot F W3 W4 g∧g < W4.heap.size:=fun g o e=>by
    have h1:=NV.out g (hq4 g o e)
    have h2:=K4C4.1.base
    refine ⟨fun e=>e.elim (fun e=>by have:=(FB1.out g e).2;omega) (fun e=>by have:=SZ23.out;have:=HGN2.out;omega),?_⟩
    have:=hch.size;have:=SZ23.out;have:=HGN2.out;omega
   have K4:=Lib.hid K4C4.1
   have C4:=Lib.hid K4C4.2
   have HF4:=Lib.hid hF4
   have QB:=Lib.hid QB4
   have KD4:=Lib.hid kd4
   obtain ⟨⟨s4,L,e0⟩,hmt⟩:∃ x,x=mt s name nd:=⟨_,rfl⟩
   rw [← hmt] at K4 KD4 SUB PRK HC NXT STO hlc
   have FS:=Lib.hid (show ∀ j,(j < L.length∨e0=0)→Fine s4 from fun j hj=>NXT.out (hj.elim (fun hj=>Classical.byContradiction fun h0=>by have h1:L=[]:=STO.out h0;rw [h1] at hj;simp at hj) id))
   simp only [← hmt] at hlc ⊢
   have HL:=Lib.hid (And.intro hlc hcc)
   clear hmt i4 hG4 kd4 hq4 hch K4C4 hF4 QB4 hlc hcc TL MCH m0 d0 d1 d2 d3 d4 d5 d6 d7 d8 N3l SZ3 SZ23 K3 C3 N3 NV EQ EN en
   have hLc:L.length≤c:=HL.out.1
   have hc63:c≤9223372036854775807:=HL.out.2
   obtain ⟨qy,cy,a1,a2,a3⟩:=K4.out.way
   have w4:=a1.c
   have f4:=a1.f
   have l4:=a1.lt
   have g5:=grown1 W4 (.cells #[.int .u64 pl] 26)
   have O5:=Lib.hid (own_grown a2 g5)
   have N5:=Lib.hid (heap_alloc_new W4 (.cells #[.int .u64 pl] 26))
   have A5:=Lib.hid (a1.grown g5)
   have SZ4:=Lib.hid (show z.B≤W4.heap.size from K4.out.base)
   have PU:=Lib.hid (fun (V:Value) (W2:World) h1 h2 h3=>K4.out.push M pl w4 g5 (v':=V) (W2:=W2) h1 h2 h3)
   clear a1 a2 a3 g5
   go_upto_region 12 with fail
   go_wp2_with (at_builtin;refine wp_append_sta u64Type rfl _ _ rfl _ way.length _ rfl O5.out [.int .u64 pl] rfl W4.heap.size rfl N5.out (fun u hu=>by simp at hu;subst hu;rfl) (by omega) (by decide) ?_ ?_)
   ·have:=SZ4.out;(try rw [World.size_alloc]);omega
   intro v' W5 ho5 hg5 hv5
   obtain ⟨q5,c5,rfl⟩:=own_slice ho5
   have a6:=A5.out.kept hg5 (own_ne O5.out A5.out (by decide))
   have c6:=a6.c
   have f6:=a6.f
   have l6:=a6.lt
   have K6C6:=PU.out _ _ ho5 hg5 (by rw [World.size_alloc];exact hv5)
   obtain ⟨W6,hW6⟩:∃ W6,W5.setCell ⟨z.cway,0,none⟩ (.slice q5 (way.length + 1) c5)=W6:=⟨_,rfl⟩
   rw [hW6] at K6C6
   have hF6:∀ k,Foot (Foot F W3 W4) W4 W6 k→F k∨W.heap.size≤k:=fun k hk=>hk.elim (HF4.out k) (fun hk=>.inr (by have:=C4.out.size;omega))
   have K6:=Lib.hid K6C6.1
   have C6:=Lib.hid (show Chg F W W6 from ⟨K6C6.2.os.trans C4.out.os,K6C6.2.tape.trans C4.out.tape,K6C6.2.output.trans C4.out.output,Nat.le_trans C4.out.size K6C6.2.size,fun i hi hf=>(K6C6.2.block i (Nat.lt_of_lt_of_le hi C4.out.size) (fun e=>(HF4.out i e).elim hf (fun e=>by omega))).trans (C4.out.block i hi hf)⟩)
   have KD6:=Lib.hid (KD4.out.chg K6C6.2 (fun g o e=>(QB.out g o e).1))
   have QB6:=Lib.hid (show ∀ g o,q=some ⟨g,o,none⟩→¬ Foot (Foot F W3 W4) W4 W6 g from fun g o e hk=>hk.elim (QB.out g o e).1 (fun hk=>by have:=(QB.out g o e).2;omega))
   have HF6:=Lib.hid hF6
   have HW6:=Lib.hid hW6
   clear ho5 hg5 hv5 a6 K6C6 hF6 hW6 PU O5 N5 A5 K4 C4 HF4 QB KD4 w4 f4 l4
   go_upto_region 13 with fail
   rw [HW6.out]
   clear HW6 c6 f6 l6
   go_wp2_with fail
   go_loopw [13,51] (fun er i wr=>∃ (j:Nat) (ej:Int) (F':Nat→Prop) (m':Nat) (s':S),j≤L.length∧i=.int .i64 j∧er=.int .i64 ej∧Wk S z xs Inv wr F' m' (way ++ [pl]) s'∧(∀ k,F' k→F k∨W.heap.size≤k)∧Chg F W wr∧KidsAt wr q L∧(∀ g o,q=some ⟨g,o,none⟩→¬ F' g)∧Hid (r=visK (vis xs mt k (way ++ [pl])) name (L.drop j) ej (m',s'))∧m'≤8192∧Hid ((j < L.length∨ej=0)→Fine s')) (fun _ i _=>L.length - (intOf i).toNat)
   case atStart=>exact ⟨0,e0,_,m + 1,s4,Nat.zero_le _,rfl,rfl,K6.out,HF6.out,C6.out,KD6.out,QB6.out,Lib.hid HC.out,by omega,Lib.hid (FS.out 0)⟩
   case round =>
    obtain ⟨j,ej,F',m',s',hj,rfl,rfl,hK,hF',hC,hKd,hQ,CO,hm',FJ⟩:=hrel
    have K7:=Lib.hid hK
    have F7:=Lib.hid hF'
    have C7:=Lib.hid hC
    have Q7:=Lib.hid hQ
    have KD7:=Lib.hid hKd
    clear hK hF' hC hQ hKd
    by_cases hlt:j < L.length
    ·obtain ⟨x,hx⟩:∃ x,L[j]?=some x:=⟨_,List.getElem?_eq_getElem hlt⟩
     have hxm:=List.mem_of_getElem? hx
     have KO:=Lib.hid (NK.out.kids.each x (SUB.out x hxm))
     have PX:=Lib.hid (PRK.out x hxm)
     have CO2:=Lib.hid (show r=if (vis xs mt k (way ++ [pl]) (name ++ x.1) x.2 (m',s')).1≠0 then vis xs mt k (way ++ [pl]) (name ++ x.1) x.2 (m',s') else visK (vis xs mt k (way ++ [pl])) name (L.drop (j + 1)) 0 (vis xs mt k (way ++ [pl]) (name ++ x.1) x.2 (m',s')).2 by
      obtain ⟨hjj,he⟩:=List.getElem?_eq_some_iff.1 hx
      have h:=CO.out
      rw [List.drop_eq_getElem_cons hjj,he] at h
      exact h)
     obtain ⟨gq,oq,rfl,c0,c1⟩:=KD7.out j x hx
     obtain ⟨xe,xp⟩:=x
     have hcat:SN ++ strOfNums xe=strOfNums (name ++ xe):=by rw [HSN.out,strOfNums_app]
     simp only [] at c0 c1 KO PX CO2
     have g8:=grown1 wr (.cells #[.string (strOfNums xe),.int .u64 xp] 145)
     have X8:=Lib.hid (show KidIn (wr.alloc (.cells #[.string (strOfNums xe),.int .u64 xp] 145)) wr.heap.size (xe,xp) from heap_alloc_new wr _)
     have K8:=Lib.hid (K7.out.grown M g8)
     have C8:=Lib.hid (C7.out.trans (Chg.of_grown g8 (fun b e=>by cases e)))
     have KD8:=Lib.hid (KD7.out.grown g8)
     have QS8:=Lib.hid (show gq < wr.heap.size from by have:=World.block_lt_of_cell? wr _ c0;exact this)
     obtain ⟨w8,hw8⟩:∃ w8,wr.alloc (.cells #[.string (strOfNums xe),.int .u64 xp] 145)=w8:=⟨_,rfl⟩
     obtain ⟨gk,hgk⟩:∃ gk,wr.heap.size=gk:=⟨_,rfl⟩
     rw [hw8] at X8 K8 C8 KD8
     rw [hgk] at X8 QS8
     have HW8:=Lib.hid hw8
     have HGK:=Lib.hid hgk
     have S8:=Lib.hid (show gk < w8.heap.size from X8.out.lt)
     have X1:=Lib.hid (show 1≤xe.length by
      have h:=KO.out.ne
      cases xe with
      | nil=>exact absurd rfl h
      | cons=>simp)
     have hsx:(strOfNums xe).size=xe.length:=strOfNums_size _
     have hxl:xe.length≤255:=KO.out.len
     have dl:decide ((j:Int) < (L.length:Int))=true:=by simp;omega
     have hjl:(j:Int) < (L.length:Int):=by omega
     clear g8 hw8 hgk hx hxm K7 C7 KD7 CO
     go_upto_region 16 with fail
     rw [HW8.out,HGK.out]
     clear HW8 HGK c0 c1
     have x0:=X8.out.c0
     have x1:=X8.out.c1
     have xl:=X8.out.lt
     have v0:=K8.out.vi.c
     unfold Wfx.caps at v0
     have CALL:=Lib.hid (IH.out w8 F' m' (way ++ [pl]) s' (name ++ xe) xp (by rw [List.length_append,← HNL.out];have:=X1.out;omega) (by rw [List.length_append,← HNL.out];have:=KO.out.len;simp only [] at this;omega) PX.out KO.out.lo KO.out.hi hm'
      (by rw [List.length_append,List.length_append,List.length_singleton,← HNL.out];have:=X1.out;omega) (FJ.out (.inl hlt)) K8.out)
     obtain ⟨⟨R,m9,s9⟩,hR⟩:∃ x,x=vis xs mt k (way ++ [pl]) (name ++ xe) xp (m',s'):=⟨_,rfl⟩
     rw [← hR] at CALL CO2
     clear hR
     go_wp2_with fail
     refine CALL.out.mono ?_
     rintro e w9 ⟨rfl,⟨F9,k9,f9⟩,c9,few9⟩
     have K9:=Lib.hid k9
     have F9H:=Lib.hid (show ∀ k,F9 k→F k∨W.heap.size≤k from fun k hk=>(f9 k hk).elim (F7.out k) (fun e=>.inr (by have:=C8.out.size;omega)))
     have C9:=Lib.hid (show Chg F W w9 from ⟨c9.os.trans C8.out.os,c9.tape.trans C8.out.tape,c9.output.trans C8.out.output,Nat.le_trans C8.out.size c9.size,fun i hi hn=>(c9.block i (Nat.lt_of_lt_of_le hi C8.out.size) (fun e=>(F7.out i e).elim hn (fun e=>by omega))).trans (C8.out.block i hi hn)⟩)
     have KD9:=Lib.hid (KD8.out.chg c9 Q7.out)
     have Q9:=Lib.hid (show ∀ g o,(some ⟨gq,oq,none⟩:Option Addr)=some ⟨g,o,none⟩→¬ F9 g from fun g o e hk=>(f9 g hk).elim (Q7.out g o e) (fun h=>by
      injection e with e;injection e with e _ _;subst e
      have:=QS8.out;have:=S8.out;omega))
     have FEW9:=Lib.hid few9
     simp only [] at K9 FEW9 CO2
     clear k9 f9 c9 few9 CALL K8 C8 KD8 QS8 S8 X8 x0 x1 xl v0 hcat
     by_cases hR0:R=0
     ·have dr:(R != 0)=false:=by rw [hR0];rfl
      have CO3:=Lib.hid (show r=visK (vis xs mt k (way ++ [pl])) name (L.drop (j + 1)) 0 (m9,s9) by
        have h:=CO2.out
        rw [if_neg (fun h=>h hR0)] at h
        exact h)
      have M9:=Lib.hid (FEW9.out hR0)
      clear CO2 FEW9
      subst hR0
      go_wp2
      go_roundw
      case rel=>exact ⟨j + 1,0,F9,m9,s9,hlt,by go_num,rfl,K9.out,F9H.out,C9.out,KD9.out,Q9.out,Lib.hid CO3.out,M9.out.1,Lib.hid (fun _=>M9.out.2)⟩
      case measure=>simp [intOf];omega
     ·have dr:(R != 0)=true:=by simpa using hR0
      have RQ:=Lib.hid (show r=(R,(m9,s9)) by
        have h:=CO2.out
        rw [if_pos hR0] at h
        exact h)
      have HR0:=Lib.hid hR0
      clear CO2 hR0
      have FWX:=Lib.hid (And.intro (F9H.out) (C9.out))
      obtain ⟨q8,c8,a1,a2,a3⟩:=(K9.out).way
      have PP:=Lib.hid (fun hc=>Wk.pop M (K9.out) (q:=q8) (cap:=c8) hc)
      obtain ⟨b8,o8,hq8⟩:∃ b o,q8=some ⟨b,o,none⟩:=by
        rcases a2.2 with ⟨_,hn⟩ | ⟨g,cp,cur,hv,_⟩
        ·rw [List.length_append,List.length_singleton] at hn;omega
        ·injection hv with hv _ _;exact ⟨g,0,hv⟩
      subst hq8
      have hN8:(way ++ [pl]).length=way.length + 1:=by rw [List.length_append,List.length_singleton]
      have hr8:(way ++ [pl]).length≤c8:=own_room8 a2
      obtain ⟨N8,hNN⟩:∃ n,n=(way ++ [pl]).length:=⟨_,rfl⟩
      rw [← hNN] at a1 PP hN8 hr8
      have hsub8:(N8:Int) - 1=(way.length:Int):=by omega
      have CH:=cut_hi (T:=129) (k:=1) (by kernel_rfl) (fun W=>by kernel_rfl) b8 o8 N8 c8 way.length .i64 (by omega)
      have w8:=a1.c
      have f8:=a1.f
      have l8:=a1.lt
      have FN:=Lib.hid (show VOut S Fine z xs Inv F W _ way r (.returned (.int .i64 R)) by
        have h:=PP.out w8
        have hf:=FWX.out
        rw [RQ.out]
        exact VOut.at h.1 hf.1 (⟨h.2.os.trans hf.2.os,h.2.tape.trans hf.2.tape,h.2.output.trans hf.2.output,Nat.le_trans hf.2.size h.2.size,fun i hi hn=>(h.2.block i (Nat.lt_of_lt_of_le hi hf.2.size) (fun e=>(hf.1 i e).elim hn (fun e=>by omega))).trans (hf.2.block i hi hn)⟩) (fun e=>absurd e HR0.out))
      have hN863:way.length≤9223372036854775807:=by omega
      clear a1 a2 a3 hNN
      go_wp2
      go_ret
      exact FN.out
    ·have hjL:j=L.length:=by omega
     have RQ:=Lib.hid (show r=(ej,(m',s')) by
      have h:=CO.out
      rw [hjL,List.drop_length] at h
      exact h)
     have dl:decide ((j:Int) < (L.length:Int))=false:=by simp;omega
     have dl2:decide (j < L.length)=false:=by simp;omega
     clear CO hjL hlt
     have FWX:=Lib.hid (And.intro (F7.out) (C7.out))
     obtain ⟨q8,c8,a1,a2,a3⟩:=(K7.out).way
     have PP:=Lib.hid (fun hc=>Wk.pop M (K7.out) (q:=q8) (cap:=c8) hc)
     obtain ⟨b8,o8,hq8⟩:∃ b o,q8=some ⟨b,o,none⟩:=by
      rcases a2.2 with ⟨_,hn⟩ | ⟨g,cp,cur,hv,_⟩
      · rw [List.length_append,List.length_singleton] at hn;omega
      · injection hv with hv _ _;exact ⟨g,0,hv⟩
     subst hq8
     have hN8:(way ++ [pl]).length=way.length + 1:=by rw [List.length_append,List.length_singleton]
     have hr8:(way ++ [pl]).length≤c8:=own_room8 a2
     obtain ⟨N8,hNN⟩:∃ n,n=(way ++ [pl]).length:=⟨_,rfl⟩
     rw [← hNN] at a1 PP hN8 hr8
     have hsub8:(N8:Int) - 1=(way.length:Int):=by omega
     have CH:=cut_hi (T:=129) (k:=1) (by kernel_rfl) (fun W=>by kernel_rfl) b8 o8 N8 c8 way.length .i64 (by omega)
     have w8:=a1.c
     have f8:=a1.f
     have l8:=a1.lt
     have FN:=Lib.hid (show VOut S Fine z xs Inv F W _ way r (.returned (.int .i64 ej)) by
      have h:=PP.out w8
      have hf:=FWX.out
      rw [RQ.out]
      exact VOut.at h.1 hf.1 (⟨h.2.os.trans hf.2.os,h.2.tape.trans hf.2.tape,h.2.output.trans hf.2.output,Nat.le_trans hf.2.size h.2.size,fun i hi hn=>(h.2.block i (Nat.lt_of_lt_of_le hi hf.2.size) (fun e=>(hf.1 i e).elim hn (fun e=>by omega))).trans (hf.2.block i hi hn)⟩) (fun h=>⟨hm',FJ.out (.inr h)⟩))
     have hN863:way.length≤9223372036854775807:=by omega
     clear a1 a2 a3 hNN
     go_wp2
     go_ret
     exact FN.out
end
end Go.Proofs.YtkmbkpoclhbmgaaGreat
namespace Go.Proofs.YtkmbkpoclhbmgaaGreat
open Go.RowKit
variable {w w' W V:World} {xs:List Int}
def walkN {S:Type} (xs:List Int) (mt:Mt S) (s:S):Int × S:=if xs=[] then (0,s) else ((vis xs mt 257 [] [] 0 (0,s)).1,(vis xs mt 257 [] [] 0 (0,s)).2.2)
structure WOut (S:Type) (Fine:S→Prop) (Inv:World→(Nat→Prop)→S→Prop) (G:Nat→Prop) (W W':World) (r:Int × S) (e:Ending):Prop where
 ret:e=.returned (.int .i64 r.1)
 ex:∃ G',Inv W' G' r.2∧∀ k,G' k→G k∨W.heap.size≤k
 chg:Chg G W W'
 few:r.1=0→Fine r.2
section
variable {S:Type} {mt:Mt S} {Pre:List Int→Prop} {Fine:S→Prop} {Inv:World→(Nat→Prop)→S→Prop} {fm:Nat} {cbs:Array Value}
set_option maxRecDepth 20000 in
set_option maxHeartbeats 1600000 in
theorem walk_any (M:MeetOk S fm cbs mt Pre Fine Inv) (hp:Pre []) {G:Nat→Prop} {s:S} (hfs:Fine s) (hi:Inv W G s) (hG:∀ k,G k→k < W.heap.size) {b o c:Nat} (hx:∀ i,i < xs.length→W.cell? ⟨b,o + i,none⟩=some (.int .u8 (xs.getD i 0))) (hn:xs≠[]) (hgb:¬ G b)
  (hb:Byt xs) (hc:xs.length≤c) (hcm:c≤9223372036854775807) (hbig:xs.length≤140737488355328) :
  Calls Tryz.prog 40 #[.slice (some ⟨b,o,none⟩) xs.length c,.func (.func fm) #[] cbs] W fun e W'=>WOut S Fine Inv G W W' (walkN xs mt s) e:=by
 have hz : 0 < xs.length:=by
  cases xs with
  | nil=>exact absurd rfl hn
  | cons=>simp
 have hbl:=World.block_lt_of_cell? W _ (hx 0 hz)
 simp only at hbl
 have dz:decide ((xs.length:Int)=0)=false:=by simp;omega
 have dz2:((xs.length:Int) == 0)=false:=by rw [beq_eq_false_iff_ne];omega
 obtain ⟨n,hn'⟩:∃ n,n=W.heap.size:=⟨_,rfl⟩
 rw [← hn'] at hbl hG
 have g0:=grown1 W (.cells #[.slice (some ⟨b,o,none⟩) xs.length c] 29)
 have o0:=OneAt.new W (.slice (some ⟨b,o,none⟩) xs.length c) 29
 have z0:(W.alloc (.cells #[.slice (some ⟨b,o,none⟩) xs.length c] 29)).heap.size=n + 1:=by rw [World.size_alloc,hn']
 rw [← hn'] at o0
 obtain ⟨V0,hV0⟩:∃ V0,W.alloc (.cells #[.slice (some ⟨b,o,none⟩) xs.length c] 29)=V0:=⟨_,rfl⟩
 rw [hV0] at g0 o0 z0
 have g1:=grown1 V0 (.cells #[.func (.func fm) #[] cbs] 88)
 have o1:=OneAt.new V0 (.func (.func fm) #[] cbs) 88
 have z1:(V0.alloc (.cells #[.func (.func fm) #[] cbs] 88)).heap.size=n + 1 + 1:=by rw [World.size_alloc,z0]
 rw [z0] at o1
 obtain ⟨V1,hV1⟩:∃ V1,V0.alloc (.cells #[.func (.func fm) #[] cbs] 88)=V1:=⟨_,rfl⟩
 rw [hV1] at g1 o1 z1
 have g2:=grown1 V1 (.cells #[.int .i64 0] 3)
 have o2:=OneAt.new V1 (.int .i64 0) 3
 have z2:(V1.alloc (.cells #[.int .i64 0] 3)).heap.size=n + 1 + 1 + 1:=by rw [World.size_alloc,z1]
 rw [z1] at o2
 obtain ⟨V2,hV2⟩:∃ V2,V1.alloc (.cells #[.int .i64 0] 3)=V2:=⟨_,rfl⟩
 rw [hV2] at g2 o2 z2
 have g3:=grown1 V2 (.cells #[.slice none 0 0] 129)
 have o3:=OneAt.new V2 (.slice none 0 0) 129
 have z3:(V2.alloc (.cells #[.slice none 0 0] 129)).heap.size=n + 1 + 1 + 1 + 1:=by rw [World.size_alloc,z2]
 rw [z2] at o3
 obtain ⟨V3,hV3⟩:∃ V3,V2.alloc (.cells #[.slice none 0 0] 129)=V3:=⟨_,rfl⟩
 rw [hV3] at g3 o3 z3
 have g4:=grown1 V3 (.cells #[.nilFunc] 139)
 have o4:=OneAt.new V3 .nilFunc 139
 have z4:(V3.alloc (.cells #[.nilFunc] 139)).heap.size=n + 1 + 1 + 1 + 1 + 1:=by rw [World.size_alloc,z3]
 rw [z3] at o4
 obtain ⟨V4,hV4⟩:∃ V4,V3.alloc (.cells #[.nilFunc] 139)=V4:=⟨_,rfl⟩
 rw [hV4] at g4 o4 z4
 have g5:=grown_setCell (i:=0) (grown_refl V4 (some (n + 1 + 1 + 1 + 1))) (.func (.func 70) #[] #[.pointer (some ⟨n + 1 + 1,0,none⟩),.pointer (some ⟨n + 1 + 1 + 1,0,none⟩),.pointer (some ⟨n,0,none⟩),.pointer (some ⟨n + 1,0,none⟩),.pointer (some ⟨n + 1 + 1 + 1 + 1,0,none⟩)])
 have o5:=o4.set (.func (.func 70) #[] #[.pointer (some ⟨n + 1 + 1,0,none⟩),.pointer (some ⟨n + 1 + 1 + 1,0,none⟩),.pointer (some ⟨n,0,none⟩),.pointer (some ⟨n + 1,0,none⟩),.pointer (some ⟨n + 1 + 1 + 1 + 1,0,none⟩)])
 have c4:=o4.c
 have f4:=o4.f
 have l4:=o4.lt
 obtain ⟨V5,hV5⟩:∃ V5,V4.setCell ⟨n + 1 + 1 + 1 + 1,0,none⟩ (.func (.func 70) #[] #[.pointer (some ⟨n + 1 + 1,0,none⟩),.pointer (some ⟨n + 1 + 1 + 1,0,none⟩),.pointer (some ⟨n,0,none⟩),.pointer (some ⟨n + 1,0,none⟩),.pointer (some ⟨n + 1 + 1 + 1 + 1,0,none⟩)])=V5:=⟨_,rfl⟩
 rw [hV5] at g5 o5
 have g04:=grown_trans (grown_trans (grown_trans (grown_trans g0 g1) g2) g3) g4
 have g14:=grown_trans (grown_trans (grown_trans g1 g2) g3) g4
 have ch5:Chg (fun k=>n < k) W V5:=(Chg.of_grown g04 (fun b e=>by cases e)).trans (Chg.of_grown g5 (fun b e=>by injection e with e;exact .inl (by omega)))
 have s5:V5.heap.size=n + 1 + 1 + 1 + 1 + 1:=by rw [← hV5,← z4];simp
 have ne4:∀ k,k≠n + 1 + 1 + 1 + 1→(some (n + 1 + 1 + 1 + 1):Option Nat)≠some k:=fun k hk e=>by injection e with e;omega
 have K5:=Lib.hid (show Wk S ⟨0,n + 1 + 1,n + 1 + 1 + 1,n,n + 1,n + 1 + 1 + 1 + 1,b,o,c,fm,cbs⟩ xs Inv V5 (fun k=>G k∨k=n + 1 + 1∨k=n + 1 + 1 + 1) 0 [] s from
  { met:=((o2.grown g3).grown g4).kept g5 (ne4 _ (by omega))
    way:=⟨none,0,(o3.grown g4).kept g5 (ne4 _ (by omega)),World.ownsRow_nil _ _ _ _,fun g e=>by cases e⟩
    inv:=⟨G,fun k hk=>.inl hk,M.kept _ _ _ _ _ hi ch5 (fun k hk e=>by have:=hG k hk;omega),fun hk=>by have:=hG _ hk;simp only at this;omega,fun hk=>by have:=hG _ hk;simp only at this;omega,fun q n' cap e g eg hk=>by
     rw [((o3.grown g4).kept g5 (ne4 _ (by omega))).c] at e
     injection e with e;injection e with e1 e2 e3;subst e1;cases eg⟩
    fmet:=.inr (.inl rfl)
    fway:=.inr (.inr rfl)
    fb:=fun k hk=>⟨Nat.zero_le _,by rw [s5];rcases hk with hk | hk | hk;have:=hG k hk;omega;omega;omega⟩
    bb:=(o0.grown g14).kept g5 (ne4 _ (by omega))
    me:=(((o1.grown g2).grown g3).grown g4).kept g5 (ne4 _ (by omega))
    vi:=o5
    nb:=fun hk=>hk.elim (fun hk=>by have:=hG _ hk;simp only at this;omega) (fun hk=>by simp only at hk;omega)
    nm:=fun hk=>hk.elim (fun hk=>by have:=hG _ hk;simp only at this;omega) (fun hk=>by simp only at hk;omega)
    nv:=fun hk=>hk.elim (fun hk=>by have:=hG _ hk;simp only at this;omega) (fun hk=>by simp only at hk;omega)
    cell:=fun i hi=>cell_chg (hx i hi) ch5 (by simp only;omega)
    nx:=fun hk=>hk.elim hgb (fun hk=>by simp only at hk;omega)
    ne:=by simp only;omega
    nz:=hz })
 have CALL:=Lib.hid (visit_any (z:=⟨0,n + 1 + 1,n + 1 + 1 + 1,n,n + 1,n + 1 + 1 + 1 + 1,b,o,c,fm,cbs⟩) M hb hc hcm hbig 257 V5 _ 0 [] s [] 0 (by simp) (by simp) hp (Int.le_refl _) (by decide) (by omega) (Nat.le_refl _) hfs K5.out)
 have CE:=Lib.hid ch5
 have v5:=o5.c
 have HW:=Lib.hid (And.intro hV0 (And.intro hV1 (And.intro hV2 (And.intro hV3 (And.intro hV4 hV5)))))
 have HN:=Lib.hid hn'
 have hwn:walkN xs mt s=((vis xs mt 257 [] [] 0 (0,s)).1,(vis xs mt 257 [] [] 0 (0,s)).2.2):=if_neg hn
 have WN:=Lib.hid hwn
 clear g0 g1 g2 g3 g4 g5 o0 o1 o2 o3 o4 o5 z0 z1 z2 z3 z4 hV0 hV1 hV2 hV3 hV4 hV5 g04 g14 ch5 s5 ne4 K5 hi hG hx hgb hn' hwn hn
 simp only [] at CALL
 rw [show strOfNums []=(⟨#[]⟩:ByteArray) from rfl] at CALL
 go_enter Tryz.func40,Tryz.ntmps40
 go_upto_region 6 with fail
 rw [← HN.out,HW.out.1,HW.out.2.1,HW.out.2.2.1,HW.out.2.2.2.1,HW.out.2.2.2.2.1]
 go_upto_region 7 with fail
 rw [HW.out.2.2.2.2.2]
 go_wp2_with fail
 refine CALL.out.mono ?_
 rintro e w' ⟨rfl,⟨F',k',f'⟩,c',few⟩
 obtain ⟨G',b1,b2,_,_,_⟩:=k'.inv
 have FN:=Lib.hid (show WOut S Fine Inv G W w' (walkN xs mt s) (.returned (.int .i64 (vis xs mt 257 [] [] 0 (0,s)).1)) by
  rw [WN.out]
  refine ⟨rfl,⟨G',b2,fun k hk=>?_⟩,?_,fun h=>(few h).2⟩
  · have hs:=CE.out.size
    have hnn:=HN.out
    rcases f' k (b1 k hk) with h | h
    ·rcases h with h | h
     ·exact .inl h
     ·exact .inr (by omega)
    ·exact .inr (by omega)
  · have ce:=CE.out
    have hnn:=HN.out
    exact ⟨c'.os.trans ce.os,c'.tape.trans ce.tape,c'.output.trans ce.output,Nat.le_trans ce.size c'.size,fun i hi hf=>(c'.block i (Nat.lt_of_lt_of_le hi ce.size) (fun e=>e.elim hf (fun e=>by omega))).trans (ce.block i hi (by omega))⟩)
 generalize (vis xs mt 257 [] [] 0 (0,s)).1=r at *
 clear k' f' c' few b1 b2
 go_wp2
 go_ret
 exact FN.out
theorem walk_no (q:Option Addr) (c fm:Nat) (cbs:Array Value) :
  Calls Tryz.prog 40 #[.slice q 0 c,.func (.func fm) #[] cbs] W fun e W'=>e=.returned (.int .i64 0)∧W.grownBy W' none:=by
 go_enter Tryz.func40,Tryz.ntmps40
 go_wp2
 go_ret
 exact ⟨rfl,grown_trans (grown1 W _) (grown1 _ _)⟩
end
end Go.Proofs.YtkmbkpoclhbmgaaGreat
namespace Go.Proofs.YtkmbkpoclhbmgaaGreat
open Go.RowKit
variable {w w' W V:World} {xs:List Int}
def outCs (y:List Int × Ex):List Value:=exCs (strOfNums y.1) y.2
theorem outCs_len (y:List Int × Ex):(outCs y).length=7:=rfl
theorem exType:StType Tryz.prog 28 23 7 72:=.mk' Tryz.underlying23 (z:=.agg #[.string ⟨#[]⟩,.int .i64 0,.bool false,.int .u64 0,.int .u64 0,.int .u64 0,.string ⟨#[]⟩]) (by kernel_rfl) rfl (by decide)
def InvAll (cl:Nat) (W:World) (G:Nat→Prop) (out:Out):Prop :=
 ∃ q c,OneAt W cl (.slice q out.length c) 23∧W.ownsRow 0 28 7 (.slice q out.length c) out.length (out.flatMap outCs)∧G cl∧∀ g,(Value.slice q out.length c).ownBlock=some g→G g
theorem invAll_kept {cl:Nat} {G H:Nat→Prop} {out:Out} (h:InvAll cl W G out) (hg:Chg H W V) (hd:∀ k,G k→¬ H k):InvAll cl V G out:=by
 obtain ⟨q,c,h1,h2,h3,h4⟩:=h
 exact ⟨q,c,h1.chg hg (hd _ h3),ownsRow_chg h2 hg (fun g e=>hd g (h4 g e)),h3,h4⟩
set_option maxRecDepth 20000 in
set_option maxHeartbeats 3200000 in
theorem all1_any {cl:Nat} {G:Nat→Prop} {out:Out} {name:List Int} {nd:Nd} {v:Value} {base:Nat} (h:InvAll cl W G out) (hf:out.length≤4096) (hk:NdOk nd) (ho:W.ownsRow base 145 2 v nd.kids.length (nd.kids.flatMap kidCs)) (hv:∀ g,v.ownBlock=some g→¬ G g) (hG:∀ k,G k→k < W.heap.size) :
  Calls Tryz.prog 41 #[.string (strOfNums name),nodeV nd.ex.isSome (nmOf (strOfNums name) nd.ex) (exOf nd.ex) v,.pointer (some ⟨cl,0,none⟩)] W fun e W'=>MOut Out mtAll (InvAll cl) out name nd v G W W' e:=by
 obtain ⟨q,c,rfl⟩:=own_slice ho
 obtain ⟨ql,cl',a1,a2,a3,a4⟩:=h
 obtain ⟨ex,kids⟩:=nd
 simp only [] at ho hv hk ⊢
 have hkl:kids.length≤255:=hk.few
 have hrm:=own_room8 ho
 have hc63:c≤9223372036854775807:=by
  rcases ho.2 with ⟨hn,_⟩ | ⟨g,cp,cur,hn,_,_,_,hm,_⟩
  ·injection hn with _ _ e;omega
  ·injection hn with _ _ e;unfold maxLen at hm;omega
 have KS:=Lib.hid (fun (V:World) (hg:Chg G W V)=>(KidsAt.of ho).chg hg (fun g o e=>hv g (by rw [e];rfl)))
 have QV:=Lib.hid (fun g o (e:q=some ⟨g,o,none⟩)=>(show (Value.slice q kids.length c).ownBlock=some g by rw [e];rfl))
 have HK:=Lib.hid (And.intro hrm hc63)
 cases ex with
 | none =>
  have eN:mtAll out name ⟨none,kids⟩=(out,kids,0):=if_neg (by show ¬ 4096 < out.length;omega)
  simp only [Option.isSome,nmOf,exOf,nodeV]
  have g1:=grown1 W (.cells #[.bool false,.string ⟨#[]⟩,.int .i64 Ex.zero.kind,.bool Ex.zero.weak,.int .u64 Ex.zero.value,.int .u64 Ex.zero.resolver,.int .u64 Ex.zero.ordinal,.string (strOfNums Ex.zero.other),.slice q kids.length c] 87)
  have n1:=a1.grown g1
  have l1:=n1.c
  have ch:Chg G W _:=Chg.of_grown g1 (fun b e=>by cases e)
  have FN:=Lib.hid (show MOut Out mtAll (InvAll cl) out name ⟨none,kids⟩ (.slice q kids.length c) G W _ (.returned (.tuple #[.slice q kids.length c,.int .i64 0])) from
   ⟨⟨q,c,G,by rw [eN],by rw [eN];exact ⟨ql,cl',n1,own_grown a2 g1,a3,a4⟩,fun k hk=>.inl hk,by rw [eN];exact KS.out _ ch,QV.out,by rw [eN];exact hrm,hc63⟩,ch⟩)
  have dl:decide ((4096:Int) < (out.length:Int))=false:=by simp;omega
  clear a1 a2 a3 a4 g1 n1 ch ho hv hk hG eN
  go_enter Tryz.func41,Tryz.ntmps41
  go_wp2
  go_ret2
  exact FN.out
 | some x =>
  have eN:mtAll out name ⟨some x,kids⟩=if 4096 < out.length + 1 then (out ++ [(name,x)],[],11) else (out ++ [(name,x)],kids,0):=by
   unfold mtAll
   rw [show outN out name ⟨some x,kids⟩=out ++ [(name,x)] from rfl,List.length_append,List.length_singleton]
  simp only [Option.isSome,nmOf,exOf,nodeV]
  have SE:=Lib.hid (show exCs (strOfNums name) x=[.string (strOfNums name),.int .i64 x.kind,.bool x.weak,.int .u64 x.value,.int .u64 x.resolver,.int .u64 x.ordinal,.string (strOfNums x.other)] from rfl)
  have OC:=Lib.hid (show (out ++ [(name,x)]).flatMap outCs=out.flatMap outCs ++ exCs (strOfNums name) x by rw [List.flatMap_append,List.flatMap_singleton];rfl)
  have ON:=Lib.hid (exCs_one (strOfNums name) x)
  obtain ⟨SN,hSN⟩:∃ z,z=strOfNums name:=⟨_,rfl⟩
  rw [← hSN] at SE OC ON ⊢
  clear hSN
  have g1:=grown1 W (.cells #[.bool true,.string SN,.int .i64 x.kind,.bool x.weak,.int .u64 x.value,.int .u64 x.resolver,.int .u64 x.ordinal,.string (strOfNums x.other),.slice q kids.length c] 87)
  have N1:=Lib.hid (show NodeAt (W.alloc (.cells #[.bool true,.string SN,.int .i64 x.kind,.bool x.weak,.int .u64 x.value,.int .u64 x.resolver,.int .u64 x.ordinal,.string (strOfNums x.other),.slice q kids.length c] 87)) W.heap.size true SN x (.slice q kids.length c) from heap_alloc_new W _)
  obtain ⟨W1,hW1⟩:∃ W1,W.alloc (.cells #[.bool true,.string SN,.int .i64 x.kind,.bool x.weak,.int .u64 x.value,.int .u64 x.resolver,.int .u64 x.ordinal,.string (strOfNums x.other),.slice q kids.length c] 87)=W1:=⟨_,rfl⟩
  obtain ⟨gn,hgn⟩:∃ gn,W.heap.size=gn:=⟨_,rfl⟩
  rw [hW1] at g1 N1
  rw [hgn] at N1
  have g2:=grown1 W1 (.cells #[.string SN,.int .i64 x.kind,.bool x.weak,.int .u64 x.value,.int .u64 x.resolver,.int .u64 x.ordinal,.string (strOfNums x.other)] 28)
  have A1:=Lib.hid (a1.grown g1)
  have A2:=Lib.hid ((a1.grown g1).grown g2)
  have O2:=Lib.hid (own_grown (own_grown a2 g1) g2)
  have X2:=Lib.hid (heap_alloc_new W1 (.cells #[.string SN,.int .i64 x.kind,.bool x.weak,.int .u64 x.value,.int .u64 x.resolver,.int .u64 x.ordinal,.string (strOfNums x.other)] 28))
  have M2:=Lib.hid (N1.out.kept g2 (by simp))
  have G2:=Lib.hid (grown_trans g1 g2)
  have AG:=Lib.hid (And.intro a3 a4)
  have HG:=Lib.hid hG
  have HV:=Lib.hid hv
  have EN:=Lib.hid eN
  have RL:=Lib.hid (fun g e=>(a2.lt g e).2)
  have HW1:=Lib.hid hW1
  have HGN:=Lib.hid hgn
  have c1:=(a1.grown g1).c
  have cl1:=(a1.grown g1).lt
  clear a1 a2 a3 a4 g1 g2 ho hv hk hG eN hW1 hgn
  go_enter Tryz.func41,Tryz.ntmps41
  go_upto_region 1 with fail
  rw [HW1.out,HGN.out]
  have HGN2:=HGN.out
  clear HW1 HGN
  obtain ⟨d0,d1,d2,d3,d4,d5,d6,d7,d8⟩:=N1.out.c
  have dl:=N1.out.lt
  go_upto_region 2 with fail
  go_wp2_with (at_builtin;refine wp_append_sta exType rfl _ _ rfl _ out.length _ rfl O2.out [.string SN,.int .i64 x.kind,.bool x.weak,.int .u64 x.value,.int .u64 x.resolver,.int .u64 x.ordinal,.string (strOfNums x.other)] rfl W1.heap.size rfl X2.out (by rw [← SE.out];exact ON.out) (by omega) (by decide) (Nat.zero_le _) ?_)
  intro v' W3 ho3 hg3 hv3
  obtain ⟨q3,c3,rfl⟩:=own_slice ho3
  have a3:=A2.out.kept hg3 (own_ne O2.out A2.out (by decide))
  have m3:=M2.out.kept hg3 (own_ne O2.out M2.out (by decide))
  have w3:=a3.c
  have f3:=a3.f
  have l3:=a3.lt
  have g4:=grown_setCell (i:=0) (grown_refl W3 (some cl)) (.slice q3 (out.length + 1) c3)
  have a4:=a3.set (.slice q3 (out.length + 1) c3)
  have hne4:(Value.slice q3 (out.length + 1) c3).ownBlock≠some cl:=own_ne ho3 a3 (by decide)
  have o4:=ho3.kept g4 (.inr hne4)
  have m4:=m3.kept g4 (by intro e;injection e with e;have:=HG.out cl AG.out.1;omega)
  have ch4:Chg G W (W3.setCell ⟨cl,0,none⟩ (.slice q3 (out.length + 1) c3)) :=
   ((Chg.of_grown G2.out (fun b e=>by cases e)).trans (Chg.of_grown hg3 (fun b e=>.inl (AG.out.2 b e)))).trans (Chg.of_grown g4 (fun b e=>by injection e with e;exact .inl (e ▸ AG.out.1)))
  have szz:W.heap.size≤(W1.alloc (.cells #[.string SN,.int .i64 x.kind,.bool x.weak,.int .u64 x.value,.int .u64 x.resolver,.int .u64 x.ordinal,.string (strOfNums x.other)] 28)).heap.size:=G2.out.size
  obtain ⟨W4,hW4⟩:∃ W4,W3.setCell ⟨cl,0,none⟩ (.slice q3 (out.length + 1) c3)=W4:=⟨_,rfl⟩
  rw [hW4] at g4 a4 o4 m4 ch4
  have hv4:∀ g,(Value.slice q3 (out.length + 1) c3).ownBlock=some g→G g∨(W.heap.size≤g∧g < W4.heap.size):=fun g e=>by
   rcases hv3 with h | h
   · rw [h] at e;exact .inl (AG.out.2 g e)
   · have h2:=(o4.lt g e).2
     rw [h] at e
     injection e with e
     exact .inr ⟨by omega,h2⟩
  have FN:=Lib.hid (fun (L:List Kid) (er:Int) (qq:Option Addr) (cc:Nat) (hmt:mtAll out name ⟨some x,kids⟩=(out ++ [(name,x)],L,er)) (hL:KidsAt W4 qq L) (hq:∀ g o,qq=some ⟨g,o,none⟩→(Value.slice q kids.length c).ownBlock=some g) (hcc:L.length≤cc) (hc3:cc≤9223372036854775807) =>
   (show MOut Out mtAll (InvAll cl) out name ⟨some x,kids⟩ (.slice q kids.length c) G W W4 (.returned (.tuple #[.slice qq L.length cc,.int .i64 er])) from
   ⟨⟨qq,cc,fun k=>G k∨(Value.slice q3 (out.length + 1) c3).ownBlock=some k,by rw [hmt],by
     rw [hmt]
     refine ⟨q3,c3,?_,?_,.inl AG.out.1,?_⟩
     ·rw [List.length_append,List.length_singleton];exact a4
     ·rw [List.length_append,List.length_singleton,OC.out,SE.out];exact o4
     ·rw [List.length_append,List.length_singleton];exact fun g e=>.inr e,fun k hk=>hk.elim .inl (hv4 k),by rw [hmt];exact hL,hq,by rw [hmt];exact hcc,hc3⟩,ch4⟩))
  have K4:=Lib.hid (KS.out W4 ch4)
  obtain ⟨e0,e1,e2,e3,e4,e5,e6,e7,e8⟩:=m4.c
  have ml4:=m4.lt
  have cl4:=a4.c
  have HW4:=Lib.hid hW4
  clear ho3 hg3 hv3 a3 m3 g4 a4 hne4 o4 m4 ch4 szz hv4 hW4 d0 d1 d2 d3 d4 d5 d6 d7 d8 dl c1 cl1 HGN2 KS
  by_cases hm : 4096 < out.length + 1
  ·have dm:decide ((4096:Int) < ((out.length + 1:Nat):Int))=true:=by simp;omega
   have dm2:decide ((4096:Int) < (out.length:Int) + 1)=true:=by simp;omega
   have F2:=Lib.hid (FN.out [] 11 none 0 (by rw [EN.out,if_pos hm]) KidsAt.nil (fun g o e=>by cases e) (Nat.le_refl _) (by decide))
   clear hm FN
   go_upto_region 3 with fail
   rw [HW4.out]
   clear HW4 w3 f3 l3
   go_wp2
   go_ret2
   exact F2.out
  ·have dm:decide ((4096:Int) < ((out.length + 1:Nat):Int))=false:=by simp;omega
   have dm2:decide ((4096:Int) < (out.length:Int) + 1)=false:=by simp;omega
   have F2:=Lib.hid (FN.out kids 0 q c (by rw [EN.out,if_neg hm]) K4.out QV.out HK.out.1 HK.out.2)
   clear hm FN
   go_upto_region 3 with fail
   rw [HW4.out]
   clear HW4 w3 f3 l3
   go_wp2
   go_ret2
   exact F2.out
theorem allMeet (cl:Nat):MeetOk Out 41 #[.pointer (some ⟨cl,0,none⟩)] mtAll (fun _=>True) (fun out=>out.length≤4096) (InvAll cl) where
 enters:=enters_of Tryz.func41 (by kernel_rfl) rfl
 kept:=fun W V G s H h hg hd=>invAll_kept h hg hd
 sub:=fun s name nd x hx=>by
  unfold mtAll at hx
  split at hx
  ·cases hx
  ·exact hx
 pre:=fun _ _ _ _ _ _=>trivial
 next:=fun s name nd hs he=>by
  unfold mtAll at he ⊢
  split
  ·rename_i h;rw [if_pos h] at he;cases he
  ·rename_i h;exact Nat.le_of_not_lt h
 stop:=fun s name nd he=>by
  unfold mtAll at he ⊢
  split
  ·rfl
  ·rename_i h;rw [if_neg h] at he;exact absurd rfl he
 call:=fun W G s name nd v base h hf _ _ hk ho hv hG=>all1_any h hf hk ho hv hG
end Go.Proofs.YtkmbkpoclhbmgaaGreat
namespace Go.Proofs.YtkmbkpoclhbmgaaGreat
open Go.RowKit Go.Sort
variable {w w':World} {α:Type} [Inhabited α]
theorem grown_sort (enc : α→List Value) (k:Nat) (w:World) (blk off n:Nat) (d:Array α) (os:Array Obj):w.grownBy (sortWorldK enc k w blk off n d os) (some blk):=by
 refine ⟨rfl,rfl,rfl,?_,fun i hi hne=>?_⟩
 ·simp only [sortWorldK,grow,putRowK,putRow,mapBlock,Sort.ahead,Array.size_append,Array.size_modify]
  omega
 ·have hb:blk≠i:=fun e=>hne (by rw [e])
  simp only [sortWorldK,grow,putRowK,putRow,mapBlock,Sort.ahead]
  rw [Array.getElem?_append_left (by rw [Array.size_modify];exact hi),Array.getElem?_modify,if_neg hb]
omit [Inhabited α] in
theorem own_free {T:TypeId} {k n c g lo:Nat} {xs:List Value} (h:w.ownsRow lo T k (.slice (some ⟨g,0,none⟩) n c) n xs) (j:Nat):w.frozen? ⟨g,j,none⟩=false:=by
 obtain ⟨_,hn | ⟨g',cap,cur,hv,_,hg,_⟩⟩:=h
 ·cases hn.1
 ·injection hv with h1 _ _
  injection h1 with h1
  injection h1 with h1 _ _
  subst h1
  exact free_of hg
omit [Inhabited α] in
theorem own_max {T:TypeId} {k n c lo:Nat} {q:Option Addr} {xs:List Value} (h:w.ownsRow lo T k (.slice q n c) n xs):c≤9223372036854775807:=by
 obtain ⟨_,hn | ⟨g',cap,cur,hv,_,_,_,hm,_⟩⟩:=h
 ·injection hn.1 with _ _ h3;subst h3;exact Nat.zero_le _
 ·injection hv with _ _ h3;subst h3;unfold maxLen at hm;omega
theorem holdsK_own {T:TypeId} {k n c g lo:Nat} {f : α→List Value} {l:List α} (hf:∀ x,(f x).length=k) (h:w.ownsRow lo T k (.slice (some ⟨g,0,none⟩) n c) n (l.flatMap f)):HoldsK f k w g 0 l.toArray:=by
 intro t ht
 rw [size_flatK] at ht
 have hk : 0 < k:=by
  rcases Nat.eq_zero_or_pos k with e | e
  ·subst e;simp at ht
  ·exact e
 have hd:t / k < l.toArray.size:=Nat.div_lt_of_lt_mul (by rw [Nat.mul_comm];exact ht)
 have hd':t / k < l.length:=by simpa using hd
 have hm:t % k < k:=Nat.mod_lt _ hk
 have hx:l[t / k]?=some (l[t / k]'hd'):=List.getElem?_eq_getElem hd'
 obtain ⟨g',e,hc⟩:=row_cell hf h hx hm
 injection e with e
 injection e with e _ _
 subst e
 refine ⟨?_,own_free h _⟩
 have ea:l.toArray[t / k]! =l[t / k]'hd':=by rw [getElem!_pos l.toArray (t / k) hd];rfl
 rw [Nat.zero_add,get_flatK _ _ _ _ ht,ea,getElem!_pos (f (l[t / k]'hd')) (t % k) (by rw [hf];exact hm)]
 have e:t / k * k + t % k=t:=by rw [Nat.mul_comm];exact Nat.div_add_mod t k
 rw [e] at hc
 show w.cell? ⟨g,t,none⟩=some ((f (l[t / k]'hd'))[t % k]'_)
 rw [hc,List.getElem?_eq_getElem (by rw [hf];exact hm)]
theorem holds_grown (enc : α→List Value) (k:Nat) {blk n:Nat} {d d0:Array α} {os:Array Obj} (h0:HoldsK enc k w blk 0 d0) (hs:d.size=d0.size) (hb:blk < w.heap.size):HoldsK enc k (sortWorldK enc k w blk 0 n d os) blk 0 d :=
 holdsK_sortWorldK_c enc k w blk 0 d0 d n os h0 hb hs
theorem perm_list {d d':Array α} {lt : α→α→Bool} (hp:PermIn 0 d.size d d') (hs:SortedIn lt 0 d.size d'):d'.toList.Perm d.toList∧d'.size=d.size∧∀ i j,i < j→j < d'.size→lt d'[j]! d'[i]! =false:=by
 obtain ⟨h1,_,h3⟩:=hp
 refine ⟨?_,h1,fun i j hij hj=>hs i j (Nat.zero_le _) hij (h1 ▸ hj)⟩
 rw [show d'.extract 0 d.size=d' from by rw [← h1];exact Array.extract_size,show d.extract 0 d.size=d from Array.extract_size] at h3
 exact h3
end Go.Proofs.YtkmbkpoclhbmgaaGreat
namespace Go.Proofs
open Go.Shelf
def Tryz.sortExp_ren:Go.Shelf.Ren:=⟨fun | 6=>42 | 15=>74 | 14=>73 | 28=>111 | 29=>112 | 20=>103 | 21=>104 | 22=>105 | 23=>106 | 24=>107 | 25=>108 | 26=>109 | 27=>110 | 46=>138 | 47=>139 | 48=>140 | 49=>141 | 50=>142 | 57=>160 | n=>n,fun | 22=>23 | 24=>28 | 25=>72 | 3=>3 | 39=>148 | 0=>0 | 53=>42 | 55=>26 | 4=>4 | 46=>190 | 45=>189 | 50=>194 | 5=>5 | 9=>9 | 66=>228 | 70=>231 | 76=>249 | 77=>250 | n=>n,fun | n=>n⟩
theorem Tryz.sortExp:Go.Proofs.SlLaysF0.n6 Tryz.prog Tryz.sortExp_ren:={
 mixed:=by kernel_rfl
 f6:=⟨Tryz.f42.name,by decide,Tryz.func42.trans (congrArg some (by kernel_rfl))⟩
 f14:=⟨Tryz.f73.name,by decide,Tryz.func73.trans (congrArg some (by kernel_rfl))⟩
 f15:=Tryz.func74.trans (congrArg some (by kernel_rfl))
 f20:=⟨Tryz.f103.name,by decide,Tryz.func103.trans (congrArg some (by kernel_rfl))⟩
 f21:=⟨Tryz.f104.name,by decide,Tryz.func104.trans (congrArg some (by kernel_rfl))⟩
 f22:=⟨Tryz.f105.name,by decide,Tryz.func105.trans (congrArg some (by kernel_rfl))⟩
 f23:=⟨Tryz.f106.name,by decide,Tryz.func106.trans (congrArg some (by kernel_rfl))⟩
 f24:=⟨Tryz.f107.name,by decide,Tryz.func107.trans (congrArg some (by kernel_rfl))⟩
 f25:=⟨Tryz.f108.name,by decide,Tryz.func108.trans (congrArg some (by kernel_rfl))⟩
 f26:=⟨Tryz.f109.name,by decide,Tryz.func109.trans (congrArg some (by kernel_rfl))⟩
 f27:=⟨Tryz.f110.name,by decide,Tryz.func110.trans (congrArg some (by kernel_rfl))⟩
 f28:=Tryz.func111.trans (congrArg some (by kernel_rfl))
 f29:=Tryz.func112.trans (congrArg some (by kernel_rfl))
 f46:=⟨Tryz.f138.name,by decide,Tryz.func138.trans (congrArg some (by kernel_rfl))⟩
 f47:=Tryz.func139.trans (congrArg some (by kernel_rfl))
 f48:=Tryz.func140.trans (congrArg some (by kernel_rfl))
 f49:=⟨Tryz.f141.name,by decide,Tryz.func141.trans (congrArg some (by kernel_rfl))⟩
 f50:=⟨Tryz.f142.name,by decide,Tryz.func142.trans (congrArg some (by kernel_rfl))⟩
 f57:=⟨Tryz.f160.name,by decide,Tryz.func160.trans (congrArg some (by kernel_rfl))⟩
 t0:=Tryz.underlying0
 a0:=Tryz.isAgg0
 z0:=Tryz.sizeOf0
 v0:=Tryz.zeroValue0
 t3:=Tryz.underlying3
 a3:=Tryz.isAgg3
 z3:=Tryz.sizeOf3
 v3:=Tryz.zeroValue3
 t4:=Tryz.underlying4
 a4:=Tryz.isAgg4
 z4:=Tryz.sizeOf4
 v4:=Tryz.zeroValue4
 t5:=Tryz.underlying5
 a5:=Tryz.isAgg5
 z5:=Tryz.sizeOf5
 v5:=Tryz.zeroValue5
 t9:=Tryz.underlying9
 a9:=Tryz.isAgg9
 z9:=Tryz.sizeOf9
 v9:=Tryz.zeroValue9
 t22:=Tryz.underlying23
 a22:=Tryz.isAgg23
 z22:=Tryz.sizeOf23
 v22:=Tryz.zeroValue23
 t25:=Tryz.underlying72
 a25:=Tryz.isAgg72
 z25:=Tryz.sizeOf72
 v25:=Tryz.zeroValue72
 t39:=Tryz.underlying148
 a39:=Tryz.isAgg148
 z39:=Tryz.sizeOf148
 v39:=Tryz.zeroValue148
 t45:=Tryz.underlying189
 a45:=Tryz.isAgg189
 z45:=Tryz.sizeOf189
 v45:=Tryz.zeroValue189
 t46:=Tryz.underlying190
 a46:=Tryz.isAgg190
 z46:=Tryz.sizeOf190
 v46:=Tryz.zeroValue190
 t50:=Tryz.underlying194
 a50:=Tryz.isAgg194
 z50:=Tryz.sizeOf194
 v50:=Tryz.zeroValue194
 t53:=Tryz.underlying42
 a53:=Tryz.isAgg42
 z53:=Tryz.sizeOf42
 v53:=Tryz.zeroValue42
 t55:=Tryz.underlying26
 a55:=Tryz.isAgg26
 z55:=Tryz.sizeOf26
 v55:=Tryz.zeroValue26
 t66:=Tryz.underlying228
 a66:=Tryz.isAgg228
 z66:=Tryz.sizeOf228
 v66:=Tryz.zeroValue228
 t70:=Tryz.underlying231
 a70:=Tryz.isAgg231
 z70:=Tryz.sizeOf231
 v70:=Tryz.zeroValue231
 t76:=Tryz.underlying249
 a76:=Tryz.isAgg249
 z76:=Tryz.sizeOf249
 v76:=Tryz.zeroValue249
 t77:=Tryz.underlying250
 a77:=Tryz.isAgg250
 z77:=Tryz.sizeOf250
 v77:=Tryz.zeroValue250 }
end Go.Proofs
namespace Go.Proofs.YtkmbkpoclhbmgaaGreat
open Go.RowKit Go.Sort
variable {w w' W V:World} {xs:List Int}
def nmLt:List Int→List Int→Bool
 | _,[]=>false
 | [],_ :: _=>true
 | x :: a,y :: b=>if x < y then true else if y < x then false else nmLt a b
theorem nmLt_irrefl:∀ a,nmLt a a=false
 | []=>rfl
 | x :: a=>by simp [nmLt,nmLt_irrefl a]
theorem nmLt_anti:∀ {a b:List Int},nmLt a b=false→nmLt b a=false→a=b
 | [],[],_,_=>rfl
 | [],_ :: _,h,_=>by simp [nmLt] at h
 | _ :: _,[],_,h=>by simp [nmLt] at h
 | x :: a,y :: b,h,k=>by
  simp only [nmLt] at h k
  by_cases h1:x < y
  ·rw [if_pos h1] at h;cases h
  ·by_cases h2:y < x
   ·rw [if_pos h2] at k;cases k
   ·rw [if_neg h1,if_neg h2] at h
    rw [if_neg h2,if_neg h1] at k
    rw [nmLt_anti h k,show x=y by omega]
theorem nmLt_trans:∀ {a b c:List Int},nmLt a b=true→nmLt b c=true→nmLt a c=true
 | _,_,[],_,h=>by simp [nmLt] at h
 | _,[],_ :: _,h,_=>by simp [nmLt] at h
 | [],_ :: _,_ :: _,_,_=>rfl
 | x :: a,y :: b,z :: c,h,k=>by
  simp only [nmLt] at h k ⊢
  by_cases h1:x < y
  ·by_cases h2:y < z
   ·rw [if_pos (show x < z by omega)]
   ·rw [if_neg h2] at k
    by_cases h3:z < y
    ·rw [if_pos h3] at k;cases k
    ·rw [if_pos (show x < z by omega)]
  ·rw [if_neg h1] at h
   by_cases h2:y < x
   ·rw [if_pos h2] at h;cases h
   ·rw [if_neg h2] at h
    by_cases h3:y < z
    ·rw [if_pos (show x < z by omega)]
    ·rw [if_neg h3] at k
     by_cases h4:z < y
     ·rw [if_pos h4] at k;cases k
     ·rw [if_neg h4] at k
      rw [if_neg (show ¬ x < z by omega),if_neg (show ¬ z < x by omega)]
      exact nmLt_trans h k
theorem nmLt_ntrans {a b c:List Int} (h:nmLt a b=false) (k:nmLt b c=false):nmLt a c=false:=by
 cases hac:nmLt a c with
 | false=>rfl
 | true =>
  cases hba:nmLt b a with
  | true=>rw [nmLt_trans hba hac] at k;cases k
  | false=>rw [nmLt_anti h hba] at hac;rw [hac] at k;cases k
theorem compare_lt:∀ (a b:List UInt8),decide (Lib.compareBytes a b < 0)=nmLt (a.map fun u=>(u.toNat:Int)) (b.map fun u=>(u.toNat:Int))
 | [],[]=>rfl
 | [],_ :: _=>rfl
 | _ :: _,[]=>rfl
 | x :: a,y :: b=>by
  have e1:(x < y)↔(x.toNat:Int) < (y.toNat:Int):=by rw [UInt8.lt_iff_toNat_lt];omega
  have e2:(y < x)↔(y.toNat:Int) < (x.toNat:Int):=by rw [UInt8.lt_iff_toNat_lt];omega
  have ih:=compare_lt a b
  by_cases h1:x < y
  ·have c:Lib.compareBytes (x :: a) (y :: b)=-1:=if_pos h1
   have n:nmLt ((x :: a).map fun u=>(u.toNat:Int)) ((y :: b).map fun u=>(u.toNat:Int))=true:=if_pos (e1.1 h1)
   rw [n,decide_eq_true (by rw [c];decide)]
  ·by_cases h2:y < x
   ·have c:Lib.compareBytes (x :: a) (y :: b)=1:=(if_neg h1).trans (if_pos h2)
    have n:nmLt ((x :: a).map fun u=>(u.toNat:Int)) ((y :: b).map fun u=>(u.toNat:Int))=false:=(if_neg (fun h=>h1 (e1.2 h))).trans (if_pos (e2.1 h2))
    rw [n,decide_eq_false (by rw [c];decide)]
   ·have c:Lib.compareBytes (x :: a) (y :: b)=Lib.compareBytes a b:=(if_neg h1).trans (if_neg h2)
    have n:nmLt ((x :: a).map fun u=>(u.toNat:Int)) ((y :: b).map fun u=>(u.toNat:Int))=nmLt (a.map fun u=>(u.toNat:Int)) (b.map fun u=>(u.toNat:Int)):=(if_neg (fun h=>h1 (e1.2 h))).trans (if_neg (fun h=>h2 (e2.2 h)))
    rw [n,← ih]
    simp only [c]
instance:Inhabited (List Int × Ex):=⟨([],Ex.zero)⟩
def cmpEx (x y:List Int × Ex):Int:=Lib.compareBytes (Lib.bytesOf x.1) (Lib.bytesOf y.1)
theorem ltEx (x y:List Int × Ex):ltOf cmpEx x y=nmLt (nums x.1) (nums y.1):=compare_lt _ _
theorem swoEx:SWO (ltOf cmpEx) where
 irrefl x:=by rw [ltEx];exact nmLt_irrefl _
 trans x y z h1 h2:=by rw [ltEx] at *;exact nmLt_trans h1 h2
 ntrans x y z h1 h2:=by rw [ltEx] at *;exact nmLt_ntrans h1 h2
theorem byName_any (x y:List Int × Ex) (W:World):Calls Tryz.prog 31 #[.agg (outCs x).toArray,.agg (outCs y).toArray] W fun e w'=>e=.returned (.int .i64 (cmpEx x y))∧∃ q os',w'=grow (W.drewN q) os':=by
 obtain ⟨x1,x2⟩:=x
 obtain ⟨y1,y2⟩:=y
 have C:=Lib.hid (fun V=>Tryz.strings_Compare (strOfNums x1) (strOfNums y1) V)
 have e1:Lib.compareBytes (strOfNums x1).data.toList (strOfNums y1).data.toList=cmpEx (x1,x2) (y1,y2):=by
  unfold cmpEx
  rw [show (strOfNums x1).data.toList=Lib.bytesOf x1 from strOfNums_data x1,show (strOfNums y1).data.toList=Lib.bytesOf y1 from strOfNums_data y1]
 rw [e1] at C
 clear e1
 simp only [outCs,exCs]
 generalize cmpEx (x1,x2) (y1,y2)=r at *
 go_enter Tryz.func31,Tryz.ntmps31
 go_wp2_with (go_at_call 62;refine (C.out _).mono ?_;rintro e w' ⟨rfl,rfl⟩)
 go_ret
 exact ⟨rfl,0,_,by rw [alloc_eq_grow,alloc_eq_grow,grow_grow];rfl⟩
theorem cmpEx_lays (blk off size:Nat) (w:World):CmpLays Tryz.prog 31 #[] outCs 7 cmpEx blk off size w:=fun _ _ _ _ x y=>byName_any x y _
theorem outCs_one (y:List Int × Ex):∀ u∈outCs y,u.oneCell'=true:=exCs_one _ _
def Rises (l:Out):Prop:=l.Pairwise fun a b=>nmLt (nums b.1) (nums a.1)=false
theorem rises_one {l m:Out} (hl:Rises l) (hm:Rises m) (hp:l.Perm m) (hb:∀ y∈l,Byt y.1) (ho:l.Pairwise fun a b=>a.1≠b.1):l=m:=by
 refine List.Perm.eq_of_pairwise (le:=fun a b:List Int × Ex=>nmLt (nums b.1) (nums a.1)=false) ?_ hl hm hp
 intro a b ha hb' h1 h2
 have hb2:=hp.mem_iff.2 hb'
 have e:a.1=b.1:=by
  have:=nmLt_anti h2 h1
  rw [nums_byt (hb a ha),nums_byt (hb b hb2)] at this
  exact this
 obtain ⟨i,hi,rfl⟩:=List.getElem_of_mem ha
 obtain ⟨j,hj,rfl⟩:=List.getElem_of_mem hb2
 rcases Nat.lt_trichotomy i j with h | h | h
 ·exact absurd e ((List.pairwise_iff_getElem.1 ho) i j hi hj h)
 ·subst h;rfl
 ·exact absurd e.symm ((List.pairwise_iff_getElem.1 ho) j i hj hi h)
end Go.Proofs.YtkmbkpoclhbmgaaGreat
namespace Go.Proofs.YtkmbkpoclhbmgaaGreat
open Go.RowKit
variable {w w' W V:World} {xs:List Int}
def textM (t:List Int):Bool:=decide (t.length≤255) && decide ((0:Int) ∉ t)
set_option maxRecDepth 20000 in
theorem refTextMay_any {t:List Int} (ht:Byt t) (hl:t.length≤9223372036854775807) (n:Nat) (w:World) :
  Calls Tryz.prog 69 #[.string (strOfNums t),.int .i64 n] w fun e w'=>e=.returned (.bool (decide (n≤t.length) && textM t))∧w.grownBy w' none:=by
 have hst:(strOfNums t).size=t.length:=strOfNums_size _
 have PS:=pre_self t
 unfold textM
 rw [← PS]
 by_cases h0:n≤t.length
 ·have hd0:decide ((n:Int)≤(t.length:Int))=true:=by simp;omega
  rw [decide_eq_true h0]
  by_cases h:t.length≤255
  ·have hd:decide ((t.length:Int)≤255)=true:=by simp;omega
   rw [decide_eq_true h]
   have CV:=Lib.run_convert_string_bytes (P:=Tryz.prog) w 9 29 5 (strOfNums t) Tryz.underlying9 Tryz.underlying29 Tryz.underlying5
   have GB:=Lib.hid (turned_grown w 5 (strOfNums t))
   have NM:=Lib.hid (name01_any w.heap.size 0 _ _ t (bytes_there w 5 ht _) rfl (show t.length≤140737488355328 by omega) (grownCap_ge w t.length 0 5))
   rw [hst] at CV
   have HN:((strOfNums (pre t)).toList == (strOfNums t).toList)=decide (pre t=t):=text_same (pre_bytes ht) ht
   go_enter Tryz.func69,Tryz.ntmps69
   go_wp2_with (refine NM.out.mono ?_;rintro e w' ⟨rfl,rfl⟩)
   go_ret
   exact ⟨by rw [PS];simp,GB.out⟩
  ·have hd:decide ((t.length:Int)≤255)=false:=by simp;omega
   rw [decide_eq_false h]
   go_enter Tryz.func69,Tryz.ntmps69
   go_wp2
   go_ret
   exact ⟨rfl,grown_refl _ _⟩
 ·have hd0:decide ((n:Int)≤(t.length:Int))=false:=by simp;omega
  rw [decide_eq_false h0]
  go_enter Tryz.func69,Tryz.ntmps69
  go_wp2
  go_ret
  exact ⟨rfl,grown_refl _ _⟩
end Go.Proofs.YtkmbkpoclhbmgaaGreat
namespace Go.Proofs.YtkmbkpoclhbmgaaGreat
open Go.RowKit
variable {w w' W V:World} {xs:List Int}
def kindM (x:Ex):Bool :=
 if x.kind=1∨x.kind=2 then decide (x.resolver=0) && decide (x.ordinal=0) && decide (x.other=[])
 else if x.kind=3 then decide (x.value=0) && decide (x.resolver=0)
 else if x.kind=4 then decide (x.ordinal=0) && decide (x.other=[])
 else false
def mayE (nm:List Int) (x:Ex):Bool:=!decide (nm=[]) && textM nm && textM x.other && kindM x
set_option maxRecDepth 20000 in
set_option maxHeartbeats 1600000 in
theorem refMay_any {nm:List Int} {x:Ex} (hn:Byt nm) (ho:Byt x.other) (hl:nm.length≤9223372036854775807) (hl2:x.other.length≤9223372036854775807) (w:World) :
  Calls Tryz.prog 35 #[exV (strOfNums nm) x] w fun e w'=>e=.returned (.bool (mayE nm x))∧w.grownBy w' none:=by
 have TN:=Lib.hid (fun W=>refTextMay_any hn hl 1 W)
 have TO:=Lib.hid (fun W=>refTextMay_any ho hl2 0 W)
 have n1:decide (1≤nm.length)=!decide (nm=[]):=by cases nm <;> simp
 have n2:=text_nil x.other
 rw [n1] at TN
 rw [show decide (0≤x.other.length)=true from rfl,Bool.true_and] at TO
 have g1:=grown1 w (.cells (exArr (strOfNums nm) x) 28)
 have E3:ExAt (w.alloc (.cells (exArr (strOfNums nm) x) 28)) w.heap.size (strOfNums nm) x:=heap_alloc_new w _
 obtain ⟨c0,c1,c2,c3,c4,c5,c6⟩:=E3.c
 obtain ⟨r,hr⟩:∃ r,r=mayE nm x:=⟨_,rfl⟩
 rw [← hr]
 unfold mayE kindM at hr
 generalize (!decide (nm=[]) && textM nm)=M at *
 generalize textM x.other=O at *
 have HE:=Lib.hid E3
 have HG:=Lib.hid g1
 clear g1 E3 n1
 obtain ⟨kind,weak,value,resolver,ordinal,other⟩:=x
 simp only [exV,exArr] at *
 have HR:=Lib.hid hr
 clear hr ho hn
 cases M
 ·go_enter Tryz.func35,Tryz.ntmps35
  go_wp2_with fail
  refine (TN.out _).mono ?_
  rintro e w1 ⟨rfl,hg1⟩
  have G1:=Lib.hid (grown_trans HG.out hg1)
  clear hg1
  go_wp2
  go_ret
  exact ⟨by rw [HR.out];rfl,G1.out⟩
 ·go_enter Tryz.func35,Tryz.ntmps35
  go_wp2_with fail
  refine (TN.out _).mono ?_
  rintro e w1 ⟨rfl,hg1⟩
  have E1:=HE.out.kept hg1 (by simp)
  obtain ⟨c0,c1,c2,c3,c4,c5,c6⟩:=E1.c
  have H1:=Lib.hid E1
  have G1:=Lib.hid (grown_trans HG.out hg1)
  clear hg1 E1
  go_wp2_with fail
  refine (TO.out _).mono ?_
  rintro e w2 ⟨rfl,hg2⟩
  have E2:=H1.out.kept hg2 (by simp)
  obtain ⟨c0,c1,c2,c3,c4,c5,c6⟩:=E2.c
  have G2:=Lib.hid (grown_trans G1.out hg2)
  clear hg2 E2
  cases O
  all_goals go_wp2
  all_goals (go_ret;refine ⟨?_,G2.out⟩;have hr:=HR.out;clear HR TN TO G1 G2 HE HG H1;simp_all)
  all_goals rfl
end Go.Proofs.YtkmbkpoclhbmgaaGreat
namespace Go.Proofs.YtkmbkpoclhbmgaaGreat
open Go.RowKit
variable {w:World}
def encU (n:Nat):List Int:=if n < 128 then [(n:Int)] else (((n % 128:Nat):Int) + 128) :: encU (n / 128)
termination_by n
decreasing_by omega
theorem encU_small {n:Nat} (h:n < 128):encU n=[(n:Int)]:=by rw [encU,if_pos h]
theorem encU_big {n:Nat} (h:¬ n < 128):encU n=(((n % 128:Nat):Int) + 128) :: encU (n / 128):=by rw [encU,if_neg h]
end Go.Proofs.YtkmbkpoclhbmgaaGreat
namespace Go.Proofs.YtkmbkpoclhbmgaaGreat
open Go.RowKit
variable {w:World}
theorem own_slice8 {w:World} {base:Nat} {v:Value} {n:Nat} {xs:List Value} (h:w.ownsRow base 5 1 v n xs):∃ q c,v=.slice q n c:=by
 rcases h.2 with ⟨rfl,h0⟩ | ⟨g,cap,cur,rfl,_⟩
 ·have:n=0:=by omega
  subst this;exact ⟨_,_,rfl⟩
 ·exact ⟨_,_,rfl⟩
theorem encU_len (k:Nat):∀ n:Nat,n < 128 ^ (k + 1)→(encU n).length≤k + 1:=by
 induction k with
 | zero=>intro n h;rw [encU_small (by simpa using h)];simp
 | succ k ih =>
  intro n h
  by_cases h1:n < 128
  ·rw [encU_small h1];simp
  ·rw [encU_big h1,List.length_cons]
   have:=ih (n / 128) (by rw [Nat.pow_succ] at h;omega)
   omega
theorem encU_10 (n:Nat) (h:n < 18446744073709551616):(encU n).length≤10:=encU_len 9 n (by omega)
theorem one_byte (w:World) (x:Int) (t:TypeId):IsBytes (w.alloc (.cells #[.int .u8 x] t)) (some ⟨w.heap.size,0,none⟩) 1 [x]:=by
 refine IsBytes.mk_at fun i hi=>?_
 rw [cell_of (heap_alloc_new w _)]
 obtain rfl:i=0:=by simp at hi;omega
 rfl
end Go.Proofs.YtkmbkpoclhbmgaaGreat
