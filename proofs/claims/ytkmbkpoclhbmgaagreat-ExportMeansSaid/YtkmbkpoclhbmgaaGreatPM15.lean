/- Parts of the proof, put together: NlF, NlFd, ExM, ExF, ExC, ExL, ExG. No condition beyond those that each part names. -/
import Derived.Shelf.Small.Bits
import Derived.Shelf.Small.Strs
import Derived.Shelf.Strconv.Itoa0
import Derived.Shelf.Strings.Search1
import Derived.Shelf.Bytes.SlIndexAt
import Derived.Shelf.Bytes.SlSearch0
import Derived.Ground.SlbCloneProg
import Derived.Shelf.Bytes.SlClone
import Derived.Shelf.Bytes.IndexByte
import Derived.Test.YtkmbkpoclhbmgaaGreatProg
import Derived.Test.YtkmbkpoclhbmgaaGreatRows
import Derived.WalkKit
import Derived.WalkSpells
import Derived.WalkLawsBesides
import Derived.BigQuiet
import Derived.Deep.QuietTactic
import Derived.Lib.Hide
import Derived.IntWalk
import Derived.OneCell
import Derived.Laws.Rows
import Derived.OpenShut
import Derived.ProofKit
import Derived.Lib.EndianBits
import Derived.RegionTactic
import Derived.ChangeAlike
import Derived.WalkMore
import Derived.Laws.BytesArg
import Derived.Shelf.Bytes.SlEqualAll
import Derived.Lib.SlFresh
import Derived.Maps.AppendAt
import Derived.Deep.AppendSrc
import Derived.Deep.Upon
import Derived.Lib.AppendZeros
import Derived.Laws.IdiomStrings
import Derived.Lib.AppendZerosOnto
import Derived.Laws.StructEq
import Derived.Below
import Derived.Shelf.Abstract
import Derived.Laws.ResultCell
import Derived.Deep.Slices
import Derived.ChangeSame
import Derived.Laws.OwnMore
import Derived.Laws.Slices
import Derived.Lib.ConvBytes
import Derived.StringKeys
import Derived.Maps.Own
import Derived.Maps.OwnOps
import Derived.Maps.OwnSet
import Derived.WideShapes
import Derived.Deep.LoopGhost
import Derived.StillTailTactics
import Derived.Deep.Cut
import Derived.Deep.CutRange
import Derived.PlainAid
import Derived.Lib.SlBytesRow
import Derived.Deep.Onto
import Derived.Laws.EntriesVeiled
import Derived.Shelf.SlSortCmp.WholeK
import Derived.Shelf.SlGeneric
import Derived.Ground.SlsfProg
import Derived.Laws.Bits128
import Derived.Deep.RegionWith
import Derived.Deep.RegionHeld3
import Derived.Lib.SmallJoins
import Derived.Deep.RegionLaw
import Derived.Deep.RegionHeld
import Derived.Lib.QuietBelow
import Derived.Stop.Asserts
import Derived.Laws.Externs
import Derived.WalkArith
import Derived.Maps.Views
import Derived.RangeFuncRecord
import Derived.RangeFuncSeq
import Derived.RangeFuncCalls
import Derived.RangeFuncBound
import Derived.OwnWalkIn
import Derived.TacticsInMore
import Derived.Shelf.RegionOpen
import Derived.BigRegion
import Derived.RangeFuncNested
import Derived.RangeFuncIn
import Derived.RangeFuncLeaves
import Derived.Laws.Tables
import Derived.BigFrame
import Derived.StillTail
import Derived.Test.YtkmbkpoclhbmgaaGreatPM4
import Derived.Test.YtkmbkpoclhbmgaaGreatPM7
import Derived.Test.YtkmbkpoclhbmgaaGreatPM13
import Derived.Test.YtkmbkpoclhbmgaaGreatPM14
namespace Go.Proofs.YtkmbkpoclhbmgaaGreat
open Go.RowKit Go.Maps
variable {w w' W V:World} {ys t:List Int} {n:Int}
set_option maxRecDepth 20000 in
set_option maxHeartbeats 1600000 in
theorem indexSy_any {f:Nat} {cbs:Array Value} (en:∀ args V,(callFunc f args).run Tryz.prog V=.ok (.enter f args) V) (pr:Sym→Bool) (D:Syms) (n:Nat) (hn:D.length=n) (hbig:n≤1000000000) (q:Option Addr) (c:Nat) (hr:SysAt w q D)
  (hcall:∀ W y,w.grownBy W none→y∈D→Calls Tryz.prog f (#[syV (strOfNums y.1) y.2] ++ cbs) W fun e w'=>e=.returned (.bool (pr y))∧W.grownBy w' none) :
  Calls Tryz.prog 203 #[.slice q n c,.func (.func f) #[] cbs] w fun e w' =>
    ((e=.returned (.int .i64 (-1))∧∀ y∈D,pr y=false)∨∃ (k:Nat) (x:Sym),k < n∧e=.returned (.int .i64 k)∧D[k]?=some x∧pr x=true∧∀ i y,i < k→D[i]?=some y→pr y=false)∧w.grownBy w' none:=by
 subst hn
 have RR:=Lib.hid hr
 have HC:=Lib.hid hcall
 clear hr hcall
 go_enter Tryz.func203,Tryz.ntmps203
 go_wp2
 go_loopw [8] (fun i wr=>∃ k:Nat,k≤D.length∧i=.int .i64 k∧w.grownBy wr none∧Hid (∀ (i:Nat) (y:Sym),i < k→D[i]?=some y→pr y=false)) (fun i _=>D.length - (intOf i).toNat)
 case atStart=>exact ⟨0,Nat.zero_le _,rfl,grown_refl _ _,Lib.hid (fun i y h=>by omega)⟩
 case round =>
  obtain ⟨k,hk,rfl,hg,NO⟩:=hrel
  have G:=Lib.hid hg
  by_cases hlt:k < D.length
  · obtain ⟨x,hx⟩:∃ x,D[k]?=some x:=⟨_,List.getElem?_eq_getElem hlt⟩
    obtain ⟨gq,oq,rfl,a0,a1,a2,a3⟩:=(RR.out.grown hg).at hx
    have M1:=HC.out wr x hg (List.mem_of_getElem? hx)
    simp only [syV,syArr] at M1
    have M:=Lib.hid M1
    have XX:=Lib.hid hx
    have dl:decide ((k:Int) < (D.length:Int))=true:=by simp;omega
    have hkl:(k:Int) < (D.length:Int):=by omega
    obtain ⟨bx,hbx⟩:∃ bx,bx=pr x:=⟨_,rfl⟩
    rw [← hbx] at M
    have PX:=Lib.hid hbx
    clear hg hx hbx M1
    go_wp2_with fail
    refine M.out.mono ?_
    rintro e w3 ⟨rfl,hg⟩
    have G3:=Lib.hid (grown_trans G.out hg)
    clear hg M a0 a1 a2 a3
    cases bx
    · go_wp2
      go_roundw
      case rel =>
       refine ⟨k + 1,hlt,by go_num,G3.out,Lib.hid (fun i y hi hy=>?_)⟩
       rcases Nat.lt_or_ge i k with h | h
       ·exact NO.out i y h hy
       ·obtain rfl:i=k:=by omega
        rw [XX.out] at hy
        injection hy with hy
        rw [← hy];exact PX.out.symm
      case measure=>simp [intOf];omega
    · go_wp2
      go_ret
      exact ⟨.inr ⟨k,_,hlt,rfl,XX.out,PX.out.symm,NO.out⟩,G3.out⟩
  · have NA:=Lib.hid (show ∀ y∈D,pr y=false from fun y hy=>by
      obtain ⟨i,hi,rfl⟩:=List.getElem_of_mem hy
      exact NO.out i _ (by omega) (List.getElem?_eq_getElem hi))
    have dl:decide ((k:Int) < (D.length:Int))=false:=by simp;omega
    have dl2:decide (k < D.length)=false:=by simp;omega
    clear NO hg hlt
    go_wp2
    go_ret
    exact ⟨.inl ⟨rfl,NA.out⟩,G.out⟩
set_option maxRecDepth 20000 in
theorem find1S_any {nm t:List Int} (x:Sy) (hn:Byt nm) (ht:Byt t) {g:Nat} (W:World) (hg:OneAt W g (.string (strOfNums t)) 9) :
  Calls Tryz.prog 204 #[syV (strOfNums nm) x,.pointer (some ⟨g,0,none⟩)] W fun e w'=>e=.returned (.bool (decide (nm=t)))∧W.grownBy w' none:=by
 have g1:=grown1 W (.cells #[.string (strOfNums nm),.int .i64 x.sec,.int .u64 x.value,.bool x.weak] 95)
 have c1:=(hg.grown g1).c
 have c0:=(SyAt.new W (strOfNums nm) x).c.1
 have ee:=text_same hn ht
 obtain ⟨b,hb⟩:∃ b,b=decide (nm=t):=⟨_,rfl⟩
 rw [← hb] at ee ⊢
 have G:=Lib.hid g1
 clear g1 hb hg hn ht
 unfold syV syArr
 go_enter Tryz.func204,Tryz.ntmps204
 go_wp2
 go_ret
 exact ⟨rfl,G.out⟩
end Go.Proofs.YtkmbkpoclhbmgaaGreat
namespace Go.Proofs.YtkmbkpoclhbmgaaGreat
open Go.RowKit Go.Maps
variable {w w' W V:World} {ys t:List Int} {n:Int}
theorem results_sy3 {fn:Func} {p u v:Tmp} {g:Nat} {nm:ByteArray} {x:Sy} (hr:fn.results=#[.cell p 95,.tmp u,.tmp v]) {tmps:Array Value} {y z:Value} (hp:tmps.getD p undef=.pointer (some ⟨g,0,none⟩)) (hu:tmps.getD u undef=y) (hv:tmps.getD v undef=z) (h:SyAt w g nm x) :
  (results fn tmps).run Tryz.prog w=.ok (.tuple #[syV nm x,y,z]) w:=by
 have e:(asAddr (.pointer (some ⟨g,0,none⟩)):Sem Addr).run Tryz.prog w=.ok ⟨g,0,none⟩ w:=rfl
 simp only [Array.getD_eq_getD_getElem?] at hp hu hv
 simp only [results,hr]
 simp [Sem.run_bind,Result.andThen,hp,hu,hv,e,load_sy h]
structure FdOut (w w':World) (R:Int × Syms) (s:List Int) (r:Ending):Prop where
 ex:∃ (y:Sym),r=.returned (.tuple #[syV (strOfNums y.1) y.2,.bool (nlHas R.2 s),.int .i64 R.1])∧(nlHas R.2 s=true→y∈R.2∧y.1=s)∧(nlHas R.2 s=false→y=([],Sy.zero))
 grown:w.grownBy w' none
set_option maxRecDepth 20000 in
set_option maxHeartbeats 3200000 in
theorem Find10_any {q q2:Option Addr} {c c2 L N:Nat} (hb:IsBytes w q c t) (hL:t.length=L) (hbigL:L≤140737488355328) (hc:L≤c) (hcm:c≤9223372036854775807) (ht:Byt t)
  (hb2:IsBytes w q2 c2 ys) (hN:ys.length=N) (hbig:N≤140737488355328) (hy:Byt ys) {s:List Int} (hs:Byt s) :
  Calls Tryz.prog 201 #[.slice q L c,.slice q2 N c2,.int .i64 n,.string (strOfNums s)] w fun r w'=>FdOut w w' (nlAll t ys n) s r:=by
 have g1:=grown1 w (.cells #[.string (strOfNums s)] 9)
 have o1:=OneAt.new w (.string (strOfNums s)) 9
 obtain ⟨w1,hw1⟩:∃ W,W=w.alloc (.cells #[.string (strOfNums s)] 9):=⟨_,rfl⟩
 obtain ⟨G,hG⟩:∃ G,G=w.heap.size:=⟨_,rfl⟩
 rw [← hw1] at g1 o1
 rw [← hG] at o1
 have g2:=grown1 w1 (.cells #[.string ⟨#[]⟩,.int .i64 0,.int .u64 0,.bool false] 95)
 have s2:=SyAt.new w1 ⟨#[]⟩ Sy.zero
 obtain ⟨w2,hw2⟩:∃ W,W=w1.alloc (.cells #[.string ⟨#[]⟩,.int .i64 0,.int .u64 0,.bool false] 95):=⟨_,rfl⟩
 obtain ⟨X,hX⟩:∃ X,X=w1.heap.size:=⟨_,rfl⟩
 simp only [Sy.zero] at s2
 rw [← hw2] at g2 s2
 rw [← hX] at s2
 have hGX:G + 1=X:=by rw [hG,hX,hw1];simp
 have g02:=grown_trans g1 g2
 have AL:=Lib.hid (allP_any (n:=n) (hb.kept g02 (by simp)) hL hbigL hc hcm ht (hb2.kept g02 (by simp)) hN hbig hy)
 have OKK:=Lib.hid (nlAll_ok (n:=n) ht hy)
 have HERR:=Lib.hid (fun h=>nlAll_err (t:=t) (ys:=ys) (n:=n) h)
 generalize nlAll t ys n=R at *
 have O2:=Lib.hid (o1.grown g2)
 have S2:=Lib.hid s2
 have G2:=Lib.hid g02
 have HW1:=Lib.hid hw1.symm
 have HW2:=Lib.hid hw2.symm
 have HG:=Lib.hid hG.symm
 have HGX:=Lib.hid hGX
 have HS:=Lib.hid hs
 have hwX:w.heap.size≤X:=by omega
 clear hb hb2 ht hy hs g1 g2 o1 s2 hw1 hw2 hG hX hGX g02
 go_enter Tryz.func201,Tryz.ntmps201
 go_upto_region 1 with fail
 rw [HW1.out,HG.out,HW2.out,HGX.out]
 clear HW1 HW2 HG HGX
 go_wp2_with fail
 refine AL.out.mono ?_
 rintro r w3 ⟨⟨qa,ca,rfl,hsa,hlc,hcm2⟩,hbel⟩
 have g3:=grown_below hbel none
 have O3:=Lib.hid (O2.out.grown g3)
 have S3:=Lib.hid (S2.out.kept g3 (by simp))
 have G3:=Lib.hid (grown_trans G2.out g3)
 have SA:=Lib.hid hsa
 have hfew:=OKK.out.few
 have IX:=Lib.hid (indexSy_any (w:=w3) (f:=204) (cbs:=#[.pointer (some ⟨G,0,none⟩)]) (enters_of Tryz.func204 (by kernel_rfl) rfl) (fun y=>decide (y.1=s)) R.2 R.2.length rfl (by omega) qa ca hsa (fun W y hW hy=>by
  refine (find1S_any y.2 (OKK.out.each y hy).1 HS.out W (O3.out.grown hW)).mono ?_
  rintro e w' ⟨rfl,hg⟩
  exact ⟨rfl,hg⟩))
 clear hbel g3 hsa AL S2 O2 G2
 obtain ⟨E,D⟩:=R
 simp only [] at *
 obtain ⟨L2,hL2⟩:∃ L,L=D.length:=⟨_,rfl⟩
 rw [← hL2] at IX hlc hfew ⊢
 have HL2:=Lib.hid hL2
 clear hL2
 go_wp2_with fail
 refine IX.out.mono ?_
 rintro r w4 ⟨hr,hg⟩
 have G4:=Lib.hid (grown_trans G3.out hg)
 have S4:=Lib.hid (S3.out.kept hg (by simp))
 have SA4:=Lib.hid (SA.out.grown hg)
 clear hg
 obtain ⟨c0,c1,c2,c3⟩:=S4.out.c
 have xl:=S4.out.lt
 have xf:=S4.out.fz
 rcases hr with ⟨rfl,hno⟩ | ⟨k,x,hk,rfl,hx,hpx,_⟩
 ·have hH:nlHas D s=false:=by
    unfold nlHas
    rw [List.any_eq_false]
    intro y hy
    rw [hno y hy];simp
  have HH:=Lib.hid hH
  have SF:=Lib.hid (S4.out.put ⟨#[]⟩ Sy.zero)
  have GF:=Lib.hid (grown_new G4.out (grown_put4 (grown_refl w4 (some X)) (.string ⟨#[]⟩) (.int .i64 0) (.int .u64 0) (.bool false)) hwX)
  simp only [Sy.zero] at SF
  clear hno hH
  go_wp2
  refine bodyPost_ret (results_sy3 rfl rfl rfl rfl SF.out) rfl ?_
  refine ⟨⟨([],Sy.zero),?_,fun h=>(by rw [HH.out] at h;cases h),fun _=>rfl⟩,GF.out⟩
  rw [HH.out]
  rfl
 ·have hm:=List.mem_of_getElem? hx
  have hps:x.1=s:=of_decide_eq_true hpx
  have hH:nlHas D s=true:=nlHas_mem.2 ⟨x,hm,hps⟩
  have hE:E=0:=by
    by_cases h:E=0
    ·exact h
    ·have:=HERR.out h
     rw [this] at hm
     cases hm
  subst hE
  have HH:=Lib.hid (And.intro hH (And.intro hm hps))
  obtain ⟨gq,oq,rfl,a0,a1,a2,a3⟩:=SA4.out.at hx
  have dk:decide ((k:Int) < 0)=false:=by simp
  have hkl:(k:Int) < (L2:Int):=by omega
  have SF:=Lib.hid (S4.out.put (strOfNums x.1) x.2)
  have GF:=Lib.hid (grown_new G4.out (grown_put4 (grown_refl w4 (some X)) (.string (strOfNums x.1)) (.int .i64 x.2.sec) (.int .u64 x.2.value) (.bool x.2.weak)) hwX)
  clear hx hpx hm hps hH hk
  go_wp2
  refine bodyPost_ret (results_sy3 rfl rfl rfl rfl SF.out) rfl ?_
  refine ⟨⟨x,?_,fun _=>HH.out.2,fun h=>(by rw [HH.out.1] at h;cases h)⟩,GF.out⟩
  rw [HH.out.1]
  rfl
end Go.Proofs.YtkmbkpoclhbmgaaGreat
namespace Go.Proofs.YtkmbkpoclhbmgaaGreat
open Go.RowKit Go.Sort
variable {w w' W V:World}
def tabV (a b:Value) (n low:Int):Value:=.agg #[a,b,.int .i64 n,.int .u64 low]
set_option maxRecDepth 20000 in
theorem tabExport_any (a b:Value) (n low:Int) (y:Sym) (w:World) :
  Calls Tryz.prog 199 #[tabV a b n low,syV (strOfNums y.1) y.2] w fun e w'=>e=.returned (exV (strOfNums y.1) (symEx low y).2)∧w.grownBy w' none:=by
 have g1:=grown1 w (.cells #[a,b,.int .i64 n,.int .u64 low] 169)
 have k1:=heap_alloc_new w (.cells #[a,b,.int .i64 n,.int .u64 low] 169)
 obtain ⟨w1,hw1⟩:∃ W,w.alloc (.cells #[a,b,.int .i64 n,.int .u64 low] 169)=W:=⟨_,rfl⟩
 obtain ⟨b1,hb1⟩:∃ b,w.heap.size=b:=⟨_,rfl⟩
 rw [hw1] at g1 k1
 rw [hb1] at k1
 have g2:=grown1 w1 (.cells (syArr (strOfNums y.1) y.2) 95)
 have s2:=SyAt.new w1 (strOfNums y.1) y.2
 obtain ⟨w2,hw2⟩:∃ W,w1.alloc (.cells (syArr (strOfNums y.1) y.2) 95)=W:=⟨_,rfl⟩
 obtain ⟨b2,hb2⟩:∃ b,w1.heap.size=b:=⟨_,rfl⟩
 unfold syArr at hw2 g2
 rw [hw2] at g2 s2
 rw [hb2] at s2
 have g3:=grown1 w2 (.cells #[.string ⟨#[]⟩,.int .i64 0,.bool false,.int .u64 0,.int .u64 0,.int .u64 0,.string ⟨#[]⟩] 28)
 have r3:ExAt (w2.alloc (.cells #[.string ⟨#[]⟩,.int .i64 0,.bool false,.int .u64 0,.int .u64 0,.int .u64 0,.string ⟨#[]⟩] 28)) w2.heap.size ⟨#[]⟩ Ex.zero:=heap_alloc_new w2 _
 obtain ⟨w3,hw3⟩:∃ W,w2.alloc (.cells #[.string ⟨#[]⟩,.int .i64 0,.bool false,.int .u64 0,.int .u64 0,.int .u64 0,.string ⟨#[]⟩] 28)=W:=⟨_,rfl⟩
 obtain ⟨b3,hb3⟩:∃ b,w2.heap.size=b:=⟨_,rfl⟩
 rw [hw3] at g3 r3
 rw [hb3] at r3
 have c3:w3.cell? ⟨b1,3,none⟩=some (.int .u64 low):=grown_cell g3 (grown_cell g2 (by rw [cell_of k1];rfl))
 obtain ⟨y0,y1,y2,y3⟩:=(s2.kept g3 (by simp)).c
 have l3:=r3.lt
 have l1:b1 < w3.heap.size:=by have:=lt_of_block k1;have:=g2.size;have:=g3.size;omega
 have l2:b2 < w3.heap.size:=by have:=s2.lt;have:=g3.size;omega
 have R3:=Lib.hid r3
 have z0:=r3.fz 0
 have z1:=r3.fz 1
 have z2:=r3.fz 2
 have z3:=r3.fz 3
 have z4:=r3.fz 4
 have z5:=r3.fz 5
 have z6:=r3.fz 6
 have e0:=r3.c
 have G3:=Lib.hid (grown_trans (grown_trans g1 g2) g3)
 have BL:=Lib.hid (show w.heap.size≤b3 by rw [← hb3];have:=g1.size;have:=g2.size;omega)
 clear g1 k1 g2 s2 g3 r3
 unfold tabV syV syArr
 obtain ⟨nm,sec,value,weak⟩:=y
 simp only [] at y0 y1 y2 y3 hw2 ⊢
 by_cases h0:sec=0
 ·subst h0
  have E:=Lib.hid (show (symEx low (nm,⟨0,value,weak⟩)).2=⟨2,weak,value,0,0,[]⟩ from rfl)
  have F:=Lib.hid (R3.out.put (strOfNums nm) ⟨2,weak,value,0,0,[]⟩)
  rw [E.out]
  clear R3
  go_enter Tryz.func199,Tryz.ntmps199
  go_upto_region 1 with fail
  clear hw1 hb1 hw2 hb2 hw3 hb3
  go_wp2
  refine bodyPost_ret (results_ex rfl rfl F.out) rfl ?_
  exact ⟨rfl,grown_opt G3.out (grown_put7 (grown_refl w3 (some b3)) _ _ _ _ _ _ _) (fun g e=>by injection e with e;have:=BL.out;omega)⟩
 ·have d0:(sec == 0)=false:=by simp;exact h0
  have hm:IntKind.u64.wrap (value - low)=(value - low) % 18446744073709551616:=IntKind.wrap_u64 _
  obtain ⟨u,hu⟩:∃ u,u=(value - low) % 18446744073709551616:=⟨_,rfl⟩
  rw [← hu] at hm
  have E:=Lib.hid (show (symEx low (nm,⟨sec,value,weak⟩)).2=⟨1,weak,u,0,0,[]⟩ from by
   unfold symEx
   simp only []
   rw [if_neg h0,hu])
  have F:=Lib.hid (R3.out.put (strOfNums nm) ⟨1,weak,u,0,0,[]⟩)
  rw [E.out]
  clear R3 hu h0
  go_enter Tryz.func199,Tryz.ntmps199
  go_upto_region 1 with fail
  clear hw1 hb1 hw2 hb2 hw3 hb3
  go_wp2
  refine bodyPost_ret (results_ex rfl rfl F.out) rfl ?_
  exact ⟨rfl,grown_opt G3.out (grown_put7 (grown_refl w3 (some b3)) _ _ _ _ _ _ _) (fun g e=>by injection e with e;have:=BL.out;omega)⟩
structure ExsO (w w':World) (R:Int × Out) (e:Ending):Prop where
 ex:∃ (q:Option Addr) (c:Nat),e=.returned (.tuple #[.slice q R.2.length c,.int .i64 R.1])∧RowEx w' q R.2∧R.2.length≤c∧c≤9223372036854775807
 grown:w.grownBy w' none
theorem ExsO.none {R:Int × Out} {E:Int} (hR:R=(E,[])) (hg:w.grownBy w' Option.none):ExsO w w' R (.returned (.tuple #[.slice Option.none 0 0,.int .i64 E])):=by
 subst hR
 exact ⟨⟨_,_,rfl,RowEx.nil,Nat.le_refl _,by decide⟩,hg⟩
def tabRaw (t ys:List Int) (n low:Int):Int × Out:=((nlAll t ys n).1,srtN ((nlAll t ys n).2.map (symEx low)))
theorem tabRaw_err {t ys:List Int} {n low:Int} (h:(nlAll t ys n).1≠0):tabRaw t ys n low=((nlAll t ys n).1,[]):=by
 unfold tabRaw
 rw [nlAll_err h]
 simp [srtN]
structure TaL (w2 wr:World) (D:Syms) (low:Int) (n:Nat) (v6 v24:Value):Prop where
 ex:∃ (k:Nat) (q:Option Addr) (c:Nat),k≤n∧v24=.int .i64 (k:Int)∧v6=.slice q k c∧wr.ownsRow w2.heap.size 28 7 (.slice q k c) k (((D.take k).map (symEx low)).flatMap outCs)
 grown:w2.grownBy wr none
theorem sym_take {D:Syms} {k:Nat} {y:Sym} {low:Int} (h:D[k]?=some y):((D.take (k + 1)).map (symEx low)).flatMap outCs=((D.take k).map (symEx low)).flatMap outCs ++ exCs (strOfNums y.1) (symEx low y).2:=by
 obtain ⟨hk,rfl⟩:=List.getElem?_eq_some_iff.1 h
 rw [List.take_succ_eq_append_getElem hk,List.map_append,List.flatMap_append]
 simp [outCs,symEx]
set_option maxRecDepth 20000 in
set_option maxHeartbeats 3200000 in
theorem tabAll_any {q q2:Option Addr} {c c2 L N:Nat} {t ys:List Int} {n low:Int} (hb:IsBytes w q c t) (hL:t.length=L) (hbigL:L≤140737488355328) (hc:L≤c) (hcm:c≤9223372036854775807) (ht:Byt t)
  (hb2:IsBytes w q2 c2 ys) (hN:ys.length=N) (hbig:N≤140737488355328) (hy:Byt ys) :
  Calls Tryz.prog 196 #[tabV (.slice q L c) (.slice q2 N c2) n low] w fun e w'=>ExsO w w' (tabRaw t ys n low) e:=by
 have g1:=grown1 w (.cells #[.slice q L c,.slice q2 N c2,.int .i64 n,.int .u64 low] 169)
 have k1:=heap_alloc_new w (.cells #[.slice q L c,.slice q2 N c2,.int .i64 n,.int .u64 low] 169)
 obtain ⟨w1,hw1⟩:∃ W,w.alloc (.cells #[.slice q L c,.slice q2 N c2,.int .i64 n,.int .u64 low] 169)=W:=⟨_,rfl⟩
 obtain ⟨b1,hb1⟩:∃ b,w.heap.size=b:=⟨_,rfl⟩
 rw [hw1] at g1 k1
 rw [hb1] at k1
 have AL:=Lib.hid (allP_any (n:=n) (hb.kept g1 (by simp)) hL hbigL hc hcm ht (hb2.kept g1 (by simp)) hN hbig hy)
 have OK:=Lib.hid (nlAll_ok (n:=n) ht hy)
 have KC:=Lib.hid (fun (V:World) (hg:w1.grownBy V none)=>And.intro (grown_cell hg (show w1.cell? ⟨b1,0,none⟩=some (.slice q L c) by rw [cell_of k1];rfl)) (And.intro (grown_cell hg (show w1.cell? ⟨b1,1,none⟩=some (.slice q2 N c2) by rw [cell_of k1];rfl)) (And.intro (grown_cell hg (show w1.cell? ⟨b1,2,none⟩=some (.int .i64 n) by rw [cell_of k1];rfl)) (And.intro (grown_cell hg (show w1.cell? ⟨b1,3,none⟩=some (.int .u64 low) by rw [cell_of k1];rfl)) (Nat.lt_of_lt_of_le (lt_of_block k1) hg.size)))))
 have ERR:=Lib.hid (fun h=>tabRaw_err (t:=t) (ys:=ys) (n:=n) (low:=low) h)
 have TR:=Lib.hid (show tabRaw t ys n low=((nlAll t ys n).1,srtN ((nlAll t ys n).2.map (symEx low))) from rfl)
 generalize tabRaw t ys n low=TRv at *
 obtain ⟨⟨E,D⟩,hR⟩:∃ R,R=nlAll t ys n:=⟨_,rfl⟩
 rw [← hR] at AL OK ERR TR
 simp only [] at OK ERR TR
 have G1:=Lib.hid g1
 obtain ⟨c0,c1,c2',c3,l1⟩:=KC.out w1 (grown_refl _ _)
 clear hb hb2 ht hy g1 k1 hR
 unfold tabV
 go_enter Tryz.func196,Tryz.ntmps196
 go_upto_region 1 with fail
 clear hw1 hb1
 go_wp2_with fail
 refine AL.out.mono ?_
 rintro e w2 ⟨⟨ql,cl,rfl,hD,hlc,hlm⟩,hbel⟩
 have hg2:=grown_below hbel none
 have G2:=Lib.hid (grown_trans G1.out hg2)
 have G12:=Lib.hid hg2
 simp only [] at hD hlc ⊢
 by_cases hE:E=0
 ·subst hE
  have HD:=Lib.hid hD
  have few:=OK.out.few
  obtain ⟨c0,c1,c2',c3,l1⟩:=KC.out w2 hg2
  obtain ⟨M,hM⟩:∃ M,M=D.length:=⟨_,rfl⟩
  rw [← hM] at few hlc ⊢
  have HM:=Lib.hid hM.symm
  have ST:=Lib.hid (show TaL w2 w2 D low M (.slice none 0 0) (.int .i64 0) from ⟨⟨0,none,0,Nat.zero_le _,rfl,rfl,World.ownsRow_nil _ _ _ _⟩,grown_refl _ _⟩)
  clear hD hbel hg2 hM
  go_wp2
  go_loopw [6,24] (fun v6 v24 wr=>TaL w2 wr D low M v6 v24) (fun _ v24 _=>M - (intOf v24).toNat)
  case atStart=>exact ST.out
  case round =>
    obtain ⟨⟨k,q6,c6,hk,rfl,rfl,ho⟩,hg⟩:=hrel
    have GX:=Lib.hid hg
    by_cases hlt:k < M
    ·obtain ⟨y,hy⟩:∃ y,D[k]?=some y:=⟨_,List.getElem?_eq_getElem (by rw [HM.out];exact hlt)⟩
     obtain ⟨gq,oq,rfl,a0,a1,a2,a3⟩:=(HD.out.grown hg).at hy
     obtain ⟨c0,c1,c2',c3,l1⟩:=KC.out wr (grown_trans G12.out hg)
     have TK:=Lib.hid (sym_take (low:=low) hy)
     have dl:decide ((k:Int) < (M:Int))=true:=by simp;omega
     have hkI:(k:Int) < (M:Int):=by omega
     have s3:=SyAt.new wr (strOfNums y.1) y.2
     have g3:=grown1 wr (.cells #[.string (strOfNums y.1),.int .i64 y.2.sec,.int .u64 y.2.value,.bool y.2.weak] 95)
     obtain ⟨w3,hw3⟩:∃ W,W=wr.alloc (.cells #[.string (strOfNums y.1),.int .i64 y.2.sec,.int .u64 y.2.value,.bool y.2.weak] 95):=⟨_,rfl⟩
     obtain ⟨X,hX⟩:∃ X,X=wr.heap.size:=⟨_,rfl⟩
     rw [← hw3] at s3 g3
     rw [← hX] at s3
     have HW3:=Lib.hid hw3.symm
     have HX:=Lib.hid hX.symm
     have O3:=Lib.hid (own_grown ho g3)
     have G3:=Lib.hid (grown_trans hg g3)
     have S3:=Lib.hid s3
     have EXP:=Lib.hid (fun V=>tabExport_any (.slice q L c) (.slice q2 N c2) n low y V)
     obtain ⟨x,hx⟩:∃ x,x=(symEx low y).2:=⟨_,rfl⟩
     rw [← hx] at EXP TK
     unfold tabV syV syArr exV exArr at EXP
     clear ho hg hy g3 hw3 hX hx s3
     go_upto_region 8 with fail
     rw [HW3.out,HX.out]
     obtain ⟨c0,c1,c2',c3,l1⟩:=KC.out w3 (grown_trans G12.out G3.out)
     obtain ⟨d0,d1,d2,d3⟩:=S3.out.c
     have d4:=S3.out.lt
     clear a0 a1 a2 a3 HW3 HX
     go_wp2_with fail
     refine (EXP.out _).mono ?_
     rintro e w4 ⟨rfl,hg4⟩
     have g5:=grown1 w4 (.cells #[.string (strOfNums y.1),.int .i64 x.kind,.bool x.weak,.int .u64 x.value,.int .u64 x.resolver,.int .u64 x.ordinal,.string (strOfNums x.other)] 28)
     have O5:=Lib.hid (own_grown O3.out (grown_trans hg4 g5))
     have G5:=Lib.hid (grown_trans G3.out (grown_trans hg4 g5))
     have N5:=Lib.hid (heap_alloc_new w4 (.cells #[.string (strOfNums y.1),.int .i64 x.kind,.bool x.weak,.int .u64 x.value,.int .u64 x.resolver,.int .u64 x.ordinal,.string (strOfNums x.other)] 28))
     clear hg4 g5 O3 S3
     go_wp2_with (at_builtin;refine wp_append_sta exType rfl _ _ rfl _ k _ rfl O5.out [.string (strOfNums y.1),.int .i64 x.kind,.bool x.weak,.int .u64 x.value,.int .u64 x.resolver,.int .u64 x.ordinal,.string (strOfNums x.other)] rfl w4.heap.size rfl N5.out (exCs_one (strOfNums y.1) x) (by omega) (by decide) G5.out.size ?_)
     intro v6 w6 ho6 hg6 hv6
     obtain ⟨q7,c7,rfl⟩:=own_slice ho6
     have G6:=Lib.hid (grown_opt G5.out hg6 (fun g e=>(O5.out.lt g e).1))
     have O6:=Lib.hid (show w6.ownsRow w2.heap.size 28 7 (.slice q7 (k + 1) c7) (k + 1) (((D.take (k + 1)).map (symEx low)).flatMap outCs) from by rw [TK.out,List.map_take];exact ho6)
     clear ho6 hg6 hv6 O5 N5
     go_wp2
     go_roundw
     case rel=>exact ⟨⟨k + 1,q7,c7,hlt,by go_num,rfl,O6.out⟩,G6.out⟩
     case measure=>simp [intOf];omega
    ·have hkm:M=k:=by omega
     subst hkm
     have dl:decide ((M:Int) < (M:Int))=false:=by simp
     have hfull:D.take M=D:=by rw [← HM.out,List.take_length]
     rw [hfull] at ho
     have SO:=Lib.hid (sortX_any (W:=wr) (out:=D.map (symEx low)) (by rw [List.length_map,HM.out]) (by omega) ho)
     have LO:=Lib.hid (fun g e=>(ho.lt g e).1)
     have CP:=Lib.hid (And.intro (own_room8 ho) (own_max ho))
     clear ho hg hfull
     go_wp2_with fail
     refine SO.out.mono ?_
     rintro e w7 ⟨rfl,⟨S,hp,hs,hr⟩,hg7⟩
     have G7:=grown_opt (grown_trans G2.out GX.out) hg7 (fun g e=>by have:=LO.out g e;have:=G2.out.size;omega)
     have SE:=srtN_one (D:=D.map (symEx low)) (R:=S) (fun y hy=>by
      obtain ⟨z,hz,rfl⟩:=List.mem_map.1 hy
      exact (OK.out.each z hz).1) (by
      rw [List.pairwise_map]
      exact OK.out.apart) hs hp
     subst SE
     have F:=Lib.hid (show ExsO w w7 TRv (.returned (.tuple #[.slice q6 M c6,.int .i64 0])) from by
      rw [TR.out]
      exact ⟨⟨q6,c6,by simp only [];rw [srtN_len,List.length_map,HM.out],hr,by rw [srtN_len,List.length_map,HM.out];exact CP.out.1,CP.out.2⟩,G7⟩)
     clear hp hs hr hg7 G7
     go_wp2
     go_ret2
     exact F.out
 ·have dE:(E != 0)=true:=by simpa using hE
  have F:=Lib.hid (ExsO.none (ERR.out hE) G2.out)
  clear hD hbel hg2 hE
  go_wp2
  go_ret2
  exact F.out
end Go.Proofs.YtkmbkpoclhbmgaaGreat
namespace Go.Proofs.YtkmbkpoclhbmgaaGreat
open Go.RowKit Go.Sort
variable {w w' W V:World}
structure FiO (w w':World) (t:List Int) (R:Int × Option Ex) (e:Ending):Prop where
 ret:e=.returned (.tuple #[exV (nmOf (strOfNums t) R.2) (exOf R.2),.bool R.2.isSome,.int .i64 R.1])
 grown:w.grownBy w' none
theorem new_ex (w:World):ExAt (w.alloc (.cells #[.string ⟨#[]⟩,.int .i64 0,.bool false,.int .u64 0,.int .u64 0,.int .u64 0,.string ⟨#[]⟩] 28)) w.heap.size ⟨#[]⟩ Ex.zero:=heap_alloc_new w _
set_option maxRecDepth 20000 in
theorem namesAll_any {q:Option Addr} {c n:Nat} {xs:List Int} (h:IsBytes w q c xs) (hn:xs.length=n) (hb:Byt xs) (hc:n≤c) (hcm:c≤9223372036854775807) (hbig:n≤140737488355328) :
  Calls Tryz.prog 188 #[.slice q n c] w fun e w'=>ExsO w w' ((allN xs).2,srtN (allN xs).1) e:=by
 have AL:=Lib.hid (All_any (w:=w) h hn hb hc hcm hbig)
 have HB:=Lib.hid hb
 clear h hb
 go_enter Tryz.func188,Tryz.ntmps188
 go_wp2_with fail
 refine AL.out.mono ?_
 rintro e w2 ⟨⟨D,q2,c2,rfl,hr,hs,hp,hlc,hlm⟩,hg⟩
 have E:=all_srt HB.out hs hp
 have F:=Lib.hid (show ExsO w w2 ((allN xs).2,srtN (allN xs).1) (.returned (.tuple #[.slice q2 D.length c2,.int .i64 (allN xs).2])) from by
  rw [← E]
  exact ⟨⟨q2,c2,rfl,hr,hlc,hlm⟩,hg⟩)
 clear hr hs hp hlc hlm hg E
 go_wp2
 go_ret2
 exact F.out
set_option maxRecDepth 20000 in
theorem nothingAll_any (w:World):Calls Tryz.prog 206 #[.agg #[]] w fun e w'=>ExsO w w' (0,[]) e:=by
 have g1:=grown1 w (.cells #[] 171)
 have F:=Lib.hid (ExsO.none (R:=(0,[])) rfl g1)
 clear g1
 go_enter Tryz.func206,Tryz.ntmps206
 go_wp2
 go_ret2
 exact F.out
set_option maxRecDepth 20000 in
theorem namesFind_any {q:Option Addr} {c n:Nat} {xs:List Int} (h:IsBytes w q c xs) (hn:xs.length=n) (hb:Byt xs) (hc:n≤c) (hcm:c≤9223372036854775807) (hbig:n≤140737488355328) (t:List Int) (ht:Byt t) (htl:t.length≤9223372036854775807) :
  Calls Tryz.prog 189 #[.slice q n c,.string (strOfNums t)] w fun e w'=>FiO w w' t (findW xs t) e:=by
 have g1:=grown1 w (.cells #[.string ⟨#[]⟩,.int .i64 0,.bool false,.int .u64 0,.int .u64 0,.int .u64 0,.string ⟨#[]⟩] 28)
 have r1:=new_ex w
 obtain ⟨w1,hw1⟩:∃ W,w.alloc (.cells #[.string ⟨#[]⟩,.int .i64 0,.bool false,.int .u64 0,.int .u64 0,.int .u64 0,.string ⟨#[]⟩] 28)=W:=⟨_,rfl⟩
 obtain ⟨b1,hb1⟩:∃ b,w.heap.size=b:=⟨_,rfl⟩
 rw [hw1] at g1 r1
 rw [hb1] at r1
 have FI:=Lib.hid (Find_any (w:=w1) (h.kept g1 (by simp)) hn hb hc hcm hbig t ht htl)
 have R1:=Lib.hid r1
 have G1:=Lib.hid g1
 have BL:=Lib.hid (show w.heap.size≤b1 by omega)
 clear h hb ht g1 r1
 go_enter Tryz.func189,Tryz.ntmps189
 go_upto_region 1 with fail
 clear hw1 hb1
 go_wp2_with fail
 refine FI.out.mono ?_
 rintro e w2 ⟨rfl,hg⟩
 have r2:=R1.out.kept hg (by simp)
 have G2:=Lib.hid (grown_trans G1.out hg)
 obtain ⟨⟨E,o⟩,hR⟩:∃ R,R=findW xs t:=⟨_,rfl⟩
 rw [← hR]
 simp only []
 obtain ⟨nm,hnm⟩:∃ nm,nm=nmOf (strOfNums t) o:=⟨_,rfl⟩
 obtain ⟨x,hx⟩:∃ x,x=exOf o:=⟨_,rfl⟩
 rw [← hnm,← hx]
 have HNX:=Lib.hid (And.intro hnm hx)
 have HR:=Lib.hid hR
 have R3:=Lib.hid (r2.put nm x)
 have z0:=r2.fz 0
 have z1:=r2.fz 1
 have z2:=r2.fz 2
 have z3:=r2.fz 3
 have z4:=r2.fz 4
 have z5:=r2.fz 5
 have z6:=r2.fz 6
 have e0:=r2.c
 have l2:=r2.lt
 clear hg hR hnm hx r2
 unfold exV exArr
 go_wp2
 refine bodyPost_ret (results_ex3 rfl rfl rfl rfl R3.out) rfl ?_
 exact ⟨by rw [← HR.out];simp only [];rw [← HNX.out.1,← HNX.out.2];rfl,grown_opt G2.out (grown_put7 (grown_refl w2 (some b1)) _ _ _ _ _ _ _) (fun g e=>by injection e with e;have:=BL.out;omega)⟩
set_option maxRecDepth 20000 in
theorem nothingFind_any (t:List Int) (w:World):Calls Tryz.prog 207 #[.agg #[],.string (strOfNums t)] w fun e w'=>FiO w w' t (0,none) e:=by
 have g1:=grown1 w (.cells #[] 171)
 obtain ⟨w1,hw1⟩:∃ W,w.alloc (.cells #[] 171)=W:=⟨_,rfl⟩
 rw [hw1] at g1
 have g2:=grown1 w1 (.cells #[.string ⟨#[]⟩,.int .i64 0,.bool false,.int .u64 0,.int .u64 0,.int .u64 0,.string ⟨#[]⟩] 28)
 have r1:=new_ex w1
 obtain ⟨w2,hw2⟩:∃ W,w1.alloc (.cells #[.string ⟨#[]⟩,.int .i64 0,.bool false,.int .u64 0,.int .u64 0,.int .u64 0,.string ⟨#[]⟩] 28)=W:=⟨_,rfl⟩
 obtain ⟨b1,hb1⟩:∃ b,w1.heap.size=b:=⟨_,rfl⟩
 rw [hw2] at g2 r1
 rw [hb1] at r1
 have R1:=Lib.hid (r1.put ⟨#[]⟩ Ex.zero)
 have G2:=Lib.hid (grown_trans g1 g2)
 have BL:=Lib.hid (show w.heap.size≤b1 by have:=g1.size;omega)
 have z0:=r1.fz 0
 have z1:=r1.fz 1
 have z2:=r1.fz 2
 have z3:=r1.fz 3
 have z4:=r1.fz 4
 have z5:=r1.fz 5
 have z6:=r1.fz 6
 have e0:=r1.c
 have l2:=r1.lt
 clear g1 g2 r1
 go_enter Tryz.func207,Tryz.ntmps207
 go_upto_region 1 with fail
 clear hw1 hw2 hb1
 go_wp2
 refine bodyPost_ret (results_ex3 rfl rfl rfl rfl R1.out) rfl ?_
 exact ⟨rfl,grown_opt G2.out (grown_put7 (grown_refl w2 (some b1)) _ _ _ _ _ _ _) (fun g e=>by injection e with e;have:=BL.out;omega)⟩
def tabRawF (t ys:List Int) (n low:Int) (s:List Int):Int × Option Ex:=((nlAll t ys n).1,(Named s ((nlAll t ys n).2.map (symEx low))).map (·.2))
theorem named_sym {D:Syms} {low:Int} {s:List Int}:(∀ y,y∈D→y.1=s→(D.Pairwise fun a b=>a.1≠b.1)→Named s (D.map (symEx low))=some (symEx low y))∧(nlHas D s=false→Named s (D.map (symEx low))=none):=by
 constructor
 ·intro y hy hs hd
  unfold Named
  induction D with
  | nil=>cases hy
  | cons z D ih =>
   rw [List.map_cons,List.find?_cons]
   rcases List.mem_cons.1 hy with e | e
   ·subst e
    have:decide ((symEx low y).1=s)=true:=decide_eq_true hs
    rw [this]
   ·have hne:(symEx low z).1≠s:=fun h=>(List.pairwise_cons.1 hd).1 y e (by rw [hs];exact h)
    rw [show decide ((symEx low z).1=s)=false by simpa using hne]
    exact ih e (List.pairwise_cons.1 hd).2
 ·intro h
  unfold Named
  rw [List.find?_eq_none]
  intro x hx
  obtain ⟨z,hz,rfl⟩:=List.mem_map.1 hx
  simp only [decide_eq_true_eq]
  intro e
  have:nlHas D s=true:=nlHas_mem.2 ⟨z,hz,e⟩
  rw [this] at h
  cases h
set_option maxRecDepth 20000 in
set_option maxHeartbeats 1600000 in
theorem tabFind_any {q q2:Option Addr} {c c2 L N:Nat} {t ys:List Int} {n low:Int} (hb:IsBytes w q c t) (hL:t.length=L) (hbigL:L≤140737488355328) (hc:L≤c) (hcm:c≤9223372036854775807) (ht:Byt t)
  (hb2:IsBytes w q2 c2 ys) (hN:ys.length=N) (hbig:N≤140737488355328) (hy:Byt ys) {s:List Int} (hs:Byt s) :
  Calls Tryz.prog 197 #[tabV (.slice q L c) (.slice q2 N c2) n low,.string (strOfNums s)] w fun e w'=>FiO w w' s (tabRawF t ys n low s) e:=by
 have g1:=grown1 w (.cells #[.slice q L c,.slice q2 N c2,.int .i64 n,.int .u64 low] 169)
 have k1:=heap_alloc_new w (.cells #[.slice q L c,.slice q2 N c2,.int .i64 n,.int .u64 low] 169)
 obtain ⟨w1,hw1⟩:∃ W,w.alloc (.cells #[.slice q L c,.slice q2 N c2,.int .i64 n,.int .u64 low] 169)=W:=⟨_,rfl⟩
 obtain ⟨b1,hb1⟩:∃ b,w.heap.size=b:=⟨_,rfl⟩
 rw [hw1] at g1 k1
 rw [hb1] at k1
 have g2:=grown1 w1 (.cells #[.string ⟨#[]⟩,.int .i64 0,.bool false,.int .u64 0,.int .u64 0,.int .u64 0,.string ⟨#[]⟩] 28)
 have r2:=new_ex w1
 obtain ⟨w2,hw2⟩:∃ W,w1.alloc (.cells #[.string ⟨#[]⟩,.int .i64 0,.bool false,.int .u64 0,.int .u64 0,.int .u64 0,.string ⟨#[]⟩] 28)=W:=⟨_,rfl⟩
 obtain ⟨b2,hb2'⟩:∃ b,w1.heap.size=b:=⟨_,rfl⟩
 rw [hw2] at g2 r2
 rw [hb2'] at r2
 have FI:=Lib.hid (Find10_any (n:=n) ((hb.kept g1 (by simp)).kept g2 (by simp)) hL hbigL hc hcm ht ((hb2.kept g1 (by simp)).kept g2 (by simp)) hN hbig hy hs)
 have OK:=Lib.hid (nlAll_ok (n:=n) ht hy)
 have KC:=Lib.hid (fun (V:World) (hg:w2.grownBy V none)=>And.intro (grown_cell hg (grown_cell g2 (show w1.cell? ⟨b1,0,none⟩=some (.slice q L c) by rw [cell_of k1];rfl))) (And.intro (grown_cell hg (grown_cell g2 (show w1.cell? ⟨b1,1,none⟩=some (.slice q2 N c2) by rw [cell_of k1];rfl))) (And.intro (grown_cell hg (grown_cell g2 (show w1.cell? ⟨b1,2,none⟩=some (.int .i64 n) by rw [cell_of k1];rfl))) (And.intro (grown_cell hg (grown_cell g2 (show w1.cell? ⟨b1,3,none⟩=some (.int .u64 low) by rw [cell_of k1];rfl))) (show b1 < V.heap.size by have:=lt_of_block k1;have:=g2.size;have:=hg.size;omega)))))
 have TR:=Lib.hid (show tabRawF t ys n low s=((nlAll t ys n).1,(Named s ((nlAll t ys n).2.map (symEx low))).map (·.2)) from rfl)
 have ERR:=Lib.hid (fun h=>nlAll_err (t:=t) (ys:=ys) (n:=n) h)
 generalize tabRawF t ys n low s=TRv at *
 obtain ⟨⟨E,D⟩,hR⟩:∃ R,R=nlAll t ys n:=⟨_,rfl⟩
 rw [← hR] at FI OK TR ERR
 simp only [] at OK TR ERR
 have R2:=Lib.hid r2
 have G2:=Lib.hid (grown_trans g1 g2)
 have BL:=Lib.hid (show w.heap.size≤b2 by have:=g1.size;omega)
 obtain ⟨c0,c1,c2',c3,l1⟩:=KC.out w2 (grown_refl _ _)
 clear hb hb2 ht hy hs g1 k1 g2 r2 hR
 unfold tabV
 go_enter Tryz.func197,Tryz.ntmps197
 go_upto_region 1 with fail
 clear hw1 hb1 hw2 hb2'
 go_wp2_with fail
 refine FI.out.mono ?_
 rintro e w3 ⟨⟨y,rfl,hyes,hno⟩,hg⟩
 simp only [] at hyes hno ⊢
 obtain ⟨hs',hhs⟩:∃ b,b=nlHas D s:=⟨_,rfl⟩
 rw [← hhs] at hyes hno ⊢
 have HHS:=Lib.hid hhs
 have YES:=Lib.hid hyes
 have NO:=Lib.hid hno
 obtain ⟨c0,c1,c2',c3,l1⟩:=KC.out w3 hg
 have G3:=Lib.hid (grown_trans G2.out hg)
 have G23:=Lib.hid hg
 have r3:=R2.out.kept hg (by simp)
 have g4:=grown1 w3 (.cells #[.string (strOfNums y.1),.int .i64 y.2.sec,.int .u64 y.2.value,.bool y.2.weak] 95)
 have s4:=SyAt.new w3 (strOfNums y.1) y.2
 obtain ⟨w4,hw4⟩:∃ W,W=w3.alloc (.cells #[.string (strOfNums y.1),.int .i64 y.2.sec,.int .u64 y.2.value,.bool y.2.weak] 95):=⟨_,rfl⟩
 obtain ⟨X,hX⟩:∃ X,X=w3.heap.size:=⟨_,rfl⟩
 rw [← hw4] at g4 s4
 rw [← hX] at s4
 have HW4:=Lib.hid hw4.symm
 have HX:=Lib.hid hX.symm
 have S4:=Lib.hid s4
 have R4:=Lib.hid (r3.kept g4 (by simp))
 have G4:=Lib.hid (grown_trans G3.out g4)
 have G24:=Lib.hid (grown_trans hg g4)
 clear hyes hno hhs hg r3 g4 s4 hw4 hX
 unfold syV syArr
 by_cases hE:E=0
 ·subst hE
  cases hs'
  · have F:=Lib.hid (show TRv=(0,none) from by rw [TR.out,named_sym.2 HHS.out.symm];rfl)
    go_upto_region 2 with fail
    rw [HW4.out,HX.out]
    have z0:=R4.out.fz 0
    have z1:=R4.out.fz 1
    have z2:=R4.out.fz 2
    have z3:=R4.out.fz 3
    have z4:=R4.out.fz 4
    have z5:=R4.out.fz 5
    have z6:=R4.out.fz 6
    have e0:=R4.out.c
    have l4:=R4.out.lt
    have R5:=Lib.hid (R4.out.put ⟨#[]⟩ Ex.zero)
    clear c0 c1 c2' c3 l1
    go_wp2
    refine bodyPost_ret (results_ex3 rfl rfl rfl rfl R5.out) rfl ?_
    exact ⟨by rw [F.out];rfl,grown_opt G4.out (grown_put7 (grown_refl w4 (some b2)) _ _ _ _ _ _ _) (fun g e=>by injection e with e;have:=BL.out;omega)⟩
  · have hy2:=YES.out rfl
    have F:=Lib.hid (show TRv=(0,some (symEx low y).2) from by rw [TR.out,named_sym.1 y hy2.1 hy2.2 OK.out.apart];rfl)
    have NMS:=Lib.hid hy2.2
    clear hy2
    go_upto_region 2 with fail
    rw [HW4.out,HX.out]
    obtain ⟨c0,c1,c2',c3,l1⟩:=KC.out w4 G24.out
    obtain ⟨d0,d1,d2,d3⟩:=S4.out.c
    have d4:=S4.out.lt
    have EXP:=Lib.hid (fun V=>tabExport_any (.slice q L c) (.slice q2 N c2) n low y V)
    obtain ⟨x,hx⟩:∃ x,x=(symEx low y).2:=⟨_,rfl⟩
    rw [← hx] at EXP F
    unfold tabV syV syArr exV exArr at EXP
    clear hx HW4 HX
    go_wp2_with fail
    refine (EXP.out _).mono ?_
    rintro e w5 ⟨rfl,hg5⟩
    have r5:=R4.out.kept hg5 (by simp)
    have z0:=r5.fz 0
    have z1:=r5.fz 1
    have z2:=r5.fz 2
    have z3:=r5.fz 3
    have z4:=r5.fz 4
    have z5:=r5.fz 5
    have z6:=r5.fz 6
    have e0:=r5.c
    have l5:=r5.lt
    have R6:=Lib.hid (r5.put (strOfNums y.1) x)
    have G5:=Lib.hid (grown_trans G4.out hg5)
    clear c0 c1 c2' c3 l1 d0 d1 d2 d3 d4 r5 hg5
    go_wp2
    refine bodyPost_ret (results_ex3 rfl rfl rfl rfl R6.out) rfl ?_
    exact ⟨by rw [F.out,← NMS.out];rfl,grown_opt G5.out (grown_put7 (grown_refl w5 (some b2)) _ _ _ _ _ _ _) (fun g e=>by injection e with e;have:=BL.out;omega)⟩
 ·have hD:D=[]:=ERR.out hE
  have F:=Lib.hid (show TRv=(E,none) from by rw [TR.out,hD];rfl)
  have dE:(E != 0)=true:=by simpa using hE
  clear hE hD
  go_upto_region 2 with fail
  rw [HW4.out,HX.out]
  have z0:=R4.out.fz 0
  have z1:=R4.out.fz 1
  have z2:=R4.out.fz 2
  have z3:=R4.out.fz 3
  have z4:=R4.out.fz 4
  have z5:=R4.out.fz 5
  have z6:=R4.out.fz 6
  have e0:=R4.out.c
  have l4:=R4.out.lt
  have R5:=Lib.hid (R4.out.put ⟨#[]⟩ Ex.zero)
  clear c0 c1 c2' c3 l1
  go_wp2
  refine bodyPost_ret (results_ex3 rfl rfl rfl rfl R5.out) rfl ?_
  exact ⟨by rw [F.out];rfl,grown_opt G4.out (grown_put7 (grown_refl w4 (some b2)) _ _ _ _ _ _ _) (fun g e=>by injection e with e;have:=BL.out;omega)⟩
end Go.Proofs.YtkmbkpoclhbmgaaGreat
namespace Go.Proofs.YtkmbkpoclhbmgaaGreat
open Go.RowKit Go.Sort
variable {w w' W V:World} {h:Hx} {s:St} {sv dv:Value}
theorem load_in {P:Program} {o:Oper} {ev:Operand→Value} {T:TypeId} {x:Operand} {ad:Addr} {v:Value} (ho:o.op=.load T x) (hx:ev x=.pointer (some ad)) (hl:(loadVar T ad).run P V=.ok v V):(execOp ev o).run P V=.ok (Next.value v) V:=by
 unfold execOp
 simp only [ho,hx,Instr.loadAt,Instr.sureAddr,Sem.run_bind,Sem.run_pure,Result.andThen_ok,hl]
structure OneB (w:World) (q:Option Addr) (c:Nat) (xs:List Int):Prop where
 b:IsBytes w q c xs
 le:xs.length≤c
 most:c≤9223372036854775807
theorem OneB.kept {q:Option Addr} {c:Nat} {xs:List Int} (h:OneB w q c xs) (hg:w.grownBy w' none):OneB w' q c xs:=⟨h.b.kept hg (by simp),h.le,h.most⟩
theorem own_bytes {base n c:Nat} {q:Option Addr} {xs:List Int} (h:w.ownsRow base 5 1 (.slice q n c) n (xs.map (Value.int .u8))) (hn:n=xs.length):OneB w q c xs:=by
 subst hn
 have:=own_cap h
 exact ⟨IsBytes.of_own rfl h,this.1,this.2⟩
inductive SrcIs (w':World) (ys:List Int) (s:St):Value→Prop
 | trie (q:Option Addr) (c:Nat) (h0 : 0 < s.tr.2) (hb:OneB w' q c (partN ys s.tr.1 s.tr.2)):SrcIs w' ys s (.iface 167 (.slice q (partN ys s.tr.1 s.tr.2).length c))
 | table (q q2:Option Addr) (c c2:Nat) (h0:¬ 0 < s.tr.2) (h1 : 0 < s.sy.2) (hb:OneB w' q c (partN ys s.sy.1 s.sy.2)) (hb2:OneB w' q2 c2 (partN ys s.st.1 s.st.2)) :
  SrcIs w' ys s (.iface 169 (tabV (.slice q (partN ys s.sy.1 s.sy.2).length c) (.slice q2 (partN ys s.st.1 s.st.2).length c2) (secN s.segs) (lowN s.segs)))
 | nothing (h0:¬ 0 < s.tr.2) (h1:¬ 0 < s.sy.2):SrcIs w' ys s (.iface 171 (.agg #[]))
structure SrcO (w w':World) (ys:List Int) (s:St) (e:Ending):Prop where
 ex:∃ v,e=.returned v∧SrcIs w' ys s v
 grown:w.grownBy w' none
theorem part_int {ys:List Int} {q:Option Addr} {c n:Nat} (h:IsBytes w q c ys) (hn:ys.length=n) (hc:n≤c) (hcm:c≤9223372036854775807) (h47:n≤140737488355328) {off sz:Int} (ho:U64 off) (hz:U64 sz) :
  Calls Tryz.prog 83 #[.slice q n c,.agg #[.int .u64 off,.int .u64 sz]] w fun e w'=>∃ V cc,e=.returned (.slice V (partN ys off sz).length cc)∧OneB w' V cc (partN ys off sz)∧w.grownBy w' none:=by
 subst hn
 obtain ⟨h1,h2⟩:=ho
 obtain ⟨h3,h4⟩:=hz
 obtain ⟨o,rfl⟩:∃ o:Nat,off=o:=⟨off.toNat,by omega⟩
 obtain ⟨z,rfl⟩:∃ z:Nat,sz=z:=⟨sz.toNat,by omega⟩
 refine (Part_any h hc hcm h47 o z (by omega) (by omega)).mono ?_
 rintro e w' ⟨V,cc,rfl,ho,hg⟩
 exact ⟨V,cc,rfl,own_bytes ho rfl,hg⟩
set_option maxRecDepth 20000 in
set_option maxHeartbeats 6400000 in
theorem sourceOf_any {ys:List Int} {q:Option Addr} {c n:Nat} (hb:IsBytes w q c ys) (hn:ys.length=n) (hc:n≤c) (hcm:c≤9223372036854775807) (h47:n≤140737488355328)
  {l:List Sg} {qs qd:Option Addr} {cs nd cd:Nat} (k:ImgRows w s l qs cs) (hsec:secN s.segs≤1000000000) (ht:U64 s.tr.1∧U64 s.tr.2) (hy:U64 s.sy.1∧U64 s.sy.2) (hs:U64 s.st.1∧U64 s.st.2) :
  Calls Tryz.prog 47 #[.slice q n c,imgV h s (.slice qs l.length cs) (.slice qd nd cd)] w fun e w'=>SrcO w w' ys s e:=by
 obtain ⟨N,hN⟩:∃ N,N=l.length:=⟨_,rfl⟩
 rw [← hN]
 have gB:=grown1 w (.cells (imgArr h s (.slice qs N cs) (.slice qd nd cd)) 48)
 have aA:ImgAt (w.alloc (.cells (imgArr h s (.slice qs N cs) (.slice qd nd cd)) 48)) w.heap.size h s (.slice qs N cs) (.slice qd nd cd):=heap_alloc_new w _
 obtain ⟨W,hW⟩:∃ W,w.alloc (.cells (imgArr h s (.slice qs N cs) (.slice qd nd cd)) 48)=W:=⟨_,rfl⟩
 obtain ⟨b,hb'⟩:∃ b,w.heap.size=b:=⟨_,rfl⟩
 rw [hW] at gB aA
 rw [hb'] at aA
 have PT:=Lib.hid (fun (V:World) (hg:W.grownBy V none)=>part_int ((hb.kept gB (by simp)).kept hg (by simp)) hn hc hcm h47 ht.1 ht.2)
 have PA:=Lib.hid (fun (V:World) (hg:W.grownBy V none)=>part_int ((hb.kept gB (by simp)).kept hg (by simp)) hn hc hcm h47 hy.1 hy.2)
 have PB:=Lib.hid (fun (V:World) (hg:W.grownBy V none)=>part_int ((hb.kept gB (by simp)).kept hg (by simp)) hn hc hcm h47 hs.1 hs.2)
 have SE:=Lib.hid (fun (V:World) (hg:W.grownBy V none)=>sectionsOf_any (h:=h) (dv:=.slice qd nd cd) ((k.grown gB).grown hg) hsec)
 have LO:=Lib.hid (fun (V:World) (hg:W.grownBy V none)=>Low_any (h:=h) (dv:=.slice qd nd cd) ((k.grown gB).grown hg))
 rw [← hN] at SE LO
 have KI:=Lib.hid (fun (V:World) (hg:W.grownBy V none)=>run_loadIm (aA.kept hg (by simp)))
 have KS:=Lib.hid (fun (V:World) (hg:W.grownBy V none)=>And.intro ((aA.kept hg (by simp)).c 18 (.int .u64 s.sy.1) rfl) (And.intro ((aA.kept hg (by simp)).c 19 (.int .u64 s.sy.2) rfl) (And.intro ((aA.kept hg (by simp)).c 20 (.int .u64 s.st.1) rfl) ((aA.kept hg (by simp)).c 21 (.int .u64 s.st.2) rfl))))
 have G:=Lib.hid gB
 have c14:=aA.c 14 (.int .u64 s.tr.1) rfl
 have c15:=aA.c 15 (.int .u64 s.tr.2) rfl
 have c18:=aA.c 18 (.int .u64 s.sy.1) rfl
 have c19:=aA.c 19 (.int .u64 s.sy.2) rfl
 have gl:=lt_of_block aA
 have TRI:=Lib.hid (fun h0 (V:World) q c hb (hg:W.grownBy V none)=>(⟨⟨_,rfl,SrcIs.trie q c h0 hb⟩,grown_trans G.out hg⟩:SrcO w V ys s _))
 have NOT:=Lib.hid (fun h0 h1 (V:World) (hg:W.grownBy V none)=>(⟨⟨_,rfl,SrcIs.nothing h0 h1⟩,grown_trans G.out hg⟩:SrcO w V ys s _))
 have TAB:=Lib.hid (fun h0 h1 (V:World) (hg:W.grownBy V none) q c q2 c2 hb hb2=>(⟨⟨_,rfl,SrcIs.table q q2 c c2 h0 h1 hb hb2⟩,grown_trans G.out hg⟩:SrcO w V ys s _))
 clear hb hn hc hcm h47 k hsec ht hy hs gB aA hN
 by_cases h0 : 0 < s.tr.2
 ·have d0:decide (0 < s.tr.2)=true:=decide_eq_true h0
  have TRI:=Lib.hid (TRI.out h0)
  clear h0 TAB NOT PA PB SE LO KI KS c18 c19
  obtain ⟨t1,ht1⟩:∃ t,t=s.tr.1:=⟨_,rfl⟩
  obtain ⟨t2,ht2⟩:∃ t,t=s.tr.2:=⟨_,rfl⟩
  rw [show imgV h s (.slice qs N cs) (.slice qd nd cd)=.agg (imgArr h s (.slice qs N cs) (.slice qd nd cd)) from rfl]
  unfold imgArr at hW ⊢
  go_enter Tryz.func47,Tryz.ntmps47
  go_upto_region 1 with fail
  clear hW hb'
  go_wp2_with fail
  refine (PT.out _ (grown_refl _ _)).mono ?_
  rintro e w2 ⟨V,cc,rfl,hb,hg⟩
  have F:=Lib.hid (TRI.out w2 V cc hb hg)
  clear hb hg
  go_wp2
  go_ret
  exact F.out
 have d0:decide (0 < s.tr.2)=false:=decide_eq_false h0
 by_cases h1 : 0 < s.sy.2
 ·have d1:decide (0 < s.sy.2)=true:=decide_eq_true h1
  have FIN:=Lib.hid (fun (V:World) V1 c1 V2 c2 (hg:W.grownBy V none) hb1 hb2=>TAB.out h0 h1 V hg V1 c1 V2 c2 hb1 hb2)
  obtain ⟨L1,hL1⟩:∃ L,L=(partN ys s.sy.1 s.sy.2).length:=⟨_,rfl⟩
  obtain ⟨L2,hL2⟩:∃ L,L=(partN ys s.st.1 s.st.2).length:=⟨_,rfl⟩
  obtain ⟨SN,hSN⟩:∃ n,n=secN s.segs:=⟨_,rfl⟩
  obtain ⟨LN,hLN⟩:∃ n,n=lowN s.segs:=⟨_,rfl⟩
  rw [← hL1] at PA
  rw [← hL2] at PB
  rw [← hSN] at SE
  rw [← hLN] at LO
  rw [← hL1,← hL2,← hSN,← hLN] at FIN
  unfold tabV at FIN
  have GD:=Lib.hid (show W.grownBy W.drew none from grown_drewN (grown_refl W none) 1)
  clear h0 h1 TRI NOT PT TAB hL1 hL2 hSN hLN c14
  rw [show imgV h s (.slice qs N cs) (.slice qd nd cd)=.agg (imgArr h s (.slice qs N cs) (.slice qd nd cd)) from rfl]
  unfold imgV at SE LO KI
  unfold imgArr at hW SE LO KI ⊢
  go_enter Tryz.func47,Tryz.ntmps47
  go_upto_region 1 with fail
  clear hW hb'
  go_upto_region 4 with fail
  clear c15 c18 c19
  refine wp_region_held_drew (S:=fun V=>W.grownBy V none) (by kernel_rfl) GD.out (fun hS=>?_)
  refine wpAnyH_take (i:=0) (oi:=⟨some 20,_,_,_,_,_⟩) (v:=Value.slice q n c) rfl (by kernel_rfl) (by kernel_rfl) (by kernel_rfl) (fun _ _ _ h=>h) (Or.inl ⟨by rfl,fun V hV=>?_⟩) hS ?_
  ·go_simp
  try simp only [Act.put,List.setIfInBounds_toArray,List.set_cons_zero,List.set_cons_succ]
  refine wpAnyH_take (i:=1) (oi:=⟨some 21,_,_,_,_,_⟩) (v:=Value.pointer (some ⟨b,18,none⟩)) rfl (by kernel_rfl) (by kernel_rfl) (by kernel_rfl) (fun _ _ _ h=>h) (Or.inl ⟨by rfl,fun V hV=>?_⟩) hS ?_
  ·go_simp
  try simp only [Act.put,List.setIfInBounds_toArray,List.set_cons_zero,List.set_cons_succ]
  refine wpAnyH_take (i:=2) (oi:=⟨some 22,_,_,_,_,_⟩) (v:=Value.agg #[.int .u64 s.sy.1,.int .u64 s.sy.2]) rfl (by kernel_rfl) (by kernel_rfl) (by kernel_rfl) (fun _ _ _ h=>h) (Or.inl ⟨by rfl,fun V hV=>?_⟩) hS ?_
  ·(obtain ⟨c0,c1,c2,c3⟩:=KS.out V hV;go_simp)
  try simp only [Act.put,List.setIfInBounds_toArray,List.set_cons_zero,List.set_cons_succ]
  refine wpAnyH_take (i:=4) (oi:=⟨some 24,_,_,_,_,_⟩) (v:=Value.slice q n c) rfl (by kernel_rfl) (by kernel_rfl) (by kernel_rfl) (fun _ _ _ h=>h) (Or.inl ⟨by rfl,fun V hV=>?_⟩) hS ?_
  ·go_simp
  try simp only [Act.put,List.setIfInBounds_toArray,List.set_cons_zero,List.set_cons_succ]
  refine wpAnyH_take (i:=5) (oi:=⟨some 25,_,_,_,_,_⟩) (v:=Value.pointer (some ⟨b,20,none⟩)) rfl (by kernel_rfl) (by kernel_rfl) (by kernel_rfl) (fun _ _ _ h=>h) (Or.inl ⟨by rfl,fun V hV=>?_⟩) hS ?_
  ·go_simp
  try simp only [Act.put,List.setIfInBounds_toArray,List.set_cons_zero,List.set_cons_succ]
  refine wpAnyH_take (i:=6) (oi:=⟨some 26,_,_,_,_,_⟩) (v:=Value.agg #[.int .u64 s.st.1,.int .u64 s.st.2]) rfl (by kernel_rfl) (by kernel_rfl) (by kernel_rfl) (fun _ _ _ h=>h) (Or.inl ⟨by rfl,fun V hV=>?_⟩) hS ?_
  ·(obtain ⟨c0,c1,c2,c3⟩:=KS.out V hV;go_simp)
  try simp only [Act.put,List.setIfInBounds_toArray,List.set_cons_zero,List.set_cons_succ]
  refine wpAnyH_take (i:=8) (oi:=⟨some 28,_,_,_,_,_⟩) (v:=Value.agg #[.int .i64 h.kd,.int .i64 h.sb,.int .u32 h.fl,.string (strOfNums s.name),.slice qs N cs,.slice qd nd cd,.int .u64 s.rb.1,.int .u64 s.rb.2,.int .u64 s.bd.1,.int .u64 s.bd.2,.int .u64 s.wk.1,.int .u64 s.wk.2,.int .u64 s.lz.1,.int .u64 s.lz.2,.int .u64 s.tr.1,.int .u64 s.tr.2,.int .u64 s.ch.1,.int .u64 s.ch.2,.int .u64 s.sy.1,.int .u64 s.sy.2,.int .u64 s.st.1,.int .u64 s.st.2,.int .u64 s.entry,.bool s.has]) rfl (by kernel_rfl) (by kernel_rfl) (by kernel_rfl) (fun _ _ _ h=>h) (Or.inl ⟨by rfl,fun V hV=>?_⟩) hS ?_
  ·(exact load_in rfl rfl (KI.out V hV))
  try simp only [Act.put,List.setIfInBounds_toArray,List.set_cons_zero,List.set_cons_succ]
  refine wpAnyH_take (i:=10) (oi:=⟨some 30,_,_,_,_,_⟩) (v:=Value.agg #[.int .i64 h.kd,.int .i64 h.sb,.int .u32 h.fl,.string (strOfNums s.name),.slice qs N cs,.slice qd nd cd,.int .u64 s.rb.1,.int .u64 s.rb.2,.int .u64 s.bd.1,.int .u64 s.bd.2,.int .u64 s.wk.1,.int .u64 s.wk.2,.int .u64 s.lz.1,.int .u64 s.lz.2,.int .u64 s.tr.1,.int .u64 s.tr.2,.int .u64 s.ch.1,.int .u64 s.ch.2,.int .u64 s.sy.1,.int .u64 s.sy.2,.int .u64 s.st.1,.int .u64 s.st.2,.int .u64 s.entry,.bool s.has]) rfl (by kernel_rfl) (by kernel_rfl) (by kernel_rfl) (fun _ _ _ h=>h) (Or.inl ⟨by rfl,fun V hV=>?_⟩) hS ?_
  ·(exact load_in rfl rfl (KI.out V hV))
  try simp only [Act.put,List.setIfInBounds_toArray,List.set_cons_zero,List.set_cons_succ]
  refine wpAnyH_ready (rs:=[3]) (by kernel_rfl) (by simp) ?_
  refine AllReadyH.cons (o:=⟨some 23,_,_,_,_,_⟩) rfl (fun K' hK'=>by
   go_simp
   go_at_call 83
   refine (PA.out _ hS).mono ?_
   rintro e w1 ⟨V1,c1,rfl,hb1,hg⟩
   have B1:=Lib.hid hb1
   have HG1:=Lib.hid hg
   have hS':=grown_trans hS hg
   refine hK'.out _ _ hS' (fun hS=>?_)
   clear hK' K' hS' hb1 hg
   try simp only [Act.put,List.setIfInBounds_toArray,List.set_cons_zero,List.set_cons_succ]
   refine wpAnyH_ready (rs:=[7]) (by kernel_rfl) (by simp) ?_
   refine AllReadyH.cons (o:=⟨some 27,_,_,_,_,_⟩) rfl (fun K' hK'=>by
    go_simp
    go_at_call 83
    refine (PB.out _ hS).mono ?_
    rintro e w2 ⟨V2,c2,rfl,hb2,hg⟩
    have B2:=Lib.hid hb2
    have HG2:=Lib.hid hg
    have hS':=grown_trans hS hg
    refine hK'.out _ _ hS' (fun hS=>?_)
    clear hK' K' hS' hb2 hg
    try simp only [Act.put,List.setIfInBounds_toArray,List.set_cons_zero,List.set_cons_succ]
    refine wpAnyH_ready (rs:=[9]) (by kernel_rfl) (by simp) ?_
    refine AllReadyH.cons (o:=⟨some 29,_,_,_,_,_⟩) rfl (fun K' hK'=>by
     go_simp
     go_at_call 84
     refine (SE.out _ hS).mono ?_
     rintro e w3 ⟨rfl,hg⟩
     have HG3:=Lib.hid hg
     have hS':=grown_trans hS hg
     refine hK'.out _ _ hS' (fun hS=>?_)
     clear hK' K' hS' hg
     try simp only [Act.put,List.setIfInBounds_toArray,List.set_cons_zero,List.set_cons_succ]
     refine wpAnyH_ready (rs:=[11]) (by kernel_rfl) (by simp) ?_
     refine AllReadyH.cons (o:=⟨some 31,_,_,_,_,_⟩) rfl (fun K' hK'=>by
      go_simp
      go_at_call 54
      refine (LO.out _ hS).mono ?_
      rintro e w4 ⟨rfl,hg⟩
      have HG4:=Lib.hid hg
      have hS':=grown_trans hS hg
      refine hK'.out _ _ hS' (fun hS=>?_)
      clear hK' K' hS' hg
      try simp only [Act.put,List.setIfInBounds_toArray,List.set_cons_zero,List.set_cons_succ]
      refine wpAnyH_take (i:=12) (oi:=⟨some 32,_,_,_,_,_⟩) (v:=Value.agg #[.slice V1 L1 c1,.slice V2 L2 c2,.int .i64 (SN:Int),.int .u64 LN]) rfl (by kernel_rfl) (by kernel_rfl) (by kernel_rfl) (fun _ _ _ h=>h) (Or.inl ⟨by rfl,fun V hV=>?_⟩) hS ?_
      ·go_simp
      try simp only [Act.put,List.setIfInBounds_toArray,List.set_cons_zero,List.set_cons_succ]
      refine wpAnyH_take (i:=13) (oi:=⟨some 33,_,_,_,_,_⟩) (v:=Value.iface 169 (Value.agg #[.slice V1 L1 c1,.slice V2 L2 c2,.int .i64 (SN:Int),.int .u64 LN])) rfl (by kernel_rfl) (by kernel_rfl) (by kernel_rfl) (fun _ _ _ h=>h) (Or.inl ⟨by rfl,fun V hV=>?_⟩) hS ?_
      ·go_simp
      try simp only [Act.put,List.setIfInBounds_toArray,List.set_cons_zero,List.set_cons_succ]
      refine wpAnyH_take (i:=14) (oi:=⟨some 4,_,_,_,_,_⟩) (v:=Value.iface 169 (Value.agg #[.slice V1 L1 c1,.slice V2 L2 c2,.int .i64 (SN:Int),.int .u64 LN])) rfl (by kernel_rfl) (by kernel_rfl) (by kernel_rfl) (fun _ _ _ h=>h) (Or.inl ⟨by rfl,fun V hV=>?_⟩) hS ?_
      ·go_simp
      try simp only [Act.put,List.setIfInBounds_toArray,List.set_cons_zero,List.set_cons_succ]
      refine wpAnyH_done (by kernel_rfl) ?_ _
      have FX:=FIN.out w4 V1 c1 V2 c2 hS (OneB.kept B1.out (grown_trans HG2.out (grown_trans HG3.out (HG4.out)))) (OneB.kept B2.out (grown_trans HG3.out (HG4.out)))
      clear B1 B2 HG1 HG2 HG3 HG4
      have FXH:=Lib.hid FX
      clear FX
      go_wp2
      go_ret
      exact FXH.out) ?_
     exact AllReadyH.nil) ?_
    exact AllReadyH.nil) ?_
   exact AllReadyH.nil) ?_
  exact AllReadyH.nil
 ·have d1:decide (0 < s.sy.2)=false:=decide_eq_false h1
  have F:=Lib.hid (NOT.out h0 h1 W (grown_refl _ _))
  clear h0 h1 TAB TRI PT PA PB SE LO KI KS
  rw [show imgV h s (.slice qs N cs) (.slice qd nd cd)=.agg (imgArr h s (.slice qs N cs) (.slice qd nd cd)) from rfl]
  unfold imgArr at hW ⊢
  go_enter Tryz.func47,Tryz.ntmps47
  go_upto_region 1 with fail
  clear hW hb'
  go_wp2
  go_ret
  exact F.out
end Go.Proofs.YtkmbkpoclhbmgaaGreat
namespace Go.Proofs.YtkmbkpoclhbmgaaGreat
open Go.RowKit Go.Sort
variable {w w' W V:World} {h:Hx} {s:St} {sv dv:Value}
theorem names_all (v : Value) (W : World) : (method 392 167 v "clevis/export.all").run Tryz.prog W = .ok (188, v) W := by kernel_rfl
theorem table_all (v : Value) (W : World) : (method 392 169 v "clevis/export.all").run Tryz.prog W = .ok (196, v) W := by kernel_rfl
theorem nothing_all (v : Value) (W : World) : (method 392 171 v "clevis/export.all").run Tryz.prog W = .ok (206, v) W := by kernel_rfl
theorem names_find (v : Value) (W : World) : (method 392 167 v "clevis/export.find").run Tryz.prog W = .ok (189, v) W := by kernel_rfl
theorem table_find (v : Value) (W : World) : (method 392 169 v "clevis/export.find").run Tryz.prog W = .ok (197, v) W := by kernel_rfl
theorem nothing_find (v : Value) (W : World) : (method 392 171 v "clevis/export.find").run Tryz.prog W = .ok (207, v) W := by kernel_rfl
structure SrcAll (w2:World) (ys:List Int) (s:St) (T:TypeId) (recv:Value) (f:FuncId):Prop where
 is : ∀ W, (method 392 T recv "clevis/export.all").run Tryz.prog W = .ok (f, recv) W
 enter:∀ args W,(callFunc f args).run Tryz.prog W=.ok (.enter f args) W
 call:∀ W,w2.grownBy W none→Calls Tryz.prog f #[recv] W fun e w'=>ExsO W w' (expRaw ys s) e
structure SrcFind (w2:World) (ys:List Int) (s:St) (T:TypeId) (recv:Value) (f:FuncId) (t:List Int):Prop where
 is : ∀ W, (method 392 T recv "clevis/export.find").run Tryz.prog W = .ok (f, recv) W
 enter:∀ args W,(callFunc f args).run Tryz.prog W=.ok (.enter f args) W
 call:∀ W,w2.grownBy W none→Calls Tryz.prog f #[recv,.string (strOfNums t)] W fun e w'=>FiO W w' t (expRawF ys s t) e
theorem srcAll {w2:World} {ys:List Int} {v:Value} (h:SrcIs w2 ys s v) (hb:Byt ys) (h47:ys.length≤140737488355328):∃ T recv f,v=.iface T recv∧SrcAll w2 ys s T recv f:=by
 cases h with
 | trie q c h0 hp =>
  have hl:=partN_len ys s.tr.1 s.tr.2
  have e:expRaw ys s=((allN (partN ys s.tr.1 s.tr.2)).2,srtN (allN (partN ys s.tr.1 s.tr.2)).1):=by unfold expRaw;rw [if_pos h0]
  refine ⟨_,_,_,rfl,names_all _,enters_of Tryz.func188 (by kernel_rfl) rfl,fun W hg=>?_⟩
  rw [e]
  have hp':=hp.kept hg
  exact namesAll_any hp'.b rfl (partN_byt hb _ _) hp'.le hp'.most (by omega)
 | table q q2 c c2 h0 h1 hp hp2 =>
  have hl:=partN_len ys s.sy.1 s.sy.2
  have hl2:=partN_len ys s.st.1 s.st.2
  have e:expRaw ys s=tabRaw (partN ys s.sy.1 s.sy.2) (partN ys s.st.1 s.st.2) (secN s.segs) (lowN s.segs):=by unfold expRaw tabRaw;rw [if_neg h0,if_pos h1]
  refine ⟨_,_,_,rfl,table_all _,enters_of Tryz.func196 (by kernel_rfl) rfl,fun W hg=>?_⟩
  rw [e]
  have hp':=hp.kept hg
  have hp2':=hp2.kept hg
  exact tabAll_any hp'.b rfl (by omega) hp'.le hp'.most (partN_byt hb _ _) hp2'.b rfl (by omega) (partN_byt hb _ _)
 | nothing h0 h1 =>
  have e:expRaw ys s=(0,[]):=by unfold expRaw;rw [if_neg h0,if_neg h1]
  refine ⟨_,_,_,rfl,nothing_all _,enters_of Tryz.func206 (by kernel_rfl) rfl,fun W hg=>?_⟩
  rw [e]
  exact nothingAll_any W
theorem srcFind {w2:World} {ys:List Int} {v:Value} (h:SrcIs w2 ys s v) (hb:Byt ys) (h47:ys.length≤140737488355328) {t:List Int} (ht:Byt t) (htl:t.length≤9223372036854775807):∃ T recv f,v=.iface T recv∧SrcFind w2 ys s T recv f t:=by
 cases h with
 | trie q c h0 hp =>
  have hl:=partN_len ys s.tr.1 s.tr.2
  have e:expRawF ys s t=findW (partN ys s.tr.1 s.tr.2) t:=by unfold expRawF;rw [if_pos h0]
  refine ⟨_,_,_,rfl,names_find _,enters_of Tryz.func189 (by kernel_rfl) rfl,fun W hg=>?_⟩
  rw [e]
  have hp':=hp.kept hg
  exact namesFind_any hp'.b rfl (partN_byt hb _ _) hp'.le hp'.most (by omega) t ht htl
 | table q q2 c c2 h0 h1 hp hp2 =>
  have hl:=partN_len ys s.sy.1 s.sy.2
  have hl2:=partN_len ys s.st.1 s.st.2
  have e:expRawF ys s t=tabRawF (partN ys s.sy.1 s.sy.2) (partN ys s.st.1 s.st.2) (secN s.segs) (lowN s.segs) t:=by unfold expRawF tabRawF;rw [if_neg h0,if_pos h1]
  refine ⟨_,_,_,rfl,table_find _,enters_of Tryz.func197 (by kernel_rfl) rfl,fun W hg=>?_⟩
  rw [e]
  have hp':=hp.kept hg
  have hp2':=hp2.kept hg
  exact tabFind_any hp'.b rfl (by omega) hp'.le hp'.most (partN_byt hb _ _) hp2'.b rfl (by omega) (partN_byt hb _ _) ht
 | nothing h0 h1 =>
  have e:expRawF ys s t=(0,none):=by unfold expRawF;rw [if_neg h0,if_neg h1]
  refine ⟨_,_,_,rfl,nothing_find _,enters_of Tryz.func207 (by kernel_rfl) rfl,fun W hg=>?_⟩
  rw [e]
  exact nothingFind_any t W
theorem expErr_first {nd:Nat}:∀ {D:Out} {k:Nat} {y:List Int × Ex},(∀ (i:Nat) (z:List Int × Ex),i < k→D[i]?=some z→expMay s nd z.2=0)→D[k]?=some y→expMay s nd y.2≠0→expErr s nd D=expMay s nd y.2
 | [],_,_,_,h,_=>by simp at h
 | z :: D,0,y,_,h,h0=>by
  simp at h
  subst h
  unfold expErr
  rw [if_pos h0]
 | z :: D,k + 1,y,hk,h,h0=>by
  have hz:=hk 0 z (by omega) rfl
  unfold expErr
  rw [if_neg (by rw [hz];decide)]
  exact expErr_first (k:=k) (fun i x hi hx=>hk (i + 1) x (by omega) (by simpa using hx)) (by simpa using h) h0
theorem expErr_none {nd:Nat}:∀ {D:Out},(∀ (i:Nat) (z:List Int × Ex),D[i]?=some z→expMay s nd z.2=0)→expErr s nd D=0
 | [],_=>rfl
 | z :: D,h=>by
  have hz:=h 0 z rfl
  unfold expErr
  rw [if_neg (by rw [hz];decide)]
  exact expErr_none (fun i x hx=>h (i + 1) x (by simpa using hx))
structure ExIn2 (w:World) (ys:List Int) (q:Option Addr) (c:Nat) (s:St) (l:List Sg) (qs:Option Addr) (cs nd:Nat):Prop where
 b:IsBytes w q c ys
 le:ys.length≤c
 most:c≤9223372036854775807
 few:ys.length≤140737488355328
 byt:Byt ys
 img:ImgRows w s l qs cs
 secs:secN s.segs≤1000000000
 tr:U64 s.tr.1∧U64 s.tr.2
 sy:U64 s.sy.1∧U64 s.sy.2
 st:U64 s.st.1∧U64 s.st.2
 deps:nd≤9223372036854775807
theorem ExIn2.grown {ys:List Int} {q:Option Addr} {c:Nat} {l:List Sg} {qs:Option Addr} {cs nd:Nat} (h:ExIn2 w ys q c s l qs cs nd) (hg:w.grownBy w' none):ExIn2 w' ys q c s l qs cs nd :=
 ⟨h.b.kept hg (by simp),h.le,h.most,h.few,h.byt,h.img.grown hg,h.secs,h.tr,h.sy,h.st,h.deps⟩
structure AlL (w2 wr:World) (s:St) (nd:Nat) (D:Out) (n:Nat) (v:Value):Prop where
 ex:∃ k:Nat,k≤n∧v=.int .i64 (k:Int)∧∀ (i:Nat) (z:List Int × Ex),i < k→D[i]?=some z→expMay s nd z.2=0
 grown:w2.grownBy wr none
set_option maxRecDepth 20000 in
set_option maxHeartbeats 3200000 in
theorem exportAll_any {ys:List Int} {q:Option Addr} {c n:Nat} {l:List Sg} {qs qd:Option Addr} {cs nd cd:Nat} (hI:ExIn2 w ys q c s l qs cs nd) (hn:ys.length=n) :
  Calls Tryz.prog 17 #[.slice q n c,imgV h s (.slice qs l.length cs) (.slice qd nd cd)] w fun e w'=>ExsO w w' (expAll ys s nd) e:=by
 obtain ⟨N,hN⟩:∃ N,N=l.length:=⟨_,rfl⟩
 rw [← hN]
 have gB:=grown1 w (.cells (imgArr h s (.slice qs N cs) (.slice qd nd cd)) 48)
 have aA:ImgAt (w.alloc (.cells (imgArr h s (.slice qs N cs) (.slice qd nd cd)) 48)) w.heap.size h s (.slice qs N cs) (.slice qd nd cd):=heap_alloc_new w _
 obtain ⟨W,hW⟩:∃ W,w.alloc (.cells (imgArr h s (.slice qs N cs) (.slice qd nd cd)) 48)=W:=⟨_,rfl⟩
 obtain ⟨b,hb'⟩:∃ b,w.heap.size=b:=⟨_,rfl⟩
 rw [hW] at gB aA
 rw [hb'] at aA
 have I1:=hI.grown gB
 have SO:=Lib.hid (sourceOf_any (h:=h) (qd:=qd) (cd:=cd) I1.b hn (by rw [← hn];exact I1.le) I1.most (by rw [← hn];exact I1.few) I1.img I1.secs I1.tr I1.sy I1.st (nd:=nd))
 have RO:=Lib.hid (fun (V:World) (hg:W.grownBy V none)=>roomOf_any (h:=h) (qd:=qd) (cd:=cd) I1.deps (I1.img.grown hg))
 rw [← hN] at SO RO
 have AA:=Lib.hid (fun (V:World) (hg:W.grownBy V none)=>aA.kept hg (by simp))
 have HB:=Lib.hid (And.intro I1.byt I1.few)
 have G:=Lib.hid gB
 have OUT:=Lib.hid (show expAll ys s nd=if (expRaw ys s).1≠0 then ((expRaw ys s).1,[]) else if expErr s nd (expRaw ys s).2≠0 then (expErr s nd (expRaw ys s).2,[]) else (0,(expRaw ys s).2) from rfl)
 generalize expAll ys s nd=RES at *
 have k1:=AA.out W (grown_refl _ _)
 have K1:=Lib.hid k1
 clear I1 hI gB aA hN
 rw [show imgV h s (.slice qs N cs) (.slice qd nd cd)=.agg (imgArr h s (.slice qs N cs) (.slice qd nd cd)) from rfl]
 unfold imgArr at hW ⊢
 go_enter Tryz.func17,Tryz.ntmps17
 go_upto_region 1 with fail
 clear hW hb'
 go_wp2_with (refine wpList_load_imgI rfl _ rfl rfl K1.out ?_;unfold imgV imgArr)
 refine SO.out.mono ?_
 rintro e w2 ⟨⟨v,rfl,hv⟩,hg2⟩
 obtain ⟨T,recv,f,rfl,hA⟩:=srcAll hv HB.out.1 HB.out.2
 have HM:=hA.is
 have HE:=hA.enter
 have HC:=Lib.hid (hA.call w2 (grown_refl _ _))
 obtain ⟨⟨E,D⟩,hR⟩:∃ R,R=expRaw ys s:=⟨_,rfl⟩
 rw [← hR] at HC OUT
 simp only [] at OUT
 have G2:=Lib.hid (grown_trans G.out hg2)
 have GW2:=Lib.hid hg2
 clear hv hA hg2 hR SO k1
 go_wp2_with fail
 refine HC.out.mono ?_
 rintro e w3 ⟨⟨q3,c3,rfl,hD,hle,hmost⟩,hg3⟩
 simp only [] at hD hle ⊢
 have G3:=Lib.hid (grown_trans G2.out hg3)
 have GW3:=Lib.hid (grown_trans GW2.out hg3)
 have HD:=Lib.hid hD
 clear hD hg3 HM HE HC
 by_cases hE:E=0
 ·subst hE
  have OUT:=Lib.hid (OUT.out.trans (if_neg (by simp)))
  obtain ⟨M,hM⟩:∃ M,M=D.length:=⟨_,rfl⟩
  rw [← hM] at hle ⊢
  have HM:=Lib.hid hM.symm
  have K3:=Lib.hid (AA.out w3 GW3.out)
  have RO3:=Lib.hid (RO.out w3 GW3.out)
  clear hM
  go_wp2_with (refine wpList_load_imgI rfl _ rfl rfl K3.out ?_;unfold imgV imgArr)
  refine RO3.out.mono ?_
  rintro e w4 ⟨rfl,hg4⟩
  unfold roomV roomArr
  have RMAY:=Lib.hid (fun (nm:ByteArray) (x:Ex) (V:World)=>roomMay_any nm x s nd V)
  unfold roomV roomArr at RMAY
  obtain ⟨LG,hLG⟩:∃ L,L=longN s:=⟨_,rfl⟩
  rw [← hLG] at RMAY ⊢
  have r5:RoomAt (w4.alloc (.cells #[.int .u64 LG,.int .u64 (nd:Int)] 107)) w4.heap.size LG nd:=heap_alloc_new w4 _
  have g5:=grown1 w4 (.cells #[.int .u64 LG,.int .u64 (nd:Int)] 107)
  obtain ⟨w5,hw5⟩:∃ W,W=w4.alloc (.cells #[.int .u64 LG,.int .u64 (nd:Int)] 107):=⟨_,rfl⟩
  obtain ⟨X,hX⟩:∃ X,X=w4.heap.size:=⟨_,rfl⟩
  rw [← hw5] at r5 g5
  rw [← hX] at r5
  have HW5:=Lib.hid hw5.symm
  have HX:=Lib.hid hX.symm
  have R5:=Lib.hid r5
  have D5:=Lib.hid (HD.out.grown (grown_trans hg4 g5)).exs
  have DR5:=Lib.hid (HD.out.grown (grown_trans hg4 g5))
  have G5:=Lib.hid (grown_trans G3.out (grown_trans hg4 g5))
  have ST:=Lib.hid (show AlL w5 w5 s nd D M (.int .i64 0) from ⟨⟨0,Nat.zero_le _,rfl,fun i z h=>by omega⟩,grown_refl _ _⟩)
  clear hLG r5 g5 hw5 hX hg4 RO3 K3
  go_upto_region 5 with fail
  rw [HW5.out,HX.out]
  clear HW5 HX
  go_wp2
  go_loopw [26] (fun v26 wr=>AlL w5 wr s nd D M v26) (fun v26 _=>M - (intOf v26).toNat)
  case atStart=>exact ST.out
  case round =>
   obtain ⟨⟨k,hk,rfl,hmay⟩,hg⟩:=hrel
   have MY:=Lib.hid hmay
   have GX:=Lib.hid hg
   have r6:=R5.out.kept hg (by simp)
   by_cases hlt:k < M
   ·obtain ⟨y,hy⟩:∃ y,D[k]?=some y:=⟨_,List.getElem?_eq_getElem (by rw [HM.out];exact hlt)⟩
    obtain ⟨ga,oa,rfl,a0,a1,a2,a3,a4,a5,a6⟩:=(D5.out.grown hg).at hy
    have HY:=Lib.hid hy
    have dl:decide ((k:Int) < (M:Int))=true:=by simp;omega
    have hkI:(k:Int) < (M:Int):=by omega
    have x7:ExAt (wr.alloc (.cells #[.string (strOfNums y.1),.int .i64 y.2.kind,.bool y.2.weak,.int .u64 y.2.value,.int .u64 y.2.resolver,.int .u64 y.2.ordinal,.string (strOfNums y.2.other)] 28)) wr.heap.size (strOfNums y.1) y.2:=heap_alloc_new wr _
    have g7:=grown1 wr (.cells #[.string (strOfNums y.1),.int .i64 y.2.kind,.bool y.2.weak,.int .u64 y.2.value,.int .u64 y.2.resolver,.int .u64 y.2.ordinal,.string (strOfNums y.2.other)] 28)
    obtain ⟨w7,hw7⟩:∃ W,W=wr.alloc (.cells #[.string (strOfNums y.1),.int .i64 y.2.kind,.bool y.2.weak,.int .u64 y.2.value,.int .u64 y.2.resolver,.int .u64 y.2.ordinal,.string (strOfNums y.2.other)] 28):=⟨_,rfl⟩
    obtain ⟨Z,hZ⟩:∃ Z,Z=wr.heap.size:=⟨_,rfl⟩
    rw [← hw7] at x7 g7
    rw [← hZ] at x7
    have HW7:=Lib.hid hw7.symm
    have HZ:=Lib.hid hZ.symm
    have r7:=r6.kept g7 (by simp)
    have G7:=Lib.hid (grown_trans hg g7)
    have MAY:=Lib.hid (RMAY.out (strOfNums y.1) y.2 w7)
    obtain ⟨r,hr⟩:∃ r,r=expMay s nd y.2:=⟨_,rfl⟩
    rw [← hr] at MAY
    have HR:=Lib.hid hr
    unfold exV exArr at MAY
    have X7:=Lib.hid x7
    have R7:=Lib.hid r7
    clear hmay hg hy g7 hw7 hZ r6 r7 x7 hr
    go_upto_region 8 with fail
    rw [HW7.out,HZ.out]
    obtain ⟨b0,b1,b2,b3,b4,b5,b6⟩:=X7.out.c
    have bl:=X7.out.lt
    obtain ⟨e0,e1⟩:=R7.out.c
    have el:=lt_of_block R7.out
    clear a0 a1 a2 a3 a4 a5 a6 HW7 HZ
    go_wp2_with fail
    refine MAY.out.mono ?_
    rintro e w8 ⟨rfl,hg8⟩
    have G8:=Lib.hid (grown_trans G7.out hg8)
    clear hg8 b0 b1 b2 b3 b4 b5 b6 bl e0 e1 el X7 R7
    by_cases hr0:r=0
    ·subst hr0
     go_wp2
     go_roundw
     case rel=>exact ⟨⟨k + 1,hlt,by go_num,fun i z hi hz=>by
      rcases Nat.lt_or_ge i k with h | h
      ·exact MY.out i z h hz
      ·obtain rfl:i=k:=by omega
       rw [HY.out] at hz
       injection hz with hz
       rw [← hz];exact HR.out.symm⟩,G8.out⟩
     case measure=>simp [intOf];omega
    ·have dr:(r != 0)=true:=by simpa using hr0
     have F:=Lib.hid (ExsO.none (w:=w) (w':=w8) (OUT.out.trans (by
      have e:=expErr_first MY.out HY.out (by rw [← HR.out];exact hr0)
      show (if expErr s nd D≠0 then (expErr s nd D,[]) else (0,D))=(r,[])
      rw [e,← HR.out,if_pos hr0])) (grown_trans G5.out G8.out))
     clear hr0
     go_wp2
     go_ret2
     exact F.out
   ·have hkm:M=k:=by omega
    subst hkm
    have dl:decide ((M:Int) < (M:Int))=false:=by simp
    have F:=Lib.hid (show ExsO w wr RES (.returned (.tuple #[.slice q3 M c3,.int .i64 0])) from by
     rw [OUT.out]
     have e:expErr s nd D=0:=expErr_none (fun i z hz=>hmay i z (by
      obtain ⟨h1,_⟩:=List.getElem?_eq_some_iff.1 hz
      rw [HM.out] at h1
      exact h1) hz)
     show ExsO w wr (if expErr s nd D≠0 then (expErr s nd D,[]) else (0,D)) _
     rw [e,if_neg (by simp)]
     exact ⟨⟨q3,c3,by simp only [];rw [HM.out],DR5.out.grown hg,by simp only [];rw [HM.out];exact hle,hmost⟩,grown_trans G5.out hg⟩)
    clear hmay hg r6
    go_wp2
    go_ret2
    exact F.out
 ·have dE:(E != 0)=true:=by simpa using hE
  have F:=Lib.hid (ExsO.none (OUT.out.trans (if_pos hE)) G3.out)
  clear hE
  go_wp2
  go_ret2
  exact F.out
end Go.Proofs.YtkmbkpoclhbmgaaGreat
namespace Go.Proofs.YtkmbkpoclhbmgaaGreat
open Go.RowKit Go.Sort
variable {w w' W V:World} {h:Hx} {s:St} {sv dv:Value}
theorem wpQuiet_load {ops:Array Oper} {C:World→Prop} {Q:Act→Prop} {a:Act} {o:Oper} {rest:List Oper} {T:TypeId} {ad:Addr} {v:Value} (hw:Region.wanted o (yielded ops a.tmps)=true) (x:Operand) (ho:o.op=.load T x)
  (hx:a.eval x=.pointer (some ad)) (hl:∀ w,C w→(loadVar T ad).run Tryz.prog w=.ok v w) (hK:wpQuiet Tryz.prog ops C Q rest (a.put o.dst v)):wpQuiet Tryz.prog ops C Q (o :: rest) a:=by
 refine wpQuiet_step fun K hK'=>?_
 rw [if_pos hw]
 refine ⟨v,fun W hW=>?_,hK' _ hK⟩
 unfold Oper.quietAt execOp
 simp only [ho,hx,Instr.loadAt,Instr.sureAddr,Sem.run_bind,Sem.run_pure,Result.andThen_ok,hl W hW]
 exact ⟨rfl,rfl⟩
set_option maxRecDepth 20000 in
set_option maxHeartbeats 3200000 in
theorem exportFind_any {ys:List Int} {q:Option Addr} {c n:Nat} {l:List Sg} {qs qd:Option Addr} {cs nd cd:Nat} (hI:ExIn2 w ys q c s l qs cs nd) (hn:ys.length=n) (t:List Int) (ht:Byt t) (htl:t.length≤9223372036854775807) :
  Calls Tryz.prog 19 #[.slice q n c,imgV h s (.slice qs l.length cs) (.slice qd nd cd),.string (strOfNums t)] w fun e w'=>FiO w w' t (expFind ys s nd t) e:=by
 obtain ⟨N,hN⟩:∃ N,N=l.length:=⟨_,rfl⟩
 rw [← hN]
 have gB:=grown1 w (.cells (imgArr h s (.slice qs N cs) (.slice qd nd cd)) 48)
 have aA:ImgAt (w.alloc (.cells (imgArr h s (.slice qs N cs) (.slice qd nd cd)) 48)) w.heap.size h s (.slice qs N cs) (.slice qd nd cd):=heap_alloc_new w _
 obtain ⟨W,hW⟩:∃ W,w.alloc (.cells (imgArr h s (.slice qs N cs) (.slice qd nd cd)) 48)=W:=⟨_,rfl⟩
 obtain ⟨b,hb'⟩:∃ b,w.heap.size=b:=⟨_,rfl⟩
 rw [hW] at gB aA
 rw [hb'] at aA
 have g2:=grown1 W (.cells #[.string ⟨#[]⟩,.int .i64 0,.bool false,.int .u64 0,.int .u64 0,.int .u64 0,.string ⟨#[]⟩] 28)
 have r2:=new_ex W
 obtain ⟨W2,hW2⟩:∃ W2,W.alloc (.cells #[.string ⟨#[]⟩,.int .i64 0,.bool false,.int .u64 0,.int .u64 0,.int .u64 0,.string ⟨#[]⟩] 28)=W2:=⟨_,rfl⟩
 obtain ⟨b2,hb2⟩:∃ b,W.heap.size=b:=⟨_,rfl⟩
 rw [hW2] at g2 r2
 rw [hb2] at r2
 have I2:=hI.grown (grown_trans gB g2)
 have SO:=Lib.hid (sourceOf_any (h:=h) (qd:=qd) (cd:=cd) I2.b hn (by rw [← hn];exact I2.le) I2.most (by rw [← hn];exact I2.few) I2.img I2.secs I2.tr I2.sy I2.st (nd:=nd))
 have RO:=Lib.hid (fun (V:World) (hg:W2.grownBy V none)=>roomOf_any (h:=h) (qd:=qd) (cd:=cd) I2.deps (I2.img.grown hg))
 rw [← hN] at SO RO
 have a2:=aA.kept g2 (by simp)
 have AA:=Lib.hid (fun (V:World) (hg:W2.grownBy V none)=>a2.kept hg (by simp))
 have HB:=Lib.hid (And.intro I2.byt I2.few)
 have HT:=Lib.hid (And.intro ht htl)
 have G2:=Lib.hid (grown_trans gB g2)
 have R2:=Lib.hid r2
 have BL:=Lib.hid (show w.heap.size≤b2 by have:=gB.size;omega)
 have OUT:=Lib.hid (show expFind ys s nd t=if (expRawF ys s t).1≠0 then ((expRawF ys s t).1,none) else match (expRawF ys s t).2 with
  | none=>(0,none)
  | some x=>if expMay s nd x≠0 then (expMay s nd x,none) else (0,some x) from rfl)
 generalize expFind ys s nd t=RES at *
 have K2:=Lib.hid a2
 clear I2 hI gB aA hN g2 r2 a2 ht
 rw [show imgV h s (.slice qs N cs) (.slice qd nd cd)=.agg (imgArr h s (.slice qs N cs) (.slice qd nd cd)) from rfl]
 unfold imgArr at hW ⊢
 go_enter Tryz.func19,Tryz.ntmps19
 go_upto_region 1 with fail
 clear hW hb' hW2 hb2
 go_wp2_with (refine wpList_load_imgI rfl _ rfl rfl K2.out ?_;unfold imgV imgArr)
 refine SO.out.mono ?_
 rintro e w3 ⟨⟨v,rfl,hv⟩,hg3⟩
 obtain ⟨T,recv,f,rfl,hA⟩:=srcFind hv HB.out.1 HB.out.2 HT.out.1 HT.out.2
 have HM:=hA.is
 have HE:=hA.enter
 have HC:=Lib.hid (hA.call w3 (grown_refl _ _))
 obtain ⟨⟨E,o⟩,hR⟩:∃ R,R=expRawF ys s t:=⟨_,rfl⟩
 rw [← hR] at HC OUT
 simp only [] at OUT
 have GW3:=Lib.hid hg3
 clear hv hA hg3 hR SO
 go_wp2_with fail
 refine HC.out.mono ?_
 rintro e w4 ⟨rfl,hg4⟩
 simp only []
 have GW4:=Lib.hid (grown_trans GW3.out hg4)
 clear hg4 HM HE HC
 obtain ⟨nm,hnm⟩:∃ nm,nm=nmOf (strOfNums t) o:=⟨_,rfl⟩
 obtain ⟨x,hx⟩:∃ x,x=exOf o:=⟨_,rfl⟩
 obtain ⟨is,his⟩:∃ b,b=o.isSome:=⟨_,rfl⟩
 rw [← hnm,← hx,← his]
 have HNX:=Lib.hid (And.intro hnm (And.intro hx his))
 have x5:ExAt (w4.alloc (.cells #[.string nm,.int .i64 x.kind,.bool x.weak,.int .u64 x.value,.int .u64 x.resolver,.int .u64 x.ordinal,.string (strOfNums x.other)] 28)) w4.heap.size nm x:=heap_alloc_new w4 _
 have g5:=grown1 w4 (.cells #[.string nm,.int .i64 x.kind,.bool x.weak,.int .u64 x.value,.int .u64 x.resolver,.int .u64 x.ordinal,.string (strOfNums x.other)] 28)
 obtain ⟨w5,hw5⟩:∃ W,W=w4.alloc (.cells #[.string nm,.int .i64 x.kind,.bool x.weak,.int .u64 x.value,.int .u64 x.resolver,.int .u64 x.ordinal,.string (strOfNums x.other)] 28):=⟨_,rfl⟩
 obtain ⟨Z,hZ⟩:∃ Z,Z=w4.heap.size:=⟨_,rfl⟩
 rw [← hw5] at x5 g5
 rw [← hZ] at x5
 have HW5:=Lib.hid hw5.symm
 have HZ:=Lib.hid hZ.symm
 have X5:=Lib.hid x5
 have GW5:=Lib.hid (grown_trans GW4.out g5)
 have r5:=R2.out.kept GW5.out (by simp)
 have R5:=Lib.hid r5
 have ZL:=Lib.hid (show Z < w5.heap.size from x5.lt)
 clear hnm hx his x5 g5 hw5 hZ r5
 unfold exV exArr
 by_cases hok:E=0∧is=true
 ·obtain ⟨rfl,rfl⟩:=hok
  have OUT:=Lib.hid (OUT.out.trans (if_neg (by simp)))
  obtain ⟨y,hy⟩:∃ y,o=some y:=by
   have:=HNX.out.2.2
   cases o with
   | none=>cases this
   | some y=>exact ⟨y,rfl⟩
  subst hy
  have hxy:x=y:=HNX.out.2.1
  subst hxy
  have hnmt:nm=strOfNums t:=HNX.out.1
  have HNT:=Lib.hid hnmt
  simp only [] at OUT
  clear hnmt
  go_upto_region 4 with fail
  rw [HW5.out,HZ.out]
  clear HW5 HZ
  have KG:=fun d os=>grown_below (below_regrown w5 d os) none
  have RQ:=Lib.hid (fun d os=>Calls.regrown_of ((RO.out _ (grown_trans GW5.out (KG d os))).mono (fun _ _ h=>(⟨h.1,below_grown h.2 (Nat.le_refl _) (by simp)⟩ : _∧_))))
  have MQ:=Lib.hid (fun d os=>Calls.regrown_of ((roomMay_any nm x s nd (Go.Sort.grow (redrawn w5 d) os)).mono (fun _ _ h=>(⟨h.1,below_grown h.2 (Nat.le_refl _) (by simp)⟩ : _∧_))))
  have LD:=Lib.hid (fun (V:World) (hV:∃ p:Regrown,V=Go.Sort.grow (redrawn w5 p.d) p.os)=>(by obtain ⟨p,rfl⟩:=hV;exact run_loadIm (AA.out _ (grown_trans GW5.out (KG p.d p.os))):(loadVar 48 ⟨b,0,none⟩).run Tryz.prog V=.ok (imgV h s (.slice qs N cs) (.slice qd nd cd)) V))
  have LX:=Lib.hid (fun (V:World) (hV:∃ p:Regrown,V=Go.Sort.grow (redrawn w5 p.d) p.os)=>(by obtain ⟨p,rfl⟩:=hV;exact load_ex (X5.out.kept (KG p.d p.os) (by simp)):(loadVar 28 ⟨Z,0,none⟩).run Tryz.prog V=.ok (exV nm x) V))
  obtain ⟨r,hr⟩:∃ r,r=expMay s nd x:=⟨_,rfl⟩
  rw [← hr] at MQ OUT
  have HR:=Lib.hid hr
  have HK:=Lib.hid KG
  unfold imgV imgArr at RQ LD
  unfold roomV at RQ MQ
  unfold exV exArr at LX MQ
  clear hr KG
  refine wp_region_quiet_below (by kernel_rfl) (by kernel_rfl) ?_
  refine wpQuiet_load rfl _ rfl rfl LD.out ?_
  quiet_step (with_reducible exact RQ.out _ _)
  refine wpQuiet_load rfl _ rfl rfl LX.out ?_
  quiet_step (with_reducible exact MQ.out _ _)
  repeat (quiet_step (fail))
  refine wpQuiet_nil ?_
  intro _ hw'
  obtain ⟨⟨dq,osq⟩,hw''⟩:=hw'
  subst hw''
  have gk:=HK.out dq osq
  have R6:=Lib.hid (R5.out.kept gk (by simp))
  have X6:=Lib.hid (X5.out.kept gk (by simp))
  have GW6:=Lib.hid (grown_trans GW5.out gk)
  obtain ⟨w6,hw6⟩:∃ w6,Go.Sort.grow (redrawn w5 dq) osq=w6:=⟨_,rfl⟩
  rw [hw6] at R6 X6 GW6 ⊢
  have z0:=R6.out.fz 0
  have z1:=R6.out.fz 1
  have z2:=R6.out.fz 2
  have z3:=R6.out.fz 3
  have z4:=R6.out.fz 4
  have z5:=R6.out.fz 5
  have z6:=R6.out.fz 6
  have e0:=R6.out.c
  have l6:=R6.out.lt
  clear hw6 gk
  by_cases hr0:r=0
  ·subst hr0
   have RN:=Lib.hid (show RES=(0,some x) from by rw [OUT.out,if_neg (by simp)])
   have R7:=Lib.hid (R6.out.put nm x)
   have x0:=X6.out.c
   have xl:=X6.out.lt
   go_wp2
   refine bodyPost_ret (results_ex3 rfl rfl rfl rfl R7.out) rfl ?_
   exact ⟨by rw [RN.out,HNT.out];rfl,grown_opt (grown_trans G2.out GW6.out) (grown_put7 (grown_refl w6 (some b2)) _ _ _ _ _ _ _) (fun g e=>by injection e with e;have:=BL.out;omega)⟩
  ·have dr:(r != 0)=true:=by simpa using hr0
   have RN:=Lib.hid (show RES=(r,none) from by rw [OUT.out,if_pos hr0])
   have R7:=Lib.hid (R6.out.put ⟨#[]⟩ Ex.zero)
   clear hr0
   go_wp2
   refine bodyPost_ret (results_ex3 rfl rfl rfl rfl R7.out) rfl ?_
   exact ⟨by rw [RN.out];rfl,grown_opt (grown_trans G2.out GW6.out) (grown_put7 (grown_refl w6 (some b2)) _ _ _ _ _ _ _) (fun g e=>by injection e with e;have:=BL.out;omega)⟩
 ·have dok:((E != 0) || !is)=true:=by
   cases is
   ·simp
   ·have:E≠0:=fun h=>hok ⟨h,rfl⟩
    simpa using this
  have RN:=Lib.hid (show RES=(E,none) from by
   rw [OUT.out]
   by_cases h0:E=0
   ·rw [if_neg (by simpa using h0),h0]
    cases o with
    | none=>rfl
    | some y=>exact absurd ⟨h0,HNX.out.2.2⟩ hok
   ·rw [if_pos h0])
  go_upto_region 2 with fail
  rw [HW5.out,HZ.out]
  clear HW5 HZ
  have z0:=R5.out.fz 0
  have z1:=R5.out.fz 1
  have z2:=R5.out.fz 2
  have z3:=R5.out.fz 3
  have z4:=R5.out.fz 4
  have z5:=R5.out.fz 5
  have z6:=R5.out.fz 6
  have e0:=R5.out.c
  have l5:=R5.out.lt
  have R6:=Lib.hid (R5.out.put ⟨#[]⟩ Ex.zero)
  have hcase:(E != 0)=true∨((E != 0)=false∧is=false):=by
   cases he:(E != 0)
   ·right
    rw [he] at dok
    simpa using dok
   ·exact .inl rfl
  clear hok dok
  rcases hcase with dE | ⟨dE,rfl⟩
  ·go_wp2
   refine bodyPost_ret (results_ex3 rfl rfl rfl rfl R6.out) rfl ?_
   exact ⟨by rw [RN.out];rfl,grown_opt (grown_trans G2.out GW5.out) (grown_put7 (grown_refl w5 (some b2)) _ _ _ _ _ _ _) (fun g e=>by injection e with e;have:=BL.out;omega)⟩
  ·go_wp2
   refine bodyPost_ret (results_ex3 rfl rfl rfl rfl R6.out) rfl ?_
   exact ⟨by rw [RN.out];rfl,grown_opt (grown_trans G2.out GW5.out) (grown_put7 (grown_refl w5 (some b2)) _ _ _ _ _ _ _) (fun g e=>by injection e with e;have:=BL.out;omega)⟩
end Go.Proofs.YtkmbkpoclhbmgaaGreat
