/- Parts of the proof, put together: NlRm, NlRk, ExW, ExX, ExP, ExT, ExH. No condition beyond those that each part names. -/
import Derived.Shelf.Small.Bits
import Derived.Shelf.Small.Strs
import Derived.Shelf.Strconv.Itoa0
import Derived.Shelf.Strings.Search1
import Derived.Shelf.Bytes.SlIndexAt
import Derived.Shelf.Bytes.SlSearch0
import Derived.Ground.SlbCloneProg
import Derived.Shelf.Bytes.SlClone
import Derived.Shelf.Bytes.IndexByte
import Derived.Test.YtkmbkpoclhbmgaaGreatProg
import Derived.Test.YtkmbkpoclhbmgaaGreatRows
import Derived.WalkKit
import Derived.WalkSpells
import Derived.WalkLawsBesides
import Derived.BigQuiet
import Derived.Deep.QuietTactic
import Derived.Lib.Hide
import Derived.IntWalk
import Derived.OneCell
import Derived.Laws.Rows
import Derived.OpenShut
import Derived.ProofKit
import Derived.Lib.EndianBits
import Derived.RegionTactic
import Derived.ChangeAlike
import Derived.WalkMore
import Derived.Laws.BytesArg
import Derived.Shelf.Bytes.SlEqualAll
import Derived.Lib.SlFresh
import Derived.Maps.AppendAt
import Derived.Deep.AppendSrc
import Derived.Deep.Upon
import Derived.Lib.AppendZeros
import Derived.Laws.IdiomStrings
import Derived.Lib.AppendZerosOnto
import Derived.Laws.StructEq
import Derived.Below
import Derived.Shelf.Abstract
import Derived.Laws.ResultCell
import Derived.Deep.Slices
import Derived.ChangeSame
import Derived.Laws.OwnMore
import Derived.Laws.Slices
import Derived.Lib.ConvBytes
import Derived.StringKeys
import Derived.Maps.Own
import Derived.Maps.OwnOps
import Derived.Maps.OwnSet
import Derived.WideShapes
import Derived.Deep.LoopGhost
import Derived.StillTailTactics
import Derived.Deep.Cut
import Derived.Deep.CutRange
import Derived.PlainAid
import Derived.Lib.SlBytesRow
import Derived.Deep.Onto
import Derived.Laws.EntriesVeiled
import Derived.Shelf.SlSortCmp.WholeK
import Derived.Shelf.SlGeneric
import Derived.Ground.SlsfProg
import Derived.Laws.Bits128
import Derived.Deep.RegionWith
import Derived.Deep.RegionHeld3
import Derived.Lib.SmallJoins
import Derived.Deep.RegionLaw
import Derived.Deep.RegionHeld
import Derived.Lib.QuietBelow
import Derived.Stop.Asserts
import Derived.Laws.Externs
import Derived.WalkArith
import Derived.Maps.Views
import Derived.RangeFuncRecord
import Derived.RangeFuncSeq
import Derived.RangeFuncCalls
import Derived.RangeFuncBound
import Derived.OwnWalkIn
import Derived.TacticsInMore
import Derived.Shelf.RegionOpen
import Derived.BigRegion
import Derived.RangeFuncNested
import Derived.RangeFuncIn
import Derived.RangeFuncLeaves
import Derived.Laws.Tables
import Derived.BigFrame
import Derived.StillTail
import Derived.Test.YtkmbkpoclhbmgaaGreatPM6
import Derived.Test.YtkmbkpoclhbmgaaGreatPM9
import Derived.Test.YtkmbkpoclhbmgaaGreatPM12
import Derived.Test.YtkmbkpoclhbmgaaGreatPM13
import Derived.Test.YtkmbkpoclhbmgaaGreatPM14
import Derived.Test.YtkmbkpoclhbmgaaGreatPM15
import Derived.Test.YtkmbkpoclhbmgaaGreatPM16
namespace Go.Proofs.YtkmbkpoclhbmgaaGreat
open Go.RowKit
variable {w w' W V:World}
theorem low_at (N:Int) (k:Nat):N / 256 ^ k / 256=N / 256 ^ (k + 1):=by
 rw [Int.ediv_ediv_of_nonneg (Int.pow_nonneg (by decide)),Int.pow_succ]
set_option maxRecDepth 20000 in
set_option maxHeartbeats 1600000 in
theorem low10_any (N:Int) (h0 : 0≤N) (h1:N < 18446744073709551616) (size:Nat) (hs:size≤8) (w:World) :
  Calls Tryz.prog 91 #[.int .u64 N,.int .i64 size] w fun e w'=>NOut w w' (lowB size N) e:=by
 go_enter Tryz.func91,Tryz.ntmps91
 go_wp2
 go_loopw [0,5,6] (fun vn vb vi wr=>∃ (k:Nat) (q':Option Addr) (c':Nat),k≤size∧vi=.int .i64 (k:Int)∧vn=.int .u64 (N / 256 ^ k)∧vb=.slice q' k c'∧RowTo w wr w.heap.size (.slice none 0 0) (.slice q' k c') (lowB k N)) (fun _ _ vi _=>size - (intOf vi).toNat)
 case atStart=>exact ⟨0,none,0,Nat.zero_le _,rfl,by simp,rfl,RowTo.refl (World.ownsRow_nil _ _ _ _)⟩
 case round =>
  obtain ⟨k,q',c',hk,rfl,rfl,rfl,hr⟩:=hrel
  have RR:=Lib.hid hr
  clear hr
  by_cases hlt:k < size
  ·have dl:decide ((k:Int) < (size:Int))=true:=by simp;omega
   have dl2:decide (k < size)=true:=by simp;omega
   have k8:(k:Int) < 8:=by omega
   have hsn:=lowB_snoc k N
   have hla:=low_at N k
   have hp:(0:Int)≤N / 256 ^ k:=Int.ediv_nonneg h0 (Int.pow_nonneg (by decide))
   have hp2:N / 256 ^ k < 18446744073709551616:=Int.lt_of_le_of_lt (Int.ediv_le_self _ h0) h1
   have SN:=Lib.hid hsn
   have LAT:=Lib.hid hla
   obtain ⟨M,hM⟩:∃ M,M=N / 256 ^ k:=⟨_,rfl⟩
   rw [← hM] at hp hp2 SN LAT ⊢
   have GN:=grown1 wr (.cells #[.int .u8 (M % 256)] 5)
   have RP:=Lib.hid (RR.out.past GN)
   have IB:=Lib.hid (byte_new wr (M % 256))
   have hlk:(lowB k N).length=k:=lowB_len _ _
   have HL:=Lib.hid hlk
   have BS:=Lib.hid (Nat.le_trans RR.out.grown.size GN.size)
   obtain ⟨XS,hXS⟩:∃ XS,lowB k N=XS:=⟨_,rfl⟩
   rw [hXS] at RP HL SN
   clear hsn GN hlk hla hM hXS
   go_wp2_with (at_builtin;refine wp_append_to rfl (.tmp 12) (.tmp 16) rfl rfl (v:=.slice q' k c') (by rfl) RP.out [M % 256] 1 rfl rfl IB.out (by rw [HL.out];omega) BS.out ?_)
   intro q2 c2 w2 hr2
   rw [← SN.out] at hr2
   rw [HL.out] at hr2 ⊢
   have R2:=Lib.hid hr2
   clear hr2
   go_wp2
   go_roundw
   case rel=>exact ⟨k + 1,q2,c2,hlt,by simp,by rw [← LAT.out],rfl,R2.out⟩
   case measure=>simp [intOf];omega
  ·have hks:k=size:=by omega
   subst hks
   have dl:decide ((k:Int) < (k:Int))=false:=by simp
   have hle:=lowB_len k N
   go_wp2
   go_ret
   refine ⟨⟨q',c',by rw [hle];rfl,?_⟩,RR.out.out rfl⟩
   have:=RR.out.own
   rw [hle] at this ⊢
   exact this
def entV (p k s d v:Int):List Int:=lowB 4 p ++ (lowB 1 k ++ (lowB 1 s ++ (lowB 2 d ++ lowB 8 v)))
theorem entV_len (p k s d v:Int):(entV p k s d v).length=16:=by simp [entV,lowB_len]
set_option maxRecDepth 20000 in
set_option maxHeartbeats 1600000 in
theorem entry10_any (P:Nat) (hP:(P:Int)≤140737488355328) (k:Int) (hk : 0≤k∧k < 256) (s:Int) (hs : 0≤s∧s < 256) (d:Int) (hd : 0≤d∧d < 65536) (v:Int) (hv : 0≤v∧v < 18446744073709551616) (w:World) :
  Calls Tryz.prog 57 #[.int .i64 (P:Int),.int .i64 k,.int .i64 s,.int .i64 d,.int .u64 v] w fun e w'=>NOut w w' (entV P k s d v) e:=by
 have L4:=Lib.hid (show Calls Tryz.prog 91 #[.int .u64 (P:Int),.int .i64 4] w fun e w'=>NOut w w' (lowB 4 P) e from low10_any (P:Int) (by omega) (by omega) 4 (by decide) w)
 have L2:=Lib.hid (fun V=>(show Calls Tryz.prog 91 #[.int .u64 d,.int .i64 2] V fun e w'=>NOut V w' (lowB 2 d) e from low10_any d hd.1 (by omega) 2 (by decide) V))
 have L8:=Lib.hid (fun V=>(show Calls Tryz.prog 91 #[.int .u64 v,.int .i64 8] V fun e w'=>NOut V w' (lowB 8 v) e from low10_any v hv.1 hv.2 8 (by decide) V))
 have l4:=lowB_len 4 (P:Int)
 have l2:=lowB_len 2 d
 have l8:=lowB_len 8 v
 have hE:entV P k s d v=((lowB 4 P ++ [k,s]) ++ lowB 2 d) ++ lowB 8 v:=by
  have e1:lowB 1 k=[k]:=by rw [lowB,lowB];congr 1;omega
  have e2:lowB 1 s=[s]:=by rw [lowB,lowB];congr 1;omega
  unfold entV
  rw [e1,e2]
  simp
 have HE:=Lib.hid hE
 have LE:=Lib.hid (entV_len P k s d v)
 generalize entV P k s d v=EV at *
 generalize lowB 4 (P:Int)=A4 at *
 generalize lowB 2 d=A2 at *
 generalize lowB 8 v=A8 at *
 have H4:=Lib.hid l4
 have H2:=Lib.hid l2
 have H8:=Lib.hid l8
 obtain ⟨k0,k1⟩:=hk
 obtain ⟨s0,s1⟩:=hs
 obtain ⟨d0,d1⟩:=hd
 have hpw:IntKind.u64.wrap (P:Int)=P:=by rw [IntKind.wrap_u64];omega
 have hdw:IntKind.u64.wrap d=d:=by rw [IntKind.wrap_u64];omega
 clear hE l4 l2 l8 hv
 go_enter Tryz.func57,Tryz.ntmps57
 go_wp2_with fail
 refine L4.out.mono ?_
 rintro e w1 ⟨⟨q1,c1,rfl,h1⟩,hg⟩
 rw [H4.out] at h1 ⊢
 have G1:=Lib.hid hg
 have R1:=Lib.hid (RowTo.past (RowTo.refl (base:=w.heap.size) (xs:=A4) (v:=.slice q1 4 c1) (by rw [H4.out];exact h1)) (grown1 w1 (.cells #[.int .u8 k,.int .u8 s] 5)))
 have IB:=Lib.hid (bytes2_new w1 k s)
 have B1:=Lib.hid (Nat.le_trans hg.size (grown1 w1 (.cells #[.int .u8 k,.int .u8 s] 5)).size)
 have O1:=Lib.hid (fun g (e:(Value.slice q1 4 c1).ownBlock=some g)=>(h1.lt g e))
 clear h1 hg
 go_wp2_with (at_builtin;refine wp_append_to rfl (.tmp 14) (.tmp 19) rfl rfl (v:=.slice q1 4 c1) (by rfl) R1.out [k,s] 2 rfl rfl IB.out (by rw [H4.out];decide) B1.out ?_)
 intro q2 c2 w2 hr2
 rw [H4.out] at hr2 ⊢
 obtain ⟨X2,hX2⟩:∃ X,A4 ++ [k,s]=X:=⟨_,rfl⟩
 rw [hX2] at hr2
 have HX2:=Lib.hid hX2
 clear hX2
 have R2:=Lib.hid hr2
 have B2:=Lib.hid (Nat.le_trans (Nat.le_trans G1.out.size (Nat.le_refl _)) hr2.grown.size)
 clear hr2
 go_wp2_with fail
 refine (L2.out w2).mono ?_
 rintro e w3 ⟨⟨q3,c3,rfl,h3⟩,hg⟩
 rw [H2.out] at h3 ⊢
 have R3:=Lib.hid (R2.out.past hg)
 have I3:=Lib.hid (IsBytes.of_own H2.out h3)
 have B3:=Lib.hid (Nat.le_trans B2.out hg.size)
 have LN3:=Lib.hid (show X2.length=6 by rw [← HX2.out,List.length_append,H4.out];rfl)
 clear h3 hg R2
 go_wp2_with (at_builtin;refine wp_append_to rfl (.tmp 21) (.tmp 24) rfl rfl (v:=.slice q2 6 c2) (by rfl) R3.out A2 2 H2.out rfl I3.out (by rw [LN3.out];decide) B3.out ?_)
 intro q4 c4 w4 hr4
 rw [LN3.out] at hr4 ⊢
 obtain ⟨X4,hX4⟩:∃ X,X2 ++ A2=X:=⟨_,rfl⟩
 rw [hX4] at hr4
 have HX4:=Lib.hid hX4
 clear hX4
 have R4:=Lib.hid hr4
 have B4:=Lib.hid (Nat.le_trans G1.out.size hr4.grown.size)
 clear hr4
 go_wp2_with fail
 refine (L8.out w4).mono ?_
 rintro e w5 ⟨⟨q5,c5,rfl,h5⟩,hg⟩
 rw [H8.out] at h5 ⊢
 have R5:=Lib.hid (R4.out.past hg)
 have I5:=Lib.hid (IsBytes.of_own H8.out h5)
 have B5:=Lib.hid (Nat.le_trans B4.out hg.size)
 have LN5:=Lib.hid (show X4.length=8 by rw [← HX4.out,List.length_append,LN3.out,H2.out])
 clear h5 hg R4
 go_wp2_with (at_builtin;refine wp_append_to rfl (.tmp 25) (.tmp 27) rfl rfl (v:=.slice q4 8 c4) (by rfl) R5.out A8 8 H8.out rfl I5.out (by rw [LN5.out];decide) B5.out ?_)
 intro q6 c6 w6 hr6
 rw [LN5.out,show X4 ++ A8=EV by rw [HE.out,← HX4.out,← HX2.out]] at hr6
 rw [LN5.out]
 have R6:=Lib.hid hr6
 clear hr6
 go_wp2
 go_ret
 refine ⟨⟨q6,c6,by rw [LE.out];rfl,?_⟩,grown_own G1.out R6.out.grown (fun g e=>(O1.out g e).1) (Nat.le_refl _)⟩
 have:=R6.out.own
 rw [LE.out] at this ⊢
 exact this
end Go.Proofs.YtkmbkpoclhbmgaaGreat
namespace Go.Proofs.YtkmbkpoclhbmgaaGreat
open Go.RowKit
variable {w w' W V:World} {D:Syms}
structure Boxed10 (p:Prop):Prop where
 out:p
structure MkI (w3 wr:World) (D:Syms) (n:Nat) (vi:Value):Prop where
 ex:∃ k:Nat,k≤n∧vi=.int .i64 (k:Int)∧∀ (i j:Nat) (x y:Sym),i < j→j < k→D[i]?=some x→D[j]?=some y→x.1≠y.1
 grown:w3.grownBy wr none
structure MkJ (w3 wr:World) (D:Syms) (i:Nat) (y:Sym) (vk:Value):Prop where
 ex:∃ k:Nat,k≤i∧vk=.int .i64 (k:Int)∧∀ (j:Nat) (x:Sym),j < k→D[j]?=some x→x.1≠y.1
 grown:w3.grownBy wr none
structure MkL (w wr:World) (D:Syms) (n:Nat) (vt vn vi:Value):Prop where
 ex:∃ (k:Nat) (qa:Option Addr) (ca:Nat) (qb:Option Addr) (cb:Nat),k≤n∧vi=.int .i64 (k:Int)∧vt=.slice qa (16 * k) ca∧vn=.slice qb (nmB (D.take k)).length cb∧Duo w wr (.slice qa (16 * k) ca) (tabS D k) (.slice qb (nmB (D.take k)).length cb) (nmB (D.take k))
theorem ent_is (P:Nat) (x:Sy):entSy (P:Int) x=entV (P:Int) (kindS x) x.sec (descS x) x.value:=rfl
set_option maxRecDepth 20000 in
set_option maxHeartbeats 6400000 in
theorem refMake10_any {q:Option Addr} {n c:Nat} (hn:D.length=n) (hD:SysAt w q D) (hfew:n≤5000) (hm:∀ y∈D,SyFits y.1 y.2) :
  Calls Tryz.prog 23 #[.slice q n c] w fun r w'=>MkO w w' D r:=by
 have HD:=Lib.hid hD
 have HN:=Lib.hid hn
 have HM:=Lib.hid hm
 clear hD hm hn
 go_enter Tryz.func23,Tryz.ntmps23
 go_wp2
 go_loopw [5] (fun vi wr=>Boxed10 (∃ k:Nat,k≤n∧vi=.int .i64 (k:Int)∧w.grownBy wr none∧∀ (i:Nat) (y:Sym),i < k→D[i]?=some y→mayS y.1 y.2=true)) (fun vi _=>n - (intOf vi).toNat)
 case atStart=>exact .mk ⟨0,Nat.zero_le _,rfl,grown_refl _ _,fun i y h=>by omega⟩
 case round =>
  obtain ⟨k,hk,rfl,hg,hmay⟩:=hrel.out
  have G:=Lib.hid hg
  have MY:=Lib.hid hmay
  by_cases hlt:k < n
  ·obtain ⟨y,hy⟩:∃ y,D[k]?=some y:=⟨_,List.getElem?_eq_getElem (by rw [HN.out];exact hlt)⟩
   obtain ⟨gq,oq,rfl,a0,a1,a2,a3⟩:=(HD.out.grown hg).at hy
   have hmy:=HM.out y (List.mem_of_getElem? hy)
   have M:=Lib.hid (refMay10_any (x:=y.2) hmy.name hmy.len wr)
   have dl:decide ((k:Int) < (n:Int))=true:=by simp;omega
   have hkI:(k:Int) < (n:Int):=by omega
   obtain ⟨b,hb⟩:∃ b,b=mayS y.1 y.2:=⟨_,rfl⟩
   rw [← hb] at M
   have HB:=Lib.hid hb
   have HYY:=Lib.hid hy
   unfold syV syArr at M
   clear hg hmay hrel hy hmy hb
   go_wp2_with fail
   refine M.out.mono ?_
   rintro e w2 ⟨rfl,hg⟩
   have G2:=Lib.hid (grown_trans G.out hg)
   clear hg M a0 a1 a2 a3
   cases b
   ·have EE:=Lib.hid (show mkErr D=2 by
     unfold mkErr
     rw [if_pos]
     unfold mayAll
     rw [List.all_eq_false]
     exact ⟨y,List.mem_of_getElem? HYY.out,by rw [← HB.out];decide⟩)
    go_wp2
    go_ret3
    exact MkO.no G2.out EE.out (by decide)
   ·have NW:=Lib.hid (show Boxed10 (∃ k':Nat,k'≤n∧Value.int .i64 ((k:Int) + 1)=.int .i64 (k':Int)∧w.grownBy w2 none∧∀ (i:Nat) (y:Sym),i < k'→D[i]?=some y→mayS y.1 y.2=true) from .mk ⟨k + 1,hlt,by simp,G2.out,fun i z hi hz=>by
     rcases Nat.lt_or_ge i k with h | h
     ·exact MY.out i z h hz
     ·obtain rfl:i=k:=by omega
      rw [HYY.out] at hz
      injection hz with hz
      rw [← hz];exact HB.out.symm⟩)
    go_wp2
    go_roundw
    case rel=>exact NW.out
    case measure=>simp [intOf];omega
  ·have hkn:n=k:=by omega
   subst hkn
   have dl:decide ((n:Int) < (n:Int))=false:=by simp
   have ALL:=Lib.hid (show ∀ y∈D,mayS y.1 y.2=true from fun y hy=>by
    obtain ⟨i,hi,rfl⟩:=List.getElem_of_mem hy
    exact hmay i _ (by rw [← HN.out];exact hi) (List.getElem?_eq_getElem hi))
   have HA:=Lib.hid (show mayAll D=true from by
    unfold mayAll
    rw [List.all_eq_true]
    exact ALL.out)
   have g1:=grown1 wr (.cells #[.int .u8 0] 5)
   have s1:Duo w (wr.alloc (.cells #[.int .u8 0] 5)) (.slice none (16 * 0) 0) (tabS D 0) (.slice (some ⟨wr.heap.size,0,none⟩) (nmB (D.take 0)).length 1) (nmB (D.take 0)) :=
    ⟨World.ownsRow_nil _ _ _ _,World.ownsRow_lit wr #[.int .u8 0] 1 hg.size (by decide) rfl,fun g hg=>(by cases hg),grown_trans hg g1⟩
   have ST:=Lib.hid (show MkL w (wr.alloc (.cells #[.int .u8 0] 5)) D n (.slice none 0 0) (.slice (some ⟨wr.heap.size,0,none⟩) 1 1) (.int .i64 0) from ⟨⟨0,_,_,_,_,Nat.zero_le _,rfl,rfl,rfl,s1⟩⟩)
   clear hg hmay hrel g1 s1 MY G
   go_wp2
   go_loopw [6,7,8] (fun vt vn vi wr=>MkL w wr D n vt vn vi) (fun _ _ vi _=>n - (intOf vi).toNat)
   case atStart=>exact ST.out
   case round =>
    obtain ⟨⟨i,qa,ca,qb,cb,hi,rfl,rfl,rfl,hduo⟩⟩:=hrel
    have DU:=Lib.hid hduo
    by_cases hlt:i < n
    ·obtain ⟨y,hy⟩:∃ y,D[i]?=some y:=⟨_,List.getElem?_eq_getElem (by rw [HN.out];exact hlt)⟩
     obtain ⟨gq,oq,rfl,a0,a1,a2,a3⟩:=(HD.out.grown hduo.grown).at hy
     have hmy:=ALL.out y (List.mem_of_getElem? hy)
     obtain ⟨m1,m2,m3,m4,m5⟩:=mayS_is hmy
     have hfy:=HM.out y (List.mem_of_getElem? hy)
     have BY:=Lib.hid hfy.name
     have hst:(strOfNums y.1).size=y.1.length:=strOfNums_size _
     have TT:=Lib.hid (tabS_take hy)
     have NT:=Lib.hid (nmB_take hy)
     have nl:=nmB_len_le (l:=D.take i) (fun y hy=>(mayS_is (ALL.out y (List.mem_of_mem_take hy))).2.1)
     rw [List.length_take] at nl
     have dl:decide ((i:Int) < (n:Int))=true:=by simp;omega
     have hiI:(i:Int) < (n:Int):=by omega
     obtain ⟨P,hP⟩:∃ P,P=(nmB (D.take i)).length:=⟨_,rfl⟩
     obtain ⟨Tn,hTn⟩:∃ T,T=16 * i:=⟨_,rfl⟩
     have hkd:(decide (0 < y.2.sec)=true∧kindS y.2=15)∨(decide (0 < y.2.sec)=false∧kindS y.2=3):=by
      unfold kindS
      by_cases h:y.2.sec=0
      ·exact .inr ⟨by simp;omega,by rw [if_pos h]⟩
      ·exact .inl ⟨by simp;omega,by rw [if_neg h]⟩
     have hds:(y.2.weak=true∧descS y.2=128)∨(y.2.weak=false∧descS y.2=0):=by
      unfold descS
      cases y.2.weak
      ·exact .inr ⟨rfl,rfl⟩
      ·exact .inl ⟨rfl,rfl⟩
     have EN:=Lib.hid (fun (V:World)=>entry10_any P (by omega) (kindS y.2) (by unfold kindS;split <;> decide) y.2.sec (by omega) (descS y.2) (by unfold descS;split <;> decide) y.2.value hfy.value V)
     rw [hP,← ent_is,← hP] at EN
     rw [← hP,← hTn]
     rw [← hP,← hTn] at hduo
     obtain ⟨EV,hEV⟩:∃ EV,EV=entSy (P:Int) y.2:=⟨_,rfl⟩
     rw [← hEV] at EN
     have LE:=Lib.hid (show EV.length=16 by rw [hEV];exact entS_len _ _)
     rw [← hP,← hEV] at TT
     obtain ⟨TS,hTS⟩:∃ TS,TS=tabS D i:=⟨_,rfl⟩
     rw [← hTS] at TT hduo
     have LT:=Lib.hid (show TS.length=Tn by rw [hTS,tabS_len,hTn])
     have DD:=Lib.hid (show Duo w wr.drew _ _ _ _ from hduo.past (show wr.grownBy wr.drew none from grown_drewN (grown_refl wr none) 1))
     have GR:=Lib.hid (show wr.grownBy wr.drew none from grown_drewN (grown_refl wr none) 1)
     have KK:=Lib.hid (And.intro hkd hds)
     have HP:=Lib.hid hP
     have HT:=Lib.hid hTn
     have hPI:(P:Int)≤1400000:=by omega
     have hTI:Tn≤80000:=by omega
     obtain ⟨g',o',e',z0,z1,z2,z3⟩:=HD.out.at hy
     injection e' with e'
     injection e' with e1 e2 _
     subst e1 e2
     have Z0:=Lib.hid z0
     have Z1:=Lib.hid z1
     have Z2:=Lib.hid z2
     clear z0 z1 z2 z3
     clear hduo hy hmy m1 m3 hP hTn hfy DU nl
     rcases hkd with ⟨hk1,hk2⟩ | ⟨hk1,hk2⟩ <;> rcases hds with ⟨hd1,hd2⟩ | ⟨hd1,hd2⟩
     all_goals
      rw [hk2,hd2] at EN
      rw [hd1] at a3
      clear hk2 hd2
      have RC:=Lib.hid (RowTo.refl DD.out.a)
      have BC:=Lib.hid DD.out.grown.size
      have y1:wr.drew.cell? ⟨gq,oq + i * 4 + 1,none⟩=some (.int .i64 y.2.sec):=a1
      have y2:wr.drew.cell? ⟨gq,oq + i * 4 + 2,none⟩=some (.int .u64 y.2.value):=a2
      have Y1:=Lib.hid y1
      have Y2:=Lib.hid y2
      go_wp2
      go_region_held3 (fun X=>X.cell? ⟨gq,oq + i * 4 + 1,none⟩=some (.int .i64 y.2.sec)∧X.cell? ⟨gq,oq + i * 4 + 2,none⟩=some (.int .u64 y.2.value))
       (exact ⟨y1,y2⟩)
       (first
         |(go_simp;go_at_call 57;(with_reducible refine (EN.out _).mono ?_);rintro e x1 ⟨⟨qe,ce,rfl,hoe⟩,hge⟩;rw [LE.out] at hoe ⊢;have BE:=Lib.hid (IsBytes.of_own LE.out hoe);have RD:=Lib.hid (RC.out.past hge);have BD:=Lib.hid (Nat.le_trans BC.out hge.size);clear y1 y2;have y1:=grown_cell hge Y1.out;have y2:=grown_cell hge Y2.out)
         |(refine step_append_to (by with_reducible rfl) _ _ (by with_reducible rfl) (by with_reducible rfl) (v:=.slice qa Tn ca) (by rfl) RD.out EV 16 LE.out (by rfl) BE.out (by rw [LT.out];omega) BD.out ?_;intro q2 c2 x2 hr2;rw [LT.out,← TT.out] at hr2;rw [LT.out];have D2:=DD.out.step hr2;clear y1 y2;have y1:=grown_cell D2.grown Z1.out;have y2:=grown_cell D2.grown Z2.out))
      have D3:=Lib.hid D2
      have B3:=Lib.hid D2.grown.size
      have RB:=Lib.hid (RowTo.refl D2.symm.a)
      have b0:=grown_cell D2.grown Z0.out
      have HPB:=Lib.hid (show (nmB (D.take i)).length + y.1.length≤140737488355328 by rw [← HP.out];omega)
      clear hr2 D2 y1 y2 BE RD BD RC BC DD
      go_wp2_with (at_builtin;refine wp_append_sto rfl (.tmp 60) (.tmp 65) rfl rfl (v:=.slice qb P cb) (by rfl) RB.out y.1 BY.out (by rfl) HPB.out B3.out ?_)
      intro q4 c4 w4 hr4
      rw [← HP.out] at hr4 ⊢
      have R4:=Lib.hid (RowTo.past hr4 (grown1 w4 (.cells #[.int .u8 0] 5)))
      have B4:=Lib.hid (Nat.le_trans B3.out (Nat.le_trans hr4.grown.size (grown1 w4 (.cells #[.int .u8 0] 5)).size))
      have IB:=Lib.hid (byte_new w4 0)
      have L4:=Lib.hid (show (nmB (D.take i) ++ y.1).length=P + y.1.length by rw [List.length_append,← HP.out])
      have HP4:=Lib.hid (show (nmB (D.take i) ++ y.1).length + 1≤140737488355328 by rw [L4.out];omega)
      clear hr4 b0
      go_wp2_with (at_builtin;refine wp_append_to rfl (.tmp 66) (.tmp 67) rfl rfl (v:=.slice q4 (P + y.1.length) c4) (by rfl) R4.out [0] 1 rfl rfl IB.out HP4.out B4.out ?_)
      intro q5 c5 w5 hr5
      rw [← HP.out,← NT.out] at hr5
      rw [← HP.out]
      have L5:=Lib.hid hr5.len
      have D5:=D3.out.symm.step hr5
      have DE:=Lib.hid D5.symm
      clear hr5 D5
      go_wp2
      go_roundw
      case rel=>exact ⟨⟨i + 1,q2,c2,q5,c5,hlt,by simp,by rw [HT.out];rfl,by rw [L5.out],by rw [L5.out,show 16 * (i + 1)=Tn + 16 by rw [HT.out];omega];exact DE.out⟩⟩
      case measure=>simp [intOf];omega
    ·have hin:n=i:=by omega
     subst hin
     have dl:decide ((n:Int) < (n:Int))=false:=by simp
     have htk:nmB (D.take n)=nmB D:=by rw [← HN.out,List.take_length]
     rw [htk] at hduo ⊢
     obtain ⟨P,hP⟩:∃ P,P=(nmB D).length:=⟨_,rfl⟩
     obtain ⟨Tn,hTn⟩:∃ T,T=16 * n:=⟨_,rfl⟩
     rw [← hP,← hTn] at hduo ⊢
     have D3:=Lib.hid hduo
     have G3:=Lib.hid hduo.grown
     have HP:=Lib.hid hP
     have HT:=Lib.hid hTn
     have nl:=nmB_len_le (l:=D) (fun y hy=>(mayS_is (ALL.out y hy)).2.1)
     rw [HN.out,← hP] at nl
     have hPI:P≤1400000:=by omega
     clear hduo htk hP hTn DU nl
     by_cases h4 : 4096 < n
     ·have d4:decide ((4096:Int) < (n:Int))=true:=by simp;omega
      have EE:=Lib.hid (show mkErr D=11 by unfold mkErr;rw [if_neg (by rw [HA.out];decide),if_pos (.inl (by rw [HN.out];exact h4))])
      clear h4
      go_wp2
      go_ret3
      exact MkO.no G3.out EE.out (by decide)
     ·have d4:decide ((4096:Int) < (n:Int))=false:=by simp;omega
      by_cases hb : 1048576 < P
      ·have db:decide ((1048576:Int) < (P:Int))=true:=by simp;omega
       have EE:=Lib.hid (show mkErr D=11 by unfold mkErr;rw [if_neg (by rw [HA.out];decide),if_pos (.inr (by rw [← HP.out];exact hb))])
       clear h4 hb
       go_wp2
       go_ret3
       exact MkO.no G3.out EE.out (by decide)
      ·have db:decide ((1048576:Int) < (P:Int))=false:=by simp;omega
       have HE:=Lib.hid (show mkErr D=if twB D=true then 21 else 0 by unfold mkErr;rw [if_neg (by rw [HA.out];decide),if_neg (fun h=>h.elim (fun h=>h4 (by rw [← HN.out];exact h)) (fun h=>hb (by rw [HP.out];exact h)))])
       have ST3:=Lib.hid (show MkI wr wr D n (.int .i64 0) from ⟨⟨0,Nat.zero_le _,rfl,fun i j x y _ h=>by omega⟩,grown_refl _ _⟩)
       clear h4 hb
       go_wp2
       obtain ⟨w3,hw3⟩:∃ W,W=wr:=⟨_,rfl⟩
       rw [← hw3] at ST3 G3 D3
       have SD3:=Lib.hid (HD.out.grown G3.out)
       rw [← hw3]
       go_loopw [11] (fun vi wr=>MkI w3 wr D n vi) (fun vi _=>n - (intOf vi).toNat)
       case atStart=>exact ST3.out
       case round =>
         obtain ⟨⟨k,hk,rfl,hdis⟩,hg⟩:=hrel
         have GG:=Lib.hid hg
         have DI:=Lib.hid hdis
         by_cases hlt:k < n
         ·obtain ⟨y,hy⟩:∃ y,D[k]?=some y:=⟨_,List.getElem?_eq_getElem (by rw [HN.out];exact hlt)⟩
          have dl:decide ((k:Int) < (n:Int))=true:=by simp;omega
          have dl2:decide (k < n)=true:=decide_eq_true hlt
          have hkI:(k:Int) < (n:Int):=by omega
          have HYY:=Lib.hid hy
          have BYN:=Lib.hid (HM.out y (List.mem_of_getElem? hy)).name
          have STJ:=Lib.hid (show MkJ w3 wr D k y (.int .i64 0) from ⟨⟨0,Nat.zero_le _,rfl,fun j x h=>by omega⟩,GG.out⟩)
          clear hg hdis hy
          go_wp2
          go_loopw [12] (fun vk wr=>MkJ w3 wr D k y vk) (fun vk _=>k - (intOf vk).toNat)
          case atStart=>exact STJ.out
          case round =>
            obtain ⟨⟨j,hj,rfl,hno⟩,hgj⟩:=hrel
            have GJ:=Lib.hid hgj
            have NO:=Lib.hid hno
            by_cases hjk:j < k
            ·obtain ⟨x,hx⟩:∃ x,D[j]?=some x:=⟨_,List.getElem?_eq_getElem (by rw [HN.out];omega)⟩
             obtain ⟨g1,o1,e1,a0,a1,a2,a3⟩:=(SD3.out.grown hgj).at hx
             obtain ⟨g2,o2,e2,b0,b1,b2,b3⟩:=(SD3.out.grown hgj).at HYY.out
             rw [e1] at e2
             injection e2 with e2
             injection e2 with e3 e4 _
             subst e1 e3 e4
             have dj:decide ((j:Int) < (k:Int))=true:=by simp;omega
             have dj2:decide (j < k)=true:=decide_eq_true hjk
             have hjI:(j:Int) < (n:Int):=by omega
             have ee:=text_same (HM.out x (List.mem_of_getElem? hx)).name BYN.out
             have HXX:=Lib.hid hx
             clear hx hno hgj a1 a2 a3 b1 b2 b3
             by_cases hs:x.1=y.1
             ·rw [decide_eq_true hs] at ee
              have EE:=Lib.hid (show mkErr D=21 by
               rw [HE.out,if_pos]
               cases h:twB D with
               | true=>rfl
               | false =>
                have hp:=twB_no h
                obtain ⟨h1,r1⟩:=List.getElem?_eq_some_iff.1 HXX.out
                obtain ⟨h2,r2⟩:=List.getElem?_eq_some_iff.1 HYY.out
                have:=List.pairwise_iff_getElem.1 hp j k h1 h2 hjk
                rw [r1,r2] at this
                exact absurd hs this)
              have GF:=Lib.hid (grown_trans G3.out GJ.out)
              clear hs
              go_wp2
              go_quiet (fail)
              go_wp2
              go_ret3
              exact MkO.no (grown_drewN GF.out _) EE.out (by decide)
             ·rw [decide_eq_false hs] at ee
              have HS:=Lib.hid hs
              have NW:=Lib.hid (fun m=>(⟨⟨j + 1,hjk,by simp,fun i' z hi hz=>by
               rcases Nat.lt_or_ge i' j with h | h
               ·exact NO.out i' z h hz
               ·obtain rfl:i'=j:=by omega
                rw [HXX.out] at hz
                injection hz with hz
                rw [← hz];exact HS.out⟩,grown_drewN GJ.out m⟩:MkJ w3 (wr.drewN m) D k y (.int .i64 ((j:Int) + 1))))
              clear hs
              go_wp2
              go_quiet (fail)
              go_wp2
              go_roundw
              case rel=>exact NW.out _
              case measure=>simp [intOf];omega
            ·have hjk2:j=k:=by omega
             subst hjk2
             have dj:decide ((j:Int) < (j:Int))=false:=by simp
             have NW:=Lib.hid (show MkI w3 wr D n (.int .i64 ((j:Int) + 1)) from ⟨⟨j + 1,hlt,by simp,fun i1 i2 x z h1 h2 hx hz=>by
              rcases Nat.lt_or_ge i2 j with h | h
              ·exact DI.out i1 i2 x z h1 h hx hz
              ·obtain rfl:i2=j:=by omega
               rw [HYY.out] at hz
               injection hz with hz
               rw [← hz];exact NO.out i1 x h1 hx⟩,GJ.out⟩)
             clear hno hgj
             go_wp2
             go_roundw
             case rel=>exact NW.out
             case measure=>simp [intOf];omega
         ·have hkn:n=k:=by omega
          subst hkn
          have dl:decide ((n:Int) < (n:Int))=false:=by simp
          have EE:=Lib.hid (show mkErr D=0 by
            rw [HE.out,if_neg]
            intro h
            refine twB_yes h (List.pairwise_iff_getElem.2 fun i j hi hj hij=>?_)
            exact hdis i j _ _ hij (by rw [← HN.out];exact hj) (List.getElem?_eq_getElem hi) (List.getElem?_eq_getElem hj))
          have DF:=Lib.hid (D3.out.past hg)
          clear hg hdis
          go_wp2
          go_ret3
          have hd:=DF.out
          obtain rfl:=HP.out
          obtain rfl:=HT.out
          have e1:mkT D=tabS D n:=by unfold mkT;rw [if_pos EE.out,HN.out]
          have e2:mkN D=nmB D:=by unfold mkN;rw [if_pos EE.out]
          have tl:(tabS D n).length=16 * n:=tabS_len _ _
          have ha:=hd.a
          rw [tl] at ha
          have ca':=own_cap ha
          have cb':=own_cap hd.b
          refine ⟨⟨qa,ca,qb,cb,by rw [e1,e2,EE.out,tl];rfl,?_,?_,?_⟩,hd.grown⟩
          · rw [e1];exact IsBytes.of_own tl ha
          · rw [e2];exact IsBytes.of_own rfl hd.b
          · rw [e1,e2,tl];exact ⟨ca'.1,ca'.2,cb'.1,cb'.2⟩
end Go.Proofs.YtkmbkpoclhbmgaaGreat
namespace Go.Proofs.YtkmbkpoclhbmgaaGreat
open Go.RowKit
def exA:Out:=[([97],⟨1,false,16,0,0,[]⟩)]
def syB:Syms:=[([98],⟨1,4128,false⟩)]
def exB:Out:=[([98],⟨1,false,32,0,0,[]⟩)]
def triA:List Int:=lastB exA 3
theorem triA_fix:roundsN (plan 257 exA 0 0) 4=roundsN (plan 257 exA 0 0) 3:=by kernel_rfl
theorem triA_len:triA.length≤1048576:=by decide +kernel
theorem exA_0:mkE0 exA=0:=by
 unfold mkE0
 rw [if_pos (by decide +kernel),if_neg (by decide +kernel),if_pos (by simp [exA])]
theorem mkA {E:Int} {B:List Int} (h:MkIs exA E B):E=0∧B=triA:=by
 obtain ⟨R,t,hp,hu,hf,h1,h2⟩:=h.yes exA_0 (by simp [exA])
 have hR:R=exA:=List.perm_singleton.1 hp
 subst hR
 have e:lastB exA t=triA:=by
  unfold triA lastB
  rw [rounds_one hf triA_fix]
 rw [e] at h1 h2
 exact h2 triA_len
theorem triA_all:allN triA=(exA,0):=by kernel_rfl
theorem part_z (Z T B S:List Int) (z:Nat) (hz:Z.length=z):partN (((Z ++ T) ++ B) ++ S) (z:Int) (T.length:Int)=T∧partN (((Z ++ T) ++ B) ++ S) ((z:Int) + (T.length:Int)) (B.length:Int)=B∧partN (((Z ++ T) ++ B) ++ S) ((z:Int) + ((T.length:Int) + (B.length:Int))) (S.length:Int)=S:=by
 have hl:(((Z ++ T) ++ B) ++ S).length=z + T.length + B.length + S.length:=by simp only [List.length_append,hz]
 refine ⟨?_,?_,?_⟩
 ·rw [partN_in (by unfold withinN;rw [hl];exact decide_eq_true (by omega)),show (z:Int).toNat=Z.length by rw [hz];omega]
  simp [List.append_assoc]
 ·rw [partN_in (by unfold withinN;rw [hl];exact decide_eq_true (by omega)),show ((z:Int) + (T.length:Int)).toNat=(Z ++ T).length by rw [List.length_append,hz];omega]
  rw [List.append_assoc (Z ++ T),List.drop_left]
  simp
 ·rw [partN_in (by unfold withinN;rw [hl];exact decide_eq_true (by omega)),show ((z:Int) + ((T.length:Int) + (B.length:Int))).toNat=((Z ++ T) ++ B).length by rw [List.length_append,List.length_append,hz];omega]
  rw [List.drop_left]
  simp
theorem part_tr {T B S:List Int}:partN (plB T B S) 4096 (T.length:Int)=T:=(part_z (List.replicate 4096 0) T B S 4096 List.length_replicate).1
theorem part_sy {T B S:List Int}:partN (plB T B S) (4096 + (T.length:Int)) (B.length:Int)=B:=(part_z (List.replicate 4096 0) T B S 4096 List.length_replicate).2.1
theorem part_st {T B S:List Int}:partN (plB T B S) (4096 + ((T.length:Int) + (B.length:Int))) (S.length:Int)=S:=(part_z (List.replicate 4096 0) T B S 4096 List.length_replicate).2.2
theorem raw_plain (T B S:List Int):expRaw (plB T B S) (plSt T.length B.length S.length)=if 0 < (T.length:Int) then ((allN T).2,srtN (allN T).1) else if 0 < (B.length:Int) then ((nlAll B S 1).1,srtN ((nlAll B S 1).2.map (symEx 4096))) else (0,[]):=by
 unfold expRaw
 simp only [plSt]
 rw [part_tr,part_sy,part_st]
 have e1:(secN [plSeg]:Int)=1:=rfl
 have e2:lowN [plSeg]=4096:=rfl
 rw [e1,e2]
 rfl
theorem srtN_1 (y:List Int × Ex):srtN [y]=[y]:=by unfold srtN;exact List.mergeSort_singleton y
theorem all_plainA (B S:List Int):expAll (plB triA B S) (plSt triA.length B.length S.length) 1=(0,exA):=by
 have r:=raw_plain triA B S
 rw [if_pos (by decide +kernel),triA_all] at r
 simp only [exA,srtN_1] at r
 unfold expAll
 rw [r]
 rfl
theorem all_plainB:expAll (plB [] (mkT syB) (mkN syB)) (plSt 0 (mkT syB).length (mkN syB).length) 1=(0,exB):=by
 unfold expAll
 have r:=raw_plain [] (mkT syB) (mkN syB)
 rw [if_neg (by simp),if_pos (by decide +kernel)] at r
 have n:nlAll (mkT syB) (mkN syB) 1=(0,syB):=by kernel_rfl
 rw [n] at r
 have m:syB.map (symEx 4096)=exB:=by kernel_rfl
 simp only [m] at r
 simp only [List.length_nil] at r
 rw [r]
 simp only [exB,srtN_1]
 rfl
end Go.Proofs.YtkmbkpoclhbmgaaGreat
namespace Go.Proofs.YtkmbkpoclhbmgaaGreat
open Go.RowKit
variable {w w' W V:World}
theorem exA_fit:ExsFit exA:=by
 refine ⟨?_,?_,?_,?_,?_⟩ <;> (intro y hy;rw [exA,List.mem_singleton] at hy;subst hy)
 ·intro z hz;simp at hz;subst hz;decide
 ·intro z hz;cases hz
 ·decide
 ·decide
 ·decide
theorem exA_at (w:World):ExsAt (w.alloc (.cells #[.string ⟨#[97]⟩,.int .i64 1,.bool false,.int .u64 16,.int .u64 0,.int .u64 0,.string ⟨#[]⟩] 28 (0,0))) (some ⟨w.heap.size,0,none⟩) exA:=by
 intro i y hy
 rcases i with _ | i
 ·injection hy with hy
  subst hy
  refine ⟨_,0,rfl,fun j hj=>?_⟩
  rw [cell_of (heap_alloc_new w _)]
  rcases (show j=0∨j=1∨j=2∨j=3∨j=4∨j=5∨j=6 by omega) with rfl | rfl | rfl | rfl | rfl | rfl | rfl <;> rfl
 ·simp [exA] at hy
theorem syB_at (w:World):SysAt (w.alloc (.cells #[.string ⟨#[98]⟩,.int .i64 1,.int .u64 4128,.bool false] 95 (0,0))) (some ⟨w.heap.size,0,none⟩) syB:=by
 intro i y hy
 rcases i with _ | i
 ·injection hy with hy
  subst hy
  refine ⟨_,0,rfl,fun j hj=>?_⟩
  rw [cell_of (heap_alloc_new w _)]
  rcases (show j=0∨j=1∨j=2∨j=3 by omega) with rfl | rfl | rfl | rfl <;> rfl
 ·simp [syB] at hy
theorem syB_fit:∀ y∈syB,SyFits y.1 y.2:=by
 intro y hy
 rw [syB,List.mem_singleton] at hy
 subst hy
 refine ⟨?_,by decide,by decide,by decide⟩
 intro z hz;simp at hz;subst hz;decide
theorem triA_byt:Byt triA:=by
 have h:triA.all (fun z=>decide (0≤z) && decide (z < 256))=true:=by decide +kernel
 intro z hz
 have:=List.all_eq_true.1 h z hz
 simpa using this
theorem mkT_byt:Byt (mkT syB):=by
 have h:(mkT syB).all (fun z=>decide (0≤z) && decide (z < 256))=true:=by decide +kernel
 intro z hz
 have:=List.all_eq_true.1 h z hz
 simpa using this
theorem mkN_byt:Byt (mkN syB):=by
 have h:(mkN syB).all (fun z=>decide (0≤z) && decide (z < 256))=true:=by decide +kernel
 intro z hz
 have:=List.all_eq_true.1 h z hz
 simpa using this
set_option maxRecDepth 20000 in
set_option maxHeartbeats 3200000 in
theorem known11_any (w:World):Calls Tryz.prog 15 #[] w fun e w'=>e=.returned (.bool true)∧w.grownBy w' none:=by
 have RA:=Lib.hid (refMake_any (D:=exA) rfl exA_fit (by decide) (by intro y hy;rw [exA,List.mem_singleton] at hy;subst hy;decide) (Nat.le_refl 1) (by decide) (exA_at w))
 have g1:=grown1 w (.cells #[.string ⟨#[97]⟩,.int .i64 1,.bool false,.int .u64 16,.int .u64 0,.int .u64 0,.string ⟨#[]⟩] 28 (0,0))
 have G1:=Lib.hid g1
 clear g1
 go_enter Tryz.func15,Tryz.ntmps15
 go_upto_region 2 with (go_at_call 11;refine RA.out.mono ?_;rintro e w2 ⟨⟨E,B,q,c,rfl,hm,ho⟩,hg⟩;obtain ⟨rfl,rfl⟩:=mkA hm)
 have BT:=Lib.hid (IsBytes.of_own rfl ho)
 have CT:=Lib.hid (own_cap2 ho)
 have G2:=Lib.hid (grown_trans G1.out hg)
 clear hm ho hg RA
 have RB:=Lib.hid (refMake10_any (D:=syB) (w:=w2.alloc (.cells #[.string ⟨#[98]⟩,.int .i64 1,.int .u64 4128,.bool false] 95 (0,0))) (q:=some ⟨w2.heap.size,0,none⟩) (c:=1) rfl (syB_at w2) (by decide) syB_fit)
 have G3:=Lib.hid (grown_trans G2.out (grown1 w2 (.cells #[.string ⟨#[98]⟩,.int .i64 1,.int .u64 4128,.bool false] 95 (0,0))))
 have S3:=Lib.hid (grown1 w2 (.cells #[.string ⟨#[98]⟩,.int .i64 1,.int .u64 4128,.bool false] 95 (0,0)))
 obtain ⟨nt,hnt⟩:∃ n,n=triA.length:=⟨_,rfl⟩
 rw [← hnt]
 have NT:=Lib.hid hnt.symm
 have FT:=Lib.hid (show nt≤1000000000 by rw [hnt];exact Nat.le_trans triA_len (by decide))
 clear hnt
 go_upto_region 3 with (go_at_call 23;refine RB.out.mono ?_;rintro e w4 ⟨⟨qa,ca,qb,cb,rfl,ba,bb,c1,c2,c3,c4⟩,hg⟩)
 obtain ⟨nb,hnb⟩:∃ n,n=(mkT syB).length:=⟨_,rfl⟩
 obtain ⟨ns,hns⟩:∃ n,n=(mkN syB).length:=⟨_,rfl⟩
 rw [← hnb,← hns]
 have NB:=Lib.hid hnb.symm
 have NS:=Lib.hid hns.symm
 have FB:=Lib.hid (show nb≤1000000000 by rw [hnb];decide +kernel)
 have FS:=Lib.hid (show ns≤1000000000 by rw [hns];decide +kernel)
 have BA:=Lib.hid ba
 have BB:=Lib.hid bb
 have G4:=Lib.hid (grown_trans G3.out hg)
 have BT4:=Lib.hid (BT.out.kept (grown_trans S3.out hg) (by simp))
 have PL:=Lib.hid (plain_any (T:=triA) (B:=mkT syB) (S:=mkN syB) NT.out NB.out NS.out BT4.out ba bb ⟨FT.out,FB.out,FS.out⟩ triA_byt mkT_byt mkN_byt)
 have PN:=Lib.hid (fun (V:World) (h:w4.grownBy V none)=>plain_any (w:=V) (T:=[]) (B:=mkT syB) (S:=mkN syB) (qt:=none) (ct:=0) rfl NB.out NS.out IsBytes.nil (ba.kept h (by simp)) (bb.kept h (by simp)) ⟨by decide,FB.out,FS.out⟩ (fun z hz=>by cases hz) mkT_byt mkN_byt)
 clear hnb hns ba bb c1 c2 c3 c4 hg RB S3 BT CT
 go_upto_region 4 with (first
  |(go_at_call 24;refine PL.out.mono ?_;rintro e w5 ⟨⟨q5,c5,x5,qs5,qd5,rfl,hi⟩,hg⟩;rw [NT.out,NB.out,NS.out] at hi ⊢;have I5:=Lib.hid (hi w5 none (grown_refl _ _) (by simp));have G5:=Lib.hid (grown_trans G4.out hg);have GP:=Lib.hid hg;clear hi hg)
  |(refine wpList_alloc rfl 48 _ rfl (img_alloc _) ?_;skip)
  |(refine wpList_store_img (h:=⟨2,0,0⟩) (s:=plSt nt nb ns) (sv:=.slice qs5 1 1) (dv:=.slice qd5 1 1) rfl (.tmp 7) (.tmp 31) rfl (by kernel_rfl) (by kernel_rfl) (heap_alloc_new _ _) ⟨_,_,_,rfl⟩ ⟨_,_,_,rfl⟩ ?_))
 obtain ⟨M,hM⟩:∃ M,M=w5.heap.size:=⟨_,rfl⟩
 obtain ⟨w6,hw6⟩:∃ V,V=(w5.alloc (.cells (imgArr Hx.zero St.zero (.slice none 0 0) (.slice none 0 0)) 48 (0,0))).setRow w5.heap.size (imgArr ⟨2,0,0⟩ (plSt nt nb ns) (.slice qs5 1 1) (.slice qd5 1 1)):=⟨_,rfl⟩
 have i6:ImgAt w6 M ⟨2,0,0⟩ (plSt nt nb ns) (.slice qs5 1 1) (.slice qd5 1 1):=by
  rw [hw6,hM]
  exact setRow_heap _ _ _ _ _ _ (heap_alloc_new w5 _)
 have g6:w5.grownBy w6 none:=by
  rw [hw6]
  exact grown_new (grown1 _ _) (grown_setRow _ _) (Nat.le_refl _)
 rw [← hw6,← hM]
 have I6:=Lib.hid i6
 have G6:=Lib.hid (grown_trans G5.out g6)
 have L5:(plB triA (mkT syB) (mkN syB)).length=4096 + nt + nb + ns:=by
  unfold plB
  simp only [List.length_append,NT.out,NB.out,NS.out,List.length_replicate]
 have EA:Calls Tryz.prog 17 #[.slice q5 (4096 + nt + nb + ns) c5,imgV ⟨2,0,0⟩ (plSt nt nb ns) (.slice qs5 1 1) (.slice qd5 1 1)] w6 fun e w'=>(∃ q c,e=.returned (.tuple #[.slice q 1 c,.int .i64 0])∧RowEx w' q exA)∧w6.grownBy w' none:=by
  have:=exportAll_any (h:=⟨2,0,0⟩) (qd:=qd5) (cd:=1) (I5.out.grown g6) L5
  have r:=all_plainA (mkT syB) (mkN syB)
  rw [NT.out,NB.out,NS.out] at r
  rw [r] at this
  exact this.mono fun e w' ⟨⟨q,c,h1,h2,_,_⟩,h3⟩=>⟨⟨q,c,h1,h2⟩,h3⟩
 have EAH:=Lib.hid EA
 have P6:=Lib.hid (grown_trans GP.out g6)
 have M5:=Lib.hid (show w5.heap.size=M from hM.symm)
 clear hM hw6 i6 g6 L5 EA PL I5
 go_upto_region 5 with (first
  |(refine wpList_load_imgI rfl (.tmp 7) rfl (by kernel_rfl) I6.out ?_)
  |(go_at_call 17;refine EAH.out.mono ?_;rintro e w7 ⟨⟨q7,c7,rfl,r7⟩,hg⟩))
 have GP7:=Lib.hid (grown_trans G6.out hg)
 have I7:=Lib.hid (I6.out.kept hg (by simp))
 have R7:=Lib.hid r7
 have PN7:=Lib.hid (PN.out w7 (grown_trans P6.out hg))
 obtain ⟨g7,eq7,hc7⟩:=r7 0 _ rfl
 have M7:g7≠M:=fun e=>by
  have h1:=hc7 0 (by decide)
  rw [e,Nat.zero_mul,Nat.zero_add,cell_of (I6.out.kept hg (by simp))] at h1
  cases h1
 subst eq7
 have C7:=Lib.hid hc7
 have M7H:=Lib.hid M7
 have M7L:=Lib.hid (show M < w7.heap.size from lt_of_block (I6.out.kept hg (by simp)))
 clear hg r7 EAH hc7 M7
 go_upto_region 6 with (first
  |(go_at_call 24;refine PN7.out.mono ?_;rintro e w8 ⟨⟨q8,c8,x8,qs8,qd8,rfl,hi⟩,hg⟩;rw [NB.out,NS.out] at hi ⊢;simp only [List.length_nil] at hi ⊢;have I8:=Lib.hid hi;have S8:=Lib.hid (hg.size);have G8:=Lib.hid hg;have J8:=Lib.hid (I7.out.kept hg (by simp));clear hi hg)
  |(refine wpList_store_img (g:=M) (h:=⟨2,0,0⟩) (s:=plSt 0 nb ns) (sv:=.slice qs8 1 1) (dv:=.slice qd8 1 1) rfl (.tmp 7) (.tmp 43) rfl (by kernel_rfl) (by kernel_rfl) J8.out ⟨_,_,_,rfl⟩ ⟨_,_,_,rfl⟩ ?_))
 obtain ⟨w9,hw9⟩:∃ V,V=w8.setRow M (imgArr ⟨2,0,0⟩ (plSt 0 nb ns) (.slice qs8 1 1) (.slice qd8 1 1)):=⟨_,rfl⟩
 have i9:ImgAt w9 M ⟨2,0,0⟩ (plSt 0 nb ns) (.slice qs8 1 1) (.slice qd8 1 1):=by rw [hw9];exact J8.out.put
 have g9:w8.grownBy w9 (some M):=by rw [hw9];exact grown_setRow _ _
 rw [← hw9]
 have I9:=Lib.hid i9
 have G9:=Lib.hid (show w.grownBy w9 none from grown_new (grown_trans GP7.out G8.out) g9 (by
  have:=G5.out.size
  have:=M5.out
  omega))
 have L9:(plB [] (mkT syB) (mkN syB)).length=4096 + nb + ns:=by
  unfold plB
  simp only [List.length_append,NB.out,NS.out,List.length_replicate,List.length_nil,Nat.add_zero]
 have EB:Calls Tryz.prog 17 #[.slice q8 (4096 + nb + ns) c8,imgV ⟨2,0,0⟩ (plSt 0 nb ns) (.slice qs8 1 1) (.slice qd8 1 1)] w9 fun e w'=>(∃ q c,e=.returned (.tuple #[.slice q 1 c,.int .i64 0])∧RowEx w' q exB)∧w9.grownBy w' none:=by
  have:=exportAll_any (h:=⟨2,0,0⟩) (qd:=qd8) (cd:=1) (I8.out w9 (some M) g9 (fun a e=>by injection e with e;subst e;exact M7L.out)) L9
  have r:=all_plainB
  rw [NB.out,NS.out] at r
  rw [r] at this
  exact this.mono fun e w' ⟨⟨q,c,h1,h2,_,_⟩,h3⟩=>⟨⟨q,c,h1,h2⟩,h3⟩
 have EBH:=Lib.hid EB
 have C9:=Lib.hid (fun j (hj:j < 7)=>(by
  have h1:=C7.out j hj
  have h2:(outCs ([97],(⟨1,false,16,0,0,[]⟩:Ex)))[j]?=some ((outCs ([97],(⟨1,false,16,0,0,[]⟩:Ex)))[j]'hj):=List.getElem?_eq_getElem _
  rw [h2] at h1
  rw [h2]
  exact g9.cell (grown_cell G8.out h1) (fun e=>M7H.out (by injection e)):w9.cell? ⟨g7,0 * 7 + j,none⟩=(outCs ([97],(⟨1,false,16,0,0,[]⟩:Ex)))[j]?))
 clear L9 EB hw9 i9 g9
 go_upto_region 7 with (first
  |(refine wpList_load_imgI rfl (.tmp 7) rfl (by kernel_rfl) I9.out ?_)
  |(go_at_call 17;refine EBH.out.mono ?_;rintro e w10 ⟨⟨q10,c10,rfl,r10⟩,hg⟩))
 obtain ⟨g10,eq10,hc10⟩:=r10 0 _ rfl
 subst eq10
 have a0:=hc10 0 (by decide)
 have a1:=hc10 1 (by decide)
 have a2:=hc10 2 (by decide)
 have a3:=hc10 3 (by decide)
 have a4:=hc10 4 (by decide)
 have a5:=hc10 5 (by decide)
 have a6:=hc10 6 (by decide)
 have b0:=grown_cell hg ((C9.out 0 (by decide)).trans rfl:w9.cell? ⟨g7,0 * 7 + 0,none⟩=some (.string ⟨#[97]⟩))
 rw [Nat.zero_mul,Nat.zero_add] at a0 a1 a2 a3 a4 a5 a6 b0
 replace a0:w10.cell? ⟨g10,0,none⟩=some (.string ⟨#[98]⟩):=a0
 replace a1:w10.cell? ⟨g10,1,none⟩=some (.int .i64 1):=a1
 replace a2:w10.cell? ⟨g10,2,none⟩=some (.bool false):=a2
 replace a3:w10.cell? ⟨g10,3,none⟩=some (.int .u64 32):=a3
 replace a4:w10.cell? ⟨g10,4,none⟩=some (.int .u64 0):=a4
 replace a5:w10.cell? ⟨g10,5,none⟩=some (.int .u64 0):=a5
 replace a6:w10.cell? ⟨g10,6,none⟩=some (.string ⟨#[]⟩):=a6
 have G10:=Lib.hid (grown_trans G9.out hg)
 clear hg hc10 r10 EBH
 go_wp2
 go_ret
 exact ⟨rfl,G10.out⟩
end Go.Proofs.YtkmbkpoclhbmgaaGreat
namespace Go.Proofs.YtkmbkpoclhbmgaaGreat
open Go.RowKit
variable {w w' W:World}
theorem cut2_at {q:Option Addr} {c:Nat} {ys:List Int} (h:IsBytes w q c ys) (hc:ys.length≤c) (so k:Nat) (hend:so + k≤ys.length) :
  ∃ V,(∀ W,(Instr.slice 29 (.slice q ys.length c) (some (.int .u64 (so:Int))) (some (.int .u64 ((so:Int) + (k:Int)))) none).run Tryz.prog W=.ok (.slice V k (c - so)) W)∧IsBytes w V (c - so) ((ys.drop so).take k):=by
 have run:∀ W,(Instr.slice 29 (.slice q ys.length c) (some (.int .u64 (so:Int))) (some (.int .u64 ((so:Int) + (k:Int)))) none).run Tryz.prog W=.ok (sliced q so (so + k) c 1) W:=fun W=>by
  rw [run_slice_lh (P:=Tryz.prog) W 29 q ys.length c (by kernel_rfl) .u64 .u64 (so:Int) ((so:Int) + (k:Int)) (by omega) (by omega) (by omega)]
  have hs:((sizeOf (Tryz.prog.elem 29)).run Tryz.prog W)=.ok 1 W:=by kernel_rfl
  rw [hs]
  simp only [Result.andThen]
  rw [show ((so:Int) + (k:Int)).toNat=so + k by omega,show ((so:Int)).toNat=so by omega]
 by_cases hcs:c=so
 ·have hk:k=0:=by omega
  subst hk
  refine ⟨q,fun W=>?_,?_⟩
  ·rw [run W];simp [sliced,hcs]
  ·have e:(ys.drop so).take 0=[]:=rfl
   rw [e]
   exact ⟨fun _=>by omega,fun h=>by simp at h⟩
 ·cases q with
  | none=>have:=h.1 rfl;omega
  | some ad =>
   refine ⟨some (ad.add so),fun W=>?_,?_⟩
   ·rw [run W]
    unfold sliced
    rw [if_neg (by omega),show so + k - so=k by omega]
    simp only [Option.map_some,Nat.mul_one]
   ·rcases Nat.eq_zero_or_pos k with hk | hk
    ·subst hk
     have e:(ys.drop so).take 0=[]:=rfl
     rw [e]
     exact IsBytes.empty
    ·obtain ⟨b,o,e,hb⟩:=sub_bytes h so k hend hk
     injection e with e
     subst e
     obtain ⟨-,h2⟩:=hb
     have e2:(⟨b,o,none⟩:Addr).add so=⟨b,o + so,none⟩:=add_flat _ _ _
     rw [e2]
     exact ⟨fun e=>(by cases e),h2⟩
set_option maxRecDepth 20000 in
theorem rPart_any {ys:List Int} {q:Option Addr} {c:Nat} (h:IsBytes w q c ys) (hc:ys.length≤c) (hcm:c≤9223372036854775807) (off sz:Nat) (ho:off < 18446744073709551616) (hz:sz < 18446744073709551616) :
  Calls Tryz.prog 53 #[.slice q ys.length c,.agg #[.int .u64 off,.int .u64 sz]] w fun e w'=>(∃ V cc,e=.returned (.slice V (partN ys off sz).length cc)∧IsBytes w' V cc (partN ys off sz)∧(partN ys off sz).length≤cc∧cc≤9223372036854775807)∧w.grownBy w' none:=by
 have gB:=grown1 w (.cells #[.int .u64 off,.int .u64 sz] 46)
 have aA:(w.alloc (.cells #[.int .u64 off,.int .u64 sz] 46)).heap[w.heap.size]?=some (.cells #[.int .u64 off,.int .u64 sz] 46 (0,0)):=heap_alloc_new w _
 obtain ⟨W,hW⟩:∃ W,w.alloc (.cells #[.int .u64 off,.int .u64 sz] 46)=W:=⟨_,rfl⟩
 obtain ⟨b,hb⟩:∃ b,w.heap.size=b:=⟨_,rfl⟩
 rw [hW] at gB aA
 rw [hb] at aA
 have c0:W.cell? ⟨b,0,none⟩=some (.int .u64 off):=by rw [cell_of aA];rfl
 have c1:W.cell? ⟨b,1,none⟩=some (.int .u64 sz):=by rw [cell_of aA];rfl
 have gl:=lt_of_block aA
 have G:=Lib.hid gB
 have WI:=Lib.hid (fun V=>withinR_any off sz ys.length ⟨by omega,by omega⟩ ⟨by omega,by omega⟩ ⟨by omega,by omega⟩ V)
 have cv:IntKind.u64.wrap (ys.length:Int)=ys.length:=IntWalk.u64_in _ (by omega)
 clear aA gB
 cases hw:withinN off sz ys.length
 ·have E:=Lib.hid (partN_no hw)
  rw [hw] at WI
  rw [E.out]
  clear hw h
  generalize ys.length=n at *
  go_enter Tryz.func53,Tryz.ntmps53
  go_upto_region 1 with fail
  clear hW hb
  go_wp2_with fail
  refine (WI.out _).mono ?_
  rintro e w1 ⟨rfl,rfl⟩
  go_wp2
  go_ret
  exact ⟨⟨none,0,rfl,IsBytes.nil,Nat.le_refl _,by omega⟩,G.out⟩
 ·have hle:off + sz≤ys.length:=by unfold withinN at hw;simp at hw;omega
  have hl:(partN ys off sz).length=sz:=by rw [partN_in hw];simp;omega
  have hp:partN ys off sz=(ys.drop off).take sz:=partN_in hw
  obtain ⟨V,hV,hB⟩:=cut2_at h hc off sz hle
  rw [hl,hp]
  have ws:IntKind.u64.wrap ((off:Int) + sz)=(off:Int) + sz:=IntWalk.u64_in _ (by omega)
  have HB:=Lib.hid (hB.kept G.out (by simp))
  have hsc:sz≤c - off:=by omega
  rw [hw] at WI
  clear hw h hl hp hB hc
  generalize (ys.drop off).take sz=zs at *
  generalize ys.length=n at *
  go_enter Tryz.func53,Tryz.ntmps53
  go_upto_region 1 with fail
  clear hW hb
  go_wp2_with fail
  refine (WI.out _).mono ?_
  rintro e w1 ⟨rfl,rfl⟩
  go_wp2
  go_ret
  exact ⟨⟨V,c - off,rfl,HB.out,hsc,by omega⟩,G.out⟩
end Go.Proofs.YtkmbkpoclhbmgaaGreat
namespace Go.Proofs.YtkmbkpoclhbmgaaGreat
open Go.RowKit Go.Sort
variable {w w' W:World} {h:Hx} {s:St} {sv dv:Value}
set_option maxRecDepth 20000 in
set_option maxHeartbeats 3200000 in
theorem refMay11_any {l:List Sg} {qs qd:Option Addr} {cs nd cd:Nat} (hnd:nd≤9223372036854775807) (k:ImgRows w s l qs cs) (nm:ByteArray) (x:Ex) (hx:ResOk x) :
  Calls Tryz.prog 51 #[imgV h s (.slice qs l.length cs) (.slice qd nd cd),exV nm x] w fun e w'=>e=.returned (.int .i64 (expMay s nd x))∧w.grownBy w' none:=by
 rw [expMay_doc hx]
 have ho:=hx.2.2.2
 obtain ⟨N,hN⟩:∃ N,N=l.length:=⟨_,rfl⟩
 rw [← hN]
 have gB:=grown1 w (.cells (imgArr h s (.slice qs N cs) (.slice qd nd cd)) 48)
 have aA:ImgAt (w.alloc (.cells (imgArr h s (.slice qs N cs) (.slice qd nd cd)) 48)) w.heap.size h s (.slice qs N cs) (.slice qd nd cd):=heap_alloc_new w _
 obtain ⟨W,hW⟩:∃ W,w.alloc (.cells (imgArr h s (.slice qs N cs) (.slice qd nd cd)) 48)=W:=⟨_,rfl⟩
 obtain ⟨b,hb⟩:∃ b,w.heap.size=b:=⟨_,rfl⟩
 rw [hW] at gB aA
 rw [hb] at aA
 have gr:=grown1 W (.cells (exArr nm x) 28)
 have x2:ExAt (W.alloc (.cells (exArr nm x) 28)) W.heap.size nm x:=heap_alloc_new W _
 obtain ⟨W2,hW2⟩:∃ W2,W.alloc (.cells (exArr nm x) 28)=W2:=⟨_,rfl⟩
 obtain ⟨b2,hb2⟩:∃ b,W.heap.size=b:=⟨_,rfl⟩
 rw [hW2] at gr x2
 rw [hb2] at x2
 have a2:=aA.kept gr (by simp)
 have KG:=fun d os=>grown_below (below_regrown W2 d os) none
 have HI:=Lib.hid (fun d os=>Calls.regrown_of ((rHigh_any (h:=h) (dv:=.slice qd nd cd) (((k.grown gB).grown gr).grown (KG d os))).mono (fun _ _ h=>(⟨h.1,below_grown h.2 (Nat.le_refl _) (by simp)⟩ : _∧_))))
 have LO:=Lib.hid (fun d os=>Calls.regrown_of ((rLow_any (h:=h) (dv:=.slice qd nd cd) (((k.grown gB).grown gr).grown (KG d os))).mono (fun _ _ h=>(⟨h.1,below_grown h.2 (Nat.le_refl _) (by simp)⟩ : _∧_))))
 have LD:=Lib.hid (fun (V:World) (hV:∃ p:Regrown,V=Go.Sort.grow (redrawn W2 p.d) p.os)=>(by obtain ⟨p,rfl⟩:=hV;exact run_loadIm (a2.kept (KG p.d p.os) (by simp)):(loadVar 48 ⟨b,0,none⟩).run Tryz.prog V=.ok (imgV h s (.slice qs N cs) (.slice qd nd cd)) V))
 have A5:=Lib.hid (a2.c 5 (.slice qd nd cd) rfl)
 have AL:=Lib.hid (lt_of_block a2)
 rw [← hN] at HI LO
 have LW:=longN_wrap s
 generalize highN s.segs=H at *
 generalize lowN s.segs=L at *
 generalize longN s=D at *
 have G2:=Lib.hid (grown_trans gB gr)
 have X2:=Lib.hid x2
 have hcv:IntKind.u64.wrap (nd:Int)=nd:=IntWalk.u64_in _ (by omega)
 have HK:=Lib.hid KG
 obtain ⟨kind,weak,value,resolver,ordinal,other⟩:=x
 simp only [] at ho ⊢
 clear k gB aA gr x2 hN KG a2 hx
 simp only [imgV,imgArr,exV,exArr] at hW hW2 HI LO LD ⊢
 obtain ⟨r,hr⟩:∃ r:Int,r=if ((kind=1∨kind=4)∧D≤value)∨(kind=4∧D≤resolver) then 4 else if kind=3∧(ordinal < 1∨(nd:Int) < ordinal) then 22 else 0:=⟨_,rfl⟩
 rw [← hr]
 have RR:=Lib.hid hr
 clear hr
 go_enter Tryz.func51,Tryz.ntmps51
 go_upto_region 1 with fail
 clear hW hb hW2 hb2
 refine wp_region_quiet_below (by kernel_rfl) (by kernel_rfl) ?_
 refine wpQuiet_load_img rfl _ rfl rfl LD.out ?_
 quiet_step (with_reducible exact HI.out _ _)
 refine wpQuiet_load_img rfl _ rfl rfl LD.out ?_
 quiet_step (with_reducible exact LO.out _ _)
 repeat (quiet_step (fail))
 refine wpQuiet_nil ?_
 intro _ hw'
 obtain ⟨⟨dq,osq⟩,hw''⟩:=hw'
 subst hw''
 have c5:=grown_cell (HK.out dq osq) A5.out
 have X3:=X2.out.kept (HK.out dq osq) (by simp)
 have rl:=Nat.lt_of_lt_of_le AL.out (HK.out dq osq).size
 obtain ⟨W3,hW3⟩:∃ W3,Go.Sort.grow (redrawn W2 dq) osq=W3:=⟨_,rfl⟩
 have GG:=Lib.hid (grown_trans G2.out (HK.out dq osq))
 rw [hW3] at X3 GG c5 rl ⊢
 obtain ⟨-,y1,-,y3,y4,y5,-⟩:=X3.c
 have yl:=X3.lt
 simp only [] at y1 y3 y4 y5
 clear hW3 X3 LW
 by_cases k1:kind=1
 ·subst k1
  by_cases hv:D≤value
  ·have dv:decide (D≤value)=true:=decide_eq_true hv
   have E:=Lib.hid (show r=4 from by rw [RR.out,if_pos (.inl ⟨.inl rfl,hv⟩)])
   clear hv
   go_wp2
   go_ret
   exact ⟨ret_int E.out.symm,GG.out⟩
  ·have dv:decide (D≤value)=false:=decide_eq_false hv
   have E:=Lib.hid (show r=0 from by rw [RR.out,if_neg (by omega),if_neg (by omega)])
   clear hv
   go_wp2
   go_ret
   exact ⟨ret_int E.out.symm,GG.out⟩
 have k1':(kind == 1)=false:=by simp;exact k1
 by_cases k4:kind=4
 ·subst k4
  by_cases hv:D≤value
  ·have dv:decide (D≤value)=true:=decide_eq_true hv
   have E:=Lib.hid (show r=4 from by rw [RR.out,if_pos (.inl ⟨.inr rfl,hv⟩)])
   clear hv k1
   go_wp2
   go_ret
   exact ⟨ret_int E.out.symm,GG.out⟩
  ·have dv:decide (D≤value)=false:=decide_eq_false hv
   by_cases hr:D≤resolver
   ·have dr:decide (D≤resolver)=true:=decide_eq_true hr
    have E:=Lib.hid (show r=4 from by rw [RR.out,if_pos (.inr ⟨rfl,hr⟩)])
    clear hv hr k1
    go_wp2
    go_ret
    exact ⟨ret_int E.out.symm,GG.out⟩
   ·have dr:decide (D≤resolver)=false:=decide_eq_false hr
    have E:=Lib.hid (show r=0 from by rw [RR.out,if_neg (by omega),if_neg (by omega)])
    clear hv hr k1
    go_wp2
    go_ret
    exact ⟨ret_int E.out.symm,GG.out⟩
 have k4':(kind == 4)=false:=by simp;exact k4
 by_cases k3:kind=3
 ·subst k3
  by_cases h0:ordinal=0
  ·subst h0
   have E:=Lib.hid (show r=22 from by rw [RR.out,if_neg (by omega),if_pos ⟨rfl,.inl (by decide)⟩])
   clear k1 k4
   go_wp2
   go_ret
   exact ⟨ret_int E.out.symm,GG.out⟩
  ·have d0:(ordinal == 0)=false:=by simp;exact h0
   by_cases hn:(nd:Int) < ordinal
   ·have dn:decide ((nd:Int) < ordinal)=true:=decide_eq_true hn
    have E:=Lib.hid (show r=22 from by rw [RR.out,if_neg (by omega),if_pos ⟨rfl,.inr hn⟩])
    clear k1 k4 h0 hn ho
    go_wp2
    go_ret
    exact ⟨ret_int E.out.symm,GG.out⟩
   ·have dn:decide ((nd:Int) < ordinal)=false:=decide_eq_false hn
    have E:=Lib.hid (show r=0 from by rw [RR.out,if_neg (by omega),if_neg (by omega)])
    clear k1 k4 h0 hn ho
    go_wp2
    go_ret
    exact ⟨ret_int E.out.symm,GG.out⟩
 have k3':(kind == 3)=false:=by simp;exact k3
 have E:=Lib.hid (show r=0 from by rw [RR.out,if_neg (by omega),if_neg (by omega)])
 clear k1 k4 k3 ho
 go_wp2
 go_ret
 exact ⟨ret_int E.out.symm,GG.out⟩
end Go.Proofs.YtkmbkpoclhbmgaaGreat
namespace Go.Proofs.YtkmbkpoclhbmgaaGreat
open Go.RowKit Go.Sort
variable {w w' W V:World} {h:Hx} {s:St} {sv dv:Value}
theorem rpart_int {ys:List Int} {q:Option Addr} {c n:Nat} (h:IsBytes w q c ys) (hn:ys.length=n) (hc:n≤c) (hcm:c≤9223372036854775807) {off sz:Int} (ho:U64 off) (hz:U64 sz) :
  Calls Tryz.prog 53 #[.slice q n c,.agg #[.int .u64 off,.int .u64 sz]] w fun e w'=>∃ V cc,e=.returned (.slice V (partN ys off sz).length cc)∧OneB w' V cc (partN ys off sz)∧w.grownBy w' none:=by
 subst hn
 obtain ⟨h1,h2⟩:=ho
 obtain ⟨h3,h4⟩:=hz
 obtain ⟨o,rfl⟩:∃ o:Nat,off=o:=⟨off.toNat,by omega⟩
 obtain ⟨z,rfl⟩:∃ z:Nat,sz=z:=⟨sz.toNat,by omega⟩
 refine (rPart_any h hc hcm o z (by omega) (by omega)).mono ?_
 rintro e w' ⟨⟨V,cc,rfl,hb,hl,hm⟩,hg⟩
 exact ⟨V,cc,rfl,⟨hb,hl,hm⟩,hg⟩
structure RwL (w2 wr:World) (D:Syms) (low:Int) (n:Nat) (v8 v9:Value):Prop where
 ex:∃ (k:Nat) (q:Option Addr) (c:Nat),k≤n∧v9=.int .i64 (k:Int)∧v8=.slice q k c∧wr.ownsRow w2.heap.size 28 7 (.slice q k c) k (((D.take k).map (symEx low)).flatMap outCs)
 grown:w2.grownBy wr none
set_option maxRecDepth 20000 in
set_option maxHeartbeats 6400000 in
theorem refRaw_any {ys:List Int} {q:Option Addr} {c n:Nat} {l:List Sg} {qs qd:Option Addr} {cs nd cd:Nat} (hI:ExIn2 w ys q c s l qs cs nd) (hn:ys.length=n) :
  Calls Tryz.prog 50 #[.slice q n c,imgV h s (.slice qs l.length cs) (.slice qd nd cd)] w fun e w'=>ExsO w w' (expRaw ys s) e:=by
 obtain ⟨N,hN⟩:∃ N,N=l.length:=⟨_,rfl⟩
 rw [← hN]
 have gB:=grown1 w (.cells (imgArr h s (.slice qs N cs) (.slice qd nd cd)) 48)
 have aA:ImgAt (w.alloc (.cells (imgArr h s (.slice qs N cs) (.slice qd nd cd)) 48)) w.heap.size h s (.slice qs N cs) (.slice qd nd cd):=heap_alloc_new w _
 obtain ⟨W,hW⟩:∃ W,w.alloc (.cells (imgArr h s (.slice qs N cs) (.slice qd nd cd)) 48)=W:=⟨_,rfl⟩
 obtain ⟨b,hb'⟩:∃ b,w.heap.size=b:=⟨_,rfl⟩
 rw [hW] at gB aA
 rw [hb'] at aA
 have I1:=hI.grown gB
 have hcn:n≤c:=by rw [← hn];exact I1.le
 have PT:=Lib.hid (fun (V:World) (hg:W.grownBy V none)=>rpart_int (I1.grown hg).b hn hcn I1.most I1.tr.1 I1.tr.2)
 have PA:=Lib.hid (fun (V:World) (hg:W.grownBy V none)=>rpart_int (I1.grown hg).b hn hcn I1.most I1.sy.1 I1.sy.2)
 have PB:=Lib.hid (fun (V:World) (hg:W.grownBy V none)=>rpart_int (I1.grown hg).b hn hcn I1.most I1.st.1 I1.st.2)
 have SE:=Lib.hid (fun (V:World) (hg:W.grownBy V none)=>sections_any (h:=h) (dv:=.slice qd nd cd) (I1.img.grown hg) I1.secs)
 have LO:=Lib.hid (fun (V:World) (hg:W.grownBy V none)=>rLow_any (h:=h) (dv:=.slice qd nd cd) (I1.img.grown hg))
 rw [← hN] at SE LO
 have PL:=Lib.hid (fun off sz=>Nat.le_trans (partN_len ys off sz) I1.few)
 have PY:=Lib.hid (fun off sz=>partN_byt I1.byt off sz)
 have KA:=Lib.hid (fun (V:World) (hg:W.grownBy V none)=>aA.kept hg (by simp))
 have KI:=Lib.hid (fun (V:World) (hg:W.grownBy V none)=>run_loadIm (aA.kept hg (by simp)))
 have KS:=Lib.hid (fun (V:World) (hg:W.grownBy V none)=>And.intro ((aA.kept hg (by simp)).c 18 (.int .u64 s.sy.1) rfl) (And.intro ((aA.kept hg (by simp)).c 19 (.int .u64 s.sy.2) rfl) (And.intro ((aA.kept hg (by simp)).c 20 (.int .u64 s.st.1) rfl) ((aA.kept hg (by simp)).c 21 (.int .u64 s.st.2) rfl))))
 have G:=Lib.hid gB
 have SYP:=Lib.hid I1.sy.2
 have c14:=aA.c 14 (.int .u64 s.tr.1) rfl
 have c15:=aA.c 15 (.int .u64 s.tr.2) rfl
 have c18:=aA.c 18 (.int .u64 s.sy.1) rfl
 have c19:=aA.c 19 (.int .u64 s.sy.2) rfl
 have gl:=lt_of_block aA
 obtain ⟨RES,hRES⟩:∃ R,R=expRaw ys s:=⟨_,rfl⟩
 rw [← hRES]
 have OUT:=Lib.hid hRES
 clear hI I1 hn gB aA hN hcn hRES
 by_cases h0 : 0 < s.tr.2
 ·have d0:decide (0 < s.tr.2)=true:=decide_eq_true h0
  have OUT:=Lib.hid (show RES=((allN (partN ys s.tr.1 s.tr.2)).2,srtN (allN (partN ys s.tr.1 s.tr.2)).1) from by rw [OUT.out];unfold expRaw;rw [if_pos h0])
  have AL:=Lib.hid (fun (V:World) q c (hb:OneB V q c (partN ys s.tr.1 s.tr.2))=>refAll_any hb.b rfl (PY.out _ _) hb.le hb.most (PL.out _ _))
  have PY1:=Lib.hid (PY.out s.tr.1 s.tr.2)
  generalize partN ys s.tr.1 s.tr.2=p at *
  clear h0 PA PB SE LO KI KS c18 c19 PL PY
  rw [show imgV h s (.slice qs N cs) (.slice qd nd cd)=.agg (imgArr h s (.slice qs N cs) (.slice qd nd cd)) from rfl]
  unfold imgArr at hW ⊢
  go_enter Tryz.func50,Tryz.ntmps50
  go_upto_region 1 with fail
  clear hW hb'
  go_wp2_with fail
  refine (PT.out _ (grown_refl _ _)).mono ?_
  rintro e w2 ⟨V,cc,rfl,hb,hg⟩
  have A2:=Lib.hid (AL.out w2 V cc hb)
  have G2:=Lib.hid (grown_trans G.out hg)
  clear hb hg c14 c15 gl
  go_wp2_with fail
  refine A2.out.mono ?_
  rintro e w3 ⟨⟨D,q3,c3,rfl,hr,hs,hp,hlc,hlm⟩,hg⟩
  have E:=all_srt PY1.out hs hp
  have F:=Lib.hid (show ExsO w w3 RES (.returned (.tuple #[.slice q3 D.length c3,.int .i64 (allN p).2])) from by
   rw [OUT.out,← E]
   exact ⟨⟨q3,c3,rfl,hr,hlc,hlm⟩,grown_trans G2.out hg⟩)
  clear hr hs hp hlc hlm hg E
  go_wp2
  go_ret2
  exact F.out
 have d0:decide (0 < s.tr.2)=false:=decide_eq_false h0
 by_cases h1 : 0 < s.sy.2
 ·have d1:(s.sy.2 == 0)=false:=by simp;omega
  have OUT:=Lib.hid (show RES=((nlAll (partN ys s.sy.1 s.sy.2) (partN ys s.st.1 s.st.2) (secN s.segs:Int)).1,srtN ((nlAll (partN ys s.sy.1 s.sy.2) (partN ys s.st.1 s.st.2) (secN s.segs:Int)).2.map (symEx (lowN s.segs)))) from by rw [OUT.out];unfold expRaw;rw [if_neg h0,if_pos h1])
  have AL:=Lib.hid (fun (V:World) q c q2 c2 (hb:OneB V q c (partN ys s.sy.1 s.sy.2)) (hb2:OneB V q2 c2 (partN ys s.st.1 s.st.2))=>all10_any (n:=(secN s.segs:Int)) hb.b rfl (PL.out _ _) hb.le hb.most (PY.out _ _) hb2.b rfl (PL.out _ _) hb2.le (PY.out _ _))
  have OK:=Lib.hid (nlAll_ok (n:=(secN s.segs:Int)) (PY.out s.sy.1 s.sy.2) (PY.out s.st.1 s.st.2))
  obtain ⟨⟨E,D⟩,hR⟩:∃ R,R=nlAll (partN ys s.sy.1 s.sy.2) (partN ys s.st.1 s.st.2) (secN s.segs:Int):=⟨_,rfl⟩
  rw [← hR] at OUT AL OK
  simp only [] at OUT OK
  obtain ⟨L1,hL1⟩:∃ L,L=(partN ys s.sy.1 s.sy.2).length:=⟨_,rfl⟩
  obtain ⟨L2,hL2⟩:∃ L,L=(partN ys s.st.1 s.st.2).length:=⟨_,rfl⟩
  obtain ⟨SN,hSN⟩:∃ n,n=secN s.segs:=⟨_,rfl⟩
  obtain ⟨LN,hLN⟩:∃ n,n=lowN s.segs:=⟨_,rfl⟩
  obtain ⟨M,hM⟩:∃ n,n=D.length:=⟨_,rfl⟩
  rw [← hL1] at PA AL
  rw [← hL2] at PB AL
  rw [← hSN] at SE AL
  rw [← hLN] at LO OUT
  have HM:=Lib.hid hM.symm
  have GD:=Lib.hid (show W.grownBy W.drew none from grown_drewN (grown_refl W none) 1)
  clear h0 h1 PT hL1 hL2 hSN hLN c14 hR hM PL PY
  rw [show imgV h s (.slice qs N cs) (.slice qd nd cd)=.agg (imgArr h s (.slice qs N cs) (.slice qd nd cd)) from rfl]
  unfold imgV at SE LO KI
  unfold imgArr at hW SE LO KI ⊢
  go_enter Tryz.func50,Tryz.ntmps50
  go_upto_region 1 with fail
  clear hW hb'
  go_upto_region 5 with fail
  clear c15 c18 c19
  refine wp_region_held_drew (S:=fun V=>W.grownBy V none) (by kernel_rfl) GD.out (fun hS=>?_)
  refine wpAnyH_take (i:=0) (oi:=⟨some 27,_,_,_,_,_⟩) (v:=Value.slice q n c) rfl (by kernel_rfl) (by kernel_rfl) (by kernel_rfl) (fun _ _ _ h=>h) (Or.inl ⟨by rfl,fun V hV=>?_⟩) hS ?_
  ·go_simp
  try simp only [Act.put,List.setIfInBounds_toArray,List.set_cons_zero,List.set_cons_succ]
  refine wpAnyH_take (i:=1) (oi:=⟨some 28,_,_,_,_,_⟩) (v:=Value.pointer (some ⟨b,18,none⟩)) rfl (by kernel_rfl) (by kernel_rfl) (by kernel_rfl) (fun _ _ _ h=>h) (Or.inl ⟨by rfl,fun V hV=>?_⟩) hS ?_
  ·go_simp
  try simp only [Act.put,List.setIfInBounds_toArray,List.set_cons_zero,List.set_cons_succ]
  refine wpAnyH_take (i:=2) (oi:=⟨some 29,_,_,_,_,_⟩) (v:=Value.agg #[.int .u64 s.sy.1,.int .u64 s.sy.2]) rfl (by kernel_rfl) (by kernel_rfl) (by kernel_rfl) (fun _ _ _ h=>h) (Or.inl ⟨by rfl,fun V hV=>?_⟩) hS ?_
  ·(obtain ⟨c0,c1,c2,c3⟩:=KS.out V hV;go_simp)
  try simp only [Act.put,List.setIfInBounds_toArray,List.set_cons_zero,List.set_cons_succ]
  refine wpAnyH_take (i:=4) (oi:=⟨some 31,_,_,_,_,_⟩) (v:=Value.slice q n c) rfl (by kernel_rfl) (by kernel_rfl) (by kernel_rfl) (fun _ _ _ h=>h) (Or.inl ⟨by rfl,fun V hV=>?_⟩) hS ?_
  ·go_simp
  try simp only [Act.put,List.setIfInBounds_toArray,List.set_cons_zero,List.set_cons_succ]
  refine wpAnyH_take (i:=5) (oi:=⟨some 32,_,_,_,_,_⟩) (v:=Value.pointer (some ⟨b,20,none⟩)) rfl (by kernel_rfl) (by kernel_rfl) (by kernel_rfl) (fun _ _ _ h=>h) (Or.inl ⟨by rfl,fun V hV=>?_⟩) hS ?_
  ·go_simp
  try simp only [Act.put,List.setIfInBounds_toArray,List.set_cons_zero,List.set_cons_succ]
  refine wpAnyH_take (i:=6) (oi:=⟨some 33,_,_,_,_,_⟩) (v:=Value.agg #[.int .u64 s.st.1,.int .u64 s.st.2]) rfl (by kernel_rfl) (by kernel_rfl) (by kernel_rfl) (fun _ _ _ h=>h) (Or.inl ⟨by rfl,fun V hV=>?_⟩) hS ?_
  ·(obtain ⟨c0,c1,c2,c3⟩:=KS.out V hV;go_simp)
  try simp only [Act.put,List.setIfInBounds_toArray,List.set_cons_zero,List.set_cons_succ]
  refine wpAnyH_take (i:=8) (oi:=⟨some 35,_,_,_,_,_⟩) (v:=Value.agg #[.int .i64 h.kd,.int .i64 h.sb,.int .u32 h.fl,.string (strOfNums s.name),.slice qs N cs,.slice qd nd cd,.int .u64 s.rb.1,.int .u64 s.rb.2,.int .u64 s.bd.1,.int .u64 s.bd.2,.int .u64 s.wk.1,.int .u64 s.wk.2,.int .u64 s.lz.1,.int .u64 s.lz.2,.int .u64 s.tr.1,.int .u64 s.tr.2,.int .u64 s.ch.1,.int .u64 s.ch.2,.int .u64 s.sy.1,.int .u64 s.sy.2,.int .u64 s.st.1,.int .u64 s.st.2,.int .u64 s.entry,.bool s.has]) rfl (by kernel_rfl) (by kernel_rfl) (by kernel_rfl) (fun _ _ _ h=>h) (Or.inl ⟨by rfl,fun V hV=>?_⟩) hS ?_
  ·(exact load_in rfl rfl (KI.out V hV))
  try simp only [Act.put,List.setIfInBounds_toArray,List.set_cons_zero,List.set_cons_succ]
  refine wpAnyH_ready (rs:=[3]) (by kernel_rfl) (by simp) ?_
  refine AllReadyH.cons (o:=⟨some 30,_,_,_,_,_⟩) rfl (fun K' hK'=>?_) AllReadyH.nil
  go_simp
  go_at_call 53
  refine (PA.out _ hS).mono ?_
  rintro e w1 ⟨V1,c1,rfl,hb1,hg⟩
  have B1:=Lib.hid hb1
  clear hb1
  have HG1:=Lib.hid hg
  have hS':=grown_trans hS hg
  refine hK'.out _ _ hS' (fun hS=>?_)
  clear hK' K' hS' hg
  try simp only [Act.put,List.setIfInBounds_toArray,List.set_cons_zero,List.set_cons_succ]
  refine wpAnyH_ready (rs:=[7]) (by kernel_rfl) (by simp) ?_
  refine AllReadyH.cons (o:=⟨some 34,_,_,_,_,_⟩) rfl (fun K' hK'=>?_) AllReadyH.nil
  go_simp
  go_at_call 53
  refine (PB.out _ hS).mono ?_
  rintro e w2 ⟨V2,c2,rfl,hb2,hg⟩
  have B2:=Lib.hid hb2
  clear hb2
  have HG2:=Lib.hid hg
  have hS':=grown_trans hS hg
  refine hK'.out _ _ hS' (fun hS=>?_)
  clear hK' K' hS' hg
  try simp only [Act.put,List.setIfInBounds_toArray,List.set_cons_zero,List.set_cons_succ]
  refine wpAnyH_ready (rs:=[9]) (by kernel_rfl) (by simp) ?_
  refine AllReadyH.cons (o:=⟨some 36,_,_,_,_,_⟩) rfl (fun K' hK'=>?_) AllReadyH.nil
  go_simp
  go_at_call 87
  refine (SE.out _ hS).mono ?_
  rintro e w3 ⟨rfl,hg⟩
  have HG3:=Lib.hid hg
  have hS':=grown_trans hS hg
  refine hK'.out _ _ hS' (fun hS=>?_)
  clear hK' K' hS' hg
  try simp only [Act.put,List.setIfInBounds_toArray,List.set_cons_zero,List.set_cons_succ]
  refine wpAnyH_ready (rs:=[10]) (by kernel_rfl) (by simp) ?_
  refine AllReadyH.cons (o:=⟨some 37,_,_,_,_,_⟩) rfl (fun K' hK'=>?_) AllReadyH.nil
  go_simp
  go_at_call 86
  refine (AL.out w3 V1 c1 V2 c2 (OneB.kept B1.out (grown_trans HG2.out HG3.out)) (OneB.kept B2.out HG3.out)).mono ?_
  rintro e w4 ⟨⟨q5,c5,rfl,hD,hle,hmost⟩,hbel⟩
  have hg:=grown_below hbel none
  simp only [] at hD hle ⊢
  rw [HM.out] at hle ⊢
  have HD:=Lib.hid hD
  clear hD hbel
  have HG4:=Lib.hid hg
  have hS':=grown_trans hS hg
  refine hK'.out _ _ hS' (fun hS=>?_)
  clear hK' K' hS' hg
  try simp only [Act.put,List.setIfInBounds_toArray,List.set_cons_zero,List.set_cons_succ]
  refine wpAnyH_take (i:=11) (oi:=⟨some 26,_,_,_,_,_⟩) (v:=Value.tuple #[.slice q5 M c5,.int .i64 E]) rfl (by kernel_rfl) (by kernel_rfl) (by kernel_rfl) (fun _ _ _ h=>h) (Or.inl ⟨by rfl,fun V hV=>?_⟩) hS ?_
  ·go_simp
  try simp only [Act.put,List.setIfInBounds_toArray,List.set_cons_zero,List.set_cons_succ]
  refine wpAnyH_take (i:=12) (oi:=⟨some 38,_,_,_,_,_⟩) (v:=Value.slice q5 M c5) rfl (by kernel_rfl) (by kernel_rfl) (by kernel_rfl) (fun _ _ _ h=>h) (Or.inl ⟨by rfl,fun V hV=>?_⟩) hS ?_
  ·go_simp
  try simp only [Act.put,List.setIfInBounds_toArray,List.set_cons_zero,List.set_cons_succ]
  refine wpAnyH_take (i:=13) (oi:=⟨some 39,_,_,_,_,_⟩) (v:=Value.int .i64 E) rfl (by kernel_rfl) (by kernel_rfl) (by kernel_rfl) (fun _ _ _ h=>h) (Or.inl ⟨by rfl,fun V hV=>?_⟩) hS ?_
  ·go_simp
  try simp only [Act.put,List.setIfInBounds_toArray,List.set_cons_zero,List.set_cons_succ]
  refine wpAnyH_take (i:=14) (oi:=⟨some 6,_,_,_,_,_⟩) (v:=Value.slice q5 M c5) rfl (by kernel_rfl) (by kernel_rfl) (by kernel_rfl) (fun _ _ _ h=>h) (Or.inl ⟨by rfl,fun V hV=>?_⟩) hS ?_
  ·go_simp
  try simp only [Act.put,List.setIfInBounds_toArray,List.set_cons_zero,List.set_cons_succ]
  refine wpAnyH_take (i:=15) (oi:=⟨some 7,_,_,_,_,_⟩) (v:=Value.int .i64 E) rfl (by kernel_rfl) (by kernel_rfl) (by kernel_rfl) (fun _ _ _ h=>h) (Or.inl ⟨by rfl,fun V hV=>?_⟩) hS ?_
  ·go_simp
  try simp only [Act.put,List.setIfInBounds_toArray,List.set_cons_zero,List.set_cons_succ]
  refine wpAnyH_done (by kernel_rfl) ?_ _
  have GH:=Lib.hid hS
  have few:=OK.out.few
  rw [HM.out] at few
  have CP:=Lib.hid (And.intro hle hmost)
  have ST:=Lib.hid (show RwL w4 w4 D LN M (.slice none 0 0) (.int .i64 0) from ⟨⟨0,none,0,Nat.zero_le _,rfl,rfl,World.ownsRow_nil _ _ _ _⟩,grown_refl _ _⟩)
  clear hS PA PB SE AL B1 B2 HG1 HG2 HG3 HG4 KS hle hmost
  go_wp2
  go_loopw [8,9] (fun v8 v9 wr=>RwL w4 wr D LN M v8 v9) (fun _ v9 _=>M - (intOf v9).toNat)
  case atStart=>exact ST.out
  case round =>
   obtain ⟨⟨k,q8,c8,hk,rfl,rfl,ho⟩,hg⟩:=hrel
   have GX:=Lib.hid hg
   by_cases hlt:k < M
   ·obtain ⟨y,hy⟩:∃ y,D[k]?=some y:=⟨_,List.getElem?_eq_getElem (by rw [HM.out];exact hlt)⟩
    obtain ⟨gq,oq,rfl,a0,a1,a2,a3⟩:=(HD.out.grown hg).at hy
    have TK:=Lib.hid (sym_take (low:=LN) hy)
    have dl:decide ((k:Int) < (M:Int))=true:=by simp;omega
    have hkI:(k:Int) < (M:Int):=by omega
    have ysec:=(OK.out.each y (List.mem_of_getElem? hy)).2.2.2.1
    have OW:=Lib.hid ho
    have DY:=Lib.hid (fun (V:World) (hV:wr.grownBy V none)=>And.intro (grown_cell hV a0) (And.intro (grown_cell hV a1) (And.intro (grown_cell hV a2) (grown_cell hV a3))))
    have GV:=Lib.hid (grown_drewN (grown_refl wr none) 1)
    clear ho hg hy
    go_upto_region 10 with fail
    have GXD:=Lib.hid (show wr.grownBy wr.drew none from grown_drewN (grown_refl wr none) 1)
    have hk63:(k:Int) < (M:Int):=hkI
    refine wp_region_held_drew (S:=fun V=>wr.grownBy V none) (by kernel_rfl) GXD.out (fun hS=>?_)
    refine wpAnyH_take (i:=0) (oi:=⟨some 46,_,_,_,_,_⟩) (v:=Value.slice (some ⟨gq,oq,none⟩) M c5) rfl (by kernel_rfl) (by kernel_rfl) (by kernel_rfl) (fun _ _ _ h=>h) (Or.inl ⟨by rfl,fun V hV=>?_⟩) hS ?_
    ·go_simp
    try simp only [Act.put,List.setIfInBounds_toArray,List.set_cons_zero,List.set_cons_succ]
    refine wpAnyH_take (i:=1) (oi:=⟨some 47,_,_,_,_,_⟩) (v:=Value.int .i64 (k:Int)) rfl (by kernel_rfl) (by kernel_rfl) (by kernel_rfl) (fun _ _ _ h=>h) (Or.inl ⟨by rfl,fun V hV=>?_⟩) hS ?_
    ·go_simp
    try simp only [Act.put,List.setIfInBounds_toArray,List.set_cons_zero,List.set_cons_succ]
    refine wpAnyH_take (i:=2) (oi:=⟨some 48,_,_,_,_,_⟩) (v:=Value.pointer (some ⟨gq,oq + k * 4,none⟩)) rfl (by kernel_rfl) (by kernel_rfl) (by kernel_rfl) (fun _ _ _ h=>h) (Or.inl ⟨by rfl,fun V hV=>?_⟩) hS ?_
    ·go_simp
    try simp only [Act.put,List.setIfInBounds_toArray,List.set_cons_zero,List.set_cons_succ]
    refine wpAnyH_take (i:=3) (oi:=⟨some 49,_,_,_,_,_⟩) (v:=Value.pointer (some ⟨gq,oq + k * 4,none⟩)) rfl (by kernel_rfl) (by kernel_rfl) (by kernel_rfl) (fun _ _ _ h=>h) (Or.inl ⟨by rfl,fun V hV=>?_⟩) hS ?_
    ·go_simp
    try simp only [Act.put,List.setIfInBounds_toArray,List.set_cons_zero,List.set_cons_succ]
    refine wpAnyH_take (i:=4) (oi:=⟨some 50,_,_,_,_,_⟩) (v:=Value.string (strOfNums y.1)) rfl (by kernel_rfl) (by kernel_rfl) (by kernel_rfl) (fun _ _ _ h=>h) (Or.inl ⟨by rfl,fun V hV=>?_⟩) hS ?_
    ·(obtain ⟨c0,c1,c2,c3⟩:=DY.out V hV;go_simp)
    try simp only [Act.put,List.setIfInBounds_toArray,List.set_cons_zero,List.set_cons_succ]
    refine wpAnyH_take (i:=5) (oi:=⟨some 51,_,_,_,_,_⟩) (v:=Value.slice (some ⟨gq,oq,none⟩) M c5) rfl (by kernel_rfl) (by kernel_rfl) (by kernel_rfl) (fun _ _ _ h=>h) (Or.inl ⟨by rfl,fun V hV=>?_⟩) hS ?_
    ·go_simp
    try simp only [Act.put,List.setIfInBounds_toArray,List.set_cons_zero,List.set_cons_succ]
    refine wpAnyH_take (i:=6) (oi:=⟨some 52,_,_,_,_,_⟩) (v:=Value.int .i64 (k:Int)) rfl (by kernel_rfl) (by kernel_rfl) (by kernel_rfl) (fun _ _ _ h=>h) (Or.inl ⟨by rfl,fun V hV=>?_⟩) hS ?_
    ·go_simp
    try simp only [Act.put,List.setIfInBounds_toArray,List.set_cons_zero,List.set_cons_succ]
    refine wpAnyH_take (i:=7) (oi:=⟨some 53,_,_,_,_,_⟩) (v:=Value.pointer (some ⟨gq,oq + k * 4,none⟩)) rfl (by kernel_rfl) (by kernel_rfl) (by kernel_rfl) (fun _ _ _ h=>h) (Or.inl ⟨by rfl,fun V hV=>?_⟩) hS ?_
    ·go_simp
    try simp only [Act.put,List.setIfInBounds_toArray,List.set_cons_zero,List.set_cons_succ]
    refine wpAnyH_take (i:=8) (oi:=⟨some 54,_,_,_,_,_⟩) (v:=Value.pointer (some ⟨gq,oq + k * 4 + 3,none⟩)) rfl (by kernel_rfl) (by kernel_rfl) (by kernel_rfl) (fun _ _ _ h=>h) (Or.inl ⟨by rfl,fun V hV=>?_⟩) hS ?_
    ·go_simp
    try simp only [Act.put,List.setIfInBounds_toArray,List.set_cons_zero,List.set_cons_succ]
    refine wpAnyH_take (i:=9) (oi:=⟨some 55,_,_,_,_,_⟩) (v:=Value.bool y.2.weak) rfl (by kernel_rfl) (by kernel_rfl) (by kernel_rfl) (fun _ _ _ h=>h) (Or.inl ⟨by rfl,fun V hV=>?_⟩) hS ?_
    ·(obtain ⟨c0,c1,c2,c3⟩:=DY.out V hV;go_simp)
    try simp only [Act.put,List.setIfInBounds_toArray,List.set_cons_zero,List.set_cons_succ]
    refine wpAnyH_take (i:=10) (oi:=⟨some 56,_,_,_,_,_⟩) (v:=Value.slice (some ⟨gq,oq,none⟩) M c5) rfl (by kernel_rfl) (by kernel_rfl) (by kernel_rfl) (fun _ _ _ h=>h) (Or.inl ⟨by rfl,fun V hV=>?_⟩) hS ?_
    ·go_simp
    try simp only [Act.put,List.setIfInBounds_toArray,List.set_cons_zero,List.set_cons_succ]
    refine wpAnyH_take (i:=11) (oi:=⟨some 57,_,_,_,_,_⟩) (v:=Value.int .i64 (k:Int)) rfl (by kernel_rfl) (by kernel_rfl) (by kernel_rfl) (fun _ _ _ h=>h) (Or.inl ⟨by rfl,fun V hV=>?_⟩) hS ?_
    ·go_simp
    try simp only [Act.put,List.setIfInBounds_toArray,List.set_cons_zero,List.set_cons_succ]
    refine wpAnyH_take (i:=12) (oi:=⟨some 58,_,_,_,_,_⟩) (v:=Value.pointer (some ⟨gq,oq + k * 4,none⟩)) rfl (by kernel_rfl) (by kernel_rfl) (by kernel_rfl) (fun _ _ _ h=>h) (Or.inl ⟨by rfl,fun V hV=>?_⟩) hS ?_
    ·go_simp
    try simp only [Act.put,List.setIfInBounds_toArray,List.set_cons_zero,List.set_cons_succ]
    refine wpAnyH_take (i:=13) (oi:=⟨some 59,_,_,_,_,_⟩) (v:=Value.pointer (some ⟨gq,oq + k * 4 + 2,none⟩)) rfl (by kernel_rfl) (by kernel_rfl) (by kernel_rfl) (fun _ _ _ h=>h) (Or.inl ⟨by rfl,fun V hV=>?_⟩) hS ?_
    ·go_simp
    try simp only [Act.put,List.setIfInBounds_toArray,List.set_cons_zero,List.set_cons_succ]
    refine wpAnyH_take (i:=14) (oi:=⟨some 60,_,_,_,_,_⟩) (v:=Value.int .u64 y.2.value) rfl (by kernel_rfl) (by kernel_rfl) (by kernel_rfl) (fun _ _ _ h=>h) (Or.inl ⟨by rfl,fun V hV=>?_⟩) hS ?_
    ·(obtain ⟨c0,c1,c2,c3⟩:=DY.out V hV;go_simp)
    try simp only [Act.put,List.setIfInBounds_toArray,List.set_cons_zero,List.set_cons_succ]
    refine wpAnyH_take (i:=15) (oi:=⟨some 61,_,_,_,_,_⟩) (v:=Value.agg #[.string (strOfNums y.1),.int .i64 2,.bool y.2.weak,.int .u64 y.2.value,.int .u64 0,.int .u64 0,.string ⟨#[]⟩]) rfl (by kernel_rfl) (by kernel_rfl) (by kernel_rfl) (fun _ _ _ h=>h) (Or.inl ⟨by rfl,fun V hV=>?_⟩) hS ?_
    ·go_simp
    try simp only [Act.put,List.setIfInBounds_toArray,List.set_cons_zero,List.set_cons_succ]
    refine wpAnyH_ready (rs:=[16]) (by kernel_rfl) (by simp) ?_
    refine AllReadyH.cons (o:=⟨some 10,_,_,_,_,_⟩) rfl (fun K' hK'=>?_) AllReadyH.nil
    go_simp
    have r5:ExAt ((wr.alloc (.cells #[.string ⟨#[]⟩,.int .i64 0,.bool false,.int .u64 0,.int .u64 0,.int .u64 0,.string ⟨#[]⟩] 28)).drew) wr.heap.size ⟨#[]⟩ Ex.zero:=new_ex wr
    have g5:wr.grownBy ((wr.alloc (.cells #[.string ⟨#[]⟩,.int .i64 0,.bool false,.int .u64 0,.int .u64 0,.int .u64 0,.string ⟨#[]⟩] 28)).drew) none:=grown_drewN (grown1 wr (.cells #[.string ⟨#[]⟩,.int .i64 0,.bool false,.int .u64 0,.int .u64 0,.int .u64 0,.string ⟨#[]⟩] 28)) 1
    obtain ⟨w5,hw5⟩:∃ W,W=(wr.alloc (.cells #[.string ⟨#[]⟩,.int .i64 0,.bool false,.int .u64 0,.int .u64 0,.int .u64 0,.string ⟨#[]⟩] 28)).drew:=⟨_,rfl⟩
    obtain ⟨X,hX⟩:∃ X,X=wr.heap.size:=⟨_,rfl⟩
    rw [← hw5] at r5 g5 ⊢
    rw [← hX] at r5 ⊢
    refine hK'.out _ _ g5 (fun hS=>?_)
    have HX:=Lib.hid hX
    clear hK' K' g5 hw5 hX
    try simp only [Act.put,List.setIfInBounds_toArray,List.set_cons_zero,List.set_cons_succ]
    refine wpAnyH_ready (rs:=[17]) (by kernel_rfl) (by simp) ?_
    have z0:=r5.fz 0
    have z1:=r5.fz 1
    have z2:=r5.fz 2
    have z3:=r5.fz 3
    have z4:=r5.fz 4
    have z5:=r5.fz 5
    have z6:=r5.fz 6
    have e0:=r5.c
    have l5:=r5.lt
    refine AllReadyH.cons (o:=⟨none,_,_,_,_,_⟩) rfl (fun K' hK'=>?_) AllReadyH.nil
    go_simp
    have hS':=grown_opt hS (grown_put7 (grown_refl w5 (some X)) (.string (strOfNums y.1)) (.int .i64 2) (.bool y.2.weak) (.int .u64 y.2.value) (.int .u64 0) (.int .u64 0) (.string ⟨#[]⟩)) (fun g e=>by injection e with e;have:=HX.out;omega)
    have r6:=r5.put (strOfNums y.1) ⟨2,y.2.weak,y.2.value,0,0,[]⟩
    refine hK'.out _ _ hS' (fun hS=>?_)
    clear hK' K' hS'
    try simp only [Act.put,List.setIfInBounds_toArray,List.set_cons_zero,List.set_cons_succ]
    refine wpAnyH_done (by kernel_rfl) ?_ _
    obtain ⟨w6,hw6⟩:∃ W,W=((((((w5.setCell ⟨X,0,none⟩ (.string (strOfNums y.1))).setCell ⟨X,1,none⟩ (.int .i64 2)).setCell ⟨X,2,none⟩ (.bool y.2.weak)).setCell ⟨X,3,none⟩ (.int .u64 y.2.value)).setCell ⟨X,4,none⟩ (.int .u64 0)).setCell ⟨X,5,none⟩ (.int .u64 0)).setCell ⟨X,6,none⟩ (.string ⟨#[]⟩):=⟨_,rfl⟩
    rw [show strOfNums ([]:List Int)=(⟨#[]⟩:ByteArray) from rfl] at r6
    simp only [] at r6
    rw [← hw6] at hS r6 ⊢
    clear hw6 z0 z1 z2 z3 z4 z5 z6 e0 l5 r5 a0 a1 a2 a3
    obtain ⟨a0,a1,a2,a3⟩:=DY.out w6 hS
    have xl:=r6.lt
    have G6:=Lib.hid hS
    have R6:=Lib.hid r6
    by_cases hsec:y.2.sec=0
    ·have ds:decide ((0:Int) < y.2.sec)=false:=by simp;omega
     have SX:=Lib.hid (show exCs (strOfNums y.1) (symEx LN y).2=[.string (strOfNums y.1),.int .i64 2,.bool y.2.weak,.int .u64 y.2.value,.int .u64 0,.int .u64 0,.string ⟨#[]⟩] from by
      unfold symEx
      simp only []
      rw [if_pos hsec]
      rfl)
     have GN:=G6
     obtain ⟨e0,e1,e2,e3,e4,e5,e6⟩:=r6.c
     rw [show strOfNums ([]:List Int)=(⟨#[]⟩:ByteArray) from rfl] at e6
     simp only [] at e1 e2 e3 e4 e5
     clear hS r6 hsec
     have g9:=grown1 w6 (.cells #[.string (strOfNums y.1),.int .i64 2,.bool y.2.weak,.int .u64 y.2.value,.int .u64 0,.int .u64 0,.string ⟨#[]⟩] 28)
     have O9:=Lib.hid (own_grown OW.out (grown_trans GN.out g9))
     have N9:=Lib.hid (heap_alloc_new w6 (.cells #[.string (strOfNums y.1),.int .i64 2,.bool y.2.weak,.int .u64 y.2.value,.int .u64 0,.int .u64 0,.string ⟨#[]⟩] 28))
     have G9:=Lib.hid (grown_trans GX.out (grown_trans GN.out g9))
     clear g9
     go_wp2_with (at_builtin;refine wp_append_sta exType rfl _ _ rfl _ k _ rfl O9.out [.string (strOfNums y.1),.int .i64 2,.bool y.2.weak,.int .u64 y.2.value,.int .u64 0,.int .u64 0,.string ⟨#[]⟩] rfl w6.heap.size rfl N9.out (exCs_one (strOfNums y.1) ⟨2,y.2.weak,y.2.value,0,0,[]⟩) (by omega) (by decide) G9.out.size ?_)
     intro v10 w10 ho10 hg10 hv10
     obtain ⟨q10,c10,rfl⟩:=own_slice ho10
     have G10:=Lib.hid (grown_opt G9.out hg10 (fun g e=>(O9.out.lt g e).1))
     have O10:=Lib.hid (show w10.ownsRow w4.heap.size 28 7 (.slice q10 (k + 1) c10) (k + 1) (((D.take (k + 1)).map (symEx LN)).flatMap outCs) from by rw [TK.out,List.map_take,SX.out];exact ho10)
     clear ho10 hg10 hv10 O9 N9
     go_wp2
     go_roundw
     case rel=>exact ⟨⟨k + 1,q10,c10,hlt,by go_num,rfl,O10.out⟩,G10.out⟩
     case measure=>simp [intOf];omega
    ·have ds:decide ((0:Int) < y.2.sec)=true:=by simp;omega
     obtain ⟨u,hu⟩:∃ u,u=(y.2.value - LN) % 18446744073709551616:=⟨_,rfl⟩
     have hm:IntKind.u64.wrap (y.2.value - LN)=u:=by rw [hu];exact IntKind.wrap_u64 _
     have SX:=Lib.hid (show exCs (strOfNums y.1) (symEx LN y).2=[.string (strOfNums y.1),.int .i64 1,.bool y.2.weak,.int .u64 u,.int .u64 0,.int .u64 0,.string ⟨#[]⟩] from by
      unfold symEx
      simp only []
      rw [if_neg hsec,← hu]
      rfl)
     have z1:=r6.fz 1
     have e0:=r6.c.2.1
     simp only [] at e0
     have r7:=r6.kind 1
     have g7:=grown_opt hS (grown_setCell (i:=1) (grown_refl w6 (some X)) (.int .i64 1)) (fun g e=>by injection e with e;have:=HX.out;omega)
     obtain ⟨w7,hw7⟩:∃ W,W=w6.setCell ⟨X,1,none⟩ (.int .i64 1):=⟨_,rfl⟩
     rw [← hw7] at r7 g7
     have HW7:=Lib.hid hw7.symm
     have G7:=Lib.hid g7
     have R7:=Lib.hid r7
     clear hS r6 hsec hu hw7
     go_upto_region 13 with fail
     rw [HW7.out]
     clear HW7 e0 z1 a0 a1 a2 a3 xl
     have KG:=fun d os=>grown_below (below_regrown w7 d os) none
     have A2:=Lib.hid (fun d os=>cell_regrown (DY.out w7 G7.out).2.2.1 d os)
     have GW7:=grown_trans GH.out (grown_trans GX.out g7)
     have LQ:=Lib.hid (fun d os=>Calls.regrown_of ((LO.out _ (grown_trans GW7 (KG d os))).mono (fun _ _ h=>(⟨h.1,below_grown h.2 (Nat.le_refl _) (by simp)⟩ : _∧_))))
     have LD:=Lib.hid (fun (V:World) (hV:∃ p:Regrown,V=Go.Sort.grow (redrawn w7 p.d) p.os)=>(by obtain ⟨p,rfl⟩:=hV;exact KI.out _ (grown_trans GW7 (KG p.d p.os)):(loadVar 48 ⟨b,0,none⟩).run Tryz.prog V=.ok _ V))
     have HK:=Lib.hid KG
     clear KG g7 r7 GW7
     have a2:=A2.out
     refine wp_region_quiet_tail 9 (by kernel_rfl) (by kernel_rfl) ?_
     simp only [List.take_succ_cons,List.take_zero,List.drop_succ_cons,List.drop_zero]
     iterate 5 (quiet_step (fail))
     refine wpQuiet_load rfl _ rfl rfl LD.out ?_
     quiet_step (with_reducible exact LQ.out _ _)
     repeat (quiet_step (fail))
     refine wpQuiet_nil ?_
     intro _ hw'
     obtain ⟨⟨dq,osq⟩,hw''⟩:=hw'
     subst hw''
     have gk:=HK.out dq osq
     have r8:=R7.out.kept gk (by simp)
     have g8:=grown_trans G7.out gk
     obtain ⟨w8,hw8⟩:∃ W,Go.Sort.grow (redrawn w7 dq) osq=W:=⟨_,rfl⟩
     rw [hw8] at r8 g8 ⊢
     have z3:=r8.fz 3
     have e3:=r8.c.2.2.2.1
     have l8:=r8.lt
     simp only [] at e3
     have r9:=r8.value u
     have g9':=grown_opt g8 (grown_setCell (i:=3) (grown_refl w8 (some X)) (.int .u64 u)) (fun g e=>by injection e with e;have:=HX.out;omega)
     obtain ⟨w9,hw9⟩:∃ W,W=w8.setCell ⟨X,3,none⟩ (.int .u64 u):=⟨_,rfl⟩
     rw [← hw9] at r9 g9'
     have HW9:=Lib.hid hw9.symm
     have GN:=Lib.hid g9'
     have R9:=Lib.hid r9
     clear hw8 r8 g8 gk hw9 r9 g9' a2
     go_upto_region 14 with fail
     rw [HW9.out]
     clear HW9 e3 z3 l8
     obtain ⟨e0,e1,e2,e3,e4,e5,e6⟩:=R9.out.c
     have xl:=R9.out.lt
     rw [show strOfNums ([]:List Int)=(⟨#[]⟩:ByteArray) from rfl] at e6
     simp only [] at e1 e2 e3 e4 e5
     have g9:=grown1 w9 (.cells #[.string (strOfNums y.1),.int .i64 1,.bool y.2.weak,.int .u64 u,.int .u64 0,.int .u64 0,.string ⟨#[]⟩] 28)
     have O9:=Lib.hid (own_grown OW.out (grown_trans GN.out g9))
     have N9:=Lib.hid (heap_alloc_new w9 (.cells #[.string (strOfNums y.1),.int .i64 1,.bool y.2.weak,.int .u64 u,.int .u64 0,.int .u64 0,.string ⟨#[]⟩] 28))
     have G9:=Lib.hid (grown_trans GX.out (grown_trans GN.out g9))
     clear g9
     go_wp2_with (at_builtin;refine wp_append_sta exType rfl _ _ rfl _ k _ rfl O9.out [.string (strOfNums y.1),.int .i64 1,.bool y.2.weak,.int .u64 u,.int .u64 0,.int .u64 0,.string ⟨#[]⟩] rfl w9.heap.size rfl N9.out (exCs_one (strOfNums y.1) ⟨1,y.2.weak,u,0,0,[]⟩) (by omega) (by decide) G9.out.size ?_)
     intro v10 w10 ho10 hg10 hv10
     obtain ⟨q10,c10,rfl⟩:=own_slice ho10
     have G10:=Lib.hid (grown_opt G9.out hg10 (fun g e=>(O9.out.lt g e).1))
     have O10:=Lib.hid (show w10.ownsRow w4.heap.size 28 7 (.slice q10 (k + 1) c10) (k + 1) (((D.take (k + 1)).map (symEx LN)).flatMap outCs) from by rw [TK.out,List.map_take,SX.out];exact ho10)
     clear ho10 hg10 hv10 O9 N9
     go_wp2
     go_roundw
     case rel=>exact ⟨⟨k + 1,q10,c10,hlt,by go_num,rfl,O10.out⟩,G10.out⟩
     case measure=>simp [intOf];omega
   ·have hkm:M=k:=by omega
    subst hkm
    have dl:decide ((M:Int) < (M:Int))=false:=by simp
    have hfull:D.take M=D:=by rw [← HM.out,List.take_length]
    rw [hfull] at ho
    have SO:=Lib.hid (sorted_any M (D.map (symEx LN)) q8 c8 wr (by rw [List.length_map,HM.out]) (by omega) (own_room8 ho) (own_max ho) (RowEx.of ho).exs)
    have GT:=Lib.hid (grown_trans (grown_trans G.out GH.out) hg)
    clear ho hg hfull
    go_wp2_with fail
    refine SO.out.mono ?_
    rintro e w11 ⟨⟨R,v,rfl,o11,p11,s11⟩,g11⟩
    have SE:=srtN_one (D:=D.map (symEx LN)) (R:=R) (fun y hy=>by
     obtain ⟨z,hz,rfl⟩:=List.mem_map.1 hy
     exact (OK.out.each z hz).1) (by
     rw [List.pairwise_map]
     exact OK.out.apart) s11 p11
    have hlen:R.length=M:=by rw [p11.length_eq,List.length_map,HM.out]
    obtain ⟨q11,c11,rfl⟩:=own_slice o11
    have F:=Lib.hid (show ExsO w w11 RES (.returned (.tuple #[.slice q11 R.length c11,.int .i64 E])) from by
     rw [OUT.out,← SE]
     exact ⟨⟨q11,c11,rfl,RowEx.of o11,own_room8 o11,own_max o11⟩,grown_trans GT.out g11⟩)
    clear o11 p11 s11 g11 SE hlen SO
    go_wp2
    go_ret2
    exact F.out
 ·have h2:s.sy.2=0:=by have:=SYP.out;obtain ⟨h3,_⟩:=this;omega
  have d1:(s.sy.2 == 0)=true:=by simpa using h2
  have F:=Lib.hid (show ExsO w W RES (.returned (.tuple #[.slice none 0 0,.int .i64 0])) from ExsO.none (by rw [OUT.out];unfold expRaw;rw [if_neg h0,if_neg h1]) G.out)
  clear h0 h1 h2 PT PA PB SE LO KI KS
  rw [show imgV h s (.slice qs N cs) (.slice qd nd cd)=.agg (imgArr h s (.slice qs N cs) (.slice qd nd cd)) from rfl]
  unfold imgArr at hW ⊢
  go_enter Tryz.func50,Tryz.ntmps50
  go_upto_region 1 with fail
  clear hW hb'
  go_wp2
  go_ret2
  exact F.out
end Go.Proofs.YtkmbkpoclhbmgaaGreat
