/- Parts of the proof, put together: TrF, MkS, ExsA, RKn, MkQ, RefPut, MkN, AppS. No condition beyond those that each part names. -/
import Derived.Shelf.Small.Bits
import Derived.Shelf.Small.Strs
import Derived.Shelf.Strconv.Itoa0
import Derived.Shelf.Strings.Search1
import Derived.Shelf.Bytes.SlIndexAt
import Derived.Shelf.Bytes.SlSearch0
import Derived.Ground.SlbCloneProg
import Derived.Shelf.Bytes.SlClone
import Derived.Shelf.Bytes.IndexByte
import Derived.Test.YtkmbkpoclhbmgaaGreatProg
import Derived.Test.YtkmbkpoclhbmgaaGreatRows
import Derived.WalkKit
import Derived.WalkSpells
import Derived.WalkLawsBesides
import Derived.BigQuiet
import Derived.Deep.QuietTactic
import Derived.Lib.Hide
import Derived.IntWalk
import Derived.OneCell
import Derived.Laws.Rows
import Derived.OpenShut
import Derived.ProofKit
import Derived.Lib.EndianBits
import Derived.RegionTactic
import Derived.ChangeAlike
import Derived.WalkMore
import Derived.Laws.BytesArg
import Derived.Shelf.Bytes.SlEqualAll
import Derived.Lib.SlFresh
import Derived.Maps.AppendAt
import Derived.Deep.AppendSrc
import Derived.Deep.Upon
import Derived.Lib.AppendZeros
import Derived.Laws.IdiomStrings
import Derived.Lib.AppendZerosOnto
import Derived.Laws.StructEq
import Derived.Below
import Derived.Shelf.Abstract
import Derived.Laws.ResultCell
import Derived.Deep.Slices
import Derived.ChangeSame
import Derived.Laws.OwnMore
import Derived.Laws.Slices
import Derived.Lib.ConvBytes
import Derived.StringKeys
import Derived.Maps.Own
import Derived.Maps.OwnOps
import Derived.Maps.OwnSet
import Derived.WideShapes
import Derived.Deep.LoopGhost
import Derived.StillTailTactics
import Derived.Deep.Cut
import Derived.Deep.CutRange
import Derived.PlainAid
import Derived.Lib.SlBytesRow
import Derived.Deep.Onto
import Derived.Laws.EntriesVeiled
import Derived.Shelf.SlSortCmp.WholeK
import Derived.Shelf.SlGeneric
import Derived.Ground.SlsfProg
import Derived.Laws.Bits128
import Derived.Deep.RegionWith
import Derived.Deep.RegionHeld3
import Derived.Lib.SmallJoins
import Derived.Test.YtkmbkpoclhbmgaaGreatPM2
import Derived.Test.YtkmbkpoclhbmgaaGreatPM4
import Derived.Test.YtkmbkpoclhbmgaaGreatPM5
import Derived.Test.YtkmbkpoclhbmgaaGreatPM6
namespace Go.Proofs.YtkmbkpoclhbmgaaGreat
open Go.RowKit
variable {w w' W V:World} {xs:List Int}
theorem leadN_none {l:List Kid} {rest:List Int} (h:∀ (i:Nat) (y:Kid),l[i]?=some y→pfx y.1 rest=false):leadN l rest=[]:=by
 unfold leadN
 rw [List.find?_eq_none.2 (fun x hx=>by
  obtain ⟨i,hi,rfl⟩:=List.getElem_of_mem hx
  rw [h i _ (List.getElem?_eq_getElem hi)];simp)]
theorem leadN_some {l:List Kid} {rest:List Int} {k:Nat} {x:Kid} (hx:l[k]?=some x) (hp:pfx x.1 rest=true) (h:∀ (i:Nat) (y:Kid),i < k→l[i]?=some y→pfx y.1 rest=false):leadN l rest=[x]:=by
 have e:l.find? (fun k=>pfx k.1 rest)=some x:=by
  obtain ⟨hk,rfl⟩:=List.getElem?_eq_some_iff.1 hx
  rw [List.find?_eq_some_iff_getElem]
  refine ⟨hp,k,hk,rfl,fun j hj=>?_⟩
  rw [h j _ hj (List.getElem?_eq_getElem (by omega))];rfl
 unfold leadN
 rw [e]
theorem strOf_cut (l:List Int) (i j:Nat):(strOfNums l).extract i j=strOfNums ((l.take j).drop i):=by
 apply ByteArray.ext
 apply Array.ext'
 rw [ByteArray.data_extract,Array.toList_extract,strOfNums_data,strOfNums_data,List.extract_eq_take_drop,List.map_drop,List.map_take]
 rw [List.drop_take]
theorem hasPrefix0_any (a b:List Int) (ha:Byt a) (hb:Byt b) (W:World):Calls Tryz.prog 195 #[.string (strOfNums a),.string (strOfNums b)] W fun e w'=>e=.returned (.bool (pfx b a))∧w'=W:=by
 have s1:(strOfNums a).size=a.length:=strOfNums_size _
 have s2:(strOfNums b).size=b.length:=strOfNums_size _
 by_cases hl:b.length≤a.length
 ·have PX:=Lib.hid (show (((strOfNums a).extract 0 b.length).toList == (strOfNums b).toList)=pfx b a by
   rw [strOf_cut,List.drop_zero,Lib.strOfNums_toList b,text_is (ha.take _) hb]
   unfold pfx
   rw [decide_eq_true hl,Bool.true_and])
  clear ha hb
  go_enter Tryz.func195,Tryz.ntmps195
  go_wp2
  go_ret
  exact ⟨ret_bool PX.out,rfl⟩
 ·have PX:=Lib.hid (show false=pfx b a by unfold pfx;rw [decide_eq_false hl,Bool.false_and])
  have dl:decide ((b.length:Int)≤(a.length:Int))=false:=by simp;omega
  have dl2:decide (b.length≤a.length)=false:=by simp;omega
  clear ha hb hl
  go_enter Tryz.func195,Tryz.ntmps195
  go_wp2
  go_ret
  exact ⟨ret_bool PX.out,rfl⟩
theorem hasPrefix_any (a b:List Int) (ha:Byt a) (hb:Byt b) (W:World):Calls Tryz.prog 194 #[.string (strOfNums a),.string (strOfNums b)] W fun e w'=>e=.returned (.bool (pfx b a))∧w'=W:=by
 have H:=Lib.hid (hasPrefix0_any a b ha hb W)
 clear ha hb
 go_enter Tryz.func194,Tryz.ntmps194
 go_wp2_with fail
 refine H.out.mono ?_
 rintro e w' ⟨rfl,rfl⟩
 go_wp2
 go_ret
 exact ⟨rfl,rfl⟩
theorem leading1_any (k:Kid) (rest:List Int) (hk:Byt k.1) (hr:Byt rest) {g:Nat} (hg:OneAt W g (.string (strOfNums rest)) 9) :
  Calls Tryz.prog 193 #[.agg #[.string (strOfNums k.1),.int .u64 k.2],.pointer (some ⟨g,0,none⟩)] W fun e w'=>e=.returned (.bool (pfx k.1 rest))∧W.grownBy w' none:=by
 have gB:=grown1 W (.cells #[.string (strOfNums k.1),.int .u64 k.2] 145)
 have d0:=(hg.grown gB).c
 have dl:=(hg.grown gB).lt
 have G:=Lib.hid gB
 have H:=Lib.hid (hasPrefix_any rest k.1 hr hk (W.alloc (.cells #[.string (strOfNums k.1),.int .u64 k.2] 145)))
 obtain ⟨e1,p1⟩:=k
 simp only [] at *
 clear gB hg hk hr
 go_enter Tryz.func193,Tryz.ntmps193
 go_wp2_with fail
 refine H.out.mono ?_
 rintro e w' ⟨rfl,rfl⟩
 go_wp2
 go_ret
 exact ⟨rfl,G.out⟩
set_option maxRecDepth 20000 in
set_option maxHeartbeats 800000 in
theorem indexLead_any (l:List Kid) (n:Nat) (hn:l.length=n) (hl:n≤9223372036854775807) (q:Option Addr) (c:Nat) (hr:KidsAt w q l) (rest:List Int) {g:Nat} (hx:OneAt w g (.string (strOfNums rest)) 9) (b2:Byt rest) (ho:∀ k∈l,Byt k.1) :
  Calls Tryz.prog 169 #[.slice q n c,.func (.func 193) #[] #[.pointer (some ⟨g,0,none⟩)]] w fun e w' =>
   ((e=.returned (.int .i64 (-1))∧leadN l rest=[])∨∃ (k:Nat) (x:Kid),k < n∧e=.returned (.int .i64 k)∧l[k]?=some x∧leadN l rest=[x])∧w.grownBy w' none:=by
 subst hn
 have RR:=Lib.hid hr
 have OO:=Lib.hid ho
 have HX:=Lib.hid hx
 have BB:=Lib.hid b2
 clear hr ho hx b2
 go_enter Tryz.func169,Tryz.ntmps169
 go_wp2
 go_loopw [8] (fun i wr=>∃ k:Nat,k≤l.length∧i=.int .i64 k∧w.grownBy wr none∧∀ (i:Nat) (y:Kid),i < k→l[i]?=some y→pfx y.1 rest=false) (fun i _=>l.length - (intOf i).toNat)
 case atStart=>exact ⟨0,Nat.zero_le _,rfl,grown_refl _ _,fun i y h=>by omega⟩
 case round =>
  obtain ⟨k,hk,rfl,hg,hno⟩:=hrel
  have G:=Lib.hid hg
  have NO:=Lib.hid hno
  by_cases hlt:k < l.length
  ·obtain ⟨x,hx⟩:∃ x,l[k]?=some x:=⟨_,List.getElem?_eq_getElem hlt⟩
   obtain ⟨gq,oq,rfl,c0,c1⟩:=(RR.out.grown hg).at k x hx
   have M1:=Lib.hid (leading1_any x rest (OO.out x (List.mem_of_getElem? hx)) BB.out (HX.out.grown hg))
   have XX:=Lib.hid hx
   have dl:decide ((k:Int) < (l.length:Int))=true:=by simp;omega
   have hkl:(k:Int) < (l.length:Int):=by omega
   obtain ⟨bx,hbx⟩:∃ bx,bx=pfx x.1 rest:=⟨_,rfl⟩
   rw [← hbx] at M1
   have PX:=Lib.hid hbx
   have LD:=Lib.hid (fun (h:bx=true)=>leadN_some hx (hbx ▸ h) hno)
   obtain ⟨xe,xp⟩:=x
   simp only [] at c0 c1 M1
   clear hg hno hx hbx
   generalize l.length=N at *
   go_wp2_with fail
   refine M1.out.mono ?_
   rintro e w3 ⟨rfl,hg⟩
   have G3:=Lib.hid (grown_trans G.out hg)
   clear hg
   cases bx
   · go_wp2
     go_roundw
     case rel =>
      refine ⟨k + 1,hlt,by go_num,G3.out,fun i y hi hy=>?_⟩
      rcases Nat.lt_or_ge i k with h | h
      ·exact NO.out i y h hy
      ·obtain rfl:i=k:=by omega
       rw [XX.out] at hy
       injection hy with hy
       rw [← hy];exact PX.out.symm
     case measure=>simp [intOf];omega
   · go_wp2
     go_ret
     exact ⟨.inr ⟨k,_,(List.getElem?_eq_some_iff.1 XX.out).1,rfl,XX.out,by first | exact LD.out rfl | exact LD.out trivial⟩,G3.out⟩
  ·have NA:=Lib.hid (leadN_none (rest:=rest) (l:=l) (fun i y hy=>hno i y (by have:=(List.getElem?_eq_some_iff.1 hy).1;omega) hy))
   have dl:decide ((k:Int) < (l.length:Int))=false:=by simp;omega
   clear hno hg
   generalize l.length=N at *
   go_wp2
   go_ret
   exact ⟨.inl ⟨rfl,NA.out⟩,G.out⟩
set_option maxRecDepth 20000 in
theorem leading_any (l:List Kid) (n:Nat) (hn:l.length=n) (q:Option Addr) (c:Nat) (hnc:n≤c) (hc:c≤9223372036854775807) (hr:KidsAt w q l) (rest:List Int) (b2:Byt rest) (ho:∀ k∈l,Byt k.1) :
  Calls Tryz.prog 192 #[.slice q n c,.string (strOfNums rest)] w fun e w' =>
   (∃ q' c',e=.returned (.slice q' (leadN l rest).length c')∧KidsAt w q' (leadN l rest)∧(∀ g o,q'=some ⟨g,o,none⟩→∃ o',q=some ⟨g,o',none⟩)∧(leadN l rest).length≤c'∧c'≤9223372036854775807)∧w.grownBy w' none:=by
 have gB:=grown1 w (.cells #[.string (strOfNums rest)] 9)
 have o1:=OneAt.new w (.string (strOfNums rest)) 9
 have I:=Lib.hid (indexLead_any (w:=w.alloc (.cells #[.string (strOfNums rest)] 9)) l n hn (by omega) q c (hr.grown gB) rest o1 b2 ho)
 have G:=Lib.hid gB
 have RR:=Lib.hid hr
 clear gB o1 hr b2 ho
 go_enter Tryz.func192,Tryz.ntmps192
 go_wp2_with fail
 refine I.out.mono ?_
 rintro e w' ⟨h,hg⟩
 have G2:=Lib.hid (grown_trans G.out hg)
 clear hg
 rcases h with ⟨rfl,hL⟩ | ⟨k,x,hk,rfl,hx,hL⟩
 ·have FN:=Lib.hid (show ∃ q' c',Ending.returned (.slice none 0 0)=.returned (.slice q' (leadN l rest).length c')∧KidsAt w q' (leadN l rest)∧(∀ g o,q'=some ⟨g,o,none⟩→∃ o',q=some ⟨g,o',none⟩)∧(leadN l rest).length≤c'∧c'≤9223372036854775807 from by
   rw [hL];exact ⟨none,0,rfl,KidsAt.nil,fun g o e=>(by cases e),Nat.le_refl _,by decide⟩)
  clear hL
  go_wp2
  go_ret
  exact ⟨FN.out,G2.out⟩
 ·obtain ⟨gq,oq,rfl,c0,c1⟩:=RR.out k x hx
  have FN:=Lib.hid (show ∃ q' c',Ending.returned (.slice (some ⟨gq,oq + k * 2,none⟩) 1 (c - k))=.returned (.slice q' (leadN l rest).length c')∧KidsAt w q' (leadN l rest)∧(∀ g o,q'=some ⟨g,o,none⟩→∃ o',(some ⟨gq,oq,none⟩:Option Addr)=some ⟨g,o',none⟩)∧(leadN l rest).length≤c'∧c'≤9223372036854775807 from by
   rw [hL]
   refine ⟨_,_,rfl,fun i y hy=>?_,fun g o e=>⟨oq,by injection e with e;injection e with e1 _ _;rw [e1]⟩,by simp;omega,by omega⟩
   match i,hy with
   | 0,hy =>
     injection hy with hy
     subst hy
     exact ⟨gq,oq + k * 2,rfl,by rw [Nat.zero_mul,Nat.add_zero];exact c0,by rw [Nat.zero_mul,Nat.add_zero];exact c1⟩)
  have hS:∀ W,(Instr.slice 85 (.slice (some ⟨gq,oq,none⟩) n c) (some (.int .i64 (k:Int))) (some (.int .i64 ((k:Int) + 1))) none).run Tryz.prog W=.ok (.slice (some ⟨gq,oq + k * 2,none⟩) 1 (c - k)) W:=fun W=>by
   rw [run_slice_lh (P:=Tryz.prog) W 85 (some ⟨gq,oq,none⟩) n c (by kernel_rfl) .i64 .i64 (k:Int) ((k:Int) + 1) (by omega) (by omega) (by omega)]
   have hs:((sizeOf (Tryz.prog.elem 85)).run Tryz.prog W)=.ok 2 W:=by kernel_rfl
   rw [hs]
   simp only [Result.andThen,sliced]
   rw [if_neg (by omega),show ((k:Int) + 1).toNat - ((k:Int)).toNat=1 by omega,show ((k:Int)).toNat=k by omega]
   simp only [Option.map_some,add_flat]
  have hk63:(k:Int)≤9223372036854775806:=by omega
  clear hL hx c0 c1 hn hnc hc
  go_wp2
  go_ret
  exact ⟨FN.out,G2.out⟩
end Go.Proofs.YtkmbkpoclhbmgaaGreat
namespace Go.Proofs.YtkmbkpoclhbmgaaGreat
open Go.RowKit Go.PlainAid
variable {w w' W V:World}
theorem bt_nth {l:List Int} (h:Byt l) {i:Nat} (hi:i < l.length):bt (strOfNums l) i=l.getD i 0:=by
 have h0:i < (strOfNums l).size:=by rw [strOfNums_size];exact hi
 unfold bt
 rw [dif_pos h0]
 have hx:=h (l[i]) (List.getElem_mem hi)
 have e:(strOfNums l)[i]=UInt8.ofNat (l[i]).toNat:=by
  have:=strOfNums_data l
  show (strOfNums l).data[i]=_
  have h1:(strOfNums l).data.toList[i]'(by rw [Array.length_toList];exact h0)=(l.map fun x=>UInt8.ofNat x.toNat)[i]'(by rw [List.length_map];exact hi):=by
   congr 1
  rw [Array.getElem_toList] at h1
  rw [h1,List.getElem_map]
 rw [e]
 simp only [UInt8.toNat_ofNat',List.getD_eq_getElem?_getD,List.getElem?_eq_getElem hi,Option.getD_some]
 omega
theorem lcp_next:∀ (n:Nat) (a b:List Int),n≤lcpN a b→(n < lcpN a b↔n < a.length∧n < b.length∧a.getD n 0=b.getD n 0)
 | n,[],b,h=>by cases b <;> simp [lcpN]
 | n,_ :: _,[],h=>by simp [lcpN]
 | 0,x :: a,y :: b,_=>by
  unfold lcpN
  by_cases h:x=y
  ·rw [if_pos h];simp [h]
  ·rw [if_neg h];simp [h]
 | n + 1,x :: a,y :: b,h=>by
  unfold lcpN at h ⊢
  by_cases hxy:x=y
  ·rw [if_pos hxy] at h ⊢
   have:=lcp_next n a b (by omega)
   simp only [List.length_cons,List.getD_cons_succ]
   omega
  ·rw [if_neg hxy] at h
   omega
set_option maxRecDepth 20000 in
set_option maxHeartbeats 1600000 in
theorem share_any (a b:List Int) (ha:Byt a) (hb:Byt b) (hlb:b.length≤1000000000) (w:World):Calls Tryz.prog 37 #[.string (strOfNums a),.string (strOfNums b)] w fun e w'=>e=.returned (.string (strOfNums (a.take (lcpN a b))))∧w.grownBy w' none:=by
 have s1:(strOfNums a).size=a.length:=strOfNums_size _
 have s2:(strOfNums b).size=b.length:=strOfNums_size _
 have HA:=Lib.hid (fun i hi=>bt_nth ha (i:=i) hi)
 have HB:=Lib.hid (fun i hi=>bt_nth hb (i:=i) hi)
 have CUT:=Lib.hid (strOf_cut a 0 (lcpN a b))
 have LT:=Lib.hid (lcp_take a b)
 clear ha hb
 go_enter Tryz.func37,Tryz.ntmps37
 go_wp2
 go_loopw [5] (fun vn wl=>∃ n:Nat,n≤lcpN a b∧vn=.int .i64 n∧w.grownBy wl none) (fun vn _=>lcpN a b - (intOf vn).toNat)
 case atStart=>exact ⟨0,Nat.zero_le _,rfl,grown_refl _ _⟩
 case round =>
  obtain ⟨n,hn,rfl,hg⟩:=hrel
  have G:=Lib.hid hg
  have LN:=Lib.hid (lcp_next n a b hn)
  have k1:=get_bt (strOfNums a)
  have k2:=get_bt (strOfNums b)
  clear hg
  obtain ⟨L,hL⟩:∃ L,L=lcpN a b:=⟨_,rfl⟩
  rw [← hL] at LN hn CUT LT ⊢
  have HL:=Lib.hid hL
  clear hL
  by_cases ca:n < a.length
  ·have da:decide ((n:Int) < (a.length:Int))=true:=by simp;omega
   by_cases cb:n < b.length
   ·have db:decide ((n:Int) < (b.length:Int))=true:=by simp;omega
    have e1:=HA.out n ca
    have e2:=HB.out n cb
    by_cases ce:a.getD n 0=b.getD n 0
    ·have de:(bt (strOfNums a) n == bt (strOfNums b) n)=true:=by rw [e1,e2,ce];simp
     have hlt:n < L:=LN.out.2 ⟨ca,cb,ce⟩
     have hL9:=LT.out.2.1
     clear e1 e2 ce
     go_wp2
     go_quiet (fail)
     go_wp2
     go_roundw
     case rel=>exact ⟨n + 1,hlt,by go_num,grown_drewN G.out _⟩
     case measure=>(simp [intOf];omega)
    ·have de:(bt (strOfNums a) n == bt (strOfNums b) n)=false:=by rw [e1,e2];simpa using ce
     have hnl:n=L:=by have h:=LN.out;omega
     clear e1 e2 ce
     subst hnl
     have hc:=CUT.out
     rw [List.drop_zero] at hc
     go_wp2
     go_quiet (fail)
     go_wp2
     go_ret
     exact ⟨by rw [← HL.out];rfl,grown_drewN G.out _⟩
   ·have db:decide ((n:Int) < (b.length:Int))=false:=by simp;omega
    have db2:decide (n < b.length)=false:=by simp;omega
    have hnl:n=L:=by have h:=LN.out;omega
    subst hnl
    have hc:=CUT.out
    rw [List.drop_zero] at hc
    go_wp2
    go_quiet (fail)
    go_wp2
    go_ret
    exact ⟨by rw [← HL.out];rfl,grown_drewN G.out _⟩
  ·have da:decide ((n:Int) < (a.length:Int))=false:=by simp;omega
   have da2:decide (n < a.length)=false:=by simp;omega
   have hnl:n=L:=by have h:=LN.out;omega
   subst hnl
   have hc:=CUT.out
   rw [List.drop_zero] at hc
   have hle:=LT.out.2.1
   go_wp2
   go_quiet (fail)
   go_wp2
   go_ret
   exact ⟨by rw [← HL.out];rfl,grown_drewN G.out _⟩
end Go.Proofs.YtkmbkpoclhbmgaaGreat
namespace Go.Proofs.YtkmbkpoclhbmgaaGreat
open Go.RowKit
variable {w w' W V:World}
theorem ExsAt.name {q:Option Addr} {D:Out} (h:ExsAt w q D) {i:Nat} {y:List Int × Ex} (hy:D[i]?=some y):∃ g o,q=some ⟨g,o,none⟩∧w.cell? ⟨g,o + i * 7,none⟩=some (.string (strOfNums y.1)):=by
 obtain ⟨g,o,e,hc⟩:=h i y hy
 have:=hc 0 (by decide)
 exact ⟨g,o,e,this⟩
theorem ExsAt.at {q:Option Addr} {D:Out} (h:ExsAt w q D) {i:Nat} {y:List Int × Ex} (hy:D[i]?=some y):∃ g o,q=some ⟨g,o,none⟩∧w.cell? ⟨g,o + i * 7,none⟩=some (.string (strOfNums y.1))∧w.cell? ⟨g,o + i * 7 + 1,none⟩=some (.int .i64 y.2.kind)∧w.cell? ⟨g,o + i * 7 + 2,none⟩=some (.bool y.2.weak) ∧
  w.cell? ⟨g,o + i * 7 + 3,none⟩=some (.int .u64 y.2.value)∧w.cell? ⟨g,o + i * 7 + 4,none⟩=some (.int .u64 y.2.resolver)∧w.cell? ⟨g,o + i * 7 + 5,none⟩=some (.int .u64 y.2.ordinal)∧w.cell? ⟨g,o + i * 7 + 6,none⟩=some (.string (strOfNums y.2.other)):=by
 obtain ⟨g,o,e,hc⟩:=h i y hy
 exact ⟨g,o,e,hc 0 (by decide),hc 1 (by decide),hc 2 (by decide),hc 3 (by decide),hc 4 (by decide),hc 5 (by decide),hc 6 (by decide)⟩
end Go.Proofs.YtkmbkpoclhbmgaaGreat
namespace Go.Proofs.YtkmbkpoclhbmgaaGreat
open Go.RowKit
variable {w w' W V:World}
def strCs (t:List Int):List Value:=[.string (strOfNums t)]
theorem strCs_len (t:List Int):(strCs t).length=1:=rfl
theorem strType:StType Tryz.prog 9 77 1 16:=.mk' Tryz.underlying77 (z:=.string ⟨#[]⟩) (by kernel_rfl) rfl (by decide)
def StrAt (w:World) (q:Option Addr) (l:List (List Int)):Prop:=∀ i t,l[i]?=some t→∃ g,q=some ⟨g,0,none⟩∧w.cell? ⟨g,i,none⟩=some (.string (strOfNums t))
theorem StrAt.of {lo n c:Nat} {q:Option Addr} {l:List (List Int)} (h:w.ownsRow lo 9 1 (.slice q n c) n (l.flatMap strCs)):StrAt w q l:=fun i x hx=>by
 obtain ⟨g,e,h1⟩:=row_cell strCs_len h hx (j:=0) (by decide)
 rw [Nat.mul_one,Nat.add_zero] at h1
 exact ⟨g,e,h1⟩
theorem StrAt.grown {q:Option Addr} {l:List (List Int)} (h:StrAt w q l) (hg:w.grownBy w' none):StrAt w' q l:=fun i x hx=>by
 obtain ⟨g,e,h1⟩:=h i x hx
 exact ⟨g,e,grown_cell hg h1⟩
def setO (N:List (List Int)):Out:=N.map fun t=>(t,Ex.zero)
theorem setO_app (A B:List (List Int)):setO (A ++ B)=setO A ++ setO B:=List.map_append
theorem setO_len (A:List (List Int)):(setO A).length=A.length:=List.length_map _
structure KnL (w wr:World) (N:List (List Int)) (v3:Value):Prop where
 ex:∃ q c,v3=.slice q N.length c∧wr.ownsRow w.heap.size 28 7 (.slice q N.length c) N.length ((setO N).flatMap outCs)
 grown:w.grownBy wr none
theorem KnL.add {N:List (List Int)} {t:List Int} {v:Value} (h:W.grownBy V none) (hw:w.grownBy W none) (ho:V.ownsRow w.heap.size 28 7 v (N.length + 1) ((setO N).flatMap outCs ++ outCs (t,Ex.zero))):KnL w V (N ++ [t]) v:=by
 obtain ⟨q',c',rfl⟩:=own_slice ho
 refine ⟨⟨q',c',by rw [List.length_append];rfl,?_⟩,grown_trans hw h⟩
 rw [List.length_append,List.length_singleton,setO_app,List.flatMap_append]
 simpa [setO] using ho
structure KnI (w wr:World) (R:Out) (n:Nat) (v3 v4:Value):Prop where
 ex:∃ k:Nat,k≤n∧v4=.int .i64 (k:Int)∧KnL w wr (setK R k) v3
theorem strCs_one (t:List Int):∀ u∈strCs t,u.oneCell'=true:=fun u hu=>by rw [List.mem_singleton.1 hu];rfl
structure KdI (w3 wr:World) (S:List (List Int)) (n:Nat) (v5 v6:Value):Prop where
 ex:∃ (k:Nat) (O:List (List Int)) (q:Option Addr) (c:Nat),k≤n∧O.length≤k∧v6=.int .i64 (k:Int)∧v5=.slice q O.length c∧wr.ownsRow w3.heap.size 9 1 (.slice q O.length c) O.length (O.flatMap strCs)∧DdN S k O
 grown:w3.grownBy wr none
structure KnOut (w w':World) (N:List (List Int)) (e:Ending):Prop where
 ex:∃ q c,e=.returned (.slice q N.length c)∧w'.ownsRow w.heap.size 9 1 (.slice q N.length c) N.length (N.flatMap strCs)
 grown:w.grownBy w' none
theorem setK_len (R:Out):∀ k,(setK R k).length≤1 + 2 * k
 | 0=>by simp [setK]
 | k + 1=>by
  have:=setK_len R k
  simp only [setK,List.length_append,List.length_cons]
  split <;> simp <;> omega
theorem setK_byt {R:Out} (hb:∀ y∈R,Byt y.1):∀ k,∀ t∈setK R k,Byt t
 | 0,t,h=>by rw [List.mem_singleton.1 h];exact fun x hx=>by cases hx
 | k + 1,t,h=>by
  have hat:∀ i,Byt (R.getD i ([],Ex.zero)).1:=fun i=>by
   rw [List.getD_eq_getElem?_getD]
   cases hi:R[i]? with
   | none=>exact fun x hx=>by cases hx
   | some y=>exact hb y (List.mem_of_getElem? hi)
  simp only [setK] at h
  rcases List.mem_append.1 h with h | h
  ·exact setK_byt hb k t h
  ·rcases List.mem_cons.1 h with h | h
   ·rw [h];exact hat k
   ·split at h
    ·cases h
    ·rw [List.mem_singleton.1 h];exact (hat _).take _
set_option maxRecDepth 20000 in
set_option maxHeartbeats 6400000 in
theorem knots_any {R:Out} {n:Nat} (hn:R.length=n) (hfew:n≤5000) (h0:R≠[]) (hu:Up R) (hb:∀ y∈R,Byt y.1∧y.1.length≤255) {q:Option Addr} {c:Nat} (h:ExsAt w q R) :
  Calls Tryz.prog 36 #[.slice q n c] w fun e w'=>KnOut w w' (namesA 257 R 0) e:=by
 have HN:=Lib.hid hn
 have HB:=Lib.hid hb
 have HE:=Lib.hid h
 have ALL:=Lib.hid (fun (S O:List (List Int)) (h:DdN S S.length O) (hp:∀ q,q∈S↔q∈setK R R.length)=>h.all hp h0 hu (fun y hy=>(hb y hy).2))
 clear hn hb h h0 hu
 have g1:=grown1 w (.cells #[.string ⟨#[]⟩,.int .i64 0,.bool false,.int .u64 0,.int .u64 0,.int .u64 0,.string ⟨#[]⟩] 28)
 have ST:=Lib.hid (show KnI w (w.alloc (.cells #[.string ⟨#[]⟩,.int .i64 0,.bool false,.int .u64 0,.int .u64 0,.int .u64 0,.string ⟨#[]⟩] 28)) R n (.slice (some ⟨w.heap.size,0,none⟩) 1 1) (.int .i64 0) from
  ⟨⟨0,Nat.zero_le _,rfl,⟨⟨_,_,rfl,World.ownsRow_lit w #[.string ⟨#[]⟩,.int .i64 0,.bool false,.int .u64 0,.int .u64 0,.int .u64 0,.string ⟨#[]⟩] 1 (Nat.le_refl _) (by decide) rfl⟩,g1⟩⟩⟩)
 clear g1
 go_enter Tryz.func36,Tryz.ntmps36
 go_wp2
 go_loopw [3,4] (fun v3 v4 wr=>KnI w wr R n v3 v4) (fun _ v4 _=>n - (intOf v4).toNat)
 case atStart=>exact ST.out
 case round =>
  obtain ⟨⟨k,hk,rfl,⟨⟨q3,c3,rfl,ho⟩,hg⟩⟩⟩:=hrel
  have G:=Lib.hid hg
  have SL:=Lib.hid (setK_len R k)
  by_cases hlt:k < n
  ·obtain ⟨y,hy⟩:∃ y,R[k]?=some y:=⟨_,List.getElem?_eq_getElem (by rw [HN.out];exact hlt)⟩
   obtain ⟨ga,oa,rfl,k0⟩:=(HE.out.grown hg).name hy
   have YB:=Lib.hid (HB.out y (List.mem_of_getElem? hy))
   have SK:=Lib.hid (show setK R (k + 1)=(setK R k ++ [y.1]) ++ (if k=0 then [] else [(R.getD (k - 1) ([],Ex.zero)).1.take (lcpN (R.getD (k - 1) ([],Ex.zero)).1 y.1)]) from by
    have e:R.getD k ([],Ex.zero)=y:=by rw [List.getD_eq_getElem?_getD,hy];rfl
    simp only [setK]
    rw [e,List.append_assoc]
    rfl)
   have PV:=Lib.hid (fun (h : 0 < k)=>(by
    have hk1:k - 1 < R.length:=by rw [HN.out];omega
    refine ⟨R[k - 1],List.getElem?_eq_getElem hk1,?_⟩
    rw [List.getD_eq_getElem?_getD,List.getElem?_eq_getElem hk1];rfl:∃ z,R[k - 1]?=some z∧R.getD (k - 1) ([],Ex.zero)=z))
   obtain ⟨M,hM⟩:∃ M,M=setK R k:=⟨_,rfl⟩
   rw [← hM] at ho SL SK
   obtain ⟨m,hm⟩:∃ m,m=M.length:=⟨_,rfl⟩
   rw [← hM,← hm]
   rw [← hm] at ho
   have HM:=Lib.hid hm
   have hml:m≤10001:=by rw [hm];have:=SL.out;omega
   have g2:=grown1 wr (.cells #[.string (strOfNums y.1),.int .i64 0,.bool false,.int .u64 0,.int .u64 0,.int .u64 0,.string ⟨#[]⟩] 28)
   have O2:=Lib.hid (own_grown ho g2)
   have N2:=Lib.hid (heap_alloc_new wr (.cells #[.string (strOfNums y.1),.int .i64 0,.bool false,.int .u64 0,.int .u64 0,.int .u64 0,.string ⟨#[]⟩] 28))
   have G2:=Lib.hid (grown_trans hg g2)
   have dl:decide ((k:Int) < (n:Int))=true:=by simp;omega
   have hkI:(k:Int) < (n:Int):=by omega
   have HY:=Lib.hid hy
   clear g2 ho hg hM hm hy
   go_wp2_with (at_builtin;refine wp_append_sta exType rfl _ _ rfl _ m _ rfl O2.out [.string (strOfNums y.1),.int .i64 0,.bool false,.int .u64 0,.int .u64 0,.int .u64 0,.string ⟨#[]⟩] rfl wr.heap.size rfl N2.out (exCs_one (strOfNums y.1) Ex.zero) (by omega) (by decide) G2.out.size ?_)
   intro v' w3 ho3 hg3 hv3
   have G3:=Lib.hid (grown_opt G2.out hg3 (fun g e=>(O2.out.lt g e).1))
   obtain ⟨q4,c4,rfl⟩:=own_slice ho3
   have K3:=Lib.hid (show KnL w w3 (M ++ [y.1]) (.slice q4 (m + 1) c4) from KnL.add (grown_refl w3 none) G3.out (by rw [← HM.out];exact ho3))
   clear ho3 hg3 hv3 O2 N2 G2
   by_cases hk0:k=0
   ·subst hk0
    go_wp2
    go_roundw
    case rel=>exact ⟨⟨1,hlt,by go_num,by have h:=SK.out;rw [if_pos rfl,List.append_nil] at h;rw [h];exact K3.out⟩⟩
    case measure=>simp [intOf];omega
   ·obtain ⟨z,hz,hzd⟩:=PV.out (by omega)
    obtain ⟨K,rfl⟩:∃ K,k=K + 1:=⟨k - 1,by omega⟩
    rw [Nat.add_sub_cancel] at hz hzd
    obtain ⟨g',o',e',j0⟩:=(HE.out.grown G3.out).name HY.out
    injection e' with e'
    injection e' with e1 e2 _
    subst e1 e2
    obtain ⟨g',o',e',j1⟩:=(HE.out.grown G3.out).name hz
    injection e' with e'
    injection e' with e1 e2 _
    subst e1 e2
    have BZ:=HB.out z (List.mem_of_getElem? hz)
    have SH:=Lib.hid (fun (V:World)=>share_any z.1 y.1 BZ.1 YB.out.1 (by have:=YB.out.2;omega) V)
    have SK2:=Lib.hid (show setK R (K + 1 + 1)=(M ++ [y.1]) ++ [z.1.take (lcpN z.1 y.1)] from by
     have h:=SK.out
     rw [if_neg (by omega),Nat.add_sub_cancel,hzd] at h
     exact h)
    obtain ⟨T,hT⟩:∃ T,T=z.1.take (lcpN z.1 y.1):=⟨_,rfl⟩
    rw [← hT] at SH SK2
    have dk:decide ((0:Int) < ((K + 1:Nat):Int))=true:=by simp <;> omega
    have dk2:decide ((0:Int) < (K:Int) + 1)=true:=by simp <;> omega
    have hkI1:(K:Int) + 1 < (n:Int):=by omega
    have hkI2:(K:Int) < (n:Int):=by omega
    have hcan:(K:Int) + 1 - 1=(K:Int):=by omega
    have hwk:IntKind.i64.wrap (K:Int)=(K:Int):=IntWalk.i64_in _ (by omega)
    have hk0':(0:Int)≤(K:Int) + 1:=by omega
    clear hz hzd hT BZ k0 SK hk0 hkI PV
    go_wp2
    go_region_law (first
     |(refine step_append_sta exType (by with_reducible rfl) _ _ (by with_reducible rfl) _ (m + 1) 1 _ (by rfl) O5.out [.string (strOfNums T),.int .i64 0,.bool false,.int .u64 0,.int .u64 0,.int .u64 0,.string ⟨#[]⟩] rfl w4.heap.size (by rfl) N5.out (exCs_one (strOfNums T) Ex.zero) (by omega) (by decide) GW.out.size ?_;intro v6 w6 ho6 hg6 hv6;(have G6:=Lib.hid (grown_opt GW.out hg6 (fun g e=>(O5.out.lt g e).1)));(have K6:=Lib.hid (show KnL w w6 ((M ++ [y.1]) ++ [T]) v6 from KnL.add (grown_refl w6 none) G6.out (by rw [List.length_append,List.length_singleton,← HM.out];exact ho6)));clear ho6 hg6 hv6 O5 N5 GW G5)
     |(go_simp;go_at_call 37;refine (SH.out _).mono ?_;rintro e w4 ⟨rfl,hg4⟩;(have G4:=grown_trans (show w3.grownBy w3.drew none from grown_drewN (grown_refl w3 none) 1) hg4);obtain ⟨q5,c5,e5,o5⟩:=K3.out.ex;injection e5 with e5 e7 e6;clear e7;subst e5 e6;rw [List.length_append,List.length_singleton,← HM.out] at o5;(have g5:=grown1 w4 (.cells #[.string (strOfNums T),.int .i64 0,.bool false,.int .u64 0,.int .u64 0,.int .u64 0,.string ⟨#[]⟩] 28));have G5:=Lib.hid (grown_trans G4 g5);have O5:=Lib.hid (own_grown o5 G5.out);(have N5:=Lib.hid (heap_alloc_new w4 (.cells #[.string (strOfNums T),.int .i64 0,.bool false,.int .u64 0,.int .u64 0,.int .u64 0,.string ⟨#[]⟩] 28)));have GW:=Lib.hid (grown_trans K3.out.grown G5.out);clear g5 o5 hg4 G4 j0 j1))
    all_goals
     go_wp2
     go_roundw
     case rel=>exact ⟨⟨K + 1 + 1,by omega,by go_num,by rw [SK2.out];exact K6.out⟩⟩
     case measure=>simp [intOf];omega
  ·have hkn:k=n:=by omega
   subst hkn
   have dl:decide ((k:Int) < (k:Int))=false:=by simp
   obtain ⟨M,hM⟩:∃ M,M=setK R k:=⟨_,rfl⟩
   rw [← hM] at ho SL
   have MB:=Lib.hid (show ∀ t∈M,Byt t from by rw [hM];exact setK_byt (fun y hy=>(HB.out y hy).1) k)
   have HM:=Lib.hid (show M=setK R R.length by rw [hM,HN.out])
   rw [← hM]
   obtain ⟨m,hm⟩:∃ m,m=M.length:=⟨_,rfl⟩
   rw [← hm] at ho ⊢
   have hml:m≤10001:=by rw [hm];have:=SL.out;omega
   have SO:=Lib.hid (sorted_any m (setO M) q3 c3 wr (by rw [setO_len,hm]) (by omega) (own_room8 ho) (own_max ho) (RowEx.of ho).exs)
   have hmM:=Lib.hid hm
   clear hm hM ho hg
   go_wp2_with fail
   refine SO.out.mono ?_
   rintro e w4 ⟨⟨S,v4,rfl,o4,p4,s4⟩,g4⟩
   have hSm:S.length=m:=by rw [p4.length_eq,setO_len];exact hmM.out.symm
   obtain ⟨q4,c4,rfl⟩:=own_slice o4
   have RX:=Lib.hid (RowEx.of o4).exs
   have SB:=Lib.hid (show ∀ y∈S,Byt y.1 from fun y hy=>by
    have h1:=p4.mem_iff.1 hy
    unfold setO at h1
    obtain ⟨t,ht,rfl⟩:=List.mem_map.1 h1
    exact MB.out t ht)
   obtain ⟨SN,hSN⟩:∃ SN,SN=S.map Prod.fst:=⟨_,rfl⟩
   have SP:=Lib.hid (show SN.Pairwise fun a b=>nmLt b a=false from by
    rw [hSN,List.pairwise_map]
    refine s4.imp_of_mem ?_
    intro a b ha hb hab
    unfold leX at hab
    rw [nums_byt (SB.out a ha),nums_byt (SB.out b hb)] at hab
    exact hab)
   have SM:=Lib.hid (show ∀ q,q∈SN↔q∈setK R R.length from fun q=>by
    rw [← HM.out,hSN]
    have h1:(S.map Prod.fst).Perm ((setO M).map Prod.fst):=p4.map _
    rw [h1.mem_iff]
    unfold setO
    rw [List.map_map]
    simp)
   have SX:=Lib.hid (show ∀ (i:Nat) (y:List Int × Ex),S[i]?=some y→SN[i]?=some y.1 from fun i y hy=>by rw [hSN,List.getElem?_map,hy];rfl)
   have SL2:=Lib.hid (show SN.length=m by rw [hSN,List.length_map];exact hSm)
   have HS:=Lib.hid hSm
   rw [hSm]
   have G4:=Lib.hid (grown_trans G.out g4)
   have ST:=Lib.hid (show KdI w4 w4 SN m (.slice none 0 0) (.int .i64 0) from ⟨⟨0,[],none,0,Nat.zero_le _,Nat.le_refl _,rfl,rfl,World.ownsRow_nil _ _ _ _,⟨List.Pairwise.nil,fun q=>by simp⟩⟩,grown_refl _ _⟩)
   clear o4 p4 s4 g4 hSm hSN SO
   go_wp2
   go_loopw [5,6] (fun v5 v6 wz=>KdI w4 wz SN m v5 v6) (fun _ v6 _=>m - (intOf v6).toNat)
   case atStart=>exact ST.out
   case round =>
    obtain ⟨⟨k,O,q5,c5,hk,hok,rfl,rfl,ho5,hdd⟩,hg5⟩:=hrel
    have DD:=Lib.hid hdd
    have G5:=Lib.hid hg5
    clear hdd
    by_cases hlt:k < m
    ·obtain ⟨y,hy⟩:∃ y,S[k]?=some y:=⟨_,List.getElem?_eq_getElem (by rw [HS.out];exact hlt)⟩
     obtain ⟨ga,oa,rfl,k0⟩:=(RX.out.grown hg5).name hy
     have HY:=Lib.hid hy
     have dl:decide ((k:Int) < (m:Int))=true:=by simp;omega
     have hkI:(k:Int) < (m:Int):=by omega
     by_cases hk0:k=0
     ·subst hk0
      have DN:=Lib.hid (DD.out.new SP.out (SX.out _ _ hy) (fun _ h=>absurd h (by omega)))
      have J:=Lib.hid trivial
      rw [Nat.zero_mul,Nat.add_zero] at k0
      clear hy DD
      go_wp2
      go_quiet (fail)
      have g6:=grown_drewN hg5 nq
      obtain ⟨W6,hW6⟩:∃ W6,wr.drewN nq=W6:=⟨_,rfl⟩
      have o6:=own_grown ho5 (grown_drewN (grown_refl wr none) nq)
      rw [hW6] at g6 o6 ⊢
      obtain ⟨g',o',e',k0⟩:=(RX.out.grown g6).name HY.out
      injection e' with e'
      injection e' with e1 e2 _
      subst e1 e2
      rw [Nat.zero_mul,Nat.add_zero] at k0
      have g7:=grown1 W6 (.cells #[.string (strOfNums y.1)] 9)
      have O7:=Lib.hid (own_grown o6 g7)
      have N7:=Lib.hid (heap_alloc_new W6 (.cells #[.string (strOfNums y.1)] 9))
      have G7:=Lib.hid (grown_trans g6 g7)
      clear hW6 o6 g6 g7 ho5 hg5 J
      go_wp2_with (at_builtin;refine wp_append_sta strType rfl _ _ rfl _ (O.length) _ rfl O7.out [.string (strOfNums y.1)] rfl W6.heap.size rfl N7.out (strCs_one y.1) (by omega) (by decide) G7.out.size ?_)
      intro v8 w8 ho8 hg8 hv8
      obtain ⟨q8,c8,rfl⟩:=own_slice ho8
      have G8:=Lib.hid (grown_opt G7.out hg8 (fun g e=>(O7.out.lt g e).1))
      have O8:=Lib.hid (show w8.ownsRow w4.heap.size 9 1 (.slice q8 (O ++ [y.1]).length c8) (O ++ [y.1]).length ((O ++ [y.1]).flatMap strCs) from by
        rw [List.length_append,List.length_singleton,List.flatMap_append]
        exact ho8)
      clear ho8 hg8 hv8 k0 O7 N7
      go_wp2
      go_roundw
      case rel=>exact ⟨⟨0 + 1,O ++ [y.1],q8,c8,hlt,by rw [List.length_append,List.length_singleton];omega,by go_num,by rw [List.length_append];rfl,O8.out,DN.out⟩,G8.out⟩
      case measure=>simp [intOf];omega
     ·obtain ⟨K,rfl⟩:∃ K,k=K + 1:=⟨k - 1,by omega⟩
      obtain ⟨z,hz⟩:∃ z,S[K]?=some z:=⟨_,List.getElem?_eq_getElem (by rw [HS.out];omega)⟩
      obtain ⟨g',o',e',k1⟩:=(RX.out.grown hg5).name hz
      injection e' with e'
      injection e' with e1 e2 _
      subst e1 e2
      have dl2:decide ((K:Int) + 1 < (m:Int))=true:=by simp;omega
      have d0:(((K + 1:Nat):Int) == 0)=false:=by simp;omega
      have d02:((K:Int) + 1 == 0)=false:=by simp;omega
      have hkI1:(K:Int) + 1 < (m:Int):=by omega
      have hkI2:(K:Int) < (m:Int):=by omega
      have hcan:(K:Int) + 1 - 1=(K:Int):=by omega
      have hwk:IntKind.i64.wrap (K:Int)=(K:Int):=IntWalk.i64_in _ (by omega)
      have hnm:=name_is (SB.out y (List.mem_of_getElem? hy)) (SB.out z (List.mem_of_getElem? hz))
      by_cases he:y.1=z.1
      · rw [decide_eq_true he] at hnm
        have DN:=Lib.hid (DD.out.old (SX.out _ _ hy) (by omega) (by rw [Nat.add_sub_cancel,he];exact SX.out _ _ hz))
        have OO:=Lib.hid (fun k=>own_grown ho5 (grown_drewN (grown_refl wr none) k))
        clear hy hz he hkI hk0 ho5 DD
        go_wp2
        go_quiet (fail)
        go_wp2
        go_roundw
        case rel=>exact ⟨⟨K + 1 + 1,O,q5,c5,hlt,by omega,by go_num,rfl,OO.out _,DN.out⟩,grown_drewN G5.out _⟩
        case measure=>simp [intOf];omega
      · rw [decide_eq_false he] at hnm
        have DN:=Lib.hid (DD.out.new SP.out (SX.out _ _ hy) (fun x h0 hx=>by
         rw [Nat.add_sub_cancel,SX.out _ _ hz] at hx
         injection hx with hx
         rw [← hx];exact fun e=>he e.symm))
        have J:=Lib.hid trivial
        clear hy hz he hkI hk0 DD
        go_wp2
        go_quiet (fail)
        clear k0 k1 hnm
        have g6:=grown_drewN hg5 nq
        obtain ⟨W6,hW6⟩:∃ W6,wr.drewN nq=W6:=⟨_,rfl⟩
        have o6:=own_grown ho5 (grown_drewN (grown_refl wr none) nq)
        rw [hW6] at g6 o6 ⊢
        obtain ⟨g',o',e',k0⟩:=(RX.out.grown g6).name HY.out
        injection e' with e'
        injection e' with e1 e2 _
        subst e1 e2
        have g7:=grown1 W6 (.cells #[.string (strOfNums y.1)] 9)
        have O7:=Lib.hid (own_grown o6 g7)
        have N7:=Lib.hid (heap_alloc_new W6 (.cells #[.string (strOfNums y.1)] 9))
        have G7:=Lib.hid (grown_trans g6 g7)
        clear hW6 o6 g6 g7 ho5 hg5 J
        go_wp2_with (at_builtin;refine wp_append_sta strType rfl _ _ rfl _ (O.length) _ rfl O7.out [.string (strOfNums y.1)] rfl W6.heap.size rfl N7.out (strCs_one y.1) (by omega) (by decide) G7.out.size ?_)
        intro v8 w8 ho8 hg8 hv8
        obtain ⟨q8,c8,rfl⟩:=own_slice ho8
        have G8:=Lib.hid (grown_opt G7.out hg8 (fun g e=>(O7.out.lt g e).1))
        have O8:=Lib.hid (show w8.ownsRow w4.heap.size 9 1 (.slice q8 (O ++ [y.1]).length c8) (O ++ [y.1]).length ((O ++ [y.1]).flatMap strCs) from by
         rw [List.length_append,List.length_singleton,List.flatMap_append]
         exact ho8)
        clear ho8 hg8 hv8 k0 O7 N7
        go_wp2
        go_roundw
        case rel=>exact ⟨⟨K + 1 + 1,O ++ [y.1],q8,c8,hlt,by rw [List.length_append,List.length_singleton];omega,by go_num,by rw [List.length_append];rfl,O8.out,DN.out⟩,G8.out⟩
        case measure=>simp [intOf];omega
    ·have hkm:k=m:=by omega
     subst hkm
     have dl:decide ((k:Int) < (k:Int))=false:=by simp
     have FN:=Lib.hid (show KnOut w wr (namesA 257 R 0) (.returned (.slice q5 O.length c5)) from by
      have h:=ALL.out SN O (by rw [SL2.out];exact DD.out) SM.out
      subst h
      exact ⟨⟨q5,c5,rfl,Go.Joins.ownsRow_le ho5 G4.out.size⟩,grown_trans G4.out hg5⟩)
     clear ho5 hg5
     go_wp2
     go_ret
     exact FN.out
end Go.Proofs.YtkmbkpoclhbmgaaGreat
namespace Go.Proofs.YtkmbkpoclhbmgaaGreat
open Go.RowKit
theorem few_pos:∀ (m:Nat) (l:List Int),l.Pairwise (·≠·)→(∀ x∈l,1≤x∧x≤m)→l.length≤m
 | 0,[],_,_=>Nat.le_refl _
 | 0,x :: l,_,h=>by have:=h x (List.mem_cons_self ..);omega
 | m + 1,l,hp,h=>by
  have h1:(l.filter fun x=>!decide (x=((m + 1:Nat):Int))).length≤m:=few_pos m _ (hp.filter _) (fun x hx=>by
   obtain ⟨a,b⟩:=List.mem_filter.1 hx
   have:=h x a
   simp only [Bool.not_eq_true',decide_eq_false_iff_not] at b
   omega)
  have h2:(l.filter fun x=>decide (x=((m + 1:Nat):Int))).length≤1:=by
   have hq:=hp.filter (fun x=>decide (x=((m + 1:Nat):Int)))
   have hall:∀ x∈l.filter (fun x=>decide (x=((m + 1:Nat):Int))),x=((m + 1:Nat):Int):=fun x hx=>by
    have:=(List.mem_filter.1 hx).2
    simpa using this
   cases hl:l.filter (fun x=>decide (x=((m + 1:Nat):Int))) with
   | nil=>simp
   | cons a r =>
    cases r with
    | nil=>simp
    | cons b r =>
     exfalso
     rw [hl] at hq hall
     exact (List.pairwise_cons.1 hq).1 b (List.mem_cons_self ..) ((hall a (List.mem_cons_self ..)).trans (hall b (by simp)).symm)
  have h3:l.length=(l.filter fun x=>decide (x=((m + 1:Nat):Int))).length + (l.filter fun x=>!decide (x=((m + 1:Nat):Int))).length:=by
   clear h1 h2 h hp
   induction l with
   | nil=>rfl
   | cons a l ih =>
    by_cases ha:a=((m + 1:Nat):Int)
    ·rw [List.filter_cons_of_pos (by simpa using ha),List.filter_cons_of_neg (by simpa using ha),List.length_cons,List.length_cons];omega
    ·rw [List.filter_cons_of_neg (by simpa using ha),List.filter_cons_of_pos (by simpa using ha),List.length_cons,List.length_cons];omega
  omega
theorem kids_few {nd:PN} (h:PnOk nd):nd.kids.length≤255:=by
 have:=few_pos 255 (nd.kids.map fun k=>k.1.getD 0 0) (List.pairwise_map.2 h.apart) (fun x hx=>by
  obtain ⟨k,hk,rfl⟩:=List.mem_map.1 hx
  have e:=h.edge k hk
  obtain ⟨c,t,hc⟩:∃ c t,k.1=c :: t:=by
   cases hk1:k.1 with
   | nil=>exact absurd hk1 e.ne
   | cons c t=>exact ⟨c,t,rfl⟩
  rw [hc]
  have hb:=e.byt c (by rw [hc];exact List.mem_cons_self ..)
  have hz:c≠0:=fun h0=>e.zero (by rw [hc,h0];exact List.mem_cons_self ..)
  show 1≤c∧c≤255
  omega)
 rwa [List.length_map] at this
theorem said_len {x:Ex} (h:ExOk x):(saidB x).length≤300:=by
 have h1:=encU_10 (flagN x) (by unfold flagN;repeat' (first | omega | split))
 have h2:=encU_10 x.ordinal.toNat (by have:=h.ordinal;omega)
 have h3:=encU_10 x.value.toNat (by have:=h.value;omega)
 have h4:=encU_10 x.resolver.toNat (by have:=h.resolver;omega)
 have h5:x.other.length≤255:=by
  have:=h.text
  unfold textM at this
  rw [Bool.and_eq_true,decide_eq_true_eq] at this
  exact this.1
 unfold saidB
 rw [List.length_append]
 split
 ·simp only [List.length_append,List.length_singleton];omega
 split
 ·simp only [List.length_append];omega
 ·omega
theorem front_len {nd:PN} (h:PnOk nd):(frontB nd.says).length≤310:=by
 cases hs:nd.says with
 | none=>simp [frontB]
 | some x =>
  have:=said_len (h.says x hs)
  have:=encU_10 (saidB x).length (by omega)
  show (encU (saidB x).length ++ saidB x).length≤310
  rw [List.length_append]
  omega
theorem node_len {pl:List Nat} (hp:∀ i,pl.getD i 0 < 18446744073709551616) {nd:PN} (h:PnOk nd):(nodeB pl nd).length≤68141:=by
 have h1:=front_len h
 have h2:=kids_few h
 have h3:∀ ks:List (List Int × Nat),(∀ k∈ks,EdgeOk k.1)→(ks.flatMap (kidB pl)).length≤266 * ks.length:=by
  intro ks
  induction ks with
  | nil=>intro _;simp
  | cons k ks ih =>
   intro hk
   have a:=(hk k (List.mem_cons_self ..)).len
   have b:=encU_10 (pl.getD k.2 0) (hp _)
   have c:=ih (fun x hx=>hk x (List.mem_cons_of_mem _ hx))
   rw [List.flatMap_cons,List.length_append,List.length_cons]
   unfold kidB at *
   rw [List.length_append,List.length_append,List.length_singleton]
   omega
 have h4:=h3 nd.kids h.edge
 unfold nodeB
 rw [List.length_append,List.length_append,List.length_singleton]
 omega
theorem lay_len {pl:List Nat} (hp:∀ i,pl.getD i 0 < 18446744073709551616):∀ (nodes:List PN),(∀ nd∈nodes,PnOk nd)→(layB pl nodes).length≤68141 * nodes.length
 | [],_=>by simp [layB]
 | nd :: l,h=>by
  have a:=node_len hp (h nd (List.mem_cons_self ..))
  have b:=lay_len hp l (fun x hx=>h x (List.mem_cons_of_mem _ hx))
  unfold layB at b ⊢
  rw [List.flatMap_cons,List.length_append,List.length_cons]
  omega
theorem rounds_ok {nodes:List PN} (hok:∀ nd∈nodes,PnOk nd) (hfew:nodes.length≤8192):∀ t,(∀ i,(roundsN nodes t).getD i 0≤558211072)∧(layB (roundsN nodes t) nodes).length≤558211072:=by
 have key:∀ t,(∀ i,(roundsN nodes t).getD i 0≤558211072)→(layB (roundsN nodes t) nodes).length≤558211072:=fun t h=>by
  have:=lay_len (pl:=roundsN nodes t) (fun i=>by have:=h i;omega) nodes hok
  omega
 intro t
 induction t with
 | zero =>
  have h0:∀ i,(roundsN nodes 0).getD i 0≤558211072:=fun i=>by
   simp only [roundsN,List.getD_eq_getElem?_getD,List.getElem?_replicate]
   split <;> simp
  exact ⟨h0,key 0 h0⟩
 | succ t ih =>
  have h1:∀ i,(roundsN nodes (t + 1)).getD i 0≤558211072:=fun i=>by
   show (placesF (roundsN nodes t) 0 nodes).getD i 0≤558211072
   rcases Nat.lt_or_ge i nodes.length with h | h
   ·rw [placesF_at _ _ _ _ h]
    have:=lay_le (roundsN nodes t) h
    have:=ih.2
    omega
   ·have hl:=placesF_len (roundsN nodes t) nodes 0
    rw [List.getD_eq_getElem?_getD,List.getElem?_eq_none (by omega)]
    exact Nat.zero_le _
  exact ⟨h1,key _ h1⟩
structure PlanF (R:Out) (N:List (List Int)) (P:List PN):Prop where
 len:N.length=P.length
 own:ownsN N P=R
 up:N.Pairwise fun a b=>nmLt a b=true
 ok:∀ nd∈P,PnOk nd
 edge:∀ i nd,P[i]?=some nd→∀ x∈nd.kids,i < x.2∧x.2 < P.length∧N.getD x.2 []=N.getD i [] ++ x.1
 kids:∀ j,j < P.length→(runK N P.length 0 ([],fun _=>[])).2 j=kidsAt P j
 few:P.length≤8192
 name:∀ q∈N,Byt q∧q.length≤255
theorem adj_sub:∀ (l:Out) (q:List Int),q∈adjN l→∃ y∈l,∃ n,q=y.1.take n
 | [],q,h=>by cases h
 | [_],q,h=>by cases h
 | a :: b :: l,q,h=>by
  rcases List.mem_cons.1 h with h | h
  ·exact ⟨a,List.mem_cons_self ..,_,h⟩
  ·obtain ⟨y,hy,n,e⟩:=adj_sub (b :: l) q h
   exact ⟨y,List.mem_cons_of_mem _ hy,n,e⟩
theorem planF {R:Out} (hn:R≠[]) (hu:Up R) (hok:∀ y∈R,NameOk y.1∧ExOk y.2) (hfew:R.length≤4096):PlanF R (namesA 257 R 0) (plan 257 R 0 0):=by
 have h255:∀ y∈R,y.1.length≤255:=fun y hy=>(hok y hy).1.len
 have NO:=names_ok 257 R [] hn hu.rise h255 (by simp)
 have hat:∀ j,j < (namesA 257 R ([]:List Int).length).length→(namesA 257 R 0).getD (0 + j) []=(namesA 257 R ([]:List Int).length).getD j []:=fun j _=>by rw [Nat.zero_add];rfl
 have E:=edges_plan (namesA 257 R 0) 257 R [] 0 hn hu.rise h255 (by simp) hat
 have K:=run_plan (namesA 257 R 0) 257 R [] 0 [] (fun _=>[]) hn hu.rise h255 (by simp) hat (fun s hs=>by cases hs)
 refine ⟨names_len 257 R 0 0,owns_plan 257 R [] 0 hn hu.rise h255 (by simp),NO.up,plan_ok 257 R [] 0 hn hu.rise hok,fun i nd hi x hx=>?_,fun j hj=>?_,?_,fun q hq=>?_⟩
 ·have:=E.2 i nd hi x hx
  simp only [Nat.zero_add] at this
  exact this
 ·have:=K.kids j
  rw [if_pos ⟨Nat.zero_le _,by rw [Nat.zero_add];exact hj⟩,List.nil_append,Nat.sub_zero] at this
  exact this
 ·have:(plan 257 R 0 0).length≤2 * R.length:=plan_len0 256 R 0 hn hu.rise (fun y hy=>(hok y hy).1.ne)
  omega
 ·have hm:=(NO.mem q).1 hq
  rcases hm with rfl | h | h
  ·exact ⟨fun x hx=>(by cases hx),by simp⟩
  ·obtain ⟨y,hy,rfl⟩:=List.mem_map.1 h
   exact ⟨(hok y hy).1.byt,(hok y hy).1.len⟩
  ·obtain ⟨y,hy,n,rfl⟩:=adj_sub R q h
   exact ⟨(hok y hy).1.byt.take n,by rw [List.length_take];have:=(hok y hy).1.len;omega⟩
end Go.Proofs.YtkmbkpoclhbmgaaGreat
namespace Go.Proofs.YtkmbkpoclhbmgaaGreat
open Go.RowKit
variable {w:World}
def Bytes (w w':World) (all:List Int) (e:Ending):Prop :=
 (∃ q c,e=.returned (.slice q all.length c)∧w'.ownsRow w.heap.size 5 1 (.slice q all.length c) all.length (all.map (Value.int .u8)))∧Below w.heap.size w w'
theorem own_lit (w:World) (x:Int):(w.alloc (.cells #[.int .u8 x] 5)).ownsRow w.heap.size 5 1 (.slice (some ⟨w.heap.size,0,none⟩) 1 1) 1 [.int .u8 x] :=
 World.ownsRow_lit w #[.int .u8 x] 1 (Nat.le_refl _) (by decide) rfl
theorem own_below {w w':World} {base:Nat} {v:Value} {n:Nat} {xs:List Value} (h:w.ownsRow base 5 1 v n xs) (hb:Below w.heap.size w w') (_:base≤w.heap.size):w'.ownsRow base 5 1 v n xs :=
 h.kept (grown_below hb none) (by cases v.ownBlock <;> simp)
set_option maxRecDepth 20000 in
theorem refput_any (k:Nat):∀ (n:Nat),n < k→n < 18446744073709551616→∀ w:World,Calls Tryz.prog 39 #[.int .u64 n] w fun e w'=>Bytes w w' (encU n) e:=by
 induction k with
 | zero=>intro n h;omega
 | succ k ih =>
  intro n hk hn w
  by_cases h:n < 128
  ·have e1:=encU_small h
   have E:=Lib.hid e1
   have O:=Lib.hid (own_lit w n)
   clear e1
   clear ih hk
   generalize encU n=all at *
   go_enter Tryz.func39,Tryz.ntmps39
   go_wp2_with fail
   go_ret
   rw [E.out]
   exact ⟨⟨_,_,rfl,O.out⟩,(Below.refl _ _).alloc (Nat.le_refl _) _⟩
  ·have e1:=encU_big h
   have hl:=encU_10 n hn
   have I:=Lib.hid (ih (n / 128) (by omega) (by omega))
   have O:=Lib.hid (own_lit w ((n:Int) % 128 + 128))
   have e3:((n / 128:Nat):Int)=(n:Int) / 128:=by omega
   have e2:((n % 128:Nat):Int) + 128=(n:Int) % 128 + 128:=by omega
   rw [e2] at e1
   rw [e3] at I
   have E:=Lib.hid e1
   clear ih e1 e2 e3
   generalize encU n=all at *
   generalize encU (n / 128)=rest at *
   have hl2:rest.length≤10:=by rw [E.out] at hl;simp at hl;omega
   go_enter Tryz.func39,Tryz.ntmps39
   go_wp2_with fail
   refine (I.out _).mono ?_
   rintro e w2 ⟨⟨q2,c2,rfl,o2⟩,b2⟩
   have own2:=own_below O.out b2 (by simp)
   have b3:Below w.heap.size w w2:=((Below.refl _ _).alloc (Nat.le_refl _) _).trans (b2.mono (by simp))
   have hb2:=IsBytes.of_own rfl o2
   have OW:=Lib.hid own2
   have HB:=Lib.hid hb2
   have B3:=Lib.hid b3
   clear own2 hb2 b3 o2 b2
   go_wp2_with (at_builtin;refine wp_append_bytes rfl _ _ rfl rfl _ _ _ rfl OW.out rest rest.length rfl rfl HB.out ?_ ?_ ?_)
   ·omega
   ·exact B3.out.size
   ·intro v' w3 h1 h2
    obtain ⟨q',c',rfl⟩:=own_slice8 h1
    have hB:Below w.heap.size w w3:=B3.out.trans (below_grown h2 B3.out.size (fun g hg=>(OW.out.lt g hg).1))
    have hl3:all.length=1 + rest.length:=by rw [E.out];simp;omega
    have h1':w3.ownsRow w.heap.size 5 1 (.slice q' all.length c') all.length (all.map (Value.int .u8)):=by
     rw [hl3,E.out];exact h1
    have F:=Lib.hid (And.intro h1' hB)
    have L:=Lib.hid hl3
    clear h1 h2 hB h1' hl3
    go_wp2
    go_ret
    rw [← L.out]
    exact ⟨⟨_,_,rfl,F.out.1⟩,F.out.2⟩
end Go.Proofs.YtkmbkpoclhbmgaaGreat
namespace Go.Proofs.YtkmbkpoclhbmgaaGreat
open Go.RowKit
variable {w w' W V:World}
structure BOut (w w':World) (all:List Int) (e:Ending):Prop where
 ex:∃ q c,e=.returned (.slice q all.length c)∧w'.ownsRow w.heap.size 5 1 (.slice q all.length c) all.length (all.map (Value.int .u8))
 grown:w.grownBy w' none
theorem refput_out {n:Nat} (hn:n < 18446744073709551616) (w:World):Calls Tryz.prog 39 #[.int .u64 n] w fun e w'=>BOut w w' (encU n) e :=
 (refput_any (n + 1) n (by omega) hn w).mono fun _ _ h=>⟨h.1,grown_below h.2 none⟩
end Go.Proofs.YtkmbkpoclhbmgaaGreat
namespace Go.Proofs.YtkmbkpoclhbmgaaGreat
open Go.RowKit
variable {w:World} {base:Nat}
theorem byteCells_nums {l:List Int} (h:Byt l):byteCells (strOfNums l)=l.map (Value.int .u8):=by
 unfold byteCells
 rw [strOfNums_data,List.map_map]
 apply List.map_congr_left
 intro x hx
 have:=h x hx
 simp only [Function.comp,UInt8.toNat_ofNat']
 congr 1
 omega
set_option maxRecDepth 20000 in
theorem run_append_own_str (v:Value) (n:Nat) (xs:List Value) (hown:w.ownsRow base 5 1 v n xs) (s:ByteArray) (hbytes:n + s.size≤140737488355328) (hbase:base≤w.heap.size) :
  ∃ v' w',(Builtin.append_ #[29,9] 29 #[v,.string s]).run Tryz.prog w=.ok v' w'∧w'.ownsRow base 5 1 v' (n + s.size) (xs ++ byteCells s)∧w.grownBy w' v.ownBlock∧(v'.ownBlock=v.ownBlock∨v'.ownBlock=some w.heap.size):=by
 obtain ⟨i,hi,hz,hs,hb⟩:=info_parts info_u8
 have hu:=Tryz.underlying29
 have hk:=Tryz.underlying9
 have SRC:Src Tryz.prog i.size 9 (.string s) s.size (byteCells s) w:=by rw [hs];exact Src.ofString w hk s
 have hl:(byteCells s).length=s.size * 1:=by rw [byteCells_length,Nat.mul_one]
 have hlen:(xs ++ byteCells s).length=(n + s.size) * 1:=by rw [List.length_append,hown.1,hl,Nat.add_mul]
 have grown:∀ (old:Nat),old < n + s.size→∀ (row:Option Nat),
   (w.drew.alloc (.cells ((xs ++ byteCells s).toArray ++ Builtin.zeroCells (Value.int .u8 0).cells (grownCap w (n + s.size) old 5 - (n + s.size))) 5)).ownsRow base 5 1
     (.slice (some ⟨w.heap.size,0,none⟩) (n + s.size) (grownCap w (n + s.size) old 5)) (n + s.size) (xs ++ byteCells s) ∧
   w.grownBy (w.drew.alloc (.cells ((xs ++ byteCells s).toArray ++ Builtin.zeroCells (Value.int .u8 0).cells (grownCap w (n + s.size) old 5 - (n + s.size))) 5)) row:=by
  intro old ho row
  have hge:=grownCap_ge w (n + s.size) old 5
  have hcm:grownCap w (n + s.size) old 5≤maxLen:=grownCap_le_maxLen w (n + s.size) old 5 (by unfold maxLen;omega)
  refine ⟨⟨hlen,.inr ⟨w.heap.size,_,_,rfl,hbase,heap_alloc_new w.drew _,hge,hcm,?_,?_⟩⟩,⟨rfl,rfl,rfl,by simp,fun k hk _=>Go.heap_alloc_old w.drew _ hk⟩⟩
  ·rw [Array.size_append,size_zeroCells,List.size_toArray,hlen]
   show (n + s.size) * 1 + _ * 1=_
   omega
  ·rw [Array.toList_append,← hlen]
   exact List.take_left
 rcases hown.2 with ⟨rfl,rfl⟩ | ⟨g,cap,cur,rfl,hbg,hg,hnc,hcm,hcs,htake⟩
 ·have hx:xs=[]:=List.eq_nil_of_length_eq_zero (by simpa using hown.1)
  subst hx
  by_cases hm:s.size=0
  ·have hn:byteCells s=[]:=List.eq_nil_of_length_eq_zero (by rw [hl,hm])
   refine ⟨.slice none 0 0,w,?_,by rw [hn,hm];exact World.ownsRow_nil w base _ _,grown_refl w _,.inl rfl⟩
   have h2:=SRC.cells
   rw [hn,hs,hm] at h2
   simp [Builtin.append_,run_underlying hu,run_underlying hk,sizeOf,typeInfo,hi,SRC.len,hs,hm,h2,Result.andThen]
  ·have hr:=run_append_grow_src (P:=Tryz.prog) w 29 9 29 5 i (.int .u8 0) hu hi hz none 0 0 [] (run_firstCells_none w.drew i.size 0 0 0) (.string s) s.size (byteCells s) SRC (by omega) (by omega) (by rw [hb];exact growslice_fits (by omega) (by omega))
   have hgr:=grown 0 (by omega) (Value.ownBlock (.slice none 0 0))
   simp only [Nat.zero_add,List.nil_append] at hr hgr ⊢
   exact ⟨_,_,hr,hgr.1,hgr.2,.inr rfl⟩
 ·by_cases hroom:n + s.size≤cap
  ·have hfit:n * 1 + (byteCells s).length≤cur.size:=by rw [hl,hcs,← Nat.add_mul];exact Nat.mul_le_mul_right _ hroom
   have hst:=run_storeCells_at Tryz.prog g (n * 1) 5 (byteCells s) 0 cur w hg (by simpa using hfit) SRC.one
   simp only [Nat.add_zero,Nat.mul_one] at hst
   have hr:(Builtin.append_ #[29,9] 29 #[.slice (some ⟨g,0,none⟩) n cap,.string s]).run Tryz.prog w =
       .ok (.slice (some ⟨g,0,none⟩) (n + s.size) cap) (w.setRow g (cur.toList.take (n * 1) ++ byteCells s ++ cur.toList.drop (n * 1 + (byteCells s).length)).toArray):=by
     have h2:=SRC.cells
     rw [hs] at h2
     simp [Builtin.append_,run_underlying hu,run_underlying hk,sizeOf,typeInfo,hi,hs,SRC.len,hroom,h2,Addr.add_lit,hst]
   refine ⟨_,_,hr,⟨hlen,.inr ⟨g,cap,_,rfl,hbg,setRow_heap w g cur _ _ _ hg,hroom,hcm,?_,?_⟩⟩,⟨rfl,rfl,rfl,by simp,fun k _ hk=>setRow_other w g k _ (fun e=>hk (by simp [Value.ownBlock,e]))⟩,.inl rfl⟩
   · simp only [List.size_toArray,List.length_append,List.length_take,List.length_drop,Array.length_toList]
     omega
   · rw [htake,← hlen]
     exact List.take_left
  ·have holds:∀ j u,xs[j]?=some u→w.cell? ((⟨g,0,none⟩:Addr).add j)=some u:=hown.cells (g:=g) rfl
   have hold:(Builtin.firstCells i.size n (.slice (some ⟨g,0,none⟩) n cap)).run Tryz.prog w.drew=.ok xs.toArray w.drew :=
     run_firstCells_some w.drew i.size n ⟨g,0,none⟩ n cap xs (by rw [hs];exact hown.1) (by simpa using holds)
   have hr:=run_append_grow_src (P:=Tryz.prog) w 29 9 29 5 i (.int .u8 0) hu hi hz (some ⟨g,0,none⟩) n cap xs hold (.string s) s.size (byteCells s) SRC (by omega) (by omega) (by rw [hb];exact growslice_fits (by omega) (by omega))
   have hgr:=grown cap (by omega) (Value.ownBlock (.slice (some ⟨g,0,none⟩) n cap))
   exact ⟨_,_,hr,hgr.1,hgr.2,.inr rfl⟩
theorem wp_append_str {ops:Array Oper} {rest:List Oper} {o:Oper} {a:Act} {Q:Exit→Act→World→Prop} (hgd:o.guard=none) (s x:Operand)
  (ho:o.op=.call { callee:=.builtin .append,args:=#[s,x],argTypes:=#[29,9] }) (hty:o.type=29)
  (v:Value) (n:Nat) (xs:List Value) (hs:a.eval s=v) (hown:w.ownsRow base 5 1 v n xs) (l:List Int) (hb:Byt l) (hx:a.eval x=.string (strOfNums l))
  (h63:n + l.length≤140737488355328) (hbase:base≤w.heap.size)
  (h:∀ v' w',w'.ownsRow base 5 1 v' (n + l.length) (xs ++ l.map (Value.int .u8))→w.grownBy w' v.ownBlock→(v'.ownBlock=v.ownBlock∨v'.ownBlock=some w.heap.size)→wpList Tryz.prog ops Q rest (a.put o.dst v') w'):wpList Tryz.prog ops Q (o :: rest) a w:=by
 refine wpList_plain hgd fun K hK=>?_
 obtain ⟨v',w',hr,h2,h3,h5⟩:=run_append_own_str v n xs hown (strOfNums l) (by rw [strOfNums_size];exact h63) hbase
 rw [strOfNums_size,byteCells_nums hb] at h2
 rw [← hty] at hr
 unfold Oper.wp execOp
 simp only [ho,resolve,invoke,builtin,Sem.run_bind,Sem.run_pure,Result.andThen_ok,List.map_toArray,List.map_cons,List.map_nil,hs,hx]
 rw [hty] at hr ⊢
 simp only [hr]
 exact hK _ _ (h v' w' h2 h3 h5)
theorem step_append_str {ops:Array Oper} {o:Oper} {a:Act} {K:Act→World→Prop} {Q:Exit→Act→World→Prop} {E:Prop} (hgd:o.guard=none) (s x:Operand)
  (ho:o.op=.call { callee:=.builtin .append,args:=#[s,x],argTypes:=#[29,9] }) (hty:o.type=29)
  (v:Value) (n:Nat) (xs:List Value) (hs:a.eval s=v) (hown:w.ownsRow base 5 1 v n xs) (l:List Int) (hb:Byt l) (hx:a.eval x=.string (strOfNums l))
  (h63:n + l.length≤140737488355328) (hbase:base≤w.heap.size)
  (h:∀ v' w',w'.ownsRow base 5 1 v' (n + l.length) (xs ++ l.map (Value.int .u8))→w.grownBy w' v.ownBlock→(v'.ownBlock=v.ownBlock∨v'.ownBlock=some w.heap.size)→K (a.put o.dst v') w') :
  if Region.wanted o (yielded ops a.tmps)=true then Oper.wp Tryz.prog o a w K Q else E:=by
 have hw:Region.wanted o (yielded ops a.tmps)=true:=by simp [Region.wanted,hgd]
 rw [if_pos hw]
 obtain ⟨v',w',hr,h2,h3,h5⟩:=run_append_own_str v n xs hown (strOfNums l) (by rw [strOfNums_size];exact h63) hbase
 rw [strOfNums_size,byteCells_nums hb] at h2
 rw [← hty] at hr
 unfold Oper.wp execOp
 simp only [ho,resolve,invoke,builtin,Sem.run_bind,Sem.run_pure,Result.andThen_ok,List.map_toArray,List.map_cons,List.map_nil,hs,hx]
 rw [hty] at hr ⊢
 simp only [hr]
 exact h v' w' h2 h3 h5
end Go.Proofs.YtkmbkpoclhbmgaaGreat
