/- 'ExportMeans': for every input the call returns true, and what was handed in reads as it did. The form's own reach is the one condition. -/
import Derived.Shelf.Small.Bits
import Derived.Shelf.Small.Strs
import Derived.Shelf.Strconv.Itoa0
import Derived.Shelf.Strings.Search1
import Derived.Shelf.Bytes.SlIndexAt
import Derived.Shelf.Bytes.SlSearch0
import Derived.Ground.SlbCloneProg
import Derived.Shelf.Bytes.SlClone
import Derived.Shelf.Bytes.IndexByte
import Derived.Test.YtkmbkpoclhbmgaaGreatProg
import Derived.Test.YtkmbkpoclhbmgaaGreatRows
import Derived.WalkKit
import Derived.WalkSpells
import Derived.WalkLawsBesides
import Derived.BigQuiet
import Derived.Deep.QuietTactic
import Derived.Lib.Hide
import Derived.IntWalk
import Derived.OneCell
import Derived.Laws.Rows
import Derived.OpenShut
import Derived.ProofKit
import Derived.Lib.EndianBits
import Derived.RegionTactic
import Derived.ChangeAlike
import Derived.WalkMore
import Derived.Laws.BytesArg
import Derived.Shelf.Bytes.SlEqualAll
import Derived.Lib.SlFresh
import Derived.Maps.AppendAt
import Derived.Deep.AppendSrc
import Derived.Deep.Upon
import Derived.Lib.AppendZeros
import Derived.Laws.IdiomStrings
import Derived.Lib.AppendZerosOnto
import Derived.Laws.StructEq
import Derived.Below
import Derived.Shelf.Abstract
import Derived.Laws.ResultCell
import Derived.Deep.Slices
import Derived.ChangeSame
import Derived.Laws.OwnMore
import Derived.Laws.Slices
import Derived.Lib.ConvBytes
import Derived.StringKeys
import Derived.Maps.Own
import Derived.Maps.OwnOps
import Derived.Maps.OwnSet
import Derived.WideShapes
import Derived.Deep.LoopGhost
import Derived.StillTailTactics
import Derived.Deep.Cut
import Derived.Deep.CutRange
import Derived.PlainAid
import Derived.Lib.SlBytesRow
import Derived.Deep.Onto
import Derived.Laws.EntriesVeiled
import Derived.Shelf.SlSortCmp.WholeK
import Derived.Shelf.SlGeneric
import Derived.Ground.SlsfProg
import Derived.Laws.Bits128
import Derived.Deep.RegionWith
import Derived.Deep.RegionHeld3
import Derived.Lib.SmallJoins
import Derived.Deep.RegionLaw
import Derived.Deep.RegionHeld
import Derived.Lib.QuietBelow
import Derived.Stop.Asserts
import Derived.Laws.Externs
import Derived.WalkArith
import Derived.Maps.Views
import Derived.RangeFuncRecord
import Derived.RangeFuncSeq
import Derived.RangeFuncCalls
import Derived.RangeFuncBound
import Derived.OwnWalkIn
import Derived.TacticsInMore
import Derived.Shelf.RegionOpen
import Derived.BigRegion
import Derived.RangeFuncNested
import Derived.RangeFuncIn
import Derived.RangeFuncLeaves
import Derived.Laws.Tables
import Derived.BigFrame
import Derived.StillTail
import Derived.ShutString
import Derived.ChangeOld
import Derived.Test.YtkmbkpoclhbmgaaGreatPM1
import Derived.Test.YtkmbkpoclhbmgaaGreatPM2
import Derived.Test.YtkmbkpoclhbmgaaGreatPM5
import Derived.Test.YtkmbkpoclhbmgaaGreatPM6
import Derived.Test.YtkmbkpoclhbmgaaGreatPM7
import Derived.Test.YtkmbkpoclhbmgaaGreatPM12
import Derived.Test.YtkmbkpoclhbmgaaGreatPM14
import Derived.Test.YtkmbkpoclhbmgaaGreatPM15
import Derived.Test.YtkmbkpoclhbmgaaGreatPM17
namespace Go.Proofs.YtkmbkpoclhbmgaaGreat
open Go.RowKit Go.Sort
variable {w w' W V:World} {h:Hx} {s:St} {sv dv:Value}
theorem sym_res {D:Syms} (h:SymsOk D) (low:Int):∀ y∈D.map (symEx low),ResOk y.2:=by
 intro y hy
 obtain ⟨z,hz,rfl⟩:=List.mem_map.1 hy
 have:=(h.each z hz).2.2.2.2
 unfold symEx
 simp only []
 split
 ·exact ⟨fun h=>(by cases h),this.1,this.2,Int.le_refl 0⟩
 ·exact ⟨fun _=>rfl,Int.emod_nonneg _ (by decide),Int.emod_lt_of_pos _ (by decide),Int.le_refl 0⟩
theorem raw_res {ys:List Int} (hb:Byt ys) (s:St):∀ y∈(expRaw ys s).2,ResOk y.2:=by
 intro y hy
 unfold expRaw at hy
 split at hy
 ·exact all_res _ y (srtN_mem.1 hy)
 split at hy
 ·exact sym_res (nlAll_ok (partN_byt hb _ _) (partN_byt hb _ _)) _ y (srtN_mem.1 hy)
 ·cases hy
set_option maxRecDepth 20000 in
set_option maxHeartbeats 3200000 in
theorem refAll11_any {ys:List Int} {q:Option Addr} {c n:Nat} {l:List Sg} {qs qd:Option Addr} {cs nd cd:Nat} (hI:ExIn2 w ys q c s l qs cs nd) (hn:ys.length=n) :
  Calls Tryz.prog 18 #[.slice q n c,imgV h s (.slice qs l.length cs) (.slice qd nd cd)] w fun e w'=>ExsO w w' (expAll ys s nd) e:=by
 obtain ⟨N,hN⟩:∃ N,N=l.length:=⟨_,rfl⟩
 rw [← hN]
 have gB:=grown1 w (.cells (imgArr h s (.slice qs N cs) (.slice qd nd cd)) 48)
 have aA:ImgAt (w.alloc (.cells (imgArr h s (.slice qs N cs) (.slice qd nd cd)) 48)) w.heap.size h s (.slice qs N cs) (.slice qd nd cd):=heap_alloc_new w _
 obtain ⟨W,hW⟩:∃ W,w.alloc (.cells (imgArr h s (.slice qs N cs) (.slice qd nd cd)) 48)=W:=⟨_,rfl⟩
 obtain ⟨b,hb'⟩:∃ b,w.heap.size=b:=⟨_,rfl⟩
 rw [hW] at gB aA
 rw [hb'] at aA
 have I1:=hI.grown gB
 have RW:=Lib.hid (refRaw_any (h:=h) (qd:=qd) (cd:=cd) I1 hn)
 have MY:=Lib.hid (fun (V:World) (hg:W.grownBy V none) (nm:ByteArray) (x:Ex) (hx:ResOk x)=>refMay11_any (h:=h) (qd:=qd) (cd:=cd) I1.deps (I1.img.grown hg) nm x hx)
 rw [← hN] at RW MY
 have RS:=Lib.hid (raw_res I1.byt s)
 have KI:=Lib.hid (fun (V:World) (hg:W.grownBy V none)=>run_loadIm (aA.kept hg (by simp)))
 have G:=Lib.hid gB
 have OUT:=Lib.hid (show expAll ys s nd=if (expRaw ys s).1≠0 then ((expRaw ys s).1,[]) else if expErr s nd (expRaw ys s).2≠0 then (expErr s nd (expRaw ys s).2,[]) else (0,(expRaw ys s).2) from rfl)
 generalize expAll ys s nd=RES at *
 obtain ⟨⟨E,D⟩,hR⟩:∃ R,R=expRaw ys s:=⟨_,rfl⟩
 rw [← hR] at OUT RW RS
 simp only [] at OUT RS
 have K1:=Lib.hid aA
 clear I1 hI gB aA hN hR
 rw [show imgV h s (.slice qs N cs) (.slice qd nd cd)=.agg (imgArr h s (.slice qs N cs) (.slice qd nd cd)) from rfl]
 unfold imgArr at hW ⊢
 go_enter Tryz.func18,Tryz.ntmps18
 go_upto_region 1 with fail
 clear hW hb'
 go_wp2_with (refine wpList_load_imgI rfl _ rfl rfl K1.out ?_;unfold imgV imgArr)
 refine RW.out.mono ?_
 rintro e w2 ⟨⟨q3,c3,rfl,hD,hle,hmost⟩,hg2⟩
 simp only [] at hD hle ⊢
 have G2:=Lib.hid (grown_trans G.out hg2)
 have GW2:=Lib.hid hg2
 have HD:=Lib.hid hD
 have D2:=Lib.hid hD.exs
 clear hD hg2 RW
 by_cases hE:E=0
 ·subst hE
  have OUT:=Lib.hid (OUT.out.trans (if_neg (by simp)))
  obtain ⟨M,hM⟩:∃ M,M=D.length:=⟨_,rfl⟩
  rw [← hM] at hle ⊢
  have HM:=Lib.hid hM.symm
  have ST:=Lib.hid (show AlL w2 w2 s nd D M (.int .i64 0) from ⟨⟨0,Nat.zero_le _,rfl,fun i z h=>by omega⟩,grown_refl _ _⟩)
  clear hM
  go_wp2
  go_loopw [8] (fun v8 wr=>AlL w2 wr s nd D M v8) (fun v8 _=>M - (intOf v8).toNat)
  case atStart=>exact ST.out
  case round =>
   obtain ⟨⟨k,hk,rfl,hmay⟩,hg⟩:=hrel
   have MA:=Lib.hid hmay
   have GX:=Lib.hid hg
   by_cases hlt:k < M
   ·obtain ⟨y,hy⟩:∃ y,D[k]?=some y:=⟨_,List.getElem?_eq_getElem (by rw [HM.out];exact hlt)⟩
    obtain ⟨ga,oa,rfl,a0,a1,a2,a3,a4,a5,a6⟩:=(D2.out.grown hg).at hy
    have HY:=Lib.hid hy
    have dl:decide ((k:Int) < (M:Int))=true:=by simp;omega
    have hkI:(k:Int) < (M:Int):=by omega
    have k0:=fun d os=>cell_regrown a0 d os
    have k1:=fun d os=>cell_regrown a1 d os
    have k2:=fun d os=>cell_regrown a2 d os
    have k3:=fun d os=>cell_regrown a3 d os
    have k4:=fun d os=>cell_regrown a4 d os
    have k5:=fun d os=>cell_regrown a5 d os
    have k6:=fun d os=>cell_regrown a6 d os
    have GWr:=grown_trans GW2.out hg
    have KG:=fun d os=>grown_below (below_regrown wr d os) none
    have MQ:=Lib.hid (fun d os=>Calls.regrown_of ((MY.out _ (grown_trans GWr (KG d os)) (strOfNums y.1) y.2 (RS.out y (List.mem_of_getElem? hy))).mono (fun _ _ h=>(⟨h.1,below_grown h.2 (Nat.le_refl _) (by simp)⟩ : _∧_))))
    have LD:=Lib.hid (fun (V:World) (hV:∃ p:Regrown,V=Go.Sort.grow (redrawn wr p.d) p.os)=>(by obtain ⟨p,rfl⟩:=hV;exact KI.out _ (grown_trans GWr (KG p.d p.os)):(loadVar 48 ⟨b,0,none⟩).run Tryz.prog V=.ok (imgV h s (.slice qs N cs) (.slice qd nd cd)) V))
    obtain ⟨r,hr⟩:∃ r,r=expMay s nd y.2:=⟨_,rfl⟩
    rw [← hr] at MQ
    have HR:=Lib.hid hr
    have HK:=Lib.hid KG
    unfold imgV imgArr exV exArr at MQ
    unfold imgV imgArr at LD
    clear hmay hg hy hr GWr KG a0 a1 a2 a3 a4 a5 a6
    go_wp2
    refine wp_region_quiet_below (by kernel_rfl) (by kernel_rfl) ?_
    refine wpQuiet_load rfl _ rfl rfl LD.out ?_
    repeat (quiet_step (with_reducible exact MQ.out _ _))
    refine wpQuiet_nil ?_
    intro _ hw'
    obtain ⟨⟨dq,osq⟩,hw''⟩:=hw'
    subst hw''
    have G8:=Lib.hid (grown_trans GX.out (HK.out dq osq))
    clear k0 k1 k2 k3 k4 k5 k6
    by_cases hr0:r=0
    ·subst hr0
     go_wp2
     go_roundw
     case rel=>exact ⟨⟨k + 1,hlt,by go_num,fun i z hi hz=>by
      rcases Nat.lt_or_ge i k with h | h
      ·exact MA.out i z h hz
      ·obtain rfl:i=k:=by omega
       rw [HY.out] at hz
       injection hz with hz
       rw [← hz];exact HR.out.symm⟩,G8.out⟩
     case measure=>simp [intOf];omega
    ·have dr:(r != 0)=true:=by simpa using hr0
     have F:=Lib.hid (ExsO.none (w:=w) (OUT.out.trans (by
      have e:=expErr_first MA.out HY.out (by rw [← HR.out];exact hr0)
      show (if expErr s nd D≠0 then (expErr s nd D,[]) else (0,D))=(r,[])
      rw [e,← HR.out,if_pos hr0])) (grown_trans G2.out G8.out))
     clear hr0
     go_wp2
     go_ret2
     exact F.out
   ·have hkm:M=k:=by omega
    subst hkm
    have dl:decide ((M:Int) < (M:Int))=false:=by simp
    have F:=Lib.hid (show ExsO w wr RES (.returned (.tuple #[.slice q3 M c3,.int .i64 0])) from by
     rw [OUT.out]
     have e:expErr s nd D=0:=expErr_none (fun i z hz=>hmay i z (by
      obtain ⟨h1,_⟩:=List.getElem?_eq_some_iff.1 hz
      rw [HM.out] at h1
      exact h1) hz)
     show ExsO w wr (if expErr s nd D≠0 then (expErr s nd D,[]) else (0,D)) _
     rw [e,if_neg (by simp)]
     exact ⟨⟨q3,c3,by simp only [];rw [HM.out],HD.out.grown hg,by simp only [];rw [HM.out];exact hle,hmost⟩,grown_trans G2.out hg⟩)
    clear hmay hg
    go_wp2
    go_ret2
    exact F.out
 ·have dE:(E != 0)=true:=by simpa using hE
  have F:=Lib.hid (ExsO.none (OUT.out.trans (if_pos hE)) G2.out)
  clear hE
  go_wp2
  go_ret2
  exact F.out
end Go.Proofs.YtkmbkpoclhbmgaaGreat
namespace Go.Proofs.YtkmbkpoclhbmgaaGreat
theorem byt_app {a b:List Int} (h:Byt a) (k:Byt b):Byt (a ++ b):=fun x hx=>by
 rcases List.mem_append.1 hx with e | e
 ·exact h x e
 ·exact k x e
theorem byt_enc (n:Nat):Byt (encU n):=encU_bytes n
theorem byt_one {x:Int} (h : 0≤x∧x < 256):Byt [x]:=fun y hy=>by rw [List.mem_singleton] at hy;subst hy;exact h
theorem byt_said {x:Ex} (h:Byt x.other):Byt (saidB x):=by
 unfold saidB
 refine byt_app (byt_enc _) ?_
 split
 ·exact byt_app (byt_enc _) (byt_app h (byt_one (by decide)))
 ·split
  ·exact byt_app (byt_enc _) (byt_enc _)
  ·exact byt_enc _
theorem byt_front {x:Option Ex} (h:∀ y,x=some y→Byt y.other):Byt (frontB x):=by
 cases x with
 | none=>exact byt_one (by decide)
 | some y=>exact byt_app (byt_enc _) (byt_said (h y rfl))
theorem byt_node {nd:PN} {pl:List Nat} (h:PnOk nd):Byt (nodeB pl nd):=by
 unfold nodeB
 refine byt_app (byt_front fun y hy=>(h.says y hy).other) (byt_app (byt_one (by have:=kids_few h;omega)) ?_)
 intro z hz
 obtain ⟨k,hk,hz⟩:=List.mem_flatMap.1 hz
 unfold kidB at hz
 exact byt_app (byt_app (h.edge k hk).byt (byt_one (by decide))) (byt_enc _) z hz
theorem byt_lay {nodes:List PN} {pl:List Nat} (h:∀ nd∈nodes,PnOk nd):Byt (layB pl nodes):=by
 intro z hz
 obtain ⟨nd,hn,hz⟩:=List.mem_flatMap.1 hz
 exact byt_node (h nd hn) z hz
theorem byt_made {D:Out} {E:Int} {B:List Int} (h:MkIs D E B) (f:ExsFit D):Byt B:=by
 by_cases h0:mkE0 D=0
 ·by_cases hn:D=[]
  ·rw [(h.nil hn).2];intro x hx;cases hx
  ·obtain ⟨R,t,p,u,_,a,b⟩:=h.yes h0 hn
   obtain ⟨m1,m2,m3⟩:=mkE0_0 h0
   rcases Nat.lt_or_ge 1048576 (lastB R t).length with hl | hl
   ·rw [(a hl).2];intro x hx;cases hx
   ·rw [(b hl).2]
    have hok:=f.ok m1
    have hR:R≠[]:=fun e=>hn (by subst e;exact p.symm.eq_nil)
    exact byt_lay (plan_ok 257 R [] 0 hR u.rise fun y hy=>hok y (p.mem_iff.1 hy))
 ·rw [(h.no h0).2];intro x hx;cases hx
end Go.Proofs.YtkmbkpoclhbmgaaGreat
namespace Go.Proofs.YtkmbkpoclhbmgaaGreat
def wantN (x:Ex):Int :=
 if x.kind=1 then (if 4096≤x.value then 4 else 0) else if x.kind=4 then (if 4096≤x.value∨4096≤x.resolver then 4 else 0) else if x.kind=3 then (if x.ordinal≠1 then 22 else 0) else 0
theorem may_want {nt nb ns:Nat} {x:Ex} (h:ResOk x):expMay (plSt nt nb ns) 1 x=wantN x:=by
 unfold expMay wantN
 have hl:longN (plSt nt nb ns)=4096:=rfl
 rw [hl]
 by_cases k1:x.kind=1
 ·have hr:=h.1 k1
  rw [if_pos k1]
  by_cases hv : 4096≤x.value
  ·rw [if_pos ⟨.inl k1,.inl hv⟩,if_pos hv]
  ·rw [if_neg (by omega),if_neg (by omega),if_neg hv]
 ·rw [if_neg k1]
  by_cases k4:x.kind=4
  ·rw [if_pos k4]
   by_cases hv : 4096≤x.value∨4096≤x.resolver
   ·rw [if_pos ⟨.inr k4,hv⟩,if_pos hv]
   ·rw [if_neg (by omega),if_neg (by omega),if_neg hv]
  ·rw [if_neg k4,if_neg (by omega)]
   by_cases k3:x.kind=3
   ·rw [if_pos k3]
    by_cases ho:x.ordinal≠1
    ·rw [if_pos ⟨k3,by omega⟩,if_pos ho]
    ·rw [if_neg (by omega),if_neg ho]
   ·rw [if_neg (by omega),if_neg k3]
end Go.Proofs.YtkmbkpoclhbmgaaGreat
namespace Go.Proofs.YtkmbkpoclhbmgaaGreat
open Go.RowKit
variable {w w' W V:World} {s:St}
theorem once_eq {A:Out} (h:A.Pairwise fun a b=>a.1≠b.1) {y z:List Int × Ex} (hy:y∈A) (hz:z∈A) (e:y.1=z.1):y=z:=by
 obtain ⟨i,hi,rfl⟩:=List.getElem_of_mem hy
 obtain ⟨j,hj,rfl⟩:=List.getElem_of_mem hz
 rcases Nat.lt_trichotomy i j with c | c | c
 ·exact absurd e (List.pairwise_iff_getElem.1 h i j hi hj c)
 ·subst c;rfl
 ·exact absurd e.symm (List.pairwise_iff_getElem.1 h j i hj hi c)
theorem named_mem2 {A:Out} (h:A.Pairwise fun a b=>a.1≠b.1) {y:List Int × Ex} (hy:y∈A):Named y.1 A=some y:=by
 cases e:Named y.1 A with
 | none =>
  unfold Named at e
  have:=List.find?_eq_none.1 e y hy
  simp at this
 | some z =>
  unfold Named at e
  have h1:=List.find?_some e
  have h2:=List.mem_of_find?_eq_some e
  rw [once_eq h h2 hy (by simpa using h1)]
theorem named_no2 {A:Out} {t:List Int} (h:∀ y∈A,y.1≠t):Named t A=none:=by
 unfold Named
 rw [List.find?_eq_none]
 intro y hy
 simpa using h y hy
theorem named_perm2 {A B:Out} (hp:A.Perm B) (h:A.Pairwise fun a b=>a.1≠b.1) (t:List Int):Named t A=Named t B:=by
 by_cases c:∃ y∈A,y.1=t
 ·obtain ⟨y,hy,rfl⟩:=c
  rw [named_mem2 h hy,named_mem2 (hp.pairwise h (fun h e=>h e.symm)) (hp.mem_iff.1 hy)]
 ·rw [named_no2 (fun y hy e=>c ⟨y,hy,e⟩),named_no2 (fun y hy e=>c ⟨y,hp.mem_iff.2 hy,e⟩)]
theorem allN_whole {xs:List Int} (hb:Byt xs) (h:(allN xs).2=0):Whole xs (allN xs).1:=by
 have AW:=allN_walk xs
 obtain ⟨⟨er,out⟩,hw⟩:∃ r,r=walkN xs mtAll []:=⟨_,rfl⟩
 rw [← hw] at AW
 by_cases he:er=0
 ·subst he
  rw [if_neg (by simp)] at AW
  rw [AW]
  exact whole_of hb hw.symm
 ·rw [if_pos he] at AW
  rw [AW] at h
  exact absurd h he
structure RawIs (ys:List Int) (s:St) (L:Out):Prop where
 once:L.Pairwise fun a b=>a.1≠b.1
 told:∀ y∈L,Byt y.1∧y.1.length≤255
 res:∀ y∈L,ResOk y.2
 find:∀ t:List Int,t.length≤255→expRawF ys s t=(0,(Named t L).map (·.2))
theorem raw_is {ys:List Int} (hb:Byt ys) (s:St) (h:(expRaw ys s).1=0):RawIs ys s (expRaw ys s).2:=by
 have RS:=raw_res hb s
 unfold expRaw at h RS ⊢
 by_cases c : 0 < s.tr.2
 ·rw [if_pos c] at h RS ⊢
  simp only [] at h RS ⊢
  have WL:=allN_whole (partN_byt hb s.tr.1 s.tr.2) h
  have hp:=srtN_perm (allN (partN ys s.tr.1 s.tr.2)).1
  refine ⟨hp.symm.pairwise WL.once (fun h e=>h e.symm),fun y hy=>WL.told y (srtN_mem.1 hy),RS,fun t ht=>?_⟩
  unfold expRawF
  rw [if_pos c,WL.find t ht,named_perm2 hp.symm WL.once]
 ·rw [if_neg c] at h RS ⊢
  by_cases d : 0 < s.sy.2
  ·rw [if_pos d] at h RS ⊢
   simp only [] at h RS ⊢
   have OK:=nlAll_ok (n:=(secN s.segs:Int)) (partN_byt hb s.sy.1 s.sy.2) (partN_byt hb s.st.1 s.st.2)
   obtain ⟨D,hD⟩:∃ D,D=(nlAll (partN ys s.sy.1 s.sy.2) (partN ys s.st.1 s.st.2) (secN s.segs:Int)).2:=⟨_,rfl⟩
   have hF:∀ t,expRawF ys s t=(0,(Named t (D.map (symEx (lowN s.segs)))).map (·.2)):=fun t=>by
    unfold expRawF
    rw [if_neg c,if_pos d,h,hD]
   rw [← hD] at OK RS ⊢
   have hp:=srtN_perm (D.map (symEx (lowN s.segs)))
   have ho:(D.map (symEx (lowN s.segs))).Pairwise fun a b=>a.1≠b.1:=by
    rw [List.pairwise_map]
    exact OK.apart
   refine ⟨hp.symm.pairwise ho (fun h e=>h e.symm),fun y hy=>?_,RS,fun t ht=>?_⟩
   ·obtain ⟨z,hz,rfl⟩:=List.mem_map.1 (srtN_mem.1 hy)
    have:=OK.each z hz
    exact ⟨this.1,this.2.2.1⟩
   ·rw [hF t,named_perm2 hp.symm ho]
  ·rw [if_neg d] at h RS ⊢
   refine ⟨List.Pairwise.nil,(fun y hy=>by cases hy),(fun y hy=>by cases hy),fun t ht=>?_⟩
   unfold expRawF
   rw [if_neg c,if_neg d]
   rfl
theorem expErr_all {nd:Nat}:∀ {D:Out},expErr s nd D=0→∀ y∈D,expMay s nd y.2=0
 | [],_,y,hy=>by cases hy
 | x :: D,h,y,hy=>by
  unfold expErr at h
  by_cases c:expMay s nd x.2≠0
  ·rw [if_pos c] at h;exact absurd h c
  ·rw [if_neg c] at h
   rcases List.mem_cons.1 hy with e | e
   ·subst e;simpa using c
   ·exact expErr_all h y e
structure AllIs (ys:List Int) (s:St) (nd:Nat) (L:Out):Prop where
 once:L.Pairwise fun a b=>a.1≠b.1
 told:∀ y∈L,Byt y.1∧y.1.length≤255
 res:∀ y∈L,ResOk y.2
 may:∀ y∈L,expMay s nd y.2=0
 find:∀ t:List Int,t.length≤255→expFind ys s nd t=(0,(Named t L).map (·.2))
 raw:L=(expRaw ys s).2
theorem all_is {ys:List Int} (hb:Byt ys) {s:St} {nd:Nat} {L:Out} (h:expAll ys s nd=(0,L)):AllIs ys s nd L:=by
 unfold expAll at h
 by_cases c:(expRaw ys s).1=0
 ·rw [if_neg (by simp [c])] at h
  by_cases d:expErr s nd (expRaw ys s).2=0
  ·rw [if_neg (by simp [d])] at h
   injection h with _ h
   subst h
   have R:=raw_is hb s c
   have M:=expErr_all d
   refine ⟨R.once,R.told,R.res,M,fun t ht=>?_,rfl⟩
   unfold expFind
   rw [R.find t ht]
   simp only []
   rw [if_neg (by simp)]
   cases e:Named t (expRaw ys s).2 with
   | none=>rfl
   | some y =>
    unfold Named at e
    have:=M y (List.mem_of_find?_eq_some e)
    simp only [Option.map_some,this]
    rfl
  ·rw [if_pos d] at h
   injection h with h _
   exact absurd h d
 ·rw [if_pos c] at h
  injection h with h _
  exact absurd h c
theorem AllIs.of_mem {ys:List Int} {nd:Nat} {L:Out} (h:AllIs ys s nd L) {y:List Int × Ex} (hy:y∈L):expFind ys s nd y.1=(0,some y.2):=by
 rw [h.find y.1 (h.told y hy).2,named_mem2 h.once hy]
 rfl
theorem AllIs.there {ys:List Int} {nd:Nat} {L:Out} (h:AllIs ys s nd L) {t:List Int} (ht:t.length≤255):(expFind ys s nd t).1=0∧(expFind ys s nd t).2.isSome=L.any (fun y=>decide (y.1=t)):=by
 rw [h.find t ht]
 refine ⟨rfl,?_⟩
 unfold Named
 simp only [Option.isSome_map]
 rw [Bool.eq_iff_iff,List.find?_isSome,List.any_eq_true]
theorem AllIs.within {ys:List Int} {nt nb ns:Nat} {L:Out} (h:AllIs ys (plSt nt nb ns) 1 L) {y:List Int × Ex} (hy:y∈L) (hk:y.2.kind=1∨y.2.kind=4) : 0≤y.2.value∧y.2.value < 4096:=by
 have m:=h.may y hy
 have r:=h.res y hy
 rw [may_want r] at m
 unfold wantN at m
 refine ⟨r.2.1,?_⟩
 rcases hk with k | k
 ·rw [if_pos k] at m
  by_cases c : 4096≤y.2.value
  ·rw [if_pos c] at m;cases m
  ·omega
 ·rw [if_neg (by omega),if_pos k] at m
  by_cases c : 4096≤y.2.value∨4096≤y.2.resolver
  ·rw [if_pos c] at m;cases m
  ·omega
theorem all_made {D:Out} {T B S:List Int} {L R:Out} (h:MkIs D 0 T) (f:ExsFit D) (hn:D≠[]) (ha:L=(expRaw (plB T B S) (plSt T.length B.length S.length)).2) (hR:Srt R) (hp:R.Perm D):L=R:=by
 obtain ⟨R0,p0,u0,a0⟩:=mkIs_all h f hn
 have h0:mkE0 D=0:=by
  by_cases c:mkE0 D=0
  ·exact c
  ·exact absurd (h.no c).1.symm c
 obtain ⟨m1,m2,m3⟩:=mkE0_0 h0
 have hne : 0 < (T.length:Int):=by
  have:T≠[]:=fun e=>by
   subst e
   have e0:allN []=([],0):=rfl
   rw [e0] at a0
   injection a0 with a0 _
   subst a0
   exact hn (List.nil_perm.1 p0)
  have:=List.length_pos_iff.2 this
  omega
 rw [raw_plain,if_pos hne,a0] at ha
 simp only [] at ha
 subst ha
 have u1:Up R:=Up.of hR hp f.name m3
 have e1:R0=R:=u0.one u1 (p0.trans hp.symm)
 subst e1
 have r1:Up (srtN R0):=Up.of (D:=R0) (srtN_rises (fun y hy=>f.name y (p0.mem_iff.1 hy))) (srtN_perm R0) (fun y hy=>f.name y (p0.mem_iff.1 hy)) (p0.symm.pairwise m3 (fun h e=>h e.symm))
 exact r1.one u0 (srtN_perm R0)
end Go.Proofs.YtkmbkpoclhbmgaaGreat
namespace Go.Proofs.YtkmbkpoclhbmgaaGreat
open Go.RowKit Go.Sort
variable {w w' W:World} {h:Hx} {s:St} {sv dv:Value}
def atN (s:St) (x:Ex) (sl:Int):Int:=if x.kind=2 then x.value else if x.kind=1∨x.kind=4 then IntKind.u64.wrap (IntKind.u64.wrap (lowN s.segs + sl) + x.value) else 0
set_option maxRecDepth 20000 in
set_option maxHeartbeats 3200000 in
theorem At_any {l:List Sg} {qs:Option Addr} {cs:Nat} (k:ImgRows w s l qs cs) (nm:ByteArray) (x:Ex) (sl:Int) :
  Calls Tryz.prog 21 #[imgV h s (.slice qs l.length cs) dv,exV nm x,.int .u64 sl] w fun e w'=>e=.returned (.int .u64 (atN s x sl))∧w.grownBy w' none:=by
 obtain ⟨N,hN⟩:∃ N,N=l.length:=⟨_,rfl⟩
 rw [← hN]
 have gB:=grown1 w (.cells (imgArr h s (.slice qs N cs) dv) 48)
 have aA:ImgAt (w.alloc (.cells (imgArr h s (.slice qs N cs) dv) 48)) w.heap.size h s (.slice qs N cs) dv:=heap_alloc_new w _
 obtain ⟨W,hW⟩:∃ W,w.alloc (.cells (imgArr h s (.slice qs N cs) dv) 48)=W:=⟨_,rfl⟩
 obtain ⟨b,hb⟩:∃ b,w.heap.size=b:=⟨_,rfl⟩
 rw [hW] at gB aA
 rw [hb] at aA
 have gr:=grown1 W (.cells (exArr nm x) 28)
 have x2:ExAt (W.alloc (.cells (exArr nm x) 28)) W.heap.size nm x:=heap_alloc_new W _
 obtain ⟨W2,hW2⟩:∃ W2,W.alloc (.cells (exArr nm x) 28)=W2:=⟨_,rfl⟩
 obtain ⟨b2,hb2⟩:∃ b,W.heap.size=b:=⟨_,rfl⟩
 rw [hW2] at gr x2
 rw [hb2] at x2
 have a2:=aA.kept gr (by simp)
 have KG:=fun d os=>grown_below (below_regrown W2 d os) none
 have LO:=Lib.hid (fun d os=>Calls.regrown_of ((Low_any (h:=h) (dv:=dv) (((k.grown gB).grown gr).grown (KG d os))).mono (fun _ _ h=>(⟨h.1,below_grown h.2 (Nat.le_refl _) (by simp)⟩ : _∧_))))
 have LD:=Lib.hid (fun (V:World) (hV:∃ p:Regrown,V=Go.Sort.grow (redrawn W2 p.d) p.os)=>(by obtain ⟨p,rfl⟩:=hV;exact run_loadIm (a2.kept (KG p.d p.os) (by simp)):(loadVar 48 ⟨b,0,none⟩).run Tryz.prog V=.ok (imgV h s (.slice qs N cs) dv) V))
 have AL:=Lib.hid (lt_of_block a2)
 rw [← hN] at LO
 obtain ⟨r,hr⟩:∃ r:Int,r=atN s x sl:=⟨_,rfl⟩
 rw [← hr]
 unfold atN at hr
 generalize lowN s.segs=L at *
 have RR:=Lib.hid hr
 have G2:=Lib.hid (grown_trans gB gr)
 have K3:=Lib.hid (fun d os=>cell_regrown x2.c.2.2.2.1 d os)
 obtain ⟨-,y1,-,y3,-,-,-⟩:=x2.c
 have yl:=x2.lt
 have HK:=Lib.hid KG
 obtain ⟨kind,weak,value,resolver,ordinal,other⟩:=x
 simp only [] at y1 y3 RR K3
 clear k gB aA gr x2 hN KG a2 hr
 simp only [imgV,imgArr,exV,exArr] at hW hW2 LO LD ⊢
 by_cases k2:kind=2
 ·subst k2
  have E:=Lib.hid (show r=value from by rw [RR.out,if_pos rfl])
  go_enter Tryz.func21,Tryz.ntmps21
  go_upto_region 1 with fail
  clear hW hb hW2 hb2
  go_wp2
  go_ret
  exact ⟨by rw [E.out];rfl,G2.out⟩
 have k2':(kind == 2)=false:=by simp;exact k2
 by_cases k14:kind=1∨kind=4
 ·have hk:(kind == 1)=true∨((kind == 1)=false∧(kind == 4)=true):=by
   rcases k14 with rfl | rfl
   ·exact .inl rfl
   ·exact .inr ⟨rfl,rfl⟩
  have E:=Lib.hid (show r=IntKind.u64.wrap (IntKind.u64.wrap (L + sl) + value) from by rw [RR.out,if_neg k2,if_pos k14])
  clear k14 k2
  rcases hk with k1 | ⟨k1,k4⟩
  all_goals
   go_enter Tryz.func21,Tryz.ntmps21
   go_upto_region 1 with fail
   clear hW hb hW2 hb2
   go_upto_region 4 with fail
   have k3:=K3.out
   refine wp_region_quiet_below (by kernel_rfl) (by kernel_rfl) ?_
   refine wpQuiet_load_img rfl _ rfl rfl LD.out ?_
   quiet_step (with_reducible exact LO.out _ _)
   repeat (quiet_step (fail))
   refine wpQuiet_nil ?_
   intro _ hw'
   obtain ⟨⟨dq,osq⟩,hw''⟩:=hw'
   subst hw''
   have GG:=Lib.hid (grown_trans G2.out (HK.out dq osq))
   clear k3 y1 y3
   go_wp2
   go_ret
   exact ⟨by rw [E.out];rfl,GG.out⟩
 have k1':(kind == 1)=false:=by simp;omega
 have k4':(kind == 4)=false:=by simp;omega
 have E:=Lib.hid (show r=0 from by rw [RR.out,if_neg k2,if_neg k14])
 clear k14 k2
 go_enter Tryz.func21,Tryz.ntmps21
 go_upto_region 1 with fail
 clear hW hb hW2 hb2
 go_wp2
 go_ret
 exact ⟨by rw [E.out];rfl,G2.out⟩
end Go.Proofs.YtkmbkpoclhbmgaaGreat
namespace Go.Proofs.YtkmbkpoclhbmgaaGreat
open Go.RowKit Go.ChangeShapes Go.WideShapes Go.Deep
variable {w w':World}
structure ExFits (nm:List Int) (x:Ex):Prop where
 name:Byt nm
 len:nm.length≤9223372036854775807
 other:Byt x.other
 olen:x.other.length≤9223372036854775807
 kind : -9223372036854775808≤x.kind∧x.kind≤9223372036854775807
 value : 0≤x.value∧x.value < 18446744073709551616
 resolver : 0≤x.resolver∧x.resolver < 18446744073709551616
 ordinal : 0≤x.ordinal∧x.ordinal < 18446744073709551616
set_option maxRecDepth 20000 in
theorem open_exc {H:Type} {enc:TypeId × Value→H} {base:Nat} {spare:Nat→Bool} {held:Bool} {fuel:Nat} {cs:List Value} {y:DataW H × List MemPlace}
  (hl:cs.length=7) (h:DataW.trod enc Tryz.prog w base spare held fuel 28 cs=some y):∃ nm x,ExFits nm x∧cs=exCs (strOfNums nm) x:=by
 obtain ⟨xs,n,_,_,_,hxl,hf⟩:=DataW.trod_struct Tryz.underlying28 h
 have q0:Tryz.prog.cellsOf 9=1:=by kernel_rfl
 have q1:Tryz.prog.cellsOf 25=1:=by kernel_rfl
 have q2:Tryz.prog.cellsOf 4=1:=by kernel_rfl
 have q3:Tryz.prog.cellsOf 26=1:=by kernel_rfl
 match cs,hl with
 | [c0,c1,c2,c3,c4,c5,c6],_ =>
  have g0:DataW.trod enc Tryz.prog w base spare held n 9 (([c0,c1,c2,c3,c4,c5,c6].drop 0).take (Tryz.prog.cellsOf 9))=xs[0]?:=hf 0 _ rfl
  have g1:DataW.trod enc Tryz.prog w base spare held n 25 (([c0,c1,c2,c3,c4,c5,c6].drop 1).take (Tryz.prog.cellsOf 25))=xs[1]?:=hf 1 _ rfl
  have g2:DataW.trod enc Tryz.prog w base spare held n 4 (([c0,c1,c2,c3,c4,c5,c6].drop 2).take (Tryz.prog.cellsOf 4))=xs[2]?:=hf 2 _ rfl
  have g3:DataW.trod enc Tryz.prog w base spare held n 26 (([c0,c1,c2,c3,c4,c5,c6].drop 3).take (Tryz.prog.cellsOf 26))=xs[3]?:=hf 3 _ rfl
  have g4:DataW.trod enc Tryz.prog w base spare held n 26 (([c0,c1,c2,c3,c4,c5,c6].drop 4).take (Tryz.prog.cellsOf 26))=xs[4]?:=hf 4 _ rfl
  have g5:DataW.trod enc Tryz.prog w base spare held n 26 (([c0,c1,c2,c3,c4,c5,c6].drop 5).take (Tryz.prog.cellsOf 26))=xs[5]?:=hf 5 _ rfl
  have g6:DataW.trod enc Tryz.prog w base spare held n 9 (([c0,c1,c2,c3,c4,c5,c6].drop 6).take (Tryz.prog.cellsOf 9))=xs[6]?:=hf 6 _ rfl
  have lx:xs.length=7:=hxl
  rw [List.getElem?_eq_getElem (by omega)] at g0 g1 g2 g3 g4 g5 g6
  rw [q0] at g0 g6
  rw [q1] at g1
  rw [q2] at g2
  rw [q3] at g3 g4 g5
  obtain ⟨s0,e0,_,l0⟩:=DataW.trod_string Tryz.underlying9 g0
  obtain ⟨n1,e1,_,w1⟩:=DataW.trod_int Tryz.underlying25 g1
  obtain ⟨b2,e2,_⟩:=DataW.trod_bool Tryz.underlying4 g2
  obtain ⟨n3,e3,_,w3⟩:=DataW.trod_int Tryz.underlying26 g3
  obtain ⟨n4,e4,_,w4⟩:=DataW.trod_int Tryz.underlying26 g4
  obtain ⟨n5,e5,_,w5⟩:=DataW.trod_int Tryz.underlying26 g5
  obtain ⟨s6,e6,_,l6⟩:=DataW.trod_string Tryz.underlying9 g6
  simp at e0 e1 e2 e3 e4 e5 e6
  subst e0 e1 e2 e3 e4 e5 e6
  obtain ⟨t0,b0,m0,rfl⟩:=ex_text s0 l0
  obtain ⟨t6,b6,m6,rfl⟩:=ex_text s6 l6
  exact ⟨t0,⟨n1,b2,n3,n4,n5,t6⟩,⟨b0,m0,b6,m6,i64_range w1,u64_range w3,u64_range w4,u64_range w5⟩,rfl⟩
end Go.Proofs.YtkmbkpoclhbmgaaGreat
namespace Go.Proofs.YtkmbkpoclhbmgaaGreat
open Go.RowKit Go.ChangeShapes Go.WideShapes Go.Deep
variable {w w':World}
set_option maxRecDepth 20000 in
theorem open_exs {H:Type} {enc:TypeId × Value→H} {base:Nat} {held:Bool} {fuel:Nat} {x:DataW H × List MemPlace} {a:Option Addr} {len cap:Nat}
  (h:DataW.trod enc Tryz.prog w base (fun _=>true) held fuel 23 [.slice a len cap]=some x) :
  ∃ D:Out,D.length=len∧ExsAt w a D∧(∀ y∈D,ExFits y.1 y.2)∧len≤cap∧cap≤9223372036854775807:=by
 rcases open_slice Tryz.underlying23 h with ⟨e,_⟩ | ⟨a',len',cap',m,n,D,Pl,hcs,hb,hl,hm,hmm,hx,hi⟩
 ·injection e with e
  injection e with e1 e2 e3
  subst e1 e2 e3
  exact ⟨[],rfl,ExsAt.nil,(fun s hs=>by cases hs),Nat.le_refl _,by omega⟩
 ·injection hcs with hcs
  injection hcs with e1 e2 e3
  subst e1 e2 e3
  simp only [if_true] at hmm
  subst hmm
  have hc7:Tryz.prog.cellsOf 28=7:=by kernel_rfl
  obtain ⟨l,hll,hlp⟩:=list_ofE (([],Ex.zero):List Int × Ex) len (fun i s=>ExFits s.1 s.2∧∀ j,j < 7→w.cell? (a'.add (i * 7 + j))=(outCs s)[j]?) (fun i hil=>by
    obtain ⟨cs',hc,ht⟩:=hi i (by omega)
    rw [hc7] at hc
    obtain ⟨_,hcl,hat⟩:=World.cells?_some hc
    obtain ⟨nm,y,hf,hcs⟩:=open_exc hcl ht
    refine ⟨(nm,y),hf,fun j hj=>?_⟩
    have:=hat j hj
    rw [add_add] at this
    rw [this,hcs]
    rfl)
  refine ⟨l,hll,fun i y hy=>?_,fun y hy=>?_,hl,by unfold maxLen at hm;omega⟩
  · obtain ⟨hf,hc⟩:=hlp i y hy
    have h0:=hc 0 (by decide)
    obtain ⟨b,o,rfl⟩:∃ b o,a'=⟨b,o,none⟩:=by
     have hz:=(hlp 0 (l[0]'(by have:=(List.getElem?_eq_some_iff.1 hy).1;omega)) (List.getElem?_eq_getElem _)).2 0 (by decide)
     rw [Nat.zero_mul,Nat.zero_add] at hz
     exact flat_of_cell (v:=.string (strOfNums (l[0]'(by have:=(List.getElem?_eq_some_iff.1 hy).1;omega)).1)) hz
    refine ⟨b,o,rfl,fun j hj=>?_⟩
    have:=hc j hj
    rw [add_flat] at this
    rw [show o + i * 7 + j=o + (i * 7 + j) by omega]
    exact this
  · obtain ⟨i,hi2,rfl⟩:=List.getElem_of_mem hy
    exact (hlp i _ (List.getElem?_eq_getElem hi2)).1
end Go.Proofs.YtkmbkpoclhbmgaaGreat
namespace Go.Proofs.YtkmbkpoclhbmgaaGreat.exportMeans
open Go.RowKit
variable {w w' W V:World}
structure MeL (wc wr:World) (L:Out) (t:List Int) (N:Nat) (th i:Value):Prop where
 ex:∃ k:Nat,k≤N∧i=.int .i64 (k:Int)∧th=.bool ((L.take k).any (fun y=>decide (y.1=t)))
 grown:wc.grownBy wr none
theorem take_any (D:Out) (t:List Int) {k:Nat} {y:List Int × Ex} (hy:D[k]?=some y):(D.take (k + 1)).any (fun y=>decide (y.1=t))=((D.take k).any (fun y=>decide (y.1=t)) || decide (y.1=t)):=by
 obtain ⟨hk,rfl⟩:=List.getElem?_eq_some_iff.1 hy
 rw [List.take_succ_eq_append_getElem hk,List.any_append]
 simp
theorem joinW {P:Prop} {G Facts:Nat→World→Prop} (main:(∀ g W,Facts g W→G g W)→P) (rest:∀ g W,Facts g W→G g W):P:=main rest
theorem len_made {D:Out} {B:List Int} (h:MkIs D 0 B):B.length≤1048576:=by
 by_cases hn:D=[]
 ·rw [(h.nil hn).2];decide
 have h0:mkE0 D=0:=by
  by_cases c:mkE0 D=0
  ·exact c
  ·exact absurd (h.no c).1.symm c
 obtain ⟨R,t,p,u,fx,a,b⟩:=h.yes h0 hn
 rcases Nat.lt_or_ge 1048576 (lastB R t).length with hl | hl
 ·exact absurd (a hl).1 (by decide)
 ·rw [(b hl).2];exact hl
theorem tab_len {D:Syms} (hf:∀ y∈D,SyFits y.1 y.2) (h:mkErr D=0) (hn:D.length≤40):(mkT D).length≤640∧(mkN D).length≤10241∧Byt (mkT D)∧Byt (mkN D):=by
 have hm:∀ y∈D,mayS y.1 y.2=true:=by
  have:mayAll D=true:=by
   unfold mkErr at h
   by_cases c:mayAll D=true
   ·exact c
   ·rw [if_pos (by simpa using c)] at h;cases h
  unfold mayAll at this
  rwa [List.all_eq_true] at this
 unfold mkT mkN
 rw [if_pos h,if_pos h]
 have h1:=tabS_len D D.length
 have h2:=nmB_len_le (l:=D) (fun y hy=>(mayS_is (hm y hy)).2.1)
 exact ⟨by omega,by omega,tabS_byt _ _,nmB_byt fun y hy=>(hf y hy).name⟩
theorem at_kind {sl:Int} {x:Ex} (_hs : 0≤sl∧sl < 18446744073709551616) (hk:x.kind=1∨x.kind=4) (hv : 0≤x.value∧x.value < 4096) (a b c:Nat):IntKind.u64.wrap (atN (plSt a b c) x sl - sl)=4096 + x.value:=by
 unfold atN
 have hl:lowN (plSt a b c).segs=4096:=rfl
 rw [if_neg (by omega),if_pos hk,hl]
 simp only [IntKind.wrap_u64]
 omega
set_option maxRecDepth 20000 in
set_option maxHeartbeats 6400000 in
theorem walk (a0:Option Addr) (len0 cap0:Nat) (a1:Option Addr) (len1 cap1:Nat) (t:List Int) (sl:Int) (w:World)
  (w0:∃ D:Out,D.length=len0∧ExsAt w a0 D∧(∀ y∈D,ExFits y.1 y.2)∧len0≤cap0∧cap0≤9223372036854775807)
  (w1:∃ D:Syms,D.length=len1∧SysAt w a1 D∧(∀ y∈D,SyFits y.1 y.2)∧len1≤cap1∧cap1≤9223372036854775807)
  (ht:Byt t) (htm:t.length≤9223372036854775807) (hsl:(Lit.int .u64 sl).wf=true) :
  Calls Tryz.prog 5 #[.slice a0 len0 cap0,.slice a1 len1 cap1,.string (strOfNums t),.int .u64 sl] w fun e w'=>e=.returned (.bool true)∧Below w.heap.size w w':=by
 have hst:(strOfNums t).size=t.length:=strOfNums_size _
 have SL:=Lib.hid (show 0≤sl∧sl < 18446744073709551616 by have:=u64_range hsl;omega)
 have HT:=Lib.hid (And.intro ht htm)
 clear ht hsl
 obtain ⟨D,hD,EXS,fD,cD,mD⟩:=w0
 obtain ⟨Y,hY,SYS,fY,cY,mY⟩:=w1
 have K:=Lib.hid (fun V=>known11_any V)
 have BL:=Lib.hid (fun (w':World) (h:w.grownBy w' none)=>(below_grown h (Nat.le_refl _) (fun k e=>by cases e):Below w.heap.size w w'))
 by_cases h0 : 40 < len0
 ·have d0:decide ((40:Int) < (len0:Int))=true:=by simp;omega
  clear EXS SYS fD fY cD cY mD mY hD hY htm
  go_enter Tryz.func5,Tryz.ntmps5
  go_wp2_with fail
  refine (K.out _).mono ?_
  rintro e wz ⟨rfl,hg⟩
  have GZ:=Lib.hid (grown_trans (grown_refl w none) hg)
  clear hg
  go_wp2
  go_ret
  exact ⟨rfl,BL.out _ GZ.out⟩
 have d0:decide ((40:Int) < (len0:Int))=false:=by simp;omega
 by_cases h1 : 40 < len1
 ·have d1:decide ((40:Int) < (len1:Int))=true:=by simp;omega
  clear EXS SYS fD fY cD cY mD mY hD hY htm
  go_enter Tryz.func5,Tryz.ntmps5
  go_wp2_with fail
  refine (K.out _).mono ?_
  rintro e wz ⟨rfl,hg⟩
  have GZ:=Lib.hid (grown_trans (grown_refl w none) hg)
  clear hg
  go_wp2
  go_ret
  exact ⟨rfl,BL.out _ GZ.out⟩
 have d1:decide ((40:Int) < (len1:Int))=false:=by simp;omega
 by_cases h2 : 300 < t.length
 ·have d2:decide ((300:Int) < (t.length:Int))=true:=by simp;omega
  clear EXS SYS fD fY cD cY mD mY hD hY htm
  go_enter Tryz.func5,Tryz.ntmps5
  go_wp2_with fail
  refine (K.out _).mono ?_
  rintro e wz ⟨rfl,hg⟩
  have GZ:=Lib.hid (grown_trans (grown_refl w none) hg)
  clear hg
  go_wp2
  go_ret
  exact ⟨rfl,BL.out _ GZ.out⟩
 have d2:decide ((300:Int) < (t.length:Int))=false:=by simp;omega
 have FD:=Lib.hid (show ExsFit D from ⟨fun y hy=>(fD y hy).name,fun y hy=>(fD y hy).other,fun y hy=>(fD y hy).value,fun y hy=>(fD y hy).resolver,fun y hy=>(fD y hy).ordinal⟩)
 have FY:=Lib.hid fY
 have RB:=Lib.hid (refMake_any hD FD.out (by omega) (fun y hy=>⟨(fD y hy).len,(fD y hy).olen⟩) cD mD EXS)
 have RY:=Lib.hid (fun (V:World) (hV:w.grownBy V none)=>refMake10_any (w:=V) (c:=cap1) hY (SYS.grown hV) (by omega) fY)
 have SO:=Lib.hid (fun (V:World) (hV:w.grownBy V none)=>sorted_any len0 D a0 cap0 V hD (by omega) cD mD (EXS.grown hV))
 have HD:=Lib.hid hD
 have HY:=Lib.hid (And.intro hY (show len1≤40 by omega))
 clear fD fY hY EXS SYS cD cY mD mY hD h0 h1 htm
 go_enter Tryz.func5,Tryz.ntmps5
 go_upto_region 4 with (go_at_call 11;refine RB.out.mono ?_;rintro e w3 ⟨⟨E,B,q,c,rfl,hm,ho⟩,hg⟩)
 have G3:=Lib.hid hg
 have BT:=Lib.hid (IsBytes.of_own rfl ho)
 have HM:=Lib.hid hm
 clear hm ho RB
 go_upto_region 5 with (go_at_call 23;refine (RY.out _ hg).mono ?_;rintro e w4 ⟨⟨qa,ca,qb,cb,rfl,ba,bb,c1,c2,c3,c4⟩,hg4⟩)
 have G4:=Lib.hid (grown_trans G3.out hg4)
 have BT4:=Lib.hid (BT.out.kept hg4 (by simp))
 clear c1 c2 c3 c4 hg hg4 RY BT
 by_cases hE:E=0
 rotate_left
 ·have e1:decide (E=0)=false:=decide_eq_false hE
  generalize mkErr Y=F at *
  go_wp2_with fail
  refine (K.out _).mono ?_
  rintro e wz ⟨rfl,hg⟩
  have GZ:=Lib.hid (grown_trans G4.out hg)
  clear hg
  go_wp2
  go_ret
  exact ⟨rfl,BL.out _ GZ.out⟩
 subst hE
 by_cases hF:mkErr Y=0
 rotate_left
 ·have e1:decide (mkErr Y=0)=false:=decide_eq_false hF
  generalize mkErr Y=F at *
  go_wp2_with fail
  refine (K.out _).mono ?_
  rintro e wz ⟨rfl,hg⟩
  have GZ:=Lib.hid (grown_trans G4.out hg)
  clear hg
  go_wp2
  go_ret
  exact ⟨rfl,BL.out _ GZ.out⟩
 have TL:=Lib.hid (tab_len FY.out hF (by rw [HY.out.1];exact HY.out.2))
 have TM:=Lib.hid (len_made HM.out)
 have TB:=Lib.hid (byt_made HM.out FD.out)
 obtain ⟨TY,hTY⟩:∃ l,l=mkT Y:=⟨_,rfl⟩
 obtain ⟨NY,hNY⟩:∃ l,l=mkN Y:=⟨_,rfl⟩
 rw [← hTY,← hNY] at TL
 rw [← hTY] at ba ⊢
 rw [← hNY] at bb ⊢
 rw [hF]
 obtain ⟨nt,hnt⟩:∃ n,n=B.length:=⟨_,rfl⟩
 obtain ⟨nb,hnb⟩:∃ n,n=TY.length:=⟨_,rfl⟩
 obtain ⟨ns,hns⟩:∃ n,n=NY.length:=⟨_,rfl⟩
 rw [← hnt] at TM
 rw [← hnb,← hns] at TL
 rw [← hnt,← hnb,← hns]
 have NT:=Lib.hid hnt.symm
 have NB:=Lib.hid hnb.symm
 have NS:=Lib.hid hns.symm
 have PL:=Lib.hid (plain_any (T:=B) (B:=TY) (S:=NY) NT.out NB.out NS.out BT4.out ba bb ⟨by have:=TM.out;omega,by have:=TL.out.1;omega,by have:=TL.out.2.1;omega⟩ TB.out TL.out.2.2.1 TL.out.2.2.2)
 clear hTY hNY hnt hnb hns hF ba bb BT4
 go_upto_region 8 with (first
  |( go_at_call 24;refine PL.out.mono ?_;rintro e w5 ⟨⟨q5,c5,x5,qs5,qd5,rfl,hi⟩,hg⟩;rw [NT.out,NB.out,NS.out] at hi ⊢;have I5:=Lib.hid (hi w5 none (grown_refl _ _) (by simp));have S5:=Lib.hid hg;have G5:=Lib.hid (grown_trans G4.out hg);clear hi hg)
  |( refine wpList_alloc rfl 48 _ rfl (img_alloc _) ?_;skip)
  |( refine wpList_store_img (h:=⟨2,0,0⟩) (s:=plSt nt nb ns) (sv:=.slice qs5 1 1) (dv:=.slice qd5 1 1) rfl (.tmp 15) (.tmp 67) rfl (by kernel_rfl) (by kernel_rfl) (heap_alloc_new _ _) ⟨_,_,_,rfl⟩ ⟨_,_,_,rfl⟩ ?_))
 obtain ⟨M,hM⟩:∃ M,M=w5.heap.size:=⟨_,rfl⟩
 obtain ⟨w6,hw6⟩:∃ V,V=(w5.alloc (.cells (imgArr Hx.zero St.zero (.slice none 0 0) (.slice none 0 0)) 48 (0,0))).setRow w5.heap.size (imgArr ⟨2,0,0⟩ (plSt nt nb ns) (.slice qs5 1 1) (.slice qd5 1 1)):=⟨_,rfl⟩
 have i6:ImgAt w6 M ⟨2,0,0⟩ (plSt nt nb ns) (.slice qs5 1 1) (.slice qd5 1 1):=by
  rw [hw6,hM]
  exact setRow_heap _ _ _ _ _ _ (heap_alloc_new w5 _)
 have g6:w5.grownBy w6 none:=by
  rw [hw6]
  exact grown_new (grown1 _ _) (grown_setRow _ _) (Nat.le_refl _)
 rw [← hw6,← hM]
 have I6:=Lib.hid i6
 have G6:=Lib.hid (grown_trans G5.out g6)
 have X6:=Lib.hid (I5.out.grown g6)
 have L5:=Lib.hid (show (plB B TY NY).length=4096 + nt + nb + ns by
  unfold plB
  simp only [List.length_append,List.length_replicate,NT.out,NB.out,NS.out])
 have SV:=Lib.hid (fun (V:World) (hV:w6.grownBy V none)=>SO.out V (grown_trans G6.out hV))
 obtain ⟨⟨NE,L⟩,hR⟩:∃ R,R=expAll (plB B TY NY) (plSt nt nb ns) 1:=⟨_,rfl⟩
 have HR:=Lib.hid hR.symm
 have EA:=Lib.hid (show Calls Tryz.prog 17 #[.slice q5 (4096 + nt + nb + ns) c5,imgV ⟨2,0,0⟩ (plSt nt nb ns) (.slice qs5 1 1) (.slice qd5 1 1)] w6 fun e w'=>ExsO w6 w' (NE,L) e by
  have:=exportAll_any (h:=⟨2,0,0⟩) (qd:=qd5) (cd:=1) X6.out L5.out
  rw [HR.out] at this
  exact this)
 have EB:=Lib.hid (show ∀ V,w6.grownBy V none→Calls Tryz.prog 18 #[.slice q5 (4096 + nt + nb + ns) c5,imgV ⟨2,0,0⟩ (plSt nt nb ns) (.slice qs5 1 1) (.slice qd5 1 1)] V fun e w'=>ExsO V w' (NE,L) e from fun V hV=>by
  have:=refAll11_any (h:=⟨2,0,0⟩) (qd:=qd5) (cd:=1) (X6.out.grown hV) L5.out
  rw [HR.out] at this
  exact this)
 have EF:=Lib.hid (show ∀ u,Byt u→u.length≤9223372036854775807→∀ V,w6.grownBy V none→Calls Tryz.prog 19 #[.slice q5 (4096 + nt + nb + ns) c5,imgV ⟨2,0,0⟩ (plSt nt nb ns) (.slice qs5 1 1) (.slice qd5 1 1),.string (strOfNums u)] V fun e w'=>FiO V w' u (expFind (plB B TY NY) (plSt nt nb ns) 1 u) e from fun u hu hl V hV=>exportFind_any (h:=⟨2,0,0⟩) (qd:=qd5) (cd:=1) (X6.out.grown hV) L5.out u hu hl)
 have EAT:=Lib.hid (show ∀ (nm:ByteArray) (x:Ex) V,w6.grownBy V none→Calls Tryz.prog 21 #[imgV ⟨2,0,0⟩ (plSt nt nb ns) (.slice qs5 1 1) (.slice qd5 1 1),.agg #[.string nm,.int .i64 x.kind,.bool x.weak,.int .u64 x.value,.int .u64 x.resolver,.int .u64 x.ordinal,.string (strOfNums x.other)],.int .u64 sl] V fun e w'=>e=.returned (.int .u64 (atN (plSt nt nb ns) x sl))∧V.grownBy w' none from fun nm x V hV=>At_any (h:=⟨2,0,0⟩) (dv:=.slice qd5 1 1) (X6.out.grown hV).img nm x sl)
 have YB:=Lib.hid (X6.out.byt)
 clear hR hM hw6 i6 g6 PL I5 S5 G5 SO
 go_upto_region 9 with (first
  |( refine wpList_load_imgI rfl (.tmp 15) rfl (by kernel_rfl) I6.out ?_)
  |( go_at_call 17;refine EA.out.mono ?_;rintro e w7 ⟨⟨q7,c7,rfl,hr7,hl7,hc7⟩,hg⟩))
 try simp only [] at hr7 hl7 ⊢
 have P7:=Lib.hid hg
 have R7:=Lib.hid hr7
 have C7:=Lib.hid (And.intro hl7 hc7)
 have I7:=Lib.hid (I6.out.kept hg (by simp))
 clear hg hr7 hl7 hc7 EA
 go_upto_region 10 with (first
  |( refine wpList_load_imgI rfl (.tmp 15) rfl (by kernel_rfl) I7.out ?_)
  |( go_at_call 18;refine (EB.out w7 P7.out).mono ?_;rintro e w8 ⟨⟨q8,c8,rfl,hr8,hl8,hc8⟩,hg⟩))
 try simp only [] at hr8 hl8 ⊢
 have P8:=Lib.hid (grown_trans P7.out hg)
 have R8:=Lib.hid hr8
 have R78:=Lib.hid (R7.out.grown hg)
 clear hg hr8 hl8 hc8 EB I7
 obtain ⟨N,hN⟩:∃ N,N=L.length:=⟨_,rfl⟩
 rw [← hN] at C7 ⊢
 have SM:=Lib.hid (fun (V:World) (hV:w8.grownBy V none)=>same9_any L N hN.symm q7 q8 c7 c8 (by have:=C7.out;omega) (R78.out.grown hV) (R8.out.grown hV) (w:=V))
 have HN:=Lib.hid hN.symm
 clear hN
 go_upto_region 12 with (first
  |( go_at_call 14;refine (SM.out _ (grown_refl _ _)).mono ?_;rintro e w9 ⟨rfl,hg⟩;have P9:=Lib.hid (grown_trans P8.out hg);have S9:=Lib.hid hg;clear hg))
 by_cases hNE:NE=0
 rotate_left
 ·have e1:decide (NE=0)=false:=decide_eq_false hNE
  clear EF EAT YB SM
  by_cases hl0 : 0 < len0
  · have e2:decide ((0:Int) < (len0:Int))=true:=by simp;omega
    go_wp2_with fail
    refine (K.out _).mono ?_
    rintro e wz ⟨rfl,hg⟩
    have GZ:=Lib.hid (grown_trans (grown_trans G6.out P9.out) hg)
    clear hg
    go_wp2
    go_ret
    exact ⟨rfl,BL.out _ GZ.out⟩
  · have e2:decide ((0:Int) < (len0:Int))=false:=by simp;omega
    go_wp2_with fail
    refine (K.out _).mono ?_
    rintro e wz ⟨rfl,hg⟩
    have GZ:=Lib.hid (grown_trans (grown_trans G6.out P9.out) hg)
    clear hg
    go_wp2
    go_ret
    exact ⟨rfl,BL.out _ GZ.out⟩
 subst hNE
 have AI:=Lib.hid (all_is YB.out HR.out)
 have AM:=Lib.hid (fun (R:Out) (hn:D≠[]) (hs:Srt R) (hp:R.Perm D)=>all_made (S:=NY) (B:=TY) (L:=L) HM.out FD.out hn (by rw [NT.out,NB.out,NS.out];exact AI.out.raw) hs hp)
 go_cut [102] from 89 to 102 (fun c wx=>c=.bool false∧w8.grownBy wx none)
 case first =>
  clear EF EAT
  by_cases hl0 : 0 < len0
  · have e2:decide ((0:Int) < (len0:Int))=true:=by simp;omega
    have DN:=Lib.hid (show D≠[] from fun e=>by have:=HD.out;rw [e] at this;simp at this;omega)
    have R79:=Lib.hid (R78.out.grown S9.out)
    clear SM R7 R8 R78
    go_wp2_with (go_at_call 25;refine (SV.out _ P9.out).mono ?_;rintro e wa ⟨⟨R,va,rfl,ho,hp,hs⟩,hg⟩;obtain ⟨qa,ca,rfl⟩:=own_slice ho;obtain rfl:=AM.out R DN.out hs hp;have RA:=Lib.hid (RowEx.of ho);have R7A:=Lib.hid (R79.out.grown hg);have PA:=Lib.hid (grown_trans S9.out hg);rw [HN.out];clear ho hg)
    refine (same9_any L N HN.out q7 qa c7 ca (by have:=C7.out;omega) R7A.out RA.out).mono ?_
    rintro e wb ⟨rfl,hg⟩
    have PB:=Lib.hid (grown_trans PA.out hg)
    clear hg
    go_wp2_with fail
    go_meet
    exact ⟨rfl,PB.out⟩
  · have e2:decide ((0:Int) < (len0:Int))=false:=by simp;omega
    go_wp2_with fail
    go_meet
    exact ⟨rfl,S9.out⟩
 case rest =>
  obtain ⟨rfl,gc⟩:=hcut
  have PC:=Lib.hid (grown_trans P8.out gc)
  have RC:=Lib.hid (R78.out.grown gc)
  have IC:=Lib.hid (I6.out.kept PC.out (by simp))
  clear gc SM SV AM R7 R8 R78 S9 P8 P9 P7
  go_upto_region 16 with fail
  go_wp2_with fail
  go_loopw [20,21] (fun th i wr=>MeL wc wr L t N th i) (fun _ i _=>N - (intOf i).toNat)
  case atStart=>exact ⟨⟨0,Nat.zero_le _,rfl,rfl⟩,grown_refl _ _⟩
  case round =>
    obtain ⟨⟨k,hk,rfl,rfl⟩,hg⟩:=hrel
    by_cases hlt:k < N
    · obtain ⟨y,hy⟩:∃ y,L[k]?=some y:=⟨_,List.getElem?_eq_getElem (by rw [HN.out];exact hlt)⟩
      have hNb:N≤9223372036854775807:=by have:=C7.out;omega
      have ym:y∈L:=List.mem_of_getElem? hy
      have yt:=AI.out.told y ym
      have GR:=Lib.hid (grown_trans PC.out hg)
      have GC:=Lib.hid hg
      have RW:=RC.out.grown hg
      obtain ⟨g7,rfl,a0,a1,a2,a3,a4,a5,a6⟩:=RW.at hy
      have FN:=Lib.hid (show ∀ V,wr.grownBy V none→Calls Tryz.prog 19 #[.slice q5 (4096 + nt + nb + ns) c5,imgV ⟨2,0,0⟩ (plSt nt nb ns) (.slice qs5 1 1) (.slice qd5 1 1),.string (strOfNums y.1)] V fun e w'=>e=.returned (.tuple #[.agg #[.string (strOfNums y.1),.int .i64 y.2.kind,.bool y.2.weak,.int .u64 y.2.value,.int .u64 y.2.resolver,.int .u64 y.2.ordinal,.string (strOfNums y.2.other)],.bool true,.int .i64 0])∧V.grownBy w' none from fun V hV=>(EF.out y.1 yt.1 (by have:=yt.2;omega) V (grown_trans GR.out hV)).mono fun e w' h=>⟨by have:=h.ret;rw [AI.out.of_mem ym] at this;exact this,h.grown⟩)
      have GD:=Lib.hid (show wr.grownBy wr.drew none from grown_drewN (grown_refl _ _) 1)
      have KI:=Lib.hid (fun (V:World) (hV:wr.grownBy V none)=>run_loadIm (I6.out.kept (grown_trans GR.out hV) (by simp)))
      have KC:=Lib.hid (fun (V:World) (hV:wr.grownBy V none)=>hV.cell a0 (by simp))
      clear RW hg
      go_upto_region 20 with fail
      clear a0 a1 a2 a3 a4 a5 a6
      apply joinW (Facts:=fun X W=>wr.grownBy W none∧ExAt W X (strOfNums y.1) y.2)
      case main =>
       intro REST
       have RS:=Lib.hid REST
       clear REST
       refine wp_region_held_drew (S:=fun V=>wr.grownBy V none) (by kernel_rfl) GD.out (fun hS=>?_)
       refine wpAnyH_take (i:=0) (oi:=⟨some 113,_,_,_,_,_⟩) (v:=Value.slice q5 (4096 + nt + nb + ns) c5) rfl (by kernel_rfl) (by kernel_rfl) (by kernel_rfl) (fun _ _ _ h=>h) (Or.inl ⟨by rfl,fun V hV=>?_⟩) hS ?_
       ·go_simp
       try simp only [Act.put,List.setIfInBounds_toArray,List.set_cons_zero,List.set_cons_succ]
       refine wpAnyH_take (i:=1) (oi:=⟨some 114,_,_,_,_,_⟩) (v:=imgV ⟨2,0,0⟩ (plSt nt nb ns) (.slice qs5 1 1) (.slice qd5 1 1)) rfl (by kernel_rfl) (by kernel_rfl) (by kernel_rfl) (fun _ _ _ h=>h) (Or.inl ⟨by rfl,fun V hV=>?_⟩) hS ?_
       ·(exact load_in rfl rfl (KI.out V hV))
       try simp only [Act.put,List.setIfInBounds_toArray,List.set_cons_zero,List.set_cons_succ]
       refine wpAnyH_take (i:=2) (oi:=⟨some 115,_,_,_,_,_⟩) (v:=Value.slice (some ⟨g7,0,none⟩) N c7) rfl (by kernel_rfl) (by kernel_rfl) (by kernel_rfl) (fun _ _ _ h=>h) (Or.inl ⟨by rfl,fun V hV=>?_⟩) hS ?_
       ·go_simp
       try simp only [Act.put,List.setIfInBounds_toArray,List.set_cons_zero,List.set_cons_succ]
       refine wpAnyH_take (i:=3) (oi:=⟨some 116,_,_,_,_,_⟩) (v:=Value.int .i64 (k:Int)) rfl (by kernel_rfl) (by kernel_rfl) (by kernel_rfl) (fun _ _ _ h=>h) (Or.inl ⟨by rfl,fun V hV=>?_⟩) hS ?_
       ·go_simp
       try simp only [Act.put,List.setIfInBounds_toArray,List.set_cons_zero,List.set_cons_succ]
       refine wpAnyH_take (i:=4) (oi:=⟨some 117,_,_,_,_,_⟩) (v:=Value.pointer (some ⟨g7,k * 7,none⟩)) rfl (by kernel_rfl) (by kernel_rfl) (by kernel_rfl) (fun _ _ _ h=>h) (Or.inl ⟨by rfl,fun V hV=>?_⟩) hS ?_
       ·go_simp
       try simp only [Act.put,List.setIfInBounds_toArray,List.set_cons_zero,List.set_cons_succ]
       refine wpAnyH_take (i:=5) (oi:=⟨some 118,_,_,_,_,_⟩) (v:=Value.pointer (some ⟨g7,k * 7,none⟩)) rfl (by kernel_rfl) (by kernel_rfl) (by kernel_rfl) (fun _ _ _ h=>h) (Or.inl ⟨by rfl,fun V hV=>?_⟩) hS ?_
       ·go_simp
       try simp only [Act.put,List.setIfInBounds_toArray,List.set_cons_zero,List.set_cons_succ]
       refine wpAnyH_take (i:=6) (oi:=⟨some 119,_,_,_,_,_⟩) (v:=Value.string (strOfNums y.1)) rfl (by kernel_rfl) (by kernel_rfl) (by kernel_rfl) (fun _ _ _ h=>h) (Or.inl ⟨by rfl,fun V hV=>?_⟩) hS ?_
       ·(have c0:=KC.out V hV;go_simp)
       try simp only [Act.put,List.setIfInBounds_toArray,List.set_cons_zero,List.set_cons_succ]
       refine wpAnyH_ready (rs:=[7,12]) (by kernel_rfl) (by simp) ?_
       refine AllReadyH.cons (o:=⟨some 120,_,_,_,_,_⟩) rfl (fun K' hK'=>?_) (AllReadyH.cons (o:=⟨some 22,_,_,_,_,_⟩) rfl (fun K' hK'=>?_) AllReadyH.nil)
       ·go_simp
        go_at_call 19
        refine (FN.out _ hS).mono ?_
        rintro e wc ⟨rfl,hg⟩
        have hS':=grown_trans hS hg
        refine hK'.out _ _ hS' (fun hS=>?_)
        clear hK' K' hS' hg
        try simp only [Act.put,List.setIfInBounds_toArray,List.set_cons_zero,List.set_cons_succ]
        refine wpAnyH_take (i:=8) (oi:=⟨some 112,_,_,_,_,_⟩) (v:=Value.tuple #[.agg #[.string (strOfNums y.1),.int .i64 y.2.kind,.bool y.2.weak,.int .u64 y.2.value,.int .u64 y.2.resolver,.int .u64 y.2.ordinal,.string (strOfNums y.2.other)],.bool true,.int .i64 0]) rfl (by kernel_rfl) (by kernel_rfl) (by kernel_rfl) (fun _ _ _ h=>h) (Or.inl ⟨by rfl,fun V hV=>?_⟩) hS ?_
        ·go_simp
        try simp only [Act.put,List.setIfInBounds_toArray,List.set_cons_zero,List.set_cons_succ]
        refine wpAnyH_take (i:=9) (oi:=⟨some 121,_,_,_,_,_⟩) (v:=Value.agg #[.string (strOfNums y.1),.int .i64 y.2.kind,.bool y.2.weak,.int .u64 y.2.value,.int .u64 y.2.resolver,.int .u64 y.2.ordinal,.string (strOfNums y.2.other)]) rfl (by kernel_rfl) (by kernel_rfl) (by kernel_rfl) (fun _ _ _ h=>h) (Or.inl ⟨by rfl,fun V hV=>?_⟩) hS ?_
        ·go_simp
        try simp only [Act.put,List.setIfInBounds_toArray,List.set_cons_zero,List.set_cons_succ]
        refine wpAnyH_take (i:=10) (oi:=⟨some 122,_,_,_,_,_⟩) (v:=Value.bool true) rfl (by kernel_rfl) (by kernel_rfl) (by kernel_rfl) (fun _ _ _ h=>h) (Or.inl ⟨by rfl,fun V hV=>?_⟩) hS ?_
        ·go_simp
        try simp only [Act.put,List.setIfInBounds_toArray,List.set_cons_zero,List.set_cons_succ]
        refine wpAnyH_take (i:=11) (oi:=⟨some 123,_,_,_,_,_⟩) (v:=Value.int .i64 0) rfl (by kernel_rfl) (by kernel_rfl) (by kernel_rfl) (fun _ _ _ h=>h) (Or.inl ⟨by rfl,fun V hV=>?_⟩) hS ?_
        ·go_simp
        try simp only [Act.put,List.setIfInBounds_toArray,List.set_cons_zero,List.set_cons_succ]
        refine wpAnyH_ready (rs:=[12]) (by kernel_rfl) (by simp) ?_
        refine AllReadyH.cons (o:=⟨some 22,_,_,_,_,_⟩) rfl (fun K' hK'=>?_) AllReadyH.nil
        go_simp
        have r5:ExAt (wc.alloc (.cells #[.string ⟨#[]⟩,.int .i64 0,.bool false,.int .u64 0,.int .u64 0,.int .u64 0,.string ⟨#[]⟩] 28)) wc.heap.size ⟨#[]⟩ Ex.zero:=new_ex wc
        have g5:wc.grownBy (wc.alloc (.cells #[.string ⟨#[]⟩,.int .i64 0,.bool false,.int .u64 0,.int .u64 0,.int .u64 0,.string ⟨#[]⟩] 28)) none:=grown1 wc _
        obtain ⟨wn,hwn⟩:∃ W,W=wc.alloc (.cells #[.string ⟨#[]⟩,.int .i64 0,.bool false,.int .u64 0,.int .u64 0,.int .u64 0,.string ⟨#[]⟩] 28):=⟨_,rfl⟩
        obtain ⟨X,hX⟩:∃ X,X=wc.heap.size:=⟨_,rfl⟩
        rw [← hwn] at r5 g5 ⊢
        rw [← hX] at r5 ⊢
        have HX:=Lib.hid (show wr.heap.size≤X by rw [hX];exact hS.size)
        have hS':=grown_trans hS g5
        refine hK'.out _ _ hS' (fun hS=>?_)
        clear hK' K' g5 hwn hX hS'
        try simp only [Act.put,List.setIfInBounds_toArray,List.set_cons_zero,List.set_cons_succ]
        have z0:=r5.fz 0
        have z1:=r5.fz 1
        have z2:=r5.fz 2
        have z3:=r5.fz 3
        have z4:=r5.fz 4
        have z5:=r5.fz 5
        have z6:=r5.fz 6
        have e0:=r5.c
        have l5:=r5.lt
        refine wpAnyH_ready (rs:=[13]) (by kernel_rfl) (by simp) ?_
        refine AllReadyH.cons (o:=⟨none,_,_,_,_,_⟩) rfl (fun K' hK'=>?_) AllReadyH.nil
        go_simp
        have hS':=grown_opt hS (grown_put7 (grown_refl wn (some X)) (.string (strOfNums y.1)) (.int .i64 y.2.kind) (.bool y.2.weak) (.int .u64 y.2.value) (.int .u64 y.2.resolver) (.int .u64 y.2.ordinal) (.string (strOfNums y.2.other))) (fun g e=>by injection e with e;have:=HX.out;omega)
        have r6:=r5.put (strOfNums y.1) y.2
        refine hK'.out _ _ hS' (fun hS=>?_)
        clear hK' K' hS'
        try simp only [Act.put,List.setIfInBounds_toArray,List.set_cons_zero,List.set_cons_succ]
        refine wpAnyH_take (i:=14) (oi:=⟨some 23,_,_,_,_,_⟩) (v:=Value.bool true) rfl (by kernel_rfl) (by kernel_rfl) (by kernel_rfl) (fun _ _ _ h=>h) (Or.inl ⟨by rfl,fun V hV=>?_⟩) hS ?_
        ·go_simp
        try simp only [Act.put,List.setIfInBounds_toArray,List.set_cons_zero,List.set_cons_succ]
        refine wpAnyH_take (i:=15) (oi:=⟨some 24,_,_,_,_,_⟩) (v:=Value.int .i64 0) rfl (by kernel_rfl) (by kernel_rfl) (by kernel_rfl) (fun _ _ _ h=>h) (Or.inl ⟨by rfl,fun V hV=>?_⟩) hS ?_
        ·go_simp
        try simp only [Act.put,List.setIfInBounds_toArray,List.set_cons_zero,List.set_cons_succ]
        refine wpAnyH_done (by kernel_rfl) ?_ _
        obtain ⟨wf,hwf⟩:∃ W,W=((((((wn.setCell ⟨X,0,none⟩ (.string (strOfNums y.1))).setCell ⟨X,1,none⟩ (.int .i64 y.2.kind)).setCell ⟨X,2,none⟩ (.bool y.2.weak)).setCell ⟨X,3,none⟩ (.int .u64 y.2.value)).setCell ⟨X,4,none⟩ (.int .u64 y.2.resolver)).setCell ⟨X,5,none⟩ (.int .u64 y.2.ordinal)).setCell ⟨X,6,none⟩ (.string (strOfNums y.2.other)):=⟨_,rfl⟩
        rw [← hwf] at hS r6 ⊢
        have FA:=Lib.hid (And.intro hS r6)
        clear hwf z0 z1 z2 z3 z4 z5 z6 e0 l5 r5 hS r6
        exact RS.out X wf FA.out
       ·go_simp
        have r5:ExAt ((wr.alloc (.cells #[.string ⟨#[]⟩,.int .i64 0,.bool false,.int .u64 0,.int .u64 0,.int .u64 0,.string ⟨#[]⟩] 28)).drew) wr.heap.size ⟨#[]⟩ Ex.zero:=new_ex wr
        have g5:wr.grownBy ((wr.alloc (.cells #[.string ⟨#[]⟩,.int .i64 0,.bool false,.int .u64 0,.int .u64 0,.int .u64 0,.string ⟨#[]⟩] 28)).drew) none:=grown_drewN (grown1 wr (.cells #[.string ⟨#[]⟩,.int .i64 0,.bool false,.int .u64 0,.int .u64 0,.int .u64 0,.string ⟨#[]⟩] 28)) 1
        obtain ⟨wn,hwn⟩:∃ W,W=(wr.alloc (.cells #[.string ⟨#[]⟩,.int .i64 0,.bool false,.int .u64 0,.int .u64 0,.int .u64 0,.string ⟨#[]⟩] 28)).drew:=⟨_,rfl⟩
        obtain ⟨X,hX⟩:∃ X,X=wr.heap.size:=⟨_,rfl⟩
        rw [← hwn] at r5 g5 ⊢
        rw [← hX] at r5 ⊢
        have HX:=Lib.hid (show wr.heap.size≤X by rw [hX];exact Nat.le_refl _)
        refine hK'.out _ _ g5 (fun hS=>?_)
        clear hK' K' g5 hwn hX
        try simp only [Act.put,List.setIfInBounds_toArray,List.set_cons_zero,List.set_cons_succ]
        refine wpAnyH_ready (rs:=[7]) (by kernel_rfl) (by simp) ?_
        refine AllReadyH.cons (o:=⟨some 120,_,_,_,_,_⟩) rfl (fun K' hK'=>?_) AllReadyH.nil
        go_simp
        go_at_call 19
        refine (FN.out _ hS).mono ?_
        rintro e wc ⟨rfl,hg⟩
        have hS':=grown_trans hS hg
        have r5:=r5.kept hg (by simp)
        refine hK'.out _ _ hS' (fun hS=>?_)
        clear hK' K' hS' hg
        try simp only [Act.put,List.setIfInBounds_toArray,List.set_cons_zero,List.set_cons_succ]
        generalize wc=wn at *
        refine wpAnyH_take (i:=8) (oi:=⟨some 112,_,_,_,_,_⟩) (v:=Value.tuple #[.agg #[.string (strOfNums y.1),.int .i64 y.2.kind,.bool y.2.weak,.int .u64 y.2.value,.int .u64 y.2.resolver,.int .u64 y.2.ordinal,.string (strOfNums y.2.other)],.bool true,.int .i64 0]) rfl (by kernel_rfl) (by kernel_rfl) (by kernel_rfl) (fun _ _ _ h=>h) (Or.inl ⟨by rfl,fun V hV=>?_⟩) hS ?_
        ·go_simp
        try simp only [Act.put,List.setIfInBounds_toArray,List.set_cons_zero,List.set_cons_succ]
        refine wpAnyH_take (i:=9) (oi:=⟨some 121,_,_,_,_,_⟩) (v:=Value.agg #[.string (strOfNums y.1),.int .i64 y.2.kind,.bool y.2.weak,.int .u64 y.2.value,.int .u64 y.2.resolver,.int .u64 y.2.ordinal,.string (strOfNums y.2.other)]) rfl (by kernel_rfl) (by kernel_rfl) (by kernel_rfl) (fun _ _ _ h=>h) (Or.inl ⟨by rfl,fun V hV=>?_⟩) hS ?_
        ·go_simp
        try simp only [Act.put,List.setIfInBounds_toArray,List.set_cons_zero,List.set_cons_succ]
        refine wpAnyH_take (i:=10) (oi:=⟨some 122,_,_,_,_,_⟩) (v:=Value.bool true) rfl (by kernel_rfl) (by kernel_rfl) (by kernel_rfl) (fun _ _ _ h=>h) (Or.inl ⟨by rfl,fun V hV=>?_⟩) hS ?_
        ·go_simp
        try simp only [Act.put,List.setIfInBounds_toArray,List.set_cons_zero,List.set_cons_succ]
        refine wpAnyH_take (i:=11) (oi:=⟨some 123,_,_,_,_,_⟩) (v:=Value.int .i64 0) rfl (by kernel_rfl) (by kernel_rfl) (by kernel_rfl) (fun _ _ _ h=>h) (Or.inl ⟨by rfl,fun V hV=>?_⟩) hS ?_
        ·go_simp
        try simp only [Act.put,List.setIfInBounds_toArray,List.set_cons_zero,List.set_cons_succ]
        have z0:=r5.fz 0
        have z1:=r5.fz 1
        have z2:=r5.fz 2
        have z3:=r5.fz 3
        have z4:=r5.fz 4
        have z5:=r5.fz 5
        have z6:=r5.fz 6
        have e0:=r5.c
        have l5:=r5.lt
        refine wpAnyH_ready (rs:=[13]) (by kernel_rfl) (by simp) ?_
        refine AllReadyH.cons (o:=⟨none,_,_,_,_,_⟩) rfl (fun K' hK'=>?_) AllReadyH.nil
        go_simp
        have hS':=grown_opt hS (grown_put7 (grown_refl wn (some X)) (.string (strOfNums y.1)) (.int .i64 y.2.kind) (.bool y.2.weak) (.int .u64 y.2.value) (.int .u64 y.2.resolver) (.int .u64 y.2.ordinal) (.string (strOfNums y.2.other))) (fun g e=>by injection e with e;have:=HX.out;omega)
        have r6:=r5.put (strOfNums y.1) y.2
        refine hK'.out _ _ hS' (fun hS=>?_)
        clear hK' K' hS'
        try simp only [Act.put,List.setIfInBounds_toArray,List.set_cons_zero,List.set_cons_succ]
        refine wpAnyH_take (i:=14) (oi:=⟨some 23,_,_,_,_,_⟩) (v:=Value.bool true) rfl (by kernel_rfl) (by kernel_rfl) (by kernel_rfl) (fun _ _ _ h=>h) (Or.inl ⟨by rfl,fun V hV=>?_⟩) hS ?_
        ·go_simp
        try simp only [Act.put,List.setIfInBounds_toArray,List.set_cons_zero,List.set_cons_succ]
        refine wpAnyH_take (i:=15) (oi:=⟨some 24,_,_,_,_,_⟩) (v:=Value.int .i64 0) rfl (by kernel_rfl) (by kernel_rfl) (by kernel_rfl) (fun _ _ _ h=>h) (Or.inl ⟨by rfl,fun V hV=>?_⟩) hS ?_
        ·go_simp
        try simp only [Act.put,List.setIfInBounds_toArray,List.set_cons_zero,List.set_cons_succ]
        refine wpAnyH_done (by kernel_rfl) ?_ _
        obtain ⟨wf,hwf⟩:∃ W,W=((((((wn.setCell ⟨X,0,none⟩ (.string (strOfNums y.1))).setCell ⟨X,1,none⟩ (.int .i64 y.2.kind)).setCell ⟨X,2,none⟩ (.bool y.2.weak)).setCell ⟨X,3,none⟩ (.int .u64 y.2.value)).setCell ⟨X,4,none⟩ (.int .u64 y.2.resolver)).setCell ⟨X,5,none⟩ (.int .u64 y.2.ordinal)).setCell ⟨X,6,none⟩ (.string (strOfNums y.2.other)):=⟨_,rfl⟩
        rw [← hwf] at hS r6 ⊢
        have FA:=Lib.hid (And.intro hS r6)
        clear hwf z0 z1 z2 z3 z4 z5 z6 e0 l5 r5 hS r6
        exact RS.out X wf FA.out
      case rest =>
       intro X wf ⟨gf,xf⟩
       obtain ⟨g',e,d0,d1,d2,d3,d4,d5,d6⟩:=(RC.out.grown (grown_trans GC.out gf)).at hy
       injection e with e
       injection e with e
       subst e
       obtain ⟨c0,c1,c2,c3,c4,c5',c6⟩:=xf.c
       have GF:=Lib.hid gf
       have XF:=Lib.hid xf
       clear gf xf FN KI KC GD
       go_wp2_with fail
       go_quiet (fail)
       have gq:=grown_drewN (grown_refl wf none) nq
       obtain ⟨wq,hwq⟩:∃ W,W=wf.drewN nq:=⟨_,rfl⟩
       rw [← hwq] at gq ⊢
       have XQ:=XF.out.kept gq (by simp)
       have GQ:=Lib.hid (grown_trans GF.out gq)
       have IQ:=Lib.hid (I6.out.kept (grown_trans GR.out GQ.out) (by simp))
       clear d0 d1 d2 d3 d4 d5 d6 c0 c1 c2 c3 c4 c5' c6 hwq
       obtain ⟨c0,c1,c2,c3,c4,c5',c6⟩:=XQ.c
       have XH:=Lib.hid XQ
       obtain ⟨AT,hAT⟩:∃ a,a=atN (plSt nt nb ns) y.2 sl:=⟨_,rfl⟩
       have CA:=Lib.hid (EAT.out (strOfNums y.1) y.2 wq (grown_trans GR.out GQ.out))
       rw [← hAT] at CA
       have WI:=Lib.hid (fun (hk:y.2.kind=1∨y.2.kind=4)=>(by rw [hAT];exact at_kind SL.out hk (AI.out.within ym hk) nt nb ns:IntKind.u64.wrap (AT - sl)=4096 + y.2.value))
       have VV:=Lib.hid (fun (hk:y.2.kind=1∨y.2.kind=4)=>AI.out.within ym hk)
       obtain ⟨AD,hAD⟩:∃ a,IntKind.u64.wrap (AT - sl)=a:=⟨_,rfl⟩
       clear hAT gq XQ
       go_upto_region 24 with (first
        |(refine wpList_load_imgI rfl (.tmp 15) rfl (by kernel_rfl) IQ.out ?_)
        |(go_at_call 21;refine CA.out.mono ?_;rintro e wg ⟨rfl,hg⟩;have SG:=Lib.hid hg;clear hg))
       rw [hAD] at WI
       have GW:=Lib.hid (grown_trans GC.out (grown_trans GQ.out SG.out))
       clear c0 c1 c2 c3 c4 c5' c6 CA hAD
       have XG:=XH.out.kept SG.out (by simp)
       obtain ⟨c0,c1,c2,c3,c4,c5',c6⟩:=XG.c
       clear XG
       by_cases k1:y.2.kind=1
       ·have e1:decide (y.2.kind=1)=true:=decide_eq_true k1
        have e1b:(y.2.kind == 1)=true:=by simpa using k1
        have w1:=WI.out (.inl k1)
        have v1:=VV.out (.inl k1)
        have e3:decide (AD < 4096)=false:=decide_eq_false (by omega)
        have e4:decide (8192≤AD)=false:=decide_eq_false (by omega)
        clear WI VV w1 v1 k1
        cases hTB:(L.take k).any (fun y=>decide (y.1=t)) with
        | true =>
         have TK:=Lib.hid (show (L.take (k + 1)).any (fun y=>decide (y.1=t))=true by rw [take_any L t hy,hTB];rfl)
         clear hy hTB
         go_wp2_with fail
         go_roundw
         case rel=>exact ⟨⟨k + 1,hlt,by go_num,by rw [TK.out]⟩,GW.out⟩
         case measure=>simp [intOf];omega
        | false =>
         have TK:=Lib.hid (show (L.take (k + 1)).any (fun y=>decide (y.1=t))=((strOfNums y.1).toList == (strOfNums t).toList) by rw [take_any L t hy,hTB,Bool.false_or,name_is yt.1 HT.out.1])
         clear hy hTB
         go_wp2_with fail
         go_roundw
         case rel=>exact ⟨⟨k + 1,hlt,by go_num,by rw [TK.out]⟩,GW.out⟩
         case measure=>simp [intOf];omega
       ·have e1:decide (y.2.kind=1)=false:=decide_eq_false k1
        have e1b:(y.2.kind == 1)=false:=by simpa using k1
        by_cases k4:y.2.kind=4
        ·have e2:decide (y.2.kind=4)=true:=decide_eq_true k4
         have e2b:(y.2.kind == 4)=true:=by simpa using k4
         have w1:=WI.out (.inr k4)
         have v1:=VV.out (.inr k4)
         have e3:decide (AD < 4096)=false:=decide_eq_false (by omega)
         have e4:decide (8192≤AD)=false:=decide_eq_false (by omega)
         clear WI VV w1 v1 k1 k4
         cases hTB:(L.take k).any (fun y=>decide (y.1=t)) with
         | true =>
           have TK:=Lib.hid (show (L.take (k + 1)).any (fun y=>decide (y.1=t))=true by rw [take_any L t hy,hTB];rfl)
           clear hy hTB
           go_wp2_with fail
           go_roundw
           case rel=>exact ⟨⟨k + 1,hlt,by go_num,by rw [TK.out]⟩,GW.out⟩
           case measure=>simp [intOf];omega
         | false =>
           have TK:=Lib.hid (show (L.take (k + 1)).any (fun y=>decide (y.1=t))=((strOfNums y.1).toList == (strOfNums t).toList) by rw [take_any L t hy,hTB,Bool.false_or,name_is yt.1 HT.out.1])
           clear hy hTB
           go_wp2_with fail
           go_roundw
           case rel=>exact ⟨⟨k + 1,hlt,by go_num,by rw [TK.out]⟩,GW.out⟩
           case measure=>simp [intOf];omega
        ·have e2:decide (y.2.kind=4)=false:=decide_eq_false k4
         have e2b:(y.2.kind == 4)=false:=by simpa using k4
         clear WI VV k1 k4
         cases hTB:(L.take k).any (fun y=>decide (y.1=t)) with
         | true =>
           have TK:=Lib.hid (show (L.take (k + 1)).any (fun y=>decide (y.1=t))=true by rw [take_any L t hy,hTB];rfl)
           clear hy hTB
           go_wp2_with fail
           go_roundw
           case rel=>exact ⟨⟨k + 1,hlt,by go_num,by rw [TK.out]⟩,GW.out⟩
           case measure=>simp [intOf];omega
         | false =>
           have TK:=Lib.hid (show (L.take (k + 1)).any (fun y=>decide (y.1=t))=((strOfNums y.1).toList == (strOfNums t).toList) by rw [take_any L t hy,hTB,Bool.false_or,name_is yt.1 HT.out.1])
           clear hy hTB
           go_wp2_with fail
           go_roundw
           case rel=>exact ⟨⟨k + 1,hlt,by go_num,by rw [TK.out]⟩,GW.out⟩
           case measure=>simp [intOf];omega
    · obtain rfl:k=N:=by omega
      rw [show L.take k=L by rw [← HN.out,List.take_length]]
      have GR:=Lib.hid (grown_trans PC.out hg)
      have IR:=Lib.hid (I6.out.kept GR.out (by simp))
      by_cases h255 : 255 < t.length
      ·have d3:decide ((255:Int) < (t.length:Int))=true:=by simp;omega
       clear hg EF EAT
       go_wp2_with fail
       refine (K.out _).mono ?_
       rintro e wz ⟨rfl,hg⟩
       have GZ:=Lib.hid (grown_trans (grown_trans G6.out GR.out) hg)
       clear hg
       go_wp2
       go_ret
       exact ⟨rfl,BL.out _ GZ.out⟩
      have d3:decide ((255:Int) < (t.length:Int))=false:=by simp;omega
      have TH:=AI.out.there (t:=t) (by omega)
      have FN:=Lib.hid ((EF.out t HT.out.1 (by omega) wr GR.out).mono (R':=fun e w'=>(∃ nm x,e=.returned (.tuple #[exV nm x,.bool (L.any fun y=>decide (y.1=t)),.int .i64 0]))∧wr.grownBy w' none) (fun e w' h=>⟨⟨_,_,by have:=h.ret;rw [TH.1,TH.2] at this;exact this⟩,h.grown⟩))
      generalize (L.any fun y=>decide (y.1=t))=bb at *
      clear hg TH EF EAT
      go_wp2_with (refine wpList_load_imgI rfl (.tmp 15) rfl (by kernel_rfl) IR.out ?_)
      refine FN.out.mono ?_
      rintro e w2 ⟨⟨nm,x,rfl⟩,hg⟩
      have G2:=Lib.hid (grown_trans (grown_trans G6.out GR.out) (grown_trans hg (grown1 w2 (.cells (exArr nm x) 28))))
      clear hg
      simp only [exV,exArr] at G2 ⊢
      go_wp2_with fail
      refine (K.out _).mono ?_
      rintro e w3 ⟨rfl,hg⟩
      have B:=Lib.hid (BL.out _ (grown_trans G2.out hg))
      clear hg
      go_wp2
      go_ret
      exact ⟨rfl,B.out⟩
end Go.Proofs.YtkmbkpoclhbmgaaGreat.exportMeans
/- 'ExportMeans': for every input the call returns true, and what was handed in reads as it did. The form's own reach is the one condition. -/
namespace Go.Proofs.YtkmbkpoclhbmgaaGreat.exportMeans
open Go.ChangeShapes Go.WideShapes Go.ChangeAt Go.RowKit
open Go.ChangeMaps (open_string shut_string)
theorem own:ownKnob Tryz.prog.godebug=none:=by kernel_rfl
theorem laidOut:laidOutB Tryz.prog=true:=by kernel_rfl
theorem text_nums (s:ByteArray) (h:s.size≤maxLen):∃ t:List Int,Byt t∧t.length≤9223372036854775807∧strOfNums t=s:=by
 refine ⟨s.data.toList.map fun u=>(u.toNat:Int),?_,?_,?_⟩
 ·intro x hx
  obtain ⟨u,_,rfl⟩:=List.mem_map.1 hx
  have:=u.toNat_lt
  omega
 ·rw [List.length_map,Array.length_toList]
  exact h
 ·apply ByteArray.ext
  apply Array.toList_inj.1
  rw [strOfNums_data,List.map_map]
  conv=>rhs;rw [← List.map_id s.data.toList]
  apply List.map_congr_left
  intro u _
  apply UInt8.toNat_inj.1
  have:=u.toNat_lt
  simp only [Function.comp,UInt8.toNat_ofNat',id]
  omega
set_option maxRecDepth 100000 in
theorem lifted (os:Os) (started:os.Started) (H:Type) (enc:TypeId × Value→H) :
  ReturnsInHanded {} Tryz.checked os 5 .any (Rows.exportMeansSpec.pre6 enc Tryz.prog Tryz.f5 Rows.exportMeansRow.domain false) (Rows.exportMeansSpec.post enc Tryz.prog Tryz.f5 false true false false):=by
 refine returnsInHanded_of_change (C:=Tryz.checked) own started (by kernel_rfl) Tryz.func5
  (ChangeSpec.witness6 (enc:=enc) (C:=Tryz.checked) false ⟨#[],#[.slice none 0 0,.slice none 0 0,.string ⟨#[]⟩,.int .u64 0],[]⟩ 8 (by kernel_rfl) (by kernel_rfl) (by kernel_rfl) (by kernel_rfl)) ?_
 intro W base args ds gs before hval0 hW hcnd _
 have hval:∀ (j:Nat) t v,Tryz.f5.params[j]?=some t→args[j]?=some v→Value.okWide Tryz.prog W .any base t v:=hval0
 have hW':=hW
 obtain ⟨p,q,hA0,hV,rfl,hfz,hnd⟩:=hW
 have hA:DataW.TrodAll enc Tryz.prog W 0 (fun _=>true) true Tryz.f5.params.toList args.toList ds p:=hA0
 rw [Tryz.params5] at hA hval
 obtain ⟨v0,vs0,d0,ds0,p0,q0,hargs,rfl,rfl,h0,r0⟩:=trodAll_cons hA
 obtain ⟨v1,vs1,d1,ds1,p1,q1,rfl,rfl,rfl,h1,r1⟩:=trodAll_cons r0
 obtain ⟨v2,vs2,d2,ds2,p2,q2,rfl,rfl,rfl,h2,r2⟩:=trodAll_cons r1
 obtain ⟨v3,vs3,d3,ds3,p3,q3,rfl,rfl,rfl,h3,r3⟩:=trodAll_cons r2
 obtain ⟨rfl,rfl,rfl⟩:=trodAll_nil r3
 obtain rfl:args=#[v0,v1,v2,v3]:=by cases args;simp_all
 obtain ⟨rfl,rfl⟩:=trodVars_none hV
 obtain ⟨a0,len0,cap0,rfl⟩:=okWide_slice Tryz.underlying23 (hval 0 23 v0 rfl rfl)
 have k0:=h0
 have lt0:∀ x∈p0,x.block < W.heap.size:=by obtain ⟨m,hm⟩:=k0;exact DataW.trod_lt m _ _ _ hm
 have w0:=(by obtain ⟨fuel,hf⟩:=h0;exact open_exs hf:∃ D:Out,D.length=len0∧ExsAt W a0 D∧(∀ y∈D,ExFits y.1 y.2)∧len0≤cap0∧cap0≤9223372036854775807)
 obtain ⟨a1,len1,cap1,rfl⟩:=okWide_slice Tryz.underlying59 (hval 1 59 v1 rfl rfl)
 have k1:=h1
 have lt1:∀ x∈p1,x.block < W.heap.size:=by obtain ⟨m,hm⟩:=k1;exact DataW.trod_lt m _ _ _ hm
 have w1:=(by obtain ⟨fuel,hf⟩:=h1;exact open_sys hf:∃ D:Syms,D.length=len1∧SysAt W a1 D∧(∀ y∈D,SyFits y.1 y.2)∧len1≤cap1∧cap1≤9223372036854775807)
 obtain ⟨s2,rfl,rfl,rfl,ls2⟩:=open_string Tryz.underlying9 (hval 2 9 v2 rfl rfl) h2
 obtain ⟨t2,bt2,mt2,rfl⟩:=text_nums s2 ls2
 obtain ⟨a3,rfl,rfl,rfl,w3⟩:=open_int Tryz.underlying26 (hval 3 26 v3 rfl rfl) h3
 clear hA0 hval0
 refine (walk a0 len0 cap0 a1 len1 cap1 t2 a3 W w0 w1 bt2 mt2 w3).mono fun e W' ⟨he,bel⟩=>?_
 subst he
 exact ⟨_,rfl,_,_,_,[],_,[],hW',trodAll_mk1 (shut_bool Tryz.underlying4 _),(trodAll_cons_mk (Below.trod laidOut (by kernel_rfl) (of_decide_eq_true (by kernel_rfl)) k0 bel lt0) (trodAll_cons_mk (Below.trod laidOut (by kernel_rfl) (of_decide_eq_true (by kernel_rfl)) k1 bel lt1) (trodAll_cons_mk (shut_string Tryz.underlying9 ls2) (trodAll_cons_mk (shut_int Tryz.underlying26 w3) trodAll_mk0)))),rfl,bel.frame _,fun h=>by cases h⟩
theorem proved:Rows.ExportMeansSaid :=
 OpenClaim.holds_of_wide 5 Tryz.f5 rfl rfl rfl rfl rfl rfl rfl ⟨rfl,rfl,rfl,rfl,rfl⟩ rfl rfl rfl rfl rfl (by kernel_rfl) Tryz.func5 (by kernel_rfl)
  (of_decide_eq_true (by kernel_rfl)) (by unfold Func.isWrapper;first | (rw [if_pos (by decide +kernel)];kernel_rfl) | (rw [if_neg (by decide +kernel)];exact ⟨rfl,rfl⟩))
  (fun os started H enc _=>lifted os started H enc)
end Go.Proofs.YtkmbkpoclhbmgaaGreat.exportMeans
