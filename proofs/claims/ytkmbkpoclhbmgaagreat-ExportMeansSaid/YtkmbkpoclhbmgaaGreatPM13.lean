/- Parts of the proof, put together: NlB, NlC, RefCur, NlG, NlH, NlR, NlP, LdN, Within. No condition beyond those that each part names. -/
import Derived.Shelf.Small.Bits
import Derived.Shelf.Small.Strs
import Derived.Shelf.Strconv.Itoa0
import Derived.Shelf.Strings.Search1
import Derived.Shelf.Bytes.SlIndexAt
import Derived.Shelf.Bytes.SlSearch0
import Derived.Ground.SlbCloneProg
import Derived.Shelf.Bytes.SlClone
import Derived.Shelf.Bytes.IndexByte
import Derived.Test.YtkmbkpoclhbmgaaGreatProg
import Derived.Test.YtkmbkpoclhbmgaaGreatRows
import Derived.WalkKit
import Derived.WalkSpells
import Derived.WalkLawsBesides
import Derived.BigQuiet
import Derived.Deep.QuietTactic
import Derived.Lib.Hide
import Derived.IntWalk
import Derived.OneCell
import Derived.Laws.Rows
import Derived.OpenShut
import Derived.ProofKit
import Derived.Lib.EndianBits
import Derived.RegionTactic
import Derived.ChangeAlike
import Derived.WalkMore
import Derived.Laws.BytesArg
import Derived.Shelf.Bytes.SlEqualAll
import Derived.Lib.SlFresh
import Derived.Maps.AppendAt
import Derived.Deep.AppendSrc
import Derived.Deep.Upon
import Derived.Lib.AppendZeros
import Derived.Laws.IdiomStrings
import Derived.Lib.AppendZerosOnto
import Derived.Laws.StructEq
import Derived.Below
import Derived.Shelf.Abstract
import Derived.Laws.ResultCell
import Derived.Deep.Slices
import Derived.ChangeSame
import Derived.Laws.OwnMore
import Derived.Laws.Slices
import Derived.Lib.ConvBytes
import Derived.StringKeys
import Derived.Maps.Own
import Derived.Maps.OwnOps
import Derived.Maps.OwnSet
import Derived.WideShapes
import Derived.Deep.LoopGhost
import Derived.StillTailTactics
import Derived.Deep.Cut
import Derived.Deep.CutRange
import Derived.PlainAid
import Derived.Lib.SlBytesRow
import Derived.Deep.Onto
import Derived.Laws.EntriesVeiled
import Derived.Shelf.SlSortCmp.WholeK
import Derived.Shelf.SlGeneric
import Derived.Ground.SlsfProg
import Derived.Laws.Bits128
import Derived.Deep.RegionWith
import Derived.Deep.RegionHeld3
import Derived.Lib.SmallJoins
import Derived.Deep.RegionLaw
import Derived.Deep.RegionHeld
import Derived.Lib.QuietBelow
import Derived.Stop.Asserts
import Derived.Laws.Externs
import Derived.Test.YtkmbkpoclhbmgaaGreatPM1
import Derived.Test.YtkmbkpoclhbmgaaGreatPM2
import Derived.Test.YtkmbkpoclhbmgaaGreatPM8
import Derived.Test.YtkmbkpoclhbmgaaGreatPM12
namespace Go.Proofs.YtkmbkpoclhbmgaaGreat
open Go.RowKit Go.Maps
variable {w w':World} {B g a lo hi m:Nat} {v:Value} {ys:List Int} {n:Int} {p:Nat} {D:Syms}
theorem addE_text {q:Nat} (hq:q≤ys.length∧(pre (ys.drop q)).length < (ys.drop q).length) :
  addE ys D q=if pre (ys.drop q)=[] then 13 else if 255 < (pre (ys.drop q)).length then 10 else if nlHas D (pre (ys.drop q))=true then 21 else if D.length=4096 then 11 else 0:=by
 have h2:=hq.2
 rw [List.length_drop] at h2
 unfold addE nmErr
 rw [Int.toNat_natCast,if_neg (show ¬ (ys.length:Int)≤(q:Int) by omega)]
 by_cases h:pre (ys.drop q)=[]
 ·have h3:(pre (ys.drop q)=[]∨(ys.drop q).length≤(pre (ys.drop q)).length):=.inl h
  rw [if_pos h3,if_pos h];rfl
 ·have h3:¬ (pre (ys.drop q)=[]∨(ys.drop q).length≤(pre (ys.drop q)).length):=fun e=>e.elim h (fun e=>absurd hq.2 (by omega))
  rw [if_neg h3,if_neg h]
  by_cases h4 : 255 < (pre (ys.drop q)).length
  ·rw [if_pos h4,if_pos h4];rfl
  ·rw [if_neg h4,if_neg h4];rfl
structure AddOut (w w':World) (B g a lo hi m:Nat) (ys:List Int) (n:Int) (D D':Syms) (E:Int) (e:Ending):Prop where
 ret:e=.returned (.int .i64 E)
 below:Below B w w'
 tel:E=0→∃ v' p',TelAt w' B g a lo hi m v' ys n p' D'
set_option maxRecDepth 20000 in
set_option maxHeartbeats 1600000 in
theorem add_some (h:TelAt w B g a lo hi m v ys n p D) (hok:SymsOk D) (hy:Byt ys) (q:Nat) (hq:q≤ys.length∧(pre (ys.drop q)).length < (ys.drop q).length) (h32:(q:Int) < 4294967296) (x:Sy) :
  Calls Tryz.prog 205 #[.pointer (some ⟨g,0,none⟩),syV ⟨#[]⟩ x,.int .u64 q] w fun e w'=>AddOut w w' B g a lo hi m ys n D (D ++ [(pre (ys.drop q),x)]) (addE ys D q) e:=by
 have hBw:B≤w.heap.size:=Nat.le_trans h.lo (Nat.le_trans (Nat.le_of_lt (Nat.lt_of_le_of_lt h.pen.lw h.pen.up)) h.pen.sz)
 have hBa:B≤a:=Nat.le_trans h.lo h.pen.lw
 have g0:=grown1 w (.cells #[.string ⟨#[]⟩,.int .i64 x.sec,.int .u64 x.value,.bool x.weak] 95)
 have t0:=h.grown g0
 have s0:=SyAt.new w ⟨#[]⟩ x
 have OFF:=h.new (Nat.le_refl w.heap.size)
 obtain ⟨X,hX⟩:∃ X,X=w.heap.size:=⟨_,rfl⟩
 rw [← hX] at s0 OFF
 obtain ⟨W,hW⟩:∃ W,W=w.alloc (.cells #[.string ⟨#[]⟩,.int .i64 x.sec,.int .u64 x.value,.bool x.weak] 95):=⟨_,rfl⟩
 rw [← hW] at g0 t0 s0
 have hBX:B≤X:=by rw [hX];exact hBw
 have B0:=Lib.hid (below_grown g0 hBw (by simp):Below B w W)
 have hBW:B≤W.heap.size:=Nat.le_trans hBw g0.size
 have hXa:X≠a:=fun e=>by have:=h.pen.lt;omega
 have hga:g≠a:=fun e=>by have:=h.hg;have:=h.pen.up;omega
 have SK:=Lib.hid (pen_seek t0.pen q hq.1)
 have LF:=Lib.hid (fun (V:World) (hp:Pen V lo hi a ys q false false)=>pen_left hp)
 have TX:=Lib.hid (fun (V:World) (hp:Pen V lo hi a ys q false false)=>pen_text_ok hp ((ys.length:Int) - q) ⟨hq.2,by have:=hq.2;rw [List.length_drop] at this;omega⟩)
 have hT0:Byt (pre (ys.drop q)):=(hy.drop q).pre
 have hTl:(pre (ys.drop q)).length < ys.length - q:=by have:=hq.2;rwa [List.length_drop] at this
 have hbig:=h.pen.most
 obtain ⟨E,hE⟩:∃ E,E=addE ys D q:=⟨_,rfl⟩
 rw [← hE]
 rw [addE_text hq] at hE
 obtain ⟨T,hT⟩:∃ T,T=pre (ys.drop q):=⟨_,rfl⟩
 rw [← hT] at TX hT0 hTl hE ⊢
 have T0:=Lib.hid t0
 have c0:=t0.c.1
 have S0:=Lib.hid s0
 have HW:=Lib.hid hW
 have HX:=Lib.hid hX
 have HO:=Lib.hid hok
 have BT:=Lib.hid hT0
 have HE:=Lib.hid hE
 have n1:=text_nil T
 have hsz:(strOfNums T).size=T.length:=strOfNums_size _
 have hTm:T.length≤140737488355328:=by omega
 clear h g0 t0 s0 hq hok hy hT hE hT0 hTl hbig hBw
 unfold syV syArr
 go_enter Tryz.func205,Tryz.ntmps205
 go_upto_region 1 with fail
 rw [← HW.out,← HX.out]
 clear HW HX hW hX
 go_wp2_with fail
 refine SK.out.mono ?_
 rintro e w1 ⟨rfl,hp,hg⟩
 have t1:=T0.out.moved hg hp
 have S1:=Lib.hid (S0.out.kept hg (fun e=>by injection e with e;exact hXa e.symm))
 have B1:=Lib.hid (B0.out.trans (below_grown hg hBW (by simp;exact hBa)):Below B w w1)
 have hB1:B≤w1.heap.size:=Nat.le_trans hBW hg.size
 have t1':TelAt w1.drew B g a lo hi m v ys n q D:=t1.grown (show w1.grownBy w1.drew none from grown_drewN (grown_refl w1 none) 1)
 have T1:=Lib.hid t1
 have k0:=t1.c.1
 have LF1:=Lib.hid (LF.out _ t1'.pen)
 have TX1:=Lib.hid (fun k=>TX.out (w1.drewN k) (t1.drewN k).pen)
 have ST:=Lib.hid (fun k w3 p3 (hg3:(w1.drewN k).grownBy w3 (some a)) (hp3:Pen w3 lo hi a ys p3 false false)=>(t1.drewN k).moved hg3 hp3)
 have SS:=Lib.hid (fun k w3 (hg3:(w1.drewN k).grownBy w3 (some a))=>(S1.out.kept (grown_drewN (grown_refl w1 none) k) (by simp)).kept hg3 (fun e=>by injection e with e;exact hXa e.symm))
 clear hg hp t1 t1' c0 SK LF TX T0 S0 B0
 go_wp2
 go_region_held3 (fun V=>V.cell? ⟨g,0,none⟩=some (.pointer (some ⟨a,0,none⟩)))
  (first | exact k0 | exact k3 | exact k4)
  (first
    |(go_at_call 165;(with_reducible refine (LF1.out).mono ?_);rintro e w2 ⟨rfl,j,rfl⟩)
    |(go_at_call 135;(with_reducible refine (TX1.out _).mono ?_);rintro e w3 ⟨rfl,hp3,hg3⟩;have t3:=ST.out _ _ _ hg3 hp3;have k3:=t3.c.1;have S3:=SS.out _ _ hg3;have x3:=S3.c.1;have f3:=S3.fz 0;have l3:=S3.lt;have k4:=(grown_setCell (i:=0) (grown_refl w3 (some X)) (.string (strOfNums T))).cell k3 (fun e=>by injection e with e;exact OFF.g e.symm)))
 have S4:=S3.s0 (strOfNums T)
 have gs:=grown_setCell (i:=0) (grown_refl w3 (some X)) (.string (strOfNums T))
 have t4:=t3.keptA gs OFF
 have B4:=Lib.hid (B1.out.trans (below_grown (grown_trans (grown_drewN (grown_refl w1 (some a)) (1 + j)) hg3) hB1 (by simp;exact hBa)) |>.trans (below_grown gs (Nat.le_trans hB1 hg3.size) (by simp;exact hBX)):Below B w _)
 obtain ⟨W4,hW4⟩:∃ W4,W4=w3.setCell ⟨X,0,none⟩ (.string (strOfNums T)):=⟨_,rfl⟩
 rw [← hW4] at B4 S4 t4 k4 ⊢
 have hl4:B≤W4.heap.size:=Nat.le_trans hBX (Nat.le_of_lt S4.lt)
 have gA:=grown1 W4 (.cells #[] 170)
 have c3:=t4.c.2.2.2
 have d0:=S4.c.1
 have c3a:=grown_cell gA c3
 have d0a:=grown_cell gA d0
 have hDB:∀ y∈D,Byt y.1:=fun y hy=>(HO.out.each y hy).1
 have LKd:=(show MetN W4.drew m D.length D from t4.met.drewN 1).look hDB BT.out hTm
 have t5:TelAt (W4.alloc (.cells #[] 170)).drew B g a lo hi m v ys n _ D:=(t4.grown gA).drewN 1
 have s5:SyAt (W4.alloc (.cells #[] 170)).drew X (strOfNums T) x:=S4.kept (grown_drewN gA 1) (by simp)
 have LKa:=t5.met.look hDB BT.out hTm
 have B5:=Lib.hid (B4.out.trans (below_drewN (below_grown gA hl4 (by simp)) 1):Below B w (W4.alloc (.cells #[] 170)).drew)
 have T5:=Lib.hid t5
 have S5:=Lib.hid s5
 have x4:=S4.lt
 obtain ⟨hs,hhs⟩:∃ b,b=nlHas D T:=⟨_,rfl⟩
 rw [← hhs] at LKd LKa
 have HH:=Lib.hid hhs
 clear hW4 S4 S3 x3 f3 l3 hp3 hg3 k3 k0 t3 t4 gs t5 s5 gA hDB hhs k4 S1 B1 B4 T1 ST SS LF1 TX1
 go_wp2
 go_region
 all_goals
  clear LKd LKa c3 c3a d0 d0a
  have t5:=T5.out
  have d0:=S5.out.c.1
  have xl:=S5.out.lt
  obtain ⟨W5,hW5⟩:∃ W5,W5=(W4.alloc (.cells #[] 170)).drew:=⟨_,rfl⟩
  rw [← hW5] at T5 S5 B5 t5 d0 xl ⊢
  clear hW5
  have he:=HE.out
  by_cases h1:T=[]
  · rw [decide_eq_true h1] at n1
    rw [if_pos h1] at he
    have EE:=Lib.hid he
    clear h1 he t5
    go_wp2
    go_ret
    exact ⟨by rw [EE.out];rfl,B5.out,fun h=>by rw [EE.out] at h;cases h⟩
  · rw [decide_eq_false h1] at n1
    rw [if_neg h1] at he
    clear h1
    by_cases h2 : 255 < T.length
    ·have d2:decide ((255:Int) < (T.length:Int))=true:=by simp;omega
     rw [if_pos h2] at he
     have EE:=Lib.hid he
     clear h2 he t5
     go_wp2
     go_ret
     exact ⟨by rw [EE.out];rfl,B5.out,fun h=>by rw [EE.out] at h;cases h⟩
    ·have d2:decide ((255:Int) < (T.length:Int))=false:=by simp;omega
     rw [if_neg h2,← HH.out] at he
     clear h2
     cases hs
     · rw [if_neg (by simp)] at he
       obtain ⟨qs,cs,rfl⟩:=own_slice t5.row
       have c2:=t5.c.2.2.1
       have gl:=t5.lt
       by_cases h3:D.length=4096
       ·have d3:((D.length:Int) == 4096)=true:=by rw [h3];rfl
        rw [if_pos h3] at he
        have EE:=Lib.hid he
        clear h3 he t5
        go_wp2
        go_ret
        exact ⟨by rw [EE.out];rfl,B5.out,fun h=>by rw [EE.out] at h;cases h⟩
       ·have d3:((D.length:Int) == 4096)=false:=by rw [beq_eq_false_iff_ne];omega
        rw [if_neg h3] at he
        have EE:=Lib.hid he
        have hfew:=HO.out.few
        clear h3 he
        have c3:=t5.c.2.2.2
        obtain ⟨w6,hr6,n6,g6⟩:=(show MetN W5.drew m D.length D from t5.met.drewN 1).put (T,x) hTm (by unfold maxLen;omega)
        have g56:W5.grownBy w6 (some m):=grown_trans (grown_drewN (grown_refl W5 (some m)) 1) g6
        have s6:=S5.out.kept g56 (fun e=>by injection e with e;exact OFF.m e.symm)
        have NX:=Lib.hid (fun (wa w7:World) (v':Value) (ka:w6.grownBy wa none) (ho:w7.ownsRow hi 95 4 v' (D.length + 1) (D.flatMap syCs ++ syCs (T,x))) (k7:wa.grownBy w7 (Value.slice qs D.length cs).ownBlock)=>t5.next (T,x) g56 n6 ka ho k7)
        have OW:=Lib.hid (t5.row.kept g56 (.inr (fun e=>(t5.off m e).2.1 rfl)))
        have OO:=Lib.hid t5.off
        have hmg:g≠m:=fun e=>t5.ne e.symm
        have b6:=(g56.block g (lt_of_block t5.blk) (fun e=>by injection e with e;exact hmg e)).trans t5.blk
        have hBhi:B≤hi:=Nat.le_trans t5.lo (Nat.le_of_lt (Nat.lt_of_le_of_lt t5.pen.lw t5.pen.up))
        have hB5:B≤W5.heap.size:=Nat.le_trans hBhi t5.pen.sz
        have hB6:B≤w6.heap.size:=Nat.le_trans hB5 g56.size
        have hH6:hi≤w6.heap.size:=Nat.le_trans t5.pen.sz g56.size
        have hBg:B≤g:=Nat.le_trans hBhi t5.hg
        have B6:=Lib.hid (B5.out.trans (below_grown g56 hB5 (by simp;exact Nat.le_trans hBhi t5.hm)):Below B w w6)
        have BK:=Lib.hid b6
        have e2:w6.cell? ⟨g,2,none⟩=some (.slice qs D.length cs):=by rw [cell_of b6];rfl
        have S6:=Lib.hid s6
        simp only [] at hr6
        clear t5 n6 g6 g56 s6 b6
        go_wp2
        go_region
        clear c3 hr6 d0 c2 gl xl n1 d2 d3
        obtain ⟨x0,x1,x2,x3⟩:=S6.out.c
        have xl:=S6.out.lt
        have f2:=free_of (i:=2) BK.out
        have gl:=lt_of_block BK.out
        have gA:w6.grownBy (w6.alloc (.cells #[.string (strOfNums T),.int .i64 x.sec,.int .u64 x.value,.bool x.weak] 95)).drew none:=grown_drewN (grown1 w6 _) 1
        have OWA:=Lib.hid (own_grown OW.out gA)
        have HNA:=Lib.hid (show (w6.alloc (.cells #[.string (strOfNums T),.int .i64 x.sec,.int .u64 x.value,.bool x.weak] 95)).drew.heap[w6.heap.size]?=some (.cells ([.string (strOfNums T),.int .i64 x.sec,.int .u64 x.value,.bool x.weak]:List Value).toArray 95 (0,0)) from heap_alloc_new w6 _)
        have ONE:=Lib.hid (syCs_one (T,x))
        have GA:=Lib.hid gA
        have BKA:=Lib.hid (((gA.block g (lt_of_block BK.out) (by simp)).trans BK.out))
        have HLO:=Lib.hid (show hi≤(w6.alloc (.cells #[.string (strOfNums T),.int .i64 x.sec,.int .u64 x.value,.bool x.weak] 95)).drew.heap.size from Nat.le_trans hH6 gA.size)
        have hf:(D.length + 1) * 40≤140737488355328:=by omega
        have NV:=Lib.hid (fun e=>(OO.out g e).1 rfl:(Value.slice qs D.length cs).ownBlock≠some g)
        obtain ⟨rows,hrows⟩:∃ r,r=D.flatMap syCs:=⟨_,rfl⟩
        rw [← hrows] at OWA NX OW
        obtain ⟨L,hL⟩:∃ L,L=D.length:=⟨_,rfl⟩
        rw [← hL] at OWA NX OW e2 hf OO NV BKA
        clear gA hrows hL hfew
        go_wp2
        go_region_law (refine step_append_st syType (by with_reducible rfl) _ _ (by with_reducible rfl) _ L 1 rows (by rfl) OWA.out [.string (strOfNums T),.int .i64 x.sec,.int .u64 x.value,.bool x.weak] rfl w6.heap.size (by rfl) HNA.out ONE.out hf (by decide) HLO.out ?_;intro v7 w7 ho7 hg7;obtain ⟨q7,c7,rfl⟩:=own_slice ho7;have b7:=(hg7.block g (lt_of_block BKA.out) (fun e=>NV.out e.symm)).trans BKA.out;have e2':w7.cell? ⟨g,2,none⟩=some (.slice qs L cs):=(by rw [cell_of b7];rfl);have f2':=free_of (i:=2) b7;have gl':=lt_of_block b7)
        all_goals
         have TF:=Lib.hid (NX.out _ w7 _ GA.out ho7 hg7)
         have BF:=Lib.hid (B6.out.trans (below_grown GA.out hB6 (by simp)) |>.trans (below_grown hg7 (Nat.le_trans hB6 GA.out.size) (fun b hb=>Nat.le_trans hBhi (OO.out b hb).2.2)) |>.trans (below_grown (grown_setCell (i:=2) (grown_refl w7 (some g)) (.slice q7 (L + 1) c7)) (Nat.le_trans hB6 (Nat.le_trans GA.out.size hg7.size)) (by simp;exact hBg)))
         clear ho7 hg7 b7 e2' f2' gl'
         go_wp2
         go_ret
         exact ⟨by rw [EE.out];rfl,BF.out,fun _=>⟨_,_,TF.out⟩⟩
     · rw [if_pos rfl] at he
       have EE:=Lib.hid he
       clear he t5
       go_wp2
       go_ret
       exact ⟨by rw [EE.out];rfl,B5.out,fun h=>by rw [EE.out] at h;cases h⟩
end Go.Proofs.YtkmbkpoclhbmgaaGreat
namespace Go.Proofs.YtkmbkpoclhbmgaaGreat
open Go.RowKit Go.Maps
variable {w w':World} {B g a lo hi m:Nat} {v:Value} {ys:List Int} {n:Int} {p:Nat} {D:Syms}
theorem addE_none {q:Nat} (hq:¬ (q≤ys.length∧(pre (ys.drop q)).length < (ys.drop q).length)):addE ys D q=13:=by
 unfold addE nmErr
 rw [Int.toNat_natCast]
 by_cases h1:(ys.length:Int)≤(q:Int)
 ·rw [if_pos h1];rfl
 ·rw [if_neg h1]
  have h2:(pre (ys.drop q)=[]∨(ys.drop q).length≤(pre (ys.drop q)).length):=.inr (by have:¬ _:=fun h=>hq ⟨by omega,h⟩;omega)
  rw [if_pos h2];rfl
theorem add_any (h:TelAt w B g a lo hi m v ys n p D) (hok:SymsOk D) (hy:Byt ys) (q:Nat) (h32:(q:Int) < 4294967296) (x:Sy) :
  Calls Tryz.prog 205 #[.pointer (some ⟨g,0,none⟩),syV ⟨#[]⟩ x,.int .u64 q] w fun e w'=>AddOut w w' B g a lo hi m ys n D (D ++ [(pre (ys.drop q),x)]) (addE ys D q) e:=by
 by_cases hq:q≤ys.length∧(pre (ys.drop q)).length < (ys.drop q).length
 ·exact add_some h hok hy q hq h32 x
 ·refine (add_none h (fun y hy=>(hok.each y hy).1) q hq h32 _ x).mono ?_
  rintro e w' ⟨rfl,hb⟩
  rw [addE_none hq]
  exact ⟨rfl,hb,fun h=>by cases h⟩
set_option maxRecDepth 20000 in
set_option maxHeartbeats 1600000 in
theorem take_any10 (h:TelAt w B g a lo hi m v ys n p D) (hok:SymsOk D) (hy:Byt ys) {e:List Int} {q:Option Addr} {c:Nat} (hb:IsBytes w q c e) (hl:e.length=16) (he:Byt e) :
  Calls Tryz.prog 202 #[.pointer (some ⟨g,0,none⟩),.slice q 16 c] w fun r w'=>AddOut w w' B g a lo hi m ys n D (nlD ys D e) (nlE ys n D e) r:=by
 have hBhi:B≤hi:=Nat.le_trans h.lo (Nat.le_of_lt (Nat.lt_of_le_of_lt h.pen.lw h.pen.up))
 have hBw:B≤w.heap.size:=Nat.le_trans hBhi h.pen.sz
 have NW:=Lib.hid (pen_new hb hl (by omega) he false)
 have H:=Lib.hid h
 have HOK:=Lib.hid hok
 have HY:=Lib.hid hy
 have HE:=Lib.hid he
 have HL:=Lib.hid hl
 have N0:=Lib.hid (fun (V:World) (lo hi b:Nat) (hp:Pen V lo hi b e 0 false false)=>pen_num hp 4 (by decide) (by omega))
 have N4:=Lib.hid (fun (V:World) (lo hi b:Nat) (hp:Pen V lo hi b e 4 false false)=>pen_num hp 1 (by decide) (by omega))
 have N5:=Lib.hid (fun (V:World) (lo hi b:Nat) (hp:Pen V lo hi b e 5 false false)=>pen_num hp 1 (by decide) (by omega))
 have N6:=Lib.hid (fun (V:World) (lo hi b:Nat) (hp:Pen V lo hi b e 6 false false)=>pen_num hp 2 (by decide) (by omega))
 have N8:=Lib.hid (fun (V:World) (lo hi b:Nat) (hp:Pen V lo hi b e 8 false false)=>pen_num hp 8 (by decide) (by omega))
 rw [show numOf false ((e.drop 0).take 4)=nlPlace e from rfl] at N0
 rw [one_at (show 4 < e.length by omega),show numOf false [e.getD 4 0]=nlKind e from le_one _] at N4
 rw [one_at (show 5 < e.length by omega),show numOf false [e.getD 5 0]=nlSec e from le_one _] at N5
 rw [show numOf false ((e.drop 6).take 2)=nlDesc e from rfl] at N6
 rw [show numOf false ((e.drop 8).take 8)=nlVal e from rfl] at N8
 have b4 : 0≤nlKind e∧nlKind e < 256:=byt_at he 4
 have b5 : 0≤nlSec e∧nlSec e < 256:=byt_at he 5
 have bp:=nlPlace_bd he
 have bd:=nlDesc_bd he
 have bv:=nlVal_bd he
 have AD:=Lib.hid (fun (V:World) (hV:w.grownBy V none) (x:Sy) (P:Nat) (hP:(P:Int) < 4294967296)=>add_any (h.grown hV) hok hy P hP x)
 obtain ⟨P,hP⟩:∃ P:Nat,nlPlace e=P:=⟨(nlPlace e).toNat,by omega⟩
 have EB:nlKind e=15→(nlSec e=0∨n < nlSec e)→nlE ys n D e=13:=fun h1 h2=>by
  have ht:nlTold e=true:=by unfold nlTold;simp [h1]
  unfold nlE
  rw [if_pos ht,nlAdd_is,if_pos ⟨h1,h2⟩]
 have EG:(nlKind e=3∨(nlKind e=15∧¬ (nlSec e=0∨n < nlSec e)))→nlE ys n D e=addE ys D P∧nlD ys D e=D ++ [(pre (ys.drop P),⟨if nlKind e=15 then nlSec e else 0,nlVal e,decide (nlDesc e / 128 % 2=1)⟩)]:=fun h1=>by
  have ht:nlTold e=true:=by unfold nlTold;rcases h1 with h1 | h1 <;> simp [h1]
  unfold nlE nlD
  rw [if_pos ht,if_pos ht,nlAdd_is,if_neg (fun h2=>by rcases h1 with h1 | h1;(rw [h1] at h2;exact absurd h2.1 (by decide));exact h1.2 h2.2),hP]
  refine ⟨rfl,?_⟩
  unfold nlNew nlNm nlSy
  rw [hP,Int.toNat_natCast]
 have EN:¬ nlKind e=15→¬ nlKind e=3→nlE ys n D e=0∧nlD ys D e=D:=fun h1 h2=>by
  have ht:¬ nlTold e=true:=by unfold nlTold;simp [h1,h2]
  unfold nlE nlD
  rw [if_neg ht,if_neg ht]
  exact ⟨rfl,rfl⟩
 rw [hP] at N0 bp
 obtain ⟨E,hE⟩:∃ E,E=nlE ys n D e:=⟨_,rfl⟩
 obtain ⟨D',hD'⟩:∃ D',D'=nlD ys D e:=⟨_,rfl⟩
 rw [← hE,← hD'] at EG EN ⊢
 rw [← hE] at EB
 generalize nlKind e=K at *
 generalize nlSec e=S at *
 generalize nlVal e=Vl at *
 generalize nlDesc e=De at *
 have B1:=Lib.hid EB
 have B2:=Lib.hid EG
 have B3:=Lib.hid EN
 have b2:(P:Int) < 4294967296:=bp.2
 obtain ⟨Wk,hWk⟩:∃ W,W=decide (De / 128 % 2=1):=⟨_,rfl⟩
 have hAnd:bits .and .u64 De 128=De / 128 % 2 * 128:=and128 De (by omega)
 have hz:((De / 128 % 2 * 128) != 0)=Wk:=by
  rw [hWk]
  by_cases h:De / 128 % 2=1
  ·rw [h];rfl
  ·have:De / 128 % 2=0:=by omega
   rw [this];rfl
 rw [← hWk] at B2
 obtain ⟨Z,hZ⟩:∃ Z,Z=De / 128 % 2 * 128:=⟨_,rfl⟩
 rw [← hZ] at hAnd hz
 clear hZ hWk
 obtain ⟨hS0,hS1⟩:=b5
 have hS2:S≤9223372036854775807:=by omega
 have hSw:wrap64 S=S:=IntWalk.wrap64_in S (by omega)
 clear EB EG EN hE hD' hP he hl hb hok hy h bp hS1
 go_enter Tryz.func202,Tryz.ntmps202
 go_wp2_with fail
 refine NW.out.mono ?_
 rintro r w1 ⟨b,rfl,hp1,hbel⟩
 have G1:=Lib.hid (grown_below hbel none)
 obtain ⟨hh,hhh⟩:∃ hh,hh=w1.heap.size:=⟨_,rfl⟩
 rw [← hhh] at hp1
 have LB:=hp1.lw
 have UB:=hp1.up
 have P1:=Lib.hid hp1
 clear hp1 hbel NW hhh
 go_wp2_with fail
 refine (N0.out _ _ _ _ P1.out).mono ?_
 rintro r w2 ⟨rfl,hp2,hg⟩
 have G2:=Lib.hid (grown_new G1.out hg LB)
 have P2:=Lib.hid hp2
 clear hp2 hg N0 P1 G1
 go_wp2_with fail
 refine (N4.out _ _ _ _ P2.out).mono ?_
 rintro r w3 ⟨rfl,hp3,hg⟩
 have G3:=Lib.hid (grown_new G2.out hg LB)
 have P3:=Lib.hid hp3
 clear hp3 hg N4 P2 G2
 go_wp2_with fail
 refine (N5.out _ _ _ _ P3.out).mono ?_
 rintro r w4 ⟨rfl,hp4,hg⟩
 have G4:=Lib.hid (grown_new G3.out hg LB)
 have P4:=Lib.hid hp4
 clear hp4 hg N5 P3 G3
 obtain ⟨w5,hw5⟩:∃ W,W=w4.alloc (.cells #[.string ⟨#[]⟩,.int .i64 0,.int .u64 0,.bool false] 95):=⟨_,rfl⟩
 have g5:w4.grownBy w5 none:=by rw [hw5];exact grown1 w4 _
 have s5:SyAt w5 w4.heap.size ⟨#[]⟩ Sy.zero:=by rw [hw5];exact SyAt.new w4 ⟨#[]⟩ Sy.zero
 have G5:=Lib.hid (grown_trans G4.out g5)
 have P5:=Lib.hid (P4.out.same g5)
 have S5:=Lib.hid s5
 have c1:=(H.out.grown G5.out).c.2.1
 have gl:=(H.out.grown G5.out).lt
 obtain ⟨X,hX⟩:∃ X,X=w4.heap.size:=⟨_,rfl⟩
 have hXw:w.heap.size≤X:=by rw [hX];exact G4.out.size
 have hbX:hh≤X:=by rw [hX];exact P4.out.sz
 rw [← hX] at S5
 clear g5 s5 G4 P4
 go_upto_region 6 with fail
 rw [← hw5,← hX]
 clear hw5 hX
 clear b4
 by_cases k15:K=15
 ·have d15:(K == 15)=true:=by rw [k15];rfl
  by_cases ks0:S=0
  ·have ds0:(S == 0)=true:=by rw [ks0];rfl
   have EE:=Lib.hid (B1.out k15 (.inl ks0))
   clear k15 ks0
   go_wp2
   go_ret
   exact ⟨by rw [EE.out];rfl,below_grown G5.out hBw (by simp),fun h=>by rw [EE.out] at h;cases h⟩
  ·have ds0:(S == 0)=false:=by rw [beq_eq_false_iff_ne];exact ks0
   by_cases kn:n < S
   ·have dn:decide (n < S)=true:=decide_eq_true kn
    have EE:=Lib.hid (B1.out k15 (.inr kn))
    clear k15 ks0
    go_wp2
    go_ret
    exact ⟨by rw [EE.out];rfl,below_grown G5.out hBw (by simp),fun h=>by rw [EE.out] at h;cases h⟩
   ·have dn:decide (n < S)=false:=decide_eq_false kn
    have E2:=B2.out (.inr ⟨k15,fun h=>h.elim ks0 kn⟩)
    rw [if_pos k15] at E2
    have EE:=Lib.hid E2
    have f5:=S5.out.fz 1
    have x5:=S5.out.c.2.1
    have l5:=S5.out.lt
    have gs:=grown_setCell (i:=1) (grown_refl w5 (some X)) (.int .i64 S)
    have S6:=Lib.hid (S5.out.s1 S)
    have P6:=Lib.hid (P5.out.kept gs (.inr hbX))
    have G6:=Lib.hid (grown_new G5.out gs hXw)
    simp only [Sy.zero] at x5
    clear k15 ks0 kn E2 gs
    go_wp2_with fail
    refine (N6.out _ _ _ _ P6.out).mono ?_
    rintro r w7 ⟨rfl,hp7,hg⟩
    have G7:=Lib.hid (grown_new G6.out hg LB)
    have P7:=Lib.hid hp7
    have S7:=S6.out.kept hg (fun e=>by injection e with e;omega)
    have f7:=S7.fz 3
    have x7:=S7.c.2.2.2
    have l7:=S7.lt
    have gs7:=grown_setCell (i:=3) (grown_refl w7 (some X)) (.bool Wk)
    have S8:=Lib.hid (S7.s3 Wk)
    have P8:=Lib.hid (P7.out.kept gs7 (.inr hbX))
    have G8:=Lib.hid (grown_new G7.out gs7 hXw)
    have HSZ:=Lib.hid S7
    clear hp7 hg gs7 S7
    try simp only [Sy.zero] at x7
    go_wp2_with fail
    clear x7 f7 l7
    refine (N8.out _ _ _ _ P8.out).mono ?_
    rintro r w9 ⟨rfl,hp9,hg⟩
    have G9:=Lib.hid (grown_new G8.out hg LB)
    have S9:=S8.out.kept hg (fun e=>by injection e with e;omega)
    have f9:=S9.fz 2
    have x9:=S9.c.2.2.1
    have l9:=S9.lt
    have gs9:=grown_setCell (i:=2) (grown_refl w9 (some X)) (.int .u64 Vl)
    have SA:=S9.s2 Vl
    have GA:=Lib.hid (grown_new G9.out gs9 hXw)
    have AA:=AD.out _ GA.out ⟨S,Vl,Wk⟩ P b2
    unfold syV syArr at AA
    obtain ⟨y0,y1,y2,y3⟩:=SA.c
    have yl:=SA.lt
    have AH:=Lib.hid AA
    try simp only [] at y1
    try simp only [] at y2
    try simp only [] at y3
    try simp only [Sy.zero] at x9
    clear hp9 hg gs9 S9 SA AA
    go_wp2_with fail
    refine AH.out.mono ?_
    rintro r w' ⟨rfl,hb,ht⟩
    have BF:=Lib.hid (Below.trans (below_grown GA.out hBw (by simp)) hb)
    have TF:=Lib.hid ht
    clear hb ht
    go_wp2
    go_ret
    rw [EE.out.1,EE.out.2]
    exact ⟨rfl,BF.out,TF.out⟩
 ·have d15:(K == 15)=false:=by rw [beq_eq_false_iff_ne];exact k15
  by_cases k3:K=3
  ·have d3:(K == 3)=true:=by rw [k3];rfl
   have E2:=B2.out (.inl k3)
   rw [if_neg k15] at E2
   have EE:=Lib.hid E2
   clear k15 k3 E2
   go_wp2_with fail
   refine (N6.out _ _ _ _ P5.out).mono ?_
   rintro r w7 ⟨rfl,hp7,hg⟩
   have G7:=Lib.hid (grown_new G5.out hg LB)
   have P7:=Lib.hid hp7
   have S7:=S5.out.kept hg (fun e=>by injection e with e;omega)
   have f7:=S7.fz 3
   have x7:=S7.c.2.2.2
   have l7:=S7.lt
   have gs7:=grown_setCell (i:=3) (grown_refl w7 (some X)) (.bool Wk)
   have S8:=Lib.hid (S7.s3 Wk)
   have P8:=Lib.hid (P7.out.kept gs7 (.inr hbX))
   have G8:=Lib.hid (grown_new G7.out gs7 hXw)
   have HSZ:=Lib.hid S7
   clear hp7 hg gs7 S7
   try simp only [Sy.zero] at x7
   go_wp2_with fail
   clear x7 f7 l7
   refine (N8.out _ _ _ _ P8.out).mono ?_
   rintro r w9 ⟨rfl,hp9,hg⟩
   have G9:=Lib.hid (grown_new G8.out hg LB)
   have S9:=S8.out.kept hg (fun e=>by injection e with e;omega)
   have f9:=S9.fz 2
   have x9:=S9.c.2.2.1
   have l9:=S9.lt
   have gs9:=grown_setCell (i:=2) (grown_refl w9 (some X)) (.int .u64 Vl)
   have SA:=S9.s2 Vl
   have GA:=Lib.hid (grown_new G9.out gs9 hXw)
   have AA:=AD.out _ GA.out ⟨0,Vl,Wk⟩ P b2
   unfold syV syArr at AA
   obtain ⟨y0,y1,y2,y3⟩:=SA.c
   have yl:=SA.lt
   have AH:=Lib.hid AA
   try simp only [Sy.zero] at y1
   try simp only [] at y2
   try simp only [] at y3
   try simp only [Sy.zero] at x9
   clear hp9 hg gs9 S9 SA AA
   go_wp2_with fail
   refine AH.out.mono ?_
   rintro r w' ⟨rfl,hb,ht⟩
   have BF:=Lib.hid (Below.trans (below_grown GA.out hBw (by simp)) hb)
   have TF:=Lib.hid ht
   clear hb ht
   go_wp2
   go_ret
   rw [EE.out.1,EE.out.2]
   exact ⟨rfl,BF.out,TF.out⟩
  ·have d3:(K == 3)=false:=by rw [beq_eq_false_iff_ne];exact k3
   have EE:=Lib.hid (B3.out k15 k3)
   clear k15 k3
   go_wp2
   go_ret
   rw [EE.out.1,EE.out.2]
   exact ⟨rfl,below_grown G5.out hBw (by simp),fun _=>⟨_,_,H.out.grown G5.out⟩⟩
end Go.Proofs.YtkmbkpoclhbmgaaGreat
namespace Go.Proofs.YtkmbkpoclhbmgaaGreat
open Go.RowKit
variable {w w':World}
def RCur (w:World) (a:Nat) (q:Option Addr) (n c:Nat) (p:Int) (big bad:Bool):Prop:=w.heap[a]?=some (.cells #[.slice q n c,.int .i64 p,.bool big,.bool bad] 215 (0,0))
section
variable {a:Nat} {q:Option Addr} {n c:Nat} {p:Int} {big bad:Bool}
theorem RCur.c0 (h:RCur w a q n c p big bad):w.cell? ⟨a,0,none⟩=some (.slice q n c):=by rw [cell_of h];rfl
theorem RCur.c1 (h:RCur w a q n c p big bad):w.cell? ⟨a,1,none⟩=some (.int .i64 p):=by rw [cell_of h];rfl
theorem RCur.c2 (h:RCur w a q n c p big bad):w.cell? ⟨a,2,none⟩=some (.bool big):=by rw [cell_of h];rfl
theorem RCur.c3 (h:RCur w a q n c p big bad):w.cell? ⟨a,3,none⟩=some (.bool bad):=by rw [cell_of h];rfl
theorem RCur.f (h:RCur w a q n c p big bad) (i:Nat):w.frozen? ⟨a,i,none⟩=false:=free_of h
theorem RCur.set1 (h:RCur w a q n c p big bad) (k:Int):RCur (w.setCell ⟨a,1,none⟩ (.int .i64 k)) a q n c k big bad:=by unfold RCur;rw [heap_setCell_same w a 1 _ _ _ h];rfl
theorem RCur.set3 (h:RCur w a q n c p big bad) (b:Bool):RCur (w.setCell ⟨a,3,none⟩ (.bool b)) a q n c p big b:=by unfold RCur;rw [heap_setCell_same w a 3 _ _ _ h];rfl
theorem need_ok (h:RCur w a q n c p big false) :
  Calls Tryz.prog 148 #[.pointer (some ⟨a,0,none⟩),.bool true] w fun e w'=>e=.returned (.bool false)∧RCur w' a q n c p big false∧w.grownBy w' (some a):=by
 have c3:=h.c3
 have f3:=h.f 3
 have F:=Lib.hid (h.set3 false)
 have G:=Lib.hid (grown_setCell (i:=3) (grown_refl w (some a)) (.bool false))
 clear h
 go_enter Tryz.func148,Tryz.ntmps148
 go_wp2
 go_ret
 exact ⟨rfl,F.out,G.out⟩
set_option maxRecDepth 20000 in
set_option maxHeartbeats 1600000 in
theorem rbytes_ok {x:Addr} (h:RCur w a (some x) n c 0 big false) (k:Nat) (h0 : 0 < k) (hk:k≤n) (hn:n≤c) (hc:c≤9223372036854775807) :
  Calls Tryz.prog 149 #[.pointer (some ⟨a,0,none⟩),.int .i64 k] w fun e w'=>e=.returned (.slice (some x) k c)∧RCur w' a (some x) n c k big false∧w.grownBy w' (some a):=by
 have c0:=h.c0
 have c1:=h.c1
 have c3:=h.c3
 have N:=Lib.hid (fun (w1:World) (hh:RCur w1 a (some x) n c 0 big false)=>need_ok hh)
 have H:=Lib.hid (show RCur w.drew a (some x) n c 0 big false from h)
 have D:=Lib.hid (show w.grownBy w.drew (some a) from grown_drewN (grown_refl w (some a)) 1)
 clear h
 go_enter Tryz.func149,Tryz.ntmps149
 go_wp2
 go_still_tail 17,(by kernel_rfl)
 change wpList _ _ _ _ _ w.drew
 generalize w.drew=w1 at *
 go_wp2_with fail
 rw [show decide ((k:Int)≤(n:Int))=true from decide_eq_true (by omega)]
 refine (N.out _ H.out).mono ?_
 rintro e w2 ⟨rfl,h2,hg2⟩
 have d0:=h2.c0
 have d1:=h2.c1
 have g1:=h2.f 1
 have hcne:¬ c=0:=by omega
 have G2:=Lib.hid (grown_trans D.out hg2)
 have G:=Lib.hid (fun (w':World) (hg:w.grownBy w' (some a))=>grown_setCell (i:=1) hg (.int .i64 (k:Int)))
 have F:=Lib.hid (fun m=>RCur.set1 (show RCur (w2.drewN m) a (some x) n c 0 big false from h2) k)
 clear h2 hg2 N H D c0 c1 c3
 go_wp2
 go_quiet (fail)
 go_wp2
 go_ret
 exact ⟨rfl,F.out _,G.out _ (grown_drewN G2.out _)⟩
def acc (big:Bool) (ys:List Int) (j:Nat):Int:=if big then beN (ys.take j) else leN (ys.drop (ys.length - j))
theorem acc_bd {ys:List Int} (hy:Small ys) (big:Bool) (j:Nat) (hj:j≤ys.length) : 0≤acc big ys j∧acc big ys j < 2 ^ (8 * j):=by
 cases big
 ·have:=leN_bd (ys.drop (ys.length - j)) (fun x hx=>hy x (List.mem_of_mem_drop hx))
  rw [List.length_drop,show ys.length - (ys.length - j)=j by omega] at this
  exact this
 ·have:=beN_bd (ys.take j) (fun x hx=>hy x (List.mem_of_mem_take hx))
  rw [List.length_take,Nat.min_eq_left hj] at this
  exact this
theorem acc_big (ys:List Int) (j:Nat) (hj:j < ys.length):acc true ys (j + 1)=acc true ys j * 256 + ys.getD j 0:=by
 unfold acc
 rw [if_pos rfl,if_pos rfl,List.take_succ_eq_append_getElem hj,beN_snoc]
 simp [hj]
theorem acc_little (ys:List Int) (j:Nat) (hj:j < ys.length):acc false ys (j + 1)=acc false ys j * 256 + ys.getD (ys.length - 1 - j) 0:=by
 unfold acc
 rw [if_neg (by simp),if_neg (by simp),List.drop_eq_getElem_cons (show ys.length - (j + 1) < ys.length by omega),show ys.length - (j + 1) + 1=ys.length - j by omega]
 simp only [leN]
 rw [show ys.length - 1 - j=ys.length - (j + 1) by omega,List.getD_eq_getElem?_getD,List.getElem?_eq_getElem (by omega)]
 simp only [Option.getD_some]
 omega
theorem acc_all (big:Bool) (ys:List Int):acc big ys ys.length=numOf big ys:=by cases big <;> simp [acc,numOf]
theorem rnumber_248 {b o:Nat} (ys:List Int) (h:RCur w a (some ⟨b,o,none⟩) n c 0 big false) (k:Nat) (hs:k=2∨k=4∨k=8) (hk:k≤n) (hn:n≤c) (hc:c≤9223372036854775807) (hl:ys.length=k) (hy:Small ys)
  (hb:∀ i,i < k→∀ w',w.grownBy w' (some a)→w'.cell? ⟨b,o + i,none⟩=some (.int .u8 (ys.getD i 0))) :
  Calls Tryz.prog 123 #[.pointer (some ⟨a,0,none⟩),.int .i64 k] w fun e w'=>e=.returned (.int .u64 (numOf big ys))∧w.grownBy w' (some a):=by
 have N:=Lib.hid (need_ok h)
 have B:=Lib.hid (fun w1 (h1:RCur w1 a (some ⟨b,o,none⟩) n c 0 big false)=>rbytes_ok h1 k (by omega) hk hn hc)
 have C:=Lib.hid hb
 have Y:=Lib.hid hy
 have L:=Lib.hid hl
 have E:=Lib.hid (acc_all big ys)
 clear h hb hy
 rcases hs with rfl | rfl | rfl
 all_goals
  go_enter Tryz.func123,Tryz.ntmps123
  go_wp2_with fail
  refine N.out.mono ?_
  rintro e w1 ⟨rfl,h1,hg1⟩
  have B1:=Lib.hid (B.out w1 h1)
  clear h1
  go_wp2_with fail
  refine B1.out.mono ?_
  rintro e w2 ⟨rfl,h2,hg2⟩
  have hg:=grown_trans hg1 hg2
  have d2:=h2.c2
  have C2:=Lib.hid (fun i hi=>C.out i hi w2 hg)
  have G:=Lib.hid hg
  clear h2 hg1 hg2 hg hl
  go_wp2
  go_loop [6,7] (fun n i=>∃ j:Nat,j≤ys.length∧i=.int .i64 j∧n=.int .u64 (acc big ys j)) (fun _ i=>8 - (intOf i).toNat)
  case atStart=>exact ⟨0,Nat.zero_le _,rfl,by cases big <;> simp [acc,beN,leN]⟩
  case round =>
    obtain ⟨j,hj,rfl,rfl⟩:=hrel
    have hl:=L.out
    by_cases hlt:j < ys.length
    ·have hbd:=acc_bd Y.out big j hj
     have hbd2:=acc_bd Y.out big (j + 1) hlt
     have hp:(2:Int) ^ (8 * (j + 1))≤2 ^ 64:=by
      have:(2:Nat) ^ (8 * (j + 1))≤2 ^ 64:=Nat.pow_le_pow_right (by decide) (by omega)
      exact_mod_cast this
     have hp64:(2:Int) ^ 64=18446744073709551616:=by decide
     have hb2:acc big ys (j + 1) < 18446744073709551616:=by omega
     have hb0:=hbd2.1
     clear hbd2 hp hp64
     cases big
     ·have hs:=acc_little ys j hlt
      have cj:=C2.out (ys.length - 1 - j) (by omega)
      have hx:=Y.out _ (List.getElem_mem (show ys.length - 1 - j < ys.length by omega))
      rw [show ys[ys.length - 1 - j]=ys.getD (ys.length - 1 - j) 0 by rw [List.getD_eq_getElem?_getD,List.getElem?_eq_getElem (by omega)];rfl] at hx
      have hi1:ys.length - 1 - j=ys.length - 1 - j:=rfl
      generalize ys.getD (ys.length - 1 - j) 0=y at *
      rw [hl] at cj
      have S:=Lib.hid hs
      have hA0:=hbd.1
      have hA1:acc false ys j * 256 + y < 18446744073709551616:=by omega
      clear hbd hs hi1 hb2 hb0
      generalize acc false ys j=A at *
      go_wp2
      go_round
      case rel=>exact ⟨j + 1,by omega,by go_num,by rw [S.out]⟩
      case measure=>simp [intOf];omega
     ·have hs:=acc_big ys j hlt
      have cj:=C2.out j (by omega)
      have hx:=Y.out _ (List.getElem_mem hlt)
      rw [show ys[j]=ys.getD j 0 by rw [List.getD_eq_getElem?_getD,List.getElem?_eq_getElem hlt];rfl] at hx
      generalize ys.getD j 0=y at *
      have S:=Lib.hid hs
      have hA0:=hbd.1
      have hA1:acc true ys j * 256 + y < 18446744073709551616:=by omega
      clear hbd hs hb2 hb0
      generalize acc true ys j=A at *
      go_wp2
      go_round
      case rel=>exact ⟨j + 1,by omega,by go_num,by rw [S.out]⟩
      case measure=>simp [intOf];omega
    ·have hjl:j=ys.length:=by omega
     subst hjl
     go_wp2
     go_ret
     have hE:=E.out
     rw [L.out] at hE
     exact ⟨congrArg (fun z=>Ending.returned (Value.int .u64 z)) hE,G.out⟩
end
end Go.Proofs.YtkmbkpoclhbmgaaGreat
namespace Go.Proofs.YtkmbkpoclhbmgaaGreat
open Go.RowKit
variable {w w':World}
theorem get10_any (ys:List Int) {q:Option Addr} {c n:Nat} (h:IsBytes w q c ys) (hn:ys.length=n) (hc:n≤c) (hcm:c≤9223372036854775807) (hy:Byt ys) (p k:Nat) (hs:k=2∨k=4∨k=8) (hk:p + k≤n) :
  Calls Tryz.prog 151 #[.slice q n c,.int .i64 p,.int .i64 k] w fun e w'=>e=.returned (.int .u64 (leN ((ys.drop p).take k)))∧w.grownBy w' none:=by
 obtain ⟨b,o,rfl,hcell⟩:=h.2 (by omega)
 have X:=Lib.hid (fun (w1:World) (a:Nat) (hw:w.grownBy w1 none) (ha:w.heap.size≤a) (hr:RCur w1 a (some ⟨b,o + p,none⟩) k (c - p) 0 false false) =>
  rnumber_248 ((ys.drop p).take k) hr k hs (by omega) (by omega) (by omega) (by simp;omega) (fun x hx=>hy x (List.mem_of_mem_drop (List.mem_of_mem_take hx))) (fun i hi w' hg=>by
   have h1:=hcell (p + i) (by omega)
   have h2:w'.cell? ⟨b,o + (p + i),none⟩=some (.int .u8 (ys.getD (p + i) 0)):=(grown_new hw hg ha).cell h1 (by simp)
   rw [show o + p + i=o + (p + i) by omega,h2]
   simp [List.getD,hi]))
 have hS:=fun W=>cut_run (T:=29) (by kernel_rfl) size_u8 b o n c p k hk hc (by omega) (p:Int) ((p:Int) + k) rfl rfl W
 have hb1:(p:Int) + k≤9223372036854775807:=by omega
 unfold numOf at X
 rw [if_neg (by simp)] at X
 clear h hcell hn hk hc hcm hs
 generalize leN ((ys.drop p).take k)=V at *
 go_enter Tryz.func151,Tryz.ntmps151
 go_wp2_with fail
 have R:RCur (w.alloc (.cells #[.slice (some ⟨b,o + p,none⟩) k (c - p),.int .i64 0,.bool false,.bool false] 215)) w.heap.size (some ⟨b,o + p,none⟩) k (c - p) 0 false false:=heap_alloc_new w _
 refine (X.out _ _ (grown1 _ _) (Nat.le_refl _) R).mono ?_
 rintro e w' ⟨rfl,hg⟩
 have G:=Lib.hid (grown_new (grown1 _ _) hg (Nat.le_refl _))
 clear hg hS
 go_wp2
 go_ret
 exact ⟨rfl,G.out⟩
theorem told10_any (k:Int) (hk : 0≤k∧k < 256) (w:World) :
  Calls Tryz.prog 127 #[.int .i64 k] w fun e w'=>e=.returned (.bool (decide (k=15) || decide (k=3)))∧w'=w:=by
 obtain ⟨r,hr⟩:∃ r,r=(decide (k=15) || decide (k=3)):=⟨_,rfl⟩
 rw [← hr]
 have HR:=Lib.hid hr
 clear hr
 obtain ⟨h0,h1⟩:=hk
 go_enter Tryz.func127,Tryz.ntmps127
 go_wp2
 all_goals
  go_ret
  refine ⟨ret_bool ?_,rfl⟩
  rw [HR.out,Bool.eq_iff_iff]
  simp_all
  try omega
theorem results_sy2 {g:Nat} {nm:ByteArray} {x:Sy} {fn:Func} {p u:Tmp} (hr:fn.results=#[.cell p 95,.tmp u]) {tmps:Array Value} {y:Value} (hp:tmps.getD p undef=.pointer (some ⟨g,0,none⟩)) (hu:tmps.getD u undef=y) (h:SyAt w g nm x) :
  (results fn tmps).run Tryz.prog w=.ok (.tuple #[syV nm x,y]) w:=by
 rw [results_cell_tmp hr,hp,hu,show (asAddr (.pointer (some ⟨g,0,none⟩)):Sem Addr).run Tryz.prog w=.ok ⟨g,0,none⟩ w from rfl,Result.andThen_ok,load_sy h,Result.andThen_ok]
end Go.Proofs.YtkmbkpoclhbmgaaGreat
namespace Go.Proofs.YtkmbkpoclhbmgaaGreat
open Go.RowKit
variable {w w':World} {ys e:List Int} {n:Int}
def oneV (ys:List Int) (n:Int) (e:List Int):Sym:=if nlErr ys n e=0 then nlNew ys e else ([],Sy.zero)
set_option maxRecDepth 20000 in
set_option maxHeartbeats 1600000 in
theorem one10_any {q q2:Option Addr} {c c2 N:Nat} (hb:IsBytes w q c e) (hl:e.length=16) (hc : 16≤c) (hcm:c≤9223372036854775807) (he:Byt e)
  (hb2:IsBytes w q2 c2 ys) (hN:ys.length=N) (hbig:N≤140737488355328) (hc2:N≤c2) (ht:nlTold e=true) :
  Calls Tryz.prog 128 #[.slice q 16 c,.slice q2 N c2,.int .i64 n] w fun r w'=>r=.returned (.tuple #[syV (strOfNums (oneV ys n e).1) (oneV ys n e).2,.int .i64 (nlErr ys n e)])∧w.grownBy w' none:=by
 have Q8:=Lib.hid (fun (V:World) (hV:w.grownBy V none)=>get10_any e (hb.kept hV (by simp)) hl hc hcm he 8 8 (by decide) (by omega))
 have Q6:=Lib.hid (fun (V:World) (hV:w.grownBy V none)=>get10_any e (hb.kept hV (by simp)) hl hc hcm he 6 2 (by decide) (by omega))
 have Q0:=Lib.hid (fun (V:World) (hV:w.grownBy V none)=>get10_any e (hb.kept hV (by simp)) hl hc hcm he 0 4 (by decide) (by omega))
 rw [show leN ((e.drop 8).take 8)=nlVal e from rfl] at Q8
 rw [show leN ((e.drop 6).take 2)=nlDesc e from rfl] at Q6
 rw [show leN ((e.drop 0).take 4)=nlPlace e from rfl] at Q0
 obtain ⟨b,o,rfl,hcell⟩:=hb.2 (by omega)
 have C4:=Lib.hid (show w.cell? ⟨b,o + 4,none⟩=some (.int .u8 (nlKind e)) from hcell 4 (by omega))
 have C5:=Lib.hid (show w.cell? ⟨b,o + 5,none⟩=some (.int .u8 (nlSec e)) from hcell 5 (by omega))
 have bp:=nlPlace_bd he
 have bd:=nlDesc_bd he
 have bv:=nlVal_bd he
 have b5 : 0≤nlSec e∧nlSec e < 256:=byt_at he 5
 obtain ⟨P,hP⟩:∃ P:Nat,nlPlace e=P:=⟨(nlPlace e).toNat,by omega⟩
 have NM:=Lib.hid (fun (V:World) (hV:w.grownBy V none) (b2 o2:Nat) (hq:q2=some ⟨b2,o2,none⟩) (h:P < N) =>
  name01_any (w:=V) b2 (o2 + P) (c2 - P) (N - P) (ys.drop P) (by
    have:=(hb2.kept hV (by simp)).2 (by omega)
    obtain ⟨b',o',e',hx⟩:=this
    rw [hq] at e'
    injection e' with e'
    injection e' with e1 e2 _
    subst e1 e2
    refine IsBytes.mk_at fun i hi=>?_
    rw [List.length_drop] at hi
    rw [Nat.add_assoc,hx (P + i) (by omega)]
    simp [List.getD,List.getElem?_drop]) (by rw [List.length_drop,hN]) (by omega) (by omega))
 have HQ:=Lib.hid (fun (h:P < N)=>(by
  obtain ⟨b',o',e',hx⟩:=hb2.2 (by omega)
  obtain ⟨V,hV,_,h3⟩:=cut_bytes (c:=c2) (p:=P) hx (by omega) (by omega) .u64
  rw [h3 (by omega),hN] at hV
  exact ⟨b',o',e',hV⟩:∃ b2 o2,q2=some ⟨b2,o2,none⟩∧∀ W,(Instr.slice 29 (.slice (some ⟨b2,o2,none⟩) N c2) (some (.int .u64 (P:Int))) none none).run Tryz.prog W=.ok (.slice (some ⟨b2,o2 + P,none⟩) (N - P) (c2 - P)) W))
 obtain ⟨E,hE⟩:∃ E,E=nlErr ys n e:=⟨_,rfl⟩
 obtain ⟨y,hyv⟩:∃ y,y=oneV ys n e:=⟨_,rfl⟩
 rw [← hE,← hyv]
 have Y1:=Lib.hid (show E≠0→y=([],Sy.zero) from fun h=>by rw [hyv];unfold oneV;rw [← hE,if_neg h])
 have Y0:=Lib.hid (show E=0→y=(pre (ys.drop P),⟨if nlKind e=15 then nlSec e else 0,nlVal e,decide (nlDesc e / 128 % 2=1)⟩) from fun h=>by
  rw [hyv];unfold oneV;rw [← hE,if_pos h];unfold nlNew nlNm nlSy;rw [hP,Int.toNat_natCast])
 unfold nlErr nlNm at hE
 rw [hP,Int.toNat_natCast,hN,List.length_drop,hN] at hE
 have hk:nlKind e=15∨nlKind e=3:=by
  unfold nlTold at ht
  simpa using ht
 obtain ⟨Wk,hWk⟩:∃ W,W=decide (nlDesc e / 128 % 2=1):=⟨_,rfl⟩
 have hw1:(nlDesc e / 128 % 2 == 1)=Wk:=by rw [hWk];rfl
 rw [← hWk] at Y0
 rw [hP] at Q0 bp
 generalize nlKind e=K at *
 generalize nlSec e=S at *
 generalize nlVal e=Vl at *
 generalize nlDesc e=De at *
 have hTl:=pre_le (ys.drop P)
 rw [List.length_drop,hN] at hTl
 have n1:=text_nil (pre (ys.drop P))
 have hsz:(strOfNums (pre (ys.drop P))).size=(pre (ys.drop P)).length:=strOfNums_size _
 generalize pre (ys.drop P)=T at *
 have HE:=Lib.hid hE
 have g0:=grown1 w (.cells #[.string ⟨#[]⟩,.int .i64 0,.int .u64 0,.bool false] 95)
 have s0:=SyAt.new w ⟨#[]⟩ Sy.zero
 have SI:=Lib.hid (fun (V:World) (hV:w.grownBy V none) (kl:IntKind) (hp:P < N)=>(cut_lo (T:=29) (k:=1) (by kernel_rfl) (fun W=>by kernel_rfl) 0 0 N c2 P kl (Nat.le_of_lt hp)))
 clear SI
 obtain ⟨R,hR⟩:∃ R,R=w.heap.size:=⟨_,rfl⟩
 have hRw:w.heap.size≤R:=by rw [hR];exact Nat.le_refl _
 obtain ⟨w1,hw1'⟩:∃ W,W=w.alloc (.cells #[.string ⟨#[]⟩,.int .i64 0,.int .u64 0,.bool false] 95):=⟨_,rfl⟩
 rw [← hR] at s0
 simp only [Sy.zero] at s0
 rw [← hw1'] at s0 g0
 have hRl:R < w1.heap.size:=lt_of_block s0
 have S0:=Lib.hid s0
 have G0:=Lib.hid g0
 clear hb hb2 hl he hE hyv hWk ht s0 g0 hcell hN
 go_enter Tryz.func128,Tryz.ntmps128
 go_upto_region 1 with fail
 rw [← hw1',← hR]
 clear hw1' hR
 go_wp2_with fail
 refine (Q8.out _ G0.out).mono ?_
 rintro r w2 ⟨rfl,hg⟩
 have G2:=Lib.hid (grown_trans G0.out hg)
 have S2:=Lib.hid (S0.out.kept hg (by simp))
 clear hg S0
 go_wp2_with fail
 refine (Q6.out _ G2.out).mono ?_
 rintro r w3 ⟨rfl,hg⟩
 have G3:=Lib.hid (grown_trans G2.out hg)
 have S3:=Lib.hid (S2.out.kept hg (by simp))
 have hl3:R < w3.heap.size:=S3.out.lt
 clear hg S2 G2 Q8 Q6
 have g4:=grown1 w3 (.cells #[.string ⟨#[]⟩,.int .i64 0,.int .u64 Vl,.bool Wk] 95)
 have x4:=SyAt.new w3 ⟨#[]⟩ ⟨0,Vl,Wk⟩
 obtain ⟨w4,hw4⟩:∃ W,W=w3.alloc (.cells #[.string ⟨#[]⟩,.int .i64 0,.int .u64 Vl,.bool Wk] 95):=⟨_,rfl⟩
 obtain ⟨X,hX⟩:∃ X,X=w3.heap.size:=⟨_,rfl⟩
 rw [← hX] at x4
 rw [← hw4] at g4 x4
 have G4:=Lib.hid (grown_trans G3.out g4)
 have S4:=Lib.hid (S3.out.kept g4 (by simp))
 have X4:=Lib.hid x4
 have hRX:R≠X:=by omega
 have hwX:w.heap.size≤X:=by rw [hX];exact G3.out.size
 have hXl:=x4.lt
 have hRl4:=S4.out.lt
 go_upto_region 2 with fail
 rw [← hw4,← hX]
 clear hw4 hX g4 x4 S3 G3 hl3 hRl
 have c4:=grown_cell G4.out C4.out
 have c5:=grown_cell G4.out C5.out
 have he0:=HE.out
 rcases hk with rfl | rfl
 ·rw [if_pos rfl] at Y0
  obtain ⟨hS0,hS1⟩:=b5
  have hS2:S≤9223372036854775807:=by omega
  have hSw:wrap64 S=S:=IntWalk.wrap64_in S (by omega)
  have xq:=X4.out.c
  simp only [] at xq
  obtain ⟨xq0,xq1,xq2,xq3⟩:=xq
  have xqf:=X4.out.fz 1
  have gs:=grown_setCell (i:=1) (grown_refl w4 (some X)) (.int .i64 S)
  have X5:=Lib.hid (X4.out.s1 S)
  have S5:=Lib.hid (S4.out.kept gs (fun e=>by injection e with e;exact hRX e.symm))
  have G5:=Lib.hid (grown_new G4.out gs hwX)
  clear gs
  obtain ⟨w5,hw5⟩:∃ W,W=w4.setCell ⟨X,1,none⟩ (.int .i64 S):=⟨_,rfl⟩
  rw [← hw5] at X5 S5 G5
  go_upto_region 4 with fail
  rw [← hw5]
  clear hw5 xq0 xq1 xq2 xq3 xqf c4 c5 hRl4 hXl
  have xq:=X5.out.c
  simp only [] at xq
  obtain ⟨xq0,xq1,xq2,xq3⟩:=xq
  have hXl:=X5.out.lt
  have hRl4:=S5.out.lt
  by_cases hs0:S=0
  · have ds:decide (S < 1)=true:=by simp;omega
    rw [if_pos ⟨rfl,.inl hs0⟩] at he0
    have EE:=Lib.hid he0
    clear he0 hs0
    have xr:=S5.out.c
    simp only [] at xr
    obtain ⟨r0,r1,r2,r3⟩:=xr
    have rf:=S5.out.fz
    have SE:=Lib.hid (S5.out.put ⟨#[]⟩ Sy.zero)
    have GE:=Lib.hid (grown_new G5.out (grown_put4 (grown_refl _ (some R)) (.string ⟨#[]⟩) (.int .i64 0) (.int .u64 0) (.bool false)) hRw)
    simp only [Sy.zero] at SE
    go_wp2
    refine bodyPost_ret (results_sy2 rfl rfl rfl SE.out) rfl ?_
    refine ⟨?_,GE.out⟩
    rw [Y1.out (by rw [EE.out];decide),EE.out]
    rfl
  · have ds:decide (S < 1)=false:=by simp;omega
    by_cases hsn:n < S
    ·have dn:decide (n < S)=true:=decide_eq_true hsn
     rw [if_pos ⟨rfl,.inr hsn⟩] at he0
     have EE:=Lib.hid he0
     clear he0 hs0 hsn
     have xr:=S5.out.c
     simp only [] at xr
     obtain ⟨r0,r1,r2,r3⟩:=xr
     have rf:=S5.out.fz
     have SE:=Lib.hid (S5.out.put ⟨#[]⟩ Sy.zero)
     have GE:=Lib.hid (grown_new G5.out (grown_put4 (grown_refl _ (some R)) (.string ⟨#[]⟩) (.int .i64 0) (.int .u64 0) (.bool false)) hRw)
     simp only [Sy.zero] at SE
     go_wp2
     refine bodyPost_ret (results_sy2 rfl rfl rfl SE.out) rfl ?_
     refine ⟨?_,GE.out⟩
     rw [Y1.out (by rw [EE.out];decide),EE.out]
     rfl
    ·have dn:decide (n < S)=false:=decide_eq_false hsn
     rw [if_neg (fun h=>h.2.elim hs0 hsn)] at he0
     clear hs0 hsn
     go_wp2_with fail
     refine (Q0.out _ G5.out).mono ?_
     rintro r wB ⟨rfl,hg⟩
     have GB:=Lib.hid (grown_trans G5.out hg)
     have XB:=Lib.hid (X5.out.kept hg (by simp))
     have SB:=Lib.hid (S5.out.kept hg (by simp))
     clear hg
     by_cases hNP:N≤P
     ·have dNP:decide ((N:Int)≤(P:Int))=true:=by simp;omega
      have dNQ:decide (N≤P)=true:=decide_eq_true hNP
      rw [if_pos (by omega)] at he0
      have EE:=Lib.hid he0
      clear he0 hNP
      have xr:=SB.out.c
      simp only [] at xr
      obtain ⟨r0,r1,r2,r3⟩:=xr
      have rf:=SB.out.fz
      have SE:=Lib.hid (SB.out.put ⟨#[]⟩ Sy.zero)
      have GE:=Lib.hid (grown_new GB.out (grown_put4 (grown_refl _ (some R)) (.string ⟨#[]⟩) (.int .i64 0) (.int .u64 0) (.bool false)) hRw)
      simp only [Sy.zero] at SE
      go_wp2
      refine bodyPost_ret (results_sy2 rfl rfl rfl SE.out) rfl ?_
      refine ⟨?_,GE.out⟩
      rw [Y1.out (by rw [EE.out];decide),EE.out]
      rfl
     ·have dNP:decide ((N:Int)≤(P:Int))=false:=by simp;omega
      have dNQ:decide (N≤P)=false:=decide_eq_false hNP
      rw [if_neg (by omega)] at he0
      obtain ⟨b2,o2,rfl,hcut⟩:=HQ.out (by omega)
      have hcut:=hcut wB
      have NB:=Lib.hid (NM.out _ GB.out b2 o2 rfl (by omega))
      have xb:=XB.out.c
      simp only [] at xb
      obtain ⟨xb0,xb1,xb2,xb3⟩:=xb
      have xf:=XB.out.fz 0
      have xl:=XB.out.lt
      have gs:=grown_setCell (i:=0) (grown_refl wB (some X)) (.string (strOfNums T))
      have XC:=Lib.hid (XB.out.s0 (strOfNums T))
      have SC:=Lib.hid (SB.out.kept gs (fun e=>by injection e with e;exact hRX e.symm))
      have GC:=Lib.hid (grown_new GB.out gs hwX)
      clear gs
      have hNP2:(P:Int)≤9223372036854775807:=by omega
      go_wp2_with fail
      refine NB.out.mono ?_
      rintro r wD ⟨rfl,rfl⟩
      obtain ⟨wC,hwC⟩:∃ W,W=wD.setCell ⟨X,0,none⟩ (.string (strOfNums T)):=⟨_,rfl⟩
      rw [← hwC] at XC SC GC
      go_upto_region 10 with fail
      rw [← hwC]
      clear hwC hcut xb0 xb1 xb2 xb3 xf xl
      have xc:=XC.out.c
      simp only [] at xc
      obtain ⟨xc0,xc1,xc2,xc3⟩:=xc
      have xcl:=XC.out.lt
      have sl:=SC.out.lt
      by_cases hT0:T=[]
      ·rw [decide_eq_true hT0] at n1
       rw [if_pos (.inl hT0)] at he0
       have EE:=Lib.hid he0
       clear he0 hNP hT0
       have xr:=SC.out.c
       simp only [] at xr
       obtain ⟨r0,r1,r2,r3⟩:=xr
       have rf:=SC.out.fz
       have SE:=Lib.hid (SC.out.put ⟨#[]⟩ Sy.zero)
       have GE:=Lib.hid (grown_new GC.out (grown_put4 (grown_refl _ (some R)) (.string ⟨#[]⟩) (.int .i64 0) (.int .u64 0) (.bool false)) hRw)
       simp only [Sy.zero] at SE
       go_wp2
       refine bodyPost_ret (results_sy2 rfl rfl rfl SE.out) rfl ?_
       refine ⟨?_,GE.out⟩
       rw [Y1.out (by rw [EE.out];decide),EE.out]
       rfl
      ·rw [decide_eq_false hT0] at n1
       by_cases hEnd:N - P≤T.length
       ·have dEnd:((P:Int) + (T.length:Int) == (N:Int))=true:=by rw [beq_iff_eq];omega
        rw [if_pos (.inr hEnd)] at he0
        have EE:=Lib.hid he0
        clear he0 hNP hT0 hEnd
        have xr:=SC.out.c
        simp only [] at xr
        obtain ⟨r0,r1,r2,r3⟩:=xr
        have rf:=SC.out.fz
        have SE:=Lib.hid (SC.out.put ⟨#[]⟩ Sy.zero)
        have GE:=Lib.hid (grown_new GC.out (grown_put4 (grown_refl _ (some R)) (.string ⟨#[]⟩) (.int .i64 0) (.int .u64 0) (.bool false)) hRw)
        simp only [Sy.zero] at SE
        go_wp2
        refine bodyPost_ret (results_sy2 rfl rfl rfl SE.out) rfl ?_
        refine ⟨?_,GE.out⟩
        rw [Y1.out (by rw [EE.out];decide),EE.out]
        rfl
       ·have dEnd:((P:Int) + (T.length:Int) == (N:Int))=false:=by rw [beq_eq_false_iff_ne];omega
        rw [if_neg (fun h=>h.elim hT0 hEnd)] at he0
        by_cases hLong : 255 < T.length
        ·have dLong:decide ((255:Int) < (T.length:Int))=true:=by simp;omega
         rw [if_pos hLong] at he0
         have EE:=Lib.hid he0
         clear he0 hNP hT0 hEnd hLong
         have xr:=SC.out.c
         simp only [] at xr
         obtain ⟨r0,r1,r2,r3⟩:=xr
         have rf:=SC.out.fz
         have SE:=Lib.hid (SC.out.put ⟨#[]⟩ Sy.zero)
         have GE:=Lib.hid (grown_new GC.out (grown_put4 (grown_refl _ (some R)) (.string ⟨#[]⟩) (.int .i64 0) (.int .u64 0) (.bool false)) hRw)
         simp only [Sy.zero] at SE
         go_wp2
         refine bodyPost_ret (results_sy2 rfl rfl rfl SE.out) rfl ?_
         refine ⟨?_,GE.out⟩
         rw [Y1.out (by rw [EE.out];decide),EE.out]
         rfl
        ·have dLong:decide ((255:Int) < (T.length:Int))=false:=by simp;omega
         rw [if_neg hLong] at he0
         have EE:=Lib.hid he0
         clear he0 hNP hT0 hEnd hLong
         have xr:=SC.out.c
         simp only [] at xr
         obtain ⟨r0,r1,r2,r3⟩:=xr
         have rf:=SC.out.fz
         have SE:=Lib.hid (SC.out.put (strOfNums T) ⟨S,Vl,Wk⟩)
         have GE:=Lib.hid (grown_new GC.out (grown_put4 (grown_refl _ (some R)) (.string (strOfNums T)) (.int .i64 S) (.int .u64 Vl) (.bool Wk)) hRw)
         simp only [] at SE
         go_wp2
         refine bodyPost_ret (results_sy2 rfl rfl rfl SE.out) rfl ?_
         refine ⟨?_,GE.out⟩
         rw [Y0.out EE.out,EE.out]
         rfl
 ·rw [if_neg (fun h=>absurd h.1 (by decide))] at he0
  rw [if_neg (by decide)] at Y0
  go_wp2_with fail
  refine (Q0.out _ G4.out).mono ?_
  rintro r wB ⟨rfl,hg⟩
  have GB:=Lib.hid (grown_trans G4.out hg)
  have XB:=Lib.hid (X4.out.kept hg (by simp))
  have SB:=Lib.hid (S4.out.kept hg (by simp))
  clear hg
  by_cases hNP:N≤P
  · have dNP:decide ((N:Int)≤(P:Int))=true:=by simp;omega
    have dNQ:decide (N≤P)=true:=decide_eq_true hNP
    rw [if_pos (by omega)] at he0
    have EE:=Lib.hid he0
    clear he0 hNP
    have xr:=SB.out.c
    simp only [] at xr
    obtain ⟨r0,r1,r2,r3⟩:=xr
    have rf:=SB.out.fz
    have SE:=Lib.hid (SB.out.put ⟨#[]⟩ Sy.zero)
    have GE:=Lib.hid (grown_new GB.out (grown_put4 (grown_refl _ (some R)) (.string ⟨#[]⟩) (.int .i64 0) (.int .u64 0) (.bool false)) hRw)
    simp only [Sy.zero] at SE
    go_wp2
    refine bodyPost_ret (results_sy2 rfl rfl rfl SE.out) rfl ?_
    refine ⟨?_,GE.out⟩
    rw [Y1.out (by rw [EE.out];decide),EE.out]
    rfl
  · have dNP:decide ((N:Int)≤(P:Int))=false:=by simp;omega
    have dNQ:decide (N≤P)=false:=decide_eq_false hNP
    rw [if_neg (by omega)] at he0
    obtain ⟨b2,o2,rfl,hcut⟩:=HQ.out (by omega)
    have hcut:=hcut wB
    have NB:=Lib.hid (NM.out _ GB.out b2 o2 rfl (by omega))
    have xb:=XB.out.c
    simp only [] at xb
    obtain ⟨xb0,xb1,xb2,xb3⟩:=xb
    have xf:=XB.out.fz 0
    have xl:=XB.out.lt
    have gs:=grown_setCell (i:=0) (grown_refl wB (some X)) (.string (strOfNums T))
    have XC:=Lib.hid (XB.out.s0 (strOfNums T))
    have SC:=Lib.hid (SB.out.kept gs (fun e=>by injection e with e;exact hRX e.symm))
    have GC:=Lib.hid (grown_new GB.out gs hwX)
    clear gs
    have hNP2:(P:Int)≤9223372036854775807:=by omega
    go_wp2_with fail
    refine NB.out.mono ?_
    rintro r wD ⟨rfl,rfl⟩
    obtain ⟨wC,hwC⟩:∃ W,W=wD.setCell ⟨X,0,none⟩ (.string (strOfNums T)):=⟨_,rfl⟩
    rw [← hwC] at XC SC GC
    go_upto_region 10 with fail
    rw [← hwC]
    clear hwC hcut xb0 xb1 xb2 xb3 xf xl
    have xc:=XC.out.c
    simp only [] at xc
    obtain ⟨xc0,xc1,xc2,xc3⟩:=xc
    have xcl:=XC.out.lt
    have sl:=SC.out.lt
    by_cases hT0:T=[]
    ·rw [decide_eq_true hT0] at n1
     rw [if_pos (.inl hT0)] at he0
     have EE:=Lib.hid he0
     clear he0 hNP hT0
     have xr:=SC.out.c
     simp only [] at xr
     obtain ⟨r0,r1,r2,r3⟩:=xr
     have rf:=SC.out.fz
     have SE:=Lib.hid (SC.out.put ⟨#[]⟩ Sy.zero)
     have GE:=Lib.hid (grown_new GC.out (grown_put4 (grown_refl _ (some R)) (.string ⟨#[]⟩) (.int .i64 0) (.int .u64 0) (.bool false)) hRw)
     simp only [Sy.zero] at SE
     go_wp2
     refine bodyPost_ret (results_sy2 rfl rfl rfl SE.out) rfl ?_
     refine ⟨?_,GE.out⟩
     rw [Y1.out (by rw [EE.out];decide),EE.out]
     rfl
    ·rw [decide_eq_false hT0] at n1
     by_cases hEnd:N - P≤T.length
     ·have dEnd:((P:Int) + (T.length:Int) == (N:Int))=true:=by rw [beq_iff_eq];omega
      rw [if_pos (.inr hEnd)] at he0
      have EE:=Lib.hid he0
      clear he0 hNP hT0 hEnd
      have xr:=SC.out.c
      simp only [] at xr
      obtain ⟨r0,r1,r2,r3⟩:=xr
      have rf:=SC.out.fz
      have SE:=Lib.hid (SC.out.put ⟨#[]⟩ Sy.zero)
      have GE:=Lib.hid (grown_new GC.out (grown_put4 (grown_refl _ (some R)) (.string ⟨#[]⟩) (.int .i64 0) (.int .u64 0) (.bool false)) hRw)
      simp only [Sy.zero] at SE
      go_wp2
      refine bodyPost_ret (results_sy2 rfl rfl rfl SE.out) rfl ?_
      refine ⟨?_,GE.out⟩
      rw [Y1.out (by rw [EE.out];decide),EE.out]
      rfl
     ·have dEnd:((P:Int) + (T.length:Int) == (N:Int))=false:=by rw [beq_eq_false_iff_ne];omega
      rw [if_neg (fun h=>h.elim hT0 hEnd)] at he0
      by_cases hLong : 255 < T.length
      ·have dLong:decide ((255:Int) < (T.length:Int))=true:=by simp;omega
       rw [if_pos hLong] at he0
       have EE:=Lib.hid he0
       clear he0 hNP hT0 hEnd hLong
       have xr:=SC.out.c
       simp only [] at xr
       obtain ⟨r0,r1,r2,r3⟩:=xr
       have rf:=SC.out.fz
       have SE:=Lib.hid (SC.out.put ⟨#[]⟩ Sy.zero)
       have GE:=Lib.hid (grown_new GC.out (grown_put4 (grown_refl _ (some R)) (.string ⟨#[]⟩) (.int .i64 0) (.int .u64 0) (.bool false)) hRw)
       simp only [Sy.zero] at SE
       go_wp2
       refine bodyPost_ret (results_sy2 rfl rfl rfl SE.out) rfl ?_
       refine ⟨?_,GE.out⟩
       rw [Y1.out (by rw [EE.out];decide),EE.out]
       rfl
      ·have dLong:decide ((255:Int) < (T.length:Int))=false:=by simp;omega
       rw [if_neg hLong] at he0
       have EE:=Lib.hid he0
       clear he0 hNP hT0 hEnd hLong
       have xr:=SC.out.c
       simp only [] at xr
       obtain ⟨r0,r1,r2,r3⟩:=xr
       have rf:=SC.out.fz
       have SE:=Lib.hid (SC.out.put (strOfNums T) ⟨0,Vl,Wk⟩)
       have GE:=Lib.hid (grown_new GC.out (grown_put4 (grown_refl _ (some R)) (.string (strOfNums T)) (.int .i64 0) (.int .u64 Vl) (.bool Wk)) hRw)
       simp only [] at SE
       go_wp2
       refine bodyPost_ret (results_sy2 rfl rfl rfl SE.out) rfl ?_
       refine ⟨?_,GE.out⟩
       rw [Y0.out EE.out,EE.out]
       rfl
end Go.Proofs.YtkmbkpoclhbmgaaGreat
namespace Go.Proofs.YtkmbkpoclhbmgaaGreat
open Go.RowKit
variable {w w':World} {ys t:List Int} {n:Int}
structure AlO (w w':World) (R:Int × Syms) (r:Ending):Prop where
 ex:∃ q c,r=.returned (.tuple #[.slice q R.2.length c,.int .i64 R.1])∧SysAt w' q R.2∧R.2.length≤c∧c≤9223372036854775807
 below:Below w.heap.size w w'
structure RaL (w wr:World) (t ys:List Int) (n:Int) (R:Int × Syms) (N:Nat) (vo vi:Value):Prop where
 ex:∃ (k:Nat) (D:Syms) (q:Option Addr) (c:Nat),k≤N∧vi=.int .i64 ((16 * k:Nat):Int)∧vo=.slice q D.length c∧wr.ownsRow w.heap.size 95 4 (.slice q D.length c) D.length (D.flatMap syCs)∧nlRun ys n ((ents t).drop k) D=R∧SymsOk D
 grown:w.grownBy wr none
structure RaI (w3:World) (X:Nat) (y:Sym) (D:Syms) (vj:Value) (wl:World):Prop where
 ex:∃ j:Nat,j≤D.length∧vj=.int .i64 (j:Int)∧∀ (i:Nat) (d:Sym),i < j→D[i]?=some d→d.1≠y.1
 sy:SyAt wl X (strOfNums y.1) y.2
 grown:w3.grownBy wl none
theorem AlO.none (hg:w.grownBy w' Option.none) {E:Int} {R:Int × Syms} (hR:R=(E,[])):AlO w w' R (.returned (.tuple #[.slice Option.none 0 0,.int .i64 E])):=by
 subst hR
 exact ⟨⟨_,_,rfl,SysAt.nil,Nat.le_refl _,by omega⟩,below_grown hg (Nat.le_refl _) (by simp)⟩
set_option maxRecDepth 20000 in
set_option maxHeartbeats 3200000 in
theorem all10_any {q q2:Option Addr} {c c2 L N:Nat} (hb:IsBytes w q c t) (hL:t.length=L) (hbigL:L≤140737488355328) (hc:L≤c) (hcm:c≤9223372036854775807) (ht:Byt t)
  (hb2:IsBytes w q2 c2 ys) (hN:ys.length=N) (hbig:N≤140737488355328) (hc2:N≤c2) (hy:Byt ys) :
  Calls Tryz.prog 86 #[.slice q L c,.slice q2 N c2,.int .i64 n] w fun r w'=>AlO w w' (nlAll t ys n) r:=by
 obtain ⟨R,hR⟩:∃ R,R=nlAll t ys n:=⟨_,rfl⟩
 rw [← hR]
 unfold nlAll at hR
 rw [hL] at hR
 by_cases h16:L % 16=0
 ·have d16:(((L:Int) % 16) != 0)=false:=by simp;omega
  rw [if_pos h16] at hR
  obtain ⟨M,hM⟩:∃ M,M=L / 16:=⟨_,rfl⟩
  have hLM:L=16 * M:=by omega
  have hbl:=fun (V:World) (hV:w.grownBy V none) (k:Nat) (hk:k < M)=>(by
    obtain ⟨b,o,e,hx⟩:=hb.2 (by omega)
    refine ⟨b,o,e,grown_cell hV (hx (16 * k + 4) (by omega)),fun W=>?_,?_⟩
    ·have:=cut_run (T:=29) (by kernel_rfl) size_u8 b o L c (16 * k) 16 (by omega) hc (by omega) ((16 * k:Nat):Int) (((16 * k:Nat):Int) + 16) rfl rfl W
     exact this
    ·have h1:IsBytes w (some ⟨b,o + 16 * k,none⟩) (c - 16 * k) (entAt t k):=IsBytes.mk_at fun i hi=>by
      have hl:(entAt t k).length=16:=entAt_len (by omega)
      rw [hl] at hi
      rw [Nat.add_assoc,hx (16 * k + i) (by omega)]
      simp [List.getD,entAt,List.getElem?_drop,hi]
     exact h1.kept hV (by simp):∃ b o,q=some ⟨b,o,none⟩∧V.cell? ⟨b,o + (16 * k + 4),none⟩=some (.int .u8 (t.getD (16 * k + 4) 0))∧(∀ W,(Instr.slice 29 (.slice (some ⟨b,o,none⟩) L c) (some (.int .i64 ((16 * k:Nat):Int))) (some (.int .i64 (((16 * k:Nat):Int) + 16))) none).run Tryz.prog W=.ok (.slice (some ⟨b,o + 16 * k,none⟩) 16 (c - 16 * k)) W)∧IsBytes V (some ⟨b,o + 16 * k,none⟩) (c - 16 * k) (entAt t k))
  have BL:=Lib.hid hbl
  have ONE:=Lib.hid (fun (V:World) (hV:w.grownBy V none) (k:Nat) (hk:k < M) (b o:Nat) (h:IsBytes V (some ⟨b,o + 16 * k,none⟩) (c - 16 * k) (entAt t k)) (hto:nlTold (entAt t k)=true) =>
    one10_any (n:=n) h (entAt_len (by omega)) (by omega) (by omega) (entAt_byt ht k) (hb2.kept hV (by simp)) hN hbig hc2 hto)
  have KND:=Lib.hid (fun (k:Nat) (hk:k < M)=>(show t.getD (16 * k + 4) 0=nlKind (entAt t k) from by
    unfold nlKind entAt
    simp [List.getD,List.getElem?_drop]))
  have KB:=Lib.hid (fun (k:Nat)=>(show 0≤nlKind (entAt t k)∧nlKind (entAt t k) < 256 from byt_at (entAt_byt ht k) 4))
  have TD:=Lib.hid (fun (W:World) (k:Nat)=>(show Calls Tryz.prog 127 #[.int .i64 (nlKind (entAt t k))] W fun e w'=>e=.returned (.bool (nlTold (entAt t k)))∧w'=W from told10_any _ (byt_at (entAt_byt ht k) 4) W))
  have EAT:=Lib.hid (fun (k:Nat) (hk:k < M)=>(show (ents t).drop k=entAt t k :: (ents t).drop (k + 1) from ents_at t (by omega)))
  have END:=Lib.hid (show (ents t).drop M=[] from by rw [hM,← hL];exact ents_end t)
  have NXT:=Lib.hid (fun (k:Nat) (D:Syms) (h:SymsOk D) (h0:nlE ys n D (entAt t k)=0)=>h.next hy (entAt_byt ht k) h0)
  have BYY:=Lib.hid (fun (k:Nat)=>Byt.pre (hy.drop (nlPlace (entAt t k)).toNat))
  have ST:=Lib.hid (show RaL w w t ys n R M (.slice none 0 0) (.int .i64 0) from ⟨⟨0,[],none,0,Nat.zero_le _,rfl,rfl,World.ownsRow_nil _ _ _ _,hR.symm,SymsOk.nil⟩,grown_refl _ _⟩)
  have hLi:(L:Int)=16 * (M:Int):=by omega
  have HLM:=Lib.hid hLi
  clear hbl h16 hR hM hLM hb hb2 hy ht hN hL hLi hbig hc2
  go_enter Tryz.func86,Tryz.ntmps86
  go_wp2
  go_loopw [8,9] (fun vo vi wr=>RaL w wr t ys n R M vo vi) (fun _ vi _=>L - (intOf vi).toNat)
  case atStart=>exact ST.out
  case round =>
    obtain ⟨⟨k,D,qo,co,hk,rfl,rfl,hrow,hrun,hok⟩,hg⟩:=hrel
    have RW:=Lib.hid hrow
    have RN:=Lib.hid hrun
    have OK:=Lib.hid hok
    have GR:=Lib.hid hg
    obtain ⟨p,hp⟩:∃ p,p=16 * k:=⟨_,rfl⟩
    rw [← hp]
    have HP:=Lib.hid hp
    by_cases hlt:k < M
    ·obtain ⟨b,o,rfl,c4,hcut,hib⟩:=BL.out wr hg k hlt
     rw [KND.out k hlt] at c4
     rw [← hp] at hcut c4 hib
     have hpL:p + 16≤L:=by have:=HLM.out;omega
     have dl:decide ((p:Int) < (L:Int))=true:=by simp;omega
     have dl2:decide (p < L)=true:=by simp;omega
     have hpl3:(p:Int) < (L:Int):=by omega
     have hi4:(p:Int) + 4 < (L:Int):=by omega
     have hb47:(L:Int)≤140737488355328:=by omega
     have kb:=KB.out k
     obtain ⟨kb0,kb1⟩:=kb
     have kbw:wrap64 (nlKind (entAt t k))=nlKind (entAt t k):=IntWalk.wrap64_in _ (by omega)
     have IB:=Lib.hid hib
     clear hrow hrun hok hg hib hp
     go_wp2_with fail
     refine (TD.out wr k).mono ?_
     rintro r w1 ⟨rfl,rfl⟩
     by_cases hto:nlTold (entAt t k)=true
     ·have E0:=EAT.out k hlt
      have HRN:=RN.out
      rw [E0,nlRun_cons] at HRN
      rw [hto]
      have ON0:=ONE.out w1 GR.out k hlt b o (by rw [← HP.out];exact IB.out) hto
      rw [← HP.out] at ON0
      have ON:=Lib.hid ON0
      clear ON0
      have e1:nlE ys n D (entAt t k)=nlAdd ys n D (entAt t k):=by unfold nlE;rw [hto];rfl
      have e2:nlD ys D (entAt t k)=D ++ [nlNew ys (entAt t k)]:=by unfold nlD;rw [hto];rfl
      have NX:=Lib.hid (fun h0=>NXT.out k D OK.out h0)
      rw [e1] at HRN NX
      rw [e2] at HRN NX
      have HA:nlAdd ys n D (entAt t k)=if nlErr ys n (entAt t k)≠0 then nlErr ys n (entAt t k) else if nlHas D (nlNm ys (entAt t k))=true then 21 else if D.length=4096 then 11 else 0:=rfl
      have HV:nlErr ys n (entAt t k)=0→oneV ys n (entAt t k)=nlNew ys (entAt t k):=fun h=>by unfold oneV;rw [if_pos h]
      have HN1:(nlNew ys (entAt t k)).1=nlNm ys (entAt t k):=rfl
      have BN:=BYY.out k
      rw [show pre (ys.drop (nlPlace (entAt t k)).toNat)=(nlNew ys (entAt t k)).1 from rfl] at BN
      rw [← HN1] at HA
      clear HN1
      generalize nlAdd ys n D (entAt t k)=EA at *
      generalize nlErr ys n (entAt t k)=EE at *
      generalize oneV ys n (entAt t k)=y at *
      generalize nlNew ys (entAt t k)=z at *
      obtain ⟨RR,hRR⟩:∃ RR,RR=nlRun ys n ((ents t).drop (k + 1)) (D ++ [z]):=⟨_,rfl⟩
      rw [← hRR] at HRN
      have HRR:=Lib.hid hRR
      have HRX:=Lib.hid HRN
      have HVV:=Lib.hid HV
      have HAA:=Lib.hid HA
      have NXX:=Lib.hid NX
      have BNN:=Lib.hid BN
      clear hRR E0 HRN HV HA NX BN e1 e2 hto c4 kb0 kb1 kbw
      unfold syV syArr at ON
      go_wp2_with fail
      refine ON.out.mono ?_
      rintro r w2 ⟨rfl,hg⟩
      have x3:=SyAt.new w2 (strOfNums y.1) y.2
      have g3:=grown_trans hg (grown1 w2 (.cells #[.string (strOfNums y.1),.int .i64 y.2.sec,.int .u64 y.2.value,.bool y.2.weak] 95))
      obtain ⟨w3,hw3⟩:∃ W,W=w2.alloc (.cells #[.string (strOfNums y.1),.int .i64 y.2.sec,.int .u64 y.2.value,.bool y.2.weak] 95):=⟨_,rfl⟩
      obtain ⟨X,hX⟩:∃ X,X=w2.heap.size:=⟨_,rfl⟩
      rw [← hw3] at x3 g3
      rw [← hX] at x3
      have X3:=Lib.hid x3
      have G3:=Lib.hid g3
      clear x3 g3 hg ON hcut
      go_upto_region 9 with fail
      rw [← hw3,← hX]
      clear hw3 hX
      by_cases hE:EE=0
      ·have dE:(EE != 0)=false:=by rw [hE];rfl
       have hA:=HAA.out
       rw [if_neg (fun h=>h hE)] at hA
       obtain rfl:=HVV.out hE
       have HA2:=Lib.hid hA
       have GA:=Lib.hid (grown_trans GR.out G3.out)
       have ROW3:=Lib.hid (own_grown RW.out G3.out)
       have hfew:=OK.out.few
       have IN0:=Lib.hid (show RaI w3 X y D (.int .i64 0) w3 from ⟨⟨0,Nat.zero_le _,rfl,fun i d h _=>by omega⟩,X3.out,grown_refl _ _⟩)
       clear hA hE
       go_wp2
       go_loopw [12] (fun vj wl=>RaI w3 X y D vj wl) (fun vj _=>D.length - (intOf vj).toNat)
       case atStart=>exact IN0.out
       case round =>
        obtain ⟨⟨j,hj,rfl,hno⟩,hsx,hgl⟩:=hrel
        have NO:=Lib.hid hno
        have SX:=Lib.hid hsx
        have GL:=Lib.hid hgl
        by_cases hjl:j < D.length
        ·obtain ⟨d,hd⟩:∃ d,D[j]?=some d:=⟨_,List.getElem?_eq_getElem hjl⟩
         obtain ⟨gq,oq,rfl,a0,a1,a2,a3⟩:=(SysAt.of (own_grown ROW3.out hgl)).at hd
         have x0:=hsx.c.1
         have dj:decide ((j:Int) < (D.length:Int))=true:=by simp;omega
         have dj2:decide (j < D.length)=true:=by simp;omega
         have hjI:(j:Int) < (D.length:Int):=by omega
         have ee:=text_same (OK.out.each d (List.mem_of_getElem? hd)).1 BNN.out
         have HDD:=Lib.hid hd
         clear hd hno hsx hgl a1 a2 a3
         by_cases hs:d.1=y.1
         ·rw [decide_eq_true hs] at ee
          have hh:nlHas D y.1=true:=nlHas_mem.2 ⟨d,List.mem_of_getElem? HDD.out,hs⟩
          have hA:=HA2.out
          rw [if_pos hh] at hA
          have hR:=HRX.out
          rw [if_neg (by rw [hA];decide),hA] at hR
          have HR:=Lib.hid hR.symm
          have GF:=Lib.hid (grown_trans GA.out GL.out)
          clear hs hh hA hR
          go_wp2
          go_quiet (fail)
          go_wp2
          go_ret2
          exact AlO.none (grown_drewN GF.out _) HR.out
         ·rw [decide_eq_false hs] at ee
          have HS:=Lib.hid hs
          have NW:=Lib.hid (fun k=>(⟨⟨j + 1,hjl,by simp,fun i d' hi hd'=>by
           rcases Nat.lt_or_ge i j with h | h
           ·exact NO.out i d' h hd'
           ·obtain rfl:i=j:=by omega
            rw [HDD.out] at hd'
            injection hd' with hd'
            rw [← hd'];exact HS.out⟩,SX.out.kept (grown_drewN (grown_refl wr (Option.none)) k) (by simp),grown_drewN GL.out k⟩:RaI w3 X y D (.int .i64 ((j:Int) + 1)) (wr.drewN k)))
          clear hs
          go_wp2
          go_quiet (fail)
          go_wp2
          go_roundw
          case rel=>exact NW.out _
          case measure=>simp [intOf];omega
        ·have hjD:j=D.length:=by omega
         subst hjD
         have dj:decide ((D.length:Int) < (D.length:Int))=false:=by simp
         have hh:¬ nlHas D y.1=true:=fun h=>by
          obtain ⟨d,hd,e⟩:=nlHas_mem.1 h
          obtain ⟨i,hi,rfl⟩:=List.getElem_of_mem hd
          exact hno i _ hi (List.getElem?_eq_getElem hi) e
         have hA:=HA2.out
         rw [if_neg hh] at hA
         have GF:=Lib.hid (grown_trans GA.out GL.out)
         obtain ⟨x0,x1,x2,x3⟩:=hsx.c
         have xl:=hsx.lt
         clear hh hno hsx hgl hj
         by_cases hfull:D.length=4096
         ·have d3:((D.length:Int) == 4096)=true:=by rw [hfull];rfl
          rw [if_pos hfull] at hA
          have hR:=HRX.out
          rw [if_neg (by rw [hA];decide),hA] at hR
          have HR:=Lib.hid hR.symm
          clear hfull hA hR hjl
          go_wp2
          go_ret2
          exact AlO.none GF.out HR.out
         ·have d3:((D.length:Int) == 4096)=false:=by rw [beq_eq_false_iff_ne];omega
          rw [if_neg hfull] at hA
          have hR:=HRX.out
          rw [if_pos hA,HRR.out] at hR
          have HR:=Lib.hid hR
          have OK2:=Lib.hid (NXX.out hA)
          have g9:=grown1 wr (.cells #[.string (strOfNums y.1),.int .i64 y.2.sec,.int .u64 y.2.value,.bool y.2.weak] 95)
          have O9:=Lib.hid (own_grown (own_grown ROW3.out GL.out) g9)
          have N9:=Lib.hid (heap_alloc_new wr (.cells #[.string (strOfNums y.1),.int .i64 y.2.sec,.int .u64 y.2.value,.bool y.2.weak] 95))
          have G9:=Lib.hid (grown_trans GF.out g9)
          have hw9:w.heap.size≤(wr.alloc (.cells #[.string (strOfNums y.1),.int .i64 y.2.sec,.int .u64 y.2.value,.bool y.2.weak] 95)).heap.size:=G9.out.size
          have hf:(D.length + 1) * 40≤140737488355328:=by omega
          have HW9:=Lib.hid hw9
          clear g9 hfull hA hR hjl hw9
          go_wp2_with (at_builtin;refine wp_append_st syType rfl _ _ rfl _ D.length _ rfl O9.out (syCs y) rfl wr.heap.size rfl N9.out (syCs_one y) hf (by decide) HW9.out ?_;intro v7 w7 ho hg7)
          obtain ⟨q7,c7,rfl⟩:=own_slice ho
          have NEW:=Lib.hid (show RaL w w7 t ys n R M (.slice q7 (D.length + 1) c7) (.int .i64 ((p:Int) + 16)) from ⟨⟨k + 1,D ++ [y],q7,c7,hlt,by rw [HP.out];congr 1,by rw [List.length_append];rfl,by rw [List.length_append,List.flatMap_append,List.flatMap_singleton];exact ho,HR.out,OK2.out⟩,grown_own G9.out hg7 (fun b hb=>(O9.out.lt b hb).1) (Nat.le_refl _)⟩)
          clear ho hg7
          go_wp2
          go_roundw
          case rel=>exact NEW.out
          case measure=>simp [intOf];omega
      ·have dE:(EE != 0)=true:=by simpa using hE
       have hA:=HAA.out
       rw [if_pos hE] at hA
       have hR:=HRX.out
       rw [if_neg (by rw [hA];exact hE),hA] at hR
       have HR:=Lib.hid hR.symm
       have GZ:=Lib.hid (grown_trans GR.out G3.out)
       clear hA hE hR
       go_wp2
       go_ret2
       exact AlO.none GZ.out HR.out
     ·rw [Bool.not_eq_true] at hto
      have E0:=EAT.out k hlt
      have HRN:=RN.out
      rw [E0,nlRun_cons] at HRN
      have e1:nlE ys n D (entAt t k)=0:=by unfold nlE;rw [hto];rfl
      have e2:nlD ys D (entAt t k)=D:=by unfold nlD;rw [hto];rfl
      rw [if_pos e1,e2] at HRN
      rw [hto]
      have NEW:=Lib.hid (show RaL w w1 t ys n R M (.slice qo D.length co) (.int .i64 ((p:Int) + 16)) from ⟨⟨k + 1,D,qo,co,hlt,by rw [HP.out];congr 1,rfl,RW.out,HRN,OK.out⟩,GR.out⟩)
      clear hto E0 HRN e1 e2
      go_wp2
      go_roundw
      case rel=>exact NEW.out
      case measure=>simp [intOf];omega
    ·have hkM:k=M:=by omega
     subst hkM
     have hpL:p=L:=by have:=HLM.out;omega
     subst hpL
     have dl:decide ((p:Int) < (p:Int))=false:=by simp
     rw [END.out] at hrun
     have HF:=Lib.hid (show R=(0,D) from hrun.symm)
     have C:=Lib.hid (own_cap hrow)
     have SA:=Lib.hid (SysAt.of hrow)
     clear hrow hrun hok hg hp
     go_wp2
     go_ret2
     rw [HF.out]
     exact ⟨⟨_,_,rfl,SA.out,C.out.1,C.out.2⟩,below_grown GR.out (Nat.le_refl _) (by simp)⟩
 ·have d16:(((L:Int) % 16) != 0)=true:=by simp;omega
  rw [if_neg h16] at hR
  have HR:=Lib.hid hR
  clear hR h16 hb hb2 ht hy
  go_enter Tryz.func86,Tryz.ntmps86
  go_wp2
  go_ret2
  exact AlO.none (grown_refl _ _) HR.out
end Go.Proofs.YtkmbkpoclhbmgaaGreat
namespace Go.Proofs.YtkmbkpoclhbmgaaGreat
open Go.RowKit Go.Maps
variable {w w':World} {ys t:List Int} {n:Int}
structure PaL (w wr:World) (g a lo hi m:Nat) (t ys:List Int) (n:Int) (R:Int × Syms) (N:Nat) (vi:Value):Prop where
 ex:∃ (k:Nat) (D:Syms) (v:Value) (p:Nat),k≤N∧vi=.int .i64 ((16 * k:Nat):Int)∧TelAt wr w.heap.size g a lo hi m v ys n p D∧nlRun ys n ((ents t).drop k) D=R∧SymsOk D
 below:Below w.heap.size w wr
set_option maxRecDepth 20000 in
set_option maxHeartbeats 3200000 in
theorem allP_any {q q2:Option Addr} {c c2 L N:Nat} (hb:IsBytes w q c t) (hL:t.length=L) (hbigL:L≤140737488355328) (hc:L≤c) (hcm:c≤9223372036854775807) (ht:Byt t)
  (hb2:IsBytes w q2 c2 ys) (hN:ys.length=N) (hbig:N≤140737488355328) (hy:Byt ys) :
  Calls Tryz.prog 198 #[.slice q L c,.slice q2 N c2,.int .i64 n] w fun r w'=>AlO w w' (nlAll t ys n) r:=by
 obtain ⟨R,hR⟩:∃ R,R=nlAll t ys n:=⟨_,rfl⟩
 rw [← hR]
 unfold nlAll at hR
 rw [hL] at hR
 by_cases h16:L % 16=0
 ·have d16:(((L:Int) % 16) != 0)=false:=by simp;omega
  rw [if_pos h16] at hR
  obtain ⟨M,hM⟩:∃ M,M=L / 16:=⟨_,rfl⟩
  have hLM:L=16 * M:=by omega
  have BL:=Lib.hid (fun (V:World) (hV:Below w.heap.size w V) (k:Nat) (hk:k < M)=>(by
    obtain ⟨b,o,e,hx⟩:=hb.2 (by omega)
    refine ⟨b,o,e,?_⟩
    have h1:IsBytes w (some ⟨b,o + 16 * k,none⟩) 16 (entAt t k):=IsBytes.mk_at fun i hi=>by
     have hl:(entAt t k).length=16:=entAt_len (by omega)
     rw [hl] at hi
     rw [Nat.add_assoc,hx (16 * k + i) (by omega)]
     simp [List.getD,entAt,List.getElem?_drop,hi]
    exact h1.below hV:∃ b o,q=some ⟨b,o,none⟩∧IsBytes V (some ⟨b,o + 16 * k,none⟩) 16 (entAt t k)))
  have EAT:=Lib.hid (fun (k:Nat) (hk:k < M)=>(show (ents t).drop k=entAt t k :: (ents t).drop (k + 1) from ents_at t (by omega)))
  have END:=Lib.hid (show (ents t).drop M=[] from by rw [hM,← hL];exact ents_end t)
  have TK:=Lib.hid (fun (V:World) (g a lo hi m p:Nat) (v:Value) (D:Syms) (h:TelAt V w.heap.size g a lo hi m v ys n p D) (hok:SymsOk D) (k:Nat) (hk:k < M) (b o:Nat) (hb:IsBytes V (some ⟨b,o + 16 * k,none⟩) 16 (entAt t k)) =>
    take_any10 h hok hy hb (entAt_len (by omega)) (entAt_byt ht k))
  have NXT:=Lib.hid (fun (k:Nat) (D:Syms) (h:SymsOk D) (h0:nlE ys n D (entAt t k)=0)=>h.next hy (entAt_byt ht k) h0)
  have NW:=Lib.hid (pen_new hb2 hN hbig hy false)
  have hLi:(L:Int)=16 * (M:Int):=by omega
  have HLM:=Lib.hid hLi
  have HR0:=Lib.hid hR
  clear h16 hR hM hLM hb hb2 hy ht hN hL hLi
  go_enter Tryz.func198,Tryz.ntmps198
  go_wp2_with fail
  refine NW.out.mono ?_
  rintro r w1 ⟨a,rfl,hp1,hbel⟩
  have gm:=grown1 w1 (.map #[] 0)
  have nm:=MetN.made w1
  obtain ⟨W1,hW1⟩:∃ W,W=w1.alloc (.map #[] 0):=⟨_,rfl⟩
  obtain ⟨m,hm⟩:∃ m,m=w1.heap.size:=⟨_,rfl⟩
  rw [← hW1] at gm nm
  rw [← hm] at nm
  have hlm:w1.heap.size≤W1.heap.size:=gm.size
  have gt:=grown1 W1 (.cells #[.pointer (some ⟨a,0,none⟩),.int .i64 n,.slice none 0 0,.map (some m)] 285)
  have bt:=heap_alloc_new W1 (.cells #[.pointer (some ⟨a,0,none⟩),.int .i64 n,.slice none 0 0,.map (some m)] 285)
  obtain ⟨W2,hW2⟩:∃ W,W=W1.alloc (.cells #[.pointer (some ⟨a,0,none⟩),.int .i64 n,.slice none 0 0,.map (some m)] 285):=⟨_,rfl⟩
  obtain ⟨g,hgg⟩:∃ g,g=W1.heap.size:=⟨_,rfl⟩
  rw [← hW2] at gt bt
  rw [← hgg] at bt
  have T0:TelAt W2 w.heap.size g a w.heap.size w1.heap.size m (.slice none 0 0) ys n 0 [] :=
    ⟨bt,(hp1.same gm).same gt,World.ownsRow_nil _ _ _ _,nm.kept gt (by simp),Nat.le_refl _,by omega,by omega⟩
  have B2:Below w.heap.size w W2:=hbel.trans (below_grown (grown_trans gm gt) hbel.size (by simp))
  have ST:=Lib.hid (show PaL w W2 g a w.heap.size w1.heap.size m t ys n R M (.int .i64 0) from ⟨⟨0,[],_,_,Nat.zero_le _,rfl,T0,HR0.out.symm,SymsOk.nil⟩,B2⟩)
  obtain ⟨hi,hhi⟩:∃ hi,hi=w1.heap.size:=⟨_,rfl⟩
  rw [← hhi] at ST
  have HM:=Lib.hid hm
  have HW1:=Lib.hid hW1
  have HW2:=Lib.hid hW2
  have HG:=Lib.hid (show m + 1=g by rw [hgg,hW1,hm];simp)
  clear hm hW1 hW2 hgg gm gt nm bt T0 B2 hbel hp1 hlm hhi
  have hmm:=@run_makeMap Tryz.prog
  go_upto_region 4 with fail
  rw [← HW1.out,← HM.out,← HW2.out,HG.out]
  clear hmm HW1 HW2 HM HG
  go_wp2
  go_loopw [9] (fun vi wr=>PaL w wr g a w.heap.size hi m t ys n R M vi) (fun vi _=>L - (intOf vi).toNat)
  case atStart=>exact ST.out
  case round =>
    obtain ⟨⟨k,D,v,p0,hk,rfl,htel,hrun,hok⟩,hbw⟩:=hrel
    have TE:=Lib.hid htel
    have RN:=Lib.hid hrun
    have OK:=Lib.hid hok
    have BW:=Lib.hid hbw
    obtain ⟨p,hp⟩:∃ p,p=16 * k:=⟨_,rfl⟩
    rw [← hp]
    have HP:=Lib.hid hp
    by_cases hlt:k < M
    ·obtain ⟨b,o,rfl,hib⟩:=BL.out wr hbw k hlt
     have tk:=TK.out wr g a w.heap.size hi m p0 v D htel hok k hlt b o hib
     rw [← hp] at tk
     have hpL:p + 16≤L:=by have:=HLM.out;omega
     have dl:decide ((p:Int) < (L:Int))=true:=by simp;omega
     have dl2:decide (p < L)=true:=by simp;omega
     have hpl3:(p:Int) + 16≤(L:Int):=by omega
     have hpl4:(p:Int) + 16≤(c:Int):=by omega
     have hb47:(L:Int)≤140737488355328:=by omega
     have hcI:(c:Int)≤9223372036854775807:=by omega
     have TKK:=Lib.hid tk
     have HRN:=RN.out
     rw [EAT.out k hlt,nlRun_cons] at HRN
     have NX:=Lib.hid (fun h0=>NXT.out k D OK.out h0)
     generalize nlE ys n D (entAt t k)=E at *
     generalize nlD ys D (entAt t k)=D2 at *
     have HRX:=Lib.hid HRN
     clear htel hrun hok hbw hib hp tk HRN
     go_wp2_with fail
     refine TKK.out.mono ?_
     rintro r w2 ⟨rfl,hbl,hte⟩
     have B2:=Lib.hid (BW.out.trans hbl)
     by_cases hE:E=0
     ·have dE:(E != 0)=false:=by rw [hE];rfl
      obtain ⟨v',p',te⟩:=hte hE
      have hR:=HRX.out
      rw [if_pos hE] at hR
      have NEW:=Lib.hid (show PaL w w2 g a w.heap.size hi m t ys n R M (.int .i64 ((p:Int) + 16)) from ⟨⟨k + 1,D2,v',p',hlt,by rw [HP.out];congr 1,te,hR,NX.out hE⟩,B2.out⟩)
      clear hE hte te hR hbl
      go_wp2
      go_roundw
      case rel=>exact NEW.out
      case measure=>simp [intOf];omega
     ·have dE:(E != 0)=true:=by simpa using hE
      have hR:=HRX.out
      rw [if_neg hE] at hR
      have HR:=Lib.hid hR.symm
      clear hE hte hR hbl
      go_wp2
      go_ret2
      rw [HR.out]
      exact ⟨⟨_,_,rfl,SysAt.nil,Nat.le_refl _,by omega⟩,B2.out⟩
    ·have hkM:k=M:=by omega
     subst hkM
     have hpL:p=L:=by have:=HLM.out;omega
     subst hpL
     have dl:decide ((p:Int) < (p:Int))=false:=by simp
     rw [END.out] at hrun
     have HF:=Lib.hid (show R=(0,D) from hrun.symm)
     obtain ⟨qv,cv,rfl⟩:=own_slice htel.row
     have C:=Lib.hid (own_cap htel.row)
     have SA:=Lib.hid (SysAt.of htel.row)
     have c2:=htel.c.2.2.1
     have gl:=htel.lt
     clear htel hrun hok hbw hp
     go_wp2
     go_ret2
     rw [HF.out]
     exact ⟨⟨_,_,rfl,SA.out,C.out.1,C.out.2⟩,BW.out⟩
 ·have d16:(((L:Int) % 16) != 0)=true:=by simp;omega
  rw [if_neg h16] at hR
  have HR:=Lib.hid hR
  clear hR h16 hb hb2 ht hy
  go_enter Tryz.func198,Tryz.ntmps198
  go_wp2
  go_ret2
  exact AlO.none (grown_refl _ _) HR.out
end Go.Proofs.YtkmbkpoclhbmgaaGreat
namespace Go.Proofs.YtkmbkpoclhbmgaaGreat
open Go.RowKit
structure Sec where
 name:List Int
 seg:List Int
 addr:Int
 size:Int
 off:Int
 kind:Int
structure Seg where
 name:List Int
 addr:Int
 size:Int
 off:Int
 fsize:Int
 prot:Int
 secs:List Sec
structure St where
 name:List Int
 segs:List Seg
 deps:List (List Int × Int)
 rb:Int × Int
 bd:Int × Int
 wk:Int × Int
 lz:Int × Int
 tr:Int × Int
 ch:Int × Int
 sy:Int × Int
 st:Int × Int
 entry:Int
 has:Bool
 met:List Int
 secs:Int
def St.zero:St:=⟨[],[],[],(0,0),(0,0),(0,0),(0,0),(0,0),(0,0),(0,0),(0,0),0,false,[],0⟩
end Go.Proofs.YtkmbkpoclhbmgaaGreat
namespace Go.Proofs.YtkmbkpoclhbmgaaGreat
open Go.RowKit
variable {w w':World}
theorem add64i_run (x y:Int) (w:World) (hx : 0≤x∧x < 18446744073709551616) (hy : 0≤y∧y < 18446744073709551616) :
  (callFunc 170 #[.int .u64 x,.int .u64 y,.int .u64 0]).run Tryz.prog w =
    .ok (.value (.tuple #[.int .u64 ((x + y) % 18446744073709551616),.int .u64 ((x + y) / 18446744073709551616)])) w:=by
 obtain ⟨m,rfl⟩:=Int.eq_ofNat_of_zero_le hx.1
 obtain ⟨n,rfl⟩:=Int.eq_ofNat_of_zero_le hy.1
 rw [run_callFunc_extern Tryz.func170 (by kernel_rfl) (by kernel_rfl) (by kernel_rfl) (e:=add64Entry) (by kernel_rfl),run_add64 m n 0 (by omega) (by omega) (by omega) (by omega)]
 simp only [Result.andThen]
 congr 5 <;> omega
theorem addi_yes (a b:Int) (ha : 0≤a∧a < 18446744073709551616) (hb : 0≤b∧b < 18446744073709551616) (h:a + b < 18446744073709551616) (w:World) :
  Calls Tryz.prog 164 #[.int .u64 a,.int .u64 b] w fun e w'=>e=.returned (.tuple #[.int .u64 (a + b),.bool true])∧w=w':=by
 have hr:=add64i_run a b w ha hb
 rw [show (a + b) % 18446744073709551616=a + b by omega,show (a + b) / 18446744073709551616=0 by omega] at hr
 go_enter Tryz.func164,Tryz.ntmps164
 go_wp2
 go_ret2
 exact ⟨rfl,rfl⟩
theorem addi_no (a b:Int) (ha : 0≤a∧a < 18446744073709551616) (hb : 0≤b∧b < 18446744073709551616) (h:¬ a + b < 18446744073709551616) (w:World) :
  Calls Tryz.prog 164 #[.int .u64 a,.int .u64 b] w fun e w'=>e=.returned (.tuple #[.int .u64 0,.bool false])∧w=w':=by
 have hr:=add64i_run a b w ha hb
 rw [show (a + b) / 18446744073709551616=1 by omega] at hr
 go_enter Tryz.func164,Tryz.ntmps164
 go_wp2
 go_ret2
 exact ⟨rfl,rfl⟩
theorem withini_any (a b c:Int) (ha : 0≤a∧a < 18446744073709551616) (hb : 0≤b∧b < 18446744073709551616) (hc : 0≤c∧c < 18446744073709551616) (w:World) :
  Calls Tryz.prog 150 #[.int .u64 a,.int .u64 b,.int .u64 c] w fun e w'=>e=.returned (.bool (decide (a + b≤c)))∧w=w':=by
 by_cases h:a + b < 18446744073709551616
 ·have hs:=Lib.hid (addi_yes a b ha hb h w)
  go_enter Tryz.func150,Tryz.ntmps150
  go_wp2_with fail
  refine hs.out.mono ?_
  rintro e w' ⟨rfl,rfl⟩
  go_wp2
  go_ret
  exact ⟨ret_bool (by simp),rfl⟩
 ·have hs:=Lib.hid (addi_no a b ha hb h w)
  have e:decide (a + b≤c)=false:=by simp;omega
  rw [e]
  clear e
  go_enter Tryz.func150,Tryz.ntmps150
  go_wp2_with fail
  refine hs.out.mono ?_
  rintro e w' ⟨rfl,rfl⟩
  go_wp2
  go_ret
  exact ⟨rfl,rfl⟩
end Go.Proofs.YtkmbkpoclhbmgaaGreat
