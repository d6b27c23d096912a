/- Parts of the proof, put together: ExK, NlL, NlPt, NlY, NlTb, NlTw, NlMk. No condition beyond those that each part names. -/
import Derived.Shelf.Small.Bits
import Derived.Shelf.Small.Strs
import Derived.Shelf.Strconv.Itoa0
import Derived.Shelf.Strings.Search1
import Derived.Shelf.Bytes.SlIndexAt
import Derived.Shelf.Bytes.SlSearch0
import Derived.Ground.SlbCloneProg
import Derived.Shelf.Bytes.SlClone
import Derived.Shelf.Bytes.IndexByte
import Derived.Test.YtkmbkpoclhbmgaaGreatProg
import Derived.Test.YtkmbkpoclhbmgaaGreatRows
import Derived.WalkKit
import Derived.WalkSpells
import Derived.WalkLawsBesides
import Derived.BigQuiet
import Derived.Deep.QuietTactic
import Derived.Lib.Hide
import Derived.IntWalk
import Derived.OneCell
import Derived.Laws.Rows
import Derived.OpenShut
import Derived.ProofKit
import Derived.Lib.EndianBits
import Derived.RegionTactic
import Derived.ChangeAlike
import Derived.WalkMore
import Derived.Laws.BytesArg
import Derived.Shelf.Bytes.SlEqualAll
import Derived.Lib.SlFresh
import Derived.Maps.AppendAt
import Derived.Deep.AppendSrc
import Derived.Deep.Upon
import Derived.Lib.AppendZeros
import Derived.Laws.IdiomStrings
import Derived.Lib.AppendZerosOnto
import Derived.Laws.StructEq
import Derived.Below
import Derived.Shelf.Abstract
import Derived.Laws.ResultCell
import Derived.Deep.Slices
import Derived.ChangeSame
import Derived.Laws.OwnMore
import Derived.Laws.Slices
import Derived.Lib.ConvBytes
import Derived.StringKeys
import Derived.Maps.Own
import Derived.Maps.OwnOps
import Derived.Maps.OwnSet
import Derived.WideShapes
import Derived.Deep.LoopGhost
import Derived.StillTailTactics
import Derived.Deep.Cut
import Derived.Deep.CutRange
import Derived.PlainAid
import Derived.Lib.SlBytesRow
import Derived.Deep.Onto
import Derived.Laws.EntriesVeiled
import Derived.Shelf.SlSortCmp.WholeK
import Derived.Shelf.SlGeneric
import Derived.Ground.SlsfProg
import Derived.Laws.Bits128
import Derived.Deep.RegionWith
import Derived.Deep.RegionHeld3
import Derived.Lib.SmallJoins
import Derived.Deep.RegionLaw
import Derived.Deep.RegionHeld
import Derived.Lib.QuietBelow
import Derived.Stop.Asserts
import Derived.Laws.Externs
import Derived.WalkArith
import Derived.Maps.Views
import Derived.RangeFuncRecord
import Derived.RangeFuncSeq
import Derived.RangeFuncCalls
import Derived.RangeFuncBound
import Derived.OwnWalkIn
import Derived.TacticsInMore
import Derived.Shelf.RegionOpen
import Derived.BigRegion
import Derived.RangeFuncNested
import Derived.RangeFuncIn
import Derived.RangeFuncLeaves
import Derived.Laws.Tables
import Derived.BigFrame
import Derived.StillTail
import Derived.Test.YtkmbkpoclhbmgaaGreatPM1
import Derived.Test.YtkmbkpoclhbmgaaGreatPM2
import Derived.Test.YtkmbkpoclhbmgaaGreatPM5
import Derived.Test.YtkmbkpoclhbmgaaGreatPM8
import Derived.Test.YtkmbkpoclhbmgaaGreatPM12
import Derived.Test.YtkmbkpoclhbmgaaGreatPM14
import Derived.Test.YtkmbkpoclhbmgaaGreatPM15
namespace Go.Proofs.YtkmbkpoclhbmgaaGreat
open Go.RowKit
variable {w w' W V:World}
def plSeg:Seg:=⟨[95,95,84,69,88,84],4096,4096,0,4096,5,[⟨[97],[95,95,84,69,88,84],4096,8,0,0⟩]⟩
def plSt (nt nb ns:Nat):St:=⟨[],[plSeg],[([100],1)],(0,0),(0,0),(0,0),(0,0),(4096,(nt:Int)),(0,0),(4096 + (nt:Int),(nb:Int)),(4096 + ((nt:Int) + (nb:Int)),(ns:Int)),0,false,[],1⟩
def plB (T B S:List Int):List Int:=((List.replicate 4096 0 ++ T) ++ B) ++ S
theorem results_tmp_img {fn:Func} {p u:Tmp} (hr:fn.results=#[.tmp u,.cell p 48]) {tmps:Array Value} {v:Value} {g:Nat} {h:Hx} {s:St} {sv dv:Value} (hu:tmps.getD u undef=v) (hp:tmps.getD p undef=.pointer (some ⟨g,0,none⟩)) (k:ImgAt w g h s sv dv) :
  (results fn tmps).run Tryz.prog w=.ok (.tuple #[v,imgV h s sv dv]) w:=by
 have e:(asAddr (.pointer (some ⟨g,0,none⟩)):Sem Addr).run Tryz.prog w=.ok ⟨g,0,none⟩ w:=rfl
 have l:(loadVar 48 ⟨g,0,none⟩).run Tryz.prog w=.ok (imgV h s sv dv) w:=run_loadVar_row w g _ _ _ _ _ k Tryz.underlying48 rfl (by kernel_rfl)
 simp only [Array.getD_eq_getD_getElem?] at hp hu
 simp only [results,hr]
 simp [Sem.run_bind,Result.andThen,hp,hu,e,l]
structure PlO (w w':World) (T B S:List Int) (e:Ending):Prop where
 ex:∃ (q:Option Addr) (c:Nat) (x:Sg) (qs qd:Option Addr),e=.returned (.tuple #[.slice q (4096 + T.length + B.length + S.length) c,imgV ⟨2,0,0⟩ (plSt T.length B.length S.length) (.slice qs 1 1) (.slice qd 1 1)])∧∀ (V:World) (r:Option Nat),w'.grownBy V r→(∀ a,r=some a→a < w.heap.size)→ExIn2 V (plB T B S) q c (plSt T.length B.length S.length) [x] qs 1 1
 grown:w.grownBy w' none
theorem own_cap2 {base n c:Nat} {T:TypeId} {k:Nat} {q:Option Addr} {xs:List Value} (h:w.ownsRow base T k (.slice q n c) n xs):n≤c∧c≤9223372036854775807:=by
 obtain ⟨_,⟨e,e0⟩ | ⟨g,cap,cur,hv,_,_,h1,h2,_⟩⟩:=h
 ·injection e with _ _ e3;subst e3;subst e0;exact ⟨Nat.le_refl _,Nat.zero_le _⟩
 ·injection hv with _ _ e3;subst e3;unfold maxLen at h2;exact ⟨h1,by omega⟩
theorem wpList_buildSlice {P:Program} {ops:Array Oper} {rest:List Oper} {o:Oper} {a:Act} {w w2:World} {Q:Exit→Act→World→Prop} (hgd:o.guard=none) (t:TypeId) (n:Nat) (parts:Array (Nat × Operand)) (vals:Array (Nat × Value)) (v:Value) (ho:o.op=.buildSlice t n parts) (hp:(parts.toList.map fun x=>(x.1,a.eval x.2))=vals.toList)
  (h:(Instr.buildSlice t n vals).run P w=.ok v w2) (hK:wpList P ops Q rest (a.put o.dst v) w2):wpList P ops Q (o :: rest) a w :=
 wpList_plain hgd fun _ hK'=>by
  have hp:(parts.map fun (i,x)=>(i,a.eval x))=vals:=Array.toList_inj.1 (by rw [Array.toList_map];exact hp)
  subst hp
  unfold Oper.wp execOp
  simp only [ho,Sem.run_bind,h,Result.andThen_ok,Sem.run_pure]
  exact hK' _ _ hK
theorem wpList_build {P:Program} {ops:Array Oper} {rest:List Oper} {o:Oper} {a:Act} {w w2:World} {Q:Exit→Act→World→Prop} (hgd:o.guard=none) (t:TypeId) (parts:Array (Nat × Operand)) (vals:Array (Nat × Value)) (v:Value) (ho:o.op=.build t parts) (hp:(parts.toList.map fun x=>(x.1,a.eval x.2))=vals.toList)
  (h:(Instr.build t vals).run P w=.ok v w2) (hK:wpList P ops Q rest (a.put o.dst v) w2):wpList P ops Q (o :: rest) a w :=
 wpList_plain hgd fun _ hK'=>by
  have hp:(parts.map fun (i,x)=>(i,a.eval x))=vals:=Array.toList_inj.1 (by rw [Array.toList_map];exact hp)
  subst hp
  unfold Oper.wp execOp
  simp only [ho,Sem.run_bind,h,Result.andThen_ok,Sem.run_pure]
  exact hK' _ _ hK
theorem wpList_alloc {P:Program} {ops:Array Oper} {rest:List Oper} {o:Oper} {a:Act} {w w2:World} {Q:Exit→Act→World→Prop} (hgd:o.guard=none) (t:TypeId) (v:Value) (ho:o.op=.alloc t)
  (h:(Instr.alloc t true (.tuple #[])).run P w=.ok v w2) (hK:wpList P ops Q rest (a.put o.dst v) w2):wpList P ops Q (o :: rest) a w :=
 wpList_plain hgd fun _ hK'=>by
  unfold Oper.wp execOp
  simp only [ho,Sem.run_bind,h,Result.andThen_ok,Sem.run_pure]
  exact hK' _ _ hK
theorem slice_run (c0 c1 c2 c3 c4 c5 c6:Value) (W:World):(Instr.buildSlice 43 1 #[(0,.agg #[c0,c1,c2,c3,c4,c5,c6])]).run Tryz.prog W=.ok (.slice (some ⟨W.heap.size,0,none⟩) 1 1) (W.alloc (.cells #[c0,c1,c2,c3,c4,c5,c6] 121 (0,0))):=by kernel_rfl
theorem dep_run (W:World):(Instr.build 124 #[(0,.string ⟨#[100]⟩),(1,.int .i64 1)]).run Tryz.prog W=.ok (.agg #[.string ⟨#[100]⟩,.int .i64 1]) W:=by kernel_rfl
theorem deps_run (c0 c1:Value) (W:World):(Instr.buildSlice 44 1 #[(0,.agg #[c0,c1])]).run Tryz.prog W=.ok (.slice (some ⟨W.heap.size,0,none⟩) 1 1) (W.alloc (.cells #[c0,c1] 124 (0,0))):=by kernel_rfl
theorem img_run (sv dv:Value) (hs:∃ q n c,sv=.slice q n c) (hd:∃ q n c,dv=.slice q n c) (W:World):(Instr.build 48 #[(0,.int .i64 2),(4,sv),(5,dv)]).run Tryz.prog W=.ok (imgV ⟨2,0,0⟩ ⟨[],[plSeg],[([100],1)],(0,0),(0,0),(0,0),(0,0),(0,0),(0,0),(0,0),(0,0),0,false,[],1⟩ sv dv) W:=by
 obtain ⟨q,n,c,rfl⟩:=hs
 obtain ⟨q',n',c',rfl⟩:=hd
 kernel_rfl
theorem img_alloc (W:World):(Instr.alloc 48 true (.tuple #[])).run Tryz.prog W=.ok (.pointer (some ⟨W.heap.size,0,none⟩)) (W.alloc (.cells (imgArr Hx.zero St.zero (.slice none 0 0) (.slice none 0 0)) 48 (0,0))):=by kernel_rfl
theorem act_turn {Q:Exit→Act→World→Prop} {a b:Act} (h:a=b) (k:Q .normal b w):Q .normal a w:=h ▸ k
set_option maxRecDepth 20000 in
set_option maxHeartbeats 3200000 in
theorem plain_any {T B S:List Int} {qt qb qs:Option Addr} {nt ct nb cb ns cs:Nat} (ht:T.length=nt) (hb:B.length=nb) (hs:S.length=ns) (bt:IsBytes w qt ct T) (bb:IsBytes w qb cb B) (bs:IsBytes w qs cs S) (few:nt≤1000000000∧nb≤1000000000∧ns≤1000000000) (yt:Byt T) (yb:Byt B) (ys:Byt S) :
  Calls Tryz.prog 24 #[.slice qt nt ct,.slice qb nb cb,.slice qs ns cs] w fun e w'=>PlO w w' T B S e:=by
 obtain ⟨ft,fb,fs⟩:=few
 obtain ⟨iu,hiu⟩:=info_parts (show (Tryz.prog.info? 5).map (fun i=>(i.zero,i.size,i.bytes))=some (some (.int .u8 0),1,1) from by kernel_rfl)
 have IU:=Lib.hid hiu
 have YT:=Lib.hid yt
 have YB:=Lib.hid yb
 have YS:=Lib.hid ys
 clear yt yb ys
 have HT:=Lib.hid ht
 have HB:=Lib.hid hb
 have HS:=Lib.hid hs
 have BT:=Lib.hid bt
 have BB:=Lib.hid bb
 have BS:=Lib.hid bs
 clear hiu ht hb hs bt bb bs
 go_enter Tryz.func24,Tryz.ntmps24
 go_upto_region 1 with fail
 have g1:=grown1 w (.cells #[.int .i64 0,.int .i64 0,.int .u32 0,.string ⟨#[]⟩,.slice none 0 0,.slice none 0 0,.int .u64 0,.int .u64 0,.int .u64 0,.int .u64 0,.int .u64 0,.int .u64 0,.int .u64 0,.int .u64 0,.int .u64 0,.int .u64 0,.int .u64 0,.int .u64 0,.int .u64 0,.int .u64 0,.int .u64 0,.int .u64 0,.int .u64 0,.bool false] 48)
 have z1:=ImgAt.new w
 obtain ⟨w1,hw1⟩:∃ W,W=w.alloc (.cells #[.int .i64 0,.int .i64 0,.int .u32 0,.string ⟨#[]⟩,.slice none 0 0,.slice none 0 0,.int .u64 0,.int .u64 0,.int .u64 0,.int .u64 0,.int .u64 0,.int .u64 0,.int .u64 0,.int .u64 0,.int .u64 0,.int .u64 0,.int .u64 0,.int .u64 0,.int .u64 0,.int .u64 0,.int .u64 0,.int .u64 0,.int .u64 0,.bool false] 48):=⟨_,rfl⟩
 obtain ⟨gr,hgr⟩:∃ g,g=w.heap.size:=⟨_,rfl⟩
 rw [← hw1] at g1 z1 ⊢
 rw [← hgr] at z1 ⊢
 have G1:=Lib.hid g1
 have Z1:=Lib.hid z1
 have HGR:=Lib.hid hgr
 clear g1 z1 hw1 hgr
 obtain ⟨n0,hn0⟩:∃ n:Nat,n=4096:=⟨_,rfl⟩
 have HN0:=Lib.hid hn0
 clear hn0
 have BT1:=Lib.hid (BT.out.kept G1.out (by simp))
 have BB1:=Lib.hid (BB.out.kept G1.out (by simp))
 have BS1:=Lib.hid (BS.out.kept G1.out (by simp))
 have Z0:=Lib.hid (show (madeCells (Value.int IntKind.u8 0).cells (n0 * 1)).toList=(List.replicate n0 (0:Int)).map (Value.int .u8) from by
  rw [Nat.mul_one,show (Value.int IntKind.u8 0).cells=#[Value.int IntKind.u8 0] from rfl,toList_madeCells_one,List.map_replicate])
 obtain ⟨Z,hZ⟩:∃ Z:List Int,Z=List.replicate n0 0:=⟨_,rfl⟩
 have ZL:=Lib.hid (show Z.length=n0 by rw [hZ,List.length_replicate])
 rw [← hZ] at Z0
 have HZ:=Lib.hid hZ
 have HZ4:=Lib.hid (show Z=List.replicate 4096 0 by rw [hZ,HN0.out])
 clear hZ
 go_upto_region 3 with (first
  |(at_make;refine wpList_make_full _ rfl _ _ 29 rfl w1.heap.size 5 iu (.int .u8 0) 1 Tryz.underlying29 IU.out.1 IU.out.2.1 IU.out.2.2.1 .i64 .i64 _ _ n0 rfl rfl (by rw [HN0.out];rfl) (by rw [HN0.out];rfl) (by rw [IU.out.2.2.2,HN0.out];omega) (by unfold maxLen;rw [HN0.out];omega) (Nat.le_refl _) ?_;(intro w2 hown hg2;have G2:=Lib.hid hg2;have R2:=Lib.hid (RowTo.refl (show w2.ownsRow w1.heap.size 5 1 (.slice (some ⟨w1.heap.size,0,none⟩) n0 n0) Z.length (Z.map (Value.int .u8)) from by rw [ZL.out,← Z0.out];exact hown));have OB:=Lib.hid (fun g (e:(Value.slice (some ⟨w1.heap.size,0,none⟩) n0 n0).ownBlock=some g)=>(R2.out.own.lt g e).1);clear hown hg2))
  |(at_builtin;(refine wp_append_to rfl _ _ rfl rfl (v:=.slice (some ⟨w1.heap.size,0,none⟩) n0 n0) (by rfl) R2.out T nt HT.out (by rfl) (BT1.out.kept G2.out (by simp)) (by rw [ZL.out,HN0.out];omega) G2.out.size ?_);intro q3 c3 w3 hr3;rw [ZL.out] at hr3 ⊢;have R3:=Lib.hid hr3;have G3:=Lib.hid (grown_opt G2.out hr3.grown OB.out);have L3:=Lib.hid (show (Z ++ T).length=n0 + nt by rw [List.length_append,ZL.out,HT.out]);clear hr3 R2)
  |(at_builtin;have _:=R3;go_must ((refine wp_append_to rfl _ _ rfl rfl (v:=.slice q3 (n0 + nt) c3) (by rfl) R3.out B nb HB.out (by rfl) (BB1.out.kept G3.out (by simp)) (by rw [L3.out,HN0.out];omega) G3.out.size ?_);intro q4 c4 w4 hr4;rw [L3.out] at hr4 ⊢;have R4:=Lib.hid hr4;have G4:=Lib.hid (grown_opt G2.out hr4.grown OB.out));have L4:=Lib.hid (show ((Z ++ T) ++ B).length=n0 + nt + nb by rw [List.length_append,L3.out,HB.out]);clear hr4 R3)
  |(at_builtin;(refine wp_append_to rfl _ _ rfl rfl (v:=.slice q4 (n0 + nt + nb) c4) (by rfl) R4.out S ns HS.out (by rfl) (BS1.out.kept G4.out (by simp)) (by rw [L4.out,HN0.out];omega) G4.out.size ?_);intro q5 c5 w5 hr5;rw [L4.out] at hr5 ⊢;have R5:=Lib.hid hr5;have G5:=Lib.hid (grown_opt G2.out hr5.grown OB.out);clear hr5 R4))
 clear IU
 clear BT1 BB1 BS1 BT BB BS Z0 iu
 go_upto_region 4 with fail
 have b5:=heap_alloc_new w5 (.cells #[.string ⟨#[97]⟩,.string ⟨#[95,95,84,69,88,84]⟩,.int .u64 4096,.int .u64 8,.int .u64 0,.int .i64 0] 118)
 have g6:=grown1 w5 (.cells #[.string ⟨#[97]⟩,.string ⟨#[95,95,84,69,88,84]⟩,.int .u64 4096,.int .u64 8,.int .u64 0,.int .i64 0] 118)
 obtain ⟨X,hX⟩:∃ X,X=w5.heap.size:=⟨_,rfl⟩
 obtain ⟨w6,hw6⟩:∃ W,W=w5.alloc (.cells #[.string ⟨#[97]⟩,.string ⟨#[95,95,84,69,88,84]⟩,.int .u64 4096,.int .u64 8,.int .u64 0,.int .i64 0] 118):=⟨_,rfl⟩
 have hx6:w6.heap.size=X + 1:=by rw [hw6,World.size_alloc,hX]
 rw [← hw6] at b5 g6 ⊢
 rw [← hX] at b5 ⊢
 have B5:=Lib.hid b5
 have G6:=Lib.hid g6
 have HX:=Lib.hid hX
 clear b5 g6 hX hw6
 have g7:=grown1 w6 (.cells #[.string ⟨#[95,95,84,69,88,84]⟩,.int .u64 4096,.int .u64 4096,.int .u64 0,.int .u64 4096,.int .i64 5,.slice (some ⟨X,0,none⟩) 1 1] 121)
 have b7:=heap_alloc_new w6 (.cells #[.string ⟨#[95,95,84,69,88,84]⟩,.int .u64 4096,.int .u64 4096,.int .u64 0,.int .u64 4096,.int .i64 5,.slice (some ⟨X,0,none⟩) 1 1] 121)
 rw [hx6] at b7
 obtain ⟨w7,hw7⟩:∃ W,W=w6.alloc (.cells #[.string ⟨#[95,95,84,69,88,84]⟩,.int .u64 4096,.int .u64 4096,.int .u64 0,.int .u64 4096,.int .i64 5,.slice (some ⟨X,0,none⟩) 1 1] 121):=⟨_,rfl⟩
 have hx7:w7.heap.size=X + 2:=by rw [hw7,World.size_alloc,hx6]
 rw [← hw7] at b7 g7 ⊢
 have G7:=Lib.hid g7
 clear g7 hw7 hx6
 have z7:=b7
 have c0:w7.cell? ⟨X + 1,0,none⟩=some (.string ⟨#[95,95,84,69,88,84]⟩):=by rw [cell_of b7];rfl
 have c1:w7.cell? ⟨X + 1,1,none⟩=some (.int .u64 4096):=by rw [cell_of b7];rfl
 have c2:w7.cell? ⟨X + 1,2,none⟩=some (.int .u64 4096):=by rw [cell_of b7];rfl
 have c3':w7.cell? ⟨X + 1,3,none⟩=some (.int .u64 0):=by rw [cell_of b7];rfl
 have c4':w7.cell? ⟨X + 1,4,none⟩=some (.int .u64 4096):=by rw [cell_of b7];rfl
 have c5':w7.cell? ⟨X + 1,5,none⟩=some (.int .i64 5):=by rw [cell_of b7];rfl
 have c6:w7.cell? ⟨X + 1,6,none⟩=some (.slice (some ⟨X,0,none⟩) 1 1):=by rw [cell_of b7];rfl
 have B7:=Lib.hid b7
 clear b7 z7
 have HX7:=Lib.hid hx7
 clear hx7
 refine wp_region_lit ?_
 refine wpList_load_row (P:=Tryz.prog) rfl 121 _ rfl (X + 1) rfl 121 #[.string ⟨#[95,95,84,69,88,84]⟩,.int .u64 4096,.int .u64 4096,.int .u64 0,.int .u64 4096,.int .i64 5,.slice (some ⟨X,0,none⟩) 1 1] (0,0) _ B7.out Tryz.underlying121 rfl (by kernel_rfl) ?_
 obtain ⟨w8,hw8⟩:∃ V,V=w7.alloc (.cells #[.string ⟨#[95,95,84,69,88,84]⟩,.int .u64 4096,.int .u64 4096,.int .u64 0,.int .u64 4096,.int .i64 5,.slice (some ⟨X,0,none⟩) 1 1] 121 (0,0)):=⟨_,rfl⟩
 obtain ⟨Y,hY⟩:∃ Y,Y=w7.heap.size:=⟨_,rfl⟩
 have e24:(Instr.buildSlice 43 1 #[(0,.agg #[.string ⟨#[95,95,84,69,88,84]⟩,.int .u64 4096,.int .u64 4096,.int .u64 0,.int .u64 4096,.int .i64 5,.slice (some ⟨X,0,none⟩) 1 1])]).run Tryz.prog w7=.ok (.slice (some ⟨Y,0,none⟩) 1 1) w8:=by rw [hY,hw8];exact slice_run _ _ _ _ _ _ _ w7
 refine wpList_buildSlice rfl 43 1 _ #[(0,.agg #[.string ⟨#[95,95,84,69,88,84]⟩,.int .u64 4096,.int .u64 4096,.int .u64 0,.int .u64 4096,.int .i64 5,.slice (some ⟨X,0,none⟩) 1 1])] _ rfl (by rfl) e24 ?_
 refine wpList_build rfl 124 _ #[(0,.string ⟨#[100]⟩),(1,.int .i64 1)] _ rfl (by rfl) (dep_run _) ?_
 obtain ⟨w9,hw9⟩:∃ V,V=w8.alloc (.cells #[.string ⟨#[100]⟩,.int .i64 1] 124 (0,0)):=⟨_,rfl⟩
 obtain ⟨D,hD⟩:∃ Y,Y=w8.heap.size:=⟨_,rfl⟩
 have e26:(Instr.buildSlice 44 1 #[(0,.agg #[.string ⟨#[100]⟩,.int .i64 1])]).run Tryz.prog w8=.ok (.slice (some ⟨D,0,none⟩) 1 1) w9:=by rw [hD,hw9];exact deps_run _ _ w8
 refine wpList_buildSlice rfl 44 1 _ #[(0,.agg #[.string ⟨#[100]⟩,.int .i64 1])] _ rfl (by rfl) e26 ?_
 obtain ⟨PI,hPI⟩:∃ v:Value,v=imgV ⟨2,0,0⟩ ⟨[],[plSeg],[([100],1)],(0,0),(0,0),(0,0),(0,0),(0,0),(0,0),(0,0),(0,0),0,false,[],1⟩ (.slice (some ⟨Y,0,none⟩) 1 1) (.slice (some ⟨D,0,none⟩) 1 1):=⟨_,rfl⟩
 have e27:(Instr.build 48 #[(0,.int .i64 2),(4,.slice (some ⟨Y,0,none⟩) 1 1),(5,.slice (some ⟨D,0,none⟩) 1 1)]).run Tryz.prog w9=.ok PI w9:=by rw [hPI];exact img_run _ _ ⟨_,_,_,rfl⟩ ⟨_,_,_,rfl⟩ w9
 refine wpList_build rfl 48 _ #[(0,.int .i64 2),(4,.slice (some ⟨Y,0,none⟩) 1 1),(5,.slice (some ⟨D,0,none⟩) 1 1)] _ rfl (by rfl) e27 ?_
 obtain ⟨w10,hw10⟩:∃ V,V=w9.alloc (.cells (imgArr Hx.zero St.zero (.slice none 0 0) (.slice none 0 0)) 48 (0,0)):=⟨_,rfl⟩
 obtain ⟨M,hM⟩:∃ Y,Y=w9.heap.size:=⟨_,rfl⟩
 have e10:(Instr.alloc 48 true (.tuple #[])).run Tryz.prog w9=.ok (.pointer (some ⟨M,0,none⟩)) w10:=by rw [hM,hw10];exact img_alloc w9
 have i10:ImgAt w10 M Hx.zero St.zero (.slice none 0 0) (.slice none 0 0):=by rw [hM,hw10];exact heap_alloc_new _ _
 refine wpList_alloc rfl 48 _ rfl e10 ?_
 refine wpList_store_img (g:=M) (h0:=Hx.zero) (s0:=St.zero) (sv0:=.slice none 0 0) (dv0:=.slice none 0 0) (h:=⟨2,0,0⟩) (s:=⟨[],[plSeg],[([100],1)],(0,0),(0,0),(0,0),(0,0),(0,0),(0,0),(0,0),(0,0),0,false,[],1⟩) (sv:=.slice (some ⟨Y,0,none⟩) 1 1) (dv:=.slice (some ⟨D,0,none⟩) 1 1) rfl (.tmp 10) (.tmp 27) rfl ?hx ?hy i10 ⟨_,_,_,rfl⟩ ⟨_,_,_,rfl⟩ ?_
 case hx=>kernel_rfl
 case hy=>exact Eq.trans (b:=PI) (by kernel_rfl) hPI
 refine wpList_nil ?_
 refine act_turn (b:=⟨#[.slice qt nt ct,.slice qb nb cb,.slice qs ns cs,undef,undef,undef,.slice none 0 0,.pointer (some ⟨gr,0,none⟩),.slice q5 (n0 + nt + nb + ns) c5,.pointer (some ⟨X + 1,0,none⟩),.pointer (some ⟨M,0,none⟩),undef,.slice (some ⟨w1.heap.size,0,none⟩) n0 n0,.slice (some ⟨w1.heap.size,0,none⟩) n0 n0,.slice qt nt ct,.slice q3 (n0 + nt) c3,.slice qb nb cb,.slice q4 (n0 + nt + nb) c4,.slice qs ns cs,.slice q5 (n0 + nt + nb + ns) c5,.agg #[.string ⟨#[97]⟩,.string ⟨#[95,95,84,69,88,84]⟩,.int .u64 4096,.int .u64 8,.int .u64 0,.int .i64 0],.slice (some ⟨X,0,none⟩) 1 1,.agg #[.string ⟨#[95,95,84,69,88,84]⟩,.int .u64 4096,.int .u64 4096,.int .u64 0,.int .u64 4096,.int .i64 5,.slice (some ⟨X,0,none⟩) 1 1],.agg #[.string ⟨#[95,95,84,69,88,84]⟩,.int .u64 4096,.int .u64 4096,.int .u64 0,.int .u64 4096,.int .i64 5,.slice (some ⟨X,0,none⟩) 1 1],.slice (some ⟨Y,0,none⟩) 1 1,.agg #[.string ⟨#[100]⟩,.int .i64 1],.slice (some ⟨D,0,none⟩) 1 1,PI,undef,undef,undef,undef,undef,undef,undef,undef,undef,undef,undef,undef,undef,undef,undef,undef,undef,undef,undef,undef,undef,undef,undef,undef,undef,undef,undef,undef,undef,undef,undef],[]⟩) (by kernel_rfl) ?_
 dsimp only
 obtain ⟨w11,hw11⟩:∃ V,V=w10.setRow M (imgArr ⟨2,0,0⟩ ⟨[],[plSeg],[([100],1)],(0,0),(0,0),(0,0),(0,0),(0,0),(0,0),(0,0),(0,0),0,false,[],1⟩ (.slice (some ⟨Y,0,none⟩) 1 1) (.slice (some ⟨D,0,none⟩) 1 1)):=⟨_,rfl⟩
 have i11:ImgAt w11 M ⟨2,0,0⟩ ⟨[],[plSeg],[([100],1)],(0,0),(0,0),(0,0),(0,0),(0,0),(0,0),(0,0),(0,0),0,false,[],1⟩ (.slice (some ⟨Y,0,none⟩) 1 1) (.slice (some ⟨D,0,none⟩) 1 1):=by rw [hw11];exact i10.put
 have g8:w7.grownBy w8 none:=by rw [hw8];exact grown1 _ _
 have g9:w8.grownBy w9 none:=by rw [hw9];exact grown1 _ _
 have g10:w9.grownBy w10 none:=by rw [hw10];exact grown1 _ _
 have g11:w9.grownBy w11 none:=grown_new g10 (by rw [hw11];exact grown_setRow _ _) (by rw [hM];exact Nat.le_refl _)
 have b8:w8.heap[Y]?=some (.cells #[.string ⟨#[95,95,84,69,88,84]⟩,.int .u64 4096,.int .u64 4096,.int .u64 0,.int .u64 4096,.int .i64 5,.slice (some ⟨X,0,none⟩) 1 1] 121 (0,0)):=by rw [hw8,hY];exact heap_alloc_new _ _
 have b9:w9.heap[D]?=some (.cells #[.string ⟨#[100]⟩,.int .i64 1] 124 (0,0)):=by rw [hw9,hD];exact heap_alloc_new _ _
 rw [← hw11]
 have HB8:=Lib.hid (grown_obj (grown_trans g9 g11) b8 (by simp))
 have HB9:=Lib.hid (grown_obj g11 b9 (by simp))
 have GG:=Lib.hid (grown_trans g8 (grown_trans g9 g11))
 have I11:=Lib.hid i11
 have YL:=Lib.hid (show X + 2≤Y by rw [hY,HX7.out];exact Nat.le_refl _)
 have YM:=Lib.hid (show Y < M by rw [hM,hY];have h1:=lt_of_block b8;have h2:=g9.size;rw [hY] at h1;omega)
 have DM:=Lib.hid (show D < M by rw [hM,hD];have h1:=lt_of_block b9;rw [hD] at h1;omega)
 have MM:=Lib.hid (show w7.heap.size≤M by rw [hM];exact (grown_trans g8 g9).size)
 have ML:M < w11.heap.size:=lt_of_block i11
 have FZ:∀ i,w11.frozen? ⟨M,i,none⟩=false:=fun i=>free_of i11
 clear e24 e26 e27 e10 hw8 hw9 hw10 hw11 hY hD hM g8 g9 g10 g11 b8 b9 i10 hPI
 have CI:∀ (i:Nat) (v:Value),(imgArr ⟨2,0,0⟩ ⟨[],[plSeg],[([100],1)],(0,0),(0,0),(0,0),(0,0),(0,0),(0,0),(0,0),(0,0),0,false,[],1⟩ (.slice (some ⟨Y,0,none⟩) 1 1) (.slice (some ⟨D,0,none⟩) 1 1))[i]?=some v→w11.cell? ⟨M,i,none⟩=some v:=fun i v h=>by rw [cell_of i11];exact h
 have k14:=CI 14 (.int .u64 0) rfl
 have k15:=CI 15 (.int .u64 0) rfl
 have k18:=CI 18 (.int .u64 0) rfl
 have k19:=CI 19 (.int .u64 0) rfl
 have k20:=CI 20 (.int .u64 0) rfl
 have k21:=CI 21 (.int .u64 0) rfl
 have f14:=FZ 14
 have f15:=FZ 15
 have f18:=FZ 18
 have f19:=FZ 19
 have f20:=FZ 20
 have f21:=FZ 21
 clear CI FZ i11
 go_upto_region 9 with fail
 obtain ⟨w12,hw12⟩:∃ V,V=((((((w11.setCell ⟨M,14,none⟩ (.int .u64 4096)).setCell ⟨M,15,none⟩ (.int .u64 (nt:Int))).setCell ⟨M,18,none⟩ (.int .u64 (4096 + (nt:Int)))).setCell ⟨M,19,none⟩ (.int .u64 (nb:Int))).setCell ⟨M,20,none⟩ (.int .u64 (4096 + ((nt:Int) + (nb:Int))))).setCell ⟨M,21,none⟩ (.int .u64 (ns:Int))):=⟨_,rfl⟩
 have i12:ImgAt w12 M ⟨2,0,0⟩ (plSt nt nb ns) (.slice (some ⟨Y,0,none⟩) 1 1) (.slice (some ⟨D,0,none⟩) 1 1):=by
  rw [hw12]
  unfold ImgAt
  rw [heap_setCell_same _ M 21 _ _ _ (heap_setCell_same _ M 20 _ _ _ (heap_setCell_same _ M 19 _ _ _ (heap_setCell_same _ M 18 _ _ _ (heap_setCell_same _ M 15 _ _ _ (heap_setCell_same w11 M 14 _ _ _ I11.out)))))]
  rfl
 have g12:w11.grownBy w12 (some M):=by
  rw [hw12]
  exact grown_setCell (grown_setCell (grown_setCell (grown_setCell (grown_setCell (grown_setCell (grown_refl _ _) _) _) _) _) _) _
 rw [← hw12]
 have GA:=Lib.hid (grown_new GG.out g12 MM.out)
 have I12:=Lib.hid i12
 have B8:=Lib.hid (g12.block Y (lt_of_block HB8.out) (by have:=YM.out;intro e;injection e with e;omega) |>.trans HB8.out)
 have B9:=Lib.hid (g12.block D (lt_of_block HB9.out) (by have:=DM.out;intro e;injection e with e;omega) |>.trans HB9.out)
 clear hw12 k14 k15 k18 k19 k20 k21 f14 f15 f18 f19 f20 f21 i12 g12 ML
 have KG:=fun d os=>grown_below (below_regrown w12 d os) none
 have LD:=Lib.hid (fun (V:World) (hV:∃ p:Regrown,V=Go.Sort.grow (redrawn w12 p.d) p.os)=>(by obtain ⟨p,rfl⟩:=hV;exact run_loadVar_row _ M _ _ _ _ _ (I12.out.kept (KG p.d p.os) (by simp)) Tryz.underlying48 rfl (by kernel_rfl):(loadVar 48 ⟨M,0,none⟩).run Tryz.prog V=.ok _ V))
 have HK:=Lib.hid KG
 clear KG
 refine wp_region_quiet_tail 3 (by kernel_rfl) (by kernel_rfl) ?_
 simp only [List.take_succ_cons,List.take_zero,List.drop_succ_cons,List.drop_zero]
 iterate 1 (quiet_step (fail))
 refine wpQuiet_load rfl _ rfl rfl LD.out ?_
 iterate 1 (quiet_step (fail))
 refine wpQuiet_nil ?_
 intro _ hw'
 obtain ⟨⟨dq,osq⟩,hw''⟩:=hw'
 subst hw''
 have gk:=HK.out dq osq
 obtain ⟨w13,hw13⟩:∃ W,Go.Sort.grow (redrawn w12 dq) osq=W:=⟨_,rfl⟩
 rw [hw13] at gk ⊢
 have Z13:=Lib.hid (Z1.out.kept (grown_trans G5.out (grown_trans G6.out (grown_trans G7.out (grown_trans GA.out gk)))) (by simp))
 have GK:=Lib.hid gk
 clear hw13 gk LD HK
 have ST:=Lib.hid (Z13.out.put (h:=⟨2,0,0⟩) (s:=plSt nt nb ns) (sv:=.slice (some ⟨Y,0,none⟩) 1 1) (dv:=.slice (some ⟨D,0,none⟩) 1 1))
 go_wp2_with (refine wpList_store_img (g:=gr) (h0:=Hx.zero) (s0:=St.zero) (sv0:=.slice none 0 0) (dv0:=.slice none 0 0) (h:=⟨2,0,0⟩) (s:=plSt nt nb ns) (sv:=.slice (some ⟨Y,0,none⟩) 1 1) (dv:=.slice (some ⟨D,0,none⟩) 1 1) rfl (.tmp 7) (.tmp 58) rfl (by kernel_rfl) (by kernel_rfl) Z13.out ⟨_,_,_,rfl⟩ ⟨_,_,_,rfl⟩ ?_)
 refine bodyPost_ret (results_tmp_img rfl rfl rfl ST.out) rfl ?_
 have G513:=grown_trans G6.out (grown_trans G7.out (grown_trans GA.out GK.out))
 have gf:w13.grownBy (w13.setRow gr (imgArr ⟨2,0,0⟩ (plSt nt nb ns) (.slice (some ⟨Y,0,none⟩) 1 1) (.slice (some ⟨D,0,none⟩) 1 1))) (some gr):=grown_setRow _ _
 have g1l:gr < w1.heap.size:=lt_of_block Z1.out
 have hX5:w5.heap.size=X:=HX.out.symm
 have g15:=G5.out.size
 have hx7:=HX7.out
 obtain ⟨F,hF⟩:∃ F,F=w13.setRow gr (imgArr ⟨2,0,0⟩ (plSt nt nb ns) (.slice (some ⟨Y,0,none⟩) 1 1) (.slice (some ⟨D,0,none⟩) 1 1)):=⟨_,rfl⟩
 rw [← hF] at gf ⊢
 have YG:Y≠gr:=by
  have h1:=YM.out
  intro e
  have h2:=YL.out
  omega
 have bY:F.heap[Y]?=some (.cells #[.string ⟨#[95,95,84,69,88,84]⟩,.int .u64 4096,.int .u64 4096,.int .u64 0,.int .u64 4096,.int .i64 5,.slice (some ⟨X,0,none⟩) 1 1] 121 (0,0)):=grown_obj gf (grown_obj GK.out B8.out (by simp)) (by intro e;injection e with e;exact YG e.symm)
 have bX:F.heap[X]?=some (.cells #[.string ⟨#[97]⟩,.string ⟨#[95,95,84,69,88,84]⟩,.int .u64 4096,.int .u64 8,.int .u64 0,.int .i64 0] 118 (0,0)):=grown_obj gf (grown_obj (grown_trans G7.out (grown_trans GA.out GK.out)) B5.out (by simp)) (by intro e;injection e with e;omega)
 have by5:IsBytes w5 q5 c5 (plB T B S):=IsBytes.of_own (n:=n0 + nt + nb + ns) (by
  unfold plB
  rw [← HZ4.out,List.length_append,L4.out,HS.out]) (by
  have:=R5.out.own
  rw [List.length_append,L4.out,HS.out] at this
  unfold plB
  rw [← HZ4.out]
  exact this)
 have o5:=R5.out.own
 rw [List.length_append,L4.out,HS.out] at o5
 have cp:=own_cap2 o5
 have byF:IsBytes F q5 c5 (plB T B S):=(by5.kept G513 (by simp)).kept gf (fun b e=>by
  subst e
  intro e
  injection e with e
  have h3:=(o5.lt b.block rfl).1
  omega)
 have e4:(4096:Nat) + T.length + B.length + S.length=n0 + nt + nb + ns:=by rw [HT.out,HB.out,HS.out,HN0.out]
 have lB:(plB T B S).length=n0 + nt + nb + ns:=by
  unfold plB
  rw [← HZ4.out,List.length_append,L4.out,HS.out]
 refine ⟨⟨q5,c5,⟨plSeg,some ⟨X,0,none⟩,1⟩,some ⟨Y,0,none⟩,some ⟨D,0,none⟩,?_,?_⟩,?_⟩
 ·rw [e4,HT.out,HB.out,HS.out]
  rfl
 ·rw [HT.out,HB.out,HS.out]
  have hn:=HN0.out
  intro V r hV hr
  have gw:=G1.out.size
  have bY:=grown_obj hV bY (fun e=>by have:=hr _ e;have:=YL.out;omega)
  have bX:=grown_obj hV bX (fun e=>by have:=hr _ e;omega)
  have byF:=byF.kept hV (fun b e er=>by
   subst e
   have h3:=(o5.lt b.block rfl).1
   have:=hr _ er
   omega)
  refine ⟨byF,by rw [lB];exact cp.1,cp.2,by rw [lB];omega,?_,⟨rfl,?_,?_,(show (1:Nat)≤9223372036854775807 by decide),?_,Nat.le_refl _⟩,(show secN [plSeg]≤1000000000 by decide),?_,?_,?_,by decide⟩
  ·intro z hz
   unfold plB at hz
   rcases List.mem_append.1 hz with hz | hz
   · rcases List.mem_append.1 hz with hz | hz
     ·rcases List.mem_append.1 hz with hz | hz
      ·rw [(List.mem_replicate.1 hz).2];omega
      ·exact YT.out z hz
     ·exact YB.out z hz
   · exact YS.out z hz
  ·intro i x hx
   rcases i with _ | i
   · injection hx with hx
     subst hx
     refine ⟨Y,rfl,?_,?_,?_,?_,?_,?_,?_⟩ <;> (rw [cell_of bY];rfl)
   · simp at hx
  ·intro x hx
   rw [List.mem_singleton] at hx
   subst hx
   intro i y hy
   rcases i with _ | i
   · injection hy with hy
     subst hy
     refine ⟨X,rfl,?_,?_,?_,?_,?_,?_⟩ <;> (rw [cell_of bX];rfl)
   · simp [plSeg] at hy
  ·intro x hx
   rw [List.mem_singleton] at hx
   subst hx
   exact (show (1:Nat)≤9223372036854775807 by decide)
  ·refine ⟨⟨?_,?_⟩,?_,?_⟩ <;> simp only [plSt] <;> omega
  ·refine ⟨⟨?_,?_⟩,?_,?_⟩ <;> simp only [plSt] <;> omega
  ·refine ⟨⟨?_,?_⟩,?_,?_⟩ <;> simp only [plSt] <;> omega
 ·refine grown_new (grown_trans G1.out (grown_trans G5.out G513)) gf ?_
  rw [HGR.out]
  exact Nat.le_refl _
end Go.Proofs.YtkmbkpoclhbmgaaGreat
namespace Go.Proofs.YtkmbkpoclhbmgaaGreat
open Go.RowKit
variable {w w1 w2 w':World} {base:Nat} {v v1 v2 v':Value} {xs ys:List Int}
def lowB:Nat→Int→List Int
 | 0,_=>[]
 | k + 1,n=>n % 256 :: lowB k (n / 256)
theorem lowB_len (k:Nat) (n:Int):(lowB k n).length=k:=by
 induction k generalizing n with
 | zero=>rfl
 | succ k ih=>rw [lowB,List.length_cons,ih]
theorem lowB_byt (k:Nat) (n:Int):Byt (lowB k n):=by
 induction k generalizing n with
 | zero=>intro x hx;cases hx
 | succ k ih =>
  intro x hx
  rcases List.mem_cons.1 hx with rfl | hx
  ·omega
  ·exact ih _ x hx
theorem lowB_snoc (k:Nat) (n:Int):lowB (k + 1) n=lowB k n ++ [n / 256 ^ k % 256]:=by
 induction k generalizing n with
 | zero=>simp [lowB]
 | succ k ih =>
  rw [lowB,ih (n / 256),lowB,List.cons_append,Int.ediv_ediv_of_nonneg (by decide),Int.pow_succ,Int.mul_comm]
end Go.Proofs.YtkmbkpoclhbmgaaGreat
namespace Go.Proofs.YtkmbkpoclhbmgaaGreat
open Go.RowKit
variable {w w1 w2 w':World} {base:Nat} {v v1 v2 v':Value} {xs ys:List Int}
def kindS (x:Sy):Int:=if x.sec=0 then 3 else 15
def descS (x:Sy):Int:=if x.weak then 128 else 0
def entSy (p:Int) (x:Sy):List Int:=lowB 4 p ++ (lowB 1 (kindS x) ++ (lowB 1 x.sec ++ (lowB 2 (descS x) ++ lowB 8 x.value)))
theorem entS_len (p:Int) (x:Sy):(entSy p x).length=16:=by simp [entSy,lowB_len]
theorem entS_byt (p:Int) (x:Sy):Byt (entSy p x):=(lowB_byt _ _).app ((lowB_byt _ _).app ((lowB_byt _ _).app ((lowB_byt _ _).app (lowB_byt _ _))))
end Go.Proofs.YtkmbkpoclhbmgaaGreat
namespace Go.Proofs.YtkmbkpoclhbmgaaGreat
open Go.RowKit
variable {w w' W V:World}
def mayS (nm:List Int) (x:Sy):Bool:=!decide (nm=[]) && decide (nm.length≤255) && decide ((0:Int) ∉ nm) && decide (0≤x.sec) && decide (x.sec≤255)
set_option maxRecDepth 20000 in
set_option maxHeartbeats 1600000 in
theorem refMay10_any {nm:List Int} {x:Sy} (hn:Byt nm) (hl:nm.length≤9223372036854775807) (w:World) :
  Calls Tryz.prog 56 #[syV (strOfNums nm) x] w fun e w'=>e=.returned (.bool (mayS nm x))∧w.grownBy w' none:=by
 have hst:(strOfNums nm).size=nm.length:=strOfNums_size _
 have n1:=text_nil nm
 obtain ⟨r,hr⟩:∃ r,r=mayS nm x:=⟨_,rfl⟩
 rw [← hr]
 unfold mayS at hr
 have g1:=grown1 w (.cells (syArr (strOfNums nm) x) 95)
 have E3:SyAt (w.alloc (.cells (syArr (strOfNums nm) x) 95)) w.heap.size (strOfNums nm) x:=heap_alloc_new w _
 obtain ⟨W1,hW1⟩:∃ W,W=w.alloc (.cells (syArr (strOfNums nm) x) 95):=⟨_,rfl⟩
 obtain ⟨X,hX⟩:∃ X,X=w.heap.size:=⟨_,rfl⟩
 rw [← hW1] at g1 E3
 rw [← hX] at E3
 obtain ⟨c0,c1,c2,c3⟩:=E3.c
 have HE:=Lib.hid E3
 have G1:=Lib.hid g1
 have HW:=Lib.hid hW1
 have HX:=Lib.hid hX
 obtain ⟨sec,value,weak⟩:=x
 simp only [syV,syArr] at *
 by_cases h0:nm=[]
 ·rw [decide_eq_true h0] at n1 hr
  have HR:=Lib.hid hr
  clear hr hn E3 g1 h0 hW1 hX
  go_enter Tryz.func56,Tryz.ntmps56
  go_upto_region 1 with fail
  rw [← HW.out,← HX.out]
  clear HW HX
  go_quiet (fail)
  go_wp2
  go_ret
  exact ⟨by rw [HR.out];rfl,grown_drewN G1.out _⟩
 ·rw [decide_eq_false h0] at n1 hr
  by_cases h1:nm.length≤255
  ·have d1:decide ((nm.length:Int)≤255)=true:=by simp;omega
   rw [decide_eq_true h1] at hr
   have CV:=Lib.run_convert_string_bytes (P:=Tryz.prog) W1.drew 9 29 5 (strOfNums nm) Tryz.underlying9 Tryz.underlying29 Tryz.underlying5
   have gb:=turned_grown W1.drew 5 (strOfNums nm)
   have NM:=name01_any W1.drew.heap.size 0 _ _ nm (bytes_there W1.drew 5 hn _) rfl (show nm.length≤140737488355328 by omega) (grownCap_ge W1.drew nm.length 0 5)
   rw [hst] at CV
   rw [show W1.drew.heap.size=W1.heap.size from rfl] at NM CV
   have HN:((strOfNums (pre nm)).toList == (strOfNums nm).toList)=decide ((0:Int) ∉ nm):=by rw [text_same (pre_bytes hn) hn,pre_self]
   obtain ⟨W2,hW2⟩:∃ W,W=Lib.bytesWorld W1.drew 5 (strOfNums nm):=⟨_,rfl⟩
   rw [← hW2] at CV gb NM
   obtain ⟨cp,hcp⟩:∃ c,c=grownCap W1.drew nm.length 0 5:=⟨_,rfl⟩
   rw [← hcp] at CV NM
   obtain ⟨tx,htx⟩:∃ t,t=strOfNums (pre nm):=⟨_,rfl⟩
   rw [← htx] at NM HN
   have E2:=(E3.kept (grown_drewN (grown_refl W1 none) 1) (by simp)).kept gb (by simp)
   obtain ⟨e0,e1,e2,e3⟩:=E2.c
   have E2':=E2
   have NMH:=Lib.hid NM
   have G2:=Lib.hid (grown_trans (grown_trans G1.out (grown_drewN (grown_refl W1 none) 1)) gb)
   simp only [] at e0 e1
   obtain ⟨P,hP⟩:∃ P,P=decide ((0:Int) ∉ nm):=⟨_,rfl⟩
   rw [← hP] at HN hr
   have HR:=Lib.hid hr
   clear hr hn E3 g1 h0 h1 hW1 hX NM E2 hW2 hcp htx hP gb
   have H2:=Lib.hid E2'
   clear E2'
   clear c0 c1 c2 c3 e0 e1 e2 e3
   cases P
   ·skip
    go_enter Tryz.func56,Tryz.ntmps56
    go_upto_region 1 with fail
    rw [← HW.out,← HX.out]
    clear HW HX
    refine wp_region_held_drew (S:=fun W=>SyAt W X (strOfNums nm) ⟨sec,value,weak⟩) (by kernel_rfl) HE.out (fun hS=>?_)
    refine wpAnyH_take (i:=0) (oi:=⟨some 3,_,_,_,_,_⟩) (v:=Value.pointer (some ⟨X,0,none⟩)) rfl (by kernel_rfl) (by kernel_rfl) (by kernel_rfl) (fun _ _ _ h=>h) (Or.inl ⟨by rfl,fun W hW=>?_⟩) hS ?_
    ·obtain ⟨c0,c1,c2,c3⟩:=hW.c
     go_simp
    try simp only [Act.put,List.setIfInBounds_toArray,List.set_cons_zero,List.set_cons_succ]
    refine wpAnyH_take (i:=1) (oi:=⟨some 4,_,_,_,_,_⟩) (v:=.string (strOfNums nm)) rfl (by kernel_rfl) (by kernel_rfl) (by kernel_rfl) (fun _ _ _ h=>h) (Or.inl ⟨by rfl,fun W hW=>?_⟩) hS ?_
    ·obtain ⟨c0,c1,c2,c3⟩:=hW.c
     go_simp
    try simp only [Act.put,List.setIfInBounds_toArray,List.set_cons_zero,List.set_cons_succ]
    refine wpAnyH_take (i:=2) (oi:=⟨some 5,_,_,_,_,_⟩) (v:=.bool true) rfl (by kernel_rfl) (by kernel_rfl) (by kernel_rfl) (fun _ _ _ h=>h) (Or.inl ⟨by rfl,fun W hW=>?_⟩) hS ?_
    ·obtain ⟨c0,c1,c2,c3⟩:=hW.c
     go_simp
    try simp only [Act.put,List.setIfInBounds_toArray,List.set_cons_zero,List.set_cons_succ]
    refine wpAnyH_take (i:=3) (oi:=⟨some 6,_,_,_,_,_⟩) (v:=.bool true) rfl (by kernel_rfl) (by kernel_rfl) (by kernel_rfl) (fun _ _ _ h=>h) (Or.inl ⟨by rfl,fun W hW=>?_⟩) hS ?_
    ·obtain ⟨c0,c1,c2,c3⟩:=hW.c
     go_simp
    try simp only [Act.put,List.setIfInBounds_toArray,List.set_cons_zero,List.set_cons_succ]
    refine wpAnyH_take (i:=4) (oi:=⟨some 7,_,_,_,_,_⟩) (v:=Value.pointer (some ⟨X,0,none⟩)) rfl (by kernel_rfl) (by kernel_rfl) (by kernel_rfl) (fun _ _ _ h=>h) (Or.inl ⟨by rfl,fun W hW=>?_⟩) hS ?_
    ·obtain ⟨c0,c1,c2,c3⟩:=hW.c
     go_simp
    try simp only [Act.put,List.setIfInBounds_toArray,List.set_cons_zero,List.set_cons_succ]
    refine wpAnyH_take (i:=5) (oi:=⟨some 8,_,_,_,_,_⟩) (v:=.string (strOfNums nm)) rfl (by kernel_rfl) (by kernel_rfl) (by kernel_rfl) (fun _ _ _ h=>h) (Or.inl ⟨by rfl,fun W hW=>?_⟩) hS ?_
    ·obtain ⟨c0,c1,c2,c3⟩:=hW.c
     go_simp
    try simp only [Act.put,List.setIfInBounds_toArray,List.set_cons_zero,List.set_cons_succ]
    refine wpAnyH_take (i:=6) (oi:=⟨some 9,_,_,_,_,_⟩) (v:=.int .i64 (nm.length:Int)) rfl (by kernel_rfl) (by kernel_rfl) (by kernel_rfl) (fun _ _ _ h=>h) (Or.inl ⟨by rfl,fun W hW=>?_⟩) hS ?_
    ·obtain ⟨c0,c1,c2,c3⟩:=hW.c
     go_simp
    try simp only [Act.put,List.setIfInBounds_toArray,List.set_cons_zero,List.set_cons_succ]
    refine wpAnyH_take (i:=7) (oi:=⟨some 10,_,_,_,_,_⟩) (v:=.bool true) rfl (by kernel_rfl) (by kernel_rfl) (by kernel_rfl) (fun _ _ _ h=>h) (Or.inl ⟨by rfl,fun W hW=>?_⟩) hS ?_
    ·obtain ⟨c0,c1,c2,c3⟩:=hW.c
     go_simp
    try simp only [Act.put,List.setIfInBounds_toArray,List.set_cons_zero,List.set_cons_succ]
    refine wpAnyH_take (i:=8) (oi:=⟨some 11,_,_,_,_,_⟩) (v:=.bool true) rfl (by kernel_rfl) (by kernel_rfl) (by kernel_rfl) (fun _ _ _ h=>h) (Or.inl ⟨by rfl,fun W hW=>?_⟩) hS ?_
    ·obtain ⟨c0,c1,c2,c3⟩:=hW.c
     go_simp
    try simp only [Act.put,List.setIfInBounds_toArray,List.set_cons_zero,List.set_cons_succ]
    refine wpAnyH_take (i:=9) (oi:=⟨some 12,_,_,_,_,_⟩) (v:=.bool true) rfl (by kernel_rfl) (by kernel_rfl) (by kernel_rfl) (fun _ _ _ h=>h) (Or.inl ⟨by rfl,fun W hW=>?_⟩) hS ?_
    ·obtain ⟨c0,c1,c2,c3⟩:=hW.c
     go_simp
    try simp only [Act.put,List.setIfInBounds_toArray,List.set_cons_zero,List.set_cons_succ]
    refine wpAnyH_take (i:=10) (oi:=⟨some 13,_,_,_,_,_⟩) (v:=Value.pointer (some ⟨X,0,none⟩)) rfl (by kernel_rfl) (by kernel_rfl) (by kernel_rfl) (fun _ _ _ h=>h) (Or.inl ⟨by rfl,fun W hW=>?_⟩) hS ?_
    ·obtain ⟨c0,c1,c2,c3⟩:=hW.c
     go_simp
    try simp only [Act.put,List.setIfInBounds_toArray,List.set_cons_zero,List.set_cons_succ]
    refine wpAnyH_take (i:=11) (oi:=⟨some 14,_,_,_,_,_⟩) (v:=.string (strOfNums nm)) rfl (by kernel_rfl) (by kernel_rfl) (by kernel_rfl) (fun _ _ _ h=>h) (Or.inl ⟨by rfl,fun W hW=>?_⟩) hS ?_
    ·obtain ⟨c0,c1,c2,c3⟩:=hW.c
     go_simp
    try simp only [Act.put,List.setIfInBounds_toArray,List.set_cons_zero,List.set_cons_succ]
    refine wpAnyH_take (i:=14) (oi:=⟨some 17,_,_,_,_,_⟩) (v:=Value.pointer (some ⟨X,0,none⟩)) rfl (by kernel_rfl) (by kernel_rfl) (by kernel_rfl) (fun _ _ _ h=>h) (Or.inl ⟨by rfl,fun W hW=>?_⟩) hS ?_
    ·obtain ⟨c0,c1,c2,c3⟩:=hW.c
     go_simp
    try simp only [Act.put,List.setIfInBounds_toArray,List.set_cons_zero,List.set_cons_succ]
    refine wpAnyH_take (i:=15) (oi:=⟨some 18,_,_,_,_,_⟩) (v:=.string (strOfNums nm)) rfl (by kernel_rfl) (by kernel_rfl) (by kernel_rfl) (fun _ _ _ h=>h) (Or.inl ⟨by rfl,fun W hW=>?_⟩) hS ?_
    ·obtain ⟨c0,c1,c2,c3⟩:=hW.c
     go_simp
    try simp only [Act.put,List.setIfInBounds_toArray,List.set_cons_zero,List.set_cons_succ]
    refine wpAnyH_ready (rs:=[12]) (by kernel_rfl) (by simp) ?_
    refine AllReadyH.cons (o:=⟨some 15,_,_,_,_,_⟩) rfl (fun K' hK'=>?_) AllReadyH.nil
    go_simp
    refine hK'.out _ _ H2.out (fun hS=>?_)
    clear hK' K'
    try simp only [Act.put,List.setIfInBounds_toArray,List.set_cons_zero,List.set_cons_succ]
    refine wpAnyH_ready (rs:=[13]) (by kernel_rfl) (by simp) ?_
    refine AllReadyH.cons (o:=⟨some 16,_,_,_,_,_⟩) rfl (fun K' hK'=>?_) AllReadyH.nil
    go_simp
    go_at_call 90
    refine NMH.out.mono ?_
    rintro e w' ⟨rfl,rfl⟩
    refine hK'.out _ _ H2.out (fun hS=>?_)
    clear hK' K'
    try simp only [Act.put,List.setIfInBounds_toArray,List.set_cons_zero,List.set_cons_succ]
    refine wpAnyH_take (i:=16) (oi:=⟨some 19,_,_,_,_,_⟩) (v:=.bool false) rfl (by kernel_rfl) (by kernel_rfl) (by kernel_rfl) (fun _ _ _ h=>h) (Or.inl ⟨by rfl,fun W hW=>?_⟩) hS ?_
    ·obtain ⟨c0,c1,c2,c3⟩:=hW.c
     go_simp
    try simp only [Act.put,List.setIfInBounds_toArray,List.set_cons_zero,List.set_cons_succ]
    refine wpAnyH_take (i:=17) (oi:=⟨some 20,_,_,_,_,_⟩) (v:=.bool false) rfl (by kernel_rfl) (by kernel_rfl) (by kernel_rfl) (fun _ _ _ h=>h) (Or.inl ⟨by rfl,fun W hW=>?_⟩) hS ?_
    ·obtain ⟨c0,c1,c2,c3⟩:=hW.c
     go_simp
    try simp only [Act.put,List.setIfInBounds_toArray,List.set_cons_zero,List.set_cons_succ]
    refine wpAnyH_take (i:=18) (oi:=⟨some 21,_,_,_,_,_⟩) (v:=.bool false) rfl (by kernel_rfl) (by kernel_rfl) (by kernel_rfl) (fun _ _ _ h=>h) (Or.inl ⟨by rfl,fun W hW=>?_⟩) hS ?_
    ·obtain ⟨c0,c1,c2,c3⟩:=hW.c
     go_simp
    try simp only [Act.put,List.setIfInBounds_toArray,List.set_cons_zero,List.set_cons_succ]
    refine wpAnyH_take (i:=19) (oi:=⟨some 22,_,_,_,_,_⟩) (v:=undef) rfl (by kernel_rfl) (by kernel_rfl) (by kernel_rfl) (fun _ _ _ h=>h) (Or.inr ⟨by rfl,rfl⟩) hS ?_
    try simp only [Act.put,List.setIfInBounds_toArray,List.set_cons_zero,List.set_cons_succ]
    refine wpAnyH_take (i:=20) (oi:=⟨some 23,_,_,_,_,_⟩) (v:=undef) rfl (by kernel_rfl) (by kernel_rfl) (by kernel_rfl) (fun _ _ _ h=>h) (Or.inr ⟨by rfl,rfl⟩) hS ?_
    try simp only [Act.put,List.setIfInBounds_toArray,List.set_cons_zero,List.set_cons_succ]
    refine wpAnyH_take (i:=21) (oi:=⟨some 24,_,_,_,_,_⟩) (v:=undef) rfl (by kernel_rfl) (by kernel_rfl) (by kernel_rfl) (fun _ _ _ h=>h) (Or.inr ⟨by rfl,rfl⟩) hS ?_
    try simp only [Act.put,List.setIfInBounds_toArray,List.set_cons_zero,List.set_cons_succ]
    refine wpAnyH_take (i:=22) (oi:=⟨some 25,_,_,_,_,_⟩) (v:=.bool false) rfl (by kernel_rfl) (by kernel_rfl) (by kernel_rfl) (fun _ _ _ h=>h) (Or.inl ⟨by rfl,fun W hW=>?_⟩) hS ?_
    ·obtain ⟨c0,c1,c2,c3⟩:=hW.c
     go_simp
    try simp only [Act.put,List.setIfInBounds_toArray,List.set_cons_zero,List.set_cons_succ]
    refine wpAnyH_take (i:=23) (oi:=⟨some 26,_,_,_,_,_⟩) (v:=.bool false) rfl (by kernel_rfl) (by kernel_rfl) (by kernel_rfl) (fun _ _ _ h=>h) (Or.inl ⟨by rfl,fun W hW=>?_⟩) hS ?_
    ·obtain ⟨c0,c1,c2,c3⟩:=hW.c
     go_simp
    try simp only [Act.put,List.setIfInBounds_toArray,List.set_cons_zero,List.set_cons_succ]
    refine wpAnyH_take (i:=24) (oi:=⟨some 27,_,_,_,_,_⟩) (v:=undef) rfl (by kernel_rfl) (by kernel_rfl) (by kernel_rfl) (fun _ _ _ h=>h) (Or.inr ⟨by rfl,rfl⟩) hS ?_
    try simp only [Act.put,List.setIfInBounds_toArray,List.set_cons_zero,List.set_cons_succ]
    refine wpAnyH_take (i:=25) (oi:=⟨some 28,_,_,_,_,_⟩) (v:=undef) rfl (by kernel_rfl) (by kernel_rfl) (by kernel_rfl) (fun _ _ _ h=>h) (Or.inr ⟨by rfl,rfl⟩) hS ?_
    try simp only [Act.put,List.setIfInBounds_toArray,List.set_cons_zero,List.set_cons_succ]
    refine wpAnyH_take (i:=26) (oi:=⟨some 29,_,_,_,_,_⟩) (v:=undef) rfl (by kernel_rfl) (by kernel_rfl) (by kernel_rfl) (fun _ _ _ h=>h) (Or.inr ⟨by rfl,rfl⟩) hS ?_
    try simp only [Act.put,List.setIfInBounds_toArray,List.set_cons_zero,List.set_cons_succ]
    refine wpAnyH_take (i:=27) (oi:=⟨some 30,_,_,_,_,_⟩) (v:=.bool false) rfl (by kernel_rfl) (by kernel_rfl) (by kernel_rfl) (fun _ _ _ h=>h) (Or.inl ⟨by rfl,fun W hW=>?_⟩) hS ?_
    ·obtain ⟨c0,c1,c2,c3⟩:=hW.c
     go_simp
    try simp only [Act.put,List.setIfInBounds_toArray,List.set_cons_zero,List.set_cons_succ]
    refine wpAnyH_take (i:=28) (oi:=⟨some 2,_,_,_,_,_⟩) (v:=.bool false) rfl (by kernel_rfl) (by kernel_rfl) (by kernel_rfl) (fun _ _ _ h=>h) (Or.inl ⟨by rfl,fun W hW=>?_⟩) hS ?_
    ·obtain ⟨c0,c1,c2,c3⟩:=hW.c
     go_simp
    try simp only [Act.put,List.setIfInBounds_toArray,List.set_cons_zero,List.set_cons_succ]
    refine wpAnyH_done (by kernel_rfl) ?_ _
    go_wp2
    go_ret
    exact ⟨by rw [HR.out];rfl,G2.out⟩
   ·by_cases hs0 : 0≤sec
    ·have ds0:decide (0≤sec)=true:=decide_eq_true hs0
     rw [ds0] at HR
     by_cases hs1:sec≤255
     ·have ds1:decide (sec≤255)=true:=decide_eq_true hs1
      rw [ds1] at HR
      go_enter Tryz.func56,Tryz.ntmps56
      go_upto_region 1 with fail
      rw [← HW.out,← HX.out]
      clear HW HX
      refine wp_region_held_drew (S:=fun W=>SyAt W X (strOfNums nm) ⟨sec,value,weak⟩) (by kernel_rfl) HE.out (fun hS=>?_)
      refine wpAnyH_take (i:=0) (oi:=⟨some 3,_,_,_,_,_⟩) (v:=Value.pointer (some ⟨X,0,none⟩)) rfl (by kernel_rfl) (by kernel_rfl) (by kernel_rfl) (fun _ _ _ h=>h) (Or.inl ⟨by rfl,fun W hW=>?_⟩) hS ?_
      ·obtain ⟨c0,c1,c2,c3⟩:=hW.c
       go_simp
      try simp only [Act.put,List.setIfInBounds_toArray,List.set_cons_zero,List.set_cons_succ]
      refine wpAnyH_take (i:=1) (oi:=⟨some 4,_,_,_,_,_⟩) (v:=.string (strOfNums nm)) rfl (by kernel_rfl) (by kernel_rfl) (by kernel_rfl) (fun _ _ _ h=>h) (Or.inl ⟨by rfl,fun W hW=>?_⟩) hS ?_
      ·obtain ⟨c0,c1,c2,c3⟩:=hW.c
       go_simp
      try simp only [Act.put,List.setIfInBounds_toArray,List.set_cons_zero,List.set_cons_succ]
      refine wpAnyH_take (i:=2) (oi:=⟨some 5,_,_,_,_,_⟩) (v:=.bool true) rfl (by kernel_rfl) (by kernel_rfl) (by kernel_rfl) (fun _ _ _ h=>h) (Or.inl ⟨by rfl,fun W hW=>?_⟩) hS ?_
      ·obtain ⟨c0,c1,c2,c3⟩:=hW.c
       go_simp
      try simp only [Act.put,List.setIfInBounds_toArray,List.set_cons_zero,List.set_cons_succ]
      refine wpAnyH_take (i:=3) (oi:=⟨some 6,_,_,_,_,_⟩) (v:=.bool true) rfl (by kernel_rfl) (by kernel_rfl) (by kernel_rfl) (fun _ _ _ h=>h) (Or.inl ⟨by rfl,fun W hW=>?_⟩) hS ?_
      ·obtain ⟨c0,c1,c2,c3⟩:=hW.c
       go_simp
      try simp only [Act.put,List.setIfInBounds_toArray,List.set_cons_zero,List.set_cons_succ]
      refine wpAnyH_take (i:=4) (oi:=⟨some 7,_,_,_,_,_⟩) (v:=Value.pointer (some ⟨X,0,none⟩)) rfl (by kernel_rfl) (by kernel_rfl) (by kernel_rfl) (fun _ _ _ h=>h) (Or.inl ⟨by rfl,fun W hW=>?_⟩) hS ?_
      ·obtain ⟨c0,c1,c2,c3⟩:=hW.c
       go_simp
      try simp only [Act.put,List.setIfInBounds_toArray,List.set_cons_zero,List.set_cons_succ]
      refine wpAnyH_take (i:=5) (oi:=⟨some 8,_,_,_,_,_⟩) (v:=.string (strOfNums nm)) rfl (by kernel_rfl) (by kernel_rfl) (by kernel_rfl) (fun _ _ _ h=>h) (Or.inl ⟨by rfl,fun W hW=>?_⟩) hS ?_
      ·obtain ⟨c0,c1,c2,c3⟩:=hW.c
       go_simp
      try simp only [Act.put,List.setIfInBounds_toArray,List.set_cons_zero,List.set_cons_succ]
      refine wpAnyH_take (i:=6) (oi:=⟨some 9,_,_,_,_,_⟩) (v:=.int .i64 (nm.length:Int)) rfl (by kernel_rfl) (by kernel_rfl) (by kernel_rfl) (fun _ _ _ h=>h) (Or.inl ⟨by rfl,fun W hW=>?_⟩) hS ?_
      ·obtain ⟨c0,c1,c2,c3⟩:=hW.c
       go_simp
      try simp only [Act.put,List.setIfInBounds_toArray,List.set_cons_zero,List.set_cons_succ]
      refine wpAnyH_take (i:=7) (oi:=⟨some 10,_,_,_,_,_⟩) (v:=.bool true) rfl (by kernel_rfl) (by kernel_rfl) (by kernel_rfl) (fun _ _ _ h=>h) (Or.inl ⟨by rfl,fun W hW=>?_⟩) hS ?_
      ·obtain ⟨c0,c1,c2,c3⟩:=hW.c
       go_simp
      try simp only [Act.put,List.setIfInBounds_toArray,List.set_cons_zero,List.set_cons_succ]
      refine wpAnyH_take (i:=8) (oi:=⟨some 11,_,_,_,_,_⟩) (v:=.bool true) rfl (by kernel_rfl) (by kernel_rfl) (by kernel_rfl) (fun _ _ _ h=>h) (Or.inl ⟨by rfl,fun W hW=>?_⟩) hS ?_
      ·obtain ⟨c0,c1,c2,c3⟩:=hW.c
       go_simp
      try simp only [Act.put,List.setIfInBounds_toArray,List.set_cons_zero,List.set_cons_succ]
      refine wpAnyH_take (i:=9) (oi:=⟨some 12,_,_,_,_,_⟩) (v:=.bool true) rfl (by kernel_rfl) (by kernel_rfl) (by kernel_rfl) (fun _ _ _ h=>h) (Or.inl ⟨by rfl,fun W hW=>?_⟩) hS ?_
      ·obtain ⟨c0,c1,c2,c3⟩:=hW.c
       go_simp
      try simp only [Act.put,List.setIfInBounds_toArray,List.set_cons_zero,List.set_cons_succ]
      refine wpAnyH_take (i:=10) (oi:=⟨some 13,_,_,_,_,_⟩) (v:=Value.pointer (some ⟨X,0,none⟩)) rfl (by kernel_rfl) (by kernel_rfl) (by kernel_rfl) (fun _ _ _ h=>h) (Or.inl ⟨by rfl,fun W hW=>?_⟩) hS ?_
      ·obtain ⟨c0,c1,c2,c3⟩:=hW.c
       go_simp
      try simp only [Act.put,List.setIfInBounds_toArray,List.set_cons_zero,List.set_cons_succ]
      refine wpAnyH_take (i:=11) (oi:=⟨some 14,_,_,_,_,_⟩) (v:=.string (strOfNums nm)) rfl (by kernel_rfl) (by kernel_rfl) (by kernel_rfl) (fun _ _ _ h=>h) (Or.inl ⟨by rfl,fun W hW=>?_⟩) hS ?_
      ·obtain ⟨c0,c1,c2,c3⟩:=hW.c
       go_simp
      try simp only [Act.put,List.setIfInBounds_toArray,List.set_cons_zero,List.set_cons_succ]
      refine wpAnyH_take (i:=14) (oi:=⟨some 17,_,_,_,_,_⟩) (v:=Value.pointer (some ⟨X,0,none⟩)) rfl (by kernel_rfl) (by kernel_rfl) (by kernel_rfl) (fun _ _ _ h=>h) (Or.inl ⟨by rfl,fun W hW=>?_⟩) hS ?_
      ·obtain ⟨c0,c1,c2,c3⟩:=hW.c
       go_simp
      try simp only [Act.put,List.setIfInBounds_toArray,List.set_cons_zero,List.set_cons_succ]
      refine wpAnyH_take (i:=15) (oi:=⟨some 18,_,_,_,_,_⟩) (v:=.string (strOfNums nm)) rfl (by kernel_rfl) (by kernel_rfl) (by kernel_rfl) (fun _ _ _ h=>h) (Or.inl ⟨by rfl,fun W hW=>?_⟩) hS ?_
      ·obtain ⟨c0,c1,c2,c3⟩:=hW.c
       go_simp
      try simp only [Act.put,List.setIfInBounds_toArray,List.set_cons_zero,List.set_cons_succ]
      refine wpAnyH_ready (rs:=[12]) (by kernel_rfl) (by simp) ?_
      refine AllReadyH.cons (o:=⟨some 15,_,_,_,_,_⟩) rfl (fun K' hK'=>?_) AllReadyH.nil
      go_simp
      refine hK'.out _ _ H2.out (fun hS=>?_)
      clear hK' K'
      try simp only [Act.put,List.setIfInBounds_toArray,List.set_cons_zero,List.set_cons_succ]
      refine wpAnyH_ready (rs:=[13]) (by kernel_rfl) (by simp) ?_
      refine AllReadyH.cons (o:=⟨some 16,_,_,_,_,_⟩) rfl (fun K' hK'=>?_) AllReadyH.nil
      go_simp
      go_at_call 90
      refine NMH.out.mono ?_
      rintro e w' ⟨rfl,rfl⟩
      refine hK'.out _ _ H2.out (fun hS=>?_)
      clear hK' K'
      try simp only [Act.put,List.setIfInBounds_toArray,List.set_cons_zero,List.set_cons_succ]
      refine wpAnyH_take (i:=16) (oi:=⟨some 19,_,_,_,_,_⟩) (v:=.bool true) rfl (by kernel_rfl) (by kernel_rfl) (by kernel_rfl) (fun _ _ _ h=>h) (Or.inl ⟨by rfl,fun W hW=>?_⟩) hS ?_
      ·obtain ⟨c0,c1,c2,c3⟩:=hW.c
       go_simp
      try simp only [Act.put,List.setIfInBounds_toArray,List.set_cons_zero,List.set_cons_succ]
      refine wpAnyH_take (i:=17) (oi:=⟨some 20,_,_,_,_,_⟩) (v:=.bool true) rfl (by kernel_rfl) (by kernel_rfl) (by kernel_rfl) (fun _ _ _ h=>h) (Or.inl ⟨by rfl,fun W hW=>?_⟩) hS ?_
      ·obtain ⟨c0,c1,c2,c3⟩:=hW.c
       go_simp
      try simp only [Act.put,List.setIfInBounds_toArray,List.set_cons_zero,List.set_cons_succ]
      refine wpAnyH_take (i:=18) (oi:=⟨some 21,_,_,_,_,_⟩) (v:=.bool true) rfl (by kernel_rfl) (by kernel_rfl) (by kernel_rfl) (fun _ _ _ h=>h) (Or.inl ⟨by rfl,fun W hW=>?_⟩) hS ?_
      ·obtain ⟨c0,c1,c2,c3⟩:=hW.c
       go_simp
      try simp only [Act.put,List.setIfInBounds_toArray,List.set_cons_zero,List.set_cons_succ]
      refine wpAnyH_take (i:=19) (oi:=⟨some 22,_,_,_,_,_⟩) (v:=Value.pointer (some ⟨X,1,none⟩)) rfl (by kernel_rfl) (by kernel_rfl) (by kernel_rfl) (fun _ _ _ h=>h) (Or.inl ⟨by rfl,fun W hW=>?_⟩) hS ?_
      ·obtain ⟨c0,c1,c2,c3⟩:=hW.c
       go_simp
      try simp only [Act.put,List.setIfInBounds_toArray,List.set_cons_zero,List.set_cons_succ]
      refine wpAnyH_take (i:=20) (oi:=⟨some 23,_,_,_,_,_⟩) (v:=.int .i64 sec) rfl (by kernel_rfl) (by kernel_rfl) (by kernel_rfl) (fun _ _ _ h=>h) (Or.inl ⟨by rfl,fun W hW=>?_⟩) hS ?_
      ·obtain ⟨c0,c1,c2,c3⟩:=hW.c
       go_simp
      try simp only [Act.put,List.setIfInBounds_toArray,List.set_cons_zero,List.set_cons_succ]
      refine wpAnyH_take (i:=21) (oi:=⟨some 24,_,_,_,_,_⟩) (v:=.bool true) rfl (by kernel_rfl) (by kernel_rfl) (by kernel_rfl) (fun _ _ _ h=>h) (Or.inl ⟨by rfl,fun W hW=>?_⟩) hS ?_
      ·obtain ⟨c0,c1,c2,c3⟩:=hW.c
       go_simp
      try simp only [Act.put,List.setIfInBounds_toArray,List.set_cons_zero,List.set_cons_succ]
      refine wpAnyH_take (i:=22) (oi:=⟨some 25,_,_,_,_,_⟩) (v:=.bool true) rfl (by kernel_rfl) (by kernel_rfl) (by kernel_rfl) (fun _ _ _ h=>h) (Or.inl ⟨by rfl,fun W hW=>?_⟩) hS ?_
      ·obtain ⟨c0,c1,c2,c3⟩:=hW.c
       go_simp
      try simp only [Act.put,List.setIfInBounds_toArray,List.set_cons_zero,List.set_cons_succ]
      refine wpAnyH_take (i:=23) (oi:=⟨some 26,_,_,_,_,_⟩) (v:=.bool true) rfl (by kernel_rfl) (by kernel_rfl) (by kernel_rfl) (fun _ _ _ h=>h) (Or.inl ⟨by rfl,fun W hW=>?_⟩) hS ?_
      ·obtain ⟨c0,c1,c2,c3⟩:=hW.c
       go_simp
      try simp only [Act.put,List.setIfInBounds_toArray,List.set_cons_zero,List.set_cons_succ]
      refine wpAnyH_take (i:=24) (oi:=⟨some 27,_,_,_,_,_⟩) (v:=Value.pointer (some ⟨X,1,none⟩)) rfl (by kernel_rfl) (by kernel_rfl) (by kernel_rfl) (fun _ _ _ h=>h) (Or.inl ⟨by rfl,fun W hW=>?_⟩) hS ?_
      ·obtain ⟨c0,c1,c2,c3⟩:=hW.c
       go_simp
      try simp only [Act.put,List.setIfInBounds_toArray,List.set_cons_zero,List.set_cons_succ]
      refine wpAnyH_take (i:=25) (oi:=⟨some 28,_,_,_,_,_⟩) (v:=.int .i64 sec) rfl (by kernel_rfl) (by kernel_rfl) (by kernel_rfl) (fun _ _ _ h=>h) (Or.inl ⟨by rfl,fun W hW=>?_⟩) hS ?_
      ·obtain ⟨c0,c1,c2,c3⟩:=hW.c
       go_simp
      try simp only [Act.put,List.setIfInBounds_toArray,List.set_cons_zero,List.set_cons_succ]
      refine wpAnyH_take (i:=26) (oi:=⟨some 29,_,_,_,_,_⟩) (v:=.bool true) rfl (by kernel_rfl) (by kernel_rfl) (by kernel_rfl) (fun _ _ _ h=>h) (Or.inl ⟨by rfl,fun W hW=>?_⟩) hS ?_
      ·obtain ⟨c0,c1,c2,c3⟩:=hW.c
       go_simp
      try simp only [Act.put,List.setIfInBounds_toArray,List.set_cons_zero,List.set_cons_succ]
      refine wpAnyH_take (i:=27) (oi:=⟨some 30,_,_,_,_,_⟩) (v:=.bool true) rfl (by kernel_rfl) (by kernel_rfl) (by kernel_rfl) (fun _ _ _ h=>h) (Or.inl ⟨by rfl,fun W hW=>?_⟩) hS ?_
      ·obtain ⟨c0,c1,c2,c3⟩:=hW.c
       go_simp
      try simp only [Act.put,List.setIfInBounds_toArray,List.set_cons_zero,List.set_cons_succ]
      refine wpAnyH_take (i:=28) (oi:=⟨some 2,_,_,_,_,_⟩) (v:=.bool true) rfl (by kernel_rfl) (by kernel_rfl) (by kernel_rfl) (fun _ _ _ h=>h) (Or.inl ⟨by rfl,fun W hW=>?_⟩) hS ?_
      ·obtain ⟨c0,c1,c2,c3⟩:=hW.c
       go_simp
      try simp only [Act.put,List.setIfInBounds_toArray,List.set_cons_zero,List.set_cons_succ]
      refine wpAnyH_done (by kernel_rfl) ?_ _
      go_wp2
      go_ret
      exact ⟨by rw [HR.out];rfl,G2.out⟩
     ·have ds1:decide (sec≤255)=false:=decide_eq_false hs1
      rw [ds1] at HR
      go_enter Tryz.func56,Tryz.ntmps56
      go_upto_region 1 with fail
      rw [← HW.out,← HX.out]
      clear HW HX
      refine wp_region_held_drew (S:=fun W=>SyAt W X (strOfNums nm) ⟨sec,value,weak⟩) (by kernel_rfl) HE.out (fun hS=>?_)
      refine wpAnyH_take (i:=0) (oi:=⟨some 3,_,_,_,_,_⟩) (v:=Value.pointer (some ⟨X,0,none⟩)) rfl (by kernel_rfl) (by kernel_rfl) (by kernel_rfl) (fun _ _ _ h=>h) (Or.inl ⟨by rfl,fun W hW=>?_⟩) hS ?_
      ·obtain ⟨c0,c1,c2,c3⟩:=hW.c
       go_simp
      try simp only [Act.put,List.setIfInBounds_toArray,List.set_cons_zero,List.set_cons_succ]
      refine wpAnyH_take (i:=1) (oi:=⟨some 4,_,_,_,_,_⟩) (v:=.string (strOfNums nm)) rfl (by kernel_rfl) (by kernel_rfl) (by kernel_rfl) (fun _ _ _ h=>h) (Or.inl ⟨by rfl,fun W hW=>?_⟩) hS ?_
      ·obtain ⟨c0,c1,c2,c3⟩:=hW.c
       go_simp
      try simp only [Act.put,List.setIfInBounds_toArray,List.set_cons_zero,List.set_cons_succ]
      refine wpAnyH_take (i:=2) (oi:=⟨some 5,_,_,_,_,_⟩) (v:=.bool true) rfl (by kernel_rfl) (by kernel_rfl) (by kernel_rfl) (fun _ _ _ h=>h) (Or.inl ⟨by rfl,fun W hW=>?_⟩) hS ?_
      ·obtain ⟨c0,c1,c2,c3⟩:=hW.c
       go_simp
      try simp only [Act.put,List.setIfInBounds_toArray,List.set_cons_zero,List.set_cons_succ]
      refine wpAnyH_take (i:=3) (oi:=⟨some 6,_,_,_,_,_⟩) (v:=.bool true) rfl (by kernel_rfl) (by kernel_rfl) (by kernel_rfl) (fun _ _ _ h=>h) (Or.inl ⟨by rfl,fun W hW=>?_⟩) hS ?_
      ·obtain ⟨c0,c1,c2,c3⟩:=hW.c
       go_simp
      try simp only [Act.put,List.setIfInBounds_toArray,List.set_cons_zero,List.set_cons_succ]
      refine wpAnyH_take (i:=4) (oi:=⟨some 7,_,_,_,_,_⟩) (v:=Value.pointer (some ⟨X,0,none⟩)) rfl (by kernel_rfl) (by kernel_rfl) (by kernel_rfl) (fun _ _ _ h=>h) (Or.inl ⟨by rfl,fun W hW=>?_⟩) hS ?_
      ·obtain ⟨c0,c1,c2,c3⟩:=hW.c
       go_simp
      try simp only [Act.put,List.setIfInBounds_toArray,List.set_cons_zero,List.set_cons_succ]
      refine wpAnyH_take (i:=5) (oi:=⟨some 8,_,_,_,_,_⟩) (v:=.string (strOfNums nm)) rfl (by kernel_rfl) (by kernel_rfl) (by kernel_rfl) (fun _ _ _ h=>h) (Or.inl ⟨by rfl,fun W hW=>?_⟩) hS ?_
      ·obtain ⟨c0,c1,c2,c3⟩:=hW.c
       go_simp
      try simp only [Act.put,List.setIfInBounds_toArray,List.set_cons_zero,List.set_cons_succ]
      refine wpAnyH_take (i:=6) (oi:=⟨some 9,_,_,_,_,_⟩) (v:=.int .i64 (nm.length:Int)) rfl (by kernel_rfl) (by kernel_rfl) (by kernel_rfl) (fun _ _ _ h=>h) (Or.inl ⟨by rfl,fun W hW=>?_⟩) hS ?_
      ·obtain ⟨c0,c1,c2,c3⟩:=hW.c
       go_simp
      try simp only [Act.put,List.setIfInBounds_toArray,List.set_cons_zero,List.set_cons_succ]
      refine wpAnyH_take (i:=7) (oi:=⟨some 10,_,_,_,_,_⟩) (v:=.bool true) rfl (by kernel_rfl) (by kernel_rfl) (by kernel_rfl) (fun _ _ _ h=>h) (Or.inl ⟨by rfl,fun W hW=>?_⟩) hS ?_
      ·obtain ⟨c0,c1,c2,c3⟩:=hW.c
       go_simp
      try simp only [Act.put,List.setIfInBounds_toArray,List.set_cons_zero,List.set_cons_succ]
      refine wpAnyH_take (i:=8) (oi:=⟨some 11,_,_,_,_,_⟩) (v:=.bool true) rfl (by kernel_rfl) (by kernel_rfl) (by kernel_rfl) (fun _ _ _ h=>h) (Or.inl ⟨by rfl,fun W hW=>?_⟩) hS ?_
      ·obtain ⟨c0,c1,c2,c3⟩:=hW.c
       go_simp
      try simp only [Act.put,List.setIfInBounds_toArray,List.set_cons_zero,List.set_cons_succ]
      refine wpAnyH_take (i:=9) (oi:=⟨some 12,_,_,_,_,_⟩) (v:=.bool true) rfl (by kernel_rfl) (by kernel_rfl) (by kernel_rfl) (fun _ _ _ h=>h) (Or.inl ⟨by rfl,fun W hW=>?_⟩) hS ?_
      ·obtain ⟨c0,c1,c2,c3⟩:=hW.c
       go_simp
      try simp only [Act.put,List.setIfInBounds_toArray,List.set_cons_zero,List.set_cons_succ]
      refine wpAnyH_take (i:=10) (oi:=⟨some 13,_,_,_,_,_⟩) (v:=Value.pointer (some ⟨X,0,none⟩)) rfl (by kernel_rfl) (by kernel_rfl) (by kernel_rfl) (fun _ _ _ h=>h) (Or.inl ⟨by rfl,fun W hW=>?_⟩) hS ?_
      ·obtain ⟨c0,c1,c2,c3⟩:=hW.c
       go_simp
      try simp only [Act.put,List.setIfInBounds_toArray,List.set_cons_zero,List.set_cons_succ]
      refine wpAnyH_take (i:=11) (oi:=⟨some 14,_,_,_,_,_⟩) (v:=.string (strOfNums nm)) rfl (by kernel_rfl) (by kernel_rfl) (by kernel_rfl) (fun _ _ _ h=>h) (Or.inl ⟨by rfl,fun W hW=>?_⟩) hS ?_
      ·obtain ⟨c0,c1,c2,c3⟩:=hW.c
       go_simp
      try simp only [Act.put,List.setIfInBounds_toArray,List.set_cons_zero,List.set_cons_succ]
      refine wpAnyH_take (i:=14) (oi:=⟨some 17,_,_,_,_,_⟩) (v:=Value.pointer (some ⟨X,0,none⟩)) rfl (by kernel_rfl) (by kernel_rfl) (by kernel_rfl) (fun _ _ _ h=>h) (Or.inl ⟨by rfl,fun W hW=>?_⟩) hS ?_
      ·obtain ⟨c0,c1,c2,c3⟩:=hW.c
       go_simp
      try simp only [Act.put,List.setIfInBounds_toArray,List.set_cons_zero,List.set_cons_succ]
      refine wpAnyH_take (i:=15) (oi:=⟨some 18,_,_,_,_,_⟩) (v:=.string (strOfNums nm)) rfl (by kernel_rfl) (by kernel_rfl) (by kernel_rfl) (fun _ _ _ h=>h) (Or.inl ⟨by rfl,fun W hW=>?_⟩) hS ?_
      ·obtain ⟨c0,c1,c2,c3⟩:=hW.c
       go_simp
      try simp only [Act.put,List.setIfInBounds_toArray,List.set_cons_zero,List.set_cons_succ]
      refine wpAnyH_ready (rs:=[12]) (by kernel_rfl) (by simp) ?_
      refine AllReadyH.cons (o:=⟨some 15,_,_,_,_,_⟩) rfl (fun K' hK'=>?_) AllReadyH.nil
      go_simp
      refine hK'.out _ _ H2.out (fun hS=>?_)
      clear hK' K'
      try simp only [Act.put,List.setIfInBounds_toArray,List.set_cons_zero,List.set_cons_succ]
      refine wpAnyH_ready (rs:=[13]) (by kernel_rfl) (by simp) ?_
      refine AllReadyH.cons (o:=⟨some 16,_,_,_,_,_⟩) rfl (fun K' hK'=>?_) AllReadyH.nil
      go_simp
      go_at_call 90
      refine NMH.out.mono ?_
      rintro e w' ⟨rfl,rfl⟩
      refine hK'.out _ _ H2.out (fun hS=>?_)
      clear hK' K'
      try simp only [Act.put,List.setIfInBounds_toArray,List.set_cons_zero,List.set_cons_succ]
      refine wpAnyH_take (i:=16) (oi:=⟨some 19,_,_,_,_,_⟩) (v:=.bool true) rfl (by kernel_rfl) (by kernel_rfl) (by kernel_rfl) (fun _ _ _ h=>h) (Or.inl ⟨by rfl,fun W hW=>?_⟩) hS ?_
      ·obtain ⟨c0,c1,c2,c3⟩:=hW.c
       go_simp
      try simp only [Act.put,List.setIfInBounds_toArray,List.set_cons_zero,List.set_cons_succ]
      refine wpAnyH_take (i:=17) (oi:=⟨some 20,_,_,_,_,_⟩) (v:=.bool true) rfl (by kernel_rfl) (by kernel_rfl) (by kernel_rfl) (fun _ _ _ h=>h) (Or.inl ⟨by rfl,fun W hW=>?_⟩) hS ?_
      ·obtain ⟨c0,c1,c2,c3⟩:=hW.c
       go_simp
      try simp only [Act.put,List.setIfInBounds_toArray,List.set_cons_zero,List.set_cons_succ]
      refine wpAnyH_take (i:=18) (oi:=⟨some 21,_,_,_,_,_⟩) (v:=.bool true) rfl (by kernel_rfl) (by kernel_rfl) (by kernel_rfl) (fun _ _ _ h=>h) (Or.inl ⟨by rfl,fun W hW=>?_⟩) hS ?_
      ·obtain ⟨c0,c1,c2,c3⟩:=hW.c
       go_simp
      try simp only [Act.put,List.setIfInBounds_toArray,List.set_cons_zero,List.set_cons_succ]
      refine wpAnyH_take (i:=19) (oi:=⟨some 22,_,_,_,_,_⟩) (v:=Value.pointer (some ⟨X,1,none⟩)) rfl (by kernel_rfl) (by kernel_rfl) (by kernel_rfl) (fun _ _ _ h=>h) (Or.inl ⟨by rfl,fun W hW=>?_⟩) hS ?_
      ·obtain ⟨c0,c1,c2,c3⟩:=hW.c
       go_simp
      try simp only [Act.put,List.setIfInBounds_toArray,List.set_cons_zero,List.set_cons_succ]
      refine wpAnyH_take (i:=20) (oi:=⟨some 23,_,_,_,_,_⟩) (v:=.int .i64 sec) rfl (by kernel_rfl) (by kernel_rfl) (by kernel_rfl) (fun _ _ _ h=>h) (Or.inl ⟨by rfl,fun W hW=>?_⟩) hS ?_
      ·obtain ⟨c0,c1,c2,c3⟩:=hW.c
       go_simp
      try simp only [Act.put,List.setIfInBounds_toArray,List.set_cons_zero,List.set_cons_succ]
      refine wpAnyH_take (i:=21) (oi:=⟨some 24,_,_,_,_,_⟩) (v:=.bool true) rfl (by kernel_rfl) (by kernel_rfl) (by kernel_rfl) (fun _ _ _ h=>h) (Or.inl ⟨by rfl,fun W hW=>?_⟩) hS ?_
      ·obtain ⟨c0,c1,c2,c3⟩:=hW.c
       go_simp
      try simp only [Act.put,List.setIfInBounds_toArray,List.set_cons_zero,List.set_cons_succ]
      refine wpAnyH_take (i:=22) (oi:=⟨some 25,_,_,_,_,_⟩) (v:=.bool true) rfl (by kernel_rfl) (by kernel_rfl) (by kernel_rfl) (fun _ _ _ h=>h) (Or.inl ⟨by rfl,fun W hW=>?_⟩) hS ?_
      ·obtain ⟨c0,c1,c2,c3⟩:=hW.c
       go_simp
      try simp only [Act.put,List.setIfInBounds_toArray,List.set_cons_zero,List.set_cons_succ]
      refine wpAnyH_take (i:=23) (oi:=⟨some 26,_,_,_,_,_⟩) (v:=.bool true) rfl (by kernel_rfl) (by kernel_rfl) (by kernel_rfl) (fun _ _ _ h=>h) (Or.inl ⟨by rfl,fun W hW=>?_⟩) hS ?_
      ·obtain ⟨c0,c1,c2,c3⟩:=hW.c
       go_simp
      try simp only [Act.put,List.setIfInBounds_toArray,List.set_cons_zero,List.set_cons_succ]
      refine wpAnyH_take (i:=24) (oi:=⟨some 27,_,_,_,_,_⟩) (v:=Value.pointer (some ⟨X,1,none⟩)) rfl (by kernel_rfl) (by kernel_rfl) (by kernel_rfl) (fun _ _ _ h=>h) (Or.inl ⟨by rfl,fun W hW=>?_⟩) hS ?_
      ·obtain ⟨c0,c1,c2,c3⟩:=hW.c
       go_simp
      try simp only [Act.put,List.setIfInBounds_toArray,List.set_cons_zero,List.set_cons_succ]
      refine wpAnyH_take (i:=25) (oi:=⟨some 28,_,_,_,_,_⟩) (v:=.int .i64 sec) rfl (by kernel_rfl) (by kernel_rfl) (by kernel_rfl) (fun _ _ _ h=>h) (Or.inl ⟨by rfl,fun W hW=>?_⟩) hS ?_
      ·obtain ⟨c0,c1,c2,c3⟩:=hW.c
       go_simp
      try simp only [Act.put,List.setIfInBounds_toArray,List.set_cons_zero,List.set_cons_succ]
      refine wpAnyH_take (i:=26) (oi:=⟨some 29,_,_,_,_,_⟩) (v:=.bool false) rfl (by kernel_rfl) (by kernel_rfl) (by kernel_rfl) (fun _ _ _ h=>h) (Or.inl ⟨by rfl,fun W hW=>?_⟩) hS ?_
      ·obtain ⟨c0,c1,c2,c3⟩:=hW.c
       go_simp
      try simp only [Act.put,List.setIfInBounds_toArray,List.set_cons_zero,List.set_cons_succ]
      refine wpAnyH_take (i:=27) (oi:=⟨some 30,_,_,_,_,_⟩) (v:=.bool false) rfl (by kernel_rfl) (by kernel_rfl) (by kernel_rfl) (fun _ _ _ h=>h) (Or.inl ⟨by rfl,fun W hW=>?_⟩) hS ?_
      ·obtain ⟨c0,c1,c2,c3⟩:=hW.c
       go_simp
      try simp only [Act.put,List.setIfInBounds_toArray,List.set_cons_zero,List.set_cons_succ]
      refine wpAnyH_take (i:=28) (oi:=⟨some 2,_,_,_,_,_⟩) (v:=.bool false) rfl (by kernel_rfl) (by kernel_rfl) (by kernel_rfl) (fun _ _ _ h=>h) (Or.inl ⟨by rfl,fun W hW=>?_⟩) hS ?_
      ·obtain ⟨c0,c1,c2,c3⟩:=hW.c
       go_simp
      try simp only [Act.put,List.setIfInBounds_toArray,List.set_cons_zero,List.set_cons_succ]
      refine wpAnyH_done (by kernel_rfl) ?_ _
      go_wp2
      go_ret
      exact ⟨by rw [HR.out];rfl,G2.out⟩
    ·have ds0:decide (0≤sec)=false:=decide_eq_false hs0
     rw [ds0] at HR
     go_enter Tryz.func56,Tryz.ntmps56
     go_upto_region 1 with fail
     rw [← HW.out,← HX.out]
     clear HW HX
     refine wp_region_held_drew (S:=fun W=>SyAt W X (strOfNums nm) ⟨sec,value,weak⟩) (by kernel_rfl) HE.out (fun hS=>?_)
     refine wpAnyH_take (i:=0) (oi:=⟨some 3,_,_,_,_,_⟩) (v:=Value.pointer (some ⟨X,0,none⟩)) rfl (by kernel_rfl) (by kernel_rfl) (by kernel_rfl) (fun _ _ _ h=>h) (Or.inl ⟨by rfl,fun W hW=>?_⟩) hS ?_
     ·obtain ⟨c0,c1,c2,c3⟩:=hW.c
      go_simp
     try simp only [Act.put,List.setIfInBounds_toArray,List.set_cons_zero,List.set_cons_succ]
     refine wpAnyH_take (i:=1) (oi:=⟨some 4,_,_,_,_,_⟩) (v:=.string (strOfNums nm)) rfl (by kernel_rfl) (by kernel_rfl) (by kernel_rfl) (fun _ _ _ h=>h) (Or.inl ⟨by rfl,fun W hW=>?_⟩) hS ?_
     ·obtain ⟨c0,c1,c2,c3⟩:=hW.c
      go_simp
     try simp only [Act.put,List.setIfInBounds_toArray,List.set_cons_zero,List.set_cons_succ]
     refine wpAnyH_take (i:=2) (oi:=⟨some 5,_,_,_,_,_⟩) (v:=.bool true) rfl (by kernel_rfl) (by kernel_rfl) (by kernel_rfl) (fun _ _ _ h=>h) (Or.inl ⟨by rfl,fun W hW=>?_⟩) hS ?_
     ·obtain ⟨c0,c1,c2,c3⟩:=hW.c
      go_simp
     try simp only [Act.put,List.setIfInBounds_toArray,List.set_cons_zero,List.set_cons_succ]
     refine wpAnyH_take (i:=3) (oi:=⟨some 6,_,_,_,_,_⟩) (v:=.bool true) rfl (by kernel_rfl) (by kernel_rfl) (by kernel_rfl) (fun _ _ _ h=>h) (Or.inl ⟨by rfl,fun W hW=>?_⟩) hS ?_
     ·obtain ⟨c0,c1,c2,c3⟩:=hW.c
      go_simp
     try simp only [Act.put,List.setIfInBounds_toArray,List.set_cons_zero,List.set_cons_succ]
     refine wpAnyH_take (i:=4) (oi:=⟨some 7,_,_,_,_,_⟩) (v:=Value.pointer (some ⟨X,0,none⟩)) rfl (by kernel_rfl) (by kernel_rfl) (by kernel_rfl) (fun _ _ _ h=>h) (Or.inl ⟨by rfl,fun W hW=>?_⟩) hS ?_
     ·obtain ⟨c0,c1,c2,c3⟩:=hW.c
      go_simp
     try simp only [Act.put,List.setIfInBounds_toArray,List.set_cons_zero,List.set_cons_succ]
     refine wpAnyH_take (i:=5) (oi:=⟨some 8,_,_,_,_,_⟩) (v:=.string (strOfNums nm)) rfl (by kernel_rfl) (by kernel_rfl) (by kernel_rfl) (fun _ _ _ h=>h) (Or.inl ⟨by rfl,fun W hW=>?_⟩) hS ?_
     ·obtain ⟨c0,c1,c2,c3⟩:=hW.c
      go_simp
     try simp only [Act.put,List.setIfInBounds_toArray,List.set_cons_zero,List.set_cons_succ]
     refine wpAnyH_take (i:=6) (oi:=⟨some 9,_,_,_,_,_⟩) (v:=.int .i64 (nm.length:Int)) rfl (by kernel_rfl) (by kernel_rfl) (by kernel_rfl) (fun _ _ _ h=>h) (Or.inl ⟨by rfl,fun W hW=>?_⟩) hS ?_
     ·obtain ⟨c0,c1,c2,c3⟩:=hW.c
      go_simp
     try simp only [Act.put,List.setIfInBounds_toArray,List.set_cons_zero,List.set_cons_succ]
     refine wpAnyH_take (i:=7) (oi:=⟨some 10,_,_,_,_,_⟩) (v:=.bool true) rfl (by kernel_rfl) (by kernel_rfl) (by kernel_rfl) (fun _ _ _ h=>h) (Or.inl ⟨by rfl,fun W hW=>?_⟩) hS ?_
     ·obtain ⟨c0,c1,c2,c3⟩:=hW.c
      go_simp
     try simp only [Act.put,List.setIfInBounds_toArray,List.set_cons_zero,List.set_cons_succ]
     refine wpAnyH_take (i:=8) (oi:=⟨some 11,_,_,_,_,_⟩) (v:=.bool true) rfl (by kernel_rfl) (by kernel_rfl) (by kernel_rfl) (fun _ _ _ h=>h) (Or.inl ⟨by rfl,fun W hW=>?_⟩) hS ?_
     ·obtain ⟨c0,c1,c2,c3⟩:=hW.c
      go_simp
     try simp only [Act.put,List.setIfInBounds_toArray,List.set_cons_zero,List.set_cons_succ]
     refine wpAnyH_take (i:=9) (oi:=⟨some 12,_,_,_,_,_⟩) (v:=.bool true) rfl (by kernel_rfl) (by kernel_rfl) (by kernel_rfl) (fun _ _ _ h=>h) (Or.inl ⟨by rfl,fun W hW=>?_⟩) hS ?_
     ·obtain ⟨c0,c1,c2,c3⟩:=hW.c
      go_simp
     try simp only [Act.put,List.setIfInBounds_toArray,List.set_cons_zero,List.set_cons_succ]
     refine wpAnyH_take (i:=10) (oi:=⟨some 13,_,_,_,_,_⟩) (v:=Value.pointer (some ⟨X,0,none⟩)) rfl (by kernel_rfl) (by kernel_rfl) (by kernel_rfl) (fun _ _ _ h=>h) (Or.inl ⟨by rfl,fun W hW=>?_⟩) hS ?_
     ·obtain ⟨c0,c1,c2,c3⟩:=hW.c
      go_simp
     try simp only [Act.put,List.setIfInBounds_toArray,List.set_cons_zero,List.set_cons_succ]
     refine wpAnyH_take (i:=11) (oi:=⟨some 14,_,_,_,_,_⟩) (v:=.string (strOfNums nm)) rfl (by kernel_rfl) (by kernel_rfl) (by kernel_rfl) (fun _ _ _ h=>h) (Or.inl ⟨by rfl,fun W hW=>?_⟩) hS ?_
     ·obtain ⟨c0,c1,c2,c3⟩:=hW.c
      go_simp
     try simp only [Act.put,List.setIfInBounds_toArray,List.set_cons_zero,List.set_cons_succ]
     refine wpAnyH_take (i:=14) (oi:=⟨some 17,_,_,_,_,_⟩) (v:=Value.pointer (some ⟨X,0,none⟩)) rfl (by kernel_rfl) (by kernel_rfl) (by kernel_rfl) (fun _ _ _ h=>h) (Or.inl ⟨by rfl,fun W hW=>?_⟩) hS ?_
     ·obtain ⟨c0,c1,c2,c3⟩:=hW.c
      go_simp
     try simp only [Act.put,List.setIfInBounds_toArray,List.set_cons_zero,List.set_cons_succ]
     refine wpAnyH_take (i:=15) (oi:=⟨some 18,_,_,_,_,_⟩) (v:=.string (strOfNums nm)) rfl (by kernel_rfl) (by kernel_rfl) (by kernel_rfl) (fun _ _ _ h=>h) (Or.inl ⟨by rfl,fun W hW=>?_⟩) hS ?_
     ·obtain ⟨c0,c1,c2,c3⟩:=hW.c
      go_simp
     try simp only [Act.put,List.setIfInBounds_toArray,List.set_cons_zero,List.set_cons_succ]
     refine wpAnyH_ready (rs:=[12]) (by kernel_rfl) (by simp) ?_
     refine AllReadyH.cons (o:=⟨some 15,_,_,_,_,_⟩) rfl (fun K' hK'=>?_) AllReadyH.nil
     go_simp
     refine hK'.out _ _ H2.out (fun hS=>?_)
     clear hK' K'
     try simp only [Act.put,List.setIfInBounds_toArray,List.set_cons_zero,List.set_cons_succ]
     refine wpAnyH_ready (rs:=[13]) (by kernel_rfl) (by simp) ?_
     refine AllReadyH.cons (o:=⟨some 16,_,_,_,_,_⟩) rfl (fun K' hK'=>?_) AllReadyH.nil
     go_simp
     go_at_call 90
     refine NMH.out.mono ?_
     rintro e w' ⟨rfl,rfl⟩
     refine hK'.out _ _ H2.out (fun hS=>?_)
     clear hK' K'
     try simp only [Act.put,List.setIfInBounds_toArray,List.set_cons_zero,List.set_cons_succ]
     refine wpAnyH_take (i:=16) (oi:=⟨some 19,_,_,_,_,_⟩) (v:=.bool true) rfl (by kernel_rfl) (by kernel_rfl) (by kernel_rfl) (fun _ _ _ h=>h) (Or.inl ⟨by rfl,fun W hW=>?_⟩) hS ?_
     ·obtain ⟨c0,c1,c2,c3⟩:=hW.c
      go_simp
     try simp only [Act.put,List.setIfInBounds_toArray,List.set_cons_zero,List.set_cons_succ]
     refine wpAnyH_take (i:=17) (oi:=⟨some 20,_,_,_,_,_⟩) (v:=.bool true) rfl (by kernel_rfl) (by kernel_rfl) (by kernel_rfl) (fun _ _ _ h=>h) (Or.inl ⟨by rfl,fun W hW=>?_⟩) hS ?_
     ·obtain ⟨c0,c1,c2,c3⟩:=hW.c
      go_simp
     try simp only [Act.put,List.setIfInBounds_toArray,List.set_cons_zero,List.set_cons_succ]
     refine wpAnyH_take (i:=18) (oi:=⟨some 21,_,_,_,_,_⟩) (v:=.bool true) rfl (by kernel_rfl) (by kernel_rfl) (by kernel_rfl) (fun _ _ _ h=>h) (Or.inl ⟨by rfl,fun W hW=>?_⟩) hS ?_
     ·obtain ⟨c0,c1,c2,c3⟩:=hW.c
      go_simp
     try simp only [Act.put,List.setIfInBounds_toArray,List.set_cons_zero,List.set_cons_succ]
     refine wpAnyH_take (i:=19) (oi:=⟨some 22,_,_,_,_,_⟩) (v:=Value.pointer (some ⟨X,1,none⟩)) rfl (by kernel_rfl) (by kernel_rfl) (by kernel_rfl) (fun _ _ _ h=>h) (Or.inl ⟨by rfl,fun W hW=>?_⟩) hS ?_
     ·obtain ⟨c0,c1,c2,c3⟩:=hW.c
      go_simp
     try simp only [Act.put,List.setIfInBounds_toArray,List.set_cons_zero,List.set_cons_succ]
     refine wpAnyH_take (i:=20) (oi:=⟨some 23,_,_,_,_,_⟩) (v:=.int .i64 sec) rfl (by kernel_rfl) (by kernel_rfl) (by kernel_rfl) (fun _ _ _ h=>h) (Or.inl ⟨by rfl,fun W hW=>?_⟩) hS ?_
     ·obtain ⟨c0,c1,c2,c3⟩:=hW.c
      go_simp
     try simp only [Act.put,List.setIfInBounds_toArray,List.set_cons_zero,List.set_cons_succ]
     refine wpAnyH_take (i:=21) (oi:=⟨some 24,_,_,_,_,_⟩) (v:=.bool false) rfl (by kernel_rfl) (by kernel_rfl) (by kernel_rfl) (fun _ _ _ h=>h) (Or.inl ⟨by rfl,fun W hW=>?_⟩) hS ?_
     ·obtain ⟨c0,c1,c2,c3⟩:=hW.c
      go_simp
     try simp only [Act.put,List.setIfInBounds_toArray,List.set_cons_zero,List.set_cons_succ]
     refine wpAnyH_take (i:=22) (oi:=⟨some 25,_,_,_,_,_⟩) (v:=.bool false) rfl (by kernel_rfl) (by kernel_rfl) (by kernel_rfl) (fun _ _ _ h=>h) (Or.inl ⟨by rfl,fun W hW=>?_⟩) hS ?_
     ·obtain ⟨c0,c1,c2,c3⟩:=hW.c
      go_simp
     try simp only [Act.put,List.setIfInBounds_toArray,List.set_cons_zero,List.set_cons_succ]
     refine wpAnyH_take (i:=23) (oi:=⟨some 26,_,_,_,_,_⟩) (v:=.bool false) rfl (by kernel_rfl) (by kernel_rfl) (by kernel_rfl) (fun _ _ _ h=>h) (Or.inl ⟨by rfl,fun W hW=>?_⟩) hS ?_
     ·obtain ⟨c0,c1,c2,c3⟩:=hW.c
      go_simp
     try simp only [Act.put,List.setIfInBounds_toArray,List.set_cons_zero,List.set_cons_succ]
     refine wpAnyH_take (i:=24) (oi:=⟨some 27,_,_,_,_,_⟩) (v:=undef) rfl (by kernel_rfl) (by kernel_rfl) (by kernel_rfl) (fun _ _ _ h=>h) (Or.inr ⟨by rfl,rfl⟩) hS ?_
     try simp only [Act.put,List.setIfInBounds_toArray,List.set_cons_zero,List.set_cons_succ]
     refine wpAnyH_take (i:=25) (oi:=⟨some 28,_,_,_,_,_⟩) (v:=undef) rfl (by kernel_rfl) (by kernel_rfl) (by kernel_rfl) (fun _ _ _ h=>h) (Or.inr ⟨by rfl,rfl⟩) hS ?_
     try simp only [Act.put,List.setIfInBounds_toArray,List.set_cons_zero,List.set_cons_succ]
     refine wpAnyH_take (i:=26) (oi:=⟨some 29,_,_,_,_,_⟩) (v:=undef) rfl (by kernel_rfl) (by kernel_rfl) (by kernel_rfl) (fun _ _ _ h=>h) (Or.inr ⟨by rfl,rfl⟩) hS ?_
     try simp only [Act.put,List.setIfInBounds_toArray,List.set_cons_zero,List.set_cons_succ]
     refine wpAnyH_take (i:=27) (oi:=⟨some 30,_,_,_,_,_⟩) (v:=.bool false) rfl (by kernel_rfl) (by kernel_rfl) (by kernel_rfl) (fun _ _ _ h=>h) (Or.inl ⟨by rfl,fun W hW=>?_⟩) hS ?_
     ·obtain ⟨c0,c1,c2,c3⟩:=hW.c
      go_simp
     try simp only [Act.put,List.setIfInBounds_toArray,List.set_cons_zero,List.set_cons_succ]
     refine wpAnyH_take (i:=28) (oi:=⟨some 2,_,_,_,_,_⟩) (v:=.bool false) rfl (by kernel_rfl) (by kernel_rfl) (by kernel_rfl) (fun _ _ _ h=>h) (Or.inl ⟨by rfl,fun W hW=>?_⟩) hS ?_
     ·obtain ⟨c0,c1,c2,c3⟩:=hW.c
      go_simp
     try simp only [Act.put,List.setIfInBounds_toArray,List.set_cons_zero,List.set_cons_succ]
     refine wpAnyH_done (by kernel_rfl) ?_ _
     go_wp2
     go_ret
     exact ⟨by rw [HR.out];rfl,G2.out⟩
  ·have d1:decide ((nm.length:Int)≤255)=false:=by simp;omega
   rw [decide_eq_false h1] at hr
   have HR:=Lib.hid hr
   clear hr hn E3 g1 h0 h1 hW1 hX
   go_enter Tryz.func56,Tryz.ntmps56
   go_upto_region 1 with fail
   rw [← HW.out,← HX.out]
   clear HW HX
   go_quiet (fail)
   go_wp2
   go_ret
   exact ⟨by rw [HR.out];rfl,grown_drewN G1.out _⟩
end Go.Proofs.YtkmbkpoclhbmgaaGreat
namespace Go.Proofs.YtkmbkpoclhbmgaaGreat
open Go.RowKit
def nmB (l:Syms):List Int:=0 :: l.flatMap fun y=>y.1 ++ [0]
def tabS (l:Syms):Nat→List Int
 | 0=>[]
 | k + 1=>tabS l k ++ entSy ((nmB (l.take k)).length:Int) (l.getD k ([],Sy.zero)).2
theorem tabS_len (l:Syms) (k:Nat):(tabS l k).length=16 * k:=by
 induction k with
 | zero=>rfl
 | succ k ih=>rw [tabS,List.length_append,ih,entS_len];omega
theorem tabS_byt (l:Syms) (k:Nat):Byt (tabS l k):=by
 induction k with
 | zero=>intro x hx;cases hx
 | succ k ih=>exact ih.app (entS_byt _ _)
theorem nmB_take {l:Syms} {k:Nat} {y:Sym} (h:l[k]?=some y):nmB (l.take (k + 1))=nmB (l.take k) ++ (y.1 ++ [0]):=by
 obtain ⟨hk,rfl⟩:=List.getElem?_eq_some_iff.1 h
 unfold nmB
 rw [List.take_succ_eq_append_getElem hk,List.flatMap_append,List.flatMap_singleton,List.cons_append]
theorem tabS_take {l:Syms} {k:Nat} {y:Sym} (h:l[k]?=some y):tabS l (k + 1)=tabS l k ++ entSy ((nmB (l.take k)).length:Int) y.2:=by
 rw [tabS,List.getD_eq_getElem?_getD,h]
 rfl
theorem nmB_byt {l:Syms} (h:∀ y∈l,Byt y.1):Byt (nmB l):=by
 intro x hx
 rcases List.mem_cons.1 hx with rfl | hx
 ·omega
 ·obtain ⟨y,hy,hx⟩:=List.mem_flatMap.1 hx
  rcases List.mem_append.1 hx with hx | hx
  ·exact h y hy x hx
  ·rw [List.mem_singleton] at hx;omega
theorem nmB_len_le {l:Syms} (h:∀ y∈l,y.1.length≤255):(nmB l).length≤1 + 256 * l.length:=by
 induction l with
 | nil=>simp [nmB]
 | cons y l ih =>
  have h1:=h y (List.mem_cons_self ..)
  have h2:=ih (fun z hz=>h z (List.mem_cons_of_mem _ hz))
  unfold nmB at h2 ⊢
  rw [List.flatMap_cons]
  simp only [List.length_cons,List.length_append,List.length_nil] at h2 ⊢
  omega
theorem mayS_is {nm:List Int} {x:Sy} (h:mayS nm x=true):nm≠[]∧nm.length≤255∧(0:Int) ∉ nm∧0≤x.sec∧x.sec≤255:=by
 unfold mayS at h
 simp only [Bool.and_eq_true,Bool.not_eq_true',decide_eq_false_iff_not,decide_eq_true_eq] at h
 exact ⟨h.1.1.1.1,h.1.1.1.2,h.1.1.2,h.1.2,h.2⟩
end Go.Proofs.YtkmbkpoclhbmgaaGreat
namespace Go.Proofs.YtkmbkpoclhbmgaaGreat
open Go.RowKit Go.Maps
variable {w w':World} {D:Syms}
def twB (D:Syms):Bool:=!decide ((D.map Prod.fst).Nodup)
theorem twB_no {D:Syms} (h:twB D=false):D.Pairwise fun a b=>a.1≠b.1:=by
 unfold twB at h
 rw [Bool.not_eq_false',decide_eq_true_eq] at h
 exact List.pairwise_map.1 h
theorem twB_yes {D:Syms} (h:twB D=true):¬ D.Pairwise fun a b=>a.1≠b.1:=by
 unfold twB at h
 rw [Bool.not_eq_true',decide_eq_false_iff_not] at h
 exact fun k=>h (List.pairwise_map.2 k)
end Go.Proofs.YtkmbkpoclhbmgaaGreat
namespace Go.Proofs.YtkmbkpoclhbmgaaGreat
open Go.RowKit
variable {w w' W V:World} {D:Syms}
def mayAll (D:Syms):Bool:=D.all fun y=>mayS y.1 y.2
def mkErr (D:Syms):Int :=
 if mayAll D=false then 2 else if 4096 < D.length∨1048576 < (nmB D).length then 11 else if twB D=true then 21 else 0
def mkT (D:Syms):List Int:=if mkErr D=0 then tabS D D.length else []
def mkN (D:Syms):List Int:=if mkErr D=0 then nmB D else []
structure MkO (w w':World) (D:Syms) (r:Ending):Prop where
 ex:∃ qa ca qb cb,r=.returned (.tuple #[.slice qa (mkT D).length ca,.slice qb (mkN D).length cb,.int .i64 (mkErr D)])∧IsBytes w' qa ca (mkT D)∧IsBytes w' qb cb (mkN D)∧(mkT D).length≤ca∧ca≤9223372036854775807∧(mkN D).length≤cb∧cb≤9223372036854775807
 grown:w.grownBy w' none
theorem MkO.no (hg:w.grownBy w' none) {E:Int} (hE:mkErr D=E) (h0:E≠0):MkO w w' D (.returned (.tuple #[.slice none 0 0,.slice none 0 0,.int .i64 E])):=by
 have hT:mkT D=[]:=by unfold mkT;rw [if_neg (by rw [hE];exact h0)]
 have hN:mkN D=[]:=by unfold mkN;rw [if_neg (by rw [hE];exact h0)]
 refine ⟨⟨none,0,none,0,?_,?_,?_,?_⟩,hg⟩
 ·rw [hT,hN,hE];rfl
 ·rw [hT];exact IsBytes.nil
 ·rw [hN];exact IsBytes.nil
 ·rw [hT,hN];simp
end Go.Proofs.YtkmbkpoclhbmgaaGreat
