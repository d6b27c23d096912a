/- Parts of the proof, put together: ExK, NlL, NlPt, NlY, NlTb, NlTw, NlMk, NlRm. No condition beyond those that each part names. -/
import Derived.Test.YtkmbkpoclhbmgaaGreatPA16
set_option maxRecDepth 20000
set_option maxHeartbeats 6400000
namespace Go.Proofs.YtkmbkpoclhbmgaaGreat
open Go.RowKit
variable {w w' W V:World}
def Hg:Seg:=⟨[95,95,84,69,88,84],4096,4096,0,4096,5,[⟨[97],[95,95,84,69,88,84],4096,8,0,0⟩]⟩
def plSt (nt nb ns:Nat):St:=⟨[],[Hg],[([100],1)],(0,0),(0,0),(0,0),(0,0),(4096,(nt:Int)),(0,0),(4096 + (nt:Int),(nb:Int)),(4096 + ((nt:Int) + (nb:Int)),(ns:Int)),0,false,[],1⟩
def plB (T B S:List Int):List Int:=((List.replicate 4096 0 ++ T) ++ B) ++ S
theorem results_tmp_img {fn:Func} {p u:Tmp} (hr:fn.results=#[.tmp u,.cell p 48]) {tmps:Array Value} {v:Value} {g:Nat} {h:Hx} {s:St} {sv dv:Value} (hu:tmps.getD u undef=v) (hp:tmps.getD p undef=.pointer (some ⟨g,0,none⟩)) (k:Zp w g h s sv dv) :
  (results fn tmps).run Tryz.prog w=.ok (.tuple #[v,imgV h s sv dv]) w:=by
 have e:(asAddr (.pointer (some ⟨g,0,none⟩)):Sem Addr).run Tryz.prog w=.ok ⟨g,0,none⟩ w:=rfl;have l:(loadVar 48 ⟨g,0,none⟩).run Tryz.prog w=.ok (imgV h s sv dv) w:=run_loadVar_row w g _ _ _ _ _ k Tryz.underlying48 rfl (by kernel_rfl);simp only [Array.getD_eq_getD_getElem?] at hp hu;simp only [results,hr];simp [Sem.run_bind,Result.andThen,hp,hu,e,l]
structure PlO (w w':World) (T B S:List Int) (e:Ending):Prop where
 ex:∃ (q:Option Addr) (c:Nat) (x:Sg) (qs qd:Option Addr),e=.returned (.tuple #[.slice q (4096 + T.length + B.length + S.length) c,imgV ⟨2,0,0⟩ (plSt T.length B.length S.length) (.slice qs 1 1) (.slice qd 1 1)])∧∀ (V:World) (r:Option Nat),w'.grownBy V r→(∀ a,r=some a→a < w.heap.size)→Bt V (plB T B S) q c (plSt T.length B.length S.length) [x] qs 1 1
 grown:w.grownBy w' none
theorem own_cap2 {base n c:Nat} {T:TypeId} {k:Nat} {q:Option Addr} {xs:List Value} (h:w.ownsRow base T k (.slice q n c) n xs):n≤c∧c≤9223372036854775807:=by
 obtain ⟨_,⟨e,e0⟩ | ⟨g,cap,cur,hv,_,_,h1,h2,_⟩⟩:=h
 ·injection e with _ _ e3;subst e3;subst e0;exact ⟨Nat.le_refl _,Nat.zero_le _⟩
 ·injection hv with _ _ e3;subst e3;unfold maxLen at h2;exact ⟨h1,by omega⟩
theorem wpList_buildSlice {P:Program} {ops:Array Oper} {rest:List Oper} {o:Oper} {a:Act} {w w2:World} {Q:Exit→Act→World→Prop} (hgd:o.guard=none) (t:TypeId) (n:Nat) (parts:Array (Nat × Operand)) (vals:Array (Nat × Value)) (v:Value) (ho:o.op=.buildSlice t n parts) (hp:(parts.toList.map fun x=>(x.1,a.eval x.2))=vals.toList)
  (h:(Instr.buildSlice t n vals).run P w=.ok v w2) (hK:wpList P ops Q rest (a.put o.dst v) w2):wpList P ops Q (o :: rest) a w :=
 wpList_plain hgd fun _ hK'=>by
  have hp:(parts.map fun (i,x)=>(i,a.eval x))=vals:=Array.toList_inj.1 (by rw [Array.toList_map];exact hp);subst hp;unfold Oper.wp execOp;simp only [ho,Sem.run_bind,h,Result.andThen_ok,Sem.run_pure];exact hK' _ _ hK
theorem wpList_build {P:Program} {ops:Array Oper} {rest:List Oper} {o:Oper} {a:Act} {w w2:World} {Q:Exit→Act→World→Prop} (hgd:o.guard=none) (t:TypeId) (parts:Array (Nat × Operand)) (vals:Array (Nat × Value)) (v:Value) (ho:o.op=.build t parts) (hp:(parts.toList.map fun x=>(x.1,a.eval x.2))=vals.toList)
  (h:(Instr.build t vals).run P w=.ok v w2) (hK:wpList P ops Q rest (a.put o.dst v) w2):wpList P ops Q (o :: rest) a w :=
 wpList_plain hgd fun _ hK'=>by
  have hp:(parts.map fun (i,x)=>(i,a.eval x))=vals:=Array.toList_inj.1 (by rw [Array.toList_map];exact hp);subst hp;unfold Oper.wp execOp;simp only [ho,Sem.run_bind,h,Result.andThen_ok,Sem.run_pure];exact hK' _ _ hK
theorem wpList_alloc {P:Program} {ops:Array Oper} {rest:List Oper} {o:Oper} {a:Act} {w w2:World} {Q:Exit→Act→World→Prop} (hgd:o.guard=none) (t:TypeId) (v:Value) (ho:o.op=.alloc t)
  (h:(Instr.alloc t true (.tuple #[])).run P w=.ok v w2) (hK:wpList P ops Q rest (a.put o.dst v) w2):wpList P ops Q (o :: rest) a w :=
 wpList_plain hgd fun _ hK'=>by
  unfold Oper.wp execOp;simp only [ho,Sem.run_bind,h,Result.andThen_ok,Sem.run_pure];exact hK' _ _ hK
theorem slice_run (c0 c1 c2 c3 c4 c5 c6:Value) (W:World):(Instr.buildSlice 43 1 #[(0,.agg #[c0,c1,c2,c3,c4,c5,c6])]).run Tryz.prog W=.ok (.slice (some ⟨W.heap.size,0,none⟩) 1 1) (W.alloc (.cells #[c0,c1,c2,c3,c4,c5,c6] 121 (0,0))):=by kernel_rfl
theorem dep_run (W:World):(Instr.build 124 #[(0,.string ⟨#[100]⟩),(1,.int .i64 1)]).run Tryz.prog W=.ok (.agg #[.string ⟨#[100]⟩,.int .i64 1]) W:=by kernel_rfl
theorem deps_run (c0 c1:Value) (W:World):(Instr.buildSlice 44 1 #[(0,.agg #[c0,c1])]).run Tryz.prog W=.ok (.slice (some ⟨W.heap.size,0,none⟩) 1 1) (W.alloc (.cells #[c0,c1] 124 (0,0))):=by kernel_rfl
theorem img_run (sv dv:Value) (hs:∃ q n c,sv=.slice q n c) (hd:∃ q n c,dv=.slice q n c) (W:World):(Instr.build 48 #[(0,.int .i64 2),(4,sv),(5,dv)]).run Tryz.prog W=.ok (imgV ⟨2,0,0⟩ ⟨[],[Hg],[([100],1)],(0,0),(0,0),(0,0),(0,0),(0,0),(0,0),(0,0),(0,0),0,false,[],1⟩ sv dv) W:=by
 obtain ⟨q,n,c,rfl⟩:=hs;obtain ⟨q',n',c',rfl⟩:=hd
 kernel_rfl
theorem img_alloc (W:World):(Instr.alloc 48 true (.tuple #[])).run Tryz.prog W=.ok (.pointer (some ⟨W.heap.size,0,none⟩)) (W.alloc (.cells (Qf Hx.zero St.zero (.slice none 0 0) (.slice none 0 0)) 48 (0,0))):=by kernel_rfl
theorem act_turn {Q:Exit→Act→World→Prop} {a b:Act} (h:a=b) (k:Q .normal b w):Q .normal a w:=h ▸ k
theorem plain_any {T B S:List Int} {qt qb qs:Option Addr} {nt ct nb cb ns cs:Nat} (ht:T.length=nt) (hb:B.length=nb) (hs:S.length=ns) (bt:Qk w qt ct T) (bb:Qk w qb cb B) (bs:Qk w qs cs S) (few:nt≤1000000000∧nb≤1000000000∧ns≤1000000000) (yt:Byt T) (yb:Byt B) (ys:Byt S) :
  Calls Tryz.prog 24 #[.slice qt nt ct,.slice qb nb cb,.slice qs ns cs] w fun e w'=>PlO w w' T B S e:=by
 obtain ⟨ft,fb,fs⟩:=few;obtain ⟨iu,hiu⟩:=info_parts (show (Tryz.prog.info? 5).map (fun i=>(i.zero,i.size,i.bytes))=some (some (.int .u8 0),1,1) from by kernel_rfl);have IU:=Lv hiu;have YT:=Lv yt;have YB:=Lv yb;have YS:=Lv ys;clear yt yb ys;have HT:=Lv ht;have HB:=Lv hb;have HS:=Lv hs;have BT:=Lv bt;have BB:=Lv bb;have BS:=Lv bs;clear hiu ht hb hs bt bb bs
 go_enter Tryz.func24,Tryz.ntmps24;go_upto_region 1 with fail;have g1:=grown1 w (.cells #[.int .i64 0,.int .i64 0,.int .u32 0,.string ⟨#[]⟩,.slice none 0 0,.slice none 0 0,.int .u64 0,.int .u64 0,.int .u64 0,.int .u64 0,.int .u64 0,.int .u64 0,.int .u64 0,.int .u64 0,.int .u64 0,.int .u64 0,.int .u64 0,.int .u64 0,.int .u64 0,.int .u64 0,.int .u64 0,.int .u64 0,.int .u64 0,.bool false] 48);have z1:=Zp.new w
 obtain ⟨w1,hw1⟩:∃ W,W=w.alloc (.cells #[.int .i64 0,.int .i64 0,.int .u32 0,.string ⟨#[]⟩,.slice none 0 0,.slice none 0 0,.int .u64 0,.int .u64 0,.int .u64 0,.int .u64 0,.int .u64 0,.int .u64 0,.int .u64 0,.int .u64 0,.int .u64 0,.int .u64 0,.int .u64 0,.int .u64 0,.int .u64 0,.int .u64 0,.int .u64 0,.int .u64 0,.int .u64 0,.bool false] 48):=⟨_,rfl⟩
 obtain ⟨gr,hgr⟩:∃ g,g=w.heap.size:=⟨_,rfl⟩
 rw [← hw1] at g1 z1 ⊢;rw [← hgr] at z1 ⊢;have G1:=Lv g1;have Z1:=Lv z1;have HGR:=Lv hgr;clear g1 z1 hw1 hgr;obtain ⟨n0,hn0⟩:∃ n:Nat,n=4096:=⟨_,rfl⟩
 have HN0:=Lv hn0;clear hn0;have BT1:=Lv (BT.o.kept G1.o (by simp));have BB1:=Lv (BB.o.kept G1.o (by simp));have BS1:=Lv (BS.o.kept G1.o (by simp));have Z0:=Lv (show (madeCells (Value.int IntKind.u8 0).cells (n0 * 1)).toList=(List.replicate n0 (0:Int)).map (Value.int .u8) from by
  rw [Nat.mul_one,show (Value.int IntKind.u8 0).cells=#[Value.int IntKind.u8 0] from rfl,toList_madeCells_one,List.map_replicate])
 obtain ⟨Z,hZ⟩:∃ Z:List Int,Z=List.replicate n0 0:=⟨_,rfl⟩
 have ZL:=Lv (show Z.length=n0 by rw [hZ,List.length_replicate]);rw [← hZ] at Z0;have HZ:=Lv hZ;have HZ4:=Lv (show Z=List.replicate 4096 0 by rw [hZ,HN0.o]);clear hZ;go_upto_region 3 with (first
  |(at_make;refine wpList_make_full _ rfl _ _ 29 rfl w1.heap.size 5 iu (.int .u8 0) 1 Tryz.underlying29 IU.o.1 IU.o.2.1 IU.o.2.2.1 .i64 .i64 _ _ n0 rfl rfl (by rw [HN0.o];rfl) (by rw [HN0.o];rfl) (by rw [IU.o.2.2.2,HN0.o];omega) (by unfold maxLen;rw [HN0.o];omega) (Nat.le_refl _) ?_;(intro w2 hown hg2;have G2:=Lv hg2;have R2:=Lv (Xm.refl (show w2.ownsRow w1.heap.size 5 1 (.slice (some ⟨w1.heap.size,0,none⟩) n0 n0) Z.length (Z.map (Value.int .u8)) from by rw [ZL.o,← Z0.o];exact hown));have OB:=Lv (fun g (e:(Value.slice (some ⟨w1.heap.size,0,none⟩) n0 n0).ownBlock=some g)=>(R2.o.own.lt g e).1);clear hown hg2))
  |(at_builtin;(refine Zi rfl _ _ rfl rfl (v:=.slice (some ⟨w1.heap.size,0,none⟩) n0 n0) (by rfl) R2.o T nt HT.o (by rfl) (BT1.o.kept G2.o (by simp)) (by rw [ZL.o,HN0.o];omega) G2.o.size ?_);intro q3 c3 w3 hr3;rw [ZL.o] at hr3 ⊢;have R3:=Lv hr3;have G3:=Lv (Qr G2.o hr3.grown OB.o);have L3:=Lv (show (Z ++ T).length=n0 + nt by rw [List.length_append,ZL.o,HT.o]);clear hr3 R2)
  |(at_builtin;have _:=R3;go_must ((refine Zi rfl _ _ rfl rfl (v:=.slice q3 (n0 + nt) c3) (by rfl) R3.o B nb HB.o (by rfl) (BB1.o.kept G3.o (by simp)) (by rw [L3.o,HN0.o];omega) G3.o.size ?_);intro q4 c4 w4 hr4;rw [L3.o] at hr4 ⊢;have R4:=Lv hr4;have G4:=Lv (Qr G2.o hr4.grown OB.o));have L4:=Lv (show ((Z ++ T) ++ B).length=n0 + nt + nb by rw [List.length_append,L3.o,HB.o]);clear hr4 R3)
  |(at_builtin;(refine Zi rfl _ _ rfl rfl (v:=.slice q4 (n0 + nt + nb) c4) (by rfl) R4.o S ns HS.o (by rfl) (BS1.o.kept G4.o (by simp)) (by rw [L4.o,HN0.o];omega) G4.o.size ?_);intro q5 c5 w5 hr5;rw [L4.o] at hr5 ⊢;have R5:=Lv hr5;have G5:=Lv (Qr G2.o hr5.grown OB.o);clear hr5 R4))
 clear IU;clear BT1 BB1 BS1 BT BB BS Z0 iu;go_upto_region 4 with fail;have b5:=heap_alloc_new w5 (.cells #[.string ⟨#[97]⟩,.string ⟨#[95,95,84,69,88,84]⟩,.int .u64 4096,.int .u64 8,.int .u64 0,.int .i64 0] 118);have g6:=grown1 w5 (.cells #[.string ⟨#[97]⟩,.string ⟨#[95,95,84,69,88,84]⟩,.int .u64 4096,.int .u64 8,.int .u64 0,.int .i64 0] 118);obtain ⟨X,hX⟩:∃ X,X=w5.heap.size:=⟨_,rfl⟩
 obtain ⟨w6,hw6⟩:∃ W,W=w5.alloc (.cells #[.string ⟨#[97]⟩,.string ⟨#[95,95,84,69,88,84]⟩,.int .u64 4096,.int .u64 8,.int .u64 0,.int .i64 0] 118):=⟨_,rfl⟩
 have hx6:w6.heap.size=X + 1:=by rw [hw6,World.size_alloc,hX]
 rw [← hw6] at b5 g6 ⊢;rw [← hX] at b5 ⊢;have B5:=Lv b5;have G6:=Lv g6;have HX:=Lv hX;clear b5 g6 hX hw6;have g7:=grown1 w6 (.cells #[.string ⟨#[95,95,84,69,88,84]⟩,.int .u64 4096,.int .u64 4096,.int .u64 0,.int .u64 4096,.int .i64 5,.slice (some ⟨X,0,none⟩) 1 1] 121);have b7:=heap_alloc_new w6 (.cells #[.string ⟨#[95,95,84,69,88,84]⟩,.int .u64 4096,.int .u64 4096,.int .u64 0,.int .u64 4096,.int .i64 5,.slice (some ⟨X,0,none⟩) 1 1] 121)
 rw [hx6] at b7;obtain ⟨w7,hw7⟩:∃ W,W=w6.alloc (.cells #[.string ⟨#[95,95,84,69,88,84]⟩,.int .u64 4096,.int .u64 4096,.int .u64 0,.int .u64 4096,.int .i64 5,.slice (some ⟨X,0,none⟩) 1 1] 121):=⟨_,rfl⟩
 have hx7:w7.heap.size=X + 2:=by rw [hw7,World.size_alloc,hx6]
 rw [← hw7] at b7 g7 ⊢;have G7:=Lv g7;clear g7 hw7 hx6;have z7:=b7;have c0:w7.cell? ⟨X + 1,0,none⟩=some (.string ⟨#[95,95,84,69,88,84]⟩):=by rw [Qm b7];rfl
 have c1:w7.cell? ⟨X + 1,1,none⟩=some (.int .u64 4096):=by rw [Qm b7];rfl
 have c2:w7.cell? ⟨X + 1,2,none⟩=some (.int .u64 4096):=by rw [Qm b7];rfl
 have c3':w7.cell? ⟨X + 1,3,none⟩=some (.int .u64 0):=by rw [Qm b7];rfl
 have c4':w7.cell? ⟨X + 1,4,none⟩=some (.int .u64 4096):=by rw [Qm b7];rfl
 have c5':w7.cell? ⟨X + 1,5,none⟩=some (.int .i64 5):=by rw [Qm b7];rfl
 have c6:w7.cell? ⟨X + 1,6,none⟩=some (.slice (some ⟨X,0,none⟩) 1 1):=by rw [Qm b7];rfl
 have B7:=Lv b7;clear b7 z7;have HX7:=Lv hx7;clear hx7;refine wp_region_lit ?_
 refine wpList_load_row (P:=Tryz.prog) rfl 121 _ rfl (X + 1) rfl 121 #[.string ⟨#[95,95,84,69,88,84]⟩,.int .u64 4096,.int .u64 4096,.int .u64 0,.int .u64 4096,.int .i64 5,.slice (some ⟨X,0,none⟩) 1 1] (0,0) _ B7.o Tryz.underlying121 rfl (by kernel_rfl) ?_
 obtain ⟨w8,hw8⟩:∃ V,V=w7.alloc (.cells #[.string ⟨#[95,95,84,69,88,84]⟩,.int .u64 4096,.int .u64 4096,.int .u64 0,.int .u64 4096,.int .i64 5,.slice (some ⟨X,0,none⟩) 1 1] 121 (0,0)):=⟨_,rfl⟩
 obtain ⟨Y,hY⟩:∃ Y,Y=w7.heap.size:=⟨_,rfl⟩
 have e24:(Instr.buildSlice 43 1 #[(0,.agg #[.string ⟨#[95,95,84,69,88,84]⟩,.int .u64 4096,.int .u64 4096,.int .u64 0,.int .u64 4096,.int .i64 5,.slice (some ⟨X,0,none⟩) 1 1])]).run Tryz.prog w7=.ok (.slice (some ⟨Y,0,none⟩) 1 1) w8:=by rw [hY,hw8];exact slice_run _ _ _ _ _ _ _ w7
 refine wpList_buildSlice rfl 43 1 _ #[(0,.agg #[.string ⟨#[95,95,84,69,88,84]⟩,.int .u64 4096,.int .u64 4096,.int .u64 0,.int .u64 4096,.int .i64 5,.slice (some ⟨X,0,none⟩) 1 1])] _ rfl (by rfl) e24 ?_
 refine wpList_build rfl 124 _ #[(0,.string ⟨#[100]⟩),(1,.int .i64 1)] _ rfl (by rfl) (dep_run _) ?_
 obtain ⟨w9,hw9⟩:∃ V,V=w8.alloc (.cells #[.string ⟨#[100]⟩,.int .i64 1] 124 (0,0)):=⟨_,rfl⟩
 obtain ⟨D,hD⟩:∃ Y,Y=w8.heap.size:=⟨_,rfl⟩
 have e26:(Instr.buildSlice 44 1 #[(0,.agg #[.string ⟨#[100]⟩,.int .i64 1])]).run Tryz.prog w8=.ok (.slice (some ⟨D,0,none⟩) 1 1) w9:=by rw [hD,hw9];exact deps_run _ _ w8
 refine wpList_buildSlice rfl 44 1 _ #[(0,.agg #[.string ⟨#[100]⟩,.int .i64 1])] _ rfl (by rfl) e26 ?_
 obtain ⟨PI,hPI⟩:∃ v:Value,v=imgV ⟨2,0,0⟩ ⟨[],[Hg],[([100],1)],(0,0),(0,0),(0,0),(0,0),(0,0),(0,0),(0,0),(0,0),0,false,[],1⟩ (.slice (some ⟨Y,0,none⟩) 1 1) (.slice (some ⟨D,0,none⟩) 1 1):=⟨_,rfl⟩
 have e27:(Instr.build 48 #[(0,.int .i64 2),(4,.slice (some ⟨Y,0,none⟩) 1 1),(5,.slice (some ⟨D,0,none⟩) 1 1)]).run Tryz.prog w9=.ok PI w9:=by rw [hPI];exact img_run _ _ ⟨_,_,_,rfl⟩ ⟨_,_,_,rfl⟩ w9
 refine wpList_build rfl 48 _ #[(0,.int .i64 2),(4,.slice (some ⟨Y,0,none⟩) 1 1),(5,.slice (some ⟨D,0,none⟩) 1 1)] _ rfl (by rfl) e27 ?_
 obtain ⟨w10,hw10⟩:∃ V,V=w9.alloc (.cells (Qf Hx.zero St.zero (.slice none 0 0) (.slice none 0 0)) 48 (0,0)):=⟨_,rfl⟩
 obtain ⟨M,hM⟩:∃ Y,Y=w9.heap.size:=⟨_,rfl⟩
 have e10:(Instr.alloc 48 true (.tuple #[])).run Tryz.prog w9=.ok (.pointer (some ⟨M,0,none⟩)) w10:=by rw [hM,hw10];exact img_alloc w9
 have i10:Zp w10 M Hx.zero St.zero (.slice none 0 0) (.slice none 0 0):=by rw [hM,hw10];exact heap_alloc_new _ _
 refine wpList_alloc rfl 48 _ rfl e10 ?_
 refine Zx (g:=M) (h0:=Hx.zero) (s0:=St.zero) (sv0:=.slice none 0 0) (dv0:=.slice none 0 0) (h:=⟨2,0,0⟩) (s:=⟨[],[Hg],[([100],1)],(0,0),(0,0),(0,0),(0,0),(0,0),(0,0),(0,0),(0,0),0,false,[],1⟩) (sv:=.slice (some ⟨Y,0,none⟩) 1 1) (dv:=.slice (some ⟨D,0,none⟩) 1 1) rfl (.tmp 10) (.tmp 27) rfl ?hx ?hy i10 ⟨_,_,_,rfl⟩ ⟨_,_,_,rfl⟩ ?_
 case hx=>kernel_rfl
 case hy=>exact Eq.trans (b:=PI) (by kernel_rfl) hPI
 refine wpList_nil ?_
 refine act_turn (b:=⟨#[.slice qt nt ct,.slice qb nb cb,.slice qs ns cs,undef,undef,undef,.slice none 0 0,.pointer (some ⟨gr,0,none⟩),.slice q5 (n0 + nt + nb + ns) c5,.pointer (some ⟨X + 1,0,none⟩),.pointer (some ⟨M,0,none⟩),undef,.slice (some ⟨w1.heap.size,0,none⟩) n0 n0,.slice (some ⟨w1.heap.size,0,none⟩) n0 n0,.slice qt nt ct,.slice q3 (n0 + nt) c3,.slice qb nb cb,.slice q4 (n0 + nt + nb) c4,.slice qs ns cs,.slice q5 (n0 + nt + nb + ns) c5,.agg #[.string ⟨#[97]⟩,.string ⟨#[95,95,84,69,88,84]⟩,.int .u64 4096,.int .u64 8,.int .u64 0,.int .i64 0],.slice (some ⟨X,0,none⟩) 1 1,.agg #[.string ⟨#[95,95,84,69,88,84]⟩,.int .u64 4096,.int .u64 4096,.int .u64 0,.int .u64 4096,.int .i64 5,.slice (some ⟨X,0,none⟩) 1 1],.agg #[.string ⟨#[95,95,84,69,88,84]⟩,.int .u64 4096,.int .u64 4096,.int .u64 0,.int .u64 4096,.int .i64 5,.slice (some ⟨X,0,none⟩) 1 1],.slice (some ⟨Y,0,none⟩) 1 1,.agg #[.string ⟨#[100]⟩,.int .i64 1],.slice (some ⟨D,0,none⟩) 1 1,PI,undef,undef,undef,undef,undef,undef,undef,undef,undef,undef,undef,undef,undef,undef,undef,undef,undef,undef,undef,undef,undef,undef,undef,undef,undef,undef,undef,undef,undef,undef,undef],[]⟩) (by kernel_rfl) ?_
 dsimp only
 obtain ⟨w11,hw11⟩:∃ V,V=w10.setRow M (Qf ⟨2,0,0⟩ ⟨[],[Hg],[([100],1)],(0,0),(0,0),(0,0),(0,0),(0,0),(0,0),(0,0),(0,0),0,false,[],1⟩ (.slice (some ⟨Y,0,none⟩) 1 1) (.slice (some ⟨D,0,none⟩) 1 1)):=⟨_,rfl⟩
 have i11:Zp w11 M ⟨2,0,0⟩ ⟨[],[Hg],[([100],1)],(0,0),(0,0),(0,0),(0,0),(0,0),(0,0),(0,0),(0,0),0,false,[],1⟩ (.slice (some ⟨Y,0,none⟩) 1 1) (.slice (some ⟨D,0,none⟩) 1 1):=by rw [hw11];exact i10.put
 have g8:w7.grownBy w8 none:=by rw [hw8];exact grown1 _ _
 have g9:w8.grownBy w9 none:=by rw [hw9];exact grown1 _ _
 have g10:w9.grownBy w10 none:=by rw [hw10];exact grown1 _ _
 have g11:w9.grownBy w11 none:=Qw g10 (by rw [hw11];exact Za _ _) (by rw [hM];exact Nat.le_refl _);have b8:w8.heap[Y]?=some (.cells #[.string ⟨#[95,95,84,69,88,84]⟩,.int .u64 4096,.int .u64 4096,.int .u64 0,.int .u64 4096,.int .i64 5,.slice (some ⟨X,0,none⟩) 1 1] 121 (0,0)):=by rw [hw8,hY];exact heap_alloc_new _ _
 have b9:w9.heap[D]?=some (.cells #[.string ⟨#[100]⟩,.int .i64 1] 124 (0,0)):=by rw [hw9,hD];exact heap_alloc_new _ _
 rw [← hw11];have HB8:=Lv (Yd (Qz g9 g11) b8 (by simp));have HB9:=Lv (Yd g11 b9 (by simp));have GG:=Lv (Qz g8 (Qz g9 g11));have I11:=Lv i11;have YL:=Lv (show X + 2≤Y by rw [hY,HX7.o];exact Nat.le_refl _);have YM:=Lv (show Y < M by rw [hM,hY];have h1:=lt_of_block b8;have h2:=g9.size;rw [hY] at h1;omega);have DM:=Lv (show D < M by rw [hM,hD];have h1:=lt_of_block b9;rw [hD] at h1;omega)
 have MM:=Lv (show w7.heap.size≤M by rw [hM];exact (Qz g8 g9).size);have ML:M < w11.heap.size:=lt_of_block i11;have FZ:∀ i,w11.frozen? ⟨M,i,none⟩=false:=fun i=>Xg i11
 clear e24 e26 e27 e10 hw8 hw9 hw10 hw11 hY hD hM g8 g9 g10 g11 b8 b9 i10 hPI;have CI:∀ (i:Nat) (v:Value),(Qf ⟨2,0,0⟩ ⟨[],[Hg],[([100],1)],(0,0),(0,0),(0,0),(0,0),(0,0),(0,0),(0,0),(0,0),0,false,[],1⟩ (.slice (some ⟨Y,0,none⟩) 1 1) (.slice (some ⟨D,0,none⟩) 1 1))[i]?=some v→w11.cell? ⟨M,i,none⟩=some v:=fun i v h=>by rw [Qm i11];exact h
 have k14:=CI 14 (.int .u64 0) rfl;have k15:=CI 15 (.int .u64 0) rfl;have k18:=CI 18 (.int .u64 0) rfl;have k19:=CI 19 (.int .u64 0) rfl;have k20:=CI 20 (.int .u64 0) rfl;have k21:=CI 21 (.int .u64 0) rfl;have f14:=FZ 14;have f15:=FZ 15;have f18:=FZ 18;have f19:=FZ 19;have f20:=FZ 20;have f21:=FZ 21;clear CI FZ i11;go_upto_region 9 with fail;obtain ⟨w12,hw12⟩:∃ V,V=((((((w11.setCell ⟨M,14,none⟩ (.int .u64 4096)).setCell ⟨M,15,none⟩ (.int .u64 (nt:Int))).setCell ⟨M,18,none⟩ (.int .u64 (4096 + (nt:Int)))).setCell ⟨M,19,none⟩ (.int .u64 (nb:Int))).setCell ⟨M,20,none⟩ (.int .u64 (4096 + ((nt:Int) + (nb:Int))))).setCell ⟨M,21,none⟩ (.int .u64 (ns:Int))):=⟨_,rfl⟩
 have i12:Zp w12 M ⟨2,0,0⟩ (plSt nt nb ns) (.slice (some ⟨Y,0,none⟩) 1 1) (.slice (some ⟨D,0,none⟩) 1 1):=by
  rw [hw12];unfold Zp;rw [heap_setCell_same _ M 21 _ _ _ (heap_setCell_same _ M 20 _ _ _ (heap_setCell_same _ M 19 _ _ _ (heap_setCell_same _ M 18 _ _ _ (heap_setCell_same _ M 15 _ _ _ (heap_setCell_same w11 M 14 _ _ _ I11.o)))))];rfl
 have g12:w11.grownBy w12 (some M):=by
  rw [hw12];exact Qx (Qx (Qx (Qx (Qx (Qx (Qq _ _) _) _) _) _) _) _
 rw [← hw12];have GA:=Lv (Qw GG.o g12 MM.o);have I12:=Lv i12;have B8:=Lv (g12.block Y (lt_of_block HB8.o) (by have:=YM.o;intro e;injection e with e;omega) |>.trans HB8.o);have B9:=Lv (g12.block D (lt_of_block HB9.o) (by have:=DM.o;intro e;injection e with e;omega) |>.trans HB9.o);clear hw12 k14 k15 k18 k19 k20 k21 f14 f15 f18 f19 f20 f21 i12 g12 ML;have KG:=fun d os=>Qt (below_regrown w12 d os) none
 have LD:=Lv (fun (V:World) (hV:∃ p:Regrown,V=Go.Sort.grow (redrawn w12 p.d) p.os)=>(by obtain ⟨p,rfl⟩:=hV;exact run_loadVar_row _ M _ _ _ _ _ (I12.o.kept (KG p.d p.os) (by simp)) Tryz.underlying48 rfl (by kernel_rfl):(loadVar 48 ⟨M,0,none⟩).run Tryz.prog V=.ok _ V));have HK:=Lv KG;clear KG;refine Kt 3 (by kernel_rfl) (by kernel_rfl) ?_
 simp only [List.take_succ_cons,List.take_zero,List.drop_succ_cons,List.drop_zero]
 iterate 1 (quiet_step (fail))
 refine Kk rfl _ rfl rfl LD.o ?_
 iterate 1 (quiet_step (fail))
 refine wpQuiet_nil ?_
 intro _ hw';obtain ⟨⟨dq,osq⟩,hw''⟩:=hw';subst hw'';have gk:=HK.o dq osq;obtain ⟨w13,hw13⟩:∃ W,Go.Sort.grow (redrawn w12 dq) osq=W:=⟨_,rfl⟩
 rw [hw13] at gk ⊢;have Z13:=Lv (Z1.o.kept (Qz G5.o (Qz G6.o (Qz G7.o (Qz GA.o gk)))) (by simp));have GK:=Lv gk;clear hw13 gk LD HK;have ST:=Lv (Z13.o.put (h:=⟨2,0,0⟩) (s:=plSt nt nb ns) (sv:=.slice (some ⟨Y,0,none⟩) 1 1) (dv:=.slice (some ⟨D,0,none⟩) 1 1));go_wp2_with (refine Zx (g:=gr) (h0:=Hx.zero) (s0:=St.zero) (sv0:=.slice none 0 0) (dv0:=.slice none 0 0) (h:=⟨2,0,0⟩) (s:=plSt nt nb ns) (sv:=.slice (some ⟨Y,0,none⟩) 1 1) (dv:=.slice (some ⟨D,0,none⟩) 1 1) rfl (.tmp 7) (.tmp 58) rfl (by kernel_rfl) (by kernel_rfl) Z13.o ⟨_,_,_,rfl⟩ ⟨_,_,_,rfl⟩ ?_)
 refine bodyPost_ret (results_tmp_img rfl rfl rfl ST.o) rfl ?_
 have G513:=Qz G6.o (Qz G7.o (Qz GA.o GK.o));have gf:w13.grownBy (w13.setRow gr (Qf ⟨2,0,0⟩ (plSt nt nb ns) (.slice (some ⟨Y,0,none⟩) 1 1) (.slice (some ⟨D,0,none⟩) 1 1))) (some gr):=Za _ _;have g1l:gr < w1.heap.size:=lt_of_block Z1.o;have hX5:w5.heap.size=X:=HX.o.symm;have g15:=G5.o.size;have hx7:=HX7.o;obtain ⟨F,hF⟩:∃ F,F=w13.setRow gr (Qf ⟨2,0,0⟩ (plSt nt nb ns) (.slice (some ⟨Y,0,none⟩) 1 1) (.slice (some ⟨D,0,none⟩) 1 1)):=⟨_,rfl⟩
 rw [← hF] at gf ⊢;have YG:Y≠gr:=by
  have h1:=YM.o;intro e;have h2:=YL.o;omega
 have bY:F.heap[Y]?=some (.cells #[.string ⟨#[95,95,84,69,88,84]⟩,.int .u64 4096,.int .u64 4096,.int .u64 0,.int .u64 4096,.int .i64 5,.slice (some ⟨X,0,none⟩) 1 1] 121 (0,0)):=Yd gf (Yd GK.o B8.o (by simp)) (by intro e;injection e with e;exact YG e.symm)
 have bX:F.heap[X]?=some (.cells #[.string ⟨#[97]⟩,.string ⟨#[95,95,84,69,88,84]⟩,.int .u64 4096,.int .u64 8,.int .u64 0,.int .i64 0] 118 (0,0)):=Yd gf (Yd (Qz G7.o (Qz GA.o GK.o)) B5.o (by simp)) (by intro e;injection e with e;omega)
 have by5:Qk w5 q5 c5 (plB T B S):=Qk.of_own (n:=n0 + nt + nb + ns) (by
  unfold plB;rw [← HZ4.o,List.length_append,L4.o,HS.o]) (by
  have:=R5.o.own
  rw [List.length_append,L4.o,HS.o] at this;unfold plB;rw [← HZ4.o];exact this)
 have o5:=R5.o.own;rw [List.length_append,L4.o,HS.o] at o5;have cp:=own_cap2 o5;have byF:Qk F q5 c5 (plB T B S):=(by5.kept G513 (by simp)).kept gf (fun b e=>by
  subst e;intro e;injection e with e;have h3:=(o5.lt b.block rfl).1;omega)
 have e4:(4096:Nat) + T.length + B.length + S.length=n0 + nt + nb + ns:=by rw [HT.o,HB.o,HS.o,HN0.o]
 have lB:(plB T B S).length=n0 + nt + nb + ns:=by
  unfold plB;rw [← HZ4.o,List.length_append,L4.o,HS.o]
 refine ⟨⟨q5,c5,⟨Hg,some ⟨X,0,none⟩,1⟩,some ⟨Y,0,none⟩,some ⟨D,0,none⟩,?_,?_⟩,?_⟩
 ·rw [e4,HT.o,HB.o,HS.o]
  rfl
 ·rw [HT.o,HB.o,HS.o]
  have hn:=HN0.o;intro V r hV hr;have gw:=G1.o.size;have bY:=Yd hV bY (fun e=>by have:=hr _ e;have:=YL.o;omega);have bX:=Yd hV bX (fun e=>by have:=hr _ e;omega);have byF:=byF.kept hV (fun b e er=>by
   subst e;have h3:=(o5.lt b.block rfl).1
   have:=hr _ er
   omega)
  refine ⟨byF,by rw [lB];exact cp.1,cp.2,by rw [lB];omega,?_,⟨rfl,?_,?_,(show (1:Nat)≤9223372036854775807 by decide),?_,Nat.le_refl _⟩,(show secN [Hg]≤1000000000 by decide),?_,?_,?_,by decide⟩
  ·intro z hz
   unfold plB at hz;rcases List.mem_append.1 hz with hz | hz
   · rcases List.mem_append.1 hz with hz | hz
     ·rcases List.mem_append.1 hz with hz | hz
      ·rw [(List.mem_replicate.1 hz).2];omega
      ·exact YT.o z hz
     ·exact YB.o z hz
   · exact YS.o z hz
  ·intro i x hx
   rcases i with _ | i
   · injection hx with hx
     subst hx;refine ⟨Y,rfl,?_,?_,?_,?_,?_,?_,?_⟩ <;> (rw [Qm bY];rfl)
   · simp at hx
  ·intro x hx
   rw [List.mem_singleton] at hx;subst hx;intro i y hy;rcases i with _ | i
   · injection hy with hy
     subst hy;refine ⟨X,rfl,?_,?_,?_,?_,?_,?_⟩ <;> (rw [Qm bX];rfl)
   · simp [Hg] at hy
  ·intro x hx
   rw [List.mem_singleton] at hx;subst hx;exact (show (1:Nat)≤9223372036854775807 by decide)
  ·refine ⟨⟨?_,?_⟩,?_,?_⟩ <;> simp only [plSt] <;> omega
  ·refine ⟨⟨?_,?_⟩,?_,?_⟩ <;> simp only [plSt] <;> omega
  ·refine ⟨⟨?_,?_⟩,?_,?_⟩ <;> simp only [plSt] <;> omega
 ·refine Qw (Qz G1.o (Qz G5.o G513)) gf ?_
  rw [HGR.o];exact Nat.le_refl _
section
variable {w w1 w2 w':World} {base:Nat} {v v1 v2 v':Value} {xs ys:List Int}
def lowB:Nat→Int→List Int
 | 0,_=>[]
 | k + 1,n=>n % 256 :: lowB k (n / 256)
theorem Bx (k:Nat) (n:Int):(lowB k n).length=k:=by
 induction k generalizing n with
 | zero=>rfl
 | succ k ih=>rw [lowB,List.length_cons,ih]
theorem lowB_snoc (k:Nat) (n:Int):lowB (k + 1) n=lowB k n ++ [n / 256 ^ k % 256]:=by
 induction k generalizing n with
 | zero=>simp [lowB]
 | succ k ih =>
  rw [lowB,ih (n / 256),lowB,List.cons_append,Int.ediv_ediv_of_nonneg (by decide),Int.pow_succ,Int.mul_comm]
end
section
variable {w w1 w2 w':World} {base:Nat} {v v1 v2 v':Value} {xs ys:List Int}
def Rk (x:Sy):Int:=if x.sec=0 then 3 else 15
def Rp (x:Sy):Int:=if x.weak then 128 else 0
def Sx (p:Int) (x:Sy):List Int:=lowB 4 p ++ (lowB 1 (Rk x) ++ (lowB 1 x.sec ++ (lowB 2 (Rp x) ++ lowB 8 x.value)))
theorem entS_len (p:Int) (x:Sy):(Sx p x).length=16:=by simp [Sx,Bx]
end
def mayS (nm:List Int) (x:Sy):Bool:=!decide (nm=[]) && decide (nm.length≤255) && decide ((0:Int) ∉ nm) && decide (0≤x.sec) && decide (x.sec≤255)
theorem refMay10_any {nm:List Int} {x:Sy} (hn:Byt nm) (hl:nm.length≤9223372036854775807) (w:World) :
  Calls Tryz.prog 56 #[syV (strOfNums nm) x] w fun e w'=>e=.returned (.bool (mayS nm x))∧w.grownBy w' none:=by
 have hst:(strOfNums nm).size=nm.length:=strOfNums_size _;have n1:=Wa nm;obtain ⟨r,hr⟩:∃ r,r=mayS nm x:=⟨_,rfl⟩
 rw [← hr];unfold mayS at hr;have g1:=grown1 w (.cells (Yi (strOfNums nm) x) 95);have E3:SyAt (w.alloc (.cells (Yi (strOfNums nm) x) 95)) w.heap.size (strOfNums nm) x:=heap_alloc_new w _;obtain ⟨W1,hW1⟩:∃ W,W=w.alloc (.cells (Yi (strOfNums nm) x) 95):=⟨_,rfl⟩
 obtain ⟨X,hX⟩:∃ X,X=w.heap.size:=⟨_,rfl⟩
 rw [← hW1] at g1 E3;rw [← hX] at E3;obtain ⟨c0,c1,c2,c3⟩:=E3.c;have HE:=Lv E3;have G1:=Lv g1;have HW:=Lv hW1;have HX:=Lv hX;obtain ⟨sec,value,weak⟩:=x;simp only [syV,Yi] at *;by_cases h0:nm=[]
 ·rw [decide_eq_true h0] at n1 hr
  have HR:=Lv hr;clear hr hn E3 g1 h0 hW1 hX;go_enter Tryz.func56,Tryz.ntmps56;go_upto_region 1 with fail;rw [← HW.o,← HX.o];clear HW HX;go_quiet (fail);go_wp2;go_ret
  exact ⟨by rw [HR.o];rfl,Qj G1.o _⟩
 ·rw [decide_eq_false h0] at n1 hr
  by_cases h1:nm.length≤255
  ·have d1:decide ((nm.length:Int)≤255)=true:=by simp;omega
   rw [decide_eq_true h1] at hr;have CV:=Lib.run_convert_string_bytes (P:=Tryz.prog) W1.drew 9 29 5 (strOfNums nm) Tryz.underlying9 Tryz.underlying29 Tryz.underlying5;have gb:=turned_grown W1.drew 5 (strOfNums nm);have NM:=Gm W1.drew.heap.size 0 _ _ nm (bytes_there W1.drew 5 hn _) rfl (show nm.length≤140737488355328 by omega) (grownCap_ge W1.drew nm.length 0 5);rw [hst] at CV;rw [show W1.drew.heap.size=W1.heap.size from rfl] at NM CV
   have HN:((strOfNums (pre nm)).toList == (strOfNums nm).toList)=decide ((0:Int) ∉ nm):=by rw [Gg (Md hn) hn,Rs]
   obtain ⟨W2,hW2⟩:∃ W,W=Lib.bytesWorld W1.drew 5 (strOfNums nm):=⟨_,rfl⟩
   rw [← hW2] at CV gb NM;obtain ⟨cp,hcp⟩:∃ c,c=grownCap W1.drew nm.length 0 5:=⟨_,rfl⟩
   rw [← hcp] at CV NM;obtain ⟨tx,htx⟩:∃ t,t=strOfNums (pre nm):=⟨_,rfl⟩
   rw [← htx] at NM HN;have E2:=(E3.kept (Qj (Qq W1 none) 1) (by simp)).kept gb (by simp);obtain ⟨e0,e1,e2,e3⟩:=E2.c;have E2':=E2;have NMH:=Lv NM;have G2:=Lv (Qz (Qz G1.o (Qj (Qq W1 none) 1)) gb);simp only [] at e0 e1;obtain ⟨P,hP⟩:∃ P,P=decide ((0:Int) ∉ nm):=⟨_,rfl⟩
   rw [← hP] at HN hr;have HR:=Lv hr;clear hr hn E3 g1 h0 h1 hW1 hX NM E2 hW2 hcp htx hP gb;have H2:=Lv E2';clear E2';clear c0 c1 c2 c3 e0 e1 e2 e3;go_enter Tryz.func56,Tryz.ntmps56;go_upto_region 1 with fail;rw [← HW.o,← HX.o];clear HW HX;refine wp_region_held_drew (S:=fun W=>SyAt W X (strOfNums nm) ⟨sec,value,weak⟩) (by kernel_rfl) HE.o (fun hS=>?_);refine tkY (i:=0) (oi:=⟨some 3,_,_,_,_,_⟩) (v:=Value.pointer (some ⟨X,0,none⟩)) rfl (by kernel_rfl) (fun _ _ _ h=>h) (by rfl) (fun W hW=>?_) hS ?_
   ·obtain ⟨c0,c1,c2,c3⟩:=hW.c
    go_simp
   try simp only [Act.put,List.setIfInBounds_toArray,List.set_cons_zero,List.set_cons_succ]
   refine tkY (i:=1) (oi:=⟨some 4,_,_,_,_,_⟩) (v:=.string (strOfNums nm)) rfl (by kernel_rfl) (fun _ _ _ h=>h) (by rfl) (fun W hW=>?_) hS ?_
   ·obtain ⟨c0,c1,c2,c3⟩:=hW.c
    go_simp
   try simp only [Act.put,List.setIfInBounds_toArray,List.set_cons_zero,List.set_cons_succ]
   refine tkY (i:=2) (oi:=⟨some 5,_,_,_,_,_⟩) (v:=.bool true) rfl (by kernel_rfl) (fun _ _ _ h=>h) (by rfl) (fun W hW=>?_) hS ?_
   ·obtain ⟨c0,c1,c2,c3⟩:=hW.c
    go_simp
   try simp only [Act.put,List.setIfInBounds_toArray,List.set_cons_zero,List.set_cons_succ]
   refine tkY (i:=3) (oi:=⟨some 6,_,_,_,_,_⟩) (v:=.bool true) rfl (by kernel_rfl) (fun _ _ _ h=>h) (by rfl) (fun W hW=>?_) hS ?_
   ·obtain ⟨c0,c1,c2,c3⟩:=hW.c
    go_simp
   try simp only [Act.put,List.setIfInBounds_toArray,List.set_cons_zero,List.set_cons_succ]
   refine tkY (i:=4) (oi:=⟨some 7,_,_,_,_,_⟩) (v:=Value.pointer (some ⟨X,0,none⟩)) rfl (by kernel_rfl) (fun _ _ _ h=>h) (by rfl) (fun W hW=>?_) hS ?_
   ·obtain ⟨c0,c1,c2,c3⟩:=hW.c
    go_simp
   try simp only [Act.put,List.setIfInBounds_toArray,List.set_cons_zero,List.set_cons_succ]
   refine tkY (i:=5) (oi:=⟨some 8,_,_,_,_,_⟩) (v:=.string (strOfNums nm)) rfl (by kernel_rfl) (fun _ _ _ h=>h) (by rfl) (fun W hW=>?_) hS ?_
   ·obtain ⟨c0,c1,c2,c3⟩:=hW.c
    go_simp
   try simp only [Act.put,List.setIfInBounds_toArray,List.set_cons_zero,List.set_cons_succ]
   refine tkY (i:=6) (oi:=⟨some 9,_,_,_,_,_⟩) (v:=.int .i64 (nm.length:Int)) rfl (by kernel_rfl) (fun _ _ _ h=>h) (by rfl) (fun W hW=>?_) hS ?_
   ·obtain ⟨c0,c1,c2,c3⟩:=hW.c
    go_simp
   try simp only [Act.put,List.setIfInBounds_toArray,List.set_cons_zero,List.set_cons_succ]
   refine tkY (i:=7) (oi:=⟨some 10,_,_,_,_,_⟩) (v:=.bool true) rfl (by kernel_rfl) (fun _ _ _ h=>h) (by rfl) (fun W hW=>?_) hS ?_
   ·obtain ⟨c0,c1,c2,c3⟩:=hW.c
    go_simp
   try simp only [Act.put,List.setIfInBounds_toArray,List.set_cons_zero,List.set_cons_succ]
   refine tkY (i:=8) (oi:=⟨some 11,_,_,_,_,_⟩) (v:=.bool true) rfl (by kernel_rfl) (fun _ _ _ h=>h) (by rfl) (fun W hW=>?_) hS ?_
   ·obtain ⟨c0,c1,c2,c3⟩:=hW.c
    go_simp
   try simp only [Act.put,List.setIfInBounds_toArray,List.set_cons_zero,List.set_cons_succ]
   refine tkY (i:=9) (oi:=⟨some 12,_,_,_,_,_⟩) (v:=.bool true) rfl (by kernel_rfl) (fun _ _ _ h=>h) (by rfl) (fun W hW=>?_) hS ?_
   ·obtain ⟨c0,c1,c2,c3⟩:=hW.c
    go_simp
   try simp only [Act.put,List.setIfInBounds_toArray,List.set_cons_zero,List.set_cons_succ]
   refine tkY (i:=10) (oi:=⟨some 13,_,_,_,_,_⟩) (v:=Value.pointer (some ⟨X,0,none⟩)) rfl (by kernel_rfl) (fun _ _ _ h=>h) (by rfl) (fun W hW=>?_) hS ?_
   ·obtain ⟨c0,c1,c2,c3⟩:=hW.c
    go_simp
   try simp only [Act.put,List.setIfInBounds_toArray,List.set_cons_zero,List.set_cons_succ]
   refine tkY (i:=11) (oi:=⟨some 14,_,_,_,_,_⟩) (v:=.string (strOfNums nm)) rfl (by kernel_rfl) (fun _ _ _ h=>h) (by rfl) (fun W hW=>?_) hS ?_
   ·obtain ⟨c0,c1,c2,c3⟩:=hW.c
    go_simp
   try simp only [Act.put,List.setIfInBounds_toArray,List.set_cons_zero,List.set_cons_succ]
   refine tkY (i:=14) (oi:=⟨some 17,_,_,_,_,_⟩) (v:=Value.pointer (some ⟨X,0,none⟩)) rfl (by kernel_rfl) (fun _ _ _ h=>h) (by rfl) (fun W hW=>?_) hS ?_
   ·obtain ⟨c0,c1,c2,c3⟩:=hW.c
    go_simp
   try simp only [Act.put,List.setIfInBounds_toArray,List.set_cons_zero,List.set_cons_succ]
   refine tkY (i:=15) (oi:=⟨some 18,_,_,_,_,_⟩) (v:=.string (strOfNums nm)) rfl (by kernel_rfl) (fun _ _ _ h=>h) (by rfl) (fun W hW=>?_) hS ?_
   ·obtain ⟨c0,c1,c2,c3⟩:=hW.c
    go_simp
   try simp only [Act.put,List.setIfInBounds_toArray,List.set_cons_zero,List.set_cons_succ]
   refine wpAnyH_ready (rs:=[12]) (by kernel_rfl) (by simp) ?_
   refine AllReadyH.cons (o:=⟨some 15,_,_,_,_,_⟩) rfl (fun K' hK'=>?_) AllReadyH.nil;go_simp;refine hK'.out _ _ H2.o (fun hS=>?_);clear hK' K'
   try simp only [Act.put,List.setIfInBounds_toArray,List.set_cons_zero,List.set_cons_succ]
   refine wpAnyH_ready (rs:=[13]) (by kernel_rfl) (by simp) ?_
   refine AllReadyH.cons (o:=⟨some 16,_,_,_,_,_⟩) rfl (fun K' hK'=>?_) AllReadyH.nil;go_simp;go_at_call 90
   refine NMH.o.mono ?_
   rintro e w' ⟨rfl,rfl⟩;refine hK'.out _ _ H2.o (fun hS=>?_);clear hK' K'
   try simp only [Act.put,List.setIfInBounds_toArray,List.set_cons_zero,List.set_cons_succ]
   cases P
   ·skip
    try simp only [Act.put,List.setIfInBounds_toArray,List.set_cons_zero,List.set_cons_succ]
    refine tkY (i:=16) (oi:=⟨some 19,_,_,_,_,_⟩) (v:=.bool false) rfl (by kernel_rfl) (fun _ _ _ h=>h) (by rfl) (fun W hW=>?_) hS ?_
    ·obtain ⟨c0,c1,c2,c3⟩:=hW.c
     go_simp
    try simp only [Act.put,List.setIfInBounds_toArray,List.set_cons_zero,List.set_cons_succ]
    refine tkY (i:=17) (oi:=⟨some 20,_,_,_,_,_⟩) (v:=.bool false) rfl (by kernel_rfl) (fun _ _ _ h=>h) (by rfl) (fun W hW=>?_) hS ?_
    ·obtain ⟨c0,c1,c2,c3⟩:=hW.c
     go_simp
    try simp only [Act.put,List.setIfInBounds_toArray,List.set_cons_zero,List.set_cons_succ]
    refine tkY (i:=18) (oi:=⟨some 21,_,_,_,_,_⟩) (v:=.bool false) rfl (by kernel_rfl) (fun _ _ _ h=>h) (by rfl) (fun W hW=>?_) hS ?_
    ·obtain ⟨c0,c1,c2,c3⟩:=hW.c
     go_simp
    try simp only [Act.put,List.setIfInBounds_toArray,List.set_cons_zero,List.set_cons_succ]
    refine tkN (i:=19) (oi:=⟨some 22,_,_,_,_,_⟩) rfl (by kernel_rfl) (fun _ _ _ h=>h) (by rfl) hS ?_
    try simp only [Act.put,List.setIfInBounds_toArray,List.set_cons_zero,List.set_cons_succ]
    refine tkN (i:=20) (oi:=⟨some 23,_,_,_,_,_⟩) rfl (by kernel_rfl) (fun _ _ _ h=>h) (by rfl) hS ?_
    try simp only [Act.put,List.setIfInBounds_toArray,List.set_cons_zero,List.set_cons_succ]
    refine tkN (i:=21) (oi:=⟨some 24,_,_,_,_,_⟩) rfl (by kernel_rfl) (fun _ _ _ h=>h) (by rfl) hS ?_
    try simp only [Act.put,List.setIfInBounds_toArray,List.set_cons_zero,List.set_cons_succ]
    refine tkY (i:=22) (oi:=⟨some 25,_,_,_,_,_⟩) (v:=.bool false) rfl (by kernel_rfl) (fun _ _ _ h=>h) (by rfl) (fun W hW=>?_) hS ?_
    ·obtain ⟨c0,c1,c2,c3⟩:=hW.c
     go_simp
    try simp only [Act.put,List.setIfInBounds_toArray,List.set_cons_zero,List.set_cons_succ]
    refine tkY (i:=23) (oi:=⟨some 26,_,_,_,_,_⟩) (v:=.bool false) rfl (by kernel_rfl) (fun _ _ _ h=>h) (by rfl) (fun W hW=>?_) hS ?_
    ·obtain ⟨c0,c1,c2,c3⟩:=hW.c
     go_simp
    try simp only [Act.put,List.setIfInBounds_toArray,List.set_cons_zero,List.set_cons_succ]
    refine tkN (i:=24) (oi:=⟨some 27,_,_,_,_,_⟩) rfl (by kernel_rfl) (fun _ _ _ h=>h) (by rfl) hS ?_
    try simp only [Act.put,List.setIfInBounds_toArray,List.set_cons_zero,List.set_cons_succ]
    refine tkN (i:=25) (oi:=⟨some 28,_,_,_,_,_⟩) rfl (by kernel_rfl) (fun _ _ _ h=>h) (by rfl) hS ?_
    try simp only [Act.put,List.setIfInBounds_toArray,List.set_cons_zero,List.set_cons_succ]
    refine tkN (i:=26) (oi:=⟨some 29,_,_,_,_,_⟩) rfl (by kernel_rfl) (fun _ _ _ h=>h) (by rfl) hS ?_
    try simp only [Act.put,List.setIfInBounds_toArray,List.set_cons_zero,List.set_cons_succ]
    refine tkY (i:=27) (oi:=⟨some 30,_,_,_,_,_⟩) (v:=.bool false) rfl (by kernel_rfl) (fun _ _ _ h=>h) (by rfl) (fun W hW=>?_) hS ?_
    ·obtain ⟨c0,c1,c2,c3⟩:=hW.c
     go_simp
    try simp only [Act.put,List.setIfInBounds_toArray,List.set_cons_zero,List.set_cons_succ]
    refine tkY (i:=28) (oi:=⟨some 2,_,_,_,_,_⟩) (v:=.bool false) rfl (by kernel_rfl) (fun _ _ _ h=>h) (by rfl) (fun W hW=>?_) hS ?_
    ·obtain ⟨c0,c1,c2,c3⟩:=hW.c
     go_simp
    try simp only [Act.put,List.setIfInBounds_toArray,List.set_cons_zero,List.set_cons_succ]
    refine wpAnyH_done (by kernel_rfl) ?_ _
    go_wp2;go_ret
    exact ⟨by rw [HR.o];rfl,G2.o⟩
   ·by_cases hs0 : 0≤sec
    ·have ds0:decide (0≤sec)=true:=decide_eq_true hs0
     rw [ds0] at HR;by_cases hs1:sec≤255
     ·have ds1:decide (sec≤255)=true:=decide_eq_true hs1
      rw [ds1] at HR;refine tkY (i:=16) (oi:=⟨some 19,_,_,_,_,_⟩) (v:=.bool true) rfl (by kernel_rfl) (fun _ _ _ h=>h) (by rfl) (fun W hW=>?_) hS ?_
      ·obtain ⟨c0,c1,c2,c3⟩:=hW.c
       go_simp
      try simp only [Act.put,List.setIfInBounds_toArray,List.set_cons_zero,List.set_cons_succ]
      refine tkY (i:=17) (oi:=⟨some 20,_,_,_,_,_⟩) (v:=.bool true) rfl (by kernel_rfl) (fun _ _ _ h=>h) (by rfl) (fun W hW=>?_) hS ?_
      ·obtain ⟨c0,c1,c2,c3⟩:=hW.c
       go_simp
      try simp only [Act.put,List.setIfInBounds_toArray,List.set_cons_zero,List.set_cons_succ]
      refine tkY (i:=18) (oi:=⟨some 21,_,_,_,_,_⟩) (v:=.bool true) rfl (by kernel_rfl) (fun _ _ _ h=>h) (by rfl) (fun W hW=>?_) hS ?_
      ·obtain ⟨c0,c1,c2,c3⟩:=hW.c
       go_simp
      try simp only [Act.put,List.setIfInBounds_toArray,List.set_cons_zero,List.set_cons_succ]
      refine tkY (i:=19) (oi:=⟨some 22,_,_,_,_,_⟩) (v:=Value.pointer (some ⟨X,1,none⟩)) rfl (by kernel_rfl) (fun _ _ _ h=>h) (by rfl) (fun W hW=>?_) hS ?_
      ·obtain ⟨c0,c1,c2,c3⟩:=hW.c
       go_simp
      try simp only [Act.put,List.setIfInBounds_toArray,List.set_cons_zero,List.set_cons_succ]
      refine tkY (i:=20) (oi:=⟨some 23,_,_,_,_,_⟩) (v:=.int .i64 sec) rfl (by kernel_rfl) (fun _ _ _ h=>h) (by rfl) (fun W hW=>?_) hS ?_
      ·obtain ⟨c0,c1,c2,c3⟩:=hW.c
       go_simp
      try simp only [Act.put,List.setIfInBounds_toArray,List.set_cons_zero,List.set_cons_succ]
      refine tkY (i:=21) (oi:=⟨some 24,_,_,_,_,_⟩) (v:=.bool true) rfl (by kernel_rfl) (fun _ _ _ h=>h) (by rfl) (fun W hW=>?_) hS ?_
      ·obtain ⟨c0,c1,c2,c3⟩:=hW.c
       go_simp
      try simp only [Act.put,List.setIfInBounds_toArray,List.set_cons_zero,List.set_cons_succ]
      refine tkY (i:=22) (oi:=⟨some 25,_,_,_,_,_⟩) (v:=.bool true) rfl (by kernel_rfl) (fun _ _ _ h=>h) (by rfl) (fun W hW=>?_) hS ?_
      ·obtain ⟨c0,c1,c2,c3⟩:=hW.c
       go_simp
      try simp only [Act.put,List.setIfInBounds_toArray,List.set_cons_zero,List.set_cons_succ]
      refine tkY (i:=23) (oi:=⟨some 26,_,_,_,_,_⟩) (v:=.bool true) rfl (by kernel_rfl) (fun _ _ _ h=>h) (by rfl) (fun W hW=>?_) hS ?_
      ·obtain ⟨c0,c1,c2,c3⟩:=hW.c
       go_simp
      try simp only [Act.put,List.setIfInBounds_toArray,List.set_cons_zero,List.set_cons_succ]
      refine tkY (i:=24) (oi:=⟨some 27,_,_,_,_,_⟩) (v:=Value.pointer (some ⟨X,1,none⟩)) rfl (by kernel_rfl) (fun _ _ _ h=>h) (by rfl) (fun W hW=>?_) hS ?_
      ·obtain ⟨c0,c1,c2,c3⟩:=hW.c
       go_simp
      try simp only [Act.put,List.setIfInBounds_toArray,List.set_cons_zero,List.set_cons_succ]
      refine tkY (i:=25) (oi:=⟨some 28,_,_,_,_,_⟩) (v:=.int .i64 sec) rfl (by kernel_rfl) (fun _ _ _ h=>h) (by rfl) (fun W hW=>?_) hS ?_
      ·obtain ⟨c0,c1,c2,c3⟩:=hW.c
       go_simp
      try simp only [Act.put,List.setIfInBounds_toArray,List.set_cons_zero,List.set_cons_succ]
      refine tkY (i:=26) (oi:=⟨some 29,_,_,_,_,_⟩) (v:=.bool true) rfl (by kernel_rfl) (fun _ _ _ h=>h) (by rfl) (fun W hW=>?_) hS ?_
      ·obtain ⟨c0,c1,c2,c3⟩:=hW.c
       go_simp
      try simp only [Act.put,List.setIfInBounds_toArray,List.set_cons_zero,List.set_cons_succ]
      refine tkY (i:=27) (oi:=⟨some 30,_,_,_,_,_⟩) (v:=.bool true) rfl (by kernel_rfl) (fun _ _ _ h=>h) (by rfl) (fun W hW=>?_) hS ?_
      ·obtain ⟨c0,c1,c2,c3⟩:=hW.c
       go_simp
      try simp only [Act.put,List.setIfInBounds_toArray,List.set_cons_zero,List.set_cons_succ]
      refine tkY (i:=28) (oi:=⟨some 2,_,_,_,_,_⟩) (v:=.bool true) rfl (by kernel_rfl) (fun _ _ _ h=>h) (by rfl) (fun W hW=>?_) hS ?_
      ·obtain ⟨c0,c1,c2,c3⟩:=hW.c
       go_simp
      try simp only [Act.put,List.setIfInBounds_toArray,List.set_cons_zero,List.set_cons_succ]
      refine wpAnyH_done (by kernel_rfl) ?_ _
      go_wp2;go_ret
      exact ⟨by rw [HR.o];rfl,G2.o⟩
     ·have ds1:decide (sec≤255)=false:=decide_eq_false hs1
      rw [ds1] at HR;refine tkY (i:=16) (oi:=⟨some 19,_,_,_,_,_⟩) (v:=.bool true) rfl (by kernel_rfl) (fun _ _ _ h=>h) (by rfl) (fun W hW=>?_) hS ?_
      ·obtain ⟨c0,c1,c2,c3⟩:=hW.c
       go_simp
      try simp only [Act.put,List.setIfInBounds_toArray,List.set_cons_zero,List.set_cons_succ]
      refine tkY (i:=17) (oi:=⟨some 20,_,_,_,_,_⟩) (v:=.bool true) rfl (by kernel_rfl) (fun _ _ _ h=>h) (by rfl) (fun W hW=>?_) hS ?_
      ·obtain ⟨c0,c1,c2,c3⟩:=hW.c
       go_simp
      try simp only [Act.put,List.setIfInBounds_toArray,List.set_cons_zero,List.set_cons_succ]
      refine tkY (i:=18) (oi:=⟨some 21,_,_,_,_,_⟩) (v:=.bool true) rfl (by kernel_rfl) (fun _ _ _ h=>h) (by rfl) (fun W hW=>?_) hS ?_
      ·obtain ⟨c0,c1,c2,c3⟩:=hW.c
       go_simp
      try simp only [Act.put,List.setIfInBounds_toArray,List.set_cons_zero,List.set_cons_succ]
      refine tkY (i:=19) (oi:=⟨some 22,_,_,_,_,_⟩) (v:=Value.pointer (some ⟨X,1,none⟩)) rfl (by kernel_rfl) (fun _ _ _ h=>h) (by rfl) (fun W hW=>?_) hS ?_
      ·obtain ⟨c0,c1,c2,c3⟩:=hW.c
       go_simp
      try simp only [Act.put,List.setIfInBounds_toArray,List.set_cons_zero,List.set_cons_succ]
      refine tkY (i:=20) (oi:=⟨some 23,_,_,_,_,_⟩) (v:=.int .i64 sec) rfl (by kernel_rfl) (fun _ _ _ h=>h) (by rfl) (fun W hW=>?_) hS ?_
      ·obtain ⟨c0,c1,c2,c3⟩:=hW.c
       go_simp
      try simp only [Act.put,List.setIfInBounds_toArray,List.set_cons_zero,List.set_cons_succ]
      refine tkY (i:=21) (oi:=⟨some 24,_,_,_,_,_⟩) (v:=.bool true) rfl (by kernel_rfl) (fun _ _ _ h=>h) (by rfl) (fun W hW=>?_) hS ?_
      ·obtain ⟨c0,c1,c2,c3⟩:=hW.c
       go_simp
      try simp only [Act.put,List.setIfInBounds_toArray,List.set_cons_zero,List.set_cons_succ]
      refine tkY (i:=22) (oi:=⟨some 25,_,_,_,_,_⟩) (v:=.bool true) rfl (by kernel_rfl) (fun _ _ _ h=>h) (by rfl) (fun W hW=>?_) hS ?_
      ·obtain ⟨c0,c1,c2,c3⟩:=hW.c
       go_simp
      try simp only [Act.put,List.setIfInBounds_toArray,List.set_cons_zero,List.set_cons_succ]
      refine tkY (i:=23) (oi:=⟨some 26,_,_,_,_,_⟩) (v:=.bool true) rfl (by kernel_rfl) (fun _ _ _ h=>h) (by rfl) (fun W hW=>?_) hS ?_
      ·obtain ⟨c0,c1,c2,c3⟩:=hW.c
       go_simp
      try simp only [Act.put,List.setIfInBounds_toArray,List.set_cons_zero,List.set_cons_succ]
      refine tkY (i:=24) (oi:=⟨some 27,_,_,_,_,_⟩) (v:=Value.pointer (some ⟨X,1,none⟩)) rfl (by kernel_rfl) (fun _ _ _ h=>h) (by rfl) (fun W hW=>?_) hS ?_
      ·obtain ⟨c0,c1,c2,c3⟩:=hW.c
       go_simp
      try simp only [Act.put,List.setIfInBounds_toArray,List.set_cons_zero,List.set_cons_succ]
      refine tkY (i:=25) (oi:=⟨some 28,_,_,_,_,_⟩) (v:=.int .i64 sec) rfl (by kernel_rfl) (fun _ _ _ h=>h) (by rfl) (fun W hW=>?_) hS ?_
      ·obtain ⟨c0,c1,c2,c3⟩:=hW.c
       go_simp
      try simp only [Act.put,List.setIfInBounds_toArray,List.set_cons_zero,List.set_cons_succ]
      refine tkY (i:=26) (oi:=⟨some 29,_,_,_,_,_⟩) (v:=.bool false) rfl (by kernel_rfl) (fun _ _ _ h=>h) (by rfl) (fun W hW=>?_) hS ?_
      ·obtain ⟨c0,c1,c2,c3⟩:=hW.c
       go_simp
      try simp only [Act.put,List.setIfInBounds_toArray,List.set_cons_zero,List.set_cons_succ]
      refine tkY (i:=27) (oi:=⟨some 30,_,_,_,_,_⟩) (v:=.bool false) rfl (by kernel_rfl) (fun _ _ _ h=>h) (by rfl) (fun W hW=>?_) hS ?_
      ·obtain ⟨c0,c1,c2,c3⟩:=hW.c
       go_simp
      try simp only [Act.put,List.setIfInBounds_toArray,List.set_cons_zero,List.set_cons_succ]
      refine tkY (i:=28) (oi:=⟨some 2,_,_,_,_,_⟩) (v:=.bool false) rfl (by kernel_rfl) (fun _ _ _ h=>h) (by rfl) (fun W hW=>?_) hS ?_
      ·obtain ⟨c0,c1,c2,c3⟩:=hW.c
       go_simp
      try simp only [Act.put,List.setIfInBounds_toArray,List.set_cons_zero,List.set_cons_succ]
      refine wpAnyH_done (by kernel_rfl) ?_ _
      go_wp2;go_ret
      exact ⟨by rw [HR.o];rfl,G2.o⟩
    ·have ds0:decide (0≤sec)=false:=decide_eq_false hs0
     rw [ds0] at HR;refine tkY (i:=16) (oi:=⟨some 19,_,_,_,_,_⟩) (v:=.bool true) rfl (by kernel_rfl) (fun _ _ _ h=>h) (by rfl) (fun W hW=>?_) hS ?_
     ·obtain ⟨c0,c1,c2,c3⟩:=hW.c
      go_simp
     try simp only [Act.put,List.setIfInBounds_toArray,List.set_cons_zero,List.set_cons_succ]
     refine tkY (i:=17) (oi:=⟨some 20,_,_,_,_,_⟩) (v:=.bool true) rfl (by kernel_rfl) (fun _ _ _ h=>h) (by rfl) (fun W hW=>?_) hS ?_
     ·obtain ⟨c0,c1,c2,c3⟩:=hW.c
      go_simp
     try simp only [Act.put,List.setIfInBounds_toArray,List.set_cons_zero,List.set_cons_succ]
     refine tkY (i:=18) (oi:=⟨some 21,_,_,_,_,_⟩) (v:=.bool true) rfl (by kernel_rfl) (fun _ _ _ h=>h) (by rfl) (fun W hW=>?_) hS ?_
     ·obtain ⟨c0,c1,c2,c3⟩:=hW.c
      go_simp
     try simp only [Act.put,List.setIfInBounds_toArray,List.set_cons_zero,List.set_cons_succ]
     refine tkY (i:=19) (oi:=⟨some 22,_,_,_,_,_⟩) (v:=Value.pointer (some ⟨X,1,none⟩)) rfl (by kernel_rfl) (fun _ _ _ h=>h) (by rfl) (fun W hW=>?_) hS ?_
     ·obtain ⟨c0,c1,c2,c3⟩:=hW.c
      go_simp
     try simp only [Act.put,List.setIfInBounds_toArray,List.set_cons_zero,List.set_cons_succ]
     refine tkY (i:=20) (oi:=⟨some 23,_,_,_,_,_⟩) (v:=.int .i64 sec) rfl (by kernel_rfl) (fun _ _ _ h=>h) (by rfl) (fun W hW=>?_) hS ?_
     ·obtain ⟨c0,c1,c2,c3⟩:=hW.c
      go_simp
     try simp only [Act.put,List.setIfInBounds_toArray,List.set_cons_zero,List.set_cons_succ]
     refine tkY (i:=21) (oi:=⟨some 24,_,_,_,_,_⟩) (v:=.bool false) rfl (by kernel_rfl) (fun _ _ _ h=>h) (by rfl) (fun W hW=>?_) hS ?_
     ·obtain ⟨c0,c1,c2,c3⟩:=hW.c
      go_simp
     try simp only [Act.put,List.setIfInBounds_toArray,List.set_cons_zero,List.set_cons_succ]
     refine tkY (i:=22) (oi:=⟨some 25,_,_,_,_,_⟩) (v:=.bool false) rfl (by kernel_rfl) (fun _ _ _ h=>h) (by rfl) (fun W hW=>?_) hS ?_
     ·obtain ⟨c0,c1,c2,c3⟩:=hW.c
      go_simp
     try simp only [Act.put,List.setIfInBounds_toArray,List.set_cons_zero,List.set_cons_succ]
     refine tkY (i:=23) (oi:=⟨some 26,_,_,_,_,_⟩) (v:=.bool false) rfl (by kernel_rfl) (fun _ _ _ h=>h) (by rfl) (fun W hW=>?_) hS ?_
     ·obtain ⟨c0,c1,c2,c3⟩:=hW.c
      go_simp
     try simp only [Act.put,List.setIfInBounds_toArray,List.set_cons_zero,List.set_cons_succ]
     refine tkN (i:=24) (oi:=⟨some 27,_,_,_,_,_⟩) rfl (by kernel_rfl) (fun _ _ _ h=>h) (by rfl) hS ?_
     try simp only [Act.put,List.setIfInBounds_toArray,List.set_cons_zero,List.set_cons_succ]
     refine tkN (i:=25) (oi:=⟨some 28,_,_,_,_,_⟩) rfl (by kernel_rfl) (fun _ _ _ h=>h) (by rfl) hS ?_
     try simp only [Act.put,List.setIfInBounds_toArray,List.set_cons_zero,List.set_cons_succ]
     refine tkN (i:=26) (oi:=⟨some 29,_,_,_,_,_⟩) rfl (by kernel_rfl) (fun _ _ _ h=>h) (by rfl) hS ?_
     try simp only [Act.put,List.setIfInBounds_toArray,List.set_cons_zero,List.set_cons_succ]
     refine tkY (i:=27) (oi:=⟨some 30,_,_,_,_,_⟩) (v:=.bool false) rfl (by kernel_rfl) (fun _ _ _ h=>h) (by rfl) (fun W hW=>?_) hS ?_
     ·obtain ⟨c0,c1,c2,c3⟩:=hW.c
      go_simp
     try simp only [Act.put,List.setIfInBounds_toArray,List.set_cons_zero,List.set_cons_succ]
     refine tkY (i:=28) (oi:=⟨some 2,_,_,_,_,_⟩) (v:=.bool false) rfl (by kernel_rfl) (fun _ _ _ h=>h) (by rfl) (fun W hW=>?_) hS ?_
     ·obtain ⟨c0,c1,c2,c3⟩:=hW.c
      go_simp
     try simp only [Act.put,List.setIfInBounds_toArray,List.set_cons_zero,List.set_cons_succ]
     refine wpAnyH_done (by kernel_rfl) ?_ _
     go_wp2;go_ret
     exact ⟨by rw [HR.o];rfl,G2.o⟩
  ·have d1:decide ((nm.length:Int)≤255)=false:=by simp;omega
   rw [decide_eq_false h1] at hr;have HR:=Lv hr;clear hr hn E3 g1 h0 h1 hW1 hX;go_enter Tryz.func56,Tryz.ntmps56;go_upto_region 1 with fail;rw [← HW.o,← HX.o];clear HW HX;go_quiet (fail);go_wp2;go_ret
   exact ⟨by rw [HR.o];rfl,Qj G1.o _⟩
def nmB (l:Syms):List Int:=0 :: l.flatMap fun y=>y.1 ++ [0]
def tabS (l:Syms):Nat→List Int
 | 0=>[]
 | k + 1=>tabS l k ++ Sx ((nmB (l.take k)).length:Int) (l.getD k ([],Sy.zero)).2
theorem tabS_len (l:Syms) (k:Nat):(tabS l k).length=16 * k:=by
 induction k with
 | zero=>rfl
 | succ k ih=>rw [tabS,List.length_append,ih,entS_len];omega
theorem nmB_take {l:Syms} {k:Nat} {y:Sym} (h:l[k]?=some y):nmB (l.take (k + 1))=nmB (l.take k) ++ (y.1 ++ [0]):=by
 obtain ⟨hk,rfl⟩:=List.getElem?_eq_some_iff.1 h;unfold nmB;rw [List.take_succ_eq_append_getElem hk,List.flatMap_append,List.flatMap_singleton,List.cons_append]
theorem tabS_take {l:Syms} {k:Nat} {y:Sym} (h:l[k]?=some y):tabS l (k + 1)=tabS l k ++ Sx ((nmB (l.take k)).length:Int) y.2:=by
 rw [tabS,List.getD_eq_getElem?_getD,h];rfl
theorem nmB_len_le {l:Syms} (h:∀ y∈l,y.1.length≤255):(nmB l).length≤1 + 256 * l.length:=by
 induction l with
 | nil=>simp [nmB]
 | cons y l ih =>
  have h1:=h y (List.mem_cons_self ..);have h2:=ih (fun z hz=>h z (List.mem_cons_of_mem _ hz));unfold nmB at h2 ⊢;rw [List.flatMap_cons];simp only [List.length_cons,List.length_append,List.length_nil] at h2 ⊢;omega
theorem Sb {nm:List Int} {x:Sy} (h:mayS nm x=true):nm≠[]∧nm.length≤255∧(0:Int) ∉ nm∧0≤x.sec∧x.sec≤255:=by
 unfold mayS at h;simp only [Bool.and_eq_true,Bool.not_eq_true',decide_eq_false_iff_not,decide_eq_true_eq] at h;exact ⟨h.1.1.1.1,h.1.1.1.2,h.1.1.2,h.1.2,h.2⟩
section
open Go.RowKit Go.Maps
variable {w w':World} {D:Syms}
def twB (D:Syms):Bool:=!decide ((D.map Prod.fst).Nodup)
theorem twB_no {D:Syms} (h:twB D=false):D.Pairwise fun a b=>a.1≠b.1:=by
 unfold twB at h;rw [Bool.not_eq_false',decide_eq_true_eq] at h;exact List.pairwise_map.1 h
theorem twB_yes {D:Syms} (h:twB D=true):¬ D.Pairwise fun a b=>a.1≠b.1:=by
 unfold twB at h;rw [Bool.not_eq_true',decide_eq_false_iff_not] at h;exact fun k=>h (List.pairwise_map.2 k)
end
section
variable {w w' W V:World} {D:Syms}
def Sd (D:Syms):Bool:=D.all fun y=>mayS y.1 y.2
def Bo (D:Syms):Int :=
 if Sd D=false then 2 else if 4096 < D.length∨1048576 < (nmB D).length then 11 else if twB D=true then 21 else 0
def mkT (D:Syms):List Int:=if Bo D=0 then tabS D D.length else []
def mkN (D:Syms):List Int:=if Bo D=0 then nmB D else []
structure MkO (w w':World) (D:Syms) (r:Ending):Prop where
 ex:∃ qa ca qb cb,r=.returned (.tuple #[.slice qa (mkT D).length ca,.slice qb (mkN D).length cb,.int .i64 (Bo D)])∧Qk w' qa ca (mkT D)∧Qk w' qb cb (mkN D)∧(mkT D).length≤ca∧ca≤9223372036854775807∧(mkN D).length≤cb∧cb≤9223372036854775807
 grown:w.grownBy w' none
theorem MkO.no (hg:w.grownBy w' none) {E:Int} (hE:Bo D=E) (h0:E≠0):MkO w w' D (.returned (.tuple #[.slice none 0 0,.slice none 0 0,.int .i64 E])):=by
 have hT:mkT D=[]:=by unfold mkT;rw [if_neg (by rw [hE];exact h0)]
 have hN:mkN D=[]:=by unfold mkN;rw [if_neg (by rw [hE];exact h0)]
 refine ⟨⟨none,0,none,0,?_,?_,?_,?_⟩,hg⟩
 ·rw [hT,hN,hE];rfl
 ·rw [hT];exact Qk.nil
 ·rw [hN];exact Qk.nil
 ·rw [hT,hN];simp
end
theorem low_at (N:Int) (k:Nat):N / 256 ^ k / 256=N / 256 ^ (k + 1):=by
 rw [Int.ediv_ediv_of_nonneg (Int.pow_nonneg (by decide)),Int.pow_succ]
theorem Mc (N:Int) (h0 : 0≤N) (h1:N < 18446744073709551616) (size:Nat) (hs:size≤8) (w:World) :
  Calls Tryz.prog 91 #[.int .u64 N,.int .i64 size] w fun e w'=>NOut w w' (lowB size N) e:=by
 go_enter Tryz.func91,Tryz.ntmps91;go_wp2;go_loopw [0,5,6] (fun vn vb vi wr=>∃ (k:Nat) (q':Option Addr) (c':Nat),k≤size∧vi=.int .i64 (k:Int)∧vn=.int .u64 (N / 256 ^ k)∧vb=.slice q' k c'∧Xm w wr w.heap.size (.slice none 0 0) (.slice q' k c') (lowB k N)) (fun _ _ vi _=>size - (intOf vi).toNat)
 case atStart=>exact ⟨0,none,0,Nat.zero_le _,rfl,by simp,rfl,Xm.refl (World.ownsRow_nil _ _ _ _)⟩
 case round =>
  obtain ⟨k,q',c',hk,rfl,rfl,rfl,hr⟩:=hrel;have RR:=Lv hr;clear hr;by_cases hlt:k < size
  ·have dl:decide ((k:Int) < (size:Int))=true:=by simp;omega
   have dl2:decide (k < size)=true:=by simp;omega
   have k8:(k:Int) < 8:=by omega
   have hsn:=lowB_snoc k N;have hla:=low_at N k;have hp:(0:Int)≤N / 256 ^ k:=Int.ediv_nonneg h0 (Int.pow_nonneg (by decide));have hp2:N / 256 ^ k < 18446744073709551616:=Int.lt_of_le_of_lt (Int.ediv_le_self _ h0) h1;have SN:=Lv hsn;have LAT:=Lv hla;obtain ⟨M,hM⟩:∃ M,M=N / 256 ^ k:=⟨_,rfl⟩
   rw [← hM] at hp hp2 SN LAT ⊢;have GN:=grown1 wr (.cells #[.int .u8 (M % 256)] 5);have RP:=Lv (RR.o.past GN);have IB:=Lv (He wr (M % 256));have hlk:(lowB k N).length=k:=Bx _ _;have HL:=Lv hlk;have BS:=Lv (Nat.le_trans RR.o.grown.size GN.size);obtain ⟨XS,hXS⟩:∃ XS,lowB k N=XS:=⟨_,rfl⟩
   rw [hXS] at RP HL SN;clear hsn GN hlk hla hM hXS;go_wp2_with (at_builtin;refine Zi rfl (.tmp 12) (.tmp 16) rfl rfl (v:=.slice q' k c') (by rfl) RP.o [M % 256] 1 rfl rfl IB.o (by rw [HL.o];omega) BS.o ?_)
   intro q2 c2 w2 hr2;rw [← SN.o] at hr2;rw [HL.o] at hr2 ⊢;have R2:=Lv hr2;clear hr2;go_wp2;go_roundw
   case rel=>exact ⟨k + 1,q2,c2,hlt,by simp,by rw [← LAT.o],rfl,R2.o⟩
   case measure=>simp [intOf];omega
  ·have hks:k=size:=by omega
   subst hks;have dl:decide ((k:Int) < (k:Int))=false:=by simp
   have hle:=Bx k N;go_wp2;go_ret
   refine ⟨⟨q',c',by rw [hle];rfl,?_⟩,RR.o.out rfl⟩
   have:=RR.o.own
   rw [hle] at this ⊢;exact this
def entV (p k s d v:Int):List Int:=lowB 4 p ++ (lowB 1 k ++ (lowB 1 s ++ (lowB 2 d ++ lowB 8 v)))
theorem entV_len (p k s d v:Int):(entV p k s d v).length=16:=by simp [entV,Bx]
theorem entry10_any (P:Nat) (hP:(P:Int)≤140737488355328) (k:Int) (hk : 0≤k∧k < 256) (s:Int) (hs : 0≤s∧s < 256) (d:Int) (hd : 0≤d∧d < 65536) (v:Int) (hv : 0≤v∧v < 18446744073709551616) (w:World) :
  Calls Tryz.prog 57 #[.int .i64 (P:Int),.int .i64 k,.int .i64 s,.int .i64 d,.int .u64 v] w fun e w'=>NOut w w' (entV P k s d v) e:=by
 have L4:=Lv (show Calls Tryz.prog 91 #[.int .u64 (P:Int),.int .i64 4] w fun e w'=>NOut w w' (lowB 4 P) e from Mc (P:Int) (by omega) (by omega) 4 (by decide) w);have L2:=Lv (fun V=>(show Calls Tryz.prog 91 #[.int .u64 d,.int .i64 2] V fun e w'=>NOut V w' (lowB 2 d) e from Mc d hd.1 (by omega) 2 (by decide) V));have L8:=Lv (fun V=>(show Calls Tryz.prog 91 #[.int .u64 v,.int .i64 8] V fun e w'=>NOut V w' (lowB 8 v) e from Mc v hv.1 hv.2 8 (by decide) V))
 have l4:=Bx 4 (P:Int);have l2:=Bx 2 d;have l8:=Bx 8 v;have hE:entV P k s d v=((lowB 4 P ++ [k,s]) ++ lowB 2 d) ++ lowB 8 v:=by
  have e1:lowB 1 k=[k]:=by rw [lowB,lowB];congr 1;omega
  have e2:lowB 1 s=[s]:=by rw [lowB,lowB];congr 1;omega
  unfold entV;rw [e1,e2];simp
 have HE:=Lv hE;have LE:=Lv (entV_len P k s d v);generalize entV P k s d v=EV at *;generalize lowB 4 (P:Int)=A4 at *;generalize lowB 2 d=A2 at *;generalize lowB 8 v=A8 at *;have H4:=Lv l4;have H2:=Lv l2;have H8:=Lv l8;obtain ⟨k0,k1⟩:=hk;obtain ⟨s0,s1⟩:=hs;obtain ⟨d0,d1⟩:=hd;have hpw:IntKind.u64.wrap (P:Int)=P:=by rw [IntKind.wrap_u64];omega
 have hdw:IntKind.u64.wrap d=d:=by rw [IntKind.wrap_u64];omega
 clear hE l4 l2 l8 hv;go_enter Tryz.func57,Tryz.ntmps57;go_wp2_with fail;refine L4.o.mono ?_
 rintro e w1 ⟨⟨q1,c1,rfl,h1⟩,hg⟩;rw [H4.o] at h1 ⊢;have G1:=Lv hg;have R1:=Lv (Xm.past (Xm.refl (base:=w.heap.size) (xs:=A4) (v:=.slice q1 4 c1) (by rw [H4.o];exact h1)) (grown1 w1 (.cells #[.int .u8 k,.int .u8 s] 5)));have IB:=Lv (bytes2_new w1 k s);have B1:=Lv (Nat.le_trans hg.size (grown1 w1 (.cells #[.int .u8 k,.int .u8 s] 5)).size);have O1:=Lv (fun g (e:(Value.slice q1 4 c1).ownBlock=some g)=>(h1.lt g e))
 clear h1 hg;go_wp2_with (at_builtin;refine Zi rfl (.tmp 14) (.tmp 19) rfl rfl (v:=.slice q1 4 c1) (by rfl) R1.o [k,s] 2 rfl rfl IB.o (by rw [H4.o];decide) B1.o ?_)
 intro q2 c2 w2 hr2;rw [H4.o] at hr2 ⊢;obtain ⟨X2,hX2⟩:∃ X,A4 ++ [k,s]=X:=⟨_,rfl⟩
 rw [hX2] at hr2;have HX2:=Lv hX2;clear hX2;have R2:=Lv hr2;have B2:=Lv (Nat.le_trans (Nat.le_trans G1.o.size (Nat.le_refl _)) hr2.grown.size);clear hr2;go_wp2_with fail;refine (L2.o w2).mono ?_
 rintro e w3 ⟨⟨q3,c3,rfl,h3⟩,hg⟩;rw [H2.o] at h3 ⊢;have R3:=Lv (R2.o.past hg);have I3:=Lv (Qk.of_own H2.o h3);have B3:=Lv (Nat.le_trans B2.o hg.size);have LN3:=Lv (show X2.length=6 by rw [← HX2.o,List.length_append,H4.o];rfl);clear h3 hg R2;go_wp2_with (at_builtin;refine Zi rfl (.tmp 21) (.tmp 24) rfl rfl (v:=.slice q2 6 c2) (by rfl) R3.o A2 2 H2.o rfl I3.o (by rw [LN3.o];decide) B3.o ?_)
 intro q4 c4 w4 hr4;rw [LN3.o] at hr4 ⊢;obtain ⟨X4,hX4⟩:∃ X,X2 ++ A2=X:=⟨_,rfl⟩
 rw [hX4] at hr4;have HX4:=Lv hX4;clear hX4;have R4:=Lv hr4;have B4:=Lv (Nat.le_trans G1.o.size hr4.grown.size);clear hr4;go_wp2_with fail;refine (L8.o w4).mono ?_
 rintro e w5 ⟨⟨q5,c5,rfl,h5⟩,hg⟩;rw [H8.o] at h5 ⊢;have R5:=Lv (R4.o.past hg);have I5:=Lv (Qk.of_own H8.o h5);have B5:=Lv (Nat.le_trans B4.o hg.size);have LN5:=Lv (show X4.length=8 by rw [← HX4.o,List.length_append,LN3.o,H2.o]);clear h5 hg R4;go_wp2_with (at_builtin;refine Zi rfl (.tmp 25) (.tmp 27) rfl rfl (v:=.slice q4 8 c4) (by rfl) R5.o A8 8 H8.o rfl I5.o (by rw [LN5.o];decide) B5.o ?_)
 intro q6 c6 w6 hr6;rw [LN5.o,show X4 ++ A8=EV by rw [HE.o,← HX4.o,← HX2.o]] at hr6;rw [LN5.o];have R6:=Lv hr6;clear hr6;go_wp2;go_ret
 refine ⟨⟨q6,c6,by rw [LE.o];rfl,?_⟩,Jc G1.o R6.o.grown (fun g e=>(O1.o g e).1) (Nat.le_refl _)⟩
 have:=R6.o.own
 rw [LE.o] at this ⊢;exact this
end Go.Proofs.YtkmbkpoclhbmgaaGreat
