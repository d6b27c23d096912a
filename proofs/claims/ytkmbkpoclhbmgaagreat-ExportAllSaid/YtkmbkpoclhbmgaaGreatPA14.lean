/- Parts of the proof, put together: RowC, Sec, Same4, Segm, Spans, Mkg, AddSeg, ReadC, Read4, Get, RefRead, Both, Img, ImgA, ImA, ImC, ImS. No condition beyond those that each part names. -/
import Derived.BigRegion
import Derived.RangeFuncNested
import Derived.RangeFuncIn
import Derived.RangeFuncLeaves
import Derived.Laws.Tables
import Derived.BigFrame
import Derived.Test.YtkmbkpoclhbmgaaGreatPA13
set_option maxRecDepth 20000
set_option maxHeartbeats 6400000
namespace Go.Proofs.YtkmbkpoclhbmgaaGreat
open Go.RowKit
variable {w w' W V:World}
section
variable {w w':World} {base:Nat}
def Cm.cs (m:Cm):List Value:=[.int .u32 m.cmd,.slice m.q m.bytes.length m.cap]
def rowC (l:List Cm):List Value:=l.flatMap Cm.cs
theorem rowC_at (l:List Cm) (i j:Nat) (s:Cm) (h:l[i]?=some s) (hj:j < 2):(rowC l)[i * 2 + j]?=s.cs[j]?:=by
 induction l generalizing i with
 | nil=>simp at h
 | cons t l ih =>
  simp only [rowC,List.flatMap_cons] at ih ⊢;cases i with
  | zero =>
   simp at h;subst h;rw [List.getElem?_append_left (by rw [show t.cs.length=2 from rfl];omega)];simp
  | succ i =>
   rw [List.getElem?_append_right (by rw [show t.cs.length=2 from rfl];omega),show t.cs.length=2 from rfl,show (i + 1) * 2 + j - 2=i * 2 + j by omega];exact ih i (by simpa using h)
theorem rowC_snoc (l:List Cm) (s:Cm):rowC (l ++ [s])=rowC l ++ s.cs:=by simp [rowC]
theorem info_cm:(Tryz.prog.info? 162).map (fun i=>(i.zero,i.size,i.bytes))=some (some Cm.zero.v,2,32):=by kernel_rfl
theorem Tw.of_own {p:Option Addr} {n c:Nat} {l:List Cm} (hl:l.length=n) (h:w.ownsRow base 162 2 (.slice p n c) n (rowC l)) (hb:∀ m∈l,Qk w m.q m.cap m.bytes):Tw w p l∧n≤c∧c≤9223372036854775807:=by
 subst hl;have h':=h;obtain ⟨_,hn | ⟨g,cap,cur,hv,_,hg,hle,hm,hs,ht⟩⟩:=h
 ·obtain ⟨e,h0⟩:=hn
  injection e with e1 e2 e3;subst e3;exact ⟨fun h=>by omega,by omega,by omega⟩
 ·injection hv with e1 e2 e3
  subst e1 e3;refine ⟨fun _=>⟨g,0,rfl,fun i s hi=>?_⟩,hle,by unfold maxLen at hm;omega⟩;have key:∀ j,j < 2→w.cell? ⟨g,0 + i * 2 + j,none⟩=s.cs[j]?:=fun j hj=>by
   have hr:=rowC_at l i j s hi hj;have hc:=h'.cells (g:=g) rfl (i * 2 + j) (s.cs[j]'(by simpa [Cm.cs] using hj)) (by rw [hr];exact List.getElem?_eq_getElem _);rw [Xd] at hc;rw [show 0 + i * 2 + j=0 + (i * 2 + j) by omega,hc];exact (List.getElem?_eq_getElem _).symm
  exact ⟨⟨key 0 (by decide),key 1 (by decide)⟩,hb s (List.mem_of_getElem? hi)⟩
theorem wp_append_cm {ops:Array Oper} {rest:List Oper} {o:Oper} {a:Act} {Q:Exit→Act→World→Prop} (hgd:o.guard=none) (s x:Operand)
  (ho:o.op=.call { callee:=.builtin .append,args:=#[s,x],argTypes:=#[98,98] })
  (v:Value) (n:Nat) (l:List Cm) (hs:a.eval s=v) (hown:w.ownsRow base 162 2 v n (rowC l)) (t:Cm) (g:Nat) (hx:a.eval x=.slice (some ⟨g,0,none⟩) 1 1) (hb:CmAt w g t)
  (h63:n≤1000000) (hbase:base≤w.heap.size)
  (h:∀ v' w',w'.ownsRow base 162 2 v' (n + 1) (rowC (l ++ [t]))→w.grownBy w' v.ownBlock→wpList Tryz.prog ops Q rest (a.put o.dst v') w'):wpList Tryz.prog ops Q (o :: rest) a w:=by
 obtain ⟨i,hi,hz0,hz1,hz2⟩:=info_parts info_cm;refine wpList_append_own w hgd s x _ ho base 162 i Cm.zero.v 2 32 Tryz.underlying98 hi hz0 hz1 hz2 rfl (by decide) v n (rowC l) hs hown ⟨g,0,none⟩ 1 1 t.cs hx rfl ?_ ?_ (by unfold maxLen;omega) (by omega) hbase ?_
 ·intro j u hu
  rw [Xd,Qm hb,← hu];simp [Cm.cs]
 ·intro u hu
  simp only [Cm.cs,List.mem_cons,List.not_mem_nil,or_false] at hu;rcases hu with rfl | rfl <;> rfl
 ·intro v' w' h1 h2 _
  rw [← rowC_snoc] at h1;exact h v' w' h1 h2
theorem step_append_cm {ops:Array Oper} {o:Oper} {a:Act} {K:Act→World→Prop} {Q:Exit→Act→World→Prop} {E:Prop} (hgd:o.guard=none) (s x:Operand)
  (ho:o.op=.call { callee:=.builtin .append,args:=#[s,x],argTypes:=#[98,98] })
  (v:Value) (n:Nat) (l:List Cm) (hs:a.eval s=v) (hown:w.ownsRow base 162 2 v n (rowC l)) (t:Cm) (g:Nat) (hx:a.eval x=.slice (some ⟨g,0,none⟩) 1 1) (hb:CmAt w g t)
  (h63:n≤1000000) (hbase:base≤w.heap.size)
  (h:∀ v' w',w'.ownsRow base 162 2 v' (n + 1) (rowC (l ++ [t]))→w.grownBy w' v.ownBlock→K (a.put o.dst v') w') :
  if Region.wanted o (yielded ops a.tmps)=true then Oper.wp Tryz.prog o a w K Q else E:=by
 have hw:Region.wanted o (yielded ops a.tmps)=true:=by simp [Region.wanted,hgd]
 rw [if_pos hw];obtain ⟨i,hi,hz0,hz1,hz2⟩:=info_parts info_cm;obtain ⟨v',w',hr,h1,h2,_,_⟩:=run_append_own_at (P:=Tryz.prog) w base 98 o.type 162 i Cm.zero.v 2 32 Tryz.underlying98 hi hz0 hz1 hz2 rfl (by decide) v n (rowC l) hown ⟨g,0,none⟩ 1 1 t.cs rfl
  (by
    intro j u hu;rw [Xd,Qm hb,← hu];simp [Cm.cs])
  (by
    intro u hu;simp only [Cm.cs,List.mem_cons,List.not_mem_nil,or_false] at hu;rcases hu with rfl | rfl <;> rfl)
  (by unfold maxLen;omega) (by omega) hbase
 rw [← rowC_snoc] at h1;exact Lib.wp_append_run w s x _ _ ho _ _ hs hx _ _ hr (h v' w' h1 h2)
end
section
variable {w w':World} {lo hi a:Nat} {xs:List Int} {p:Nat}
def J6 (s:Sec):List Value:=[.string (strOfNums s.name),.string (strOfNums s.seg),.int .u64 s.addr,.int .u64 s.size,.int .u64 s.off,.int .i64 s.kind]
theorem secCs_len (s:Sec):(J6 s).length=6:=rfl
theorem Wy (s:Sec):∀ u∈J6 s,u.oneCell'=true:=by
 intro u hu;simp only [J6,List.mem_cons,List.not_mem_nil,or_false] at hu;rcases hu with rfl | rfl | rfl | rfl | rfl | rfl <;> rfl
theorem Ts:Kx Tryz.prog 118 119 6 64:=.mk' Tryz.underlying119 (z:=.agg #[.string ⟨#[]⟩,.string ⟨#[]⟩,.int .u64 0,.int .u64 0,.int .u64 0,.int .i64 0]) (by kernel_rfl) rfl (by decide)
def Rv (w:World) (g:Nat) (s:Sec):Prop:=w.heap[g]?=some (.cells #[.string (strOfNums s.name),.string (strOfNums s.seg),.int .u64 s.addr,.int .u64 s.size,.int .u64 s.off,.int .i64 s.kind] 118 (0,0))
theorem Rv.lt {g:Nat} {s:Sec} (h:Rv w g s):g < w.heap.size:=lt_of_block h
theorem Rv.c {g:Nat} {s:Sec} (h:Rv w g s):w.cell? ⟨g,0,none⟩=some (.string (strOfNums s.name))∧w.cell? ⟨g,1,none⟩=some (.string (strOfNums s.seg))∧w.cell? ⟨g,2,none⟩=some (.int .u64 s.addr)∧w.cell? ⟨g,3,none⟩=some (.int .u64 s.size)∧w.cell? ⟨g,4,none⟩=some (.int .u64 s.off)∧w.cell? ⟨g,5,none⟩=some (.int .i64 s.kind):=by
 refine ⟨?_,?_,?_,?_,?_,?_⟩ <;> (rw [Qm h];rfl)
end
theorem text_eq {xs ys:List Int} (hx:Q3 xs) (hy:Q3 ys):((strOfNums xs).toList == (strOfNums ys).toList)=decide (xs=ys):=by
 rw [Lib.strOfNums_toList ys];exact text_is hx hy
section
variable {w w':World} {lo hi a:Nat} {xs:List Int} {p:Nat} {big bad:Bool}
def Vi (s:Seg) (sv:Value):Array Value:=#[.string (strOfNums s.name),.int .u64 s.addr,.int .u64 s.size,.int .u64 s.off,.int .u64 s.fsize,.int .i64 s.prot,sv]
def Seg.zero:Seg:=⟨[],0,0,0,0,0,[]⟩
def Zn (w:World) (g:Nat) (s:Seg) (sv:Value):Prop:=w.heap[g]?=some (.cells (Vi s sv) 121 (0,0))
theorem Zn.kept {g:Nat} {s:Seg} {sv:Value} {r:Option Nat} (h:Zn w g s sv) (hg:w.grownBy w' r) (hr:r≠some g):Zn w' g s sv:=(hg.block g (lt_of_block h) (fun e=>hr e.symm)).trans h
theorem Zn.lt {g:Nat} {s:Seg} {sv:Value} (h:Zn w g s sv):g < w.heap.size:=lt_of_block h
theorem Zn.fz {g:Nat} {s:Seg} {sv:Value} (h:Zn w g s sv) (i:Nat):w.frozen? ⟨g,i,none⟩=false:=Xg h
theorem Zn.c {g:Nat} {s:Seg} {sv:Value} (h:Zn w g s sv):w.cell? ⟨g,0,none⟩=some (.string (strOfNums s.name))∧w.cell? ⟨g,1,none⟩=some (.int .u64 s.addr)∧w.cell? ⟨g,2,none⟩=some (.int .u64 s.size)∧w.cell? ⟨g,3,none⟩=some (.int .u64 s.off)∧w.cell? ⟨g,4,none⟩=some (.int .u64 s.fsize)∧w.cell? ⟨g,5,none⟩=some (.int .i64 s.prot)∧w.cell? ⟨g,6,none⟩=some sv:=by
 refine ⟨?_,?_,?_,?_,?_,?_,?_⟩ <;> (rw [Qm h];rfl)
theorem Zn.secs {g:Nat} {s:Seg} {sv:Value} (h:Zn w g s sv) (v:Value):Zn (w.setCell ⟨g,6,none⟩ v) g s v:=by
 unfold Zn;rw [heap_setCell_same w g 6 _ _ _ h];rfl
theorem Zn.put {g:Nat} {s:Seg} {sv:Value} (h:Zn w g s sv) (t:Seg) (v:Value):Zn (((((((w.setCell ⟨g,0,none⟩ (.string (strOfNums t.name))).setCell ⟨g,1,none⟩ (.int .u64 t.addr)).setCell ⟨g,2,none⟩ (.int .u64 t.size)).setCell ⟨g,3,none⟩ (.int .u64 t.off)).setCell ⟨g,4,none⟩ (.int .u64 t.fsize)).setCell ⟨g,5,none⟩ (.int .i64 t.prot)).setCell ⟨g,6,none⟩ v) g t v:=by
 unfold Zn;rw [heap_setCell_same _ g 6 _ _ _ (heap_setCell_same _ g 5 _ _ _ (heap_setCell_same _ g 4 _ _ _ (heap_setCell_same _ g 3 _ _ _ (heap_setCell_same _ g 2 _ _ _ (heap_setCell_same _ g 1 _ _ _ (heap_setCell_same w g 0 _ _ _ h))))))];rfl
theorem Yl {g:Nat} (h:w.grownBy w' (some g)) (v0 v1 v2 v3 v4 v5 v6:Value):w.grownBy (((((((w'.setCell ⟨g,0,none⟩ v0).setCell ⟨g,1,none⟩ v1).setCell ⟨g,2,none⟩ v2).setCell ⟨g,3,none⟩ v3).setCell ⟨g,4,none⟩ v4).setCell ⟨g,5,none⟩ v5).setCell ⟨g,6,none⟩ v6) (some g) :=
 Qx (Qx (Qx (Qx (Qx (Qx (Qx h _) _) _) _) _) _) _
def segV (s:Seg) (sv:Value):Value:=.agg (Vi s sv)
theorem load_seg {g:Nat} {s:Seg} {sv:Value} (h:Zn w g s sv):(loadVar 121 ⟨g,0,none⟩).run Tryz.prog w=.ok (segV s sv) w :=
 run_loadVar_row w g _ _ _ _ _ h Tryz.underlying121 rfl (by kernel_rfl)
theorem Yu {fn:Func} {p u:Tmp} (hr:fn.results=#[.cell p 121,.tmp u]) {tmps:Array Value} {v:Value} {g:Nat} {s:Seg} {sv:Value} (hp:tmps.getD p undef=.pointer (some ⟨g,0,none⟩)) (hu:tmps.getD u undef=v) (h:Zn w g s sv) :
  (results fn tmps).run Tryz.prog w=.ok (.tuple #[segV s sv,v]) w:=by
 rw [results_cell_tmp hr,hp,hu,show (asAddr (.pointer (some ⟨g,0,none⟩)):Sem Addr).run Tryz.prog w=.ok ⟨g,0,none⟩ w from rfl,Result.andThen_ok,load_seg h,Result.andThen_ok]
theorem segType:Kx Tryz.prog 121 43 7 80:=.mk' Tryz.underlying43 (z:=segV Seg.zero (.slice none 0 0)) (by kernel_rfl) rfl (by decide)
theorem small_pre {l:List Int} (h:Q3 l):Q3 (pre l):=by
 rw [Mp];exact fun x hx=>h x (List.mem_of_mem_take hx)
theorem small_field {b:List Int} (h:Q3 b) (p:Nat):Q3 (Xl b p):=small_pre fun x hx=>h x (List.mem_of_mem_drop (List.mem_of_mem_take hx))
theorem Bv (b:List Int) (k:Nat):Vd b (k + 1)=Vd b k ++ [Rf b (72 + 80 * k)]:=by
 unfold Vd;rw [List.range_succ,List.map_append];rfl
end
section
variable {w w':World} {lo hi a:Nat} {xs:List Int} {p:Nat}
def Kj (x:Int × Int):List Value:=[.int .u64 x.1,.int .u64 x.2]
def Pf (x:Int × Int):Value:=.agg #[.int .u64 x.1,.int .u64 x.2]
theorem spanCs_len (x:Int × Int):(Kj x).length=2:=rfl
theorem Bp (x:Int × Int):∀ u∈Kj x,u.oneCell'=true:=by
 intro u hu;simp only [Kj,List.mem_cons,List.not_mem_nil,or_false] at hu;rcases hu with rfl | rfl <;> rfl
theorem Ho:Kx Tryz.prog 46 165 2 16:=.mk' Tryz.underlying165 (z:=.agg #[.int .u64 0,.int .u64 0]) (by kernel_rfl) rfl (by decide)
def SpanAt (w:World) (g:Nat) (x:Int × Int):Prop:=w.heap[g]?=some (.cells #[.int .u64 x.1,.int .u64 x.2] 46 (0,0))
end
section
open Go.RowKit Go.Maps
variable {w w':World} {lo g bm:Nat}
structure Sg where
 seg:Seg
 q:Option Addr
 c:Nat
def Sg.v (x:Sg):Value:=.slice x.q x.seg.secs.length x.c
def sgCs (x:Sg):List Value:=[.string (strOfNums x.seg.name),.int .u64 x.seg.addr,.int .u64 x.seg.size,.int .u64 x.seg.off,.int .u64 x.seg.fsize,.int .i64 x.seg.prot,x.v]
theorem Rw (x:Sg):(sgCs x).length=7:=rfl
theorem sgCs_one (x:Sg):∀ u∈sgCs x,u.oneCell'=true:=by
 intro u hu;simp only [sgCs,List.mem_cons,List.not_mem_nil,or_false] at hu;rcases hu with rfl | rfl | rfl | rfl | rfl | rfl | rfl <;> rfl
def Bi (x:List Int × Int):List Value:=[.string (strOfNums x.1),.int .i64 x.2]
theorem depCs_one (x:List Int × Int):∀ u∈Bi x,u.oneCell'=true:=by
 intro u hu;simp only [Bi,List.mem_cons,List.not_mem_nil,or_false] at hu;rcases hu with rfl | rfl <;> rfl
theorem depType:Kx Tryz.prog 124 44 2 24:=.mk' Tryz.underlying44 (z:=.agg #[.string ⟨#[]⟩,.int .i64 0]) (by kernel_rfl) rfl (by decide)
structure Hx where
 kd:Int
 sb:Int
 fl:Int
def Qf (h:Hx) (s:St) (sv dv:Value):Array Value:=#[.int .i64 h.kd,.int .i64 h.sb,.int .u32 h.fl,.string (strOfNums s.name),sv,dv,.int .u64 s.rb.1,.int .u64 s.rb.2,.int .u64 s.bd.1,.int .u64 s.bd.2,.int .u64 s.wk.1,.int .u64 s.wk.2,.int .u64 s.lz.1,.int .u64 s.lz.2,.int .u64 s.tr.1,.int .u64 s.tr.2,.int .u64 s.ch.1,.int .u64 s.ch.2,.int .u64 s.sy.1,.int .u64 s.sy.2,.int .u64 s.st.1,.int .u64 s.st.2,.int .u64 s.entry,.bool s.has]
section
variable {h:Hx} {s:St} {sv dv:Value}
end
theorem Ja {T T':TypeId} {k n:Nat} {v:Value} {xs:List Value} {cs:Array Value} {fr:Nat × Nat} (h:w.ownsRow lo T k v n xs) (hb:w.heap[g]?=some (.cells cs T' fr)) (hT:T≠T'):v.ownBlock=none∨v.ownBlock≠some g:=by
 rcases h.2 with ⟨rfl,_⟩ | ⟨g',cap,cur,rfl,_,hg,_⟩
 ·exact .inl rfl
 ·refine .inr fun e=>hT ?_
  simp only [Value.ownBlock,Option.some.injEq] at e;subst e;rw [hg] at hb;injection hb with e;injection e
theorem Xb {B:Nat} (h:w.grownBy w' (some g)) (hB:B≤g) (hs:B≤w.heap.size):Below B w w':=Qg h hs (fun e he=>by injection he with he;omega)
end
section
variable {w w':World} {lo g bm:Nat} {h:Hx} {s:St}
theorem own_lower {base lo':Nat} {T:TypeId} {k n:Nat} {v:Value} {xs:List Value} (h:w.ownsRow base T k v n xs) (hl:lo'≤base):w.ownsRow lo' T k v n xs :=
 ⟨h.1,h.2.imp id (fun ⟨g,cap,cur,hv,hb,r⟩=>⟨g,cap,cur,hv,Nat.le_trans hl hb,r⟩)⟩
theorem seg_many {b:List Int} (h:Z6 b=0):(Ky b).secs.length≤64:=by
 have hl:(Ky b).secs.length=Xn b:=by show (Vd b (Xn b)).length=_;unfold Vd;simp
 rw [hl];unfold Z6 at h
 split at h;cases h
 split at h;cases h
 split at h;cases h
 split at h;cases h
 split at h;cases h
 split at h;cases h
 omega
theorem Zn.grown {x:Nat} {z:Seg} {v:Value} (k:Zn w x z v) (hg:w.grownBy w' none):Zn w' x z v:=k.kept hg (by simp)
end
section
attribute [local go_sem] Oper.semAt_some
def Ry (ys:List Int):Nat:=(Yr (ys.take 32) 5).toNat
def cntF (ys:List Int):Nat:=(Yr (ys.take 32) 4).toNat
def Ri (ys:List Int):Option (List (Int × List Int)):=Ye ((ys.drop 32).take (Ry ys)) (cntF ys) 0
end
def Xs (ys:List Int):Int:=if Wc (ys.take 32) ys.length=0 then (if Ri ys=none then 7 else 0) else Wc (ys.take 32) ys.length
def Hd.of (f:Fr):Hd:=⟨f.sub,f.kind,f.flags⟩
section
open Go.RowKit Go.Sort
theorem Py (ys:List Int) {q:Option Addr} {c n:Nat} (h:Qk w q c ys) (hn:ys.length=n) (hc:n≤c) (hcm:c≤9223372036854775807) (hy:Q3 ys) (p:Nat) (hk:p + 4≤n) :
  Calls Tryz.prog 78 #[.slice q n c,.int .i64 p] w fun e w'=>e=.returned (.int .i64 (leN ((ys.drop p).take 4)))∧w.grownBy w' none:=by
 obtain ⟨b,o,rfl,hcell⟩:=h.2 (by omega);have hbd:=Gt hy p;have X:=Lv (fun (w1:World) (a:Nat) (hw:w.grownBy w1 none) (ha:w.heap.size≤a) (hr:RCur w1 a (some ⟨b,o + p,none⟩) 4 (c - p) 0 false false) =>
  rnumber_ok ((ys.drop p).take 4) hr 4 (.inl rfl) (by omega) (by omega) (by omega) (by simp;omega) (fun x hx=>hy x (List.mem_of_mem_drop (List.mem_of_mem_take hx))) (fun i hi w' hg=>by
   have h1:=hcell (p + i) (by omega);have h2:w'.cell? ⟨b,o + (p + i),none⟩=some (.int .u8 (ys.getD (p + i) 0)):=(Qw hw hg ha).cell h1 (by simp)
   rw [show o + p + i=o + (p + i) by omega,h2];simp [List.getD,hi]))
 have hS:=fun W=>Ss (T:=29) (by kernel_rfl) Pz b o n c p 4 hk hc (by omega) (p:Int) ((p:Int) + 4) rfl rfl W;have hb1:(p:Int) + 4≤9223372036854775807:=by omega
 unfold Vm at X;rw [if_neg (by simp)] at X;clear h hcell hn hk hc hcm;generalize leN ((ys.drop p).take 4)=V at *;go_enter Tryz.func78,Tryz.ntmps78;go_wp2_with fail;have R:RCur (w.alloc (.cells #[.slice (some ⟨b,o + p,none⟩) 4 (c - p),.int .i64 0,.bool false,.bool false] 215)) w.heap.size (some ⟨b,o + p,none⟩) 4 (c - p) 0 false false:=heap_alloc_new w _;refine (X.o _ _ (grown1 _ _) (Nat.le_refl _) R).mono ?_
 rintro e w' ⟨rfl,hg⟩;have G:=Lv (Qw (grown1 _ _) hg (Nat.le_refl _));clear hg hS;go_wp2;go_ret
 exact ⟨rfl,G.o⟩
end
section
theorem Qu {fn:Func} {p q r s:Tmp} {tp:TypeId} (h:fn.results=#[.cell p tp,.tmp q,.tmp r,.tmp s]) (tmps:Array Value) (P:Program) (w:World)
  {a:Addr} {x y z u:Value} (ha:tmps.getD p undef=.pointer (some a)) (hb:tmps.getD q undef=y) (hc:tmps.getD r undef=z) (hd:tmps.getD s undef=u)
  (hx:(loadVar tp a).run P w=.ok x w):(results fn tmps).run P w=.ok (.tuple #[x,y,z,u]) w:=by
 have e:∀ d:Addr,(asAddr (.pointer (some d)):Sem Addr).run P w=.ok d w:=fun d=>rfl;simp only [Array.getD_eq_getD_getElem?] at ha hb hc hd;simp only [results,h];simp [Sem.run_bind,Result.andThen,ha,hb,hc,hd,e,hx]
theorem HdAt.c0 {g:Nat} {h:Hd} (k:HdAt w g h):w.cell? ⟨g,0,none⟩=some (.int .i64 h.sub):=by rw [Qm k];rfl
theorem HdAt.c1 {g:Nat} {h:Hd} (k:HdAt w g h):w.cell? ⟨g,1,none⟩=some (.int .i64 h.kind):=by rw [Qm k];rfl
theorem HdAt.c2 {g:Nat} {h:Hd} (k:HdAt w g h):w.cell? ⟨g,2,none⟩=some (.int .u32 h.flags):=by rw [Qm k];rfl
theorem HdAt.fz {g:Nat} {h:Hd} (k:HdAt w g h) (i:Nat):w.frozen? ⟨g,i,none⟩=false:=Xg k
theorem HdAt.lt {g:Nat} {h:Hd} (k:HdAt w g h):g < w.heap.size:=lt_of_block k
theorem HdAt.kept {g:Nat} {h:Hd} {row:Option Nat} (k:HdAt w g h) (hg:w.grownBy w' row) (hr:row≠some g):HdAt w' g h:=(hg.block g (lt_of_block k) (fun e=>hr e.symm)).trans k
theorem HdAt.grown {g:Nat} {h:Hd} (k:HdAt w g h) (hg:w.grownBy w' none):HdAt w' g h:=k.kept hg (by simp)
theorem HdAt.new (w:World) (h:Hd):HdAt (w.alloc (.cells #[.int .i64 h.sub,.int .i64 h.kind,.int .u32 h.flags] 97)) w.heap.size h:=heap_alloc_new w _
structure Yo (w w':World) (ys:List Int) (e:Ending):Prop where
 bad:Xs ys≠0→e=.returned (.tuple #[(Hd.mk 0 0 0).v,.slice none 0 0,.int .i64 0,.int .i64 (Xs ys)])
 good:Xs ys=0→∃ pre q c,Ri ys=some (pre.map Cm.d)∧e=.returned (.tuple #[(Hd.of (frOf (ys.take 32))).v,.slice q pre.length c,.int .i64 (32 + Ry ys),.int .i64 0])∧Tw w' q pre∧pre.length≤c∧c≤9223372036854775807∧∀ m∈pre,m.Fits
 grown:w.grownBy w' none
theorem Yo.no {ys:List Int} {er:Int} (hE:Xs ys=er) (h0:er≠0) (hg:w.grownBy w' none):Yo w w' ys (.returned (.tuple #[.agg #[.int .i64 0,.int .i64 0,.int .u32 0],.slice none 0 0,.int .i64 0,.int .i64 er])) :=
 ⟨fun _=>by rw [hE];rfl,fun h=>absurd (hE ▸ h) h0,hg⟩
def wd (ys:List Int) (k:Nat):Int:=leN ((ys.drop (4 * k)).take 4)
theorem rdErr_short {ys:List Int} (h:ys.length < 32):Xs ys=3:=by
 have hl:(ys.take 32).length < 32:=by rw [List.length_take];omega
 have:Wc (ys.take 32) ys.length=3:=by unfold Wc;rw [if_pos hl]
 unfold Xs;rw [this,if_neg (by decide)]
theorem rdErr_long {ys:List Int} (h : 32≤ys.length):Wc (ys.take 32) ys.length=(if wd ys 0≠4277009103 then 5 else if wd ys 1≠16777228∨¬ (wd ys 2 % 16777216=0∨wd ys 2 % 16777216=2) then 6 else
  if ¬ (wd ys 3=2∨wd ys 3=6) then 7 else if 256 < wd ys 4 then 11 else if ¬ 32 + wd ys 5≤ys.length then 3 else 0):=by
 have hl:¬ (ys.take 32).length < 32:=by rw [List.length_take];omega
 unfold Wc;rw [if_neg hl];simp only [Ks h,show (0:Nat) < 8 from by decide,show (1:Nat) < 8 from by decide,show (2:Nat) < 8 from by decide,show (3:Nat) < 8 from by decide,show (4:Nat) < 8 from by decide,show (5:Nat) < 8 from by decide];rfl
theorem Gf {ys:List Int} {er:Int} (h:Wc (ys.take 32) ys.length=er) (h0:er≠0):Xs ys=er:=by
 unfold Xs;rw [h,if_neg h0]
structure RfJ (w wx wr:World) (zs:List Int) (K S k p:Nat) (pre:List Cm) (lq:Option Addr) (lc:Nat) (qr:Option Addr) (cr:Nat):Prop where
 came:Came zs K k p pre
 ps:p≤S
 pc:S - p≤cr
 crm:cr≤9223372036854775807
 rest:Qk w qr cr (zs.drop p)
 own:wr.ownsRow wx.heap.size 162 2 (.slice lq k lc) k (rowC pre)
 grown:wx.grownBy wr none
 each:∀ m∈pre,m.Fits∧Qk w m.q m.cap m.bytes
set_option maxHeartbeats 16000000 in
theorem RefRead_any (ys:List Int) (q:Option Addr) (c n:Nat) (h:Qk w q c ys) (hn:ys.length=n) (hc:n≤c) (hcm:c≤9223372036854775807) (hn47:n≤140737488355328) (hr:Q3 ys) :
  Calls Tryz.prog 45 #[.slice q n c] w fun e w'=>Yo w w' ys e:=by
 have GT:=Lv (fun (p:Int) (w1:World) (hg:w.grownBy w1 none) (hp : 0≤p∧p.toNat + 4≤n)=>(by
  have h:=Py (w:=w1) ys (h.kept hg (by simp)) hn hc hcm hr p.toNat hp.2;rw [Int.toNat_of_nonneg hp.1] at h;exact h:Calls Tryz.prog 78 #[.slice q n c,.int .i64 p] w1 fun e w'=>e=.returned (.int .i64 (leN ((ys.drop p.toNat).take 4)))∧w1.grownBy w' none))
 have HI:=Lv h;have HN:=Lv hn;have HR:=Lv hr;have ZA0:HdAt ((w.alloc (.cells #[.int .i64 0,.int .i64 0,.int .u32 0] 97)).alloc (.cells #[.int .i64 0,.int .i64 0,.int .u32 0] 97)) w.heap.size ⟨0,0,0⟩:=(HdAt.new w ⟨0,0,0⟩).grown (grown1 _ _);have ZB0:HdAt ((w.alloc (.cells #[.int .i64 0,.int .i64 0,.int .u32 0] 97)).alloc (.cells #[.int .i64 0,.int .i64 0,.int .u32 0] 97)) (w.heap.size + 1) ⟨0,0,0⟩:=by
  have:=HdAt.new (w.alloc (.cells #[.int .i64 0,.int .i64 0,.int .u32 0] 97)) ⟨0,0,0⟩
  simpa using this
 have ZA:=Lv ZA0;have ZB:=Lv ZB0;have G:=Lv (grown2 w (.cells #[.int .i64 0,.int .i64 0,.int .u32 0] 97) (.cells #[.int .i64 0,.int .i64 0,.int .u32 0] 97));clear h hr ZA0 ZB0 hn;by_cases hlen:n < 32
 ·have LEN:=Lv hlen
  have d0:decide ((n:Int) < 32)=true:=by simp;omega
  go_enter Tryz.func45,Tryz.ntmps45;have HE:=Lv (show Xs ys=3 from rdErr_short (by rw [HN.o];exact LEN.o));have a0:=ZB.o.c0;have a1:=ZB.o.c1;have a2:=ZB.o.c2;have z0:=ZA.o.c0;have z1:=ZA.o.c1;have z2:=ZA.o.c2;have f0:=ZA.o.fz 0;have f1:=ZA.o.fz 1;have f2:=ZA.o.fz 2;have lta:=ZA.o.lt;go_wp2;have PA:=ZA.o.put ⟨0,0,0⟩
  first | refine bodyPost_ret (Qu rfl _ _ _ rfl rfl rfl rfl (Xh PA)) rfl ?_ | refine bodyPost_ret (Qu rfl _ _ _ rfl rfl rfl rfl (Xh ZA.o)) rfl ?_
  exact Yo.no HE.o (by decide) (by first | exact Qw G.o (Jp (Qq _ _) _ _ _) (Nat.le_refl _) | exact G.o)
 ·have d0:decide ((n:Int) < 32)=false:=by simp;omega
  have FE:=Lv (rdErr_long (ys:=ys) (by rw [HN.o];omega));obtain ⟨b,o,rfl,hcells⟩:=HI.o.2 (by rw [HN.o];omega);have HC:=Lv hcells;clear hcells;obtain ⟨V,hV⟩:∃ V:Nat→Int,V=wd ys:=⟨_,rfl⟩
  have VE:=Lv hV;have hb:∀ k,0≤V k∧V k < 4294967296:=fun k=>by rw [hV];exact Gt HR.o (4 * k)
  rw [← hV] at FE;have GT0:=Lv (fun (w1:World) (hg:w.grownBy w1 none)=>(by have h:=GT.o 0 w1 hg ⟨by decide,by simp;omega⟩;rw [hV];exact h:Calls Tryz.prog 78 #[.slice (some ⟨b,o,none⟩) n c,.int .i64 0] w1 fun e w'=>e=.returned (.int .i64 (V 0))∧w1.grownBy w' none));have GT1:=Lv (fun (w1:World) (hg:w.grownBy w1 none)=>(by have h:=GT.o 4 w1 hg ⟨by decide,by simp;omega⟩;rw [hV];exact h:Calls Tryz.prog 78 #[.slice (some ⟨b,o,none⟩) n c,.int .i64 4] w1 fun e w'=>e=.returned (.int .i64 (V 1))∧w1.grownBy w' none))
  have GT2:=Lv (fun (w1:World) (hg:w.grownBy w1 none)=>(by have h:=GT.o 8 w1 hg ⟨by decide,by simp;omega⟩;rw [hV];exact h:Calls Tryz.prog 78 #[.slice (some ⟨b,o,none⟩) n c,.int .i64 8] w1 fun e w'=>e=.returned (.int .i64 (V 2))∧w1.grownBy w' none));have GT3:=Lv (fun (w1:World) (hg:w.grownBy w1 none)=>(by have h:=GT.o 12 w1 hg ⟨by decide,by simp;omega⟩;rw [hV];exact h:Calls Tryz.prog 78 #[.slice (some ⟨b,o,none⟩) n c,.int .i64 12] w1 fun e w'=>e=.returned (.int .i64 (V 3))∧w1.grownBy w' none))
  have GT4:=Lv (fun (w1:World) (hg:w.grownBy w1 none)=>(by have h:=GT.o 16 w1 hg ⟨by decide,by simp;omega⟩;rw [hV];exact h:Calls Tryz.prog 78 #[.slice (some ⟨b,o,none⟩) n c,.int .i64 16] w1 fun e w'=>e=.returned (.int .i64 (V 4))∧w1.grownBy w' none));have GT5:=Lv (fun (w1:World) (hg:w.grownBy w1 none)=>(by have h:=GT.o 20 w1 hg ⟨by decide,by simp;omega⟩;rw [hV];exact h:Calls Tryz.prog 78 #[.slice (some ⟨b,o,none⟩) n c,.int .i64 20] w1 fun e w'=>e=.returned (.int .i64 (V 5))∧w1.grownBy w' none))
  have GT6:=Lv (fun (w1:World) (hg:w.grownBy w1 none)=>(by have h:=GT.o 24 w1 hg ⟨by decide,by simp;omega⟩;rw [hV];exact h:Calls Tryz.prog 78 #[.slice (some ⟨b,o,none⟩) n c,.int .i64 24] w1 fun e w'=>e=.returned (.int .i64 (V 6))∧w1.grownBy w' none));have b0:=hb 0;have b1:=hb 1;have b2:=hb 2;have b3:=hb 3;have b4:=hb 4;have b5:=hb 5;have b6:=hb 6;clear hV hb;obtain ⟨V0,e0⟩:∃ x,x=V 0:=⟨_,rfl⟩
  obtain ⟨V1,e1⟩:∃ x,x=V 1:=⟨_,rfl⟩
  obtain ⟨V2,e2⟩:∃ x,x=V 2:=⟨_,rfl⟩
  obtain ⟨V3,e3⟩:∃ x,x=V 3:=⟨_,rfl⟩
  obtain ⟨V4,e4⟩:∃ x,x=V 4:=⟨_,rfl⟩
  obtain ⟨V5,e5⟩:∃ x,x=V 5:=⟨_,rfl⟩
  obtain ⟨V6,e6⟩:∃ x,x=V 6:=⟨_,rfl⟩
  rw [← e0] at b0 GT0 FE;rw [← e1] at b1 GT1 FE;rw [← e2] at b2 GT2 FE;rw [← e3] at b3 GT3 FE;rw [← e4] at b4 GT4 FE;rw [← e5] at b5 GT5 FE;rw [← e6] at b6 GT6;have EV:=Lv (And.intro e2 (And.intro e3 (And.intro e4 (And.intro e5 e6))));clear e0 e1 e2 e3 e4 e5 e6 GT;go_enter Tryz.func45,Tryz.ntmps45;go_wp2_with fail;refine (GT0.o _ G.o).mono ?_
  rintro e wx ⟨rfl,hg⟩;have ZA':=Lv (ZA.o.grown hg);have ZB':=Lv (ZB.o.grown hg);have G':=Lv (Qz G.o hg);clear ZA ZB G hg;have ZA:=ZA';have ZB:=ZB';have G:=G';clear ZA' ZB' G';by_cases h0:V0=4277009103
  ·have d1:(V0 != 4277009103)=false:=by rw [h0];rfl
   have FE0:=Lv (FE.o.trans (if_neg (by rw [h0];decide)));clear FE;have c1:V2.tmod 16777216=V2 % 16777216:=Int.tmod_eq_emod_of_nonneg b2.1;have c3:V6 % 4294967296=V6:=by omega
   have c4:IntKind.u32.wrap V6=V6:=by rw [IntKind.wrap_u32];exact c3
   obtain ⟨s,hs⟩:∃ s,s=V2 % 16777216:=⟨_,rfl⟩
   rw [← hs] at c1 FE0;have HS:=Lv hs;clear hs;go_wp2_with fail;refine (GT2.o _ G.o).mono ?_
   rintro e wx ⟨rfl,hg⟩;have ZA':=Lv (ZA.o.grown hg);have ZB':=Lv (ZB.o.grown hg);have G':=Lv (Qz G.o hg);clear ZA ZB G hg;have ZA:=ZA';have ZB:=ZB';have G:=G';clear ZA' ZB' G';go_wp2_with fail;refine (GT3.o _ G.o).mono ?_
   rintro e wx ⟨rfl,hg⟩;have ZA':=Lv (ZA.o.grown hg);have ZB':=Lv (ZB.o.grown hg);have G':=Lv (Qz G.o hg);clear ZA ZB G hg;have ZA:=ZA';have ZB:=ZB';have G:=G';clear ZA' ZB' G';go_wp2_with fail;refine (GT6.o _ G.o).mono ?_
   rintro e wx ⟨rfl,hg⟩;have ZA':=Lv (ZA.o.grown hg);have ZB':=Lv (ZB.o.grown hg);have G':=Lv (Qz G.o hg);clear ZA ZB G hg;have ZA:=ZA';have ZB:=ZB';have G:=G';clear ZA' ZB' G';have hd:HdAt (wx.alloc (.cells #[.int .i64 s,.int .i64 V3,.int .u32 V6] 97)) wx.heap.size ⟨s,V3,V6⟩:=HdAt.new wx ⟨s,V3,V6⟩;have gh:=grown1 wx (.cells #[.int .i64 s,.int .i64 V3,.int .u32 V6] 97)
   have hgt:w.heap.size + 1 < wx.heap.size:=ZB.o.lt;have ZA':=Lv (ZA.o.grown gh);have ZB':=Lv (ZB.o.grown gh);have ZD:=Lv hd;have G':=Lv (Qz G.o gh);clear ZA ZB G hd gh;have ZA:=ZA';have ZB:=ZB';have G:=G';clear ZA' ZB' G';go_upto_region 7 with fail;obtain ⟨wh,hwh⟩:∃ wh,wx.alloc (.cells #[.int .i64 s,.int .i64 V3,.int .u32 V6] 97)=wh:=⟨_,rfl⟩
   obtain ⟨bh,hbh⟩:∃ bh,wx.heap.size=bh:=⟨_,rfl⟩
   rw [hwh,hbh] at ZD;rw [hwh] at ZA ZB G;rw [hwh];simp only [hbh] at hgt ⊢;clear hwh hbh;go_wp2_with fail;refine (GT1.o _ G.o).mono ?_
   rintro e wy ⟨rfl,hg⟩;have ZA':=Lv (ZA.o.grown hg);have ZB':=Lv (ZB.o.grown hg);have ZD':=Lv (ZD.o.grown hg);have G':=Lv (Qz G.o hg);clear ZA ZB G ZD hg;have ZA:=ZA';have ZB:=ZB';have ZD:=ZD';have G:=G';clear ZA' ZB' G' ZD';have k0:=ZD.o.c0;have k1:=ZD.o.c1;by_cases h1:V1=16777228
   ·have d2:(V1 != 16777228)=false:=by rw [h1];rfl
    by_cases h2:s=0∨s=2
    ·have hsv:(s != 0)=false∨((s != 0)=true∧(s != 2)=false):=by
      rcases h2 with rfl | rfl
      ·exact .inl rfl
      ·exact .inr ⟨rfl,rfl⟩
     have FE1:=Lv (FE0.o.trans (if_neg (by rintro (h | h);exact h h1;exact h h2)));by_cases h3:V3=2∨V3=6
     ·have hkv:(V3 != 2)=false∨((V3 != 2)=true∧(V3 != 6)=false):=by
       rcases h3 with rfl | rfl
       ·exact .inl rfl
       ·exact .inr ⟨rfl,rfl⟩
      have FE2:=Lv (FE1.o.trans (if_neg (fun h=>h h3)));clear FE0 FE1 h1 h2 h3;rcases hsv with s1 | ⟨s1,s2⟩ <;> rcases hkv with k1' | ⟨k1',k2'⟩
      all_goals
       go_wp2_with fail;refine (GT4.o _ G.o).mono ?_
       rintro e wx ⟨rfl,hg⟩;have ZA':=Lv (ZA.o.grown hg);have ZB':=Lv (ZB.o.grown hg);have ZD':=Lv (ZD.o.grown hg);have G':=Lv (Qz G.o hg);clear ZA ZB ZD G hg;have ZA:=ZA';have ZB:=ZB';have ZD:=ZD';have G:=G';clear ZA' ZB' ZD' G';go_wp2_with fail;refine (GT5.o _ G.o).mono ?_
       rintro e wx ⟨rfl,hg⟩;have ZA':=Lv (ZA.o.grown hg);have ZB':=Lv (ZB.o.grown hg);have ZD':=Lv (ZD.o.grown hg);have G':=Lv (Qz G.o hg);clear ZA ZB ZD G hg;have ZA:=ZA';have ZB:=ZB';have ZD:=ZD';have G:=G';clear ZA' ZB' ZD' G';by_cases h4 : 256 < V4
       ·have d4:decide (256 < V4)=true:=by simpa using h4
        have FE3:=Lv (FE2.o.trans (if_pos h4));have HE:=Lv (show Xs ys=11 from Gf FE3.o (by decide));have a0:=ZB.o.c0;have a1:=ZB.o.c1;have a2:=ZB.o.c2;have z0:=ZA.o.c0;have z1:=ZA.o.c1;have z2:=ZA.o.c2;have f0:=ZA.o.fz 0;have f1:=ZA.o.fz 1;have f2:=ZA.o.fz 2;have lta:=ZA.o.lt;go_wp2;have PA:=ZA.o.put ⟨0,0,0⟩
        first | refine bodyPost_ret (Qu rfl _ _ _ rfl rfl rfl rfl (Xh PA)) rfl ?_ | refine bodyPost_ret (Qu rfl _ _ _ rfl rfl rfl rfl (Xh ZA.o)) rfl ?_
        exact Yo.no HE.o (by decide) (by first | exact Qw G.o (Jp (Qq _ _) _ _ _) (Nat.le_refl _) | exact G.o)
       ·have d4:decide (256 < V4)=false:=by simpa using h4
        have FE3:=Lv (FE2.o.trans (if_neg h4));by_cases h5:(n:Int) - 32 < V5
        ·have d5:decide ((n:Int) - 32 < V5)=true:=by simpa using h5
         have FE4:=Lv (FE3.o.trans (if_pos (by rw [HN.o];omega)));have HE:=Lv (show Xs ys=3 from Gf FE4.o (by decide));have a0:=ZB.o.c0;have a1:=ZB.o.c1;have a2:=ZB.o.c2;have z0:=ZA.o.c0;have z1:=ZA.o.c1;have z2:=ZA.o.c2;have f0:=ZA.o.fz 0;have f1:=ZA.o.fz 1;have f2:=ZA.o.fz 2;have lta:=ZA.o.lt;go_wp2;have PA:=ZA.o.put ⟨0,0,0⟩
         first | refine bodyPost_ret (Qu rfl _ _ _ rfl rfl rfl rfl (Xh PA)) rfl ?_ | refine bodyPost_ret (Qu rfl _ _ _ rfl rfl rfl rfl (Xh ZA.o)) rfl ?_
         exact Yo.no HE.o (by decide) (by first | exact Qw G.o (Jp (Qq _ _) _ _ _) (Nat.le_refl _) | exact G.o)
        ·have d5:decide ((n:Int) - 32 < V5)=false:=by simpa using h5
         have FE4:=Lv (FE3.o.trans (if_neg (by rw [HN.o];omega)));obtain ⟨K,hK⟩:∃ K:Nat,V4=K:=⟨V4.toNat,by omega⟩
         obtain ⟨S,hS⟩:∃ S:Nat,V5=S:=⟨V5.toNat,by omega⟩
         have EQ:=Lv (And.intro (hK ▸ EV.o.2.2.1) (hS ▸ EV.o.2.2.2.1));subst hK hS;have hsz:Ry ys=S:=by
          unfold Ry;rw [Ks (by rw [HN.o];omega) 5 (by decide)];show (wd ys 5).toNat=S
          rw [← congrFun VE.o 5,← EQ.o.2];simp
         have hcn:cntF ys=K:=by
          unfold cntF;rw [Ks (by rw [HN.o];omega) 4 (by decide)];show (wd ys 4).toNat=K
          rw [← congrFun VE.o 4,← EQ.o.1];simp
         have hfr:frOf (ys.take 32)=⟨s,V3,V6,K,S⟩:=by
          unfold frOf;rw [Ks (by rw [HN.o];omega) 2 (by decide),Ks (by rw [HN.o];omega) 3 (by decide),Ks (by rw [HN.o];omega) 6 (by decide),Ks (by rw [HN.o];omega) 4 (by decide),Ks (by rw [HN.o];omega) 5 (by decide)];show Fr.mk (wd ys 2 % 16777216) (wd ys 3) (wd ys 6) (wd ys 4) (wd ys 5)=_
          rw [← VE.o,← EV.o.1,← EV.o.2.1,← EQ.o.1,← EQ.o.2,← EV.o.2.2.2.2,← HS.o]
         obtain ⟨zs,hzs⟩:∃ zs,zs=(ys.drop 32).take S:=⟨_,rfl⟩
         have hzl:zs.length=S:=by rw [hzs,List.length_take,List.length_drop,HN.o];omega
         have hzm:Q3 zs:=by rw [hzs];exact fun x hx=>HR.o x (List.mem_of_mem_drop (List.mem_of_mem_take hx))
         have RN:=Lv (show Ri ys=Ye zs K 0 from by unfold Ri;rw [hsz,hcn,hzs]);have ZB0:∀ c',Qk w (some ⟨b,o + 32,none⟩) c' zs:=fun c'=>Qk.mk_at fun i hi=>by
          have hi' : 32 + i < ys.length:=by rw [HN.o];omega
          rw [Nat.add_assoc,HC.o (32 + i) hi',hzs];simp [List.getD,List.getElem?_drop,show i < S by omega]
         obtain ⟨qq,hqq⟩:∃ qq,(if c=32 then some (⟨b,o,none⟩:Addr) else some ⟨b,o + 32,none⟩)=qq:=⟨_,rfl⟩
         have hqb:Qk w qq (c - 32) (zs.drop 0):=by
          rw [← hqq,List.drop_zero]
          split
          ·rw [List.eq_nil_of_length_eq_zero (show zs.length=0 by rw [hzl];omega)]
           exact Qk.empty
          ·exact ZB0 _
         have RF0:RfJ w wx wx zs K S 0 0 [] none 0 qq (c - 32):=⟨Came.start zs K,by omega,by omega,by omega,hqb,World.ownsRow_nil _ _ _ _,Qq _ _,fun m hm=>(by cases hm)⟩
         have RF:=Lv RF0;have ZM:=Lv hzm;have ZL:=Lv hzl;have FR:=Lv hfr;have SZ:=Lv hsz;have i1:(32:Int)≤32 + (S:Int):=by omega
         have i2 : 32 + (S:Int)≤c:=by omega
         have i4:IntKind.i64.wrap (32 + (S:Int))=32 + (S:Int):=IntWalk.i64_in _ (by omega);have i5:(32 + (S:Int)).toNat - 32=S:=by omega
         have hgx:bh < wx.heap.size:=ZD.o.lt;have WX:=Lv (show w.heap.size≤wx.heap.size from G.o.size);clear RF0 hzm hzl hfr hsz hcn hzs ZB0 hqb k0 k1 FE2 FE3 h4 h5 d1 d2 b0 b1 b2 b3 b6 c1 c3 c4 HS EV EQ VE;go_wp2;go_loopw [10,11,12] (fun out rest i wr=>∃ (k p:Nat) (pre:List Cm) (lq:Option Addr) (lc:Nat) (qr:Option Addr) (cr:Nat),i=.int .i64 k∧out=.slice lq k lc∧rest=.slice qr (S - p:Nat) cr∧RfJ w wx wr zs K S k p pre lq lc qr cr) (fun _ _ i _=>K - (intOf i).toNat)
         case atStart=>exact ⟨0,0,[],none,0,qq,c - 32,rfl,rfl,rfl,RF.o⟩
         case round =>
          obtain ⟨k,p,pre,lq,lc,qr,cr,rfl,rfl,rfl,hj⟩:=hrel;have J:=Lv hj;have ZA':=Lv (ZA.o.grown hj.grown);have ZB':=Lv (ZB.o.grown hj.grown);have ZD':=Lv (ZD.o.grown hj.grown);have G':=Lv (Qz G.o hj.grown);have hps:=hj.ps;have hpc:=hj.pc;have hcr:=hj.crm;clear ZA ZB ZD G hj RF;have ZA:=ZA';have ZB:=ZB';have ZD:=ZD';have G:=G';clear ZA' ZB' ZD' G';by_cases hlt:k < K
          ·by_cases h8:p + 8≤S
           ·have d8:decide (((S - p:Nat):Int) < 8)=false:=by simp;omega
            obtain ⟨bq,oq,rfl,hcq⟩:=J.o.rest.2 (by rw [List.length_drop,ZL.o];omega);have HQ:=Lv hcq;clear hcq;have hsm:Q3 (zs.drop p):=fun x hx=>ZM.o x (List.mem_of_mem_drop hx);have RT0:=Lv (fun (w1:World) (hg:w.grownBy w1 none)=>(by
             have h:=Py (w:=w1) (zs.drop p) (J.o.rest.kept hg (by simp)) (by rw [List.length_drop,ZL.o]) hpc hcr hsm 0 (by omega);rw [List.drop_zero] at h;exact h:Calls Tryz.prog 78 #[.slice (some ⟨bq,oq,none⟩) (S - p:Nat) cr,.int .i64 0] w1 fun e w'=>e=.returned (.int .i64 (leN ((zs.drop p).take 4)))∧w1.grownBy w' none))
            have RT4:=Lv (fun (w1:World) (hg:w.grownBy w1 none)=>(by
             have h:=Py (w:=w1) (zs.drop p) (J.o.rest.kept hg (by simp)) (by rw [List.length_drop,ZL.o]) hpc hcr hsm 4 (by omega);rw [List.drop_drop] at h;exact h:Calls Tryz.prog 78 #[.slice (some ⟨bq,oq,none⟩) (S - p:Nat) cr,.int .i64 4] w1 fun e w'=>e=.returned (.int .i64 (szC zs p))∧w1.grownBy w' none))
            have hz:=Gt ZM.o p;have hy:=Gt ZM.o (p + 4);obtain ⟨N,hN⟩:∃ N:Nat,szC zs p=N:=⟨(szC zs p).toNat,by unfold szC;omega⟩
            have hNb:N < 4294967296:=by unfold szC at hN;omega
            have NE:=Lv hN;rw [hN] at RT4;obtain ⟨V,hV⟩:∃ V,leN ((zs.drop p).take 4)=V:=⟨_,rfl⟩
            have VQ:=Lv hV;rw [hV] at RT0 hz;clear hN hV hy hsm;have t1:(N:Int).tmod 8=((N % 8:Nat):Int):=by rw [Int.tmod_eq_emod_of_nonneg (by omega)];omega
            by_cases hA:N < 8
            ·have dA:decide ((N:Int) < 8)=true:=by simp;omega
             have NO:=Lv (J.o.came.bad hlt (fun h=>by have:=h.2.1;rw [NE.o] at this;omega));go_wp2_with fail;refine (RT4.o _ G.o).mono ?_
             rintro e wy ⟨rfl,hg⟩;have ZA':=Lv (ZA.o.grown hg);have ZB':=Lv (ZB.o.grown hg);have ZD':=Lv (ZD.o.grown hg);have G':=Lv (Qz G.o hg);have GY:=Lv hg;clear ZA ZB ZD G hg;have ZA:=ZA';have ZB:=ZB';have ZD:=ZD';have G:=G';clear ZA' ZB' ZD' G';have HE:=Lv (show Xs ys=7 from (by unfold Xs;rw [if_pos FE4.o,RN.o,if_pos NO.o]));have a0:=ZB.o.c0
             have a1:=ZB.o.c1;have a2:=ZB.o.c2;have z0:=ZA.o.c0;have z1:=ZA.o.c1;have z2:=ZA.o.c2;have f0:=ZA.o.fz 0;have f1:=ZA.o.fz 1;have f2:=ZA.o.fz 2;have lta:=ZA.o.lt;go_wp2;have PA:=ZA.o.put ⟨0,0,0⟩
             first | refine bodyPost_ret (Qu rfl _ _ _ rfl rfl rfl rfl (Xh PA)) rfl ?_ | refine bodyPost_ret (Qu rfl _ _ _ rfl rfl rfl rfl (Xh ZA.o)) rfl ?_
             exact Yo.no HE.o (by decide) (by first | exact Qw G.o (Jp (Qq _ _) _ _ _) (Nat.le_refl _) | exact G.o)
            ·have dA:decide ((N:Int) < 8)=false:=by simp;omega
             by_cases hB:N % 8=0
             ·have dB:(((N % 8:Nat):Int) != 0)=false:=by rw [hB];rfl
              by_cases hC:S - p < N
              ·have dC:decide (((S - p:Nat):Int) < (N:Int))=true:=by simp;omega
               have NO:=Lv (J.o.came.bad hlt (fun h=>by have:=h.2.2.2;rw [NE.o,ZL.o] at this;omega));go_wp2_with fail;refine (RT4.o _ G.o).mono ?_
               rintro e wy ⟨rfl,hg⟩;have ZA':=Lv (ZA.o.grown hg);have ZB':=Lv (ZB.o.grown hg);have ZD':=Lv (ZD.o.grown hg);have G':=Lv (Qz G.o hg);have GY:=Lv hg;clear ZA ZB ZD G hg;have ZA:=ZA';have ZB:=ZB';have ZD:=ZD';have G:=G';clear ZA' ZB' ZD' G';have HE:=Lv (show Xs ys=7 from (by unfold Xs;rw [if_pos FE4.o,RN.o,if_pos NO.o]));have a0:=ZB.o.c0
               have a1:=ZB.o.c1;have a2:=ZB.o.c2;have z0:=ZA.o.c0;have z1:=ZA.o.c1;have z2:=ZA.o.c2;have f0:=ZA.o.fz 0;have f1:=ZA.o.fz 1;have f2:=ZA.o.fz 2;have lta:=ZA.o.lt;go_wp2;have PA:=ZA.o.put ⟨0,0,0⟩
               first | refine bodyPost_ret (Qu rfl _ _ _ rfl rfl rfl rfl (Xh PA)) rfl ?_ | refine bodyPost_ret (Qu rfl _ _ _ rfl rfl rfl rfl (Xh ZA.o)) rfl ?_
               exact Yo.no HE.o (by decide) (by first | exact Qw G.o (Jp (Qq _ _) _ _ _) (Nat.le_refl _) | exact G.o)
              ·have dC:decide (((S - p:Nat):Int) < (N:Int))=false:=by simp;omega
               have OK:=Lv (show okN zs p from ⟨by rw [ZL.o];exact h8,by rw [NE.o];omega,by rw [NE.o];omega,by rw [NE.o,ZL.o];omega⟩);go_wp2_with fail;refine (RT4.o _ G.o).mono ?_
               rintro e wy ⟨rfl,hg⟩;have ZA':=Lv (ZA.o.grown hg);have ZB':=Lv (ZB.o.grown hg);have ZD':=Lv (ZD.o.grown hg);have G':=Lv (Qz G.o hg);have GY:=Lv hg;clear ZA ZB ZD G hg;have ZA:=ZA';have ZB:=ZB';have ZD:=ZD';have G:=G';clear ZA' ZB' ZD' G';obtain ⟨m,hm⟩:∃ m:Cm,m=⟨V,some ⟨bq,oq,none⟩,cr,(zs.drop p).take N⟩:=⟨_,rfl⟩
               have hml:m.bytes.length=N:=by rw [hm];show ((zs.drop p).take N).length=N;rw [List.length_take,List.length_drop,ZL.o];omega
               have m1:m.cmd=V:=by rw [hm]
               have m2:m.q=some ⟨bq,oq,none⟩:=by rw [hm]
               have m3:m.cap=cr:=by rw [hm]
               have CN:=Lv (fun (X:World)=>(by
                have h:=CmAt.new X m;rw [hml,m1,m2,m3] at h;exact h:CmAt (X.alloc (.cells #[.int .u32 V,.slice (some ⟨bq,oq,none⟩) N cr] 162)) X.heap.size m))
               have BS:=Lv (Nat.le_trans J.o.grown.size GY.o.size);have KB:=Lv (show (K:Int)≤256 by simpa using d4);have ME:=Lv hm;clear m1 m2 m3;have ML:=Lv hml;have n0:(0:Int)≤(N:Int):=by omega
               have n1:(N:Int)≤(cr:Int):=by omega
               have v1:V % 4294967296=V:=by omega
               have v2:IntKind.u32.wrap V=V:=by rw [IntKind.wrap_u32];exact v1
               clear hm hml;go_wp2;have OW:=Lv (Qy J.o.own GY.o);have GD:=Lv (show w.grownBy wy.drew none from Qj G.o 1);have ZA':=Lv (ZA.o.grown (Qj (Qq wy none) 1));have ZB':=Lv (ZB.o.grown (Qj (Qq wy none) 1));have ZD':=Lv (ZD.o.grown (Qj (Qq wy none) 1));clear ZA ZB ZD;go_region_held3 (fun _=>True)
                (exact trivial)
                (first
                  |(go_simp;go_at_call 78;refine (RT0.o _ GD.o).mono ?_;rintro e x1 ⟨rfl,hg1⟩;have OX:=Lv (Qy OW.o (Qz (Qj (Qq wy none) 1) hg1)))
                  |(refine step_append_cm (by with_reducible rfl) _ _ (by with_reducible rfl) _ k pre (by rfl) (Qy OX.o (grown1 _ _)) m x1.heap.size (by rfl) (CN.o x1) (by have:=KB.o;omega) (by rw [World.size_alloc];have:=BS.o;have h:wy.heap.size≤x1.heap.size:=hg1.size;omega) ?_;intro v' w6 ho6 hg6))
               obtain ⟨q6,c6,rfl⟩:=Qp ho6;obtain ⟨qt,hqt⟩:∃ qt,(if cr=N then some (⟨bq,oq,none⟩:Addr) else some ⟨bq,oq + N,none⟩)=qt:=⟨_,rfl⟩
               have HQT:=Lv hqt;have VB:=Lv hz;clear hqt;go_wp2;have hs:S - p - N=S - (p + N):=by omega
               have hmb:m.bytes=(zs.drop p).take N:=by rw [ME.o]
               have hmc:m.cmd=V:=by rw [ME.o]
               have hib:Qk w m.q m.cap m.bytes:=by
                rw [hmb,ME.o];exact J.o.rest.take N (fun h=>by cases h)
               refine ⟨⟨k + 1,p + N,pre ++ [m],q6,c6,qt,cr - N,by simp,rfl,by rw [hs,HQT.o],?_⟩,by simp [intOf];omega⟩;refine ⟨?_,by omega,by omega,by omega,?_,ho6,?_,?_⟩
               ·have:=J.o.came.step hlt OK.o (m:=m) (by rw [hmc];exact VQ.o.symm) (by rw [hmb,NE.o];rfl)
                rw [NE.o] at this;exact this
               ·rw [← HQT.o]
                split
                · rw [List.eq_nil_of_length_eq_zero (show (zs.drop (p + N)).length=0 by rw [List.length_drop,ZL.o];omega)]
                  exact Qk.empty
                · exact Qk.mk_at fun i hi=>by
                   rw [List.length_drop,ZL.o] at hi;rw [Nat.add_assoc,HQ.o (N + i) (by rw [List.length_drop,ZL.o];omega)];simp [List.getD,List.getElem?_drop,Nat.add_assoc]
               ·exact Jc (Qz (Qz J.o.grown (Qz GY.o (Qz (Qj (Qq wy none) 1) hg1))) (grown1 x1 _)) hg6 (fun g hg=>(OX.o.lt g hg).1) (Nat.le_refl _)
               ·intro m' hm'
                rcases List.mem_append.1 hm' with h | h
                · exact J.o.each m' h
                · rw [List.mem_singleton.1 h]
                  exact ⟨⟨by rw [hmc];exact VB.o,by rw [hmb];exact fun x hx=>ZM.o x (List.mem_of_mem_drop (List.mem_of_mem_take hx)),by rw [ML.o,ME.o];show N≤cr;omega,by rw [ME.o];exact hcr⟩,hib⟩
             ·have dB:(((N % 8:Nat):Int) != 0)=true:=by simp;omega
              have NO:=Lv (J.o.came.bad hlt (fun h=>by have:=h.2.2.1;rw [NE.o] at this;omega));go_wp2_with fail;refine (RT4.o _ G.o).mono ?_
              rintro e wy ⟨rfl,hg⟩;have ZA':=Lv (ZA.o.grown hg);have ZB':=Lv (ZB.o.grown hg);have ZD':=Lv (ZD.o.grown hg);have G':=Lv (Qz G.o hg);have GY:=Lv hg;clear ZA ZB ZD G hg;have ZA:=ZA';have ZB:=ZB';have ZD:=ZD';have G:=G';clear ZA' ZB' ZD' G';have HE:=Lv (show Xs ys=7 from (by unfold Xs;rw [if_pos FE4.o,RN.o,if_pos NO.o]));have a0:=ZB.o.c0
              have a1:=ZB.o.c1;have a2:=ZB.o.c2;have z0:=ZA.o.c0;have z1:=ZA.o.c1;have z2:=ZA.o.c2;have f0:=ZA.o.fz 0;have f1:=ZA.o.fz 1;have f2:=ZA.o.fz 2;have lta:=ZA.o.lt;go_wp2;have PA:=ZA.o.put ⟨0,0,0⟩
              first | refine bodyPost_ret (Qu rfl _ _ _ rfl rfl rfl rfl (Xh PA)) rfl ?_ | refine bodyPost_ret (Qu rfl _ _ _ rfl rfl rfl rfl (Xh ZA.o)) rfl ?_
              exact Yo.no HE.o (by decide) (by first | exact Qw G.o (Jp (Qq _ _) _ _ _) (Nat.le_refl _) | exact G.o)
           ·have d8:decide (((S - p:Nat):Int) < 8)=true:=by simp;omega
            have NO:=Lv (J.o.came.bad hlt (fun h=>by have:=h.1;rw [ZL.o] at this;omega));have HE:=Lv (show Xs ys=7 from (by unfold Xs;rw [if_pos FE4.o,RN.o,if_pos NO.o]));have a0:=ZB.o.c0;have a1:=ZB.o.c1;have a2:=ZB.o.c2;have z0:=ZA.o.c0;have z1:=ZA.o.c1;have z2:=ZA.o.c2;have f0:=ZA.o.fz 0;have f1:=ZA.o.fz 1;have f2:=ZA.o.fz 2;have lta:=ZA.o.lt;go_wp2
            have PA:=ZA.o.put ⟨0,0,0⟩
            first | refine bodyPost_ret (Qu rfl _ _ _ rfl rfl rfl rfl (Xh PA)) rfl ?_ | refine bodyPost_ret (Qu rfl _ _ _ rfl rfl rfl rfl (Xh ZA.o)) rfl ?_
            exact Yo.no HE.o (by decide) (by first | exact Qw G.o (Jp (Qq _ _) _ _ _) (Nat.le_refl _) | exact G.o)
          ·have hkk:k=K:=by have:=J.o.came.1.1;omega
           subst hkk;have DN:=Lv J.o.came.done;have i1:(32:Int) + (S:Int)≤9223372036854775807:=by omega
           have x0:=ZD.o.c0;have x1:=ZD.o.c1;have x2:=ZD.o.c2;have a0:=ZA.o.c0;have a1:=ZA.o.c1;have a2:=ZA.o.c2;have f0:=ZA.o.fz 0;have f1:=ZA.o.fz 1;have f2:=ZA.o.fz 2;have lta:=ZA.o.lt;have ltd:=ZD.o.lt;go_wp2;have PA:=ZA.o.put ⟨s,V3,V6⟩;have gP:=Jp (Qq wr (some w.heap.size)) (.int .i64 s) (.int .i64 V3) (.int .u32 V6);refine bodyPost_ret (Qu rfl _ _ _ rfl rfl rfl rfl (Xh PA)) rfl ?_
           have hz:Xs ys=0:=by unfold Xs;rw [if_pos FE4.o,RN.o,DN.o,if_neg (by simp)]
           have hgw:=Qw G.o gP (Nat.le_refl _);have hown:=J.o.own;have hpl:pre.length=k:=J.o.came.1.2;obtain ⟨hcs,h1,h2⟩:=Tw.of_own hpl (hown.kept gP (.inr (fun e=>by have:=(hown.lt _ e).1;omega))) (fun m hm=>(J.o.each m hm).2.kept hgw (by simp));refine ⟨fun h=>absurd hz h,fun _=>⟨pre,lq,lc,RN.o.trans DN.o,?_,hcs,by omega,h2,fun m hm=>(J.o.each m hm).1⟩,hgw⟩;rw [FR.o,SZ.o,hpl]
           rfl
     ·have p1:(V3 != 2)=true:=by simpa using fun h=>h3 (.inl h)
      have p2:(V3 != 6)=true:=by simpa using fun h=>h3 (.inr h)
      have FE2:=Lv (FE1.o.trans (if_pos h3));rcases hsv with s1 | ⟨s1,s2⟩
      all_goals
       have HE:=Lv (show Xs ys=7 from Gf FE2.o (by decide));have a0:=ZB.o.c0;have a1:=ZB.o.c1;have a2:=ZB.o.c2;have z0:=ZA.o.c0;have z1:=ZA.o.c1;have z2:=ZA.o.c2;have f0:=ZA.o.fz 0;have f1:=ZA.o.fz 1;have f2:=ZA.o.fz 2;have lta:=ZA.o.lt;go_wp2;have PA:=ZA.o.put ⟨0,0,0⟩
       first | refine bodyPost_ret (Qu rfl _ _ _ rfl rfl rfl rfl (Xh PA)) rfl ?_ | refine bodyPost_ret (Qu rfl _ _ _ rfl rfl rfl rfl (Xh ZA.o)) rfl ?_
       exact Yo.no HE.o (by decide) (by first | exact Qw G.o (Jp (Qq _ _) _ _ _) (Nat.le_refl _) | exact G.o)
    ·have s1:(s != 0)=true:=by simpa using fun h=>h2 (.inl h)
     have s2:(s != 2)=true:=by simpa using fun h=>h2 (.inr h)
     have FE1:=Lv (FE0.o.trans (if_pos (.inr h2)));have HE:=Lv (show Xs ys=6 from Gf FE1.o (by decide));have a0:=ZB.o.c0;have a1:=ZB.o.c1;have a2:=ZB.o.c2;have z0:=ZA.o.c0;have z1:=ZA.o.c1;have z2:=ZA.o.c2;have f0:=ZA.o.fz 0;have f1:=ZA.o.fz 1;have f2:=ZA.o.fz 2;have lta:=ZA.o.lt;go_wp2;have PA:=ZA.o.put ⟨0,0,0⟩
     first | refine bodyPost_ret (Qu rfl _ _ _ rfl rfl rfl rfl (Xh PA)) rfl ?_ | refine bodyPost_ret (Qu rfl _ _ _ rfl rfl rfl rfl (Xh ZA.o)) rfl ?_
     exact Yo.no HE.o (by decide) (by first | exact Qw G.o (Jp (Qq _ _) _ _ _) (Nat.le_refl _) | exact G.o)
   ·have d2:(V1 != 16777228)=true:=by simpa using h1
    have FE1:=Lv (FE0.o.trans (if_pos (.inl h1)));have HE:=Lv (show Xs ys=6 from Gf FE1.o (by decide));have a0:=ZB.o.c0;have a1:=ZB.o.c1;have a2:=ZB.o.c2;have z0:=ZA.o.c0;have z1:=ZA.o.c1;have z2:=ZA.o.c2;have f0:=ZA.o.fz 0;have f1:=ZA.o.fz 1;have f2:=ZA.o.fz 2;have lta:=ZA.o.lt;go_wp2;have PA:=ZA.o.put ⟨0,0,0⟩
    first | refine bodyPost_ret (Qu rfl _ _ _ rfl rfl rfl rfl (Xh PA)) rfl ?_ | refine bodyPost_ret (Qu rfl _ _ _ rfl rfl rfl rfl (Xh ZA.o)) rfl ?_
    exact Yo.no HE.o (by decide) (by first | exact Qw G.o (Jp (Qq _ _) _ _ _) (Nat.le_refl _) | exact G.o)
  ·have d1:(V0 != 4277009103)=true:=by simpa using h0
   have FE0:=Lv (FE.o.trans (if_pos h0));have HE:=Lv (show Xs ys=5 from Gf FE0.o (by decide));have a0:=ZB.o.c0;have a1:=ZB.o.c1;have a2:=ZB.o.c2;have z0:=ZA.o.c0;have z1:=ZA.o.c1;have z2:=ZA.o.c2;have f0:=ZA.o.fz 0;have f1:=ZA.o.fz 1;have f2:=ZA.o.fz 2;have lta:=ZA.o.lt;go_wp2;have PA:=ZA.o.put ⟨0,0,0⟩
   first | refine bodyPost_ret (Qu rfl _ _ _ rfl rfl rfl rfl (Xh PA)) rfl ?_ | refine bodyPost_ret (Qu rfl _ _ _ rfl rfl rfl rfl (Xh ZA.o)) rfl ?_
   exact Yo.no HE.o (by decide) (by first | exact Qw G.o (Jp (Qq _ _) _ _ _) (Nat.le_refl _) | exact G.o)
end
theorem cmdsN_may {xs:List Int} (hs:Q3 xs):∀ (n p:Nat) (l:List (Int × List Int)),Ye xs n p=some l→∀ d∈l,(0≤d.1∧d.1 < 4294967296)∧Q3 d.2∧mayB d.1 d.2=true
 | 0,_,l,h,d,hd=>by
  rw [Ye] at h;injection h with h;subst h;cases hd
 | n + 1,p,l,h,d,hd=>by
  rw [Ye] at h;by_cases ho:okN xs p
  ·rw [if_pos ho] at h
   obtain ⟨l',hl',rfl⟩:=Option.map_eq_some_iff.1 h;rcases List.mem_cons.1 hd with rfl | hd
   ·refine ⟨Gt hs p,fun x hx=>hs x (List.mem_of_mem_drop (List.mem_of_mem_take hx)),may_of_ok ?_ ho⟩
    have:=ho.2.1
    omega
   ·exact cmdsN_may hs n _ l' hl' d hd
  ·rw [if_neg ho] at h
   cases h
def Mk (ys:List Int):List (Int × List Int):=if Xs ys=0 then (Ri ys).getD [] else []
def Tf (ys:List Int):Hd:=if Xs ys=0 then Hd.of (frOf (ys.take 32)) else ⟨0,0,0⟩
def readZ (ys:List Int):Nat:=if Xs ys=0 then 32 + Ry ys else 0
theorem readL_may {ys:List Int} (hs:Q3 ys):∀ d∈Mk ys,(0≤d.1∧d.1 < 4294967296)∧Q3 d.2∧mayB d.1 d.2=true:=by
 intro d hd;unfold Mk at hd
 split at hd
 ·cases h:Ri ys with
  | none=>rw [h] at hd;cases hd
  | some l =>
   rw [h] at hd;exact cmdsN_may (fun x hx=>hs x (List.mem_of_mem_drop (List.mem_of_mem_take hx))) _ _ l h d hd
 ·cases hd
theorem readZ_lt {ys:List Int} (hs:Q3 ys):readZ ys < 4294967328:=by
 unfold readZ;have w5:=wordN_bd (show Q3 (ys.take 32) from fun x hx=>hs x (List.mem_of_mem_take hx)) 5
 have:Ry ys < 4294967296:=by unfold Ry;omega
 split <;> omega
theorem RefRead_all (ys:List Int) (q:Option Addr) (c n:Nat) (h:Qk w q c ys) (hn:ys.length=n) (hc:n≤c) (hcm:c≤9223372036854775807) (hn47:n≤140737488355328) (hr:Q3 ys) :
  Calls Tryz.prog 45 #[.slice q n c] w fun e w'=>∃ pre q' c',pre.map Cm.d=Mk ys∧e=.returned (.tuple #[(Tf ys).v,.slice q' pre.length c',.int .i64 (readZ ys),.int .i64 (Xs ys)])∧Tw w' q' pre∧pre.length≤c'∧c'≤9223372036854775807∧(∀ m∈pre,m.Fits)∧w.grownBy w' none:=by
 refine (RefRead_any ys q c n h hn hc hcm hn47 hr).mono ?_
 rintro e w' ⟨hbad,hgood,hg⟩;by_cases h0:Xs ys=0
 ·obtain ⟨pre,q',c',hp,rfl,hI,h1,h2,hF⟩:=hgood h0
  unfold Mk Tf readZ;rw [if_pos h0,if_pos h0,if_pos h0,hp,h0];exact ⟨pre,q',c',rfl,rfl,hI,h1,h2,hF,hg⟩
 ·rw [hbad h0]
  unfold Mk Tf readZ;rw [if_neg h0,if_neg h0,if_neg h0];exact ⟨[],none,0,rfl,rfl,(fun h=>by cases h),by simp,by omega,(fun m h=>by cases h),hg⟩
def Zp (w:World) (g:Nat) (h:Hx) (s:St) (sv dv:Value):Prop:=w.heap[g]?=some (.cells (Qf h s sv dv) 48 (0,0))
def imgV (h:Hx) (s:St) (sv dv:Value):Value:=.agg (Qf h s sv dv)
theorem Zp.kept {g:Nat} {h:Hx} {s:St} {sv dv:Value} {r:Option Nat} (k:Zp w g h s sv dv) (hg:w.grownBy w' r) (hr:r≠some g):Zp w' g h s sv dv:=(hg.block g (lt_of_block k) (fun e=>hr e.symm)).trans k
theorem Zp.c {g:Nat} {h:Hx} {s:St} {sv dv:Value} (k:Zp w g h s sv dv) (i:Nat) (v:Value) (hv:(Qf h s sv dv)[i]?=some v):w.cell? ⟨g,i,none⟩=some v:=by rw [Qm k];exact hv
theorem Yn {fn:Func} {p u:Tmp} (hr:fn.results=#[.cell p 48,.tmp u]) {tmps:Array Value} {v:Value} {g:Nat} {h:Hx} {s:St} {sv dv:Value} (hp:tmps.getD p undef=.pointer (some ⟨g,0,none⟩)) (hu:tmps.getD u undef=v) (k:Zp w g h s sv dv) :
  (results fn tmps).run Tryz.prog w=.ok (.tuple #[imgV h s sv dv,v]) w:=by
 rw [results_cell_tmp hr,hp,hu,show (asAddr (.pointer (some ⟨g,0,none⟩)):Sem Addr).run Tryz.prog w=.ok ⟨g,0,none⟩ w from rfl,Result.andThen_ok,run_loadVar_row w g _ _ _ _ _ k Tryz.underlying48 rfl (by kernel_rfl),Result.andThen_ok];rfl
theorem Za {g:Nat} (w:World) (cs:Array Value):w.grownBy (w.setRow g cs) (some g) :=
 ⟨rfl,rfl,rfl,by simp,fun k _ hn=>setRow_other w g k cs (fun e=>hn (by rw [e]))⟩
def Hx.zero:Hx:=⟨0,0,0⟩
theorem Zp.new (w:World):Zp (w.alloc (.cells #[.int .i64 0,.int .i64 0,.int .u32 0,.string ⟨#[]⟩,.slice none 0 0,.slice none 0 0,.int .u64 0,.int .u64 0,.int .u64 0,.int .u64 0,.int .u64 0,.int .u64 0,.int .u64 0,.int .u64 0,.int .u64 0,.int .u64 0,.int .u64 0,.int .u64 0,.int .u64 0,.int .u64 0,.int .u64 0,.int .u64 0,.int .u64 0,.bool false] 48)) w.heap.size Hx.zero St.zero (.slice none 0 0) (.slice none 0 0):=heap_alloc_new w _
theorem Zp.put {g:Nat} {h0 h:Hx} {s0 s:St} {sv0 dv0 sv dv:Value} (k:Zp w g h0 s0 sv0 dv0):Zp (w.setRow g (Qf h s sv dv)) g h s sv dv:=setRow_heap w g _ _ _ _ k
theorem Sw:(Tryz.prog.info? 48).map (·.size)=some 24:=by kernel_rfl
theorem imgArr_one (h:Hx) (s:St) {sv dv:Value} (h1:∃ q n c,sv=.slice q n c) (h2:∃ q n c,dv=.slice q n c):(Qf h s sv dv).all (·.oneCell')=true:=by
 obtain ⟨q,n,c,rfl⟩:=h1;obtain ⟨q',n',c',rfl⟩:=h2;simp [Qf,Value.oneCell']
theorem Zx {g:Nat} {h0 h:Hx} {s0 s:St} {sv0 dv0 sv dv:Value} {ops:Array Oper} {rest:List Oper} {o:Oper} {a:Act} {Q:Exit→Act→World→Prop} (hgd:o.guard=none) (x y:Operand) (ho:o.op=.store 48 x y)
  (hx:a.eval x=.pointer (some ⟨g,0,none⟩)) (hy:a.eval y=imgV h s sv dv) (k:Zp w g h0 s0 sv0 dv0) (h1:∃ q n c,sv=.slice q n c) (h2:∃ q n c,dv=.slice q n c)
  (hK:wpList Tryz.prog ops Q rest (a.put o.dst undef) (w.setRow g (Qf h s sv dv))):wpList Tryz.prog ops Q (o :: rest) a w :=
 wpList_store_row hgd _ x y ho g (Qf h s sv dv) hx hy _ _ k Sw rfl (imgArr_one h s h1 h2) hK
theorem cmdsN_len {xs:List Int}:∀ (n p:Nat) (l:List (Int × List Int)),Ye xs n p=some l→l.length=n
 | 0,_,l,h=>by rw [Ye] at h;injection h with h;subst h;rfl
 | n + 1,p,l,h=>by
  rw [Ye] at h
  split at h
  ·obtain ⟨l',hl',rfl⟩:=Option.map_eq_some_iff.1 h
   rw [List.length_cons,cmdsN_len n _ l' hl']
  ·cases h
theorem cmdsN_short {xs:List Int}:∀ (n p:Nat) (l:List (Int × List Int)),Ye xs n p=some l→∀ d∈l,d.2.length≤xs.length
 | 0,_,l,h,d,hd=>by rw [Ye] at h;injection h with h;subst h;cases hd
 | n + 1,p,l,h,d,hd=>by
  rw [Ye] at h
  split at h
  ·obtain ⟨l',hl',rfl⟩:=Option.map_eq_some_iff.1 h
   rcases List.mem_cons.1 hd with rfl | hd
   ·show ((xs.drop p).take _).length≤_
    rw [List.length_take,List.length_drop];omega
   ·exact cmdsN_short n _ l' hl' d hd
  ·cases h
theorem readL_len (ys:List Int):(Mk ys).length≤256∧∀ d∈Mk ys,d.2.length≤ys.length:=by
 unfold Mk
 split
 ·rename_i h0
  have hf:Wc (ys.take 32) ys.length=0:=by
   unfold Xs at h0;by_cases h:Wc (ys.take 32) ys.length=0
   ·exact h
   ·rw [if_neg h] at h0;exact absurd h0 h
  have hc:cntF ys≤256:=by
   unfold Wc at hf;unfold cntF
   split at hf;cases hf
   split at hf;cases hf
   split at hf;cases hf
   split at hf;cases hf
   split at hf;cases hf
   omega
  cases hr:Ri ys with
  | none=>exact ⟨Nat.zero_le _,fun d hd=>by cases hd⟩
  | some l =>
   refine ⟨by rw [Option.getD_some,cmdsN_len _ _ _ hr];exact hc,fun d hd=>?_⟩
   have:=cmdsN_short _ _ _ hr d hd
   rw [List.length_take,List.length_drop] at this;omega
 ·exact ⟨Nat.zero_le _,fun d hd=>by cases hd⟩
structure Wl (k:Nat) (s:St):Prop where
 met:s.met.length≤2 * k
 deps:s.deps.length≤64
 segs:s.segs.length≤16
 secs : 0≤s.secs∧s.secs≤64
theorem Wl.zero:Wl 0 St.zero:=⟨Nat.le_refl _,by decide,by decide,by decide⟩
theorem fine_trie {k:Nat} {s:St} (h:Wl k s) (hm:s.met.length≤2 * k + 1) (x:Int × Int):Wl (k + 1) (Km s x):=by
 unfold Km
 split
 ·exact ⟨by omega,h.deps,h.segs,h.secs⟩
 ·exact ⟨by show (s.met ++ [2147483699]).length≤_;rw [List.length_append];show s.met.length + 1≤_;omega,h.deps,h.segs,h.secs⟩
theorem fine_step {k:Nat} {s:St} {b:List Int} (h:Wl k s) (h0:Zs s b=0):Wl (k + 1) (Zg s b):=by
 have hm:=h.met;have one:∀ (t:St) (x:Int),t.met=s.met→t.deps=s.deps→t.segs=s.segs→t.secs=s.secs→Wl (k + 1) (t.meet x):=fun t x e1 e2 e3 e4 =>
  ⟨by show (t.met ++ [x]).length≤_;rw [List.length_append,e1];show s.met.length + 1≤_;omega,by show t.deps.length≤_;rw [e2];exact h.deps,by show t.segs.length≤_;rw [e3];exact h.segs,by show 0≤t.secs∧t.secs≤_;rw [e4];exact h.secs⟩
 unfold Zs at h0;unfold Zg;by_cases c1:Qd b=25
 ·rw [if_pos c1] at h0 ⊢
  unfold segE at h0
  split at h0
  ·rename_i hh;exact absurd h0 hh
  ·split at h0
   ·cases h0
   ·rename_i _ hh
    have hs:=h.segs;have hc:=h.secs;refine ⟨by show s.met.length≤_;omega,h.deps,?_,?_⟩
    ·show (s.segs ++ [Ky b]).length≤16
     rw [List.length_append];show s.segs.length + 1≤_;omega
    ·show 0≤s.secs + ((Ky b).secs.length:Int)∧s.secs + ((Ky b).secs.length:Int)≤64
     omega
 rw [if_neg c1] at h0 ⊢;by_cases c2:Qd b=13
 ·rw [if_pos c2]
  exact one { s with name:=Vz b } 13 rfl rfl rfl rfl
 rw [if_neg c2] at h0 ⊢;by_cases c3:Xr (Qd b)≠0
 ·rw [if_pos c3] at h0 ⊢
  unfold depE at h0
  split at h0
  ·rename_i hh;exact absurd h0 hh
  ·split at h0
   ·cases h0
   ·rename_i _ hh
    have hd:=h.deps;refine ⟨by show s.met.length≤_;omega,?_,h.segs,h.secs⟩;show (s.deps ++ [(Vz b,Xr (Qd b))]).length≤64
    rw [List.length_append];show s.deps.length + 1≤_;omega
 rw [if_neg c3] at h0 ⊢;by_cases c4:Xq (Qd b)∨J1 (Qd b)∨Qd b=2
 ·rw [if_pos c4]
  unfold spS
  split
  ·have hI:Wl k (Vr s b)∨True:=.inr trivial
   have hmet:(Vr s b).met.length=s.met.length + 1:=by show (s.met ++ [34]).length=_;rw [List.length_append];rfl
   unfold Km
   split
   ·exact ⟨by rw [hmet];omega,h.deps,h.segs,h.secs⟩
   ·exact ⟨by show ((Vr s b).met ++ [2147483699]).length≤_;rw [List.length_append,hmet];show s.met.length + 1 + 1≤_;omega,h.deps,h.segs,h.secs⟩
  ·split
   ·exact fine_trie h (by omega) _
   ·split
    ·exact one { s with ch:=Qb b 8 1 } _ rfl rfl rfl rfl
    ·exact one { s with sy:=Qb b 8 16,st:=Qb b 16 1 } _ rfl rfl rfl rfl
 rw [if_neg c4];by_cases c5:Qd b=2147483688
 ·rw [if_pos c5]
  exact one { s with entry:=Qc b 8 8,has:=true } 2147483688 rfl rfl rfl rfl
 rw [if_neg c5];exact ⟨by omega,h.deps,h.segs,h.secs⟩
def Ke (ys:List Int):List (List Int):=(Mk ys).map Prod.snd
def Yq (ys:List Int):Int:=if Xs ys≠0 then Xs ys else runE St.zero (Ke ys)
def Po (ys:List Int):St:=runS St.zero (Ke ys)
def Lj (ys:List Int):Hx:=⟨(Tf ys).kind,(Tf ys).sub,(Tf ys).flags⟩
structure Ya (w:World) (lo:Nat) (s:St) (sv dv:Value):Prop where
 segs:∃ l:List Sg,l.map Sg.seg=s.segs∧w.ownsRow lo 121 7 sv l.length (l.flatMap sgCs)∧∀ x∈l,w.ownsRow lo 118 6 x.v x.seg.secs.length (x.seg.secs.flatMap J6)
 deps:w.ownsRow lo 124 2 dv s.deps.length (s.deps.flatMap Bi)
theorem take_snocI {α:Type} {l:List α} {k:Nat} {x : α} (h:l[k]?=some x):l.take (k + 1)=l.take k ++ [x]:=by
 rw [List.take_add_one,h];rfl
theorem Rc : 121≠48∧118≠48∧124≠48:=by decide
theorem Ya.kept {lo g:Nat} {s s0:St} {sv dv sv0 dv0:Value} {h0:Hx} (k:Ya w lo s sv dv) (hg:w.grownBy w' (some g)) (z:Zp w g h0 s0 sv0 dv0):Ya w' lo s sv dv:=by
 obtain ⟨l,a2,a3,a4⟩:=k.segs;exact ⟨⟨l,a2,a3.kept hg (Ja a3 z Rc.1),fun x hx=>(a4 x hx).kept hg (Ja (a4 x hx) z Rc.2.1)⟩,k.deps.kept hg (Ja k.deps z Rc.2.2)⟩
theorem Ya.grown {lo:Nat} {s:St} {sv dv:Value} (k:Ya w lo s sv dv) (hg:w.grownBy w' none):Ya w' lo s sv dv:=by
 obtain ⟨l,a2,a3,a4⟩:=k.segs;exact ⟨⟨l,a2,Qy a3 hg,fun x hx=>Qy (a4 x hx) hg⟩,Qy k.deps hg⟩
section
noncomputable section
def imgH (ys:List Int):Hx:=if Yq ys=0 then Lj ys else Hx.zero
def imgS (ys:List Int):St:=if Yq ys=0 then Po ys else St.zero
end
theorem wpList_load_imgW {g:Nat} {h:Hx} {s:St} {sv dv:Value} {ops:Array Oper} {rest:List Oper} {o:Oper} {a:Act} {Q:Exit→Act→World→Prop} (hw:Region.wanted o (yielded ops a.tmps)=true) (x:Operand) (ho:o.op=.load 48 x)
  (hx:a.eval x=.pointer (some ⟨g,0,none⟩)) (k:Zp w g h s sv dv) (hK:wpList Tryz.prog ops Q rest (a.put o.dst (imgV h s sv dv)) w):wpList Tryz.prog ops Q (o :: rest) a w :=
 BigFrame.wpList_want hw fun _ hK'=>wp_load_row _ x ho g hx _ _ _ _ k Tryz.underlying48 rfl (by kernel_rfl) (hK' _ _ hK)
end
section
def Zq (a b c:Int):Bool:=decide (a + b≤c)
def Jj (s:Seg):Bool:=(s.prot != 0) || (s.fsize != 0)
def Yf (s:Seg):Bool:=(decide (0 < s.prot) && decide (s.prot≤7)) || ((s.prot == 0) && (s.fsize == 0))
def Yz (s:Seg) (n:Int):Bool:=(s.addr % 4096 == 0) && (s.size % 4096 == 0) && decide (0 < s.size) && decide (s.fsize≤s.size) && Zq s.off s.fsize n && Zq s.addr s.size 140737488355328
def wrOk (s:Seg):Bool:=(s.prot == 2) || (s.prot == 3) || (s.prot == 6) || (s.prot == 7)
def U64 (x:Int):Prop:=0≤x∧x < 18446744073709551616
structure Pc (s:Seg):Prop where
 addr:U64 s.addr
 size:U64 s.size
 off:U64 s.off
 fsize:U64 s.fsize
 prot : -9223372036854775808≤s.prot∧s.prot≤9223372036854775807
section
variable (s:Seg) (q:Option Addr) (n c:Nat)
theorem isLaid_any:Calls Tryz.prog 126 #[segV s (.slice q n c)] w fun e w'=>e=.returned (.bool (Jj s))∧w.grownBy w' none:=by
 obtain ⟨nm,ad,sz,of,fs,pr,sl⟩:=s;have G:=Lv (grown1 w (.cells #[.string (strOfNums nm),.int .u64 ad,.int .u64 sz,.int .u64 of,.int .u64 fs,.int .i64 pr,.slice q n c] 121));unfold Jj segV Vi;simp only [];cases h1:(pr != 0)
 ·cases h2:(fs != 0)
  all_goals
   go_enter Tryz.func126,Tryz.ntmps126;go_wp2;go_ret
   exact ⟨rfl,G.o⟩
 ·go_enter Tryz.func126,Tryz.ntmps126
  go_wp2;go_ret
  exact ⟨rfl,G.o⟩
theorem Ro:Calls Tryz.prog 89 #[segV s (.slice q n c)] w fun e w'=>e=.returned (.bool (!Jj s))∧w.grownBy w' none:=by
 obtain ⟨nm,ad,sz,of,fs,pr,sl⟩:=s;have G:=Lv (grown1 w (.cells #[.string (strOfNums nm),.int .u64 ad,.int .u64 sz,.int .u64 of,.int .u64 fs,.int .i64 pr,.slice q n c] 121));unfold Jj segV Vi;simp only [];have e1:(pr != 0)=!(pr == 0):=rfl;have e2:(fs != 0)=!(fs == 0):=rfl;rw [e1,e2];clear e1 e2;cases h1:(pr == 0)
 ·go_enter Tryz.func89,Tryz.ntmps89
  go_wp2;go_ret
  exact ⟨rfl,G.o⟩
 ·cases h2:(fs == 0)
  all_goals
   go_enter Tryz.func89,Tryz.ntmps89;go_wp2;go_ret
   exact ⟨rfl,G.o⟩
end
theorem J9 (a b c:Int) (ha:U64 a) (hb:U64 b) (hc:U64 c) (w:World) :
  Calls Tryz.prog 81 #[.int .u64 a,.int .u64 b,.int .u64 c] w fun e w'=>e=.returned (.bool (Zq a b c))∧w=w':=by
 obtain ⟨h1,h2⟩:=ha;obtain ⟨h3,h4⟩:=hb;obtain ⟨h5,h6⟩:=hc;unfold Zq;by_cases h:b≤c
 ·have d1:decide (b≤c)=true:=by simpa using h
  have m1:(c - b) % 18446744073709551616=c - b:=by omega
  have m2:IntKind.u64.wrap (c - b)=c - b:=by rw [IntKind.wrap_u64];exact m1
  have e:decide (a + b≤c)=decide (a≤c - b):=by simp only [decide_eq_decide];omega
  rw [e];clear e h;go_enter Tryz.func81,Tryz.ntmps81;go_wp2;go_ret
  exact ⟨rfl,rfl⟩
 ·have d1:decide (b≤c)=false:=by simp;omega
  have e:decide (a + b≤c)=false:=by simp;omega
  rw [e];clear e h;go_enter Tryz.func81,Tryz.ntmps81;go_wp2;go_ret
  exact ⟨rfl,rfl⟩
end
section
variable {w w':World} {g:Nat} {h:Hx} {s:St} {sv dv:Value} {n hd:Int}
structure Pt (x:Sec):Prop where
 addr:U64 x.addr
 size:U64 x.size
 off:U64 x.off
def Rb (s:Seg) (x:Sec):Bool:=if x.addr < s.addr then false else if x.kind=1 then Zq (x.addr - s.addr) x.size s.size else Zq (x.addr - s.addr) x.size s.fsize && (x.off == (s.off + (x.addr - s.addr)) % 18446744073709551616)
end
def Sq (x:Seg):List UInt8:=(strOfNums x.name).toList
def Hb (x y:Seg):Prop:=Sq x≠Sq y∧x.addr + x.size≤y.addr
instance (x y:Seg):Decidable (Hb x y):=inferInstanceAs (Decidable (_∧_))
def Gn (l:List Seg) (hd:Int):Bool:=match l.find? Jj with
 | none=>false
 | some x=>(x.off == 0) && decide (hd≤x.fsize) && (x.prot % 2 == 1) && !wrOk x
def lowN (l:List Seg):Int:=match l.find? Jj with
 | none=>0
 | some x=>x.addr
def Hm (l:List Seg):Int:=l.foldl (fun a x=>if Jj x=true then max a ((x.addr + x.size) % 18446744073709551616) else a) 0
def Zw (s:St):List (Int × Int):=[s.rb,s.bd,s.wk,s.lz,s.tr,s.ch,s.sy,s.st]
def Wq (s:St) (n:Int):Bool:=(Zw s).all (fun x=>Zq x.1 x.2 n)
def Sf (s:St):Bool:=!s.has || decide (s.entry < (Hm s.segs - lowN s.segs) % 18446744073709551616)
def Kp (h:Hx) (s:St):Bool:=(h.kd == 6) == !(strOfNums s.name).toList.isEmpty
def Yp (s:St) (n hd:Int):Bool:=s.segs.all Yf && s.segs.all (fun x=>Yz x n) && decide (s.segs.Pairwise Hb) && Gn s.segs hd
def Mu (s:St):Bool:=s.segs.all (fun z=>z.secs.all (Rb z))
def mayN (h:Hx) (s:St) (n hd:Int):Int :=
 if Yp s n hd=false then 8 else if Mu s=false then 9 else if (Wq s n && (s.sy.2 % 16 == 0) && Sf s)=false then 4 else if Kp h s=false then 10 else 0
end Go.Proofs.YtkmbkpoclhbmgaaGreat
