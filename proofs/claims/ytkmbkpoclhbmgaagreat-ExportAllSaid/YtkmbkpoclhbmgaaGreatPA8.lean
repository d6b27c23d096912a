/- Parts of the proof, put together: RMs, RMt. No condition beyond those that each part names. -/
import Derived.Test.YtkmbkpoclhbmgaaGreatPA7
set_option maxRecDepth 20000
set_option maxHeartbeats 6400000
namespace Go.Proofs.YtkmbkpoclhbmgaaGreat
open Go.RowKit
variable {w w' W V:World}
def natI (l:List Nat):List Int:=List.map (fun p:Nat=>(p:Int)) l
theorem Pw {l:List Nat} {i:Nat} (h:i < l.length):(natI l)[i]?=some ((l.getD i 0:Nat):Int):=by
 unfold natI;rw [List.getElem?_map,List.getElem?_eq_getElem h,List.getD_eq_getElem?_getD,List.getElem?_eq_getElem h];rfl
theorem Yy (l:List Int):l.flatMap Jl=l.map (Value.int .i64):=by
 induction l with
 | nil=>rfl
 | cons x l ih=>rw [List.flatMap_cons,ih];rfl
theorem M0 (x:Int):∀ u∈[Value.int .i64 x],u.oneCell'=true:=fun u hu=>by rw [List.mem_singleton.1 hu];rfl
structure KdS (B:Nat) (W:World) (n:Nat) (vk vo:Value) (st:List Nat) (K:Nat→List Nat):Prop where
 row:∃ vs:List Value,W.ownsRow B 80 1 vk n vs∧(∀ (j:Nat) (v:Value),vs[j]?=some v→W.ownsRow B 3 1 v (K j).length ((natI (K j)).flatMap Jl)) ∧
  (∀ (i j:Nat) (u v:Value) (g:Nat),i≠j→vs[i]?=some u→vs[j]?=some v→u.ownBlock=some g→v.ownBlock≠some g)∧(∀ (j:Nat) (v:Value) (g:Nat),vs[j]?=some v→v.ownBlock=some g→vo.ownBlock≠some g)
 op:W.ownsRow B 3 1 vo st.length ((natI st.reverse).flatMap Jl)
theorem KdS.grown {B n:Nat} {vk vo:Value} {st:List Nat} {K:Nat→List Nat} (h:KdS B W n vk vo st K) (g:W.grownBy V none):KdS B V n vk vo st K:=by
 obtain ⟨vs,h1,h2,h3,h4⟩:=h.row;exact ⟨⟨vs,Qy h1 g,fun j v hv=>Qy (h2 j v hv) g,h3,h4⟩,Qy h.op g⟩
theorem KdS.new {B n c g:Nat} (h:W.ownsRow B 80 1 (.slice (some ⟨g,0,none⟩) n c) n (List.replicate n (.slice none 0 0))):KdS B W n (.slice (some ⟨g,0,none⟩) n c) (.slice none 0 0) [] (fun _=>[]):=by
 have hnil:∀ (j:Nat) (v:Value),(List.replicate n (Value.slice none 0 0))[j]?=some v→v=.slice none 0 0:=fun j v hv=>by
  rw [List.getElem?_replicate] at hv
  split at hv
  ·injection hv with hv;exact hv.symm
  ·cases hv
 refine ⟨⟨_,h,fun j v hv=>?_,fun i j u v g _ hu _ hg=>?_,fun j v g hv hg=>?_⟩,World.ownsRow_nil _ _ _ _⟩
 ·rw [hnil j v hv];exact World.ownsRow_nil _ _ _ _
 ·rw [hnil i u hu] at hg;cases hg
 ·rw [hnil j v hv] at hg;cases hg
theorem run_step (N:List (List Int)) (i:Nat) (st:StK):runK N (i + 1) 0 st=Tv N i (runK N i 0 st):=by
 rw [Rj N i 1 0 st,Nat.zero_add];rfl
structure KdL (B:Nat) (w4 wr:World) (N:List (List Int)) (m:Nat) (vk v8 v9:Value):Prop where
 ex:∃ (i:Nat) (st:List Nat) (K:Nat→List Nat) (q:Option Addr) (c:Nat),i≤m∧v9=.int .i64 (i:Int)∧v8=.slice q st.length c∧runK N i 0 ([],fun _=>[])=(st,K)∧KdS B wr m vk (.slice q st.length c) st K∧(∀ s∈st,s < i)∧st.length≤i∧∀ j,(K j).length≤i
 grown:w4.grownBy wr none
structure KdP (B:Nat) (w4 wr:World) (N:List (List Int)) (nm:List Int) (m i:Nat) (vk v8:Value) (st:List Nat) (K:Nat→List Nat):Prop where
 ex:∃ (st':List Nat) (q:Option Addr) (c:Nat),v8=.slice q st'.length c∧popN N nm st'=popN N nm st∧KdS B wr m vk (.slice q st'.length c) st' K∧(∀ s∈st',s < i)∧st'.length≤i
 grown:w4.grownBy wr none
theorem pop_no {N:List (List Int)} {nm:List Int} {a:Nat} {st:List Nat} (h:preB (N.getD a []) nm=false):popN N nm (a :: st)=popN N nm st:=by
 unfold popN;rw [List.dropWhile_cons,h];rfl
theorem pop_yes {N:List (List Int)} {nm:List Int} {a:Nat} {st:List Nat} (h:preB (N.getD a []) nm=true):popN N nm (a :: st)=a :: st:=by
 unfold popN;rw [List.dropWhile_cons,h];rfl
theorem KdS.pop {B n c a:Nat} {vk:Value} {q:Option Addr} {st:List Nat} {K:Nat→List Nat} (h:KdS B W n vk (.slice q (a :: st).length c) (a :: st) K):KdS B W n vk (.slice q st.length c) st K:=by
 obtain ⟨vs,h1,h2,h3,h4⟩:=h.row;refine ⟨⟨vs,h1,h2,h3,fun j v g hv hg=>?_⟩,?_⟩
 ·have:=h4 j v g hv hg
  cases q with
  | none=>exact this
  | some ad=>exact this
 ·have h5:=own_shrink h.op (m:=st.length) (by simp)
  rw [Nat.mul_one,Yy,← List.map_take] at h5;rw [Yy];have e:(natI (a :: st).reverse).take st.length=natI st.reverse:=by
   unfold natI;rw [← List.map_take,List.reverse_cons,List.take_left' (by simp)]
  rw [e] at h5;exact h5
theorem KdS.top {B n c m a:Nat} {vk:Value} {q:Option Addr} {st:List Nat} {K:Nat→List Nat} (h:KdS B W n vk (.slice q m c) (a :: st) K):m=st.length + 1∧∃ g,q=some ⟨g,0,none⟩∧W.cell? ⟨g,st.length,none⟩=some (.int .i64 (a:Int)):=by
 have hm:m=st.length + 1:=by
  rcases h.op.2 with ⟨e,e0⟩ | ⟨_,_,_,e,_⟩
  ·simp at e0
  ·injection e
 subst hm;have h1:Kq W q (natI (a :: st).reverse):=Kq.of (n:=st.length + 1) (c:=c) h.op;have h2:(natI (a :: st).reverse)[st.length]?=some (a:Int):=by
  unfold natI;rw [List.getElem?_map,List.reverse_cons,List.getElem?_append_right (by simp)];simp
 obtain ⟨g,e,hc⟩:=h1 _ _ h2;exact ⟨rfl,g,e,hc⟩
theorem KdS.push {B n i:Nat} {vk vo v':Value} {st:List Nat} {K:Nat→List Nat} (h:KdS B W n vk vo st K) (ho:V.ownsRow B 3 1 v' (st.length + 1) ((natI st.reverse).flatMap Jl ++ [.int .i64 (i:Int)])) (hg:W.grownBy V vo.ownBlock) (hv:v'.ownBlock=vo.ownBlock∨v'.ownBlock=some W.heap.size) :
  KdS B V n vk v' (i :: st) K:=by
 obtain ⟨vs,h1,h2,h3,h4⟩:=h.row;have hne:vo.ownBlock=none∨vo.ownBlock≠vk.ownBlock:=by
  rcases J2 (by decide) h.op h1 with e | e
  ·exact .inl e
  ·exact .inr e
 refine ⟨⟨vs,?_,fun j v hj=>?_,h3,fun j v g hj hvg=>?_⟩,?_⟩
 ·refine h1.kept hg ?_
  cases hk:vk.ownBlock with
  | none=>exact .inl rfl
  | some g =>
   refine .inr fun e=>?_
   rcases hne with e1 | e1
   ·rw [e1] at e;cases e
   ·exact e1 (by rw [hk];exact e.symm)
 ·refine (h2 j v hj).kept hg ?_
  cases hk:v.ownBlock with
  | none=>exact .inl rfl
  | some g=>exact .inr fun e=>h4 j v g hj hk e.symm
 ·rcases hv with e | e
  ·rw [e];exact h4 j v g hj hvg
  ·rw [e]
   intro e2;injection e2 with e2
   have:=(h2 j v hj).lt g hvg
   omega
 ·have e:(natI (i :: st).reverse).flatMap Jl=(natI st.reverse).flatMap Jl ++ [.int .i64 (i:Int)]:=by
   unfold natI;rw [List.reverse_cons,List.map_append,List.flatMap_append];rfl
  rw [e];exact ho
theorem Mb {B n c g:Nat} {T:TypeId} {vs:List Value} (h:W.ownsRow B T 1 (.slice (some ⟨g,0,none⟩) n c) n vs) {i:Nat} (hi:i < n):W.cell? ⟨g,i,none⟩=vs[i]?:=by
 rcases h.2 with ⟨e,e0⟩ | ⟨g',cap,cur,e,_,hg,_,_,_,ht⟩
 ·omega
 ·injection e with e
  injection e with e;injection e with e _ _;subst e;rw [Qm hg,← ht,List.getElem?_take,if_pos (by omega)];simp
theorem own_off {B B2 n m:Nat} {T T':TypeId} {k k':Nat} {v u:Value} {xs ys:List Value} (hT:T≠T') (h1:W.ownsRow B T k v n xs) (h2:W.ownsRow B2 T' k' u m ys):v.ownBlock=none∨u.ownBlock≠v.ownBlock:=by
 rcases J2 hT h1 h2 with e | e
 ·exact .inl e
 ·exact .inr (fun e2=>e e2.symm)
theorem KdS.get {B n c u g:Nat} {vo:Value} {st:List Nat} {K:Nat→List Nat} (h:KdS B W n (.slice (some ⟨g,0,none⟩) n c) vo st K) (hun:u < n):∃ q' c',W.cell? ⟨g,u,none⟩=some (.slice q' (K u).length c')∧W.ownsRow B 3 1 (.slice q' (K u).length c') (K u).length ((natI (K u)).flatMap Jl):=by
 obtain ⟨vs,h1,h2,h3,h4⟩:=h.row;have hlen:vs.length=n:=by have:=h1.1;omega
 have e:=Mb h1 hun;rw [List.getElem?_eq_getElem (by omega)] at e;have ho:=h2 u _ (List.getElem?_eq_getElem (by omega));have hs:∃ q c,vs[u]=.slice q (K u).length c:=by
  rcases ho.2 with ⟨e1,e2⟩ | ⟨_,_,_,e1,_⟩
  ·exact ⟨none,0,by rw [e1,e2]⟩
  ·exact ⟨_,_,e1⟩
 obtain ⟨q',c',hq⟩:=hs;rw [hq] at e ho;exact ⟨q',c',e,ho⟩
theorem KdS.seat {B n c u g:Nat} {vo v:Value} {st:List Nat} {K:Nat→List Nat} {m:Nat} {ys:List Value} (h:KdS B W n (.slice (some ⟨g,0,none⟩) n c) vo st K) (hu:W.cell? ⟨g,u,none⟩=some v) (hun:u < n) (hr:W.ownsRow B 3 1 v m ys) (hg:W.grownBy V v.ownBlock) :
  V.cell? ⟨g,u,none⟩=some v∧V.frozen? ⟨g,u,none⟩=false∧g < V.heap.size:=by
 obtain ⟨vs,h1,h2,h3,h4⟩:=h.row;have r1:V.ownsRow B 80 1 (.slice (some ⟨g,0,none⟩) n c) n vs:=by
  refine h1.kept hg ?_
  rcases own_off (by decide) hr h1 with e | e
  ·exact .inr (by rw [e];simp [Value.ownBlock])
  ·exact .inr e
 refine ⟨by rw [Mb r1 hun,← Mb h1 hun];exact hu,?_⟩;rcases r1.2 with ⟨e,e0⟩ | ⟨g',cap,cur,e,_,hb,_⟩
 ·omega
 ·injection e with e
  injection e with e;injection e with e _ _;subst e;exact ⟨Xg hb,lt_of_block hb⟩
theorem KdS.kid {B n i c u g:Nat} {vo v v':Value} {st:List Nat} {K:Nat→List Nat} (h:KdS B W n (.slice (some ⟨g,0,none⟩) n c) vo st K) (hu:W.cell? ⟨g,u,none⟩=some v) (hun:u < n)
  (ho:V.ownsRow B 3 1 v' ((K u).length + 1) ((natI (K u)).flatMap Jl ++ [.int .i64 (i:Int)])) (hg:W.grownBy V v.ownBlock) (hv:v'.ownBlock=v.ownBlock∨v'.ownBlock=some W.heap.size) :
  KdS B (V.setCell ⟨g,u,none⟩ v') n (.slice (some ⟨g,0,none⟩) n c) vo st (fun j=>if j=u then K j ++ [i] else K j):=by
 obtain ⟨vs,h1,h2,h3,h4⟩:=h.row;have hlen:vs.length=n:=by have:=h1.1;omega
 have hvu:vs[u]?=some v:=by rw [← Mb h1 hun];exact hu
 have r1:V.ownsRow B 80 1 (.slice (some ⟨g,0,none⟩) n c) n vs:=by
  refine h1.kept hg ?_
  rcases own_off (by decide) (h2 u v hvu) h1 with e | e
  · exact .inr (by rw [e];simp [Value.ownBlock])
  · exact .inr e
 have r2:∀ (j:Nat) (x:Value),j≠u→vs[j]?=some x→V.ownsRow B 3 1 x (K j).length ((natI (K j)).flatMap Jl):=fun j x hj hx=>by
  refine (h2 j x hx).kept hg ?_
  cases hk:x.ownBlock with
  | none=>exact .inl rfl
  | some b=>exact .inr fun e=>h3 j u x v b hj hx hvu hk e.symm
 have r3:V.ownsRow B 3 1 vo st.length ((natI st.reverse).flatMap Jl):=by
  refine h.op.kept hg ?_
  cases hk:vo.ownBlock with
  | none=>exact .inl rfl
  | some b=>exact .inr fun e=>h4 u v b hvu e.symm hk
 have gs:=Qx (i:=u) (Qq V (some g)) v';have off:∀ {T:TypeId} {k m:Nat} {x:Value} {ys:List Value},T≠80→V.ownsRow B T k x m ys→(V.setCell ⟨g,u,none⟩ v').ownsRow B T k x m ys:=fun hT hr=>by
  refine hr.kept gs ?_
  rcases J2 hT hr r1 with e | e
  · exact .inl e
  · exact .inr e
 have hnew:∀ b,v'.ownBlock=some b→v.ownBlock=some b∨W.heap.size≤b:=fun b hb=>by
  rcases hv with e | e
  · exact .inl (by rw [← e];exact hb)
  · right;rw [e] at hb;injection hb with hb;omega
 refine ⟨⟨vs.set u v',own_set r1 v',fun j x hx=>?_,fun a b x y z hab hx hy hxz hyz=>?_,fun j x b hx hb=>?_⟩,off (by decide) r3⟩
 ·rw [List.getElem?_set] at hx
  by_cases hj:u=j
  · subst hj
    rw [if_pos rfl,if_pos (by omega)] at hx;injection hx with hx;subst hx;rw [if_pos rfl];have e:(natI (K u ++ [i])).flatMap Jl=(natI (K u)).flatMap Jl ++ [.int .i64 (i:Int)]:=by
     unfold natI;rw [List.map_append,List.flatMap_append];rfl
    rw [e,List.length_append];exact off (by decide) ho
  · rw [if_neg hj] at hx
    rw [if_neg (fun e=>hj e.symm)];exact off (by decide) (r2 j x (fun e=>hj e.symm) hx)
 ·rw [List.getElem?_set] at hx hy
  by_cases ha:u=a
  · subst ha
    rw [if_pos rfl,if_pos (by omega)] at hx;rw [if_neg hab] at hy;injection hx with hx;subst hx;rcases hnew z hxz with e | e
    ·exact h3 u b v y z hab hvu hy e hyz
    ·have:=(h2 b y hy).lt z hyz
     omega
  · rw [if_neg ha] at hx
    by_cases hb:u=b
    ·subst hb
     rw [if_pos rfl,if_pos (by omega)] at hy;injection hy with hy;subst hy;rcases hnew z hyz with e | e
     ·exact h3 u a v x z (fun e=>hab e.symm) hvu hx e hxz
     ·have:=(h2 a x hx).lt z hxz
      omega
    ·rw [if_neg hb] at hy
     exact h3 a b x y z hab hx hy hxz hyz
 ·rw [List.getElem?_set] at hx
  by_cases hj:u=j
  · subst hj
    rw [if_pos rfl,if_pos (by omega)] at hx;injection hx with hx;subst hx;rcases hnew b hb with e | e
    ·exact h4 u v b hvu e
    ·intro e2
     have:=h.op.lt b e2
     omega
  · rw [if_neg hj] at hx
    exact h4 j x b hx hb
structure RmD (gx:Nat) (w0 wy:World) (vb:Value) (B:List Int) (m:Nat) (L:List Int):Prop where
 b:wy.ownsRow w0.heap.size 5 1 vb B.length (B.map (Value.int .u8))
 n:wy.ownsRow w0.heap.size 3 1 (.slice (some ⟨gx,0,none⟩) m m) m (L.flatMap Jl)
 grown:w0.grownBy wy none
theorem RmD.past {gx m:Nat} {w0:World} {vb:Value} {B L:List Int} (h:RmD gx w0 W vb B m L) (g:W.grownBy V none):RmD gx w0 V vb B m L:=⟨Qy h.b g,Qy h.n g,Qz h.grown g⟩
theorem RmD.step {gx m:Nat} {w0:World} {vb vb':Value} {B B' L:List Int} (h:RmD gx w0 W vb B m L) (k:Xm W V w0.heap.size vb vb' B'):RmD gx w0 V vb' B' m L :=
 ⟨k.own,h.n.kept k.grown (J2 (by decide) h.n h.b),Qr h.grown k.grown (fun g e=>(h.b.lt g e).1)⟩
theorem RmD.set {gx m i:Nat} {w0:World} {vb:Value} {B L:List Int} (h:RmD gx w0 W vb B m L) (x:Int):RmD gx w0 (W.setCell ⟨gx,i,none⟩ (.int .i64 x)) vb B m (L.set i x):=by
 have gs:=Qx (i:=i) (Qq W (some gx)) (.int .i64 x);refine ⟨h.b.kept gs ?_,?_,?_⟩
 ·rcases J2 (by decide) h.b h.n with e | e
  ·exact .inl e
  ·exact .inr e
 ·have:=own_set (i:=i) h.n (.int .i64 x)
  rw [Yy] at this ⊢;rw [List.map_set];exact this
 ·rcases h.n.2 with ⟨e,_⟩ | ⟨g',_,_,e,hg,_⟩
  ·cases e
  ·injection e with e
   injection e with e;injection e with e _ _;exact Qr h.grown gs (fun g e2=>by injection e2 with e2;omega)
theorem RmD.seat {gx m:Nat} {w0:World} {vb:Value} {B L:List Int} (h:RmD gx w0 W vb B m L) {i:Nat} (hi:i < m):(∃ x,W.cell? ⟨gx,i,none⟩=some (.int .i64 x))∧W.frozen? ⟨gx,i,none⟩=false∧gx < W.heap.size:=by
 have hl:L.length=m:=by have:=h.n.1;rw [Yy,List.length_map] at this;omega
 refine ⟨⟨L.getD i 0,?_⟩,?_⟩
 ·rw [Mb h.n hi,Yy,List.getElem?_map,List.getElem?_eq_getElem (by omega),List.getD_eq_getElem?_getD,List.getElem?_eq_getElem (by omega)]
  rfl
 ·rcases h.n.2 with ⟨e,_⟩ | ⟨g',_,_,e,_,hb,_⟩
  ·cases e
  ·injection e with e
   injection e with e;injection e with e _ _;subst e;exact ⟨Xg hb,lt_of_block hb⟩
def Hy (pl:List Nat) (P:List PN) (m i:Nat):List Int:=natI ((Xc pl 0 P).take i ++ List.replicate (m - i) 0)
theorem nextL_zero (pl:List Nat) (P:List PN) (m:Nat):(Hy pl P m 0).flatMap Jl=List.replicate m (Value.int .i64 0):=by
 unfold Hy natI;rw [List.take_zero,List.nil_append,Nat.sub_zero,List.map_replicate,Yy,List.map_replicate];rfl
theorem placesG_take (pl:List Nat):∀ (nodes:List PN) (s:Nat) (i:Nat),i < nodes.length→(Xc pl s nodes).take (i + 1)=(Xc pl s nodes).take i ++ [s + (layB pl (nodes.take i)).length]
 | [],_,_,h=>by simp at h
 | nd :: l,s,0,_=>by simp [Xc,layB]
 | nd :: l,s,i + 1,h=>by
  have:=placesG_take pl l (s + (Vn pl nd).length) i (by simpa using h)
  simp only [Xc,List.take_succ_cons,List.cons_append] at this ⊢;rw [this,layB,layB,List.flatMap_cons,List.length_append]
  congr 2
  simp only [List.cons.injEq,and_true];omega
theorem nextL_set {pl:List Nat} {P:List PN} {m i:Nat} (hP:P.length=m) (hi:i < m):(Hy pl P m i).set i ((layB pl (P.take i)).length:Int)=Hy pl P m (i + 1):=by
 have h1:=placesG_take pl P 0 i (by omega);rw [Nat.zero_add] at h1;have hl:((Xc pl 0 P).take i).length=i:=by rw [List.length_take,Vc];omega
 unfold Hy natI;rw [h1,List.map_append,List.map_append,List.map_append,List.set_append_right _ _ (by rw [List.length_map,hl];omega),List.length_map,hl,Nat.sub_self];obtain ⟨k,hk⟩:∃ k,m - i=k + 1:=⟨m - i - 1,by omega⟩
 rw [hk,show m - (i + 1)=k by omega,List.replicate_succ,List.map_cons,List.set_cons_zero,List.append_assoc];rfl
theorem nextL_all {pl:List Nat} {P:List PN} {m:Nat} (hP:P.length=m):Hy pl P m m=natI (Xc pl 0 P):=by
 unfold Hy;rw [List.take_of_length_le (by rw [Vc];omega),Nat.sub_self,List.replicate_zero,List.append_nil]
structure RmG (w6 wr:World) (P:List PN) (m g:Nat) (v11:Value):Prop where
 ex:∃ (t:Nat) (qp:Option Addr) (cp:Nat),m * 1099511627776 - sumN (Qs P t)≤g∧v11=.slice qp m cp∧Kq wr qp (natI (Qs P t))∧m≤cp∧cp≤9223372036854775807
 grown:w6.grownBy wr none
structure RmN (gx:Nat) (w0 wy:World) (N:List (List Int)) (P:List PN) (pl:List Nat) (m:Nat) (v12 v14 v15:Value):Prop where
 ex:∃ (i:Nat) (qb:Option Addr) (cb:Nat),i≤m∧v15=.int .i64 (i:Int)∧v14=.int .i64 ((Jb (N.take i) (P.take i)).length:Int)∧v12=.slice qb (layB pl (P.take i)).length cb∧RmD gx w0 wy (.slice qb (layB pl (P.take i)).length cb) (layB pl (P.take i)) m (Hy pl P m i)
structure RmK (gx:Nat) (w0 wy:World) (pl:List Nat) (A:List Int) (kids:List (List Int × Nat)) (m:Nat) (L:List Int) (v12 v16:Value):Prop where
 ex:∃ (j:Nat) (qb:Option Addr) (cb:Nat),j≤kids.length∧v16=.int .i64 (j:Int)∧v12=.slice qb (A ++ (kids.take j).flatMap (kidB pl)).length cb∧RmD gx w0 wy (.slice qb (A ++ (kids.take j).flatMap (kidB pl)).length cb) (A ++ (kids.take j).flatMap (kidB pl)) m L
theorem owns_next {N:List (List Int)} {P:List PN} {i:Nat} {nd:PN} (hN:N.length=P.length) (hi:P[i]?=some nd):(Jb (N.take (i + 1)) (P.take (i + 1))).length=(Jb (N.take i) (P.take i)).length + (match nd.says with | none=>0 | some _=>1):=by
 obtain ⟨h1,rfl⟩:=List.getElem?_eq_some_iff.1 hi;rw [List.take_succ_eq_append_getElem h1,List.take_succ_eq_append_getElem (show i < N.length by omega),W7 _ _ (by rw [List.length_take,List.length_take];omega),List.length_append];simp only [Jb,List.append_nil];cases P[i].says <;> rfl
theorem layB_take' (pl:List Nat) {nodes:List PN} {i:Nat} {nd:PN} (h:nodes[i]?=some nd):layB pl (nodes.take (i + 1))=layB pl (nodes.take i) ++ Vn pl nd:=by
 obtain ⟨hi,rfl⟩:=List.getElem?_eq_some_iff.1 h;rw [List.take_succ_eq_append_getElem hi];unfold layB;rw [List.flatMap_append,List.flatMap_singleton]
section
variable {w w' W V:World} {base:Nat}
theorem ints_zero (n:Nat):(natI (List.replicate n 0)).flatMap Jl=List.replicate n (Value.int .i64 0):=by
 unfold natI;rw [List.map_replicate,Yy,List.map_replicate];rfl
theorem layG_le (pl:List Nat) (nodes:List PN) (i:Nat):(layB pl (nodes.take i)).length≤(layB pl nodes).length:=by
 unfold layB
 conv=>rhs;rw [← List.take_append_drop i nodes]
 rw [List.flatMap_append,List.length_append];omega
theorem kidsG_take (pl:List Nat) {kids:List (List Int × Nat)} {j:Nat} {k:List Int × Nat} (h:kids[j]?=some k):(kids.take (j + 1)).flatMap (kidB pl)=(kids.take j).flatMap (kidB pl) ++ kidB pl k:=by
 obtain ⟨hi,rfl⟩:=List.getElem?_eq_some_iff.1 h;rw [List.take_succ_eq_append_getElem hi,List.flatMap_append,List.flatMap_singleton]
theorem kidsG_le (pl:List Nat) (kids:List (List Int × Nat)) (j:Nat):((kids.take j).flatMap (kidB pl)).length≤(kids.flatMap (kidB pl)).length:=by
 conv=>rhs;rw [← List.take_append_drop j kids]
 rw [List.flatMap_append,List.length_append];omega
theorem take_sameR {A C:List Nat} {i x y:Nat} (hx:A[i]?=some x) (hy:C[i]?=some y):A.take (i + 1)=C.take (i + 1)↔A.take i=C.take i∧x=y:=by
 obtain ⟨h1,rfl⟩:=List.getElem?_eq_some_iff.1 hx;obtain ⟨h2,rfl⟩:=List.getElem?_eq_some_iff.1 hy;rw [List.take_succ_eq_append_getElem h1,List.take_succ_eq_append_getElem h2]
 constructor
 ·intro h
  have:=List.append_inj h (by rw [List.length_take,List.length_take];omega)
  exact ⟨this.1,by simpa using this.2⟩
 ·rintro ⟨h,e⟩
  rw [h,e]
structure RmE (w8 wy:World) (A C:List Nat) (m:Nat) (v18 v19:Value):Prop where
 ex:∃ (i:Nat) (b:Bool),i≤m∧v19=.int .i64 (i:Int)∧v18=.bool b∧(b=true↔A.take i=C.take i)
 grown:w8.grownBy wy none
theorem step_append_sto {ops:Array Oper} {o:Oper} {a:Act} {K:Act→World→Prop} {Q:Exit→Act→World→Prop} {E:Prop} (hgd:o.guard=none) (s x:Operand)
  (ho:o.op=.call { callee:=.builtin .append,args:=#[s,x],argTypes:=#[29,9] }) (hty:o.type=29)
  {w0:World} {v0 v:Value} {xs:List Int} (hs:a.eval s=v) (hr:Xm w0 w base v0 v xs) (l:List Int) (hb:Byt l) (hx:a.eval x=.string (strOfNums l))
  (h63:xs.length + l.length≤140737488355328) (hbase:base≤w.heap.size)
  (h:∀ q' c' w',Xm w0 w' base v0 (.slice q' (xs.length + l.length) c') (xs ++ l)→K (a.put o.dst (.slice q' (xs.length + l.length) c')) w') :
  if Region.wanted o (yielded ops a.tmps)=true then Oper.wp Tryz.prog o a w K Q else E:=by
 refine step_append_str hgd s x ho hty v xs.length (xs.map (Value.int .u8)) hs hr.own l hb hx h63 hbase ?_
 intro v' w' h1 h2 h3;obtain ⟨q',c',rfl⟩:=Qp h1;refine h q' c' w' (hr.trans ⟨?_,h2,?_⟩)
 ·rw [List.length_append,List.map_append]
  exact h1
 ·rcases h3 with h3 | h3
  · exact .inl h3
  · exact .inr ⟨_,h3,Nat.le_refl _⟩
end
end Go.Proofs.YtkmbkpoclhbmgaaGreat
