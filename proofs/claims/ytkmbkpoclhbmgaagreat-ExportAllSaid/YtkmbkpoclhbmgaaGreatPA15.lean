/- Parts of the proof, put together: Prt, ExN, Same5, ImD, ImE, ImF, ImG, ImH, ImI, ImJ, ImM, ExS, Qtl, ExR, ExO. No condition beyond those that each part names. -/
import Derived.StillTail
import Derived.Test.YtkmbkpoclhbmgaaGreatPA14
set_option maxRecDepth 20000
set_option maxHeartbeats 6400000
namespace Go.Proofs.YtkmbkpoclhbmgaaGreat
open Go.RowKit
variable {w w' W V:World}
def Q1 (ys:List Int) (off sz:Int):List Int:=if Zq off sz ys.length=true then (ys.drop off.toNat).take sz.toNat else []
theorem Bf {ys:List Int} {off sz:Int} (h:Zq off sz ys.length=true):Q1 ys off sz=(ys.drop off.toNat).take sz.toNat:=if_pos h
theorem partN_no {ys:List Int} {off sz:Int} (h:Zq off sz ys.length=false):Q1 ys off sz=[]:=if_neg (by rw [h];decide)
theorem sub_bytes {q:Option Addr} {c:Nat} {ys:List Int} (h:Qk w q c ys) (so k:Nat) (hend:so + k≤ys.length) (hk : 0 < k):∃ b o,q=some ⟨b,o,none⟩∧Qk w (some ⟨b,o + so,none⟩) k ((ys.drop so).take k):=by
 obtain ⟨b,o,e,hx⟩:=h.2 (by omega);refine ⟨b,o,e,Qk.mk_at fun i hi=>?_⟩;have hi':i < k:=by simp at hi;omega
 rw [Nat.add_assoc,hx (so + i) (by omega)];simp [List.getD,List.getElem?_drop,hi']
theorem cut3_at {q:Option Addr} {c:Nat} {ys:List Int} (h:Qk w q c ys) (hc:ys.length≤c) (so k:Nat) (hend:so + k≤ys.length) :
  ∃ V,(∀ W,(Instr.slice 29 (.slice q ys.length c) (some (.int .u64 (so:Int))) (some (.int .u64 ((so:Int) + (k:Int)))) (some (.int .u64 ((so:Int) + (k:Int))))).run Tryz.prog W=.ok (.slice V k k) W)∧Qk w V k ((ys.drop so).take k):=by
 have run:∀ W,(Instr.slice 29 (.slice q ys.length c) (some (.int .u64 (so:Int))) (some (.int .u64 ((so:Int) + (k:Int)))) (some (.int .u64 ((so:Int) + (k:Int))))).run Tryz.prog W=.ok (sliced q so (so + k) (so + k) 1) W:=fun W=>by
  rw [run_slice_lhm (P:=Tryz.prog) W 29 q ys.length c (by kernel_rfl) .u64 .u64 .u64 (so:Int) ((so:Int) + (k:Int)) ((so:Int) + (k:Int)) (by omega) (by omega) (by omega) (by omega)];have hs:((sizeOf (Tryz.prog.elem 29)).run Tryz.prog W)=.ok 1 W:=by kernel_rfl
  rw [hs];simp only [Result.andThen];rw [show ((so:Int) + (k:Int)).toNat=so + k by omega,show ((so:Int)).toNat=so by omega]
 rcases Nat.eq_zero_or_pos k with hk | hk
 ·subst hk
  refine ⟨q,fun W=>?_,?_⟩
  ·rw [run W];simp [sliced]
  ·have e:(ys.drop so).take 0=[]:=rfl
   rw [e];exact ⟨fun _=>rfl,fun h=>by simp at h⟩
 ·obtain ⟨b,o,rfl,hb⟩:=sub_bytes h so k hend hk
  refine ⟨_,fun W=>?_,hb⟩;rw [run W];unfold sliced;rw [if_neg (by omega),show so + k - so=k by omega];simp only [Option.map_some,Xd,Nat.mul_one]
theorem within_wn (a b n:Nat) (ha:a < 18446744073709551616) (hb:b < 18446744073709551616) (hn:n < 18446744073709551616) (V:World):Calls Tryz.prog 150 #[.int .u64 a,.int .u64 b,.int .u64 n] V fun e w'=>e=.returned (.bool (Zq a b n))∧V=w' :=
 withini_any a b n (by omega) (by omega) (by omega) V
theorem cut_any {ys:List Int} {q:Option Addr} {c:Nat} (h:Qk w q c ys) (hc:ys.length≤c) (hcm:c≤9223372036854775807) (off sz:Nat) (ho:off < 18446744073709551616) (hz:sz < 18446744073709551616) :
  Calls Tryz.prog 125 #[.slice q ys.length c,.agg #[.int .u64 off,.int .u64 sz]] w fun e w'=>∃ V cc,e=.returned (.slice V (Q1 ys off sz).length cc)∧Qk w' V cc (Q1 ys off sz)∧(Q1 ys off sz).length≤cc∧cc≤9223372036854775807∧w.grownBy w' none:=by
 have gB:=grown1 w (.cells #[.int .u64 off,.int .u64 sz] 46);have aA:(w.alloc (.cells #[.int .u64 off,.int .u64 sz] 46)).heap[w.heap.size]?=some (.cells #[.int .u64 off,.int .u64 sz] 46 (0,0)):=heap_alloc_new w _
 obtain ⟨W,hW⟩:∃ W,w.alloc (.cells #[.int .u64 off,.int .u64 sz] 46)=W:=⟨_,rfl⟩
 obtain ⟨b,hb⟩:∃ b,w.heap.size=b:=⟨_,rfl⟩
 rw [hW] at gB aA;rw [hb] at aA;have c0:W.cell? ⟨b,0,none⟩=some (.int .u64 off):=by rw [Qm aA];rfl
 have c1:W.cell? ⟨b,1,none⟩=some (.int .u64 sz):=by rw [Qm aA];rfl
 have gl:=lt_of_block aA;have G:=Lv gB;have WI:=Lv (fun V=>within_wn off sz ys.length ho hz (by omega) V);have cv:IntKind.u64.wrap (ys.length:Int)=ys.length:=IntWalk.u64_in _ (by omega);clear aA gB;cases hw:Zq off sz ys.length
 ·have E:=Lv (partN_no hw)
  rw [hw] at WI;rw [E.o];clear hw h;generalize ys.length=n at *;go_enter Tryz.func125,Tryz.ntmps125;go_upto_region 1 with fail;clear hW hb;go_wp2_with fail;refine (WI.o _).mono ?_
  rintro e w1 ⟨rfl,rfl⟩;go_wp2;go_ret
  exact ⟨none,0,rfl,Qk.nil,Nat.le_refl _,by omega,G.o⟩
 ·have hle:off + sz≤ys.length:=by unfold Zq at hw;simp at hw;omega
  have hl:(Q1 ys off sz).length=sz:=by rw [Bf hw];simp;omega
  have hp:Q1 ys off sz=(ys.drop off).take sz:=Bf hw;obtain ⟨V,hV,hB⟩:=cut3_at h hc off sz hle;rw [hl,hp];have ws:IntKind.u64.wrap ((off:Int) + sz)=(off:Int) + sz:=IntWalk.u64_in _ (by omega);have HB:=Lv (hB.kept G.o (by simp));have hsc:sz≤9223372036854775807:=by omega
  rw [hw] at WI;clear hw h hl hp hB hc;generalize (ys.drop off).take sz=zs at *;generalize ys.length=n at *;go_enter Tryz.func125,Tryz.ntmps125;go_upto_region 1 with fail;clear hW hb;go_wp2_with fail;refine (WI.o _).mono ?_
  rintro e w1 ⟨rfl,rfl⟩;go_wp2;go_ret
  exact ⟨V,sz,rfl,HB.o,Nat.le_refl _,hsc,G.o⟩
theorem Part_any {ys:List Int} {q:Option Addr} {c:Nat} (h:Qk w q c ys) (hc:ys.length≤c) (hcm:c≤9223372036854775807) (h47:ys.length≤140737488355328) (off sz:Nat) (ho:off < 18446744073709551616) (hz:sz < 18446744073709551616) :
  Calls Tryz.prog 83 #[.slice q ys.length c,.agg #[.int .u64 off,.int .u64 sz]] w fun e w'=>∃ V cc,e=.returned (.slice V (Q1 ys off sz).length cc)∧w'.ownsRow w.heap.size 5 1 (.slice V (Q1 ys off sz).length cc) (Q1 ys off sz).length ((Q1 ys off sz).map (Value.int .u8))∧w.grownBy w' none:=by
 have gB:=grown1 w (.cells #[.int .u64 off,.int .u64 sz] 46);have aA:(w.alloc (.cells #[.int .u64 off,.int .u64 sz] 46)).heap[w.heap.size]?=some (.cells #[.int .u64 off,.int .u64 sz] 46 (0,0)):=heap_alloc_new w _
 have CU:=Lv (cut_any (h.kept gB (by simp)) hc hcm off sz ho hz);have hpl:(Q1 ys off sz).length≤140737488355328:=by
  unfold Q1
  split
  ·simp;omega
  ·simp
 obtain ⟨W,hW⟩:∃ W,w.alloc (.cells #[.int .u64 off,.int .u64 sz] 46)=W:=⟨_,rfl⟩
 obtain ⟨b,hb⟩:∃ b,w.heap.size=b:=⟨_,rfl⟩
 rw [hW] at gB aA CU;rw [hb] at aA ⊢;have c0:W.cell? ⟨b,0,none⟩=some (.int .u64 off):=by rw [Qm aA];rfl
 have c1:W.cell? ⟨b,1,none⟩=some (.int .u64 sz):=by rw [Qm aA];rfl
 have gl:=lt_of_block aA;have G:=Lv gB;have BW:=Lv (show b≤W.heap.size from Nat.le_of_lt gl);clear aA gB h hc h47;generalize Q1 ys off sz=zs at *;generalize ys.length=n at *;go_enter Tryz.func83,Tryz.ntmps83;go_upto_region 1 with fail;clear hW hb;go_wp2_with fail;refine CU.o.mono ?_
 rintro e w1 ⟨V,cc,rfl,hib,hlc,hcc,hg⟩;have CL:=Lv (clone_any hib hpl);have G1:=Lv (Qz G.o hg);have B1:=Lv (Nat.le_trans BW.o hg.size);clear hib hg c0 c1 gl CU;go_wp2_with fail;refine CL.o.mono ?_
 rintro e w2 ⟨⟨q',c',rfl,hown,_⟩,hbel⟩;have O2:=Lv (hown.mono B1.o);have G2:=Lv (Qz G1.o (Qt hbel none));clear hown hbel CL;go_wp2;go_ret
 exact ⟨q',c',rfl,O2.o,G2.o⟩
theorem Jy {ys:List Int} (h:Byt ys) (off sz:Int):Byt (Q1 ys off sz):=by
 unfold Q1
 split
 ·exact (h.drop _).take _
 ·exact fun x hx=>by cases hx
theorem Yc (ys:List Int) (off sz:Int):(Q1 ys off sz).length≤ys.length:=by
 unfold Q1
 split
 ·rw [List.length_take,List.length_drop];omega
 ·exact Nat.zero_le _
def secN (l:List Seg):Nat:=(l.map fun x=>x.secs.length).sum
def Xy (low:Int) (y:Sym):List Int × Ex:=(y.1,if y.2.sec=0 then ⟨2,y.2.weak,y.2.value,0,0,[]⟩ else ⟨1,y.2.weak,(y.2.value - low) % 18446744073709551616,0,0,[]⟩)
def srtN (D:Out):Out:=D.mergeSort fun a b=>!nmLt b.1 a.1
theorem Gb (D:Out):(srtN D).Perm D:=List.mergeSort_perm _ _
theorem Hl {D:Out} {y:List Int × Ex}:y∈srtN D↔y∈D:=(Gb D).mem_iff
theorem srtN_len (D:Out):(srtN D).length=D.length:=(Gb D).length_eq
theorem srtN_rises {D:Out} (hb:∀ y∈D,Byt y.1):Wd (srtN D):=by
 have h:(srtN D).Pairwise fun a b=>(!nmLt b.1 a.1)=true:=List.pairwise_mergeSort (fun a b c h k=>by
  simp only [Bool.not_eq_true'] at h k ⊢;exact H6 k h) (fun a b=>by
  cases h:nmLt b.1 a.1 with
  | false=>rfl
  | true=>simp only [Bool.not_true,Bool.false_or,Bool.not_eq_true'];cases k:nmLt a.1 b.1 with
   | false=>rfl
   | true=>have:=J0 h k;rw [Z9] at this;cases this) D
 unfold Wd;refine h.imp_of_mem ?_
 intro a b ha hb' hab;rw [Jv (hb a (Hl.1 ha)),Jv (hb b (Hl.1 hb'))];simpa using hab
theorem Rr {D R:Out} (hb:∀ y∈D,Byt y.1) (ho:D.Pairwise fun a b=>a.1≠b.1) (hr:Wd R) (hp:R.Perm D):R=srtN D :=
 rises_one hr (srtN_rises hb) (hp.trans (Gb D).symm) (fun y hy=>hb y (hp.mem_iff.1 hy)) (hp.symm.pairwise ho (fun h=>Ne.symm h))
theorem all_srt {xs:List Int} (hb:Byt xs) {R:Out} (hr:Wd R) (hp:R.Perm (allN xs).1):R=srtN (allN xs).1:=by
 obtain ⟨⟨er,out⟩,hw⟩:∃ r,r=Yj xs Zh []:=⟨_,rfl⟩
 have AW:=allN_walk xs;rw [← hw] at AW;by_cases he:er=0
 ·subst he
  rw [if_neg (by simp)] at AW;have WL:=whole_of hb hw.symm;rw [AW] at hp ⊢;exact Rr (fun y hy=>(WL.told y hy).1) WL.once hr hp
 ·rw [if_pos he] at AW
  rw [AW] at hp ⊢;rw [List.perm_nil.1 hp];show []=srtN []
  simp [srtN]
def Vq (x:Ex):Prop:=(x.kind=1→x.resolver=0)∧0≤x.value∧x.value < 18446744073709551616∧0≤x.ordinal
theorem Vq.say {l:List Int} {x:Ex} {n:Nat} (h:sayP l=some (x,n)):Vq x:=by
 obtain ⟨f,m,m',-,h2,-⟩:=Xf h;unfold sayK at h2
 split at h2
 ·obtain ⟨v,j,j',h3,h4,-⟩:=Xf h2
  injection h4 with h4;injection h4 with h4 _;subst h4;exact ⟨fun _=>rfl,(ul_bd h3).1,(ul_bd h3).2,Int.le_refl 0⟩
 split at h2
 ·obtain ⟨v,j,j',h3,h4,-⟩:=Xf h2
  injection h4 with h4;injection h4 with h4 _;subst h4;exact ⟨fun _=>rfl,(ul_bd h3).1,(ul_bd h3).2,Int.le_refl 0⟩
 split at h2
 ·obtain ⟨v,j,j',h3,h4,-⟩:=Xf h2
  obtain ⟨t,i,i',-,h6,-⟩:=Xf h4;injection h6 with h6;injection h6 with h6 _;subst h6;exact ⟨fun _=>rfl,Int.le_refl 0,show (0:Int) < 18446744073709551616 by decide,(ul_bd h3).1⟩
 split at h2
 ·obtain ⟨v,j,j',h3,h4,-⟩:=Xf h2
  obtain ⟨t,i,i',-,h6,-⟩:=Xf h4;injection h6 with h6;injection h6 with h6 _;subst h6;exact ⟨fun h=>(by cases h),(ul_bd h3).1,(ul_bd h3).2,Int.le_refl 0⟩
 ·cases h2
theorem Vq.nd {xs:List Int} {p:Int} {nd:Nd} {x:Ex} (h:ndAt xs p=some nd) (hx:nd.ex=some x):Vq x:=by
 obtain ⟨_,_,n,h1⟩:=ndAt_some h;obtain ⟨a,m1,m1',_,h2,-⟩:=Xf h1;obtain ⟨e,m2,m2',h3',h3,-⟩:=Xf h2;obtain ⟨m,m3,m3',h4,h5,-⟩:=Xf h3;obtain ⟨r,m4,m4',h6,h7,-⟩:=Xf h5;injection h7 with h7;injection h7 with h7 _;subst h7;simp only [] at hx;subst hx;unfold exP at h3'
 split at h3'
 ·injection h3' with h3';injection h3' with h3' _;cases h3'
 ·obtain ⟨z,j,j',h8,h9,-⟩:=Xf h3'
  injection h9 with h9;injection h9 with h9 _;injection h9 with h9;subst h9;unfold psZ at h8;cases hz:sayP (List.drop m1 (List.drop p.toNat xs)) with
  | none=>rw [hz] at h8;cases h8
  | some r =>
   obtain ⟨u,k⟩:=r;rw [hz] at h8;simp only [] at h8
   split at h8
   ·injection h8 with h8
    injection h8 with h8 _;subst h8;exact Vq.say hz
   ·cases h8
theorem vis_inv {S:Type} {xs:List Int} {mt:Mt S} {P:S→Prop} (hmt:∀ s nm nd,(∃ p,ndAt xs p=some nd)→P s→P (mt s nm nd).1) :
  ∀ (k:Nat) (way name:List Int) (pl:Int) (m:Nat) (s:S),P s→P (vis xs mt k way name pl (m,s)).2.2:=by
 intro k
 induction k with
 | zero=>intro way name pl m s h;exact h
 | succ k ih =>
  have hK:∀ (way name:List Int) (l:List Kid) (e:Int) (m:Nat) (s:S),P s→P (visK (vis xs mt k way) name l e (m,s)).2.2:=by
   intro way name l
   induction l with
   | nil=>intro e m s h;exact h
   | cons x l ihl =>
    intro e m s h;have h1:=ih way (name ++ x.1) x.2 m s h;unfold visK
    split
    ·exact h1
    ·exact ihl 0 (vis xs mt k way (name ++ x.1) x.2 (m,s)).2.1 _ h1
  intro way name pl m s h;unfold vis
  split
  ·exact h
  split
  ·exact h
  split
  ·exact h
  split
  ·exact h
  ·rename_i nd hnd
   exact hK _ _ _ _ _ _ (hmt s name nd ⟨pl,hnd⟩ h)
theorem all_res (xs:List Int):∀ y∈(allN xs).1,Vq y.2:=by
 intro y hy;unfold allN at hy
 split at hy
 ·cases hy
 split at hy
 ·cases hy
 ·refine vis_inv (P:=fun s=>∀ y∈s,Vq y.2) ?_ 257 [] [] 0 0 [] (fun y hy=>by cases hy) y hy
  intro s nm nd ⟨p,hp⟩ hs;have h1:∀ y∈outN s nm nd,Vq y.2:=by
   intro y hy;unfold outN at hy;cases hx:nd.ex with
   | none=>rw [hx] at hy;exact hs y hy
   | some x =>
    rw [hx] at hy;rcases List.mem_append.1 hy with hy | hy
    ·exact hs y hy
    ·rw [List.mem_singleton.1 hy];exact Vq.nd hp hx
  unfold Zh
  split
  ·exact h1
  ·exact h1
theorem find_res (xs t:List Int):∀ x,(Kf xs t).2=some x→Vq x:=by
 intro x hx;unfold Kf Yj at hx
 split at hx
 ·cases hx
 split at hx
 ·cases hx
 ·refine vis_inv (mt:=Z7 t) (P:=fun s=>∀ x,s=some x→Vq x) ?_ 257 [] [] 0 0 none (fun y hy=>by cases hy) x hx
  intro s nm nd ⟨p,hp⟩ hs x hx;unfold Z7 at hx
  split at hx
  ·exact Vq.nd hp hx
  ·exact hs x hx
def Yh (s:St):Int:=(Hm s.segs - lowN s.segs) % 18446744073709551616
def Jn (s:St) (nd:Nat) (x:Ex):Int :=
 if (x.kind=1∨x.kind=4)∧(Yh s≤x.value∨Yh s≤x.resolver) then 4
 else if x.kind=3∧(x.ordinal < 1∨(nd:Int) < x.ordinal) then 22 else 0
def Jt (s:St) (nd:Nat):Out→Int
 | []=>0
 | y :: l=>if Jn s nd y.2≠0 then Jn s nd y.2 else Jt s nd l
def Zy (ys:List Int) (s:St):Int × Out :=
 if 0 < s.tr.2 then ((allN (Q1 ys s.tr.1 s.tr.2)).2,srtN (allN (Q1 ys s.tr.1 s.tr.2)).1)
 else if 0 < s.sy.2 then ((Jk (Q1 ys s.sy.1 s.sy.2) (Q1 ys s.st.1 s.st.2) (secN s.segs:Int)).1,srtN ((Jk (Q1 ys s.sy.1 s.sy.2) (Q1 ys s.st.1 s.st.2) (secN s.segs:Int)).2.map (Xy (lowN s.segs))))
 else (0,[])
def Bj (ys:List Int) (s:St) (nd:Nat):Int × Out :=
 if (Zy ys s).1≠0 then ((Zy ys s).1,[])
 else if Jt s nd (Zy ys s).2≠0 then (Jt s nd (Zy ys s).2,[]) else (0,(Zy ys s).2)
def Zo (ys:List Int) (s:St) (t:List Int):Int × Option Ex :=
 if 0 < s.tr.2 then Kf (Q1 ys s.tr.1 s.tr.2) t
 else if 0 < s.sy.2 then ((Jk (Q1 ys s.sy.1 s.sy.2) (Q1 ys s.st.1 s.st.2) (secN s.segs:Int)).1,(Xz t ((Jk (Q1 ys s.sy.1 s.sy.2) (Q1 ys s.st.1 s.st.2) (secN s.segs:Int)).2.map (Xy (lowN s.segs)))).map (·.2))
 else (0,none)
def Gr (ys:List Int) (s:St) (nd:Nat) (t:List Int):Int × Option Ex :=
 if (Zo ys s t).1≠0 then ((Zo ys s t).1,none)
 else match (Zo ys s t).2 with
  | none=>(0,none)
  | some x=>if Jn s nd x≠0 then (Jn s nd x,none) else (0,some x)
theorem longN_pos (s:St) : 0≤Yh s:=Int.emod_nonneg _ (by decide)
theorem expMay_doc {s:St} {nd:Nat} {x:Ex} (h:Vq x):Jn s nd x=if ((x.kind=1∨x.kind=4)∧Yh s≤x.value)∨(x.kind=4∧Yh s≤x.resolver) then 4 else if x.kind=3∧(x.ordinal < 1∨(nd:Int) < x.ordinal) then 22 else 0:=by
 unfold Jn;have hp:=longN_pos s;by_cases k4:x.kind=4
 ·have k1:¬ x.kind=1:=by omega
  simp only [k4,true_and,or_true]
 ·by_cases k1:x.kind=1
  ·have hr:=h.1 k1
   have h0:=h.2.1;rw [hr];by_cases hv:Yh s≤x.value
   ·rw [if_pos ⟨.inl k1,.inl hv⟩,if_pos (.inl ⟨.inl k1,hv⟩)]
   ·have n1:¬ ((x.kind=1∨x.kind=4)∧(Yh s≤x.value∨Yh s≤0)):=by omega
    have n2:¬ (((x.kind=1∨x.kind=4)∧Yh s≤x.value)∨(x.kind=4∧Yh s≤0)):=by omega
    rw [if_neg n1,if_neg n2]
  ·have n1:¬ ((x.kind=1∨x.kind=4)∧(Yh s≤x.value∨Yh s≤x.resolver)):=by omega
   have n2:¬ (((x.kind=1∨x.kind=4)∧Yh s≤x.value)∨(x.kind=4∧Yh s≤x.resolver)):=by omega
   rw [if_neg n1,if_neg n2]
theorem sec_cells {lo n c:Nat} {q:Option Addr} {l:List Sec} (h:w.ownsRow lo 118 6 (.slice q n c) n (l.flatMap J6)) {i:Nat} {x:Sec} (hx:l[i]?=some x) :
  ∃ g,q=some ⟨g,0,none⟩∧w.cell? ⟨g,i * 6,none⟩=some (.string (strOfNums x.name))∧w.cell? ⟨g,i * 6 + 1,none⟩=some (.string (strOfNums x.seg))∧w.cell? ⟨g,i * 6 + 2,none⟩=some (.int .u64 x.addr) ∧
   w.cell? ⟨g,i * 6 + 3,none⟩=some (.int .u64 x.size)∧w.cell? ⟨g,i * 6 + 4,none⟩=some (.int .u64 x.off)∧w.cell? ⟨g,i * 6 + 5,none⟩=some (.int .i64 x.kind):=by
 obtain ⟨g,hq,h0⟩:=Jz secCs_len h hx (show 0 < 6 by decide);have key:∀ j,j < 6→w.cell? ⟨g,i * 6 + j,none⟩=(J6 x)[j]?:=fun j hj=>by
  obtain ⟨g',hq',h1⟩:=Jz secCs_len h hx hj;rw [hq] at hq';injection hq' with e;injection e with e;subst e;exact h1
 exact ⟨g,hq,h0,key 1 (by decide),key 2 (by decide),key 3 (by decide),key 4 (by decide),key 5 (by decide)⟩
theorem sg_cells {lo n c:Nat} {q:Option Addr} {l:List Sg} (h:w.ownsRow lo 121 7 (.slice q n c) n (l.flatMap sgCs)) {i:Nat} {x:Sg} (hx:l[i]?=some x) :
  ∃ g,q=some ⟨g,0,none⟩∧w.cell? ⟨g,i * 7,none⟩=some (.string (strOfNums x.seg.name))∧w.cell? ⟨g,i * 7 + 1,none⟩=some (.int .u64 x.seg.addr)∧w.cell? ⟨g,i * 7 + 2,none⟩=some (.int .u64 x.seg.size) ∧
   w.cell? ⟨g,i * 7 + 3,none⟩=some (.int .u64 x.seg.off)∧w.cell? ⟨g,i * 7 + 4,none⟩=some (.int .u64 x.seg.fsize)∧w.cell? ⟨g,i * 7 + 5,none⟩=some (.int .i64 x.seg.prot)∧w.cell? ⟨g,i * 7 + 6,none⟩=some x.v:=by
 obtain ⟨g,hq,h0⟩:=Jz Rw h hx (show 0 < 7 by decide);have key:∀ j,j < 7→w.cell? ⟨g,i * 7 + j,none⟩=(sgCs x)[j]?:=fun j hj=>by
  obtain ⟨g',hq',h1⟩:=Jz Rw h hx hj;rw [hq] at hq';injection hq' with e;injection e with e;subst e;exact h1
 exact ⟨g,hq,h0,key 1 (by decide),key 2 (by decide),key 3 (by decide),key 4 (by decide),key 5 (by decide),key 6 (by decide)⟩
theorem Ht {lo n c:Nat} {q:Option Addr} {T:TypeId} {k:Nat} {xs:List Value} (hw:w.ownsRow lo T k (.slice q n c) n xs):n≤9223372036854775807:=by
 rcases hw.2 with ⟨e,e0⟩ | ⟨g,cap,cur,hv,_,_,h1,h2,_⟩
 ·omega
 ·unfold maxLen at h2;omega
def Idx {α:Type} (l:List α) (P : α→Bool) (z:Int):Prop:=(z=-1∧l.any P=false)∨∃ k x,z=(k:Nat)∧l[k]?=some x∧P x=true∧∀ i y,i < k→l[i]?=some y→P y=false
theorem none_any {α:Type} {l:List α} {P : α→Bool} (h:∀ i x,i < l.length→l[i]?=some x→P x=false):l.any P=false:=by
 rw [List.any_eq_false];intro x hx;obtain ⟨i,hi,rfl⟩:=List.getElem_of_mem hx;rw [h i _ hi (List.getElem?_eq_getElem hi)];simp
def Tg (w:World) (q:Option Addr) (l:List Sg):Prop:=∀ i x,l[i]?=some x→∃ g,q=some ⟨g,0,none⟩∧w.cell? ⟨g,i * 7,none⟩=some (.string (strOfNums x.seg.name))∧w.cell? ⟨g,i * 7 + 1,none⟩=some (.int .u64 x.seg.addr)∧w.cell? ⟨g,i * 7 + 2,none⟩=some (.int .u64 x.seg.size) ∧
 w.cell? ⟨g,i * 7 + 3,none⟩=some (.int .u64 x.seg.off)∧w.cell? ⟨g,i * 7 + 4,none⟩=some (.int .u64 x.seg.fsize)∧w.cell? ⟨g,i * 7 + 5,none⟩=some (.int .i64 x.seg.prot)∧w.cell? ⟨g,i * 7 + 6,none⟩=some x.v
theorem Tg.grown {q:Option Addr} {l:List Sg} (h:Tg w q l) (hg:w.grownBy w' none):Tg w' q l:=fun i x hx=>by
 obtain ⟨g,e,c0,c1,c2,c3,c4,c5,c6⟩:=h i x hx;exact ⟨g,e,Qv hg c0,Qv hg c1,Qv hg c2,Qv hg c3,Qv hg c4,Qv hg c5,Qv hg c6⟩
def Wi (w:World) (q:Option Addr) (l:List Sec):Prop:=∀ i x,l[i]?=some x→∃ g,q=some ⟨g,0,none⟩∧w.cell? ⟨g,i * 6,none⟩=some (.string (strOfNums x.name))∧w.cell? ⟨g,i * 6 + 1,none⟩=some (.string (strOfNums x.seg))∧w.cell? ⟨g,i * 6 + 2,none⟩=some (.int .u64 x.addr) ∧
 w.cell? ⟨g,i * 6 + 3,none⟩=some (.int .u64 x.size)∧w.cell? ⟨g,i * 6 + 4,none⟩=some (.int .u64 x.off)∧w.cell? ⟨g,i * 6 + 5,none⟩=some (.int .i64 x.kind)
theorem Wi.grown {q:Option Addr} {l:List Sec} (h:Wi w q l) (hg:w.grownBy w' none):Wi w' q l:=fun i x hx=>by
 obtain ⟨g,e,c0,c1,c2,c3,c4,c5⟩:=h i x hx;exact ⟨g,e,Qv hg c0,Qv hg c1,Qv hg c2,Qv hg c3,Qv hg c4,Qv hg c5⟩
def Sj (w:World) (q:Option Addr) (l:List (Int × Int)):Prop:=∀ i x,l[i]?=some x→∃ g,q=some ⟨g,0,none⟩∧w.cell? ⟨g,i * 2,none⟩=some (.int .u64 x.1)∧w.cell? ⟨g,i * 2 + 1,none⟩=some (.int .u64 x.2)
theorem Sj.grown {q:Option Addr} {l:List (Int × Int)} (h:Sj w q l) (hg:w.grownBy w' none):Sj w' q l:=fun i x hx=>by
 obtain ⟨g,e,c0,c1⟩:=h i x hx;exact ⟨g,e,Qv hg c0,Qv hg c1⟩
theorem rowSg_of {lo n c:Nat} {q:Option Addr} {l:List Sg} (h:w.ownsRow lo 121 7 (.slice q n c) n (l.flatMap sgCs)):Tg w q l:=fun _ _ hx=>sg_cells h hx
theorem rowSec_of {lo n c:Nat} {q:Option Addr} {l:List Sec} (h:w.ownsRow lo 118 6 (.slice q n c) n (l.flatMap J6)):Wi w q l:=fun _ _ hx=>sec_cells h hx
theorem indexLaid_any (l:List Sg) (n:Nat) (hn:l.length=n) (hl:n≤9223372036854775807) (P:Sg→Bool) (q:Option Addr) (c:Nat) (hr:Tg w q l) (hF:∀ (W:World) (x:Sg),x∈l→w.grownBy W none→Calls Tryz.prog 126 #[segV x.seg x.v] W fun e w'=>e=.returned (.bool (P x))∧W.grownBy w' none) :
  Calls Tryz.prog 129 #[.slice q n c,.func (.func 126) #[] #[]] w fun e w'=>(∃ z:Int,e=.returned (.int .i64 z)∧Idx l P z)∧w.grownBy w' none:=by
 subst hn;have RR:=Lv hr;have FF:=Lv hF;clear hr hF;go_enter Tryz.func129,Tryz.ntmps129;go_wp2;go_loopw [8] (fun i wr=>∃ k:Nat,k≤l.length∧i=.int .i64 k∧w.grownBy wr none∧∀ i y,i < k→l[i]?=some y→P y=false) (fun i _=>l.length - (intOf i).toNat)
 case atStart=>exact ⟨0,Nat.zero_le _,rfl,Qq _ _,fun i y h=>by omega⟩
 case round =>
  obtain ⟨k,hk,rfl,hg,hno⟩:=hrel;have G:=Lv hg;have NO:=Lv hno;by_cases hlt:k < l.length
  ·obtain ⟨x,hx⟩:∃ x,l[k]?=some x:=⟨_,List.getElem?_eq_getElem hlt⟩
   obtain ⟨g,rfl,c0,c1,c2,c3,c4,c5,c6⟩:=(RR.o.grown hg) k x hx;have M1:=Lv (FF.o wr x (List.mem_of_getElem? hx) hg);have HX:=Lv hx;have dl:decide ((k:Int) < (l.length:Int))=true:=by simp;omega
   obtain ⟨bx,hbx⟩:∃ bx,bx=P x:=⟨_,rfl⟩
   rw [← hbx] at M1;have PX:=Lv hbx;have hkl:(k:Int) < (l.length:Int):=by omega
   obtain ⟨⟨nm,ad,sz,of,fs,pr,sl⟩,q1,k1⟩:=x;unfold segV Vi Sg.v at M1;simp only [Sg.v] at c0 c1 c2 c3 c4 c5 c6 M1;clear hg hno hx hbx;generalize l.length=N at *;go_wp2_with fail;refine M1.o.mono ?_
   rintro e w3 ⟨rfl,hg⟩;have G3:=Lv (Qz G.o hg);clear hg;cases bx
   ·go_wp2
    go_roundw
    case rel =>
     refine ⟨k + 1,hlt,by go_num,G3.o,fun i y hi hy=>?_⟩;rcases Nat.lt_or_ge i k with h | h
     ·exact NO.o i y h hy
     ·obtain rfl:i=k:=by omega
      rw [HX.o] at hy;injection hy with hy;rw [← hy];exact PX.o.symm
    case measure=>simp [intOf];omega
   ·go_wp2
    go_ret
    exact ⟨⟨k,rfl,.inr ⟨k,_,rfl,HX.o,PX.o.symm,NO.o⟩⟩,G3.o⟩
  ·have hk':k=l.length:=by omega
   have NA:=Lv (none_any (P:=P) (l:=l) (fun i x hi hx=>hno i x (by omega) hx));have dl:decide ((k:Int) < (l.length:Int))=false:=by simp;omega
   clear hno hg;generalize l.length=N at *;go_wp2;go_ret
   exact ⟨⟨-1,rfl,.inl ⟨rfl,NA.o⟩⟩,G.o⟩
section
variable {w w':World} {h:Hx} {s:St} {sv dv:Value} {n hd:Int}
structure We (s:St):Prop where
 seg:∀ x∈s.segs,Pc x
 sec:∀ x∈s.segs,∀ y∈x.secs,Pt y
structure Zt (w:World) (s:St) (l:List Sg) (qs:Option Addr) (cs:Nat):Prop where
 segs:l.map Sg.seg=s.segs
 row:Tg w qs l
 secs:∀ x∈l,Wi w x.q x.seg.secs
 few:l.length≤9223372036854775807
 many:∀ x∈l,x.seg.secs.length≤9223372036854775807
 cap:l.length≤cs
theorem Zt.grown {l:List Sg} {qs:Option Addr} {cs:Nat} (k:Zt w s l qs cs) (hg:w.grownBy w' none):Zt w' s l qs cs:=⟨k.segs,k.row.grown hg,fun x hx=>(k.secs x hx).grown hg,k.few,k.many,k.cap⟩
theorem Zt.of {lo:Nat} (L:Ya w lo s sv dv):∃ l qs cs,sv=.slice qs l.length cs∧Zt w s l qs cs:=by
 obtain ⟨l,a2,a3,a4⟩:=L.segs;obtain ⟨qs,cs,rfl⟩:=Qp a3;refine ⟨l,qs,cs,rfl,a2,rowSg_of a3,fun x hx=>rowSec_of (a4 x hx),Ht a3,fun x hx=>Ht (a4 x hx),?_⟩;rcases a3.2 with ⟨e,e0⟩ | ⟨g,cap,cur,hv,_,_,h1,_⟩
 ·rw [e0];exact Nat.zero_le _
 ·injection hv with _ _ e3;subst e3;exact h1
theorem Zt.fit {l:List Sg} {qs:Option Addr} {cs:Nat} (k:Zt w s l qs cs) (hf:We s) {x:Sg} (hx:x∈l):Pc x.seg∧∀ y∈x.seg.secs,Pt y :=
 have hm:x.seg∈s.segs:=by rw [← k.segs];exact List.mem_map_of_mem hx
 ⟨hf.seg _ hm,hf.sec _ hm⟩
theorem Mm {l:List Sg} (hl:l.map Sg.seg=s.segs) (P:Seg→Bool):l.all (fun x=>P x.seg)=s.segs.all P:=by rw [← hl,List.all_map];rfl
end
section
variable {w w':World} {h:Hx} {s:St} {sv dv:Value} {n hd:Int}
theorem Idx.find {α:Type} {l:List α} {P : α→Bool} {z:Int} (h:Idx l P z):(z=-1∧l.find? P=none)∨∃ k x,z=(k:Nat)∧k < l.length∧l[k]?=some x∧l.find? P=some x:=by
 rcases h with ⟨e,h⟩ | ⟨k,x,e,hx,hp,ha⟩
 ·refine .inl ⟨e,?_⟩
  rw [List.find?_eq_none];rw [List.any_eq_false] at h;exact h
 ·refine .inr ⟨k,x,e,?_,hx,?_⟩
  ·exact (List.getElem?_eq_some_iff.1 hx).1
  ·rw [List.find?_eq_some_iff_getElem]
   obtain ⟨hk,he⟩:=List.getElem?_eq_some_iff.1 hx;exact ⟨hp,k,hk,he,fun j hj=>by rw [ha j _ hj (List.getElem?_eq_getElem (Nat.lt_trans hj hk))];rfl⟩
def Sg.zero:Sg:=⟨Seg.zero,none,0⟩
def Y6 (l:List Sg):Sg:=(l.find? (fun x=>Jj x.seg)).getD Sg.zero
def Pl (l:List Seg):Seg:=(l.find? Jj).getD Seg.zero
theorem front_seg {l:List Sg} (hl:l.map Sg.seg=s.segs):(Y6 l).seg=Pl s.segs:=by
 unfold Y6 Pl;rw [← hl,List.find?_map];show _=(Option.map Sg.seg (l.find? (fun x=>Jj x.seg))).getD Seg.zero
 cases l.find? (fun x=>Jj x.seg) <;> rfl
theorem results_sg1 {fn:Func} {p:Tmp} {g:Nat} {x:Seg} {v:Value} (hr:fn.results=#[.cell p 121]) {tmps:Array Value} (hp:tmps.getD p undef=.pointer (some ⟨g,0,none⟩)) (h:Zn w g x v) :
  (results fn tmps).run Tryz.prog w=.ok (segV x v) w :=
 results_cell_row hr tmps w g _ _ _ _ hp h Tryz.underlying121 rfl (by kernel_rfl)
theorem Zn.new (w:World):Zn (w.alloc (.cells #[.string ⟨#[]⟩,.int .u64 0,.int .u64 0,.int .u64 0,.int .u64 0,.int .i64 0,.slice none 0 0] 121)) w.heap.size Seg.zero (.slice none 0 0):=heap_alloc_new w _
theorem front_any {l:List Sg} {qs:Option Addr} {cs:Nat} (k:Zt w s l qs cs):Calls Tryz.prog 88 #[imgV h s (.slice qs l.length cs) dv] w fun e w'=>e=.returned (segV (Y6 l).seg (Y6 l).v)∧w.grownBy w' none:=by
 have g1:=grown1 w (.cells (Qf h s (.slice qs l.length cs) dv) 48);have IA:Zp (w.alloc (.cells (Qf h s (.slice qs l.length cs) dv) 48)) w.heap.size h s (.slice qs l.length cs) dv:=heap_alloc_new w _;obtain ⟨W,hW⟩:∃ W,w.alloc (.cells (Qf h s (.slice qs l.length cs) dv) 48)=W:=⟨_,rfl⟩
 obtain ⟨b,hb⟩:∃ b,w.heap.size=b:=⟨_,rfl⟩
 have c4:=IA.c 4 (.slice qs l.length cs) rfl;have gl:=lt_of_block IA;rw [hW] at g1 c4 gl;rw [hb] at c4 gl;have g2:=grown1 W (.cells #[.string ⟨#[]⟩,.int .u64 0,.int .u64 0,.int .u64 0,.int .u64 0,.int .i64 0,.slice none 0 0] 121);have Z:=Lv (Zn.new W);have K2:=(k.grown g1).grown g2;have II:=Lv (indexLaid_any l l.length rfl k.few (fun x=>Jj x.seg) qs cs K2.row (fun V x hx hg=>isLaid_any x.seg x.q x.seg.secs.length x.c))
 have R:=Lv (fun (V:World) (hg:World.grownBy _ V none)=>K2.row.grown hg);have c4':=Qv g2 c4;have gl':=Nat.lt_of_lt_of_le gl g2.size;have G:=Lv (Qz g1 g2);have GW:=Lv g1.size;have CP:=Lv k.cap;have FW:=Lv k.few;obtain ⟨X,hX⟩:∃ X,X=Y6 l:=⟨_,rfl⟩
 rw [← hX];have HX:=Lv hX;unfold imgV;clear k K2 g1 g2 c4 gl hX;unfold Qf at hW ⊢;go_enter Tryz.func88,Tryz.ntmps88;go_upto_region 1 with fail;clear hW hb;generalize hN:l.length=N at *;have HN:=Lv hN;clear hN;go_wp2_with fail;refine II.o.mono ?_
 rintro e w3 ⟨⟨z,rfl,hz⟩,hg⟩;have Z3:=Z.o.kept hg (by simp);have GF:=Lv (Qz G.o hg);have R3:=R.o _ hg;have zl:=Z3.lt;have z0:=Z3.fz 0;have z1:=Z3.fz 1;have z2:=Z3.fz 2;have z3:=Z3.fz 3;have z4:=Z3.fz 4;have z5:=Z3.fz 5;have z6:=Z3.fz 6;obtain ⟨y0,y1,y2,y3,y4,y5,y6⟩:=Z3.c;have c4:=Qv hg c4';have gl:=Nat.lt_of_lt_of_le gl' hg.size;have Z4:=Lv Z3;clear hg Z3 Z c4' gl'
 rcases hz.find with ⟨rfl,hf⟩ | ⟨i,x,rfl,hi,hx,hf⟩
 ·have HF:Y6 l=Sg.zero:=by unfold Y6;rw [hf];rfl
  obtain rfl:=HX.o.trans HF;clear hz hf R3 HF;go_wp2;refine bodyPost_ret (results_sg1 rfl rfl (Z4.o.put Seg.zero (.slice none 0 0))) rfl ?_
  exact ⟨rfl,Qw GF.o (Yl (Qq _ _) _ _ _ _ _ _ _) GW.o⟩
 ·have HF:Y6 l=x:=by unfold Y6;rw [hf];rfl
  obtain rfl:=HX.o.trans HF;obtain ⟨g,rfl,a0,a1,a2,a3,a4,a5,a6⟩:=R3 i _ hx;have hiN:i < N:=by rw [← HN.o];exact hi
  have hNc:N≤cs:=CP.o;have hN9:N≤9223372036854775807:=FW.o;have dl:decide ((i:Int) < 0)=false:=by simp
  have dn:decide ((i:Int) < (N:Int))=true:=by simp;omega
  have dz:decide (0≤(i:Int))=true:=by simp
  clear HX;obtain ⟨⟨nm,ad,sz,of,fs,pr,sl⟩,q1,k1⟩:=X;unfold Sg.v at a6;simp only [] at a0 a1 a2 a3 a4 a5 a6;clear hz hf R3 hx HF;go_wp2;refine bodyPost_ret (results_sg1 rfl rfl (Z4.o.put ⟨nm,ad,sz,of,fs,pr,sl⟩ (.slice q1 sl.length k1))) rfl ?_
  exact ⟨rfl,Qw GF.o (Yl (Qq _ _) _ _ _ _ _ _ _) GW.o⟩
theorem Qi {g:Nat} {h:Hx} {s:St} {sv dv:Value} {ops:Array Oper} {rest:List Oper} {o:Oper} {a:Act} {Q:Exit→Act→World→Prop} (hgd:o.guard=none) (x:Operand) (ho:o.op=.load 48 x)
  (hx:a.eval x=.pointer (some ⟨g,0,none⟩)) (k:Zp w g h s sv dv) (hK:wpList Tryz.prog ops Q rest (a.put o.dst (imgV h s sv dv)) w):wpList Tryz.prog ops Q (o :: rest) a w :=
 wpList_load_imgW (by unfold Region.wanted;rw [hgd]) x ho hx k hK
theorem field_addr (nm:List Int) (ad sz of fs pr:Int) (v:Value) (w:World):(Instr.field 121 (.agg #[.string (strOfNums nm),.int .u64 ad,.int .u64 sz,.int .u64 of,.int .u64 fs,.int .i64 pr,v]) 1).run Tryz.prog w=.ok (.int .u64 ad) w:=by kernel_rfl
theorem Pq {l:List Sg} {qs:Option Addr} {cs:Nat} (k:Zt w s l qs cs):Calls Tryz.prog 54 #[imgV h s (.slice qs l.length cs) dv] w fun e w'=>e=.returned (.int .u64 (lowN s.segs))∧w.grownBy w' none:=by
 have g1:=grown1 w (.cells (Qf h s (.slice qs l.length cs) dv) 48);have IA:=Lv (show Zp (w.alloc (.cells (Qf h s (.slice qs l.length cs) dv) 48)) w.heap.size h s (.slice qs l.length cs) dv from heap_alloc_new w _);obtain ⟨W,hW⟩:∃ W,w.alloc (.cells (Qf h s (.slice qs l.length cs) dv) 48)=W:=⟨_,rfl⟩
 obtain ⟨b,hb⟩:∃ b,w.heap.size=b:=⟨_,rfl⟩
 rw [hW] at g1 IA;rw [hb] at IA;have FR:=Lv (front_any (h:=h) (dv:=dv) (k.grown g1));have G:=Lv g1;have LW:lowN s.segs=(Y6 l).seg.addr:=by
  rw [front_seg k.segs];unfold lowN Pl;cases s.segs.find? Jj <;> rfl
 rw [LW];obtain ⟨⟨⟨nm,ad,sz,of,fs,pr,sl⟩,q1,k1⟩,hX⟩:∃ X,X=Y6 l:=⟨_,rfl⟩
 rw [← hX] at FR ⊢;clear k g1 LW hX;simp only [] at FR ⊢;unfold segV Vi at FR;have HW:=Lv hW;rw [show imgV h s (.slice qs l.length cs) dv=.agg (Qf h s (.slice qs l.length cs) dv) from rfl];unfold Qf at hW ⊢;go_enter Tryz.func54,Tryz.ntmps54;go_upto_region 1 with fail;clear hW hb;go_wp2_with (first | refine Qi rfl _ rfl rfl IA.o ?_ | fail)
 refine FR.o.mono ?_
 rintro e w3 ⟨rfl,hg⟩;have GF:=Lv (Qz G.o hg);clear hg;have fa:=field_addr nm ad sz of fs pr;go_wp2;go_ret
 exact ⟨rfl,GF.o⟩
end
section
variable {w w':World} {h:Hx} {s:St} {sv dv:Value} {n hd:Int}
theorem Tg.at {l:List Sg} {qs:Option Addr} (r:Tg w qs l) {k:Nat} {x:Sg} (hx:l[k]?=some x):∃ g,qs=some ⟨g,0,none⟩∧w.cell? ⟨g,k * 7,none⟩=some (.string (strOfNums x.seg.name))∧w.cell? ⟨g,k * 7 + 1,none⟩=some (.int .u64 x.seg.addr)∧w.cell? ⟨g,k * 7 + 2,none⟩=some (.int .u64 x.seg.size) ∧
 w.cell? ⟨g,k * 7 + 3,none⟩=some (.int .u64 x.seg.off)∧w.cell? ⟨g,k * 7 + 4,none⟩=some (.int .u64 x.seg.fsize)∧w.cell? ⟨g,k * 7 + 5,none⟩=some (.int .i64 x.seg.prot)∧w.cell? ⟨g,k * 7 + 6,none⟩=some (.slice x.q x.seg.secs.length x.c):=r k x hx
def hiS (a:Int) (x:Seg):Int:=if Jj x=true then max a ((x.addr + x.size) % 18446744073709551616) else a
theorem highN_eq (l:List Seg):Hm l=l.foldl hiS 0:=rfl
theorem hi_succ {l:List Sg} (hl:l.map Sg.seg=s.segs) {k:Nat} {x:Sg} (hx:l[k]?=some x):(s.segs.take (k + 1)).foldl hiS 0=hiS ((s.segs.take k).foldl hiS 0) x.seg:=by
 rw [← hl];obtain ⟨hk,rfl⟩:=List.getElem?_eq_some_iff.1 hx;rw [List.take_succ_eq_append_getElem (by rw [List.length_map];exact hk),List.foldl_append,List.getElem_map];rfl
theorem High_any {l:List Sg} {qs:Option Addr} {cs:Nat} (k:Zt w s l qs cs):Calls Tryz.prog 85 #[imgV h s (.slice qs l.length cs) dv] w fun e w'=>e=.returned (.int .u64 (Hm s.segs))∧w.grownBy w' none:=by
 have gB:=grown1 w (.cells (Qf h s (.slice qs l.length cs) dv) 48);have aA:Zp (w.alloc (.cells (Qf h s (.slice qs l.length cs) dv) 48)) w.heap.size h s (.slice qs l.length cs) dv:=heap_alloc_new w _;obtain ⟨W,hW⟩:∃ W,w.alloc (.cells (Qf h s (.slice qs l.length cs) dv) 48)=W:=⟨_,rfl⟩
 obtain ⟨b,hb⟩:∃ b,w.heap.size=b:=⟨_,rfl⟩
 rw [hW] at gB aA;rw [hb] at aA;have RW:=Lv (fun (V:World) (hg:W.grownBy V none)=>(k.grown gB).row.grown hg);have G:=Lv gB;have c4:=aA.c 4 (.slice qs l.length cs) rfl;have gl:=lt_of_block aA;have DR:=Lv (fun (k1:Nat) (x:Sg)=>hi_succ (k:=k1) (x:=x) k.segs);have DE:=Lv (show s.segs.take l.length=s.segs by rw [← k.segs,← List.length_map (f:=Sg.seg),List.take_length]);have CP:=Lv k.cap
 have FW:=Lv k.few;obtain ⟨r,hr⟩:∃ r,r=Hm s.segs:=⟨_,rfl⟩
 rw [← hr];rw [highN_eq] at hr;have HR:=Lv hr;clear k gB aA hr;rw [show imgV h s (.slice qs l.length cs) dv=.agg (Qf h s (.slice qs l.length cs) dv) from rfl];unfold Qf at hW ⊢;go_enter Tryz.func85,Tryz.ntmps85;go_upto_region 1 with fail;clear hW hb;go_wp2;go_loopw [3,9] (fun e i wr=>∃ (k1:Nat) (E:Int),k1≤l.length∧i=.int .i64 k1∧e=.int .u64 E∧W.grownBy wr none∧E=(s.segs.take k1).foldl hiS 0) (fun _ i _=>l.length - (intOf i).toNat)
 case atStart=>exact ⟨0,0,Nat.zero_le _,rfl,rfl,Qq _ _,rfl⟩
 case round =>
  obtain ⟨k1,E,hk,rfl,rfl,hg,hre⟩:=hrel;have HRE:=Lv hre;have G3:=Lv hg;by_cases hlt:k1 < l.length
  ·obtain ⟨x,hx⟩:∃ x,l[k1]?=some x:=⟨_,List.getElem?_eq_getElem hlt⟩
   obtain ⟨g,rfl,a0,a1,a2,a3,a4,a5,a6⟩:=(RW.o wr hg).at hx;have dl:decide ((k1:Int) < (l.length:Int))=true:=by simp;omega
   have hkl:(k1:Int) < (l.length:Int):=by omega
   have DX:=Lv (DR.o k1 x hx);have LD:=Lv (fun (V:World)=>isLaid_any (w:=V) x.seg x.q x.seg.secs.length x.c);obtain ⟨bx,hbx⟩:∃ bx,bx=Jj x.seg:=⟨_,rfl⟩
   rw [← hbx] at LD;have HB:=Lv hbx;obtain ⟨⟨nm,ad,sz,of,fs,pr,sl⟩,q1,c1⟩:=x;simp only [] at a0 a1 a2 a3 a4 a5 a6 LD;unfold segV Vi at LD;obtain ⟨T,hT⟩:∃ T,(ad + sz) % 18446744073709551616=T:=⟨_,rfl⟩
   have hT2:IntKind.u64.wrap (ad + sz)=T:=by rw [IntKind.wrap_u64];exact hT
   have HT:=Lv hT;have hcp:l.length≤cs:=CP.o;have hfw:l.length≤9223372036854775807:=FW.o;have g5:=Qz hg (grown1 wr (.cells #[.string (strOfNums nm),.int .u64 ad,.int .u64 sz,.int .u64 of,.int .u64 fs,.int .i64 pr,.slice q1 sl.length c1] 121));have p5:Zn (wr.alloc (.cells #[.string (strOfNums nm),.int .u64 ad,.int .u64 sz,.int .u64 of,.int .u64 fs,.int .i64 pr,.slice q1 sl.length c1] 121)) wr.heap.size ⟨nm,ad,sz,of,fs,pr,sl⟩ (.slice q1 sl.length c1):=heap_alloc_new wr _
   have P5:=Lv p5;have G5:=Lv g5;clear hg hx hT g5 hre hbx p5;generalize l.length=N at *;go_wp2_with fail;refine (LD.o _).mono ?_
   rintro e w6 ⟨rfl,hg⟩;have P6:=P5.o.kept hg (by simp);have G6:=Lv (Qz G5.o hg);obtain ⟨y0,y1,y2,y3,y4,y5,y6⟩:=P6.c;have yl:=P6.lt;clear hg P6;simp only [] at y1 y2;cases bx
   ·go_wp2
    go_roundw
    case rel =>
     refine ⟨k1 + 1,E,hlt,by go_num,rfl,G6.o,?_⟩;rw [DX.o,← HRE.o];unfold hiS;rw [← HB.o];rfl
    case measure=>simp [intOf];omega
   ·go_wp2
    go_roundw
    case rel =>
     refine ⟨k1 + 1,max E T,hlt,by go_num,rfl,G6.o,?_⟩;rw [DX.o,← HRE.o];unfold hiS;rw [← HB.o,if_pos rfl,← HT.o]
    case measure=>simp [intOf];omega
  ·have hk':k1=l.length:=by omega
   subst hk';have dl:decide ((l.length:Int) < (l.length:Int))=false:=by simp
   have HF:r=E:=by rw [hre,DE.o];exact HR.o
   clear hg hre;generalize l.length=N at *;go_wp2;go_ret
   exact ⟨Ql HF.symm,Qz G.o G3.o⟩
end
section
variable {w w':World} {h:Hx} {s:St} {sv dv:Value} {n hd:Int}
theorem Sj.of_arr {g:Nat} (k:w.heap[g]?=some (.cells #[.int .u64 s.rb.1,.int .u64 s.rb.2,.int .u64 s.bd.1,.int .u64 s.bd.2,.int .u64 s.wk.1,.int .u64 s.wk.2,.int .u64 s.lz.1,.int .u64 s.lz.2,.int .u64 s.tr.1,.int .u64 s.tr.2,.int .u64 s.ch.1,.int .u64 s.ch.2,.int .u64 s.sy.1,.int .u64 s.sy.2,.int .u64 s.st.1,.int .u64 s.st.2] 46)):Sj w (some ⟨g,0,none⟩) (Zw s):=by
 intro i x hx;refine ⟨g,rfl,?_,?_⟩ <;> rw [Qm k]
 all_goals
  unfold Zw at hx
  match i,hx with
  | 0,hx=>injection hx with hx;subst hx;rfl
  | 1,hx=>injection hx with hx;subst hx;rfl
  | 2,hx=>injection hx with hx;subst hx;rfl
  | 3,hx=>injection hx with hx;subst hx;rfl
  | 4,hx=>injection hx with hx;subst hx;rfl
  | 5,hx=>injection hx with hx;subst hx;rfl
  | 6,hx=>injection hx with hx;subst hx;rfl
  | 7,hx=>injection hx with hx;subst hx;rfl
  | k + 8,hx=>simp at hx
def Lx (s:St):Prop:=∀ x∈Zw s,U64 x.1∧U64 x.2
end
section
open Go.RowKit Go.Sort
variable {w w':World} {h:Hx} {s:St} {sv dv:Value} {n hd:Int}
structure WpQ (P:Program) (ops:Array Oper) (C:World→Prop) (Q:Act→Prop) (l:List Oper) (a:Act):Prop where
 out:wpQuiet P ops C Q l a
section
variable {P:Program} {ops:Array Oper} {C:World→Prop} {Q:Act→Prop} {a:Act} {o:Oper} {rest:List Oper}
theorem WpQ.skip (hw:Region.wanted o (yielded ops a.tmps)=false) (hK:WpQ P ops C Q rest (a.put o.dst undef)):WpQ P ops C Q (o :: rest) a :=
 ⟨wpQuiet_step fun K hK'=>by
  rw [if_neg (by rw [hw];decide)];exact hK' _ hK.out⟩
theorem WpQ.step (h:∀ K:Act→Prop,(∀ a,WpQ P ops C Q rest a→K a)→if Region.wanted o (yielded ops a.tmps) then o.quiet P a C K else K (a.put o.dst undef)):WpQ P ops C Q (o :: rest) a :=
 ⟨wpQuiet_step fun K hK=>h K fun a h'=>hK a h'.out⟩
theorem WpQ.nil (h:Q a):WpQ P ops C Q [] a:=⟨wpQuiet_nil h⟩
end
theorem Zj {ops:Array Oper} {C:World→Prop} {Q:Act→Prop} {a:Act} {o:Oper} {rest:List Oper} {g:Nat} {v:Value} (hw:Region.wanted o (yielded ops a.tmps)=true) (x:Operand) (ho:o.op=.load 48 x)
  (hx:a.eval x=.pointer (some ⟨g,0,none⟩)) (hl:∀ w,C w→(loadVar 48 ⟨g,0,none⟩).run Tryz.prog w=.ok v w) (hK:wpQuiet Tryz.prog ops C Q rest (a.put o.dst v)):wpQuiet Tryz.prog ops C Q (o :: rest) a:=by
 refine wpQuiet_step fun K hK'=>?_
 rw [if_pos hw];refine ⟨v,fun W hW=>?_,hK' _ hK⟩;unfold Oper.quietAt execOp;simp only [ho,hx,Instr.loadAt,Instr.sureAddr,Sem.run_bind,Sem.run_pure,Result.andThen_ok,hl W hW];exact ⟨rfl,rfl⟩
end
section
open Go.RowKit Go.Maps
variable {w w':World} {h:Hx} {s:St} {sv dv:Value} {n hd:Int}
def NmFit (s:St):Prop:=∀ x∈s.segs,x.name.length≤1000
end
section
variable {w w':World} {h:Hx} {s:St} {sv dv:Value} {n hd:Int}
theorem rHigh_any {l:List Sg} {qs:Option Addr} {cs:Nat} (k:Zt w s l qs cs):Calls Tryz.prog 82 #[imgV h s (.slice qs l.length cs) dv] w fun e w'=>e=.returned (.int .u64 (Hm s.segs))∧w.grownBy w' none:=by
 have gB:=grown1 w (.cells (Qf h s (.slice qs l.length cs) dv) 48);have aA:Zp (w.alloc (.cells (Qf h s (.slice qs l.length cs) dv) 48)) w.heap.size h s (.slice qs l.length cs) dv:=heap_alloc_new w _;obtain ⟨W,hW⟩:∃ W,w.alloc (.cells (Qf h s (.slice qs l.length cs) dv) 48)=W:=⟨_,rfl⟩
 obtain ⟨b,hb⟩:∃ b,w.heap.size=b:=⟨_,rfl⟩
 rw [hW] at gB aA;rw [hb] at aA;have RW:=Lv (fun (V:World) (hg:W.grownBy V none)=>(k.grown gB).row.grown hg);have G:=Lv gB;have AA:=Lv aA;have DR:=Lv (fun (k1:Nat) (x:Sg)=>hi_succ (k:=k1) (x:=x) k.segs);have DE:=Lv (show s.segs.take l.length=s.segs by rw [← k.segs,← List.length_map (f:=Sg.seg),List.take_length]);have CP:=Lv k.cap;have FW:=Lv k.few;obtain ⟨r,hr⟩:∃ r,r=Hm s.segs:=⟨_,rfl⟩
 rw [← hr];rw [highN_eq] at hr;have HR:=Lv hr;clear k gB aA hr;rw [show imgV h s (.slice qs l.length cs) dv=.agg (Qf h s (.slice qs l.length cs) dv) from rfl];unfold Qf at hW ⊢;go_enter Tryz.func82,Tryz.ntmps82;go_upto_region 1 with fail;clear hW hb;go_wp2;go_loopw [3,4] (fun e i wr=>∃ (k1:Nat) (E:Int),k1≤l.length∧i=.int .i64 k1∧e=.int .u64 E∧W.grownBy wr none∧E=(s.segs.take k1).foldl hiS 0) (fun _ i _=>l.length - (intOf i).toNat)
 case atStart=>exact ⟨0,0,Nat.zero_le _,rfl,rfl,Qq _ _,rfl⟩
 case round =>
  obtain ⟨k1,E,hk,rfl,rfl,hg,hre⟩:=hrel;have HRE:=Lv hre;have G3:=Lv hg;have c4:=(AA.o.kept hg (by simp)).c 4 (.slice qs l.length cs) rfl;have gl:=lt_of_block (AA.o.kept hg (by simp));by_cases hlt:k1 < l.length
  ·obtain ⟨x,hx⟩:∃ x,l[k1]?=some x:=⟨_,List.getElem?_eq_getElem hlt⟩
   obtain ⟨g,rfl,a0,a1,a2,a3,a4,a5,a6⟩:=(RW.o wr hg).at hx;have dl:decide ((k1:Int) < (l.length:Int))=true:=by simp;omega
   have hkl:(k1:Int) < (l.length:Int):=by omega
   have DX:=Lv (DR.o k1 x hx);have LD:=Lv (fun (V:World)=>Ro (w:=V) x.seg x.q x.seg.secs.length x.c);obtain ⟨bx,hbx⟩:∃ bx,bx=Jj x.seg:=⟨_,rfl⟩
   rw [← hbx] at LD;have HB:=Lv hbx;obtain ⟨⟨nm,ad,sz,of,fs,pr,sl⟩,q1,c1⟩:=x;simp only [] at a0 a1 a2 a3 a4 a5 a6 LD;unfold segV Vi at LD;obtain ⟨T,hT⟩:∃ T,(ad + sz) % 18446744073709551616=T:=⟨_,rfl⟩
   have hT2:IntKind.u64.wrap (ad + sz)=T:=by rw [IntKind.wrap_u64];exact hT
   have HT:=Lv hT;have hcp:l.length≤cs:=CP.o;have hfw:l.length≤9223372036854775807:=FW.o;have g5:=Qz hg (grown1 wr (.cells #[.string (strOfNums nm),.int .u64 ad,.int .u64 sz,.int .u64 of,.int .u64 fs,.int .i64 pr,.slice q1 sl.length c1] 121));have p5:Zn (wr.alloc (.cells #[.string (strOfNums nm),.int .u64 ad,.int .u64 sz,.int .u64 of,.int .u64 fs,.int .i64 pr,.slice q1 sl.length c1] 121)) wr.heap.size ⟨nm,ad,sz,of,fs,pr,sl⟩ (.slice q1 sl.length c1):=heap_alloc_new wr _
   have P5:=Lv p5;have G5:=Lv g5;clear hg hx hT g5 hre hbx p5;generalize l.length=N at *;go_wp2_with fail;refine (LD.o _).mono ?_
   rintro e w6 ⟨rfl,hg⟩;have P6:=P5.o.kept hg (by simp);have G6:=Lv (Qz G5.o hg);obtain ⟨y0,y1,y2,y3,y4,y5,y6⟩:=P6.c;have yl:=P6.lt;clear hg P6;simp only [] at y1 y2;cases bx
   ·go_wp2
    go_roundw
    case rel =>
     refine ⟨k1 + 1,E,hlt,by go_num,rfl,G6.o,?_⟩;rw [DX.o,← HRE.o];unfold hiS;rw [← HB.o];rfl
    case measure=>simp [intOf];omega
   ·cases hET:decide (E < T)
    ·go_wp2
     go_roundw
     case rel =>
      refine ⟨k1 + 1,E,hlt,by go_num,rfl,G6.o,?_⟩;rw [DX.o,← HRE.o];unfold hiS;rw [← HB.o,if_pos rfl,HT.o]
      have:=of_decide_eq_false hET
      omega
     case measure=>simp [intOf];omega
    ·go_wp2
     go_roundw
     case rel =>
      refine ⟨k1 + 1,T,hlt,by go_num,rfl,G6.o,?_⟩;rw [DX.o,← HRE.o];unfold hiS;rw [← HB.o,if_pos rfl,HT.o]
      have:=of_decide_eq_true hET
      omega
     case measure=>simp [intOf];omega
  ·have hk':k1=l.length:=by omega
   subst hk';have dl:decide ((l.length:Int) < (l.length:Int))=false:=by simp
   have HF:r=E:=by rw [hre,DE.o];exact HR.o
   clear hg hre;generalize l.length=N at *;go_wp2;go_ret
   exact ⟨Ql HF.symm,Qz G.o G3.o⟩
theorem find_take {l:List Sg} (hl:l.map Sg.seg=s.segs) {k:Nat} (h:∀ j y,j < k→l[j]?=some y→Jj y.seg=false):(∀ x,l[k]?=some x→Jj x.seg=true→lowN s.segs=x.seg.addr)∧(k=l.length→lowN s.segs=0):=by
 constructor
 ·intro x hx hp
  have:s.segs.find? Jj=some x.seg:=by
   rw [← hl,List.find?_map];obtain ⟨hk,he⟩:=List.getElem?_eq_some_iff.1 hx
   have:l.find? (Jj ∘ Sg.seg)=some x:=by
    rw [List.find?_eq_some_iff_getElem];exact ⟨hp,k,hk,he,fun j hj=>by show (!Jj _)=true;rw [h j _ hj (List.getElem?_eq_getElem (Nat.lt_trans hj hk))];rfl⟩
   rw [this];rfl
  unfold lowN;rw [this]
 ·intro hk
  have:s.segs.find? Jj=none:=by
   rw [← hl,List.find?_eq_none];intro y hy;obtain ⟨z,hz,rfl⟩:=List.mem_map.1 hy;obtain ⟨j,hj,rfl⟩:=List.getElem_of_mem hz;rw [h j _ (by omega) (List.getElem?_eq_getElem hj)];simp
  unfold lowN;rw [this]
theorem W9 {l:List Sg} {qs:Option Addr} {cs:Nat} (k:Zt w s l qs cs):Calls Tryz.prog 55 #[imgV h s (.slice qs l.length cs) dv] w fun e w'=>e=.returned (.int .u64 (lowN s.segs))∧w.grownBy w' none:=by
 have gB:=grown1 w (.cells (Qf h s (.slice qs l.length cs) dv) 48);have aA:Zp (w.alloc (.cells (Qf h s (.slice qs l.length cs) dv) 48)) w.heap.size h s (.slice qs l.length cs) dv:=heap_alloc_new w _;obtain ⟨W,hW⟩:∃ W,w.alloc (.cells (Qf h s (.slice qs l.length cs) dv) 48)=W:=⟨_,rfl⟩
 obtain ⟨b,hb⟩:∃ b,w.heap.size=b:=⟨_,rfl⟩
 rw [hW] at gB aA;rw [hb] at aA;have RW:=Lv (fun (V:World) (hg:W.grownBy V none)=>(k.grown gB).row.grown hg);have G:=Lv gB;have AA:=Lv aA;have FT:=Lv (fun (k1:Nat)=>find_take (k:=k1) k.segs);have CP:=Lv k.cap;have FW:=Lv k.few;obtain ⟨r,hr⟩:∃ r,r=lowN s.segs:=⟨_,rfl⟩
 rw [← hr];have HR:=Lv hr;clear k gB aA hr;rw [show imgV h s (.slice qs l.length cs) dv=.agg (Qf h s (.slice qs l.length cs) dv) from rfl];unfold Qf at hW ⊢;go_enter Tryz.func55,Tryz.ntmps55;go_upto_region 1 with fail;clear hW hb;go_wp2;go_loopw [3] (fun i wr=>∃ k1:Nat,k1≤l.length∧i=.int .i64 k1∧W.grownBy wr none∧∀ j y,j < k1→l[j]?=some y→Jj y.seg=false) (fun i _=>l.length - (intOf i).toNat)
 case atStart=>exact ⟨0,Nat.zero_le _,rfl,Qq _ _,fun j y hj=>by omega⟩
 case round =>
  obtain ⟨k1,hk,rfl,hg,hno⟩:=hrel;have NO:=Lv hno;have G3:=Lv hg;have c4:=(AA.o.kept hg (by simp)).c 4 (.slice qs l.length cs) rfl;have gl:=lt_of_block (AA.o.kept hg (by simp));by_cases hlt:k1 < l.length
  ·obtain ⟨x,hx⟩:∃ x,l[k1]?=some x:=⟨_,List.getElem?_eq_getElem hlt⟩
   obtain ⟨g,rfl,a0,a1,a2,a3,a4,a5,a6⟩:=(RW.o wr hg).at hx;have RX:=Lv (fun (V:World) (hv:W.grownBy V none)=>(RW.o V hv).at hx);have dl:decide ((k1:Int) < (l.length:Int))=true:=by simp;omega
   have hkl:(k1:Int) < (l.length:Int):=by omega
   have LD:=Lv (fun (V:World)=>Ro (w:=V) x.seg x.q x.seg.secs.length x.c);obtain ⟨bx,hbx⟩:∃ bx,bx=Jj x.seg:=⟨_,rfl⟩
   rw [← hbx] at LD;have HB:=Lv hbx;have HX:=Lv hx;obtain ⟨⟨nm,ad,sz,of,fs,pr,sl⟩,q1,c1⟩:=x;simp only [] at a0 a1 a2 a3 a4 a5 a6 LD;unfold segV Vi at LD;have hcp:l.length≤cs:=CP.o;have hfw:l.length≤9223372036854775807:=FW.o;clear hg hx hno hbx;generalize hN:l.length=N at *;clear hN;go_wp2_with fail;refine (LD.o _).mono ?_
   rintro e w6 ⟨rfl,hg⟩;have G6:=Lv (Qz G3.o hg);have c4:=Qv hg c4;have gl:=Nat.lt_of_lt_of_le gl hg.size;have a1:=Qv hg a1;clear hg;cases bx
   ·go_wp2
    go_roundw
    case rel =>
     refine ⟨k1 + 1,hlt,by go_num,G6.o,fun j y hj hy=>?_⟩;rcases Nat.lt_or_ge j k1 with h1 | h1
     ·exact NO.o j y h1 hy
     ·obtain rfl:j=k1:=by omega
      rw [HX.o] at hy;injection hy with hy;rw [← hy];exact HB.o.symm
    case measure=>simp [intOf];omega
   ·go_wp2
    go_ret
    exact ⟨Ql (HR.o.trans ((FT.o k1 NO.o).1 _ HX.o HB.o.symm)).symm,Qz G.o G6.o⟩
  ·have hk':k1=l.length:=by omega
   subst hk';have dl:decide ((l.length:Int) < (l.length:Int))=false:=by simp
   have HF:r=0:=HR.o.trans ((FT.o _ hno).2 rfl);clear hg hno;generalize l.length=N at *;go_wp2;go_ret
   exact ⟨Ql HF.symm,Qz G.o G3.o⟩
end
section
variable {w w':World} {h:Hx} {s:St} {sv dv:Value}
theorem secs_take {l:List Sg} (hl:l.map Sg.seg=s.segs) {k:Nat} {x:Sg} (hx:l[k]?=some x):secN (s.segs.take (k + 1))=secN (s.segs.take k) + x.seg.secs.length:=by
 rw [← hl];obtain ⟨hk,rfl⟩:=List.getElem?_eq_some_iff.1 hx;rw [List.take_succ_eq_append_getElem (by rw [List.length_map];exact hk),List.getElem_map];unfold secN;rw [List.map_append,List.sum_append];simp
theorem secs_le (l:List Seg) (k:Nat):secN (l.take k)≤secN l:=by
 conv=>rhs;rw [← List.take_append_drop k l]
 unfold secN;rw [List.map_append,List.sum_append];omega
theorem sectionsOf_any {l:List Sg} {qs:Option Addr} {cs:Nat} (k:Zt w s l qs cs) (hb:secN s.segs≤1000000000):Calls Tryz.prog 84 #[imgV h s (.slice qs l.length cs) dv] w fun e w'=>e=.returned (.int .i64 (secN s.segs))∧w.grownBy w' none:=by
 have gB:=grown1 w (.cells (Qf h s (.slice qs l.length cs) dv) 48);have aA:Zp (w.alloc (.cells (Qf h s (.slice qs l.length cs) dv) 48)) w.heap.size h s (.slice qs l.length cs) dv:=heap_alloc_new w _;obtain ⟨W,hW⟩:∃ W,w.alloc (.cells (Qf h s (.slice qs l.length cs) dv) 48)=W:=⟨_,rfl⟩
 obtain ⟨b,hb'⟩:∃ b,w.heap.size=b:=⟨_,rfl⟩
 rw [hW] at gB aA;rw [hb'] at aA;have RW:=Lv (fun (V:World) (hg:W.grownBy V none)=>(k.grown gB).row.grown hg);have G:=Lv gB;have c4:=aA.c 4 (.slice qs l.length cs) rfl;have gl:=lt_of_block aA;have DR:=Lv (fun (k1:Nat) (x:Sg)=>secs_take (k:=k1) (x:=x) k.segs);have DE:=Lv (show s.segs.take l.length=s.segs by rw [← k.segs,← List.length_map (f:=Sg.seg),List.take_length]);have LE:=Lv (fun k1=>Nat.le_trans (secs_le s.segs k1) hb)
 have CP:=Lv k.cap;have FW:=Lv k.few;clear k gB aA hb;rw [show imgV h s (.slice qs l.length cs) dv=.agg (Qf h s (.slice qs l.length cs) dv) from rfl];unfold Qf at hW ⊢;go_enter Tryz.func84,Tryz.ntmps84;go_upto_region 1 with fail;clear hW hb';go_wp2;go_loopw [3,9] (fun e i wr=>∃ (k1:Nat),k1≤l.length∧i=.int .i64 k1∧e=.int .i64 (secN (s.segs.take k1):Nat)∧W.grownBy wr none) (fun _ i _=>l.length - (intOf i).toNat)
 case atStart=>exact ⟨0,Nat.zero_le _,rfl,rfl,Qq _ _⟩
 case round =>
  obtain ⟨k1,hk,rfl,rfl,hg⟩:=hrel;have G3:=Lv hg;by_cases hlt:k1 < l.length
  ·obtain ⟨x,hx⟩:∃ x,l[k1]?=some x:=⟨_,List.getElem?_eq_getElem hlt⟩
   obtain ⟨g,rfl,a0,a1,a2,a3,a4,a5,a6⟩:=(RW.o wr hg).at hx;have dl:decide ((k1:Int) < (l.length:Int))=true:=by simp;omega
   have hkl:(k1:Int) < (l.length:Int):=by omega
   have DX:=DR.o k1 x hx;have LX:=LE.o (k1 + 1);obtain ⟨⟨nm,ad,sz,of,fs,pr,sl⟩,q1,c1⟩:=x;simp only [] at a0 a1 a2 a3 a4 a5 a6 DX;obtain ⟨T,hT⟩:∃ T,T=secN (s.segs.take k1):=⟨_,rfl⟩
   obtain ⟨m,hm⟩:∃ m,m=sl.length:=⟨_,rfl⟩
   rw [← hT,← hm] at DX;rw [DX] at LX;have DXH:=Lv DX;have hw2:IntKind.i64.wrap ((T:Int) + (m:Int))=((T + m:Nat):Int):=by rw [IntWalk.i64_in _ (by omega)];omega
   have hcp:l.length≤cs:=CP.o;have hfw:l.length≤9223372036854775807:=FW.o;rw [← hm] at a6;have g5:=Qz hg (grown1 wr (.cells #[.string (strOfNums nm),.int .u64 ad,.int .u64 sz,.int .u64 of,.int .u64 fs,.int .i64 pr,.slice q1 m c1] 121));have G5:=Lv g5;rw [← hT];clear hg hx hT g5 DX hm;generalize l.length=N at *;go_wp2;go_roundw
   case rel=>exact ⟨k1 + 1,hlt,by go_num,by rw [DXH.o];simp,G5.o⟩
   case measure=>simp [intOf];omega
  ·have hk':k1=l.length:=by omega
   subst hk';have dl:decide ((l.length:Int) < (l.length:Int))=false:=by simp
   rw [DE.o];clear hg;generalize l.length=N at *;go_wp2;go_ret
   exact ⟨rfl,Qz G.o G3.o⟩
theorem sections_any {l:List Sg} {qs:Option Addr} {cs:Nat} (k:Zt w s l qs cs) (hb:secN s.segs≤1000000000):Calls Tryz.prog 87 #[imgV h s (.slice qs l.length cs) dv] w fun e w'=>e=.returned (.int .i64 (secN s.segs))∧w.grownBy w' none:=by
 have gB:=grown1 w (.cells (Qf h s (.slice qs l.length cs) dv) 48);have aA:Zp (w.alloc (.cells (Qf h s (.slice qs l.length cs) dv) 48)) w.heap.size h s (.slice qs l.length cs) dv:=heap_alloc_new w _;obtain ⟨W,hW⟩:∃ W,w.alloc (.cells (Qf h s (.slice qs l.length cs) dv) 48)=W:=⟨_,rfl⟩
 obtain ⟨b,hb'⟩:∃ b,w.heap.size=b:=⟨_,rfl⟩
 rw [hW] at gB aA;rw [hb'] at aA;have RW:=Lv (fun (V:World) (hg:W.grownBy V none)=>(k.grown gB).row.grown hg);have G:=Lv gB;have c4:=aA.c 4 (.slice qs l.length cs) rfl;have gl:=lt_of_block aA;have DR:=Lv (fun (k1:Nat) (x:Sg)=>secs_take (k:=k1) (x:=x) k.segs);have DE:=Lv (show s.segs.take l.length=s.segs by rw [← k.segs,← List.length_map (f:=Sg.seg),List.take_length]);have LE:=Lv (fun k1=>Nat.le_trans (secs_le s.segs k1) hb)
 have CP:=Lv k.cap;have FW:=Lv k.few;clear k gB aA hb;rw [show imgV h s (.slice qs l.length cs) dv=.agg (Qf h s (.slice qs l.length cs) dv) from rfl];unfold Qf at hW ⊢;go_enter Tryz.func87,Tryz.ntmps87;go_upto_region 1 with fail;clear hW hb';go_wp2;go_loopw [3,4] (fun e i wr=>∃ (k1:Nat),k1≤l.length∧i=.int .i64 k1∧e=.int .i64 (secN (s.segs.take k1):Nat)∧wr=W) (fun _ i _=>l.length - (intOf i).toNat)
 case atStart=>exact ⟨0,Nat.zero_le _,rfl,rfl,rfl⟩
 case round =>
  obtain ⟨k1,hk,rfl,rfl,hwr⟩:=hrel;subst hwr;by_cases hlt:k1 < l.length
  ·obtain ⟨x,hx⟩:∃ x,l[k1]?=some x:=⟨_,List.getElem?_eq_getElem hlt⟩
   obtain ⟨g,rfl,a0,a1,a2,a3,a4,a5,a6⟩:=(RW.o wr (Qq _ _)).at hx;have dl:decide ((k1:Int) < (l.length:Int))=true:=by simp;omega
   have hkl:(k1:Int) < (l.length:Int):=by omega
   have DX:=DR.o k1 x hx;have LX:=LE.o (k1 + 1);obtain ⟨⟨nm,ad,sz,of,fs,pr,sl⟩,q1,c1⟩:=x;simp only [] at a0 a1 a2 a3 a4 a5 a6 DX;obtain ⟨T,hT⟩:∃ T,T=secN (s.segs.take k1):=⟨_,rfl⟩
   obtain ⟨m,hm⟩:∃ m,m=sl.length:=⟨_,rfl⟩
   rw [← hT,← hm] at DX;rw [DX] at LX;have DXH:=Lv DX;have hw2:IntKind.i64.wrap ((T:Int) + (m:Int))=((T + m:Nat):Int):=by rw [IntWalk.i64_in _ (by omega)];omega
   have hcp:l.length≤cs:=CP.o;have hfw:l.length≤9223372036854775807:=FW.o;rw [← hm] at a6;rw [← hT];clear hx hT DX hm a0 a1 a2 a3 a4 a5;generalize l.length=N at *;go_wp2;go_roundw
   case rel=>exact ⟨k1 + 1,hlt,by go_num,by rw [DXH.o];simp⟩
   case measure=>simp [intOf];omega
  ·have hk':k1=l.length:=by omega
   subst hk';have dl:decide ((l.length:Int) < (l.length:Int))=false:=by simp
   rw [DE.o];generalize l.length=N at *;go_wp2;go_ret
   exact ⟨rfl,G.o⟩
end
section
open Go Go.Sort
section
variable {P:Program} {ops:Array Oper} {md:Region.Mode} {C:World→Prop}
def Ha (P:Program) (md:Region.Mode) (ops:Array Oper) (C:World→Prop) (n:Nat) (L:Array Bool→Act→Prop):Nat→Array Bool→Act→Prop
 | 0,done,a=>L done a
 | k + 1,done,a=>Region.ready md ops done≠[]∧∀ i,i∈Region.ready md ops done→i < n∧qOp P ops C i (Ha P md ops C n L k (done.setIfInBounds i true)) a
theorem Ha.run {n m:Nat} {L:Array Bool→Act→Prop} {Q':Exit→Act→World→Prop} (hL:∀ done a w,C w→L done a→wpAny P md ops Q' m done a w) :
  ∀ (k:Nat) (done:Array Bool) (a:Act) (w:World),C w→Ha P md ops C n L k done a→wpAny P md ops Q' (k + m) done a w:=by
 intro k
 induction k with
 | zero =>
  intro done a w hw h;rw [Nat.zero_add];exact hL _ _ _ hw h
 | succ k ih =>
  intro done a w hw ⟨h1,h2⟩;rw [Nat.add_right_comm];refine ⟨fun e=>absurd e h1,fun i hi=>wpOp_of_qOp hw (fun a' w' hw' h'=>ih _ a' w' hw' h') (h2 i hi).2⟩
theorem Ha.first {n i:Nat} {oi:Oper} {v:Value} {L:Array Bool→Act→Prop} (hi:ops[i]?=some oi) (hsel:∀ (j:Nat) (o:Oper) cs b,ops[j]?=some o→o.op≠.select cs b)
  (hs:Region.sinkB md ops n=true) (hc:Region.chainB md ops n=true) (hn:n < ops.size) (hin:i < n) (hL:∀ done a,L done a→∀ j∈Region.ready md ops done,n≤j) :
  ∀ (k:Nat) (done:Array Bool) (a:Act),HeadInv md ops n done →
    (∀ j oj,ops[j]?=some oj→j≠i→done.getD j true=false→(∀ e∈oj.after,Region.binds md e=true→e.on≠i)→oi.apart ops oj=true) →
    i∈Region.ready md ops done→YieldsIn P ops C oi v a→Ha P md ops C n L k (done.setIfInBounds i true) (a.put oi.dst v)→Ha P md ops C n L (k + 1) done a:=by
 intro k
 induction k with
 | zero =>
  intro done a inv _ hr hy H;have open':=(mem_ready.1 hr).1;refine ⟨fun e=>(by rw [e] at hr;cases hr),fun j hj=>?_⟩;have hjn:j < n:=Nat.lt_of_not_le fun h=>tail_waits hs hc hn inv _ i rfl hin open' j h hj;refine ⟨hjn,?_⟩;rcases Decidable.em (j=i) with e | e
  · subst e
    exact hy.qOp hi H
  · exact absurd (hL _ _ H j (ready_mono hj e)) (Nat.not_le_of_lt hjn)
 | succ k ih =>
  intro done a inv free hr hy H;have open':=(mem_ready.1 hr).1;refine ⟨fun e=>(by rw [e] at hr;cases hr),fun j hj=>?_⟩;have hjn:j < n:=Nat.lt_of_not_le fun h=>tail_waits hs hc hn inv _ i rfl hin open' j h hj;refine ⟨hjn,?_⟩;rcases Decidable.em (j=i) with e | e
  · subst e
    exact hy.qOp hi H
  obtain ⟨oj,hoj,waits⟩:=(mem_ready.1 hj).2;have hjopen:=(mem_ready.1 hj).1;have apart:oi.apart ops oj=true:=free j oj hoj e hjopen fun x hx hb hon=>by
    have h1:=waits x hx hb;rw [hon,getD_both open'] at h1;cases h1
  have step:=qOp_put hoj apart (fun cs b=>hsel i oi cs b hi) (fun cs b=>hsel j oj cs b hoj) hy (H.2 j (ready_mono hj e)).2;refine qOp_mono (fun a' ⟨y',r'⟩=>?_) step;refine ih _ a' (inv.set hj hjn) (fun l ol hl hli hlo hno=>?_) (ready_mono hr (Ne.symm e)) y' (by rw [Array.setIfInBounds_comm _ _ e];exact r');refine free l ol hl hli ?_ hno
  rcases Decidable.em (j=l) with e2 | e2
  · subst e2;exact hjopen
  · rwa [getD_set_ne true e2] at hlo
theorem Ha.text {n m:Nat} {T:Act→Prop} (hsel:Region.noSelect ops=true) (hs:Region.sinkB md ops n=true) (hc:Region.chainB md ops n=true) (hn:n < ops.size) :
  ∀ (l:List Oper) (k:Nat) (done:Array Bool) (a:Act),(∀ j,j < l.length→l[j]?=ops[k + j]?)→k + l.length=n→HeadInv md ops n done→Region.lexHead md ops m l.length k done=true→wpQuiet P ops C T l a →
   Ha P md ops C n (fun done' a'=>Region.seqB md ops m n done'=true∧T a') l.length done a:=by
 intro l
 induction l with
 | nil =>
  intro k done a _ hk _ hB h;have e:k=n:=hk;subst e;exact ⟨hB,h⟩
 | cons o l ih =>
  intro k done a hl hk inv hB h;have ho:ops[k]?=some o:=(hl 0 (Nat.zero_lt_succ _)).symm
  have hB':((Region.ready md ops done).contains k && Region.free md ops done k && Region.lexHead md ops m l.length (k + 1) (done.setIfInBounds k true))=true:=hB;rw [Bool.and_eq_true,Bool.and_eq_true] at hB';have hlen:(o :: l).length=l.length + 1:=rfl;have hkn:k < n:=by omega
  have hr:k∈Region.ready md ops done:=by simpa using hB'.1.1
  have hq:qOp P ops C k (wpQuiet P ops C T l) a:=by
   unfold qOp;rw [ho];exact h
  obtain ⟨v,hy,hK⟩:=yieldsIn_of_qOp ho hq;refine Ha.first ho (Region.noSelect_spec hsel) hs hc hn hkn (fun _ _ hT=>seqB_ready hT.1) l.length done a inv (Region.free_spec ho hB'.1.2) hr hy ?_
  refine ih (k + 1) _ _ (fun j hj=>?_) (by omega) (inv.set hr hkn) hB'.2 hK
  have:=hl (j + 1) (by omega)
  rw [show k + 1 + j=k + (j + 1) by omega];exact this
end
theorem Kt {P:Program} {id:Nat} {Q:Exit→Act→World→Prop} {a:Act} {w:World} {l:List Oper} (n:Nat) (hm:P.follows .mixedOrders=true) (hB:Region.lexTailB .any l.toArray n=true)
  (h:wpQuiet P l.toArray (fun w'=>∃ p:Regrown,w'=grow (redrawn w p.d) p.os) (fun a'=>∀ w',(∃ p:Regrown,w'=grow (redrawn w p.d) p.os)→wpList P l.toArray Q (l.drop n) a' w') (l.take n) a):(Code.region id l.toArray true).wp P Q a w:=by
 unfold Region.lexTailB at hB;simp only [Bool.and_eq_true,decide_eq_true_eq] at hB;obtain ⟨⟨⟨⟨hsel,hn⟩,hs⟩,hc⟩,hlex⟩:=hB;have hn':n < l.length:=by simpa using hn
 have ht:(l.take n).length=n:=by rw [List.length_take];omega
 have hd:(l.drop n).length=l.toArray.size - n:=by simp
 have inv:HeadInv .any l.toArray n (Array.replicate l.toArray.size false):=⟨by simp,fun j oj _ hl=>(by rw [getD_replicate_false] at hl;cases hl),fun t _ hlt=>getD_in (by simpa using hlt) (getD_replicate_false _ _)⟩
 have H:=Ha.text (m:=l.toArray.size - n) hsel hs hc hn (l.take n) 0 (Array.replicate l.toArray.size false) a (fun j hj=>by
  rw [ht] at hj;simp [hj]) (by rw [ht];omega) inv (by rw [ht];exact hlex) h
 refine wp_region_any hm ?_
 have R:=Ha.run (Q':=Q) (m:=l.toArray.size - n) (fun done a' w' hw' ⟨h1,h2⟩=>by
  have:=wpAny_of_seq (md:=.any) (Q':=Q) (l.drop n) n done a' w' (fun j=>by simp [List.getElem?_drop]) (by rw [hd];exact h1) (h2 w' hw')
  rwa [hd] at this) _ _ _ { w with drawn:=w.drawn + 1 } ⟨⟨w.drawn + 1,#[]⟩,by rw [grow_empty];rfl⟩ H
 rw [ht,show n + (l.toArray.size - n)=l.toArray.size by omega] at R;exact R
end
section
variable {w w' W:World} {h:Hx} {s:St} {sv dv:Value}
def Vb (long deps:Int):Array Value:=#[.int .u64 long,.int .u64 deps]
def Rg (s:St) (nd:Nat):Value:=.agg (Vb (Yh s) nd)
def Y5 (w:World) (g:Nat) (a b:Int):Prop:=w.heap[g]?=some (.cells (Vb a b) 107 (0,0))
theorem Y5.c {g:Nat} {a b:Int} (h:Y5 w g a b):w.cell? ⟨g,0,none⟩=some (.int .u64 a)∧w.cell? ⟨g,1,none⟩=some (.int .u64 b):=by
 refine ⟨?_,?_⟩ <;> (rw [Qm h];rfl)
theorem Y5.put {g:Nat} {a b:Int} (h:Y5 w g a b) (c d:Int):Y5 ((w.setCell ⟨g,0,none⟩ (.int .u64 c)).setCell ⟨g,1,none⟩ (.int .u64 d)) g c d:=by
 unfold Y5;rw [heap_setCell_same _ g 1 _ _ _ (show (w.setCell ⟨g,0,none⟩ (.int .u64 c)).heap[g]?=_ from heap_setCell_same w g 0 _ _ _ h)];rfl
theorem Y5.kept {g:Nat} {a b:Int} {r:Option Nat} (h:Y5 w g a b) (hg:w.grownBy w' r) (hr:r≠some g):Y5 w' g a b:=(hg.block g (lt_of_block h) (fun e=>hr e.symm)).trans h
theorem load_room {g:Nat} {a b:Int} (h:Y5 w g a b):(loadVar 107 ⟨g,0,none⟩).run Tryz.prog w=.ok (.agg (Vb a b)) w :=
 run_loadVar_row w g _ _ _ _ _ h Tryz.underlying107 rfl (by kernel_rfl)
theorem results_room {fn:Func} {p:Tmp} {g:Nat} {a b:Int} (hr:fn.results=#[.cell p 107]) {tmps:Array Value} (hp:tmps.getD p undef=.pointer (some ⟨g,0,none⟩)) (hc:Y5 w g a b) :
  (results fn tmps).run Tryz.prog w=.ok (.agg (Vb a b)) w:=by
 have e:(asAddr (.pointer (some ⟨g,0,none⟩)):Sem Addr).run Tryz.prog w=.ok ⟨g,0,none⟩ w:=rfl;simp only [Array.getD_eq_getD_getElem?] at hp;simp only [results,hr];simp [Sem.run_bind,Result.andThen,hp,e,load_room hc]
theorem Kn {g:Nat} (k:Zp w g h s sv dv):(loadVar 48 ⟨g,0,none⟩).run Tryz.prog w=.ok (imgV h s sv dv) w :=
 run_loadVar_row w g _ _ _ _ _ k Tryz.underlying48 rfl (by kernel_rfl)
theorem longN_wrap (s:St):IntKind.u64.wrap (Hm s.segs - lowN s.segs)=Yh s:=IntKind.wrap_u64 _
theorem roomOf_any {l:List Sg} {qs qd:Option Addr} {cs nd cd:Nat} (hnd:nd≤9223372036854775807) (k:Zt w s l qs cs) :
  Calls Tryz.prog 48 #[imgV h s (.slice qs l.length cs) (.slice qd nd cd)] w fun e w'=>e=.returned (Rg s nd)∧w.grownBy w' none:=by
 obtain ⟨N,hN⟩:∃ N,N=l.length:=⟨_,rfl⟩
 rw [← hN];have gB:=grown1 w (.cells (Qf h s (.slice qs N cs) (.slice qd nd cd)) 48);have aA:Zp (w.alloc (.cells (Qf h s (.slice qs N cs) (.slice qd nd cd)) 48)) w.heap.size h s (.slice qs N cs) (.slice qd nd cd):=heap_alloc_new w _;obtain ⟨W,hW⟩:∃ W,w.alloc (.cells (Qf h s (.slice qs N cs) (.slice qd nd cd)) 48)=W:=⟨_,rfl⟩
 obtain ⟨b,hb⟩:∃ b,w.heap.size=b:=⟨_,rfl⟩
 rw [hW] at gB aA;rw [hb] at aA;have gr:=grown1 W (.cells #[.int .u64 0,.int .u64 0] 107);have r2:Y5 (W.alloc (.cells #[.int .u64 0,.int .u64 0] 107)) W.heap.size 0 0:=heap_alloc_new W _;obtain ⟨W2,hW2⟩:∃ W2,W.alloc (.cells #[.int .u64 0,.int .u64 0] 107)=W2:=⟨_,rfl⟩
 obtain ⟨b2,hb2⟩:∃ b,W.heap.size=b:=⟨_,rfl⟩
 rw [hW2] at gr r2;rw [hb2] at r2;have a2:=aA.kept gr (by simp);have KG:=fun d os=>Qt (below_regrown W2 d os) none;have HI:=Lv (fun d os=>Calls.regrown_of ((High_any (h:=h) (dv:=.slice qd nd cd) (((k.grown gB).grown gr).grown (KG d os))).mono (fun _ _ h=>(⟨h.1,Qg h.2 (Nat.le_refl _) (by simp)⟩ : _∧_))));have LO:=Lv (fun d os=>Calls.regrown_of ((Pq (h:=h) (dv:=.slice qd nd cd) (((k.grown gB).grown gr).grown (KG d os))).mono (fun _ _ h=>(⟨h.1,Qg h.2 (Nat.le_refl _) (by simp)⟩ : _∧_))))
 have LD:=Lv (fun (V:World) (hV:∃ p:Regrown,V=Go.Sort.grow (redrawn W2 p.d) p.os)=>(by obtain ⟨p,rfl⟩:=hV;exact Kn (a2.kept (KG p.d p.os) (by simp)):(loadVar 48 ⟨b,0,none⟩).run Tryz.prog V=.ok (imgV h s (.slice qs N cs) (.slice qd nd cd)) V));have k5:=fun d os=>cell_regrown (a2.c 5 (.slice qd nd cd) rfl) d os;rw [← hN] at HI LO;have LW:=longN_wrap s;unfold Rg;generalize Hm s.segs=H at *
 generalize lowN s.segs=L at *;generalize Yh s=D at *;have G2:=Lv (Qz gB gr);have RM:=Lv r2;have BL:=Lv (show w.heap.size≤b2 by rw [← hb2];exact gB.size);have hcv:IntKind.u64.wrap (nd:Int)=nd:=IntWalk.u64_in _ (by omega);have HK:=Lv KG;clear k gB aA gr r2 hN KG a2;simp only [imgV,Qf] at hW hW2 HI LO LD ⊢;go_enter Tryz.func48,Tryz.ntmps48;go_upto_region 1 with fail
 clear hW hb hW2 hb2;refine Kt 10 (by kernel_rfl) (by kernel_rfl) ?_
 simp only [List.take_succ_cons,List.take_zero,List.drop_succ_cons,List.drop_zero];refine Zj rfl _ rfl rfl LD.o ?_
 quiet_step (with_reducible exact HI.o _ _)
 refine Zj rfl _ rfl rfl LD.o ?_
 quiet_step (with_reducible exact LO.o _ _)
 repeat (quiet_step (fail))
 refine wpQuiet_nil ?_
 intro _ hw';obtain ⟨⟨dq,osq⟩,hw''⟩:=hw';subst hw'';have R3:=RM.o.kept (HK.o dq osq) (by simp);obtain ⟨W3,hW3⟩:∃ W3,Go.Sort.grow (redrawn W2 dq) osq=W3:=⟨_,rfl⟩
 have GG:=Lv (Qz G2.o (HK.o dq osq));rw [hW3] at R3 GG ⊢;have R4:=Lv (R3.put D nd);have rc:=R3.c;have rf0:W3.frozen? ⟨b2,0,none⟩=false:=Xg R3
 have rf1:W3.frozen? ⟨b2,1,none⟩=false:=Xg R3
 have rl:=lt_of_block R3;clear hW3 R3 k5;go_wp2;refine bodyPost_ret (results_room rfl rfl R4.o) rfl ?_
 exact ⟨rfl,Qr GG.o (Qx (Qx (Qq W3 (some b2)) _) _) (fun g e=>by injection e with e;have:=BL.o;omega)⟩
theorem roomMay_any (nm:ByteArray) (x:Ex) (s:St) (nd:Nat) (w:World) :
  Calls Tryz.prog 49 #[Rg s nd,exV nm x] w fun e w'=>e=.returned (.int .i64 (Jn s nd x))∧w.grownBy w' none:=by
 unfold Rg Jn;generalize Yh s=D;have ga:=grown1 w (.cells (Vb D nd) 107);have aA:Y5 (w.alloc (.cells (Vb D nd) 107)) w.heap.size D nd:=heap_alloc_new w _;obtain ⟨W,hW⟩:∃ W,w.alloc (.cells (Vb D nd) 107)=W:=⟨_,rfl⟩
 obtain ⟨b,hb⟩:∃ b,w.heap.size=b:=⟨_,rfl⟩
 rw [hW] at ga aA;rw [hb] at aA;have gx:=grown1 W (.cells (Zd nm x) 28);have x2:ExAt (W.alloc (.cells (Zd nm x) 28)) W.heap.size nm x:=heap_alloc_new W _;obtain ⟨W2,hW2⟩:∃ W2,W.alloc (.cells (Zd nm x) 28)=W2:=⟨_,rfl⟩
 obtain ⟨b2,hb2⟩:∃ b,W.heap.size=b:=⟨_,rfl⟩
 rw [hW2] at gx x2;rw [hb2] at x2;obtain ⟨r0,r1⟩:=(aA.kept gx (by simp)).c;obtain ⟨-,y1,-,y3,y4,y5,-⟩:=x2.c;have yl:=x2.lt;have rl:=Nat.lt_of_lt_of_le (lt_of_block aA) gx.size;have G:=Lv (Qz ga gx);obtain ⟨kind,weak,value,resolver,ordinal,other⟩:=x;simp only [] at y1 y3 y4 y5 ⊢;clear ga aA gx x2;simp only [Vb,exV,Zd] at hW hW2 ⊢;by_cases k1:kind=1∨kind=4
 ·have hk:(kind == 1)=true∨((kind == 1)=false∧(kind == 4)=true):=by
   rcases k1 with rfl | rfl
   ·exact .inl rfl
   ·exact .inr ⟨rfl,rfl⟩
  have E3:¬ (kind=3∧(ordinal < 1∨(nd:Int) < ordinal)):=by omega
  obtain ⟨bv,hbv⟩:∃ b,b=decide (D≤value):=⟨_,rfl⟩
  obtain ⟨br,hbr⟩:∃ b,b=decide (D≤resolver):=⟨_,rfl⟩
  have EE:=Lv (show (if (kind=1∨kind=4)∧(D≤value∨D≤resolver) then (4:Int) else if kind=3∧(ordinal < 1∨(nd:Int) < ordinal) then 22 else 0)=if bv=true then 4 else if br=true then 4 else 0 from by
   rw [if_neg E3,hbv,hbr];by_cases h1:D≤value
   ·rw [if_pos ⟨k1,.inl h1⟩,if_pos (by simpa using h1)]
   ·rw [if_neg (show ¬ decide (D≤value)=true by simpa using h1)]
    by_cases h2:D≤resolver
    ·rw [if_pos ⟨k1,.inr h2⟩,if_pos (by simpa using h2)]
    ·rw [if_neg (fun h=>h.2.elim h1 h2),if_neg (by simpa using h2)])
  rw [EE.o];have hbv':=hbv.symm;have hbr':=hbr.symm;clear E3 EE k1 hbv hbr;rcases hk with k1 | ⟨k1,k4⟩
  all_goals
   cases bv
   ·cases br
    ·go_enter Tryz.func49,Tryz.ntmps49
     go_upto_region 1 with fail;clear hW hb hW2 hb2;go_wp2;go_ret
     exact ⟨rfl,G.o⟩
    ·go_enter Tryz.func49,Tryz.ntmps49
     go_upto_region 1 with fail;clear hW hb hW2 hb2;go_wp2;go_ret
     exact ⟨rfl,G.o⟩
   ·go_enter Tryz.func49,Tryz.ntmps49
    go_upto_region 1 with fail;clear hW hb hW2 hb2;go_wp2;go_ret
    exact ⟨rfl,G.o⟩
 ·have k1':(kind == 1)=false:=by simp;omega
  have k4':(kind == 4)=false:=by simp;omega
  rw [if_neg (fun h=>k1 h.1)];by_cases k3:kind=3
  ·have k3':(kind == 3)=true:=by simp;exact k3
   obtain ⟨b1,hb1⟩:∃ b,b=decide (ordinal < 1):=⟨_,rfl⟩
   obtain ⟨bn,hbn⟩:∃ b,b=decide ((nd:Int) < ordinal):=⟨_,rfl⟩
   have EE:=Lv (show (if kind=3∧(ordinal < 1∨(nd:Int) < ordinal) then (22:Int) else 0)=if b1=true then 22 else if bn=true then 22 else 0 from by
    rw [hb1,hbn];by_cases h1:ordinal < 1
    ·rw [if_pos ⟨k3,.inl h1⟩,if_pos (by simpa using h1)]
    ·rw [if_neg (show ¬ decide (ordinal < 1)=true by simpa using h1)]
     by_cases h2:(nd:Int) < ordinal
     ·rw [if_pos ⟨k3,.inr h2⟩,if_pos (by simpa using h2)]
     ·rw [if_neg (fun h=>h.2.elim h1 h2),if_neg (by simpa using h2)])
   rw [EE.o];have hb1':=hb1.symm;have hbn':=hbn.symm;clear EE k1 k3 hb1 hbn;cases b1
   ·cases bn
    ·go_enter Tryz.func49,Tryz.ntmps49
     go_upto_region 1 with fail;clear hW hb hW2 hb2;go_wp2;go_ret
     exact ⟨rfl,G.o⟩
    ·go_enter Tryz.func49,Tryz.ntmps49
     go_upto_region 1 with fail;clear hW hb hW2 hb2;go_wp2;go_ret
     exact ⟨rfl,G.o⟩
   ·go_enter Tryz.func49,Tryz.ntmps49
    go_upto_region 1 with fail;clear hW hb hW2 hb2;go_wp2;go_ret
    exact ⟨rfl,G.o⟩
  ·have k3':(kind == 3)=false:=by simp;exact k3
   rw [if_neg (fun h=>k3 h.1)];clear k1 k3;go_enter Tryz.func49,Tryz.ntmps49;go_upto_region 1 with fail;clear hW hb hW2 hb2;go_wp2;go_ret
   exact ⟨rfl,G.o⟩
end
section
open Go.RowKit Go.Sort
theorem byNameX_any (x y:List Int × Ex) (W:World):Calls Tryz.prog 200 #[.agg (Q4 x).toArray,.agg (Q4 y).toArray] W fun e w'=>e=.returned (.int .i64 (Br x y))∧∃ q os',w'=grow (W.drewN q) os':=by
 obtain ⟨x1,x2⟩:=x;obtain ⟨y1,y2⟩:=y;have C:=Lv (fun V=>Tryz.strings_Compare (strOfNums x1) (strOfNums y1) V);have e1:Lib.compareBytes (strOfNums x1).data.toList (strOfNums y1).data.toList=Br (x1,x2) (y1,y2):=by
  unfold Br;rw [show (strOfNums x1).data.toList=Lib.bytesOf x1 from strOfNums_data x1,show (strOfNums y1).data.toList=Lib.bytesOf y1 from strOfNums_data y1]
 rw [e1] at C;clear e1;simp only [Q4,exCs];generalize Br (x1,x2) (y1,y2)=r at *;go_enter Tryz.func200,Tryz.ntmps200;go_wp2_with (go_at_call 62;refine (C.o _).mono ?_;rintro e w' ⟨rfl,rfl⟩)
 go_ret
 exact ⟨rfl,0,_,by rw [alloc_eq_grow,alloc_eq_grow,grow_grow];rfl⟩
theorem cmpEx_laysX (blk off size:Nat) (w:World):CmpLays Tryz.prog 200 #[] Q4 7 Br blk off size w:=fun _ _ _ _ x y=>byNameX_any x y _
theorem insNoneX (p:Option Addr) (cap:Nat) (W:World):Calls Tryz.prog 103 #[.slice p 0 cap,.int .i64 0,.int .i64 0,.func (.func 200) #[] #[]] W fun e w'=>e=.returned (.tuple #[])∧w'=W:=by
 go_enter Tryz.func103,Tryz.ntmps103;go_wp2;refine wp_loop_rounds 1 ?_
 rw [rounds_succ];go_wp2;go_end0
 exact ⟨rfl,rfl⟩
theorem pdqNoneX (p:Option Addr) (cap:Nat) (lim:Int) (W:World):Calls Tryz.prog 73 #[.slice p 0 cap,.int .i64 0,.int .i64 0,.int .i64 lim,.func (.func 200) #[] #[]] W fun e w'=>e=.returned (.tuple #[])∧w'=W:=by
 have I:=Lv (fun V=>insNoneX p cap V);go_enter Tryz.func73,Tryz.ntmps73;go_wp2_with fail;refine wp_loop_rounds 1 ?_
 rw [rounds_succ];go_wp2_with fail;refine (I.o _).mono ?_
 rintro e w' ⟨rfl,rfl⟩;go_wp2
 (try simp only [Exit.inBlock,Exit.then])
 refine bodyPost_ret (results_none rfl _ _ _) rfl ?_
 exact ⟨rfl,rfl⟩
theorem sortNoneX (p:Option Addr) (cap:Nat) (W:World):Calls Tryz.prog 42 #[.slice p 0 cap,.func (.func 200) #[] #[]] W fun e w'=>e=.returned (.tuple #[])∧w'=W:=by
 have P:=Lv (fun lim V=>pdqNoneX p cap lim V);have L:=Lv (fun V=>(show Calls Tryz.prog 74 #[.int .u64 0] V fun e w'=>e=.returned (.int .i64 (Lib.bitLen 0:Nat))∧w'=V from
  Go.Proofs.Any.bits_Len (Go.Proofs.SlLaysF0.n15.bits (P:=Tryz.prog) (ρ:=Tryz.sortExp_ren) { Tryz.sortExp with }) 0 V (by omega) (by omega)))
 go_enter Tryz.func42,Tryz.ntmps42;go_wp2_with fail;refine (L.o _).mono ?_
 rintro e w' ⟨rfl,rfl⟩;go_wp2_with fail;refine (P.o _ _).mono ?_
 rintro e w' ⟨rfl,rfl⟩;go_wp2;go_end0
 exact ⟨rfl,rfl⟩
theorem sortX_any {out:Out} {q:Option Addr} {c N base:Nat} (hN:out.length=N) (hfew:N≤1000000) (ho:W.ownsRow base 28 7 (.slice q N c) N (out.flatMap Q4)) :
  Calls Tryz.prog 42 #[.slice q N c,.func (.func 200) #[] #[]] W fun e w'=>e=.returned (.tuple #[])∧(∃ D:Out,D.Perm out∧Wd D∧Xk w' q D)∧W.grownBy w' (Value.slice q N c).ownBlock:=by
 by_cases h0:N=0
 ·subst h0
  have:out=[]:=List.eq_nil_of_length_eq_zero hN
  subst this;refine (sortNoneX q c W).mono ?_
  rintro e w' ⟨rfl,rfl⟩;refine ⟨rfl,⟨[],List.Perm.refl _,List.Pairwise.nil,Xk.nil⟩,?_⟩;exact Qq _ _
 ·have hq:∃ gv,q=some ⟨gv,0,none⟩:=by
   rcases ho.2 with ⟨_,hn⟩ | ⟨g',cap,cur,hv,_⟩
   ·omega
   ·injection hv with h1 _ _;exact ⟨g',h1⟩
  obtain ⟨gv,rfl⟩:=hq;have hlt2:=ho.lt gv rfl;have HK:=holdsK_own Yt ho;have hsz:out.toArray.size=N:=by simpa using hN
  have hcon:=AnyQ.slices_SortFunc Tryz.sortExp 7 Tryz.isAgg28 Tryz.sizeOf28 Q4 Yt outCs_one Br swoEx 200 #[] gv 0 c out.toArray W (enters_of Tryz.func200 (by kernel_rfl) rfl) (cmpEx_laysX gv 0 _ W) HK hlt2.2 (by rw [hsz];omega);change Calls Tryz.prog 42 _ _ _ at hcon;rw [hsz] at hcon;refine hcon.mono ?_
  rintro e w9 ⟨rfl,d',n9,os9,hp,hs,rfl⟩;rw [← hsz] at hp hs;obtain ⟨p1,p2,p3⟩:=perm_list hp hs;have gs:=grown_sort Q4 7 W gv 0 n9 d' os9;have hold:=holds_grown (os:=os9) (n:=n9) Q4 7 HK p2 hlt2.2;have e1:out.toArray.toList=out:=by simp
  rw [e1] at p1;refine ⟨rfl,⟨d'.toList,p1,?_,Xk.hold hold⟩,gs⟩;unfold Wd;rw [List.pairwise_iff_getElem];intro i j hi hj hij;have hi':i < d'.size:=by simpa using hi
  have hj':j < d'.size:=by simpa using hj
  have:=p3 i j hij hj'
  rw [ltEx,getElem!_pos d' i hi',getElem!_pos d' j hj'] at this;simpa using this
end
end Go.Proofs.YtkmbkpoclhbmgaaGreat
