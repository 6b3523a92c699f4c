import Derived.Test.YtgddmpmcnjlcjaaGreatDoorB15
import Derived.Test.YtgddmpmcnjlcjaaGreatDoorB02
import Derived.Deep.QuietTactic
import Derived.BigQuiet
import Derived.Deep.RegionLaw
set_option maxRecDepth 100000
set_option maxHeartbeats 2000000
namespace Go.Proofs.YtgddmpmcnjlcjaaGreatDoor
open Go.RowKit
set_option linter.unusedVariables false
namespace Mc
def st (p:Pg) (m:M):Nat→M
 |0=>m
 |n+1=>(step p.cells p.code (st p m n)).2
def num (p:Pg) (m:M) (n:Nat):Nat:=(step p.cells p.code (st p m n)).1
def tells (p:Pg) (m:M) (k:Nat):List Nat:=(List.range k).map (num p m)
def BZ (l:List Nat):M:={ slots:=fun i=>l.getD i 0 }
def Jw (l:List Nat) (i:Nat):M:={ slots:=fun j=>if j<i then l.getD j 0 else 0 }
theorem lD {p:Pg} (ok:Ep p) {m:M} (h:Ev m) (n:Nat):Ev (st p m n):=by
 induction n with
 |zero=>exact h
 |succ n ih=>exact zU ok ih
theorem Zf {l:List Nat} (h: ∀ x,x∈l→x<16):Ev (BZ l):=by
 refine ⟨fun i=>?_,fun i=>?_⟩
 ·show l.getD i 0<16
  rw[List.getD_eq_getElem?_getD]
  by_cases hi:i<l.length
  ·rw[List.getElem?_eq_getElem hi];exact h _ (List.getElem_mem hi)
  ·rw[List.getElem?_eq_none (by omega)];decide
 ·show 0<16
  decide
theorem acx (l:List Nat):Jw l 0={}:=by
 unfold Jw
 congr
theorem wC (l:List Nat):Jw l l.length=BZ l:=by
 unfold Jw BZ
 congr
 funext j
 by_cases h:j<l.length
 ·rw[if_pos h]
 ·rw[if_neg h,List.getD_eq_getElem?_getD,List.getElem?_eq_none (by omega)];rfl
theorem zV (l:List Nat) (i:Nat):put (Jw l i) i (l.getD i 0)=Jw l (i+1):=by
 unfold put Jw
 congr
 funext j
 unfold Lk.upd
 by_cases h:j=i
 ·subst h;rw[if_pos rfl,if_pos (Nat.lt_succ_self _)]
 ·rw[if_neg h]
  by_cases h2:j<i
  ·show (if j<i then l.getD j 0 else 0)=_
   rw[if_pos h2,if_pos (by omega)]
  ·show (if j<i then l.getD j 0 else 0)=_
   rw[if_neg h2,if_neg (by omega)]
theorem eM (p:Pg) (m:M) (k:Nat):tells p m (k+1)=tells p m k++[num p m k]:=by
 unfold tells
 rw[List.range_succ,List.map_append]
 rfl
theorem sD (p:Pg) (m:M) (k:Nat):(tells p m k).length=k:=by
 unfold tells
 simp
end Mc
theorem Br {w:World} {base base' size n:Nat} {e:TypeId} {v:Value} {xs:List Value} (h:w.ownsRow base e size v n xs) (hb:base'≤base):w.ownsRow base' e size v n xs:=
 ⟨h.1,h.2.elim Or.inl (fun ⟨g,cap,cur,hv,hg,r⟩=>Or.inr ⟨g,cap,cur,hv,Nat.le_trans hb hg,r⟩)⟩
theorem wD (p:Pg) (ok:Ep p) (m:Mc.M) (mo:Mc.Ev m) (n b:Nat) (w:World) (vs vc vk:Value) (nv:Int) (hp:IV w p vs vc vk) (hr:w.rowIs b 162 17 (Av (Mc.st p m n))) (hgb: ∀ g,vc.ownBlock=some g→g≠b):
  Calls Tryz.prog 82 #[.pointer (some ⟨b,0,none⟩),.agg #[vs,.int .i64 nv,vc,vk]] w fun e w'=>L9 w w' b e (Mc.num p m n) (Mc.st p m (n+1)):=
 wB p ok (Mc.st p m n) (Mc.lD ok mo n) b w vs vc vk nv hp hr hgb
theorem SN {w:World} {base:Nat} {e:TypeId} {l:List Nat} {g cap:Nat} (h:w.ownsRow base e 1 (.slice (some ⟨g,0,none⟩) l.length cap) l.length (l.map fun (n:Nat)=>.int .i64 n)) (i:Nat) (hi:i<l.length):w.cell? ⟨g,i,none⟩=some (.int .i64 (l.getD i 0)):=by
 rw[h.cellAt i (by omega)];simp[hi]
theorem Vf (p:Pg) (ok:Ep p) (l:List Nat) (hl:l.length≤3) (mB: ∀ x,x∈l→x<16) (k:Nat) (hk:k≤10) (w:World) (vs vc vk vi:Value) (nv:Int) (hp:IV w p vs vc vk) (hi:w.ownsRow 0 3 1 vi l.length (l.map fun (n:Nat)=>.int .i64 n)):
  Calls Tryz.prog 48 #[.agg #[vs,.int .i64 nv,vc,vk],vi,.int .i64 k] w fun e w'=>
   ∃ v,e=.returned v∧w'.ownsRow w.heap.size 3 1 v k ((Mc.tells p (Mc.BZ l) k).map fun (n:Nat)=>.int .i64 n)∧Below w.heap.size w w':=by
 obtain ⟨t0,ht0,hz0,hz1,hz2⟩:=info_parts Tryz.Ds
 have HP:=hid hp
 have HI:=hid hi
 obtain ⟨ai,ci,R8⟩:=AX hi
 obtain ⟨Bj,cs0,e0⟩:=AX hp.s
 obtain ⟨ac,cc,e1⟩:=AX hp.c
 obtain ⟨ak,ck,e2⟩:=AX hp.k
 have HV:=hid (And.intro e0 (And.intro e1 e2))
 have hmo:=Mc.Zf mB
 have HM:=hid hmo
 clear hp hi hmo mB
 subst R8 e0 e1 e2
 go_enter Tryz.func48,Tryz.ntmps48
 go_wp2_with fail
 go_loopw [15] (fun c wr=> ∃ i:Nat,i≤l.length∧c=.int .i64 i∧wr.rowIs (w.heap.size+1) 162 17 (Av (Mc.Jw l i))∧
   wr.rowIs w.heap.size 45 4 (fun j=>[.slice Bj p.sec.length cs0,.int .i64 nv,.slice ac p.cells.length cc,.slice ak p.code.length ck].getD j (.bool false))∧Below w.heap.size w wr) (fun c _=>l.length - (intOf c).toNat)
 case atStart=>
  refine ⟨0,Nat.zero_le _,rfl,?_,?_,((Below.refl _ _).alloc (Nat.le_refl _) _).alloc (by simp) _⟩
  ·rw[Mc.acx]
   have h:=World.rowIs_alloc (w.alloc (.cells #[.slice Bj p.sec.length cs0,.int .i64 nv,.slice ac p.cells.length cc,.slice ak p.code.length ck] 45)) #[.int .i64 0,.int .i64 0,.int .i64 0,.int .i64 0,.int .i64 0,.int .i64 0,.int .i64 0,.int .i64 0,.int .i64 0,.int .i64 0,.int .i64 0,.int .i64 0,.int .i64 0,.int .i64 0,.int .i64 0,.int .i64 0,.bool false] 162 (Av {}) (fun i hi=>by
    match i,hi with
    |0,_=>rfl
    |1,_=>rfl
    |2,_=>rfl
    |3,_=>rfl
    |4,_=>rfl
    |5,_=>rfl
    |6,_=>rfl
    |7,_=>rfl
    |8,_=>rfl
    |9,_=>rfl
    |10,_=>rfl
    |11,_=>rfl
    |12,_=>rfl
    |13,_=>rfl
    |14,_=>rfl
    |15,_=>rfl
    |16,_=>rfl
    |n+17,h=>exact absurd (show n+17<17 from h) (by omega))
   rw[show (w.alloc (.cells #[.slice Bj p.sec.length cs0,.int .i64 nv,.slice ac p.cells.length cc,.slice ak p.code.length ck] 45)).heap.size=w.heap.size+1 by simp] at h
   exact h
  ·exact (World.rowIs_alloc w #[.slice Bj p.sec.length cs0,.int .i64 nv,.slice ac p.cells.length cc,.slice ak p.code.length ck] 45 (fun i=>[.slice Bj p.sec.length cs0,.int .i64 nv,.slice ac p.cells.length cc,.slice ak p.code.length ck].getD i (.bool false)) (fun i hi=>by
    match i,hi with
    |0,_=>rfl
    |1,_=>rfl
    |2,_=>rfl
    |3,_=>rfl
    |n+4,h=>exact absurd (show n+4<4 from h) (by omega))).alloc _
 case round=>
  obtain ⟨i,hil,rfl,hrow,lF,AB⟩:=hrel
  have Jx:=hid hrow
  have aF:=hid lF
  have HB:=hid AB
  have hz:=AB.size
  have hrl:=hrow.lt
  clear hrow lF AB
  by_cases hlt:i<l.length
  ·obtain ⟨g,cap,hv,_,G5⟩:=HI.out.form (by omega)
   cases hv
   have hx:=(HB.out.cell (p:=⟨g,i,none⟩) G5).trans (SN HI.out i hlt)
   have J4:=hid (Mc.zV l i)
   generalize hxv:l.getD i 0=x at hx J4
   have HXV:=hid hxv
   clear hxv
   go_wp2_with (first|(go_at_call 81;refine (Yd (Mc.Jw l i) (w.heap.size+1) i x _ Jx.out (by omega)).mono ?_;rintro e w' ⟨rfl,hw'⟩;subst hw'))
   go_roundw
   case rel=>
    refine ⟨i+1,by omega,by go_num,?_,aF.out.setOther (a:=⟨w.heap.size+1,i,none⟩) (by show w.heap.size≠w.heap.size+1;omega) _,HB.out.setCell (Nat.le_succ _) _⟩
    have h:=(Jx.out.set i (.int .i64 x)).congr (fun j hj=>YK (Mc.Jw l i) i x (by omega) j hj)
    rw[J4.out] at h
    exact h
   case measure=>simp[intOf];omega
  ·have hie:i=l.length:=by omega
   have hfull:Mc.Jw l i=Mc.BZ l:=by rw[hie];exact Mc.wC l
   rw[hfull] at Jx
   clear hfull hie
   have hpl:=aF.out.lt
   go_wp2_with fail
   go_loopw [10,11] (fun v c wq=> ∃ n:Nat,n≤k∧c=.int .i64 n∧wq.rowIs (w.heap.size+1) 162 17 (Av (Mc.st p (Mc.BZ l) n))∧
     wq.rowIs w.heap.size 45 4 (fun j=>[.slice Bj p.sec.length cs0,.int .i64 nv,.slice ac p.cells.length cc,.slice ak p.code.length ck].getD j (.bool false))∧Below w.heap.size w wq∧
     wq.ownsRow (w.heap.size+2) 3 1 v n ((Mc.tells p (Mc.BZ l) n).map fun (n:Nat)=>.int .i64 n)) (fun _ c _=>k - (intOf c).toNat)
   case atStart=>
    exact ⟨0,Nat.zero_le _,rfl,Jx.out.alloc _,aF.out.alloc _,HB.out.alloc hz _,World.ownsRow_made wr #[] 0 (by omega) (by unfold maxLen;omega) rfl⟩
   case round=>
    obtain ⟨n,hnk,rfl,hrow2,OV,WU,hown⟩:=hrel
    have hzz:=WU.size
    have Iw:=hrow2.lt
    have acy:=hid hrow2
    have abZ:=hid OV
    have AP:=hid WU
    have HOWN:=hid hown
    by_cases Om:n<k
    ·have p0:=OV.cell (i:=0) (by omega)
     have p1:=OV.cell (i:=1) (by omega)
     have p2:=OV.cell (i:=2) (by omega)
     have p3:=OV.cell (i:=3) (by omega)
     simp at p0 p1 p2 p3
     have HPA:=hid (HP.out.same AP.out)
     clear hrow2 OV WU hown
     go_wp2_with (first
      |(go_at_call 82;refine (wD p ok (Mc.BZ l) HM.out n (w.heap.size+1) _ _ _ _ nv HPA.out acy.out ?_).mono ?_;exact fun g hg=>(fun e=>by have:=(HP.out.c.lt g hg).2;omega);rintro e w1 ⟨rfl,hrow3,Ak⟩;have z1:=Ak.A8.size;have acz:=hid hrow3;have GA:=hid Ak;have hown1:=BP HOWN.out (fun g hg=>Ak.keep g (HOWN.out.lt g hg).2 (fun e=>by have h1:=(HOWN.out.lt g hg).1;have e':g=w.heap.size+1:=e;omega));have PI:=hid ((GA.out.lift (base:=w.heap.size) (fun q _ e=>by rw[e];omega) hzz).A8);clear hrow3 Ak)
      |(at_builtin;refine wpList_append_lies _ rfl _ _ 24 rfl (w.heap.size+2) 3 t0 _ 1 8 Tryz.underlying24 ht0 hz0 hz1 hz2 rfl (by omega) _ n ((Mc.tells p (Mc.BZ l) n).map fun (n:Nat)=>.int .i64 n) rfl (hown1.alloc _) ⟨w1.heap.size,0,none⟩ 1 1 [.int .i64 (Mc.num p (Mc.BZ l) n)] rfl rfl (cell_one_new _ _ _) (by simp[Value.oneCell']) (by omega) (by unfold maxLen;omega) (by omega) (by simp;omega) (w1.heap.size+1) (by simp) ?_;intro g2 cap2 w2 hown2 hgrow hat Qi))
     go_roundw
     case rel=>
      refine ⟨n+1,by omega,by go_num,Ad (acz.out.alloc _) hgrow (fun e=>by have:=(HOWN.out.lt _ e).1;omega),Ad ((abZ.out.of_block (GA.out.keep _ (by omega) (by omega))).alloc _) hgrow (fun e=>by have:=(HOWN.out.lt _ e).1;omega),Below.grown (((AP.out.trans PI.out).alloc (by omega) _)) hgrow (by simp;omega) (fun q hq=>by have:=(HOWN.out.lt q hq).1;omega),?_⟩
      rw[Mc.eM,List.map_append];exact hown2
     case measure=>simp[intOf];omega
    ·have aX:n=k:=by omega
     subst aX
     clear hrow2 OV WU hown
     go_wp2_with fail
     go_ret
     exact ⟨_,rfl,Br HOWN.out (by omega),AP.out⟩
def Fb (s:List UInt8):Pg:=⟨(Lk.read s).1.Ah,(Lk.read s).1.cells,Lk.link (Lk.read s).1.body⟩
theorem Vv (s:List UInt8):Ep (Fb s):=by
 have h:=Lk.vw s
 exact ⟨h.sec,h.AR,h.KI,fun x hx=>Lk.zT h hx⟩
theorem Tryz.Ye:(Tryz.prog.info? 24).map (fun i=>(i.zero,i.size,i.bytes))=some (some (.slice none 0 0),1,24):=by kernel_rfl
namespace Dg
def Ht (n:Nat):Nat→List Nat
 |0=>[]
 |p+1=>Ht n p++(List.range n).map fun i=>i*4+p
def order (n:Nat):List Nat:=Ht n 4
theorem Yf (n p:Nat):(Ht n p).length=n*p:=by
 induction p with
 |zero=>rfl
 |succ p ih=>
  show (Ht n p++(List.range n).map fun i=>i*4+p).length=_
  rw[List.length_append,List.length_map,List.length_range,ih,Nat.mul_succ]
theorem jU (n p:Nat) (hp:p≤4): ∀ b∈Ht n p,b<4*n:=by
 induction p with
 |zero=>intro b h;cases h
 |succ p ih=>
  intro b h
  rcases List.mem_append.1 h with h|h
  ·exact ih (by omega) b h
  ·obtain ⟨i,hi,e⟩:=List.mem_map.1 h
   have:=List.mem_range.1 hi
   omega
end Dg
theorem sF (n:Nat) (hn:n≤3) (w:World):
  Calls Tryz.prog 36 #[.int .i64 n] w fun e w'=> ∃ a c,e=.returned (.slice a (Dg.order n).length c)∧w'.ownsRow w.heap.size 3 1 (.slice a (Dg.order n).length c) (Dg.order n).length ((Dg.order n).map fun (n:Nat)=>.int .i64 n)∧Below w.heap.size w w':=by
 obtain ⟨t0,ht0,hz0,hz1,hz2⟩:=info_parts Tryz.Ds
 have Fj:(n:Int)≤3:=by omega
 go_enter Tryz.func36,Tryz.ntmps36
 go_wp2_with fail
 go_loopw [3,4] (fun v c wr=> ∃ p:Nat,p≤4∧c=.int .i64 p∧wr.ownsRow w.heap.size 3 1 v (Dg.Ht n p).length ((Dg.Ht n p).map fun (n:Nat)=>.int .i64 n)∧Below w.heap.size w wr) (fun _ c _=>4 - (intOf c).toNat)
 case atStart=>exact ⟨0,Nat.zero_le _,rfl,World.ownsRow_nil _ _ _ _,Below.refl _ _⟩
 case round=>
  obtain ⟨p,PJ,rfl,hown,AB⟩:=hrel
  have HO:=hid hown
  have HB:=hid AB
  obtain ⟨ao,co,eo⟩:=AX hown
  subst eo
  clear hown AB
  by_cases hlt:p<4
  ·have hpI:(p:Int)<4:=by omega
   have HS:=hid (show Dg.Ht n (p+1)=Dg.Ht n p++(List.range n).map fun i=>i*4+p from rfl)
   have hL:=Dg.Yf n p
   have hLb:(Dg.Ht n p).length≤12:=by rw[hL];exact Nat.le_trans (Nat.mul_le_mul hn PJ) (by omega)
   generalize Dg.Ht n p=K at HO HS hLb ⊢
   clear hL
   go_wp2_with fail
   go_loopw [3,5] (fun v c wr=> ∃ i:Nat,i≤n∧c=.int .i64 i∧wr.ownsRow w.heap.size 3 1 v (K++(List.range i).map fun i=>i*4+p).length ((K++(List.range i).map fun i=>i*4+p).map fun (n:Nat)=>.int .i64 n)∧Below w.heap.size w wr) (fun _ c _=>n - (intOf c).toNat)
   case atStart=>exact ⟨0,Nat.zero_le _,rfl,by simpa using HO.out,HB.out⟩
   case round=>
    obtain ⟨i,hin,rfl,hown,AB⟩:=hrel
    obtain ⟨a2,c2,e2⟩:=AX hown
    subst e2
    have BR:=hid hown
    have AP:=hid AB
    have hz:=AB.size
    clear hown AB
    by_cases Iw:i<n
    ·have HR:=hid (show K++(List.range (i+1)).map (fun i=>i*4+p)=(K++(List.range i).map fun i=>i*4+p)++[i*4+p] by rw[List.range_succ,List.map_append,List.append_assoc];rfl)
     have hJb:(K++(List.range i).map fun i=>i*4+p).length≤100:=by simp;omega
     generalize K++(List.range i).map (fun i=>i*4+p)=J at BR HR hJb ⊢
     have Fh:(i:Int)<3:=by omega
     go_wp2_with (first|(at_builtin;refine wpList_append_lies _ rfl _ _ 24 rfl w.heap.size 3 t0 _ 1 8 Tryz.underlying24 ht0 hz0 hz1 hz2 rfl (by omega) _ J.length (J.map fun (n:Nat)=>.int .i64 n) rfl (BR.out.alloc _) ⟨wr.heap.size,0,none⟩ 1 1 [.int .i64 ((i*4+p:Nat):Int)] rfl rfl (cell_one_new _ _ _) (by simp[Value.oneCell']) (by omega) (by unfold maxLen;omega) (by omega) (by simp;omega) (wr.heap.size+1) (by simp) ?_;intro g4 D4 w4 BW BJ Cn IU))
     go_roundw
     case rel=>
      refine ⟨i+1,by omega,by go_num,?_,(AP.out.alloc hz _).grown BJ (by simp;omega) (fun q hq=>(BR.out.lt q hq).1)⟩
      rw[HR.out,List.length_append,List.map_append]
      exact BW
     case measure=>simp[intOf];omega
    ·have hie:n=i:=by omega
     subst hie
     rw[←HS.out] at BR
     go_wp2_with fail
     go_roundw
     case rel=>
      refine ⟨p+1,by omega,by go_num,?_,AP.out⟩
      rw[HS.out] at BR ⊢
      exact BR.out
     case measure=>simp[intOf];omega
  ·have hpe:4=p:=by omega
   subst hpe
   go_wp2_with fail
   go_ret
   exact ⟨_,_,rfl,HO.out,HB.out⟩
namespace Dg
def Ga (bits:List Nat) (x:Nat):Nat→Nat→Nat
 |0=>fun _=>0
 |L+1=>Lk.upd (Ga bits x L) (bits.getD L 0/4) (Ga bits x L (bits.getD L 0/4)|||((x >>> L &&& 1)<<<(bits.getD L 0%4)))
theorem wE (x L b:Nat):(x >>> L &&& 1)<<<(b%4)<16:=by
 have h1:x >>> L &&& 1≤1:=Nat.and_le_right
 have h2:b%4<4:=Nat.mod_lt _ (by omega)
 rw[Nat.shiftLeft_eq]
 have h3:2 ^ (b%4)≤8:=by
  have:2 ^ (b%4)≤2 ^ 3:=Nat.pow_le_pow_right (by omega) (by omega)
  simpa using this
 have h4:(x >>> L &&& 1)*2 ^ (b%4)≤1*8:=Nat.mul_le_mul h1 h3
 omega
theorem Zg (bits:List Nat) (x L i:Nat):Ga bits x L i<16:=by
 induction L generalizing i with
 |zero=>show (0:Nat)<16;omega
 |succ L ih=>
  show Lk.upd _ _ _ i<16
  unfold Lk.upd
  split
  ·exact Nat.or_lt_two_pow (n:=4) (ih _) (wE _ _ _)
  ·exact ih i
end Dg
theorem zX: ∀ a:Fin 64, ∀ b:Fin 64,Go.bits BinOp.and .i64 ((64*a.val+b.val:Nat):Int) 1=(((64*a.val+b.val) &&& 1:Nat):Int):=by decide+kernel
theorem ab_: ∀ u:Fin 16, ∀ d:Fin 2, ∀ c:Fin 4,Go.bits BinOp.or .i64 (u.val:Int) (wrap64 ((d.val:Int)*2 ^ c.val))=((u.val|||d.val<<<c.val:Nat):Int):=by decide+kernel
theorem adA (u d b:Nat) (hu:u<16) (hd:d≤1):Go.bits BinOp.or .i64 (u:Int) (wrap64 ((d:Int)*2 ^ (b%4)))=((u|||d<<<(b%4):Nat):Int):=ab_ ⟨u,hu⟩ ⟨d,by omega⟩ ⟨b%4,Nat.mod_lt _ (by omega)⟩
theorem kJ (x L:Nat) (hx:x<4096):Go.bits BinOp.and .i64 ((x:Int)/2 ^ L) 1=((x >>> L &&& 1:Nat):Int):=by
 have e:(x:Int)/2 ^ L=((x >>> L:Nat):Int):=by
  rw[Nat.shiftRight_eq_div_pow]
  push_cast
  rfl
 rw[e]
 have h:x >>> L<4096:=Nat.lt_of_le_of_lt (by rw[Nat.shiftRight_eq_div_pow];exact Nat.div_le_self _ _) hx
 generalize x >>> L=y at h ⊢
 have h2:=zX ⟨y/64,by omega⟩ ⟨y%64,by omega⟩
 have e2:64*(y/64)+y%64=y:=by omega
 dsimp only at h2
 rw[e2] at h2
 exact h2
theorem og (x:Nat) (hx:x<4096) (bits:List Nat) (n:Nat) (hn:n≤3) (hb: ∀ b∈bits,b<4*n) (hl:bits.length≤12) (vb:Value) (w:World) (hi:w.ownsRow 0 3 1 vb bits.length (bits.map fun (n:Nat)=>.int .i64 n)):
  Calls Tryz.prog 74 #[.int .i64 x,vb,.int .i64 n] w fun e w'=>e=.returned (.slice (some ⟨w.heap.size,0,none⟩) n n)∧w'.rowIs w.heap.size 3 n (fun i=>.int .i64 (Dg.Ga bits x bits.length i))∧Below w.heap.size w w':=by
 obtain ⟨t0,ht0,hz0,hz1,hz2⟩:=info_parts Tryz.Ds
 obtain ⟨ab,cb,eb⟩:=AX hi
 have HI:=hid hi
 have HB:=hid hb
 clear hi hb
 subst eb
 have Fj:(n:Int)≤3:=by omega
 have DL:(bits.length:Int)≤12:=by omega
 have EW:(x:Int)<4096:=by omega
 go_enter Tryz.func74,Tryz.ntmps74
 go_wp2_with (first
  |(at_make;refine wpList_make_row _ rfl _ _ 24 rfl 3 t0 (.int .i64 0) Tryz.underlying24 ht0 hz0 hz1 rfl .i64 .i64 n rfl rfl (by rw[hz2];omega) (by omega) ?_))
 go_loopw [15] (fun c wr=> ∃ L:Nat,L≤bits.length∧c=.int .i64 L∧wr.rowIs w.heap.size 3 n (fun i=>.int .i64 (Dg.Ga bits x L i))∧Below w.heap.size w wr) (fun c _=>bits.length - (intOf c).toNat)
 case atStart=>exact ⟨0,Nat.zero_le _,rfl,(World.rowIs_made w (.int .i64 0) n 3).congr (fun i hi=>rfl),(Below.refl _ _).alloc (Nat.le_refl _) _⟩
 case round=>
  obtain ⟨L,hL,rfl,hrow,AB⟩:=hrel
  have HR:=hid hrow
  have AV:=hid AB
  have hrl:=hrow.lt
  by_cases hlt:L<bits.length
  ·obtain ⟨g,cap,hv,_,G5⟩:=HI.out.form (by omega)
   cases hv
   have bc:=(AB.cell (p:=⟨g,L,none⟩) G5).trans (SN HI.out L hlt)
   have hbl:bits.getD L 0<4*n:=by
    have e:bits.getD L 0=bits[L]:=by simp[hlt]
    rw[e];exact HB.out _ (List.getElem_mem hlt)
   have HN:=hid (show Dg.Ga bits x (L+1)=Lk.upd (Dg.Ga bits x L) (bits.getD L 0/4) (Dg.Ga bits x L (bits.getD L 0/4)|||((x >>> L &&& 1)<<<(bits.getD L 0%4))) from rfl)
   generalize bits.getD L 0=b at bc hbl HN
   have rc:=hrow.cell (i:=b/4) (by omega)
   have rf:=hrow.frozen (b/4)
   have Ix:=Dg.Zg bits x L (b/4)
   obtain ⟨u,hu⟩: ∃ u,Dg.Ga bits x L (b/4)=u:=⟨_,rfl⟩
   rw[hu] at rc Ix HN
   have Qy:(L:Int)<12:=by omega
   have EE:(b:Int)<12:=by omega
   have huI:(u:Int)<16:=by omega
   have R9:g≠w.heap.size:=by omega
   clear hrow AB hu
   obtain ⟨dg,N_⟩: ∃ dg,x >>> L &&& 1=dg:=⟨_,rfl⟩
   have Sz:Go.bits BinOp.and .i64 ((x:Int)/2 ^ L) 1=(dg:Int):=by rw[←N_];exact kJ x L hx
   have hd1:dg≤1:=by rw[←N_];exact Nat.and_le_right
   rw[N_] at HN
   have Eu:(dg:Int)≤1:=by omega
   have LI:=hid Sz
   clear Sz N_
   go_wp2_with fail
   rw[LI.out]
   go_region
   all_goals go_wp2_with fail
   all_goals go_roundw
   case rel=>
    refine ⟨L+1,by omega,by go_num,?_,(AV.out.setCell (p:=⟨w.heap.size,b/4,none⟩) (Nat.le_refl _) _).drew⟩
    rw[adA u dg b Ix hd1,HN.out]
    refine ((HR.out.set (b/4) _).congr (fun i hi=>?_)).drew
    unfold Lk.upd
    split <;> rfl
   case measure=>simp[intOf];omega
  ·have hle:bits.length=L:=by omega
   subst hle
   clear hrow AB
   go_wp2_with fail
   go_ret
   exact ⟨rfl,HR.out,AV.out⟩
end Go.Proofs.YtgddmpmcnjlcjaaGreatDoor
