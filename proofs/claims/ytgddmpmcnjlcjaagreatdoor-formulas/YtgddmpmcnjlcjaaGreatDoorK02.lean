import Derived.Test.YtgddmpmcnjlcjaaGreatDoorK01
import Derived.Test.YtgddmpmcnjlcjaaGreatDoorB22
import Derived.Test.YtgddmpmcnjlcjaaGreatDoorB23
namespace Go.Proofs.YtgddmpmcnjlcjaaGreatDoor
open Go.RowKit
set_option linter.unusedVariables false
namespace Dg
variable {sec:List Bool} {n M:Nat} {pos:Nat→Nat} {s:St}
theorem xh (ok:Ok n M s) (h:Uq sec M pos s) {b lo hi:Nat} (hb:b<4*n) (hlo:Under pos s.nodes (pos b) lo) (hhi:Under pos s.nodes (pos b) hi):
  Ok n M (CM sec M s b lo hi).2∧Uq sec M pos (CM sec M s b lo hi).2∧Under pos (CM sec M s b lo hi).2.nodes (pos b+1) (CM sec M s b lo hi).1∧(∃ m,(CM sec M s b lo hi).2.nodes=s.nodes++m)∧ ∀ x,vl (CM sec M s b lo hi).2.nodes x (CM sec M s b lo hi).1=if x b then vl s.nodes x hi else vl s.nodes x lo:=by
 refine ⟨(ok.made sec hb hlo.1 hhi.1).1,?_⟩
 unfold CM
 by_cases e:lo=hi
 ·simp only[if_pos e]
  subst e
  exact ⟨h,hlo.mono (by omega),⟨[],by simp⟩,fun x=>by split <;> rfl⟩
 ·simp only[if_neg e]
  by_cases f:found M s b lo hi≠0
  ·simp only[if_pos f]
   obtain ⟨g0,g1,g2,g3⟩:=xg s.nodes s.behind b lo hi _ _ f
   have g1:(AG s.nodes (found M s b lo hi)).bit=b:=g1
   have g2:(AG s.nodes (found M s b lo hi)).lo=lo:=g2
   have g3:(AG s.nodes (found M s b lo hi)).hi=hi:=g3
   have fl:=ok.found b lo hi
   have f2:2≤found M s b lo hi:=by
    by_cases c:found M s b lo hi=1
    ·exfalso
     rw[c,h.z1] at g2 g3
     exact e (g2.symm.trans g3)
    ·omega
   refine ⟨h,⟨fl,fun _=>?_⟩,⟨[],by simp⟩,fun x=>?_⟩
   ·rw[g1];omega
   ·rw[M5 ok.desc x f2 fl,g1,g2,g3]
  ·simp only[if_neg f]
   have f0:found M s b lo hi=0:=by omega
   have hn:(push sec M s b lo hi).nodes=s.nodes++[Si sec s b lo hi]:=rfl
   refine ⟨aaT ok h hb e hlo hhi f0,⟨by rw[hn];simp,fun _=>?_⟩,⟨_,hn⟩,fun x=>?_⟩
   ·rw[hn,QG];show pos b<pos b+1;omega
   ·rw[M5 (ok.push sec hb hlo.1 hhi.1).desc x ok.two (by rw[hn];simp),hn,QG]
    show (if x b then vl (s.nodes++_) x hi else vl (s.nodes++_) x lo)=_
    rw[Qb ok.desc _ x hi hhi.1,Qb ok.desc _ x lo hlo.1]
theorem xi (ok:Ok n M s) (h:Uq sec M pos s) {b:Nat} (hb:b<4*n) {r:Nat→Nat} (R:Nat) (hr: ∀ j,j<2*R→Under pos s.nodes (pos b) (r j)): ∀ i,i≤R→
  Ok n M (Bo sec M b s r i).1∧Uq sec M pos (Bo sec M b s r i).1∧(∃ m,(Bo sec M b s r i).1.nodes=s.nodes++m)∧(∀ j,i≤j→(Bo sec M b s r i).2 j=r j)∧
   ∀ j,j<i→Under pos (Bo sec M b s r i).1.nodes (pos b+1) ((Bo sec M b s r i).2 j)∧ ∀ x,vl (Bo sec M b s r i).1.nodes x ((Bo sec M b s r i).2 j)=if x b then vl s.nodes x (r (2*j+1)) else vl s.nodes x (r (2*j)):=by
 intro i
 induction i with
 |zero=>intro _;exact ⟨ok,h,⟨[],by simp[Bo]⟩,fun _ _=>rfl,fun j hj=>absurd hj (by omega)⟩
 |succ i ih=>
  intro hi
  obtain ⟨h1,h2,⟨m,h3⟩,h4,h5⟩:=ih (by omega)
  have u0:=hr (2*i) (by omega)
  have u1:=hr (2*i+1) (by omega)
  have e0:=h4 (2*i) (by omega)
  have e1:=h4 (2*i+1) (by omega)
  obtain ⟨k1,k2,k3,⟨m',k4⟩,k5⟩:=xh h1 h2 (lo:=r (2*i)) (hi:=r (2*i+1)) hb (by rw[h3];exact u0.app m) (by rw[h3];exact u1.app m)
  have e:Bo sec M b s r (i+1)=((CM sec M (Bo sec M b s r i).1 b (r (2*i)) (r (2*i+1))).2,fun j=>if j=i then (CM sec M (Bo sec M b s r i).1 b (r (2*i)) (r (2*i+1))).1 else (Bo sec M b s r i).2 j):=by
   show ((CM sec M (Bo sec M b s r i).1 b ((Bo sec M b s r i).2 (2*i)) ((Bo sec M b s r i).2 (2*i+1))).2,_)=_
   rw[e0,e1]
  rw[e]
  refine ⟨k1,k2,⟨m++m',by show (CM sec M _ b _ _).2.nodes=_;rw[k4,h3,List.append_assoc]⟩,fun j hj=>?_,fun j hj=>?_⟩
  ·show (if j=i then _ else _)=_
   rw[if_neg (by omega)]
   exact h4 j (by omega)
  ·show Under pos (CM sec M (Bo sec M b s r i).1 b (r (2*i)) (r (2*i+1))).2.nodes (pos b+1) (if j=i then _ else _)∧ ∀ x,vl (CM sec M (Bo sec M b s r i).1 b (r (2*i)) (r (2*i+1))).2.nodes x (if j=i then _ else _)=_
   by_cases c:j=i
   ·subst c
    simp only[if_true]
    refine ⟨k3,fun x=>?_⟩
    rw[k5 x,h3,Qb ok.desc m x _ u0.1,Qb ok.desc m x _ u1.1]
   ·simp only[if_neg c]
    obtain ⟨a1,a2⟩:=h5 j (by omega)
    refine ⟨by rw[k4];exact a1.app m',fun x=>?_⟩
    rw[k4,Qb h1.desc m' x _ a1.1]
    exact a2 x
def ix (bits:List Nat) (x:Nat→Bool):Nat→Nat→Nat
 |0,j=>j
 |L+1,j=>ix bits x L (if x (bits.getD L 0) then 2*j+1 else 2*j)
theorem xj {bits:List Nat} (hpos: ∀ l,l<bits.length→pos (bits.getD l 0)=l) (hb: ∀ i,i<bits.length→bits.getD i 0<4*n) (ok:Ok n M s) (h:Uq sec M pos s) {rest:Nat} {r:Nat→Nat} (hr: ∀ j,r j<2): ∀ L,L≤bits.length→
  Ok n M (CG sec M bits s r rest L).1∧Uq sec M pos (CG sec M bits s r rest L).1∧(∃ m,(CG sec M bits s r rest L).1.nodes=s.nodes++m)∧
   ∀ j,j<rest/2 ^ L→Under pos (CG sec M bits s r rest L).1.nodes L ((CG sec M bits s r rest L).2 j)∧ ∀ x,vl (CG sec M bits s r rest L).1.nodes x ((CG sec M bits s r rest L).2 j)=(r (ix bits x L j)==1):=by
 intro L
 induction L with
 |zero=>
  intro _
  refine ⟨ok,h,⟨[],by simp[CG]⟩,fun j _=>⟨⟨Nat.lt_of_lt_of_le (hr j) ok.two,fun h2=>?_⟩,fun x=>M4 _ _ _ (hr j)⟩⟩
  have h2:2≤r j:=h2
  have:=hr j
  omega
 |succ L ih=>
  intro hL
  obtain ⟨h1,h2,⟨m,h3⟩,h4⟩:=ih (by omega)
  have hp:=hpos L (by omega)
  obtain ⟨k1,k2,⟨m',k3⟩,k4,k5⟩:=xi (b:=bits.getD L 0) (r:=(CG sec M bits s r rest L).2) h1 h2 (hb L (by omega)) (rest/2 ^ (L+1)) (fun j hj=>by rw[hp];exact (h4 j (by have:=half rest L;omega)).1) (rest/2 ^ (L+1)) (Nat.le_refl _)
  refine ⟨k1,k2,⟨m++m',by show (Bo sec M _ _ _ _).1.nodes=_;rw[k3,h3,List.append_assoc]⟩,fun j hj=>?_⟩
  obtain ⟨a1,a2⟩:=k5 j hj
  refine ⟨by have a1:=a1;rw[hp] at a1;exact a1,fun x=>?_⟩
  refine (a2 x).trans ?_
  have:=half rest L
  show _=(r (ix bits x L (if x (bits.getD L 0) then 2*j+1 else 2*j))==1)
  by_cases c:x (bits.getD L 0)=true
  ·rw[if_pos c,if_pos c];exact (h4 (2*j+1) (by omega)).2 x
  ·rw[if_neg c,if_neg c];exact (h4 (2*j) (by omega)).2 x
theorem aaW {bits:List Nat} (hpos: ∀ l,l<bits.length→pos (bits.getD l 0)=l) (hb: ∀ i,i<bits.length→bits.getD i 0<4*n) (hM:M=2 ^ bits.length) (T:Nat→List Nat): ∀ c,
  Ok n M (D7 sec M bits T c).1∧Uq sec M pos (D7 sec M bits T c).1∧(D7 sec M bits T c).2.length=c∧ ∀ j,j<c→(D7 sec M bits T c).2.getD j 0<(D7 sec M bits T c).1.nodes.length∧ ∀ x,vl (D7 sec M bits T c).1.nodes x ((D7 sec M bits T c).2.getD j 0)=(Fa T (j/7) (j%7) (ix bits x bits.length 0)==1):=by
 intro c
 induction c with
 |zero=>exact ⟨ok0 n M,uq0 sec M pos,rfl,fun j h=>absurd h (by omega)⟩
 |succ c ih=>
  obtain ⟨h1,h2,h3,h4⟩:=ih
  obtain ⟨k1,k2,⟨m,k3⟩,k4⟩:=xj (rest:=M) (r:=Fa T (c/7) (c%7)) hpos hb h1 h2 (Vs T _ _) bits.length (Nat.le_refl _)
  have hM1:0<M/2 ^ bits.length:=by rw[hM,Nat.div_self (Nat.pow_pos (by omega))];omega
  refine ⟨k1,k2,by show (_++[_]).length=_;rw[List.length_append,h3];rfl,fun j hj=>?_⟩
  have e0:D7 sec M bits T (c+1)=((CG sec M bits (D7 sec M bits T c).1 (Fa T (c/7) (c%7)) M bits.length).1,(D7 sec M bits T c).2++[(CG sec M bits (D7 sec M bits T c).1 (Fa T (c/7) (c%7)) M bits.length).2 0]):=rfl
  rw[e0]
  by_cases e:j<c
  ·have g:=Vc (D7 sec M bits T c).2 ((CG sec M bits (D7 sec M bits T c).1 (Fa T (c/7) (c%7)) M bits.length).2 0) j (by rw[h3];exact e)
   simp only[g]
   obtain ⟨a1,a2⟩:=h4 j e
   refine ⟨by rw[k3,List.length_append];omega,fun x=>?_⟩
   rw[k3,Qb h1.desc m x _ a1]
   exact a2 x
  ·have e2:j=c:=by omega
   have g:=Vd (D7 sec M bits T c).2 ((CG sec M bits (D7 sec M bits T c).1 (Fa T (c/7) (c%7)) M bits.length).2 0)
   rw[h3] at g
   subst e2
   simp only[g]
   exact ⟨(k4 0 hM1).1.1,(k4 0 hM1).2⟩
def st (x:Nat→Bool) (b:Nat) (v:Bool):Nat→Bool:=fun j=>if j=b then v else x j
theorem aa_ (x:Nat→Bool) (b:Nat) (v:Bool):st x b v b=v:=if_pos rfl
theorem Z' (x:Nat→Bool) {b j:Nat} (v:Bool) (h:j≠b):st x b v j=x j:=if_neg h
theorem ZU (ok:Ok n M s) (h:Uq sec M pos s) (x:Nat→Bool) (b:Nat) (v:Bool): ∀ i,Under pos s.nodes (pos b) i→vl s.nodes (st x b v) i=vl s.nodes x i:=by
 intro i
 induction i using Nat.strongRecOn with
 |ind i ih=>
  intro hu
  by_cases c:i<2
  ·rw[M4 _ _ _ c,M4 _ _ _ c]
  ·have c2:2≤i:=by omega
   have hp:=hu.2 c2
   have hlo:=ok.lo i c2 hu.1
   have hhi:=ok.hi i c2 hu.1
   rw[M5 ok.desc _ c2 hu.1,M5 ok.desc _ c2 hu.1,Z' x v (fun e=>by rw[e] at hp;omega),ih _ hlo ⟨by have:=hu.1;omega,fun q=>Nat.lt_trans (h.lo i c2 hu.1 q) hp⟩,ih _ hhi ⟨by have:=hu.1;omega,fun q=>Nat.lt_trans (h.hi i c2 hu.1 q) hp⟩]
theorem xk (ok:Ok n M s) (h:Uq sec M pos s) {i:Nat} (h2:2≤i) (hi:i<s.nodes.length):Under pos s.nodes (pos (AG s.nodes i).bit) (AG s.nodes i).lo∧Under pos s.nodes (pos (AG s.nodes i).bit) (AG s.nodes i).hi:=
 ⟨⟨by have:=ok.lo i h2 hi;omega,h.lo i h2 hi⟩,⟨by have:=ok.hi i h2 hi;omega,h.hi i h2 hi⟩⟩
theorem Js (ok:Ok n M s) (h:Uq sec M pos s) {i:Nat} (h2:2≤i) (hi:i<s.nodes.length) (x:Nat→Bool) (v:Bool):vl s.nodes (st x (AG s.nodes i).bit v) i=if v then vl s.nodes x (AG s.nodes i).hi else vl s.nodes x (AG s.nodes i).lo:=by
 obtain ⟨u1,u2⟩:=xk ok h h2 hi
 rw[M5 ok.desc _ h2 hi,aa_,ZU ok h x _ v _ u1,ZU ok h x _ v _ u2]
theorem Vm (ok:Ok n M s) (h:Uq sec M pos s) {N i j:Nat} (ih: ∀ i j,i<N→j<N→i<s.nodes.length→j<s.nodes.length→(∀ x,vl s.nodes x i=vl s.nodes x j)→i=j) (hN:i≤N) (h2:2≤i) (hi:i<s.nodes.length) (hj:Under pos s.nodes (pos (AG s.nodes i).bit) j) (e: ∀ x,vl s.nodes x i=vl s.nodes x j):False:=by
 have hlo:=ok.lo i h2 hi
 have hhi:=ok.hi i h2 hi
 refine h.ne i h2 hi (ih _ _ (by omega) (by omega) (by omega) (by omega) fun x=>?_)
 have a1:=e (st x (AG s.nodes i).bit true)
 have a0:=e (st x (AG s.nodes i).bit false)
 rw[Js ok h h2 hi,ZU ok h x _ _ j hj] at a1 a0
 exact a0.trans a1.symm
theorem canon (ok:Ok n M s) (h:Uq sec M pos s) (hinj: ∀ a b,a<4*n→b<4*n→pos a=pos b→a=b): ∀ N i j,i<N→j<N→i<s.nodes.length→j<s.nodes.length→(∀ x,vl s.nodes x i=vl s.nodes x j)→i=j:=by
 intro N
 induction N with
 |zero=>intro i j h;exact absurd h (by omega)
 |succ N ih=>
  intro i j hiN hjN hi hj e
  by_cases c:i<2
  ·by_cases d:j<2
   ·have:=e fun _=>false
    rw[M4 _ _ _ c,M4 _ _ _ d] at this
    have h01:(i=0∨i=1)∧(j=0∨j=1):=by omega
    rcases h01 with ⟨rfl|rfl,rfl|rfl⟩
    ·rfl
    ·exact absurd this (by decide)
    ·exact absurd this (by decide)
    ·rfl
   ·exact (Vm ok h ih (by omega) (by omega) hj ⟨hi,fun q=>absurd q (by omega)⟩ (fun x=>(e x).symm)).elim
  ·by_cases d:j<2
   ·exact (Vm ok h ih (by omega) (by omega) hi ⟨hj,fun q=>absurd q (by omega)⟩ e).elim
   ·have c2:2≤i:=by omega
    have d2:2≤j:=by omega
    rcases Nat.lt_trichotomy (pos (AG s.nodes i).bit) (pos (AG s.nodes j).bit) with g|g|g
    ·exact (Vm ok h ih (by omega) d2 hj ⟨hi,fun _=>g⟩ (fun x=>(e x).symm)).elim
    ·have eb:=hinj _ _ (ok.bit i c2 hi) (ok.bit j d2 hj) g
     have l1:=ok.lo i c2 hi
     have l2:=ok.lo j d2 hj
     have k1:=ok.hi i c2 hi
     have k2:=ok.hi j d2 hj
     refine h.uq i j c2 hi d2 hj eb (ih _ _ (by omega) (by omega) (by omega) (by omega) fun x=>?_) (ih _ _ (by omega) (by omega) (by omega) (by omega) fun x=>?_)
     ·have a:=e (st x (AG s.nodes i).bit false)
      rw[Js ok h c2 hi,eb,Js ok h d2 hj] at a
      exact a
     ·have a:=e (st x (AG s.nodes i).bit true)
      rw[Js ok h c2 hi,eb,Js ok h d2 hj] at a
      exact a
    ·exact (Vm ok h ih (by omega) c2 hi ⟨hj,fun _=>g⟩ e).elim
def Ra (n:Nat) (sec:List Bool) (x y:Nat→Bool):Prop:= ∀ b,b<4*n→sec.getD (b/4) false=false→x b=y b
theorem qi (ok:Ok n M s) (h:Uq sec M pos s) {x y:Nat→Bool} (hxy:Ra n sec x y): ∀ i,i<s.nodes.length→(AG s.nodes i).sec=false→vl s.nodes x i=vl s.nodes y i:=by
 intro i
 induction i using Nat.strongRecOn with
 |ind i ih=>
  intro hi hs
  by_cases c:i<2
  ·rw[M4 _ _ _ c,M4 _ _ _ c]
  ·have c2:2≤i:=by omega
   have l:=ok.lo i c2 hi
   have k:=ok.hi i c2 hi
   have q:=h.sc i c2 hi
   rw[hs] at q
   have q:=q.symm
   simp only[Bool.or_eq_false_iff] at q
   rw[M5 ok.desc _ c2 hi,M5 ok.desc _ c2 hi,hxy _ (ok.bit i c2 hi) q.1.1,ih _ l (by omega) q.1.2,ih _ k (by omega) q.2]
theorem aaa (ok:Ok n M s) (h:Uq sec M pos s) (hinj: ∀ a b,a<4*n→b<4*n→pos a=pos b→a=b): ∀ i,i<s.nodes.length→(AG s.nodes i).sec=true→ ∃ x y,Ra n sec x y∧vl s.nodes x i≠vl s.nodes y i:=by
 intro i
 induction i using Nat.strongRecOn with
 |ind i ih=>
  intro hi hs
  by_cases c:i<2
  ·exfalso
   have h01:i=0∨i=1:=by omega
   rcases h01 with rfl|rfl
   ·rw[h.z0] at hs;cases hs
   ·rw[h.z1] at hs;cases hs
  ·have c2:2≤i:=by omega
   have l:=ok.lo i c2 hi
   have k:=ok.hi i c2 hi
   have q:=h.sc i c2 hi
   rw[hs] at q
   have q:=q.symm
   simp only[Bool.or_eq_true] at q
   rcases q with (q|q)|q
   ·have hne: ∃ x,vl s.nodes x (AG s.nodes i).lo≠vl s.nodes x (AG s.nodes i).hi:=by
     refine Classical.byContradiction fun hn=>h.ne i c2 hi (canon ok h hinj i _ _ l k (by omega) (by omega) fun x=>?_)
     exact Classical.byContradiction fun hx=>hn ⟨x,hx⟩
    obtain ⟨x,hx⟩:=hne
    refine ⟨st x (AG s.nodes i).bit false,st x (AG s.nodes i).bit true,fun b _ hp=>?_,?_⟩
    ·have:b≠(AG s.nodes i).bit:=fun e=>by rw[e,q] at hp;cases hp
     rw[Z' _ _ this,Z' _ _ this]
    ·rw[Js ok h c2 hi,Js ok h c2 hi];exact hx
   ·obtain ⟨x,y,a,d⟩:=ih _ l (by omega) q
    refine ⟨st x (AG s.nodes i).bit false,st y (AG s.nodes i).bit false,fun b hb hp=>?_,?_⟩
    ·unfold st;split
     ·rfl
     ·exact a b hb hp
    ·rw[Js ok h c2 hi,Js ok h c2 hi];exact d
   ·obtain ⟨x,y,a,d⟩:=ih _ k (by omega) q
    refine ⟨st x (AG s.nodes i).bit true,st y (AG s.nodes i).bit true,fun b hb hp=>?_,?_⟩
    ·unfold st;split
     ·rfl
     ·exact a b hb hp
    ·rw[Js ok h c2 hi,Js ok h c2 hi];exact d
end Dg
namespace Cl
open Nz (wrds lineZ rend)
def EH (a b c:Int):List Int:=[a,b,c].filter fun z=>decide (z≠0)
theorem VV (l:Int):Er l=wrds ([l].filter fun z=>decide (z≠0)):=by
 unfold Er
 by_cases h:l=0
 ·subst h;rfl
 ·rw[if_neg h,List.filter_cons_of_pos (by simp[h])]
  show _=wrds [l]
  rw[Nz.SB]
  rfl
theorem Mp (a b c:Int):DN a b c=rend [EH a b c]:=by
 unfold DN EH
 rw[VV,VV,VV, ←Nz.iR, ←Nz.iR, ←List.filter_append, ←List.filter_append,Nz.VU]
 show _=(wrds _++[48])++10::[]
 rw[List.append_assoc (wrds _) [48]]
 rfl
def E8 (g:Nat→Nat) (v:Int) (node:Nat) (u:Int):List (List Int):=
 if node=0 then [EH (-v) u 0] else if node=1 then [EH v u 0] else [EH (-v) u (g node),EH v u (-(g node:Int))]
theorem YF (N:List Nat) (v:Int) (node:Nat) (u:Int):FY N v node u=rend (E8 (fun i=>N.getD i 0) v node u):=by
 unfold FY E8
 split
 ·exact Mp _ _ _
 ·split
  ·exact Mp _ _ _
  ·rw[Mp,Mp, ←Nz.Im];rfl
theorem YT (g:Nat→Nat) (v:Int) (node:Nat) (u:Int):(E8 g v node u).length=Bd node:=by
 unfold E8 Bd
 by_cases h0:node=0
 ·rw[if_pos h0,if_pos (by omega)];rfl
 ·by_cases h1:node=1
  ·rw[if_neg h0,if_pos h1,if_pos (by omega)];rfl
  ·rw[if_neg h0,if_neg h1,if_neg (by omega)];rfl
theorem Y5 {g h:Nat→Nat} {v:Int} {node:Nat} {u:Int} (e:g node=h node):E8 g v node u=E8 h v node u:=by
 unfold E8;rw[e]
def G' (u:Nat) (g:Nat→Nat) (v lo hi:Nat):List (List Int):=E8 g v lo u++E8 g v hi (-(u:Int))
theorem fB (bits N:List Nat) (v bit lo hi:Nat):Hj bits N (v:Int) bit lo hi=rend (G' (bits.getD bit 0) (fun i=>N.getD i 0) v lo hi):=by
 unfold Hj G'
 rw[YF,YF, ←Nz.Im]
theorem VA {u:Nat} {g h:Nat→Nat} {v lo hi:Nat} (e1:g lo=h lo) (e2:g hi=h hi):G' u g v lo hi=G' u h v lo hi:=by
 unfold G';rw[Y5 e1,Y5 e2]
def Jt (b1 b2:List Nat) (d:Dg.Nd) (i:Nat) (f1 f2:Nat→Nat):List (List Int):=
 G' (b1.getD d.bit 0) f1 (f1 i) d.lo d.hi++if d.sec then G' (b2.getD d.bit 0) f2 (f2 i) d.lo d.hi else []
def Ff (nodes:List Dg.Nd) (b1 b2:List Nat) (f1 f2:Nat→Nat):Nat→List (List Int)
 |0=>[]
 |i+1=>if i<2 then Ff nodes b1 b2 f1 f2 i else Ff nodes b1 b2 f1 f2 i++Jt b1 b2 (Dg.AG nodes i) i f1 f2
structure FOk (nodes:List Dg.Nd) (v0:Nat) (x:Ns) (i:Nat):Prop where
 vars:v0≤x.vars
 lo1: ∀ j,2≤j→j<i→v0<x.f1 j∧x.f1 j≤x.vars
 Uo: ∀ j,2≤j→j<i→x.f1 j≤x.f2 j∧x.f2 j≤x.vars∧x.f2 j=if (Dg.AG nodes j).sec then x.f1 j+1 else x.f1 j
 inc: ∀ j j',2≤j→j<j'→j'<i→x.f2 j<x.f1 j'
 all: ∀ v,v0<v→v≤x.vars→ ∃ j,2≤j∧j<i∧(v=x.f1 j∨v=x.f2 j)
theorem ZV (L:Nat) (b1 b2:List Nat) (d:Dg.Nd) (i:Nat) (x:Ns):(Hp L b1 b2 d i x).f1=Lk.upd x.f1 i (x.vars+1):=by
 unfold Hp two one;split <;> rfl
theorem gD (L:Nat) (b1 b2:List Nat) (d:Dg.Nd) (i:Nat) (x:Ns):(Hp L b1 b2 d i x).vars=if d.sec then x.vars+2 else x.vars+1:=by
 unfold Hp two one;split <;> rfl
theorem ZW (L:Nat) (b1 b2:List Nat) (d:Dg.Nd) (i:Nat) (x:Ns):(Hp L b1 b2 d i x).f2=Lk.upd x.f2 i (if d.sec then x.vars+2 else x.vars+1):=by
 unfold Hp two one;split <;> rfl
theorem upd_same {f:Nat→Nat} {k v:Nat}:Lk.upd f k v k=v:=if_pos rfl
theorem SC {f:Nat→Nat} {k v j:Nat} (h:j≠k):Lk.upd f k v j=f j:=if_neg h
theorem Rw (nodes:List Dg.Nd) (b1 b2:List Nat) (x:Ns) {i:Nat} (h:2≤i):BG nodes b1 b2 x (i+1)=Hp nodes.length b1 b2 (Dg.AG nodes i) i (BG nodes b1 b2 x i):=by
 show (if i<2 then _ else _)=_;rw[if_neg (by omega)]
theorem OH (nodes:List Dg.Nd) (b1 b2:List Nat) (x:Ns): ∀ i,i≤2→BG nodes b1 b2 x i=x
 |0,_=>rfl
 |i+1,h=>by
  show (if i<2 then _ else _)=_
  rw[if_pos (by omega)]
  exact OH nodes b1 b2 x i (by omega)
theorem fok (nodes:List Dg.Nd) (b1 b2:List Nat) (x:Ns): ∀ i,FOk nodes x.vars (BG nodes b1 b2 x i) i:=by
 intro i
 induction i with
 |zero=>exact ⟨Nat.le_refl _,fun j _ h=>absurd h (by omega),fun j _ h=>absurd h (by omega),fun j j' _ _ h=>absurd h (by omega),fun v h h2=>absurd h (Nat.not_lt.2 h2)⟩
 |succ i ih=>
  by_cases c:i<2
  ·rw[OH nodes b1 b2 x _ (by omega)]
   exact ⟨Nat.le_refl _,fun j _ h=>absurd h (by omega),fun j _ h=>absurd h (by omega),fun j j' _ _ h=>absurd h (by omega),fun v h h2=>absurd h (Nat.not_lt.2 h2)⟩
  ·rw[Rw nodes b1 b2 x (by omega)]
   generalize BG nodes b1 b2 x i=y at ih
   have ev:=gD nodes.length b1 b2 (Dg.AG nodes i) i y
   have e1:=ZV nodes.length b1 b2 (Dg.AG nodes i) i y
   have e2:=ZW nodes.length b1 b2 (Dg.AG nodes i) i y
   generalize Hp nodes.length b1 b2 (Dg.AG nodes i) i y=z at ev e1 e2
   have hv:y.vars+1≤z.vars:=by rw[ev];split <;> omega
   have o1: ∀ j,j<i→z.f1 j=y.f1 j:=fun j h=>by rw[e1];exact SC (by omega)
   have o2: ∀ j,j<i→z.f2 j=y.f2 j:=fun j h=>by rw[e2];exact SC (by omega)
   have n1:z.f1 i=y.vars+1:=by rw[e1];exact upd_same
   have n2:z.f2 i=if (Dg.AG nodes i).sec then y.vars+2 else y.vars+1:=by rw[e2];exact upd_same
   refine ⟨by have:=ih.vars;omega,fun j h2 hj=>?_,fun j h2 hj=>?_,fun j j' h2 hj hj'=>?_,fun v hlo hhi=>?_⟩
   ·by_cases c:j<i
    ·rw[o1 j c];have:=ih.lo1 j h2 c;omega
    ·have:j=i:=by omega
     subst this
     rw[n1];have:=ih.vars;omega
   ·by_cases c:j<i
    ·rw[o1 j c,o2 j c];have:=ih.Uo j h2 c;exact ⟨this.1,by omega,this.2.2⟩
    ·have:j=i:=by omega
     subst this
     rw[n1,n2,ev]
     split
     ·exact ⟨by omega,by omega,rfl⟩
     ·exact ⟨by omega,by omega,rfl⟩
   ·by_cases c:j'<i
    ·rw[o1 j' c,o2 j (by omega)];exact ih.inc j j' h2 hj c
    ·have:j'=i:=by omega
     subst this
     rw[n1,o2 j hj]
     have:=(ih.Uo j h2 hj).2.1
     omega
   ·by_cases c:v≤y.vars
    ·obtain ⟨j,h2,hj,e⟩:=ih.all v hlo c
     exact ⟨j,h2,by omega,by rw[o1 j hj,o2 j hj];exact e⟩
    ·refine ⟨i,by omega,by omega,?_⟩
     rw[n1,n2]
     rw[ev] at hhi
     split
     ·next hs=>rw[if_pos hs] at hhi;omega
     ·next hs=>rw[if_neg hs] at hhi;omega
theorem pJ (nodes:List Dg.Nd) (b1 b2:List Nat) (x:Ns) (i:Nat): ∀ k,i≤k→ ∀ j,j<i→(BG nodes b1 b2 x k).f1 j=(BG nodes b1 b2 x i).f1 j∧(BG nodes b1 b2 x k).f2 j=(BG nodes b1 b2 x i).f2 j:=by
 intro k
 induction k with
 |zero=>intro h j hj;exact absurd hj (by omega)
 |succ k ih=>
  intro h j hj
  by_cases c:i=k+1
  ·subst c;exact ⟨rfl,rfl⟩
  ·obtain ⟨a,b⟩:=ih (by omega) j hj
   rw[←a, ←b]
   by_cases c2:k<2
   ·rw[OH nodes b1 b2 x _ (by omega),OH nodes b1 b2 x _ (by omega)];exact ⟨rfl,rfl⟩
   ·rw[Rw nodes b1 b2 x (by omega),ZV,ZW]
    exact ⟨SC (by omega),SC (by omega)⟩
theorem aab (L:Nat) (b1 b2:List Nat) (d:Dg.Nd) (i:Nat) (x:Ns) (hi:i<L) (hlo:d.lo<i) (hhi:d.hi<i) {f1 f2:Nat→Nat} (h1: ∀ j,j<i→f1 j=x.f1 j) (h2: ∀ j,j<i→f2 j=x.f2 j) (n1:f1 i=x.vars+1) (n2:f2 i=if d.sec then x.vars+2 else x.vars+1):
  (Hp L b1 b2 d i x).bs=x.bs++rend (Jt b1 b2 d i f1 f2)∧(Hp L b1 b2 d i x).ct=x.ct+(Jt b1 b2 d i f1 f2).length:=by
 have kl: ∀ u g v,(G' u g v d.lo d.hi).length=Bd d.lo+Bd d.hi:=fun u g v=>by unfold G';rw[List.length_append,YT,YT]
 have t1: ∀ j,j<i→(tab L (Lk.upd x.f1 i (x.vars+1))).getD j 0=f1 j:=fun j hj=>by rw[OM L _ j (by omega),SC (by omega),h1 j hj]
 have t2: ∀ j,j<i→(tab L x.f2).getD j 0=f2 j:=fun j hj=>by rw[OM L _ j (by omega),h2 j hj]
 have a1:Hj b1 (tab L (Lk.upd x.f1 i (x.vars+1))) ((x.vars+1:Nat):Int) d.bit d.lo d.hi=rend (G' (b1.getD d.bit 0) f1 (f1 i) d.lo d.hi):=by
  rw[fB,n1,VA (h:=f1) (t1 d.lo hlo) (t1 d.hi hhi)]
 unfold Hp two Jt
 by_cases hs:d.sec=true
 ·have a2:Hj b2 (tab L x.f2) ((x.vars+1+1:Nat):Int) d.bit d.lo d.hi=rend (G' (b2.getD d.bit 0) f2 (f2 i) d.lo d.hi):=by
   rw[fB,n2,if_pos hs,VA (h:=f2) (t2 d.lo hlo) (t2 d.hi hhi)]
  rw[if_pos hs,if_pos hs]
  refine ⟨?_,?_⟩
  ·show (x.bs++Hj b1 _ _ _ _ _)++Hj b2 _ _ _ _ _=_
   rw[a1,show Hj b2 (tab L (one L b1 d i x).f2) (((one L b1 d i x).vars+1:Nat):Int) d.bit d.lo d.hi=_ from a2,Nz.Im,List.append_assoc]
  ·show x.ct+(Bd d.lo+Bd d.hi)+(Bd d.lo+Bd d.hi)=_
   rw[List.length_append,kl,kl];omega
 ·rw[if_neg hs,if_neg hs]
  refine ⟨?_,?_⟩
  ·show x.bs++Hj b1 _ _ _ _ _=_
   rw[a1,List.append_nil]
  ·show x.ct+(Bd d.lo+Bd d.hi)=_
   rw[List.append_nil,kl]
theorem fE (nodes:List Dg.Nd) (b1 b2:List Nat) (hd:Dg.NM nodes) {f1 f2 g1 g2:Nat→Nat}: ∀ i,i≤nodes.length→(∀ j,j<i→f1 j=g1 j)→(∀ j,j<i→f2 j=g2 j)→Ff nodes b1 b2 f1 f2 i=Ff nodes b1 b2 g1 g2 i
 |0,_,_,_=>rfl
 |i+1,hi,h1,h2=>by
  have ih:=fE nodes b1 b2 hd i (by omega) (fun j hj=>h1 j (by omega)) (fun j hj=>h2 j (by omega))
  show (if i<2 then _ else _)=(if i<2 then _ else _)
  by_cases c:i<2
  ·rw[if_pos c,if_pos c];exact ih
  ·rw[if_neg c,if_neg c,ih]
   obtain ⟨l,k⟩:=hd i (by omega) (by omega)
   unfold Jt
   rw[h1 i (by omega),h2 i (by omega),VA (h1 _ (by omega)) (h1 _ (by omega)),VA (h2 _ (by omega)) (h2 _ (by omega))]
theorem dx (nodes:List Dg.Nd) (b1 b2:List Nat) (x:Ns) (hd:Dg.NM nodes): ∀ i,i≤nodes.length→
  (BG nodes b1 b2 x i).bs=x.bs++rend (Ff nodes b1 b2 (BG nodes b1 b2 x i).f1 (BG nodes b1 b2 x i).f2 i)∧(BG nodes b1 b2 x i).ct=x.ct+(Ff nodes b1 b2 (BG nodes b1 b2 x i).f1 (BG nodes b1 b2 x i).f2 i).length:=by
 intro i
 induction i with
 |zero=>intro _;exact ⟨by show x.bs=x.bs++[];rw[List.append_nil],rfl⟩
 |succ i ih=>
  intro hi
  obtain ⟨a,b⟩:=ih (by omega)
  by_cases c:i<2
  ·have e: ∀ f1 f2,Ff nodes b1 b2 f1 f2 (i+1)=Ff nodes b1 b2 f1 f2 i:=fun f1 f2=>by show (if i<2 then _ else _)=_;rw[if_pos c]
   rw[OH nodes b1 b2 x i (by omega)] at a b
   rw[e,OH nodes b1 b2 x (i+1) (by omega)]
   exact ⟨a,b⟩
  ·obtain ⟨l,k⟩:=hd i (by omega) (by omega)
   have e: ∀ f1 f2,Ff nodes b1 b2 f1 f2 (i+1)=Ff nodes b1 b2 f1 f2 i++Jt b1 b2 (Dg.AG nodes i) i f1 f2:=fun f1 f2=>by show (if i<2 then _ else _)=_;rw[if_neg c]
   have kp:=pJ nodes b1 b2 x i (i+1) (by omega)
   have ef1:=ZV nodes.length b1 b2 (Dg.AG nodes i) i (BG nodes b1 b2 x i)
   have ef2:=ZW nodes.length b1 b2 (Dg.AG nodes i) i (BG nodes b1 b2 x i)
   rw[←Rw nodes b1 b2 x (by omega)] at ef1 ef2
   obtain ⟨s1,s2⟩:=aab nodes.length b1 b2 (Dg.AG nodes i) i (BG nodes b1 b2 x i) (by omega) l k (f1:=(BG nodes b1 b2 x (i+1)).f1) (f2:=(BG nodes b1 b2 x (i+1)).f2) (fun j hj=>(kp j hj).1) (fun j hj=>(kp j hj).2) (by rw[ef1];exact upd_same) (by rw[ef2];exact upd_same)
   rw[←Rw nodes b1 b2 x (by omega)] at s1 s2
   rw[e,s1,s2,a,b,fE nodes b1 b2 hd i (by omega) (fun j hj=>((kp j hj).1).symm) (fun j hj=>((kp j hj).2).symm),Nz.Im,List.length_append]
   exact ⟨List.append_assoc _ _ _,Nat.add_assoc _ _ _⟩
def IY (g:Nat→Nat) (V:Nat) (D:List Nat):Nat→List (List Int)
 |0=>[]
 |i+1=>IY g V D i++E8 g ((V+1+i:Nat):Int) (D.getD i 0) 0
theorem SD (N:List Nat) (V:Nat) (D:List Nat) (c0:Nat): ∀ i,(JU N V D c0 i).2=rend (IY (fun j=>N.getD j 0) V D i)∧(JU N V D c0 i).1=c0+(IY (fun j=>N.getD j 0) V D i).length
 |0=>⟨rfl,rfl⟩
 |i+1=>by
  obtain ⟨a,b⟩:=SD N V D c0 i
  refine ⟨?_,?_⟩
  ·show (JU N V D c0 i).2++FY N _ _ 0=rend (_++_)
   rw[a,YF,Nz.Im]
  ·show (JU N V D c0 i).1+Bd _=c0+(IY (fun j=>N.getD j 0) V D i++E8 (fun j=>N.getD j 0) _ (D.getD i 0) 0).length
   rw[b,List.length_append,YT];omega
theorem Rx {g h:Nat→Nat} {V:Nat} {D:List Nat} {L:Nat} (hD: ∀ i,i<D.length→D.getD i 0<L) (e: ∀ j,j<L→g j=h j): ∀ i,i≤D.length→IY g V D i=IY h V D i
 |0,_=>rfl
 |i+1,hi=>by
  show IY g V D i++_=IY h V D i++_
  rw[Rx hD e i (by omega),Y5 (e _ (hD i (by omega)))]
def Ju (d a b:Nat):List (List Int):=[[-(d:Int),a,b],[-(d:Int), -(a:Int), -(b:Int)],[(d:Int), -(a:Int),b],[(d:Int),a, -(b:Int)]]
theorem Wq {a b c:Int} (ha:a≠0) (hb:b≠0) (hc:c≠0):EH a b c=[a,b,c]:=by unfold EH;simp[ha,hb,hc]
theorem tU {d a b:Nat} (hd:0<d) (ha:0<a) (hb:0<b):LJ d a b=rend (Ju d a b):=by
 unfold LJ Ju
 rw[Mp,Mp,Mp,Mp, ←Nz.Im, ←Nz.Im, ←Nz.Im]
 rw[Wq (by omega) (by omega) (by omega),Wq (by omega) (by omega) (by omega),Wq (by omega) (by omega) (by omega),Wq (by omega) (by omega) (by omega)]
 rfl
def KD (V m:Nat):Nat→List (List Int)
 |0=>[]
 |i+1=>KD V m i++Ju (V+2*m+1+i) (V+1+i) (V+m+1+i)
theorem VW (V m:Nat): ∀ i,Iy V m i=rend (KD V m i)∧(KD V m i).length=4*i
 |0=>⟨rfl,rfl⟩
 |i+1=>by
  obtain ⟨a,b⟩:=VW V m i
  refine ⟨?_,?_⟩
  ·show Iy V m i++LJ _ _ _=rend (_++_)
   rw[a,tU (by omega) (by omega) (by omega),Nz.Im]
  ·show (KD V m i++Ju _ _ _).length=_
   rw[List.length_append,b];show 4*i+4=_;omega
def Oe (V m:Nat):List Int:=(BD (V+2*m) m).map fun (n:Nat)=>(n:Int)
theorem qj (D:List Nat) (h: ∀ x∈D,0<x):Gn D D.length=wrds (D.map fun (n:Nat)=>(n:Int)):=by
 have key: ∀ D:List Nat,(∀ x∈D,0<x)→D.flatMap (fun (n:Nat)=>Er (n:Int))=wrds (D.map fun (n:Nat)=>(n:Int)):=by
  intro D
  induction D with
  |nil=>intro _;rfl
  |cons x D ih=>
   intro h
   rw[List.flatMap_cons,ih (fun y hy=>h y (by simp[hy])),List.map_cons,Nz.SB,VV,List.filter_cons_of_pos (by simp;have:=h x (by simp);omega)]
   show wrds [(x:Int)]++_=_
   rw[Nz.SB,List.append_assoc];rfl
 rw[←key D h]
 unfold Gn
 have e:(List.range D.length).map (fun i=>D.getD i 0)=D:=by
  refine List.ext_getElem (by simp) fun i h1 h2=>?_
  simp at h2 ⊢
  rw[List.getElem?_eq_getElem h2];rfl
 conv=>rhs;rw[←e]
 rw[List.flatMap_map]
section
variable (sec:List Bool) (nodes:List Dg.Nd) (D:List Nat)
def F1:Nat→Nat:=(Bw sec nodes D.length).f1
def F2:Nat→Nat:=(Bw sec nodes D.length).f2
def DW:List (List Int):=Ff nodes (b1 sec) (b2 sec) (F1 sec nodes D) (F2 sec nodes D) nodes.length++IY (F1 sec nodes D) (AK sec) D D.length++IY (F2 sec nodes D) (AK sec+D.length) D D.length
def Dp:List (List Int):=DW sec nodes D++KD (AK sec) D.length D.length++[Oe (AK sec) D.length]
end
theorem gF (sec:List Bool) (nodes:List Dg.Nd) (D:List Nat) (hd:Dg.NM nodes) (hD: ∀ i,i<D.length→D.getD i 0<nodes.length):
  (form sec nodes D).bs=rend (Dp sec nodes D)∧(form sec nodes D).ct=(Dp sec nodes D).length:=by
 obtain ⟨a1,a2⟩:=dx nodes (b1 sec) (b2 sec) ⟨AK sec+3*D.length,0,fun _=>0,fun _=>0,[]⟩ hd nodes.length (Nat.le_refl _)
 have a1:(Bw sec nodes D.length).bs=rend (Ff nodes (b1 sec) (b2 sec) (F1 sec nodes D) (F2 sec nodes D) nodes.length):=a1
 have a2:(Bw sec nodes D.length).ct=(Ff nodes (b1 sec) (b2 sec) (F1 sec nodes D) (F2 sec nodes D) nodes.length).length:=by have:=a2;simp only[Nat.zero_add] at this;exact this
 obtain ⟨c1,c2⟩:=SD (n1 sec nodes D.length) (AK sec) D (Bw sec nodes D.length).ct D.length
 obtain ⟨d1,d2⟩:=SD (n2 sec nodes D.length) (AK sec+D.length) D (DK sec nodes D D.length).1 D.length
 obtain ⟨e1,e2⟩:=VW (AK sec) D.length D.length
 have g1:=Rx (g:=fun j=>(n1 sec nodes D.length).getD j 0) (h:=F1 sec nodes D) (V:=AK sec) hD (fun j hj=>OM _ _ j hj) D.length (Nat.le_refl _)
 have g2:=Rx (g:=fun j=>(n2 sec nodes D.length).getD j 0) (h:=F2 sec nodes D) (V:=AK sec+D.length) hD (fun j hj=>OM _ _ j hj) D.length (Nat.le_refl _)
 rw[g1] at c1 c2
 rw[g2] at d1 d2
 have hl:Gn (BD (AK sec+2*D.length) D.length) D.length=wrds (Oe (AK sec) D.length):=by
  have:=qj (BD (AK sec+2*D.length) D.length) (fun x hx=>by
   obtain ⟨i,_,rfl⟩:=List.mem_map.1 hx;omega)
  rw[Jl] at this
  exact this
 unfold Dp DW form
 refine ⟨?_,?_⟩
 ·show (Bw sec nodes D.length).bs++(DK sec nodes D D.length).2++(EB sec nodes D D.length).2++Iy (AK sec) D.length D.length++Gn (BD (AK sec+2*D.length) D.length) D.length++[48,10]=_
  rw[a1,show (DK sec nodes D D.length).2=_ from c1,show (EB sec nodes D D.length).2=_ from d1,e1,hl,Nz.Im,Nz.Im,Nz.Im,Nz.Im,Nz.VU]
  show _=_++((wrds _++[48])++10::[])
  simp only[List.append_assoc]
  rfl
 ·show (EB sec nodes D D.length).1+4*D.length+1=_
  rw[show (EB sec nodes D D.length).1=_ from d2,show (DK sec nodes D D.length).1=_ from c2,a2,List.length_append,List.length_append,List.length_append,List.length_append,e2]
  rfl
end Cl
namespace Cl
theorem aac (sec:List Bool) (t:Nat) (ht:t<4): ∀ i j,j<i→(Ar sec i).2.getD (4*j+t) 0=if sec.getD j false then (Ar sec j).1+1+t else 4*j+1+t:=by
 intro i
 induction i with
 |zero=>intro j h;exact absurd h (by omega)
 |succ i ih=>
  intro j hj
  have hl:=Yi sec i
  have hf: ∀ v,(BD v 4).getD t 0=v+1+t:=fun v=>VE v 4 t ht
  have key: ∀ v,((Ar sec i).2++BD v 4).getD (4*j+t) 0=if j<i then (Ar sec i).2.getD (4*j+t) 0 else v+1+t:=fun v=>by
   by_cases c:j<i
   ·rw[if_pos c,List.getD_eq_getElem?_getD,List.getElem?_append_left (by omega), ←List.getD_eq_getElem?_getD]
   ·rw[if_neg c,List.getD_eq_getElem?_getD,List.getElem?_append_right (by omega), ←List.getD_eq_getElem?_getD,hl,show 4*j+t - 4*i=t by omega,hf]
  have e:(Ar sec (i+1)).2=(Ar sec i).2++BD (if sec.getD i false then (Ar sec i).1 else 4*i) 4:=by
   show (if sec.getD i false=true then _ else _:Nat×List Nat).2=_
   split <;> rfl
  rw[e,key]
  by_cases c:j<i
  ·rw[if_pos c];exact ih j c
  ·have:j=i:=by omega
   subst this
   rw[if_neg c]
   split <;> rfl
theorem Mw (sec:List Bool) (i:Nat):(Ar sec (i+1)).1=if sec.getD i false then (Ar sec i).1+4 else (Ar sec i).1:=by
 show (if sec.getD i false=true then _ else _:Nat×List Nat).1=_
 split <;> rfl
theorem YU (sec:List Bool) {i j:Nat} (h:i≤j):(Ar sec i).1≤(Ar sec j).1:=by
 induction j with
 |zero=>rw[Nat.le_zero.1 h];exact Nat.le_refl _
 |succ j ih=>
  by_cases c:i=j+1
  ·subst c;exact Nat.le_refl _
  ·have:=ih (by omega)
   rw[Mw];split <;> omega
theorem M8 (sec:List Bool) {b:Nat} (h:b<4*sec.length):(b1 sec).getD b 0=b+1:=by
 have:=VE 0 (4*sec.length) b h
 unfold b1;omega
theorem lO (sec:List Bool) {b:Nat} (h:b<4*sec.length):(b2 sec).getD b 0=if sec.getD (b/4) false then (Ar sec (b/4)).1+1+b%4 else b+1:=by
 have:=aac sec (b%4) (Nat.mod_lt _ (by omega)) sec.length (b/4) (by omega)
 rw[show 4*(b/4)+b%4=b by omega] at this
 unfold b2
 rw[this]
 split
 ·rfl
 ·omega
theorem WK (sec:List Bool) {b:Nat} (h:b<4*sec.length) (hs:sec.getD (b/4) false=false):(b2 sec).getD b 0=b+1:=by
 rw[lO sec h,if_neg (by rw[hs];decide)]
theorem L6 (sec:List Bool) {b:Nat} (h:b<4*sec.length) (hs:sec.getD (b/4) false=true):(b2 sec).getD b 0=(Ar sec (b/4)).1+1+b%4∧4*sec.length<(b2 sec).getD b 0∧(b2 sec).getD b 0≤AK sec:=by
 have e:(b2 sec).getD b 0=(Ar sec (b/4)).1+1+b%4:=by rw[lO sec h,if_pos hs]
 refine ⟨e,?_,WW sec b⟩
 have:=(QT sec (b/4)).1
 omega
theorem acE (sec:List Bool) {b c:Nat} (hb:b<4*sec.length) (hc:c<4*sec.length) (sb:sec.getD (b/4) false=true) (sc:sec.getD (c/4) false=true) (e:(b2 sec).getD b 0=(b2 sec).getD c 0):b=c:=by
 have e1:=(L6 sec hb sb).1
 have e2:=(L6 sec hc sc).1
 rw[e1,e2] at e
 rcases Nat.lt_trichotomy (b/4) (c/4) with g|g|g
 ·have h1:=Mw sec (b/4)
  rw[if_pos sb] at h1
  have h2:=YU sec (show b/4+1≤c/4 by omega)
  omega
 ·rw[g] at e;omega
 ·have h1:=Mw sec (c/4)
  rw[if_pos sc] at h1
  have h2:=YU sec (show c/4+1≤b/4 by omega)
  omega
theorem kT (sec:List Bool): ∀ i,i≤sec.length→ ∀ v,4*sec.length<v→v≤(Ar sec i).1→ ∃ b,b<4*i∧sec.getD (b/4) false=true∧(b2 sec).getD b 0=v:=by
 intro i
 induction i with
 |zero=>intro _ v h1 h2;exact absurd h1 (Nat.not_lt.2 h2)
 |succ i ih=>
  intro hi v h1 h2
  by_cases c:v≤(Ar sec i).1
  ·obtain ⟨b,hb,e⟩:=ih (by omega) v h1 c
   exact ⟨b,by omega,e⟩
  ·rw[Mw] at h2
   by_cases hs:sec.getD i false=true
   ·rw[if_pos hs] at h2
    obtain ⟨t,rfl⟩: ∃ t,v=(Ar sec i).1+1+t:=⟨v - (Ar sec i).1 - 1,by omega⟩
    have hd:(4*i+t)/4=i:=by omega
    refine ⟨4*i+t,by omega,by rw[hd];exact hs,?_⟩
    rw[(L6 sec (by omega) (by rw[hd];exact hs)).1,hd]
    omega
   ·rw[if_neg hs] at h2;exact absurd h2 c
structure EI (sec:List Bool) (nodes:List Dg.Nd) (D:List Nat) (pos:Nat→Nat):Prop where
 ok: ∃ s:Dg.St,s.nodes=nodes∧(∃ M,Dg.Ok sec.length M s∧Dg.Uq sec M pos s)
 inj: ∀ a b,a<4*sec.length→b<4*sec.length→pos a=pos b→a=b
 D: ∀ i,i<D.length→D.getD i 0<nodes.length
section
variable {sec:List Bool} {nodes:List Dg.Nd} {D:List Nat} {pos:Nat→Nat}
theorem EI.desc (h:EI sec nodes D pos):Dg.NM nodes:=by obtain ⟨s,rfl,M,ok,_⟩:=h.ok;exact ok.desc
theorem EI.bit (h:EI sec nodes D pos) {i:Nat} (h2:2≤i) (hi:i<nodes.length):(Dg.AG nodes i).bit<4*sec.length:=by obtain ⟨s,rfl,M,ok,_⟩:=h.ok;exact ok.bit i h2 hi
theorem EI.same (h:EI sec nodes D pos) {x y:Nat→Bool} (hxy:Dg.Ra sec.length sec x y) {i:Nat} (hi:i<nodes.length) (hs:(Dg.AG nodes i).sec=false):Dg.vl nodes x i=Dg.vl nodes y i:=by
 obtain ⟨s,rfl,M,ok,uq⟩:=h.ok;exact Dg.qi ok uq hxy i hi hs
theorem EI.dep (h:EI sec nodes D pos) {i:Nat} (hi:i<nodes.length) (hs:(Dg.AG nodes i).sec=true): ∃ x y,Dg.Ra sec.length sec x y∧Dg.vl nodes x i≠Dg.vl nodes y i:=by
 obtain ⟨s,rfl,M,ok,uq⟩:=h.ok;exact Dg.aaa ok uq h.inj i hi hs
theorem EI.sc (h:EI sec nodes D pos) {i:Nat} (h2:2≤i) (hi:i<nodes.length):(Dg.AG nodes i).sec=(sec.getD ((Dg.AG nodes i).bit/4) false||(Dg.AG nodes (Dg.AG nodes i).lo).sec||(Dg.AG nodes (Dg.AG nodes i).hi).sec):=by
 obtain ⟨s,rfl,M,ok,uq⟩:=h.ok;exact uq.sc i h2 hi
theorem EI.leaf (h:EI sec nodes D pos) {i:Nat} (hi:i<2):(Dg.AG nodes i).sec=false:=by
 obtain ⟨s,rfl,M,ok,uq⟩:=h.ok
 have:i=0∨i=1:=by omega
 rcases this with rfl|rfl
 ·rw[uq.z0]
 ·rw[uq.z1]
end
section
variable (sec:List Bool) (nodes:List Dg.Nd) (D:List Nat)
theorem OP:FOk nodes (AK sec+3*D.length) (Bw sec nodes D.length) nodes.length:=fok nodes (b1 sec) (b2 sec) ⟨AK sec+3*D.length,0,fun _=>0,fun _=>0,[]⟩ nodes.length
inductive Ms (x y:Nat→Bool):Nat→Bool→Prop
 |Ki (b:Nat) (h:b<4*sec.length):Ms x y ((b1 sec).getD b 0) (x b)
 |Kj (b:Nat) (h:b<4*sec.length):Ms x y ((b2 sec).getD b 0) (y b)
 |t1 (i:Nat) (h:i<D.length):Ms x y (AK sec+1+i) (Dg.vl nodes x (D.getD i 0))
 |t2 (i:Nat) (h:i<D.length):Ms x y (AK sec+D.length+1+i) (Dg.vl nodes y (D.getD i 0))
 |n1 (i:Nat) (h2:2≤i) (h:i<nodes.length):Ms x y (F1 sec nodes D i) (Dg.vl nodes x i)
 |n2 (i:Nat) (h2:2≤i) (h:i<nodes.length):Ms x y (F2 sec nodes D i) (Dg.vl nodes y i)
end
section
variable {sec:List Bool} {nodes:List Dg.Nd} {D:List Nat} {pos:Nat→Nat}
theorem NA {i:Nat} (h2:2≤i) (hi:i<nodes.length):AK sec+3*D.length<F1 sec nodes D i∧F1 sec nodes D i≤(Bw sec nodes D.length).vars:=(OP sec nodes D).lo1 i h2 hi
theorem Jq {i:Nat} (h2:2≤i) (hi:i<nodes.length):F1 sec nodes D i≤F2 sec nodes D i∧F2 sec nodes D i≤(Bw sec nodes D.length).vars∧F2 sec nodes D i=if (Dg.AG nodes i).sec then F1 sec nodes D i+1 else F1 sec nodes D i:=(OP sec nodes D).Uo i h2 hi
theorem lQ {i j:Nat} (h2:2≤i) (hij:i<j) (hj:j<nodes.length):F2 sec nodes D i<F1 sec nodes D j:=(OP sec nodes D).inc i j h2 hij hj
theorem WY {i j:Nat} (hi2:2≤i) (hi:i<nodes.length) (Ii:2≤j) (hj:j<nodes.length) {a b:Nat} (ha:a=F1 sec nodes D i∨a=F2 sec nodes D i) (hb:b=F1 sec nodes D j∨b=F2 sec nodes D j) (e:a=b):i=j:=by
 have r1:=Jq (sec:=sec) (D:=D) hi2 hi
 have r2:=Jq (sec:=sec) (D:=D) Ii hj
 rcases Nat.lt_trichotomy i j with g|g|g
 ·have:=lQ (sec:=sec) (D:=D) hi2 g hj
  rcases ha with rfl|rfl <;> rcases hb with rfl|rfl <;> omega
 ·exact g
 ·have:=lQ (sec:=sec) (D:=D) Ii g hi
  rcases ha with rfl|rfl <;> rcases hb with rfl|rfl <;> omega
theorem Ms.fn (Aa:EI sec nodes D pos) {x y:Nat→Bool} (hxy:Dg.Ra sec.length sec x y) {v:Nat} {t u:Bool} (h:Ms sec nodes D x y v t) (g:Ms sec nodes D x y v u):t=u:=by
 -- the kinds by their ranges
 have hv:=Jo sec
 have k1: ∀ b,b<4*sec.length→(b1 sec).getD b 0=b+1:=fun b hb=>M8 sec hb
 have k2: ∀ b,b<4*sec.length→(sec.getD (b/4) false=false∧(b2 sec).getD b 0=b+1)∨(sec.getD (b/4) false=true∧4*sec.length<(b2 sec).getD b 0∧(b2 sec).getD b 0≤AK sec):=fun b hb=>by
  cases hs:sec.getD (b/4) false with
  |false=>exact .inl ⟨rfl,WK sec hb hs⟩
  |true=>exact .inr ⟨rfl,(L6 sec hb hs).2⟩
 have k3: ∀ i,2≤i→i<nodes.length→AK sec+3*D.length<F1 sec nodes D i:=fun i h2 hi=>(NA h2 hi).1
 have k4: ∀ i,2≤i→i<nodes.length→AK sec+3*D.length<F2 sec nodes D i:=fun i h2 hi=>Nat.lt_of_lt_of_le (NA h2 hi).1 (Jq h2 hi).1
 have GD: ∀ i j,2≤i→i<nodes.length→2≤j→j<nodes.length→F1 sec nodes D i=F2 sec nodes D j→Dg.vl nodes x i=Dg.vl nodes y j:=fun i j hi2 hi Ii hj e=>by
  have:=WY hi2 hi Ii hj (.inl rfl) (.inr rfl) e
  subst this
  have r:=(Jq (sec:=sec) (D:=D) hi2 hi).2.2
  cases hs:(Dg.AG nodes i).sec with
  |false=>exact Aa.same hxy hi hs
  |true=>rw[hs] at r;simp at r;omega
 have b12: ∀ b c,b<4*sec.length→c<4*sec.length→(b1 sec).getD b 0=(b2 sec).getD c 0→x b=y c:=fun b c hb hc e=>by
  rw[k1 b hb] at e
  rcases k2 c hc with ⟨hs,e2⟩|⟨hs,l,r⟩
  ·have:b=c:=by omega
   subst this
   exact hxy b hb hs
  ·omega
 cases h with
 |Ki b hb=>
  generalize hw:(b1 sec).getD b 0=w at g
  rw[k1 b hb] at hw
  cases g with
  |Ki c hc=>rw[k1 c hc] at hw;have:b=c:=by omega
            rw[this]
  |Kj c hc=>exact b12 b c hb hc (by rw[k1 b hb];exact hw)
  |t1 i hi=>omega
  |t2 i hi=>omega
  |n1 i h2 hi=>have:=k3 i h2 hi;omega
  |n2 i h2 hi=>have:=k4 i h2 hi;omega
 |Kj b hb=>
  generalize hw:(b2 sec).getD b 0=w at g
  have hw2:w≤AK sec:=by rcases k2 b hb with ⟨_,e⟩|⟨_,_,r⟩ <;> omega
  cases g with
  |Ki c hc=>exact (b12 c b hc hb hw.symm).symm
  |Kj c hc=>
   have:b=c:=by
    rcases k2 b hb with ⟨s1,e1⟩|⟨s1,l1,r1⟩
    ·rcases k2 c hc with ⟨s2,e2⟩|⟨s2,l2,r2⟩ <;> omega
    ·rcases k2 c hc with ⟨s2,e2⟩|⟨s2,l2,r2⟩
     ·omega
     ·exact acE sec hb hc s1 s2 hw
   rw[this]
  |t1 i hi=>omega
  |t2 i hi=>omega
  |n1 i h2 hi=>have:=k3 i h2 hi;omega
  |n2 i h2 hi=>have:=k4 i h2 hi;omega
 |t1 i hi=>
  generalize hw:AK sec+1+i=w at g
  cases g with
  |Ki c hc=>have:=k1 c hc;omega
  |Kj c hc=>rcases k2 c hc with ⟨_,e⟩|⟨_,_,r⟩ <;> omega
  |t1 j hj=>have:i=j:=by omega
            rw[this]
  |t2 j hj=>omega
  |n1 j h2 hj=>have:=k3 j h2 hj;omega
  |n2 j h2 hj=>have:=k4 j h2 hj;omega
 |t2 i hi=>
  generalize hw:AK sec+D.length+1+i=w at g
  cases g with
  |Ki c hc=>have:=k1 c hc;omega
  |Kj c hc=>rcases k2 c hc with ⟨_,e⟩|⟨_,_,r⟩ <;> omega
  |t1 j hj=>omega
  |t2 j hj=>have:i=j:=by omega
            rw[this]
  |n1 j h2 hj=>have:=k3 j h2 hj;omega
  |n2 j h2 hj=>have:=k4 j h2 hj;omega
 |n1 i h2 hi=>
  have hk:=k3 i h2 hi
  generalize hw:F1 sec nodes D i=w at g hk
  cases g with
  |Ki c hc=>have:=k1 c hc;omega
  |Kj c hc=>rcases k2 c hc with ⟨_,e⟩|⟨_,_,r⟩ <;> omega
  |t1 j hj=>omega
  |t2 j hj=>omega
  |n1 j g2 hj=>have:=WY h2 hi g2 hj (.inl rfl) (.inl rfl) hw
               rw[this]
  |n2 j g2 hj=>exact GD i j h2 hi g2 hj hw
 |n2 i h2 hi=>
  have hk:=k4 i h2 hi
  generalize hw:F2 sec nodes D i=w at g hk
  cases g with
  |Ki c hc=>have:=k1 c hc;omega
  |Kj c hc=>rcases k2 c hc with ⟨_,e⟩|⟨_,_,r⟩ <;> omega
  |t1 j hj=>omega
  |t2 j hj=>omega
  |n1 j g2 hj=>exact (GD j i g2 hj h2 hi hw.symm).symm
  |n2 j g2 hj=>have:=WY h2 hi g2 hj (.inr rfl) (.inr rfl) hw
               rw[this]
theorem Ms.all (x y:Nat→Bool) {v:Nat} (h1:1≤v) (h2:v≤(Bw sec nodes D.length).vars) (h:v≤AK sec+2*D.length∨AK sec+3*D.length<v): ∃ t,Ms sec nodes D x y v t:=by
 have hv:=Jo sec
 by_cases c1:v≤4*sec.length
 ·have:=Ms.Ki (sec:=sec) (nodes:=nodes) (D:=D) (x:=x) (y:=y) (v - 1) (by omega)
  rw[M8 sec (by omega),show v - 1+1=v by omega] at this
  exact ⟨_,this⟩
 ·by_cases c2:v≤AK sec
  ·obtain ⟨b,hb,_,e⟩:=kT sec sec.length (Nat.le_refl _) v (by omega) c2
   exact ⟨_,by rw[←e];exact Ms.Kj b hb⟩
  ·by_cases c3:v≤AK sec+D.length
   ·have:=Ms.t1 (sec:=sec) (nodes:=nodes) (D:=D) (x:=x) (y:=y) (v - AK sec - 1) (by omega)
    rw[show AK sec+1+(v - AK sec - 1)=v by omega] at this
    exact ⟨_,this⟩
   ·by_cases c4:v≤AK sec+2*D.length
    ·have:=Ms.t2 (sec:=sec) (nodes:=nodes) (D:=D) (x:=x) (y:=y) (v - AK sec - D.length - 1) (by omega)
     rw[show AK sec+D.length+1+(v - AK sec - D.length - 1)=v by omega] at this
     exact ⟨_,this⟩
    ·obtain ⟨j,j2,hj,e⟩:=(OP sec nodes D).all v (by omega) h2
     rcases e with rfl|rfl
     ·exact ⟨_,Ms.n1 j j2 hj⟩
     ·exact ⟨_,Ms.n2 j j2 hj⟩
end
end Cl
namespace Cl
theorem JP {l a b c:Int}:l∈EH a b c↔(l=a∨l=b∨l=c)∧l≠0:=by unfold EH;simp
theorem VX {S:Nat→Bool→Prop} {g:Nat→Nat} {v node:Nat} {u:Int} {tv tn:Bool} (hv:0<v) (sv:S v tv) (h0:node=0→tn=false) (h1:node=1→tn=true) (h2:2≤node→0<g node∧S (g node) tn) (hu:(u≠0∧Tr S u)∨tv=tn):
  ∀ c∈E8 g v node u, ∃ l∈c,Tr S l:=by
 intro c hc
 unfold E8 at hc
 rcases hu with ⟨u0,ut⟩|rfl
 ·refine ⟨u,?_,ut⟩
  split at hc
  ·rw[List.mem_singleton.1 hc];exact JP.2 ⟨.inr (.inl rfl),u0⟩
  ·split at hc
   ·rw[List.mem_singleton.1 hc];exact JP.2 ⟨.inr (.inl rfl),u0⟩
   ·rcases List.mem_cons.1 hc with e|e
    ·rw[e];exact JP.2 ⟨.inr (.inl rfl),u0⟩
    ·rw[List.mem_singleton.1 e];exact JP.2 ⟨.inr (.inl rfl),u0⟩
 ·split at hc
  ·next hn=>
   rw[h0 hn] at sv
   rw[List.mem_singleton.1 hc];exact ⟨_,JP.2 ⟨.inl rfl,by omega⟩,(Qa hv).2 sv⟩
  ·split at hc
   ·next hn=>
    rw[h1 hn] at sv
    rw[List.mem_singleton.1 hc];exact ⟨_,JP.2 ⟨.inl rfl,by omega⟩,Q_.2 sv⟩
   ·next hn0 EC=>
    obtain ⟨g0,sg⟩:=h2 (by omega)
    rcases List.mem_cons.1 hc with e|e
    ·rw[e]
     cases tv with
     |true=>exact ⟨_,JP.2 ⟨.inr (.inr rfl),by omega⟩,Q_.2 sg⟩
     |false=>exact ⟨_,JP.2 ⟨.inl rfl,by omega⟩,(Qa hv).2 sv⟩
    ·rw[List.mem_singleton.1 e]
     cases tv with
     |true=>exact ⟨_,JP.2 ⟨.inl rfl,by omega⟩,Q_.2 sv⟩
     |false=>exact ⟨_,JP.2 ⟨.inr (.inr rfl),by omega⟩,(Qa g0).2 sg⟩
theorem gG {S:Nat→Bool→Prop} {g:Nat→Nat} {u v lo hi:Nat} {tu tl th tv:Bool} (hu:0<u) (su:S u tu) (hv:0<v) (sv:S v tv) (e:tv=if tu then th else tl)
  (l0:lo=0→tl=false) (l1:lo=1→tl=true) (l2:2≤lo→0<g lo∧S (g lo) tl) (h0:hi=0→th=false) (h1:hi=1→th=true) (h2:2≤hi→0<g hi∧S (g hi) th):
  ∀ c∈G' u g v lo hi, ∃ l∈c,Tr S l:=by
 intro c hc
 rcases List.mem_append.1 hc with hc|hc
 ·refine VX hv sv l0 l1 l2 ?_ c hc
  cases tu with
  |true=>exact .inl ⟨by omega,Q_.2 su⟩
  |false=>exact .inr e
 ·refine VX hv sv h0 h1 h2 ?_ c hc
  cases tu with
  |true=>exact .inr e
  |false=>exact .inl ⟨by omega,(Qa hu).2 su⟩
section
variable {sec:List Bool} {nodes:List Dg.Nd} {D:List Nat} {pos:Nat→Nat}
theorem jo {b1 b2:List Nat} {f1 f2:Nat→Nat} {c:List Int}: ∀ k,c∈Ff nodes b1 b2 f1 f2 k↔ ∃ i,2≤i∧i<k∧c∈Jt b1 b2 (Dg.AG nodes i) i f1 f2
 |0=>⟨fun h=>(by cases h),fun ⟨i,_,h,_⟩=>absurd h (by omega)⟩
 |k+1=>by
  have ih:=jo (b1:=b1) (b2:=b2) (f1:=f1) (f2:=f2) (c:=c) k
  show c∈(if k<2 then _ else _)↔_
  by_cases h:k<2
  ·rw[if_pos h,ih]
   exact ⟨fun ⟨i,a,b,d⟩=>⟨i,a,by omega,d⟩,fun ⟨i,a,b,d⟩=>⟨i,a,by omega,d⟩⟩
  ·rw[if_neg h,List.mem_append,ih]
   constructor
   ·rintro (⟨i,a,b,d⟩|d)
    ·exact ⟨i,a,by omega,d⟩
    ·exact ⟨k,by omega,by omega,d⟩
   ·rintro ⟨i,a,b,d⟩
    by_cases e:i=k
    ·subst e;exact .inr d
    ·exact .inl ⟨i,a,by omega,d⟩
theorem ZX {g:Nat→Nat} {V:Nat} {c:List Int}: ∀ k,c∈IY g V D k↔ ∃ i,i<k∧c∈E8 g ((V+1+i:Nat):Int) (D.getD i 0) 0
 |0=>⟨fun h=>(by cases h),fun ⟨i,h,_⟩=>absurd h (by omega)⟩
 |k+1=>by
  have ih:=ZX (g:=g) (V:=V) (c:=c) k
  show c∈_++_↔_
  rw[List.mem_append,ih]
  constructor
  ·rintro (⟨i,a,b⟩|d)
   ·exact ⟨i,by omega,b⟩
   ·exact ⟨k,by omega,d⟩
  ·rintro ⟨i,a,b⟩
   by_cases e:i=k
   ·subst e;exact .inr b
   ·exact .inl ⟨i,by omega,b⟩
theorem N7 {c:List Int}:c∈DW sec nodes D↔(∃ i,2≤i∧i<nodes.length∧c∈Jt (b1 sec) (b2 sec) (Dg.AG nodes i) i (F1 sec nodes D) (F2 sec nodes D))∨(∃ i,i<D.length∧c∈E8 (F1 sec nodes D) ((AK sec+1+i:Nat):Int) (D.getD i 0) 0)∨(∃ i,i<D.length∧c∈E8 (F2 sec nodes D) ((AK sec+D.length+1+i:Nat):Int) (D.getD i 0) 0):=by
 unfold DW
 rw[List.mem_append,List.mem_append,jo,ZX,ZX,or_assoc]
theorem QP {b1 b2:List Nat} {d:Dg.Nd} {i:Nat} {f1 f2:Nat→Nat} {c:List Int}:c∈Jt b1 b2 d i f1 f2↔c∈G' (b1.getD d.bit 0) f1 (f1 i) d.lo d.hi∨(d.sec=true∧c∈G' (b2.getD d.bit 0) f2 (f2 i) d.lo d.hi):=by
 unfold Jt
 rw[List.mem_append]
 by_cases h:d.sec=true
 ·rw[if_pos h];exact or_congr Iff.rfl ⟨fun q=>⟨h,q⟩,fun q=>q.2⟩
 ·rw[if_neg h];exact or_congr Iff.rfl ⟨fun q=>(by cases q),fun q=>absurd q.1 h⟩
theorem kU {b:Nat} (h:b<4*sec.length):0<(b1 sec).getD b 0:=by rw[M8 sec h];omega
theorem kV {b:Nat} (h:b<4*sec.length):0<(b2 sec).getD b 0:=by
 cases hs:sec.getD (b/4) false with
 |false=>rw[WK sec h hs];omega
 |true=>have:=(L6 sec h hs).2.1;omega
theorem ND {i:Nat} (h2:2≤i) (hi:i<nodes.length):0<F1 sec nodes D i:=by have:=(NA (sec:=sec) (D:=D) h2 hi).1;omega
theorem Oa {i:Nat} (h2:2≤i) (hi:i<nodes.length):0<F2 sec nodes D i:=by have:=(Jq (sec:=sec) (D:=D) h2 hi).1;have:=ND (sec:=sec) (D:=D) h2 hi;omega
theorem lf0 {x:Nat→Bool} {i:Nat} (h:i=0):Dg.vl nodes x i=false:=by rw[h,Dg.M4 _ _ _ (by omega)];rfl
theorem lf1 {x:Nat→Bool} {i:Nat} (h:i=1):Dg.vl nodes x i=true:=by rw[h,Dg.M4 _ _ _ (by omega)];rfl
theorem xm (Aa:EI sec nodes D pos) (x y:Nat→Bool): ∀ c∈DW sec nodes D, ∃ l∈c,Tr (Ms sec nodes D x y) l:=by
 intro c hc
 have one: ∀ j,j<nodes.length→2≤j→0<F1 sec nodes D j∧Ms sec nodes D x y (F1 sec nodes D j) (Dg.vl nodes x j):=fun j hj h2=>⟨ND h2 hj,.n1 j h2 hj⟩
 have two: ∀ j,j<nodes.length→2≤j→0<F2 sec nodes D j∧Ms sec nodes D x y (F2 sec nodes D j) (Dg.vl nodes y j):=fun j hj h2=>⟨Oa h2 hj,.n2 j h2 hj⟩
 rcases N7.1 hc with ⟨i,h2,hi,hs⟩|⟨i,hi,hs⟩|⟨i,hi,hs⟩
 ·obtain ⟨l,k⟩:=Aa.desc i h2 hi
  have hb:=Aa.bit h2 hi
  rcases QP.1 hs with hs|⟨_,hs⟩
  ·exact gG (kU hb) (Ms.Ki _ hb) (ND h2 hi) (Ms.n1 i h2 hi) (Dg.M5 Aa.desc x h2 hi) lf0 lf1 (one _ (by omega)) lf0 lf1 (one _ (by omega)) c hs
  ·exact gG (kV hb) (Ms.Kj _ hb) (Oa h2 hi) (Ms.n2 i h2 hi) (Dg.M5 Aa.desc y h2 hi) lf0 lf1 (two _ (by omega)) lf0 lf1 (two _ (by omega)) c hs
 ·exact VX (by omega) (Ms.t1 i hi) lf0 lf1 (one _ (Aa.D i hi)) (.inr rfl) c hs
 ·exact VX (by omega) (Ms.t2 i hi) lf0 lf1 (two _ (Aa.D i hi)) (.inr rfl) c hs
theorem WB {V:Nat→Int} {a b c:Int} (ha:hold V a=0) (hb:b=0∨hold V b<0) (hc:c=0∨hold V c<0): ¬Two V (EH a b c):=by
 have key: ∀ l,l∈EH a b c→l=a∨hold V l<0:=fun l hl=>by
  obtain ⟨h1,h2⟩:=JP.1 hl
  rcases h1 with h|h|h
  ·exact .inl h
  ·rw[h] at h2 ⊢;rcases hb with q|q
   ·exact absurd q h2
   ·exact .inr q
  ·rw[h] at h2 ⊢;rcases hc with q|q
   ·exact absurd q h2
   ·exact .inr q
 rintro (⟨l,hl,h⟩|⟨l,l',hl,hl',hne,h,h'⟩)
 ·rcases key l hl with e|e
  ·rw[e] at h;omega
  ·omega
 ·rcases key l hl with e|e
  ·rcases key l' hl' with e'|e'
   ·exact hne (e.trans e'.symm)
   ·omega
  ·omega
theorem Vn {V:Nat→Int} {g:Nat→Nat} {v node:Nat} {u:Int} (hV: ∀ j,V j=0∨V j=1∨V j= -1) (hv:0<v) (fx: ∀ c∈E8 g v node u,Two V c) (hu:u=0∨hold V u<0) (hn:2≤node→0<g node∧V (g node)≠0):V v≠0:=by
 intro h0
 have p1:hold V (v:Int)=0:=by rw[Yv];exact h0
 have p2:hold V (-(v:Int))=0:=by rw[Yw V hv,h0];rfl
 unfold E8 at fx
 split at fx
 ·exact WB p2 hu (.inl rfl) (fx _ (by simp))
 ·split at fx
  ·exact WB p1 hu (.inl rfl) (fx _ (by simp))
  ·next hn0 EC=>
   obtain ⟨g0,gn⟩:=hn (by omega)
   rcases hV (g node) with e|e|e
   ·exact gn e
   ·exact WB p1 hu (.inr (by rw[Yw V g0,e];decide)) (fx (EH v u (-(g node:Int))) (by simp))
   ·exact WB p2 hu (.inr (by rw[Yv,e];decide)) (fx (EH (-(v:Int)) u (g node:Int)) (by simp))
theorem ij {V:Nat→Int} {g:Nat→Nat} {u v lo hi:Nat} (hV: ∀ j,V j=0∨V j=1∨V j= -1) (hu:0<u) (hv:0<v) (fx: ∀ c∈G' u g v lo hi,Two V c) (su:V u≠0) (hl:2≤lo→0<g lo∧V (g lo)≠0) (hh:2≤hi→0<g hi∧V (g hi)≠0):V v≠0:=by
 rcases hV u with e|e|e
 ·exact absurd e su
 ·exact Vn hV hv (fun c hc=>fx c (List.mem_append_right _ hc)) (.inr (by rw[Yw V hu,e];decide)) hh
 ·exact Vn hV hv (fun c hc=>fx c (List.mem_append_left _ hc)) (.inr (by rw[Yv,e];decide)) hl
section
variable {V:Nat→Int} (hV: ∀ j,V j=0∨V j=1∨V j= -1) (fx: ∀ c∈DW sec nodes D,Two V c) (Aa:EI sec nodes D pos)
include hV fx Aa
theorem Zq (P:Nat→Prop) (hP: ∀ i,2≤i→i<nodes.length→P i→P (Dg.AG nodes i).lo∧P (Dg.AG nodes i).hi∧V ((b1 sec).getD (Dg.AG nodes i).bit 0)≠0): ∀ i,2≤i→i<nodes.length→P i→V (F1 sec nodes D i)≠0:=by
 intro i
 induction i using Nat.strongRecOn with
 |ind i ih=>
  intro h2 hi hp
  obtain ⟨p1,p2,p3⟩:=hP i h2 hi hp
  obtain ⟨l,k⟩:=Aa.desc i h2 hi
  exact ij hV (kU (Aa.bit h2 hi)) (ND h2 hi) (fun c hc=>fx c (N7.2 (.inl ⟨i,h2,hi,QP.2 (.inl hc)⟩))) p3 (fun q=>⟨ND q (by omega),ih _ l q (by omega) p1⟩) (fun q=>⟨ND q (by omega),ih _ k q (by omega) p2⟩)
theorem acG (h1: ∀ b,b<4*sec.length→V ((b1 sec).getD b 0)≠0) (h2: ∀ b,b<4*sec.length→V ((b2 sec).getD b 0)≠0): ∀ i,2≤i→i<nodes.length→V (F2 sec nodes D i)≠0:=by
 intro i
 induction i using Nat.strongRecOn with
 |ind i ih=>
  intro hi2 hi
  obtain ⟨l,k⟩:=Aa.desc i hi2 hi
  cases hs:(Dg.AG nodes i).sec with
  |false=>
   have e:=(Jq (sec:=sec) (D:=D) hi2 hi).2.2
   rw[hs] at e
   rw[show F2 sec nodes D i=F1 sec nodes D i from e]
   exact Zq hV fx Aa (fun _=>True) (fun j j2 hj _=>⟨trivial,trivial,h1 _ (Aa.bit j2 hj)⟩) i hi2 hi trivial
  |true=>exact ij hV (kV (Aa.bit hi2 hi)) (Oa hi2 hi) (fun c hc=>fx c (N7.2 (.inl ⟨i,hi2,hi,QP.2 (.inr ⟨hs,hc⟩)⟩))) (h2 _ (Aa.bit hi2 hi)) (fun q=>⟨Oa q (by omega),ih _ l q (by omega)⟩) (fun q=>⟨Oa q (by omega),ih _ k q (by omega)⟩)
theorem jq (h1: ∀ b,b<4*sec.length→V ((b1 sec).getD b 0)≠0) (h2: ∀ b,b<4*sec.length→V ((b2 sec).getD b 0)≠0) {x y:Nat→Bool} {v:Nat} {t:Bool} (h:Ms sec nodes D x y v t):V v≠0:=by
 have a1:=Zq hV fx Aa (fun _=>True) (fun j j2 hj _=>⟨trivial,trivial,h1 _ (Aa.bit j2 hj)⟩)
 have a2:=acG hV fx Aa h1 h2
 cases h with
 |Ki b hb=>exact h1 b hb
 |Kj b hb=>exact h2 b hb
 |t1 i hi=>exact Vn hV (by omega) (fun c hc=>fx c (N7.2 (.inr (.inl ⟨i,hi,hc⟩)))) (.inl rfl) (fun q=>⟨ND q (Aa.D i hi),a1 _ q (Aa.D i hi) trivial⟩)
 |t2 i hi=>exact Vn hV (by omega) (fun c hc=>fx c (N7.2 (.inr (.inr ⟨i,hi,hc⟩)))) (.inl rfl) (fun q=>⟨Oa q (Aa.D i hi),a2 _ q (Aa.D i hi)⟩)
 |n1 i h2 hi=>exact a1 i h2 hi trivial
 |n2 i h2 hi=>exact a2 i h2 hi
end
end
end Cl
namespace Cl
section
variable (sec:List Bool) (nodes:List Dg.Nd) (D:List Nat)
inductive L1:Nat→Prop
 |i (b:Nat) (h:b<4*sec.length) (s:sec.getD (b/4) false=true):L1 ((b1 sec).getD b 0)
 |t (i:Nat) (h:i<D.length):L1 (AK sec+1+i)
 |n (i:Nat) (h2:2≤i) (h:i<nodes.length) (s:(Dg.AG nodes i).sec=true):L1 (F1 sec nodes D i)
inductive L2:Nat→Prop
 |i (b:Nat) (h:b<4*sec.length) (s:sec.getD (b/4) false=true):L2 ((b2 sec).getD b 0)
 |t (i:Nat) (h:i<D.length):L2 (AK sec+D.length+1+i)
 |n (i:Nat) (h2:2≤i) (h:i<nodes.length) (s:(Dg.AG nodes i).sec=true):L2 (F2 sec nodes D i)
end
section
variable {sec:List Bool} {nodes:List Dg.Nd} {D:List Nat} {pos:Nat→Nat}
theorem l12 {v:Nat} (h:L1 sec nodes D v) (g:L2 sec nodes D v):False:=by
 have hv:=Jo sec
 have k3: ∀ i,2≤i→i<nodes.length→AK sec+3*D.length<F1 sec nodes D i:=fun i h2 hi=>(NA h2 hi).1
 have k4: ∀ i,2≤i→i<nodes.length→AK sec+3*D.length<F2 sec nodes D i:=fun i h2 hi=>Nat.lt_of_lt_of_le (NA h2 hi).1 (Jq h2 hi).1
 cases h with
 |i b hb s=>
  have e:=M8 sec hb
  generalize (b1 sec).getD b 0=w at g e
  cases g with
  |i c hc s2=>have:=(L6 sec hc s2).2;omega
  |t i hi=>omega
  |n i h2 hi s2=>have:=k4 i h2 hi;omega
 |t i hi=>
  generalize hw:AK sec+1+i=w at g
  cases g with
  |i c hc s2=>have:=(L6 sec hc s2).2;omega
  |t j hj=>omega
  |n j h2 hj s2=>have:=k4 j h2 hj;omega
 |n i h2 hi s=>
  have hk:=k3 i h2 hi
  generalize hw:F1 sec nodes D i=w at g hk
  cases g with
  |i c hc s2=>have:=(L6 sec hc s2).2;omega
  |t j hj=>omega
  |n j g2 hj s2=>
   have:=WY h2 hi g2 hj (.inl rfl) (.inr rfl) hw
   subst this
   have r:=(Jq (sec:=sec) (D:=D) h2 hi).2.2
   rw[s] at r
   simp at r
   omega
theorem QQ {g:Nat→Nat} {v node:Nat} {u:Int} {c:List Int} (h:c∈E8 g v node u): ∀ l∈c,l≠0∧(l.natAbs=v∨l.natAbs=u.natAbs∨(2≤node∧l.natAbs=g node)):=by
 intro l hl
 have key: ∀ a b d:Int,(a.natAbs=v)→(b=u)→(d=0∨(2≤node∧d.natAbs=g node))→l∈EH a b d→l≠0∧(l.natAbs=v∨l.natAbs=u.natAbs∨(2≤node∧l.natAbs=g node)):=fun a b d ha hb hd hm=>by
  obtain ⟨q,l0⟩:=JP.1 hm
  refine ⟨l0,?_⟩
  rcases q with rfl|rfl|rfl
  ·exact .inl ha
  ·exact .inr (.inl (by rw[hb]))
  ·rcases hd with e|e
   ·exact absurd e l0
   ·exact .inr (.inr e)
 unfold E8 at h
 split at h
 ·rw[List.mem_singleton.1 h] at hl;exact key _ _ _ (by omega) rfl (.inl rfl) hl
 ·split at h
  ·rw[List.mem_singleton.1 h] at hl;exact key _ _ _ (by omega) rfl (.inl rfl) hl
  ·next h0 h1=>
   rcases List.mem_cons.1 h with e|e
   ·rw[e] at hl;exact key _ _ _ (by omega) rfl (.inr ⟨by omega,by omega⟩) hl
   ·rw[List.mem_singleton.1 e] at hl;exact key _ _ _ (by omega) rfl (.inr ⟨by omega,by omega⟩) hl
theorem Vo {g:Nat→Nat} {u v lo hi:Nat} {c:List Int} (h:c∈G' u g v lo hi): ∀ l∈c,l≠0∧(l.natAbs=v∨l.natAbs=u∨(2≤lo∧l.natAbs=g lo)∨(2≤hi∧l.natAbs=g hi)):=by
 intro l hl
 rcases List.mem_append.1 h with h|h
 ·obtain ⟨a,b⟩:=QQ h l hl
  refine ⟨a,?_⟩
  rcases b with b|b|b
  ·exact .inl b
  ·exact .inr (.inl (by omega))
  ·exact .inr (.inr (.inl b))
 ·obtain ⟨a,b⟩:=QQ h l hl
  refine ⟨a,?_⟩
  rcases b with b|b|b
  ·exact .inl b
  ·exact .inr (.inl (by omega))
  ·exact .inr (.inr (.inr b))
theorem aae {V:Nat→Int} (hV: ∀ j,V j=0∨V j=1∨V j= -1) (fx: ∀ c∈DW sec nodes D,Two V c) (Aa:EI sec nodes D pos) (hp: ∀ b,b<4*sec.length→sec.getD (b/4) false=false→V ((b1 sec).getD b 0)≠0):
  ∀ c∈DW sec nodes D,(∀ l∈c,V l.natAbs=0→L1 sec nodes D l.natAbs)∨(∀ l∈c,V l.natAbs=0→L2 sec nodes D l.natAbs):=by
 have hns: ∀ i,2≤i→i<nodes.length→(Dg.AG nodes i).sec=false→V (F1 sec nodes D i)≠0:=Zq hV fx Aa (fun i=>(Dg.AG nodes i).sec=false) fun i h2 hi hs=>by
  have q:=Aa.sc h2 hi
  rw[hs] at q
  have q:=q.symm
  simp only[Bool.or_eq_false_iff] at q
  exact ⟨q.1.2,q.2,hp _ (Aa.bit h2 hi) q.1.1⟩
 have f1: ∀ i,2≤i→i<nodes.length→V (F1 sec nodes D i)=0→L1 sec nodes D (F1 sec nodes D i):=fun i h2 hi h0=>by
  cases hs:(Dg.AG nodes i).sec with
  |false=>exact absurd h0 (hns i h2 hi hs)
  |true=>exact .n i h2 hi hs
 have f2: ∀ i,2≤i→i<nodes.length→V (F2 sec nodes D i)=0→L2 sec nodes D (F2 sec nodes D i):=fun i h2 hi h0=>by
  cases hs:(Dg.AG nodes i).sec with
  |false=>
   have e:=(Jq (sec:=sec) (D:=D) h2 hi).2.2
   rw[hs] at e
   rw[show F2 sec nodes D i=F1 sec nodes D i from e] at h0
   exact absurd h0 (hns i h2 hi hs)
  |true=>exact .n i h2 hi hs
 have g1: ∀ b,b<4*sec.length→V ((b1 sec).getD b 0)=0→L1 sec nodes D ((b1 sec).getD b 0):=fun b hb h0=>by
  cases hs:sec.getD (b/4) false with
  |false=>exact absurd h0 (hp b hb hs)
  |true=>exact .i b hb hs
 have g2: ∀ b,b<4*sec.length→V ((b2 sec).getD b 0)=0→L2 sec nodes D ((b2 sec).getD b 0):=fun b hb h0=>by
  cases hs:sec.getD (b/4) false with
  |false=>
   rw[WK sec hb hs, ←M8 sec hb] at h0
   exact absurd h0 (hp b hb hs)
  |true=>exact .i b hb hs
 intro c hc
 rcases N7.1 hc with ⟨i,h2,hi,hs⟩|⟨i,hi,hs⟩|⟨i,hi,hs⟩
 ·obtain ⟨l,k⟩:=Aa.desc i h2 hi
  have hb:=Aa.bit h2 hi
  rcases QP.1 hs with hs|⟨_,hs⟩
  ·refine .inl fun z hz h0=>?_
   rcases (Vo hs z hz).2 with e|e|⟨q,e⟩|⟨q,e⟩
   all_goals rw[e] at h0 ⊢
   ·exact f1 i h2 hi h0
   ·exact g1 _ hb h0
   ·exact f1 _ q (by omega) h0
   ·exact f1 _ q (by omega) h0
  ·refine .inr fun z hz h0=>?_
   rcases (Vo hs z hz).2 with e|e|⟨q,e⟩|⟨q,e⟩
   all_goals rw[e] at h0 ⊢
   ·exact f2 i h2 hi h0
   ·exact g2 _ hb h0
   ·exact f2 _ q (by omega) h0
   ·exact f2 _ q (by omega) h0
 ·refine .inl fun z hz h0=>?_
  obtain ⟨z0,e|e|⟨q,e⟩⟩:=QQ hs z hz
  ·rw[e];exact .t i hi
  ·exact absurd e (by omega)
  ·rw[e] at h0 ⊢;exact f1 _ q (Aa.D i hi) h0
 ·refine .inr fun z hz h0=>?_
  obtain ⟨z0,e|e|⟨q,e⟩⟩:=QQ hs z hz
  ·rw[e];exact .t i hi
  ·exact absurd e (by omega)
  ·rw[e] at h0 ⊢;exact f2 _ q (Aa.D i hi) h0
theorem Vp (Aa:EI sec nodes D pos): ∀ c∈DW sec nodes D, ∀ l∈c,l≠0∧1≤l.natAbs∧l.natAbs≤(Bw sec nodes D.length).vars∧(l.natAbs≤AK sec+2*D.length∨AK sec+3*D.length<l.natAbs):=by
 have BU:AK sec+3*D.length≤(Bw sec nodes D.length).vars:=(OP sec nodes D).vars
 have f1: ∀ i,2≤i→i<nodes.length→F1 sec nodes D i≤(Bw sec nodes D.length).vars∧AK sec+3*D.length<F1 sec nodes D i:=fun i h2 hi=>⟨(NA h2 hi).2,(NA h2 hi).1⟩
 have f2: ∀ i,2≤i→i<nodes.length→F2 sec nodes D i≤(Bw sec nodes D.length).vars∧AK sec+3*D.length<F2 sec nodes D i:=fun i h2 hi=>⟨(Jq h2 hi).2.1,Nat.lt_of_lt_of_le (NA h2 hi).1 (Jq h2 hi).1⟩
 intro c hc z hz
 rcases N7.1 hc with ⟨i,h2,hi,hs⟩|⟨i,hi,hs⟩|⟨i,hi,hs⟩
 ·obtain ⟨l,k⟩:=Aa.desc i h2 hi
  have hb:=Aa.bit h2 hi
  rcases QP.1 hs with hs|⟨_,hs⟩
  ·obtain ⟨z0,e⟩:=Vo hs z hz
   refine ⟨z0,by omega,?_⟩
   rcases e with e|e|⟨q,e⟩|⟨q,e⟩
   ·have:=f1 i h2 hi;omega
   ·have:=aI sec (Dg.AG nodes i).bit;omega
   ·have:=f1 _ q (by omega);omega
   ·have:=f1 _ q (by omega);omega
  ·obtain ⟨z0,e⟩:=Vo hs z hz
   refine ⟨z0,by omega,?_⟩
   rcases e with e|e|⟨q,e⟩|⟨q,e⟩
   ·have:=f2 i h2 hi;omega
   ·have:=WW sec (Dg.AG nodes i).bit;omega
   ·have:=f2 _ q (by omega);omega
   ·have:=f2 _ q (by omega);omega
 ·obtain ⟨z0,e|e|⟨q,e⟩⟩:=QQ hs z hz
  ·exact ⟨z0,by omega,by omega,by omega⟩
  ·exact absurd e (by omega)
  ·have:=f1 _ q (Aa.D i hi);exact ⟨z0,by omega,by omega,by omega⟩
 ·obtain ⟨z0,e|e|⟨q,e⟩⟩:=QQ hs z hz
  ·exact ⟨z0,by omega,by omega,by omega⟩
  ·exact absurd e (by omega)
  ·have:=f2 _ q (Aa.D i hi);exact ⟨z0,by omega,by omega,by omega⟩
end
end Cl
namespace Cl
open Nz (wrds lineZ rend)
def age (nx:Nat) (b:Bt):List (List Int×List Int):=
 if b.node=0 then [([-(b.vd:Int)],[(b.c1:Int),b.c2,b.cd])]
 else if b.node=1 then [([-(b.vd:Int)],[(b.c1:Int),b.c2,(b.cd:Int)+1])]
 else [([-(b.vd:Int),b.v1],[(b.cd:Int),b.c2,(b.c1:Int)+1]),([-(b.vd:Int)],[(nx:Int),b.c1,(b.c2:Int)+1,(b.cd:Int)+1])]
def agf (nx:Nat) (r:List Int×List Int):List Int:=(nx:Int)::(r.1++0::r.2)
def adq:Nat→List (List Int×List Int)→List (List Int)
 |_,[]=>[]
 |nx,r::rs=>agf nx r::adq (nx+1) rs
def n9 (bits:List Bt) (Ei:Nat):Nat→List (List Int×List Int)
 |0=>[]
 |i+1=>n9 bits Ei i++age (D5 bits Ei i).1 (bits.getD i {})
def aln (bits:List Bt) (ct:Nat):List (List Int×List Int):=n9 bits (ct+1) bits.length++[([],(D5 bits (ct+1) bits.length).2.2++[(ct:Int)])]
def aO (C:List (List Int)) (rows:List (List Int×List Int)):Prop:= ∀ j,j<rows.length→
 aM (fun _=>0) (rows.getD j ([],[])).1∧bn ([]::C++(rows.take j).map Prod.fst) (bp (fun _=>0) (rows.getD j ([],[])).1) (rows.getD j ([],[])).2=true
theorem aO.snoc {C:List (List Int)} {rows:List (List Int×List Int)} {r:List Int×List Int} (h:aO C rows) (h1:aM (fun _=>0) r.1) (h2:bn ([]::C++rows.map Prod.fst) (bp (fun _=>0) r.1) r.2=true):aO C (rows++[r]):=by
 intro j hj
 rw[List.length_append] at hj
 by_cases c:j<rows.length
 ·have e:(rows++[r]).getD j ([],[])=rows.getD j ([],[]):=by rw[List.getD_eq_getElem?_getD,List.getElem?_append_left c, ←List.getD_eq_getElem?_getD]
  rw[e,List.take_append_of_le_length (by omega)]
  exact h j c
 ·have:j=rows.length:=by simp at hj;omega
  subst this
  have e:(rows++[r]).getD rows.length ([],[])=r:=by simp[List.getD_eq_getElem?_getD]
  rw[e,List.take_append_of_le_length (Nat.le_refl _),List.take_length]
  exact ⟨h1,h2⟩
structure alo (C:List (List Int)) (b:Bt) (n:Nat):Prop where
 p1:0<b.v1
 p2:0<b.v2
 pd:0<b.vd
 GD:b.v1≠b.v2
 n1d:b.v1≠b.vd
 n2d:b.v2≠b.vd
 z:b.node=0→([]::C).getD b.c1 []=[-(b.v1:Int)]∧([]::C).getD b.c2 []=[-(b.v2:Int)]
 o:b.node=1→([]::C).getD b.c1 []=[(b.v1:Int)]∧([]::C).getD b.c2 []=[(b.v2:Int)]
 n:2≤b.node→0<n∧n≠b.v1∧n≠b.v2∧n≠b.vd∧([]::C).getD b.c1 []=[-(b.v1:Int),(n:Int)]∧([]::C).getD (b.c1+1) []=[(b.v1:Int), -(n:Int)]∧([]::C).getD b.c2 []=[-(b.v2:Int),(n:Int)]∧([]::C).getD (b.c2+1) []=[(b.v2:Int), -(n:Int)]∧b.c1+1<C.length+1∧b.c2+1<C.length+1
 d:([]::C).getD b.cd []=[-(b.vd:Int),(b.v1:Int),(b.v2:Int)]∧([]::C).getD (b.cd+1) []=[-(b.vd:Int), -(b.v1:Int), -(b.v2:Int)]
 r1:1≤b.c1∧b.c1<C.length+1
 r2:1≤b.c2∧b.c2<C.length+1
 rd:1≤b.cd∧b.cd+1<C.length+1
theorem Rl {α:Type} {l m:List α} {d:α} {i:Nat} (h:i<l.length):(l++m).getD i d=l.getD i d:=by rw[List.getD_eq_getElem?_getD,List.getElem?_append_left h, ←List.getD_eq_getElem?_getD]
end Cl
namespace Cl
theorem xo {A P S R B:List (List Int)} {t:Nat} (ht:t<S.length):(A++(P++S++R)++B).getD (A.length+P.length+t) []=S.getD t []:=by
 rw[show A++(P++S++R)++B=(A++P)++(S++(R++B)) by simp only[List.append_assoc],List.getD_eq_getElem?_getD,List.getElem?_append_right (by simp)]
 rw[show A.length+P.length+t - (A++P).length=t by simp,List.getElem?_append_left ht, ←List.getD_eq_getElem?_getD]
theorem fF (V M:Nat) {i:Nat}: ∀ m,i<m→ ∃ R,KD V M m=KD V M i++Ju (V+2*M+1+i) (V+1+i) (V+M+1+i)++R
 |0,h=>absurd h (by omega)
 |m+1,h=>by
  by_cases c:i=m
  ·subst c;exact ⟨[],by rw[List.append_nil];rfl⟩
  ·obtain ⟨R,e⟩:=fF V M (i:=i) m (by omega)
   exact ⟨R++Ju (V+2*M+1+m) (V+1+m) (V+M+1+m),by show KD V M m++_=_;rw[e,List.append_assoc]⟩
section
variable {sec:List Bool} {nodes:List Dg.Nd} {D:List Nat} {pos:Nat→Nat}
theorem acH (Aa:EI sec nodes D pos) {i:Nat} (hi:i≤D.length):(DK sec nodes D i).1=(Ff nodes (b1 sec) (b2 sec) (F1 sec nodes D) (F2 sec nodes D) nodes.length).length+(IY (F1 sec nodes D) (AK sec) D i).length:=by
 obtain ⟨_,a2⟩:=dx nodes (b1 sec) (b2 sec) ⟨AK sec+3*D.length,0,fun _=>0,fun _=>0,[]⟩ Aa.desc nodes.length (Nat.le_refl _)
 have a2:(Bw sec nodes D.length).ct=(Ff nodes (b1 sec) (b2 sec) (F1 sec nodes D) (F2 sec nodes D) nodes.length).length:=by have:=a2;simp only[Nat.zero_add] at this;exact this
 obtain ⟨_,c2⟩:=SD (n1 sec nodes D.length) (AK sec) D (Bw sec nodes D.length).ct i
 have g1:=Rx (g:=fun j=>(n1 sec nodes D.length).getD j 0) (h:=F1 sec nodes D) (V:=AK sec) Aa.D (fun j hj=>OM _ _ j hj) i hi
 rw[g1] at c2
 refine Eq.trans (show (DK sec nodes D i).1=_ from c2) ?_
 rw[a2]
theorem kW (Aa:EI sec nodes D pos) {i:Nat} (hi:i≤D.length):(EB sec nodes D i).1=(Ff nodes (b1 sec) (b2 sec) (F1 sec nodes D) (F2 sec nodes D) nodes.length++IY (F1 sec nodes D) (AK sec) D D.length).length+(IY (F2 sec nodes D) (AK sec+D.length) D i).length:=by
 obtain ⟨_,c2⟩:=SD (n2 sec nodes D.length) (AK sec+D.length) D (DK sec nodes D D.length).1 i
 have g2:=Rx (g:=fun j=>(n2 sec nodes D.length).getD j 0) (h:=F2 sec nodes D) (V:=AK sec+D.length) Aa.D (fun j hj=>OM _ _ j hj) i hi
 rw[g2] at c2
 refine Eq.trans (show (EB sec nodes D i).1=_ from c2) ?_
 rw[acH Aa (Nat.le_refl _),List.length_append]
theorem aaj (Aa:EI sec nodes D pos) {i t:Nat} (hi:i<D.length) (ht:t<4):(Dp sec nodes D).getD ((EB sec nodes D D.length).1+4*i+t) []=(Ju (AK sec+2*D.length+1+i) (AK sec+1+i) (AK sec+D.length+1+i)).getD t []∧(EB sec nodes D D.length).1+4*i+t<(Dp sec nodes D).length:=by
 obtain ⟨R,e⟩:=fF (AK sec) D.length D.length hi
 have hl:=(VW (AK sec) D.length i).2
 have ha:(EB sec nodes D D.length).1=(DW sec nodes D).length:=by
  rw[kW Aa (Nat.le_refl _)];unfold DW;simp only[List.length_append]
 rw[ha, ←hl]
 unfold Dp
 rw[e]
 exact ⟨xo (A:=DW sec nodes D) (P:=KD (AK sec) D.length i) (R:=R) (B:=[Oe (AK sec) D.length]) (by exact ht),by simp only[List.length_append,show (Ju (AK sec+2*D.length+1+i) (AK sec+1+i) (AK sec+D.length+1+i)).length=4 from rfl];omega⟩
theorem xp:(Dp sec nodes D).getD ((Dp sec nodes D).length - 1) []=Oe (AK sec) D.length∧1≤(Dp sec nodes D).length:=by
 unfold Dp
 rw[List.length_append]
 exact ⟨by simp[List.getD_eq_getElem?_getD],Nat.le_add_left _ _⟩
end
section
variable {sec:List Bool} {nodes:List Dg.Nd} {D:List Nat} {pos:Nat→Nat}
end
end Cl
end Go.Proofs.YtgddmpmcnjlcjaaGreatDoor
