import Derived.Test.YtgddmpmcnjlcjaaGreatDoorB27
import Derived.Test.YtgddmpmcnjlcjaaGreatDoorB26
import Derived.Test.YtgddmpmcnjlcjaaGreatDoorK02
import Derived.Test.YtgddmpmcnjlcjaaGreatDoorB28
import Derived.Test.YtgddmpmcnjlcjaaGreatDoorB31
import Derived.Test.YtgddmpmcnjlcjaaGreatDoorB16
import Derived.Test.YtgddmpmcnjlcjaaGreatDoorB40
import Derived.Deep.QuietTactic
import Derived.BigQuiet
import Derived.Test.YtgddmpmcnjlcjaaGreatDoorB15
import Derived.Test.YtgddmpmcnjlcjaaGreatDoorB01
set_option maxRecDepth 100000
set_option maxHeartbeats 1000000
namespace Go.Proofs.YtgddmpmcnjlcjaaGreatDoor
set_option linter.unusedVariables false
namespace Pr
structure MM (p:Pg) (k:Nat) (a:Fd) (Q:Nat→Nat→Prop):Prop where
 le:a.al≤k
 no:a.fi=none→a.al=k
 so: ∀ i j,a.fi=some (i,j)→i<rows p.sec false∧j<rows p.sec true∧a.al<k∧run p i 0 a.al≠run p i j a.al
 all: ∀ i j,Q i j→ ∀ t,t<a.al→run p i 0 t=run p i j t
theorem MM.look {p:Pg} {k:Nat} {a:Fd} {Q:Nat→Nat→Prop} (h:MM p k a Q) {i j:Nat} (hi:i<rows p.sec false) (hj:j<rows p.sec true):MM p k (look p i a j) (fun x y=>Q x y∨(x=i∧y=j)):=by
 unfold Pr.look
 split
 ·rename_i hlt
  have ha:=h.le
  refine ⟨by show Fs _ _ _≤k;omega,fun h=>(by cases h),?_,?_⟩
  ·intro x y e
   cases e
   exact ⟨hi,hj,by show Fs _ _ _<k;omega,kQ _ _ _ hlt⟩
  ·intro x y hq t ht
   have ht':t<Fs (run p i 0) (run p i j) a.al:=ht
   rcases hq with hq|⟨rfl,rfl⟩
   ·exact h.all x y hq t (by omega)
   ·exact Zi _ _ _ t ht'
 ·rename_i hlt
  refine ⟨h.le,h.no,h.so,?_⟩
  intro x y hq t ht
  rcases hq with hq|⟨rfl,rfl⟩
  ·exact h.all x y hq t ht
  ·exact Zi _ _ a.al t (by have:=Sa (run p x 0) (run p x y) a.al;omega)
theorem MM.imp {p:Pg} {k:Nat} {a:Fd} {Q R:Nat→Nat→Prop} (h:MM p k a Q) (hi: ∀ i j,R i j→Q i j):MM p k a R:=⟨h.le,h.no,h.so,fun i j hq=>h.all i j (hi i j hq)⟩
theorem MM.row {p:Pg} {k:Nat} {a:Fd} {Q:Nat→Nat→Prop} (h:MM p k a Q) {i:Nat} (hi:i<rows p.sec false) (n:Nat) (hn:n<rows p.sec true):MM p k (E9 p i a n) (fun x y=>Q x y∨(x=i∧1≤y∧y≤n)):=by
 induction n with
 |zero=>exact h.imp (fun x y q=>by rcases q with q|⟨_,q1,q2⟩ <;> first|exact q|omega)
 |succ n ih=>
  refine ((ih (by omega)).look hi hn).imp ?_
  intro x y q
  rcases q with q|⟨rfl,q1,q2⟩
  ·exact .inl (.inl q)
  ·by_cases e:y=n+1
   ·exact .inr ⟨rfl,e⟩
   ·exact .inl (.inr ⟨rfl,q1,by omega⟩)
end Pr
namespace Pr
def nA:List Bool→Nat→Nat→List Nat
 |[],_,_=>[]
 |true::bs,p,s=>s%16::nA bs p (s/16)
 |false::bs,p,s=>p%16::nA bs (p/16) s
def lS:List Bool→Bool→Nat
 |[],_=>1
 |b::bs,s=>if b=s then 16*lS bs s else lS bs s
end Pr
namespace Pr
def dg:Nat→Nat→List Nat
 |0,_=>[]
 |n+1,x=>x%16::dg n (x/16)
def zr:List Bool→List Nat→List Nat
 |b::bs,v::vs=>(if b=true then 0 else v)::zr bs vs
 |_,_=>[]
def anyS:List Bool→List Nat→Bool
 |b::bs,v::vs=>(b && decide (0<v))||anyS bs vs
 |_,_=>false
abbrev tl (p:Pg) (k:Nat) (vs:List Nat):List Nat:=Mc.tells p (Mc.BZ vs) k
end Pr
namespace Dg
theorem ik (n:Nat): ∀ p q i,q<p→i<n→(Ht n p).getD (q*n+i) 0=i*4+q:=by
 intro p
 induction p with
 |zero=>intro q i h;exact absurd h (by omega)
 |succ p ih=>
  intro q i hq hi
  have hl:=Yf n p
  show (Ht n p++(List.range n).map fun i=>i*4+p).getD (q*n+i) 0=_
  by_cases c:q<p
  ·have hlt:q*n+i<(Ht n p).length:=by
    rw[hl]
    have:(q+1)*n≤p*n:=Nat.mul_le_mul_right n c
    rw[Nat.succ_mul] at this
    rw[Nat.mul_comm n p]
    omega
   rw[List.getD_eq_getElem?_getD,List.getElem?_append_left hlt, ←List.getD_eq_getElem?_getD]
   exact ih q i c hi
  ·have:q=p:=by omega
   subst this
   rw[List.getD_eq_getElem?_getD,List.getElem?_append_right (by rw[hl,Nat.mul_comm];omega),hl,Nat.mul_comm n q,Nat.add_sub_cancel_left]
   simp[hi]
def pos (n b:Nat):Nat:=(b%4)*n+b/4
theorem xt (n l:Nat) (h:l<4*n):(order n).getD l 0=l%n*4+l/n∧l%n<n∧l/n<4:=by
 have hn:0<n:=by omega
 have h1:=Nat.mod_lt l hn
 have h2:l/n<4:=Nat.div_lt_of_lt_mul (by rw[Nat.mul_comm];exact h)
 have h3:=ik n 4 (l/n) (l%n) h2 h1
 rw[show l/n*n+l%n=l by rw[Nat.mul_comm];exact Nat.div_add_mod l n] at h3
 exact ⟨h3,h1,h2⟩
theorem tV (n l:Nat) (h:l<(order n).length):pos n ((order n).getD l 0)=l:=by
 rw[VN] at h
 obtain ⟨e,h1,h2⟩:=xt n l (by omega)
 rw[e]
 unfold pos
 have d:=Nat.div_add_mod l n
 generalize l/n=q at h2 d ⊢
 generalize l%n=r at h1 d ⊢
 rw[show (r*4+q)%4=q by omega,show (r*4+q)/4=r by omega,Nat.mul_comm]
 exact d
theorem aak (n a b:Nat) (ha:a<4*n) (hb:b<4*n) (h:pos n a=pos n b):a=b:=by
 unfold pos at h
 have h1:a/4<n:=by omega
 have h2:b/4<n:=by omega
 have e: ∀ q r,r<n→(q*n+r)/n=q∧(q*n+r)%n=r:=fun q r hr=>⟨by rw[Nat.mul_comm,Nat.mul_add_div (by omega),Nat.div_eq_of_lt hr,Nat.add_zero],by rw[Nat.mul_comm,Nat.mul_add_mod,Nat.mod_eq_of_lt hr]⟩
 have a1:=e (a%4) (a/4) h1
 have b1:=e (b%4) (b/4) h2
 rw[h] at a1
 omega
theorem oI (n b:Nat) (h:b<4*n):(order n).getD (pos n b) 0=b∧pos n b<(order n).length:=by
 have h1:b/4<n:=by omega
 have h3:=ik n 4 (b%4) (b/4) (Nat.mod_lt _ (by omega)) h1
 refine ⟨by unfold pos;rw[show (order n)=Ht n 4 from rfl,h3];omega,?_⟩
 rw[VN]
 unfold pos
 have:b%4*n≤3*n:=Nat.mul_le_mul_right n (by omega)
 omega
theorem lT (bits:List Nat) (x:Nat→Bool): ∀ N j,ix bits x N j=2 ^ N*j+ix bits x N 0∧ix bits x N 0<2 ^ N:=by
 intro N
 induction N with
 |zero=>intro j;exact ⟨by show j=2 ^ 0*j+0;omega,by show 0<1;omega⟩
 |succ N ih=>
  intro j
  have key: ∀ j,ix bits x (N+1) j=2 ^ N*(if x (bits.getD N 0) then 2*j+1 else 2*j)+ix bits x N 0:=fun j=>(ih _).1
  have h0:=(ih 0).2
  have k0:=key 0
  have kj:=key j
  refine ⟨?_,?_⟩
  ·rw[kj,k0,Nat.pow_succ]
   split
   ·rw[Nat.mul_add, ←Nat.mul_assoc];omega
   ·rw[←Nat.mul_assoc];omega
  ·rw[k0,Nat.pow_succ]
   split <;> omega
theorem kX (bits:List Nat) (x:Nat→Bool): ∀ N L,L<N→(ix bits x N 0).testBit L=x (bits.getD L 0):=by
 intro N
 induction N with
 |zero=>intro L h;exact absurd h (by omega)
 |succ N ih=>
  intro L hL
  have e:ix bits x (N+1) 0=2 ^ N*(if x (bits.getD N 0) then 1 else 0)+ix bits x N 0:=by
   refine ((lT bits x N (if x (bits.getD N 0) then 2*0+1 else 2*0)).1).trans ?_
   congr 2
  rw[e,Nat.testBit_two_pow_mul_add _ (lT bits x N 0).2]
  by_cases c:L<N
  ·rw[if_pos c];exact ih L c
  ·have:L=N:=by omega
   subst this
   rw[if_neg c,Nat.sub_self]
   cases x (bits.getD L 0) <;> rfl
theorem tj (v L:Nat):v >>> L &&& 1=(v.testBit L).toNat:=by
 rw[Nat.testBit,Nat.and_comm 1]
 have:v >>> L &&& 1=0∨v >>> L &&& 1=1:=by
  have:v >>> L &&& 1≤1:=Nat.and_le_right
  omega
 rcases this with h|h <;> rw[h] <;> rfl
end Dg
namespace Ck
theorem M6 {p:Pg} (ok:Ep p) (k:Nat):Dg.Ok p.sec.length (2 ^ (Dg.order p.sec.length).length) (Dg.Aa p k (7*k)).1∧Dg.Uq p.sec (2 ^ (Dg.order p.sec.length).length) (Dg.pos p.sec.length) (Dg.Aa p k (7*k)).1∧(told p k).length=7*k∧ ∀ j,j<7*k→(told p k).getD j 0<(nodes p k).length∧ ∀ x,Dg.vl (nodes p k) x ((told p k).getD j 0)=(Dg.Fa (Dg.told p (Dg.order p.sec.length) k) (j/7) (j%7) (Dg.ix (Dg.order p.sec.length) x (Dg.order p.sec.length).length 0)==1):=
 Dg.aaW (sec:=p.sec) (n:=p.sec.length) (pos:=Dg.pos p.sec.length) (fun l hl=>Dg.tV _ l hl) (Dg.Yg _) rfl (Dg.told p (Dg.order p.sec.length) k) (7*k)
theorem OQ {p:Pg} (ok:Ep p) (k:Nat):Cl.EI p.sec (nodes p k) (told p k) (Dg.pos p.sec.length):=by
 obtain ⟨h1,h2,h3,h4⟩:=M6 ok k
 exact ⟨⟨_,rfl,_,h1,h2⟩,Dg.aak _,fun i hi=>(h4 i (by omega)).1⟩
theorem jr {p:Pg} (ok:Ep p) (k:Nat) (hk:k≤10):(fm p k).ct≤3500000∧(fm p k).vars≤900000∧(fm p k).bs.length≤300000000:=by
 obtain ⟨h1,h2,h3,h4⟩:=Zk ok k hk
 have hv:=Cl.Jo p.sec
 have hs:=ok.sec
 have hn:=Cl.Zh p.sec (nodes p k) (told p k).length hs (by omega) h4 (nodes p k).length h4
 have hb:=jb ok k hk
 have hct:(Cl.Bw p.sec (nodes p k) (told p k).length).ct≤8*400000:=by
  have key: ∀ (nodes:List Dg.Nd) (b1 b2:List Nat) (x:Cl.Ns) (i:Nat),(Cl.BG nodes b1 b2 x i).ct≤x.ct+8*i:=by
   intro nodes b1 b2 x i
   induction i with
   |zero=>exact Nat.le_refl _
   |succ i ih=>
    unfold Cl.BG
    split
    ·omega
    ·show (Cl.two _ _ _ (Cl.one _ _ _ _ _)).ct≤_
     have s: ∀ n,Bd n≤2:=fun n=>by unfold Bd;split <;> omega
     have a1:(Cl.one nodes.length b1 (Dg.AG nodes i) i (Cl.BG nodes b1 b2 x i)).ct≤(Cl.BG nodes b1 b2 x i).ct+4:=by
      show (Cl.BG nodes b1 b2 x i).ct+(Bd _+Bd _)≤_
      have:=s (Dg.AG nodes i).lo
      have:=s (Dg.AG nodes i).hi
      omega
     have a2: ∀ y:Cl.Ns,(Cl.two nodes.length b2 (Dg.AG nodes i) y).ct≤y.ct+4:=fun y=>by
      unfold Cl.two
      split
      ·show y.ct+(Bd _+Bd _)≤_
       have:=s (Dg.AG nodes i).lo
       have:=s (Dg.AG nodes i).hi
       omega
      ·omega
     have:=a2 (Cl.one nodes.length b1 (Dg.AG nodes i) i (Cl.BG nodes b1 b2 x i))
     omega
  have:=key (nodes p k) (Cl.b1 p.sec) (Cl.b2 p.sec) ⟨Cl.AK p.sec+3*(told p k).length,0,fun _=>0,fun _=>0,[]⟩ (nodes p k).length
  show (Cl.BG _ _ _ _ _).ct≤_
  have e0:(⟨Cl.AK p.sec+3*(told p k).length,0,fun _=>0,fun _=>0,[]⟩:Cl.Ns).ct=0:=rfl
  omega
 have XF: ∀ j,(Cl.n1 p.sec (nodes p k) (told p k).length).getD j 0≤1000000000:=Cl.L4 _ _ _ fun i=>Nat.le_trans (hn.f1 i) (by have:=hn.vars;omega)
 have dD: ∀ j,(Cl.n2 p.sec (nodes p k) (told p k).length).getD j 0≤1000000000:=Cl.L4 _ _ _ fun i=>Nat.le_trans (hn.f2 i) (by have:=hn.vars;omega)
 refine ⟨?_,?_,?_⟩
 ·have a1:=Cl.Vw (Cl.n1 p.sec (nodes p k) (told p k).length) (Cl.AK p.sec) (told p k) (Cl.Bw p.sec (nodes p k) (told p k).length).ct (told p k).length
  have a2:=Cl.Vw (Cl.n2 p.sec (nodes p k) (told p k).length) (Cl.AK p.sec+(told p k).length) (told p k) (Cl.DK p.sec (nodes p k) (told p k) (told p k).length).1 (told p k).length
  show (Cl.JU (Cl.n2 p.sec (nodes p k) (told p k).length) (Cl.AK p.sec+(told p k).length) (told p k) (Cl.DK p.sec (nodes p k) (told p k) (told p k).length).1 (told p k).length).1+4*(told p k).length+1≤_
  have a1:(Cl.DK p.sec (nodes p k) (told p k) (told p k).length).1≤_:=a1
  omega
 ·show (Cl.Bw p.sec (nodes p k) (told p k).length).vars≤_
  have:=hn.vars
  show (Cl.BG _ _ _ _ _).vars≤_
  omega
 ·have b1:=hn.bs
  have b2:=Cl.Vj (Cl.n1 p.sec (nodes p k) (told p k).length) (Cl.AK p.sec) (told p k) (Cl.Bw p.sec (nodes p k) (told p k).length).ct (told p k).length XF (by omega)
  have b3:=Cl.Vj (Cl.n2 p.sec (nodes p k) (told p k).length) (Cl.AK p.sec+(told p k).length) (told p k) (Cl.DK p.sec (nodes p k) (told p k) (told p k).length).1 (told p k).length dD (by omega)
  have b4:=Cl.iC (Cl.AK p.sec) (told p k).length (told p k).length (by omega)
  have b5:=fe (BD (Cl.AK p.sec+2*(told p k).length) (told p k).length) (fun i=>Nat.le_trans (Cl.S8 _ _ _) (by omega)) (told p k).length
  show ((Cl.Bw p.sec (nodes p k) (told p k).length).bs++(Cl.DK p.sec (nodes p k) (told p k) (told p k).length).2++(Cl.EB p.sec (nodes p k) (told p k) (told p k).length).2++Cl.Iy (Cl.AK p.sec) (told p k).length (told p k).length++Gn (BD (Cl.AK p.sec+2*(told p k).length) (told p k).length) (told p k).length++[48,10]).length≤_
  have b1:(Cl.Bw p.sec (nodes p k) (told p k).length).bs.length≤_:=b1
  have b2:(Cl.DK p.sec (nodes p k) (told p k) (told p k).length).2.length≤_:=b2
  have b3:(Cl.EB p.sec (nodes p k) (told p k) (told p k).length).2.length≤_:=b3
  simp only[List.length_append,List.length_cons,List.length_nil]
  omega
end Ck
end Go.Proofs.YtgddmpmcnjlcjaaGreatDoor
namespace Go.Proofs.YtgddmpmcnjlcjaaGreatDoor.Tm
open Lk (Wd wd num?)
set_option linter.unusedVariables false
def words:Rf.Tr→List Wd
 | .node w _ _=>w
def body:Rf.Tr→List Rf.Tr
 | .node _ b _=>b
def other:Rf.Tr→List Rf.Tr
 | .node _ _ o=>o
structure M where
 vals:Nat→Nat:=fun _=>0
 AR:Nat→Nat→Nat:=fun _ _=>0
 at_:List (List Rf.Tr×Nat):=[]
 bad:Bool:=false
def idx (ds:List Rf.Dc) (w:Wd):Nat:=(Rf.oneOf w (ds.map Rf.Dc.name)).getD 0
def value (ds:List Rf.Dc) (m:M) (w:Wd):Nat:=
 match num? w with
 |some n=>n
 |none=>m.vals (idx ds w)
def pop:List (List Rf.Tr×Nat)→List (List Rf.Tr×Nat)
 |[]=>[]
 |(l,i)::r=>if i<l.length then (l,i)::r else pop r
def size (ds:List Rf.Dc) (a:Nat):Nat:=(ds.map Rf.Dc.size).getD a 0
def plain (ds:List Rf.Dc) (w:List Wd) (m:M):Nat×M:=
 if wd w 0=Rf.wOut then (48+value ds m (wd w 1),m)
 else if wd w 0=Rf.wLoad then
  (if value ds m (wd w 3)<size ds (idx ds (wd w 2)) then (32+value ds m (wd w 3),{ m with vals:=Lk.upd m.vals (idx ds (wd w 1)) (m.AR (idx ds (wd w 2)) (value ds m (wd w 3))) })
   else (32+value ds m (wd w 3),{ m with bad:=true }))
 else if wd w 0=Rf.wStore then
  (if value ds m (wd w 2)<size ds (idx ds (wd w 1)) then (32+value ds m (wd w 2),{ m with AR:=Lk.upd m.AR (idx ds (wd w 1)) (Lk.upd (m.AR (idx ds (wd w 1))) (value ds m (wd w 2)) (value ds m (wd w 3))) })
   else (32+value ds m (wd w 2),{ m with bad:=true }))
 else
  (0,{ m with vals:=Lk.upd m.vals (idx ds (wd w 0)) (if w.length=5 then Mc.apply ((Lk.oper? (wd w 3)).getD 0) (value ds m (wd w 2)) (value ds m (wd w 4)) else value ds m (wd w 2)) })
def step (ds:List Rf.Dc) (m:M):Nat×M:=
 if m.bad=true then (80,m)
 else
  match pop m.at_ with
  |[]=>(64,{ m with at_:=[] })
  |(l,i)::r=>
   let s:=l.getD i (.node [] [] [])
   let w:=words s
   if wd w 0=Rf.wIf∨wd w 0=Rf.wWhile then
    let v:=value ds m (wd w 1)
    let r':=if wd w 0=Rf.wIf∨v=0 then (l,i+1)::r else (l,i)::r
    if v=0 then (16,{ m with at_:=(other s,0)::r' }) else (17,{ m with at_:=(body s,0)::r' })
   else plain ds w { m with at_:=(l,i+1)::r }
def st (ds:List Rf.Dc) (m:M):Nat→M
 |0=>m
 |n+1=>(step ds (st ds m n)).2
def num (ds:List Rf.Dc) (m:M) (n:Nat):Nat:=(step ds (st ds m n)).1
def Bc (d:Rf.Dc):Bool:=d.kind==Rf.wSecret||d.kind==Rf.wPublic
def BZ:List Rf.Dc→Nat→List Nat→Nat→Nat
 |[],_,_,_=>0
 |d::ds,k,ins,j=>if Bc d=true then (if j=k then ins.headD 0 else BZ ds (k+1) ins.tail j) else (if j=k then 0 else BZ ds (k+1) ins j)
def start (ds:List Rf.Dc) (b:List Rf.Tr) (ins:List Nat):M:={ vals:=BZ ds 0 ins,at_:=[(b,0)] }
inductive Lay (C:Lk.St→List Wd→Prop) (B:List Lk.St):Nat→List Rf.Tr→Nat→Prop
 |nil (p:Nat):Lay C B p [] p
 |plain {p q:Nat} {w:List Wd} {ts:List Rf.Tr} (hc:C (Lk.bodyAt B p) w) (hk:(Lk.bodyAt B p).kind<4) (hp:p<B.length) (hn:(Lk.bodyAt B p).next=p+1) (hw: ¬(wd w 0=Rf.wIf∨wd w 0=Rf.wWhile)) (h:Lay C B (p+1) ts q):Lay C B p (.node w [] []::ts) q
 |LF {p q1 q:Nat} {w:List Wd} {b ts:List Rf.Tr} (hc:C (Lk.bodyAt B p) w) (hk:(Lk.bodyAt B p).kind=4) (hp:p<B.length) (hw:wd w 0=Rf.wIf) (hn:(Lk.bodyAt B p).next=p+1) (hb:Lay C B (p+1) b q1) (hq:q1<B.length) (hm:(Lk.bodyAt B q1).kind=6) (Ct:(Lk.bodyAt B q1).next=q1+1) (he:(Lk.bodyAt B p).els=q1+1) (h:Lay C B (q1+1) ts q):Lay C B p (.node w b []::ts) q
 |LG {p q1 q2 q:Nat} {w:List Wd} {b o ts:List Rf.Tr} (hc:C (Lk.bodyAt B p) w) (hk:(Lk.bodyAt B p).kind=4) (hp:p<B.length) (hw:wd w 0=Rf.wIf) (hn:(Lk.bodyAt B p).next=p+1) (hb:Lay C B (p+1) b q1) (hq:q1<B.length) (hm:(Lk.bodyAt B q1).kind=6) (he:(Lk.bodyAt B p).els=q1+1) (ho:Lay C B (q1+1) o q2) (ED:q2<B.length) (hm2:(Lk.bodyAt B q2).kind=6) (Ct:(Lk.bodyAt B q1).next=q2+1) (LO:(Lk.bodyAt B q2).next=q2+1) (h:Lay C B (q2+1) ts q):Lay C B p (.node w b o::ts) q
 |loop {p q1 q:Nat} {w:List Wd} {b ts:List Rf.Tr} (hc:C (Lk.bodyAt B p) w) (hk:(Lk.bodyAt B p).kind=5) (hp:p<B.length) (hw:wd w 0=Rf.wWhile) (hn:(Lk.bodyAt B p).next=p+1) (hb:Lay C B (p+1) b q1) (hq:q1<B.length) (hm:(Lk.bodyAt B q1).kind=6) (Ct:(Lk.bodyAt B q1).next=p) (he:(Lk.bodyAt B p).els=q1+1) (h:Lay C B (q1+1) ts q):Lay C B p (.node w b []::ts) q
def At (C:Lk.St→List Wd→Prop) (B:List Lk.St):Nat→List (List Rf.Tr×Nat)→Nat→Prop
 |p,[],q=>p=B.length∧q=B.length
 |p,(l,i)::r,q=>(l.length≤i∧At C B p r q)∨(r=[]∧Lay C B p (l.drop i) q∧q=B.length)∨(Lay C B p (l.drop i) q∧q<B.length∧(Lk.bodyAt B q).kind=6∧ ∃ q',q<q'∧At C B (Lk.bodyAt B q).next r q')
variable {C:Lk.St→List Wd→Prop} {B:List Lk.St}
theorem Lay.le {p q:Nat} {ts:List Rf.Tr} (h:Lay C B p ts q):p≤q:=by
 induction h with
 |nil p=>exact Nat.le_refl _
 |plain hc hk hp hn hw h ih=>omega
 |LF hc hk hp hw hn hb hq hm Ct he h ihb ih=>omega
 |LG hc hk hp hw hn hb hq hm he ho ED hm2 Ct LO h ihb Ur ih=>omega
 |loop hc hk hp hw hn hb hq hm Ct he h ihb ih=>omega
theorem Lay.head {p q:Nat} {t:Rf.Tr} {ts:List Rf.Tr} (h:Lay C B p (t::ts) q):p<B.length∧(Lk.bodyAt B p).kind≤5:=by
 cases h with
 |plain hc hk hp hn hw h=>exact ⟨hp,by omega⟩
 |LF hc hk hp hw hn hb hq hm Ct he h=>exact ⟨hp,by omega⟩
 |LG hc hk hp hw hn hb hq hm he ho ED hm2 Ct LO h=>exact ⟨hp,by omega⟩
 |loop hc hk hp hw hn hb hq hm Ct he h=>exact ⟨hp,by omega⟩
theorem Lay.empty {p q:Nat} (h:Lay C B p [] q):q=p:=by
 cases h;rfl
theorem Z0 (n:Nat):Lk.pass B n B.length=B.length:=by
 cases n with
 |zero=>rfl
 |succ n=>unfold Lk.pass;rw[if_neg (by omega)]
theorem gH (n p:Nat) (h:(Lk.bodyAt B p).kind≤5):Lk.pass B n p=p:=by
 cases n with
 |zero=>rfl
 |succ n=>unfold Lk.pass;rw[if_neg (by omega)]
theorem tz (n p:Nat) (hp:p<B.length) (h:(Lk.bodyAt B p).kind=6):Lk.pass B (n+1) p=Lk.pass B n (Lk.bodyAt B p).next:=by
 conv=>lhs;unfold Lk.pass
 rw[if_pos ⟨hp,h⟩]
theorem xu (r:List (List Rf.Tr×Nat)) (p q n:Nat) (h:At C B p r q) (hn:B.length≤n+q): ∃ q',At C B (Lk.pass B n p) (pop r) q':=by
 induction r generalizing p q n with
 |nil=>
  have e:p=B.length:=h.1
  subst e
  rw[Z0]
  exact ⟨_,h⟩
 |cons x r ih=>
  obtain ⟨l,i⟩:=x
  by_cases hi:i<l.length
  ·have e:pop ((l,i)::r)=(l,i)::r:=by unfold pop;rw[if_pos hi]
   have hl:Lay C B p (l.drop i) q:=by
    rcases h with ⟨h,_⟩|⟨_,h,_⟩|⟨h,_⟩
    ·omega
    ·exact h
    ·exact h
   rw[List.drop_eq_getElem_cons hi] at hl
   rw[e,gH n p hl.head.2]
   exact ⟨q,h⟩
  ·have e:pop ((l,i)::r)=pop r:=by
    conv=>lhs;unfold pop
    rw[if_neg hi]
   have hd:l.drop i=[]:=List.drop_of_length_le (by omega)
   rw[e]
   rcases h with ⟨_,h⟩|⟨hr,h1,h2⟩|⟨h1,h2,h3,q',h4,h5⟩
   ·exact ih p q n h hn
   ·subst hr
    rw[hd] at h1
    have:=h1.empty
    have hp:p=B.length:=by omega
    subst hp
    rw[Z0]
    exact ⟨B.length,rfl,rfl⟩
   ·rw[hd] at h1
    have Qv:=h1.empty
    subst Qv
    cases n with
    |zero=>omega
    |succ n=>
     rw[tz n q h2 h3]
     exact ih _ q' n h5 (by omega)
theorem At.here {p q:Nat} {l:List Rf.Tr} {i:Nat} {r:List (List Rf.Tr×Nat)} (h:At C B p ((l,i)::r) q) (hi:i<l.length):Lay C B p (l[i]::l.drop (i+1)) q∧(∀ p',Lay C B p' (l.drop (i+1)) q→At C B p' ((l,i+1)::r) q)∧At C B p ((l,i)::r) q:=by
 refine ⟨?_,?_,h⟩
 ·rw[←List.drop_eq_getElem_cons hi]
  rcases h with ⟨h,_⟩|⟨_,h,_⟩|⟨h,_⟩
  ·omega
  ·exact h
  ·exact h
 ·intro p' hl
  rcases h with ⟨h,_⟩|⟨hr,_,hq⟩|⟨_,hq,hk,hx⟩
  ·omega
  ·exact .inr (.inl ⟨hr,hl,hq⟩)
  ·exact .inr (.inr ⟨hl,hq,hk,hx⟩)
theorem At.plain {p q:Nat} {l:List Rf.Tr} {i:Nat} {r:List (List Rf.Tr×Nat)} (h:At C B p ((l,i)::r) q) (hi:i<l.length) (hw: ¬(wd (words l[i]) 0=Rf.wIf∨wd (words l[i]) 0=Rf.wWhile)):C (Lk.bodyAt B p) (words l[i])∧(Lk.bodyAt B p).kind<4∧At C B (Lk.bodyAt B p).next ((l,i+1)::r) q:=by
 obtain ⟨h1,h2,_⟩:=h.here hi
 generalize l[i]=t at h1 hw
 cases h1 with
 |plain hc hk hp hn _ h=>exact ⟨hc,hk,by rw[hn];exact h2 _ h⟩
 |LF hc hk hp hw' hn hb hq hm Ct he h=>exact absurd (.inl hw') hw
 |LG hc hk hp hw' hn hb hq hm he ho ED hm2 Ct LO h=>exact absurd (.inl hw') hw
 |loop hc hk hp hw' hn hb hq hm Ct he h=>exact absurd (.inr hw') hw
theorem WL:Rf.wIf≠Rf.wWhile:=by decide
theorem At.cond {p q:Nat} {l:List Rf.Tr} {i:Nat} {r:List (List Rf.Tr×Nat)} (h:At C B p ((l,i)::r) q) (hi:i<l.length) (hw:wd (words l[i]) 0=Rf.wIf):
  C (Lk.bodyAt B p) (words l[i])∧(Lk.bodyAt B p).kind=4∧(∃ q',At C B (Lk.bodyAt B p).next ((body l[i],0)::(l,i+1)::r) q')∧ ∃ q',At C B (Lk.bodyAt B p).els ((other l[i],0)::(l,i+1)::r) q':=by
 obtain ⟨h1,h2,_⟩:=h.here hi
 generalize l[i]=t at h1 hw
 cases h1 with
 |plain hc hk hp hn hw' h=>exact absurd (.inl hw) hw'
 |loop hc hk hp hw' hn hb hq hm Ct he h=>exact absurd (hw.symm.trans hw') WL
 |LF hc hk hp hw' hn hb hq hm Ct he h=>
  have hle:=h.le
  exact ⟨hc,hk,⟨_,by rw[hn];exact .inr (.inr ⟨hb,hq,hm,q,by omega,by rw[Ct];exact h2 _ h⟩)⟩,⟨q,by rw[he];exact .inl ⟨Nat.zero_le _,h2 _ h⟩⟩⟩
 |LG hc hk hp hw' hn hb hq hm he ho ED hm2 Ct LO h=>
  have hle:=h.le
  have hlo:=ho.le
  exact ⟨hc,hk,⟨_,by rw[hn];exact .inr (.inr ⟨hb,hq,hm,q,by omega,by rw[Ct];exact h2 _ h⟩)⟩,⟨_,by rw[he];exact .inr (.inr ⟨ho,ED,hm2,q,by omega,by rw[LO];exact h2 _ h⟩)⟩⟩
theorem At.loop {p q:Nat} {l:List Rf.Tr} {i:Nat} {r:List (List Rf.Tr×Nat)} (h:At C B p ((l,i)::r) q) (hi:i<l.length) (hw:wd (words l[i]) 0=Rf.wWhile):
  C (Lk.bodyAt B p) (words l[i])∧(Lk.bodyAt B p).kind=5∧(∃ q',At C B (Lk.bodyAt B p).next ((body l[i],0)::(l,i)::r) q')∧ ∃ q',At C B (Lk.bodyAt B p).els ((other l[i],0)::(l,i+1)::r) q':=by
 obtain ⟨h1,h2,h3⟩:=h.here hi
 generalize l[i]=t at h1 hw
 cases h1 with
 |plain hc hk hp hn hw' h=>exact absurd (.inr hw) hw'
 |LF hc hk hp hw' hn hb hq hm Ct he h=>exact absurd (hw'.symm.trans hw) WL
 |LG hc hk hp hw' hn hb hq hm he ho ED hm2 Ct LO h=>exact absurd (hw'.symm.trans hw) WL
 |loop hc hk hp hw' hn hb hq hm Ct he h=>
  have hle:=h.le
  exact ⟨hc,hk,⟨_,by rw[hn];exact .inr (.inr ⟨hb,hq,hm,q,by omega,by rw[Ct];exact h3⟩)⟩,⟨q,by rw[he];exact .inl ⟨Nat.zero_le _,h2 _ h⟩⟩⟩
theorem xw (B:List Lk.St):(Lk.link B).length=Lk.ahead B B.length:=by
 unfold Lk.link Lk.ahead
 rw[List.length_map,List.take_length]
theorem aam (B:List Lk.St) (p:Nat) (hp:p<B.length) (hk:(Lk.bodyAt B p).kind≤5):Lk.ahead B p<(Lk.link B).length∧(Lk.link B).getD (Lk.ahead B p) {}=Lk.EJ B (Lk.bodyAt B p):=by
 have he:Lk.bodyAt B p=B[p]:=by unfold Lk.bodyAt;rw[List.getD_eq_getElem?_getD,List.getElem?_eq_getElem hp];rfl
 have hs:B=B.take p++B[p]::B.drop (p+1):=by rw[←List.drop_eq_getElem_cons hp,List.take_append_drop]
 have hf:(B.filter fun s=>s.kind≠6)=(B.take p).filter (fun s=>s.kind≠6)++B[p]::(B.drop (p+1)).filter (fun s=>s.kind≠6):=by
  conv=>lhs;rw[hs]
  rw[List.filter_append,List.filter_cons,if_pos (by rw[he] at hk;simp;omega)]
 unfold Lk.link Lk.ahead
 rw[hf,he]
 refine ⟨by simp,?_⟩
 rw[List.map_append,List.getD_eq_getElem?_getD,List.getElem?_append_right (by simp)]
 simp
end Go.Proofs.YtgddmpmcnjlcjaaGreatDoor.Tm
namespace Go.Proofs.YtgddmpmcnjlcjaaGreatDoor
open Go.RowKit
set_option linter.unusedVariables false
theorem at_dc {l:List DB} {i:Nat} (h:i<l.length): ∃ h':i<(A7 l).length,(A7 l)[i]=(CS l i).dc:=by
 have h':i<(A7 l).length:=by simpa[A7] using h
 refine ⟨h',?_⟩
 simp[A7,CS,h]
theorem fG {l:List DB} {i:Nat} (h:i<l.length): ∀ h':i<(A7 l).length,Tm.Bc (A7 l)[i]=((CS l i).kind.toList==[115,101,99,114,101,116]||(CS l i).kind.toList==[112,117,98,108,105,99]):=by
 intro h'
 rw[(at_dc h).2]
 rfl
theorem iw {w0:World} {base P:Nat} {l:List DB} {vn vk vz vb:Value} (h:Ae w0 base P l vn vk vz vb) {i:Nat} (hi:i<l.length): ∃ g c,vk=.slice (some ⟨g,0,none⟩) l.length c∧w0.cell? ⟨g,i,none⟩=some (.string (CS l i).kind):=by
 rcases h.kd.2 with ⟨_,c⟩|⟨g,c,cur,hv,_⟩
 ·omega
 ·refine ⟨g,c,hv,?_⟩
  have hk:=h.kd
  rw[hv] at hk
  rw[hk.cellAt i (by omega)]
  simp[hi,CS]
theorem VY {w w':World} {base P:Nat} {l:List DB} {vn vk vz vb:Value} (h:Ae w base P l vn vk vz vb) (hb:Below w.heap.size w w'):Ae w' base P l vn vk vz vb:=
 ⟨h.row.of_block (hb.block P h.lt),h.ge,BP h.nm (fun k e=>hb.block k (h.nm.lt k e).2),BP h.kd (fun k e=>hb.block k (h.kd.lt k e).2),BP h.sz (fun k e=>hb.block k (h.sz.lt k e).2),h.np,h.kp,h.zp,h.nk,h.nz,h.kz⟩
def G6 (ds:List Rf.Dc):List Bool:=(ds.filter Tm.Bc).map fun d=>d.kind==Rf.wSecret
theorem uA {ds:List Rf.Dc} {i:Nat} (h:i<ds.length):G6 (ds.take (i+1))=G6 (ds.take i)++(if Tm.Bc ds[i]=true then [ds[i].kind==Rf.wSecret] else []):=by
 unfold G6
 rw[List.take_succ_eq_append_getElem h,List.filter_append,List.map_append]
 congr 1
 by_cases c:Tm.Bc ds[i]=true
 ·rw[if_pos c];simp[c]
 ·rw[if_neg c];simp[c]
theorem xx (ds:List Rf.Dc):(G6 ds).length=(ds.filter Tm.Bc).length:=by simp[G6]
theorem Y6 {w:World} {base P:Nat} {l:List DB} {vn vk vz vb:Value} (rep:Ae w base P l vn vk vz vb) (hl:l.length≤1000):
  Calls Tryz.prog 22 #[.pointer (some ⟨P,0,none⟩)] w fun e w'=> ∃ a c,e=.returned (.slice a (G6 (A7 l)).length c)∧w'.ownsRow w.heap.size 4 1 (.slice a (G6 (A7 l)).length c) (G6 (A7 l)).length ((G6 (A7 l)).map Value.bool)∧Below w.heap.size w w':=by
 obtain ⟨t0,ht0,hz0,hz1,hz2⟩:=info_parts Tryz.g_
 obtain ⟨ak,ck,ek⟩:=AX rep.kd
 have p1:=rep.row.cell (i:=1) (by omega)
 rw[show Cu vn vk vz vb 1=vk from rfl] at p1
 have Xk:=hid rep
 have Rb:=rep.lt
 clear rep
 subst ek
 have P1:=hid p1
 have DL:(l.length:Int)≤1000:=by omega
 have Gw:(A7 l).length=l.length:=by simp[A7]
 go_enter Tryz.func22,Tryz.ntmps22
 go_wp2_with fail
 go_loopw [3,4] (fun v c wr=> ∃ i:Nat,i≤l.length∧c=.int .i64 i∧Below w.heap.size w wr∧wr.ownsRow w.heap.size 4 1 v (G6 ((A7 l).take i)).length ((G6 ((A7 l).take i)).map Value.bool)) (fun _ c _=>l.length - (intOf c).toNat)
 case atStart=>exact ⟨0,Nat.zero_le _,rfl,Below.refl _ _,World.ownsRow_nil _ _ _ _⟩
 case round=>
  obtain ⟨i,hil,rfl,AB,hown⟩:=hrel
  obtain ⟨ao,co,eo⟩:=AX hown
  subst eo
  have HB:=hid AB
  have HO:=hid hown
  have hz:=AB.size
  have q1:=(World.cell?_of_block (AB.block P Rb)).trans P1.out
  by_cases hlt:i<l.length
  ·obtain ⟨gk,ck',ek',hkc⟩:=iw Xk.out hlt
   cases ek'
   have Ba:=World.block_lt_of_cell? w _ hkc
   have kc:=(World.cell?_of_block (AB.block gk Ba)).trans hkc
   have h':i<(A7 l).length:=by omega
   have hst:=uA h'
   rw[fG hlt h',(at_dc hlt).2] at hst
   have Jb:(CS l i).dc.kind=(CS l i).kind.toList:=rfl
   rw[Jb] at hst
   have hsl:(G6 ((A7 l).take i)).length≤1000:=by
    rw[xx]
    have h1:=(List.filter_sublist (p:=Tm.Bc) (l:=(A7 l).take i)).length_le
    have h2:=(List.take_sublist i (A7 l)).length_le
    omega
   generalize hSi:G6 ((A7 l).take i)=S at hst hsl HO ⊢
   generalize hSj:G6 ((A7 l).take (i+1))=S' at hst
   have HSj:=hid hSj
   have HST:=hid hst
   generalize (CS l i).kind=kb at kc HST
   have MX:(S.length:Int)≤1000:=by omega
   clear AB hown hkc hst hSi hSj Jb
   cases hs:(kb.toList==[115,101,99,114,101,116]) with
   |true=>
    have J9:=hid (show S'=S++[true] by rw[HST.out,hs];simp;exact eq_of_beq hs)
    go_wp2_with (first|(at_builtin;refine wpList_append_lies _ rfl _ _ 42 rfl w.heap.size 4 t0 _ 1 1 Tryz.underlying42 ht0 hz0 hz1 hz2 rfl (by omega) _ S.length (S.map Value.bool) rfl (HO.out.alloc _) ⟨wr.heap.size,0,none⟩ 1 1 [.bool true] rfl rfl (cell_one_new _ _ _) (by simp[Value.oneCell']) (by omega) (by unfold maxLen;omega) (by omega) (by simp;omega) (wr.heap.size+1) (by simp) ?_;intro g2 cap2 w3 Fy hgrow hat Qi))
    go_roundw
    case rel=>
     refine ⟨i+1,by omega,by go_num,(HB.out.alloc hz _).grown hgrow (by simp;omega) (fun q hq=>(HO.out.lt q hq).1),?_⟩
     rw[HSj.out,J9.out,List.length_append,List.map_append]
     exact Fy
    case measure=>simp[intOf];omega
   |false=>
   cases hp:(kb.toList==[112,117,98,108,105,99]) with
   |true=>
    have J9:=hid (show S'=S++[false] by rw[HST.out,hs,hp];simp;exact ne_of_beq_false hs)
    go_wp2_with (first|(at_builtin;refine wpList_append_lies _ rfl _ _ 42 rfl w.heap.size 4 t0 _ 1 1 Tryz.underlying42 ht0 hz0 hz1 hz2 rfl (by omega) _ S.length (S.map Value.bool) rfl (HO.out.alloc _) ⟨wr.heap.size,0,none⟩ 1 1 [.bool false] rfl rfl (cell_one_new _ _ _) (by simp[Value.oneCell']) (by omega) (by unfold maxLen;omega) (by omega) (by simp;omega) (wr.heap.size+1) (by simp) ?_;intro g2 cap2 w3 Fy hgrow hat Qi))
    go_roundw
    case rel=>
     refine ⟨i+1,by omega,by go_num,(HB.out.alloc hz _).grown hgrow (by simp;omega) (fun q hq=>(HO.out.lt q hq).1),?_⟩
     rw[HSj.out,J9.out,List.length_append,List.map_append]
     exact Fy
    case measure=>simp[intOf];omega
   |false=>
    have J9:=hid (show S'=S by rw[HST.out,hs,hp];simp)
    go_wp2_with fail
    go_roundw
    case rel=>
     refine ⟨i+1,by omega,by go_num,HB.out,?_⟩
     rw[HSj.out,J9.out]
     exact HO.out
    case measure=>simp[intOf];omega
  ·have hie:i=(A7 l).length:=by omega
   have hE:(A7 l).take i=A7 l:=by rw[hie,List.take_length]
   rw[hE] at HO ⊢
   clear AB hown hie hE
   go_wp2_with fail
   go_ret
   exact ⟨_,_,rfl,HO.out,HB.out⟩
end Go.Proofs.YtgddmpmcnjlcjaaGreatDoor
namespace Go.Proofs.YtgddmpmcnjlcjaaGreatDoor.Tm
open Lk (Wd wd num? oper?)
set_option linter.unusedVariables false
def Jr (Af:Wd→Nat×Nat) (w:Wd):Option Lk.At:=
 match num? w with
 |some n=>some { val:=n }
 |none=>if (Af w).1=1 then some { named:=true,val:=(Af w).2 } else none
structure Gg (Af:Wd→Nat×Nat) (s:Lk.St) (w:List Wd):Prop where
 out:s.kind=3→wd w 0=Rf.wOut∧Jr Af (wd w 1)=some s.a
 br:s.kind=4∨s.kind=5→Jr Af (wd w 1)=some s.a
 load:s.kind=1→wd w 0=Rf.wLoad∧Af (wd w 1)=(1,s.slot)∧Af (wd w 2)=(2,s.arr)∧Jr Af (wd w 3)=some s.a
 store:s.kind=2→wd w 0=Rf.wStore∧Af (wd w 1)=(2,s.arr)∧Jr Af (wd w 2)=some s.a∧Jr Af (wd w 3)=some s.b
 Rc:s.kind=0→wd w 0≠Rf.wOut∧wd w 0≠Rf.wLoad∧wd w 0≠Rf.wStore∧Af (wd w 0)=(1,s.slot)∧Jr Af (wd w 2)=some s.a∧((w.length=3∧s.op=0)∨(w.length=5∧oper? (wd w 3)=some s.op∧Jr Af (wd w 4)=some s.b))
structure Nm (ds:List Rf.Dc) (Af:Wd→Nat×Nat) (cells:List Nat):Prop where
 inj: ∀ w w',(Af w).1≠0→Af w=Af w'→w=w'
 idx: ∀ w w',(Af w).1≠0→(Af w').1≠0→Tm.idx ds w=Tm.idx ds w'→w=w'
 siz: ∀ w k,Af w=(2,k)→Tm.size ds (Tm.idx ds w)=cells.getD k 0∧cells.getD k 0≤4
structure Dt (ds:List Rf.Dc) (Af:Wd→Nat×Nat) (m:Mc.M) (t:M):Prop where
 val: ∀ w k,Af w=(1,k)→m.slots k=t.vals (idx ds w)
 AR: ∀ w k j,Af w=(2,k)→j<4→m.AR (k*4+j)=t.AR (idx ds w) j
 bad:m.trap=t.bad
variable {ds:List Rf.Dc} {Af:Wd→Nat×Nat} {cells:List Nat} {m:Mc.M} {t:M}
theorem Dt.value (d:Dt ds Af m t) {w:Wd} {x:Lk.At} (h:Jr Af w=some x) (n:Nat) (r:List (List Rf.Tr×Nat)):Mc.value { m with at_:=n } x=Tm.value ds { t with at_:=r } w:=by
 unfold Jr at h
 unfold Tm.value
 cases hn:num? w with
 |some k=>
  rw[hn] at h
  cases h
  rfl
 |none=>
  rw[hn] at h
  simp only at h
  by_cases h1:(Af w).1=1
  ·rw[if_pos h1] at h
   cases h
   exact d.val w _ (by rw[←h1])
  ·rw[if_neg h1] at h;cases h
theorem Dt.at (d:Dt ds Af m t) (n:Nat) (r:List (List Rf.Tr×Nat)):Dt ds Af { m with at_:=n } { t with at_:=r }:=⟨d.val,d.AR,d.bad⟩
theorem Dt.put (nm:Nm ds Af cells) (d:Dt ds Af m t) {w:Wd} {k:Nat} (h:Af w=(1,k)) (v:Nat):Dt ds Af (Mc.put m k v) { t with vals:=Lk.upd t.vals (idx ds w) v }:=by
 refine ⟨?_,d.AR,d.bad⟩
 intro w' k' h'
 show Lk.upd m.slots k v k'=Lk.upd t.vals (idx ds w) v (idx ds w')
 unfold Lk.upd
 by_cases e:w'=w
 ·subst e
  rw[h] at h'
  cases h'
  rw[if_pos rfl,if_pos rfl]
 ·rw[if_neg (fun hk=>e (nm.inj w' w (by rw[h'];simp) (by rw[h',h,hk]))),if_neg (fun hk=>e (nm.idx w' w (by rw[h'];simp) (by rw[h];simp) hk))]
  exact d.val w' k' h'
theorem Dt.store (nm:Nm ds Af cells) (d:Dt ds Af m t) {w:Wd} {k:Nat} (h:Af w=(2,k)) (i v:Nat) (hi:i<4):Dt ds Af { m with AR:=Lk.upd m.AR (k*4+i) v } { t with AR:=Lk.upd t.AR (idx ds w) (Lk.upd (t.AR (idx ds w)) i v) }:=by
 refine ⟨d.val,?_,d.bad⟩
 intro w' k' j h' hj
 show Lk.upd m.AR (k*4+i) v (k'*4+j)=Lk.upd t.AR (idx ds w) (Lk.upd (t.AR (idx ds w)) i v) (idx ds w') j
 unfold Lk.upd
 by_cases e:w'=w
 ·subst e
  rw[h] at h'
  cases h'
  rw[if_pos rfl]
  by_cases ej:j=i
  ·rw[if_pos (by omega),if_pos ej]
  ·rw[if_neg (by omega),if_neg ej]
   exact d.AR w' k j h hj
 ·rw[if_neg (fun hk=>e (nm.inj w' w (by rw[h'];simp) (by rw[h',h,show k'=k by omega]))),if_neg (fun hk=>e (nm.idx w' w (by rw[h'];simp) (by rw[h];simp) hk))]
  exact d.AR w' k' j h' hj
theorem Dt.trap (d:Dt ds Af m t):Dt ds Af { m with trap:=true } { t with bad:=true }:=⟨d.val,d.AR,rfl⟩
theorem Qc:Rf.wLoad≠Rf.wOut∧Rf.wStore≠Rf.wOut∧Rf.wStore≠Rf.wLoad:=by decide
theorem aao (nm:Nm ds Af cells) (d:Dt ds Af m t) {s:Lk.St} {w:List Wd} (c:Gg Af s w) (hk:s.kind<4) (r:List (List Rf.Tr×Nat)):
  (Mc.act cells s m).1=(plain ds w { t with at_:=r }).1∧Dt ds Af (Mc.act cells s m).2 (plain ds w { t with at_:=r }).2∧(Mc.act cells s m).2.at_=s.next∧(plain ds w { t with at_:=r }).2.at_=r:=by
 have dr:Dt ds Af { m with at_:=s.next } { t with at_:=r }:=d.at s.next r
 obtain h|h|h|h:s.kind=0∨s.kind=1∨s.kind=2∨s.kind=3:=by omega
 ·obtain ⟨n1,n2,n3,hf,ha,hb⟩:=c.Rc h
  have va:=d.value ha s.next r
  have e1:Mc.act cells s m=(0,Mc.put { m with at_:=s.next } s.slot (Mc.apply s.op (Mc.value { m with at_:=s.next } s.a) (Mc.value { m with at_:=s.next } s.b))):=by
   unfold Mc.act
   rw[if_neg (by omega),if_neg (by omega),if_neg (by omega)]
  have e2:plain ds w { t with at_:=r }=(0,{ ({ t with at_:=r }:M) with vals:=Lk.upd t.vals (idx ds (wd w 0)) (if w.length=5 then Mc.apply ((oper? (wd w 3)).getD 0) (value ds { t with at_:=r } (wd w 2)) (value ds { t with at_:=r } (wd w 4)) else value ds { t with at_:=r } (wd w 2)) }):=by
   unfold plain
   rw[if_neg n1,if_neg n2,if_neg n3]
  have e3:Mc.apply s.op (Mc.value { m with at_:=s.next } s.a) (Mc.value { m with at_:=s.next } s.b)=(if w.length=5 then Mc.apply ((oper? (wd w 3)).getD 0) (value ds { t with at_:=r } (wd w 2)) (value ds { t with at_:=r } (wd w 4)) else value ds { t with at_:=r } (wd w 2)):=by
   rcases hb with ⟨h3,h0⟩|⟨h5,ho,hx⟩
   ·rw[if_neg (by omega),h0,va];rfl
   ·rw[if_pos h5,ho,va,d.value hx s.next r];rfl
  rw[e1,e2,e3]
  exact ⟨rfl,dr.put nm hf _,rfl,rfl⟩
 ·obtain ⟨n1,Es,hf2,ha⟩:=c.load h
  have va:=d.value ha s.next r
  obtain ⟨hs1,hs2⟩:=nm.siz _ _ hf2
  have e1:Mc.act cells s m=(32+Mc.value { m with at_:=s.next } s.a,Mc.access { m with at_:=s.next } cells s (Mc.value { m with at_:=s.next } s.a) (Mc.value { m with at_:=s.next } s.b)):=by
   unfold Mc.act
   rw[if_neg (by omega),if_neg (by omega),if_pos (by omega)]
  rw[e1,va]
  generalize hv:value ds { t with at_:=r } (wd w 3)=v
  by_cases hlt:v<cells.getD s.arr 0
  ·have e2:plain ds w { t with at_:=r }=(32+v,{ ({ t with at_:=r }:M) with vals:=Lk.upd t.vals (idx ds (wd w 1)) (t.AR (idx ds (wd w 2)) v) }):=by
    unfold plain
    rw[if_neg (by rw[n1];exact Qc.1),if_pos n1,hv,hs1,if_pos hlt]
   have e4:Mc.access { m with at_:=s.next } cells s v (Mc.value { m with at_:=s.next } s.b)=Mc.put { m with at_:=s.next } s.slot (m.AR (s.arr*4+v)):=by
    unfold Mc.access Mc.has
    rw[if_pos (by simpa using hlt),if_neg (by omega)]
   rw[e2,e4,d.AR _ _ v hf2 (by omega)]
   exact ⟨rfl,dr.put nm Es _,rfl,rfl⟩
  ·have e2:plain ds w { t with at_:=r }=(32+v,{ ({ t with at_:=r }:M) with bad:=true }):=by
    unfold plain
    rw[if_neg (by rw[n1];exact Qc.1),if_pos n1,hv,hs1,if_neg hlt]
   have e4:Mc.access { m with at_:=s.next } cells s v (Mc.value { m with at_:=s.next } s.b)={ ({ m with at_:=s.next }:Mc.M) with trap:=true }:=by
    unfold Mc.access Mc.has
    rw[if_neg (by simpa using hlt)]
   rw[e2,e4]
   exact ⟨rfl,dr.trap,rfl,rfl⟩
 ·obtain ⟨n1,Es,ha,hb⟩:=c.store h
  have va:=d.value ha s.next r
  have vb:=d.value hb s.next r
  obtain ⟨hs1,hs2⟩:=nm.siz _ _ Es
  have e1:Mc.act cells s m=(32+Mc.value { m with at_:=s.next } s.a,Mc.access { m with at_:=s.next } cells s (Mc.value { m with at_:=s.next } s.a) (Mc.value { m with at_:=s.next } s.b)):=by
   unfold Mc.act
   rw[if_neg (by omega),if_neg (by omega),if_pos (by omega)]
  rw[e1,va,vb]
  generalize hv:value ds { t with at_:=r } (wd w 2)=v
  generalize hu:value ds { t with at_:=r } (wd w 3)=u
  by_cases hlt:v<cells.getD s.arr 0
  ·have e2:plain ds w { t with at_:=r }=(32+v,{ ({ t with at_:=r }:M) with AR:=Lk.upd t.AR (idx ds (wd w 1)) (Lk.upd (t.AR (idx ds (wd w 1))) v u) }):=by
    unfold plain
    rw[if_neg (by rw[n1];exact Qc.2.1),if_neg (by rw[n1];exact Qc.2.2),if_pos n1,hv,hu,hs1,if_pos hlt]
   have e4:Mc.access { m with at_:=s.next } cells s v u={ ({ m with at_:=s.next }:Mc.M) with AR:=Lk.upd m.AR (s.arr*4+v) u }:=by
    unfold Mc.access Mc.has
    rw[if_pos (by simpa using hlt),if_pos h]
   rw[e2,e4]
   exact ⟨rfl,dr.store nm Es v u (by omega),rfl,rfl⟩
  ·have e2:plain ds w { t with at_:=r }=(32+v,{ ({ t with at_:=r }:M) with bad:=true }):=by
    unfold plain
    rw[if_neg (by rw[n1];exact Qc.2.1),if_neg (by rw[n1];exact Qc.2.2),if_pos n1,hv,hs1,if_neg hlt]
   have e4:Mc.access { m with at_:=s.next } cells s v u={ ({ m with at_:=s.next }:Mc.M) with trap:=true }:=by
    unfold Mc.access Mc.has
    rw[if_neg (by simpa using hlt)]
   rw[e2,e4]
   exact ⟨rfl,dr.trap,rfl,rfl⟩
 ·obtain ⟨n1,ha⟩:=c.out h
  have va:=d.value ha s.next r
  have e1:Mc.act cells s m=(48+Mc.value { m with at_:=s.next } s.a,{ m with at_:=s.next }):=by
   unfold Mc.act
   rw[if_pos h]
  have e2:plain ds w { t with at_:=r }=(48+value ds { t with at_:=r } (wd w 1),{ t with at_:=r }):=by
   unfold plain
   rw[if_pos n1]
  rw[e1,e2,va]
  exact ⟨rfl,dr,rfl,rfl⟩
open Lk (Wd wd num? oper?)
variable {ds:List Rf.Dc} {Af:Wd→Nat×Nat} {cells:List Nat} {m:Mc.M} {t:M} {B:List Lk.St}
structure Sm (B:List Lk.St) (ds:List Rf.Dc) (Af:Wd→Nat×Nat) (m:Mc.M) (t:M):Prop where
 dt:Dt ds Af m t
 pl: ∃ p q,At (Gg Af) B p t.at_ q∧m.at_=Lk.settle B p
theorem Z1 {x r:List (List Rf.Tr×Nat)} {l:List Rf.Tr} {i:Nat} (h:pop x=(l,i)::r):i<l.length:=by
 induction x with
 |nil=>cases h
 |cons y x ih=>
  obtain ⟨l',i'⟩:=y
  unfold pop at h
  by_cases hi:i'<l'.length
  ·rw[if_pos hi] at h
   cases h
   exact hi
  ·rw[if_neg hi] at h
   exact ih h
theorem ZY {s:Lk.St} {w:List Wd} (c:Gg Af s w) (B:List Lk.St):Gg Af (Lk.EJ B s) w:=by
 unfold Lk.EJ
 split
 ·exact ⟨c.out,c.br,c.load,c.store,c.Rc⟩
 ·exact ⟨c.out,c.br,c.load,c.store,c.Rc⟩
theorem xy (B:List Lk.St) (s:Lk.St):(Lk.EJ B s).kind=s.kind∧(Lk.EJ B s).next=Lk.settle B s.next∧(s.kind=4∨s.kind=5→(Lk.EJ B s).els=Lk.settle B s.els):=by
 unfold Lk.EJ
 split
 ·exact ⟨rfl,rfl,fun _=>rfl⟩
 ·rename_i h;exact ⟨rfl,rfl,fun k=>absurd k h⟩
theorem aap {l:List Rf.Tr} {i:Nat} {r:List (List Rf.Tr×Nat)} (hb:t.bad=false) (h:pop t.at_=(l,i)::r) (hi:i<l.length):step ds t=
  (if wd (words l[i]) 0=Rf.wIf∨wd (words l[i]) 0=Rf.wWhile then
    (if value ds t (wd (words l[i]) 1)=0 then (16,{ t with at_:=(other l[i],0)::(if wd (words l[i]) 0=Rf.wIf∨value ds t (wd (words l[i]) 1)=0 then (l,i+1)::r else (l,i)::r) })
     else (17,{ t with at_:=(body l[i],0)::(if wd (words l[i]) 0=Rf.wIf∨value ds t (wd (words l[i]) 1)=0 then (l,i+1)::r else (l,i)::r) }))
   else plain ds (words l[i]) { t with at_:=(l,i+1)::r }):=by
 unfold step
 rw[if_neg (by rw[hb];simp),h]
 have e:l.getD i (.node [] [] [])=l[i]:=by rw[List.getD_eq_getElem?_getD,List.getElem?_eq_getElem hi];rfl
 simp only[e]
theorem iy (nm:Nm ds Af cells) (h:Sm B ds Af m t):(Mc.step cells (Lk.link B) m).1=(step ds t).1∧Sm B ds Af (Mc.step cells (Lk.link B) m).2 (step ds t).2:=by
 cases hb:t.bad with
 |true=>
  have hm:m.trap=true:=by rw[h.dt.bad];exact hb
  have e:step ds t=(80,t):=by unfold step;rw[if_pos hb]
  rw[Mc.V7 hm,e]
  exact ⟨rfl,h⟩
 |false=>
  have hm:m.trap=false:=by rw[h.dt.bad];exact hb
  obtain ⟨p,q,hat,F9⟩:=h.pl
  obtain ⟨q',hp⟩:=xu t.at_ p q B.length hat (by omega)
  have TK:m.at_=Lk.ahead B (Lk.pass B B.length p):=F9
  generalize Lk.pass B B.length p=p' at hp TK
  cases TM:pop t.at_ with
  |nil=>
   rw[TM] at hp
   have hpe:p'=B.length:=hp.1
   subst hpe
   have e:step ds t=(64,{ t with at_:=[] }):=by unfold step;rw[if_neg (by rw[hb];simp),TM]
   rw[Mc.V8 hm (by rw[TK,xw];omega),e]
   refine ⟨rfl,⟨h.dt.val,h.dt.AR,h.dt.bad⟩,B.length,B.length,⟨rfl,rfl⟩,?_⟩
   rw[TK]
   unfold Lk.settle
   rw[Z0]
  |cons x r=>
   obtain ⟨l,i⟩:=x
   have hi:=Z1 TM
   rw[TM] at hp
   obtain ⟨hl,_,_⟩:=hp.here hi
   obtain ⟨hpl,hpk⟩:=hl.head
   obtain ⟨k1,k2⟩:=aam B p' hpl hpk
   obtain ⟨o1,o2,o3⟩:=xy B (Lk.bodyAt B p')
   rw[Mc.Ve hm (by rw[TK];exact k1),TK,k2,aap hb TM hi]
   by_cases hw:wd (words l[i]) 0=Rf.wIf∨wd (words l[i]) 0=Rf.wWhile
   ·rw[if_pos hw]
    by_cases hif:wd (words l[i]) 0=Rf.wIf
    ·obtain ⟨hc,hk,⟨q1,a1⟩,⟨q2,a2⟩⟩:=hp.cond hi hif
     have c':=ZY hc B
     have va:=h.dt.value (c'.br (.inl (o1.trans hk))) (Lk.EJ B (Lk.bodyAt B p')).next t.at_
     have Lj:Mc.value { m with at_:=(Lk.EJ B (Lk.bodyAt B p')).next } (Lk.EJ B (Lk.bodyAt B p')).a=value ds t (wd (words l[i]) 1):=va
     unfold Mc.act
     rw[if_neg (by omega),if_pos (.inl (o1.trans hk)),Lj,show (if wd (words l[i]) 0=Rf.wIf∨value ds t (wd (words l[i]) 1)=0 then (l,i+1)::r else (l,i)::r)=(l,i+1)::r from if_pos (.inl hif)]
     by_cases hv:value ds t (wd (words l[i]) 1)=0
     ·rw[if_pos hv]
      try rw[if_pos hv]
      exact ⟨rfl,h.dt.at _ _,_,_,a2,o3 (.inl hk)⟩
     ·rw[if_neg hv]
      try rw[if_neg hv]
      exact ⟨rfl,h.dt.at _ _,_,_,a1,o2⟩
    ·have RZ:=hw.resolve_left hif
     obtain ⟨hc,hk,⟨q1,a1⟩,⟨q2,a2⟩⟩:=hp.loop hi RZ
     have c':=ZY hc B
     have va:=h.dt.value (c'.br (.inr (o1.trans hk))) (Lk.EJ B (Lk.bodyAt B p')).next t.at_
     have Lj:Mc.value { m with at_:=(Lk.EJ B (Lk.bodyAt B p')).next } (Lk.EJ B (Lk.bodyAt B p')).a=value ds t (wd (words l[i]) 1):=va
     unfold Mc.act
     rw[if_neg (by omega),if_pos (.inr (o1.trans hk)),Lj]
     by_cases hv:value ds t (wd (words l[i]) 1)=0
     ·rw[show (if wd (words l[i]) 0=Rf.wIf∨value ds t (wd (words l[i]) 1)=0 then (l,i+1)::r else (l,i)::r)=(l,i+1)::r from if_pos (.inr hv),if_pos hv]
      try rw[if_pos hv]
      exact ⟨rfl,h.dt.at _ _,_,_,a2,o3 (.inr hk)⟩
     ·rw[show (if wd (words l[i]) 0=Rf.wIf∨value ds t (wd (words l[i]) 1)=0 then (l,i+1)::r else (l,i)::r)=(l,i)::r from if_neg (fun k=>k.elim hif hv),if_neg hv]
      try rw[if_neg hv]
      exact ⟨rfl,h.dt.at _ _,_,_,a1,o2⟩
   ·rw[if_neg hw]
    obtain ⟨hc,hk,a1⟩:=hp.plain hi hw
    obtain ⟨e1,e2,e3,e4⟩:=aao nm h.dt (ZY hc B) (by rw[o1];exact hk) ((l,i+1)::r)
    exact ⟨e1,e2,_,_,by rw[e4];exact a1,by rw[e3,o2]⟩
theorem aar (nm:Nm ds Af cells) (sec:List Bool) (h:Sm B ds Af m t) (n:Nat):Mc.num ⟨sec,cells,Lk.link B⟩ m n=num ds t n:=by
 have hs: ∀ n,Sm B ds Af (Mc.st ⟨sec,cells,Lk.link B⟩ m n) (st ds t n):=by
  intro n
  induction n with
  |zero=>exact h
  |succ n ih=>exact (iy nm ih).2
 exact (iy nm (hs n)).1
open Lk (Wd wd)
variable {C:Lk.St→List Wd→Prop} {B B':List Lk.St}
theorem Lay.congr {p q:Nat} {ts:List Rf.Tr} (h:Lay C B p ts q) (hl:q≤B'.length) (hB: ∀ x,p≤x→x<q→Lk.bodyAt B' x=Lk.bodyAt B x):Lay C B' p ts q:=by
 induction h with
 |nil p=>exact .nil p
 |plain hc hk hp hn hw h ih=>
  have h1:=h.le
  have e:=hB _ (Nat.le_refl _) (by omega)
  exact .plain (by rw[e];exact hc) (by rw[e];exact hk) (by omega) (by rw[e];exact hn) hw (ih hl (fun x a b=>hB x (by omega) b))
 |LF hc hk hp hw hn hb hq hm Ct he h ihb ih=>
  have h1:=h.le
  have h2:=hb.le
  have e:=hB _ (Nat.le_refl _) (by omega)
  have e1:=hB _ (show _≤_ by exact Nat.le_of_succ_le h2) (by omega)
  exact .LF (by rw[e];exact hc) (by rw[e];exact hk) (by omega) hw (by rw[e];exact hn) (ihb (by omega) (fun x a b=>hB x (by omega) (by omega))) (by omega) (by rw[e1];exact hm) (by rw[e1];exact Ct) (by rw[e];exact he) (ih hl (fun x a b=>hB x (by omega) b))
 |LG hc hk hp hw hn hb hq hm he ho ED hm2 Ct LO h ihb Ur ih=>
  have h1:=h.le
  have h2:=hb.le
  have h3:=ho.le
  have e:=hB _ (Nat.le_refl _) (by omega)
  have e1:=hB _ (show _≤_ by exact Nat.le_of_succ_le h2) (by omega)
  have e2:=hB _ (show _≤_ by exact Nat.le_trans (Nat.le_of_succ_le h2) (Nat.le_of_succ_le h3)) (by omega)
  exact .LG (by rw[e];exact hc) (by rw[e];exact hk) (by omega) hw (by rw[e];exact hn) (ihb (by omega) (fun x a b=>hB x (by omega) (by omega))) (by omega) (by rw[e1];exact hm) (by rw[e];exact he) (Ur (by omega) (fun x a b=>hB x (by omega) (by omega))) (by omega) (by rw[e2];exact hm2) (by rw[e1];exact Ct) (by rw[e2];exact LO) (ih hl (fun x a b=>hB x (by omega) b))
 |loop hc hk hp hw hn hb hq hm Ct he h ihb ih=>
  have h1:=h.le
  have h2:=hb.le
  have e:=hB _ (Nat.le_refl _) (by omega)
  have e1:=hB _ (show _≤_ by exact Nat.le_of_succ_le h2) (by omega)
  exact .loop (by rw[e];exact hc) (by rw[e];exact hk) (by omega) hw (by rw[e];exact hn) (ihb (by omega) (fun x a b=>hB x (by omega) (by omega))) (by omega) (by rw[e1];exact hm) (by rw[e1];exact Ct) (by rw[e];exact he) (ih hl (fun x a b=>hB x (by omega) b))
theorem Lay.append {p q q':Nat} {ts us:List Rf.Tr} (h:Lay C B p ts q) (h':Lay C B q us q'):Lay C B p (ts++us) q':=by
 induction h with
 |nil p=>exact h'
 |plain hc hk hp hn hw h ih=>exact .plain hc hk hp hn hw (ih h')
 |LF hc hk hp hw hn hb hq hm Ct he h ihb ih=>exact .LF hc hk hp hw hn hb hq hm Ct he (ih h')
 |LG hc hk hp hw hn hb hq hm he ho ED hm2 Ct LO h ihb Ur ih=>exact .LG hc hk hp hw hn hb hq hm he ho ED hm2 Ct LO (ih h')
 |loop hc hk hp hw hn hb hq hm Ct he h ihb ih=>exact .loop hc hk hp hw hn hb hq hm Ct he (ih h')
open Lk (Wd wd)
def fd:List Rf.Dc→Nat→Nat→Wd→Nat×Nat
 |[],_,_,_=>(0,0)
 |d::ds,s,a,w=>if d.name=w then (if d.kind=Rf.wArray then (2,a) else (1,s)) else if d.kind=Rf.wArray then fd ds s (a+1) w else fd ds (s+1) a w
def sizes (ds:List Rf.Dc):List Nat:=(ds.filter fun d=>d.kind=Rf.wArray).map Rf.Dc.size
theorem Qf (ds:List Rf.Dc) (s a:Nat) (w:Wd):((fd ds s a w).1=1→s≤(fd ds s a w).2)∧((fd ds s a w).1=2→a≤(fd ds s a w).2)∧(fd ds s a w).1≤2:=by
 induction ds generalizing s a with
 |nil=>exact ⟨fun h=>(by cases h),fun h=>(by cases h),Nat.zero_le _⟩
 |cons d ds ih=>
  unfold fd
  by_cases hn:d.name=w
  ·rw[if_pos hn]
   by_cases hk:d.kind=Rf.wArray
   ·rw[if_pos hk];exact ⟨fun h=>(by cases h),fun _=>Nat.le_refl _,Nat.le_refl _⟩
   ·rw[if_neg hk];exact ⟨fun _=>Nat.le_refl _,fun h=>(by cases h),(by show 1≤2;omega)⟩
  ·rw[if_neg hn]
   by_cases hk:d.kind=Rf.wArray
   ·rw[if_pos hk]
    have:=ih s (a+1)
    exact ⟨this.1,fun h=>Nat.le_of_succ_le (this.2.1 h),this.2.2⟩
   ·rw[if_neg hk]
    have:=ih (s+1) a
    exact ⟨fun h=>Nat.le_of_succ_le (this.1 h),this.2.1,this.2.2⟩
theorem acJ (ds:List Rf.Dc) (s a:Nat) (w w':Wd) (h0:(fd ds s a w).1≠0) (h:fd ds s a w=fd ds s a w'):w=w':=by
 induction ds generalizing s a with
 |nil=>exact absurd rfl h0
 |cons d ds ih=>
  unfold fd at h h0
  by_cases h1:d.name=w
  ·by_cases h2:d.name=w'
   ·exact h1.symm.trans h2
   ·rw[if_pos h1,if_neg h2] at h
    by_cases hk:d.kind=Rf.wArray
    ·rw[if_pos hk,if_pos hk] at h
     have:=(Qf ds s (a+1) w').2.1
     rw[←h] at this
     have:=this rfl
     simp at this
     omega
    ·rw[if_neg hk,if_neg hk] at h
     have:=(Qf ds (s+1) a w').1
     rw[←h] at this
     have:=this rfl
     simp at this
     omega
  ·rw[if_neg h1] at h h0
   by_cases h2:d.name=w'
   ·rw[if_pos h2] at h
    by_cases hk:d.kind=Rf.wArray
    ·rw[if_pos hk,if_pos hk] at h
     have:=(Qf ds s (a+1) w).2.1
     rw[h] at this
     have:=this rfl
     simp at this
     omega
    ·rw[if_neg hk,if_neg hk] at h
     have:=(Qf ds (s+1) a w).1
     rw[h] at this
     have:=this rfl
     simp at this
     omega
   ·rw[if_neg h2] at h
    by_cases hk:d.kind=Rf.wArray
    ·rw[if_pos hk] at h0
     rw[if_pos hk,if_pos hk] at h
     exact ih s (a+1) h0 h
    ·rw[if_neg hk] at h0
     rw[if_neg hk,if_neg hk] at h
     exact ih (s+1) a h0 h
theorem WM (ds:List Rf.Dc) (s a:Nat) (w:Wd) (h0:(fd ds s a w).1≠0): ∃ i,Rf.oneOf w (ds.map Rf.Dc.name)=some i∧(ds.map Rf.Dc.name)[i]? =some w∧((fd ds s a w).1=2→(ds.map Rf.Dc.size).getD i 0=(sizes ds).getD ((fd ds s a w).2 - a) 0):=by
 induction ds generalizing s a with
 |nil=>exact absurd rfl h0
 |cons d ds ih=>
  have hle:=Qf ds s (a+1) w
  unfold fd at h0 ⊢
  by_cases h1:d.name=w
  ·refine ⟨0,?_,?_,?_⟩
   ·show (if (d.name==w)=true then some 0 else _)=_
    rw[if_pos (by simpa using h1)]
   ·rw[List.map_cons,List.getElem?_cons_zero,h1]
   ·rw[if_pos h1]
    by_cases hk:d.kind=Rf.wArray
    ·rw[if_pos hk]
     intro _
     unfold sizes
     rw[List.filter_cons,if_pos (by simpa using hk)]
     simp
    ·rw[if_neg hk];intro h;cases h
  ·rw[if_neg h1] at h0 ⊢
   have hone: ∀ i,Rf.oneOf w (ds.map Rf.Dc.name)=some i→Rf.oneOf w ((d::ds).map Rf.Dc.name)=some (i+1):=by
    intro i hi
    show (if (d.name==w)=true then some 0 else (Rf.oneOf w (ds.map Rf.Dc.name)).map (· +1))=_
    rw[if_neg (by simpa using h1),hi];rfl
   by_cases hk:d.kind=Rf.wArray
   ·rw[if_pos hk] at h0 ⊢
    obtain ⟨i,e1,e2,e3⟩:=ih s (a+1) h0
    refine ⟨i+1,hone i e1,e2,fun h=>?_⟩
    have:=hle.2.1 h
    rw[List.map_cons,List.getD_cons_succ,e3 h]
    unfold sizes
    rw[List.filter_cons,if_pos (by simpa using hk),List.map_cons,show (fd ds s (a+1) w).2 - a=((fd ds s (a+1) w).2 - (a+1))+1 by omega,List.getD_cons_succ]
   ·rw[if_neg hk] at h0 ⊢
    obtain ⟨i,e1,e2,e3⟩:=ih (s+1) a h0
    refine ⟨i+1,hone i e1,e2,fun h=>?_⟩
    rw[List.map_cons,List.getD_cons_succ,e3 h]
    unfold sizes
    rw[List.filter_cons,if_neg (by simpa using hk)]
theorem adr (ds:List Rf.Dc) (h4: ∀ d∈ds,d.size≤4):Nm ds (fd ds 0 0) (sizes ds):=by
 refine ⟨fun w w' h0 h=>acJ ds 0 0 w w' h0 h,?_,?_⟩
 ·intro w w' h0 h0' h
  obtain ⟨i,e1,e2,_⟩:=WM ds 0 0 w h0
  obtain ⟨i',e1',e2',_⟩:=WM ds 0 0 w' h0'
  unfold idx at h
  rw[e1,e1'] at h
  have:i=i':=h
  subst this
  rw[e2] at e2'
  exact Option.some.inj e2'
 ·intro w k h
  obtain ⟨i,e1,_,e3⟩:=WM ds 0 0 w (by rw[h];simp)
  rw[h] at e3
  refine ⟨?_,?_⟩
  ·unfold size idx
   rw[e1]
   exact e3 rfl
  ·rw[List.getD_eq_getElem?_getD]
   cases hx:(sizes ds)[k]? with
   |none=>exact Nat.zero_le _
   |some z=>
    have hz:=List.mem_of_getElem? hx
    unfold sizes at hz
    obtain ⟨d,hd,rfl⟩:=List.mem_map.1 hz
    exact h4 d (List.mem_filter.1 hd).1
open Lk (Wd wd RS isName lat)
def D6 (ds:List Rf.Dc):Nat:=(ds.filter fun d=>d.kind=Rf.wArray).length
def GW (ds:List Rf.Dc):Nat:=(ds.filter fun d=> ¬d.kind=Rf.wArray).length
theorem aax (ds:List Rf.Dc) (s a:Nat) (w:Wd) (h:(fd ds s a w).1=0):fd ds s a w=(0,0):=by
 induction ds generalizing s a with
 |nil=>rfl
 |cons d ds ih=>
  unfold fd at h ⊢
  by_cases h1:d.name=w
  ·rw[if_pos h1] at h
   split at h
   ·cases h
   ·cases h
  ·rw[if_neg h1] at h ⊢
   split
   ·rename_i hk;rw[if_pos hk] at h;exact ih _ _ h
   ·rename_i hk;rw[if_neg hk] at h;exact ih _ _ h
theorem acK (ds:List Rf.Dc) (d:Rf.Dc) (s a:Nat) (w:Wd):fd (ds++[d]) s a w=if (fd ds s a w).1≠0 then fd ds s a w else if d.name=w then (if d.kind=Rf.wArray then (2,a+D6 ds) else (1,s+GW ds)) else (0,0):=by
 induction ds generalizing s a with
 |nil=>
  show (if d.name=w then (if d.kind=Rf.wArray then (2,a) else (1,s)) else if d.kind=Rf.wArray then (0,0) else (0,0))=_
  rw[if_neg (show ¬(fd [] s a w).1≠0 from fun h=>h rfl)]
  by_cases h1:d.name=w
  ·rw[if_pos h1,if_pos h1];rfl
  ·rw[if_neg h1,if_neg h1];split <;> rfl
 |cons e ds ih=>
  show (if e.name=w then (if e.kind=Rf.wArray then (2,a) else (1,s)) else if e.kind=Rf.wArray then fd (ds++[d]) s (a+1) w else fd (ds++[d]) (s+1) a w)=_
  have e0:fd (e::ds) s a w=(if e.name=w then (if e.kind=Rf.wArray then (2,a) else (1,s)) else if e.kind=Rf.wArray then fd ds s (a+1) w else fd ds (s+1) a w):=rfl
  rw[e0]
  by_cases h1:e.name=w
  ·rw[if_pos h1,if_pos h1]
   by_cases hk:e.kind=Rf.wArray
   ·rw[if_pos hk,if_pos (by simp)]
   ·rw[if_neg hk,if_pos (by simp)]
  ·rw[if_neg h1,if_neg h1]
   by_cases hk:e.kind=Rf.wArray
   ·rw[if_pos hk,if_pos hk,ih]
    have ea:D6 (e::ds)=D6 ds+1:=by unfold D6;rw[List.filter_cons,if_pos (by simpa using hk)];rfl
    have es:GW (e::ds)=GW ds:=by unfold GW;rw[List.filter_cons,if_neg (by simpa using hk)]
    rw[ea,es,show a+1+D6 ds=a+(D6 ds+1) by omega]
   ·rw[if_neg hk,if_neg hk,ih]
    have ea:D6 (e::ds)=D6 ds:=by unfold D6;rw[List.filter_cons,if_neg (by simpa using hk)]
    have es:GW (e::ds)=GW ds+1:=by unfold GW;rw[List.filter_cons,if_pos (by simpa using hk)];rfl
    rw[ea,es,show s+1+GW ds=s+(GW ds+1) by omega]
theorem ZM {w w':Wd} (h:isName w=true) (h':isName w'=true) (e:lat w=lat w'):w=w':=by
 unfold isName at h h'
 split at h
 ·rename_i c
  split at h'
  ·rename_i c'
   simp at h h'
   have e2:c.toNat - 97=c'.toNat - 97:=e
   have:c=c':=UInt8.toNat_inj.1 (by omega)
   rw[this]
  ·cases h'
 ·cases h
structure NR (r:RS) (ds:List Rf.Dc):Prop where
 Af: ∀ w,Lk.find r w=fd ds 0 0 w
 AR:r.cells=sizes ds
 Pv:r.Ah.length+r.vars=GW ds
 sec:r.Ah=(ds.filter Bc).map fun d=>d.kind==Rf.wSecret
 ss: ∀ d∈ds,d.size≤4
theorem acN:NR {} []:=⟨fun w=>(by unfold Lk.find;split <;> rfl),rfl,rfl,rfl,fun d h=>(by cases h)⟩
theorem Z_ {r:RS} {ds:List Rf.Dc} (h:NR r ds) {w:Wd} (hw:isName w=true) (h0:(r.letters (lat w)).1=0) (d:Rf.Dc) (hd:d.name=w) (v:Nat×Nat) (hv:v=if d.kind=Rf.wArray then (2,D6 ds) else (1,GW ds)) (r':RS) (hl:r'.letters=Lk.upd r.letters (lat w) v): ∀ x,Lk.find r' x=fd (ds++[d]) 0 0 x:=by
 intro x
 rw[acK, ←h.Af x,Nat.zero_add,Nat.zero_add,hd]
 unfold Lk.find
 by_cases hx:isName x=true
 ·rw[if_pos hx,if_pos hx,hl]
  unfold Lk.upd
  by_cases e:w=x
  ·subst e
   rw[if_pos rfl,if_neg (by omega),if_pos rfl,hv]
  ·rw[if_neg (fun k=>e (ZM hw hx k.symm))]
   by_cases hz:(r.letters (lat x)).1=0
   ·rw[if_neg (by omega),if_neg e]
    have:=h.Af x
    unfold Lk.find at this
    rw[if_pos hx] at this
    rw[this]
    exact aax _ _ _ _ (by rw[←this];exact hz)
   ·rw[if_pos hz]
 ·rw[if_neg hx,if_neg hx,if_neg (by simp),if_neg (fun e=>hx (by rw[←e];exact hw))]
open Lk (Wd wd RS isName lat)
variable {r r':RS} {ds:List Rf.Dc} {ws:List Wd}
theorem iz (ds:List Rf.Dc) (d:Rf.Dc) (h: ¬d.kind=Rf.wArray):GW (ds++[d])=GW ds+1∧sizes (ds++[d])=sizes ds:=by
 unfold GW sizes
 rw[List.filter_append,List.filter_append,List.filter_cons,List.filter_cons,if_pos (by simpa using h),if_neg (by simpa using h)]
 simp
theorem xz (ds:List Rf.Dc) (d:Rf.Dc) (h:d.kind=Rf.wArray):GW (ds++[d])=GW ds∧sizes (ds++[d])=sizes ds++[d.size]:=by
 unfold GW sizes
 rw[List.filter_append,List.filter_append,List.filter_cons,List.filter_cons,if_neg (by simpa using h),if_pos (by simpa using h)]
 simp
theorem y9 (ds:List Rf.Dc):(sizes ds).length=D6 ds:=by
 unfold sizes D6
 rw[List.length_map]
theorem Vq {w:Wd} {a b:Nat} (e:Lk.declare r w a b=some r'):isName w=true∧(r.letters (lat w)).1=0∧r'={ r with letters:=Lk.upd r.letters (lat w) (a,b) }:=by
 unfold Lk.declare at e
 split at e
 ·rename_i h;cases e;exact ⟨h.2.1,h.2.2,rfl⟩
 ·cases e
theorem j4 {b:Bool} (h:NR r ds) (e:Lk.E6 r ws b=some r'):NR r' (ds++[⟨wd ws 1,if b=true then Rf.wSecret else Rf.wPublic,0⟩]):=by
 unfold Lk.E6 at e
 split at e
 ·rename_i hc
  split at e
  ·rename_i r2 hd
   cases e
   obtain ⟨h1,h2,rfl⟩:=Vq hd
   have hk: ¬(if b=true then Rf.wSecret else Rf.wPublic)=Rf.wArray:=by cases b <;> decide
   have hin:Bc ⟨wd ws 1,if b=true then Rf.wSecret else Rf.wPublic,0⟩=true:=by cases b <;> rfl
   obtain ⟨s1,s2⟩:=iz ds ⟨wd ws 1,if b=true then Rf.wSecret else Rf.wPublic,0⟩ hk
   have hs:=h.Pv
   refine ⟨Z_ h h1 h2 _ rfl (1,r.Ah.length) ?_ _ rfl,by rw[s2];exact h.AR,?_,?_,?_⟩
   ·rw[if_neg hk, ←h.Pv,hc.2.2];rfl
   ·rw[s1, ←h.Pv];simp;omega
   ·rw[List.filter_append,List.filter_cons,if_pos hin,List.map_append, ←h.sec]
    cases b <;> rfl
   ·intro d Gh
    rcases List.mem_append.1 Gh with Gh|Gh
    ·exact h.ss d Gh
    ·rw[List.mem_singleton.1 Gh];exact Nat.zero_le _
  ·cases e
 ·cases e
theorem acP (h:NR r ds) (e:Lk.FW r ws=some r'):NR r' (ds++[⟨wd ws 1,Rf.wVar,0⟩]):=by
 unfold Lk.FW at e
 split at e
 ·rename_i hc
  split at e
  ·rename_i r2 hd
   cases e
   obtain ⟨h1,h2,rfl⟩:=Vq hd
   have hk: ¬Rf.wVar=Rf.wArray:=by decide
   have hin:Bc ⟨wd ws 1,Rf.wVar,0⟩=false:=rfl
   obtain ⟨s1,s2⟩:=iz ds ⟨wd ws 1,Rf.wVar,0⟩ hk
   refine ⟨Z_ h h1 h2 _ rfl (1,r.Ah.length+r.vars) ?_ _ rfl,by rw[s2];exact h.AR,?_,?_,?_⟩
   ·rw[if_neg hk, ←h.Pv]
   ·rw[s1, ←h.Pv];show r.Ah.length+(r.vars+1)=_;omega
   ·rw[List.filter_append,List.filter_cons,if_neg (by rw[hin];simp),List.map_append, ←h.sec]
    simp
   ·intro d Gh
    rcases List.mem_append.1 Gh with Gh|Gh
    ·exact h.ss d Gh
    ·rw[List.mem_singleton.1 Gh];exact Nat.zero_le _
  ·cases e
 ·cases e
theorem yA (h:NR r ds) (e:Lk.FV r ws=some r'): ∃ n,Lk.num? (wd ws 2)=some n∧NR r' (ds++[⟨wd ws 1,Rf.wArray,n⟩]):=by
 unfold Lk.FV at e
 split at e
 ·rename_i hc
  split at e
  ·rename_i n hn
   split at e
   ·rename_i hle
    split at e
    ·rename_i r2 hd
     cases e
     obtain ⟨h1,h2,rfl⟩:=Vq hd
     obtain ⟨s1,s2⟩:=xz ds ⟨wd ws 1,Rf.wArray,n⟩ rfl
     have hin:Bc ⟨wd ws 1,Rf.wArray,n⟩=false:=by
      show (Rf.wArray==Rf.wSecret||Rf.wArray==Rf.wPublic)=false
      decide
     refine ⟨n,hn,Z_ h h1 h2 _ rfl (2,r.cells.length) ?_ _ rfl,?_,?_,?_,?_⟩
     ·rw[if_pos rfl,h.AR,y9]
     ·rw[s2, ←h.AR]
     ·rw[s1, ←h.Pv]
     ·rw[List.filter_append,List.filter_cons,if_neg (by rw[hin];simp),List.map_append, ←h.sec]
      simp
     ·intro d Gh
      rcases List.mem_append.1 Gh with Gh|Gh
      ·exact h.ss d Gh
      ·rw[List.mem_singleton.1 Gh];exact hle.2
    ·cases e
   ·cases e
  ·cases e
 ·cases e
structure Same (r r':RS):Prop where
 l:r'.letters=r.letters
 c:r'.cells=r.cells
 s:r'.Ah=r.Ah
 v:r'.vars=r.vars
theorem NR.same (h:NR r ds) (k:Same r r'):NR r' ds:=
 ⟨fun w=>(by rw[←h.Af w];unfold Lk.find;rw[k.l]),by rw[k.c];exact h.AR,by rw[k.s,k.v];exact h.Pv,by rw[k.s];exact h.sec,h.ss⟩
open Lk (Wd wd RS isName lat)
variable {r r':RS} {ws:List Wd}
theorem QW (r:RS):Lk.atom? r=Jr (Lk.find r):=by
 funext w
 unfold Lk.atom? Jr
 rfl
def MD (r r':RS) (s:Lk.St):Prop:=r.stmts<12∧r'={ r with stmts:=r.stmts+1,body:=r.body++[{ s with next:=r.body.length+1 }] }
theorem QX {s:Lk.St} (e:Lk.add r s=some r'):MD r r' s:=by
 unfold Lk.add at e
 split at e
 ·rename_i h;cases e;exact ⟨h,rfl⟩
 ·cases e
theorem MD.same {s:Lk.St} (h:MD r r' s):Same r r':=by
 obtain ⟨_,rfl⟩:=h
 exact ⟨rfl,rfl,rfl,rfl⟩
theorem find_eq {w:Wd} {k:Nat} (h:(Lk.find r w).1=k):Lk.find r w=(k,(Lk.find r w).2):=by rw[←h]
theorem ab0 (e:Lk.Hh r ws=some r') (h0:wd ws 0=Rf.wOut): ∃ s,MD r r' s∧s.kind=3∧Gg (Lk.find r) s ws:=by
 unfold Lk.Hh at e
 split at e
 ·split at e
  ·rename_i x hx
   rw[QW] at hx
   exact ⟨_,QX e,rfl,⟨fun _=>⟨h0,hx⟩,fun h=>(by rcases h with h|h <;> cases h),fun h=>(by cases h),fun h=>(by cases h),fun h=>(by cases h)⟩⟩
  ·cases e
 ·cases e
theorem yB (e:Lk.Hc r ws=some r') (h0:wd ws 0=Rf.wLoad): ∃ s,MD r r' s∧s.kind=1∧Gg (Lk.find r) s ws:=by
 unfold Lk.Hc at e
 split at e
 ·rename_i hc
  split at e
  ·rename_i x hx
   rw[QW] at hx
   exact ⟨_,QX e,rfl,⟨fun h=>(by cases h),fun h=>(by rcases h with h|h <;> cases h),fun _=>⟨h0,find_eq hc.2.1,find_eq hc.2.2,hx⟩,fun h=>(by cases h),fun h=>(by cases h)⟩⟩
  ·cases e
 ·cases e
theorem uB (e:Lk.Hb r ws=some r') (h0:wd ws 0=Rf.wStore): ∃ s,MD r r' s∧s.kind=2∧Gg (Lk.find r) s ws:=by
 unfold Lk.Hb at e
 split at e
 ·rename_i hc
  split at e
  ·rename_i x y hx hy
   rw[QW] at hx hy
   exact ⟨_,QX e,rfl,⟨fun h=>(by cases h),fun h=>(by rcases h with h|h <;> cases h),fun h=>(by cases h),fun _=>⟨h0,find_eq hc.2,hx,hy⟩,fun h=>(by cases h)⟩⟩
  ·cases e
 ·cases e
theorem ql (e:Lk.GN r ws=some r') (h1:wd ws 0≠Rf.wOut) (h2:wd ws 0≠Rf.wLoad) (h3:wd ws 0≠Rf.wStore): ∃ s,MD r r' s∧s.kind=0∧Gg (Lk.find r) s ws:=by
 unfold Lk.GN at e
 split at e
 ·rename_i hc
  split at e
  ·rename_i x hx
   rw[QW] at hx
   split at e
   ·rename_i hl
    exact ⟨_,QX e,rfl,⟨fun h=>(by cases h),fun h=>(by rcases h with h|h <;> cases h),fun h=>(by cases h),fun h=>(by cases h),fun _=>⟨h1,h2,h3,find_eq hc.2.2,hx,.inl ⟨hl,rfl⟩⟩⟩⟩
   ·rename_i hl
    split at e
    ·rename_i o y ho hy
     rw[QW] at hy
     exact ⟨_,QX e,rfl,⟨fun h=>(by cases h),fun h=>(by rcases h with h|h <;> cases h),fun h=>(by cases h),fun h=>(by cases h),fun _=>⟨h1,h2,h3,find_eq hc.2.2,hx,.inr ⟨hc.1.resolve_left hl,ho,hy⟩⟩⟩⟩
    ·cases e
  ·cases e
 ·cases e
theorem fI {k:Nat} (hk:k=4∨k=5) (e:Lk.FD r ws k=some r'): ∃ s q,MD r q s∧r'={ q with opn:=Lk.upd q.opn q.depth (r.body.length,0),depth:=q.depth+1 }∧s.kind=k∧Gg (Lk.find r) s ws:=by
 unfold Lk.FD at e
 split at e
 ·split at e
  ·rename_i x hx
   rw[QW] at hx
   split at e
   ·rename_i q hq
    cases e
    refine ⟨_,q,QX hq,rfl,rfl,⟨fun h=>?_,fun _=>hx,fun h=>?_,fun h=>?_,fun h=>?_⟩⟩
    ·have h':k=3:=h;omega
    ·have h':k=1:=h;omega
    ·have h':k=2:=h;omega
    ·have h':k=0:=h;omega
   ·cases e
  ·cases e
 ·cases e
end Go.Proofs.YtgddmpmcnjlcjaaGreatDoor.Tm
namespace Go.Proofs.YtgddmpmcnjlcjaaGreatDoor.Lk
set_option linter.unusedVariables false
def glue (c:UInt8):List Wd→Wd
 |[]=>[]
 |[x]=>x
 |x::y::r=>x++c::glue c (y::r)
theorem yC (c:UInt8) (l:Wd):glue c (cut c l)=l:=by
 induction l with
 |nil=>rfl
 |cons x xs ih=>
  have hne:=Ip c xs
  unfold cut
  split
  ·rename_i hx
   cases hc:cut c xs with
   |nil=>exact absurd hc hne
   |cons y ys=>
    rw[hc] at ih
    show []++c::glue c (y::ys)=x::xs
    rw[ih,hx];rfl
  ·cases hc:cut c xs with
   |nil=>exact absurd hc hne
   |cons y ys=>
    rw[hc] at ih
    cases ys with
    |nil=>
     have ih':y=xs:=ih
     show x::y=x::xs
     rw[ih']
    |cons z zs=>
     have ih':y++c::glue c (z::zs)=xs:=ih
     show (x::y)++c::glue c (z::zs)=x::xs
     rw[List.cons_append,ih']
end Go.Proofs.YtgddmpmcnjlcjaaGreatDoor.Lk
namespace Go.Proofs.YtgddmpmcnjlcjaaGreatDoor.Tm
open Lk (Wd wd RS isName lat)
set_option linter.unusedVariables false
def goN (L:List Wd):Nat→Nat→RS→Option RS
 |_,0,r=>some r
 |a,n+1,r=>match Lk.take r (Lk.cut 32 (L.getD a [])) with
  |some r1=>goN L (a+1) n r1
  |none=>none
theorem yD (L:List Wd) (n:Nat) (a k:Nat) (r:RS) (ha:a+n+1=L.length) (h:(Lk.lines r k (L.drop a)).2=0):goN L a n r=some (Lk.lines r k (L.drop a)).1∧(Lk.lines r k (L.drop a)).1.depth=0:=by
 induction n generalizing a k r with
 |zero=>
  have e:L.drop a=[L[a]]:=by rw[List.drop_eq_getElem_cons (by omega),List.drop_of_length_le (by omega)]
  rw[e] at h ⊢
  unfold Lk.lines at h ⊢
  split at h
  ·rename_i hc;rw[if_pos hc];exact ⟨rfl,hc.2⟩
  ·simp at h
 |succ n ih=>
  have e:L.drop a=L[a]::L[a+1]::L.drop (a+2):=by rw[List.drop_eq_getElem_cons (by omega),List.drop_eq_getElem_cons (by omega)]
  have e2:L.drop (a+1)=L[a+1]::L.drop (a+2):=List.drop_eq_getElem_cons (by omega)
  have eg:L.getD a []=L[a]:=by rw[List.getD_eq_getElem?_getD,List.getElem?_eq_getElem (by omega)];rfl
  rw[e] at h ⊢
  cases ht:Lk.take r (Lk.cut 32 L[a]) with
  |none=>
   have:Lk.lines r k (L[a]::L[a+1]::L.drop (a+2))=(r,k+1):=by conv=>lhs;unfold Lk.lines;rw[ht]
   rw[this] at h
   simp at h
  |some r1=>
   have el:Lk.lines r k (L[a]::L[a+1]::L.drop (a+2))=Lk.lines r1 (k+1) (L.drop (a+1)):=by conv=>lhs;unfold Lk.lines;rw[ht, ←e2]
   rw[el] at h ⊢
   have:=ih (a+1) (k+1) r1 (by omega) h
   refine ⟨?_,this.2⟩
   show (match Lk.take r (Lk.cut 32 (L.getD a [])) with|some r1=>goN L (a+1) n r1|none=>none)=_
   rw[eg,ht]
   exact this.1
theorem go_step {L:List Wd} {a n:Nat} {r rf:RS} (h:goN L a (n+1) r=some rf): ∃ r1,Lk.take r (Lk.cut 32 (L.getD a []))=some r1∧goN L (a+1) n r1=some rf:=by
 unfold goN at h
 cases ht:Lk.take r (Lk.cut 32 (L.getD a [])) with
 |none=>rw[ht] at h;cases h
 |some r1=>rw[ht] at h;exact ⟨r1,rfl,h⟩
theorem j5 {l x:Wd} (h:(Lk.cut 32 l).length=1) (hx:wd (Lk.cut 32 l) 0=x):l=x:=by
 have hg:=Lk.yC 32 l
 cases hc:Lk.cut 32 l with
 |nil=>rw[hc] at h;cases h
 |cons y ys=>
  cases ys with
  |cons z zs=>rw[hc] at h;simp at h
  |nil=>
   rw[hc] at hg hx
   exact hg.symm.trans hx
end Go.Proofs.YtgddmpmcnjlcjaaGreatDoor.Tm
