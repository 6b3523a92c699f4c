import Derived.Test.YtgddmpmcnjlcjaaGreatDoorB09
import Derived.WalkSmall
namespace Go.Proofs.YtgddmpmcnjlcjaaGreatDoor
open Go.RowKit
set_option linter.unusedVariables false
structure A9 (base:Nat) (S:Nat→Prop) (w w':World):Prop where
 A8:Below base w w'
 keep: ∀ k,k<w.heap.size→ ¬S k→w'.heap[k]? =w.heap[k]?
namespace A9
variable {base:Nat} {S:Nat→Prop} {a w w':World}
theorem refl (base:Nat) (S:Nat→Prop) (w:World):A9 base S w w:=⟨Below.refl _ _,fun _ _ _=>rfl⟩
theorem Ap (h:Below w.heap.size w w') (hb:base≤w.heap.size):A9 base S w w':=⟨h.mono hb,fun k hk _=>h.block k hk⟩
theorem alloc (h:A9 base S a w) (hB:base≤w.heap.size) (o:Obj):A9 base S a (w.alloc o):=
 ⟨h.A8.alloc hB o,fun k hk hs=>(Below.heap_alloc w o k (Nat.lt_of_lt_of_le hk h.A8.size)).trans (h.keep k hk hs)⟩
theorem drew (h:A9 base S a w):A9 base S a w.drew:=⟨h.A8.drew,h.keep⟩
theorem grown {row:Option Nat} (h:A9 base S a w) (hg:w.grownBy w' row) (hB:base≤w.heap.size) (hr: ∀ k,row=some k→base≤k∧S k):A9 base S a w':=
 ⟨h.A8.grown hg hB (fun k hk=>(hr k hk).1),fun k hk hs=>(hg.block k (Nat.lt_of_lt_of_le hk h.A8.size) (fun e=>hs (hr k e.symm).2)).trans (h.keep k hk hs)⟩
theorem setCell (h:A9 base S a w) {p:Addr} (hp:base≤p.block) (hs:S p.block) (u:Value):A9 base S a (w.setCell p u):=
 ⟨h.A8.setCell hp u,fun k hk hk2=>(Below.heap_setCell w p u k (fun e=>hk2 (by rw[e];exact hs))).trans (h.keep k hk hk2)⟩
end A9
theorem BP {w w':World} {base:Nat} {e:TypeId} {size:Nat} {v:Value} {n:Nat} {xs:List Value} (h:w.ownsRow base e size v n xs) (hb: ∀ k,v.ownBlock=some k→w'.heap[k]? =w.heap[k]?):w'.ownsRow base e size v n xs:=by
 refine ⟨h.1,?_⟩
 rcases h.2 with hn|⟨g,cap,cur,rfl,hb',hgg,rest⟩
 ·exact .inl hn
 ·exact .inr ⟨g,cap,cur,rfl,hb',by rw[hb g rfl];exact hgg,rest⟩
namespace A9
variable {base:Nat} {S T:Nat→Prop} {a b c w:World}
theorem trans (h:A9 base S a b) (k:A9 base T b c) (hT: ∀ k,k<a.heap.size→T k→S k):A9 base S a c:=
 ⟨h.A8.trans k.A8,fun j hj hs=>(k.keep j (Nat.lt_of_lt_of_le hj h.A8.size) (fun t=>hs (hT j hj t))).trans (h.keep j hj hs)⟩
theorem drewN (h:A9 base S a w) (n:Nat):A9 base S a (w.drewN n):=⟨below_drewN h.A8 n,h.keep⟩
theorem imp (h:A9 base S a b) (hT: ∀ k,k<a.heap.size→S k→T k):A9 base T a b:=⟨h.A8,fun j hj ht=>h.keep j hj (fun s=>ht (hT j hj s))⟩
theorem cell (h:A9 base S a b) {p:Addr} {v:Value} (hp:a.cell? p=some v) (hs: ¬S p.block):b.cell? p=some v:=
 (World.cell?_of_block (h.keep p.block (World.block_lt_of_cell? a p hp) hs)).trans hp
theorem frozen (h:A9 base S a b) {p:Addr} (hp:p.block<a.heap.size) (hs: ¬S p.block):b.frozen? p=a.frozen? p:=World.frozen?_of_block (h.keep p.block hp hs)
end A9
theorem Gl {a b c:World} (h:Below a.heap.size a b) (k:Below b.heap.size b c):Below a.heap.size a c:=h.trans (k.mono h.size)
theorem rU {a c:World} {n:Nat} (h:Below (a.drewN n).heap.size (a.drewN n) c):Below a.heap.size a c:=(below_drewN (Below.refl _ a) n).trans h
namespace A9
variable {base:Nat} {S:Nat→Prop} {a b c:World}
theorem lift (h:A9 0 S a b) (hS: ∀ k,k<a.heap.size→S k→base≤k) (hB:base≤a.heap.size):A9 base S a b:=
 ⟨⟨h.A8.os,h.A8.tape,h.A8.output,h.A8.size,fun k hk=>h.keep k (Nat.lt_of_lt_of_le hk hB) (fun s=>Nat.lt_irrefl k (Nat.lt_of_lt_of_le hk (hS k (Nat.lt_of_lt_of_le hk hB) s)))⟩,h.keep⟩
theorem down (h:A9 base S a b):A9 0 S a b:=⟨h.A8.mono (Nat.zero_le _),h.keep⟩
end A9
namespace Dg
structure Nd where
 bit:Nat:=0
 lo:Nat:=0
 hi:Nat:=0
 sec:Bool:=false
deriving DecidableEq,Inhabited
def Nd.cells (d:Nd):List Value:=[.int .i64 d.bit,.int .i64 d.lo,.int .i64 d.hi,.bool d.sec]
def AG (l:List Nd) (i:Nat):Nd:=l.getD i {}
structure St where
 nodes:List Nd:=[{},{}]
 heads:Nat→Nat:=fun _=>0
 behind:List Nat:=[0,0]
def look (nodes:List Nd) (behind:List Nat) (b lo hi:Nat):Nat→Nat→Nat
 |0,_=>0
 |f+1,n=>if n=0 then 0 else if (AG nodes n).bit=b∧(AG nodes n).lo=lo∧(AG nodes n).hi=hi then n else look nodes behind b lo hi f (behind.getD n 0)
def chain (M b lo hi:Nat):Nat:=(b+lo*7919+hi*104729)%M
def found (M:Nat) (s:St) (b lo hi:Nat):Nat:=look s.nodes s.behind b lo hi s.nodes.length (s.heads (chain M b lo hi))
def Si (sec:List Bool) (s:St) (b lo hi:Nat):Nd:=⟨b,lo,hi,sec.getD (b/4) false||(AG s.nodes lo).sec||(AG s.nodes hi).sec⟩
def push (sec:List Bool) (M:Nat) (s:St) (b lo hi:Nat):St:=
 { nodes:=s.nodes++[Si sec s b lo hi],heads:=fun i=>if i=chain M b lo hi then s.nodes.length else s.heads i,behind:=s.behind++[s.heads (chain M b lo hi)] }
def CM (sec:List Bool) (M:Nat) (s:St) (b lo hi:Nat):Nat×St:=
 if lo=hi then (lo,s) else if found M s b lo hi≠0 then (found M s b lo hi,s) else (s.nodes.length,push sec M s b lo hi)
structure Ok (n M:Nat) (s:St):Prop where
 two:2≤s.nodes.length
 len:s.behind.length=s.nodes.length
 dec: ∀ i,0<i→i<s.nodes.length→s.behind.getD i 0<i
 heads: ∀ i,s.heads i<s.nodes.length
 lo: ∀ i,2≤i→i<s.nodes.length→(AG s.nodes i).lo<i
 hi: ∀ i,2≤i→i<s.nodes.length→(AG s.nodes i).hi<i
 bit: ∀ i,2≤i→i<s.nodes.length→(AG s.nodes i).bit<4*n
theorem ok0 (n M:Nat):Ok n M {}:=⟨by simp,rfl,fun i h h2=>by
  have h2:i<2:=h2
  have:i=1:=by omega
  subst this
  decide,fun i=>by simp,fun i h h2=>absurd (show i<2 from h2) (by omega),fun i h h2=>absurd (show i<2 from h2) (by omega),fun i h h2=>absurd (show i<2 from h2) (by omega)⟩
theorem Vb (l:List Nd) (d:Nd) (i:Nat) (h:i<l.length):AG (l++[d]) i=AG l i:=by simp[AG,List.getD_eq_getElem?_getD,List.getElem?_append_left h]
theorem QG (l:List Nd) (d:Nd):AG (l++[d]) l.length=d:=by simp[AG,List.getD_eq_getElem?_getD]
theorem Vc (l:List Nat) (d:Nat) (i:Nat) (h:i<l.length):(l++[d]).getD i 0=l.getD i 0:=by simp[List.getD_eq_getElem?_getD,List.getElem?_append_left h]
theorem Vd (l:List Nat) (d:Nat):(l++[d]).getD l.length 0=d:=by simp[List.getD_eq_getElem?_getD]
theorem Ok.push {n M:Nat} {s:St} (h:Ok n M s) (sec:List Bool) {b lo hi:Nat} (hb:b<4*n) (hl:lo<s.nodes.length) (hh:hi<s.nodes.length):Ok n M (push sec M s b lo hi):=by
 have hL:(Dg.push sec M s b lo hi).nodes.length=s.nodes.length+1:=by simp[Dg.push]
 refine ⟨by rw[hL];have:=h.two;omega,by rw[hL];simp[Dg.push,h.len],fun i h0 h1=>?_,fun i=>?_,fun i h0 h1=>?_,fun i h0 h1=>?_,fun i h0 h1=>?_⟩
 all_goals try rw[hL] at h1
 ·show (s.behind++[s.heads (chain M b lo hi)]).getD i 0<i
  by_cases c:i<s.nodes.length
  ·rw[Vc _ _ _ (by rw[h.len];exact c)]
   exact h.dec i h0 c
  ·have:i=s.behind.length:=by rw[h.len];omega
   subst this
   rw[Vd,h.len]
   exact h.heads _
 ·rw[hL]
  show (if i=chain M b lo hi then s.nodes.length else s.heads i)<_
  have:=h.heads i
  split <;> omega
 ·show (AG (s.nodes++[_]) i).lo<i
  by_cases c:i<s.nodes.length
  ·rw[Vb _ _ _ c];exact h.lo i h0 c
  ·have:i=s.nodes.length:=by omega
   subst this
   rw[QG]
   exact hl
 ·show (AG (s.nodes++[_]) i).hi<i
  by_cases c:i<s.nodes.length
  ·rw[Vb _ _ _ c];exact h.hi i h0 c
  ·have:i=s.nodes.length:=by omega
   subst this
   rw[QG]
   exact hh
 ·show (AG (s.nodes++[_]) i).bit<4*n
  by_cases c:i<s.nodes.length
  ·rw[Vb _ _ _ c];exact h.bit i h0 c
  ·have:i=s.nodes.length:=by omega
   subst this
   rw[QG]
   exact hb
theorem ZF (nodes:List Nd) (behind:List Nat) (b lo hi:Nat) (hd: ∀ i,0<i→i<nodes.length→behind.getD i 0<i) (f:Nat): ∀ n,n<nodes.length→look nodes behind b lo hi f n<nodes.length:=by
 induction f with
 |zero=>intro n h;show 0<_;omega
 |succ f ih=>
  intro n h
  unfold look
  by_cases c:n=0
  ·rw[if_pos c];omega
  ·rw[if_neg c]
   split
   ·exact h
   ·exact ih _ (by have:=hd n (by omega) h;omega)
theorem Ok.found {n M:Nat} {s:St} (h:Ok n M s) (b lo hi:Nat):found M s b lo hi<s.nodes.length:=ZF _ _ _ _ _ h.dec _ _ (h.heads _)
theorem Ok.made {n M:Nat} {s:St} (h:Ok n M s) (sec:List Bool) {b lo hi:Nat} (hb:b<4*n) (hl:lo<s.nodes.length) (hh:hi<s.nodes.length):
  Ok n M (CM sec M s b lo hi).2∧(CM sec M s b lo hi).1<(CM sec M s b lo hi).2.nodes.length∧s.nodes.length≤(CM sec M s b lo hi).2.nodes.length∧(CM sec M s b lo hi).2.nodes.length≤s.nodes.length+1:=by
 unfold Dg.CM
 split
 ·exact ⟨h,hl,Nat.le_refl _,Nat.le_succ _⟩
 ·split
  ·exact ⟨h,h.found b lo hi,Nat.le_refl _,Nat.le_succ _⟩
  ·have hL:(Dg.push sec M s b lo hi).nodes.length=s.nodes.length+1:=by simp[Dg.push]
   exact ⟨h.push sec hb hl hh,by rw[hL];simp,by rw[hL];omega,by rw[hL];omega⟩
def Fa (T:Nat→List Nat) (step bit i:Nat):Nat:=(T i).getD step 0 >>> bit &&& 1
def Bo (sec:List Bool) (M b:Nat) (s:St) (r:Nat→Nat):Nat→St×(Nat→Nat)
 |0=>(s,r)
 |i+1=>let x:=Bo sec M b s r i;let y:=CM sec M x.1 b (x.2 (2*i)) (x.2 (2*i+1));(y.2,fun j=>if j=i then y.1 else x.2 j)
def CG (sec:List Bool) (M:Nat) (bits:List Nat) (s:St) (r:Nat→Nat) (rest:Nat):Nat→St×(Nat→Nat)
 |0=>(s,r)
 |L+1=>let x:=CG sec M bits s r rest L;Bo sec M (bits.getD L 0) x.1 x.2 (rest/2 ^ (L+1))
theorem jQ {n M b:Nat} {s:St} {r:Nat→Nat} (sec:List Bool) (h:Ok n M s) (hr: ∀ j,r j<s.nodes.length) (hb:b<4*n) (i:Nat):
  Ok n M (Bo sec M b s r i).1∧(∀ j,(Bo sec M b s r i).2 j<(Bo sec M b s r i).1.nodes.length)∧s.nodes.length≤(Bo sec M b s r i).1.nodes.length∧(Bo sec M b s r i).1.nodes.length≤s.nodes.length+i:=by
 induction i with
 |zero=>exact ⟨h,hr,Nat.le_refl _,Nat.le_refl _⟩
 |succ i ih=>
  obtain ⟨h1,h2,h3,h4⟩:=ih
  obtain ⟨k1,k2,k3,k4⟩:=h1.made sec hb (h2 (2*i)) (h2 (2*i+1))
  refine ⟨k1,fun j=>?_,Nat.le_trans h3 k3,by have:=k4;show (CM sec M _ b _ _).2.nodes.length≤_;omega⟩
  show (if j=i then _ else _)<(CM sec M _ b _ _).2.nodes.length
  split
  ·exact k2
  ·exact Nat.lt_of_lt_of_le (h2 j) k3
theorem half (R L:Nat):2*(R/2 ^ (L+1))≤R/2 ^ L:=by
 rw[Nat.pow_succ, ←Nat.div_div_eq_div_mul]
 omega
theorem ZG {n M rest:Nat} {s:St} {r:Nat→Nat} (sec:List Bool) (bits:List Nat) (h:Ok n M s) (hr: ∀ j,r j<s.nodes.length) (hb: ∀ i,i<bits.length→bits.getD i 0<4*n) (L:Nat) (hL:L≤bits.length):
  Ok n M (CG sec M bits s r rest L).1∧(∀ j,(CG sec M bits s r rest L).2 j<(CG sec M bits s r rest L).1.nodes.length)∧s.nodes.length≤(CG sec M bits s r rest L).1.nodes.length∧(CG sec M bits s r rest L).1.nodes.length+rest/2 ^ L≤s.nodes.length+rest:=by
 induction L with
 |zero=>exact ⟨h,hr,Nat.le_refl _,by simp[CG]⟩
 |succ L ih=>
  obtain ⟨h1,h2,h3,h4⟩:=ih (by omega)
  obtain ⟨k1,k2,k3,k4⟩:=jQ sec h1 h2 (hb L (by omega)) (rest/2 ^ (L+1))
  refine ⟨k1,k2,Nat.le_trans h3 k3,?_⟩
  show (Bo sec M _ _ _ _).1.nodes.length+_≤_
  have:=half rest L
  omega
theorem Vs (T:Nat→List Nat) (step bit i:Nat):Fa T step bit i<2:=by
 have h1:(T i).getD step 0 >>> bit &&& 1≤1:=Nat.and_le_right
 show (T i).getD step 0 >>> bit &&& 1<2
 omega
def D7 (sec:List Bool) (M:Nat) (bits:List Nat) (T:Nat→List Nat):Nat→St×List Nat
 |0=>({},[])
 |c+1=>let x:=D7 sec M bits T c;let y:=CG sec M bits x.1 (Fa T (c/7) (c%7)) M bits.length;(y.1,x.2++[y.2 0])
theorem Zd (n:Nat) (sec:List Bool) (M:Nat) (bits:List Nat) (T:Nat→List Nat) (hb: ∀ i,i<bits.length→bits.getD i 0<4*n) (c:Nat):
  Ok n M (D7 sec M bits T c).1∧(D7 sec M bits T c).2.length=c∧(∀ j,j<c→(D7 sec M bits T c).2.getD j 0<(D7 sec M bits T c).1.nodes.length)∧(D7 sec M bits T c).1.nodes.length≤2+c*M:=by
 induction c with
 |zero=>exact ⟨ok0 n M,rfl,fun j h=>absurd h (by omega),by simp[D7]⟩
 |succ c ih=>
  obtain ⟨h1,h2,h3,h4⟩:=ih
  obtain ⟨k1,k2,k3,k4⟩:=ZG (rest:=M) (r:=Fa T (c/7) (c%7)) sec bits h1 (fun j=>Nat.lt_of_lt_of_le (Vs T (c/7) (c%7) j) h1.two) hb bits.length (Nat.le_refl _)
  refine ⟨k1,by show (_++[_]).length=_;rw[List.length_append,h2];rfl,fun j hj=>?_,?_⟩
  ·show ((D7 sec M bits T c).2++[_]).getD j 0<(CG sec M bits _ _ M bits.length).1.nodes.length
   by_cases e:j<c
   ·rw[Vc _ _ _ (by rw[h2];exact e)]
    exact Nat.lt_of_lt_of_le (h3 j e) k3
   ·have:j=(D7 sec M bits T c).2.length:=by rw[h2];omega
    rw[this,Vd]
    exact k2 0
  ·show (CG sec M bits (D7 sec M bits T c).1 (Fa T (c/7) (c%7)) M bits.length).1.nodes.length≤_
   rw[Nat.succ_mul]
   generalize M/2 ^ bits.length=q at k4
   omega
theorem vG (n:Nat) (sec:List Bool) (M:Nat) (bits:List Nat) (T:Nat→List Nat) (hb: ∀ i,i<bits.length→bits.getD i 0<4*n) (c d:Nat) (h:c≤d):(D7 sec M bits T c).1.nodes.length≤(D7 sec M bits T d).1.nodes.length:=by
 induction d with
 |zero=>rw[Nat.le_zero.1 h];exact Nat.le_refl _
 |succ d ih=>
  by_cases e:c≤d
  ·obtain ⟨h1,_⟩:=Zd n sec M bits T hb d
   obtain ⟨k1,k2,k3,k4⟩:=ZG (rest:=M) (r:=Fa T (d/7) (d%7)) sec bits h1 (fun j=>Nat.lt_of_lt_of_le (Vs T (d/7) (d%7) j) h1.two) hb bits.length (Nat.le_refl _)
   exact Nat.le_trans (ih e) k3
  ·have:c=d+1:=by omega
   subst this
   exact Nat.le_refl _
end Dg
def JY (pv:Nat→Value) (vN vH vB vR:Value) (i:Nat):Value:=if i<5 then pv i else if i=5 then vN else if i=6 then vH else if i=7 then vB else vR
abbrev sl (g n c:Nat):Value:=.slice (some ⟨g,0,none⟩) n c
structure BA (w0:World) (mb gh gr M:Nat) (s:Dg.St) (r:Nat→Nat) (pv:Nat→Value) (vN vB:Value) (w:World):Prop where
 row:w.rowIs mb 100 9 (JY pv vN (sl gh M M) vB (sl gr M M))
 nodes:w.ownsRow w0.heap.size 153 4 vN s.nodes.length (s.nodes.flatMap Dg.Nd.cells)
 behind:w.ownsRow w0.heap.size 3 1 vB s.behind.length (s.behind.map fun (n:Nat)=>.int .i64 n)
 heads:w.rowIs gh 3 M (fun i=>.int .i64 (s.heads i))
 rows:w.rowIs gr 3 M (fun i=>.int .i64 (r i))
 bm:w0.heap.size≤mb
 bh:w0.heap.size≤gh
 br:w0.heap.size≤gr
 LU:gh≠gr
 LV:vB.ownBlock≠some gh
 LW:vB.ownBlock≠some gr
 A8:Below w0.heap.size w0 w
section
variable {w0 w:World} {mb gh gr M:Nat} {s:Dg.St} {r:Nat→Nat} {pv:Nat→Value} {vN vB:Value}
theorem Cj {b c n m:Nat} {t e:TypeId} {f g:Nat→Value} (h:w.rowIs b t n f) (k:w.rowIs c e m g) (ht:t≠e):b≠c:=by
 rintro rfl
 obtain ⟨cs,hg, -⟩:=h
 obtain ⟨cs2,hg2, -⟩:=k
 rw[hg] at hg2
 cases hg2
 exact ht rfl
theorem Ij {base b n m sz:Nat} {t e:TypeId} {v:Value} {xs:List Value} {f:Nat→Value} (h:w.ownsRow base e sz v n xs) (hr:w.rowIs b t m f) (ht:t≠e):v.ownBlock≠some b:=by
 intro hv
 obtain ⟨cs,hg, -⟩:=hr
 rcases h.2 with ⟨e1,_⟩|⟨g,cap,cur,rfl,_,hgg,_⟩
 ·rw[e1] at hv;simp[Value.ownBlock] at hv
 ·have e1:g=b:=by simpa[Value.ownBlock] using hv
  subst e1
  rw[hg] at hgg
  cases hgg
  exact ht rfl
theorem BA.setRow (h:BA w0 mb gh gr M s r pv vN vB w) (i v:Nat):BA w0 mb gh gr M s (fun j=>if j=i then v else r j) pv vN vB (w.setCell ⟨gr,i,none⟩ (.int .i64 v)):=
 ⟨h.row.setOther (Cj h.row h.rows (by decide)) _,BC h.nodes (Ij h.nodes h.rows (by decide)) _,BC h.behind h.LW _,h.heads.setOther h.LU _,(h.rows.set i _).congr (fun j _=>by split <;> rfl),h.bm,h.bh,h.br,h.LU,h.LV,h.LW,h.A8.setCell h.br _⟩
theorem BA.drew (h:BA w0 mb gh gr M s r pv vN vB w):BA w0 mb gh gr M s r pv vN vB w.drew:=
 ⟨h.row.drew,h.nodes,h.behind,h.heads.drew,h.rows.drew,h.bm,h.bh,h.br,h.LU,h.LV,h.LW,h.A8.drew⟩
theorem BA.congr (h:BA w0 mb gh gr M s r pv vN vB w) {r':Nat→Nat} (e: ∀ i,i<M→r i=r' i):BA w0 mb gh gr M s r' pv vN vB w:=
 ⟨h.row,h.nodes,h.behind,h.heads,h.rows.congr (fun i hi=>by rw[e i hi]),h.bm,h.bh,h.br,h.LU,h.LV,h.LW,h.A8⟩
theorem BA.alloc (h:BA w0 mb gh gr M s r pv vN vB w) (o:Obj):BA w0 mb gh gr M s r pv vN vB (w.alloc o):=
 ⟨h.row.alloc o,h.nodes.alloc o,h.behind.alloc o,h.heads.alloc o,h.rows.alloc o,h.bm,h.bh,h.br,h.LU,h.LV,h.LW,h.A8.alloc h.A8.size o⟩
end
theorem QR {w:World} {base:Nat} {e:TypeId} {l:List Nat} {g cap:Nat} (h:w.ownsRow base e 1 (.slice (some ⟨g,0,none⟩) l.length cap) l.length (l.map fun (n:Nat)=>.int .i64 n)) (i:Nat) (hi:i<l.length):w.cell? ⟨g,i,none⟩=some (.int .i64 (l.getD i 0)):=by
 rw[h.cellAt i (by omega)];simp[hi]
namespace Dg
theorem Jm (l:List Nd): ∀ (i j:Nat),i<l.length→j<4→(l.flatMap Nd.cells)[i*4+j]? =(AG l i).cells[j]? :=by
 induction l with
 |nil=>intro i j h;exact absurd h (by simp)
 |cons a l ih=>
  intro i j h hj
  rw[List.flatMap_cons]
  cases i with
  |zero=>rw[List.getElem?_append_left (by simp[Nd.cells];omega)];simp[AG]
  |succ i=>
   rw[List.getElem?_append_right (by simp[Nd.cells];omega),show a.cells.length=4 from rfl,show (i+1)*4+j - 4=i*4+j by omega,ih i j (by simpa using h) hj]
   simp[AG]
end Dg
def CQ (mb gh gr:Nat) (vN vB Bn CJ:Value) (w w':World):Prop:=
 A9 0 (fun k=>k=mb∨k=gh∨k=gr∨vN.ownBlock=some k∨vB.ownBlock=some k) w w'∧(∀ k,Bn.ownBlock=some k→k<w.heap.size→vN.ownBlock=some k)∧(∀ k,CJ.ownBlock=some k→k<w.heap.size→vB.ownBlock=some k)
theorem CQ.refl (mb gh gr:Nat) (vN vB:Value) (w:World):CQ mb gh gr vN vB vN vB w w:=⟨A9.refl _ _ _,fun _ h _=>h,fun _ h _=>h⟩
theorem CQ.trans {mb gh gr:Nat} {vN vB Bn CJ PB PC:Value} {a b c:World} (h:CQ mb gh gr vN vB Bn CJ a b) (k:CQ mb gh gr Bn CJ PB PC b c):CQ mb gh gr vN vB PB PC a c:=
 ⟨h.1.trans k.1 (fun q hq t=>by
   rcases t with t|t|t|t|t
   ·exact .inl t
   ·exact .inr (.inl t)
   ·exact .inr (.inr (.inl t))
   ·exact .inr (.inr (.inr (.inl (h.2.1 q t hq))))
   ·exact .inr (.inr (.inr (.inr (h.2.2 q t hq))))),fun q e hq=>h.2.1 q (k.2.1 q e (Nat.lt_of_lt_of_le hq h.1.A8.size)) hq,fun q e hq=>h.2.2 q (k.2.2 q e (Nat.lt_of_lt_of_le hq h.1.A8.size)) hq⟩
theorem CQ.drew {mb gh gr:Nat} {vN vB Bn CJ:Value} {a b:World} (h:CQ mb gh gr vN vB Bn CJ a b):CQ mb gh gr vN vB Bn CJ a b.drew:=⟨h.1.drew,h.2.1,h.2.2⟩
section
variable {w0 w:World} {mb gh gr M:Nat} {s:Dg.St} {r:Nat→Nat} {pv:Nat→Value} {vN vB:Value}
theorem BA.TZ {gN cN:Nat} (h:BA w0 mb gh gr M s r pv (sl gN s.nodes.length cN) vB w) (i:Nat) (hi:i<s.nodes.length) (j:Nat) (hj:j<4):w.cell? ⟨gN,i*4+j,none⟩=(Dg.AG s.nodes i).cells[j]? :=(h.nodes.cellAt (i*4+j) (by omega)).trans (Dg.Jm _ i j hi hj)
theorem BA.bhc {gB cB:Nat} (h:BA w0 mb gh gr M s r pv vN (sl gB s.behind.length cB) w) (i:Nat) (hi:i<s.behind.length):w.cell? ⟨gB,i,none⟩=some (.int .i64 (s.behind.getD i 0)):=QR h.behind i hi
theorem BA.c5 (h:BA w0 mb gh gr M s r pv vN vB w):w.cell? ⟨mb,5,none⟩=some vN:=h.row.cell (i:=5) (by omega)
theorem BA.c6 (h:BA w0 mb gh gr M s r pv vN vB w):w.cell? ⟨mb,6,none⟩=some (sl gh M M):=h.row.cell (i:=6) (by omega)
theorem BA.c7 (h:BA w0 mb gh gr M s r pv vN vB w):w.cell? ⟨mb,7,none⟩=some vB:=h.row.cell (i:=7) (by omega)
theorem BA.c8 (h:BA w0 mb gh gr M s r pv vN vB w):w.cell? ⟨mb,8,none⟩=some (sl gr M M):=h.row.cell (i:=8) (by omega)
theorem eF {base base' n m sz sz':Nat} {t e:TypeId} {v u:Value} {xs ys:List Value} (h:w.ownsRow base e sz v n xs) (k:w.ownsRow base' t sz' u m ys) (ht:t≠e) (g:Nat) (hv:v.ownBlock=some g):u.ownBlock≠some g:=by
 intro hu
 rcases h.2 with ⟨e1,_⟩|⟨g1,cap,cur,rfl,_,hg1,_⟩
 ·rw[e1] at hv;simp[Value.ownBlock] at hv
 ·rcases k.2 with ⟨e2,_⟩|⟨g2,cap2,ak6,rfl,_,hg2,_⟩
  ·rw[e2] at hu;simp[Value.ownBlock] at hu
  ·have a1:g1=g:=by simpa[Value.ownBlock] using hv
   have a2:g2=g:=by simpa[Value.ownBlock] using hu
   subst a1
   subst a2
   rw[hg1] at hg2
   cases hg2
   exact ht rfl
theorem zC (pv:Nat→Value) (vN vH vB vR u:Value) (i:Nat) (hi:i<9):(if i=5 then u else JY pv vN vH vB vR i)=JY pv u vH vB vR i:=by
 unfold JY
 by_cases c:i=5
 ·subst c;rfl
 ·rw[if_neg c]
  by_cases c2:i<5
  ·rw[if_pos c2,if_pos c2]
  ·rw[if_neg c2,if_neg c2,if_neg c,if_neg c]
theorem vI (pv:Nat→Value) (vN vH vB vR u:Value) (i:Nat) (hi:i<9):(if i=7 then u else JY pv vN vH vB vR i)=JY pv vN vH u vR i:=by
 unfold JY
 by_cases c:i=7
 ·subst c;rfl
 ·rw[if_neg c]
  by_cases c2:i<5
  ·rw[if_pos c2,if_pos c2]
  ·rw[if_neg c2,if_neg c2]
   by_cases c3:i=5
   ·rw[if_pos c3,if_pos c3]
   ·rw[if_neg c3,if_neg c3]
    by_cases c4:i=6
    ·rw[if_pos c4,if_pos c4]
    ·rw[if_neg c4,if_neg c4,if_neg c,if_neg c]
theorem BA.Sj (h:BA w0 mb gh gr M s r pv vN vB w) (o:Obj) {w1:World} {Bn:Value} (d:Dg.Nd) (hown:w1.ownsRow w0.heap.size 153 4 Bn (s.nodes.length+1) (s.nodes.flatMap Dg.Nd.cells++d.cells)) (hg:(w.alloc o).grownBy w1 vN.ownBlock):
  BA w0 mb gh gr M { s with nodes:=s.nodes++[d] } r pv Bn vB (w1.setCell ⟨mb,5,none⟩ Bn):=by
 have h2:=h.alloc o
 have z:w0.heap.size≤(w.alloc o).heap.size:=h2.A8.size
 have Sv:=Ad h2.row hg (Ij h2.nodes h2.row (by decide))
 refine ⟨(Sv.set 5 Bn).congr (fun i hi=>zC _ _ _ _ _ _ i hi),?_,?_,?_,?_,h.bm,h.bh,h.br,h.LU,h.LV,h.LW,?_⟩
 ·have e1:(s.nodes++[d]).length=s.nodes.length+1:=by simp
  have e2:(s.nodes++[d]).flatMap Dg.Nd.cells=s.nodes.flatMap Dg.Nd.cells++d.cells:=by simp
  show World.ownsRow _ _ _ _ _ (s.nodes++[d]).length ((s.nodes++[d]).flatMap Dg.Nd.cells)
  rw[e1,e2]
  exact BC hown (Ij hown Sv (by decide)) _
 ·refine BC (BP h2.behind (fun k e=>hg.block k (h2.behind.lt k e).2 (fun e2=>eF h2.nodes h2.behind (by decide) k e2.symm e))) ?_ _
  exact Ij h2.behind h2.row (by decide)
 ·exact (Ad h2.heads hg (Ij h2.nodes h2.heads (by decide))).setOther (fun e=>Cj h2.row h2.heads (by decide) e.symm) _
 ·exact (Ad h2.rows hg (Ij h2.nodes h2.rows (by decide))).setOther (fun e=>Cj h2.row h2.rows (by decide) e.symm) _
 ·exact (h2.A8.grown hg z (fun k e=>(h.nodes.lt k e).1)).setCell h.bm _
theorem BA.aC (h:BA w0 mb gh gr M s r pv vN vB w) (o:Obj) {w1:World} {g' cap':Nat} (x:Nat) (hown:w1.ownsRow w0.heap.size 3 1 (sl g' (s.behind.length+1) cap') (s.behind.length+1) ((s.behind.map fun (n:Nat)=>.int .i64 n)++[.int .i64 x])) (hg:(w.alloc o).grownBy w1 vB.ownBlock) (hat:vB.ownBlock=some g'∨g'=w.heap.size+1):
  BA w0 mb gh gr M { s with behind:=s.behind++[x] } r pv vN (sl g' (s.behind.length+1) cap') (w1.setCell ⟨mb,7,none⟩ (sl g' (s.behind.length+1) cap')):=by
 have h2:=h.alloc o
 have z:w0.heap.size≤(w.alloc o).heap.size:=h2.A8.size
 have Sv:=Ad h2.row hg (Ij h2.behind h2.row (by decide))
 have lh:=h.heads.lt
 have lr:=h.rows.lt
 have ng: ∀ q,q<w.heap.size→vB.ownBlock≠some q→(sl g' (s.behind.length+1) cap').ownBlock≠some q:=fun q hq hn e=>by
  have e:g'=q:=by simpa[Value.ownBlock] using e
  rcases hat with c|c
  ·exact hn (by rw[c,e])
  ·omega
 refine ⟨(Sv.set 7 _).congr (fun i hi=>vI _ _ _ _ _ _ i hi),?_,?_,?_,?_,h.bm,h.bh,h.br,h.LU,ng _ lh h.LV,ng _ lr h.LW,?_⟩
 ·refine BC (BP h2.nodes (fun k e=>hg.block k (h2.nodes.lt k e).2 (fun e2=>eF h2.nodes h2.behind (by decide) k e e2.symm))) ?_ _
  exact Ij h2.nodes h2.row (by decide)
 ·have e1:(s.behind++[x]).length=s.behind.length+1:=by simp
  have e2:((s.behind++[x]).map fun (n:Nat)=>(Value.int .i64 n))=(s.behind.map fun (n:Nat)=>.int .i64 n)++[.int .i64 x]:=by simp
  show World.ownsRow _ _ _ _ _ (s.behind++[x]).length ((s.behind++[x]).map fun (n:Nat)=>(Value.int .i64 n))
  rw[e1,e2]
  exact BC hown (Ij hown Sv (by decide)) _
 ·exact (Ad h2.heads hg h.LV).setOther (fun e=>Cj h2.row h2.heads (by decide) e.symm) _
 ·exact (Ad h2.rows hg h.LW).setOther (fun e=>Cj h2.row h2.rows (by decide) e.symm) _
 ·exact (h2.A8.grown hg z (fun k e=>(h.behind.lt k e).1)).setCell h.bm _
theorem BA.E9 (h:BA w0 mb gh gr M s r pv vN vB w) {o:Obj} {w1:World} (hg:(w.alloc o).grownBy w1 vN.ownBlock):w1.rowIs mb 100 9 (JY pv vN (sl gh M M) vB (sl gr M M)):=Ad (h.alloc o).row hg (Ij (h.alloc o).nodes (h.alloc o).row (by decide))
theorem BA.abU (h:BA w0 mb gh gr M s r pv vN vB w) {o:Obj} {w1:World} (hg:(w.alloc o).grownBy w1 vN.ownBlock):w1.rowIs gh 3 M (fun i=>.int .i64 (s.heads i)):=Ad (h.alloc o).heads hg (Ij (h.alloc o).nodes (h.alloc o).heads (by decide))
theorem BA.ag2 (h:BA w0 mb gh gr M s r pv vN vB w) {o:Obj} {w1:World} (hg:(w.alloc o).grownBy w1 vB.ownBlock):w1.rowIs mb 100 9 (JY pv vN (sl gh M M) vB (sl gr M M)):=Ad (h.alloc o).row hg (Ij (h.alloc o).behind (h.alloc o).row (by decide))
theorem BA.ZH (h:BA w0 mb gh gr M s r pv vN vB w) (i v:Nat):BA w0 mb gh gr M { s with heads:=fun j=>if j=i then v else s.heads j } r pv vN vB (w.setCell ⟨gh,i,none⟩ (.int .i64 v)):=
 ⟨h.row.setOther (Cj h.row h.heads (by decide)) _,BC h.nodes (Ij h.nodes h.heads (by decide)) _,BC h.behind h.LV _,(h.heads.set i _).congr (fun j _=>by by_cases c:j=i <;> simp[c]),h.rows.setOther (fun e=>h.LU e.symm) _,h.bm,h.bh,h.br,h.LU,h.LV,h.LW,h.A8.setCell h.bh _⟩
theorem CQ.Sj {Bn CJ:Value} {a:World} (h:CQ mb gh gr vN vB Bn CJ a w) (o:Obj) {w1:World} {g' n' cap':Nat} (hg:(w.alloc o).grownBy w1 Bn.ownBlock) (hat:Bn.ownBlock=some g'∨g'=w.heap.size+1):CQ mb gh gr vN vB (sl g' n' cap') CJ a (w1.setCell ⟨mb,5,none⟩ (sl g' n' cap')):=by
 have z:=h.1.A8.size
 refine ⟨⟨((h.1.A8.alloc (Nat.zero_le _) o).grown hg (Nat.zero_le _) (fun _ _=>Nat.zero_le _)).setCell (Nat.zero_le _) _,fun k hk hs=>?_⟩,fun k e hk=>?_,h.2.2⟩
 ·rw[Below.heap_setCell w1 ⟨mb,5,none⟩ _ k (fun e=>hs (.inl e)),hg.block k (by simp;omega) (fun e=>hs (.inr (.inr (.inr (.inl (h.2.1 k e.symm hk)))))),Below.heap_alloc w o k (by omega)]
  exact h.1.keep k hk hs
 ·have e:g'=k:=by simpa[Value.ownBlock] using e
  rcases hat with c|c
  ·exact h.2.1 k (by rw[c,e]) hk
  ·omega
theorem CQ.aC {Bn CJ:Value} {a:World} (h:CQ mb gh gr vN vB Bn CJ a w) (o:Obj) {w1:World} {g' n' cap':Nat} (hg:(w.alloc o).grownBy w1 CJ.ownBlock) (hat:CJ.ownBlock=some g'∨g'=w.heap.size+1):CQ mb gh gr vN vB Bn (sl g' n' cap') a (w1.setCell ⟨mb,7,none⟩ (sl g' n' cap')):=by
 have z:=h.1.A8.size
 refine ⟨⟨((h.1.A8.alloc (Nat.zero_le _) o).grown hg (Nat.zero_le _) (fun _ _=>Nat.zero_le _)).setCell (Nat.zero_le _) _,fun k hk hs=>?_⟩,h.2.1,fun k e hk=>?_⟩
 ·rw[Below.heap_setCell w1 ⟨mb,7,none⟩ _ k (fun e=>hs (.inl e)),hg.block k (by simp;omega) (fun e=>hs (.inr (.inr (.inr (.inr (h.2.2 k e.symm hk)))))),Below.heap_alloc w o k (by omega)]
  exact h.1.keep k hk hs
 ·have e:g'=k:=by simpa[Value.ownBlock] using e
  rcases hat with c|c
  ·exact h.2.2 k (by rw[c,e]) hk
  ·omega
theorem CQ.ZH {Bn CJ:Value} {a:World} (h:CQ mb gh gr vN vB Bn CJ a w) (i:Nat) (u:Value):CQ mb gh gr vN vB Bn CJ a (w.setCell ⟨gh,i,none⟩ u):=⟨h.1.setCell (Nat.zero_le _) (.inr (.inl rfl)) _,h.2.1,h.2.2⟩
theorem CQ.setRow {Bn CJ:Value} {a:World} (h:CQ mb gh gr vN vB Bn CJ a w) (i:Nat) (u:Value):CQ mb gh gr vN vB Bn CJ a (w.setCell ⟨gr,i,none⟩ u):=⟨h.1.setCell (Nat.zero_le _) (.inr (.inr (.inl rfl))) _,h.2.1,h.2.2⟩
end
end Go.Proofs.YtgddmpmcnjlcjaaGreatDoor
