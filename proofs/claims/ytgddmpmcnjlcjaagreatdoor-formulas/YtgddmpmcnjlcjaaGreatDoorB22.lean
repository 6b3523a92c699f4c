import Derived.Test.YtgddmpmcnjlcjaaGreatDoorB20
import Derived.Test.YtgddmpmcnjlcjaaGreatDoorB21
import Derived.Deep.RegionLaw
import Derived.Deep.RegionWith
import Derived.Deep.DeepCutAuto
set_option maxRecDepth 100000
set_option maxHeartbeats 4000000
namespace Go.Proofs.YtgddmpmcnjlcjaaGreatDoor
open Go.RowKit
set_option linter.unusedVariables false
namespace Cl
def Ar (sec:List Bool):Nat→Nat×List Nat
 |0=>(4*sec.length,[])
 |i+1=>let x:=Ar sec i;if sec.getD i false then (x.1+4,x.2++BD x.1 4) else (x.1,x.2++BD (4*i) 4)
def JU (N:List Nat) (V:Nat) (D:List Nat) (c0:Nat):Nat→Nat×List UInt8
 |0=>(c0,[])
 |i+1=>let x:=JU N V D c0 i;(x.1+Bd (D.getD i 0),x.2++FY N ((V+1+i:Nat):Int) (D.getD i 0) 0)
def Iy (V m:Nat):Nat→List UInt8
 |0=>[]
 |i+1=>Iy V m i++LJ (V+2*m+1+i) (V+1+i) (V+m+1+i)
structure Fm where
 vars:Nat
 ct:Nat
 bs:List UInt8
 bits:List Bt
def b1 (sec:List Bool):List Nat:=BD 0 (4*sec.length)
def b2 (sec:List Bool):List Nat:=(Ar sec sec.length).2
def AK (sec:List Bool):Nat:=(Ar sec sec.length).1
def Bw (sec:List Bool) (nodes:List Dg.Nd) (m:Nat):Ns:=BG nodes (b1 sec) (b2 sec) ⟨AK sec+3*m,0,fun _=>0,fun _=>0,[]⟩ nodes.length
def n1 (sec:List Bool) (nodes:List Dg.Nd) (m:Nat):List Nat:=tab nodes.length (Bw sec nodes m).f1
def n2 (sec:List Bool) (nodes:List Dg.Nd) (m:Nat):List Nat:=tab nodes.length (Bw sec nodes m).f2
def DK (sec:List Bool) (nodes:List Dg.Nd) (D:List Nat) (i:Nat):Nat×List UInt8:=JU (n1 sec nodes D.length) (AK sec) D (Bw sec nodes D.length).ct i
def EB (sec:List Bool) (nodes:List Dg.Nd) (D:List Nat) (i:Nat):Nat×List UInt8:=JU (n2 sec nodes D.length) (AK sec+D.length) D (DK sec nodes D D.length).1 i
def ae (sec:List Bool) (nodes:List Dg.Nd) (D:List Nat) (i:Nat):Bt:=
 ⟨D.getD i 0,AK sec+1+i,(DK sec nodes D i).1+1,AK sec+D.length+1+i,(EB sec nodes D i).1+1,AK sec+2*D.length+1+i,(EB sec nodes D D.length).1+4*i+1⟩
def form (sec:List Bool) (nodes:List Dg.Nd) (D:List Nat):Fm:=
 ⟨(Bw sec nodes D.length).vars,(EB sec nodes D D.length).1+4*D.length+1,
    (Bw sec nodes D.length).bs++(DK sec nodes D D.length).2++(EB sec nodes D D.length).2++Iy (AK sec) D.length D.length++Gn (BD (AK sec+2*D.length) D.length) D.length++[48,10],
    (List.range D.length).map (ae sec nodes D)⟩
theorem VE (v n i:Nat) (h:i<n):(BD v n).getD i 0=v+1+i:=by simp[BD,h]
theorem S8 (v n i:Nat):(BD v n).getD i 0≤v+n:=by
 by_cases c:i<n
 ·rw[VE v n i c];omega
 ·rw[List.getD_eq_getElem?_getD,List.getElem?_eq_none (by rw[Jl];omega)];exact Nat.zero_le _
theorem Yi (sec:List Bool) (i:Nat):(Ar sec i).2.length=4*i:=by
 induction i with
 |zero=>rfl
 |succ i ih=>
  unfold Ar
  split
  ·show ((Ar sec i).2++BD _ 4).length=_;rw[List.length_append,Jl,ih];omega
  ·show ((Ar sec i).2++BD _ 4).length=_;rw[List.length_append,Jl,ih];omega
theorem QT (sec:List Bool) (i:Nat):4*sec.length≤(Ar sec i).1∧(Ar sec i).1≤4*sec.length+4*i:=by
 induction i with
 |zero=>exact ⟨Nat.le_refl _,Nat.le_refl _⟩
 |succ i ih=>
  unfold Ar
  split
  ·show _≤(Ar sec i).1+4∧(Ar sec i).1+4≤_;omega
  ·show _≤(Ar sec i).1∧(Ar sec i).1≤_;omega
theorem dY {l m:List Nat} {v:Nat} (hl: ∀ i,l.getD i 0≤v) (hm: ∀ i,m.getD i 0≤v) (i:Nat):(l++m).getD i 0≤v:=by
 by_cases c:i<l.length
 ·have:=hl i
  rw[List.getD_eq_getElem?_getD,List.getElem?_append_left c, ←List.getD_eq_getElem?_getD];exact this
 ·have:=hm (i - l.length)
  rw[List.getD_eq_getElem?_getD,List.getElem?_append_right (by omega), ←List.getD_eq_getElem?_getD];exact this
theorem wL (sec:List Bool) (i:Nat) (hi:i≤sec.length): ∀ j,(Ar sec i).2.getD j 0≤(Ar sec i).1:=by
 induction i with
 |zero=>intro j;simp[Ar]
 |succ i ih=>
  have h:=ih (by omega)
  have hle:=(QT sec i).1
  intro j
  unfold Ar
  split
  ·exact dY (l:=(Ar sec i).2) (v:=(Ar sec i).1+4) (fun q=>Nat.le_trans (h q) (by omega)) (fun q=>S8 _ _ q) j
  ·exact dY (l:=(Ar sec i).2) (v:=(Ar sec i).1) h (fun q=>Nat.le_trans (S8 _ _ q) (by omega)) j
theorem Vw (N:List Nat) (V:Nat) (D:List Nat) (c0 i:Nat):(JU N V D c0 i).1≤c0+2*i:=by
 induction i with
 |zero=>exact Nat.le_refl _
 |succ i ih=>
  have:Bd (D.getD i 0)≤2:=by unfold Bd;split <;> omega
  show (JU N V D c0 i).1+Bd (D.getD i 0)≤_
  omega
theorem Vj (N:List Nat) (V:Nat) (D:List Nat) (c0 i:Nat) (hN: ∀ j,N.getD j 0≤1000000000) (hV:V+1+i≤1000000000):(JU N V D c0 i).2.length≤136*i:=by
 induction i with
 |zero=>exact Nat.le_refl _
 |succ i ih=>
  have h1:=ih (by omega)
  have:=VO N (v:=((V+1+i:Nat):Int)) (u:=0) ⟨by omega,by omega⟩ ⟨by omega,by omega⟩ (D.getD i 0) (hN _)
  show ((JU N V D c0 i).2++_).length≤_
  rw[List.length_append]
  omega
theorem iC (V m i:Nat) (hV:V+2*m+1+i≤1000000000):(Iy V m i).length≤272*i:=by
 induction i with
 |zero=>exact Nat.le_refl _
 |succ i ih=>
  have h1:=ih (by omega)
  have:=wJ (d:=V+2*m+1+i) (a:=V+1+i) (b:=V+m+1+i) (by omega) (by omega) (by omega)
  show (Iy V m i++_).length≤_
  rw[List.length_append]
  omega
theorem L5 (sec:List Bool):(b1 sec).length=4*sec.length:=Jl _ _
theorem kN (sec:List Bool):(b2 sec).length=4*sec.length:=Yi _ _
theorem Jo (sec:List Bool):4*sec.length≤AK sec∧AK sec≤8*sec.length:=by
 have:=QT sec sec.length
 unfold AK
 omega
theorem aI (sec:List Bool) (i:Nat):(b1 sec).getD i 0≤AK sec:=Nat.le_trans (S8 _ _ _) (by have:=(Jo sec).1;omega)
theorem WW (sec:List Bool) (i:Nat):(b2 sec).getD i 0≤AK sec:=wL sec _ (Nat.le_refl _) i
theorem Zh (sec:List Bool) (nodes:List Dg.Nd) (m:Nat) (hs:sec.length≤3) (hm:m≤70) (hL:nodes.length≤400000) (i:Nat) (hi:i≤400000):
  Jy (BG nodes (b1 sec) (b2 sec) ⟨AK sec+3*m,0,fun _=>0,fun _=>0,[]⟩ i) (234+2*i) (544*i):=by
 have hv:=Jo sec
 have h:=sK (nodes:=nodes) (b1:=b1 sec) (b2:=b2 sec) (x:=⟨AK sec+3*m,0,fun _=>0,fun _=>0,[]⟩) (v:=234) (b:=0) ⟨by show AK sec+3*m≤234;omega,fun _=>Nat.zero_le _,fun _=>Nat.zero_le _,Nat.le_refl _⟩ (fun i=>Nat.le_trans (aI sec i) (by omega)) (fun i=>Nat.le_trans (WW sec i) (by omega)) i (by omega)
 exact ⟨h.vars,h.f1,h.f2,by have:=h.bs;omega⟩
end Cl
def E7 (S:Nat→Prop) (w w':World):Prop:= ∀ k o,w.heap[k]? =some o→ ¬S k→(∀ c fz,o≠ .cells c 5 fz)→w'.heap[k]? =some o
namespace E7
variable {S T:Nat→Prop} {a b c w:World}
theorem refl (S:Nat→Prop) (w:World):E7 S w w:=fun _ _ h _ _=>h
theorem trans (h:E7 S a b) (k:E7 S b c):E7 S a c:=fun q o e n t=>k q o (h q o e n t) n t
theorem imp (h:E7 S a b) (hi: ∀ k,S k→T k):E7 T a b:=fun q o e n t=>h q o e (fun s=>n (hi q s)) t
theorem alloc (h:E7 S a w) (o:Obj):E7 S a (w.alloc o):=fun q p e n t=>Du w o p q (h q p e n t)
theorem setCell (h:E7 S a w) {p:Addr} (hp:S p.block) (u:Value):E7 S a (w.setCell p u):=fun q o e n t=>(Below.heap_setCell w p u q (fun e2=>n (by rw[e2];exact hp))).trans (h q o e n t)
theorem drew (h:E7 S a w):E7 S a w.drew:=h
theorem of {wb:Nat} (h:Lib.OthersKept 5 (some wb) a b) (hs:S wb):E7 S a b:=fun q o e n t=>h q o e (fun e2=>n (by cases e2;exact hs)) t
theorem rowIs {q n:Nat} {t:TypeId} {f:Nat→Value} (h:E7 S a b) (r:a.rowIs q t n f) (hs: ¬S q) (ht:t≠5):b.rowIs q t n f:=by
 obtain ⟨cs,hg,hz,hc⟩:=r
 exact ⟨cs,h q _ hg hs (fun c fz e=>ht (by cases e;rfl)),hz,hc⟩
theorem own {base n sz:Nat} {t:TypeId} {v:Value} {xs:List Value} (h:E7 S a b) (r:a.ownsRow base t sz v n xs) (hs: ∀ g,v.ownBlock=some g→ ¬S g) (ht:t≠5):b.ownsRow base t sz v n xs:=by
 refine ⟨r.1,?_⟩
 rcases r.2 with hn|⟨g,cap,cur,rfl,hb',hgg,rest⟩
 ·exact .inl hn
 ·exact .inr ⟨g,cap,cur,rfl,hb',h g _ hgg (hs g rfl) (fun c fz e=>ht (by cases e;rfl)),rest⟩
end E7
structure CZ (B wb BM BI g1 g2 L:Nat) (R1 R2:Value×Value) (bs:List UInt8) (x:Cl.Ns) (vt:Value) (w0 w:World):Prop where
 wr:Au B wb x.vars x.ct (bs++x.bs) vt w
 r1:w.rowIs BM 107 3 (fun i=>if i=0 then R1.1 else if i=1 then .slice (some ⟨g1,0,none⟩) L L else R1.2)
 r2:w.rowIs BI 107 3 (fun i=>if i=0 then R2.1 else if i=1 then .slice (some ⟨g2,0,none⟩) L L else R2.2)
 t1:w.rowIs g1 3 L (fun i=>.int .i64 (x.f1 i))
 t2:w.rowIs g2 3 L (fun i=>.int .i64 (x.f2 i))
 GD:BM≠BI
 g12:g1≠g2
 q1:w0.heap.size≤g1
 q2:w0.heap.size≤g2
 A8:Below B w0 w
 kp:E7 (fun k=>k=wb∨k=BM∨k=BI) w0 w
section
variable {B wb BM BI g1 g2 L:Nat} {R1 R2:Value×Value} {bs:List UInt8} {x:Cl.Ns} {vt:Value} {w0 w:World}
theorem CZ.ne (h:CZ B wb BM BI g1 g2 L R1 R2 bs x vt w0 w):wb≠BM∧wb≠BI∧wb≠g1∧wb≠g2∧BM≠g1∧BM≠g2∧BI≠g1∧BI≠g2:=
 ⟨Cj h.wr.row h.r1 (by decide),Cj h.wr.row h.r2 (by decide),Cj h.wr.row h.t1 (by decide),Cj h.wr.row h.t2 (by decide),Cj h.r1 h.t1 (by decide),Cj h.r1 h.t2 (by decide),Cj h.r2 h.t1 (by decide),Cj h.r2 h.t2 (by decide)⟩
theorem CZ.alloc (h:CZ B wb BM BI g1 g2 L R1 R2 bs x vt w0 w) (hB:B≤w.heap.size) (o:Obj):CZ B wb BM BI g1 g2 L R1 R2 bs x vt w0 (w.alloc o):=
 ⟨h.wr.alloc o,h.r1.alloc o,h.r2.alloc o,h.t1.alloc o,h.t2.alloc o,h.GD,h.g12,h.q1,h.q2,h.A8.alloc hB o,h.kp.alloc o⟩
theorem CZ.drew (h:CZ B wb BM BI g1 g2 L R1 R2 bs x vt w0 w):CZ B wb BM BI g1 g2 L R1 R2 bs x vt w0 w.drew:=
 ⟨h.wr.drew,h.r1.drew,h.r2.drew,h.t1.drew,h.t2.drew,h.GD,h.g12,h.q1,h.q2,h.A8.drew,h.kp.drew⟩
theorem CZ.var (h:CZ B wb BM BI g1 g2 L R1 R2 bs x vt w0 w) (v:Nat):CZ B wb BM BI g1 g2 L R1 R2 bs { x with vars:=v } vt w0 (w.setCell ⟨wb,0,none⟩ (.int .i64 v)):=by
 obtain ⟨e1,e2,e3,e4,_⟩:=h.ne
 exact ⟨h.wr.var v,h.r1.setOther (fun e=>e1 e.symm) _,h.r2.setOther (fun e=>e2 e.symm) _,h.t1.setOther (fun e=>e3 e.symm) _,h.t2.setOther (fun e=>e4 e.symm) _,h.GD,h.g12,h.q1,h.q2,h.A8.setCell h.wr.hb _,h.kp.setCell (.inl rfl) _⟩
theorem CZ.agG (h:CZ B wb BM BI g1 g2 L R1 R2 bs x vt w0 w) (hB:B≤w0.heap.size) (i v:Nat):CZ B wb BM BI g1 g2 L R1 R2 bs { x with f1:=Lk.upd x.f1 i v } vt w0 (w.setCell ⟨g1,i,none⟩ (.int .i64 v)):=by
 obtain ⟨e1,e2,e3,e4,e5,e6,e7,e8⟩:=h.ne
 refine ⟨h.wr.other e3 (Aq h.wr.own h.t1 (by decide)) _,h.r1.setOther e5 _,h.r2.setOther e7 _,(h.t1.set i _).congr (fun j hj=>?_),h.t2.setOther (fun e=>h.g12 e.symm) _,h.GD,h.g12,h.q1,h.q2,h.A8.setCell (Nat.le_trans hB h.q1) _,?_⟩
 ·show _=Value.int .i64 ((Lk.upd x.f1 i v j:Nat):Int)
  unfold Lk.upd
  by_cases c:j=i <;> simp[c]
 ·intro q o e n t
  exact (Below.heap_setCell w ⟨g1,i,none⟩ _ q (fun e2=>by have e2:q=g1:=e2;have:=(Array.getElem?_eq_some_iff.1 e).1;have:=h.q1;omega)).trans (h.kp q o e n t)
theorem CZ.mM (h:CZ B wb BM BI g1 g2 L R1 R2 bs x vt w0 w) (hB:B≤w0.heap.size) (i v:Nat):CZ B wb BM BI g1 g2 L R1 R2 bs { x with f2:=Lk.upd x.f2 i v } vt w0 (w.setCell ⟨g2,i,none⟩ (.int .i64 v)):=by
 obtain ⟨e1,e2,e3,e4,e5,e6,e7,e8⟩:=h.ne
 refine ⟨h.wr.other e4 (Aq h.wr.own h.t2 (by decide)) _,h.r1.setOther e6 _,h.r2.setOther e8 _,h.t1.setOther h.g12 _,(h.t2.set i _).congr (fun j hj=>?_),h.GD,h.g12,h.q1,h.q2,h.A8.setCell (Nat.le_trans hB h.q2) _,?_⟩
 ·show _=Value.int .i64 ((Lk.upd x.f2 i v j:Nat):Int)
  unfold Lk.upd
  by_cases c:j=i <;> simp[c]
 ·intro q o e n t
  exact (Below.heap_setCell w ⟨g2,i,none⟩ _ q (fun e2=>by have e2:q=g2:=e2;have:=(Array.getElem?_eq_some_iff.1 e).1;have:=h.q2;omega)).trans (h.kp q o e n t)
theorem CZ.wrote (h:CZ B wb BM BI g1 g2 L R1 R2 bs x vt w0 w) {w':World} {Al:Value} {c:Nat} {b:List UInt8} (hw:Au B wb x.vars (x.ct+c) (bs++x.bs++b) Al w') (hf:B6 B wb w w'):CZ B wb BM BI g1 g2 L R1 R2 bs { x with ct:=x.ct+c,bs:=x.bs++b } Al w0 w':=by
 obtain ⟨e1,e2,e3,e4,_⟩:=h.ne
 have k:E7 (fun k=>k=wb) w w':=E7.of hf.2 rfl
 refine ⟨by rw[show bs++(x.bs++b)=bs++x.bs++b by simp];exact hw,k.rowIs h.r1 (fun e=>e1 e.symm) (by decide),k.rowIs h.r2 (fun e=>e2 e.symm) (by decide),k.rowIs h.t1 (fun e=>e3 e.symm) (by decide),k.rowIs h.t2 (fun e=>e4 e.symm) (by decide),h.GD,h.g12,h.q1,h.q2,h.A8.trans hf.1,h.kp.trans (k.imp (fun _ e=>.inl e))⟩
theorem CZ.c0 (h:CZ B wb BM BI g1 g2 L R1 R2 bs x vt w0 w):w.cell? ⟨wb,0,none⟩=some (.int .i64 x.vars):=h.wr.c0
theorem dJ {g n:Nat} {t:TypeId} {z:Value} (h:w.heap[g]? =some (.cells (madeCells #[z] n) t)):w.rowIs g t n (fun _=>z):=by
 obtain ⟨cs,hg,hs,hc⟩:=World.rowIs_made w z n t
 rw[heap_alloc_new] at hg
 cases hg
 exact ⟨_,h,hs,hc⟩
theorem WX {base:Nat} {nodes:List Dg.Nd} {g cap:Nat} (h:w.ownsRow base 153 4 (.slice (some ⟨g,0,none⟩) nodes.length cap) nodes.length (nodes.flatMap Dg.Nd.cells)) (i:Nat) (hi:i<nodes.length) (j:Nat) (hj:j<4):w.cell? ⟨g,i*4+j,none⟩=(Dg.AG nodes i).cells[j]? :=(h.cellAt (i*4+j) (by omega)).trans (Dg.Jm _ i j hi hj)
theorem Vx {L g:Nat} {f:Nat→Nat} (hL:L≤400000) (h:w.rowIs g 3 L (fun i=>.int .i64 (f i))):w.ownsRow 0 3 1 (.slice (some ⟨g,0,none⟩) (Cl.tab L f).length L) (Cl.tab L f).length ((Cl.tab L f).map fun (n:Nat)=>.int .i64 n):=by
 rw[Cl.Gm]
 obtain ⟨cs,hg,hs,hc⟩:=h
 refine ⟨by simp[Cl.tab],.inr ⟨g,_,cs,rfl,Nat.zero_le _,hg,Nat.le_refl _,by unfold maxLen;omega,by omega,?_⟩⟩
 apply List.ext_getElem?
 intro i
 by_cases hi:i<L
 ·have:=hc i hi
  rw[List.getElem?_take,if_pos (by omega)]
  simp[Cl.tab,hi]
  simpa using this
 ·rw[List.getElem?_take,if_neg (by omega)]
  exact (List.getElem?_eq_none (by simp[Cl.tab];omega)).symm
end
section
variable {B wb vars ct:Nat} {bs:List UInt8} {vt:Value} {w:World}
theorem qM (h:Au B wb vars ct bs vt w) (hBw:B≤w.heap.size) (nodes:List Dg.Nd) (hL:nodes.length≤400000) (b1 b2:List Nat) (BM BI:Nat) (vN vT:Value) (a1 a3 a4 a6:Option Addr) (c1 n3 c3 c4 n6 c6:Nat)
  (hN:w.ownsRow 0 153 4 vN nodes.length (nodes.flatMap Dg.Nd.cells))
  (hr1:w.rowIs BM 107 3 (MH a1 none a3 b1.length c1 0 0 n3 c3)) (hr2:w.rowIs BI 107 3 (MH a4 none a6 b2.length c4 0 0 n6 c6)) (h12:BM≠BI) (I_:B≤BM) (hB2:B≤BI)
  (hb1:w.ownsRow 0 3 1 (.slice a1 b1.length c1) b1.length (b1.map fun (n:Nat)=>.int .i64 n)) (hb2:w.ownsRow 0 3 1 (.slice a4 b2.length c4) b2.length (b2.map fun (n:Nat)=>.int .i64 n))
  (Ag:DU B w) (hbs:bs.length≤1000) (mN: ∀ i,b1.getD i 0≤1000000000) (mO: ∀ i,b2.getD i 0≤1000000000) (alK:b1.length≤1000) (alL:b2.length≤1000)
  (hNs: ∀ i,i≤nodes.length→Cl.Jy (Cl.BG nodes b1 b2 ⟨vars,ct,fun _=>0,fun _=>0,[]⟩ i) (234+2*i) (544*i))
  (hnd: ∀ i,2≤i→i<nodes.length→(Dg.AG nodes i).lo<i∧(Dg.AG nodes i).hi<i∧(Dg.AG nodes i).bit<b1.length∧(Dg.AG nodes i).bit<b2.length):
  Calls Tryz.prog 42 #[.pointer (some ⟨wb,0,none⟩),.agg #[vN,vT],.pointer (some ⟨BM,0,none⟩),.pointer (some ⟨BI,0,none⟩)] w fun e w'=>e=.returned (.tuple #[])∧ ∃ Al g1 g2,CZ B wb BM BI g1 g2 nodes.length (.slice a1 b1.length c1,.slice a3 n3 c3) (.slice a4 b2.length c4,.slice a6 n6 c6) bs (Cl.BG nodes b1 b2 ⟨vars,ct,fun _=>0,fun _=>0,[]⟩ nodes.length) Al w w':=by
 obtain ⟨aN,cN,eN⟩:=AX hN
 subst eN
 have hmk: ∀ w:World,(Instr.makeSlice 24 (.int .i64 (nodes.length:Int)) (.int .i64 (nodes.length:Int))).run Tryz.prog w=.ok (.slice (some ⟨w.heap.size,0,none⟩) nodes.length nodes.length) (w.alloc (.cells (madeCells #[.int .i64 0] nodes.length) 3)):=fun w=>run_make_row' 24 3 (.int .i64 0) 8 Tryz.underlying24 Tryz.Ds rfl .i64 .i64 nodes.length (by omega) (by omega) w
 have Qy:(nodes.length:Int)≤400000:=by omega
 have k1:=hr1.cell (i:=1) (by omega)
 have f1:=hr1.frozen 1
 have k2:=hr2.cell (i:=1) (by omega)
 have f2:=hr2.frozen 1
 have l1:=hr1.lt
 have l2:=hr2.lt
 have h21:BI≠BM:=fun e=>h12 e.symm
 obtain ⟨W1,hW1⟩: ∃ W1:World,((w.setCell ⟨BM,1,none⟩ (.slice (some ⟨w.heap.size+1,0,none⟩) nodes.length nodes.length)).alloc (.cells #[.slice aN nodes.length cN,vT] 50)).alloc (.cells (madeCells #[.int .i64 0] nodes.length) 3)=W1:=⟨_,rfl⟩
 have hz1:W1.heap.size=w.heap.size+2:=by rw[←hW1];simp
 have AU:=hid (show W1.rowIs BI 107 3 (MH a4 none a6 b2.length c4 0 0 n6 c6) by rw[←hW1];exact ((hr2.setOther h21 _).alloc _).alloc _)
 have Aw:=hid (show W1.rowIs BM 107 3 (fun i=>if i=0 then .slice a1 b1.length c1 else if i=1 then .slice (some ⟨w.heap.size+1,0,none⟩) nodes.length nodes.length else .slice a3 n3 c3) by
  rw[←hW1]
  refine (((hr1.set 1 _).alloc _).alloc _).congr (fun i hi=>?_)
  match i,hi with
  |0,_=>rfl
  |1,_=>rfl
  |2,_=>rfl
  |n+3,h=>omega)
 have HG1:=hid (show W1.heap[w.heap.size+1]? =some (.cells (madeCells #[.int .i64 0] nodes.length) 3) by rw[←hW1];exact CX _ _ _ (by simp))
 have HD1:=hid (show W1.heap[w.heap.size]? =some (.cells #[.slice aN nodes.length cN,vT] 50) by rw[←hW1];exact Du _ _ _ _ (CX _ _ _ (by simp)))
 have HE:=hid hW1
 clear hW1
 go_enter Tryz.func42,Tryz.ntmps42
 go_upto_region 2 with fail
 rw[HE.out]
 have d0:=(HD1.out:W1.heap[w.heap.size]? =_)
 have dd0:W1.cell? ⟨w.heap.size,0,none⟩=some (.slice aN nodes.length cN):=by simp[World.cell?,d0]
 have k2:=AU.out.cell (i:=1) (by omega)
 have f2:=AU.out.frozen 1
 have k2a:=fun o=>(AU.out.alloc o).cell (i:=1) (by omega)
 have f2a:=fun o=>(AU.out.alloc o).frozen 1
 clear d0 k1 f1 l1
 go_wp2_with fail
 obtain ⟨W2,hW2⟩: ∃ W2:World,(W1.alloc (.cells (madeCells #[.int .i64 0] nodes.length) 3)).setCell ⟨BI,1,none⟩ (.slice (some ⟨w.heap.size+2,0,none⟩) nodes.length nodes.length)=W2:=⟨_,rfl⟩
 rw[hW2]
 have hz2:W2.heap.size=w.heap.size+3:=by rw[←hW2];simp;omega
 have HI:=hid (show CZ B wb BM BI (w.heap.size+1) (w.heap.size+2) nodes.length (.slice a1 b1.length c1,.slice a3 n3 c3) (.slice a4 b2.length c4,.slice a6 n6 c6) bs ⟨vars,ct,fun _=>0,fun _=>0,[]⟩ vt w W2 by
  have e1:wb≠BM:=Cj h.row hr1 (by decide)
  have e2:wb≠BI:=Cj h.row hr2 (by decide)
  have o1:vt.ownBlock≠some BM:=Aq h.own hr1 (by decide)
  have o2:vt.ownBlock≠some BI:=Aq h.own hr2 (by decide)
  have w1:Au B wb vars ct bs vt W1:=by rw[←HE.out];exact ((h.other (p:=⟨BM,1,none⟩) e1 o1 _).alloc _).alloc _
  have b1':Below B w W1:=by rw[←HE.out];exact ((((Below.refl B w).setCell (p:=⟨BM,1,none⟩) I_ _).alloc (by simpa using hBw) _).alloc (by simp;omega) _)
  have kp1:E7 (fun k=>k=wb∨k=BM∨k=BI) w W1:=by rw[←HE.out];exact (((E7.refl _ w).setCell (p:=⟨BM,1,none⟩) (.inr (.inl rfl)) _).alloc _).alloc _
  have lw:=hr2.lt
  rw[←hW2]
  refine ⟨by rw[List.append_nil];exact (w1.alloc _).other (p:=⟨BI,1,none⟩) e2 o2 _,(Aw.out.alloc _).setOther h12 _,((AU.out.alloc _).set 1 _).congr (fun i hi=>?_),((dJ HG1.out).alloc _).setOther (fun e=>by have e:w.heap.size+1=BI:=e;omega) _,World.rowIs.setOther (dJ (CX _ _ _ hz1.symm)) (fun e=>by have e:w.heap.size+2=BI:=e;omega) _,h12,by omega,by omega,by omega,(b1'.alloc (by omega) _).setCell (p:=⟨BI,1,none⟩) hB2 _,(kp1.alloc _).setCell (p:=⟨BI,1,none⟩) (.inr (.inr rfl)) _⟩
  match i,hi with
  |0,_=>rfl
  |1,_=>rfl
  |2,_=>rfl
  |n+3,h=>omega)
 have J6:=hid (show ∀ g,(Value.slice aN nodes.length cN).ownBlock=some g→ ¬(g=wb∨g=BM∨g=BI) from fun g e c=>by
  rcases c with c|c|c
  ·subst c;exact Aq hN h.row (by decide) e
  ·subst c;exact Aq hN hr1 (by decide) e
  ·subst c;exact Aq hN hr2 (by decide) e)
 have Jz:=hid (show ∀ g,(Value.slice a1 b1.length c1).ownBlock=some g→ ¬(g=wb∨g=BM∨g=BI) from fun g e c=>by
  rcases c with c|c|c
  ·subst c;exact Aq hb1 h.row (by decide) e
  ·subst c;exact Aq hb1 hr1 (by decide) e
  ·subst c;exact Aq hb1 hr2 (by decide) e)
 have MJ:=hid (show ∀ g,(Value.slice a4 b2.length c4).ownBlock=some g→ ¬(g=wb∨g=BM∨g=BI) from fun g e c=>by
  rcases c with c|c|c
  ·subst c;exact Aq hb2 h.row (by decide) e
  ·subst c;exact Aq hb2 hr1 (by decide) e
  ·subst c;exact Aq hb2 hr2 (by decide) e)
 have XL:=hid hNs
 have ER:=hid hnd
 have HB9:=hid mN
 have HB8:=hid mO
 have HN:=hid hN
 have AL:=hid hb1
 have AP:=hid hb2
 have HT:=hid Ag
 clear hW2 Aw AU HG1 HD1 HE hr1 hr2 k2 f2 k2a f2a dd0 hmk hN hb1 hb2 Ag h hNs hnd mN mO
 go_loopw [27] (fun c wr=> ∃ (i:Nat) (EY:Value),i≤nodes.length∧c=.int .i64 i∧CZ B wb BM BI (w.heap.size+1) (w.heap.size+2) nodes.length (.slice a1 b1.length c1,.slice a3 n3 c3) (.slice a4 b2.length c4,.slice a6 n6 c6) bs (Cl.BG nodes b1 b2 ⟨vars,ct,fun _=>0,fun _=>0,[]⟩ i) EY w wr) (fun c _=>nodes.length - (intOf c).toNat)
 case atStart=>exact ⟨0,vt,Nat.zero_le _,rfl,HI.out⟩
 case round=>
  clear HI
  obtain ⟨i,EY,hi,rfl,hnd⟩:=hrel
  have Fh:(i:Int)≤400000:=by omega
  have hB:B≤wr.heap.size:=by have:=hnd.A8.size;omega
  by_cases hlt:i<nodes.length
  ·have NZ:=hid hnd
   have zr:=hnd.A8.size
   have hgN: ∃ gN cN',aN=some ⟨gN,0,none⟩∧cN=cN':=by
    obtain ⟨g,c,e,_⟩:=HN.out.form (by omega)
    cases e
    exact ⟨_,_,rfl,rfl⟩
   obtain ⟨gN,cN',rfl,rfl⟩:=hgN
   have hnl:=(HN.out.lt gN rfl).2
   have ON:=hnd.kp.own HN.out J6.out (by decide)
   have d0:wr.cell? ⟨gN,i*4,none⟩=some (.int .i64 (Dg.AG nodes i).bit):=WX ON i hlt 0 (by omega)
   have d1:wr.cell? ⟨gN,i*4+1,none⟩=some (.int .i64 (Dg.AG nodes i).lo):=WX ON i hlt 1 (by omega)
   have d2:wr.cell? ⟨gN,i*4+2,none⟩=some (.int .i64 (Dg.AG nodes i).hi):=WX ON i hlt 2 (by omega)
   have d3:wr.cell? ⟨gN,i*4+3,none⟩=some (.bool (Dg.AG nodes i).sec):=WX ON i hlt 3 (by omega)
   have DL:(i:Int)<(nodes.length:Int):=by omega
   clear ON hnd
   by_cases h2:i<2
   ·have HX:=hid (show Cl.BG nodes b1 b2 ⟨vars,ct,fun _=>0,fun _=>0,[]⟩ (i+1)=Cl.BG nodes b1 b2 ⟨vars,ct,fun _=>0,fun _=>0,[]⟩ i from if_pos h2)
    by_cases h0:i=0
    ·have e0:((i:Int)==0)=true:=by simp;omega
     clear h0 h2
     go_wp2_with fail
     go_roundw
     case rel=>exact ⟨i+1,EY,by omega,by go_num,by rw[HX.out];exact NZ.out.alloc hB _⟩
     case measure=>simp[intOf];omega
    ·have e0:((i:Int)==0)=false:=by simp;omega
     have e1:((i:Int)==1)=true:=by simp;omega
     clear h0 h2
     go_wp2_with fail
     go_roundw
     case rel=>exact ⟨i+1,EY,by omega,by go_num,by rw[HX.out];exact NZ.out.alloc hB _⟩
     case measure=>simp[intOf];omega
   ·have HX:=hid (show Cl.BG nodes b1 b2 ⟨vars,ct,fun _=>0,fun _=>0,[]⟩ (i+1)=Cl.Hp nodes.length b1 b2 (Dg.AG nodes i) i (Cl.BG nodes b1 b2 ⟨vars,ct,fun _=>0,fun _=>0,[]⟩ i) from if_neg h2)
    have U4:=XL.out i hi
    obtain ⟨hlo,hhi,aj,ay⟩:=ER.out i (by omega) hlt
    generalize Cl.BG nodes b1 b2 ⟨vars,ct,fun _=>0,fun _=>0,[]⟩ i=X at NZ HX U4
    generalize Dg.AG nodes i=d at d0 d1 d2 d3 HX hlo hhi aj ay
    obtain ⟨bit,lo,hg,sec⟩:=d
    dsimp only at d0 d1 d2 d3 hlo hhi aj ay
    have e0:((i:Int)==0)=false:=by simp;omega
    have e1:((i:Int)==1)=false:=by simp;omega
    have hXv:=U4.vars
    have hXb:=U4.bs
    have NOK:=hid U4
    have alO:(X.vars:Int)≤1000000:=by omega
    clear U4 h2
    go_upto_region 7 with fail
    obtain ⟨W3,hW3⟩: ∃ W3:World,wr.alloc (.cells #[.int .i64 bit,.int .i64 lo,.int .i64 hg,.bool sec] 153)=W3:=⟨_,rfl⟩
    rw[hW3]
    have T9:=hid (show CZ B wb BM BI (w.heap.size+1) (w.heap.size+2) nodes.length (.slice a1 b1.length c1,.slice a3 n3 c3) (.slice a4 b2.length c4,.slice a6 n6 c6) bs X EY w W3 by rw[←hW3];exact NZ.out.alloc hB _)
    have bC:=hid (show W3.rowIs wr.heap.size 153 4 (JR bit lo hg sec) by rw[←hW3];exact iA wr bit lo hg sec)
    have hz3:W3.heap.size=wr.heap.size+1:=by rw[←hW3];simp
    have p0:=T9.out.c0
    have pf:=T9.out.wr.row.frozen 0
    clear hW3 d0 d1 d2 d3
    go_upto_region 8 with fail
    obtain ⟨W4,U5⟩: ∃ W4:World,W3.setCell ⟨wb,0,none⟩ (.int .i64 ((X.vars:Int)+1))=W4:=⟨_,rfl⟩
    rw[U5]
    have Ot:=hid (show CZ B wb BM BI (w.heap.size+1) (w.heap.size+2) nodes.length (.slice a1 b1.length c1,.slice a3 n3 c3) (.slice a4 b2.length c4,.slice a6 n6 c6) bs { X with vars:=X.vars+1 } EY w W4 by rw[←U5];exact T9.out.var (X.vars+1))
    have bD:=hid (show W4.rowIs wr.heap.size 153 4 (JR bit lo hg sec) by rw[←U5];exact bC.out.setOther (Cj bC.out T9.out.wr.row (by decide)) _)
    have PO:W4.heap.size=wr.heap.size+1:=by rw[←U5];simp;exact hz3
    have q0:=Ot.out.c0
    dsimp only at q0
    have q1:=Ot.out.r1.cell (i:=1) (by omega)
    have qt:=Ot.out.t1.cell (i:=i) hlt
    have qf:=Ot.out.t1.frozen i
    dsimp only at q1 qt
    rw[if_neg (by decide),if_pos rfl] at q1
    clear U5 p0 pf T9 bC
    go_region
    all_goals go_upto_region 9 with fail
    obtain ⟨W5,EZ⟩: ∃ W5:World,(W4.setCell ⟨w.heap.size+1,i,none⟩ (.int .i64 ((X.vars:Int)+1))).drew=W5:=⟨_,rfl⟩
    rw[EZ]
    have Qj:=hid (show CZ B wb BM BI (w.heap.size+1) (w.heap.size+2) nodes.length (.slice a1 b1.length c1,.slice a3 n3 c3) (.slice a4 b2.length c4,.slice a6 n6 c6) bs { X with vars:=X.vars+1,f1:=Lk.upd X.f1 i (X.vars+1) } EY w W5 by rw[←EZ];exact (Ot.out.agG hBw i (X.vars+1)).drew)
    have Ou:=hid (show W5.rowIs wr.heap.size 153 4 (JR bit lo hg sec) by rw[←EZ];exact (bD.out.setOther (Cj bD.out Ot.out.t1 (by decide)) _).drew)
    have PQ:W5.heap.size=wr.heap.size+1:=by rw[←EZ];simp;exact PO
    clear EZ q0 q1 qt qf Ot bD
    have Ox:=hid (Cl.kM (L:=nodes.length) (d:=⟨bit,lo,hg,sec⟩) (i:=i) NOK.out (by omega) HB9.out)
    have HC:=hid (show Calls Tryz.prog 76 #[.pointer (some ⟨wb,0,none⟩),.int .i64 ((X.vars:Int)+1),.agg #[.int .i64 bit,.int .i64 lo,.int .i64 hg,.bool sec],.agg #[.slice a1 b1.length c1,.slice (some ⟨w.heap.size+1,0,none⟩) nodes.length nodes.length,.slice a3 n3 c3]] W5.drew (fun e w'=>e=.returned (.tuple #[])∧ ∃ Al,CZ B wb BM BI (w.heap.size+1) (w.heap.size+2) nodes.length (.slice a1 b1.length c1,.slice a3 n3 c3) (.slice a4 b2.length c4,.slice a6 n6 c6) bs (Cl.one nodes.length b1 ⟨bit,lo,hg,sec⟩ i X) Al w w'∧w'.rowIs wr.heap.size 153 4 (JR bit lo hg sec)∧W5.heap.size≤w'.heap.size) by
     have hn:=Qj.out.drew
     have c:=fX hn.wr (by show B≤W5.heap.size;omega) ((X.vars+1:Nat):Int) ⟨by omega,by omega⟩ bit lo hg sec a1 (some ⟨w.heap.size+1,0,none⟩) a3 c1 nodes.length n3 c3 b1 (Cl.tab nodes.length (Lk.upd X.f1 i (X.vars+1))) (hn.kp.own AL.out Jz.out (by decide)) (Vx hL hn.t1) aj (by rw[Cl.Gm];omega) (by rw[Cl.Gm];omega) (Cl.L4 _ _ _ (fun j=>Nat.le_trans (Ox.out.f1 j) (Nat.le_trans Ox.out.vars (by omega)))) (HB9.out _) (by rw[Cl.Gm];omega) (by omega) (by rw[List.length_append];show bs.length+X.bs.length≤_;omega) (HT.out.on hn.A8)
     rw[Cl.Gm] at c
     refine c.mono ?_
     rintro e w' ⟨rfl,Al,h1,f1⟩
     refine ⟨rfl,Al,?_,Lq Ou.out.drew f1.2 (by simp;exact Cj Ou.out hn.wr.row (by decide)) (by decide),f1.1.size⟩
     exact hn.wrote h1 f1)
    have p0:=Qj.out.c0
    have p1:=Qj.out.r1.cell (i:=0) (by omega)
    have p2:=Qj.out.r1.cell (i:=1) (by omega)
    have p3:=Qj.out.r1.cell (i:=2) (by omega)
    have n0:=Ou.out.cell (i:=0) (by omega)
    have n1:=Ou.out.cell (i:=1) (by omega)
    have n2:=Ou.out.cell (i:=2) (by omega)
    have U7:=Ou.out.cell (i:=3) (by omega)
    dsimp only[JR] at p0 p1 p2 p3 n0 n1 n2 U7
    go_wp2_with fail
    go_cut [] (fun wc=> ∃ RG,CZ B wb BM BI (w.heap.size+1) (w.heap.size+2) nodes.length (.slice a1 b1.length c1,.slice a3 n3 c3) (.slice a4 b2.length c4,.slice a6 n6 c6) bs (Cl.one nodes.length b1 ⟨bit,lo,hg,sec⟩ i X) RG w wc∧wc.rowIs wr.heap.size 153 4 (JR bit lo hg sec)∧W5.heap.size≤wc.heap.size)
    case first=>
     go_region_with (go_at_call 76;refine HC.out.mono ?_;rintro e w6 ⟨rfl,RG,XM,D9,hz6⟩)
     all_goals
      go_wp2_with fail
      go_meet
      exact ⟨RG,XM,D9,hz6⟩
    case rest=>
     obtain ⟨RG,XM,D9,hz6⟩:=hcut
     clear HC p0 p1 p2 p3 n0 n1 n2 U7 Qj Ou
     have KA:=hid XM
     have bE:=hid D9
     have m3:=D9.cell (i:=3) (by omega)
     dsimp only[JR] at m3
     have XN:=hid (show Cl.Hp nodes.length b1 b2 ⟨bit,lo,hg,sec⟩ i X={ (Cl.two nodes.length b2 ⟨bit,lo,hg,sec⟩ (Cl.one nodes.length b1 ⟨bit,lo,hg,sec⟩ i X)) with f2:=Lk.upd (Cl.two nodes.length b2 ⟨bit,lo,hg,sec⟩ (Cl.one nodes.length b1 ⟨bit,lo,hg,sec⟩ i X)).f2 i (Cl.two nodes.length b2 ⟨bit,lo,hg,sec⟩ (Cl.one nodes.length b1 ⟨bit,lo,hg,sec⟩ i X)).vars } from rfl)
     obtain ⟨Y,hY⟩: ∃ Y,Cl.one nodes.length b1 ⟨bit,lo,hg,sec⟩ i X=Y:=⟨_,rfl⟩
     rw[hY] at KA Ox XN
     clear hY XM D9
     have hYv:=Ox.out.vars
     have hYb:=Ox.out.bs
     have alP:(Y.vars:Int)≤1000000:=by omega
     cases sec with
     |false=>
      have EX:=hid (show Cl.two nodes.length b2 ⟨bit,lo,hg,false⟩ Y=Y from if_neg (by simp))
      have q0:=KA.out.c0
      have q1:=KA.out.r2.cell (i:=1) (by omega)
      have qt:=KA.out.t2.cell (i:=i) hlt
      have qf:=KA.out.t2.frozen i
      dsimp only at q1 qt
      rw[if_neg (by decide),if_pos rfl] at q1
      go_wp2_with fail
      go_region
      all_goals go_wp2_with fail
      go_roundw
      case rel=>
       refine ⟨i+1,RG,by omega,by go_num,?_⟩
       rw[HX.out,XN.out,EX.out]
       exact (KA.out.mM hBw i Y.vars).drew
      case measure=>simp[intOf];omega
     |true=>
      have EX:=hid (show Cl.two nodes.length b2 ⟨bit,lo,hg,true⟩ Y={ Y with vars:=Y.vars+1,ct:=Y.ct+(Bd lo+Bd hg),bs:=Y.bs++Hj b2 (Cl.tab nodes.length Y.f2) ((Y.vars+1:Nat):Int) bit lo hg } from if_pos rfl)
      have q0:=KA.out.c0
      have pf:=KA.out.wr.row.frozen 0
      go_upto_region 12 with fail
      obtain ⟨W7,KP⟩: ∃ W7:World,wc.setCell ⟨wb,0,none⟩ (.int .i64 ((Y.vars:Int)+1))=W7:=⟨_,rfl⟩
      rw[KP]
      have Qk:=hid (show CZ B wb BM BI (w.heap.size+1) (w.heap.size+2) nodes.length (.slice a1 b1.length c1,.slice a3 n3 c3) (.slice a4 b2.length c4,.slice a6 n6 c6) bs { Y with vars:=Y.vars+1 } RG w W7 by rw[←KP];exact KA.out.var (Y.vars+1))
      have TA:=hid (show W7.rowIs wr.heap.size 153 4 (JR bit lo hg true) by rw[←KP];exact bE.out.setOther (Cj bE.out KA.out.wr.row (by decide)) _)
      have hz7:B≤W7.heap.size:=by rw[←KP];simp;omega
      clear KP q0 pf KA bE m3
      have HC:=hid (show Calls Tryz.prog 76 #[.pointer (some ⟨wb,0,none⟩),.int .i64 ((Y.vars:Int)+1),.agg #[.int .i64 bit,.int .i64 lo,.int .i64 hg,.bool true],.agg #[.slice a4 b2.length c4,.slice (some ⟨w.heap.size+2,0,none⟩) nodes.length nodes.length,.slice a6 n6 c6]] W7.drew (fun e w'=>e=.returned (.tuple #[])∧ ∃ Al,CZ B wb BM BI (w.heap.size+1) (w.heap.size+2) nodes.length (.slice a1 b1.length c1,.slice a3 n3 c3) (.slice a4 b2.length c4,.slice a6 n6 c6) bs (Cl.two nodes.length b2 ⟨bit,lo,hg,true⟩ Y) Al w w') by
       have hn:=Qk.out.drew
       have c:=fX hn.wr (by show B≤W7.heap.size;omega) ((Y.vars+1:Nat):Int) ⟨by omega,by omega⟩ bit lo hg true a4 (some ⟨w.heap.size+2,0,none⟩) a6 c4 nodes.length n6 c6 b2 (Cl.tab nodes.length Y.f2) (hn.kp.own AP.out MJ.out (by decide)) (Vx hL hn.t2) ay (by rw[Cl.Gm];omega) (by rw[Cl.Gm];omega) (Cl.L4 _ _ _ (fun j=>Nat.le_trans (Ox.out.f2 j) (Nat.le_trans Ox.out.vars (by omega)))) (HB8.out _) (by rw[Cl.Gm];omega) (by omega) (by rw[List.length_append];show bs.length+Y.bs.length≤_;omega) (HT.out.on hn.A8)
       rw[Cl.Gm] at c
       refine c.mono ?_
       rintro e w' ⟨rfl,Al,h1,f1⟩
       refine ⟨rfl,Al,?_⟩
       rw[EX.out]
       exact hn.wrote h1 f1)
      have p0:=Qk.out.c0
      have p1:=Qk.out.r2.cell (i:=0) (by omega)
      have p2:=Qk.out.r2.cell (i:=1) (by omega)
      have p3:=Qk.out.r2.cell (i:=2) (by omega)
      have n0:=TA.out.cell (i:=0) (by omega)
      have n1:=TA.out.cell (i:=1) (by omega)
      have n2:=TA.out.cell (i:=2) (by omega)
      have U7:=TA.out.cell (i:=3) (by omega)
      dsimp only[JR] at p0 p1 p2 p3 n0 n1 n2 U7
      go_wp2_with fail
      go_cut [] (fun wc=> ∃ U8,CZ B wb BM BI (w.heap.size+1) (w.heap.size+2) nodes.length (.slice a1 b1.length c1,.slice a3 n3 c3) (.slice a4 b2.length c4,.slice a6 n6 c6) bs (Cl.two nodes.length b2 ⟨bit,lo,hg,true⟩ Y) U8 w wc)
      case first=>
       go_region_with (go_at_call 76;refine HC.out.mono ?_;rintro e w8 ⟨rfl,U8,XO⟩)
       all_goals
        go_wp2_with fail
        go_meet
        exact ⟨U8,XO⟩
      case rest=>
       obtain ⟨U8,XO⟩:=hcut
       clear HC p0 p1 p2 p3 n0 n1 n2 U7 Qk TA
       have Ql:=hid XO
       obtain ⟨Z,hZ⟩: ∃ Z,Cl.two nodes.length b2 ⟨bit,lo,hg,true⟩ Y=Z:=⟨_,rfl⟩
       rw[hZ] at Ql XN
       clear hZ XO EX
       have q0:=Ql.out.c0
       have q1:=Ql.out.r2.cell (i:=1) (by omega)
       have qt:=Ql.out.t2.cell (i:=i) hlt
       have qf:=Ql.out.t2.frozen i
       dsimp only at q1 qt
       rw[if_neg (by decide),if_pos rfl] at q1
       go_wp2_with fail
       go_region
       all_goals go_wp2_with fail
       go_roundw
       case rel=>
        refine ⟨i+1,U8,by omega,by go_num,?_⟩
        rw[HX.out,XN.out]
        exact (Ql.out.mM hBw i Z.vars).drew
       case measure=>simp[intOf];omega
  ·have hie:nodes.length=i:=by omega
   have PD:=hid hie
   have NZ:=hid hnd
   clear hie hnd
   go_wp2_with fail
   go_end0
   exact ⟨rfl,EY,_,_,by rw[PD.out];exact PD.out ▸ NZ.out⟩
end
end Go.Proofs.YtgddmpmcnjlcjaaGreatDoor
