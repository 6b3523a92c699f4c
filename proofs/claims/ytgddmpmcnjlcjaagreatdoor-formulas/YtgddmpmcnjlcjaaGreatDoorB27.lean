import Derived.Test.YtgddmpmcnjlcjaaGreatDoorB26
import Derived.Test.YtgddmpmcnjlcjaaGreatDoorB16
set_option maxRecDepth 100000
set_option maxHeartbeats 4000000
namespace Go.Proofs.YtgddmpmcnjlcjaaGreatDoor
open Go.RowKit
set_option linter.unusedVariables false
namespace Pr
structure Fd where
 al:Nat
 fi:Option (Nat×Nat):=none
def run (p:Pg) (i j:Nat):Nat→Nat:=Mc.num p (Mc.BZ (inp p.sec i j))
def look (p:Pg) (i:Nat) (a:Fd) (j:Nat):Fd:=if Fs (run p i 0) (run p i j) a.al<a.al then ⟨Fs (run p i 0) (run p i j) a.al,some (i,j)⟩ else a
def E9 (p:Pg) (i:Nat) (a:Fd):Nat→Fd
 |0=>a
 |n+1=>look p i (E9 p i a n) (n+1)
def I8 (p:Pg) (k:Nat):Nat→Fd
 |0=>⟨k,none⟩
 |n+1=>E9 p n (I8 p k n) (rows p.sec true - 1)
def fd (p:Pg) (k:Nat):Fd:=I8 p k (rows p.sec false)
theorem ZF (p:Pg) (i:Nat) (a:Fd) (j:Nat):(look p i a j).al≤a.al:=by
 unfold look
 split
 ·exact Sa _ _ _
 ·exact Nat.le_refl _
theorem ja (p:Pg) (i:Nat) (a:Fd) (n:Nat):(E9 p i a n).al≤a.al:=by
 induction n with
 |zero=>exact Nat.le_refl _
 |succ n ih=>exact Nat.le_trans (ZF _ _ _ _) ih
theorem abl (p:Pg) (k n:Nat):(I8 p k n).al≤k:=by
 induction n with
 |zero=>exact Nat.le_refl _
 |succ n ih=>exact Nat.le_trans (ja _ _ _ _) ih
theorem sM (p:Pg) (i:Nat) (a:Fd) (j:Nat) (h:a.al=0):look p i a j=a:=by
 unfold look
 rw[if_neg (by omega)]
theorem sN (p:Pg) (i:Nat) (a:Fd) (n d:Nat) (h:(E9 p i a n).al=0):E9 p i a (n+d)=E9 p i a n:=by
 induction d with
 |zero=>rfl
 |succ d ih=>
  show look p i (E9 p i a (n+d)) (n+d+1)=_
  rw[ih,sM _ _ _ _ h]
end Pr
def Lc (p:Pg) (w:World) (base:Nat) (a:Pr.Fd) (v1 v2:Value) (at_:Nat):Prop:=
 (a.fi=none∧v1=.slice none 0 0∧v2=.slice none 0 0∧at_=0)∨
 ∃ i j,a.fi=some (i,j)∧at_=a.al∧
  w.ownsRow base 3 1 v1 p.sec.length ((Pr.inp p.sec i 0).map fun (n:Nat)=>.int .i64 n)∧
  w.ownsRow base 3 1 v2 p.sec.length ((Pr.inp p.sec i j).map fun (n:Nat)=>.int .i64 n)
theorem Lc.kept {p:Pg} {w w':World} {base:Nat} {a:Pr.Fd} {v1 v2:Value} {at_:Nat} (h:Lc p w base a v1 v2 at_) (hb: ∀ k,base≤k→k<w.heap.size→w'.heap[k]? =w.heap[k]?):Lc p w' base a v1 v2 at_:=by
 rcases h with h|⟨i,j,h1,h2,h3,h4⟩
 ·exact .inl h
 ·exact .inr ⟨i,j,h1,h2,BP h3 (fun k e=>hb k (h3.lt k e).1 (h3.lt k e).2),BP h4 (fun k e=>hb k (h4.lt k e).1 (h4.lt k e).2)⟩
theorem Lc.low {p:Pg} {w:World} {base base':Nat} {a:Pr.Fd} {v1 v2:Value} {at_:Nat} (h:Lc p w base a v1 v2 at_) (hb:base'≤base):Lc p w base' a v1 v2 at_:=by
 rcases h with h|⟨i,j,h1,h2,h3,h4⟩
 ·exact .inl h
 ·exact .inr ⟨i,j,h1,h2,Br h3 hb,Br h4 hb⟩
abbrev TC (v1 v2:Value) (at_:Nat):Nat→Value:=fun j=>[v1,v2,.int .i64 at_].getD j (.bool false)
abbrev mX (v1:Value) (n:Int) (v2 v3:Value):Nat→Value:=fun j=>[v1,.int .i64 n,v2,v3].getD j (.bool false)
structure Ig (N:Nat) (p:Pg) (vs vc vk:Value) (nv:Int) (w:World) (v1 v2:Value) (at_:Nat):Prop where
 prog:w.rowIs N 45 4 (mX vs nv vc vk)
 res:w.rowIs (N+1) 59 3 (TC (.slice none 0 0) (.slice none 0 0) 0)
 Af:w.rowIs (N+1+1) 59 3 (TC v1 v2 at_)
 pg:IV w p vs vc vk
 ns: ∀ g,vs.ownBlock=some g→g<N
 nc: ∀ g,vc.ownBlock=some g→g<N
 nk: ∀ g,vk.ownBlock=some g→g<N
theorem Mr (w:World) (b:Nat) (u0 u1 u2:Value) (k:Nat) (hk:k≠b):(((w.setCell ⟨b,0,none⟩ u0).setCell ⟨b,1,none⟩ u1).setCell ⟨b,2,none⟩ u2).heap[k]? =w.heap[k]? :=
 ((Below.heap_setCell _ ⟨b,2,none⟩ u2 k hk).trans (Below.heap_setCell _ ⟨b,1,none⟩ u1 k hk)).trans (Below.heap_setCell _ ⟨b,0,none⟩ u0 k hk)
theorem wP {w:World} {b t:Nat} {v1 v2:Value} {at_:Nat} (h:w.rowIs b t 3 (TC v1 v2 at_)) (u1 u2:Value) (a:Nat):(((w.setCell ⟨b,0,none⟩ u1).setCell ⟨b,1,none⟩ u2).setCell ⟨b,2,none⟩ (.int .i64 a)).rowIs b t 3 (TC u1 u2 a):=
 (((h.set 0 u1).set 1 u2).set 2 (.int .i64 a)).congr (fun j hj=>by
     match j,hj with
     |0,_=>rfl
     |1,_=>rfl
     |2,_=>rfl
     |n+3,h=>omega)
theorem Ig.store {N:Nat} {p:Pg} {vs vc vk:Value} {nv:Int} {w:World} {v1 v2:Value} {at_:Nat} (h:Ig N p vs vc vk nv w v1 v2 at_) (u1 u2:Value) (a:Nat):
  Ig N p vs vc vk nv (((w.setCell ⟨N+1+1,0,none⟩ u1).setCell ⟨N+1+1,1,none⟩ u2).setCell ⟨N+1+1,2,none⟩ (.int .i64 a)) u1 u2 a:=
 ⟨h.prog.of_block (Mr _ _ _ _ _ _ (by omega)),h.res.of_block (Mr _ _ _ _ _ _ (by omega)),wP h.Af u1 u2 a,
  ⟨BP h.pg.s (fun k e=>Mr _ _ _ _ _ _ (by have:=h.ns k e;omega)),BP h.pg.c (fun k e=>Mr _ _ _ _ _ _ (by have:=h.nc k e;omega)),BP h.pg.k (fun k e=>Mr _ _ _ _ _ _ (by have:=h.nk k e;omega))⟩,h.ns,h.nc,h.nk⟩
theorem Ig.same {N:Nat} {p:Pg} {vs vc vk:Value} {nv:Int} {w w':World} {v1 v2:Value} {at_:Nat} (h:Ig N p vs vc vk nv w v1 v2 at_) (hb:Below w.heap.size w w'):Ig N p vs vc vk nv w' v1 v2 at_:=
 ⟨h.prog.of_block (hb.block _ h.prog.lt),h.res.of_block (hb.block _ h.res.lt),h.Af.of_block (hb.block _ h.Af.lt),h.pg.same hb,h.ns,h.nc,h.nk⟩
theorem ZJ (w:World) (cs:Array Value) (t:TypeId) (f:Nat→Value) (n N:Nat) (hN:N=w.heap.size) (hn:cs.size=n) (h: ∀ i (hi:i<n),cs[i]? =some (f i)):(w.alloc (.cells cs t)).rowIs N t n f:=by
 subst hN hn
 exact World.rowIs_alloc w cs t f h
theorem zx {w:World} {p:Pg} {Bj ac ak:Option Addr} {ns cs0 nc cc nk ck:Nat} {nv:Int} (hp:IV w p (.slice Bj ns cs0) (.slice ac nc cc) (.slice ak nk ck)):
  Ig w.heap.size p (.slice Bj ns cs0) (.slice ac nc cc) (.slice ak nk ck) nv (((w.alloc (.cells #[.slice Bj ns cs0,.int .i64 nv,.slice ac nc cc,.slice ak nk ck] 45)).alloc (.cells #[.slice none 0 0,.slice none 0 0,.int .i64 0] 59)).alloc (.cells #[.slice none 0 0,.slice none 0 0,.int .i64 0] 59)) (.slice none 0 0) (.slice none 0 0) 0:=by
 have h4: ∀ i,i<4→(#[.slice Bj ns cs0,.int .i64 nv,.slice ac nc cc,.slice ak nk ck]:Array Value)[i]? =some (mX (.slice Bj ns cs0) nv (.slice ac nc cc) (.slice ak nk ck) i):=fun i hi=>by
  match i,hi with
  |0,_=>rfl
  |1,_=>rfl
  |2,_=>rfl
  |3,_=>rfl
  |n+4,h=>omega
 have h3: ∀ i,i<3→(#[.slice none 0 0,.slice none 0 0,.int .i64 0]:Array Value)[i]? =some (TC (.slice none 0 0) (.slice none 0 0) 0 i):=fun i hi=>by
  match i,hi with
  |0,_=>rfl
  |1,_=>rfl
  |2,_=>rfl
  |n+3,h=>omega
 exact ⟨((ZJ w _ _ _ 4 _ rfl rfl h4).alloc _).alloc _,(ZJ (w.alloc _) _ _ _ 3 (w.heap.size+1) (by simp) rfl h3).alloc _,ZJ ((w.alloc _).alloc _) _ _ _ 3 (w.heap.size+1+1) (by simp) rfl h3,((hp.same ((Below.refl _ _).alloc (Nat.le_refl _) _)).same ((Below.refl _ _).alloc (Nat.le_refl _) _)).same ((Below.refl _ _).alloc (Nat.le_refl _) _),fun g e=>(hp.s.lt g e).2,fun g e=>(hp.c.lt g e).2,fun g e=>(hp.k.lt g e).2⟩
section
variable {N:Nat} {p:Pg} {vs vc vk:Value} {nv:Int} {w:World} {v1 v2:Value} {at_:Nat} (h:Ig N p vs vc vk nv w v1 v2 at_)
include h
theorem Ig.c0:w.cell? ⟨N,0,none⟩=some vs:=h.prog.cell (i:=0) (by omega)
theorem Ig.c1:w.cell? ⟨N,1,none⟩=some (.int .i64 nv):=h.prog.cell (i:=1) (by omega)
theorem Ig.c2:w.cell? ⟨N,2,none⟩=some vc:=h.prog.cell (i:=2) (by omega)
theorem Ig.c3:w.cell? ⟨N,3,none⟩=some vk:=h.prog.cell (i:=3) (by omega)
end
section
variable (p:Pg) (ok:Ep p) (w:World) (vs vc vk:Value) (nv:Int) (hp:IV w p vs vc vk)
include ok hp
theorem qN (k:Nat) (hk:k≤10):
  Calls Tryz.prog 20 #[.agg #[vs,.int .i64 nv,vc,vk],.int .i64 k] w fun e w'=> ∃ a1 n1 c1 a2 n2 c2 at_,e=.returned (.tuple #[.agg #[.slice a1 n1 c1,.slice a2 n2 c2,.int .i64 (at_:Nat)],.bool (decide ((Pr.fd p k).al<k))])∧Lc p w' w.heap.size (Pr.fd p k) (.slice a1 n1 c1) (.slice a2 n2 c2) at_∧Below w.heap.size w w':=by
 have hP:=Pr.iD false p.sec ok.sec
 have hS:=Pr.iD true p.sec ok.sec
 obtain ⟨Bj,cs0,e0⟩:=AX hp.s
 obtain ⟨ac,cc,e1⟩:=AX hp.c
 obtain ⟨ak,ck,e2⟩:=AX hp.k
 subst e0 e1 e2
 have HX:=hid (zx (nv:=nv) hp)
 have x0:=HX.out.c0
 have x1:=HX.out.c1
 have x2:=HX.out.c2
 have x3:=HX.out.c3
 have U0:=hid ((((Below.refl w.heap.size w).alloc (Nat.le_refl _) (.cells #[.slice Bj p.sec.length cs0,.int .i64 nv,.slice ac p.cells.length cc,.slice ak p.code.length ck] 45)).alloc (by simp) (.cells #[.slice none 0 0,.slice none 0 0,.int .i64 0] 59)).alloc (by simp;omega) (.cells #[.slice none 0 0,.slice none 0 0,.int .i64 0] 59))
 clear hp
 go_enter Tryz.func20,Tryz.ntmps20
 go_wp2_with (first
  |(go_at_call 46;refine (iF p ok _ _ _ _ nv HX.out.pg false).mono ?_;rintro e w1 ⟨rfl,hb1⟩;have AL:=hid (U0.out.trans (hb1.mono (by simp;omega)));have Mf:=hid (HX.out.same hb1);have z1:=hb1.size;simp at z1;have y0:=Mf.out.c0;have y1:=Mf.out.c1;have y2:=Mf.out.c2;have y3:=Mf.out.c3;clear hb1 x0 x1 x2 x3 HX U0)
  |(go_at_call 46;refine (iF p ok _ _ _ _ nv Mf.out.pg true).mono ?_;rintro e w2 ⟨rfl,hb2⟩;have AP:=hid (AL.out.trans (hb2.mono (by omega)));have z2:=hb2.size;have HX2:=hid (Mf.out.same hb2);clear hb2 y0 y1 y2 y3 Mf AL))
 have HFD:=hid (show Pr.I8 p k (Pr.rows p.sec false)=Pr.fd p k from rfl)
 generalize hPn:Pr.rows p.sec false=Pn at hP HFD ⊢
 generalize hSn:Pr.rows p.sec true=Sn at hS ⊢
 have HSN:=hid hSn
 clear hPn hSn
 have hz3:w.heap.size+3≤w2.heap.size:=by omega
 clear z1 z2
 go_loopw [9,10] (fun al c wr=> ∃ n:Nat,n≤Pn∧c=.int .i64 n∧al=.int .i64 (Pr.I8 p k n).al∧w.heap.size+3≤wr.heap.size∧Below w.heap.size w wr∧ ∃ a1 n1 c1 a2 n2 c2 at_,Ig w.heap.size p (.slice Bj p.sec.length cs0) (.slice ac p.cells.length cc) (.slice ak p.code.length ck) nv wr (.slice a1 n1 c1) (.slice a2 n2 c2) at_∧Lc p wr (w.heap.size+3) (Pr.I8 p k n) (.slice a1 n1 c1) (.slice a2 n2 c2) at_) (fun _ c _=>Pn - (intOf c).toNat)
 case atStart=>exact ⟨0,Nat.zero_le _,rfl,rfl,hz3,AP.out,none,0,0,none,0,0,0,HX2.out,.inl ⟨rfl,rfl,rfl,rfl⟩⟩
 case round=>
  obtain ⟨n,hn,rfl,rfl,hz,AB,a1,n1,c1,a2,n2,c2,at_,hx,hv⟩:=hrel
  have HX:=hid hx
  have HV:=hid hv
  have HB:=hid AB
  by_cases hlt:n<Pn
  ·have hal:=Pr.abl p k n
   have DY:=hid (show Pr.I8 p k (n+1)=Pr.E9 p n (Pr.I8 p k n) (Pr.rows p.sec true - 1) from rfl)
   rw[HSN.out] at DY
   generalize Pr.I8 p k n=A at hal DY HV ⊢
   obtain ⟨Pf,bJ⟩: ∃ x,A.al=x:=⟨_,rfl⟩
   have HAL:=hid bJ
   rw[bJ] at hal ⊢
   have aJ:Pf≤10:=by omega
   have x0:=hx.c0
   have x1:=hx.c1
   have x2:=hx.c2
   have x3:=hx.c3
   clear hx hv AB bJ
   go_wp2_with (first
    |(go_at_call 47;refine (YD p ok _ _ _ _ nv HX.out.pg n 0 (by omega) (by omega)).mono ?_;rintro e w3 ⟨v3,rfl,Fy,hb3⟩;obtain ⟨q3,p3,e3⟩:=AX Fy;subst e3;have Gb:=hid (Br (base':=w.heap.size+3) Fy hz);have Ph:=hid (HX.out.same hb3);have HV3:=hid (HV.out.kept (fun q _ hq=>hb3.block q hq));have Cq:=hid (HB.out.trans (hb3.mono (by omega)));have z3:=hb3.size;have y0:=Ph.out.c0;have y1:=Ph.out.c1;have y2:=Ph.out.c2;have y3:=Ph.out.c3;clear Fy hb3 x0 x1 x2 x3 HX HV HB)
    |(go_at_call 48;refine (Vf p ok (Pr.inp p.sec n 0) (by rw[Pr.Ls];exact ok.sec) (Pr.QY p.sec n 0) Pf aJ _ _ _ _ _ nv Ph.out.pg ?_).mono ?_;rw[Pr.Ls];exact Br Gb.out (Nat.zero_le _);rintro e w4 ⟨v4,rfl,BW,hb4⟩;obtain ⟨q4,p4,e4⟩:=AX BW;subst e4;have D8:=hid (Br (base':=w.heap.size+3) BW (by omega));have mg:=hid (CL Gb.out hb4.block);have HX4:=hid (Ph.out.same hb4);have UL:=hid (HV3.out.kept (fun q _ hq=>hb4.block q hq));have Dl:=hid (Cq.out.trans (hb4.mono (by omega)));have z4:=hb4.size;clear BW hb4 y0 y1 y2 y3 Ph HV3 Cq Gb))
   have PO:w.heap.size+3≤w4.heap.size:=by omega
   go_loopw [9,13] (fun al c wq=> ∃ m:Nat,m≤Sn - 1∧c=.int .i64 ((m+1:Nat):Int)∧al=.int .i64 (Pr.E9 p n A m).al∧w.heap.size+3≤wq.heap.size∧Below w.heap.size w wq∧
     wq.ownsRow (w.heap.size+3) 3 1 (.slice q3 p.sec.length p3) p.sec.length ((Pr.inp p.sec n 0).map fun (n:Nat)=>.int .i64 n)∧wq.ownsRow (w.heap.size+3) 3 1 (.slice q4 Pf p4) Pf ((Mc.tells p (Mc.BZ (Pr.inp p.sec n 0)) Pf).map fun (n:Nat)=>.int .i64 n)∧
     ∃ a1 n1 c1 a2 n2 c2 at_,Ig w.heap.size p (.slice Bj p.sec.length cs0) (.slice ac p.cells.length cc) (.slice ak p.code.length ck) nv wq (.slice a1 n1 c1) (.slice a2 n2 c2) at_∧Lc p wq (w.heap.size+3) (Pr.E9 p n A m) (.slice a1 n1 c1) (.slice a2 n2 c2) at_) (fun _ c _=>Sn+1 - (intOf c).toNat)
   case atStart=>exact ⟨0,Nat.zero_le _,rfl,by rw[←HAL.out];rfl,PO,Dl.out,mg.out,D8.out,a1,n1,c1,a2,n2,c2,at_,HX4.out,UL.out⟩
   case round=>
    clear HX4 UL Dl mg D8 PO z4 z3
    obtain ⟨m,hm,rfl,rfl,PQ,AB,I4,ho4,b1,m1,d1,b2,m2,d2,bt,hx,hv⟩:=hrel
    have hle:=Pr.ja p n A m
    rw[HAL.out] at hle
    have RO:=hid (show Pr.E9 p n A (m+1)=Pr.look p n (Pr.E9 p n A m) (m+1) from rfl)
    have HZ:=hid (fun d=>Pr.sN p n A m d)
    have HBM:=hid (show Pr.E9 p n A m=Pr.E9 p n A m from rfl)
    generalize hBm:Pr.E9 p n A m=B at hle RO HZ hv ⊢
    have Ma:=hid hBm
    obtain ⟨al,bK⟩: ∃ x,B.al=x:=⟨_,rfl⟩
    have Qm:=hid bK
    rw[bK] at hle ⊢
    have HX:=hid hx
    have HV:=hid hv
    have HB:=hid AB
    have Gb:=hid I4
    have D8:=hid ho4
    have x0:=hx.c0
    have x1:=hx.c1
    have x2:=hx.c2
    have x3:=hx.c3
    clear hx hv AB I4 ho4 hBm bK HBM
    obtain ⟨j,hj⟩: ∃ x,m+1=x:=⟨_,rfl⟩
    rw[hj]
    rw[hj] at RO
    by_cases Cy:j<Sn
    ·by_cases ha0:0<al
     ·obtain ⟨ag,hag⟩: ∃ x,Pr.Fs (Pr.run p n 0) (Pr.run p n j) al=x:=⟨_,rfl⟩
      have adi:=Pr.Sa (Pr.run p n 0) (Pr.run p n j) al
      rw[hag] at adi
      have Me:=hid hag
      clear hag
      by_cases hcut:ag<al
      ·go_wp2_with (first
        |(go_at_call 47;refine (YD p ok _ _ _ _ nv HX.out.pg n j (by omega) (by omega)).mono ?_;rintro e w5 ⟨v5,rfl,MA,Cb⟩;obtain ⟨q5,p5,e5⟩:=AX MA;subst e5;have PR:=hid (Br (base':=w.heap.size+3) MA PQ);have KS:=hid (HX.out.same Cb);have CE:=hid Cb;have z5:=Cb.size;have y0:=KS.out.c0;have y1:=KS.out.c1;have y2:=KS.out.c2;have y3:=KS.out.c3;clear MA Cb x0 x1 x2 x3)
        |(go_at_call 48;refine (Vf p ok (Pr.inp p.sec n j) (by rw[Pr.Ls];exact ok.sec) (Pr.QY p.sec n j) al (by omega) _ _ _ _ _ nv KS.out.pg ?_).mono ?_;rw[Pr.Ls];exact Br PR.out (Nat.zero_le _);rintro e w6 ⟨v6,rfl,Oc,D9⟩;obtain ⟨q6,p6,e6⟩:=AX Oc;subst e6;have HO6:=hid (Br (base':=w.heap.size+3) Oc (by omega));have Bz:=hid (CE.out.trans (D9.mono z5));have bL:=hid (CL PR.out D9.block);have z6:=D9.size;clear Oc D9 y0 y1 y2 y3)
        |(go_at_call 49;refine (fh (Pr.run p n 0) (Pr.run p n j) Pf al hle aJ _ _ _ (Br (CL D8.out Bz.out.block) (Nat.zero_le _)) (Br HO6.out (Nat.zero_le _))).mono ?_;rintro e w7 ⟨he,Eg⟩;rw[Me.out] at he;subst he;have Ew:=hid (Bz.out.trans (Eg.mono (by omega)));have bM:=hid (CL bL.out Eg.block);have z7:=Eg.size;have KT:=hid (HX.out.same Ew.out);have g0:=KT.out.Af.cell (i:=0) (by omega);have g1:=KT.out.Af.cell (i:=1) (by omega);have g2:=KT.out.Af.cell (i:=2) (by omega);have gf:=KT.out.Af.frozen;simp at g0 g1 g2;clear Eg))
       go_roundw
       case rel=>
        have hst:Pr.look p n B j=⟨ag,some (n,j)⟩:=by unfold Pr.look;rw[Qm.out,Me.out,if_pos hcut]
        have lI: ∀ q,w.heap.size+3≤q→q<wr.heap.size→(((w7.setCell ⟨w.heap.size+1+1,0,none⟩ (.slice q3 p.sec.length p3)).setCell ⟨w.heap.size+1+1,1,none⟩ (.slice q5 p.sec.length p5)).setCell ⟨w.heap.size+1+1,2,none⟩ (.int .i64 ag)).heap[q]? =wr.heap[q]? :=fun q h1 h2=>(Mr _ _ _ _ _ _ (by omega)).trans (Ew.out.block q h2)
        have I4:=BP Gb.out (fun q e=>lI q (Gb.out.lt q e).1 (Gb.out.lt q e).2)
        refine ⟨m+1,by omega,by go_num,by rw[hj,RO.out,hst],by simp;omega,?_,I4,BP D8.out (fun q e=>lI q (D8.out.lt q e).1 (D8.out.lt q e).2),q3,_,p3,q5,_,p5,ag,KT.out.store _ _ _,?_⟩
        ·exact (((HB.out.trans (Ew.out.mono (by omega))).setCell (by show w.heap.size≤w.heap.size+1+1;omega) _).setCell (by show w.heap.size≤w.heap.size+1+1;omega) _).setCell (by show w.heap.size≤w.heap.size+1+1;omega) _
        ·rw[hj,RO.out,hst]
         exact .inr ⟨n,j,rfl,rfl,I4,BP bM.out (fun q e=>Mr _ _ _ _ _ _ (by have:=(bM.out.lt q e).1;omega))⟩
       case measure=>simp[intOf];omega
      ·go_wp2_with (first
        |(go_at_call 47;refine (YD p ok _ _ _ _ nv HX.out.pg n j (by omega) (by omega)).mono ?_;rintro e w5 ⟨v5,rfl,MA,Cb⟩;obtain ⟨q5,p5,e5⟩:=AX MA;subst e5;have PR:=hid (Br (base':=w.heap.size+3) MA PQ);have KS:=hid (HX.out.same Cb);have CE:=hid Cb;have z5:=Cb.size;have y0:=KS.out.c0;have y1:=KS.out.c1;have y2:=KS.out.c2;have y3:=KS.out.c3;clear MA Cb x0 x1 x2 x3)
        |(go_at_call 48;refine (Vf p ok (Pr.inp p.sec n j) (by rw[Pr.Ls];exact ok.sec) (Pr.QY p.sec n j) al (by omega) _ _ _ _ _ nv KS.out.pg ?_).mono ?_;rw[Pr.Ls];exact Br PR.out (Nat.zero_le _);rintro e w6 ⟨v6,rfl,Oc,D9⟩;obtain ⟨q6,p6,e6⟩:=AX Oc;subst e6;have HO6:=hid (Br (base':=w.heap.size+3) Oc (by omega));have Bz:=hid (CE.out.trans (D9.mono z5));have bL:=hid (CL PR.out D9.block);have z6:=D9.size;clear Oc D9 y0 y1 y2 y3)
        |(go_at_call 49;refine (fh (Pr.run p n 0) (Pr.run p n j) Pf al hle aJ _ _ _ (Br (CL D8.out Bz.out.block) (Nat.zero_le _)) (Br HO6.out (Nat.zero_le _))).mono ?_;rintro e w7 ⟨he,Eg⟩;rw[Me.out] at he;subst he;have Ew:=hid (Bz.out.trans (Eg.mono (by omega)));have bM:=hid (CL bL.out Eg.block);have z7:=Eg.size;have KT:=hid (HX.out.same Ew.out);have g0:=KT.out.Af.cell (i:=0) (by omega);have g1:=KT.out.Af.cell (i:=1) (by omega);have g2:=KT.out.Af.cell (i:=2) (by omega);have gf:=KT.out.Af.frozen;simp at g0 g1 g2;clear Eg))
       go_roundw
       case rel=>
        have hst:Pr.look p n B j=B:=by unfold Pr.look;rw[Qm.out,Me.out,if_neg hcut]
        refine ⟨m+1,by omega,by go_num,by rw[hj,RO.out,hst,Qm.out],by omega,HB.out.trans (Ew.out.mono (by omega)),CL Gb.out Ew.out.block,CL D8.out Ew.out.block,b1,m1,d1,b2,m2,d2,bt,KT.out,?_⟩
        rw[hj,RO.out,hst]
        exact HV.out.kept (fun q _ hq=>Ew.out.block q hq)
       case measure=>simp[intOf];omega
     ·have hfin:Pr.I8 p k (n+1)=B:=by
       rw[DY.out,show Sn - 1=m+(Sn - 1 - m) by omega, ←HZ.out (Sn - 1 - m) (by rw[Qm.out];omega)]
      have TD:=hid hfin
      clear hfin
      go_wp2_with fail
      go_roundw
      case rel=>exact ⟨n+1,by omega,by go_num,by rw[TD.out,Qm.out],PQ,HB.out,b1,m1,d1,b2,m2,d2,bt,HX.out,by rw[TD.out];exact HV.out⟩
      case measure=>simp[intOf];omega
    ·have hfin:Pr.I8 p k (n+1)=B:=by
      rw[DY.out,show Sn - 1=m by omega,Ma.out]
     have TD:=hid hfin
     clear hfin
     go_wp2_with fail
     go_roundw
     case rel=>exact ⟨n+1,by omega,by go_num,by rw[TD.out,Qm.out],PQ,HB.out,b1,m1,d1,b2,m2,d2,bt,HX.out,by rw[TD.out];exact HV.out⟩
     case measure=>simp[intOf];omega
  ·have hne:n=Pn:=by omega
   subst hne
   rw[HFD.out] at HV
   rw[HFD.out]
   have g0:=hx.Af.cell (i:=0) (by omega)
   have g1:=hx.Af.cell (i:=1) (by omega)
   have g2:=hx.Af.cell (i:=2) (by omega)
   have r0:=hx.res.cell (i:=0) (by omega)
   have r1:=hx.res.cell (i:=1) (by omega)
   have r2:=hx.res.cell (i:=2) (by omega)
   have rf:=hx.res.frozen
   simp at g0 g1 g2 r0 r1 r2
   obtain ⟨al,hal⟩: ∃ x,(Pr.fd p k).al=x:=⟨_,rfl⟩
   rw[hal]
   have hdec:decide (al<k)=decide ((al:Int)<(k:Int)):=by
    by_cases h:al<k
    ·rw[decide_eq_true h,decide_eq_true (by omega)]
    ·rw[decide_eq_false h,decide_eq_false (by omega)]
   have HD:=hid (And.intro hal hdec)
   clear hx hv AB hal hdec
   go_wp2_with fail
   refine bodyPost_ret (v:=.tuple #[.agg #[.slice a1 n1 c1,.slice a2 n2 c2,.int .i64 at_],.bool (decide (al<k))]) (by simp[results,Tryz.results20,go_sem,r0,r1,r2]) rfl ⟨a1,n1,c1,a2,n2,c2,at_,by rw[HD.out.1],?_,?_⟩
   ·exact (HV.out.kept (fun q h1 h2=>Mr _ _ _ _ _ _ (by omega))).low (by omega)
   ·exact ((HB.out.setCell (by show w.heap.size≤w.heap.size+1;omega) _).setCell (by show w.heap.size≤w.heap.size+1;omega) _).setCell (by show w.heap.size≤w.heap.size+1;omega) _
end
namespace Pr
theorem sO (p:Pg) (i:Nat) (a:Fd) (j:Nat) (h:(look p i a j).fi=none):a.fi=none∧look p i a j=a:=by
 unfold look at h ⊢
 split at h
 ·cases h
 ·rename_i hn;rw[if_neg hn];exact ⟨h,rfl⟩
theorem sQ (p:Pg) (i:Nat) (a:Fd) (n:Nat) (h:(E9 p i a n).fi=none):a.fi=none∧E9 p i a n=a:=by
 induction n with
 |zero=>exact ⟨h,rfl⟩
 |succ n ih=>
  obtain ⟨h1,h2⟩:=sO p i _ _ (show (look p i (E9 p i a n) (n+1)).fi=none from h)
  obtain ⟨h3,h4⟩:=ih h1
  exact ⟨h3,(show look p i (E9 p i a n) (n+1)=a by rw[h2,h4])⟩
theorem wQ (p:Pg) (k n:Nat) (h:(I8 p k n).fi=none):(I8 p k n).al=k:=by
 induction n with
 |zero=>rfl
 |succ n ih=>
  obtain ⟨h1,h2⟩:=sQ p n _ _ (show (E9 p n (I8 p k n) (rows p.sec true - 1)).fi=none from h)
  show (E9 p n (I8 p k n) (rows p.sec true - 1)).al=k
  rw[h2];exact ih h1
end Pr
theorem wR {p:Pg} {w:World} {base k:Nat} {v1 v2:Value} {at_:Nat} (h:Lc p w base (Pr.fd p k) v1 v2 at_) (hin:(Pr.fd p k).al<k): ∃ i j,(Pr.fd p k).fi=some (i,j)∧at_=(Pr.fd p k).al∧
  w.ownsRow base 3 1 v1 p.sec.length ((Pr.inp p.sec i 0).map fun (n:Nat)=>.int .i64 n)∧
  w.ownsRow base 3 1 v2 p.sec.length ((Pr.inp p.sec i j).map fun (n:Nat)=>.int .i64 n):=by
 rcases h with ⟨h,_⟩|h
 ·have h2:=Pr.wQ p k _ h
  have h3:(Pr.fd p k).al=k:=h2
  omega
 ·exact h
end Go.Proofs.YtgddmpmcnjlcjaaGreatDoor
