import Derived.Test.YtgddmpmcnjlcjaaGreatDoorB19
import Derived.Test.YtgddmpmcnjlcjaaGreatDoorB10
set_option maxRecDepth 100000
set_option maxHeartbeats 1000000
namespace Go.Proofs.YtgddmpmcnjlcjaaGreatDoor
open Go.RowKit
set_option linter.unusedVariables false
section
variable {B wb vars ct:Nat} {bs:List UInt8} {vt:Value} {w:World}
theorem Au.drew (h:Au B wb vars ct bs vt w):Au B wb vars ct bs vt w.drew:=⟨h.row.drew,h.cb,h.own,h.hb,h.ne⟩
theorem DU.drew (h:DU B w):DU B w.drew:=h.on (Below.refl B w).drew
theorem B6.drew {w':World} (h:B6 B wb w w'):B6 B wb w w'.drew:=⟨h.1.drew,fun k o a b c=>h.2 k o a b c⟩
def aH (a b:Value) (i:Nat):Value:=if i=0 then a else b
theorem Vh {w:World} {g:Nat} {a b:Value} (h:w.heap[g]? =some (.cells #[a,b] 111)):w.rowIs g 111 2 (aH a b):=⟨_,h,rfl,fun i hi=>by
 match i,hi with
 |0,_=>rfl
 |1,_=>rfl
 |n+2,h=>exact absurd h (by omega)⟩
theorem CX (w:World) (o:Obj) (g:Nat) (h:g=w.heap.size):(w.alloc o).heap[g]? =some o:=by subst h;exact heap_alloc_new w o
theorem Du (w:World) (o p:Obj) (g:Nat) (h:w.heap[g]? =some p):(w.alloc o).heap[g]? =some p:=(Below.heap_alloc w o g (Array.getElem?_eq_some_iff.1 h).1).trans h
theorem Au.other (h:Au B wb vars ct bs vt w) {p:Addr} (hp:wb≠p.block) (hv:vt.ownBlock≠some p.block) (u:Value):Au B wb vars ct bs vt (w.setCell p u):=⟨h.row.setOther hp u,h.cb,by
 obtain ⟨b,i,q⟩:=p
 exact h.own.kept (grownBy_setCell w ⟨b,i,q⟩ u) (.inr hv),h.hb,h.ne⟩
theorem B6.WI {a:World} (h:B6 B wb a w) {p:Addr} (hB:B≤p.block) (hn:a.heap.size≤p.block) (u:Value):B6 B wb a (w.setCell p u):=
 ⟨h.1.setCell hB u,fun k o hk hne ht=>(Below.heap_setCell w p u k (fun e=>by have:=(Array.getElem?_eq_some_iff.1 hk).1;omega)).trans (h.2 k o hk hne ht)⟩
theorem fZ (h:Au B wb vars ct bs vt w) (hBw:B≤w.heap.size) (v node:Nat) (hv:v≤1000000000) (a1 a2 a3:Option Addr) (n1 c1 c2 n3 c3:Nat) (N:List Nat) (hN:w.ownsRow 0 3 1 (.slice a2 N.length c2) N.length (N.map fun (n:Nat)=>.int .i64 n)) (RF:node<N.length) (Ca:N.getD node 0≤1000000000) (LZ:N.length≤1000000000) (CY:bs.length≤700000000) (Ag:DU B w):
  Calls Tryz.prog 43 #[.pointer (some ⟨wb,0,none⟩),.int .i64 v,.int .i64 node,.agg #[.slice a1 n1 c1,.slice a2 N.length c2,.slice a3 n3 c3]] w fun e w'=>e=.returned (.agg #[.int .i64 v,.int .i64 ((ct+1:Nat):Int)])∧ ∃ Al,Au B wb vars (ct+Bd node) (bs++FY N v node 0) Al w'∧B6 B wb w w':=by
 have H:=hid h
 have HT:=hid Ag
 have HN:=hid hN
 have hc1:=h.c1
 have hcb:=h.cb
 have mJ:(ct:Int)≤1000000000:=by omega
 have Gq:(v:Int)≤1000000000:=by omega
 clear h Ag hN
 have agD:=fun o1 o2=>((H.out.alloc o1).alloc o2).c1
 obtain ⟨W,hW⟩: ∃ W:World,((w.alloc (.cells #[.slice a1 n1 c1,.slice a2 N.length c2,.slice a3 n3 c3] 107)).alloc (.cells #[.int .i64 0,.int .i64 0] 111)).alloc (.cells #[.int .i64 v,.int .i64 ((ct:Int)+1)] 111)=W:=⟨_,rfl⟩
 have PL:W.heap.size=w.heap.size+3:=by rw[←hW];simp
 have HW:=hid (((H.out.alloc (.cells #[.slice a1 n1 c1,.slice a2 N.length c2,.slice a3 n3 c3] 107)).alloc (.cells #[.int .i64 0,.int .i64 0] 111)).alloc (.cells #[.int .i64 v,.int .i64 ((ct:Int)+1)] 111))
 have EX:=hid (((HT.out.alloc hBw (.cells #[.slice a1 n1 c1,.slice a2 N.length c2,.slice a3 n3 c3] 107)).alloc (by simp;omega) (.cells #[.int .i64 0,.int .i64 0] 111)).alloc (by simp;omega) (.cells #[.int .i64 v,.int .i64 ((ct:Int)+1)] 111))
 have J6:=hid (((HN.out.alloc (.cells #[.slice a1 n1 c1,.slice a2 N.length c2,.slice a3 n3 c3] 107)).alloc (.cells #[.int .i64 0,.int .i64 0] 111)).alloc (.cells #[.int .i64 v,.int .i64 ((ct:Int)+1)] 111))
 have Ic:=hid ((((B6.refl B wb w).alloc hBw (.cells #[.slice a1 n1 c1,.slice a2 N.length c2,.slice a3 n3 c3] 107)).alloc (by simp;omega) (.cells #[.int .i64 0,.int .i64 0] 111)).alloc (by simp;omega) (.cells #[.int .i64 v,.int .i64 ((ct:Int)+1)] 111))
 have HZ:=hid (show W.heap[w.heap.size+1]? =some (.cells #[.int .i64 0,.int .i64 0] 111) by rw[←hW];exact Du _ _ _ _ (CX _ _ _ (by simp)))
 have HS:=hid (show W.heap[w.heap.size+2]? =some (.cells #[.int .i64 v,.int .i64 ((ct:Int)+1)] 111) by rw[←hW];exact CX _ _ _ (by simp))
 rw[hW] at HW EX J6 Ic
 have HE:=hid hW
 clear hW
 have hBW:B≤W.heap.size:=by omega
 have Oq:=H.out.row.lt
 go_enter Tryz.func43,Tryz.ntmps43
 go_wp2_with (go_at_call 77;rw[HE.out];refine (Yh HW.out hBW v 0 ⟨by omega,by omega⟩ ⟨by omega,by omega⟩ node a1 a2 a3 n1 c1 c2 n3 c3 N J6.out RF Ca LZ (by omega) EX.out).mono ?_;rintro e w1 ⟨rfl,v1,h1,f1⟩;have H1:=hid h1;have F1:=hid f1;have z1:=f1.1.size;clear h1 f1;refine Hid.out ?_)
 refine hid ?_
 have s1:=F1.out.2 _ _ HS.out (by simp;omega) (by intro c fz e;cases e)
 have s0:=F1.out.2 _ _ HZ.out (by simp;omega) (by intro c fz e;cases e)
 have r1:=Vh s1
 have r0:=Vh s0
 have e0:=r1.cell (i:=0) (by omega)
 have e1:=r1.cell (i:=1) (by omega)
 have g0:=r0.cell (i:=0) (by omega)
 have g1:=r0.cell (i:=1) (by omega)
 have gf0:=r0.frozen 0
 have gf1:=r0.frozen 1
 dsimp only[aH] at e0 e1 g0 g1
 have U2:v1.ownBlock≠some (w.heap.size+1):=Aq H1.out.own r0 (by decide)
 have Ng:=hid U2
 clear r1 r0 s1 s0 U2
 go_wp2_with fail
 refine bodyPost_ret (v:=.agg #[.int .i64 v,.int .i64 ((ct:Int)+1)]) (by simp[results,Tryz.results43,go_sem,g0,g1]) rfl ⟨rfl,⟨v1,?_⟩,?_⟩
 ·exact (H1.out.other (p:=⟨w.heap.size+1,0,none⟩) (by show wb≠w.heap.size+1;omega) Ng.out _).other (p:=⟨w.heap.size+1,1,none⟩) (by show wb≠w.heap.size+1;omega) Ng.out _
 ·exact ((Ic.out.trans F1.out).WI (p:=⟨w.heap.size+1,0,none⟩) (by show B≤w.heap.size+1;omega) (by show w.heap.size≤w.heap.size+1;omega) _).WI (p:=⟨w.heap.size+1,1,none⟩) (by show B≤w.heap.size+1;omega) (by show w.heap.size≤w.heap.size+1;omega) _
end
namespace Cl
structure Ns where
 vars:Nat
 ct:Nat
 f1:Nat→Nat
 f2:Nat→Nat
 bs:List UInt8
def tab (L:Nat) (f:Nat→Nat):List Nat:=(List.range L).map f
theorem Gm (L:Nat) (f:Nat→Nat):(tab L f).length=L:=by simp[tab]
theorem OM (L:Nat) (f:Nat→Nat) (i:Nat) (h:i<L):(tab L f).getD i 0=f i:=by simp[tab,h]
theorem L4 (L:Nat) (f:Nat→Nat) (m:Nat) (h: ∀ i,f i≤m) (i:Nat):(tab L f).getD i 0≤m:=by
 by_cases c:i<L
 ·rw[OM L f i c];exact h i
 ·rw[List.getD_eq_getElem?_getD,List.getElem?_eq_none (by rw[Gm];omega)];exact Nat.zero_le _
def one (L:Nat) (b1:List Nat) (d:Dg.Nd) (i:Nat) (x:Ns):Ns:=
 { x with vars:=x.vars+1,f1:=Lk.upd x.f1 i (x.vars+1),ct:=x.ct+(Bd d.lo+Bd d.hi),bs:=x.bs++Hj b1 (tab L (Lk.upd x.f1 i (x.vars+1))) ((x.vars+1:Nat):Int) d.bit d.lo d.hi }
def two (L:Nat) (b2:List Nat) (d:Dg.Nd) (x:Ns):Ns:=
 if d.sec then { x with vars:=x.vars+1,ct:=x.ct+(Bd d.lo+Bd d.hi),bs:=x.bs++Hj b2 (tab L x.f2) ((x.vars+1:Nat):Int) d.bit d.lo d.hi } else x
def Hp (L:Nat) (b1 b2:List Nat) (d:Dg.Nd) (i:Nat) (x:Ns):Ns:=
 let y:=two L b2 d (one L b1 d i x)
 { y with f2:=Lk.upd y.f2 i y.vars }
def BG (nodes:List Dg.Nd) (b1 b2:List Nat) (x:Ns):Nat→Ns
 |0=>x
 |i+1=>if i<2 then BG nodes b1 b2 x i else Hp nodes.length b1 b2 (Dg.AG nodes i) i (BG nodes b1 b2 x i)
structure Jy (x:Ns) (v b:Nat):Prop where
 vars:x.vars≤v
 f1: ∀ i,x.f1 i≤x.vars
 f2: ∀ i,x.f2 i≤x.vars
 bs:x.bs.length≤b
theorem f_ {bits N:List Nat} {v:Int} (hv: -1000000000≤v∧v≤1000000000) (hN: ∀ i,N.getD i 0≤1000000000) (hb: ∀ i,bits.getD i 0≤1000000000) (bit lo hi:Nat):(Hj bits N v bit lo hi).length≤272:=by
 have h:=hb bit
 have l1:=VO N (v:=v) (u:=(bits.getD bit 0:Nat)) hv ⟨by omega,by omega⟩ lo (hN lo)
 have l2:=VO N (v:=v) (u:= -(bits.getD bit 0:Int)) hv ⟨by omega,by omega⟩ hi (hN hi)
 unfold Hj
 rw[List.length_append]
 omega
theorem kL {f:Nat→Nat} {i v m:Nat} (h: ∀ j,f j≤m) (hv:v≤m) (j:Nat):Lk.upd f i v j≤m:=by
 unfold Lk.upd
 split
 ·exact hv
 ·exact h j
theorem kM {L:Nat} {b1:List Nat} {d:Dg.Nd} {i:Nat} {x:Ns} {v b:Nat} (h:Jy x v b) (hv:v+1≤1000000000) (hb: ∀ i,b1.getD i 0≤1000000000):Jy (one L b1 d i x) (v+1) (b+272):=by
 have h0:=h.vars
 have e1: ∀ j,Lk.upd x.f1 i (x.vars+1) j≤x.vars+1:=kL (fun j=>Nat.le_succ_of_le (h.f1 j)) (Nat.le_refl _)
 refine ⟨by show x.vars+1≤v+1;omega,e1,fun j=>Nat.le_succ_of_le (h.f2 j),?_⟩
 have:=f_ (bits:=b1) (N:=tab L (Lk.upd x.f1 i (x.vars+1))) (v:=((x.vars+1:Nat):Int)) ⟨by omega,by omega⟩ (L4 L _ _ (fun j=>Nat.le_trans (e1 j) (by omega))) hb d.bit d.lo d.hi
 show (x.bs++_).length≤b+272
 rw[List.length_append]
 have:=h.bs
 omega
theorem abc {L:Nat} {b2:List Nat} {d:Dg.Nd} {x:Ns} {v b:Nat} (h:Jy x v b) (hv:v+1≤1000000000) (hb: ∀ i,b2.getD i 0≤1000000000):Jy (two L b2 d x) (v+1) (b+272):=by
 unfold two
 have h0:=h.vars
 have h1:=h.bs
 split
 ·refine ⟨by show x.vars+1≤v+1;omega,fun j=>Nat.le_succ_of_le (h.f1 j),fun j=>Nat.le_succ_of_le (h.f2 j),?_⟩
  have:=f_ (bits:=b2) (N:=tab L x.f2) (v:=((x.vars+1:Nat):Int)) ⟨by omega,by omega⟩ (L4 L _ _ (fun j=>Nat.le_trans (h.f2 j) (by omega))) hb d.bit d.lo d.hi
  show (x.bs++_).length≤b+272
  rw[List.length_append]
  omega
 ·exact ⟨by omega,h.f1,h.f2,by omega⟩
theorem wH {L:Nat} {b1 b2:List Nat} {d:Dg.Nd} {i:Nat} {x:Ns} {v b:Nat} (h:Jy x v b) (hv:v+2≤1000000000) (hb: ∀ i,b1.getD i 0≤1000000000) (hb2: ∀ i,b2.getD i 0≤1000000000):Jy (Hp L b1 b2 d i x) (v+2) (b+544):=by
 have h1:=kM (L:=L) (d:=d) (i:=i) h (by omega) hb
 have h2:=abc (L:=L) (d:=d) h1 (by omega) hb2
 exact ⟨h2.vars,h2.f1,kL h2.f2 (Nat.le_refl _),h2.bs⟩
theorem sK {nodes:List Dg.Nd} {b1 b2:List Nat} {x:Ns} {v b:Nat} (h:Jy x v b) (hb: ∀ i,b1.getD i 0≤1000000000) (hb2: ∀ i,b2.getD i 0≤1000000000) (i:Nat) (hv:v+2*i≤1000000000):Jy (BG nodes b1 b2 x i) (v+2*i) (b+544*i):=by
 induction i with
 |zero=>exact h
 |succ i ih=>
  have h1:=ih (by omega)
  unfold BG
  split
  ·exact ⟨Nat.le_trans h1.vars (by omega),h1.f1,h1.f2,Nat.le_trans h1.bs (by omega)⟩
  ·have h2:=wH (L:=nodes.length) (d:=Dg.AG nodes i) (i:=i) h1 (by omega) hb hb2
   exact ⟨Nat.le_trans h2.vars (by omega),h2.f1,h2.f2,Nat.le_trans h2.bs (by omega)⟩
end Cl
def Gn (D:List Nat) (n:Nat):List UInt8:=(List.range n).flatMap fun i=>Er (D.getD i 0)
theorem eO (D:List Nat) (n:Nat):Gn D (n+1)=Gn D n++Er (D.getD n 0):=by
 unfold Gn
 rw[List.range_succ,List.flatMap_append]
 simp
theorem fe (D:List Nat) (hD: ∀ i,D.getD i 0≤1000000000) (n:Nat):(Gn D n).length≤22*n:=by
 induction n with
 |zero=>simp[Gn]
 |succ n ih=>
  have h9:=hD n
  have:= @OJ (D.getD n 0:Nat) ⟨by omega,by omega⟩
  rw[eO,List.length_append]
  omega
section
variable {B wb vars ct:Nat} {bs:List UInt8} {vt:Value} {w:World}
theorem wI (h:Au B wb vars ct bs vt w) (hBw:B≤w.heap.size) (a3:Option Addr) (c3:Nat) (D:List Nat) (hD:w.ownsRow 0 3 1 (.slice a3 D.length c3) D.length (D.map fun (n:Nat)=>.int .i64 n)) (hD9: ∀ i,D.getD i 0≤1000000000) (hDl:D.length≤1000) (CY:bs.length≤700000000) (Ag:DU B w):
  Calls Tryz.prog 45 #[.pointer (some ⟨wb,0,none⟩),.slice a3 D.length c3] w fun e w'=>e=.returned (.tuple #[])∧ ∃ Al,Au B wb vars (ct+1) (bs++Gn D D.length++[48,10]) Al w'∧B6 B wb w w':=by
 have H:=hid h
 have HT:=hid Ag
 have HDK:=hid hD
 have Oq:=h.row.lt
 have hDI:(D.length:Int)≤1000:=by omega
 have HDW:=hid (show (Value.slice a3 D.length c3).ownBlock≠some wb from Aq hD h.row (by decide))
 clear h Ag hD
 go_enter Tryz.func45,Tryz.ntmps45
 go_wp2_with fail
 go_loopw [8] (fun c wr=> ∃ (L:Nat) (EY:Value),L≤D.length∧c=.int .i64 L∧Au B wb vars ct (bs++Gn D L) EY wr∧B6 B wb w wr) (fun c _=>D.length - (intOf c).toNat)
 case atStart=>exact ⟨0,vt,Nat.zero_le _,rfl,by rw[show Gn D 0=[] from rfl,List.append_nil];exact H.out,B6.refl _ _ _⟩
 case round=>
  obtain ⟨M,vt2,hM,rfl,hwr,Ak⟩:=hrel
  have H1:=hid hwr
  have F1:=hid Ak
  have z1:=Ak.1.size
  clear hwr Ak
  have Qx:(M:Int)≤1000:=by omega
  have Eh:=hid (show (bs++Gn D M).length≤800000000 by
   have:=fe D hD9 M
   rw[List.length_append]
   omega)
  have I_:B≤wr.heap.size:=by omega
  by_cases hlt:M<D.length
  ·have OD:=QI HDK.out F1.out.2 (fun g' e=>by intro e2;cases e2;exact HDW.out e) (by decide)
   obtain ⟨gd,mK,U3,_,mL⟩:=OD.form (by omega)
   cases U3
   have dc:=SN OD M hlt
   clear OD
   have HS:=hid (eO D M)
   have d9:=hD9 M
   generalize D.getD M 0=d at dc HS d9
   have hMD:(M:Int)<(D.length:Int):=by omega
   have Eu:(d:Int)≤1000000000:=by omega
   have LD:Hid (Ax (d:Int)):=⟨by omega,by omega⟩
   go_wp2_with (go_at_call 79;refine (V9 H1.out I_ d LD.out (by have:=Eh.out;omega) (HT.out.on F1.out.1)).mono ?_;rintro e w5 ⟨rfl,v5,h5,f5⟩;have H5:=hid h5;have F5:=hid (F1.out.trans f5);clear h5 f5)
   go_roundw
   case rel=>
    refine ⟨M+1,v5,by omega,by go_num,?_,F5.out⟩
    rw[HS.out, ←List.append_assoc]
    exact H5.out
   case measure=>simp[intOf];omega
  ·have hle:D.length=M:=by omega
   have Hz:=hid hle
   clear hle
   go_wp2_with (go_at_call 80;refine (jX H1.out I_ (by have:=Eh.out;omega)).mono ?_;rintro e w5 ⟨rfl,v5,h5,f5⟩;have H5:=hid h5;have F5:=hid (F1.out.trans f5);clear h5 f5)
   go_end0
   refine ⟨rfl,v5,?_,F5.out⟩
   rw[Hz.out]
   exact H5.out
theorem fg (h:w.ownsRow B 5 1 vt bs.length (Lib.byteCells bs)) (h0:bs≠[]):(convert 103 9 vt).run Tryz.prog w=.ok (.string ⟨bs.toArray⟩) w:=by
 have hl:0<bs.length:=by cases bs with|nil=>exact absurd rfl h0|cons a l=>simp
 obtain ⟨g,cap,hv,_,_⟩:=h.form hl
 subst hv
 refine run_convert_bytes_back (P:=Tryz.prog) w 103 9 5 ⟨g,0,none⟩ _ bs Tryz.underlying103 Tryz.underlying5 Tryz.underlying9 (fun j hj=>?_)
 have e:(⟨g,0,none⟩:Addr).add j=⟨g,j,none⟩:=by
  simp[Addr.add]
  exact fun h=>h.symm
 rw[e,h.cellAt j (by omega)]
 simp[Lib.byteCells,hj]
end
def LJ (d a b:Nat):List UInt8:=DN (-(d:Int)) a b++DN (-(d:Int)) (-(a:Int)) (-(b:Int))++DN d (-(a:Int)) b++DN d a (-(b:Int))
theorem wJ {d a b:Nat} (hd:d≤1000000000) (ha:a≤1000000000) (hb:b≤1000000000):(LJ d a b).length≤272:=by
 have l1:= @JJ (-(d:Int)) a b ⟨by omega,by omega⟩ ⟨by omega,by omega⟩ ⟨by omega,by omega⟩
 have l2:= @JJ (-(d:Int)) (-(a:Int)) (-(b:Int)) ⟨by omega,by omega⟩ ⟨by omega,by omega⟩ ⟨by omega,by omega⟩
 have l3:= @JJ d (-(a:Int)) b ⟨by omega,by omega⟩ ⟨by omega,by omega⟩ ⟨by omega,by omega⟩
 have l4:= @JJ d a (-(b:Int)) ⟨by omega,by omega⟩ ⟨by omega,by omega⟩ ⟨by omega,by omega⟩
 unfold LJ
 rw[List.length_append,List.length_append,List.length_append]
 omega
section
variable {B wb vars ct:Nat} {bs:List UInt8} {vt:Value} {w:World}
theorem wK (h:Au B wb vars ct bs vt w) (hBw:B≤w.heap.size) (d a b:Nat) (hd:d≤1000000000) (ha:a≤1000000000) (hb:b≤1000000000) (CY:bs.length≤600000000) (Ag:DU B w):
  Calls Tryz.prog 44 #[.pointer (some ⟨wb,0,none⟩),.int .i64 d,.int .i64 a,.int .i64 b] w fun e w'=>e=.returned (.agg #[.int .i64 d,.int .i64 ((ct+1:Nat):Int)])∧ ∃ Al,Au B wb vars (ct+4) (bs++LJ d a b) Al w'∧B6 B wb w w':=by
 have H:=hid h
 have HT:=hid Ag
 have hcb:=h.cb
 have mJ:(ct:Int)≤1000000000:=by omega
 have Gt:(a:Int)≤1000000000:=by omega
 have EE:(b:Int)≤1000000000:=by omega
 have Eu:(d:Int)≤1000000000:=by omega
 have agD:=fun o1=>(h.alloc o1).c1
 have LA:Hid (Ax (a:Int)):=⟨by omega,by omega⟩
 have XJ:Hid (Ax (-(a:Int))):=⟨by omega,by omega⟩
 have LB:Hid (Ax (b:Int)):=⟨by omega,by omega⟩
 have LB':Hid (Ax (-(b:Int))):=⟨by omega,by omega⟩
 have LD:Hid (Ax (d:Int)):=⟨by omega,by omega⟩
 have XK:Hid (Ax (-(d:Int))):=⟨by omega,by omega⟩
 clear h Ag
 obtain ⟨W,hW⟩: ∃ W:World,(w.alloc (.cells #[.int .i64 0,.int .i64 0] 111)).alloc (.cells #[.int .i64 d,.int .i64 ((ct:Int)+1)] 111)=W:=⟨_,rfl⟩
 have PL:W.heap.size=w.heap.size+2:=by rw[←hW];simp
 have HW:=hid ((H.out.alloc (.cells #[.int .i64 0,.int .i64 0] 111)).alloc (.cells #[.int .i64 d,.int .i64 ((ct:Int)+1)] 111))
 have EX:=hid ((HT.out.alloc hBw (.cells #[.int .i64 0,.int .i64 0] 111)).alloc (by simp;omega) (.cells #[.int .i64 d,.int .i64 ((ct:Int)+1)] 111))
 have Ic:=hid (((B6.refl B wb w).alloc hBw (.cells #[.int .i64 0,.int .i64 0] 111)).alloc (by simp;omega) (.cells #[.int .i64 d,.int .i64 ((ct:Int)+1)] 111))
 have HZ:=hid (show W.heap[w.heap.size]? =some (.cells #[.int .i64 0,.int .i64 0] 111) by rw[←hW];exact Du _ _ _ _ (CX _ _ _ rfl))
 have HS:=hid (show W.heap[w.heap.size+1]? =some (.cells #[.int .i64 d,.int .i64 ((ct:Int)+1)] 111) by rw[←hW];exact CX _ _ _ (by simp))
 rw[hW] at HW EX Ic
 have HE:=hid hW
 clear hW
 have hBW:B≤W.heap.size:=by omega
 have Oq:=H.out.row.lt
 go_enter Tryz.func44,Tryz.ntmps44
 go_wp2_with (go_at_call 78;rw[HE.out];refine (Mq HW.out hBW (-(d:Int)) a b XK.out LA.out LB.out (by omega) EX.out).mono ?_;rintro e w2 ⟨rfl,v2,h2,f2⟩;have H2:=hid h2;have F2:=hid f2;have z2:=f2.1.size;clear h2 f2;refine Hid.out ?_)
 refine hid ?_
 have GZ:=hid (show (bs++DN (-(d:Int)) a b).length≤600000068 by have:=JJ XK.out LA.out LB.out;rw[List.length_append];omega)
 have hB2:B≤w2.heap.size:=by omega
 go_wp2_with (go_at_call 78;refine (Mq H2.out hB2 (-(d:Int)) (-(a:Int)) (-(b:Int)) XK.out XJ.out LB'.out (by have:=GZ.out;omega) (EX.out.on F2.out.1)).mono ?_;rintro e w3 ⟨rfl,v3,h3,f3⟩;have H3:=hid h3;have F3:=hid (F2.out.trans f3);have z3:=f3.1.size;clear h3 f3;refine Hid.out ?_)
 refine hid ?_
 have L_:=hid (show (bs++DN (-(d:Int)) a b++DN (-(d:Int)) (-(a:Int)) (-(b:Int))).length≤600000136 by have:=JJ XK.out XJ.out LB'.out;have:=GZ.out;rw[List.length_append];omega)
 have hB3:B≤w3.heap.size:=by omega
 go_wp2_with (go_at_call 78;refine (Mq H3.out hB3 d (-(a:Int)) b LD.out XJ.out LB.out (by have:=L_.out;omega) (EX.out.on F3.out.1)).mono ?_;rintro e w4 ⟨rfl,v4,h4,f4⟩;have H4:=hid h4;have F4:=hid (F3.out.trans f4);have z4:=f4.1.size;clear h4 f4;refine Hid.out ?_)
 refine hid ?_
 have Nh:=hid (show (bs++DN (-(d:Int)) a b++DN (-(d:Int)) (-(a:Int)) (-(b:Int))++DN d (-(a:Int)) b).length≤600000204 by have:=JJ LD.out XJ.out LB.out;have:=L_.out;rw[List.length_append];omega)
 have hB4:B≤w4.heap.size:=by omega
 go_wp2_with (go_at_call 78;refine (Mq H4.out hB4 d a (-(b:Int)) LD.out LA.out LB'.out (by have:=Nh.out;omega) (EX.out.on F4.out.1)).mono ?_;rintro e w5 ⟨rfl,v5,h5,f5⟩;have H5:=hid h5;have F5:=hid (F4.out.trans f5);clear h5 f5;refine Hid.out ?_)
 refine hid ?_
 have s1:=F5.out.2 _ _ HS.out (by simp;omega) (by intro c fz e;cases e)
 have s0:=F5.out.2 _ _ HZ.out (by simp;omega) (by intro c fz e;cases e)
 have r1:=Vh s1
 have r0:=Vh s0
 have e0:=r1.cell (i:=0) (by omega)
 have e1:=r1.cell (i:=1) (by omega)
 have g0:=r0.cell (i:=0) (by omega)
 have g1:=r0.cell (i:=1) (by omega)
 have gf0:=r0.frozen 0
 have gf1:=r0.frozen 1
 dsimp only[aH] at e0 e1 g0 g1
 have U2:v5.ownBlock≠some w.heap.size:=Aq H5.out.own r0 (by decide)
 have Ng:=hid U2
 clear r1 r0 s1 s0 U2
 go_wp2_with fail
 refine bodyPost_ret (v:=.agg #[.int .i64 d,.int .i64 ((ct:Int)+1)]) (by simp[results,Tryz.results44,go_sem,g0,g1]) rfl ⟨rfl,⟨v5,?_⟩,?_⟩
 ·have e:bs++LJ d a b=bs++DN (-(d:Int)) a b++DN (-(d:Int)) (-(a:Int)) (-(b:Int))++DN d (-(a:Int)) b++DN d a (-(b:Int)):=by unfold LJ;simp
  rw[e]
  exact (H5.out.other (p:=⟨w.heap.size,0,none⟩) (by show wb≠w.heap.size;omega) Ng.out _).other (p:=⟨w.heap.size,1,none⟩) (by show wb≠w.heap.size;omega) Ng.out _
 ·exact ((Ic.out.trans F5.out).WI (p:=⟨w.heap.size,0,none⟩) (by show B≤w.heap.size;omega) (by show w.heap.size≤w.heap.size;omega) _).WI (p:=⟨w.heap.size,1,none⟩) (by show B≤w.heap.size;omega) (by show w.heap.size≤w.heap.size;omega) _
end
end Go.Proofs.YtgddmpmcnjlcjaaGreatDoor
