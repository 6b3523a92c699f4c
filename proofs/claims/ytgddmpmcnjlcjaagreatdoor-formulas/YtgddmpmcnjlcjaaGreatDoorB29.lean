import Derived.Test.YtgddmpmcnjlcjaaGreatDoorB28
import Derived.Deep.RegionHeld3
set_option maxRecDepth 100000
set_option maxHeartbeats 4000000
namespace Go.Proofs.YtgddmpmcnjlcjaaGreatDoor
open Go.RowKit
set_option linter.unusedVariables false
theorem sS (s:ByteArray) (k n c:Nat) (w:World) (Ag:Ld w) (hk:k≤10) (hn:n≤1048576) (hc:c≤1048576) (hl:(Lk.read s.toList).2=0) (hfit:Dg.Fits (Fb s.toList) k n):
  Calls Tryz.prog 7 #[.string s,.int .i64 k,.agg #[.int .i64 n,.int .i64 c]] w fun e w'=>Sk w w' e (Fb s.toList) k n c:=by
 have h1:wi k 10=true:=by unfold wi;exact decide_eq_true ⟨by omega,by omega⟩
 have h2:wi n 1048576=true:=by unfold wi;exact decide_eq_true ⟨by omega,by omega⟩
 have h3:wi c 1048576=true:=by unfold wi;exact decide_eq_true ⟨by omega,by omega⟩
 have HR:=hid (show ∀ W:World,Calls Tryz.prog 16 #[.string s] W fun e w1=> ∃ vs vc vk nv,e=.returned (.tuple #[.agg #[vs,.int .i64 nv,vc,vk],.int .i64 0])∧IV w1 (Fb s.toList) vs vc vk∧Below W.heap.size W w1 from fun W=>(gp _ _).mono (fun e w1 R=>by
  obtain ⟨vs,vc,vk,he,o1,o2,o3⟩:=R.good hl
  exact ⟨vs,vc,vk,_,he,⟨Br o1 (Nat.zero_le _),Br o2 (Nat.zero_le _),Br o3 (Nat.zero_le _)⟩,R.A8⟩))
 have OK:=hid (Vv s.toList)
 have HT:=hid Ag
 clear hl Ag
 generalize Fb s.toList=p at HR OK hfit
 have M_:=hid hfit
 clear hfit
 obtain ⟨W0,hW0⟩: ∃ W0:World,(w.alloc (.cells #[.int .i64 n,.int .i64 c] 30)).alloc (.cells #[.int .i64 0,.slice none 0 0,.slice none 0 0,.int .i64 0,.int .i64 0,.string ⟨#[]⟩,.string ⟨#[]⟩,.int .i64 0,.int .i64 0] 26)=W0:=⟨_,rfl⟩
 have hz0:W0.heap.size=w.heap.size+2:=by rw[←hW0];simp
 have Nc:=hid (show Below w.heap.size w W0 by rw[←hW0];exact ((Below.refl _ _).alloc (Nat.le_refl _) _).alloc (by simp) _)
 have KV:=hid (show W0.rowIs w.heap.size 30 2 (E_ (.int .i64 n) (.int .i64 c)) by
  rw[←hW0]
  exact Fw (Du _ _ _ _ (CX _ _ _ rfl)) rfl (fun i hi=>by
   match i,hi with
   |0,_=>rfl
   |1,_=>rfl
   |n+2,h=>omega))
 have JZ:=hid (show W0.rowIs (w.heap.size+1) 26 9 KU by
  rw[←hW0]
  exact Fw (CX _ _ _ (by simp)) rfl (fun i hi=>by
   match i,hi with
   |0,_=>rfl
   |1,_=>rfl
   |2,_=>rfl
   |3,_=>rfl
   |4,_=>rfl
   |5,_=>rfl
   |6,_=>rfl
   |7,_=>rfl
   |8,_=>rfl
   |n+9,h=>omega))
 have HE:=hid hW0
 clear hW0
 go_enter Tryz.func7,Tryz.ntmps7
 go_wp2_with (first
  |(go_at_call 15;refine (eG _ _ _).mono ?_;rintro e w' ⟨rfl,rfl⟩)
  |(go_at_call 16;rw[HE.out];refine (HR.out _).mono ?_;rintro e w1 ⟨vs,vc,vk,nv,rfl,hp1,hb1⟩;have EF:=hid hp1;have AL:=hid hb1;clear hp1 hb1;refine Hid.out ?_))
 refine hid ?_
 obtain ⟨Bj,cs0,es⟩:=AX EF.out.s
 obtain ⟨ac,cc,ec⟩:=AX EF.out.c
 obtain ⟨ak,ck,ek⟩:=AX EF.out.k
 subst es ec ek
 obtain ⟨W1,hW1⟩: ∃ W1:World,w1.alloc (.cells #[.slice Bj p.sec.length cs0,.int .i64 nv,.slice ac p.cells.length cc,.slice ak p.code.length ck] 45)=W1:=⟨_,rfl⟩
 have z1:=AL.out.size
 have hz1:W1.heap.size=w1.heap.size+1:=by rw[←hW1];simp
 have Jz:=hid (show Below w1.heap.size w1 W1 by rw[←hW1];exact (Below.refl _ _).alloc (Nat.le_refl _) _)
 have J4:=hid (EF.out.same Jz.out)
 have FN:=hid (show W1.rowIs w1.heap.size 45 4 (Nb (.slice Bj p.sec.length cs0) (.slice ac p.cells.length cc) (.slice ak p.code.length ck) nv) by rw[←hW1];exact WH (CX _ _ _ rfl))
 have Oo:=hid (show Below w.heap.size w W1 from (Nc.out.trans (AL.out.mono (by omega))).trans (Jz.out.mono (by omega)))
 have Eh:=hid (Am (Am KV.out AL.out) Jz.out)
 have Aw:=hid (Am (Am JZ.out AL.out) Jz.out)
 have Nq:=hid hW1
 have l0:=fun o=>((Am KV.out AL.out).alloc o).cell (i:=0) (by omega)
 have UM:=(Am KV.out AL.out).cell (i:=0) (by omega)
 rw[show ∀ a b,E_ a b 0=a from fun _ _=>rfl] at l0 UM
 have C:=hid ((kK p OK.out k hk n hn W1 _ _ _ nv J4.out).mono (fun e w' h=>(⟨h.yes M_.out,h.A8⟩:_∧_)))
 clear hW1 HE HR
 go_wp2_with (go_at_call 17;rw[Nq.out];refine C.out.mono ?_;rintro e w2 ⟨⟨vN,vT,rfl,hN,hT⟩,hb2⟩;obtain ⟨aN,cN,eN⟩:=AX hN;obtain ⟨aT,cT,eT⟩:=AX hT;subst eN eT;have HN:=hid hN;have Gu:=hid hT;have AP:=hid hb2;clear hN hT hb2;refine Hid.out ?_)
 refine hid ?_
 have z2:=AP.out.size
 have GZ:=hid (Am Eh.out AP.out)
 have AU:=hid (Am Aw.out AP.out)
 have Oz:=hid (Am FN.out AP.out)
 have Pj:=hid (J4.out.same AP.out)
 have bN:=hid (show Below w.heap.size w w2 from Oo.out.trans (AP.out.mono (by omega)))
 clear Nq l0 UM C KV JZ Eh Aw FN EF J4 Nc Oo
 obtain ⟨DO,Na,PU,LZ⟩:=Ck.Zk OK.out k hk
 obtain ⟨hBl,hBo,hCt⟩:=Ck.jb OK.out k hk
 have Md:=hid (show Ck.fm p k=Cl.form p.sec (Ck.nodes p k) (Ck.told p k) from rfl)
 have Mb:=hid (show Ck.pf p k=Cl.Nj (Ck.fm p k).bits (Ck.fm p k).ct from rfl)
 have HN':=hid (show w2.ownsRow W1.heap.size 153 4 (.slice aN (Ck.nodes p k).length cN) (Ck.nodes p k).length ((Ck.nodes p k).flatMap Dg.Nd.cells) from HN.out)
 have HT':=hid (show w2.ownsRow W1.heap.size 3 1 (.slice aT (Ck.told p k).length cT) (Ck.told p k).length ((Ck.told p k).map fun (n:Nat)=>.int .i64 n) from Gu.out)
 have HDO:=hid (show ∀ i,2≤i→i<(Ck.nodes p k).length→(Dg.AG (Ck.nodes p k) i).lo<i∧(Dg.AG (Ck.nodes p k) i).hi<i∧(Dg.AG (Ck.nodes p k) i).bit<4*p.sec.length from fun i h2 hi=>⟨DO.lo i h2 hi,DO.hi i h2 hi,DO.bit i h2 hi⟩)
 rw[show (Dg.Aa p k (7*k)).1.nodes=Ck.nodes p k from rfl,show (Dg.Aa p k (7*k)).2=Ck.told p k from rfl]
 clear DO HN Gu
 obtain ⟨ns,hns⟩: ∃ ns,Ck.nodes p k=ns:=⟨_,rfl⟩
 obtain ⟨tl,Cz⟩: ∃ tl,Ck.told p k=tl:=⟨_,rfl⟩
 rw[hns] at Md HN' HDO PU LZ ⊢
 rw[Cz] at Md HT' Na PU ⊢
 have XL:=hid hns
 have agR:tl.length≤70:=by omega
 have HTN:=hid (show ∀ i,i<tl.length→tl.getD i 0<ns.length from fun i hi=>PU i (by omega))
 have AV:=hid hBl
 have J8:=hid hBo
 have agT:=hid Na
 clear hns Cz PU Na hBl hBo
 obtain ⟨W2,hW2⟩: ∃ W2:World,w2.alloc (.cells #[.slice aN ns.length cN,.slice aT tl.length cT] 50)=W2:=⟨_,rfl⟩
 have hz2:W2.heap.size=w2.heap.size+1:=by rw[←hW2];simp
 have MJ:=hid (show Below w2.heap.size w2 W2 by rw[←hW2];exact (Below.refl _ _).alloc (Nat.le_refl _) _)
 have XX:=hid (show W2.rowIs w2.heap.size 50 2 (E_ (.slice aN ns.length cN) (.slice aT tl.length cT)) by
  rw[←hW2]
  exact Fw (CX _ _ _ rfl) rfl (fun i hi=>by
   match i,hi with
   |0,_=>rfl
   |1,_=>rfl
   |n+2,h=>omega))
 have bS:=hid (show Below w.heap.size w W2 from bN.out.trans (MJ.out.mono (by omega)))
 have L_:=hid (Am GZ.out MJ.out)
 have E3:=hid (Am AU.out MJ.out)
 have mh:=hid (Am Oz.out MJ.out)
 have KW:=hid (Pj.out.same MJ.out)
 have Tk:=hid (CL HN'.out MJ.out.block)
 have UN:=hid (CL HT'.out MJ.out.block)
 have C2:=hid (abj p.sec ns tl (.slice Bj p.sec.length cs0) (.slice ac p.cells.length cc) (.slice ak p.code.length ck) (.slice aN ns.length cN) (.slice aT tl.length cT) nv OK.out.sec KW.out.s (Br Tk.out (Nat.zero_le _)) (Br UN.out (Nat.zero_le _)) LZ agR HTN.out HDO.out (Lib.tabBelow_of_tabIs (Zj HT.out bS.out)))
 rw[←Md.out] at C2
 have RQ:=hid hW2
 have p0:=fun o=>(Oz.out.alloc o).cell (i:=0) (by omega)
 have p1:=fun o=>(Oz.out.alloc o).cell (i:=1) (by omega)
 have p2:=fun o=>(Oz.out.alloc o).cell (i:=2) (by omega)
 have p3:=fun o=>(Oz.out.alloc o).cell (i:=3) (by omega)
 simp only[Nb,Nat.reduceEqDiff,if_true,if_false] at p0 p1 p2 p3
 clear hW2 Oz Pj GZ AU
 go_wp2_with (go_at_call 18;rw[RQ.out];refine C2.out.mono ?_;rintro e w3 ⟨vb,rfl,Tq,hb3⟩;obtain ⟨ab,cb,eb⟩:=AX Tq;subst eb;have RN:=hid Tq;have Cq:=hid hb3;clear Tq hb3;refine Hid.out ?_)
 refine hid ?_
 have z3:=Cq.out.size
 obtain ⟨fm,hfm⟩: ∃ fm,Ck.fm p k=fm:=⟨_,rfl⟩
 rw[hfm] at Md Mb hCt AV J8 RN ⊢
 have HFE:=hid hfm
 clear hfm C2 RQ p0 p1 p2 p3
 obtain ⟨W3,hW3⟩: ∃ W3:World,w3.alloc (.cells #[.int .i64 fm.vars,.int .i64 fm.ct,.string ⟨fm.bs.toArray⟩,.slice ab tl.length cb] 55)=W3:=⟨_,rfl⟩
 have hz3:W3.heap.size=w3.heap.size+1:=by rw[←hW3];simp
 have P4:=hid (show Below w3.heap.size w3 W3 by rw[←hW3];exact (Below.refl _ _).alloc (Nat.le_refl _) _)
 have Nr:=hid (show W3.rowIs w3.heap.size 55 4 (Nk fm.vars fm.ct ⟨fm.bs.toArray⟩ (.slice ab tl.length cb)) by
  rw[←hW3]
  exact Fw (CX _ _ _ rfl) rfl (fun i hi=>by
   match i,hi with
   |0,_=>rfl
   |1,_=>rfl
   |2,_=>rfl
   |3,_=>rfl
   |n+4,h=>omega))
 have agU:=hid (show Below w.heap.size w W3 from (bS.out.trans (Cq.out.mono (by have:=bS.out.size;omega))).trans (P4.out.mono (by omega)))
 have Nh:=hid (Am (Am L_.out Cq.out) P4.out)
 have HR4:=hid (Am (Am E3.out Cq.out) P4.out)
 have mi:=hid (Am (Am mh.out Cq.out) P4.out)
 have TE:=hid (Am (Am XX.out Cq.out) P4.out)
 have Le:=hid ((KW.out.same Cq.out).same P4.out)
 have mj:=hid (CL RN.out P4.out.block)
 have PW:=hid hW3
 have d0:=fun o=>((Am XX.out Cq.out).alloc o).cell (i:=0) (by omega)
 have d1:=fun o=>((Am XX.out Cq.out).alloc o).cell (i:=1) (by omega)
 rw[show ∀ a b,E_ a b 0=a from fun _ _=>rfl] at d0
 rw[show ∀ a b,E_ a b 1=b from fun _ _=>rfl] at d1
 clear hW3 L_ E3 mh XX KW RN
 go_wp2_with fail
 rw[PW.out]
 have HCD:=hid (fun W=>zy aN aT ns.length cN tl.length cT (by omega) W)
 have x0:=Nr.out.cell (i:=0) (by omega)
 have x2:=Nr.out.cell (i:=2) (by omega)
 have y0:=TE.out.cell (i:=0) (by omega)
 have y1:=TE.out.cell (i:=1) (by omega)
 simp[Nk,E_] at x0 x2 y0 y1
 clear d0 d1
 have ne1: ¬w2.heap.size=w3.heap.size+1:=by omega
 have ne2: ¬w3.heap.size+1=w2.heap.size:=by omega
 go_cut [13] (fun v wc=> ∃ g,v=.pointer (some ⟨g,0,none⟩)∧W3.heap.size≤g∧wc.rowIs g 26 9 (Pk fm.vars ⟨fm.bs.toArray⟩ ((ns.length:Int) - 2))∧Below W3.heap.size W3 wc)
 case first=>
  go_region_held3 (fun w'=>w'.cell? ⟨w3.heap.size,0,none⟩=some (.int .i64 fm.vars)∧w'.cell? ⟨w3.heap.size,2,none⟩=some (.string ⟨fm.bs.toArray⟩)∧w'.cell? ⟨w2.heap.size,0,none⟩=some (.slice aN ns.length cN)∧w'.cell? ⟨w2.heap.size,1,none⟩=some (.slice aT tl.length cT))
   (first
     |go_keep
     |((try dsimp only);(repeat' apply And.intro);all_goals go_keep))
   ((go_at_call 19;refine (HCD.out _).mono ?_;rintro e w4 ⟨rfl,hb4⟩;have z4:=hb4.size;simp at z4;(first|(have F4:=Am Nr.out.drew hb4;have G4:=Am TE.out.drew hb4)|(have F4:=Am (Nr.out.alloc _).drew hb4;have G4:=Am (TE.out.alloc _).drew hb4));have u0:w4.cell? ⟨w3.heap.size,0,none⟩=some (.int .i64 fm.vars):=F4.cell (i:=0) (by omega);have u2:w4.cell? ⟨w3.heap.size,2,none⟩=some (.string ⟨fm.bs.toArray⟩):=F4.cell (i:=2) (by omega);have t0:w4.cell? ⟨w2.heap.size,0,none⟩=some (.slice aN ns.length cN):=G4.cell (i:=0) (by omega);have t1:w4.cell? ⟨w2.heap.size,1,none⟩=some (.slice aT tl.length cT):=G4.cell (i:=1) (by omega);have u0a: ∀ o,(w4.alloc o).cell? ⟨w3.heap.size,0,none⟩=some (.int .i64 fm.vars):=fun o=>(F4.alloc o).cell (i:=0) (by omega);have u2a: ∀ o,(w4.alloc o).cell? ⟨w3.heap.size,2,none⟩=some (.string ⟨fm.bs.toArray⟩):=fun o=>(F4.alloc o).cell (i:=2) (by omega);have t0a: ∀ o,(w4.alloc o).cell? ⟨w2.heap.size,0,none⟩=some (.slice aN ns.length cN):=fun o=>(G4.alloc o).cell (i:=0) (by omega);have t1a: ∀ o,(w4.alloc o).cell? ⟨w2.heap.size,1,none⟩=some (.slice aT tl.length cT):=fun o=>(G4.alloc o).cell (i:=1) (by omega);clear F4 G4;(first|(with_reducible refine aa6 hb4 ?_;intro c0 c1 c2 c3 c4 c5 c6 c7 c8 cf;simp only[hz3] at c0 c1 c2 c3 c4 c5 c6 c7 c8 cf)|skip);have Dl:=hid hb4;clear hb4))
  all_goals go_wp2_with fail
  all_goals go_meet
  all_goals first
   |(have h:=wS Dl.out hz3 fm.vars ⟨fm.bs.toArray⟩ ((ns.length:Int) - 2);exact ⟨_,rfl,Nat.le_of_eq hz3,h.1,h.2⟩)
   |(have h:=wT Dl.out fm.vars ⟨fm.bs.toArray⟩ ((ns.length:Int) - 2);exact ⟨_,rfl,by omega,h.1,h.2⟩)
 case rest=>
  obtain ⟨g,rfl,hg,hrow,AB⟩:=hcut
  have Dl:=hid AB
  have J5:=hid hrow
  have z4:=AB.size
  clear hrow AB x0 x2 y0 y1 HCD ne1 ne2 PW
  have LK:=hid (show Below w.heap.size w wc from agU.out.trans (Dl.out.mono (by omega)))
  have XY:=hid (Am Nh.out Dl.out)
  have UO:=hid (Am HR4.out Dl.out)
  have P5:=hid (Am Nr.out Dl.out)
  have Lf:=hid (Le.out.same Dl.out)
  have Wn:=hid (CL mj.out Dl.out.block)
  have TF:=Am mi.out Dl.out
  have p0:=TF.cell (i:=0) (by omega)
  have p1:=TF.cell (i:=1) (by omega)
  have p2:=TF.cell (i:=2) (by omega)
  have p3:=TF.cell (i:=3) (by omega)
  simp only[Nb,Nat.reduceEqDiff,if_true,if_false] at p0 p1 p2 p3
  clear TF mi Nh HR4 Nr Le mj TE
  have C5:=hid (qN p OK.out _ _ _ _ nv Lf.out k hk)
  by_cases hin:(Pr.fd p k).al<k
  ·have HD:=hid (decide_eq_true hin)
   have E4:=hid hin
   clear hin
   go_wp2_with (go_at_call 20;refine C5.out.mono ?_;rintro e w5 ⟨b1,n1,d1,b2,n2,d2,at_,he,XZ,Cb⟩;rw[HD.out] at he;subst he;obtain ⟨i,j,hfi,hat,BQ,Ex⟩:=wR XZ E4.out;obtain ⟨u1,u2,eu⟩:=AX BQ;cases eu;obtain ⟨u3,u4,eu2⟩:=AX Ex;cases eu2;subst hat;have Nf:=hid hfi;have Cx:=hid BQ;have BR:=hid Ex;have CE:=hid Cb;clear hfi BQ Ex Cb XZ;refine Hid.out ?_)
   refine hid ?_
   have z5:=CE.out.size
   go_upto_region 13 with fail
   obtain ⟨W5,EZ⟩: ∃ W5:World,w5.alloc (.cells #[.slice b1 p.sec.length d1,.slice b2 p.sec.length d2,.int .i64 (Pr.fd p k).al] 59)=W5:=⟨_,rfl⟩
   rw[EZ]
   have PQ:W5.heap.size=w5.heap.size+1:=by rw[←EZ];simp
   have LL:=hid (show Below w5.heap.size w5 W5 by rw[←EZ];exact (Below.refl _ _).alloc (Nat.le_refl _) _)
   have Nt:=hid (show W5.rowIs w5.heap.size 59 3 (GV (.slice b1 p.sec.length d1) (.slice b2 p.sec.length d2) (.int .i64 (Pr.fd p k).al)) by
    rw[←EZ]
    exact Fw (CX _ _ _ rfl) rfl (fun i hi=>by
     match i,hi with
     |0,_=>rfl
     |1,_=>rfl
     |2,_=>rfl
     |n+3,h=>omega))
   have JV:=hid (Am (Am J5.out CE.out) LL.out)
   have Fk:=hid (Am (Am UO.out CE.out) LL.out)
   have O1:=hid (CL Cx.out LL.out.block)
   have O2:=hid (CL BR.out LL.out.block)
   have NK:=hid (show Below w.heap.size w W5 from (LK.out.trans (CE.out.mono (by have:=LK.out.size;omega))).trans (LL.out.mono (by have:=LK.out.size;omega)))
   have TY:=J5.out.lt
   have hgl:g<w5.heap.size:=by omega
   have m0:=Nt.out.cell (i:=0) (by omega)
   have m1:=Nt.out.cell (i:=1) (by omega)
   have m2:=Nt.out.cell (i:=2) (by omega)
   simp[GV] at m0 m1 m2
   have r1:=JV.out.cell (i:=1) (by omega)
   have r2:=JV.out.cell (i:=2) (by omega)
   have r3:=JV.out.cell (i:=3) (by omega)
   have rf1:=JV.out.frozen 1
   have rf2:=JV.out.frozen 2
   have rf3:=JV.out.frozen 3
   have ng1: ¬w5.heap.size=g:=by omega
   have ng2: ¬g=w5.heap.size:=by omega
   clear EZ
   go_upto_region 16 with fail
   obtain ⟨W6,KY⟩: ∃ W6:World,((W5.setCell ⟨g,1,none⟩ (.slice b1 p.sec.length d1)).setCell ⟨g,2,none⟩ (.slice b2 p.sec.length d2)).setCell ⟨g,3,none⟩ (.int .i64 (Pr.fd p k).al)=W6:=⟨_,rfl⟩
   rw[KY]
   have FR6:=hid (show A9 0 (fun q=>q=g) W5 W6 by rw[←KY];exact A9.setCell (p:=⟨g,3,none⟩) (A9.setCell (p:=⟨g,2,none⟩) (A9.setCell (p:=⟨g,1,none⟩) (A9.refl 0 (fun q=>q=g) W5) (Nat.zero_le _) rfl _) (Nat.zero_le _) rfl _) (Nat.zero_le _) rfl _)
   have Fe:=hid (show W6.rowIs g 26 9 (fun i=>if i=3 then .int .i64 (Pr.fd p k).al else if i=2 then .slice b2 p.sec.length d2 else if i=1 then .slice b1 p.sec.length d1 else Pk fm.vars ⟨fm.bs.toArray⟩ ((ns.length:Int) - 2) i) by rw[←KY];exact ((JV.out.set 1 _).set 2 _).set 3 _)
   have R9:w.heap.size+1≠g:=by omega
   have Ey:=hid (Fk.out.of_block (FR6.out.keep _ Fk.out.lt R9))
   have Qn:=hid (show Below w.heap.size w W6 by rw[←KY];exact ((NK.out.setCell (p:=⟨g,1,none⟩) (by show w.heap.size≤g;omega) _).setCell (p:=⟨g,2,none⟩) (by show w.heap.size≤g;omega) _).setCell (p:=⟨g,3,none⟩) (by show w.heap.size≤g;omega) _)
   have O3:=hid (BP O1.out (fun q e=>FR6.out.keep q (O1.out.lt q e).2 (fun e2=>by have:=(O1.out.lt q e).1;have e2:q=g:=e2;omega)))
   have O4:=hid (BP O2.out (fun q e=>FR6.out.keep q (O2.out.lt q e).2 (fun e2=>by have:=(O2.out.lt q e).1;have e2:q=g:=e2;omega)))
   clear KY m0 m1 m2 r1 r2 r3 rf1 rf2 rf3
   have s0:=Fe.out.cell (i:=0) (by omega)
   have s1:=Fe.out.cell (i:=1) (by omega)
   have s2:=Fe.out.cell (i:=2) (by omega)
   have s3:=Fe.out.cell (i:=3) (by omega)
   have s4:=Fe.out.cell (i:=4) (by omega)
   have s5:=Fe.out.cell (i:=5) (by omega)
   have s6:=Fe.out.cell (i:=6) (by omega)
   have s7:=Fe.out.cell (i:=7) (by omega)
   have s8:=Fe.out.cell (i:=8) (by omega)
   simp[Pk,KU] at s0 s1 s2 s3 s4 s5 s6 s7 s8
   have q0:=Ey.out.cell (i:=0) (by omega)
   have q1:=Ey.out.cell (i:=1) (by omega)
   have q2:=Ey.out.cell (i:=2) (by omega)
   have q3:=Ey.out.cell (i:=3) (by omega)
   have q4:=Ey.out.cell (i:=4) (by omega)
   have q5:=Ey.out.cell (i:=5) (by omega)
   have q6:=Ey.out.cell (i:=6) (by omega)
   have q7:=Ey.out.cell (i:=7) (by omega)
   have q8:=Ey.out.cell (i:=8) (by omega)
   have qf:=fun i=>Ey.out.frozen i
   simp[KU] at q0 q1 q2 q3 q4 q5 q6 q7 q8
   go_wp2_with fail
   go_region
   all_goals go_wp2_with fail
   have FR:=adj (q:=w.heap.size+1) (w:=W6) (.int .i64 0) (.slice b1 p.sec.length d1) (.slice b2 p.sec.length d2) (.int .i64 (Pr.fd p k).al) (.int .i64 fm.vars) (.string ⟨fm.bs.toArray⟩) (.string ⟨#[]⟩) (.int .i64 ((ns.length:Int) - 2)) (.int .i64 0)|>.drew
   clear XY P5 Wn Lf J5 Nt JV Fk O1 O2
   refine bodyPost_ret (v:=.tuple #[.int .i64 2,.agg #[.int .i64 0,.slice b1 p.sec.length d1,.slice b2 p.sec.length d2,.int .i64 (Pr.fd p k).al,.int .i64 fm.vars,.string ⟨fm.bs.toArray⟩,.string ⟨#[]⟩,.int .i64 ((ns.length:Int) - 2),.int .i64 0]]) (by simp[results,Tryz.results7,go_sem,q0,q1,q2,q3,q4,q5,q6,q7,q8]) rfl ⟨?_,fun c=>?_,fun _ _=>⟨b1,d1,b2,d2,i,j,?_,Nf.out,?_,?_⟩,fun _ c=>absurd E4.out c⟩
   ·exact (Sp Qn.out (Nat.le_succ _) _ _ _ _ _ _ _ _ _).drew
   ·rcases c with c|c
    ·exact absurd M_.out c
    ·exact absurd E4.out c.1
   ·rw[HFE.out,XL.out]
   ·exact Br (BP O3.out (fun q e=>FR.keep q (O3.out.lt q e).2 (fun e2=>by have:=(O3.out.lt q e).1;have e2:q=w.heap.size+1:=e2;have:=LK.out.size;omega))) LK.out.size
   ·exact Br (BP O4.out (fun q e=>FR.keep q (O4.out.lt q e).2 (fun e2=>by have:=(O4.out.lt q e).1;have e2:q=w.heap.size+1:=e2;have:=LK.out.size;omega))) LK.out.size
  ·have HD:=hid (decide_eq_false hin)
   have E4:=hid hin
   clear hin
   go_wp2_with (go_at_call 20;refine C5.out.mono ?_;rintro e w5 ⟨b1,n1,d1,b2,n2,d2,at_,he,XZ,Cb⟩;rw[HD.out] at he;subst he;have CE:=hid Cb;clear Cb XZ;refine Hid.out ?_)
   refine hid ?_
   have z5:=CE.out.size
   obtain ⟨W5,EZ⟩: ∃ W5:World,w5.alloc (.cells #[.slice b1 n1 d1,.slice b2 n2 d2,.int .i64 at_] 59)=W5:=⟨_,rfl⟩
   have PQ:W5.heap.size=w5.heap.size+1:=by rw[←EZ];simp
   have LL:=hid (show Below w5.heap.size w5 W5 by rw[←EZ];exact (Below.refl _ _).alloc (Nat.le_refl _) _)
   have JV:=hid (Am (Am J5.out CE.out) LL.out)
   have Fk:=hid (Am (Am UO.out CE.out) LL.out)
   have NK:=hid (show Below w.heap.size w W5 from (LK.out.trans (CE.out.mono (by have:=LK.out.size;omega))).trans (LL.out.mono (by have:=LK.out.size;omega)))
   have TY:=J5.out.lt
   have hgl:g<w5.heap.size:=by omega
   have bU:=hid (CL (CL Wn.out CE.out.block) LL.out.block)
   have X_:tl.length=fm.bits.length:=by rw[AV.out,agT.out]
   rw[X_] at bU
   have C6:=hid (abh fm.vars fm.ct ⟨fm.bs.toArray⟩ fm.bits (.slice ab fm.bits.length cb) hCt (by omega) J8.out bU.out c hc (Lib.tabBelow_of_tabIs (Zj HT.out NK.out)))
   rw[←X_, ←Mb.out] at C6
   have f0:=fun o=>((Am P5.out CE.out).alloc o).cell (i:=0) (by omega)
   have f1:=fun o=>((Am P5.out CE.out).alloc o).cell (i:=1) (by omega)
   have f2:=fun o=>((Am P5.out CE.out).alloc o).cell (i:=2) (by omega)
   have f3:=fun o=>((Am P5.out CE.out).alloc o).cell (i:=3) (by omega)
   have l1:=fun o=>((Am XY.out CE.out).alloc o).cell (i:=1) (by omega)
   simp[Nk,E_] at f0 f1 f2 f3 l1
   have PX:=hid EZ
   have HTF:=hid X_
   clear EZ X_ bU
   by_cases CY:c=0∨(Ck.pf p k).1≤c
   ·have C7:=hid (C6.out.mono (fun e w' h=>(⟨h.2.1 CY,h.1⟩:_∧_)))
    have bV:=hid CY
    clear CY C6
    go_wp2_with (go_at_call 21;rw[PX.out];refine C7.out.mono ?_;rintro e w6 ⟨rfl,D9⟩;have Bz:=hid D9;clear D9;refine Hid.out ?_)
    refine hid ?_
    obtain ⟨pf,Ie⟩: ∃ pf,Ck.pf p k=pf:=⟨_,rfl⟩
    rw[Ie]
    have HPE:=hid Ie
    clear Ie C7 f0 f1 f2 f3 l1 PX
    have z6:=Bz.out.size
    go_upto_region 20 with fail
    obtain ⟨W6,KY⟩: ∃ W6:World,w6.alloc (.cells #[.int .i64 pf.1,.string ⟨pf.2.toArray⟩] 63)=W6:=⟨_,rfl⟩
    rw[KY]
    have hz6:W6.heap.size=w6.heap.size+1:=by rw[←KY];simp
    have bW:=hid (show Below w6.heap.size w6 W6 by rw[←KY];exact (Below.refl _ _).alloc (Nat.le_refl _) _)
    have Nt:=hid (show W6.rowIs w6.heap.size 63 2 (E_ (.int .i64 pf.1) (.string ⟨pf.2.toArray⟩)) by
     rw[←KY]
     exact Fw (CX _ _ _ rfl) rfl (fun i hi=>by
      match i,hi with
      |0,_=>rfl
      |1,_=>rfl
      |n+2,h=>omega))
    have Qp:=hid (Am (Am JV.out Bz.out) bW.out)
    have HRx:=hid (Am (Am Fk.out Bz.out) bW.out)
    have Qn:=hid (show Below w.heap.size w W6 from (NK.out.trans (Bz.out.mono (by have:=NK.out.size;omega))).trans (bW.out.mono (by have:=NK.out.size;omega)))
    have m0:=Nt.out.cell (i:=0) (by omega)
    have m1:=Nt.out.cell (i:=1) (by omega)
    simp[E_] at m0 m1
    have r6:=Qp.out.cell (i:=6) (by omega)
    have r8:=Qp.out.cell (i:=8) (by omega)
    have rf6:=Qp.out.frozen 6
    have rf8:=Qp.out.frozen 8
    have ng1: ¬w6.heap.size=g:=by omega
    have ng2: ¬g=w6.heap.size:=by omega
    clear KY
    go_upto_region 22 with fail
    obtain ⟨W7,KP⟩: ∃ W7:World,(W6.setCell ⟨g,6,none⟩ (.string ⟨pf.2.toArray⟩)).setCell ⟨g,8,none⟩ (.int .i64 pf.1)=W7:=⟨_,rfl⟩
    rw[KP]
    have R9:w.heap.size+1≠g:=by omega
    have FR7:=hid (show A9 0 (fun q=>q=g) W6 W7 by rw[←KP];exact A9.setCell (p:=⟨g,8,none⟩) (A9.setCell (p:=⟨g,6,none⟩) (A9.refl 0 (fun q=>q=g) W6) (Nat.zero_le _) rfl _) (Nat.zero_le _) rfl _)
    have Fe:=hid (show W7.rowIs g 26 9 (fun i=>if i=8 then .int .i64 pf.1 else if i=6 then .string ⟨pf.2.toArray⟩ else Pk fm.vars ⟨fm.bs.toArray⟩ ((ns.length:Int) - 2) i) by rw[←KP];exact (Qp.out.set 6 _).set 8 _)
    have Ey:=hid (HRx.out.of_block (FR7.out.keep _ HRx.out.lt R9))
    have agV:=hid (show Below w.heap.size w W7 by rw[←KP];exact (Qn.out.setCell (p:=⟨g,6,none⟩) (by show w.heap.size≤g;omega) _).setCell (p:=⟨g,8,none⟩) (by show w.heap.size≤g;omega) _)
    clear KP m0 m1 r6 r8 rf6 rf8
    have s0:=Fe.out.cell (i:=0) (by omega)
    have s1:=Fe.out.cell (i:=1) (by omega)
    have s2:=Fe.out.cell (i:=2) (by omega)
    have s3:=Fe.out.cell (i:=3) (by omega)
    have s4:=Fe.out.cell (i:=4) (by omega)
    have s5:=Fe.out.cell (i:=5) (by omega)
    have s6:=Fe.out.cell (i:=6) (by omega)
    have s7:=Fe.out.cell (i:=7) (by omega)
    have s8:=Fe.out.cell (i:=8) (by omega)
    simp[Pk,KU] at s0 s1 s2 s3 s4 s5 s6 s7 s8
    have q0:=Ey.out.cell (i:=0) (by omega)
    have q1:=Ey.out.cell (i:=1) (by omega)
    have q2:=Ey.out.cell (i:=2) (by omega)
    have q3:=Ey.out.cell (i:=3) (by omega)
    have q4:=Ey.out.cell (i:=4) (by omega)
    have q5:=Ey.out.cell (i:=5) (by omega)
    have q6:=Ey.out.cell (i:=6) (by omega)
    have q7:=Ey.out.cell (i:=7) (by omega)
    have q8:=Ey.out.cell (i:=8) (by omega)
    have qf:=fun i=>Ey.out.frozen i
    simp[KU] at q0 q1 q2 q3 q4 q5 q6 q7 q8
    clear XY P5 Wn Lf J5 Nt Qp HRx JV Fk
    go_wp2_with fail
    go_region
    all_goals go_wp2_with fail
    refine bodyPost_ret (v:=.tuple #[.int .i64 1,.agg #[.int .i64 0,.slice none 0 0,.slice none 0 0,.int .i64 0,.int .i64 fm.vars,.string ⟨fm.bs.toArray⟩,.string ⟨pf.2.toArray⟩,.int .i64 ((ns.length:Int) - 2),.int .i64 pf.1]]) (by simp[results,Tryz.results7,go_sem,q0,q1,q2,q3,q4,q5,q6,q7,q8]) rfl ⟨?_,fun c=>?_,fun _ c=>absurd c E4.out,fun _ _ _=>?_⟩
    ·exact (Sp agV.out (Nat.le_succ _) _ _ _ _ _ _ _ _ _).drew
    ·exfalso
     rcases c with c|c
     ·exact c M_.out
     ·rcases bV.out with d|d
      ·exact c.2.1 d
      ·have:=c.2.2;omega
    ·rw[HFE.out,XL.out,HPE.out]
   ·have hl2:c≠0∧c<(Ck.pf p k).1:=by omega
    have C7:=hid (C6.out.mono (fun e w' h=>(⟨h.2.2 hl2.1 hl2.2,h.1⟩:_∧_)))
    have bV:=hid CY
    clear CY hl2 C6
    go_wp2_with (go_at_call 21;rw[PX.out];refine C7.out.mono ?_;rintro e w6 ⟨rfl,D9⟩;have Bz:=hid D9;clear D9;refine Hid.out ?_)
    refine hid ?_
    have z6:=Bz.out.size
    have q0:=fun o=>((Am Fk.out Bz.out).alloc o).cell (i:=0) (by omega)
    have q1:=fun o=>((Am Fk.out Bz.out).alloc o).cell (i:=1) (by omega)
    have q2:=fun o=>((Am Fk.out Bz.out).alloc o).cell (i:=2) (by omega)
    have q3:=fun o=>((Am Fk.out Bz.out).alloc o).cell (i:=3) (by omega)
    have q4:=fun o=>((Am Fk.out Bz.out).alloc o).cell (i:=4) (by omega)
    have q5:=fun o=>((Am Fk.out Bz.out).alloc o).cell (i:=5) (by omega)
    have q6:=fun o=>((Am Fk.out Bz.out).alloc o).cell (i:=6) (by omega)
    have q7:=fun o=>((Am Fk.out Bz.out).alloc o).cell (i:=7) (by omega)
    have q8:=fun o=>((Am Fk.out Bz.out).alloc o).cell (i:=8) (by omega)
    have qf:=fun i o=>((Am Fk.out Bz.out).alloc o).frozen i
    simp[KU] at q0 q1 q2 q3 q4 q5 q6 q7 q8
    have Qn:=hid (show Below w.heap.size w w6 from NK.out.trans (Bz.out.mono (by have:=NK.out.size;omega)))
    clear XY P5 Wn Lf J5 JV Fk C7 f0 f1 f2 f3 l1 PX
    go_wp2_with fail
    refine bodyPost_ret (v:=.tuple #[.int .i64 3,ZK 0]) (by simp[results,Tryz.results7,go_sem,q0,q1,q2,q3,q4,q5,q6,q7,q8]) rfl ⟨?_,fun _=>rfl,fun _ c=>absurd c E4.out,fun _ _ c=>absurd c bV.out⟩
    exact Sp (Qn.out.alloc (by have:=Qn.out.size;omega) _) (Nat.le_succ _) _ _ _ _ _ _ _ _ _
end Go.Proofs.YtgddmpmcnjlcjaaGreatDoor
