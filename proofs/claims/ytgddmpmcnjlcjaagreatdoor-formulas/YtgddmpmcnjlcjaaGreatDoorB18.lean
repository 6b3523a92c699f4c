import Derived.Test.YtgddmpmcnjlcjaaGreatDoorB17
import Derived.Shelf.Strconv.AppendIntPublic10
import Derived.Shelf.Lay
import Derived.Ground.NamesProg
import Derived.Lib.ItoaLen
import Derived.Lib.AppendIntMem
import Derived.Deep.QuietTactic
import Derived.BigQuiet
set_option maxRecDepth 100000
set_option maxHeartbeats 4000000
namespace Go.Proofs.YtgddmpmcnjlcjaaGreatDoor
open Go.RowKit
set_option linter.unusedVariables false
theorem kK (p:Pg) (ok:Ep p) (k:Nat) (hk:k≤10) (most:Nat) (hm:most≤1048576) (w:World) (vs vc vk:Value) (nv:Int) (hp:IV w p vs vc vk):
  Calls Tryz.prog 17 #[.agg #[vs,.int .i64 nv,vc,vk],.int .i64 k,.int .i64 most] w (adE w p k most):=by
 obtain ⟨t0,ht0,agC,hz1,hz2⟩:=info_parts Tryz.Ds
 obtain ⟨Bj,cs0,e0⟩:=AX hp.s
 obtain ⟨ac,cc,e1⟩:=AX hp.c
 obtain ⟨ak,ck,e2⟩:=AX hp.k
 subst e0 e1 e2
 have HP:=hid hp
 have OK:=hid ok
 have hs3:=ok.sec
 have MX:(p.sec.length:Int)≤3:=by omega
 have JX:(k:Int)≤10:=by omega
 have Gs:(most:Int)≤1048576:=by omega
 have hol:=Dg.VN p.sec.length
 have hbl:(Dg.order p.sec.length).length≤12:=by omega
 have mD:((Dg.order p.sec.length).length:Int)≤12:=by omega
 have CK:Hid (∀ b∈Dg.order p.sec.length,b<4*p.sec.length):=Dg.jU _ 4 (Nat.le_refl _)
 have GC:Hid (∀ i,i<(Dg.order p.sec.length).length→(Dg.order p.sec.length).getD i 0<4*p.sec.length):=Dg.Yg p.sec.length
 have HDI:=hid (show ∀ c,Dg.Aa p k c=Dg.D7 p.sec (2 ^ (Dg.order p.sec.length).length) (Dg.order p.sec.length) (Dg.told p (Dg.order p.sec.length) k) c from fun _=>rfl)
 have HOA:=hid (sF p.sec.length hs3)
 clear hp ok hol
 generalize Dg.order p.sec.length=bits at hbl mD CK GC HDI HOA
 obtain ⟨W0,hW0⟩: ∃ W0:World,(w.alloc (.cells #[.slice Bj p.sec.length cs0,.int .i64 nv,.slice ac p.cells.length cc,.slice ak p.code.length ck] 45)).alloc (.cells #[.slice none 0 0,.slice none 0 0] 50)=W0:=⟨_,rfl⟩
 have hz0:W0.heap.size=w.heap.size+2:=by rw[←hW0];simp
 have J5:=hid (show W0.heap[w.heap.size]? =some (.cells #[.slice Bj p.sec.length cs0,.int .i64 nv,.slice ac p.cells.length cc,.slice ak p.code.length ck] 45) by rw[←hW0];exact Hi _ _ _ _ (OX _ _ _ rfl))
 have HRR:=hid (show W0.heap[w.heap.size+1]? =some (.cells #[.slice none 0 0,.slice none 0 0] 50) by rw[←hW0];exact OX _ _ _ (by simp))
 have Nc:=hid (show Below w.heap.size w W0 by rw[←hW0];exact ((Below.refl _ _).alloc (Nat.le_refl _) _).alloc (by simp) _)
 have HE:=hid hW0
 clear hW0
 go_enter Tryz.func17,Tryz.ntmps17
 go_wp2_with (go_at_call 36;rw[HE.out];refine (HOA.out _).mono ?_;rintro e w1 ⟨ab,cb,rfl,BQ,hb1⟩;have Cx:=hid BQ;have AL:=hid hb1;have z1:=hb1.size;clear BQ hb1;refine Hid.out ?_)
 refine hid ?_
 have r1:=WH ((AL.out.block w.heap.size (by omega)).trans J5.out)
 have x0:=r1.cell (i:=0) (by omega)
 have x1:=r1.cell (i:=1) (by omega)
 have x2:=r1.cell (i:=2) (by omega)
 have x3:=r1.cell (i:=3) (by omega)
 dsimp only[Nb] at x0 x1 x2 x3
 have EF:=hid (HP.out.same (Nc.out.trans (AL.out.mono (by omega))))
 have Oo:=hid (Nc.out.trans (AL.out.mono (by omega)))
 clear r1
 go_wp2_with (go_at_call 37;refine (oh p OK.out bits CK.out hbl k hk _ _ _ _ _ nv EF.out (Br Cx.out (Nat.zero_le _))).mono ?_;rintro e w2 ⟨vr,fr,rfl,hr2,hb2⟩;have AU:=hid hr2;have AP:=hid hb2;have z2:=hb2.size;clear hr2 hb2;refine Hid.out ?_)
 refine hid ?_
 obtain ⟨ar,cr,er⟩:=AX AU.out.own
 subst er
 have r2:=WH (((AP.out.block w.heap.size (by omega)).trans (AL.out.block w.heap.size (by omega))).trans J5.out)
 have y0':=r2.cell (i:=0) (by omega)
 have y1':=r2.cell (i:=1) (by omega)
 have y2':=r2.cell (i:=2) (by omega)
 have y3':=r2.cell (i:=3) (by omega)
 dsimp only[Nb] at y0' y1' y2' y3'
 have mE:=hid (Oo.out.trans (AP.out.mono (by omega)))
 obtain ⟨M,hM⟩: ∃ M,2 ^ bits.length=M:=⟨_,rfl⟩
 have RA:M≤4096:=by rw[←hM];exact Nat.pow_le_pow_right (by omega) hbl
 have Qx:(M:Int)≤4096:=by omega
 have dC:=hid hM.symm
 rw[hM] at AU HDI ⊢
 clear r2 hM x0 x1 x2 x3
 go_wp2_with (go_at_call 38;refine (sH _ _ _ _ _ _ _ _ _ nv _ _ _ M RA _).mono ?_;rintro e w3 ⟨gn,gh,gb,gr,rfl,q1,q2,q3,q4,q5,q6,hb3⟩;have Q1:=hid q1;have Q2:=hid q2;have Q3:=hid q3;have Q4:=hid q4;have Q5:=hid q5;have Q6:=hid q6;have Cq:=hid hb3;have z3:=hb3.size;clear q1 q2 q3 q4 q5 q6 hb3;refine Hid.out ?_)
 refine hid ?_
 go_wp2_with fail
 obtain ⟨S,hS⟩: ∃ S:Nat→Dg.St×List Nat, ∀ c,Dg.D7 p.sec M bits (Dg.told p bits k) c=S c:=⟨_,fun _=>rfl⟩
 have HS0:=hid (show S 0=({},[]) from (hS 0).symm)
 have HSS:=hid (show ∀ c,S (c+1)=((Dg.CG p.sec M bits (S c).1 (Dg.Fa (Dg.told p bits k) (c/7) (c%7)) M bits.length).1,(S c).2++[(Dg.CG p.sec M bits (S c).1 (Dg.Fa (Dg.told p bits k) (c/7) (c%7)) M bits.length).2 0]) from fun c=>by rw[←hS, ←hS];rfl)
 have HSO:=hid (show ∀ c,Dg.Ok p.sec.length M (S c).1∧(S c).2.length=c∧(S c).1.nodes.length≤2+c*M from fun c=>by rw[←hS];obtain ⟨a,b,_,d⟩:=Dg.Zd p.sec.length p.sec M bits (Dg.told p bits k) GC.out c;exact ⟨a,b,d⟩)
 have E0:=hid (show ∀ c,c≤7*k→(S c).1.nodes.length≤(S (7*k)).1.nodes.length from fun c hc=>by rw[←hS, ←hS];exact Dg.vG p.sec.length p.sec M bits (Dg.told p bits k) GC.out c _ hc)
 have XH:=hid (show Dg.Aa p k (7*k)=S (7*k) by rw[HDI.out,hS])
 clear hS
 obtain ⟨mb,hmb⟩: ∃ mb,w3.heap.size=mb:=⟨_,rfl⟩
 obtain ⟨pv,hpv⟩: ∃ pv:Nat→Value,pv=fun i=>if i=4 then .slice ab bits.length cb else Nb (.slice Bj p.sec.length cs0) (.slice ac p.cells.length cc) (.slice ak p.code.length ck) nv i:=⟨_,rfl⟩
 have mF:pv 0=.slice Bj p.sec.length cs0:=by rw[hpv];rfl
 have mG:pv 4=.slice ab bits.length cb:=by rw[hpv];rfl
 have HI:=hid (show Hu w2 mb gh gr M {} (fun _=>0) pv (sl gn 2 2) (sl gb 2 2) (.slice none 0 0) [] (w3.alloc (.cells #[.slice Bj p.sec.length cs0,.int .i64 nv,.slice ac p.cells.length cc,.slice ak p.code.length ck,.slice ab bits.length cb,sl gn 2 2,sl gh M M,sl gb 2 2,sl gr M M] 100)) by
  have hb3:=Cq.out
  obtain ⟨b1,b2,b3,b4⟩:=Q5.out
  obtain ⟨n1,n2,n3,n4,n5,n6⟩:=Q6.out
  refine ⟨⟨?_,?_,?_,?_,?_,by omega,b2,b4,n5,?_,?_,hb3.alloc (by omega) _⟩,World.ownsRow_nil _ _ _ _,fun k e=>by simp[Value.ownBlock] at e⟩
  ·rw[←hmb]
   exact World.rowIs_alloc w3 _ 100 _ (fun i hi=>by
    rw[hpv]
    match i,hi with
    |0,_=>rfl
    |1,_=>rfl
    |2,_=>rfl
    |3,_=>rfl
    |4,_=>rfl
    |5,_=>rfl
    |6,_=>rfl
    |7,_=>rfl
    |8,_=>rfl
    |n+9,h=>exact absurd (show n+9<9 from h) (by omega))
  ·exact dV (n:=2) (Hi _ _ _ _ Q1.out) b1 (by omega) rfl (by omega)
  ·exact dV (n:=2) (Hi _ _ _ _ Q3.out) b3 (by omega) rfl (by omega)
  ·exact dM (Hi _ _ _ _ Q2.out)
  ·exact dM (Hi _ _ _ _ Q4.out)
  ·intro e;exact n4 (by simpa[Value.ownBlock] using e.symm)
  ·intro e;exact n6 (by simpa[Value.ownBlock] using e))
 have HRX:=hid (show ∀ wx:World,Below w2.heap.size w2 wx→wx.heap[w.heap.size+1]? =some (.cells #[.slice none 0 0,.slice none 0 0] 50) from fun wx hx=>(((hx.block _ (by omega)).trans (AP.out.block _ (by omega))).trans (AL.out.block _ (by omega))).trans HRR.out)
 have RB:=hid (show w2.ownsRow 0 4 1 (pv 0) p.sec.length (p.sec.map Value.bool) by rw[mF];exact (EF.out.same AP.out).s)
 have FN:=hid (show w2.ownsRow 0 3 1 (pv 4) bits.length (bits.map fun (n:Nat)=>.int .i64 n) by rw[mG];exact Br (CL Cx.out AP.out.block) (Nat.zero_le _))
 rw[hmb]
 clear y0' y1' y2' y3' hmb hpv mF mG Q1 Q2 Q3 Q4 Q5 Q6 Cx EF J5
 go_loopw [11,12] (fun tv cv wr=> ∃ (st:Nat) (r:Nat→Nat) (vN vB:Value),st≤k∧cv=.int .i64 st∧Hu w2 mb gh gr M (S (7*st)).1 r pv vN vB tv (S (7*st)).2 wr∧(most=0∨(S (7*st)).1.nodes.length≤most+2)) (fun _ cv _=>k - (intOf cv).toNat)
 case atStart=>exact ⟨0,_,_,_,Nat.zero_le _,rfl,by rw[HS0.out];exact HI.out,.inr (by rw[HS0.out];show 2≤_;omega)⟩
 case round=>
  clear HI
  obtain ⟨st,r,vN,vB,hst,rfl,hof,hfit⟩:=hrel
  obtain ⟨at1,ct1,et1⟩:=AX hof.told
  subst et1
  have I5:=hid hof
  have Nf:=hid hfit
  have akZ:(st:Int)≤10:=by omega
  by_cases hlt:st<k
  ·clear hof hfit
   go_wp2_with fail
   go_loopw [11,13] (fun tv cv wr=> ∃ (bt:Nat) (r:Nat→Nat) (vN vB:Value),bt≤7∧cv=.int .i64 bt∧Hu w2 mb gh gr M (S (7*st+bt)).1 r pv vN vB tv (S (7*st+bt)).2 wr∧(most=0∨(S (7*st+bt)).1.nodes.length≤most+2)) (fun _ cv _=>7 - (intOf cv).toNat)
   case atStart=>exact ⟨0,_,_,_,Nat.zero_le _,rfl,I5.out,Nf.out⟩
   case round=>
    clear I5 Nf
    obtain ⟨bt,r1,XD,XE,Tq,rfl,hof,hfit⟩:=hrel
    obtain ⟨at2,ct2,et2⟩:=AX hof.told
    subst et2
    have I5:=hid hof
    have Nf:=hid hfit
    have al1:(bt:Int)≤7:=by omega
    clear hof hfit
    by_cases Iw:bt<7
    ·obtain ⟨sok,aY,mH⟩:=HSO.out (7*st+bt)
     have LY:=hid (HSS.out (7*st+bt))
     have hc1:(7*st+bt)/7=st:=by omega
     have hc2:(7*st+bt)%7=bt:=by omega
     rw[hc1,hc2] at LY
     have hbig:7*st+bt+1≤70:=by omega
     have hbM:(7*st+bt)*M≤70*4096:=Nat.mul_le_mul (by omega) RA
     obtain ⟨C,hC⟩: ∃ C,S (7*st+bt)=C:=⟨_,rfl⟩
     have J3:=hid hC
     rw[hC] at I5 sok aY mH LY Nf ⊢
     have adG:C.1.nodes.length+M≤400000:=by omega
     have hmono:=E0.out (7*st+bt+1) (by omega)
     have HMN:=hid hmono
     have SOK:=hid sok
     have Gu:=hid aY
     have ak':C.2.length≤70:=by omega
     clear sok aY mH hC hmono
     go_wp2_with (go_at_call 39;refine (zZ I5.out.mm AU.out RA hk (fun i j=>Dg.z_ OK.out bits k i j) (fun i=>Dg.wG p bits k i) st bt hlt Iw).mono ?_;rintro e w5 ⟨rfl,m5,f5⟩;have aZ:=hid (I5.out.lay m5 f5);clear m5 f5;refine Hid.out ?_)
     refine hid ?_
     go_wp2_with (go_at_call 40;refine (vL aZ.out.mm SOK.out (fun j=>Nat.lt_of_lt_of_le (Dg.Vs _ _ _ j) SOK.out.two) RA p.sec rfl hs3 RB.out adG bits FN.out dC.out hbl GC.out).mono ?_;rintro e w6 ⟨rfl,vN6,vB6,m6,f6⟩;have T7:=hid (aZ.out.fold m6 f6);clear m6 f6;refine Hid.out ?_)
     refine hid ?_
     obtain ⟨Y,hY⟩: ∃ Y,Dg.CG p.sec M bits C.1 (Dg.Fa (Dg.told p bits k) st bt) M bits.length=Y:=⟨_,rfl⟩
     rw[hY] at T7 LY ⊢
     rw[LY.out] at HMN
     clear hY I5 aZ
     obtain ⟨aN,cN,eN⟩:=AX T7.out.mm.nodes
     subst eN
     have hYl:Y.1.nodes.length≤400000:=by
      have q1:=(HSO.out (7*st+bt+1)).2.2
      rw[LY.out] at q1
      have q2:(7*st+bt+1)*M≤70*4096:=Nat.mul_le_mul hbig RA
      have q3:Y.1.nodes.length≤2+(7*st+bt+1)*M:=q1
      omega
     obtain ⟨x,hx⟩: ∃ x,Y.2 0=x:=⟨_,rfl⟩
     rw[hx] at LY ⊢
     clear hx
     have z6:=T7.out.mm.A8.size
     go_wp2_with (at_builtin;refine wpList_append_lies _ rfl _ _ 24 rfl w2.heap.size 3 t0 _ 1 8 Tryz.underlying24 ht0 agC hz1 hz2 rfl (by omega) _ C.2.length (C.2.map fun (n:Nat)=>.int .i64 n) rfl (T7.out.told.alloc _) ⟨w6.heap.size,0,none⟩ 1 1 [.int .i64 x] rfl rfl (cell_one_new _ _ _) (by simp[Value.oneCell']) (by omega) (by unfold maxLen;omega) (by omega) (by simp;omega) (w6.heap.size+1) (by simp) ?_;intro g4 D4 w7 BW BJ Cn IU;have T8:=hid (T7.out.push BW BJ Cn);clear BW BJ Cn;refine Hid.out ?_)
     refine hid ?_
     have c5:=T8.out.mm.c5
     have hYI:(Y.1.nodes.length:Int)≤400000:=by omega
     have hY2:2≤Y.1.nodes.length:=by have:=(HSO.out (7*st+bt+1)).1.two;rw[LY.out] at this;exact this
     have alA:2≤(Y.1.nodes.length:Int):=by omega
     have Ew:=hid (mE.out.trans (T8.out.mm.A8.mono (by omega)))
     by_cases hm0:most=0
     ·have HFT:=hid hm0
      have Wi:((most:Int) !=0)=false:=by simp;omega
      clear Gs hm0
      go_wp2_with fail
      go_roundw
      case rel=>exact ⟨bt+1,_,_,_,by omega,by go_num,by rw[←Nat.add_assoc,LY.out];exact T8.out,.inl HFT.out⟩
      case measure=>simp[intOf];omega
     ·have Wi:((most:Int) !=0)=true:=by simp;omega
      by_cases hbg:most+2<Y.1.nodes.length
      ·have a_:(most:Int)<(Y.1.nodes.length:Int) - 2:=by omega
       have r7:=jV (HRX.out w7 T8.out.mm.A8)
       have g0:=r7.cell (i:=0) (by omega)
       have g1:=r7.cell (i:=1) (by omega)
       have gf0:=r7.frozen 0
       have gf1:=r7.frozen 1
       have M_:=hid (show ¬Dg.Fits p k most from fun c=>by
        rcases c with c|c
        ·exact hm0 c
        ·rw[XH.out] at c
         have:=HMN.out
         omega)
       clear r7
       go_wp2_with fail
       refine bodyPost_ret (v:=.tuple #[.agg #[.slice none 0 0,.slice none 0 0],.bool false]) (by simp[results,Tryz.results17,go_sem,g0,g1]) rfl ⟨?_,fun c=>absurd c M_.out,fun _=>rfl⟩
       exact (Ew.out.setCell (p:=⟨w.heap.size+1,0,none⟩) (by show w.heap.size≤w.heap.size+1;omega) _).setCell (p:=⟨w.heap.size+1,1,none⟩) (by show w.heap.size≤w.heap.size+1;omega) _
      ·have a_: ¬(most:Int)<(Y.1.nodes.length:Int) - 2:=by omega
       have HFT:=hid (show Y.1.nodes.length≤most+2 by omega)
       clear hbg
       go_wp2_with fail
       go_roundw
       case rel=>exact ⟨bt+1,_,_,_,by omega,by go_num,by rw[←Nat.add_assoc,LY.out];exact T8.out,.inr (by rw[←Nat.add_assoc,LY.out];exact HFT.out)⟩
       case measure=>simp[intOf];omega
    ·have Eg:bt=7:=by omega
     subst Eg
     go_wp2_with fail
     go_roundw
     case rel=>exact ⟨st+1,_,_,_,by omega,by go_num,by rw[Nat.mul_add];exact I5.out,by rw[Nat.mul_add];exact Nf.out⟩
     case measure=>simp[intOf];omega
  ·have HKE:=hid (show k=st by omega)
   obtain ⟨aN,cN,eN⟩:=AX hof.mm.nodes
   subst eN
   have c5:=hof.mm.c5
   have r7:=jV (HRX.out wr hof.mm.A8)
   have g0:=r7.cell (i:=0) (by omega)
   have g1:=r7.cell (i:=1) (by omega)
   have gf0:=r7.frozen 0
   have gf1:=r7.frozen 1
   clear hof hfit r7
   go_wp2_with fail
   have FR:A9 0 (fun q=>q=w.heap.size+1) wr ((wr.setCell ⟨w.heap.size+1,0,none⟩ (.slice aN (S (7*st)).1.nodes.length cN)).setCell ⟨w.heap.size+1,1,none⟩ (.slice at1 (S (7*st)).2.length ct1)):=A9.setCell (p:=⟨w.heap.size+1,1,none⟩) (A9.setCell (p:=⟨w.heap.size+1,0,none⟩) (A9.refl 0 (fun q=>q=w.heap.size+1) wr) (Nat.zero_le _) rfl _) (Nat.zero_le _) rfl _
   refine bodyPost_ret (v:=.tuple #[.agg #[.slice aN (S (7*st)).1.nodes.length cN,.slice at1 (S (7*st)).2.length ct1],.bool true]) (by simp[results,Tryz.results17,go_sem,g0,g1]) rfl ⟨?_,fun _=>⟨_,_,rfl,?_,?_⟩,fun c=>?_⟩
   ·exact ((mE.out.trans (I5.out.mm.A8.mono (by omega))).setCell (p:=⟨w.heap.size+1,0,none⟩) (by show w.heap.size≤w.heap.size+1;omega) _).setCell (p:=⟨w.heap.size+1,1,none⟩) (by show w.heap.size≤w.heap.size+1;omega) _
   ·rw[XH.out,HKE.out]
    exact Br (BP I5.out.mm.nodes (fun q e=>FR.keep q (I5.out.mm.nodes.lt q e).2 (fun e2=>by have:=(I5.out.mm.nodes.lt q e).1;have e2:q=w.heap.size+1:=e2;omega))) (by omega)
   ·rw[XH.out,HKE.out]
    exact Br (BP I5.out.told (fun q e=>FR.keep q (I5.out.told.lt q e).2 (fun e2=>by have:=(I5.out.told.lt q e).1;have e2:q=w.heap.size+1:=e2;omega))) (by omega)
   ·exfalso
    refine c ?_
    unfold Dg.Fits
    rw[XH.out,HKE.out]
    exact Nf.out
open Go.RowKit Go.Shelf
shelf_lay LaysM.n176 Nm 176 at Tryz as Tryz.abb
theorem dN (B n:Nat) (i:Int) (h0: -9223372036854775808≤i) (h1:i≤9223372036854775807) (sv:Value) (xs:List Value) (w:World) (hown:w.ownsRow B 5 1 sv n xs) (hBw:B≤w.heap.size) (CY:n+21≤140737488355328)
  (Ag:Lib.TabBelow Tryz.prog B w "internal/strconv.uint64pow10" .u64 Lib.pow10Tab):
  Calls Tryz.prog 105 #[sv,.int .i64 i,.int .i64 10] w fun e w'=> ∃ v',e=.returned v'∧w'.ownsRow B 5 1 v' (n+(Lib.itoa i).length) (xs++Lib.byteCells (Lib.itoa i))∧RowKit.Below B w w'∧Lib.OthersKept 5 none w w':=Any.strconv_AppendInt_10 Tryz.abb B n i h0 h1 sv xs w hown hBw CY Ag
theorem Tryz.Vg:(Tryz.prog.info? 5).map (fun i=>(i.zero,i.size,i.bytes))=some (some (.int .u8 0),1,1):=by kernel_rfl
def I6 (vars ct:Nat) (vt:Value) (i:Nat):Value:=if i=0 then .int .i64 vars else if i=1 then .int .i64 ct else vt
structure Au (B wb:Nat) (vars ct:Nat) (bs:List UInt8) (vt:Value) (w:World):Prop where
 row:w.rowIs wb 105 3 (I6 vars ct vt)
 cb:ct≤bs.length
 own:w.ownsRow B 5 1 vt bs.length (Lib.byteCells bs)
 hb:B≤wb
 ne:vt.ownBlock≠some wb
abbrev B6 (B wb:Nat) (w w':World):Prop:=Below B w w'∧Lib.OthersKept 5 (some wb) w w'
theorem Lq {w w':World} {b:Nat} {t e:TypeId} {n:Nat} {f:Nat→Value} {bo:Option Nat} (h:w.rowIs b t n f) (hk:Lib.OthersKept e bo w w') (hb:some b≠bo) (ht:t≠e):w'.rowIs b t n f:=by
 obtain ⟨cs,hg,hs,hc⟩:=h
 exact ⟨cs,hk b _ hg hb (fun c fz e=>ht (by cases e;rfl)),hs,hc⟩
theorem QI {w w':World} {base:Nat} {t e:TypeId} {sz n:Nat} {v:Value} {xs:List Value} {bo:Option Nat} (h:w.ownsRow base t sz v n xs) (hk:Lib.OthersKept e bo w w') (hb: ∀ g,v.ownBlock=some g→some g≠bo) (ht:t≠e):w'.ownsRow base t sz v n xs:=by
 refine ⟨h.1,?_⟩
 rcases h.2 with hn|⟨g,cap,cur,rfl,hb',hgg,rest⟩
 ·exact .inl hn
 ·exact .inr ⟨g,cap,cur,rfl,hb',hk g _ hgg (hb g rfl) (fun c fz e=>ht (by cases e;rfl)),rest⟩
theorem Aq {w:World} {base b n m sz:Nat} {t e:TypeId} {v:Value} {xs:List Value} {f:Nat→Value} (h:w.ownsRow base e sz v n xs) (hr:w.rowIs b t m f) (ht:t≠e):v.ownBlock≠some b:=by
 intro hv
 obtain ⟨cs,hg, -⟩:=hr
 rcases h.2 with ⟨e1,_⟩|⟨g,cap,cur,rfl,_,hgg,_⟩
 ·rw[e1] at hv;simp[Value.ownBlock] at hv
 ·have e1:g=b:=by simpa[Value.ownBlock] using hv
  subst e1
  rw[hg] at hgg
  cases hgg
  exact ht rfl
theorem Mu {w:World} {base n sz:Nat} {e:TypeId} {v:Value} {xs:List Value} (h:w.ownsRow base e sz v n xs) {g:Nat} (hv:v.ownBlock=some g): ∃ c fz,w.heap[g]? =some (.cells c e fz):=by
 rcases h.2 with ⟨e1,_⟩|⟨g',cap,cur,rfl,_,hgg,_⟩
 ·rw[e1] at hv;simp[Value.ownBlock] at hv
 ·have e1:g'=g:=by simpa[Value.ownBlock] using hv
  subst e1
  exact ⟨_,_,hgg⟩
def Er (l:Int):List UInt8:=if l=0 then [] else Lib.itoa l++[32]
section
variable {B wb vars ct:Nat} {bs:List UInt8} {vt:Value} {w:World}
theorem Au.txt (h:Au B wb vars ct bs vt w) (u:Value) {bs':List UInt8} {w':World} (hr:w'.rowIs wb 105 3 (I6 vars ct vt)) (ho:w'.ownsRow B 5 1 u bs'.length (Lib.byteCells bs')) (hne:u.ownBlock≠some wb) (hc:bs.length≤bs'.length):Au B wb vars ct bs' u (w'.setCell ⟨wb,2,none⟩ u):=
 ⟨(hr.set 2 u).congr (fun i hi=>by
    match i,hi with
    |0,_=>rfl
    |1,_=>rfl
    |2,_=>rfl
    |n+3,h=>omega),Nat.le_trans h.cb hc,BC ho hne u,h.hb,hne⟩
theorem Au.cnt (h:Au B wb vars ct bs vt w) (c:Nat) (hc:c≤bs.length):Au B wb vars c bs vt (w.setCell ⟨wb,1,none⟩ (.int .i64 c)):=
 ⟨(h.row.set 1 (.int .i64 c)).congr (fun i hi=>by
    match i,hi with
    |0,_=>rfl
    |1,_=>rfl
    |2,_=>rfl
    |n+3,h=>omega),hc,BC h.own h.ne _,h.hb,h.ne⟩
theorem Au.var (h:Au B wb vars ct bs vt w) (c:Nat):Au B wb c ct bs vt (w.setCell ⟨wb,0,none⟩ (.int .i64 c)):=
 ⟨(h.row.set 0 (.int .i64 c)).congr (fun i hi=>by
    match i,hi with
    |0,_=>rfl
    |1,_=>rfl
    |2,_=>rfl
    |n+3,h=>omega),h.cb,BC h.own h.ne _,h.hb,h.ne⟩
theorem Au.c0 (h:Au B wb vars ct bs vt w):w.cell? ⟨wb,0,none⟩=some (.int .i64 vars):=h.row.cell (i:=0) (by omega)
theorem Au.c1 (h:Au B wb vars ct bs vt w):w.cell? ⟨wb,1,none⟩=some (.int .i64 ct):=h.row.cell (i:=1) (by omega)
theorem Au.c2 (h:Au B wb vars ct bs vt w):w.cell? ⟨wb,2,none⟩=some vt:=h.row.cell (i:=2) (by omega)
theorem o9 (h:Au B wb vars ct bs vt w):Calls Tryz.prog 79 #[.pointer (some ⟨wb,0,none⟩),.int .i64 0] w fun e w'=>e=.returned (.tuple #[])∧w'=w:=by
 go_enter Tryz.func79,Tryz.ntmps79
 go_wp2_with fail
 exact bodyPost_ret (v:=.tuple #[]) (by simp[results,Tryz.results79,go_sem]) rfl ⟨rfl,rfl⟩
theorem oD (h:Au B wb vars ct bs vt w) (hBw:B≤w.heap.size) (l:Int) (h0:l≠0) (hl0: -9223372036854775808≤l) (CN:l≤9223372036854775807) (CY:bs.length≤1000000000) (Ag:Lib.TabBelow Tryz.prog B w "internal/strconv.uint64pow10" .u64 Lib.pow10Tab):
  Calls Tryz.prog 79 #[.pointer (some ⟨wb,0,none⟩),.int .i64 l] w fun e w'=>e=.returned (.tuple #[])∧ ∃ Al,Au B wb vars ct (bs++(Lib.itoa l++[32])) Al w'∧B6 B wb w w':=by
 obtain ⟨t0,ht0,hz0,hz1,hz2⟩:=info_parts Tryz.Vg
 obtain ⟨av,cv,ev⟩:=AX h.own
 subst ev
 have H:=hid h
 have HT:=hid Ag
 have r1:=h.c2
 have f1:=h.row.frozen 2
 have hrl:=h.row.lt
 have hne:(l==0)=false:=by simpa using h0
 have lb:=Lib.itoa_length_le l hl0 CN
 clear h Ag
 go_enter Tryz.func79,Tryz.ntmps79
 go_wp2_with (go_at_call 105;refine (dN B bs.length l hl0 CN _ _ _ H.out.own hBw (by omega) HT.out).mono ?_;rintro e w1 ⟨v1,he,BQ,hb1,hk1⟩;obtain ⟨a1,c1,e1⟩:=AX BQ;subst e1;subst he;have Cx:=hid BQ;have AL:=hid hb1;have Qw:=hid hk1;have z1:=hb1.size;have R1:=hid (Lq H.out.row hk1 (by simp) (by decide));have q1:=R1.out.cell (i:=2) (by omega);have qf:=R1.out.frozen 2;clear BQ hb1 hk1;refine Hid.out ?_)
 refine hid ?_
 rw[show I6 vars ct (.slice av bs.length cv) 2=.slice av bs.length cv from rfl] at q1
 have EC:(Value.slice a1 (bs.length+(Lib.itoa l).length) c1).ownBlock≠some wb:=Aq Cx.out R1.out (by decide)
 have W1:=hid (H.out.txt (.slice a1 (bs.length+(Lib.itoa l).length) c1) (bs':=bs++Lib.itoa l) R1.out (by rw[List.length_append,Lib.byteCells_append];exact Cx.out) EC (by rw[List.length_append];omega))
 have KL:=hid EC
 have r2:=W1.out.c2
 have f2:=W1.out.row.frozen 2
 have l2:=W1.out.row.lt
 obtain ⟨m,hm⟩: ∃ m,bs.length+(Lib.itoa l).length=m:=⟨_,rfl⟩
 have hmb:m≤1000000021:=by omega
 obtain ⟨T,hT⟩: ∃ T,bs++Lib.itoa l=T:=⟨_,rfl⟩
 have Tw:T.length=m:=by rw[←hT,List.length_append];exact hm
 have Tx:=hid hT
 have Ty:=hid Tw
 rw[hm,hT] at W1
 rw[hm] at r2 f2 l2 KL ⊢
 have Tz:Hid (B6 B wb w (w1.setCell ⟨wb,2,none⟩ (.slice a1 m c1))):=⟨AL.out.setCell (p:=⟨wb,2,none⟩) H.out.hb _,Lib.OthersKept.setCell (fun k o h1 h2 h3=>Qw.out k o h1 (by simp) h3) ⟨wb,2,none⟩ rfl _⟩
 have z2:B≤(w1.setCell ⟨wb,2,none⟩ (.slice a1 m c1)).heap.size:=by simp;omega
 clear hT Tw hm EC
 go_wp2_with (at_builtin;refine wpList_append_lies _ rfl _ _ 103 rfl B 5 t0 _ 1 1 Tryz.underlying103 ht0 hz0 hz1 hz2 rfl (by omega) _ m (Lib.byteCells T) rfl (by have h:=W1.out.own.alloc (.cells #[.int .u8 32] 5);rw[Ty.out] at h;exact h) ⟨w1.heap.size,0,none⟩ 1 1 [.int .u8 32] rfl rfl (by have h:=cell_one_new (w1.setCell ⟨wb,2,none⟩ (.slice a1 m c1)) (.int .u8 32) 5;simpa using h) (by simp[Value.oneCell']) (by omega) (by unfold maxLen;omega) (by omega) (by simp;omega) (w1.heap.size+1) (by simp) ?_;intro g4 D4 w4 BW BJ Cn IU;have R4:=hid (Ad (W1.out.row.alloc _) BJ KL.out);have q4:=R4.out.cell (i:=2) (by omega);have Qz:=R4.out.frozen 2;have D8:=hid BW;have Hy:=hid BJ;clear BW BJ Cn;refine Hid.out ?_)
 refine hid ?_
 rw[show ∀ u,I6 vars ct u 2=u from fun _=>rfl] at q4
 go_wp2_with fail
 go_end0
 have KM:(Value.slice (some ⟨g4,0,none⟩) (m+1) D4).ownBlock≠some wb:=Aq D8.out R4.out (by decide)
 have eb:bs++(Lib.itoa l++[32])=T++[32]:=by rw[←Tx.out,List.append_assoc]
 refine ⟨rfl,.slice (some ⟨g4,0,none⟩) (m+1) D4,?_,?_,?_⟩
 ·rw[eb]
  refine W1.out.txt _ R4.out ?_ KM (by rw[List.length_append];omega)
  rw[List.length_append,Ty.out,Lib.byteCells_append]
  exact D8.out
 ·exact (((Tz.out.1.alloc z2 _).grown Hy.out (by simp;omega) (fun q hq=>(W1.out.own.lt q hq).1)).setCell (p:=⟨wb,2,none⟩) H.out.hb _)
 ·exact Lib.OthersKept.setCell (Lib.OthersKept.grown (Tz.out.2.alloc _) Hy.out (fun g hg=>Mu (W1.out.own.alloc _) hg)) ⟨wb,2,none⟩ rfl _
end
end Go.Proofs.YtgddmpmcnjlcjaaGreatDoor
