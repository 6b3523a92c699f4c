import Derived.Test.YtgddmpmcnjlcjaaGreatDoorB38
import Derived.Deep.RegionHeld3
import Derived.Deep.LoopGhost
import Derived.Deep.QuietTactic
import Derived.BigQuiet
set_option maxRecDepth 100000
set_option maxHeartbeats 4000000
namespace Go.Proofs.YtgddmpmcnjlcjaaGreatDoor
open Go.RowKit
set_option linter.unusedVariables false
theorem S9 (L:List ByteArray) (gl cl d:Nat) (Co:d≤4) (IH:d<4→Kz L gl cl (d+1)) (hL:L.length≤1000) (RU: ∀ i,i<L.length→(L.getD i ByteArray.empty).size≤1000000) (f0:Nat) (w:World) (base P R:Nat) (l0:List DB) (s0:Rf.Rs) (FP FQ FT vb:Value)
  (F0:Ay w base P R l0 (AQ P gl cl L.length s0) L gl FP FQ FT vb) (mn:s0.ds=A7 l0) (Gp:L.length≤s0.at_+1+f0) (mr:s0.at_<L.length) (hc0:s0.cnt≤12) (hl0:(s0.AA=true∧l0.length≤1000)∨l0.length+L.length≤1000) (De:base≤R):
  Calls Tryz.prog 32 #[.pointer (some ⟨R,0,none⟩),.int .i64 d] w fun e w'=>lK w w' base P R gl cl L s0 l0 FP FQ FT vb (Rf.blk (L.map ByteArray.toList) f0 d s0 []).2.1 e (Rf.Ab (L.map ByteArray.toList) f0 d s0):=by
 obtain ⟨i0,hi,hz0,hz1,hz2⟩:=info_parts Tryz.ac'
 have HL:=hid RU
 have HI:=hid IH
 have agX:Hid (LM w base P R gl cl L d f0 s0 l0 FP FQ FT vb f0 (.slice none 0 0) w s0 l0 FP FQ FT 0 []):=
  ⟨F0,mn,mr,hc0,Gp,Nat.le_refl _,by omega,fun e=>⟨e,rfl,rfl,rfl,rfl,A9.refl _ _ _⟩,Below.refl _ _,F0.AJ,World.ownsRow_nil _ _ _ _,Nat.zero_le _,fun k e=>by simp[Value.ownBlock] at e,rfl,F0.row.lt,⟨[],[],rfl,.nil,fun _=>rfl,rfl⟩⟩
 have Eu:(d:Int)≤4:=by omega
 obtain ⟨O,hO⟩: ∃ O,Rf.Ab (L.map ByteArray.toList) f0 d s0=O:=⟨_,rfl⟩
 rw[hO]
 have HO:=hid hO
 obtain ⟨T,hT⟩: ∃ T,(Rf.blk (L.map ByteArray.toList) f0 d s0 []).2.1=T:=⟨_,rfl⟩
 rw[hT]
 have HT:=hid hT
 have KV:=hid hl0
 clear hO hT IH RU F0 mn Gp mr hc0 hl0
 go_enter Tryz.func32,Tryz.ntmps32
 go_wp2_with fail
 go_loopg [6] f0 (fun k v wr=> ∃ s l vn vk vz n xs,LM w base P R gl cl L d f0 s0 l0 FP FQ FT vb k v wr s l vn vk vz n xs)
 case atStart=>exact ⟨s0,l0,FP,FQ,FT,0,[],agX.out⟩
 case round=>
  obtain ⟨s,l,vn,vk,vz,n,xs,hb⟩:=hrel
  have HR:=hid hb
  have O0:=hid (xW hb KV.out)
  have ltR:=hb.rep.row.lt
  have r1:=hb.rep.row.cell (i:=1) (by omega)
  have r2:=hb.rep.row.cell (i:=2) (by omega)
  rw[show AQ P gl cl L.length s 1=.slice (some ⟨gl,0,none⟩) L.length cl from rfl] at r1
  rw[show AQ P gl cl L.length s 2=.int .i64 s.at_ from rfl] at r2
  have hlt:=hb.lt
  have DL:(s.at_:Int)<(L.length:Int):=by omega
  have Qy:(L.length:Int)≤1000:=by omega
  have hLJ:(1:Int)≤(L.length:Int):=by omega
  have h0I:(0:Int)≤(s.at_:Int):=by omega
  have Fj:(n:Int)≤1000:=by have:=hb.num;omega
  have hcI:(s.cnt:Int)≤12:=by have:=hb.cnt;omega
  have Kc:=hid hb.fuel
  have alg:=hid hb.low
  obtain ⟨av,cv,hv⟩:=AX hb.own
  subst hv
  clear hb
  have Jd:(L.map ByteArray.toList).length=L.length:=by simp
  by_cases hat:s.at_+1<L.length
  ·have ML:(s.at_:Int)<(L.length:Int) - 1:=by omega
   obtain ⟨gk',rfl⟩: ∃ k',gk=k'+1:=⟨gk - 1,by have:=Kc.out;omega⟩
   have lq:=HR.out.rep.Gx s.at_ hlt
   obtain ⟨q,hq⟩: ∃ q,L.getD s.at_ ByteArray.empty=q:=⟨_,rfl⟩
   rw[hq] at lq
   have HQZ:=hid (HL.out s.at_ hlt)
   rw[hq] at HQZ
   have HQ:=hid hq
   clear hq
   go_wp2_with fail
   go_quiet (fail)
   go_wp2_with fail
   go_region_held3 (fun w'=>w'.cell? ⟨R,1,none⟩=some (.slice (some ⟨gl,0,none⟩) L.length cl)∧w'.cell? ⟨R,2,none⟩=some (.int .i64 s.at_)∧w'.cell? ⟨gl,s.at_,none⟩=some (.string q))
    (first
      |go_keep
      |(go_split_ands
        exact ⟨cell_later hb1 (by assumption),cell_later hb1 (by assumption),cell_later hb1 (by assumption)⟩))
    ((go_at_call 25;refine (Vy q 32 _ HQZ.out).mono ?_;rintro e w1 ⟨g,cap,ws,rfl,hws,hown1,hb1⟩))
   have EG:=hid ((HR.out.rep.drewN (nq+1)).below hb1)
   have AL:=hid (rU hb1)
   have Db:=hid (je hown1)
   have hw0:=ZP hws
   have bg:wr.heap.size≤g:=(hown1.lt g rfl).1
   have bj: ¬IM P R gl vn vk vz g:=fun e=>by have:=HR.out.rep.QK e;omega
   have hgR:g≠R:=fun e=>bj (.inl e)
   have RV:=hid bj
   have c0:=Db.out 0 hw0
   obtain ⟨q0,hq0⟩: ∃ x,ws.getD 0 ByteArray.empty=x:=⟨_,rfl⟩
   rw[hq0] at c0
   have hlx:=QL L s.at_
   rw[HQ.out] at hlx
   have CH:Lk.wd (ws.map ByteArray.toList) 0=q0.toList:=by rw[DT,hq0]
   have hcu:Lk.cut 32 ((L.map ByteArray.toList).getD s.at_ [])=ws.map ByteArray.toList:=by rw[hlx,hws]
   have JD:=hid hcu
   have my:s.at_+1<(L.map ByteArray.toList).length:=by rw[Jd];exact hat
   have DM:=hid my
   clear hcu my
   have hwI:(1:Int)≤(ws.length:Int):=by omega
   clear hq0 hws hown1 hb1 hlx bj Jd
   obtain ⟨oo,RX⟩: ∃ x,Rf.oneOf q0.toList (Lg.map ByteArray.toList)=x:=⟨_,rfl⟩
   cases oo with
   |some i=>
    have LR:Rf.isDecl (Lk.wd (ws.map ByteArray.toList) 0)=true:=by rw[CH,dX,RX];rfl
    have JE:=hid LR
    clear LR
    have Gy:=hid (show Lk.Cm (Rf.oneOf q0.toList (Lg.map ByteArray.toList))=(i:Int) by rw[RX];rfl)
    have Fh:(0:Int)≤(i:Int):=by omega
    obtain ⟨od,hod⟩: ∃ x,Rf.declare (A7 l) s.AA (ws.map ByteArray.toList)=x:=⟨_,rfl⟩
    have RY:=hid hod
    clear hod RX CH
    cases od with
    |none=>
     have CP:=hid (xS (f:=gk') (d:=d) DM.out JD.out JE.out (by rw[HR.out.ds];exact RY.out))
     go_wp2_with (first
      |(go_at_call 59;refine (Hf q0 w1 (i:Int) Gy.out).mono ?_;rintro e w2 ⟨rfl,hb2⟩;have AE:=hid (EG.out.below hb2);have CO:=hid (GQ Db.out hb2);have AP:=hid (Gl AL.out hb2);have y0:=cell_later hb2 c0;have Dq:=AE.out.row.lt;have hg2:=World.block_lt_of_cell? w2 _ y0;have x0:=AE.out.row.cell (i:=0) (by omega);rw[show AQ P gl cl L.length s 0=.pointer (some ⟨P,0,none⟩) from rfl] at x0;have z0:=AE.out.row.frozen 0;have x4:=AE.out.row.cell (i:=4) (by omega);rw[show AQ P gl cl L.length s 4=.bool s.AA from rfl] at x4;have z4:=AE.out.row.frozen 4;clear hb2)
      |(go_at_call 60;have hh:=dK (R:=R) AE.out.prog O0.out g cap ws CO.out hw0 s.AA x0 x4 (fun e=>RV.out (.inr (.inr (.inr (.inl e))))) (fun e=>RV.out (.inr (.inr (.inr (.inr (.inl e)))))) (fun e=>RV.out (.inr (.inl e)));rw[RY.out] at hh;refine hh.mono ?_;rintro e w3 ⟨rfl,hd3⟩;have HD3:=hid hd3;clear hd3 hh))
     go_ret2
     have hb3:=Gl AP.out (HD3.out.no rfl)
     exact JN HR.out HO.out HT.out CP.out (HR.out.rep.below hb3) HR.out.ds (A9.Ap hb3 HR.out.rep.AJ) none 0 0 rfl (fun h=>absurd h (by simp))
    |some dn=>
     have CP:=hid (xU (f:=gk') (d:=d) DM.out JD.out JE.out (by rw[HR.out.ds];exact RY.out))
     have Ps:=hid (fun ts=>(Rf.xM (out:=ts) (f:=gk') (d:=d) DM.out JD.out JE.out (by rw[HR.out.ds];exact RY.out)).symm)
     have Ai:s.AA=false:=by
      cases hbb:s.AA with
      |false=>rfl
      |true=>have hz:=RY.out;rw[hbb,Rf.Rm] at hz;cases hz
     have GC:=hid Ai
     clear Ai
     go_wp2_with (first
      |(go_at_call 59;refine (Hf q0 w1 (i:Int) Gy.out).mono ?_;rintro e w2 ⟨rfl,hb2⟩;have AE:=hid (EG.out.below hb2);have CO:=hid (GQ Db.out hb2);have AP:=hid (Gl AL.out hb2);have y0:=cell_later hb2 c0;have Dq:=AE.out.row.lt;have hg2:=World.block_lt_of_cell? w2 _ y0;have x0:=AE.out.row.cell (i:=0) (by omega);rw[show AQ P gl cl L.length s 0=.pointer (some ⟨P,0,none⟩) from rfl] at x0;have z0:=AE.out.row.frozen 0;have x4:=AE.out.row.cell (i:=4) (by omega);rw[show AQ P gl cl L.length s 4=.bool s.AA from rfl] at x4;have z4:=AE.out.row.frozen 4;clear hb2)
      |(go_at_call 60;have hh:=dK (R:=R) AE.out.prog O0.out g cap ws CO.out hw0 s.AA x0 x4 (fun e=>RV.out (.inr (.inr (.inr (.inl e))))) (fun e=>RV.out (.inr (.inr (.inr (.inr (.inl e)))))) (fun e=>RV.out (.inr (.inl e)));rw[RY.out] at hh;refine hh.mono ?_;rintro e w3 ⟨rfl,hd3⟩;obtain ⟨l',DZ,D_,Da,Gw,hll,hpr,EC,J7,MT,Ak⟩:=hd3.yes _ rfl;have Bp:=hid (AE.out.declared hpr EC J7 MT Ak);have GA:=hid Ak;have KL:=hid EC;have HN2:=hid J7;have Tk:=hid MT;have HDL:=hid Gw;have D2:=hid hll;clear hd3 hh Ak hpr EC J7 MT Gw hll;have lt3:=Bp.out.row.lt;have t2:=Bp.out.row.cell (i:=2) (by omega);rw[show AQ P gl cl L.length s 2=.int .i64 s.at_ from rfl] at t2;have k2:=Bp.out.row.frozen 2))
     go_roundg gk'
     case measure=>omega
     case rel=>
      have Gw:=HDL.out
      subst Gw
      exact ⟨_,l',DZ,D_,Da,n,xs,tK HR.out AP.out CP.out.symm Ps.out GC.out hat (by have:=Kc.out;omega) D2.out ((Bp.out.put 2 _).congr (fun i hi=>OY P gl cl L.length s i hi)) KL.out HN2.out Tk.out
       (A9.setCell (GA.out.imp (fun k _ e=>.inr e)) De (.inl rfl) _)⟩
   |none=>
    have LR:Rf.isDecl (Lk.wd (ws.map ByteArray.toList) 0)=false:=by rw[CH,dX,RX];rfl
    have hbk:=xV (f:=gk') (d:=d) DM.out JD.out LR
    have JE:=hid LR
    clear LR
    have Gy:=hid (show Lk.Cm (Rf.oneOf q0.toList (Lg.map ByteArray.toList))= -1 by rw[RX];rfl)
    clear RX
    have RF:n≤1000:=by omega
    cases he:(q0.toList==[101,108,115,101]) with
    |true=>
     by_cases CN:ws.length=1
     ·have Wo:((ws.length:Int)==1)=true:=by simp;omega
      have Eh:=hid CN
      clear CN
      by_cases hd0:0<d
      ·have bl:(0:Int)<(d:Int):=by omega
       have CP:=hid (hbk.trans (Rf.QN (.inl (by rw[CH];exact eq_of_beq he))))
       have Ke:=hid (fun ts=>Rf.QJ (out:=ts) (f:=gk') (d:=d) DM.out JD.out JE.out (.inl (by rw[CH];exact eq_of_beq he)))
       clear hbk CH
       go_wp2_with (first
        |(go_at_call 59;refine (Hf q0 w1 (-1) Gy.out).mono ?_;rintro e w2 ⟨rfl,hb2⟩;have AE:=hid (EG.out.below hb2);have CO:=hid (GQ Db.out hb2);have AP:=hid (Gl AL.out hb2);have y0:=cell_later hb2 c0;have Dq:=AE.out.row.lt;have hg2:=World.block_lt_of_cell? w2 _ y0;have x0:=AE.out.row.cell (i:=0) (by omega);rw[show AQ P gl cl L.length s 0=.pointer (some ⟨P,0,none⟩) from rfl] at x0;have z0:=AE.out.row.frozen 0;have x2:=AE.out.row.cell (i:=2) (by omega);rw[show AQ P gl cl L.length s 2=.int .i64 s.at_ from rfl] at x2;have z2:=AE.out.row.frozen 2;have x3:=AE.out.row.cell (i:=3) (by omega);rw[show AQ P gl cl L.length s 3=.int .i64 s.cnt from rfl] at x3;have z3:=AE.out.row.frozen 3;have x4:=AE.out.row.cell (i:=4) (by omega);rw[show AQ P gl cl L.length s 4=.bool s.AA from rfl] at x4;have z4:=AE.out.row.frozen 4;clear hb2))
       go_ret2
       exact JN HR.out HO.out HT.out CP.out ((AE.out.put 4 (.bool true)).congr (fun i hi=>OL P gl cl L.length s i hi)) HR.out.ds (A9.setCell (p:=⟨R,4,none⟩) (A9.Ap AP.out HR.out.rep.AJ) De (.inl rfl) _) av n cv (by simp[Eh.out,hd0]) (fun _=>⟨rfl,Ke.out,A9.setCell (p:=⟨R,4,none⟩) (A9.Ap (S:=fun k=>k=R) AP.out HR.out.rep.AJ) De rfl _⟩)
      ·have bl: ¬(0:Int)<(d:Int):=by omega
       have CP:=hid (hbk.trans (Rf.QN (.inl (by rw[CH];exact eq_of_beq he))))
       have Ke:=hid (fun ts=>Rf.QJ (out:=ts) (f:=gk') (d:=d) DM.out JD.out JE.out (.inl (by rw[CH];exact eq_of_beq he)))
       clear hbk CH
       go_wp2_with (first
        |(go_at_call 59;refine (Hf q0 w1 (-1) Gy.out).mono ?_;rintro e w2 ⟨rfl,hb2⟩;have AE:=hid (EG.out.below hb2);have CO:=hid (GQ Db.out hb2);have AP:=hid (Gl AL.out hb2);have y0:=cell_later hb2 c0;have Dq:=AE.out.row.lt;have hg2:=World.block_lt_of_cell? w2 _ y0;have x0:=AE.out.row.cell (i:=0) (by omega);rw[show AQ P gl cl L.length s 0=.pointer (some ⟨P,0,none⟩) from rfl] at x0;have z0:=AE.out.row.frozen 0;have x2:=AE.out.row.cell (i:=2) (by omega);rw[show AQ P gl cl L.length s 2=.int .i64 s.at_ from rfl] at x2;have z2:=AE.out.row.frozen 2;have x3:=AE.out.row.cell (i:=3) (by omega);rw[show AQ P gl cl L.length s 3=.int .i64 s.cnt from rfl] at x3;have z3:=AE.out.row.frozen 3;have x4:=AE.out.row.cell (i:=4) (by omega);rw[show AQ P gl cl L.length s 4=.bool s.AA from rfl] at x4;have z4:=AE.out.row.frozen 4;clear hb2))
       go_ret2
       exact JN HR.out HO.out HT.out CP.out ((AE.out.put 4 (.bool true)).congr (fun i hi=>OL P gl cl L.length s i hi)) HR.out.ds (A9.setCell (p:=⟨R,4,none⟩) (A9.Ap AP.out HR.out.rep.AJ) De (.inl rfl) _) av n cv (by simp[Eh.out,hd0]) (fun _=>⟨rfl,Ke.out,A9.setCell (p:=⟨R,4,none⟩) (A9.Ap (S:=fun k=>k=R) AP.out HR.out.rep.AJ) De rfl _⟩)
     ·have Wo:((ws.length:Int)==1)=false:=by simp;omega
      have Eh:=hid CN
      clear CN
      have CP:=hid (hbk.trans (Rf.QN (.inl (by rw[CH];exact eq_of_beq he))))
      have Ke:=hid (fun ts=>Rf.QJ (out:=ts) (f:=gk') (d:=d) DM.out JD.out JE.out (.inl (by rw[CH];exact eq_of_beq he)))
      clear hbk CH
      go_wp2_with (first
       |(go_at_call 59;refine (Hf q0 w1 (-1) Gy.out).mono ?_;rintro e w2 ⟨rfl,hb2⟩;have AE:=hid (EG.out.below hb2);have CO:=hid (GQ Db.out hb2);have AP:=hid (Gl AL.out hb2);have y0:=cell_later hb2 c0;have Dq:=AE.out.row.lt;have hg2:=World.block_lt_of_cell? w2 _ y0;have x0:=AE.out.row.cell (i:=0) (by omega);rw[show AQ P gl cl L.length s 0=.pointer (some ⟨P,0,none⟩) from rfl] at x0;have z0:=AE.out.row.frozen 0;have x2:=AE.out.row.cell (i:=2) (by omega);rw[show AQ P gl cl L.length s 2=.int .i64 s.at_ from rfl] at x2;have z2:=AE.out.row.frozen 2;have x3:=AE.out.row.cell (i:=3) (by omega);rw[show AQ P gl cl L.length s 3=.int .i64 s.cnt from rfl] at x3;have z3:=AE.out.row.frozen 3;have x4:=AE.out.row.cell (i:=4) (by omega);rw[show AQ P gl cl L.length s 4=.bool s.AA from rfl] at x4;have z4:=AE.out.row.frozen 4;clear hb2))
      go_ret2
      exact JN HR.out HO.out HT.out CP.out ((AE.out.put 4 (.bool true)).congr (fun i hi=>OL P gl cl L.length s i hi)) HR.out.ds (A9.setCell (p:=⟨R,4,none⟩) (A9.Ap AP.out HR.out.rep.AJ) De (.inl rfl) _) av n cv (by simp[Eh.out]) (fun _=>⟨rfl,Ke.out,A9.setCell (p:=⟨R,4,none⟩) (A9.Ap (S:=fun k=>k=R) AP.out HR.out.rep.AJ) De rfl _⟩)
    |false=>
    cases hn:(q0.toList==[101,110,100]) with
    |true=>
     by_cases CN:ws.length=1
     ·have Wo:((ws.length:Int)==1)=true:=by simp;omega
      have Eh:=hid CN
      clear CN
      by_cases hd0:0<d
      ·have bl:(0:Int)<(d:Int):=by omega
       have CP:=hid (hbk.trans (Rf.QN (.inr (by rw[CH];exact eq_of_beq hn))))
       have Ke:=hid (fun ts=>Rf.QJ (out:=ts) (f:=gk') (d:=d) DM.out JD.out JE.out (.inr (by rw[CH];exact eq_of_beq hn)))
       clear hbk CH
       go_wp2_with (first
        |(go_at_call 59;refine (Hf q0 w1 (-1) Gy.out).mono ?_;rintro e w2 ⟨rfl,hb2⟩;have AE:=hid (EG.out.below hb2);have CO:=hid (GQ Db.out hb2);have AP:=hid (Gl AL.out hb2);have y0:=cell_later hb2 c0;have Dq:=AE.out.row.lt;have hg2:=World.block_lt_of_cell? w2 _ y0;have x0:=AE.out.row.cell (i:=0) (by omega);rw[show AQ P gl cl L.length s 0=.pointer (some ⟨P,0,none⟩) from rfl] at x0;have z0:=AE.out.row.frozen 0;have x2:=AE.out.row.cell (i:=2) (by omega);rw[show AQ P gl cl L.length s 2=.int .i64 s.at_ from rfl] at x2;have z2:=AE.out.row.frozen 2;have x3:=AE.out.row.cell (i:=3) (by omega);rw[show AQ P gl cl L.length s 3=.int .i64 s.cnt from rfl] at x3;have z3:=AE.out.row.frozen 3;have x4:=AE.out.row.cell (i:=4) (by omega);rw[show AQ P gl cl L.length s 4=.bool s.AA from rfl] at x4;have z4:=AE.out.row.frozen 4;clear hb2))
       go_ret2
       exact JN HR.out HO.out HT.out CP.out ((AE.out.put 4 (.bool true)).congr (fun i hi=>OL P gl cl L.length s i hi)) HR.out.ds (A9.setCell (p:=⟨R,4,none⟩) (A9.Ap AP.out HR.out.rep.AJ) De (.inl rfl) _) av n cv (by simp[Eh.out,hd0]) (fun _=>⟨rfl,Ke.out,A9.setCell (p:=⟨R,4,none⟩) (A9.Ap (S:=fun k=>k=R) AP.out HR.out.rep.AJ) De rfl _⟩)
      ·have bl: ¬(0:Int)<(d:Int):=by omega
       have CP:=hid (hbk.trans (Rf.QN (.inr (by rw[CH];exact eq_of_beq hn))))
       have Ke:=hid (fun ts=>Rf.QJ (out:=ts) (f:=gk') (d:=d) DM.out JD.out JE.out (.inr (by rw[CH];exact eq_of_beq hn)))
       clear hbk CH
       go_wp2_with (first
        |(go_at_call 59;refine (Hf q0 w1 (-1) Gy.out).mono ?_;rintro e w2 ⟨rfl,hb2⟩;have AE:=hid (EG.out.below hb2);have CO:=hid (GQ Db.out hb2);have AP:=hid (Gl AL.out hb2);have y0:=cell_later hb2 c0;have Dq:=AE.out.row.lt;have hg2:=World.block_lt_of_cell? w2 _ y0;have x0:=AE.out.row.cell (i:=0) (by omega);rw[show AQ P gl cl L.length s 0=.pointer (some ⟨P,0,none⟩) from rfl] at x0;have z0:=AE.out.row.frozen 0;have x2:=AE.out.row.cell (i:=2) (by omega);rw[show AQ P gl cl L.length s 2=.int .i64 s.at_ from rfl] at x2;have z2:=AE.out.row.frozen 2;have x3:=AE.out.row.cell (i:=3) (by omega);rw[show AQ P gl cl L.length s 3=.int .i64 s.cnt from rfl] at x3;have z3:=AE.out.row.frozen 3;have x4:=AE.out.row.cell (i:=4) (by omega);rw[show AQ P gl cl L.length s 4=.bool s.AA from rfl] at x4;have z4:=AE.out.row.frozen 4;clear hb2))
       go_ret2
       exact JN HR.out HO.out HT.out CP.out ((AE.out.put 4 (.bool true)).congr (fun i hi=>OL P gl cl L.length s i hi)) HR.out.ds (A9.setCell (p:=⟨R,4,none⟩) (A9.Ap AP.out HR.out.rep.AJ) De (.inl rfl) _) av n cv (by simp[Eh.out,hd0]) (fun _=>⟨rfl,Ke.out,A9.setCell (p:=⟨R,4,none⟩) (A9.Ap (S:=fun k=>k=R) AP.out HR.out.rep.AJ) De rfl _⟩)
     ·have Wo:((ws.length:Int)==1)=false:=by simp;omega
      have Eh:=hid CN
      clear CN
      have CP:=hid (hbk.trans (Rf.QN (.inr (by rw[CH];exact eq_of_beq hn))))
      have Ke:=hid (fun ts=>Rf.QJ (out:=ts) (f:=gk') (d:=d) DM.out JD.out JE.out (.inr (by rw[CH];exact eq_of_beq hn)))
      clear hbk CH
      go_wp2_with (first
       |(go_at_call 59;refine (Hf q0 w1 (-1) Gy.out).mono ?_;rintro e w2 ⟨rfl,hb2⟩;have AE:=hid (EG.out.below hb2);have CO:=hid (GQ Db.out hb2);have AP:=hid (Gl AL.out hb2);have y0:=cell_later hb2 c0;have Dq:=AE.out.row.lt;have hg2:=World.block_lt_of_cell? w2 _ y0;have x0:=AE.out.row.cell (i:=0) (by omega);rw[show AQ P gl cl L.length s 0=.pointer (some ⟨P,0,none⟩) from rfl] at x0;have z0:=AE.out.row.frozen 0;have x2:=AE.out.row.cell (i:=2) (by omega);rw[show AQ P gl cl L.length s 2=.int .i64 s.at_ from rfl] at x2;have z2:=AE.out.row.frozen 2;have x3:=AE.out.row.cell (i:=3) (by omega);rw[show AQ P gl cl L.length s 3=.int .i64 s.cnt from rfl] at x3;have z3:=AE.out.row.frozen 3;have x4:=AE.out.row.cell (i:=4) (by omega);rw[show AQ P gl cl L.length s 4=.bool s.AA from rfl] at x4;have z4:=AE.out.row.frozen 4;clear hb2))
      go_ret2
      exact JN HR.out HO.out HT.out CP.out ((AE.out.put 4 (.bool true)).congr (fun i hi=>OL P gl cl L.length s i hi)) HR.out.ds (A9.setCell (p:=⟨R,4,none⟩) (A9.Ap AP.out HR.out.rep.AJ) De (.inl rfl) _) av n cv (by simp[Eh.out]) (fun _=>⟨rfl,Ke.out,A9.setCell (p:=⟨R,4,none⟩) (A9.Ap (S:=fun k=>k=R) AP.out HR.out.rep.AJ) De rfl _⟩)
    |false=>
    have hne: ¬(Lk.wd (ws.map ByteArray.toList) 0=Rf.wElse∨Lk.wd (ws.map ByteArray.toList) 0=Rf.wEnd):=by
     rw[CH]
     intro c
     rcases c with c|c
     ·exact ne_of_beq_false he c
     ·exact ne_of_beq_false hn c
    have Mi:=hid hne
    by_cases hc:s.cnt=12
    ·have CP:=hid (hbk.trans (Rf.tL hne hc))
     have hcJ:((s.cnt:Int)==12)=true:=by simp;omega
     clear hbk CH hc
     go_wp2_with (first
      |(go_at_call 59;refine (Hf q0 w1 (-1) Gy.out).mono ?_;rintro e w2 ⟨rfl,hb2⟩;have AE:=hid (EG.out.below hb2);have CO:=hid (GQ Db.out hb2);have AP:=hid (Gl AL.out hb2);have y0:=cell_later hb2 c0;have Dq:=AE.out.row.lt;have hg2:=World.block_lt_of_cell? w2 _ y0;have x0:=AE.out.row.cell (i:=0) (by omega);rw[show AQ P gl cl L.length s 0=.pointer (some ⟨P,0,none⟩) from rfl] at x0;have z0:=AE.out.row.frozen 0;have x2:=AE.out.row.cell (i:=2) (by omega);rw[show AQ P gl cl L.length s 2=.int .i64 s.at_ from rfl] at x2;have z2:=AE.out.row.frozen 2;have x3:=AE.out.row.cell (i:=3) (by omega);rw[show AQ P gl cl L.length s 3=.int .i64 s.cnt from rfl] at x3;have z3:=AE.out.row.frozen 3;have x4:=AE.out.row.cell (i:=4) (by omega);rw[show AQ P gl cl L.length s 4=.bool s.AA from rfl] at x4;have z4:=AE.out.row.frozen 4;clear hb2))
     go_ret2
     exact JN HR.out HO.out HT.out CP.out (AE.out.stmt _) HR.out.ds (A9.alloc (A9.setCell (p:=⟨R,4,none⟩) (A9.Ap AP.out HR.out.rep.AJ) De (.inl rfl) _) (by have:=AE.out.AJ;simp;omega) _) none 0 0 rfl (fun h=>absurd h (by simp))
    ·have hcJ:((s.cnt:Int)==12)=false:=by simp;omega
     cases hif:(q0.toList==[105,102]) with
     |true=>
      obtain ⟨⟨nb,sn⟩,hno⟩: ∃ o,Rf.DF (Rf.Ab (L.map ByteArray.toList) gk') (L.map ByteArray.toList) d { s with AA:=true } (ws.map ByteArray.toList)=o:=⟨_,rfl⟩
      have ER:=hid hno
      have Fu:=Rf.VQ (B:=Rf.Ab (L.map ByteArray.toList) gk') (L:=L.map ByteArray.toList) d { s with AA:=true } (fun d' s' g1 g2 g3=>Rf.JL _ gk' d' s' g2 g3 (by have:=Kc.out;have e:s.at_+1≤s'.at_:=g1;simp;omega)) (ws.map ByteArray.toList) DM.out (by show s.cnt<12;omega)
      rw[hno] at Fu
      have EF:=hid (show sn.at_<L.length by have:=Fu.1;simpa using this)
      have Pj:=hid (show sn.cnt≤12 from Fu.2.2.1)
      have KW:=hid (show sn.AA=true∧sn.ds=s.ds from Fu.2.2.2.1 rfl)
      have Le:=hid (Fu.2.2.2.2)
      have GM:=hid (show s.cnt<12 by omega)
      clear hno Fu
      have XC:=hid hc
      cases nb with
      |false=>
       clear Le
       have CP:=hid (hbk.trans (Rf.eZ hne hc (.inl (by rw[CH];exact eq_of_beq hif)) ER.out))
       clear hbk CH hc
       go_wp2_with (first
        |(go_at_call 59;refine (Hf q0 w1 (-1) Gy.out).mono ?_;rintro e w2 ⟨rfl,hb2⟩;have AE:=hid (EG.out.below hb2);have CO:=hid (GQ Db.out hb2);have AP:=hid (Gl AL.out hb2);have y0:=cell_later hb2 c0;have Dq:=AE.out.row.lt;have hg2:=World.block_lt_of_cell? w2 _ y0;have x0:=AE.out.row.cell (i:=0) (by omega);rw[show AQ P gl cl L.length s 0=.pointer (some ⟨P,0,none⟩) from rfl] at x0;have z0:=AE.out.row.frozen 0;have x2:=AE.out.row.cell (i:=2) (by omega);rw[show AQ P gl cl L.length s 2=.int .i64 s.at_ from rfl] at x2;have z2:=AE.out.row.frozen 2;have x3:=AE.out.row.cell (i:=3) (by omega);rw[show AQ P gl cl L.length s 3=.int .i64 s.cnt from rfl] at x3;have z3:=AE.out.row.frozen 3;have x4:=AE.out.row.cell (i:=4) (by omega);rw[show AQ P gl cl L.length s 4=.bool s.AA from rfl] at x4;have z4:=AE.out.row.frozen 4;clear hb2)
        |(go_at_call 61;refine (VT (cap:=cap) AE.out O0.out hL CO.out hw0 hgR hg2 HR.out.ds Kc.out hat GM.out Co HI.out De _ ER.out).mono ?_;rintro e w4 ⟨rfl,Gc,EN,Gd⟩;have O8:=hid Gd;have O9:=hid EN.A8.size;clear Gd;have FA:=hid Gc;have FH:=hid ((A9.Ap (S:=fun k=>k=R) AP.out HR.out.rep.AJ).trans EN (fun k _ e=>e));have HOWN:=hid (QM HR.out FH.out.down (fun k _ e=>.inl e));have Mj:=hid (Nat.le_trans HR.out.A8.size FH.out.A8.size);clear Gc EN))
       go_ret2
       exact JN HR.out HO.out HT.out CP.out FA.out (KW.out.2.trans HR.out.ds) (FH.out.imp (fun k _ e=>.inl e)) none 0 0 rfl (fun h=>absurd h (by simp))
      |true=>
       have Lf:=hid (show s.at_+1≤sn.at_ from Le.out rfl)
       clear Le
       have CP:=hid (hbk.trans (Rf.ed hne hc (.inl (by rw[CH];exact eq_of_beq hif)) ER.out))
       have Ps:=hid (fun ts=>(Rf.iL (out:=ts) DM.out JD.out JE.out hne hc (.inl (by rw[CH];exact eq_of_beq hif)) ER.out).symm)
       clear hbk CH hc
       go_wp2_with (first
        |(go_at_call 59;refine (Hf q0 w1 (-1) Gy.out).mono ?_;rintro e w2 ⟨rfl,hb2⟩;have AE:=hid (EG.out.below hb2);have CO:=hid (GQ Db.out hb2);have AP:=hid (Gl AL.out hb2);have y0:=cell_later hb2 c0;have Dq:=AE.out.row.lt;have hg2:=World.block_lt_of_cell? w2 _ y0;have x0:=AE.out.row.cell (i:=0) (by omega);rw[show AQ P gl cl L.length s 0=.pointer (some ⟨P,0,none⟩) from rfl] at x0;have z0:=AE.out.row.frozen 0;have x2:=AE.out.row.cell (i:=2) (by omega);rw[show AQ P gl cl L.length s 2=.int .i64 s.at_ from rfl] at x2;have z2:=AE.out.row.frozen 2;have x3:=AE.out.row.cell (i:=3) (by omega);rw[show AQ P gl cl L.length s 3=.int .i64 s.cnt from rfl] at x3;have z3:=AE.out.row.frozen 3;have x4:=AE.out.row.cell (i:=4) (by omega);rw[show AQ P gl cl L.length s 4=.bool s.AA from rfl] at x4;have z4:=AE.out.row.frozen 4;clear hb2)
        |(go_at_call 61;refine (VT (cap:=cap) AE.out O0.out hL CO.out hw0 hgR hg2 HR.out.ds Kc.out hat GM.out Co HI.out De _ ER.out).mono ?_;rintro e w4 ⟨rfl,Gc,EN,Gd⟩;have O8:=hid Gd;have O9:=hid EN.A8.size;clear Gd;have FA:=hid Gc;have FH:=hid ((A9.Ap (S:=fun k=>k=R) AP.out HR.out.rep.AJ).trans EN (fun k _ e=>e));have HOWN:=hid (QM HR.out FH.out.down (fun k _ e=>.inl e));have Mj:=hid (Nat.le_trans HR.out.A8.size FH.out.A8.size);clear Gc EN)
        |(at_builtin;refine wpList_append_lies _ rfl _ _ 79 rfl w.heap.size 137 i0 _ 1 8 Tryz.underlying79 hi hz0 hz1 hz2 rfl (by omega) _ n xs rfl (World.ownsRow.alloc HOWN.out _) ⟨w4.heap.size,0,none⟩ 1 1 [.pointer (some ⟨w2.heap.size,0,none⟩)] rfl rfl (cell_one_new _ _ _) (by simp[Value.oneCell']) (by omega) (by unfold maxLen;omega) (by omega) (by have:=Mj.out;simp;omega) (w4.heap.size+1) (by simp) ?_;intro g1 p1 x1 hown1 hgrow1 CT Bk))
       go_roundg gk'
       case measure=>omega
       case rel=>
        have p5:s.at_+1≤sn.at_:=Lf.out
        exact ⟨sn,l,vn,vk,vz,n+1,_,YP HR.out CP.out.symm Ps.out (aK (O8.out trivial) bg hg2 AP.out.size O9.out) rfl (KW.out.2.trans HR.out.ds) EF.out Pj.out (by have:=Kc.out;omega) p5 KW.out.1 FA.out FH.out hown1 hgrow1 CT⟩
     |false=>
     cases RZ:(q0.toList==[119,104,105,108,101]) with
     |true=>
      obtain ⟨⟨nb,sn⟩,hno⟩: ∃ o,Rf.DF (Rf.Ab (L.map ByteArray.toList) gk') (L.map ByteArray.toList) d { s with AA:=true } (ws.map ByteArray.toList)=o:=⟨_,rfl⟩
      have ER:=hid hno
      have Fu:=Rf.VQ (B:=Rf.Ab (L.map ByteArray.toList) gk') (L:=L.map ByteArray.toList) d { s with AA:=true } (fun d' s' g1 g2 g3=>Rf.JL _ gk' d' s' g2 g3 (by have:=Kc.out;have e:s.at_+1≤s'.at_:=g1;simp;omega)) (ws.map ByteArray.toList) DM.out (by show s.cnt<12;omega)
      rw[hno] at Fu
      have EF:=hid (show sn.at_<L.length by have:=Fu.1;simpa using this)
      have Pj:=hid (show sn.cnt≤12 from Fu.2.2.1)
      have KW:=hid (show sn.AA=true∧sn.ds=s.ds from Fu.2.2.2.1 rfl)
      have Le:=hid (Fu.2.2.2.2)
      have GM:=hid (show s.cnt<12 by omega)
      clear hno Fu
      have XC:=hid hc
      cases nb with
      |false=>
       clear Le
       have CP:=hid (hbk.trans (Rf.eZ hne hc (.inr (by rw[CH];exact eq_of_beq RZ)) ER.out))
       clear hbk CH hc
       go_wp2_with (first
        |(go_at_call 59;refine (Hf q0 w1 (-1) Gy.out).mono ?_;rintro e w2 ⟨rfl,hb2⟩;have AE:=hid (EG.out.below hb2);have CO:=hid (GQ Db.out hb2);have AP:=hid (Gl AL.out hb2);have y0:=cell_later hb2 c0;have Dq:=AE.out.row.lt;have hg2:=World.block_lt_of_cell? w2 _ y0;have x0:=AE.out.row.cell (i:=0) (by omega);rw[show AQ P gl cl L.length s 0=.pointer (some ⟨P,0,none⟩) from rfl] at x0;have z0:=AE.out.row.frozen 0;have x2:=AE.out.row.cell (i:=2) (by omega);rw[show AQ P gl cl L.length s 2=.int .i64 s.at_ from rfl] at x2;have z2:=AE.out.row.frozen 2;have x3:=AE.out.row.cell (i:=3) (by omega);rw[show AQ P gl cl L.length s 3=.int .i64 s.cnt from rfl] at x3;have z3:=AE.out.row.frozen 3;have x4:=AE.out.row.cell (i:=4) (by omega);rw[show AQ P gl cl L.length s 4=.bool s.AA from rfl] at x4;have z4:=AE.out.row.frozen 4;clear hb2)
        |(go_at_call 61;refine (VT (cap:=cap) AE.out O0.out hL CO.out hw0 hgR hg2 HR.out.ds Kc.out hat GM.out Co HI.out De _ ER.out).mono ?_;rintro e w4 ⟨rfl,Gc,EN,Gd⟩;have O8:=hid Gd;have O9:=hid EN.A8.size;clear Gd;have FA:=hid Gc;have FH:=hid ((A9.Ap (S:=fun k=>k=R) AP.out HR.out.rep.AJ).trans EN (fun k _ e=>e));have HOWN:=hid (QM HR.out FH.out.down (fun k _ e=>.inl e));have Mj:=hid (Nat.le_trans HR.out.A8.size FH.out.A8.size);clear Gc EN))
       go_ret2
       exact JN HR.out HO.out HT.out CP.out FA.out (KW.out.2.trans HR.out.ds) (FH.out.imp (fun k _ e=>.inl e)) none 0 0 rfl (fun h=>absurd h (by simp))
      |true=>
       have Lf:=hid (show s.at_+1≤sn.at_ from Le.out rfl)
       clear Le
       have CP:=hid (hbk.trans (Rf.ed hne hc (.inr (by rw[CH];exact eq_of_beq RZ)) ER.out))
       have Ps:=hid (fun ts=>(Rf.iL (out:=ts) DM.out JD.out JE.out hne hc (.inr (by rw[CH];exact eq_of_beq RZ)) ER.out).symm)
       clear hbk CH hc
       go_wp2_with (first
        |(go_at_call 59;refine (Hf q0 w1 (-1) Gy.out).mono ?_;rintro e w2 ⟨rfl,hb2⟩;have AE:=hid (EG.out.below hb2);have CO:=hid (GQ Db.out hb2);have AP:=hid (Gl AL.out hb2);have y0:=cell_later hb2 c0;have Dq:=AE.out.row.lt;have hg2:=World.block_lt_of_cell? w2 _ y0;have x0:=AE.out.row.cell (i:=0) (by omega);rw[show AQ P gl cl L.length s 0=.pointer (some ⟨P,0,none⟩) from rfl] at x0;have z0:=AE.out.row.frozen 0;have x2:=AE.out.row.cell (i:=2) (by omega);rw[show AQ P gl cl L.length s 2=.int .i64 s.at_ from rfl] at x2;have z2:=AE.out.row.frozen 2;have x3:=AE.out.row.cell (i:=3) (by omega);rw[show AQ P gl cl L.length s 3=.int .i64 s.cnt from rfl] at x3;have z3:=AE.out.row.frozen 3;have x4:=AE.out.row.cell (i:=4) (by omega);rw[show AQ P gl cl L.length s 4=.bool s.AA from rfl] at x4;have z4:=AE.out.row.frozen 4;clear hb2)
        |(go_at_call 61;refine (VT (cap:=cap) AE.out O0.out hL CO.out hw0 hgR hg2 HR.out.ds Kc.out hat GM.out Co HI.out De _ ER.out).mono ?_;rintro e w4 ⟨rfl,Gc,EN,Gd⟩;have O8:=hid Gd;have O9:=hid EN.A8.size;clear Gd;have FA:=hid Gc;have FH:=hid ((A9.Ap (S:=fun k=>k=R) AP.out HR.out.rep.AJ).trans EN (fun k _ e=>e));have HOWN:=hid (QM HR.out FH.out.down (fun k _ e=>.inl e));have Mj:=hid (Nat.le_trans HR.out.A8.size FH.out.A8.size);clear Gc EN)
        |(at_builtin;refine wpList_append_lies _ rfl _ _ 79 rfl w.heap.size 137 i0 _ 1 8 Tryz.underlying79 hi hz0 hz1 hz2 rfl (by omega) _ n xs rfl (World.ownsRow.alloc HOWN.out _) ⟨w4.heap.size,0,none⟩ 1 1 [.pointer (some ⟨w2.heap.size,0,none⟩)] rfl rfl (cell_one_new _ _ _) (by simp[Value.oneCell']) (by omega) (by unfold maxLen;omega) (by omega) (by have:=Mj.out;simp;omega) (w4.heap.size+1) (by simp) ?_;intro g1 p1 x1 hown1 hgrow1 CT Bk))
       go_roundg gk'
       case measure=>omega
       case rel=>
        have p5:s.at_+1≤sn.at_:=Lf.out
        exact ⟨sn,l,vn,vk,vz,n+1,_,YP HR.out CP.out.symm Ps.out (aK (O8.out trivial) bg hg2 AP.out.size O9.out) rfl (KW.out.2.trans HR.out.ds) EF.out Pj.out (by have:=Kc.out;omega) p5 KW.out.1 FA.out FH.out hown1 hgrow1 CT⟩
     |false=>
      have hni: ¬(Lk.wd (ws.map ByteArray.toList) 0=Rf.wIf∨Lk.wd (ws.map ByteArray.toList) 0=Rf.wWhile):=by
       rw[CH]
       intro c
       rcases c with c|c
       ·exact ne_of_beq_false hif c
       ·exact ne_of_beq_false RZ c
      obtain ⟨nb,hno⟩: ∃ o,Rf.fits (A7 l) (ws.map ByteArray.toList)=o:=⟨_,rfl⟩
      have ER:=hid hno
      have GM:=hid (show s.cnt<12 by omega)
      clear hno
      cases nb with
      |false=>
       have CP:=hid (hbk.trans (Rf.tN hne hc hni (by rw[←ER.out];exact congrArg (fun x=>Rf.fits x _) HR.out.ds)))
       clear hbk CH hc
       go_wp2_with (first
        |(go_at_call 59;refine (Hf q0 w1 (-1) Gy.out).mono ?_;rintro e w2 ⟨rfl,hb2⟩;have AE:=hid (EG.out.below hb2);have CO:=hid (GQ Db.out hb2);have AP:=hid (Gl AL.out hb2);have y0:=cell_later hb2 c0;have Dq:=AE.out.row.lt;have hg2:=World.block_lt_of_cell? w2 _ y0;have x0:=AE.out.row.cell (i:=0) (by omega);rw[show AQ P gl cl L.length s 0=.pointer (some ⟨P,0,none⟩) from rfl] at x0;have z0:=AE.out.row.frozen 0;have x2:=AE.out.row.cell (i:=2) (by omega);rw[show AQ P gl cl L.length s 2=.int .i64 s.at_ from rfl] at x2;have z2:=AE.out.row.frozen 2;have x3:=AE.out.row.cell (i:=3) (by omega);rw[show AQ P gl cl L.length s 3=.int .i64 s.cnt from rfl] at x3;have z3:=AE.out.row.frozen 3;have x4:=AE.out.row.cell (i:=4) (by omega);rw[show AQ P gl cl L.length s 4=.bool s.AA from rfl] at x4;have z4:=AE.out.row.frozen 4;clear hb2)
        |(go_at_call 62;refine (jg (cap:=cap) AE.out O0.out CO.out hw0 hgR hg2 De _ ER.out).mono ?_;rintro e w4 ⟨rfl,Gc,EN,Gd⟩;have O8:=hid Gd;have O9:=hid EN.A8.size;clear Gd;have FA:=hid Gc;have FH:=hid ((A9.Ap (S:=fun k=>k=R) AP.out HR.out.rep.AJ).trans EN (fun k _ e=>e));have lt4:=FA.out.row.lt;have a2:=FA.out.row.cell (i:=2) (by omega);rw[show AQ P gl cl L.length { s with AA:=true } 2=.int .i64 s.at_ from rfl] at a2;have a3:=FA.out.row.cell (i:=3) (by omega);rw[show AQ P gl cl L.length { s with AA:=true } 3=.int .i64 s.cnt from rfl] at a3;have b2:=FA.out.row.frozen 2;have b3:=FA.out.row.frozen 3;clear Gc EN))
       go_ret2
       exact JN HR.out HO.out HT.out CP.out ((FA.out.put 3 (.int .i64 ((s.cnt:Int)+1))).congr (fun i hi=>jf P gl cl L.length { s with AA:=true } i hi)) HR.out.ds ((A9.setCell (p:=⟨R,3,none⟩) FH.out De rfl (.int .i64 ((s.cnt:Int)+1))).imp (fun k _ e=>.inl e)) none 0 0 rfl (fun h=>absurd h (by simp))
      |true=>
       have CP:=hid (hbk.trans (Rf.tM hne hc hni (by rw[←ER.out];exact congrArg (fun x=>Rf.fits x _) HR.out.ds)))
       have Ps:=hid (fun ts=>(Rf.aaI (out:=ts) (f:=gk') (d:=d) DM.out JD.out JE.out hne hc hni (by rw[←ER.out];exact congrArg (fun x=>Rf.fits x _) HR.out.ds)).symm)
       clear hbk CH hc
       go_wp2_with (first
        |(go_at_call 59;refine (Hf q0 w1 (-1) Gy.out).mono ?_;rintro e w2 ⟨rfl,hb2⟩;have AE:=hid (EG.out.below hb2);have CO:=hid (GQ Db.out hb2);have AP:=hid (Gl AL.out hb2);have y0:=cell_later hb2 c0;have Dq:=AE.out.row.lt;have hg2:=World.block_lt_of_cell? w2 _ y0;have x0:=AE.out.row.cell (i:=0) (by omega);rw[show AQ P gl cl L.length s 0=.pointer (some ⟨P,0,none⟩) from rfl] at x0;have z0:=AE.out.row.frozen 0;have x2:=AE.out.row.cell (i:=2) (by omega);rw[show AQ P gl cl L.length s 2=.int .i64 s.at_ from rfl] at x2;have z2:=AE.out.row.frozen 2;have x3:=AE.out.row.cell (i:=3) (by omega);rw[show AQ P gl cl L.length s 3=.int .i64 s.cnt from rfl] at x3;have z3:=AE.out.row.frozen 3;have x4:=AE.out.row.cell (i:=4) (by omega);rw[show AQ P gl cl L.length s 4=.bool s.AA from rfl] at x4;have z4:=AE.out.row.frozen 4;clear hb2)
        |(go_at_call 62;refine (jg (cap:=cap) AE.out O0.out CO.out hw0 hgR hg2 De _ ER.out).mono ?_;rintro e w4 ⟨rfl,Gc,EN,Gd⟩;have O8:=hid Gd;have O9:=hid EN.A8.size;clear Gd;have FA:=hid Gc;have FH:=hid ((A9.Ap (S:=fun k=>k=R) AP.out HR.out.rep.AJ).trans EN (fun k _ e=>e));have lt4:=FA.out.row.lt;have a2:=FA.out.row.cell (i:=2) (by omega);rw[show AQ P gl cl L.length { s with AA:=true } 2=.int .i64 s.at_ from rfl] at a2;have a3:=FA.out.row.cell (i:=3) (by omega);rw[show AQ P gl cl L.length { s with AA:=true } 3=.int .i64 s.cnt from rfl] at a3;have b2:=FA.out.row.frozen 2;have b3:=FA.out.row.frozen 3;have HFX:=hid (A9.setCell (p:=⟨R,2,none⟩) (A9.setCell (p:=⟨R,3,none⟩) FH.out De rfl (.int .i64 ((s.cnt:Int)+1))) De rfl (.int .i64 ((s.at_:Int)+1)));have HOWN:=hid (QM HR.out HFX.out.down (fun k _ e=>.inl e));have Mj:=hid (Nat.le_trans HR.out.A8.size FH.out.A8.size);clear Gc EN)
        |(at_builtin;go_loud (refine wpList_append_lies _ rfl _ _ 79 rfl w.heap.size 137 i0 _ 1 8 Tryz.underlying79 hi hz0 hz1 hz2 rfl (by omega) _ n xs rfl (World.ownsRow.alloc HOWN.out _) ⟨w4.heap.size,0,none⟩ 1 1 [.pointer (some ⟨w2.heap.size,0,none⟩)] rfl rfl (by have h:=cell_one_new ((w4.setCell ⟨R,3,none⟩ (.int .i64 ((s.cnt:Int)+1))).setCell ⟨R,2,none⟩ (.int .i64 ((s.at_:Int)+1))) (.pointer (some ⟨w2.heap.size,0,none⟩)) 137;simpa using h) (by simp[Value.oneCell']) (by omega) (by unfold maxLen;omega) (by omega) (by have:=Mj.out;simp;omega) (w4.heap.size+1) (by simp) ?_);intro g1 p1 x1 hown1 hgrow1 CT Bk))
       go_roundg gk'
       case measure=>omega
       case rel=>
        exact ⟨_,l,vn,vk,vz,n+1,_,YP HR.out CP.out.symm Ps.out (kS (kS (aK O8.out bg hg2 AP.out.size O9.out) ltR) ltR) rfl HR.out.ds hat (show s.cnt+1≤12 by have:=GM.out;omega) (by have:=Kc.out;show L.length≤s.at_+1+1+gk';omega) (Nat.le_refl _) rfl
         ((((FA.out.put 3 (.int .i64 ((s.cnt:Int)+1))).congr (fun i hi=>jf P gl cl L.length { s with AA:=true } i hi)).put 2 (.int .i64 ((s.at_:Int)+1))).congr (fun i hi=>OY P gl cl L.length { s with AA:=true,cnt:=s.cnt+1 } i hi)) HFX.out hown1 hgrow1 (CT.imp id (fun e=>by simpa using e))⟩
  ·have ML: ¬(s.at_:Int)<(L.length:Int) - 1:=by omega
   have hbk:Rf.Ab (L.map ByteArray.toList) gk d s=(decide (d=0),s):=by
    cases gk with
    |zero=>rfl
    |succ k=>unfold Rf.Ab;rw[if_neg (by rw[Jd];exact hat)]
   have CP:=hid hbk
   clear hbk
   have hdd:((d:Int)==0)=decide (d=0):=by
    by_cases h:d=0
    ·simp[h]
    ·rw[decide_eq_false h];simp;omega
   go_wp2_with fail
   go_quiet (fail)
   go_wp2_with fail
   go_ret2
   exact JN HR.out HO.out HT.out CP.out (HR.out.rep.drewN _) HR.out.ds ((A9.refl _ _ _).drewN _) av n cv (by first|rfl|rw[hdd]|simp[hdd]) (fun _=>⟨rfl,fun ts=>Rf.xN (by rw[Jd];exact hat),(A9.refl _ _ _).drewN _⟩)
end Go.Proofs.YtgddmpmcnjlcjaaGreatDoor
