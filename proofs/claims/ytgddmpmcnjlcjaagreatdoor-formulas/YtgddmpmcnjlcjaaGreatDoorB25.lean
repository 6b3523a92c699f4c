import Derived.Test.YtgddmpmcnjlcjaaGreatDoorB24
import Derived.Test.YtgddmpmcnjlcjaaGreatDoorB11
set_option maxRecDepth 100000
set_option maxHeartbeats 4000000
namespace Go.Proofs.YtgddmpmcnjlcjaaGreatDoor
open Go.RowKit
set_option linter.unusedVariables false
section
variable {w:World}
theorem abj (sec:List Bool) (nodes:List Dg.Nd) (D:List Nat) (vs vc vk vN vT:Value) (nv:Int) (hs3:sec.length≤3) (hs:w.ownsRow 0 4 1 vs sec.length (sec.map Value.bool))
  (hN:w.ownsRow 0 153 4 vN nodes.length (nodes.flatMap Dg.Nd.cells)) (hT:w.ownsRow 0 3 1 vT D.length (D.map fun (n:Nat)=>.int .i64 n)) (hL:nodes.length≤400000) (hD:D.length≤70) (hDn: ∀ i,i<D.length→D.getD i 0<nodes.length)
  (hOk: ∀ i,2≤i→i<nodes.length→(Dg.AG nodes i).lo<i∧(Dg.AG nodes i).hi<i∧(Dg.AG nodes i).bit<4*sec.length) (Ag:DU w.heap.size w):
  Calls Tryz.prog 18 #[.agg #[vs,.int .i64 nv,vc,vk],.agg #[vN,vT]] w fun e w'=> ∃ vb,e=.returned (.agg #[.int .i64 (Cl.form sec nodes D).vars,.int .i64 (Cl.form sec nodes D).ct,.string ⟨(Cl.form sec nodes D).bs.toArray⟩,vb])∧w'.ownsRow 0 113 7 vb D.length ((Cl.form sec nodes D).bits.flatMap Cl.Bt.cells)∧Below w.heap.size w w':=by
 obtain ⟨t0,ht0,hz0,hz1,hz2⟩:=info_parts Tryz.Ds
 obtain ⟨Bj,cs0,es⟩:=AX hs
 obtain ⟨aN,cN,eN⟩:=AX hN
 obtain ⟨aT,cT,eT⟩:=AX hT
 subst es eN eT
 have MX:(sec.length:Int)≤3:=by omega
 have hDI:(D.length:Int)≤70:=by omega
 have HS:=hid hs
 have HN:=hid hN
 have Gu:=hid hT
 have HT:=hid Ag
 have HDN:=hid hDn
 have Ef:=hid hOk
 obtain ⟨FM,hFM⟩: ∃ FM,Cl.form sec nodes D=FM:=⟨_,rfl⟩
 rw[hFM]
 have Md:=hid hFM
 clear hFM
 clear hOk
 clear hs hN hT Ag hDn
 obtain ⟨W0,hW0⟩: ∃ W0:World,((((((w.alloc (.cells #[.slice Bj sec.length cs0,.int .i64 nv,vc,vk] 45)).alloc (.cells #[.slice aN nodes.length cN,.slice aT D.length cT] 50)).alloc (.cells #[.int .i64 0,.int .i64 0,.string ⟨#[]⟩,.slice none 0 0] 55)).alloc (.cells #[.int .i64 0,.int .i64 0,.slice none 0 0] 105)).alloc (.cells #[.slice none 0 0,.slice none 0 0,.slice none 0 0] 107)).alloc (.cells #[.slice none 0 0,.slice none 0 0,.slice none 0 0] 107))=W0:=⟨_,rfl⟩
 have H0:=hid (hW0 ▸ wM (w:=w) (.slice aN nodes.length cN) (.slice aT D.length cT) (.slice Bj sec.length cs0) (.int .i64 nv) vc vk)
 have FN:=hid (show W0.rowIs w.heap.size 45 4 (fun i=>if i=0 then .slice Bj sec.length cs0 else if i=1 then .int .i64 nv else if i=2 then vc else vk) by
  rw[←hW0]
  exact Fw (Du _ _ _ _ (Du _ _ _ _ (Du _ _ _ _ (Du _ _ _ _ (Du _ _ _ _ (CX _ _ _ rfl)))))) rfl (fun i hi=>by
   match i,hi with
   |0,_=>rfl
   |1,_=>rfl
   |2,_=>rfl
   |3,_=>rfl
   |n+4,h=>omega))
 have HE:=hid hW0
 clear hW0
 have C0:=hid (Rz H0.out.wt (4*sec.length) (by omega) (by omega))
 rw[show ((4*sec.length:Nat):Int)=(sec.length:Int)*4 by omega,Nat.zero_add] at C0
 go_enter Tryz.func18,Tryz.ntmps18
 go_wp2_with (go_at_call 41;rw[HE.out];refine C0.out.mono ?_;rintro e w1 ⟨a1,c1,rfl,BQ,hw1,Es⟩;have H1:=hid (H0.out.fresh hw1 Es);have O1:=hid BQ;have F1:=hid Es;have z1:=Es.A8.size;clear BQ hw1 Es;refine Hid.out ?_)
 refine hid ?_
 have k0:=H1.out.r1.cell (i:=0) (by omega)
 have f0:=H1.out.r1.frozen 0
 have p0:=(SR FN.out F1.out (by omega)).cell (i:=0) (by omega)
 dsimp only[GV] at k0 p0
 rw[if_pos rfl] at k0 p0
 obtain ⟨W1,hW1⟩: ∃ W1:World,w1.setCell ⟨w.heap.size+4,0,none⟩ (.slice a1 (4*sec.length) c1)=W1:=⟨_,rfl⟩
 have H2:=hid (show Dx w (.slice aN nodes.length cN) (.slice aT D.length cT) (4*sec.length) 0 [] (.slice none 0 0) (Cl.b1 sec) [] (.slice a1 (4*sec.length) c1) (.slice none 0 0) (.slice none 0 0) (.slice none 0 0) W1 by
  rw[←hW1]
  refine H1.out.adH ?_ (fun g e=>by simp[Value.ownBlock])
  rw[Cl.L5]
  exact Br O1.out (by have:=H0.out.A8.size;omega))
 have Nq:=hid hW1
 have z1':W1.heap.size=w1.heap.size:=by rw[←hW1];simp
 clear hW1 C0 H0 HE O1 H1 F1
 go_wp2_with fail
 rw[Nq.out]
 clear k0 f0 p0 Nq FN
 go_loopw [28] (fun c wr=> ∃ (i:Nat) (v2:Value),i≤sec.length∧c=.int .i64 i∧Dx w (.slice aN nodes.length cN) (.slice aT D.length cT) (Cl.Ar sec i).1 0 [] (.slice none 0 0) (Cl.b1 sec) (Cl.Ar sec i).2 (.slice a1 (4*sec.length) c1) v2 (.slice none 0 0) (.slice none 0 0) wr) (fun c _=>sec.length - (intOf c).toNat)
 case atStart=>exact ⟨0,_,Nat.zero_le _,rfl,H2.out⟩
 case round=>
  clear H2
  obtain ⟨i,v2,hi,rfl,hcw⟩:=hrel
  have Fh:(i:Int)≤3:=by omega
  have hz:=hcw.A8.size
  by_cases hlt:i<sec.length
  ·obtain ⟨gs,cs',es,_,hgs⟩:=HS.out.form (by omega)
   cases es
   have sc:=(hcw.A8.cell (p:=⟨gs,i,none⟩) hgs).trans (lC HS.out i hlt)
   have hb1:=hcw.o1
   rw[Cl.L5] at hb1
   obtain ⟨g1,c1',e1,hcap,hg1⟩:=hb1.form (by omega)
   cases e1
   obtain ⟨a2,c2,e2⟩:=AX hcw.o2
   subst e2
   have KR:=hid hcw
   have q0:=hcw.r1.cell (i:=0) (by omega)
   rw[show GV (.slice (some ⟨g1,0,none⟩) (4*sec.length) c1) (.slice none 0 0) (.slice none 0 0) 0=.slice (some ⟨g1,0,none⟩) (4*sec.length) c1 from rfl] at q0
   have DL:(i:Int)<(sec.length:Int):=by omega
   have PV:=hid (show Cl.Ar sec (i+1)=if sec.getD i false then ((Cl.Ar sec i).1+4,(Cl.Ar sec i).2++BD (Cl.Ar sec i).1 4) else ((Cl.Ar sec i).1,(Cl.Ar sec i).2++BD (4*i) 4) from rfl)
   have AW:=zn hb1
   have ak0:(4*(sec.length:Int))≤(c1:Int):=by omega
   have hm4:(i+1)*4 - i*4=4:=by omega
   have hl2:=Cl.Yi sec i
   have hvl:=Cl.QT sec i
   obtain ⟨X,hX⟩: ∃ X,Cl.Ar sec i=X:=⟨_,rfl⟩
   rw[hX] at KR PV hl2 hvl
   have alQ:X.2.length≤12:=by omega
   have GZ:=hid hl2
   have f2:=KR.out.r2.frozen 0
   have q2:=KR.out.r2.cell (i:=0) (by omega)
   rw[show ∀ v,GV v (.slice none 0 0) (.slice none 0 0) 0=v from fun _=>rfl] at q2
   clear hX hl2
   clear hcw hb1
   cases AY:sec.getD i false with
   |true=>
    rw[AY] at sc PV
    have C:=hid (Rz KR.out.wt 4 (by omega) (by omega))
    go_wp2_with (go_at_call 41;refine C.out.mono ?_;rintro e w3 ⟨a3,c3,rfl,I4,hw3,hf3⟩;have H3:=hid (KR.out.fresh hw3 hf3);have O3:=hid I4;have F3:=hid hf3;have z3:=hf3.A8.size;clear I4 hw3 hf3;refine Hid.out ?_)
    refine hid ?_
    obtain ⟨g3,c3',e3,_,hg3⟩:=O3.out.form (by omega)
    cases e3
    have q3:=H3.out.r2.cell (i:=0) (by omega)
    rw[show ∀ v,GV v (.slice none 0 0) (.slice none 0 0) 0=v from fun _=>rfl] at q3
    have J6:=hid (show ∀ j u,((BD X.1 4).map fun (n:Nat)=>Value.int .i64 n)[j]? =some u→w3.cell? ((⟨g3,0,none⟩:Addr).add j)=some u from fun j u hj=>by
     have hj4:j<4:=by
      have:=(List.getElem?_eq_some_iff.1 hj).1
      simpa[BD] using this
     have h1:=O3.out.cellAt j (by omega)
     rw[show (⟨g3,0,none⟩:Addr).add j=⟨g3,j,none⟩ by simp[Addr.add];exact fun h=>h.symm,h1,hj])
    go_wp2_with (first|(at_builtin;refine wpList_append_lies _ rfl _ _ 24 rfl w.heap.size 3 t0 _ 1 8 Tryz.underlying24 ht0 hz0 hz1 hz2 rfl (by omega) _ X.2.length (X.2.map fun (n:Nat)=>.int .i64 n) rfl H3.out.o2 ⟨g3,0,none⟩ 4 c3 ((BD X.1 4).map fun (n:Nat)=>.int .i64 n) rfl (by simp[BD]) J6.out (by simp[Value.oneCell']) (by omega) (by unfold maxLen;omega) (by omega) (by omega) w3.heap.size rfl ?_;intro g4 D4 w4 BW BJ Cn IU;have r4:=Ad H3.out.r2 BJ (Aq H3.out.o2 H3.out.r2 (by decide));have q4:=r4.cell (i:=0) (by omega);have Qz:=r4.frozen 0;have H4:=hid (H3.out.app (l:=X.2++BD X.1 4) (by rw[List.length_append,List.map_append,Jl];exact BW) BJ Cn);clear r4 BW BJ Cn))
    go_roundw
    case rel=>exact ⟨i+1,_,by omega,by go_num,by rw[PV.out];exact H4.out⟩
    case measure=>simp[intOf];omega
   |false=>
    rw[AY] at sc PV
    have J6:=hid (show ∀ j u,((BD (4*i) 4).map fun (n:Nat)=>Value.int .i64 n)[j]? =some u→wr.cell? ((⟨g1,i*4,none⟩:Addr).add j)=some u from fun j u hj=>by
     have hj4:j<4:=by
      have:=(List.getElem?_eq_some_iff.1 hj).1
      simpa[BD] using this
     have h1:=QR (by have h:=KR.out.o1;rw[Cl.L5];rw[Cl.L5] at h;exact h) (i*4+j) (by rw[Cl.L5];omega)
     rw[show (⟨g1,i*4,none⟩:Addr).add j=⟨g1,i*4+j,none⟩ by simp[Addr.add],h1,show (Cl.b1 sec).getD (i*4+j) 0=0+1+(i*4+j) from Cl.VE 0 _ _ (by omega)]
     rw[←hj]
     simp[BD,hj4]
     omega)
    go_wp2_with (first|(at_builtin;refine wpList_append_lies _ rfl _ _ 24 rfl w.heap.size 3 t0 _ 1 8 Tryz.underlying24 ht0 hz0 hz1 hz2 rfl (by omega) _ X.2.length (X.2.map fun (n:Nat)=>.int .i64 n) rfl KR.out.o2 ⟨g1,i*4,none⟩ ((i+1)*4 - i*4) (c1 - i*4) ((BD (4*i) 4).map fun (n:Nat)=>.int .i64 n) rfl (by simp[BD];omega) J6.out (by simp[Value.oneCell']) (by omega) (by unfold maxLen;omega) (by omega) hz wr.heap.size rfl ?_;intro g4 D4 w4 BW BJ Cn IU;have r4:=Ad KR.out.r2 BJ (Aq KR.out.o2 KR.out.r2 (by decide));have q4:=r4.cell (i:=0) (by omega);have Qz:=r4.frozen 0;rw[hm4] at BW;have H4:=hid (KR.out.app (l:=X.2++BD (4*i) 4) (by rw[List.length_append,List.map_append,Jl];exact BW) BJ Cn);clear r4 BW BJ Cn))
    go_roundw
    case rel=>exact ⟨i+1,_,by omega,by go_num,by rw[PV.out];exact H4.out⟩
    case measure=>simp[intOf];omega
  ·have PD:=hid (show i=sec.length by omega)
   rw[PD.out] at hcw
   have H2:=hid hcw
   clear hcw
   have hv:=Cl.Jo sec
   have HV:=hid (show (Cl.Ar sec sec.length).1=Cl.AK sec from rfl)
   have AP:=hid (show (Cl.Ar sec sec.length).2=Cl.b2 sec from rfl)
   rw[HV.out,AP.out] at H2
   obtain ⟨V,hV⟩: ∃ V,Cl.AK sec=V:=⟨_,rfl⟩
   rw[hV] at H2 hv
   have hVb:V≤24:=by omega
   obtain ⟨a2,c2,e2⟩:=AX H2.out.o2
   subst e2
   have Ja:=hid hV
   have d1:=H2.out.db.cell (i:=1) (by omega)
   rw[show ∀ a b,E_ a b 1=b from fun _ _=>rfl] at d1
   have C:=hid (Rz H2.out.wt D.length (by omega) (by omega))
   clear hV hv
   go_wp2_with (go_at_call 41;refine C.out.mono ?_;rintro e w3 ⟨a3,c3,rfl,I4,hw3,hf3⟩;have H3:=hid (H2.out.fresh hw3 hf3);have O3:=hid I4;have F3:=hid hf3;have z3:=hf3.A8.size;clear I4 hw3 hf3;refine Hid.out ?_)
   refine hid ?_
   have k3:=H3.out.r1.cell (i:=2) (by omega)
   have f3:=H3.out.r1.frozen 2
   have d3:=H3.out.db.cell (i:=1) (by omega)
   rw[show ∀ a b,E_ a b 1=b from fun _ _=>rfl] at d3
   obtain ⟨W3,hW3⟩: ∃ W3:World,w3.setCell ⟨w.heap.size+4,2,none⟩ (.slice a3 D.length c3)=W3:=⟨_,rfl⟩
   have PW:=hid hW3
   have H4:=hid (hW3 ▸ H3.out.adJ (.slice a3 D.length c3))
   have O4:=hid (show W3.ownsRow w.heap.size 3 1 (.slice a3 D.length c3) D.length ((BD V D.length).map fun (n:Nat)=>.int .i64 n) by rw[←hW3];exact BC (Br O3.out hz) (Aq O3.out H3.out.r1 (by decide)) _)
   have z4:W3.heap.size=w3.heap.size:=by rw[←hW3];simp
   have C2:=hid (Rz H4.out.wt D.length (by omega) (by omega))
   clear hW3 C d1 H2
   go_wp2_with (go_at_call 41;rw[PW.out];refine C2.out.mono ?_;rintro e w5 ⟨a5,c5,rfl,ho5,XQ,XR⟩;have H5:=hid (H4.out.fresh XQ XR);have O5:=hid ho5;have O45:=hid (SQ O4.out XR (Aq O4.out H4.out.wt.row (by decide)));have z5:=XR.A8.size;clear ho5 XQ XR;refine Hid.out ?_)
   refine hid ?_
   have k5:=H5.out.r2.cell (i:=2) (by omega)
   have f5:=H5.out.r2.frozen 2
   have d5:=H5.out.db.cell (i:=1) (by omega)
   rw[show ∀ a b,E_ a b 1=b from fun _ _=>rfl] at d5
   obtain ⟨W5,EZ⟩: ∃ W5:World,w5.setCell ⟨w.heap.size+5,2,none⟩ (.slice a5 D.length c5)=W5:=⟨_,rfl⟩
   have PX:=hid EZ
   have H6:=hid (EZ ▸ H5.out.adL (.slice a5 D.length c5))
   have O6:=hid (show W5.ownsRow w.heap.size 3 1 (.slice a5 D.length c5) D.length ((BD (V+D.length) D.length).map fun (n:Nat)=>.int .i64 n) by rw[←EZ];exact BC (Br O5.out (by omega)) (Aq O5.out H5.out.r2 (by decide)) _)
   have O46:=hid (show W5.ownsRow w.heap.size 3 1 (.slice a3 D.length c3) D.length ((BD V D.length).map fun (n:Nat)=>.int .i64 n) by rw[←EZ];exact BC O45.out (Aq O45.out H5.out.r2 (by decide)) _)
   have z6:W5.heap.size=w5.heap.size:=by rw[←EZ];simp
   have C3:=hid (Rz H6.out.wt D.length (by omega) (by omega))
   clear EZ C2 k3 f3 d3 H3 H4 O3 O4 O45 O5 PW
   go_wp2_with (go_at_call 41;rw[PX.out];refine C3.out.mono ?_;rintro e w7 ⟨a7,c7,rfl,ho7,RH,U9⟩;have H7:=hid (H6.out.fresh RH U9);have O7r:=hid ho7;have O47:=hid (SQ O46.out U9 (Aq O46.out H6.out.wt.row (by decide)));have O67:=hid (SQ O6.out U9 (Aq O6.out H6.out.wt.row (by decide)));have z7:=U9.A8.size;clear ho7 RH U9;refine Hid.out ?_)
   refine hid ?_
   have O7:=hid (show w7.ownsRow w.heap.size 3 1 (.slice a7 D.length c7) D.length ((BD (V+D.length+D.length) D.length).map fun (n:Nat)=>.int .i64 n) from Br O7r.out (by omega))
   clear C3 k5 f5 d5 H5 H6 O46 O6 PX O7r
   rw[show V+D.length+D.length+D.length=V+3*D.length by omega] at H7
   have C4:=hid (qM H7.out.wt H7.out.A8.size nodes hL (Cl.b1 sec) (Cl.b2 sec) (w.heap.size+4) (w.heap.size+5) (.slice aN nodes.length cN) (.slice aT D.length cT) a1 a3 a2 a5 c1 D.length c3 c2 D.length c5 (CL HN.out H7.out.A8.block)
    (by rw[Cl.L5];exact H7.out.r1.congr (fun i hi=>rfl)) (H7.out.r2.congr (fun i hi=>rfl)) (by omega) (by omega) (by omega)
    (by have h:=H7.out.o1;rw[Cl.L5] at h ⊢;exact Br h (Nat.zero_le _)) (Br H7.out.o2 (Nat.zero_le _)) (HT.out.on H7.out.A8) (by simp) (fun i=>Nat.le_trans (Cl.aI sec i) (by rw[Ja.out];omega)) (fun i=>Nat.le_trans (Cl.WW sec i) (by rw[Ja.out];omega)) (by rw[Cl.L5];omega) (by rw[Cl.kN];omega)
    (fun i hi=>by rw[←Ja.out];exact Cl.Zh sec nodes D.length hs3 hD hL i (by omega)) (fun i h2 hi=>by obtain ⟨q1,q2,q3⟩:=Ef.out i h2 hi;exact ⟨q1,q2,by rw[Cl.L5];exact q3,by rw[Cl.kN];exact q3⟩))
   rw[Cl.L5] at C4
   have d7:=H7.out.db.cell (i:=0) (by omega)
   have e7:=H7.out.db.cell (i:=1) (by omega)
   rw[show ∀ a b,E_ a b 0=a from fun _ _=>rfl] at d7
   rw[show ∀ a b,E_ a b 1=b from fun _ _=>rfl] at e7
   go_wp2_with (go_at_call 42;refine C4.out.mono ?_;rintro e w8 ⟨rfl,vt8,g1,g2,hn8⟩;have H8:=hid hn8;clear hn8;refine Hid.out ?_)
   refine hid ?_
   have PY: ∀ w:World,(Instr.makeSlice 53 (.int .i64 (D.length:Int)) (.int .i64 (D.length:Int))).run Tryz.prog w=.ok (.slice (some ⟨w.heap.size,0,none⟩) D.length D.length) (w.alloc (.cells (madeCells #[.int .i64 0,.int .i64 0,.int .i64 0,.int .i64 0,.int .i64 0,.int .i64 0,.int .i64 0] (D.length*7)) 113)):=fun w=>by
    obtain ⟨b0,hb0,x0,x1,x2⟩:=info_parts Tryz.zo
    have h:=run_make (P:=Tryz.prog) w 53 113 b0 _ Tryz.underlying53 hb0 x0 .i64 .i64 (D.length:Int) (D.length:Int) (by omega) (Int.le_refl _) (by rw[x2];omega) (by omega)
    rw[x1,Int.toNat_natCast] at h
    exact h
   have HXE:=hid (show Cl.BG nodes (Cl.b1 sec) (Cl.b2 sec) ⟨V+3*D.length,0,fun _=>0,fun _=>0,[]⟩ nodes.length=Cl.Bw sec nodes D.length by rw[←Ja.out];rfl)
   have UA:=hid (show Cl.Jy (Cl.Bw sec nodes D.length) (234+2*nodes.length) (544*nodes.length) from Cl.Zh sec nodes D.length hs3 hD hL _ (by omega))
   rw[HXE.out] at H8
   obtain ⟨X,hX⟩: ∃ X,Cl.Bw sec nodes D.length=X:=⟨_,rfl⟩
   rw[hX] at H8 UA
   have PZ:=hid hX
   clear hX HXE C4
   have z8:=H8.out.A8.size
   have hz7:=H7.out.A8.size
   have e8:=(H8.out.kp.rowIs H7.out.db (by omega) (by decide)).cell (i:=1) (by omega)
   rw[show ∀ a b,E_ a b 1=b from fun _ _=>rfl] at e8
   have e8a:=fun o=>((H8.out.kp.rowIs H7.out.db (by omega) (by decide)).alloc o).cell (i:=1) (by omega)
   rw[show ∀ a b,E_ a b 1=b from fun _ _=>rfl] at e8a
   obtain ⟨W8,hW8⟩: ∃ W8:World,w8.alloc (.cells (madeCells #[.int .i64 0,.int .i64 0,.int .i64 0,.int .i64 0,.int .i64 0,.int .i64 0,.int .i64 0] (D.length*7)) 113)=W8:=⟨_,rfl⟩
   have H9:=hid (show CR w (.slice aN nodes.length cN) (.slice aT D.length cT) X.vars X.ct X.bs vt8 D.length nodes.length V g1 g2 w8.heap.size X.f1 X.f2 (.slice a1 (4*sec.length) c1) (.slice a2 (Cl.b2 sec).length c2) (.slice a3 D.length c3) (.slice a5 D.length c5) (.slice a7 D.length c7) (fun _=>{}) W8 by
    rw[←hW8]
    have no: ∀ {v:Value} {xs:List Value},w7.ownsRow w.heap.size 3 1 v D.length xs→ ∀ g,v.ownBlock=some g→ ¬(g=w.heap.size+3∨g=w.heap.size+4∨g=w.heap.size+5):=fun h g e c=>by
     rcases c with c|c|c
     ·subst c;exact Aq h H7.out.wt.row (by decide) e
     ·subst c;exact Aq h H7.out.r1 (by decide) e
     ·subst c;exact Aq h H7.out.r2 (by decide) e
    refine ⟨by have h:=H8.out.wr;rw[List.nil_append] at h;exact h.alloc _,(H8.out.kp.rowIs H7.out.db (by omega) (by decide)).alloc _,(H8.out.kp.rowIs H7.out.fb (by omega) (by decide)).alloc _,(H8.out.r1.congr (fun i hi=>rfl)).alloc _,(H8.out.r2.congr (fun i hi=>rfl)).alloc _,H8.out.t1.alloc _,H8.out.t2.alloc _,(H8.out.kp.own O47.out (no O47.out) (by decide)).alloc _,(H8.out.kp.own O67.out (no O67.out) (by decide)).alloc _,(H8.out.kp.own O7.out (no O7.out) (by decide)).alloc _,Fw (CX _ _ _ rfl) (size_madeCells _ _) (fun c hc=>adM _ _ hc),by omega,(H7.out.A8.trans H8.out.A8).alloc (by omega) _⟩)
   have HE8:=hid hW8
   clear hW8
   go_wp2_with fail
   rw[HE8.out]
   obtain ⟨gb,hgb⟩: ∃ gb,w8.heap.size=gb:=⟨_,rfl⟩
   rw[hgb] at H9 ⊢
   clear HE8 e8 e8a d7 e7 H8 H7 O47 O67 O7 PY hgb z8
   have hXv:=UA.out.vars
   have hXb:=UA.out.bs
   have EG:=hid (show ∀ j,X.f1 j≤1000000000 from fun j=>Nat.le_trans (UA.out.f1 j) (by omega))
   have AE:=hid (show ∀ j,X.f2 j≤1000000000 from fun j=>Nat.le_trans (UA.out.f2 j) (by omega))
   obtain ⟨T1,UB⟩: ∃ T1:Nat→Nat×List UInt8,Cl.DK sec nodes D=T1:=⟨_,rfl⟩
   have agH:=hid (show T1 0=(X.ct,[]) by rw[←UB, ←PZ.out];rfl)
   have agI:=hid (show ∀ j,T1 (j+1)=((T1 j).1+Bd (D.getD j 0),(T1 j).2++FY (Cl.tab nodes.length X.f1) ((V+1+j:Nat):Int) (D.getD j 0) 0) from fun j=>by rw[←UB, ←Ja.out, ←PZ.out];rfl)
   have mP:=hid (show ∀ j,j≤D.length→(T1 j).2.length≤136*j from fun j hj=>by
    rw[←UB]
    exact Cl.Vj _ _ _ _ j (fun q=>by rw[Cl.n1,PZ.out];exact Cl.L4 _ _ _ EG.out q) (by rw[Ja.out];omega))
   have bH:=hid UB
   clear UB
   go_loopw [72] (fun c wr=> ∃ (j:Nat) (vt:Value),j≤D.length∧c=.int .i64 j∧CR w (.slice aN nodes.length cN) (.slice aT D.length cT) X.vars (T1 j).1 (X.bs++(T1 j).2) vt D.length nodes.length V g1 g2 gb X.f1 X.f2 (.slice a1 (4*sec.length) c1) (.slice a2 (Cl.b2 sec).length c2) (.slice a3 D.length c3) (.slice a5 D.length c5) (.slice a7 D.length c7) (fun i=>if i<j then ⟨D.getD i 0,V+1+i,(T1 i).1+1,0,0,0,0⟩ else {}) wr) (fun c _=>D.length - (intOf c).toNat)
   case atStart=>exact ⟨0,vt8,Nat.zero_le _,rfl,by rw[agH.out];show CR _ _ _ _ _ (X.bs++[]) _ _ _ _ _ _ _ _ _ _ _ _ _ _ _ _;rw[List.append_nil];exact H9.out.congr (fun i _=>by simp)⟩
   case round=>
    clear H9
    obtain ⟨wo,rfl⟩: ∃ wo:World,wo=wr:=⟨wr,rfl⟩
    obtain ⟨j,vt,hj,rfl,hfw⟩:=hrel
    have XS:(j:Int)≤70:=by omega
    by_cases Bk:j<D.length
    ·obtain ⟨gT,cT',eT,_,hgT⟩:=Gu.out.form (by omega)
     cases eT
     have tc:=(hfw.A8.cell (p:=⟨gT,j,none⟩) hgT).trans (QR Gu.out j Bk)
     have UD:=HDN.out j Bk
     have J9:=hid (agI.out j)
     have Na:=mP.out j (by omega)
     have HDG:=hid (show D.getD j 0=D.getD j 0 from rfl)
     obtain ⟨dj,P_⟩: ∃ dj,D.getD j 0=dj:=⟨_,rfl⟩
     rw[P_] at tc UD J9
     have UE:=hid P_
     clear P_ HDG
     have hjD:(j:Int)<(D.length:Int):=by omega
     have bc:=hfw.bt.cell (i:=j*7) (by omega)
     have bf:=hfw.bt.frozen (j*7)
     have Ic:=hid hfw
     clear hfw
     go_upto_region 21 with fail
     obtain ⟨W,hW⟩: ∃ W:World,wo.setCell ⟨gb,j*7,none⟩ (.int .i64 dj)=W:=⟨_,rfl⟩
     rw[hW]
     have Fc:=hid (hW ▸ Ic.out.node j dj)
     clear hW bc bf tc
     obtain ⟨g3,c3',e3,_,hg3⟩:=Fc.out.o1.form (by omega)
     cases e3
     have HC:=hid (show Calls Tryz.prog 43 #[.pointer (some ⟨w.heap.size+3,0,none⟩),.int .i64 ((V+1+j:Nat):Int),.int .i64 dj,.agg #[.slice a1 (4*sec.length) c1,.slice (some ⟨g1,0,none⟩) nodes.length nodes.length,.slice (some ⟨g3,0,none⟩) D.length c3]] W.drew (fun e w'=>e=.returned (.agg #[.int .i64 ((V+1+j:Nat):Int),.int .i64 (((T1 j).1+1:Nat):Int)])∧ ∃ Al,CR w (.slice aN nodes.length cN) (.slice (some ⟨gT,0,none⟩) D.length cT) X.vars (T1 (j+1)).1 (X.bs++(T1 (j+1)).2) Al D.length nodes.length V g1 g2 gb X.f1 X.f2 (.slice a1 (4*sec.length) c1) (.slice a2 (Cl.b2 sec).length c2) (.slice (some ⟨g3,0,none⟩) D.length c3) (.slice a5 D.length c5) (.slice a7 D.length c7) (Dy (fun i=>if i<j then ⟨D.getD i 0,V+1+i,(T1 i).1+1,0,0,0,0⟩ else {}) j { (if j<j then ⟨D.getD j 0,V+1+j,(T1 j).1+1,0,0,0,0⟩ else {}:Cl.Bt) with node:=dj }) w') by
      have hn:=Fc.out.drew
      have c:=fZ hn.wt hn.A8.size (V+1+j) dj (by omega) a1 (some ⟨g1,0,none⟩) (some ⟨g3,0,none⟩) (4*sec.length) c1 nodes.length D.length c3 (Cl.tab nodes.length X.f1) (Vx hL hn.n1) (by rw[Cl.Gm];exact UD) (Cl.L4 _ _ _ EG.out _) (by rw[Cl.Gm];omega) (by rw[List.length_append];omega) (HT.out.on hn.A8)
      rw[Cl.Gm] at c
      refine c.mono ?_
      rintro e w' ⟨rfl,Al,h1,q1⟩
      refine ⟨rfl,Al,?_⟩
      rw[J9.out, ←List.append_assoc]
      exact hn.wrote h1 q1)
     have x0:=Fc.out.r1.cell (i:=0) (by omega)
     have x1:=Fc.out.r1.cell (i:=1) (by omega)
     have x2:=Fc.out.r1.cell (i:=2) (by omega)
     have x3:W.cell? ⟨g3,j,none⟩=some (.int .i64 ((V+1+j:Nat):Int)):=by
      rw[Fc.out.o1.cellAt j (by omega)]
      simp[BD,Bk]
     dsimp only[GV] at x0 x1 x2
     rw[if_pos rfl] at x0
     rw[if_neg (by decide),if_pos rfl] at x1
     rw[if_neg (by decide),if_neg (by decide)] at x2
     have Ma:=hid (show ∀ q,q<D.length→Dy (Dy (Dy (fun i=>if i<j then ⟨D.getD i 0,V+1+i,(T1 i).1+1,0,0,0,0⟩ else {}) j { (if j<j then ⟨D.getD j 0,V+1+j,(T1 j).1+1,0,0,0,0⟩ else {}:Cl.Bt) with node:=dj }) j { (Dy (fun i=>if i<j then ⟨D.getD i 0,V+1+i,(T1 i).1+1,0,0,0,0⟩ else {}) j { (if j<j then ⟨D.getD j 0,V+1+j,(T1 j).1+1,0,0,0,0⟩ else {}:Cl.Bt) with node:=dj } j) with v1:=V+1+j }) j { (Dy (fun i=>if i<j then ⟨D.getD i 0,V+1+i,(T1 i).1+1,0,0,0,0⟩ else {}) j { (if j<j then ⟨D.getD j 0,V+1+j,(T1 j).1+1,0,0,0,0⟩ else {}:Cl.Bt) with node:=dj } j) with v1:=V+1+j,c1:=(T1 j).1+1 } q=(if q<j+1 then ⟨D.getD q 0,V+1+q,(T1 q).1+1,0,0,0,0⟩ else {}) from fun q _=>by
      unfold Dy
      by_cases e:q=j
      ·subst e
       rw[←UE.out]
       simp
      ·simp only[e,if_false]
       by_cases e2:q<j
       ·rw[if_pos e2,if_pos (by omega)]
       ·rw[if_neg e2,if_neg (by omega)])
     go_wp2_with fail
     go_region_with (go_at_call 43;refine HC.out.mono ?_;rintro e w9 ⟨rfl,UG,FO⟩;have y1:=FO.bt.cell (i:=j*7+1) (by omega);have y2:=FO.bt.cell (i:=j*7+2) (by omega);have yf1:=FO.bt.frozen (j*7+1);have yf2:=FO.bt.frozen (j*7+2);have UH:=hid FO;clear FO)
     all_goals go_wp2_with fail
     all_goals go_roundw
     all_goals first
      |exact ⟨j+1,UG,by omega,by go_num,(UH.out.adN j (V+1+j) ((T1 j).1+1)).congr Ma.out⟩
      |(simp[intOf];omega)
    ·have HJE:=hid (show j=D.length by omega)
     rw[HJE.out] at hfw
     have UI:=hid hfw
     clear hfw
     have Na:=mP.out D.length (Nat.le_refl _)
     obtain ⟨Y,hY⟩: ∃ Y,T1 D.length=Y:=⟨_,rfl⟩
     rw[hY] at UI Na
     obtain ⟨T2,La⟩: ∃ T2:Nat→Nat×List UInt8,Cl.EB sec nodes D=T2:=⟨_,rfl⟩
     have agJ:=hid (show T2 0=(Y.1,[]) by rw[←La, ←hY, ←bH.out];rfl)
     have agK:=hid (show ∀ j,T2 (j+1)=((T2 j).1+Bd (D.getD j 0),(T2 j).2++FY (Cl.tab nodes.length X.f2) ((V+D.length+1+j:Nat):Int) (D.getD j 0) 0) from fun j=>by rw[←La, ←Ja.out, ←PZ.out];rfl)
     have mQ:=hid (show ∀ j,j≤D.length→(T2 j).2.length≤136*j from fun j hj=>by
      rw[←La]
      exact Cl.Vj _ _ _ _ j (fun q=>by rw[Cl.n2,PZ.out];exact Cl.L4 _ _ _ AE.out q) (by rw[Ja.out];omega))
     have bI:=hid La
     have HYE:=hid hY
     obtain ⟨Pb,Wj⟩: ∃ Pb,X.bs++Y.2=Pb:=⟨_,rfl⟩
     rw[Wj] at UI
     have alR:Pb.length≤500000000:=by rw[←Wj,List.length_append];omega
     have agL:=hid Wj
     have e10:=UI.out.db.cell (i:=1) (by omega)
     rw[show ∀ a b,E_ a b 1=b from fun _ _=>rfl] at e10
     clear La hY Wj
     go_wp2_with fail
     clear e10
     go_loopw [98] (fun c wr=> ∃ (j:Nat) (vt:Value),j≤D.length∧c=.int .i64 j∧CR w (.slice aN nodes.length cN) (.slice aT D.length cT) X.vars (T2 j).1 (Pb++(T2 j).2) vt D.length nodes.length V g1 g2 gb X.f1 X.f2 (.slice a1 (4*sec.length) c1) (.slice a2 (Cl.b2 sec).length c2) (.slice a3 D.length c3) (.slice a5 D.length c5) (.slice a7 D.length c7) (fun i=>if i<j then ⟨D.getD i 0,V+1+i,(T1 i).1+1,V+D.length+1+i,(T2 i).1+1,0,0⟩ else ⟨D.getD i 0,V+1+i,(T1 i).1+1,0,0,0,0⟩) wr) (fun c _=>D.length - (intOf c).toNat)
     case atStart=>exact ⟨0,_,Nat.zero_le _,rfl,by rw[agJ.out];show CR _ _ _ _ _ (Pb++[]) _ _ _ _ _ _ _ _ _ _ _ _ _ _ _ _;rw[List.append_nil];exact UI.out.congr (fun i hi=>by simp[hi])⟩
     case round=>
      clear UI
      obtain ⟨XT,rfl⟩: ∃ XT:World,XT=wr:=⟨wr,rfl⟩
      obtain ⟨q,vt,hq,rfl,hfw⟩:=hrel
      have Fg:(q:Int)≤70:=by omega
      by_cases Iw:q<D.length
      ·obtain ⟨gT,cT',eT,_,hgT⟩:=Gu.out.form (by omega)
       cases eT
       have tc:=(hfw.A8.cell (p:=⟨gT,q,none⟩) hgT).trans (QR Gu.out q Iw)
       have UD:=HDN.out q Iw
       have J9:=hid (agK.out q)
       have mU:=mQ.out q (by omega)
       obtain ⟨dj,P_⟩: ∃ dj,D.getD q 0=dj:=⟨_,rfl⟩
       rw[P_] at tc UD J9
       have UE:=hid P_
       clear P_
       have hqD:(q:Int)<(D.length:Int):=by omega
       have Fc:=hid hfw
       clear hfw
       go_upto_region 26 with fail
       clear tc
       obtain ⟨g3,c3',e3,_,hg3⟩:=Fc.out.o2.form (by omega)
       cases e3
       have HC:=hid (show Calls Tryz.prog 43 #[.pointer (some ⟨w.heap.size+3,0,none⟩),.int .i64 ((V+D.length+1+q:Nat):Int),.int .i64 dj,.agg #[.slice a2 (Cl.b2 sec).length c2,.slice (some ⟨g2,0,none⟩) nodes.length nodes.length,.slice (some ⟨g3,0,none⟩) D.length c5]] XT.drew (fun e w'=>e=.returned (.agg #[.int .i64 ((V+D.length+1+q:Nat):Int),.int .i64 (((T2 q).1+1:Nat):Int)])∧ ∃ Al,CR w (.slice aN nodes.length cN) (.slice (some ⟨gT,0,none⟩) D.length cT) X.vars (T2 (q+1)).1 (Pb++(T2 (q+1)).2) Al D.length nodes.length V g1 g2 gb X.f1 X.f2 (.slice a1 (4*sec.length) c1) (.slice a2 (Cl.b2 sec).length c2) (.slice a3 D.length c3) (.slice (some ⟨g3,0,none⟩) D.length c5) (.slice a7 D.length c7) (fun i=>if i<q then ⟨D.getD i 0,V+1+i,(T1 i).1+1,V+D.length+1+i,(T2 i).1+1,0,0⟩ else ⟨D.getD i 0,V+1+i,(T1 i).1+1,0,0,0,0⟩) w') by
        have hn:=Fc.out.drew
        have c:=fZ hn.wt hn.A8.size (V+D.length+1+q) dj (by omega) a2 (some ⟨g2,0,none⟩) (some ⟨g3,0,none⟩) (Cl.b2 sec).length c2 nodes.length D.length c5 (Cl.tab nodes.length X.f2) (Vx hL hn.n2) (by rw[Cl.Gm];exact UD) (Cl.L4 _ _ _ AE.out _) (by rw[Cl.Gm];omega) (by rw[List.length_append];omega) (HT.out.on hn.A8)
        rw[Cl.Gm] at c
        refine c.mono ?_
        rintro e w' ⟨rfl,Al,h1,q1⟩
        refine ⟨rfl,Al,?_⟩
        rw[J9.out, ←List.append_assoc]
        exact hn.wrote h1 q1)
       have x0:=Fc.out.r2.cell (i:=0) (by omega)
       have x1:=Fc.out.r2.cell (i:=1) (by omega)
       have x2:=Fc.out.r2.cell (i:=2) (by omega)
       have x3:XT.cell? ⟨g3,q,none⟩=some (.int .i64 ((V+D.length+1+q:Nat):Int)):=by
        rw[Fc.out.o2.cellAt q (by omega)]
        simp[BD,Iw]
       dsimp only[GV] at x0 x1 x2
       rw[if_pos rfl] at x0
       rw[if_neg (by decide),if_pos rfl] at x1
       rw[if_neg (by decide),if_neg (by decide)] at x2
       have Ma:=hid (show ∀ i,i<D.length→Dy (Dy (fun i=>if i<q then ⟨D.getD i 0,V+1+i,(T1 i).1+1,V+D.length+1+i,(T2 i).1+1,0,0⟩ else ⟨D.getD i 0,V+1+i,(T1 i).1+1,0,0,0,0⟩) q { (if q<q then ⟨D.getD q 0,V+1+q,(T1 q).1+1,V+D.length+1+q,(T2 q).1+1,0,0⟩ else ⟨D.getD q 0,V+1+q,(T1 q).1+1,0,0,0,0⟩:Cl.Bt) with v2:=V+D.length+1+q }) q { (if q<q then ⟨D.getD q 0,V+1+q,(T1 q).1+1,V+D.length+1+q,(T2 q).1+1,0,0⟩ else ⟨D.getD q 0,V+1+q,(T1 q).1+1,0,0,0,0⟩:Cl.Bt) with v2:=V+D.length+1+q,c2:=(T2 q).1+1 } i=(if i<q+1 then ⟨D.getD i 0,V+1+i,(T1 i).1+1,V+D.length+1+i,(T2 i).1+1,0,0⟩ else ⟨D.getD i 0,V+1+i,(T1 i).1+1,0,0,0,0⟩) from fun i _=>by
        unfold Dy
        by_cases e:i=q
        ·subst e
         simp
        ·simp only[e,if_false]
         by_cases e2:i<q
         ·rw[if_pos e2,if_pos (by omega)]
         ·rw[if_neg e2,if_neg (by omega)])
       go_wp2_with fail
       go_region_with (go_at_call 43;refine HC.out.mono ?_;rintro e w9 ⟨rfl,UG,FO⟩;have y1:=FO.bt.cell (i:=q*7+3) (by omega);have y2:=FO.bt.cell (i:=q*7+4) (by omega);have yf1:=FO.bt.frozen (q*7+3);have yf2:=FO.bt.frozen (q*7+4);have UH:=hid FO;clear FO)
       all_goals go_wp2_with fail
       all_goals go_roundw
       all_goals first
        |exact ⟨q+1,UG,by omega,by go_num,(UH.out.adP q (V+D.length+1+q) ((T2 q).1+1)).congr Ma.out⟩
        |(simp[intOf];omega)
      ·have HQE:=hid (show q=D.length by omega)
       rw[HQE.out] at hfw
       have XU:=hid hfw
       clear hfw
       have mU:=mQ.out D.length (Nat.le_refl _)
       obtain ⟨Z,hZ⟩: ∃ Z,T2 D.length=Z:=⟨_,rfl⟩
       rw[hZ] at XU mU
       have HZE:=hid hZ
       obtain ⟨Pd,Wk⟩: ∃ Pd,Pb++Z.2=Pd:=⟨_,rfl⟩
       rw[Wk] at XU
       have Dw:Pd.length≤500100000:=by rw[←Wk,List.length_append];omega
       have agM:=hid Wk
       clear Wk hZ
       go_wp2_with fail
       go_loopw [118] (fun c wr=> ∃ (q3:Nat) (vt:Value),q3≤D.length∧c=.int .i64 q3∧CR w (.slice aN nodes.length cN) (.slice aT D.length cT) X.vars (Z.1+4*q3) (Pd++Cl.Iy V D.length q3) vt D.length nodes.length V g1 g2 gb X.f1 X.f2 (.slice a1 (4*sec.length) c1) (.slice a2 (Cl.b2 sec).length c2) (.slice a3 D.length c3) (.slice a5 D.length c5) (.slice a7 D.length c7) (fun i=>if i<q3 then ⟨D.getD i 0,V+1+i,(T1 i).1+1,V+D.length+1+i,(T2 i).1+1,V+2*D.length+1+i,Z.1+4*i+1⟩ else ⟨D.getD i 0,V+1+i,(T1 i).1+1,V+D.length+1+i,(T2 i).1+1,0,0⟩) wr) (fun c _=>D.length - (intOf c).toNat)
       case atStart=>exact ⟨0,_,Nat.zero_le _,rfl,by show CR _ _ _ _ _ (Pd++[]) _ _ _ _ _ _ _ _ _ _ _ _ _ _ _ _;rw[List.append_nil];exact XU.out.congr (fun i hi=>by simp[hi])⟩
       case round=>
        clear XU
        obtain ⟨RJ,rfl⟩: ∃ RJ:World,RJ=wr:=⟨wr,rfl⟩
        obtain ⟨q3,vt,Hx,rfl,hfw⟩:=hrel
        have alW:(q3:Int)≤70:=by omega
        have Gw:=Cl.iC V D.length q3 (by omega)
        by_cases Om:q3<D.length
        ·obtain ⟨g7,c7',e7,_,hg7⟩:=hfw.o3.form (by omega)
         cases e7
         obtain ⟨g3,c3',e3,_,hg3⟩:=hfw.o1.form (by omega)
         cases e3
         obtain ⟨g5,c5',e5,_,hg5⟩:=hfw.o2.form (by omega)
         cases e5
         have tc:RJ.cell? ⟨g7,q3,none⟩=some (.int .i64 ((V+2*D.length+1+q3:Nat):Int)):=by
          rw[hfw.o3.cellAt q3 (by omega),show V+2*D.length+1+q3=V+D.length+D.length+1+q3 by omega]
          simp[BD,Om]
         have J9:=hid (show Cl.Iy V D.length (q3+1)=Cl.Iy V D.length q3++LJ (V+2*D.length+1+q3) (V+1+q3) (V+D.length+1+q3) from rfl)
         have hqD:(q3:Int)<(D.length:Int):=by omega
         have Fc:=hid hfw
         clear hfw
         go_upto_region 31 with fail
         clear tc
         have HC:=hid (show Calls Tryz.prog 44 #[.pointer (some ⟨w.heap.size+3,0,none⟩),.int .i64 ((V+2*D.length+1+q3:Nat):Int),.int .i64 ((V+1+q3:Nat):Int),.int .i64 ((V+D.length+1+q3:Nat):Int)] RJ.drew (fun e w'=>e=.returned (.agg #[.int .i64 ((V+2*D.length+1+q3:Nat):Int),.int .i64 ((Z.1+4*q3+1:Nat):Int)])∧ ∃ Al,CR w (.slice aN nodes.length cN) (.slice aT D.length cT) X.vars (Z.1+4*(q3+1)) (Pd++Cl.Iy V D.length (q3+1)) Al D.length nodes.length V g1 g2 gb X.f1 X.f2 (.slice a1 (4*sec.length) c1) (.slice a2 (Cl.b2 sec).length c2) (.slice (some ⟨g3,0,none⟩) D.length c3) (.slice (some ⟨g5,0,none⟩) D.length c5) (.slice (some ⟨g7,0,none⟩) D.length c7) (fun i=>if i<q3 then ⟨D.getD i 0,V+1+i,(T1 i).1+1,V+D.length+1+i,(T2 i).1+1,V+2*D.length+1+i,Z.1+4*i+1⟩ else ⟨D.getD i 0,V+1+i,(T1 i).1+1,V+D.length+1+i,(T2 i).1+1,0,0⟩) w') by
          have hn:=Fc.out.drew
          have c:=wK hn.wt hn.A8.size (V+2*D.length+1+q3) (V+1+q3) (V+D.length+1+q3) (by omega) (by omega) (by omega) (by rw[List.length_append];omega) (HT.out.on hn.A8)
          refine c.mono ?_
          rintro e w' ⟨rfl,Al,h1,q1⟩
          refine ⟨rfl,Al,?_⟩
          rw[J9.out, ←List.append_assoc,show Z.1+4*(q3+1)=Z.1+4*q3+4 by omega]
          exact hn.wrote h1 q1)
         have x2:=Fc.out.r1.cell (i:=2) (by omega)
         have z2:=Fc.out.r2.cell (i:=2) (by omega)
         have x3:RJ.cell? ⟨g3,q3,none⟩=some (.int .i64 ((V+1+q3:Nat):Int)):=by
          rw[Fc.out.o1.cellAt q3 (by omega)]
          simp[BD,Om]
         have z3:RJ.cell? ⟨g5,q3,none⟩=some (.int .i64 ((V+D.length+1+q3:Nat):Int)):=by
          rw[Fc.out.o2.cellAt q3 (by omega)]
          simp[BD,Om]
         dsimp only[GV] at x2 z2
         rw[if_neg (by decide),if_neg (by decide)] at x2 z2
         have Ma:=hid (show ∀ i,i<D.length→Dy (Dy (fun i=>if i<q3 then ⟨D.getD i 0,V+1+i,(T1 i).1+1,V+D.length+1+i,(T2 i).1+1,V+2*D.length+1+i,Z.1+4*i+1⟩ else ⟨D.getD i 0,V+1+i,(T1 i).1+1,V+D.length+1+i,(T2 i).1+1,0,0⟩) q3 { (if q3<q3 then ⟨D.getD q3 0,V+1+q3,(T1 q3).1+1,V+D.length+1+q3,(T2 q3).1+1,V+2*D.length+1+q3,Z.1+4*q3+1⟩ else ⟨D.getD q3 0,V+1+q3,(T1 q3).1+1,V+D.length+1+q3,(T2 q3).1+1,0,0⟩:Cl.Bt) with vd:=V+2*D.length+1+q3 }) q3 { (if q3<q3 then ⟨D.getD q3 0,V+1+q3,(T1 q3).1+1,V+D.length+1+q3,(T2 q3).1+1,V+2*D.length+1+q3,Z.1+4*q3+1⟩ else ⟨D.getD q3 0,V+1+q3,(T1 q3).1+1,V+D.length+1+q3,(T2 q3).1+1,0,0⟩:Cl.Bt) with vd:=V+2*D.length+1+q3,cd:=Z.1+4*q3+1 } i=(if i<q3+1 then ⟨D.getD i 0,V+1+i,(T1 i).1+1,V+D.length+1+i,(T2 i).1+1,V+2*D.length+1+i,Z.1+4*i+1⟩ else ⟨D.getD i 0,V+1+i,(T1 i).1+1,V+D.length+1+i,(T2 i).1+1,0,0⟩) from fun i _=>by
          unfold Dy
          by_cases e:i=q3
          ·subst e
           simp
          ·simp only[e,if_false]
           by_cases e2:i<q3
           ·rw[if_pos e2,if_pos (by omega)]
           ·rw[if_neg e2,if_neg (by omega)])
         go_wp2_with fail
         go_region_with (go_at_call 44;refine HC.out.mono ?_;rintro e w9 ⟨rfl,UG,FO⟩;have y1:=FO.bt.cell (i:=q3*7+5) (by omega);have y2:=FO.bt.cell (i:=q3*7+6) (by omega);have yf1:=FO.bt.frozen (q3*7+5);have yf2:=FO.bt.frozen (q3*7+6);have UH:=hid FO;clear FO)
         all_goals go_wp2_with fail
         all_goals go_roundw
         all_goals first
          |exact ⟨q3+1,UG,by omega,by go_num,(UH.out.ada q3 (V+2*D.length+1+q3) (Z.1+4*q3+1)).congr Ma.out⟩
          |(simp[intOf];omega)
        ·have RL:=hid (show q3=D.length by omega)
         rw[RL.out] at hfw Gw
         have Pe:=hid hfw
         clear hfw
         obtain ⟨XV,Wl⟩: ∃ XV,Pd++Cl.Iy V D.length D.length=XV:=⟨_,rfl⟩
         rw[Wl] at Pe
         have ala:XV.length≤500200000:=by rw[←Wl,List.length_append];omega
         have agO:=hid Wl
         clear Wl
         have C:=hid (wI Pe.out.wt Pe.out.A8.size a7 c7 (BD (V+D.length+D.length) D.length) (by rw[Jl];exact Br Pe.out.o3 (Nat.zero_le _)) (fun i=>Nat.le_trans (Cl.S8 _ _ _) (by omega)) (by rw[Jl];omega) (by omega) (HT.out.on Pe.out.A8))
         rw[Jl] at C
         go_wp2_with (go_at_call 45;refine C.out.mono ?_;rintro e w13 ⟨rfl,alb,h13,f13⟩;have GI:=hid (Pe.out.wrote h13 f13);clear h13 f13;refine Hid.out ?_)
         refine hid ?_
         obtain ⟨UJ,Wm⟩: ∃ UJ,XV++Gn (BD (V+D.length+D.length) D.length) D.length++[48,10]=UJ:=⟨_,rfl⟩
         rw[Wm] at GI
         have mV:UJ≠[]:=by rw[←Wm];simp
         have Fl:=hid (show FM.vars=X.vars by rw[←Md.out];exact congrArg Cl.Ns.vars PZ.out)
         have Ea:=hid (show FM.ct=Z.1+4*D.length+1 by rw[←Md.out, ←HZE.out, ←bI.out];rfl)
         have Fp:=hid (show FM.bs=UJ by
          rw[←Wm, ←agO.out, ←agM.out, ←agL.out, ←HZE.out, ←HYE.out, ←bI.out, ←bH.out, ←PZ.out, ←Ja.out, ←Md.out,show Cl.AK sec+D.length+D.length=Cl.AK sec+2*D.length by omega]
          rfl)
         have Fq:=hid (show FM.bits=(List.range D.length).map (fun i=>if i<D.length then ⟨D.getD i 0,V+1+i,(T1 i).1+1,V+D.length+1+i,(T2 i).1+1,V+2*D.length+1+i,Z.1+4*i+1⟩ else ⟨D.getD i 0,V+1+i,(T1 i).1+1,V+D.length+1+i,(T2 i).1+1,0,0⟩) by
          rw[←Md.out]
          refine List.map_congr_left (fun i hi=>?_)
          rw[if_pos (List.mem_range.1 hi), ←HZE.out, ←bI.out, ←bH.out, ←Ja.out]
          rfl)
         have RN:=hid GI.out.bt
         have Nr:=hid GI.out.fb
         have AV:=hid GI.out.A8
         obtain ⟨at5,ct5,et5⟩:=AX GI.out.wt.own
         subst et5
         have c0:=GI.out.wt.c0
         have c1':=GI.out.wt.c1
         have c2':=GI.out.wt.c2
         have hcv:=fg GI.out.wt.own mV
         have s0:=GI.out.fb.cell (i:=0) (by omega)
         have s1:=GI.out.fb.cell (i:=1) (by omega)
         have s2:=GI.out.fb.cell (i:=2) (by omega)
         have s3:=GI.out.fb.cell (i:=3) (by omega)
         have sf0:=GI.out.fb.frozen 0
         have sf1:=GI.out.fb.frozen 1
         have sf2:=GI.out.fb.frozen 2
         have sf3:=GI.out.fb.frozen 3
         dsimp only[Nk] at s0 s1 s2 s3
         clear GI Pe C Wm mV
         go_wp2_with fail
         refine bodyPost_ret (v:=.agg #[.int .i64 X.vars,.int .i64 ((Z.1:Int)+4*D.length+1),.string ⟨UJ.toArray⟩,.slice (some ⟨gb,0,none⟩) D.length D.length]) (by simp[results,Tryz.results18,go_sem,s0,s1,s2,s3]) rfl ⟨.slice (some ⟨gb,0,none⟩) D.length D.length,?_,?_,?_⟩
         ·rw[Fl.out,Ea.out,Fp.out]
          rfl
         ·rw[Fq.out]
          have ne:gb≠w.heap.size+2:=Cj RN.out Nr.out (by decide)
          exact wN (by omega) ((((RN.out.setOther ne _).setOther ne _).setOther ne _).setOther ne _)
         ·exact (((AV.out.setCell (p:=⟨w.heap.size+2,0,none⟩) (by show w.heap.size≤w.heap.size+2;omega) _).setCell (p:=⟨w.heap.size+2,1,none⟩) (by show w.heap.size≤w.heap.size+2;omega) _).setCell (p:=⟨w.heap.size+2,2,none⟩) (by show w.heap.size≤w.heap.size+2;omega) _).setCell (p:=⟨w.heap.size+2,3,none⟩) (by show w.heap.size≤w.heap.size+2;omega) _
end
end Go.Proofs.YtgddmpmcnjlcjaaGreatDoor
