import Derived.Test.YtgddmpmcnjlcjaaGreatDoorB13
set_option maxRecDepth 100000
set_option maxHeartbeats 2000000
namespace Go.Proofs.YtgddmpmcnjlcjaaGreatDoor
open Go.RowKit
set_option linter.unusedVariables false
theorem eI (m:Mc.M) (b:Nat) (w:World) (vs vk:Value) (nv:Int) (g cp:Nat) (cs:List Nat) (s:Lk.St) (i v:Nat) (hr:w.rowIs b 162 17 (Av m)) (hc: ∀ j,j<cs.length→w.cell? ⟨g,j,none⟩=some (.int .i64 (cs.getD j 0))) (hl:cs.length≤2) (hle: ∀ j,j<cs.length→cs.getD j 0≤4) (ha:s.arr<cs.length) (hk:s.kind=1∨s.kind=2) (hs:s.slot<7):
  Calls Tryz.prog 108 #[.pointer (some ⟨b,0,none⟩),.agg #[vs,.int .i64 nv,.slice (some ⟨g,0,none⟩) cs.length cp,vk],WS s,.int .i64 i,.int .i64 v] w fun e w'=>WT w w' b e (Mc.access m cs s i v):=by
 unfold Mc.access
 cases hh:Mc.has cs s.arr i with
 |false=>rw[if_neg (by simp)];exact oV m b w vs vk nv g cp cs s i v hr hc hl hle ha hh
 |true=>
  rw[if_pos rfl]
  rcases hk with hk|hk
  ·rw[if_neg (by omega)];exact oW m b w vs vk nv g cp cs s i v hr hc hl hle ha hh hk hs
  ·rw[if_pos hk];exact o8 m b w vs vk nv g cp cs s i v hr hc hl hle ha hh hk
section
variable (m:Mc.M) (b:Nat) (w:World) (vs vc:Value) (nv:Int)
theorem oZ (gk ck:Nat) (code:List Lk.St) (s:Lk.St) (hr:w.rowIs b 162 17 (Av m)) (ht:m.trap=false) (hn:m.at_<code.length)
  (hcell: ∀ k,k<10→w.cell? ⟨gk,m.at_*10+k,none⟩=(AZ s)[k]?) (ES:s.a.named=true→s.a.val<7) (ET:s.b.named=true→s.b.val<7) (hk:s.kind=0) (hv:s.op≤10∧Mc.value { m with at_:=s.next } s.a<16∧Mc.value { m with at_:=s.next } s.b<16∧s.slot<7):
  Calls Tryz.prog 82 #[.pointer (some ⟨b,0,none⟩),.agg #[vs,.int .i64 nv,vc,.slice (some ⟨gk,0,none⟩) code.length ck]] w fun e w'=>L9 w w' b e 0 (Mc.put { m with at_:=s.next } s.slot (Mc.apply s.op (Mc.value { m with at_:=s.next } s.a) (Mc.value { m with at_:=s.next } s.b))):=by
 have HK:=hid hk
 have I0:=hid ES
 have I3:=hid ET
 have HV:=hid hv
 clear hk ES ET hv
 have c16:=hr.cell (i:=16) (by omega)
 rw[show Av m 16=.bool m.trap from rfl,ht] at c16
 clear ht
 have c15:=hr.cell (i:=15) (by omega)
 rw[show Av m 15=.int .i64 m.at_ from rfl] at c15
 have hlt:=hr.lt
 have G5:gk<w.heap.size:=by
  have:=hcell 0 (by omega)
  exact World.block_lt_of_cell? w ⟨gk,m.at_*10+0,none⟩ this
 have hd:decide ((m.at_:Int)<0)=false:=by simp
 have hd2:decide ((code.length:Int)≤(m.at_:Int))=false:=by simp;omega
 have Fj:(m.at_:Int)<(code.length:Int):=by omega
 have x0:=hcell 0 (by omega)
 have x1:=hcell 1 (by omega)
 have x2:=hcell 2 (by omega)
 have x3:=hcell 3 (by omega)
 have x4:=hcell 4 (by omega)
 have x5:=hcell 5 (by omega)
 have x6:=hcell 6 (by omega)
 have x7:=hcell 7 (by omega)
 have x8:=hcell 8 (by omega)
 have x9:=hcell 9 (by omega)
 simp[AZ] at x0 x1 x2 x3 x4 x5 x6 x7 x8 x9
 have HR:=hid hr
 clear hr hcell
 go_enter Tryz.func82,Tryz.ntmps82
 go_wp2_with fail
 go_quiet (fail)
 go_wp2_with fail
 go_cut [5] (fun v5 wc=>v5=.pointer (some ⟨w.heap.size+1,0,none⟩)∧MW w wc b m vs vc nv (.slice (some ⟨gk,0,none⟩) code.length ck) s)
 case first=>
  go_region
  all_goals go_wp2_with fail
  all_goals go_meet
  all_goals exact ⟨rfl,N8 HR.out vs vc _ nv s _⟩
 case rest=>
  clear x0 x1 x2 x3 x4 x5 x6 x7 x8 x9 c15 c16
  obtain ⟨e5,AW⟩:=hcut
  subst e5
  have PE:=AW.row.lt
  have PG:=AW.st.lt
  have sc:=AW.A8.size
  have c15:=AW.row.cell (i:=15) (by omega)
  have f15:=AW.row.frozen 15
  have y4:=AW.st.cell (i:=4) (by omega)
  have y5:=AW.st.cell (i:=5) (by omega)
  have y6:=AW.st.cell (i:=6) (by omega)
  have y7:=AW.st.cell (i:=7) (by omega)
  have y8:=AW.st.cell (i:=8) (by omega)
  simp[AZ] at y4 y5 y6 y7 y8
  have hbs:b≠w.heap.size+1:=by omega
  have G_:=hid AW
  have RM:=(AW.row.set 15 (.int .i64 s.next)).congr (fun j hj=>Kp m s.next j hj)
  have SM:=AW.st.setOther (a:=⟨b,15,none⟩) (by show w.heap.size+1≠b;omega) (.int .i64 s.next)
  have Cv:=hid RM
  have E0:=hid SM
  clear AW RM SM
  have hk3:((s.kind:Int)==3)=false:=by (have:=HK.out;simp;omega)
  have hk4:((s.kind:Int)==4)=false:=by (have:=HK.out;simp;omega)
  have PH:((s.kind:Int)==5)=false:=by (have:=HK.out;simp;omega)
  have hk1:((s.kind:Int)==1)=false:=by (have:=HK.out;simp;omega)
  have hk2:((s.kind:Int)==2)=false:=by (have:=HK.out;simp;omega)
  go_wp2_with (first
   |(go_at_call 107;refine (Gk { m with at_:=s.next } b s.a _ Cv.out I0.out).mono ?_;rintro e wa ⟨rfl,BL⟩;have Dk:=hid BL;have za:=BL.size;simp at za;have EU:=hid (Cv.out.of_block (BL.block b (by simp;omega)));have Cw:=hid (E0.out.of_block (BL.block _ (by simp;omega)));have q6:=Cw.out.cell (i:=6) (by omega);have q7:=Cw.out.cell (i:=7) (by omega);simp[AZ] at q6 q7;clear BL Cv E0)
   |(go_at_call 107;refine (Gk { m with at_:=s.next } b s.b _ EU.out I3.out).mono ?_;rintro e wb ⟨rfl,hbb⟩;have CK:=hid hbb;have zb:=hbb.size;have FL:=hid (EU.out.of_block (hbb.block b (by omega)));have Bv:=hid (Cw.out.of_block (hbb.block _ (by omega)));have s0:=Bv.out.cell (i:=0) (by omega);have s1:=Bv.out.cell (i:=1) (by omega);have s2:=Bv.out.cell (i:=2) (by omega);simp[AZ] at s0 s1 s2;clear hbb)
   |(go_at_call 109;refine (rX s.op (Mc.value { m with at_:=s.next } s.a) (Mc.value { m with at_:=s.next } s.b) _ HV.out.1 HV.out.2.1 HV.out.2.2.1).mono ?_;rintro e w0 ⟨rfl,hw0⟩;have hw1:=hw0.symm;subst hw1)
   |(go_at_call 81;refine (Yd { m with at_:=s.next } b s.slot (Mc.apply s.op (Mc.value { m with at_:=s.next } s.a) (Mc.value { m with at_:=s.next } s.b)) _ FL.out HV.out.2.2.2).mono ?_;rintro e w2 ⟨rfl,hw2⟩;have CO:=hid hw2;subst hw2)
   |(go_at_call 106;refine (Kt 0 0 _ (by omega) (by omega)).mono ?_;rintro e w0 ⟨rfl,hw0⟩;have hw1:=hw0.symm;subst hw1))
  go_ret
  exact ⟨rfl,(FL.out.set s.slot _).congr (fun j hj=>YK { m with at_:=s.next } s.slot _ HV.out.2.2.2 j hj),A9.setCell (p:=⟨b,s.slot,none⟩) (((A9.setCell (p:=⟨b,15,none⟩) (A9.Ap (S:=fun k=>k=b) (base:=0) G_.out.A8 (Nat.zero_le _)) (Nat.zero_le _) rfl (.int .i64 s.next)).trans (A9.Ap (S:=fun k=>k=b) (base:=0) Dk.out (Nat.zero_le _)) (fun _ _ e=>e)).trans (A9.Ap (S:=fun k=>k=b) (base:=0) CK.out (Nat.zero_le _)) (fun _ _ e=>e)) (Nat.zero_le _) rfl _⟩
end
section
variable (m:Mc.M) (b:Nat) (w:World) (vs vc:Value) (nv:Int)
theorem rq (gk ck:Nat) (code:List Lk.St) (s:Lk.St) (hr:w.rowIs b 162 17 (Av m)) (ht:m.trap=false) (hn:m.at_<code.length)
  (hcell: ∀ k,k<10→w.cell? ⟨gk,m.at_*10+k,none⟩=(AZ s)[k]?) (ES:s.a.named=true→s.a.val<7) (ET:s.b.named=true→s.b.val<7) (g cp:Nat) (cs:List Nat) (KH:vc=.slice (some ⟨g,0,none⟩) cs.length cp) (hc: ∀ j,j<cs.length→w.cell? ⟨g,j,none⟩=some (.int .i64 (cs.getD j 0))) (hl:cs.length≤2) (hle: ∀ j,j<cs.length→cs.getD j 0≤4) (ha:s.arr<cs.length) (hgb:g≠b) (R7:s.slot<7) (hk:s.kind=1) (hv:Mc.value { m with at_:=s.next } s.a<16):
  Calls Tryz.prog 82 #[.pointer (some ⟨b,0,none⟩),.agg #[vs,.int .i64 nv,vc,.slice (some ⟨gk,0,none⟩) code.length ck]] w fun e w'=>L9 w w' b e (32+(Mc.value { m with at_:=s.next } s.a)) (Mc.access { m with at_:=s.next } cs s (Mc.value { m with at_:=s.next } s.a) (Mc.value { m with at_:=s.next } s.b)):=by
 subst KH
 have HC:=hid hc
 have HE:=hid hle
 clear hc hle
 have HK:=hid hk
 have I0:=hid ES
 have I3:=hid ET
 have HV:=hid hv
 clear hk ES ET hv
 have c16:=hr.cell (i:=16) (by omega)
 rw[show Av m 16=.bool m.trap from rfl,ht] at c16
 clear ht
 have c15:=hr.cell (i:=15) (by omega)
 rw[show Av m 15=.int .i64 m.at_ from rfl] at c15
 have hlt:=hr.lt
 have G5:gk<w.heap.size:=by
  have:=hcell 0 (by omega)
  exact World.block_lt_of_cell? w ⟨gk,m.at_*10+0,none⟩ this
 have hd:decide ((m.at_:Int)<0)=false:=by simp
 have hd2:decide ((code.length:Int)≤(m.at_:Int))=false:=by simp;omega
 have Fj:(m.at_:Int)<(code.length:Int):=by omega
 have x0:=hcell 0 (by omega)
 have x1:=hcell 1 (by omega)
 have x2:=hcell 2 (by omega)
 have x3:=hcell 3 (by omega)
 have x4:=hcell 4 (by omega)
 have x5:=hcell 5 (by omega)
 have x6:=hcell 6 (by omega)
 have x7:=hcell 7 (by omega)
 have x8:=hcell 8 (by omega)
 have x9:=hcell 9 (by omega)
 simp[AZ] at x0 x1 x2 x3 x4 x5 x6 x7 x8 x9
 have HR:=hid hr
 clear hr hcell
 go_enter Tryz.func82,Tryz.ntmps82
 go_wp2_with fail
 go_quiet (fail)
 go_wp2_with fail
 go_cut [5] (fun v5 wc=>v5=.pointer (some ⟨w.heap.size+1,0,none⟩)∧MW w wc b m vs (.slice (some ⟨g,0,none⟩) cs.length cp) nv (.slice (some ⟨gk,0,none⟩) code.length ck) s)
 case first=>
  go_region
  all_goals go_wp2_with fail
  all_goals go_meet
  all_goals exact ⟨rfl,N8 HR.out vs _ _ nv s _⟩
 case rest=>
  clear x0 x1 x2 x3 x4 x5 x6 x7 x8 x9 c15 c16
  obtain ⟨e5,AW⟩:=hcut
  subst e5
  have PE:=AW.row.lt
  have PG:=AW.st.lt
  have sc:=AW.A8.size
  have c15:=AW.row.cell (i:=15) (by omega)
  have f15:=AW.row.frozen 15
  have y4:=AW.st.cell (i:=4) (by omega)
  have y5:=AW.st.cell (i:=5) (by omega)
  have y6:=AW.st.cell (i:=6) (by omega)
  have y7:=AW.st.cell (i:=7) (by omega)
  have y8:=AW.st.cell (i:=8) (by omega)
  simp[AZ] at y4 y5 y6 y7 y8
  have hbs:b≠w.heap.size+1:=by omega
  have G_:=hid AW
  have RM:=(AW.row.set 15 (.int .i64 s.next)).congr (fun j hj=>Kp m s.next j hj)
  have SM:=AW.st.setOther (a:=⟨b,15,none⟩) (by show w.heap.size+1≠b;omega) (.int .i64 s.next)
  have Cv:=hid RM
  have E0:=hid SM
  have PM:=AW.pr.setOther (a:=⟨b,15,none⟩) (by show w.heap.size≠b;omega) (.int .i64 s.next)
  have dE:=hid PM
  clear AW RM SM PM
  have Tf:=hid (show s.kind=1∨s.kind=2 from .inl HK.out)
  have hk3:((s.kind:Int)==3)=false:=by (have:=HK.out;simp;omega)
  have hk4:((s.kind:Int)==4)=false:=by (have:=HK.out;simp;omega)
  have PH:((s.kind:Int)==5)=false:=by (have:=HK.out;simp;omega)
  have hk1:((s.kind:Int)==1)=true:=by (have:=HK.out;simp;omega)
  go_wp2_with (first
   |(go_at_call 107;refine (Gk { m with at_:=s.next } b s.a _ Cv.out I0.out).mono ?_;rintro e wa ⟨rfl,BL⟩;have Dk:=hid BL;have za:=BL.size;simp at za;have EU:=hid (Cv.out.of_block (BL.block b (by simp;omega)));have Cw:=hid (E0.out.of_block (BL.block _ (by simp;omega)));have q6:=Cw.out.cell (i:=6) (by omega);have q7:=Cw.out.cell (i:=7) (by omega);simp[AZ] at q6 q7;clear BL Cv E0)
   |(go_at_call 107;refine (Gk { m with at_:=s.next } b s.b _ EU.out I3.out).mono ?_;rintro e wb ⟨rfl,hbb⟩;have CK:=hid hbb;have zb:=hbb.size;have FL:=hid (EU.out.of_block (hbb.block b (by omega)));have Bv:=hid (Cw.out.of_block (hbb.block _ (by omega)));have s0:=Bv.out.cell (i:=0) (by omega);have s1:=Bv.out.cell (i:=1) (by omega);have s2:=Bv.out.cell (i:=2) (by omega);have s3:=Bv.out.cell (i:=3) (by omega);have s4:=Bv.out.cell (i:=4) (by omega);have s5:=Bv.out.cell (i:=5) (by omega);have s6:=Bv.out.cell (i:=6) (by omega);have s7:=Bv.out.cell (i:=7) (by omega);have s8:=Bv.out.cell (i:=8) (by omega);have s9:=Bv.out.cell (i:=9) (by omega);simp[AZ] at s0 s1 s2 s3 s4 s5 s6 s7 s8 s9;have FN:=hid ((dE.out.of_block (Dk.out.block _ (by simp;omega))).of_block (hbb.block _ (by omega)));have p0:=FN.out.cell (i:=0) (by omega);have p1:=FN.out.cell (i:=1) (by omega);have p2:=FN.out.cell (i:=2) (by omega);have p3:=FN.out.cell (i:=3) (by omega);simp at p0 p1 p2 p3;have dG:=hid (fun j (hj:j<cs.length)=>A9.cell (((A9.setCell (p:=⟨b,15,none⟩) (A9.Ap (S:=fun k=>k=b) (base:=0) G_.out.A8 (Nat.zero_le _)) (Nat.zero_le _) rfl (.int .i64 s.next)).trans (A9.Ap (S:=fun k=>k=b) (base:=0) Dk.out (Nat.zero_le _)) (fun _ _ e=>e)).trans (A9.Ap (S:=fun k=>k=b) (base:=0) CK.out (Nat.zero_le _)) (fun _ _ e=>e)) (HC.out j hj) (fun e=>hgb e));clear hbb)
   |(go_at_call 108;refine (eI { m with at_:=s.next } b _ vs _ nv g cp cs s (Mc.value { m with at_:=s.next } s.a) (Mc.value { m with at_:=s.next } s.b) FL.out dG.out hl HE.out ha Tf.out R7).mono ?_;rintro e w3 ⟨rfl,hr3,Sw⟩;have E3:=hid hr3;have Bp:=hid Sw;clear hr3 Sw)
   |(go_at_call 106;refine (Kt 2 (Mc.value { m with at_:=s.next } s.a) _ (by omega) HV.out).mono ?_;rintro e w0 ⟨rfl,hw0⟩;have hw1:=hw0.symm;subst hw1))
  go_ret
  exact ⟨congrArg (fun z=>Ending.returned (Value.int .i64 z)) (by omega),E3.out,(((A9.setCell (p:=⟨b,15,none⟩) (A9.Ap (S:=fun k=>k=b) (base:=0) G_.out.A8 (Nat.zero_le _)) (Nat.zero_le _) rfl (.int .i64 s.next)).trans (A9.Ap (S:=fun k=>k=b) (base:=0) Dk.out (Nat.zero_le _)) (fun _ _ e=>e)).trans (A9.Ap (S:=fun k=>k=b) (base:=0) CK.out (Nat.zero_le _)) (fun _ _ e=>e)).trans Bp.out (fun _ _ e=>e)⟩
theorem qJ (gk ck:Nat) (code:List Lk.St) (s:Lk.St) (hr:w.rowIs b 162 17 (Av m)) (ht:m.trap=false) (hn:m.at_<code.length)
  (hcell: ∀ k,k<10→w.cell? ⟨gk,m.at_*10+k,none⟩=(AZ s)[k]?) (ES:s.a.named=true→s.a.val<7) (ET:s.b.named=true→s.b.val<7) (g cp:Nat) (cs:List Nat) (KH:vc=.slice (some ⟨g,0,none⟩) cs.length cp) (hc: ∀ j,j<cs.length→w.cell? ⟨g,j,none⟩=some (.int .i64 (cs.getD j 0))) (hl:cs.length≤2) (hle: ∀ j,j<cs.length→cs.getD j 0≤4) (ha:s.arr<cs.length) (hgb:g≠b) (R7:s.slot<7) (hk:s.kind=2) (hv:Mc.value { m with at_:=s.next } s.a<16):
  Calls Tryz.prog 82 #[.pointer (some ⟨b,0,none⟩),.agg #[vs,.int .i64 nv,vc,.slice (some ⟨gk,0,none⟩) code.length ck]] w fun e w'=>L9 w w' b e (32+(Mc.value { m with at_:=s.next } s.a)) (Mc.access { m with at_:=s.next } cs s (Mc.value { m with at_:=s.next } s.a) (Mc.value { m with at_:=s.next } s.b)):=by
 subst KH
 have HC:=hid hc
 have HE:=hid hle
 clear hc hle
 have HK:=hid hk
 have I0:=hid ES
 have I3:=hid ET
 have HV:=hid hv
 clear hk ES ET hv
 have c16:=hr.cell (i:=16) (by omega)
 rw[show Av m 16=.bool m.trap from rfl,ht] at c16
 clear ht
 have c15:=hr.cell (i:=15) (by omega)
 rw[show Av m 15=.int .i64 m.at_ from rfl] at c15
 have hlt:=hr.lt
 have G5:gk<w.heap.size:=by
  have:=hcell 0 (by omega)
  exact World.block_lt_of_cell? w ⟨gk,m.at_*10+0,none⟩ this
 have hd:decide ((m.at_:Int)<0)=false:=by simp
 have hd2:decide ((code.length:Int)≤(m.at_:Int))=false:=by simp;omega
 have Fj:(m.at_:Int)<(code.length:Int):=by omega
 have x0:=hcell 0 (by omega)
 have x1:=hcell 1 (by omega)
 have x2:=hcell 2 (by omega)
 have x3:=hcell 3 (by omega)
 have x4:=hcell 4 (by omega)
 have x5:=hcell 5 (by omega)
 have x6:=hcell 6 (by omega)
 have x7:=hcell 7 (by omega)
 have x8:=hcell 8 (by omega)
 have x9:=hcell 9 (by omega)
 simp[AZ] at x0 x1 x2 x3 x4 x5 x6 x7 x8 x9
 have HR:=hid hr
 clear hr hcell
 go_enter Tryz.func82,Tryz.ntmps82
 go_wp2_with fail
 go_quiet (fail)
 go_wp2_with fail
 go_cut [5] (fun v5 wc=>v5=.pointer (some ⟨w.heap.size+1,0,none⟩)∧MW w wc b m vs (.slice (some ⟨g,0,none⟩) cs.length cp) nv (.slice (some ⟨gk,0,none⟩) code.length ck) s)
 case first=>
  go_region
  all_goals go_wp2_with fail
  all_goals go_meet
  all_goals exact ⟨rfl,N8 HR.out vs _ _ nv s _⟩
 case rest=>
  clear x0 x1 x2 x3 x4 x5 x6 x7 x8 x9 c15 c16
  obtain ⟨e5,AW⟩:=hcut
  subst e5
  have PE:=AW.row.lt
  have PG:=AW.st.lt
  have sc:=AW.A8.size
  have c15:=AW.row.cell (i:=15) (by omega)
  have f15:=AW.row.frozen 15
  have y4:=AW.st.cell (i:=4) (by omega)
  have y5:=AW.st.cell (i:=5) (by omega)
  have y6:=AW.st.cell (i:=6) (by omega)
  have y7:=AW.st.cell (i:=7) (by omega)
  have y8:=AW.st.cell (i:=8) (by omega)
  simp[AZ] at y4 y5 y6 y7 y8
  have hbs:b≠w.heap.size+1:=by omega
  have G_:=hid AW
  have RM:=(AW.row.set 15 (.int .i64 s.next)).congr (fun j hj=>Kp m s.next j hj)
  have SM:=AW.st.setOther (a:=⟨b,15,none⟩) (by show w.heap.size+1≠b;omega) (.int .i64 s.next)
  have Cv:=hid RM
  have E0:=hid SM
  have PM:=AW.pr.setOther (a:=⟨b,15,none⟩) (by show w.heap.size≠b;omega) (.int .i64 s.next)
  have dE:=hid PM
  clear AW RM SM PM
  have Tf:=hid (show s.kind=1∨s.kind=2 from .inr HK.out)
  have hk3:((s.kind:Int)==3)=false:=by (have:=HK.out;simp;omega)
  have hk4:((s.kind:Int)==4)=false:=by (have:=HK.out;simp;omega)
  have PH:((s.kind:Int)==5)=false:=by (have:=HK.out;simp;omega)
  have hk1:((s.kind:Int)==1)=false:=by (have:=HK.out;simp;omega)
  have hk2:((s.kind:Int)==2)=true:=by (have:=HK.out;simp;omega)
  go_wp2_with (first
   |(go_at_call 107;refine (Gk { m with at_:=s.next } b s.a _ Cv.out I0.out).mono ?_;rintro e wa ⟨rfl,BL⟩;have Dk:=hid BL;have za:=BL.size;simp at za;have EU:=hid (Cv.out.of_block (BL.block b (by simp;omega)));have Cw:=hid (E0.out.of_block (BL.block _ (by simp;omega)));have q6:=Cw.out.cell (i:=6) (by omega);have q7:=Cw.out.cell (i:=7) (by omega);simp[AZ] at q6 q7;clear BL Cv E0)
   |(go_at_call 107;refine (Gk { m with at_:=s.next } b s.b _ EU.out I3.out).mono ?_;rintro e wb ⟨rfl,hbb⟩;have CK:=hid hbb;have zb:=hbb.size;have FL:=hid (EU.out.of_block (hbb.block b (by omega)));have Bv:=hid (Cw.out.of_block (hbb.block _ (by omega)));have s0:=Bv.out.cell (i:=0) (by omega);have s1:=Bv.out.cell (i:=1) (by omega);have s2:=Bv.out.cell (i:=2) (by omega);have s3:=Bv.out.cell (i:=3) (by omega);have s4:=Bv.out.cell (i:=4) (by omega);have s5:=Bv.out.cell (i:=5) (by omega);have s6:=Bv.out.cell (i:=6) (by omega);have s7:=Bv.out.cell (i:=7) (by omega);have s8:=Bv.out.cell (i:=8) (by omega);have s9:=Bv.out.cell (i:=9) (by omega);simp[AZ] at s0 s1 s2 s3 s4 s5 s6 s7 s8 s9;have FN:=hid ((dE.out.of_block (Dk.out.block _ (by simp;omega))).of_block (hbb.block _ (by omega)));have p0:=FN.out.cell (i:=0) (by omega);have p1:=FN.out.cell (i:=1) (by omega);have p2:=FN.out.cell (i:=2) (by omega);have p3:=FN.out.cell (i:=3) (by omega);simp at p0 p1 p2 p3;have dG:=hid (fun j (hj:j<cs.length)=>A9.cell (((A9.setCell (p:=⟨b,15,none⟩) (A9.Ap (S:=fun k=>k=b) (base:=0) G_.out.A8 (Nat.zero_le _)) (Nat.zero_le _) rfl (.int .i64 s.next)).trans (A9.Ap (S:=fun k=>k=b) (base:=0) Dk.out (Nat.zero_le _)) (fun _ _ e=>e)).trans (A9.Ap (S:=fun k=>k=b) (base:=0) CK.out (Nat.zero_le _)) (fun _ _ e=>e)) (HC.out j hj) (fun e=>hgb e));clear hbb)
   |(go_at_call 108;refine (eI { m with at_:=s.next } b _ vs _ nv g cp cs s (Mc.value { m with at_:=s.next } s.a) (Mc.value { m with at_:=s.next } s.b) FL.out dG.out hl HE.out ha Tf.out R7).mono ?_;rintro e w3 ⟨rfl,hr3,Sw⟩;have E3:=hid hr3;have Bp:=hid Sw;clear hr3 Sw)
   |(go_at_call 106;refine (Kt 2 (Mc.value { m with at_:=s.next } s.a) _ (by omega) HV.out).mono ?_;rintro e w0 ⟨rfl,hw0⟩;have hw1:=hw0.symm;subst hw1))
  go_ret
  exact ⟨congrArg (fun z=>Ending.returned (Value.int .i64 z)) (by omega),E3.out,(((A9.setCell (p:=⟨b,15,none⟩) (A9.Ap (S:=fun k=>k=b) (base:=0) G_.out.A8 (Nat.zero_le _)) (Nat.zero_le _) rfl (.int .i64 s.next)).trans (A9.Ap (S:=fun k=>k=b) (base:=0) Dk.out (Nat.zero_le _)) (fun _ _ e=>e)).trans (A9.Ap (S:=fun k=>k=b) (base:=0) CK.out (Nat.zero_le _)) (fun _ _ e=>e)).trans Bp.out (fun _ _ e=>e)⟩
end
end Go.Proofs.YtgddmpmcnjlcjaaGreatDoor
