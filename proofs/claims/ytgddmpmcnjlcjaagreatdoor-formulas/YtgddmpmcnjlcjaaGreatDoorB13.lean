import Derived.Test.YtgddmpmcnjlcjaaGreatDoorB12
import Derived.Deep.RegionLaw
import Derived.Deep.DeepCutAuto
set_option maxRecDepth 100000
set_option maxHeartbeats 2000000
namespace Go.Proofs.YtgddmpmcnjlcjaaGreatDoor
open Go.RowKit
set_option linter.unusedVariables false
namespace Mc
def step (cs:List Nat) (code:List Lk.St) (m:M):Nat×M:=
 if m.trap=true then (80,m)
 else if m.at_<code.length then
  let s:=code.getD m.at_ {}
  let m1:={ m with at_:=s.next }
  if s.kind=3 then (48+value m1 s.a,m1)
  else if s.kind=4∨s.kind=5 then (if value m1 s.a=0 then (16,{ m1 with at_:=s.els }) else (17,m1))
  else if s.kind=1∨s.kind=2 then (32+value m1 s.a,access m1 cs s (value m1 s.a) (value m1 s.b))
  else (0,put m1 s.slot (apply s.op (value m1 s.a) (value m1 s.b)))
 else (64,m)
end Mc
section
variable (m:Mc.M) (b:Nat) (w:World) (vs vc:Value) (nv:Int)
theorem rZ (vk:Value) (hr:w.rowIs b 162 17 (Av m)) (ht:m.trap=true):
  Calls Tryz.prog 82 #[.pointer (some ⟨b,0,none⟩),.agg #[vs,.int .i64 nv,vc,vk]] w fun e w'=>e=.returned (.int .i64 80)∧Below w.heap.size w w':=by
 have c16:=hr.cell (i:=16) (by omega)
 rw[show Av m 16=.bool m.trap from rfl,ht] at c16
 have hlt:=hr.lt
 go_enter Tryz.func82,Tryz.ntmps82
 go_wp2_with (first|(go_at_call 106;refine (Kt 5 0 _ (by omega) (by omega)).mono ?_;rintro e w0 ⟨rfl,hw0⟩;have hw1:=hw0.symm;subst hw1))
 go_ret
 exact ⟨rfl,(Below.refl _ _).alloc (Nat.le_refl _) _⟩
theorem rh (ak:Option Addr) (n ck:Nat) (hr:w.rowIs b 162 17 (Av m)) (ht:m.trap=false) (hn:n≤m.at_):
  Calls Tryz.prog 82 #[.pointer (some ⟨b,0,none⟩),.agg #[vs,.int .i64 nv,vc,.slice ak n ck]] w fun e w'=>e=.returned (.int .i64 64)∧Below w.heap.size w w':=by
 have c16:=hr.cell (i:=16) (by omega)
 rw[show Av m 16=.bool m.trap from rfl,ht] at c16
 have c15:=hr.cell (i:=15) (by omega)
 rw[show Av m 15=.int .i64 m.at_ from rfl] at c15
 have hlt:=hr.lt
 have hd:decide ((m.at_:Int)<0)=false:=by simp
 have hd2:decide ((n:Int)≤(m.at_:Int))=true:=by simp;omega
 go_enter Tryz.func82,Tryz.ntmps82
 go_wp2_with fail
 go_quiet (fail)
 go_wp2_with (first|(go_at_call 106;refine (Kt 4 0 _ (by omega) (by omega)).mono ?_;rintro e w0 ⟨rfl,hw0⟩;have hw1:=hw0.symm;subst hw1))
 go_ret
 exact ⟨rfl,below_drewN ((Below.refl _ _).alloc (Nat.le_refl _) _) _⟩
end
structure MW (w wc:World) (b:Nat) (m:Mc.M) (vs vc:Value) (nv:Int) (vk:Value) (s:Lk.St):Prop where
 A8:Below w.heap.size w wc
 row:wc.rowIs b 162 17 (Av m)
 st:wc.rowIs (w.heap.size+1) 147 10 (fun i=>(AZ s).getD i (.bool false))
 pr:wc.rowIs w.heap.size 45 4 (fun i=>[vs,.int .i64 nv,vc,vk].getD i (.bool false))
theorem N8 {m:Mc.M} {b:Nat} {w:World} (hr:w.rowIs b 162 17 (Av m)) (vs vc vk:Value) (nv:Int) (s:Lk.St) (n:Nat):
  MW w (((w.alloc (.cells #[vs,.int .i64 nv,vc,vk] 45)).drewN n).alloc (.cells #[.int .i64 s.kind,.int .i64 s.op,.int .i64 s.slot,.int .i64 s.arr,.bool s.a.named,.int .i64 s.a.val,.bool s.b.named,.int .i64 s.b.val,.int .i64 s.next,.int .i64 s.els] 147)) b m vs vc nv vk s:=by
 refine ⟨(below_drewN ((Below.refl _ _).alloc (Nat.le_refl _) _) n).alloc (by simp) _,((hr.alloc _).of_block rfl).alloc _,?_,?_⟩
 ·have h:=World.rowIs_alloc ((w.alloc (.cells #[vs,.int .i64 nv,vc,vk] 45)).drewN n) #[.int .i64 s.kind,.int .i64 s.op,.int .i64 s.slot,.int .i64 s.arr,.bool s.a.named,.int .i64 s.a.val,.bool s.b.named,.int .i64 s.b.val,.int .i64 s.next,.int .i64 s.els] 147 (fun i=>(AZ s).getD i (.bool false)) (fun i hi=>by
   match i,hi with
   |0,_=>rfl
   |1,_=>rfl
   |2,_=>rfl
   |3,_=>rfl
   |4,_=>rfl
   |5,_=>rfl
   |6,_=>rfl
   |7,_=>rfl
   |8,_=>rfl
   |9,_=>rfl
   |n+10,h=>exact absurd (show n+10<10 from h) (by omega))
  have e:((w.alloc (.cells #[vs,.int .i64 nv,vc,vk] 45)).drewN n).heap.size=w.heap.size+1:=by simp
  rw[e] at h
  exact h
 ·exact ((World.rowIs_alloc w #[vs,.int .i64 nv,vc,vk] 45 (fun i=>[vs,.int .i64 nv,vc,vk].getD i (.bool false)) (fun i hi=>by
   match i,hi with
   |0,_=>rfl
   |1,_=>rfl
   |2,_=>rfl
   |3,_=>rfl
   |n+4,h=>exact absurd (show n+4<4 from h) (by omega))).of_block rfl).alloc _
theorem Gk (m:Mc.M) (b:Nat) (x:Lk.At) (w:World) (hr:w.rowIs b 162 17 (Av m)) (hx:x.named=true→x.val<7):
  Calls Tryz.prog 107 #[.pointer (some ⟨b,0,none⟩),.agg #[.bool x.named,.int .i64 x.val]] w fun e w'=>e=.returned (.int .i64 (Mc.value m x))∧Below w.heap.size w w':=by
 unfold Mc.value
 cases h:x.named with
 |true=>rw[if_pos rfl];exact o7 m b x.val w hr (hx h)
 |false=>rw[if_neg (by simp)];exact qH b x.val w
theorem Kp (m:Mc.M) (v:Nat) (j:Nat) (hj:j<17):(if j=15 then .int .i64 (v:Int) else Av m j)=Av { m with at_:=v } j:=by
 by_cases e:j=15
 ·subst e;rw[if_pos rfl];rfl
 ·rw[if_neg e]
  unfold Av
  by_cases h7:j<7
  ·rw[if_pos h7,if_pos h7]
  ·rw[if_neg h7,if_neg h7]
   by_cases Ib:j<15
   ·rw[if_pos Ib,if_pos Ib]
   ·rw[if_neg Ib,if_neg Ib,if_neg e,if_neg e]
def L9 (w w':World) (b:Nat) (e:Ending) (n:Nat) (m:Mc.M):Prop:=e=.returned (.int .i64 n)∧w'.rowIs b 162 17 (Av m)∧A9 0 (fun k=>k=b) w w'
section
variable (m:Mc.M) (b:Nat) (w:World) (vs vc:Value) (nv:Int)
theorem vY (gk ck:Nat) (code:List Lk.St) (s:Lk.St) (hr:w.rowIs b 162 17 (Av m)) (ht:m.trap=false) (hn:m.at_<code.length)
  (hcell: ∀ k,k<10→w.cell? ⟨gk,m.at_*10+k,none⟩=(AZ s)[k]?) (ES:s.a.named=true→s.a.val<7) (ET:s.b.named=true→s.b.val<7) (hk:s.kind=3) (hv:Mc.value { m with at_:=s.next } s.a<16):
  Calls Tryz.prog 82 #[.pointer (some ⟨b,0,none⟩),.agg #[vs,.int .i64 nv,vc,.slice (some ⟨gk,0,none⟩) code.length ck]] w fun e w'=>L9 w w' b e (48+Mc.value { m with at_:=s.next } s.a) { m with at_:=s.next }:=by
 have HK:=hid hk
 have I0:=hid ES
 have I3:=hid ET
 have HV:=hid hv
 clear hk ES ET hv
 have c16:=hr.cell (i:=16) (by omega)
 rw[show Av m 16=.bool m.trap from rfl,ht] at c16
 clear ht
 have c15:=hr.cell (i:=15) (by omega)
 rw[show Av m 15=.int .i64 m.at_ from rfl] at c15
 have hlt:=hr.lt
 have G5:gk<w.heap.size:=by
  have:=hcell 0 (by omega)
  exact World.block_lt_of_cell? w ⟨gk,m.at_*10+0,none⟩ this
 have hd:decide ((m.at_:Int)<0)=false:=by simp
 have hd2:decide ((code.length:Int)≤(m.at_:Int))=false:=by simp;omega
 have Fj:(m.at_:Int)<(code.length:Int):=by omega
 have x0:=hcell 0 (by omega)
 have x1:=hcell 1 (by omega)
 have x2:=hcell 2 (by omega)
 have x3:=hcell 3 (by omega)
 have x4:=hcell 4 (by omega)
 have x5:=hcell 5 (by omega)
 have x6:=hcell 6 (by omega)
 have x7:=hcell 7 (by omega)
 have x8:=hcell 8 (by omega)
 have x9:=hcell 9 (by omega)
 simp[AZ] at x0 x1 x2 x3 x4 x5 x6 x7 x8 x9
 have HR:=hid hr
 clear hr hcell
 go_enter Tryz.func82,Tryz.ntmps82
 go_wp2_with fail
 go_quiet (fail)
 go_wp2_with fail
 go_cut [5] (fun v5 wc=>v5=.pointer (some ⟨w.heap.size+1,0,none⟩)∧MW w wc b m vs vc nv (.slice (some ⟨gk,0,none⟩) code.length ck) s)
 case first=>
  go_region
  all_goals go_wp2_with fail
  all_goals go_meet
  all_goals exact ⟨rfl,N8 HR.out vs vc _ nv s _⟩
 case rest=>
  clear x0 x1 x2 x3 x4 x5 x6 x7 x8 x9 c15 c16
  obtain ⟨e5,AW⟩:=hcut
  subst e5
  have PE:=AW.row.lt
  have PG:=AW.st.lt
  have sc:=AW.A8.size
  have c15:=AW.row.cell (i:=15) (by omega)
  have f15:=AW.row.frozen 15
  have y4:=AW.st.cell (i:=4) (by omega)
  have y5:=AW.st.cell (i:=5) (by omega)
  have y6:=AW.st.cell (i:=6) (by omega)
  have y7:=AW.st.cell (i:=7) (by omega)
  have y8:=AW.st.cell (i:=8) (by omega)
  simp[AZ] at y4 y5 y6 y7 y8
  have hbs:b≠w.heap.size+1:=by omega
  have G_:=hid AW
  have RM:=(AW.row.set 15 (.int .i64 s.next)).congr (fun j hj=>Kp m s.next j hj)
  have SM:=AW.st.setOther (a:=⟨b,15,none⟩) (by show w.heap.size+1≠b;omega) (.int .i64 s.next)
  have Cv:=hid RM
  have E0:=hid SM
  clear AW RM SM
  have JX:((s.kind:Int)==3)=true:=by (have:=HK.out;simp;omega)
  go_wp2_with (first
   |(go_at_call 107;refine (Gk { m with at_:=s.next } b s.a _ Cv.out I0.out).mono ?_;rintro e wa ⟨rfl,BL⟩;have Dk:=hid BL;have za:=BL.size;simp at za;have EU:=hid (Cv.out.of_block (BL.block b (by simp;omega)));have Cw:=hid (E0.out.of_block (BL.block _ (by simp;omega)));have q6:=Cw.out.cell (i:=6) (by omega);have q7:=Cw.out.cell (i:=7) (by omega);simp[AZ] at q6 q7;clear BL Cv E0)
   |(go_at_call 107;refine (Gk { m with at_:=s.next } b s.b _ EU.out I3.out).mono ?_;rintro e wb ⟨rfl,hbb⟩;have CK:=hid hbb;have zb:=hbb.size;have FL:=hid (EU.out.of_block (hbb.block b (by omega)));have Bv:=hid (Cw.out.of_block (hbb.block _ (by omega)));have s0:=Bv.out.cell (i:=0) (by omega);simp[AZ] at s0;clear hbb)
   |(go_at_call 106;refine (Kt 3 (Mc.value { m with at_:=s.next } s.a) _ (by omega) HV.out).mono ?_;rintro e w0 ⟨rfl,hw0⟩;have hw1:=hw0.symm;subst hw1))
  go_ret
  exact ⟨congrArg (fun z=>Ending.returned (Value.int .i64 z)) (by omega),FL.out,((A9.setCell (p:=⟨b,15,none⟩) (A9.Ap (S:=fun k=>k=b) (base:=0) G_.out.A8 (Nat.zero_le _)) (Nat.zero_le _) rfl (.int .i64 s.next)).trans (A9.Ap (S:=fun k=>k=b) (base:=0) Dk.out (Nat.zero_le _)) (fun _ _ e=>e)).trans (A9.Ap (S:=fun k=>k=b) (base:=0) CK.out (Nat.zero_le _)) (fun _ _ e=>e)⟩
theorem v_ (gk ck:Nat) (code:List Lk.St) (s:Lk.St) (hr:w.rowIs b 162 17 (Av m)) (ht:m.trap=false) (hn:m.at_<code.length)
  (hcell: ∀ k,k<10→w.cell? ⟨gk,m.at_*10+k,none⟩=(AZ s)[k]?) (ES:s.a.named=true→s.a.val<7) (ET:s.b.named=true→s.b.val<7) (hk:s.kind=4) (hv:Mc.value { m with at_:=s.next } s.a≠0):
  Calls Tryz.prog 82 #[.pointer (some ⟨b,0,none⟩),.agg #[vs,.int .i64 nv,vc,.slice (some ⟨gk,0,none⟩) code.length ck]] w fun e w'=>L9 w w' b e 17 { m with at_:=s.next }:=by
 have HK:=hid hk
 have I0:=hid ES
 have I3:=hid ET
 have HV:=hid hv
 clear hk ES ET hv
 have c16:=hr.cell (i:=16) (by omega)
 rw[show Av m 16=.bool m.trap from rfl,ht] at c16
 clear ht
 have c15:=hr.cell (i:=15) (by omega)
 rw[show Av m 15=.int .i64 m.at_ from rfl] at c15
 have hlt:=hr.lt
 have G5:gk<w.heap.size:=by
  have:=hcell 0 (by omega)
  exact World.block_lt_of_cell? w ⟨gk,m.at_*10+0,none⟩ this
 have hd:decide ((m.at_:Int)<0)=false:=by simp
 have hd2:decide ((code.length:Int)≤(m.at_:Int))=false:=by simp;omega
 have Fj:(m.at_:Int)<(code.length:Int):=by omega
 have x0:=hcell 0 (by omega)
 have x1:=hcell 1 (by omega)
 have x2:=hcell 2 (by omega)
 have x3:=hcell 3 (by omega)
 have x4:=hcell 4 (by omega)
 have x5:=hcell 5 (by omega)
 have x6:=hcell 6 (by omega)
 have x7:=hcell 7 (by omega)
 have x8:=hcell 8 (by omega)
 have x9:=hcell 9 (by omega)
 simp[AZ] at x0 x1 x2 x3 x4 x5 x6 x7 x8 x9
 have HR:=hid hr
 clear hr hcell
 go_enter Tryz.func82,Tryz.ntmps82
 go_wp2_with fail
 go_quiet (fail)
 go_wp2_with fail
 go_cut [5] (fun v5 wc=>v5=.pointer (some ⟨w.heap.size+1,0,none⟩)∧MW w wc b m vs vc nv (.slice (some ⟨gk,0,none⟩) code.length ck) s)
 case first=>
  go_region
  all_goals go_wp2_with fail
  all_goals go_meet
  all_goals exact ⟨rfl,N8 HR.out vs vc _ nv s _⟩
 case rest=>
  clear x0 x1 x2 x3 x4 x5 x6 x7 x8 x9 c15 c16
  obtain ⟨e5,AW⟩:=hcut
  subst e5
  have PE:=AW.row.lt
  have PG:=AW.st.lt
  have sc:=AW.A8.size
  have c15:=AW.row.cell (i:=15) (by omega)
  have f15:=AW.row.frozen 15
  have y4:=AW.st.cell (i:=4) (by omega)
  have y5:=AW.st.cell (i:=5) (by omega)
  have y6:=AW.st.cell (i:=6) (by omega)
  have y7:=AW.st.cell (i:=7) (by omega)
  have y8:=AW.st.cell (i:=8) (by omega)
  simp[AZ] at y4 y5 y6 y7 y8
  have hbs:b≠w.heap.size+1:=by omega
  have G_:=hid AW
  have RM:=(AW.row.set 15 (.int .i64 s.next)).congr (fun j hj=>Kp m s.next j hj)
  have SM:=AW.st.setOther (a:=⟨b,15,none⟩) (by show w.heap.size+1≠b;omega) (.int .i64 s.next)
  have Cv:=hid RM
  have E0:=hid SM
  clear AW RM SM
  have hk3:((s.kind:Int)==3)=false:=by (have:=HK.out;simp;omega)
  have hk4:((s.kind:Int)==4)=true:=by (have:=HK.out;simp;omega)
  have Gq:((Mc.value { m with at_:=s.next } s.a:Int)==0)=false:=by (have:=HV.out;simp;omega)
  go_wp2_with (first
   |(go_at_call 107;refine (Gk { m with at_:=s.next } b s.a _ Cv.out I0.out).mono ?_;rintro e wa ⟨rfl,BL⟩;have Dk:=hid BL;have za:=BL.size;simp at za;have EU:=hid (Cv.out.of_block (BL.block b (by simp;omega)));have Cw:=hid (E0.out.of_block (BL.block _ (by simp;omega)));have q6:=Cw.out.cell (i:=6) (by omega);have q7:=Cw.out.cell (i:=7) (by omega);simp[AZ] at q6 q7;clear BL Cv E0)
   |(go_at_call 107;refine (Gk { m with at_:=s.next } b s.b _ EU.out I3.out).mono ?_;rintro e wb ⟨rfl,hbb⟩;have CK:=hid hbb;have zb:=hbb.size;have FL:=hid (EU.out.of_block (hbb.block b (by omega)));have Bv:=hid (Cw.out.of_block (hbb.block _ (by omega)));have s0:=Bv.out.cell (i:=0) (by omega);simp[AZ] at s0;clear hbb)
   |(go_at_call 106;refine (Kt 1 1 _ (by omega) (by omega)).mono ?_;rintro e w0 ⟨rfl,hw0⟩;have hw1:=hw0.symm;subst hw1))
  go_ret
  exact ⟨rfl,FL.out,((A9.setCell (p:=⟨b,15,none⟩) (A9.Ap (S:=fun k=>k=b) (base:=0) G_.out.A8 (Nat.zero_le _)) (Nat.zero_le _) rfl (.int .i64 s.next)).trans (A9.Ap (S:=fun k=>k=b) (base:=0) Dk.out (Nat.zero_le _)) (fun _ _ e=>e)).trans (A9.Ap (S:=fun k=>k=b) (base:=0) CK.out (Nat.zero_le _)) (fun _ _ e=>e)⟩
theorem ve (gk ck:Nat) (code:List Lk.St) (s:Lk.St) (hr:w.rowIs b 162 17 (Av m)) (ht:m.trap=false) (hn:m.at_<code.length)
  (hcell: ∀ k,k<10→w.cell? ⟨gk,m.at_*10+k,none⟩=(AZ s)[k]?) (ES:s.a.named=true→s.a.val<7) (ET:s.b.named=true→s.b.val<7) (hk:s.kind=4) (hv:Mc.value { m with at_:=s.next } s.a=0):
  Calls Tryz.prog 82 #[.pointer (some ⟨b,0,none⟩),.agg #[vs,.int .i64 nv,vc,.slice (some ⟨gk,0,none⟩) code.length ck]] w fun e w'=>L9 w w' b e 16 { m with at_:=s.els }:=by
 have HK:=hid hk
 have I0:=hid ES
 have I3:=hid ET
 have HV:=hid hv
 clear hk ES ET hv
 have c16:=hr.cell (i:=16) (by omega)
 rw[show Av m 16=.bool m.trap from rfl,ht] at c16
 clear ht
 have c15:=hr.cell (i:=15) (by omega)
 rw[show Av m 15=.int .i64 m.at_ from rfl] at c15
 have hlt:=hr.lt
 have G5:gk<w.heap.size:=by
  have:=hcell 0 (by omega)
  exact World.block_lt_of_cell? w ⟨gk,m.at_*10+0,none⟩ this
 have hd:decide ((m.at_:Int)<0)=false:=by simp
 have hd2:decide ((code.length:Int)≤(m.at_:Int))=false:=by simp;omega
 have Fj:(m.at_:Int)<(code.length:Int):=by omega
 have x0:=hcell 0 (by omega)
 have x1:=hcell 1 (by omega)
 have x2:=hcell 2 (by omega)
 have x3:=hcell 3 (by omega)
 have x4:=hcell 4 (by omega)
 have x5:=hcell 5 (by omega)
 have x6:=hcell 6 (by omega)
 have x7:=hcell 7 (by omega)
 have x8:=hcell 8 (by omega)
 have x9:=hcell 9 (by omega)
 simp[AZ] at x0 x1 x2 x3 x4 x5 x6 x7 x8 x9
 have HR:=hid hr
 clear hr hcell
 go_enter Tryz.func82,Tryz.ntmps82
 go_wp2_with fail
 go_quiet (fail)
 go_wp2_with fail
 go_cut [5] (fun v5 wc=>v5=.pointer (some ⟨w.heap.size+1,0,none⟩)∧MW w wc b m vs vc nv (.slice (some ⟨gk,0,none⟩) code.length ck) s)
 case first=>
  go_region
  all_goals go_wp2_with fail
  all_goals go_meet
  all_goals exact ⟨rfl,N8 HR.out vs vc _ nv s _⟩
 case rest=>
  clear x0 x1 x2 x3 x4 x5 x6 x7 x8 x9 c15 c16
  obtain ⟨e5,AW⟩:=hcut
  subst e5
  have PE:=AW.row.lt
  have PG:=AW.st.lt
  have sc:=AW.A8.size
  have c15:=AW.row.cell (i:=15) (by omega)
  have f15:=AW.row.frozen 15
  have y4:=AW.st.cell (i:=4) (by omega)
  have y5:=AW.st.cell (i:=5) (by omega)
  have y6:=AW.st.cell (i:=6) (by omega)
  have y7:=AW.st.cell (i:=7) (by omega)
  have y8:=AW.st.cell (i:=8) (by omega)
  simp[AZ] at y4 y5 y6 y7 y8
  have hbs:b≠w.heap.size+1:=by omega
  have G_:=hid AW
  have RM:=(AW.row.set 15 (.int .i64 s.next)).congr (fun j hj=>Kp m s.next j hj)
  have SM:=AW.st.setOther (a:=⟨b,15,none⟩) (by show w.heap.size+1≠b;omega) (.int .i64 s.next)
  have Cv:=hid RM
  have E0:=hid SM
  clear AW RM SM
  have hk3:((s.kind:Int)==3)=false:=by (have:=HK.out;simp;omega)
  have hk4:((s.kind:Int)==4)=true:=by (have:=HK.out;simp;omega)
  have Gq:((Mc.value { m with at_:=s.next } s.a:Int)==0)=true:=by (have:=HV.out;simp;omega)
  go_wp2_with (first
   |(go_at_call 107;refine (Gk { m with at_:=s.next } b s.a _ Cv.out I0.out).mono ?_;rintro e wa ⟨rfl,BL⟩;have Dk:=hid BL;have za:=BL.size;simp at za;have EU:=hid (Cv.out.of_block (BL.block b (by simp;omega)));have Cw:=hid (E0.out.of_block (BL.block _ (by simp;omega)));have q6:=Cw.out.cell (i:=6) (by omega);have q7:=Cw.out.cell (i:=7) (by omega);simp[AZ] at q6 q7;clear BL Cv E0)
   |(go_at_call 107;refine (Gk { m with at_:=s.next } b s.b _ EU.out I3.out).mono ?_;rintro e wb ⟨rfl,hbb⟩;have CK:=hid hbb;have zb:=hbb.size;have FL:=hid (EU.out.of_block (hbb.block b (by omega)));have Bv:=hid (Cw.out.of_block (hbb.block _ (by omega)));have s0:=Bv.out.cell (i:=0) (by omega);have s9:=Bv.out.cell (i:=9) (by omega);simp[AZ] at s0 s9;have d15:=FL.out.cell (i:=15) (by omega);have g15:=FL.out.frozen 15;clear hbb)
   |(go_at_call 106;refine (Kt 1 0 _ (by omega) (by omega)).mono ?_;rintro e w0 ⟨rfl,hw0⟩;have hw1:=hw0.symm;subst hw1))
  go_ret
  exact ⟨rfl,(FL.out.set 15 (.int .i64 s.els)).congr (fun j hj=>Kp { m with at_:=s.next } s.els j hj),A9.setCell (p:=⟨b,15,none⟩) (((A9.setCell (p:=⟨b,15,none⟩) (A9.Ap (S:=fun k=>k=b) (base:=0) G_.out.A8 (Nat.zero_le _)) (Nat.zero_le _) rfl (.int .i64 s.next)).trans (A9.Ap (S:=fun k=>k=b) (base:=0) Dk.out (Nat.zero_le _)) (fun _ _ e=>e)).trans (A9.Ap (S:=fun k=>k=b) (base:=0) CK.out (Nat.zero_le _)) (fun _ _ e=>e)) (Nat.zero_le _) rfl _⟩
theorem oX (gk ck:Nat) (code:List Lk.St) (s:Lk.St) (hr:w.rowIs b 162 17 (Av m)) (ht:m.trap=false) (hn:m.at_<code.length)
  (hcell: ∀ k,k<10→w.cell? ⟨gk,m.at_*10+k,none⟩=(AZ s)[k]?) (ES:s.a.named=true→s.a.val<7) (ET:s.b.named=true→s.b.val<7) (hk:s.kind=5) (hv:Mc.value { m with at_:=s.next } s.a≠0):
  Calls Tryz.prog 82 #[.pointer (some ⟨b,0,none⟩),.agg #[vs,.int .i64 nv,vc,.slice (some ⟨gk,0,none⟩) code.length ck]] w fun e w'=>L9 w w' b e 17 { m with at_:=s.next }:=by
 have HK:=hid hk
 have I0:=hid ES
 have I3:=hid ET
 have HV:=hid hv
 clear hk ES ET hv
 have c16:=hr.cell (i:=16) (by omega)
 rw[show Av m 16=.bool m.trap from rfl,ht] at c16
 clear ht
 have c15:=hr.cell (i:=15) (by omega)
 rw[show Av m 15=.int .i64 m.at_ from rfl] at c15
 have hlt:=hr.lt
 have G5:gk<w.heap.size:=by
  have:=hcell 0 (by omega)
  exact World.block_lt_of_cell? w ⟨gk,m.at_*10+0,none⟩ this
 have hd:decide ((m.at_:Int)<0)=false:=by simp
 have hd2:decide ((code.length:Int)≤(m.at_:Int))=false:=by simp;omega
 have Fj:(m.at_:Int)<(code.length:Int):=by omega
 have x0:=hcell 0 (by omega)
 have x1:=hcell 1 (by omega)
 have x2:=hcell 2 (by omega)
 have x3:=hcell 3 (by omega)
 have x4:=hcell 4 (by omega)
 have x5:=hcell 5 (by omega)
 have x6:=hcell 6 (by omega)
 have x7:=hcell 7 (by omega)
 have x8:=hcell 8 (by omega)
 have x9:=hcell 9 (by omega)
 simp[AZ] at x0 x1 x2 x3 x4 x5 x6 x7 x8 x9
 have HR:=hid hr
 clear hr hcell
 go_enter Tryz.func82,Tryz.ntmps82
 go_wp2_with fail
 go_quiet (fail)
 go_wp2_with fail
 go_cut [5] (fun v5 wc=>v5=.pointer (some ⟨w.heap.size+1,0,none⟩)∧MW w wc b m vs vc nv (.slice (some ⟨gk,0,none⟩) code.length ck) s)
 case first=>
  go_region
  all_goals go_wp2_with fail
  all_goals go_meet
  all_goals exact ⟨rfl,N8 HR.out vs vc _ nv s _⟩
 case rest=>
  clear x0 x1 x2 x3 x4 x5 x6 x7 x8 x9 c15 c16
  obtain ⟨e5,AW⟩:=hcut
  subst e5
  have PE:=AW.row.lt
  have PG:=AW.st.lt
  have sc:=AW.A8.size
  have c15:=AW.row.cell (i:=15) (by omega)
  have f15:=AW.row.frozen 15
  have y4:=AW.st.cell (i:=4) (by omega)
  have y5:=AW.st.cell (i:=5) (by omega)
  have y6:=AW.st.cell (i:=6) (by omega)
  have y7:=AW.st.cell (i:=7) (by omega)
  have y8:=AW.st.cell (i:=8) (by omega)
  simp[AZ] at y4 y5 y6 y7 y8
  have hbs:b≠w.heap.size+1:=by omega
  have G_:=hid AW
  have RM:=(AW.row.set 15 (.int .i64 s.next)).congr (fun j hj=>Kp m s.next j hj)
  have SM:=AW.st.setOther (a:=⟨b,15,none⟩) (by show w.heap.size+1≠b;omega) (.int .i64 s.next)
  have Cv:=hid RM
  have E0:=hid SM
  clear AW RM SM
  have hk3:((s.kind:Int)==3)=false:=by (have:=HK.out;simp;omega)
  have hk4:((s.kind:Int)==4)=false:=by (have:=HK.out;simp;omega)
  have PH:((s.kind:Int)==5)=true:=by (have:=HK.out;simp;omega)
  have Gq:((Mc.value { m with at_:=s.next } s.a:Int)==0)=false:=by (have:=HV.out;simp;omega)
  go_wp2_with (first
   |(go_at_call 107;refine (Gk { m with at_:=s.next } b s.a _ Cv.out I0.out).mono ?_;rintro e wa ⟨rfl,BL⟩;have Dk:=hid BL;have za:=BL.size;simp at za;have EU:=hid (Cv.out.of_block (BL.block b (by simp;omega)));have Cw:=hid (E0.out.of_block (BL.block _ (by simp;omega)));have q6:=Cw.out.cell (i:=6) (by omega);have q7:=Cw.out.cell (i:=7) (by omega);simp[AZ] at q6 q7;clear BL Cv E0)
   |(go_at_call 107;refine (Gk { m with at_:=s.next } b s.b _ EU.out I3.out).mono ?_;rintro e wb ⟨rfl,hbb⟩;have CK:=hid hbb;have zb:=hbb.size;have FL:=hid (EU.out.of_block (hbb.block b (by omega)));have Bv:=hid (Cw.out.of_block (hbb.block _ (by omega)));have s0:=Bv.out.cell (i:=0) (by omega);simp[AZ] at s0;clear hbb)
   |(go_at_call 106;refine (Kt 1 1 _ (by omega) (by omega)).mono ?_;rintro e w0 ⟨rfl,hw0⟩;have hw1:=hw0.symm;subst hw1))
  go_ret
  exact ⟨rfl,FL.out,((A9.setCell (p:=⟨b,15,none⟩) (A9.Ap (S:=fun k=>k=b) (base:=0) G_.out.A8 (Nat.zero_le _)) (Nat.zero_le _) rfl (.int .i64 s.next)).trans (A9.Ap (S:=fun k=>k=b) (base:=0) Dk.out (Nat.zero_le _)) (fun _ _ e=>e)).trans (A9.Ap (S:=fun k=>k=b) (base:=0) CK.out (Nat.zero_le _)) (fun _ _ e=>e)⟩
theorem oY (gk ck:Nat) (code:List Lk.St) (s:Lk.St) (hr:w.rowIs b 162 17 (Av m)) (ht:m.trap=false) (hn:m.at_<code.length)
  (hcell: ∀ k,k<10→w.cell? ⟨gk,m.at_*10+k,none⟩=(AZ s)[k]?) (ES:s.a.named=true→s.a.val<7) (ET:s.b.named=true→s.b.val<7) (hk:s.kind=5) (hv:Mc.value { m with at_:=s.next } s.a=0):
  Calls Tryz.prog 82 #[.pointer (some ⟨b,0,none⟩),.agg #[vs,.int .i64 nv,vc,.slice (some ⟨gk,0,none⟩) code.length ck]] w fun e w'=>L9 w w' b e 16 { m with at_:=s.els }:=by
 have HK:=hid hk
 have I0:=hid ES
 have I3:=hid ET
 have HV:=hid hv
 clear hk ES ET hv
 have c16:=hr.cell (i:=16) (by omega)
 rw[show Av m 16=.bool m.trap from rfl,ht] at c16
 clear ht
 have c15:=hr.cell (i:=15) (by omega)
 rw[show Av m 15=.int .i64 m.at_ from rfl] at c15
 have hlt:=hr.lt
 have G5:gk<w.heap.size:=by
  have:=hcell 0 (by omega)
  exact World.block_lt_of_cell? w ⟨gk,m.at_*10+0,none⟩ this
 have hd:decide ((m.at_:Int)<0)=false:=by simp
 have hd2:decide ((code.length:Int)≤(m.at_:Int))=false:=by simp;omega
 have Fj:(m.at_:Int)<(code.length:Int):=by omega
 have x0:=hcell 0 (by omega)
 have x1:=hcell 1 (by omega)
 have x2:=hcell 2 (by omega)
 have x3:=hcell 3 (by omega)
 have x4:=hcell 4 (by omega)
 have x5:=hcell 5 (by omega)
 have x6:=hcell 6 (by omega)
 have x7:=hcell 7 (by omega)
 have x8:=hcell 8 (by omega)
 have x9:=hcell 9 (by omega)
 simp[AZ] at x0 x1 x2 x3 x4 x5 x6 x7 x8 x9
 have HR:=hid hr
 clear hr hcell
 go_enter Tryz.func82,Tryz.ntmps82
 go_wp2_with fail
 go_quiet (fail)
 go_wp2_with fail
 go_cut [5] (fun v5 wc=>v5=.pointer (some ⟨w.heap.size+1,0,none⟩)∧MW w wc b m vs vc nv (.slice (some ⟨gk,0,none⟩) code.length ck) s)
 case first=>
  go_region
  all_goals go_wp2_with fail
  all_goals go_meet
  all_goals exact ⟨rfl,N8 HR.out vs vc _ nv s _⟩
 case rest=>
  clear x0 x1 x2 x3 x4 x5 x6 x7 x8 x9 c15 c16
  obtain ⟨e5,AW⟩:=hcut
  subst e5
  have PE:=AW.row.lt
  have PG:=AW.st.lt
  have sc:=AW.A8.size
  have c15:=AW.row.cell (i:=15) (by omega)
  have f15:=AW.row.frozen 15
  have y4:=AW.st.cell (i:=4) (by omega)
  have y5:=AW.st.cell (i:=5) (by omega)
  have y6:=AW.st.cell (i:=6) (by omega)
  have y7:=AW.st.cell (i:=7) (by omega)
  have y8:=AW.st.cell (i:=8) (by omega)
  simp[AZ] at y4 y5 y6 y7 y8
  have hbs:b≠w.heap.size+1:=by omega
  have G_:=hid AW
  have RM:=(AW.row.set 15 (.int .i64 s.next)).congr (fun j hj=>Kp m s.next j hj)
  have SM:=AW.st.setOther (a:=⟨b,15,none⟩) (by show w.heap.size+1≠b;omega) (.int .i64 s.next)
  have Cv:=hid RM
  have E0:=hid SM
  clear AW RM SM
  have hk3:((s.kind:Int)==3)=false:=by (have:=HK.out;simp;omega)
  have hk4:((s.kind:Int)==4)=false:=by (have:=HK.out;simp;omega)
  have PH:((s.kind:Int)==5)=true:=by (have:=HK.out;simp;omega)
  have Gq:((Mc.value { m with at_:=s.next } s.a:Int)==0)=true:=by (have:=HV.out;simp;omega)
  go_wp2_with (first
   |(go_at_call 107;refine (Gk { m with at_:=s.next } b s.a _ Cv.out I0.out).mono ?_;rintro e wa ⟨rfl,BL⟩;have Dk:=hid BL;have za:=BL.size;simp at za;have EU:=hid (Cv.out.of_block (BL.block b (by simp;omega)));have Cw:=hid (E0.out.of_block (BL.block _ (by simp;omega)));have q6:=Cw.out.cell (i:=6) (by omega);have q7:=Cw.out.cell (i:=7) (by omega);simp[AZ] at q6 q7;clear BL Cv E0)
   |(go_at_call 107;refine (Gk { m with at_:=s.next } b s.b _ EU.out I3.out).mono ?_;rintro e wb ⟨rfl,hbb⟩;have CK:=hid hbb;have zb:=hbb.size;have FL:=hid (EU.out.of_block (hbb.block b (by omega)));have Bv:=hid (Cw.out.of_block (hbb.block _ (by omega)));have s0:=Bv.out.cell (i:=0) (by omega);have s9:=Bv.out.cell (i:=9) (by omega);simp[AZ] at s0 s9;have d15:=FL.out.cell (i:=15) (by omega);have g15:=FL.out.frozen 15;clear hbb)
   |(go_at_call 106;refine (Kt 1 0 _ (by omega) (by omega)).mono ?_;rintro e w0 ⟨rfl,hw0⟩;have hw1:=hw0.symm;subst hw1))
  go_ret
  exact ⟨rfl,(FL.out.set 15 (.int .i64 s.els)).congr (fun j hj=>Kp { m with at_:=s.next } s.els j hj),A9.setCell (p:=⟨b,15,none⟩) (((A9.setCell (p:=⟨b,15,none⟩) (A9.Ap (S:=fun k=>k=b) (base:=0) G_.out.A8 (Nat.zero_le _)) (Nat.zero_le _) rfl (.int .i64 s.next)).trans (A9.Ap (S:=fun k=>k=b) (base:=0) Dk.out (Nat.zero_le _)) (fun _ _ e=>e)).trans (A9.Ap (S:=fun k=>k=b) (base:=0) CK.out (Nat.zero_le _)) (fun _ _ e=>e)) (Nat.zero_le _) rfl _⟩
end
end Go.Proofs.YtgddmpmcnjlcjaaGreatDoor
