import Derived.Test.YtgddmpmcnjlcjaaGreatDoorB02
import Derived.Deep.RegionLaw
set_option maxRecDepth 100000
set_option maxHeartbeats 1000000
namespace Go.Proofs.YtgddmpmcnjlcjaaGreatDoor
open Go.RowKit
set_option linter.unusedVariables false
theorem rM {w W w1:World} {base b gg cap:Nat} {r:Lk.RS} {vs vc vb:Value} {st:Lk.St} {o:Obj} {i0 i1 i2 i3 i5 i7 i8 i9:Int} {b4 b6:Bool}
  (hR:CB W base b (fun j=>if j=57 then .int .i64 (↑r.stmts+1) else Ac r vs vc (.slice none 0 0) vb j) r.Ah r.cells r.body vs vc vb) (hB:Below base w W)
  (hst:AZ st=[.int .i64 i0,.int .i64 i1,.int .i64 i2,.int .i64 i3,.bool b4,.int .i64 i5,.bool b6,.int .i64 i7,.int .i64 i8,.int .i64 i9])
  (hown:w1.ownsRow base 147 10 (.slice (some ⟨gg,0,none⟩) (r.body.length+1) cap) (r.body.length+1) (flat r.body++[.int .i64 i0,.int .i64 i1,.int .i64 i2,.int .i64 i3,.bool b4,.int .i64 i5,.bool b6,.int .i64 i7,.int .i64 (↑r.body.length+1),.int .i64 i9]))
  (hg:(W.alloc o).drew.grownBy w1 vb.ownBlock) (hat:vb.ownBlock=some gg∨gg=w.heap.size+2) (hsz:W.heap.size=w.heap.size+1):
  (∃ G8,BF (w1.setCell ⟨b,56,none⟩ (.slice (some ⟨gg,0,none⟩) (r.body.length+1) cap)) base b { r with stmts:=r.stmts+1,body:=r.body++[{ st with next:=r.body.length+1 }] } vs vc G8)∧Below base w (w1.setCell ⟨b,56,none⟩ (.slice (some ⟨gg,0,none⟩) (r.body.length+1) cap)):=by
 have hX:=(hR.alloc o).drew
 have af3:AZ { st with next:=r.body.length+1 }=[.int .i64 i0,.int .i64 i1,.int .i64 i2,.int .i64 i3,.bool b4,.int .i64 i5,.bool b6,.int .i64 i7,.int .i64 (↑r.body.length+1),.int .i64 i9]:=by
  simp[AZ] at hst ⊢
  simp[hst]
 have I_:base≤(W.alloc o).drew.heap.size:=hX.AJ
 refine ⟨⟨_,((hX.gW (bod':=r.body++[{ st with next:=r.body.length+1 }]) hg (by rw[YJ,af3];simpa using hown) (by simpa[hsz] using hat)).put 56 _).congr (fun j hj=>rL r vs vc _ vb _ _ j hj)⟩,?_⟩
 refine (Below.grown ((hB.alloc (by have:=hR.AJ;exact this) o).drew) hg I_ ?_).setCell hR.ge _
 intro k hk
 exact (hR.A_.lt k hk).1
theorem gZ (r:Lk.RS) (st:Lk.St) (vs vc vb:Value) (base b:Nat) (w:World) (hr:BF w base b r vs vc vb) (hn:r.stmts<12) (hbl:r.body.length≤100000) (i0 i1 i2 i3 i5 i7 i8 i9:Int) (b4 b6:Bool)
  (hst:AZ st=[.int .i64 i0,.int .i64 i1,.int .i64 i2,.int .i64 i3,.bool b4,.int .i64 i5,.bool b6,.int .i64 i7,.int .i64 i8,.int .i64 i9]):
  Calls Tryz.prog 103 #[.pointer (some ⟨b,0,none⟩),.agg #[.int .i64 i0,.int .i64 i1,.int .i64 i2,.int .i64 i3,.bool b4,.int .i64 i5,.bool b6,.int .i64 i7,.int .i64 i8,.int .i64 i9]] w fun e w'=>
   e=.returned (.bool true)∧(∃ G8,BF w' base b { r with stmts:=r.stmts+1,body:=r.body++[{ st with next:=r.body.length+1 }] } vs vc G8)∧Below base w w':=by
 obtain ⟨t0,ht0,hz0,hz1,hz2⟩:=info_parts Tryz.OT
 have hlt:=hr.lt
 have hge:=hr.ge
 have BL:=hr.AJ
 have Ss:=hr.row.cell (i:=57) (by omega)
 rw[show Ac r vs vc (.slice none 0 0) vb 57=.int .i64 r.stmts from rfl] at Ss
 have af4:=hr.row.frozen 57
 have Jv:=hr.row.frozen 56
 have Dm:=hr.row.cell (i:=56) (by omega)
 rw[show Ac r vs vc (.slice none 0 0) vb 56=vb from rfl] at Dm
 obtain ⟨ad,cp,hvb⟩:=AX hr.A_
 have HR:Hid (BF w base b r vs vc vb):=hr
 have hnb:=hr.nb
 have hown:=hr.A_
 clear hr
 subst hvb
 have EC:(r.stmts:Int)<12:=by omega
 have CN:(r.body.length:Int)≤100000:=by omega
 go_enter Tryz.func103,Tryz.ntmps103
 go_wp2_with fail
 obtain ⟨W,hW⟩: ∃ W,W=((w.setCell ⟨b,57,none⟩ (.int .i64 (↑r.stmts+1))).alloc (Obj.cells #[.int .i64 i0,.int .i64 i1,.int .i64 i2,.int .i64 i3,.bool b4,.int .i64 i5,.bool b6,.int .i64 i7,.int .i64 (↑r.body.length+1),.int .i64 i9] 147)):=⟨_,rfl⟩
 rw[←hW]
 have AU:Hid (CB W base b (fun j=>if j=57 then .int .i64 (↑r.stmts+1) else Ac r vs vc (.slice none 0 0) (.slice ad r.body.length cp) j) r.Ah r.cells r.body vs vc (.slice ad r.body.length cp)):=by
  rw[hW];exact (HR.out.put 57 _).alloc _
 have AP:Hid (Below base w W):=by rw[hW];exact ((Below.refl _ _).setCell hge _).alloc (by simpa using BL) _
 have hsz:W.heap.size=w.heap.size+1:=by rw[hW];simp
 have blk:W.heap[w.heap.size]? =some (Obj.cells #[.int .i64 i0,.int .i64 i1,.int .i64 i2,.int .i64 i3,.bool b4,.int .i64 i5,.bool b6,.int .i64 i7,.int .i64 (↑r.body.length+1),.int .i64 i9] 147):=by
  rw[hW];have:=heap_alloc_new (w.setCell ⟨b,57,none⟩ (.int .i64 (↑r.stmts+1))) (Obj.cells #[.int .i64 i0,.int .i64 i1,.int .i64 i2,.int .i64 i3,.bool b4,.int .i64 i5,.bool b6,.int .i64 i7,.int .i64 (↑r.body.length+1),.int .i64 i9] 147);simpa using this
 have cl:=fun j u hj=>cellAt blk j u hj
 have c0:=cl 0 _ rfl
 have c1:=cl 1 _ rfl
 have c2:=cl 2 _ rfl
 have c3:=cl 3 _ rfl
 have c4:=cl 4 _ rfl
 have c5:=cl 5 _ rfl
 have c6:=cl 6 _ rfl
 have c7:=cl 7 _ rfl
 have c8:=cl 8 _ rfl
 have c9:=cl 9 _ rfl
 have d56:=AU.out.row.cell (i:=56) (by omega)
 have e56:=AU.out.row.frozen 56
 have hbW:b<W.heap.size:=AU.out.lt
 have af5:=AU.out.A_
 have hnew:(Value.slice ad r.body.length cp).ownBlock≠some w.heap.size:=fun e=>by have:=(hown.lt _ e).2;omega
 simp only[show Ac r vs vc (.slice none 0 0) (.slice ad r.body.length cp) 56=.slice ad r.body.length cp from rfl,if_neg (show ¬(56=57) by omega)] at d56
 clear hW cl blk Ss af4 Jv Dm hown HR EC
 have G9:Hid _:=hst
 clear hst
 go_region_law
  ((refine step_append_lies _ (by rfl) _ _ _ (by rfl) base 147 t0 _ 10 80 Tryz.underlying43 ht0 hz0 hz1 hz2 rfl (by omega) _ r.body.length (flat r.body) (by rfl) ((af5.alloc _).drew)
     ⟨w.heap.size+1,0,none⟩ 1 1 [.int .i64 i0,.int .i64 i1,.int .i64 i2,.int .i64 i3,.bool b4,.int .i64 i5,.bool b6,.int .i64 i7,.int .i64 (↑r.body.length+1),.int .i64 i9] (by simp[go_sem]) (by rfl) (World.news_of_block (cs:= #[.int .i64 i0,.int .i64 i1,.int .i64 i2,.int .i64 i3,.bool b4,.int .i64 i5,.bool b6,.int .i64 i7,.int .i64 (↑r.body.length+1),.int .i64 i9]) (t:=147) (fr:=(0,0)) (by rw[←hsz];exact heap_alloc_new W _)) (by simp[Value.oneCell'])
     (by omega) (by unfold maxLen;omega) (by omega) (by simp;omega) (w.heap.size+2) (by simp[hsz]) ?_;intro gg cap w1 hown1 hgrow hat Bk;have hfz:=(Ad ((AU.out.row.alloc _).drew) hgrow hnb).frozen 56;have hcx:=(Ad ((AU.out.row.alloc _).drew) hgrow hnb).cell (i:=56) (by omega)))
 all_goals go_wp2
 all_goals go_ret
 all_goals exact ⟨rfl,rM AU.out AP.out G9.out hown1 hgrow hat hsz⟩
structure Eo (w w':World) (base b:Nat) (o:Option Lk.RS):Prop where
 rep: ∀ r',o=some r'→ ∃ vs vc vb,BF w' base b r' vs vc vb
 A8:Below base w w'
theorem Bb {w w':World} {base b:Nat} {o:Option Lk.RS} (h:o=none) (hb:Below base w w'):Ending.returned (.bool false)=.returned (.bool o.isSome)∧Eo w w' base b o:=
 ⟨by rw[h];rfl,(fun r' e=>by rw[h] at e;cases e),hb⟩
theorem Kr {w w':World} {base b:Nat} {o:Option Lk.RS} {r':Lk.RS} {vs vc vb:Value} (h:o=some r') (hr:BF w' base b r' vs vc vb) (hb:Below base w w'):Ending.returned (.bool true)=.returned (.bool o.isSome)∧Eo w w' base b o:=
 ⟨by rw[h];rfl,fun Wz e=>by rw[h] at e;cases e;exact ⟨vs,vc,vb,hr⟩,hb⟩
theorem dS:ByteArray.empty.toList=[]:=tl0 rfl
theorem DT (ws:List ByteArray) (i:Nat):Lk.wd (ws.map ByteArray.toList) i=(ws.getD i ByteArray.empty).toList:=by
 unfold Lk.wd
 by_cases h:i<ws.length
 ·simp[List.getD_eq_getElem?_getD,h]
 ·have h1:ws.length≤i:=by omega
  simp[List.getD_eq_getElem?_getD,h1]
def CD (w:World) (g:Nat) (ws:List ByteArray):Prop:= ∀ i,i<ws.length→w.cell? ⟨g,i,none⟩=some (.string (ws.getD i ByteArray.empty))
theorem My (r:Lk.RS) (vs vc vk vb:Value) (b:Nat) (s:ByteArray) (w:World) (hrow:w.rowIs b 93 67 (Ac r vs vc vk vb)) (o:Option Lk.At) (h:Lk.atom? r s.toList=o):
  Calls Tryz.prog 102 #[.pointer (some ⟨b,0,none⟩),.string s] w fun e w'=>e=.returned (.tuple #[.agg #[.bool (o.getD {}).named,.int .i64 (o.getD {}).val],.bool o.isSome])∧Below w.heap.size w w':=by
 cases o with
 |none=>exact Ll r vs vc vk vb b s w hrow h
 |some x=>exact Em r vs vc vk vb b s w hrow x h
theorem Eo.after {w w1 w':World} {base b:Nat} {o:Option Lk.RS} (h:Eo w1 w' base b o) (hb:Below base w w1):Eo w w' base b o:=⟨h.rep,hb.trans h.A8⟩
theorem AH {w:World} {a:Addr} {v:Value} (h:w.cell? a=some v) (o:Obj):(w.alloc o).cell? a=some v:=cell_later ((Below.refl _ _).alloc (Nat.le_refl _) o) h
theorem SF (r:Lk.RS) (st:Lk.St) (vs vc vb:Value) (base b:Nat) (w:World) (hr:BF w base b r vs vc vb) (hbl:r.body.length≤100000) (i0 i1 i2 i3 i5 i7 i8 i9:Int) (b4 b6:Bool)
  (hst:AZ st=[.int .i64 i0,.int .i64 i1,.int .i64 i2,.int .i64 i3,.bool b4,.int .i64 i5,.bool b6,.int .i64 i7,.int .i64 i8,.int .i64 i9]):
  Calls Tryz.prog 103 #[.pointer (some ⟨b,0,none⟩),.agg #[.int .i64 i0,.int .i64 i1,.int .i64 i2,.int .i64 i3,.bool b4,.int .i64 i5,.bool b6,.int .i64 i7,.int .i64 i8,.int .i64 i9]] w fun e w'=>
   e=.returned (.bool (Lk.add r st).isSome)∧Eo w w' base b (Lk.add r st):=by
 by_cases hn:r.stmts<12
 ·refine (gZ r st vs vc vb base b w hr hn hbl i0 i1 i2 i3 i5 i7 i8 i9 b4 b6 hst).mono ?_
  rintro e w' ⟨rfl,⟨G8,h⟩,hb⟩
  exact Kr (by unfold Lk.add;rw[if_pos hn]) h hb
 ·have Ss:=hr.row.cell (i:=57) (by omega)
  rw[show Ac r vs vc (.slice none 0 0) vb 57=.int .i64 r.stmts from rfl] at Ss
  refine (gY b w r.stmts (by omega) Ss i0 i1 i2 i3 i5 i7 i8 i9 b4 b6 hr.lt).mono ?_
  rintro e w' ⟨rfl,hb⟩
  exact Bb (by unfold Lk.add;rw[if_neg hn]) (hb.mono hr.AJ)
theorem oO (r:Lk.RS) (vs vc vb:Value) (base b g cap:Nat) (ws:List ByteArray) (w:World) (hr:BF w base b r vs vc vb) (hw:CD w g ws) (hbl:r.body.length≤100000):
  Calls Tryz.prog 68 #[.pointer (some ⟨b,0,none⟩),.slice (some ⟨g,0,none⟩) ws.length cap] w fun e w'=>
   e=.returned (.bool (Lk.Hh r (ws.map ByteArray.toList)).isSome)∧Eo w w' base b (Lk.Hh r (ws.map ByteArray.toList)):=by
 have hlt:=hr.lt
 by_cases hl:ws.length=2
 ·have hc1:=hw 1 (by omega)
  generalize hq:ws.getD 1 ByteArray.empty=q at hc1
  have hwd:Lk.wd (ws.map ByteArray.toList) 1=q.toList:=by rw[DT,hq]
  have hS:Lk.Hh r (ws.map ByteArray.toList)=match Lk.atom? r q.toList with|some x=>Lk.add r { kind:=3,a:=x }|none=>none:=by
   unfold Lk.Hh;rw[if_pos (by simpa using hl),hwd];rfl
  rw[hS,hl]
  clear hwd hq hw hl hS
  have HR:Hid (BF w base b r vs vc vb):=hr
  clear hr
  cases ha:Lk.atom? r q.toList with
  |none=>
   go_enter Tryz.func68,Tryz.ntmps68
   go_wp2_with (first|(go_at_call 102;refine (Ll r vs vc (.slice none 0 0) vb b _ _ ?_ ha).mono ?_;exact HR.out.row;rintro e w' ⟨rfl,hb⟩))
   go_ret
   exact Bb rfl ((hb.mono HR.out.AJ).alloc (Nat.le_trans HR.out.AJ hb.size) _)
  |some x=>
   go_enter Tryz.func68,Tryz.ntmps68
   go_wp2_with (first|(go_at_call 102;refine (Em r vs vc (.slice none 0 0) vb b _ _ ?_ x ha).mono ?_;exact HR.out.row;rintro e w' ⟨rfl,hb⟩)|(go_at_call 103;refine (SF r { kind:=3,a:=x } vs vc vb base b _ ?_ hbl _ _ _ _ _ _ _ _ _ _ ?_).mono ?_;exact (HR.out.below hb).alloc _;rfl;rintro e w2 ⟨rfl,T⟩))
   go_ret
   exact ⟨rfl,T.after ((hb.mono HR.out.AJ).alloc (Nat.le_trans HR.out.AJ hb.size) _)⟩
 ·have hS:Lk.Hh r (ws.map ByteArray.toList)=none:=by
   unfold Lk.Hh;rw[if_neg (by simpa using hl)]
  have hl':((ws.length:Int)==2)=false:=by simp;omega
  clear hw
  generalize ws.length=n at hl'
  go_enter Tryz.func68,Tryz.ntmps68
  go_wp2_with fail
  go_ret
  exact Bb hS (Below.refl _ _)
theorem newAt (w:World) (cs:Array Value) (t:TypeId) (i:Nat) (u:Value) (h:cs[i]? =some u):(w.alloc (.cells cs t)).cell? ⟨w.heap.size,i,none⟩=some u:=cellAt (heap_alloc_new w _) i u h
theorem FE (r:Lk.RS) (vs vc vk vb:Value) (b:Nat) (s:ByteArray) (w:World) (hrow:w.rowIs b 93 67 (Ac r vs vc vk vb)) (p q:Nat) (hf:Lk.find r s.toList=(p,q)):
  Calls Tryz.prog 101 #[.pointer (some ⟨b,0,none⟩),.string s] w fun e w'=>e=.returned (.agg #[.int .i64 p,.int .i64 q])∧Below w.heap.size w w':=by
 have:=gX r vs vc vk vb b s w hrow
 rw[hf] at this
 exact this
theorem nu (r:Lk.RS) (vs vc vb:Value) (base b g cap:Nat) (ws:List ByteArray) (w:World) (hr:BF w base b r vs vc vb) (hw:CD w g ws) (hbl:r.body.length≤100000):
  Calls Tryz.prog 66 #[.pointer (some ⟨b,0,none⟩),.slice (some ⟨g,0,none⟩) ws.length cap] w fun e w'=>
   e=.returned (.bool (Lk.Hc r (ws.map ByteArray.toList)).isSome)∧Eo w w' base b (Lk.Hc r (ws.map ByteArray.toList)):=by
 have hlt:=hr.lt
 by_cases hl:ws.length=4
 ·have hc1:=hw 1 (by omega)
  have hc2:=hw 2 (by omega)
  have hc3:=hw 3 (by omega)
  have hg:g<w.heap.size:=World.block_lt_of_cell? w _ hc1
  generalize FJ:ws.getD 1 ByteArray.empty=q1 at hc1
  generalize ED:ws.getD 2 ByteArray.empty=q2 at hc2
  generalize Hx:ws.getD 3 ByteArray.empty=q3 at hc3
  obtain ⟨p,pq,Es⟩: ∃ p pq,Lk.find r q1.toList=(p,pq):=⟨_,_,rfl⟩
  obtain ⟨m,mq,hf2⟩: ∃ p pq,Lk.find r q2.toList=(p,pq):=⟨_,_,rfl⟩
  have hS:Lk.Hc r (ws.map ByteArray.toList)=if p=1∧m=2 then (match Lk.atom? r q3.toList with|some x=>Lk.add r { kind:=1,slot:=pq,arr:=mq,a:=x }|none=>none) else none:=by
   unfold Lk.Hc;rw[DT,DT,DT,FJ,ED,Hx,Es,hf2];simp[hl];rfl
  rw[hS,hl]
  clear FJ ED Hx hw hl hS
  have HR:Hid (BF w base b r vs vc vb):=hr
  clear hr
  have MO:Hid (Lk.find r q1.toList=(p,pq)):=Es
  have X0:Hid (Lk.find r q2.toList=(m,mq)):=hf2
  clear Es hf2
  obtain ⟨o,ha⟩: ∃ o,Lk.atom? r q3.toList=o:=⟨_,rfl⟩
  by_cases hp:p=1
  ·have hp':((p:Int) !=1)=false:=by simp;omega
   by_cases hm:m=2
   ·have hm':((m:Int) !=2)=false:=by simp;omega
    rw[if_pos ⟨hp,hm⟩,ha]
    clear hp hm
    cases o with
    |some x=>
     go_enter Tryz.func66,Tryz.ntmps66
     go_wp2_with (first
      |(go_at_call_of 101 (Value.string q1);refine (FE r vs vc (.slice none 0 0) vb b _ _ ?_ p pq MO.out).mono ?_;exact HR.out.row;rintro e w1 ⟨rfl,hb1⟩;have k2:=fun o=>AH (cell_later hb1 hc2) o;have k3:=cell_later hb1 hc3;have z1:=hb1.size)
      |(go_at_call_of 101 (Value.string q2);refine (FE r vs vc (.slice none 0 0) vb b _ _ ?_ m mq X0.out).mono ?_;exact ((HR.out.below hb1).alloc _).row;rintro e w2 ⟨rfl,hb2⟩;have l3:=fun o=>AH (cell_later hb2 (AH k3 _)) o;have z2:=hb2.size;simp at z2)
      |(go_at_call_of 102 (Value.string q3);refine (Em r vs vc (.slice none 0 0) vb b _ _ ?_ x ha).mono ?_;exact ((((HR.out.below hb1).alloc _).below hb2).alloc _).row;rintro e w3 ⟨rfl,hb3⟩;have t0:=fun o=>AH (cell_later hb3 (AH (cell_later hb2 (newAt w1 #[.int .i64 p,.int .i64 pq] 87 0 _ rfl)) _)) o;have t1:=fun o=>AH (cell_later hb3 (AH (cell_later hb2 (newAt w1 #[.int .i64 p,.int .i64 pq] 87 1 _ rfl)) _)) o;have u0:=fun o=>AH (cell_later hb3 (newAt w2 #[.int .i64 m,.int .i64 mq] 87 0 _ rfl)) o;have u1:=fun o=>AH (cell_later hb3 (newAt w2 #[.int .i64 m,.int .i64 mq] 87 1 _ rfl)) o;have z3:=hb3.size;simp at z3)
      |(go_at_call 103;refine (SF r { kind:=1,slot:=pq,arr:=mq,a:=x } vs vc vb base b _ ?_ hbl _ _ _ _ _ _ _ _ _ _ ?_).mono ?_;exact ((((((HR.out.below hb1).alloc _).below hb2).alloc _).below hb3).alloc _);rfl;rintro e w4 ⟨rfl,T⟩))
     go_ret
     exact ⟨rfl,T.after ((((((hb1.mono HR.out.AJ).alloc (by have:=HR.out.AJ;omega) _).trans (hb2.mono (by have:=HR.out.AJ;simp;omega))).alloc (by have:=HR.out.AJ;omega) _).trans (hb3.mono (by have:=HR.out.AJ;simp;omega))).alloc (by have:=HR.out.AJ;omega) _)⟩
    |none=>
     go_enter Tryz.func66,Tryz.ntmps66
     go_wp2_with (first
      |(go_at_call_of 101 (Value.string q1);refine (FE r vs vc (.slice none 0 0) vb b _ _ ?_ p pq MO.out).mono ?_;exact HR.out.row;rintro e w1 ⟨rfl,hb1⟩;have k2:=fun o=>AH (cell_later hb1 hc2) o;have k3:=cell_later hb1 hc3;have z1:=hb1.size)
      |(go_at_call_of 101 (Value.string q2);refine (FE r vs vc (.slice none 0 0) vb b _ _ ?_ m mq X0.out).mono ?_;exact ((HR.out.below hb1).alloc _).row;rintro e w2 ⟨rfl,hb2⟩;have l3:=fun o=>AH (cell_later hb2 (AH k3 _)) o;have z2:=hb2.size;simp at z2)
      |(go_at_call_of 102 (Value.string q3);refine (Ll r vs vc (.slice none 0 0) vb b _ _ ?_ ha).mono ?_;exact ((((HR.out.below hb1).alloc _).below hb2).alloc _).row;rintro e w3 ⟨rfl,hb3⟩;have t0:=fun o=>AH (cell_later hb3 (AH (cell_later hb2 (newAt w1 #[.int .i64 p,.int .i64 pq] 87 0 _ rfl)) _)) o;have t1:=fun o=>AH (cell_later hb3 (AH (cell_later hb2 (newAt w1 #[.int .i64 p,.int .i64 pq] 87 1 _ rfl)) _)) o;have u0:=fun o=>AH (cell_later hb3 (newAt w2 #[.int .i64 m,.int .i64 mq] 87 0 _ rfl)) o;have u1:=fun o=>AH (cell_later hb3 (newAt w2 #[.int .i64 m,.int .i64 mq] 87 1 _ rfl)) o;have z3:=hb3.size;simp at z3))
     go_ret
     exact Bb rfl ((((((hb1.mono HR.out.AJ).alloc (by have:=HR.out.AJ;omega) _).trans (hb2.mono (by have:=HR.out.AJ;simp;omega))).alloc (by have:=HR.out.AJ;omega) _).trans (hb3.mono (by have:=HR.out.AJ;simp;omega))).alloc (by have:=HR.out.AJ;omega) _)
   ·have hm':((m:Int) !=2)=true:=by simp;omega
    have Ha:Hid (Lk.atom? r q3.toList=o):=ha
    rw[if_neg (by omega)]
    clear ha hp hm
    go_enter Tryz.func66,Tryz.ntmps66
    go_wp2_with (first
     |(go_at_call_of 101 (Value.string q1);refine (FE r vs vc (.slice none 0 0) vb b _ _ ?_ p pq MO.out).mono ?_;exact HR.out.row;rintro e w1 ⟨rfl,hb1⟩;have k2:=fun o=>AH (cell_later hb1 hc2) o;have k3:=cell_later hb1 hc3;have z1:=hb1.size)
     |(go_at_call_of 101 (Value.string q2);refine (FE r vs vc (.slice none 0 0) vb b _ _ ?_ m mq X0.out).mono ?_;exact ((HR.out.below hb1).alloc _).row;rintro e w2 ⟨rfl,hb2⟩;have l3:=fun o=>AH (cell_later hb2 (AH k3 _)) o;have z2:=hb2.size;simp at z2)
     |(go_at_call_of 102 (Value.string q3);refine (My r vs vc (.slice none 0 0) vb b _ _ ?_ o Ha.out).mono ?_;exact ((((HR.out.below hb1).alloc _).below hb2).alloc _).row;rintro e w3 ⟨rfl,hb3⟩;have t0:=fun o=>AH (cell_later hb3 (AH (cell_later hb2 (newAt w1 #[.int .i64 p,.int .i64 pq] 87 0 _ rfl)) _)) o;have t1:=fun o=>AH (cell_later hb3 (AH (cell_later hb2 (newAt w1 #[.int .i64 p,.int .i64 pq] 87 1 _ rfl)) _)) o;have u0:=fun o=>AH (cell_later hb3 (newAt w2 #[.int .i64 m,.int .i64 mq] 87 0 _ rfl)) o;have u1:=fun o=>AH (cell_later hb3 (newAt w2 #[.int .i64 m,.int .i64 mq] 87 1 _ rfl)) o;have z3:=hb3.size;simp at z3))
    go_ret
    exact Bb rfl ((((((hb1.mono HR.out.AJ).alloc (by have:=HR.out.AJ;omega) _).trans (hb2.mono (by have:=HR.out.AJ;simp;omega))).alloc (by have:=HR.out.AJ;omega) _).trans (hb3.mono (by have:=HR.out.AJ;simp;omega))).alloc (by have:=HR.out.AJ;omega) _)
  ·have hp':((p:Int) !=1)=true:=by simp;omega
   have Ha:Hid (Lk.atom? r q3.toList=o):=ha
   rw[if_neg (by omega)]
   clear ha hp
   go_enter Tryz.func66,Tryz.ntmps66
   go_wp2_with (first
    |(go_at_call_of 101 (Value.string q1);refine (FE r vs vc (.slice none 0 0) vb b _ _ ?_ p pq MO.out).mono ?_;exact HR.out.row;rintro e w1 ⟨rfl,hb1⟩;have k2:=fun o=>AH (cell_later hb1 hc2) o;have k3:=cell_later hb1 hc3;have z1:=hb1.size)
    |(go_at_call_of 101 (Value.string q2);refine (FE r vs vc (.slice none 0 0) vb b _ _ ?_ m mq X0.out).mono ?_;exact ((HR.out.below hb1).alloc _).row;rintro e w2 ⟨rfl,hb2⟩;have l3:=fun o=>AH (cell_later hb2 (AH k3 _)) o;have z2:=hb2.size;simp at z2)
    |(go_at_call_of 102 (Value.string q3);refine (My r vs vc (.slice none 0 0) vb b _ _ ?_ o Ha.out).mono ?_;exact ((((HR.out.below hb1).alloc _).below hb2).alloc _).row;rintro e w3 ⟨rfl,hb3⟩;have t0:=fun o=>AH (cell_later hb3 (AH (cell_later hb2 (newAt w1 #[.int .i64 p,.int .i64 pq] 87 0 _ rfl)) _)) o;have t1:=fun o=>AH (cell_later hb3 (AH (cell_later hb2 (newAt w1 #[.int .i64 p,.int .i64 pq] 87 1 _ rfl)) _)) o;have u0:=fun o=>AH (cell_later hb3 (newAt w2 #[.int .i64 m,.int .i64 mq] 87 0 _ rfl)) o;have u1:=fun o=>AH (cell_later hb3 (newAt w2 #[.int .i64 m,.int .i64 mq] 87 1 _ rfl)) o;have z3:=hb3.size;simp at z3))
   go_ret
   exact Bb rfl ((((((hb1.mono HR.out.AJ).alloc (by have:=HR.out.AJ;omega) _).trans (hb2.mono (by have:=HR.out.AJ;simp;omega))).alloc (by have:=HR.out.AJ;omega) _).trans (hb3.mono (by have:=HR.out.AJ;simp;omega))).alloc (by have:=HR.out.AJ;omega) _)
 ·have hS:Lk.Hc r (ws.map ByteArray.toList)=none:=by
   unfold Lk.Hc;rw[if_neg (by simp;omega)]
  have hl':((ws.length:Int)==4)=false:=by simp;omega
  clear hw
  generalize ws.length=n at hl'
  go_enter Tryz.func66,Tryz.ntmps66
  go_wp2_with fail
  go_ret
  exact Bb hS (Below.refl _ _)
end Go.Proofs.YtgddmpmcnjlcjaaGreatDoor
