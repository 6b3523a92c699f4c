import Derived.Test.YtgddmpmcnjlcjaaGreatDoorB03
set_option maxRecDepth 100000
set_option maxHeartbeats 1000000
namespace Go.Proofs.YtgddmpmcnjlcjaaGreatDoor
open Go.RowKit
set_option linter.unusedVariables false
theorem nY (r:Lk.RS) (vs vc vb:Value) (base b g cap:Nat) (ws:List ByteArray) (w:World) (hr:BF w base b r vs vc vb) (hw:CD w g ws) (hbl:r.body.length≤100000):
  Calls Tryz.prog 67 #[.pointer (some ⟨b,0,none⟩),.slice (some ⟨g,0,none⟩) ws.length cap] w fun e w'=>
   e=.returned (.bool (Lk.Hb r (ws.map ByteArray.toList)).isSome)∧Eo w w' base b (Lk.Hb r (ws.map ByteArray.toList)):=by
 have hlt:=hr.lt
 by_cases hl:ws.length=4
 ·have hc1:=hw 1 (by omega)
  have hc2:=hw 2 (by omega)
  have hc3:=hw 3 (by omega)
  have hg:g<w.heap.size:=World.block_lt_of_cell? w _ hc1
  generalize FJ:ws.getD 1 ByteArray.empty=q1 at hc1
  generalize ED:ws.getD 2 ByteArray.empty=q2 at hc2
  generalize Hx:ws.getD 3 ByteArray.empty=q3 at hc3
  obtain ⟨p,pq,Es⟩: ∃ p pq,Lk.find r q1.toList=(p,pq):=⟨_,_,rfl⟩
  obtain ⟨o2,ha2⟩: ∃ o,Lk.atom? r q2.toList=o:=⟨_,rfl⟩
  obtain ⟨o3,cP⟩: ∃ o,Lk.atom? r q3.toList=o:=⟨_,rfl⟩
  have hS:Lk.Hb r (ws.map ByteArray.toList)=if p=2 then (match o2,o3 with|some x,some y=>Lk.add r { kind:=2,arr:=pq,a:=x,b:=y }|_,_=>none) else none:=by
   unfold Lk.Hb;rw[DT,DT,DT,FJ,ED,Hx,Es,ha2,cP];simp[hl];rfl
  rw[hS,hl]
  clear FJ ED Hx hw hl hS
  have HR:Hid (BF w base b r vs vc vb):=hr
  have MO:Hid (Lk.find r q1.toList=(p,pq)):=Es
  have Ia:Hid (Lk.atom? r q2.toList=o2):=ha2
  have X5:Hid (Lk.atom? r q3.toList=o3):=cP
  clear hr Es ha2 cP
  by_cases hp:p=2
  ·have hp':((p:Int) !=2)=false:=by simp;omega
   rw[if_pos hp]
   clear hp
   cases o2 with
   |none=>
    go_enter Tryz.func67,Tryz.ntmps67
    go_wp2_with (first
     |(go_at_call_of 101 (Value.string q1);refine (FE r vs vc (.slice none 0 0) vb b _ _ ?_ p pq MO.out).mono ?_;exact HR.out.row;rintro e w1 ⟨rfl,hb1⟩;have k2:=fun o=>AH (cell_later hb1 hc2) o;have k3:=cell_later hb1 hc3;have z1:=hb1.size)
     |(go_at_call_of 102 (Value.string q2);refine (Ll r vs vc (.slice none 0 0) vb b _ _ ?_ Ia.out).mono ?_;exact ((HR.out.below hb1).alloc _).row;rintro e w2 ⟨rfl,hb2⟩;have l3:=fun o=>AH (cell_later hb2 (AH k3 _)) o;have z2:=hb2.size;simp at z2)
     |(go_at_call_of 102 (Value.string q3);refine (My r vs vc (.slice none 0 0) vb b _ _ ?_ o3 X5.out).mono ?_;exact ((((HR.out.below hb1).alloc _).below hb2).alloc _).row;rintro e w3 ⟨rfl,hb3⟩;have t0:=fun o=>AH (cell_later hb3 (AH (cell_later hb2 (newAt w1 #[.int .i64 p,.int .i64 pq] 87 0 _ rfl)) _)) o;have t1:=fun o=>AH (cell_later hb3 (AH (cell_later hb2 (newAt w1 #[.int .i64 p,.int .i64 pq] 87 1 _ rfl)) _)) o;have u0:=fun o=>AH (cell_later hb3 (newAt w2 #[.bool false,.int .i64 0] 145 0 _ rfl)) o;have u1:=fun o=>AH (cell_later hb3 (newAt w2 #[.bool false,.int .i64 0] 145 1 _ rfl)) o;have z3:=hb3.size;simp at z3))
    go_ret
    exact Bb rfl ((((((hb1.mono HR.out.AJ).alloc (by have:=HR.out.AJ;omega) _).trans (hb2.mono (by have:=HR.out.AJ;simp;omega))).alloc (by have:=HR.out.AJ;omega) _).trans (hb3.mono (by have:=HR.out.AJ;simp;omega))).alloc (by have:=HR.out.AJ;omega) _)
   |some x=>
    cases o3 with
    |none=>
     go_enter Tryz.func67,Tryz.ntmps67
     go_wp2_with (first
      |(go_at_call_of 101 (Value.string q1);refine (FE r vs vc (.slice none 0 0) vb b _ _ ?_ p pq MO.out).mono ?_;exact HR.out.row;rintro e w1 ⟨rfl,hb1⟩;have k2:=fun o=>AH (cell_later hb1 hc2) o;have k3:=cell_later hb1 hc3;have z1:=hb1.size)
      |(go_at_call_of 102 (Value.string q2);refine (Em r vs vc (.slice none 0 0) vb b _ _ ?_ x Ia.out).mono ?_;exact ((HR.out.below hb1).alloc _).row;rintro e w2 ⟨rfl,hb2⟩;have l3:=fun o=>AH (cell_later hb2 (AH k3 _)) o;have z2:=hb2.size;simp at z2)
      |(go_at_call_of 102 (Value.string q3);refine (Ll r vs vc (.slice none 0 0) vb b _ _ ?_ X5.out).mono ?_;exact ((((HR.out.below hb1).alloc _).below hb2).alloc _).row;rintro e w3 ⟨rfl,hb3⟩;have t0:=fun o=>AH (cell_later hb3 (AH (cell_later hb2 (newAt w1 #[.int .i64 p,.int .i64 pq] 87 0 _ rfl)) _)) o;have t1:=fun o=>AH (cell_later hb3 (AH (cell_later hb2 (newAt w1 #[.int .i64 p,.int .i64 pq] 87 1 _ rfl)) _)) o;have u0:=fun o=>AH (cell_later hb3 (newAt w2 #[.bool x.named,.int .i64 x.val] 145 0 _ rfl)) o;have u1:=fun o=>AH (cell_later hb3 (newAt w2 #[.bool x.named,.int .i64 x.val] 145 1 _ rfl)) o;have z3:=hb3.size;simp at z3))
     go_ret
     exact Bb rfl ((((((hb1.mono HR.out.AJ).alloc (by have:=HR.out.AJ;omega) _).trans (hb2.mono (by have:=HR.out.AJ;simp;omega))).alloc (by have:=HR.out.AJ;omega) _).trans (hb3.mono (by have:=HR.out.AJ;simp;omega))).alloc (by have:=HR.out.AJ;omega) _)
    |some y=>
     go_enter Tryz.func67,Tryz.ntmps67
     go_wp2_with (first
      |(go_at_call_of 101 (Value.string q1);refine (FE r vs vc (.slice none 0 0) vb b _ _ ?_ p pq MO.out).mono ?_;exact HR.out.row;rintro e w1 ⟨rfl,hb1⟩;have k2:=fun o=>AH (cell_later hb1 hc2) o;have k3:=cell_later hb1 hc3;have z1:=hb1.size)
      |(go_at_call_of 102 (Value.string q2);refine (Em r vs vc (.slice none 0 0) vb b _ _ ?_ x Ia.out).mono ?_;exact ((HR.out.below hb1).alloc _).row;rintro e w2 ⟨rfl,hb2⟩;have l3:=fun o=>AH (cell_later hb2 (AH k3 _)) o;have z2:=hb2.size;simp at z2)
      |(go_at_call_of 102 (Value.string q3);refine (Em r vs vc (.slice none 0 0) vb b _ _ ?_ y X5.out).mono ?_;exact ((((HR.out.below hb1).alloc _).below hb2).alloc _).row;rintro e w3 ⟨rfl,hb3⟩;have t0:=fun o=>AH (cell_later hb3 (AH (cell_later hb2 (newAt w1 #[.int .i64 p,.int .i64 pq] 87 0 _ rfl)) _)) o;have t1:=fun o=>AH (cell_later hb3 (AH (cell_later hb2 (newAt w1 #[.int .i64 p,.int .i64 pq] 87 1 _ rfl)) _)) o;have u0:=fun o=>AH (cell_later hb3 (newAt w2 #[.bool x.named,.int .i64 x.val] 145 0 _ rfl)) o;have u1:=fun o=>AH (cell_later hb3 (newAt w2 #[.bool x.named,.int .i64 x.val] 145 1 _ rfl)) o;have z3:=hb3.size;simp at z3)
      |(go_at_call 103;refine (SF r { kind:=2,arr:=pq,a:=x,b:=y } vs vc vb base b _ ?_ hbl _ _ _ _ _ _ _ _ _ _ ?_).mono ?_;exact ((((((HR.out.below hb1).alloc _).below hb2).alloc _).below hb3).alloc _);rfl;rintro e w4 ⟨rfl,T⟩))
     go_ret
     exact ⟨rfl,T.after ((((((hb1.mono HR.out.AJ).alloc (by have:=HR.out.AJ;omega) _).trans (hb2.mono (by have:=HR.out.AJ;simp;omega))).alloc (by have:=HR.out.AJ;omega) _).trans (hb3.mono (by have:=HR.out.AJ;simp;omega))).alloc (by have:=HR.out.AJ;omega) _)⟩
  ·have hp':((p:Int) !=2)=true:=by simp;omega
   rw[if_neg hp]
   clear hp
   go_enter Tryz.func67,Tryz.ntmps67
   go_wp2_with (first
    |(go_at_call_of 101 (Value.string q1);refine (FE r vs vc (.slice none 0 0) vb b _ _ ?_ p pq MO.out).mono ?_;exact HR.out.row;rintro e w1 ⟨rfl,hb1⟩;have k2:=fun o=>AH (cell_later hb1 hc2) o;have k3:=cell_later hb1 hc3;have z1:=hb1.size)
    |(go_at_call_of 102 (Value.string q2);refine (My r vs vc (.slice none 0 0) vb b _ _ ?_ o2 Ia.out).mono ?_;exact ((HR.out.below hb1).alloc _).row;rintro e w2 ⟨rfl,hb2⟩;have l3:=fun o=>AH (cell_later hb2 (AH k3 _)) o;have z2:=hb2.size;simp at z2)
    |(go_at_call_of 102 (Value.string q3);refine (My r vs vc (.slice none 0 0) vb b _ _ ?_ o3 X5.out).mono ?_;exact ((((HR.out.below hb1).alloc _).below hb2).alloc _).row;rintro e w3 ⟨rfl,hb3⟩;have t0:=fun o=>AH (cell_later hb3 (AH (cell_later hb2 (newAt w1 #[.int .i64 p,.int .i64 pq] 87 0 _ rfl)) _)) o;have t1:=fun o=>AH (cell_later hb3 (AH (cell_later hb2 (newAt w1 #[.int .i64 p,.int .i64 pq] 87 1 _ rfl)) _)) o;have u0:=fun o=>AH (cell_later hb3 (newAt w2 #[.bool (o2.getD {}).named,.int .i64 (o2.getD {}).val] 145 0 _ rfl)) o;have u1:=fun o=>AH (cell_later hb3 (newAt w2 #[.bool (o2.getD {}).named,.int .i64 (o2.getD {}).val] 145 1 _ rfl)) o;have z3:=hb3.size;simp at z3))
   go_ret
   exact Bb rfl ((((((hb1.mono HR.out.AJ).alloc (by have:=HR.out.AJ;omega) _).trans (hb2.mono (by have:=HR.out.AJ;simp;omega))).alloc (by have:=HR.out.AJ;omega) _).trans (hb3.mono (by have:=HR.out.AJ;simp;omega))).alloc (by have:=HR.out.AJ;omega) _)
 ·have hS:Lk.Hb r (ws.map ByteArray.toList)=none:=by
   unfold Lk.Hb;rw[if_neg (by simp;omega)]
  have af6:((ws.length:Int) !=4)=true:=by simp;omega
  clear hw hl
  generalize ws.length=n at af6
  go_enter Tryz.func67,Tryz.ntmps67
  go_wp2_with fail
  go_ret
  exact Bb hS (Below.refl _ _)
theorem dH (s:ByteArray) (w:World) (n:Nat) (h:Lk.oper? s.toList=some n):
  Calls Tryz.prog 104 #[.string s] w fun e w'=>e=.returned (.int .i64 n)∧w'=w:=by
 rw[←VJ h];exact dL s w
theorem nU (s:ByteArray) (w:World) (h:Lk.oper? s.toList=none):
  Calls Tryz.prog 104 #[.string s] w fun e w'=>e=.returned (.int .i64 (-1))∧w'=w:=by
 rw[←YI h];exact dL s w
theorem nV (r:Lk.RS) (vs vc vb:Value) (base b g cap:Nat) (ws:List ByteArray) (w:World) (hr:BF w base b r vs vc vb) (hw:CD w g ws) (hbl:r.body.length≤100000):
  Calls Tryz.prog 72 #[.pointer (some ⟨b,0,none⟩),.slice (some ⟨g,0,none⟩) ws.length cap] w fun e w'=>
   e=.returned (.bool (Lk.GN r (ws.map ByteArray.toList)).isSome)∧Eo w w' base b (Lk.GN r (ws.map ByteArray.toList)):=by
 have hlt:=hr.lt
 by_cases hl:ws.length=3
 ·have hc0:=hw 0 (by omega)
  have hc1:=hw 1 (by omega)
  have hc2:=hw 2 (by omega)
  have hg:g<w.heap.size:=World.block_lt_of_cell? w _ hc0
  generalize hq0:ws.getD 0 ByteArray.empty=q0 at hc0
  generalize FJ:ws.getD 1 ByteArray.empty=q1 at hc1
  generalize ED:ws.getD 2 ByteArray.empty=q2 at hc2
  obtain ⟨p,pq,Gp⟩: ∃ p pq,Lk.find r q0.toList=(p,pq):=⟨_,_,rfl⟩
  obtain ⟨o2,ha2⟩: ∃ o,Lk.atom? r q2.toList=o:=⟨_,rfl⟩
  have hS:Lk.GN r (ws.map ByteArray.toList)=if (q1.toList==[61])=true∧p=1 then (match o2 with|some x=>Lk.add r { kind:=0,op:=0,slot:=pq,a:=x }|none=>none) else none:=by
   unfold Lk.GN;simp only[DT,hq0,FJ,ED,Gp,ha2];simp[hl]
   first|rfl|(cases o2 <;> rfl)
  rw[hS,hl]
  clear hq0 FJ ED hw hl hS
  have HR:Hid (BF w base b r vs vc vb):=hr
  have MP:Hid (Lk.find r q0.toList=(p,pq)):=Gp
  have Ia:Hid (Lk.atom? r q2.toList=o2):=ha2
  clear hr Gp ha2
  cases he:(q1.toList==[61]) with
  |false=>
   rw[if_neg (by simp)]
   go_enter Tryz.func72,Tryz.ntmps72
   go_wp2_with fail
   go_ret
   exact Bb rfl (Below.refl _ _)
  |true=>
   by_cases hp:p=1
   ·have hp':((p:Int) !=1)=false:=by simp;omega
    rw[if_pos ⟨rfl,hp⟩]
    clear hp
    cases o2 with
    |none=>
     go_enter Tryz.func72,Tryz.ntmps72
     go_wp2_with (first
      |(go_at_call_of 101 (Value.string q0);refine (FE r vs vc (.slice none 0 0) vb b _ _ ?_ p pq MP.out).mono ?_;exact HR.out.row;rintro e w1 ⟨rfl,hb1⟩;have k2:=fun o=>AH (cell_later hb1 hc2) o;have z1:=hb1.size)
      |(go_at_call_of 102 (Value.string q2);refine (Ll r vs vc (.slice none 0 0) vb b _ _ ?_ Ia.out).mono ?_;exact ((HR.out.below hb1).alloc _).row;rintro e w2 ⟨rfl,hb2⟩;have t0:=fun o=>AH (cell_later hb2 (newAt w1 #[.int .i64 p,.int .i64 pq] 87 0 _ rfl)) o;have t1:=fun o=>AH (cell_later hb2 (newAt w1 #[.int .i64 p,.int .i64 pq] 87 1 _ rfl)) o;have z2:=hb2.size;simp at z2))
     go_ret
     exact Bb rfl ((((hb1.mono HR.out.AJ).alloc (by have:=HR.out.AJ;omega) _).trans (hb2.mono (by have:=HR.out.AJ;simp;omega))).alloc (by have:=HR.out.AJ;omega) _)
    |some x=>
     go_enter Tryz.func72,Tryz.ntmps72
     go_wp2_with (first
      |(go_at_call_of 101 (Value.string q0);refine (FE r vs vc (.slice none 0 0) vb b _ _ ?_ p pq MP.out).mono ?_;exact HR.out.row;rintro e w1 ⟨rfl,hb1⟩;have k2:=fun o=>AH (cell_later hb1 hc2) o;have z1:=hb1.size)
      |(go_at_call_of 102 (Value.string q2);refine (Em r vs vc (.slice none 0 0) vb b _ _ ?_ x Ia.out).mono ?_;exact ((HR.out.below hb1).alloc _).row;rintro e w2 ⟨rfl,hb2⟩;have t0:=fun o=>AH (cell_later hb2 (newAt w1 #[.int .i64 p,.int .i64 pq] 87 0 _ rfl)) o;have t1:=fun o=>AH (cell_later hb2 (newAt w1 #[.int .i64 p,.int .i64 pq] 87 1 _ rfl)) o;have z2:=hb2.size;simp at z2)
      |(go_at_call 103;refine (SF r { kind:=0,op:=0,slot:=pq,a:=x } vs vc vb base b _ ?_ hbl _ _ _ _ _ _ _ _ _ _ ?_).mono ?_;exact ((((HR.out.below hb1).alloc _).below hb2).alloc _);rfl;rintro e w4 ⟨rfl,T⟩))
     go_ret
     exact ⟨rfl,T.after ((((hb1.mono HR.out.AJ).alloc (by have:=HR.out.AJ;omega) _).trans (hb2.mono (by have:=HR.out.AJ;simp;omega))).alloc (by have:=HR.out.AJ;omega) _)⟩
   ·have hp':((p:Int) !=1)=true:=by simp;omega
    rw[if_neg (fun h=>hp h.2)]
    clear hp
    go_enter Tryz.func72,Tryz.ntmps72
    go_wp2_with (first
     |(go_at_call_of 101 (Value.string q0);refine (FE r vs vc (.slice none 0 0) vb b _ _ ?_ p pq MP.out).mono ?_;exact HR.out.row;rintro e w1 ⟨rfl,hb1⟩;have k2:=fun o=>AH (cell_later hb1 hc2) o;have z1:=hb1.size)
     |(go_at_call_of 102 (Value.string q2);refine (My r vs vc (.slice none 0 0) vb b _ _ ?_ o2 Ia.out).mono ?_;exact ((HR.out.below hb1).alloc _).row;rintro e w2 ⟨rfl,hb2⟩;have t0:=fun o=>AH (cell_later hb2 (newAt w1 #[.int .i64 p,.int .i64 pq] 87 0 _ rfl)) o;have t1:=fun o=>AH (cell_later hb2 (newAt w1 #[.int .i64 p,.int .i64 pq] 87 1 _ rfl)) o;have z2:=hb2.size;simp at z2))
    go_ret
    exact Bb rfl ((((hb1.mono HR.out.AJ).alloc (by have:=HR.out.AJ;omega) _).trans (hb2.mono (by have:=HR.out.AJ;simp;omega))).alloc (by have:=HR.out.AJ;omega) _)
 ·by_cases X6:ws.length=5
  ·have hc0:=hw 0 (by omega)
   have hc1:=hw 1 (by omega)
   have hc2:=hw 2 (by omega)
   have hc3:=hw 3 (by omega)
   have NV:=hw 4 (by omega)
   have hg:g<w.heap.size:=World.block_lt_of_cell? w _ hc0
   generalize hq0:ws.getD 0 ByteArray.empty=q0 at hc0
   generalize FJ:ws.getD 1 ByteArray.empty=q1 at hc1
   generalize ED:ws.getD 2 ByteArray.empty=q2 at hc2
   generalize Hx:ws.getD 3 ByteArray.empty=q3 at hc3
   generalize hq4:ws.getD 4 ByteArray.empty=q4 at NV
   obtain ⟨p,pq,Gp⟩: ∃ p pq,Lk.find r q0.toList=(p,pq):=⟨_,_,rfl⟩
   obtain ⟨o2,ha2⟩: ∃ o,Lk.atom? r q2.toList=o:=⟨_,rfl⟩
   obtain ⟨ow,ho⟩: ∃ o,Lk.oper? q3.toList=o:=⟨_,rfl⟩
   obtain ⟨o4,cU⟩: ∃ o,Lk.atom? r q4.toList=o:=⟨_,rfl⟩
   have hS:Lk.GN r (ws.map ByteArray.toList)=if (q1.toList==[61])=true∧p=1 then (match o2 with|some x=>(match ow,o4 with|some oo,some y=>Lk.add r { kind:=0,op:=oo,slot:=pq,a:=x,b:=y }|_,_=>none)|none=>none) else none:=by
    unfold Lk.GN;simp only[DT,hq0,FJ,ED,Hx,hq4,ho,cU,Gp,ha2];simp[X6]
    first|rfl|(cases o2 <;> cases ow <;> cases o4 <;> rfl)
   rw[hS,X6]
   clear hq0 FJ ED Hx hq4 hw hl X6 hS
   have HR:Hid (BF w base b r vs vc vb):=hr
   have MP:Hid (Lk.find r q0.toList=(p,pq)):=Gp
   have Ia:Hid (Lk.atom? r q2.toList=o2):=ha2
   have Ho:Hid (Lk.oper? q3.toList=ow):=ho
   have cW:Hid (Lk.atom? r q4.toList=o4):=cU
   clear ho cU
   clear hr Gp ha2
   cases he:(q1.toList==[61]) with
   |false=>
    rw[if_neg (by simp)]
    go_enter Tryz.func72,Tryz.ntmps72
    go_wp2_with fail
    go_ret
    exact Bb rfl (Below.refl _ _)
   |true=>
    by_cases hp:p=1
    ·have hp':((p:Int) !=1)=false:=by simp;omega
     rw[if_pos ⟨rfl,hp⟩]
     clear hp
     cases o2 with
     |none=>
      go_enter Tryz.func72,Tryz.ntmps72
      go_wp2_with (first
       |(go_at_call_of 101 (Value.string q0);refine (FE r vs vc (.slice none 0 0) vb b _ _ ?_ p pq MP.out).mono ?_;exact HR.out.row;rintro e w1 ⟨rfl,hb1⟩;have k2:=fun o=>AH (cell_later hb1 hc2) o;have k3:=cell_later hb1 hc3;have k4:=cell_later hb1 NV;have z1:=hb1.size)
       |(go_at_call_of 102 (Value.string q2);refine (Ll r vs vc (.slice none 0 0) vb b _ _ ?_ Ia.out).mono ?_;exact ((HR.out.below hb1).alloc _).row;rintro e w2 ⟨rfl,hb2⟩;have t0:=fun o=>AH (cell_later hb2 (newAt w1 #[.int .i64 p,.int .i64 pq] 87 0 _ rfl)) o;have t1:=fun o=>AH (cell_later hb2 (newAt w1 #[.int .i64 p,.int .i64 pq] 87 1 _ rfl)) o;have z2:=hb2.size;simp at z2;have l3:=fun o=>AH (cell_later hb2 (AH k3 _)) o;have l4:=fun o=>AH (cell_later hb2 (AH k4 _)) o))
      go_ret
      exact Bb rfl ((((hb1.mono HR.out.AJ).alloc (by have:=HR.out.AJ;omega) _).trans (hb2.mono (by have:=HR.out.AJ;simp;omega))).alloc (by have:=HR.out.AJ;omega) _)
     |some x=>
      cases ow with
      |none=>
       go_enter Tryz.func72,Tryz.ntmps72
       go_wp2_with (first
        |(go_at_call_of 101 (Value.string q0);refine (FE r vs vc (.slice none 0 0) vb b _ _ ?_ p pq MP.out).mono ?_;exact HR.out.row;rintro e w1 ⟨rfl,hb1⟩;have k2:=fun o=>AH (cell_later hb1 hc2) o;have k3:=cell_later hb1 hc3;have k4:=cell_later hb1 NV;have z1:=hb1.size)
        |(go_at_call_of 102 (Value.string q2);refine (Em r vs vc (.slice none 0 0) vb b _ _ ?_ x Ia.out).mono ?_;exact ((HR.out.below hb1).alloc _).row;rintro e w2 ⟨rfl,hb2⟩;have t0:=fun o=>AH (cell_later hb2 (newAt w1 #[.int .i64 p,.int .i64 pq] 87 0 _ rfl)) o;have t1:=fun o=>AH (cell_later hb2 (newAt w1 #[.int .i64 p,.int .i64 pq] 87 1 _ rfl)) o;have z2:=hb2.size;simp at z2;have l3:=fun o=>AH (cell_later hb2 (AH k3 _)) o;have l4:=fun o=>AH (cell_later hb2 (AH k4 _)) o)
        |(go_at_call 104;refine (nU _ _ Ho.out).mono ?_;rintro e w9 ⟨rfl,rfl⟩)
        |(go_at_call_of 102 (Value.string q4);refine (My r vs vc (.slice none 0 0) vb b _ _ ?_ o4 cW.out).mono ?_;exact ((((HR.out.below hb1).alloc _).below hb2).alloc _).row;rintro e w3 ⟨rfl,hb3⟩;have m0:=fun o=>AH (cell_later hb3 (t0 _)) o;have m1:=fun o=>AH (cell_later hb3 (t1 _)) o;have u0:=fun o=>AH (cell_later hb3 (newAt w2 #[.bool x.named,.int .i64 x.val] 145 0 _ rfl)) o;have u1:=fun o=>AH (cell_later hb3 (newAt w2 #[.bool x.named,.int .i64 x.val] 145 1 _ rfl)) o;have z3:=hb3.size;simp at z3))
       go_ret
       exact Bb rfl ((((((hb1.mono HR.out.AJ).alloc (by have:=HR.out.AJ;omega) _).trans (hb2.mono (by have:=HR.out.AJ;simp;omega))).alloc (by have:=HR.out.AJ;omega) _).trans (hb3.mono (by have:=HR.out.AJ;simp;omega))).alloc (by have:=HR.out.AJ;omega) _)
      |some oo=>
       have ho0:(0:Int)≤(oo:Int):=by omega
       cases o4 with
       |none=>
        go_enter Tryz.func72,Tryz.ntmps72
        go_wp2_with (first
         |(go_at_call_of 101 (Value.string q0);refine (FE r vs vc (.slice none 0 0) vb b _ _ ?_ p pq MP.out).mono ?_;exact HR.out.row;rintro e w1 ⟨rfl,hb1⟩;have k2:=fun o=>AH (cell_later hb1 hc2) o;have k3:=cell_later hb1 hc3;have k4:=cell_later hb1 NV;have z1:=hb1.size)
         |(go_at_call_of 102 (Value.string q2);refine (Em r vs vc (.slice none 0 0) vb b _ _ ?_ x Ia.out).mono ?_;exact ((HR.out.below hb1).alloc _).row;rintro e w2 ⟨rfl,hb2⟩;have t0:=fun o=>AH (cell_later hb2 (newAt w1 #[.int .i64 p,.int .i64 pq] 87 0 _ rfl)) o;have t1:=fun o=>AH (cell_later hb2 (newAt w1 #[.int .i64 p,.int .i64 pq] 87 1 _ rfl)) o;have z2:=hb2.size;simp at z2;have l3:=fun o=>AH (cell_later hb2 (AH k3 _)) o;have l4:=fun o=>AH (cell_later hb2 (AH k4 _)) o)
         |(go_at_call 104;refine (dH _ _ oo Ho.out).mono ?_;rintro e w9 ⟨rfl,rfl⟩)
         |(go_at_call_of 102 (Value.string q4);refine (Ll r vs vc (.slice none 0 0) vb b _ _ ?_ cW.out).mono ?_;exact ((((HR.out.below hb1).alloc _).below hb2).alloc _).row;rintro e w3 ⟨rfl,hb3⟩;have m0:=fun o=>AH (cell_later hb3 (t0 _)) o;have m1:=fun o=>AH (cell_later hb3 (t1 _)) o;have u0:=fun o=>AH (cell_later hb3 (newAt w2 #[.bool x.named,.int .i64 x.val] 145 0 _ rfl)) o;have u1:=fun o=>AH (cell_later hb3 (newAt w2 #[.bool x.named,.int .i64 x.val] 145 1 _ rfl)) o;have z3:=hb3.size;simp at z3))
        go_ret
        exact Bb rfl ((((((hb1.mono HR.out.AJ).alloc (by have:=HR.out.AJ;omega) _).trans (hb2.mono (by have:=HR.out.AJ;simp;omega))).alloc (by have:=HR.out.AJ;omega) _).trans (hb3.mono (by have:=HR.out.AJ;simp;omega))).alloc (by have:=HR.out.AJ;omega) _)
       |some y=>
        go_enter Tryz.func72,Tryz.ntmps72
        go_wp2_with (first
         |(go_at_call_of 101 (Value.string q0);refine (FE r vs vc (.slice none 0 0) vb b _ _ ?_ p pq MP.out).mono ?_;exact HR.out.row;rintro e w1 ⟨rfl,hb1⟩;have k2:=fun o=>AH (cell_later hb1 hc2) o;have k3:=cell_later hb1 hc3;have k4:=cell_later hb1 NV;have z1:=hb1.size)
         |(go_at_call_of 102 (Value.string q2);refine (Em r vs vc (.slice none 0 0) vb b _ _ ?_ x Ia.out).mono ?_;exact ((HR.out.below hb1).alloc _).row;rintro e w2 ⟨rfl,hb2⟩;have t0:=fun o=>AH (cell_later hb2 (newAt w1 #[.int .i64 p,.int .i64 pq] 87 0 _ rfl)) o;have t1:=fun o=>AH (cell_later hb2 (newAt w1 #[.int .i64 p,.int .i64 pq] 87 1 _ rfl)) o;have z2:=hb2.size;simp at z2;have l3:=fun o=>AH (cell_later hb2 (AH k3 _)) o;have l4:=fun o=>AH (cell_later hb2 (AH k4 _)) o)
         |(go_at_call 104;refine (dH _ _ oo Ho.out).mono ?_;rintro e w9 ⟨rfl,rfl⟩)
         |(go_at_call_of 102 (Value.string q4);refine (Em r vs vc (.slice none 0 0) vb b _ _ ?_ y cW.out).mono ?_;exact ((((HR.out.below hb1).alloc _).below hb2).alloc _).row;rintro e w3 ⟨rfl,hb3⟩;have m0:=fun o=>AH (cell_later hb3 (t0 _)) o;have m1:=fun o=>AH (cell_later hb3 (t1 _)) o;have u0:=fun o=>AH (cell_later hb3 (newAt w2 #[.bool x.named,.int .i64 x.val] 145 0 _ rfl)) o;have u1:=fun o=>AH (cell_later hb3 (newAt w2 #[.bool x.named,.int .i64 x.val] 145 1 _ rfl)) o;have z3:=hb3.size;simp at z3)
         |(go_at_call 103;refine (SF r { kind:=0,op:=oo,slot:=pq,a:=x,b:=y } vs vc vb base b _ ?_ hbl _ _ _ _ _ _ _ _ _ _ ?_).mono ?_;exact ((((((HR.out.below hb1).alloc _).below hb2).alloc _).below hb3).alloc _);rfl;rintro e w4 ⟨rfl,T⟩))
        go_ret
        exact ⟨rfl,T.after ((((((hb1.mono HR.out.AJ).alloc (by have:=HR.out.AJ;omega) _).trans (hb2.mono (by have:=HR.out.AJ;simp;omega))).alloc (by have:=HR.out.AJ;omega) _).trans (hb3.mono (by have:=HR.out.AJ;simp;omega))).alloc (by have:=HR.out.AJ;omega) _)⟩
    ·have hp':((p:Int) !=1)=true:=by simp;omega
     rw[if_neg (fun h=>hp h.2)]
     clear hp
     go_enter Tryz.func72,Tryz.ntmps72
     go_wp2_with (first
      |(go_at_call_of 101 (Value.string q0);refine (FE r vs vc (.slice none 0 0) vb b _ _ ?_ p pq MP.out).mono ?_;exact HR.out.row;rintro e w1 ⟨rfl,hb1⟩;have k2:=fun o=>AH (cell_later hb1 hc2) o;have k3:=cell_later hb1 hc3;have k4:=cell_later hb1 NV;have z1:=hb1.size)
      |(go_at_call_of 102 (Value.string q2);refine (My r vs vc (.slice none 0 0) vb b _ _ ?_ o2 Ia.out).mono ?_;exact ((HR.out.below hb1).alloc _).row;rintro e w2 ⟨rfl,hb2⟩;have t0:=fun o=>AH (cell_later hb2 (newAt w1 #[.int .i64 p,.int .i64 pq] 87 0 _ rfl)) o;have t1:=fun o=>AH (cell_later hb2 (newAt w1 #[.int .i64 p,.int .i64 pq] 87 1 _ rfl)) o;have z2:=hb2.size;simp at z2;have l3:=fun o=>AH (cell_later hb2 (AH k3 _)) o;have l4:=fun o=>AH (cell_later hb2 (AH k4 _)) o))
     go_ret
     exact Bb rfl ((((hb1.mono HR.out.AJ).alloc (by have:=HR.out.AJ;omega) _).trans (hb2.mono (by have:=HR.out.AJ;simp;omega))).alloc (by have:=HR.out.AJ;omega) _)
  ·have hS:Lk.GN r (ws.map ByteArray.toList)=none:=by
    unfold Lk.GN;rw[if_neg (by simp;omega)]
   have af7:((ws.length:Int) !=3)=true:=by simp;omega
   have af9:((ws.length:Int) !=5)=true:=by simp;omega
   clear hw hl X6
   generalize ws.length=n at af7 af9
   go_enter Tryz.func72,Tryz.ntmps72
   go_wp2_with fail
   go_ret
   exact Bb hS (Below.refl _ _)
end Go.Proofs.YtgddmpmcnjlcjaaGreatDoor
