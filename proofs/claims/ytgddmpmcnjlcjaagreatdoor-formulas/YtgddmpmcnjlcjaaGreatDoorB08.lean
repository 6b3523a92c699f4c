import Derived.Test.YtgddmpmcnjlcjaaGreatDoorB07
set_option maxRecDepth 100000
set_option maxHeartbeats 1000000
namespace Go.Proofs.YtgddmpmcnjlcjaaGreatDoor
open Go.RowKit
set_option linter.unusedVariables false
theorem VK (r:Lk.RS) (vs vc vk vb G8:Value) (d:Nat) (bd:List Lk.St) (j:Nat) (hj:j<67):
  (if j=56 then G8 else if j=66 then Value.int .i64 d else Ac r vs vc vk vb j)=Ac { r with depth:=d,body:=bd } vs vc vk G8 j:=by
 by_cases h0:j=56
 ·subst h0;rfl
 ·rw[if_neg h0]
  by_cases h1:j=66
  ·subst h1;rfl
  ·rw[if_neg h1]
   unfold Ac
   simp only[h0,if_false]
   repeat' split
   all_goals first|rfl|omega
theorem rR (r:Lk.RS) (vs vc vb:Value) (base b g cap:Nat) (w:World) (hr:BF w base b r vs vc vb) (hbl:r.body.length≤100000) (hI:Inv r) (d:Nat) (hd:r.depth=d+1) (hd1 el:Nat) (EO:(r.opn d).1=hd1) (hel:(r.opn d).2=el) (MS:(Lk.bodyAt r.body hd1).kind=5) (Oh:el=0) (O:Option Lk.RS)
  (hO:O=some { r with depth:=d,body:=r.body.set hd1 { Lk.bodyAt r.body hd1 with els:=r.body.length+1 }++[{ kind:=6,next:=hd1 }] }):
  Calls Tryz.prog 71 #[.pointer (some ⟨b,0,none⟩),.slice (some ⟨g,0,none⟩) 1 cap] w fun e w'=>e=.returned (.bool O.isSome)∧Eo w w' base b O:=by
 have hlt:=hr.lt
 have hge:=hr.ge
 have Co:d<4:=by have:=hI.dep;omega
 have DX:=hI.opn d (by omega)
 have Dv:=hr.row.cell (i:=66) (by omega)
 have Oj:=hr.row.frozen 66
 rw[show Ac r vs vc (.slice none 0 0) vb 66=.int .i64 r.depth from rfl] at Dv
 have hc0:=hr.row.cell (i:=58+d*2) (by omega)
 have hc1:=hr.row.cell (i:=58+d*2+1) (by omega)
 rw[(GP _ _ _ _ _ _ Co).1,EO] at hc0
 rw[(GP _ _ _ _ _ _ Co).2,hel] at hc1
 rw[EO,hel] at DX
 have Dm:=hr.row.cell (i:=56) (by omega)
 have Jv:=hr.row.frozen 56
 rw[show Ac r vs vc (.slice none 0 0) vb 56=vb from rfl] at Dm
 obtain ⟨gb,cp,hvb,MF,We⟩:=hr.A_.form (by omega)
 rw[hd,Int.natCast_add] at Dv
 subst hvb
 have Wf:gb≠b:=fun e=>hr.nb (by rw[e];rfl)
 have hcell:=fun i k (hi:i<r.body.length) (hk:k<10)=>(hr.A_.cellAt (i*10+k) (by omega)).trans (Jm r.body i k hi hk)
 have Et:=hcell hd1 0 DX.1 (by omega)
 have Dr:=hcell hd1 9 DX.1 (by omega)
 have Ak:=hr.A_.frozenAt (hd1*10+9)
 simp only[AZ,List.getElem?_cons_zero,Nat.add_zero] at Et
 simp[AZ] at Dr
 have HR:Hid (BF w base b r vs vc (.slice (some ⟨gb,0,none⟩) r.body.length cp)):=hr
 have HO:Hid _:=hO
 have P9:Hid _:=DX
 have Fh:(0:Int)≤(hd1:Int):=by omega
 have X7:(hd1:Int)<(r.body.length:Int):=by omega
 have X9:(0:Int)≤(el:Int):=by omega
 have cY:(el:Int)<(r.body.length:Int):=by omega
 have Eu:(d:Int)<4:=by omega
 have DL:(r.body.length:Int)≤100000:=by omega
 clear hr hcell EO hel hO hd hI DX
 rw[MS] at Et
 clear MS
 subst Oh
 go_enter Tryz.func71,Tryz.ntmps71
 go_wp2_with fail
 go_region
 all_goals go_wp2_with fail
 go_quiet (fail)
 go_wp2_with fail
 go_region
 generalize hW:World.setCell (World.drewN _ _) _ _=W
 have FK:=QF r.body hd1 9 (.int .i64 (↑r.body.length+1)) { Lk.bodyAt r.body hd1 with els:=r.body.length+1 } P9.out.1 (by omega) (by simp[AZ])
 have Dw:(r.body.set hd1 { Lk.bodyAt r.body hd1 with els:=r.body.length+1 }).length=r.body.length:=by simp
 obtain ⟨bd,Ai⟩: ∃ bd,r.body.set hd1 { Lk.bodyAt r.body hd1 with els:=r.body.length+1 }=bd:=⟨_,rfl⟩
 rw[Ai] at FK Dw
 have BR:Hid _:=HO.out
 have AU:Hid (CB W base b (fun j=>if j=66 then .int .i64 ↑d else Ac r vs vc (.slice none 0 0) (.slice (some ⟨gb,0,none⟩) r.body.length cp) j) r.Ah r.cells bd vs vc (.slice (some ⟨gb,0,none⟩) r.body.length cp)):=by
  rw[←hW]
  exact ((((HR.out.put _ _).alloc _).drewN _).Ry Dw FK.symm)
 have AP:Hid (Below base w W):=by
  rw[←hW]
  exact ((below_drewN (((Below.refl _ _).setCell hge _).alloc (by have:=HR.out.AJ;simpa using this) _) _).setCell (by exact MF) _)
 have c5: ∀ i v,W.cell? ⟨w.heap.size,i,none⟩=v→W.cell? ⟨w.heap.size,i,none⟩=v:=fun _ _ h=>h
 clear hW c5
 have hown:=AU.out.A_
 rw[Dw] at hown
 have Dq:=AU.out.lt
 have MR:=AU.out.row.cell (i:=56) (by omega)
 have X8:=AU.out.row.frozen 56
 rw[if_neg (by omega),show Ac r vs vc (.slice none 0 0) (.slice (some ⟨gb,0,none⟩) r.body.length cp) 56=.slice (some ⟨gb,0,none⟩) r.body.length cp from rfl] at MR
 have MG:Hid (W.ownsRow base 147 10 (.slice (some ⟨gb,0,none⟩) r.body.length cp) r.body.length (flat bd)):=hown
 have MQ:Hid _:=Ai
 clear hown Dr Ak Et hc0 hc1 Dm Jv Dv Oj FK Ai HO
 obtain ⟨t0,ht0,hz0,hz1,hz2⟩:=info_parts Tryz.OT
 go_wp2_with (first
  |(at_builtin;refine wpList_append_lies _ rfl _ _ 43 rfl base 147 t0 _ 10 80 Tryz.underlying43 ht0 hz0 hz1 hz2 rfl (by omega) _ r.body.length (flat bd) rfl (World.ownsRow.alloc (Hid.out MG) _) ⟨W.heap.size,0,none⟩ 1 1 [.int .i64 6,.int .i64 0,.int .i64 0,.int .i64 0,.bool false,.int .i64 0,.bool false,.int .i64 0,.int .i64 (↑hd1),.int .i64 0] rfl rfl (World.news_of_block (cs:= #[.int .i64 6,.int .i64 0,.int .i64 0,.int .i64 0,.bool false,.int .i64 0,.bool false,.int .i64 0,.int .i64 (↑hd1),.int .i64 0]) (t:=147) (fr:=(0,0)) (heap_alloc_new W _)) (by simp[Value.oneCell']) (by omega) (by unfold maxLen;omega) (by omega) (by have:=AU.out.AJ;simp;omega) (W.heap.size+1) (by simp) ?_;intro gg cap2 w1 hown1 hgrow hat Bk;have f2:=(Ad (AU.out.row.alloc _) hgrow AU.out.nb).frozen 56;have c2:=(Ad (AU.out.row.alloc _) hgrow AU.out.nb).cell (i:=56) (by omega)))
 go_ret
 have C:=Rt (st:={ kind:=6,next:=hd1 }) AU.out AP.out (by rw[Dw];exact hown1) hgrow hat
 have D:=C.1.congr (fun j hj=>VK r vs vc _ _ _ d (bd++[{ kind:=6,next:=hd1 }]) j hj)
 rw[←show _=bd from MQ.out] at D
 exact Kr BR.out D C.2
theorem abT (r:Lk.RS) (vs vc vb:Value) (base b g cap:Nat) (w:World) (hr:BF w base b r vs vc vb) (hbl:r.body.length≤100000) (hI:Inv r) (d:Nat) (hd:r.depth=d+1) (hd1 el:Nat) (EO:(r.opn d).1=hd1) (hel:(r.opn d).2=el) (MS:(Lk.bodyAt r.body hd1).kind≠5) (Oh:el=0) (O:Option Lk.RS)
  (hO:O=some { r with depth:=d,body:=r.body.set hd1 { Lk.bodyAt r.body hd1 with els:=r.body.length+1 }++[{ kind:=6,next:=r.body.length+1 }] }):
  Calls Tryz.prog 71 #[.pointer (some ⟨b,0,none⟩),.slice (some ⟨g,0,none⟩) 1 cap] w fun e w'=>e=.returned (.bool O.isSome)∧Eo w w' base b O:=by
 have hlt:=hr.lt
 have hge:=hr.ge
 have Co:d<4:=by have:=hI.dep;omega
 have DX:=hI.opn d (by omega)
 have Dv:=hr.row.cell (i:=66) (by omega)
 have Oj:=hr.row.frozen 66
 rw[show Ac r vs vc (.slice none 0 0) vb 66=.int .i64 r.depth from rfl] at Dv
 have hc0:=hr.row.cell (i:=58+d*2) (by omega)
 have hc1:=hr.row.cell (i:=58+d*2+1) (by omega)
 rw[(GP _ _ _ _ _ _ Co).1,EO] at hc0
 rw[(GP _ _ _ _ _ _ Co).2,hel] at hc1
 rw[EO,hel] at DX
 have Dm:=hr.row.cell (i:=56) (by omega)
 have Jv:=hr.row.frozen 56
 rw[show Ac r vs vc (.slice none 0 0) vb 56=vb from rfl] at Dm
 obtain ⟨gb,cp,hvb,MF,We⟩:=hr.A_.form (by omega)
 rw[hd,Int.natCast_add] at Dv
 subst hvb
 have Wf:gb≠b:=fun e=>hr.nb (by rw[e];rfl)
 have hcell:=fun i k (hi:i<r.body.length) (hk:k<10)=>(hr.A_.cellAt (i*10+k) (by omega)).trans (Jm r.body i k hi hk)
 have Et:=hcell hd1 0 DX.1 (by omega)
 have Dr:=hcell hd1 9 DX.1 (by omega)
 have Ak:=hr.A_.frozenAt (hd1*10+9)
 simp only[AZ,List.getElem?_cons_zero,Nat.add_zero] at Et
 simp[AZ] at Dr
 have HR:Hid (BF w base b r vs vc (.slice (some ⟨gb,0,none⟩) r.body.length cp)):=hr
 have HO:Hid _:=hO
 have P9:Hid _:=DX
 have Fh:(0:Int)≤(hd1:Int):=by omega
 have X7:(hd1:Int)<(r.body.length:Int):=by omega
 have X9:(0:Int)≤(el:Int):=by omega
 have cY:(el:Int)<(r.body.length:Int):=by omega
 have Eu:(d:Int)<4:=by omega
 have DL:(r.body.length:Int)≤100000:=by omega
 clear hr hcell EO hel hO hd hI DX
 have JX:(((Lk.bodyAt r.body hd1).kind:Int)==5)=false:=by simp;omega
 clear MS
 generalize (Lk.bodyAt r.body hd1).kind=kk at Et JX
 subst Oh
 go_enter Tryz.func71,Tryz.ntmps71
 go_wp2_with fail
 go_region
 all_goals go_wp2_with fail
 go_quiet (fail)
 go_wp2_with fail
 go_region
 generalize hW:World.setCell (World.drewN _ _) _ _=W
 have FK:=QF r.body hd1 9 (.int .i64 (↑r.body.length+1)) { Lk.bodyAt r.body hd1 with els:=r.body.length+1 } P9.out.1 (by omega) (by simp[AZ])
 have Dw:(r.body.set hd1 { Lk.bodyAt r.body hd1 with els:=r.body.length+1 }).length=r.body.length:=by simp
 obtain ⟨bd,Ai⟩: ∃ bd,r.body.set hd1 { Lk.bodyAt r.body hd1 with els:=r.body.length+1 }=bd:=⟨_,rfl⟩
 rw[Ai] at FK Dw
 have BR:Hid _:=HO.out
 have AU:Hid (CB W base b (fun j=>if j=66 then .int .i64 ↑d else Ac r vs vc (.slice none 0 0) (.slice (some ⟨gb,0,none⟩) r.body.length cp) j) r.Ah r.cells bd vs vc (.slice (some ⟨gb,0,none⟩) r.body.length cp)):=by
  rw[←hW]
  exact ((((HR.out.put _ _).alloc _).drewN _).Ry Dw FK.symm)
 have AP:Hid (Below base w W):=by
  rw[←hW]
  exact ((below_drewN (((Below.refl _ _).setCell hge _).alloc (by have:=HR.out.AJ;simpa using this) _) _).setCell (by exact MF) _)
 have c5: ∀ i v,W.cell? ⟨w.heap.size,i,none⟩=v→W.cell? ⟨w.heap.size,i,none⟩=v:=fun _ _ h=>h
 clear hW c5
 have hown:=AU.out.A_
 rw[Dw] at hown
 have Dq:=AU.out.lt
 have MR:=AU.out.row.cell (i:=56) (by omega)
 have X8:=AU.out.row.frozen 56
 rw[if_neg (by omega),show Ac r vs vc (.slice none 0 0) (.slice (some ⟨gb,0,none⟩) r.body.length cp) 56=.slice (some ⟨gb,0,none⟩) r.body.length cp from rfl] at MR
 have MG:Hid (W.ownsRow base 147 10 (.slice (some ⟨gb,0,none⟩) r.body.length cp) r.body.length (flat bd)):=hown
 have MQ:Hid _:=Ai
 clear hown Dr Ak Et hc0 hc1 Dm Jv Dv Oj FK Ai HO
 obtain ⟨t0,ht0,hz0,hz1,hz2⟩:=info_parts Tryz.OT
 go_wp2_with (first
  |(at_builtin;refine wpList_append_lies _ rfl _ _ 43 rfl base 147 t0 _ 10 80 Tryz.underlying43 ht0 hz0 hz1 hz2 rfl (by omega) _ r.body.length (flat bd) rfl (World.ownsRow.alloc (Hid.out MG) _) ⟨W.heap.size,0,none⟩ 1 1 [.int .i64 6,.int .i64 0,.int .i64 0,.int .i64 0,.bool false,.int .i64 0,.bool false,.int .i64 0,.int .i64 (↑r.body.length+1),.int .i64 0] rfl rfl (World.news_of_block (cs:= #[.int .i64 6,.int .i64 0,.int .i64 0,.int .i64 0,.bool false,.int .i64 0,.bool false,.int .i64 0,.int .i64 (↑r.body.length+1),.int .i64 0]) (t:=147) (fr:=(0,0)) (heap_alloc_new W _)) (by simp[Value.oneCell']) (by omega) (by unfold maxLen;omega) (by omega) (by have:=AU.out.AJ;simp;omega) (W.heap.size+1) (by simp) ?_;intro gg cap2 w1 hown1 hgrow hat Bk;have f2:=(Ad (AU.out.row.alloc _) hgrow AU.out.nb).frozen 56;have c2:=(Ad (AU.out.row.alloc _) hgrow AU.out.nb).cell (i:=56) (by omega)))
 go_ret
 have C:=Rt (st:={ kind:=6,next:=r.body.length+1 }) AU.out AP.out (by rw[Dw];exact hown1) hgrow hat
 have D:=C.1.congr (fun j hj=>VK r vs vc _ _ _ d (bd++[{ kind:=6,next:=r.body.length+1 }]) j hj)
 rw[←show _=bd from MQ.out] at D
 exact Kr BR.out D C.2
theorem vD (r:Lk.RS) (vs vc vb:Value) (base b g cap:Nat) (w:World) (hr:BF w base b r vs vc vb) (hbl:r.body.length≤100000) (hI:Inv r) (d:Nat) (hd:r.depth=d+1) (hd1 el:Nat) (EO:(r.opn d).1=hd1) (hel:(r.opn d).2=el) (MS:(Lk.bodyAt r.body hd1).kind≠5) (Oh:el≠0) (O:Option Lk.RS)
  (hO:O=some { r with depth:=d,body:=r.body.set el { Lk.bodyAt r.body el with next:=r.body.length+1 }++[{ kind:=6,next:=r.body.length+1 }] }):
  Calls Tryz.prog 71 #[.pointer (some ⟨b,0,none⟩),.slice (some ⟨g,0,none⟩) 1 cap] w fun e w'=>e=.returned (.bool O.isSome)∧Eo w w' base b O:=by
 have hlt:=hr.lt
 have hge:=hr.ge
 have Co:d<4:=by have:=hI.dep;omega
 have DX:=hI.opn d (by omega)
 have Dv:=hr.row.cell (i:=66) (by omega)
 have Oj:=hr.row.frozen 66
 rw[show Ac r vs vc (.slice none 0 0) vb 66=.int .i64 r.depth from rfl] at Dv
 have hc0:=hr.row.cell (i:=58+d*2) (by omega)
 have hc1:=hr.row.cell (i:=58+d*2+1) (by omega)
 rw[(GP _ _ _ _ _ _ Co).1,EO] at hc0
 rw[(GP _ _ _ _ _ _ Co).2,hel] at hc1
 rw[EO,hel] at DX
 have Dm:=hr.row.cell (i:=56) (by omega)
 have Jv:=hr.row.frozen 56
 rw[show Ac r vs vc (.slice none 0 0) vb 56=vb from rfl] at Dm
 obtain ⟨gb,cp,hvb,MF,We⟩:=hr.A_.form (by omega)
 rw[hd,Int.natCast_add] at Dv
 subst hvb
 have Wf:gb≠b:=fun e=>hr.nb (by rw[e];rfl)
 have hcell:=fun i k (hi:i<r.body.length) (hk:k<10)=>(hr.A_.cellAt (i*10+k) (by omega)).trans (Jm r.body i k hi hk)
 have Et:=hcell hd1 0 DX.1 (by omega)
 have Dr:=hcell el 8 DX.2 (by omega)
 have Ak:=hr.A_.frozenAt (el*10+8)
 simp only[AZ,List.getElem?_cons_zero,Nat.add_zero] at Et
 simp[AZ] at Dr
 have HR:Hid (BF w base b r vs vc (.slice (some ⟨gb,0,none⟩) r.body.length cp)):=hr
 have HO:Hid _:=hO
 have P9:Hid _:=DX
 have Fh:(0:Int)≤(hd1:Int):=by omega
 have X7:(hd1:Int)<(r.body.length:Int):=by omega
 have X9:(0:Int)≤(el:Int):=by omega
 have cY:(el:Int)<(r.body.length:Int):=by omega
 have Eu:(d:Int)<4:=by omega
 have DL:(r.body.length:Int)≤100000:=by omega
 clear hr hcell EO hel hO hd hI DX
 have JX:(((Lk.bodyAt r.body hd1).kind:Int)==5)=false:=by simp;omega
 clear MS
 generalize (Lk.bodyAt r.body hd1).kind=kk at Et JX
 have ag':((el:Int) !=0)=true:=by simp;omega
 clear Oh
 go_enter Tryz.func71,Tryz.ntmps71
 go_wp2_with fail
 go_region
 all_goals go_wp2_with fail
 go_quiet (fail)
 go_wp2_with fail
 go_region
 generalize hW:World.setCell (World.drewN _ _) _ _=W
 have FK:=QF r.body el 8 (.int .i64 (↑r.body.length+1)) { Lk.bodyAt r.body el with next:=r.body.length+1 } P9.out.2 (by omega) (by simp[AZ])
 have Dw:(r.body.set el { Lk.bodyAt r.body el with next:=r.body.length+1 }).length=r.body.length:=by simp
 obtain ⟨bd,Ai⟩: ∃ bd,r.body.set el { Lk.bodyAt r.body el with next:=r.body.length+1 }=bd:=⟨_,rfl⟩
 rw[Ai] at FK Dw
 have BR:Hid _:=HO.out
 have AU:Hid (CB W base b (fun j=>if j=66 then .int .i64 ↑d else Ac r vs vc (.slice none 0 0) (.slice (some ⟨gb,0,none⟩) r.body.length cp) j) r.Ah r.cells bd vs vc (.slice (some ⟨gb,0,none⟩) r.body.length cp)):=by
  rw[←hW]
  exact ((((HR.out.put _ _).alloc _).drewN _).Ry Dw FK.symm)
 have AP:Hid (Below base w W):=by
  rw[←hW]
  exact ((below_drewN (((Below.refl _ _).setCell hge _).alloc (by have:=HR.out.AJ;simpa using this) _) _).setCell (by exact MF) _)
 have c5: ∀ i v,W.cell? ⟨w.heap.size,i,none⟩=v→W.cell? ⟨w.heap.size,i,none⟩=v:=fun _ _ h=>h
 clear hW c5
 have hown:=AU.out.A_
 rw[Dw] at hown
 have Dq:=AU.out.lt
 have MR:=AU.out.row.cell (i:=56) (by omega)
 have X8:=AU.out.row.frozen 56
 rw[if_neg (by omega),show Ac r vs vc (.slice none 0 0) (.slice (some ⟨gb,0,none⟩) r.body.length cp) 56=.slice (some ⟨gb,0,none⟩) r.body.length cp from rfl] at MR
 have MG:Hid (W.ownsRow base 147 10 (.slice (some ⟨gb,0,none⟩) r.body.length cp) r.body.length (flat bd)):=hown
 have MQ:Hid _:=Ai
 clear hown Dr Ak Et hc0 hc1 Dm Jv Dv Oj FK Ai HO
 obtain ⟨t0,ht0,hz0,hz1,hz2⟩:=info_parts Tryz.OT
 go_wp2_with (first
  |(at_builtin;refine wpList_append_lies _ rfl _ _ 43 rfl base 147 t0 _ 10 80 Tryz.underlying43 ht0 hz0 hz1 hz2 rfl (by omega) _ r.body.length (flat bd) rfl (World.ownsRow.alloc (Hid.out MG) _) ⟨W.heap.size,0,none⟩ 1 1 [.int .i64 6,.int .i64 0,.int .i64 0,.int .i64 0,.bool false,.int .i64 0,.bool false,.int .i64 0,.int .i64 (↑r.body.length+1),.int .i64 0] rfl rfl (World.news_of_block (cs:= #[.int .i64 6,.int .i64 0,.int .i64 0,.int .i64 0,.bool false,.int .i64 0,.bool false,.int .i64 0,.int .i64 (↑r.body.length+1),.int .i64 0]) (t:=147) (fr:=(0,0)) (heap_alloc_new W _)) (by simp[Value.oneCell']) (by omega) (by unfold maxLen;omega) (by omega) (by have:=AU.out.AJ;simp;omega) (W.heap.size+1) (by simp) ?_;intro gg cap2 w1 hown1 hgrow hat Bk;have f2:=(Ad (AU.out.row.alloc _) hgrow AU.out.nb).frozen 56;have c2:=(Ad (AU.out.row.alloc _) hgrow AU.out.nb).cell (i:=56) (by omega)))
 go_ret
 have C:=Rt (st:={ kind:=6,next:=r.body.length+1 }) AU.out AP.out (by rw[Dw];exact hown1) hgrow hat
 have D:=C.1.congr (fun j hj=>VK r vs vc _ _ _ d (bd++[{ kind:=6,next:=r.body.length+1 }]) j hj)
 rw[←show _=bd from MQ.out] at D
 exact Kr BR.out D C.2
theorem yz (r:Lk.RS) (vs vc vb:Value) (base b g cap:Nat) (w:World) (hr:BF w base b r vs vc vb) (hbl:r.body.length≤100000) (hI:Inv r) (d:Nat) (hd:r.depth=d+1) (hd1 el:Nat) (EO:(r.opn d).1=hd1) (hel:(r.opn d).2=el) (MS:(Lk.bodyAt r.body hd1).kind=5) (Oh:el≠0) (O:Option Lk.RS)
  (hO:O=some { r with depth:=d,body:=r.body.set el { Lk.bodyAt r.body el with next:=r.body.length+1 }++[{ kind:=6,next:=hd1 }] }):
  Calls Tryz.prog 71 #[.pointer (some ⟨b,0,none⟩),.slice (some ⟨g,0,none⟩) 1 cap] w fun e w'=>e=.returned (.bool O.isSome)∧Eo w w' base b O:=by
 have hlt:=hr.lt
 have hge:=hr.ge
 have Co:d<4:=by have:=hI.dep;omega
 have DX:=hI.opn d (by omega)
 have Dv:=hr.row.cell (i:=66) (by omega)
 have Oj:=hr.row.frozen 66
 rw[show Ac r vs vc (.slice none 0 0) vb 66=.int .i64 r.depth from rfl] at Dv
 have hc0:=hr.row.cell (i:=58+d*2) (by omega)
 have hc1:=hr.row.cell (i:=58+d*2+1) (by omega)
 rw[(GP _ _ _ _ _ _ Co).1,EO] at hc0
 rw[(GP _ _ _ _ _ _ Co).2,hel] at hc1
 rw[EO,hel] at DX
 have Dm:=hr.row.cell (i:=56) (by omega)
 have Jv:=hr.row.frozen 56
 rw[show Ac r vs vc (.slice none 0 0) vb 56=vb from rfl] at Dm
 obtain ⟨gb,cp,hvb,MF,We⟩:=hr.A_.form (by omega)
 rw[hd,Int.natCast_add] at Dv
 subst hvb
 have Wf:gb≠b:=fun e=>hr.nb (by rw[e];rfl)
 have hcell:=fun i k (hi:i<r.body.length) (hk:k<10)=>(hr.A_.cellAt (i*10+k) (by omega)).trans (Jm r.body i k hi hk)
 have Et:=hcell hd1 0 DX.1 (by omega)
 have Dr:=hcell el 8 DX.2 (by omega)
 have Ak:=hr.A_.frozenAt (el*10+8)
 simp only[AZ,List.getElem?_cons_zero,Nat.add_zero] at Et
 simp[AZ] at Dr
 have HR:Hid (BF w base b r vs vc (.slice (some ⟨gb,0,none⟩) r.body.length cp)):=hr
 have HO:Hid _:=hO
 have P9:Hid _:=DX
 have Fh:(0:Int)≤(hd1:Int):=by omega
 have X7:(hd1:Int)<(r.body.length:Int):=by omega
 have X9:(0:Int)≤(el:Int):=by omega
 have cY:(el:Int)<(r.body.length:Int):=by omega
 have Eu:(d:Int)<4:=by omega
 have DL:(r.body.length:Int)≤100000:=by omega
 clear hr hcell EO hel hO hd hI DX
 rw[MS] at Et
 clear MS
 have ag':((el:Int) !=0)=true:=by simp;omega
 clear Oh
 go_enter Tryz.func71,Tryz.ntmps71
 go_wp2_with fail
 go_region
 all_goals go_wp2_with fail
 go_quiet (fail)
 go_wp2_with fail
 go_region
 generalize hW:World.setCell (World.drewN _ _) _ _=W
 have FK:=QF r.body el 8 (.int .i64 (↑r.body.length+1)) { Lk.bodyAt r.body el with next:=r.body.length+1 } P9.out.2 (by omega) (by simp[AZ])
 have Dw:(r.body.set el { Lk.bodyAt r.body el with next:=r.body.length+1 }).length=r.body.length:=by simp
 obtain ⟨bd,Ai⟩: ∃ bd,r.body.set el { Lk.bodyAt r.body el with next:=r.body.length+1 }=bd:=⟨_,rfl⟩
 rw[Ai] at FK Dw
 have BR:Hid _:=HO.out
 have AU:Hid (CB W base b (fun j=>if j=66 then .int .i64 ↑d else Ac r vs vc (.slice none 0 0) (.slice (some ⟨gb,0,none⟩) r.body.length cp) j) r.Ah r.cells bd vs vc (.slice (some ⟨gb,0,none⟩) r.body.length cp)):=by
  rw[←hW]
  exact ((((HR.out.put _ _).alloc _).drewN _).Ry Dw FK.symm)
 have AP:Hid (Below base w W):=by
  rw[←hW]
  exact ((below_drewN (((Below.refl _ _).setCell hge _).alloc (by have:=HR.out.AJ;simpa using this) _) _).setCell (by exact MF) _)
 have c5: ∀ i v,W.cell? ⟨w.heap.size,i,none⟩=v→W.cell? ⟨w.heap.size,i,none⟩=v:=fun _ _ h=>h
 clear hW c5
 have hown:=AU.out.A_
 rw[Dw] at hown
 have Dq:=AU.out.lt
 have MR:=AU.out.row.cell (i:=56) (by omega)
 have X8:=AU.out.row.frozen 56
 rw[if_neg (by omega),show Ac r vs vc (.slice none 0 0) (.slice (some ⟨gb,0,none⟩) r.body.length cp) 56=.slice (some ⟨gb,0,none⟩) r.body.length cp from rfl] at MR
 have MG:Hid (W.ownsRow base 147 10 (.slice (some ⟨gb,0,none⟩) r.body.length cp) r.body.length (flat bd)):=hown
 have MQ:Hid _:=Ai
 clear hown Dr Ak Et hc0 hc1 Dm Jv Dv Oj FK Ai HO
 obtain ⟨t0,ht0,hz0,hz1,hz2⟩:=info_parts Tryz.OT
 go_wp2_with (first
  |(at_builtin;refine wpList_append_lies _ rfl _ _ 43 rfl base 147 t0 _ 10 80 Tryz.underlying43 ht0 hz0 hz1 hz2 rfl (by omega) _ r.body.length (flat bd) rfl (World.ownsRow.alloc (Hid.out MG) _) ⟨W.heap.size,0,none⟩ 1 1 [.int .i64 6,.int .i64 0,.int .i64 0,.int .i64 0,.bool false,.int .i64 0,.bool false,.int .i64 0,.int .i64 (↑hd1),.int .i64 0] rfl rfl (World.news_of_block (cs:= #[.int .i64 6,.int .i64 0,.int .i64 0,.int .i64 0,.bool false,.int .i64 0,.bool false,.int .i64 0,.int .i64 (↑hd1),.int .i64 0]) (t:=147) (fr:=(0,0)) (heap_alloc_new W _)) (by simp[Value.oneCell']) (by omega) (by unfold maxLen;omega) (by omega) (by have:=AU.out.AJ;simp;omega) (W.heap.size+1) (by simp) ?_;intro gg cap2 w1 hown1 hgrow hat Bk;have f2:=(Ad (AU.out.row.alloc _) hgrow AU.out.nb).frozen 56;have c2:=(Ad (AU.out.row.alloc _) hgrow AU.out.nb).cell (i:=56) (by omega)))
 go_ret
 have C:=Rt (st:={ kind:=6,next:=hd1 }) AU.out AP.out (by rw[Dw];exact hown1) hgrow hat
 have D:=C.1.congr (fun j hj=>VK r vs vc _ _ _ d (bd++[{ kind:=6,next:=hd1 }]) j hj)
 rw[←show _=bd from MQ.out] at D
 exact Kr BR.out D C.2
theorem oQ (r:Lk.RS) (vs vc vb:Value) (base b g cap:Nat) (ws:List ByteArray) (w:World) (hr:BF w base b r vs vc vb) (hbl:r.body.length≤100000) (hI:Inv r):
  Calls Tryz.prog 71 #[.pointer (some ⟨b,0,none⟩),.slice (some ⟨g,0,none⟩) ws.length cap] w fun e w'=>
   e=.returned (.bool (Lk.takeEnd r (ws.map ByteArray.toList)).isSome)∧Eo w w' base b (Lk.takeEnd r (ws.map ByteArray.toList)):=by
 have hlt:=hr.lt
 have Dv:=hr.row.cell (i:=66) (by omega)
 rw[show Ac r vs vc (.slice none 0 0) vb 66=.int .i64 r.depth from rfl] at Dv
 by_cases hl:ws.length=1
 ·by_cases hd0:r.depth=0
  ·have hS:Lk.takeEnd r (ws.map ByteArray.toList)=none:=by unfold Lk.takeEnd;rw[if_neg (by omega)]
   rw[hl]
   rw[hd0] at Dv
   clear hr hl
   go_enter Tryz.func71,Tryz.ntmps71
   go_wp2_with fail
   go_ret
   exact Bb hS (Below.refl _ _)
  ·obtain ⟨d,hd⟩: ∃ d,r.depth=d+1:=⟨r.depth - 1,by omega⟩
   rw[hl]
   by_cases hk:(Lk.bodyAt r.body (r.opn d).1).kind=5
   ·by_cases he:(r.opn d).2=0
    ·exact rR r vs vc vb base b g cap w hr hbl hI d hd _ _ rfl rfl hk he _ (by unfold Lk.takeEnd;rw[hd];simp[hl,hk,he])
    ·exact yz r vs vc vb base b g cap w hr hbl hI d hd _ _ rfl rfl hk he _ (by unfold Lk.takeEnd;rw[hd];simp[hl,hk,he])
   ·by_cases he:(r.opn d).2=0
    ·exact abT r vs vc vb base b g cap w hr hbl hI d hd _ _ rfl rfl hk he _ (by unfold Lk.takeEnd;rw[hd];simp[hl,hk,he])
    ·exact vD r vs vc vb base b g cap w hr hbl hI d hd _ _ rfl rfl hk he _ (by unfold Lk.takeEnd;rw[hd];simp[hl,hk,he])
 ·have hS:Lk.takeEnd r (ws.map ByteArray.toList)=none:=by unfold Lk.takeEnd;rw[if_neg (by simp;omega)]
  have hl':((ws.length:Int) !=1)=true:=by simp;omega
  clear hr hl
  generalize ws.length=n at hl'
  go_enter Tryz.func71,Tryz.ntmps71
  go_wp2_with fail
  go_ret
  exact Bb hS (Below.refl _ _)
end Go.Proofs.YtgddmpmcnjlcjaaGreatDoor
