import Derived.Test.YtgddmpmcnjlcjaaGreatDoorB03
import Derived.Deep.QuietTactic
import Derived.BigQuiet
import Derived.BigRegion
set_option maxRecDepth 100000
set_option maxHeartbeats 1000000
namespace Go.Proofs.YtgddmpmcnjlcjaaGreatDoor
open Go.RowKit
set_option linter.unusedVariables false
theorem Q7 (s:Lk.St):(AZ s).length=10:=rfl
theorem Q9 (s:Lk.St) (l:List Lk.St):flat (s::l)=AZ s++flat l:=by simp[flat]
theorem Jm: ∀ (l:List Lk.St) (i k:Nat),i<l.length→k<10→(flat l)[i*10+k]? =(AZ (Lk.bodyAt l i))[k]?
 |[],i,k,h,_=>by simp at h
 |s::l,0,k,_,hk=>by
  rw[Q9,List.getElem?_append_left (by rw[Q7];omega)];simp[Lk.bodyAt]
 |s::l,i+1,k,h,hk=>by
  rw[Q9,List.getElem?_append_right (by rw[Q7];omega),Q7,show (i+1)*10+k - 10=i*10+k by omega,Jm l i k (by simpa using h) hk]
  simp[Lk.bodyAt]
theorem QF: ∀ (l:List Lk.St) (i k:Nat) (u:Value) (s':Lk.St),i<l.length→k<10→AZ s'=(AZ (Lk.bodyAt l i)).set k u→(flat l).set (i*10+k) u=flat (l.set i s')
 |[],i,k,_,_,h,_,_=>by simp at h
 |s::l,0,k,u,s',_,hk,e=>by
  rw[Q9,List.set_append_left _ _ (by rw[Q7];omega),List.set_cons_zero,Q9,e];simp[Lk.bodyAt]
 |s::l,i+1,k,u,s',h,hk,e=>by
  rw[Q9,List.set_append_right _ _ (by rw[Q7];omega),Q7,show (i+1)*10+k - 10=i*10+k by omega,List.set_cons_succ,Q9,QF l i k u s' (by simpa using h) hk (by simpa[Lk.bodyAt] using e)]
theorem CB.Ry {w:World} {base b:Nat} {f:Nat→Value} {sec:List Bool} {AR:List Nat} {A_ bod':List Lk.St} {vs vc:Value} {g cap j:Nat} {u:Value}
  (h:CB w base b f sec AR A_ vs vc (.slice (some ⟨g,0,none⟩) A_.length cap)) (hl:bod'.length=A_.length) (hf:flat bod'=(flat A_).set j u):
  CB (w.setCell ⟨g,j,none⟩ u) base b f sec AR bod' vs vc (.slice (some ⟨g,0,none⟩) A_.length cap):=by
 have hgb:b≠g:=fun e=>h.nb (by rw[e];rfl)
 have hgs:vs.ownBlock≠some g:=by
  rcases h.sb with k|k
  ·rw[k];simp
  ·exact k
 have TY:vc.ownBlock≠some g:=by
  rcases h.cb with k|k
  ·rw[k];simp
  ·exact k
 exact ⟨h.row.setOther hgb u,h.ge,BC h.sec hgs u,BC h.AR TY u,by rw[hl,hf];exact (h.A_.stored j u).1,h.ns,h.nc,h.nb,h.sc,h.sb,h.cb⟩
structure Inv (r:Lk.RS):Prop where
 dep:r.depth≤4
 opn: ∀ d,d<r.depth→(r.opn d).1<r.body.length∧(r.opn d).2<r.body.length
theorem ny (r:Lk.RS) (vs vc vk vb:Value) (k p q:Nat) (h:k<4) (d':Nat) (dv:Int) (hd:dv=(d':Int)) (j:Nat) (hj:j<67):
  (if j=66 then Value.int .i64 dv else if j=58+k*2+1 then Value.int .i64 q else if j=58+k*2 then .int .i64 p else Ac r vs vc vk vb j)=Ac { r with opn:=Lk.upd r.opn k (p,q),depth:=d' } vs vc vk vb j:=by
 subst hd
 by_cases h0:j=66
 ·subst h0;rfl
 ·rw[if_neg h0]
  by_cases h1:j=58+k*2+1
  ·rw[if_pos h1,h1,(GP _ vs vc vk vb k h).2];simp[Lk.upd]
  ·rw[if_neg h1]
   by_cases h2:j=58+k*2
   ·rw[if_pos h2,h2,(GP _ vs vc vk vb k h).1];simp[Lk.upd]
   ·rw[if_neg h2]
    unfold Ac
    by_cases h3:58≤j∧j<66
    ·have hk:(j - 58)/2≠k:=by omega
     simp[Lk.upd,hk]
     simp only[show j<66 by omega,if_true]
    ·simp only[]
     repeat' split
     all_goals first|rfl|omega
theorem nT (r:Lk.RS) (vs vc vb:Value) (base b g cap:Nat) (ws:List ByteArray) (kd:Nat) (w:World) (hr:BF w base b r vs vc vb) (hw:CD w g ws) (hbl:r.body.length≤100000):
  Calls Tryz.prog 69 #[.pointer (some ⟨b,0,none⟩),.slice (some ⟨g,0,none⟩) ws.length cap,.int .i64 kd] w fun e w'=>
   e=.returned (.bool (Lk.FD r (ws.map ByteArray.toList) kd).isSome)∧Eo w w' base b (Lk.FD r (ws.map ByteArray.toList) kd):=by
 have hlt:=hr.lt
 have hge:=hr.ge
 have Dv:=hr.row.cell (i:=66) (by omega)
 rw[show Ac r vs vc (.slice none 0 0) vb 66=.int .i64 r.depth from rfl] at Dv
 by_cases hl:ws.length=2
 ·by_cases Co:r.depth<4
  ·have hc1:=hw 1 (by omega)
   generalize hq:ws.getD 1 ByteArray.empty=q at hc1
   have hS:Lk.FD r (ws.map ByteArray.toList) kd=match Lk.atom? r q.toList with|some x=>(match Lk.add r { kind:=kd,a:=x } with|some r'=>some { r' with opn:=Lk.upd r'.opn r'.depth (r.body.length,0),depth:=r'.depth+1 }|none=>none)|none=>none:=by
    unfold Lk.FD;rw[DT,hq];simp[hl,Co];rfl
   rw[hS,hl]
   clear hq hw hl hS
   have HR:Hid (BF w base b r vs vc vb):=hr
   have ak3:(r.depth:Int)<4:=by omega
   obtain ⟨ad,cp,hvb⟩:=AX hr.A_
   clear hr
   cases ha:Lk.atom? r q.toList with
   |none=>
    have Ha:Hid _:=ha
    clear ha
    go_enter Tryz.func69,Tryz.ntmps69
    go_wp2_with (first|(go_at_call 102;refine (Ll r vs vc (.slice none 0 0) vb b _ _ ?_ Ha.out).mono ?_;exact HR.out.row;rintro e w' ⟨rfl,hb⟩))
    go_ret
    exact Bb rfl ((hb.mono HR.out.AJ).alloc (Nat.le_trans HR.out.AJ hb.size) _)
   |some x=>
    have Ha:Hid _:=ha
    clear ha
    by_cases hn:r.stmts<12
    ·have hadd:Lk.add r { kind:=kd,a:=x }=some { r with stmts:=r.stmts+1,body:=r.body++[{ kind:=kd,a:=x,next:=r.body.length+1 }] }:=by unfold Lk.add;rw[if_pos hn]
     dsimp only
     rw[hadd]
     dsimp only
     clear hadd
     subst hvb
     go_enter Tryz.func69,Tryz.ntmps69
     go_wp2_with (first
      |(go_at_call 102;refine (Em r vs vc (.slice none 0 0) (.slice ad r.body.length cp) b _ _ ?_ x Ha.out).mono ?_;exact HR.out.row;rintro e w1 ⟨rfl,hb1⟩;have cL:=fun o=>AH (cell_later hb1 (HR.out.row.cell (i:=56) (by omega))) o;simp only[show Ac r vs vc (.slice none 0 0) (.slice ad r.body.length cp) 56=.slice ad r.body.length cp from rfl] at cL;have z1:=hb1.size)
      |(go_at_call 103;refine (gZ r { kind:=kd,a:=x } vs vc (.slice ad r.body.length cp) base b _ ?_ hn hbl _ _ _ _ _ _ _ _ _ _ ?_).mono ?_;exact (HR.out.below hb1).alloc _;rfl;rintro e w2 ⟨rfl,⟨G8,R2⟩,hb2⟩;have AU:Hid _:=R2;have Dq:=R2.lt;have d66:=R2.row.cell (i:=66) (by omega);have f66:=R2.row.frozen 66;have d0:=R2.row.cell (i:=58+r.depth*2) (by omega);have d1:=R2.row.cell (i:=58+r.depth*2+1) (by omega);have f0:=R2.row.frozen (58+r.depth*2);have f1:=R2.row.frozen (58+r.depth*2+1);clear R2;rw[(GP _ _ _ _ _ _ Co).1] at d0;rw[(GP _ _ _ _ _ _ Co).2] at d1;simp only[show ∀ rr:Lk.RS,Ac rr vs vc (.slice none 0 0) G8 66=.int .i64 rr.depth from fun _=>rfl] at d66))
     go_region
     all_goals go_wp2
     all_goals go_ret
     all_goals refine Kr rfl ((((AU.out.put _ _).put _ _).put _ _).drew.congr (fun j hj=>ny _ vs vc _ G8 r.depth r.body.length 0 Co (r.depth+1) _ (by omega) j hj)) ?_
     all_goals exact ((((((hb1.mono HR.out.AJ).alloc (by have:=HR.out.AJ;omega) _).trans hb2).setCell hge _).setCell hge _).setCell hge _).drew
    ·have hadd:Lk.add r { kind:=kd,a:=x }=none:=by unfold Lk.add;rw[if_neg hn]
     dsimp only
     rw[hadd]
     dsimp only
     clear hadd
     subst hvb
     go_enter Tryz.func69,Tryz.ntmps69
     go_wp2_with (first
      |(go_at_call 102;refine (Em r vs vc (.slice none 0 0) (.slice ad r.body.length cp) b _ _ ?_ x Ha.out).mono ?_;exact HR.out.row;rintro e w1 ⟨rfl,hb1⟩;have cL:=fun o=>AH (cell_later hb1 (HR.out.row.cell (i:=56) (by omega))) o;simp only[show Ac r vs vc (.slice none 0 0) (.slice ad r.body.length cp) 56=.slice ad r.body.length cp from rfl] at cL;have z1:=hb1.size)
      |(go_at_call 103;refine (gY b _ r.stmts ?_ ?_ _ _ _ _ _ _ _ _ _ _ ?_).mono ?_;omega;exact ((HR.out.below hb1).alloc _).row.cell (i:=57) (by omega);exact ((HR.out.below hb1).alloc _).lt;rintro e w2 ⟨rfl,hb2⟩))
     go_ret
     exact Bb rfl (((hb1.mono HR.out.AJ).alloc (by have:=HR.out.AJ;omega) _).trans (hb2.mono (by have:=HR.out.AJ;simp;omega)))
  ·have hS:Lk.FD r (ws.map ByteArray.toList) kd=none:=by unfold Lk.FD;rw[if_neg (by omega)]
   rw[hl]
   have Gq:(4:Int)≤(r.depth:Int):=by omega
   clear hw hr hl
   go_enter Tryz.func69,Tryz.ntmps69
   go_wp2_with fail
   go_ret
   exact Bb hS (Below.refl _ _)
 ·have hS:Lk.FD r (ws.map ByteArray.toList) kd=none:=by unfold Lk.FD;rw[if_neg (by simp;omega)]
  have hl':((ws.length:Int) !=2)=true:=by simp;omega
  clear hw hr hl
  generalize ws.length=n at hl'
  go_enter Tryz.func69,Tryz.ntmps69
  go_wp2_with fail
  go_ret
  exact Bb hS (Below.refl _ _)
theorem fS (b:List Lk.St) (p:Nat) (h:b.length≤p∨(Lk.bodyAt b p).kind≠6): ∀ n,Lk.pass b n p=p
 |0=>rfl
 |n+1=>by unfold Lk.pass;rw[if_neg (by omega)]
theorem yw (b:List Lk.St) (p n:Nat) (h:p<b.length) (hk:(Lk.bodyAt b p).kind=6):Lk.pass b (n+1) p=Lk.pass b n (Lk.bodyAt b p).next:=by
 conv=>lhs;unfold Lk.pass
 rw[if_pos ⟨h,hk⟩]
theorem ahead_zero (b:List Lk.St):Lk.ahead b 0=0:=by simp[Lk.ahead]
theorem Y8 (b:List Lk.St) (k:Nat) (h:k<b.length):Lk.ahead b (k+1)=Lk.ahead b k+if (Lk.bodyAt b k).kind=6 then 0 else 1:=by
 unfold Lk.ahead
 rw[List.take_succ_eq_append_getElem h,List.filter_append,List.length_append]
 have:Lk.bodyAt b k=b[k]:=by simp[Lk.bodyAt,h]
 rw[this]
 by_cases hk:b[k].kind=6 <;> simp[hk]
theorem fT (b:List Lk.St) (p:Nat) (h:b.length≤p):Lk.ahead b p=Lk.ahead b b.length:=by
 unfold Lk.ahead;rw[List.take_of_length_le h,List.take_of_length_le (Nat.le_refl _)]
theorem Ya (b:List Lk.St) (p:Nat):Lk.ahead b p≤b.length:=by
 unfold Lk.ahead
 exact Nat.le_trans (List.length_filter_le _ _) (List.length_take_le' _ _)
theorem Y9 (bd:List Lk.St) (b gb cp:Nat) (p:Nat) (w:World) (Dm:w.cell? ⟨b,56,none⟩=some (.slice (some ⟨gb,0,none⟩) bd.length cp))
  (hk: ∀ i,i<bd.length→w.cell? ⟨gb,i*10,none⟩=some (.int .i64 (Lk.bodyAt bd i).kind)) (hn: ∀ i,i<bd.length→w.cell? ⟨gb,i*10+8,none⟩=some (.int .i64 (Lk.bodyAt bd i).next)) (hbl:bd.length≤100000):
  Calls Tryz.prog 73 #[.pointer (some ⟨b,0,none⟩),.int .i64 p] w fun e w'=>e=.returned (.int .i64 (Lk.settle bd p))∧w'=w:=by
 have DL:(bd.length:Int)≤100000:=by omega
 have HK:Hid _:=hk
 have HN:Hid _:=hn
 clear hk hn
 go_enter Tryz.func73,Tryz.ntmps73
 go_wp2
 go_loop [1,12] (fun a c=> ∃ k q:Nat,k≤bd.length∧c=.int .i64 k∧a=.int .i64 q∧Lk.pass bd (bd.length - k) q=Lk.pass bd bd.length p) (fun _ c=>bd.length - (intOf c).toNat)
 case atStart=>exact ⟨0,p,Nat.zero_le _,rfl,rfl,rfl⟩
 case round=>
  obtain ⟨k,q,hkl,rfl,rfl,hp⟩:=hrel
  have HP:Hid _:=hp
  clear hp
  by_cases hlt:k<bd.length
  ·by_cases hq:q<bd.length
   ·by_cases hm:(Lk.bodyAt bd q).kind=6
    ·have Fg:(q:Int)<(bd.length:Int):=by omega
     have c0:=HK.out q hq
     have c8:=HN.out q hq
     rw[hm] at c0
     have Hm:Hid _:=hm
     clear hm
     go_wp2
     go_round
     case rel=>exact ⟨k+1,(Lk.bodyAt bd q).next,by omega,by go_num,rfl,by rw[←HP.out,show bd.length - k=bd.length - (k+1)+1 by omega,yw bd q _ hq Hm.out]⟩
     case measure=>simp[intOf];omega
    ·have Fg:(q:Int)<(bd.length:Int):=by omega
     have c0:=HK.out q hq
     have hm':(((Lk.bodyAt bd q).kind:Int) !=6)=true:=by simp;omega
     have HQ:Hid (Lk.pass bd bd.length p=q):=by rw[←show _=_ from HP.out];exact fS bd q (.inr hm) _
     clear hm
     generalize (Lk.bodyAt bd q).kind=kk at c0 hm'
     go_wp2
     go_loop [5,6] (fun a c=> ∃ i:Nat,i≤bd.length∧i≤q∧c=.int .i64 i∧a=.int .i64 (Lk.ahead bd i)) (fun _ c=>bd.length - (intOf c).toNat)
     case atStart=>exact ⟨0,Nat.zero_le _,Nat.zero_le _,rfl,by rw[ahead_zero];rfl⟩
     case round=>
      obtain ⟨i,hi1,hi2,rfl,rfl⟩:=hrel
      have hal:=Ya bd i
      have Wc:(Lk.ahead bd i:Int)≤100000:=by omega
      by_cases hiq:i<q
      ·by_cases hil:i<bd.length
       ·have NJ:(i:Int)<(q:Int):=by omega
        have Su:(i:Int)<(bd.length:Int):=by omega
        have e0:=HK.out i hil
        have hst:=Y8 bd i hil
        have G9:Hid _:=hst
        clear hst
        by_cases GY:(Lk.bodyAt bd i).kind=6
        ·rw[GY] at e0
         have Hm:Hid _:=GY
         clear GY
         go_wp2
         go_round
         case rel=>exact ⟨i+1,by omega,by omega,by go_num,by rw[G9.out,if_pos Hm.out];rfl⟩
         case measure=>simp[intOf];omega
        ·have hm':(((Lk.bodyAt bd i).kind:Int) !=6)=true:=by simp;omega
         have Hm:Hid _:=GY
         clear GY
         generalize (Lk.bodyAt bd i).kind=kk at e0 hm'
         go_wp2
         go_round
         case rel=>exact ⟨i+1,by omega,by omega,by go_num,by rw[G9.out,if_neg Hm.out];rfl⟩
         case measure=>simp[intOf];omega
       ·have Su: ¬(i:Int)<(bd.length:Int):=by omega
        have NJ:(i:Int)<(q:Int):=by omega
        exfalso;omega
      ·have NJ: ¬(i:Int)<(q:Int):=by omega
       go_wp2
       go_ret
       exact ⟨IK (by unfold Lk.settle;rw[HQ.out,show i=q by omega]),rfl⟩
   ·have Fg:(bd.length:Int)≤(q:Int):=by omega
    have HQ:Hid (Lk.pass bd bd.length p=q):=by rw[←show _=_ from HP.out];exact fS bd q (.inl (by omega)) _
    go_wp2
    go_loop [5,6] (fun a c=> ∃ i:Nat,i≤bd.length∧i≤q∧c=.int .i64 i∧a=.int .i64 (Lk.ahead bd i)) (fun _ c=>bd.length - (intOf c).toNat)
    case atStart=>exact ⟨0,Nat.zero_le _,Nat.zero_le _,rfl,by rw[ahead_zero];rfl⟩
    case round=>
     obtain ⟨i,hi1,hi2,rfl,rfl⟩:=hrel
     have hal:=Ya bd i
     have Wc:(Lk.ahead bd i:Int)≤100000:=by omega
     by_cases hiq:i<q
     ·by_cases hil:i<bd.length
      ·have NJ:(i:Int)<(q:Int):=by omega
       have Su:(i:Int)<(bd.length:Int):=by omega
       have e0:=HK.out i hil
       have hst:=Y8 bd i hil
       have G9:Hid _:=hst
       clear hst
       by_cases GY:(Lk.bodyAt bd i).kind=6
       ·rw[GY] at e0
        have Hm:Hid _:=GY
        clear GY
        go_wp2
        go_round
        case rel=>exact ⟨i+1,by omega,by omega,by go_num,by rw[G9.out,if_pos Hm.out];rfl⟩
        case measure=>simp[intOf];omega
       ·have hm':(((Lk.bodyAt bd i).kind:Int) !=6)=true:=by simp;omega
        have Hm:Hid _:=GY
        clear GY
        generalize (Lk.bodyAt bd i).kind=kk at e0 hm'
        go_wp2
        go_round
        case rel=>exact ⟨i+1,by omega,by omega,by go_num,by rw[G9.out,if_neg Hm.out];rfl⟩
        case measure=>simp[intOf];omega
      ·have Su: ¬(i:Int)<(bd.length:Int):=by omega
       have NJ:(i:Int)<(q:Int):=by omega
       go_wp2
       go_ret
       exact ⟨IK (by unfold Lk.settle;rw[HQ.out,fT bd q (by omega),show i=bd.length by omega]),rfl⟩
     ·have NJ: ¬(i:Int)<(q:Int):=by omega
      go_wp2
      go_ret
      exact ⟨IK (by unfold Lk.settle;rw[HQ.out,show i=q by omega]),rfl⟩
  ·have BH:k=bd.length:=by omega
   have HQ:Hid (Lk.pass bd bd.length p=q):=by rw[←show _=_ from HP.out,BH,Nat.sub_self];rfl
   clear BH
   go_wp2
   go_loop [5,6] (fun a c=> ∃ i:Nat,i≤bd.length∧i≤q∧c=.int .i64 i∧a=.int .i64 (Lk.ahead bd i)) (fun _ c=>bd.length - (intOf c).toNat)
   case atStart=>exact ⟨0,Nat.zero_le _,Nat.zero_le _,rfl,by rw[ahead_zero];rfl⟩
   case round=>
    obtain ⟨i,hi1,hi2,rfl,rfl⟩:=hrel
    have hal:=Ya bd i
    have Wc:(Lk.ahead bd i:Int)≤100000:=by omega
    by_cases hiq:i<q
    ·by_cases hil:i<bd.length
     ·have NJ:(i:Int)<(q:Int):=by omega
      have Su:(i:Int)<(bd.length:Int):=by omega
      have e0:=HK.out i hil
      have hst:=Y8 bd i hil
      have G9:Hid _:=hst
      clear hst
      by_cases GY:(Lk.bodyAt bd i).kind=6
      ·rw[GY] at e0
       have Hm:Hid _:=GY
       clear GY
       go_wp2
       go_round
       case rel=>exact ⟨i+1,by omega,by omega,by go_num,by rw[G9.out,if_pos Hm.out];rfl⟩
       case measure=>simp[intOf];omega
      ·have hm':(((Lk.bodyAt bd i).kind:Int) !=6)=true:=by simp;omega
       have Hm:Hid _:=GY
       clear GY
       generalize (Lk.bodyAt bd i).kind=kk at e0 hm'
       go_wp2
       go_round
       case rel=>exact ⟨i+1,by omega,by omega,by go_num,by rw[G9.out,if_neg Hm.out];rfl⟩
       case measure=>simp[intOf];omega
     ·have Su: ¬(i:Int)<(bd.length:Int):=by omega
      have NJ:(i:Int)<(q:Int):=by omega
      go_wp2
      go_ret
      exact ⟨IK (by unfold Lk.settle;rw[HQ.out,fT bd q (by omega),show i=bd.length by omega]),rfl⟩
    ·have NJ: ¬(i:Int)<(q:Int):=by omega
     go_wp2
     go_ret
     exact ⟨IK (by unfold Lk.settle;rw[HQ.out,show i=q by omega]),rfl⟩
end Go.Proofs.YtgddmpmcnjlcjaaGreatDoor
