import Derived.Test.YtgddmpmcnjlcjaaGreatDoorB10
import Derived.Deep.QuietTactic
import Derived.BigQuiet
import Derived.Deep.RegionLaw
import Derived.Deep.DeepCutAuto
import Derived.Deep.RegionWith
import Derived.Test.YtgddmpmcnjlcjaaGreatDoorB09
set_option maxRecDepth 100000
set_option maxHeartbeats 20000000
namespace Go.Proofs.YtgddmpmcnjlcjaaGreatDoor
open Go.RowKit
set_option linter.unusedVariables false
theorem lC {w:World} {base:Nat} {e:TypeId} {l:List Bool} {g cap:Nat} (h:w.ownsRow base e 1 (.slice (some ⟨g,0,none⟩) l.length cap) l.length (l.map Value.bool)) (i:Nat) (hi:i<l.length):w.cell? ⟨g,i,none⟩=some (.bool (l.getD i false)):=by
 rw[h.cellAt i (by omega)];simp[hi]
theorem Tryz.vJ:(Tryz.prog.info? 153).map (fun i=>(i.zero,i.size,i.bytes))=some (some (.agg #[.int .i64 0,.int .i64 0,.int .i64 0,.bool false]),4,32):=by kernel_rfl
section
variable {w0 w:World} {mb gh gr M n:Nat} {s:Dg.St} {r:Nat→Nat} {pv:Nat→Value} {vN vB:Value}
theorem rV (h:BA w0 mb gh gr M s r pv vN vB w) (b lo:Nat):
  Calls Tryz.prog 75 #[.pointer (some ⟨mb,0,none⟩),.int .i64 b,.int .i64 lo,.int .i64 lo] w fun e w'=>e=.returned (.int .i64 lo)∧w'=w:=by
 go_enter Tryz.func75,Tryz.ntmps75
 go_wp2_with fail
 go_ret
 exact ⟨rfl,rfl⟩
theorem rW (h:BA w0 mb gh gr M s r pv vN vB w) (ok:Dg.Ok n M s) (cy:0<M) (hM:M≤4096) (sec:List Bool) (hn:n=sec.length) (MT:n≤3) (hs:w0.ownsRow 0 4 1 (pv 0) sec.length (sec.map Value.bool)) (hN:s.nodes.length≤400000) (b lo hi:Nat) (hb:b<4*n) (hlo:lo<s.nodes.length) (hhi:hi<s.nodes.length) (hne:lo≠hi):
  Calls Tryz.prog 75 #[.pointer (some ⟨mb,0,none⟩),.int .i64 b,.int .i64 lo,.int .i64 hi] w fun e w'=>e=.returned (.int .i64 (Dg.CM sec M s b lo hi).1)∧ ∃ Bn CJ,BA w0 mb gh gr M (Dg.CM sec M s b lo hi).2 r pv Bn CJ w'∧CQ mb gh gr vN vB Bn CJ w w':=by
 have H:=hid h
 have OK:=hid ok
 have c5:=h.c5
 have c6:=h.c6
 have c7:=h.c7
 obtain ⟨C,hC⟩: ∃ C,Dg.chain M b lo hi=C:=⟨_,rfl⟩
 have T_:C<M:=by rw[←hC];exact Nat.mod_lt _ cy
 have hCI:((b:Int)+lo*7919+hi*104729)%(M:Int)=(C:Int):=by rw[←hC];unfold Dg.chain;simp only[Int.natCast_emod,Int.natCast_add,Int.natCast_mul];rfl
 have hd:=h.heads.cell T_
 have hhC:=ok.heads C
 obtain ⟨gN,cN,hvN,_,hgN⟩:=h.nodes.form (by have:=ok.two;omega)
 subst hvN
 obtain ⟨gB,cB,hvB,_,hgB⟩:=h.behind.form (by have:=ok.two;have:=ok.len;omega)
 subst hvB
 have ag3:((lo:Int)==(hi:Int))=false:=by simp;omega
 have ag4:((M:Int)==0)=false:=by simp;omega
 have Qx:(M:Int)≤4096:=by omega
 have EE:(b:Int)<12:=by omega
 have ak7:(lo:Int)≤400000:=by omega
 have ak8:(hi:Int)≤400000:=by omega
 clear h ok
 go_enter Tryz.func75,Tryz.ntmps75
 go_wp2_with fail
 rw[hCI]
 clear hCI
 obtain ⟨R,hR⟩: ∃ R,Dg.found M s b lo hi=R:=⟨_,rfl⟩
 have Ta:=hid hR
 have J3:=hid hC
 have XC:=hid hhC
 have h0L:0<s.nodes.length:=by have:=OK.out.two;omega
 have hLk:Dg.look s.nodes s.behind b lo hi s.nodes.length (s.heads C)=R:=by rw[←hR, ←hC];rfl
 have HLK:=hid hLk
 clear hR hC hLk hhC
 go_loopw [10] (fun v wr=> ∃ m f:Nat,v=.int .i64 m∧m<s.nodes.length∧m≤f∧Dg.look s.nodes s.behind b lo hi f m=R∧wr=w) (fun v _=>(intOf v).toNat)
 case atStart=>exact ⟨s.heads C,s.nodes.length,rfl,XC.out,Nat.le_of_lt XC.out,HLK.out,rfl⟩
 case round=>
  obtain ⟨m,f,rfl,hm,Gr,hlk,hw⟩:=hrel
  have hw2:=hw.symm
  clear hw
  subst hw2
  have Gs:(m:Int)≤400000:=by omega
  by_cases hm0:m=0
  ·subst hm0
   have NY:R=0:=by rw[←hlk];cases f <;> simp[Dg.look]
   have ER:=hid (show Dg.CM sec M s b lo hi=(s.nodes.length,Dg.push sec M s b lo hi) by
    unfold Dg.CM
    rw[if_neg hne,if_neg (by rw[Ta.out,NY];simp)])
   have s0:w.cell? ⟨mb,0,none⟩=some (pv 0):=H.out.row.cell (i:=0) (by omega)
   obtain ⟨gS,cS,dA,_,hgS⟩:=hs.form (by omega)
   have HVS:=hid dA
   rw[dA] at s0 hs
   have hb3:b/4<sec.length:=by omega
   have sc:=(H.out.A8.cell (p:=⟨gS,b/4,none⟩) hgS).trans (lC hs (b/4) hb3)
   have l3:w.cell? ⟨gN,lo*4+3,none⟩=some (.bool (Dg.AG s.nodes lo).sec):=H.out.TZ lo hlo 3 (by omega)
   have h3:w.cell? ⟨gN,hi*4+3,none⟩=some (.bool (Dg.AG s.nodes hi).sec):=H.out.TZ hi hhi 3 (by omega)
   obtain ⟨X,hX⟩: ∃ X,(sec.getD (b/4) false||(Dg.AG s.nodes lo).sec||(Dg.AG s.nodes hi).sec)=X:=⟨_,rfl⟩
   have NZ:=hid (show Dg.Si sec s b lo hi=⟨b,lo,hi,X⟩ by unfold Dg.Si;rw[hX])
   obtain ⟨B1,e1⟩: ∃ B,sec.getD (b/4) false=B:=⟨_,rfl⟩
   obtain ⟨B2,e2⟩: ∃ B,(Dg.AG s.nodes lo).sec=B:=⟨_,rfl⟩
   obtain ⟨B3,e3⟩: ∃ B,(Dg.AG s.nodes hi).sec=B:=⟨_,rfl⟩
   rw[e1,e2,e3] at hX
   rw[e1] at sc
   rw[e2] at l3
   rw[e3] at h3
   have ak9:(b:Int)/4<(sec.length:Int):=by omega
   have akL:(lo:Int)<(s.nodes.length:Int):=by omega
   have akM:(hi:Int)<(s.nodes.length:Int):=by omega
   have Qy:(s.nodes.length:Int)≤400000:=by omega
   have hBL:=OK.out.len
   have hBI:(s.behind.length:Int)≤400000:=by omega
   have hBn:s.behind.length≤400000:=by omega
   have AV:=hid hBL
   have akN:(C:Int)<(M:Int):=by omega
   obtain ⟨t0,ht0,hz0,hz1,hz2⟩:=info_parts Tryz.vJ
   obtain ⟨u0,LX,y0,y1,y2⟩:=info_parts Tryz.Ds
   have zb:=H.out.A8.size
   have hNf:=H.out.nodes
   have HNf:=hid hNf
   clear NY hlk hm Gr Gs e1 e2 e3 hBL hNf hs dA hn hb3 ag4 ag3 hne
   have HX:=hid hX
   clear hX
   go_upto_region 9 with fail
   go_cut [11] (fun v wc=>v=.bool X∧wc=w)
   case first=>
    cases B1
    ·cases B2
     ·cases B3
      ·go_wp2_with fail
       go_meet
       exact ⟨by rw[←HX.out];rfl,rfl⟩
      ·go_wp2_with fail
       go_meet
       exact ⟨by rw[←HX.out];rfl,rfl⟩
     ·go_wp2_with fail
      go_meet
      exact ⟨by rw[←HX.out];rfl,rfl⟩
    ·go_wp2_with fail
     go_meet
     exact ⟨by rw[←HX.out];rfl,rfl⟩
   case rest=>
    obtain ⟨rfl,hwc⟩:=hcut
    have hwd:=hwc.symm
    clear hwc
    subst hwd
    clear sc l3 h3 HX
    go_wp2_with (at_builtin;refine wpList_append_lies _ rfl _ _ 48 rfl w0.heap.size 153 t0 _ 4 32 Tryz.underlying48 ht0 hz0 hz1 hz2 rfl (by omega) _ s.nodes.length (s.nodes.flatMap Dg.Nd.cells) rfl (HNf.out.alloc _) ⟨w.heap.size,0,none⟩ 1 1 [.int .i64 b,.int .i64 lo,.int .i64 hi,.bool X] rfl rfl (World.news_of_block (cs:= #[.int .i64 b,.int .i64 lo,.int .i64 hi,.bool X]) (t:=153) (fr:=(0,0)) (heap_alloc_new w _)) (by simp[Value.oneCell']) (by omega) (by unfold maxLen;omega) (by omega) (by simp;omega) (w.heap.size+1) (by simp) ?_;intro g4 D4 w4 BW BJ Cn IU;have r4:=H.out.E9 BJ;have q4:=r4.cell (i:=5) (by omega);have Qz:=r4.frozen 5;have q46:=r4.cell (i:=6) (by omega);have q47:=r4.cell (i:=7) (by omega);have q4d:=(H.out.abU BJ).cell T_;have D8:=hid BW;have Hy:=hid BJ;have HA4:=hid Cn;clear BW BJ Cn r4;refine Hid.out ?_)
    refine hid ?_
    rw[show ∀ a c d e,JY pv a c d e 5=a from fun _ _ _ _=>rfl] at q4
    rw[show ∀ a c d e,JY pv a c d e 6=c from fun _ _ _ _=>rfl] at q46
    rw[show ∀ a c d e,JY pv a c d e 7=d from fun _ _ _ _=>rfl] at q47
    have hmg:mb≠gh:=Cj H.out.row H.out.heads (by decide)
    have hgm:gh≠mb:=fun e=>hmg e.symm
    have A4:=H.out.Sj (.cells #[.int .i64 b,.int .i64 lo,.int .i64 hi,.bool X] 153) ⟨b,lo,hi,X⟩ D8.out Hy.out
    have R4:=(CQ.refl mb gh gr (sl gN s.nodes.length cN) (sl gB s.behind.length cB) w).Sj (n':=s.nodes.length+1) (cap':=D4) (.cells #[.int .i64 b,.int .i64 lo,.int .i64 hi,.bool X] 153) Hy.out HA4.out
    have k5:=A4.c5
    have k6:=A4.c6
    have k7:=A4.c7
    have kd:=A4.heads.cell T_
    have kf5:=A4.row.frozen 7
    have k6a:=fun o=>(A4.alloc o).c6
    have k7a:=fun o=>(A4.alloc o).c7
    have kda:=fun o=>(A4.alloc o).heads.cell T_
    have HA:=hid A4
    have HR:=hid R4
    have z4:=A4.A8.size
    have lm:=A4.row.lt
    clear A4 R4 c5 c6 c7 hd Hy D8 HA4
    have zb4:w0.heap.size≤w4.heap.size:=by simpa using z4
    clear z4
    go_wp2_with fail
    go_cut [] (fun wc=> ∃ g5 Wh:Nat,BA w0 mb gh gr M { s with nodes:=s.nodes++[⟨b,lo,hi,X⟩],behind:=s.behind++[s.heads C] } r pv (sl g4 (s.nodes.length+1) D4) (sl g5 (s.behind.length+1) Wh) wc∧CQ mb gh gr (sl gN s.nodes.length cN) (sl gB s.behind.length cB) (sl g4 (s.nodes.length+1) D4) (sl g5 (s.behind.length+1) Wh) w wc)
    case first=>
     go_region_law
      ((refine step_append_lies _ (by rfl) _ _ _ (by rfl) w0.heap.size 3 u0 _ 1 8 Tryz.underlying24 LX y0 y1 y2 rfl (by omega) _ s.behind.length (s.behind.map fun (n:Nat)=>.int .i64 n) (by rfl) ((HA.out.behind.alloc _).drew) ⟨w4.heap.size,0,none⟩ 1 1 [.int .i64 (s.heads C:Nat)] (by rfl) (by rfl) (by have h:=cell_one_new (w4.setCell ⟨mb,5,none⟩ (sl g4 (s.nodes.length+1) D4)) (.int .i64 (s.heads C:Nat)) 3;simpa using h) (by simp[Value.oneCell']) (by omega) (by unfold maxLen;omega) (by omega) (by simp;omega) (w4.heap.size+1) (by simp) ?_;intro g5 Wh w5 MA Ze ly akO;have r5:=HA.out.drew.ag2 Ze;have q5:=r5.cell (i:=7) (by omega);have qf5:=r5.frozen 7;clear r5))
     all_goals
      go_wp2_with fail
      go_meet
      exact ⟨_,_,HA.out.drew.aC _ (s.heads C) MA Ze (by simpa using ly),HR.out.drew.aC _ Ze (by simpa using ly)⟩
    case rest=>
     obtain ⟨g5,Wh,A5,R5⟩:=hcut
     have A6:=A5.ZH C s.nodes.length
     have R6:=R5.ZH C (.int .i64 s.nodes.length)
     have k5':=A5.c5
     have k6':=A5.c6
     have kd':=A5.heads.cell T_
     have kf6:=A5.heads.frozen C
     have akP:=A6.c5
     have HA6:=hid A6
     have Fk:=hid R6
     clear A5 R5 A6 R6 k5 k6 k7 kd q4 q46 q47 q4d HA HR
     go_wp2_with fail
     go_region
     all_goals go_wp2_with fail
     go_ret
     rw[ER.out]
     refine ⟨rfl,_,_,?_,Fk.out.drew⟩
     have e:Dg.push sec M s b lo hi={ nodes:=s.nodes++[⟨b,lo,hi,X⟩],heads:=fun i=>if i=C then s.nodes.length else s.heads i,behind:=s.behind++[s.heads C] }:=by
      unfold Dg.push
      rw[NZ.out,J3.out]
     rw[e]
     exact HA6.out.drew
  ·obtain ⟨f,rfl⟩: ∃ f',f=f'+1:=⟨f - 1,by omega⟩
   unfold Dg.look at hlk
   rw[if_neg hm0] at hlk
   have hmB:m<s.behind.length:=by have:=OK.out.len;omega
   have hdec:=OK.out.dec m (by omega) hm
   have n0:=H.out.TZ m hm 0 (by omega)
   have n1:=H.out.TZ m hm 1 (by omega)
   have n2:=H.out.TZ m hm 2 (by omega)
   have b0:=H.out.bhc m hmB
   rw[Nat.add_zero] at n0
   generalize Dg.AG s.nodes m=d at n0 n1 n2 hlk
   replace n0:w.cell? ⟨gN,m*4,none⟩=some (.int .i64 d.bit):=n0
   replace n1:w.cell? ⟨gN,m*4+1,none⟩=some (.int .i64 d.lo):=n1
   replace n2:w.cell? ⟨gN,m*4+2,none⟩=some (.int .i64 d.hi):=n2
   generalize s.behind.getD m 0=q at b0 hdec hlk
   have Wi:((m:Int) !=0)=true:=by simp;omega
   have hmL:(m:Int)<(s.nodes.length:Int):=by omega
   have akQ:(m:Int)<(s.behind.length:Int):=by omega
   by_cases e0:d.bit=b
   ·have e0I:((d.bit:Int)==(b:Int))=true:=by simp;omega
    by_cases e1:d.lo=lo
    ·have e1I:((d.lo:Int)==(lo:Int))=true:=by simp;omega
     by_cases e2:d.hi=hi
     ·have e2I:((d.hi:Int)==(hi:Int))=true:=by simp;omega
      rw[if_pos ⟨e0,e1,e2⟩] at hlk
      have HK:=hid hlk
      clear hlk e0 e1 e2
      have ER:=hid (show Dg.CM sec M s b lo hi=(m,s) by
       unfold Dg.CM
       rw[if_neg hne,if_pos (by rw[Ta.out, ←HK.out];exact hm0),Ta.out,HK.out])
      clear hne
      go_wp2_with fail
      go_ret
      rw[ER.out]
      exact ⟨rfl,_,_,H.out,CQ.refl _ _ _ _ _ _⟩
     ·have e2I:((d.hi:Int)==(hi:Int))=false:=by simp;omega
      rw[if_neg (fun c=>e2 c.2.2)] at hlk
      have HK:=hid hlk
      clear hlk e0 e1 e2 hne hn
      go_wp2_with fail
      go_roundw
      case rel=>exact ⟨q,f,by go_num,by omega,by omega,HK.out,trivial⟩
      case measure=>simp[intOf];omega
    ·have e1I:((d.lo:Int)==(lo:Int))=false:=by simp;omega
     rw[if_neg (fun c=>e1 c.2.1)] at hlk
     have HK:=hid hlk
     clear hlk e0 e1 hne hn
     go_wp2_with fail
     go_roundw
     case rel=>exact ⟨q,f,by go_num,by omega,by omega,HK.out,trivial⟩
     case measure=>simp[intOf];omega
   ·have e0I:((d.bit:Int)==(b:Int))=false:=by simp;omega
    rw[if_neg (fun c=>e0 c.1)] at hlk
    have HK:=hid hlk
    clear hlk e0 hne hn
    go_wp2_with fail
    go_roundw
    case rel=>exact ⟨q,f,by go_num,by omega,by omega,HK.out,trivial⟩
    case measure=>simp[intOf];omega
theorem vK (h:BA w0 mb gh gr M s r pv vN vB w) (ok:Dg.Ok n M s) (cy:0<M) (hM:M≤4096) (sec:List Bool) (hn:n=sec.length) (MT:n≤3) (hs:w0.ownsRow 0 4 1 (pv 0) sec.length (sec.map Value.bool)) (hN:s.nodes.length≤400000) (b lo hi:Nat) (hb:b<4*n) (hlo:lo<s.nodes.length) (hhi:hi<s.nodes.length):
  Calls Tryz.prog 75 #[.pointer (some ⟨mb,0,none⟩),.int .i64 b,.int .i64 lo,.int .i64 hi] w fun e w'=>e=.returned (.int .i64 (Dg.CM sec M s b lo hi).1)∧ ∃ Bn CJ,BA w0 mb gh gr M (Dg.CM sec M s b lo hi).2 r pv Bn CJ w'∧CQ mb gh gr vN vB Bn CJ w w':=by
 by_cases e:lo=hi
 ·subst e
  refine (rV h b lo).mono ?_
  rintro e w' ⟨rfl,rfl⟩
  have e2:Dg.CM sec M s b lo lo=(lo,s):=if_pos rfl
  rw[e2]
  exact ⟨rfl,_,_,h,CQ.refl _ _ _ _ _ _⟩
 ·exact rW h ok cy hM sec hn MT hs hN b lo hi hb hlo hhi e
end
theorem vL {w0 w:World} {mb gh gr M n:Nat} {s:Dg.St} {r:Nat→Nat} {pv:Nat→Value} {vN vB:Value} (h:BA w0 mb gh gr M s r pv vN vB w) (ok:Dg.Ok n M s) (hr: ∀ j,r j<s.nodes.length) (hM:M≤4096) (sec:List Bool) (hn:n=sec.length) (MT:n≤3) (hs:w0.ownsRow 0 4 1 (pv 0) sec.length (sec.map Value.bool)) (hN:s.nodes.length+M≤400000)
  (bits:List Nat) (hb:w0.ownsRow 0 3 1 (pv 4) bits.length (bits.map fun (n:Nat)=>.int .i64 n)) (dB:M=2 ^ bits.length) (hl:bits.length≤12) (hb4: ∀ i,i<bits.length→bits.getD i 0<4*n):
  Calls Tryz.prog 40 #[.pointer (some ⟨mb,0,none⟩)] w fun e w'=>e=.returned (.int .i64 ((Dg.CG sec M bits s r M bits.length).2 0))∧ ∃ Bn CJ,BA w0 mb gh gr M (Dg.CG sec M bits s r M bits.length).1 (Dg.CG sec M bits s r M bits.length).2 pv Bn CJ w'∧CQ mb gh gr vN vB Bn CJ w w':=by
 have H:=hid h
 have OK:=hid ok
 have HS:=hid hs
 have HB:=hid hb
 have HR:=hid hr
 have c8:=h.c8
 have c4:w.cell? ⟨mb,4,none⟩=some (pv 4):=h.row.cell (i:=4) (by omega)
 obtain ⟨ab,cb,eb⟩:=AX hb
 rw[eb] at c4
 have dC:=hid dB
 have hMp:0<M:=by rw[dB];exact Nat.pos_of_ne_zero (by simp)
 have Qx:(M:Int)≤4096:=by omega
 have DL:(bits.length:Int)≤12:=by omega
 clear h ok hs hb hr dB
 go_enter Tryz.func40,Tryz.ntmps40
 go_wp2_with fail
 go_loopw [3,18] (fun rv cv wr=> ∃ (L:Nat) (Bn CJ:Value),L≤bits.length∧rv=.int .i64 ((M/2 ^ L:Nat):Int)∧cv=.int .i64 L∧BA w0 mb gh gr M (Dg.CG sec M bits s r M L).1 (Dg.CG sec M bits s r M L).2 pv Bn CJ wr∧CQ mb gh gr vN vB Bn CJ w wr) (fun _ cv _=>bits.length - (intOf cv).toNat)
 case atStart=>exact ⟨0,vN,vB,Nat.zero_le _,by simp,rfl,H.out,CQ.refl _ _ _ _ _ _⟩
 case round=>
  obtain ⟨L,XD,XE,hL,rfl,rfl,hat,Ak⟩:=hrel
  obtain ⟨wo,rfl⟩: ∃ wo:World,wo=wr:=⟨wr,rfl⟩
  obtain ⟨ok1,hr1,_,XF⟩:=Dg.ZG (rest:=M) sec bits OK.out HR.out hb4 L hL
  have hq0:M/2 ^ L≤M:=Nat.div_le_self _ _
  by_cases hlt:L<bits.length
  ·have MU:=hid (show Dg.CG sec M bits s r M (L+1)=Dg.Bo sec M (bits.getD L 0) (Dg.CG sec M bits s r M L).1 (Dg.CG sec M bits s r M L).2 (M/2 ^ (L+1)) from rfl)
   have hh:=Dg.half M L
   have hpw:M/2 ^ L/2=M/2 ^ (L+1):=by rw[Nat.pow_succ,Nat.div_div_eq_div_mul]
   generalize (Dg.CG sec M bits s r M L).1=s1 at hat ok1 hr1 XF MU
   generalize (Dg.CG sec M bits s r M L).2=r1 at hat hr1 MU
   obtain ⟨gb,cb',hvb,_,hgb⟩:=HB.out.form (by omega)
   have hpv:=HB.out
   rw[hvb] at hpv eb
   cases eb
   have bc:=(hat.A8.cell (p:=⟨gb,L,none⟩) hgb).trans (QR hpv L hlt)
   have hb1:=hb4 L hlt
   generalize bits.getD L 0=b at bc hb1 MU
   generalize M/2 ^ L=q at hq0 XF hh hpw
   obtain ⟨q2,mA⟩: ∃ q2,M/2 ^ (L+1)=q2:=⟨_,rfl⟩
   rw[mA] at hh MU hpw
   have HPW:=hid (show M/2 ^ (L+1)=q/2 by rw[mA,hpw])
   subst hpw
   have Fg:(q:Int)≤4096:=by omega
   have Qy:(L:Int)≤12:=by omega
   have hLB:(L:Int)<(bits.length:Int):=by omega
   have EE:(b:Int)≤12:=by omega
   have DM:=hid hat
   have GA:=hid Ak
   have OK1:=hid ok1
   have Aw:=hid hr1
   have c8:=hat.c8
   clear hat Ak ok1 hr1 hpv
   go_wp2_with fail
   go_loopw [6] (fun iv wr=> ∃ (i:Nat) (PB PC:Value),i≤q/2∧iv=.int .i64 i∧BA w0 mb gh gr M (Dg.Bo sec M b s1 r1 i).1 (Dg.Bo sec M b s1 r1 i).2 pv PB PC wr∧CQ mb gh gr XD XE PB PC wo wr) (fun iv _=>q/2 - (intOf iv).toNat)
   case atStart=>exact ⟨0,XD,XE,Nat.zero_le _,rfl,DM.out,CQ.refl _ _ _ _ _ _⟩
   case round=>
    obtain ⟨i,PB,PC,hi,rfl,hat,Ak⟩:=hrel
    obtain ⟨Tb,hr2,_,dD⟩:=Dg.jQ sec OK1.out Aw.out hb1 i
    have Fh:(i:Int)≤4096:=by omega
    by_cases Iw:i<q/2
    ·have Ol:=hid (show Dg.Bo sec M b s1 r1 (i+1)=((Dg.CM sec M (Dg.Bo sec M b s1 r1 i).1 b ((Dg.Bo sec M b s1 r1 i).2 (2*i)) ((Dg.Bo sec M b s1 r1 i).2 (2*i+1))).2,fun j=>if j=i then (Dg.CM sec M (Dg.Bo sec M b s1 r1 i).1 b ((Dg.Bo sec M b s1 r1 i).2 (2*i)) ((Dg.Bo sec M b s1 r1 i).2 (2*i+1))).1 else (Dg.Bo sec M b s1 r1 i).2 j) from rfl)
     generalize (Dg.Bo sec M b s1 r1 i).1=s2 at hat Tb hr2 dD Ol
     generalize (Dg.Bo sec M b s1 r1 i).2=r2 at hat hr2 Ol
     obtain ⟨t,ht⟩: ∃ t,2*i=t:=⟨_,rfl⟩
     rw[ht] at Ol
     have h2i:2*(i:Int)=(t:Int):=by omega
     have x0:=hat.rows.cell (i:=t) (by omega)
     have x1:=hat.rows.cell (i:=t+1) (by omega)
     have l0:=hr2 t
     have l1:=hr2 (t+1)
     generalize r2 t=lo at x0 l0 Ol
     generalize r2 (t+1)=hi' at x1 l1 Ol
     have d8:=hat.c8
     have aU:=hid hat
     have aV:=hid Ak
     have Bv:=hid Tb
     have akR:(t:Int)+1<(M:Int):=by omega
     have akU:(t:Int)<(M:Int):=by omega
     have htI:(t:Int)≤4096:=by omega
     have hti:i<M:=by omega
     have hwt:IntKind.i64.wrap (t:Int)=(t:Int):=by rw[IntKind.wrap_i64];omega
     have ag5:IntKind.i64.wrap ((t:Int)+1)=(t:Int)+1:=by rw[IntKind.wrap_i64];omega
     clear ht
     have akW:(i:Int)<(M:Int):=by omega
     have ag6:(i:Int)<(q:Int)/2:=by omega
     have HC:=hid (vK aU.out.drew Bv.out hMp hM sec hn MT HS.out (by omega) b lo hi' hb1 l0 l1)
     clear hat Ak Tb hr2
     obtain ⟨y,hy⟩: ∃ y,Dg.CM sec M s2 b lo hi'=y:=⟨_,rfl⟩
     rw[hy] at HC Ol
     clear hy
     go_wp2_with fail
     go_cut [7] (fun v wc=>v=.int .i64 (y.1:Nat)∧ ∃ Tc Td:Value,BA w0 mb gh gr M y.2 r2 pv Tc Td wc∧CQ mb gh gr XD XE Tc Td wo wc)
     case first=>
      go_region_with (go_at_call 75;refine HC.out.mono ?_;rintro e w3 ⟨rfl,Tc,Td,h3,f3⟩;have H3:=hid h3;have F3:=hid (aV.out.drew.trans f3);clear h3 f3)
      all_goals
       go_wp2_with fail
       go_meet
       exact ⟨rfl,_,_,H3.out,F3.out⟩
     case rest=>
      obtain ⟨rfl,Tc,Td,h3,f3⟩:=hcut
      have e8:=h3.c8
      have er:=h3.rows.cell (i:=i) hti
      have ef:=h3.rows.frozen i
      have H3:=hid h3
      have F3:=hid f3
      clear h3 f3
      clear h2i hwt ag5
      go_wp2_with fail
      go_roundw
      case rel=>
       refine ⟨i+1,Tc,Td,by omega,by go_num,?_,(F3.out.setRow i _)⟩
       rw[Ol.out]
       exact (H3.out.setRow i y.1)
      case measure=>simp[intOf];omega
    ·have hie:q/2=i:=by omega
     have ag6: ¬(i:Int)<(q:Int)/2:=by omega
     have aU:=hid hat
     have aV:=hid Ak
     have PD:=hid hie
     clear hat Ak hie
     go_wp2_with fail
     go_roundw
     case rel=>
      refine ⟨L+1,PB,PC,by omega,?_,by go_num,?_,GA.out.trans aV.out⟩
      ·rw[HPW.out]
       go_num
      ·rw[MU.out,PD.out]
       exact aU.out
     case measure=>simp[intOf];omega
  ·have MV:bits.length=L:=by omega
   have x0:=hat.rows.cell (i:=0) (by omega)
   have d8:=hat.c8
   have DM:=hid hat
   have GA:=hid Ak
   have Hz:=hid MV
   have FJ:M/2 ^ L=1:=by rw[←MV, ←dC.out];exact Nat.div_self hMp
   rw[FJ]
   clear hat Ak MV
   have akX:(0:Int)<(M:Int):=by omega
   go_wp2_with fail
   go_ret
   rw[Hz.out]
   exact ⟨rfl,_,_,DM.out,GA.out⟩
def wi (n m:Int):Bool:=decide (0≤n∧n≤m)
theorem Vt {n m:Int} (h:wi n m=true):0≤n∧n≤m:=by simpa[wi] using h
theorem Yc {n m:Int} (h:wi n m=false): ¬(0≤n∧n≤m):=by simpa[wi] using h
theorem eG (n m:Int) (w:World):
  Calls Tryz.prog 15 #[.int .i64 n,.int .i64 m] w fun e w'=>e=.returned (.bool (wi n m))∧w'=w:=by
 by_cases h0:0≤n
 ·go_enter Tryz.func15,Tryz.ntmps15
  go_wp2
  go_ret
  exact ⟨Ks (by simp[wi,h0]),rfl⟩
 ·have h1:n<0:=by omega
  go_enter Tryz.func15,Tryz.ntmps15
  go_wp2
  go_ret
  exact ⟨Ks (by unfold wi;rw[decide_eq_false (by omega)]),rfl⟩
theorem M7 (w:World) (o:Obj) (cs:Array Value) (t:TypeId) (i:Nat) (u:Value) (h:cs[i]? =some u):((w.alloc o).alloc (.cells cs t)).cell? ⟨w.heap.size+1,i,none⟩=some u:=by
 have:=newAt (w.alloc o) cs t i u h
 simpa using this
end Go.Proofs.YtgddmpmcnjlcjaaGreatDoor
