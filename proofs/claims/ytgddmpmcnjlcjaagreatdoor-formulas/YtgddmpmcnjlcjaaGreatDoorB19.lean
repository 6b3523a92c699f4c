import Derived.Test.YtgddmpmcnjlcjaaGreatDoorB18
set_option maxRecDepth 100000
set_option maxHeartbeats 1000000
namespace Go.Proofs.YtgddmpmcnjlcjaaGreatDoor
open Go.RowKit
set_option linter.unusedVariables false
abbrev DU (B:Nat) (w:World):Prop:=Lib.TabBelow Tryz.prog B w "internal/strconv.uint64pow10" .u64 Lib.pow10Tab
abbrev Ax (l:Int):Prop:= -9223372036854775808≤l∧l≤9223372036854775807
theorem OJ {l:Int} (h:Ax l):(Er l).length≤22:=by
 unfold Er
 split
 ·simp
 ·have:=Lib.itoa_length_le l h.1 h.2
  simp
  omega
theorem B6.refl (B wb:Nat) (w:World):B6 B wb w w:=⟨Below.refl _ _,Lib.OthersKept.refl _ _ _⟩
theorem B6.trans {B wb:Nat} {a b c:World} (h:B6 B wb a b) (k:B6 B wb b c):B6 B wb a c:=⟨h.1.trans k.1,h.2.trans k.2⟩
section
variable {B wb vars ct:Nat} {bs:List UInt8} {vt:Value} {w:World}
theorem V9 (h:Au B wb vars ct bs vt w) (hBw:B≤w.heap.size) (l:Int) (hl:Ax l) (CY:bs.length≤1000000000) (Ag:DU B w):
  Calls Tryz.prog 79 #[.pointer (some ⟨wb,0,none⟩),.int .i64 l] w fun e w'=>e=.returned (.tuple #[])∧ ∃ Al,Au B wb vars ct (bs++Er l) Al w'∧B6 B wb w w':=by
 unfold Er
 by_cases h0:l=0
 ·subst h0
  rw[if_pos rfl,List.append_nil]
  exact (o9 h).mono (fun e w' hh=>⟨hh.1,vt,by rw[hh.2];exact h,by rw[hh.2];exact B6.refl _ _ _⟩)
 ·rw[if_neg h0]
  exact oD h hBw l h0 hl.1 hl.2 CY Ag
theorem jX (h:Au B wb vars ct bs vt w) (hBw:B≤w.heap.size) (CY:bs.length≤1000000000):
  Calls Tryz.prog 80 #[.pointer (some ⟨wb,0,none⟩)] w fun e w'=>e=.returned (.tuple #[])∧ ∃ Al,Au B wb vars (ct+1) (bs++[48,10]) Al w'∧B6 B wb w w':=by
 obtain ⟨t0,ht0,hz0,hz1,hz2⟩:=info_parts Tryz.Vg
 obtain ⟨av,cv,ev⟩:=AX h.own
 subst ev
 have H:=hid h
 have r1:=h.c2
 have f1:=h.row.frozen 2
 have hcb:=h.cb
 have hrl:=h.row.lt
 have hne:=h.ne
 have KL:=hid hne
 clear h hne
 go_enter Tryz.func80,Tryz.ntmps80
 go_wp2_with (at_builtin;refine wpList_append_lies _ rfl _ _ 103 rfl B 5 t0 _ 1 1 Tryz.underlying103 ht0 hz0 hz1 hz2 rfl (by omega) _ bs.length (Lib.byteCells bs) rfl (H.out.own.alloc _) ⟨w.heap.size,0,none⟩ 2 2 [.int .u8 48,.int .u8 10] rfl rfl (World.news_of_block (cs:= #[.int .u8 48,.int .u8 10]) (t:=5) (fr:=(0,0)) (heap_alloc_new w _)) (by simp[Value.oneCell']) (by omega) (by unfold maxLen;omega) (by omega) (by simp;omega) (w.heap.size+1) (by simp) ?_;intro g4 D4 w4 BW BJ Cn IU;have R4:=hid (Ad (H.out.row.alloc _) BJ KL.out);have q4:=R4.out.cell (i:=2) (by omega);have Qz:=R4.out.frozen 2;have q5:=R4.out.cell (i:=1) (by omega);have qf5:=R4.out.frozen 1;have D8:=hid BW;have Hy:=hid BJ;clear BW BJ Cn;refine Hid.out ?_)
 refine hid ?_
 rw[show ∀ u,I6 vars ct u 2=u from fun _=>rfl] at q4
 rw[show ∀ u,I6 vars ct u 1=.int .i64 ct from fun _=>rfl] at q5
 have KM:(Value.slice (some ⟨g4,0,none⟩) (bs.length+2) D4).ownBlock≠some wb:=Aq D8.out R4.out (by decide)
 have W4:=H.out.txt (bs':=bs++[48,10]) _ R4.out (by rw[List.length_append,Lib.byteCells_append];exact D8.out) KM (by rw[List.length_append];omega)
 have q6:=W4.c1
 have qf6:=W4.row.frozen 1
 have HW4:=hid W4
 have HN4:=hid KM
 have hcI:(ct:Int)≤1000000000:=by omega
 clear W4 KM
 go_wp2_with fail
 go_end0
 refine ⟨rfl,.slice (some ⟨g4,0,none⟩) (bs.length+2) D4,?_,?_,?_⟩
 ·have:=HW4.out.cnt (ct+1) (by rw[List.length_append];simp;omega)
  simpa using this
 ·exact (((((Below.refl B w).alloc hBw _).grown Hy.out (by simp;omega) (fun q hq=>(H.out.own.lt q hq).1)).setCell (p:=⟨wb,2,none⟩) H.out.hb _).setCell (p:=⟨wb,1,none⟩) H.out.hb _)
 ·exact Lib.OthersKept.setCell (Lib.OthersKept.setCell (Lib.OthersKept.grown ((Lib.OthersKept.refl _ _ w).alloc _) Hy.out (fun g hg=>Mu (H.out.own.alloc _) hg)) ⟨wb,2,none⟩ rfl _) ⟨wb,1,none⟩ rfl _
def DN (a b c:Int):List UInt8:=Er a++Er b++Er c++[48,10]
theorem Mq (h:Au B wb vars ct bs vt w) (hBw:B≤w.heap.size) (a b c:Int) (ha:Ax a) (hb:Ax b) (hc:Ax c) (CY:bs.length≤900000000) (Ag:DU B w):
  Calls Tryz.prog 78 #[.pointer (some ⟨wb,0,none⟩),.int .i64 a,.int .i64 b,.int .i64 c] w fun e w'=>e=.returned (.tuple #[])∧ ∃ Al,Au B wb vars (ct+1) (bs++DN a b c) Al w'∧B6 B wb w w':=by
 have H:=hid h
 have HT:=hid Ag
 have la:=OJ ha
 have lb:=OJ hb
 have lc:=OJ hc
 have HA:=hid ha
 have HB:=hid hb
 have HC:=hid hc
 clear h Ag ha hb hc
 go_enter Tryz.func78,Tryz.ntmps78
 go_wp2_with (go_at_call 79;refine (V9 H.out hBw a HA.out (by omega) HT.out).mono ?_;rintro e w1 ⟨rfl,v1,h1,f1⟩;have H1:=hid h1;have F1:=hid f1;have z1:=f1.1.size;clear h1 f1;refine Hid.out ?_)
 refine hid ?_
 have L1:(bs++Er a).length≤1000000000:=by rw[List.length_append];omega
 go_wp2_with (go_at_call 79;refine (V9 H1.out (by omega) b HB.out L1 (HT.out.on F1.out.1)).mono ?_;rintro e w2 ⟨rfl,v2,h2,f2⟩;have H2:=hid h2;have F2:=hid f2;have z2:=f2.1.size;clear h2 f2;refine Hid.out ?_)
 refine hid ?_
 have L2:(bs++Er a++Er b).length≤1000000000:=by rw[List.length_append,List.length_append];omega
 go_wp2_with (go_at_call 79;refine (V9 H2.out (by omega) c HC.out L2 (HT.out.on (F1.out.1.trans F2.out.1))).mono ?_;rintro e w3 ⟨rfl,v3,h3,f3⟩;have H3:=hid h3;have F3:=hid f3;have z3:=f3.1.size;clear h3 f3;refine Hid.out ?_)
 refine hid ?_
 have L3:(bs++Er a++Er b++Er c).length≤1000000000:=by rw[List.length_append,List.length_append,List.length_append];omega
 go_wp2_with (go_at_call 80;refine (jX H3.out (by omega) L3).mono ?_;rintro e w4 ⟨rfl,v4,h4,f4⟩;have H4:=hid h4;have F4:=hid f4;clear h4 f4)
 go_end0
 refine ⟨rfl,v4,?_,((F1.out.trans F2.out).trans F3.out).trans F4.out⟩
 have e:bs++DN a b c=bs++Er a++Er b++Er c++[48,10]:=by unfold DN;simp
 rw[e]
 exact H4.out
end
theorem dO {w w':World} {base wb n sz:Nat} {t:TypeId} {v:Value} {xs:List Value} (h:w.ownsRow base t sz v n xs) (hf:A9 0 (fun k=>k=wb) w w') (hne:v.ownBlock≠some wb):w'.ownsRow base t sz v n xs:=
 BP h (fun k e=>hf.keep k (h.lt k e).2 (fun c=>hne (by rw[←show k=wb from c];exact e)))
def BD (v n:Nat):List Nat:=(List.range n).map fun i=>v+1+i
theorem om (v n:Nat):BD v (n+1)=BD v n++[v+1+n]:=by
 unfold BD
 rw[List.range_succ,List.map_append]
 rfl
theorem Jl (v n:Nat):(BD v n).length=n:=by simp[BD]
theorem Rz {B wb vars ct:Nat} {bs:List UInt8} {vt:Value} {w:World} (h:Au B wb vars ct bs vt w) (n:Nat) (hn:n≤1000) (hv:vars≤100000000):
  Calls Tryz.prog 41 #[.pointer (some ⟨wb,0,none⟩),.int .i64 n] w fun e w'=> ∃ a c,e=.returned (.slice a n c)∧w'.ownsRow w.heap.size 3 1 (.slice a n c) n ((BD vars n).map fun (n:Nat)=>.int .i64 n)∧Au B wb (vars+n) ct bs vt w'∧A9 0 (fun k=>k=wb) w w':=by
 obtain ⟨t0,ht0,hz0,hz1,hz2⟩:=info_parts Tryz.Ds
 have H:=hid h
 have hrl:=h.row.lt
 have Fj:(n:Int)≤1000:=by omega
 have Gq:(vars:Int)≤100000000:=by omega
 obtain ⟨av,cv,ev⟩:=AX h.own
 subst ev
 clear h
 go_enter Tryz.func41,Tryz.ntmps41
 go_wp2_with fail
 go_loopw [5,6] (fun v c wr=> ∃ i:Nat,i≤n∧c=.int .i64 i∧wr.ownsRow w.heap.size 3 1 v i ((BD vars i).map fun (n:Nat)=>.int .i64 n)∧wr.rowIs wb 105 3 (I6 (vars+i) ct (.slice av bs.length cv))∧A9 0 (fun k=>k=wb) w wr) (fun _ c _=>n - (intOf c).toNat)
 case atStart=>exact ⟨0,Nat.zero_le _,rfl,World.ownsRow_nil _ _ _ _,H.out.row,A9.refl _ _ _⟩
 case round=>
  obtain ⟨i,hin,rfl,hown,hrow,Ak⟩:=hrel
  obtain ⟨ao,co,eo⟩:=AX hown
  subst eo
  have HO:=hid hown
  have HR:=hid hrow
  have HF:=hid Ak
  have z:=Ak.A8.size
  have r0:=hrow.cell (i:=0) (by omega)
  rw[show ∀ x u,I6 x ct u 0=.int .i64 x from fun _ _=>rfl] at r0
  have f0:=hrow.frozen 0
  have hl2:=hrow.lt
  have hnw:(Value.slice ao i co).ownBlock≠some wb:=fun e=>by have:=(hown.lt wb e).1;omega
  have J6:=hid hnw
  clear hown hrow Ak hnw
  by_cases hlt:i<n
  ·have Fh:(i:Int)<1000:=by omega
   have HS:=hid (om vars i)
   obtain ⟨y,hy⟩: ∃ y,vars+i=y:=⟨_,rfl⟩
   have I7:(y:Int)≤100001000:=by omega
   rw[hy] at r0 HR
   have HY:=hid (show vars+(i+1)=y+1 by omega)
   have HY2:=hid (show vars+1+i=y+1 by omega)
   have AU:=hid ((HR.out.set 0 (.int .i64 ((y:Int)+1))).congr (fun j hj=>show _=I6 (y+1) ct (.slice av bs.length cv) j by
    match j,hj with
    |0,_=>rfl
    |1,_=>rfl
    |2,_=>rfl
    |n+3,h=>omega))
   have c0:=AU.out.cell (i:=0) (by omega)
   rw[show ∀ u,I6 (y+1) ct u 0=.int .i64 ((y:Int)+1) from fun _=>rfl] at c0
   have BR:=hid (BC (i:=0) HO.out J6.out (.int .i64 ((y:Int)+1)))
   have AE:=hid (HF.out.setCell (p:=⟨wb,0,none⟩) (Nat.zero_le _) rfl (.int .i64 ((y:Int)+1)))
   clear hy
   go_wp2_with (first|(at_builtin;refine wpList_append_lies _ rfl _ _ 24 rfl w.heap.size 3 t0 _ 1 8 Tryz.underlying24 ht0 hz0 hz1 hz2 rfl (by omega) _ i ((BD vars i).map fun (n:Nat)=>.int .i64 n) rfl (BR.out.alloc _) ⟨wr.heap.size,0,none⟩ 1 1 [.int .i64 ((y:Int)+1)] rfl rfl (by have h:=cell_one_new (wr.setCell ⟨wb,0,none⟩ (.int .i64 ((y:Int)+1))) (.int .i64 ((y:Int)+1)) 3;simpa using h) (by simp[Value.oneCell']) (by omega) (by unfold maxLen;omega) (by omega) (by simp;omega) (wr.heap.size+1) (by simp) ?_;intro g4 D4 w4 BW BJ Cn IU))
   go_roundw
   case rel=>
    refine ⟨i+1,by omega,by go_num,?_,?_,?_⟩
    ·rw[HS.out,HY2.out,List.map_append]
     exact BW
    ·rw[HY.out]
     exact Ad (AU.out.alloc _) BJ J6.out
    ·exact (((AE.out.alloc (Nat.zero_le _) _).down).trans (A9.grown (A9.refl 0 (fun k=>(Value.slice ao i co).ownBlock=some k) _) BJ (Nat.zero_le _) (fun k e=>⟨Nat.zero_le _,e⟩)) (fun k hk e=>by have:=(HO.out.lt k e).1;omega))
   case measure=>simp[intOf];omega
  ·have hie:n=i:=by omega
   subst hie
   go_wp2_with fail
   go_ret
   exact ⟨_,_,rfl,HO.out,⟨HR.out,H.out.cb,dO H.out.own HF.out H.out.ne,H.out.hb,H.out.ne⟩,HF.out⟩
theorem Au.alloc {B wb vars ct:Nat} {bs:List UInt8} {vt:Value} {w:World} (h:Au B wb vars ct bs vt w) (o:Obj):Au B wb vars ct bs vt (w.alloc o):=⟨h.row.alloc o,h.cb,h.own.alloc o,h.hb,h.ne⟩
theorem DU.alloc {B:Nat} {w:World} (h:DU B w) (hB:B≤w.heap.size) (o:Obj):DU B (w.alloc o):=h.on ((Below.refl B w).alloc hB o)
theorem B6.alloc {B wb:Nat} {a w:World} (h:B6 B wb a w) (hB:B≤w.heap.size) (o:Obj):B6 B wb a (w.alloc o):=⟨h.1.alloc hB o,h.2.alloc o⟩
def FY (N:List Nat) (v:Int) (node:Nat) (u:Int):List UInt8:=
 if node=0 then DN (-v) u 0 else if node=1 then DN v u 0 else DN (-v) u (N.getD node 0)++DN v u (-(N.getD node 0:Int))
def Bd (node:Nat):Nat:=if node≤1 then 1 else 2
theorem JJ {a b c:Int} (ha:Ax a) (hb:Ax b) (hc:Ax c):(DN a b c).length≤68:=by
 have:=OJ ha
 have:=OJ hb
 have:=OJ hc
 unfold DN
 simp
 omega
section
variable {B wb vars ct:Nat} {bs:List UInt8} {vt:Value} {w:World}
theorem sI (h:Au B wb vars ct bs vt w) (hBw:B≤w.heap.size) (v u:Int) (hv: -1000000000≤v∧v≤1000000000) (hu: -1000000000≤u∧u≤1000000000) (node:Nat) (hn:node≤1) (a1 a2 a3:Option Addr) (n1 c1 n2 c2 n3 c3:Nat) (N:List Nat) (CY:bs.length≤800000000) (Ag:DU B w):
  Calls Tryz.prog 77 #[.pointer (some ⟨wb,0,none⟩),.int .i64 v,.int .i64 node,.agg #[.slice a1 n1 c1,.slice a2 n2 c2,.slice a3 n3 c3],.int .i64 u] w fun e w'=>e=.returned (.tuple #[])∧ ∃ Al,Au B wb vars (ct+Bd node) (bs++FY N v node u) Al w'∧B6 B wb w w':=by
 have H:=hid h
 have HT:=hid Ag
 clear h Ag
 have HV:Hid (Ax v):=⟨by omega,by omega⟩
 have XI:Hid (Ax (-v)):=⟨by omega,by omega⟩
 have HU:Hid (Ax u):=⟨by omega,by omega⟩
 have H0:Hid (Ax 0):=⟨by omega,by omega⟩
 have hv1:=hv.1
 have hv2:=hv.2
 obtain rfl|rfl:node=0∨node=1:=by omega
 ·go_enter Tryz.func77,Tryz.ntmps77
  go_wp2_with (go_at_call 78;refine (Mq (H.out.alloc _) (by simp;omega) (-v) u 0 XI.out HU.out H0.out (by omega) (HT.out.alloc hBw _)).mono ?_;rintro e w1 ⟨rfl,v1,h1,f1⟩;have H1:=hid h1;have F1:=hid f1;clear h1 f1)
  go_end0
  exact ⟨rfl,v1,H1.out,((B6.refl B wb w).alloc hBw _).trans F1.out⟩
 ·go_enter Tryz.func77,Tryz.ntmps77
  go_wp2_with (go_at_call 78;refine (Mq (H.out.alloc _) (by simp;omega) v u 0 HV.out HU.out H0.out (by omega) (HT.out.alloc hBw _)).mono ?_;rintro e w1 ⟨rfl,v1,h1,f1⟩;have H1:=hid h1;have F1:=hid f1;clear h1 f1)
  go_end0
  exact ⟨rfl,v1,H1.out,((B6.refl B wb w).alloc hBw _).trans F1.out⟩
def MH (a1 a2 a3:Option Addr) (n1 c1 n2 c2 n3 c3:Nat) (i:Nat):Value:=if i=0 then .slice a1 n1 c1 else if i=1 then .slice a2 n2 c2 else .slice a3 n3 c3
theorem jY (w:World) (a1 a2 a3:Option Addr) (n1 c1 n2 c2 n3 c3:Nat):(w.alloc (.cells #[.slice a1 n1 c1,.slice a2 n2 c2,.slice a3 n3 c3] 107)).rowIs w.heap.size 107 3 (MH a1 a2 a3 n1 c1 n2 c2 n3 c3):=
 World.rowIs_alloc w #[.slice a1 n1 c1,.slice a2 n2 c2,.slice a3 n3 c3] 107 (MH a1 a2 a3 n1 c1 n2 c2 n3 c3) (fun i hi=>by
  match i,hi with
  |0,_=>rfl
  |1,_=>rfl
  |2,_=>rfl
  |n+3,h=>exact absurd (show n+3<3 from h) (by omega))
theorem sJ (h:Au B wb vars ct bs vt w) (hBw:B≤w.heap.size) (v u:Int) (hv: -1000000000≤v∧v≤1000000000) (hu: -1000000000≤u∧u≤1000000000) (node:Nat) (hn:2≤node) (a1 a2 a3:Option Addr) (n1 c1 c2 n3 c3:Nat) (N:List Nat) (hN:w.ownsRow 0 3 1 (.slice a2 N.length c2) N.length (N.map fun (n:Nat)=>.int .i64 n)) (RF:node<N.length) (Ca:N.getD node 0≤1000000000) (LZ:N.length≤1000000000) (CY:bs.length≤800000000) (Ag:DU B w):
  Calls Tryz.prog 77 #[.pointer (some ⟨wb,0,none⟩),.int .i64 v,.int .i64 node,.agg #[.slice a1 n1 c1,.slice a2 N.length c2,.slice a3 n3 c3],.int .i64 u] w fun e w'=>e=.returned (.tuple #[])∧ ∃ Al,Au B wb vars (ct+Bd node) (bs++FY N v node u) Al w'∧B6 B wb w w':=by
 obtain ⟨g,cap,Tv,_,G5⟩:=hN.form (by omega)
 cases Tv
 have nc:=SN hN node RF
 have U':=hid hN
 have R9:g≠wb:=fun e=>Aq hN h.row (by decide) (by rw[←e];rfl)
 have HS:=hid (show FY N v node u=DN (-v) u (N.getD node 0)++DN v u (-(N.getD node 0:Int)) by unfold FY;rw[if_neg (by omega),if_neg (by omega)])
 generalize N.getD node 0=y at nc Ca HS
 have H:=hid h
 have HT:=hid Ag
 have Oq:=h.row.lt
 have hrow:=jY w a1 (some ⟨g,0,none⟩) a3 n1 c1 N.length c2 n3 c3
 have Ta:=hid hrow
 have NC:=hid nc
 clear h Ag hN
 have HV:Hid (Ax v):=⟨by omega,by omega⟩
 have XI:Hid (Ax (-v)):=⟨by omega,by omega⟩
 have HU:Hid (Ax u):=⟨by omega,by omega⟩
 have HY:Hid (Ax (y:Int)):=⟨by omega,by omega⟩
 have HY2:Hid (Ax (-(y:Int))):=⟨by omega,by omega⟩
 have hv1:=hv.1
 have hv2:=hv.2
 have Fj:(node:Int)<(N.length:Int):=by omega
 have J7:((node:Int)==0)=false:=by simp;omega
 have MT:((node:Int)==1)=false:=by simp;omega
 have I7:(y:Int)≤1000000000:=by omega
 clear hrow
 go_enter Tryz.func77,Tryz.ntmps77
 go_wp2_with (go_at_call 78;refine (Mq (H.out.alloc _) (by simp;omega) (-v) u y XI.out HU.out HY.out (by omega) (HT.out.alloc hBw _)).mono ?_;rintro e w1 ⟨rfl,v1,h1,f1⟩;have H1:=hid h1;have F1:=hid f1;have z1:=f1.1.size;clear h1 f1;refine Hid.out ?_)
 refine hid ?_
 have R1:=Lq Ta.out F1.out.2 (by simp;omega) (by decide)
 have q1:=R1.cell (i:=1) (by omega)
 rw[show MH a1 (some ⟨g,0,none⟩) a3 n1 c1 N.length c2 n3 c3 1=.slice (some ⟨g,0,none⟩) N.length c2 from rfl] at q1
 have O1:=QI (U'.out.alloc (.cells #[.slice a1 n1 c1,.slice (some ⟨g,0,none⟩) N.length c2,.slice a3 n3 c3] 107)) F1.out.2 (fun g' e=>by have e:g=g':=(by simpa[Value.ownBlock] using e);rw[←e];simpa using R9) (by decide)
 have y1:w1.cell? ⟨g,node,none⟩=some (.int .i64 y):=by
  have e1:=O1.cellAt node (by omega)
  have e2:=U'.out.cellAt node (by omega)
  rw[e1, ←e2]
  exact NC.out
 have hbl:bs.length+68≤900000000:=by omega
 have L1:(bs++DN (-v) u y).length≤900000000:=by rw[List.length_append];have:=JJ XI.out HU.out HY.out;omega
 clear R1 O1
 have z2:B≤w1.heap.size:=by simp at z1;omega
 go_wp2_with (go_at_call 78;refine (Mq H1.out z2 v u (-(y:Int)) HV.out HU.out HY2.out L1 ((HT.out.alloc hBw _).on F1.out.1)).mono ?_;rintro e w2 ⟨rfl,v2,h2,f2⟩;have H2:=hid h2;have F2:=hid f2;clear h2 f2)
 go_end0
 refine ⟨rfl,v2,?_,(((B6.refl B wb w).alloc hBw _).trans F1.out).trans F2.out⟩
 rw[HS.out, ←List.append_assoc,show Bd node=2 from if_neg (by omega)]
 exact H2.out
end
section
variable {B wb vars ct:Nat} {bs:List UInt8} {vt:Value} {w:World}
theorem Yh (h:Au B wb vars ct bs vt w) (hBw:B≤w.heap.size) (v u:Int) (hv: -1000000000≤v∧v≤1000000000) (hu: -1000000000≤u∧u≤1000000000) (node:Nat) (a1 a2 a3:Option Addr) (n1 c1 c2 n3 c3:Nat) (N:List Nat) (hN:w.ownsRow 0 3 1 (.slice a2 N.length c2) N.length (N.map fun (n:Nat)=>.int .i64 n)) (RF:node<N.length) (Ca:N.getD node 0≤1000000000) (LZ:N.length≤1000000000) (CY:bs.length≤800000000) (Ag:DU B w):
  Calls Tryz.prog 77 #[.pointer (some ⟨wb,0,none⟩),.int .i64 v,.int .i64 node,.agg #[.slice a1 n1 c1,.slice a2 N.length c2,.slice a3 n3 c3],.int .i64 u] w fun e w'=>e=.returned (.tuple #[])∧ ∃ Al,Au B wb vars (ct+Bd node) (bs++FY N v node u) Al w'∧B6 B wb w w':=by
 by_cases h1:node≤1
 ·exact sI h hBw v u hv hu node h1 a1 a2 a3 n1 c1 N.length c2 n3 c3 N CY Ag
 ·exact sJ h hBw v u hv hu node (by omega) a1 a2 a3 n1 c1 c2 n3 c3 N hN RF Ca LZ CY Ag
theorem VO (N:List Nat) {v u:Int} (hv: -1000000000≤v∧v≤1000000000) (hu: -1000000000≤u∧u≤1000000000) (node:Nat) (h9:N.getD node 0≤1000000000):(FY N v node u).length≤136:=by
 have l1:= @JJ (-v) u 0 ⟨by omega,by omega⟩ ⟨by omega,by omega⟩ ⟨by omega,by omega⟩
 have l2:= @JJ v u 0 ⟨by omega,by omega⟩ ⟨by omega,by omega⟩ ⟨by omega,by omega⟩
 have l3:= @JJ (-v) u (N.getD node 0) ⟨by omega,by omega⟩ ⟨by omega,by omega⟩ ⟨by omega,by omega⟩
 have l4:= @JJ v u (-(N.getD node 0:Int)) ⟨by omega,by omega⟩ ⟨by omega,by omega⟩ ⟨by omega,by omega⟩
 unfold FY
 split
 ·omega
 ·split
  ·omega
  ·rw[List.length_append];omega
def Hj (bits N:List Nat) (v:Int) (bit lo hi:Nat):List UInt8:=FY N v lo (bits.getD bit 0)++FY N v hi (-(bits.getD bit 0:Int))
def JR (bit lo hi:Nat) (sec:Bool) (i:Nat):Value:=if i=0 then .int .i64 bit else if i=1 then .int .i64 lo else if i=2 then .int .i64 hi else .bool sec
theorem iA (w:World) (bit lo hi:Nat) (sec:Bool):(w.alloc (.cells #[.int .i64 bit,.int .i64 lo,.int .i64 hi,.bool sec] 153)).rowIs w.heap.size 153 4 (JR bit lo hi sec):=
 World.rowIs_alloc w #[.int .i64 bit,.int .i64 lo,.int .i64 hi,.bool sec] 153 (JR bit lo hi sec) (fun i hi=>by
  match i,hi with
  |0,_=>rfl
  |1,_=>rfl
  |2,_=>rfl
  |3,_=>rfl
  |n+4,h=>exact absurd (show n+4<4 from h) (by omega))
theorem fX (h:Au B wb vars ct bs vt w) (hBw:B≤w.heap.size) (v:Int) (hv: -1000000000≤v∧v≤1000000000) (bit lo hi:Nat) (sec:Bool) (a1 a2 a3:Option Addr) (c1 c2 n3 c3:Nat) (bits N:List Nat) (hb:w.ownsRow 0 3 1 (.slice a1 bits.length c1) bits.length (bits.map fun (n:Nat)=>.int .i64 n)) (hN:w.ownsRow 0 3 1 (.slice a2 N.length c2) N.length (N.map fun (n:Nat)=>.int .i64 n)) (hbl:bit<bits.length) (hlo:lo<N.length) (hhi:hi<N.length) (Ca: ∀ i,N.getD i 0≤1000000000) (hb9:bits.getD bit 0≤1000000000) (LZ:N.length≤1000000000) (alE:bits.length≤1000000000) (CY:bs.length≤700000000) (Ag:DU B w):
  Calls Tryz.prog 76 #[.pointer (some ⟨wb,0,none⟩),.int .i64 v,.agg #[.int .i64 bit,.int .i64 lo,.int .i64 hi,.bool sec],.agg #[.slice a1 bits.length c1,.slice a2 N.length c2,.slice a3 n3 c3]] w fun e w'=>e=.returned (.tuple #[])∧ ∃ Al,Au B wb vars (ct+(Bd lo+Bd hi)) (bs++Hj bits N v bit lo hi) Al w'∧B6 B wb w w':=by
 obtain ⟨g,cap,Tv,_,G5⟩:=hb.form (by omega)
 cases Tv
 have nc:=SN hb bit hbl
 have HS:=hid (show Hj bits N v bit lo hi=FY N v lo (bits.getD bit 0)++FY N v hi (-(bits.getD bit 0:Int)) from rfl)
 generalize bits.getD bit 0=y at nc hb9 HS
 have H:=hid h
 have HT:=hid Ag
 have U':=hid hN
 have Oq:=h.row.lt
 have EE:(bit:Int)<(bits.length:Int):=by omega
 have I7:(y:Int)≤1000000000:=by omega
 clear h Ag hN hb
 obtain ⟨w0,hw0⟩: ∃ w0:World,(w.alloc (.cells #[.int .i64 bit,.int .i64 lo,.int .i64 hi,.bool sec] 153)).alloc (.cells #[.slice (some ⟨g,0,none⟩) bits.length c1,.slice a2 N.length c2,.slice a3 n3 c3] 107)=w0:=⟨_,rfl⟩
 have hz0:w0.heap.size=w.heap.size+2:=by rw[←hw0];simp
 have U0:=hid ((H.out.alloc (.cells #[.int .i64 bit,.int .i64 lo,.int .i64 hi,.bool sec] 153)).alloc (.cells #[.slice (some ⟨g,0,none⟩) bits.length c1,.slice a2 N.length c2,.slice a3 n3 c3] 107))
 have HT0:=hid ((HT.out.alloc hBw (.cells #[.int .i64 bit,.int .i64 lo,.int .i64 hi,.bool sec] 153)).alloc (by simp;omega) (.cells #[.slice (some ⟨g,0,none⟩) bits.length c1,.slice a2 N.length c2,.slice a3 n3 c3] 107))
 have HN0:=hid ((U'.out.alloc (.cells #[.int .i64 bit,.int .i64 lo,.int .i64 hi,.bool sec] 153)).alloc (.cells #[.slice (some ⟨g,0,none⟩) bits.length c1,.slice a2 N.length c2,.slice a3 n3 c3] 107))
 have HF0:=hid (((B6.refl B wb w).alloc hBw (.cells #[.int .i64 bit,.int .i64 lo,.int .i64 hi,.bool sec] 153)).alloc (by simp;omega) (.cells #[.slice (some ⟨g,0,none⟩) bits.length c1,.slice a2 N.length c2,.slice a3 n3 c3] 107))
 have JZ:=hid ((iA w bit lo hi sec).alloc (.cells #[.slice (some ⟨g,0,none⟩) bits.length c1,.slice a2 N.length c2,.slice a3 n3 c3] 107))
 have U1:=hid (jY (w.alloc (.cells #[.int .i64 bit,.int .i64 lo,.int .i64 hi,.bool sec] 153)) (some ⟨g,0,none⟩) a2 a3 bits.length c1 N.length c2 n3 c3)
 rw[hw0] at U0 HT0 HN0 HF0 JZ U1
 have HE:=hid hw0
 clear hw0
 have mI:(Value.slice a2 N.length c2).ownBlock≠some wb:=Aq U'.out H.out.row (by decide)
 have J6:=hid mI
 clear mI
 have HV:=hid hv
 have hB0:B≤w0.heap.size:=by omega
 have HL:Hid ((bs++FY N v lo y).length≤800000000):=by
  have:=VO N (u:=(y:Int)) hv ⟨by omega,by omega⟩ lo (Ca lo)
  refine hid ?_
  rw[List.length_append]
  omega
 go_enter Tryz.func76,Tryz.ntmps76
 go_wp2_with (go_at_call 77;rw[HE.out];refine (Yh U0.out hB0 v y HV.out ⟨by omega,by omega⟩ lo _ a2 a3 _ _ c2 n3 c3 N HN0.out hlo (Ca lo) LZ (by omega) HT0.out).mono ?_;rintro e w1 ⟨rfl,v1,h1,f1⟩;have H1:=hid h1;have F1:=hid f1;have z1:=f1.1.size;clear h1 f1;refine Hid.out ?_)
 refine hid ?_
 have R1:=Lq JZ.out F1.out.2 (by simp;omega) (by decide)
 have n2:=R1.cell (i:=2) (by omega)
 rw[show JR bit lo hi sec 2=.int .i64 hi from rfl] at n2
 have Q1:=Lq U1.out F1.out.2 (by simp;omega) (by decide)
 have q0:=Q1.cell (i:=0) (by omega)
 have q1:=Q1.cell (i:=1) (by omega)
 have q2:=Q1.cell (i:=2) (by omega)
 simp only[World.size_alloc] at q0 q1 q2
 rw[show MH (some ⟨g,0,none⟩) a2 a3 bits.length c1 N.length c2 n3 c3 0=.slice (some ⟨g,0,none⟩) bits.length c1 from rfl] at q0
 rw[show MH (some ⟨g,0,none⟩) a2 a3 bits.length c1 N.length c2 n3 c3 1=.slice a2 N.length c2 from rfl] at q1
 rw[show MH (some ⟨g,0,none⟩) a2 a3 bits.length c1 N.length c2 n3 c3 2=.slice a3 n3 c3 from rfl] at q2
 clear R1 Q1
 have O1:=hid (QI HN0.out F1.out.2 (fun g' e=>by intro e2;cases e2;exact J6.out e) (by decide))
 have I_:B≤w1.heap.size:=by omega
 go_wp2_with (go_at_call 77;refine (Yh H1.out I_ v (-(y:Int)) HV.out ⟨by omega,by omega⟩ hi _ a2 a3 _ _ c2 n3 c3 N O1.out hhi (Ca hi) LZ HL.out (HT0.out.on F1.out.1)).mono ?_;rintro e w2 ⟨rfl,v2,h2,f2⟩;have H2:=hid h2;have F2:=hid f2;clear h2 f2)
 go_end0
 refine ⟨rfl,v2,?_,(HF0.out.trans F1.out).trans F2.out⟩
 rw[HS.out, ←List.append_assoc, ←Nat.add_assoc]
 exact H2.out
end
end Go.Proofs.YtgddmpmcnjlcjaaGreatDoor
