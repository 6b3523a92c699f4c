import Derived.Test.YtgddmpmcnjlcjaaGreatDoorB36
import Derived.Deep.RegionHeld3
import Derived.Deep.QuietTactic
import Derived.BigQuiet
set_option maxRecDepth 100000
set_option maxHeartbeats 1000000
namespace Go.Proofs.YtgddmpmcnjlcjaaGreatDoor
open Go.RowKit
set_option linter.unusedVariables false
theorem OY (P gl cl n:Nat) (s:Rf.Rs) (i:Nat) (hi:i<5):(if i=2 then Value.int .i64 ((s.at_:Int)+1) else AQ P gl cl n s i)=AQ P gl cl n { s with at_:=s.at_+1 } i:=by
 match i,hi with
 |0,_=>rfl
 |1,_=>rfl
 |2,_=>rfl
 |3,_=>rfl
 |4,_=>rfl
 |n+5,h=>omega
theorem QV (P gl cl n:Nat) (s:Rf.Rs) (i:Nat) (hi:i<5):(if i=2 then Value.int .i64 ((s.at_:Int)+1) else if i=3 then Value.int .i64 ((s.cnt:Int)+1) else AQ P gl cl n s i)=AQ P gl cl n { s with cnt:=s.cnt+1,at_:=s.at_+1 } i:=by
 match i,hi with
 |0,_=>rfl
 |1,_=>rfl
 |2,_=>rfl
 |3,_=>rfl
 |4,_=>rfl
 |n+5,h=>omega
theorem QL (L:List ByteArray) (i:Nat):(L.map ByteArray.toList).getD i []=(L.getD i ByteArray.empty).toList:=DT L i
theorem GR {w:World} {a:Addr} {v:Value} (h:w.cell? a=some v) {b i:Nat} (hb:a.block≠b) (u:Value):(w.setCell ⟨b,i,none⟩ u).cell? a=some v:=
 (World.cell?_of_block (Below.heap_setCell w ⟨b,i,none⟩ u a.block hb)).trans h
section
variable {w:World} {base P R gl cl d f:Nat} {l:List DB} {s:Rf.Rs} {L:List ByteArray} {vn vk vz vb:Value} {sb gw cw:Nat} {TB TO:List Rf.Tr}
abbrev Ku (w w':World) (base P R gl cl:Nat) (l:List DB) (L:List ByteArray) (vn vk vz vb:Value) (sb gw nw cw:Nat) (TB TO:List Rf.Tr) (e:Ending) (o:Bool×Rf.Rs):Prop:=
 e=.returned (.bool o.1)∧Ay w' base P R l (AQ P gl cl L.length o.2) L gl vn vk vz vb∧A9 0 (fun k=>k=R∨k=sb) w w'∧
  (o.1=true→ ∃ ub uo,w'.rowIs sb 139 3 (DG gw nw cw ub uo)∧Sub w' (DV w w') ub TB∧Sub w' (DV w w') uo TO)
theorem qV (gw n cw:Nat) (u:Value) (i:Nat) (hi:i<3):(if i=1 then u else DG gw n cw (.slice none 0 0) (.slice none 0 0) i)=DG gw n cw u (.slice none 0 0) i:=by
 match i,hi with
 |0,_=>rfl
 |1,_=>rfl
 |2,_=>rfl
 |n+3,h=>omega
theorem qW (gw n cw:Nat) (u x:Value) (i:Nat) (hi:i<3):(if i=2 then x else if i=1 then u else DG gw n cw (.slice none 0 0) (.slice none 0 0) i)=DG gw n cw u x i:=by
 match i,hi with
 |0,_=>rfl
 |1,_=>rfl
 |2,_=>rfl
 |n+3,h=>omega
theorem xO (F:Ay w base P R l (AQ P gl cl L.length s) L gl vn vk vz vb) (hl:l.length≤1000) (hL:L.length≤1000) (n:Nat) (c0:w.cell? ⟨sb,0,none⟩=some (.slice (some ⟨gw,0,none⟩) n cw)) (hn:((n:Int) !=2)=true):
  Calls Tryz.prog 61 #[.pointer (some ⟨R,0,none⟩),.pointer (some ⟨sb,0,none⟩),.int .i64 d] w fun e w'=>Ku w w' base P R gl cl l L vn vk vz vb sb gw n cw TB TO e (false,s):=by
 have HF:=hid F
 clear F
 go_enter Tryz.func61,Tryz.ntmps61
 go_wp2_with fail
 go_ret
 exact ⟨rfl,HF.out,A9.refl _ _ _,fun h=>absurd h (by simp)⟩
theorem tG (F:Ay w base P R l (AQ P gl cl L.length s) L gl vn vk vz vb) (hl:l.length≤1000) (hL:L.length≤1000) (c0:w.cell? ⟨sb,0,none⟩=some (.slice (some ⟨gw,0,none⟩) 2 cw)) (hd:d=4):
  Calls Tryz.prog 61 #[.pointer (some ⟨R,0,none⟩),.pointer (some ⟨sb,0,none⟩),.int .i64 d] w fun e w'=>Ku w w' base P R gl cl l L vn vk vz vb sb gw 2 cw TB TO e (false,s):=by
 have HF:=hid F
 clear F
 subst hd
 go_enter Tryz.func61,Tryz.ntmps61
 go_wp2_with fail
 go_ret
 exact ⟨rfl,HF.out,A9.refl _ _ _,fun h=>absurd h (by simp)⟩
theorem tH (F:Ay w base P R l (AQ P gl cl L.length s) L gl vn vk vz vb) (hl:l.length≤1000) (hL:L.length≤1000) (hS:w.rowIs sb 139 3 (DG gw 2 cw (.slice none 0 0) (.slice none 0 0))) (q0 q1:ByteArray) (c0:w.cell? ⟨gw,0,none⟩=some (.string q0)) (c1:w.cell? ⟨gw,1,none⟩=some (.string q1)) (hd:d<4) (AY: ¬IM P R gl vn vk vz sb) (hgR:gw≠R) (hgs:gw≠sb) (ha:Rf.atom (A7 l) q1.toList=false):
  Calls Tryz.prog 61 #[.pointer (some ⟨R,0,none⟩),.pointer (some ⟨sb,0,none⟩),.int .i64 d] w fun e w'=>Ku w w' base P R gl cl l L vn vk vz vb sb gw 2 cw TB TO e (false,s):=by
 have hsl:=hS.lt
 have Cs:=F.row.lt
 have hsR:sb≠R:=fun e=>AY (.inl e)
 have s0:=hS.cell (i:=0) (by omega)
 rw[show DG gw 2 cw (.slice none 0 0) (.slice none 0 0) 0=.slice (some ⟨gw,0,none⟩) 2 cw from rfl] at s0
 have r0:=F.row.cell (i:=0) (by omega)
 rw[show AQ P gl cl L.length s 0=.pointer (some ⟨P,0,none⟩) from rfl] at r0
 have Eu:(d:Int)<4:=by omega
 have RT:((d:Int)==4)=false:=by simp;omega
 have HS:=hid hS
 have HF:=hid F
 have Jc:=hid c0
 clear hS F
 go_enter Tryz.func61,Tryz.ntmps61
 go_wp2_with fail
 go_region_held3 (fun w'=>w'.cell? ⟨R,0,none⟩=some (.pointer (some ⟨P,0,none⟩))∧w'.cell? ⟨sb,0,none⟩=some (.slice (some ⟨gw,0,none⟩) 2 cw)∧w'.cell? ⟨gw,1,none⟩=some (.string q1))
  (first
    |go_keep
    |(go_split_ands
      exact ⟨cell_later hb1 (by assumption),cell_later hb1 (by assumption),cell_later hb1 (by assumption)⟩))
  ((go_at_call 97;refine (HF.out.drew.prog.IJ q1 hl).mono ?_;rintro e w1 ⟨rfl,hb1⟩))
 go_wp2_with fail
 go_ret
 have hb2:Below w.heap.size w w1:=⟨hb1.os,hb1.tape,hb1.output,hb1.size,hb1.block⟩
 exact ⟨rfl,HF.out.below hb2,A9.Ap hb2 (Nat.zero_le _),fun h=>absurd h (by simp)⟩
theorem xP (F:Ay w base P R l (AQ P gl cl L.length s) L gl vn vk vz vb) (hl:l.length≤1000) (hL:L.length≤1000) (hS:w.rowIs sb 139 3 (DG gw 2 cw (.slice none 0 0) (.slice none 0 0))) (q0 q1:ByteArray) (c0:w.cell? ⟨gw,0,none⟩=some (.string q0)) (c1:w.cell? ⟨gw,1,none⟩=some (.string q1)) (hd:d<4) (AY: ¬IM P R gl vn vk vz sb) (hgR:gw≠R) (hgs:gw≠sb) (ha:Rf.atom (A7 l) q1.toList=true) (hds:s.ds=A7 l) (Ai:s.AA=true) (Ej:L.length≤s.at_+1+(f+1)) (hat:s.at_+1<L.length) (hcn:s.cnt<12) (IH:Kz L gl cl (d+1)) (s2:Rf.Rs) (BQ:(Rf.Ab (L.map ByteArray.toList) f (d+1) { s with cnt:=s.cnt+1,at_:=s.at_+1 })=(false,s2)):
  Calls Tryz.prog 61 #[.pointer (some ⟨R,0,none⟩),.pointer (some ⟨sb,0,none⟩),.int .i64 d] w fun e w'=>Ku w w' base P R gl cl l L vn vk vz vb sb gw 2 cw TB TO e (false,s2):=by
 have hsl:=hS.lt
 have Cs:=F.row.lt
 have hsR:sb≠R:=fun e=>AY (.inl e)
 have s0:=hS.cell (i:=0) (by omega)
 rw[show DG gw 2 cw (.slice none 0 0) (.slice none 0 0) 0=.slice (some ⟨gw,0,none⟩) 2 cw from rfl] at s0
 have r0:=F.row.cell (i:=0) (by omega)
 rw[show AQ P gl cl L.length s 0=.pointer (some ⟨P,0,none⟩) from rfl] at r0
 have Eu:(d:Int)<4:=by omega
 have RT:((d:Int)==4)=false:=by simp;omega
 have HS:=hid hS
 have HF:=hid F
 have Jc:=hid c0
 clear hS F
 have HI:=hid (IH f)
 have Cx:=hid BQ
 have ML:(s.at_:Int)+1<1000:=by omega
 have TI:(s.cnt:Int)<12:=by omega
 have HD:=hid hds
 have GC:=hid Ai
 clear IH BQ hds Ai
 go_enter Tryz.func61,Tryz.ntmps61
 go_wp2_with fail
 go_region_held3 (fun w'=>w'.cell? ⟨R,0,none⟩=some (.pointer (some ⟨P,0,none⟩))∧w'.cell? ⟨sb,0,none⟩=some (.slice (some ⟨gw,0,none⟩) 2 cw)∧w'.cell? ⟨gw,1,none⟩=some (.string q1))
  (first
    |go_keep
    |(go_split_ands
      exact ⟨cell_later hb1 (by assumption),cell_later hb1 (by assumption),cell_later hb1 (by assumption)⟩))
  ((go_at_call 97;refine (HF.out.drew.prog.IJ q1 hl).mono ?_;rintro e w1 ⟨rfl,hb1⟩))
 have hb2:Below w.heap.size w w1:=⟨hb1.os,hb1.tape,hb1.output,hb1.size,hb1.block⟩
 have F1:=hid (HF.out.below hb2)
 have S1:=hid (HS.out.of_block (hb2.block sb hsl))
 have W1:Hid (A9 0 (fun k=>k=R∨k=sb) w w1):=A9.Ap hb2 (Nat.zero_le _)
 have g0:=cell_later hb2 Jc.out
 have z1:=hb2.size
 clear hb1 hb2 s0 r0
 have r2:=F1.out.row.cell (i:=2) (by omega)
 have r3:=F1.out.row.cell (i:=3) (by omega)
 have f2:=F1.out.row.frozen 2
 have f3:=F1.out.row.frozen 3
 rw[show AQ P gl cl L.length s 2=.int .i64 s.at_ from rfl] at r2
 rw[show AQ P gl cl L.length s 3=.int .i64 s.cnt from rfl] at r3
 go_wp2_with (first|(go_at_call 32;refine (HI.out _ base P R l { s with cnt:=s.cnt+1,at_:=s.at_+1 } vn vk vz vb (((F1.out.put 3 _).put 2 _).congr (fun i hi=>QV P gl cl L.length s i hi)) HD.out GC.out (by show L.length≤s.at_+1+1+f;omega) (by exact hat) (by show s.cnt+1≤12;omega) hl hL).mono ?_;rintro e w3 ⟨ad,n,c,rfl,F3,K3,T3⟩;rw[Cx.out] at F3;rw[Cx.out];have S3:=((S1.out.setOther hsR _).setOther hsR _).of_block (K3.keep sb (by simp;omega) hsR);have G3:=K3.cell (p:=⟨gw,0,none⟩) (GR (GR g0 hgR _) hgR _) hgR;have Ue:=S3.cell (i:=1) (by omega);have Uf:=S3.frozen 1;have Bp:=hid F3;have J0:=hid K3;clear T3;have I9:=hid S3;have z3:=K3.A8.size;simp at z3;clear F3 K3 S3))
 go_ret
 exact ⟨rfl,Bp.out.setOther AY _,((((W1.out.setCell (Nat.zero_le _) (.inl rfl) _).setCell (Nat.zero_le _) (.inl rfl) _).trans J0.out (fun k _ hk=>.inl hk)).setCell (Nat.zero_le _) (.inr rfl) _),fun h=>absurd h (by simp)⟩
theorem qX (F:Ay w base P R l (AQ P gl cl L.length s) L gl vn vk vz vb) (hl:l.length≤1000) (hL:L.length≤1000) (hS:w.rowIs sb 139 3 (DG gw 2 cw (.slice none 0 0) (.slice none 0 0))) (q0 q1:ByteArray) (c0:w.cell? ⟨gw,0,none⟩=some (.string q0)) (c1:w.cell? ⟨gw,1,none⟩=some (.string q1)) (hd:d<4) (AY: ¬IM P R gl vn vk vz sb) (hgR:gw≠R) (hgs:gw≠sb) (ha:Rf.atom (A7 l) q1.toList=true) (hds:s.ds=A7 l) (Ai:s.AA=true) (Ej:L.length≤s.at_+1+(f+1)) (hat:s.at_+1<L.length) (hcn:s.cnt<12) (IH:Kz L gl cl (d+1)) (s2:Rf.Rs) (BQ:(Rf.Ab (L.map ByteArray.toList) f (d+1) { s with cnt:=s.cnt+1,at_:=s.at_+1 })=(true,s2)) (hl2:s2.at_<L.length) (q:ByteArray) (hq:L.getD s2.at_ ByteArray.empty=q) (he:(q.toList==[101,108,115,101])=false):
  Calls Tryz.prog 61 #[.pointer (some ⟨R,0,none⟩),.pointer (some ⟨sb,0,none⟩),.int .i64 d] w fun e w'=>Ku w w' base P R gl cl l L vn vk vz vb sb gw 2 cw (Rf.MC (L.map ByteArray.toList) f d s) (Rf.Jp (L.map ByteArray.toList) f d s) e (true,{ s2 with at_:=s2.at_+1 }):=by
 have hsl:=hS.lt
 have Cs:=F.row.lt
 have hsR:sb≠R:=fun e=>AY (.inl e)
 have s0:=hS.cell (i:=0) (by omega)
 rw[show DG gw 2 cw (.slice none 0 0) (.slice none 0 0) 0=.slice (some ⟨gw,0,none⟩) 2 cw from rfl] at s0
 have r0:=F.row.cell (i:=0) (by omega)
 rw[show AQ P gl cl L.length s 0=.pointer (some ⟨P,0,none⟩) from rfl] at r0
 have Eu:(d:Int)<4:=by omega
 have RT:((d:Int)==4)=false:=by simp;omega
 have HS:=hid hS
 have HF:=hid F
 have Jc:=hid c0
 clear hS F
 have HI:=hid (IH f)
 have Cx:=hid BQ
 have HOT:=hid (Rf.pE BQ (show ¬_=Rf.wElse by rw[QL,hq];exact ne_of_beq_false he))
 have ML:(s.at_:Int)+1<1000:=by omega
 have TI:(s.cnt:Int)<12:=by omega
 have HD:=hid hds
 have GC:=hid Ai
 clear IH BQ hds Ai
 have HQ:=hid hq
 clear hq
 have Xb:(s2.at_:Int)<(L.length:Int):=by omega
 have Xc:(s2.at_:Int)+1≤1000:=by omega
 have Xd:(0:Int)≤(s2.at_:Int):=by omega
 go_enter Tryz.func61,Tryz.ntmps61
 go_wp2_with fail
 go_region_held3 (fun w'=>w'.cell? ⟨R,0,none⟩=some (.pointer (some ⟨P,0,none⟩))∧w'.cell? ⟨sb,0,none⟩=some (.slice (some ⟨gw,0,none⟩) 2 cw)∧w'.cell? ⟨gw,1,none⟩=some (.string q1))
  (first
    |go_keep
    |(go_split_ands
      exact ⟨cell_later hb1 (by assumption),cell_later hb1 (by assumption),cell_later hb1 (by assumption)⟩))
  ((go_at_call 97;refine (HF.out.drew.prog.IJ q1 hl).mono ?_;rintro e w1 ⟨rfl,hb1⟩))
 have hb2:Below w.heap.size w w1:=⟨hb1.os,hb1.tape,hb1.output,hb1.size,hb1.block⟩
 have F1:=hid (HF.out.below hb2)
 have S1:=hid (HS.out.of_block (hb2.block sb hsl))
 have W1:Hid (A9 0 (fun k=>k=R∨k=sb) w w1):=A9.Ap hb2 (Nat.zero_le _)
 have g0:=cell_later hb2 Jc.out
 have z1:=hb2.size
 clear hb1 hb2 s0 r0
 have r2:=F1.out.row.cell (i:=2) (by omega)
 have r3:=F1.out.row.cell (i:=3) (by omega)
 have f2:=F1.out.row.frozen 2
 have f3:=F1.out.row.frozen 3
 rw[show AQ P gl cl L.length s 2=.int .i64 s.at_ from rfl] at r2
 rw[show AQ P gl cl L.length s 3=.int .i64 s.cnt from rfl] at r3
 go_wp2_with (first|(go_at_call 32;refine (HI.out _ base P R l { s with cnt:=s.cnt+1,at_:=s.at_+1 } vn vk vz vb (((F1.out.put 3 _).put 2 _).congr (fun i hi=>QV P gl cl L.length s i hi)) HD.out GC.out (by show L.length≤s.at_+1+1+f;omega) (by exact hat) (by show s.cnt+1≤12;omega) hl hL).mono ?_;rintro e w3 ⟨ad,n,c,rfl,F3,K3,T3⟩;rw[Cx.out] at F3;rw[Cx.out];have S3:=((S1.out.setOther hsR _).setOther hsR _).of_block (K3.keep sb (by simp;omega) hsR);have G3:=K3.cell (p:=⟨gw,0,none⟩) (GR (GR g0 hgR _) hgR _) hgR;have Ue:=S3.cell (i:=1) (by omega);have Uf:=S3.frozen 1;have Bp:=hid F3;have J0:=hid K3;have UN:=hid (T3 (by rw[Cx.out]));clear T3;have I9:=hid S3;have z3:=K3.A8.size;simp at z3;clear F3 K3 S3))
 have t1:=(Bp.out.setOther (b:=sb) (i:=1) AY (.slice ad n c)).row.cell (i:=1) (by omega)
 have t2:=(Bp.out.setOther (b:=sb) (i:=1) AY (.slice ad n c)).row.cell (i:=2) (by omega)
 have JA:=(Bp.out.setOther (b:=sb) (i:=1) AY (.slice ad n c)).row.frozen 2
 have tl:=(Bp.out.setOther (b:=sb) (i:=1) AY (.slice ad n c)).Gx s2.at_ hl2
 have tw:=(I9.out.set 1 (.slice ad n c)).cell (i:=0) (by omega)
 have tg:=GR (i:=1) G3 hgs (.slice ad n c)
 rw[show AQ P gl cl L.length s2 1=.slice (some ⟨gl,0,none⟩) L.length cl from rfl] at t1
 rw[show AQ P gl cl L.length s2 2=.int .i64 s2.at_ from rfl] at t2
 rw[HQ.out] at tl
 simp only[show ¬(0=1) by omega,if_false,show DG gw 2 cw (.slice none 0 0) (.slice none 0 0) 0=.slice (some ⟨gw,0,none⟩) 2 cw from rfl] at tw
 have F4:=hid (Bp.out.setOther (b:=sb) (i:=1) AY (.slice ad n c))
 have S4:=hid (I9.out.set 1 (.slice ad n c))
 have K4:Hid (A9 0 (fun k=>k=R∨k=sb) w (w3.setCell ⟨sb,1,none⟩ (.slice ad n c))):=((((W1.out.setCell (Nat.zero_le _) (.inl rfl) _).setCell (Nat.zero_le _) (.inl rfl) _).trans J0.out (fun k _ hk=>.inl hk)).setCell (Nat.zero_le _) (.inr rfl) _)
 have T4:Hid (Sub (w3.setCell ⟨sb,1,none⟩ (.slice ad n c)) (DV w (w3.setCell ⟨sb,1,none⟩ (.slice ad n c))) (.slice ad n c) (Rf.MC (L.map ByteArray.toList) f d s)):=(UN.out.low (by simp;omega)).set hsl _
 have z4:(w3.setCell ⟨sb,1,none⟩ (.slice ad n c)).heap.size=w3.heap.size:=by simp
 generalize w3.setCell ⟨sb,1,none⟩ (.slice ad n c)=w4 at t1 t2 JA tl tw tg F4 S4 K4 z4 T4 ⊢
 go_quiet (fail)
 go_wp2_with fail
 go_ret
 exact ⟨rfl,((F4.out.drewN _).put 2 _).congr (fun i hi=>OY P gl cl L.length s2 i hi),(K4.out.drewN _).setCell (Nat.zero_le _) (.inl rfl) _,fun _=>⟨_,_,((S4.out.congr (fun i hi=>qV gw 2 cw (.slice ad n c) i hi)).of_block (w':=w4.drewN _) rfl).setOther hsR _,(T4.out.drewN _).set Cs _,by rw[HOT.out];exact Sub.nil⟩⟩
theorem tI (F:Ay w base P R l (AQ P gl cl L.length s) L gl vn vk vz vb) (hl:l.length≤1000) (hL:L.length≤1000) (hS:w.rowIs sb 139 3 (DG gw 2 cw (.slice none 0 0) (.slice none 0 0))) (q0 q1:ByteArray) (c0:w.cell? ⟨gw,0,none⟩=some (.string q0)) (c1:w.cell? ⟨gw,1,none⟩=some (.string q1)) (hd:d<4) (AY: ¬IM P R gl vn vk vz sb) (hgR:gw≠R) (hgs:gw≠sb) (ha:Rf.atom (A7 l) q1.toList=true) (hds:s.ds=A7 l) (Ai:s.AA=true) (Ej:L.length≤s.at_+1+(f+1)) (hat:s.at_+1<L.length) (hcn:s.cnt<12) (IH:Kz L gl cl (d+1)) (s2:Rf.Rs) (BQ:(Rf.Ab (L.map ByteArray.toList) f (d+1) { s with cnt:=s.cnt+1,at_:=s.at_+1 })=(true,s2)) (hl2:s2.at_<L.length) (q:ByteArray) (hq:L.getD s2.at_ ByteArray.empty=q) (he:(q.toList==[101,108,115,101])=true) (hi:(q0.toList==[105,102])=false):
  Calls Tryz.prog 61 #[.pointer (some ⟨R,0,none⟩),.pointer (some ⟨sb,0,none⟩),.int .i64 d] w fun e w'=>Ku w w' base P R gl cl l L vn vk vz vb sb gw 2 cw TB TO e (false,s2):=by
 have hsl:=hS.lt
 have Cs:=F.row.lt
 have hsR:sb≠R:=fun e=>AY (.inl e)
 have s0:=hS.cell (i:=0) (by omega)
 rw[show DG gw 2 cw (.slice none 0 0) (.slice none 0 0) 0=.slice (some ⟨gw,0,none⟩) 2 cw from rfl] at s0
 have r0:=F.row.cell (i:=0) (by omega)
 rw[show AQ P gl cl L.length s 0=.pointer (some ⟨P,0,none⟩) from rfl] at r0
 have Eu:(d:Int)<4:=by omega
 have RT:((d:Int)==4)=false:=by simp;omega
 have HS:=hid hS
 have HF:=hid F
 have Jc:=hid c0
 clear hS F
 have HI:=hid (IH f)
 have Cx:=hid BQ
 have ML:(s.at_:Int)+1<1000:=by omega
 have TI:(s.cnt:Int)<12:=by omega
 have HD:=hid hds
 have GC:=hid Ai
 clear IH BQ hds Ai
 have HQ:=hid hq
 clear hq
 have Xb:(s2.at_:Int)<(L.length:Int):=by omega
 have Xc:(s2.at_:Int)+1≤1000:=by omega
 have Xd:(0:Int)≤(s2.at_:Int):=by omega
 go_enter Tryz.func61,Tryz.ntmps61
 go_wp2_with fail
 go_region_held3 (fun w'=>w'.cell? ⟨R,0,none⟩=some (.pointer (some ⟨P,0,none⟩))∧w'.cell? ⟨sb,0,none⟩=some (.slice (some ⟨gw,0,none⟩) 2 cw)∧w'.cell? ⟨gw,1,none⟩=some (.string q1))
  (first
    |go_keep
    |(go_split_ands
      exact ⟨cell_later hb1 (by assumption),cell_later hb1 (by assumption),cell_later hb1 (by assumption)⟩))
  ((go_at_call 97;refine (HF.out.drew.prog.IJ q1 hl).mono ?_;rintro e w1 ⟨rfl,hb1⟩))
 have hb2:Below w.heap.size w w1:=⟨hb1.os,hb1.tape,hb1.output,hb1.size,hb1.block⟩
 have F1:=hid (HF.out.below hb2)
 have S1:=hid (HS.out.of_block (hb2.block sb hsl))
 have W1:Hid (A9 0 (fun k=>k=R∨k=sb) w w1):=A9.Ap hb2 (Nat.zero_le _)
 have g0:=cell_later hb2 Jc.out
 have z1:=hb2.size
 clear hb1 hb2 s0 r0
 have r2:=F1.out.row.cell (i:=2) (by omega)
 have r3:=F1.out.row.cell (i:=3) (by omega)
 have f2:=F1.out.row.frozen 2
 have f3:=F1.out.row.frozen 3
 rw[show AQ P gl cl L.length s 2=.int .i64 s.at_ from rfl] at r2
 rw[show AQ P gl cl L.length s 3=.int .i64 s.cnt from rfl] at r3
 go_wp2_with (first|(go_at_call 32;refine (HI.out _ base P R l { s with cnt:=s.cnt+1,at_:=s.at_+1 } vn vk vz vb (((F1.out.put 3 _).put 2 _).congr (fun i hi=>QV P gl cl L.length s i hi)) HD.out GC.out (by show L.length≤s.at_+1+1+f;omega) (by exact hat) (by show s.cnt+1≤12;omega) hl hL).mono ?_;rintro e w3 ⟨ad,n,c,rfl,F3,K3,T3⟩;rw[Cx.out] at F3;rw[Cx.out];have S3:=((S1.out.setOther hsR _).setOther hsR _).of_block (K3.keep sb (by simp;omega) hsR);have G3:=K3.cell (p:=⟨gw,0,none⟩) (GR (GR g0 hgR _) hgR _) hgR;have Ue:=S3.cell (i:=1) (by omega);have Uf:=S3.frozen 1;have Bp:=hid F3;have J0:=hid K3;clear T3;have I9:=hid S3;have z3:=K3.A8.size;simp at z3;clear F3 K3 S3))
 have t1:=(Bp.out.setOther (b:=sb) (i:=1) AY (.slice ad n c)).row.cell (i:=1) (by omega)
 have t2:=(Bp.out.setOther (b:=sb) (i:=1) AY (.slice ad n c)).row.cell (i:=2) (by omega)
 have JA:=(Bp.out.setOther (b:=sb) (i:=1) AY (.slice ad n c)).row.frozen 2
 have tl:=(Bp.out.setOther (b:=sb) (i:=1) AY (.slice ad n c)).Gx s2.at_ hl2
 have tw:=(I9.out.set 1 (.slice ad n c)).cell (i:=0) (by omega)
 have tg:=GR (i:=1) G3 hgs (.slice ad n c)
 rw[show AQ P gl cl L.length s2 1=.slice (some ⟨gl,0,none⟩) L.length cl from rfl] at t1
 rw[show AQ P gl cl L.length s2 2=.int .i64 s2.at_ from rfl] at t2
 rw[HQ.out] at tl
 simp only[show ¬(0=1) by omega,if_false,show DG gw 2 cw (.slice none 0 0) (.slice none 0 0) 0=.slice (some ⟨gw,0,none⟩) 2 cw from rfl] at tw
 have F4:=hid (Bp.out.setOther (b:=sb) (i:=1) AY (.slice ad n c))
 have S4:=hid (I9.out.set 1 (.slice ad n c))
 have K4:Hid (A9 0 (fun k=>k=R∨k=sb) w (w3.setCell ⟨sb,1,none⟩ (.slice ad n c))):=((((W1.out.setCell (Nat.zero_le _) (.inl rfl) _).setCell (Nat.zero_le _) (.inl rfl) _).trans J0.out (fun k _ hk=>.inl hk)).setCell (Nat.zero_le _) (.inr rfl) _)
 have z4:(w3.setCell ⟨sb,1,none⟩ (.slice ad n c)).heap.size=w3.heap.size:=by simp
 generalize w3.setCell ⟨sb,1,none⟩ (.slice ad n c)=w4 at t1 t2 JA tl tw tg F4 S4 K4 z4 ⊢
 go_quiet (fail)
 go_wp2_with fail
 go_ret
 exact ⟨rfl,F4.out.drewN _,K4.out.drewN _,fun h=>absurd h (by simp)⟩
theorem xQ (F:Ay w base P R l (AQ P gl cl L.length s) L gl vn vk vz vb) (hl:l.length≤1000) (hL:L.length≤1000) (hS:w.rowIs sb 139 3 (DG gw 2 cw (.slice none 0 0) (.slice none 0 0))) (q0 q1:ByteArray) (c0:w.cell? ⟨gw,0,none⟩=some (.string q0)) (c1:w.cell? ⟨gw,1,none⟩=some (.string q1)) (hd:d<4) (AY: ¬IM P R gl vn vk vz sb) (hgR:gw≠R) (hgs:gw≠sb) (ha:Rf.atom (A7 l) q1.toList=true) (hds:s.ds=A7 l) (Ai:s.AA=true) (Ej:L.length≤s.at_+1+(f+1)) (hat:s.at_+1<L.length) (hcn:s.cnt<12) (IH:Kz L gl cl (d+1)) (s2:Rf.Rs) (BQ:(Rf.Ab (L.map ByteArray.toList) f (d+1) { s with cnt:=s.cnt+1,at_:=s.at_+1 })=(true,s2)) (hl2:s2.at_<L.length) (q:ByteArray) (hq:L.getD s2.at_ ByteArray.empty=q) (he:(q.toList==[101,108,115,101])=true) (hi:(q0.toList==[105,102])=true) (hm2:s2.at_+1<L.length) (hg2:s.at_+1≤s2.at_) (hc2:s2.cnt≤12) (NL:s2.AA=true) (hd2:s2.ds=A7 l) (s3:Rf.Rs) (Ex:(Rf.Ab (L.map ByteArray.toList) f (d+1) { s2 with at_:=s2.at_+1 })=(false,s3)):
  Calls Tryz.prog 61 #[.pointer (some ⟨R,0,none⟩),.pointer (some ⟨sb,0,none⟩),.int .i64 d] w fun e w'=>Ku w w' base P R gl cl l L vn vk vz vb sb gw 2 cw TB TO e (false,s3):=by
 have hsl:=hS.lt
 have Cs:=F.row.lt
 have hsR:sb≠R:=fun e=>AY (.inl e)
 have s0:=hS.cell (i:=0) (by omega)
 rw[show DG gw 2 cw (.slice none 0 0) (.slice none 0 0) 0=.slice (some ⟨gw,0,none⟩) 2 cw from rfl] at s0
 have r0:=F.row.cell (i:=0) (by omega)
 rw[show AQ P gl cl L.length s 0=.pointer (some ⟨P,0,none⟩) from rfl] at r0
 have Eu:(d:Int)<4:=by omega
 have RT:((d:Int)==4)=false:=by simp;omega
 have HS:=hid hS
 have HF:=hid F
 have Jc:=hid c0
 clear hS F
 have HI:=hid (IH f)
 have Cx:=hid BQ
 have ML:(s.at_:Int)+1<1000:=by omega
 have TI:(s.cnt:Int)<12:=by omega
 have HD:=hid hds
 have GC:=hid Ai
 clear IH BQ hds Ai
 have HQ:=hid hq
 clear hq
 have Xb:(s2.at_:Int)<(L.length:Int):=by omega
 have Xc:(s2.at_:Int)+1≤1000:=by omega
 have Xd:(0:Int)≤(s2.at_:Int):=by omega
 have BR:=hid Ex
 have TJ:=hid NL
 have Pp:=hid hd2
 clear Ex NL hd2
 go_enter Tryz.func61,Tryz.ntmps61
 go_wp2_with fail
 go_region_held3 (fun w'=>w'.cell? ⟨R,0,none⟩=some (.pointer (some ⟨P,0,none⟩))∧w'.cell? ⟨sb,0,none⟩=some (.slice (some ⟨gw,0,none⟩) 2 cw)∧w'.cell? ⟨gw,1,none⟩=some (.string q1))
  (first
    |go_keep
    |(go_split_ands
      exact ⟨cell_later hb1 (by assumption),cell_later hb1 (by assumption),cell_later hb1 (by assumption)⟩))
  ((go_at_call 97;refine (HF.out.drew.prog.IJ q1 hl).mono ?_;rintro e w1 ⟨rfl,hb1⟩))
 have hb2:Below w.heap.size w w1:=⟨hb1.os,hb1.tape,hb1.output,hb1.size,hb1.block⟩
 have F1:=hid (HF.out.below hb2)
 have S1:=hid (HS.out.of_block (hb2.block sb hsl))
 have W1:Hid (A9 0 (fun k=>k=R∨k=sb) w w1):=A9.Ap hb2 (Nat.zero_le _)
 have g0:=cell_later hb2 Jc.out
 have z1:=hb2.size
 clear hb1 hb2 s0 r0
 have r2:=F1.out.row.cell (i:=2) (by omega)
 have r3:=F1.out.row.cell (i:=3) (by omega)
 have f2:=F1.out.row.frozen 2
 have f3:=F1.out.row.frozen 3
 rw[show AQ P gl cl L.length s 2=.int .i64 s.at_ from rfl] at r2
 rw[show AQ P gl cl L.length s 3=.int .i64 s.cnt from rfl] at r3
 go_wp2_with (first|(go_at_call 32;refine (HI.out _ base P R l { s with cnt:=s.cnt+1,at_:=s.at_+1 } vn vk vz vb (((F1.out.put 3 _).put 2 _).congr (fun i hi=>QV P gl cl L.length s i hi)) HD.out GC.out (by show L.length≤s.at_+1+1+f;omega) (by exact hat) (by show s.cnt+1≤12;omega) hl hL).mono ?_;rintro e w3 ⟨ad,n,c,rfl,F3,K3,T3⟩;rw[Cx.out] at F3;rw[Cx.out];have S3:=((S1.out.setOther hsR _).setOther hsR _).of_block (K3.keep sb (by simp;omega) hsR);have G3:=K3.cell (p:=⟨gw,0,none⟩) (GR (GR g0 hgR _) hgR _) hgR;have Ue:=S3.cell (i:=1) (by omega);have Uf:=S3.frozen 1;have Bp:=hid F3;have J0:=hid K3;clear T3;have I9:=hid S3;have z3:=K3.A8.size;simp at z3;clear F3 K3 S3))
 have t1:=(Bp.out.setOther (b:=sb) (i:=1) AY (.slice ad n c)).row.cell (i:=1) (by omega)
 have t2:=(Bp.out.setOther (b:=sb) (i:=1) AY (.slice ad n c)).row.cell (i:=2) (by omega)
 have JA:=(Bp.out.setOther (b:=sb) (i:=1) AY (.slice ad n c)).row.frozen 2
 have tl:=(Bp.out.setOther (b:=sb) (i:=1) AY (.slice ad n c)).Gx s2.at_ hl2
 have tw:=(I9.out.set 1 (.slice ad n c)).cell (i:=0) (by omega)
 have tg:=GR (i:=1) G3 hgs (.slice ad n c)
 rw[show AQ P gl cl L.length s2 1=.slice (some ⟨gl,0,none⟩) L.length cl from rfl] at t1
 rw[show AQ P gl cl L.length s2 2=.int .i64 s2.at_ from rfl] at t2
 rw[HQ.out] at tl
 simp only[show ¬(0=1) by omega,if_false,show DG gw 2 cw (.slice none 0 0) (.slice none 0 0) 0=.slice (some ⟨gw,0,none⟩) 2 cw from rfl] at tw
 have F4:=hid (Bp.out.setOther (b:=sb) (i:=1) AY (.slice ad n c))
 have S4:=hid (I9.out.set 1 (.slice ad n c))
 have K4:Hid (A9 0 (fun k=>k=R∨k=sb) w (w3.setCell ⟨sb,1,none⟩ (.slice ad n c))):=((((W1.out.setCell (Nat.zero_le _) (.inl rfl) _).setCell (Nat.zero_le _) (.inl rfl) _).trans J0.out (fun k _ hk=>.inl hk)).setCell (Nat.zero_le _) (.inr rfl) _)
 have z4:(w3.setCell ⟨sb,1,none⟩ (.slice ad n c)).heap.size=w3.heap.size:=by simp
 generalize w3.setCell ⟨sb,1,none⟩ (.slice ad n c)=w4 at t1 t2 JA tl tw tg F4 S4 K4 z4 ⊢
 go_quiet (fail)
 go_wp2_with (first|(go_at_call 32;refine (HI.out _ base P R l { s2 with at_:=s2.at_+1 } vn vk vz vb (((F4.out.drewN _).put 2 _).congr (fun i hi=>OY P gl cl L.length s2 i hi)) Pp.out TJ.out (by show L.length≤s2.at_+1+1+f;omega) (by exact hm2) (by exact hc2) hl hL).mono ?_;rintro e w5 ⟨Eb,n2,c2,rfl,F5,K5,T5⟩;rw[BR.out] at F5;rw[BR.out];have S5:=((S4.out.of_block (w':=w4.drewN nq) rfl).setOther hsR _).of_block (K5.keep sb (by simp;omega) hsR);have b2c:=S5.cell (i:=2) (by omega);have b2f:=S5.frozen 2;have JB:=hid F5;have NW:=hid K5;clear T5;clear F5 K5 S5))
 go_quiet (fail)
 go_wp2_with fail
 go_ret
 exact ⟨rfl,(JB.out.setOther AY _).drewN _,((((K4.out.drewN _).setCell (Nat.zero_le _) (.inl rfl) _).trans NW.out (fun k _ hk=>.inl hk)).setCell (Nat.zero_le _) (.inr rfl) _).drewN _,fun h=>absurd h (by simp)⟩
theorem qY (F:Ay w base P R l (AQ P gl cl L.length s) L gl vn vk vz vb) (hl:l.length≤1000) (hL:L.length≤1000) (hS:w.rowIs sb 139 3 (DG gw 2 cw (.slice none 0 0) (.slice none 0 0))) (q0 q1:ByteArray) (c0:w.cell? ⟨gw,0,none⟩=some (.string q0)) (c1:w.cell? ⟨gw,1,none⟩=some (.string q1)) (hd:d<4) (AY: ¬IM P R gl vn vk vz sb) (hgR:gw≠R) (hgs:gw≠sb) (ha:Rf.atom (A7 l) q1.toList=true) (hds:s.ds=A7 l) (Ai:s.AA=true) (Ej:L.length≤s.at_+1+(f+1)) (hat:s.at_+1<L.length) (hcn:s.cnt<12) (IH:Kz L gl cl (d+1)) (s2:Rf.Rs) (BQ:(Rf.Ab (L.map ByteArray.toList) f (d+1) { s with cnt:=s.cnt+1,at_:=s.at_+1 })=(true,s2)) (hl2:s2.at_<L.length) (q:ByteArray) (hq:L.getD s2.at_ ByteArray.empty=q) (he:(q.toList==[101,108,115,101])=true) (hi:(q0.toList==[105,102])=true) (hm2:s2.at_+1<L.length) (hg2:s.at_+1≤s2.at_) (hc2:s2.cnt≤12) (NL:s2.AA=true) (hd2:s2.ds=A7 l) (s3:Rf.Rs) (Ex:(Rf.Ab (L.map ByteArray.toList) f (d+1) { s2 with at_:=s2.at_+1 })=(true,s3)) (Kb:s3.at_<L.length) (q3:ByteArray) (Hx:L.getD s3.at_ ByteArray.empty=q3) (KJ:(q3.toList==[101,108,115,101])=true):
  Calls Tryz.prog 61 #[.pointer (some ⟨R,0,none⟩),.pointer (some ⟨sb,0,none⟩),.int .i64 d] w fun e w'=>Ku w w' base P R gl cl l L vn vk vz vb sb gw 2 cw TB TO e (false,s3):=by
 have hsl:=hS.lt
 have Cs:=F.row.lt
 have hsR:sb≠R:=fun e=>AY (.inl e)
 have s0:=hS.cell (i:=0) (by omega)
 rw[show DG gw 2 cw (.slice none 0 0) (.slice none 0 0) 0=.slice (some ⟨gw,0,none⟩) 2 cw from rfl] at s0
 have r0:=F.row.cell (i:=0) (by omega)
 rw[show AQ P gl cl L.length s 0=.pointer (some ⟨P,0,none⟩) from rfl] at r0
 have Eu:(d:Int)<4:=by omega
 have RT:((d:Int)==4)=false:=by simp;omega
 have HS:=hid hS
 have HF:=hid F
 have Jc:=hid c0
 clear hS F
 have HI:=hid (IH f)
 have Cx:=hid BQ
 have ML:(s.at_:Int)+1<1000:=by omega
 have TI:(s.cnt:Int)<12:=by omega
 have HD:=hid hds
 have GC:=hid Ai
 clear IH BQ hds Ai
 have HQ:=hid hq
 clear hq
 have Xb:(s2.at_:Int)<(L.length:Int):=by omega
 have Xc:(s2.at_:Int)+1≤1000:=by omega
 have Xd:(0:Int)≤(s2.at_:Int):=by omega
 have BR:=hid Ex
 have HQ3:=hid Hx
 have h3I:(s3.at_:Int)<(L.length:Int):=by omega
 have h3J:(s3.at_:Int)+1≤1000:=by omega
 have h3K:(0:Int)≤(s3.at_:Int):=by omega
 clear Hx
 have TJ:=hid NL
 have Pp:=hid hd2
 clear Ex NL hd2
 go_enter Tryz.func61,Tryz.ntmps61
 go_wp2_with fail
 go_region_held3 (fun w'=>w'.cell? ⟨R,0,none⟩=some (.pointer (some ⟨P,0,none⟩))∧w'.cell? ⟨sb,0,none⟩=some (.slice (some ⟨gw,0,none⟩) 2 cw)∧w'.cell? ⟨gw,1,none⟩=some (.string q1))
  (first
    |go_keep
    |(go_split_ands
      exact ⟨cell_later hb1 (by assumption),cell_later hb1 (by assumption),cell_later hb1 (by assumption)⟩))
  ((go_at_call 97;refine (HF.out.drew.prog.IJ q1 hl).mono ?_;rintro e w1 ⟨rfl,hb1⟩))
 have hb2:Below w.heap.size w w1:=⟨hb1.os,hb1.tape,hb1.output,hb1.size,hb1.block⟩
 have F1:=hid (HF.out.below hb2)
 have S1:=hid (HS.out.of_block (hb2.block sb hsl))
 have W1:Hid (A9 0 (fun k=>k=R∨k=sb) w w1):=A9.Ap hb2 (Nat.zero_le _)
 have g0:=cell_later hb2 Jc.out
 have z1:=hb2.size
 clear hb1 hb2 s0 r0
 have r2:=F1.out.row.cell (i:=2) (by omega)
 have r3:=F1.out.row.cell (i:=3) (by omega)
 have f2:=F1.out.row.frozen 2
 have f3:=F1.out.row.frozen 3
 rw[show AQ P gl cl L.length s 2=.int .i64 s.at_ from rfl] at r2
 rw[show AQ P gl cl L.length s 3=.int .i64 s.cnt from rfl] at r3
 go_wp2_with (first|(go_at_call 32;refine (HI.out _ base P R l { s with cnt:=s.cnt+1,at_:=s.at_+1 } vn vk vz vb (((F1.out.put 3 _).put 2 _).congr (fun i hi=>QV P gl cl L.length s i hi)) HD.out GC.out (by show L.length≤s.at_+1+1+f;omega) (by exact hat) (by show s.cnt+1≤12;omega) hl hL).mono ?_;rintro e w3 ⟨ad,n,c,rfl,F3,K3,T3⟩;rw[Cx.out] at F3;rw[Cx.out];have S3:=((S1.out.setOther hsR _).setOther hsR _).of_block (K3.keep sb (by simp;omega) hsR);have G3:=K3.cell (p:=⟨gw,0,none⟩) (GR (GR g0 hgR _) hgR _) hgR;have Ue:=S3.cell (i:=1) (by omega);have Uf:=S3.frozen 1;have Bp:=hid F3;have J0:=hid K3;clear T3;have I9:=hid S3;have z3:=K3.A8.size;simp at z3;clear F3 K3 S3))
 have t1:=(Bp.out.setOther (b:=sb) (i:=1) AY (.slice ad n c)).row.cell (i:=1) (by omega)
 have t2:=(Bp.out.setOther (b:=sb) (i:=1) AY (.slice ad n c)).row.cell (i:=2) (by omega)
 have JA:=(Bp.out.setOther (b:=sb) (i:=1) AY (.slice ad n c)).row.frozen 2
 have tl:=(Bp.out.setOther (b:=sb) (i:=1) AY (.slice ad n c)).Gx s2.at_ hl2
 have tw:=(I9.out.set 1 (.slice ad n c)).cell (i:=0) (by omega)
 have tg:=GR (i:=1) G3 hgs (.slice ad n c)
 rw[show AQ P gl cl L.length s2 1=.slice (some ⟨gl,0,none⟩) L.length cl from rfl] at t1
 rw[show AQ P gl cl L.length s2 2=.int .i64 s2.at_ from rfl] at t2
 rw[HQ.out] at tl
 simp only[show ¬(0=1) by omega,if_false,show DG gw 2 cw (.slice none 0 0) (.slice none 0 0) 0=.slice (some ⟨gw,0,none⟩) 2 cw from rfl] at tw
 have F4:=hid (Bp.out.setOther (b:=sb) (i:=1) AY (.slice ad n c))
 have S4:=hid (I9.out.set 1 (.slice ad n c))
 have K4:Hid (A9 0 (fun k=>k=R∨k=sb) w (w3.setCell ⟨sb,1,none⟩ (.slice ad n c))):=((((W1.out.setCell (Nat.zero_le _) (.inl rfl) _).setCell (Nat.zero_le _) (.inl rfl) _).trans J0.out (fun k _ hk=>.inl hk)).setCell (Nat.zero_le _) (.inr rfl) _)
 have z4:(w3.setCell ⟨sb,1,none⟩ (.slice ad n c)).heap.size=w3.heap.size:=by simp
 generalize w3.setCell ⟨sb,1,none⟩ (.slice ad n c)=w4 at t1 t2 JA tl tw tg F4 S4 K4 z4 ⊢
 go_quiet (fail)
 go_wp2_with (first|(go_at_call 32;refine (HI.out _ base P R l { s2 with at_:=s2.at_+1 } vn vk vz vb (((F4.out.drewN _).put 2 _).congr (fun i hi=>OY P gl cl L.length s2 i hi)) Pp.out TJ.out (by show L.length≤s2.at_+1+1+f;omega) (by exact hm2) (by exact hc2) hl hL).mono ?_;rintro e w5 ⟨Eb,n2,c2,rfl,F5,K5,T5⟩;rw[BR.out] at F5;rw[BR.out];have S5:=((S4.out.of_block (w':=w4.drewN nq) rfl).setOther hsR _).of_block (K5.keep sb (by simp;omega) hsR);have b2c:=S5.cell (i:=2) (by omega);have b2f:=S5.frozen 2;have JB:=hid F5;have NW:=hid K5;clear T5;clear F5 K5 S5))
 have t1:=(JB.out.setOther (b:=sb) (i:=2) AY (.slice Eb n2 c2)).row.cell (i:=1) (by omega)
 have t2:=(JB.out.setOther (b:=sb) (i:=2) AY (.slice Eb n2 c2)).row.cell (i:=2) (by omega)
 have JA:=(JB.out.setOther (b:=sb) (i:=2) AY (.slice Eb n2 c2)).row.frozen 2
 have tl:=(JB.out.setOther (b:=sb) (i:=2) AY (.slice Eb n2 c2)).Gx s3.at_ Kb
 rw[show AQ P gl cl L.length s3 1=.slice (some ⟨gl,0,none⟩) L.length cl from rfl] at t1
 rw[show AQ P gl cl L.length s3 2=.int .i64 s3.at_ from rfl] at t2
 rw[HQ3.out] at tl
 have F6:=hid (JB.out.setOther (b:=sb) (i:=2) AY (.slice Eb n2 c2))
 have K6:Hid (A9 0 (fun k=>k=R∨k=sb) w (w5.setCell ⟨sb,2,none⟩ (.slice Eb n2 c2))):=((((K4.out.drewN _).setCell (Nat.zero_le _) (.inl rfl) _).trans NW.out (fun k _ hk=>.inl hk)).setCell (Nat.zero_le _) (.inr rfl) _)
 generalize w5.setCell ⟨sb,2,none⟩ (.slice Eb n2 c2)=w6 at t1 t2 JA tl F6 K6 ⊢
 go_quiet (fail)
 go_wp2_with fail
 go_ret
 exact ⟨rfl,F6.out.drewN _,K6.out.drewN _,fun h=>absurd h (by simp)⟩
theorem tJ (F:Ay w base P R l (AQ P gl cl L.length s) L gl vn vk vz vb) (hl:l.length≤1000) (hL:L.length≤1000) (hS:w.rowIs sb 139 3 (DG gw 2 cw (.slice none 0 0) (.slice none 0 0))) (q0 q1:ByteArray) (c0:w.cell? ⟨gw,0,none⟩=some (.string q0)) (c1:w.cell? ⟨gw,1,none⟩=some (.string q1)) (hd:d<4) (AY: ¬IM P R gl vn vk vz sb) (hgR:gw≠R) (hgs:gw≠sb) (ha:Rf.atom (A7 l) q1.toList=true) (hds:s.ds=A7 l) (Ai:s.AA=true) (Ej:L.length≤s.at_+1+(f+1)) (hat:s.at_+1<L.length) (hcn:s.cnt<12) (IH:Kz L gl cl (d+1)) (s2:Rf.Rs) (BQ:(Rf.Ab (L.map ByteArray.toList) f (d+1) { s with cnt:=s.cnt+1,at_:=s.at_+1 })=(true,s2)) (hl2:s2.at_<L.length) (q:ByteArray) (hq:L.getD s2.at_ ByteArray.empty=q) (he:(q.toList==[101,108,115,101])=true) (hi:(q0.toList==[105,102])=true) (hm2:s2.at_+1<L.length) (hg2:s.at_+1≤s2.at_) (hc2:s2.cnt≤12) (NL:s2.AA=true) (hd2:s2.ds=A7 l) (s3:Rf.Rs) (Ex:(Rf.Ab (L.map ByteArray.toList) f (d+1) { s2 with at_:=s2.at_+1 })=(true,s3)) (Kb:s3.at_<L.length) (q3:ByteArray) (Hx:L.getD s3.at_ ByteArray.empty=q3) (KJ:(q3.toList==[101,108,115,101])=false):
  Calls Tryz.prog 61 #[.pointer (some ⟨R,0,none⟩),.pointer (some ⟨sb,0,none⟩),.int .i64 d] w fun e w'=>Ku w w' base P R gl cl l L vn vk vz vb sb gw 2 cw (Rf.MC (L.map ByteArray.toList) f d s) (Rf.Jp (L.map ByteArray.toList) f d s) e (true,{ s3 with at_:=s3.at_+1 }):=by
 have hsl:=hS.lt
 have Cs:=F.row.lt
 have hsR:sb≠R:=fun e=>AY (.inl e)
 have s0:=hS.cell (i:=0) (by omega)
 rw[show DG gw 2 cw (.slice none 0 0) (.slice none 0 0) 0=.slice (some ⟨gw,0,none⟩) 2 cw from rfl] at s0
 have r0:=F.row.cell (i:=0) (by omega)
 rw[show AQ P gl cl L.length s 0=.pointer (some ⟨P,0,none⟩) from rfl] at r0
 have Eu:(d:Int)<4:=by omega
 have RT:((d:Int)==4)=false:=by simp;omega
 have HS:=hid hS
 have HF:=hid F
 have Jc:=hid c0
 clear hS F
 have HI:=hid (IH f)
 have Cx:=hid BQ
 have ml:=BQ
 have ML:(s.at_:Int)+1<1000:=by omega
 have TI:(s.cnt:Int)<12:=by omega
 have HD:=hid hds
 have GC:=hid Ai
 clear IH BQ hds Ai
 have HQ:=hid hq
 clear hq
 have Xb:(s2.at_:Int)<(L.length:Int):=by omega
 have Xc:(s2.at_:Int)+1≤1000:=by omega
 have Xd:(0:Int)≤(s2.at_:Int):=by omega
 have BR:=hid Ex
 have HOT:=hid (Rf.pF ml (show _=Rf.wElse by rw[QL,HQ.out];exact eq_of_beq he))
 have HQ3:=hid Hx
 have h3I:(s3.at_:Int)<(L.length:Int):=by omega
 have h3J:(s3.at_:Int)+1≤1000:=by omega
 have h3K:(0:Int)≤(s3.at_:Int):=by omega
 clear Hx
 have TJ:=hid NL
 have Pp:=hid hd2
 clear Ex NL hd2 ml
 go_enter Tryz.func61,Tryz.ntmps61
 go_wp2_with fail
 go_region_held3 (fun w'=>w'.cell? ⟨R,0,none⟩=some (.pointer (some ⟨P,0,none⟩))∧w'.cell? ⟨sb,0,none⟩=some (.slice (some ⟨gw,0,none⟩) 2 cw)∧w'.cell? ⟨gw,1,none⟩=some (.string q1))
  (first
    |go_keep
    |(go_split_ands
      exact ⟨cell_later hb1 (by assumption),cell_later hb1 (by assumption),cell_later hb1 (by assumption)⟩))
  ((go_at_call 97;refine (HF.out.drew.prog.IJ q1 hl).mono ?_;rintro e w1 ⟨rfl,hb1⟩))
 have hb2:Below w.heap.size w w1:=⟨hb1.os,hb1.tape,hb1.output,hb1.size,hb1.block⟩
 have F1:=hid (HF.out.below hb2)
 have S1:=hid (HS.out.of_block (hb2.block sb hsl))
 have W1:Hid (A9 0 (fun k=>k=R∨k=sb) w w1):=A9.Ap hb2 (Nat.zero_le _)
 have g0:=cell_later hb2 Jc.out
 have z1:=hb2.size
 clear hb1 hb2 s0 r0
 have r2:=F1.out.row.cell (i:=2) (by omega)
 have r3:=F1.out.row.cell (i:=3) (by omega)
 have f2:=F1.out.row.frozen 2
 have f3:=F1.out.row.frozen 3
 rw[show AQ P gl cl L.length s 2=.int .i64 s.at_ from rfl] at r2
 rw[show AQ P gl cl L.length s 3=.int .i64 s.cnt from rfl] at r3
 go_wp2_with (first|(go_at_call 32;refine (HI.out _ base P R l { s with cnt:=s.cnt+1,at_:=s.at_+1 } vn vk vz vb (((F1.out.put 3 _).put 2 _).congr (fun i hi=>QV P gl cl L.length s i hi)) HD.out GC.out (by show L.length≤s.at_+1+1+f;omega) (by exact hat) (by show s.cnt+1≤12;omega) hl hL).mono ?_;rintro e w3 ⟨ad,n,c,rfl,F3,K3,T3⟩;rw[Cx.out] at F3;rw[Cx.out];have S3:=((S1.out.setOther hsR _).setOther hsR _).of_block (K3.keep sb (by simp;omega) hsR);have G3:=K3.cell (p:=⟨gw,0,none⟩) (GR (GR g0 hgR _) hgR _) hgR;have Ue:=S3.cell (i:=1) (by omega);have Uf:=S3.frozen 1;have Bp:=hid F3;have J0:=hid K3;have UN:=hid (T3 (by rw[Cx.out]));clear T3;have I9:=hid S3;have z3:=K3.A8.size;simp at z3;clear F3 K3 S3))
 have t1:=(Bp.out.setOther (b:=sb) (i:=1) AY (.slice ad n c)).row.cell (i:=1) (by omega)
 have t2:=(Bp.out.setOther (b:=sb) (i:=1) AY (.slice ad n c)).row.cell (i:=2) (by omega)
 have JA:=(Bp.out.setOther (b:=sb) (i:=1) AY (.slice ad n c)).row.frozen 2
 have tl:=(Bp.out.setOther (b:=sb) (i:=1) AY (.slice ad n c)).Gx s2.at_ hl2
 have tw:=(I9.out.set 1 (.slice ad n c)).cell (i:=0) (by omega)
 have tg:=GR (i:=1) G3 hgs (.slice ad n c)
 rw[show AQ P gl cl L.length s2 1=.slice (some ⟨gl,0,none⟩) L.length cl from rfl] at t1
 rw[show AQ P gl cl L.length s2 2=.int .i64 s2.at_ from rfl] at t2
 rw[HQ.out] at tl
 simp only[show ¬(0=1) by omega,if_false,show DG gw 2 cw (.slice none 0 0) (.slice none 0 0) 0=.slice (some ⟨gw,0,none⟩) 2 cw from rfl] at tw
 have F4:=hid (Bp.out.setOther (b:=sb) (i:=1) AY (.slice ad n c))
 have S4:=hid (I9.out.set 1 (.slice ad n c))
 have K4:Hid (A9 0 (fun k=>k=R∨k=sb) w (w3.setCell ⟨sb,1,none⟩ (.slice ad n c))):=((((W1.out.setCell (Nat.zero_le _) (.inl rfl) _).setCell (Nat.zero_le _) (.inl rfl) _).trans J0.out (fun k _ hk=>.inl hk)).setCell (Nat.zero_le _) (.inr rfl) _)
 have T4:Hid (Sub (w3.setCell ⟨sb,1,none⟩ (.slice ad n c)) (DV w (w3.setCell ⟨sb,1,none⟩ (.slice ad n c))) (.slice ad n c) (Rf.MC (L.map ByteArray.toList) f d s)):=(UN.out.low (by simp;omega)).set hsl _
 have z4:(w3.setCell ⟨sb,1,none⟩ (.slice ad n c)).heap.size=w3.heap.size:=by simp
 generalize w3.setCell ⟨sb,1,none⟩ (.slice ad n c)=w4 at t1 t2 JA tl tw tg F4 S4 K4 z4 T4 ⊢
 go_quiet (fail)
 go_wp2_with (first|(go_at_call 32;refine (HI.out _ base P R l { s2 with at_:=s2.at_+1 } vn vk vz vb (((F4.out.drewN _).put 2 _).congr (fun i hi=>OY P gl cl L.length s2 i hi)) Pp.out TJ.out (by show L.length≤s2.at_+1+1+f;omega) (by exact hm2) (by exact hc2) hl hL).mono ?_;rintro e w5 ⟨Eb,n2,c2,rfl,F5,K5,T5⟩;rw[BR.out] at F5;rw[BR.out];have S5:=((S4.out.of_block (w':=w4.drewN nq) rfl).setOther hsR _).of_block (K5.keep sb (by simp;omega) hsR);have b2c:=S5.cell (i:=2) (by omega);have b2f:=S5.frozen 2;have JB:=hid F5;have NW:=hid K5;have HT5:=hid (T5 (by rw[BR.out]));have JC:=hid S5;clear T5;clear F5 K5 S5))
 have t1:=(JB.out.setOther (b:=sb) (i:=2) AY (.slice Eb n2 c2)).row.cell (i:=1) (by omega)
 have t2:=(JB.out.setOther (b:=sb) (i:=2) AY (.slice Eb n2 c2)).row.cell (i:=2) (by omega)
 have JA:=(JB.out.setOther (b:=sb) (i:=2) AY (.slice Eb n2 c2)).row.frozen 2
 have tl:=(JB.out.setOther (b:=sb) (i:=2) AY (.slice Eb n2 c2)).Gx s3.at_ Kb
 rw[show AQ P gl cl L.length s3 1=.slice (some ⟨gl,0,none⟩) L.length cl from rfl] at t1
 rw[show AQ P gl cl L.length s3 2=.int .i64 s3.at_ from rfl] at t2
 rw[HQ3.out] at tl
 have F6:=hid (JB.out.setOther (b:=sb) (i:=2) AY (.slice Eb n2 c2))
 have K6:Hid (A9 0 (fun k=>k=R∨k=sb) w (w5.setCell ⟨sb,2,none⟩ (.slice Eb n2 c2))):=((((K4.out.drewN _).setCell (Nat.zero_le _) (.inl rfl) _).trans NW.out (fun k _ hk=>.inl hk)).setCell (Nat.zero_le _) (.inr rfl) _)
 have T6:Hid (Sub (w5.setCell ⟨sb,2,none⟩ (.slice Eb n2 c2)) (DV w (w5.setCell ⟨sb,2,none⟩ (.slice Eb n2 c2))) (.slice ad n c) (Rf.MC (L.map ByteArray.toList) f d s)):=(((T4.out.drewN _).set Cs _).frm NW.out Cs).set hsl _
 have U6:Hid (Sub (w5.setCell ⟨sb,2,none⟩ (.slice Eb n2 c2)) (DV w (w5.setCell ⟨sb,2,none⟩ (.slice Eb n2 c2))) (.slice Eb n2 c2) (Rf.Jp (L.map ByteArray.toList) f d s)):=by
  rw[HOT.out]
  exact (HT5.out.low (by simp;omega)).set hsl _
 have S6:=hid ((JC.out.set 2 (.slice Eb n2 c2)).congr (fun i hi=>qW gw 2 cw (.slice ad n c) (.slice Eb n2 c2) i hi))
 generalize w5.setCell ⟨sb,2,none⟩ (.slice Eb n2 c2)=w6 at t1 t2 JA tl F6 K6 T6 U6 S6 ⊢
 go_quiet (fail)
 go_wp2_with fail
 go_ret
 exact ⟨rfl,((F6.out.drewN _).put 2 _).congr (fun i hi=>OY P gl cl L.length s3 i hi),(K6.out.drewN _).setCell (Nat.zero_le _) (.inl rfl) _,fun _=>⟨_,_,(S6.out.of_block (w':=w6.drewN _) rfl).setOther hsR _,(T6.out.drewN _).set Cs _,(U6.out.drewN _).set Cs _⟩⟩
end
end Go.Proofs.YtgddmpmcnjlcjaaGreatDoor
