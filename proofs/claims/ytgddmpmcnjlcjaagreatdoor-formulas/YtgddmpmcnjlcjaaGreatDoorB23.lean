import Derived.Test.YtgddmpmcnjlcjaaGreatDoorB21
import Derived.Deep.RegionLaw
import Derived.Deep.RegionWith
import Derived.Deep.DeepCutAuto
import Derived.Test.YtgddmpmcnjlcjaaGreatDoorB20
set_option maxRecDepth 100000
set_option maxHeartbeats 4000000
namespace Go.Proofs.YtgddmpmcnjlcjaaGreatDoor
open Go.RowKit
set_option linter.unusedVariables false
theorem eP {w:World} {base g n:Nat} {t:TypeId} {cs:Array Value} (h:w.heap[g]? =some (.cells cs t)) (hb:base≤g) (hn:n≤1000) (hz:cs.size=n):w.ownsRow base t 1 (.slice (some ⟨g,0,none⟩) n n) n cs.toList:=by
 refine ⟨by simp[hz],.inr ⟨g,_,cs,rfl,hb,h,Nat.le_refl _,by unfold maxLen;omega,by omega,?_⟩⟩
 rw[Nat.mul_one, ←hz, ←Array.length_toList,List.take_length]
section
variable {B wb B_ nx:Nat} {bs:List UInt8} {vt:Value} {w:World}
theorem Be.alloc (h:Be B wb B_ nx bs vt w) (o:Obj):Be B wb B_ nx bs vt (w.alloc o):=⟨h.row.alloc o,h.cb,h.own.alloc o,h.hb,h.ne⟩
theorem S_ {l:List Int} (hl: ∀ x∈l,Ax x) (i:Nat):Ax (l.getD i 0):=by
 by_cases c:i<l.length
 ·rw[List.getD_eq_getElem?_getD,List.getElem?_eq_getElem c];exact hl _ (List.getElem_mem c)
 ·rw[List.getD_eq_getElem?_getD,List.getElem?_eq_none (by omega)];exact ⟨by decide,by decide⟩
theorem Vk (h:Be B wb B_ nx bs vt w) (hBw:B≤w.heap.size) (ls hs:List Int) (o:Obj) (o1 o2:Array Value) (e1:o1=(ls.map fun n=>Value.int .i64 n).toArray) (e2:o2=(hs.map fun n=>Value.int .i64 n).toArray) (hnx:nx≤1000000000) (hl: ∀ x∈ls,Ax x) (hh: ∀ x∈hs,Ax x) (hll:ls.length≤10) (hhl:hs.length≤10) (CY:bs.length≤600000200) (Ag:DU B w):
  Calls Tryz.prog 51 #[.pointer (some ⟨wb,0,none⟩),.slice (some ⟨w.heap.size,0,none⟩) ls.length ls.length,.slice (some ⟨w.heap.size+1,0,none⟩) hs.length hs.length] ((w.alloc (.cells o1 3)).alloc (.cells o2 3)) fun e w'=>e=.returned (.int .i64 nx)∧ ∃ Al,Be B wb (B_+1) (nx+1) (bs++FZ nx ls hs) Al w'∧B6 B wb w w':=by
 subst e1 e2
 have a1:=eP (base:=0) (n:=ls.length) (Du (w.alloc (.cells (ls.map fun n=>Value.int .i64 n).toArray 3)) (.cells (hs.map fun n=>Value.int .i64 n).toArray 3) _ w.heap.size (CX w (.cells (ls.map fun n=>Value.int .i64 n).toArray 3) w.heap.size rfl)) (Nat.zero_le _) (by omega) (by simp)
 have a2:=eP (base:=0) (n:=hs.length) (CX (w.alloc (.cells (ls.map fun n=>Value.int .i64 n).toArray 3)) (.cells (hs.map fun n=>Value.int .i64 n).toArray 3) (w.heap.size+1) (by simp)) (Nat.zero_le _) (by omega) (by simp)
 have c:=iB ((h.alloc (.cells (ls.map fun n=>Value.int .i64 n).toArray 3)).alloc (.cells (hs.map fun n=>Value.int .i64 n).toArray 3)) (by simp;omega) (some ⟨w.heap.size,0,none⟩) (some ⟨w.heap.size+1,0,none⟩) ls.length hs.length ls hs (by simpa using a1) (by simpa using a2) hnx (S_ hl) (S_ hh) (by omega) (by omega) (by omega) ((Ag.alloc hBw _).alloc (by simp;omega) _)
 refine c.mono ?_
 rintro e w' ⟨rfl,Al,h1,f1⟩
 exact ⟨rfl,Al,h1,(((B6.refl B wb w).alloc hBw _).alloc (by simp;omega) _).trans f1⟩
def Ni (b:Cl.Bt) (i:Nat):Value:=b.cells.getD i undef
theorem abf {g:Nat} {b:Cl.Bt} (h:w.heap[g]? =some (.cells #[.int .i64 b.node,.int .i64 b.v1,.int .i64 b.c1,.int .i64 b.v2,.int .i64 b.c2,.int .i64 b.vd,.int .i64 b.cd] 113)):w.rowIs g 113 7 (Ni b):=⟨_,h,rfl,fun i hi=>by
 match i,hi with
 |0,_=>rfl
 |1,_=>rfl
 |2,_=>rfl
 |3,_=>rfl
 |4,_=>rfl
 |5,_=>rfl
 |6,_=>rfl
 |n+7,h=>exact absurd h (by omega)⟩
theorem zg (h:Be B wb B_ nx bs vt w) (hBw:B≤w.heap.size) (b:Cl.Bt) (hb:b.Ok) (hn:2≤b.node) (hnx:nx≤999999999) (CY:bs.length≤600000000) (Ag:DU B w):
  Calls Tryz.prog 83 #[.pointer (some ⟨wb,0,none⟩),b.agg] w fun e w'=>e=.returned (.int .i64 (Cl.KO nx b))∧ ∃ Al,Be B wb (B_+Cl.Gv b) (nx+Cl.Gv b) (bs++Cl.KN nx b) Al w'∧B6 B wb w w':=by
 obtain ⟨nd,v1,c1,v2,c2,vd,cd⟩:=b
 obtain ⟨b1,b2,b3,b4,b5,b6⟩:=hb
 dsimp only at b1 b2 b3 b4 b5 b6 hn
 have HR:=hid (show Cl.KO nx ⟨nd,v1,c1,v2,c2,vd,cd⟩=nx+1 from if_neg (by show ¬nd≤1;omega))
 have HL:=hid (show Cl.Gv ⟨nd,v1,c1,v2,c2,vd,cd⟩=2 from if_neg (by show ¬nd≤1;omega))
 have HQ:=hid (show Cl.KN nx ⟨nd,v1,c1,v2,c2,vd,cd⟩=FZ nx [-(vd:Int),v1] [cd,c2,(c1:Int)+1]++FZ (nx+1) [-(vd:Int)] [nx,c1,(c2:Int)+1,(cd:Int)+1] from (if_neg (by show ¬nd=0;omega)).trans (if_neg (by show ¬nd=1;omega)))
 have H:=hid h
 have HT:=hid Ag
 have Oq:=h.row.lt
 have bI1:(v1:Int)≤1000000000:=by omega
 have bI2:(c1:Int)≤1000000000:=by omega
 have bI4:(c2:Int)≤1000000000:=by omega
 have bI5:(vd:Int)≤1000000000:=by omega
 have bI6:(cd:Int)≤1000000000:=by omega
 have Fj:(nx:Int)≤1000000000:=by omega
 clear h Ag
 obtain ⟨W,hW⟩: ∃ W:World,w.alloc (.cells #[.int .i64 nd,.int .i64 v1,.int .i64 c1,.int .i64 v2,.int .i64 c2,.int .i64 vd,.int .i64 cd] 113)=W:=⟨_,rfl⟩
 have PL:W.heap.size=w.heap.size+1:=by rw[←hW];simp
 have HW:=hid (show Be B wb B_ nx bs vt W by rw[←hW];exact H.out.alloc _)
 have EX:=hid (show DU B W by rw[←hW];exact HT.out.alloc hBw _)
 have Ic:=hid (show B6 B wb w W by rw[←hW];exact (B6.refl B wb w).alloc hBw _)
 have HBX:=hid (show W.rowIs w.heap.size 113 7 (Ni ⟨nd,v1,c1,v2,c2,vd,cd⟩) by rw[←hW];exact abf (CX _ _ _ rfl))
 have HE:=hid hW
 clear hW
 have C1:=hid (Vk HW.out (by omega) [-(vd:Int),v1] [cd,c2,(c1:Int)+1] (.cells #[] 0) #[.int .i64 (-(vd:Int)),.int .i64 v1] #[.int .i64 cd,.int .i64 c2,.int .i64 ((c1:Int)+1)] rfl rfl (by omega) (by intro x hx;simp at hx;unfold Ax;omega) (by intro x hx;simp at hx;unfold Ax;omega) (by simp) (by simp) (by omega) EX.out)
 rw[PL] at C1
 go_enter Tryz.func83,Tryz.ntmps83
 go_wp2_with (go_at_call 51;rw[HE.out];refine C1.out.mono ?_;rintro e w1 ⟨rfl,EY,h1,f1⟩;have H1:=hid h1;have F1:=hid f1;have z1:=f1.1.size;clear h1 f1;refine Hid.out ?_)
 refine hid ?_
 clear C1
 have R1:=Lq HBX.out F1.out.2 (by simp;omega) (by decide)
 have x2:=R1.cell (i:=2) (by omega)
 have x4:=R1.cell (i:=4) (by omega)
 have x6:=R1.cell (i:=6) (by omega)
 have x2a:=fun o=>(R1.alloc o).cell (i:=2) (by omega)
 have x4a:=fun o=>(R1.alloc o).cell (i:=4) (by omega)
 have x6a:=fun o=>(R1.alloc o).cell (i:=6) (by omega)
 rw[show Ni ⟨nd,v1,c1,v2,c2,vd,cd⟩ 2=.int .i64 c1 from rfl] at x2
 rw[show Ni ⟨nd,v1,c1,v2,c2,vd,cd⟩ 4=.int .i64 c2 from rfl] at x4
 rw[show Ni ⟨nd,v1,c1,v2,c2,vd,cd⟩ 6=.int .i64 cd from rfl] at x6
 rw[show Ni ⟨nd,v1,c1,v2,c2,vd,cd⟩ 2=.int .i64 c1 from rfl] at x2a
 rw[show Ni ⟨nd,v1,c1,v2,c2,vd,cd⟩ 4=.int .i64 c2 from rfl] at x4a
 rw[show Ni ⟨nd,v1,c1,v2,c2,vd,cd⟩ 6=.int .i64 cd from rfl] at x6a
 clear R1
 have Eh:=hid (show (bs++FZ nx [-(vd:Int),v1] [cd,c2,(c1:Int)+1]).length≤600000200 by
  have a:=S7 (nx:=nx) (ls:=[-(vd:Int),v1]) (hs:=[cd,c2,(c1:Int)+1]) (by omega) (S_ (by intro x hx;simp at hx;unfold Ax;omega)) (S_ (by intro x hx;simp at hx;unfold Ax;omega))
  simp only[List.length_cons,List.length_nil] at a
  rw[List.length_append]
  omega)
 have C2:=hid (Vk H1.out (by omega) [-(vd:Int)] [nx,c1,(c2:Int)+1,(cd:Int)+1] (.cells #[] 0) #[.int .i64 (-(vd:Int))] #[.int .i64 nx,.int .i64 c1,.int .i64 ((c2:Int)+1),.int .i64 ((cd:Int)+1)] rfl rfl (by omega) (by intro x hx;simp at hx;unfold Ax;omega) (by intro x hx;simp at hx;unfold Ax;omega) (by simp) (by simp) Eh.out (EX.out.on F1.out.1))
 go_wp2_with (go_at_call 51;refine C2.out.mono ?_;rintro e w2 ⟨rfl,vt2,h2,f2⟩;have H2:=hid h2;have F2:=hid f2;clear h2 f2)
 go_ret
 refine ⟨?_,vt2,?_,(Ic.out.trans F1.out).trans F2.out⟩
 ·rw[HR.out];rfl
 ·rw[HL.out,HQ.out, ←List.append_assoc]
  exact H2.out
end
section
variable {B wb B_ nx:Nat} {bs:List UInt8} {vt:Value} {w:World}
theorem eq_leaf (h:Be B wb B_ nx bs vt w) (hBw:B≤w.heap.size) (b:Cl.Bt) (hb:b.Ok) (hn:b.node≤1) (hnx:nx≤999999999) (CY:bs.length≤600000000) (Ag:DU B w):
  Calls Tryz.prog 50 #[.pointer (some ⟨wb,0,none⟩),b.agg] w fun e w'=>e=.returned (.int .i64 (Cl.KO nx b))∧ ∃ Al,Be B wb (B_+Cl.Gv b) (nx+Cl.Gv b) (bs++Cl.KN nx b) Al w'∧B6 B wb w w':=by
 obtain ⟨nd,v1,c1,v2,c2,vd,cd⟩:=b
 obtain ⟨b1,b2,b3,b4,b5,b6⟩:=hb
 dsimp only at b1 b2 b3 b4 b5 b6 hn
 have HR:=hid (show Cl.KO nx ⟨nd,v1,c1,v2,c2,vd,cd⟩=nx from if_pos hn)
 have HL:=hid (show Cl.Gv ⟨nd,v1,c1,v2,c2,vd,cd⟩=1 from if_pos hn)
 have H:=hid h
 have HT:=hid Ag
 have Oq:=h.row.lt
 have bI1:(v1:Int)≤1000000000:=by omega
 have bI2:(c1:Int)≤1000000000:=by omega
 have bI4:(c2:Int)≤1000000000:=by omega
 have bI5:(vd:Int)≤1000000000:=by omega
 have bI6:(cd:Int)≤1000000000:=by omega
 have Fj:(nx:Int)≤1000000000:=by omega
 clear h Ag
 obtain ⟨W,hW⟩: ∃ W:World,w.alloc (.cells #[.int .i64 nd,.int .i64 v1,.int .i64 c1,.int .i64 v2,.int .i64 c2,.int .i64 vd,.int .i64 cd] 113)=W:=⟨_,rfl⟩
 have PL:W.heap.size=w.heap.size+1:=by rw[←hW];simp
 have HW:=hid (show Be B wb B_ nx bs vt W by rw[←hW];exact H.out.alloc _)
 have EX:=hid (show DU B W by rw[←hW];exact HT.out.alloc hBw _)
 have Ic:=hid (show B6 B wb w W by rw[←hW];exact (B6.refl B wb w).alloc hBw _)
 have HE:=hid hW
 clear hW
 by_cases h0:nd=0
 ·subst h0
  have HQ:=hid (show Cl.KN nx ⟨0,v1,c1,v2,c2,vd,cd⟩=FZ nx [-(vd:Int)] [c1,c2,cd] from if_pos rfl)
  have C1:=hid (Vk HW.out (by omega) [-(vd:Int)] [c1,c2,cd] (.cells #[] 0) #[.int .i64 (-(vd:Int))] #[.int .i64 c1,.int .i64 c2,.int .i64 cd] rfl rfl (by omega) (by intro x hx;simp at hx;unfold Ax;omega) (by intro x hx;simp at hx;unfold Ax;omega) (by simp) (by simp) (by omega) EX.out)
  rw[PL] at C1
  go_enter Tryz.func50,Tryz.ntmps50
  go_wp2_with (go_at_call 51;rw[show ((0:Nat):Int)=0 from rfl] at HE;rw[HE.out];refine C1.out.mono ?_;rintro e w1 ⟨rfl,EY,h1,f1⟩;have H1:=hid h1;have F1:=hid f1;clear h1 f1)
  go_ret
  refine ⟨?_,EY,?_,Ic.out.trans F1.out⟩
  ·rw[HR.out];rfl
  ·rw[HL.out,HQ.out]
   exact H1.out
 ·have h1:nd=1:=by omega
  subst h1
  have HQ:=hid (show Cl.KN nx ⟨1,v1,c1,v2,c2,vd,cd⟩=FZ nx [-(vd:Int)] [c1,c2,(cd:Int)+1] from (if_neg (by show ¬1=0;decide)).trans (if_pos rfl))
  have C1:=hid (Vk HW.out (by omega) [-(vd:Int)] [c1,c2,(cd:Int)+1] (.cells #[] 0) #[.int .i64 (-(vd:Int))] #[.int .i64 c1,.int .i64 c2,.int .i64 ((cd:Int)+1)] rfl rfl (by omega) (by intro x hx;simp at hx;unfold Ax;omega) (by intro x hx;simp at hx;unfold Ax;omega) (by simp) (by simp) (by omega) EX.out)
  rw[PL] at C1
  go_enter Tryz.func50,Tryz.ntmps50
  go_wp2_with (go_at_call 51;rw[show ((1:Nat):Int)=1 from rfl] at HE;rw[HE.out];refine C1.out.mono ?_;rintro e w1 ⟨rfl,EY,h1,f1⟩;have H1:=hid h1;have F1:=hid f1;clear h1 f1)
  go_ret
  refine ⟨?_,EY,?_,Ic.out.trans F1.out⟩
  ·rw[HR.out];rfl
  ·rw[HL.out,HQ.out]
   exact H1.out
theorem eq_node (h:Be B wb B_ nx bs vt w) (hBw:B≤w.heap.size) (b:Cl.Bt) (hb:b.Ok) (hn:2≤b.node) (hnx:nx≤999999999) (CY:bs.length≤600000000) (Ag:DU B w):
  Calls Tryz.prog 50 #[.pointer (some ⟨wb,0,none⟩),b.agg] w fun e w'=>e=.returned (.int .i64 (Cl.KO nx b))∧ ∃ Al,Be B wb (B_+Cl.Gv b) (nx+Cl.Gv b) (bs++Cl.KN nx b) Al w'∧B6 B wb w w':=by
 have H:=hid h
 have HT:=hid Ag
 have HB:=hid hb
 have HL:=hid CY
 have e0:((b.node:Int)==0)=false:=by simp;omega
 have e1:((b.node:Int)==1)=false:=by simp;omega
 clear h Ag hb
 obtain ⟨W,hW⟩: ∃ W:World,w.alloc (.cells #[.int .i64 b.node,.int .i64 b.v1,.int .i64 b.c1,.int .i64 b.v2,.int .i64 b.c2,.int .i64 b.vd,.int .i64 b.cd] 113)=W:=⟨_,rfl⟩
 have PL:W.heap.size=w.heap.size+1:=by rw[←hW];simp
 have HW:=hid (show Be B wb B_ nx bs vt W by rw[←hW];exact H.out.alloc _)
 have EX:=hid (show DU B W by rw[←hW];exact HT.out.alloc hBw _)
 have Ic:=hid (show B6 B wb w W by rw[←hW];exact (B6.refl B wb w).alloc hBw _)
 have HE:=hid hW
 clear hW
 have HN:=hid hn
 clear hn
 go_enter Tryz.func50,Tryz.ntmps50
 go_wp2_with (go_at_call 83;rw[HE.out];refine (zg HW.out (by omega) b HB.out HN.out hnx HL.out EX.out).mono ?_;rintro e w1 ⟨rfl,EY,h1,f1⟩;have H1:=hid h1;have F1:=hid f1;clear h1 f1)
 go_ret
 exact ⟨rfl,EY,H1.out,Ic.out.trans F1.out⟩
theorem eq_any (h:Be B wb B_ nx bs vt w) (hBw:B≤w.heap.size) (b:Cl.Bt) (hb:b.Ok) (hnx:nx≤999999999) (CY:bs.length≤600000000) (Ag:DU B w):
  Calls Tryz.prog 50 #[.pointer (some ⟨wb,0,none⟩),b.agg] w fun e w'=>e=.returned (.int .i64 (Cl.KO nx b))∧ ∃ Al,Be B wb (B_+Cl.Gv b) (nx+Cl.Gv b) (bs++Cl.KN nx b) Al w'∧B6 B wb w w':=by
 by_cases c:b.node≤1
 ·exact eq_leaf h hBw b hb c hnx CY Ag
 ·exact eq_node h hBw b hb (by omega) hnx CY Ag
end
namespace Cl
def Nj (bits:List Bt) (ct:Nat):Nat×List UInt8:=
 let x:=D5 bits (ct+1) bits.length
 (x.1 - (ct+1)+1,x.2.1++FZ x.1 [] (x.2.2++[(ct:Int)]))
end Cl
namespace Cl
theorem dZ (l:List Bt):(l.flatMap Bt.cells).length=l.length*7:=by
 induction l with
 |nil=>rfl
 |cons a l ih=>rw[List.flatMap_cons,List.length_append,ih,List.length_cons];simp[Bt.cells];omega
theorem d_ (l:List Bt): ∀ (i j:Nat),i<l.length→j<7→(l.flatMap Bt.cells)[i*7+j]? =(l.getD i {}).cells[j]? :=by
 induction l with
 |nil=>intro i j h;exact absurd h (by simp)
 |cons a l ih=>
  intro i j h hj
  rw[List.flatMap_cons]
  cases i with
  |zero=>rw[List.getElem?_append_left (by simp[Bt.cells];omega)];simp
  |succ i=>
   rw[List.getElem?_append_right (by simp[Bt.cells];omega),show a.cells.length=7 from rfl,show (i+1)*7+j - 7=i*7+j by omega,ih i j (by simpa using h) hj]
   simp
end Cl
theorem Ob {w:World} {base:Nat} {l:List Cl.Bt} {g cap:Nat} (h:w.ownsRow base 113 7 (.slice (some ⟨g,0,none⟩) l.length cap) l.length (l.flatMap Cl.Bt.cells)) (i:Nat) (hi:i<l.length) (j:Nat) (hj:j<7):w.cell? ⟨g,i*7+j,none⟩=(l.getD i {}).cells[j]? :=(h.cellAt (i*7+j) (by omega)).trans (Cl.d_ _ i j hi hj)
def Nk (vars ct:Nat) (txt:ByteArray) (vb:Value) (i:Nat):Value:=if i=0 then .int .i64 vars else if i=1 then .int .i64 ct else if i=2 then .string txt else vb
def E_ (a b:Value) (i:Nat):Value:=if i=0 then a else b
structure KB (w:World) (vars ct:Nat) (txt:ByteArray) (vb:Value) (x:Nat×List UInt8×List Int) (vt hv:Value) (wr:World):Prop where
 wp:Be w.heap.size (w.heap.size+2) (x.1 - (ct+1)) x.1 x.2.1 vt wr
 hin:wr.ownsRow w.heap.size 3 1 hv x.2.2.length (x.2.2.map fun n=>.int .i64 n)
 fr:wr.rowIs w.heap.size 55 4 (Nk vars ct txt vb)
 pr:wr.rowIs (w.heap.size+1) 63 2 (E_ (.int .i64 0) (.string ⟨#[]⟩))
 A8:Below w.heap.size w wr
section
variable {w wr:World} {vars ct:Nat} {txt:ByteArray} {vb vt hv:Value} {x:Nat×List UInt8×List Int}
theorem KB.alloc (h:KB w vars ct txt vb x vt hv wr) (o:Obj):KB w vars ct txt vb x vt hv (wr.alloc o):=⟨h.wp.alloc o,h.hin.alloc o,h.fr.alloc o,h.pr.alloc o,h.A8.alloc h.A8.size o⟩
theorem KB.wrote (h:KB w vars ct txt vb x vt hv wr) {w':World} {Al:Value} {n:Nat} {b:List UInt8} (hx:ct+1≤x.1) (hw:Be w.heap.size (w.heap.size+2) (x.1 - (ct+1)+n) (x.1+n) (x.2.1++b) Al w') (hf:B6 w.heap.size (w.heap.size+2) wr w'):KB w vars ct txt vb (x.1+n,x.2.1++b,x.2.2) Al hv w':=
 ⟨by show Be _ _ (x.1+n - (ct+1)) _ _ _ _;rw[show x.1+n - (ct+1)=x.1 - (ct+1)+n by omega];exact hw,QI h.hin hf.2 (fun g e=>by intro e2;cases e2;exact Aq h.hin h.wp.row (by decide) e) (by decide),Lq h.fr hf.2 (by simp) (by decide),Lq h.pr hf.2 (by simp) (by decide),h.A8.trans hf.1⟩
theorem KB.push (h:KB w vars ct txt vb x vt hv wr) {o:Obj} {w':World} {g' cap':Nat} {n:Int} (hown:w'.ownsRow w.heap.size 3 1 (.slice (some ⟨g',0,none⟩) (x.2.2.length+1) cap') (x.2.2.length+1) ((x.2.2.map fun n=>.int .i64 n)++[.int .i64 n])) (hg:(wr.alloc o).grownBy w' hv.ownBlock):KB w vars ct txt vb (x.1,x.2.1,x.2.2++[n]) vt (.slice (some ⟨g',0,none⟩) (x.2.2.length+1) cap') w':=by
 have h2:=h.alloc o
 refine ⟨⟨Ad h2.wp.row hg (Aq h2.hin h2.wp.row (by decide)),h2.wp.cb,BP h2.wp.own (fun k e=>hg.block k (h2.wp.own.lt k e).2 (fun e2=>?_)),h2.wp.hb,h2.wp.ne⟩,?_,Ad h2.fr hg (Aq h2.hin h2.fr (by decide)),Ad h2.pr hg (Aq h2.hin h2.pr (by decide)),h2.A8.grown hg h2.A8.size (fun k e=>(h.hin.lt k e).1)⟩
 ·obtain ⟨c1,f1,a1⟩:=Mu h2.wp.own e
  obtain ⟨c2,f2,a2⟩:=Mu h2.hin e2.symm
  rw[a1] at a2
  exact absurd (show 5=3 by cases a2) (by decide)
 ·show World.ownsRow _ _ _ _ _ (x.2.2++[n]).length ((x.2.2++[n]).map fun n=>.int .i64 n)
  rw[show (x.2.2++[n]).length=x.2.2.length+1 by simp,List.map_append]
  exact hown
end
section
variable {w:World}
theorem abh (vars ct:Nat) (txt:ByteArray) (bits:List Cl.Bt) (vb:Value) (hct:ct≤900000000) (hbl:bits.length≤70) (hbo: ∀ i,(bits.getD i {}).Ok) (hb:w.ownsRow 0 113 7 vb bits.length (bits.flatMap Cl.Bt.cells)) (most:Nat) (hm:most≤1048576) (Ag:DU w.heap.size w):
  Calls Tryz.prog 21 #[.agg #[.int .i64 vars,.int .i64 ct,.string txt,vb],.int .i64 most] w fun e w'=>Below w.heap.size w w'∧
   (most=0∨(Cl.Nj bits ct).1≤most→e=.returned (.tuple #[.agg #[.int .i64 (Cl.Nj bits ct).1,.string ⟨(Cl.Nj bits ct).2.toArray⟩],.bool true]))∧
   (most≠0→most<(Cl.Nj bits ct).1→e=.returned (.tuple #[.agg #[.int .i64 0,.string ⟨#[]⟩],.bool false])):=by
 obtain ⟨t0,ht0,hz0,hz1,hz2⟩:=info_parts Tryz.Ds
 obtain ⟨ab,cb,eb⟩:=AX hb
 subst eb
 have HB:=hid hb
 have HT:=hid Ag
 have J8:=hid hbo
 have HPO:=hid (show ∀ i,i≤bits.length→_ from fun i hi=>Cl.zf bits (ct+1) hbo i (by omega))
 have HP0:=hid (show Cl.D5 bits (ct+1) 0=(ct+1,[],[]) from rfl)
 have RB:=hid (show ∀ i,Cl.D5 bits (ct+1) (i+1)=((Cl.D5 bits (ct+1) i).1+Cl.Gv (bits.getD i {}),(Cl.D5 bits (ct+1) i).2.1++Cl.KN (Cl.D5 bits (ct+1) i).1 (bits.getD i {}),(Cl.D5 bits (ct+1) i).2.2++[(Cl.KO (Cl.D5 bits (ct+1) i).1 (bits.getD i {}):Int)]) from fun _=>rfl)
 have Mb:=hid (show Cl.Nj bits ct=((Cl.D5 bits (ct+1) bits.length).1 - (ct+1)+1,(Cl.D5 bits (ct+1) bits.length).2.1++FZ (Cl.D5 bits (ct+1) bits.length).1 [] ((Cl.D5 bits (ct+1) bits.length).2.2++[(ct:Int)])) from rfl)
 generalize Cl.Nj bits ct=PF at Mb
 generalize Cl.D5 bits (ct+1)=P at HPO HP0 RB Mb
 have mJ:(ct:Int)≤900000000:=by omega
 have mD:(bits.length:Int)≤70:=by omega
 have Gs:(most:Int)≤1048576:=by omega
 clear hb Ag hbo
 go_enter Tryz.func21,Tryz.ntmps21
 go_wp2_with fail
 obtain ⟨W0,hW0⟩: ∃ W0:World,((w.alloc (.cells #[.int .i64 vars,.int .i64 ct,.string txt,.slice ab bits.length cb] 55)).alloc (.cells #[.int .i64 0,.string ⟨#[]⟩] 63)).alloc (.cells #[.int .i64 0,.int .i64 ((ct:Int)+1),.slice none 0 0] 122)=W0:=⟨_,rfl⟩
 rw[hW0]
 have HI:=hid (show KB w vars ct txt (.slice ab bits.length cb) (ct+1,[],[]) (.slice none 0 0) (.slice none 0 0) W0 by
  rw[←hW0]
  refine ⟨⟨?_,by simp,World.ownsRow_nil _ _ _ _,by omega,by simp[Value.ownBlock]⟩,World.ownsRow_nil _ _ _ _,?_,?_,?_⟩
  ·rw[show ct+1 - (ct+1)=0 by omega]
   refine ⟨_,CX _ _ _ (by simp),rfl,fun i hi=>?_⟩
   match i,hi with
   |0,_=>rfl
   |1,_=>rfl
   |2,_=>rfl
   |n+3,h=>omega
  ·refine ⟨_,Du _ _ _ _ (Du _ _ _ _ (CX _ _ _ rfl)),rfl,fun i hi=>?_⟩
   match i,hi with
   |0,_=>rfl
   |1,_=>rfl
   |2,_=>rfl
   |3,_=>rfl
   |n+4,h=>omega
  ·refine ⟨_,Du _ _ _ _ (CX _ _ _ (by simp)),rfl,fun i hi=>?_⟩
   match i,hi with
   |0,_=>rfl
   |1,_=>rfl
   |n+2,h=>omega
  ·exact ((((Below.refl w.heap.size w).alloc (Nat.le_refl _) _).alloc (by simp) _).alloc (by simp;omega) _))
 clear hW0
 go_loopw [7,18] (fun hv c wr=> ∃ (i:Nat) (vt:Value),i≤bits.length∧c=.int .i64 i∧KB w vars ct txt (.slice ab bits.length cb) (P i) vt hv wr) (fun _ c _=>bits.length - (intOf c).toNat)
 case atStart=>exact ⟨0,_,Nat.zero_le _,rfl,by rw[HP0.out];exact HI.out⟩
 case round=>
  clear HI
  obtain ⟨i,vt,hi,rfl,Ie⟩:=hrel
  obtain ⟨o1,o2,o3,o4,o5⟩:=HPO.out i hi
  have Fh:(i:Int)≤70:=by omega
  obtain ⟨ah,ch,eh⟩:=AX Ie.hin
  subst eh
  by_cases hlt:i<bits.length
  ·have HS:=hid (RB.out i)
   obtain ⟨X,hX⟩: ∃ X,P i=X:=⟨_,rfl⟩
   rw[hX] at Ie o1 o2 o3 o4 HS ⊢
   have BO:=hid (J8.out i)
   obtain ⟨gb,cb',hvb,_,hgb⟩:=HB.out.form (by omega)
   cases hvb
   have A8:=Ie.A8
   have OB:=CL HB.out A8.block
   have d0:=Ob OB i hlt 0 (by omega)
   have d1:=Ob OB i hlt 1 (by omega)
   have d2:=Ob OB i hlt 2 (by omega)
   have d3:=Ob OB i hlt 3 (by omega)
   have d4:=Ob OB i hlt 4 (by omega)
   have d5:=Ob OB i hlt 5 (by omega)
   have d6:=Ob OB i hlt 6 (by omega)
   generalize bits.getD i {}=b at d0 d1 d2 d3 d4 d5 d6 HS BO
   replace d0:wr.cell? ⟨gb,i*7,none⟩=some (.int .i64 b.node):=d0
   replace d1:wr.cell? ⟨gb,i*7+1,none⟩=some (.int .i64 b.v1):=d1
   replace d2:wr.cell? ⟨gb,i*7+2,none⟩=some (.int .i64 b.c1):=d2
   replace d3:wr.cell? ⟨gb,i*7+3,none⟩=some (.int .i64 b.v2):=d3
   replace d4:wr.cell? ⟨gb,i*7+4,none⟩=some (.int .i64 b.c2):=d4
   replace d5:wr.cell? ⟨gb,i*7+5,none⟩=some (.int .i64 b.vd):=d5
   replace d6:wr.cell? ⟨gb,i*7+6,none⟩=some (.int .i64 b.cd):=d6
   have HF:=hid Ie
   have zr:=A8.size
   have DL:(i:Int)<(bits.length:Int):=by omega
   have Dk:=hid (HF.out.alloc (.cells #[.int .i64 b.node,.int .i64 b.v1,.int .i64 b.c1,.int .i64 b.v2,.int .i64 b.c2,.int .i64 b.vd,.int .i64 b.cd] 113))
   have hxl:X.2.2.length≤70:=by omega
   clear Ie A8 OB hX o4 o5
   go_wp2_with (go_at_call 50;refine (eq_any Dk.out.wp (by simp;omega) b BO.out (by omega) (by omega) (HT.out.on Dk.out.A8)).mono ?_;rintro e w1 ⟨rfl,EY,h1,f1⟩;have H1:=hid (Dk.out.wrote (by omega) h1 f1);clear h1 f1;refine Hid.out ?_)
   refine hid ?_
   have z1:=H1.out.A8.size
   go_wp2_with (first|(at_builtin;refine wpList_append_lies _ rfl _ _ 24 rfl w.heap.size 3 t0 _ 1 8 Tryz.underlying24 ht0 hz0 hz1 hz2 rfl (by omega) _ X.2.2.length (X.2.2.map fun n=>.int .i64 n) rfl (H1.out.hin.alloc _) ⟨w1.heap.size,0,none⟩ 1 1 [.int .i64 (Cl.KO X.1 b)] rfl rfl (cell_one_new _ _ _) (by simp[Value.oneCell']) (by omega) (by unfold maxLen;omega) (by omega) (by simp;omega) (w1.heap.size+1) (by simp) ?_;intro g4 D4 w4 BW BJ Cn IU;have H4:=hid (H1.out.push BW BJ);clear BW BJ Cn))
   go_roundw
   case rel=>exact ⟨i+1,EY,by omega,by go_num,by rw[HS.out];exact H4.out⟩
   case measure=>simp[intOf];omega
  ·have hie:bits.length=i:=by omega
   rw[hie] at Mb
   have PD:=hid hie
   obtain ⟨X,hX⟩: ∃ X,P i=X:=⟨_,rfl⟩
   rw[hX] at Ie o1 o2 o3 o4 o5 Mb ⊢
   have HF:=hid Ie
   have zr:=Ie.A8.size
   have hxl:X.2.2.length≤70:=by omega
   have PR:=hid o5
   have f1:=Ie.fr.cell (i:=1) (by omega)
   rw[show Nk vars ct txt (.slice ab bits.length cb) 1=.int .i64 ct from rfl] at f1
   clear Ie hX o4 o5 hie
   go_wp2_with (first|(at_builtin;refine wpList_append_lies _ rfl _ _ 24 rfl w.heap.size 3 t0 _ 1 8 Tryz.underlying24 ht0 hz0 hz1 hz2 rfl (by omega) _ X.2.2.length (X.2.2.map fun n=>.int .i64 n) rfl (HF.out.hin.alloc _) ⟨wr.heap.size,0,none⟩ 1 1 [.int .i64 ct] rfl rfl (cell_one_new _ _ _) (by simp[Value.oneCell']) (by omega) (by unfold maxLen;omega) (by omega) (by simp;omega) (wr.heap.size+1) (by simp) ?_;intro g4 D4 w4 BW BJ Cn IU;have H4:=hid (HF.out.push BW BJ);clear BW BJ Cn;refine Hid.out ?_))
   refine hid ?_
   have z4:=H4.out.A8.size
   have C:=hid (iB H4.out.wp (by omega) none (some ⟨g4,0,none⟩) 0 D4 [] (X.2.2++[(ct:Int)]) (World.ownsRow_nil _ _ _ _) (Br (by have h:=H4.out.hin;rw[show (X.2.2++[(ct:Int)]).length=X.2.2.length+1 by simp];simpa using h) (Nat.zero_le _)) (by omega) (fun i=>by simp;exact ⟨by decide,by decide⟩) (S_ (fun x hx=>by
    rcases List.mem_append.1 hx with hx|hx
    ·have:=PR.out x hx;unfold Ax;omega
    ·rw[List.mem_singleton.1 hx];unfold Ax;omega)) (by simp) (by rw[List.length_append];simp;omega) (by show X.2.1.length≤700000000;omega) (HT.out.on H4.out.A8))
   rw[show (X.2.2++[(ct:Int)]).length=X.2.2.length+1 by simp] at C
   go_wp2_with (go_at_call 51;refine C.out.mono ?_;rintro e w5 ⟨rfl,vt5,h5,f5⟩;have H5:=hid (H4.out.wrote (n:=1) (by show ct+1≤X.1;omega) h5 f5);clear h5 f5;refine Hid.out ?_)
   refine hid ?_
   obtain ⟨N,hN⟩: ∃ N,X.1+1 - (ct+1)=N:=⟨_,rfl⟩
   obtain ⟨T,hT⟩: ∃ T,X.2.1++FZ X.1 [] (X.2.2++[(ct:Int)])=T:=⟨_,rfl⟩
   have XP:PF.1=N:=by rw[Mb.out];show X.1 - (ct+1)+1=N;omega
   have hP2:PF.2=T:=by rw[Mb.out];exact hT
   have EF:=hid XP
   have J4:=hid hP2
   have Nl:=H5.out.wp
   dsimp only at Nl
   rw[hN,hT] at Nl
   have PU:T≠[]:=by
    rw[←hT]
    intro e
    have:=congrArg List.length e
    rw[List.length_append] at this
    unfold FZ at this
    simp at this
   have HWP:=hid Nl
   have hNb:N≤1000:=by omega
   have hNI:(N:Int)≤1000:=by omega
   obtain ⟨at5,ct5,et5⟩:=AX Nl.own
   subst et5
   have c0:=Nl.c0
   have c2:=Nl.c2
   have hcv:=fg Nl.own PU
   have r0:=H5.out.pr.cell (i:=0) (by omega)
   have r1:=H5.out.pr.cell (i:=1) (by omega)
   have rf0:=H5.out.pr.frozen 0
   have rf1:=H5.out.pr.frozen 1
   have CE:=hid H5.out.A8
   dsimp only[E_] at r0 r1
   clear Nl hN hT XP hP2 H5 H4 C HF PU
   by_cases hm0:most=0
   ·have Wi:((most:Int) !=0)=false:=by simp;omega
    have HM:=hid hm0
    clear hm0
    go_wp2_with fail
    refine bodyPost_ret (v:=.tuple #[.agg #[.int .i64 N,.string ⟨T.toArray⟩],.bool true]) (by simp[results,Tryz.results21,go_sem,r0,r1]) rfl ⟨?_,fun _=>by rw[EF.out,J4.out],fun c=>absurd HM.out c⟩
    exact (CE.out.setCell (p:=⟨w.heap.size+1,0,none⟩) (by show w.heap.size≤w.heap.size+1;omega) _).setCell (p:=⟨w.heap.size+1,1,none⟩) (by show w.heap.size≤w.heap.size+1;omega) _
   ·have Wi:((most:Int) !=0)=true:=by simp;omega
    have HM:=hid hm0
    clear hm0
    by_cases hbg:most<N
    ·have a_:(most:Int)<(N:Int):=by omega
     go_wp2_with fail
     refine bodyPost_ret (v:=.tuple #[.agg #[.int .i64 0,.string ⟨#[]⟩],.bool false]) (by simp[results,Tryz.results21,go_sem,r0,r1]) rfl ⟨?_,fun c=>?_,fun _ _=>rfl⟩
     ·exact (CE.out.setCell (p:=⟨w.heap.size+1,0,none⟩) (by show w.heap.size≤w.heap.size+1;omega) _).setCell (p:=⟨w.heap.size+1,1,none⟩) (by show w.heap.size≤w.heap.size+1;omega) _
     ·exfalso
      rw[EF.out] at c
      rcases c with c|c
      ·exact HM.out c
      ·omega
    ·have a_: ¬(most:Int)<(N:Int):=by omega
     have HBG:=hid hbg
     clear hbg
     go_wp2_with fail
     refine bodyPost_ret (v:=.tuple #[.agg #[.int .i64 N,.string ⟨T.toArray⟩],.bool true]) (by simp[results,Tryz.results21,go_sem,r0,r1]) rfl ⟨?_,fun _=>by rw[EF.out,J4.out],fun _ c=>absurd (by rw[EF.out] at c;exact c) HBG.out⟩
     exact (CE.out.setCell (p:=⟨w.heap.size+1,0,none⟩) (by show w.heap.size≤w.heap.size+1;omega) _).setCell (p:=⟨w.heap.size+1,1,none⟩) (by show w.heap.size≤w.heap.size+1;omega) _
end
end Go.Proofs.YtgddmpmcnjlcjaaGreatDoor
