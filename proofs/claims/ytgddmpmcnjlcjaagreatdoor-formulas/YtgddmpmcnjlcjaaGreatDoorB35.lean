import Derived.Test.YtgddmpmcnjlcjaaGreatDoorB32
import Derived.Test.YtgddmpmcnjlcjaaGreatDoorB34
set_option maxRecDepth 100000
set_option maxHeartbeats 1000000
namespace Go.Proofs.YtgddmpmcnjlcjaaGreatDoor
open Go.RowKit
set_option linter.unusedVariables false
def Pm:List ByteArray:=[⟨#[43]⟩,⟨#[45]⟩,⟨#[42]⟩,⟨#[38]⟩,⟨#[124]⟩,⟨#[94]⟩,⟨#[60,60]⟩,⟨#[62,62]⟩,⟨#[60]⟩,⟨#[61,61]⟩]
def sgC:Array Value:= #[.string ⟨#[43]⟩,.string ⟨#[45]⟩,.string ⟨#[42]⟩,.string ⟨#[38]⟩,.string ⟨#[124]⟩,.string ⟨#[94]⟩,.string ⟨#[60,60]⟩,.string ⟨#[62,62]⟩,.string ⟨#[60]⟩,.string ⟨#[61,61]⟩]
theorem abx: ∀ i,i<10→sgC[i]? =some (.string (Pm.getD i ByteArray.empty))
 |0,_=>rfl
 |1,_=>rfl
 |2,_=>rfl
 |3,_=>rfl
 |4,_=>rfl
 |5,_=>rfl
 |6,_=>rfl
 |7,_=>rfl
 |8,_=>rfl
 |9,_=>rfl
 |n+10,h=>absurd h (by omega)
theorem aaH (w:World):CD (w.alloc (.cells sgC 9)) w.heap.size Pm:=fun i hi=>newAt w sgC 9 i _ (abx i hi)
theorem iK:Pm.map ByteArray.toList=Rf.signs:=by
 simp[Pm,Rf.signs,ByteArray.toList_eq]
theorem tC {o:Option Nat} (h:0≤Lk.Cm o):o.isSome=true:=by
 cases o with
 |none=>simp[Lk.Cm] at h
 |some n=>rfl
theorem tD {o:Option Nat} (h:Lk.Cm o<0):o.isSome=false:=by
 cases o with
 |none=>rfl
 |some n=>simp[Lk.Cm] at h;omega
theorem GQ {w w':World} {g:Nat} {l:List ByteArray} (h:CD w g l) (hb:Below w.heap.size w w'):CD w' g l:=fun i hi=>cell_later hb (h i hi)
namespace Ae
variable {w:World} {base P:Nat} {l:List DB} {vn vk vz vb:Value}
theorem xK (h:Ae w base P l vn vk vz vb) (hl:l.length≤1000) (g cap:Nat) (q0:ByteArray) (q1:ByteArray) (hc0:w.cell? ⟨g,0,none⟩=some (.string q0)) (hc1:w.cell? ⟨g,1,none⟩=some (.string q1)) (Nv:(q0.toList==[111,117,116])=true):
  Calls Tryz.prog 62 #[.pointer (some ⟨P,0,none⟩),.slice (some ⟨g,0,none⟩) 2 cap] w fun e w'=>e=.returned (.bool (Rf.atom (A7 l) q1.toList))∧Below w.heap.size w w':=by
 have HP:=hid h
 clear h
 have a0:=fun o=>AH hc0 o
 have a1:=fun o=>AH hc1 o
 go_enter Tryz.func62,Tryz.ntmps62
 go_wp2_with (first
  |(go_at_call 97;refine ((HP.out.alloc _).IJ q1 hl).mono ?_;rintro e w1 ⟨rfl,hb1⟩))
 go_ret
 exact ⟨rfl,((Below.refl _ _).alloc (Nat.le_refl _) _).trans (hb1.mono (by simp))⟩
theorem pD (h:Ae w base P l vn vk vz vb) (hl:l.length≤1000) (g cap:Nat) (q0:ByteArray) (hc0:w.cell? ⟨g,0,none⟩=some (.string q0)) (Nv:(q0.toList==[111,117,116])=true) (n:Nat) (hn:((n:Int) !=2)=true) (hn0:(0:Int)<(n:Int)):
  Calls Tryz.prog 62 #[.pointer (some ⟨P,0,none⟩),.slice (some ⟨g,0,none⟩) n cap] w fun e w'=>e=.returned (.bool (false))∧Below w.heap.size w w':=by
 clear h
 have a0:=fun o=>AH hc0 o
 go_enter Tryz.func62,Tryz.ntmps62
 go_wp2_with fail
 go_ret
 exact ⟨rfl,((Below.refl _ _).alloc (Nat.le_refl _) _)⟩
theorem oG (h:Ae w base P l vn vk vz vb) (hl:l.length≤1000) (g cap:Nat) (q0:ByteArray) (hc0:w.cell? ⟨g,0,none⟩=some (.string q0)) (Nv:(q0.toList==[111,117,116])=false) (hel:(q0.toList==[108,111,97,100])=true) (n:Nat) (hn:((n:Int) !=4)=true) (hn0:(0:Int)<(n:Int)):
  Calls Tryz.prog 62 #[.pointer (some ⟨P,0,none⟩),.slice (some ⟨g,0,none⟩) n cap] w fun e w'=>e=.returned (.bool (false))∧Below w.heap.size w w':=by
 clear h
 have a0:=fun o=>AH hc0 o
 go_enter Tryz.func62,Tryz.ntmps62
 go_wp2_with fail
 go_ret
 exact ⟨rfl,((Below.refl _ _).alloc (Nat.le_refl _) _)⟩
theorem ni (h:Ae w base P l vn vk vz vb) (hl:l.length≤1000) (g cap:Nat) (q0:ByteArray) (hc0:w.cell? ⟨g,0,none⟩=some (.string q0)) (Nv:(q0.toList==[111,117,116])=false) (hel:(q0.toList==[108,111,97,100])=false) (hes:(q0.toList==[115,116,111,114,101])=true) (n:Nat) (hn:((n:Int) !=4)=true) (hn0:(0:Int)<(n:Int)):
  Calls Tryz.prog 62 #[.pointer (some ⟨P,0,none⟩),.slice (some ⟨g,0,none⟩) n cap] w fun e w'=>e=.returned (.bool (false))∧Below w.heap.size w w':=by
 clear h
 have a0:=fun o=>AH hc0 o
 go_enter Tryz.func62,Tryz.ntmps62
 go_wp2_with fail
 go_ret
 exact ⟨rfl,((Below.refl _ _).alloc (Nat.le_refl _) _)⟩
theorem qR (h:Ae w base P l vn vk vz vb) (hl:l.length≤1000) (g cap:Nat) (q0:ByteArray) (hc0:w.cell? ⟨g,0,none⟩=some (.string q0)) (Nv:(q0.toList==[111,117,116])=false) (hel:(q0.toList==[108,111,97,100])=false) (hes:(q0.toList==[115,116,111,114,101])=false) (n:Nat) (hn:((n:Int) !=3)=true) (hn5:((n:Int) !=5)=true) (hn0:(0:Int)<(n:Int)):
  Calls Tryz.prog 62 #[.pointer (some ⟨P,0,none⟩),.slice (some ⟨g,0,none⟩) n cap] w fun e w'=>e=.returned (.bool (false))∧Below w.heap.size w w':=by
 clear h
 have a0:=fun o=>AH hc0 o
 go_enter Tryz.func62,Tryz.ntmps62
 go_wp2_with fail
 go_ret
 exact ⟨rfl,((Below.refl _ _).alloc (Nat.le_refl _) _)⟩
theorem tE (h:Ae w base P l vn vk vz vb) (hl:l.length≤1000) (g cap:Nat) (q0:ByteArray) (q1:ByteArray) (q2:ByteArray) (q3:ByteArray) (hc0:w.cell? ⟨g,0,none⟩=some (.string q0)) (hc1:w.cell? ⟨g,1,none⟩=some (.string q1)) (hc2:w.cell? ⟨g,2,none⟩=some (.string q2)) (hc3:w.cell? ⟨g,3,none⟩=some (.string q3)) (Nv:(q0.toList==[111,117,116])=false) (hel:(q0.toList==[108,111,97,100])=true):
  Calls Tryz.prog 62 #[.pointer (some ⟨P,0,none⟩),.slice (some ⟨g,0,none⟩) 4 cap] w fun e w'=>e=.returned (.bool (Rf.scalar (A7 l) q1.toList && Rf.kindOf (A7 l) q2.toList==Rf.wArray && Rf.atom (A7 l) q3.toList))∧Below w.heap.size w w':=by
 have HP:=hid h
 clear h
 have a0:=fun o=>AH hc0 o
 have a1:=fun o=>AH hc1 o
 have a2:=fun o=>AH hc2 o
 have a3:=fun o=>AH hc3 o
 go_enter Tryz.func62,Tryz.ntmps62
 go_wp2_with (first
  |(go_at_call 98;refine ((HP.out.alloc _).Ru q1 hl).mono ?_;rintro e w0 ⟨rfl,rfl⟩)
  |(go_at_call 94;refine ((HP.out.alloc _).II q2 hl).mono ?_;rintro e w0 ⟨kq,rfl,BN,rfl⟩;have Ih:=hid BN;clear BN)
  |(go_at_call 97;refine ((HP.out.alloc _).IJ q3 hl).mono ?_;rintro e w1 ⟨rfl,hb1⟩;have AL:=hid hb1;clear hb1))
 all_goals go_ret
 all_goals refine ⟨Ks ?_,((Below.refl _ _).alloc (Nat.le_refl _) _).trans (AL.out.mono (by simp))⟩
 all_goals rw[←show kq.toList=_ from Ih.out]
 all_goals simp[Rf.wArray, *]
theorem qT (h:Ae w base P l vn vk vz vb) (hl:l.length≤1000) (g cap:Nat) (q0:ByteArray) (q1:ByteArray) (q2:ByteArray) (q3:ByteArray) (hc0:w.cell? ⟨g,0,none⟩=some (.string q0)) (hc1:w.cell? ⟨g,1,none⟩=some (.string q1)) (hc2:w.cell? ⟨g,2,none⟩=some (.string q2)) (hc3:w.cell? ⟨g,3,none⟩=some (.string q3)) (Nv:(q0.toList==[111,117,116])=false) (hel:(q0.toList==[108,111,97,100])=false) (hes:(q0.toList==[115,116,111,114,101])=true):
  Calls Tryz.prog 62 #[.pointer (some ⟨P,0,none⟩),.slice (some ⟨g,0,none⟩) 4 cap] w fun e w'=>e=.returned (.bool (Rf.kindOf (A7 l) q1.toList==Rf.wArray && Rf.atom (A7 l) q2.toList && Rf.atom (A7 l) q3.toList))∧Below w.heap.size w w':=by
 have HP:=hid h
 clear h
 have a0:=fun o=>AH hc0 o
 have a1:=fun o=>AH hc1 o
 have a2:=fun o=>AH hc2 o
 have a3:=fun o=>AH hc3 o
 go_enter Tryz.func62,Tryz.ntmps62
 go_wp2_with (first
  |(go_at_call 94;refine ((HP.out.alloc _).II q1 hl).mono ?_;rintro e w0 ⟨kq,rfl,BN,rfl⟩;have Ih:=hid BN;clear BN)
  |(go_at_call_of 97 (Value.string q2);refine ((HP.out.alloc _).IJ q2 hl).mono ?_;rintro e w1 ⟨rfl,hb1⟩;have b3:=cell_later hb1 (a3 _);have AL:=hid hb1;have z1:=hb1.size;simp at z1;clear hb1)
  |(go_at_call_of 97 (Value.string q3);refine (((HP.out.alloc _).below AL.out).IJ q3 hl).mono ?_;rintro e w2 ⟨rfl,hb2⟩;have AP:=hid hb2;clear hb2))
 all_goals go_ret
 all_goals refine ⟨Ks ?_,(((Below.refl _ _).alloc (Nat.le_refl _) _).trans (AL.out.mono (by simp))).trans (AP.out.mono (by omega))⟩
 all_goals rw[←show kq.toList=_ from Ih.out]
 all_goals simp[Rf.wArray, *]
theorem qU (h:Ae w base P l vn vk vz vb) (hl:l.length≤1000) (g cap:Nat) (q0:ByteArray) (q1:ByteArray) (q2:ByteArray) (hc0:w.cell? ⟨g,0,none⟩=some (.string q0)) (hc1:w.cell? ⟨g,1,none⟩=some (.string q1)) (hc2:w.cell? ⟨g,2,none⟩=some (.string q2)) (Nv:(q0.toList==[111,117,116])=false) (hel:(q0.toList==[108,111,97,100])=false) (hes:(q0.toList==[115,116,111,114,101])=false):
  Calls Tryz.prog 62 #[.pointer (some ⟨P,0,none⟩),.slice (some ⟨g,0,none⟩) 3 cap] w fun e w'=>e=.returned (.bool (Rf.scalar (A7 l) q0.toList && q1.toList==[61] && Rf.atom (A7 l) q2.toList))∧Below w.heap.size w w':=by
 have HP:=hid h
 clear h
 have a0:=fun o=>AH hc0 o
 have a1:=fun o=>AH hc1 o
 have a2:=fun o=>AH hc2 o
 go_enter Tryz.func62,Tryz.ntmps62
 go_wp2_with (first
  |(go_at_call 98;refine ((HP.out.alloc _).Ru q0 hl).mono ?_;rintro e w0 ⟨rfl,rfl⟩)
  |(go_at_call_of 97 (Value.string q2);refine ((HP.out.alloc _).IJ q2 hl).mono ?_;rintro e w1 ⟨rfl,hb1⟩;have b1:=cell_later hb1 (a1 _);have AL:=hid hb1;have z1:=hb1.size;simp at z1;clear hb1))
 all_goals go_ret
 all_goals refine ⟨Ks ?_,((Below.refl _ _).alloc (Nat.le_refl _) _).trans (AL.out.mono (by simp))⟩
 all_goals simp[*]
theorem tF (h:Ae w base P l vn vk vz vb) (hl:l.length≤1000) (g cap:Nat) (q0:ByteArray) (q1:ByteArray) (q2:ByteArray) (q3:ByteArray) (q4:ByteArray) (hc0:w.cell? ⟨g,0,none⟩=some (.string q0)) (hc1:w.cell? ⟨g,1,none⟩=some (.string q1)) (hc2:w.cell? ⟨g,2,none⟩=some (.string q2)) (hc3:w.cell? ⟨g,3,none⟩=some (.string q3)) (NV:w.cell? ⟨g,4,none⟩=some (.string q4)) (Nv:(q0.toList==[111,117,116])=false) (hel:(q0.toList==[108,111,97,100])=false) (hes:(q0.toList==[115,116,111,114,101])=false):
  Calls Tryz.prog 62 #[.pointer (some ⟨P,0,none⟩),.slice (some ⟨g,0,none⟩) 5 cap] w fun e w'=>e=.returned (.bool ((Rf.scalar (A7 l) q0.toList && q1.toList==[61] && Rf.atom (A7 l) q2.toList) && ((Rf.oneOf q3.toList Rf.signs).isSome && Rf.atom (A7 l) q4.toList)))∧Below w.heap.size w w':=by
 have HP:=hid h
 clear h
 have a0:=fun o=>AH hc0 o
 have a1:=fun o=>AH hc1 o
 have a2:=fun o=>AH hc2 o
 have a3:=fun o=>AH hc3 o
 have a4:=fun o=>AH NV o
 go_enter Tryz.func62,Tryz.ntmps62
 go_wp2_with (first
  |(go_at_call 98;refine ((HP.out.alloc _).Ru q0 hl).mono ?_;rintro e w0 ⟨rfl,rfl⟩)
  |(go_at_call_of 97 (Value.string q2);refine ((HP.out.alloc _).IJ q2 hl).mono ?_;rintro e w1 ⟨rfl,hb1⟩;have b1:=cell_later hb1 (a1 _);have b3:=cell_later hb1 (a3 _);have b4:=cell_later hb1 (a4 _);have AL:=hid hb1;have z1:=hb1.size;simp at z1;clear hb1)
  |(go_at_call 59;refine (YO Pm w.heap.size 10 q3 _ (GQ (aaH w) AL.out) (by decide)).mono ?_;rintro e w0 ⟨rfl,rfl⟩)
  |(go_at_call_of 97 (Value.string q4);refine (((HP.out.alloc _).below AL.out).IJ q4 hl).mono ?_;rintro e w2 ⟨rfl,hb2⟩;have AP:=hid hb2;clear hb2))
 all_goals go_ret
 all_goals refine ⟨Ks ?_,(((Below.refl _ _).alloc (Nat.le_refl _) _).trans (AL.out.mono (by simp))).trans (AP.out.mono (by omega))⟩
 ·have hx:0≤Lk.Cm (Rf.oneOf q3.toList (List.map ByteArray.toList Pm)):=by assumption
  rw[iK] at hx
  simp[tC hx, *]
 ·have hx:Lk.Cm (Rf.oneOf q3.toList (List.map ByteArray.toList Pm))<0:=by assumption
  rw[iK] at hx
  simp[tD hx]
 all_goals simp[*]
end Ae
namespace Ae
variable {w:World} {base P:Nat} {l:List DB} {vn vk vz vb:Value}
theorem xL (h:Ae w base P l vn vk vz vb) (hl:l.length≤1000) (g cap:Nat) (ws:List ByteArray) (hw:CD w g ws) (h0:0<ws.length):
  Calls Tryz.prog 62 #[.pointer (some ⟨P,0,none⟩),.slice (some ⟨g,0,none⟩) ws.length cap] w fun e w'=>e=.returned (.bool (Rf.fits (A7 l) (ws.map ByteArray.toList)))∧Below w.heap.size w w':=by
 have hc:=fun i hi=>hw i hi
 have e0:=DT ws 0
 have e1:=DT ws 1
 have e2:=DT ws 2
 have e3:=DT ws 3
 have e4:=DT ws 4
 have hlm:(ws.map ByteArray.toList).length=ws.length:=by simp
 unfold Rf.fits
 rw[e0,e1,e2,e3,e4,hlm]
 cases ho:((ws.getD 0 ByteArray.empty).toList==[111,117,116]) with
 |true=>
  rw[if_pos (show _=Rf.wOut from eq_of_beq ho)]
  by_cases hn:ws.length=2
  ·rw[hn,decide_eq_true rfl,Bool.true_and]
   exact h.xK hl g cap _ _ (hc 0 h0) (hc 1 (by omega)) ho
  ·rw[decide_eq_false hn,Bool.false_and]
   exact h.pD hl g cap _ (hc 0 h0) ho _ (by simp;omega) (by omega)
 |false=>
  rw[if_neg (show ¬_=Rf.wOut from ne_of_beq_false ho)]
  cases hlo:((ws.getD 0 ByteArray.empty).toList==[108,111,97,100]) with
  |true=>
   rw[if_pos (show _=Rf.wLoad from eq_of_beq hlo)]
   by_cases hn:ws.length=4
   ·rw[hn,decide_eq_true rfl,Bool.true_and]
    exact h.tE hl g cap _ _ _ _ (hc 0 h0) (hc 1 (by omega)) (hc 2 (by omega)) (hc 3 (by omega)) ho hlo
   ·rw[decide_eq_false hn,Bool.false_and]
    exact h.oG hl g cap _ (hc 0 h0) ho hlo _ (by simp;omega) (by omega)
  |false=>
   rw[if_neg (show ¬_=Rf.wLoad from ne_of_beq_false hlo)]
   cases hst:((ws.getD 0 ByteArray.empty).toList==[115,116,111,114,101]) with
   |true=>
    rw[if_pos (show _=Rf.wStore from eq_of_beq hst)]
    by_cases hn:ws.length=4
    ·rw[hn,decide_eq_true rfl,Bool.true_and]
     exact h.qT hl g cap _ _ _ _ (hc 0 h0) (hc 1 (by omega)) (hc 2 (by omega)) (hc 3 (by omega)) ho hlo hst
    ·rw[decide_eq_false hn,Bool.false_and]
     exact h.ni hl g cap _ (hc 0 h0) ho hlo hst _ (by simp;omega) (by omega)
   |false=>
    rw[if_neg (show ¬_=Rf.wStore from ne_of_beq_false hst)]
    by_cases h3:ws.length=3
    ·rw[if_pos h3,h3]
     exact h.qU hl g cap _ _ _ (hc 0 h0) (hc 1 (by omega)) (hc 2 (by omega)) ho hlo hst
    ·rw[if_neg h3]
     by_cases h5:ws.length=5
     ·rw[if_pos h5,h5]
      exact h.tF hl g cap _ _ _ _ _ (hc 0 h0) (hc 1 (by omega)) (hc 2 (by omega)) (hc 3 (by omega)) (hc 4 (by omega)) ho hlo hst
     ·rw[if_neg h5]
      exact h.qR hl g cap _ (hc 0 h0) ho hlo hst _ (by simp;omega) (by simp;omega) (by omega)
end Ae
structure ZO (w w':World) (base P:Nat) (l:List DB) (vn vk vz vb:Value) (o:Option (List Rf.Dc)):Prop where
 no:o=none→Below w.heap.size w w'
 yes: ∀ ds,o=some ds→ ∃ l' DZ D_ Da,ds=A7 l'∧l'.length=l.length+1∧Ae w' base P l' DZ D_ Da vb∧Nw w vn DZ∧Nw w vk D_∧Nw w vz Da∧
  A9 base (fun k=>k=P∨vn.ownBlock=some k∨vk.ownBlock=some k∨vz.ownBlock=some k) w w'
theorem M3 {w w':World} {base P:Nat} {l:List DB} {vn vk vz vb:Value} {o:Option (List Rf.Dc)} {e:Ending} (ho:o=none) (h:e=.returned (.bool false)∧Below w.heap.size w w'):e=.returned (.bool o.isSome)∧ZO w w' base P l vn vk vz vb o:=
 ⟨by rw[ho];exact h.1,⟨fun _=>h.2,fun ds e=>by rw[ho] at e;cases e⟩⟩
theorem Yt {w w':World} {base P:Nat} {l:List DB} {vn vk vz vb:Value} {o:Option (List Rf.Dc)} {e:Ending} {d:DB} (ho:o=some (A7 (l++[d])))
  (h:e=.returned (.bool true)∧(∃ DZ D_ Da,Ae w' base P (l++[d]) DZ D_ Da vb∧Nw w vn DZ∧Nw w vk D_∧Nw w vz Da)∧A9 base (fun k=>k=P∨vn.ownBlock=some k∨vk.ownBlock=some k∨vz.ownBlock=some k) w w'):
  e=.returned (.bool o.isSome)∧ZO w w' base P l vn vk vz vb o:=by
 obtain ⟨rfl,⟨DZ,D_,Da,h1,h2,h3,h4⟩,h5⟩:=h
 exact ⟨by rw[ho];rfl,⟨(fun e=>by rw[ho] at e;cases e),fun ds e=>by rw[ho] at e;cases e;exact ⟨_,DZ,D_,Da,rfl,by simp,h1,h2,h3,h4,h5⟩⟩⟩
theorem dK {w:World} {base P R:Nat} {l:List DB} {vn vk vz vb:Value} (h:Ae w base P l vn vk vz vb) (hl:l.length≤1000) (g cap:Nat) (ws:List ByteArray) (hw:CD w g ws) (h0:0<ws.length) (AA:Bool)
  (hp:w.cell? ⟨R,0,none⟩=some (.pointer (some ⟨P,0,none⟩))) (hb:w.cell? ⟨R,4,none⟩=some (.bool AA)) (KZ:vn.ownBlock≠some g) (Ba:vk.ownBlock≠some g) (Mg:g≠P):
  Calls Tryz.prog 60 #[.pointer (some ⟨R,0,none⟩),.slice (some ⟨g,0,none⟩) ws.length cap] w fun e w'=>
   e=.returned (.bool (Rf.declare (A7 l) AA (ws.map ByteArray.toList)).isSome)∧ZO w w' base P l vn vk vz vb (Rf.declare (A7 l) AA (ws.map ByteArray.toList)):=by
 have hc0:=hw 0 h0
 have e0:=DT ws 0
 have e1:=DT ws 1
 have e2:=DT ws 2
 have hlm:(ws.map ByteArray.toList).length=ws.length:=by simp
 obtain ⟨O,hO⟩: ∃ O,Rf.declare (A7 l) AA (ws.map ByteArray.toList)=O:=⟨_,rfl⟩
 rw[hO]
 unfold Rf.declare at hO
 rw[e0,e1,e2,hlm] at hO
 cases AA with
 |true=>
  rw[if_neg (by simp)] at hO
  refine (sj h hl g cap _ ByteArray.empty hc0 hp hb ws.length (by omega)).mono ?_
  intro e w' hh
  exact M3 hO.symm hh
 |false=>
  by_cases hlen:ws.length=if (ws.getD 0 ByteArray.empty).toList=Rf.wArray then 3 else 2
  ·have h2:1<ws.length:=by rw[hlen];split <;> omega
   have hc1:=hw 1 h2
   cases hn:Lk.isName (ws.getD 1 ByteArray.empty).toList with
   |false=>
    rw[if_neg (fun c=>by rw[hn] at c;simp at c)] at hO
    refine (decl_name h hl g cap _ _ hc0 hp hb hc1 ws.length (by omega) (by omega) hlen hn).mono ?_
    intro e w' hh
    exact M3 hO.symm hh
   |true=>
    cases ha:((ws.getD 0 ByteArray.empty).toList==[97,114,114,97,121]) with
    |true=>
     have Po:(ws.getD 0 ByteArray.empty).toList=Rf.wArray:=eq_of_beq ha
     rw[if_pos Po] at hlen
     rw[hlen]
     by_cases hk:Rf.kindOf (A7 l) (ws.getD 1 ByteArray.empty).toList=[]
     ·rw[if_pos ⟨rfl,by rw[if_pos Po];exact hlen,hn,hk⟩,if_pos Po] at hO
      have BH:(Rf.kindOf (A7 l) (ws.getD 1 ByteArray.empty).toList).isEmpty=true:=by rw[hk];rfl
      have hc2:=hw 2 (by omega)
      cases hz:Lk.num? (ws.getD 2 ByteArray.empty).toList with
      |none=>
       rw[hz] at hO
       refine (dw h hl g cap _ _ hc0 hc1 hp hb hn ha BH _ hc2 (-1) (YI hz) (.inl (by omega))).mono ?_
       intro e w' hh
       exact M3 hO.symm hh
      |some n=>
       rw[hz] at hO
       by_cases hok:1≤n∧n≤4∧Rf.many (A7 l) Rf.wArray<2
       ·dsimp only at hO
        rw[if_pos hok] at hO
        refine (xJ h hl g cap _ _ hc0 hc1 hp hb KZ Ba Mg hn ha BH _ hc2 n hz hok).mono ?_
        intro e w' hh
        exact Yt (by rw[←hO];simp[A7,DB.dc]) hh
       ·dsimp only at hO
        rw[if_neg hok] at hO
        refine (dw h hl g cap _ _ hc0 hc1 hp hb hn ha BH _ hc2 n (VJ hz) (by omega)).mono ?_
        intro e w' hh
        exact M3 hO.symm hh
     ·rw[if_neg (fun c=>hk c.2.2.2)] at hO
      have BH:(Rf.kindOf (A7 l) (ws.getD 1 ByteArray.empty).toList).isEmpty=false:=by
       cases hq:Rf.kindOf (A7 l) (ws.getD 1 ByteArray.empty).toList with
       |nil=>exact absurd hq hk
       |cons _ _=>rfl
      refine (pA h hl g cap _ _ hc0 hc1 hp hb hn ha BH).mono ?_
      intro e w' hh
      exact M3 hO.symm hh
    |false=>
     have Po: ¬(ws.getD 0 ByteArray.empty).toList=Rf.wArray:=ne_of_beq_false ha
     rw[if_neg Po] at hlen
     rw[hlen]
     by_cases hk:Rf.kindOf (A7 l) (ws.getD 1 ByteArray.empty).toList=[]
     ·rw[if_pos ⟨rfl,by rw[if_neg Po];exact hlen,hn,hk⟩,if_neg Po] at hO
      have BH:(Rf.kindOf (A7 l) (ws.getD 1 ByteArray.empty).toList).isEmpty=true:=by rw[hk];rfl
      cases hv:((ws.getD 0 ByteArray.empty).toList==[118,97,114]) with
      |true=>
       rw[if_pos (show _=Rf.wVar from eq_of_beq hv)] at hO
       by_cases hok:Rf.many (A7 l) Rf.wVar<4
       ·rw[if_pos hok] at hO
        refine (xI h hl g cap _ _ hc0 hc1 hp hb KZ Ba Mg hn ha hv BH hok).mono ?_
        intro e w' hh
        exact Yt (by rw[←hO];simp[A7,DB.dc]) hh
       ·rw[if_neg hok] at hO
        refine (pC h hl g cap _ _ hc0 hc1 hp hb hn ha hv BH (by omega)).mono ?_
        intro e w' hh
        exact M3 hO.symm hh
      |false=>
       rw[if_neg (show ¬_=Rf.wVar from ne_of_beq_false hv)] at hO
       by_cases hok:Rf.many (A7 l) Rf.wVar=0∧Rf.many (A7 l) Rf.wSecret+Rf.many (A7 l) Rf.wPublic<3
       ·rw[if_pos hok] at hO
        refine (aaF h hl g cap _ _ hc0 hc1 hp hb KZ Ba Mg hn ha hv BH hok).mono ?_
        intro e w' hh
        exact Yt (by rw[←hO];simp[A7,DB.dc]) hh
       ·rw[if_neg hok] at hO
        refine (qQ h hl g cap _ _ hc0 hc1 hp hb hn ha hv BH (by omega)).mono ?_
        intro e w' hh
        exact M3 hO.symm hh
     ·rw[if_neg (fun c=>hk c.2.2.2)] at hO
      have BH:(Rf.kindOf (A7 l) (ws.getD 1 ByteArray.empty).toList).isEmpty=false:=by
       cases hq:Rf.kindOf (A7 l) (ws.getD 1 ByteArray.empty).toList with
       |nil=>exact absurd hq hk
       |cons _ _=>rfl
      refine (pB h hl g cap _ _ hc0 hc1 hp hb hn ha BH).mono ?_
      intro e w' hh
      exact M3 hO.symm hh
  ·rw[if_neg (fun c=>hlen c.2.1)] at hO
   refine (xH h hl g cap _ ByteArray.empty hc0 hp hb ws.length (by omega) hlen).mono ?_
   intro e w' hh
   exact M3 hO.symm hh
end Go.Proofs.YtgddmpmcnjlcjaaGreatDoor
