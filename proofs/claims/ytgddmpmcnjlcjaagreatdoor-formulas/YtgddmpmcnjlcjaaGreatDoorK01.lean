import Derived.Test.YtgddmpmcnjlcjaaGreatDoorB02
import Derived.Test.YtgddmpmcnjlcjaaGreatDoorB07
import Derived.Test.YtgddmpmcnjlcjaaGreatDoorB10
import Derived.Deep.QuietTactic
import Derived.BigQuiet
import Derived.Deep.LoopGhost
import Derived.Test.YtgddmpmcnjlcjaaGreatDoorB01
import Derived.Lib.ItoaMem
import Derived.Test.YtgddmpmcnjlcjaaGreatDoorB32
import Derived.Test.YtgddmpmcnjlcjaaGreatDoorB09
import Derived.Deep.DeepCutAuto
import Derived.Test.YtgddmpmcnjlcjaaGreatDoorB16
set_option maxRecDepth 100000
set_option maxHeartbeats 4000000
namespace Go.Proofs.YtgddmpmcnjlcjaaGreatDoor
open Go.RowKit
set_option linter.unusedVariables false
theorem slice_inj {a b:Option Addr} {n m c d:Nat} (h:Value.slice a n c=.slice b m d):a=b∧n=m∧c=d:=by
 cases h
 exact ⟨rfl,rfl,rfl⟩
structure BB (w:World) (v:Value) (xs:List Int):Prop where
 val: ∃ a c,v=.slice a xs.length c
 at_: ∀ j,j<xs.length→ ∃ g off c,v=.slice (some ⟨g,off,none⟩) xs.length c∧w.cell? ⟨g,off+j,none⟩=some (.int .i64 (xs.getD j 0))
def ints (l:List Nat):List Int:=l.map fun (n:Nat)=>(n:Int)
theorem Il (l:List Nat):(ints l).length=l.length:=by simp[ints]
theorem ints_at (l:List Nat) (j:Nat):(ints l).getD j 0=((l.getD j 0:Nat):Int):=by
 induction l generalizing j with
 |nil=>cases j <;> rfl
 |cons x l ih=>
  cases j with
  |zero=>rfl
  |succ j=>exact ih j
theorem BB.later {w w':World} {v:Value} {xs:List Int} (h:BB w v xs) (hb: ∀ k,k<w.heap.size→w'.heap[k]? =w.heap[k]?):BB w' v xs:=
 ⟨h.val,fun j hj=>by
   obtain ⟨g,off,c,h1,h2⟩:=h.at_ j hj
   exact ⟨g,off,c,h1,(World.cell?_of_block (hb g (World.block_lt_of_cell? w _ h2))).trans h2⟩⟩
theorem BB.Od {w:World} {base:Nat} {v:Value} {xs:List Int} (h:w.ownsRow base 3 1 v xs.length (xs.map fun x=>.int .i64 x)):BB w v xs:=
 ⟨AX h,fun j hj=>by
   rcases h.2 with ⟨_,c⟩|⟨g,c,cur,hv,_⟩
   ·omega
   ·refine ⟨g,0,c,hv,?_⟩
    subst hv
    rw[Nat.zero_add,h.cellAt j (by omega)]
    simp[hj]⟩
theorem BB.cell {w:World} {a:Option Addr} {n c:Nat} {xs:List Int} (h:BB w (.slice a n c) xs) {j:Nat} (hj:j<xs.length): ∃ g off,a=some ⟨g,off,none⟩∧w.cell? ⟨g,off+j,none⟩=some (.int .i64 (xs.getD j 0)):=by
 obtain ⟨g,off,c',h1,h2⟩:=h.at_ j hj
 exact ⟨g,off,(slice_inj h1).1,h2⟩
theorem BB.len {w:World} {a:Option Addr} {n c:Nat} {xs:List Int} (h:BB w (.slice a n c) xs):n=xs.length:=by
 obtain ⟨a',c',e⟩:=h.val
 exact (slice_inj e).2.1
theorem BB.below {w w':World} {v:Value} {xs:List Int} (h:BB w v xs) (hb:Below w.heap.size w w'):BB w' v xs:=h.later hb.block
namespace Cl
def hold (V:Nat→Int) (l:Int):Int:=if l<0 then -V l.natAbs else V l.natAbs
theorem Yv (V:Nat→Int) (v:Nat):hold V (v:Int)=V v:=by unfold hold;rw[if_neg (by omega)];rfl
theorem Yw (V:Nat→Int) {v:Nat} (h:0<v):hold V (-(v:Int))= -V v:=by unfold hold;rw[if_pos (by omega)];simp
def EA (V:Nat→Int):Int→List Int→Int×Int
 |op,[]=>if op=0 then (0,0) else (1,op)
 |op,l::c=>if 0<hold V l then (2,0) else if hold V l=0 then (if op≠0∧op≠l then (2,0) else EA V l c) else EA V op c
def Two (V:Nat→Int) (c:List Int):Prop:=(∃ l∈c,0<hold V l)∨ ∃ l l',l∈c∧l'∈c∧l≠l'∧hold V l=0∧hold V l'=0
theorem Yx {V:Nat→Int}: ∀ (c:List Int) (op:Int),(EA V op c).1=2→(∃ l∈c,0<hold V l)∨(∃ l∈c,op≠0∧op≠l∧hold V l=0)∨ ∃ l l',l∈c∧l'∈c∧l≠l'∧hold V l=0∧hold V l'=0
 |[],op,h=>by
  unfold EA at h
  split at h
  ·exact absurd h (by decide)
  ·exact absurd h (by show ¬((1:Int)=2);decide)
 |l::c,op,h=>by
  unfold EA at h
  by_cases h1:0<hold V l
  ·exact .inl ⟨l,by simp,h1⟩
  ·rw[if_neg h1] at h
   by_cases h2:hold V l=0
   ·rw[if_pos h2] at h
    by_cases h3:op≠0∧op≠l
    ·exact .inr (.inl ⟨l,by simp,h3.1,h3.2,h2⟩)
    ·rw[if_neg h3] at h
     rcases Yx c l h with ⟨k,hk,e⟩|⟨k,hk,_,e1,e2⟩|⟨k,k',hk,hk',e⟩
     ·exact .inl ⟨k,by simp[hk],e⟩
     ·exact .inr (.inr ⟨l,k,by simp,by simp[hk],e1,h2,e2⟩)
     ·exact .inr (.inr ⟨k,k',by simp[hk],by simp[hk'],e⟩)
   ·rw[if_neg h2] at h
    rcases Yx c op h with ⟨k,hk,e⟩|⟨k,hk,e⟩|⟨k,k',hk,hk',e⟩
    ·exact .inl ⟨k,by simp[hk],e⟩
    ·exact .inr (.inl ⟨k,by simp[hk],e⟩)
    ·exact .inr (.inr ⟨k,k',by simp[hk],by simp[hk'],e⟩)
theorem aaO {V:Nat→Int} {c:List Int} (h:(EA V 0 c).1=2):Two V c:=by
 rcases Yx c 0 h with a|⟨_,_,b,_⟩|a
 ·exact .inl a
 ·exact absurd rfl b
 ·exact .inr a
theorem VG {V:Nat→Int}: ∀ (c:List Int) (op:Int),(∀ l∈c,l≠0)→(EA V op c=(2,0))∨(EA V op c=(0,0)∧op=0∧ ∀ l∈c,hold V l<0)∨(∃ k,EA V op c=(1,k)∧k≠0∧(op≠0→k=op)∧((k∈c∧hold V k=0)∨k=op)∧ ∀ l∈c,l=k∨hold V l<0)
 |[],op,_=>by
  unfold EA
  by_cases h:op=0
  ·rw[if_pos h];exact .inr (.inl ⟨rfl,h,fun l hl=>by cases hl⟩)
  ·rw[if_neg h];exact .inr (.inr ⟨op,rfl,h,fun _=>rfl,.inr rfl,fun l hl=>by cases hl⟩)
 |l::c,op,hz=>by
  have hz': ∀ k∈c,k≠0:=fun k hk=>hz k (by simp[hk])
  unfold EA
  by_cases h1:0<hold V l
  ·rw[if_pos h1];exact .inl rfl
  ·rw[if_neg h1]
   by_cases h2:hold V l=0
   ·rw[if_pos h2]
    by_cases h3:op≠0∧op≠l
    ·rw[if_pos h3];exact .inl rfl
    ·rw[if_neg h3]
     have hol:op=0∨op=l:=by
      by_cases c0:op=0
      ·exact .inl c0
      ·exact .inr (Classical.byContradiction fun c1=>h3 ⟨c0,c1⟩)
     rcases VG c l hz' with e|⟨_,e0,_⟩|⟨k,e,k0,ko,_,ka⟩
     ·exact .inl e
     ·exact absurd e0 (hz l (by simp))
     ·have hkl:=ko (hz l (by simp))
      subst hkl
      refine .inr (.inr ⟨k,e,k0,fun c0=>?_,.inl ⟨by simp,h2⟩,fun j hj=>?_⟩)
      ·rcases hol with d|d
       ·exact absurd d c0
       ·exact d.symm
      ·rcases List.mem_cons.1 hj with d|d
       ·exact .inl d
       ·exact ka j d
   ·rw[if_neg h2]
    have hn:hold V l<0:=by omega
    rcases VG c op hz' with e|⟨e,e0,ha⟩|⟨k,e,k0,ko,kc,ka⟩
    ·exact .inl e
    ·refine .inr (.inl ⟨e,e0,fun j hj=>?_⟩)
     rcases List.mem_cons.1 hj with d|d
     ·rw[d];exact hn
     ·exact ha j d
    ·refine .inr (.inr ⟨k,e,k0,ko,?_,fun j hj=>?_⟩)
     ·rcases kc with ⟨d1,d2⟩|d
      ·exact .inl ⟨by simp[d1],d2⟩
      ·exact .inr d
     ·rcases List.mem_cons.1 hj with d|d
      ·rw[d];exact .inr hn
      ·exact ka j d
def Tr (S:Nat→Bool→Prop) (l:Int):Prop:=if l<0 then S l.natAbs false else S l.natAbs true
theorem Q_ {S:Nat→Bool→Prop} {v:Nat}:Tr S (v:Int)↔S v true:=by unfold Tr;rw[if_neg (by omega)];exact Iff.rfl
theorem Qa {S:Nat→Bool→Prop} {v:Nat} (h:0<v):Tr S (-(v:Int))↔S v false:=by unfold Tr;rw[if_pos (by omega)];simp
theorem ac9 {S:Nat→Bool→Prop} (fn: ∀ v t u,S v t→S v u→t=u) {l:Int} (h0:l≠0) (h:Tr S l) (g:Tr S (-l)):False:=by
 unfold Tr at h g
 rw[show (-l).natAbs=l.natAbs by omega] at g
 by_cases c:l<0
 ·rw[if_pos c] at h;rw[if_neg (by omega)] at g
  exact absurd (fn _ _ _ h g) (by decide)
 ·rw[if_neg c] at h;rw[if_pos (by omega)] at g
  exact absurd (fn _ _ _ h g) (by decide)
def IX (V:Nat→Int) (l:Int):Nat→Int:=fun j=>if j=l.natAbs then (if l<0 then -1 else 1) else V j
theorem Yy (V:Nat→Int) {l:Int} {v:Nat} (h:l.natAbs=v):IX V l v=if l<0 then -1 else 1:=if_pos h.symm
theorem YQ (V:Nat→Int) {l:Int} {v:Nat} (h:v≠l.natAbs):IX V l v=V v:=if_neg h
def bn (all:List (List Int)):(Nat→Int)→List Int→Bool
 |_,[]=>false
 |V,h::hs=>if 1≤h∧h<all.length then (if (EA V 0 (all.getD h.toNat [])).1=0 then true else if (EA V 0 (all.getD h.toNat [])).1=2 then false else bn all (IX V (EA V 0 (all.getD h.toNat [])).2) hs) else false
def bp (V:Nat→Int):List Int→(Nat→Int)
 |[]=>V
 |l::ls=>bp (IX V (-l)) ls
def aM (V:Nat→Int):List Int→Prop
 |[]=>True
 |l::ls=>hold V l≤0∧aM (IX V (-l)) ls
end Cl
structure FI (w:World) (g n:Nat) (V:Nat→Int):Prop where
 row:w.rowIs g 3 (n+1) (fun i=>.int .i64 (V i))
 Lh: ∀ j,V j=0∨V j=1∨V j= -1
theorem FI.cell {w:World} {g n:Nat} {V:Nat→Int} (h:FI w g n V) {i:Nat} (hi:i≤n):w.cell? ⟨g,i,none⟩=some (.int .i64 (V i)):=h.row.cell (i:=i) (by omega)
theorem fy (g n c:Nat) (V:Nat→Int) (l:Int) (w:World) (hv:FI w g n V) (hl:l.natAbs≤n) (hn:n≤100000000):
  Calls Tryz.prog 93 #[.slice (some ⟨g,0,none⟩) (n+1) c,.int .i64 l] w fun e w'=>e=.returned (.int .i64 (Cl.hold V l))∧Below w.heap.size w w':=by
 have hc:=hv.cell hl
 have ht:=hv.Lh l.natAbs
 clear hv
 unfold Cl.hold
 generalize V l.natAbs=x at hc ht
 by_cases h:l<0
 ·rw[if_pos h]
  obtain ⟨m,rfl⟩: ∃ m:Nat,l= -(m:Int):=⟨l.natAbs,by omega⟩
  rw[show (-(m:Int)).natAbs=m by omega] at hc hl
  go_enter Tryz.func93,Tryz.ntmps93
  go_wp2_with fail
  go_ret
  exact ⟨rfl,Below.refl _ _⟩
 ·rw[if_neg h]
  obtain ⟨m,rfl⟩: ∃ m:Nat,l=(m:Int):=⟨l.natAbs,by omega⟩
  rw[show ((m:Int)).natAbs=m by omega] at hc hl
  go_enter Tryz.func93,Tryz.ntmps93
  go_wp2_with fail
  go_ret
  exact ⟨rfl,Below.refl _ _⟩
theorem FI.put {w:World} {g n:Nat} {V:Nat→Int} (h:FI w g n V) (l:Int):FI (w.setCell ⟨g,l.natAbs,none⟩ (.int .i64 (if l<0 then -1 else 1))) g n (Cl.IX V l):=by
 refine ⟨(h.row.set l.natAbs _).congr fun i hi=>?_,fun j=>?_⟩
 ·unfold Cl.IX
  by_cases c:i=l.natAbs
  ·rw[if_pos c,if_pos c]
  ·rw[if_neg c,if_neg c]
 ·unfold Cl.IX
  by_cases c:j=l.natAbs
  ·rw[if_pos c];split
   ·exact .inr (.inr rfl)
   ·exact .inr (.inl rfl)
  ·rw[if_neg c];exact h.Lh j
theorem ji (g n c:Nat) (V:Nat→Int) (l:Int) (w:World) (hv:FI w g n V) (hl:l.natAbs≤n) (hn:n≤100000000):
  Calls Tryz.prog 92 #[.slice (some ⟨g,0,none⟩) (n+1) c,.int .i64 l] w fun e w'=>e=.returned (.tuple #[])∧w'=w.setCell ⟨g,l.natAbs,none⟩ (.int .i64 (if l<0 then -1 else 1)):=by
 have hc:=hv.cell hl
 have hf:=hv.row.frozen l.natAbs
 clear hv
 generalize V l.natAbs=x at hc
 by_cases h:l<0
 ·rw[if_pos h]
  obtain ⟨m,rfl⟩: ∃ m:Nat,l= -(m:Int):=⟨l.natAbs,by omega⟩
  rw[show (-(m:Int)).natAbs=m by omega] at hc hl hf ⊢
  go_enter Tryz.func92,Tryz.ntmps92
  go_wp2_with fail
  go_end0
  exact ⟨rfl,rfl⟩
 ·rw[if_neg h]
  obtain ⟨m,rfl⟩: ∃ m:Nat,l=(m:Int):=⟨l.natAbs,by omega⟩
  rw[show ((m:Int)).natAbs=m by omega] at hc hl hf ⊢
  go_enter Tryz.func92,Tryz.ntmps92
  go_wp2_with fail
  go_end0
  exact ⟨rfl,rfl⟩
theorem FI.later {w w':World} {g n:Nat} {V:Nat→Int} (h:FI w g n V) (hb:Below w.heap.size w w'):FI w' g n V:=⟨h.row.of_block (hb.block g h.row.lt),h.Lh⟩
theorem xZ (c:List Int) {i:Nat} (h:i<c.length):c.drop i=c.getD i 0::c.drop (i+1):=by
 rw[List.drop_eq_getElem_cons h,List.getD_eq_getElem?_getD,List.getElem?_eq_getElem h];rfl
theorem QO {c:List Int} {i:Nat} (h:i<c.length):c.getD i 0∈c:=by
 rw[List.getD_eq_getElem?_getD,List.getElem?_eq_getElem h];exact List.getElem_mem h
theorem iP {V:Nat→Int} (h: ∀ j,V j=0∨V j=1∨V j= -1) (l:Int):Cl.hold V l=0∨Cl.hold V l=1∨Cl.hold V l= -1:=by
 unfold Cl.hold
 have:=h l.natAbs
 split <;> omega
theorem jk (cl:List Int) (vc:Value) (g n c:Nat) (V:Nat→Int) (w:World) (hc:BB w vc cl) (hv:FI w g n V) (hz: ∀ l∈cl,l≠0∧l.natAbs≤n) (hl:cl.length≤1000000) (hn:n≤100000000):
  Calls Tryz.prog 57 #[vc,.slice (some ⟨g,0,none⟩) (n+1) c] w fun e w'=>e=.returned (.tuple #[.int .i64 (Cl.EA V 0 cl).1,.int .i64 (Cl.EA V 0 cl).2])∧Below w.heap.size w w':=by
 obtain ⟨a,ca,rfl⟩:=hc.val
 have HC:=hid hc
 have HV:=hid hv
 have hz':=hid hz
 have DL:(cl.length:Int)≤1000000:=by omega
 clear hc hv hz
 obtain ⟨R1,R2,hR⟩: ∃ a b,Cl.EA V 0 cl=(a,b):=⟨_,_,rfl⟩
 rw[hR]
 go_enter Tryz.func57,Tryz.ntmps57
 go_wp2_with fail
 go_loopg [6,7,8] cl.length (fun gk ov iv hv wr=> ∃ (i:Nat) (op:Int),i≤cl.length∧cl.length≤i+gk∧iv=.int .i64 i∧ov=.int .i64 op∧Cl.EA V op (cl.drop i)=(R1,R2)∧Below w.heap.size w wr)
 case atStart=>exact ⟨0,0,Nat.zero_le _,by omega,rfl,rfl,hR,Below.refl _ _⟩
 case round=>
  obtain ⟨i,op,hi,hg,rfl,rfl,ho,AB⟩:=hrel
  have AV:=hid AB
  have zb:=AB.size
  by_cases hlt:i<cl.length
  ·obtain ⟨gc,oc,rfl,hcell⟩:=HC.out.cell hlt
   have hc1:=cell_later AB hcell
   have hm:=hz'.out _ (QO hlt)
   rw[xZ cl hlt] at ho
   unfold Cl.EA at ho
   have HH:=hid (fun (W:World) (hb:Below w.heap.size w W)=>fy g n c V (cl.getD i 0) W (HV.out.later hb) hm.2 hn)
   obtain ⟨l,hle⟩: ∃ l,cl.getD i 0=l:=⟨_,rfl⟩
   rw[hle] at hc1 hm ho HH
   have ht:=iP HV.out.Lh l
   generalize Cl.hold V l=h at ht ho HH
   clear hcell hle AB
   have arm:True:=trivial
   rcases ht with rfl|rfl|rfl
   ·rw[if_neg (by decide),if_pos rfl] at ho
    by_cases h3:op≠0∧op≠l
    ·rw[if_pos h3] at ho
     have h3a:(op !=0)=true:=by simpa using h3.1
     have h3b:(op !=l)=true:=by simpa using h3.2
     have e1:=congrArg Prod.fst ho
     have e2:=congrArg Prod.snd ho
     simp only at e1 e2
     subst e1 e2
     clear h3 ho
     go_wp2_with (first|(go_at_call 93;refine (HH.out _ AV.out).mono ?_;rintro e w1 ⟨rfl,hb1⟩;have hc2:=cell_later hb1 hc1;have AL:=hid (AV.out.trans (hb1.mono zb));clear hb1))
     refine bodyPost_ret (v:=.tuple #[.int .i64 2,.int .i64 0]) (by simp[results,Tryz.results57,go_sem]) rfl ⟨rfl,AL.out⟩
    ·rw[if_neg h3] at ho
     have HO:=hid ho
     clear ho
     by_cases h0:op=0
     ·have h3a:(op !=0)=false:=by simpa using h0
      clear h3
      go_wp2_with (first|(go_at_call 93;refine (HH.out _ AV.out).mono ?_;rintro e w1 ⟨rfl,hb1⟩;have hc2:=cell_later hb1 hc1;have AL:=hid (AV.out.trans (hb1.mono zb));clear hb1))
      go_roundg (gk - 1)
      case measure=>omega
      case rel=>exact ⟨i+1,l,by omega,by omega,by go_num,rfl,HO.out,AL.out⟩
     ·have h1:op=l:=Classical.byContradiction fun q=>h3 ⟨h0,q⟩
      have h3a:(op !=0)=true:=by simpa using h0
      have h3b:(op !=l)=false:=by simpa using h1
      clear h3 h0
      go_wp2_with (first|(go_at_call 93;refine (HH.out _ AV.out).mono ?_;rintro e w1 ⟨rfl,hb1⟩;have hc2:=cell_later hb1 hc1;have AL:=hid (AV.out.trans (hb1.mono zb));clear hb1))
      go_roundg (gk - 1)
      case measure=>omega
      case rel=>exact ⟨i+1,l,by omega,by omega,by go_num,rfl,HO.out,AL.out⟩
   ·rw[if_pos (by decide)] at ho
    have e1:=congrArg Prod.fst ho
    have e2:=congrArg Prod.snd ho
    simp only at e1 e2
    subst e1 e2
    clear ho
    go_wp2_with (first|(go_at_call 93;refine (HH.out _ AV.out).mono ?_;rintro e w1 ⟨rfl,hb1⟩;have AL:=hid (AV.out.trans (hb1.mono zb));clear hb1))
    refine bodyPost_ret (v:=.tuple #[.int .i64 2,.int .i64 0]) (by simp[results,Tryz.results57,go_sem]) rfl ⟨rfl,AL.out⟩
   ·rw[if_neg (by decide),if_neg (by decide)] at ho
    have HO:=hid ho
    clear ho
    go_wp2_with (first|(go_at_call 93;refine (HH.out _ AV.out).mono ?_;rintro e w1 ⟨rfl,hb1⟩;have AL:=hid (AV.out.trans (hb1.mono zb));clear hb1))
    go_roundg (gk - 1)
    case measure=>omega
    case rel=>exact ⟨i+1,op,by omega,by omega,by go_num,rfl,HO.out,AL.out⟩
  ·rw[List.drop_of_length_le (by omega)] at ho
   unfold Cl.EA at ho
   clear AB
   by_cases h0:op=0
   ·rw[if_pos h0] at ho
    have h0b:(op==0)=true:=by simpa using h0
    have e1:=congrArg Prod.fst ho
    have e2:=congrArg Prod.snd ho
    simp only at e1 e2
    subst e1 e2
    clear ho
    go_wp2_with fail
    refine bodyPost_ret (v:=.tuple #[.int .i64 0,.int .i64 0]) (by simp[results,Tryz.results57,go_sem]) rfl ⟨rfl,AV.out⟩
   ·rw[if_neg h0] at ho
    have h0b:(op==0)=false:=by simpa using h0
    have e1:=congrArg Prod.fst ho
    have e2:=congrArg Prod.snd ho
    simp only at e1 e2
    subst e1 e2
    clear ho
    go_wp2_with fail
    refine bodyPost_ret (v:=.tuple #[.int .i64 1,.int .i64 op]) (by simp[results,Tryz.results57,go_sem]) rfl ⟨rfl,AV.out⟩
open Go.Lib (itoa decDigits nDigits)
namespace Nz
abbrev Wd:=List UInt8
def Uh (x:UInt8):Prop:=48≤x.toNat∧x.toNat≤57
def val (n:Nat) (t:Wd):Nat:=t.foldl (fun n x=>10*n+(x.toNat - 48)) n
theorem SA {d:Nat} (h:d<10):(UInt8.ofNat (48+d)).toNat=48+d:=by rw[UInt8.toNat_ofNat'];omega
theorem SU (u:Nat): ∀ x∈decDigits u,Uh x:=by
 induction u using Nat.strongRecOn with
 |ind u ih=>
  rw[decDigits]
  split
  ·next h=>intro x hx;rw[List.mem_singleton.1 hx];unfold Uh;rw[SA h];omega
  ·next h=>
   intro x hx
   rcases List.mem_append.1 hx with hx|hx
   ·exact ih (u/10) (by omega) x hx
   ·rw[List.mem_singleton.1 hx];unfold Uh;rw[SA (Nat.mod_lt _ (by omega))];have:=Nat.mod_lt u (show 0<10 by omega);omega
theorem W9 (u:Nat):val 0 (decDigits u)=u:=by
 induction u using Nat.strongRecOn with
 |ind u ih=>
  rw[decDigits]
  split
  ·next h=>show 10*0+((UInt8.ofNat (48+u)).toNat - 48)=u;rw[SA h];omega
  ·next h=>
   have:=ih (u/10) (by omega)
   unfold val at this ⊢
   rw[List.foldl_append,this]
   show 10*(u/10)+((UInt8.ofNat (48+u%10)).toNat - 48)=u
   rw[SA (Nat.mod_lt _ (by omega))]
   omega
theorem WA {u:Nat} (h:u<100000000):1≤(decDigits u).length∧(decDigits u).length≤8:=by
 rw[Lib.decDigits_length]
 refine ⟨Lib.nDigits_pos u,?_⟩
 have key: ∀ k u,u<10 ^ (k+1)→nDigits u≤k+1:=by
  intro k
  induction k with
  |zero=>intro u h;rw[Lib.nDigits_small (by simpa using h)];exact Nat.le_refl _
  |succ k ih=>
   intro u h
   by_cases c:u<10
   ·rw[Lib.nDigits_small c];omega
   ·rw[Lib.nDigits_big c]
    have:=ih (u/10) (by rw[Nat.pow_succ] at h;omega)
    omega
 exact key 7 u (by simpa using h)
theorem Yz:decDigits 0=[48]:=by rw[decDigits];simp
theorem iQ {u:Nat} (h:0<u): ∃ x xs,decDigits u=x::xs∧x≠48:=by
 induction u using Nat.strongRecOn with
 |ind u ih=>
  rw[decDigits]
  split
  ·next h9=>
   refine ⟨_,[],rfl,fun e=>?_⟩
   have:=congrArg UInt8.toNat e
   rw[SA h9,show (48:UInt8).toNat=48 from rfl] at this
   omega
  ·next h9=>
   obtain ⟨x,xs,e,hx⟩:=ih (u/10) (by omega) (by omega)
   exact ⟨x,xs++[UInt8.ofNat (48+u%10)],by rw[e];rfl,hx⟩
theorem xd (u:Nat):itoa (u:Int)=decDigits u:=Lib.itoa_nonneg u
theorem tQ:itoa 0=[48]:=(xd 0).trans Yz
theorem YR (z:Int): ∀ x∈itoa z,x=45∨Uh x:=by
 unfold itoa
 split
 ·intro x hx
  rcases List.mem_cons.1 hx with e|e
  ·exact .inl e
  ·exact .inr (SU _ x e)
 ·intro x hx;exact .inr (SU _ x hx)
theorem Zo {x:UInt8} (h:x=45∨Uh x):x≠32∧x≠10:=by
 rcases h with rfl|h
 ·exact ⟨by decide,by decide⟩
 ·exact ⟨fun e=>by subst e;exact absurd h.1 (by decide),fun e=>by subst e;exact absurd h.1 (by decide)⟩
def wrds (zs:List Int):Wd:=zs.flatMap fun z=>itoa z++[32]
theorem SB (z:Int) (zs:List Int):wrds (z::zs)=itoa z++32::wrds zs:=by unfold wrds;rw[List.flatMap_cons];simp
theorem iR (a b:List Int):wrds (a++b)=wrds a++wrds b:=by unfold wrds;rw[List.flatMap_append]
def lineZ (zs:List Int):Wd:=wrds zs++[48]
theorem iT (z:Int): ∀ zs:List Int,Lk.cut 32 (wrds zs++itoa z)=(zs++[z]).map itoa
 |[]=>by
  show Lk.cut 32 (itoa z)=[itoa z]
  exact Lk.YY 32 _ fun x hx=>(Zo (YR z x hx)).1
 |y::zs=>by
  rw[SB,List.append_assoc,List.cons_append,Lk.VI 32 _ _ (fun x hx=>(Zo (YR y x hx)).1),iT z zs]
  rfl
theorem xe (zs:List Int):Lk.cut 32 (lineZ zs)=(zs++[0]).map itoa:=by
 unfold lineZ;rw[←tQ];exact iT 0 zs
theorem tR (zs:List Int): ∀ x∈lineZ zs,x≠10:=by
 intro x hx
 rcases List.mem_append.1 hx with hx|hx
 ·obtain ⟨z,_,hz⟩:=List.mem_flatMap.1 hx
  rcases List.mem_append.1 hz with hz|hz
  ·exact (Zo (YR z x hz)).2
  ·rw[List.mem_singleton.1 hz];decide
 ·rw[List.mem_singleton.1 hx];decide
def rend (cs:List (List Int)):Wd:=cs.flatMap fun c=>lineZ c++[10]
theorem VU (c:List Int) (cs:List (List Int)):rend (c::cs)=lineZ c++10::rend cs:=by unfold rend;rw[List.flatMap_cons];simp
theorem Im (a b:List (List Int)):rend (a++b)=rend a++rend b:=by unfold rend;rw[List.flatMap_append]
theorem iU: ∀ cs:List (List Int),Lk.cut 10 (rend cs)=cs.map lineZ++[[]]
 |[]=>rfl
 |c::cs=>by rw[VU,Lk.VI 10 _ _ (tR c),iU cs];rfl
end Nz
open Go.Lib (itoa decDigits)
namespace Nz
theorem jl (n:Nat) (a:Wd) (x:UInt8):val n (a++[x])=10*val n a+(x.toNat - 48):=by unfold val;rw[List.foldl_append];rfl
theorem acB (t:Wd): ∀ n,n≤val n t:=by
 induction t with
 |nil=>intro n;exact Nat.le_refl _
 |cons x t ih=>intro n;exact Nat.le_trans (by omega:n≤10*n+(x.toNat - 48)) (ih _)
theorem iV (t:Wd) (j n:Nat):val n (t.take j)≤val n t:=by
 conv=>rhs;rw[←List.take_append_drop j t]
 unfold val
 rw[List.foldl_append]
 exact acB (t.drop j) _
theorem Zp (c:UInt8): ∀ l:Wd,(Lk.cut c l).length≤l.length+1
 |[]=>by simp[Lk.cut]
 |y::ys=>by
  have ih:=Zp c ys
  unfold Lk.cut
  split
  ·simp;omega
  ·split
   ·simp
   ·rename_i e
    rw[e] at ih
    simp at ih ⊢
    omega
theorem qh (z:Int) (t:ByteArray) (h:t.toList=itoa z) (hz:z.natAbs<100000000):(∃ u:Nat,z= -(u:Int)∧0<u∧u<100000000∧1<t.size∧t.toList=45::decDigits u)∨(∃ u:Nat,z=(u:Int)∧u<100000000∧t.toList=decDigits u):=by
 by_cases c:z<0
 ·have e:t.toList=45::decDigits z.natAbs:=by rw[h];unfold itoa;rw[if_pos c]
  refine .inl ⟨z.natAbs,by omega,by omega,hz,?_,e⟩
  rw[←Bx,e]
  have:=(WA hz).1
  simp;omega
 ·refine .inr ⟨z.natAbs,by omega,hz,?_⟩
  rw[h];unfold itoa;rw[if_neg c,show z.toNat=z.natAbs by omega]
end Nz
theorem pH (s:ByteArray) (zs:List Int) (w:World) (hs:s.size≤1000000000) (hc:Lk.cut 32 s.toList=zs.map itoa) (hz: ∀ z∈zs,z.natAbs<100000000):
  Calls Tryz.prog 26 #[.string s] w fun e w'=> ∃ a c,e=.returned (.tuple #[.slice a zs.length c,.bool true])∧w'.ownsRow w.heap.size 3 1 (.slice a zs.length c) zs.length (zs.map fun z=>.int .i64 z)∧Below w.heap.size w w':=by
 obtain ⟨t0,ht0,hz0,hz1,hz2⟩:=info_parts Tryz.Ds
 have HZ:=hid hz
 have Ui:=hid hc
 clear hz hc
 go_enter Tryz.func26,Tryz.ntmps26
 go_wp2_with (first|(go_at_call 25;refine (ZN s 32 _ hs).mono ?_;rintro e w1 ⟨g,cap,ws,rfl,hws,hown,hb1⟩;have AL:=hid hb1;have z1:=hb1.size;have HOW:=hid hown;have J2:=hid (hws.trans Ui.out);clear hb1 hown hws))
 have NT:ws.length=zs.length:=by have:=congrArg List.length J2.out;simpa using this
 have hzl:zs.length≤1000000001:=by
  have h1:=congrArg List.length Ui.out
  have h2:=Nz.Zp 32 s.toList
  rw[Bx] at h2
  simp at h1
  omega
 rw[NT]
 go_loopg [4,6,7,8,9,10] zs.length (fun gk ov iv tv bv nv jv wr=> ∃ (i:Nat),i≤zs.length∧zs.length≤i+gk∧iv=.int .i64 i∧wr.ownsRow w1.heap.size 3 1 ov i ((zs.take i).map fun z=>.int .i64 z)∧Below w1.heap.size w1 wr)
 case atStart=>exact ⟨0,Nat.zero_le _,by omega,rfl,World.ownsRow_nil _ _ _ _,Below.refl _ _⟩
 case round=>
  obtain ⟨i,hi,Ba,rfl,hown,AB⟩:=hrel
  have HO:=hid hown
  have AV:=hid AB
  have zb:=AB.size
  by_cases hlt:i<zs.length
  ·obtain ⟨t,hte⟩: ∃ t,ws.getD i ByteArray.empty=t:=⟨_,rfl⟩
   have Cz:t.toList=itoa (zs.getD i 0):=by
    have h1:=congrArg (fun l=>l[i]?) J2.out
    simp only[List.getElem?_map] at h1
    rw[List.getElem?_eq_getElem (show i<ws.length by omega),List.getElem?_eq_getElem hlt] at h1
    rw[←hte,List.getD_eq_getElem?_getD,List.getD_eq_getElem?_getD,List.getElem?_eq_getElem (show i<ws.length by omega),List.getElem?_eq_getElem hlt]
    exact Option.some.inj h1
   have hcell:w1.cell? ⟨g,i,none⟩=some (.string t):=by
    rw[HOW.out.cellAt i (by omega),List.getElem?_map,List.getElem?_eq_getElem (show i<ws.length by omega), ←hte,List.getD_eq_getElem?_getD,List.getElem?_eq_getElem (show i<ws.length by omega)];rfl
   have hc1:=cell_later AB hcell
   have Xi:(zs.getD i 0).natAbs<100000000:=HZ.out _ (by rw[List.getD_eq_getElem?_getD,List.getElem?_eq_getElem hlt];exact List.getElem_mem hlt)
   have htk:(zs.take (i+1)).map (fun z=>Value.int .i64 z)=(zs.take i).map (fun z=>Value.int .i64 z)++[.int .i64 (zs.getD i 0)]:=by
    rw[List.take_succ_eq_append_getElem hlt,List.map_append,List.getD_eq_getElem?_getD,List.getElem?_eq_getElem hlt];rfl
   obtain ⟨z,hze⟩: ∃ z,zs.getD i 0=z:=⟨_,rfl⟩
   have HM:=hid (show zs.getD i 0∈zs by rw[List.getD_eq_getElem?_getD,List.getElem?_eq_getElem hlt];exact List.getElem_mem hlt)
   rw[hze] at Cz Xi htk HM
   have Pt:=hid htk
   clear hcell hze hte AB hown htk
   rcases Nz.qh z t Cz Xi with ⟨u,rfl,LX,Li,ht1,htd⟩|⟨u,rfl,Li,htd⟩
   ·have hx0:t[0]=45:=by
     have:=En t 0 (by omega)
     rw[htd] at this
     simpa using this.symm
    have bq:((t[0].toNat:Int)==45)=true:=by rw[hx0];rfl
    have Gf:=hid (show (t.extract 1 t.size).toList=decDigits u by
     rw[extract_toList,htd]
     have:=Bx t
     rw[htd] at this
     simp at this ⊢
     rw[List.take_of_length_le (by omega)])
    clear Cz htd hx0 Xi
    go_wp2_with fail
    generalize t.extract 1 t.size=tb at Gf
    obtain ⟨G,hG⟩: ∃ G:Nat,G=gk:=⟨_,rfl⟩
    have hbl:=Bx tb
    rw[show tb.toList=_ from Gf.out] at hbl
    have Gw:=Nz.WA Li
    have Kf:tb.size≤8:=by omega
    have hb1:1≤tb.size:=by omega
    have LI:=hid (show ∀ j (hj:j<tb.size),48≤tb[j].toNat∧tb[j].toNat≤57 from fun j hj=>Nz.SU u _ (by
     have:=En tb j hj
     rw[show tb.toList=_ from Gf.out] at this
     exact List.mem_of_getElem? this))
    go_loopg [9,10] tb.size (fun gj nv jv wq=> ∃ j:Nat,j≤tb.size∧tb.size≤j+gj∧jv=.int .i64 j∧nv=.int .i64 (Nz.val 0 (tb.toList.take j):Nat)∧wq=wr)
    case atStart=>exact ⟨0,Nat.zero_le _,by omega,rfl,rfl,rfl⟩
    case round=>
     obtain ⟨j,hj,OA,rfl,rfl,rfl⟩:=hrel
     by_cases Gz:j<tb.size
     ·obtain ⟨d1,d2⟩:=LI.out j Gz
      have hv1:=Nz.iV tb.toList j 0
      rw[show Nz.val 0 tb.toList=u by rw[show tb.toList=_ from Gf.out];exact Nz.W9 _] at hv1
      have DY:=hid (show Nz.val 0 (tb.toList.take (j+1))=10*Nz.val 0 (tb.toList.take j)+(tb[j].toNat - 48) by
       have Ii:j<tb.toList.length:=by rw[Bx];exact Gz
       have:=En tb j Gz
       rw[List.getElem?_eq_getElem Ii] at this
       rw[List.take_succ_eq_append_getElem Ii,Option.some.inj this,Nz.jl])
      have d1I: ¬(tb[j].toNat:Int)<48:=by omega
      have d2I: ¬(57:Int)<(tb[j].toNat:Int):=by omega
      generalize Nz.val 0 (tb.toList.take j)=m at hv1 DY
      have Gs:(m:Int)<100000000:=by omega
      go_wp2_with fail
      go_roundg (gk - 1)
      case measure=>omega
      case rel=>exact ⟨j+1,by omega,by omega,by go_num,by rw[DY.out];congr 1;omega,rfl⟩
     ·have Uj:j=tb.size:=by omega
      subst Uj
      rw[show Nz.val 0 (tb.toList.take tb.size)=u by rw[List.take_of_length_le (by rw[Bx];exact Nat.le_refl _),show tb.toList=_ from Gf.out];exact Nz.W9 _]
      have hne:tb.toList.isEmpty=false:=by
       cases hq:tb.toList with
       |nil=>
        have:=congrArg List.length hq
        rw[Bx] at this
        exact absurd (show tb.size=0 from this) (by omega)
       |cons x xs=>rfl
      have h8I: ¬(8:Int)<(tb.size:Int):=by omega
      have mz:((tb[0].toNat:Int)==48)=false:=by
       obtain ⟨x,xs,e,hx⟩:=Nz.iQ LX
       have:=En tb 0 (by omega)
       rw[show tb.toList=_ from Gf.out,e] at this
       have e2:x=tb[0]:=by simpa using this
       rw[←e2]
       exact beq_eq_false_iff_ne.2 fun h=>hx (UInt8.toNat_inj.1 (by rw[show (48:UInt8).toNat=48 from rfl];omega))
      clear LI hbl Gw hj OA Gz Li
      go_upto_region 19 with fail
      have huI:(u:Int)<100000000:=by have:=HZ.out _ HM.out;omega
      go_wp2_with (first|(at_builtin;refine wpList_append_lies _ rfl _ _ 24 rfl w1.heap.size 3 t0 _ 1 8 Tryz.underlying24 ht0 hz0 hz1 hz2 rfl (by omega) _ i ((zs.take i).map fun z=>.int .i64 z) rfl (HO.out.alloc _) ⟨wr.heap.size,0,none⟩ 1 1 [.int .i64 (-(u:Int))] rfl rfl (cell_one_new _ _ _) (by simp[Value.oneCell']) (by omega) (by unfold maxLen;omega) (by omega) (by simp;omega) (wr.heap.size+1) (by simp) ?_;intro g2 cap2 w2 hown1 hgrow hat Bk))
      go_roundg (G - 1)
      case measure=>omega
      case rel=>
       refine ⟨i+1,by omega,by omega,by go_num,?_,?_⟩
       ·rw[Pt.out];simpa using hown1
       ·exact Below.grown (AV.out.alloc zb _) hgrow (by simp;omega) (fun q hq=>(HO.out.lt q hq).1)
   ·have bq: ∀ (h0:0<t.size),((t[0].toNat:Int)==45)=false:=fun h0=>by
     have:=En t 0 h0
     rw[htd] at this
     have h2:=Nz.SU u t[0] (List.mem_of_getElem? this)
     exact beq_eq_false_iff_ne.2 fun e=>by have:=h2.1;omega
    have Gf:=hid htd
    have hts:0<t.size:=by
     have:=Bx t
     rw[htd] at this
     have:=(Nz.WA Li).1
     omega
    have hx1:=bq hts
    have HU8:=hid Li
    clear Cz htd Xi bq Li
    go_upto_region 7 with fail
    go_cut [8] (fun bv wc=>bv=.bool false∧wc=wr)
    case first=>
     by_cases h1:(1:Int)<(t.size:Int)
     ·go_wp2_with fail
      go_meet
      exact ⟨rfl,rfl⟩
     ·go_wp2_with fail
      go_meet
      exact ⟨rfl,rfl⟩
    case rest=>
    obtain ⟨rfl,rfl⟩:=hcut
    go_wp2_with fail
    have Li:=HU8.out
    obtain ⟨G,hG⟩: ∃ G:Nat,G=gk:=⟨_,rfl⟩
    have hbl:=Bx t
    rw[show t.toList=_ from Gf.out] at hbl
    have Gw:=Nz.WA Li
    have Kf:t.size≤8:=by omega
    have hb1:1≤t.size:=by omega
    have LI:=hid (show ∀ j (hj:j<t.size),48≤t[j].toNat∧t[j].toNat≤57 from fun j hj=>Nz.SU u _ (by
     have:=En t j hj
     rw[show t.toList=_ from Gf.out] at this
     exact List.mem_of_getElem? this))
    go_loopg [9,10] t.size (fun gj nv jv wq=> ∃ j:Nat,j≤t.size∧t.size≤j+gj∧jv=.int .i64 j∧nv=.int .i64 (Nz.val 0 (t.toList.take j):Nat)∧wq=wc)
    case atStart=>exact ⟨0,Nat.zero_le _,by omega,rfl,rfl,rfl⟩
    case round=>
     obtain ⟨j,hj,OA,rfl,rfl,rfl⟩:=hrel
     by_cases Gz:j<t.size
     ·obtain ⟨d1,d2⟩:=LI.out j Gz
      have hv1:=Nz.iV t.toList j 0
      rw[show Nz.val 0 t.toList=u by rw[show t.toList=_ from Gf.out];exact Nz.W9 _] at hv1
      have DY:=hid (show Nz.val 0 (t.toList.take (j+1))=10*Nz.val 0 (t.toList.take j)+(t[j].toNat - 48) by
       have Ii:j<t.toList.length:=by rw[Bx];exact Gz
       have:=En t j Gz
       rw[List.getElem?_eq_getElem Ii] at this
       rw[List.take_succ_eq_append_getElem Ii,Option.some.inj this,Nz.jl])
      have d1I: ¬(t[j].toNat:Int)<48:=by omega
      have d2I: ¬(57:Int)<(t[j].toNat:Int):=by omega
      generalize Nz.val 0 (t.toList.take j)=m at hv1 DY
      have Gs:(m:Int)<100000000:=by omega
      go_wp2_with fail
      go_roundg (gk - 1)
      case measure=>omega
      case rel=>exact ⟨j+1,by omega,by omega,by go_num,by rw[DY.out];congr 1;omega,rfl⟩
     ·have Uj:j=t.size:=by omega
      subst Uj
      rw[show Nz.val 0 (t.toList.take t.size)=u by rw[List.take_of_length_le (by rw[Bx];exact Nat.le_refl _),show t.toList=_ from Gf.out];exact Nz.W9 _]
      have hne:t.toList.isEmpty=false:=by
       cases hq:t.toList with
       |nil=>
        have:=congrArg List.length hq
        rw[Bx] at this
        exact absurd (show t.size=0 from this) (by omega)
       |cons x xs=>rfl
      have h8I: ¬(8:Int)<(t.size:Int):=by omega
      by_cases hz:u=0
      ·subst hz
       have mz:((t[0].toNat:Int)==48)=true:=by
        have:=En t 0 (by omega)
        rw[show t.toList=_ from Gf.out,Nz.Yz] at this
        have e2:(48:UInt8)=t[0]:=by simpa using this
        rw[←e2];rfl
       have h48:(t.toList==[48])=true:=by rw[show t.toList=_ from Gf.out,Nz.Yz];rfl
       clear LI hbl Gw hj OA Gz HU8 Li
       go_upto_region 19 with fail
       go_wp2_with (first|(at_builtin;refine wpList_append_lies _ rfl _ _ 24 rfl w1.heap.size 3 t0 _ 1 8 Tryz.underlying24 ht0 hz0 hz1 hz2 rfl (by omega) _ i ((zs.take i).map fun z=>.int .i64 z) rfl (HO.out.alloc _) ⟨wr.heap.size,0,none⟩ 1 1 [.int .i64 0] rfl rfl (cell_one_new _ _ _) (by simp[Value.oneCell']) (by omega) (by unfold maxLen;omega) (by omega) (by simp;omega) (wr.heap.size+1) (by simp) ?_;intro g2 cap2 w2 hown1 hgrow hat Bk))
       go_roundg (G - 1)
       case measure=>omega
       case rel=>
        refine ⟨i+1,by omega,by omega,by go_num,?_,?_⟩
        ·rw[Pt.out];simpa using hown1
        ·exact Below.grown (AV.out.alloc zb _) hgrow (by simp;omega) (fun q hq=>(HO.out.lt q hq).1)
      ·have LX:0<u:=by omega
       have mz:((t[0].toNat:Int)==48)=false:=by
        obtain ⟨x,xs,e,hx⟩:=Nz.iQ LX
        have:=En t 0 (by omega)
        rw[show t.toList=_ from Gf.out,e] at this
        have e2:x=t[0]:=by simpa using this
        rw[←e2]
        exact beq_eq_false_iff_ne.2 fun h=>hx (UInt8.toNat_inj.1 (by rw[show (48:UInt8).toNat=48 from rfl];omega))
       clear LI hbl Gw hj OA Gz HU8 Li
       go_upto_region 19 with fail
       go_wp2_with (first|(at_builtin;refine wpList_append_lies _ rfl _ _ 24 rfl w1.heap.size 3 t0 _ 1 8 Tryz.underlying24 ht0 hz0 hz1 hz2 rfl (by omega) _ i ((zs.take i).map fun z=>.int .i64 z) rfl (HO.out.alloc _) ⟨wr.heap.size,0,none⟩ 1 1 [.int .i64 (u:Int)] rfl rfl (cell_one_new _ _ _) (by simp[Value.oneCell']) (by omega) (by unfold maxLen;omega) (by omega) (by simp;omega) (wr.heap.size+1) (by simp) ?_;intro g2 cap2 w2 hown1 hgrow hat Bk))
       go_roundg (G - 1)
       case measure=>omega
       case rel=>
        refine ⟨i+1,by omega,by omega,by go_num,?_,?_⟩
        ·rw[Pt.out];simpa using hown1
        ·exact Below.grown (AV.out.alloc zb _) hgrow (by simp;omega) (fun q hq=>(HO.out.lt q hq).1)
  ·have hie:i=zs.length:=by omega
   subst hie
   obtain ⟨ao,co,rfl⟩:=AX hown
   rw[List.take_length] at HO
   clear hown AB
   go_wp2_with fail
   refine bodyPost_ret (v:=.tuple #[.slice ao zs.length co,.bool true]) (by simp[results,Tryz.results26,go_sem]) rfl ⟨ao,co,rfl,dU HO.out z1,AL.out.trans (AV.out.mono z1)⟩
open Go.Lib (itoa decDigits)
structure Ir (w:World) (v:Value) (cs:List (List Int)):Prop where
 val: ∃ a c,v=.slice a cs.length c∧cs.length≤c
 at_: ∀ j,j<cs.length→ ∃ g off c u,v=.slice (some ⟨g,off,none⟩) cs.length c∧w.cell? ⟨g,off+j,none⟩=some u∧BB w u (cs.getD j [])
theorem Ir.later {w w':World} {v:Value} {cs:List (List Int)} (h:Ir w v cs) (hb:Below w.heap.size w w'):Ir w' v cs:=
 ⟨h.val,fun j hj=>by
   obtain ⟨g,off,c,u,h1,h2,h3⟩:=h.at_ j hj
   exact ⟨g,off,c,u,h1,cell_later hb h2,h3.below hb⟩⟩
theorem BB.blk {w w':World} {v:Value} {xs:List Int} (h:BB w v xs) (hb: ∀ q,v.ownBlock=some q→w'.heap[q]? =w.heap[q]?):BB w' v xs:=
 ⟨h.val,fun j hj=>by
   obtain ⟨g,off,c,h1,h2⟩:=h.at_ j hj
   exact ⟨g,off,c,h1,(World.cell?_of_block (hb g (by rw[h1];rfl))).trans h2⟩⟩
theorem BB.adn {w:World} {a:Option Addr} {n c:Nat} {xs:List Int} (h:BB w (.slice a n c) xs) (m:Nat) (hm:m≤xs.length):BB w (.slice a m c) (xs.take m):=by
 have hl:(xs.take m).length=m:=by rw[List.length_take];omega
 refine ⟨⟨a,c,by rw[hl]⟩,fun j hj=>?_⟩
 rw[hl] at hj
 obtain ⟨g,off,c',hv,hc⟩:=h.at_ j (by omega)
 have h1:=(slice_inj hv).1
 subst h1
 refine ⟨g,off,c,by rw[hl],?_⟩
 rw[List.getD_eq_getElem?_getD,List.getElem?_take,if_pos hj, ←List.getD_eq_getElem?_getD]
 exact hc
def Je (w:World) (vs:List Value) (cs:List (List Int)) (own:Option Nat):Prop:= ∀ j,j<vs.length→BB w (vs.getD j (.bool false)) (cs.getD j [])∧ ∀ q,(vs.getD j (.bool false)).ownBlock=some q→q<w.heap.size∧own≠some q
theorem Je.below {w w':World} {vs:List Value} {cs:List (List Int)} {own:Option Nat} (h:Je w vs cs own) (hb:Below w.heap.size w w'):Je w' vs cs own:=fun j hj=>by
 obtain ⟨h1,h2⟩:=h j hj
 exact ⟨h1.below hb,fun q hq=>⟨Nat.lt_of_lt_of_le (h2 q hq).1 hb.size,(h2 q hq).2⟩⟩
theorem Je.snoc {w:World} {vs:List Value} {cs:List (List Int)} {own:Option Nat} (h:Je w vs cs own) {v:Value} (hv:BB w v (cs.getD vs.length [])) (hq: ∀ q,v.ownBlock=some q→q<w.heap.size∧own≠some q):Je w (vs++[v]) cs own:=fun j hj=>by
 rw[List.length_append] at hj
 by_cases c:j<vs.length
 ·rw[List.getD_eq_getElem?_getD,List.getElem?_append_left c, ←List.getD_eq_getElem?_getD];exact h j c
 ·have:j=vs.length:=by simp at hj;omega
  subst this
  rw[show (vs++[v]).getD vs.length (.bool false)=v by simp[List.getD_eq_getElem?_getD]]
  exact ⟨hv,hq⟩
theorem Je.grown {w w':World} {vs:List Value} {cs:List (List Int)} {own:Option Nat} (h:Je w vs cs own) (hg:w.grownBy w' own) {g H:Nat} (hat:own=some g∨g=H) (hH:w.heap.size=H):Je w' vs cs (some g):=fun j hj=>by
 obtain ⟨h1,h2⟩:=h j hj
 refine ⟨h1.blk fun q hq=>hg.block q (h2 q hq).1 (fun e=>(h2 q hq).2 e.symm),fun q hq=>⟨Nat.lt_of_lt_of_le (h2 q hq).1 hg.size,?_⟩⟩
 obtain ⟨a,b⟩:=h2 q hq
 rcases hat with e|e
 ·rw[←e];exact b
 ·intro k;have:=Option.some.inj k;omega
theorem Je.cls {w:World} {base:Nat} {v:Value} {vs:List Value} {cs:List (List Int)} {own:Option Nat} (h:Je w vs cs own) (hl:vs.length=cs.length) (ho:w.ownsRow base 24 1 v cs.length vs):Ir w v cs:=by
 refine ⟨?_,fun j hj=>?_⟩
 ·rcases ho.2 with ⟨e,e2⟩|⟨g,c,cur,hv,_,_,h4,_⟩
  ·rw[e2];exact ⟨_,_,e,Nat.le_refl _⟩
  ·exact ⟨_,_,hv,h4⟩
 rcases ho.2 with ⟨_,e⟩|⟨g,c,cur,hv,_⟩
 ·omega
 ·refine ⟨g,0,c,vs.getD j (.bool false),hv,?_,(h j (by omega)).1⟩
  subst hv
  rw[Nat.zero_add,ho.cellAt j (by omega),List.getD_eq_getElem?_getD,List.getElem?_eq_getElem (by omega)];rfl
namespace Nz
theorem jm {c:List Int}: ∀ {cs:List (List Int)},c∈cs→(lineZ c).length≤(rend cs).length
 |d::cs,h=>by
  rw[VU,List.length_append,List.length_cons]
  rcases List.mem_cons.1 h with e|e
  ·rw[e];omega
  ·have:=jm e;omega
end Nz
theorem pI (s:ByteArray) (cs:List (List Int)) (vars:Nat) (w:World) (hs:s.size≤1000000000) (hc:s.toList=Nz.rend cs) (hz: ∀ c∈cs, ∀ l∈c,l≠0∧l.natAbs≤vars) (hv:vars<100000000):
  Calls Tryz.prog 11 #[.string s,.int .i64 vars] w fun e w'=> ∃ v,e=.returned (.tuple #[v,.bool true])∧Ir w' v cs∧Below w.heap.size w w':=by
 obtain ⟨t0,ht0,hz0,hz1,hz2⟩:=info_parts Tryz.Ye
 have Ng:=hid hv
 have Ui:=hid (show Lk.cut 10 s.toList=cs.map Nz.lineZ++[[]] by rw[hc];exact Nz.iU cs)
 have D2:=hid (show ∀ i,i<cs.length→(Nz.lineZ (cs.getD i [])).length≤s.size from fun i hi=>by
  rw[←Bx,hc]
  exact Nz.jm (by rw[List.getD_eq_getElem?_getD,List.getElem?_eq_getElem hi];exact List.getElem_mem hi))
 have HZ:=hid (show ∀ i,i<cs.length→ ∀ l∈cs.getD i [],l≠0∧l.natAbs≤vars from fun i hi=>hz _ (by rw[List.getD_eq_getElem?_getD,List.getElem?_eq_getElem hi];exact List.getElem_mem hi))
 have hcl:cs.length≤s.size:=by
  have h1:=congrArg List.length Ui.out
  have h2:=Nz.Zp 10 s.toList
  rw[Bx] at h2
  simp at h1
  omega
 have HS:=hid hs
 have alh:cs.length≤1000000000:=by omega
 clear hz hc hv hs hcl
 go_enter Tryz.func11,Tryz.ntmps11
 go_upto_region 2 with (first|(go_at_call 25;refine (ZN s 10 _ HS.out).mono ?_;rintro e w1 ⟨g,cap,ws,rfl,hws,hown,hb1⟩;have AL:=hid hb1;have z1:=hb1.size;have HOW:=hid hown;have J2:=hid (hws.trans Ui.out);clear hb1 hown hws))
 have NT:ws.length=cs.length+1:=by have:=congrArg List.length J2.out;simpa using this
 have hcell: ∀ i,i<cs.length+1→w1.cell? ⟨g,i,none⟩=some (.string (ws.getD i ByteArray.empty)):=fun i hi=>by
  rw[HOW.out.cellAt i (by omega),List.getElem?_map,List.getD_eq_getElem?_getD,List.getElem?_eq_getElem (show i<ws.length by omega)];rfl
 have Cz: ∀ i,i<cs.length+1→(ws.getD i ByteArray.empty).toList=(cs.map Nz.lineZ++[[]]).getD i []:=fun i hi=>by
  have h1:=congrArg (fun l=>l[i]?) J2.out
  simp only[List.getElem?_map] at h1
  rw[List.getElem?_eq_getElem (show i<ws.length by omega)] at h1
  rw[List.getD_eq_getElem?_getD,List.getD_eq_getElem?_getD,List.getElem?_eq_getElem (show i<ws.length by omega), ←h1];rfl
 have J3:=hid hcell
 have Gu:=hid Cz
 clear hcell Cz
 rw[NT]
 have c0:=J3.out cs.length (by omega)
 have he:(ws.getD cs.length ByteArray.empty).toList.isEmpty=true:=by
  rw[Gu.out _ (by omega)]
  simp[List.getD_eq_getElem?_getD]
 obtain ⟨t,hte⟩: ∃ t,ws.getD cs.length ByteArray.empty=t:=⟨_,rfl⟩
 rw[hte] at c0 he
 clear hte
 go_wp2_with fail
 clear he c0
 go_loopg [7,8,9,10,11,12] cs.length (fun gk ov iv nv bv jv av wr=> ∃ (i:Nat) (vs:List Value),i≤cs.length∧cs.length≤i+gk∧iv=.int .i64 i∧vs.length=i∧wr.ownsRow w1.heap.size 24 1 ov i vs∧Je wr vs cs ov.ownBlock∧Below w1.heap.size w1 wr)
 case atStart=>exact ⟨0,[],Nat.zero_le _,by omega,rfl,rfl,World.ownsRow_nil _ _ _ _,fun j hj=>absurd hj (by simp),Below.refl _ _⟩
 case round=>
  obtain ⟨i,vs,hi,Ba,rfl,hvl,hown,Wp,AB⟩:=hrel
  have HO:=hid hown
  have HR:=hid Wp
  have AV:=hid AB
  have zb:=AB.size
  by_cases hlt:i<cs.length
  ·have hc1:=cell_later AB (J3.out i (by omega))
   have Cz:=(Gu.out i (by omega)).trans (show (cs.map Nz.lineZ++[[]]).getD i ([]:List UInt8)=Nz.lineZ (cs.getD i []) by
    rw[List.getD_eq_getElem?_getD,List.getElem?_append_left (by simpa using hlt),List.getElem?_map,List.getElem?_eq_getElem hlt,List.getD_eq_getElem?_getD,List.getElem?_eq_getElem hlt];rfl)
   obtain ⟨q,Xh⟩: ∃ q,ws.getD i ByteArray.empty=q:=⟨_,rfl⟩
   rw[Xh] at hc1 Cz
   have Uk:=HZ.out i hlt
   have hll:=D2.out i hlt
   have HCI:=hid (show cs.getD i []=cs.getD vs.length [] by rw[hvl])
   obtain ⟨c,hce⟩: ∃ c,cs.getD i []=c:=⟨_,rfl⟩
   rw[hce] at Cz Uk hll HCI
   have hqs:q.size=(Nz.lineZ c).length:=by rw[←Cz,Bx]
   have HN:=hid (fun W=>pH q (c++[0]) W (by have:=HS.out;omega) (by rw[Cz];exact Nz.xe c) (fun z hz=>by
    have:=Ng.out
    rcases List.mem_append.1 hz with h|h
    ·have:=(Uk z h).2;omega
    ·rw[List.mem_singleton.1 h];decide))
   have ali:c.length≤1000000000:=by
    have h1:c.length≤(Nz.wrds c).length:=by
     clear Uk Cz hll hqs HN hce HCI
     induction c with
     |nil=>exact Nat.zero_le _
     |cons z c ih=>rw[Nz.SB];simp;omega
    have h2:(Nz.lineZ c).length=(Nz.wrds c).length+1:=by unfold Nz.lineZ;simp
    have:=HS.out
    omega
   have HLZ:=hid Uk
   clear Xh hce Cz hll hqs Uk hown Wp AB
   go_upto_region 9 with (first|(go_at_call 26;refine (HN.out _).mono ?_;rintro e w2 ⟨an,cn,rfl,C8,hb2⟩;have Bq:=hid C8;have AP:=hid hb2;have z2:=hb2.size;clear hb2 C8))
   have lL:(c++[0]).length=c.length+1:=by simp
   rw[lL] at Bq
   obtain ⟨ga,dn,BU,alj,alk⟩:=Bq.out.form (by omega)
   have agY:=(slice_inj BU).1
   have aga:=(slice_inj BU).2.2
   subst agY aga
   have acC:w2.cell? ⟨ga,c.length,none⟩=some (.int .i64 0):=by
    rw[Bq.out.cellAt c.length (by omega)]
    simp
   have Ul:=hid (show BB w2 (.slice (some ⟨ga,0,none⟩) c.length cn) c by
    have h1:BB w2 (.slice (some ⟨ga,0,none⟩) (c++[0]).length cn) (c++[0]):=BB.Od (by rw[lL];exact Bq.out)
    have h2:=h1.adn c.length (by omega)
    rw[List.take_left] at h2
    exact h2)
   have hcap:c.length+1≤cn:=by
    rcases Bq.out.2 with ⟨h,_⟩|⟨g',cap',cur,h,_,_,h3,_⟩
    ·cases h
    ·have:=(slice_inj h).2.2;omega
   have ak2:(c.length:Int)≤1000000000:=by omega
   go_wp2_with fail
   obtain ⟨G,hG⟩: ∃ G:Nat,G=gk:=⟨_,rfl⟩
   have HV:=hid (show ∀ j,j<c.length→ ∃ l,w2.cell? ⟨ga,j,none⟩=some (.int .i64 l)∧(l==0)=false∧ ¬((vars:Int)<l)∧ ¬(l< -(vars:Int)) from fun j hj=>by
    obtain ⟨g',off,ha,hc⟩:=Ul.out.cell hj
    have e:=Option.some.inj ha
    have e1:g'=ga:=by injection e with e1 _ _;exact e1.symm
    have e2:off=0:=by injection e with _ e2 _;exact e2.symm
    subst e1 e2
    rw[Nat.zero_add] at hc
    have hm:=HLZ.out (c.getD j 0) (by rw[List.getD_eq_getElem?_getD,List.getElem?_eq_getElem hj];exact List.getElem_mem hj)
    exact ⟨_,hc,by simpa using hm.1,by omega,by omega⟩)
   clear acC
   go_loopg [11] c.length (fun gj jv wq=> ∃ j:Nat,j≤c.length∧c.length≤j+gj∧jv=.int .i64 j∧wq=w2)
   case atStart=>exact ⟨0,Nat.zero_le _,by omega,rfl,rfl⟩
   case round=>
    obtain ⟨j,hj,OA,rfl,rfl⟩:=hrel
    by_cases Gz:j<c.length
    ·obtain ⟨l,x1,x2,x3,x4⟩:=HV.out j Gz
     have Gq:(vars:Int)≤100000000:=by have:=Ng.out;omega
     go_wp2_with fail
     go_roundg (gk - 1)
     case measure=>omega
     case rel=>exact ⟨j+1,by omega,by omega,by go_num,rfl⟩
    ·have BR:=hid (BP HO.out (fun k e=>AP.out.block k (HO.out.lt k e).2))
     clear HV hj OA
     go_wp2_with (first|(at_builtin;refine wpList_append_lies _ rfl _ _ 34 rfl w1.heap.size 24 t0 _ 1 24 Tryz.underlying34 ht0 hz0 hz1 hz2 rfl (by omega) _ i vs rfl (BR.out.alloc _) ⟨wr.heap.size,0,none⟩ 1 1 [.slice (some ⟨ga,0,none⟩) c.length cn] rfl rfl (cell_one_new _ _ _) (by simp[Value.oneCell']) (by omega) (by unfold maxLen;omega) (by omega) (by simp;omega) (wr.heap.size+1) (by simp) ?_;intro g2 cap2 w3 hown1 hgrow hat Bk))
     go_roundg (G - 1)
     case measure=>omega
     case rel=>
      have hz3:wr.heap.size<(wr.alloc (.cells #[.slice (some ⟨ga,0,none⟩) c.length cn] 24)).heap.size:=by simp
      have R2:=(HR.out.below AP.out).snoc (v:=.slice (some ⟨ga,0,none⟩) c.length cn) (by rw[←HCI.out];exact Ul.out) (fun q hq=>by
       have hq:ga=q:=by injection hq
       subst hq
       refine ⟨(Bq.out.lt ga rfl).2,fun e=>?_⟩
       have h1:=(HO.out.lt ga e).2
       have h2:=(Bq.out.lt ga rfl).1
       omega)
      have R3:=(R2.below ((Below.refl _ _).alloc (Nat.le_refl _) (.cells #[.slice (some ⟨ga,0,none⟩) c.length cn] 24))).grown hgrow hat (by simp)
      refine ⟨i+1,vs++[.slice (some ⟨ga,0,none⟩) c.length cn],by omega,by omega,by go_num,by simp[hvl],hown1,R3,?_⟩
      exact Below.grown ((AV.out.trans (AP.out.mono zb)).alloc (by omega) _) hgrow (by simp;omega) (fun q hq=>(HO.out.lt q hq).1)
  ·have hie:i=cs.length:=by omega
   subst hie
   obtain ⟨ao,co,rfl⟩:=AX hown
   have HCS:=hid (Wp.cls hvl hown)
   clear hown Wp AB
   go_wp2_with fail
   refine bodyPost_ret (v:=.tuple #[.slice ao cs.length co,.bool true]) (by simp[results,Tryz.results11,go_sem]) rfl ⟨_,rfl,HCS.out,AL.out.trans (AV.out.mono z1)⟩
namespace Cl
theorem xf (V:Nat→Int) (l:Int) (h:l≠0):hold V (-l)= -hold V l:=by
 unfold hold
 rw[show (-l).natAbs=l.natAbs by omega]
 by_cases c:l<0
 ·rw[if_pos c,if_neg (by omega)];omega
 ·rw[if_neg c,if_pos (by omega)]
def JF (T:Int→Prop) (V:Nat→Int):Prop:= ∀ l,l≠0→0<hold V l→T l
theorem jn {T:Int→Prop} {V:Nat→Int} {l:Int} (hc:JF T V) (ht:T l):JF T (IX V l):=by
 intro q q0 hq
 by_cases e:q.natAbs=l.natAbs
 ·have:q=l:=by
   unfold hold at hq
   rw[e,Yy V rfl] at hq
   by_cases c:q<0
   ·rw[if_pos c] at hq
    by_cases d:l<0
    ·omega
    ·rw[if_neg d] at hq;exact absurd hq (by decide)
   ·rw[if_neg c] at hq
    by_cases d:l<0
    ·rw[if_pos d] at hq;exact absurd hq (by decide)
    ·omega
  rw[this];exact ht
 ·refine hc q q0 ?_
  unfold hold at hq ⊢
  rw[YQ V e] at hq
  exact hq
theorem iW {V:Nat→Int} {l q:Int} (h:0<hold V q) (h0:hold V l=0∨q.natAbs≠l.natAbs):0<hold (IX V l) q:=by
 by_cases e:q.natAbs=l.natAbs
 ·exfalso
  rcases h0 with h0|h0
  ·unfold hold at h h0
   rw[e] at h
   by_cases c:q<0
   ·rw[if_pos c] at h
    by_cases d:l<0
    ·rw[if_pos d] at h0;omega
    ·rw[if_neg d] at h0;omega
   ·rw[if_neg c] at h
    by_cases d:l<0
    ·rw[if_pos d] at h0;omega
    ·rw[if_neg d] at h0;omega
  ·exact h0 e
 ·unfold hold at h ⊢
  rw[YQ V e];exact h
theorem dQ (V:Nat→Int) (l:Int):0<hold (IX V l) l:=by
 unfold hold
 rw[Yy V rfl]
 by_cases c:l<0
 ·rw[if_pos c,if_pos c];decide
 ·rw[if_neg c,if_neg c];decide
theorem tS {T:Int→Prop} (fn: ∀ l,l≠0→T l→T (-l)→False) {V:Nat→Int} (hc:JF T V) {c:List Int} (hz: ∀ l∈c,l≠0) (hs: ∃ l∈c,T l):EA V 0 c=(2,0)∨ ∃ k,EA V 0 c=(1,k)∧k∈c∧hold V k=0∧T k:=by
 obtain ⟨l0,hm,ht⟩:=hs
 have hnn: ¬hold V l0<0:=fun h=>fn l0 (hz l0 hm) ht (hc (-l0) (by have:=hz l0 hm;omega) (by rw[xf V l0 (hz l0 hm)];omega))
 rcases VG (V:=V) c 0 hz with e|⟨e,_,h⟩|⟨k,e,k0,_,kc,ka⟩
 ·exact .inl e
 ·exact absurd (h l0 hm) hnn
 ·rcases kc with ⟨k1,k2⟩|kc
  ·refine .inr ⟨k,e,k1,k2,?_⟩
   rcases ka l0 hm with q|q
   ·rw[←q];exact ht
   ·exact absurd q hnn
  ·exact absurd kc k0
def un (n:Nat) (V:Nat→Int):Nat:=(List.range (n+1)).countP fun j=>decide (V j=0)
theorem gA {α:Type} (p q:α→Bool) (l:List α) (Qv: ∀ a∈l,q a=true→p a=true) (h: ∃ a∈l,p a=true∧q a=false):l.countP q<l.countP p:=by
 induction l with
 |nil=>obtain ⟨a,ha,_⟩:=h;cases ha
 |cons x l ih=>
  have hle: ∀ l:List α,(∀ a∈l,q a=true→p a=true)→l.countP q≤l.countP p:=fun l hl=>List.countP_mono_left hl
  rw[List.countP_cons,List.countP_cons]
  have hl:=hle l (fun a ha=>Qv a (by simp[ha]))
  obtain ⟨a,ha,h1,h2⟩:=h
  rcases List.mem_cons.1 ha with e|e
  ·subst e
   rw[h1,h2]
   simp;omega
  ·have:=ih (fun a ha=>Qv a (by simp[ha])) ⟨a,e,h1,h2⟩
   have hx:=Qv x (by simp)
   cases hq:q x with
   |true=>rw[hx hq];simp;omega
   |false=>
    cases p x <;> simp <;> omega
theorem acD {n:Nat} {V:Nat→Int} {l:Int} (h0:hold V l=0) (hl:l.natAbs≤n):un n (IX V l)<un n V:=by
 have hv:V l.natAbs=0:=by
  unfold hold at h0
  split at h0 <;> omega
 refine gA _ _ _ (fun a _ ha=>?_) ⟨l.natAbs,by simp;omega,by simp[hv],?_⟩
 ·have ha:=of_decide_eq_true ha
  by_cases e:a=l.natAbs
  ·rw[e];exact decide_eq_true hv
  ·rw[YQ V e] at ha;exact decide_eq_true ha
 ·rw[Yy V rfl]
  split <;> decide
theorem ado (n:Nat) (V:Nat→Int):un n V≤n+1:=by
 unfold un
 have:=List.countP_le_length (p:=fun j=>decide (V j=0)) (l:=List.range (n+1))
 simpa using this
end Cl
structure n7 (w w':World) (g vars:Nat) (V:Nat→Int) (T:Int→Prop) (cs:List (List Int)) (xs:List Int):Prop where
 va:FI w' g vars V
 new:w.heap.size≤g
 con:Cl.JF T V
 set: ∀ l∈xs,0<Cl.hold V l
 fix: ∀ i,i<cs.length→Cl.Two V (cs.getD i [])
 A8:Below w.heap.size w w'
theorem fA (cs:List (List Int)) (cv lv:Value) (vars:Nat) (xs:List Int) (T:Int→Prop) (w:World) (hc:Ir w cv cs) (hl:BB w lv xs) (hvars:vars<100000000) (fn: ∀ l,l≠0→T l→T (-l)→False)
  (hz: ∀ i,i<cs.length→(∀ l∈cs.getD i [],l≠0∧l.natAbs≤vars)∧(cs.getD i []).length≤1000000∧ ∃ l∈cs.getD i [],T l) (hx: ∀ l∈xs,l≠0∧l.natAbs≤vars∧T l) (CN:xs.length≤1000) (hal:cs.length≤1000000000):
  Calls Tryz.prog 55 #[cv,.int .i64 vars,lv] w fun e w'=> ∃ g V,e=.returned (.tuple #[.slice (some ⟨g,0,none⟩) (vars+1) (vars+1),.bool true])∧n7 w w' g vars V T cs xs:=by
 obtain ⟨ac,cc,rfl,hcc⟩:=hc.val
 obtain ⟨al,cl,rfl⟩:=hl.val
 have HC:=hid hc
 have HL:=hid hl
 have HZ:=hid hz
 have HX:=hid hx
 have IA:=hid hvars
 have HFN:=hid fn
 have PY:=hid (show ∀ w:World,(Instr.makeSlice 24 (.int .i64 ((vars+1:Nat):Int)) (.int .i64 ((vars+1:Nat):Int))).run Tryz.prog w=.ok (.slice (some ⟨w.heap.size,0,none⟩) (vars+1) (vars+1)) (w.alloc (.cells (madeCells #[.int .i64 0] (vars+1)) 3)) from fun w=>run_make_row' 24 3 (.int .i64 0) 8 Tryz.underlying24 Tryz.Ds rfl .i64 .i64 (vars+1) (by omega) (by omega) w)
 have Gq:(vars:Int)<100000000:=by omega
 have Wo:(xs.length:Int)≤1000:=by omega
 have Wc:(cs.length:Int)≤1000000000:=by omega
 clear hc hl hz hx hvars fn hal hcc
 have hmk:=PY.out
 simp only[Int.natCast_add,Int.natCast_one] at hmk
 go_enter Tryz.func55,Tryz.ntmps55
 go_wp2_with fail
 clear hmk PY Gq
 obtain ⟨W1,hW1⟩: ∃ W1:World,w.alloc (.cells (madeCells #[.int .i64 0] (vars+1)) 3)=W1:=⟨_,rfl⟩
 have HVA:=hid (show FI W1 w.heap.size vars (fun _=>0) from ⟨by rw[←hW1];exact World.rowIs_made w (.int .i64 0) (vars+1) 3,fun _=>.inl rfl⟩)
 have AL:=hid (show Below w.heap.size w W1 by rw[←hW1];exact (Below.refl _ _).alloc (Nat.le_refl _) _)
 rw[hW1]
 clear hW1
 go_loopg [9] xs.length (fun gk iv wr=> ∃ (i:Nat) (V:Nat→Int),i≤xs.length∧xs.length≤i+gk∧iv=.int .i64 i∧FI wr w.heap.size vars V∧Cl.JF T V∧(∀ j,j<i→0<Cl.hold V (xs.getD j 0))∧Below w.heap.size w wr)
 case atStart=>exact ⟨0,_,Nat.zero_le _,by omega,rfl,HVA.out,fun l _ h=>by unfold Cl.hold at h;split at h <;> simp at h,fun j hj=>absurd hj (by omega),AL.out⟩
 case round=>
  obtain ⟨i,V,hi,Ba,rfl,BU,hcn,hst,AB⟩:=hrel
  have HV:=hid BU
  have GM:=hid hcn
  have HST:=hid hst
  have AV:=hid AB
  have zb:=AB.size
  by_cases hlt:i<xs.length
  ·obtain ⟨g',off,rfl,hcl⟩:=HL.out.cell hlt
   have x1:=cell_later AB hcl
   obtain ⟨m0,m1,m2⟩:=HX.out _ (QO hlt)
   obtain ⟨l,hle⟩: ∃ l,xs.getD i 0=l:=⟨_,rfl⟩
   rw[hle] at x1 m0 m1 m2
   have Hz:=hid hle
   have Um:=hid (ji w.heap.size vars (vars+1) V l wr BU m1 (by have:=IA.out;omega))
   have Ea:=hid m2
   have HM0:=hid m0
   clear hcl hle BU hcn hst AB m0 m1 m2
   go_wp2_with (first|(go_at_call 92;refine Um.out.mono ?_;rintro e w2 ⟨rfl,hw2⟩;have CO:=hid hw2;clear hw2))
   go_roundg (gk - 1)
   case measure=>omega
   case rel=>
    refine ⟨i+1,Cl.IX V l,by omega,by omega,by go_num,?_,Cl.jn GM.out Ea.out,fun j hj=>?_,?_⟩
    ·rw[CO.out];exact HV.out.put l
    ·by_cases c:j=i
     ·rw[c,Hz.out];exact Cl.dQ V l
     ·by_cases e:(xs.getD j 0).natAbs=l.natAbs
      ·have Ii:j<xs.length:=by omega
       obtain ⟨q0,_,q2⟩:=HX.out _ (QO Ii)
       have:xs.getD j 0=l:=by
        by_cases d:xs.getD j 0= -l
        ·rw[d] at q2;exact absurd q2 (fun q2=>HFN.out l HM0.out Ea.out q2)
        ·omega
       rw[this];exact Cl.dQ V l
      ·exact Cl.iW (HST.out j (by omega)) (.inr e)
    ·rw[CO.out];exact AV.out.setCell (Nat.le_refl _) _
  ·have FC:=hid (show ∀ l∈xs,0<Cl.hold V l from fun l hl=>by
    obtain ⟨j,hj,rfl⟩:=List.mem_iff_getElem.1 hl
    have:=hst j (by omega)
    rw[List.getD_eq_getElem?_getD,List.getElem?_eq_getElem hj] at this
    exact this)
   clear hst BU hcn AB
   go_wp2_with fail
   go_loopg [10,11,12,13] (vars+3) (fun gk mv iv k1 k2 wr=> ∃ (m:Bool) (V:Nat→Int),mv=.bool m∧FI wr w.heap.size vars V∧Cl.JF T V∧(∀ l∈xs,0<Cl.hold V l)∧(m=true→Cl.un vars V+1≤gk)∧(m=false→ ∀ i,i<cs.length→Cl.Two V (cs.getD i []))∧Below w.heap.size w wr)
   case atStart=>exact ⟨true,V,rfl,HV.out,GM.out,FC.out,fun _=>(by have:=Cl.ado vars V;omega),fun h=>(by cases h),AV.out⟩
   case round=>
    clear FC HV GM HST AV zb hi Ba hlt
    obtain ⟨m,V,rfl,BU,hcn,Kg,hun,hfx,AB⟩:=hrel
    cases m with
    |false=>
     have Pu:=hid (show n7 w wr w.heap.size vars V T cs xs from ⟨BU,Nat.le_refl _,hcn,Kg,hfx rfl,AB⟩)
     clear BU hcn Kg hun hfx AB
     go_wp2_with fail
     refine bodyPost_ret (v:=.tuple #[.slice (some ⟨w.heap.size,0,none⟩) (vars+1) (vars+1),.bool true]) (by simp[results,Tryz.results55,go_sem]) rfl ⟨_,_,rfl,Pu.out⟩
    |true=>
     have hun:=hun rfl
     obtain ⟨G,hG⟩: ∃ G:Nat,G=gk:=⟨_,rfl⟩
     have HV:=hid BU
     have GM:=hid hcn
     have FC:=hid Kg
     have AV:=hid AB
     clear BU hcn Kg hfx AB
     go_wp2_with fail
     go_loopg [10,11,12,13] cs.length (fun gk mv iv k1 k2 wr=> ∃ (i:Nat) (m:Bool) (V':Nat→Int),i≤cs.length∧cs.length≤i+gk∧iv=.int .i64 i∧mv=.bool m∧FI wr w.heap.size vars V'∧Cl.JF T V'∧(∀ l∈xs,0<Cl.hold V' l)∧(m=true→Cl.un vars V'<Cl.un vars V)∧(m=false→V'=V∧ ∀ j,j<i→Cl.Two V (cs.getD j []))∧Below w.heap.size w wr)
     case atStart=>exact ⟨0,false,V,Nat.zero_le _,by omega,rfl,rfl,HV.out,GM.out,FC.out,fun h=>(by cases h),fun _=>⟨rfl,fun j hj=>absurd hj (by omega)⟩,AV.out⟩
     case round=>
      clear HV GM FC AV
      obtain ⟨i,m,V',hi,Ba,rfl,rfl,BU,hcn,Kg,Kh,Gr,AB⟩:=hrel
      have HV:=hid BU
      have GM:=hid hcn
      have FC:=hid Kg
      have AV:=hid AB
      have IB:=hid Kh
      have Un:=hid Gr
      have zb:=AB.size
      by_cases hlt:i<cs.length
      ·obtain ⟨gq,oq,cq,uq,e2,OC,iq⟩:=HC.out.at_ i hlt
       have eq:=(slice_inj e2).1
       subst eq
       have x3:=cell_later AB OC
       obtain ⟨zq,zl,zt⟩:=HZ.out i hlt
       have Bq:=hid (jk (cs.getD i []) uq w.heap.size vars (vars+1) V' wr (iq.below AB) BU zq zl (by have:=IA.out;omega))
       have Df:=Cl.tS HFN.out hcn (fun l hl=>(zq l hl).1) zt
       have Xj:=hid (fun l hl=>(zq l hl).2)
       clear e2 OC iq zq zl zt BU hcn Kg Kh Gr AB
       rcases Df with Df|⟨q,Df,qm,q0,qt⟩
       ·rw[Df] at Bq
        have EX:=hid (Cl.aaO (V:=V') (c:=cs.getD i []) (by rw[Df]))
        clear Df
        go_wp2_with (first|(go_at_call 57;refine Bq.out.mono ?_;rintro e w1 ⟨rfl,hb1⟩;have AP:=hid hb1;clear hb1))
        go_roundg (gk - 1)
        case measure=>omega
        case rel=>
         refine ⟨i+1,m,V',by omega,by omega,by go_num,rfl,HV.out.later AP.out,GM.out,FC.out,IB.out,fun h=>?_,AV.out.trans (AP.out.mono zb)⟩
         obtain ⟨e,hj⟩:=Un.out h
         refine ⟨e,fun j Ii=>?_⟩
         by_cases c:j=i
         ·rw[c, ←e];exact EX.out
         ·exact hj j (by omega)
       ·rw[Df] at Bq
        have hqm:=Xj.out q qm
        have U1:=hid q0
        have HQT:=hid qt
        clear Df qm q0 qt
        go_upto_region 17 with (first|(go_at_call 57;refine Bq.out.mono ?_;rintro e w1 ⟨rfl,hb1⟩;have AP:=hid hb1;clear hb1))
        have HV1:=hid (HV.out.later AP.out)
        have Um:=hid (ji w.heap.size vars (vars+1) V' q w1 HV1.out hqm (by have:=IA.out;omega))
        have Cq:=hid (AV.out.trans (AP.out.mono zb))
        go_wp2_with (first|(go_at_call 92;refine Um.out.mono ?_;rintro e w2 ⟨rfl,hw2⟩;have CO:=hid hw2;clear hw2))
        go_roundg (gk - 1)
        case measure=>omega
        case rel=>
         have Iw:=Cl.acD (n:=vars) U1.out hqm
         have alm:Cl.un vars V'≤Cl.un vars V:=by
          cases m with
          |true=>exact Nat.le_of_lt (IB.out rfl)
          |false=>rw[(Un.out rfl).1];exact Nat.le_refl _
         refine ⟨i+1,true,Cl.IX V' q,by omega,by omega,by go_num,rfl,?_,Cl.jn GM.out HQT.out,fun l hl=>Cl.iW (FC.out l hl) (.inl U1.out),fun _=>by omega,fun h=>(by cases h),?_⟩
         ·rw[CO.out];exact HV1.out.put q
         ·rw[CO.out];exact Cq.out.setCell (Nat.le_refl _) _
      ·clear BU hcn Kg Kh Gr AB
       go_wp2_with fail
       go_roundg (G - 1)
       case measure=>omega
       case rel=>
        refine ⟨m,V',rfl,HV.out,GM.out,FC.out,fun h=>?_,fun h=>?_,AV.out⟩
        ·have:=IB.out h;omega
        ·obtain ⟨e,hj⟩:=Un.out h
         rw[e]
         exact fun j Ii=>hj j (by omega)
namespace Dg
def val (nodes:List Nd) (x:Nat→Bool):Nat→Nat→Bool
 |0,i=>i==1
 |f+1,i=>if i<2 then i==1 else if x (AG nodes i).bit then val nodes x f (AG nodes i).hi else val nodes x f (AG nodes i).lo
def vl (nodes:List Nd) (x:Nat→Bool) (i:Nat):Bool:=val nodes x i i
def NM (nodes:List Nd):Prop:= ∀ i,2≤i→i<nodes.length→(AG nodes i).lo<i∧(AG nodes i).hi<i
theorem Ok.desc {n M:Nat} {s:St} (h:Ok n M s):NM s.nodes:=fun i a b=>⟨h.lo i a b,h.hi i a b⟩
theorem SJ (nodes:List Nd) (x:Nat→Bool) (f i:Nat) (h:i<2):val nodes x f i=(i==1):=by
 cases f with
 |zero=>rfl
 |succ f=>unfold val;rw[if_pos h]
theorem iX {nodes:List Nd} (hd:NM nodes) (x:Nat→Bool): ∀ i,i<nodes.length→ ∀ f,i≤f→val nodes x f i=vl nodes x i:=by
 intro i
 induction i using Nat.strongRecOn with
 |ind i ih=>
  intro hi f hf
  by_cases c:i<2
  ·unfold vl;rw[SJ _ _ _ _ c,SJ _ _ _ _ c]
  ·obtain ⟨f,rfl⟩: ∃ g,f=g+1:=⟨f - 1,by omega⟩
   obtain ⟨j,rfl⟩: ∃ j,i=j+1:=⟨i - 1,by omega⟩
   obtain ⟨h1,h2⟩:=hd (j+1) (by omega) hi
   unfold vl val
   rw[if_neg c,if_neg c]
   split
   ·rw[ih _ h2 (by omega) f (by omega),ih _ h2 (by omega) j (by omega)]
   ·rw[ih _ h1 (by omega) f (by omega),ih _ h1 (by omega) j (by omega)]
theorem M4 (nodes:List Nd) (x:Nat→Bool) (i:Nat) (h:i<2):vl nodes x i=(i==1):=SJ _ _ _ _ h
theorem M5 {nodes:List Nd} (hd:NM nodes) (x:Nat→Bool) {i:Nat} (h2:2≤i) (hi:i<nodes.length):vl nodes x i=if x (AG nodes i).bit then vl nodes x (AG nodes i).hi else vl nodes x (AG nodes i).lo:=by
 obtain ⟨j,rfl⟩: ∃ j,i=j+1:=⟨i - 1,by omega⟩
 obtain ⟨a,b⟩:=hd (j+1) h2 hi
 show val nodes x (j+1) (j+1)=_
 unfold val
 rw[if_neg (by omega)]
 split
 ·exact iX hd x _ (by omega) j (by omega)
 ·exact iX hd x _ (by omega) j (by omega)
theorem iY (l m:List Nd) (i:Nat) (h:i<l.length):AG (l++m) i=AG l i:=by simp[AG,List.getD_eq_getElem?_getD,List.getElem?_append_left h]
theorem Qb {nodes:List Nd} (hd:NM nodes) (m:List Nd) (x:Nat→Bool): ∀ i,i<nodes.length→vl (nodes++m) x i=vl nodes x i:=by
 have key: ∀ i,i<nodes.length→ ∀ f,i≤f→val (nodes++m) x f i=val nodes x f i:=by
  intro i
  induction i using Nat.strongRecOn with
  |ind i ih=>
   intro hi f hf
   by_cases c:i<2
   ·rw[SJ _ _ _ _ c,SJ _ _ _ _ c]
   ·obtain ⟨f,rfl⟩: ∃ g,f=g+1:=⟨f - 1,by omega⟩
    obtain ⟨h1,h2⟩:=hd i (by omega) hi
    unfold val
    rw[if_neg c,if_neg c,iY _ _ _ hi]
    split
    ·exact ih _ h2 (by omega) f (by omega)
    ·exact ih _ h1 (by omega) f (by omega)
 intro i hi
 exact key i hi i (Nat.le_refl _)
def Ek (behind:List Nat):Nat→Nat→List Nat
 |0,_=>[]
 |f+1,n=>if n=0 then [] else n::Ek behind f (behind.getD n 0)
structure Uq (sec:List Bool) (M:Nat) (pos:Nat→Nat) (s:St):Prop where
 z0:AG s.nodes 0={}
 z1:AG s.nodes 1={}
 ne: ∀ i,2≤i→i<s.nodes.length→(AG s.nodes i).lo≠(AG s.nodes i).hi
 uq: ∀ i j,2≤i→i<s.nodes.length→2≤j→j<s.nodes.length→(AG s.nodes i).bit=(AG s.nodes j).bit→(AG s.nodes i).lo=(AG s.nodes j).lo→(AG s.nodes i).hi=(AG s.nodes j).hi→i=j
 ch: ∀ i,2≤i→i<s.nodes.length→i∈Ek s.behind s.nodes.length (s.heads (chain M (AG s.nodes i).bit (AG s.nodes i).lo (AG s.nodes i).hi))
 lo: ∀ i,2≤i→i<s.nodes.length→2≤(AG s.nodes i).lo→pos (AG s.nodes (AG s.nodes i).lo).bit<pos (AG s.nodes i).bit
 hi: ∀ i,2≤i→i<s.nodes.length→2≤(AG s.nodes i).hi→pos (AG s.nodes (AG s.nodes i).hi).bit<pos (AG s.nodes i).bit
 sc: ∀ i,2≤i→i<s.nodes.length→(AG s.nodes i).sec=(sec.getD ((AG s.nodes i).bit/4) false||(AG s.nodes (AG s.nodes i).lo).sec||(AG s.nodes (AG s.nodes i).hi).sec)
theorem uq0 (sec:List Bool) (M:Nat) (pos:Nat→Nat):Uq sec M pos {}:=
 ⟨rfl,rfl,fun i h h2=>absurd (show i<2 from h2) (by omega),fun i j h h2=>absurd (show i<2 from h2) (by omega),fun i h h2=>absurd (show i<2 from h2) (by omega),fun i h h2=>absurd (show i<2 from h2) (by omega),fun i h h2=>absurd (show i<2 from h2) (by omega),fun i h h2=>absurd (show i<2 from h2) (by omega)⟩
theorem xg (nodes:List Nd) (behind:List Nat) (b lo hi:Nat): ∀ f n,look nodes behind b lo hi f n≠0→look nodes behind b lo hi f n∈Ek behind f n∧(AG nodes (look nodes behind b lo hi f n)).bit=b∧(AG nodes (look nodes behind b lo hi f n)).lo=lo∧(AG nodes (look nodes behind b lo hi f n)).hi=hi:=by
 intro f
 induction f with
 |zero=>intro n h;exact absurd rfl h
 |succ f ih=>
  intro n h
  unfold look at h ⊢
  unfold Ek
  by_cases c:n=0
  ·rw[if_pos c] at h;exact absurd rfl h
  ·rw[if_neg c] at h ⊢
   rw[if_neg c]
   split at h
   ·next hc=>rw[if_pos hc];exact ⟨List.mem_cons_self,hc⟩
   ·next hc=>
    rw[if_neg hc]
    have:=ih _ h
    exact ⟨List.mem_cons_of_mem _ this.1,this.2⟩
theorem tT (nodes:List Nd) (behind:List Nat) (b lo hi:Nat): ∀ f n,look nodes behind b lo hi f n=0→ ∀ m∈Ek behind f n, ¬((AG nodes m).bit=b∧(AG nodes m).lo=lo∧(AG nodes m).hi=hi):=by
 intro f
 induction f with
 |zero=>intro n h m hm;cases hm
 |succ f ih=>
  intro n h m hm
  unfold look at h
  unfold Ek at hm
  by_cases c:n=0
  ·rw[if_pos c] at hm;cases hm
  ·rw[if_neg c] at h hm
   split at h
   ·exact absurd h c
   ·next hc=>
    rcases List.mem_cons.1 hm with e|e
    ·rw[e];exact hc
    ·exact ih _ h m e
theorem iZ (behind:List Nat) (L:Nat) (hd: ∀ i,0<i→i<L→behind.getD i 0<i): ∀ n,n<L→ ∀ f,n≤f→Ek behind f n=Ek behind n n:=by
 intro n
 induction n using Nat.strongRecOn with
 |ind n ih=>
  intro hn f hf
  by_cases c:n=0
  ·subst c
   cases f with
   |zero=>rfl
   |succ f=>unfold Ek;simp
  ·obtain ⟨f,rfl⟩: ∃ g,f=g+1:=⟨f - 1,by omega⟩
   obtain ⟨j,rfl⟩: ∃ j,n=j+1:=⟨n - 1,by omega⟩
   have h1:=hd (j+1) (by omega) hn
   unfold Ek
   rw[if_neg c,if_neg c,ih _ h1 (by omega) f (by omega),ih _ h1 (by omega) j (by omega)]
theorem aaS (behind:List Nat) (L d:Nat) (hl:behind.length=L) (hd: ∀ i,0<i→i<L→behind.getD i 0<i): ∀ n,n<L→Ek (behind++[d]) n n=Ek behind n n:=by
 have key: ∀ n,n<L→ ∀ f,Ek (behind++[d]) f n=Ek behind f n:=by
  intro n
  induction n using Nat.strongRecOn with
  |ind n ih=>
   intro hn f
   cases f with
   |zero=>rfl
   |succ f=>
    unfold Ek
    by_cases c:n=0
    ·rw[if_pos c,if_pos c]
    ·rw[if_neg c,if_neg c,Vc _ _ _ (by omega),ih _ (hd n (by omega) hn) (by have:=hd n (by omega) hn;omega) f]
 intro n hn
 exact key n hn n
def Under (pos:Nat→Nat) (nodes:List Nd) (q i:Nat):Prop:=i<nodes.length∧(2≤i→pos (AG nodes i).bit<q)
theorem Under.app {pos:Nat→Nat} {nodes:List Nd} {q i:Nat} (h:Under pos nodes q i) (m:List Nd):Under pos (nodes++m) q i:=⟨by rw[List.length_append];exact Nat.lt_of_lt_of_le h.1 (Nat.le_add_right _ _),fun h2=>by rw[iY _ _ _ h.1];exact h.2 h2⟩
theorem Under.mono {pos:Nat→Nat} {nodes:List Nd} {q r i:Nat} (h:Under pos nodes q i) (hq:q≤r):Under pos nodes r i:=⟨h.1,fun h2=>Nat.lt_of_lt_of_le (h.2 h2) hq⟩
theorem aaT {sec:List Bool} {n M:Nat} {pos:Nat→Nat} {s:St} (ok:Ok n M s) (h:Uq sec M pos s) {b lo hi:Nat} (hb:b<4*n) (hne:lo≠hi) (hlo:Under pos s.nodes (pos b) lo) (hhi:Under pos s.nodes (pos b) hi) (hf:found M s b lo hi=0):Uq sec M pos (push sec M s b lo hi):=by
 have hL:(push sec M s b lo hi).nodes.length=s.nodes.length+1:=by simp[push]
 have old: ∀ i,i<s.nodes.length→AG (push sec M s b lo hi).nodes i=AG s.nodes i:=fun i hi=>Vb _ _ _ hi
 have new:AG (push sec M s b lo hi).nodes s.nodes.length=Si sec s b lo hi:=QG _ _
 have two:=ok.two
 have agb:=tT s.nodes s.behind b lo hi _ _ hf
 have ig: ∀ i,2≤i→i<s.nodes.length→ ¬((AG s.nodes i).bit=b∧(AG s.nodes i).lo=lo∧(AG s.nodes i).hi=hi):=fun i h2 hi c=>by
  have:=h.ch i h2 hi
  rw[c.1,c.2.1,c.2.2] at this
  exact agb i this c
 refine ⟨by rw[old 0 (by omega)];exact h.z0,by rw[old 1 (by omega)];exact h.z1,fun i h2 hz=>?_,fun i j h2 hz h2j hj e1 e2 e3=>?_,fun i h2 hz=>?_,fun i h2 hz h3=>?_,fun i h2 hz h3=>?_,fun i h2 hz=>?_⟩
 all_goals rw[hL] at hz
 ·by_cases c:i<s.nodes.length
  ·rw[old i c];exact h.ne i h2 c
  ·have:i=s.nodes.length:=by omega
   subst this
   rw[new];exact hne
 ·rw[hL] at hj
  by_cases c:i<s.nodes.length
  ·by_cases d:j<s.nodes.length
   ·rw[old i c,old j d] at e1 e2 e3
    exact h.uq i j h2 c h2j d e1 e2 e3
   ·have:j=s.nodes.length:=by omega
    subst this
    rw[old i c,new] at e1 e2 e3
    exact absurd ⟨e1,e2,e3⟩ (ig i h2 c)
  ·have:i=s.nodes.length:=by omega
   subst this
   by_cases d:j<s.nodes.length
   ·rw[new,old j d] at e1 e2 e3
    exact absurd ⟨e1.symm,e2.symm,e3.symm⟩ (ig j h2j d)
   ·omega
 ·have hh:=ok.heads
  have hbl:s.behind.length=s.nodes.length:=ok.len
  have lN: ∀ m f,m<s.nodes.length→s.nodes.length≤f→Ek (s.behind++[s.heads (chain M b lo hi)]) f m=Ek s.behind s.nodes.length m:=fun m f hm hf2=>by
   have okp:=(ok.push sec hb hlo.1 hhi.1)
   rw[iZ (s.behind++[s.heads (chain M b lo hi)]) (s.nodes.length+1) (fun i h0 h1=>by
      have:=okp.dec i h0 (by rw[hL];exact h1)
      exact this) m (by omega) f (by omega),aaS s.behind s.nodes.length _ hbl ok.dec m hm, ←iZ s.behind s.nodes.length ok.dec m hm s.nodes.length (by omega)]
  have agc: ∀ c,(push sec M s b lo hi).heads c=if c=chain M b lo hi then s.nodes.length else s.heads c:=fun _=>rfl
  have hbe:(push sec M s b lo hi).behind=s.behind++[s.heads (chain M b lo hi)]:=rfl
  rw[hL,agc,hbe]
  have hnew:Ek (s.behind++[s.heads (chain M b lo hi)]) (s.nodes.length+1) s.nodes.length=s.nodes.length::Ek s.behind s.nodes.length (s.heads (chain M b lo hi)):=by
   rw[show Ek (s.behind++[s.heads (chain M b lo hi)]) (s.nodes.length+1) s.nodes.length=if s.nodes.length=0 then [] else s.nodes.length::Ek (s.behind++[s.heads (chain M b lo hi)]) s.nodes.length ((s.behind++[s.heads (chain M b lo hi)]).getD s.nodes.length 0) from rfl,if_neg (by omega)]
   congr 1
   rw[show (s.behind++[s.heads (chain M b lo hi)]).getD s.nodes.length 0=s.heads (chain M b lo hi) by rw[←hbl];exact Vd _ _]
   exact lN _ _ (hh _) (Nat.le_refl _)
  by_cases c:i<s.nodes.length
  ·rw[old i c]
   have hm:=h.ch i h2 c
   by_cases e:chain M (AG s.nodes i).bit (AG s.nodes i).lo (AG s.nodes i).hi=chain M b lo hi
   ·rw[if_pos e,hnew]
    rw[e] at hm
    exact List.mem_cons_of_mem _ hm
   ·rw[if_neg e,lN _ _ (hh _) (by omega)]
    exact hm
  ·have:i=s.nodes.length:=by omega
   subst this
   rw[new]
   show _∈Ek _ _ (if chain M b lo hi=chain M b lo hi then _ else _)
   rw[if_pos rfl,hnew]
   exact List.mem_cons_self
 ·by_cases c:i<s.nodes.length
  ·rw[old i c] at h3 ⊢
   rw[old _ (by have:=ok.lo i h2 c;omega)]
   exact h.lo i h2 c h3
  ·have:i=s.nodes.length:=by omega
   subst this
   rw[new] at h3 ⊢
   show pos (AG (push sec M s b lo hi).nodes lo).bit<pos b
   rw[old lo hlo.1]
   exact hlo.2 h3
 ·by_cases c:i<s.nodes.length
  ·rw[old i c] at h3 ⊢
   rw[old _ (by have:=ok.hi i h2 c;omega)]
   exact h.hi i h2 c h3
  ·have:i=s.nodes.length:=by omega
   subst this
   rw[new] at h3 ⊢
   show pos (AG (push sec M s b lo hi).nodes hi).bit<pos b
   rw[old hi hhi.1]
   exact hhi.2 h3
 ·by_cases c:i<s.nodes.length
  ·rw[old i c,old _ (by have:=ok.lo i h2 c;omega),old _ (by have:=ok.hi i h2 c;omega)]
   exact h.sc i h2 c
  ·have:i=s.nodes.length:=by omega
   subst this
   rw[new]
   show _=(sec.getD (b/4) false||(AG (push sec M s b lo hi).nodes lo).sec||(AG (push sec M s b lo hi).nodes hi).sec)
   rw[old lo hlo.1,old hi hhi.1]
   rfl
end Dg
end Go.Proofs.YtgddmpmcnjlcjaaGreatDoor
