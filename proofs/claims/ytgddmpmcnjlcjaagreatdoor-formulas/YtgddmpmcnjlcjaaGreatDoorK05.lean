import Derived.Test.YtgddmpmcnjlcjaaGreatDoorK04
import Derived.Test.YtgddmpmcnjlcjaaGreatDoorK01
import Derived.Test.YtgddmpmcnjlcjaaGreatDoorK03
import Derived.Test.YtgddmpmcnjlcjaaGreatDoorK02
set_option maxRecDepth 100000
set_option maxHeartbeats 4000000
namespace Go.Proofs.YtgddmpmcnjlcjaaGreatDoor
set_option linter.unusedVariables false
def xb (a:List Nat):Nat→Bool:=fun b=>(a.getD (b/4) 0).testBit (b%4)
namespace Dg
theorem ab8 (c:Bool) (m:Nat):(c.toNat).testBit m=(c && decide (m=0)):=by
 cases c
 ·simp
 ·cases m with
  |zero=>rfl
  |succ m=>show Nat.testBit 1 (m+1)=_;rw[Nat.testBit_succ];simp
theorem ab9 (bits:List Nat) (u i t:Nat) (ht:t<4): ∀ N,(Ga bits u N i).testBit t=true↔ ∃ L,L<N∧bits.getD L 0=4*i+t∧u.testBit L=true:=by
 intro N
 induction N with
 |zero=>exact ⟨fun h=>(by rw[show Ga bits u 0 i=0 from rfl,Nat.zero_testBit] at h;cases h),fun ⟨L,h,_⟩=>absurd h (by omega)⟩
 |succ N ih=>
  have e:Ga bits u (N+1) i=if i=bits.getD N 0/4 then Ga bits u N (bits.getD N 0/4)|||((u >>> N &&& 1)<<<(bits.getD N 0%4)) else Ga bits u N i:=rfl
  rw[e]
  by_cases c:i=bits.getD N 0/4
  ·rw[if_pos c, ←c,Nat.testBit_or,tj,Nat.testBit_shiftLeft,ab8,Bool.or_eq_true,ih]
   constructor
   ·rintro (⟨L,h1,h2,h3⟩|h)
    ·exact ⟨L,by omega,h2,h3⟩
    ·simp only[Bool.and_eq_true,decide_eq_true_eq] at h
     exact ⟨N,by omega,by omega,h.2.1⟩
   ·rintro ⟨L,h1,h2,h3⟩
    by_cases d:L=N
    ·subst d
     refine .inr ?_
     simp only[Bool.and_eq_true,decide_eq_true_eq]
     exact ⟨by omega,h3,by omega⟩
    ·exact .inl ⟨L,by omega,h2,h3⟩
  ·rw[if_neg c,ih]
   constructor
   ·rintro ⟨L,h1,h2,h3⟩;exact ⟨L,by omega,h2,h3⟩
   ·rintro ⟨L,h1,h2,h3⟩
    by_cases d:L=N
    ·subst d;exact absurd (by omega:i=bits.getD L 0/4) c
    ·exact ⟨L,by omega,h2,h3⟩
theorem acU (n:Nat) (a:List Nat) (la:a.length=n) (H_: ∀ i,a.getD i 0<16):inp (order n) n (ix (order n) (xb a) (order n).length 0)=a:=by
 unfold inp
 refine List.ext_getElem (by simp[la]) fun i h1 h2=>?_
 have hi:i<n:=by simpa using h1
 rw[List.getElem_map,List.getElem_range]
 have hai:a.getD i 0=a[i]:=by rw[List.getD_eq_getElem?_getD,List.getElem?_eq_getElem h2];rfl
 rw[←hai]
 refine Nat.eq_of_testBit_eq fun t=>?_
 by_cases ht:t<4
 ·have hb:(4*i+t)/4=i∧(4*i+t)%4=t:=by omega
  obtain ⟨p1,p2⟩:=oI n (4*i+t) (by omega)
  have key:(Ga (order n) (ix (order n) (xb a) (order n).length 0) (order n).length i).testBit t=true↔(a.getD i 0).testBit t=true:=by
   rw[ab9 _ _ _ _ ht]
   constructor
   ·rintro ⟨L,h1,h2,h3⟩
    rw[kX _ _ _ _ h1,h2] at h3
    unfold xb at h3
    rw[hb.1,hb.2] at h3
    exact h3
   ·intro h
    refine ⟨pos n (4*i+t),p2,p1,?_⟩
    rw[kX _ _ _ _ p2,p1]
    unfold xb
    rw[hb.1,hb.2]
    exact h
  cases h:(a.getD i 0).testBit t with
  |true=>exact key.2 h
  |false=>
   cases h':(Ga (order n) (ix (order n) (xb a) (order n).length 0) (order n).length i).testBit t with
   |true=>rw[key.1 h'] at h;cases h
   |false=>rfl
 ·have big: ∀ v,v<16→v.testBit t=false:=fun v hv=>Nat.testBit_lt_two_pow (Nat.lt_of_lt_of_le hv (by
   have:2 ^ 4≤2 ^ t:=Nat.pow_le_pow_right (by omega) (by omega)
   omega))
  rw[big _ (Zg _ _ _ _),big _ (H_ i)]
end Dg
theorem jw (v t:Nat):(v/2 ^ t)%2=1↔v.testBit t=true:=by
 rw[Nat.testBit_eq_decide_div_mod_eq];simp
namespace Cl
section
variable {sec:List Bool} {nodes:List Dg.Nd} {D:List Nat}
theorem YX {S:Nat→Bool→Prop} {v n:Nat}: ∀ t,(∀ q,q<t→S (n+1+q) (v.testBit q))→ ∀ l∈Bl v n t,l≠0∧n<l.natAbs∧l.natAbs≤n+t∧Tr S l
 |0,_=>fun l h=>(by cases h)
 |t+1,hS=>fun l hl=>by
  rcases List.mem_append.1 (show l∈Bl v n t++[_] from hl) with h|h
  ·obtain ⟨a,b,c,d⟩:=YX t (fun q hq=>hS q (by omega)) l h
   exact ⟨a,b,by omega,d⟩
  ·have h:=List.mem_singleton.1 h
   have hs:=hS t (by omega)
   by_cases c:(v/2 ^ t)%2=1
   ·rw[if_pos c] at h
    rw[(jw v t).1 c] at hs
    subst h
    exact ⟨by omega,by omega,by omega,Q_.2 hs⟩
   ·rw[if_neg c] at h
    have:v.testBit t=false:=by
     cases e:v.testBit t with
     |false=>rfl
     |true=>exact absurd ((jw v t).2 e) c
    rw[this] at hs
    subst h
    exact ⟨by omega,by omega,by omega,(Qa (by omega)).2 hs⟩
theorem VH {v n:Nat}: ∀ t q,q<t→ ∃ l∈Bl v n t,l.natAbs=n+1+q
 |0,q,h=>absurd h (by omega)
 |t+1,q,h=>by
  by_cases c:q=t
  ·subst c
   refine ⟨_,List.mem_append_right _ (List.mem_singleton.2 rfl),?_⟩
   split <;> omega
  ·obtain ⟨l,hl,e⟩:=VH (v:=v) (n:=n) t q (by omega)
   exact ⟨l,List.mem_append_left _ hl,e⟩
theorem fK (a b:List Nat): ∀ i,i≤sec.length→ ∀ l∈EL a i,l≠0∧l.natAbs≤AK sec∧Tr (Ms sec nodes D (xb a) (xb b)) l
 |0,_=>fun l h=>(by cases h)
 |i+1,hi=>fun l hl=>by
  have hv:=Jo sec
  rcases List.mem_append.1 (show l∈EL a i++_ from hl) with h|h
  ·exact fK a b i (by omega) l h
  ·obtain ⟨q1,q2,q3,q4⟩:=YX (S:=Ms sec nodes D (xb a) (xb b)) 4 (fun q hq=>by
    have:=Ms.Ki (sec:=sec) (nodes:=nodes) (D:=D) (x:=xb a) (y:=xb b) (4*i+q) (by omega)
    rw[M8 sec (by omega)] at this
    unfold xb at this
    rw[show (4*i+q)/4=i by omega,show (4*i+q)%4=q by omega,show 4*i+q+1=4*i+1+q by omega] at this
    exact this) l h
   exact ⟨q1,by omega,q4⟩
theorem YH (a b:List Nat): ∀ i,i≤sec.length→ ∀ l∈F_ sec b i,l≠0∧l.natAbs≤AK sec∧Tr (Ms sec nodes D (xb a) (xb b)) l
 |0,_=>fun l h=>(by cases h)
 |i+1,hi=>fun l hl=>by
  have hl:l∈(if sec.getD i false=true then F_ sec b i++Bl (b.getD i 0) (Ar sec i).1 4 else F_ sec b i):=hl
  by_cases hs:sec.getD i false=true
  ·rw[if_pos hs] at hl
   rcases List.mem_append.1 hl with h|h
   ·exact YH a b i (by omega) l h
   ·obtain ⟨q1,q2,q3,q4⟩:=YX (S:=Ms sec nodes D (xb a) (xb b)) 4 (fun q hq=>by
     have hd:(4*i+q)/4=i:=by omega
     have:=Ms.Kj (sec:=sec) (nodes:=nodes) (D:=D) (x:=xb a) (y:=xb b) (4*i+q) (by omega)
     rw[(L6 sec (by omega) (by rw[hd];exact hs)).1] at this
     unfold xb at this
     rw[hd,show (4*i+q)%4=q by omega] at this
     exact this) l h
    have h1:=Mw sec i
    rw[if_pos hs] at h1
    have h2:=YU sec (show i+1≤sec.length from hi)
    refine ⟨q1,?_,q4⟩
    unfold AK
    omega
  ·rw[if_neg hs] at hl;exact YH a b i (by omega) l hl
theorem abC (a b:List Nat): ∀ l∈FX sec a b,l≠0∧l.natAbs≤AK sec∧Tr (Ms sec nodes D (xb a) (xb b)) l:=fun l hl=>by
 rcases List.mem_append.1 hl with h|h
 ·exact fK a b _ (Nat.le_refl _) l h
 ·exact YH a b _ (Nat.le_refl _) l h
theorem dz (a:List Nat): ∀ i q,q<4*i→ ∃ l∈EL a i,l.natAbs=q+1
 |0,q,h=>absurd h (by omega)
 |i+1,q,h=>by
  by_cases c:q<4*i
  ·obtain ⟨l,hl,e⟩:=dz a i q c
   exact ⟨l,List.mem_append_left _ hl,e⟩
  ·obtain ⟨l,hl,e⟩:=VH (v:=a.getD i 0) (n:=4*i) 4 (q - 4*i) (by omega)
   exact ⟨l,List.mem_append_right _ hl,by omega⟩
theorem eA (b:List Nat): ∀ i j t,j<i→t<4→sec.getD j false=true→ ∃ l∈F_ sec b i,l.natAbs=(Ar sec j).1+1+t
 |0,j,t,h,_,_=>absurd h (by omega)
 |i+1,j,t,h,ht,hs=>by
  have e:F_ sec b (i+1)=(if sec.getD i false=true then F_ sec b i++Bl (b.getD i 0) (Ar sec i).1 4 else F_ sec b i):=rfl
  rw[e]
  by_cases c:j=i
  ·subst c
   rw[if_pos hs]
   obtain ⟨l,hl,e⟩:=VH (v:=b.getD j 0) (n:=(Ar sec j).1) 4 t ht
   exact ⟨l,List.mem_append_right _ hl,e⟩
  ·obtain ⟨l,hl,e⟩:=eA b i j t (by omega) ht hs
   split
   ·exact ⟨l,List.mem_append_left _ hl,e⟩
   ·exact ⟨l,hl,e⟩
theorem Z5 {V:Nat→Int} {l:Int} (h:0<hold V l):V l.natAbs≠0:=by
 unfold hold at h
 intro e
 rw[e] at h
 split at h <;> exact absurd h (by decide)
theorem yK {a b:List Nat} {V:Nat→Int} (h: ∀ l∈FX sec a b,0<hold V l):(∀ q,q<4*sec.length→V ((b1 sec).getD q 0)≠0)∧ ∀ q,q<4*sec.length→V ((b2 sec).getD q 0)≠0:=by
 have one: ∀ q,q<4*sec.length→V (q+1)≠0:=fun q hq=>by
  obtain ⟨l,hl,e⟩:=dz a sec.length q hq
  rw[←e]
  exact Z5 (h l (List.mem_append_left _ hl))
 refine ⟨fun q hq=>by rw[M8 sec hq];exact one q hq,fun q hq=>?_⟩
 cases hs:sec.getD (q/4) false with
 |false=>rw[WK sec hq hs];exact one q hq
 |true=>
  obtain ⟨l,hl,e⟩:=eA (sec:=sec) b sec.length (q/4) (q%4) (by omega) (Nat.mod_lt _ (by omega)) hs
  rw[(L6 sec hq hs).1, ←e]
  exact Z5 (h l (List.mem_append_right _ hl))
end
end Cl
open Go.RowKit
def DJ (S:List Bool) (a:List Nat):Nat→List Int
 |0=>[]
 |i+1=>if S.getD i false then DJ S a i else DJ S a i++Bl (a.getD i 0) (4*i) 4
theorem Za (S:List Bool) (a:List Nat): ∀ i,(DJ S a i).length≤4*i
 |0=>Nat.le_refl _
 |i+1=>by
  have:=Za S a i
  show (if S.getD i false=true then _ else _:List Int).length≤_
  split
  ·omega
  ·rw[List.length_append,Kv];omega
theorem Z7 (S:List Bool) (a:List Nat): ∀ i, ∀ l∈DJ S a i,l∈EL a i
 |0,l,h=>by cases h
 |i+1,l,h=>by
  have h:l∈(if S.getD i false=true then DJ S a i else DJ S a i++Bl (a.getD i 0) (4*i) 4):=h
  split at h
  ·exact List.mem_append_left _ (Z7 S a i l h)
  ·rcases List.mem_append.1 h with h|h
   ·exact List.mem_append_left _ (Z7 S a i l h)
   ·exact List.mem_append_right _ h
theorem jA (v n:Nat): ∀ t q,q<t→(Bl v n t).getD q 0=if (v/2 ^ q)%2=1 then ((n+1+q:Nat):Int) else -((n+1+q:Nat):Int)
 |0,q,h=>absurd h (by omega)
 |t+1,q,h=>by
  show (Bl v n t++[_]).getD q 0=_
  by_cases c:q<t
  ·rw[Cl.Rl (by rw[Kv];exact c)];exact jA v n t q c
  ·have:q=t:=by omega
   subst this
   rw[List.getD_eq_getElem?_getD,List.getElem?_append_right (by rw[Kv];exact Nat.le_refl _),Kv]
   simp
theorem gL (a:List Nat): ∀ n i t,i<n→t<4→(EL a n).getD (4*i+t) 0=(Bl (a.getD i 0) (4*i) 4).getD t 0
 |0,i,t,h,_=>absurd h (by omega)
 |n+1,i,t,h,ht=>by
  show (EL a n++Bl (a.getD n 0) (4*n) 4).getD (4*i+t) 0=_
  by_cases c:i<n
  ·rw[Cl.Rl (by rw[Mx];omega)];exact gL a n i t c ht
  ·have:i=n:=by omega
   subst this
   rw[List.getD_eq_getElem?_getD,List.getElem?_append_right (by rw[Mx];omega),Mx,show 4*i+t - 4*i=t by omega, ←List.getD_eq_getElem?_getD]
theorem acV (S:List Bool) (a b:List Nat) {i t:Nat} (hi:i<S.length) (ht:t<4):(FX S a b).getD (4*i+t) 0=if (a.getD i 0/2 ^ t)%2=1 then ((4*i+1+t:Nat):Int) else -((4*i+1+t:Nat):Int):=by
 unfold FX
 rw[Cl.Rl (by rw[Mx];omega),gL a S.length i t hi ht,jA _ _ 4 t ht]
theorem yL (S:List Bool) (a b:List Nat) {i t:Nat} (hi:i<S.length) (ht:t<4):Bl (a.getD i 0) (4*i) (t+1)=Bl (a.getD i 0) (4*i) t++[(FX S a b).getD (4*i+t) 0]:=by
 rw[acV S a b hi ht];rfl
def RI (A1 A2:Nat→Prop) (R:Nat→Nat):Prop:= ∀ j,R j≤2∧(R j=1→A1 j)∧(R j=2→A2 j)
theorem Sb {A1 A2:Nat→Prop} {R:Nat→Nat} (h:RI A1 A2 R) {x v:Nat} (hv:(v=1∧A1 x)∨(v=2∧A2 x)):RI A1 A2 (Lk.upd R x v):=fun j=>by
 unfold Lk.upd
 by_cases c:j=x
 ·rw[if_pos c]
  rcases hv with ⟨rfl,h1⟩|⟨rfl,h1⟩
  ·exact ⟨by omega,fun _=>by rw[c];exact h1,fun e=>absurd e (by decide)⟩
  ·exact ⟨by omega,fun e=>absurd e (by decide),fun _=>by rw[c];exact h1⟩
 ·rw[if_neg c];exact h j
def ur (n:Nat) (R:Nat→Nat):Nat:=(List.range (n+1)).countP fun j=>decide (R j=0)
theorem kZ {n:Nat} {R:Nat→Nat} {x v:Nat} (h0:R x=0) (hx:x≤n) (hv:v≠0):ur n (Lk.upd R x v)<ur n R:=by
 refine Cl.gA _ _ _ (fun a _ ha=>?_) ⟨x,by simp;omega,by simp[h0],?_⟩
 ·have ha:=of_decide_eq_true ha
  unfold Lk.upd at ha
  by_cases e:a=x
  ·rw[e];exact decide_eq_true h0
  ·rw[if_neg e] at ha;exact decide_eq_true ha
 ·unfold Lk.upd;rw[if_pos rfl];simpa using hv
theorem lU (n:Nat) (R:Nat→Nat):ur n R≤n+1:=by
 unfold ur
 have:=List.countP_le_length (p:=fun j=>decide (R j=0)) (l:=List.range (n+1))
 simpa using this
theorem abD {V:Nat→Int} {c:List Int} (hz: ∀ l∈c,l≠0) (h:Cl.Two V c):Cl.EA V 0 c=(2,0):=by
 rcases Cl.VG (V:=V) c 0 hz with e|⟨_,_,ha⟩|⟨k,_,_,_,kc,ka⟩
 ·exact e
 ·rcases h with ⟨l,hl,hp⟩|⟨l,l',hl,_,_,hp,_⟩
  ·have:=ha l hl;omega
  ·have:=ha l hl;omega
 ·exfalso
  rcases h with ⟨l,hl,hp⟩|⟨l,l',hl,hl',hne,hp,hp'⟩
  ·rcases ka l hl with e|e
   ·rcases kc with ⟨_,k2⟩|k2
    ·rw[e] at hp;omega
    ·rw[e] at hl;exact hz k hl k2
   ·omega
  ·rcases ka l hl with e|e
   ·rcases ka l' hl' with e'|e'
    ·exact hne (e.trans e'.symm)
    ·omega
   ·omega
theorem uI {w:World} {P k vars:Nat} {cs:List (List Int)} {cv va:Value} {S:List Bool} {a:List Nat} (T:Int→Prop) (A1 A2:Nat→Prop) (hk:k≤10) (hvars:vars<100000000)
  (Kg: ∀ W,Below w.heap.size w W→Calls Tryz.prog 22 #[.pointer (some ⟨P,0,none⟩)] W fun e w'=> ∃ ao co,e=.returned (.slice ao S.length co)∧w'.ownsRow W.heap.size 4 1 (.slice ao S.length co) S.length (S.map Value.bool)∧Below W.heap.size W w')
  (hin: ∀ W,Below w.heap.size w W→Calls Tryz.prog 54 #[.pointer (some ⟨P,0,none⟩),va,va] W fun e w'=> ∃ ao co,e=.returned (.slice ao (Cl.AK S) co)∧BB w' (.slice ao (Cl.AK S) co) (FX S a a)∧Below W.heap.size W w')
  (hc:Ir w cv cs) (fn: ∀ l,l≠0→T l→T (-l)→False) (hz: ∀ i,i<cs.length→(∀ l∈cs.getD i [],l≠0∧l.natAbs≤vars)∧(cs.getD i []).length≤1000000∧ ∃ l∈cs.getD i [],T l) (hx: ∀ l∈FX S a a,l≠0∧l.natAbs≤vars∧T l) (hal:cs.length≤1000000000)
  (hS3:S.length≤3) (BU:Cl.AK S+3*(7*k)≤vars)
  (m1: ∀ i t,i<S.length→t<4→S.getD i false=true→A1 (4*i+t+1)) (m2: ∀ j,4*S.length<j→j≤Cl.AK S→A2 j) (m3: ∀ i,i<7*k→A1 (Cl.AK S+1+i)) (m4: ∀ i,i<7*k→A2 (Cl.AK S+1+7*k+i))
  (dj: ∀ j,A1 j→A2 j→False)
  (hcl: ∀ V,(∀ j,V j=0∨V j=1∨V j= -1)→Cl.JF T V→(∀ l∈DJ S a S.length,0<Cl.hold V l)→(∀ i,i<cs.length→Cl.Two V (cs.getD i []))→ ∀ i,i<cs.length→(∀ l∈cs.getD i [],V l.natAbs=0→A1 l.natAbs)∨(∀ l∈cs.getD i [],V l.natAbs=0→A2 l.natAbs)):
  Calls Tryz.prog 31 #[.pointer (some ⟨P,0,none⟩),cv,.int .i64 vars,va,.int .i64 k] w fun e w'=>e=.returned (.bool true)∧Below w.heap.size w w':=by
 obtain ⟨t0,ht0,hz0,hz1,hz2⟩:=info_parts Tryz.Ds
 have FC:=hid Kg
 have E4:=hid hin
 have HC:=hid hc
 have HZ:=hid hz
 have IA:=hid hvars
 have Pu:=hid (fun W (hb:Below w.heap.size w W) lv (hi:BB W lv (DJ S a S.length))=>fA cs cv lv vars (DJ S a S.length) T W (hc.later hb) hi hvars fn hz (fun l hl=>hx l (List.mem_append_left _ (Z7 S a _ l hl))) (by have:=Za S a S.length;omega) hal)
 have Fl:=hid m1
 have Ea:=hid m2
 have UE:=hid dj
 have Px:=hid hcl
 have R8:=Cl.Jo S
 obtain ⟨n,hn⟩: ∃ n,Cl.AK S=n:=⟨_,rfl⟩
 obtain ⟨m,hm⟩: ∃ m,7*k=m:=⟨_,rfl⟩
 rw[hm] at BU m3 m4
 rw[hn] at BU m3 m4 Ea R8 E4
 have Fp:=hid m3
 have Fq:=hid m4
 have Gs:(7:Int)*(k:Int)=(m:Int):=by omega
 have nC:m≤70:=by omega
 have acX:=hid (show (vars:Int)≤100000000 by omega)
 have PY:=hid (show ∀ w:World,(Instr.makeSlice 24 (.int .i64 ((vars+1:Nat):Int)) (.int .i64 ((vars+1:Nat):Int))).run Tryz.prog w=.ok (.slice (some ⟨w.heap.size,0,none⟩) (vars+1) (vars+1)) (w.alloc (.cells (madeCells #[.int .i64 0] (vars+1)) 3)) from fun w=>run_make_row' 24 3 (.int .i64 0) 8 Tryz.underlying24 Tryz.Ds rfl .i64 .i64 (vars+1) (by omega) (by omega) w)
 have Wc:(cs.length:Int)≤1000000000:=by omega
 clear Kg hin hc fn hz hx hal m1 m2 m3 m4 dj hcl hvars
 go_enter Tryz.func31,Tryz.ntmps31
 go_upto_region 4 with (first
  |(go_at_call 22;refine (FC.out _ (Below.refl _ _)).mono ?_;rintro e w1 ⟨as_,cs_,rfl,ho,hb⟩;have Kl:=hid ho;have AL:=hid hb;have z1:=hb.size;clear ho hb)
  |(go_at_call 54;refine (E4.out _ AL.out).mono ?_;rintro e w2 ⟨a2,c2,rfl,hi2,hb2⟩;have Rh:=hid hi2;have AP:=hid hb2;have z2:=hb2.size;clear hi2 hb2))
 have hmk:=PY.out
 simp only[Int.natCast_add,Int.natCast_one] at hmk
 have Gq:=acX.out
 go_wp2_with fail
 clear hmk PY Gq
 obtain ⟨W3,hW3⟩: ∃ W3:World,w2.alloc (.cells (madeCells #[.int .i64 0] (vars+1)) 3)=W3:=⟨_,rfl⟩
 obtain ⟨g2,hg2⟩: ∃ g2,w2.heap.size=g2:=⟨_,rfl⟩
 have E3:=hid (show GX W3 g2 vars (fun _=>0) from ⟨by rw[←hW3, ←hg2];exact World.rowIs_made w2 (.int .i64 0) (vars+1) 3,fun _=>by omega⟩)
 have Cq:=hid (show Below g2 w2 W3 by rw[←hW3, ←hg2];exact (Below.refl _ _).alloc (Nat.le_refl _) _)
 have z3:W3.heap.size=g2+1:=by rw[←hW3, ←hg2];simp
 rw[hW3]
 rw[hg2]
 rw[hg2] at z2
 have HG2:=hid hg2
 have HWG:=hid (Nat.le_trans z1 z2)
 clear hW3 hg2
 obtain ⟨hv1,hv2⟩:=R8
 go_loopg [13,15,16,17] S.length (fun gk pv av iv jv wr=> ∃ (i:Nat) (R:Nat→Nat),i≤S.length∧S.length≤i+gk∧iv=.int .i64 i∧av=.int .i64 ((4*i:Nat):Int)∧GX wr g2 vars R∧RI A1 A2 R∧wr.ownsRow (g2+1) 3 1 pv (DJ S a i).length ((DJ S a i).map fun z=>.int .i64 z)∧Below g2 w2 wr∧g2+1≤wr.heap.size)
 case atStart=>exact ⟨0,_,Nat.zero_le _,by omega,rfl,rfl,E3.out,fun j=>⟨Nat.zero_le 2,fun (e:0=1)=>absurd e (by decide),fun (e:0=2)=>absurd e (by decide)⟩,World.ownsRow_nil _ _ _ _,Cq.out,by omega⟩
 case round=>
  clear E3 Cq
  obtain ⟨i,R,hi,Ba,rfl,rfl,CA,D3,hown,AB,hsz⟩:=hrel
  have Ce:=hid CA
  have DA:=hid D3
  have HOW:=hid hown
  have AV:=hid AB
  by_cases hlt:i<S.length
  ·obtain ⟨gs,ds_,hvs,_,_⟩:=Kl.out.form (by omega)
   have es:=(slice_inj hvs).1
   subst es
   obtain ⟨b,hb⟩: ∃ b,S.getD i false=b:=⟨_,rfl⟩
   have hgs:=Kl.out.lt gs rfl
   have x3:w2.cell? ⟨gs,i,none⟩=some (.bool b):=cell_later AP.out (by
    rw[Kl.out.cellAt i (by omega),List.getElem?_map,List.getElem?_eq_getElem hlt, ←hb,List.getD_eq_getElem?_getD,List.getElem?_eq_getElem hlt];rfl)
   have X3:=hid x3
   have RB:=hid (show DJ S a (i+1)=if b=true then DJ S a i else DJ S a i++Bl (a.getD i 0) (4*i) 4 by rw[←hb];rfl)
   have ago:=hid (show ∀ t,t<4→b=true→A1 (4*i+t+1) from fun t ht e=>Fl.out i t hlt ht (hb.trans e))
   have TN:=Za S a i
   obtain ⟨G2,hG2⟩: ∃ G:Nat,G=gk:=⟨_,rfl⟩
   clear CA D3 hown AB hvs hb x3
   go_wp2_with fail
   go_loopg [13,15,17] 4 (fun gk pv av jv wr=> ∃ (t:Nat) (R:Nat→Nat),t≤4∧4≤t+gk∧jv=.int .i64 t∧av=.int .i64 ((4*i+t:Nat):Int)∧GX wr g2 vars R∧RI A1 A2 R∧wr.ownsRow (g2+1) 3 1 pv (if b=true then DJ S a i else DJ S a i++Bl (a.getD i 0) (4*i) t).length ((if b=true then DJ S a i else DJ S a i++Bl (a.getD i 0) (4*i) t).map fun z=>.int .i64 z)∧Below g2 w2 wr∧g2+1≤wr.heap.size)
   case atStart=>exact ⟨0,R,by omega,by omega,rfl,rfl,Ce.out,DA.out,by simpa[Bl] using HOW.out,AV.out,hsz⟩
   case round=>
    clear Ce DA HOW AV hsz
    obtain ⟨t,R,ht,Ba,rfl,rfl,CA,D3,hown,AB,hsz⟩:=hrel
    have Ce:=hid CA
    have DA:=hid D3
    have AV:=hid AB
    have x3:=cell_later (show Below w2.heap.size w2 wr by rw[HG2.out];exact AB) X3.out
    by_cases Cz:t<4
    ·cases b with
     |true=>
      have HOW:=hid hown
      have x1:=CA.cell (i:=4*i+t+1) (by omega)
      have x2:=CA.row.frozen (4*i+t+1)
      obtain ⟨r,hr⟩: ∃ r,R (4*i+t+1)=r:=⟨_,rfl⟩
      rw[hr] at x1
      obtain ⟨c,hc⟩: ∃ c,4*i+t=c:=⟨_,rfl⟩
      rw[hc] at x1 x2 ⊢
      have HA:=hid (ago.out t Cz rfl)
      rw[hc] at HA
      have hcv:c+1≤vars:=by omega
      clear CA D3 hown AB hr
      go_wp2_with fail
      go_roundg (gk - 1)
      case measure=>omega
      case rel=>exact ⟨t+1,Lk.upd R (c+1) 1,by omega,by omega,by go_num,by go_num,Ce.out.put (c+1) 1 (by omega),Sb DA.out (.inl ⟨rfl,HA.out⟩),ownsRow_setCell_below HOW.out (by show g2<g2+1;omega) _,AV.out.setCell (Nat.le_refl _) _,by simpa using hsz⟩
     |false=>
      have hin:=Rh.out
      obtain ⟨gi,oi,hie,hic⟩:=Rh.out.cell (j:=4*i+t) (by rw[YG,hn];omega)
      subst hie
      have x1:=cell_later (show Below w2.heap.size w2 wr by rw[HG2.out];exact AB) hic
      have hst:=yL S a a hlt Cz
      obtain ⟨z,hz⟩: ∃ z,(FX S a a).getD (4*i+t) 0=z:=⟨_,rfl⟩
      rw[hz] at x1 hst
      obtain ⟨L,hL⟩: ∃ L,DJ S a i++Bl (a.getD i 0) (4*i) t=L:=⟨_,rfl⟩
      have DY:=hid (show DJ S a i++Bl (a.getD i 0) (4*i) (t+1)=L++[z] by rw[hst, ←hL,List.append_assoc])
      have hLl:L.length≤100:=by rw[←hL,List.length_append,Kv];omega
      rw[if_neg (by decide),hL] at hown
      have HOW:=hid hown
      obtain ⟨c,hc⟩: ∃ c,4*i+t=c:=⟨_,rfl⟩
      rw[hc] at x1 ⊢
      have hcv:c+1≤vars:=by omega
      have hcn:c<n:=by omega
      clear CA D3 hown AB hin hic hst hz hL
      go_wp2_with (first|(at_builtin;refine wpList_append_lies _ rfl _ _ 24 rfl (g2+1) 3 t0 _ 1 8 Tryz.underlying24 ht0 hz0 hz1 hz2 rfl (by omega) _ L.length (L.map fun z=>.int .i64 z) rfl (HOW.out.alloc _) ⟨wr.heap.size,0,none⟩ 1 1 [.int .i64 z] rfl rfl (cell_one_new _ _ _) (by simp[Value.oneCell']) (by omega) (by unfold maxLen;omega) (by omega) (by simp;omega) (wr.heap.size+1) (by simp) ?_;intro g3 alr w4 hown1 hgrow hat Bk))
      go_roundg (gk - 1)
      case measure=>omega
      case rel=>
       have Tn:Below (g2+1) wr w4:=Below.grown ((Below.refl _ _).alloc hsz _) hgrow (by simp;omega) (fun q hq=>(HOW.out.lt q hq).1)
       refine ⟨t+1,R,by omega,by omega,by go_num,by go_num,⟨Ce.out.row.of_block (Tn.block g2 (by omega)),Ce.out.le⟩,DA.out,?_,AV.out.trans (Tn.mono (by omega)),?_⟩
       ·rw[if_neg (by decide),DY.out,List.length_append,List.map_append];exact hown1
       ·have:=Tn.size;omega
    ·have hte:t=4:=by omega
     subst hte
     have HOW:=hid hown
     clear CA D3 hown AB
     go_wp2_with fail
     go_roundg (G2 - 1)
     case measure=>omega
     case rel=>exact ⟨i+1,R,by omega,by omega,by go_num,by congr 1,Ce.out,DA.out,by rw[RB.out];exact HOW.out,AV.out,hsz⟩
  ·have hie:i=S.length:=by omega
   subst hie
   clear CA D3 hown AB hlt Ba hi Fl
   go_wp2_with fail
   go_loopg [15] n (fun gk av wr=> ∃ (c:Nat) (R:Nat→Nat),4*S.length≤c∧c≤n∧n≤c+gk∧av=.int .i64 (c:Nat)∧GX wr g2 vars R∧RI A1 A2 R∧wr.ownsRow (g2+1) 3 1 u13 (DJ S a S.length).length ((DJ S a S.length).map fun z=>.int .i64 z)∧Below g2 w2 wr∧g2+1≤wr.heap.size)
   case atStart=>exact ⟨4*S.length,R,Nat.le_refl _,hv1,by omega,rfl,Ce.out,DA.out,HOW.out,AV.out,hsz⟩
   case round=>
    clear Ce DA HOW AV hsz
    obtain ⟨c,R,hc1,hc2,Ba,rfl,CA,D3,hown,AB,hsz⟩:=hrel
    have Ce:=hid CA
    have DA:=hid D3
    have HOW:=hid hown
    have AV:=hid AB
    by_cases hlt:c<n
    ·have x1:=CA.cell (i:=c+1) (by omega)
     have x2:=CA.row.frozen (c+1)
     obtain ⟨r,hr⟩: ∃ r,R (c+1)=r:=⟨_,rfl⟩
     rw[hr] at x1
     have HA:=hid (Ea.out (c+1) (by omega) (by omega))
     have hcv:c+1≤vars:=by omega
     clear CA D3 hown AB hr
     go_wp2_with fail
     go_roundg (gk - 1)
     case measure=>omega
     case rel=>exact ⟨c+1,Lk.upd R (c+1) 2,by omega,by omega,by omega,by go_num,Ce.out.put (c+1) 2 (by omega),Sb DA.out (.inr ⟨rfl,HA.out⟩),ownsRow_setCell_below HOW.out (by show g2<g2+1;omega) _,AV.out.setCell (Nat.le_refl _) _,by simpa using hsz⟩
    ·have hce:c=n:=by omega
     subst hce
     clear CA D3 hown AB hlt Ba hc1 hc2 Ea
     go_wp2_with fail
     go_loopg [19] m (fun gk iv wr=> ∃ (i:Nat) (R:Nat→Nat),i≤m∧m≤i+gk∧iv=.int .i64 (i:Nat)∧GX wr g2 vars R∧RI A1 A2 R∧wr.ownsRow (g2+1) 3 1 u13 (DJ S a S.length).length ((DJ S a S.length).map fun z=>.int .i64 z)∧Below g2 w2 wr∧g2+1≤wr.heap.size)
     case atStart=>exact ⟨0,R,Nat.zero_le _,by omega,rfl,Ce.out,DA.out,HOW.out,AV.out,hsz⟩
     case round=>
      clear Ce DA HOW AV hsz
      obtain ⟨i,R,hi,Ba,rfl,CA,D3,hown,AB,hsz⟩:=hrel
      have Ce:=hid CA
      have DA:=hid D3
      have HOW:=hid hown
      have AV:=hid AB
      by_cases hlt:i<m
      ·have G0:(i:Int)<(m:Int):=by omega
       have HA:=hid (Fp.out i hlt)
       have HA2:=hid (Fq.out i hlt)
       have x1:=CA.cell (i:=c+1+i) (by omega)
       have x2:=CA.row.frozen (c+1+i)
       have hr1:=CA.put (c+1+i) 1 (by omega)
       obtain ⟨r,hr⟩: ∃ r,R (c+1+i)=r:=⟨_,rfl⟩
       obtain ⟨r2,hr2⟩: ∃ r2,Lk.upd R (c+1+i) 1 (c+1+m+i)=r2:=⟨_,rfl⟩
       have y1:(wr.setCell ⟨g2,c+1+i,none⟩ (.int .i64 1)).cell? ⟨g2,c+1+m+i,none⟩=some (.int .i64 (r2:Nat)):=by rw[←hr2];exact hr1.cell (i:=c+1+m+i) (by omega)
       have y2:(wr.setCell ⟨g2,c+1+i,none⟩ (.int .i64 1)).frozen? ⟨g2,c+1+m+i,none⟩=false:=hr1.row.frozen (c+1+m+i)
       rw[hr] at x1
       have Aw:=hid hr1
       have hcv:c+1+m+i≤vars:=by omega
       clear CA D3 hown AB hr hr1 hr2
       go_wp2_with fail
       go_roundg (gk - 1)
       case measure=>omega
       case rel=>exact ⟨i+1,Lk.upd (Lk.upd R (c+1+i) 1) (c+1+m+i) 2,by omega,by omega,by go_num,Aw.out.put (c+1+m+i) 2 (by omega),Sb (Sb DA.out (.inl ⟨rfl,HA.out⟩)) (.inr ⟨rfl,HA2.out⟩),ownsRow_setCell_below (ownsRow_setCell_below HOW.out (by show g2<g2+1;omega) _) (by show g2<g2+1;omega) _,(AV.out.setCell (Nat.le_refl _) _).setCell (Nat.le_refl _) _,by simpa using hsz⟩
      ·have G0: ¬((i:Int)<(m:Int)):=by omega
       have Dl:=hid (show Below w.heap.size w wr from (AL.out.trans (AP.out.mono z1)).trans (AV.out.mono (by omega)))
       have hpv:=AX HOW.out
       have HIP:=hid (show BB wr u13 (DJ S a S.length) from BB.Od HOW.out)
       obtain ⟨ap,cp,hpe⟩:=hpv
       subst hpe
       clear CA D3 hown AB hi Ba hlt Fp Fq FC E4 Kl AL AP Rh HG2 AV HOW
       go_upto_region 27 with (first
        |(go_at_call 55;refine (Pu.out _ Dl.out _ HIP.out).mono ?_;rintro e w5 ⟨g,V,rfl,hsp⟩;have JC:=hid hsp;clear hsp))
       have HV:=hid JC.out.va
       have HTR:=hid JC.out.va.Lh
       have CE:=hid (Dl.out.trans (JC.out.A8.mono Dl.out.size))
       have UO:=hid (Ce.out.later JC.out.A8)
       have hgg:g2≠g:=by have:=JC.out.new;omega
       have Tf:=hid (show ∀ i,i<cs.length→Cl.EA V 0 (cs.getD i [])=(2,0)∧ ∃ K,(K=1∨K=2)∧ ∀ l∈cs.getD i [],V l.natAbs=0→(K=1∧A1 l.natAbs)∨(K=2∧A2 l.natAbs) from fun i hi=>by
        refine ⟨abD (fun l hl=>((HZ.out i hi).1 l hl).1) (JC.out.fix i hi),?_⟩
        rcases Px.out V JC.out.va.Lh JC.out.con JC.out.set JC.out.fix i hi with h|h
        ·exact ⟨1,.inl rfl,fun l hl hv=>.inl ⟨rfl,h l hl hv⟩⟩
        ·exact ⟨2,.inr rfl,fun l hl hv=>.inr ⟨rfl,h l hl hv⟩⟩)
       obtain ⟨ac,cc,agq,als⟩:=HC.out.val
       subst agq
       have hul:=lU vars R
       clear JC Px Pu Ce Dl HIP hsz G0
       go_loopg [22,23,24,25,26,27,28,29] (vars+2) (fun gk mv iv kv dv bv ov jv xv wr=> ∃ (mo:Bool) (R:Nat→Nat),mv=.bool mo∧FI wr g vars V∧GX wr g2 vars R∧RI A1 A2 R∧(mo=true→ur vars R<gk)∧Below w.heap.size w wr)
       case atStart=>exact ⟨true,R,rfl,HV.out,UO.out,DA.out,fun _=>by omega,CE.out⟩
       case round=>
        clear HV UO DA CE hul
        obtain ⟨mo,R,rfl,BU,CA,D3,hmo,AB⟩:=hrel
        have HV:=hid BU
        have Ce:=hid CA
        have DA:=hid D3
        have AV:=hid AB
        cases mo with
        |false=>
         clear BU CA D3 hmo AB
         go_wp2_with fail
         go_ret
         exact ⟨rfl,AV.out⟩
        |true=>
         have hmo:=hmo rfl
         obtain ⟨G,hG⟩: ∃ G:Nat,G=gk:=⟨_,rfl⟩
         obtain ⟨u0,LX⟩: ∃ u0:Nat,ur vars R=u0:=⟨_,rfl⟩
         rw[LX] at hmo
         clear BU CA D3 AB
         go_wp2_with fail
         go_loopg [22,23,24,25,26,27,28,29] cs.length (fun gk mv iv kv dv bv ov jv xv wr=> ∃ (i:Nat) (mo:Bool) (R:Nat→Nat),i≤cs.length∧cs.length≤i+gk∧iv=.int .i64 i∧mv=.bool mo∧FI wr g vars V∧GX wr g2 vars R∧RI A1 A2 R∧(mo=true→ur vars R<u0)∧ur vars R≤u0∧Below w.heap.size w wr)
         case atStart=>exact ⟨0,false,R,Nat.zero_le _,by omega,rfl,rfl,HV.out,Ce.out,DA.out,fun h=>(by cases h),by omega,AV.out⟩
         case round=>
          clear HV Ce DA AV LX
          obtain ⟨i,mo,R,hi,Ba,rfl,rfl,BU,CA,D3,Kh,Gr,AB⟩:=hrel
          have HV:=hid BU
          have Ce:=hid CA
          have DA:=hid D3
          have AV:=hid AB
          have IB:=hid Kh
          have zb:=AB.size
          by_cases hlt:i<cs.length
          ·obtain ⟨gq,oq,cq,uq,e2,OC,iq⟩:=HC.out.at_ i hlt
           have eq:=(slice_inj e2).1
           subst eq
           have X3:=hid (cell_later AB OC)
           have HCQ:=hid OC
           obtain ⟨zq,zl,zt⟩:=HZ.out i hlt
           obtain ⟨h2,K,hK,hA⟩:=Tf.out i hlt
           have Bq:=hid (jk (cs.getD i []) uq g vars (vars+1) V wr (iq.below AB) BU zq zl (by have:=IA.out;omega))
           rw[h2] at Bq
           have HAA:=hid (show ∀ R,RI A1 A2 R→ ∀ l∈cs.getD i [],V l.natAbs=0→R l.natAbs=0∨R l.natAbs=K from fun R hr l hl hv=>by
            obtain ⟨r1,r2,r3⟩:=hr l.natAbs
            rcases hA l hl hv with ⟨rfl,ha⟩|⟨rfl,ha⟩
            ·by_cases c:R l.natAbs=2
             ·exact (UE.out _ ha (r3 c)).elim
             ·omega
            ·by_cases c:R l.natAbs=1
             ·exact (UE.out _ (r2 c) ha).elim
             ·omega)
           have Xo:=hid (show ∀ R,RI A1 A2 R→ ∀ l∈cs.getD i [],V l.natAbs=0→RI A1 A2 (Lk.upd R l.natAbs K) from fun R hr l hl hv=>Sb hr (hA l hl hv))
           have HME:=hid (fun W (hb:Below wr.heap.size wr W)=>ab7 (cs.getD i []) uq g g2 vars (vars+1) (vars+1) V R K W ((iq.below AB).below hb) (BU.later hb) (CA.later hb) zq zl (by have:=IA.out;omega) hK (HAA.out R D3))
           have HIQ:=hid iq
           have Xj:=hid zq
           clear e2 OC iq zq zt BU CA D3 Kh AB hA h2
           have x3:=X3.out
           go_upto_region 36 with (first|(go_at_call 57;refine Bq.out.mono ?_;rintro e w6 ⟨rfl,hb1⟩;have AP:=hid hb1;have x4:=cell_later hb1 X3.out;clear hb1))
           have Bz:=hid (AV.out.trans (AP.out.mono zb))
           have z6:=AP.out.size
           go_upto_region 37 with (first|(go_at_call 58;refine (HME.out _ AP.out).mono ?_;rintro e w7 ⟨b,op,rfl,hop,Eg⟩;have Ew:=hid (AP.out.trans (Eg.mono z6));have Xp:=hid hop;clear hop Eg))
           have HV7:=hid (HV.out.later Ew.out)
           have bz:=hid (Ce.out.later Ew.out)
           have cA:=hid (AV.out.trans (Ew.out.mono zb))
           clear Bq HME AP x3 x4 Bz
           cases op with
           |false=>
            go_wp2_with fail
            go_roundg (gk - 1)
            case measure=>omega
            case rel=>exact ⟨i+1,mo,R,by omega,by omega,by go_num,rfl,HV7.out,bz.out,DA.out,IB.out,Gr,cA.out⟩
           |true=>
            have hb:=Xp.out rfl
            have hb3:((b:Int)==3)=false:=by simp;omega
            have hb2:b≤2:=by omega
            have Ri:=hid hb
            obtain ⟨G2,hG2⟩: ∃ G:Nat,G=gk:=⟨_,rfl⟩
            obtain ⟨cl,hcl⟩: ∃ cl,cs.getD i []=cl:=⟨_,rfl⟩
            rw[hcl] at HIQ Xj zl Ri HAA Xo
            have hul:=lU vars R
            clear hb Xp hcl HV Ce
            go_wp2_with fail
            have ags:=IB.out
            obtain ⟨au,cu,hue⟩:=HIQ.out.val
            subst hue
            have Un:=hid Gr
            go_loopg [22,28,29] cl.length (fun gk mv jv xv wr=> ∃ (j:Nat) (mo:Bool) (R:Nat→Nat),j≤cl.length∧cl.length≤j+gk∧jv=.int .i64 j∧mv=.bool mo∧FI wr g vars V∧GX wr g2 vars R∧RI A1 A2 R∧(b=0→ ∀ l∈cl,V l.natAbs=0→R l.natAbs=0)∧(mo=true→ur vars R<u0)∧ur vars R≤u0∧Below w.heap.size w wr)
            case atStart=>exact ⟨0,mo,R,Nat.zero_le _,by omega,rfl,rfl,HV7.out,bz.out,DA.out,(fun e=>by
             rcases Ri.out with e2|⟨_,e2⟩
             ·omega
             ·exact e2),IB.out,Gr,cA.out⟩
            case round=>
             clear HV7 bz DA IB cA AV ags Un Gr hul zb z6 Ew X3
             obtain ⟨j,mo,R,hj,Ba,rfl,rfl,BU,CA,D3,hbb,Kh,Gr,AB⟩:=hrel
             have HV:=hid BU
             have Ce:=hid CA
             have DA:=hid D3
             have AV:=hid AB
             have IB:=hid Kh
             have CK:=hid hbb
             have x3:=cell_later AB HCQ.out
             by_cases hlt:j<cl.length
             ·obtain ⟨gc,oc,hce,hcell⟩:=HIQ.out.cell hlt
              subst hce
              have x1:=cell_later AB hcell
              have hmem:=QO hlt
              obtain ⟨hm0,Py⟩:=Xj.out _ hmem
              have y1:=BU.cell (i:=(cl.getD j 0).natAbs) Py
              have hc2:=CA.cell (i:=(cl.getD j 0).natAbs) Py
              have hf2:=CA.row.frozen (cl.getD j 0).natAbs
              have Mm:=hid (HAA.out R D3 _ hmem)
              have P6:=hid (Xo.out R D3 _ hmem)
              have Mn:=hid (fun e=>hbb e _ hmem)
              obtain ⟨l,hle⟩: ∃ l,cl.getD j 0=l:=⟨_,rfl⟩
              rw[hle] at x1 hm0 Py y1 hc2 hf2 Mm P6 Mn
              have HQB:=hid (show (l.natAbs:Int)≤100000000 by have:=IA.out;omega)
              clear BU CA D3 hbb Kh AB hcell hmem hle
              by_cases hsg:l<0
              ·obtain ⟨q,rfl⟩: ∃ q:Nat,l= -(q:Int):=⟨l.natAbs,by omega⟩
               rw[show (-(q:Int)).natAbs=q by omega] at hc2 hf2 Mm P6 Mn y1 Py
               obtain ⟨y,hy⟩: ∃ y,V q=y:=⟨_,rfl⟩
               obtain ⟨r,hr⟩: ∃ r,R q=r:=⟨_,rfl⟩
               rw[hy] at y1 Mm P6 Mn
               rw[hr] at hc2 Mm Mn
               have HY:=hid y1
               have Pz:=hid hc2
               have AE:=hid hf2
               have JZ:=hid hr
               have E5:=HQB.out
               clear hy hr y1 hc2 hf2 hm0
               by_cases hy0:y=0
               ·subst hy0
                by_cases hrb:r=b
                ·have f2:((r:Int) !=(b:Int))=false:=by simp;omega
                 have y1:=HY.out
                 have hc2:=Pz.out
                 go_wp2_with fail
                 go_roundg (gk - 1)
                 case measure=>omega
                 case rel=>exact ⟨j+1,mo,R,by omega,by omega,by go_num,rfl,HV.out,Ce.out,DA.out,CK.out,IB.out,Gr,AV.out⟩
                ·have f2:((r:Int) !=(b:Int))=true:=by simp;omega
                 have Gi:r=0:=by
                           rcases Mm.out rfl with e|e
                           ·exact e
                           ·rcases Ri.out with e2|⟨e2,_⟩
                            ·omega
                            ·have:=Mn.out e2 rfl;omega
                 have Uu:b=K:=by
                           rcases Ri.out with e2|⟨e2,_⟩
                           ·exact e2
                           ·omega
                 have hb0:b≠0:=by omega
                 have CP:=hid Uu
                 have cD:=hid Gi
                 clear Uu Gi
                 have y1:=HY.out
                 have hc2:=Pz.out
                 have hf2:=AE.out
                 go_wp2_with fail
                 go_roundg (gk - 1)
                 case measure=>omega
                 case rel=>
                           have Iw:=kZ (n:=vars) (R:=R) (x:=q) (v:=b) (by rw[JZ.out];exact cD.out) Py hb0
                           exact ⟨j+1,true,Lk.upd R q b,by omega,by omega,by go_num,rfl,⟨HV.out.row.setOther (by first|exact hgg|exact hgg.symm) _,HV.out.Lh⟩,Ce.out.put q b hb2,by rw[CP.out];exact P6.out (by first|rfl|trivial),fun e=>absurd e hb0,fun _=>by omega,by omega,AV.out.setCell HWG.out _⟩
               ·have f1:(y==0)=false:=by simpa using hy0
                have y1:=HY.out
                have hc2:=Pz.out
                go_wp2_with fail
                go_roundg (gk - 1)
                case measure=>omega
                case rel=>exact ⟨j+1,mo,R,by omega,by omega,by go_num,rfl,HV.out,Ce.out,DA.out,CK.out,IB.out,Gr,AV.out⟩
              ·obtain ⟨q,rfl⟩: ∃ q:Nat,l=(q:Int):=⟨l.natAbs,by omega⟩
               rw[show ((q:Int)).natAbs=q by omega] at hc2 hf2 Mm P6 Mn y1 Py
               obtain ⟨y,hy⟩: ∃ y,V q=y:=⟨_,rfl⟩
               obtain ⟨r,hr⟩: ∃ r,R q=r:=⟨_,rfl⟩
               rw[hy] at y1 Mm P6 Mn
               rw[hr] at hc2 Mm Mn
               have HY:=hid y1
               have Pz:=hid hc2
               have AE:=hid hf2
               have JZ:=hid hr
               have E5:=HQB.out
               clear hy hr y1 hc2 hf2 hm0
               by_cases hy0:y=0
               ·subst hy0
                by_cases hrb:r=b
                ·have f2:((r:Int) !=(b:Int))=false:=by simp;omega
                 have y1:=HY.out
                 have hc2:=Pz.out
                 go_wp2_with fail
                 go_roundg (gk - 1)
                 case measure=>omega
                 case rel=>exact ⟨j+1,mo,R,by omega,by omega,by go_num,rfl,HV.out,Ce.out,DA.out,CK.out,IB.out,Gr,AV.out⟩
                ·have f2:((r:Int) !=(b:Int))=true:=by simp;omega
                 have Gi:r=0:=by
                           rcases Mm.out rfl with e|e
                           ·exact e
                           ·rcases Ri.out with e2|⟨e2,_⟩
                            ·omega
                            ·have:=Mn.out e2 rfl;omega
                 have Uu:b=K:=by
                           rcases Ri.out with e2|⟨e2,_⟩
                           ·exact e2
                           ·omega
                 have hb0:b≠0:=by omega
                 have CP:=hid Uu
                 have cD:=hid Gi
                 clear Uu Gi
                 have y1:=HY.out
                 have hc2:=Pz.out
                 have hf2:=AE.out
                 go_wp2_with fail
                 go_roundg (gk - 1)
                 case measure=>omega
                 case rel=>
                           have Iw:=kZ (n:=vars) (R:=R) (x:=q) (v:=b) (by rw[JZ.out];exact cD.out) Py hb0
                           exact ⟨j+1,true,Lk.upd R q b,by omega,by omega,by go_num,rfl,⟨HV.out.row.setOther (by first|exact hgg|exact hgg.symm) _,HV.out.Lh⟩,Ce.out.put q b hb2,by rw[CP.out];exact P6.out (by first|rfl|trivial),fun e=>absurd e hb0,fun _=>by omega,by omega,AV.out.setCell HWG.out _⟩
               ·have f1:(y==0)=false:=by simpa using hy0
                have y1:=HY.out
                have hc2:=Pz.out
                go_wp2_with fail
                go_roundg (gk - 1)
                case measure=>omega
                case rel=>exact ⟨j+1,mo,R,by omega,by omega,by go_num,rfl,HV.out,Ce.out,DA.out,CK.out,IB.out,Gr,AV.out⟩
             ·clear BU CA D3 hbb Kh AB
              go_wp2_with fail
              go_roundg (G2 - 1)
              case measure=>omega
              case rel=>exact ⟨i+1,mo,R,by omega,by omega,by go_num,rfl,HV.out,Ce.out,DA.out,IB.out,Gr,AV.out⟩
          ·clear BU CA D3 Kh AB
           go_wp2_with fail
           go_roundg (G - 1)
           case measure=>omega
           case rel=>exact ⟨mo,R,rfl,HV.out,Ce.out,DA.out,fun h=>by have:=IB.out h;omega,AV.out⟩
theorem SE (va vb:Value) (xs:List Int) (w:World) (ha:BB w va xs) (hb:BB w vb xs) (hl:xs.length≤100000):
  Calls Tryz.prog 24 #[va,vb] w fun e w'=>e=.returned (.bool true)∧Below w.heap.size w w':=by
 obtain ⟨aa,ca,ea⟩:=ha.val
 obtain ⟨ab,cb,eb⟩:=hb.val
 have HA:=hid ha
 have HB:=hid hb
 clear ha hb
 subst ea eb
 have DL:(xs.length:Int)≤100000:=by omega
 go_enter Tryz.func24,Tryz.ntmps24
 go_wp2_with fail
 go_loopw [5] (fun c wr=> ∃ i:Nat,i≤xs.length∧c=.int .i64 i∧Below w.heap.size w wr) (fun c _=>xs.length - (intOf c).toNat)
 case atStart=>exact ⟨0,Nat.zero_le _,rfl,Below.refl _ _⟩
 case round=>
  obtain ⟨i,hil,rfl,AB⟩:=hrel
  have AV:=hid AB
  by_cases hlt:i<xs.length
  ·obtain ⟨ga,oa,ca',BU,ica⟩:=HA.out.at_ i hlt
   obtain ⟨gb,ob,cb',hvb,icb⟩:=HB.out.at_ i hlt
   have h1:=(slice_inj BU).1
   have h2:=(slice_inj hvb).1
   subst h1 h2
   have ya:=(World.cell?_of_block (AB.block ga (World.block_lt_of_cell? w _ ica))).trans ica
   have yb:=(World.cell?_of_block (AB.block gb (World.block_lt_of_cell? w _ icb))).trans icb
   generalize xs.getD i 0=x at ya yb
   clear AB ica icb BU hvb
   go_wp2_with fail
   go_quiet (fail)
   go_wp2_with fail
   go_roundw
   case rel=>exact ⟨i+1,by omega,by go_num,below_drewN AV.out _⟩
   case measure=>simp[intOf];omega
  ·clear AB
   go_wp2_with fail
   go_ret
   exact ⟨rfl,AV.out⟩
structure nE (cs:List (List Int)) (V m at_:Nat):Prop where
 len:cs.length=at_+4*m+1
 d0: ∀ i,i<m→cs.getD (at_+4*i) []=[-((V+2*m+1+i:Nat):Int),((V+1+i:Nat):Int),((V+m+1+i:Nat):Int)]
 d1: ∀ i,i<m→cs.getD (at_+4*i+1) []=[-((V+2*m+1+i:Nat):Int), -((V+1+i:Nat):Int), -((V+m+1+i:Nat):Int)]
 d2: ∀ i,i<m→cs.getD (at_+4*i+2) []=[((V+2*m+1+i:Nat):Int), -((V+1+i:Nat):Int),((V+m+1+i:Nat):Int)]
 d3: ∀ i,i<m→cs.getD (at_+4*i+3) []=[((V+2*m+1+i:Nat):Int),((V+1+i:Nat):Int), -((V+m+1+i:Nat):Int)]
 last:cs.getD (at_+4*m) []=(List.range m).map fun i=>((V+2*m+1+i:Nat):Int)
 low: ∀ i,i<at_→ ∀ l∈cs.getD i [],l.natAbs≤100000000∧(l.natAbs≤V+2*m∨V+3*m<l.natAbs)
 lens: ∀ i,i<at_→(cs.getD i []).length≤100000
theorem WC (w:World) (x y z:Int):BB (w.alloc (.cells #[.int .i64 x,.int .i64 y,.int .i64 z] 3)) (.slice (some ⟨w.heap.size,0,none⟩) 3 3) [x,y,z]:=
 ⟨⟨_,_,rfl⟩,fun j hj=>⟨w.heap.size,0,3,rfl,by
    have h3:j=0∨j=1∨j=2:=by simp at hj;omega
    rcases h3 with rfl|rfl|rfl
    ·exact newAt w _ _ 0 _ rfl
    ·exact newAt w _ _ 1 _ rfl
    ·exact newAt w _ _ 2 _ rfl⟩⟩
theorem yM (cs:List (List Int)) (V k at_:Nat) (cv:Value) (w:World) (hk:k≤10) (hV:V≤1000) (hc:Ir w cv cs) (ht:nE cs V (7*k) at_) (hat:at_≤100000000):
  Calls Tryz.prog 28 #[cv,.int .i64 V,.int .i64 k] w fun e w'=> ∃ a c,e=.returned (.tuple #[.slice a at_ c,.bool true])∧Ir w' (.slice a at_ c) (cs.take at_)∧Below w.heap.size w w':=by
 obtain ⟨t0,ht0,hz0,hz1,hz2⟩:=info_parts Tryz.Ds
 have hlen:=ht.len
 have HT:=hid ht
 have HC:=hid hc
 obtain ⟨m,hm⟩: ∃ m,7*k=m:=⟨_,rfl⟩
 have Gs:(7:Int)*(k:Int)=(m:Int):=by omega
 have nC:m≤70:=by omega
 rw[hm] at HT hlen
 obtain ⟨a,ca,hcv,hcap⟩:=hc.val
 have adw:at_≤ca:=by omega
 clear hcap
 subst hcv
 obtain ⟨gc,oc,cc',uu,h1,_,_⟩:=hc.at_ 0 (by omega)
 have ha:=(slice_inj h1).1
 subst ha
 have hcell: ∀ j,j<cs.length→ ∃ u,w.cell? ⟨gc,oc+j,none⟩=some u∧BB w u (cs.getD j []):=fun j hj=>by
  obtain ⟨g',off',c'',u,h1,h2,h3⟩:=HC.out.at_ j hj
  have e:=Option.some.inj (slice_inj h1).1
  have e1:g'=gc:=by injection e with e1 _ _;exact e1.symm
  have e2:off'=oc:=by injection e with _ e2 _;exact e2.symm
  subst e1 e2
  exact ⟨u,h2,h3⟩
 have J3:=hid hcell
 rw[hlen]
 have ML:(at_:Int)≤100000000:=by omega
 clear ht hc h1 hcell hat hk
 go_enter Tryz.func28,Tryz.ntmps28
 go_wp2_with fail
 rw[show (at_:Int)+4*(m:Int)+1 - 4*(m:Int) - 1=(at_:Int) by omega]
 go_loopg [10,11,12,13,14,15,16,17,18,19] m (fun gk ov iv a1 a2 a3 a4 b1 b2 b3 b4 wr=> ∃ (i:Nat),i≤m∧m≤i+gk∧iv=.int .i64 i∧wr.ownsRow w.heap.size 3 1 ov i ((List.range i).map fun j=>.int .i64 ((V+2*m+1+j:Nat):Int))∧Below w.heap.size w wr)
 case atStart=>exact ⟨0,Nat.zero_le _,by omega,rfl,World.ownsRow_nil _ _ _ _,Below.refl _ _⟩
 case round=>
  obtain ⟨i,hi,Ba,rfl,hown,AB⟩:=hrel
  have HO:=hid hown
  have AV:=hid AB
  have zb:=AB.size
  by_cases hlt:i<m
  ·obtain ⟨u0,c0,i0⟩:=J3.out (at_+4*i) (by omega)
   obtain ⟨u1,c1,i1⟩:=J3.out (at_+4*i+1) (by omega)
   obtain ⟨u2,c2,i2⟩:=J3.out (at_+4*i+2) (by omega)
   obtain ⟨u3,c3,i3⟩:=J3.out (at_+4*i+3) (by omega)
   rw[HT.out.d0 i hlt] at i0
   rw[HT.out.d1 i hlt] at i1
   rw[HT.out.d2 i hlt] at i2
   rw[HT.out.d3 i hlt] at i3
   have HI0:=hid i0
   have PK:=hid i1
   have Rh:=hid i2
   have Ut:=hid i3
   have y0:=cell_later AB c0
   have C1:=hid c1
   have C2:=hid c2
   have C3:=hid c3
   clear hown AB i0 i1 i2 i3 c0 c1 c2 c3
   go_upto_region 13 with fail
   obtain ⟨A,hA⟩: ∃ A,V+1+i=A:=⟨_,rfl⟩
   obtain ⟨B,hB⟩: ∃ B,A+m=B:=⟨_,rfl⟩
   obtain ⟨E,hE⟩: ∃ E,B+m=E:=⟨_,rfl⟩
   obtain ⟨X,hX⟩: ∃ X,at_+4*i=X:=⟨_,rfl⟩
   rw[show V+2*m+1+i=E by omega,show V+m+1+i=B by omega,hA] at HI0 PK Rh Ut
   rw[hX] at y0 C1 C2 C3
   rw[show (V:Int)+1+(i:Int)+(m:Int)+(m:Int)=(E:Int) by omega,show (V:Int)+1+(i:Int)+(m:Int)=(B:Int) by omega,show (V:Int)+1+(i:Int)=(A:Int) by omega,show (at_:Int)+4*(i:Int)=(X:Int) by omega]
   have hEb:E≤2000:=by omega
   have hBb:B≤2000:=by omega
   have hAb:A≤2000:=by omega
   have hXb:X+3<at_+4*m+1:=by omega
   have HEE:=hid (show E=V+2*m+1+i by omega)
   clear hA hB hE hX
   go_upto_region 14 with (first|(go_at_call 24;refine (SE _ _ [-(E:Int),(A:Int),(B:Int)] _ (HI0.out.below (AV.out.alloc zb _)) (WC wr _ _ _) (by simp)).mono ?_;rintro e v0 ⟨rfl,hb⟩;have P0:=hid (((Below.refl wr.heap.size wr).alloc (Nat.le_refl _) _).trans (hb.mono (by simp)));have K0:=hid ((AV.out.alloc zb _).trans (hb.mono (by simp;omega)));have p0:=P0.out.size;have k0:=K0.out.size;clear hb))
   have y1:=cell_later K0.out C1.out
   go_upto_region 15 with (first|(go_at_call 24;refine (SE _ _ [-(E:Int), -(A:Int), -(B:Int)] _ (PK.out.below (K0.out.alloc k0 _)) (WC v0 _ _ _) (by simp)).mono ?_;rintro e v1 ⟨rfl,hb⟩;have P1:=hid ((P0.out.alloc p0 _).trans (hb.mono (by simp;omega)));have p1:=P1.out.size;have K1:=hid ((K0.out.alloc k0 _).trans (hb.mono (by simp;omega)));have k1:=K1.out.size;clear hb))
   have y2:=cell_later K1.out C2.out
   go_upto_region 16 with (first|(go_at_call 24;refine (SE _ _ [(E:Int), -(A:Int),(B:Int)] _ (Rh.out.below (K1.out.alloc k1 _)) (WC v1 _ _ _) (by simp)).mono ?_;rintro e v2 ⟨rfl,hb⟩;have P2:=hid ((P1.out.alloc p1 _).trans (hb.mono (by simp;omega)));have p2:=P2.out.size;have K2:=hid ((K1.out.alloc k1 _).trans (hb.mono (by simp;omega)));have k2:=K2.out.size;clear hb))
   have y3:=cell_later K2.out C3.out
   go_upto_region 17 with (first|(go_at_call 24;refine (SE _ _ [(E:Int),(A:Int), -(B:Int)] _ (Ut.out.below (K2.out.alloc k2 _)) (WC v2 _ _ _) (by simp)).mono ?_;rintro e v3 ⟨rfl,hb⟩;have P3:=hid ((P2.out.alloc p2 _).trans (hb.mono (by simp;omega)));have p3:=P3.out.size;have K3:=hid ((K2.out.alloc k2 _).trans (hb.mono (by simp;omega)));have k3:=K3.out.size;clear hb))
   have Gb:=hid (BP HO.out (fun q e=>P3.out.block q (HO.out.lt q e).2))
   go_wp2_with (first|(at_builtin;refine wpList_append_lies _ rfl _ _ 24 rfl w.heap.size 3 t0 _ 1 8 Tryz.underlying24 ht0 hz0 hz1 hz2 rfl (by omega) _ i ((List.range i).map fun j=>.int .i64 ((V+2*m+1+j:Nat):Int)) rfl (Gb.out.alloc _) ⟨v3.heap.size,0,none⟩ 1 1 [.int .i64 (E:Int)] rfl rfl (cell_one_new _ _ _) (by simp[Value.oneCell']) (by omega) (by unfold maxLen;omega) (by omega) (by simp;omega) (v3.heap.size+1) (by simp) ?_;intro g2 cap2 w3 hown1 hgrow hat Bk))
   go_roundg (gk - 1)
   case measure=>omega
   case rel=>
    refine ⟨i+1,by omega,by omega,by go_num,?_,?_⟩
    ·rw[List.range_succ,List.map_append]
     show w3.ownsRow w.heap.size 3 1 _ (i+1) (_++[.int .i64 ((V+2*m+1+i:Nat):Int)])
     rw[←HEE.out]
     exact hown1
    ·exact Below.grown (K3.out.alloc (by omega) _) hgrow (by simp;omega) (fun q hq=>(HO.out.lt q hq).1)
  ·have hie:i=m:=by omega
   subst hie
   obtain ⟨ul,cl,il⟩:=J3.out (at_+4*i) (by omega)
   rw[HT.out.last] at il
   obtain ⟨ao,co,rfl⟩:=AX hown
   have HIL:=hid (il.below AB)
   have HIO:=hid (show BB wr (.slice ao i co) ((List.range i).map fun j=>((V+2*i+1+j:Nat):Int)) from by
    have h1:wr.ownsRow w.heap.size 3 1 (.slice ao i co) ((List.range i).map fun j=>((V+2*i+1+j:Nat):Int)).length (((List.range i).map fun j=>((V+2*i+1+j:Nat):Int)).map fun x=>.int .i64 x):=by
     rw[List.map_map,List.length_map,List.length_range]
     exact hown
    exact BB.Od h1)
   have yl:=cell_later AB cl
   clear hown il cl AB
   go_upto_region 21 with (first|(go_at_call 24;refine (SE _ _ _ _ HIL.out HIO.out (by simp;omega)).mono ?_;rintro e w2 ⟨rfl,hb2⟩;have AP:=hid (AV.out.trans (hb2.mono zb));have z2:=AP.out.size;clear hb2))
   go_wp2_with fail
   go_loopg [22,23,24] at_ (fun gk iv jv lv wq=> ∃ q:Nat,q≤at_∧at_≤q+gk∧iv=.int .i64 q∧wq=w2)
   case atStart=>exact ⟨0,Nat.zero_le _,by omega,rfl,rfl⟩
   case round=>
    obtain ⟨q,hq,hgq,rfl,rfl⟩:=hrel
    by_cases hqt:q<at_
    ·obtain ⟨u,cu,iu⟩:=J3.out q (by omega)
     obtain ⟨au,du,rfl⟩:=iu.val
     have yu:=cell_later AP.out cu
     have hcl:=HT.out.lens q hqt
     have HLO:=hid (HT.out.low q hqt)
     have HIU:=hid (iu.below AP.out)
     obtain ⟨c,hce⟩: ∃ c,cs.getD q []=c:=⟨_,rfl⟩
     rw[hce] at yu hcl HLO HIU
     have agW:(c.length:Int)≤100000:=by omega
     obtain ⟨G,hG⟩: ∃ G:Nat,G=gk:=⟨_,rfl⟩
     clear iu cu hce
     go_wp2_with fail
     go_loopg [23,24] c.length (fun gj jv lv wq=> ∃ j:Nat,j≤c.length∧c.length≤j+gj∧jv=.int .i64 j∧wq=wr)
     case atStart=>exact ⟨0,Nat.zero_le _,by omega,rfl,rfl⟩
     case round=>
      obtain ⟨j,hj,OA,rfl,rfl⟩:=hrel
      by_cases Gz:j<c.length
      ·obtain ⟨g',off,rfl,x1⟩:=HIU.out.cell Gz
       obtain ⟨Kf,Uv⟩:=HLO.out (c.getD j 0) (by rw[List.getD_eq_getElem?_getD,List.getElem?_eq_getElem Gz];exact List.getElem_mem Gz)
       generalize c.getD j 0=l at x1 Kf Uv
       by_cases hl0:l<0
       ·have CN: -100000000≤l:=by omega
        by_cases ha:l.natAbs≤V+2*i
        ·have f1: ¬((V:Int)+2*(i:Int)< -l):=by omega
         clear ha Uv Kf
         go_wp2_with fail
         go_roundg (gk - 1)
         case measure=>omega
         case rel=>exact ⟨j+1,by omega,by omega,by go_num,rfl⟩
        ·have f1:(V:Int)+2*(i:Int)< -l:=by omega
         have f2: ¬(-l≤(V:Int)+2*(i:Int)+(i:Int)):=by omega
         clear ha Uv Kf
         go_wp2_with fail
         go_roundg (gk - 1)
         case measure=>omega
         case rel=>exact ⟨j+1,by omega,by omega,by go_num,rfl⟩
       ·have CN:l≤100000000:=by omega
        by_cases ha:l.natAbs≤V+2*i
        ·have f1: ¬((V:Int)+2*(i:Int)<l):=by omega
         clear ha Uv Kf
         go_wp2_with fail
         go_roundg (gk - 1)
         case measure=>omega
         case rel=>exact ⟨j+1,by omega,by omega,by go_num,rfl⟩
        ·have f1:(V:Int)+2*(i:Int)<l:=by omega
         have f2: ¬(l≤(V:Int)+2*(i:Int)+(i:Int)):=by omega
         clear ha Uv Kf
         go_wp2_with fail
         go_roundg (gk - 1)
         case measure=>omega
         case rel=>exact ⟨j+1,by omega,by omega,by go_num,rfl⟩
      ·clear hj OA
       go_wp2_with fail
       go_roundg (G - 1)
       case measure=>omega
       case rel=>exact ⟨q+1,by omega,by omega,by go_num,rfl⟩
    ·clear hq hgq
     go_wp2_with fail
     refine bodyPost_ret (v:=.tuple #[.slice (some ⟨gc,oc,none⟩) at_ ca,.bool true]) (by simp[results,Tryz.results28,go_sem]) rfl ⟨_,_,rfl,?_,AP.out⟩
     have hl:(cs.take at_).length=at_:=by rw[List.length_take];omega
     refine ⟨⟨_,_,by rw[hl],by rw[hl];exact adw⟩,fun j hj=>?_⟩
     rw[hl] at hj
     obtain ⟨u,x1,x2⟩:=J3.out j (by omega)
     refine ⟨gc,oc,ca,u,by rw[hl],cell_later AP.out x1,?_⟩
     rw[List.getD_eq_getElem?_getD,List.getElem?_take,if_pos hj, ←List.getD_eq_getElem?_getD]
     exact x2.below AP.out
namespace Cl
section
variable {sec:List Bool} {nodes:List Dg.Nd} {D:List Nat} {pos:Nat→Nat}
theorem jx (Aa:EI sec nodes D pos):(Dp sec nodes D).length=(DW sec nodes D).length+4*D.length+1∧(EB sec nodes D D.length).1=(DW sec nodes D).length:=by
 have hl:=(VW (AK sec) D.length D.length).2
 refine ⟨by unfold Dp;rw[List.length_append,List.length_append,hl];rfl,?_⟩
 rw[kW Aa (Nat.le_refl _)];unfold DW;simp only[List.length_append]
theorem QE {g:Nat→Nat} {v node:Nat} {u:Int} {c:List Int} (h:c∈E8 g v node u):c.length≤3:=by
 have key: ∀ a b d:Int,(EH a b d).length≤3:=fun a b d=>by unfold EH;exact List.length_filter_le _ _
 unfold E8 at h
 split at h
 ·rw[List.mem_singleton.1 h];exact key _ _ _
 ·split at h
  ·rw[List.mem_singleton.1 h];exact key _ _ _
  ·rcases List.mem_cons.1 h with e|e
   ·rw[e];exact key _ _ _
   ·rw[List.mem_singleton.1 e];exact key _ _ _
theorem SK: ∀ c∈DW sec nodes D,c.length≤3:=by
 intro c hc
 rcases N7.1 hc with ⟨i,h2,hi,hs⟩|⟨i,hi,hs⟩|⟨i,hi,hs⟩
 ·rcases QP.1 hs with hs|⟨_,hs⟩
  ·rcases List.mem_append.1 hs with h|h
   ·exact QE h
   ·exact QE h
  ·rcases List.mem_append.1 hs with h|h
   ·exact QE h
   ·exact QE h
 ·exact QE hs
 ·exact QE hs
theorem VZ {cs:List (List Int)} {i:Nat} (h:i<cs.length):cs.getD i []∈cs:=by
 rw[List.getD_eq_getElem?_getD,List.getElem?_eq_getElem h];exact List.getElem_mem h
theorem jy {V M:Nat} {c:List Int}: ∀ m,c∈KD V M m→ ∃ i,i<m∧c∈Ju (V+2*M+1+i) (V+1+i) (V+M+1+i)
 |0,h=>by cases h
 |m+1,h=>by
  rcases List.mem_append.1 (show c∈KD V M m++_ from h) with h|h
  ·obtain ⟨i,hi,e⟩:=jy m h;exact ⟨i,by omega,e⟩
  ·exact ⟨m,by omega,h⟩
theorem yN (Aa:EI sec nodes D pos) (hD:D.length≤70): ∀ c∈Dp sec nodes D,(∀ l∈c,l≠0∧l.natAbs≤(Bw sec nodes D.length).vars)∧c.length≤100:=by
 have BU:AK sec+3*D.length≤(Bw sec nodes D.length).vars:=(OP sec nodes D).vars
 intro c hc
 rcases List.mem_append.1 hc with hc|hc
 ·rcases List.mem_append.1 hc with hc|hc
  ·exact ⟨fun l hl=>⟨(Vp Aa c hc l hl).1,(Vp Aa c hc l hl).2.2.1⟩,Nat.le_trans (SK c hc) (by omega)⟩
  ·obtain ⟨i,hi,h⟩:=jy _ hc
   unfold Ju at h
   simp only[List.mem_cons,List.not_mem_nil,or_false] at h
   rcases h with rfl|rfl|rfl|rfl
   all_goals refine ⟨fun l hl=>?_,by simp⟩
   all_goals simp only[List.mem_cons,List.not_mem_nil,or_false] at hl
   all_goals rcases hl with rfl|rfl|rfl <;> omega
 ·rw[List.mem_singleton.1 hc]
  refine ⟨fun l hl=>?_,by unfold Oe;rw[List.length_map,Jl];omega⟩
  unfold Oe at hl
  obtain ⟨n,hn,rfl⟩:=List.mem_map.1 hl
  unfold BD at hn
  obtain ⟨i,hi,rfl⟩:=List.mem_map.1 hn
  have:=List.mem_range.1 hi
  omega
theorem adx (Aa:EI sec nodes D pos) (BU:(Bw sec nodes D.length).vars≤100000000):nE (Dp sec nodes D) (AK sec) D.length (DW sec nodes D).length:=by
 obtain ⟨h1,h2⟩:=jx Aa
 have low: ∀ i,i<(DW sec nodes D).length→(Dp sec nodes D).getD i []∈DW sec nodes D:=fun i hi=>by
  unfold Dp
  rw[Rl (by rw[List.length_append];omega),Rl hi]
  exact VZ hi
 have Xq: ∀ i t,i<D.length→t<4→(Dp sec nodes D).getD ((DW sec nodes D).length+4*i+t) []=(Ju (AK sec+2*D.length+1+i) (AK sec+1+i) (AK sec+D.length+1+i)).getD t []:=fun i t hi ht=>by
  have:=(aaj Aa hi ht).1
  rw[h2] at this
  exact this
 refine ⟨h1,fun i hi=>?_,fun i hi=>?_,fun i hi=>?_,fun i hi=>?_,?_,fun i hi l hl=>?_,fun i hi=>?_⟩
 ·exact Xq i 0 hi (by omega)
 ·exact Xq i 1 hi (by omega)
 ·exact Xq i 2 hi (by omega)
 ·exact Xq i 3 hi (by omega)
 ·have:=(xp (sec:=sec) (nodes:=nodes) (D:=D)).1
  rw[show (Dp sec nodes D).length - 1=(DW sec nodes D).length+4*D.length by omega] at this
  rw[this]
  unfold Oe BD
  rw[List.map_map];rfl
 ·have:=Vp Aa _ (low i hi) l hl
  exact ⟨by omega,this.2.2.2⟩
 ·exact Nat.le_trans (SK _ (low i hi)) (by omega)
end
end Cl
def DD:List (List Int)→Nat
 |[]=>0
 |c::cs=>c.length+DD cs
theorem SV (a b:List (List Int)):DD (a++b)=DD a+DD b:=by
 induction a with
 |nil=>simp[DD]
 |cons c a ih=>show c.length+DD (a++b)=c.length+DD a+DD b;omega
theorem yO (cs:List (List Int)) (i:Nat) (h:i<cs.length):DD (cs.take (i+1))=DD (cs.take i)+(cs.getD i []).length:=by
 induction cs generalizing i with
 |nil=>exact absurd h (by simp)
 |cons c cs ih=>
  cases i with
  |zero=>show c.length+DD (List.take 0 cs)=0+c.length;simp[DD]
  |succ i=>
   have:=ih i (by simp at h;omega)
   show c.length+DD (List.take (i+1) cs)=c.length+DD (List.take i cs)+(cs.getD i []).length
   omega
theorem kg (cs:List (List Int)) (n:Nat) (h: ∀ c∈cs,c.length≤n):DD cs≤n*cs.length:=by
 induction cs with
 |nil=>exact Nat.zero_le _
 |cons c cs ih=>
  have h1:=h c (by simp)
  have h2:=ih fun d hd=>h d (by simp[hd])
  show c.length+DD cs≤n*(cs.length+1)
  rw[Nat.mul_add];omega
namespace Cl
theorem kA {a b c:Int} (h:a≠0):1≤(EH a b c).length:=by
 unfold EH
 rw[List.filter_cons_of_pos (by simp[h])]
 simp
theorem jB {g:Nat→Nat} {v:Int} {node:Nat} {u:Int} (h:v≠0):1≤DD (E8 g v node u):=by
 have h1: ∀ b c,1≤(EH v b c).length:=fun b c=>kA h
 have h2: ∀ b c,1≤(EH (-v) b c).length:=fun b c=>kA (by omega)
 unfold E8
 split
 ·have:=h2 u 0;show 1≤(EH (-v) u 0).length+0;omega
 ·split
  ·have:=h1 u 0;show 1≤(EH v u 0).length+0;omega
  ·have:=h2 u (g node)
   show 1≤(EH (-v) u (g node)).length+_;omega
theorem yP {u:Nat} {g:Nat→Nat} {v lo hi:Nat} (h:0<v):2≤DD (G' u g v lo hi):=by
 unfold G'
 rw[SV]
 have h1:=jB (g:=g) (v:=(v:Int)) (node:=lo) (u:=(u:Int)) (by omega)
 have h2:=jB (g:=g) (v:=(v:Int)) (node:=hi) (u:= -(u:Int)) (by omega)
 omega
theorem kB (nodes:List Dg.Nd) (b1 b2:List Nat) (x:Ns) (f1 f2:Nat→Nat): ∀ i,(∀ j,2≤j→j<i→0<f1 j∧0<f2 j)→(BG nodes b1 b2 x i).vars≤x.vars+DD (Ff nodes b1 b2 f1 f2 i)
 |0,_=>Nat.le_add_right _ _
 |i+1,h=>by
  by_cases c:i<2
  ·rw[OH nodes b1 b2 x _ (by omega)];exact Nat.le_add_right _ _
  ·have ih:=kB nodes b1 b2 x f1 f2 i fun j h2 hj=>h j h2 (by omega)
   obtain ⟨p1,p2⟩:=h i (by omega) (by omega)
   rw[Rw nodes b1 b2 x (by omega),gD]
   show _≤x.vars+DD (if i<2 then _ else _)
   rw[if_neg c,SV]
   unfold Jt
   rw[SV]
   have n1:=yP (u:=b1.getD (Dg.AG nodes i).bit 0) (g:=f1) (lo:=(Dg.AG nodes i).lo) (hi:=(Dg.AG nodes i).hi) p1
   split <;> omega
theorem yQ {sec:List Bool} {nodes:List Dg.Nd} {D:List Nat}:(Bw sec nodes D.length).vars≤AK sec+3*D.length+DD (DW sec nodes D):=by
 have h:=kB nodes (b1 sec) (b2 sec) ⟨AK sec+3*D.length,0,fun _=>0,fun _=>0,[]⟩ (F1 sec nodes D) (F2 sec nodes D) nodes.length fun j h2 hj=>⟨ND h2 hj,Oa h2 hj⟩
 have h:(Bw sec nodes D.length).vars≤AK sec+3*D.length+DD (Ff nodes (b1 sec) (b2 sec) (F1 sec nodes D) (F2 sec nodes D) nodes.length):=h
 unfold DW
 rw[SV,SV]
 omega
theorem gM (S:List Bool) (a:List Nat): ∀ i q,q<4*i→S.getD (q/4) false=false→ ∃ l∈DJ S a i,l.natAbs=q+1
 |0,q,h,_=>absurd h (by omega)
 |i+1,q,h,hs=>by
  show ∃ l∈(if S.getD i false=true then DJ S a i else DJ S a i++Bl (a.getD i 0) (4*i) 4),_
  by_cases c:q<4*i
  ·obtain ⟨l,hl,e⟩:=gM S a i q c hs
   split
   ·exact ⟨l,hl,e⟩
   ·exact ⟨l,List.mem_append_left _ hl,e⟩
  ·have:q/4=i:=by omega
   rw[this] at hs
   rw[if_neg (by rw[hs];decide)]
   obtain ⟨l,hl,e⟩:=VH (v:=a.getD i 0) (n:=4*i) 4 (q - 4*i) (by omega)
   exact ⟨l,List.mem_append_right _ hl,by omega⟩
theorem acZ {V:Nat→Int} {T:Int→Prop} (hc:JF T V) {v:Nat} (h0:0<v) (h:0<V v):T (v:Int):=hc (v:Int) (by omega) (by unfold hold;rw[if_neg (by omega)];simpa using h)
theorem ac_ {V:Nat→Int} {T:Int→Prop} (hc:JF T V) {v:Nat} (h0:0<v) (h:V v<0):T (-(v:Int)):=hc (-(v:Int)) (by omega) (by unfold hold;rw[if_pos (by omega),show (-(v:Int)).natAbs=v by omega];omega)
end Cl
structure L8 (S:List Bool) (a b:List Nat):Prop where
 la:a.length=S.length
 lb:b.length=S.length
 H_: ∀ i,a.getD i 0<16
 Kk: ∀ i,b.getD i 0<16
 ag: ∀ i,i<S.length→S.getD i false=false→a.getD i 0=b.getD i 0
theorem L8.agB {S:List Bool} {a b:List Nat} (h:L8 S a b):Dg.Ra S.length S (xb a) (xb b):=fun q hq hs=>by
 unfold xb
 rw[h.ag (q/4) (by omega) hs]
theorem L8.self {S:List Bool} {a b:List Nat} (h:L8 S a b):L8 S a a:=⟨h.la,h.la,h.H_,h.H_,fun _ _ _=>rfl⟩
namespace Ck
section
variable {p:Pg} (ok:Ep p) (k:Nat)
def Tp (p:Pg) (k:Nat) (a b:List Nat):Int→Prop:=Cl.Tr (Cl.Ms p.sec (nodes p k) (told p k) (xb a) (xb b))
def ah (p:Pg) (k:Nat):List (List Int):=Cl.DW p.sec (nodes p k) (told p k)
include ok in
theorem lV {a b:List Nat} (h:L8 p.sec a b): ∀ l,l≠0→Tp p k a b l→Tp p k a b (-l)→False:=fun l h0 t u=>Cl.ac9 (S:=Cl.Ms p.sec (nodes p k) (told p k) (xb a) (xb b)) (fun v t u h1 h2=>Cl.Ms.fn (OQ ok k) h.agB h1 h2) h0 t u
include ok in
theorem lW (a b:List Nat): ∀ i,i<(ah p k).length→(∀ l∈(ah p k).getD i [],l≠0∧l.natAbs≤(fm p k).vars)∧((ah p k).getD i []).length≤1000000∧ ∃ l∈(ah p k).getD i [],Tp p k a b l:=fun i hi=>by
 have hm:(ah p k).getD i []∈Cl.DW p.sec (nodes p k) (told p k):=Cl.VZ hi
 refine ⟨fun l hl=>?_,Nat.le_trans (Cl.SK _ hm) (by omega),Cl.xm (OQ ok k) (xb a) (xb b) _ hm⟩
 have:=Cl.Vp (OQ ok k) _ hm l hl
 exact ⟨this.1,this.2.2.1⟩
include ok in
theorem ki {a:List Nat} (la:a.length=p.sec.length) (H_: ∀ i,a.getD i 0<16) {i:Nat} (hi:i<7*k):Dg.vl (nodes p k) (xb a) ((told p k).getD i 0)=true↔LP (Mc.tells p (Mc.BZ a) k) i=1:=by
 rw[((M6 ok k).2.2.2 i hi).2 (xb a)]
 unfold Dg.Fa Dg.told LP
 rw[Dg.acU p.sec.length a la H_,Nat.shiftRight_eq_div_pow,Nat.and_one_is_mod]
 simp
include ok in
theorem jC:Cl.AK p.sec+3*(7*k)≤(fm p k).vars:=by
 have h:=(Cl.OP p.sec (nodes p k) (told p k)).vars
 have h:Cl.AK p.sec+3*(told p k).length≤(fm p k).vars:=h
 rw[(M6 ok k).2.2.1] at h
 exact h
include ok in
theorem lX {a b:List Nat}: ∀ l∈FX p.sec a b,l≠0∧l.natAbs≤(fm p k).vars∧Tp p k a b l:=fun l hl=>by
 obtain ⟨h1,h2,h3⟩:=Cl.abC (nodes:=nodes p k) (D:=told p k) a b l hl
 have:=jC ok k
 exact ⟨h1,by omega,h3⟩
include ok in
theorem uJ {a b:List Nat} (h:L8 p.sec a b): ∀ V,(∀ j,V j=0∨V j=1∨V j= -1)→Cl.JF (Tp p k a b) V→(∀ l∈FX p.sec a b,0<Cl.hold V l)→(∀ i,i<(ah p k).length→Cl.Two V ((ah p k).getD i []))→nB V (fm p k).vars (Cl.AK p.sec) (7*k) (Mc.tells p (Mc.BZ a) k) (Mc.tells p (Mc.BZ b) k):=by
 intro V hV hc hx hf
 have Aa:=OQ ok k
 have hD:=(M6 ok k).2.2.1
 have fx: ∀ c∈Cl.DW p.sec (nodes p k) (told p k),Cl.Two V c:=fun c hm=>by
  obtain ⟨i,hi,rfl⟩:=List.mem_iff_getElem.1 hm
  have:=hf i hi
  rw[List.getD_eq_getElem?_getD,show (ah p k)[i]? =some _ from List.getElem?_eq_getElem hi] at this
  exact this
 obtain ⟨c1,c2⟩:=Cl.yK hx
 have fn:=fun {v:Nat} {t u:Bool} (h1:Cl.Ms p.sec (nodes p k) (told p k) (xb a) (xb b) v t) (h2:Cl.Ms p.sec (nodes p k) (told p k) (xb a) (xb b) v u)=>Cl.Ms.fn Aa h.agB h1 h2
 have key: ∀ v t,0<v→Cl.Ms p.sec (nodes p k) (told p k) (xb a) (xb b) v t→(0<V v↔t=true):=fun v t h0 hm=>by
  have h1:=Cl.jq hV fx Aa c1 c2 hm
  constructor
  ·intro hp
   have:=Cl.acZ hc h0 hp
   exact fn hm (Cl.Q_.1 this)
  ·intro e
   rcases hV v with g|g|g
   ·exact absurd g h1
   ·omega
   ·have:=(Cl.Qa h0).1 (Cl.ac_ hc h0 (by omega))
    rw[e] at hm
    exact absurd (fn hm this) (by decide)
 refine ⟨fun j j1 j2 j3=>?_,fun i hi=>?_,fun i hi=>?_⟩
 ·obtain ⟨t,hm⟩:=Cl.Ms.all (sec:=p.sec) (nodes:=nodes p k) (D:=told p k) (xb a) (xb b) j1 j2 (by rw[hD];exact j3)
  exact Cl.jq hV fx Aa c1 c2 hm
 ·rw[key _ _ (by omega) (Cl.Ms.t1 i (by rw[hD];exact hi))]
  exact ki ok k h.la h.H_ hi
 ·have:=Cl.Ms.t2 (sec:=p.sec) (nodes:=nodes p k) (x:=xb a) (y:=xb b) (D:=told p k) i (by rw[hD];exact hi)
  rw[hD,show Cl.AK p.sec+7*k+1+i=Cl.AK p.sec+1+7*k+i by omega] at this
  rw[key _ _ (by omega) this]
  exact ki ok k h.lb h.Kk hi
theorem yR: ∀ i t,i<p.sec.length→t<4→p.sec.getD i false=true→Cl.L1 p.sec (nodes p k) (told p k) (4*i+t+1):=fun i t hi ht hs=>by
 have:=Cl.L1.i (sec:=p.sec) (nodes:=nodes p k) (D:=told p k) (4*i+t) (by omega) (by rw[show (4*i+t)/4=i by omega];exact hs)
 rw[Cl.M8 p.sec (by omega)] at this
 exact this
theorem yS: ∀ j,4*p.sec.length<j→j≤Cl.AK p.sec→Cl.L2 p.sec (nodes p k) (told p k) j:=fun j h1 h2=>by
 obtain ⟨b,hb,hs,e⟩:=Cl.kT p.sec p.sec.length (Nat.le_refl _) j h1 h2
 rw[←e]
 exact .i b hb hs
include ok in
theorem yT: ∀ i,i<7*k→Cl.L1 p.sec (nodes p k) (told p k) (Cl.AK p.sec+1+i):=fun i hi=>.t i (by rw[(M6 ok k).2.2.1];exact hi)
include ok in
theorem yU: ∀ i,i<7*k→Cl.L2 p.sec (nodes p k) (told p k) (Cl.AK p.sec+1+7*k+i):=fun i hi=>by
 have:=Cl.L2.t (sec:=p.sec) (nodes:=nodes p k) (D:=told p k) i (by rw[(M6 ok k).2.2.1];exact hi)
 rw[(M6 ok k).2.2.1,show Cl.AK p.sec+7*k+1+i=Cl.AK p.sec+1+7*k+i by omega] at this
 exact this
include ok in
theorem yV (a:List Nat): ∀ V,(∀ j,V j=0∨V j=1∨V j= -1)→Cl.JF (Tp p k a a) V→(∀ l∈DJ p.sec a p.sec.length,0<Cl.hold V l)→(∀ i,i<(ah p k).length→Cl.Two V ((ah p k).getD i []))→ ∀ i,i<(ah p k).length→(∀ l∈(ah p k).getD i [],V l.natAbs=0→Cl.L1 p.sec (nodes p k) (told p k) l.natAbs)∨(∀ l∈(ah p k).getD i [],V l.natAbs=0→Cl.L2 p.sec (nodes p k) (told p k) l.natAbs):=by
 intro V hV hc hx hf i hi
 have fx: ∀ c∈Cl.DW p.sec (nodes p k) (told p k),Cl.Two V c:=fun c hm=>by
  obtain ⟨i,hi,rfl⟩:=List.mem_iff_getElem.1 hm
  have:=hf i hi
  rw[List.getD_eq_getElem?_getD,show (ah p k)[i]? =some _ from List.getElem?_eq_getElem hi] at this
  exact this
 refine Cl.aae hV fx (OQ ok k) (fun b hb hs=>?_) _ (Cl.VZ hi)
 rw[Cl.M8 p.sec hb]
 obtain ⟨l,hl,e⟩:=Cl.gM p.sec a p.sec.length b hb hs
 rw[←e]
 exact Cl.Z5 (hx l hl)
end
end Ck
end Go.Proofs.YtgddmpmcnjlcjaaGreatDoor
