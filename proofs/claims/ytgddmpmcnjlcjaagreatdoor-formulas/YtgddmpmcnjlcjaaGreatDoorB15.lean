import Derived.Test.YtgddmpmcnjlcjaaGreatDoorB01
import Derived.Test.YtgddmpmcnjlcjaaGreatDoorB14
namespace Go.Proofs.YtgddmpmcnjlcjaaGreatDoor.Lk
set_option linter.unusedVariables false
def Sy (x:At):Prop:=(x.named=true→x.val<7)∧(x.named=false→x.val<16)
structure LH (na:Nat) (s:St):Prop where
 kind:s.kind≤6
 op:s.op≤10
 slot:s.slot<7
 arr:s.kind=1∨s.kind=2→s.arr<na
 a:Sy s.a
 b:Sy s.b
structure C_ (r:RS):Prop where
 sec:r.Ah.length≤3
 var:r.vars≤4
 AR:r.cells.length≤2
 KI: ∀ j,j<r.cells.length→r.cells.getD j 0≤4
 l1: ∀ i,(r.letters i).1=1→(r.letters i).2<r.Ah.length+r.vars
 l2: ∀ i,(r.letters i).1=2→(r.letters i).2<r.cells.length
 A_: ∀ s,s∈r.body→LH r.cells.length s
theorem Mz:Sy {}:=⟨fun h=>(by cases h),fun _=>by decide⟩
theorem vg (na:Nat):LH na {}:=⟨by decide,by decide,by decide,fun h=>(by rcases h with h|h <;> cases h),Mz,Mz⟩
theorem fU (na n:Nat):LH na { kind:=6,next:=n }:=⟨Nat.le_refl 6,Nat.zero_le 10,(by show 0<7;decide),fun h=>(by rcases h with h|h <;> cases h),Mz,Mz⟩
theorem jT:C_ {}:=⟨by decide,by decide,by decide,fun j h=>(by cases h),fun i h=>(by cases h),fun i h=>(by cases h),fun s h=>(by cases h)⟩
theorem OU {w:Wd} {n:Nat} (h:num? w=some n):n<16:=by
 unfold num? at h
 split at h
 ·split at h
  ·cases h;omega
  ·cases h
 ·split at h
  ·cases h;omega
  ·cases h
 ·cases h
theorem Vu {w:Wd} {n:Nat} (h:oper? w=some n):n≤10:=by
 unfold oper? at h
 repeat' split at h
 all_goals first|(cases h;done)|(injection h with h;omega)
variable {r r':RS} {ws:List Wd}
theorem VM (h:C_ r) {w:Wd} (e:(find r w).1=1):(find r w).2<7:=by
 unfold find at e ⊢
 split at e
 ·rename_i hn
  rw[if_pos hn]
  have:=h.l1 _ e
  have:=h.sec
  have:=h.var
  omega
 ·cases e
theorem h_ (h:C_ r) {w:Wd} (e:(find r w).1=2):(find r w).2<r.cells.length:=by
 unfold find at e ⊢
 split at e
 ·rename_i hn
  rw[if_pos hn]
  exact h.l2 _ e
 ·cases e
theorem N2 (h:C_ r) {w:Wd} {x:At} (e:atom? r w=some x):Sy x:=by
 unfold atom? at e
 split at e
 ·rename_i n hn
  cases e
  exact ⟨fun h=>(by cases h),fun _=>OU hn⟩
 ·split at e
  ·rename_i hf
   cases e
   exact ⟨fun _=>VM h hf,fun h=>(by cases h)⟩
  ·cases e
theorem QS {s:St} (h:C_ r) (hs:LH r.cells.length s) (e:add r s=some r'):C_ r'∧r'.cells=r.cells:=by
 unfold add at e
 split at e
 ·cases e
  refine ⟨⟨h.sec,h.var,h.AR,h.KI,h.l1,h.l2,?_⟩,rfl⟩
  intro x hx
  simp only[List.mem_append,List.mem_singleton] at hx
  rcases hx with hx|rfl
  ·exact h.A_ x hx
  ·exact ⟨hs.kind,hs.op,hs.slot,hs.arr,hs.a,hs.b⟩
 ·cases e
theorem YL (h:C_ r) (i:Nat):LH r.cells.length (bodyAt r.body i):=by
 unfold bodyAt
 rw[List.getD_eq_getElem?_getD]
 by_cases hi:i<r.body.length
 ·rw[List.getElem?_eq_getElem hi]
  exact h.A_ _ (List.getElem_mem hi)
 ·rw[List.getElem?_eq_none (by omega)]
  exact vg _
theorem fW {b:Bool} (h:C_ r) (e:E6 r ws b=some r'):C_ r':=by
 unfold E6 at e
 split at e
 ·rename_i hc
  split at e
  ·rename_i r2 hd
   cases e
   unfold declare at hd
   split at hd
   ·rename_i hq
    cases hd
    have hb:r.body=[]:=List.length_eq_zero_iff.1 hq.1
    refine ⟨by simp;omega,h.var,h.AR,h.KI,?_,?_,?_⟩
    ·intro i hi
     simp only[upd] at hi ⊢
     simp only[List.length_append,List.length_singleton]
     split
     ·simp;omega
     ·rename_i hne
      rw[if_neg hne] at hi
      have:=h.l1 i hi
      omega
    ·intro i hi
     simp only[upd] at hi ⊢
     split
     ·rename_i he
      rw[if_pos he] at hi
      cases hi
     ·rename_i hne
      rw[if_neg hne] at hi
      exact h.l2 i hi
    ·intro s hs
     simp[hb] at hs
   ·cases hd
  ·cases e
 ·cases e
theorem zQ (h:C_ r) (e:FW r ws=some r'):C_ r':=by
 unfold FW at e
 split at e
 ·rename_i hc
  split at e
  ·rename_i r2 hd
   cases e
   unfold declare at hd
   split at hd
   ·rename_i hq
    cases hd
    have hb:r.body=[]:=List.length_eq_zero_iff.1 hq.1
    refine ⟨h.sec,by simp;omega,h.AR,h.KI,?_,?_,?_⟩
    ·intro i hi
     simp only[upd] at hi ⊢
     split
     ·simp
     ·rename_i hne
      rw[if_neg hne] at hi
      have:=h.l1 i hi
      omega
    ·intro i hi
     simp only[upd] at hi ⊢
     split
     ·rename_i he
      rw[if_pos he] at hi
      cases hi
     ·rename_i hne
      rw[if_neg hne] at hi
      exact h.l2 i hi
    ·intro s hs
     simp[hb] at hs
   ·cases hd
  ·cases e
 ·cases e
theorem ru (h:C_ r) (e:FV r ws=some r'):C_ r':=by
 unfold FV at e
 split at e
 ·rename_i hc
  split at e
  ·rename_i n hn
   split at e
   ·rename_i hle
    split at e
    ·rename_i r2 hd
     cases e
     unfold declare at hd
     split at hd
     ·rename_i hq
      cases hd
      have hb:r.body=[]:=List.length_eq_zero_iff.1 hq.1
      refine ⟨h.sec,h.var,by simp;omega,?_,?_,?_,?_⟩
      ·intro j hj
       simp only[List.length_append,List.length_singleton] at hj
       simp only[List.getD_eq_getElem?_getD]
       by_cases hjl:j<r.cells.length
       ·rw[List.getElem?_append_left hjl, ←List.getD_eq_getElem?_getD]
        exact h.KI j hjl
       ·have:j=r.cells.length:=by omega
        subst this
        simp;omega
      ·intro i hi
       simp only[upd] at hi ⊢
       split
       ·rename_i he
        rw[if_pos he] at hi
        cases hi
       ·rename_i hne
        rw[if_neg hne] at hi
        exact h.l1 i hi
      ·intro i hi
       simp only[upd] at hi ⊢
       simp only[List.length_append,List.length_singleton]
       split
       ·simp
       ·rename_i hne
        rw[if_neg hne] at hi
        have:=h.l2 i hi
        omega
      ·intro s hs
       simp[hb] at hs
     ·cases hd
    ·cases e
   ·cases e
  ·cases e
 ·cases e
theorem vh (h:C_ r) (e:Hc r ws=some r'):C_ r':=by
 unfold Hc at e
 split at e
 ·rename_i hc
  split at e
  ·rename_i x hx
   exact (QS h ⟨(by simp),(by simp),VM h hc.2.1,fun _=>h_ h hc.2.2,N2 h hx,Mz⟩ e).1
  ·cases e
 ·cases e
theorem sA (h:C_ r) (e:Hb r ws=some r'):C_ r':=by
 unfold Hb at e
 split at e
 ·rename_i hc
  split at e
  ·rename_i x y hx hy
   exact (QS h ⟨(by simp),(by simp),(by simp),fun _=>h_ h hc.2,N2 h hx,N2 h hy⟩ e).1
  ·cases e
 ·cases e
theorem zR (h:C_ r) (e:Hh r ws=some r'):C_ r':=by
 unfold Hh at e
 split at e
 ·split at e
  ·rename_i x hx
   exact (QS h ⟨(by simp),(by simp),(by simp),fun h=>(by rcases h with h|h <;> cases h),N2 h hx,Mz⟩ e).1
  ·cases e
 ·cases e
theorem qK (h:C_ r) (e:GN r ws=some r'):C_ r':=by
 unfold GN at e
 split at e
 ·rename_i hc
  split at e
  ·rename_i x hx
   split at e
   ·exact (QS h ⟨(by simp),(by simp),VM h hc.2.2,fun h=>(by rcases h with h|h <;> cases h),N2 h hx,Mz⟩ e).1
   ·split at e
    ·rename_i o y ho hy
     exact (QS h ⟨(by simp),Vu ho,VM h hc.2.2,fun h=>(by rcases h with h|h <;> cases h),N2 h hx,N2 h hy⟩ e).1
    ·cases e
  ·cases e
 ·cases e
theorem eJ {k:Nat} (hk:k=4∨k=5) (h:C_ r) (e:FD r ws k=some r'):C_ r':=by
 unfold FD at e
 split at e
 ·split at e
  ·rename_i x hx
   split at e
   ·rename_i r2 h2
    cases e
    have q:=(QS h ⟨by show k≤6;omega,(by simp),(by simp),fun h=>by have h':k=1∨k=2:=h;omega,N2 h hx,Mz⟩ h2).1
    exact ⟨q.sec,q.var,q.AR,q.KI,q.l1,q.l2,q.A_⟩
   ·cases e
  ·cases e
 ·cases e
theorem vq (h:C_ r) (e:Fx r ws=some r'):C_ r':=by
 unfold Fx at e
 split at e
 ·cases e
  refine ⟨h.sec,h.var,h.AR,h.KI,h.l1,h.l2,?_⟩
  intro x hx
  simp only[List.mem_append,List.mem_singleton] at hx
  rcases hx with hx|rfl
  ·rcases List.mem_or_eq_of_mem_set hx with hx|rfl
   ·exact h.A_ x hx
   ·have q:=YL h (r.opn (r.depth - 1)).1
    exact ⟨q.kind,q.op,q.slot,q.arr,q.a,q.b⟩
  ·exact fU _ _
 ·cases e
theorem zS (h:C_ r) (e:takeEnd r ws=some r'):C_ r':=by
 unfold takeEnd at e
 split at e
 ·cases e
  refine ⟨h.sec,h.var,h.AR,h.KI,h.l1,h.l2,?_⟩
  intro x hx
  simp only[List.mem_append,List.mem_singleton] at hx
  rcases hx with hx|rfl
  ·split at hx
   ·rcases List.mem_or_eq_of_mem_set hx with hx|rfl
    ·exact h.A_ x hx
    ·have q:=YL h (r.opn (r.depth - 1)).1
     exact ⟨q.kind,q.op,q.slot,q.arr,q.a,q.b⟩
   ·rcases List.mem_or_eq_of_mem_set hx with hx|rfl
    ·exact h.A_ x hx
    ·have q:=YL h (r.opn (r.depth - 1)).2
     exact ⟨q.kind,q.op,q.slot,q.arr,q.a,q.b⟩
  ·exact fU _ _
 ·cases e
theorem JK {c:Prop} [Decidable c] {a b:Option RS} (e:(if c then a else b)=some r'):a=some r'∨b=some r':=by
 by_cases h:c
 ·rw[if_pos h] at e;exact .inl e
 ·rw[if_neg h] at e;exact .inr e
theorem vu (h:C_ r) (e:take r ws=some r'):C_ r':=by
 unfold take at e
 rcases JK e with e|e
 ·cases e
 rcases JK e with e|e
 ·exact fW h e
 rcases JK e with e|e
 ·exact fW h e
 rcases JK e with e|e
 ·exact zQ h e
 rcases JK e with e|e
 ·exact ru h e
 rcases JK e with e|e
 ·exact vh h e
 rcases JK e with e|e
 ·exact sA h e
 rcases JK e with e|e
 ·exact zR h e
 rcases JK e with e|e
 ·exact eJ (.inl rfl) h e
 rcases JK e with e|e
 ·exact eJ (.inr rfl) h e
 rcases JK e with e|e
 ·exact vq h e
 rcases JK e with e|e
 ·exact zS h e
 ·exact qK h e
theorem sB (h:C_ r) (n:Nat) (ls:List Wd):C_ (lines r n ls).1:=by
 induction ls generalizing r n with
 |nil=>exact h
 |cons l ls ih=>
  cases ls with
  |nil=>
   unfold lines
   split
   ·exact h
   ·exact h
  |cons m ls=>
   unfold lines
   split
   ·rename_i r2 e
    exact ih (vu h e) _
   ·exact h
theorem vw (s:Wd):C_ (read s).1:=by
 unfold read
 split
 ·exact jT
 ·exact sB jT _ _
theorem zT (h:C_ r) {s:St} (hs:s∈link r.body):LH r.cells.length s∧s.kind≤5:=by
 unfold link at hs
 simp only[List.mem_map,List.mem_filter] at hs
 obtain ⟨x,⟨hx,hk⟩,rfl⟩:=hs
 have hk6:x.kind≠6:=by simpa using hk
 have q:=h.A_ x hx
 have PH:x.kind≤5:=by have:=q.kind;omega
 unfold EJ
 split
 ·exact ⟨⟨q.kind,q.op,q.slot,q.arr,q.a,q.b⟩,PH⟩
 ·exact ⟨⟨q.kind,q.op,q.slot,q.arr,q.a,q.b⟩,PH⟩
end Go.Proofs.YtgddmpmcnjlcjaaGreatDoor.Lk
namespace Go.Proofs.YtgddmpmcnjlcjaaGreatDoor
open Go.RowKit
set_option linter.unusedVariables false
namespace Mc
structure Ev (m:M):Prop where
 s: ∀ i,m.slots i<16
 c: ∀ i,m.AR i<16
def act (cs:List Nat) (s:Lk.St) (m:M):Nat×M:=
 if s.kind=3 then (48+value { m with at_:=s.next } s.a,{ m with at_:=s.next })
 else if s.kind=4∨s.kind=5 then (if value { m with at_:=s.next } s.a=0 then (16,{ m with at_:=s.els }) else (17,{ m with at_:=s.next }))
 else if s.kind=1∨s.kind=2 then (32+value { m with at_:=s.next } s.a,access { m with at_:=s.next } cs s (value { m with at_:=s.next } s.a) (value { m with at_:=s.next } s.b))
 else (0,put { m with at_:=s.next } s.slot (apply s.op (value { m with at_:=s.next } s.a) (value { m with at_:=s.next } s.b)))
variable {m:M} {cs:List Nat} {code:List Lk.St} {s:Lk.St}
theorem Ve (ht:m.trap=false) (hn:m.at_<code.length):step cs code m=act cs (code.getD m.at_ {}) m:=by
 unfold step
 rw[if_neg (by rw[ht];simp),if_pos hn]
 rfl
theorem V7 (ht:m.trap=true):step cs code m=(80,m):=by
 unfold step
 rw[if_pos ht]
theorem V8 (ht:m.trap=false) (hn: ¬m.at_<code.length):step cs code m=(64,m):=by
 unfold step
 rw[if_neg (by rw[ht];simp),if_neg hn]
theorem QH (h:Ev m) {x:Lk.At} (hx:Lk.Sy x) (n:Nat):value { m with at_:=n } x<16:=by
 unfold value
 by_cases hb:x.named=true
 ·rw[if_pos hb];exact h.s _
 ·rw[if_neg hb];exact hx.2 (by simpa using hb)
theorem Ev.put (h:Ev m) {i v:Nat} (hv:v<16):Ev (Mc.put m i v):=
 ⟨fun j=>by
   show Lk.upd m.slots i v j<16
   unfold Lk.upd
   split
   ·exact hv
   ·exact h.s j,h.c⟩
theorem Ev.next (h:Ev m) (n:Nat):Ev { m with at_:=n }:=⟨h.s,h.c⟩
theorem Ev.access (h:Ev m) {i v:Nat} (hv:v<16):Ev (Mc.access m cs s i v):=by
 unfold Mc.access
 split
 ·split
  ·exact ⟨h.s,fun j=>by
    show Lk.upd m.AR _ v j<16
    unfold Lk.upd
    split
    ·exact hv
    ·exact h.c j⟩
  ·exact h.put (h.c _)
 ·exact ⟨h.s,h.c⟩
theorem abY {na:Nat} (h:Ev m) (hs:Lk.LH na s):Ev (act cs s m).2:=by
 unfold act
 split
 ·exact h.next _
 ·split
  ·split
   ·exact h.next _
   ·exact h.next _
  ·split
   ·exact (h.next _).access (QH h hs.b _)
   ·exact (h.next _).put (SG _ _ _ hs.op (QH h hs.a _) (QH h hs.b _))
end Mc
structure Pg where
 sec:List Bool:=[]
 cells:List Nat:=[]
 code:List Lk.St:=[]
structure Ep (p:Pg):Prop where
 sec:p.sec.length≤3
 AR:p.cells.length≤2
 KI: ∀ j,j<p.cells.length→p.cells.getD j 0≤4
 cod: ∀ s,s∈p.code→Lk.LH p.cells.length s∧s.kind≤5
structure IV (w:World) (p:Pg) (vs vc vk:Value):Prop where
 s:w.ownsRow 0 4 1 vs p.sec.length (p.sec.map Value.bool)
 c:w.ownsRow 0 3 1 vc p.cells.length (p.cells.map fun (n:Nat)=>.int .i64 n)
 k:w.ownsRow 0 147 10 vk p.code.length (flat p.code)
theorem IV.same {w w':World} {p:Pg} {vs vc vk:Value} (h:IV w p vs vc vk) (hb:Below w.heap.size w w'):IV w' p vs vc vk:=
 ⟨CL h.s hb.block,CL h.c hb.block,CL h.k hb.block⟩
namespace Mc
theorem ZI {p:Pg} (ok:Ep p) {i:Nat} (h:i<p.code.length):Lk.LH p.cells.length (p.code.getD i {})∧(p.code.getD i {}).kind≤5:=by
 have e:p.code.getD i {}=p.code[i]:=by rw[List.getD_eq_getElem?_getD,List.getElem?_eq_getElem h];rfl
 rw[e]
 exact ok.cod _ (List.getElem_mem h)
theorem zU {p:Pg} (ok:Ep p) {m:M} (h:Ev m):Ev (step p.cells p.code m).2:=by
 cases ht:m.trap with
 |true=>rw[V7 ht];exact h
 |false=>
  by_cases hn:m.at_<p.code.length
  ·rw[Ve ht hn];exact abY h (ZI ok hn).1
  ·rw[V8 ht hn];exact h
end Mc
section
variable (p:Pg) (ok:Ep p) (m:Mc.M) (mo:Mc.Ev m) (b:Nat) (w:World) (vs vc vk:Value) (nv:Int) (hp:IV w p vs vc vk) (hr:w.rowIs b 162 17 (Av m)) (hgb: ∀ g,vc.ownBlock=some g→g≠b)
include ok mo hp hr hgb
theorem wB:Calls Tryz.prog 82 #[.pointer (some ⟨b,0,none⟩),.agg #[vs,.int .i64 nv,vc,vk]] w fun e w'=>L9 w w' b e (Mc.step p.cells p.code m).1 (Mc.step p.cells p.code m).2:=by
 cases ht:m.trap with
 |true=>
  rw[Mc.V7 ht]
  refine (rZ m b w vs vc nv vk hr ht).mono ?_
  rintro e w' ⟨rfl,hb⟩
  exact ⟨rfl,hr.of_block (hb.block b hr.lt),A9.Ap hb (Nat.zero_le _)⟩
 |false=>
  by_cases hn:m.at_<p.code.length
  ·obtain ⟨so,sk⟩:=Mc.ZI ok hn
   rw[Mc.Ve ht hn]
   obtain ⟨gk,ck,hv,_,_⟩:=hp.k.form (by omega)
   subst hv
   have hcell: ∀ k,k<10→w.cell? ⟨gk,m.at_*10+k,none⟩=(AZ (p.code.getD m.at_ {}))[k]? :=fun k hk=>(hp.k.cellAt (m.at_*10+k) (by omega)).trans (Jm p.code m.at_ k hn hk)
   revert so sk hcell
   generalize p.code.getD m.at_ {}=s
   intro so sk hcell
   have va:=Mc.QH mo so.a s.next
   have vb:=Mc.QH mo so.b s.next
   have hk:s.kind=0∨s.kind=1∨s.kind=2∨s.kind=3∨s.kind=4∨s.kind=5:=by omega
   rcases hk with hk|hk|hk|hk|hk|hk
   ·have e:Mc.act p.cells s m=(0,Mc.put { m with at_:=s.next } s.slot (Mc.apply s.op (Mc.value { m with at_:=s.next } s.a) (Mc.value { m with at_:=s.next } s.b))):=by
     unfold Mc.act
     rw[if_neg (by omega),if_neg (by omega),if_neg (by omega)]
    rw[e]
    exact oZ m b w vs vc nv gk ck p.code s hr ht hn hcell so.a.1 so.b.1 hk ⟨so.op,va,vb,so.slot⟩
   ·have e:Mc.act p.cells s m=(32+Mc.value { m with at_:=s.next } s.a,Mc.access { m with at_:=s.next } p.cells s (Mc.value { m with at_:=s.next } s.a) (Mc.value { m with at_:=s.next } s.b)):=by
     unfold Mc.act
     rw[if_neg (by omega),if_neg (by omega),if_pos (by omega)]
    rw[e]
    have ha:=so.arr (.inl hk)
    obtain ⟨g,cp,hv,_,_⟩:=hp.c.form (by omega)
    exact rq m b w vs vc nv gk ck p.code s hr ht hn hcell so.a.1 so.b.1 g cp p.cells hv (fun j hj=>by subst hv;rw[hp.c.cellAt j (by omega)];simp[hj]) ok.AR ok.KI ha (hgb g (by rw[hv];rfl)) so.slot hk va
   ·have e:Mc.act p.cells s m=(32+Mc.value { m with at_:=s.next } s.a,Mc.access { m with at_:=s.next } p.cells s (Mc.value { m with at_:=s.next } s.a) (Mc.value { m with at_:=s.next } s.b)):=by
     unfold Mc.act
     rw[if_neg (by omega),if_neg (by omega),if_pos (by omega)]
    rw[e]
    have ha:=so.arr (.inr hk)
    obtain ⟨g,cp,hv,_,_⟩:=hp.c.form (by omega)
    exact qJ m b w vs vc nv gk ck p.code s hr ht hn hcell so.a.1 so.b.1 g cp p.cells hv (fun j hj=>by subst hv;rw[hp.c.cellAt j (by omega)];simp[hj]) ok.AR ok.KI ha (hgb g (by rw[hv];rfl)) so.slot hk va
   ·have e:Mc.act p.cells s m=(48+Mc.value { m with at_:=s.next } s.a,{ m with at_:=s.next }):=by
     unfold Mc.act
     rw[if_pos hk]
    rw[e]
    exact vY m b w vs vc nv gk ck p.code s hr ht hn hcell so.a.1 so.b.1 hk va
   ·by_cases h0:Mc.value { m with at_:=s.next } s.a=0
    ·have e:Mc.act p.cells s m=(16,{ m with at_:=s.els }):=by
      unfold Mc.act
      rw[if_neg (by omega),if_pos (by omega),if_pos h0]
     rw[e]
     exact ve m b w vs vc nv gk ck p.code s hr ht hn hcell so.a.1 so.b.1 hk h0
    ·have e:Mc.act p.cells s m=(17,{ m with at_:=s.next }):=by
      unfold Mc.act
      rw[if_neg (by omega),if_pos (by omega),if_neg h0]
     rw[e]
     exact v_ m b w vs vc nv gk ck p.code s hr ht hn hcell so.a.1 so.b.1 hk h0
   ·by_cases h0:Mc.value { m with at_:=s.next } s.a=0
    ·have e:Mc.act p.cells s m=(16,{ m with at_:=s.els }):=by
      unfold Mc.act
      rw[if_neg (by omega),if_pos (by omega),if_pos h0]
     rw[e]
     exact oY m b w vs vc nv gk ck p.code s hr ht hn hcell so.a.1 so.b.1 hk h0
    ·have e:Mc.act p.cells s m=(17,{ m with at_:=s.next }):=by
      unfold Mc.act
      rw[if_neg (by omega),if_pos (by omega),if_neg h0]
     rw[e]
     exact oX m b w vs vc nv gk ck p.code s hr ht hn hcell so.a.1 so.b.1 hk h0
  ·rw[Mc.V8 ht hn]
   obtain ⟨ak,ck,hv⟩:=AX hp.k
   subst hv
   refine (rh m b w vs vc nv ak p.code.length ck hr ht (by omega)).mono ?_
   rintro e w' ⟨rfl,hb⟩
   exact ⟨rfl,hr.of_block (hb.block b hr.lt),A9.Ap hb (Nat.zero_le _)⟩
end
end Go.Proofs.YtgddmpmcnjlcjaaGreatDoor
