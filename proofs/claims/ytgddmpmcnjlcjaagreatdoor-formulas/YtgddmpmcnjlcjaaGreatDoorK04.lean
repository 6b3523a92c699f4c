import Derived.Test.YtgddmpmcnjlcjaaGreatDoorK03
import Derived.Test.YtgddmpmcnjlcjaaGreatDoorK01
import Derived.Test.YtgddmpmcnjlcjaaGreatDoorB30
import Derived.Test.YtgddmpmcnjlcjaaGreatDoorB41
set_option maxRecDepth 100000
set_option maxHeartbeats 4000000
namespace Go.Proofs.YtgddmpmcnjlcjaaGreatDoor.Tm
open Lk (Wd wd RS isName lat cut)
open Rf (Rs blk isDecl declare wElse wEnd wIf wWhile fits)
set_option linter.unusedVariables false
inductive Way (L:List Wd) (f depth:Nat) (s:Rs) (out BV:List Rf.Tr) (s2:Rs) (w:List Wd):Prop
 |decl (ds:List Rf.Dc) (h1:isDecl (wd w 0)=true) (h2:declare s.ds s.AA w=some ds) (h:blk L f depth { s with ds:=ds,at_:=s.at_+1 } out=(true,BV,s2))
 |stop (h1:isDecl (wd w 0)=false) (h2:wd w 0=wElse∨wd w 0=wEnd) (h3:w.length=1∧0<depth) (h4:BV=out) (h5:s2={ s with AA:=true })
 |one (b:List Rf.Tr) (sb:Rs) (h1:isDecl (wd w 0)=false) (h2:wd w 0=wIf∨wd w 0=wWhile) (h3:w.length=2) (h:blk L f (depth+1) { s with AA:=true,cnt:=s.cnt+1,at_:=s.at_+1 } []=(true,b,sb)) (h4:L.getD sb.at_ []≠wElse) (h5:blk L f depth { sb with at_:=sb.at_+1 } (out++[.node w b []])=(true,BV,s2))
 |two (b o:List Rf.Tr) (sb so:Rs) (h1:isDecl (wd w 0)=false) (h2:wd w 0=wIf) (h3:w.length=2) (h:blk L f (depth+1) { s with AA:=true,cnt:=s.cnt+1,at_:=s.at_+1 } []=(true,b,sb)) (h4:L.getD sb.at_ []=wElse) (h5:blk L f (depth+1) { sb with at_:=sb.at_+1 } []=(true,o,so)) (h6:L.getD so.at_ []≠wElse) (h7:blk L f depth { so with at_:=so.at_+1 } (out++[.node w b o])=(true,BV,s2))
 |plain (h1:isDecl (wd w 0)=false) (h2: ¬(wd w 0=wElse∨wd w 0=wEnd)) (h3: ¬(wd w 0=wIf∨wd w 0=wWhile)) (h4:fits s.ds w=true) (h:blk L f depth { s with AA:=true,cnt:=s.cnt+1,at_:=s.at_+1 } (out++[.node w [] []])=(true,BV,s2))
theorem OS {L:List Wd} {f depth:Nat} {s:Rs} {out BV:List Rf.Tr} {s2:Rs} (h:blk L (f+1) depth s out=(true,BV,s2)) (hl:s.at_+1<L.length):Way L f depth s out BV s2 (cut 32 (L.getD s.at_ [])):=by
 unfold blk at h
 rw[if_pos hl] at h
 generalize cut 32 (L.getD s.at_ [])=w at h
 simp only at h
 cases hd:isDecl (wd w 0) with
 |true=>
  rw[if_pos hd] at h
  cases hx:declare s.ds s.AA w with
  |none=>rw[hx] at h;simp at h
  |some ds=>rw[hx] at h;exact .decl ds hd hx h
 |false=>
  rw[if_neg (by rw[hd];simp)] at h
  by_cases he:wd w 0=wElse∨wd w 0=wEnd
  ·rw[if_pos he] at h
   simp only[Prod.mk.injEq,decide_eq_true_eq] at h
   exact .stop hd he h.1 h.2.1.symm h.2.2.symm
  ·rw[if_neg he] at h
   by_cases hc:s.cnt=12
   ·rw[if_pos hc] at h;simp at h
   ·rw[if_neg hc] at h
    by_cases hb:wd w 0=wIf∨wd w 0=wWhile
    ·rw[if_pos hb] at h
     by_cases hq:w.length=2∧depth≠4∧Rf.atom s.ds (wd w 1)=true
     ·rw[if_pos hq] at h
      rcases hx:blk L f (depth+1) { s with AA:=true,cnt:=s.cnt+1,at_:=s.at_+1 } [] with ⟨ok,b,sb⟩
      rw[hx] at h
      cases ok with
      |false=>simp at h
      |true=>
       simp only at h
       by_cases hel:L.getD sb.at_ []=wElse
       ·rw[if_pos hel] at h
        by_cases hif:wd w 0=wIf
        ·rw[if_pos hif] at h
         rcases hy:blk L f (depth+1) { sb with at_:=sb.at_+1 } [] with ⟨Tb,o,so⟩
         rw[hy] at h
         cases Tb with
         |false=>simp at h
         |true=>
          simp only at h
          by_cases bu:L.getD so.at_ []=wElse
          ·rw[if_pos bu] at h;simp at h
          ·rw[if_neg bu] at h
           exact .two b o sb so hd hif hq.1 hx hel hy bu h
        ·rw[if_neg hif] at h;simp at h
       ·rw[if_neg hel] at h
        exact .one b sb hd hb hq.1 hx hel h
     ·rw[if_neg hq] at h;simp at h
    ·rw[if_neg hb] at h
     by_cases hf:fits s.ds w=true
     ·rw[if_pos hf] at h
      exact .plain hd he hb hf h
     ·rw[if_neg hf] at h;simp at h
theorem IL {L:List Wd} {f depth:Nat} {s:Rs} {out BV:List Rf.Tr} {s2:Rs} (h:blk L f depth s out=(true,BV,s2)) (hl:f=0∨ ¬s.at_+1<L.length):depth=0∧BV=out∧s2=s:=by
 cases f with
 |zero=>
  unfold blk at h
  simp only[Prod.mk.injEq,decide_eq_true_eq] at h
  exact ⟨h.1,h.2.1.symm,h.2.2.symm⟩
 |succ f=>
  unfold blk at h
  rw[if_neg (hl.resolve_left (by omega))] at h
  simp only[Prod.mk.injEq,decide_eq_true_eq] at h
  exact ⟨h.1,h.2.1.symm,h.2.2.symm⟩
theorem Z2 {L:List Wd} {f:Nat}: ∀ {depth:Nat} {s:Rs} {out BV:List Rf.Tr} {s2:Rs},blk L f depth s out=(true,BV,s2)→s.at_≤s2.at_:=by
 induction f with
 |zero=>intro depth s out BV s2 h;rw[(IL h (.inl rfl)).2.2];exact Nat.le_refl _
 |succ f ih=>
  intro depth s out BV s2 h
  by_cases hl:s.at_+1<L.length
  ·cases OS h hl with
   |decl ds h1 h2 h=>have:=ih h;simp at this;omega
   |stop h1 h2 h3 h4 h5=>rw[h5];exact Nat.le_refl _
   |one b sb h1 h2 h3 hb h4 h5=>
    have a:=ih hb
    have c:=ih h5
    simp at a c
    omega
   |two b o sb so h1 h2 h3 hb h4 h5 h6 h7=>
    have a:=ih hb
    have c:=ih h5
    have e:=ih h7
    simp at a c e
    omega
   |plain h1 h2 h3 h4 h=>have:=ih h;simp at this;omega
  ·rw[(IL h (.inr hl)).2.2];exact Nat.le_refl _
theorem Z3 {L:List Wd} {f depth:Nat} {s:Rs} {out BV:List Rf.Tr} {s2:Rs} (h:blk L f (depth+1) s out=(true,BV,s2)):s2.at_+1<L.length∧(L.getD s2.at_ []=wElse∨L.getD s2.at_ []=wEnd):=by
 induction f generalizing s out with
 |zero=>have:=(IL h (.inl rfl)).1;omega
 |succ f ih=>
  by_cases hl:s.at_+1<L.length
  ·cases OS h hl with
   |decl ds h1 h2 h=>exact ih h
   |stop h1 h2 h3 h4 h5=>
    subst h5
    exact ⟨hl,h2.imp (j5 h3.1) (j5 h3.1)⟩
   |one b sb h1 h2 h3 hb h4 h5=>exact ih h5
   |two b o sb so h1 h2 h3 hb h4 h5 h6 h7=>exact ih h7
   |plain h1 h2 h3 h4 h=>exact ih h
  ·have:=(IL h (.inr hl)).1;omega
open Lk (Wd wd RS isName lat cut)
open Rf (Rs blk isDecl declare wElse wEnd wIf wWhile wSecret wPublic wVar wArray wOut wLoad wStore)
variable {r r1:RS} {ws:List Wd} {ds ds1:List Rf.Dc}
theorem uC (h0:ws.length≠0) (h:wd ws 0=wSecret):Lk.take r ws=Lk.E6 r ws true:=by
 unfold Lk.take
 rw[if_neg h0,h,if_pos (by decide)]
theorem uD (h0:ws.length≠0) (h:wd ws 0=wPublic):Lk.take r ws=Lk.E6 r ws false:=by
 unfold Lk.take
 rw[if_neg h0,h,if_neg (by decide),if_pos (by decide)]
theorem acR (h0:ws.length≠0) (h:wd ws 0=wVar):Lk.take r ws=Lk.FW r ws:=by
 unfold Lk.take
 rw[if_neg h0,h,if_neg (by decide),if_neg (by decide),if_pos (by decide)]
theorem yE (h0:ws.length≠0) (h:wd ws 0=wArray):Lk.take r ws=Lk.FV r ws:=by
 unfold Lk.take
 rw[if_neg h0,h,if_neg (by decide),if_neg (by decide),if_neg (by decide),if_pos (by decide)]
theorem ab1 (h0:ws.length≠0) (h:wd ws 0=wLoad):Lk.take r ws=Lk.Hc r ws:=by
 unfold Lk.take
 rw[if_neg h0,h,if_neg (by decide),if_neg (by decide),if_neg (by decide),if_neg (by decide),if_pos (by decide)]
theorem yF (h0:ws.length≠0) (h:wd ws 0=wStore):Lk.take r ws=Lk.Hb r ws:=by
 unfold Lk.take
 rw[if_neg h0,h,if_neg (by decide),if_neg (by decide),if_neg (by decide),if_neg (by decide),if_neg (by decide),if_pos (by decide)]
theorem acS (h0:ws.length≠0) (h:wd ws 0=wOut):Lk.take r ws=Lk.Hh r ws:=by
 unfold Lk.take
 rw[if_neg h0,h,if_neg (by decide),if_neg (by decide),if_neg (by decide),if_neg (by decide),if_neg (by decide),if_neg (by decide),if_pos (by decide)]
theorem adt (h0:ws.length≠0) (h:wd ws 0=wIf):Lk.take r ws=Lk.FD r ws 4:=by
 unfold Lk.take
 rw[if_neg h0,h,if_neg (by decide),if_neg (by decide),if_neg (by decide),if_neg (by decide),if_neg (by decide),if_neg (by decide),if_neg (by decide),if_pos (by decide)]
theorem yG (h0:ws.length≠0) (h:wd ws 0=wWhile):Lk.take r ws=Lk.FD r ws 5:=by
 unfold Lk.take
 rw[if_neg h0,h,if_neg (by decide),if_neg (by decide),if_neg (by decide),if_neg (by decide),if_neg (by decide),if_neg (by decide),if_neg (by decide),if_neg (by decide),if_pos (by decide)]
theorem ab2 (h0:ws.length≠0) (h:wd ws 0=wElse):Lk.take r ws=Lk.Fx r ws:=by
 unfold Lk.take
 rw[if_neg h0,h,if_neg (by decide),if_neg (by decide),if_neg (by decide),if_neg (by decide),if_neg (by decide),if_neg (by decide),if_neg (by decide),if_neg (by decide),if_neg (by decide),if_pos (by decide)]
theorem kY (h0:ws.length≠0) (h:wd ws 0=wEnd):Lk.take r ws=Lk.takeEnd r ws:=by
 unfold Lk.take
 rw[if_neg h0,h,if_neg (by decide),if_neg (by decide),if_neg (by decide),if_neg (by decide),if_neg (by decide),if_neg (by decide),if_neg (by decide),if_neg (by decide),if_neg (by decide),if_neg (by decide),if_pos (by decide)]
theorem WN (l:Wd):(cut 32 l).length≠0:=fun h=>Lk.Ip 32 l (List.eq_nil_of_length_eq_zero h)
theorem KE {a b:Wd} (h: ¬a=b): ¬(a==b)=true:=by simpa using h
theorem oJ {w:Wd} (h:isDecl w=true):w=wSecret∨w=wPublic∨w=wVar∨w=wArray:=by
 unfold isDecl at h
 simpa[or_assoc] using h
theorem pK {w:Wd} (h:isDecl w=false): ¬w=wSecret∧ ¬w=wPublic∧ ¬w=wVar∧ ¬w=wArray:=by
 unfold isDecl at h
 simp at h
 exact ⟨h.1.1.1,h.1.1.2,h.1.2,h.2⟩
theorem uE (h0:ws.length≠0) (e:Lk.take r ws=some r1) (hd:isDecl (wd ws 0)=false) (h1: ¬(wd ws 0=wElse∨wd ws 0=wEnd)) (h2: ¬(wd ws 0=wIf∨wd ws 0=wWhile)): ∃ s,MD r r1 s∧s.kind<4∧Gg (Lk.find r) s ws:=by
 obtain ⟨d1,d2,d3,d4⟩:=pK hd
 by_cases a1:wd ws 0=wOut
 ·rw[acS h0 a1] at e
  obtain ⟨s,x,y,z⟩:=ab0 e a1
  exact ⟨s,x,by omega,z⟩
 by_cases a2:wd ws 0=wLoad
 ·rw[ab1 h0 a2] at e
  obtain ⟨s,x,y,z⟩:=yB e a2
  exact ⟨s,x,by omega,z⟩
 by_cases a3:wd ws 0=wStore
 ·rw[yF h0 a3] at e
  obtain ⟨s,x,y,z⟩:=uB e a3
  exact ⟨s,x,by omega,z⟩
 have e2:Lk.take r ws=Lk.GN r ws:=by
  unfold Lk.take
  rw[if_neg h0,if_neg (show ¬(wd ws 0==[115,101,99,114,101,116])=true from KE d1),if_neg (show ¬(wd ws 0==[112,117,98,108,105,99])=true from KE d2),if_neg (show ¬(wd ws 0==[118,97,114])=true from KE d3),if_neg (show ¬(wd ws 0==[97,114,114,97,121])=true from KE d4),if_neg (show ¬(wd ws 0==[108,111,97,100])=true from KE a2),if_neg (show ¬(wd ws 0==[115,116,111,114,101])=true from KE a3),if_neg (show ¬(wd ws 0==[111,117,116])=true from KE a1),if_neg (show ¬(wd ws 0==[105,102])=true from KE (fun k=>h2 (.inl k))),if_neg (show ¬(wd ws 0==[119,104,105,108,101])=true from KE (fun k=>h2 (.inr k))),if_neg (show ¬(wd ws 0==[101,108,115,101])=true from KE (fun k=>h1 (.inl k))),if_neg (show ¬(wd ws 0==[101,110,100])=true from KE (fun k=>h1 (.inr k)))]
 rw[e2] at e
 obtain ⟨s,x,y,z⟩:=ql e a1 a2 a3
 exact ⟨s,x,by omega,z⟩
open Lk (Wd wd RS isName lat cut)
open Rf (Rs blk isDecl declare wElse wEnd wIf wWhile wSecret wPublic wVar wArray wOut wLoad wStore)
variable {r r1:RS} {ws:List Wd} {ds ds1:List Rf.Dc}
structure Kept (r r1:RS):Prop where
 b:r1.body=r.body
 d:r1.depth=r.depth
 o:r1.opn=r.opn
theorem YV {w:Wd} {a b:Nat} (e:Lk.declare r w a b=some r1):Kept r r1:=by
 obtain ⟨_,_,rfl⟩:=Vq e
 exact ⟨rfl,rfl,rfl⟩
theorem fJ {b:Bool} (e:Lk.E6 r ws b=some r1):Kept r r1:=by
 unfold Lk.E6 at e
 split at e
 ·split at e
  ·rename_i q hq
   cases e
   have:=YV hq
   exact ⟨this.b,this.d,this.o⟩
  ·cases e
 ·cases e
theorem yH (e:Lk.FW r ws=some r1):Kept r r1:=by
 unfold Lk.FW at e
 split at e
 ·split at e
  ·rename_i q hq
   cases e
   have:=YV hq
   exact ⟨this.b,this.d,this.o⟩
  ·cases e
 ·cases e
theorem qo (e:Lk.FV r ws=some r1):Kept r r1:=by
 unfold Lk.FV at e
 split at e
 ·split at e
  ·split at e
   ·split at e
    ·rename_i q hq
     cases e
     have:=YV hq
     exact ⟨this.b,this.d,this.o⟩
    ·cases e
   ·cases e
  ·cases e
 ·cases e
theorem pL {AA:Bool} (h:declare ds AA ws=some ds1):AA=false∧(wd ws 0=wArray→ ∃ n,Lk.num? (wd ws 2)=some n∧ds1=ds++[⟨wd ws 1,wd ws 0,n⟩])∧(¬wd ws 0=wArray→ds1=ds++[⟨wd ws 1,wd ws 0,0⟩]):=by
 unfold declare at h
 by_cases ha:wd ws 0=wArray
 ·simp only[if_pos ha] at h
  split at h
  ·rename_i hc
   split at h
   ·rename_i n hn
    split at h
    ·cases h;exact ⟨hc.1,fun _=>⟨n,hn,rfl⟩,fun k=>absurd ha k⟩
    ·cases h
   ·cases h
  ·cases h
 ·simp only[if_neg ha] at h
  split at h
  ·rename_i hc
   split at h
   ·split at h
    ·cases h;exact ⟨hc.1,fun k=>absurd k ha,fun _=>rfl⟩
    ·cases h
   ·split at h
    ·cases h;exact ⟨hc.1,fun k=>absurd k ha,fun _=>rfl⟩
    ·cases h
  ·cases h
theorem ab5 {AA:Bool} (h0:ws.length≠0) (h:NR r ds) (e:Lk.take r ws=some r1) (hd:isDecl (wd ws 0)=true) (hx:declare ds AA ws=some ds1):NR r1 ds1∧Kept r r1∧AA=false:=by
 obtain ⟨hb,ha,hn⟩:=pL hx
 rcases oJ hd with k|k|k|k
 ·rw[uC h0 k] at e
  have:=j4 h e
  rw[hn (by rw[k];decide),k]
  exact ⟨this,fJ e,hb⟩
 ·rw[uD h0 k] at e
  have:=j4 h e
  rw[hn (by rw[k];decide),k]
  exact ⟨this,fJ e,hb⟩
 ·rw[acR h0 k] at e
  have:=acP h e
  rw[hn (by rw[k];decide),k]
  exact ⟨this,yH e,hb⟩
 ·rw[yE h0 k] at e
  obtain ⟨n,h1,h2⟩:=yA h e
  obtain ⟨n',h3,h4⟩:=ha k
  rw[h1] at h3
  cases h3
  rw[h4,k]
  exact ⟨h2,qo e,hb⟩
open Lk (Wd wd RS isName lat cut bodyAt)
open Rf (Rs blk isDecl declare wElse wEnd wIf wWhile)
structure Laid (L:List Wd) (depth:Nat) (s s2:Rs) (r rf:RS) (ts:List Rf.Tr) (r2:RS):Prop where
 go:goN L s2.at_ (L.length - 1 - s2.at_) r2=some rf
 nr:NR r2 s2.ds
 dep:r2.depth=depth
 opn: ∀ d,d<depth→r2.opn d=r.opn d
 len:r.body.length≤r2.body.length
 old: ∀ x,x<r.body.length→bodyAt r2.body x=bodyAt r.body x
 lay:Lay (Gg (fd s2.ds 0 0)) r2.body r.body.length ts r2.body.length
 AA:s.AA=true→s2.ds=s.ds∧s2.AA=true
 Xl:s2.AA=false→r2.body=[]
theorem at_app (B:List Lk.St) (x:Lk.St) (i:Nat) (h:i<B.length):bodyAt (B++[x]) i=bodyAt B i:=by
 unfold Lk.bodyAt
 rw[List.getD_eq_getElem?_getD,List.getD_eq_getElem?_getD,List.getElem?_append_left h]
theorem at_new (B:List Lk.St) (x:Lk.St):bodyAt (B++[x]) B.length=x:=by
 unfold Lk.bodyAt
 rw[List.getD_eq_getElem?_getD,List.getElem?_append_right (Nat.le_refl _)]
 simp
theorem at_set (B:List Lk.St) (j:Nat) (x:Lk.St) (hj:j<B.length) (i:Nat):bodyAt (B.set j x) i=if i=j then x else bodyAt B i:=by
 unfold Lk.bodyAt
 rw[List.getD_eq_getElem?_getD,List.getD_eq_getElem?_getD,List.getElem?_set]
 by_cases e:i=j
 ·subst e;rw[if_pos rfl,if_pos hj,if_pos rfl];rfl
 ·rw[if_neg (fun k=>e k.symm),if_neg e]
theorem Zt {r:RS} {ds:List Rf.Dc} (h:NR r ds) {s:Lk.St} {w:List Wd} (c:Gg (Lk.find r) s w):Gg (fd ds 0 0) s w:=by
 rw[show Lk.find r=fd ds 0 0 from funext h.Af] at c
 exact c
theorem jt {r r1:RS} {ws:List Wd} {d p e:Nat} (h:Lk.takeEnd r ws=some r1) (hd:r.depth=d+1) (ho:r.opn d=(p,e)):
  r1={ r with depth:=d,body:=(if e=0 then r.body.set p { bodyAt r.body p with els:=r.body.length+1 } else r.body.set e { bodyAt r.body e with next:=r.body.length+1 })++[{ kind:=6,next:=if (bodyAt r.body p).kind=5 then p else r.body.length+1 }] }:=by
 unfold Lk.takeEnd at h
 split at h
 ·simp only[hd,Nat.add_sub_cancel,ho] at h
  cases h
  rfl
 ·cases h
theorem yI {r r1:RS} {ws:List Wd} {d p e:Nat} (h:Lk.Fx r ws=some r1) (hd:r.depth=d+1) (ho:r.opn d=(p,e)):
  r1={ r with depth:=d+1,opn:=Lk.upd r.opn d (p,r.body.length),body:=r.body.set p { bodyAt r.body p with els:=r.body.length+1 }++[{ kind:=6 }] }:=by
 unfold Lk.Fx at h
 split at h
 ·simp only[hd,Nat.add_sub_cancel,ho] at h
  cases h
  rfl
 ·cases h
theorem go_at {L:List Wd} {a:Nat} {r rf:RS} (h:goN L a (L.length - 1 - a) r=some rf) (hl:a+1<L.length): ∃ r1,Lk.take r (cut 32 (L.getD a []))=some r1∧goN L (a+1) (L.length - 1 - (a+1)) r1=some rf:=by
 rw[show L.length - 1 - a=(L.length - 1 - (a+1))+1 by omega] at h
 exact go_step h
theorem QU {x:Wd} (h:x=wElse∨x=wEnd):wd (cut 32 x) 0=x:=by
 rcases h with h|h <;> subst h <;> rfl
theorem j6 {r r1:RS} {w:List Wd} (h0:w.length≠0) (e:Lk.take r w=some r1) (h:wd w 0=wIf∨wd w 0=wWhile): ∃ sh:Lk.St,((sh.kind=4∧wd w 0=wIf)∨(sh.kind=5∧wd w 0=wWhile))∧Gg (Lk.find r) sh w∧r1={ r with stmts:=r.stmts+1,body:=r.body++[{ sh with next:=r.body.length+1 }],opn:=Lk.upd r.opn r.depth (r.body.length,0),depth:=r.depth+1 }:=by
 rcases h with h|h
 ·rw[adt h0 h] at e
  obtain ⟨s,q,⟨_,rfl⟩,e2,k,c⟩:=fI (.inl rfl) e
  exact ⟨s,.inl ⟨k,h⟩,c,e2⟩
 ·rw[yG h0 h] at e
  obtain ⟨s,q,⟨_,rfl⟩,e2,k,c⟩:=fI (.inr rfl) e
  exact ⟨s,.inr ⟨k,h⟩,c,e2⟩
theorem ab6 (L:List Wd): ∀ (f depth:Nat) (s:Rs) (out BV:List Rf.Tr) (s2:Rs) (r rf:RS),blk L f depth s out=(true,BV,s2)→NR r s.ds→r.depth=depth→(s.AA=false→r.body=[])→goN L s.at_ (L.length - 1 - s.at_) r=some rf→ ∃ ts r2,BV=out++ts∧Laid L depth s s2 r rf ts r2:=by
 intro f
 induction f with
 |zero=>
  intro depth s out BV s2 r rf h nr hd hb hg
  obtain ⟨_,e1,e2⟩:=IL h (.inl rfl)
  subst e1 e2
  exact ⟨[],r,by simp,hg,nr,hd,fun _ _=>rfl,Nat.le_refl _,fun _ _=>rfl,.nil _,fun k=>⟨rfl,k⟩,hb⟩
 |succ f ih=>
  intro depth s out BV s2 r rf h nr hd hb hg
  by_cases hl:s.at_+1<L.length
  ·obtain ⟨r1,ht,hg1⟩:=go_at hg hl
   have h0:=WN (L.getD s.at_ [])
   have W:=OS h hl
   generalize cut 32 (L.getD s.at_ [])=w at W ht h0
   cases W with
   |decl ds h1 h2 h=>
    obtain ⟨n1,k1,b1⟩:=ab5 h0 nr ht h1 h2
    obtain ⟨ts,r2,e,A⟩:=ih depth _ out BV s2 r1 rf h n1 (by rw[k1.d];exact hd) (fun _=>by rw[k1.b];exact hb b1) hg1
    exact ⟨ts,r2,e,A.go,A.nr,A.dep,fun d hd=>by rw[A.opn d hd,k1.o],by rw[←k1.b];exact A.len,fun x hx=>by rw[A.old x (by rw[k1.b];exact hx),k1.b],by rw[←k1.b];exact A.lay,fun k=>(by rw[b1] at k;cases k),A.Xl⟩
   |stop h1 h2 h3 h4 h5=>
    subst h4 h5
    exact ⟨[],r,by simp,hg,nr,hd,fun _ _=>rfl,Nat.le_refl _,fun _ _=>rfl,.nil _,fun k=>⟨rfl,rfl⟩,fun k=>(by cases k)⟩
   |plain h1 h2 h3 h4 h=>
    obtain ⟨st,ad,hk,c⟩:=uE h0 ht h1 h2 h3
    have n1:=nr.same ad.same
    obtain ⟨_,rfl⟩:=ad
    obtain ⟨ts,r2,e,A⟩:=ih depth _ _ BV s2 _ rf h n1 hd (fun k=>(by cases k)) hg1
    have hds:=(A.AA rfl).1
    have hlen:=A.len
    have hold:=A.old r.body.length (by simp)
    rw[at_new] at hold
    simp only[List.length_append,List.length_singleton] at hlen
    have Qr:=A.lay
    simp only[List.length_append,List.length_singleton] at Qr
    refine ⟨.node w [] []::ts,r2,by rw[e];simp,A.go,A.nr,A.dep,A.opn,by omega,fun x hx=>by rw[A.old x (by simp;omega),at_app _ _ _ hx],?_,fun k=>⟨hds,(A.AA rfl).2⟩,A.Xl⟩
    refine .plain ?_ (by rw[hold];exact hk) (by omega) (by rw[hold]) h3 Qr
    rw[hold,hds]
    have c':=Zt nr c
    exact ⟨c'.out,c'.br,c'.load,c'.store,c'.Rc⟩
   |one b sb h1 h2 h3 hb1 h4 h5=>
    obtain ⟨sh,Jb,c,rfl⟩:=j6 h0 ht h2
    have n1:NR { r with stmts:=r.stmts+1,body:=r.body++[{ sh with next:=r.body.length+1 }],opn:=Lk.upd r.opn r.depth (r.body.length,0),depth:=r.depth+1 } s.ds:=nr.same ⟨rfl,rfl,rfl,rfl⟩
    obtain ⟨tb,rb,eb,A1⟩:=ih (depth+1) _ [] b sb _ rf hb1 n1 (by show r.depth+1=_;rw[hd]) (fun k=>(by cases k)) hg1
    rw[List.nil_append] at eb
    subst eb
    obtain ⟨sl,sw⟩:=Z3 hb1
    have hend:=sw.resolve_left h4
    obtain ⟨re,hte,hge⟩:=go_at A1.go sl
    rw[hend,kY (WN _) (QU (.inr rfl))] at hte
    have ho:rb.opn depth=(r.body.length,0):=by
     rw[A1.opn depth (by omega)]
     show Lk.upd r.opn r.depth (r.body.length,0) depth=_
     unfold Lk.upd
     rw[if_pos hd.symm]
    have hre:=jt hte A1.dep ho
    rw[if_pos rfl] at hre
    have CN:=A1.len
    simp only[List.length_append,List.length_singleton] at CN
    have EO:bodyAt rb.body r.body.length={ sh with next:=r.body.length+1 }:=by
     rw[A1.old _ (by simp)]
     exact at_new _ _
    obtain ⟨d1,d2⟩:=A1.AA rfl
    have nrE:NR re sb.ds:=A1.nr.same ⟨by rw[hre],by rw[hre],by rw[hre],by rw[hre]⟩
    have hDe:re.depth=depth:=by rw[hre]
    have hOe:re.opn=rb.opn:=by rw[hre]
    have JG:re.body=rb.body.set r.body.length { bodyAt rb.body r.body.length with els:=rb.body.length+1 }++[{ kind:=6,next:=if (bodyAt rb.body r.body.length).kind=5 then r.body.length else rb.body.length+1 }]:=by rw[hre]
    clear hre
    obtain ⟨ts,r2,e,A2⟩:=ih depth _ _ BV s2 re rf h5 nrE hDe (fun k=>(by have k':sb.AA=false:=k;rw[d2] at k';cases k')) hge
    obtain ⟨d3,d4⟩:=A2.AA d2
    have OE:s2.ds=sb.ds:=d3
    have hl2:=A2.len
    rw[JG] at hl2
    simp only[List.length_append,List.length_singleton,List.length_set] at hl2
    have hx: ∀ x,x<rb.body.length→bodyAt r2.body x=if x=r.body.length then { bodyAt rb.body r.body.length with els:=rb.body.length+1 } else bodyAt rb.body x:=by
     intro x hx
     rw[A2.old x (by rw[JG];simp;omega),JG,at_app _ _ _ (by simpa using hx),at_set _ _ _ (by omega)]
    have hmk:bodyAt r2.body rb.body.length={ kind:=6,next:=if (bodyAt rb.body r.body.length).kind=5 then r.body.length else rb.body.length+1 }:=by
     rw[A2.old _ (by rw[JG];simp),JG]
     have:=at_new (rb.body.set r.body.length { bodyAt rb.body r.body.length with els:=rb.body.length+1 }) { kind:=6,next:=if (bodyAt rb.body r.body.length).kind=5 then r.body.length else rb.body.length+1 }
     rw[List.length_set] at this
     exact this
    have hp:=hx r.body.length (by omega)
    rw[if_pos rfl,EO] at hp
    rw[EO] at hmk
    have lb:=A1.lay
    simp only[List.length_append,List.length_singleton] at lb
    rw[←OE] at lb
    have Re:=lb.congr (B':=r2.body) (by omega) (fun x a c=>by rw[hx x c,if_neg (by omega)])
    have lt:=A2.lay
    rw[JG] at lt
    simp only[List.length_append,List.length_singleton,List.length_set] at lt
    have cc:=Zt nr c
    have Xm:Gg (fd s2.ds 0 0) (bodyAt r2.body r.body.length) w:=by
     rw[hp,OE,d1]
     exact ⟨cc.out,cc.br,cc.load,cc.store,cc.Rc⟩
    refine ⟨.node w b []::ts,r2,by rw[e];simp,A2.go,A2.nr,A2.dep,?_,by omega,?_,?_,fun _=>⟨OE.trans d1,d4⟩,A2.Xl⟩
    ·intro d Gw
     rw[A2.opn d Gw,hOe,A1.opn d (by omega)]
     show Lk.upd r.opn r.depth _ d=_
     unfold Lk.upd
     rw[if_neg (by omega)]
    ·intro x hxl
     rw[hx x (by omega),if_neg (by omega),A1.old x (by simp;omega)]
     exact at_app _ _ _ hxl
    ·rcases Jb with ⟨k,kw⟩|⟨k,kw⟩
     ·exact .LF Xm (by rw[hp];exact k) (by omega) kw (by rw[hp]) Re (by omega) (by rw[hmk]) (by rw[hmk];show (if sh.kind=5 then _ else _)=_;rw[if_neg (by omega)]) (by rw[hp]) lt
     ·exact .loop Xm (by rw[hp];exact k) (by omega) kw (by rw[hp]) Re (by omega) (by rw[hmk]) (by rw[hmk];show (if sh.kind=5 then _ else _)=_;rw[if_pos k]) (by rw[hp]) lt
   |two b o sb so h1 h2 h3 hb1 h4 h5 h6 h7=>
    obtain ⟨sh,Jb,c,rfl⟩:=j6 h0 ht (.inl h2)
    have hk4:sh.kind=4:=by
     rcases Jb with ⟨k,_⟩|⟨_,k⟩
     ·exact k
     ·exact absurd (h2.symm.trans k) WL
    have n1:NR { r with stmts:=r.stmts+1,body:=r.body++[{ sh with next:=r.body.length+1 }],opn:=Lk.upd r.opn r.depth (r.body.length,0),depth:=r.depth+1 } s.ds:=nr.same ⟨rfl,rfl,rfl,rfl⟩
    obtain ⟨tb,rb,eb,A1⟩:=ih (depth+1) _ [] b sb _ rf hb1 n1 (by show r.depth+1=_;rw[hd]) (fun k=>(by cases k)) hg1
    rw[List.nil_append] at eb
    subst eb
    obtain ⟨sl,_⟩:=Z3 hb1
    obtain ⟨rl,Cz,hgl⟩:=go_at A1.go sl
    rw[h4,ab2 (WN _) (QU (.inl rfl))] at Cz
    have ho:rb.opn depth=(r.body.length,0):=by
     rw[A1.opn depth (by omega)]
     show Lk.upd r.opn r.depth (r.body.length,0) depth=_
     unfold Lk.upd
     rw[if_pos hd.symm]
    have hrl:=yI Cz A1.dep ho
    have CN:=A1.len
    simp only[List.length_append,List.length_singleton] at CN
    have EO:bodyAt rb.body r.body.length={ sh with next:=r.body.length+1 }:=by
     rw[A1.old _ (by simp)]
     exact at_new _ _
    obtain ⟨d1,d2⟩:=A1.AA rfl
    have nrL:NR rl sb.ds:=A1.nr.same ⟨by rw[hrl],by rw[hrl],by rw[hrl],by rw[hrl]⟩
    have hDl:rl.depth=depth+1:=by rw[hrl]
    have hOl:rl.opn=Lk.upd rb.opn depth (r.body.length,rb.body.length):=by rw[hrl]
    have hBl:rl.body=rb.body.set r.body.length { bodyAt rb.body r.body.length with els:=rb.body.length+1 }++[{ kind:=6 }]:=by rw[hrl]
    clear hrl
    obtain ⟨tq,ro,eo,A3⟩:=ih (depth+1) _ [] o so rl rf h5 nrL hDl (fun k=>(by have k':sb.AA=false:=k;rw[d2] at k';cases k')) hgl
    rw[List.nil_append] at eo
    subst eo
    obtain ⟨d5,d6⟩:=A3.AA d2
    have d5':so.ds=sb.ds:=d5
    obtain ⟨sl2,sw2⟩:=Z3 h5
    have hend:=sw2.resolve_left h6
    obtain ⟨re,hte,hge⟩:=go_at A3.go sl2
    rw[hend,kY (WN _) (QU (.inr rfl))] at hte
    have Ex:ro.opn depth=(r.body.length,rb.body.length):=by
     rw[A3.opn depth (by omega),hOl]
     unfold Lk.upd
     rw[if_pos rfl]
    have hre:=jt hte A3.dep Ex
    rw[if_neg (by omega)] at hre
    have Kb:=A3.len
    rw[hBl] at Kb
    simp only[List.length_append,List.length_singleton,List.length_set] at Kb
    have hol: ∀ x,x<rb.body.length→bodyAt ro.body x=if x=r.body.length then { bodyAt rb.body r.body.length with els:=rb.body.length+1 } else bodyAt rb.body x:=by
     intro x hx
     rw[A3.old x (by rw[hBl];simp;omega),hBl,at_app _ _ _ (by simpa using hx),at_set _ _ _ (by omega)]
    have hom:bodyAt ro.body rb.body.length={ kind:=6 }:=by
     rw[A3.old _ (by rw[hBl];simp),hBl]
     have:=at_new (rb.body.set r.body.length { bodyAt rb.body r.body.length with els:=rb.body.length+1 }) { kind:=6 }
     rw[List.length_set] at this
     exact this
    have hop:=hol r.body.length (by omega)
    rw[if_pos rfl,EO] at hop
    have nrE:NR re so.ds:=A3.nr.same ⟨by rw[hre],by rw[hre],by rw[hre],by rw[hre]⟩
    have hDe:re.depth=depth:=by rw[hre]
    have hOe:re.opn=ro.opn:=by rw[hre]
    have JG:re.body=ro.body.set rb.body.length { bodyAt ro.body rb.body.length with next:=ro.body.length+1 }++[{ kind:=6,next:=ro.body.length+1 }]:=by
     rw[hre]
     show _++[({ kind:=6,next:=if (bodyAt ro.body r.body.length).kind=5 then r.body.length else ro.body.length+1 }:Lk.St)]=_
     rw[hop,if_neg (by show ¬sh.kind=5;omega)]
    clear hre
    obtain ⟨ts,r2,e,A2⟩:=ih depth _ _ BV s2 re rf h7 nrE hDe (fun k=>(by have k':so.AA=false:=k;rw[d6] at k';cases k')) hge
    obtain ⟨d3,d4⟩:=A2.AA d6
    have OE:s2.ds=so.ds:=d3
    have hl2:=A2.len
    rw[JG] at hl2
    simp only[List.length_append,List.length_singleton,List.length_set] at hl2
    have hx: ∀ x,x<ro.body.length→bodyAt r2.body x=if x=rb.body.length then { bodyAt ro.body rb.body.length with next:=ro.body.length+1 } else bodyAt ro.body x:=by
     intro x hx
     rw[A2.old x (by rw[JG];simp;omega),JG,at_app _ _ _ (by simpa using hx),at_set _ _ _ (by omega)]
    have hmk:bodyAt r2.body ro.body.length={ kind:=6,next:=ro.body.length+1 }:=by
     rw[A2.old _ (by rw[JG];simp),JG]
     have:=at_new (ro.body.set rb.body.length { bodyAt ro.body rb.body.length with next:=ro.body.length+1 }) { kind:=6,next:=ro.body.length+1 }
     rw[List.length_set] at this
     exact this
    have hp:=hx r.body.length (by omega)
    rw[if_neg (by omega),hop] at hp
    have FJ:=hx rb.body.length (by omega)
    rw[if_pos rfl,hom] at FJ
    have lb:=A1.lay
    simp only[List.length_append,List.length_singleton] at lb
    rw[←d5', ←OE] at lb
    have Re:=lb.congr (B':=r2.body) (by omega) (fun x a c=>by rw[hx x (by omega),if_neg (by omega),hol x c,if_neg (by omega)])
    have lo:=A3.lay
    rw[hBl] at lo
    simp only[List.length_append,List.length_singleton,List.length_set] at lo
    rw[←OE] at lo
    have Uo:=lo.congr (B':=r2.body) (by omega) (fun x a c=>by rw[hx x c,if_neg (by omega)])
    have lt:=A2.lay
    rw[JG] at lt
    simp only[List.length_append,List.length_singleton,List.length_set] at lt
    have cc:=Zt nr c
    have Xm:Gg (fd s2.ds 0 0) (bodyAt r2.body r.body.length) w:=by
     rw[hp,OE,d5',d1]
     exact ⟨cc.out,cc.br,cc.load,cc.store,cc.Rc⟩
    refine ⟨.node w b o::ts,r2,by rw[e];simp,A2.go,A2.nr,A2.dep,?_,by omega,?_,?_,fun _=>⟨(OE.trans d5').trans d1,d4⟩,A2.Xl⟩
    ·intro d Gw
     rw[A2.opn d Gw,hOe,A3.opn d (by omega),hOl]
     unfold Lk.upd
     rw[if_neg (by omega),A1.opn d (by omega)]
     show Lk.upd r.opn r.depth _ d=_
     unfold Lk.upd
     rw[if_neg (by omega)]
    ·intro x hxl
     rw[hx x (by omega),if_neg (by omega),hol x (by omega),if_neg (by omega),A1.old x (by simp;omega)]
     exact at_app _ _ _ hxl
    ·exact .LG Xm (by rw[hp];exact hk4) (by omega) h2 (by rw[hp]) Re (by omega) (by rw[FJ]) (by rw[hp]) Uo (by omega) (by rw[hmk]) (by rw[FJ]) (by rw[hmk]) lt
  ·obtain ⟨_,e1,e2⟩:=IL h (.inr hl)
   subst e1 e2
   exact ⟨[],r,by simp,hg,nr,hd,fun _ _=>rfl,Nat.le_refl _,fun _ _=>rfl,.nil _,fun k=>⟨rfl,k⟩,hb⟩
open Lk (Wd wd RS isName lat cut bodyAt)
open Rf (Rs blk isDecl declare wElse wEnd wIf wWhile wSecret wPublic wVar wArray)
theorem uF {L:List Wd} {f:Nat}: ∀ {s:Rs} {out BV:List Rf.Tr} {s2:Rs},blk L f 0 s out=(true,BV,s2)→L.length≤s.at_+1+f→ ¬s2.at_+1<L.length:=by
 induction f with
 |zero=>intro s out BV s2 h hf;rw[(IL h (.inl rfl)).2.2];omega
 |succ f ih=>
  intro s out BV s2 h hf
  by_cases hl:s.at_+1<L.length
  ·cases OS h hl with
   |decl ds h1 h2 h=>exact ih h (by show _≤s.at_+1+1+f;omega)
   |stop h1 h2 h3 h4 h5=>omega
   |one b sb h1 h2 h3 hb h4 h5=>
    have a:=Z2 hb
    simp at a
    exact ih h5 (by show _≤sb.at_+1+1+f;omega)
   |two b o sb so h1 h2 h3 hb h4 h5 h6 h7=>
    have a:=Z2 hb
    have c:=Z2 h5
    simp at a c
    exact ih h7 (by show _≤so.at_+1+1+f;omega)
   |plain h1 h2 h3 h4 h=>exact ih h (by show _≤s.at_+1+1+f;omega)
  ·rw[(IL h (.inr hl)).2.2];exact hl
theorem Z4 {t:Wd} {ds:List Rf.Dc} {b:List Rf.Tr} (h:Rf.read t=(some (ds,b),0)): ∃ s,blk (cut 10 t) (cut 10 t).length 0 {} []=(true,b,s)∧s.ds=ds:=by
 unfold Rf.read at h
 simp only at h
 rcases hx:blk (cut 10 t) (cut 10 t).length 0 {} [] with ⟨ok,b',s⟩
 rw[hx] at h
 cases ok with
 |false=>simp at h
 |true=>
  simp only at h
  split at h
  ·simp only[Prod.mk.injEq,Option.some.injEq] at h
   exact ⟨s,by rw[h.1.2],h.1.1⟩
  ·simp at h
theorem gI {t:Wd} {ds:List Rf.Dc} {b:List Rf.Tr} (h:(Lk.read t).2=0) (hr:Rf.read t=(some (ds,b),0)):Lay (Gg (fd ds 0 0)) (Lk.read t).1.body 0 b (Lk.read t).1.body.length∧NR (Lk.read t).1 ds:=by
 obtain ⟨s,hb,rfl⟩:=Z4 hr
 unfold Lk.read at h ⊢
 by_cases hl:600<t.length
 ·rw[if_pos hl] at h;cases h
 ·rw[if_neg hl] at h ⊢
  have hne:=Lk.Ip 10 t
  generalize cut 10 t=L at*
  have hL:0<L.length:=List.length_pos_iff.2 hne
  obtain ⟨g1,g2⟩:=yD L (L.length - 1) 0 0 {} (by omega) h
  obtain ⟨ts,r2,e,A⟩:=ab6 L L.length 0 {} [] b s {} _ hb acN rfl (fun _=>rfl) g1
  rw[List.nil_append] at e
  subst e
  have hw:=uF hb (by show _≤0+1+L.length;omega)
  have hg:=A.go
  rw[show L.length - 1 - s.at_=0 by omega] at hg
  have hr2:r2=(Lk.lines {} 0 L).1:=by
   have:some r2=some (Lk.lines {} 0 L).1:=hg
   exact Option.some.inj this
  subst hr2
  exact ⟨A.lay,A.nr⟩
end Go.Proofs.YtgddmpmcnjlcjaaGreatDoor.Tm
namespace Go.Proofs.YtgddmpmcnjlcjaaGreatDoor
open Go.RowKit
set_option linter.unusedVariables false
theorem qp {w:World} {base P:Nat} {l:List DB} {vn vk vz vb:Value} (rep:Ae w base P l vn vk vz vb) (hl:l.length≤1000) (S:List Bool) (hS:G6 (A7 l)=S) (h3:S.length≤3):
  Calls Tryz.prog 27 #[.pointer (some ⟨P,0,none⟩)] w fun e w'=>e=.returned (.int .i64 (Cl.AK S:Nat))∧Below w.heap.size w w':=by
 have FC:=hid (Y6 rep hl)
 rw[hS] at FC
 clear rep hS
 go_enter Tryz.func27,Tryz.ntmps27
 go_wp2_with (first|(go_at_call 22;refine FC.out.mono ?_;rintro e w1 ⟨a,c,rfl,ho,hb⟩;have HO:=hid ho;have HB:=hid hb;have z1:=hb.size;clear ho hb))
 go_loopg [4,5] S.length (fun gk nv iv wr=> ∃ i n:Nat,i≤S.length∧S.length≤i+gk∧iv=.int .i64 i∧nv=.int .i64 n∧n+4*S.length=4*i+(Cl.Ar S i).1∧wr=w1)
 case atStart=>exact ⟨0,0,Nat.zero_le _,by omega,rfl,rfl,by show 0+4*S.length=4*0+4*S.length;omega,rfl⟩
 case round=>
  obtain ⟨i,n,hi,Ba,rfl,rfl,hn,rfl⟩:=hrel
  have hle:=Cl.QT S i
  by_cases hlt:i<S.length
  ·have hst:=Cl.Mw S i
   obtain ⟨ga,dn,BU,_,_⟩:=HO.out.form (by omega)
   have e1:=(slice_inj BU).1
   subst e1
   have x1:wr.cell? ⟨ga,i,none⟩=some (.bool (S.getD i false)):=by
    rw[HO.out.cellAt i (by omega),List.getElem?_map,List.getElem?_eq_getElem hlt,List.getD_eq_getElem?_getD,List.getElem?_eq_getElem hlt];rfl
   have J7:n≤100:=by omega
   cases hb:S.getD i false with
   |true=>
    rw[hb] at x1 hst
    rw[if_pos rfl] at hst
    go_wp2_with fail
    go_roundg (gk - 1)
    case measure=>omega
    case rel=>exact ⟨i+1,n+8,by omega,by omega,by go_num,by go_num,by omega,rfl⟩
   |false=>
    rw[hb] at x1 hst
    rw[if_neg (by decide)] at hst
    go_wp2_with fail
    go_roundg (gk - 1)
    case measure=>omega
    case rel=>exact ⟨i+1,n+4,by omega,by omega,by go_num,by go_num,by omega,rfl⟩
  ·have hie:i=S.length:=by omega
   subst hie
   have HV:=hid (show n=Cl.AK S by unfold Cl.AK;omega)
   go_wp2_with fail
   go_ret
   exact ⟨by rw[HV.out];rfl,HB.out⟩
theorem uG (v:Nat) (h:v≤1000000) (w:World):Calls Tryz.prog 10 #[.int .i64 v] w fun e w'=>e=.returned (.bool true)∧w'=w:=by
 have h1:(v:Int)≤99999999:=by omega
 have h2:(0:Int)≤(v:Int):=by omega
 go_enter Tryz.func10,Tryz.ntmps10
 go_wp2
 go_ret
 exact ⟨rfl,rfl⟩
def Bl (v n:Nat):Nat→List Int
 |0=>[]
 |t+1=>Bl v n t++[if (v/2 ^ t)%2=1 then ((n+1+t:Nat):Int) else -((n+1+t:Nat):Int)]
theorem Kv (v n:Nat): ∀ t,(Bl v n t).length=t
 |0=>rfl
 |t+1=>by show (Bl v n t++[_]).length=_;rw[List.length_append,Kv v n t];rfl
def EL (a:List Nat):Nat→List Int
 |0=>[]
 |i+1=>EL a i++Bl (a.getD i 0) (4*i) 4
def F_ (sec:List Bool) (b:List Nat):Nat→List Int
 |0=>[]
 |i+1=>if sec.getD i false then F_ sec b i++Bl (b.getD i 0) (Cl.Ar sec i).1 4 else F_ sec b i
def FX (sec:List Bool) (a b:List Nat):List Int:=EL a sec.length++F_ sec b sec.length
theorem Mx (a:List Nat): ∀ i,(EL a i).length=4*i
 |0=>rfl
 |i+1=>by show (EL a i++_).length=_;rw[List.length_append,Mx a i,Kv];omega
theorem YW (sec:List Bool) (b:List Nat): ∀ i,(F_ sec b i).length+4*sec.length=(Cl.Ar sec i).1
 |0=>by show 0+4*sec.length=4*sec.length;omega
 |i+1=>by
  have ih:=YW sec b i
  rw[Cl.Mw]
  show (if sec.getD i false=true then _ else _:List Int).length+_=_
  by_cases h:sec.getD i false=true
  ·rw[if_pos h,if_pos h,List.length_append,Kv];omega
  ·rw[if_neg h,if_neg h];exact ih
theorem YG (sec:List Bool) (a b:List Nat):(FX sec a b).length=Cl.AK sec:=by
 have:=YW sec b sec.length
 unfold FX Cl.AK
 rw[List.length_append,Mx];omega
theorem uH {w:World} {base P:Nat} {l:List DB} {vn vk vz vb:Value} (rep:Ae w base P l vn vk vz vb) (hl:l.length≤1000) (S:List Bool) (hS:G6 (A7 l)=S) (h3:S.length≤3) (a b:List Nat) (va XB:Value) (ia:BB w va (ints a)) (ib:BB w XB (ints b)) (la:a.length=S.length) (lb:b.length=S.length) (H_: ∀ i,a.getD i 0<16) (Kk: ∀ i,b.getD i 0<16):
  Calls Tryz.prog 54 #[.pointer (some ⟨P,0,none⟩),va,XB] w fun e w'=> ∃ ao co,e=.returned (.slice ao (Cl.AK S) co)∧BB w' (.slice ao (Cl.AK S) co) (FX S a b)∧Below w.heap.size w w':=by
 obtain ⟨t0,ht0,hz0,hz1,hz2⟩:=info_parts Tryz.Ds
 have FC:=hid (Y6 rep hl)
 rw[hS] at FC
 obtain ⟨aa,ca,rfl⟩:=ia.val
 obtain ⟨ab,cb,rfl⟩:=ib.val
 rw[Il] at ia ib ⊢
 rw[Il]
 rw[la] at ia ⊢
 rw[lb] at ib ⊢
 have Ul:=hid ia
 have HIB:=hid ib
 have agh:=hid H_
 have agj:=hid Kk
 clear rep hS ia ib H_ Kk
 go_enter Tryz.func54,Tryz.ntmps54
 go_wp2_with (first|(go_at_call 22;refine FC.out.mono ?_;rintro e w1 ⟨as_,cs_,rfl,ho,hb⟩;have Kl:=hid ho;have HB:=hid hb;have z1:=hb.size;clear ho hb))
 go_loopg [8,9,10,11,12,13] 2 (fun gk ov nv hv iv vv jv wr=> ∃ (h n:Nat) (L:List Int),h≤2∧2≤h+gk∧hv=.int .i64 h∧nv=.int .i64 n∧(h=0→n=1∧L=[])∧(h=1→n=4*S.length+1∧L=EL a S.length)∧(h=2→L=FX S a b)∧wr.ownsRow w1.heap.size 3 1 ov L.length (L.map fun z=>.int .i64 z)∧Below w1.heap.size w1 wr)
 case atStart=>exact ⟨0,1,[],by omega,by omega,rfl,rfl,fun _=>⟨rfl,rfl⟩,fun h=>absurd h (by omega),fun h=>absurd h (by omega),World.ownsRow_nil _ _ _ _,Below.refl _ _⟩
 case round=>
  obtain ⟨h,n,L,hh,Ba,rfl,rfl,e0,e1,e2,hown,AB⟩:=hrel
  have HOW:=hid hown
  have PI:=hid AB
  clear hown AB
  have agk:h=0∨h=1∨h=2:=by omega
  rcases agk with rfl|rfl|rfl
  ·obtain ⟨rfl,rfl⟩:=e0 rfl
   clear e0 e1 e2
   obtain ⟨G1,hG1⟩: ∃ G:Nat,G=gk:=⟨_,rfl⟩
   go_wp2_with fail
   go_loopg [8,9,11,12,13] S.length (fun gk ov nv iv vv jv wr=> ∃ i:Nat,i≤S.length∧S.length≤i+gk∧iv=.int .i64 i∧nv=.int .i64 ((4*i+1:Nat):Int)∧wr.ownsRow w1.heap.size 3 1 ov (EL a i).length ((EL a i).map fun z=>.int .i64 z)∧Below w1.heap.size w1 wr)
   case atStart=>exact ⟨0,Nat.zero_le _,by omega,rfl,rfl,HOW.out,PI.out⟩
   case round=>
    obtain ⟨i,hi,Ba,rfl,rfl,hown,AB⟩:=hrel
    have OG:=hid hown
    have Qs:=hid AB
    by_cases hlt:i<S.length
    ·obtain ⟨g',off,Rg,hcl⟩:=Ul.out.cell (j:=i) (by rw[Il];omega)
     subst Rg
     have x1:=cell_later AB (cell_later HB.out hcl)
     rw[ints_at] at x1
     obtain ⟨v0,hv0⟩: ∃ v0,a.getD i 0=v0:=⟨_,rfl⟩
     have C9:=agh.out i
     rw[hv0] at x1 C9
     have Mk:=hid (show EL a (i+1)=EL a i++Bl v0 (4*i) 4 by rw[←hv0];rfl)
     obtain ⟨L0,Ml⟩: ∃ L0,EL a i=L0:=⟨_,rfl⟩
     have TN:=Mx a i
     rw[Ml] at OG Mk TN
     obtain ⟨c0,hc0⟩: ∃ c0,4*i=c0:=⟨_,rfl⟩
     rw[hc0] at Mk TN ⊢
     obtain ⟨G2,hG2⟩: ∃ G:Nat,G=gk:=⟨_,rfl⟩
     have agl:c0≤12:=by omega
     clear hown AB hcl hv0 Ml
     go_wp2_with fail
     go_loopg [8,9,12,13] 4 (fun gk ov nv vv jv wr=> ∃ t:Nat,t≤4∧4≤t+gk∧jv=.int .i64 t∧vv=.int .i64 ((v0/2 ^ t:Nat):Int)∧nv=.int .i64 ((c0+1+t:Nat):Int)∧wr.ownsRow w1.heap.size 3 1 ov (L0++Bl v0 c0 t).length ((L0++Bl v0 c0 t).map fun z=>.int .i64 z)∧Below w1.heap.size w1 wr)
     case atStart=>exact ⟨0,by omega,by omega,rfl,by simp,by simp,by simpa[Bl] using OG.out,Qs.out⟩
     case round=>
      obtain ⟨t,ht,Ba,rfl,rfl,rfl,hown,AB⟩:=hrel
      have AV:=hid AB
      have zb:=AB.size
      by_cases Cz:t<4
      ·have hL:(L0++Bl v0 c0 t).length≤100:=by rw[List.length_append,Kv];omega
       have hnx:L0++Bl v0 c0 (t+1)=(L0++Bl v0 c0 t)++[if (v0/2 ^ t)%2=1 then ((c0+1+t:Nat):Int) else -((c0+1+t:Nat):Int)]:=by rw[List.append_assoc];rfl
       have Us:v0/2 ^ (t+1)=v0/2 ^ t/2:=by rw[Nat.pow_succ,Nat.div_div_eq_div_mul]
       have Ix:v0/2 ^ t≤v0:=Nat.div_le_self _ _
       have DY:=hid hnx
       have Km:=hid Us
       obtain ⟨L,MV⟩: ∃ L,L0++Bl v0 c0 t=L:=⟨_,rfl⟩
       rw[MV] at hown hL DY
       have HO:=hid hown
       obtain ⟨v,Jf⟩: ∃ v,v0/2 ^ t=v:=⟨_,rfl⟩
       obtain ⟨n,hne⟩: ∃ n,c0+1+t=n:=⟨_,rfl⟩
       rw[Jf] at DY Km Ix ⊢
       rw[hne] at DY ⊢
       have hnb:n≤1000:=by omega
       have Mi:=hid hne
       clear hown AB hnx Us MV Jf hne
       by_cases hb:v%2=1
       ·rw[if_pos hb] at DY
        have EE:(((v:Int))%2==1)=true:=by simp;omega
        have hbT:(((v:Int)).tmod 2==1)=true:=by rw[Int.tmod_eq_emod_of_nonneg (by omega)];exact EE
        go_wp2_with (first|(at_builtin;refine wpList_append_lies _ rfl _ _ 24 rfl w1.heap.size 3 t0 _ 1 8 Tryz.underlying24 ht0 hz0 hz1 hz2 rfl (by omega) _ L.length (L.map fun z=>.int .i64 z) rfl (HO.out.alloc _) ⟨wr.heap.size,0,none⟩ 1 1 [.int .i64 (n:Int)] rfl rfl (cell_one_new _ _ _) (by simp[Value.oneCell']) (by omega) (by unfold maxLen;omega) (by omega) (by simp;omega) (wr.heap.size+1) (by simp) ?_;intro g2 cap2 w2 hown1 hgrow hat Bk))
        go_roundg (gk - 1)
        case measure=>omega
        case rel=>
         refine ⟨t+1,by omega,by omega,by go_num,?_,?_,?_,Below.grown (AV.out.alloc zb _) hgrow (by simp;omega) (fun q hq=>(HO.out.lt q hq).1)⟩
         ·rw[Km.out];congr 1
         ·have:=Mi.out;congr 1;omega
         ·rw[DY.out,List.length_append,List.map_append];exact hown1
       ·rw[if_neg hb] at DY
        have EE:(((v:Int))%2==1)=false:=by simp;omega
        have hbT:(((v:Int)).tmod 2==1)=false:=by rw[Int.tmod_eq_emod_of_nonneg (by omega)];exact EE
        go_wp2_with (first|(at_builtin;refine wpList_append_lies _ rfl _ _ 24 rfl w1.heap.size 3 t0 _ 1 8 Tryz.underlying24 ht0 hz0 hz1 hz2 rfl (by omega) _ L.length (L.map fun z=>.int .i64 z) rfl (HO.out.alloc _) ⟨wr.heap.size,0,none⟩ 1 1 [.int .i64 (-(n:Int))] rfl rfl (cell_one_new _ _ _) (by simp[Value.oneCell']) (by omega) (by unfold maxLen;omega) (by omega) (by simp;omega) (wr.heap.size+1) (by simp) ?_;intro g2 cap2 w2 hown1 hgrow hat Bk))
        go_roundg (gk - 1)
        case measure=>omega
        case rel=>
         refine ⟨t+1,by omega,by omega,by go_num,?_,?_,?_,Below.grown (AV.out.alloc zb _) hgrow (by simp;omega) (fun q hq=>(HO.out.lt q hq).1)⟩
         ·rw[Km.out];congr 1
         ·have:=Mi.out;congr 1;omega
         ·rw[DY.out,List.length_append,List.map_append];exact hown1
      ·have hte:t=4:=by omega
       subst hte
       have D8:=hid hown
       clear hown AB
       go_wp2_with fail
       go_roundg (G2 - 1)
       case measure=>omega
       case rel=>exact ⟨i+1,by omega,by omega,by go_num,by congr 1;omega,by rw[Mk.out];exact D8.out,AV.out⟩
    ·have hie:i=S.length:=by omega
     subst hie
     clear hown AB
     go_wp2_with fail
     go_roundg (G1 - 1)
     case measure=>omega
     case rel=>exact ⟨1,4*S.length+1,EL a S.length,by omega,by omega,by go_num,rfl,fun h=>absurd h (by omega),fun _=>⟨rfl,rfl⟩,fun h=>absurd h (by omega),OG.out,Qs.out⟩
  ·obtain ⟨rfl,rfl⟩:=e1 rfl
   clear e0 e1 e2
   obtain ⟨G1,hG1⟩: ∃ G:Nat,G=gk:=⟨_,rfl⟩
   go_wp2_with fail
   go_loopg [8,9,11,12,13] S.length (fun gk ov nv iv vv jv wr=> ∃ i:Nat,i≤S.length∧S.length≤i+gk∧iv=.int .i64 i∧nv=.int .i64 (((Cl.Ar S i).1+1:Nat):Int)∧wr.ownsRow w1.heap.size 3 1 ov (EL a S.length++F_ S b i).length ((EL a S.length++F_ S b i).map fun z=>.int .i64 z)∧Below w1.heap.size w1 wr)
   case atStart=>exact ⟨0,Nat.zero_le _,by omega,rfl,rfl,by simpa[F_] using HOW.out,PI.out⟩
   case round=>
    obtain ⟨i,hi,Ba,rfl,rfl,hown,AB⟩:=hrel
    have OG:=hid hown
    have Qs:=hid AB
    by_cases hlt:i<S.length
    ·obtain ⟨g',off,Rg,hcl⟩:=Ul.out.cell (j:=i) (by rw[Il];omega)
     obtain ⟨g2',alp,hbe,bw⟩:=HIB.out.cell (j:=i) (by rw[Il];omega)
     subst Rg hbe
     have x1:=cell_later AB (cell_later HB.out hcl)
     have x2:=cell_later AB (cell_later HB.out bw)
     rw[ints_at] at x1 x2
     obtain ⟨gs,ds_,hvs,_,_⟩:=Kl.out.form (by omega)
     have es:=(slice_inj hvs).1
     subst es
     have x3:wr.cell? ⟨gs,i,none⟩=some (.bool (S.getD i false)):=cell_later AB (by
      rw[Kl.out.cellAt i (by omega),List.getElem?_map,List.getElem?_eq_getElem hlt,List.getD_eq_getElem?_getD,List.getElem?_eq_getElem hlt];rfl)
     have hst:=Cl.Mw S i
     have hle:=Cl.QT S i
     have hl2:=YW S b i
     have CN:=Mx a S.length
     cases AY:S.getD i false with
     |true=>
      rw[AY] at x3 hst
      rw[if_pos rfl] at hst
      obtain ⟨v0,hv0⟩: ∃ v0,b.getD i 0=v0:=⟨_,rfl⟩
      have C9:=agj.out i
      rw[hv0] at x2 C9
      have Mk:=hid (show EL a S.length++F_ S b (i+1)=(EL a S.length++F_ S b i)++Bl v0 (Cl.Ar S i).1 4 by
       rw[←hv0]
       show EL a S.length++(if S.getD i false=true then _ else _)=_
       rw[if_pos AY,List.append_assoc])
      obtain ⟨L0,Ml⟩: ∃ L0,EL a S.length++F_ S b i=L0:=⟨_,rfl⟩
      have TN:L0.length=(Cl.Ar S i).1:=by rw[←Ml,List.length_append];omega
      rw[Ml] at OG Mk
      obtain ⟨c0,hc0⟩: ∃ c0,(Cl.Ar S i).1=c0:=⟨_,rfl⟩
      rw[hc0] at Mk TN hst ⊢
      have HST:=hid hst
      obtain ⟨G2,hG2⟩: ∃ G:Nat,G=gk:=⟨_,rfl⟩
      have agl:c0≤24:=by omega
      generalize a.getD i 0=va0 at x1
      clear hown AB hcl bw hv0 Ml hst CN hl2 hle hc0
      go_wp2_with fail
      go_loopg [8,9,12,13] 4 (fun gk ov nv vv jv wr=> ∃ t:Nat,t≤4∧4≤t+gk∧jv=.int .i64 t∧vv=.int .i64 ((v0/2 ^ t:Nat):Int)∧nv=.int .i64 ((c0+1+t:Nat):Int)∧wr.ownsRow w1.heap.size 3 1 ov (L0++Bl v0 c0 t).length ((L0++Bl v0 c0 t).map fun z=>.int .i64 z)∧Below w1.heap.size w1 wr)
      case atStart=>exact ⟨0,by omega,by omega,rfl,by simp,by simp,by simpa[Bl] using OG.out,Qs.out⟩
      case round=>
       obtain ⟨t,ht,Ba,rfl,rfl,rfl,hown,AB⟩:=hrel
       have AV:=hid AB
       have zb:=AB.size
       by_cases Cz:t<4
       ·have hL:(L0++Bl v0 c0 t).length≤100:=by rw[List.length_append,Kv];omega
        have hnx:L0++Bl v0 c0 (t+1)=(L0++Bl v0 c0 t)++[if (v0/2 ^ t)%2=1 then ((c0+1+t:Nat):Int) else -((c0+1+t:Nat):Int)]:=by rw[List.append_assoc];rfl
        have Us:v0/2 ^ (t+1)=v0/2 ^ t/2:=by rw[Nat.pow_succ,Nat.div_div_eq_div_mul]
        have Ix:v0/2 ^ t≤v0:=Nat.div_le_self _ _
        have DY:=hid hnx
        have Km:=hid Us
        obtain ⟨L,MV⟩: ∃ L,L0++Bl v0 c0 t=L:=⟨_,rfl⟩
        rw[MV] at hown hL DY
        have HO:=hid hown
        obtain ⟨v,Jf⟩: ∃ v,v0/2 ^ t=v:=⟨_,rfl⟩
        obtain ⟨n,hne⟩: ∃ n,c0+1+t=n:=⟨_,rfl⟩
        rw[Jf] at DY Km Ix ⊢
        rw[hne] at DY ⊢
        have hnb:n≤1000:=by omega
        have Mi:=hid hne
        clear hown AB hnx Us MV Jf hne
        by_cases hb:v%2=1
        ·rw[if_pos hb] at DY
         have EE:(((v:Int))%2==1)=true:=by simp;omega
         have hbT:(((v:Int)).tmod 2==1)=true:=by rw[Int.tmod_eq_emod_of_nonneg (by omega)];exact EE
         go_wp2_with (first|(at_builtin;refine wpList_append_lies _ rfl _ _ 24 rfl w1.heap.size 3 t0 _ 1 8 Tryz.underlying24 ht0 hz0 hz1 hz2 rfl (by omega) _ L.length (L.map fun z=>.int .i64 z) rfl (HO.out.alloc _) ⟨wr.heap.size,0,none⟩ 1 1 [.int .i64 (n:Int)] rfl rfl (cell_one_new _ _ _) (by simp[Value.oneCell']) (by omega) (by unfold maxLen;omega) (by omega) (by simp;omega) (wr.heap.size+1) (by simp) ?_;intro g2 cap2 w2 hown1 hgrow hat Bk))
         go_roundg (gk - 1)
         case measure=>omega
         case rel=>
          refine ⟨t+1,by omega,by omega,by go_num,?_,?_,?_,Below.grown (AV.out.alloc zb _) hgrow (by simp;omega) (fun q hq=>(HO.out.lt q hq).1)⟩
          ·rw[Km.out];congr 1
          ·have:=Mi.out;congr 1;omega
          ·rw[DY.out,List.length_append,List.map_append];exact hown1
        ·rw[if_neg hb] at DY
         have EE:(((v:Int))%2==1)=false:=by simp;omega
         have hbT:(((v:Int)).tmod 2==1)=false:=by rw[Int.tmod_eq_emod_of_nonneg (by omega)];exact EE
         go_wp2_with (first|(at_builtin;refine wpList_append_lies _ rfl _ _ 24 rfl w1.heap.size 3 t0 _ 1 8 Tryz.underlying24 ht0 hz0 hz1 hz2 rfl (by omega) _ L.length (L.map fun z=>.int .i64 z) rfl (HO.out.alloc _) ⟨wr.heap.size,0,none⟩ 1 1 [.int .i64 (-(n:Int))] rfl rfl (cell_one_new _ _ _) (by simp[Value.oneCell']) (by omega) (by unfold maxLen;omega) (by omega) (by simp;omega) (wr.heap.size+1) (by simp) ?_;intro g2 cap2 w2 hown1 hgrow hat Bk))
         go_roundg (gk - 1)
         case measure=>omega
         case rel=>
          refine ⟨t+1,by omega,by omega,by go_num,?_,?_,?_,Below.grown (AV.out.alloc zb _) hgrow (by simp;omega) (fun q hq=>(HO.out.lt q hq).1)⟩
          ·rw[Km.out];congr 1
          ·have:=Mi.out;congr 1;omega
          ·rw[DY.out,List.length_append,List.map_append];exact hown1
       ·have hte:t=4:=by omega
        subst hte
        have D8:=hid hown
        clear hown AB
        go_wp2_with fail
        go_roundg (G2 - 1)
        case measure=>omega
        case rel=>exact ⟨i+1,by omega,by omega,by go_num,by have:=HST.out;congr 1;omega,by rw[Mk.out];exact D8.out,AV.out⟩
     |false=>
      rw[AY] at x3 hst
      rw[if_neg (by decide)] at hst
      have Mk:=hid (show F_ S b (i+1)=F_ S b i by
       show (if S.getD i false=true then _ else _)=_
       rw[if_neg (by rw[AY];decide)])
      have HST:=hid hst
      generalize a.getD i 0=va0 at x1
      generalize b.getD i 0=vb0 at x2
      clear hown AB hcl bw hst CN hl2 hle
      go_wp2_with fail
      go_roundg (gk - 1)
      case measure=>omega
      case rel=>exact ⟨i+1,by omega,by omega,by go_num,by rw[HST.out],by rw[Mk.out];exact OG.out,Qs.out⟩
    ·have hie:i=S.length:=by omega
     subst hie
     clear hown AB
     go_wp2_with fail
     go_roundg (G1 - 1)
     case measure=>omega
     case rel=>exact ⟨2,(Cl.Ar S S.length).1+1,FX S a b,by omega,by omega,by go_num,rfl,fun h=>absurd h (by omega),fun h=>absurd h (by omega),fun _=>rfl,OG.out,Qs.out⟩
  ·have e2:=e2 rfl
   subst e2
   have hil:=YG S a b
   obtain ⟨ao,co,rfl⟩:=AX HOW.out
   have E4:=hid (show BB wr (.slice ao (FX S a b).length co) (FX S a b) from BB.Od HOW.out)
   rw[hil] at E4 ⊢
   clear e0 e1 HOW
   go_wp2_with fail
   go_ret
   exact ⟨_,_,rfl,E4.out,HB.out.trans (PI.out.mono z1)⟩
def LP (ts:List Nat) (i:Nat):Nat:=(ts.getD (i/7) 0/2 ^ (i%7))%2
theorem ju (ts:List Nat) (tv:Value) (i:Nat) (w:World) (ht:BB w tv (ints ts)) (hi:i/7<ts.length) (hb: ∀ j,ts.getD j 0≤1000000) (hi2:i≤1000):
  Calls Tryz.prog 56 #[tv,.int .i64 i] w fun e w'=>e=.returned (.int .i64 (LP ts i:Nat))∧Below w.heap.size w w':=by
 obtain ⟨a,c,rfl⟩:=ht.val
 obtain ⟨g,off,rfl,x1⟩:=ht.cell (j:=i/7) (by rw[Il];exact hi)
 rw[ints_at] at x1
 have hb0:=hb (i/7)
 unfold LP
 obtain ⟨v0,hv0⟩: ∃ v0,ts.getD (i/7) 0=v0:=⟨_,rfl⟩
 rw[hv0] at x1 hb0 ⊢
 have hlen:(ints ts).length=ts.length:=Il ts
 rw[hlen] at ht ⊢
 have Eu:((i:Int))/7=((i/7:Nat):Int):=by omega
 have hdT:((i:Int)).tdiv 7=((i/7:Nat):Int):=by rw[Int.tdiv_eq_ediv_of_nonneg (by omega)];exact Eu
 have hmT:((i:Int)).tmod 7=((i%7:Nat):Int):=by rw[Int.tmod_eq_emod_of_nonneg (by omega)];omega
 have Gs:((i:Int))%7=((i%7:Nat):Int):=by omega
 obtain ⟨q,hq⟩: ∃ q,i/7=q:=⟨_,rfl⟩
 obtain ⟨r,hr⟩: ∃ r,i%7=r:=⟨_,rfl⟩
 rw[hq] at x1 Eu hdT hi
 rw[hr] at hmT Gs ⊢
 have hr7:r<7:=by omega
 clear ht hb hv0 hq hr
 go_enter Tryz.func56,Tryz.ntmps56
 go_wp2_with fail
 go_loopg [5,6] r (fun gk vv kv wr=> ∃ t:Nat,t≤r∧r≤t+gk∧kv=.int .i64 t∧vv=.int .i64 ((v0/2 ^ t:Nat):Int)∧wr=w)
 case atStart=>exact ⟨0,Nat.zero_le _,by omega,rfl,by simp,rfl⟩
 case round=>
  obtain ⟨t,ht,Ba,rfl,rfl,rfl⟩:=hrel
  have Ix:v0/2 ^ t≤v0:=Nat.div_le_self _ _
  have Km:=hid (show v0/2 ^ (t+1)=v0/2 ^ t/2 by rw[Nat.pow_succ,Nat.div_div_eq_div_mul])
  by_cases hlt:t<r
  ·have htI:(t:Int)<(r:Int):=by omega
   obtain ⟨v,Jf⟩: ∃ v,v0/2 ^ t=v:=⟨_,rfl⟩
   rw[Jf] at Km Ix ⊢
   clear Jf
   go_wp2_with fail
   go_roundg (gk - 1)
   case measure=>omega
   case rel=>exact ⟨t+1,by omega,by omega,by go_num,by rw[Km.out];congr 1,rfl⟩
  ·have hte:t=r:=by omega
   subst hte
   have htI: ¬(t:Int)<(t:Int):=by omega
   obtain ⟨v,Jf⟩: ∃ v,v0/2 ^ t=v:=⟨_,rfl⟩
   rw[Jf] at Ix ⊢
   have Ja:=hid Jf
   clear Jf Km
   go_wp2_with fail
   go_ret
   exact ⟨IK (by rw[←Ja.out];exact (Int.natCast_emod _ _).symm),Below.refl _ _⟩
structure nB (V:Nat→Int) (vars n m:Nat) (tA tB:List Nat):Prop where
 all: ∀ j,1≤j→j≤vars→(j≤n+2*m∨n+3*m<j)→V j≠0
 a: ∀ i,i<m→(0<V (n+1+i)↔LP tA i=1)
 b: ∀ i,i<m→(0<V (n+1+m+i)↔LP tB i=1)
theorem yJ {w:World} {P k vars:Nat} {cs:List (List Int)} {cv va vb:Value} {S:List Bool} {xs:List Int} {tA tB:List Nat} (T:Int→Prop) (hk:k≤10) (hvars:vars<100000000)
  (hin: ∀ W,Below w.heap.size w W→Calls Tryz.prog 54 #[.pointer (some ⟨P,0,none⟩),va,vb] W fun e w'=> ∃ ao co,e=.returned (.slice ao (Cl.AK S) co)∧BB w' (.slice ao (Cl.AK S) co) xs∧Below W.heap.size W w')
  (htA: ∀ W,Below w.heap.size w W→Calls Tryz.prog 23 #[.pointer (some ⟨P,0,none⟩),va,.int .i64 k] W fun e w'=> ∃ ao co,e=.returned (.slice ao k co)∧BB w' (.slice ao k co) (ints tA)∧Below W.heap.size W w')
  (htB: ∀ W,Below w.heap.size w W→Calls Tryz.prog 23 #[.pointer (some ⟨P,0,none⟩),vb,.int .i64 k] W fun e w'=> ∃ ao co,e=.returned (.slice ao k co)∧BB w' (.slice ao k co) (ints tB)∧Below W.heap.size W w')
  (hc:Ir w cv cs) (fn: ∀ l,l≠0→T l→T (-l)→False) (hz: ∀ i,i<cs.length→(∀ l∈cs.getD i [],l≠0∧l.natAbs≤vars)∧(cs.getD i []).length≤1000000∧ ∃ l∈cs.getD i [],T l) (hx: ∀ l∈xs,l≠0∧l.natAbs≤vars∧T l) (CN:xs.length≤1000) (hal:cs.length≤1000000000)
  (BU:Cl.AK S+3*(7*k)≤vars) (agm:Cl.AK S≤24) (lA:tA.length=k) (lB:tB.length=k) (bA: ∀ j,tA.getD j 0≤1000000) (bB: ∀ j,tB.getD j 0≤1000000)
  (hsy: ∀ V,(∀ j,V j=0∨V j=1∨V j= -1)→Cl.JF T V→(∀ l∈xs,0<Cl.hold V l)→(∀ i,i<cs.length→Cl.Two V (cs.getD i []))→nB V vars (Cl.AK S) (7*k) tA tB):
  Calls Tryz.prog 30 #[.pointer (some ⟨P,0,none⟩),cv,.int .i64 vars,va,vb,.int .i64 k] w fun e w'=>e=.returned (.bool true)∧Below w.heap.size w w':=by
 have E4:=hid hin
 have HTA:=hid htA
 have Gf:=hid htB
 have HC:=hid hc
 have Pu:=hid (fun W (hb:Below w.heap.size w W) lv (hi:BB W lv xs)=>fA cs cv lv vars xs T W (hc.later hb) hi hvars fn hz hx CN hal)
 have Pw:=hid hsy
 have Dk:=hid bA
 have CK:=hid bB
 have IA:=hid hvars
 obtain ⟨m,hm⟩: ∃ m,7*k=m:=⟨_,rfl⟩
 obtain ⟨n,hn⟩: ∃ n,Cl.AK S=n:=⟨_,rfl⟩
 rw[hm] at BU Pw
 rw[hn] at BU agm E4 Pw
 have Gs:(7:Int)*(k:Int)=(m:Int):=by omega
 have nC:m≤70:=by omega
 have alq: ¬((vars:Int)<(n:Int)+3*(m:Int)):=by omega
 clear hin htA htB hc fn hz hx CN hal bA bB hsy hvars hn
 go_enter Tryz.func30,Tryz.ntmps30
 go_upto_region 9 with (first
  |(go_at_call 54;refine (E4.out _ (Below.refl _ _)).mono ?_;rintro e w1 ⟨a1,c1,rfl,hi1,hb1⟩;have PK:=hid hi1;have AL:=hid hb1;have z1:=hb1.size;clear hi1 hb1)
  |(go_at_call 55;refine (Pu.out _ AL.out _ PK.out).mono ?_;rintro e w2 ⟨g,V,rfl,hsp⟩;have HV:=hid hsp.va;have HG:=hid (Pw.out V hsp.va.Lh hsp.con hsp.set hsp.fix);have AP:=hid hsp.A8;have z2:=hsp.A8.size;clear hsp))
 have Wv:=hid (AL.out.trans (AP.out.mono z1))
 have z12:=Wv.out.size
 go_upto_region 10 with (first
  |(go_at_call 23;refine (HTA.out _ Wv.out).mono ?_;rintro e w3 ⟨a3,c3,rfl,hi3,hb3⟩;have Ut:=hid hi3;have Cq:=hid hb3;have z3:=hb3.size;clear hi3 hb3))
 have NN:=hid (Wv.out.trans (Cq.out.mono z12))
 have z13:=NN.out.size
 go_upto_region 11 with (first
  |(go_at_call 23;refine (Gf.out _ NN.out).mono ?_;rintro e w4 ⟨a4,c4,rfl,hi4,hb4⟩;have HI4:=hid hi4;have Dl:=hid hb4;have z4:=hb4.size;clear hi4 hb4))
 have UL:=hid ((HV.out.later Cq.out).later Dl.out)
 have agn:=hid (Ut.out.below Dl.out)
 have nD:=hid (NN.out.trans (Dl.out.mono z13))
 have z14:=nD.out.size
 clear E4 HTA Gf Pu Pw PK HV AL AP Cq Dl Wv NN Ut HC
 go_wp2_with fail
 go_loopg [20] vars (fun gk iv wr=> ∃ i:Nat,1≤i∧i≤vars+1∧vars+1≤i+gk∧iv=.int .i64 i∧w4=wr)
 case atStart=>exact ⟨1,by omega,by omega,by omega,rfl,rfl⟩
 case round=>
  obtain ⟨i,hi1,hi,Ba,rfl,rfl⟩:=hrel
  have hvb:(vars:Int)≤100000000:=by have:=IA.out;omega
  by_cases hlt:i≤vars
  ·have G0:(i:Int)≤(vars:Int):=by omega
   have x1:=UL.out.cell (i:=i) hlt
   have hz:=HG.out.all i hi1 hlt
   obtain ⟨y,hy⟩: ∃ y,V i=y:=⟨_,rfl⟩
   rw[hy] at x1 hz
   by_cases hr:i≤n+2*m∨n+3*m<i
   ·have hz:=hz hr
    have f0:(y==0)=false:=by simpa using hz
    clear hz hy hr
    go_wp2_with fail
    go_roundg (gk - 1)
    case measure=>omega
    case rel=>exact ⟨i+1,by omega,by omega,by omega,by go_num,rfl⟩
   ·have f1: ¬((i:Int)≤(n:Int)+2*(m:Int)):=by omega
    have f2: ¬((n:Int)+3*(m:Int)<(i:Int)):=by omega
    clear hz hy hr
    by_cases f0:(y==0)=true
    ·go_wp2_with fail
     go_roundg (gk - 1)
     case measure=>omega
     case rel=>exact ⟨i+1,by omega,by omega,by omega,by go_num,rfl⟩
    ·have f0:(y==0)=false:=by simpa using f0
     go_wp2_with fail
     go_roundg (gk - 1)
     case measure=>omega
     case rel=>exact ⟨i+1,by omega,by omega,by omega,by go_num,rfl⟩
  ·have G0: ¬((i:Int)≤(vars:Int)):=by omega
   clear hvb
   go_wp2_with fail
   clear hi1 hi Ba hlt G0
   go_loopg [21,22,23] m (fun gk iv ev fv wr=> ∃ i:Nat,i≤m∧m≤i+gk∧iv=.int .i64 i∧Below w4.heap.size w4 wr)
   case atStart=>exact ⟨0,Nat.zero_le _,by omega,rfl,Below.refl _ _⟩
   case round=>
    obtain ⟨i,hi,Ba,rfl,AB⟩:=hrel
    have AV:=hid AB
    have zb:=AB.size
    by_cases hlt:i<m
    ·have G0:(i:Int)<(m:Int):=by omega
     have hvv:=UL.out.later AB
     have HE:=hid (ju tA (.slice a3 k c3) i wr (agn.out.below AB) (by omega) Dk.out (by omega))
     have HF:=hid (fun W (hb:Below wr.heap.size wr W)=>ju tB (.slice a4 k c4) i W ((HI4.out.below AB).below hb) (by omega) CK.out (by omega))
     have h1:=HG.out.a i hlt
     have h2:=HG.out.b i hlt
     have x1:=hvv.cell (i:=n+1+i) (by omega)
     have x2:=hvv.cell (i:=n+1+m+i) (by omega)
     have hb1:LP tA i<2:=Nat.mod_lt _ (by omega)
     have hb2:LP tB i<2:=Nat.mod_lt _ (by omega)
     obtain ⟨y1,hy1⟩: ∃ y,V (n+1+i)=y:=⟨_,rfl⟩
     obtain ⟨y2,hy2⟩: ∃ y,V (n+1+m+i)=y:=⟨_,rfl⟩
     rw[hy1] at x1 h1
     rw[hy2] at x2 h2
     have X1:=hid x1
     have X2:=hid x2
     generalize LP tA i=be at HE h1 hb1
     generalize LP tB i=bf at HF h2 hb2
     clear AB hvv hy1 hy2 x1 x2
     go_upto_region 21 with (first
      |(go_at_call_of 56 (Value.slice a3 k c3);refine HE.out.mono ?_;rintro e w5 ⟨rfl,Cb⟩;have CE:=hid Cb;have z5:=Cb.size;clear Cb)
      |(go_at_call_of 56 (Value.slice a4 k c4);refine (HF.out _ CE.out).mono ?_;rintro e w6 ⟨rfl,D9⟩;have Bz:=hid (CE.out.trans (D9.mono z5));clear D9))
     have x1:=cell_later Bz.out X1.out
     have x2:=cell_later Bz.out X2.out
     by_cases q1:be=1
     ·by_cases q2:bf=1
      ·have p1:(0:Int)<y1:=h1.2 q1
       have q1b:((be:Int)==1)=true:=by rw[q1];rfl
       have p2:(0:Int)<y2:=h2.2 q2
       have q2b:((bf:Int)==1)=true:=by rw[q2];rfl
       clear h1 h2 q1 q2
       go_wp2_with fail
       go_roundg (gk - 1)
       case measure=>omega
       case rel=>exact ⟨i+1,by omega,by omega,by go_num,AV.out.trans (Bz.out.mono zb)⟩
      ·have p1:(0:Int)<y1:=h1.2 q1
       have q1b:((be:Int)==1)=true:=by rw[q1];rfl
       have p2: ¬(0:Int)<y2:=fun h=>q2 (h2.1 h)
       have q2b:((bf:Int)==1)=false:=by simp;omega
       clear h1 h2 q1 q2
       go_wp2_with fail
       go_roundg (gk - 1)
       case measure=>omega
       case rel=>exact ⟨i+1,by omega,by omega,by go_num,AV.out.trans (Bz.out.mono zb)⟩
     ·by_cases q2:bf=1
      ·have p1: ¬(0:Int)<y1:=fun h=>q1 (h1.1 h)
       have q1b:((be:Int)==1)=false:=by simp;omega
       have p2:(0:Int)<y2:=h2.2 q2
       have q2b:((bf:Int)==1)=true:=by rw[q2];rfl
       clear h1 h2 q1 q2
       go_wp2_with fail
       go_roundg (gk - 1)
       case measure=>omega
       case rel=>exact ⟨i+1,by omega,by omega,by go_num,AV.out.trans (Bz.out.mono zb)⟩
      ·have p1: ¬(0:Int)<y1:=fun h=>q1 (h1.1 h)
       have q1b:((be:Int)==1)=false:=by simp;omega
       have p2: ¬(0:Int)<y2:=fun h=>q2 (h2.1 h)
       have q2b:((bf:Int)==1)=false:=by simp;omega
       clear h1 h2 q1 q2
       go_wp2_with fail
       go_roundg (gk - 1)
       case measure=>omega
       case rel=>exact ⟨i+1,by omega,by omega,by go_num,AV.out.trans (Bz.out.mono zb)⟩
    ·have G0: ¬(i:Int)<(m:Int):=by omega
     clear AB
     go_wp2_with fail
     go_ret
     exact ⟨rfl,nD.out.trans (AV.out.mono z14)⟩
structure GX (w:World) (g n:Nat) (R:Nat→Nat):Prop where
 row:w.rowIs g 3 (n+1) (fun i=>.int .i64 (R i:Nat))
 le: ∀ j,R j≤2
theorem GX.cell {w:World} {g n:Nat} {R:Nat→Nat} (h:GX w g n R) {i:Nat} (hi:i≤n):w.cell? ⟨g,i,none⟩=some (.int .i64 (R i:Nat)):=h.row.cell (i:=i) (by omega)
theorem GX.later {w w':World} {g n:Nat} {R:Nat→Nat} (h:GX w g n R) (hb:Below w.heap.size w w'):GX w' g n R:=⟨h.row.of_block (hb.block g h.row.lt),h.le⟩
theorem GX.put {w:World} {g n:Nat} {R:Nat→Nat} (h:GX w g n R) (x v:Nat) (hv:v≤2):GX (w.setCell ⟨g,x,none⟩ (.int .i64 (v:Nat))) g n (Lk.upd R x v):=by
 refine ⟨(h.row.set x _).congr fun i hi=>?_,fun j=>?_⟩
 ·unfold Lk.upd
  by_cases c:i=x
  ·rw[if_pos c,if_pos c]
  ·rw[if_neg c,if_neg c]
 ·unfold Lk.upd;split
  ·exact hv
  ·exact h.le j
def adu (w w':World) (e:Ending) (cl:List Int) (V:Nat→Int) (R:Nat→Nat) (K:Nat):Prop:= ∃ (b:Nat) (op:Bool),e=.returned (.tuple #[.int .i64 (b:Nat),.bool op])∧(op=true→(b=K∨(b=0∧ ∀ l∈cl,V l.natAbs=0→R l.natAbs=0)))∧Below w.heap.size w w'
theorem ab7 (cl:List Int) (vc:Value) (g g2 n c c2:Nat) (V:Nat→Int) (R:Nat→Nat) (K:Nat) (w:World) (hc:BB w vc cl) (hv:FI w g n V) (hr:GX w g2 n R) (hz: ∀ l∈cl,l≠0∧l.natAbs≤n) (hl:cl.length≤1000000) (hn:n≤100000000) (hK:K=1∨K=2) (hR: ∀ l∈cl,V l.natAbs=0→R l.natAbs=0∨R l.natAbs=K):
  Calls Tryz.prog 58 #[vc,.slice (some ⟨g,0,none⟩) (n+1) c,.slice (some ⟨g2,0,none⟩) (n+1) c2] w fun e w'=>adu w w' e cl V R K:=by
 obtain ⟨a,ca,rfl⟩:=hc.val
 have HC:=hid hc
 have HV:=hid hv
 have Ce:=hid hr
 have hz':=hid hz
 have HR:=hid hR
 have DL:(cl.length:Int)≤1000000:=by omega
 have HN:=hid hn
 clear hc hv hz hr hR hn
 go_enter Tryz.func58,Tryz.ntmps58
 go_wp2_with fail
 go_loopg [8,9,10,11] cl.length (fun gk bv jv hv xv wr=> ∃ (j b:Nat),j≤cl.length∧cl.length≤j+gk∧jv=.int .i64 j∧bv=.int .i64 b∧(b=K∨(b=0∧ ∀ q,q<j→V (cl.getD q 0).natAbs=0→R (cl.getD q 0).natAbs=0))∧Below w.heap.size w wr)
 case atStart=>exact ⟨0,0,Nat.zero_le _,by omega,rfl,rfl,.inr ⟨rfl,fun q hq=>absurd hq (by omega)⟩,Below.refl _ _⟩
 case round=>
  obtain ⟨j,b,hj,Ba,rfl,rfl,hb,AB⟩:=hrel
  have AV:=hid AB
  have CK:=hid hb
  have zb:=AB.size
  have hb3:b≤2:=by omega
  by_cases hlt:j<cl.length
  ·obtain ⟨gc,oc,rfl,hcell⟩:=HC.out.cell hlt
   have hc1:=cell_later AB hcell
   have hm:=hz'.out _ (QO hlt)
   have Cs:=HR.out _ (QO hlt)
   have HH:=hid (fy g n c V (cl.getD j 0) wr (HV.out.later AB) hm.2 HN.out)
   have hrc:=(Ce.out.later AB).cell (i:=(cl.getD j 0).natAbs) hm.2
   obtain ⟨l,hle⟩: ∃ l,cl.getD j 0=l:=⟨_,rfl⟩
   rw[hle] at hc1 hm HH hrc Cs
   have ht:=iP HV.out.Lh l
   have Xn:Cl.hold V l=0↔V l.natAbs=0:=by unfold Cl.hold;split <;> omega
   obtain ⟨h,hhe⟩: ∃ h,Cl.hold V l=h:=⟨_,rfl⟩
   rw[hhe] at ht HH Xn
   obtain ⟨r,hre⟩: ∃ r,R l.natAbs=r:=⟨_,rfl⟩
   rw[hre] at hrc Cs
   have Hz:=hid hle
   have RL:=hid hre
   have HH0:=hid Xn
   have Jh:=hid hrc
   have HLB:=hid (show -1000000000≤l∧l≤1000000000 by have:=HN.out;omega)
   have next: ∀ b':Nat,(b'=K∨(b'=0∧b=0∧(h=0→r=0)))→(b'=K∨(b'=0∧ ∀ q,q<j+1→V (cl.getD q 0).natAbs=0→R (cl.getD q 0).natAbs=0)):=fun b' hb'=>by
    rcases hb' with e|⟨e,e2,e3⟩
    ·exact .inl e
    ·refine .inr ⟨e,fun q hq hv=>?_⟩
     by_cases c:q=j
     ·rw[c,hle] at hv ⊢
      rw[hre]
      exact e3 (Xn.2 hv)
     ·rcases CK.out with d|⟨_,d⟩
      ·omega
      ·exact d q (by omega) hv
   have NX:=hid next
   clear hcell hle AB hb hhe hre Xn hrc next
   by_cases hsg:l<0
   ·obtain ⟨q,rfl⟩: ∃ q:Nat,l= -(q:Int):=⟨l.natAbs,by omega⟩
    rw[show (-(q:Int)).natAbs=q by omega] at Jh
    obtain ⟨lb1,Re⟩:=HLB.out
    have hqn:q≤n:=by omega
    rcases ht with rfl|rfl|rfl
    ·by_cases Gi:r=0
     ·subst Gi
      clear Cs hm
      go_wp2_with (first|(go_at_call 93;refine HH.out.mono ?_;rintro e w1 ⟨rfl,hb1⟩;have hc2:=cell_later hb1 hc1;have hrc:=cell_later hb1 Jh.out;have AL:=hid (AV.out.trans (hb1.mono zb));clear hb1))
      go_roundg (gk - 1)
      case measure=>omega
      case rel=>exact ⟨j+1,b,by omega,by omega,by go_num,by first|rfl|go_num,NX.out _ (CK.out.elim .inl fun e=>.inr ⟨e.1,e.1,fun _=>by first|rfl|trivial⟩),AL.out⟩
     ·have hrK:r=K:=by
       rcases Cs (HH0.out.1 rfl) with e|e
       ·exact absurd e Gi
       ·exact e
      have f1:(0:Int)<(r:Int):=by omega
      by_cases hbr:r=b
      ·have f2:((r:Int) !=(b:Int))=false:=by simp;omega
       clear Cs hm Gi
       go_wp2_with (first|(go_at_call 93;refine HH.out.mono ?_;rintro e w1 ⟨rfl,hb1⟩;have hc2:=cell_later hb1 hc1;have hrc:=cell_later hb1 Jh.out;have AL:=hid (AV.out.trans (hb1.mono zb));clear hb1))
       go_roundg (gk - 1)
       case measure=>omega
       case rel=>exact ⟨j+1,b,by omega,by omega,by go_num,by first|rfl|go_num,NX.out _ (.inl (by omega)),AL.out⟩
      ·have f2:((r:Int) !=(b:Int))=true:=by simp;omega
       have hb0:b=0:=by
        rcases CK.out with e|⟨e,_⟩
        ·omega
        ·exact e
       have hr2:r≤2:=by omega
       clear Cs hm Gi
       go_wp2_with (first|(go_at_call 93;refine HH.out.mono ?_;rintro e w1 ⟨rfl,hb1⟩;have hc2:=cell_later hb1 hc1;have hrc:=cell_later hb1 Jh.out;have AL:=hid (AV.out.trans (hb1.mono zb));clear hb1))
       go_roundg (gk - 1)
       case measure=>omega
       case rel=>exact ⟨j+1,b+r,by omega,by omega,by go_num,by first|rfl|go_num,NX.out _ (.inl (by omega)),AL.out⟩
    ·clear Cs hm
     go_wp2_with (first|(go_at_call 93;refine HH.out.mono ?_;rintro e w1 ⟨rfl,hb1⟩;have hc2:=cell_later hb1 hc1;have hrc:=cell_later hb1 Jh.out;have AL:=hid (AV.out.trans (hb1.mono zb));clear hb1))
     refine bodyPost_ret (v:=.tuple #[.int .i64 ((0:Nat):Int),.bool false]) (by simp[results,Tryz.results58,go_sem]) rfl ⟨0,false,rfl,fun h=>(by cases h),AL.out⟩
    ·clear Cs hm
     go_wp2_with (first|(go_at_call 93;refine HH.out.mono ?_;rintro e w1 ⟨rfl,hb1⟩;have hc2:=cell_later hb1 hc1;have hrc:=cell_later hb1 Jh.out;have AL:=hid (AV.out.trans (hb1.mono zb));clear hb1))
     go_roundg (gk - 1)
     case measure=>omega
     case rel=>exact ⟨j+1,b,by omega,by omega,by go_num,by first|rfl|go_num,NX.out _ (CK.out.elim .inl fun e=>.inr ⟨e.1,e.1,fun h=>absurd h (by decide)⟩),AL.out⟩
   ·obtain ⟨q,rfl⟩: ∃ q:Nat,l=(q:Int):=⟨l.natAbs,by omega⟩
    rw[show ((q:Int)).natAbs=q by omega] at Jh
    obtain ⟨lb1,Re⟩:=HLB.out
    have hqn:q≤n:=by omega
    rcases ht with rfl|rfl|rfl
    ·by_cases Gi:r=0
     ·subst Gi
      clear Cs hm
      go_wp2_with (first|(go_at_call 93;refine HH.out.mono ?_;rintro e w1 ⟨rfl,hb1⟩;have hc2:=cell_later hb1 hc1;have hrc:=cell_later hb1 Jh.out;have AL:=hid (AV.out.trans (hb1.mono zb));clear hb1))
      go_roundg (gk - 1)
      case measure=>omega
      case rel=>exact ⟨j+1,b,by omega,by omega,by go_num,by first|rfl|go_num,NX.out _ (CK.out.elim .inl fun e=>.inr ⟨e.1,e.1,fun _=>by first|rfl|trivial⟩),AL.out⟩
     ·have hrK:r=K:=by
       rcases Cs (HH0.out.1 rfl) with e|e
       ·exact absurd e Gi
       ·exact e
      have f1:(0:Int)<(r:Int):=by omega
      by_cases hbr:r=b
      ·have f2:((r:Int) !=(b:Int))=false:=by simp;omega
       clear Cs hm Gi
       go_wp2_with (first|(go_at_call 93;refine HH.out.mono ?_;rintro e w1 ⟨rfl,hb1⟩;have hc2:=cell_later hb1 hc1;have hrc:=cell_later hb1 Jh.out;have AL:=hid (AV.out.trans (hb1.mono zb));clear hb1))
       go_roundg (gk - 1)
       case measure=>omega
       case rel=>exact ⟨j+1,b,by omega,by omega,by go_num,by first|rfl|go_num,NX.out _ (.inl (by omega)),AL.out⟩
      ·have f2:((r:Int) !=(b:Int))=true:=by simp;omega
       have hb0:b=0:=by
        rcases CK.out with e|⟨e,_⟩
        ·omega
        ·exact e
       have hr2:r≤2:=by omega
       clear Cs hm Gi
       go_wp2_with (first|(go_at_call 93;refine HH.out.mono ?_;rintro e w1 ⟨rfl,hb1⟩;have hc2:=cell_later hb1 hc1;have hrc:=cell_later hb1 Jh.out;have AL:=hid (AV.out.trans (hb1.mono zb));clear hb1))
       go_roundg (gk - 1)
       case measure=>omega
       case rel=>exact ⟨j+1,b+r,by omega,by omega,by go_num,by first|rfl|go_num,NX.out _ (.inl (by omega)),AL.out⟩
    ·clear Cs hm
     go_wp2_with (first|(go_at_call 93;refine HH.out.mono ?_;rintro e w1 ⟨rfl,hb1⟩;have hc2:=cell_later hb1 hc1;have hrc:=cell_later hb1 Jh.out;have AL:=hid (AV.out.trans (hb1.mono zb));clear hb1))
     refine bodyPost_ret (v:=.tuple #[.int .i64 ((0:Nat):Int),.bool false]) (by simp[results,Tryz.results58,go_sem]) rfl ⟨0,false,rfl,fun h=>(by cases h),AL.out⟩
    ·clear Cs hm
     go_wp2_with (first|(go_at_call 93;refine HH.out.mono ?_;rintro e w1 ⟨rfl,hb1⟩;have hc2:=cell_later hb1 hc1;have hrc:=cell_later hb1 Jh.out;have AL:=hid (AV.out.trans (hb1.mono zb));clear hb1))
     go_roundg (gk - 1)
     case measure=>omega
     case rel=>exact ⟨j+1,b,by omega,by omega,by go_num,by first|rfl|go_num,NX.out _ (CK.out.elim .inl fun e=>.inr ⟨e.1,e.1,fun h=>absurd h (by decide)⟩),AL.out⟩
  ·have HF:=hid (show b=K∨(b=0∧ ∀ l∈cl,V l.natAbs=0→R l.natAbs=0) by
    rcases hb with e|⟨e,h⟩
    ·exact .inl e
    ·refine .inr ⟨e,fun l hl hv=>?_⟩
     obtain ⟨q,hq,rfl⟩:=List.mem_iff_getElem.1 hl
     have:=h q (by omega)
     rw[List.getD_eq_getElem?_getD,List.getElem?_eq_getElem hq] at this
     exact this hv)
   have f3: ¬(3:Int)<(b:Int):=by omega
   clear hb AB CK
   go_wp2_with fail
   refine bodyPost_ret (v:=.tuple #[.int .i64 (b:Nat),.bool true]) (by simp[results,Tryz.results58,go_sem]) rfl ⟨b,true,rfl,fun _=>HF.out,AV.out⟩
end Go.Proofs.YtgddmpmcnjlcjaaGreatDoor
