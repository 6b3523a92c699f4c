import Derived.Test.YtgddmpmcnjlcjaaGreatDoorK07
import Derived.Deep.LoopGhost
import Derived.Deep.QuietTactic
import Derived.BigQuiet
import Derived.Deep.RegionLaw
import Derived.Test.YtgddmpmcnjlcjaaGreatDoorB16
import Derived.Test.YtgddmpmcnjlcjaaGreatDoorK01
import Derived.Test.YtgddmpmcnjlcjaaGreatDoorK03
import Derived.Test.YtgddmpmcnjlcjaaGreatDoorK05
import Derived.Test.YtgddmpmcnjlcjaaGreatDoorB30
import Derived.Test.YtgddmpmcnjlcjaaGreatDoorK04
set_option maxRecDepth 100000
set_option maxHeartbeats 4000000
namespace Go.Proofs.YtgddmpmcnjlcjaaGreatDoor
open Go.RowKit
open Tm (TsOk DsOk Wd16)
set_option linter.unusedVariables false
theorem Tm.TsOk.one {ds:List Rf.Dc} {t:Rf.Tr} (h:TsOk ds [t]):(∃ W,t=.node W [] []∧Rf.fits ds W=true∧ ¬(Lk.wd W 0=Rf.wIf∨Lk.wd W 0=Rf.wWhile))∨
  (∃ W B O,t=.node W B O∧W.length=2∧Rf.atom ds (Lk.wd W 1)=true∧(Lk.wd W 0=Rf.wIf∨Lk.wd W 0=Rf.wWhile)∧TsOk ds B∧TsOk ds O):=by
 cases h with
 |plain h hn hr=>exact .inl ⟨_,rfl,h,hn⟩
 |cond h2 ha hw hb ho hr=>exact .inr ⟨_,_,_,rfl,h2,ha,hw,hb,ho⟩
theorem gV {ds:List Rf.Dc} {m:Tm.M} {ts:List Rf.Tr} {i:Nat} {q:List (List Rf.Tr×Nat)} {W:List Lk.Wd} {B O:List Rf.Tr} (hb:m.bad=false) (hp:Tm.pop m.at_=(ts,i)::q) (hd:ts.getD i (.node [] [] [])=.node W B O):Tm.step ds m=
  (if Lk.wd W 0=Rf.wIf∨Lk.wd W 0=Rf.wWhile then
    (if Tm.value ds m (Lk.wd W 1)=0 then (16,{ m with at_:=(O,0)::(if Lk.wd W 0=Rf.wIf∨Tm.value ds m (Lk.wd W 1)=0 then (ts,i+1)::q else (ts,i)::q) })
     else (17,{ m with at_:=(B,0)::(if Lk.wd W 0=Rf.wIf∨Tm.value ds m (Lk.wd W 1)=0 then (ts,i+1)::q else (ts,i)::q) }))
   else Tm.plain ds W { m with at_:=(ts,i+1)::q }):=by
 unfold Tm.step
 rw[if_neg (by rw[hb];simp),hp]
 simp only[hd,Tm.words,Tm.body,Tm.other]
theorem Sd {a b:Lk.Wd} (h: ¬a=b):(a==b)=false:=by simpa using h
section
variable {w0 wf:World} {F A:Nat→Prop} {P:Nat} {l:List DB} {R gv gc cc:Nat} {ga:Nat→Nat} {N N':Nat} {m:Tm.M} {w w':World}
theorem uh (h:Aj w0 wf F A P l R gv gc cc ga N m w) (p:PS w0 P l) (C9:Wd16 m) (hb:m.bad=false) (hN:N≤800) {ts:List Rf.Tr} {i:Nat} {q:List (List Rf.Tr×Nat)} (hp:Tm.pop m.at_=(ts,i)::q) {W:List Lk.Wd} {B O:List Rf.Tr} (hd:ts.getD i (.node [] [] [])=.node W B O) (hf:Rf.fits (A7 l) W=true) (hn: ¬(Lk.wd W 0=Rf.wIf∨Lk.wd W 0=Rf.wWhile)):
  Calls Tryz.prog 53 #[.pointer (some ⟨R,0,none⟩)] w fun e w'=>e=.returned (.int .i64 ((Tm.plain (A7 l) W { m with at_:=(ts,i+1)::q }).1:Nat))∧Aj w0 wf F A P l R gv gc cc ga (N+1) (Tm.plain (A7 l) W { m with at_:=(ts,i+1)::q }).2 w':=by
 have Gp:=hf
 unfold Rf.fits at hf
 by_cases c1:Lk.wd W 0=Rf.wOut
 ·rw[if_pos c1,Bool.and_eq_true] at hf
  have e:Tm.plain (A7 l) W { m with at_:=(ts,i+1)::q }=(48+Tm.value (A7 l) m (Lk.wd W 1),{ m with at_:=(ts,i+1)::q }):=by
   unfold Tm.plain
   rw[if_pos c1]
   rfl
  rw[e]
  exact uY h p C9 hb (by omega) hp hd (by simpa using hf.1) c1 hf.2
 ·rw[if_neg c1] at hf
  by_cases c2:Lk.wd W 0=Rf.wLoad
  ·rw[if_pos c2,Bool.and_eq_true] at hf
   exact rD h p C9 hb hN hp hd (by simpa using hf.1) c2 Gp
  ·rw[if_neg c2] at hf
   by_cases c3:Lk.wd W 0=Rf.wStore
   ·rw[if_pos c3,Bool.and_eq_true] at hf
    exact py h p C9 hb hN hp hd (by simpa using hf.1) c3 Gp
   ·rw[if_neg c3] at hf
    have n0:(Lk.wd W 0==[111,117,116])=false:=Sd c1
    have n1:(Lk.wd W 0==[105,102])=false:=Sd (fun e=>hn (.inl e))
    have n2:(Lk.wd W 0==[119,104,105,108,101])=false:=Sd (fun e=>hn (.inr e))
    have n3:(Lk.wd W 0==[108,111,97,100])=false:=Sd c2
    have n4:(Lk.wd W 0==[115,116,111,114,101])=false:=Sd c3
    have e:Tm.plain (A7 l) W { m with at_:=(ts,i+1)::q }=(0,{ m with at_:=(ts,i+1)::q,vals:=Lk.upd m.vals (Tm.idx (A7 l) (Lk.wd W 0)) (if W.length=5 then Mc.apply ((Lk.oper? (Lk.wd W 3)).getD 0) (Tm.value (A7 l) m (Lk.wd W 2)) (Tm.value (A7 l) m (Lk.wd W 4)) else Tm.value (A7 l) m (Lk.wd W 2)) }):=by
     unfold Tm.plain
     rw[if_neg c1,if_neg c2,if_neg c3]
     rfl
    rw[e]
    by_cases l3:W.length=3
    ·rw[if_pos l3] at hf
     simp only[Bool.and_eq_true] at hf
     rw[if_neg (by omega)]
     exact rF h p C9 hb hN hp hd l3 n0 n1 n2 n3 n4 hf.1.1 hf.2
    ·rw[if_neg l3] at hf
     by_cases l5:W.length=5
     ·rw[if_pos l5] at hf
      simp only[Bool.and_eq_true] at hf
      rw[if_pos l5]
      have ho:=hf.2.1
      rw[←Rf.fo] at ho
      cases hop:Lk.oper? (Lk.wd W 3) with
      |none=>rw[hop] at ho;cases ho
      |some o=>exact rG h p C9 hb hN hp hd l5 n0 n1 n2 n3 n4 hf.1.1.1 hf.1.2 hf.2.2 o hop
     ·rw[if_neg l5] at hf;cases hf
theorem yc (h:Aj w0 wf F A P l R gv gc cc ga N m w) (p:PS w0 P l) (C9:Wd16 m) (hN:N≤800):
  Calls Tryz.prog 53 #[.pointer (some ⟨R,0,none⟩)] w fun e w'=>e=.returned (.int .i64 ((Tm.step (A7 l) m).1:Nat))∧Aj w0 wf F A P l R gv gc cc ga (N+2) (Tm.step (A7 l) m).2 w':=by
 cases hb:m.bad with
 |true=>
  have e:Tm.step (A7 l) m=(80,m):=by unfold Tm.step;rw[if_pos hb]
  rw[e]
  exact (uX h hb).mono (fun e w' hh=>⟨hh.1,hh.2.up (by omega)⟩)
 |false=>
  cases hp:Tm.pop m.at_ with
  |nil=>
   have e:Tm.step (A7 l) m=(64,{ m with at_:=[] }):=by unfold Tm.step;rw[if_neg (by rw[hb];simp),hp]
   rw[e]
   exact (rB h hb (by omega) hp).mono (fun e w' hh=>⟨hh.1,hh.2.up (by omega)⟩)
  |cons x q=>
   obtain ⟨ts,i⟩:=x
   have hil:=Tm.Z1 hp
   have hok:TsOk (A7 l) ts:=by
    obtain ⟨st,g,ca,h1⟩:=h.at_
    have hs:=h1.AO.pop
    rw[hp] at hs
    generalize (st.reverse.dropWhile fun p=>decide (p.nl≤p.i))=z at hs
    cases hs with
    |cons hx ht=>exact hx.ok
   rcases (TsOk.get hok hil (.node [] [] [])).one with ⟨W,hd,hf,hn⟩|⟨W,B,O,hd,h2,ha,hw,hB,hO⟩
   ·rw[gV hb hp hd,if_neg hn]
    exact (uh h p C9 hb hN hp hd hf hn).mono (fun e w' hh=>⟨hh.1,hh.2.up (by omega)⟩)
   ·rw[gV hb hp hd,if_pos hw]
    by_cases hx:Tm.value (A7 l) m (Lk.wd W 1)=0
    ·rw[if_pos hx,if_pos (.inr hx)]
     rcases hw with hw|hw
     ·exact uZ h p C9 hb hN hp hd h2 hw ha hO hx
     ·exact uf h p C9 hb hN hp hd h2 hw ha hO hx
    ·rw[if_neg hx]
     rcases hw with hw|hw
     ·rw[if_pos (.inl hw)]
      exact u_ h p C9 hb hN hp hd h2 hw ha hB hx
     ·rw[if_neg (fun c=>by
       rcases c with c|c
       ·rw[hw] at c;revert c;decide
       ·exact hx c)]
      exact (ug h p C9 hb hN hp hd h2 hw ha hB hx).mono (fun e w' hh=>⟨hh.1,hh.2.up (by omega)⟩)
end
open Tm (TsOk DsOk Wd16)
def FU (ds:List Rf.Dc) (i:Nat):Nat:=((ds.take i).filter Tm.Bc).length
theorem jM (ds:List Rf.Dc):FU ds 0=0:=by simp[FU]
theorem ye {ds:List Rf.Dc} {i:Nat} (h:i<ds.length):FU ds (i+1)=FU ds i+(if Tm.Bc ds[i]=true then 1 else 0):=by
 unfold FU
 rw[List.take_succ_eq_append_getElem h,List.filter_append,List.length_append]
 congr 1
 by_cases c:Tm.Bc ds[i]=true
 ·rw[if_pos c];simp[c]
 ·rw[if_neg c];simp[c]
theorem acm (ds:List Rf.Dc) (i:Nat):FU ds i≤(ds.filter Tm.Bc).length:=by
 unfold FU
 exact ((List.take_sublist i ds).filter _).length_le
theorem aB: ∀ (ds:List Rf.Dc) (k:Nat) (ins:List Nat) (i:Nat) (h:i<ds.length),Tm.BZ ds k ins (k+i)=if Tm.Bc ds[i]=true then ins.getD (FU ds i) 0 else 0
 |[],_,_,_,h=>by simp at h
 |d::ds,k,ins,0,h=>by
  unfold Tm.BZ
  rw[jM]
  by_cases c:Tm.Bc d=true
  ·rw[if_pos c,if_pos (by omega),if_pos (by exact c)]
   cases ins <;> rfl
  ·rw[if_neg c,if_pos (by omega),if_neg (by exact c)]
 |d::ds,k,ins,i+1,h=>by
  have hi:i<ds.length:=by simpa using h
  have e1:FU (d::ds) (i+1)=(if Tm.Bc d=true then 1 else 0)+FU ds i:=by
   unfold FU
   rw[List.take_succ_cons,List.filter_cons]
   by_cases c:Tm.Bc d=true
   ·rw[if_pos c,if_pos c,List.length_cons];omega
   ·rw[if_neg c,if_neg c];omega
  rw[e1]
  unfold Tm.BZ
  by_cases c:Tm.Bc d=true
  ·rw[if_pos c,if_neg (by omega),if_pos c,show k+(i+1)=k+1+i by omega,aB ds (k+1) ins.tail i hi]
   show _=if Tm.Bc ds[i]=true then ins.getD (1+FU ds i) 0 else 0
   by_cases c2:Tm.Bc ds[i]=true
   ·rw[if_pos c2,if_pos c2]
    cases ins with
    |nil=>simp
    |cons x l=>rw[show 1+FU ds i=FU ds i+1 by omega];rfl
   ·rw[if_neg c2,if_neg c2]
  ·rw[if_neg c,if_neg (by omega),if_neg c,show k+(i+1)=k+1+i by omega,aB ds (k+1) ins i hi]
   show _=if Tm.Bc ds[i]=true then ins.getD (0+FU ds i) 0 else 0
   rw[Nat.zero_add]
def cellsOf (l:List DB) (ga:Nat→Nat) (i:Nat):List Value:=(List.range i).map fun x=>.slice (some ⟨ga x,0,none⟩) (Dh l x) (Dh l x)
theorem oM (l:List DB) (ga:Nat→Nat) (i g:Nat):cellsOf l (Lk.upd ga i g) (i+1)=cellsOf l ga i++[.slice (some ⟨g,0,none⟩) (Dh l i) (Dh l i)]:=by
 unfold cellsOf
 rw[List.range_succ,List.map_append]
 congr 1
 ·refine List.map_congr_left (fun x hx=>?_)
  have hx:x<i:=List.mem_range.1 hx
  unfold Lk.upd
  rw[if_neg (by omega)]
 ·simp[Lk.upd]
def TV (ds:List Rf.Dc) (ins:List Nat) (i x:Nat):Nat:=if x<i then Tm.BZ ds 0 ins x else 0
structure Fv (w0:World) (P:Nat) (l:List DB) (ins:List Nat) (R gv:Nat) (i iv:Nat) (vc:Value) (ga:Nat→Nat) (w:World):Prop where
 A8:Below w0.heap.size w0 w
 row:w.rowIs R 127 5 (IQ P gv l.length vc (.slice none 0 0) false)
 vals:w.rowIs gv 3 l.length (fun x=>.int .i64 (TV (A7 l) ins iv x))
 own:w.ownsRow w0.heap.size 24 1 vc i (cellsOf l ga i)
 arr: ∀ x,x<i→w.rowIs (ga x) 3 (Dh l x) (fun _=>.int .i64 0)
 v0:i=0→vc=.slice none 0 0
 r:w0.heap.size≤R
 v:w0.heap.size≤gv
 rv:R≠gv
 cr:vc.ownBlock≠some R
 cv:vc.ownBlock≠some gv
 a: ∀ x,x<i→w0.heap.size≤ga x∧ga x≠R∧ga x≠gv∧vc.ownBlock≠some (ga x)
 aa: ∀ x y,x<i→y<i→ga x=ga y→x=y
section
variable {w0:World} {P:Nat} {l:List DB} {ins:List Nat} {R gv i iv:Nat} {vc:Value} {ga:Nat→Nat} {w w':World}
theorem Fv.drew (h:Fv w0 P l ins R gv i iv vc ga w) (k:Nat):Fv w0 P l ins R gv i iv vc ga (w.drewN k):=
 ⟨below_drewN h.A8 k,h.row.of_block rfl,h.vals.of_block rfl,BP h.own (fun _ _=>rfl),fun x hx=>(h.arr x hx).of_block rfl,h.v0,h.r,h.v,h.rv,h.cr,h.cv,h.a,h.aa⟩
theorem pz (P gv n:Nat) (vc va:Value) (b:Bool) (u:Value) (i:Nat) (hi:i<5):(if i=2 then u else IQ P gv n vc va b i)=IQ P gv n u va b i:=by
 match i,hi with
 |0,_=>rfl
 |1,_=>rfl
 |2,_=>rfl
 |3,_=>rfl
 |4,_=>rfl
 |n+5,h=>omega
theorem Fv.push (h:Fv w0 P l ins R gv i iv vc ga w) {o:Obj} {g2 cap2:Nat}
  (hown:w'.ownsRow w0.heap.size 24 1 (.slice (some ⟨g2,0,none⟩) (i+1) cap2) (i+1) (cellsOf l ga i++[.slice (some ⟨w.heap.size,0,none⟩) (Dh l i) (Dh l i)]))
  (hg:((w.alloc (.cells (madeCells #[.int .i64 0] (Dh l i)) 3)).alloc o).grownBy w' vc.ownBlock) (hat:vc.ownBlock=some g2∨g2=w.heap.size+2):
  Fv w0 P l ins R gv (i+1) iv (.slice (some ⟨g2,0,none⟩) (i+1) cap2) (Lk.upd ga i w.heap.size) (w'.setCell ⟨R,2,none⟩ (.slice (some ⟨g2,0,none⟩) (i+1) cap2)):=by
 have hz:=h.A8.size
 have z1:(w.alloc (.cells (madeCells #[.int .i64 0] (Dh l i)) 3)).heap.size=w.heap.size+1:=by simp
 have hR:=h.row.lt
 have hV:=h.vals.lt
 have hne: ∀ b,b<w.heap.size→vc.ownBlock≠some b→g2≠b:=by
  intro b hb hv e
  rcases hat with c|c
  ·exact hv (by rw[c,e])
  ·omega
 have hnew:vc.ownBlock≠some w.heap.size:=fun e=>by have:=(h.own.lt _ e).2;omega
 have hg2:g2≠w.heap.size:=by
  intro e
  rcases hat with c|c
  ·exact hnew (by rw[c,e])
  ·omega
 have Qd: ∀ x,x≠i→Lk.upd ga i w.heap.size x=ga x:=fun x hx=>by unfold Lk.upd;rw[if_neg hx]
 have WZ:Lk.upd ga i w.heap.size i=w.heap.size:=by unfold Lk.upd;rw[if_pos rfl]
 refine ⟨h.A8.trans (((((Below.refl w0.heap.size w).alloc hz _).alloc (by rw[z1];omega) o).grown hg (by simp;omega) (fun k hk=>(h.own.lt k hk).1)).setCell (p:=⟨R,2,none⟩) h.r _),?_,?_,?_,?_,fun e=>absurd e (by omega),h.r,h.v,h.rv,?_,?_,?_,?_⟩
 ·exact ((Ad ((h.row.alloc _).alloc _) hg h.cr).set 2 _).congr (fun j hj=>pz _ _ _ _ _ _ _ j hj)
 ·exact (Ad ((h.vals.alloc _).alloc _) hg h.cv).setOther h.rv.symm _
 ·rw[oM]
  exact BC hown (by simp[Value.ownBlock];exact hne R hR h.cr) _
 ·intro x hx
  by_cases e:x=i
  ·subst e
   rw[WZ]
   exact (Ad ((World.rowIs_made w (.int .i64 0) (Dh l x) 3).alloc _) hg hnew).setOther (by show w.heap.size≠R;omega) _
  ·rw[Qd x e]
   have Rj:x<i:=by omega
   exact (Ad (((h.arr x Rj).alloc _).alloc _) hg (h.a x Rj).2.2.2).setOther (h.a x Rj).2.1 _
 ·simp[Value.ownBlock];exact hne R hR h.cr
 ·simp[Value.ownBlock];exact hne gv hV h.cv
 ·intro x hx
  by_cases e:x=i
  ·subst e
   rw[WZ]
   exact ⟨hz,by omega,by omega,by simp[Value.ownBlock];exact hg2⟩
  ·rw[Qd x e]
   have Rj:x<i:=by omega
   obtain ⟨q1,q2,q3,q4⟩:=h.a x Rj
   exact ⟨q1,q2,q3,by simp[Value.ownBlock];exact hne _ (h.arr x Rj).lt q4⟩
 ·intro x y hx hy e
  by_cases ex:x=i
  ·by_cases ey:y=i
   ·rw[ex,ey]
   ·rw[ex,WZ,Qd y ey] at e
    have:=(h.arr y (by omega)).lt
    omega
  ·by_cases ey:y=i
   ·rw[ey,WZ,Qd x ex] at e
    have:=(h.arr x (by omega)).lt
    omega
   ·rw[Qd x ex,Qd y ey] at e
    exact h.aa x y (by omega) (by omega) e
theorem Fv.adz (h:Fv w0 P l ins R gv i iv vc ga w) {z:Nat} (hz:Dh l i=z) {o:Obj} {g2 cap2:Nat}
  (hown:w'.ownsRow w0.heap.size 24 1 (.slice (some ⟨g2,0,none⟩) (i+1) cap2) (i+1) (cellsOf l ga i++[.slice (some ⟨w.heap.size,0,none⟩) z z]))
  (hg:((w.alloc (.cells (madeCells #[.int .i64 0] z) 3)).alloc o).grownBy w' vc.ownBlock) (hat:vc.ownBlock=some g2∨g2=w.heap.size+2):
  Fv w0 P l ins R gv (i+1) iv (.slice (some ⟨g2,0,none⟩) (i+1) cap2) (Lk.upd ga i w.heap.size) (w'.setCell ⟨R,2,none⟩ (.slice (some ⟨g2,0,none⟩) (i+1) cap2)):=by
 subst hz
 exact h.push hown hg hat
theorem Fv.put (h:Fv w0 P l ins R gv i iv vc ga w) (u:Nat) (hu:Tm.BZ (A7 l) 0 ins iv=u):Fv w0 P l ins R gv i (iv+1) vc ga (w.setCell ⟨gv,iv,none⟩ (.int .i64 u)):=by
 refine ⟨h.A8.setCell h.v _,h.row.setOther h.rv _,(h.vals.set iv _).congr (fun x hx=>?_),BC h.own h.cv _,fun x hx=>(h.arr x hx).setOther (h.a x hx).2.2.1 _,h.v0,h.r,h.v,h.rv,h.cr,h.cv,h.a,h.aa⟩
 unfold TV
 by_cases e:x=iv
 ·rw[if_pos e,if_pos (by omega),e,hu]
 ·rw[if_neg e]
  by_cases c:x<iv
  ·rw[if_pos c,if_pos (by omega)]
  ·rw[if_neg c,if_neg (by omega)]
theorem Fv.skip (h:Fv w0 P l ins R gv i iv vc ga w) (hu:Tm.BZ (A7 l) 0 ins iv=0):Fv w0 P l ins R gv i (iv+1) vc ga w:=by
 refine ⟨h.A8,h.row,h.vals.congr (fun x hx=>?_),h.own,h.arr,h.v0,h.r,h.v,h.rv,h.cr,h.cv,h.a,h.aa⟩
 unfold TV
 by_cases e:x=iv
 ·rw[if_neg (by omega),if_pos (by omega),e,hu]
 ·by_cases c:x<iv
  ·rw[if_pos c,if_pos (by omega)]
  ·rw[if_neg c,if_neg (by omega)]
theorem ui {A:Nat→Prop} (h:Fv w0 P l ins R gv l.length l.length vc ga w) {al:Option Addr} {nl cl:Nat} {ts:List Rf.Tr} (hs:Sub w0 A (.slice al nl cl) ts) (ht:TsOk (A7 l) ts):
  Calls Tryz.prog 52 #[.pointer (some ⟨R,0,none⟩),.slice al nl cl] w fun e w'=>e=.returned (.tuple #[])∧ ∃ gc cc,Aj w0 w' (fun _=>False) A P l R gv gc cc ga 1 (Tm.start (A7 l) ts ins) w':=by
 have key:=gP R w0.heap.size _ (.slice none 0 0) [] al nl cl w h.row rfl (World.ownsRow_nil _ _ _ _) (by simp[Value.ownBlock]) (by simp) h.A8.size
 refine key.mono ?_
 intro e w' hh
 obtain ⟨h2,Lj,hrow,hown,hne,Ak,hnew⟩:=hh
 refine ⟨h2,?_⟩
 rcases hown.2 with ⟨_,c⟩|⟨g2,cap2,cur,hv,_⟩
 ·simp at c
 subst hv
 have hg2:w.heap.size≤g2:=by
  rcases hnew g2 rfl with c|c
  ·simp[Value.ownBlock] at c
  ·exact c
 have Dr: ∀ b,b<w.heap.size→b≠R→w'.heap[b]? =w.heap[b]? :=fun b hb hr=>Ak.keep b hb (fun e=>by
  rcases e with e|e
  ·exact hr e
  ·simp[Value.ownBlock] at e)
 have hsz:=h.A8.size
 have Cs:=h.row.lt
 have Xu:=h.vals.lt
 have AB:Below w0.heap.size w w':=(Ak.lift (base:=w0.heap.size) (fun k _ e=>by
  rcases e with e|e
  ·rw[e];exact h.r
  ·simp[Value.ownBlock] at e) hsz).A8
 obtain ⟨gc,cc,KH,TY,ahf⟩: ∃ gc cc,vc=NQ l.length gc cc∧(gc≠R∧gc≠gv∧(∀ x,x<l.length→ga x≠gc)∧(0<l.length→gc<w.heap.size))∧ ∀ x,x<l.length→w.cell? ⟨gc,x,none⟩=some (.slice (some ⟨ga x,0,none⟩) (Dh l x) (Dh l x)):=by
  by_cases h0:l.length=0
  ·refine ⟨R+gv+1,0,?_,⟨by omega,by omega,fun x hx=>absurd hx (by omega),fun c=>absurd c (by omega)⟩,fun x hx=>absurd hx (by omega)⟩
   unfold NQ
   rw[if_pos h0]
   exact h.v0 h0
  ·rcases h.own.2 with ⟨_,c⟩|⟨gc,cc,cur,hv,_⟩
   ·omega
   ·subst hv
    refine ⟨gc,cc,?_,⟨fun e=>h.cr (by rw[←e];rfl),fun e=>h.cv (by rw[←e];rfl),fun x hx e=>(h.a x hx).2.2.2 (by rw[e];rfl),fun _=>(h.own.lt gc rfl).2⟩,fun x hx=>?_⟩
    ·unfold NQ
     rw[if_neg h0]
    ·rw[h.own.cellAt x (by omega)]
     unfold cellsOf
     simp[hx]
 obtain ⟨q1,q2,q3,q4⟩:=TY
 refine ⟨gc,cc,h.A8.trans AB,fun k hk=>hk.elim,⟨fun k hk=>hk.elim,fun k i hk=>hk.elim,fun k hk=>hk.elim,h.r,h.v,fun i hi=>(h.a i hi).1,h.rv,q1.symm,q2.symm,fun i hi=>(h.a i hi).2.1,fun i hi=>(h.a i hi).2.2.1,q3,h.aa⟩,
  ⟨[⟨al,nl,cl,0⟩],g2,cap2,?_,?_,fun hF=>hF,by omega,by omega,fun h0=>by have:=q4 h0;omega,fun i hi=>by have:=(h.arr i hi).lt;omega,?_,Nat.le_refl _⟩,?_,fun i hi=>?_,fun i hi=>?_⟩
 ·rw[←KH]
  exact hrow.congr (fun i hi=>Z8 _ _ _ _ _ _ _ i hi)
 ·exact hown
 ·exact .cons ⟨rfl,Nat.zero_le _,hs,ht⟩ .nil
 ·refine (h.vals.of_block (Dr _ Xu h.rv.symm)).congr (fun x hx=>?_)
  unfold TV
  rw[if_pos hx]
  rfl
 ·exact (World.cell?_of_block (Dr gc (q4 (by omega)) q1)).trans (ahf i hi)
 ·exact (h.arr i hi).of_block (Dr _ (h.arr i hi).lt (h.a i hi).2.1)
end
open Tm (TsOk DsOk Wd16)
def ME (ds:List Rf.Dc) (m:Tm.M) (k:Nat):List Nat:=(List.range k).map (Tm.num ds m)
theorem fP (ds:List Rf.Dc) (m:Tm.M) (k:Nat):ME ds m (k+1)=ME ds m k++[Tm.num ds m k]:=by
 unfold ME
 rw[List.range_succ,List.map_append]
 rfl
theorem lY {ds:List Rf.Dc} {m:Tm.M} (h:Wd16 m): ∀ n,Wd16 (Tm.st ds m n)
 |0=>h
 |n+1=>(lY h n).step
theorem yf {w0:World} {base P:Nat} {l:List DB} {vn vk vz vb:Value} (h:Ae w0 base P l vn vk vz vb) {i:Nat} (hi:i<l.length): ∃ g c,vz=.slice (some ⟨g,0,none⟩) l.length c∧w0.cell? ⟨g,i,none⟩=some (.int .i64 (Dh l i)):=by
 rcases h.sz.2 with ⟨_,c⟩|⟨g,c,cur,hv,_⟩
 ·omega
 ·refine ⟨g,c,hv,?_⟩
  have hk:=h.sz
  rw[hv] at hk
  rw[hk.cellAt i (by omega)]
  simp[hi,Dh,CS]
theorem uj (w0:World) (P:Nat) (l:List DB) (ins:List Nat):
  Fv w0 P l ins (w0.heap.size+1) w0.heap.size 0 0 (.slice none 0 0) (fun _=>0) ((w0.alloc (.cells (madeCells #[.int .i64 0] l.length) 3)).alloc (.cells #[.pointer (some ⟨P,0,none⟩),.slice (some ⟨w0.heap.size,0,none⟩) l.length l.length,.slice none 0 0,.slice none 0 0,.bool false] 127)):=by
 have z1:(w0.alloc (.cells (madeCells #[.int .i64 0] l.length) 3)).heap.size=w0.heap.size+1:=by simp
 have hrow:=World.rowIs_alloc (w0.alloc (.cells (madeCells #[.int .i64 0] l.length) 3)) #[.pointer (some ⟨P,0,none⟩),.slice (some ⟨w0.heap.size,0,none⟩) l.length l.length,.slice none 0 0,.slice none 0 0,.bool false] 127 (IQ P w0.heap.size l.length (.slice none 0 0) (.slice none 0 0) false) (fun i hi=>by
  match i,hi with
  |0,_=>rfl
  |1,_=>rfl
  |2,_=>rfl
  |3,_=>rfl
  |4,_=>rfl
  |n+5,h=>exact absurd (show n+5<5 from h) (by omega))
 rw[z1] at hrow
 refine ⟨((Below.refl _ _).alloc (Nat.le_refl _) _).alloc (by rw[z1];omega) _,hrow,((World.rowIs_made w0 (.int .i64 0) l.length 3).alloc _).congr (fun i hi=>?_),World.ownsRow_nil _ _ _ _,fun x hx=>absurd hx (by omega),fun _=>rfl,by omega,Nat.le_refl _,by omega,by simp[Value.ownBlock],by simp[Value.ownBlock],fun x hx=>absurd hx (by omega),fun x y hx=>absurd hx (by omega)⟩
 unfold TV
 rw[if_neg (by omega)]
 rfl
theorem jN {w:World} {R i:Nat} {u:Value} {a:Addr} {v:Value} (h:(w.setCell ⟨R,i,none⟩ u).cell? a=some v) (hne:a.block≠R):w.cell? a=some v:=
 (World.cell?_of_block (Below.heap_setCell w ⟨R,i,none⟩ u a.block hne)).symm.trans h
theorem uk {w0:World} {base P:Nat} {l:List DB} {vn vk vz vb:Value} (rep:Ae w0 base P l vn vk vz vb) (hl:l.length≤1000) (hok:DsOk (A7 l)) {A:Nat→Prop} {ts:List Rf.Tr} (hs:Sub w0 A vb ts) (ht:TsOk (A7 l) ts) (ins:List Nat) (C9: ∀ x∈ins,x<16) (hlen:ins.length=((A7 l).filter Tm.Bc).length) (vi:Value) (hi:BB w0 vi (ints ins)) (k:Nat) (hk:k≤10):
  Calls Tryz.prog 23 #[.pointer (some ⟨P,0,none⟩),vi,.int .i64 k] w0 fun e w'=> ∃ a c,e=.returned (.slice a k c)∧w'.ownsRow w0.heap.size 3 1 (.slice a k c) k ((ME (A7 l) (Tm.start (A7 l) ts ins) k).map fun (n:Nat)=>.int .i64 n)∧Below w0.heap.size w0 w':=by
 obtain ⟨t0,ht0,hz0,hz1,hz2⟩:=info_parts Tryz.Ds
 obtain ⟨u0,LX,hy0,hy1,hy2⟩:=info_parts Tryz.Ye
 have PSx:Hid (PS w0 P l):=⟨⟨base,vn,vk,vz,vb,rep⟩,hl,hok⟩
 have nL: ∀ i,i<l.length→Dh l i≤4:=fun i hx=>(hok _ (ach hx)).2.1
 have HS4:=hid nL
 obtain ⟨an,cn,en⟩:=AX rep.nm
 obtain ⟨ak,ck,ek⟩:=AX rep.kd
 obtain ⟨az,cz,ez⟩:=AX rep.sz
 obtain ⟨al,nl,cl,eb⟩:=SZ hs
 obtain ⟨ai,ci,ei⟩:=hi.val
 rw[Il] at ei
 have HI:=hid hi
 have Xk:=hid rep
 have ahg:=hid hs
 have HT:=hid ht
 have H16:=hid (Wd16.start (A7 l) ts ins C9)
 have HLEN:=hid hlen
 have p0:=rep.row.cell (i:=0) (by omega)
 have p1:=rep.row.cell (i:=1) (by omega)
 have p2:=rep.row.cell (i:=2) (by omega)
 have p3:=rep.row.cell (i:=3) (by omega)
 rw[show Cu vn vk vz vb 0=vn from rfl] at p0
 rw[show Cu vn vk vz vb 1=vk from rfl] at p1
 rw[show Cu vn vk vz vb 2=vz from rfl] at p2
 rw[show Cu vn vk vz vb 3=vb from rfl] at p3
 clear hi rep hs ht C9 hlen hok nL
 subst en ek ez eb ei
 have Rb:=World.block_lt_of_cell? w0 _ p0
 have P0:=hid p0
 have P1:=hid p1
 have P2:=hid p2
 have P3:=hid p3
 have DL:(l.length:Int)≤1000:=by omega
 have JX:(k:Int)≤10:=by omega
 go_enter Tryz.func23,Tryz.ntmps23
 go_wp2_with (first
  |(at_make;refine wpList_make_row _ rfl _ _ 24 rfl 3 t0 (.int .i64 0) Tryz.underlying24 ht0 hz0 hz1 rfl .i64 .i64 l.length rfl rfl (by rw[hz2];omega) (by omega) ?_))
 go_loopw [8,9] (fun jv iv wr=> ∃ (i:Nat) (vc:Value) (ga:Nat→Nat),i≤l.length∧iv=.int .i64 i∧jv=.int .i64 (FU (A7 l) i)∧Fv w0 P l ins (w0.heap.size+1) w0.heap.size i i vc ga wr) (fun _ iv _=>l.length - (intOf iv).toNat)
 case atStart=>exact ⟨0,.slice none 0 0,fun _=>0,Nat.zero_le _,rfl,by rw[jM];rfl,uj w0 P l ins⟩
 case round=>
  obtain ⟨i,vc,ga,hil,rfl,rfl,NS⟩:=hrel
  have HN:=hid NS
  have AB:=NS.A8
  have hz:=AB.size
  have Cs:=NS.row.lt
  have Xu:=NS.vals.lt
  have r2:=NS.row.cell (i:=2) (by omega)
  rw[show IQ P w0.heap.size l.length vc (.slice none 0 0) false 2=vc from rfl] at r2
  have q0:=(World.cell?_of_block (AB.block P Rb)).trans P0.out
  obtain ⟨av,cvv,ev⟩:=AX NS.own
  subst ev
  by_cases hlt:i<l.length
  ·have q1:=(World.cell?_of_block (AB.block P Rb)).trans P1.out
   have q2:=(World.cell?_of_block (AB.block P Rb)).trans P2.out
   obtain ⟨gk,ck',ek',hkc⟩:=iw Xk.out hlt
   obtain ⟨gz,cz',ez',hzc⟩:=yf Xk.out hlt
   cases ek'
   cases ez'
   have Ba:=World.block_lt_of_cell? w0 _ hkc
   have hgz:=World.block_lt_of_cell? w0 _ hzc
   have kc:=(World.cell?_of_block (AB.block gk Ba)).trans hkc
   have zc:=(World.cell?_of_block (AB.block gz hgz)).trans hzc
   have PO:=HS4.out i hlt
   have G0:(i:Int)<(l.length:Int):=by omega
   obtain ⟨z,hzz⟩: ∃ z,Dh l i=z:=⟨_,rfl⟩
   rw[hzz] at zc PO
   have HZ:=hid hzz
   clear hzz
   have hmk: ∀ w:World,(Instr.makeSlice 24 (.int .i64 (z:Int)) (.int .i64 (z:Int))).run Tryz.prog w=.ok (.slice (some ⟨w.heap.size,0,none⟩) z z) (w.alloc (.cells (madeCells #[.int .i64 0] z) 3)):=fun w=>run_make_row' 24 3 (.int .i64 0) 8 Tryz.underlying24 Tryz.Ds rfl .i64 .i64 z (by omega) (by omega) w
   have KC:=hid hkc
   clear hkc hzc
   have nM:((wr.alloc (.cells (madeCells #[.int .i64 0] z) 3)).alloc (.cells #[.slice (some ⟨wr.heap.size,0,none⟩) z z] 24)).heap[wr.heap.size+1]? =some (.cells #[.slice (some ⟨wr.heap.size,0,none⟩) z z] 24):=by
    have h:=heap_alloc_new (wr.alloc (.cells (madeCells #[.int .i64 0] z) 3)) (.cells #[.slice (some ⟨wr.heap.size,0,none⟩) z z] 24)
    simpa using h
   have nN:=hid nM
   clear nM
   have hiN:(i:Int)≤1000:=by omega
   clear NS
   go_wp2_with fail
   go_cut [10] from 23 to 79 (fun sv wc=> ∃ g2 cap2 Uy,sv=.slice (some ⟨g2,0,none⟩) (i+1) cap2∧wc.rowIs (w0.heap.size+1) 127 5 (IQ P w0.heap.size l.length (.slice av i cvv) (.slice none 0 0) false)∧Fv w0 P l ins (w0.heap.size+1) w0.heap.size (i+1) i (.slice (some ⟨g2,0,none⟩) (i+1) cap2) Uy (wc.setCell ⟨w0.heap.size+1,2,none⟩ (.slice (some ⟨g2,0,none⟩) (i+1) cap2)))
   case first=>
    go_region_law
     ((refine step_append_lies _ (by rfl) _ _ _ (by rfl) w0.heap.size 24 u0 _ 1 24 Tryz.underlying34 LX hy0 hy1 hy2 rfl (by omega) _ i (cellsOf l ga i) (by rfl) (((World.ownsRow.alloc HN.out.own _).alloc _).drew) ⟨wr.heap.size+1,0,none⟩ 1 1 [.slice (some ⟨wr.heap.size,0,none⟩) z z] (by rfl) (by rfl) (World.news_of_block (cs:= #[.slice (some ⟨wr.heap.size,0,none⟩) z z]) (t:=24) (fr:=(0,0)) nN.out) (by simp[Value.oneCell']) (by omega) (by unfold maxLen;omega) (by omega) (by simp;omega) (wr.heap.size+2) (by simp) ?_;intro g1 p1 x1 hown1 hgrow1 CT Bk))
    all_goals
     go_wp2_with fail
     go_meet
     exact ⟨g1,p1,Lk.upd ga i wr.heap.size,rfl,Ad (((HN.out.row.alloc _).alloc _).drew) hgrow1 HN.out.cr,HN.out.adz HZ.out hown1 ⟨hgrow1.os,hgrow1.tape,hgrow1.output,hgrow1.size,hgrow1.block⟩ CT⟩
   case rest=>
    obtain ⟨g2,cap2,Uy,rfl,hrow,hI⟩:=hcut
    clear hmk nN HZ PO r2 q0 q1 q2 kc zc HN AB Cs Xu hz
    have Jx:=hid hrow
    have E4:=hid hI
    have Cs:=hrow.lt
    have bk: ∀ a v,w0.cell? a=some v→wc.cell? a=some v:=fun a v h=>jN (i:=2) (u:=.slice (some ⟨g2,0,none⟩) (i+1) cap2) ((World.cell?_of_block (hI.A8.block a.block (World.block_lt_of_cell? w0 a h))).trans h) (fun e=>by have:=World.block_lt_of_cell? w0 a h;omega)
    have q1:=bk _ _ P1.out
    have kc:=bk _ _ KC.out
    have r2:=hrow.cell (i:=2) (by omega)
    have f2:=hrow.frozen 2
    have r1:=hrow.cell (i:=1) (by omega)
    rw[show IQ P w0.heap.size l.length (.slice av i cvv) (.slice none 0 0) false 1=.slice (some ⟨w0.heap.size,0,none⟩) l.length l.length from rfl] at r1
    have Xu:w0.heap.size<wc.heap.size:=by have:=hI.vals.lt;simpa using this
    have v1:=jN (hI.vals.cell hlt) (by show w0.heap.size≠w0.heap.size+1;omega)
    have v2:wc.frozen? ⟨w0.heap.size,i,none⟩=false:=(World.frozen?_of_block (a:=⟨w0.heap.size,i,none⟩) (Below.heap_setCell wc ⟨w0.heap.size+1,2,none⟩ _ w0.heap.size (by show w0.heap.size≠w0.heap.size+1;omega))).symm.trans (hI.vals.frozen i)
    obtain ⟨h',lZ⟩: ∃ h':i<(A7 l).length,Tm.Bc (A7 l)[i]=((CS l i).kind.toList==[115,101,99,114,101,116]||(CS l i).kind.toList==[112,117,98,108,105,99]):=⟨(at_dc hlt).1,fG hlt _⟩
    have hsc:=ye h'
    have hat:=aB (A7 l) 0 ins i h'
    have hle:=acm (A7 l) (i+1)
    rw[Nat.zero_add] at hat
    rw[lZ] at hsc hat
    have Hz:=hid hle
    generalize (CS l i).kind=kb at kc hsc hat KC
    have BK:=hid bk
    clear hle lZ hrow hI bk KC
    generalize hj:FU (A7 l) i=j at hsc hat ⊢
    have MU:=hid hsc
    have DM:=hid hat
    clear hj hsc hat
    cases hs:(kb.toList==[115,101,99,114,101,116]) with
    |true=>
     have Uz:FU (A7 l) (i+1)=j+1:=by rw[MU.out];simp[hs]
     have hx0:Tm.BZ (A7 l) 0 ins i=ins.getD j 0:=by rw[DM.out];simp[hs]
     have hjl:j<ins.length:=by have h1:=Hz.out;have h2:=HLEN.out;omega
     obtain ⟨gi,off,ci',hv,Mo⟩:=HI.out.at_ j (by rw[Il];exact hjl)
     have hgi:gi<w0.heap.size:=World.block_lt_of_cell? w0 _ Mo
     have KZ:gi≠w0.heap.size+1:=by omega
     have hai:=(slice_inj hv).1
     subst hai
     rw[ints_at] at Mo
     have ic:=BK.out _ _ Mo
     clear Mo hv
     generalize ins.getD j 0=x at hx0 ic
     have V4:=hid hx0
     have V5:=hid Uz
     have XS:(j:Int)<(ins.length:Int):=by omega
     have hjJ:(j:Int)+1≤1000:=by have h1:=Hz.out;have h2:=HLEN.out;have h3:=(List.filter_sublist (p:=Tm.Bc) (l:=A7 l)).length_le;have h4:(A7 l).length=l.length:=(by simp[A7]);omega
     clear hx0 Uz
     go_wp2_with fail
     go_region
     all_goals go_wp2_with fail
     all_goals go_roundw
     case rel=>
      exact ⟨i+1,.slice (some ⟨g2,0,none⟩) (i+1) cap2,Uy,by omega,by go_num,by rw[V5.out];go_num,(E4.out.put x V4.out).drew 1⟩
     case measure=>simp[intOf];omega
    |false=>
    cases hp:(kb.toList==[112,117,98,108,105,99]) with
    |true=>
     have Uz:FU (A7 l) (i+1)=j+1:=by rw[MU.out];simp[hs,hp]
     have hx0:Tm.BZ (A7 l) 0 ins i=ins.getD j 0:=by rw[DM.out];simp[hs,hp]
     have hjl:j<ins.length:=by have h1:=Hz.out;have h2:=HLEN.out;omega
     obtain ⟨gi,off,ci',hv,Mo⟩:=HI.out.at_ j (by rw[Il];exact hjl)
     have hgi:gi<w0.heap.size:=World.block_lt_of_cell? w0 _ Mo
     have KZ:gi≠w0.heap.size+1:=by omega
     have hai:=(slice_inj hv).1
     subst hai
     rw[ints_at] at Mo
     have ic:=BK.out _ _ Mo
     clear Mo hv
     generalize ins.getD j 0=x at hx0 ic
     have V4:=hid hx0
     have V5:=hid Uz
     have XS:(j:Int)<(ins.length:Int):=by omega
     have hjJ:(j:Int)+1≤1000:=by have h1:=Hz.out;have h2:=HLEN.out;have h3:=(List.filter_sublist (p:=Tm.Bc) (l:=A7 l)).length_le;have h4:(A7 l).length=l.length:=(by simp[A7]);omega
     clear hx0 Uz
     go_wp2_with fail
     go_region
     all_goals go_wp2_with fail
     all_goals go_roundw
     case rel=>
      exact ⟨i+1,.slice (some ⟨g2,0,none⟩) (i+1) cap2,Uy,by omega,by go_num,by rw[V5.out];go_num,(E4.out.put x V4.out).drew 1⟩
     case measure=>simp[intOf];omega
    |false=>
     have V5:=hid (show FU (A7 l) (i+1)=j by rw[MU.out];simp[hs,hp])
     have V4:=hid (show Tm.BZ (A7 l) 0 ins i=0 by rw[DM.out];simp[hs,hp])
     go_wp2_with fail
     go_roundw
     case rel=>exact ⟨i+1,.slice (some ⟨g2,0,none⟩) (i+1) cap2,Uy,by omega,by go_num,by rw[V5.out],E4.out.skip V4.out⟩
     case measure=>simp[intOf];omega
  ·have hie:i=l.length:=by omega
   subst hie
   have q3:=(World.cell?_of_block (AB.block P Rb)).trans P3.out
   clear NS AB
   go_wp2_with (first
    |(go_at_call 52;refine (ui HN.out ahg.out HT.out).mono ?_;rintro e w1 ⟨rfl,gc,cc,hr1⟩;have Aw:=hid hr1;clear hr1))
   go_loopw [11,12] (fun v c wq=> ∃ n:Nat,n≤k∧c=.int .i64 n∧(∃ (wf:World) (F:Nat→Prop),(∀ b,v.ownBlock=some b→F b)∧Aj w0 wf F A P l (w0.heap.size+1) w0.heap.size gc cc ga (1+2*n) (Tm.st (A7 l) (Tm.start (A7 l) ts ins) n) wq)∧wq.ownsRow w0.heap.size 3 1 v n ((ME (A7 l) (Tm.start (A7 l) ts ins) n).map fun (n:Nat)=>.int .i64 n)) (fun _ c _=>k - (intOf c).toNat)
   case atStart=>exact ⟨0,Nat.zero_le _,rfl,⟨w1,fun _=>False,fun b e=>by simp[Value.ownBlock] at e,Aw.out⟩,World.ownsRow_nil _ _ _ _⟩
   case round=>
    obtain ⟨n,hnk,rfl,⟨wf,F,hF,hr⟩,hown⟩:=hrel
    obtain ⟨ao,co,eo⟩:=AX hown
    subst eo
    have HR:=hid hr
    have HF:=hid hF
    have HOWN:=hid hown
    have hzw:=hr.A8.size
    by_cases Om:n<k
    ·clear hr hF hown
     obtain ⟨x,hx⟩: ∃ x,Tm.num (A7 l) (Tm.start (A7 l) ts ins) n=x:=⟨_,rfl⟩
     have HX:=hid hx
     clear hx
     go_wp2_with (first
      |(go_at_call 53;refine (yc HR.out PSx.out (lY H16.out n) (by omega)).mono ?_;rintro e w2 ⟨he2,hr2⟩;have KJ:e=.returned (.int .i64 ((Tm.num (A7 l) (Tm.start (A7 l) ts ins) n:Nat):Int)):=he2;rw[HX.out] at KJ;subst KJ;have AU:=hid hr2;have hown2:=BP HOWN.out (fun b e=>(hr2.JI b (HF.out b e)).2.trans (HR.out.JI b (HF.out b e)).2.symm);have lg:=hid hown2;have z2:=hr2.A8.size;clear hr2 hown2 he2)
      |(at_builtin;refine wpList_append_lies _ rfl _ _ 24 rfl w0.heap.size 3 t0 _ 1 8 Tryz.underlying24 ht0 hz0 hz1 hz2 rfl (by omega) _ n ((ME (A7 l) (Tm.start (A7 l) ts ins) n).map fun (n:Nat)=>.int .i64 n) rfl (lg.out.alloc _) ⟨w2.heap.size,0,none⟩ 1 1 [.int .i64 x] rfl rfl (cell_one_new _ _ _) (by simp[Value.oneCell']) (by omega) (by unfold maxLen;omega) (by omega) (by simp;omega) (w2.heap.size+1) (by simp) ?_;intro g2 cap2 w3 Fy hgrow hat Qi))
     go_roundw
     case rel=>
      refine ⟨n+1,by omega,by go_num,⟨w3,fun b=>(Value.slice (some ⟨g2,0,none⟩) (n+1) cap2).ownBlock=some b,fun b e=>e,(Aj.swap AU.out ?_ ?_ ?_).up (by omega)⟩,?_⟩
      ·exact ((Below.refl w0.heap.size w2).alloc (by omega) _).grown hgrow (by simp;omega) (fun q hq=>(lg.out.lt q hq).1)
      ·intro b hb hn
       exact (hgrow.block b (by simp;omega) (fun e=>hn (HF.out b e.symm))).trans (Below.heap_alloc w2 _ b hb)
      ·intro b hb
       refine ⟨(Fy.lt b hb).2,?_⟩
       have e:g2=b:=by simpa[Value.ownBlock] using hb
       subst e
       rcases hat with c|c
       ·exact .inl (HF.out _ c)
       ·exact .inr (by omega)
      ·rw[fP,List.map_append,HX.out]
       exact Fy
     case measure=>simp[intOf];omega
    ·have aX:n=k:=by omega
     subst aX
     clear hr hF hown
     go_wp2_with fail
     go_ret
     exact ⟨_,_,rfl,HOWN.out,HR.out.A8⟩
open Tm (TsOk DsOk Wd16)
theorem abO {t:Lk.Wd} {ds:List Rf.Dc} {ts:List Rf.Tr} (h:Rf.read t=(some (ds,ts),0)) (ht:t.length≤600):TsOk ds ts∧DsOk ds∧ds.length≤1000:=by
 obtain ⟨s,hb,rfl⟩:=Tm.Z4 h
 have h1:=(Tm.acg hb .nil (fun _=>rfl)).1
 have h2:=Tm.uQ hb (fun d hd=>by cases hd)
 have hne:0<(Lk.cut 10 t).length:=by
  have:=Lk.Ip 10 t
  cases hc:Lk.cut 10 t with
  |nil=>exact absurd hc this
  |cons x xs=>simp
 have h3:=(Rf.JL (Lk.cut 10 t) (Lk.cut 10 t).length 0 {} hne (Nat.zero_le _) (Nat.le_add_left _ _)).lt
 have h4:=(Rf.Rv (Lk.cut 10 t) (Lk.cut 10 t).length 0 {} []).2
 rw[hb] at h4
 rw[←h4] at h3
 have h5:=(ZR 10 t).1
 have h6:s.ds.length+0≤0+s.at_:=h2.2
 have h7:s.at_<(Lk.cut 10 t).length:=h3
 exact ⟨h1,h2.1,by omega⟩
theorem yg {t:Lk.Wd} {ds:List Rf.Dc} {ts:List Rf.Tr} (h:(Lk.read t).2=0) (hr:Rf.read t=(some (ds,ts),0)) (ins:List Nat) (hi:ins.length=(Lk.read t).1.Ah.length) (k:Nat):Mc.tells (Fb t) (Mc.BZ ins) k=ME ds (Tm.start ds ts ins) k:=by
 induction k with
 |zero=>rfl
 |succ k ih=>rw[Mc.eM,fP,ih,Tm.yX h hr ins hi]
theorem ZA {w:World} {base:Nat} {v:Value} {l:List Nat} {n:Nat} (h:w.ownsRow base 3 1 v n (l.map fun (n:Nat)=>.int .i64 n)):w.ownsRow base 3 1 v (ints l).length ((ints l).map fun x=>.int .i64 x):=by
 have hl:l.length=n:=by have h1:=h.1;simpa using h1
 rw[Il,hl]
 unfold ints
 rw[List.map_map]
 exact h
theorem abP {w w':World} {A:Nat→Prop} {v:Value} {ts:List Rf.Tr} (h:Sub w A v ts) (hA: ∀ k,A k→k<w.heap.size) (hb:Below w.heap.size w w'):Sub w' A v ts:=h.move (fun k hk=>⟨hb.block k (hA k hk),hk⟩)
structure Two (B:Nat) (w1 w:World) (n:Nat) (a b:List Nat) (va vb:Value):Prop where
 A8:Below w1.heap.size w1 w
 oa:w.ownsRow w1.heap.size 3 1 va n (a.map fun (n:Nat)=>.int .i64 n)
 ob:w.ownsRow w1.heap.size 3 1 vb n (b.map fun (n:Nat)=>.int .i64 n)
 ne:va.ownBlock=none∨va.ownBlock≠vb.ownBlock
theorem Two.first {B n:Nat} {w1 w w':World} {a b:List Nat} {va vb:Value} (h:Two B w1 w n a b va vb) {o:Obj} {x g2 cap2:Nat} (hown:w'.ownsRow w1.heap.size 3 1 (.slice (some ⟨g2,0,none⟩) (n+1) cap2) (n+1) ((a++[x]).map fun (n:Nat)=>.int .i64 n)) (hg:(w.alloc o).grownBy w' va.ownBlock) (hat:va.ownBlock=some g2∨g2=w.heap.size+1):
  Below w1.heap.size w1 w'∧w'.ownsRow w1.heap.size 3 1 vb n (b.map fun (n:Nat)=>.int .i64 n)∧vb.ownBlock≠some g2∧w.heap.size<w'.heap.size:=by
 have hz:=h.A8.size
 have z1:(w.alloc o).heap.size=w.heap.size+1:=by simp
 have hs:=hg.size
 rw[z1] at hs
 refine ⟨(h.A8.alloc hz o).grown hg (by rw[z1];omega) (fun q hq=>(h.oa.lt q hq).1),BP h.ob (fun k e=>?_),fun e=>?_,by omega⟩
 ·have hk:=(h.ob.lt k e).2
  refine (hg.block k (by rw[z1];omega) (fun c=>?_)).trans (Below.heap_alloc w o k hk)
  rcases h.ne with c2|c2
  ·rw[c2] at c;cases c
  ·exact c2 (by rw[←c,e])
 ·have hk:=(h.ob.lt g2 e).2
  rcases hat with c|c
  ·rcases h.ne with c2|c2
   ·rw[c2] at c;cases c
   ·exact c2 (by rw[c,e])
  ·omega
theorem jO {n:Nat} {w1 w w3 w4:World} {a b a' b':List Nat} {vb:Value} {x g2 cap2 g4 D4:Nat} {xs:List Value} {o:Obj} (hf:Below w1.heap.size w1 w3∧w3.ownsRow w1.heap.size 3 1 vb n (b.map fun (n:Nat)=>.int .i64 n)∧vb.ownBlock≠some g2∧w.heap.size<w3.heap.size)
  (ho:w3.ownsRow w1.heap.size 3 1 (.slice (some ⟨g2,0,none⟩) (n+1) cap2) (n+1) xs) (ea:a'=a) (eb:b'=b++[x]) (hxs:xs=a.map fun (n:Nat)=>.int .i64 n)
  (hown:w4.ownsRow w1.heap.size 3 1 (.slice (some ⟨g4,0,none⟩) (n+1) D4) (n+1) ((b++[x]).map fun (n:Nat)=>.int .i64 n)) (hg:(w3.alloc o).grownBy w4 vb.ownBlock) (hat:vb.ownBlock=some g4∨g4=w3.heap.size+1):
  Two 0 w1 w4 (n+1) a' b' (.slice (some ⟨g2,0,none⟩) (n+1) cap2) (.slice (some ⟨g4,0,none⟩) (n+1) D4):=by
 subst ea eb hxs
 have z1:(w3.alloc o).heap.size=w3.heap.size+1:=by simp
 have hz:=hf.1.size
 have hg2:=(ho.lt g2 rfl).2
 refine ⟨(hf.1.alloc hz o).grown hg (by rw[z1];omega) (fun q hq=>(hf.2.1.lt q hq).1),BP ho (fun k e=>?_),hown,.inr (fun e=>?_)⟩
 ·have e:g2=k:=by simpa[Value.ownBlock] using e
  subst e
  exact (hg.block g2 (by rw[z1];omega) (fun c=>hf.2.2.1 c.symm)).trans (Below.heap_alloc w3 o g2 hg2)
 ·have e:g2=g4:=by simpa[Value.ownBlock] using e
  rcases hat with c|c
  ·exact hf.2.2.1 (by rw[c,e])
  ·omega
open Tm (TsOk DsOk Wd16)
structure Rk (w:World) (P:Nat) (p:Pg):Prop where
 sec: ∀ W,Below w.heap.size w W→Calls Tryz.prog 22 #[.pointer (some ⟨P,0,none⟩)] W fun e w'=> ∃ ao co,e=.returned (.slice ao p.sec.length co)∧w'.ownsRow W.heap.size 4 1 (.slice ao p.sec.length co) p.sec.length (p.sec.map Value.bool)∧Below W.heap.size W w'
 inp: ∀ W,Below w.heap.size w W→Calls Tryz.prog 27 #[.pointer (some ⟨P,0,none⟩)] W fun e w'=>e=.returned (.int .i64 (Cl.AK p.sec:Nat))∧Below W.heap.size W w'
 lit: ∀ W,Below w.heap.size w W→ ∀ a b va vb,L8 p.sec a b→BB W va (ints a)→BB W vb (ints b)→Calls Tryz.prog 54 #[.pointer (some ⟨P,0,none⟩),va,vb] W fun e w'=> ∃ ao co,e=.returned (.slice ao (Cl.AK p.sec) co)∧BB w' (.slice ao (Cl.AK p.sec) co) (FX p.sec a b)∧Below W.heap.size W w'
 tls: ∀ W,Below w.heap.size w W→ ∀ a va k,k≤10→L8 p.sec a a→BB W va (ints a)→Calls Tryz.prog 23 #[.pointer (some ⟨P,0,none⟩),va,.int .i64 (k:Nat)] W fun e w'=> ∃ ao co,e=.returned (.slice ao k co)∧BB w' (.slice ao k co) (ints (Mc.tells p (Mc.BZ a) k))∧Below W.heap.size W w'
theorem Rk.later {w w':World} {P:Nat} {p:Pg} (h:Rk w P p) (hb:Below w.heap.size w w'):Rk w' P p:=
 have z:=hb.size
 ⟨fun W h1=>h.sec W (hb.trans (h1.mono z)),fun W h1=>h.inp W (hb.trans (h1.mono z)),fun W h1=>h.lit W (hb.trans (h1.mono z)),fun W h1=>h.tls W (hb.trans (h1.mono z))⟩
theorem acn {w5 w:World} {t:Lk.Wd} {ds:List Rf.Dc} {ts:List Rf.Tr} (hp:QZ w5 w ds ts) (h0:(Lk.read t).2=0) (hr:Rf.read t=(some (ds,ts),0)) (ht:t.length≤600):Rk w w5.heap.size (Fb t):=by
 obtain ⟨l,vn,vk,vz,vb,rfl,rep,sub⟩:=hp
 obtain ⟨tok,dok,dl⟩:=abO hr ht
 have hl:l.length≤1000:=by simpa[A7] using dl
 have nr:=(Tm.gI h0 hr).2
 have Wx:G6 (A7 l)=(Fb t).sec:=nr.sec.symm
 have h3:(Fb t).sec.length≤3:=(Vv t).sec
 refine ⟨fun W hb=>?_,fun W hb=>?_,fun W hb a b va vb pk ia ib=>?_,fun W hb a va k hk pk ia=>?_⟩
 ·have:=Y6 (VY rep hb) hl
  rw[Wx] at this
  exact this
 ·exact qp (VY rep hb) hl _ Wx h3
 ·exact uH (VY rep hb) hl _ Wx h3 a b va vb ia ib pk.la pk.lb pk.H_ pk.Kk
 ·have C9: ∀ x∈a,x<16:=fun x hx=>by
   obtain ⟨i,hi,rfl⟩:=List.mem_iff_getElem.1 hx
   have:=pk.H_ i
   rw[List.getD_eq_getElem?_getD,List.getElem?_eq_getElem hi] at this
   exact this
  have hlen:a.length=((A7 l).filter Tm.Bc).length:=by rw[pk.la, ←Wx];unfold G6;rw[List.length_map]
  have te:Mc.tells (Fb t) (Mc.BZ a) k=ME (A7 l) (Tm.start (A7 l) ts a) k:=yg h0 hr a (by rw[pk.la];rfl) k
  refine (uk (VY rep hb) hl dok (abP sub (fun q hq=>hq.2) hb) tok a C9 hlen va ia k hk).mono ?_
  rintro e w' ⟨ao,co,rfl,ho,hb'⟩
  have hle:(ME (A7 l) (Tm.start (A7 l) ts a) k).length=k:=by have:=ho.1;simpa using this
  rw[←te] at ho hle
  have ho:=ZA ho
  rw[Il,hle] at ho
  refine ⟨ao,co,rfl,BB.Od (by rw[Il,hle];exact ho),hb'⟩
theorem yi (y:Nat) (hy:y<2147484000) (w:World):Calls Tryz.prog 29 #[.int .i64 (y:Nat)] w fun e w'=> ∃ z:Nat,e=.returned (.int .i64 (z:Nat))∧z<2147483648∧w'=w:=by
 have h1:(0:Int)≤(y:Int):=by omega
 have h2:(y:Int)<2147484000:=by omega
 go_enter Tryz.func29,Tryz.ntmps29
 go_wp2_with fail
 go_ret
 exact ⟨(y*1103515245+12345)%2147483648,IK (by omega),Nat.mod_lt _ (by decide),rfl⟩
theorem ZB (y:Int) (h1:0≤y) (h2:y<2147484000) (w:World):Calls Tryz.prog 29 #[.int .i64 y] w fun e w'=> ∃ z:Nat,e=.returned (.int .i64 (z:Nat))∧z<2147483648∧w'=w:=by
 obtain ⟨n,rfl⟩: ∃ n:Nat,y=(n:Int):=⟨y.toNat,by omega⟩
 exact yi n (by omega) w
structure Qh (S:List Bool) (n:Nat) (a b:List Nat):Prop where
 la:a.length=n
 lb:b.length=n
 H_: ∀ i,a.getD i 0<16
 Kk: ∀ i,b.getD i 0<16
 ag: ∀ i,i<n→S.getD i false=false→a.getD i 0=b.getD i 0
theorem WE (a:List Nat) (v i:Nat):(a++[v]).getD i 0=if i<a.length then a.getD i 0 else if i=a.length then v else 0:=by
 rw[List.getD_eq_getElem?_getD]
 by_cases h:i<a.length
 ·rw[if_pos h,List.getElem?_append_left h, ←List.getD_eq_getElem?_getD]
 ·rw[if_neg h,List.getElem?_append_right (by omega)]
  by_cases c:i=a.length
  ·rw[if_pos c,c,Nat.sub_self];rfl
  ·rw[if_neg c,List.getElem?_eq_none (by simp;omega)];rfl
theorem Qh.push {S:List Bool} {n:Nat} {a b:List Nat} (h:Qh S n a b) {v u:Nat} (hv:v<16) (hu:u<16) (he:S.getD n false=false→v=u):Qh S (n+1) (a++[v]) (b++[u]):=by
 refine ⟨by simp[h.la],by simp[h.lb],fun i=>?_,fun i=>?_,fun i hi hs=>?_⟩
 ·rw[WE];have:=h.H_ i
  split
  ·exact this
  ·split <;> omega
 ·rw[WE];have:=h.Kk i
  split
  ·exact this
  ·split <;> omega
 ·rw[WE,WE,h.la,h.lb]
  by_cases c:i<n
  ·rw[if_pos c,if_pos c];exact h.ag i c hs
  ·have:i=n:=by omega
   subst this
   rw[if_neg c,if_neg c,if_pos rfl,if_pos rfl];exact he hs
theorem jP {p:Pg} (ok:Ep p) {a:List Nat} (h: ∀ i,a.getD i 0<16) (k j:Nat):(Mc.tells p (Mc.BZ a) k).getD j 0≤1000000:=by
 unfold Mc.tells
 rw[List.getD_eq_getElem?_getD]
 by_cases hj:j<k
 ·simp[hj]
  have:=Mc.OU ok (m:=Mc.BZ a) (Mc.Zf (fun x hx=>by
   obtain ⟨i,hi,rfl⟩:=List.mem_iff_getElem.1 hx
   have:=h i
   rw[List.getD_eq_getElem?_getD,List.getElem?_eq_getElem hi] at this
   exact this)) j
  omega
 ·rw[List.getElem?_eq_none (by simp;omega)]
  decide
theorem Qh.done {S:List Bool} {a b:List Nat} (h:Qh S S.length a b):L8 S a b:=⟨h.la,h.lb,h.H_,h.Kk,h.ag⟩
theorem um {w:World} {P:Nat} {p:Pg} (k:Nat) (s:ByteArray) (cv:Value) (ok:Ep p) (pin:Rk w P p) (hk:k≤10) (hs:s.size≤600) (hc:Ir w cv (Cl.Dp p.sec (Ck.nodes p k) (Ck.told p k))):
  Calls Tryz.prog 12 #[.pointer (some ⟨P,0,none⟩),.string s,.int .i64 (k:Nat),cv,.int .i64 ((Ck.fm p k).vars:Nat)] w fun e w'=>e=.returned (.bool true)∧Below w.heap.size w w':=by
 obtain ⟨t0,ht0,hz0,hz1,hz2⟩:=info_parts Tryz.Ds
 have Aa:=Ck.OQ ok k
 obtain ⟨f1,f2,f3⟩:=Ck.jr ok k hk
 have hD:=(Ck.M6 ok k).2.2.1
 have e2:(Ck.fm p k).ct=(Cl.Dp p.sec (Ck.nodes p k) (Ck.told p k)).length:=(Cl.gF p.sec (Ck.nodes p k) (Ck.told p k) Aa.desc Aa.D).2
 have Cz:=Cl.adx Aa (by show (Ck.fm p k).vars≤_;omega)
 have hal:=(Cl.jx Aa).1
 have XG:(Ck.fm p k).vars≤Cl.AK p.sec+21*k+DD (Ck.ah p k):=by
  have h:=Cl.yQ (sec:=p.sec) (nodes:=Ck.nodes p k) (D:=Ck.told p k)
  rw[show (Ck.told p k).length=7*k from hD] at h
  have h:(Cl.Bw p.sec (Ck.nodes p k) (7*k)).vars≤Cl.AK p.sec+3*(7*k)+DD (Ck.ah p k):=h
  have e:(Ck.fm p k).vars=(Cl.Bw p.sec (Ck.nodes p k) (Ck.told p k).length).vars:=rfl
  rw[e,show (Ck.told p k).length=7*k from hD]
  omega
 rw[show (Ck.told p k).length=7*k from hD] at Cz hal
 have Rg:(Cl.Dp p.sec (Ck.nodes p k) (Ck.told p k)).take (Ck.ah p k).length=Ck.ah p k:=by
  unfold Cl.Dp Ck.ah
  rw[List.append_assoc,List.take_left']
  rfl
 have htt:DD (Ck.ah p k)≤3*(Ck.ah p k).length:=kg _ 3 (fun c hc=>Cl.SK c hc)
 have Kb: ∀ i,((Ck.ah p k).getD i []).length≤3:=fun i=>by
  by_cases h:i<(Ck.ah p k).length
  ·exact Cl.SK _ (Cl.VZ h)
  ·rw[List.getD_eq_getElem?_getD,List.getElem?_eq_none (by omega)];simp
 have R8:=Cl.Jo p.sec
 have hs3:=ok.sec
 have nO:(Ck.ah p k).length≤3500000:=by
  have:(Cl.DW p.sec (Ck.nodes p k) (Ck.told p k)).length=(Ck.ah p k).length:=rfl
  omega
 have Gu:=hid (fun W (hv:Ir W cv (Cl.Dp p.sec (Ck.nodes p k) (Ck.told p k)))=>yM _ (Cl.AK p.sec) k (Ck.ah p k).length cv W hk (by omega) hv Cz (by omega))
 rw[Rg] at Gu
 have HC:=hid hc
 have Wy:=hid pin
 have Ef:=hid ok
 have HVT:=hid XG
 have Tx:=hid htt
 have L_:=hid Kb
 have HVV:=hid (Ck.jC ok k)
 obtain ⟨vr,Q0⟩: ∃ vr,(Ck.fm p k).vars=vr:=⟨_,rfl⟩
 rw[Q0] at HVT HVV f2 ⊢
 have IA:=hid Q0
 have nP:=hid nO
 have AE:=hid f2
 obtain ⟨n,hn⟩: ∃ n,Cl.AK p.sec=n:=⟨_,rfl⟩
 have alz:n≤24:=by omega
 have FC:=hid (pin.sec w (Below.refl _ _))
 have E4:=hid (fun W hb=>pin.inp W hb)
 rw[hn] at Gu E4
 have HN:=hid hn
 have MX:(s.size:Int)≤600:=by omega
 clear hc pin ok XG htt Kb Q0 f1 f2 f3 hD e2 Cz hal Rg R8 nO Aa hn
 go_enter Tryz.func12,Tryz.ntmps12
 go_upto_region 3 with (first
  |(go_at_call 22;refine FC.out.mono ?_;rintro e w1 ⟨as_,cs_,rfl,ho,hb⟩;have Kl:=hid ho;have AL:=hid hb;have z1:=hb.size;clear ho hb)
  |(go_at_call 27;refine (E4.out _ AL.out).mono ?_;rintro e w2 ⟨rfl,hb2⟩;have AP:=hid (AL.out.trans (hb2.mono z1));have ahj:=hid hb2;have z2:=hb2.size;clear hb2))
 have PA:=hid (Gu.out w2 (HC.out.later AP.out))
 go_upto_region 4 with (first
  |(go_at_call 28;refine PA.out.mono ?_;rintro e w3 ⟨al,cl_,rfl,hcl,hb3⟩;have Px:=hid hcl;have Cq:=hid (AP.out.trans (hb3.mono (by omega)));have ahk:=hid (ahj.out.trans (hb3.mono z2));have z3:=hb3.size;clear hcl hb3))
 have ML:((Ck.ah p k).length:Int)≤3500000:=by have:=nP.out;omega
 have ahl:=Tx.out
 clear FC E4 Gu HC PA
 go_wp2_with fail
 go_loopg [15,16] (Ck.ah p k).length (fun gk sv iv wr=> ∃ i:Nat,i≤(Ck.ah p k).length∧(Ck.ah p k).length≤i+gk∧iv=.int .i64 i∧sv=.int .i64 ((n+21*k+DD ((Ck.ah p k).take i):Nat):Int)∧w3=wr)
 case atStart=>exact ⟨0,Nat.zero_le _,by omega,rfl,by go_num,rfl⟩
 case round=>
  obtain ⟨i,hi,Ba,rfl,rfl,rfl⟩:=hrel
  have htk:DD ((Ck.ah p k).take i)≤3*(Ck.ah p k).length:=by
   refine Nat.le_trans (kg _ 3 fun c hc=>?_) (Nat.mul_le_mul_left 3 (by rw[List.length_take];omega))
   obtain ⟨q,hq,rfl⟩:=List.mem_iff_getElem.1 (List.mem_of_mem_take hc)
   have:=L_.out q
   rw[List.getD_eq_getElem?_getD,List.getElem?_eq_getElem hq] at this
   exact this
  by_cases hlt:i<(Ck.ah p k).length
  ·obtain ⟨gq,oq,cq,uq,e2,OC,iq⟩:=Px.out.at_ i hlt
   have eq:=(slice_inj e2).1
   subst eq
   obtain ⟨au,cu,rfl⟩:=iq.val
   have hst:=yO _ i hlt
   have Kb:=L_.out i
   have HST:=hid hst
   obtain ⟨T0,hT0⟩: ∃ T0,DD ((Ck.ah p k).take i)=T0:=⟨_,rfl⟩
   obtain ⟨L0,Ml⟩: ∃ L0,((Ck.ah p k).getD i []).length=L0:=⟨_,rfl⟩
   rw[hT0] at htk HST ⊢
   rw[Ml] at HST OC Kb
   clear hst iq e2 Ml hT0
   go_wp2_with fail
   go_roundg (gk - 1)
   case measure=>omega
   case rel=>exact ⟨i+1,by omega,by omega,by go_num,by rw[HST.out];congr 1;omega,rfl⟩
  ·have hie:i=(Ck.ah p k).length:=by omega
   subst hie
   rw[List.take_length] at htk ⊢
   have hvf: ¬((vr:Int) > ((n+21*k+DD (Ck.ah p k):Nat):Int)):=by have:=HVT.out;rw[HN.out] at this;omega
   generalize n+21*k+DD (Ck.ah p k)=sm at hvf
   clear hi Ba hlt htk ahl
   go_wp2_with fail
   go_loopg [17,18] s.size (fun gk xv iv wr=> ∃ i x:Nat,i≤s.size∧s.size≤i+gk∧iv=.int .i64 i∧xv=.int .i64 x∧x<2147483648∧w3=wr)
   case atStart=>exact ⟨0,1,Nat.zero_le _,by omega,rfl,rfl,by decide,rfl⟩
   case round=>
    obtain ⟨i,x,hi,Ba,rfl,rfl,hx,rfl⟩:=hrel
    have HX:=hid hx
    by_cases hlt:i<s.size
    ·have hu:(s[i].toNat:Int)<256:=by have:=s[i].toNat_lt;omega
     clear hx
     have EW:=hid (show (x:Int)+(s[i].toNat:Int)<2147484000 by have:=HX.out;omega)
     have hxB:(x:Int)≤2147483648:=by have:=HX.out;omega
     go_wp2_with (first|(go_at_call 29;refine (ZB _ (by omega) EW.out _).mono ?_;rintro e w4 ⟨z,rfl,hz,hw4⟩;have HZ:=hid hz;have hw4:=hw4.symm;subst hw4;clear hz))
     go_roundg (gk - 1)
     case measure=>omega
     case rel=>exact ⟨i+1,z,by omega,by omega,by go_num,rfl,HZ.out,rfl⟩
    ·have hie:i=s.size:=by omega
     subst hie
     clear hx hi Ba hlt
     go_wp2_with fail
     go_loopg [14,17,19,20,21,22,23,24] 20 (fun gk kv xv iv av bv jv vv uv wr=> ∃ i x:Nat,i≤20∧20≤i+gk∧iv=.int .i64 i∧xv=.int .i64 x∧x<2147483648∧Below w3.heap.size w3 wr)
     case atStart=>exact ⟨0,x,by omega,by omega,rfl,rfl,HX.out,Below.refl _ _⟩
     case round=>
      clear HX
      obtain ⟨i,x,hi,Ba,rfl,rfl,hx,AB⟩:=hrel
      have HX:=hid hx
      have AV:=hid AB
      have zb:=AB.size
      clear hx AB
      by_cases hlt:i<20
      ·have G0:(i:Int)<20:=by omega
       obtain ⟨wA,hwA⟩: ∃ wA,wr=wA:=⟨_,rfl⟩
       obtain ⟨G1,hG1⟩: ∃ G:Nat,G=gk:=⟨_,rfl⟩
       rw[hwA] at AV zb ⊢
       clear hwA
       go_wp2_with fail
       go_loopg [17,20,21,22,23,24] p.sec.length (fun gk xv av bv jv vv uv wr=> ∃ (j x:Nat) (a b:List Nat),j≤p.sec.length∧p.sec.length≤j+gk∧jv=.int .i64 j∧xv=.int .i64 x∧x<2147483648∧Two 0 wA wr j a b av bv∧Qh p.sec j a b)
       case atStart=>exact ⟨0,x,[],[],by omega,by omega,rfl,rfl,HX.out,⟨Below.refl _ _,World.ownsRow_nil _ _ _ _,World.ownsRow_nil _ _ _ _,.inl rfl⟩,⟨rfl,rfl,fun i=>by simp,fun i=>by simp,fun i hi=>absurd hi (by omega)⟩⟩
       case round=>
        clear HX
        obtain ⟨j,x,a,b,hj,Ba,rfl,rfl,hx,Ko,Fu⟩:=hrel
        have HX:=hid hx
        have TW:=hid Ko
        have PN:=hid Fu
        have zw:=Ko.A8.size
        by_cases hlj:j<p.sec.length
        ·obtain ⟨gs,ds_,hvs,_,_⟩:=Kl.out.form (by omega)
         have es:=(slice_inj hvs).1
         subst es
         obtain ⟨sb,AY⟩: ∃ sb,p.sec.getD j false=sb:=⟨_,rfl⟩
         have hgs:=Kl.out.lt gs rfl
         have X3:=hid (show w1.cell? ⟨gs,j,none⟩=some (.bool sb) by
          rw[Kl.out.cellAt j (by omega),List.getElem?_map,List.getElem?_eq_getElem hlj, ←AY,List.getD_eq_getElem?_getD,List.getElem?_eq_getElem hlj];rfl)
         have Dk:=hid (show Below w1.heap.size w1 wr from (ahk.out.trans (AV.out.mono (by omega))).trans (Ko.A8.mono (by omega)))
         have x3:=cell_later Dk.out X3.out
         have PV:=hid AY
         have Mf:=hid (show (x:Int)<2147484000 by omega)
         clear hx Ko Fu hvs AY
         go_upto_region 28 with (first|(go_at_call 29;refine (ZB _ (by omega) Mf.out _).mono ?_;rintro e w4 ⟨z,rfl,hz,hw4⟩;have HZ:=hid hz;have hw4:=hw4.symm;subst hw4;clear hz))
         obtain ⟨v,hv,Ix⟩: ∃ v:Nat,(z:Int)/256%16=(v:Int)∧v<16:=⟨z/256%16,by omega,by omega⟩
         rw[hv]
         clear hv
         cases sb with
         |false=>
          go_wp2_with (at_builtin;refine wpList_append_lies _ rfl _ _ 24 rfl wA.heap.size 3 t0 _ 1 8 Tryz.underlying24 ht0 hz0 hz1 hz2 rfl (by omega) _ j (a.map fun (n:Nat)=>.int .i64 n) rfl (TW.out.oa.alloc _) ⟨wr.heap.size,0,none⟩ 1 1 [.int .i64 ((v:Nat):Int)] rfl rfl (cell_one_new _ _ _) (by simp[Value.oneCell']) (by omega) (by unfold maxLen;omega) (by omega) (by simp;omega) (wr.heap.size+1) (by simp) ?_;intro g2 cap2 w5 Fy Sg TX Om;have hf:=TW.out.first (x:=v) (by rw[List.map_append];exact Fy) Sg TX;have HF:=hid hf;have Gb:=hid Fy;have zb5:=hf.1.size;have zw5:=hf.2.2.2;clear Fy Sg TX hf;refine Hid.out ?_)
          refine hid ?_
          go_wp2_with (at_builtin;refine wpList_append_lies _ rfl _ _ 24 rfl wA.heap.size 3 t0 _ 1 8 Tryz.underlying24 ht0 hz0 hz1 hz2 rfl (by omega) _ j (b.map fun (n:Nat)=>.int .i64 n) rfl (HF.out.2.1.alloc _) ⟨w5.heap.size,0,none⟩ 1 1 [.int .i64 ((v:Nat):Int)] rfl rfl (cell_one_new _ _ _) (by simp[Value.oneCell']) (by omega) (by unfold maxLen;omega) (by omega) (by simp;omega) (w5.heap.size+1) (by simp) ?_;intro g4 D4 w6 BW BJ Cn IU)
          go_roundg (gk - 1)
          case measure=>omega
          case rel=>exact ⟨j+1,z,a++[v],b++[v],by omega,by omega,by go_num,rfl,HZ.out,jO HF.out Gb.out rfl rfl (by rw[List.map_append];rfl) (by rw[List.map_append];exact BW) BJ Cn,PN.out.push Ix Ix (fun _=>rfl)⟩
         |true=>
          have HX2:=hid (show (z:Int)<2147484000 by have:=HZ.out;omega)
          go_upto_region 31 with (first|(go_at_call 29;refine (ZB _ (by omega) HX2.out _).mono ?_;rintro e w4 ⟨z2,rfl,nQ,hw4⟩;have HZ2:=hid nQ;have hw4:=hw4.symm;subst hw4;clear nQ))
          obtain ⟨u,hu,ahm⟩: ∃ u:Nat,(z2:Int)/256%16=(u:Int)∧u<16:=⟨z2/256%16,by omega,by omega⟩
          rw[hu]
          clear hu
          go_wp2_with (at_builtin;refine wpList_append_lies _ rfl _ _ 24 rfl wA.heap.size 3 t0 _ 1 8 Tryz.underlying24 ht0 hz0 hz1 hz2 rfl (by omega) _ j (a.map fun (n:Nat)=>.int .i64 n) rfl (TW.out.oa.alloc _) ⟨wr.heap.size,0,none⟩ 1 1 [.int .i64 ((v:Nat):Int)] rfl rfl (cell_one_new _ _ _) (by simp[Value.oneCell']) (by omega) (by unfold maxLen;omega) (by omega) (by simp;omega) (wr.heap.size+1) (by simp) ?_;intro g2 cap2 w5 Fy Sg TX Om;have hf:=TW.out.first (x:=v) (by rw[List.map_append];exact Fy) Sg TX;have HF:=hid hf;have Gb:=hid Fy;have zb5:=hf.1.size;have zw5:=hf.2.2.2;clear Fy Sg TX hf;refine Hid.out ?_)
          refine hid ?_
          go_wp2_with (at_builtin;refine wpList_append_lies _ rfl _ _ 24 rfl wA.heap.size 3 t0 _ 1 8 Tryz.underlying24 ht0 hz0 hz1 hz2 rfl (by omega) _ j (b.map fun (n:Nat)=>.int .i64 n) rfl (HF.out.2.1.alloc _) ⟨w5.heap.size,0,none⟩ 1 1 [.int .i64 ((u:Nat):Int)] rfl rfl (cell_one_new _ _ _) (by simp[Value.oneCell']) (by omega) (by unfold maxLen;omega) (by omega) (by simp;omega) (w5.heap.size+1) (by simp) ?_;intro g4 D4 w6 BW BJ Cn IU)
          go_roundg (gk - 1)
          case measure=>omega
          case rel=>exact ⟨j+1,z2,a++[v],b++[u],by omega,by omega,by go_num,rfl,HZ2.out,jO HF.out Gb.out rfl rfl (by rw[List.map_append];rfl) (by rw[List.map_append];exact BW) BJ Cn,PN.out.push Ix ahm (fun e=>absurd (PV.out.symm.trans e) (by decide))⟩
        ·have Uj:j=p.sec.length:=by omega
         subst Uj
         have pk:=Fu.done
         have Dl:=hid (show Below w.heap.size w wr from (Cq.out.trans (AV.out.mono (by omega))).trans (Ko.A8.mono (by omega)))
         have cF:=hid (show Below w3.heap.size w3 wr from AV.out.trans (Ko.A8.mono (by omega)))
         have ia:=BB.Od (ZA Ko.oa)
         have ib:=BB.Od (ZA Ko.ob)
         have Qu:=Wy.out.later Dl.out
         have hok:=Ef.out
         have Q0:vr<100000000:=by have:=AE.out;omega
         have cG:=Px.out.later cF.out
         have cH:(Ck.ah p k).length≤1000000000:=by have:=nP.out;omega
         have nR:Cl.AK p.sec≤24:=by have:=HN.out;omega
         have hxl:(FX p.sec a b).length≤1000:=by rw[YG];omega
         have Pw:=hid (yJ (w:=wr) (P:=P) (k:=k) (vars:=vr) (Ck.Tp p k a b) hk Q0 (fun W hb=>Qu.lit W hb a b u20 u21 pk (ia.below hb) (ib.below hb)) (fun W hb=>Qu.tls W hb a u20 k hk pk.self (ia.below hb)) (fun W hb=>Qu.tls W hb b u21 k hk ⟨pk.lb,pk.lb,pk.Kk,pk.Kk,fun _ _ _=>rfl⟩ (ib.below hb)) cG (Ck.lV hok k pk) (by rw[←IA.out];exact Ck.lW hok k a b) (by rw[←IA.out];exact Ck.lX hok k) hxl cH HVV.out nR (by simp[Mc.tells]) (by simp[Mc.tells]) (jP hok pk.H_ k) (jP hok pk.Kk k) (by rw[←IA.out];exact Ck.uJ hok k pk))
         have Xo:=hid (fun W (hb:Below wr.heap.size wr W)=>uI (w:=W) (P:=P) (k:=k) (vars:=vr) (cs:=Ck.ah p k) (cv:=.slice al (Ck.ah p k).length cl_) (va:=u20) (S:=p.sec) (a:=a) (Ck.Tp p k a a) (Cl.L1 p.sec (Ck.nodes p k) (Ck.told p k)) (Cl.L2 p.sec (Ck.nodes p k) (Ck.told p k)) hk Q0 (fun W2 h2=>(Qu.later hb).sec W2 h2) (fun W2 h2=>(Qu.later hb).lit W2 h2 a a u20 u20 pk.self ((ia.below hb).below h2) ((ia.below hb).below h2)) (cG.later hb) (Ck.lV hok k pk.self) (by rw[←IA.out];exact Ck.lW hok k a a) (by rw[←IA.out];exact Ck.lX hok k) cH hs3 HVV.out (Ck.yR k) (Ck.yS k) (Ck.yT hok k) (Ck.yU hok k) (fun j h1 h2=>Cl.l12 h1 h2) (Ck.yV hok k a))
         clear hx Ko Fu pk ia ib Qu hok Q0 cG cH nR hxl hj Ba hlj
         by_cases hi4:i<4
         ·go_wp2_with (first
           |(go_at_call 30;refine Pw.out.mono ?_;rintro e w7 ⟨rfl,Eg⟩;have Ew:=hid Eg;have z7:=Eg.size;clear Eg)
           |(go_at_call 31;refine (Xo.out _ Ew.out).mono ?_;rintro e w8 ⟨rfl,Kf⟩;have HB8:=hid Kf;have z8:=Kf.size;clear Kf))
          go_roundg (G1 - 1)
          case measure=>omega
          case rel=>exact ⟨i+1,x,by omega,by omega,by go_num,rfl,HX.out,(cF.out.trans (Ew.out.mono (by omega))).trans (HB8.out.mono (by omega))⟩
         ·go_wp2_with (first
           |(go_at_call 30;refine Pw.out.mono ?_;rintro e w7 ⟨rfl,Eg⟩;have Ew:=hid Eg;have z7:=Eg.size;clear Eg))
          go_roundg (G1 - 1)
          case measure=>omega
          case rel=>exact ⟨i+1,x,by omega,by omega,by go_num,rfl,HX.out,cF.out.trans (Ew.out.mono (by omega))⟩
      ·have hie:i=20:=by omega
       subst hie
       clear hlt Ba hi
       go_wp2_with fail
       go_ret
       exact ⟨rfl,Cq.out.trans (AV.out.mono (by omega))⟩
theorem Y0 (s:ByteArray) (k:Int) (w:World) (h:wi k 10=false∨600<s.size∨(s.size≤600∧(Rf.Fz s.toList).1=false)):Calls Tryz.prog 5 #[.string s,.int .i64 k] w fun e w'=>e=.returned (.bool true)∧Below w.heap.size w w':=by
 have H:=hid h
 clear h
 go_enter Tryz.func5,Tryz.ntmps5
 go_wp2_with (first
  |(go_at_call 6;refine (xY s k _ H.out).mono ?_;rintro e w1 ⟨rfl,hb1⟩;have AL:=hid hb1;clear hb1))
 go_ret
 exact ⟨rfl,AL.out⟩
theorem abS {w w':World} {e:Ending} {p:Pg} {k:Nat} (c:Sk w w' e p k 0 0): ∃ (vd:Int) (a1 a2:Option Addr) (n1 c1 n2 c2:Nat) (xa:Int) (G:ByteArray) (xn xc:Int),e=.returned (.tuple #[.int .i64 vd,.agg #[.int .i64 0,.slice a1 n1 c1,.slice a2 n2 c2,.int .i64 xa,.int .i64 (Ck.fm p k).vars,.string ⟨(Ck.fm p k).bs.toArray⟩,.string G,.int .i64 xn,.int .i64 xc]]):=by
 by_cases h:(Pr.fd p k).al<k
 ·obtain ⟨a1,c1,a2,c2,i,j,he, -⟩:=c.ins (.inl rfl) h
  exact ⟨_,_,_,_,_,_,_,_,_,_,_,he⟩
 ·exact ⟨_,_,_,_,_,_,_,_,_,_,_,c.sec (.inl rfl) h (.inl rfl)⟩
theorem nj (s:ByteArray) (k:Nat) (w:World) (hk:wi (k:Int) 10=true) (cJ:k≤10) (R_:s.size≤600) (ds:List Rf.Dc) (ts:List Rf.Tr) (hrd:Rf.read s.toList=(some (ds,ts),0)) (rp: ∀ w:World,Calls Tryz.prog 14 #[.string s] w fun e w'=>e=.returned (.tuple #[.pointer (some ⟨w.heap.size,0,none⟩),.int .i64 0])∧Below w.heap.size w w'∧QZ w w' ds ts) (hl:(Lk.read s.toList).2=0) (Ag:Ld w):
  Calls Tryz.prog 5 #[.string s,.int .i64 (k:Int)] w fun e w'=>e=.returned (.bool true)∧Below w.heap.size w w':=by
 have ok:=Vv s.toList
 have hst:s.toList.length≤600:=by rw[Bx];exact R_
 have HC:=hid (fun W hW=>sV s k 0 0 W hW cJ (by omega) (by omega) hl)
 have Wy:=hid (fun (w5 w1:World) (h:QZ w5 w1 ds ts)=>acn h hl hrd hst)
 generalize Fb s.toList=p at ok HC Wy
 have Aa:=Ck.OQ ok k
 obtain ⟨f1,f2,f3⟩:=Ck.jr ok k cJ
 have hD:=(Ck.M6 ok k).2.2.1
 obtain ⟨e1,e2⟩:=Cl.gF p.sec (Ck.nodes p k) (Ck.told p k) Aa.desc Aa.D
 have e1:(Ck.fm p k).bs=_:=e1
 have W_: ∀ c∈Cl.Dp p.sec (Ck.nodes p k) (Ck.told p k),(∀ l∈c,l≠0∧l.natAbs≤(Ck.fm p k).vars)∧c.length≤100:=Cl.yN Aa (by rw[hD];omega)
 have RL:=hid (fun (W:World) (e:Ending) (w':World) (c:Sk W w' e p k 0 0)=>abS c)
 have HAB:=hid (fun (W:World) (P:Nat) (cv:Value) (pin:Rk W P p) (hc:Ir W cv (Cl.Dp p.sec (Ck.nodes p k) (Ck.told p k)))=>um k s cv ok pin cJ R_ hc)
 obtain ⟨F,hF⟩: ∃ F:ByteArray,(⟨(Ck.fm p k).bs.toArray⟩:ByteArray)=F:=⟨_,rfl⟩
 rw[hF] at RL
 have hFt:F.toList=(Ck.fm p k).bs:=by rw[←hF,ByteArray.toList_mk]
 have hFs:F.size≤1000000000:=by rw[←Bx,hFt];omega
 generalize (Ck.fm p k).vars=vr at f2 W_ RL HAB
 generalize Cl.Dp p.sec (Ck.nodes p k) (Ck.told p k)=C at e1 W_ HAB
 have Px:=hid (fun W=>pI F C vr W hFs (hFt.trans e1) (fun c hc=>(W_ c hc).1) (by omega))
 have Mj:=hid (fun W=>uG vr (by omega) W)
 have J5:=hid rp
 have ahq:=hid Ag
 clear hl rp Ag Aa f1 f2 f3 hD e1 e2 W_ hF hFt hFs ok hst hrd
 go_enter Tryz.func5,Tryz.ntmps5
 go_upto_region 5 with (first
  |(go_at_call 6;refine (tP s k _ hk R_ ds ts J5.out).mono ?_;rintro e w1 ⟨w5,rfl,hb1,hpa⟩;have AL:=hid hb1;have z1:=hb1.size;have HPA:=hid (Wy.out _ _ hpa);clear hb1 hpa)
  |(go_at_call 7;refine (HC.out _ (Zj ahq.out AL.out)).mono ?_;rintro e w2 hc;obtain ⟨vd,a1,a2,n1,c1,n2,c2,xa,G,xn,xc,he⟩:=RL.out _ e w2 hc;subst he;have AP:=hid hc.A8;have z2:=hc.A8.size;clear hc))
 obtain ⟨W2,hW2⟩: ∃ W2:World,w2.alloc (.cells #[.int .i64 0,.slice a1 n1 c1,.slice a2 n2 c2,.int .i64 xa,.int .i64 vr,.string F,.string G,.int .i64 xn,.int .i64 xc] 26)=W2:=⟨_,rfl⟩
 have nS:=hid (show Below w1.heap.size w1 W2 by rw[←hW2];exact AP.out.alloc z2 _)
 have r4:W2.cell? ⟨w2.heap.size,4,none⟩=some (.int .i64 vr):=by rw[←hW2];exact newAt w2 _ _ 4 _ rfl
 have r5:W2.cell? ⟨w2.heap.size,5,none⟩=some (.string F):=by rw[←hW2];exact newAt w2 _ _ 5 _ rfl
 have zW:=nS.out.size
 rw[hW2]
 clear hW2
 go_upto_region 11 with (first
  |(go_at_call 10;refine (Mj.out _).mono ?_;rintro e w3 ⟨rfl,hw3⟩;have hw4:=hw3.symm;subst hw4)
  |(go_at_call 11;refine (Px.out _).mono ?_;rintro e w3 ⟨cv,rfl,hcv,hb3⟩;have HCV:=hid hcv;have Cq:=hid hb3;have z3:=hb3.size;clear hcv hb3))
 have NN:=hid (show Below w1.heap.size w1 w3 from nS.out.trans (Cq.out.mono zW))
 have s4:=cell_later Cq.out r4
 have HA:=hid (HAB.out w3 _ cv (HPA.out.later NN.out) HCV.out)
 go_wp2_with (first
  |(go_at_call 12;refine HA.out.mono ?_;rintro e w6 ⟨rfl,D9⟩;have Bz:=hid D9;clear D9))
 go_ret
 exact ⟨rfl,(AL.out.trans (NN.out.mono z1)).trans (Bz.out.mono (by have:=NN.out.size;omega))⟩
theorem oN (s:ByteArray) (k:Int) (hk: -9223372036854775808≤k∧k≤9223372036854775807) (w:World) (Ag:Ld w):Calls Tryz.prog 5 #[.string s,.int .i64 k] w fun e w'=>e=.returned (.bool true)∧Below w.heap.size w w':=by
 cases hk:wi k 10 with
 |false=>exact Y0 s k w (.inl hk)
 |true=>
  by_cases h6:600<s.size
  ·exact Y0 s k w (.inr (.inl h6))
  ·have Xv:s.size≤600:=by omega
   have Cz:s.toList.length≤600:=by rw[Bx];exact Xv
   cases hr:(Rf.Fz s.toList).1 with
   |false=>exact Y0 s k w (.inr (.inr ⟨Xv,hr⟩))
   |true=>
    have h0:(Lk.read s.toList).2=0:=(Rf.si s.toList Cz).trans ((Rf.eU _).2.1 hr)
    obtain ⟨os,h1,h2,h3⟩:=xX hr
    obtain ⟨ts,hts⟩: ∃ ts,(Rf.blk (Lk.cut 10 s.toList) (Lk.cut 10 s.toList).length 0 {} []).2.1=ts:=⟨_,rfl⟩
    have rp:=fun w=>fw s Xv w os h1 h2
    rw[hts] at h3 rp
    have hkk:=Vt hk
    obtain ⟨K,hK⟩: ∃ K:Nat,k=(K:Int):=⟨k.toNat,by omega⟩
    subst hK
    exact nj s K w hk (by omega) Xv os.ds ts h3 rp h0 Ag
end Go.Proofs.YtgddmpmcnjlcjaaGreatDoor
