import Derived.Test.YtgddmpmcnjlcjaaGreatDoorB22
import Derived.Test.YtgddmpmcnjlcjaaGreatDoorB23
import Derived.Laws.OwnMore
namespace Go.Proofs.YtgddmpmcnjlcjaaGreatDoor
open Go.RowKit
set_option linter.unusedVariables false
def GV (v t u:Value) (i:Nat):Value:=if i=0 then v else if i=1 then t else u
structure Dx (w:World) (vN vT:Value) (vars ct:Nat) (bs:List UInt8) (vt:Value) (l1 l2:List Nat) (v1 v2 t1 t2:Value) (wr:World):Prop where
 wt:Au w.heap.size (w.heap.size+3) vars ct bs vt wr
 db:wr.rowIs (w.heap.size+1) 50 2 (E_ vN vT)
 fb:wr.rowIs (w.heap.size+2) 55 4 (Nk 0 0 ⟨#[]⟩ (.slice none 0 0))
 r1:wr.rowIs (w.heap.size+4) 107 3 (GV v1 (.slice none 0 0) t1)
 r2:wr.rowIs (w.heap.size+5) 107 3 (GV v2 (.slice none 0 0) t2)
 o1:wr.ownsRow w.heap.size 3 1 v1 l1.length (l1.map fun (n:Nat)=>.int .i64 n)
 o2:wr.ownsRow w.heap.size 3 1 v2 l2.length (l2.map fun (n:Nat)=>.int .i64 n)
 GD: ∀ g,v1.ownBlock=some g→v2.ownBlock≠some g
 A8:Below w.heap.size w wr
section
variable {w wr:World} {vN vT:Value} {vars ct:Nat} {bs:List UInt8} {vt:Value} {l1 l2:List Nat} {v1 v2 t1 t2:Value}
theorem SQ {base n sz wb:Nat} {t:TypeId} {v:Value} {xs:List Value} {w':World} (h:wr.ownsRow base t sz v n xs) (hf:A9 0 (fun k=>k=wb) wr w') (hne:v.ownBlock≠some wb):w'.ownsRow base t sz v n xs:=dO h hf hne
theorem SR {n wb b:Nat} {t:TypeId} {f:Nat→Value} {w':World} (h:wr.rowIs b t n f) (hf:A9 0 (fun k=>k=wb) wr w') (hne:b≠wb):w'.rowIs b t n f:=h.of_block (hf.keep b h.lt hne)
theorem Dx.fresh (h:Dx w vN vT vars ct bs vt l1 l2 v1 v2 t1 t2 wr) {w':World} {n:Nat} (hw:Au w.heap.size (w.heap.size+3) n ct bs vt w') (hf:A9 0 (fun k=>k=w.heap.size+3) wr w'):Dx w vN vT n ct bs vt l1 l2 v1 v2 t1 t2 w':=
 ⟨hw,SR h.db hf (by omega),SR h.fb hf (by omega),SR h.r1 hf (by omega),SR h.r2 hf (by omega),SQ h.o1 hf (Aq h.o1 h.wt.row (by decide)),SQ h.o2 hf (Aq h.o2 h.wt.row (by decide)),h.GD,h.A8.trans (hf.lift (base:=w.heap.size) (fun k _ e=>by have e:k=w.heap.size+3:=e;omega) h.A8.size).A8⟩
theorem Dx.alloc (h:Dx w vN vT vars ct bs vt l1 l2 v1 v2 t1 t2 wr) (o:Obj):Dx w vN vT vars ct bs vt l1 l2 v1 v2 t1 t2 (wr.alloc o):=⟨h.wt.alloc o,h.db.alloc o,h.fb.alloc o,h.r1.alloc o,h.r2.alloc o,h.o1.alloc o,h.o2.alloc o,h.GD,h.A8.alloc h.A8.size o⟩
theorem Dx.drew (h:Dx w vN vT vars ct bs vt l1 l2 v1 v2 t1 t2 wr):Dx w vN vT vars ct bs vt l1 l2 v1 v2 t1 t2 wr.drew:=⟨h.wt.drew,h.db.drew,h.fb.drew,h.r1.drew,h.r2.drew,h.o1,h.o2,h.GD,h.A8.drew⟩
theorem kO (v t u x:Value) (i:Nat) (hi:i<3):(if i=0 then x else GV v t u i)=GV x t u i:=by
 match i,hi with
 |0,_=>rfl
 |1,_=>rfl
 |2,_=>rfl
 |n+3,h=>omega
theorem kP (v t u x:Value) (i:Nat) (hi:i<3):(if i=2 then x else GV v t u i)=GV v t x i:=by
 match i,hi with
 |0,_=>rfl
 |1,_=>rfl
 |2,_=>rfl
 |n+3,h=>omega
theorem Au.run (h:Dx w vN vT vars ct bs vt l1 l2 v1 v2 t1 t2 wr) {q:Nat} (hq:q=w.heap.size+4∨q=w.heap.size+5) (i:Nat) (u:Value):Au w.heap.size (w.heap.size+3) vars ct bs vt (wr.setCell ⟨q,i,none⟩ u):=by
 refine h.wt.other (p:=⟨q,i,none⟩) (by show w.heap.size+3≠q;omega) ?_ u
 rcases hq with rfl|rfl
 ·exact Aq h.wt.own h.r1 (by decide)
 ·exact Aq h.wt.own h.r2 (by decide)
theorem Dx.adH (h:Dx w vN vT vars ct bs vt l1 l2 v1 v2 t1 t2 wr) {l:List Nat} {v:Value} (ho:wr.ownsRow w.heap.size 3 1 v l.length (l.map fun (n:Nat)=>.int .i64 n)) (hn: ∀ g,v.ownBlock=some g→v2.ownBlock≠some g):Dx w vN vT vars ct bs vt l l2 v v2 t1 t2 (wr.setCell ⟨w.heap.size+4,0,none⟩ v):=
 ⟨Au.run h (.inl rfl) 0 v,h.db.setOther (by show w.heap.size+1≠w.heap.size+4;omega) _,h.fb.setOther (by show w.heap.size+2≠w.heap.size+4;omega) _,(h.r1.set 0 v).congr (fun i hi=>kO _ _ _ _ i hi),h.r2.setOther (by show w.heap.size+5≠w.heap.size+4;omega) _,BC ho (Aq ho h.r1 (by decide)) _,BC h.o2 (Aq h.o2 h.r1 (by decide)) _,hn,h.A8.setCell (by show w.heap.size≤w.heap.size+4;omega) _⟩
theorem Dx.adJ (h:Dx w vN vT vars ct bs vt l1 l2 v1 v2 t1 t2 wr) (v:Value):Dx w vN vT vars ct bs vt l1 l2 v1 v2 v t2 (wr.setCell ⟨w.heap.size+4,2,none⟩ v):=
 ⟨Au.run h (.inl rfl) 2 v,h.db.setOther (by show w.heap.size+1≠w.heap.size+4;omega) _,h.fb.setOther (by show w.heap.size+2≠w.heap.size+4;omega) _,(h.r1.set 2 v).congr (fun i hi=>kP _ _ _ _ i hi),h.r2.setOther (by show w.heap.size+5≠w.heap.size+4;omega) _,BC h.o1 (Aq h.o1 h.r1 (by decide)) _,BC h.o2 (Aq h.o2 h.r1 (by decide)) _,h.GD,h.A8.setCell (by show w.heap.size≤w.heap.size+4;omega) _⟩
theorem Dx.adL (h:Dx w vN vT vars ct bs vt l1 l2 v1 v2 t1 t2 wr) (v:Value):Dx w vN vT vars ct bs vt l1 l2 v1 v2 t1 v (wr.setCell ⟨w.heap.size+5,2,none⟩ v):=
 ⟨Au.run h (.inr rfl) 2 v,h.db.setOther (by show w.heap.size+1≠w.heap.size+5;omega) _,h.fb.setOther (by show w.heap.size+2≠w.heap.size+5;omega) _,h.r1.setOther (by show w.heap.size+4≠w.heap.size+5;omega) _,(h.r2.set 2 v).congr (fun i hi=>kP _ _ _ _ i hi),BC h.o1 (Aq h.o1 h.r2 (by decide)) _,BC h.o2 (Aq h.o2 h.r2 (by decide)) _,h.GD,h.A8.setCell (by show w.heap.size≤w.heap.size+5;omega) _⟩
theorem Dx.app (h:Dx w vN vT vars ct bs vt l1 l2 v1 v2 t1 t2 wr) {l:List Nat} {w':World} {g n cap:Nat} (hown:w'.ownsRow w.heap.size 3 1 (.slice (some ⟨g,0,none⟩) n cap) l.length (l.map fun (n:Nat)=>.int .i64 n)) (hg:wr.grownBy w' v2.ownBlock) (hat:v2.ownBlock=some g∨g=wr.heap.size):Dx w vN vT vars ct bs vt l1 l v1 (.slice (some ⟨g,0,none⟩) n cap) t1 t2 (w'.setCell ⟨w.heap.size+5,0,none⟩ (.slice (some ⟨g,0,none⟩) n cap)):=by
 have r1':=Ad h.r1 hg (Aq h.o2 h.r1 (by decide))
 have r2':=Ad h.r2 hg (Aq h.o2 h.r2 (by decide))
 have o1':w'.ownsRow w.heap.size 3 1 v1 l1.length (l1.map fun (n:Nat)=>.int .i64 n):=BP h.o1 (fun k e=>hg.block k (h.o1.lt k e).2 (fun e2=>h.GD k e e2.symm))
 have ow':w'.ownsRow w.heap.size 5 1 vt bs.length (Lib.byteCells bs):=BP h.wt.own (fun k e=>hg.block k (h.wt.own.lt k e).2 (fun e2=>by
  obtain ⟨c1,f1,a1⟩:=Mu h.wt.own e
  obtain ⟨c2,f2,a2⟩:=Mu h.o2 e2.symm
  rw[a1] at a2
  exact absurd (show 5=3 by cases a2) (by decide)))
 have rw':=Ad h.wt.row hg (Aq h.o2 h.wt.row (by decide))
 refine ⟨⟨rw'.setOther (by show w.heap.size+3≠w.heap.size+5;omega) _,h.wt.cb,BC ow' (Aq ow' r2' (by decide)) _,h.wt.hb,h.wt.ne⟩,(Ad h.db hg (Aq h.o2 h.db (by decide))).setOther (by show w.heap.size+1≠w.heap.size+5;omega) _,(Ad h.fb hg (Aq h.o2 h.fb (by decide))).setOther (by show w.heap.size+2≠w.heap.size+5;omega) _,r1'.setOther (by show w.heap.size+4≠w.heap.size+5;omega) _,(r2'.set 0 _).congr (fun i hi=>kO _ _ _ _ i hi),BC o1' (Aq o1' r2' (by decide)) _,BC hown (Aq hown r2' (by decide)) _,fun k e=>?_,(h.A8.grown hg h.A8.size (fun k e=>(h.o2.lt k e).1)).setCell (by show w.heap.size≤w.heap.size+5;omega) _⟩
 intro e2
 have e2:g=k:=by simpa[Value.ownBlock] using e2
 rcases hat with c|c
 ·exact h.GD k e (by rw[c,e2])
 ·have:=(h.o1.lt k e).2
  omega
theorem zn {base sz n cap g:Nat} {t:TypeId} {xs:List Value} (h:wr.ownsRow base t sz (.slice (some ⟨g,0,none⟩) n cap) n xs):n≤cap:=by
 rcases h.2 with ⟨e,_⟩|⟨g',cap',cur,e,_,_,hle,_⟩
 ·cases e
 ·cases e;exact hle
theorem Fw {b n:Nat} {t:TypeId} {cs:Array Value} {f:Nat→Value} (h:wr.heap[b]? =some (.cells cs t)) (hn:cs.size=n) (hf: ∀ i,i<n→cs[i]? =some (f i)):wr.rowIs b t n f:=⟨cs,h,hn,hf⟩
theorem wM (vN vT vp0 vp1 vp2 vp3:Value):Dx w vN vT 0 0 [] (.slice none 0 0) [] [] (.slice none 0 0) (.slice none 0 0) (.slice none 0 0) (.slice none 0 0)
  ((((((w.alloc (.cells #[vp0,vp1,vp2,vp3] 45)).alloc (.cells #[vN,vT] 50)).alloc (.cells #[.int .i64 0,.int .i64 0,.string ⟨#[]⟩,.slice none 0 0] 55)).alloc (.cells #[.int .i64 0,.int .i64 0,.slice none 0 0] 105)).alloc (.cells #[.slice none 0 0,.slice none 0 0,.slice none 0 0] 107)).alloc (.cells #[.slice none 0 0,.slice none 0 0,.slice none 0 0] 107)):=by
 have z: ∀ (w:World) (o:Obj),(w.alloc o).heap.size=w.heap.size+1:=fun w o=>by simp
 refine ⟨⟨?_,Nat.le_refl _,World.ownsRow_nil _ _ _ _,by omega,by simp[Value.ownBlock]⟩,?_,?_,?_,?_,World.ownsRow_nil _ _ _ _,World.ownsRow_nil _ _ _ _,fun g e=>by simp[Value.ownBlock] at e,?_⟩
 ·exact Fw (Du _ _ _ _ (Du _ _ _ _ (CX _ _ _ (by simp)))) rfl (fun i hi=>by
   match i,hi with
   |0,_=>rfl
   |1,_=>rfl
   |2,_=>rfl
   |n+3,h=>omega)
 ·exact Fw (Du _ _ _ _ (Du _ _ _ _ (Du _ _ _ _ (Du _ _ _ _ (CX _ _ _ (by simp)))))) rfl (fun i hi=>by
   match i,hi with
   |0,_=>rfl
   |1,_=>rfl
   |n+2,h=>omega)
 ·exact Fw (Du _ _ _ _ (Du _ _ _ _ (Du _ _ _ _ (CX _ _ _ (by simp))))) rfl (fun i hi=>by
   match i,hi with
   |0,_=>rfl
   |1,_=>rfl
   |2,_=>rfl
   |3,_=>rfl
   |n+4,h=>omega)
 ·exact Fw (Du _ _ _ _ (CX _ _ _ (by simp))) rfl (fun i hi=>by
   match i,hi with
   |0,_=>rfl
   |1,_=>rfl
   |2,_=>rfl
   |n+3,h=>omega)
 ·exact Fw (CX _ _ _ (by simp)) rfl (fun i hi=>by
   match i,hi with
   |0,_=>rfl
   |1,_=>rfl
   |2,_=>rfl
   |n+3,h=>omega)
 ·exact (((((((Below.refl w.heap.size w).alloc (Nat.le_refl _) _).alloc (by simp) _).alloc (by simp;omega) _).alloc (by simp;omega) _).alloc (by simp;omega) _).alloc (by simp;omega) _)
end
theorem Tryz.zo:(Tryz.prog.info? 113).map (fun i=>(i.zero,i.size,i.bytes))=some (some (.agg #[.int .i64 0,.int .i64 0,.int .i64 0,.int .i64 0,.int .i64 0,.int .i64 0,.int .i64 0]),7,56):=by kernel_rfl
def KQ (b:Nat→Cl.Bt) (c:Nat):Value:=(b (c/7)).cells.getD (c%7) undef
def Dy (b:Nat→Cl.Bt) (i:Nat) (x:Cl.Bt) (k:Nat):Cl.Bt:=if k=i then x else b k
theorem OO (b:Nat→Cl.Bt) (i j:Nat) (hj:j<7) (x:Cl.Bt) (u:Value) (h: ∀ q,q<7→x.cells.getD q undef=if q=j then u else (b i).cells.getD q undef) (c:Nat):(if c=i*7+j then u else KQ b c)=KQ (Dy b i x) c:=by
 have hq:c%7<7:=Nat.mod_lt _ (by omega)
 unfold KQ Dy
 by_cases e:c/7=i
 ·rw[if_pos e,h _ hq, ←e]
  by_cases f:c%7=j
  ·rw[if_pos f,if_pos (by omega)]
  ·rw[if_neg f,if_neg (by omega)]
 ·rw[if_neg e,if_neg (by omega)]
theorem adM (n c:Nat) (hc:c<n*7):(madeCells (Value.agg #[.int .i64 0,.int .i64 0,.int .i64 0,.int .i64 0,.int .i64 0,.int .i64 0,.int .i64 0]).cells (n*7))[c]? =some (KQ (fun _=>{}) c):=by
 have e:(Value.agg #[.int .i64 0,.int .i64 0,.int .i64 0,.int .i64 0,.int .i64 0,.int .i64 0,.int .i64 0]).cells= #[.int .i64 0,.int .i64 0,.int .i64 0,.int .i64 0,.int .i64 0,.int .i64 0,.int .i64 0]:=rfl
 rw[e]
 have h7:c%7<7:=Nat.mod_lt _ (by omega)
 unfold madeCells KQ
 simp only[Array.getElem?_map,Array.getElem?_range,hc,if_true,Option.map_some]
 show some (#[.int .i64 0,.int .i64 0,.int .i64 0,.int .i64 0,.int .i64 0,.int .i64 0,.int .i64 0][c%7]!)=some (({}:Cl.Bt).cells.getD (c%7) undef)
 generalize c%7=q at h7
 match q,h7 with
 |0,_=>rfl
 |1,_=>rfl
 |2,_=>rfl
 |3,_=>rfl
 |4,_=>rfl
 |5,_=>rfl
 |6,_=>rfl
 |n+7,h=>omega
structure CR (w:World) (vN vT:Value) (vars ct:Nat) (bs:List UInt8) (vt:Value) (m L V g1 g2 gb:Nat) (f1 f2:Nat→Nat) (v1 v2 t1 t2 df:Value) (b:Nat→Cl.Bt) (wr:World):Prop where
 wt:Au w.heap.size (w.heap.size+3) vars ct bs vt wr
 db:wr.rowIs (w.heap.size+1) 50 2 (E_ vN vT)
 fb:wr.rowIs (w.heap.size+2) 55 4 (Nk 0 0 ⟨#[]⟩ (.slice none 0 0))
 r1:wr.rowIs (w.heap.size+4) 107 3 (GV v1 (.slice (some ⟨g1,0,none⟩) L L) t1)
 r2:wr.rowIs (w.heap.size+5) 107 3 (GV v2 (.slice (some ⟨g2,0,none⟩) L L) t2)
 n1:wr.rowIs g1 3 L (fun i=>.int .i64 (f1 i))
 n2:wr.rowIs g2 3 L (fun i=>.int .i64 (f2 i))
 o1:wr.ownsRow w.heap.size 3 1 t1 m ((BD V m).map fun (n:Nat)=>.int .i64 n)
 o2:wr.ownsRow w.heap.size 3 1 t2 m ((BD (V+m) m).map fun (n:Nat)=>.int .i64 n)
 o3:wr.ownsRow w.heap.size 3 1 df m ((BD (V+m+m) m).map fun (n:Nat)=>.int .i64 n)
 bt:wr.rowIs gb 113 (m*7) (KQ b)
 hb:w.heap.size≤gb
 A8:Below w.heap.size w wr
section
variable {w wr:World} {vN vT:Value} {vars ct:Nat} {bs:List UInt8} {vt:Value} {m L V g1 g2 gb:Nat} {f1 f2:Nat→Nat} {v1 v2 t1 t2 df:Value} {b:Nat→Cl.Bt}
theorem CR.drew (h:CR w vN vT vars ct bs vt m L V g1 g2 gb f1 f2 v1 v2 t1 t2 df b wr):CR w vN vT vars ct bs vt m L V g1 g2 gb f1 f2 v1 v2 t1 t2 df b wr.drew:=⟨h.wt.drew,h.db.drew,h.fb.drew,h.r1.drew,h.r2.drew,h.n1.drew,h.n2.drew,h.o1,h.o2,h.o3,h.bt.drew,h.hb,h.A8.drew⟩
theorem CR.wrote (h:CR w vN vT vars ct bs vt m L V g1 g2 gb f1 f2 v1 v2 t1 t2 df b wr) {w':World} {ct':Nat} {bs':List UInt8} {Al:Value} (hw:Au w.heap.size (w.heap.size+3) vars ct' bs' Al w') (hf:B6 w.heap.size (w.heap.size+3) wr w'):CR w vN vT vars ct' bs' Al m L V g1 g2 gb f1 f2 v1 v2 t1 t2 df b w':=by
 have k:E7 (fun k=>k=w.heap.size+3) wr w':=E7.of hf.2 rfl
 exact ⟨hw,k.rowIs h.db (by omega) (by decide),k.rowIs h.fb (by omega) (by decide),k.rowIs h.r1 (by omega) (by decide),k.rowIs h.r2 (by omega) (by decide),k.rowIs h.n1 (fun e=>Cj h.wt.row h.n1 (by decide) e.symm) (by decide),k.rowIs h.n2 (fun e=>Cj h.wt.row h.n2 (by decide) e.symm) (by decide),k.own h.o1 (fun g e c=>Aq h.o1 h.wt.row (by decide) (by rw[e,c])) (by decide),k.own h.o2 (fun g e c=>Aq h.o2 h.wt.row (by decide) (by rw[e,c])) (by decide),k.own h.o3 (fun g e c=>Aq h.o3 h.wt.row (by decide) (by rw[e,c])) (by decide),k.rowIs h.bt (fun e=>Cj h.wt.row h.bt (by decide) e.symm) (by decide),h.hb,h.A8.trans hf.1⟩
theorem CR.cell (h:CR w vN vT vars ct bs vt m L V g1 g2 gb f1 f2 v1 v2 t1 t2 df b wr) (c:Nat) (u:Value) {b':Nat→Cl.Bt} (hc: ∀ q,(if q=c then u else KQ b q)=KQ b' q):CR w vN vT vars ct bs vt m L V g1 g2 gb f1 f2 v1 v2 t1 t2 df b' (wr.setCell ⟨gb,c,none⟩ u):=
 ⟨h.wt.other (Cj h.wt.row h.bt (by decide)) (Aq h.wt.own h.bt (by decide)) _,h.db.setOther (Cj h.db h.bt (by decide)) _,h.fb.setOther (Cj h.fb h.bt (by decide)) _,h.r1.setOther (Cj h.r1 h.bt (by decide)) _,h.r2.setOther (Cj h.r2 h.bt (by decide)) _,h.n1.setOther (Cj h.n1 h.bt (by decide)) _,h.n2.setOther (Cj h.n2 h.bt (by decide)) _,BC h.o1 (Aq h.o1 h.bt (by decide)) _,BC h.o2 (Aq h.o2 h.bt (by decide)) _,BC h.o3 (Aq h.o3 h.bt (by decide)) _,(h.bt.set c u).congr (fun q _=>hc q),h.hb,h.A8.setCell h.hb _⟩
theorem Np {P:Nat→Prop} (h0:P 0) (h1:P 1) (h2:P 2) (h3:P 3) (h4:P 4) (h5:P 5) (h6:P 6) (q:Nat) (hq:q<7):P q:=by
 match q,hq with
 |0,_=>exact h0
 |1,_=>exact h1
 |2,_=>exact h2
 |3,_=>exact h3
 |4,_=>exact h4
 |5,_=>exact h5
 |6,_=>exact h6
 |n+7,h=>omega
theorem CR.node (h:CR w vN vT vars ct bs vt m L V g1 g2 gb f1 f2 v1 v2 t1 t2 df b wr) (i n:Nat):CR w vN vT vars ct bs vt m L V g1 g2 gb f1 f2 v1 v2 t1 t2 df (Dy b i { b i with node:=n }) (wr.setCell ⟨gb,i*7,none⟩ (.int .i64 n)):=
 h.cell _ _ (OO b i 0 (by omega) { b i with node:=n } (.int .i64 n) (Np rfl rfl rfl rfl rfl rfl rfl))
theorem CR.adN (h:CR w vN vT vars ct bs vt m L V g1 g2 gb f1 f2 v1 v2 t1 t2 df b wr) (i n c:Nat):CR w vN vT vars ct bs vt m L V g1 g2 gb f1 f2 v1 v2 t1 t2 df (Dy (Dy b i { b i with v1:=n }) i { b i with v1:=n,c1:=c }) ((wr.setCell ⟨gb,i*7+1,none⟩ (.int .i64 n)).setCell ⟨gb,i*7+2,none⟩ (.int .i64 c)):=
 (h.cell _ _ (OO b i 1 (by omega) { b i with v1:=n } (.int .i64 n) (Np rfl rfl rfl rfl rfl rfl rfl))).cell _ _ (OO _ i 2 (by omega) { b i with v1:=n,c1:=c } (.int .i64 c) (by
   have e:Dy b i { b i with v1:=n } i={ b i with v1:=n }:=if_pos rfl
   rw[e]
   exact Np rfl rfl rfl rfl rfl rfl rfl))
theorem CR.adP (h:CR w vN vT vars ct bs vt m L V g1 g2 gb f1 f2 v1 v2 t1 t2 df b wr) (i n c:Nat):CR w vN vT vars ct bs vt m L V g1 g2 gb f1 f2 v1 v2 t1 t2 df (Dy (Dy b i { b i with v2:=n }) i { b i with v2:=n,c2:=c }) ((wr.setCell ⟨gb,i*7+3,none⟩ (.int .i64 n)).setCell ⟨gb,i*7+4,none⟩ (.int .i64 c)):=
 (h.cell _ _ (OO b i 3 (by omega) { b i with v2:=n } (.int .i64 n) (Np rfl rfl rfl rfl rfl rfl rfl))).cell _ _ (OO _ i 4 (by omega) { b i with v2:=n,c2:=c } (.int .i64 c) (by
   have e:Dy b i { b i with v2:=n } i={ b i with v2:=n }:=if_pos rfl
   rw[e]
   exact Np rfl rfl rfl rfl rfl rfl rfl))
theorem CR.ada (h:CR w vN vT vars ct bs vt m L V g1 g2 gb f1 f2 v1 v2 t1 t2 df b wr) (i n c:Nat):CR w vN vT vars ct bs vt m L V g1 g2 gb f1 f2 v1 v2 t1 t2 df (Dy (Dy b i { b i with vd:=n }) i { b i with vd:=n,cd:=c }) ((wr.setCell ⟨gb,i*7+5,none⟩ (.int .i64 n)).setCell ⟨gb,i*7+6,none⟩ (.int .i64 c)):=
 (h.cell _ _ (OO b i 5 (by omega) { b i with vd:=n } (.int .i64 n) (Np rfl rfl rfl rfl rfl rfl rfl))).cell _ _ (OO _ i 6 (by omega) { b i with vd:=n,cd:=c } (.int .i64 c) (by
   have e:Dy b i { b i with vd:=n } i={ b i with vd:=n }:=if_pos rfl
   rw[e]
   exact Np rfl rfl rfl rfl rfl rfl rfl))
theorem CR.congr (h:CR w vN vT vars ct bs vt m L V g1 g2 gb f1 f2 v1 v2 t1 t2 df b wr) {b':Nat→Cl.Bt} (hb: ∀ i,i<m→b i=b' i):CR w vN vT vars ct bs vt m L V g1 g2 gb f1 f2 v1 v2 t1 t2 df b' wr:=
 ⟨h.wt,h.db,h.fb,h.r1,h.r2,h.n1,h.n2,h.o1,h.o2,h.o3,h.bt.congr (fun q hq=>by unfold KQ;rw[hb _ (by omega)]),h.hb,h.A8⟩
theorem wN {gb m:Nat} (hm:m≤1000) {b:Nat→Cl.Bt} (h:wr.rowIs gb 113 (m*7) (KQ b)):wr.ownsRow 0 113 7 (.slice (some ⟨gb,0,none⟩) m m) m (((List.range m).map b).flatMap Cl.Bt.cells):=by
 obtain ⟨cs,hg,hs,hc⟩:=h
 refine ⟨by rw[Cl.dZ];simp,.inr ⟨gb,_,cs,rfl,Nat.zero_le _,hg,Nat.le_refl _,by unfold maxLen;omega,by omega,?_⟩⟩
 apply List.ext_getElem?
 intro c
 by_cases hi:c<m*7
 ·have h1:=hc c hi
  rw[List.getElem?_take,if_pos (by omega),Array.getElem?_toList,h1]
  have h2:=Cl.d_ ((List.range m).map b) (c/7) (c%7) (by simp;omega) (Nat.mod_lt _ (by omega))
  rw[show c/7*7+c%7=c by omega] at h2
  rw[h2]
  unfold KQ
  rw[show ((List.range m).map b).getD (c/7) {}=b (c/7) by simp[show c/7<m by omega]]
  have h7:c%7<7:=Nat.mod_lt _ (by omega)
  generalize c%7=q at h7
  exact Np (P:=fun q=>some ((b (c/7)).cells.getD q undef)=(b (c/7)).cells[q]?) rfl rfl rfl rfl rfl rfl rfl q h7
 ·rw[List.getElem?_take,if_neg (by omega)]
  exact (List.getElem?_eq_none (by rw[Cl.dZ];simp;omega)).symm
end
end Go.Proofs.YtgddmpmcnjlcjaaGreatDoor
