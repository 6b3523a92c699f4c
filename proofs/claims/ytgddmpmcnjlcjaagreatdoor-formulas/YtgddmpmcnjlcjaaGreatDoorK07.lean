import Derived.Test.YtgddmpmcnjlcjaaGreatDoorK06
import Derived.Test.YtgddmpmcnjlcjaaGreatDoorB40
import Derived.Test.YtgddmpmcnjlcjaaGreatDoorK01
import Derived.Deep.QuietTactic
import Derived.BigQuiet
import Derived.Deep.RegionLaw
set_option maxRecDepth 100000
set_option maxHeartbeats 400000
namespace Go.Proofs.YtgddmpmcnjlcjaaGreatDoor.Tm
open Lk (Wd wd RS isName lat cut bodyAt num? oper?)
open Rf (Rs blk isDecl declare wElse wEnd wIf wWhile wSecret wPublic wVar wArray fits atom scalar kindOf)
set_option linter.unusedVariables false
inductive TsOk (ds:List Rf.Dc):List Rf.Tr→Prop
 |nil:TsOk ds []
 |plain {w:List Wd} {ts:List Rf.Tr} (h:fits ds w=true) (hn: ¬(wd w 0=wIf∨wd w 0=wWhile)) (hr:TsOk ds ts):TsOk ds (.node w [] []::ts)
 |cond {w:List Wd} {b o ts:List Rf.Tr} (h2:w.length=2) (ha:atom ds (wd w 1)=true) (hw:wd w 0=wIf∨wd w 0=wWhile) (hb:TsOk ds b) (ho:TsOk ds o) (hr:TsOk ds ts):TsOk ds (.node w b o::ts)
theorem TsOk.append {ds:List Rf.Dc} {a b:List Rf.Tr} (h:TsOk ds a) (h2:TsOk ds b):TsOk ds (a++b):=by
 induction h with
 |nil=>exact h2
 |plain h hn hr ih=>exact .plain h hn ih
 |cond h2 ha hw hb ho hr ihb Ur ih=>exact .cond h2 ha hw hb ho ih
theorem yY {L:List Wd} {f depth:Nat} {s:Rs} {out BV:List Rf.Tr} {s2:Rs} (h:blk L (f+1) depth s out=(true,BV,s2)) (hl:s.at_+1<L.length) (hd:isDecl (wd (cut 32 (L.getD s.at_ [])) 0)=false) (hi:wd (cut 32 (L.getD s.at_ [])) 0=wIf∨wd (cut 32 (L.getD s.at_ [])) 0=wWhile):
  atom s.ds (wd (cut 32 (L.getD s.at_ [])) 1)=true:=by
 unfold blk at h
 rw[if_pos hl] at h
 generalize cut 32 (L.getD s.at_ [])=w at h hd hi
 simp only at h
 rw[if_neg (by rw[hd];simp)] at h
 have he: ¬(wd w 0=wElse∨wd w 0=wEnd):=by
  intro c
  rcases hi with hi|hi <;> rcases c with c|c <;> rw[hi] at c <;> revert c <;> decide
 rw[if_neg he] at h
 by_cases h12:s.cnt=12
 ·rw[if_pos h12] at h;cases h
 ·rw[if_neg h12,if_pos hi] at h
  cases ha:atom s.ds (wd w 1) with
  |true=>rfl
  |false=>rw[if_neg (fun c=>by rw[ha] at c;simp at c)] at h;cases h
theorem acg {L:List Wd} {f:Nat}: ∀ {depth:Nat} {s:Rs} {out BV:List Rf.Tr} {s2:Rs},blk L f depth s out=(true,BV,s2)→TsOk s.ds out→(s.AA=false→out=[])→TsOk s2.ds BV∧(s.AA=true→s2.ds=s.ds∧s2.AA=true):=by
 induction f with
 |zero=>
  intro depth s out BV s2 h h1 h2
  obtain ⟨_,e1,e2⟩:=IL h (.inl rfl)
  rw[e1,e2];exact ⟨h1,fun e=>⟨rfl,e⟩⟩
 |succ f ih=>
  intro depth s out BV s2 h hk hn
  by_cases hl:s.at_+1<L.length
  ·have hat:=yY h hl
   cases OS h hl with
   |decl ds h1 h2 h=>
    have hb:s.AA=false:=by
     cases e:s.AA with
     |false=>rfl
     |true=>rw[e,Rf.Rm] at h2;cases h2
    have h0:=hn hb
    subst h0
    refine ⟨(ih h .nil (fun _=>rfl)).1,fun e=>?_⟩
    rw[hb] at e;cases e
   |stop h1 h2 h3 h4 h5=>rw[h4,h5];exact ⟨hk,fun _=>⟨rfl,rfl⟩⟩
   |one b sb h1 h2 h3 hb h4 h5=>
    obtain ⟨b1,b2⟩:=ih hb .nil (fun _=>rfl)
    obtain ⟨e1,e2⟩:=b2 rfl
    have e1:sb.ds=s.ds:=e1
    obtain ⟨c1,c2⟩:=ih h5 (by show TsOk sb.ds _;rw[e1] at b1 ⊢;exact hk.append (.cond h3 (hat h1 h2) h2 b1 .nil .nil)) (fun e=>by have e:sb.AA=false:=e;rw[e2] at e;cases e)
    obtain ⟨d1,d2⟩:=c2 e2
    exact ⟨c1,fun _=>⟨d1.trans e1,d2⟩⟩
   |two b o sb so h1 h2 h3 hb h4 h5 h6 h7=>
    obtain ⟨b1,b2⟩:=ih hb .nil (fun _=>rfl)
    obtain ⟨e1,e2⟩:=b2 rfl
    have e1:sb.ds=s.ds:=e1
    obtain ⟨o1,o2⟩:=ih h5 .nil (fun _=>rfl)
    obtain ⟨q1,q2⟩:=o2 e2
    have q1:so.ds=sb.ds:=q1
    obtain ⟨c1,c2⟩:=ih h7 (by show TsOk so.ds _;have e3:so.ds=s.ds:=q1.trans e1;rw[e3] at o1 ⊢;rw[e1] at b1;exact hk.append (.cond h3 (hat h1 (.inl h2)) (.inl h2) b1 o1 .nil)) (fun e=>by have e:so.AA=false:=e;rw[q2] at e;cases e)
    obtain ⟨d1,d2⟩:=c2 q2
    exact ⟨c1,fun _=>⟨d1.trans (q1.trans e1),d2⟩⟩
   |plain h1 h2 h3 h4 h=>
    obtain ⟨c1,c2⟩:=ih h (hk.append (.plain h4 h3 .nil)) (fun e=>by cases e)
    exact ⟨c1,fun _=>c2 rfl⟩
  ·obtain ⟨_,e1,e2⟩:=IL h (.inr hl)
   rw[e1,e2];exact ⟨hk,fun e=>⟨rfl,e⟩⟩
def DsOk (ds:List Rf.Dc):Prop:= ∀ d∈ds,isName d.name=true∧d.size≤4∧(d.kind=wSecret∨d.kind=wPublic∨d.kind=wVar∨d.kind=wArray)
theorem po {ds ds1:List Rf.Dc} {AA:Bool} {w:List Wd} (h:declare ds AA w=some ds1): ∃ n,ds1=ds++[⟨wd w 1,wd w 0,n⟩]∧n≤4∧isName (wd w 1)=true:=by
 unfold declare at h
 by_cases c:AA=false∧w.length=(if wd w 0=wArray then 3 else 2)∧isName (wd w 1)=true∧kindOf ds (wd w 1)=[]
 ·rw[if_pos c] at h
  by_cases a:wd w 0=wArray
  ·rw[if_pos a] at h
   cases hn:num? (wd w 2) with
   |none=>rw[hn] at h;cases h
   |some n=>
    rw[hn] at h
    simp only at h
    by_cases b:1≤n∧n≤4∧Rf.many ds wArray<2
    ·rw[if_pos b] at h;cases h;exact ⟨n,rfl,b.2.1,c.2.2.1⟩
    ·rw[if_neg b] at h;cases h
  ·rw[if_neg a] at h
   by_cases v:wd w 0=wVar
   ·rw[if_pos v] at h
    by_cases b:Rf.many ds wVar<4
    ·rw[if_pos b] at h;cases h;exact ⟨0,rfl,by omega,c.2.2.1⟩
    ·rw[if_neg b] at h;cases h
   ·rw[if_neg v] at h
    by_cases b:Rf.many ds wVar=0∧Rf.many ds wSecret+Rf.many ds wPublic<3
    ·rw[if_pos b] at h;cases h;exact ⟨0,rfl,by omega,c.2.2.1⟩
    ·rw[if_neg b] at h;cases h
 ·rw[if_neg c] at h;cases h
theorem uQ {L:List Wd} {f:Nat}: ∀ {depth:Nat} {s:Rs} {out BV:List Rf.Tr} {s2:Rs},blk L f depth s out=(true,BV,s2)→DsOk s.ds→DsOk s2.ds∧s2.ds.length+s.at_≤s.ds.length+s2.at_:=by
 induction f with
 |zero=>intro depth s out BV s2 h p;rw[(IL h (.inl rfl)).2.2];exact ⟨p,Nat.le_refl _⟩
 |succ f ih=>
  intro depth s out BV s2 h p
  by_cases hl:s.at_+1<L.length
  ·cases OS h hl with
   |decl ds h1 h2 h=>
    obtain ⟨n,e,hn,hi⟩:=po h2
    obtain ⟨c1,c2⟩:=ih h (by
     show DsOk ds
     rw[e]
     intro d hd
     rcases List.mem_append.1 hd with hd|hd
     ·exact p d hd
     ·have hd:d=_:=List.mem_singleton.1 hd
      rw[hd]
      refine ⟨hi,hn,?_⟩
      simp only[isDecl,Bool.or_eq_true,beq_iff_eq] at h1
      rcases h1 with ((h1|h1)|h1)|h1
      ·exact .inl h1
      ·exact .inr (.inl h1)
      ·exact .inr (.inr (.inl h1))
      ·exact .inr (.inr (.inr h1)))
    refine ⟨c1,?_⟩
    have e2:ds.length=s.ds.length+1:=by rw[e];simp
    have c2:s2.ds.length+(s.at_+1)≤ds.length+s2.at_:=c2
    omega
   |stop h1 h2 h3 h4 h5=>rw[h5];exact ⟨p,Nat.le_refl _⟩
   |one b sb h1 h2 h3 hb h4 h5=>
    obtain ⟨a1,a2⟩:=ih hb p
    obtain ⟨c1,c2⟩:=ih h5 (show DsOk sb.ds from a1)
    have a2:sb.ds.length+(s.at_+1)≤s.ds.length+sb.at_:=a2
    have c2:s2.ds.length+(sb.at_+1)≤sb.ds.length+s2.at_:=c2
    exact ⟨c1,by omega⟩
   |two b o sb so h1 h2 h3 hb h4 h5 h6 h7=>
    obtain ⟨a1,a2⟩:=ih hb p
    obtain ⟨b1,b2⟩:=ih h5 (show DsOk sb.ds from a1)
    obtain ⟨c1,c2⟩:=ih h7 (show DsOk so.ds from b1)
    have a2:sb.ds.length+(s.at_+1)≤s.ds.length+sb.at_:=a2
    have b2:so.ds.length+(sb.at_+1)≤sb.ds.length+so.at_:=b2
    have c2:s2.ds.length+(so.at_+1)≤so.ds.length+s2.at_:=c2
    exact ⟨c1,by omega⟩
   |plain h1 h2 h3 h4 h=>
    obtain ⟨c1,c2⟩:=ih h p
    have c2:s2.ds.length+(s.at_+1)≤s.ds.length+s2.at_:=c2
    exact ⟨c1,by omega⟩
  ·rw[(IL h (.inr hl)).2.2];exact ⟨p,Nat.le_refl _⟩
def Wd16 (m:M):Prop:=(∀ i,m.vals i<16)∧ ∀ i j,m.AR i j<16
theorem OU {w:Wd} {n:Nat} (h:num? w=some n):n<16:=by
 have:=Lk.OU h
 omega
theorem Wd16.value {ds:List Rf.Dc} {m:M} (h:Wd16 m) (w:Wd):value ds m w<16:=by
 unfold Tm.value
 cases hn:num? w with
 |some n=>exact OU hn
 |none=>exact h.1 _
theorem Vu {w:Wd} {o:Nat} (h:oper? w=some o):o≤10:=Lk.Vu h
theorem kr {f:Nat→Nat} {i v:Nat} (h: ∀ j,f j<16) (hv:v<16): ∀ j,Lk.upd f i v j<16:=by
 intro j
 unfold Lk.upd
 split
 ·exact hv
 ·exact h j
theorem Wd16.at {m:M} (h:Wd16 m) (r:List (List Rf.Tr×Nat)):Wd16 { m with at_:=r }:=h
theorem Wd16.plain {ds:List Rf.Dc} {m:M} (h:Wd16 m) (w:List Wd):Wd16 (plain ds w m).2:=by
 unfold Tm.plain
 split
 ·exact h
 ·split
  ·split
   ·exact ⟨kr h.1 (h.2 _ _),h.2⟩
   ·exact h
  ·split
   ·split
    ·refine ⟨h.1,fun i j=>?_⟩
     show Lk.upd m.AR _ _ i j<16
     unfold Lk.upd
     split
     ·dsimp only
      split
      ·exact h.value _
      ·exact h.2 _ _
     ·exact h.2 i j
    ·exact h
   ·refine ⟨kr h.1 ?_,h.2⟩
    split
    ·refine SG _ _ _ ?_ (h.value _) (h.value _)
     cases ho:oper? (wd w 3) with
     |none=>simp
     |some o=>simpa using Vu ho
    ·exact h.value _
theorem Wd16.step {ds:List Rf.Dc} {m:M} (h:Wd16 m):Wd16 (step ds m).2:=by
 unfold Tm.step
 split
 ·exact h
 ·split
  ·exact h
  ·dsimp only
   split
   ·split <;> exact h
   ·exact Wd16.plain (h.at _) _
theorem Zx: ∀ (ds:List Rf.Dc) (k:Nat) (ins:List Nat) (j:Nat),(∀ x∈ins,x<16)→BZ ds k ins j<16
 |[],_,_,_,_=>by show (0:Nat)<16;omega
 |d::ds,k,ins,j,h=>by
  unfold BZ
  have ht: ∀ x∈ins.tail,x<16:=fun x hx=>h x (List.mem_of_mem_tail hx)
  split
  ·split
   ·cases ins with
    |nil=>show (0:Nat)<16;omega
    |cons x l=>exact h x (List.mem_cons_self ..)
   ·exact Zx ds (k+1) ins.tail j ht
  ·split
   ·omega
   ·exact Zx ds (k+1) ins j h
theorem Wd16.start (ds:List Rf.Dc) (b:List Rf.Tr) (ins:List Nat) (h: ∀ x∈ins,x<16):Wd16 (start ds b ins):=⟨fun i=>Zx ds 0 ins i h,fun _ _=>by show (0:Nat)<16;omega⟩
end Go.Proofs.YtgddmpmcnjlcjaaGreatDoor.Tm
namespace Go.Proofs.YtgddmpmcnjlcjaaGreatDoor
open Go.RowKit
open Tm (TsOk DsOk Wd16)
set_option linter.unusedVariables false
def Dh (l:List DB) (i:Nat):Nat:=(CS l i).size
def El (l:List DB):List ByteArray:=l.map DB.name
theorem SX (l:List DB):(El l).length=l.length:=by simp[El]
theorem jH (l:List DB):(El l).map ByteArray.toList=(A7 l).map Rf.Dc.name:=by
 unfold El A7
 rw[List.map_map,List.map_map]
 rfl
theorem WO (l:List DB) (i:Nat):Tm.size (A7 l) i=Dh l i:=by
 unfold Tm.size A7 Dh CS
 rw[List.map_map]
 induction l generalizing i with
 |nil=>cases i <;> rfl
 |cons x l ih=>
  cases i with
  |zero=>rfl
  |succ i=>exact ih i
theorem ach {l:List DB} {i:Nat} (h:i<l.length):(CS l i).dc∈A7 l:=by
 unfold CS A7
 have e:l.getD i ⟨ByteArray.empty,ByteArray.empty,0⟩=l[i]:=by simp[List.getD,h]
 rw[e]
 exact List.mem_map.2 ⟨l[i],List.getElem_mem h,rfl⟩
structure PS (w0:World) (P:Nat) (l:List DB):Prop where
 rep: ∃ base vn vk vz vb,Ae w0 base P l vn vk vz vb
 len:l.length≤1000
 ok:DsOk (A7 l)
structure P7 (w0:World) (A:Nat→Prop) (ds:List Rf.Dc) (N:Nat) (p:Pl) (x:List Rf.Tr×Nat):Prop where
 i:p.i=x.2
 le:x.2≤N
 sub:Sub w0 A (.slice p.al p.nl p.cl) x.1
 ok:TsOk ds x.1
inductive Hw (w0:World) (A:Nat→Prop) (ds:List Rf.Dc) (N:Nat):List Pl→List (List Rf.Tr×Nat)→Prop
 |nil:Hw w0 A ds N [] []
 |cons {p:Pl} {x:List Rf.Tr×Nat} {a:List Pl} {r:List (List Rf.Tr×Nat)} (h:P7 w0 A ds N p x) (t:Hw w0 A ds N a r):Hw w0 A ds N (p::a) (x::r)
section
variable {w0:World} {A:Nat→Prop} {ds:List Rf.Dc} {N N':Nat} {p:Pl} {x:List Rf.Tr×Nat} {a:List Pl} {r:List (List Rf.Tr×Nat)}
theorem P7.len (h:P7 w0 A ds N p x):p.nl=x.1.length:=by
 obtain ⟨bs,⟨ad,c,e,_⟩,ht⟩:=h.sub
 rw[(slice_inj e).2.1]
 exact ht.len
theorem P7.up (h:P7 w0 A ds N p x) (hN:N≤N'):P7 w0 A ds N' p x:=⟨h.i,Nat.le_trans h.le hN,h.sub,h.ok⟩
theorem Hw.up (h:Hw w0 A ds N a r) (hN:N≤N'):Hw w0 A ds N' a r:=by
 induction h with
 |nil=>exact .nil
 |cons h t ih=>exact .cons (h.up hN) ih
theorem Hw.pop (h:Hw w0 A ds N a r):Hw w0 A ds N (a.dropWhile fun p=>decide (p.nl≤p.i)) (Tm.pop r):=by
 induction h with
 |nil=>exact .nil
 | @cons p x a r h t ih=>
  obtain ⟨ts,i⟩:=x
  have e1:=h.len
  have e2:=h.i
  rw[List.dropWhile_cons]
  unfold Tm.pop
  by_cases c:i<ts.length
  ·rw[if_pos c,if_neg (by dsimp only at e1 e2;simp;omega)]
   exact .cons h t
  ·rw[if_neg c,if_pos (by dsimp only at e1 e2;simp;omega)]
   exact ih
theorem Hw.mem (h:Hw w0 A ds N a r) {p:Pl} (hp:p∈a): ∃ x,P7 w0 A ds N p x:=by
 induction h with
 |nil=>cases hp
 |cons h t ih=>
  rcases List.mem_cons.1 hp with e|e
  ·exact ⟨_,e ▸ h⟩
  ·exact ih e
theorem Hw.len (h:Hw w0 A ds N a r):a.length=r.length:=by
 induction h with
 |nil=>rfl
 |cons h t ih=>simp[ih]
end
def IQ (P gv n:Nat) (vc va:Value) (bad:Bool) (i:Nat):Value:=if i=0 then .pointer (some ⟨P,0,none⟩) else if i=1 then .slice (some ⟨gv,0,none⟩) n n else if i=2 then vc else if i=3 then va else .bool bad
def NQ (n gc cc:Nat):Value:=if n=0 then .slice none 0 0 else .slice (some ⟨gc,0,none⟩) n cc
structure Sep (F:Nat→Prop) (lo R gv gc n:Nat) (ga:Nat→Nat):Prop where
 f: ∀ k,F k→lo≤k∧k≠R∧k≠gv
 fa: ∀ k i,F k→i<n→k≠ga i
 fc: ∀ k,F k→0<n→k≠gc
 r:lo≤R
 v:lo≤gv
 a: ∀ i,i<n→lo≤ga i
 rv:R≠gv
 rc:R≠gc
 vc:gv≠gc
 ra: ∀ i,i<n→ga i≠R
 va: ∀ i,i<n→ga i≠gv
 ca: ∀ i,i<n→ga i≠gc
 aa: ∀ i j,i<n→j<n→ga i=ga j→i=j
structure ady (w0:World) (F A:Nat→Prop) (P:Nat) (l:List DB) (R gv gc cc:Nat) (ga:Nat→Nat) (N:Nat) (m:Tm.M) (w:World) (st:List Pl) (g ca:Nat):Prop where
 row:w.rowIs R 127 5 (IQ P gv l.length (NQ l.length gc cc) (.slice (some ⟨g,0,none⟩) st.length ca) m.bad)
 own:w.ownsRow w0.heap.size 167 2 (.slice (some ⟨g,0,none⟩) st.length ca) st.length (Ed (st.map Pl.vp))
 Ji: ¬F g
 JH:g≠R
 Jj:g≠gv
 Kn:0<l.length→g≠gc
 Jk: ∀ i,i<l.length→g≠ga i
 AO:Hw w0 A (A7 l) N st.reverse m.at_
 len:st.length≤N
structure Aj (w0 wf:World) (F A:Nat→Prop) (P:Nat) (l:List DB) (R gv gc cc:Nat) (ga:Nat→Nat) (N:Nat) (m:Tm.M) (w:World):Prop where
 A8:Below w0.heap.size w0 w
 JI: ∀ k,F k→k<w.heap.size∧w.heap[k]? =wf.heap[k]?
 sep:Sep F w0.heap.size R gv gc l.length ga
 at_: ∃ st g ca,ady w0 F A P l R gv gc cc ga N m w st g ca
 vals:w.rowIs gv 3 l.length (fun i=>.int .i64 (m.vals i))
 JW: ∀ i,i<l.length→w.cell? ⟨gc,i,none⟩=some (.slice (some ⟨ga i,0,none⟩) (Dh l i) (Dh l i))
 D6: ∀ i,i<l.length→w.rowIs (ga i) 3 (Dh l i) (fun j=>.int .i64 (m.AR i j))
theorem rA {w:World} {base g ca n k:Nat} {t:TypeId} {size:Nat} {xs ys:List Value} (h:w.ownsRow base t size (.slice (some ⟨g,0,none⟩) n ca) n xs) (hk:k≤n) (hy:xs.take (k*size)=ys):w.ownsRow base t size (.slice (some ⟨g,0,none⟩) k ca) k ys:=by
 rcases h.2 with ⟨hv,_⟩|⟨g',cap,cur,hv,h1,h2,h3,h4,h5,h6⟩
 ·cases hv
 ·cases hv
  have hm:k*size≤n*size:=Nat.mul_le_mul_right _ hk
  refine ⟨?_,.inr ⟨g,ca,cur,rfl,h1,h2,Nat.le_trans hk h3,h4,h5,?_⟩⟩
  ·rw[←hy,List.length_take,h.1];omega
  ·rw[←hy, ←h6,List.take_take,Nat.min_eq_left hm]
theorem uR (st:List Pl):Dz st=st.take (Dz st).length:=by
 unfold Dz
 have h: ∀ l:List Pl,(l.dropWhile fun p=>decide (p.nl≤p.i))=l.drop (l.length - (l.dropWhile fun p=>decide (p.nl≤p.i)).length):=by
  intro l
  induction l with
  |nil=>rfl
  |cons x l ih=>
   rw[List.dropWhile_cons]
   have hl:(l.dropWhile fun p=>decide (p.nl≤p.i)).length≤l.length:=(List.dropWhile_sublist _).length_le
   split
   ·rw[show (x::l).length - (l.dropWhile fun p=>decide (p.nl≤p.i)).length=(l.length - (l.dropWhile fun p=>decide (p.nl≤p.i)).length)+1 by simp;omega]
    rw[List.drop_succ_cons]
    exact ih
   ·rw[Nat.sub_self];rfl
 have h2:=h st.reverse
 rw[List.length_reverse] at h2
 rw[List.length_reverse]
 conv=>lhs;rw[h2]
 have hl:(st.reverse.dropWhile fun p=>decide (p.nl≤p.i)).length≤st.length:=by
  have:=(List.dropWhile_sublist (fun p:Pl=>decide (p.nl≤p.i)) (l:=st.reverse)).length_le
  simpa using this
 rw[List.drop_reverse,List.reverse_reverse]
 congr 1
 omega
theorem abL (a:List Pl) (pl:Pl) (k:Nat):(Ed ((a++[pl]).map Pl.vp)).set (a.length*2+1) (.int .i64 (k:Int))=Ed ((a++[{ pl with i:=k }]).map Pl.vp):=by
 induction a with
 |nil=>rfl
 |cons x a ih=>
  have e1:Ed ((x::a++[pl]).map Pl.vp)=.slice x.al x.nl x.cl:: .int .i64 x.i::Ed ((a++[pl]).map Pl.vp):=rfl
  have e2:Ed ((x::a++[{ pl with i:=k }]).map Pl.vp)=.slice x.al x.nl x.cl:: .int .i64 x.i::Ed ((a++[{ pl with i:=k }]).map Pl.vp):=rfl
  rw[e1,e2,show (x::a).length*2+1=a.length*2+1+1+1 by simp;omega,List.set_cons_succ,List.set_cons_succ,ih]
theorem yZ (st:List Pl) (k:Nat):(Ed (st.map Pl.vp)).take (k*2)=Ed ((st.take k).map Pl.vp):=by
 induction st generalizing k with
 |nil=>cases k <;> rfl
 |cons x st ih=>
  cases k with
  |zero=>rfl
  |succ k=>
   have e:Ed ((x::st).map Pl.vp)=.slice x.al x.nl x.cl:: .int .i64 x.i::Ed (st.map Pl.vp):=rfl
   rw[e,show (k+1)*2=k*2+1+1 by omega,List.take_succ_cons,List.take_succ_cons,ih]
   rfl
section
variable {w0 wf:World} {F A:Nat→Prop} {P:Nat} {l:List DB} {R gv gc cc:Nat} {ga:Nat→Nat} {N N':Nat} {m:Tm.M} {w w':World}
theorem Aj.up (h:Aj w0 wf F A P l R gv gc cc ga N m w) (hN:N≤N'):Aj w0 wf F A P l R gv gc cc ga N' m w:=by
 obtain ⟨st,g,ca,h1⟩:=h.at_
 exact ⟨h.A8,h.JI,h.sep,⟨st,g,ca,h1.row,h1.own,h1.Ji,h1.JH,h1.Jj,h1.Kn,h1.Jk,h1.AO.up hN,Nat.le_trans h1.len hN⟩,h.vals,h.JW,h.D6⟩
theorem Aj.drew (h:Aj w0 wf F A P l R gv gc cc ga N m w) (k:Nat):Aj w0 wf F A P l R gv gc cc ga N m (w.drewN k):=by
 obtain ⟨st,g,ca,h1⟩:=h.at_
 exact ⟨below_drewN h.A8 k,h.JI,h.sep,⟨st,g,ca,h1.row.of_block rfl,BP h1.own (fun _ _=>rfl),h1.Ji,h1.JH,h1.Jj,h1.Kn,h1.Jk,h1.AO,h1.len⟩,h.vals.of_block rfl,fun i hi=>by simpa using h.JW i hi,fun i hi=>(h.D6 i hi).of_block rfl⟩
theorem uS (P gv n:Nat) (vc va:Value) (b:Bool) (u:Bool) (i:Nat) (hi:i<5):(if i=4 then Value.bool u else IQ P gv n vc va b i)=IQ P gv n vc va u i:=by
 match i,hi with
 |0,_=>rfl
 |1,_=>rfl
 |2,_=>rfl
 |3,_=>rfl
 |4,_=>rfl
 |n+5,h=>omega
theorem Z8 (P gv n:Nat) (vc va:Value) (b:Bool) (u:Value) (i:Nat) (hi:i<5):(if i=3 then u else IQ P gv n vc va b i)=IQ P gv n vc u b i:=by
 match i,hi with
 |0,_=>rfl
 |1,_=>rfl
 |2,_=>rfl
 |3,_=>rfl
 |4,_=>rfl
 |n+5,h=>omega
theorem Aj.WQ (h:Aj w0 wf F A P l R gv gc cc ga N m w) {b i:Nat} {u:Value} (hb: ∀ k,F k→k≠b): ∀ k,F k→k<(w.setCell ⟨b,i,none⟩ u).heap.size∧(w.setCell ⟨b,i,none⟩ u).heap[k]? =wf.heap[k]? :=fun k hk=>
 ⟨by simpa using (h.JI k hk).1,(Below.heap_setCell w ⟨b,i,none⟩ u k (hb k hk)).trans (h.JI k hk).2⟩
theorem Aj.ku (h:Aj w0 wf F A P l R gv gc cc ga N m w):Aj w0 wf F A P l R gv gc cc ga N { m with bad:=true } (w.setCell ⟨R,4,none⟩ (.bool true)):=by
 obtain ⟨st,g,ca,h1⟩:=h.at_
 exact ⟨h.A8.setCell h.sep.r _,h.WQ (fun k hk=>(h.sep.f k hk).2.1),h.sep,⟨st,g,ca,(h1.row.set 4 _).congr (fun i hi=>uS _ _ _ _ _ _ _ i hi),BC h1.own (by simp[Value.ownBlock];exact h1.JH) _,h1.Ji,h1.JH,h1.Jj,h1.Kn,h1.Jk,h1.AO,h1.len⟩,
  h.vals.setOther h.sep.rv.symm _,fun i hi=>(World.cell?_of_block (Below.heap_setCell w ⟨R,4,none⟩ _ gc (fun e=>h.sep.rc e.symm))).trans (h.JW i hi),fun i hi=>(h.D6 i hi).setOther (h.sep.ra i hi) _⟩
theorem Aj.Zz (h:Aj w0 wf F A P l R gv gc cc ga N m w) (i v:Nat):Aj w0 wf F A P l R gv gc cc ga N { m with vals:=Lk.upd m.vals i v } (w.setCell ⟨gv,i,none⟩ (.int .i64 v)):=by
 obtain ⟨st,g,ca,h1⟩:=h.at_
 refine ⟨h.A8.setCell h.sep.v _,h.WQ (fun k hk=>(h.sep.f k hk).2.2),h.sep,⟨st,g,ca,h1.row.setOther h.sep.rv _,BC h1.own (by simp[Value.ownBlock];exact h1.Jj) _,h1.Ji,h1.JH,h1.Jj,h1.Kn,h1.Jk,h1.AO,h1.len⟩,
  (h.vals.set i _).congr (fun j hj=>?_),fun i hi=>(World.cell?_of_block (Below.heap_setCell w ⟨gv,_,none⟩ _ gc (fun e=>h.sep.vc e.symm))).trans (h.JW i hi),fun i hi=>(h.D6 i hi).setOther (h.sep.va i hi) _⟩
 show _=Value.int .i64 ((Lk.upd m.vals i v j:Nat):Int)
 unfold Lk.upd
 split <;> rfl
theorem Aj.aci (h:Aj w0 wf F A P l R gv gc cc ga N m w) (a i v:Nat) (ha:a<l.length):Aj w0 wf F A P l R gv gc cc ga N { m with AR:=Lk.upd m.AR a (Lk.upd (m.AR a) i v) } (w.setCell ⟨ga a,i,none⟩ (.int .i64 v)):=by
 obtain ⟨st,g,ca,h1⟩:=h.at_
 refine ⟨h.A8.setCell (h.sep.a a ha) _,h.WQ (fun k hk=>h.sep.fa k a hk ha),h.sep,⟨st,g,ca,h1.row.setOther (h.sep.ra a ha).symm _,BC h1.own (by simp[Value.ownBlock];exact h1.Jk a ha) _,h1.Ji,h1.JH,h1.Jj,h1.Kn,h1.Jk,h1.AO,h1.len⟩,
  h.vals.setOther (h.sep.va a ha).symm _,fun j hj=>(World.cell?_of_block (Below.heap_setCell w ⟨ga a,i,none⟩ _ gc (fun e=>h.sep.ca a ha e.symm))).trans (h.JW j hj),fun j hj=>?_⟩
 by_cases e:j=a
 ·subst e
  refine ((h.D6 j hj).set i _).congr (fun x hx=>?_)
  show _=Value.int .i64 ((Lk.upd m.AR j (Lk.upd (m.AR j) i v) j x:Nat):Int)
  unfold Lk.upd
  rw[if_pos rfl]
  split <;> rfl
 ·refine ((h.D6 j hj).setOther (fun c=>e (h.sep.aa j a hj ha c)) _).congr (fun x hx=>?_)
  show _=Value.int .i64 ((Lk.upd m.AR a (Lk.upd (m.AR a) i v) j x:Nat):Int)
  unfold Lk.upd
  rw[if_neg e]
theorem Aj.rd (h:Aj w0 wf F A P l R gv gc cc ga N m w) (p:PS w0 P l) (h0:0<l.length): ∃ gn cn,RD R P gn cn (El l) gv l.length m.vals w:=by
 obtain ⟨st,g,ca,h1⟩:=h.at_
 obtain ⟨base,vn,vk,vz,vb,rep⟩:=p.rep
 have hn:=SX l
 rcases rep.nm.2 with ⟨_,c⟩|⟨gn,cn,cur,hv,_⟩
 ·omega
 ·subst hv
  refine ⟨gn,cn,h1.row.cell (i:=0) (by omega),?_,?_,by rw[hn];exact p.len,?_,?_⟩
  ·rw[hn]
   exact (World.cell?_of_block (h.A8.block P rep.lt)).trans (rep.row.cell (i:=0) (by omega))
  ·intro i hi
   rw[hn] at hi
   have hc:=rep.nm.cellAt i (by omega)
   have hlt:=(rep.nm.lt gn rfl).2
   refine ((World.cell?_of_block (h.A8.block gn hlt)).trans hc).trans ?_
   simp[El,hi]
  ·rw[hn];exact h1.row.cell (i:=1) (by omega)
  ·intro i hi
   rw[hn] at hi
   exact h.vals.cell hi
theorem Aj.rc (h:Aj w0 wf F A P l R gv gc cc ga N m w) (p:PS w0 P l) (h0:0<l.length): ∃ gs cs,RC R P (El l).length gs cs gc cc ga (Dh l) m.AR w:=by
 obtain ⟨st,g,ca,h1⟩:=h.at_
 obtain ⟨base,vn,vk,vz,vb,rep⟩:=p.rep
 have hn:=SX l
 rw[hn]
 rcases rep.sz.2 with ⟨_,c⟩|⟨gs,cs,cur,hv,_⟩
 ·omega
 ·subst hv
  refine ⟨gs,cs,?_,?_,?_,h.JW,fun i j hi hj=>(h.D6 i hi).cell hj,fun i j hi hj=>(h.D6 i hi).frozen j,h1.row.frozen 4,m.bad,h1.row.cell (i:=4) (by omega)⟩
  ·exact (World.cell?_of_block (h.A8.block P rep.lt)).trans (rep.row.cell (i:=2) (by omega))
  ·intro i hi
   have hc:=rep.sz.cellAt i (by omega)
   have hlt:=(rep.sz.lt gs rfl).2
   refine ((World.cell?_of_block (h.A8.block gs hlt)).trans hc).trans ?_
   simp[hi,Dh,CS]
  ·have e:=h1.row.cell (i:=2) (by omega)
   rw[show IQ P gv l.length (NQ l.length gc cc) (.slice (some ⟨g,0,none⟩) st.length ca) m.bad 2=NQ l.length gc cc from rfl] at e
   unfold NQ at e
   rw[if_neg (by omega)] at e
   exact e
end
theorem gU {ds:List Rf.Dc} (hd:DsOk ds) {w:Lk.Wd} (h:Rf.kindOf ds w≠[]):(Rf.oneOf w (ds.map Rf.Dc.name)).isSome=true∧Lk.isName w=true:=by
 induction ds with
 |nil=>exact absurd rfl h
 |cons d ds ih=>
  have h:(if (d.name==w)=true then d.kind else Rf.kindOf ds w)≠[]:=h
  show (if (d.name==w)=true then some 0 else (Rf.oneOf w (ds.map Rf.Dc.name)).map (· +1)).isSome=true∧_
  by_cases c:(d.name==w)=true
  ·rw[if_pos c]
   refine ⟨rfl,?_⟩
   rw[←eq_of_beq c]
   exact (hd d (List.mem_cons_self ..)).1
  ·rw[if_neg c] at h ⊢
   obtain ⟨h1,h2⟩:=ih (fun e he=>hd e (List.mem_cons_of_mem _ he)) h
   refine ⟨?_,h2⟩
   cases hx:Rf.oneOf w (ds.map Rf.Dc.name) with
   |none=>rw[hx] at h1;cases h1
   |some i=>rfl
theorem SY {l:List DB} (hd:DsOk (A7 l)) {s:ByteArray} (h:Rf.kindOf (A7 l) s.toList≠[]):IZ (El l) s:=by
 obtain ⟨h1,h2⟩:=gU hd h
 by_cases hz:s.size=1
 ·refine ⟨hz,?_,by rw[jH];exact h1⟩
  rw[N1 hz] at h2
  simp at h2
  omega
 ·rw[Io hz] at h2;cases h2
theorem VB {ds:List Rf.Dc} {w:Lk.Wd} (h:Rf.scalar ds w=true):Rf.kindOf ds w≠[]:=by
 intro e
 unfold Rf.scalar at h
 rw[e] at h
 revert h
 decide
theorem Vr {l:List DB} (hd:DsOk (A7 l)) {s:ByteArray} (h:Rf.atom (A7 l) s.toList=true):NI (El l) s:=by
 unfold Rf.atom at h
 cases hs:Rf.scalar (A7 l) s.toList with
 |true=>exact .inr (SY hd (VB hs))
 |false=>rw[hs] at h;exact .inl (by simpa using h)
theorem WR {l:List DB} {s:ByteArray} (h:IZ (El l) s):0<l.length:=by
 have:=h.at.2
 rw[SX] at this
 omega
theorem Jn (l:List DB) (s:ByteArray):CW (El l) s=Tm.idx (A7 l) s.toList:=by
 unfold CW Tm.idx
 rw[jH]
theorem Ik (l:List DB) (m:Tm.M) (s:ByteArray):Bf (El l) m.vals s=Tm.value (A7 l) m s.toList:=by
 unfold Bf Tm.value
 cases Lk.num? s.toList with
 |some n=>rfl
 |none=>show m.vals _=m.vals _;rw[Jn]
section
variable {w0 wf:World} {F A:Nat→Prop} {P:Nat} {l:List DB} {R gv gc cc:Nat} {ga:Nat→Nat} {N N':Nat} {m:Tm.M} {w w':World}
theorem uT (h:Aj w0 wf F A P l R gv gc cc ga N m w) (p:PS w0 P l) {s:ByteArray} (ha:Rf.atom (A7 l) s.toList=true):
  Calls Tryz.prog 88 #[.pointer (some ⟨R,0,none⟩),.string s] w fun e w'=>e=.returned (.int .i64 (Tm.value (A7 l) m s.toList))∧ ∃ k,w'=w.drewN k:=by
 rw[←Ik]
 have hA:=Vr p.ok ha
 by_cases h0:0<l.length
 ·obtain ⟨gn,cn,d⟩:=h.rd p h0
  exact MN d hA
 ·rcases hA with hA|hA
  ·unfold Bf
   cases hx:Lk.num? s.toList with
   |some n=>exact (fO R s n hx w).mono (fun e w' ⟨h1,h2⟩=>⟨h1,0,h2⟩)
   |none=>rw[hx] at hA;cases hA
  ·exact absurd (WR hA) h0
theorem uW (h:Aj w0 wf F A P l R gv gc cc ga N m w) (p:PS w0 P l) {s:ByteArray} (ha:Rf.scalar (A7 l) s.toList=true):
  Calls Tryz.prog 91 #[.pointer (some ⟨R,0,none⟩),.string s] w fun e w'=>e=.returned (.int .i64 (Tm.idx (A7 l) s.toList))∧w'=w:=by
 have hn:=SY p.ok (VB ha)
 obtain ⟨gn,cn,d⟩:=h.rd p (WR hn)
 rw[←Jn]
 exact NP d hn
theorem Mt (h:Aj w0 wf F A P l R gv gc cc ga N m w) {ts:List Rf.Tr} {i:Nat} {r:List (List Rf.Tr×Nat)} (hm:m.at_=(ts,i)::r) (hN:N≤900):
  Calls Tryz.prog 87 #[.pointer (some ⟨R,0,none⟩)] w fun e w'=>e=.returned (.tuple #[])∧Aj w0 wf F A P l R gv gc cc ga (N+1) { m with at_:=(ts,i+1)::r } w':=by
 obtain ⟨st,g,ca,h1⟩:=h.at_
 have hst:=h1.AO
 rw[hm] at hst
 obtain ⟨a,pl,he⟩: ∃ a pl,st=a++[pl]:=by
  have:=hst.len
  rcases List.eq_nil_or_concat st with e|⟨a,x,e⟩
  ·rw[e] at this;simp at this
  ·exact ⟨a,x,by rw[e,List.concat_eq_append]⟩
 subst he
 rw[List.reverse_append,List.reverse_singleton,List.singleton_append] at hst
 cases hst with
 |cons hp ht=>
 have hlen:(a++[pl]).length=a.length+1:=by simp
 have hle:=h1.len
 rw[hlen] at hle
 have hpi:pl.i=i:=hp.i
 have Fu:i≤N:=hp.le
 have ci:=(h1.own.cellAt (a.length*2+1) (by rw[hlen];omega)).trans ((Zv (a++[pl]) a.length (by rw[hlen];omega)).2)
 have hg:(a++[pl])[a.length]'(by rw[hlen];omega)=pl:=by simp
 rw[hg,hpi] at ci
 have cf:w.frozen? ⟨g,a.length*2+1,none⟩=false:=by
  rcases h1.own.2 with ⟨hv,_⟩|⟨g',cap,cur,hv,_,hh,_⟩
  ·cases hv
  ·cases hv
   simp[World.frozen?,hh]
 have c3:=h1.row.cell (i:=3) (by omega)
 rw[show IQ P gv l.length (NQ l.length gc cc) (.slice (some ⟨g,0,none⟩) (a++[pl]).length ca) m.bad 3=.slice (some ⟨g,0,none⟩) (a++[pl]).length ca from rfl,hlen] at c3
 refine (qy R g a.length ca i w c3 ci cf (by omega) (by omega)).mono ?_
 intro e w' hh
 obtain ⟨h2,h3⟩:=hh
 refine ⟨h2,?_⟩
 subst h3
 have hgl:=(h1.own.lt g rfl).1
 have hpl:(a++[({ pl with i:=i+1 }:Pl)]).length=(a++[pl]).length:=by simp
 refine ⟨h.A8.setCell hgl _,h.WQ (fun k hk e=>h1.Ji (by rw[←e];exact hk)),h.sep,⟨a++[{ pl with i:=i+1 }],g,ca,?_,?_,h1.Ji,h1.JH,h1.Jj,h1.Kn,h1.Jk,?_,?_⟩,h.vals.setOther h1.Jj.symm _,fun j hj=>(World.cell?_of_block (Below.heap_setCell w ⟨g,_,none⟩ _ gc (fun e=>h1.Kn (by omega) e.symm))).trans (h.JW j hj),fun j hj=>(h.D6 j hj).setOther (h1.Jk j hj).symm _⟩
 ·rw[hpl];exact h1.row.setOther h1.JH.symm _
 ·rw[hpl, ←abL]
  exact (h1.own.stored (a.length*2+1) _).1
 ·rw[List.reverse_append,List.reverse_singleton,List.singleton_append]
  exact .cons ⟨rfl,by show i+1≤N+1;omega,hp.sub,hp.ok⟩ (ht.up (Nat.le_succ N))
 ·rw[hpl,hlen];omega
theorem V_ (h:Aj w0 wf F A P l R gv gc cc ga N m w) {al:Option Addr} {nl cl:Nat} {ts:List Rf.Tr} (hs:Sub w0 A (.slice al nl cl) ts) (ht:TsOk (A7 l) ts) (hN:N≤900):
  Calls Tryz.prog 52 #[.pointer (some ⟨R,0,none⟩),.slice al nl cl] w fun e w'=>e=.returned (.tuple #[])∧Aj w0 wf F A P l R gv gc cc ga (N+1) { m with at_:=(ts,0)::m.at_ } w':=by
 obtain ⟨st,g,ca,h1⟩:=h.at_
 have hle:=h1.len
 have key:=gP R w0.heap.size _ (.slice (some ⟨g,0,none⟩) st.length ca) (st.map Pl.vp) al nl cl w h1.row rfl (by simpa using h1.own) (by simp[Value.ownBlock];exact h1.JH) (by simp;omega) h.A8.size
 refine key.mono ?_
 intro e w' hh
 obtain ⟨h2,Lj,hrow,hown,hne,Ak,hnew⟩:=hh
 refine ⟨h2,?_⟩
 rcases hown.2 with ⟨_,c⟩|⟨g2,cap2,cur,hv,_⟩
 ·omega
 subst hv
 have hap: ∀ b,b<w.heap.size→g≠b→g2≠b:=by
  intro b hb hg e
  rcases hnew g2 rfl with c|c
  ·have c:g=g2:=by simpa[Value.ownBlock] using c
   exact hg (c.trans e)
  ·omega
 have Dr: ∀ b,b<w.heap.size→b≠R→g≠b→w'.heap[b]? =w.heap[b]? :=fun b hb hr hg=>Ak.keep b hb (fun e=>by
  rcases e with e|e
  ·exact hr e
  ·exact hg (by simpa[Value.ownBlock] using e))
 have nK:(st.map Pl.vp).length+1=(st++[(⟨al,nl,cl,0⟩:Pl)]).length:=by simp
 have hsz:=h.A8.size
 have hgl:=h1.own.lt g rfl
 have AB:Below w0.heap.size w w':=(Ak.lift (base:=w0.heap.size) (fun k _ e=>by
  rcases e with e|e
  ·rw[e];exact h.sep.r
  ·have e:g=k:=by simpa[Value.ownBlock] using e
   rw[←e];exact hgl.1) hsz).A8
 refine ⟨h.A8.trans AB,fun k hk=>⟨Nat.lt_of_lt_of_le (h.JI k hk).1 AB.size,(Dr k (h.JI k hk).1 (h.sep.f k hk).2.1 (fun e=>h1.Ji (by rw[e];exact hk))).trans (h.JI k hk).2⟩,h.sep,⟨st++[⟨al,nl,cl,0⟩],g2,cap2,?_,?_,fun hF=>hap g2 (h.JI g2 hF).1 (fun e=>h1.Ji (by rw[e];exact hF)) rfl,by simpa[Value.ownBlock] using hne,hap _ h.vals.lt h1.Jj,?_,fun i hi=>hap _ (h.D6 i hi).lt (h1.Jk i hi),?_,?_⟩,
  h.vals.of_block (Dr _ h.vals.lt h.sep.rv.symm h1.Jj),fun i hi=>?_,fun i hi=>(h.D6 i hi).of_block (Dr _ (h.D6 i hi).lt (h.sep.ra i hi) (h1.Jk i hi))⟩
 ·rw[←nK]
  exact hrow.congr (fun i hi=>Z8 _ _ _ _ _ _ _ i hi)
 ·rw[nK] at hown
  rw[List.map_append]
  exact hown
 ·intro h0
  exact hap _ (World.block_lt_of_cell? w _ (h.JW 0 h0)) (h1.Kn h0)
 ·rw[List.reverse_append,List.reverse_singleton,List.singleton_append]
  exact .cons ⟨rfl,Nat.zero_le _,hs,ht⟩ (h1.AO.up (Nat.le_succ N))
 ·simp;omega
 ·have hc:=h.JW i hi
  exact (World.cell?_of_block (Dr gc (World.block_lt_of_cell? w _ hc) h.sep.rc.symm (h1.Kn (by omega)))).trans hc
def aA (w0:World) (A:Nat→Prop) (ds:List Rf.Dc) (sb:Nat) (t:Rf.Tr):Prop:=
 ∃ gw cw ws vb vo body other,t=.node (ws.map ByteArray.toList) body other∧w0.rowIs sb 139 3 (DG gw ws.length cw vb vo)∧CD w0 gw ws∧0<ws.length∧Sub w0 A vb body∧Sub w0 A vo other∧TsOk ds [t]
theorem TsOk.get {ds:List Rf.Dc} {ts:List Rf.Tr} (h:TsOk ds ts) {i:Nat} (hi:i<ts.length) (d:Rf.Tr):TsOk ds [ts.getD i d]:=by
 induction h generalizing i with
 |nil=>simp at hi
 |plain h hn hr ih=>
  cases i with
  |zero=>exact .plain h hn .nil
  |succ i=>exact ih (by simpa using hi)
 |cond h2 ha hw hb ho hr ihb Ur ih=>
  cases i with
  |zero=>exact .cond h2 ha hw hb ho .nil
  |succ i=>exact ih (by simpa using hi)
theorem Dn.get {w:World} {A:Nat→Prop} {ds:List Rf.Dc} {bs:List Nat} {ts:List Rf.Tr} (h:Dn w A bs ts) (hk:TsOk ds ts) {i:Nat} (hi:i<ts.length) (d:Rf.Tr):aA w A ds (bs.getD i 0) (ts.getD i d):=by
 have ho:=TsOk.get hk hi d
 clear hk
 induction h generalizing i with
 |nil=>simp at hi
 | @cons sb gw cw ws vb vo bs os body other rs rest hA hrow hg hW h0 hb tb ho' RR tr ih1 ih2 ih3=>
  cases i with
  |zero=>exact ⟨gw,cw,ws,vb,vo,body,other,rfl,hrow,hW,h0,⟨bs,hb,tb⟩,⟨os,ho',RR⟩,ho⟩
  |succ i=>exact ih3 (by simpa using hi) ho
theorem jI (st:List Pl):(Dz st).length≤st.length:=by
 unfold Dz
 have:=(List.dropWhile_sublist (fun p:Pl=>decide (p.nl≤p.i)) (l:=st.reverse)).length_le
 simpa using this
theorem Ky (h:Aj w0 wf F A P l R gv gc cc ga N m w) (hN:N≤900):
  Calls Tryz.prog 86 #[.pointer (some ⟨R,0,none⟩)] w fun e w'=> ∃ r,e=.returned (.pointer r)∧Aj w0 wf F A P l R gv gc cc ga N { m with at_:=Tm.pop m.at_ } w'∧(Tm.pop m.at_=[]→r=none)∧
   (∀ ts i q,Tm.pop m.at_=(ts,i)::q→ ∃ sb,r=some ⟨sb,0,none⟩∧aA w0 A (A7 l) sb (ts.getD i (.node [] [] []))):=by
 obtain ⟨st,g,ca,h1⟩:=h.at_
 have hle:=h1.len
 have hpl: ∀ p:Pl,p∈st→ ∀ t,t<p.nl→ ∃ gl b,p.al=some ⟨gl,0,none⟩∧gl≠R∧w.cell? ⟨gl,t,none⟩=some (TH b):=by
  intro p hp t ht
  obtain ⟨x,hx⟩:=h1.AO.mem (List.mem_reverse.2 hp)
  obtain ⟨bs,⟨ad,c,e,hc⟩,_⟩:=hx.sub
  obtain ⟨q1,q2, -⟩:=slice_inj e
  obtain ⟨gl,e1,_,hi⟩:=hc (by omega)
  have hcl:=hi t (by omega)
  rw[←q1] at e1
  have hlt:gl<w0.heap.size:=World.block_lt_of_cell? w0 _ hcl
  refine ⟨gl,_,e1,?_,(World.cell?_of_block (h.A8.block gl hlt)).trans hcl⟩
  have:=h.sep.r
  omega
 have key:=uM R w0.heap.size g ca _ st w h1.row rfl h1.own h1.JH (by omega) (fun gl t=>match w.cell? ⟨gl,t,none⟩ with|some (.pointer p)=>p|_=>none) (fun j hj t ht=>by
  obtain ⟨gl,b,e1,e2,e3⟩:=hpl st[j] (List.getElem_mem hj) t ht
  exact ⟨gl,e1,e2,by rw[e3];rfl⟩)
 refine key.mono ?_
 intro e w' hh
 obtain ⟨r,he,Gi,hr1,hrow,Ak⟩:=hh
 have hrev:Hw w0 A (A7 l) N (Dz st).reverse (Tm.pop m.at_):=by
  unfold Dz
  rw[List.reverse_reverse]
  exact h1.AO.pop
 have Dr: ∀ b,b<w.heap.size→b≠R→w'.heap[b]? =w.heap[b]? :=fun b hb hr=>Ak.keep b hb hr
 have hsz:=h.A8.size
 refine ⟨r,he,⟨h.A8.trans (Ak.lift (base:=w0.heap.size) (fun k _ e=>by have e:k=R:=e;rw[e];exact h.sep.r) hsz).A8,fun k hk=>⟨Nat.lt_of_lt_of_le (h.JI k hk).1 Ak.A8.size,(Dr k (h.JI k hk).1 (h.sep.f k hk).2.1).trans (h.JI k hk).2⟩,h.sep,⟨Dz st,g,ca,?_,?_,h1.Ji,h1.JH,h1.Jj,h1.Kn,h1.Jk,hrev,Nat.le_trans (jI st) hle⟩,?_,?_,?_⟩,?_,?_⟩
 ·exact hrow.congr (fun i hi=>Z8 _ _ _ _ _ _ _ i hi)
 ·refine BP (rA h1.own (jI st) ?_) (fun k e=>?_)
  ·rw[yZ, ←uR]
  ·have e:g=k:=by simpa[Value.ownBlock] using e
   subst e
   exact Dr _ (h1.own.lt g rfl).2 h1.JH
 ·exact h.vals.of_block (Dr _ h.vals.lt h.sep.rv.symm)
 ·intro i hi
  have hc:=h.JW i hi
  exact (World.cell?_of_block (Dr gc (World.block_lt_of_cell? w _ hc) h.sep.rc.symm)).trans hc
 ·intro i hi
  exact (h.D6 i hi).of_block (Dr _ (h.D6 i hi).lt (h.sep.ra i hi))
 ·intro e0
  refine Gi ?_
  have:=hrev.len
  rw[e0] at this
  have h0:(Dz st).length=0:=by simpa using this
  exact List.length_eq_zero_iff.1 h0
 ·intro ts i q e0
  rw[e0] at hrev
  obtain ⟨a,pl,hap⟩: ∃ a pl,Dz st=a++[pl]:=by
   have:=hrev.len
   rcases List.eq_nil_or_concat (Dz st) with e|⟨a,x,e⟩
   ·rw[e] at this;simp at this
   ·exact ⟨a,x,by rw[e,List.concat_eq_append]⟩
  obtain ⟨gl,hal,hrr⟩:=hr1 a pl hap
  rw[hap,List.reverse_append,List.reverse_singleton,List.singleton_append] at hrev
  cases hrev with
  |cons hp ht=>
   have hil:=Tm.Z1 e0
   obtain ⟨bs,⟨ad,c,e,hc⟩,hta⟩:=hp.sub
   have hbl:=hta.len
   have hbl:bs.length=ts.length:=hbl
   obtain ⟨q1,q2, -⟩:=slice_inj e
   obtain ⟨gl2,e1,_,hi⟩:=hc (by omega)
   rw[←q1,hal] at e1
   cases e1
   have hpi:pl.i=i:=hp.i
   have hcl:=hi i (by omega)
   have hlt:gl<w0.heap.size:=World.block_lt_of_cell? w0 _ hcl
   have hcw:=(World.cell?_of_block (h.A8.block gl hlt)).trans hcl
   refine ⟨bs.getD i 0,?_,hta.get hp.ok hil _⟩
   rw[hrr,hpi,hcw]
   rfl
theorem Aj.swap {F2:Nat→Prop} (h:Aj w0 wf F A P l R gv gc cc ga N m w) (hb:Below w0.heap.size w w') (hk: ∀ k,k<w.heap.size→ ¬F k→w'.heap[k]? =w.heap[k]?) (h2: ∀ k,F2 k→k<w'.heap.size∧(F k∨w.heap.size≤k)):
  Aj w0 w' F2 A P l R gv gc cc ga N m w':=by
 obtain ⟨st,g,ca,h1⟩:=h.at_
 have hz:=h.A8.size
 have Cs:=h1.row.lt
 have hR:w'.heap[R]? =w.heap[R]? :=hk R Cs (fun e=>(h.sep.f R e).2.1 rfl)
 have hgl:=(h1.own.lt g rfl).2
 refine ⟨h.A8.trans hb,fun k hf=>⟨(h2 k hf).1,rfl⟩,⟨fun k hf=>?_,fun k i hf hi=>?_,fun k hf h0=>?_,h.sep.r,h.sep.v,h.sep.a,h.sep.rv,h.sep.rc,h.sep.vc,h.sep.ra,h.sep.va,h.sep.ca,h.sep.aa⟩,
  ⟨st,g,ca,h1.row.of_block hR,BP h1.own (fun k e=>?_),fun hf=>?_,h1.JH,h1.Jj,h1.Kn,h1.Jk,h1.AO,h1.len⟩,h.vals.of_block (hk gv h.vals.lt (fun e=>(h.sep.f gv e).2.2 rfl)),fun i hi=>?_,fun i hi=>(h.D6 i hi).of_block (hk _ (h.D6 i hi).lt (fun e=>h.sep.fa _ i e hi rfl))⟩
 ·rcases (h2 k hf).2 with c|c
  ·exact h.sep.f k c
  ·have:=h.vals.lt
   exact ⟨by omega,by omega,by omega⟩
 ·rcases (h2 k hf).2 with c|c
  ·exact h.sep.fa k i c hi
  ·have:=(h.D6 i hi).lt
   omega
 ·rcases (h2 k hf).2 with c|c
  ·exact h.sep.fc k c h0
  ·have hcl:gc<w.heap.size:=World.block_lt_of_cell? w _ (h.JW 0 h0)
   omega
 ·have e:g=k:=by simpa[Value.ownBlock] using e
  subst e
  exact hk g hgl h1.Ji
 ·rcases (h2 g hf).2 with c|c
  ·exact h1.Ji c
  ·omega
 ·have hc:=h.JW i hi
  have hcl:gc<w.heap.size:=World.block_lt_of_cell? w _ hc
  exact (World.cell?_of_block (hk gc hcl (fun e=>h.sep.fc gc e (by omega) rfl))).trans hc
end
open Tm (TsOk DsOk Wd16)
section
variable {w0 wf:World} {F A:Nat→Prop} {P:Nat} {l:List DB} {R gv gc cc:Nat} {ga:Nat→Nat} {N N':Nat} {m:Tm.M} {w w':World}
theorem jJ {ds:List Rf.Dc} {w:Lk.Wd} (h:(Rf.kindOf ds w==Rf.wArray)=true):Rf.kindOf ds w≠[]:=by
 rw[eq_of_beq h]
 decide
theorem jK (h:Aj w0 wf F A P l R gv gc cc ga N m w) (p:PS w0 P l) (C9:Wd16 m) (gw cw:Nat) (a b c d:ByteArray) (hw:CD w gw [a,b,c,d]) (hf:Rf.fits (A7 l) [a.toList,b.toList,c.toList,d.toList]=true) (hk:a.toList=Rf.wLoad∨a.toList=Rf.wStore):
  Calls Tryz.prog 89 #[.pointer (some ⟨R,0,none⟩),.slice (some ⟨gw,0,none⟩) 4 cw] w fun e w'=>e=.returned (.int .i64 ((Tm.plain (A7 l) [a.toList,b.toList,c.toList,d.toList] m).1:Nat))∧Aj w0 wf F A P l R gv gc cc ga N (Tm.plain (A7 l) [a.toList,b.toList,c.toList,d.toList] m).2 w':=by
 have g0:Lk.wd [a.toList,b.toList,c.toList,d.toList] 0=a.toList:=rfl
 have g1:Lk.wd [a.toList,b.toList,c.toList,d.toList] 1=b.toList:=rfl
 have g2:Lk.wd [a.toList,b.toList,c.toList,d.toList] 2=c.toList:=rfl
 have g3:Lk.wd [a.toList,b.toList,c.toList,d.toList] 3=d.toList:=rfl
 unfold Rf.fits at hf
 rw[g0,g1,g2,g3] at hf
 unfold Tm.plain
 rw[g0,g1,g2,g3]
 rcases hk with hk|hk
 ·rw[if_neg (by rw[hk];decide),if_pos hk] at hf
  rw[if_neg (by rw[hk];decide),if_pos hk]
  simp only[List.length_cons,List.length_nil,Nat.reduceAdd,decide_true,Bool.true_and,Bool.and_eq_true] at hf
  obtain ⟨⟨f1,f2⟩,f3⟩:=hf
  have n1:=SY p.ok (VB f1)
  have n2:=SY p.ok (jJ f2)
  have n3:=Vr p.ok f3
  have h0:=WR n1
  obtain ⟨gn,cn,D⟩:=h.rd p h0
  obtain ⟨gs,cs,C⟩:=h.rc p h0
  have hx:Bf (El l) m.vals d<16:=by rw[Ik];exact C9.value _
  have hi1:=n1.at.2
  rw[SX,Jn] at hi1
  by_cases hlt:Tm.value (A7 l) m d.toList<Tm.size (A7 l) (Tm.idx (A7 l) c.toList)
  ·rw[if_pos hlt]
   have hlt':Bf (El l) m.vals d<Dh l (CW (El l) c):=by rw[Ik,Jn, ←WO];exact hlt
   refine (uO D C gw cw a b c d hw hk n1 n2 n3 hx (fun i hi=>h.vals.frozen i) hlt').mono ?_
   intro e w' hh
   obtain ⟨he,m1,m2,hw'⟩:=hh
   rw[Ik] at he hw'
   rw[Jn,Jn] at hw'
   refine ⟨he,?_⟩
   rw[hw']
   exact ((h.drew m1).Zz _ _).drew m2
  ·rw[if_neg hlt]
   have cE:Dh l (CW (El l) c)≤Bf (El l) m.vals d:=by rw[Ik,Jn, ←WO];omega
   refine (uN D C gw cw a b c d hw hk n1 n2 n3 hx cE).mono ?_
   intro e w' hh
   obtain ⟨he,m1,m2,hw'⟩:=hh
   rw[Ik] at he
   refine ⟨he,?_⟩
   rw[hw']
   exact ((h.drew m1).ku).drew m2
 ·rw[if_neg (by rw[hk];decide),if_neg (by rw[hk];decide),if_pos hk] at hf
  rw[if_neg (by rw[hk];decide),if_neg (by rw[hk];decide),if_pos hk]
  simp only[List.length_cons,List.length_nil,Nat.reduceAdd,decide_true,Bool.true_and,Bool.and_eq_true] at hf
  obtain ⟨⟨f1,f2⟩,f3⟩:=hf
  have n1:=SY p.ok (jJ f1)
  have n2:=Vr p.ok f2
  have n3:=Vr p.ok f3
  have h0:=WR n1
  obtain ⟨gn,cn,D⟩:=h.rd p h0
  obtain ⟨gs,cs,C⟩:=h.rc p h0
  have hx:Bf (El l) m.vals c<16:=by rw[Ik];exact C9.value _
  have hi1:=n1.at.2
  rw[SX,Jn] at hi1
  by_cases hlt:Tm.value (A7 l) m c.toList<Tm.size (A7 l) (Tm.idx (A7 l) b.toList)
  ·rw[if_pos hlt]
   have hlt':Bf (El l) m.vals c<Dh l (CW (El l) b):=by rw[Ik,Jn, ←WO];exact hlt
   refine (r9 D C gw cw a b c d hw hk n1 n2 n3 hx hlt').mono ?_
   intro e w' hh
   obtain ⟨he,m1,m2,hw'⟩:=hh
   rw[Ik] at he
   rw[Ik,Ik,Jn] at hw'
   refine ⟨he,?_⟩
   rw[hw']
   exact ((h.drew m1).aci _ _ _ hi1).drew m2
  ·rw[if_neg hlt]
   have cE:Dh l (CW (El l) b)≤Bf (El l) m.vals c:=by rw[Ik,Jn, ←WO];omega
   refine (qz D C gw cw a b c d hw hk n1 n2 n3 hx cE).mono ?_
   intro e w' hh
   obtain ⟨he,m1,m2,hw'⟩:=hh
   rw[Ik] at he
   refine ⟨he,?_⟩
   rw[hw']
   exact ((h.drew m1).ku).drew m2
end
open Tm (TsOk DsOk Wd16)
section
variable {w0 wf:World} {F A:Nat→Prop} {P:Nat} {l:List DB} {R gv gc cc:Nat} {ga:Nat→Nat} {N N':Nat} {m:Tm.M} {w w':World}
theorem Aj.bad (h:Aj w0 wf F A P l R gv gc cc ga N m w):w.cell? ⟨R,4,none⟩=some (.bool m.bad):=by
 obtain ⟨st,g,ca,h1⟩:=h.at_
 exact h1.row.cell (i:=4) (by omega)
theorem Aj.old (h:Aj w0 wf F A P l R gv gc cc ga N m w) {a:Addr} {v:Value} (ha:w0.cell? a=some v):w.cell? a=some v:=
 (World.cell?_of_block (h.A8.block a.block (World.block_lt_of_cell? w0 a ha))).trans ha
theorem Aj.v0 (h:Aj w0 wf F A P l R gv gc cc ga N m w):w.cell? ⟨R,1,none⟩=some (.slice (some ⟨gv,0,none⟩) l.length l.length):=by
 obtain ⟨st,g,ca,h1⟩:=h.at_
 exact h1.row.cell (i:=1) (by omega)
theorem kx (p:PS w0 P l) {u:Lk.Wd} (ha:Rf.scalar (A7 l) u=true):Tm.idx (A7 l) u<l.length:=by
 obtain ⟨h1, -⟩:=gU p.ok (VB ha)
 unfold Tm.idx
 cases hx:Rf.oneOf u ((A7 l).map Rf.Dc.name) with
 |none=>rw[hx] at h1;cases h1
 |some i=>
  have:=jD hx
  simpa[A7] using this
theorem N0 (h:Aj w0 wf F A P l R gv gc cc ga N m w) (p:PS w0 P l) {s:ByteArray} {u:Lk.Wd} (hu:s.toList=u) (ha:Rf.atom (A7 l) u=true) {x:Nat} (hx:Tm.value (A7 l) m u=x):
  Calls Tryz.prog 88 #[.pointer (some ⟨R,0,none⟩),.string s] w fun e w'=>e=.returned (.int .i64 x)∧ ∃ k,w'=w.drewN k:=by
 subst hu hx
 exact uT h p ha
theorem jL (h:Aj w0 wf F A P l R gv gc cc ga N m w) (p:PS w0 P l) {s:ByteArray} {u:Lk.Wd} (hu:s.toList=u) (ha:Rf.scalar (A7 l) u=true) {x:Nat} (hx:Tm.idx (A7 l) u=x):
  Calls Tryz.prog 91 #[.pointer (some ⟨R,0,none⟩),.string s] w fun e w'=>e=.returned (.int .i64 x)∧w'=w:=by
 subst hu hx
 exact uW h p ha
theorem uX (h:Aj w0 wf F A P l R gv gc cc ga N m w) (hb:m.bad=true):
  Calls Tryz.prog 53 #[.pointer (some ⟨R,0,none⟩)] w fun e w'=>e=.returned (.int .i64 ((80:Nat):Int))∧Aj w0 wf F A P l R gv gc cc ga N m w':=by
 have b4:=h.bad
 rw[hb] at b4
 have H:=hid h
 clear h hb
 go_enter Tryz.func53,Tryz.ntmps53
 go_wp2_with (first|(go_at_call 85;refine (IG 5 0 _ (by omega) (by omega)).mono ?_;rintro e w' ⟨rfl,hw'⟩;subst hw'))
 go_ret
 exact ⟨rfl,H.out⟩
theorem rB (h:Aj w0 wf F A P l R gv gc cc ga N m w) (hb:m.bad=false) (hN:N≤900) (hp:Tm.pop m.at_=[]):
  Calls Tryz.prog 53 #[.pointer (some ⟨R,0,none⟩)] w fun e w'=>e=.returned (.int .i64 ((64:Nat):Int))∧Aj w0 wf F A P l R gv gc cc ga N { m with at_:=[] } w':=by
 have b4:=h.bad
 rw[hb] at b4
 have H:=hid h
 have HP:=hid hp
 clear h hb hp
 go_enter Tryz.func53,Tryz.ntmps53
 go_wp2_with (first
  |(go_at_call 86;refine (Ky H.out hN).mono ?_;rintro e w1 ⟨r,rfl,hr1,hr2, -⟩;have hr3:=hr2 HP.out;subst hr3;rw[HP.out] at hr1;have Aw:=hid hr1;clear hr1 hr2)
  |(go_at_call 85;refine (IG 4 0 _ (by omega) (by omega)).mono ?_;rintro e w' ⟨rfl,hw'⟩;subst hw'))
 go_ret
 exact ⟨rfl,Aw.out⟩
theorem Sc {ws:List ByteArray} {W:List Lk.Wd} (h:W=ws.map ByteArray.toList) (hl:W.length=2): ∃ a b,ws=[a,b]∧a.toList=Lk.wd W 0∧b.toList=Lk.wd W 1:=by
 subst h
 match ws,hl with
 |[a,b],_=>exact ⟨a,b,rfl,rfl,rfl⟩
theorem y_ {ws:List ByteArray} {W:List Lk.Wd} (h:W=ws.map ByteArray.toList) (hl:W.length=3): ∃ a b c,ws=[a,b,c]∧a.toList=Lk.wd W 0∧b.toList=Lk.wd W 1∧c.toList=Lk.wd W 2:=by
 subst h
 match ws,hl with
 |[a,b,c],_=>exact ⟨a,b,c,rfl,rfl,rfl,rfl⟩
theorem kD {ws:List ByteArray} {W:List Lk.Wd} (h:W=ws.map ByteArray.toList) (hl:W.length=4): ∃ a b c d,ws=[a,b,c,d]∧W=[a.toList,b.toList,c.toList,d.toList]:=by
 subst h
 match ws,hl with
 |[a,b,c,d],_=>exact ⟨a,b,c,d,rfl,rfl⟩
theorem abN {ws:List ByteArray} {W:List Lk.Wd} (h:W=ws.map ByteArray.toList) (hl:W.length=5): ∃ a b c d e,ws=[a,b,c,d,e]∧a.toList=Lk.wd W 0∧c.toList=Lk.wd W 2∧d.toList=Lk.wd W 3∧e.toList=Lk.wd W 4:=by
 subst h
 match ws,hl with
 |[a,b,c,d,e],_=>exact ⟨a,b,c,d,e,rfl,rfl,rfl,rfl,rfl⟩
structure Xt (w:World) (sb gw n cw:Nat) (vb vo:Value) (ws:List ByteArray):Prop where
 s0:w.cell? ⟨sb,0,none⟩=some (.slice (some ⟨gw,0,none⟩) n cw)
 s1:w.cell? ⟨sb,1,none⟩=some vb
 s2:w.cell? ⟨sb,2,none⟩=some vo
 hW:CD w gw ws
theorem Xt.later {sb gw n cw:Nat} {vb vo:Value} {ws:List ByteArray} (f:Xt w0 sb gw n cw vb vo ws) (h:Aj w0 wf F A P l R gv gc cc ga N m w):Xt w sb gw n cw vb vo ws:=⟨h.old f.s0,h.old f.s1,h.old f.s2,fun i hi=>h.old (f.hW i hi)⟩
theorem M9 {sb:Nat} {W:List Lk.Wd} {B O:List Rf.Tr} (h:aA w0 A (A7 l) sb (.node W B O)): ∃ gw cw ws vb vo,W=ws.map ByteArray.toList∧Xt w0 sb gw ws.length cw vb vo ws∧Sub w0 A vb B∧Sub w0 A vo O:=by
 obtain ⟨gw,cw,ws,vb,vo,body,other,ht,hr,hW,h0,hb,ho,hk⟩:=h
 cases ht
 exact ⟨gw,cw,ws,vb,vo,rfl,⟨hr.cell (i:=0) (by omega),hr.cell (i:=1) (by omega),hr.cell (i:=2) (by omega),hW⟩,hb,ho⟩
theorem SZ {v:Value} {ts:List Rf.Tr} (h:Sub w0 A v ts): ∃ al nl cl,v=.slice al nl cl:=by
 obtain ⟨bs,⟨ad,c,e,_⟩,_⟩:=h
 exact ⟨_,_,_,e⟩
theorem uY (h:Aj w0 wf F A P l R gv gc cc ga N m w) (p:PS w0 P l) (C9:Wd16 m) (hb:m.bad=false) (hN:N≤900) {ts:List Rf.Tr} {i:Nat} {q:List (List Rf.Tr×Nat)} (hp:Tm.pop m.at_=(ts,i)::q) {W:List Lk.Wd} {B O:List Rf.Tr} (hd:ts.getD i (.node [] [] [])=.node W B O) (hl:W.length=2) (h0:Lk.wd W 0=Rf.wOut) (ha:Rf.atom (A7 l) (Lk.wd W 1)=true):
  Calls Tryz.prog 53 #[.pointer (some ⟨R,0,none⟩)] w fun e w'=>e=.returned (.int .i64 ((48+Tm.value (A7 l) m (Lk.wd W 1):Nat):Int))∧Aj w0 wf F A P l R gv gc cc ga (N+1) { m with at_:=(ts,i+1)::q } w':=by
 have b4:=h.bad
 rw[hb] at b4
 obtain ⟨x,hx⟩: ∃ x,Tm.value (A7 l) m (Lk.wd W 1)=x:=⟨_,rfl⟩
 have Ww:x<16:=by rw[←hx];exact C9.value _
 rw[hx]
 have H:=hid h
 have HP:=hid hp
 have HD:=hid hd
 have HL:=hid hl
 have H0:=hid h0
 have HA:=hid ha
 have HX:=hid hx
 have EW:(x:Int)<16:=by omega
 clear h hb hp hd hl h0 ha hx
 go_enter Tryz.func53,Tryz.ntmps53
 go_wp2_with (first
  |(go_at_call 86;refine (Ky H.out hN).mono ?_;rintro e w1 ⟨r,rfl,hr1, -,hr3⟩;obtain ⟨sb,hr4,hs⟩:=hr3 _ _ _ HP.out;subst hr4;rw[HD.out] at hs;obtain ⟨gw,cw,ws,vb,vo,hW,hf, -, -⟩:=M9 hs;obtain ⟨a,b,e1,e2,e3⟩:=Sc hW HL.out;subst e1;rw[H0.out] at e2;have e2:a.toList=[111,117,116]:=e2;have HF:=hid hf;have f1:=hf.later hr1;have s0:=f1.s0;have s1:=f1.s1;have y0:=f1.hW 0 (by simp);have y1:=f1.hW 1 (by simp);simp only[List.length_cons,List.length_nil,List.getD_cons_zero,List.getD_cons_succ,Nat.reduceAdd] at s0 y0 y1;have HB:=hid e3;have Aw:=hid hr1;clear hr1 hr3 hs hW hf f1 e3))
 go_wp2_with (first
  |(go_at_call 87;refine (Mt Aw.out HP.out hN).mono ?_;rintro e w2 ⟨rfl,hr2⟩;have f2:=HF.out.later hr2;have t1:=f2.hW 1 (by simp);simp only[List.getD_cons_zero,List.getD_cons_succ] at t1;have AU:=hid hr2;clear hr2 f2)
  |(go_at_call 88;refine (N0 AU.out p HB.out HA.out HX.out).mono ?_;rintro e w3 ⟨rfl,k3,hw3⟩;subst hw3)
  |(go_at_call 85;refine (IG 3 x _ (by omega) Ww).mono ?_;rintro e w' ⟨rfl,hw'⟩;subst hw'))
 go_ret
 exact ⟨rfl,AU.out.drew _⟩
end
open Tm (TsOk DsOk Wd16)
section
variable {w0 wf:World} {F A:Nat→Prop} {P:Nat} {l:List DB} {R gv gc cc:Nat} {ga:Nat→Nat} {N N':Nat} {m:Tm.M} {w w':World}
theorem uZ (h:Aj w0 wf F A P l R gv gc cc ga N m w) (p:PS w0 P l) (C9:Wd16 m) (hb:m.bad=false) (hN:N≤800) {ts:List Rf.Tr} {i:Nat} {q:List (List Rf.Tr×Nat)} (hp:Tm.pop m.at_=(ts,i)::q) {W:List Lk.Wd} {B O:List Rf.Tr} (hd:ts.getD i (.node [] [] [])=.node W B O) (hl:W.length=2) (h0:Lk.wd W 0=Rf.wIf) (ha:Rf.atom (A7 l) (Lk.wd W 1)=true) (hok:TsOk (A7 l) O) (hx:Tm.value (A7 l) m (Lk.wd W 1)=0):
  Calls Tryz.prog 53 #[.pointer (some ⟨R,0,none⟩)] w fun e w'=>e=.returned (.int .i64 ((16:Nat):Int))∧Aj w0 wf F A P l R gv gc cc ga (N+2) { m with at_:=(O,0)::(ts,i+1)::q } w':=by
 have b4:=h.bad
 rw[hb] at b4
 obtain ⟨x,IE⟩: ∃ x,Tm.value (A7 l) m (Lk.wd W 1)=x:=⟨_,rfl⟩
 rw[IE] at hx
 subst hx
 have Ca:N≤900:=by omega
 have H:=hid h
 have HP:=hid hp
 have HD:=hid hd
 have HL:=hid hl
 have Ef:=hid hok
 have H0:=hid h0
 have HA:=hid ha
 have HX:=hid IE
 clear h hb hp hd hl h0 ha IE hok
 go_enter Tryz.func53,Tryz.ntmps53
 go_wp2_with (first
  |(go_at_call 86;refine (Ky H.out Ca).mono ?_;rintro e w1 ⟨r,rfl,hr1, -,hr3⟩;obtain ⟨sb,hr4,hs⟩:=hr3 _ _ _ HP.out;subst hr4;rw[HD.out] at hs;obtain ⟨gw,cw,ws,vb,vo,hW,hf,AY,Df⟩:=M9 hs;obtain ⟨a,b,e1,e2,e3⟩:=Sc hW HL.out;subst e1;rw[H0.out] at e2;have e2:a.toList=[105,102]:=e2;have HB:=hid e3;obtain ⟨al,nl,cl,ev⟩:=SZ Df;subst ev;have HS:=hid Df;clear AY Df e3;have HF:=hid hf;have f1:=hf.later hr1;have s0:=f1.s0;have y0:=f1.hW 0 (by simp);have y1:=f1.hW 1 (by simp);simp only[List.length_cons,List.length_nil,List.getD_cons_zero,List.getD_cons_succ,Nat.reduceAdd] at s0 y0 y1;have Aw:=hid hr1;clear hr1 hr3 hs hW hf f1))
 go_wp2_with (first
  |(go_at_call 88;refine (N0 Aw.out p HB.out HA.out HX.out).mono ?_;rintro e w3 ⟨rfl,k3,hw3⟩;subst hw3)
  |(go_at_call 87;refine (Mt (Aw.out.drew _) HP.out Ca).mono ?_;rintro e w2 ⟨rfl,hr2⟩;have f2:=HF.out.later hr2;have t1:=f2.s2;have AU:=hid hr2;clear hr2 f2)
  |(go_at_call 52;refine (V_ AU.out HS.out Ef.out (by omega)).mono ?_;rintro e w3 ⟨rfl,hr3⟩;have E3:=hid hr3;clear hr3)
  |(go_at_call 85;refine (IG 1 0 _ (by omega) (by omega)).mono ?_;rintro e w' ⟨rfl,hw'⟩;subst hw'))
 go_ret
 exact ⟨rfl,E3.out⟩
theorem u_ (h:Aj w0 wf F A P l R gv gc cc ga N m w) (p:PS w0 P l) (C9:Wd16 m) (hb:m.bad=false) (hN:N≤800) {ts:List Rf.Tr} {i:Nat} {q:List (List Rf.Tr×Nat)} (hp:Tm.pop m.at_=(ts,i)::q) {W:List Lk.Wd} {B O:List Rf.Tr} (hd:ts.getD i (.node [] [] [])=.node W B O) (hl:W.length=2) (h0:Lk.wd W 0=Rf.wIf) (ha:Rf.atom (A7 l) (Lk.wd W 1)=true) (hok:TsOk (A7 l) B) (hx:Tm.value (A7 l) m (Lk.wd W 1)≠0):
  Calls Tryz.prog 53 #[.pointer (some ⟨R,0,none⟩)] w fun e w'=>e=.returned (.int .i64 ((17:Nat):Int))∧Aj w0 wf F A P l R gv gc cc ga (N+2) { m with at_:=(B,0)::(ts,i+1)::q } w':=by
 have b4:=h.bad
 rw[hb] at b4
 obtain ⟨x,IE⟩: ∃ x,Tm.value (A7 l) m (Lk.wd W 1)=x:=⟨_,rfl⟩
 rw[IE] at hx
 have EW:((x:Int)==0)=false:=by simp;omega
 have hxJ:((x:Int)=0)=False:=by simp;omega
 have Ca:N≤900:=by omega
 have H:=hid h
 have HP:=hid hp
 have HD:=hid hd
 have HL:=hid hl
 have Ef:=hid hok
 have H0:=hid h0
 have HA:=hid ha
 have HX:=hid IE
 clear h hb hp hd hl h0 ha IE hok
 go_enter Tryz.func53,Tryz.ntmps53
 go_wp2_with (first
  |(go_at_call 86;refine (Ky H.out Ca).mono ?_;rintro e w1 ⟨r,rfl,hr1, -,hr3⟩;obtain ⟨sb,hr4,hs⟩:=hr3 _ _ _ HP.out;subst hr4;rw[HD.out] at hs;obtain ⟨gw,cw,ws,vb,vo,hW,hf,AY,Df⟩:=M9 hs;obtain ⟨a,b,e1,e2,e3⟩:=Sc hW HL.out;subst e1;rw[H0.out] at e2;have e2:a.toList=[105,102]:=e2;have HB:=hid e3;obtain ⟨al,nl,cl,ev⟩:=SZ AY;subst ev;have HS:=hid AY;clear AY Df e3;have HF:=hid hf;have f1:=hf.later hr1;have s0:=f1.s0;have y0:=f1.hW 0 (by simp);have y1:=f1.hW 1 (by simp);simp only[List.length_cons,List.length_nil,List.getD_cons_zero,List.getD_cons_succ,Nat.reduceAdd] at s0 y0 y1;have Aw:=hid hr1;clear hr1 hr3 hs hW hf f1))
 go_wp2_with (first
  |(go_at_call 88;refine (N0 Aw.out p HB.out HA.out HX.out).mono ?_;rintro e w3 ⟨rfl,k3,hw3⟩;subst hw3)
  |(go_at_call 87;refine (Mt (Aw.out.drew _) HP.out Ca).mono ?_;rintro e w2 ⟨rfl,hr2⟩;have f2:=HF.out.later hr2;have t1:=f2.s1;have AU:=hid hr2;clear hr2 f2)
  |(go_at_call 52;refine (V_ AU.out HS.out Ef.out (by omega)).mono ?_;rintro e w3 ⟨rfl,hr3⟩;have E3:=hid hr3;clear hr3)
  |(go_at_call 85;refine (IG 1 1 _ (by omega) (by omega)).mono ?_;rintro e w' ⟨rfl,hw'⟩;subst hw'))
 go_ret
 exact ⟨rfl,E3.out⟩
end
open Tm (TsOk DsOk Wd16)
section
variable {w0 wf:World} {F A:Nat→Prop} {P:Nat} {l:List DB} {R gv gc cc:Nat} {ga:Nat→Nat} {N N':Nat} {m:Tm.M} {w w':World}
theorem uf (h:Aj w0 wf F A P l R gv gc cc ga N m w) (p:PS w0 P l) (C9:Wd16 m) (hb:m.bad=false) (hN:N≤800) {ts:List Rf.Tr} {i:Nat} {q:List (List Rf.Tr×Nat)} (hp:Tm.pop m.at_=(ts,i)::q) {W:List Lk.Wd} {B O:List Rf.Tr} (hd:ts.getD i (.node [] [] [])=.node W B O) (hl:W.length=2) (h0:Lk.wd W 0=Rf.wWhile) (ha:Rf.atom (A7 l) (Lk.wd W 1)=true) (hok:TsOk (A7 l) O) (hx:Tm.value (A7 l) m (Lk.wd W 1)=0):
  Calls Tryz.prog 53 #[.pointer (some ⟨R,0,none⟩)] w fun e w'=>e=.returned (.int .i64 ((16:Nat):Int))∧Aj w0 wf F A P l R gv gc cc ga (N+2) { m with at_:=(O,0)::(ts,i+1)::q } w':=by
 have b4:=h.bad
 rw[hb] at b4
 obtain ⟨x,IE⟩: ∃ x,Tm.value (A7 l) m (Lk.wd W 1)=x:=⟨_,rfl⟩
 rw[IE] at hx
 subst hx
 have Ca:N≤900:=by omega
 have H:=hid h
 have HP:=hid hp
 have HD:=hid hd
 have HL:=hid hl
 have Ef:=hid hok
 have H0:=hid h0
 have HA:=hid ha
 have HX:=hid IE
 clear h hb hp hd hl h0 ha IE hok
 go_enter Tryz.func53,Tryz.ntmps53
 go_wp2_with (first
  |(go_at_call 86;refine (Ky H.out Ca).mono ?_;rintro e w1 ⟨r,rfl,hr1, -,hr3⟩;obtain ⟨sb,hr4,hs⟩:=hr3 _ _ _ HP.out;subst hr4;rw[HD.out] at hs;obtain ⟨gw,cw,ws,vb,vo,hW,hf,AY,Df⟩:=M9 hs;obtain ⟨a,b,e1,e2,e3⟩:=Sc hW HL.out;subst e1;rw[H0.out] at e2;have e2:a.toList=[119,104,105,108,101]:=e2;have HB:=hid e3;obtain ⟨al,nl,cl,ev⟩:=SZ Df;subst ev;have HS:=hid Df;clear AY Df e3;have HF:=hid hf;have f1:=hf.later hr1;have s0:=f1.s0;have y0:=f1.hW 0 (by simp);have y1:=f1.hW 1 (by simp);simp only[List.length_cons,List.length_nil,List.getD_cons_zero,List.getD_cons_succ,Nat.reduceAdd] at s0 y0 y1;have Aw:=hid hr1;clear hr1 hr3 hs hW hf f1))
 go_wp2_with (first
  |(go_at_call 88;refine (N0 Aw.out p HB.out HA.out HX.out).mono ?_;rintro e w3 ⟨rfl,k3,hw3⟩;subst hw3)
  |(go_at_call 87;refine (Mt (Aw.out.drew _) HP.out Ca).mono ?_;rintro e w2 ⟨rfl,hr2⟩;have f2:=HF.out.later hr2;have t1:=f2.s2;have AU:=hid hr2;clear hr2 f2)
  |(go_at_call 52;refine (V_ AU.out HS.out Ef.out (by omega)).mono ?_;rintro e w3 ⟨rfl,hr3⟩;have E3:=hid hr3;clear hr3)
  |(go_at_call 85;refine (IG 1 0 _ (by omega) (by omega)).mono ?_;rintro e w' ⟨rfl,hw'⟩;subst hw'))
 go_ret
 exact ⟨rfl,E3.out⟩
theorem ug (h:Aj w0 wf F A P l R gv gc cc ga N m w) (p:PS w0 P l) (C9:Wd16 m) (hb:m.bad=false) (hN:N≤800) {ts:List Rf.Tr} {i:Nat} {q:List (List Rf.Tr×Nat)} (hp:Tm.pop m.at_=(ts,i)::q) {W:List Lk.Wd} {B O:List Rf.Tr} (hd:ts.getD i (.node [] [] [])=.node W B O) (hl:W.length=2) (h0:Lk.wd W 0=Rf.wWhile) (ha:Rf.atom (A7 l) (Lk.wd W 1)=true) (hok:TsOk (A7 l) B) (hx:Tm.value (A7 l) m (Lk.wd W 1)≠0):
  Calls Tryz.prog 53 #[.pointer (some ⟨R,0,none⟩)] w fun e w'=>e=.returned (.int .i64 ((17:Nat):Int))∧Aj w0 wf F A P l R gv gc cc ga (N+1) { m with at_:=(B,0)::(ts,i)::q } w':=by
 have b4:=h.bad
 rw[hb] at b4
 obtain ⟨x,IE⟩: ∃ x,Tm.value (A7 l) m (Lk.wd W 1)=x:=⟨_,rfl⟩
 rw[IE] at hx
 have EW:((x:Int)==0)=false:=by simp;omega
 have hxJ:((x:Int)=0)=False:=by simp;omega
 have Ca:N≤900:=by omega
 have H:=hid h
 have HP:=hid hp
 have HD:=hid hd
 have HL:=hid hl
 have Ef:=hid hok
 have H0:=hid h0
 have HA:=hid ha
 have HX:=hid IE
 clear h hb hp hd hl h0 ha IE hok
 go_enter Tryz.func53,Tryz.ntmps53
 go_wp2_with (first
  |(go_at_call 86;refine (Ky H.out Ca).mono ?_;rintro e w1 ⟨r,rfl,hr1, -,hr3⟩;obtain ⟨sb,hr4,hs⟩:=hr3 _ _ _ HP.out;subst hr4;rw[HD.out] at hs;obtain ⟨gw,cw,ws,vb,vo,hW,hf,AY,Df⟩:=M9 hs;obtain ⟨a,b,e1,e2,e3⟩:=Sc hW HL.out;subst e1;rw[H0.out] at e2;have e2:a.toList=[119,104,105,108,101]:=e2;have HB:=hid e3;obtain ⟨al,nl,cl,ev⟩:=SZ AY;subst ev;have HS:=hid AY;clear AY Df e3;have HF:=hid hf;have f1:=hf.later hr1;have s0:=f1.s0;have y0:=f1.hW 0 (by simp);have y1:=f1.hW 1 (by simp);simp only[List.length_cons,List.length_nil,List.getD_cons_zero,List.getD_cons_succ,Nat.reduceAdd] at s0 y0 y1;have Aw:=hid hr1;clear hr1 hr3 hs hW hf f1))
 go_wp2_with (first
  |(go_at_call 88;refine (N0 Aw.out p HB.out HA.out HX.out).mono ?_;rintro e w3 ⟨rfl,k3,hw3⟩;subst hw3;have z1:=(HF.out.later (Aw.out.drew k3)).s1)
  |(go_at_call 52;refine (V_ (Aw.out.drew _) HS.out Ef.out Ca).mono ?_;rintro e w3 ⟨rfl,hr3⟩;have E3:=hid hr3;clear hr3)
  |(go_at_call 85;refine (IG 1 1 _ (by omega) (by omega)).mono ?_;rintro e w' ⟨rfl,hw'⟩;subst hw'))
 go_ret
 have h3:=E3.out
 rw[HP.out] at h3
 exact ⟨rfl,h3⟩
end
open Tm (TsOk DsOk Wd16)
section
variable {w0 wf:World} {F A:Nat→Prop} {P:Nat} {l:List DB} {R gv gc cc:Nat} {ga:Nat→Nat} {N N':Nat} {m:Tm.M} {w w':World}
theorem rD (h:Aj w0 wf F A P l R gv gc cc ga N m w) (p:PS w0 P l) (C9:Wd16 m) (hb:m.bad=false) (hN:N≤800) {ts:List Rf.Tr} {i:Nat} {q:List (List Rf.Tr×Nat)} (hp:Tm.pop m.at_=(ts,i)::q) {W:List Lk.Wd} {B O:List Rf.Tr} (hd:ts.getD i (.node [] [] [])=.node W B O) (hl:W.length=4) (h0:Lk.wd W 0=Rf.wLoad) (hok:Rf.fits (A7 l) W=true):
  Calls Tryz.prog 53 #[.pointer (some ⟨R,0,none⟩)] w fun e w'=>e=.returned (.int .i64 ((Tm.plain (A7 l) W { m with at_:=(ts,i+1)::q }).1:Nat))∧Aj w0 wf F A P l R gv gc cc ga (N+1) (Tm.plain (A7 l) W { m with at_:=(ts,i+1)::q }).2 w':=by
 have b4:=h.bad
 rw[hb] at b4
 have Ca:N≤900:=by omega
 have H:=hid h
 have HP:=hid hp
 have HD:=hid hd
 have HL:=hid hl
 have Ef:=hid hok
 have H0:=hid h0
 clear h hb hp hd hl h0 hok
 obtain ⟨o,ho⟩: ∃ o,Tm.plain (A7 l) W { m with at_:=(ts,i+1)::q }=o:=⟨_,rfl⟩
 rw[ho]
 have HO:=hid ho
 clear ho
 go_enter Tryz.func53,Tryz.ntmps53
 go_wp2_with (first
  |(go_at_call 86;refine (Ky H.out Ca).mono ?_;rintro e w1 ⟨r,rfl,hr1, -,hr3⟩;obtain ⟨sb,hr4,hs⟩:=hr3 _ _ _ HP.out;subst hr4;rw[HD.out] at hs;obtain ⟨gw,cw,ws,vb,vo,hW,hf,AY,Df⟩:=M9 hs;obtain ⟨a,b,c,d,e1,e2⟩:=kD hW HL.out;subst e1;have hz:Lk.wd W 0=a.toList:=(by rw[e2];rfl);rw[H0.out] at hz;have HZ:=hid hz.symm;have ez:a.toList=[108,111,97,100]:=hz.symm;have HE:=hid e2;clear hz e2;clear AY Df;have HF:=hid hf;have f1:=hf.later hr1;have s0:=f1.s0;have y0:=f1.hW 0 (by simp);simp only[List.length_cons,List.length_nil,List.getD_cons_zero,Nat.reduceAdd] at s0 y0;have Aw:=hid hr1;clear hr1 hr3 hs hW hf f1))
 go_wp2_with (first
  |(go_at_call 87;refine (Mt Aw.out HP.out Ca).mono ?_;rintro e w2 ⟨rfl,hr2⟩;have AU:=hid hr2;clear hr2)
  |(go_at_call 89;refine (jK AU.out p (C9.at _) gw cw a b c d (HF.out.later AU.out).hW (by have h:=Ef.out;rw[HE.out] at h;exact h) (.inl HZ.out)).mono ?_;rintro e w3 ⟨rfl,hr3⟩;rw[←HE.out] at hr3 ⊢;have E3:=hid hr3;clear hr3))
 go_ret
 have h3:=E3.out
 have ho:=HO.out
 rw[ho] at h3
 exact ⟨congrArg (fun z:Nat×Tm.M=>Ending.returned (Value.int .i64 ((z.1:Nat):Int))) ho,h3⟩
theorem py (h:Aj w0 wf F A P l R gv gc cc ga N m w) (p:PS w0 P l) (C9:Wd16 m) (hb:m.bad=false) (hN:N≤800) {ts:List Rf.Tr} {i:Nat} {q:List (List Rf.Tr×Nat)} (hp:Tm.pop m.at_=(ts,i)::q) {W:List Lk.Wd} {B O:List Rf.Tr} (hd:ts.getD i (.node [] [] [])=.node W B O) (hl:W.length=4) (h0:Lk.wd W 0=Rf.wStore) (hok:Rf.fits (A7 l) W=true):
  Calls Tryz.prog 53 #[.pointer (some ⟨R,0,none⟩)] w fun e w'=>e=.returned (.int .i64 ((Tm.plain (A7 l) W { m with at_:=(ts,i+1)::q }).1:Nat))∧Aj w0 wf F A P l R gv gc cc ga (N+1) (Tm.plain (A7 l) W { m with at_:=(ts,i+1)::q }).2 w':=by
 have b4:=h.bad
 rw[hb] at b4
 have Ca:N≤900:=by omega
 have H:=hid h
 have HP:=hid hp
 have HD:=hid hd
 have HL:=hid hl
 have Ef:=hid hok
 have H0:=hid h0
 clear h hb hp hd hl h0 hok
 obtain ⟨o,ho⟩: ∃ o,Tm.plain (A7 l) W { m with at_:=(ts,i+1)::q }=o:=⟨_,rfl⟩
 rw[ho]
 have HO:=hid ho
 clear ho
 go_enter Tryz.func53,Tryz.ntmps53
 go_wp2_with (first
  |(go_at_call 86;refine (Ky H.out Ca).mono ?_;rintro e w1 ⟨r,rfl,hr1, -,hr3⟩;obtain ⟨sb,hr4,hs⟩:=hr3 _ _ _ HP.out;subst hr4;rw[HD.out] at hs;obtain ⟨gw,cw,ws,vb,vo,hW,hf,AY,Df⟩:=M9 hs;obtain ⟨a,b,c,d,e1,e2⟩:=kD hW HL.out;subst e1;have hz:Lk.wd W 0=a.toList:=(by rw[e2];rfl);rw[H0.out] at hz;have HZ:=hid hz.symm;have ez:a.toList=[115,116,111,114,101]:=hz.symm;have HE:=hid e2;clear hz e2;clear AY Df;have HF:=hid hf;have f1:=hf.later hr1;have s0:=f1.s0;have y0:=f1.hW 0 (by simp);simp only[List.length_cons,List.length_nil,List.getD_cons_zero,Nat.reduceAdd] at s0 y0;have Aw:=hid hr1;clear hr1 hr3 hs hW hf f1))
 go_wp2_with (first
  |(go_at_call 87;refine (Mt Aw.out HP.out Ca).mono ?_;rintro e w2 ⟨rfl,hr2⟩;have AU:=hid hr2;clear hr2)
  |(go_at_call 89;refine (jK AU.out p (C9.at _) gw cw a b c d (HF.out.later AU.out).hW (by have h:=Ef.out;rw[HE.out] at h;exact h) (.inr HZ.out)).mono ?_;rintro e w3 ⟨rfl,hr3⟩;rw[←HE.out] at hr3 ⊢;have E3:=hid hr3;clear hr3))
 go_ret
 have h3:=E3.out
 have ho:=HO.out
 rw[ho] at h3
 exact ⟨congrArg (fun z:Nat×Tm.M=>Ending.returned (Value.int .i64 ((z.1:Nat):Int))) ho,h3⟩
end
open Tm (TsOk DsOk Wd16)
section
variable {w0 wf:World} {F A:Nat→Prop} {P:Nat} {l:List DB} {R gv gc cc:Nat} {ga:Nat→Nat} {N N':Nat} {m:Tm.M} {w w':World}
theorem rF (h:Aj w0 wf F A P l R gv gc cc ga N m w) (p:PS w0 P l) (C9:Wd16 m) (hb:m.bad=false) (hN:N≤800) {ts:List Rf.Tr} {i:Nat} {q:List (List Rf.Tr×Nat)} (hp:Tm.pop m.at_=(ts,i)::q) {W:List Lk.Wd} {B O:List Rf.Tr} (hd:ts.getD i (.node [] [] [])=.node W B O) (hl:W.length=3) (n0:(Lk.wd W 0==[111,117,116])=false) (n1:(Lk.wd W 0==[105,102])=false) (n2:(Lk.wd W 0==[119,104,105,108,101])=false) (n3:(Lk.wd W 0==[108,111,97,100])=false) (n4:(Lk.wd W 0==[115,116,111,114,101])=false) (hok:Rf.scalar (A7 l) (Lk.wd W 0)=true) (ha:Rf.atom (A7 l) (Lk.wd W 2)=true):
  Calls Tryz.prog 53 #[.pointer (some ⟨R,0,none⟩)] w fun e w'=>e=.returned (.int .i64 ((0:Nat):Int))∧Aj w0 wf F A P l R gv gc cc ga (N+1) { m with at_:=(ts,i+1)::q,vals:=Lk.upd m.vals (Tm.idx (A7 l) (Lk.wd W 0)) (Tm.value (A7 l) m (Lk.wd W 2)) } w':=by
 have b4:=h.bad
 rw[hb] at b4
 obtain ⟨x,hx⟩: ∃ x,Tm.value (A7 l) m (Lk.wd W 2)=x:=⟨_,rfl⟩
 have Ww:x<16:=by rw[←hx];exact C9.value _
 rw[hx]
 obtain ⟨j,hj⟩: ∃ j,Tm.idx (A7 l) (Lk.wd W 0)=j:=⟨_,rfl⟩
 rw[hj]
 have Ca:N≤900:=by omega
 have H:=hid h
 have HP:=hid hp
 have HD:=hid hd
 have HL:=hid hl
 have Ef:=hid hok
 have HA:=hid ha
 have HX:=hid hx
 have HJ:=hid hj
 have hjl:j<l.length:=by rw[←hj];exact kx p hok
 have XS:(j:Int)<(l.length:Int):=by omega
 have DL:(l.length:Int)≤1000:=by have:=p.len;omega
 clear h hb hp hd hl ha hx hj hok
 go_enter Tryz.func53,Tryz.ntmps53
 go_wp2_with (first
  |(go_at_call 86;refine (Ky H.out Ca).mono ?_;rintro e w1 ⟨r,rfl,hr1, -,hr3⟩;obtain ⟨sb,hr4,hs⟩:=hr3 _ _ _ HP.out;subst hr4;rw[HD.out] at hs;obtain ⟨gw,cw,ws,vb,vo,hW,hf,AY,Df⟩:=M9 hs;obtain ⟨a,b,c,e1,e2,e3,e4⟩:=y_ hW HL.out;subst e1;have k0:=e2;have m0:=n0;have m1:=n1;have m2:=n2;have m3:=n3;have m4:=n4;rw[←e2] at m0 m1 m2 m3 m4;have HE0:=hid e2;have RQ:=hid e4;clear e2 e3 e4 AY Df k0;have HF:=hid hf;have f1:=hf.later hr1;have s0:=f1.s0;have y0:=f1.hW 0 (by simp);simp only[List.length_cons,List.length_nil,List.getD_cons_zero,Nat.reduceAdd] at s0 y0;have Aw:=hid hr1;clear hr1 hr3 hs hW hf f1))
 go_wp2_with (first
  |(go_at_call 87;refine (Mt Aw.out HP.out Ca).mono ?_;rintro e w2 ⟨rfl,hr2⟩;have f2:=HF.out.later hr2;have t0:=f2.hW 0 (by simp);have t2:=f2.hW 2 (by simp);simp only[List.getD_cons_zero,List.getD_cons_succ] at t0 t2;have v0:=hr2.v0;have v1:=hr2.vals.cell hjl;have v2:=hr2.vals.frozen j;have AU:=hid hr2;clear hr2 f2)
  |(go_at_call_of 88 (Value.string c);refine (N0 AU.out p RQ.out HA.out HX.out).mono ?_;rintro e w3 ⟨rfl,k3,hw3⟩;subst hw3)
  |(go_at_call 91;refine (jL (AU.out.drew _) p HE0.out Ef.out HJ.out).mono ?_;rintro e w6 ⟨rfl,hw6⟩;have RH:=hw6.symm;subst RH)
  |(go_at_call 85;refine (IG 0 0 _ (by omega) (by omega)).mono ?_;rintro e w' ⟨rfl,hw'⟩;subst hw'))
 go_ret
 exact ⟨rfl,(AU.out.drew _).Zz _ _⟩
end
open Tm (TsOk DsOk Wd16)
section
variable {w0 wf:World} {F A:Nat→Prop} {P:Nat} {l:List DB} {R gv gc cc:Nat} {ga:Nat→Nat} {N N':Nat} {m:Tm.M} {w w':World}
theorem rG (h:Aj w0 wf F A P l R gv gc cc ga N m w) (p:PS w0 P l) (C9:Wd16 m) (hb:m.bad=false) (hN:N≤800) {ts:List Rf.Tr} {i:Nat} {q:List (List Rf.Tr×Nat)} (hp:Tm.pop m.at_=(ts,i)::q) {W:List Lk.Wd} {B O:List Rf.Tr} (hd:ts.getD i (.node [] [] [])=.node W B O) (hl:W.length=5) (n0:(Lk.wd W 0==[111,117,116])=false) (n1:(Lk.wd W 0==[105,102])=false) (n2:(Lk.wd W 0==[119,104,105,108,101])=false) (n3:(Lk.wd W 0==[108,111,97,100])=false) (n4:(Lk.wd W 0==[115,116,111,114,101])=false) (hok:Rf.scalar (A7 l) (Lk.wd W 0)=true) (ha:Rf.atom (A7 l) (Lk.wd W 2)=true) (hb4:Rf.atom (A7 l) (Lk.wd W 4)=true) (o:Nat) (hop:Lk.oper? (Lk.wd W 3)=some o):
  Calls Tryz.prog 53 #[.pointer (some ⟨R,0,none⟩)] w fun e w'=>e=.returned (.int .i64 ((0:Nat):Int))∧Aj w0 wf F A P l R gv gc cc ga (N+1) { m with at_:=(ts,i+1)::q,vals:=Lk.upd m.vals (Tm.idx (A7 l) (Lk.wd W 0)) (Mc.apply o (Tm.value (A7 l) m (Lk.wd W 2)) (Tm.value (A7 l) m (Lk.wd W 4))) } w':=by
 have b4:=h.bad
 rw[hb] at b4
 obtain ⟨x,hx⟩: ∃ x,Tm.value (A7 l) m (Lk.wd W 2)=x:=⟨_,rfl⟩
 have Ww:x<16:=by rw[←hx];exact C9.value _
 rw[hx]
 obtain ⟨y,hy⟩: ∃ y,Tm.value (A7 l) m (Lk.wd W 4)=y:=⟨_,rfl⟩
 have ahe:y<16:=by rw[←hy];exact C9.value _
 rw[hy]
 obtain ⟨j,hj⟩: ∃ j,Tm.idx (A7 l) (Lk.wd W 0)=j:=⟨_,rfl⟩
 rw[hj]
 have Ca:N≤900:=by omega
 have H:=hid h
 have HP:=hid hp
 have HD:=hid hd
 have HL:=hid hl
 have Ef:=hid hok
 have HA:=hid ha
 have HX:=hid hx
 have HJ:=hid hj
 have hjl:j<l.length:=by rw[←hj];exact kx p hok
 have XS:(j:Int)<(l.length:Int):=by omega
 have DL:(l.length:Int)≤1000:=by have:=p.len;omega
 have Dl:=hid hb4
 have Xp:=hid hop
 have HY:=hid hy
 obtain ⟨z,hz⟩: ∃ z,Mc.apply o x y=z:=⟨_,rfl⟩
 have HZ:=hid hz
 clear h hb hp hd hl ha hx hj hok hb4 hop hy hz
 go_enter Tryz.func53,Tryz.ntmps53
 go_wp2_with (first
  |(go_at_call 86;refine (Ky H.out Ca).mono ?_;rintro e w1 ⟨r,rfl,hr1, -,hr3⟩;obtain ⟨sb,hr4,hs⟩:=hr3 _ _ _ HP.out;subst hr4;rw[HD.out] at hs;obtain ⟨gw,cw,ws,vb,vo,hW,hf,AY,Df⟩:=M9 hs;obtain ⟨a,b,c,d,f,e1,e2,e4,e5,e6⟩:=abN hW HL.out;subst e1;have m0:=n0;have m1:=n1;have m2:=n2;have m3:=n3;have m4:=n4;rw[←e2] at m0 m1 m2 m3 m4;have HE0:=hid e2;have RQ:=hid e4;have PW:=hid e5;have HE4:=hid e6;clear e2 e4 e5 e6 AY Df;have HF:=hid hf;have f1:=hf.later hr1;have s0:=f1.s0;have y0:=f1.hW 0 (by simp);simp only[List.length_cons,List.length_nil,List.getD_cons_zero,Nat.reduceAdd] at s0 y0;have Aw:=hid hr1;clear hr1 hr3 hs hW hf f1))
 go_wp2_with (first
  |(go_at_call 87;refine (Mt Aw.out HP.out Ca).mono ?_;rintro e w2 ⟨rfl,hr2⟩;have f2:=HF.out.later hr2;have t0:=f2.hW 0 (by simp);have t2:=f2.hW 2 (by simp);have t3:=f2.hW 3 (by simp);have t4:=f2.hW 4 (by simp);simp only[List.getD_cons_zero,List.getD_cons_succ] at t0 t2 t3 t4;have v0:=hr2.v0;have v1:=hr2.vals.cell hjl;have v2:=hr2.vals.frozen j;have AU:=hid hr2;clear hr2 f2)
  |(go_at_call_of 88 (Value.string c);refine (N0 AU.out p RQ.out HA.out HX.out).mono ?_;rintro e w3 ⟨rfl,k3,hw3⟩;subst hw3)
  |(go_at_call_of 88 (Value.string f);refine (N0 (AU.out.drew _) p HE4.out Dl.out HY.out).mono ?_;rintro e w4 ⟨rfl,k4,hw4⟩;subst hw4)
  |(go_at_call 90;refine (pY d o (by rw[PW.out];exact Xp.out) x y Ww ahe _).mono ?_;rintro e w5 ⟨rfl,XQ⟩;subst XQ)
  |(go_at_call 91;refine (jL (AU.out.drew _) p HE0.out Ef.out HJ.out).mono ?_;rintro e w6 ⟨rfl,hw6⟩;have RH:=hw6.symm;subst RH)
  |(go_at_call 85;refine (IG 0 0 _ (by omega) (by omega)).mono ?_;rintro e w' ⟨rfl,hw'⟩;subst hw'))
 go_ret
 exact ⟨rfl,(AU.out.drew _).Zz _ _⟩
end
end Go.Proofs.YtgddmpmcnjlcjaaGreatDoor
