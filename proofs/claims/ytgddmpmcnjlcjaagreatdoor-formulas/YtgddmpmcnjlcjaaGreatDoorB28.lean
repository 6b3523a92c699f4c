import Derived.Test.YtgddmpmcnjlcjaaGreatDoorB27
import Derived.Lib.AppendIntMem
import Derived.Test.YtgddmpmcnjlcjaaGreatDoorB11
import Derived.Test.YtgddmpmcnjlcjaaGreatDoorB18
import Derived.Test.YtgddmpmcnjlcjaaGreatDoorB25
set_option maxRecDepth 100000
set_option maxHeartbeats 4000000
namespace Go.Proofs.YtgddmpmcnjlcjaaGreatDoor
open Go.RowKit
set_option linter.unusedVariables false
structure abm (w w':World) (e:Ending) (p:Pg) (k:Nat):Prop where
 A8:Below w.heap.size w w'
 sec: ¬(Pr.fd p k).al<k→ ∃ (nv:Int) (f g:ByteArray) (nd cf:Int),e=.returned (.tuple #[.int .i64 1,.agg #[.int .i64 0,.slice none 0 0,.slice none 0 0,.int .i64 0,.int .i64 nv,.string f,.string g,.int .i64 nd,.int .i64 cf]])
 ins:(Pr.fd p k).al<k→ ∃ a1 c1 a2 c2 i j, ∃ (nv:Int) (f g:ByteArray) (nd cf:Int),e=.returned (.tuple #[.int .i64 2,.agg #[.int .i64 0,.slice a1 p.sec.length c1,.slice a2 p.sec.length c2,.int .i64 (Pr.fd p k).al,.int .i64 nv,.string f,.string g,.int .i64 nd,.int .i64 cf]])∧(Pr.fd p k).fi=some (i,j)∧
  w'.ownsRow w.heap.size 3 1 (.slice a1 p.sec.length c1) p.sec.length ((Pr.inp p.sec i 0).map fun (n:Nat)=>.int .i64 n)∧
  w'.ownsRow w.heap.size 3 1 (.slice a2 p.sec.length c2) p.sec.length ((Pr.inp p.sec i j).map fun (n:Nat)=>.int .i64 n)
abbrev Ld (w:World):Prop:=Lib.TabIs Tryz.prog w "internal/strconv.uint64pow10" .u64 Lib.pow10Tab
theorem Zj {w w':World} (h:Ld w) (hb:Below w.heap.size w w'):Ld w':=Lib.tabBelow_of_tabIs h w' hb
def ak1 (s:ByteArray) (k:Nat):Prop:= ∀ w:World,Ld w→Calls Tryz.prog 7 #[.string s,.int .i64 k,.agg #[.int .i64 0,.int .i64 0]] w fun e w'=>abm w w' e (Fb s.toList) k
abbrev ZK (n:Int):Value:=.agg #[.int .i64 n,.slice none 0 0,.slice none 0 0,.int .i64 0,.int .i64 0,.string ⟨#[]⟩,.string ⟨#[]⟩,.int .i64 0,.int .i64 0]
namespace Ck
def nodes (p:Pg) (k:Nat):List Dg.Nd:=(Dg.Aa p k (7*k)).1.nodes
def told (p:Pg) (k:Nat):List Nat:=(Dg.Aa p k (7*k)).2
def fm (p:Pg) (k:Nat):Cl.Fm:=Cl.form p.sec (nodes p k) (told p k)
def pf (p:Pg) (k:Nat):Nat×List UInt8:=Cl.Nj (fm p k).bits (fm p k).ct
theorem Zk {p:Pg} (ok:Ep p) (k:Nat) (hk:k≤10):Dg.Ok p.sec.length (2 ^ (Dg.order p.sec.length).length) (Dg.Aa p k (7*k)).1∧(told p k).length=7*k∧(∀ j,j<7*k→(told p k).getD j 0<(nodes p k).length)∧(nodes p k).length≤400000:=by
 obtain ⟨a,b,c,d⟩:=Dg.Zd p.sec.length p.sec (2 ^ (Dg.order p.sec.length).length) (Dg.order p.sec.length) (Dg.told p (Dg.order p.sec.length) k) (Dg.Yg _) (7*k)
 refine ⟨a,b,c,?_⟩
 have hs:=ok.sec
 have h1:2 ^ (Dg.order p.sec.length).length≤4096:=by rw[Dg.VN];exact Nat.pow_le_pow_right (by omega) (show p.sec.length*4≤12 by omega)
 have h2:7*k*2 ^ (Dg.order p.sec.length).length≤70*4096:=Nat.mul_le_mul (by omega) h1
 have h3:(nodes p k).length≤2+7*k*2 ^ (Dg.order p.sec.length).length:=d
 omega
theorem jb {p:Pg} (ok:Ep p) (k:Nat) (hk:k≤10):(fm p k).bits.length=7*k∧(∀ i,((fm p k).bits.getD i {}).Ok)∧(fm p k).ct≤900000000:=by
 obtain ⟨h1,h2,h3,h4⟩:=Zk ok k hk
 have hv:=Cl.Jo p.sec
 have hs:=ok.sec
 have hct:(Cl.Bw p.sec (nodes p k) (told p k).length).ct≤8*400000:=by
  have key: ∀ (nodes:List Dg.Nd) (b1 b2:List Nat) (x:Cl.Ns) (i:Nat),(Cl.BG nodes b1 b2 x i).ct≤x.ct+8*i:=by
   intro nodes b1 b2 x i
   induction i with
   |zero=>exact Nat.le_refl _
   |succ i ih=>
    unfold Cl.BG
    split
    ·omega
    ·show (Cl.two _ _ _ (Cl.one _ _ _ _ _)).ct≤_
     have s: ∀ n,Bd n≤2:=fun n=>by unfold Bd;split <;> omega
     have a1:(Cl.one nodes.length b1 (Dg.AG nodes i) i (Cl.BG nodes b1 b2 x i)).ct≤(Cl.BG nodes b1 b2 x i).ct+4:=by
      show (Cl.BG nodes b1 b2 x i).ct+(Bd _+Bd _)≤_
      have:=s (Dg.AG nodes i).lo
      have:=s (Dg.AG nodes i).hi
      omega
     have a2: ∀ y:Cl.Ns,(Cl.two nodes.length b2 (Dg.AG nodes i) y).ct≤y.ct+4:=fun y=>by
      unfold Cl.two
      split
      ·show y.ct+(Bd _+Bd _)≤_
       have:=s (Dg.AG nodes i).lo
       have:=s (Dg.AG nodes i).hi
       omega
      ·omega
     have:=a2 (Cl.one nodes.length b1 (Dg.AG nodes i) i (Cl.BG nodes b1 b2 x i))
     omega
  have:=key (nodes p k) (Cl.b1 p.sec) (Cl.b2 p.sec) ⟨Cl.AK p.sec+3*(told p k).length,0,fun _=>0,fun _=>0,[]⟩ (nodes p k).length
  show (Cl.BG _ _ _ _ _).ct≤_
  have e0:(⟨Cl.AK p.sec+3*(told p k).length,0,fun _=>0,fun _=>0,[]⟩:Cl.Ns).ct=0:=rfl
  omega
 have t1: ∀ i,i≤70→(Cl.DK p.sec (nodes p k) (told p k) i).1≤3300000:=fun i hi=>by
  have:=Cl.Vw (Cl.n1 p.sec (nodes p k) (told p k).length) (Cl.AK p.sec) (told p k) (Cl.Bw p.sec (nodes p k) (told p k).length).ct i
  unfold Cl.DK
  omega
 have t2: ∀ i,i≤70→(Cl.EB p.sec (nodes p k) (told p k) i).1≤3400000:=fun i hi=>by
  have h70:=t1 (told p k).length (by omega)
  have:=Cl.Vw (Cl.n2 p.sec (nodes p k) (told p k).length) (Cl.AK p.sec+(told p k).length) (told p k) (Cl.DK p.sec (nodes p k) (told p k) (told p k).length).1 i
  unfold Cl.EB
  omega
 have hbl:(fm p k).bits.length=7*k:=by show ((List.range (told p k).length).map _).length=_;simp[h2]
 refine ⟨hbl,fun i=>?_,?_⟩
 ·by_cases c:i<7*k
  ·have e:(fm p k).bits.getD i {}=Cl.ae p.sec (nodes p k) (told p k) i:=by
    show ((List.range (told p k).length).map (Cl.ae p.sec (nodes p k) (told p k))).getD i ({}:Cl.Bt)=_
    simp[h2,c]
   rw[e]
   have a1:=t1 i (by omega)
   have a2:=t2 i (by omega)
   have a3:=t2 (told p k).length (by omega)
   refine ⟨?_,?_,?_,?_,?_,?_⟩
   ·show Cl.AK p.sec+1+i≤_;omega
   ·show (Cl.DK p.sec (nodes p k) (told p k) i).1+1≤_;omega
   ·show Cl.AK p.sec+(told p k).length+1+i≤_;omega
   ·show (Cl.EB p.sec (nodes p k) (told p k) i).1+1≤_;omega
   ·show Cl.AK p.sec+2*(told p k).length+1+i≤_;omega
   ·show (Cl.EB p.sec (nodes p k) (told p k) (told p k).length).1+4*i+1≤_;omega
  ·rw[List.getD_eq_getElem?_getD,List.getElem?_eq_none (by omega)]
   exact ⟨Nat.zero_le _,Nat.zero_le _,Nat.zero_le _,Nat.zero_le _,Nat.zero_le _,Nat.zero_le _⟩
 ·have a3:=t2 (told p k).length (by omega)
  show (Cl.EB p.sec (nodes p k) (told p k) (told p k).length).1+4*(told p k).length+1≤_
  omega
end Ck
structure Sk (w w':World) (e:Ending) (p:Pg) (k n c:Nat):Prop where
 A8:Below w.heap.size w w'
 unk: ¬Dg.Fits p k n∨(¬(Pr.fd p k).al<k∧c≠0∧c<(Ck.pf p k).1)→e=.returned (.tuple #[.int .i64 3,ZK 0])
 ins:Dg.Fits p k n→(Pr.fd p k).al<k→ ∃ a1 c1 a2 c2 i j,e=.returned (.tuple #[.int .i64 2,.agg #[.int .i64 0,.slice a1 p.sec.length c1,.slice a2 p.sec.length c2,.int .i64 (Pr.fd p k).al,.int .i64 (Ck.fm p k).vars,.string ⟨(Ck.fm p k).bs.toArray⟩,.string ⟨#[]⟩,.int .i64 ((Ck.nodes p k).length - 2),.int .i64 0]])∧(Pr.fd p k).fi=some (i,j)∧
  w'.ownsRow w.heap.size 3 1 (.slice a1 p.sec.length c1) p.sec.length ((Pr.inp p.sec i 0).map fun (n:Nat)=>.int .i64 n)∧
  w'.ownsRow w.heap.size 3 1 (.slice a2 p.sec.length c2) p.sec.length ((Pr.inp p.sec i j).map fun (n:Nat)=>.int .i64 n)
 sec:Dg.Fits p k n→ ¬(Pr.fd p k).al<k→c=0∨(Ck.pf p k).1≤c→e=.returned (.tuple #[.int .i64 1,.agg #[.int .i64 0,.slice none 0 0,.slice none 0 0,.int .i64 0,.int .i64 (Ck.fm p k).vars,.string ⟨(Ck.fm p k).bs.toArray⟩,.string ⟨(Ck.pf p k).2.toArray⟩,.int .i64 ((Ck.nodes p k).length - 2),.int .i64 (Ck.pf p k).1]])
theorem zy (a1 a2:Option Addr) (n1 c1 n2 c2:Nat) (hn:n1≤1000000) (w:World):
  Calls Tryz.prog 19 #[.agg #[.slice a1 n1 c1,.slice a2 n2 c2]] w fun e w'=>e=.returned (.int .i64 ((n1:Int) - 2))∧Below w.heap.size w w':=by
 have Fj:(n1:Int)≤1000000:=by omega
 go_enter Tryz.func19,Tryz.ntmps19
 go_wp2_with fail
 go_ret
 exact ⟨rfl,(Below.refl _ _).alloc (Nat.le_refl _) _⟩
theorem Am {a b:World} {q n:Nat} {t:TypeId} {f:Nat→Value} (h:a.rowIs q t n f) (hb:Below a.heap.size a b):b.rowIs q t n f:=h.of_block (hb.block q h.lt)
def KU (i:Nat):Value:=if i=0 then .int .i64 0 else if i=1 then .slice none 0 0 else if i=2 then .slice none 0 0 else if i=3 then .int .i64 0 else if i=4 then .int .i64 0 else if i=5 then .string ⟨#[]⟩ else if i=6 then .string ⟨#[]⟩ else .int .i64 0
theorem aa6 {G:Prop} {X w1:World} (hb:Below (X.alloc (.cells #[.int .i64 0,.slice none 0 0,.slice none 0 0,.int .i64 0,.int .i64 0,.string ⟨#[]⟩,.string ⟨#[]⟩,.int .i64 0,.int .i64 0] 26)).drew.heap.size (X.alloc (.cells #[.int .i64 0,.slice none 0 0,.slice none 0 0,.int .i64 0,.int .i64 0,.string ⟨#[]⟩,.string ⟨#[]⟩,.int .i64 0,.int .i64 0] 26)).drew w1)
  (k:(w1.cell? ⟨X.heap.size,0,none⟩=some (.int .i64 0))→(w1.cell? ⟨X.heap.size,1,none⟩=some (.slice none 0 0))→(w1.cell? ⟨X.heap.size,2,none⟩=some (.slice none 0 0))→(w1.cell? ⟨X.heap.size,3,none⟩=some (.int .i64 0))→(w1.cell? ⟨X.heap.size,4,none⟩=some (.int .i64 0))→(w1.cell? ⟨X.heap.size,5,none⟩=some (.string ⟨#[]⟩))→(w1.cell? ⟨X.heap.size,6,none⟩=some (.string ⟨#[]⟩))→(w1.cell? ⟨X.heap.size,7,none⟩=some (.int .i64 0))→(w1.cell? ⟨X.heap.size,8,none⟩=some (.int .i64 0))→(∀ i,w1.frozen? ⟨X.heap.size,i,none⟩=false)→G):G:=by
 have r:((X.alloc (.cells #[.int .i64 0,.slice none 0 0,.slice none 0 0,.int .i64 0,.int .i64 0,.string ⟨#[]⟩,.string ⟨#[]⟩,.int .i64 0,.int .i64 0] 26)).drew).rowIs X.heap.size 26 9 KU:=Fw (CX _ _ _ rfl) rfl (fun i hi=>by
  match i,hi with
  |0,_=>rfl
  |1,_=>rfl
  |2,_=>rfl
  |3,_=>rfl
  |4,_=>rfl
  |5,_=>rfl
  |6,_=>rfl
  |7,_=>rfl
  |8,_=>rfl
  |n+9,h=>omega)
 have r2:=Am r hb
 exact k (r2.cell (i:=0) (by omega)) (r2.cell (i:=1) (by omega)) (r2.cell (i:=2) (by omega)) (r2.cell (i:=3) (by omega)) (r2.cell (i:=4) (by omega)) (r2.cell (i:=5) (by omega)) (r2.cell (i:=6) (by omega)) (r2.cell (i:=7) (by omega)) (r2.cell (i:=8) (by omega)) (fun i=>r2.frozen i)
section
variable {base q:Nat} {a w:World}
theorem Sp (h:Below base a w) (hq:base≤q) (v0 v1 v2 v3 v4 v5 v6 v7 v8:Value):Below base a (((((((((w.setCell ⟨q,0,none⟩ v0).setCell ⟨q,1,none⟩ v1).setCell ⟨q,2,none⟩ v2).setCell ⟨q,3,none⟩ v3).setCell ⟨q,4,none⟩ v4).setCell ⟨q,5,none⟩ v5).setCell ⟨q,6,none⟩ v6).setCell ⟨q,7,none⟩ v7).setCell ⟨q,8,none⟩ v8):=
 ((((((((h.setCell (p:=⟨q,0,none⟩) hq _).setCell (p:=⟨q,1,none⟩) hq _).setCell (p:=⟨q,2,none⟩) hq _).setCell (p:=⟨q,3,none⟩) hq _).setCell (p:=⟨q,4,none⟩) hq _).setCell (p:=⟨q,5,none⟩) hq _).setCell (p:=⟨q,6,none⟩) hq _).setCell (p:=⟨q,7,none⟩) hq _).setCell (p:=⟨q,8,none⟩) hq _
theorem adj (v0 v1 v2 v3 v4 v5 v6 v7 v8:Value):A9 0 (fun k=>k=q) w (((((((((w.setCell ⟨q,0,none⟩ v0).setCell ⟨q,1,none⟩ v1).setCell ⟨q,2,none⟩ v2).setCell ⟨q,3,none⟩ v3).setCell ⟨q,4,none⟩ v4).setCell ⟨q,5,none⟩ v5).setCell ⟨q,6,none⟩ v6).setCell ⟨q,7,none⟩ v7).setCell ⟨q,8,none⟩ v8):=
 A9.setCell (p:=⟨q,8,none⟩) (A9.setCell (p:=⟨q,7,none⟩) (A9.setCell (p:=⟨q,6,none⟩) (A9.setCell (p:=⟨q,5,none⟩) (A9.setCell (p:=⟨q,4,none⟩) (A9.setCell (p:=⟨q,3,none⟩) (A9.setCell (p:=⟨q,2,none⟩) (A9.setCell (p:=⟨q,1,none⟩) (A9.setCell (p:=⟨q,0,none⟩) (A9.refl 0 (fun k=>k=q) w) (Nat.zero_le _) rfl _) (Nat.zero_le _) rfl _) (Nat.zero_le _) rfl _) (Nat.zero_le _) rfl _) (Nat.zero_le _) rfl _) (Nat.zero_le _) rfl _) (Nat.zero_le _) rfl _) (Nat.zero_le _) rfl _) (Nat.zero_le _) rfl _
end
theorem ot (s:ByteArray) (k n c:Nat) (w:World) (Ag:Ld w) (hk:k≤10) (hn:n≤1048576) (hc:c≤1048576) (hl:(Lk.read s.toList).2=0) (hfit: ¬Dg.Fits (Fb s.toList) k n):
  Calls Tryz.prog 7 #[.string s,.int .i64 k,.agg #[.int .i64 n,.int .i64 c]] w fun e w'=>Sk w w' e (Fb s.toList) k n c:=by
 have h1:wi k 10=true:=by unfold wi;exact decide_eq_true ⟨by omega,by omega⟩
 have h2:wi n 1048576=true:=by unfold wi;exact decide_eq_true ⟨by omega,by omega⟩
 have h3:wi c 1048576=true:=by unfold wi;exact decide_eq_true ⟨by omega,by omega⟩
 have HR:=hid (show ∀ W:World,Calls Tryz.prog 16 #[.string s] W fun e w1=> ∃ vs vc vk nv,e=.returned (.tuple #[.agg #[vs,.int .i64 nv,vc,vk],.int .i64 0])∧IV w1 (Fb s.toList) vs vc vk∧Below W.heap.size W w1 from fun W=>(gp _ _).mono (fun e w1 R=>by
  obtain ⟨vs,vc,vk,he,o1,o2,o3⟩:=R.good hl
  exact ⟨vs,vc,vk,_,he,⟨Br o1 (Nat.zero_le _),Br o2 (Nat.zero_le _),Br o3 (Nat.zero_le _)⟩,R.A8⟩))
 have OK:=hid (Vv s.toList)
 have HT:=hid Ag
 clear hl Ag
 generalize Fb s.toList=p at HR OK hfit
 have M_:=hid hfit
 clear hfit
 obtain ⟨W0,hW0⟩: ∃ W0:World,(w.alloc (.cells #[.int .i64 n,.int .i64 c] 30)).alloc (.cells #[.int .i64 0,.slice none 0 0,.slice none 0 0,.int .i64 0,.int .i64 0,.string ⟨#[]⟩,.string ⟨#[]⟩,.int .i64 0,.int .i64 0] 26)=W0:=⟨_,rfl⟩
 have hz0:W0.heap.size=w.heap.size+2:=by rw[←hW0];simp
 have Nc:=hid (show Below w.heap.size w W0 by rw[←hW0];exact ((Below.refl _ _).alloc (Nat.le_refl _) _).alloc (by simp) _)
 have KV:=hid (show W0.rowIs w.heap.size 30 2 (E_ (.int .i64 n) (.int .i64 c)) by
  rw[←hW0]
  exact Fw (Du _ _ _ _ (CX _ _ _ rfl)) rfl (fun i hi=>by
   match i,hi with
   |0,_=>rfl
   |1,_=>rfl
   |n+2,h=>omega))
 have JZ:=hid (show W0.rowIs (w.heap.size+1) 26 9 KU by
  rw[←hW0]
  exact Fw (CX _ _ _ (by simp)) rfl (fun i hi=>by
   match i,hi with
   |0,_=>rfl
   |1,_=>rfl
   |2,_=>rfl
   |3,_=>rfl
   |4,_=>rfl
   |5,_=>rfl
   |6,_=>rfl
   |7,_=>rfl
   |8,_=>rfl
   |n+9,h=>omega))
 have HE:=hid hW0
 clear hW0
 go_enter Tryz.func7,Tryz.ntmps7
 go_wp2_with (first
  |(go_at_call 15;refine (eG _ _ _).mono ?_;rintro e w' ⟨rfl,rfl⟩)
  |(go_at_call 16;rw[HE.out];refine (HR.out _).mono ?_;rintro e w1 ⟨vs,vc,vk,nv,rfl,hp1,hb1⟩;have EF:=hid hp1;have AL:=hid hb1;clear hp1 hb1;refine Hid.out ?_))
 refine hid ?_
 obtain ⟨Bj,cs0,es⟩:=AX EF.out.s
 obtain ⟨ac,cc,ec⟩:=AX EF.out.c
 obtain ⟨ak,ck,ek⟩:=AX EF.out.k
 subst es ec ek
 obtain ⟨W1,hW1⟩: ∃ W1:World,w1.alloc (.cells #[.slice Bj p.sec.length cs0,.int .i64 nv,.slice ac p.cells.length cc,.slice ak p.code.length ck] 45)=W1:=⟨_,rfl⟩
 have z1:=AL.out.size
 have hz1:W1.heap.size=w1.heap.size+1:=by rw[←hW1];simp
 have Jz:=hid (show Below w1.heap.size w1 W1 by rw[←hW1];exact (Below.refl _ _).alloc (Nat.le_refl _) _)
 have J4:=hid (EF.out.same Jz.out)
 have FN:=hid (show W1.rowIs w1.heap.size 45 4 (Nb (.slice Bj p.sec.length cs0) (.slice ac p.cells.length cc) (.slice ak p.code.length ck) nv) by rw[←hW1];exact WH (CX _ _ _ rfl))
 have Oo:=hid (show Below w.heap.size w W1 from (Nc.out.trans (AL.out.mono (by omega))).trans (Jz.out.mono (by omega)))
 have Eh:=hid (Am (Am KV.out AL.out) Jz.out)
 have Aw:=hid (Am (Am JZ.out AL.out) Jz.out)
 have Nq:=hid hW1
 have l0:=fun o=>((Am KV.out AL.out).alloc o).cell (i:=0) (by omega)
 have UM:=(Am KV.out AL.out).cell (i:=0) (by omega)
 rw[show ∀ a b,E_ a b 0=a from fun _ _=>rfl] at l0 UM
 have C:=hid ((kK p OK.out k hk n hn W1 _ _ _ nv J4.out).mono (fun e w' h=>(⟨h.no M_.out,h.A8⟩:_∧_)))
 clear hW1 HE HR
 go_wp2_with (go_at_call 17;rw[Nq.out];refine C.out.mono ?_;rintro e w2 ⟨rfl,hb2⟩;have AP:=hid hb2;clear hb2;refine Hid.out ?_)
 refine hid ?_
 have z2:=AP.out.size
 have GZ:=hid (Am Eh.out AP.out)
 have AU:=hid (Am Aw.out AP.out)
 have Oz:=hid (Am FN.out AP.out)
 have Pj:=hid (J4.out.same AP.out)
 have bN:=hid (show Below w.heap.size w w2 from Oo.out.trans (AP.out.mono (by omega)))
 clear Nq l0 UM C KV JZ Eh Aw FN EF J4 Nc Oo
 have q0:=fun o=>(AU.out.alloc o).cell (i:=0) (by omega)
 have q1:=fun o=>(AU.out.alloc o).cell (i:=1) (by omega)
 have q2:=fun o=>(AU.out.alloc o).cell (i:=2) (by omega)
 have q3:=fun o=>(AU.out.alloc o).cell (i:=3) (by omega)
 have q4:=fun o=>(AU.out.alloc o).cell (i:=4) (by omega)
 have q5:=fun o=>(AU.out.alloc o).cell (i:=5) (by omega)
 have q6:=fun o=>(AU.out.alloc o).cell (i:=6) (by omega)
 have q7:=fun o=>(AU.out.alloc o).cell (i:=7) (by omega)
 have q8:=fun o=>(AU.out.alloc o).cell (i:=8) (by omega)
 have qf:=fun i o=>(AU.out.alloc o).frozen i
 simp only[KU,Nat.reduceEqDiff,if_true,if_false] at q0 q1 q2 q3 q4 q5 q6 q7 q8
 go_wp2_with fail
 refine bodyPost_ret (v:=.tuple #[.int .i64 3,ZK 0]) (by simp[results,Tryz.results7,go_sem,q0,q1,q2,q3,q4,q5,q6,q7,q8]) rfl ⟨?_,fun _=>rfl,fun c=>absurd c M_.out,fun c=>absurd c M_.out⟩
 exact Sp (bN.out.alloc (by omega) _) (Nat.le_succ _) _ _ _ _ _ _ _ _ _
def Pk (vars:Int) (txt:ByteArray) (nd:Int) (i:Nat):Value:=if i=4 then .int .i64 vars else if i=5 then .string txt else if i=7 then .int .i64 nd else KU i
theorem bR {P:Nat→Prop} (h0:P 0) (h1:P 1) (h2:P 2) (h3:P 3) (h4:P 4) (h5:P 5) (h6:P 6) (h7:P 7) (h8:P 8) (q:Nat) (hq:q<9):P q:=by
 match q,hq with
 |0,_=>exact h0
 |1,_=>exact h1
 |2,_=>exact h2
 |3,_=>exact h3
 |4,_=>exact h4
 |5,_=>exact h5
 |6,_=>exact h6
 |7,_=>exact h7
 |8,_=>exact h8
 |n+9,h=>omega
theorem wS {X w4:World} {g:Nat} (hb:Below (X.alloc (.cells #[.int .i64 0,.slice none 0 0,.slice none 0 0,.int .i64 0,.int .i64 0,.string ⟨#[]⟩,.string ⟨#[]⟩,.int .i64 0,.int .i64 0] 26)).drew.heap.size (X.alloc (.cells #[.int .i64 0,.slice none 0 0,.slice none 0 0,.int .i64 0,.int .i64 0,.string ⟨#[]⟩,.string ⟨#[]⟩,.int .i64 0,.int .i64 0] 26)).drew w4) (hg:X.heap.size=g) (vars:Int) (txt:ByteArray) (nd:Int):
  (((((((((w4.setCell ⟨g,0,none⟩ (.int .i64 0)).setCell ⟨g,1,none⟩ (.slice none 0 0)).setCell ⟨g,2,none⟩ (.slice none 0 0)).setCell ⟨g,3,none⟩ (.int .i64 0)).setCell ⟨g,4,none⟩ (.int .i64 vars)).setCell ⟨g,5,none⟩ (.string txt)).setCell ⟨g,6,none⟩ (.string ⟨#[]⟩)).setCell ⟨g,7,none⟩ (.int .i64 nd)).setCell ⟨g,8,none⟩ (.int .i64 0)).rowIs g 26 9 (Pk vars txt nd)∧Below X.heap.size X (((((((((w4.setCell ⟨g,0,none⟩ (.int .i64 0)).setCell ⟨g,1,none⟩ (.slice none 0 0)).setCell ⟨g,2,none⟩ (.slice none 0 0)).setCell ⟨g,3,none⟩ (.int .i64 0)).setCell ⟨g,4,none⟩ (.int .i64 vars)).setCell ⟨g,5,none⟩ (.string txt)).setCell ⟨g,6,none⟩ (.string ⟨#[]⟩)).setCell ⟨g,7,none⟩ (.int .i64 nd)).setCell ⟨g,8,none⟩ (.int .i64 0)):=by
 subst hg
 have r:((X.alloc (.cells #[.int .i64 0,.slice none 0 0,.slice none 0 0,.int .i64 0,.int .i64 0,.string ⟨#[]⟩,.string ⟨#[]⟩,.int .i64 0,.int .i64 0] 26)).drew).rowIs X.heap.size 26 9 KU:=Fw (CX _ _ _ rfl) rfl (bR rfl rfl rfl rfl rfl rfl rfl rfl rfl)
 refine ⟨(((((((((Am r hb).set 0 _).set 1 _).set 2 _).set 3 _).set 4 _).set 5 _).set 6 _).set 7 _).set 8 _|>.congr (bR rfl rfl rfl rfl rfl rfl rfl rfl rfl),Sp ((((Below.refl X.heap.size X).alloc (Nat.le_refl _) _).drew).trans (hb.mono (by simp))) (Nat.le_refl _) _ _ _ _ _ _ _ _ _⟩
theorem wT {X w4:World} (hb:Below X.drew.heap.size X.drew w4) (vars:Int) (txt:ByteArray) (nd:Int):
  (w4.alloc (.cells #[.int .i64 0,.slice none 0 0,.slice none 0 0,.int .i64 0,.int .i64 vars,.string txt,.string ⟨#[]⟩,.int .i64 nd,.int .i64 0] 26)).rowIs w4.heap.size 26 9 (Pk vars txt nd)∧Below X.heap.size X (w4.alloc (.cells #[.int .i64 0,.slice none 0 0,.slice none 0 0,.int .i64 0,.int .i64 vars,.string txt,.string ⟨#[]⟩,.int .i64 nd,.int .i64 0] 26)):=by
 have z:=hb.size
 refine ⟨Fw (CX _ _ _ rfl) rfl (bR rfl rfl rfl rfl rfl rfl rfl rfl rfl),((Below.refl X.heap.size X).drew.trans hb).alloc (by simpa using z) _⟩
end Go.Proofs.YtgddmpmcnjlcjaaGreatDoor
