import Derived.Test.YtgddmpmcnjlcjaaGreatDoorB16
import Derived.Test.YtgddmpmcnjlcjaaGreatDoorB10
import Derived.Test.YtgddmpmcnjlcjaaGreatDoorB11
set_option maxRecDepth 100000
set_option maxHeartbeats 20000000
namespace Go.Proofs.YtgddmpmcnjlcjaaGreatDoor
open Go.RowKit
set_option linter.unusedVariables false
namespace Dg
def inp (bits:List Nat) (n x:Nat):List Nat:=(List.range n).map (Ga bits x bits.length)
theorem Ls (bits:List Nat) (n x:Nat):(inp bits n x).length=n:=by simp[inp]
theorem QY (bits:List Nat) (n x:Nat): ∀ v∈inp bits n x,v<16:=by
 intro v h
 obtain ⟨i,_,e⟩:=List.mem_map.1 h
 rw[←e]
 exact Zg _ _ _ _
def told (p:Pg) (bits:List Nat) (k x:Nat):List Nat:=Mc.tells p (Mc.BZ (inp bits p.sec.length x)) k
end Dg
theorem zY {w:World} {g n:Nat} {t:TypeId} {f:Nat→Nat} (hn:n≤1000) (h:w.rowIs g t n (fun i=>.int .i64 (f i))):w.ownsRow 0 t 1 (.slice (some ⟨g,0,none⟩) n n) n (((List.range n).map f).map fun (n:Nat)=>.int .i64 n):=by
 obtain ⟨cs,hg,hs,hc⟩:=h
 refine ⟨by simp,.inr ⟨g,_,cs,rfl,Nat.zero_le _,hg,Nat.le_refl _,by unfold maxLen;omega,by omega,?_⟩⟩
 apply List.ext_getElem?
 intro i
 by_cases hi:i<n
 ·have:=hc i hi
  rw[List.getElem?_take,if_pos (by omega)]
  simp[hi]
  simpa using this
 ·rw[List.getElem?_take,if_neg (by omega)]
  exact (List.getElem?_eq_none (by simp;omega)).symm
structure JQ (base k:Nat) (T:Nat→List Nat) (x:Nat) (v:Value) (f:Nat→Value) (w:World):Prop where
 own:w.ownsRow base 24 1 v x ((List.range x).map f)
 each: ∀ j,j<x→w.ownsRow base 3 1 (f j) k ((T j).map fun (n:Nat)=>.int .i64 n)
 ne: ∀ j,j<x→ ∀ g,(f j).ownBlock=some g→v.ownBlock≠some g
theorem JQ.congr {base k x:Nat} {T:Nat→List Nat} {v:Value} {f f':Nat→Value} {w:World} (h:JQ base k T x v f w) (e: ∀ j,j<x→f j=f' j):JQ base k T x v f' w:=
 ⟨by rw[←List.map_congr_left (fun j hj=>e j (List.mem_range.1 hj))];exact h.own,fun j hj=>by rw[←e j hj];exact h.each j hj,fun j hj=>by rw[←e j hj];exact h.ne j hj⟩
theorem JQ.later {base k x:Nat} {T:Nat→List Nat} {v:Value} {f:Nat→Value} {w w':World} (h:JQ base k T x v f w) (hb: ∀ q,q<w.heap.size→w'.heap[q]? =w.heap[q]?):JQ base k T x v f w':=
 ⟨BP h.own (fun q e=>hb q (h.own.lt q e).2),fun j hj=>BP (h.each j hj) (fun q e=>hb q ((h.each j hj).lt q e).2),h.ne⟩
theorem JQ.push {base k x:Nat} {T:Nat→List Nat} {v u:Value} {f:Nat→Value} {w w':World} {o:Obj} {g2 cap2:Nat} (h:JQ base k T x v f w) (hu:w.ownsRow base 3 1 u k ((T x).map fun (n:Nat)=>.int .i64 n)) (hne: ∀ g,u.ownBlock=some g→v.ownBlock≠some g)
  (hown:w'.ownsRow base 24 1 (.slice (some ⟨g2,0,none⟩) (x+1) cap2) (x+1) ((List.range x).map f++[u])) (hg:(w.alloc o).grownBy w' v.ownBlock) (hat:v.ownBlock=some g2∨g2=w.heap.size+1):
  JQ base k T (x+1) (.slice (some ⟨g2,0,none⟩) (x+1) cap2) (fun j=>if j=x then u else f j) w':=by
 have z1:(w.alloc o).heap.size=w.heap.size+1:=by simp
 have keep: ∀ q,q<w.heap.size→v.ownBlock≠some q→w'.heap[q]? =w.heap[q]? :=fun q hq hv=>(hg.block q (by rw[z1];omega) (fun e=>hv e.symm)).trans (Below.heap_alloc w o q hq)
 have hg2: ∀ q,q<w.heap.size→v.ownBlock≠some q→g2≠q:=fun q hq hv e=>by
  rcases hat with c|c
  ·exact hv (by rw[c,e])
  ·omega
 refine ⟨?_,fun j hj=>?_,fun j hj g e=>?_⟩
 ·rw[List.range_succ,List.map_append]
  have e1:(List.range x).map (fun j=>if j=x then u else f j)=(List.range x).map f:=List.map_congr_left (fun j hj=>by have:=List.mem_range.1 hj;rw[if_neg (by omega)])
  have e2:[x].map (fun j=>if j=x then u else f j)=[u]:=by simp
  rw[e1,e2]
  exact hown
 ·by_cases c:j=x
  ·subst c
   rw[if_pos rfl]
   exact BP hu (fun q e=>keep q (hu.lt q e).2 (hne q e))
  ·rw[if_neg c]
   have hx:j<x:=by omega
   exact BP (h.each j hx) (fun q e=>keep q ((h.each j hx).lt q e).2 (h.ne j hx q e))
 ·intro e2
  have e2:g2=g:=by simpa[Value.ownBlock] using e2
  by_cases c:j=x
  ·rw[if_pos c] at e
   exact hg2 g (hu.lt g e).2 (hne g e) e2
  ·rw[if_neg c] at e
   have hx:j<x:=by omega
   exact hg2 g ((h.each j hx).lt g e).2 (h.ne j hx g e) e2
theorem oh (p:Pg) (ok:Ep p) (bits:List Nat) (hb: ∀ b∈bits,b<4*p.sec.length) (hl:bits.length≤12) (k:Nat) (hk:k≤10) (w:World) (vs vc vk vb:Value) (nv:Int) (hp:IV w p vs vc vk) (hi:w.ownsRow 0 3 1 vb bits.length (bits.map fun (n:Nat)=>.int .i64 n)):
  Calls Tryz.prog 37 #[.agg #[vs,.int .i64 nv,vc,vk],vb,.int .i64 k] w fun e w'=> ∃ v f,e=.returned v∧JQ w.heap.size k (Dg.told p bits k) (2 ^ bits.length) v f w'∧Below w.heap.size w w':=by
 obtain ⟨t0,ht0,hz0,hz1,hz2⟩:=info_parts Tryz.Ye
 obtain ⟨Bj,cs0,e0⟩:=AX hp.s
 obtain ⟨ac,cc,e1⟩:=AX hp.c
 obtain ⟨ak,ck,e2⟩:=AX hp.k
 obtain ⟨ab,cb,e3⟩:=AX hi
 have HP:=hid hp
 have HI:=hid hi
 have HB:=hid hb
 clear hp hi hb
 subst e0 e1 e2 e3
 obtain ⟨M,hM⟩: ∃ M,2 ^ bits.length=M:=⟨_,rfl⟩
 have RA:M≤4096:=by rw[←hM];exact Nat.pow_le_pow_right (by omega) hl
 have Qx:(M:Int)≤4096:=by omega
 have hMw:wrap64 (2 ^ bits.length)=(M:Int):=by
  have e:(2:Int) ^ bits.length=(M:Int):=by rw[←hM];push_cast;rfl
  rw[e]
  unfold wrap64
  omega
 have hs3:=ok.sec
 have MX:(p.sec.length:Int)≤3:=by omega
 have DL:(bits.length:Int)≤12:=by omega
 have JX:(k:Int)≤10:=by omega
 have HM:=hid hM
 rw[hM]
 clear hM
 go_enter Tryz.func37,Tryz.ntmps37
 go_wp2_with fail
 go_loopw [7,8] (fun v c wr=> ∃ x:Nat,x≤M∧c=.int .i64 x∧(∃ f,JQ w.heap.size k (Dg.told p bits k) x v f wr)∧wr.rowIs w.heap.size 45 4 (fun j=>[.slice Bj p.sec.length cs0,.int .i64 nv,.slice ac p.cells.length cc,.slice ak p.code.length ck].getD j (.bool false))∧(∀ g,v.ownBlock=some g→g≠w.heap.size)∧Below w.heap.size w wr) (fun _ c _=>M - (intOf c).toNat)
 case atStart=>
  refine ⟨0,Nat.zero_le _,rfl,⟨fun _=>.slice none 0 0,World.ownsRow_nil _ _ _ _,fun j hj=>absurd hj (by omega),fun j hj=>absurd hj (by omega)⟩,?_,(fun g e=>by simp[Value.ownBlock] at e),(Below.refl _ _).alloc (Nat.le_refl _) _⟩
  exact World.rowIs_alloc w #[.slice Bj p.sec.length cs0,.int .i64 nv,.slice ac p.cells.length cc,.slice ak p.code.length ck] 45 (fun i=>[.slice Bj p.sec.length cs0,.int .i64 nv,.slice ac p.cells.length cc,.slice ak p.code.length ck].getD i (.bool false)) (fun i hi=>by
    match i,hi with
    |0,_=>rfl
    |1,_=>rfl
    |2,_=>rfl
    |3,_=>rfl
    |n+4,h=>exact absurd (show n+4<4 from h) (by omega))
 case round=>
  obtain ⟨x,hxM,rfl,⟨f,WV⟩,hrow,MZ,AB⟩:=hrel
  obtain ⟨av,cv,ev⟩:=AX WV.own
  subst ev
  have HRU:=hid WV
  have Jx:=hid hrow
  have AV:=hid AB
  have HVN:=hid MZ
  have hz:=AB.size
  have hrl:=hrow.lt
  by_cases hlt:x<M
  ·have p0:=hrow.cell (i:=0) (by omega)
   have p1:=hrow.cell (i:=1) (by omega)
   have p2:=hrow.cell (i:=2) (by omega)
   have p3:=hrow.cell (i:=3) (by omega)
   simp at p0 p1 p2 p3
   have PK:=hid (CL HI.out AB.block)
   clear WV hrow MZ AB
   have hx4:x<4096:=by omega
   go_wp2_with (first
    |(go_at_call 74;refine (og x hx4 bits p.sec.length hs3 HB.out hl _ _ PK.out).mono ?_;rintro e w2 ⟨rfl,hr2,hb2⟩;have BR:=hid (zY (by omega) hr2);have AP:=hid hb2;have z2:=hb2.size;have q0:=cell_later hb2 p0;have q1:=cell_later hb2 p1;have q2:=cell_later hb2 p2;have q3:=cell_later hb2 p3;clear hr2 hb2)
    |(go_at_call 48;refine (Vf p ok (Dg.inp bits p.sec.length x) (by rw[Dg.Ls];exact hs3) (Dg.QY bits p.sec.length x) k hk _ _ _ _ _ nv (HP.out.same (AV.out.trans (AP.out.mono hz))) (by rw[Dg.Ls];exact BR.out)).mono ?_;rintro e w3 ⟨v3,KJ,I4,hb3⟩;obtain ⟨a3,c3,e3⟩:=AX I4;subst e3;subst KJ;have Gb:=hid I4;have Cq:=hid hb3;have z3:=hb3.size;have E3:=hid (HRU.out.later (fun q hq=>(hb3.block q (by omega)).trans (AP.out.block q hq)));clear I4 hb3;refine Hid.out ?_))
   refine hid ?_
   have Tk:Hid (∀ g,(Value.slice a3 k c3).ownBlock=some g→(Value.slice av x cv).ownBlock≠some g):=fun g e e2=>by
    have h1:=(Gb.out.lt g e).1
    have h2:=(HRU.out.own.lt g e2).2
    omega
   have D8:=hid (show w3.ownsRow w.heap.size 3 1 (.slice a3 k c3) k ((Dg.told p bits k x).map fun (n:Nat)=>.int .i64 n) from Br Gb.out (by omega))
   go_wp2_with (first|(at_builtin;refine wpList_append_lies _ rfl _ _ 34 rfl w.heap.size 24 t0 _ 1 24 Tryz.underlying34 ht0 hz0 hz1 hz2 rfl (by omega) _ x ((List.range x).map f) rfl (E3.out.own.alloc _) ⟨w3.heap.size,0,none⟩ 1 1 [.slice a3 k c3] rfl rfl (cell_one_new _ _ _) (by simp[Value.oneCell']) (by omega) (by unfold maxLen;omega) (by omega) (by simp;omega) (w3.heap.size+1) (by simp) ?_;intro g4 D4 w4 BW BJ Cn IU))
   go_roundw
   case rel=>
    have Tn:Below w.heap.size w w3:=(AV.out.trans (AP.out.mono hz)).trans (Cq.out.mono (by omega))
    refine ⟨x+1,by omega,by go_num,⟨_,E3.out.push D8.out Tk.out BW BJ Cn⟩,?_,fun g e=>?_,(Tn.alloc (by omega) _).grown BJ (by simp;omega) (fun q hq=>(E3.out.own.lt q hq).1)⟩
    ·refine Ad ((Jx.out.of_block ?_).alloc _) BJ (fun e=>HVN.out _ e rfl)
     exact (Cq.out.block w.heap.size (by omega)).trans (AP.out.block w.heap.size hrl)
    ·have e:g4=g:=by simpa[Value.ownBlock] using e
     subst e
     rcases Cn with c|c
     ·exact HVN.out _ c
     ·omega
   case measure=>simp[intOf];omega
  ·have hxe:M=x:=by omega
   subst hxe
   clear WV hrow MZ AB
   go_wp2_with fail
   go_ret
   exact ⟨_,f,rfl,HRU.out,AV.out⟩
theorem zZ {w0 w:World} {mb gh gr M:Nat} {s:Dg.St} {r:Nat→Nat} {pv:Nat→Value} {vN vB:Value} (h:BA w0 mb gh gr M s r pv vN vB w) {b0 k:Nat} {T:Nat→List Nat} {v:Value} {f:Nat→Value} (hr:JQ b0 k T M v f w0) (hM:M≤4096) (hk:k≤10) (hT: ∀ i j,(T i).getD j 0<4096) (Na: ∀ i,(T i).length=k) (step bit:Nat) (hs:step<k) (Tq:bit<7):
  Calls Tryz.prog 39 #[.pointer (some ⟨mb,0,none⟩),v,.int .i64 step,.int .i64 bit] w fun e w'=>e=.returned (.tuple #[])∧BA w0 mb gh gr M s (Dg.Fa T step bit) pv vN vB w'∧A9 0 (fun k=>k=gr) w w':=by
 obtain ⟨av,cv,ev⟩:=AX hr.own
 subst ev
 have H:=hid h
 have HR:=hid hr
 have Qx:(M:Int)≤4096:=by omega
 have JX:(k:Int)≤10:=by omega
 have MX:(step:Int)<(k:Int):=by omega
 have EE:(bit:Int)<7:=by omega
 clear h hr
 go_enter Tryz.func39,Tryz.ntmps39
 go_wp2_with fail
 go_loopw [12] (fun cv wr=> ∃ L:Nat,L≤M∧cv=.int .i64 L∧BA w0 mb gh gr M s (fun i=>if i<L then Dg.Fa T step bit i else r i) pv vN vB wr∧A9 0 (fun k=>k=gr) w wr) (fun cv _=>M - (intOf cv).toNat)
 case atStart=>exact ⟨0,Nat.zero_le _,rfl,H.out.congr (fun i _=>by rw[if_neg (by omega)]),A9.refl _ _ _⟩
 case round=>
  obtain ⟨L,hL,rfl,hat,Ak⟩:=hrel
  have DM:=hid hat
  have GA:=hid Ak
  have Qy:(L:Int)≤4096:=by omega
  by_cases hlt:L<M
  ·obtain ⟨gv,cv',hvv,_,Tv⟩:=HR.out.own.form (by omega)
   cases hvv
   have A8:=hat.A8
   have fc:=(A8.cell (p:=⟨gv,L,none⟩) Tv).trans ((HR.out.own.cellAt L (by omega)).trans (show _=some (f L) by simp[hlt]))
   have each:=HR.out.each L hlt
   have hlk:0<k:=by omega
   have el:=Na L
   obtain ⟨gt,ct',XG,_,hgt⟩:=each.form hlk
   rw[XG] at each fc
   rw[←el] at each
   have tc:=(A8.cell (p:=⟨gt,step,none⟩) hgt).trans (QR each step (by omega))
   have HLR:=hid (show Dg.Fa T step bit L=(T L).getD step 0 >>> bit &&& 1 from rfl)
   have ht:=hT L step
   generalize (T L).getD step 0=x at tc HLR ht
   have EW:(x:Int)≤4096:=by omega
   have hgr:gt≠gr:=by have:=hat.br;omega
   obtain ⟨dg,N_⟩: ∃ dg,x >>> bit &&& 1=dg:=⟨_,rfl⟩
   have Sz:Go.bits BinOp.and .i64 ((x:Int)/2 ^ bit) 1=(dg:Int):=by rw[←N_];exact kJ x bit ht
   have LI:=hid Sz
   rw[N_] at HLR
   have d8:=hat.c8
   have er:=hat.rows.cell (i:=L) hlt
   have ef:=hat.rows.frozen L
   rw[if_neg (by omega)] at er
   have hLM:(L:Int)<(M:Int):=by omega
   clear hat Ak A8 each Sz N_ el
   go_wp2_with fail
   go_region
   all_goals go_wp2_with fail
   all_goals go_roundw
   case rel=>
    refine ⟨L+1,by omega,by go_num,?_,(GA.out.setCell (p:=⟨gr,L,none⟩) (Nat.zero_le _) rfl _).drew⟩
    rw[LI.out]
    refine ((DM.out.setRow L dg).congr (fun i hi=>?_)).drew
    by_cases c:i=L
    ·subst c
     rw[if_pos rfl,if_pos (by omega),HLR.out]
    ·rw[if_neg c]
     by_cases c2:i<L
     ·rw[if_pos c2,if_pos (by omega)]
     ·rw[if_neg c2,if_neg (by omega)]
   case measure=>simp[intOf];omega
  ·have hle:M=L:=by omega
   clear hat Ak
   have Hz:=hid hle
   clear hle
   go_wp2_with fail
   go_end0
   exact ⟨rfl,DM.out.congr (fun i hi=>by rw[if_pos (by have:=Hz.out;omega)]),GA.out⟩
def wF (prog:Array Value) (vb:Value) (runs:Nat) (w:World) (e:Ending) (w':World):Prop:=
 ∃ gn gh gb gr:Nat,e=.returned (.agg (prog++ #[vb,.slice (some ⟨gn,0,none⟩) 2 2,.slice (some ⟨gh,0,none⟩) runs runs,.slice (some ⟨gb,0,none⟩) 2 2,.slice (some ⟨gr,0,none⟩) runs runs]))
  ∧w'.heap[gn]? =some (.cells #[.int .i64 0,.int .i64 0,.int .i64 0,.bool false,.int .i64 0,.int .i64 0,.int .i64 0,.bool false] 153)
  ∧w'.heap[gh]? =some (.cells (madeCells #[.int .i64 0] runs) 3)
  ∧w'.heap[gb]? =some (.cells #[.int .i64 0,.int .i64 0] 3)
  ∧w'.heap[gr]? =some (.cells (madeCells #[.int .i64 0] runs) 3)
  ∧(w.heap.size≤gn∧w.heap.size≤gh∧w.heap.size≤gb∧w.heap.size≤gr)
  ∧(gn≠gh∧gn≠gb∧gn≠gr∧gh≠gb∧gh≠gr∧gb≠gr)
  ∧Below w.heap.size w w'
theorem OX (w:World) (o:Obj) (g:Nat) (h:g=w.heap.size):(w.alloc o).heap[g]? =some o:=by subst h;exact heap_alloc_new w o
theorem Hi (w:World) (o p:Obj) (g:Nat) (h:w.heap[g]? =some p):(w.alloc o).heap[g]? =some p:=(Below.heap_alloc w o g (Array.getElem?_eq_some_iff.1 h).1).trans h
theorem sG (tmps:Array Value) (w:World) (g:Nat) (v0 v1 v2 v3 v4 v5 v6 v7 v8:Value) (hp:tmps.getD 6 undef=.pointer (some ⟨g,0,none⟩)) (hg:w.heap[g]? =some (.cells #[v0,v1,v2,v3,v4,v5,v6,v7,v8] 100)):
  (results Tryz.f38 tmps).run Tryz.prog w=.ok (.agg #[v0,v1,v2,v3,v4,v5,v6,v7,v8]) w:=by
 have hp2:tmps[6]?.getD undef=.pointer (some ⟨g,0,none⟩):=by simpa using hp
 have hr:w.rowIs g 100 9 (fun i=>(#[v0,v1,v2,v3,v4,v5,v6,v7,v8]:Array Value).getD i undef):=⟨_,hg,rfl,fun i hi=>by
  match i,hi with
  |0,_=>rfl
  |1,_=>rfl
  |2,_=>rfl
  |3,_=>rfl
  |4,_=>rfl
  |5,_=>rfl
  |6,_=>rfl
  |7,_=>rfl
  |8,_=>rfl
  |n+9,h=>exact absurd h (by omega)⟩
 have c0:=hr.cell (i:=0) (by omega)
 have c1:=hr.cell (i:=1) (by omega)
 have c2:=hr.cell (i:=2) (by omega)
 have c3:=hr.cell (i:=3) (by omega)
 have c4:=hr.cell (i:=4) (by omega)
 have c5:=hr.cell (i:=5) (by omega)
 have c6:=hr.cell (i:=6) (by omega)
 have c7:=hr.cell (i:=7) (by omega)
 have c8:=hr.cell (i:=8) (by omega)
 simp at c0 c1 c2 c3 c4 c5 c6 c7 c8
 simp[results,Tryz.results38,go_sem,hp2,c0,c1,c2,c3,c4,c5,c6,c7,c8]
theorem SP (w:World) (p:Obj) (g:Nat) (h:w.heap[g]? =some p):w.drew.heap[g]? =some p:=h
theorem sH (a1 a2 a3:Option Addr) (n1 c1 n2 c2 n3 c3:Nat) (nv:Int) (ab:Option Addr) (nb cb runs:Nat) (hr:runs≤4096) (w:World):
  Calls Tryz.prog 38 #[.agg #[.slice a1 n1 c1,.int .i64 nv,.slice a2 n2 c2,.slice a3 n3 c3],.slice ab nb cb,.int .i64 runs] w (wF #[.slice a1 n1 c1,.int .i64 nv,.slice a2 n2 c2,.slice a3 n3 c3] (.slice ab nb cb) runs w):=by
 obtain ⟨t0,ht0,hz0,hz1,hz2⟩:=info_parts Tryz.Ds
 have hrI:(runs:Int)≤4096:=by omega
 have hmk: ∀ (z:Nat),z≤4096→ ∀ w:World,(Instr.makeSlice 24 (.int .i64 (z:Int)) (.int .i64 (z:Int))).run Tryz.prog w=.ok (.slice (some ⟨w.heap.size,0,none⟩) z z) (w.alloc (.cells (madeCells #[.int .i64 0] z) 3)):=fun z hz w=>run_make_row' 24 3 (.int .i64 0) 8 Tryz.underlying24 Tryz.Ds rfl .i64 .i64 z (by omega) (by omega) w
 have h1:=hmk runs hr
 have h2: ∀ w:World,(Instr.makeSlice 24 (.int .i64 2) (.int .i64 2)).run Tryz.prog w=.ok (.slice (some ⟨w.heap.size,0,none⟩) 2 2) (w.alloc (.cells #[.int .i64 0,.int .i64 0] 3)):=fun w=>by kernel_rfl
 clear hmk
 have h3: ∀ w:World,(Instr.makeSlice 48 (.int .i64 2) (.int .i64 2)).run Tryz.prog w=.ok (.slice (some ⟨w.heap.size,0,none⟩) 2 2) (w.alloc (.cells #[.int .i64 0,.int .i64 0,.int .i64 0,.bool false,.int .i64 0,.int .i64 0,.int .i64 0,.bool false] 153)):=fun w=>by kernel_rfl
 go_enter Tryz.func38,Tryz.ntmps38
 go_wp2_with fail
 go_region
 all_goals go_wp2_with fail
 all_goals refine bodyPost_ret (sG _ _ (w.heap.size+1) _ _ _ _ _ _ _ _ _ rfl (SP _ _ _ (Hi _ _ _ _ (Hi _ _ _ _ (Hi _ _ _ _ (Hi _ _ _ _ (OX _ _ _ (by simp only[World.size_alloc] <;> omega)))))))) rfl ?_
 all_goals refine ⟨_,_,_,_,rfl,SP _ _ _ ?_,SP _ _ _ ?_,SP _ _ _ ?_,SP _ _ _ ?_,⟨by omega,by omega,by omega,by omega⟩,⟨by omega,by omega,by omega,by omega,by omega,by omega⟩,?_⟩
 all_goals first
  |exact (((((((Below.refl w.heap.size w).alloc (by simp) _).alloc (by simp) _).alloc (by simp;omega) _).alloc (by simp;omega) _).alloc (by simp;omega) _).alloc (by simp;omega) _).drew
  |(refine OX _ _ _ ?_;simp only[World.size_alloc] <;> omega)
  |(refine Hi _ _ _ _ (OX _ _ _ ?_);simp only[World.size_alloc] <;> omega)
  |(refine Hi _ _ _ _ (Hi _ _ _ _ (OX _ _ _ ?_));simp only[World.size_alloc] <;> omega)
  |(refine Hi _ _ _ _ (Hi _ _ _ _ (Hi _ _ _ _ (OX _ _ _ ?_)));simp only[World.size_alloc] <;> omega)
namespace Mc
theorem aba {cs:List Nat} {na:Nat} {s:Lk.St} {m:M} (h:Ev m) (hs:Lk.LH na s):(act cs s m).1<4096:=by
 have h1:=QH h hs.a s.next
 unfold act
 split
 ·show 48+_<4096;omega
 ·split
  ·split
   ·show 16<4096;omega
   ·show 17<4096;omega
  ·split
   ·show 32+_<4096;omega
   ·show 0<4096;omega
theorem OU {p:Pg} (ok:Ep p) {m:M} (h:Ev m) (n:Nat):num p m n<4096:=by
 have h1:=lD ok h n
 show (step p.cells p.code (st p m n)).1<4096
 cases ht:(st p m n).trap with
 |true=>rw[V7 ht];show 80<4096;omega
 |false=>
  by_cases hn:(st p m n).at_<p.code.length
  ·rw[Ve ht hn];exact aba h1 (ZI ok hn).1
  ·rw[V8 ht hn];show 64<4096;omega
end Mc
namespace Dg
theorem z_ {p:Pg} (ok:Ep p) (bits:List Nat) (k x j:Nat):(told p bits k x).getD j 0<4096:=by
 unfold told Mc.tells
 rw[List.getD_eq_getElem?_getD]
 by_cases h:j<k
 ·simp[h]
  exact Mc.OU ok (Mc.Zf (QY _ _ _)) j
 ·rw[List.getElem?_eq_none (by simp;omega)]
  decide
theorem wG (p:Pg) (bits:List Nat) (k x:Nat):(told p bits k x).length=k:=Mc.sD _ _ _
def Aa (p:Pg) (k c:Nat):St×List Nat:=D7 p.sec (2 ^ (order p.sec.length).length) (order p.sec.length) (told p (order p.sec.length) k) c
theorem VN (n:Nat):(order n).length=n*4:=Yf n 4
theorem Yg (n i:Nat) (h:i<(order n).length):(order n).getD i 0<4*n:=by
 rw[List.getD_eq_getElem?_getD,List.getElem?_eq_getElem h]
 exact jU n 4 (Nat.le_refl _) _ (List.getElem_mem h)
def Fits (p:Pg) (k most:Nat):Prop:=most=0∨(Aa p k (7*k)).1.nodes.length≤most+2
end Dg
structure adE (w:World) (p:Pg) (k most:Nat) (e:Ending) (w':World):Prop where
 A8:Below w.heap.size w w'
 yes:Dg.Fits p k most→ ∃ vN vT,e=.returned (.tuple #[.agg #[vN,vT],.bool true])∧w'.ownsRow w.heap.size 153 4 vN (Dg.Aa p k (7*k)).1.nodes.length ((Dg.Aa p k (7*k)).1.nodes.flatMap Dg.Nd.cells)∧w'.ownsRow w.heap.size 3 1 vT (Dg.Aa p k (7*k)).2.length ((Dg.Aa p k (7*k)).2.map fun (n:Nat)=>.int .i64 n)
 no: ¬Dg.Fits p k most→e=.returned (.tuple #[.agg #[.slice none 0 0,.slice none 0 0],.bool false])
theorem dM {w:World} {g n:Nat} {t:TypeId} {z:Value} (h:w.heap[g]? =some (.cells (madeCells #[z] n) t)):w.rowIs g t n (fun _=>z):=by
 obtain ⟨cs,hg,hs,hc⟩:=World.rowIs_made w z n t
 rw[heap_alloc_new] at hg
 cases hg
 exact ⟨_,h,hs,hc⟩
theorem dV {w:World} {base g sz n:Nat} {t:TypeId} {cs:Array Value} (h:w.heap[g]? =some (.cells cs t)) (hb:base≤g) (hn:n≤1000) (hz:cs.size=n*sz) (hs:sz≤10):w.ownsRow base t sz (sl g n n) n cs.toList:=by
 refine ⟨by simp[hz],.inr ⟨g,_,cs,rfl,hb,h,Nat.le_refl _,by unfold maxLen;omega,by omega,?_⟩⟩
 rw[←hz, ←Array.length_toList,List.take_length]
structure Hu (w2:World) (mb gh gr M:Nat) (s:Dg.St) (r:Nat→Nat) (pv:Nat→Value) (vN vB vT:Value) (D:List Nat) (w:World):Prop where
 mm:BA w2 mb gh gr M s r pv vN vB w
 told:w.ownsRow w2.heap.size 3 1 vT D.length (D.map fun (n:Nat)=>.int .i64 n)
 sep: ∀ k,vT.ownBlock=some k→ ¬(k=mb∨k=gh∨k=gr∨vN.ownBlock=some k∨vB.ownBlock=some k)
section
variable {w2 w w':World} {mb gh gr M:Nat} {s s':Dg.St} {r r':Nat→Nat} {pv:Nat→Value} {vN vB vT Bn CJ:Value} {D:List Nat}
theorem Hu.lay (h:Hu w2 mb gh gr M s r pv vN vB vT D w) (m:BA w2 mb gh gr M s r' pv vN vB w') (f:A9 0 (fun k=>k=gr) w w'):Hu w2 mb gh gr M s r' pv vN vB vT D w':=
 ⟨m,BP h.told (fun k e=>f.keep k (h.told.lt k e).2 (fun e2=>h.sep k e (.inr (.inr (.inl e2))))),h.sep⟩
theorem Hu.fold (h:Hu w2 mb gh gr M s r pv vN vB vT D w) (m:BA w2 mb gh gr M s' r' pv Bn CJ w') (f:CQ mb gh gr vN vB Bn CJ w w'):Hu w2 mb gh gr M s' r' pv Bn CJ vT D w':=
 ⟨m,BP h.told (fun k e=>f.1.keep k (h.told.lt k e).2 (fun e2=>h.sep k e e2)),fun k e c=>by
   have hk:=(h.told.lt k e).2
   rcases c with c|c|c|c|c
   ·exact h.sep k e (.inl c)
   ·exact h.sep k e (.inr (.inl c))
   ·exact h.sep k e (.inr (.inr (.inl c)))
   ·exact h.sep k e (.inr (.inr (.inr (.inl (f.2.1 k c hk)))))
   ·exact h.sep k e (.inr (.inr (.inr (.inr (f.2.2 k c hk)))))⟩
theorem Hu.push (h:Hu w2 mb gh gr M s r pv vN vB vT D w) {o:Obj} {g' cap' x:Nat} (hown:w'.ownsRow w2.heap.size 3 1 (sl g' (D.length+1) cap') (D.length+1) ((D.map fun (n:Nat)=>.int .i64 n)++[.int .i64 x])) (hg:(w.alloc o).grownBy w' vT.ownBlock) (hat:vT.ownBlock=some g'∨g'=w.heap.size+1):
  Hu w2 mb gh gr M s r pv vN vB (sl g' (D.length+1) cap') (D++[x]) w':=by
 have h2:=h.mm.alloc o
 have z:w2.heap.size≤(w.alloc o).heap.size:=h2.A8.size
 have nm:vT.ownBlock≠some mb:=fun e=>h.sep _ e (.inl rfl)
 have nh:vT.ownBlock≠some gh:=fun e=>h.sep _ e (.inr (.inl rfl))
 have nr:vT.ownBlock≠some gr:=fun e=>h.sep _ e (.inr (.inr (.inl rfl)))
 refine ⟨⟨Ad h2.row hg nm,BP h2.nodes (fun k e=>hg.block k (h2.nodes.lt k e).2 (fun e2=>h.sep k e2.symm (.inr (.inr (.inr (.inl e)))))),BP h2.behind (fun k e=>hg.block k (h2.behind.lt k e).2 (fun e2=>h.sep k e2.symm (.inr (.inr (.inr (.inr e)))))),Ad h2.heads hg nh,Ad h2.rows hg nr,h2.bm,h2.bh,h2.br,h2.LU,h2.LV,h2.LW,h2.A8.grown hg z (fun k e=>(h.told.lt k e).1)⟩,?_,fun k e c=>?_⟩
 ·have e1:(D++[x]).length=D.length+1:=by simp
  have e2:((D++[x]).map fun (n:Nat)=>(Value.int .i64 n))=(D.map fun (n:Nat)=>.int .i64 n)++[.int .i64 x]:=by simp
  rw[e1,e2]
  exact hown
 ·have e:g'=k:=by simpa[Value.ownBlock] using e
  subst e
  rcases hat with a|a
  ·exact h.sep _ a c
  ·have l1:=h.mm.row.lt
   have l2:=h.mm.heads.lt
   have l3:=h.mm.rows.lt
   rcases c with c|c|c|c|c
   ·omega
   ·omega
   ·omega
   ·have:=(h.mm.nodes.lt _ c).2;omega
   ·have:=(h.mm.behind.lt _ c).2;omega
theorem Hu.drew (h:Hu w2 mb gh gr M s r pv vN vB vT D w):Hu w2 mb gh gr M s r pv vN vB vT D w.drew:=⟨h.mm.drew,h.told,h.sep⟩
end
def Nb (vs vc vk:Value) (nv:Int) (i:Nat):Value:=if i=0 then vs else if i=1 then .int .i64 nv else if i=2 then vc else vk
theorem WH {w:World} {g:Nat} {vs vc vk:Value} {nv:Int} {t:TypeId} (h:w.heap[g]? =some (.cells #[vs,.int .i64 nv,vc,vk] t)):w.rowIs g t 4 (Nb vs vc vk nv):=⟨_,h,rfl,fun i hi=>by
 match i,hi with
 |0,_=>rfl
 |1,_=>rfl
 |2,_=>rfl
 |3,_=>rfl
 |n+4,h=>exact absurd h (by omega)⟩
theorem jV {w:World} {g:Nat} (h:w.heap[g]? =some (.cells #[.slice none 0 0,.slice none 0 0] 50)):w.rowIs g 50 2 (fun _=>.slice none 0 0):=⟨_,h,rfl,fun i hi=>by
 match i,hi with
 |0,_=>rfl
 |1,_=>rfl
 |n+2,h=>exact absurd h (by omega)⟩
end Go.Proofs.YtgddmpmcnjlcjaaGreatDoor
