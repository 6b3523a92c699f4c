import Derived.Test.YtgddmpmcnjlcjaaGreatDoorB37
namespace Go.Proofs.YtgddmpmcnjlcjaaGreatDoor
open Go.RowKit
set_option linter.unusedVariables false
theorem qZ {w:World} {base P R gl cl d f:Nat} {l:List DB} {s:Rf.Rs} {L:List ByteArray} {vn vk vz vb:Value} {sb gw cw:Nat} {ws:List ByteArray}
  (F:Ay w base P R l (AQ P gl cl L.length s) L gl vn vk vz vb) (hl:l.length≤1000) (hL:L.length≤1000) (hS:w.rowIs sb 139 3 (DG gw ws.length cw (.slice none 0 0) (.slice none 0 0))) (hW:CD w gw ws) (hw0:0<ws.length)
  (AY: ¬IM P R gl vn vk vz sb) (hgR:gw≠R) (hgs:gw≠sb) (hds:s.ds=A7 l) (Ai:s.AA=true) (Ej:L.length≤s.at_+1+(f+1)) (hat:s.at_+1<L.length) (hcn:s.cnt<12) (Co:d≤4) (IH:d<4→Kz L gl cl (d+1)):
  Calls Tryz.prog 61 #[.pointer (some ⟨R,0,none⟩),.pointer (some ⟨sb,0,none⟩),.int .i64 d] w fun e w'=>
   Ku w w' base P R gl cl l L vn vk vz vb sb gw ws.length cw (Rf.MC (L.map ByteArray.toList) f d s) (Rf.Jp (L.map ByteArray.toList) f d s) e (Rf.DF (Rf.Ab (L.map ByteArray.toList) f) (L.map ByteArray.toList) d s (ws.map ByteArray.toList)):=by
 have e0:=DT ws 0
 have e1:=DT ws 1
 have hlm:(ws.map ByteArray.toList).length=ws.length:=by simp
 have Jd:(L.map ByteArray.toList).length=L.length:=by simp
 obtain ⟨O,hO⟩: ∃ O,Rf.DF (Rf.Ab (L.map ByteArray.toList) f) (L.map ByteArray.toList) d s (ws.map ByteArray.toList)=O:=⟨_,rfl⟩
 rw[hO]
 unfold Rf.DF at hO
 rw[e0,e1,hlm] at hO
 by_cases hn:ws.length=2
 ·rw[hn] at hS ⊢
  have c0:=hW 0 hw0
  have c1:=hW 1 (by omega)
  by_cases hd:d=4
  ·rw[if_neg (fun c=>c.2.1 hd)] at hO
   rw[←hO]
   exact tG F hl hL (hS.cell (i:=0) (by omega)) hd
  ·have hd':d<4:=by omega
   cases ha':Rf.atom s.ds (ws.getD 1 ByteArray.empty).toList with
   |false=>
    have ha:Rf.atom (A7 l) (ws.getD 1 ByteArray.empty).toList=false:=by rw[←hds];exact ha'
    rw[if_neg (fun c=>by rw[ha'] at c;simp at c)] at hO
    rw[←hO]
    exact tH F hl hL hS _ _ c0 c1 hd' AY hgR hgs ha
   |true=>
    have ha:Rf.atom (A7 l) (ws.getD 1 ByteArray.empty).toList=true:=by rw[←hds];exact ha'
    rw[if_pos ⟨hn,hd,ha'⟩] at hO
    have p1:=Rf.JL (L.map ByteArray.toList) f (d+1) { s with cnt:=s.cnt+1,at_:=s.at_+1 } (by rw[Jd];exact hat) (by show s.cnt+1≤12;omega) (by rw[Jd];show L.length≤s.at_+1+1+f;omega)
    obtain ⟨⟨b1,s2⟩,BQ⟩: ∃ o,Rf.Ab (L.map ByteArray.toList) f (d+1) { s with cnt:=s.cnt+1,at_:=s.at_+1 }=o:=⟨_,rfl⟩
    rw[BQ] at hO p1
    have l1:s2.at_<L.length:=by have:=p1.lt;rw[Jd] at this;exact this
    have g1:s.at_+1≤s2.at_:=p1.ge
    have k1:s2.cnt≤12:=p1.cnt
    have d1:=p1.AA Ai
    cases b1 with
    |false=>
     have hO:(false,s2)=O:=hO
     rw[←hO]
     exact xP F hl hL hS _ _ c0 c1 hd' AY hgR hgs ha hds Ai Ej hat hcn (IH hd') s2 BQ
    |true=>
     have m1:s2.at_+1<L.length:=by have:=p1.mid rfl (by omega);rw[Jd] at this;exact this
     dsimp only at hO
     rw[QL] at hO
     cases he:((L.getD s2.at_ ByteArray.empty).toList==[101,108,115,101]) with
     |false=>
      rw[if_neg (show ¬_=Rf.wElse from ne_of_beq_false he)] at hO
      rw[←hO]
      exact qX F hl hL hS _ _ c0 c1 hd' AY hgR hgs ha hds Ai Ej hat hcn (IH hd') s2 BQ l1 _ rfl he
     |true=>
      rw[if_pos (show _=Rf.wElse from eq_of_beq he)] at hO
      cases hi:((ws.getD 0 ByteArray.empty).toList==[105,102]) with
      |false=>
       rw[if_neg (show ¬_=Rf.wIf from ne_of_beq_false hi)] at hO
       rw[←hO]
       exact tI F hl hL hS _ _ c0 c1 hd' AY hgR hgs ha hds Ai Ej hat hcn (IH hd') s2 BQ l1 _ rfl he hi
      |true=>
       rw[if_pos (show _=Rf.wIf from eq_of_beq hi)] at hO
       have p2:=Rf.JL (L.map ByteArray.toList) f (d+1) { s2 with at_:=s2.at_+1 } (by rw[Jd];exact m1) k1 (by rw[Jd];show L.length≤s2.at_+1+1+f;omega)
       obtain ⟨⟨b2,s3⟩,Ex⟩: ∃ o,Rf.Ab (L.map ByteArray.toList) f (d+1) { s2 with at_:=s2.at_+1 }=o:=⟨_,rfl⟩
       rw[Ex] at hO p2
       have l2:s3.at_<L.length:=by have:=p2.lt;rw[Jd] at this;exact this
       cases b2 with
       |false=>
        have hO:(false,s3)=O:=hO
        rw[←hO]
        exact xQ F hl hL hS _ _ c0 c1 hd' AY hgR hgs ha hds Ai Ej hat hcn (IH hd') s2 BQ l1 _ rfl he hi m1 g1 k1 d1.1 (d1.2.trans hds) s3 Ex
       |true=>
        dsimp only at hO
        rw[QL] at hO
        cases KJ:((L.getD s3.at_ ByteArray.empty).toList==[101,108,115,101]) with
        |true=>
         rw[if_pos (show _=Rf.wElse from eq_of_beq KJ)] at hO
         rw[←hO]
         exact qY F hl hL hS _ _ c0 c1 hd' AY hgR hgs ha hds Ai Ej hat hcn (IH hd') s2 BQ l1 _ rfl he hi m1 g1 k1 d1.1 (d1.2.trans hds) s3 Ex l2 _ rfl KJ
        |false=>
         rw[if_neg (show ¬_=Rf.wElse from ne_of_beq_false KJ)] at hO
         rw[←hO]
         exact tJ F hl hL hS _ _ c0 c1 hd' AY hgR hgs ha hds Ai Ej hat hcn (IH hd') s2 BQ l1 _ rfl he hi m1 g1 k1 d1.1 (d1.2.trans hds) s3 Ex l2 _ rfl KJ
 ·rw[if_neg (fun c=>hn c.1)] at hO
  rw[←hO]
  exact xO F hl hL ws.length (hS.cell (i:=0) (by omega)) (by simp;omega)
theorem Tryz.ac':(Tryz.prog.info? 137).map (fun i=>(i.zero,i.size,i.bytes))=some (some (.pointer none),1,8):=by kernel_rfl
def Lg:List ByteArray:=[⟨#[115,101,99,114,101,116]⟩,⟨#[112,117,98,108,105,99]⟩,⟨#[118,97,114]⟩,⟨#[97,114,114,97,121]⟩]
def Xe:Array Value:= #[.string ⟨#[115,101,99,114,101,116]⟩,.string ⟨#[112,117,98,108,105,99]⟩,.string ⟨#[118,97,114]⟩,.string ⟨#[97,114,114,97,121]⟩]
theorem ac0: ∀ i,i<4→Xe[i]? =some (.string (Lg.getD i ByteArray.empty))
 |0,_=>rfl
 |1,_=>rfl
 |2,_=>rfl
 |3,_=>rfl
 |n+4,h=>absurd h (by omega)
theorem aaM (w:World):CD (w.alloc (.cells Xe 9)) w.heap.size Lg:=fun i hi=>newAt w Xe 9 i _ (ac0 i hi)
theorem xR:Lg.map ByteArray.toList=[Rf.wSecret,Rf.wPublic,Rf.wVar,Rf.wArray]:=by
 simp[Lg,Rf.wSecret,Rf.wPublic,Rf.wVar,Rf.wArray,ByteArray.toList_eq]
theorem dX (q:Lk.Wd):Rf.isDecl q=(Rf.oneOf q (Lg.map ByteArray.toList)).isSome:=by
 rw[xR]
 unfold Rf.isDecl
 simp only[Rf.oneOf]
 rw[Bool.beq_comm (a:=q),Bool.beq_comm (a:=q) (b:=Rf.wPublic),Bool.beq_comm (a:=q) (b:=Rf.wVar),Bool.beq_comm (a:=q) (b:=Rf.wArray)]
 cases (Rf.wSecret==q) <;> cases (Rf.wPublic==q) <;> cases (Rf.wVar==q) <;> cases (Rf.wArray==q) <;> rfl
theorem Hf (q:ByteArray) (w:World) (z:Int) (h:Lk.Cm (Rf.oneOf q.toList (Lg.map ByteArray.toList))=z):
  Calls Tryz.prog 59 #[.string q,.slice (some ⟨w.heap.size,0,none⟩) 4 4] (w.alloc (.cells Xe 9)) fun e w'=>e=.returned (.int .i64 z)∧Below w.heap.size w w':=by
 refine (YO Lg w.heap.size 4 q _ (aaM w) (by decide)).mono ?_
 intro e w' hh
 obtain ⟨h1,h2⟩:=hh
 refine ⟨by rw[h1,h],?_⟩
 rw[h2]
 exact (Below.refl _ _).alloc (Nat.le_refl _) _
theorem je {w:World} {base g cap:Nat} {ws:List ByteArray} (h:w.ownsRow base 9 1 (.slice (some ⟨g,0,none⟩) ws.length cap) ws.length (ws.map Value.string)):CD w g ws:=by
 intro i hi
 rw[h.cellAt i (by omega)]
 simp[hi]
theorem ZP {ws:List ByteArray} {c:UInt8} {l:Lk.Wd} (h:ws.map ByteArray.toList=Lk.cut c l):0<ws.length:=by
 have:=Lk.Ip c l
 rw[←h] at this
 cases ws with
 |nil=>simp at this
 |cons x xs=>simp
theorem VS {w:World} {g:Nat} {ws:List ByteArray} (h:CD w g ws) (o:Obj):CD (w.alloc o) g ws:=fun i hi=>AH (h i hi) o
theorem SS {w:World} {g:Nat} {ws:List ByteArray} (h:CD w g ws) {b i:Nat} (hb:g≠b) (u:Value):CD (w.setCell ⟨b,i,none⟩ u) g ws:=fun j hj=>(World.cell?_of_block (Below.heap_setCell w ⟨b,i,none⟩ u g hb)).trans (h j hj)
theorem OL (P gl cl n:Nat) (s:Rf.Rs) (i:Nat) (hi:i<5):(if i=4 then Value.bool true else AQ P gl cl n s i)=AQ P gl cl n { s with AA:=true } i:=by
 match i,hi with
 |0,_=>rfl
 |1,_=>rfl
 |2,_=>rfl
 |3,_=>rfl
 |4,_=>rfl
 |n+5,h=>omega
theorem jf (P gl cl n:Nat) (s:Rf.Rs) (i:Nat) (hi:i<5):(if i=3 then Value.int .i64 ((s.cnt:Int)+1) else AQ P gl cl n s i)=AQ P gl cl n { s with cnt:=s.cnt+1 } i:=by
 match i,hi with
 |0,_=>rfl
 |1,_=>rfl
 |2,_=>rfl
 |3,_=>rfl
 |4,_=>rfl
 |n+5,h=>omega
theorem xS {L:List Lk.Wd} {f d:Nat} {s:Rf.Rs} {w:List Lk.Wd} (h:s.at_+1<L.length) (hw:Lk.cut 32 (L.getD s.at_ [])=w) (hd:Rf.isDecl (Lk.wd w 0)=true) (hn:Rf.declare s.ds s.AA w=none):Rf.Ab L (f+1) d s=(false,s):=by
 conv=>lhs;unfold Rf.Ab
 rw[if_pos h,hw,if_pos hd,hn]
theorem xU {L:List Lk.Wd} {f d:Nat} {s:Rf.Rs} {w:List Lk.Wd} {ds:List Rf.Dc} (h:s.at_+1<L.length) (hw:Lk.cut 32 (L.getD s.at_ [])=w) (hd:Rf.isDecl (Lk.wd w 0)=true) (hn:Rf.declare s.ds s.AA w=some ds):Rf.Ab L (f+1) d s=Rf.Ab L f d { s with ds:=ds,at_:=s.at_+1 }:=by
 conv=>lhs;unfold Rf.Ab
 rw[if_pos h,hw,if_pos hd,hn]
theorem xV {L:List Lk.Wd} {f d:Nat} {s:Rf.Rs} {w:List Lk.Wd} (h:s.at_+1<L.length) (hw:Lk.cut 32 (L.getD s.at_ [])=w) (hd:Rf.isDecl (Lk.wd w 0)=false):Rf.Ab L (f+1) d s=Rf.Ee (Rf.Ab L f) L d { s with AA:=true } w:=by
 conv=>lhs;unfold Rf.Ab
 rw[if_pos h,hw,if_neg (by rw[hd];simp)]
theorem Ay.AJ {w:World} {base P R:Nat} {l:List DB} {f:Nat→Value} {L:List ByteArray} {gl:Nat} {vn vk vz vb:Value} (h:Ay w base P R l f L gl vn vk vz vb):base≤w.heap.size:=h.prog.AJ
theorem Ay.declared {w w':World} {base P R:Nat} {l l':List DB} {f:Nat→Value} {L:List ByteArray} {gl:Nat} {vn vk vz vb DZ D_ Da:Value} (F:Ay w base P R l f L gl vn vk vz vb) (hp:Ae w' base P l' DZ D_ Da vb) (n1:Nw w vn DZ) (n2:Nw w vk D_) (n3:Nw w vz Da)
  (fr:A9 base (fun k=>k=P∨vn.ownBlock=some k∨vk.ownBlock=some k∨vz.ownBlock=some k) w w'):Ay w' base P R l' f L gl DZ D_ Da vb:=by
 have hR:w'.heap[R]? =w.heap[R]? :=fr.keep R F.row.lt (fun e=>by
  rcases e with e|e|e|e
  ·exact F.rP e
  ·exact F.rn e
  ·exact F.rk e
  ·exact F.rz e)
 have hG:w'.heap[gl]? =w.heap[gl]? :=fr.keep gl F.Mh (fun e=>by
  rcases e with e|e|e|e
  ·exact F.lP e
  ·exact F.ln e
  ·exact F.lk e
  ·exact F.lz e)
 have lR:=F.row.lt
 have lG:=F.Mh
 refine ⟨hp,F.row.of_block hR,fun i hi=>(World.cell?_of_block hG).trans (F.Gx i hi),Nat.lt_of_lt_of_le F.Mh fr.A8.size,F.rP,?_,?_,?_,F.lR,F.lP,?_,?_,?_⟩
 ·intro e;rcases n1 R e with h|h
  ·exact F.rn h
  ·omega
 ·intro e;rcases n2 R e with h|h
  ·exact F.rk h
  ·omega
 ·intro e;rcases n3 R e with h|h
  ·exact F.rz h
  ·omega
 ·intro e;rcases n1 gl e with h|h
  ·exact F.ln h
  ·omega
 ·intro e;rcases n2 gl e with h|h
  ·exact F.lk h
  ·omega
 ·intro e;rcases n3 gl e with h|h
  ·exact F.lz h
  ·omega
structure LM (w:World) (base P R gl cl:Nat) (L:List ByteArray) (d f0:Nat) (s0:Rf.Rs) (l0:List DB) (FP FQ FT vb:Value) (k:Nat) (v:Value) (wr:World) (s:Rf.Rs) (l:List DB) (vn vk vz:Value) (n:Nat) (xs:List Value):Prop where
 rep:Ay wr base P R l (AQ P gl cl L.length s) L gl vn vk vz vb
 ds:s.ds=A7 l
 lt:s.at_<L.length
 cnt:s.cnt≤12
 fuel:L.length≤s.at_+1+k
 ge:s0.at_≤s.at_
 len:l.length≤l0.length+(s.at_ - s0.at_)
 same:s0.AA=true→s.AA=true∧l=l0∧vn=FP∧vk=FQ∧vz=FT∧A9 0 (fun k=>k=R) w wr
 A8:Below base w wr
 low:base≤w.heap.size
 own:wr.ownsRow w.heap.size 137 1 v n xs
 num:n≤s.at_
 apart: ∀ k,v.ownBlock=some k→ ¬IM P R gl vn vk vz k
 eq:Rf.Ab (L.map ByteArray.toList) k d s=Rf.Ab (L.map ByteArray.toList) f0 d s0
 Xf:R<w.heap.size
 tr: ∃ bs ts,xs=bs.map TH∧Dn wr (fun k=>DV w wr k∧v.ownBlock≠some k) bs ts∧(s.AA=false→ts=[])∧Rf.blk (L.map ByteArray.toList) k d s ts=Rf.blk (L.map ByteArray.toList) f0 d s0 []
def lK (w w':World) (base P R gl cl:Nat) (L:List ByteArray) (s0:Rf.Rs) (l0:List DB) (FP FQ FT vb:Value) (T:List Rf.Tr) (e:Ending) (o:Bool×Rf.Rs):Prop:=
 ∃ ad n c l vn vk vz,e=.returned (.tuple #[.slice ad n c,.bool o.1])∧Ay w' base P R l (AQ P gl cl L.length o.2) L gl vn vk vz vb∧o.2.ds=A7 l∧Below base w w'∧
  (s0.AA=true→l=l0∧vn=FP∧vk=FQ∧vz=FT∧A9 0 (fun k=>k=R) w w')∧
  (o.1=true→Sub w' (DV w w') (.slice ad n c) T)
section
variable {w wr w':World} {base P R gl cl:Nat} {L:List ByteArray} {d f0:Nat} {s0 s s':Rf.Rs} {l0 l:List DB} {FP FQ FT vb vn vk vz v:Value} {k k' n:Nat} {xs:List Value}
theorem xW (b:LM w base P R gl cl L d f0 s0 l0 FP FQ FT vb k v wr s l vn vk vz n xs) (h:(s0.AA=true∧l0.length≤1000)∨l0.length+L.length≤1000):l.length≤1000:=by
 rcases h with ⟨h1,h2⟩|h
 ·rw[(b.same h1).2.1];exact h2
 ·have:=b.len;have:=b.lt;omega
theorem iM (b:LM w base P R gl cl L d f0 s0 l0 FP FQ FT vb k v wr s l vn vk vz n xs) (fr:A9 base (fun k=>k=R∨w.heap.size≤k) wr w') (h0:s0.AA=true):A9 0 (fun k=>k=R) w w':=
 (b.same h0).2.2.2.2.2.trans fr.down (fun j hj e=>by
   rcases e with e|e
   ·exact e
   ·omega)
theorem ac3 {tid:TypeId} {bs:List Nat} (h:wr.ownsRow w.heap.size tid 1 v n xs) (hx:xs=bs.map TH):MK wr (DV w wr) v bs:=by
 have hl:n=bs.length:=by have h1:=h.1;rw[hx] at h1;simp at h1;omega
 rcases h.2 with ⟨hv,h0⟩|⟨g,cap,cur,hv,hge,hlt, -⟩
 ·exact ⟨none,0,by rw[hv, ←hl,h0],fun h1=>absurd h1 (by omega)⟩
 ·refine ⟨_,_,by rw[hv,hl],fun h1=>⟨g,rfl,?_,fun i hi=>?_⟩⟩
  ·exact h.lt g (by rw[hv];rfl)
  ·subst hv
   rw[h.cellAt i (by omega),hx]
   simp[hi]
theorem JN (b:LM w base P R gl cl L d f0 s0 l0 FP FQ FT vb k v wr s l vn vk vz n xs) {O o:Bool×Rf.Rs} {T:List Rf.Tr} (hO:Rf.Ab (L.map ByteArray.toList) f0 d s0=O) (hT:(Rf.blk (L.map ByteArray.toList) f0 d s0 []).2.1=T) (hk:Rf.Ab (L.map ByteArray.toList) k d s=o) (F:Ay w' base P R l (AQ P gl cl L.length o.2) L gl vn vk vz vb) (hds:o.2.ds=A7 l)
  (fr:A9 base (fun k=>k=R∨w.heap.size≤k) wr w') {e:Ending} (ad:Option Addr) (m c:Nat) (he:e=.returned (.tuple #[.slice ad m c,.bool o.1]))
  (ht:o.1=true→v=.slice ad m c∧(∀ ts,(Rf.blk (L.map ByteArray.toList) k d s ts).2.1=ts)∧A9 base (fun k=>k=R) wr w'):lK w w' base P R gl cl L s0 l0 FP FQ FT vb T e O:=by
 have ho:o=O:=by rw[←hO, ←b.eq,hk]
 subst ho
 refine ⟨ad,m,c,l,vn,vk,vz,he,F,hds,b.A8.trans fr.A8,fun h0=>⟨(b.same h0).2.1,(b.same h0).2.2.1,(b.same h0).2.2.2.1,(b.same h0).2.2.2.2.1,iM b fr h0⟩,fun h1=>?_⟩
 obtain ⟨hv,hb,hf⟩:=ht h1
 obtain ⟨bs,ts,hx,htr, -,heq⟩:=b.tr
 have e1:ts=T:=by rw[←hT, ←heq,hb]
 subst e1
 have hrl:=b.Xf
 refine ⟨bs,?_,htr.move (fun j hj=>⟨hf.keep j hj.1.2 (fun e=>by have:=hj.1.1;omega),hj.1.1,Nat.lt_of_lt_of_le hj.1.2 hf.A8.size⟩)⟩
 rw[←hv]
 exact (ac3 b.own hx).move (fun j hj=>⟨hf.keep j hj.2 (fun e=>by have:=hj.1;omega),hj.1,Nat.lt_of_lt_of_le hj.2 hf.A8.size⟩)
theorem QM (b:LM w base P R gl cl L d f0 s0 l0 FP FQ FT vb k v wr s l vn vk vz n xs) {S:Nat→Prop} (fr:A9 0 S wr w') (hS: ∀ k,k<wr.heap.size→S k→IM P R gl vn vk vz k):w'.ownsRow w.heap.size 137 1 v n xs:=
 BP b.own (fun k e=>fr.keep k (b.own.lt k e).2 (fun hs=>b.apart k e (hS k (b.own.lt k e).2 hs)))
theorem tK (b:LM w base P R gl cl L d f0 s0 l0 FP FQ FT vb k v wr s l vn vk vz n xs) {l':List DB} {DZ D_ Da:Value} {X:World} (hX:Below wr.heap.size wr X) (hk:Rf.Ab (L.map ByteArray.toList) k' d { s with ds:=A7 l',at_:=s.at_+1 }=Rf.Ab (L.map ByteArray.toList) k d s) (hkT: ∀ ts,Rf.blk (L.map ByteArray.toList) k' d { s with ds:=A7 l',at_:=s.at_+1 } ts=Rf.blk (L.map ByteArray.toList) k d s ts)
  (Ai:s.AA=false) (hat:s.at_+1<L.length) (Ej:L.length≤s.at_+1+1+k') (hl:l'.length=l.length+1) (F:Ay w' base P R l' (AQ P gl cl L.length { s with ds:=A7 l',at_:=s.at_+1 }) L gl DZ D_ Da vb) (n1:Nw X vn DZ) (n2:Nw X vk D_) (n3:Nw X vz Da)
  (fr:A9 base (fun k=>k=R∨k=P∨vn.ownBlock=some k∨vk.ownBlock=some k∨vz.ownBlock=some k) X w'):
  LM w base P R gl cl L d f0 s0 l0 FP FQ FT vb k' v w' { s with ds:=A7 l',at_:=s.at_+1 } l' DZ D_ Da n xs:=by
 have Ak:A9 base (fun k=>k=R∨k=P∨vn.ownBlock=some k∨vk.ownBlock=some k∨vz.ownBlock=some k) wr w':=(A9.Ap hX b.rep.AJ).trans fr (fun j hj e=>e)
 refine ⟨F,rfl,hat,b.cnt,Ej,Nat.le_succ_of_le b.ge,?_,fun h0=>?_,b.A8.trans Ak.A8,b.low,?_,Nat.le_succ_of_le b.num,?_,hk.trans b.eq,b.Xf,?_⟩
 ·have h1:=b.len
  have h2:=b.ge
  show l'.length≤l0.length+(s.at_+1 - s0.at_)
  omega
 ·have:=(b.same h0).1
  rw[Ai] at this
  cases this
 ·refine QM b Ak.down (fun k hk hs=>?_)
  rcases hs with e|e|e|e|e
  ·exact .inl e
  ·exact .inr (.inl e)
  ·exact .inr (.inr (.inr (.inl e)))
  ·exact .inr (.inr (.inr (.inr (.inl e))))
  ·exact .inr (.inr (.inr (.inr (.inr e))))
 ·intro k e hs
  have lt:=(b.own.lt k e).2
  have sz:=hX.size
  have ap:=b.apart k e
  rcases hs with h|h|h|h|h|h
  ·exact ap (.inl h)
  ·exact ap (.inr (.inl h))
  ·exact ap (.inr (.inr (.inl h)))
  ·rcases n1 k h with h|h
   ·exact ap (.inr (.inr (.inr (.inl h))))
   ·omega
  ·rcases n2 k h with h|h
   ·exact ap (.inr (.inr (.inr (.inr (.inl h)))))
   ·omega
  ·rcases n3 k h with h|h
   ·exact ap (.inr (.inr (.inr (.inr (.inr h)))))
   ·omega
 ·obtain ⟨bs,ts,hx,htr,hn,heq⟩:=b.tr
  have h0:=hn Ai
  subst h0
  have hl:=htr.len
  have h1:bs=[]:=List.length_eq_zero_iff.1 (by simpa using hl)
  subst h1
  exact ⟨[],[],hx,.nil,fun _=>rfl,(hkT []).trans heq⟩
theorem YP (b:LM w base P R gl cl L d f0 s0 l0 FP FQ FT vb k v wr s l vn vk vz n xs) {X:World} {o:Obj} {g1 m1 p1:Nat} {ys:List Value} (hk:Rf.Ab (L.map ByteArray.toList) k' d s'=Rf.Ab (L.map ByteArray.toList) k d s) {sb:Nat} {t:Rf.Tr} (hkT: ∀ ts,Rf.blk (L.map ByteArray.toList) k' d s' (ts++[t])=Rf.blk (L.map ByteArray.toList) k d s ts) (hT:Dn X (DV wr X) [sb] [t]) (hys:ys=xs++[TH sb]) (hds:s'.ds=A7 l)
  (hlt:s'.at_<L.length) (hct:s'.cnt≤12) (Ej:L.length≤s'.at_+1+k') (hge:s.at_+1≤s'.at_) (Ai:s'.AA=true) (F:Ay X base P R l (AQ P gl cl L.length s') L gl vn vk vz vb) (fr:A9 base (fun k=>k=R) wr X)
  (hown1:w'.ownsRow w.heap.size 137 1 (.slice (some ⟨g1,0,none⟩) m1 p1) (n+1) ys) (hg:(X.alloc o).grownBy w' v.ownBlock) (hat:v.ownBlock=some g1∨g1=X.heap.size+1):
  LM w base P R gl cl L d f0 s0 l0 FP FQ FT vb k' (.slice (some ⟨g1,0,none⟩) m1 p1) w' s' l vn vk vz (n+1) ys:=by
 have hsz:(X.alloc o).heap.size=X.heap.size+1:=by simp
 have Ak:A9 base (fun k=>k=R∨w.heap.size≤k) wr w':=by
  refine A9.grown (A9.alloc (fr.imp (fun k hk e=>.inl e)) F.AJ o) hg (by rw[hsz];exact Nat.le_succ_of_le F.AJ) (fun k e=>⟨?_,.inr (b.own.lt k e).1⟩)
  have h1:=(b.own.lt k e).1
  have h2:=b.low
  omega
 refine ⟨F.same (fun k hk=>?_) (by have:=hg.size;omega),hds,hlt,hct,Ej,by have:=b.ge;omega,?_,fun h0=>⟨Ai,(b.same h0).2.1,(b.same h0).2.2.1,(b.same h0).2.2.2.1,(b.same h0).2.2.2.2.1,iM b Ak h0⟩,b.A8.trans Ak.A8,b.low,hown1,?_,?_,hk.trans b.eq,b.Xf,?_⟩
 ·exact (hg.block k (by have:=F.QK hk;omega) (fun e=>b.apart k e.symm hk)).trans (Below.heap_alloc X o k (F.QK hk))
 ·have h1:=b.len
  have h2:=b.ge
  omega
 ·have:=b.num
  omega
 ·intro k e hs
  have e:g1=k:=by simpa[Value.ownBlock] using e
  subst e
  rcases hat with h|h
  ·exact b.apart _ h hs
  ·have:=F.QK hs
   omega
 ·obtain ⟨bs,ts,hx,htr,hn,heq⟩:=b.tr
  have hrl:=b.Xf
  have z1:=fr.A8.size
  have z2:=hg.size
  rw[hsz] at z2
  have z3:=b.A8.size
  refine ⟨bs++[sb],ts++[t],by rw[hys,hx];simp,Dn.append (htr.move (fun j hj=>?_)) (hT.move (fun j hj=>?_)),fun e=>(by rw[Ai] at e;cases e),(hkT ts).trans heq⟩
  ·have j1:=hj.1.1
   have j2:=hj.1.2
   refine ⟨((hg.block j (by omega) (fun e=>hj.2 e.symm)).trans (Below.heap_alloc X o j (by omega))).trans (fr.keep j j2 (by omega)),⟨j1,by omega⟩,?_⟩
   intro e
   have e:g1=j:=by simpa[Value.ownBlock] using e
   rcases hat with h|h
   ·exact hj.2 (by rw[h,e])
   ·omega
  ·have j1:=hj.1
   have j2:=hj.2
   refine ⟨(hg.block j (by omega) (fun e=>by have:=(b.own.lt j e.symm).2;omega)).trans (Below.heap_alloc X o j (by omega)),⟨by omega,by omega⟩,?_⟩
   intro e
   have e:g1=j:=by simpa[Value.ownBlock] using e
   rcases hat with h|h
   ·have:=(b.own.lt g1 h).2;omega
   ·omega
end
namespace Rf
variable {B:Nat→Rs→Bool×Rs} {L:List Lk.Wd} {d:Nat} {s s':Rs} {w:List Lk.Wd}
theorem QN (h:Lk.wd w 0=wElse∨Lk.wd w 0=wEnd):Ee B L d s w=(decide (w.length=1∧0<d),s):=by unfold Ee;rw[if_pos h]
theorem tL (h: ¬(Lk.wd w 0=wElse∨Lk.wd w 0=wEnd)) (hc:s.cnt=12):Ee B L d s w=(false,s):=by unfold Ee;rw[if_neg h,if_pos hc]
theorem eZ (h: ¬(Lk.wd w 0=wElse∨Lk.wd w 0=wEnd)) (hc:s.cnt≠12) (hi:Lk.wd w 0=wIf∨Lk.wd w 0=wWhile) (hn:DF B L d s w=(false,s')):Ee B L d s w=(false,s'):=by
 unfold Ee;rw[if_neg h,if_neg hc,if_pos hi,hn]
theorem ed (h: ¬(Lk.wd w 0=wElse∨Lk.wd w 0=wEnd)) (hc:s.cnt≠12) (hi:Lk.wd w 0=wIf∨Lk.wd w 0=wWhile) (hn:DF B L d s w=(true,s')):Ee B L d s w=B d s':=by
 unfold Ee;rw[if_neg h,if_neg hc,if_pos hi,hn]
theorem tM (h: ¬(Lk.wd w 0=wElse∨Lk.wd w 0=wEnd)) (hc:s.cnt≠12) (hi: ¬(Lk.wd w 0=wIf∨Lk.wd w 0=wWhile)) (hn:fits s.ds w=true):Ee B L d s w=B d { s with cnt:=s.cnt+1,at_:=s.at_+1 }:=by
 unfold Ee;rw[if_neg h,if_neg hc,if_neg hi,if_pos hn]
theorem tN (h: ¬(Lk.wd w 0=wElse∨Lk.wd w 0=wEnd)) (hc:s.cnt≠12) (hi: ¬(Lk.wd w 0=wIf∨Lk.wd w 0=wWhile)) (hn:fits s.ds w=false):Ee B L d s w=(false,{ s with cnt:=s.cnt+1 }):=by
 unfold Ee;rw[if_neg h,if_neg hc,if_neg hi,if_neg (by rw[hn];simp)]
end Rf
section
variable {w:World} {base P R gl cl d f:Nat} {l:List DB} {s:Rf.Rs} {L:List ByteArray} {vn vk vz vb:Value} {g cap:Nat} {ws:List ByteArray}
theorem iN (w:World) (R g n cap:Nat):((w.setCell ⟨R,4,none⟩ (.bool true)).alloc (.cells #[.slice (some ⟨g,0,none⟩) n cap,.slice none 0 0,.slice none 0 0] 139)).rowIs w.heap.size 139 3 (DG g n cap (.slice none 0 0) (.slice none 0 0)):=by
 have h:=World.rowIs_alloc (w.setCell ⟨R,4,none⟩ (.bool true)) #[.slice (some ⟨g,0,none⟩) n cap,.slice none 0 0,.slice none 0 0] 139 (DG g n cap (.slice none 0 0) (.slice none 0 0)) (fun i hi=>by
  match i,hi with
  |0,_=>rfl
  |1,_=>rfl
  |2,_=>rfl
  |n+3,h=>exact absurd (show n+3<3 from h) (by omega))
 simpa using h
theorem iO {o:Obj} (hB:base≤w.heap.size) (hR:base≤R):A9 base (fun k=>k=R) w ((w.setCell ⟨R,4,none⟩ (.bool true)).alloc o):=
 A9.alloc (A9.setCell (p:=⟨R,4,none⟩) (A9.refl base (fun k=>k=R) w) hR rfl _) (by simpa using hB) o
theorem Ay.stmt (F:Ay w base P R l (AQ P gl cl L.length s) L gl vn vk vz vb) (o:Obj):Ay ((w.setCell ⟨R,4,none⟩ (.bool true)).alloc o) base P R l (AQ P gl cl L.length { s with AA:=true }) L gl vn vk vz vb:=
 ((F.put 4 (.bool true)).congr (fun i hi=>OL P gl cl L.length s i hi)).alloc o
theorem VT (F:Ay w base P R l (AQ P gl cl L.length s) L gl vn vk vz vb) (hl:l.length≤1000) (hL:L.length≤1000) (hW:CD w g ws) (hw0:0<ws.length) (hgR:g≠R) (hg2:g<w.heap.size) (hds:s.ds=A7 l) (Ej:L.length≤s.at_+1+(f+1)) (hat:s.at_+1<L.length) (hcn:s.cnt<12) (Co:d≤4) (IH:d<4→Kz L gl cl (d+1)) (De:base≤R)
  (o:Bool×Rf.Rs) (ho:Rf.DF (Rf.Ab (L.map ByteArray.toList) f) (L.map ByteArray.toList) d { s with AA:=true } (ws.map ByteArray.toList)=o):
  Calls Tryz.prog 61 #[.pointer (some ⟨R,0,none⟩),.pointer (some ⟨w.heap.size,0,none⟩),.int .i64 d] ((w.setCell ⟨R,4,none⟩ (.bool true)).alloc (.cells #[.slice (some ⟨g,0,none⟩) ws.length cap,.slice none 0 0,.slice none 0 0] 139)) fun e w'=>
   e=.returned (.bool o.1)∧Ay w' base P R l (AQ P gl cl L.length o.2) L gl vn vk vz vb∧A9 base (fun k=>k=R) w w'∧
    (o.1=true→Dn w' (fun k=>k=g∨DV w w' k) [w.heap.size] [.node (ws.map ByteArray.toList) (Rf.MC (L.map ByteArray.toList) f d { s with AA:=true }) (Rf.Jp (L.map ByteArray.toList) f d { s with AA:=true })]):=by
 have FB:=F.AJ
 have key:=qZ (d:=d) (f:=f) (F.stmt (.cells #[.slice (some ⟨g,0,none⟩) ws.length cap,.slice none 0 0,.slice none 0 0] 139)) hl hL (iN w R g ws.length cap) (VS (SS hW hgR _) _) hw0
  (fun e=>by have:=F.QK e;omega) hgR (by omega) hds rfl Ej hat hcn Co IH
 refine key.mono ?_
 intro e w' hh
 obtain ⟨h1,h2,h3,h5⟩:=hh
 rw[ho] at h1 h2 h5
 refine ⟨h1,h2,?_,fun ht=>?_⟩
 rotate_left
 ·obtain ⟨ub,uo,hr,hu,hv⟩:=h5 ht
  have zs:=h3.A8.size
  have zz:((w.setCell ⟨R,4,none⟩ (.bool true)).alloc (.cells #[.slice (some ⟨g,0,none⟩) ws.length cap,.slice none 0 0,.slice none 0 0] 139)).heap.size=w.heap.size+1:=by simp
  rw[zz] at zs
  have hW':CD w' g ws:=fun i hi=>h3.cell (p:=⟨g,i,none⟩) ((VS (SS hW hgR _) _) i hi) (by show ¬(g=R∨g=w.heap.size);omega)
  have low: ∀ {v ts},Sub w' (DV ((w.setCell ⟨R,4,none⟩ (.bool true)).alloc (.cells #[.slice (some ⟨g,0,none⟩) ws.length cap,.slice none 0 0,.slice none 0 0] 139)) w') v ts→Sub w' (fun k=>k=g∨DV w w' k) v ts:=fun hx=>hx.move (fun k hk=>⟨rfl,.inr ⟨by have:=hk.1;rw[zz] at this;omega,hk.2⟩⟩)
  obtain ⟨bs,hb1,hb2⟩:=low hu
  obtain ⟨os,BQ,Ex⟩:=low hv
  exact .cons (.inr ⟨Nat.le_refl _,by omega⟩) hr (.inl rfl) hW' hw0 hb1 hb2 BQ Ex .nil
 have h4:A9 base (fun k=>k=R∨k=w.heap.size) ((w.setCell ⟨R,4,none⟩ (.bool true)).alloc (.cells #[.slice (some ⟨g,0,none⟩) ws.length cap,.slice none 0 0,.slice none 0 0] 139)) w':=
  h3.lift (fun k hk e=>by
   rcases e with e|e
   ·rw[e];exact De
   ·rw[e];exact FB) (by simp;omega)
 exact (iO FB De).trans h4 (fun k hk e=>by
  rcases e with e|e
  ·exact e
  ·omega)
theorem jg (F:Ay w base P R l (AQ P gl cl L.length s) L gl vn vk vz vb) (hl:l.length≤1000) (hW:CD w g ws) (hw0:0<ws.length) (hgR:g≠R) (hg2:g<w.heap.size) (De:base≤R) (o:Bool) (ho:Rf.fits (A7 l) (ws.map ByteArray.toList)=o):
  Calls Tryz.prog 62 #[.pointer (some ⟨P,0,none⟩),.slice (some ⟨g,0,none⟩) ws.length cap] ((w.setCell ⟨R,4,none⟩ (.bool true)).alloc (.cells #[.slice (some ⟨g,0,none⟩) ws.length cap,.slice none 0 0,.slice none 0 0] 139)) fun e w'=>
   e=.returned (.bool o)∧Ay w' base P R l (AQ P gl cl L.length { s with AA:=true }) L gl vn vk vz vb∧A9 base (fun k=>k=R) w w'∧Dn w' (fun k=>k=g∨DV w w' k) [w.heap.size] [.node (ws.map ByteArray.toList) [] []]:=by
 have FB:=F.AJ
 obtain ⟨ob,hob⟩: ∃ ob,ob=Obj.cells #[.slice (some ⟨g,0,none⟩) ws.length cap,.slice none 0 0,.slice none 0 0] 139:=⟨_,rfl⟩
 have hrow:=iN w R g ws.length cap
 rw[←hob] at hrow ⊢
 refine ((F.stmt ob).prog.xL hl g cap ws (VS (SS hW hgR _) _) hw0).mono ?_
 intro e w' hh
 obtain ⟨h1,h2⟩:=hh
 rw[ho] at h1
 have zz:((w.setCell ⟨R,4,none⟩ (.bool true)).alloc ob).heap.size=w.heap.size+1:=by simp
 have zs:=h2.size
 rw[zz] at zs
 refine ⟨h1,(F.stmt ob).below h2,(iO FB De).trans (A9.Ap (S:=fun k=>k=R) h2 (F.stmt ob).AJ) (fun k hk e=>e),?_⟩
 exact .cons (.inr ⟨Nat.le_refl _,by omega⟩) (hrow.of_block (h2.block _ (by rw[zz];omega))) (.inl rfl) (GQ (VS (SS hW hgR _) _) h2) hw0 .nil .nil .nil .nil .nil
theorem aK {wr w2 w4:World} {g:Nat} {bs:List Nat} {ts:List Rf.Tr} (h:Dn w4 (fun k=>k=g∨DV w2 w4 k) bs ts) (h1:wr.heap.size≤g) (h2:g<w2.heap.size) (h3:wr.heap.size≤w2.heap.size) (h4:w2.heap.size≤w4.heap.size):Dn w4 (DV wr w4) bs ts:=
 h.move (fun k hk=>⟨rfl,by
  rcases hk with e|e
  ·subst e;exact ⟨h1,by omega⟩
  ·exact ⟨Nat.le_trans h3 e.1,e.2⟩⟩)
theorem kS {wr a:World} {R i:Nat} {u:Value} {bs:List Nat} {ts:List Rf.Tr} (h:Dn a (DV wr a) bs ts) (hR:R<wr.heap.size):Dn (a.setCell ⟨R,i,none⟩ u) (DV wr (a.setCell ⟨R,i,none⟩ u)) bs ts:=
 h.move (fun j hj=>⟨Below.heap_setCell a ⟨R,i,none⟩ u j (fun e=>by have h1:j=R:=e;have:=hj.1;omega),hj.1,by simpa using hj.2⟩)
end
end Go.Proofs.YtgddmpmcnjlcjaaGreatDoor
