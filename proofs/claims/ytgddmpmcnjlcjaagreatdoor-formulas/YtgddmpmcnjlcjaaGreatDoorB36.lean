import Derived.Test.YtgddmpmcnjlcjaaGreatDoorB31
import Derived.Test.YtgddmpmcnjlcjaaGreatDoorB35
import Derived.Test.YtgddmpmcnjlcjaaGreatDoorB32
namespace Go.Proofs.YtgddmpmcnjlcjaaGreatDoor.Rf
open Go.Proofs.YtgddmpmcnjlcjaaGreatDoor.Lk (Wd num? oper? cut wd isName)
theorem Rv (L:List Wd): ∀ (f d:Nat) (s:Rs) (out:List Tr),(blk L f d s out).1=(Ab L f d s).1∧(blk L f d s out).2.2=(Ab L f d s).2
 |0,d,s,out=>⟨rfl,rfl⟩
 |f+1,d,s,out=>by
  have ih:=Rv L f
  unfold blk Ab
  by_cases h1:s.at_+1<L.length
  ·rw[if_pos h1,if_pos h1]
   dsimp only
   by_cases h2:isDecl (wd (cut 32 (L.getD s.at_ [])) 0)=true
   ·rw[if_pos h2,if_pos h2]
    cases declare s.ds s.AA (cut 32 (L.getD s.at_ [])) with
    |none=>exact ⟨rfl,rfl⟩
    |some ds=>exact ih d _ out
   ·rw[if_neg h2,if_neg h2]
    unfold Ee
    by_cases h3:wd (cut 32 (L.getD s.at_ [])) 0=wElse∨wd (cut 32 (L.getD s.at_ [])) 0=wEnd
    ·rw[if_pos h3,if_pos h3];exact ⟨rfl,rfl⟩
    ·rw[if_neg h3,if_neg h3]
     by_cases h4:s.cnt=12
     ·rw[if_pos h4,if_pos h4];exact ⟨rfl,rfl⟩
     ·rw[if_neg h4,if_neg h4]
      by_cases h5:wd (cut 32 (L.getD s.at_ [])) 0=wIf∨wd (cut 32 (L.getD s.at_ [])) 0=wWhile
      ·rw[if_pos h5,if_pos h5]
       unfold DF
       by_cases h6:(cut 32 (L.getD s.at_ [])).length=2∧d≠4∧atom s.ds (wd (cut 32 (L.getD s.at_ [])) 1)=true
       ·rw[if_pos h6,if_pos h6]
        have p1:=ih (d+1) { ds:=s.ds,at_:=s.at_+1,cnt:=s.cnt+1,AA:=true } []
        dsimp only
        generalize blk L f (d+1) { ds:=s.ds,at_:=s.at_+1,cnt:=s.cnt+1,AA:=true } []=o1 at p1 ⊢
        generalize Ab L f (d+1) { ds:=s.ds,at_:=s.at_+1,cnt:=s.cnt+1,AA:=true }=q1 at p1 ⊢
        obtain ⟨b1,t1,s2⟩:=o1
        obtain ⟨c1,s2'⟩:=q1
        obtain ⟨e1,e2⟩:=p1
        dsimp only at e1 e2
        subst e1 e2
        cases b1 with
        |false=>exact ⟨rfl,rfl⟩
        |true=>
         dsimp only
         by_cases h7:L.getD s2.at_ []=wElse
         ·rw[if_pos h7,if_pos h7]
          by_cases h8:wd (cut 32 (L.getD s.at_ [])) 0=wIf
          ·rw[if_pos h8,if_pos h8]
           have p2:=ih (d+1) { s2 with at_:=s2.at_+1 } []
           generalize blk L f (d+1) { s2 with at_:=s2.at_+1 } []=o2 at p2 ⊢
           generalize Ab L f (d+1) { s2 with at_:=s2.at_+1 }=q2 at p2 ⊢
           obtain ⟨b2,t2,s3⟩:=o2
           obtain ⟨c2,s3'⟩:=q2
           obtain ⟨e3,e4⟩:=p2
           dsimp only at e3 e4
           subst e3 e4
           cases b2 with
           |false=>exact ⟨rfl,rfl⟩
           |true=>
            dsimp only
            by_cases h9:L.getD s3.at_ []=wElse
            ·rw[if_pos h9,if_pos h9];exact ⟨rfl,rfl⟩
            ·rw[if_neg h9,if_neg h9];exact ih d _ _
          ·rw[if_neg h8,if_neg h8];exact ⟨rfl,rfl⟩
         ·rw[if_neg h7,if_neg h7];exact ih d _ _
       ·rw[if_neg h6,if_neg h6];exact ⟨rfl,rfl⟩
      ·rw[if_neg h5,if_neg h5]
       by_cases h6:fits s.ds (cut 32 (L.getD s.at_ []))=true
       ·rw[if_pos h6,if_pos h6];exact ih d _ _
       ·rw[if_neg h6,if_neg h6];exact ⟨rfl,rfl⟩
  ·rw[if_neg h1,if_neg h1];exact ⟨rfl,rfl⟩
def MC (L:List Wd) (f d:Nat) (s:Rs):List Tr:=(blk L f (d+1) { s with cnt:=s.cnt+1,at_:=s.at_+1 } []).2.1
def Jp (L:List Wd) (f d:Nat) (s:Rs):List Tr:=
 if L.getD (Ab L f (d+1) { s with cnt:=s.cnt+1,at_:=s.at_+1 }).2.at_ []=wElse then
  (blk L f (d+1) { (Ab L f (d+1) { s with cnt:=s.cnt+1,at_:=s.at_+1 }).2 with at_:=(Ab L f (d+1) { s with cnt:=s.cnt+1,at_:=s.at_+1 }).2.at_+1 } []).2.1 else []
theorem pE {L:List Wd} {f d:Nat} {s s2:Rs} {b:Bool} (h:Ab L f (d+1) { s with cnt:=s.cnt+1,at_:=s.at_+1 }=(b,s2)) (he: ¬L.getD s2.at_ []=wElse):Jp L f d s=[]:=by
 unfold Jp;rw[h];dsimp only;rw[if_neg he]
theorem pF {L:List Wd} {f d:Nat} {s s2:Rs} {b:Bool} (h:Ab L f (d+1) { s with cnt:=s.cnt+1,at_:=s.at_+1 }=(b,s2)) (he:L.getD s2.at_ []=wElse):Jp L f d s=(blk L f (d+1) { s2 with at_:=s2.at_+1 } []).2.1:=by
 unfold Jp;rw[h];dsimp only;rw[if_pos he]
section
variable {L:List Wd} {f d:Nat} {s s':Rs} {w:List Wd} {out:List Tr}
theorem iL (h:s.at_+1<L.length) (hw:cut 32 (L.getD s.at_ [])=w) (hd:isDecl (wd w 0)=false) (hne: ¬(wd w 0=wElse∨wd w 0=wEnd)) (hc:s.cnt≠12) (hi:wd w 0=wIf∨wd w 0=wWhile)
  (hn:DF (Ab L f) L d { s with AA:=true } w=(true,s')):blk L (f+1) d s out=blk L f d s' (out++[.node w (MC L f d { s with AA:=true }) (Jp L f d { s with AA:=true })]):=by
 conv=>lhs;unfold blk
 rw[if_pos h]
 dsimp only
 rw[hw,if_neg (by rw[hd];simp),if_neg hne,if_neg hc,if_pos hi]
 unfold DF at hn
 dsimp only at hn
 by_cases h6:w.length=2∧d≠4∧atom s.ds (wd w 1)=true
 ·rw[if_pos h6] at hn ⊢
  have p1:=Rv L f (d+1) { ds:=s.ds,at_:=s.at_+1,cnt:=s.cnt+1,AA:=true } []
  unfold MC Jp
  dsimp only
  generalize blk L f (d+1) { ds:=s.ds,at_:=s.at_+1,cnt:=s.cnt+1,AA:=true } []=o1 at p1 hn ⊢
  generalize Ab L f (d+1) { ds:=s.ds,at_:=s.at_+1,cnt:=s.cnt+1,AA:=true }=q1 at p1 hn ⊢
  obtain ⟨b1,t1,s2⟩:=o1
  obtain ⟨c1,s2'⟩:=q1
  obtain ⟨e1,e2⟩:=p1
  dsimp only at e1 e2
  subst e1 e2
  cases b1 with
  |false=>cases hn
  |true=>
   dsimp only at hn ⊢
   by_cases h7:L.getD s2.at_ []=wElse
   ·rw[if_pos h7] at hn
    rw[if_pos h7,if_pos h7]
    by_cases h8:wd w 0=wIf
    ·rw[if_pos h8] at hn ⊢
     have p2:=Rv L f (d+1) { s2 with at_:=s2.at_+1 } []
     generalize blk L f (d+1) { s2 with at_:=s2.at_+1 } []=o2 at p2 ⊢
     generalize Ab L f (d+1) { s2 with at_:=s2.at_+1 }=q2 at p2 hn ⊢
     obtain ⟨b2,t2,s3⟩:=o2
     obtain ⟨c2,s3'⟩:=q2
     obtain ⟨e3,e4⟩:=p2
     dsimp only at e3 e4
     subst e3 e4
     cases b2 with
     |false=>cases hn
     |true=>
      dsimp only at hn ⊢
      by_cases h9:L.getD s3.at_ []=wElse
      ·rw[if_pos h9] at hn;cases hn
      ·rw[if_neg h9] at hn ⊢
       rw[←(Prod.mk.inj hn).2]
    ·rw[if_neg h8] at hn;cases hn
   ·rw[if_neg h7] at hn
    rw[if_neg h7,if_neg h7, ←(Prod.mk.inj hn).2]
 ·rw[if_neg h6] at hn;cases hn
theorem aaI (h:s.at_+1<L.length) (hw:cut 32 (L.getD s.at_ [])=w) (hd:isDecl (wd w 0)=false) (hne: ¬(wd w 0=wElse∨wd w 0=wEnd)) (hc:s.cnt≠12) (hi: ¬(wd w 0=wIf∨wd w 0=wWhile)) (hn:fits s.ds w=true):
  blk L (f+1) d s out=blk L f d { s with AA:=true,cnt:=s.cnt+1,at_:=s.at_+1 } (out++[.node w [] []]):=by
 conv=>lhs;unfold blk
 rw[if_pos h]
 dsimp only
 rw[hw,if_neg (by rw[hd];simp),if_neg hne,if_neg hc,if_neg hi,if_pos hn]
theorem xM (h:s.at_+1<L.length) (hw:cut 32 (L.getD s.at_ [])=w) (hd:isDecl (wd w 0)=true) {ds:List Dc} (hn:declare s.ds s.AA w=some ds):
  blk L (f+1) d s out=blk L f d { s with ds:=ds,at_:=s.at_+1 } out:=by
 conv=>lhs;unfold blk
 rw[if_pos h]
 dsimp only
 rw[hw,if_pos hd,hn]
theorem QJ (h:s.at_+1<L.length) (hw:cut 32 (L.getD s.at_ [])=w) (hd:isDecl (wd w 0)=false) (hne:wd w 0=wElse∨wd w 0=wEnd):(blk L (f+1) d s out).2.1=out:=by
 unfold blk
 rw[if_pos h]
 dsimp only
 rw[hw,if_neg (by rw[hd];simp),if_pos hne]
theorem xN (h: ¬s.at_+1<L.length):(blk L f d s out).2.1=out:=by
 cases f with
 |zero=>rfl
 |succ f=>unfold blk;rw[if_neg h]
end
end Go.Proofs.YtgddmpmcnjlcjaaGreatDoor.Rf
namespace Go.Proofs.YtgddmpmcnjlcjaaGreatDoor
open Go.RowKit
set_option linter.unusedVariables false
structure Ay (w:World) (base P R:Nat) (l:List DB) (f:Nat→Value) (L:List ByteArray) (gl:Nat) (vn vk vz vb:Value):Prop where
 prog:Ae w base P l vn vk vz vb
 row:w.rowIs R 83 5 f
 Gx:CD w gl L
 Mh:gl<w.heap.size
 rP:R≠P
 rn:vn.ownBlock≠some R
 rk:vk.ownBlock≠some R
 rz:vz.ownBlock≠some R
 lR:gl≠R
 lP:gl≠P
 ln:vn.ownBlock≠some gl
 lk:vk.ownBlock≠some gl
 lz:vz.ownBlock≠some gl
def IM (P R gl:Nat) (vn vk vz:Value) (k:Nat):Prop:=k=R∨k=P∨k=gl∨vn.ownBlock=some k∨vk.ownBlock=some k∨vz.ownBlock=some k
namespace Ay
variable {w:World} {base P R:Nat} {l:List DB} {f:Nat→Value} {L:List ByteArray} {gl:Nat} {vn vk vz vb:Value}
theorem QK (h:Ay w base P R l f L gl vn vk vz vb) {k:Nat} (hk:IM P R gl vn vk vz k):k<w.heap.size:=by
 rcases hk with rfl|rfl|rfl|e|e|e
 ·exact h.row.lt
 ·exact h.prog.lt
 ·exact h.Mh
 ·exact (h.prog.nm.lt _ e).2
 ·exact (h.prog.kd.lt _ e).2
 ·exact (h.prog.sz.lt _ e).2
theorem same {w':World} (h:Ay w base P R l f L gl vn vk vz vb) (hb: ∀ k,IM P R gl vn vk vz k→w'.heap[k]? =w.heap[k]?) (hs:w.heap.size≤w'.heap.size):Ay w' base P R l f L gl vn vk vz vb:=
 ⟨⟨h.prog.row.of_block (hb P (.inr (.inl rfl))),h.prog.ge,BP h.prog.nm (fun k e=>hb k (.inr (.inr (.inr (.inl e))))),BP h.prog.kd (fun k e=>hb k (.inr (.inr (.inr (.inr (.inl e)))))),BP h.prog.sz (fun k e=>hb k (.inr (.inr (.inr (.inr (.inr e)))))),h.prog.np,h.prog.kp,h.prog.zp,h.prog.nk,h.prog.nz,h.prog.kz⟩,
    h.row.of_block (hb R (.inl rfl)),fun i hi=>(World.cell?_of_block (hb gl (.inr (.inr (.inl rfl))))).trans (h.Gx i hi),Nat.lt_of_lt_of_le h.Mh hs,h.rP,h.rn,h.rk,h.rz,h.lR,h.lP,h.ln,h.lk,h.lz⟩
theorem below {w':World} (h:Ay w base P R l f L gl vn vk vz vb) (hb:Below w.heap.size w w'):Ay w' base P R l f L gl vn vk vz vb:=h.same (fun k hk=>hb.block k (h.QK hk)) hb.size
theorem alloc (h:Ay w base P R l f L gl vn vk vz vb) (o:Obj):Ay (w.alloc o) base P R l f L gl vn vk vz vb:=h.below ((Below.refl _ _).alloc (Nat.le_refl _) o)
theorem drew (h:Ay w base P R l f L gl vn vk vz vb):Ay w.drew base P R l f L gl vn vk vz vb:=h.same (fun _ _=>rfl) (Nat.le_refl _)
theorem drewN (h:Ay w base P R l f L gl vn vk vz vb) (n:Nat):Ay (w.drewN n) base P R l f L gl vn vk vz vb:=h.same (fun _ _=>rfl) (Nat.le_refl _)
theorem congr {f':Nat→Value} (h:Ay w base P R l f L gl vn vk vz vb) (e: ∀ i,i<5→f i=f' i):Ay w base P R l f' L gl vn vk vz vb:=
 ⟨h.prog,h.row.congr e,h.Gx,h.Mh,h.rP,h.rn,h.rk,h.rz,h.lR,h.lP,h.ln,h.lk,h.lz⟩
theorem setOther {b i:Nat} (h:Ay w base P R l f L gl vn vk vz vb) (hb: ¬IM P R gl vn vk vz b) (u:Value):Ay (w.setCell ⟨b,i,none⟩ u) base P R l f L gl vn vk vz vb:=
 h.same (fun k hk=>Below.heap_setCell w ⟨b,i,none⟩ u k (fun e=>hb (by rw[←show k=b from e];exact hk))) (by simp)
theorem put (h:Ay w base P R l f L gl vn vk vz vb) (i:Nat) (x:Value):Ay (w.setCell ⟨R,i,none⟩ x) base P R l (fun j=>if j=i then x else f j) L gl vn vk vz vb:=by
 have hs: ∀ k,k≠R→(w.setCell ⟨R,i,none⟩ x).heap[k]? =w.heap[k]? :=fun k hk=>Below.heap_setCell w ⟨R,i,none⟩ x k hk
 exact ⟨⟨h.prog.row.of_block (hs P h.rP.symm),h.prog.ge,BC h.prog.nm h.rn x,BC h.prog.kd h.rk x,BC h.prog.sz h.rz x,h.prog.np,h.prog.kp,h.prog.zp,h.prog.nk,h.prog.nz,h.prog.kz⟩,
  h.row.set i x,fun j hj=>(World.cell?_of_block (hs gl h.lR)).trans (h.Gx j hj),by simpa using h.Mh,h.rP,h.rn,h.rk,h.rz,h.lR,h.lP,h.ln,h.lk,h.lz⟩
end Ay
abbrev AQ (P gl cl n:Nat) (s:Rf.Rs):Nat→Value:=LC P (.slice (some ⟨gl,0,none⟩) n cl) s
def DG (gw n cw:Nat) (v o:Value) (i:Nat):Value:=if i=0 then .slice (some ⟨gw,0,none⟩) n cw else if i=1 then v else o
def TH (b:Nat):Value:=.pointer (some ⟨b,0,none⟩)
def DV (w w':World) (k:Nat):Prop:=w.heap.size≤k∧k<w'.heap.size
def MK (w:World) (A:Nat→Prop) (v:Value) (bs:List Nat):Prop:=
 ∃ ad c,v=.slice ad bs.length c∧(0<bs.length→ ∃ g,ad=some ⟨g,0,none⟩∧A g∧ ∀ i,i<bs.length→w.cell? ⟨g,i,none⟩=some (TH (bs.getD i 0)))
inductive Dn (w:World) (A:Nat→Prop):List Nat→List Rf.Tr→Prop
 |nil:Dn w A [] []
 |cons {sb gw cw:Nat} {ws:List ByteArray} {vb vo:Value} {bs os:List Nat} {body other:List Rf.Tr} {rs:List Nat} {rest:List Rf.Tr}
   (hA:A sb) (hrow:w.rowIs sb 139 3 (DG gw ws.length cw vb vo)) (hg:A gw) (hW:CD w gw ws) (h0:0<ws.length)
   (hb:MK w A vb bs) (tb:Dn w A bs body) (ho:MK w A vo os) (RR:Dn w A os other) (tr:Dn w A rs rest):
   Dn w A (sb::rs) (.node (ws.map ByteArray.toList) body other::rest)
section
variable {w w' a b:World} {A A':Nat→Prop} {v:Value} {bs cs:List Nat} {ts us:List Rf.Tr}
theorem MK.move (h:MK a A v bs) (hk: ∀ k,A k→b.heap[k]? =a.heap[k]? ∧A' k):MK b A' v bs:=by
 obtain ⟨ad,c,hv,hc⟩:=h
 refine ⟨ad,c,hv,fun h0=>?_⟩
 obtain ⟨g,hg,hA,hi⟩:=hc h0
 exact ⟨g,hg,(hk g hA).2,fun i h=>(World.cell?_of_block (hk g hA).1).trans (hi i h)⟩
theorem MK.nil:MK w A (.slice none 0 0) []:=⟨none,0,rfl,fun h=>absurd h (by simp)⟩
theorem Dn.move (h:Dn a A bs ts) (hk: ∀ k,A k→b.heap[k]? =a.heap[k]? ∧A' k):Dn b A' bs ts:=by
 induction h with
 |nil=>exact .nil
 |cons hA hrow hg hW h0 hb tb ho RR tr ih1 ih2 ih3=>
  exact .cons (hk _ hA).2 (hrow.of_block (hk _ hA).1) (hk _ hg).2 (fun i hi=>(World.cell?_of_block (hk _ hg).1).trans (hW i hi)) h0 (hb.move hk) ih1 (ho.move hk) ih2 ih3
theorem Dn.append (h:Dn w A bs ts) (h2:Dn w A cs us):Dn w A (bs++cs) (ts++us):=by
 induction h with
 |nil=>exact h2
 |cons hA hrow hg hW h0 hb tb ho RR tr ih1 ih2 ih3=>exact .cons hA hrow hg hW h0 hb tb ho RR ih3
theorem Dn.len (h:Dn w A bs ts):bs.length=ts.length:=by
 induction h with
 |nil=>rfl
 |cons hA hrow hg hW h0 hb tb ho RR tr ih1 ih2 ih3=>simp[ih3]
def Sub (w:World) (A:Nat→Prop) (v:Value) (ts:List Rf.Tr):Prop:= ∃ bs,MK w A v bs∧Dn w A bs ts
theorem Sub.move (h:Sub a A v ts) (hk: ∀ k,A k→b.heap[k]? =a.heap[k]? ∧A' k):Sub b A' v ts:=by
 obtain ⟨bs,h1,h2⟩:=h
 exact ⟨bs,h1.move hk,h2.move hk⟩
theorem Sub.nil:Sub w A (.slice none 0 0) []:=⟨[],.nil,.nil⟩
theorem Sub.low (h:Sub a (DV w' a) v ts) (hw:w.heap.size≤w'.heap.size):Sub a (DV w a) v ts:=h.move (fun k hk=>⟨rfl,Nat.le_trans hw hk.1,hk.2⟩)
theorem Sub.frm {R:Nat} (h:Sub a (DV w a) v ts) (fr:A9 0 (fun k=>k=R) a b) (hR:R<w.heap.size):Sub b (DV w b) v ts:=
 h.move (fun k hk=>⟨fr.keep k hk.2 (fun e=>by have:=hk.1;omega),hk.1,Nat.lt_of_lt_of_le hk.2 fr.A8.size⟩)
theorem Sub.set {k i:Nat} (h:Sub a (DV w a) v ts) (hR:k<w.heap.size) (u:Value):Sub (a.setCell ⟨k,i,none⟩ u) (DV w (a.setCell ⟨k,i,none⟩ u)) v ts:=
 h.move (fun j hj=>⟨Below.heap_setCell a ⟨k,i,none⟩ u j (fun e=>by have h1:j=k:=e;have:=hj.1;omega),hj.1,by simpa using hj.2⟩)
theorem Sub.drewN (h:Sub a (DV w a) v ts) (n:Nat):Sub (a.drewN n) (DV w (a.drewN n)) v ts:=h.move (fun k hk=>⟨rfl,hk⟩)
end
def Kz (L:List ByteArray) (gl cl d:Nat):Prop:=
 ∀ (f:Nat) (w:World) (base P R:Nat) (l:List DB) (s:Rf.Rs) (vn vk vz vb:Value),Ay w base P R l (AQ P gl cl L.length s) L gl vn vk vz vb→s.ds=A7 l→s.AA=true→L.length≤s.at_+1+f→s.at_<L.length→s.cnt≤12→l.length≤1000→L.length≤1000→
  Calls Tryz.prog 32 #[.pointer (some ⟨R,0,none⟩),.int .i64 d] w fun e w'=>
   ∃ ad n c,e=.returned (.tuple #[.slice ad n c,.bool (Rf.Ab (L.map ByteArray.toList) f d s).1])∧Ay w' base P R l (AQ P gl cl L.length (Rf.Ab (L.map ByteArray.toList) f d s).2) L gl vn vk vz vb∧A9 0 (fun k=>k=R) w w'∧
    ((Rf.Ab (L.map ByteArray.toList) f d s).1=true→Sub w' (DV w w') (.slice ad n c) (Rf.blk (L.map ByteArray.toList) f d s []).2.1)
end Go.Proofs.YtgddmpmcnjlcjaaGreatDoor
