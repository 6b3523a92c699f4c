import Derived.Test.YtgddmpmcnjlcjaaGreatDoorB20
set_option maxRecDepth 100000
set_option maxHeartbeats 1000000
namespace Go.Proofs.YtgddmpmcnjlcjaaGreatDoor
open Go.RowKit
set_option linter.unusedVariables false
structure Be (B wb:Nat) (B_ nx:Nat) (bs:List UInt8) (vt:Value) (w:World):Prop where
 row:w.rowIs wb 122 3 (I6 B_ nx vt)
 cb:B_≤bs.length
 own:w.ownsRow B 5 1 vt bs.length (Lib.byteCells bs)
 hb:B≤wb
 ne:vt.ownBlock≠some wb
section
variable {B wb B_ nx:Nat} {bs:List UInt8} {vt:Value} {w:World}
theorem Be.txt (h:Be B wb B_ nx bs vt w) (u:Value) {bs':List UInt8} {w':World} (hr:w'.rowIs wb 122 3 (I6 B_ nx vt)) (ho:w'.ownsRow B 5 1 u bs'.length (Lib.byteCells bs')) (hne:u.ownBlock≠some wb) (hc:bs.length≤bs'.length):Be B wb B_ nx bs' u (w'.setCell ⟨wb,2,none⟩ u):=
 ⟨(hr.set 2 u).congr (fun i hi=>by
    match i,hi with
    |0,_=>rfl
    |1,_=>rfl
    |2,_=>rfl
    |n+3,h=>omega),Nat.le_trans h.cb hc,BC ho hne u,h.hb,hne⟩
theorem Be.cnt (h:Be B wb B_ nx bs vt w) (c:Nat):Be B wb B_ c bs vt (w.setCell ⟨wb,1,none⟩ (.int .i64 c)):=
 ⟨(h.row.set 1 (.int .i64 c)).congr (fun i hi=>by
    match i,hi with
    |0,_=>rfl
    |1,_=>rfl
    |2,_=>rfl
    |n+3,h=>omega),h.cb,BC h.own h.ne _,h.hb,h.ne⟩
theorem Be.var (h:Be B wb B_ nx bs vt w) (c:Nat) (hc:c≤bs.length):Be B wb c nx bs vt (w.setCell ⟨wb,0,none⟩ (.int .i64 c)):=
 ⟨(h.row.set 0 (.int .i64 c)).congr (fun i hi=>by
    match i,hi with
    |0,_=>rfl
    |1,_=>rfl
    |2,_=>rfl
    |n+3,h=>omega),hc,BC h.own h.ne _,h.hb,h.ne⟩
theorem Be.c0 (h:Be B wb B_ nx bs vt w):w.cell? ⟨wb,0,none⟩=some (.int .i64 B_):=h.row.cell (i:=0) (by omega)
theorem Be.c1 (h:Be B wb B_ nx bs vt w):w.cell? ⟨wb,1,none⟩=some (.int .i64 nx):=h.row.cell (i:=1) (by omega)
theorem Be.c2 (h:Be B wb B_ nx bs vt w):w.cell? ⟨wb,2,none⟩=some vt:=h.row.cell (i:=2) (by omega)
theorem qL (h:Be B wb B_ nx bs vt w) (hBw:B≤w.heap.size) (l:Int) (hl0: -9223372036854775808≤l) (CN:l≤9223372036854775807) (CY:bs.length≤1000000000) (Ag:Lib.TabBelow Tryz.prog B w "internal/strconv.uint64pow10" .u64 Lib.pow10Tab):
  Calls Tryz.prog 84 #[.pointer (some ⟨wb,0,none⟩),.int .i64 l] w fun e w'=>e=.returned (.tuple #[])∧ ∃ Al,Be B wb B_ nx (bs++(Lib.itoa l++[32])) Al w'∧B6 B wb w w':=by
 obtain ⟨t0,ht0,hz0,hz1,hz2⟩:=info_parts Tryz.Vg
 obtain ⟨av,cv,ev⟩:=AX h.own
 subst ev
 have H:=hid h
 have HT:=hid Ag
 have r1:=h.c2
 have f1:=h.row.frozen 2
 have hrl:=h.row.lt
 have lb:=Lib.itoa_length_le l hl0 CN
 clear h Ag
 go_enter Tryz.func84,Tryz.ntmps84
 go_wp2_with (go_at_call 105;refine (dN B bs.length l hl0 CN _ _ _ H.out.own hBw (by omega) HT.out).mono ?_;rintro e w1 ⟨v1,he,BQ,hb1,hk1⟩;obtain ⟨a1,c1,e1⟩:=AX BQ;subst e1;subst he;have Cx:=hid BQ;have AL:=hid hb1;have Qw:=hid hk1;have z1:=hb1.size;have R1:=hid (Lq H.out.row hk1 (by simp) (by decide));have q1:=R1.out.cell (i:=2) (by omega);have qf:=R1.out.frozen 2;clear BQ hb1 hk1;refine Hid.out ?_)
 refine hid ?_
 rw[show I6 B_ nx (.slice av bs.length cv) 2=.slice av bs.length cv from rfl] at q1
 have EC:(Value.slice a1 (bs.length+(Lib.itoa l).length) c1).ownBlock≠some wb:=Aq Cx.out R1.out (by decide)
 have W1:=hid (H.out.txt (.slice a1 (bs.length+(Lib.itoa l).length) c1) (bs':=bs++Lib.itoa l) R1.out (by rw[List.length_append,Lib.byteCells_append];exact Cx.out) EC (by rw[List.length_append];omega))
 have KL:=hid EC
 have r2:=W1.out.c2
 have f2:=W1.out.row.frozen 2
 have l2:=W1.out.row.lt
 obtain ⟨m,hm⟩: ∃ m,bs.length+(Lib.itoa l).length=m:=⟨_,rfl⟩
 have hmb:m≤1000000021:=by omega
 obtain ⟨T,hT⟩: ∃ T,bs++Lib.itoa l=T:=⟨_,rfl⟩
 have Tw:T.length=m:=by rw[←hT,List.length_append];exact hm
 have Tx:=hid hT
 have Ty:=hid Tw
 rw[hm,hT] at W1
 rw[hm] at r2 f2 l2 KL ⊢
 have Tz:Hid (B6 B wb w (w1.setCell ⟨wb,2,none⟩ (.slice a1 m c1))):=⟨AL.out.setCell (p:=⟨wb,2,none⟩) H.out.hb _,Lib.OthersKept.setCell (fun k o h1 h2 h3=>Qw.out k o h1 (by simp) h3) ⟨wb,2,none⟩ rfl _⟩
 have z2:B≤(w1.setCell ⟨wb,2,none⟩ (.slice a1 m c1)).heap.size:=by simp;omega
 clear hT Tw hm EC
 go_wp2_with (at_builtin;refine wpList_append_lies _ rfl _ _ 103 rfl B 5 t0 _ 1 1 Tryz.underlying103 ht0 hz0 hz1 hz2 rfl (by omega) _ m (Lib.byteCells T) rfl (by have h:=W1.out.own.alloc (.cells #[.int .u8 32] 5);rw[Ty.out] at h;exact h) ⟨w1.heap.size,0,none⟩ 1 1 [.int .u8 32] rfl rfl (by have h:=cell_one_new (w1.setCell ⟨wb,2,none⟩ (.slice a1 m c1)) (.int .u8 32) 5;simpa using h) (by simp[Value.oneCell']) (by omega) (by unfold maxLen;omega) (by omega) (by simp;omega) (w1.heap.size+1) (by simp) ?_;intro g4 D4 w4 BW BJ Cn IU;have R4:=hid (Ad (W1.out.row.alloc _) BJ KL.out);have q4:=R4.out.cell (i:=2) (by omega);have Qz:=R4.out.frozen 2;have D8:=hid BW;have Hy:=hid BJ;clear BW BJ Cn;refine Hid.out ?_)
 refine hid ?_
 rw[show ∀ u,I6 B_ nx u 2=u from fun _=>rfl] at q4
 go_wp2_with fail
 go_end0
 have KM:(Value.slice (some ⟨g4,0,none⟩) (m+1) D4).ownBlock≠some wb:=Aq D8.out R4.out (by decide)
 have eb:bs++(Lib.itoa l++[32])=T++[32]:=by rw[←Tx.out,List.append_assoc]
 refine ⟨rfl,.slice (some ⟨g4,0,none⟩) (m+1) D4,?_,?_,?_⟩
 ·rw[eb]
  refine W1.out.txt _ R4.out ?_ KM (by rw[List.length_append];omega)
  rw[List.length_append,Ty.out,Lib.byteCells_append]
  exact D8.out
 ·exact (((Tz.out.1.alloc z2 _).grown Hy.out (by simp;omega) (fun q hq=>(W1.out.own.lt q hq).1)).setCell (p:=⟨wb,2,none⟩) H.out.hb _)
 ·exact Lib.OthersKept.setCell (Lib.OthersKept.grown (Tz.out.2.alloc _) Hy.out (fun g hg=>Mu (W1.out.own.alloc _) hg)) ⟨wb,2,none⟩ rfl _
end
def MI (l:Int):List UInt8:=Lib.itoa l++[32]
theorem SH {l:Int} (h:Ax l):(MI l).length≤22:=by
 have:=Lib.itoa_length_le l h.1 h.2
 unfold MI
 simp
 omega
def Hr (l:List Int) (n:Nat):List UInt8:=(List.range n).flatMap fun i=>MI (l.getD i 0)
theorem YC (l:List Int) (n:Nat):Hr l (n+1)=Hr l n++MI (l.getD n 0):=by
 unfold Hr
 rw[List.range_succ,List.flatMap_append]
 simp
theorem VP (l:List Int) (h: ∀ i,Ax (l.getD i 0)) (n:Nat):(Hr l n).length≤22*n:=by
 induction n with
 |zero=>simp[Hr]
 |succ n ih=>
  have:=SH (h n)
  rw[YC,List.length_append]
  omega
def FZ (nx:Nat) (ls hs:List Int):List UInt8:=MI nx++Hr ls ls.length++MI 0++Hr hs hs.length++[48,10]
theorem S7 {nx:Nat} {ls hs:List Int} (hn:nx≤1000000000) (hl: ∀ i,Ax (ls.getD i 0)) (hh: ∀ i,Ax (hs.getD i 0)):(FZ nx ls hs).length≤46+22*ls.length+22*hs.length:=by
 have h1:= @SH nx ⟨by omega,by omega⟩
 have h2:= @SH 0 ⟨by omega,by omega⟩
 have h3:=VP ls hl ls.length
 have h4:=VP hs hh hs.length
 unfold FZ
 rw[List.length_append,List.length_append,List.length_append,List.length_append]
 simp only[List.length_cons,List.length_nil]
 omega
theorem lH {w:World} {base:Nat} {e:TypeId} {l:List Int} {g cap:Nat} (h:w.ownsRow base e 1 (.slice (some ⟨g,0,none⟩) l.length cap) l.length (l.map fun n=>.int .i64 n)) (i:Nat) (hi:i<l.length):w.cell? ⟨g,i,none⟩=some (.int .i64 (l.getD i 0)):=by
 rw[h.cellAt i (by omega)];simp[hi]
section
variable {B wb B_ nx:Nat} {bs:List UInt8} {vt:Value} {w:World}
theorem WJ (h:Be B wb B_ nx bs vt w) (hBw:B≤w.heap.size) (l:Int) (hl:Ax l) (CY:bs.length≤1000000000) (Ag:DU B w):
  Calls Tryz.prog 84 #[.pointer (some ⟨wb,0,none⟩),.int .i64 l] w fun e w'=>e=.returned (.tuple #[])∧ ∃ Al,Be B wb B_ nx (bs++MI l) Al w'∧B6 B wb w w':=qL h hBw l hl.1 hl.2 CY Ag
theorem iB (h:Be B wb B_ nx bs vt w) (hBw:B≤w.heap.size) (a1 a2:Option Addr) (c1 c2:Nat) (ls hs:List Int) (h1:w.ownsRow 0 3 1 (.slice a1 ls.length c1) ls.length (ls.map fun n=>.int .i64 n)) (h2:w.ownsRow 0 3 1 (.slice a2 hs.length c2) hs.length (hs.map fun n=>.int .i64 n)) (hnx:nx≤1000000000) (hl: ∀ i,Ax (ls.getD i 0)) (hh: ∀ i,Ax (hs.getD i 0)) (hll:ls.length≤1000) (hhl:hs.length≤1000) (CY:bs.length≤700000000) (Ag:DU B w):
  Calls Tryz.prog 51 #[.pointer (some ⟨wb,0,none⟩),.slice a1 ls.length c1,.slice a2 hs.length c2] w fun e w'=>e=.returned (.int .i64 nx)∧ ∃ Al,Be B wb (B_+1) (nx+1) (bs++FZ nx ls hs) Al w'∧B6 B wb w w':=by
 obtain ⟨t0,ht0,hz0,hz1,hz2⟩:=info_parts Tryz.Vg
 have H:=hid h
 have HT:=hid Ag
 have HA:=hid h1
 have HB:=hid h2
 have Oq:=h.row.lt
 have r1:=h.c1
 have HAW:=hid (show (Value.slice a1 ls.length c1).ownBlock≠some wb from Aq h1 h.row (by decide))
 have PI:=hid (show (Value.slice a2 hs.length c2).ownBlock≠some wb from Aq h2 h.row (by decide))
 have alF:(ls.length:Int)≤1000:=by omega
 have alG:(hs.length:Int)≤1000:=by omega
 have LN:Hid (Ax (nx:Int)):=⟨by omega,by omega⟩
 have L0:Hid (Ax 0):=⟨by omega,by omega⟩
 clear h Ag h1 h2
 go_enter Tryz.func51,Tryz.ntmps51
 go_wp2_with (go_at_call 84;refine (WJ H.out hBw nx LN.out (by omega) HT.out).mono ?_;rintro e w1 ⟨rfl,v1,h1,f1⟩;have H1:=hid h1;have F1:=hid f1;have z1:=f1.1.size;clear h1 f1;refine Hid.out ?_)
 refine hid ?_
 go_wp2_with fail
 obtain ⟨b1,hb1⟩: ∃ b1,bs++MI nx=b1:=⟨_,rfl⟩
 have Eh:=hid (show b1.length≤700000022 by rw[←hb1,List.length_append];have:=SH LN.out;omega)
 rw[hb1] at H1
 have Ma:=hid hb1
 clear hb1
 go_loopw [21] (fun c wr=> ∃ (L:Nat) (EY:Value),L≤ls.length∧c=.int .i64 L∧Be B wb B_ nx (b1++Hr ls L) EY wr∧B6 B wb w wr) (fun c _=>ls.length - (intOf c).toNat)
 case atStart=>exact ⟨0,v1,Nat.zero_le _,rfl,by rw[show Hr ls 0=[] from rfl,List.append_nil];exact H1.out,F1.out⟩
 case round=>
  clear H1 F1 z1
  obtain ⟨L,vt2,hL,rfl,hwr,Ak⟩:=hrel
  have H1:=hid hwr
  have F1:=hid Ak
  have z1:=Ak.1.size
  clear hwr Ak
  have Qy:(L:Int)≤1000:=by omega
  have GZ:=hid (show (b1++Hr ls L).length≤700022022 by have:=VP ls hl L;have:=Eh.out;rw[List.length_append];omega)
  have I_:B≤wr.heap.size:=by omega
  by_cases hlt:L<ls.length
  ·have OD:=QI HA.out F1.out.2 (fun g' e=>by intro e2;cases e2;exact HAW.out e) (by decide)
   obtain ⟨gd,mK,U3,_,mL⟩:=OD.form (by omega)
   cases U3
   have dc:=lH OD L hlt
   clear OD
   have HS:=hid (YC ls L)
   have LD:=hid (hl L)
   generalize ls.getD L 0=d at dc HS LD
   have hMD:(L:Int)<(ls.length:Int):=by omega
   go_wp2_with (go_at_call 84;refine (WJ H1.out I_ d LD.out (by have:=GZ.out;omega) (HT.out.on F1.out.1)).mono ?_;rintro e w5 ⟨rfl,v5,h5,f5⟩;have H5:=hid h5;have F5:=hid (F1.out.trans f5);clear h5 f5)
   go_roundw
   case rel=>
    refine ⟨L+1,v5,by omega,by go_num,?_,F5.out⟩
    rw[HS.out, ←List.append_assoc]
    exact H5.out
   case measure=>simp[intOf];omega
  ·have hle:ls.length=L:=by omega
   have Hz:=hid hle
   clear hle
   go_wp2_with (go_at_call 84;refine (WJ H1.out I_ 0 L0.out (by have:=GZ.out;omega) (HT.out.on F1.out.1)).mono ?_;rintro e w5 ⟨rfl,v5,h5,f5⟩;have H5:=hid h5;have F5:=hid (F1.out.trans f5);have z5:=f5.1.size;clear h5 f5;refine Hid.out ?_)
   refine hid ?_
   obtain ⟨b2,hb2⟩: ∃ b2,b1++Hr ls L++MI 0=b2:=⟨_,rfl⟩
   have L_:=hid (show b2.length≤700022044 by rw[←hb2,List.length_append];have:=SH L0.out;have:=GZ.out;omega)
   rw[hb2] at H5
   have agE:=hid hb2
   clear hb2 H1 F1 z1 GZ
   go_wp2_with fail
   go_loopw [33] (fun c wr=> ∃ (M:Nat) (EY:Value),M≤hs.length∧c=.int .i64 M∧Be B wb B_ nx (b2++Hr hs M) EY wr∧B6 B wb w wr) (fun c _=>hs.length - (intOf c).toNat)
   case atStart=>exact ⟨0,v5,Nat.zero_le _,rfl,by rw[show Hr hs 0=[] from rfl,List.append_nil];exact H5.out,F5.out⟩
   case round=>
    clear H5 F5 z5
    obtain ⟨M,vt3,hM,rfl,hwr,Ak⟩:=hrel
    have H1:=hid hwr
    have F1:=hid Ak
    have z1:=Ak.1.size
    clear hwr Ak
    have Qx:(M:Int)≤1000:=by omega
    have Nh:=hid (show (b2++Hr hs M).length≤700044044 by have:=VP hs hh M;have:=L_.out;rw[List.length_append];omega)
    have I_:B≤wr.heap.size:=by omega
    by_cases Iw:M<hs.length
    ·have OD:=QI HB.out F1.out.2 (fun g' e=>by intro e2;cases e2;exact PI.out e) (by decide)
     obtain ⟨gd,mK,U3,_,mL⟩:=OD.form (by omega)
     cases U3
     have dc:=lH OD M Iw
     clear OD
     have HS:=hid (YC hs M)
     have LD:=hid (hh M)
     generalize hs.getD M 0=d at dc HS LD
     have hMD:(M:Int)<(hs.length:Int):=by omega
     go_wp2_with (go_at_call 84;refine (WJ H1.out I_ d LD.out (by have:=Nh.out;omega) (HT.out.on F1.out.1)).mono ?_;rintro e w5 ⟨rfl,v5,h5,f5⟩;have H5:=hid h5;have F5:=hid (F1.out.trans f5);clear h5 f5)
     go_roundw
     case rel=>
      refine ⟨M+1,v5,by omega,by go_num,?_,F5.out⟩
      rw[HS.out, ←List.append_assoc]
      exact H5.out
     case measure=>simp[intOf];omega
    ·have hle:hs.length=M:=by omega
     have HLM:=hid hle
     clear hle
     obtain ⟨b3,hb3⟩: ∃ b3,b2++Hr hs M=b3:=⟨_,rfl⟩
     rw[hb3] at H1 Nh
     have agF:=hid hb3
     clear hb3
     have alH:b3.length≤700044044:=Nh.out
     obtain ⟨av,cv,ev⟩:=AX H1.out.own
     subst ev
     have q2:=H1.out.c2
     have qf2:=H1.out.row.frozen 2
     have KL:=hid H1.out.ne
     have hlb:=H1.out.cb
     have JT:(B_:Int)≤1000000000:=by omega
     have alJ:(nx:Int)≤1000000000:=by omega
     go_wp2_with (at_builtin;refine wpList_append_lies _ rfl _ _ 103 rfl B 5 t0 _ 1 1 Tryz.underlying103 ht0 hz0 hz1 hz2 rfl (by omega) _ b3.length (Lib.byteCells b3) rfl (H1.out.own.alloc _) ⟨wr.heap.size,0,none⟩ 2 2 [.int .u8 48,.int .u8 10] rfl rfl (World.news_of_block (cs:= #[.int .u8 48,.int .u8 10]) (t:=5) (fr:=(0,0)) (heap_alloc_new wr _)) (by simp[Value.oneCell']) (by omega) (by unfold maxLen;omega) (by omega) (by simp;omega) (wr.heap.size+1) (by simp) ?_;intro g4 D4 w4 BW BJ Cn IU;have R4:=hid (Ad (H1.out.row.alloc _) BJ KL.out);have q4:=R4.out.cell (i:=2) (by omega);have Qz:=R4.out.frozen 2;have D8:=hid BW;have Hy:=hid BJ;clear BW BJ Cn;refine Hid.out ?_)
     refine hid ?_
     rw[show ∀ u,I6 B_ nx u 2=u from fun _=>rfl] at q4
     have KM:(Value.slice (some ⟨g4,0,none⟩) (b3.length+2) D4).ownBlock≠some wb:=Aq D8.out R4.out (by decide)
     have W4:=H1.out.txt (bs':=b3++[48,10]) _ R4.out (by rw[List.length_append,Lib.byteCells_append];exact D8.out) KM (by rw[List.length_append];omega)
     have W5:=W4.cnt (nx+1)
     have W6:=W5.var (B_+1) (by rw[List.length_append];simp;omega)
     have e1:=W4.c1
     have ef1:=W4.row.frozen 1
     have e0:=W5.c0
     have ef0:=W5.row.frozen 0
     have HW6:=hid W6
     have HN4:=hid KM
     clear W4 W5 W6 KM
     push_cast at e0 ef0
     go_wp2_with fail
     go_ret
     refine ⟨rfl,.slice (some ⟨g4,0,none⟩) (b3.length+2) D4,?_,?_⟩
     ·have e:bs++FZ nx ls hs=b3++[48,10]:=by
       rw[←agF.out, ←agE.out, ←Ma.out, ←HLM.out, ←Hz.out]
       unfold FZ
       simp
      rw[e]
      simpa using HW6.out
     ·refine ⟨?_,?_⟩
      ·exact (((((F1.out.1.alloc I_ _).grown Hy.out (by simp;omega) (fun q hq=>(H1.out.own.lt q hq).1)).setCell (p:=⟨wb,2,none⟩) H1.out.hb _).setCell (p:=⟨wb,1,none⟩) H1.out.hb _).setCell (p:=⟨wb,0,none⟩) H1.out.hb _)
      ·exact Lib.OthersKept.setCell (Lib.OthersKept.setCell (Lib.OthersKept.setCell (Lib.OthersKept.grown (F1.out.2.alloc _) Hy.out (fun g hg=>Mu (H1.out.own.alloc _) hg)) ⟨wb,2,none⟩ rfl _) ⟨wb,1,none⟩ rfl _) ⟨wb,0,none⟩ rfl _
end
namespace Cl
structure Bt where
 node:Nat:=0
 v1:Nat:=0
 c1:Nat:=0
 v2:Nat:=0
 c2:Nat:=0
 vd:Nat:=0
 cd:Nat:=0
deriving DecidableEq,Inhabited
def Bt.cells (b:Bt):List Value:=[.int .i64 b.node,.int .i64 b.v1,.int .i64 b.c1,.int .i64 b.v2,.int .i64 b.c2,.int .i64 b.vd,.int .i64 b.cd]
abbrev Bt.agg (b:Bt):Value:=.agg #[.int .i64 b.node,.int .i64 b.v1,.int .i64 b.c1,.int .i64 b.v2,.int .i64 b.c2,.int .i64 b.vd,.int .i64 b.cd]
structure Bt.Ok (b:Bt):Prop where
 v1:b.v1≤1000000000
 c1:b.c1≤1000000000
 v2:b.v2≤1000000000
 c2:b.c2≤1000000000
 vd:b.vd≤1000000000
 cd:b.cd≤1000000000
def Gv (b:Bt):Nat:=if b.node≤1 then 1 else 2
def KN (nx:Nat) (b:Bt):List UInt8:=
 if b.node=0 then FZ nx [-(b.vd:Int)] [b.c1,b.c2,b.cd]
 else if b.node=1 then FZ nx [-(b.vd:Int)] [b.c1,b.c2,(b.cd:Int)+1]
 else FZ nx [-(b.vd:Int),b.v1] [b.cd,b.c2,(b.c1:Int)+1]++FZ (nx+1) [-(b.vd:Int)] [nx,b.c1,(b.c2:Int)+1,(b.cd:Int)+1]
def KO (nx:Nat) (b:Bt):Nat:=if b.node≤1 then nx else nx+1
theorem ze {nx:Nat} {b:Bt} (hn:nx≤999999999) (h:b.Ok):(KN nx b).length≤400:=by
 have:=h.v1
 have:=h.c1
 have:=h.v2
 have:=h.c2
 have:=h.vd
 have:=h.cd
 have lit: ∀ (l:List Int),(∀ x∈l,Ax x)→ ∀ i,Ax (l.getD i 0):=fun l hl i=>by
  by_cases c:i<l.length
  ·rw[List.getD_eq_getElem?_getD,List.getElem?_eq_getElem c];exact hl _ (List.getElem_mem c)
  ·rw[List.getD_eq_getElem?_getD,List.getElem?_eq_none (by omega)];exact ⟨by decide,by decide⟩
 have a1:=S7 (nx:=nx) (ls:=[-(b.vd:Int)]) (hs:=[b.c1,b.c2,b.cd]) (by omega) (lit _ (by intro x hx;simp at hx;unfold Ax;omega)) (lit _ (by intro x hx;simp at hx;unfold Ax;omega))
 have a2:=S7 (nx:=nx) (ls:=[-(b.vd:Int)]) (hs:=[b.c1,b.c2,(b.cd:Int)+1]) (by omega) (lit _ (by intro x hx;simp at hx;unfold Ax;omega)) (lit _ (by intro x hx;simp at hx;unfold Ax;omega))
 have a3:=S7 (nx:=nx) (ls:=[-(b.vd:Int),b.v1]) (hs:=[b.cd,b.c2,(b.c1:Int)+1]) (by omega) (lit _ (by intro x hx;simp at hx;unfold Ax;omega)) (lit _ (by intro x hx;simp at hx;unfold Ax;omega))
 have a4:=S7 (nx:=nx+1) (ls:=[-(b.vd:Int)]) (hs:=[nx,b.c1,(b.c2:Int)+1,(b.cd:Int)+1]) (by omega) (lit _ (by intro x hx;simp at hx;unfold Ax;omega)) (lit _ (by intro x hx;simp at hx;unfold Ax;omega))
 simp only[List.length_cons,List.length_nil] at a1 a2 a3 a4
 unfold KN
 split
 ·omega
 ·split
  ·omega
  ·rw[List.length_append];omega
def D5 (bits:List Bt) (Ei:Nat):Nat→Nat×List UInt8×List Int
 |0=>(Ei,[],[])
 |i+1=>let x:=D5 bits Ei i;let b:=bits.getD i {};(x.1+Gv b,x.2.1++KN x.1 b,x.2.2++[(KO x.1 b:Int)])
theorem zf (bits:List Bt) (Ei:Nat) (hb: ∀ i,(bits.getD i {}).Ok) (i:Nat) (hn:Ei+2*i≤999999999):(D5 bits Ei i).1≤Ei+2*i∧Ei≤(D5 bits Ei i).1∧(D5 bits Ei i).2.1.length≤400*i∧(D5 bits Ei i).2.2.length=i∧(∀ x∈(D5 bits Ei i).2.2,0≤x∧x≤1000000000):=by
 induction i with
 |zero=>exact ⟨Nat.le_refl _,Nat.le_refl _,by simp[D5],rfl,fun x h=>by cases h⟩
 |succ i ih=>
  obtain ⟨h1,h2,h3,h4,h5⟩:=ih (by omega)
  have l:=ze (nx:=(D5 bits Ei i).1) (by omega) (hb i)
  have e:Gv (bits.getD i {})≤2:=by unfold Gv;split <;> omega
  have f:KO (D5 bits Ei i).1 (bits.getD i {})≤(D5 bits Ei i).1+1:=by unfold KO;split <;> omega
  refine ⟨?_,?_,?_,?_,fun x hx=>?_⟩
  ·show (D5 bits Ei i).1+Gv _≤_;omega
  ·show _≤(D5 bits Ei i).1+Gv _;omega
  ·show ((D5 bits Ei i).2.1++_).length≤_;rw[List.length_append];omega
  ·show ((D5 bits Ei i).2.2++[_]).length=_;rw[List.length_append,h4];rfl
  ·rcases List.mem_append.1 (show x∈(D5 bits Ei i).2.2++[_] from hx) with hx|hx
   ·exact h5 x hx
   ·rw[List.mem_singleton.1 hx];omega
end Cl
end Go.Proofs.YtgddmpmcnjlcjaaGreatDoor
