import Derived.Test.YtgddmpmcnjlcjaaGreatDoorB03
import Derived.Deep.QuietTactic
import Derived.BigQuiet
import Derived.Test.YtgddmpmcnjlcjaaGreatDoorB04
set_option maxRecDepth 100000
set_option maxHeartbeats 1000000
namespace Go.Proofs.YtgddmpmcnjlcjaaGreatDoor
open Go.RowKit
set_option linter.unusedVariables false
theorem Tryz.g_:(Tryz.prog.info? 4).map (fun i=>(i.zero,i.size,i.bytes))=some (some (.bool false),1,1):=by kernel_rfl
theorem Tryz.Ds:(Tryz.prog.info? 3).map (fun i=>(i.zero,i.size,i.bytes))=some (some (.int .i64 0),1,8):=by kernel_rfl
theorem rO {w W w1:World} {base b gg cap n:Nat} {r:Lk.RS} {vs vc vb:Value} {x:Bool} {o:Obj} (hR:BF W base b r vs vc vb) (hB:Below base w W)
  (hown:w1.ownsRow base 4 1 (.slice (some ⟨gg,0,none⟩) n cap) (r.Ah.length+1) (r.Ah.map Value.bool++[.bool x]))
  (hg:(W.alloc o).grownBy w1 vs.ownBlock) (hat:vs.ownBlock=some gg∨gg=W.heap.size+1):
  BF (w1.setCell ⟨b,0,none⟩ (.slice (some ⟨gg,0,none⟩) n cap)) base b { r with Ah:=r.Ah++[x] } (.slice (some ⟨gg,0,none⟩) n cap) vc vb∧Below base w (w1.setCell ⟨b,0,none⟩ (.slice (some ⟨gg,0,none⟩) n cap)):=by
 have hX:=hR.alloc o
 refine ⟨((hX.yr (sec':=r.Ah++[x]) hg (by simpa using hown) (by simpa using hat)).put 0 _).congr (fun j hj=>?_),?_⟩
 ·unfold Ac
  by_cases h:j=0
  ·rw[if_pos h,if_pos h]
  ·rw[if_neg h,if_neg h,if_neg h]
 ·refine (Below.grown (hB.alloc hR.AJ o) hg hX.AJ ?_).setCell hR.ge _
  intro k hk
  exact (hR.sec.lt k hk).1
theorem rQ {w W w1:World} {base b gg cap n:Nat} {r:Lk.RS} {vs vc vb:Value} {x:Nat} {o:Obj} (hR:BF W base b r vs vc vb) (hB:Below base w W)
  (hown:w1.ownsRow base 3 1 (.slice (some ⟨gg,0,none⟩) n cap) (r.cells.length+1) (r.cells.map (fun (n:Nat)=>Value.int .i64 n)++[.int .i64 x]))
  (hg:(W.alloc o).grownBy w1 vc.ownBlock) (hat:vc.ownBlock=some gg∨gg=W.heap.size+1):
  BF (w1.setCell ⟨b,2,none⟩ (.slice (some ⟨gg,0,none⟩) n cap)) base b { r with cells:=r.cells++[x] } vs (.slice (some ⟨gg,0,none⟩) n cap) vb∧Below base w (w1.setCell ⟨b,2,none⟩ (.slice (some ⟨gg,0,none⟩) n cap)):=by
 have hX:=hR.alloc o
 refine ⟨((hX.yt (cel':=r.cells++[x]) hg (by simpa using hown) (by simpa using hat)).put 2 _).congr (fun j hj=>?_),?_⟩
 ·unfold Ac
  by_cases h:j=2
  ·subst h;simp
  ·rw[if_neg h];simp only[h,if_false]
 ·refine (Below.grown (hB.alloc hR.AJ o) hg hX.AJ ?_).setCell hR.ge _
  intro k hk
  exact (hR.AR.lt k hk).1
theorem Xy {r r':Lk.RS} {w:Lk.Wd} {p q:Nat} (h:Lk.declare r w p q=some r'):r'.Ah=r.Ah∧r'.cells=r.cells∧r'.vars=r.vars:=by
 unfold Lk.declare at h
 split at h
 ·cases h;exact ⟨rfl,rfl,rfl⟩
 ·cases h
theorem nZ (r:Lk.RS) (vs vc vb:Value) (base b g cap:Nat) (ws:List ByteArray) (sx:Bool) (w:World) (hr:BF w base b r vs vc vb) (hw:CD w g ws):
  Calls Tryz.prog 63 #[.pointer (some ⟨b,0,none⟩),.slice (some ⟨g,0,none⟩) ws.length cap,.bool sx] w fun e w'=>
   e=.returned (.bool (Lk.E6 r (ws.map ByteArray.toList) sx).isSome)∧Eo w w' base b (Lk.E6 r (ws.map ByteArray.toList) sx):=by
 obtain ⟨t0,ht0,hz0,hz1,hz2⟩:=info_parts Tryz.g_
 have hlt:=hr.lt
 have hge:=hr.ge
 have hc0:=hr.row.cell (i:=0) (by omega)
 have hv1:=hr.row.cell (i:=1) (by omega)
 rw[show Ac r vs vc (.slice none 0 0) vb 0=vs from rfl] at hc0
 rw[show Ac r vs vc (.slice none 0 0) vb 1=.int .i64 r.vars from rfl] at hv1
 obtain ⟨ad,cp,hvs⟩:=AX hr.sec
 by_cases hl:ws.length=2
 ·by_cases hs3:r.Ah.length<3
  ·by_cases hv0:r.vars=0
   ·have hc1:=hw 1 (by omega)
    generalize hq:ws.getD 1 ByteArray.empty=q at hc1
    have hS:Lk.E6 r (ws.map ByteArray.toList) sx=match Lk.declare r q.toList 1 r.Ah.length with|some r'=>some { r' with Ah:=r'.Ah++[sx] }|none=>none:=by
     unfold Lk.E6;rw[DT,hq];simp[hl,hs3,hv0];rfl
    rw[hS,hl]
    have Hv:Hid _:=hv0
    rw[hv0] at hv1
    clear hq hw hl hS hv0
    have HR:Hid (BF w base b r vs vc vb):=hr
    clear hr
    subst hvs
    have aS:(r.Ah.length:Int)<3:=by omega
    cases hd:Lk.declare r q.toList 1 r.Ah.length with
    |none=>
     have Hd:Hid _:=hd
     clear hd
     go_enter Tryz.func63,Tryz.ntmps63
     go_wp2_with (first|(go_at_call 99;refine (Xx r (.slice ad r.Ah.length cp) vc vb base b q 1 r.Ah.length _ ?_ Hd.out).mono ?_;exact HR.out;rintro e w1 ⟨rfl,rfl⟩))
     go_ret
     exact Bb rfl (Below.refl _ _)
    |some r'=>
     have hk:=Xy hd
     have Hd:Hid _:=hd
     have Hk:Hid _:=hk
     clear hd hk
     go_enter Tryz.func63,Tryz.ntmps63
     go_wp2_with (first
      |(go_at_call 99;refine (Xw r r' (.slice ad r.Ah.length cp) vc vb base b q 1 r.Ah.length _ ?_ Hd.out).mono ?_;exact HR.out;rintro e w1 ⟨rfl,R1,B1⟩;have c0:=R1.row.cell (i:=0) (by omega);have f0:=R1.row.frozen 0;rw[show Ac r' (.slice ad r.Ah.length cp) vc (.slice none 0 0) vb 0=(.slice ad r.Ah.length cp) from rfl] at c0;have Aw:Hid (BF w1 base b r' (.slice ad r.Ah.length cp) vc vb):=R1;have hs:=R1.sec;have LQ:=R1.lt;clear R1)
      |(at_builtin;refine wpList_append_lies _ rfl _ _ 42 rfl base 4 t0 _ 1 1 Tryz.underlying42 ht0 hz0 hz1 hz2 rfl (by omega) _ r'.Ah.length (r'.Ah.map Value.bool) rfl (hs.alloc _) ⟨w1.heap.size,0,none⟩ 1 1 [.bool sx] rfl rfl (cell_one_new _ _ _) (by simp[Value.oneCell']) (by omega) (by have:=Hk.out;unfold maxLen;rw[this.1];omega) (by have:=Hk.out;rw[this.1];omega) (by have:=Aw.out.AJ;simp;omega) (w1.heap.size+1) (by simp) ?_;intro gg cap w2 hown1 hgrow hat Bk;have f2:=(Ad (Aw.out.row.alloc _) hgrow Aw.out.ns).frozen 0;have c2:=(Ad (Aw.out.row.alloc _) hgrow Aw.out.ns).cell (i:=0) (by omega)))
     go_ret
     have C:=rO Aw.out B1 hown1 hgrow hat
     exact Kr rfl C.1 C.2
   ·have hS:Lk.E6 r (ws.map ByteArray.toList) sx=none:=by unfold Lk.E6;rw[if_neg (by omega)]
    subst hvs
    rw[hl]
    have Gq:(0:Int)<(r.vars:Int):=by omega
    have aS:(r.Ah.length:Int)<3:=by omega
    clear hw hr hl
    go_enter Tryz.func63,Tryz.ntmps63
    go_wp2_with fail
    go_ret
    exact Bb hS (Below.refl _ _)
  ·have hS:Lk.E6 r (ws.map ByteArray.toList) sx=none:=by unfold Lk.E6;rw[if_neg (by omega)]
   subst hvs
   rw[hl]
   have aS:(3:Int)≤(r.Ah.length:Int):=by omega
   clear hw hr hl
   go_enter Tryz.func63,Tryz.ntmps63
   go_wp2_with fail
   go_ret
   exact Bb hS (Below.refl _ _)
 ·have hS:Lk.E6 r (ws.map ByteArray.toList) sx=none:=by unfold Lk.E6;rw[if_neg (by simp;omega)]
  subst hvs
  have hl':((ws.length:Int) !=2)=true:=by simp;omega
  clear hw hr hl
  generalize ws.length=n at hl'
  go_enter Tryz.func63,Tryz.ntmps63
  go_wp2_with fail
  go_ret
  exact Bb hS (Below.refl _ _)
theorem qC {w W:World} {base b:Nat} {r:Lk.RS} {vs vc vb:Value} (hR:BF W base b r vs vc vb) (hB:Below base w W):
  BF (W.setCell ⟨b,1,none⟩ (.int .i64 ((r.vars:Int)+1))) base b { r with vars:=r.vars+1 } vs vc vb∧Below base w (W.setCell ⟨b,1,none⟩ (.int .i64 ((r.vars:Int)+1))):=by
 refine ⟨(hR.put 1 _).congr (fun j hj=>?_),hB.setCell hR.ge _⟩
 unfold Ac
 by_cases h:j=1
 ·subst h;simp
 ·rw[if_neg h];simp only[h,if_false]
theorem oP (r:Lk.RS) (vs vc vb:Value) (base b g cap:Nat) (ws:List ByteArray) (w:World) (hr:BF w base b r vs vc vb) (hw:CD w g ws) (hs4:r.Ah.length≤3):
  Calls Tryz.prog 64 #[.pointer (some ⟨b,0,none⟩),.slice (some ⟨g,0,none⟩) ws.length cap] w fun e w'=>
   e=.returned (.bool (Lk.FW r (ws.map ByteArray.toList)).isSome)∧Eo w w' base b (Lk.FW r (ws.map ByteArray.toList)):=by
 have hlt:=hr.lt
 have hge:=hr.ge
 have hc0:=hr.row.cell (i:=0) (by omega)
 have hv1:=hr.row.cell (i:=1) (by omega)
 have Es:=hr.row.frozen 1
 rw[show Ac r vs vc (.slice none 0 0) vb 0=vs from rfl] at hc0
 rw[show Ac r vs vc (.slice none 0 0) vb 1=.int .i64 r.vars from rfl] at hv1
 obtain ⟨ad,cp,hvs⟩:=AX hr.sec
 by_cases hl:ws.length=2
 ·by_cases hv4:r.vars<4
  ·have hc1:=hw 1 (by omega)
   generalize hq:ws.getD 1 ByteArray.empty=q at hc1
   have hS:Lk.FW r (ws.map ByteArray.toList)=match Lk.declare r q.toList 1 (r.Ah.length+r.vars) with|some r'=>some { r' with vars:=r'.vars+1 }|none=>none:=by
    unfold Lk.FW;rw[DT,hq];simp[hl,hv4];rfl
   rw[hS,hl]
   clear hq hw hl hS
   have HR:Hid (BF w base b r vs vc vb):=hr
   clear hr
   subst hvs
   have aS:(r.Ah.length:Int)≤3:=by omega
   have ak4:(r.vars:Int)<4:=by omega
   cases hd:Lk.declare r q.toList 1 (r.Ah.length+r.vars) with
   |none=>
    have Hd:Hid _:=hd
    clear hd
    go_enter Tryz.func64,Tryz.ntmps64
    go_wp2_with fail
    go_quiet (fail)
    go_wp2_with (first|(go_at_call 99;refine (Xx r (.slice ad r.Ah.length cp) vc vb base b q 1 (r.Ah.length+r.vars) _ ?_ Hd.out).mono ?_;exact HR.out.later (fun _ _=>rfl);rintro e w1 ⟨rfl,rfl⟩))
    go_ret
    exact Bb rfl (below_drewN (Below.refl _ _) _)
   |some r'=>
    have hk:=Xy hd
    have Hd:Hid _:=hd
    have Hk:Hid _:=hk
    clear hd hk
    go_enter Tryz.func64,Tryz.ntmps64
    go_wp2_with fail
    go_quiet (fail)
    go_wp2_with (first
     |(go_at_call 99;go_loud (refine (Xw r r' (.slice ad r.Ah.length cp) vc vb base b q 1 (r.Ah.length+r.vars) _ ?_ Hd.out).mono ?_);go_loud (exact HR.out.later (fun _ _=>rfl));rintro e w1 ⟨rfl,R1,B1⟩;have c1:=R1.row.cell (i:=1) (by omega);have f1:=R1.row.frozen 1;rw[show Ac r' (.slice ad r.Ah.length cp) vc (.slice none 0 0) vb 1=.int .i64 r'.vars from rfl] at c1;go_loud (have v4:(r'.vars:Int)<4:=by (have:=Hk.out;omega));have Aw:Hid (BF w1 base b r' (.slice ad r.Ah.length cp) vc vb):=R1;clear R1))
    go_ret
    have C:=qC Aw.out ((below_drewN (Below.refl _ _) _).trans B1)
    exact Kr rfl C.1 C.2
  ·have hS:Lk.FW r (ws.map ByteArray.toList)=none:=by unfold Lk.FW;rw[if_neg (by omega)]
   rw[hl]
   have Gq:(4:Int)≤(r.vars:Int):=by omega
   clear hw hr hl
   go_enter Tryz.func64,Tryz.ntmps64
   go_wp2_with fail
   go_ret
   exact Bb hS (Below.refl _ _)
 ·have hS:Lk.FW r (ws.map ByteArray.toList)=none:=by unfold Lk.FW;rw[if_neg (by simp;omega)]
  have hl':((ws.length:Int) !=2)=true:=by simp;omega
  clear hw hr hl
  generalize ws.length=n at hl'
  go_enter Tryz.func64,Tryz.ntmps64
  go_wp2_with fail
  go_ret
  exact Bb hS (Below.refl _ _)
theorem n_ (r:Lk.RS) (vs vc vb:Value) (base b g cap:Nat) (ws:List ByteArray) (w:World) (hr:BF w base b r vs vc vb) (hw:CD w g ws):
  Calls Tryz.prog 65 #[.pointer (some ⟨b,0,none⟩),.slice (some ⟨g,0,none⟩) ws.length cap] w fun e w'=>
   e=.returned (.bool (Lk.FV r (ws.map ByteArray.toList)).isSome)∧Eo w w' base b (Lk.FV r (ws.map ByteArray.toList)):=by
 obtain ⟨t0,ht0,hz0,hz1,hz2⟩:=info_parts Tryz.Ds
 have hlt:=hr.lt
 have hge:=hr.ge
 have hc0:=hr.row.cell (i:=2) (by omega)
 rw[show Ac r vs vc (.slice none 0 0) vb 2=vc from rfl] at hc0
 obtain ⟨ad,cp,KH⟩:=AX hr.AR
 by_cases hl:ws.length=3
 ·by_cases hs2:r.cells.length<2
  ·have hc1:=hw 1 (by omega)
   have hc2:=hw 2 (by omega)
   generalize FJ:ws.getD 1 ByteArray.empty=q1 at hc1
   generalize ED:ws.getD 2 ByteArray.empty=q2 at hc2
   have hS:Lk.FV r (ws.map ByteArray.toList)=match Lk.num? q2.toList with|some n=>(if 1≤n∧n≤4 then (match Lk.declare r q1.toList 2 r.cells.length with|some r'=>some { r' with cells:=r'.cells++[n] }|none=>none) else none)|none=>none:=by
    unfold Lk.FV;rw[DT,DT,FJ,ED];simp[hl,hs2];rfl
   rw[hS,hl]
   clear FJ ED hw hl hS
   have HR:Hid (BF w base b r vs vc vb):=hr
   clear hr
   subst KH
   have ak5:(r.cells.length:Int)<2:=by omega
   cases hn:Lk.num? q2.toList with
   |none=>
    have Hn:Hid _:=hn
    clear hn
    go_enter Tryz.func65,Tryz.ntmps65
    go_wp2_with (first|(go_at_call 100;refine (Y1 _ _ Hn.out).mono ?_;rintro e w1 ⟨rfl,rfl⟩))
    go_ret
    exact Bb rfl (Below.refl _ _)
   |some n=>
    have Hn:Hid _:=hn
    clear hn
    dsimp only
    by_cases h14:1≤n∧n≤4
    ·rw[if_pos h14]
     have h1:(1:Int)≤(n:Int):=by omega
     have h4:(n:Int)≤4:=by omega
     cases hd:Lk.declare r q1.toList 2 r.cells.length with
     |none=>
      have Hd:Hid _:=hd
      clear hd
      go_enter Tryz.func65,Tryz.ntmps65
      go_wp2_with (first|(go_at_call 100;refine (Rp _ _ Hn.out).mono ?_;rintro e w1 ⟨rfl,rfl⟩)|(go_at_call 99;refine (Xx r vs (.slice ad r.cells.length cp) vb base b q1 2 r.cells.length _ ?_ Hd.out).mono ?_;exact HR.out;rintro e w1 ⟨rfl,rfl⟩))
      go_ret
      exact Bb rfl (Below.refl _ _)
     |some r'=>
      have hk:=Xy hd
      have Hd:Hid _:=hd
      have Hk:Hid _:=hk
      clear hd hk
      go_enter Tryz.func65,Tryz.ntmps65
      go_wp2_with (first
       |(go_at_call 100;refine (Rp _ _ Hn.out).mono ?_;rintro e w0 ⟨rfl,rfl⟩)
       |(go_at_call 99;refine (Xw r r' vs (.slice ad r.cells.length cp) vb base b q1 2 r.cells.length _ ?_ Hd.out).mono ?_;exact HR.out;rintro e w1 ⟨rfl,R1,B1⟩;have c0:=R1.row.cell (i:=2) (by omega);have f0:=R1.row.frozen 2;rw[show Ac r' vs (.slice ad r.cells.length cp) (.slice none 0 0) vb 2=(.slice ad r.cells.length cp) from rfl] at c0;have Aw:Hid (BF w1 base b r' vs (.slice ad r.cells.length cp) vb):=R1;have hs:=R1.AR;have LQ:=R1.lt;clear R1)
       |(at_builtin;refine wpList_append_lies _ rfl _ _ 24 rfl base 3 t0 _ 1 8 Tryz.underlying24 ht0 hz0 hz1 hz2 rfl (by omega) _ r'.cells.length (r'.cells.map fun (n:Nat)=>Value.int .i64 n) rfl (hs.alloc _) ⟨w1.heap.size,0,none⟩ 1 1 [.int .i64 n] rfl rfl (cell_one_new _ _ _) (by simp[Value.oneCell']) (by omega) (by have:=Hk.out;unfold maxLen;rw[this.2.1];omega) (by have:=Hk.out;rw[this.2.1];omega) (by have:=Aw.out.AJ;simp;omega) (w1.heap.size+1) (by simp) ?_;intro gg cap w2 hown1 hgrow hat Bk;have f2:=(Ad (Aw.out.row.alloc _) hgrow Aw.out.nc).frozen 2;have c2:=(Ad (Aw.out.row.alloc _) hgrow Aw.out.nc).cell (i:=2) (by omega)))
      go_ret
      have C:=rQ Aw.out B1 hown1 hgrow hat
      exact Kr rfl C.1 C.2
    ·rw[if_neg h14]
     by_cases h1:1≤n
     ·have cX:(1:Int)≤(n:Int):=by omega
      have h4:(4:Int)<(n:Int):=by omega
      go_enter Tryz.func65,Tryz.ntmps65
      go_wp2_with (first|(go_at_call 100;refine (Rp _ _ Hn.out).mono ?_;rintro e w1 ⟨rfl,rfl⟩))
      go_ret
      exact Bb rfl (Below.refl _ _)
     ·have cX:(n:Int)<1:=by omega
      go_enter Tryz.func65,Tryz.ntmps65
      go_wp2_with (first|(go_at_call 100;refine (Rp _ _ Hn.out).mono ?_;rintro e w1 ⟨rfl,rfl⟩))
      go_ret
      exact Bb rfl (Below.refl _ _)
  ·have hS:Lk.FV r (ws.map ByteArray.toList)=none:=by unfold Lk.FV;rw[if_neg (by omega)]
   subst KH
   rw[hl]
   have Gq:(2:Int)≤(r.cells.length:Int):=by omega
   clear hw hr hl
   go_enter Tryz.func65,Tryz.ntmps65
   go_wp2_with fail
   go_ret
   exact Bb hS (Below.refl _ _)
 ·have hS:Lk.FV r (ws.map ByteArray.toList)=none:=by unfold Lk.FV;rw[if_neg (by simp;omega)]
  subst KH
  have hl':((ws.length:Int) !=3)=true:=by simp;omega
  clear hw hr hl
  generalize ws.length=n at hl'
  go_enter Tryz.func65,Tryz.ntmps65
  go_wp2_with fail
  go_ret
  exact Bb hS (Below.refl _ _)
theorem Rt {w W w1:World} {base b gg cap n:Nat} {f:Nat→Value} {sec:List Bool} {AR:List Nat} {A_:List Lk.St} {vs vc vb:Value} {st:Lk.St} {o:Obj} (hR:CB W base b f sec AR A_ vs vc vb) (hB:Below base w W)
  (hown:w1.ownsRow base 147 10 (.slice (some ⟨gg,0,none⟩) n cap) (A_.length+1) (flat A_++AZ st))
  (hg:(W.alloc o).grownBy w1 vb.ownBlock) (hat:vb.ownBlock=some gg∨gg=W.heap.size+1):
  CB (w1.setCell ⟨b,56,none⟩ (.slice (some ⟨gg,0,none⟩) n cap)) base b (fun j=>if j=56 then .slice (some ⟨gg,0,none⟩) n cap else f j) sec AR (A_++[st]) vs vc (.slice (some ⟨gg,0,none⟩) n cap)∧Below base w (w1.setCell ⟨b,56,none⟩ (.slice (some ⟨gg,0,none⟩) n cap)):=by
 have hX:=hR.alloc o
 refine ⟨(hX.gW (bod':=A_++[st]) hg (by rw[YJ];simpa using hown) (by simpa using hat)).put 56 _,?_⟩
 refine (Below.grown (hB.alloc hR.AJ o) hg hX.AJ ?_).setCell hR.ge _
 intro k hk
 exact (hR.A_.lt k hk).1
theorem qD (r:Lk.RS) (vs vc vk vb G8:Value) (d p q:Nat) (hd:d<4) (hp:(r.opn d).1=p) (bd:List Lk.St) (j:Nat) (hj:j<67):
  (if j=56 then G8 else if j=58+d*2+1 then Value.int .i64 q else Ac r vs vc vk vb j)=Ac { r with opn:=Lk.upd r.opn d (p,q),body:=bd } vs vc vk G8 j:=by
 by_cases h0:j=56
 ·subst h0;rfl
 ·rw[if_neg h0]
  by_cases h1:j=58+d*2+1
  ·rw[if_pos h1,h1,(GP _ vs vc vk G8 d hd).2];simp[Lk.upd]
  ·rw[if_neg h1]
   by_cases h2:j=58+d*2
   ·rw[h2,(GP _ vs vc vk G8 d hd).1,(GP _ vs vc vk vb d hd).1];simp[Lk.upd,hp]
   ·unfold Ac
    by_cases h3:58≤j∧j<66
    ·have hk:(j - 58)/2≠d:=by omega
     simp only[Lk.upd,hk,h0,if_false]
    ·simp only[h0,if_false]
     repeat' split
     all_goals first|rfl|omega
theorem o6 (r:Lk.RS) (vs vc vb:Value) (base b g cap:Nat) (ws:List ByteArray) (w:World) (hr:BF w base b r vs vc vb) (hbl:r.body.length≤100000) (hI:Inv r):
  Calls Tryz.prog 70 #[.pointer (some ⟨b,0,none⟩),.slice (some ⟨g,0,none⟩) ws.length cap] w fun e w'=>
   e=.returned (.bool (Lk.Fx r (ws.map ByteArray.toList)).isSome)∧Eo w w' base b (Lk.Fx r (ws.map ByteArray.toList)):=by
 have hlt:=hr.lt
 have hge:=hr.ge
 have Dv:=hr.row.cell (i:=66) (by omega)
 rw[show Ac r vs vc (.slice none 0 0) vb 66=.int .i64 r.depth from rfl] at Dv
 by_cases hl:ws.length=1
 ·by_cases hd0:r.depth=0
  ·have hS:Lk.Fx r (ws.map ByteArray.toList)=none:=by unfold Lk.Fx;rw[if_neg (by omega)]
   rw[hl]
   rw[hd0] at Dv
   clear hr hl
   go_enter Tryz.func70,Tryz.ntmps70
   go_wp2_with fail
   go_ret
   exact Bb hS (Below.refl _ _)
  ·obtain ⟨d,hd⟩: ∃ d,r.depth=d+1:=⟨r.depth - 1,by omega⟩
   have Co:d<4:=by have:=hI.dep;omega
   have DX:=hI.opn d (by omega)
   have hS:Lk.Fx r (ws.map ByteArray.toList)=if (Lk.bodyAt r.body (r.opn d).1).kind=4∧(r.opn d).2=0 then
     some { r with opn:=Lk.upd r.opn d ((r.opn d).1,r.body.length),body:=r.body.set (r.opn d).1 { Lk.bodyAt r.body (r.opn d).1 with els:=r.body.length+1 }++[{ kind:=6 }] } else none:=by
    unfold Lk.Fx;rw[hd];simp[hl]
   have hc0:=hr.row.cell (i:=58+d*2) (by omega)
   have hc1:=hr.row.cell (i:=58+d*2+1) (by omega)
   have Gp:=hr.row.frozen (58+d*2)
   have Es:=hr.row.frozen (58+d*2+1)
   rw[(GP _ _ _ _ _ _ Co).1] at hc0
   rw[(GP _ _ _ _ _ _ Co).2] at hc1
   have Dm:=hr.row.cell (i:=56) (by omega)
   have Jv:=hr.row.frozen 56
   rw[show Ac r vs vc (.slice none 0 0) vb 56=vb from rfl] at Dm
   obtain ⟨gb,cp,hvb,MF,We⟩:=hr.A_.form (by omega)
   obtain ⟨O,hO⟩: ∃ O,Lk.Fx r (ws.map ByteArray.toList)=O:=⟨_,rfl⟩
   rw[hO,hl]
   rw[hO] at hS
   rw[hd,Int.natCast_add] at Dv
   generalize EO:(r.opn d).1=hd1 at hc0 DX hS
   generalize hel:(r.opn d).2=el at hc1 DX hS
   subst hvb
   have Wf:gb≠b:=fun e=>hr.nb (by rw[e];rfl)
   have hcell:=fun k (hk:k<10)=>(hr.A_.cellAt (hd1*10+k) (by omega)).trans (Jm r.body hd1 k DX.1 hk)
   have Et:=hcell 0 (by omega)
   have hk9:=hcell 9 (by omega)
   have af_:=hr.A_.frozenAt (hd1*10+9)
   simp only[AZ,List.getElem?_cons_zero,Nat.add_zero] at Et
   simp[AZ] at hk9
   have HR:Hid (BF w base b r vs vc (.slice (some ⟨gb,0,none⟩) r.body.length cp)):=hr
   have HO:Hid _:=hS
   clear hr hcell hS hl hel hO
   have Hhd:Hid _:=EO
   clear EO
   have Fh:(0:Int)≤(hd1:Int):=by omega
   have X7:(hd1:Int)<(r.body.length:Int):=by omega
   have Eu:(d:Int)<4:=by omega
   have DL:(r.body.length:Int)≤100000:=by omega
   by_cases hk:(Lk.bodyAt r.body hd1).kind=4
   ·by_cases he:el=0
    ·have BR:Hid _:=HO.out.trans (if_pos ⟨hk,he⟩)
     clear HO
     subst he
     rw[hk] at Et
     clear hk
     go_enter Tryz.func70,Tryz.ntmps70
     go_wp2_with fail
     go_region
     all_goals go_wp2_with fail
     go_quiet (fail)
     go_wp2_with fail
     go_region
     all_goals go_wp2_with fail
     go_region
     generalize hW:World.drew (World.setCell _ _ _)=W
     have FK:=QF r.body hd1 9 (.int .i64 (↑r.body.length+1)) { Lk.bodyAt r.body hd1 with els:=r.body.length+1 } DX.1 (by omega) (by simp[AZ])
     have Dw:(r.body.set hd1 { Lk.bodyAt r.body hd1 with els:=r.body.length+1 }).length=r.body.length:=by simp
     obtain ⟨bd,Ai⟩: ∃ bd,r.body.set hd1 { Lk.bodyAt r.body hd1 with els:=r.body.length+1 }=bd:=⟨_,rfl⟩
     rw[Ai] at FK Dw
     have MQ:Hid _:=Ai
     clear Ai
     have AU:Hid (CB W base b (fun j=>if j=58+d*2+1 then .int .i64 ↑r.body.length else Ac r vs vc (.slice none 0 0) (.slice (some ⟨gb,0,none⟩) r.body.length cp) j) r.Ah r.cells bd vs vc (.slice (some ⟨gb,0,none⟩) r.body.length cp)):=by
      rw[←hW]
      exact ((((HR.out.alloc _).drewN _).put _ _).Ry Dw FK.symm).drew
     have AP:Hid (Below base w W):=by
      rw[←hW]
      exact (((below_drewN ((Below.refl _ _).alloc HR.out.AJ _) _).setCell hge _).setCell (by exact MF) _).drew
     clear hW
     have hown:=AU.out.A_
     rw[Dw] at hown
     have Dq:=AU.out.lt
     have MR:=AU.out.row.cell (i:=56) (by omega)
     have X8:=AU.out.row.frozen 56
     rw[if_neg (by omega),show Ac r vs vc (.slice none 0 0) (.slice (some ⟨gb,0,none⟩) r.body.length cp) 56=.slice (some ⟨gb,0,none⟩) r.body.length cp from rfl] at MR
     have MG:Hid _:=hown
     have Hfs:Hid _:=FK
     clear hown hk9 af_ Et hc0 hc1 Gp Es Dm Jv Dv FK
     obtain ⟨t0,ht0,hz0,hz1,hz2⟩:=info_parts Tryz.OT
     go_wp2_with (first
      |(at_builtin;(refine wpList_append_lies _ rfl _ _ 43 rfl base 147 t0 _ 10 80 Tryz.underlying43 ht0 hz0 hz1 hz2 rfl (by omega) _ r.body.length (flat bd) rfl (World.ownsRow.alloc (Hid.out MG) _) ⟨W.heap.size,0,none⟩ 1 1 [.int .i64 6,.int .i64 0,.int .i64 0,.int .i64 0,.bool false,.int .i64 0,.bool false,.int .i64 0,.int .i64 0,.int .i64 0] rfl rfl (World.news_of_block (cs:= #[.int .i64 6,.int .i64 0,.int .i64 0,.int .i64 0,.bool false,.int .i64 0,.bool false,.int .i64 0,.int .i64 0,.int .i64 0]) (t:=147) (fr:=(0,0)) (heap_alloc_new W _)) (by simp[Value.oneCell']) (by omega) (by unfold maxLen;omega) (by omega) (by have:=AU.out.AJ;simp;omega) (W.heap.size+1) (by simp) ?_);intro gg cap2 w1 hown1 hgrow hat Bk;have f2:=(Ad (AU.out.row.alloc _) hgrow AU.out.nb).frozen 56;have c2:=(Ad (AU.out.row.alloc _) hgrow AU.out.nb).cell (i:=56) (by omega)))
     go_ret
     have C:=Rt (st:={ kind:=6 }) AU.out AP.out (by rw[Dw];exact hown1) hgrow hat
     have D:=C.1.congr (fun j hj=>qD r vs vc _ _ _ d hd1 r.body.length Co Hhd.out (bd++[{ kind:=6 }]) j hj)
     rw[←show _=bd from MQ.out] at D
     exact Kr BR.out D C.2
    ·have BR:Hid _:=HO.out.trans (if_neg (fun h=>he h.2))
     clear HO
     have X9:((el:Int) !=0)=true:=by simp;omega
     rw[hk] at Et
     clear he
     go_enter Tryz.func70,Tryz.ntmps70
     go_wp2_with fail
     go_region
     all_goals go_wp2_with fail
     go_quiet (fail)
     go_wp2_with fail
     go_ret
     exact Bb BR.out (below_drewN (((Below.refl _ _).alloc HR.out.AJ _).drew) _)
   ·have BR:Hid _:=HO.out.trans (if_neg (fun h=>hk h.1))
    clear HO
    have JX:(((Lk.bodyAt r.body hd1).kind:Int) !=4)=true:=by simp;omega
    clear hk
    generalize (Lk.bodyAt r.body hd1).kind=kk at Et JX
    go_enter Tryz.func70,Tryz.ntmps70
    go_wp2_with fail
    go_region
    all_goals go_wp2_with fail
    go_quiet (fail)
    go_wp2_with fail
    go_ret
    exact Bb BR.out (below_drewN (((Below.refl _ _).alloc HR.out.AJ _).drew) _)
 ·have hS:Lk.Fx r (ws.map ByteArray.toList)=none:=by unfold Lk.Fx;rw[if_neg (by simp;omega)]
  have hl':((ws.length:Int) !=1)=true:=by simp;omega
  clear hr hl
  generalize ws.length=n at hl'
  go_enter Tryz.func70,Tryz.ntmps70
  go_wp2_with fail
  go_ret
  exact Bb hS (Below.refl _ _)
end Go.Proofs.YtgddmpmcnjlcjaaGreatDoor
