import Derived.Test.YtgddmpmcnjlcjaaGreatDoorB39
import Derived.Deep.QuietTactic
import Derived.BigQuiet
import Derived.Test.YtgddmpmcnjlcjaaGreatDoorB11
import Derived.Test.YtgddmpmcnjlcjaaGreatDoorB31
set_option maxRecDepth 100000
set_option maxHeartbeats 1000000
namespace Go.Proofs.YtgddmpmcnjlcjaaGreatDoor
open Go.RowKit
set_option linter.unusedVariables false
theorem ZR (c:UInt8): ∀ l:Lk.Wd,(Lk.cut c l).length≤l.length+1∧ ∀ x∈Lk.cut c l,x.length≤l.length
 |[]=>⟨by simp[Lk.cut],fun x hx=>by simp[Lk.cut] at hx;simp[hx]⟩
 |y::ys=>by
  have ih:=ZR c ys
  unfold Lk.cut
  by_cases h:y=c
  ·rw[if_pos h]
   refine ⟨by have:=ih.1;simp;omega,fun x hx=>?_⟩
   rcases List.mem_cons.1 hx with e|e
   ·rw[e];simp
   ·have:=ih.2 x e;simp;omega
  ·rw[if_neg h]
   cases hc:Lk.cut c ys with
   |nil=>exact ⟨by simp,fun x hx=>by simp at hx;simp[hx]⟩
   |cons z zs=>
    rw[hc] at ih
    refine ⟨by have:=ih.1;simp at this ⊢;omega,fun x hx=>?_⟩
    rcases List.mem_cons.1 hx with e|e
    ·have:=ih.2 z (List.mem_cons.2 (.inl rfl));rw[e];simp;omega
    ·have:=ih.2 x (List.mem_cons.2 (.inr e));simp;omega
theorem Xz {w:World} {base:Nat} {e:TypeId} {size:Nat} {v:Value} {n:Nat} {xs:List Value} (h:w.ownsRow base e size v n xs):w.ownsRow 0 e size v n xs:=by
 refine ⟨h.1,?_⟩
 rcases h.2 with hn|⟨g,cap,cur,rfl,hb',hgg,rest⟩
 ·exact .inl hn
 ·exact .inr ⟨g,cap,cur,rfl,Nat.zero_le _,hgg,rest⟩
section
variable {w w':World} {base P R:Nat} {l:List DB} {f f':Nat→Value} {L:List ByteArray} {gl:Nat} {vn vk vz vb:Value}
theorem Ae.zero (h:Ae w base P l vn vk vz vb):Ae w 0 P l vn vk vz vb:=⟨h.row,Nat.zero_le _,Xz h.nm,Xz h.kd,Xz h.sz,h.np,h.kp,h.zp,h.nk,h.nz,h.kz⟩
theorem Ay.zero (h:Ay w base P R l f L gl vn vk vz vb):Ay w 0 P R l f L gl vn vk vz vb:=⟨h.prog.zero,h.row,h.Gx,h.Mh,h.rP,h.rn,h.rk,h.rz,h.lR,h.lP,h.ln,h.lk,h.lz⟩
theorem Ay.back (F:Ay w base P R l f L gl vn vk vz vb) (h:Ay w' 0 P R l f' L gl vn vk vz vb) (fr:A9 0 (fun k=>k=R) w w'):Ay w' base P R l f' L gl vn vk vz vb:=
 ⟨⟨F.prog.row.of_block (fr.keep P F.prog.lt (fun e=>F.rP e.symm)),F.prog.ge,BP F.prog.nm (fun k e=>fr.keep k (F.prog.nm.lt k e).2 (fun h=>F.rn (by rw[←h];exact e))),BP F.prog.kd (fun k e=>fr.keep k (F.prog.kd.lt k e).2 (fun h=>F.rk (by rw[←h];exact e))),BP F.prog.sz (fun k e=>fr.keep k (F.prog.sz.lt k e).2 (fun h=>F.rz (by rw[←h];exact e))),F.prog.np,F.prog.kp,F.prog.zp,F.prog.nk,F.prog.nz,F.prog.kz⟩,
    h.row,h.Gx,h.Mh,h.rP,h.rn,h.rk,h.rz,h.lR,h.lP,h.ln,h.lk,h.lz⟩
end
theorem Vl (L:List ByteArray) (gl cl:Nat) (RU: ∀ i,i<L.length→(L.getD i ByteArray.empty).size≤1000000): ∀ n d,d+n=4→Kz L gl cl d
 |0,d,hn=>by
  intro f w base P R l s vn vk vz vb F hds Ai Ej hat hcn hl hL
  refine (S9 L gl cl d (by omega) (fun h=>absurd h (by omega)) hL RU f w 0 P R l s vn vk vz vb F.zero hds Ej hat hcn (.inl ⟨Ai,hl⟩) (Nat.zero_le _)).mono ?_
  intro e w' hh
  obtain ⟨ad,n,c,l',DZ,D_,Da,he,hF,hd',hb,hs,hT⟩:=hh
  obtain ⟨e1,e2,e3,e4,Ak⟩:=hs Ai
  subst e1 e2 e3 e4
  exact ⟨ad,n,c,he,F.back hF Ak,Ak,hT⟩
 |n+1,d,hn=>by
  intro f w base P R l s vn vk vz vb F hds Ai Ej hat hcn hl hL
  refine (S9 L gl cl d (by omega) (fun h=>Vl L gl cl RU n (d+1) (by omega)) hL RU f w 0 P R l s vn vk vz vb F.zero hds Ej hat hcn (.inl ⟨Ai,hl⟩) (Nat.zero_le _)).mono ?_
  intro e w' hh
  obtain ⟨ad,n,c,l',DZ,D_,Da,he,hF,hd',hb,hs,hT⟩:=hh
  obtain ⟨e1,e2,e3,e4,Ak⟩:=hs Ai
  subst e1 e2 e3 e4
  exact ⟨ad,n,c,he,F.back hF Ak,Ak,hT⟩
abbrev CC:Value:=.slice none 0 0
abbrev GU:Obj:=.cells #[CC,CC,CC,CC] 81
abbrev Iq (w:World):Obj:=.cells #[.pointer (some ⟨w.heap.size,0,none⟩),CC,.int .i64 0,.int .i64 0,.bool false] 83
theorem Lp {w w1:World} (hb:Below ((w.alloc GU).alloc (Iq w)).heap.size ((w.alloc GU).alloc (Iq w)) w1):w1.rowIs (w.heap.size+1) 83 5 (LC w.heap.size CC {}):=by
 have hsz:((w.alloc GU).alloc (Iq w)).heap.size=w.heap.size+2:=by simp
 have NY:=World.rowIs_alloc (w.alloc GU) #[.pointer (some ⟨w.heap.size,0,none⟩),CC,.int .i64 0,.int .i64 0,.bool false] 83 (LC w.heap.size CC {}) (fun i hi=>by
  match i,hi with
  |0,_=>rfl
  |1,_=>rfl
  |2,_=>rfl
  |3,_=>rfl
  |4,_=>rfl
  |n+5,h=>exact absurd (show n+5<5 from h) (by omega))
 have hR:((w.alloc GU).alloc (Iq w)).rowIs (w.heap.size+1) 83 5 (LC w.heap.size CC {}):=by
  have e:(w.alloc GU).heap.size=w.heap.size+1:=by simp
  rw[e] at NY
  exact NY
 exact hR.of_block (hb.block _ (by omega))
theorem YE {w w1:World} {g cap:Nat} {L:List ByteArray} (hb:Below ((w.alloc GU).alloc (Iq w)).heap.size ((w.alloc GU).alloc (Iq w)) w1)
  (hown:w1.ownsRow ((w.alloc GU).alloc (Iq w)).heap.size 9 1 (.slice (some ⟨g,0,none⟩) L.length cap) L.length (L.map Value.string)):
  Ay (w1.setCell ⟨w.heap.size+1,1,none⟩ (.slice (some ⟨g,0,none⟩) L.length cap)) w.heap.size w.heap.size (w.heap.size+1) [] (AQ w.heap.size g cap L.length {}) L g CC CC CC CC:=by
 have hsz:((w.alloc GU).alloc (Iq w)).heap.size=w.heap.size+2:=by simp
 have hg:=hown.lt g rfl
 rw[hsz] at hg
 have hP:((w.alloc GU).alloc (Iq w)).rowIs w.heap.size 81 4 (Cu CC CC CC CC):=(World.rowIs_alloc w #[CC,CC,CC,CC] 81 (Cu CC CC CC CC) (fun i hi=>by
  match i,hi with
  |0,_=>rfl
  |1,_=>rfl
  |2,_=>rfl
  |3,_=>rfl
  |n+4,h=>exact absurd (show n+4<4 from h) (by omega))).alloc _
 have NY:=World.rowIs_alloc (w.alloc GU) #[.pointer (some ⟨w.heap.size,0,none⟩),CC,.int .i64 0,.int .i64 0,.bool false] 83 (LC w.heap.size CC {}) (fun i hi=>by
  match i,hi with
  |0,_=>rfl
  |1,_=>rfl
  |2,_=>rfl
  |3,_=>rfl
  |4,_=>rfl
  |n+5,h=>exact absurd (show n+5<5 from h) (by omega))
 have hR:((w.alloc GU).alloc (Iq w)).rowIs (w.heap.size+1) 83 5 (LC w.heap.size CC {}):=by
  have e:(w.alloc GU).heap.size=w.heap.size+1:=by simp
  rw[e] at NY
  exact NY
 have XP:w1.rowIs w.heap.size 81 4 (Cu CC CC CC CC):=hP.of_block (hb.block _ (by omega))
 have hR1:w1.rowIs (w.heap.size+1) 83 5 (LC w.heap.size CC {}):=hR.of_block (hb.block _ (by omega))
 have no: ∀ k,CC.ownBlock≠some k:=fun k e=>by simp[Value.ownBlock] at e
 refine ⟨⟨XP.setOther (by show w.heap.size≠w.heap.size+1;omega) _,Nat.le_refl _,World.ownsRow_nil _ _ _ _,World.ownsRow_nil _ _ _ _,World.ownsRow_nil _ _ _ _,no _,no _,no _,.inl rfl,.inl rfl,.inl rfl⟩,
  (hR1.set 1 _).congr (fun i hi=>?_),SS (je hown) (by omega) _,by simpa using hg.2,by omega,no _,no _,no _,by omega,by omega,no _,no _,no _⟩
 match i,hi with
 |0,_=>rfl
 |1,_=>rfl
 |2,_=>rfl
 |3,_=>rfl
 |4,_=>rfl
 |n+5,h=>omega
theorem Yu {s:ByteArray} (hs:s.size≤600) {L:List ByteArray} (h:L.map ByteArray.toList=Lk.cut 10 s.toList):L.length≤1000∧0<L.length∧ ∀ i,i<L.length→(L.getD i ByteArray.empty).size≤1000000:=by
 have h1:=ZR 10 s.toList
 have hl:L.length=(Lk.cut 10 s.toList).length:=by rw[←h];simp
 have hz:s.toList.length=s.size:=Bx s
 refine ⟨by have:=h1.1;omega,ZP h,fun i hi=>?_⟩
 have hm:(L.getD i ByteArray.empty).toList∈Lk.cut 10 s.toList:=by
  rw[←h]
  have e:L.getD i ByteArray.empty=L[i]:=by simp[List.getD,hi]
  rw[e]
  exact List.mem_map.2 ⟨L[i],List.getElem_mem hi,rfl⟩
 have h2:=h1.2 _ hm
 rw[Bx] at h2
 omega
theorem ZT {s:ByteArray} {L:List ByteArray} (h:L.map ByteArray.toList=Lk.cut 10 s.toList):(L.getD (L.length - 1) ByteArray.empty).toList=(Lk.cut 10 s.toList).getD ((Lk.cut 10 s.toList).length - 1) []:=by
 rw[←QL,h]
 have hl:L.length=(Lk.cut 10 s.toList).length:=by rw[←h];simp
 rw[hl]
theorem Zn {s:ByteArray} {L:List ByteArray} (h:L.map ByteArray.toList=Lk.cut 10 s.toList) {o:Bool×Rf.Rs} (ho:Rf.Ab (Lk.cut 10 s.toList) (Lk.cut 10 s.toList).length 0 {}=o):Rf.Ab (L.map ByteArray.toList) L.length 0 {}=o∧o.2.at_<L.length:=by
 have hl:L.length=(Lk.cut 10 s.toList).length:=by rw[←h];simp
 rw[h,hl]
 refine ⟨ho,?_⟩
 rw[←ho]
 have hne:0<(Lk.cut 10 s.toList).length:=by rw[←hl];exact ZP h
 exact (Rf.JL (Lk.cut 10 s.toList) (Lk.cut 10 s.toList).length 0 {} hne (Nat.zero_le _) (Nat.le_add_left _ _)).lt
theorem qd (s:ByteArray) (hs:s.size≤600) (w:World) (os:Rf.Rs) (ho:Rf.Ab (Lk.cut 10 s.toList) (Lk.cut 10 s.toList).length 0 {}=(false,os)):
  Calls Tryz.prog 14 #[.string s] w fun e w'=>e=.returned (.tuple #[.pointer none,.int .i64 ((os.at_:Int)+1)])∧Below w.heap.size w w':=by
 have MX:(s.size:Int)≤600:=by omega
 have HO:=hid ho
 clear ho
 go_enter Tryz.func14,Tryz.ntmps14
 go_wp2_with (first
  |(go_at_call 25;refine (Vy s 10 _ (by omega)).mono ?_;rintro e w1 ⟨g,cap,L,rfl,Ge,hown1,hb1⟩;have EG:=hid (YE hb1 hown1);have Ug:=hid Ge;have AL:=hid hb1;have D2:=hid (Yu hs Ge);have J8:=hid (Zn Ge HO.out);have Xg:=hid (ZT Ge);have q1:=(Lp hb1).cell (i:=1) (by omega);rw[show LC w.heap.size CC {} 1=.slice none 0 0 from rfl] at q1;have q2:=(Lp hb1).frozen 1;have DL:(L.length:Int)≤1000:=(by have:=D2.out.1;omega);have cj:(1:Int)≤(L.length:Int):=(by have:=D2.out.2.1;omega);have LQ:=(Lp hb1).lt;clear Ge hown1 hb1)
  |(go_at_call 32;have hh:=S9 L g cap 0 (by omega) (fun _=>Vl L g cap D2.out.2.2 3 1 rfl) D2.out.1 D2.out.2.2 L.length _ w.heap.size w.heap.size (w.heap.size+1) [] {} _ _ _ _ EG.out rfl (Nat.le_add_left _ _) D2.out.2.1 (Nat.zero_le _) (.inr (by simpa using D2.out.1)) (Nat.le_succ _);rw[J8.out.1] at hh;refine hh.mono ?_;rintro e w2 ⟨ad,n2,c2,l2,vn,vk,vz,rfl,hF2,Qq,hb2, -,La⟩;have AE:=hid hF2;have AP:=hid hb2;have r2:=AE.out.row.cell (i:=2) (by omega);have r1:=AE.out.row.cell (i:=1) (by omega);have r0:=AE.out.row.cell (i:=0) (by omega);rw[show AQ w.heap.size g cap L.length os 2=.int .i64 os.at_ from rfl] at r2;rw[show AQ w.heap.size g cap L.length os 1=.slice (some ⟨g,0,none⟩) L.length cap from rfl] at r1;rw[show AQ w.heap.size g cap L.length os 0=.pointer (some ⟨w.heap.size,0,none⟩) from rfl] at r0;have Dq:=AE.out.row.lt;have Gt:(os.at_:Int)<(L.length:Int):=(by have:=J8.out.2;omega);clear hF2 Qq hb2 hh))
 go_quiet (fail)
 go_wp2_with fail
 go_ret2
 exact ⟨rfl,below_drewN ((((((Below.refl w.heap.size w).alloc (Nat.le_refl _) GU).alloc (by simp) (Iq w)).trans (AL.out.mono (by simp;omega))).setCell (p:=⟨w.heap.size+1,1,none⟩) (Nat.le_succ _) _).trans AP.out) _⟩
theorem tO (s:ByteArray) (hs:s.size≤600) (w:World) (os:Rf.Rs) (ho:Rf.Ab (Lk.cut 10 s.toList) (Lk.cut 10 s.toList).length 0 {}=(true,os)) (n:Nat) (hn:(Lk.cut 10 s.toList).length=n) (he:((Lk.cut 10 s.toList).getD ((Lk.cut 10 s.toList).length - 1) []).isEmpty=false):
  Calls Tryz.prog 14 #[.string s] w fun e w'=>e=.returned (.tuple #[.pointer none,.int .i64 n])∧Below w.heap.size w w':=by
 have MX:(s.size:Int)≤600:=by omega
 have HO:=hid ho
 clear ho
 have HE:=hid he
 have HN:=hid hn
 clear he hn
 go_enter Tryz.func14,Tryz.ntmps14
 go_wp2_with (first
  |(go_at_call 25;refine (Vy s 10 _ (by omega)).mono ?_;rintro e w1 ⟨g,cap,L,rfl,Ge,hown1,hb1⟩;have EG:=hid (YE hb1 hown1);have Ug:=hid Ge;have AL:=hid hb1;have D2:=hid (Yu hs Ge);have J8:=hid (Zn Ge HO.out);have Xg:=hid (ZT Ge);have q1:=(Lp hb1).cell (i:=1) (by omega);rw[show LC w.heap.size CC {} 1=.slice none 0 0 from rfl] at q1;have q2:=(Lp hb1).frozen 1;have DL:(L.length:Int)≤1000:=(by have:=D2.out.1;omega);have cj:(1:Int)≤(L.length:Int):=(by have:=D2.out.2.1;omega);have LQ:=(Lp hb1).lt;clear Ge hown1 hb1)
  |(go_at_call 32;have hh:=S9 L g cap 0 (by omega) (fun _=>Vl L g cap D2.out.2.2 3 1 rfl) D2.out.1 D2.out.2.2 L.length _ w.heap.size w.heap.size (w.heap.size+1) [] {} _ _ _ _ EG.out rfl (Nat.le_add_left _ _) D2.out.2.1 (Nat.zero_le _) (.inr (by simpa using D2.out.1)) (Nat.le_succ _);rw[J8.out.1] at hh;refine hh.mono ?_;rintro e w2 ⟨ad,n2,c2,l2,vn,vk,vz,rfl,hF2,Qq,hb2, -,La⟩;have AE:=hid hF2;have AP:=hid hb2;have r2:=AE.out.row.cell (i:=2) (by omega);have r1:=AE.out.row.cell (i:=1) (by omega);have r0:=AE.out.row.cell (i:=0) (by omega);rw[show AQ w.heap.size g cap L.length os 2=.int .i64 os.at_ from rfl] at r2;rw[show AQ w.heap.size g cap L.length os 1=.slice (some ⟨g,0,none⟩) L.length cap from rfl] at r1;rw[show AQ w.heap.size g cap L.length os 0=.pointer (some ⟨w.heap.size,0,none⟩) from rfl] at r0;have Dq:=AE.out.row.lt;have Gt:(os.at_:Int)<(L.length:Int):=(by have:=J8.out.2;omega);obtain ⟨m,hm⟩: ∃ m,L.length - 1=m:=⟨_,rfl⟩;have Gs:(L.length:Int) - 1=(m:Int):=(by have:=D2.out.2.1;omega);have hm0:(0:Int)≤(m:Int):=(by omega);have hmJ:(m:Int)<(L.length:Int):=(by omega);have CI:=AE.out.Gx m (by have:=D2.out.2.1;omega);obtain ⟨q,hq⟩: ∃ q,L.getD m ByteArray.empty=q:=⟨_,rfl⟩;rw[hq] at CI;have Xh:q.toList.isEmpty=false:=(by rw[←hq, ←hm,Xg.out];exact HE.out);have p3:=AE.out.prog.row.cell (i:=3) (by omega);have k3:=AE.out.prog.row.frozen 3;clear hq hm;clear hF2 Qq hb2 hh))
 go_ret2
 refine ⟨?_,(((((Below.refl w.heap.size w).alloc (Nat.le_refl _) GU).alloc (by simp) (Iq w)).trans (AL.out.mono (by simp;omega))).setCell (p:=⟨w.heap.size+1,1,none⟩) (Nat.le_succ _) _).trans AP.out⟩
 have hx:n=L.length:=by rw[←HN.out, ←Ug.out];simp
 subst hx
 rfl
theorem Ae.aaN {w:World} {base P:Nat} {l:List DB} {vn vk vz vb:Value} (h:Ae w base P l vn vk vz vb) (u:Value):Ae (w.setCell ⟨P,3,none⟩ u) base P l vn vk vz u:=
 ⟨(h.row.set 3 u).congr (fun i hi=>by
    match i,hi with
    |0,_=>rfl
    |1,_=>rfl
    |2,_=>rfl
    |3,_=>rfl
    |n+4,h=>omega),h.ge,BC h.nm h.np u,BC h.kd h.kp u,BC h.sz h.zp u,h.np,h.kp,h.zp,h.nk,h.nz,h.kz⟩
def QZ (w w':World) (ds:List Rf.Dc) (ts:List Rf.Tr):Prop:=
 ∃ l vn vk vz vb,ds=A7 l∧Ae w' w.heap.size w.heap.size l vn vk vz vb∧Sub w' (DV w w') vb ts
theorem fw (s:ByteArray) (hs:s.size≤600) (w:World) (os:Rf.Rs) (ho:Rf.Ab (Lk.cut 10 s.toList) (Lk.cut 10 s.toList).length 0 {}=(true,os)) (he:((Lk.cut 10 s.toList).getD ((Lk.cut 10 s.toList).length - 1) []).isEmpty=true):
  Calls Tryz.prog 14 #[.string s] w fun e w'=>e=.returned (.tuple #[.pointer (some ⟨w.heap.size,0,none⟩),.int .i64 0])∧Below w.heap.size w w'∧QZ w w' os.ds (Rf.blk (Lk.cut 10 s.toList) (Lk.cut 10 s.toList).length 0 {} []).2.1:=by
 have MX:(s.size:Int)≤600:=by omega
 have HO:=hid ho
 clear ho
 have HE:=hid he
 clear he
 go_enter Tryz.func14,Tryz.ntmps14
 go_wp2_with (first
  |(go_at_call 25;refine (Vy s 10 _ (by omega)).mono ?_;rintro e w1 ⟨g,cap,L,rfl,Ge,hown1,hb1⟩;have EG:=hid (YE hb1 hown1);have Ug:=hid Ge;have AL:=hid hb1;have D2:=hid (Yu hs Ge);have J8:=hid (Zn Ge HO.out);have Xg:=hid (ZT Ge);have q1:=(Lp hb1).cell (i:=1) (by omega);rw[show LC w.heap.size CC {} 1=.slice none 0 0 from rfl] at q1;have q2:=(Lp hb1).frozen 1;have DL:(L.length:Int)≤1000:=(by have:=D2.out.1;omega);have cj:(1:Int)≤(L.length:Int):=(by have:=D2.out.2.1;omega);have LQ:=(Lp hb1).lt;clear Ge hown1 hb1)
  |(go_at_call 32;have hh:=S9 L g cap 0 (by omega) (fun _=>Vl L g cap D2.out.2.2 3 1 rfl) D2.out.1 D2.out.2.2 L.length _ w.heap.size w.heap.size (w.heap.size+1) [] {} _ _ _ _ EG.out rfl (Nat.le_add_left _ _) D2.out.2.1 (Nat.zero_le _) (.inr (by simpa using D2.out.1)) (Nat.le_succ _);rw[J8.out.1] at hh;refine hh.mono ?_;rintro e w2 ⟨ad,n2,c2,l2,vn,vk,vz,rfl,hF2,Qq,hb2, -,La⟩;have AE:=hid hF2;have AP:=hid hb2;have r2:=AE.out.row.cell (i:=2) (by omega);have r1:=AE.out.row.cell (i:=1) (by omega);have r0:=AE.out.row.cell (i:=0) (by omega);rw[show AQ w.heap.size g cap L.length os 2=.int .i64 os.at_ from rfl] at r2;rw[show AQ w.heap.size g cap L.length os 1=.slice (some ⟨g,0,none⟩) L.length cap from rfl] at r1;rw[show AQ w.heap.size g cap L.length os 0=.pointer (some ⟨w.heap.size,0,none⟩) from rfl] at r0;have Dq:=AE.out.row.lt;have Gt:(os.at_:Int)<(L.length:Int):=(by have:=J8.out.2;omega);obtain ⟨m,hm⟩: ∃ m,L.length - 1=m:=⟨_,rfl⟩;have Gs:(L.length:Int) - 1=(m:Int):=(by have:=D2.out.2.1;omega);have hm0:(0:Int)≤(m:Int):=(by omega);have hmJ:(m:Int)<(L.length:Int):=(by omega);have CI:=AE.out.Gx m (by have:=D2.out.2.1;omega);obtain ⟨q,hq⟩: ∃ q,L.getD m ByteArray.empty=q:=⟨_,rfl⟩;rw[hq] at CI;have Xh:q.toList.isEmpty=true:=(by rw[←hq, ←hm,Xg.out];exact HE.out);have p3:=AE.out.prog.row.cell (i:=3) (by omega);have k3:=AE.out.prog.row.frozen 3;have PA:=hid (La rfl);have Pp:=hid Qq;clear La;clear hq hm;clear hF2 Qq hb2 hh))
 go_ret2
 refine ⟨rfl,((((((Below.refl w.heap.size w).alloc (Nat.le_refl _) GU).alloc (by simp) (Iq w)).trans (AL.out.mono (by simp;omega))).setCell (p:=⟨w.heap.size+1,1,none⟩) (Nat.le_succ _) _).trans AP.out).setCell (p:=⟨w.heap.size,3,none⟩) (Nat.le_refl _) _,?_⟩
 have CN:L.length=(Lk.cut 10 s.toList).length:=by rw[←Ug.out];simp
 have hsub:=PA.out
 rw[Ug.out,CN] at hsub
 have hz:=AL.out.size
 simp at hz
 exact ⟨l2,vn,vk,vz,.slice ad n2 c2,Pp.out,AE.out.prog.aaN _,(hsub.set (k:=w.heap.size) (by simp;omega) _).low (by simp;omega)⟩
def ac4 (w w':World) (e:Ending) (o:Bool×Nat):Prop:=
 Below w.heap.size w w'∧(o.1=false→0<o.2∧e=.returned (.tuple #[.pointer none,.int .i64 o.2]))∧(o.1=true→e=.returned (.tuple #[.pointer (some ⟨w.heap.size,0,none⟩),.int .i64 0]))
theorem pG (s:ByteArray) (hs:s.size≤600) (w:World):Calls Tryz.prog 14 #[.string s] w fun e w'=>ac4 w w' e (Rf.Fz s.toList):=by
 obtain ⟨⟨ob,os⟩,ho⟩: ∃ o,Rf.Ab (Lk.cut 10 s.toList) (Lk.cut 10 s.toList).length 0 {}=o:=⟨_,rfl⟩
 cases ob with
 |false=>
  have hr:Rf.Fz s.toList=(false,os.at_+1):=by unfold Rf.Fz;rw[ho]
  rw[hr]
  refine (qd s hs w os ho).mono ?_
  intro e w' hh
  exact ⟨hh.2,fun _=>⟨Nat.succ_pos _,hh.1⟩,fun h=>by cases h⟩
 |true=>
  cases he:((Lk.cut 10 s.toList).getD ((Lk.cut 10 s.toList).length - 1) []).isEmpty with
  |true=>
   have hr:Rf.Fz s.toList=(true,0):=by unfold Rf.Fz;rw[ho];dsimp only;rw[if_pos (List.isEmpty_iff.1 he)]
   rw[hr]
   refine (fw s hs w os ho he).mono ?_
   intro e w' hh
   exact ⟨hh.2.1,(fun h=>by cases h),fun _=>hh.1⟩
  |false=>
   have hr:Rf.Fz s.toList=(false,(Lk.cut 10 s.toList).length):=by unfold Rf.Fz;rw[ho];dsimp only;rw[if_neg (fun h=>by rw[h] at he;cases he)]
   rw[hr]
   refine (tO s hs w os ho _ rfl he).mono ?_
   intro e w' hh
   have hne:0<(Lk.cut 10 s.toList).length:=by
    have:=Lk.Ip 10 s.toList
    cases hc:Lk.cut 10 s.toList with
    |nil=>exact absurd hc this
    |cons x xs=>simp
   exact ⟨hh.2,fun _=>⟨hne,hh.1⟩,fun h=>by cases h⟩
theorem xX {t:Lk.Wd} (h:(Rf.Fz t).1=true): ∃ os,Rf.Ab (Lk.cut 10 t) (Lk.cut 10 t).length 0 {}=(true,os)∧(((Lk.cut 10 t).getD ((Lk.cut 10 t).length - 1) []).isEmpty=true)∧Rf.read t=(some (os.ds,(Rf.blk (Lk.cut 10 t) (Lk.cut 10 t).length 0 {} []).2.1),0):=by
 have sh:=Rf.Rv (Lk.cut 10 t) (Lk.cut 10 t).length 0 {} []
 unfold Rf.Fz at h
 unfold Rf.read
 dsimp only
 generalize Rf.Ab (Lk.cut 10 t) (Lk.cut 10 t).length 0 {}=o at h sh ⊢
 generalize Rf.blk (Lk.cut 10 t) (Lk.cut 10 t).length 0 {} []=o2 at h sh ⊢
 obtain ⟨b,os⟩:=o
 obtain ⟨b2,ts,s2⟩:=o2
 obtain ⟨e1,e2⟩:=sh
 dsimp only at e1 e2
 subst e1 e2
 cases b2 with
 |false=>cases h
 |true=>
  dsimp only at h ⊢
  by_cases c:(Lk.cut 10 t).getD ((Lk.cut 10 t).length - 1) []=[]
  ·rw[if_pos c];exact ⟨_,rfl,by rw[c];rfl,rfl⟩
  ·rw[if_neg c] at h;cases h
theorem qg (k n c:Int) (w:World) (h:wi k 10=false∨wi n 1048576=false∨wi c 1048576=false):
  Calls Tryz.prog 13 #[.int .i64 k,.agg #[.int .i64 n,.int .i64 c]] w fun e w'=>e=.returned (.bool false)∧Below w.heap.size w w':=by
 have H:=hid h
 clear h
 by_cases h1:k<0
 ·go_enter Tryz.func13,Tryz.ntmps13
  go_wp2
  go_ret
  exact ⟨rfl,(Below.refl _ _).alloc (Nat.le_refl _) _⟩
 ·by_cases h2:10<k
  ·go_enter Tryz.func13,Tryz.ntmps13
   go_wp2
   go_ret
   exact ⟨rfl,(Below.refl _ _).alloc (Nat.le_refl _) _⟩
  ·by_cases h3:0≤n
   ·by_cases h4:n≤1048576
    ·by_cases h5:0≤c
     ·have h6: ¬c≤1048576:=by
       intro h6
       rcases H.out with h|h|h
       ·exact Yc h ⟨by omega,by omega⟩
       ·exact Yc h ⟨h3,h4⟩
       ·exact Yc h ⟨h5,h6⟩
      go_enter Tryz.func13,Tryz.ntmps13
      go_wp2
      go_ret
      exact ⟨rfl,(Below.refl _ _).alloc (Nat.le_refl _) _⟩
     ·go_enter Tryz.func13,Tryz.ntmps13
      go_wp2
      go_ret
      exact ⟨rfl,(Below.refl _ _).alloc (Nat.le_refl _) _⟩
    ·go_enter Tryz.func13,Tryz.ntmps13
     go_wp2
     go_ret
     exact ⟨rfl,(Below.refl _ _).alloc (Nat.le_refl _) _⟩
   ·go_enter Tryz.func13,Tryz.ntmps13
    go_wp2
    go_ret
    exact ⟨rfl,(Below.refl _ _).alloc (Nat.le_refl _) _⟩
theorem Y4 (k n c:Int) (w:World) (h1:wi k 10=true) (h2:wi n 1048576=true) (h3:wi c 1048576=true):
  Calls Tryz.prog 13 #[.int .i64 k,.agg #[.int .i64 n,.int .i64 c]] w fun e w'=>e=.returned (.bool true)∧Below w.heap.size w w':=by
 obtain ⟨a1,a2⟩:=Vt h1
 obtain ⟨b1,b2⟩:=Vt h2
 obtain ⟨c1,c2⟩:=Vt h3
 clear h1 h2 h3
 have a3: ¬k<0:=by omega
 have a4: ¬10<k:=by omega
 go_enter Tryz.func13,Tryz.ntmps13
 go_wp2
 go_ret
 exact ⟨rfl,(Below.refl _ _).alloc (Nat.le_refl _) _⟩
end Go.Proofs.YtgddmpmcnjlcjaaGreatDoor
