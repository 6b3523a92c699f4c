import Derived.Test.YtgddmpmcnjlcjaaGreatDoorB33
import Derived.Test.YtgddmpmcnjlcjaaGreatDoorB10
import Derived.Deep.RegionLaw
import Derived.Deep.DeepCutAuto
set_option maxRecDepth 100000
set_option maxHeartbeats 1000000
namespace Go.Proofs.YtgddmpmcnjlcjaaGreatDoor
open Go.RowKit
set_option linter.unusedVariables false
def Nw (w:World) (v v':Value):Prop:= ∀ k,v'.ownBlock=some k→v.ownBlock=some k∨w.heap.size≤k
theorem MB {w X:World} {v:Value} {g1 n p1:Nat} (hat:v.ownBlock=some g1∨g1=X.heap.size+1) (hs:w.heap.size≤X.heap.size):Nw w v (.slice (some ⟨g1,0,none⟩) n p1):=by
 intro k hk
 have hk:g1=k:=by simpa[Value.ownBlock] using hk
 subst hk
 rcases hat with h|h
 ·exact .inl h
 ·exact .inr (by omega)
theorem Bu.congr {w:World} {base P:Nat} {f f':Nat→Value} {ns ks:List ByteArray} {zs:List Nat} {vn vk vz:Value} (h:Bu w base P f ns ks zs vn vk vz) (e: ∀ i,i<4→f i=f' i):Bu w base P f' ns ks zs vn vk vz:=
 ⟨h.row.congr e,h.ge,h.nm,h.kd,h.sz,h.np,h.kp,h.zp,h.nk,h.nz,h.kz⟩
section
variable {w X x1:World} {base P g1 p1 n:Nat} {f:Nat→Value} {ns ks:List ByteArray} {zs:List Nat} {vn vk vz:Value} {o:Obj} {S:Nat→Prop}
theorem Yl {q:ByteArray} (hF:Bu X base P f ns ks zs vn vk vz) (hB:A9 base S w X) (UX:S P) (UY: ∀ k,vn.ownBlock=some k→S k) (hown:x1.ownsRow base 9 1 (.slice (some ⟨g1,0,none⟩) n p1) (ns.length+1) (ns.map Value.string++[.string q]))
  (hg:(X.alloc o).drew.grownBy x1 vn.ownBlock) (hat:vn.ownBlock=some g1∨g1=X.heap.size+1):
  Bu (x1.setCell ⟨P,0,none⟩ (.slice (some ⟨g1,0,none⟩) n p1)) base P (fun j=>if j=0 then .slice (some ⟨g1,0,none⟩) n p1 else f j) (ns++[q]) ks zs (.slice (some ⟨g1,0,none⟩) n p1) vk vz∧A9 base S w (x1.setCell ⟨P,0,none⟩ (.slice (some ⟨g1,0,none⟩) n p1)):=by
 have hX:=(hF.alloc o).drew
 refine ⟨(hX.Sj (ns':=ns++[q]) hg (by simpa using hown) (by simpa using hat)).put 0 _,?_⟩
 refine (A9.grown ((hB.alloc hF.AJ o).drew) hg hX.AJ ?_).setCell hF.ge UX _
 intro k hk
 exact ⟨(hF.nm.lt k hk).1,UY k hk⟩
theorem Ym {q:ByteArray} (hF:Bu X base P f ns ks zs vn vk vz) (hB:A9 base S w X) (UX:S P) (UY: ∀ k,vk.ownBlock=some k→S k) (hown:x1.ownsRow base 9 1 (.slice (some ⟨g1,0,none⟩) n p1) (ks.length+1) (ks.map Value.string++[.string q]))
  (hg:(X.alloc o).drew.grownBy x1 vk.ownBlock) (hat:vk.ownBlock=some g1∨g1=X.heap.size+1):
  Bu (x1.setCell ⟨P,1,none⟩ (.slice (some ⟨g1,0,none⟩) n p1)) base P (fun j=>if j=1 then .slice (some ⟨g1,0,none⟩) n p1 else f j) ns (ks++[q]) zs vn (.slice (some ⟨g1,0,none⟩) n p1) vz∧A9 base S w (x1.setCell ⟨P,1,none⟩ (.slice (some ⟨g1,0,none⟩) n p1)):=by
 have hX:=(hF.alloc o).drew
 refine ⟨(hX.adm (ks':=ks++[q]) hg (by simpa using hown) (by simpa using hat)).put 1 _,?_⟩
 refine (A9.grown ((hB.alloc hF.AJ o).drew) hg hX.AJ ?_).setCell hF.ge UX _
 intro k hk
 exact ⟨(hF.kd.lt k hk).1,UY k hk⟩
theorem Yn {z:Nat} (hF:Bu X base P f ns ks zs vn vk vz) (hB:A9 base S w X) (UX:S P) (UY: ∀ k,vz.ownBlock=some k→S k) (hown:x1.ownsRow base 3 1 (.slice (some ⟨g1,0,none⟩) n p1) (zs.length+1) (zs.map (fun (n:Nat)=>Value.int .i64 n)++[.int .i64 z]))
  (hg:(X.alloc o).grownBy x1 vz.ownBlock) (hat:vz.ownBlock=some g1∨g1=X.heap.size+1):
  Bu (x1.setCell ⟨P,2,none⟩ (.slice (some ⟨g1,0,none⟩) n p1)) base P (fun j=>if j=2 then .slice (some ⟨g1,0,none⟩) n p1 else f j) ns ks (zs++[z]) vn vk (.slice (some ⟨g1,0,none⟩) n p1)∧A9 base S w (x1.setCell ⟨P,2,none⟩ (.slice (some ⟨g1,0,none⟩) n p1)):=by
 have hX:=hF.alloc o
 refine ⟨(hX.adl (zs':=zs++[z]) hg (by simpa using hown) (by simpa using hat)).put 2 _,?_⟩
 refine (A9.grown (hB.alloc hF.AJ o) hg hX.AJ ?_).setCell hF.ge UX _
 intro k hk
 exact ⟨(hF.sz.lt k hk).1,UY k hk⟩
theorem Yq {w':World} {l:List DB} {q1 q0:ByteArray} {z:Nat} {v1 v2 v3 vb:Value} (h:Bu w' base P (fun j=>if j=2 then v3 else if j=1 then v2 else if j=0 then v1 else Cu vn vk vz vb j) (l.map DB.name++[q1]) (l.map DB.kind++[q0]) (l.map DB.size++[z]) v1 v2 v3):Ae w' base P (l++[⟨q1,q0,z⟩]) v1 v2 v3 vb:=by
 refine Bu.toP (l:=l++[⟨q1,q0,z⟩]) (f:=fun j=>if j=2 then v3 else if j=1 then v2 else if j=0 then v1 else Cu vn vk vz vb j) (by simpa using h) (fun i hi=>?_)
 match i,hi with
 |0,_=>rfl
 |1,_=>rfl
 |2,_=>rfl
 |3,_=>rfl
 |n+4,h=>omega
theorem Yr {a:Addr} {v:Value} {row:Option Nat} {i:Nat} {u:Value} (h:X.cell? a=some v) (hg:(X.alloc o).drew.grownBy x1 row) (hr:row≠some a.block) (hP:a.block≠P):(x1.setCell ⟨P,i,none⟩ u).cell? a=some v:=by
 have lt:=World.block_lt_of_cell? X a h
 have e1:x1.cell? a=(X.alloc o).drew.cell? a:=hg.cell_far a (by show a.block<(X.alloc o).heap.size;simp;omega) (Ne.symm hr)
 have e2:(X.alloc o).drew.cell? a=some v:=AH h o
 rw[World.cell?_of_block (Below.heap_setCell x1 ⟨P,i,none⟩ u a.block hP),e1,e2]
end
section
variable {w:World} {base P R:Nat} {l:List DB} {vn vk vz vb vl:Value} {s:Rf.Rs}
theorem xI (h:Ae w base P l vn vk vz vb) (hl:l.length≤1000) (g cap:Nat) (q0 q1:ByteArray) (hc0:w.cell? ⟨g,0,none⟩=some (.string q0)) (hc1:w.cell? ⟨g,1,none⟩=some (.string q1)) (hp:w.cell? ⟨R,0,none⟩=some (.pointer (some ⟨P,0,none⟩))) (hb:w.cell? ⟨R,4,none⟩=some (.bool false)) (KZ:vn.ownBlock≠some g) (Ba:vk.ownBlock≠some g) (Mg:g≠P) (BS:Lk.isName q1.toList=true) (ha:(q0.toList==[97,114,114,97,121])=false) (hv:(q0.toList==[118,97,114])=true) (hk:(Rf.kindOf (A7 l) q1.toList).isEmpty=true) (hok:Rf.many (A7 l) Rf.wVar<4):
  Calls Tryz.prog 60 #[.pointer (some ⟨R,0,none⟩),.slice (some ⟨g,0,none⟩) 2 cap] w fun e w'=>e=.returned (.bool true)∧(∃ DZ D_ Da,Ae w' base P (l++[⟨q1,q0,0⟩]) DZ D_ Da vb∧Nw w vn DZ∧Nw w vk D_∧Nw w vz Da)∧A9 base (fun k=>k=P∨vn.ownBlock=some k∨vk.ownBlock=some k∨vz.ownBlock=some k) w w':=by
 have hq:q1.size=1:=by
  by_cases h:q1.size=1
  ·exact h
  ·rw[Io h] at BS;cases BS
 have Fg:(q1.size:Int)=1:=by omega
 obtain ⟨EC,J7⟩:=N6 hq BS
 obtain ⟨an,cn,MZ⟩:=AX h.nm
 obtain ⟨ak,ck,hvk⟩:=AX h.kd
 obtain ⟨az,cz,UZ⟩:=AX h.sz
 subst MZ hvk UZ
 have HP:=hid h
 clear h hq BS
 have HK:=hid hk
 clear hk
 obtain ⟨ms,Cy⟩: ∃ m,Rf.many (A7 l) Rf.wSecret=m:=⟨_,rfl⟩
 obtain ⟨mp,hmp⟩: ∃ m,Rf.many (A7 l) Rf.wPublic=m:=⟨_,rfl⟩
 obtain ⟨mv,F8⟩: ∃ m,Rf.many (A7 l) Rf.wVar=m:=⟨_,rfl⟩
 obtain ⟨ma,F9⟩: ∃ m,Rf.many (A7 l) Rf.wArray=m:=⟨_,rfl⟩
 have l1:=JO l Rf.wSecret
 have l2:=JO l Rf.wPublic
 rw[Cy] at l1
 rw[hmp] at l2
 rw[F8] at hok
 have Fl:=hid Cy
 have Ea:=hid hmp
 have Fp:=hid F8
 have Fq:=hid F9
 have UT:(ms:Int)≤1000:=by omega
 have UU:(mp:Int)≤1000:=by omega
 clear Cy hmp F8 F9 l1 l2
 have h4:(mv:Int)<4:=by omega
 clear hok
 obtain ⟨t0,ht0,hz0,hz1,hz2⟩:=info_parts Tryz.SL
 go_enter Tryz.func60,Tryz.ntmps60
 go_wp2_with (first
  |(go_at_call 94;refine (HP.out.II q1 hl).mono ?_;rintro e w0 ⟨kq,rfl,BN,hw0⟩;have hw1:=hw0.symm;subst hw1;have BH:kq.toList.isEmpty=true:=(by rw[BN];exact HK.out);have Ih:=hid BN;clear BN)
  |(go_at_call_of 95 (Value.string { data:= #[115,101,99,114,101,116] });refine (HP.out.CF _ hl ms Rf.wSecret Lt Fl.out).mono ?_;rintro e w0 ⟨rfl,hw0⟩;have hw1:=hw0.symm;subst hw1)
  |(go_at_call_of 95 (Value.string { data:= #[112,117,98,108,105,99] });refine (HP.out.CF _ hl mp Rf.wPublic Lu Ea.out).mono ?_;rintro e w0 ⟨rfl,hw0⟩;have hw1:=hw0.symm;subst hw1)
  |(go_at_call_of 95 (Value.string { data:= #[118,97,114] });refine (HP.out.CF _ hl mv Rf.wVar Lz Fp.out).mono ?_;rintro e w0 ⟨rfl,hw0⟩;have hw1:=hw0.symm;subst hw1)
  |(go_at_call_of 95 (Value.string { data:= #[97,114,114,97,121] });refine (HP.out.CF _ hl ma Rf.wArray M0 Fq.out).mono ?_;rintro e w0 ⟨rfl,hw0⟩;have hw1:=hw0.symm;subst hw1))
 have F:=hid HP.out.toF
 have FB:Hid (A9 base (fun k=>k=P∨Value.ownBlock (.slice an l.length cn)=some k∨Value.ownBlock (.slice ak l.length ck)=some k∨Value.ownBlock (.slice az l.length cz)=some k) w w):=A9.refl _ _ _
 have n0:=F.out.row.cell (i:=0) (by omega)
 rw[show Cu (.slice an l.length cn) (.slice ak l.length ck) (.slice az l.length cz) vb 0=(.slice an l.length cn) from rfl] at n0
 have Nu:=F.out.lt
 have e0:w.cell? ⟨g,0,none⟩=some (.string q0):=hc0
 have e1:w.cell? ⟨g,1,none⟩=some (.string q1):=hc1
 have C8:=F.out.nm
 simp only[List.length_map] at C8
 have Bq:=hid C8
 clear C8
 go_cut [] (fun wc=> ∃ v1,Bu wc base P (fun j=>if j=0 then v1 else Cu (.slice an l.length cn) (.slice ak l.length ck) (.slice az l.length cz) vb j) (l.map DB.name++[q1]) (l.map DB.kind) (l.map DB.size) v1 (.slice ak l.length ck) (.slice az l.length cz)∧A9 base (fun k=>k=P∨Value.ownBlock (.slice an l.length cn)=some k∨Value.ownBlock (.slice ak l.length ck)=some k∨Value.ownBlock (.slice az l.length cz)=some k) w wc∧Nw w (.slice an l.length cn) v1∧wc.cell? ⟨g,0,none⟩=some (.string q0))
 case first=>
  go_region_law
   ((refine step_append_lies _ (by rfl) _ _ _ (by rfl) base 9 t0 _ 1 16 Tryz.underlying69 ht0 hz0 hz1 hz2 rfl (by omega) _ l.length ((l.map DB.name).map Value.string) (by rfl) ((World.ownsRow.alloc Bq.out _).drew) ⟨w.heap.size,0,none⟩ 1 1 [.string q1] (by rfl) (by rfl) (World.news_of_block (cs:= #[.string q1]) (t:=9) (fr:=(0,0)) (heap_alloc_new w _)) (by simp[Value.oneCell']) (by omega) (by unfold maxLen;omega) (by omega) (by have:=F.out.AJ;simp;omega) (w.heap.size+1) (by simp) ?_;intro g1 p1 x1 hown1 hgrow1 CT Bk;have f1:=(Ad ((F.out.row.alloc _).drew) hgrow1 F.out.np).frozen 0;have d1:=(Ad ((F.out.row.alloc _).drew) hgrow1 F.out.np).cell (i:=0) (by omega)))
  all_goals
   go_wp2_with fail
   go_meet
   have C:=Yl F.out FB.out (.inl rfl) (fun k hk=>.inr (.inl hk)) (by simpa using hown1) hgrow1 CT
   exact ⟨_,C.1,C.2,MB CT FB.out.A8.size,Yr e0 hgrow1 KZ Mg⟩
 case rest=>
  obtain ⟨v1,F1,B1,W1,w0⟩:=hcut
  have Db:=hid W1
  clear W1
  clear n0 e0 e1 Bq FB F
  have F:=hid F1
  have FB:=hid B1
  have Nu:=F1.lt
  have n0:=F1.row.cell (i:=1) (by omega)
  rw[if_neg (by omega),show Cu (.slice an l.length cn) (.slice ak l.length ck) (.slice az l.length cz) vb 1=(.slice ak l.length ck) from rfl] at n0
  have C8:=F1.kd
  simp only[List.length_map] at C8
  have Bq:=hid C8
  clear C8 F1 B1
  go_wp2_with fail
  go_cut [] (fun wd=> ∃ v1 v2,Bu wd base P (fun j=>if j=1 then v2 else if j=0 then v1 else Cu (.slice an l.length cn) (.slice ak l.length ck) (.slice az l.length cz) vb j) (l.map DB.name++[q1]) (l.map DB.kind++[q0]) (l.map DB.size) v1 v2 (.slice az l.length cz)∧A9 base (fun k=>k=P∨Value.ownBlock (.slice an l.length cn)=some k∨Value.ownBlock (.slice ak l.length ck)=some k∨Value.ownBlock (.slice az l.length cz)=some k) w wd∧Nw w (.slice an l.length cn) v1∧Nw w (.slice ak l.length ck) v2)
  case first=>
   go_region_law
    ((refine step_append_lies _ (by rfl) _ _ _ (by rfl) base 9 t0 _ 1 16 Tryz.underlying69 ht0 hz0 hz1 hz2 rfl (by omega) _ l.length ((l.map DB.kind).map Value.string) (by rfl) ((World.ownsRow.alloc Bq.out _).drew) ⟨wc.heap.size,0,none⟩ 1 1 [.string q0] (by rfl) (by rfl) (World.news_of_block (cs:= #[.string q0]) (t:=9) (fr:=(0,0)) (heap_alloc_new wc _)) (by simp[Value.oneCell']) (by omega) (by unfold maxLen;omega) (by omega) (by have:=F.out.AJ;simp;omega) (wc.heap.size+1) (by simp) ?_;intro g1 p1 x1 hown1 hgrow1 CT Bk;have f1:=(Ad ((F.out.row.alloc _).drew) hgrow1 F.out.kp).frozen 1;have d1:=(Ad ((F.out.row.alloc _).drew) hgrow1 F.out.kp).cell (i:=1) (by omega)))
   all_goals
    go_wp2_with fail
    go_meet
    have C:=Ym F.out FB.out (.inl rfl) (fun k hk=>.inr (.inr (.inl hk))) (by simpa using hown1) hgrow1 CT
    exact ⟨_,_,C.1,C.2,Db.out,MB CT FB.out.A8.size⟩
  case rest=>
   obtain ⟨v1,v2,F1,B1,W1,W2⟩:=hcut
   have Db:=hid W1
   have CO:=hid W2
   clear W1 W2
   clear n0 Bq FB F w0
   have F:=hid F1
   have FB:=hid B1
   have Nu:=F1.lt
   have n0:=F1.row.cell (i:=2) (by omega)
   rw[if_neg (by omega),if_neg (by omega),show Cu (.slice an l.length cn) (.slice ak l.length ck) (.slice az l.length cz) vb 2=(.slice az l.length cz) from rfl] at n0
   have C8:=F1.sz
   simp only[List.length_map] at C8
   have Bq:=hid C8
   clear C8 F1 B1
   obtain ⟨i0,hi0,Ua,Uc,Ud⟩:=info_parts Tryz.Ds
   go_wp2_with (first|(at_builtin;refine wpList_append_lies _ rfl _ _ 24 rfl base 3 i0 _ 1 8 Tryz.underlying24 hi0 Ua Uc Ud rfl (by omega) _ l.length ((l.map DB.size).map fun (n:Nat)=>Value.int .i64 n) rfl (World.ownsRow.alloc Bq.out _) ⟨wc.heap.size,0,none⟩ 1 1 [.int .i64 0] rfl rfl (cell_one_new _ _ _) (by simp[Value.oneCell']) (by omega) (by unfold maxLen;omega) (by omega) (by have:=F.out.AJ;simp;omega) (wc.heap.size+1) (by simp) ?_;intro g1 p1 x1 hown1 hgrow1 CT Bk;have f1:=(Ad (F.out.row.alloc _) hgrow1 F.out.zp).frozen 2;have d1:=(Ad (F.out.row.alloc _) hgrow1 F.out.zp).cell (i:=2) (by omega)))
   go_ret
   have C:=Yn (z:=0) F.out FB.out (.inl rfl) (fun k hk=>.inr (.inr (.inr hk))) (by simpa using hown1) hgrow1 CT
   exact ⟨rfl,⟨_,_,_,Yq C.1,Db.out,CO.out,MB CT FB.out.A8.size⟩,C.2⟩
theorem aaF (h:Ae w base P l vn vk vz vb) (hl:l.length≤1000) (g cap:Nat) (q0 q1:ByteArray) (hc0:w.cell? ⟨g,0,none⟩=some (.string q0)) (hc1:w.cell? ⟨g,1,none⟩=some (.string q1)) (hp:w.cell? ⟨R,0,none⟩=some (.pointer (some ⟨P,0,none⟩))) (hb:w.cell? ⟨R,4,none⟩=some (.bool false)) (KZ:vn.ownBlock≠some g) (Ba:vk.ownBlock≠some g) (Mg:g≠P) (BS:Lk.isName q1.toList=true) (ha:(q0.toList==[97,114,114,97,121])=false) (hv:(q0.toList==[118,97,114])=false) (hk:(Rf.kindOf (A7 l) q1.toList).isEmpty=true) (hok:Rf.many (A7 l) Rf.wVar=0∧Rf.many (A7 l) Rf.wSecret+Rf.many (A7 l) Rf.wPublic<3):
  Calls Tryz.prog 60 #[.pointer (some ⟨R,0,none⟩),.slice (some ⟨g,0,none⟩) 2 cap] w fun e w'=>e=.returned (.bool true)∧(∃ DZ D_ Da,Ae w' base P (l++[⟨q1,q0,0⟩]) DZ D_ Da vb∧Nw w vn DZ∧Nw w vk D_∧Nw w vz Da)∧A9 base (fun k=>k=P∨vn.ownBlock=some k∨vk.ownBlock=some k∨vz.ownBlock=some k) w w':=by
 have hq:q1.size=1:=by
  by_cases h:q1.size=1
  ·exact h
  ·rw[Io h] at BS;cases BS
 have Fg:(q1.size:Int)=1:=by omega
 obtain ⟨EC,J7⟩:=N6 hq BS
 obtain ⟨an,cn,MZ⟩:=AX h.nm
 obtain ⟨ak,ck,hvk⟩:=AX h.kd
 obtain ⟨az,cz,UZ⟩:=AX h.sz
 subst MZ hvk UZ
 have HP:=hid h
 clear h hq BS
 have HK:=hid hk
 clear hk
 obtain ⟨ms,Cy⟩: ∃ m,Rf.many (A7 l) Rf.wSecret=m:=⟨_,rfl⟩
 obtain ⟨mp,hmp⟩: ∃ m,Rf.many (A7 l) Rf.wPublic=m:=⟨_,rfl⟩
 obtain ⟨mv,F8⟩: ∃ m,Rf.many (A7 l) Rf.wVar=m:=⟨_,rfl⟩
 obtain ⟨ma,F9⟩: ∃ m,Rf.many (A7 l) Rf.wArray=m:=⟨_,rfl⟩
 have l1:=JO l Rf.wSecret
 have l2:=JO l Rf.wPublic
 rw[Cy] at l1
 rw[hmp] at l2
 rw[F8,Cy,hmp] at hok
 have Fl:=hid Cy
 have Ea:=hid hmp
 have Fp:=hid F8
 have Fq:=hid F9
 have UT:(ms:Int)≤1000:=by omega
 have UU:(mp:Int)≤1000:=by omega
 clear Cy hmp F8 F9 l1 l2
 have h4: ¬(0:Int)<(mv:Int):=by omega
 have h5:(ms:Int)+(mp:Int)<3:=by omega
 clear hok
 obtain ⟨t0,ht0,hz0,hz1,hz2⟩:=info_parts Tryz.SL
 go_enter Tryz.func60,Tryz.ntmps60
 go_wp2_with (first
  |(go_at_call 94;refine (HP.out.II q1 hl).mono ?_;rintro e w0 ⟨kq,rfl,BN,hw0⟩;have hw1:=hw0.symm;subst hw1;have BH:kq.toList.isEmpty=true:=(by rw[BN];exact HK.out);have Ih:=hid BN;clear BN)
  |(go_at_call_of 95 (Value.string { data:= #[115,101,99,114,101,116] });refine (HP.out.CF _ hl ms Rf.wSecret Lt Fl.out).mono ?_;rintro e w0 ⟨rfl,hw0⟩;have hw1:=hw0.symm;subst hw1)
  |(go_at_call_of 95 (Value.string { data:= #[112,117,98,108,105,99] });refine (HP.out.CF _ hl mp Rf.wPublic Lu Ea.out).mono ?_;rintro e w0 ⟨rfl,hw0⟩;have hw1:=hw0.symm;subst hw1)
  |(go_at_call_of 95 (Value.string { data:= #[118,97,114] });refine (HP.out.CF _ hl mv Rf.wVar Lz Fp.out).mono ?_;rintro e w0 ⟨rfl,hw0⟩;have hw1:=hw0.symm;subst hw1)
  |(go_at_call_of 95 (Value.string { data:= #[97,114,114,97,121] });refine (HP.out.CF _ hl ma Rf.wArray M0 Fq.out).mono ?_;rintro e w0 ⟨rfl,hw0⟩;have hw1:=hw0.symm;subst hw1))
 have F:=hid HP.out.toF
 have FB:Hid (A9 base (fun k=>k=P∨Value.ownBlock (.slice an l.length cn)=some k∨Value.ownBlock (.slice ak l.length ck)=some k∨Value.ownBlock (.slice az l.length cz)=some k) w w):=A9.refl _ _ _
 have n0:=F.out.row.cell (i:=0) (by omega)
 rw[show Cu (.slice an l.length cn) (.slice ak l.length ck) (.slice az l.length cz) vb 0=(.slice an l.length cn) from rfl] at n0
 have Nu:=F.out.lt
 have e0:w.cell? ⟨g,0,none⟩=some (.string q0):=hc0
 have e1:w.cell? ⟨g,1,none⟩=some (.string q1):=hc1
 have C8:=F.out.nm
 simp only[List.length_map] at C8
 have Bq:=hid C8
 clear C8
 go_cut [] (fun wc=> ∃ v1,Bu wc base P (fun j=>if j=0 then v1 else Cu (.slice an l.length cn) (.slice ak l.length ck) (.slice az l.length cz) vb j) (l.map DB.name++[q1]) (l.map DB.kind) (l.map DB.size) v1 (.slice ak l.length ck) (.slice az l.length cz)∧A9 base (fun k=>k=P∨Value.ownBlock (.slice an l.length cn)=some k∨Value.ownBlock (.slice ak l.length ck)=some k∨Value.ownBlock (.slice az l.length cz)=some k) w wc∧Nw w (.slice an l.length cn) v1∧wc.cell? ⟨g,0,none⟩=some (.string q0))
 case first=>
  go_region_law
   ((refine step_append_lies _ (by rfl) _ _ _ (by rfl) base 9 t0 _ 1 16 Tryz.underlying69 ht0 hz0 hz1 hz2 rfl (by omega) _ l.length ((l.map DB.name).map Value.string) (by rfl) ((World.ownsRow.alloc Bq.out _).drew) ⟨w.heap.size,0,none⟩ 1 1 [.string q1] (by rfl) (by rfl) (World.news_of_block (cs:= #[.string q1]) (t:=9) (fr:=(0,0)) (heap_alloc_new w _)) (by simp[Value.oneCell']) (by omega) (by unfold maxLen;omega) (by omega) (by have:=F.out.AJ;simp;omega) (w.heap.size+1) (by simp) ?_;intro g1 p1 x1 hown1 hgrow1 CT Bk;have f1:=(Ad ((F.out.row.alloc _).drew) hgrow1 F.out.np).frozen 0;have d1:=(Ad ((F.out.row.alloc _).drew) hgrow1 F.out.np).cell (i:=0) (by omega)))
  all_goals
   go_wp2_with fail
   go_meet
   have C:=Yl F.out FB.out (.inl rfl) (fun k hk=>.inr (.inl hk)) (by simpa using hown1) hgrow1 CT
   exact ⟨_,C.1,C.2,MB CT FB.out.A8.size,Yr e0 hgrow1 KZ Mg⟩
 case rest=>
  obtain ⟨v1,F1,B1,W1,w0⟩:=hcut
  have Db:=hid W1
  clear W1
  clear n0 e0 e1 Bq FB F
  have F:=hid F1
  have FB:=hid B1
  have Nu:=F1.lt
  have n0:=F1.row.cell (i:=1) (by omega)
  rw[if_neg (by omega),show Cu (.slice an l.length cn) (.slice ak l.length ck) (.slice az l.length cz) vb 1=(.slice ak l.length ck) from rfl] at n0
  have C8:=F1.kd
  simp only[List.length_map] at C8
  have Bq:=hid C8
  clear C8 F1 B1
  go_wp2_with fail
  go_cut [] (fun wd=> ∃ v1 v2,Bu wd base P (fun j=>if j=1 then v2 else if j=0 then v1 else Cu (.slice an l.length cn) (.slice ak l.length ck) (.slice az l.length cz) vb j) (l.map DB.name++[q1]) (l.map DB.kind++[q0]) (l.map DB.size) v1 v2 (.slice az l.length cz)∧A9 base (fun k=>k=P∨Value.ownBlock (.slice an l.length cn)=some k∨Value.ownBlock (.slice ak l.length ck)=some k∨Value.ownBlock (.slice az l.length cz)=some k) w wd∧Nw w (.slice an l.length cn) v1∧Nw w (.slice ak l.length ck) v2)
  case first=>
   go_region_law
    ((refine step_append_lies _ (by rfl) _ _ _ (by rfl) base 9 t0 _ 1 16 Tryz.underlying69 ht0 hz0 hz1 hz2 rfl (by omega) _ l.length ((l.map DB.kind).map Value.string) (by rfl) ((World.ownsRow.alloc Bq.out _).drew) ⟨wc.heap.size,0,none⟩ 1 1 [.string q0] (by rfl) (by rfl) (World.news_of_block (cs:= #[.string q0]) (t:=9) (fr:=(0,0)) (heap_alloc_new wc _)) (by simp[Value.oneCell']) (by omega) (by unfold maxLen;omega) (by omega) (by have:=F.out.AJ;simp;omega) (wc.heap.size+1) (by simp) ?_;intro g1 p1 x1 hown1 hgrow1 CT Bk;have f1:=(Ad ((F.out.row.alloc _).drew) hgrow1 F.out.kp).frozen 1;have d1:=(Ad ((F.out.row.alloc _).drew) hgrow1 F.out.kp).cell (i:=1) (by omega)))
   all_goals
    go_wp2_with fail
    go_meet
    have C:=Ym F.out FB.out (.inl rfl) (fun k hk=>.inr (.inr (.inl hk))) (by simpa using hown1) hgrow1 CT
    exact ⟨_,_,C.1,C.2,Db.out,MB CT FB.out.A8.size⟩
  case rest=>
   obtain ⟨v1,v2,F1,B1,W1,W2⟩:=hcut
   have Db:=hid W1
   have CO:=hid W2
   clear W1 W2
   clear n0 Bq FB F w0
   have F:=hid F1
   have FB:=hid B1
   have Nu:=F1.lt
   have n0:=F1.row.cell (i:=2) (by omega)
   rw[if_neg (by omega),if_neg (by omega),show Cu (.slice an l.length cn) (.slice ak l.length ck) (.slice az l.length cz) vb 2=(.slice az l.length cz) from rfl] at n0
   have C8:=F1.sz
   simp only[List.length_map] at C8
   have Bq:=hid C8
   clear C8 F1 B1
   obtain ⟨i0,hi0,Ua,Uc,Ud⟩:=info_parts Tryz.Ds
   go_wp2_with (first|(at_builtin;refine wpList_append_lies _ rfl _ _ 24 rfl base 3 i0 _ 1 8 Tryz.underlying24 hi0 Ua Uc Ud rfl (by omega) _ l.length ((l.map DB.size).map fun (n:Nat)=>Value.int .i64 n) rfl (World.ownsRow.alloc Bq.out _) ⟨wc.heap.size,0,none⟩ 1 1 [.int .i64 0] rfl rfl (cell_one_new _ _ _) (by simp[Value.oneCell']) (by omega) (by unfold maxLen;omega) (by omega) (by have:=F.out.AJ;simp;omega) (wc.heap.size+1) (by simp) ?_;intro g1 p1 x1 hown1 hgrow1 CT Bk;have f1:=(Ad (F.out.row.alloc _) hgrow1 F.out.zp).frozen 2;have d1:=(Ad (F.out.row.alloc _) hgrow1 F.out.zp).cell (i:=2) (by omega)))
   go_ret
   have C:=Yn (z:=0) F.out FB.out (.inl rfl) (fun k hk=>.inr (.inr (.inr hk))) (by simpa using hown1) hgrow1 CT
   exact ⟨rfl,⟨_,_,_,Yq C.1,Db.out,CO.out,MB CT FB.out.A8.size⟩,C.2⟩
theorem xJ (h:Ae w base P l vn vk vz vb) (hl:l.length≤1000) (g cap:Nat) (q0 q1:ByteArray) (hc0:w.cell? ⟨g,0,none⟩=some (.string q0)) (hc1:w.cell? ⟨g,1,none⟩=some (.string q1)) (hp:w.cell? ⟨R,0,none⟩=some (.pointer (some ⟨P,0,none⟩))) (hb:w.cell? ⟨R,4,none⟩=some (.bool false)) (KZ:vn.ownBlock≠some g) (Ba:vk.ownBlock≠some g) (Mg:g≠P) (BS:Lk.isName q1.toList=true) (ha:(q0.toList==[97,114,114,97,121])=true) (hk:(Rf.kindOf (A7 l) q1.toList).isEmpty=true) (q2:ByteArray) (hc2:w.cell? ⟨g,2,none⟩=some (.string q2)) (z:Nat) (hz:Lk.num? q2.toList=some z) (hok:1≤z∧z≤4∧Rf.many (A7 l) Rf.wArray<2):
  Calls Tryz.prog 60 #[.pointer (some ⟨R,0,none⟩),.slice (some ⟨g,0,none⟩) 3 cap] w fun e w'=>e=.returned (.bool true)∧(∃ DZ D_ Da,Ae w' base P (l++[⟨q1,q0,z⟩]) DZ D_ Da vb∧Nw w vn DZ∧Nw w vk D_∧Nw w vz Da)∧A9 base (fun k=>k=P∨vn.ownBlock=some k∨vk.ownBlock=some k∨vz.ownBlock=some k) w w':=by
 have hq:q1.size=1:=by
  by_cases h:q1.size=1
  ·exact h
  ·rw[Io h] at BS;cases BS
 have Fg:(q1.size:Int)=1:=by omega
 obtain ⟨EC,J7⟩:=N6 hq BS
 obtain ⟨an,cn,MZ⟩:=AX h.nm
 obtain ⟨ak,ck,hvk⟩:=AX h.kd
 obtain ⟨az,cz,UZ⟩:=AX h.sz
 subst MZ hvk UZ
 have HP:=hid h
 clear h hq BS
 have HK:=hid hk
 clear hk
 obtain ⟨ms,Cy⟩: ∃ m,Rf.many (A7 l) Rf.wSecret=m:=⟨_,rfl⟩
 obtain ⟨mp,hmp⟩: ∃ m,Rf.many (A7 l) Rf.wPublic=m:=⟨_,rfl⟩
 obtain ⟨mv,F8⟩: ∃ m,Rf.many (A7 l) Rf.wVar=m:=⟨_,rfl⟩
 obtain ⟨ma,F9⟩: ∃ m,Rf.many (A7 l) Rf.wArray=m:=⟨_,rfl⟩
 have l1:=JO l Rf.wSecret
 have l2:=JO l Rf.wPublic
 rw[Cy] at l1
 rw[hmp] at l2
 rw[F9] at hok
 have Fl:=hid Cy
 have Ea:=hid hmp
 have Fp:=hid F8
 have Fq:=hid F9
 have UT:(ms:Int)≤1000:=by omega
 have UU:(mp:Int)≤1000:=by omega
 clear Cy hmp F8 F9 l1 l2
 have h4:(1:Int)≤(z:Int):=by omega
 have h5:(z:Int)≤4:=by omega
 have h6:(ma:Int)<2:=by omega
 have HZ:=hid (VJ hz)
 clear hok hz
 obtain ⟨t0,ht0,hz0,hz1,hz2⟩:=info_parts Tryz.SL
 go_enter Tryz.func60,Tryz.ntmps60
 go_wp2_with (first
  |(go_at_call 94;refine (HP.out.II q1 hl).mono ?_;rintro e w0 ⟨kq,rfl,BN,hw0⟩;have hw1:=hw0.symm;subst hw1;have BH:kq.toList.isEmpty=true:=(by rw[BN];exact HK.out);have Ih:=hid BN;clear BN)
  |(go_at_call_of 95 (Value.string { data:= #[115,101,99,114,101,116] });refine (HP.out.CF _ hl ms Rf.wSecret Lt Fl.out).mono ?_;rintro e w0 ⟨rfl,hw0⟩;have hw1:=hw0.symm;subst hw1)
  |(go_at_call_of 95 (Value.string { data:= #[112,117,98,108,105,99] });refine (HP.out.CF _ hl mp Rf.wPublic Lu Ea.out).mono ?_;rintro e w0 ⟨rfl,hw0⟩;have hw1:=hw0.symm;subst hw1)
  |(go_at_call_of 95 (Value.string { data:= #[118,97,114] });refine (HP.out.CF _ hl mv Rf.wVar Lz Fp.out).mono ?_;rintro e w0 ⟨rfl,hw0⟩;have hw1:=hw0.symm;subst hw1)
  |(go_at_call_of 95 (Value.string { data:= #[97,114,114,97,121] });refine (HP.out.CF _ hl ma Rf.wArray M0 Fq.out).mono ?_;rintro e w0 ⟨rfl,hw0⟩;have hw1:=hw0.symm;subst hw1)
  |(go_at_call 96;refine (VF q2 _ z HZ.out).mono ?_;rintro e w1 ⟨rfl,hb1⟩;have AL:=hid hb1;have z1:=hb1.size;clear hb1))
 have F:=hid (HP.out.below AL.out).toF
 have FB:Hid (A9 base (fun k=>k=P∨Value.ownBlock (.slice an l.length cn)=some k∨Value.ownBlock (.slice ak l.length ck)=some k∨Value.ownBlock (.slice az l.length cz)=some k) w w1):=A9.Ap AL.out HP.out.AJ
 have n0:=F.out.row.cell (i:=0) (by omega)
 rw[show Cu (.slice an l.length cn) (.slice ak l.length ck) (.slice az l.length cz) vb 0=(.slice an l.length cn) from rfl] at n0
 have Nu:=F.out.lt
 have e0:w1.cell? ⟨g,0,none⟩=some (.string q0):=cell_later AL.out hc0
 have e1:w1.cell? ⟨g,1,none⟩=some (.string q1):=cell_later AL.out hc1
 have C8:=F.out.nm
 simp only[List.length_map] at C8
 have Bq:=hid C8
 clear C8
 go_cut [] (fun wc=> ∃ v1,Bu wc base P (fun j=>if j=0 then v1 else Cu (.slice an l.length cn) (.slice ak l.length ck) (.slice az l.length cz) vb j) (l.map DB.name++[q1]) (l.map DB.kind) (l.map DB.size) v1 (.slice ak l.length ck) (.slice az l.length cz)∧A9 base (fun k=>k=P∨Value.ownBlock (.slice an l.length cn)=some k∨Value.ownBlock (.slice ak l.length ck)=some k∨Value.ownBlock (.slice az l.length cz)=some k) w wc∧Nw w (.slice an l.length cn) v1∧wc.cell? ⟨g,0,none⟩=some (.string q0))
 case first=>
  go_region_law
   ((refine step_append_lies _ (by rfl) _ _ _ (by rfl) base 9 t0 _ 1 16 Tryz.underlying69 ht0 hz0 hz1 hz2 rfl (by omega) _ l.length ((l.map DB.name).map Value.string) (by rfl) ((World.ownsRow.alloc Bq.out _).drew) ⟨w1.heap.size,0,none⟩ 1 1 [.string q1] (by rfl) (by rfl) (World.news_of_block (cs:= #[.string q1]) (t:=9) (fr:=(0,0)) (heap_alloc_new w1 _)) (by simp[Value.oneCell']) (by omega) (by unfold maxLen;omega) (by omega) (by have:=F.out.AJ;simp;omega) (w1.heap.size+1) (by simp) ?_;intro g1 p1 x1 hown1 hgrow1 CT Bk;have f1:=(Ad ((F.out.row.alloc _).drew) hgrow1 F.out.np).frozen 0;have d1:=(Ad ((F.out.row.alloc _).drew) hgrow1 F.out.np).cell (i:=0) (by omega)))
  all_goals
   go_wp2_with fail
   go_meet
   have C:=Yl F.out FB.out (.inl rfl) (fun k hk=>.inr (.inl hk)) (by simpa using hown1) hgrow1 CT
   exact ⟨_,C.1,C.2,MB CT FB.out.A8.size,Yr e0 hgrow1 KZ Mg⟩
 case rest=>
  obtain ⟨v1,F1,B1,W1,w0⟩:=hcut
  have Db:=hid W1
  clear W1
  clear n0 e0 e1 Bq FB F
  have F:=hid F1
  have FB:=hid B1
  have Nu:=F1.lt
  have n0:=F1.row.cell (i:=1) (by omega)
  rw[if_neg (by omega),show Cu (.slice an l.length cn) (.slice ak l.length ck) (.slice az l.length cz) vb 1=(.slice ak l.length ck) from rfl] at n0
  have C8:=F1.kd
  simp only[List.length_map] at C8
  have Bq:=hid C8
  clear C8 F1 B1
  go_wp2_with fail
  go_cut [] (fun wd=> ∃ v1 v2,Bu wd base P (fun j=>if j=1 then v2 else if j=0 then v1 else Cu (.slice an l.length cn) (.slice ak l.length ck) (.slice az l.length cz) vb j) (l.map DB.name++[q1]) (l.map DB.kind++[q0]) (l.map DB.size) v1 v2 (.slice az l.length cz)∧A9 base (fun k=>k=P∨Value.ownBlock (.slice an l.length cn)=some k∨Value.ownBlock (.slice ak l.length ck)=some k∨Value.ownBlock (.slice az l.length cz)=some k) w wd∧Nw w (.slice an l.length cn) v1∧Nw w (.slice ak l.length ck) v2)
  case first=>
   go_region_law
    ((refine step_append_lies _ (by rfl) _ _ _ (by rfl) base 9 t0 _ 1 16 Tryz.underlying69 ht0 hz0 hz1 hz2 rfl (by omega) _ l.length ((l.map DB.kind).map Value.string) (by rfl) ((World.ownsRow.alloc Bq.out _).drew) ⟨wc.heap.size,0,none⟩ 1 1 [.string q0] (by rfl) (by rfl) (World.news_of_block (cs:= #[.string q0]) (t:=9) (fr:=(0,0)) (heap_alloc_new wc _)) (by simp[Value.oneCell']) (by omega) (by unfold maxLen;omega) (by omega) (by have:=F.out.AJ;simp;omega) (wc.heap.size+1) (by simp) ?_;intro g1 p1 x1 hown1 hgrow1 CT Bk;have f1:=(Ad ((F.out.row.alloc _).drew) hgrow1 F.out.kp).frozen 1;have d1:=(Ad ((F.out.row.alloc _).drew) hgrow1 F.out.kp).cell (i:=1) (by omega)))
   all_goals
    go_wp2_with fail
    go_meet
    have C:=Ym F.out FB.out (.inl rfl) (fun k hk=>.inr (.inr (.inl hk))) (by simpa using hown1) hgrow1 CT
    exact ⟨_,_,C.1,C.2,Db.out,MB CT FB.out.A8.size⟩
  case rest=>
   obtain ⟨v1,v2,F1,B1,W1,W2⟩:=hcut
   have Db:=hid W1
   have CO:=hid W2
   clear W1 W2
   clear n0 Bq FB F w0
   have F:=hid F1
   have FB:=hid B1
   have Nu:=F1.lt
   have n0:=F1.row.cell (i:=2) (by omega)
   rw[if_neg (by omega),if_neg (by omega),show Cu (.slice an l.length cn) (.slice ak l.length ck) (.slice az l.length cz) vb 2=(.slice az l.length cz) from rfl] at n0
   have C8:=F1.sz
   simp only[List.length_map] at C8
   have Bq:=hid C8
   clear C8 F1 B1
   obtain ⟨i0,hi0,Ua,Uc,Ud⟩:=info_parts Tryz.Ds
   go_wp2_with (first|(at_builtin;refine wpList_append_lies _ rfl _ _ 24 rfl base 3 i0 _ 1 8 Tryz.underlying24 hi0 Ua Uc Ud rfl (by omega) _ l.length ((l.map DB.size).map fun (n:Nat)=>Value.int .i64 n) rfl (World.ownsRow.alloc Bq.out _) ⟨wc.heap.size,0,none⟩ 1 1 [.int .i64 z] rfl rfl (cell_one_new _ _ _) (by simp[Value.oneCell']) (by omega) (by unfold maxLen;omega) (by omega) (by have:=F.out.AJ;simp;omega) (wc.heap.size+1) (by simp) ?_;intro g1 p1 x1 hown1 hgrow1 CT Bk;have f1:=(Ad (F.out.row.alloc _) hgrow1 F.out.zp).frozen 2;have d1:=(Ad (F.out.row.alloc _) hgrow1 F.out.zp).cell (i:=2) (by omega)))
   go_ret
   have C:=Yn (z:=z) F.out FB.out (.inl rfl) (fun k hk=>.inr (.inr (.inr hk))) (by simpa using hown1) hgrow1 CT
   exact ⟨rfl,⟨_,_,_,Yq C.1,Db.out,CO.out,MB CT FB.out.A8.size⟩,C.2⟩
end
end Go.Proofs.YtgddmpmcnjlcjaaGreatDoor
