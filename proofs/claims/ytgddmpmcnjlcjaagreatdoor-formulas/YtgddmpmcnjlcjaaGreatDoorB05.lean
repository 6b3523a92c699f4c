import Derived.Test.YtgddmpmcnjlcjaaGreatDoorB04
set_option maxRecDepth 100000
set_option maxHeartbeats 2000000
namespace Go.Proofs.YtgddmpmcnjlcjaaGreatDoor
open Go.RowKit
set_option linter.unusedVariables false
def Dj (b:List Lk.St) (k:Nat):List Lk.St:=((b.take k).filter fun s=>s.kind≠6).map (Lk.EJ b)
theorem rN (b:List Lk.St) (k:Nat):(Dj b k).length≤k:=by
 unfold Dj
 rw[List.length_map]
 exact Nat.le_trans (List.length_filter_le _ _) (List.length_take_le _ _)
theorem q9 (b:List Lk.St):Dj b b.length=Lk.link b:=by unfold Dj Lk.link;rw[List.take_of_length_le (Nat.le_refl _)]
theorem qB (b:List Lk.St) (k:Nat) (h:k<b.length) (hm:(Lk.bodyAt b k).kind=6):Dj b (k+1)=Dj b k:=by
 unfold Dj
 have e:Lk.bodyAt b k=b[k]:=by simp[Lk.bodyAt,h]
 rw[e] at hm
 rw[List.take_succ_eq_append_getElem h,List.filter_append];simp[hm]
theorem uy (b:List Lk.St) (k:Nat) (h:k<b.length) (hm:(Lk.bodyAt b k).kind≠6):Dj b (k+1)=Dj b k++[Lk.EJ b (Lk.bodyAt b k)]:=by
 unfold Dj
 have e:Lk.bodyAt b k=b[k]:=by simp[Lk.bodyAt,h]
 rw[e] at hm ⊢
 rw[List.take_succ_eq_append_getElem h,List.filter_append];simp[hm]
theorem YA {w1:World} {base n cap gg:Nat} {bd:List Lk.St} {k:Nat} {s':Lk.St} {xs:List Value} (h:Dj bd (k+1)=Dj bd k++[s']) (hs:AZ s'=xs)
  (hown:w1.ownsRow base 147 10 (.slice (some ⟨gg,0,none⟩) n cap) ((Dj bd k).length+1) (flat (Dj bd k)++xs)):w1.ownsRow base 147 10 (.slice (some ⟨gg,0,none⟩) n cap) (Dj bd (k+1)).length (flat (Dj bd (k+1))):=by
 rw[h,YJ,hs];simpa using hown
theorem uz (bd:List Lk.St) (b gb cp:Nat) (w:World) (Dm:w.cell? ⟨b,56,none⟩=some (.slice (some ⟨gb,0,none⟩) bd.length cp))
  (hcell: ∀ i k,i<bd.length→k<10→w.cell? ⟨gb,i*10+k,none⟩=(AZ (Lk.bodyAt bd i))[k]?) (hbl:bd.length≤100000) (hb:b<w.heap.size) (hgb:gb<w.heap.size):
  Calls Tryz.prog 35 #[.pointer (some ⟨b,0,none⟩)] w fun e w'=> ∃ v,e=.returned v∧w'.ownsRow w.heap.size 147 10 v (Lk.link bd).length (flat (Lk.link bd))∧Below w.heap.size w w':=by
 obtain ⟨t0,ht0,hz0,hz1,hz2⟩:=info_parts Tryz.OT
 have DL:(bd.length:Int)≤100000:=by omega
 have HC:Hid _:=hcell
 have HK:Hid (∀ i,i<bd.length→w.cell? ⟨gb,i*10,none⟩=some (.int .i64 (Lk.bodyAt bd i).kind)):=fun i hi=>by have:=hcell i 0 hi (by omega);simpa[AZ] using this
 have HN:Hid (∀ i,i<bd.length→w.cell? ⟨gb,i*10+8,none⟩=some (.int .i64 (Lk.bodyAt bd i).next)):=fun i hi=>by have:=hcell i 8 hi (by omega);simpa[AZ] using this
 have cM:Hid _:=Dm
 clear hcell
 go_enter Tryz.func35,Tryz.ntmps35
 go_wp2
 go_loopw [3,11] (fun v c wr=> ∃ k:Nat,k≤bd.length∧c=.int .i64 k∧wr.ownsRow w.heap.size 147 10 v (Dj bd k).length (flat (Dj bd k))∧Below w.heap.size w wr) (fun _ c _=>bd.length - (intOf c).toNat)
 case atStart=>exact ⟨0,Nat.zero_le _,rfl,World.ownsRow_nil _ _ _ _,Below.refl _ _⟩
 case round=>
  obtain ⟨k,hkl,rfl,hown,hnx⟩:=hrel
  have hll:=rN bd k
  have hz:=hnx.size
  by_cases hlt:k<bd.length
  ·have hc:=fun j (hj:j<10)=>(hnx.cell (p:=⟨gb,k*10+j,none⟩) hgb).trans (HC.out k j hlt hj)
   have c0:=hc 0 (by omega)
   have c1:=hc 1 (by omega)
   have c2:=hc 2 (by omega)
   have c3:=hc 3 (by omega)
   have c4:=hc 4 (by omega)
   have c5:=hc 5 (by omega)
   have c6:=hc 6 (by omega)
   have c7:=hc 7 (by omega)
   have c8:=hc 8 (by omega)
   have c9:=hc 9 (by omega)
   simp[AZ] at c0 c1 c2 c3 c4 c5 c6 c7 c8 c9
   have X4:=qB bd k hlt
   have G9:=uy bd k hlt
   generalize Lk.bodyAt bd k=s at c0 c1 c2 c3 c4 c5 c6 c7 c8 c9 X4 G9
   have G0:(k:Int)<(bd.length:Int):=by omega
   clear hc
   have Iz:Hid (Below w.heap.size w wr):=hnx
   clear hnx
   by_cases hm:s.kind=6
   ·have HL:Hid _:=X4 hm
    rw[hm] at c0
    clear X4 G9 hm
    go_wp2
    go_roundw
    case rel=>exact ⟨k+1,by omega,by go_num,by rw[show Dj bd (k+1)=_ from HL.out];exact hown.alloc _,Iz.out.alloc hz _⟩
    case measure=>simp[intOf];omega
   ·have HL:Hid _:=G9 hm
    clear X4 G9
    have hm':((s.kind:Int)==6)=false:=by simp;omega
    by_cases h4:s.kind=4
    ·have HE:Hid (AZ (Lk.EJ bd s)=[.int .i64 4,.int .i64 s.op,.int .i64 s.slot,.int .i64 s.arr,.bool s.a.named,.int .i64 s.a.val,.bool s.b.named,.int .i64 s.b.val,.int .i64 (Lk.settle bd s.next),.int .i64 (Lk.settle bd s.els)]):=by show AZ _=_;unfold Lk.EJ;rw[if_pos (.inl h4)];simp[AZ,h4]
     rw[h4] at c0
     clear hm hm' h4
     go_wp2_with (first
      |(go_at_call 73;refine (Y9 bd b gb cp _ _ ?_ ?_ ?_ hbl).mono ?_;exact AH ((Iz.out.cell (by exact hb)).trans cM.out) _;exact fun i hi=>AH ((Iz.out.cell (by exact hgb)).trans (HK.out i hi)) _;exact fun i hi=>AH ((Iz.out.cell (by exact hgb)).trans (HN.out i hi)) _;rintro e w' ⟨rfl,rfl⟩)
      |(at_builtin;refine wpList_append_lies _ rfl _ _ 43 rfl w.heap.size 147 t0 _ 10 80 Tryz.underlying43 ht0 hz0 hz1 hz2 rfl (by omega) _ (Dj bd k).length (flat (Dj bd k)) rfl ((hown.alloc _).alloc _) ⟨wr.heap.size+1,0,none⟩ 1 1 [.int .i64 4,.int .i64 s.op,.int .i64 s.slot,.int .i64 s.arr,.bool s.a.named,.int .i64 s.a.val,.bool s.b.named,.int .i64 s.b.val,.int .i64 (Lk.settle bd s.next),.int .i64 (Lk.settle bd s.els)] (by simp[go_sem]) rfl (World.news_of_block (cs:= #[.int .i64 4,.int .i64 s.op,.int .i64 s.slot,.int .i64 s.arr,.bool s.a.named,.int .i64 s.a.val,.bool s.b.named,.int .i64 s.b.val,.int .i64 (Lk.settle bd s.next),.int .i64 (Lk.settle bd s.els)]) (t:=147) (fr:=(0,0)) (by have:=heap_alloc_new (wr.alloc (Obj.cells #[.int .i64 4,.int .i64 s.op,.int .i64 s.slot,.int .i64 s.arr,.bool s.a.named,.int .i64 s.a.val,.bool s.b.named,.int .i64 s.b.val,.int .i64 (Lk.settle bd s.next),.int .i64 (Lk.settle bd s.els)] 147)) (Obj.cells #[.int .i64 4,.int .i64 s.op,.int .i64 s.slot,.int .i64 s.arr,.bool s.a.named,.int .i64 s.a.val,.bool s.b.named,.int .i64 s.b.val,.int .i64 (Lk.settle bd s.next),.int .i64 (Lk.settle bd s.els)] 147);simpa using this)) (by simp[Value.oneCell']) (by omega) (by unfold maxLen;omega) (by omega) (by simp;omega) (wr.heap.size+2) (by simp) ?_;intro gg cap w1 hown1 hgrow hat Bk))
     go_roundw
     case rel=>exact ⟨k+1,by omega,by go_num,YA HL.out HE.out hown1,Below.grown ((Iz.out.alloc hz _).alloc (by simp;omega) _) hgrow (by simp;omega) (fun q hq=>(hown.lt q hq).1)⟩
     case measure=>simp[intOf];omega
    ·by_cases h5:s.kind=5
     ·have HE:Hid (AZ (Lk.EJ bd s)=[.int .i64 5,.int .i64 s.op,.int .i64 s.slot,.int .i64 s.arr,.bool s.a.named,.int .i64 s.a.val,.bool s.b.named,.int .i64 s.b.val,.int .i64 (Lk.settle bd s.next),.int .i64 (Lk.settle bd s.els)]):=by show AZ _=_;unfold Lk.EJ;rw[if_pos (.inr h5)];simp[AZ,h5]
      rw[h5] at c0
      clear hm hm' h4 h5
      go_wp2_with (first
       |(go_at_call 73;refine (Y9 bd b gb cp _ _ ?_ ?_ ?_ hbl).mono ?_;exact AH ((Iz.out.cell (by exact hb)).trans cM.out) _;exact fun i hi=>AH ((Iz.out.cell (by exact hgb)).trans (HK.out i hi)) _;exact fun i hi=>AH ((Iz.out.cell (by exact hgb)).trans (HN.out i hi)) _;rintro e w' ⟨rfl,rfl⟩)
       |(at_builtin;refine wpList_append_lies _ rfl _ _ 43 rfl w.heap.size 147 t0 _ 10 80 Tryz.underlying43 ht0 hz0 hz1 hz2 rfl (by omega) _ (Dj bd k).length (flat (Dj bd k)) rfl ((hown.alloc _).alloc _) ⟨wr.heap.size+1,0,none⟩ 1 1 [.int .i64 5,.int .i64 s.op,.int .i64 s.slot,.int .i64 s.arr,.bool s.a.named,.int .i64 s.a.val,.bool s.b.named,.int .i64 s.b.val,.int .i64 (Lk.settle bd s.next),.int .i64 (Lk.settle bd s.els)] (by simp[go_sem]) rfl (World.news_of_block (cs:= #[.int .i64 5,.int .i64 s.op,.int .i64 s.slot,.int .i64 s.arr,.bool s.a.named,.int .i64 s.a.val,.bool s.b.named,.int .i64 s.b.val,.int .i64 (Lk.settle bd s.next),.int .i64 (Lk.settle bd s.els)]) (t:=147) (fr:=(0,0)) (by have:=heap_alloc_new (wr.alloc (Obj.cells #[.int .i64 5,.int .i64 s.op,.int .i64 s.slot,.int .i64 s.arr,.bool s.a.named,.int .i64 s.a.val,.bool s.b.named,.int .i64 s.b.val,.int .i64 (Lk.settle bd s.next),.int .i64 (Lk.settle bd s.els)] 147)) (Obj.cells #[.int .i64 5,.int .i64 s.op,.int .i64 s.slot,.int .i64 s.arr,.bool s.a.named,.int .i64 s.a.val,.bool s.b.named,.int .i64 s.b.val,.int .i64 (Lk.settle bd s.next),.int .i64 (Lk.settle bd s.els)] 147);simpa using this)) (by simp[Value.oneCell']) (by omega) (by unfold maxLen;omega) (by omega) (by simp;omega) (wr.heap.size+2) (by simp) ?_;intro gg cap w1 hown1 hgrow hat Bk))
      go_roundw
      case rel=>exact ⟨k+1,by omega,by go_num,YA HL.out HE.out hown1,Below.grown ((Iz.out.alloc hz _).alloc (by simp;omega) _) hgrow (by simp;omega) (fun q hq=>(hown.lt q hq).1)⟩
      case measure=>simp[intOf];omega
     ·have HE:Hid (AZ (Lk.EJ bd s)=[.int .i64 s.kind,.int .i64 s.op,.int .i64 s.slot,.int .i64 s.arr,.bool s.a.named,.int .i64 s.a.val,.bool s.b.named,.int .i64 s.b.val,.int .i64 (Lk.settle bd s.next),.int .i64 s.els]):=by show AZ _=_;unfold Lk.EJ;rw[if_neg (by omega)];rfl
      have h4':((s.kind:Int)==4)=false:=by simp;omega
      have h5':((s.kind:Int)==5)=false:=by simp;omega
      clear hm h4 h5
      go_wp2_with (first
       |(go_at_call 73;refine (Y9 bd b gb cp _ _ ?_ ?_ ?_ hbl).mono ?_;exact AH ((Iz.out.cell (by exact hb)).trans cM.out) _;exact fun i hi=>AH ((Iz.out.cell (by exact hgb)).trans (HK.out i hi)) _;exact fun i hi=>AH ((Iz.out.cell (by exact hgb)).trans (HN.out i hi)) _;rintro e w' ⟨rfl,rfl⟩)
       |(at_builtin;refine wpList_append_lies _ rfl _ _ 43 rfl w.heap.size 147 t0 _ 10 80 Tryz.underlying43 ht0 hz0 hz1 hz2 rfl (by omega) _ (Dj bd k).length (flat (Dj bd k)) rfl ((hown.alloc _).alloc _) ⟨wr.heap.size+1,0,none⟩ 1 1 [.int .i64 s.kind,.int .i64 s.op,.int .i64 s.slot,.int .i64 s.arr,.bool s.a.named,.int .i64 s.a.val,.bool s.b.named,.int .i64 s.b.val,.int .i64 (Lk.settle bd s.next),.int .i64 s.els] (by simp[go_sem]) rfl (World.news_of_block (cs:= #[.int .i64 s.kind,.int .i64 s.op,.int .i64 s.slot,.int .i64 s.arr,.bool s.a.named,.int .i64 s.a.val,.bool s.b.named,.int .i64 s.b.val,.int .i64 (Lk.settle bd s.next),.int .i64 s.els]) (t:=147) (fr:=(0,0)) (by have:=heap_alloc_new (wr.alloc (Obj.cells #[.int .i64 s.kind,.int .i64 s.op,.int .i64 s.slot,.int .i64 s.arr,.bool s.a.named,.int .i64 s.a.val,.bool s.b.named,.int .i64 s.b.val,.int .i64 (Lk.settle bd s.next),.int .i64 s.els] 147)) (Obj.cells #[.int .i64 s.kind,.int .i64 s.op,.int .i64 s.slot,.int .i64 s.arr,.bool s.a.named,.int .i64 s.a.val,.bool s.b.named,.int .i64 s.b.val,.int .i64 (Lk.settle bd s.next),.int .i64 s.els] 147);simpa using this)) (by simp[Value.oneCell']) (by omega) (by unfold maxLen;omega) (by omega) (by simp;omega) (wr.heap.size+2) (by simp) ?_;intro gg cap w1 hown1 hgrow hat Bk))
      go_roundw
      case rel=>exact ⟨k+1,by omega,by go_num,YA HL.out HE.out hown1,Below.grown ((Iz.out.alloc hz _).alloc (by simp;omega) _) hgrow (by simp;omega) (fun q hq=>(hown.lt q hq).1)⟩
      case measure=>simp[intOf];omega
  ·have BH:k=bd.length:=by omega
   have HL:Hid (Dj bd k=Lk.link bd):=by rw[BH];exact q9 bd
   clear BH
   go_wp2
   go_ret
   exact ⟨_,rfl,by rw[←show Dj bd k=_ from HL.out];exact hown,hnx⟩
theorem vA (b cp:Nat) (ad:Option Addr) (w:World) (Dm:w.cell? ⟨b,56,none⟩=some (.slice ad 0 cp)):
  Calls Tryz.prog 35 #[.pointer (some ⟨b,0,none⟩)] w fun e w'=>e=.returned (.slice none 0 0)∧w'=w:=by
 go_enter Tryz.func35,Tryz.ntmps35
 go_wp2
 refine wp_loop_rounds 1 ?_
 rw[rounds_succ]
 go_wp2
 go_ret
 exact ⟨rfl,rfl⟩
theorem vC (r:Lk.RS) (vs vc vb:Value) (base b:Nat) (w:World) (hr:BF w base b r vs vc vb) (hbl:r.body.length≤100000):
  Calls Tryz.prog 35 #[.pointer (some ⟨b,0,none⟩)] w fun e w'=> ∃ v,e=.returned v∧w'.ownsRow w.heap.size 147 10 v (Lk.link r.body).length (flat (Lk.link r.body))∧Below w.heap.size w w':=by
 have Dm:=hr.row.cell (i:=56) (by omega)
 rw[show Ac r vs vc (.slice none 0 0) vb 56=vb from rfl] at Dm
 by_cases h0:r.body.length=0
 ·obtain ⟨ad,cp,hv⟩:=AX hr.A_
  rw[hv,h0] at Dm
  refine (vA b cp ad w Dm).mono ?_
  rintro e w' ⟨rfl,rfl⟩
  have hb:r.body=[]:=List.eq_nil_of_length_eq_zero h0
  rw[hb]
  exact ⟨_,rfl,World.ownsRow_nil _ _ _ _,Below.refl _ _⟩
 ·obtain ⟨gb,cp,hv,h1,h2⟩:=hr.A_.form (by omega)
  subst hv
  exact uz r.body b gb cp w Dm (fun i k hi hk=>(hr.A_.cellAt (i*10+k) (by omega)).trans (Jm r.body i k hi hk)) hbl hr.lt h2
end Go.Proofs.YtgddmpmcnjlcjaaGreatDoor
