import Derived.Test.YtgddmpmcnjlcjaaGreatDoorB01
import Derived.Test.YtgddmpmcnjlcjaaGreatDoorB06
import Derived.Test.YtgddmpmcnjlcjaaGreatDoorB07
import Derived.Test.YtgddmpmcnjlcjaaGreatDoorB08
import Derived.Test.YtgddmpmcnjlcjaaGreatDoorB04
import Derived.Test.YtgddmpmcnjlcjaaGreatDoorB05
set_option maxRecDepth 100000
set_option maxHeartbeats 4000000
namespace Go.Proofs.YtgddmpmcnjlcjaaGreatDoor
open Go.RowKit
set_option linter.unusedVariables false
theorem gm (r:Lk.RS) (vs vc vb:Value) (base b g cap:Nat) (ws:List ByteArray) (w:World) (hr:BF w base b r vs vc vb) (hw:CD w g ws) (hbl:r.body.length≤100000) (hI:Inv r) (hs4:r.Ah.length≤3) (hl:0<ws.length):
  Calls Tryz.prog 34 #[.pointer (some ⟨b,0,none⟩),.slice (some ⟨g,0,none⟩) ws.length cap] w fun e w'=>
   e=.returned (.bool (Lk.take r (ws.map ByteArray.toList)).isSome)∧Eo w w' base b (Lk.take r (ws.map ByteArray.toList)):=by
 have hc0:=hw 0 hl
 obtain ⟨O,hO⟩: ∃ O,Lk.take r (ws.map ByteArray.toList)=O:=⟨_,rfl⟩
 rw[hO]
 have HO:Hid _:=hO
 have Hq:Hid _:=DT ws 0
 generalize ws.getD 0 ByteArray.empty=q at hc0 Hq
 have DL:(0:Int)<(ws.length:Int):=by omega
 have cj:((ws.length:Int)==0)=false:=by rw[beq_eq_false_iff_ne];omega
 have Hl:Hid _:=hl
 clear hO hl
 have K1:=fun sx=>nZ r vs vc vb base b g cap ws sx w hr hw
 have K2:=oP r vs vc vb base b g cap ws w hr hw hs4
 have K3:=n_ r vs vc vb base b g cap ws w hr hw
 have K4:=nu r vs vc vb base b g cap ws w hr hw hbl
 have K5:=nY r vs vc vb base b g cap ws w hr hw hbl
 have K6:=oO r vs vc vb base b g cap ws w hr hw hbl
 have K7:=fun kd=>nT r vs vc vb base b g cap ws kd w hr hw hbl
 have K8:=o6 r vs vc vb base b g cap ws w hr hbl hI
 have K9:=oQ r vs vc vb base b g cap ws w hr hbl hI
 have K0:=nV r vs vc vb base b g cap ws w hr hw hbl
 have Qw:=hid K1
 have HK2:=hid K2
 have J0:=hid K3
 have HK4:=hid K4
 have NW:=hid K5
 have HK6:=hid K6
 have HK7:=hid K7
 have HK8:=hid K8
 have HK9:=hid K9
 have HK0:=hid K0
 clear K1 K2 K3 K4 K5 K6 K7 K8 K9 K0 hr hw
 generalize hws:ws.map ByteArray.toList=wl at*
 have NT:ws.length=wl.length:=by rw[←hws];simp
 have HWL:Hid _:=NT
 clear hws NT
 generalize ws.length=n at*
 go_enter Tryz.func34,Tryz.ntmps34
 go_wp2_with (first
  |(go_at_call_of 63 (Value.bool true);refine (Qw.out true).mono ?_;rintro e w' ⟨rfl,T⟩)
  |(go_at_call_of 63 (Value.bool false);refine (Qw.out false).mono ?_;rintro e w' ⟨rfl,T⟩)
  |(go_at_call 64;refine HK2.out.mono ?_;rintro e w' ⟨rfl,T⟩)
  |(go_at_call 65;refine J0.out.mono ?_;rintro e w' ⟨rfl,T⟩)
  |(go_at_call 66;refine HK4.out.mono ?_;rintro e w' ⟨rfl,T⟩)
  |(go_at_call 67;refine NW.out.mono ?_;rintro e w' ⟨rfl,T⟩)
  |(go_at_call 68;refine HK6.out.mono ?_;rintro e w' ⟨rfl,T⟩)
  |(go_at_call_of 69 (Value.int IntKind.i64 4);refine (HK7.out 4).mono ?_;rintro e w' ⟨rfl,T⟩)
  |(go_at_call_of 69 (Value.int IntKind.i64 5);refine (HK7.out 5).mono ?_;rintro e w' ⟨rfl,T⟩)
  |(go_at_call 70;refine HK8.out.mono ?_;rintro e w' ⟨rfl,T⟩)
  |(go_at_call 71;refine HK9.out.mono ?_;rintro e w' ⟨rfl,T⟩)
  |(go_at_call 72;refine HK0.out.mono ?_;rintro e w' ⟨rfl,T⟩))
 all_goals go_ret
 all_goals
  have hE:=HO.out
  unfold Lk.take at hE
  rw[if_neg (by have:=HWL.out;have:=Hl.out;omega),show Lk.wd wl 0=q.toList from Hq.out] at hE
  simp only[*,if_true,Bool.false_eq_true,if_false] at hE
  rw[←hE]
  exact ⟨rfl,T⟩
structure Ok (r:Lk.RS):Prop where
 inv:Inv r
 sec:r.Ah.length≤3
theorem vE:Ok {}:=⟨⟨by simp,fun d h=>by simp at h⟩,by simp⟩
theorem YB {r r':Lk.RS} {w:Lk.Wd} {p q:Nat} (h:Lk.declare r w p q=some r') (ok:Ok r):Ok r'∧r'.body=r.body∧r'.Ah=r.Ah:=by
 unfold Lk.declare at h
 split at h
 ·cases h;exact ⟨⟨⟨ok.inv.dep,ok.inv.opn⟩,ok.sec⟩,rfl,rfl⟩
 ·cases h
theorem Zc {r r':Lk.RS} {s:Lk.St} (h:Lk.add r s=some r') (ok:Ok r):Ok r'∧r'.body.length=r.body.length+1∧r'.depth=r.depth∧r'.opn=r.opn:=by
 unfold Lk.add at h
 split at h
 ·cases h
  refine ⟨⟨⟨ok.inv.dep,fun d hd=>?_⟩,ok.sec⟩,by simp,rfl,rfl⟩
  have:=ok.inv.opn d hd
  simp;omega
 ·cases h
theorem zB {r r':Lk.RS} {ws:List Lk.Wd} (h:Lk.take r ws=some r') (ok:Ok r):Ok r'∧r'.body.length≤r.body.length+1:=by
 have hadd: ∀ {s Wz},Lk.add r s=some Wz→Ok Wz∧Wz.body.length≤r.body.length+1:=fun h=>⟨(Zc h ok).1,by rw[(Zc h ok).2.1];omega⟩
 have hin: ∀ sx,Lk.E6 r ws sx=some r'→Ok r'∧r'.body.length≤r.body.length+1:=by
  intro sx h
  unfold Lk.E6 at h
  split at h
  ·rename_i hc
   split at h
   ·rename_i r2 hd
    cases h
    obtain ⟨o,hb,hs⟩:=YB hd ok
    exact ⟨⟨⟨o.inv.dep,o.inv.opn⟩,by simp[hs];omega⟩,by show r2.body.length≤_;rw[hb];omega⟩
   ·cases h
  ·cases h
 have hbr: ∀ kd,Lk.FD r ws kd=some r'→Ok r'∧r'.body.length≤r.body.length+1:=by
  intro kd h
  unfold Lk.FD at h
  split at h
  ·rename_i hc
   split at h
   ·split at h
    ·rename_i r2 hd
     cases h
     obtain ⟨o,hb,LR,hop⟩:=Zc hd ok
     refine ⟨⟨⟨by show r2.depth+1≤4;omega,fun d hd'=>?_⟩,o.sec⟩,by show r2.body.length≤_;omega⟩
     have hd':d<r2.depth+1:=hd'
     show (Lk.upd r2.opn r2.depth (r.body.length,0) d).1<r2.body.length∧(Lk.upd r2.opn r2.depth (r.body.length,0) d).2<r2.body.length
     unfold Lk.upd
     split
     ·simp;omega
     ·exact o.inv.opn d (by omega)
    ·cases h
   ·cases h
  ·cases h
 unfold Lk.take at h
 by_cases b0:ws.length=0
 ·rw[if_pos b0] at h
  cases h
 rw[if_neg b0] at h
 by_cases b1:(Lk.wd ws 0==[115,101,99,114,101,116])=true
 ·rw[if_pos b1] at h
  exact hin _ h
 rw[if_neg b1] at h
 by_cases b2:(Lk.wd ws 0==[112,117,98,108,105,99])=true
 ·rw[if_pos b2] at h
  exact hin _ h
 rw[if_neg b2] at h
 by_cases b3:(Lk.wd ws 0==[118,97,114])=true
 ·rw[if_pos b3] at h
  unfold Lk.FW at h
  split at h
  ·split at h
   ·rename_i r2 hd
    cases h
    obtain ⟨o,hb,hs⟩:=YB hd ok
    exact ⟨⟨⟨o.inv.dep,o.inv.opn⟩,o.sec⟩,by show r2.body.length≤_;rw[hb];omega⟩
   ·cases h
  ·cases h
 rw[if_neg b3] at h
 by_cases b4:(Lk.wd ws 0==[97,114,114,97,121])=true
 ·rw[if_pos b4] at h
  unfold Lk.FV at h
  split at h
  ·split at h
   ·split at h
    ·split at h
     ·rename_i r2 hd
      cases h
      obtain ⟨o,hb,hs⟩:=YB hd ok
      exact ⟨⟨⟨o.inv.dep,o.inv.opn⟩,o.sec⟩,by show r2.body.length≤_;rw[hb];omega⟩
     ·cases h
    ·cases h
   ·cases h
  ·cases h
 rw[if_neg b4] at h
 by_cases b5:(Lk.wd ws 0==[108,111,97,100])=true
 ·rw[if_pos b5] at h
  unfold Lk.Hc at h
  split at h
  ·split at h
   ·exact hadd h
   ·cases h
  ·cases h
 rw[if_neg b5] at h
 by_cases b6:(Lk.wd ws 0==[115,116,111,114,101])=true
 ·rw[if_pos b6] at h
  unfold Lk.Hb at h
  split at h
  ·split at h
   ·exact hadd h
   ·cases h
  ·cases h
 rw[if_neg b6] at h
 by_cases b7:(Lk.wd ws 0==[111,117,116])=true
 ·rw[if_pos b7] at h
  unfold Lk.Hh at h
  split at h
  ·split at h
   ·exact hadd h
   ·cases h
  ·cases h
 rw[if_neg b7] at h
 by_cases b8:(Lk.wd ws 0==[105,102])=true
 ·rw[if_pos b8] at h
  exact hbr _ h
 rw[if_neg b8] at h
 by_cases b9:(Lk.wd ws 0==[119,104,105,108,101])=true
 ·rw[if_pos b9] at h
  exact hbr _ h
 rw[if_neg b9] at h
 by_cases b10:(Lk.wd ws 0==[101,108,115,101])=true
 ·rw[if_pos b10] at h
  unfold Lk.Fx at h
  split at h
  ·rename_i hc
   cases h
   refine ⟨⟨⟨ok.inv.dep,fun d hd=>?_⟩,ok.sec⟩,by simp⟩
   have hd:d<r.depth:=hd
   have hx:=ok.inv.opn d hd
   show (Lk.upd r.opn (r.depth - 1) ((r.opn (r.depth - 1)).1,r.body.length) d).1<_∧(Lk.upd r.opn (r.depth - 1) ((r.opn (r.depth - 1)).1,r.body.length) d).2<_
   unfold Lk.upd
   have hy:=ok.inv.opn (r.depth - 1) (by omega)
   split
   ·simp;omega
   ·simp;omega
  ·cases h
 rw[if_neg b10] at h
 by_cases b11:(Lk.wd ws 0==[101,110,100])=true
 ·rw[if_pos b11] at h
  unfold Lk.takeEnd at h
  split at h
  ·rename_i hc
   cases h
   have hlen: ∀ (c:Prop) [Decidable c] (a b:Nat) (x y z:Lk.St),((if c then r.body.set a x else r.body.set b y)++[z]).length=r.body.length+1:=by
    intro c _ a b x y z
    split <;> simp
   refine ⟨⟨⟨by have:=ok.inv.dep;show r.depth - 1≤4;omega,fun d hd=>?_⟩,ok.sec⟩,by rw[hlen];omega⟩
   have hd:d<r.depth - 1:=hd
   have hx:=ok.inv.opn d (by omega)
   show (r.opn d).1<_∧(r.opn d).2<_
   rw[hlen]
   omega
  ·cases h
 rw[if_neg b11] at h
 unfold Lk.GN at h
 split at h
 ·split at h
  ·split at h
   ·exact hadd h
   ·split at h
    ·exact hadd h
    ·cases h
  ·cases h
 ·cases h
theorem eD (r:Lk.RS) (n:Nat) (l:Lk.Wd) (ls:List Lk.Wd) (h:ls≠[]):Lk.lines r n (l::ls)=match Lk.take r (Lk.cut 32 l) with|some r'=>Lk.lines r' (n+1) ls|none=>(r,n+1):=by
 cases ls with
 |nil=>exact absurd rfl h
 |cons m ls=>
  conv=>lhs;unfold Lk.lines
  cases Lk.take r (Lk.cut 32 l) <;> rfl
def zeros:Array Value:= #[Value.slice none 0 0,Value.int .i64 0,Value.slice none 0 0,Value.slice none 0 0,Value.int .i64 0,Value.int .i64 0,Value.int .i64 0,Value.int .i64 0,Value.int .i64 0,Value.int .i64 0,Value.int .i64 0,Value.int .i64 0,Value.int .i64 0,Value.int .i64 0,Value.int .i64 0,Value.int .i64 0,Value.int .i64 0,Value.int .i64 0,Value.int .i64 0,Value.int .i64 0,Value.int .i64 0,Value.int .i64 0,Value.int .i64 0,Value.int .i64 0,Value.int .i64 0,Value.int .i64 0,Value.int .i64 0,Value.int .i64 0,Value.int .i64 0,Value.int .i64 0,Value.int .i64 0,Value.int .i64 0,Value.int .i64 0,Value.int .i64 0,Value.int .i64 0,Value.int .i64 0,Value.int .i64 0,Value.int .i64 0,Value.int .i64 0,Value.int .i64 0,Value.int .i64 0,Value.int .i64 0,Value.int .i64 0,Value.int .i64 0,Value.int .i64 0,Value.int .i64 0,Value.int .i64 0,Value.int .i64 0,Value.int .i64 0,Value.int .i64 0,Value.int .i64 0,Value.int .i64 0,Value.int .i64 0,Value.int .i64 0,Value.int .i64 0,Value.int .i64 0,Value.slice none 0 0,Value.int .i64 0,Value.int .i64 0,Value.int .i64 0,Value.int .i64 0,Value.int .i64 0,Value.int .i64 0,Value.int .i64 0,Value.int .i64 0,Value.int .i64 0,Value.int .i64 0]
theorem vF: ∀ i,i<67→zeros[i]? =some (Ac {} (.slice none 0 0) (.slice none 0 0) (.slice none 0 0) (.slice none 0 0) i)
 |0,_=>rfl
 |1,_=>rfl
 |2,_=>rfl
 |3,_=>rfl
 |4,_=>rfl
 |5,_=>rfl
 |6,_=>rfl
 |7,_=>rfl
 |8,_=>rfl
 |9,_=>rfl
 |10,_=>rfl
 |11,_=>rfl
 |12,_=>rfl
 |13,_=>rfl
 |14,_=>rfl
 |15,_=>rfl
 |16,_=>rfl
 |17,_=>rfl
 |18,_=>rfl
 |19,_=>rfl
 |20,_=>rfl
 |21,_=>rfl
 |22,_=>rfl
 |23,_=>rfl
 |24,_=>rfl
 |25,_=>rfl
 |26,_=>rfl
 |27,_=>rfl
 |28,_=>rfl
 |29,_=>rfl
 |30,_=>rfl
 |31,_=>rfl
 |32,_=>rfl
 |33,_=>rfl
 |34,_=>rfl
 |35,_=>rfl
 |36,_=>rfl
 |37,_=>rfl
 |38,_=>rfl
 |39,_=>rfl
 |40,_=>rfl
 |41,_=>rfl
 |42,_=>rfl
 |43,_=>rfl
 |44,_=>rfl
 |45,_=>rfl
 |46,_=>rfl
 |47,_=>rfl
 |48,_=>rfl
 |49,_=>rfl
 |50,_=>rfl
 |51,_=>rfl
 |52,_=>rfl
 |53,_=>rfl
 |54,_=>rfl
 |55,_=>rfl
 |56,_=>rfl
 |57,_=>rfl
 |58,_=>rfl
 |59,_=>rfl
 |60,_=>rfl
 |61,_=>rfl
 |62,_=>rfl
 |63,_=>rfl
 |64,_=>rfl
 |65,_=>rfl
 |66,_=>rfl
 |n+67,h=>absurd h (by omega)
theorem rS (w:World):BF (w.alloc (.cells zeros 93)) w.heap.size w.heap.size {} (.slice none 0 0) (.slice none 0 0) (.slice none 0 0):=by
 refine ⟨?_,Nat.le_refl _,World.ownsRow_nil _ _ _ _,World.ownsRow_nil _ _ _ _,World.ownsRow_nil _ _ _ _,?_,?_,?_,.inl rfl,.inl rfl,.inl rfl⟩
 ·exact World.rowIs_alloc w zeros 93 _ (fun i hi=>vF i hi)
 all_goals simp[Value.ownBlock]
theorem kE {w:World} {base g cap:Nat} {ws:List ByteArray} (h:w.ownsRow base 9 1 (.slice (some ⟨g,0,none⟩) ws.length cap) ws.length (ws.map Value.string)):CD w g ws:=by
 intro i hi
 rw[h.cellAt i (by omega)]
 simp[hi]
theorem kH {ws:List ByteArray} {c:UInt8} {l:Lk.Wd} (h:ws.map ByteArray.toList=Lk.cut c l):0<ws.length:=by
 have:=Lk.Ip c l
 rw[←h] at this
 cases ws with
 |nil=>simp at this
 |cons x xs=>simp
theorem V6 {w W wr w1 w2:World} {i:Nat} {v:Value} (hb:Below (w.heap.size+1) W wr) (hb1:Below wr.heap.size wr w1) (hb2:Below (w.heap.size+1) w1 w2) (hsz:W.heap.size=w.heap.size+2) (h:W.cell? ⟨w.heap.size,i,none⟩=some v):w2.cell? ⟨w.heap.size,i,none⟩=some v:=by
 have z:=hb.size
 rw[hb2.cell (by simp),hb1.cell (by simp;omega),hb.cell (by simp)];exact h
theorem nW {w W wr w1 w2:World} (hb:Below (w.heap.size+1) W wr) (hb1:Below wr.heap.size wr w1) (hb2:Below (w.heap.size+1) w1 w2) (hsz:W.heap.size=w.heap.size+2) (h: ∀ i,W.frozen? ⟨w.heap.size,i,none⟩=false): ∀ i,w2.frozen? ⟨w.heap.size,i,none⟩=false:=by
 intro i
 have z:=hb.size
 rw[hb2.frozen (by simp),hb1.frozen (by simp;omega),hb.frozen (by simp)];exact h i
theorem qE {w W wr w1 w2:World} (hb0:Below w.heap.size w W) (hb:Below (w.heap.size+1) W wr) (hb1:Below wr.heap.size wr w1) (hb2:Below (w.heap.size+1) w1 w2) (hsz:W.heap.size=w.heap.size+2):Below w.heap.size w w2:=by
 have z:=hb.size
 exact ((hb0.trans (hb.mono (by omega))).trans (hb1.mono (by omega))).trans (hb2.mono (by omega))
theorem Va {w W wr:World} {i:Nat} {v:Value} (hb:Below (w.heap.size+1) W wr) (hsz:W.heap.size=w.heap.size+2) (h:W.cell? ⟨w.heap.size,i,none⟩=some v):wr.cell? ⟨w.heap.size,i,none⟩=some v:=by
 rw[hb.cell (by simp)];exact h
theorem qF {w W wr:World} (hb:Below (w.heap.size+1) W wr) (hsz:W.heap.size=w.heap.size+2) (h: ∀ i,W.frozen? ⟨w.heap.size,i,none⟩=false): ∀ i,wr.frozen? ⟨w.heap.size,i,none⟩=false:=by
 intro i
 rw[hb.frozen (by simp)];exact h i
theorem Yb {w W wr:World} (hb0:Below w.heap.size w W) (hb:Below (w.heap.size+1) W wr):Below w.heap.size w wr:=hb0.trans (hb.mono (by omega))
theorem dU {w:World} {base base':Nat} {e:TypeId} {size:Nat} {v:Value} {n:Nat} {xs:List Value} (h:w.ownsRow base e size v n xs) (hb:base'≤base):w.ownsRow base' e size v n xs:=by
 refine ⟨h.1,?_⟩
 rcases h.2 with hn|⟨g,cap,cur,rfl,hb',rest⟩
 ·exact .inl hn
 ·exact .inr ⟨g,cap,cur,rfl,Nat.le_trans hb hb',rest⟩
theorem ZC {w1:World} {N base:Nat} {e:TypeId} {size:Nat} {v:Value} {n:Nat} {xs:List Value} (h:w1.ownsRow base e size v n xs) (hN:N+1≤base) (hne:v.ownBlock≠some (N+1)) (u0 u1 u2 u3 u4:Value):
  (((((w1.setCell ⟨N+1,3,none⟩ u0).setCell ⟨N,0,none⟩ u1).setCell ⟨N,1,none⟩ u2).setCell ⟨N,2,none⟩ u3).setCell ⟨N,3,none⟩ u4).ownsRow N e size v n xs:=by
 have XA:v.ownBlock≠some N:=fun e=>by have:=(h.lt _ e).1;omega
 exact dU (BC (BC (BC (BC (BC h hne u0) XA u1) XA u2) XA u3) XA u4) (by omega)
structure ZE (w w':World) (e:Ending) (o:Lk.RS×Nat):Prop where
 A8:Below w.heap.size w w'
 bad:o.2≠0→e=.returned (.tuple #[.agg #[.slice none 0 0,.int .i64 0,.slice none 0 0,.slice none 0 0],.int .i64 o.2])
 good:o.2=0→ ∃ vs vc vk,e=.returned (.tuple #[.agg #[vs,.int .i64 o.1.vars,vc,vk],.int .i64 0])∧w'.ownsRow w.heap.size 4 1 vs o.1.Ah.length (o.1.Ah.map Value.bool)∧
  w'.ownsRow w.heap.size 3 1 vc o.1.cells.length (o.1.cells.map fun (n:Nat)=>.int .i64 n)∧w'.ownsRow w.heap.size 147 10 vk (Lk.link o.1.body).length (flat (Lk.link o.1.body))
theorem rT (s:ByteArray) (w:World) (h:600<s.size):Calls Tryz.prog 16 #[.string s] w fun e w'=>ZE w w' e (Lk.read s.toList):=by
 have hS:Lk.read s.toList=({},1):=by unfold Lk.read;rw[if_pos (by rw[Bx];exact h)]
 rw[hS]
 have hI:(600:Int)<(s.size:Int):=by omega
 go_enter Tryz.func16,Tryz.ntmps16
 go_wp2_with fail
 refine bodyPost_ret (v:=.tuple #[.agg #[.slice none 0 0,.int .i64 0,.slice none 0 0,.slice none 0 0],.int .i64 1]) (by simp[results,Tryz.results16,go_sem]) rfl ⟨?_,fun _=>rfl,fun h=>by simp at h⟩
 exact (Below.refl _ _).alloc (Nat.le_refl _) _
theorem qG (s:ByteArray) (w:World) (h:s.size≤600):Calls Tryz.prog 16 #[.string s] w fun e w'=>ZE w w' e (Lk.read s.toList):=by
 obtain ⟨O,hO⟩: ∃ O,Lk.read s.toList=O:=⟨_,rfl⟩
 rw[hO]
 have hS:Lk.lines {} 0 (Lk.cut 10 s.toList)=O:=by rw[←hO];unfold Lk.read;rw[if_neg (by rw[Bx];omega)]
 have HS:=hid hS
 clear hS hO
 have hI:(s.size:Int)≤600:=by omega
 go_enter Tryz.func16,Tryz.ntmps16
 go_wp2_with fail
 generalize hW:World.alloc (World.alloc _ _) _=W
 have hsz:W.heap.size=w.heap.size+2:=by rw[←hW];simp
 have R0:Hid (BF W (w.heap.size+1) (w.heap.size+1) {} (.slice none 0 0) (.slice none 0 0) (.slice none 0 0)):=by
  rw[←hW]
  have:=rS (w.alloc (.cells #[.slice none 0 0,.int .i64 0,.slice none 0 0,.slice none 0 0] 45))
  rw[show (w.alloc (.cells #[.slice none 0 0,.int .i64 0,.slice none 0 0,.slice none 0 0] 45)).heap.size=w.heap.size+1 from by simp] at this
  exact this
 have B0:Hid (Below w.heap.size w W):=by rw[←hW];exact ((Below.refl _ _).alloc (Nat.le_refl _) _).alloc (by simp) _
 have blk:W.heap[w.heap.size]? =some (.cells #[.slice none 0 0,.int .i64 0,.slice none 0 0,.slice none 0 0] 45):=by
  rw[←hW,Below.heap_alloc _ _ _ (by simp)];exact heap_alloc_new w _
 have x0:=cellAt blk 0 _ rfl
 have x1:=cellAt blk 1 _ rfl
 have x2:=cellAt blk 2 _ rfl
 have x3:=cellAt blk 3 _ rfl
 have hfz: ∀ i,W.frozen? ⟨w.heap.size,i,none⟩=false:=fun i=>by simp[World.frozen?,blk]
 clear hW blk
 go_loopw [5,6,7] (fun en st i wr=> ∃ (k a n:Nat) (r:Lk.RS) (vs vc vb:Value),k≤s.size∧a≤k∧i=.int .i64 k∧st=.int .i64 a∧en=.int .i64 n∧n≤a∧r.body.length≤n∧BF wr (w.heap.size+1) (w.heap.size+1) r vs vc vb∧Ok r∧Below (w.heap.size+1) W wr∧
   Lk.lines r n (Lk.cut 10 (s.toList.drop a))=O∧(∀ j,a≤j→j<k→s.toList[j]? ≠some 10)) (fun _ _ i _=>s.size - (intOf i).toNat)
 case atStart=>exact ⟨0,0,0,{},_,_,_,Nat.zero_le _,Nat.le_refl _,rfl,rfl,rfl,Nat.le_refl _,Nat.le_refl _,R0.out,vE,Below.refl _ _,HS.out,fun j _ hj=>by omega⟩
 case round=>
  obtain ⟨k,a,n,r,vs,vc,vb,hk,ha,rfl,rfl,rfl,hna,hbn,hr,hok,hb,hl,hno⟩:=hrel
  have HR:=hid hr
  have HB:=hid hb
  have HL:=hid hl
  have HN:=hid hno
  have hlt:=hr.lt
  have hsw:=hb.size
  have Fj:(n:Int)≤600:=by omega
  clear hr hb hl hno
  by_cases hks:k<s.size
  ·by_cases hnl:s[k]=10
   ·have ag0:(((s[k].toNat:Int)) !=10)=false:=by rw[hnl];rfl
    have cm:=hid hnl
    clear hnl
    have hstep:=Lk.YZ 10 s.toList a k ha (by rw[En s k hks,cm.out]) HN.out
    have hseg:(s.extract a k).toList=(s.toList.drop a).take (k - a):=extract_toList s a k
    have GZ:Hid (Lk.lines r n ((s.extract a k).toList::Lk.cut 10 (s.toList.drop (k+1)))=O):=by
     rw[hseg, ←hstep];exact HL.out
    clear hstep hseg
    have hes:(s.extract a k).size≤1000000:=by rw[←Bx,extract_toList];simp;omega
    have Hes:=hid hes
    clear hes
    obtain ⟨T,hT⟩: ∃ T,Lk.take r (Lk.cut 32 (s.extract a k).toList)=T:=⟨_,rfl⟩
    have HT:=hid hT
    clear hT
    cases T with
    |none=>
     have HO:Hid (O=(r,n+1)):=by
      show O=_
      rw[←GZ.out,eD _ _ _ _ (Lk.Ip 10 _),HT.out]
     clear GZ
     go_wp2_with (first
      |(go_at_call 33;refine (fQ _ _ Hes.out).mono ?_;rintro e w1 ⟨g,cap,ws,rfl,hws,hown,hb1⟩;have J2:=hid hws;have HOW:=hid hown;have AL:=hid hb1;have z1:=hb1.size;clear hws hown hb1)
      |(go_at_call 34;refine (gm r vs vc vb (w.heap.size+1) (w.heap.size+1) g cap ws _ (HR.out.below AL.out) ?_ ?_ hok.inv hok.sec ?_).mono ?_;exact kE HOW.out;omega;exact kH J2.out;rintro e w2 ⟨rfl,T2⟩;rw[J2.out,HT.out] at T2;have B2:=T2.A8;have AP:=hid B2;rw[J2.out,HT.out];have q0:=V6 HB.out AL.out AP.out hsz x0;have q1:=V6 HB.out AL.out AP.out hsz x1;have q2:=V6 HB.out AL.out AP.out hsz x2;have q3:=V6 HB.out AL.out AP.out hsz x3;have p0:=nW HB.out AL.out AP.out hsz hfz;clear T2 B2))
     refine bodyPost_ret (v:=.tuple #[.agg #[.slice none 0 0,.int .i64 0,.slice none 0 0,.slice none 0 0],.int .i64 (n+1)]) (by simp[results,Tryz.results16,go_sem,q0,q1,q2,q3]) rfl ?_
     rw[HO.out]
     exact ⟨((((qE B0.out HB.out AL.out AP.out hsz).setCell (Nat.le_refl _) _).setCell (Nat.le_refl _) _).setCell (Nat.le_refl _) _).setCell (Nat.le_refl _) _,fun _=>rfl,fun h=>by simp at h⟩
    |some r'=>
     have HO:Hid (Lk.lines r' (n+1) (Lk.cut 10 (s.toList.drop (k+1)))=O):=by
      show _=O
      rw[←GZ.out,eD _ _ _ _ (Lk.Ip 10 _),HT.out]
     clear GZ
     have ll:=zB HT.out hok
     have Ef:=hid ll
     clear ll
     go_wp2_with (first
      |(go_at_call 33;refine (fQ _ _ Hes.out).mono ?_;rintro e w1 ⟨g,cap,ws,rfl,hws,hown,hb1⟩;have J2:=hid hws;have HOW:=hid hown;have AL:=hid hb1;have z1:=hb1.size;clear hws hown hb1)
      |(go_at_call 34;refine (gm r vs vc vb (w.heap.size+1) (w.heap.size+1) g cap ws _ (HR.out.below AL.out) ?_ ?_ hok.inv hok.sec ?_).mono ?_;exact kE HOW.out;omega;exact kH J2.out;rintro e w2 ⟨rfl,T2⟩;rw[J2.out,HT.out] at T2;have PA:=hid T2;rw[J2.out,HT.out];clear T2))
     go_roundw
     case rel=>
      obtain ⟨vs2,vc2,XB,R2⟩:=PA.out.rep r' rfl
      exact ⟨k+1,k+1,n+1,r',vs2,vc2,XB,by omega,Nat.le_refl _,by go_num,by go_num,by go_num,by omega,by have:=Ef.out.2;omega,R2,Ef.out.1,(HB.out.trans (AL.out.mono (by omega))).trans PA.out.A8,HO.out,fun j h1 h2=>by omega⟩
     case measure=>simp[intOf];omega
   ·have ag0:(((s[k].toNat:Int)) !=10)=true:=by
     simp;intro h;exact hnl (UInt8.toNat_inj.1 (by rw[show (10:UInt8).toNat=10 from rfl];omega))
    have cm:=hid hnl
    clear hnl
    go_wp2_with fail
    go_roundw
    case rel=>
     refine ⟨k+1,a,n,r,vs,vc,vb,by omega,by omega,by go_num,rfl,rfl,hna,hbn,HR.out,hok,HB.out,HL.out,?_⟩
     intro j h1 h2
     by_cases hj:j=k
     ·subst hj;rw[En s j hks];intro h;exact cm.out (by simpa using h)
     ·exact HN.out j h1 (by omega)
    case measure=>simp[intOf];omega
  ·have BH:k=s.size:=by omega
   have HO:Hid (Lk.lines r n [s.toList.drop a]=O):=by
    show _=O
    rw[←Lk.Y_ 10 s.toList a (by rw[Bx, ←BH];exact HN.out)];exact HL.out
   clear HL
   have lu:=HR.out.row.cell (i:=66) (by omega)
   rw[show Ac r vs vc (.slice none 0 0) vb 66=.int .i64 r.depth from rfl] at lu
   have q0:=Va HB.out hsz x0
   have q1:=Va HB.out hsz x1
   have q2:=Va HB.out hsz x2
   have q3:=Va HB.out hsz x3
   have p0:=qF HB.out hsz hfz
   have HX:=hid (And.intro x0 (And.intro x1 (And.intro x2 x3)))
   clear x0 x1 x2 x3 hfz
   by_cases has:a<s.size
   ·have BR:Hid (O=(r,n+1)):=by
     show O=_
     rw[←HO.out];unfold Lk.lines;rw[if_neg (by simp;intro h1;rw[Bx] at h1;omega)]
    have ag1:(a:Int)<(s.size:Int):=by omega
    clear HO BH
    go_wp2_with fail
    refine bodyPost_ret (v:=.tuple #[.agg #[.slice none 0 0,.int .i64 0,.slice none 0 0,.slice none 0 0],.int .i64 (n+1)]) (by simp[results,Tryz.results16,go_sem,q0,q1,q2,q3]) rfl ?_
    rw[BR.out]
    exact ⟨((((Yb B0.out HB.out).setCell (Nat.le_refl _) _).setCell (Nat.le_refl _) _).setCell (Nat.le_refl _) _).setCell (Nat.le_refl _) _,fun _=>rfl,fun h=>by simp at h⟩
   ·have ag1: ¬(a:Int)<(s.size:Int):=by omega
    have hl0:(s.toList.drop a).length=0:=by simp;rw[Bx];omega
    by_cases hd0:r.depth=0
    ·have BR:Hid (O=(r,0)):=by
      show O=_
      rw[←HO.out];unfold Lk.lines;rw[if_pos ⟨hl0,hd0⟩]
     rw[hd0] at lu
     have g0:=HR.out.row.cell (i:=0) (by omega)
     have g1:=HR.out.row.cell (i:=1) (by omega)
     have g2:=HR.out.row.cell (i:=2) (by omega)
     have g3:=HR.out.row.cell (i:=3) (by omega)
     have gf:=HR.out.row.frozen 3
     simp only[show Ac r vs vc (.slice none 0 0) vb 0=vs from rfl,show Ac r vs vc (.slice none 0 0) vb 1=.int .i64 r.vars from rfl,show Ac r vs vc (.slice none 0 0) vb 2=vc from rfl,show Ac r vs vc (.slice none 0 0) vb 3=.slice none 0 0 from rfl] at g0 g1 g2 g3
     obtain ⟨Bj,cs0,hvs⟩:=AX HR.out.sec
     obtain ⟨ac,cc,KH⟩:=AX HR.out.AR
     subst hvs KH
     clear HO BH hl0 hd0
     go_wp2_with (first|(go_at_call 35;refine (vC r _ _ vb (w.heap.size+1) (w.heap.size+1) _ HR.out ?_).mono ?_;omega;rintro e w1 ⟨v,rfl,hown,hb1⟩;obtain ⟨al,cl,hvl⟩:=AX hown;subst hvl;have HOW:=hid hown;have AL:=hid hb1;have z1:=hb1.size;have k0:=cell_later hb1 g0;have k1:=cell_later hb1 g1;have k2:=cell_later hb1 g2;have k3:=cell_later hb1 g3;have kf:=(hb1.frozen (p:=⟨w.heap.size+1,3,none⟩) hlt).trans gf;have l0:=cell_later hb1 q0;have l1:=cell_later hb1 q1;have l2:=cell_later hb1 q2;have l3:=cell_later hb1 q3;have lf:=fun i=>(hb1.frozen (p:=⟨w.heap.size,i,none⟩) (by show w.heap.size<wr.heap.size;omega)).trans (p0 i);clear hown hb1))
     refine bodyPost_ret (v:=.tuple #[.agg #[.slice Bj r.Ah.length cs0,.int .i64 r.vars,.slice ac r.cells.length cc,.slice al (Lk.link r.body).length cl],.int .i64 0]) (by simp[results,Tryz.results16,go_sem,l0,l1,l2,l3]) rfl ?_
     rw[BR.out]
     have z0:=HB.out.size
     refine ⟨?_,fun h=>absurd rfl h,fun _=>⟨_,_,_,rfl,ZC (CL HR.out.sec AL.out.block) (by omega) HR.out.ns _ _ _ _ _,ZC (CL HR.out.AR AL.out.block) (by omega) HR.out.nc _ _ _ _ _,ZC HOW.out (by omega) (fun e=>by have:=(HOW.out.lt _ e).1;omega) _ _ _ _ _⟩⟩
     exact ((((((Yb B0.out HB.out).trans (AL.out.mono (by omega))).setCell (Nat.le_succ _) _).setCell (Nat.le_refl _) _).setCell (Nat.le_refl _) _).setCell (Nat.le_refl _) _).setCell (Nat.le_refl _) _
    ·have BR:Hid (O=(r,n+1)):=by
      show O=_
      rw[←HO.out];unfold Lk.lines;rw[if_neg (fun h=>hd0 h.2)]
     have Eu:(0:Int)<(r.depth:Int):=by omega
     clear HO BH hl0 hd0
     go_wp2_with fail
     refine bodyPost_ret (v:=.tuple #[.agg #[.slice none 0 0,.int .i64 0,.slice none 0 0,.slice none 0 0],.int .i64 (n+1)]) (by simp[results,Tryz.results16,go_sem,q0,q1,q2,q3]) rfl ?_
     rw[BR.out]
     exact ⟨((((Yb B0.out HB.out).setCell (Nat.le_refl _) _).setCell (Nat.le_refl _) _).setCell (Nat.le_refl _) _).setCell (Nat.le_refl _) _,fun _=>rfl,fun h=>by simp at h⟩
theorem gp (s:ByteArray) (w:World):Calls Tryz.prog 16 #[.string s] w fun e w'=>ZE w w' e (Lk.read s.toList):=by
 by_cases h:s.size≤600
 ·exact qG s w h
 ·exact rT s w (by omega)
end Go.Proofs.YtgddmpmcnjlcjaaGreatDoor
