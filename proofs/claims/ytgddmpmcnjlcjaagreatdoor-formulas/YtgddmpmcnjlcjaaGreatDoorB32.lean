import Derived.Test.YtgddmpmcnjlcjaaGreatDoorB01
import Derived.Test.YtgddmpmcnjlcjaaGreatDoorB31
import Derived.Laws.IdiomStrings
import Derived.Test.YtgddmpmcnjlcjaaGreatDoorB03
set_option maxRecDepth 100000
set_option maxHeartbeats 1000000
namespace Go.Proofs.YtgddmpmcnjlcjaaGreatDoor
open Go.RowKit
set_option linter.unusedVariables false
theorem toList_append (a b:ByteArray):(a++b).toList=a.toList++b.toList:=by
 rw[ByteArray.toList_eq,ByteArray.toList_eq,ByteArray.toList_eq];simp
theorem wz (L:List UInt8) (a k:Nat) (c:UInt8) (ha:a≤k) (hk:L[k]? =some c):(L.drop a).take (k - a)++[c]=(L.drop a).take (k+1 - a):=by
 obtain ⟨hlt,hv⟩:=List.getElem?_eq_some_iff.1 hk
 rw[show k+1 - a=(k - a)+1 by omega,List.take_succ_eq_append_getElem (by simp;omega)]
 simp[←hv,show a+(k - a)=k by omega]
theorem take_one (s:ByteArray) (k:Nat) (h:k<s.size):(s.toList.drop k).take 1=[s[k]]:=by
 have h1:k<s.toList.length:=by rw[Bx];exact h
 have h2:=En s k h
 rw[List.getElem?_eq_getElem h1] at h2
 rw[List.drop_eq_getElem_cons h1,List.take_succ_cons,List.take_zero,Option.some.inj h2]
theorem ZN (s:ByteArray) (c:UInt8) (w:World) (hs:s.size≤1000000000):
  Calls Tryz.prog 25 #[.string s,.int .u8 c.toNat] w fun e w'=> ∃ (g cap:Nat) (ws:List ByteArray),e=.returned (.slice (some ⟨g,0,none⟩) ws.length cap)∧ws.map ByteArray.toList=Lk.cut c s.toList∧
   w'.ownsRow w.heap.size 9 1 (.slice (some ⟨g,0,none⟩) ws.length cap) ws.length (ws.map Value.string)∧Below w.heap.size w w':=by
 obtain ⟨i0,hi,hz0,hz1,hz2⟩:=info_parts Tryz.SL
 go_enter Tryz.func25,Tryz.ntmps25
 go_wp2
 go_loopw [5,6,7] (fun t v i wr=> ∃ (k a:Nat) (tb:ByteArray) (ws:List ByteArray),k≤s.size∧a≤k∧i=.int .i64 k∧t=.string tb∧tb.toList=(s.toList.drop a).take (k - a)∧wr.ownsRow w.heap.size 9 1 v ws.length (ws.map Value.string)∧Below w.heap.size w wr∧
   ws.length≤k∧ws.map ByteArray.toList++Lk.cut c (s.toList.drop a)=Lk.cut c s.toList∧(∀ j,a≤j→j<k→s.toList[j]? ≠some c))
  (fun _ _ i _=>s.size - (intOf i).toNat)
 case atStart=>exact ⟨0,0,_,[],Nat.zero_le _,Nat.le_refl _,rfl,rfl,by simp,World.ownsRow_nil _ _ _ _,Below.refl _ _,Nat.le_refl _,rfl,fun j _ h=>by omega⟩
 case round=>
  obtain ⟨k,a,tb,ws,hk,ha,rfl,rfl,htb,hown,hnx,NT,hcut,hno⟩:=hrel
  have Og:=hid hcut
  have G7:=hid hno
  have Xa:=hid htb
  clear hcut hno htb
  by_cases hlt:k<s.size
  ·by_cases hsp:s[k]=c
   ·have aR:(((s[k].toNat:Int))==(c.toNat:Int))=true:=by rw[hsp];simp
    have P8:=hid hsp
    clear hsp
    go_wp2_with (first|(at_builtin;refine wpList_append_lies _ rfl _ _ 69 rfl w.heap.size 9 i0 _ 1 16 Tryz.underlying69 hi hz0 hz1 hz2 rfl (by omega) _ ws.length (ws.map Value.string) rfl (hown.alloc _) ⟨wr.heap.size,0,none⟩ 1 1 [.string tb] rfl rfl (cell_one_new _ _ _) (by simp[Value.oneCell']) (by omega) (by unfold maxLen;omega) (by omega) (by have:=hnx.size;simp;omega) (wr.heap.size+1) (by simp) ?_;intro g cap w1 hown1 hgrow hat Bk))
    go_roundw
    case rel=>
     refine ⟨k+1,k+1,_,ws++[tb],by omega,Nat.le_refl _,by go_num,rfl,by simp,by simpa using hown1,?_,by simp;omega,?_,fun j h1 h2=>by omega⟩
     ·exact Below.grown (hnx.alloc hnx.size _) hgrow (by have:=hnx.size;simp;omega) (fun q hq=>(hown.lt q hq).1)
     ·rw[←Og.out,Lk.YZ c s.toList a k ha (by rw[En s k hlt,P8.out]) G7.out,List.map_append,List.append_assoc]
      simp[Xa.out]
    case measure=>simp[intOf];omega
   ·have aR:(((s[k].toNat:Int))==(c.toNat:Int))=false:=by
     simp;intro h;exact hsp (UInt8.toNat_inj.1 (by omega))
    have P8:=hid hsp
    clear hsp
    have htz:tb.size≤k:=by rw[←Bx,show tb.toList=_ from Xa.out];simp;omega
    have hcc: ¬9223372036854775807<tb.size+(min (k+1) s.size - k):=by omega
    go_wp2
    go_roundw
    case rel=>
     refine ⟨k+1,a,_,ws,by omega,by omega,by go_num,rfl,?_,hown,hnx,by omega,Og.out,?_⟩
     ·rw[toList_append,extract_toList,show tb.toList=_ from Xa.out, ←wz s.toList a k s[k] ha (En s k hlt)]
      rw[show k+1 - k=1 by omega,take_one s k hlt]
     ·intro j h1 h2
      by_cases hj:j=k
      ·subst hj;rw[En s j hlt];intro h;exact P8.out (by simpa using h)
      ·exact G7.out j h1 (by omega)
    case measure=>simp[intOf];omega
  ·have hks:k=s.size:=by omega
   have Hks:=hid hks
   clear hks
   go_wp2_with (first|(at_builtin;refine wpList_append_lies _ rfl _ _ 69 rfl w.heap.size 9 i0 _ 1 16 Tryz.underlying69 hi hz0 hz1 hz2 rfl (by omega) _ ws.length (ws.map Value.string) rfl (hown.alloc _) ⟨wr.heap.size,0,none⟩ 1 1 [.string tb] rfl rfl (cell_one_new _ _ _) (by simp[Value.oneCell']) (by omega) (by unfold maxLen;omega) (by omega) (by have:=hnx.size;simp;omega) (wr.heap.size+1) (by simp) ?_;intro g cap w1 hown1 hgrow hat Bk))
   go_ret
   refine ⟨g,cap,ws++[tb],by simp,?_,by simpa using hown1,?_⟩
   ·rw[←Og.out,Lk.Y_ c s.toList a (by rw[Bx, ←show k=_ from Hks.out];exact G7.out)]
    simp only[List.map_append,List.map_cons,List.map_nil]
    rw[Xa.out,List.take_of_length_le (by simp[Bx, ←show k=_ from Hks.out])]
   ·exact Below.grown (hnx.alloc hnx.size _) hgrow (by have:=hnx.size;simp;omega) (fun q hq=>(hown.lt q hq).1)
theorem Vy (s:ByteArray) (c:UInt8) (w:World) (hs:s.size≤1000000):
  Calls Tryz.prog 25 #[.string s,.int .u8 c.toNat] w fun e w'=> ∃ (g cap:Nat) (ws:List ByteArray),e=.returned (.slice (some ⟨g,0,none⟩) ws.length cap)∧ws.map ByteArray.toList=Lk.cut c s.toList∧
   w'.ownsRow w.heap.size 9 1 (.slice (some ⟨g,0,none⟩) ws.length cap) ws.length (ws.map Value.string)∧Below w.heap.size w w':=
 ZN s c w (by omega)
def dec (n:Nat):List UInt8:=if n<10 then [(48+n).toUInt8] else [49,(38+n).toUInt8]
theorem lJ (w:World) (b:UInt8) (x:Int) (hx:x=b.toNat):(convert 103 9 (.slice (some ⟨w.heap.size,0,none⟩) 1 1)).run Tryz.prog (w.alloc (.cells #[.int .u8 x] 5))=.ok (.string ⟨#[b]⟩) (w.alloc (.cells #[.int .u8 x] 5)):=by
 have:=run_convert_bytes_back (P:=Tryz.prog) (w.alloc (.cells #[.int .u8 x] 5)) 103 9 5 ⟨w.heap.size,0,none⟩ 1 [b] Tryz.underlying103 Tryz.underlying5 Tryz.underlying9 (by
  intro j hj
  simp at hj
  subst hj
  have:=cell_of_row (w.alloc (.cells #[.int .u8 x] 5)) w.heap.size 0 #[.int .u8 x] 5 (0,0) (heap_alloc_new w _)
  rw[show (⟨w.heap.size,0,none⟩:Addr).add 0=⟨w.heap.size,0,none⟩ from rfl,this,hx];rfl)
 exact this
theorem iI (n:Nat) (h:n<256):(n.toUInt8.toNat:Int)=n:=by simp;omega
theorem dP (n:Nat) (h:n<10) (b:UInt8) (hb:(48:Int)+n=b.toNat) (w:World):
  Calls Tryz.prog 111 #[.int .i64 n] w fun e w'=>e=.returned (.string ⟨#[b]⟩)∧Below w.heap.size w w':=by
 have h1:(n:Int)<10:=by omega
 have h0:(0:Int)≤n:=by omega
 have hm:(n:Int)%10=n:=by omega
 have hcv:=lJ w b (48+n) hb
 clear hb
 go_enter Tryz.func111,Tryz.ntmps111
 go_wp2_with fail
 go_ret
 exact ⟨rfl,(Below.refl _ _).alloc (Nat.le_refl _) _⟩
theorem p7 (n:Nat) (h:10≤n) (h2:n<16) (b:UInt8) (hb:(38:Int)+n=b.toNat) (w:World):
  Calls Tryz.prog 111 #[.int .i64 n] w fun e w'=>e=.returned (.string (⟨#[49]⟩++⟨#[b]⟩))∧Below w.heap.size w w':=by
 have h1:(10:Int)≤n:=by omega
 have h0:(n:Int)<16:=by omega
 have hm:(n:Int)%10=(n:Int) - 10:=by omega
 have hq:(n:Int)/10=1:=by omega
 have hcv:=lJ w b (48+((n:Int) - 10)) (by omega)
 clear hb
 go_enter Tryz.func111,Tryz.ntmps111
 go_wp2_with (first|(go_at_call 111;refine (dP 1 (by omega) 49 (by decide) _).mono ?_;rintro e w1 ⟨rfl,hb1⟩))
 go_ret
 exact ⟨rfl,((Below.refl _ _).alloc (Nat.le_refl _) _).trans (hb1.mono (by simp))⟩
theorem p8 (n:Nat) (h:n<16) (w:World):
  Calls Tryz.prog 111 #[.int .i64 n] w fun e w'=> ∃ d:ByteArray,e=.returned (.string d)∧d.toList=dec n∧Below w.heap.size w w':=by
 by_cases h1:n<10
 ·refine (dP n h1 (48+n).toUInt8 (by rw[iI _ (by omega)];omega) w).mono ?_
  rintro e w' ⟨rfl,hb⟩
  exact ⟨_,rfl,by rw[ByteArray.toList_eq];simp[dec,h1],hb⟩
 ·refine (p7 n (by omega) h (38+n).toUInt8 (by rw[iI _ (by omega)];omega) w).mono ?_
  rintro e w' ⟨rfl,hb⟩
  exact ⟨_,rfl,by rw[ByteArray.toList_eq];simp[dec,h1],hb⟩
theorem aaC: ∀ n,n<16→Lk.num? (dec n)=some n
 |0,_=>by decide
 |1,_=>by decide
 |2,_=>by decide
 |3,_=>by decide
 |4,_=>by decide
 |5,_=>by decide
 |6,_=>by decide
 |7,_=>by decide
 |8,_=>by decide
 |9,_=>by decide
 |10,_=>by decide
 |11,_=>by decide
 |12,_=>by decide
 |13,_=>by decide
 |14,_=>by decide
 |15,_=>by decide
 |n+16,h=>absurd h (by omega)
theorem jd {w:Lk.Wd} {n:Nat} (h:Lk.num? w=some n):w=dec n∧n<16:=by
 match w with
 |[c]=>
  have h:(if 48≤c.toNat∧c.toNat≤57 then some (c.toNat - 48) else none)=some n:=h
  split at h
  ·rename_i hc
   cases h
   refine ⟨?_,by omega⟩
   unfold dec
   rw[if_pos (by omega),show 48+(c.toNat - 48)=c.toNat by omega]
   simp
  ·cases h
 |[a,b]=>
  have h:(if a.toNat=49∧48≤b.toNat∧b.toNat≤53 then some (10+(b.toNat - 48)) else none)=some n:=h
  split at h
  ·rename_i hc
   cases h
   refine ⟨?_,by omega⟩
   unfold dec
   rw[if_neg (by omega),show 38+(10+(b.toNat - 48))=b.toNat by omega]
   have:a=49:=UInt8.toNat_inj.1 (by rw[hc.1];rfl)
   simp[this]
  ·cases h
 |[]=>simp[Lk.num?] at h
 |_::_::_::_=>simp[Lk.num?] at h
theorem Y2 (s:ByteArray) (w:World):
  Calls Tryz.prog 96 #[.string s] w fun e w'=>e=.returned (.int .i64 (Lk.Cm (Lk.num? s.toList)))∧Below w.heap.size w w':=by
 go_enter Tryz.func96,Tryz.ntmps96
 go_wp2
 go_loopw [3] (fun i wr=> ∃ k:Nat,k≤16∧i=.int .i64 k∧Below w.heap.size w wr∧(∀ j,j<k→Lk.num? s.toList≠some j)) (fun i _=>16 - (intOf i).toNat)
 case atStart=>exact ⟨0,by omega,rfl,Below.refl _ _,fun j h=>by omega⟩
 case round=>
  obtain ⟨k,hk,rfl,hb,hno⟩:=hrel
  have G7:=hid hno
  have HB:=hid hb
  have hz:=hb.size
  clear hno hb
  by_cases hlt:k<16
  ·have G0:(k:Int)<16:=by omega
   go_wp2_with (first|(go_at_call 111;refine (p8 k hlt _).mono ?_;rintro e w1 ⟨d,rfl,hd,hb1⟩;have HD:=hid hd;have AL:=hid hb1;clear hd hb1))
   ·go_ret
    have he:(s.toList==d.toList)=true:=by assumption
    have hsd:s.toList=dec k:=by rw[←show d.toList=_ from HD.out];simpa using he
    exact ⟨IK (by rw[hsd,aaC k hlt];rfl),HB.out.trans (AL.out.mono hz)⟩
   ·have he:(s.toList==d.toList)=false:=by assumption
    go_roundw
    case rel=>
     refine ⟨k+1,by omega,by go_num,HB.out.trans (AL.out.mono hz),?_⟩
     intro j hj
     by_cases hjk:j=k
     ·subst hjk
      intro hn
      have:=(jd hn).1
      rw[this,show d.toList=_ from HD.out] at he
      simp at he
     ·exact G7.out j (by omega)
    case measure=>simp[intOf];omega
  ·have G0: ¬(k:Int)<16:=by omega
   go_wp2
   go_ret
   refine ⟨IK ?_,HB.out⟩
   cases hn:Lk.num? s.toList with
   |none=>rfl
   |some n=>exact absurd hn (G7.out n (by have:=(jd hn).2;omega))
structure DB where
 name:ByteArray
 kind:ByteArray
 size:Nat
def DB.dc (d:DB):Rf.Dc:=⟨d.name.toList,d.kind.toList,d.size⟩
def A7 (l:List DB):List Rf.Dc:=l.map DB.dc
def CS (l:List DB) (i:Nat):DB:=l.getD i ⟨ByteArray.empty,ByteArray.empty,0⟩
theorem ft: ∀ (l:List DB) (w:Lk.Wd) (i:Nat),i<l.length→(∀ j,j<i→((CS l j).name.toList==w)=false)→((CS l i).name.toList==w)=true→Rf.kindOf (A7 l) w=(CS l i).kind.toList
 |[],_,_,h,_,_=>by simp at h
 |d::l,w,0,_,_,h=>by
  have h:(d.name.toList==w)=true:=h
  show (if (d.name.toList==w)=true then _ else _)=_
  rw[if_pos h];rfl
 |d::l,w,i+1,hi,hj,h=>by
  have h0:(d.name.toList==w)=false:=hj 0 (by omega)
  show (if (d.name.toList==w)=true then _ else Rf.kindOf (A7 l) w)=_
  rw[if_neg (by rw[h0];simp)]
  exact ft l w i (by simpa using hi) (fun j UQ=>hj (j+1) (by omega)) h
theorem di: ∀ (l:List DB) (w:Lk.Wd),(∀ j,j<l.length→((CS l j).name.toList==w)=false)→Rf.kindOf (A7 l) w=[]
 |[],_,_=>rfl
 |d::l,w,hj=>by
  have h0:(d.name.toList==w)=false:=hj 0 (by simp)
  show (if (d.name.toList==w)=true then _ else Rf.kindOf (A7 l) w)=_
  rw[if_neg (by rw[h0];simp)]
  exact di l w (fun j UQ=>hj (j+1) (by simpa using UQ))
theorem xA (l:List DB) (P gn gk cn ck:Nat) (s:ByteArray) (w:World) (h0:w.cell? ⟨P,0,none⟩=some (.slice (some ⟨gn,0,none⟩) l.length cn)) (h1:w.cell? ⟨P,1,none⟩=some (.slice (some ⟨gk,0,none⟩) l.length ck))
  (hn: ∀ i,i<l.length→w.cell? ⟨gn,i,none⟩=some (.string (CS l i).name)) (hk: ∀ i,i<l.length→w.cell? ⟨gk,i,none⟩=some (.string (CS l i).kind)) (hl:l.length≤1000):
  Calls Tryz.prog 94 #[.pointer (some ⟨P,0,none⟩),.string s] w fun e w'=> ∃ q:ByteArray,e=.returned (.string q)∧q.toList=Rf.kindOf (A7 l) s.toList∧w'=w:=by
 have HN:=hid hn
 have HK:=hid hk
 clear hn hk
 have DL:(l.length:Int)≤1000:=by omega
 go_enter Tryz.func94,Tryz.ntmps94
 go_wp2
 go_loop [5] (fun i=> ∃ k:Nat,k≤l.length∧i=.int .i64 k∧(∀ j,j<k→((CS l j).name.toList==s.toList)=false)) (fun i=>l.length - (intOf i).toNat)
 case atStart=>exact ⟨0,Nat.zero_le _,rfl,fun j h=>by omega⟩
 case round=>
  obtain ⟨k,hk,rfl,hno⟩:=hrel
  have G7:=hid hno
  clear hno
  by_cases hlt:k<l.length
  ·have G0:(k:Int)<(l.length:Int):=by omega
   have cn:=HN.out k hlt
   have ck:=HK.out k hlt
   cases he:((CS l k).name.toList==s.toList) with
   |true=>
    go_wp2
    go_ret
    exact ⟨_,rfl,(ft l _ k hlt G7.out he).symm,rfl⟩
   |false=>
    go_wp2
    go_round
    case rel=>
     refine ⟨k+1,by omega,by go_num,?_⟩
     intro j hj
     by_cases hjk:j=k
     ·subst hjk;exact he
     ·exact G7.out j (by omega)
    case measure=>simp[intOf];omega
  ·have G0: ¬(k:Int)<(l.length:Int):=by omega
   have BH:k=l.length:=by omega
   have UR:=hid BH
   clear BH
   go_wp2
   go_ret
   exact ⟨_,rfl,by rw[di l _ (by rw[←show k=_ from UR.out];exact G7.out)];exact dS,rfl⟩
theorem xC (P cn:Nat) (ad:Option Addr) (s:ByteArray) (w:World) (h0:w.cell? ⟨P,0,none⟩=some (.slice ad 0 cn)):
  Calls Tryz.prog 94 #[.pointer (some ⟨P,0,none⟩),.string s] w fun e w'=> ∃ q:ByteArray,e=.returned (.string q)∧q.toList=Rf.kindOf (A7 []) s.toList∧w'=w:=by
 go_enter Tryz.func94,Tryz.ntmps94
 go_wp2
 refine wp_loop_rounds 1 ?_
 rw[rounds_succ]
 go_wp2
 go_ret
 exact ⟨_,rfl,dS,rfl⟩
def N9 (l:List DB) (q:Lk.Wd) (k:Nat):Nat:=((l.take k).filter fun d=>d.kind.toList==q).length
theorem dm (l:List DB) (q:Lk.Wd):N9 l q l.length=Rf.many (A7 l) q:=by
 unfold N9 Rf.many A7
 rw[List.take_of_length_le (Nat.le_refl _),List.filter_map,List.length_map]
 rfl
theorem p9 (l:List DB) (q:Lk.Wd) (k:Nat) (h:k<l.length):N9 l q (k+1)=N9 l q k+if ((CS l k).kind.toList==q)=true then 1 else 0:=by
 unfold N9
 rw[List.take_succ_eq_append_getElem h,List.filter_append,List.length_append]
 have:CS l k=l[k]:=by simp[CS,h]
 rw[this]
 cases hk:(l[k].kind.toList==q) <;> simp[hk]
theorem fu (l:List DB) (q:Lk.Wd) (k:Nat):N9 l q k≤k:=Nat.le_trans (List.length_filter_le _ _) (List.length_take_le _ _)
theorem xD (l:List DB) (P gk ck:Nat) (s:ByteArray) (w:World) (h1:w.cell? ⟨P,1,none⟩=some (.slice (some ⟨gk,0,none⟩) l.length ck))
  (hk: ∀ i,i<l.length→w.cell? ⟨gk,i,none⟩=some (.string (CS l i).kind)) (hl:l.length≤1000):
  Calls Tryz.prog 95 #[.pointer (some ⟨P,0,none⟩),.string s] w fun e w'=>e=.returned (.int .i64 (Rf.many (A7 l) s.toList))∧w'=w:=by
 have HK:=hid hk
 clear hk
 have DL:(l.length:Int)≤1000:=by omega
 go_enter Tryz.func95,Tryz.ntmps95
 go_wp2
 go_loop [5,6] (fun n i=> ∃ k:Nat,k≤l.length∧i=.int .i64 k∧n=.int .i64 (N9 l s.toList k)) (fun _ i=>l.length - (intOf i).toNat)
 case atStart=>exact ⟨0,Nat.zero_le _,rfl,rfl⟩
 case round=>
  obtain ⟨k,hk,rfl,rfl⟩:=hrel
  have hcl:=fu l s.toList k
  have agW:(N9 l s.toList k:Int)≤1000:=by omega
  by_cases hlt:k<l.length
  ·have G0:(k:Int)<(l.length:Int):=by omega
   have ck:=HK.out k hlt
   have hst:=p9 l s.toList k hlt
   have G9:=hid hst
   clear hst
   cases he:((CS l k).kind.toList==s.toList) with
   |true=>
    have He:=hid he
    go_wp2
    go_round
    case rel=>exact ⟨k+1,by omega,by go_num,by rw[G9.out,if_pos He.out];rfl⟩
    case measure=>simp[intOf];omega
   |false=>
    have He:=hid he
    go_wp2
    go_round
    case rel=>exact ⟨k+1,by omega,by go_num,by rw[G9.out,if_neg (by rw[He.out];simp)];rfl⟩
    case measure=>simp[intOf];omega
  ·have G0: ¬(k:Int)<(l.length:Int):=by omega
   have BH:k=l.length:=by omega
   have UR:=hid BH
   clear BH
   go_wp2
   go_ret
   exact ⟨IK (by rw[←dm, ←show k=_ from UR.out]),rfl⟩
theorem xE (P ck:Nat) (ad:Option Addr) (s:ByteArray) (w:World) (h1:w.cell? ⟨P,1,none⟩=some (.slice ad 0 ck)):
  Calls Tryz.prog 95 #[.pointer (some ⟨P,0,none⟩),.string s] w fun e w'=>e=.returned (.int .i64 0)∧w'=w:=by
 go_enter Tryz.func95,Tryz.ntmps95
 go_wp2
 refine wp_loop_rounds 1 ?_
 rw[rounds_succ]
 go_wp2
 go_ret
 exact ⟨rfl,rfl⟩
theorem iJ: ∀ (l:List Lk.Wd) (w:Lk.Wd) (i:Nat),i<l.length→(∀ j,j<i→(l.getD j []==w)=false)→(l.getD i []==w)=true→Rf.oneOf w l=some i
 |[],_,_,h,_,_=>by simp at h
 |x::l,w,0,_,_,h=>by
  have h:(x==w)=true:=h
  unfold Rf.oneOf;rw[if_pos h]
 |x::l,w,i+1,hi,hj,h=>by
  have h0:(x==w)=false:=hj 0 (by omega)
  unfold Rf.oneOf
  rw[if_neg (by rw[h0];simp),iJ l w i (by simpa using hi) (fun j UQ=>hj (j+1) (by omega)) h];rfl
theorem eY: ∀ (l:List Lk.Wd) (w:Lk.Wd),(∀ j,j<l.length→(l.getD j []==w)=false)→Rf.oneOf w l=none
 |[],_,_=>rfl
 |x::l,w,hj=>by
  have h0:(x==w)=false:=hj 0 (by simp)
  unfold Rf.oneOf
  rw[if_neg (by rw[h0];simp),eY l w (fun j UQ=>hj (j+1) (by simpa using UQ))];rfl
theorem YO (l:List ByteArray) (g c:Nat) (s:ByteArray) (w:World) (hn:CD w g l) (hl:l.length≤1000):
  Calls Tryz.prog 59 #[.string s,.slice (some ⟨g,0,none⟩) l.length c] w fun e w'=>e=.returned (.int .i64 (Lk.Cm (Rf.oneOf s.toList (l.map ByteArray.toList))))∧w'=w:=by
 have HN:=hid hn
 clear hn
 have DL:(l.length:Int)≤1000:=by omega
 go_enter Tryz.func59,Tryz.ntmps59
 go_wp2
 go_loop [5] (fun i=> ∃ k:Nat,k≤l.length∧i=.int .i64 k∧(∀ j,j<k→((l.map ByteArray.toList).getD j []==s.toList)=false)) (fun i=>l.length - (intOf i).toNat)
 case atStart=>exact ⟨0,Nat.zero_le _,rfl,fun j h=>by omega⟩
 case round=>
  obtain ⟨k,hk,rfl,hno⟩:=hrel
  have G7:=hid hno
  clear hno
  by_cases hlt:k<l.length
  ·have G0:(k:Int)<(l.length:Int):=by omega
   have cn:=HN.out k hlt
   have hwd:=DT l k
   unfold Lk.wd at hwd
   have Hwd:=hid hwd
   clear hwd
   generalize l.getD k ByteArray.empty=q at cn Hwd
   cases he:(q.toList==s.toList) with
   |true=>
    have He:=hid he
    go_wp2
    go_ret
    exact ⟨IK (by rw[iJ _ _ k (by simpa using hlt) G7.out (by rw[Hwd.out];exact He.out)];rfl),rfl⟩
   |false=>
    have He:=hid he
    go_wp2
    go_round
    case rel=>
     refine ⟨k+1,by omega,by go_num,?_⟩
     intro j hj
     by_cases hjk:j=k
     ·subst hjk;rw[Hwd.out];exact He.out
     ·exact G7.out j (by omega)
    case measure=>simp[intOf];omega
  ·have G0: ¬(k:Int)<(l.length:Int):=by omega
   have BH:k=l.length:=by omega
   have UR:=hid BH
   clear BH
   go_wp2
   go_ret
   exact ⟨IK (by rw[eY _ _ (by rw[List.length_map, ←show k=_ from UR.out];exact G7.out)];rfl),rfl⟩
def Cu (vn vk vz vb:Value) (i:Nat):Value:=if i=0 then vn else if i=1 then vk else if i=2 then vz else vb
structure Ae (w:World) (base P:Nat) (l:List DB) (vn vk vz vb:Value):Prop where
 row:w.rowIs P 81 4 (Cu vn vk vz vb)
 ge:base≤P
 nm:w.ownsRow base 9 1 vn l.length (l.map fun d=>Value.string d.name)
 kd:w.ownsRow base 9 1 vk l.length (l.map fun d=>Value.string d.kind)
 sz:w.ownsRow base 3 1 vz l.length (l.map fun d=>Value.int .i64 d.size)
 np:vn.ownBlock≠some P
 kp:vk.ownBlock≠some P
 zp:vz.ownBlock≠some P
 nk:vn.ownBlock=none∨vn.ownBlock≠vk.ownBlock
 nz:vn.ownBlock=none∨vn.ownBlock≠vz.ownBlock
 kz:vk.ownBlock=none∨vk.ownBlock≠vz.ownBlock
namespace Ae
variable {w:World} {base P:Nat} {l:List DB} {vn vk vz vb:Value}
theorem lt (h:Ae w base P l vn vk vz vb):P<w.heap.size:=h.row.lt
theorem AJ (h:Ae w base P l vn vk vz vb):base≤w.heap.size:=Nat.le_of_lt (Nat.lt_of_le_of_lt h.ge h.lt)
theorem later {w':World} (h:Ae w base P l vn vk vz vb) (hb: ∀ k,k<w.heap.size→w'.heap[k]? =w.heap[k]?):Ae w' base P l vn vk vz vb:=
 ⟨h.row.of_block (hb P h.row.lt),h.ge,CL h.nm hb,CL h.kd hb,CL h.sz hb,h.np,h.kp,h.zp,h.nk,h.nz,h.kz⟩
theorem below {w':World} (h:Ae w base P l vn vk vz vb) (hb:Below w.heap.size w w'):Ae w' base P l vn vk vz vb:=h.later hb.block
theorem alloc (h:Ae w base P l vn vk vz vb) (o:Obj):Ae (w.alloc o) base P l vn vk vz vb:=h.later fun k hk=>Below.heap_alloc w o k hk
theorem drew (h:Ae w base P l vn vk vz vb):Ae w.drew base P l vn vk vz vb:=h.later fun _ _=>rfl
theorem drewN (h:Ae w base P l vn vk vz vb) (n:Nat):Ae (w.drewN n) base P l vn vk vz vb:=h.later fun _ _=>rfl
theorem grown {w':World} {R:Nat} (h:Ae w base P l vn vk vz vb) (hg:w.grownBy w' (some R)) (hP:P≠R) (hn:vn.ownBlock≠some R) (hk:vk.ownBlock≠some R) (hz:vz.ownBlock≠some R):Ae w' base P l vn vk vz vb:=
 ⟨Ad h.row hg (by simpa using hP.symm),h.ge,h.nm.kept hg (.inr hn),h.kd.kept hg (.inr hk),h.sz.kept hg (.inr hz),h.np,h.kp,h.zp,h.nk,h.nz,h.kz⟩
theorem setOther {R i:Nat} (h:Ae w base P l vn vk vz vb) (hP:P≠R) (hn:vn.ownBlock≠some R) (hk:vk.ownBlock≠some R) (hz:vz.ownBlock≠some R) (u:Value):Ae (w.setCell ⟨R,i,none⟩ u) base P l vn vk vz vb:=
 h.grown (grownBy_setCell w ⟨R,i,none⟩ u) hP hn hk hz
theorem II (h:Ae w base P l vn vk vz vb) (s:ByteArray) (hl:l.length≤1000):
  Calls Tryz.prog 94 #[.pointer (some ⟨P,0,none⟩),.string s] w fun e w'=> ∃ q:ByteArray,e=.returned (.string q)∧q.toList=Rf.kindOf (A7 l) s.toList∧w'=w:=by
 have h0:=h.row.cell (i:=0) (by omega)
 have h1:=h.row.cell (i:=1) (by omega)
 rw[show Cu vn vk vz vb 0=vn from rfl] at h0
 rw[show Cu vn vk vz vb 1=vk from rfl] at h1
 by_cases hz:l.length=0
 ·obtain ⟨ad,cp,hv⟩:=AX h.nm
  rw[hv,hz] at h0
  have:l=[]:=List.eq_nil_of_length_eq_zero hz
  rw[this]
  exact xC P cp ad s w h0
 ·obtain ⟨gn,cn,hv,_,_⟩:=h.nm.form (by omega)
  obtain ⟨gk,ck,hv2,_,_⟩:=h.kd.form (by omega)
  have BS:=h.nm
  have Jb:=h.kd
  rw[hv] at h0 BS
  rw[hv2] at h1 Jb
  refine xA l P gn gk cn ck s w h0 h1 (fun i hi=>?_) (fun i hi=>?_) hl
  ·rw[BS.cellAt i (by omega)];simp[CS,hi]
  ·rw[Jb.cellAt i (by omega)];simp[CS,hi]
theorem xG (h:Ae w base P l vn vk vz vb) (s:ByteArray) (hl:l.length≤1000):
  Calls Tryz.prog 95 #[.pointer (some ⟨P,0,none⟩),.string s] w fun e w'=>e=.returned (.int .i64 (Rf.many (A7 l) s.toList))∧w'=w:=by
 have h1:=h.row.cell (i:=1) (by omega)
 rw[show Cu vn vk vz vb 1=vk from rfl] at h1
 by_cases hz:l.length=0
 ·obtain ⟨ad,cp,hv⟩:=AX h.kd
  rw[hv,hz] at h1
  have:l=[]:=List.eq_nil_of_length_eq_zero hz
  rw[this]
  exact xE P cp ad s w h1
 ·obtain ⟨gk,ck,hv2,_,_⟩:=h.kd.form (by omega)
  have Jb:=h.kd
  rw[hv2] at h1 Jb
  refine xD l P gk ck s w h1 (fun i hi=>?_) hl
  rw[Jb.cellAt i (by omega)];simp[CS,hi]
theorem Ru (h:Ae w base P l vn vk vz vb) (s:ByteArray) (hl:l.length≤1000):
  Calls Tryz.prog 98 #[.pointer (some ⟨P,0,none⟩),.string s] w fun e w'=>e=.returned (.bool (Rf.scalar (A7 l) s.toList))∧w'=w:=by
 have HK:=hid (h.II s hl)
 clear h
 go_enter Tryz.func98,Tryz.ntmps98
 go_wp2_with (first|(go_at_call 94;refine HK.out.mono ?_;rintro e w1 ⟨q,rfl,hq,rfl⟩;have HQ:=hid hq;clear hq))
 all_goals go_ret
 all_goals refine ⟨Ks ?_,rfl⟩
 all_goals unfold Rf.scalar
 all_goals rw[←show q.toList=_ from HQ.out]
 all_goals simp[Rf.wSecret,Rf.wPublic,Rf.wVar, *]
theorem IJ (h:Ae w base P l vn vk vz vb) (s:ByteArray) (hl:l.length≤1000):
  Calls Tryz.prog 97 #[.pointer (some ⟨P,0,none⟩),.string s] w fun e w'=>e=.returned (.bool (Rf.atom (A7 l) s.toList))∧Below w.heap.size w w':=by
 have H:=hid h
 clear h
 have hr:=rH s.toList
 cases hs:Rf.scalar (A7 l) s.toList with
 |true=>
  have Hs:=hid hs
  clear hs
  go_enter Tryz.func97,Tryz.ntmps97
  go_wp2_with (first
   |(go_at_call 96;refine (Y2 s _).mono ?_;rintro e w1 ⟨rfl,hb⟩;have HB:=hid hb;clear hb)
   |(go_at_call 98;refine ((H.out.below HB.out).Ru s hl).mono ?_;rintro e w2 ⟨rfl,rfl⟩;rw[Hs.out]))
  go_ret
  exact ⟨Ks (by unfold Rf.atom;rw[Hs.out];rfl),HB.out⟩
 |false=>
  have Hs:=hid hs
  clear hs
  go_enter Tryz.func97,Tryz.ntmps97
  go_wp2_with (first
   |(go_at_call 96;refine (Y2 s _).mono ?_;rintro e w1 ⟨rfl,hb⟩;have HB:=hid hb;clear hb)
   |(go_at_call 98;refine ((H.out.below HB.out).Ru s hl).mono ?_;rintro e w2 ⟨rfl,rfl⟩;rw[Hs.out]))
  go_ret
  refine ⟨Ks ?_,HB.out⟩
  unfold Rf.atom;rw[Hs.out]
  cases hn:Lk.num? s.toList <;> simp[Lk.Cm]
end Ae
end Go.Proofs.YtgddmpmcnjlcjaaGreatDoor
