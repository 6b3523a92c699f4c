import Derived.WalkKit
import Derived.WalkSpells
import Derived.WalkLawsBesides
import Derived.Deep.OwnRows
import Derived.Deep.AppendLies
import Derived.Test.YtgddmpmcnjlcjaaGreatDoorProg
import Derived.Lib.Strings
import Derived.Below
set_option maxHeartbeats 1000000
namespace Go.Proofs.YtgddmpmcnjlcjaaGreatDoor.Lk
abbrev Wd:=List UInt8
def isName:Wd→Bool
 |[c]=>decide (97≤c.toNat) && decide (c.toNat≤122)
 |_=>false
def num? :Wd→Option Nat
 |[c]=>if 48≤c.toNat∧c.toNat≤57 then some (c.toNat - 48) else none
 |[a,b]=>if a.toNat=49∧48≤b.toNat∧b.toNat≤53 then some (10+(b.toNat - 48)) else none
 |_=>none
def Cm:Option Nat→Int
 |some n=>n
 |none=> -1
def oper? (w:Wd):Option Nat:=
 if w==[43] then some 1 else if w==[45] then some 2 else if w==[42] then some 3 else if w==[38] then some 4
 else if w==[124] then some 5 else if w==[94] then some 6 else if w==[60,60] then some 7 else if w==[62,62] then some 8
 else if w==[60] then some 9 else if w==[61,61] then some 10 else none
structure At where
 named:Bool:=false
 val:Nat:=0
deriving DecidableEq
structure St where
 kind:Nat:=0
 op:Nat:=0
 slot:Nat:=0
 arr:Nat:=0
 a:At:={}
 b:At:={}
 next:Nat:=0
 els:Nat:=0
deriving DecidableEq
structure RS where
 Ah:List Bool:=[]
 vars:Nat:=0
 cells:List Nat:=[]
 letters:Nat→Nat×Nat:=fun _=>(0,0)
 body:List St:=[]
 stmts:Nat:=0
 opn:Nat→Nat×Nat:=fun _=>(0,0)
 depth:Nat:=0
def upd {α:Type} (f:Nat→α) (k:Nat) (v:α):Nat→α:=fun j=>if j=k then v else f j
def wd (ws:List Wd) (i:Nat):Wd:=ws.getD i []
def lat (w:Wd):Nat:=(w.getD 0 0).toNat - 97
def find (r:RS) (w:Wd):Nat×Nat:=if isName w then r.letters (lat w) else (0,0)
def atom? (r:RS) (w:Wd):Option At:=
 match num? w with
 |some n=>some { val:=n }
 |none=>if (find r w).1=1 then some { named:=true,val:=(find r w).2 } else none
def declare (r:RS) (w:Wd) (role place:Nat):Option RS:=
 if r.body.length=0∧isName w=true∧(r.letters (lat w)).1=0 then some { r with letters:=upd r.letters (lat w) (role,place) } else none
def add (r:RS) (s:St):Option RS:=
 if r.stmts<12 then some { r with stmts:=r.stmts+1,body:=r.body++[{ s with next:=r.body.length+1 }] } else none
def E6 (r:RS) (ws:List Wd) (Ah:Bool):Option RS:=
 if ws.length=2∧r.Ah.length<3∧r.vars=0 then
  match declare r (wd ws 1) 1 r.Ah.length with
  |some r'=>some { r' with Ah:=r'.Ah++[Ah] }
  |none=>none
 else none
def FW (r:RS) (ws:List Wd):Option RS:=
 if ws.length=2∧r.vars<4 then
  match declare r (wd ws 1) 1 (r.Ah.length+r.vars) with
  |some r'=>some { r' with vars:=r'.vars+1 }
  |none=>none
 else none
def FV (r:RS) (ws:List Wd):Option RS:=
 if ws.length=3∧r.cells.length<2 then
  match num? (wd ws 2) with
  |some n=>
   if 1≤n∧n≤4 then
    match declare r (wd ws 1) 2 r.cells.length with
    |some r'=>some { r' with cells:=r'.cells++[n] }
    |none=>none
   else none
  |none=>none
 else none
def Hc (r:RS) (ws:List Wd):Option RS:=
 if ws.length=4∧(find r (wd ws 1)).1=1∧(find r (wd ws 2)).1=2 then
  match atom? r (wd ws 3) with
  |some x=>add r { kind:=1,slot:=(find r (wd ws 1)).2,arr:=(find r (wd ws 2)).2,a:=x }
  |none=>none
 else none
def Hb (r:RS) (ws:List Wd):Option RS:=
 if ws.length=4∧(find r (wd ws 1)).1=2 then
  match atom? r (wd ws 2),atom? r (wd ws 3) with
  |some x,some y=>add r { kind:=2,arr:=(find r (wd ws 1)).2,a:=x,b:=y }
  |_,_=>none
 else none
def Hh (r:RS) (ws:List Wd):Option RS:=
 if ws.length=2 then
  match atom? r (wd ws 1) with
  |some x=>add r { kind:=3,a:=x }
  |none=>none
 else none
def GN (r:RS) (ws:List Wd):Option RS:=
 if (ws.length=3∨ws.length=5)∧wd ws 1=[61]∧(find r (wd ws 0)).1=1 then
  match atom? r (wd ws 2) with
  |some x=>
   if ws.length=3 then add r { kind:=0,op:=0,slot:=(find r (wd ws 0)).2,a:=x }
   else
    match oper? (wd ws 3),atom? r (wd ws 4) with
    |some o,some y=>add r { kind:=0,op:=o,slot:=(find r (wd ws 0)).2,a:=x,b:=y }
    |_,_=>none
  |none=>none
 else none
def FD (r:RS) (ws:List Wd) (kind:Nat):Option RS:=
 if ws.length=2∧r.depth<4 then
  match atom? r (wd ws 1) with
  |some x=>
   match add r { kind:=kind,a:=x } with
   |some r'=>some { r' with opn:=upd r'.opn r'.depth (r.body.length,0),depth:=r'.depth+1 }
   |none=>none
  |none=>none
 else none
def bodyAt (b:List St) (i:Nat):St:=b.getD i {}
def Fx (r:RS) (ws:List Wd):Option RS:=
 if ws.length=1∧0<r.depth∧(bodyAt r.body (r.opn (r.depth - 1)).1).kind=4∧(r.opn (r.depth - 1)).2=0 then
  some { r with opn:=upd r.opn (r.depth - 1) ((r.opn (r.depth - 1)).1,r.body.length),body:=r.body.set (r.opn (r.depth - 1)).1 { bodyAt r.body (r.opn (r.depth - 1)).1 with els:=r.body.length+1 }++[{ kind:=6 }] }
 else none
def takeEnd (r:RS) (ws:List Wd):Option RS:=
 if ws.length=1∧0<r.depth then
  let inner:=r.opn (r.depth - 1)
  let behind:=r.body.length+1
  let next:=if (bodyAt r.body inner.1).kind=5 then inner.1 else behind
  let aco:=if inner.2=0 then r.body.set inner.1 { bodyAt r.body inner.1 with els:=behind }
         else r.body.set inner.2 { bodyAt r.body inner.2 with next:=behind }
  some { r with depth:=r.depth - 1,body:=aco++[{ kind:=6,next:=next }] }
 else none
def take (r:RS) (ws:List Wd):Option RS:=
 if ws.length=0 then none
 else if wd ws 0==[115,101,99,114,101,116] then E6 r ws true
 else if wd ws 0==[112,117,98,108,105,99] then E6 r ws false
 else if wd ws 0==[118,97,114] then FW r ws
 else if wd ws 0==[97,114,114,97,121] then FV r ws
 else if wd ws 0==[108,111,97,100] then Hc r ws
 else if wd ws 0==[115,116,111,114,101] then Hb r ws
 else if wd ws 0==[111,117,116] then Hh r ws
 else if wd ws 0==[105,102] then FD r ws 4
 else if wd ws 0==[119,104,105,108,101] then FD r ws 5
 else if wd ws 0==[101,108,115,101] then Fx r ws
 else if wd ws 0==[101,110,100] then takeEnd r ws
 else GN r ws
def cut (c:UInt8):Wd→List Wd
 |[]=>[[]]
 |x::xs=>if x=c then []::cut c xs else
  match cut c xs with
  |[]=>[[x]]
  |y::ys=>(x::y)::ys
def pass (b:List St):Nat→Nat→Nat
 |0,p=>p
 |n+1,p=>if p<b.length∧(bodyAt b p).kind=6 then pass b n (bodyAt b p).next else p
def ahead (b:List St) (p:Nat):Nat:=((b.take p).filter fun s=>s.kind≠6).length
def settle (b:List St) (p:Nat):Nat:=ahead b (pass b b.length p)
def EJ (b:List St) (s:St):St:=
 if s.kind=4∨s.kind=5 then { s with next:=settle b s.next,els:=settle b s.els } else { s with next:=settle b s.next }
def link (b:List St):List St:=(b.filter fun s=>s.kind≠6).map (EJ b)
def lines:RS→Nat→List Wd→RS×Nat
 |r,ended,[]=>(r,ended+1)
 |r,ended,[l]=>if l.length=0∧r.depth=0 then (r,0) else (r,ended+1)
 |r,ended,l::m::ls=>
  match take r (cut 32 l) with
  |some r'=>lines r' (ended+1) (m::ls)
  |none=>(r,ended+1)
def read (s:Wd):RS×Nat:=if 600<s.length then ({},1) else lines {} 0 (cut 10 s)
end Go.Proofs.YtgddmpmcnjlcjaaGreatDoor.Lk
namespace Go.Proofs.YtgddmpmcnjlcjaaGreatDoor
open Go.RowKit
theorem IK {k:IntKind} {a b:Int} (h:a=b):Ending.returned (.int k a)=.returned (.int k b):=by rw[h]
theorem Ks {a b:Bool} (h:a=b):Ending.returned (.bool a)=.returned (.bool b):=by rw[h]
theorem Bx (s:ByteArray):s.toList.length=s.size:=by rw[ByteArray.toList_eq];rfl
theorem En (s:ByteArray) (i:Nat) (h:i<s.size):s.toList[i]? =some s[i]:=by
 rw[ByteArray.toList_eq,List.getElem?_eq_getElem (by simpa using h)];rfl
theorem tl0 {s:ByteArray} (h:s.size=0):s.toList=[]:=List.eq_nil_of_length_eq_zero (by rw[Bx];exact h)
theorem DK {s:ByteArray} (h:s.size=1):s.toList=[s[0]]:=by
 have hl:=Bx s
 have h0:=En s 0 (by omega)
 generalize s.toList=l at hl h0
 match l,hl,h0 with
 |[c],_,h0=>simpa using h0
 |[],hl,_=>simp at hl;omega
 |_::_::_,hl,_=>simp at hl;omega
theorem EB {s:ByteArray} (h:s.size=2):s.toList=[s[0],s[1]]:=by
 have hl:=Bx s
 have h0:=En s 0 (by omega)
 have h1:=En s 1 (by omega)
 generalize s.toList=l at hl h0 h1
 match l,hl,h0,h1 with
 |[c,d],_,h0,h1=>simp at h0 h1;rw[h0,h1]
 |[],hl,_,_=>simp at hl;omega
 |[_],hl,_,_=>simp at hl;omega
 |_::_::_::_,hl,_,_=>simp at hl;omega
theorem N1 {s:ByteArray} (h:s.size=1):Lk.isName s.toList=(decide (97≤(s[0].toNat:Int)) && decide ((s[0].toNat:Int)≤122)):=by
 rw[DK h];simp[Lk.isName];congr 1 <;> (rw[decide_eq_decide];omega)
theorem Io {s:ByteArray} (h:s.size≠1):Lk.isName s.toList=false:=by
 have hl:=Bx s
 generalize s.toList=l at hl
 match l,hl with
 |[c],hl=>simp at hl;omega
 |[],_=>rfl
 |_::_::_,_=>rfl
theorem af' {s:ByteArray} (h:s.size=1):Lk.Cm (Lk.num? s.toList)=if 48≤(s[0].toNat:Int)∧(s[0].toNat:Int)≤57 then (s[0].toNat:Int) - 48 else -1:=by
 rw[DK h]
 by_cases hc:48≤s[0].toNat∧s[0].toNat≤57
 ·rw[if_pos (by omega)];simp[Lk.num?,hc,Lk.Cm];omega
 ·rw[if_neg (by omega)];simp[Lk.num?,hc,Lk.Cm]
theorem af1 {s:ByteArray} (h:s.size=2):Lk.Cm (Lk.num? s.toList)=if (s[0].toNat:Int)=49∧48≤(s[1].toNat:Int)∧(s[1].toNat:Int)≤53 then 10+((s[1].toNat:Int) - 48) else -1:=by
 rw[EB h]
 by_cases hc:s[0].toNat=49∧48≤s[1].toNat∧s[1].toNat≤53
 ·rw[if_pos (by omega)];simp[Lk.num?,hc,Lk.Cm];omega
 ·rw[if_neg (by omega)];simp[Lk.num?,hc,Lk.Cm]
theorem af2 {s:ByteArray} (h1:s.size≠1) (h2:s.size≠2):Lk.Cm (Lk.num? s.toList)= -1:=by
 have hl:=Bx s
 generalize s.toList=l at hl
 match l,hl with
 |[c],hl=>simp at hl;omega
 |[c,d],hl=>simp at hl;omega
 |[],_=>rfl
 |_::_::_::_,_=>rfl
theorem rH (l:Lk.Wd): -1≤Lk.Cm (Lk.num? l)∧Lk.Cm (Lk.num? l)≤15:=by
 match l with
 |[c]=>by_cases h:48≤c.toNat∧c.toNat≤57 <;> simp[Lk.num?,h,Lk.Cm];omega
 |[c,d]=>by_cases h:c.toNat=49∧48≤d.toNat∧d.toNat≤53 <;> simp[Lk.num?,h,Lk.Cm];omega
 |[]=>simp[Lk.num?,Lk.Cm]
 |_::_::_::_=>simp[Lk.num?,Lk.Cm]
end Go.Proofs.YtgddmpmcnjlcjaaGreatDoor
namespace Go.Proofs.YtgddmpmcnjlcjaaGreatDoor.Lk
theorem VI (c:UInt8) (q:Wd): ∀ p:Wd,(∀ x∈p,x≠c)→cut c (p++c::q)=p::cut c q
 |[],_=>by simp[cut]
 |x::p,h=>by
  have ih:=VI c q p (fun y hy=>h y (List.mem_cons_of_mem _ hy))
  have hx:x≠c:=h x (List.mem_cons_self ..)
  simp[cut,hx,ih]
theorem YY (c:UInt8): ∀ p:Wd,(∀ x∈p,x≠c)→cut c p=[p]
 |[],_=>by simp[cut]
 |x::p,h=>by
  have ih:=YY c p (fun y hy=>h y (List.mem_cons_of_mem _ hy))
  have hx:x≠c:=h x (List.mem_cons_self ..)
  simp[cut,hx,ih]
theorem Ip (c:UInt8): ∀ p:Wd,cut c p≠[]
 |[]=>by simp[cut]
 |x::p=>by
  unfold cut
  split
  ·simp
  ·split <;> simp
theorem yo (L:Wd) (a k:Nat) (c:UInt8) (ha:a≤k) (hk:L[k]? =some c):L.drop a=(L.drop a).take (k - a)++c::L.drop (k+1):=by
 have h1:(L.drop a).drop (k - a)=c::L.drop (k+1):=by
  rw[List.drop_drop,show a+(k - a)=k by omega]
  obtain ⟨hlt,hv⟩:=List.getElem?_eq_some_iff.1 hk
  rw[List.drop_eq_getElem_cons hlt,hv]
 exact (List.take_append_drop (k - a) (L.drop a)).symm.trans (by rw[h1])
theorem yq {L:Wd} {a k:Nat} {x:UInt8} (h:x∈(L.drop a).take (k - a)): ∃ j,a≤j∧j<k∧L[j]? =some x:=by
 obtain ⟨i,hi,hx⟩:=List.mem_iff_getElem.1 h
 refine ⟨a+i,by omega,?_,?_⟩
 ·simp at hi;omega
 ·rw[←hx]
  simp at hi
  rw[List.getElem?_eq_getElem (by omega)]
  simp
theorem YZ (c:UInt8) (L:Wd) (a k:Nat) (ha:a≤k) (hk:L[k]? =some c) (hno: ∀ j,a≤j→j<k→L[j]? ≠some c):
  cut c (L.drop a)=(L.drop a).take (k - a)::cut c (L.drop (k+1)):=by
 conv=>lhs;rw[yo L a k c ha hk]
 exact VI c _ _ fun x hx cK=>by
  obtain ⟨j,h1,h2,h3⟩:=yq hx
  exact hno j h1 h2 (by rw[h3,cK])
theorem Y_ (c:UInt8) (L:Wd) (a:Nat) (hno: ∀ j,a≤j→j<L.length→L[j]? ≠some c):cut c (L.drop a)=[L.drop a]:=by
 refine YY c _ fun x hx cK=>?_
 obtain ⟨i,hi,h⟩:=List.mem_iff_getElem.1 hx
 simp at hi
 refine hno (a+i) (by omega) (by omega) ?_
 rw[List.getElem?_eq_getElem (by omega), ←cK, ←h]
 simp
end Go.Proofs.YtgddmpmcnjlcjaaGreatDoor.Lk
namespace Go.Proofs.YtgddmpmcnjlcjaaGreatDoor
open Go.RowKit
set_option linter.unusedVariables false
theorem Tryz.SL:(Tryz.prog.info? 9).map (fun i=>(i.zero,i.size,i.bytes))=some (some (.string ByteArray.empty),1,16):=by kernel_rfl
theorem extract_toList (s:ByteArray) (a b:Nat):(s.extract a b).toList=(s.toList.drop a).take (b - a):=by
 rw[Lib.extract_toList,ByteArray.toList_eq]
theorem fQ (s:ByteArray) (w:World) (hs:s.size≤1000000):
  Calls Tryz.prog 33 #[.string s] w fun e w'=> ∃ (g cap:Nat) (ws:List ByteArray),e=.returned (.slice (some ⟨g,0,none⟩) ws.length cap)∧ws.map ByteArray.toList=Lk.cut 32 s.toList∧
   w'.ownsRow w.heap.size 9 1 (.slice (some ⟨g,0,none⟩) ws.length cap) ws.length (ws.map Value.string)∧Below w.heap.size w w':=by
 obtain ⟨i0,hi,hz0,hz1,hz2⟩:=info_parts Tryz.SL
 go_enter Tryz.func33,Tryz.ntmps33
 go_wp2
 go_loopw [3,4,5] (fun v st i wr=> ∃ (k a:Nat) (ws:List ByteArray),k≤s.size∧a≤k∧i=.int .i64 k∧st=.int .i64 a∧wr.ownsRow w.heap.size 9 1 v ws.length (ws.map Value.string)∧Below w.heap.size w wr∧
   ws.length≤k∧ws.map ByteArray.toList++Lk.cut 32 (s.toList.drop a)=Lk.cut 32 s.toList∧(∀ j,a≤j→j<k→s.toList[j]? ≠some 32))
  (fun _ _ i _=>s.size - (intOf i).toNat)
 case atStart=>exact ⟨0,0,[],Nat.zero_le _,Nat.le_refl _,rfl,rfl,World.ownsRow_nil _ _ _ _,Below.refl _ _,Nat.le_refl _,rfl,fun j _ h=>by omega⟩
 case round=>
  obtain ⟨k,a,ws,hk,ha,rfl,rfl,hown,hnx,NT,hcut,hno⟩:=hrel
  have Og:Hid _:=hcut
  have G7:Hid _:=hno
  clear hcut hno
  by_cases hlt:k<s.size
  ·by_cases hsp:s[k]=32
   ·have aR:(((s[k].toNat:Int))==32)=true:=by rw[hsp];rfl
    have P8:Hid _:=hsp
    clear hsp
    go_wp2_with (first|(at_builtin;refine wpList_append_lies _ rfl _ _ 69 rfl w.heap.size 9 i0 _ 1 16 Tryz.underlying69 hi hz0 hz1 hz2 rfl (by omega) _ ws.length (ws.map Value.string) rfl (hown.alloc _) ⟨wr.heap.size,0,none⟩ 1 1 [.string (s.extract a k)] rfl rfl (cell_one_new _ _ _) (by simp[Value.oneCell']) (by omega) (by unfold maxLen;omega) (by omega) (by have:=hnx.size;simp;omega) (wr.heap.size+1) (by simp) ?_;intro g cap w1 hown1 hgrow hat Bk))
    go_roundw
    case rel=>
     refine ⟨k+1,k+1,ws++[s.extract a k],by omega,Nat.le_refl _,by go_num,by go_num,by simpa using hown1,?_,by simp;omega,?_,fun j h1 h2=>by omega⟩
     ·exact Below.grown (hnx.alloc hnx.size _) hgrow (by have:=hnx.size;simp;omega) (fun q hq=>(hown.lt q hq).1)
     ·rw[←Og.out,Lk.YZ 32 s.toList a k ha (by rw[En s k hlt,P8.out]) G7.out,List.map_append,List.append_assoc]
      simp[extract_toList]
    case measure=>simp[intOf];omega
   ·have aR:(((s[k].toNat:Int))==32)=false:=by
     simp;intro h;exact hsp (UInt8.toNat_inj.1 (by rw[show (32:UInt8).toNat=32 from rfl];omega))
    have P8:Hid _:=hsp
    clear hsp
    go_wp2
    go_roundw
    case rel=>
     refine ⟨k+1,a,ws,by omega,by omega,by go_num,rfl,hown,hnx,by omega,Og.out,?_⟩
     intro j h1 h2
     by_cases hj:j=k
     ·subst hj;rw[En s j hlt];intro h;exact P8.out (by simpa using h)
     ·exact G7.out j h1 (by omega)
    case measure=>simp[intOf];omega
  ·have hks:k=s.size:=by omega
   go_wp2_with (first|(at_builtin;refine wpList_append_lies _ rfl _ _ 69 rfl w.heap.size 9 i0 _ 1 16 Tryz.underlying69 hi hz0 hz1 hz2 rfl (by omega) _ ws.length (ws.map Value.string) rfl (hown.alloc _) ⟨wr.heap.size,0,none⟩ 1 1 [.string (s.extract a s.size)] rfl rfl (cell_one_new _ _ _) (by simp[Value.oneCell']) (by omega) (by unfold maxLen;omega) (by omega) (by have:=hnx.size;simp;omega) (wr.heap.size+1) (by simp) ?_;intro g cap w1 hown1 hgrow hat Bk))
   go_ret
   refine ⟨g,cap,ws++[s.extract a s.size],by simp,?_,by simpa using hown1,?_⟩
   ·rw[←Og.out,Lk.Y_ 32 s.toList a (by rw[Bx, ←hks];exact G7.out)]
    simp only[List.map_append,List.map_cons,List.map_nil,extract_toList]
    rw[List.take_of_length_le (by simp[Bx])]
   ·exact Below.grown (hnx.alloc hnx.size _) hgrow (by have:=hnx.size;simp;omega) (fun q hq=>(hown.lt q hq).1)
theorem hid {p:Prop} (h:p):Hid p:=h
theorem Rq (s:ByteArray) (w:World):
  Calls Tryz.prog 112 #[.string s] w fun e w'=>e=.returned (.bool (Lk.isName s.toList))∧w'=w:=by
 go_enter Tryz.func112,Tryz.ntmps112
 go_wp2
 all_goals go_ret
 all_goals refine ⟨Ks ?_,rfl⟩
 ·rw[N1 (by omega)];simp[*]
 ·rw[N1 (by omega)];simp;omega
 ·rw[Io (by omega)]
theorem dL (s:ByteArray) (w:World):
  Calls Tryz.prog 104 #[.string s] w fun e w'=>e=.returned (.int .i64 (Lk.Cm (Lk.oper? s.toList)))∧w'=w:=by
 go_enter Tryz.func104,Tryz.ntmps104
 go_wp2
 all_goals go_ret
 all_goals refine ⟨IK ?_,rfl⟩
 all_goals simp[Lk.oper?, *,Lk.Cm]
theorem eC (s:ByteArray) (w:World):
  Calls Tryz.prog 100 #[.string s] w fun e w'=>e=.returned (.int .i64 (Lk.Cm (Lk.num? s.toList)))∧w'=w:=by
 go_enter Tryz.func100,Tryz.ntmps100
 go_wp2
 all_goals go_ret
 all_goals refine ⟨IK ?_,rfl⟩
 all_goals first
  |(rw[af' (by omega)];first|rw[if_pos (by omega)]|rw[if_neg (by omega)])
  |(rw[af1 (by omega)];first|rw[if_neg (by omega)]|(rw[if_pos (by omega)];rfl))
  |rw[af2 (by omega) (by omega)]
end Go.Proofs.YtgddmpmcnjlcjaaGreatDoor
