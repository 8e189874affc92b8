/- What the listed package variables give the walks. -/
import Derived.Test.YtjolccidheflpaaGreatDoorX00
import Derived.Test.YtjolccidheflpaaGreatDoorCards
import Derived.Test.YtjolccidheflpaaGreatDoorTie
import Derived.LaidMore
import Derived.Stop.LaidTwo
import Derived.Stop.Joined
import Derived.Lib.SmallJoins
namespace Go.Proofs.YtjolccidheflpaaGreatDoor
open Go.Proofs.Tryz
set_option maxHeartbeats 8000000
set_option maxRecDepth 100000
section
open Go.ChangeShapes Go.WideShapes Go.ChangeAt Go.RowKit
theorem own:ownKnob prog.godebug=none:=by kernel_rfl
theorem laidOut:laidOutB prog=true:=by kernel_rfl
theorem SR: "*"++ "errors.errorString" = "*errors.errorString":=by decide
theorem aeY(u:TypeId)(h:prog.typeName? 3 u=some "*errors.errorString"):u=412 :=
 typeName_ptr_named (nm:= "errors.errorString") (by rw[SR];kernel_rfl) (by kernel_rfl) (by decide) u (by rw[SR];exact h)
theorem aeZ:prog.cellsOf 414=1:=by kernel_rfl
theorem SS:prog.cellsOf 9=1:=by kernel_rfl
theorem cells3:prog.cellsOf 3=1:=by kernel_rfl
end
section
open Go.RowKit
structure Ask where
 k:Int
 c:Int
 sq:Int
 it:Int
 sd:Int
 pr:Int
 q:Int
 id:Int
deriving DecidableEq
def aX(a:Ask):Array Value:=#[.int .u8 a.k,Z a.c,Z a.sq,Z a.it,Z a.sd,Z a.pr,Z a.q,Z a.id]
def bM(a:Ask):Value:=.agg (aX a)
end
def V8:Ask:=⟨0,0,0,0,0,0,0,0⟩
def dD(l:List Ask)(i:Nat):Ask:=l.getD i V8
theorem GQ{l:List Ask}{i:Nat}(h:i<l.length):l[i]?=some (dD l i):=by unfold dD;rw[gE,List.getElem?_eq_getElem h];rfl
namespace az
def upd{α:Type}(L:Nat->α)(i:Nat)(x:α):Nat->α:=fun j=>if j=i then x else L j
theorem upd_same{α:Type}(L:Nat->α)(i:Nat)(x:α):upd L i x i=x:=by simp[upd]
theorem qN{α:Type}(L:Nat->α){i j:Nat}(x:α)(h:j≠i):upd L i x j=L j:=by simp[upd,h]
theorem pB{α:Type}(L:Nat->α)(i:Nat):upd L i (L i)=L:=by funext j;unfold upd;split <;> simp_all
def nK(c:Int):Bool:=decide (0<=c)&&decide (c<=5)
theorem Ns{c:Int}(h:nK c=true):∃n:Nat,n<6/\c=(n:Int):=by simp[nK]at h;exact⟨c.toNat,by omega,by omega⟩
def yh(a:Ask):Bool:=a.k==111 || a.k==99
def jV(L:Nat->List Ask)(a:Ask):Nat:=if yh a=true then (if nK a.c=true then (if 6<=(L a.c.toNat).length then 8 else 0) else 2) else 4
def jW(L:Nat->List Ask)(a:Ask):Nat->List Ask:=if jV L a=0 then upd L a.c.toNat (L a.c.toNat++[a]) else L
def tM(L:Nat->List Ask)(c:Int):Nat:=if nK c=true then (L c.toNat).length else 0
def pV(L:Nat->List Ask)(c:Int):Nat->List Ask:=if nK c=true then upd L c.toNat [] else L
def who(t k:Nat):Nat:=(t+k)%6
theorem vY(t k:Nat):who t k<6:=Nat.mod_lt _ (by decide)
def l7(L:Nat->List Ask)(t:Nat):Nat->Nat->List Ask
 | 0=>L
 | k+1=>upd (l7 L t k) (who t k) ((l7 L t k (who t k)).drop 2)
def l6(L:Nat->List Ask)(t:Nat):Nat->List Ask
 | 0=>[]
 | k+1=>l6 L t k++(l7 L t k (who t k)).take 2
def Ac(L:Nat->List Ask)(t:Nat):Nat->List Ask:=l7 L t 6
def out(L:Nat->List Ask)(t:Nat):List Ask:=l6 L t 6
theorem Nv(L:Nat->List Ask){t:Nat}(ht:t<6):∀(k:Nat),k<=6->∀c,l7 L t k c=if c<6/\(c+6-t)%6<k then (L c).drop 2 else L c
 | 0,_,c=>by simp[l7]
 | k+1,hk,c=>by
  have ih:=Nv L ht k (by omega);unfold l7;by_cases h:c=who t k
  .rw[h,upd_same,ih,if_neg,if_pos]
   .refine⟨vY t k,?_⟩
    unfold who;omega
   .rintro⟨_,h2⟩
    unfold who at h2;omega
  .rw[qN _ _ h,ih]
   by_cases h6:c<6
   .have:(c+6-t)%6≠k:=by
     intro e;apply h;unfold who;omega
    by_cases h2:(c+6-t)%6<k
    .rw[if_pos ⟨h6,h2⟩,if_pos ⟨h6,by omega⟩]
    .rw[if_neg (fun h=>h2 h.2),if_neg (fun h=>by have:=h.2;omega)]
   .rw[if_neg (fun h=>h6 h.1),if_neg (fun h=>h6 h.1)]
theorem aip(L:Nat->List Ask){t:Nat}(ht:t<6){k:Nat}(hk:k<6):l7 L t k (who t k)=L (who t k):=by rw[Nv L ht k (by omega),if_neg];rintro⟨_,h⟩;unfold who at h;omega
theorem aiq(L:Nat->List Ask){t:Nat}(ht:t<6){k:Nat}(hk:k<6):l6 L t (k+1)=l6 L t k++(L (who t k)).take 2:=by rw[<- aip L ht hk];rfl
theorem vZ(L:Nat->List Ask)(t:Nat):∀k,(l6 L t k).length<=2*k
 | 0=>by simp[l6]
 | k+1=>by
  have:=vZ L t k
  simp only[l6,List.length_append,List.length_take];omega
end az
def upd{α:Type}(f:Nat->α)(i:Nat)(x:α)(j:Nat):α:=if j=i then x else f j
theorem upd_same{α:Type}(f:Nat->α)(i:Nat)(x:α):upd f i x i=x:=by simp[upd]
theorem upd_ne{α:Type}(f:Nat->α){i j:Nat}(x:α)(h:j≠i):upd f i x j=f j:=by simp[upd,h]
end Go.Proofs.YtjolccidheflpaaGreatDoor
