/- A request, in numbers and as a value. -/
import Derived.Test.YtjolccidheflpaaGreatDoorProg
import GoSem.PinnedTables
import GoSem.Claim
import GoSem.ClaimJoined
import GoSem.ClaimMapViews
import Derived.JoinedTies
import Derived.KernelRfl
import Derived.Test.YtjolccidheflpaaGreatDoorV00
import Derived.WalkKit
namespace Go.Proofs.YtjolccidheflpaaGreatDoor
set_option maxHeartbeats 8000000
open Go.RowKit
structure Ask where
 k:Int
 c:Int
 sq:Int
 it:Int
 sd:Int
 pr:Int
 q:Int
 id:Int
deriving DecidableEq
def bw (a:Ask):Array Value:=#[.int .u8 a.k,.int .i64 a.c,.int .i64 a.sq,.int .i64 a.it,.int .i64 a.sd,.int .i64 a.pr,.int .i64 a.q,.int .i64 a.id]
def cr (a:Ask):Value:=.agg (bw a)
end Go.Proofs.YtjolccidheflpaaGreatDoor
namespace Go.Proofs.YtjolccidheflpaaGreatDoor
set_option maxHeartbeats 8000000
def UR:Ask:=⟨0,0,0,0,0,0,0,0⟩
def cg (l:List Ask) (i:Nat):Ask:=l.getD i UR
theorem MN {l:List Ask} {i:Nat} (h:i<l.length):l[i]?=some (cg l i):=by
 unfold cg;rw[gE,List.getElem?_eq_getElem h];rfl
namespace aD
def upd {α:Type} (L:Nat->α) (i:Nat) (x:α):Nat->α:=fun j=>if j=i then x else L j
theorem upd_same {α:Type} (L:Nat->α) (i:Nat) (x:α):upd L i x i=x:=by simp[upd]
theorem pD {α:Type} (L:Nat->α) {i j:Nat} (x:α) (h:j≠i):upd L i x j=L j:=by simp[upd,h]
theorem qO {α:Type} (L:Nat->α) (i:Nat):upd L i (L i)=L:=by
 funext j;unfold upd;split <;> simp_all
def pC (c:Int):Bool:=decide (0<=c)&&decide (c<=5)
theorem UO {c:Int} (h:pC c=true):∃ n:Nat,n<6∧c=(n:Int):=by
 simp[pC]at h;exact⟨c.toNat,by omega,by omega⟩
def afX (a:Ask):Bool:=a.k==111 || a.k==99
def afY (L:Nat->List Ask) (a:Ask):Nat:=if afX a=true then (if pC a.c=true then (if 6<=(L a.c.toNat).length then 8 else 0) else 2) else 4
def afZ (L:Nat->List Ask) (a:Ask):Nat->List Ask:=if afY L a=0 then upd L a.c.toNat (L a.c.toNat++[a]) else L
def vY (L:Nat->List Ask) (c:Int):Nat:=if pC c=true then (L c.toNat).length else 0
def pB (L:Nat->List Ask) (c:Int):Nat->List Ask:=if pC c=true then upd L c.toNat [] else L
def who (t k:Nat):Nat:=(t+k)%6
theorem wa (t k:Nat):who t k<6:=Nat.mod_lt _ (by decide)
def kK (L:Nat->List Ask) (t:Nat):Nat->Nat->List Ask
 | 0=>L
 | k+1=>upd (kK L t k) (who t k) ((kK L t k (who t k)).drop 2)
def kJ (L:Nat->List Ask) (t:Nat):Nat->List Ask
 | 0=>[]
 | k+1=>kJ L t k++(kK L t k (who t k)).take 2
def BO (L:Nat->List Ask) (t:Nat):Nat->List Ask:=kK L t 6
def out (L:Nat->List Ask) (t:Nat):List Ask:=kJ L t 6
theorem MO (L:Nat->List Ask) {t:Nat} (ht:t<6):∀ (k:Nat),k<=6->∀ c,kK L t k c=if c<6∧(c+6-t)%6<k then (L c).drop 2 else L c
 | 0,_,c=>by simp[kK]
 | k+1,hk,c=>by
  have ih:=MO L ht k (by omega);unfold kK;by_cases h:c=who t k
  ·rw[h,upd_same,ih,if_neg,if_pos]
   ·refine⟨wa t k,?_⟩
    unfold who;omega
   ·rintro⟨_,h2⟩
    unfold who at h2;omega
  ·rw[pD _ _ h,ih]
   by_cases h6:c<6
   ·have:(c+6-t)%6≠k:=by
     intro e;apply h;unfold who;omega
    by_cases h2:(c+6-t)%6<k
    ·rw[if_pos ⟨h6,h2⟩,if_pos ⟨h6,by omega⟩]
    ·rw[if_neg (fun h=>h2 h.2),if_neg (fun h=>by have:=h.2;omega)]
   ·rw[if_neg (fun h=>h6 h.1),if_neg (fun h=>h6 h.1)]
theorem af0 (L:Nat->List Ask) {t:Nat} (ht:t<6) {k:Nat} (hk:k<6):kK L t k (who t k)=L (who t k):=by
 rw[MO L ht k (by omega),if_neg];rintro⟨_,h⟩;unfold who at h;omega
theorem af1 (L:Nat->List Ask) {t:Nat} (ht:t<6) {k:Nat} (hk:k<6):kJ L t (k+1)=kJ L t k++(L (who t k)).take 2:=by
 rw[<- af0 L ht hk];rfl
theorem tK (L:Nat->List Ask) (t:Nat):∀ k,(kJ L t k).length<=2*k
 | 0=>by simp[kJ]
 | k+1=>by
  have:=tK L t k
  simp only[kJ,List.length_append,List.length_take];omega
end aD
def upd {α:Type} (f:Nat->α) (i:Nat) (x:α) (j:Nat):α:=if j=i then x else f j
theorem upd_same {α:Type} (f:Nat->α) (i:Nat) (x:α):upd f i x i=x:=by simp[upd]
theorem upd_ne {α:Type} (f:Nat->α) {i j:Nat} (x:α) (h:j≠i):upd f i x j=f j:=by simp[upd,h]
namespace Fu
open Cv Bk Pu
def aM (g:ag->Int):List ag->Int
 | []=>0
 | x::l=>g x+aM g l
theorem BK (g:ag->Int):∀ a b:List ag,aM g (a++b)=aM g a+aM g b
 | [],b=>by simp[aM]
 | x::a,b=>by rw[List.cons_append,aM,aM,BK g a b];omega
theorem afE (g:ag->Int) {l:List ag} {k:Nat} (hk:k<l.length):aM g (del l k)=aM g l-g (nth l k):=by
 have e:aM g l=aM g (l.take k++nth l k::l.drop (k+1)):=congrArg _ (zZ hk);rw[e];unfold del;rw[BK,BK,aM];omega
theorem vS {g:ag->Int}:∀ {l:List ag},(∀ x∈l,0<=g x)->0<=aM g l∧∀ x∈l,g x<=aM g l
 | [],_=>⟨by simp[aM],fun x hx=>by cases hx⟩
 | y::l,h=>by
  obtain⟨h1,h2⟩:=vS (l:=l) (fun x hx=>h x (mOq _ hx));have hy:=h y (mSq ..);rw[aM];refine⟨by omega,fun x hx=>?_⟩;rcases List.mem_cons.1 hx with rfl | hx
  ·omega
  ·have:=h2 x hx;omega
def gu (i j:Nat) (x:ag):Int:=dl (hx i x) (mu x) j
def asked (L:Nat->List ag) (j:Nat):Int:=aM (gu 0 j) (L 0)+aM (gu 1 j) (L 1)+aM (gu 2 j) (L 2)
theorem MG (L:Nat->List ag) {i:Nat} (hi:i<3) (l:List ag) (j:Nat):asked (upd L i l) j=asked L j-aM (gu i j) (L i)+aM (gu i j) l:=by
 have:i=0∨i=1∨i=2:=by omega
 unfold asked;rcases this with rfl | rfl | rfl
 ·rw[upd_same,upd_ne L l (show 1≠0 by decide),upd_ne L l (show 2≠0 by decide)];omega
 ·rw[upd_same,upd_ne L l (show 0≠1 by decide),upd_ne L l (show 2≠1 by decide)];omega
 ·rw[upd_same,upd_ne L l (show 0≠2 by decide),upd_ne L l (show 1≠2 by decide)];omega
def xR (j:Nat):Prop:=∃ c,c<6∧(j=c*8+1∨∃ k,k<3∧j=c*8+5+k)
def vX (L:Nat->List ag) (f:Nat->Int):Prop:=∀ j,xR j->f j=asked L j
theorem adA (f:Nat->Int) (h:∀ j,xR j->f j=0):vX (fun _=>[]) f:=fun j hj=>by rw[h j hj];rfl
theorem ads {L:Nat->List ag} {f:Nat->Int} (h:vX L f) {i:Nat} (hi:i<3) (x:ag):vX (upd L i (L i++[x])) (Pu.add f (hx i x) (mu x)):=fun j hj=>by
 rw[BL,h j hj,MG L hi,BK,aM,aM];unfold gu;omega
theorem adu {L:Nat->List ag} {f:Nat->Int} (h:vX L f) {i:Nat} (hi:i<3) {k:Nat} (hk:k<(L i).length):vX (upd L i (del (L i) k)) (Pu.add f (hx i (nth (L i) k)) (-(mu (nth (L i) k)))):=fun j hj=>by
 rw[BL,h j hj,MG L hi,afE _ hk];unfold gu;have:dl (hx i (nth (L i) k)) (-(mu (nth (L i) k))) j = -(dl (hx i (nth (L i) k)) (mu (nth (L i) k)) j):=by unfold dl;split <;> omega
 rw[this];omega
theorem afF {i:Nat} {x:ag} (h:well i x=true):xR (hx i x):=by
 rcases places h with ⟨c,h1,h2,_⟩ | ⟨c,k,h1,h4,h2,_⟩
 ·exact⟨c,h1,.inl h2⟩
 ·exact⟨c,h1,.inr ⟨k,h4,h2⟩⟩
theorem J_ {i:Nat} (hi:i<3) {x:ag} (h:ok x=true):well i x=true:=by
 unfold well;rw[h];simp[ah.aC];omega
theorem adt {L:Nat->List ag} {f:Nat->Int} (h:vX L f) (hok:∀ j,j<3->dM (L j)) {i:Nat} (hi:i<3) {x:ag} (hx':x∈L i):mu x<=f (hx i x):=by
 have hw:=J_ hi (hok i hi x hx');rw[h _ (afF hw)];have nn:∀ k,k<3->∀ y∈L k,0<=gu k (hx i x) y:=fun k hk y hy=>by
  have:=tH (hok k hk y hy)
  unfold gu dl;split <;> omega
 have h0:=(vS (nn 0 (by decide))).1;have h1:=(vS (nn 1 (by decide))).1;have h2:=(vS (nn 2 (by decide))).1;have hm:gu i (hx i x) x=mu x:=by unfold gu;exact nW
 have hx2:=(vS (nn i hi)).2 x hx';rw[hm]at hx2;have:i=0∨i=1∨i=2:=by omega
 unfold asked;rcases this with rfl | rfl | rfl <;> omega
def per (x:ag):Int:=if x.sd=0 then x.pr else 1
theorem afn (x:ag):mu x=per x*x.q:=by unfold mu per;split <;> omega
end Fu
namespace Fs
open Cv Bk Ra Pu Fu
def gG (i:Nat) (price:Int) (j:Nat) (x:ag) (q:Int):Int :=
 if x.sd=0 then dl (x.ak.toNat*8) (-(price*q)) j+dl (x.ak.toNat*8+1) (-(x.pr*q)) j+dl (x.ak.toNat*8+2+i) q j
 else dl (x.ak.toNat*8) (price*q) j+dl (x.ak.toNat*8+2+i) (-q) j+dl (x.ak.toNat*8+5+i) (-q) j
theorem afk (i:Nat) (price:Int) (j:Nat) (x:ag) (a b:Int):gG i price j x (a+b)=gG i price j x a+gG i price j x b:=by
 unfold gG;rw[show -(price*(a+b)) = -(price*a) + -(price*b) by rw[Int.mul_add];omega,show -(x.pr*(a+b)) = -(x.pr*a) + -(x.pr*b) by rw[Int.mul_add];omega,show -(a+b) = -a + -b by omega,show price*(a+b)=price*a+price*b from Int.mul_add ..];simp only[Uu];split <;> omega
theorem afl (i:Nat) (price:Int) (j:Nat) (x:ag):gG i price j x 0=0:=by
 unfold gG;simp[dl]
theorem afm (f:Nat->Int) (i:Nat) (price:Int) {x y:ag} (hx:x.sd=0) (hy:y.sd≠0) (q:Int) (j:Nat):six f x.ak.toNat y.ak.toNat i x.pr price q j=f j+gG i price j x q+gG i price j y q:=by
 rw[BH];unfold gG;rw[if_pos hx,if_neg hy];omega
structure nV (φ:ag->Int->Int):Prop where
 add:∀ x a b,φ x (a+b)=φ x a+φ x b
 self:∀ x (q r:Int),φ ⟨x.id,x.ak,x.sd,x.pr,q⟩ r=φ x r
theorem nV.zero {φ:ag->Int->Int} (h:nV φ) (x:ag):φ x 0=0:=by have:=h.add x 0 0;simp at this;omega
theorem MD (i:Nat) (price:Int) (j:Nat):nV (gG i price j):=⟨afk i price j,fun _ _ _=>rfl⟩
def lq (i j:Nat) (x:ag) (q:Int):Int:=dl (hx i x) (per x*q) j
theorem Gj (i j:Nat):nV (lq i j):=⟨fun x a b=>by unfold lq;rw[Int.mul_add,Uu],fun _ _ _=>rfl⟩
theorem Uv (i j:Nat) (x:ag):gu i j x=lq i j x x.q:=by unfold gu lq;rw[afn]
theorem Gk:nV (fun _ q=>q):=⟨fun _ _ _=>rfl,fun _ _ _=>rfl⟩
def own (φ:ag->Int->Int) (x:ag):Int:=φ x x.q
theorem afo {φ:ag->Int->Int} (h:nV φ) (sd:Int):nV (fun x q=>if x.sd=sd then φ x q else 0) :=
 ⟨fun x a b=>by show (if x.sd=sd then _ else _)=_;split <;> simp[h.add, *],fun x q r=>by show (if x.sd=sd then φ ⟨x.id,x.ak,x.sd,x.pr,q⟩ r else 0)=if x.sd=sd then φ x r else 0;rw[h.self]⟩
theorem Gl {g h:ag->Int}:∀ {l:List ag},(∀ x∈l,g x=h x)->aM g l=aM h l
 | [],_=>rfl
 | x::l,H=>by rw[aM,aM,H x (mSq ..),Gl fun y hy=>H y (mOq _ hy)]
theorem ME (g h:ag->Int):∀ l:List ag,aM (fun x=>g x+h x) l=aM g l+aM h l
 | []=>rfl
 | x::l=>by rw[aM,aM,aM,ME g h l];omega
theorem Uw {g h:ag->Int}:∀ {l:List ag},(∀ x∈l,g x<=h x)->aM g l<=aM h l
 | [],_=>Int.le_refl _
 | x::l,H=>by
  have:=H x (mSq ..)
  have:=Uw fun y hy=>H y (mOq x hy)
  rw[aM,aM];omega
theorem A8 {g:ag->Int}:∀ {l:List ag},(∀ x∈l,g x=0)->aM g l=0
 | [],_=>rfl
 | x::l,H=>by rw[aM,H x (mSq ..),A8 fun y hy=>H y (mOq _ hy)];rfl
theorem afp {φ:ag->Int->Int} (j9:nV φ) (c:Int->Int) (q:Int) {l:List ag} (ho:eu l) {x:ag} (hx:x∈l):aM (fun y=>φ y (more c x.id q y.id)) l=aM (fun y=>φ y (c y.id)) l+φ x q:=by
 induction l with
 | nil=>cases hx
 | cons y l ih =>
  have hno:y.id ∉ l.map (·.id)∧eu l:=by unfold eu at ho ⊢;rw[List.map_cons,List.nodup_cons]at ho;exact ho
  rw[aM,aM];rcases List.mem_cons.1 hx with rfl | hx'
  ·have e:aM (fun y=>φ y (more c x.id q y.id)) l=aM (fun y=>φ y (c y.id)) l:=Gl fun z hz=>by
    have:z.id≠x.id:=fun e=>hno.1 (by rw[<- e];exact List.mem_map_of_mem hz);unfold more;rw[if_neg this]
   have e2:more c x.id q x.id=c x.id+q:=by unfold more;rw[if_pos rfl]
   rw[e,e2,j9.add];omega
  ·have:y.id≠x.id:=fun e=>hno.1 (by rw[e];exact List.mem_map_of_mem hx')
   have e2:more c x.id q y.id=c y.id:=by unfold more;rw[if_neg this]
   rw[ih hno.2 hx',e2];omega
theorem afq (f:Int×Int) (F:List (Int×Int)):(fun id=>got id (f::F))=more (fun id=>got id F) f.1 f.2:=by
 funext id;show (if f.1=id then f.2 else 0)+got id F=_;simp only[more];by_cases h:f.1=id
 ·rw[if_pos h,if_pos h.symm];omega
 ·rw[if_neg h,if_neg (fun e=>h e.symm)];omega
theorem LY (F:List (Int×Int)) {k:Nat} (hk:k<F.length):(fun id=>got id (F.take (k+1)))=more (fun id=>got id (F.take k)) (F[k]).1 (F[k]).2:=by
 funext id;rw[List.take_succ_eq_append_getElem hk,BI];show got id (F.take k)+((if F[k].1=id then F[k].2 else 0)+0)=_;simp only[more];by_cases h:F[k].1=id
 ·rw[if_pos h,if_pos h.symm];omega
 ·rw[if_neg h,if_neg (fun e=>h e.symm)];omega
theorem FZ (id:Int):∀ F:List (Int×Int),(∀ f∈F,1<=f.2)->0<=got id F
 | [],_=>Int.le_refl _
 | f::F,h=>by
  have:=FZ id F fun g hg=>h g (mOq _ hg)
  have:=h f (mSq ..)
  show 0<=(if f.1=id then f.2 else 0)+got id F;split <;> omega
theorem TR (id:Int) (F:List (Int×Int)) (h:∀ f∈F,1<=f.2) (k:Nat):got id (F.take k)<=got id F:=by
 have e:got id F=got id (F.take k++F.drop k):=by rw[List.take_append_drop]
 rw[e,BI]
 have:=FZ id (F.drop k) fun f hf=>h f (List.mem_of_mem_drop hf)
 omega
theorem afr {F:List (Int×Int)} (h:∀ f∈F,1<=f.2) {f:Int×Int} (hf:f∈F):f.2<=got f.1 F:=by
 obtain⟨k,hk,rfl⟩:=List.mem_iff_getElem.1 hf;have h1:=TR (F[k]).1 F h (k+1);have h2:=congrFun (LY F hk) (F[k]).1;simp only[more,if_true]at h2;have h3:=FZ (F[k]).1 (F.take k) fun g hg=>h g (List.mem_of_mem_take hg);omega
def nJ (l:List ag) (sd:Int) (f:Int×Int):List ag:=if has l f.1=true∧(nth l (pos l f.1)).sd=sd then [Pu.only (nth l (pos l f.1)) f.2] else []
def filled (l:List ag) (sd:Int):List (Int×Int)->List ag
 | []=>[]
 | f::F=>nJ l sd f++filled l sd F
theorem SF (l:List ag) (sd:Int):∀ F G,filled l sd (F++G)=filled l sd F++filled l sd G
 | [],G=>rfl
 | f::F,G=>by rw[List.cons_append,filled,filled,SF l sd F G,aAq]
theorem nA {l:List ag} {k:Nat} (h:k<l.length):nth l k∈l:=by rw[uZ h];exact List.getElem_mem h
theorem afs {l:List ag} {x:ag} (h:x∈l):has l x.id=true:=by
 unfold has;rw[List.any_eq_true];exact⟨x,h,by simp⟩
theorem Ux {l:List ag} {sd:Int} {y:ag}:∀ {F:List (Int×Int)},y∈filled l sd F->∃ f∈F,∃ x∈l,x.id=f.1∧x.sd=sd∧y=Pu.only x f.2
 | [],h=>by cases h
 | f::F,h=>by
  rw[filled,List.mem_append]at h;rcases h with h | h
  ·unfold nJ at h
   split at h
   ·rename_i hh
    have hk:=qI.1 hh.1;exact⟨f,mSq ..,nth l (pos l f.1),nA hk,Ac hk,hh.2,List.mem_singleton.1 h⟩
   ·cases h
  ·obtain⟨g,hg,r⟩:=Ux h
   exact⟨g,mOq _ hg,r⟩
theorem BJ {φ:ag->Int->Int} (j9:nV φ) {l:List ag} (ho:eu l) (sd:Int):∀ F:List (Int×Int),(∀ f∈F,∃ x∈l,x.id=f.1)->aM (own φ) (filled l sd F)=aM (fun x=>if x.sd=sd then φ x (got x.id F) else 0) l
 | [],_=>by
  rw[filled,aM];exact(A8 fun x _=>by show (if x.sd=sd then φ x 0 else 0)=0;rw[j9.zero];simp).symm
 | f::F,h=>by
  have ih:=BJ j9 ho sd F fun g hg=>h g (mOq _ hg);obtain⟨x,hx,he⟩:=h f (mSq ..);have hh:=afs hx;rw[he]at hh;have hk:=qI.1 hh;have hid:=Ac hk;have hm:=nA hk;have hs:=afp (afo j9 sd) (fun id=>got id F) f.2 ho hm;rw[hid,<- afq]at hs;rw[filled,BK,ih];have e:aM (own φ) (nJ l sd f)=if (nth l (pos l f.1)).sd=sd then φ (nth l (pos l f.1)) f.2 else 0:=by
   unfold nJ;by_cases h2:(nth l (pos l f.1)).sd=sd
   ·rw[if_pos ⟨hh,h2⟩,if_pos h2,aM,aM]
    show φ (Pu.only _ _) f.2+0=_;unfold Pu.only;rw[j9.self];omega
   ·rw[if_neg (fun h3=>h2 h3.2),if_neg h2];rfl
  rw[e];have:(fun y:ag=>if y.sd=sd then φ y (got y.id (f::F)) else 0)=fun y=>if y.sd=sd then φ y ((fun id=>got id (f::F)) y.id) else 0:=rfl;rw[this,hs];omega
def fQ:List ag->Int->List ag
 | [],_=>[]
 | x::l,q=>if x.q-q=0 then l else less x q::l
theorem vq (x:ag) (l:List ag) (q:Int):fQ (x::l) q=if x.q-q=0 then l else less x q::l:=rfl
structure nE (i:Nat) (price:Int) (G:Nat->Int) (f:Nat->Int) (bs ss:List ag):Prop where
 sum:∀ j,f j+aM (own (gG i price j)) bs+aM (own (gG i price j)) ss=G j
 br:br bs=br ss
 bK:∀ x∈bs,well i x=true∧x.sd=0∧price<=x.pr
 ws:∀ x∈ss,well i x=true∧x.sd=1∧x.pr<=price
 good:Pu.Good f
 held:∀ j,xR j->aM (gu i j) bs+aM (gu i j) ss<=f j
 cash:dP f 6<=1099511627776
 stock:∀ k,k<3->dQ f k 6<=1073741824
theorem Uy {l:List ag} (h:∀ x∈l,1<=x.q):0<=Ra.br l∧(Ra.br l=0->l=[]):=by
 cases l with
 | nil=>exact⟨Int.le_refl _,fun _=>rfl⟩
 | cons x l =>
  have h1:=h x (mSq ..);have h2:=Ra.tF l fun y hy=>h y (mOq _ hy);have:Ra.br (x::l)=x.q+Ra.br l:=rfl;exact⟨by omega,fun e=>by omega⟩
theorem Gm {i:Nat} {x:ag} (h:well i x=true):1<=x.q:=(Cv.fP (j8 h)).2.2.2.2.1
theorem nE.done {i:Nat} {price:Int} {G f:Nat->Int} {bs ss:List ag} (h:nE i price G f bs ss) (he:bs=[]∨ss=[]):∀ j,f j=G j:=by
 have h1:=Uy fun x hx=>Gm (h.bK x hx).1;have h2:=Uy fun x hx=>Gm (h.ws x hx).1;have ht:=h.br;have e0:Ra.br []=0:=rfl;have:bs=[]∧ss=[]:=by
  rcases he with e | e
  ·subst e;exact⟨rfl,h2.2 (by omega)⟩
  ·subst e;exact⟨h1.2 (by omega),rfl⟩
 intro j
 have:=h.sum j
 rw[‹bs=[]∧ss=[]›.1,‹bs=[]∧ss=[]›.2,aM]at this;omega
theorem yC {φ:ag->Int->Int} (j9:nV φ) (x:ag) (l:List ag) (q:Int):aM (own φ) (fQ (x::l) q)=aM (own φ) (x::l)-φ x q:=by
 have h:φ x x.q=φ x (x.q-q)+φ x q:=by rw[<- j9.add];congr 1;omega
 rw[vq];split
 ·rename_i e
  have h':φ x (x.q-q)=0:=by rw[e];exact j9.zero x
  show aM (own φ) l=own φ x+aM (own φ) l-φ x q;unfold own at *;omega
 ·show own φ (less x q)+aM (own φ) l=own φ x+aM (own φ) l-φ x q
  have:own φ (less x q)=φ x (x.q-q):=j9.self x _ _;rw[this];unfold own at *;omega
theorem Uz {x y:ag} {l:List ag} {q:Int} (h:y∈fQ (x::l) q):y∈l∨(x.q-q≠0∧y=less x q):=by
 rw[vq]at h;split at h
 ·exact .inl h
 ·rename_i e
  rcases List.mem_cons.1 h with h | h
  ·exact .inr ⟨e,h⟩
  ·exact .inl h
theorem UA {i:Nat} {x:ag} {q:Int} (h:well i x=true) (h1:1<=q) (h2:q<x.q):well i (less x q)=true:=by
 have h3:=QR (j8 h) h1 h2;simp only[well,Bool.and_eq_true]at h ⊢;exact⟨h.1,h3⟩
theorem Gn (l:List ag):Ra.br l=aM (own fun _ q=>q) l:=by
 induction l with
 | nil=>rfl
 | cons x l ih=>show x.q+Ra.br l=x.q+_;rw[ih]
theorem yD (i j:Nat) (l:List ag):aM (gu i j) l=aM (own (lq i j)) l:=Gl fun x _=>Uv i j x
theorem aft {f:Nat->Int} (hg:Pu.Good f) {b s:Nat} (hb:b<6) (hs:s<6) (hne:b≠s):f (b*8)+f (s*8)<=dP f 6:=by
 have h0:=hg.cash 0 (by decide);have h1:=hg.cash 1 (by decide);have h2:=hg.cash 2 (by decide);have h3:=hg.cash 3 (by decide);have h4:=hg.cash 4 (by decide);have h5:=hg.cash 5 (by decide);simp only[dP];have:b=0∨b=1∨b=2∨b=3∨b=4∨b=5:=by omega
 have:s=0∨s=1∨s=2∨s=3∨s=4∨s=5:=by omega
 rcases ‹b=0∨_› with rfl | rfl | rfl | rfl | rfl | rfl <;> rcases ‹s=0∨_› with rfl | rfl | rfl | rfl | rfl | rfl <;> first | exact absurd rfl hne | (simp only[Nat.reduceMul,Nat.reduceAdd]at *;omega)
theorem afu {f:Nat->Int} (hg:Pu.Good f) {k b s:Nat} (hk:k<3) (hb:b<6) (hs:s<6) (hne:b≠s):f (b*8+2+k)+f (s*8+2+k)<=dQ f k 6:=by
 have h0:=hg.stock 0 k (by decide) hk;have h1:=hg.stock 1 k (by decide) hk;have h2:=hg.stock 2 k (by decide) hk;have h3:=hg.stock 3 k (by decide) hk;have h4:=hg.stock 4 k (by decide) hk;have h5:=hg.stock 5 k (by decide) hk;simp only[dQ];have:b=0∨b=1∨b=2∨b=3∨b=4∨b=5:=by omega
 have:s=0∨s=1∨s=2∨s=3∨s=4∨s=5:=by omega
 rcases ‹b=0∨_› with rfl | rfl | rfl | rfl | rfl | rfl <;> rcases ‹s=0∨_› with rfl | rfl | rfl | rfl | rfl | rfl <;> first | exact absurd rfl hne | (simp only[Nat.reduceMul,Nat.reduceAdd]at *;omega)
theorem nE.step {i:Nat} (hi:i<3) {price:Int} (hp:1<=price∧price<=1000) {G f:Nat->Int} {x y:ag} {bs ss:List ag} (h:nE i price G f (x::bs) (y::ss)) {q:Int} (hq:q=min x.q y.q) :
  gR f i x y price q=0∧nE i price G (iQ f i x y price q) (fQ (x::bs) q) (fQ (y::ss) q):=by
 obtain⟨wx,tG,Gp⟩:=h.bK x (mSq ..);obtain⟨iL,UB,UC⟩:=h.ws y (mSq ..);have an7:=Gm wx;have an8:=Gm iL;have q1:1<=q:=by omega
 have q2:q<=x.q:=by omega
 have q3:q<=y.q:=by omega
 have yE:y.sd≠0:=by omega
 have bx:=Cv.fP (j8 wx);have by':=Cv.fP (j8 iL)
 have Gq:x.ak.toNat<6:=by omega
 have Gr:y.ak.toNat<6:=by omega
 have it:((i:Nat):Int).toNat=i:=Int.toNat_natCast i;have nn:∀ (l:List ag),(∀ z∈l,well i z=true)->∀ j,0<=aM (gu i j) l:=fun l hl j=>(vS fun z hz=>by
  have:=tH (j8 (hl z hz))
  unfold gu dl;split <;> omega).1
 have ax:∀ j,gu i j x=dl (x.ak.toNat*8+1) (x.pr*x.q) j:=fun j=>by
  unfold gu hx mu;rw[if_pos tG,if_pos tG]
 have UD:∀ j,gu i j y=dl (y.ak.toNat*8+5+i) y.q j:=fun j=>by
  unfold gu hx mu;rw[if_neg yE,if_neg yE,it]
 have bN:=nn bs (fun z hz=>(h.bK z (mOq _ hz)).1);have UE:=nn ss (fun z hz=>(h.ws z (mOq _ hz)).1);have an9:0<=x.pr*x.q:=Int.mul_nonneg (by omega) (by omega);have hx1:x.pr*x.q<=f (x.ak.toNat*8+1):=by
  have:=h.held (x.ak.toNat*8+1) ⟨x.ak.toNat,Gq,.inl rfl⟩
  rw[aM,aM,ax,UD,nW,cZ (by omega)]at this
  have:=bN (x.ak.toNat*8+1)
  have:=UE (x.ak.toNat*8+1)
  omega
 have hy1:y.q<=f (y.ak.toNat*8+5+i):=by
  have:=h.held (y.ak.toNat*8+5+i) ⟨y.ak.toNat,Gr,.inr ⟨i,hi,rfl⟩⟩
  rw[aM,aM,ax,UD,nW,cZ (by omega)]at this
  have:=bN (y.ak.toNat*8+5+i)
  have:=UE (y.ak.toNat*8+5+i)
  omega
 have aoa:x.pr*q<=x.pr*x.q:=Int.mul_le_mul_of_nonneg_left q2 (by omega);have hpq:price*q<=x.pr*q:=Int.mul_le_mul_of_nonneg_right Gp (by omega);have vH:lu i x y price q=0:=by
  unfold lu;rw[if_pos ⟨wx,iL⟩,if_pos ⟨tG,UB⟩,if_pos ⟨hp,q1,q2,q3⟩,if_pos ⟨UC,Gp⟩]
 have afv:mQ f x.ak.toNat y.ak.toNat i x.pr q=false:=by
  simp only[mQ,Bool.or_eq_false_iff,decide_eq_false_iff_not];exact⟨by omega,by omega⟩
 have hover:over f x.ak.toNat y.ak.toNat i price q=false:=by
  unfold over;by_cases e:x.ak.toNat=y.ak.toNat
  ·simp[e]
  ·have c1:=aft h.good Gq Gr e
   have c2:=afu h.good hi Gq Gr e;have c3:=h.cash;have c4:=h.stock i hi;have c5:=h.good.cash _ Gq;have c6:=h.good.stock _ i Gr hi;have d1:decide (1073741824<f (x.ak.toNat*8+2+i)+q)=false:=by simp;omega
   have d2:decide (1099511627776<f (y.ak.toNat*8)+price*q)=false:=by simp;omega
   rw[d1,d2];simp
 have hC:gR f i x y price q=0:=by
  unfold gR;rw[if_pos vH,it,if_neg (by rw[afv];decide),if_neg (by rw[hover];decide)]
 have hF:iQ f i x y price q=six f x.ak.toNat y.ak.toNat i x.pr price q:=by
  unfold iQ;rw[if_pos hC,it]
 have hg:=afw h.good i x y price q;have hs:=Ee f i x y price q;have e6:∀ j,iQ f i x y price q j=f j+gG i price j x q+gG i price j y q:=fun j=>by rw[hF];exact afm f i price tG yE q j
 refine⟨hC,?_,?_,?_,?_,hg,?_,by rw[hs.1];exact h.cash,fun k hk=>by rw[hs.2 k hk];exact h.stock k hk⟩
 ·intro j
  rw[yC (MD i price j),yC (MD i price j),e6,<- h.sum j];omega
 ·have:=h.br
  rw[Gn,Gn]at this ⊢;rw[yC Gk,yC Gk];omega
 ·intro z hz
  rcases Uz hz with hz | ⟨hz,rfl⟩
  ·exact h.bK z (mOq _ hz)
  ·exact⟨UA wx q1 (by omega),tG,Gp⟩
 ·intro z hz
  rcases Uz hz with hz | ⟨hz,rfl⟩
  ·exact h.ws z (mOq _ hz)
  ·exact⟨UA iL q1 (by omega),UB,UC⟩
 ·intro j hj
  have:=h.held j hj
  rw[yD,yD]at this ⊢;rw[yC (Gj i j),yC (Gj i j),e6];have ex:gG i price j x q = -(lq i j x q):=by
   unfold gG lq hx per;rw[if_pos tG,if_pos tG,if_pos tG];obtain⟨c,hc,k_⟩:=hj;rw[cZ (i:=x.ak.toNat*8) (by rcases k_ with e | ⟨k,hk,e⟩ <;> omega),cZ (i:=x.ak.toNat*8+2+i) (by rcases k_ with e | ⟨k,hk,e⟩ <;> omega)];unfold dl;split <;> omega
  have ey:gG i price j y q = -(lq i j y q):=by
   unfold gG lq hx per;rw[if_neg yE,if_neg yE,if_neg yE,it,Int.one_mul];obtain⟨c,hc,k_⟩:=hj;rw[cZ (i:=y.ak.toNat*8) (by rcases k_ with e | ⟨k,hk,e⟩ <;> omega),cZ (i:=y.ak.toNat*8+2+i) (by rcases k_ with e | ⟨k,hk,e⟩ <;> omega)];unfold dl;split <;> omega
  omega
end Fs
namespace Fs
open Cv Bk Ra Pu Fu
structure vt (l:List ag) (price:Int) (F:List (Int×Int)):Prop where
 pos:∀ f∈F,1<=f.2∧∃ x∈l,x.id=f.1
 le:∀ x∈l,0<=got x.id F∧got x.id F<=x.q
 el:∀ x∈l,0<got x.id F->(x.sd=0->price<=x.pr)∧(x.sd=1->x.pr<=price)
 afy:aM (fun x=>if x.sd=0 then got x.id F else 0) l=aM (fun x=>if x.sd=1 then got x.id F else 0) l
def gQ (F:List (Int×Int)) (l:List ag):List ag:=rem (fun id=>got id F) l
def gN (f:Nat->Int) (i:Nat) (price:Int) (l:List ag) (F:List (Int×Int)) (j:Nat):Int:=f j+aM (fun x=>gG i price j x (got x.id F)) l
structure dO (L:Nat->List ag) (f:Nat->Int):Prop where
 aB:∀ i,i<3->Bk.Good (L i)
 good:Pu.Good f
 held:vX L f
 cash:dP f 6<=1099511627776
 stock:∀ k,k<3->dQ f k 6<=1073741824
theorem afz {i:Nat} (hi:i<3) {price:Int} {j:Nat} (hj:xR j) (x:ag) (q:Int):gG i price j x q = -(lq i j x q):=by
 obtain⟨c,hc,k_⟩:=hj;unfold gG lq hx per;rw[Int.toNat_natCast];split
 ·rw[cZ (i:=x.ak.toNat*8) (by rcases k_ with e | ⟨k,hk,e⟩ <;> omega),cZ (i:=x.ak.toNat*8+2+i) (by rcases k_ with e | ⟨k,hk,e⟩ <;> omega)]
  unfold dl;split <;> omega
 ·rw[cZ (i:=x.ak.toNat*8) (by rcases k_ with e | ⟨k,hk,e⟩ <;> omega),cZ (i:=x.ak.toNat*8+2+i) (by rcases k_ with e | ⟨k,hk,e⟩ <;> omega),Int.one_mul]
  unfold dl;split <;> omega
theorem UI {φ:ag->Int->Int} (j9:nV φ) {c:Int->Int}:∀ {l:List ag},(∀ x∈l,c x.id<=x.q)->aM (own φ) (rem c l)=aM (own φ) l-aM (fun x=>φ x (c x.id)) l
 | [],_=>rfl
 | x::l,h=>by
  have ih:=UI j9 (c:=c) (l:=l) fun y hy=>h y (mOq _ hy);have hx:=h x (mSq ..);have e:φ x x.q=φ x (x.q-c x.id)+φ x (c x.id):=by rw[<- j9.add];congr 1;omega
  unfold rem at ih ⊢;rw[List.filterMap_cons];by_cases hc:c x.id<x.q
  ·have:kI c x=some (less x (c x.id)):=by unfold kI;rw[if_pos hc]
   rw[this];show own φ (less x (c x.id))+aM (own φ) (l.filterMap (kI c))=own φ x+aM (own φ) l-(φ x (c x.id)+aM _ l);have e2:own φ (less x (c x.id))=φ x (x.q-c x.id):=j9.self x _ _;rw[e2,ih];unfold own;omega
  ·have:kI c x=none:=by unfold kI;rw[if_neg hc]
   rw[this];show aM (own φ) (l.filterMap (kI c))=own φ x+aM (own φ) l-(φ x (c x.id)+aM _ l);have e3:c x.id=x.q:=by omega
   rw[ih];unfold own;rw[e3];omega
theorem TS {l:List ag} (h:Bk.Good l) {c:Int->Int} (hc:∀ x∈l,0<=c x.id):Bk.Good (rem c l):=by
 refine⟨fun y hy=>?_,lTq (List.length_filterMap_le _ _) h.2,UJ h.3⟩;obtain⟨x,hx,hlt,rfl⟩:=Gs.1 hy;have h0:=hc x hx;by_cases e:c x.id=0
 ·rw[e]
  have:less x 0=x:=by unfold less;simp
  rw[this];exact h.1 x hx
 ·exact QR (h.1 x hx) (by omega) hlt
theorem afA {l:List ag} (h:dM l) {x:ag} (hx:x∈l):x.sd=0∨x.sd=1:=by
 have:=(fP (h x hx)).2.2.1;omega
theorem afB {φ:ag->Int->Int} {l:List ag} (h:dM l) (F:List (Int×Int)) :
  aM (fun x=>if x.sd=0 then φ x (got x.id F) else 0) l+aM (fun x=>if x.sd=1 then φ x (got x.id F) else 0) l=aM (fun x=>φ x (got x.id F)) l:=by
 rw[<- ME];exact Gl fun x hx=>by
  rcases afA h hx with e | e
  ·rw[if_pos e,if_neg (by omega)];omega
  ·rw[if_neg (by omega),if_pos e];omega
theorem UK {l:List ag} (h:dM l) {price:Int} {F:List (Int×Int)} (hF:vt l price F) {i:Nat} (hi:i<3) {sd:Int} {y:ag} (hy:y∈filled l sd F):well i y=true∧y.sd=sd∧(y.sd=0->price<=y.pr)∧(y.sd=1->y.pr<=price):=by
 obtain⟨f,hf,x,hx,hid,hsd,rfl⟩:=Ux hy;have h1:=(hF.pos f hf).1;have h2:=afr (fun g hg=>(hF.pos g hg).1) hf;rw[<- hid]at h2;have h3:=(hF.le x hx).2;exact⟨MF (J_ hi (h x hx)) h1 (by omega),hsd,(hF.el x hx (by omega)).1,(hF.el x hx (by omega)).2⟩
theorem dO.start {L:Nat->List ag} {f:Nat->Int} (h:dO L f) {i:Nat} (hi:i<3) {price:Int} {F:List (Int×Int)} (hF:vt (L i) price F):nE i price (gN f i price (L i) F) f (filled (L i) 0 F) (filled (L i) 1 F):=by
 have hok:=(h.aB i hi).1;have yA:=(h.aB i hi).3;have hm:∀ g∈F,∃ x∈L i,x.id=g.1:=fun g hg=>(hF.pos g hg).2;have hs:∀ {φ:ag->Int->Int},nV φ->aM (own φ) (filled (L i) 0 F)+aM (own φ) (filled (L i) 1 F)=aM (fun x=>φ x (got x.id F)) (L i):=fun {φ} j9=>by
  rw[BJ j9 yA 0 F hm,BJ j9 yA 1 F hm,afB hok]
 refine⟨fun j=>?_,?_,fun x hx=>?_,fun x hx=>?_,h.good,fun j hj=>?_,h.cash,h.stock⟩
 ·have:=hs (MD i price j)
  unfold gN;omega
 ·rw[Gn,Gn,BJ Gk yA 0 F hm,BJ Gk yA 1 F hm]
  exact hF.afy
 ·obtain⟨a,b,c,_⟩:=UK hok hF hi hx
  exact⟨a,b,c b⟩
 ·obtain⟨a,b,_,c⟩:=UK hok hF hi hx
  exact⟨a,b,c b⟩
 ·rw[yD,yD,hs (Gj i j),h.held j hj]
  have h1:aM (fun x=>lq i j x (got x.id F)) (L i)<=aM (gu i j) (L i):=Uw fun x hx=>by
   have hb:=hF.le x hx;have hp:=fP (hok x hx);rw[Uv];unfold lq dl;split
   ·exact Int.mul_le_mul_of_nonneg_left hb.2 (by unfold per;split <;> omega)
   ·exact Int.le_refl _
  have nn:∀ k,k<3->0<=aM (gu k j) (L k):=fun k hk=>(vS fun y hy=>by
   have:=tH ((h.aB k hk).1 y hy)
   unfold gu dl;split <;> omega).1
  have n0:=nn 0 (by decide);have n1:=nn 1 (by decide);have n2:=nn 2 (by decide);have:i=0∨i=1∨i=2:=by omega
  unfold asked;rcases this with rfl | rfl | rfl <;> omega
theorem dO.settled {L:Nat->List ag} {f:Nat->Int} (h:dO L f) {i:Nat} (hi:i<3) {price:Int} {F:List (Int×Int)} (hF:vt (L i) price F)
  (hg:Pu.Good (gN f i price (L i) F)) (hc:dP (gN f i price (L i) F) 6=dP f 6) (hs:∀ k,k<3->dQ (gN f i price (L i) F) k 6=dQ f k 6):dO (upd L i (gQ F (L i))) (gN f i price (L i) F):=by
 refine⟨fun k hk=>?_,hg,fun j hj=>?_,by rw[hc];exact h.cash,fun k hk=>by rw[hs k hk];exact h.stock k hk⟩
 ·by_cases e:k=i
  ·subst e;rw[upd_same];exact TS (h.aB k hk) fun x hx=>(hF.le x hx).1
  ·rw[upd_ne _ _ e];exact h.aB k hk
 ·rw[MG L hi,yD,yD]
  unfold gQ gN;rw[UI (Gj i j) (fun x hx=>(hF.le x hx).2),h.held j hj];have:aM (fun x=>gG i price j x (got x.id F)) (L i) = - aM (fun x=>lq i j x (got x.id F)) (L i):=by
   have e:aM (fun x=>gG i price j x (got x.id F)+lq i j x (got x.id F)) (L i)=0:=A8 fun x _=>by rw[afz hi hj];omega
   rw[ME]at e;omega
  rw[this];omega
end Fs
theorem vo {α:Type} (f:Nat->α) (i:Nat) (x y:α):upd (upd f i x) i y=upd f i y:=by
 funext j;unfold upd;split <;> rfl
theorem qO {α:Type} (f:Nat->α) (i:Nat):upd f i (f i)=f:=by
 funext j;unfold upd;split
 ·rename_i h;rw[h]
 ·rfl
namespace Bk
def J6 (l:List Cv.ag) (ak:Int):List Int:=(l.filter fun x=>x.ak==ak).map (·.id)
end Bk
namespace Fl
def fB (a:Ask):Cv.ag:=⟨a.id,a.c,a.sd,a.pr,a.q⟩
def fH (a:Ask) (k:Int):Int:=if ah.code a.k a.c a.sq a.it a.sd a.pr a.q a.id=0∧a.k≠k then 4 else ah.code a.k a.c a.sq a.it a.sd a.pr a.q a.id
def eC (L:Nat->List Cv.ag) (pf:Nat->Int) (a:Ask):Nat :=
 if fH a 111=0 then (if Cv.ok (fB a)=true then (if Cv.has (L a.it.toNat) a.id=true then 6 else if 60<=(L a.it.toNat).length then 7 else Pu.jC pf a.it (fB a)) else 1) else (fH a 111-1).toNat
def kB (L:Nat->List Cv.ag) (pf:Nat->Int) (a:Ask):Nat->List Cv.ag:=if eC L pf a=0 then upd L a.it.toNat (L a.it.toNat++[fB a]) else L
def jD (L:Nat->List Cv.ag) (pf:Nat->Int) (a:Ask):Nat->Int:=if eC L pf a=0 then Pu.jX pf a.it (fB a) else pf
theorem RY {a:Ask} {k:Int} (h:fH a k=0):a.k=k∧ah.ky a.k a.c a.sq a.it a.sd a.pr a.q a.id=true∧ah.mg a.k a.it a.sd a.pr a.q a.id=true:=by
 unfold fH at h;split at h
 ·cases h
 ·rename_i hn
  have hc:ah.code a.k a.c a.sq a.it a.sd a.pr a.q a.id=0:=by omega
  refine⟨Decidable.byContradiction fun e=>hn ⟨hc,e⟩,?_,?_⟩
  ·unfold ah.code at hc
   split at hc
   ·split at hc
    ·assumption
    ·cases hc
   ·cases hc
  ·unfold ah.code at hc
   split at hc
   ·split at hc
    ·split at hc
     ·assumption
     ·cases hc
    ·cases hc
   ·cases hc
theorem J7 {a:Ask} {k:Int} (h:fH a k≠0):2<=fH a k:=by
 unfold fH at *;split
 ·decide
 ·rename_i hn
  rw[if_neg hn]at h;have:ah.code a.k a.c a.sq a.it a.sd a.pr a.q a.id=0∨2<=ah.code a.k a.c a.sq a.it a.sd a.pr a.q a.id:=by
   unfold ah.code;split <;> (try split) <;> (try split) <;> omega
  omega
theorem RZ {a:Ask} (h:fH a 111=0):0<=a.it∧a.it<=2:=by
 obtain⟨h1,h2,_⟩:=RY h;rw[h1]at h2;simp[ah.ky,ah.aC]at h2;omega
def mine (L:Nat->List Cv.ag) (a:Ask):Bool:=Cv.has (L a.it.toNat) a.id&&((Cv.nth (L a.it.toNat) (Bk.pos (L a.it.toNat) a.id)).ak==a.c)
def fy (L:Nat->List Cv.ag) (a:Ask):Cv.ag:=if fH a 99=0∧mine L a=true then Cv.nth (L a.it.toNat) (Bk.pos (L a.it.toNat) a.id) else Cv.z
def cW (L:Nat->List Cv.ag) (pf:Nat->Int) (a:Ask):Nat :=
 if fH a 99=0 then (if mine L a=true then Pu.gD pf a.it (fy L a) else 5) else (fH a 99-1).toNat
def dZ (L:Nat->List Cv.ag) (a:Ask):Nat->List Cv.ag:=if fH a 99=0∧mine L a=true then upd L a.it.toNat (Bk.del (L a.it.toNat) (Bk.pos (L a.it.toNat) a.id)) else L
def jE (L:Nat->List Cv.ag) (pf:Nat->Int) (a:Ask):Nat->Int:=if fH a 99=0∧mine L a=true then Pu.eP pf a.it (fy L a) else pf
theorem Eb {a:Ask} (h:fH a 99=0):0<=a.it∧a.it<=2:=by
 obtain⟨h1,h2,_⟩:=RY h;rw[h1]at h2;simp[ah.ky,ah.aC]at h2;omega
def ado (i:Nat) (s:List Cv.ag×(Nat->Int)×List Cv.ag) (id:Int):List Cv.ag×(Nat->Int)×List Cv.ag :=
 (Bk.dZ s.1 id,Pu.eP s.2.1 i (Bk.fy s.1 id),s.2.2++[Bk.fy s.1 id])
def J8 (i:Nat) (l:List Cv.ag) (f:Nat->Int) (o:List Cv.ag) (ids:List Int):List Cv.ag×(Nat->Int)×List Cv.ag:=ids.foldl (ado i) (l,f,o)
def mC (c:Int) (L:Nat->List Cv.ag) (f:Nat->Int):Nat->(Nat->List Cv.ag)×(Nat->Int)×List Cv.ag
 | 0=>(L,f,[])
 | i+1 =>
  (upd (mC c L f i).1 i (J8 i ((mC c L f i).1 i) (mC c L f i).2.1 (mC c L f i).2.2 (Bk.J6 ((mC c L f i).1 i) c)).1,
   (J8 i ((mC c L f i).1 i) (mC c L f i).2.1 (mC c L f i).2.2 (Bk.J6 ((mC c L f i).1 i) c)).2.1,
   (J8 i ((mC c L f i).1 i) (mC c L f i).2.1 (mC c L f i).2.2 (Bk.J6 ((mC c L f i).1 i) c)).2.2)
def jY (cash stock:Int):Nat->Nat->Int
 | 0=>fun _=>0
 | k+1=>Pu.iC (jY cash stock k) ⟨k,cash,stock,stock,stock⟩
theorem J9 (cash stock:Int):∀ k,Pu.Good (jY cash stock k)
 | 0=>Pu.adp
 | k+1=>Pu.adq (J9 cash stock k) _
def sY (ref:Int) (k:Nat):Int:=if k%2=0 then ref else 0
open Cv Bk Ra Pu Fu Fs
theorem _root_.Go.Proofs.YtjolccidheflpaaGreatDoor.Fs.dO.place {L:Nat->List ag} {f:Nat->Int} (h:dO L f) (a:Ask):dO (kB L f a) (jD L f a):=by
 unfold kB jD;by_cases hc:eC L f a=0
 ·rw[if_pos hc,if_pos hc]
  unfold eC at hc;split at hc
  ·rename_i hk
   have hit:=RZ hk;split at hc
   ·rename_i hok
    split at hc
    ·cases hc
    ·rename_i hn
     split at hc
     ·cases hc
     ·rename_i hl
      have hi:a.it.toNat<3:=by omega
      have he:((a.it.toNat:Nat):Int)=a.it:=by omega
      have hF:jX f a.it (fB a)=Pu.add f (hx a.it (fB a)) (mu (fB a)):=by unfold jX;rw[if_pos hc]
      have hs:=R1 f a.it (fB a) 6;refine⟨fun k hk=>?_,adr h.good _ _,?_,by rw[hs.1];exact h.cash,fun k hk=>by rw[hs.2 k hk];exact h.stock k hk⟩
      ·by_cases e:k=a.it.toNat
       ·subst e;rw[upd_same]
        exact abK (h.aB _ hi) hok (by simpa [fB] using hn) (by omega)
       ·rw[upd_ne _ _ e];exact h.aB k hk
      ·have:=ads h.held hi (fB a)
       rw[he,<- hF]at this;exact this
   ·cases hc
  ·rename_i hk
   have:=J7 hk
   omega
 ·rw[if_neg hc,if_neg hc];exact h
theorem R3 {L:Nat->List ag} {f:Nat->Int} (h:dO L f) {i:Nat} (hi:i<3) {x:ag} (hx':x∈L i):gD f i x=0:=by
 have:=adt h.held (fun j hj=>(h.aB j hj).oks) hi hx'
 unfold gD;rw[if_pos (J_ hi ((h.aB i hi).oks x hx')),if_neg (by omega)]
theorem _root_.Go.Proofs.YtjolccidheflpaaGreatDoor.Fs.dO.gone {L:Nat->List ag} {f:Nat->Int} (h:dO L f) {i:Nat} (hi:i<3) {k:Nat} (hk:k<(L i).length):dO (upd L i (del (L i) k)) (eP f i (nth (L i) k)):=by
 have hc:=R3 h hi (Cv.nA hk);have hF:eP f i (nth (L i) k)=Pu.add f (hx i (nth (L i) k)) (-(mu (nth (L i) k))):=by unfold eP;rw[if_pos hc]
 have hs:=J' f i (nth (L i) k) 6;refine⟨fun m hm=>?_,R4 h.good _ _,?_,by rw[hs.1];exact h.cash,fun m hm=>by rw[hs.2 m hm];exact h.stock m hm⟩
 ·by_cases e:m=i
  ·subst e;rw[upd_same];exact abJ (h.aB _ hi) hk
  ·rw[upd_ne _ _ e];exact h.aB m hm
 ·rw[hF];exact adu h.held hi hk
theorem R5 {L:Nat->List ag} {f:Nat->Int} (h:dO L f) {a:Ask} (hk:fH a 99=0) (hm:mine L a=true):cW L f a=0∧pos (L a.it.toNat) a.id<(L a.it.toNat).length∧a.it.toNat<3:=by
 have hit:=Eb hk;have hi:a.it.toNat<3:=by omega
 have he:((a.it.toNat:Nat):Int)=a.it:=by omega
 have hh:has (L a.it.toNat) a.id=true:=by
  unfold mine at hm;simp only[Bool.and_eq_true]at hm;exact hm.1
 have hp:=qI.1 hh
 have:=R3 h hi (Cv.nA hp)
 rw[he]at this;refine⟨?_,hp,hi⟩;unfold cW fy;rw[if_pos hk,if_pos hm,if_pos ⟨hk,hm⟩];exact this
theorem _root_.Go.Proofs.YtjolccidheflpaaGreatDoor.Fs.dO.cancel {L:Nat->List ag} {f:Nat->Int} (h:dO L f) (a:Ask):dO (dZ L a) (jE L f a):=by
 unfold dZ jE;by_cases hc:fH a 99=0∧mine L a=true
 ·rw[if_pos hc,if_pos hc]
  obtain⟨_,hp,hi⟩:=R5 h hc.1 hc.2;have he:((a.it.toNat:Nat):Int)=a.it:=by have:=Eb hc.1;omega
  have:=h.gone hi hp
  rw[he]at this;have hx':fy L a=nth (L a.it.toNat) (pos (L a.it.toNat) a.id):=by unfold fy;rw[if_pos hc]
  rw[hx'];exact this
 ·rw[if_neg hc,if_neg hc];exact h
end Fl
namespace Fl
open Cv Bk Ra Pu Fu Fs
def eV (c:Int) (l:List ag) (k:Nat):List ag:=(l.take k).filter (fun x=>!(x.ak==c))++l.drop k
def jZ (c:Int) (l:List ag) (k:Nat):List ag:=(l.take k).filter (fun x=>x.ak==c)
def Ec (i:Nat) (f:Nat->Int) (xs:List ag):Nat->Int:=xs.foldl (fun f x=>eP f i x) f
theorem p6 {l:List ag} {k:Nat} (h:k<l.length):l.take (k+1)=l.take k++[nth l k]:=by
 rw[List.take_succ_eq_append_getElem h,uZ h]
theorem drop_cons {l:List ag} {k:Nat} (h:k<l.length):l.drop k=nth l k::l.drop (k+1):=by
 rw[uZ h];exact(List.getElem_cons_drop h).symm
theorem adv (c:Int) (l:List ag):eV c l 0=l:=by simp[eV]
theorem adw (c:Int) {l:List ag} {k:Nat} (h:l.length<=k):eV c l k=l.filter (fun x=>!(x.ak==c)):=by
 unfold eV;rw[List.take_of_length_le h,List.drop_of_length_le h,aNq]
theorem adx (c:Int) {l:List ag} {k:Nat} (h:l.length<=k):jZ c l k=l.filter (fun x=>x.ak==c):=by
 unfold jZ;rw[List.take_of_length_le h]
theorem keep_other {c:Int} {l:List ag} {k:Nat} (h:k<l.length) (hc:(nth l k).ak≠c):eV c l (k+1)=eV c l k∧jZ c l (k+1)=jZ c l k:=by
 have hb:((nth l k).ak==c)=false:=by simpa using hc
 constructor
 ·unfold eV
  rw[p6 h,List.filter_append,drop_cons h,List.filter_cons,hb];simp
 ·unfold jZ
  rw[p6 h,List.filter_append,List.filter_cons,hb];simp
theorem R6 {c:Int} {l:List ag} (ho:eu l) {k:Nat} (h:k<l.length) (hc:(nth l k).ak=c) :
  Bk.dZ (eV c l k) (nth l k).id=eV c l (k+1)∧jZ c l (k+1)=jZ c l k++[nth l k]∧nth (eV c l k) (pos (eV c l k) (nth l k).id)=nth l k∧pos (eV c l k) (nth l k).id<(eV c l k).length:=by
 have hb:((nth l k).ak==c)=true:=by simpa using hc
 obtain⟨ha,_⟩:=R7 ho h;have hno:has ((l.take k).filter (fun x=>!(x.ak==c))) (nth l k).id=false:=by
  cases hh:has ((l.take k).filter (fun x=>!(x.ak==c))) (nth l k).id with
  | false=>rfl
  | true =>
   unfold has at hh;rw[List.any_eq_true]at hh;obtain⟨x,hx,he⟩:=hh;exact absurd (by simpa using he) (ha x (List.mem_filter.1 hx).1)
 have hk:eV c l k=(l.take k).filter (fun x=>!(x.ak==c))++nth l k::l.drop (k+1):=by unfold eV;rw[drop_cons h]
 have hk1:eV c l (k+1)=(l.take k).filter (fun x=>!(x.ak==c))++l.drop (k+1):=by
  unfold eV;rw[p6 h,List.filter_append,List.filter_cons,hb];simp
 have hout:jZ c l (k+1)=jZ c l k++[nth l k]:=by
  unfold jZ;rw[p6 h,List.filter_append,List.filter_cons,hb];simp
 rw[hk,hk1];generalize (l.take k).filter (fun x=>!(x.ak==c))=A at *;generalize l.drop (k+1)=B at *;generalize nth l k=x at *;have hp:pos (A++x::B) x.id=A.length:=by
  unfold pos;have h0:A.findIdx (fun y=>y.id==x.id)=A.length:=QQ.1 hno;rw[List.findIdx_append,h0,if_neg (by omega)];simp[List.findIdx_cons]
 have hh:has (A++x::B) x.id=true:=by unfold has;simp
 have hc0:Bk.cW (A++x::B) x.id=0:=by unfold Bk.cW;rw[if_pos hh]
 refine⟨?_,hout,?_,by rw[hp];simp⟩
 ·unfold Bk.dZ del
  rw[if_pos hc0,hp];simp
 ·rw[hp];unfold nth;simp
theorem drop_one {L:Nat->List ag} {f:Nat->Int} {i:Nat} (hi:i<3) {l:List ag} {c:Int} {k:Nat} (H:dO (upd L i (eV c l k)) f) (ho:eu l) (hk:k<l.length) (hc:(nth l k).ak=c):dO (upd L i (eV c l (k+1))) (eP f i (nth l k)):=by
 obtain⟨h1,_,h3,h4⟩:=R6 ho hk hc;have hh:has (eV c l k) (nth l k).id=true:=qI.2 h4;have hc0:Bk.cW (eV c l k) (nth l k).id=0:=by unfold Bk.cW;rw[if_pos hh]
 have e:Bk.dZ (eV c l k) (nth l k).id=del (eV c l k) (pos (eV c l k) (nth l k).id):=by unfold Bk.dZ;rw[if_pos hc0]
 have:=H.gone hi (k:=pos (eV c l k) (nth l k).id) (by rw[upd_same];exact h4)
 rw[upd_same,h3,vo,<- e,h1]at this;exact this
def k5 (c:Int) (L:Nat->List ag):Nat->Nat->List ag
 | 0=>L
 | i+1=>upd (k5 c L i) i ((L i).filter (fun x=>!(x.ak==c)))
def p_ (c:Int) (L:Nat->List ag) (f:Nat->Int):Nat->Nat->Int
 | 0=>f
 | i+1=>Ec i (p_ c L f i) ((L i).filter (fun x=>x.ak==c))
def mD (c:Int) (L:Nat->List ag):Nat->List ag
 | 0=>[]
 | i+1=>mD c L i++(L i).filter (fun x=>x.ak==c)
theorem R8 (c:Int) (L:Nat->List ag):∀ i j,i<=j->k5 c L i j=L j
 | 0,_,_=>rfl
 | i+1,j,h=>by
  show upd (k5 c L i) i _ j=L j;rw[upd_ne _ _ (by omega),R8 c L i j (by omega)]
theorem Ed (c:Int) (L:Nat->List ag) (h:∀ i,i<3->(L i).length<=60):∀ i,i<=3->(mD c L i).length<=60*i
 | 0,_=>lRq _
 | i+1,hi=>by
  have ih:=Ed c L h i (by omega);have h1:=h i (by omega);have h2:=List.length_filter_le (fun x:ag=>x.ak==c) (L i);show (mD c L i++_).length<=_;rw[lAq];omega
end Fl
namespace Fl
open Cv Bk Ra Pu Fu Fs
end Fl
end Go.Proofs.YtjolccidheflpaaGreatDoor
