/- A request, in numbers and as a value. -/
import Derived.Test.YtjolccidheflpaaGreatDoorProg
import GoSem.PinnedTables
import GoSem.Claim
import GoSem.ClaimJoined
import GoSem.ClaimMapViews
import Derived.JoinedTies
import Derived.KernelRfl
import Derived.Test.YtjolccidheflpaaGreatDoorU00
import Derived.WalkKit
namespace Go.Proofs.YtjolccidheflpaaGreatDoor
set_option maxHeartbeats 8000000
open Go.RowKit
structure Ask where
 k:Int
 c:Int
 sq:Int
 it:Int
 sd:Int
 pr:Int
 q:Int
 id:Int
deriving DecidableEq
def aT (a:Ask):Array Value:=#[.int .u8 a.k,.int .i64 a.c,.int .i64 a.sq,.int .i64 a.it,.int .i64 a.sd,.int .i64 a.pr,.int .i64 a.q,.int .i64 a.id]
def bM (a:Ask):Value:=.agg (aT a)
end Go.Proofs.YtjolccidheflpaaGreatDoor
namespace Go.Proofs.YtjolccidheflpaaGreatDoor
set_option maxHeartbeats 8000000
def Mr:Ask:=⟨0,0,0,0,0,0,0,0⟩
def bZ (l:List Ask) (i:Nat):Ask:=l.getD i Mr
theorem Mt {l:List Ask} {i:Nat} (h:i<l.length):l[i]?=some (bZ l i):=by
 unfold bZ;rw[gE,List.getElem?_eq_getElem h];rfl
namespace ay
def upd {α:Type} (L:Nat->α) (i:Nat) (x:α):Nat->α:=fun j=>if j=i then x else L j
theorem upd_same {α:Type} (L:Nat->α) (i:Nat) (x:α):upd L i x i=x:=by simp[upd]
theorem pI {α:Type} (L:Nat->α) {i j:Nat} (x:α) (h:j≠i):upd L i x j=L j:=by simp[upd,h]
theorem rJ {α:Type} (L:Nat->α) (i:Nat):upd L i (L i)=L:=by
 funext j;unfold upd;split <;> simp_all
def oq (c:Int):Bool:=decide (0<=c)&&decide (c<=5)
theorem Mq {c:Int} (h:oq c=true):∃ n:Nat,n<6∧c=(n:Int):=by
 simp[oq]at h;exact⟨c.toNat,by omega,by omega⟩
def BK (a:Ask):Bool:=a.k==111 || a.k==99
def jJ (L:Nat->List Ask) (a:Ask):Nat:=if BK a=true then (if oq a.c=true then (if 6<=(L a.c.toNat).length then 8 else 0) else 2) else 4
def jK (L:Nat->List Ask) (a:Ask):Nat->List Ask:=if jJ L a=0 then upd L a.c.toNat (L a.c.toNat++[a]) else L
def r8 (L:Nat->List Ask) (c:Int):Nat:=if oq c=true then (L c.toNat).length else 0
def oo (L:Nat->List Ask) (c:Int):Nat->List Ask:=if oq c=true then upd L c.toNat [] else L
def who (t k:Nat):Nat:=(t+k)%6
theorem uj (t k:Nat):who t k<6:=Nat.mod_lt _ (by decide)
def kK (L:Nat->List Ask) (t:Nat):Nat->Nat->List Ask
 | 0=>L
 | k+1=>upd (kK L t k) (who t k) ((kK L t k (who t k)).drop 2)
def kJ (L:Nat->List Ask) (t:Nat):Nat->List Ask
 | 0=>[]
 | k+1=>kJ L t k++(kK L t k (who t k)).take 2
def yD (L:Nat->List Ask) (t:Nat):Nat->List Ask:=kK L t 6
def out (L:Nat->List Ask) (t:Nat):List Ask:=kJ L t 6
theorem Mu (L:Nat->List Ask) {t:Nat} (ht:t<6):∀ (k:Nat),k<=6->∀ c,kK L t k c=if c<6∧(c+6-t)%6<k then (L c).drop 2 else L c
 | 0,_,c=>by simp[kK]
 | k+1,hk,c=>by
  have ih:=Mu L ht k (by omega);unfold kK;by_cases h:c=who t k
  ·rw[h,upd_same,ih,if_neg,if_pos]
   ·refine⟨uj t k,?_⟩
    unfold who;omega
   ·rintro⟨_,h2⟩
    unfold who at h2;omega
  ·rw[pI _ _ h,ih]
   by_cases h6:c<6
   ·have:(c+6-t)%6≠k:=by
     intro e;apply h;unfold who;omega
    by_cases h2:(c+6-t)%6<k
    ·rw[if_pos ⟨h6,h2⟩,if_pos ⟨h6,by omega⟩]
    ·rw[if_neg (fun h=>h2 h.2),if_neg (fun h=>by have:=h.2;omega)]
   ·rw[if_neg (fun h=>h6 h.1),if_neg (fun h=>h6 h.1)]
theorem afY (L:Nat->List Ask) {t:Nat} (ht:t<6) {k:Nat} (hk:k<6):kK L t k (who t k)=L (who t k):=by
 rw[Mu L ht k (by omega),if_neg];rintro⟨_,h⟩;unfold who at h;omega
theorem afZ (L:Nat->List Ask) {t:Nat} (ht:t<6) {k:Nat} (hk:k<6):kJ L t (k+1)=kJ L t k++(L (who t k)).take 2:=by
 rw[<- afY L ht hk];rfl
theorem uk (L:Nat->List Ask) (t:Nat):∀ k,(kJ L t k).length<=2*k
 | 0=>by simp[kJ]
 | k+1=>by
  have:=uk L t k
  simp only[kJ,List.length_append,List.length_take];omega
end ay
def upd {α:Type} (f:Nat->α) (i:Nat) (x:α) (j:Nat):α:=if j=i then x else f j
theorem upd_same {α:Type} (f:Nat->α) (i:Nat) (x:α):upd f i x i=x:=by simp[upd]
theorem upd_ne {α:Type} (f:Nat->α) {i j:Nat} (x:α) (h:j≠i):upd f i x j=f j:=by simp[upd,h]
namespace Fu
open Cv Bk Pu
def aW (g:ag->Int):List ag->Int
 | []=>0
 | x::l=>g x+aW g l
theorem BD (g:ag->Int):∀ a b:List ag,aW g (a++b)=aW g a+aW g b
 | [],b=>by simp[aW]
 | x::a,b=>by rw[List.cons_append,aW,aW,BD g a b];omega
theorem afH (g:ag->Int) {l:List ag} {k:Nat} (hk:k<l.length):aW g (del l k)=aW g l-g (nth l k):=by
 have e:aW g l=aW g (l.take k++nth l k::l.drop (k+1)):=congrArg _ (zL hk);rw[e];unfold del;rw[BD,BD,aW];omega
theorem wz {g:ag->Int}:∀ {l:List ag},(∀ x∈l,0<=g x)->0<=aW g l∧∀ x∈l,g x<=aW g l
 | [],_=>⟨by simp[aW],fun x hx=>by cases hx⟩
 | y::l,h=>by
  obtain⟨h1,h2⟩:=wz (l:=l) (fun x hx=>h x (mOq _ hx));have hy:=h y (mSq ..);rw[aW];refine⟨by omega,fun x hx=>?_⟩;rcases List.mem_cons.1 hx with rfl | hx
  ·omega
  ·have:=h2 x hx;omega
def gB (i j:Nat) (x:ag):Int:=dl (hx i x) (mu x) j
def asked (L:Nat->List ag) (j:Nat):Int:=aW (gB 0 j) (L 0)+aW (gB 1 j) (L 1)+aW (gB 2 j) (L 2)
theorem Mi (L:Nat->List ag) {i:Nat} (hi:i<3) (l:List ag) (j:Nat):asked (upd L i l) j=asked L j-aW (gB i j) (L i)+aW (gB i j) l:=by
 have:i=0∨i=1∨i=2:=by omega
 unfold asked;rcases this with rfl | rfl | rfl
 ·rw[upd_same,upd_ne L l (show 1≠0 by decide),upd_ne L l (show 2≠0 by decide)];omega
 ·rw[upd_same,upd_ne L l (show 0≠1 by decide),upd_ne L l (show 2≠1 by decide)];omega
 ·rw[upd_same,upd_ne L l (show 0≠2 by decide),upd_ne L l (show 1≠2 by decide)];omega
def xS (j:Nat):Prop:=∃ c,c<6∧(j=c*8+1∨∃ k,k<3∧j=c*8+5+k)
def wE (L:Nat->List ag) (f:Nat->Int):Prop:=∀ j,xS j->f j=asked L j
theorem adC (f:Nat->Int) (h:∀ j,xS j->f j=0):wE (fun _=>[]) f:=fun j hj=>by rw[h j hj];rfl
theorem adu {L:Nat->List ag} {f:Nat->Int} (h:wE L f) {i:Nat} (hi:i<3) (x:ag):wE (upd L i (L i++[x])) (Pu.add f (hx i x) (mu x)):=fun j hj=>by
 rw[BF,h j hj,Mi L hi,BD,aW,aW];unfold gB;omega
theorem adw {L:Nat->List ag} {f:Nat->Int} (h:wE L f) {i:Nat} (hi:i<3) {k:Nat} (hk:k<(L i).length):wE (upd L i (del (L i) k)) (Pu.add f (hx i (nth (L i) k)) (-(mu (nth (L i) k)))):=fun j hj=>by
 rw[BF,h j hj,Mi L hi,afH _ hk];unfold gB;have:dl (hx i (nth (L i) k)) (-(mu (nth (L i) k))) j = -(dl (hx i (nth (L i) k)) (mu (nth (L i) k)) j):=by unfold dl;split <;> omega
 rw[this];omega
theorem afI {i:Nat} {x:ag} (h:well i x=true):xS (hx i x):=by
 rcases places h with ⟨c,h1,h2,_⟩ | ⟨c,k,h1,h4,h2,_⟩
 ·exact⟨c,h1,.inl h2⟩
 ·exact⟨c,h1,.inr ⟨k,h4,h2⟩⟩
theorem JQ {i:Nat} (hi:i<3) {x:ag} (h:ok x=true):well i x=true:=by
 unfold well;rw[h];simp[ah.aB];omega
theorem adv {L:Nat->List ag} {f:Nat->Int} (h:wE L f) (hok:∀ j,j<3->dY (L j)) {i:Nat} (hi:i<3) {x:ag} (hx':x∈L i):mu x<=f (hx i x):=by
 have hw:=JQ hi (hok i hi x hx');rw[h _ (afI hw)];have nn:∀ k,k<3->∀ y∈L k,0<=gB k (hx i x) y:=fun k hk y hy=>by
  have:=ua (hok k hk y hy)
  unfold gB dl;split <;> omega
 have h0:=(wz (nn 0 (by decide))).1;have h1:=(wz (nn 1 (by decide))).1;have h2:=(wz (nn 2 (by decide))).1;have hm:gB i (hx i x) x=mu x:=by unfold gB;exact oh
 have hx2:=(wz (nn i hi)).2 x hx';rw[hm]at hx2;have:i=0∨i=1∨i=2:=by omega
 unfold asked;rcases this with rfl | rfl | rfl <;> omega
def per (x:ag):Int:=if x.sd=0 then x.pr else 1
theorem afq (x:ag):mu x=per x*x.q:=by unfold mu per;split <;> omega
end Fu
namespace Fs
open Cv Bk Ra Pu Fu
def gM (i:Nat) (price:Int) (j:Nat) (x:ag) (q:Int):Int :=
 if x.sd=0 then dl (x.ak.toNat*8) (-(price*q)) j+dl (x.ak.toNat*8+1) (-(x.pr*q)) j+dl (x.ak.toNat*8+2+i) q j
 else dl (x.ak.toNat*8) (price*q) j+dl (x.ak.toNat*8+2+i) (-q) j+dl (x.ak.toNat*8+5+i) (-q) j
theorem afn (i:Nat) (price:Int) (j:Nat) (x:ag) (a b:Int):gM i price j x (a+b)=gM i price j x a+gM i price j x b:=by
 unfold gM;rw[show -(price*(a+b)) = -(price*a) + -(price*b) by rw[Int.mul_add];omega,show -(x.pr*(a+b)) = -(x.pr*a) + -(x.pr*b) by rw[Int.mul_add];omega,show -(a+b) = -a + -b by omega,show price*(a+b)=price*a+price*b from Int.mul_add ..];simp only[TV];split <;> omega
theorem afo (i:Nat) (price:Int) (j:Nat) (x:ag):gM i price j x 0=0:=by
 unfold gM;simp[dl]
theorem afp (f:Nat->Int) (i:Nat) (price:Int) {x y:ag} (hx:x.sd=0) (hy:y.sd≠0) (q:Int) (j:Nat):six f x.ak.toNat y.ak.toNat i x.pr price q j=f j+gM i price j x q+gM i price j y q:=by
 rw[Bw];unfold gM;rw[if_pos hx,if_neg hy];omega
structure og (φ:ag->Int->Int):Prop where
 add:∀ x a b,φ x (a+b)=φ x a+φ x b
 self:∀ x (q r:Int),φ ⟨x.id,x.ak,x.sd,x.pr,q⟩ r=φ x r
theorem og.zero {φ:ag->Int->Int} (h:og φ) (x:ag):φ x 0=0:=by have:=h.add x 0 0;simp at this;omega
theorem Mf (i:Nat) (price:Int) (j:Nat):og (gM i price j):=⟨afn i price j,fun _ _ _=>rfl⟩
def lw (i j:Nat) (x:ag) (q:Int):Int:=dl (hx i x) (per x*q) j
theorem Gb (i j:Nat):og (lw i j):=⟨fun x a b=>by unfold lw;rw[Int.mul_add,TV],fun _ _ _=>rfl⟩
theorem TW (i j:Nat) (x:ag):gB i j x=lw i j x x.q:=by unfold gB lw;rw[afq]
theorem Gc:og (fun _ q=>q):=⟨fun _ _ _=>rfl,fun _ _ _=>rfl⟩
def own (φ:ag->Int->Int) (x:ag):Int:=φ x x.q
theorem afr {φ:ag->Int->Int} (h:og φ) (sd:Int):og (fun x q=>if x.sd=sd then φ x q else 0) :=
 ⟨fun x a b=>by show (if x.sd=sd then _ else _)=_;split <;> simp[h.add, *],fun x q r=>by show (if x.sd=sd then φ ⟨x.id,x.ak,x.sd,x.pr,q⟩ r else 0)=if x.sd=sd then φ x r else 0;rw[h.self]⟩
theorem Gd {g h:ag->Int}:∀ {l:List ag},(∀ x∈l,g x=h x)->aW g l=aW h l
 | [],_=>rfl
 | x::l,H=>by rw[aW,aW,H x (mSq ..),Gd fun y hy=>H y (mOq _ hy)]
theorem Mg (g h:ag->Int):∀ l:List ag,aW (fun x=>g x+h x) l=aW g l+aW h l
 | []=>rfl
 | x::l=>by rw[aW,aW,aW,Mg g h l];omega
theorem TX {g h:ag->Int}:∀ {l:List ag},(∀ x∈l,g x<=h x)->aW g l<=aW h l
 | [],_=>Int.le_refl _
 | x::l,H=>by
  have:=H x (mSq ..)
  have:=TX fun y hy=>H y (mOq x hy)
  rw[aW,aW];omega
theorem AR {g:ag->Int}:∀ {l:List ag},(∀ x∈l,g x=0)->aW g l=0
 | [],_=>rfl
 | x::l,H=>by rw[aW,H x (mSq ..),AR fun y hy=>H y (mOq _ hy)];rfl
theorem afs {φ:ag->Int->Int} (kn:og φ) (c:Int->Int) (q:Int) {l:List ag} (ho:eI l) {x:ag} (hx:x∈l):aW (fun y=>φ y (more c x.id q y.id)) l=aW (fun y=>φ y (c y.id)) l+φ x q:=by
 induction l with
 | nil=>cases hx
 | cons y l ih =>
  have hno:y.id ∉ l.map (·.id)∧eI l:=by unfold eI at ho ⊢;rw[List.map_cons,List.nodup_cons]at ho;exact ho
  rw[aW,aW];rcases List.mem_cons.1 hx with rfl | hx'
  ·have e:aW (fun y=>φ y (more c x.id q y.id)) l=aW (fun y=>φ y (c y.id)) l:=Gd fun z hz=>by
    have:z.id≠x.id:=fun e=>hno.1 (by rw[<- e];exact List.mem_map_of_mem hz);unfold more;rw[if_neg this]
   have e2:more c x.id q x.id=c x.id+q:=by unfold more;rw[if_pos rfl]
   rw[e,e2,kn.add];omega
  ·have:y.id≠x.id:=fun e=>hno.1 (by rw[e];exact List.mem_map_of_mem hx')
   have e2:more c x.id q y.id=c y.id:=by unfold more;rw[if_neg this]
   rw[ih hno.2 hx',e2];omega
theorem aft (f:Int×Int) (F:List (Int×Int)):(fun id=>got id (f::F))=more (fun id=>got id F) f.1 f.2:=by
 funext id;show (if f.1=id then f.2 else 0)+got id F=_;simp only[more];by_cases h:f.1=id
 ·rw[if_pos h,if_pos h.symm];omega
 ·rw[if_neg h,if_neg (fun e=>h e.symm)];omega
theorem Lx (F:List (Int×Int)) {k:Nat} (hk:k<F.length):(fun id=>got id (F.take (k+1)))=more (fun id=>got id (F.take k)) (F[k]).1 (F[k]).2:=by
 funext id;rw[List.take_succ_eq_append_getElem hk,Bz];show got id (F.take k)+((if F[k].1=id then F[k].2 else 0)+0)=_;simp only[more];by_cases h:F[k].1=id
 ·rw[if_pos h,if_pos h.symm];omega
 ·rw[if_neg h,if_neg (fun e=>h e.symm)];omega
theorem FM (id:Int):∀ F:List (Int×Int),(∀ f∈F,1<=f.2)->0<=got id F
 | [],_=>Int.le_refl _
 | f::F,h=>by
  have:=FM id F fun g hg=>h g (mOq _ hg)
  have:=h f (mSq ..)
  show 0<=(if f.1=id then f.2 else 0)+got id F;split <;> omega
theorem Tc (id:Int) (F:List (Int×Int)) (h:∀ f∈F,1<=f.2) (k:Nat):got id (F.take k)<=got id F:=by
 have e:got id F=got id (F.take k++F.drop k):=by rw[List.take_append_drop]
 rw[e,Bz]
 have:=FM id (F.drop k) fun f hf=>h f (List.mem_of_mem_drop hf)
 omega
theorem afu {F:List (Int×Int)} (h:∀ f∈F,1<=f.2) {f:Int×Int} (hf:f∈F):f.2<=got f.1 F:=by
 obtain⟨k,hk,rfl⟩:=List.mem_iff_getElem.1 hf;have h1:=Tc (F[k]).1 F h (k+1);have h2:=congrFun (Lx F hk) (F[k]).1;simp only[more,if_true]at h2;have h3:=FM (F[k]).1 (F.take k) fun g hg=>h g (List.mem_of_mem_take hg);omega
def nT (l:List ag) (sd:Int) (f:Int×Int):List ag:=if has l f.1=true∧(nth l (pos l f.1)).sd=sd then [Pu.only (nth l (pos l f.1)) f.2] else []
def filled (l:List ag) (sd:Int):List (Int×Int)->List ag
 | []=>[]
 | f::F=>nT l sd f++filled l sd F
theorem R4 (l:List ag) (sd:Int):∀ F G,filled l sd (F++G)=filled l sd F++filled l sd G
 | [],G=>rfl
 | f::F,G=>by rw[List.cons_append,filled,filled,R4 l sd F G,aAq]
theorem nJ {l:List ag} {k:Nat} (h:k<l.length):nth l k∈l:=by rw[vB h];exact List.getElem_mem h
theorem afv {l:List ag} {x:ag} (h:x∈l):has l x.id=true:=by
 unfold has;rw[List.any_eq_true];exact⟨x,h,by simp⟩
theorem TY {l:List ag} {sd:Int} {y:ag}:∀ {F:List (Int×Int)},y∈filled l sd F->∃ f∈F,∃ x∈l,x.id=f.1∧x.sd=sd∧y=Pu.only x f.2
 | [],h=>by cases h
 | f::F,h=>by
  rw[filled,List.mem_append]at h;rcases h with h | h
  ·unfold nT at h
   split at h
   ·rename_i hh
    have hk:=rA.1 hh.1;exact⟨f,mSq ..,nth l (pos l f.1),nJ hk,zS hk,hh.2,List.mem_singleton.1 h⟩
   ·cases h
  ·obtain⟨g,hg,r⟩:=TY h
   exact⟨g,mOq _ hg,r⟩
theorem BA {φ:ag->Int->Int} (kn:og φ) {l:List ag} (ho:eI l) (sd:Int):∀ F:List (Int×Int),(∀ f∈F,∃ x∈l,x.id=f.1)->aW (own φ) (filled l sd F)=aW (fun x=>if x.sd=sd then φ x (got x.id F) else 0) l
 | [],_=>by
  rw[filled,aW];exact(AR fun x _=>by show (if x.sd=sd then φ x 0 else 0)=0;rw[kn.zero];simp).symm
 | f::F,h=>by
  have ih:=BA kn ho sd F fun g hg=>h g (mOq _ hg);obtain⟨x,hx,he⟩:=h f (mSq ..);have hh:=afv hx;rw[he]at hh;have hk:=rA.1 hh;have hid:=zS hk;have hm:=nJ hk;have hs:=afs (afr kn sd) (fun id=>got id F) f.2 ho hm;rw[hid,<- aft]at hs;rw[filled,BD,ih];have e:aW (own φ) (nT l sd f)=if (nth l (pos l f.1)).sd=sd then φ (nth l (pos l f.1)) f.2 else 0:=by
   unfold nT;by_cases h2:(nth l (pos l f.1)).sd=sd
   ·rw[if_pos ⟨hh,h2⟩,if_pos h2,aW,aW]
    show φ (Pu.only _ _) f.2+0=_;unfold Pu.only;rw[kn.self];omega
   ·rw[if_neg (fun h3=>h2 h3.2),if_neg h2];rfl
  rw[e];have:(fun y:ag=>if y.sd=sd then φ y (got y.id (f::F)) else 0)=fun y=>if y.sd=sd then φ y ((fun id=>got id (f::F)) y.id) else 0:=rfl;rw[this,hs];omega
def fV:List ag->Int->List ag
 | [],_=>[]
 | x::l,q=>if x.q-q=0 then l else less x q::l
theorem vL (x:ag) (l:List ag) (q:Int):fV (x::l) q=if x.q-q=0 then l else less x q::l:=rfl
structure nN (i:Nat) (price:Int) (G:Nat->Int) (f:Nat->Int) (bs ss:List ag):Prop where
 sum:∀ j,f j+aW (own (gM i price j)) bs+aW (own (gM i price j)) ss=G j
 bw:bw bs=bw ss
 bU:∀ x∈bs,well i x=true∧x.sd=0∧price<=x.pr
 ws:∀ x∈ss,well i x=true∧x.sd=1∧x.pr<=price
 good:Pu.Good f
 held:∀ j,xS j->aW (gB i j) bs+aW (gB i j) ss<=f j
 cash:d8 f 6<=1099511627776
 stock:∀ k,k<3->d9 f k 6<=1073741824
theorem T4 {l:List ag} (h:∀ x∈l,1<=x.q):0<=Ra.bw l∧(Ra.bw l=0->l=[]):=by
 cases l with
 | nil=>exact⟨Int.le_refl _,fun _=>rfl⟩
 | cons x l =>
  have h1:=h x (mSq ..);have h2:=Ra.t7 l fun y hy=>h y (mOq _ hy);have:Ra.bw (x::l)=x.q+Ra.bw l:=rfl;exact⟨by omega,fun e=>by omega⟩
theorem Ge {i:Nat} {x:ag} (h:well i x=true):1<=x.q:=(Cv.fU (kj h)).2.2.2.2.1
theorem nN.done {i:Nat} {price:Int} {G f:Nat->Int} {bs ss:List ag} (h:nN i price G f bs ss) (he:bs=[]∨ss=[]):∀ j,f j=G j:=by
 have h1:=T4 fun x hx=>Ge (h.bU x hx).1;have h2:=T4 fun x hx=>Ge (h.ws x hx).1;have ht:=h.bw;have e0:Ra.bw []=0:=rfl;have:bs=[]∧ss=[]:=by
  rcases he with e | e
  ·subst e;exact⟨rfl,h2.2 (by omega)⟩
  ·subst e;exact⟨h1.2 (by omega),rfl⟩
 intro j
 have:=h.sum j
 rw[‹bs=[]∧ss=[]›.1,‹bs=[]∧ss=[]›.2,aW]at this;omega
theorem yA {φ:ag->Int->Int} (kn:og φ) (x:ag) (l:List ag) (q:Int):aW (own φ) (fV (x::l) q)=aW (own φ) (x::l)-φ x q:=by
 have h:φ x x.q=φ x (x.q-q)+φ x q:=by rw[<- kn.add];congr 1;omega
 rw[vL];split
 ·rename_i e
  have h':φ x (x.q-q)=0:=by rw[e];exact kn.zero x
  show aW (own φ) l=own φ x+aW (own φ) l-φ x q;unfold own at *;omega
 ·show own φ (less x q)+aW (own φ) l=own φ x+aW (own φ) l-φ x q
  have:own φ (less x q)=φ x (x.q-q):=kn.self x _ _;rw[this];unfold own at *;omega
theorem T5 {x y:ag} {l:List ag} {q:Int} (h:y∈fV (x::l) q):y∈l∨(x.q-q≠0∧y=less x q):=by
 rw[vL]at h;split at h
 ·exact .inl h
 ·rename_i e
  rcases List.mem_cons.1 h with h | h
  ·exact .inr ⟨e,h⟩
  ·exact .inl h
theorem T6 {i:Nat} {x:ag} {q:Int} (h:well i x=true) (h1:1<=q) (h2:q<x.q):well i (less x q)=true:=by
 have h3:=Qk (kj h) h1 h2;simp only[well,Bool.and_eq_true]at h ⊢;exact⟨h.1,h3⟩
theorem Gf (l:List ag):Ra.bw l=aW (own fun _ q=>q) l:=by
 induction l with
 | nil=>rfl
 | cons x l ih=>show x.q+Ra.bw l=x.q+_;rw[ih]
theorem yB (i j:Nat) (l:List ag):aW (gB i j) l=aW (own (lw i j)) l:=Gd fun x _=>TW i j x
theorem afw {f:Nat->Int} (hg:Pu.Good f) {b s:Nat} (hb:b<6) (hs:s<6) (hne:b≠s):f (b*8)+f (s*8)<=d8 f 6:=by
 have h0:=hg.cash 0 (by decide);have h1:=hg.cash 1 (by decide);have h2:=hg.cash 2 (by decide);have h3:=hg.cash 3 (by decide);have h4:=hg.cash 4 (by decide);have h5:=hg.cash 5 (by decide);simp only[d8];have:b=0∨b=1∨b=2∨b=3∨b=4∨b=5:=by omega
 have:s=0∨s=1∨s=2∨s=3∨s=4∨s=5:=by omega
 rcases ‹b=0∨_› with rfl | rfl | rfl | rfl | rfl | rfl <;> rcases ‹s=0∨_› with rfl | rfl | rfl | rfl | rfl | rfl <;> first | exact absurd rfl hne | (simp only[Nat.reduceMul,Nat.reduceAdd]at *;omega)
theorem afx {f:Nat->Int} (hg:Pu.Good f) {k b s:Nat} (hk:k<3) (hb:b<6) (hs:s<6) (hne:b≠s):f (b*8+2+k)+f (s*8+2+k)<=d9 f k 6:=by
 have h0:=hg.stock 0 k (by decide) hk;have h1:=hg.stock 1 k (by decide) hk;have h2:=hg.stock 2 k (by decide) hk;have h3:=hg.stock 3 k (by decide) hk;have h4:=hg.stock 4 k (by decide) hk;have h5:=hg.stock 5 k (by decide) hk;simp only[d9];have:b=0∨b=1∨b=2∨b=3∨b=4∨b=5:=by omega
 have:s=0∨s=1∨s=2∨s=3∨s=4∨s=5:=by omega
 rcases ‹b=0∨_› with rfl | rfl | rfl | rfl | rfl | rfl <;> rcases ‹s=0∨_› with rfl | rfl | rfl | rfl | rfl | rfl <;> first | exact absurd rfl hne | (simp only[Nat.reduceMul,Nat.reduceAdd]at *;omega)
theorem nN.step {i:Nat} (hi:i<3) {price:Int} (hp:1<=price∧price<=1000) {G f:Nat->Int} {x y:ag} {bs ss:List ag} (h:nN i price G f (x::bs) (y::ss)) {q:Int} (hq:q=min x.q y.q) :
  g_ f i x y price q=0∧nN i price G (iY f i x y price q) (fV (x::bs) q) (fV (y::ss) q):=by
 obtain⟨wx,t_,Gg⟩:=h.bU x (mSq ..);obtain⟨ij,T7,T8⟩:=h.ws y (mSq ..);have aog:=Ge wx;have aoh:=Ge ij;have q1:1<=q:=by omega
 have q2:q<=x.q:=by omega
 have q3:q<=y.q:=by omega
 have yC:y.sd≠0:=by omega
 have bx:=Cv.fU (kj wx);have by':=Cv.fU (kj ij)
 have Gh:x.ak.toNat<6:=by omega
 have Gi:y.ak.toNat<6:=by omega
 have it:((i:Nat):Int).toNat=i:=Int.toNat_natCast i;have nn:∀ (l:List ag),(∀ z∈l,well i z=true)->∀ j,0<=aW (gB i j) l:=fun l hl j=>(wz fun z hz=>by
  have:=ua (kj (hl z hz))
  unfold gB dl;split <;> omega).1
 have ax:∀ j,gB i j x=dl (x.ak.toNat*8+1) (x.pr*x.q) j:=fun j=>by
  unfold gB hx mu;rw[if_pos t_,if_pos t_]
 have T9:∀ j,gB i j y=dl (y.ak.toNat*8+5+i) y.q j:=fun j=>by
  unfold gB hx mu;rw[if_neg yC,if_neg yC,it]
 have aD:=nn bs (fun z hz=>(h.bU z (mOq _ hz)).1);have T_:=nn ss (fun z hz=>(h.ws z (mOq _ hz)).1);have aoi:0<=x.pr*x.q:=Int.mul_nonneg (by omega) (by omega);have hx1:x.pr*x.q<=f (x.ak.toNat*8+1):=by
  have:=h.held (x.ak.toNat*8+1) ⟨x.ak.toNat,Gh,.inl rfl⟩
  rw[aW,aW,ax,T9,oh,dz (by omega)]at this
  have:=aD (x.ak.toNat*8+1)
  have:=T_ (x.ak.toNat*8+1)
  omega
 have hy1:y.q<=f (y.ak.toNat*8+5+i):=by
  have:=h.held (y.ak.toNat*8+5+i) ⟨y.ak.toNat,Gi,.inr ⟨i,hi,rfl⟩⟩
  rw[aW,aW,ax,T9,oh,dz (by omega)]at this
  have:=aD (y.ak.toNat*8+5+i)
  have:=T_ (y.ak.toNat*8+5+i)
  omega
 have aoj:x.pr*q<=x.pr*x.q:=Int.mul_le_mul_of_nonneg_left q2 (by omega);have hpq:price*q<=x.pr*q:=Int.mul_le_mul_of_nonneg_right Gg (by omega);have vY:lx i x y price q=0:=by
  unfold lx;rw[if_pos ⟨wx,ij⟩,if_pos ⟨t_,T7⟩,if_pos ⟨hp,q1,q2,q3⟩,if_pos ⟨T8,Gg⟩]
 have afy:mV f x.ak.toNat y.ak.toNat i x.pr q=false:=by
  simp only[mV,Bool.or_eq_false_iff,decide_eq_false_iff_not];exact⟨by omega,by omega⟩
 have hover:over f x.ak.toNat y.ak.toNat i price q=false:=by
  unfold over;by_cases e:x.ak.toNat=y.ak.toNat
  ·simp[e]
  ·have c1:=afw h.good Gh Gi e
   have c2:=afx h.good hi Gh Gi e;have c3:=h.cash;have c4:=h.stock i hi;have c5:=h.good.cash _ Gh;have c6:=h.good.stock _ i Gi hi;have d1:decide (1073741824<f (x.ak.toNat*8+2+i)+q)=false:=by simp;omega
   have d2:decide (1099511627776<f (y.ak.toNat*8)+price*q)=false:=by simp;omega
   rw[d1,d2];simp
 have hC:g_ f i x y price q=0:=by
  unfold g_;rw[if_pos vY,it,if_neg (by rw[afy];decide),if_neg (by rw[hover];decide)]
 have hF:iY f i x y price q=six f x.ak.toNat y.ak.toNat i x.pr price q:=by
  unfold iY;rw[if_pos hC,it]
 have hg:=afz h.good i x y price q;have hs:=D7 f i x y price q;have e6:∀ j,iY f i x y price q j=f j+gM i price j x q+gM i price j y q:=fun j=>by rw[hF];exact afp f i price t_ yC q j
 refine⟨hC,?_,?_,?_,?_,hg,?_,by rw[hs.1];exact h.cash,fun k hk=>by rw[hs.2 k hk];exact h.stock k hk⟩
 ·intro j
  rw[yA (Mf i price j),yA (Mf i price j),e6,<- h.sum j];omega
 ·have:=h.bw
  rw[Gf,Gf]at this ⊢;rw[yA Gc,yA Gc];omega
 ·intro z hz
  rcases T5 hz with hz | ⟨hz,rfl⟩
  ·exact h.bU z (mOq _ hz)
  ·exact⟨T6 wx q1 (by omega),t_,Gg⟩
 ·intro z hz
  rcases T5 hz with hz | ⟨hz,rfl⟩
  ·exact h.ws z (mOq _ hz)
  ·exact⟨T6 ij q1 (by omega),T7,T8⟩
 ·intro j hj
  have:=h.held j hj
  rw[yB,yB]at this ⊢;rw[yA (Gb i j),yA (Gb i j),e6];have ex:gM i price j x q = -(lw i j x q):=by
   unfold gM lw hx per;rw[if_pos t_,if_pos t_,if_pos t_];obtain⟨c,hc,lg⟩:=hj;rw[dz (i:=x.ak.toNat*8) (by rcases lg with e | ⟨k,hk,e⟩ <;> omega),dz (i:=x.ak.toNat*8+2+i) (by rcases lg with e | ⟨k,hk,e⟩ <;> omega)];unfold dl;split <;> omega
  have ey:gM i price j y q = -(lw i j y q):=by
   unfold gM lw hx per;rw[if_neg yC,if_neg yC,if_neg yC,it,Int.one_mul];obtain⟨c,hc,lg⟩:=hj;rw[dz (i:=y.ak.toNat*8) (by rcases lg with e | ⟨k,hk,e⟩ <;> omega),dz (i:=y.ak.toNat*8+2+i) (by rcases lg with e | ⟨k,hk,e⟩ <;> omega)];unfold dl;split <;> omega
  omega
end Fs
namespace Fs
open Cv Bk Ra Pu Fu
structure vM (l:List ag) (price:Int) (F:List (Int×Int)):Prop where
 pos:∀ f∈F,1<=f.2∧∃ x∈l,x.id=f.1
 le:∀ x∈l,0<=got x.id F∧got x.id F<=x.q
 el:∀ x∈l,0<got x.id F->(x.sd=0->price<=x.pr)∧(x.sd=1->x.pr<=price)
 afB:aW (fun x=>if x.sd=0 then got x.id F else 0) l=aW (fun x=>if x.sd=1 then got x.id F else 0) l
def gZ (F:List (Int×Int)) (l:List ag):List ag:=rem (fun id=>got id F) l
def gW (f:Nat->Int) (i:Nat) (price:Int) (l:List ag) (F:List (Int×Int)) (j:Nat):Int:=f j+aW (fun x=>gM i price j x (got x.id F)) l
structure d7 (L:Nat->List ag) (f:Nat->Int):Prop where
 aG:∀ i,i<3->Bk.Good (L i)
 good:Pu.Good f
 held:wE L f
 cash:d8 f 6<=1099511627776
 stock:∀ k,k<3->d9 f k 6<=1073741824
theorem afC {i:Nat} (hi:i<3) {price:Int} {j:Nat} (hj:xS j) (x:ag) (q:Int):gM i price j x q = -(lw i j x q):=by
 obtain⟨c,hc,lg⟩:=hj;unfold gM lw hx per;rw[Int.toNat_natCast];split
 ·rw[dz (i:=x.ak.toNat*8) (by rcases lg with e | ⟨k,hk,e⟩ <;> omega),dz (i:=x.ak.toNat*8+2+i) (by rcases lg with e | ⟨k,hk,e⟩ <;> omega)]
  unfold dl;split <;> omega
 ·rw[dz (i:=x.ak.toNat*8) (by rcases lg with e | ⟨k,hk,e⟩ <;> omega),dz (i:=x.ak.toNat*8+2+i) (by rcases lg with e | ⟨k,hk,e⟩ <;> omega),Int.one_mul]
  unfold dl;split <;> omega
theorem Ud {φ:ag->Int->Int} (kn:og φ) {c:Int->Int}:∀ {l:List ag},(∀ x∈l,c x.id<=x.q)->aW (own φ) (rem c l)=aW (own φ) l-aW (fun x=>φ x (c x.id)) l
 | [],_=>rfl
 | x::l,h=>by
  have ih:=Ud kn (c:=c) (l:=l) fun y hy=>h y (mOq _ hy);have hx:=h x (mSq ..);have e:φ x x.q=φ x (x.q-c x.id)+φ x (c x.id):=by rw[<- kn.add];congr 1;omega
  unfold rem at ih ⊢;rw[List.filterMap_cons];by_cases hc:c x.id<x.q
  ·have:kH c x=some (less x (c x.id)):=by unfold kH;rw[if_pos hc]
   rw[this];show own φ (less x (c x.id))+aW (own φ) (l.filterMap (kH c))=own φ x+aW (own φ) l-(φ x (c x.id)+aW _ l);have e2:own φ (less x (c x.id))=φ x (x.q-c x.id):=kn.self x _ _;rw[e2,ih];unfold own;omega
  ·have:kH c x=none:=by unfold kH;rw[if_neg hc]
   rw[this];show aW (own φ) (l.filterMap (kH c))=own φ x+aW (own φ) l-(φ x (c x.id)+aW _ l);have e3:c x.id=x.q:=by omega
   rw[ih];unfold own;rw[e3];omega
theorem Td {l:List ag} (h:Bk.Good l) {c:Int->Int} (hc:∀ x∈l,0<=c x.id):Bk.Good (rem c l):=by
 refine⟨fun y hy=>?_,lTq (List.length_filterMap_le _ _) h.2,Ue h.3⟩;obtain⟨x,hx,hlt,rfl⟩:=Gj.1 hy;have h0:=hc x hx;by_cases e:c x.id=0
 ·rw[e]
  have:less x 0=x:=by unfold less;simp
  rw[this];exact h.1 x hx
 ·exact Qk (h.1 x hx) (by omega) hlt
theorem afD {l:List ag} (h:dY l) {x:ag} (hx:x∈l):x.sd=0∨x.sd=1:=by
 have:=(fU (h x hx)).2.2.1;omega
theorem afE {φ:ag->Int->Int} {l:List ag} (h:dY l) (F:List (Int×Int)) :
  aW (fun x=>if x.sd=0 then φ x (got x.id F) else 0) l+aW (fun x=>if x.sd=1 then φ x (got x.id F) else 0) l=aW (fun x=>φ x (got x.id F)) l:=by
 rw[<- Mg];exact Gd fun x hx=>by
  rcases afD h hx with e | e
  ·rw[if_pos e,if_neg (by omega)];omega
  ·rw[if_neg (by omega),if_pos e];omega
theorem Uf {l:List ag} (h:dY l) {price:Int} {F:List (Int×Int)} (hF:vM l price F) {i:Nat} (hi:i<3) {sd:Int} {y:ag} (hy:y∈filled l sd F):well i y=true∧y.sd=sd∧(y.sd=0->price<=y.pr)∧(y.sd=1->y.pr<=price):=by
 obtain⟨f,hf,x,hx,hid,hsd,rfl⟩:=TY hy;have h1:=(hF.pos f hf).1;have h2:=afu (fun g hg=>(hF.pos g hg).1) hf;rw[<- hid]at h2;have h3:=(hF.le x hx).2;exact⟨Mh (JQ hi (h x hx)) h1 (by omega),hsd,(hF.el x hx (by omega)).1,(hF.el x hx (by omega)).2⟩
theorem d7.start {L:Nat->List ag} {f:Nat->Int} (h:d7 L f) {i:Nat} (hi:i<3) {price:Int} {F:List (Int×Int)} (hF:vM (L i) price F):nN i price (gW f i price (L i) F) f (filled (L i) 0 F) (filled (L i) 1 F):=by
 have hok:=(h.aG i hi).1;have yy:=(h.aG i hi).3;have hm:∀ g∈F,∃ x∈L i,x.id=g.1:=fun g hg=>(hF.pos g hg).2;have hs:∀ {φ:ag->Int->Int},og φ->aW (own φ) (filled (L i) 0 F)+aW (own φ) (filled (L i) 1 F)=aW (fun x=>φ x (got x.id F)) (L i):=fun {φ} kn=>by
  rw[BA kn yy 0 F hm,BA kn yy 1 F hm,afE hok]
 refine⟨fun j=>?_,?_,fun x hx=>?_,fun x hx=>?_,h.good,fun j hj=>?_,h.cash,h.stock⟩
 ·have:=hs (Mf i price j)
  unfold gW;omega
 ·rw[Gf,Gf,BA Gc yy 0 F hm,BA Gc yy 1 F hm]
  exact hF.afB
 ·obtain⟨a,b,c,_⟩:=Uf hok hF hi hx
  exact⟨a,b,c b⟩
 ·obtain⟨a,b,_,c⟩:=Uf hok hF hi hx
  exact⟨a,b,c b⟩
 ·rw[yB,yB,hs (Gb i j),h.held j hj]
  have h1:aW (fun x=>lw i j x (got x.id F)) (L i)<=aW (gB i j) (L i):=TX fun x hx=>by
   have hb:=hF.le x hx;have hp:=fU (hok x hx);rw[TW];unfold lw dl;split
   ·exact Int.mul_le_mul_of_nonneg_left hb.2 (by unfold per;split <;> omega)
   ·exact Int.le_refl _
  have nn:∀ k,k<3->0<=aW (gB k j) (L k):=fun k hk=>(wz fun y hy=>by
   have:=ua ((h.aG k hk).1 y hy)
   unfold gB dl;split <;> omega).1
  have n0:=nn 0 (by decide);have n1:=nn 1 (by decide);have n2:=nn 2 (by decide);have:i=0∨i=1∨i=2:=by omega
  unfold asked;rcases this with rfl | rfl | rfl <;> omega
theorem d7.settled {L:Nat->List ag} {f:Nat->Int} (h:d7 L f) {i:Nat} (hi:i<3) {price:Int} {F:List (Int×Int)} (hF:vM (L i) price F)
  (hg:Pu.Good (gW f i price (L i) F)) (hc:d8 (gW f i price (L i) F) 6=d8 f 6) (hs:∀ k,k<3->d9 (gW f i price (L i) F) k 6=d9 f k 6):d7 (upd L i (gZ F (L i))) (gW f i price (L i) F):=by
 refine⟨fun k hk=>?_,hg,fun j hj=>?_,by rw[hc];exact h.cash,fun k hk=>by rw[hs k hk];exact h.stock k hk⟩
 ·by_cases e:k=i
  ·subst e;rw[upd_same];exact Td (h.aG k hk) fun x hx=>(hF.le x hx).1
  ·rw[upd_ne _ _ e];exact h.aG k hk
 ·rw[Mi L hi,yB,yB]
  unfold gZ gW;rw[Ud (Gb i j) (fun x hx=>(hF.le x hx).2),h.held j hj];have:aW (fun x=>gM i price j x (got x.id F)) (L i) = - aW (fun x=>lw i j x (got x.id F)) (L i):=by
   have e:aW (fun x=>gM i price j x (got x.id F)+lw i j x (got x.id F)) (L i)=0:=AR fun x _=>by rw[afC hi hj];omega
   rw[Mg]at e;omega
  rw[this];omega
end Fs
theorem vK {α:Type} (f:Nat->α) (i:Nat) (x y:α):upd (upd f i x) i y=upd f i y:=by
 funext j;unfold upd;split <;> rfl
theorem rJ {α:Type} (f:Nat->α) (i:Nat):upd f i (f i)=f:=by
 funext j;unfold upd;split
 ·rename_i h;rw[h]
 ·rfl
namespace Bk
def JL (l:List Cv.ag) (ak:Int):List Int:=(l.filter fun x=>x.ak==ak).map (·.id)
end Bk
namespace Fl
def fE (a:Ask):Cv.ag:=⟨a.id,a.c,a.sd,a.pr,a.q⟩
def fP (a:Ask) (k:Int):Int:=if ah.code a.k a.c a.sq a.it a.sd a.pr a.q a.id=0∧a.k≠k then 4 else ah.code a.k a.c a.sq a.it a.sd a.pr a.q a.id
def eQ (L:Nat->List Cv.ag) (pf:Nat->Int) (a:Ask):Nat :=
 if fP a 111=0 then (if Cv.ok (fE a)=true then (if Cv.has (L a.it.toNat) a.id=true then 6 else if 60<=(L a.it.toNat).length then 7 else Pu.jE pf a.it (fE a)) else 1) else (fP a 111-1).toNat
def kF (L:Nat->List Cv.ag) (pf:Nat->Int) (a:Ask):Nat->List Cv.ag:=if eQ L pf a=0 then upd L a.it.toNat (L a.it.toNat++[fE a]) else L
def jF (L:Nat->List Cv.ag) (pf:Nat->Int) (a:Ask):Nat->Int:=if eQ L pf a=0 then Pu.j7 pf a.it (fE a) else pf
theorem Ro {a:Ask} {k:Int} (h:fP a k=0):a.k=k∧ah.ju a.k a.c a.sq a.it a.sd a.pr a.q a.id=true∧ah.lJ a.k a.it a.sd a.pr a.q a.id=true:=by
 unfold fP at h;split at h
 ·cases h
 ·rename_i hn
  have hc:ah.code a.k a.c a.sq a.it a.sd a.pr a.q a.id=0:=by omega
  refine⟨Decidable.byContradiction fun e=>hn ⟨hc,e⟩,?_,?_⟩
  ·unfold ah.code at hc
   split at hc
   ·split at hc
    ·assumption
    ·cases hc
   ·cases hc
  ·unfold ah.code at hc
   split at hc
   ·split at hc
    ·split at hc
     ·assumption
     ·cases hc
    ·cases hc
   ·cases hc
theorem JM {a:Ask} {k:Int} (h:fP a k≠0):2<=fP a k:=by
 unfold fP at *;split
 ·decide
 ·rename_i hn
  rw[if_neg hn]at h;have:ah.code a.k a.c a.sq a.it a.sd a.pr a.q a.id=0∨2<=ah.code a.k a.c a.sq a.it a.sd a.pr a.q a.id:=by
   unfold ah.code;split <;> (try split) <;> (try split) <;> omega
  omega
theorem Rp {a:Ask} (h:fP a 111=0):0<=a.it∧a.it<=2:=by
 obtain⟨h1,h2,_⟩:=Ro h;rw[h1]at h2;simp[ah.ju,ah.aB]at h2;omega
def mine (L:Nat->List Cv.ag) (a:Ask):Bool:=Cv.has (L a.it.toNat) a.id&&((Cv.nth (L a.it.toNat) (Bk.pos (L a.it.toNat) a.id)).ak==a.c)
def fD (L:Nat->List Cv.ag) (a:Ask):Cv.ag:=if fP a 99=0∧mine L a=true then Cv.nth (L a.it.toNat) (Bk.pos (L a.it.toNat) a.id) else Cv.z
def dx (L:Nat->List Cv.ag) (pf:Nat->Int) (a:Ask):Nat :=
 if fP a 99=0 then (if mine L a=true then Pu.gK pf a.it (fD L a) else 5) else (fP a 99-1).toNat
def eu (L:Nat->List Cv.ag) (a:Ask):Nat->List Cv.ag:=if fP a 99=0∧mine L a=true then upd L a.it.toNat (Bk.del (L a.it.toNat) (Bk.pos (L a.it.toNat) a.id)) else L
def jG (L:Nat->List Cv.ag) (pf:Nat->Int) (a:Ask):Nat->Int:=if fP a 99=0∧mine L a=true then Pu.eX pf a.it (fD L a) else pf
theorem D4 {a:Ask} (h:fP a 99=0):0<=a.it∧a.it<=2:=by
 obtain⟨h1,h2,_⟩:=Ro h;rw[h1]at h2;simp[ah.ju,ah.aB]at h2;omega
def adq (i:Nat) (s:List Cv.ag×(Nat->Int)×List Cv.ag) (id:Int):List Cv.ag×(Nat->Int)×List Cv.ag :=
 (Bk.eu s.1 id,Pu.eX s.2.1 i (Bk.fD s.1 id),s.2.2++[Bk.fD s.1 id])
def JN (i:Nat) (l:List Cv.ag) (f:Nat->Int) (o:List Cv.ag) (ids:List Int):List Cv.ag×(Nat->Int)×List Cv.ag:=ids.foldl (adq i) (l,f,o)
def mF (c:Int) (L:Nat->List Cv.ag) (f:Nat->Int):Nat->(Nat->List Cv.ag)×(Nat->Int)×List Cv.ag
 | 0=>(L,f,[])
 | i+1 =>
  (upd (mF c L f i).1 i (JN i ((mF c L f i).1 i) (mF c L f i).2.1 (mF c L f i).2.2 (Bk.JL ((mF c L f i).1 i) c)).1,
   (JN i ((mF c L f i).1 i) (mF c L f i).2.1 (mF c L f i).2.2 (Bk.JL ((mF c L f i).1 i) c)).2.1,
   (JN i ((mF c L f i).1 i) (mF c L f i).2.1 (mF c L f i).2.2 (Bk.JL ((mF c L f i).1 i) c)).2.2)
def j8 (cash stock:Int):Nat->Nat->Int
 | 0=>fun _=>0
 | k+1=>Pu.iH (j8 cash stock k) ⟨k,cash,stock,stock,stock⟩
theorem JO (cash stock:Int):∀ k,Pu.Good (j8 cash stock k)
 | 0=>Pu.adr
 | k+1=>Pu.ads (JO cash stock k) _
def tF (ref:Int) (k:Nat):Int:=if k%2=0 then ref else 0
open Cv Bk Ra Pu Fu Fs
theorem _root_.Go.Proofs.YtjolccidheflpaaGreatDoor.Fs.d7.place {L:Nat->List ag} {f:Nat->Int} (h:d7 L f) (a:Ask):d7 (kF L f a) (jF L f a):=by
 unfold kF jF;by_cases hc:eQ L f a=0
 ·rw[if_pos hc,if_pos hc]
  unfold eQ at hc;split at hc
  ·rename_i hk
   have hit:=Rp hk;split at hc
   ·rename_i hok
    split at hc
    ·cases hc
    ·rename_i hn
     split at hc
     ·cases hc
     ·rename_i hl
      have hi:a.it.toNat<3:=by omega
      have he:((a.it.toNat:Nat):Int)=a.it:=by omega
      have hF:j7 f a.it (fE a)=Pu.add f (hx a.it (fE a)) (mu (fE a)):=by unfold j7;rw[if_pos hc]
      have hs:=Rq f a.it (fE a) 6;refine⟨fun k hk=>?_,adt h.good _ _,?_,by rw[hs.1];exact h.cash,fun k hk=>by rw[hs.2 k hk];exact h.stock k hk⟩
      ·by_cases e:k=a.it.toNat
       ·subst e;rw[upd_same]
        exact abp (h.aG _ hi) hok (by simpa [fE] using hn) (by omega)
       ·rw[upd_ne _ _ e];exact h.aG k hk
      ·have:=adu h.held hi (fE a)
       rw[he,<- hF]at this;exact this
   ·cases hc
  ·rename_i hk
   have:=JM hk
   omega
 ·rw[if_neg hc,if_neg hc];exact h
theorem Rs {L:Nat->List ag} {f:Nat->Int} (h:d7 L f) {i:Nat} (hi:i<3) {x:ag} (hx':x∈L i):gK f i x=0:=by
 have:=adv h.held (fun j hj=>(h.aG j hj).oks) hi hx'
 unfold gK;rw[if_pos (JQ hi ((h.aG i hi).oks x hx')),if_neg (by omega)]
theorem _root_.Go.Proofs.YtjolccidheflpaaGreatDoor.Fs.d7.gone {L:Nat->List ag} {f:Nat->Int} (h:d7 L f) {i:Nat} (hi:i<3) {k:Nat} (hk:k<(L i).length):d7 (upd L i (del (L i) k)) (eX f i (nth (L i) k)):=by
 have hc:=Rs h hi (Cv.nJ hk);have hF:eX f i (nth (L i) k)=Pu.add f (hx i (nth (L i) k)) (-(mu (nth (L i) k))):=by unfold eX;rw[if_pos hc]
 have hs:=JR f i (nth (L i) k) 6;refine⟨fun m hm=>?_,Rt h.good _ _,?_,by rw[hs.1];exact h.cash,fun m hm=>by rw[hs.2 m hm];exact h.stock m hm⟩
 ·by_cases e:m=i
  ·subst e;rw[upd_same];exact abo (h.aG _ hi) hk
  ·rw[upd_ne _ _ e];exact h.aG m hm
 ·rw[hF];exact adw h.held hi hk
theorem Ru {L:Nat->List ag} {f:Nat->Int} (h:d7 L f) {a:Ask} (hk:fP a 99=0) (hm:mine L a=true):dx L f a=0∧pos (L a.it.toNat) a.id<(L a.it.toNat).length∧a.it.toNat<3:=by
 have hit:=D4 hk;have hi:a.it.toNat<3:=by omega
 have he:((a.it.toNat:Nat):Int)=a.it:=by omega
 have hh:has (L a.it.toNat) a.id=true:=by
  unfold mine at hm;simp only[Bool.and_eq_true]at hm;exact hm.1
 have hp:=rA.1 hh
 have:=Rs h hi (Cv.nJ hp)
 rw[he]at this;refine⟨?_,hp,hi⟩;unfold dx fD;rw[if_pos hk,if_pos hm,if_pos ⟨hk,hm⟩];exact this
theorem _root_.Go.Proofs.YtjolccidheflpaaGreatDoor.Fs.d7.cancel {L:Nat->List ag} {f:Nat->Int} (h:d7 L f) (a:Ask):d7 (eu L a) (jG L f a):=by
 unfold eu jG;by_cases hc:fP a 99=0∧mine L a=true
 ·rw[if_pos hc,if_pos hc]
  obtain⟨_,hp,hi⟩:=Ru h hc.1 hc.2;have he:((a.it.toNat:Nat):Int)=a.it:=by have:=D4 hc.1;omega
  have:=h.gone hi hp
  rw[he]at this;have hx':fD L a=nth (L a.it.toNat) (pos (L a.it.toNat) a.id):=by unfold fD;rw[if_pos hc]
  rw[hx'];exact this
 ·rw[if_neg hc,if_neg hc];exact h
end Fl
namespace Fl
open Cv Bk Ra Pu Fu Fs
def fh (c:Int) (l:List ag) (k:Nat):List ag:=(l.take k).filter (fun x=>!(x.ak==c))++l.drop k
def j9 (c:Int) (l:List ag) (k:Nat):List ag:=(l.take k).filter (fun x=>x.ak==c)
def D5 (i:Nat) (f:Nat->Int) (xs:List ag):Nat->Int:=xs.foldl (fun f x=>eX f i x) f
theorem tv {l:List ag} {k:Nat} (h:k<l.length):l.take (k+1)=l.take k++[nth l k]:=by
 rw[List.take_succ_eq_append_getElem h,vB h]
theorem drop_cons {l:List ag} {k:Nat} (h:k<l.length):l.drop k=nth l k::l.drop (k+1):=by
 rw[vB h];exact(List.getElem_cons_drop h).symm
theorem adx (c:Int) (l:List ag):fh c l 0=l:=by simp[fh]
theorem ady (c:Int) {l:List ag} {k:Nat} (h:l.length<=k):fh c l k=l.filter (fun x=>!(x.ak==c)):=by
 unfold fh;rw[List.take_of_length_le h,List.drop_of_length_le h,aNq]
theorem adz (c:Int) {l:List ag} {k:Nat} (h:l.length<=k):j9 c l k=l.filter (fun x=>x.ak==c):=by
 unfold j9;rw[List.take_of_length_le h]
theorem keep_other {c:Int} {l:List ag} {k:Nat} (h:k<l.length) (hc:(nth l k).ak≠c):fh c l (k+1)=fh c l k∧j9 c l (k+1)=j9 c l k:=by
 have hb:((nth l k).ak==c)=false:=by simpa using hc
 constructor
 ·unfold fh
  rw[tv h,List.filter_append,drop_cons h,List.filter_cons,hb];simp
 ·unfold j9
  rw[tv h,List.filter_append,List.filter_cons,hb];simp
theorem Rv {c:Int} {l:List ag} (ho:eI l) {k:Nat} (h:k<l.length) (hc:(nth l k).ak=c) :
  Bk.eu (fh c l k) (nth l k).id=fh c l (k+1)∧j9 c l (k+1)=j9 c l k++[nth l k]∧nth (fh c l k) (pos (fh c l k) (nth l k).id)=nth l k∧pos (fh c l k) (nth l k).id<(fh c l k).length:=by
 have hb:((nth l k).ak==c)=true:=by simpa using hc
 obtain⟨ha,_⟩:=Rw ho h;have hno:has ((l.take k).filter (fun x=>!(x.ak==c))) (nth l k).id=false:=by
  cases hh:has ((l.take k).filter (fun x=>!(x.ak==c))) (nth l k).id with
  | false=>rfl
  | true =>
   unfold has at hh;rw[List.any_eq_true]at hh;obtain⟨x,hx,he⟩:=hh;exact absurd (by simpa using he) (ha x (List.mem_filter.1 hx).1)
 have hk:fh c l k=(l.take k).filter (fun x=>!(x.ak==c))++nth l k::l.drop (k+1):=by unfold fh;rw[drop_cons h]
 have hk1:fh c l (k+1)=(l.take k).filter (fun x=>!(x.ak==c))++l.drop (k+1):=by
  unfold fh;rw[tv h,List.filter_append,List.filter_cons,hb];simp
 have hout:j9 c l (k+1)=j9 c l k++[nth l k]:=by
  unfold j9;rw[tv h,List.filter_append,List.filter_cons,hb];simp
 rw[hk,hk1];generalize (l.take k).filter (fun x=>!(x.ak==c))=A at *;generalize l.drop (k+1)=B at *;generalize nth l k=x at *;have hp:pos (A++x::B) x.id=A.length:=by
  unfold pos;have h0:A.findIdx (fun y=>y.id==x.id)=A.length:=Qj.1 hno;rw[List.findIdx_append,h0,if_neg (by omega)];simp[List.findIdx_cons]
 have hh:has (A++x::B) x.id=true:=by unfold has;simp
 have hc0:Bk.dx (A++x::B) x.id=0:=by unfold Bk.dx;rw[if_pos hh]
 refine⟨?_,hout,?_,by rw[hp];simp⟩
 ·unfold Bk.eu del
  rw[if_pos hc0,hp];simp
 ·rw[hp];unfold nth;simp
theorem drop_one {L:Nat->List ag} {f:Nat->Int} {i:Nat} (hi:i<3) {l:List ag} {c:Int} {k:Nat} (H:d7 (upd L i (fh c l k)) f) (ho:eI l) (hk:k<l.length) (hc:(nth l k).ak=c):d7 (upd L i (fh c l (k+1))) (eX f i (nth l k)):=by
 obtain⟨h1,_,h3,h4⟩:=Rv ho hk hc;have hh:has (fh c l k) (nth l k).id=true:=rA.2 h4;have hc0:Bk.dx (fh c l k) (nth l k).id=0:=by unfold Bk.dx;rw[if_pos hh]
 have e:Bk.eu (fh c l k) (nth l k).id=del (fh c l k) (pos (fh c l k) (nth l k).id):=by unfold Bk.eu;rw[if_pos hc0]
 have:=H.gone hi (k:=pos (fh c l k) (nth l k).id) (by rw[upd_same];exact h4)
 rw[upd_same,h3,vK,<- e,h1]at this;exact this
def lf (c:Int) (L:Nat->List ag):Nat->Nat->List ag
 | 0=>L
 | i+1=>upd (lf c L i) i ((L i).filter (fun x=>!(x.ak==c)))
def qg (c:Int) (L:Nat->List ag) (f:Nat->Int):Nat->Nat->Int
 | 0=>f
 | i+1=>D5 i (qg c L f i) ((L i).filter (fun x=>x.ak==c))
def mG (c:Int) (L:Nat->List ag):Nat->List ag
 | 0=>[]
 | i+1=>mG c L i++(L i).filter (fun x=>x.ak==c)
theorem Rx (c:Int) (L:Nat->List ag):∀ i j,i<=j->lf c L i j=L j
 | 0,_,_=>rfl
 | i+1,j,h=>by
  show upd (lf c L i) i _ j=L j;rw[upd_ne _ _ (by omega),Rx c L i j (by omega)]
theorem D6 (c:Int) (L:Nat->List ag) (h:∀ i,i<3->(L i).length<=60):∀ i,i<=3->(mG c L i).length<=60*i
 | 0,_=>lRq _
 | i+1,hi=>by
  have ih:=D6 c L h i (by omega);have h1:=h i (by omega);have h2:=List.length_filter_le (fun x:ag=>x.ak==c) (L i);show (mG c L i++_).length<=_;rw[lAq];omega
end Fl
namespace Fl
open Cv Bk Ra Pu Fu Fs
end Fl
end Go.Proofs.YtjolccidheflpaaGreatDoor
