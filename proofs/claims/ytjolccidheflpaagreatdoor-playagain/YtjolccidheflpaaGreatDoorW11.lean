/- A request, in numbers and as a value. -/
import Derived.Test.YtjolccidheflpaaGreatDoorProg
import GoSem.PinnedTables
import GoSem.Claim
import GoSem.ClaimJoined
import GoSem.ClaimMapViews
import Derived.JoinedTies
import Derived.KernelRfl
import Derived.Test.YtjolccidheflpaaGreatDoorW00
import Derived.WalkKit
namespace Go.Proofs.YtjolccidheflpaaGreatDoor
set_option maxHeartbeats 8000000
set_option maxRecDepth 100000
section
open Go.RowKit
structure Ask where
 k:Int
 c:Int
 sq:Int
 it:Int
 sd:Int
 pr:Int
 q:Int
 id:Int
deriving DecidableEq
def aT (a:Ask):Array Value:=#[.int .u8 a.k,Qa a.c,Qa a.sq,Qa a.it,Qa a.sd,Qa a.pr,Qa a.q,Qa a.id]
def bu (a:Ask):Value:=.agg (aT a)
end
def Ui:Ask:=⟨0,0,0,0,0,0,0,0⟩
def cY (l:List Ask) (i:Nat):Ask:=l.getD i Ui
theorem Ms {l:List Ask} {i:Nat} (h:i<l.length):l[i]?=some (cY l i):=by
 unfold cY;rw[gE,List.getElem?_eq_getElem h];rfl
namespace ay
def upd {α:Type} (L:Nat->α) (i:Nat) (x:α):Nat->α:=fun j=>if j=i then x else L j
theorem upd_same {α:Type} (L:Nat->α) (i:Nat) (x:α):upd L i x i=x:=by simp[upd]
theorem p8 {α:Type} (L:Nat->α) {i j:Nat} (x:α) (h:j≠i):upd L i x j=L j:=by simp[upd,h]
theorem qI {α:Type} (L:Nat->α) (i:Nat):upd L i (L i)=L:=by
 funext j;unfold upd;split <;> simp_all
def mE (c:Int):Bool:=decide (0<=c)&&decide (c<=5)
theorem Mq {c:Int} (h:mE c=true):∃ n:Nat,n<6/\c=(n:Int):=by
 simp[mE]at h;exact⟨c.toNat,by omega,by omega⟩
def wZ (a:Ask):Bool:=a.k==111 || a.k==99
def jh (L:Nat->List Ask) (a:Ask):Nat:=if wZ a=true then (if mE a.c=true then (if 6<=(L a.c.toNat).length then 8 else 0) else 2) else 4
def ji (L:Nat->List Ask) (a:Ask):Nat->List Ask:=if jh L a=0 then upd L a.c.toNat (L a.c.toNat++[a]) else L
def sD (L:Nat->List Ask) (c:Int):Nat:=if mE c=true then (L c.toNat).length else 0
def nH (L:Nat->List Ask) (c:Int):Nat->List Ask:=if mE c=true then upd L c.toNat [] else L
def who (t k:Nat):Nat:=(t+k)%6
theorem wW (t k:Nat):who t k<6:=Nat.mod_lt _ (by decide)
def lf (L:Nat->List Ask) (t:Nat):Nat->Nat->List Ask
 | 0=>L
 | k+1=>upd (lf L t k) (who t k) ((lf L t k (who t k)).drop 2)
def k_ (L:Nat->List Ask) (t:Nat):Nat->List Ask
 | 0=>[]
 | k+1=>k_ L t k++(lf L t k (who t k)).take 2
def BN (L:Nat->List Ask) (t:Nat):Nat->List Ask:=lf L t 6
def out (L:Nat->List Ask) (t:Nat):List Ask:=k_ L t 6
theorem Mt (L:Nat->List Ask) {t:Nat} (ht:t<6):∀ (k:Nat),k<=6->∀ c,lf L t k c=if c<6/\(c+6-t)%6<k then (L c).drop 2 else L c
 | 0,_,c=>by simp[lf]
 | k+1,hk,c=>by
  have ih:=Mt L ht k (by omega);unfold lf;by_cases h:c=who t k
  .rw[h,upd_same,ih,if_neg,if_pos]
   .refine⟨wW t k,?_⟩
    unfold who;omega
   .rintro⟨_,h2⟩
    unfold who at h2;omega
  .rw[p8 _ _ h,ih]
   by_cases h6:c<6
   .have:(c+6-t)%6≠k:=by
     intro e;apply h;unfold who;omega
    by_cases h2:(c+6-t)%6<k
    .rw[if_pos ⟨h6,h2⟩,if_pos ⟨h6,by omega⟩]
    .rw[if_neg (fun h=>h2 h.2),if_neg (fun h=>by have:=h.2;omega)]
   .rw[if_neg (fun h=>h6 h.1),if_neg (fun h=>h6 h.1)]
theorem afL (L:Nat->List Ask) {t:Nat} (ht:t<6) {k:Nat} (hk:k<6):lf L t k (who t k)=L (who t k):=by
 rw[Mt L ht k (by omega),if_neg];rintro⟨_,h⟩;unfold who at h;omega
theorem afM (L:Nat->List Ask) {t:Nat} (ht:t<6) {k:Nat} (hk:k<6):k_ L t (k+1)=k_ L t k++(L (who t k)).take 2:=by
 rw[<- afL L ht hk];rfl
theorem wX (L:Nat->List Ask) (t:Nat):∀ k,(k_ L t k).length<=2*k
 | 0=>by simp[k_]
 | k+1=>by
  have:=wX L t k
  simp only[k_,List.length_append,List.length_take];omega
end ay
def upd {α:Type} (f:Nat->α) (i:Nat) (x:α) (j:Nat):α:=if j=i then x else f j
theorem upd_same {α:Type} (f:Nat->α) (i:Nat) (x:α):upd f i x i=x:=by simp[upd]
theorem upd_ne {α:Type} (f:Nat->α) {i j:Nat} (x:α) (h:j≠i):upd f i x j=f j:=by simp[upd,h]
namespace Fu
open Cv Bk Pu
def aW (g:ag->Int):List ag->Int
 | []=>0
 | x::l=>g x+aW g l
theorem BJ (g:ag->Int):∀ a b:List ag,aW g (a++b)=aW g a+aW g b
 | [],b=>by simp[aW]
 | x::a,b=>by rw[List.cons_append,aW,aW,BJ g a b];omega
theorem aft (g:ag->Int) {l:List ag} {k:Nat} (hk:k<l.length):aW g (del l k)=aW g l-g (nth l k):=by
 have e:aW g l=aW g (l.take k++nth l k::l.drop (k+1)):=congrArg _ (zW hk);rw[e];unfold del;rw[BJ,BJ,aW];omega
theorem wP {g:ag->Int}:∀ {l:List ag},(∀ x∈l,0<=g x)->0<=aW g l/\∀ x∈l,g x<=aW g l
 | [],_=>⟨by simp[aW],fun x hx=>by cases hx⟩
 | y::l,h=>by
  obtain⟨h1,h2⟩:=wP (l:=l) (fun x hx=>h x (mOq _ hx));have hy:=h y (mSq ..);rw[aW];refine⟨by omega,fun x hx=>?_⟩;rcases List.mem_cons.1 hx with rfl | hx
  .omega
  .have:=h2 x hx;omega
def gN (i j:Nat) (x:ag):Int:=dl (hx i x) (mu x) j
def asked (L:Nat->List ag) (j:Nat):Int:=aW (gN 0 j) (L 0)+aW (gN 1 j) (L 1)+aW (gN 2 j) (L 2)
theorem Mi (L:Nat->List ag) {i:Nat} (hi:i<3) (l:List ag) (j:Nat):asked (upd L i l) j=asked L j-aW (gN i j) (L i)+aW (gN i j) l:=by
 have:i=0\/i=1\/i=2:=by omega
 unfold asked;rcases this with rfl | rfl | rfl
 .rw[upd_same,upd_ne L l (show 1≠0 by decide),upd_ne L l (show 2≠0 by decide)];omega
 .rw[upd_same,upd_ne L l (show 0≠1 by decide),upd_ne L l (show 2≠1 by decide)];omega
 .rw[upd_same,upd_ne L l (show 0≠2 by decide),upd_ne L l (show 1≠2 by decide)];omega
def yn (j:Nat):Prop:=∃ c,c<6/\(j=c*8+1\/∃ k,k<3/\j=c*8+5+k)
def wU (L:Nat->List ag) (f:Nat->Int):Prop:=∀ j,yn j->f j=asked L j
theorem adu (f:Nat->Int) (h:∀ j,yn j->f j=0):wU (fun _=>[]) f:=fun j hj=>by rw[h j hj];rfl
theorem adp {L:Nat->List ag} {f:Nat->Int} (h:wU L f) {i:Nat} (hi:i<3) (x:ag):wU (upd L i (L i++[x])) (Pu.add f (hx i x) (mu x)):=fun j hj=>by
 rw[BK,h j hj,Mi L hi,BJ,aW,aW];unfold gN;omega
theorem adr {L:Nat->List ag} {f:Nat->Int} (h:wU L f) {i:Nat} (hi:i<3) {k:Nat} (hk:k<(L i).length):wU (upd L i (del (L i) k)) (Pu.add f (hx i (nth (L i) k)) (-(mu (nth (L i) k)))):=fun j hj=>by
 rw[BK,h j hj,Mi L hi,aft _ hk];unfold gN;have:dl (hx i (nth (L i) k)) (-(mu (nth (L i) k))) j = -(dl (hx i (nth (L i) k)) (mu (nth (L i) k)) j):=by unfold dl;split <;> omega
 rw[this];omega
theorem afu {i:Nat} {x:ag} (h:well i x=true):yn (hx i x):=by
 rcases places h with ⟨c,h1,h2,_⟩ | ⟨c,k,h1,h4,h2,_⟩
 .exact⟨c,h1,.inl h2⟩
 .exact⟨c,h1,.inr ⟨k,h4,h2⟩⟩
theorem JN {i:Nat} (hi:i<3) {x:ag} (h:ok x=true):well i x=true:=by
 unfold well;rw[h];simp[ah.aG];omega
theorem adq {L:Nat->List ag} {f:Nat->Int} (h:wU L f) (hok:∀ j,j<3->d9 (L j)) {i:Nat} (hi:i<3) {x:ag} (hx':x∈L i):mu x<=f (hx i x):=by
 have hw:=JN hi (hok i hi x hx');rw[h _ (afu hw)];have nn:∀ k,k<3->∀ y∈L k,0<=gN k (hx i x) y:=fun k hk y hy=>by
  have:=uF (hok k hk y hy)
  unfold gN dl;split <;> omega
 have h0:=(wP (nn 0 (by decide))).1;have h1:=(wP (nn 1 (by decide))).1;have h2:=(wP (nn 2 (by decide))).1;have hm:gN i (hx i x) x=mu x:=by unfold gN;exact oO
 have hx2:=(wP (nn i hi)).2 x hx';rw[hm]at hx2;have:i=0\/i=1\/i=2:=by omega
 unfold asked;rcases this with rfl | rfl | rfl <;> omega
def per (x:ag):Int:=if x.sd=0 then x.pr else 1
theorem afc (x:ag):mu x=per x*x.q:=by unfold mu per;split <;> omega
end Fu
namespace Fs
open Cv Bk Ra Pu Fu
def gX (i:Nat) (price:Int) (j:Nat) (x:ag) (q:Int):Int :=
 if x.sd=0 then dl (x.ak.toNat*8) (-(price*q)) j+dl (x.ak.toNat*8+1) (-(x.pr*q)) j+dl (x.ak.toNat*8+2+i) q j
 else dl (x.ak.toNat*8) (price*q) j+dl (x.ak.toNat*8+2+i) (-q) j+dl (x.ak.toNat*8+5+i) (-q) j
theorem ae9 (i:Nat) (price:Int) (j:Nat) (x:ag) (a b:Int):gX i price j x (a+b)=gX i price j x a+gX i price j x b:=by
 unfold gX;rw[show -(price*(a+b)) = -(price*a) + -(price*b) by rw[Int.mul_add];omega,show -(x.pr*(a+b)) = -(x.pr*a) + -(x.pr*b) by rw[Int.mul_add];omega,show -(a+b) = -a + -b by omega,show price*(a+b)=price*a+price*b from Int.mul_add ..];simp only[TS];split <;> omega
theorem afa (i:Nat) (price:Int) (j:Nat) (x:ag):gX i price j x 0=0:=by
 unfold gX;simp[dl]
theorem afb (f:Nat->Int) (i:Nat) (price:Int) {x y:ag} (hx:x.sd=0) (hy:y.sd≠0) (q:Int) (j:Nat):six f x.ak.toNat y.ak.toNat i x.pr price q j=f j+gX i price j x q+gX i price j y q:=by
 rw[BG];unfold gX;rw[if_pos hx,if_neg hy];omega
structure oN (φ:ag->Int->Int):Prop where
 add:∀ x a b,φ x (a+b)=φ x a+φ x b
 self:∀ x (q r:Int),φ ⟨x.id,x.ak,x.sd,x.pr,q⟩ r=φ x r
theorem oN.zero {φ:ag->Int->Int} (h:oN φ) (x:ag):φ x 0=0:=by have:=h.add x 0 0;simp at this;omega
theorem Mf (i:Nat) (price:Int) (j:Nat):oN (gX i price j):=⟨ae9 i price j,fun _ _ _=>rfl⟩
def lO (i j:Nat) (x:ag) (q:Int):Int:=dl (hx i x) (per x*q) j
theorem Gf (i j:Nat):oN (lO i j):=⟨fun x a b=>by unfold lO;rw[Int.mul_add,TS],fun _ _ _=>rfl⟩
theorem TT (i j:Nat) (x:ag):gN i j x=lO i j x x.q:=by unfold gN lO;rw[afc]
theorem Gg:oN (fun _ q=>q):=⟨fun _ _ _=>rfl,fun _ _ _=>rfl⟩
def own (φ:ag->Int->Int) (x:ag):Int:=φ x x.q
theorem afd {φ:ag->Int->Int} (h:oN φ) (sd:Int):oN (fun x q=>if x.sd=sd then φ x q else 0) :=
 ⟨fun x a b=>by show (if x.sd=sd then _ else _)=_;split <;> simp[h.add, *],fun x q r=>by show (if x.sd=sd then φ ⟨x.id,x.ak,x.sd,x.pr,q⟩ r else 0)=if x.sd=sd then φ x r else 0;rw[h.self]⟩
theorem Gh {g h:ag->Int}:∀ {l:List ag},(∀ x∈l,g x=h x)->aW g l=aW h l
 | [],_=>rfl
 | x::l,H=>by rw[aW,aW,H x (mSq ..),Gh fun y hy=>H y (mOq _ hy)]
theorem Mg (g h:ag->Int):∀ l:List ag,aW (fun x=>g x+h x) l=aW g l+aW h l
 | []=>rfl
 | x::l=>by rw[aW,aW,aW,Mg g h l];omega
theorem TU {g h:ag->Int}:∀ {l:List ag},(∀ x∈l,g x<=h x)->aW g l<=aW h l
 | [],_=>Int.le_refl _
 | x::l,H=>by
  have:=H x (mSq ..)
  have:=TU fun y hy=>H y (mOq x hy)
  rw[aW,aW];omega
theorem A1 {g:ag->Int}:∀ {l:List ag},(∀ x∈l,g x=0)->aW g l=0
 | [],_=>rfl
 | x::l,H=>by rw[aW,H x (mSq ..),A1 fun y hy=>H y (mOq _ hy)];rfl
theorem afe {φ:ag->Int->Int} (kH:oN φ) (c:Int->Int) (q:Int) {l:List ag} (ho:eP l) {x:ag} (hx:x∈l):aW (fun y=>φ y (more c x.id q y.id)) l=aW (fun y=>φ y (c y.id)) l+φ x q:=by
 induction l with
 | nil=>cases hx
 | cons y l ih =>
  have hno:y.id ∉ l.map (·.id)/\eP l:=by unfold eP at ho ⊢;rw[List.map_cons,List.nodup_cons]at ho;exact ho
  rw[aW,aW];rcases List.mem_cons.1 hx with rfl | hx'
  .have e:aW (fun y=>φ y (more c x.id q y.id)) l=aW (fun y=>φ y (c y.id)) l:=Gh fun z hz=>by
    have:z.id≠x.id:=fun e=>hno.1 (by rw[<- e];exact List.mem_map_of_mem hz);unfold more;rw[if_neg this]
   have e2:more c x.id q x.id=c x.id+q:=by unfold more;rw[if_pos rfl]
   rw[e,e2,kH.add];omega
  .have:y.id≠x.id:=fun e=>hno.1 (by rw[e];exact List.mem_map_of_mem hx')
   have e2:more c x.id q y.id=c y.id:=by unfold more;rw[if_neg this]
   rw[ih hno.2 hx',e2];omega
theorem aff (f:Int×Int) (F:List (Int×Int)):(fun id=>got id (f::F))=more (fun id=>got id F) f.1 f.2:=by
 funext id;show (if f.1=id then f.2 else 0)+got id F=_;simp only[more];by_cases h:f.1=id
 .rw[if_pos h,if_pos h.symm];omega
 .rw[if_neg h,if_neg (fun e=>h e.symm)];omega
theorem Lx (F:List (Int×Int)) {k:Nat} (hk:k<F.length):(fun id=>got id (F.take (k+1)))=more (fun id=>got id (F.take k)) (F[k]).1 (F[k]).2:=by
 funext id;rw[List.take_succ_eq_append_getElem hk,BH];show got id (F.take k)+((if F[k].1=id then F[k].2 else 0)+0)=_;simp only[more];by_cases h:F[k].1=id
 .rw[if_pos h,if_pos h.symm];omega
 .rw[if_neg h,if_neg (fun e=>h e.symm)];omega
theorem FT (id:Int):∀ F:List (Int×Int),(∀ f∈F,1<=f.2)->0<=got id F
 | [],_=>Int.le_refl _
 | f::F,h=>by
  have:=FT id F fun g hg=>h g (mOq _ hg)
  have:=h f (mSq ..)
  show 0<=(if f.1=id then f.2 else 0)+got id F;split <;> omega
theorem Te (id:Int) (F:List (Int×Int)) (h:∀ f∈F,1<=f.2) (k:Nat):got id (F.take k)<=got id F:=by
 have e:got id F=got id (F.take k++F.drop k):=by rw[List.take_append_drop]
 rw[e,BH]
 have:=FT id (F.drop k) fun f hf=>h f (List.mem_of_mem_drop hf)
 omega
theorem afg {F:List (Int×Int)} (h:∀ f∈F,1<=f.2) {f:Int×Int} (hf:f∈F):f.2<=got f.1 F:=by
 obtain⟨k,hk,rfl⟩:=List.mem_iff_getElem.1 hf;have h1:=Te (F[k]).1 F h (k+1);have h2:=congrFun (Lx F hk) (F[k]).1;simp only[more,if_true]at h2;have h3:=FT (F[k]).1 (F.take k) fun g hg=>h g (List.mem_of_mem_take hg);omega
def oD (l:List ag) (sd:Int) (f:Int×Int):List ag:=if has l f.1=true/\(nth l (pos l f.1)).sd=sd then [Pu.only (nth l (pos l f.1)) f.2] else []
def filled (l:List ag) (sd:Int):List (Int×Int)->List ag
 | []=>[]
 | f::F=>oD l sd f++filled l sd F
theorem R4 (l:List ag) (sd:Int):∀ F G,filled l sd (F++G)=filled l sd F++filled l sd G
 | [],G=>rfl
 | f::F,G=>by rw[List.cons_append,filled,filled,R4 l sd F G,aAq]
theorem mY {l:List ag} {k:Nat} (h:k<l.length):nth l k∈l:=by rw[vQ h];exact List.getElem_mem h
theorem afh {l:List ag} {x:ag} (h:x∈l):has l x.id=true:=by
 unfold has;rw[List.any_eq_true];exact⟨x,h,by simp⟩
theorem TV {l:List ag} {sd:Int} {y:ag}:∀ {F:List (Int×Int)},y∈filled l sd F->∃ f∈F,∃ x∈l,x.id=f.1/\x.sd=sd/\y=Pu.only x f.2
 | [],h=>by cases h
 | f::F,h=>by
  rw[filled,List.mem_append]at h;rcases h with h | h
  .unfold oD at h
   split at h
   .rename_i hh
    have hk:=px.1 hh.1;exact⟨f,mSq ..,nth l (pos l f.1),mY hk,vR hk,hh.2,List.mem_singleton.1 h⟩
   .cases h
  .obtain⟨g,hg,r⟩:=TV h
   exact⟨g,mOq _ hg,r⟩
theorem BI {φ:ag->Int->Int} (kH:oN φ) {l:List ag} (ho:eP l) (sd:Int):∀ F:List (Int×Int),(∀ f∈F,∃ x∈l,x.id=f.1)->aW (own φ) (filled l sd F)=aW (fun x=>if x.sd=sd then φ x (got x.id F) else 0) l
 | [],_=>by
  rw[filled,aW];exact(A1 fun x _=>by show (if x.sd=sd then φ x 0 else 0)=0;rw[kH.zero];simp).symm
 | f::F,h=>by
  have ih:=BI kH ho sd F fun g hg=>h g (mOq _ hg);obtain⟨x,hx,he⟩:=h f (mSq ..);have hh:=afh hx;rw[he]at hh;have hk:=px.1 hh;have hid:=vR hk;have hm:=mY hk;have hs:=afe (afd kH sd) (fun id=>got id F) f.2 ho hm;rw[hid,<- aff]at hs;rw[filled,BJ,ih];have e:aW (own φ) (oD l sd f)=if (nth l (pos l f.1)).sd=sd then φ (nth l (pos l f.1)) f.2 else 0:=by
   unfold oD;by_cases h2:(nth l (pos l f.1)).sd=sd
   .rw[if_pos ⟨hh,h2⟩,if_pos h2,aW,aW]
    show φ (Pu.only _ _) f.2+0=_;unfold Pu.only;rw[kH.self];omega
   .rw[if_neg (fun h3=>h2 h3.2),if_neg h2];rfl
  rw[e];have:(fun y:ag=>if y.sd=sd then φ y (got y.id (f::F)) else 0)=fun y=>if y.sd=sd then φ y ((fun id=>got id (f::F)) y.id) else 0:=rfl;rw[this,hs];omega
def gz:List ag->Int->List ag
 | [],_=>[]
 | x::l,q=>if x.q-q=0 then l else less x q::l
theorem wh (x:ag) (l:List ag) (q:Int):gz (x::l) q=if x.q-q=0 then l else less x q::l:=rfl
structure ou (i:Nat) (price:Int) (G:Nat->Int) (f:Nat->Int) (bs ss:List ag):Prop where
 sum:∀ j,f j+aW (own (gX i price j)) bs+aW (own (gX i price j)) ss=G j
 bB:bB bs=bB ss
 bN:∀ x∈bs,well i x=true/\x.sd=0/\price<=x.pr
 ws:∀ x∈ss,well i x=true/\x.sd=1/\x.pr<=price
 good:Pu.Good f
 held:∀ j,yn j->aW (gN i j) bs+aW (gN i j) ss<=f j
 cash:ew f 6<=1099511627776
 stock:∀ k,k<3->ez f k 6<=1073741824
theorem TW {l:List ag} (h:∀ x∈l,1<=x.q):0<=Ra.bB l/\(Ra.bB l=0->l=[]):=by
 cases l with
 | nil=>exact⟨Int.le_refl _,fun _=>rfl⟩
 | cons x l =>
  have h1:=h x (mSq ..);have h2:=Ra.uD l fun y hy=>h y (mOq _ hy);have:Ra.bB (x::l)=x.q+Ra.bB l:=rfl;exact⟨by omega,fun e=>by omega⟩
theorem Gi {i:Nat} {x:ag} (h:well i x=true):1<=x.q:=(Cv.gw (kG h)).2.2.2.2.1
theorem ou.done {i:Nat} {price:Int} {G f:Nat->Int} {bs ss:List ag} (h:ou i price G f bs ss) (he:bs=[]\/ss=[]):∀ j,f j=G j:=by
 have h1:=TW fun x hx=>Gi (h.bN x hx).1;have h2:=TW fun x hx=>Gi (h.ws x hx).1;have ht:=h.bB;have e0:Ra.bB []=0:=rfl;have:bs=[]/\ss=[]:=by
  rcases he with e | e
  .subst e;exact⟨rfl,h2.2 (by omega)⟩
  .subst e;exact⟨h1.2 (by omega),rfl⟩
 intro j
 have:=h.sum j
 rw[‹bs=[]/\ss=[]›.1,‹bs=[]/\ss=[]›.2,aW]at this;omega
theorem yO {φ:ag->Int->Int} (kH:oN φ) (x:ag) (l:List ag) (q:Int):aW (own φ) (gz (x::l) q)=aW (own φ) (x::l)-φ x q:=by
 have h:φ x x.q=φ x (x.q-q)+φ x q:=by rw[<- kH.add];congr 1;omega
 rw[wh];split
 .rename_i e
  have h':φ x (x.q-q)=0:=by rw[e];exact kH.zero x
  show aW (own φ) l=own φ x+aW (own φ) l-φ x q;unfold own at *;omega
 .show own φ (less x q)+aW (own φ) l=own φ x+aW (own φ) l-φ x q
  have:own φ (less x q)=φ x (x.q-q):=kH.self x _ _;rw[this];unfold own at *;omega
theorem TX {x y:ag} {l:List ag} {q:Int} (h:y∈gz (x::l) q):y∈l\/(x.q-q≠0/\y=less x q):=by
 rw[wh]at h;split at h
 .exact .inl h
 .rename_i e
  rcases List.mem_cons.1 h with h | h
  .exact .inr ⟨e,h⟩
  .exact .inl h
theorem TY {i:Nat} {x:ag} {q:Int} (h:well i x=true) (h1:1<=q) (h2:q<x.q):well i (less x q)=true:=by
 have h3:=Qr (kG h) h1 h2;simp only[well,Bool.and_eq_true]at h ⊢;exact⟨h.1,h3⟩
theorem Gj (l:List ag):Ra.bB l=aW (own fun _ q=>q) l:=by
 induction l with
 | nil=>rfl
 | cons x l ih=>show x.q+Ra.bB l=x.q+_;rw[ih]
theorem yP (i j:Nat) (l:List ag):aW (gN i j) l=aW (own (lO i j)) l:=Gh fun x _=>TT i j x
theorem afi {f:Nat->Int} (hg:Pu.Good f) {b s:Nat} (hb:b<6) (hs:s<6) (hne:b≠s):f (b*8)+f (s*8)<=ew f 6:=by
 have h0:=hg.cash 0 (by decide);have h1:=hg.cash 1 (by decide);have h2:=hg.cash 2 (by decide);have h3:=hg.cash 3 (by decide);have h4:=hg.cash 4 (by decide);have h5:=hg.cash 5 (by decide);simp only[ew];have:b=0\/b=1\/b=2\/b=3\/b=4\/b=5:=by omega
 have:s=0\/s=1\/s=2\/s=3\/s=4\/s=5:=by omega
 rcases ‹b=0\/_› with rfl | rfl | rfl | rfl | rfl | rfl <;> rcases ‹s=0\/_› with rfl | rfl | rfl | rfl | rfl | rfl <;> first | exact absurd rfl hne | (simp only[Nat.reduceMul,Nat.reduceAdd]at *;omega)
theorem afj {f:Nat->Int} (hg:Pu.Good f) {k b s:Nat} (hk:k<3) (hb:b<6) (hs:s<6) (hne:b≠s):f (b*8+2+k)+f (s*8+2+k)<=ez f k 6:=by
 have h0:=hg.stock 0 k (by decide) hk;have h1:=hg.stock 1 k (by decide) hk;have h2:=hg.stock 2 k (by decide) hk;have h3:=hg.stock 3 k (by decide) hk;have h4:=hg.stock 4 k (by decide) hk;have h5:=hg.stock 5 k (by decide) hk;simp only[ez];have:b=0\/b=1\/b=2\/b=3\/b=4\/b=5:=by omega
 have:s=0\/s=1\/s=2\/s=3\/s=4\/s=5:=by omega
 rcases ‹b=0\/_› with rfl | rfl | rfl | rfl | rfl | rfl <;> rcases ‹s=0\/_› with rfl | rfl | rfl | rfl | rfl | rfl <;> first | exact absurd rfl hne | (simp only[Nat.reduceMul,Nat.reduceAdd]at *;omega)
theorem ou.step {i:Nat} (hi:i<3) {price:Int} (hp:1<=price/\price<=1000) {G f:Nat->Int} {x y:ag} {bs ss:List ag} (h:ou i price G f (x::bs) (y::ss)) {q:Int} (hq:q=min x.q y.q) :
  ik f i x y price q=0/\ou i price G (jg f i x y price q) (gz (x::bs) q) (gz (y::ss) q):=by
 obtain⟨wx,uE,Gk⟩:=h.bN x (mSq ..);obtain⟨iC,T4,T5⟩:=h.ws y (mSq ..);have aoq:=Gi wx;have aor:=Gi iC;have q1:1<=q:=by omega
 have q2:q<=x.q:=by omega
 have q3:q<=y.q:=by omega
 have yQ:y.sd≠0:=by omega
 have bx:=Cv.gw (kG wx);have by':=Cv.gw (kG iC)
 have Gl:x.ak.toNat<6:=by omega
 have Gm:y.ak.toNat<6:=by omega
 have it:((i:Nat):Int).toNat=i:=Int.toNat_natCast i;have nn:∀ (l:List ag),(∀ z∈l,well i z=true)->∀ j,0<=aW (gN i j) l:=fun l hl j=>(wP fun z hz=>by
  have:=uF (kG (hl z hz))
  unfold gN dl;split <;> omega).1
 have ax:∀ j,gN i j x=dl (x.ak.toNat*8+1) (x.pr*x.q) j:=fun j=>by
  unfold gN hx mu;rw[if_pos uE,if_pos uE]
 have T6:∀ j,gN i j y=dl (y.ak.toNat*8+5+i) y.q j:=fun j=>by
  unfold gN hx mu;rw[if_neg yQ,if_neg yQ,it]
 have ar:=nn bs (fun z hz=>(h.bN z (mOq _ hz)).1);have T7:=nn ss (fun z hz=>(h.ws z (mOq _ hz)).1);have aos:0<=x.pr*x.q:=Int.mul_nonneg (by omega) (by omega);have hx1:x.pr*x.q<=f (x.ak.toNat*8+1):=by
  have:=h.held (x.ak.toNat*8+1) ⟨x.ak.toNat,Gl,.inl rfl⟩
  rw[aW,aW,ax,T6,oO,dD (by omega)]at this
  have:=ar (x.ak.toNat*8+1)
  have:=T7 (x.ak.toNat*8+1)
  omega
 have hy1:y.q<=f (y.ak.toNat*8+5+i):=by
  have:=h.held (y.ak.toNat*8+5+i) ⟨y.ak.toNat,Gm,.inr ⟨i,hi,rfl⟩⟩
  rw[aW,aW,ax,T6,oO,dD (by omega)]at this
  have:=ar (y.ak.toNat*8+5+i)
  have:=T7 (y.ak.toNat*8+5+i)
  omega
 have aot:x.pr*q<=x.pr*x.q:=Int.mul_le_mul_of_nonneg_left q2 (by omega);have hpq:price*q<=x.pr*q:=Int.mul_le_mul_of_nonneg_right Gk (by omega);have wG:lQ i x y price q=0:=by
  unfold lQ;rw[if_pos ⟨wx,iC⟩,if_pos ⟨uE,T4⟩,if_pos ⟨hp,q1,q2,q3⟩,if_pos ⟨T5,Gk⟩]
 have afk:nG f x.ak.toNat y.ak.toNat i x.pr q=false:=by
  simp only[nG,Bool.or_eq_false_iff,decide_eq_false_iff_not];exact⟨by omega,by omega⟩
 have hover:over f x.ak.toNat y.ak.toNat i price q=false:=by
  unfold over;by_cases e:x.ak.toNat=y.ak.toNat
  .simp[e]
  .have c1:=afi h.good Gl Gm e
   have c2:=afj h.good hi Gl Gm e;have c3:=h.cash;have c4:=h.stock i hi;have c5:=h.good.cash _ Gl;have c6:=h.good.stock _ i Gm hi;have d1:decide (1073741824<f (x.ak.toNat*8+2+i)+q)=false:=by simp;omega
   have d2:decide (1099511627776<f (y.ak.toNat*8)+price*q)=false:=by simp;omega
   rw[d1,d2];simp
 have hC:ik f i x y price q=0:=by
  unfold ik;rw[if_pos wG,it,if_neg (by rw[afk];decide),if_neg (by rw[hover];decide)]
 have hF:jg f i x y price q=six f x.ak.toNat y.ak.toNat i x.pr price q:=by
  unfold jg;rw[if_pos hC,it]
 have hg:=afl h.good i x y price q;have hs:=Ea f i x y price q;have e6:∀ j,jg f i x y price q j=f j+gX i price j x q+gX i price j y q:=fun j=>by rw[hF];exact afb f i price uE yQ q j
 refine⟨hC,?_,?_,?_,?_,hg,?_,by rw[hs.1];exact h.cash,fun k hk=>by rw[hs.2 k hk];exact h.stock k hk⟩
 .intro j
  rw[yO (Mf i price j),yO (Mf i price j),e6,<- h.sum j];omega
 .have:=h.bB
  rw[Gj,Gj]at this ⊢;rw[yO Gg,yO Gg];omega
 .intro z hz
  rcases TX hz with hz | ⟨hz,rfl⟩
  .exact h.bN z (mOq _ hz)
  .exact⟨TY wx q1 (by omega),uE,Gk⟩
 .intro z hz
  rcases TX hz with hz | ⟨hz,rfl⟩
  .exact h.ws z (mOq _ hz)
  .exact⟨TY iC q1 (by omega),T4,T5⟩
 .intro j hj
  have:=h.held j hj
  rw[yP,yP]at this ⊢;rw[yO (Gf i j),yO (Gf i j),e6];have ex:gX i price j x q = -(lO i j x q):=by
   unfold gX lO hx per;rw[if_pos uE,if_pos uE,if_pos uE];obtain⟨c,hc,lG⟩:=hj;rw[dD (i:=x.ak.toNat*8) (by rcases lG with e | ⟨k,hk,e⟩ <;> omega),dD (i:=x.ak.toNat*8+2+i) (by rcases lG with e | ⟨k,hk,e⟩ <;> omega)];unfold dl;split <;> omega
  have ey:gX i price j y q = -(lO i j y q):=by
   unfold gX lO hx per;rw[if_neg yQ,if_neg yQ,if_neg yQ,it,Int.one_mul];obtain⟨c,hc,lG⟩:=hj;rw[dD (i:=y.ak.toNat*8) (by rcases lG with e | ⟨k,hk,e⟩ <;> omega),dD (i:=y.ak.toNat*8+2+i) (by rcases lG with e | ⟨k,hk,e⟩ <;> omega)];unfold dl;split <;> omega
  omega
end Fs
namespace Fs
open Cv Bk Ra Pu Fu
structure wj (l:List ag) (price:Int) (F:List (Int×Int)):Prop where
 pos:∀ f∈F,1<=f.2/\∃ x∈l,x.id=f.1
 le:∀ x∈l,0<=got x.id F/\got x.id F<=x.q
 el:∀ x∈l,0<got x.id F->(x.sd=0->price<=x.pr)/\(x.sd=1->x.pr<=price)
 afn:aW (fun x=>if x.sd=0 then got x.id F else 0) l=aW (fun x=>if x.sd=1 then got x.id F else 0) l
def ig (F:List (Int×Int)) (l:List ag):List ag:=rem (fun id=>got id F) l
def ia (f:Nat->Int) (i:Nat) (price:Int) (l:List ag) (F:List (Int×Int)) (j:Nat):Int:=f j+aW (fun x=>gX i price j x (got x.id F)) l
structure dM (L:Nat->List ag) (f:Nat->Int):Prop where
 aH:∀ i,i<3->Bk.Good (L i)
 good:Pu.Good f
 held:wU L f
 cash:ew f 6<=1099511627776
 stock:∀ k,k<3->ez f k 6<=1073741824
theorem afo {i:Nat} (hi:i<3) {price:Int} {j:Nat} (hj:yn j) (x:ag) (q:Int):gX i price j x q = -(lO i j x q):=by
 obtain⟨c,hc,lG⟩:=hj;unfold gX lO hx per;rw[Int.toNat_natCast];split
 .rw[dD (i:=x.ak.toNat*8) (by rcases lG with e | ⟨k,hk,e⟩ <;> omega),dD (i:=x.ak.toNat*8+2+i) (by rcases lG with e | ⟨k,hk,e⟩ <;> omega)]
  unfold dl;split <;> omega
 .rw[dD (i:=x.ak.toNat*8) (by rcases lG with e | ⟨k,hk,e⟩ <;> omega),dD (i:=x.ak.toNat*8+2+i) (by rcases lG with e | ⟨k,hk,e⟩ <;> omega),Int.one_mul]
  unfold dl;split <;> omega
theorem Ua {φ:ag->Int->Int} (kH:oN φ) {c:Int->Int}:∀ {l:List ag},(∀ x∈l,c x.id<=x.q)->aW (own φ) (rem c l)=aW (own φ) l-aW (fun x=>φ x (c x.id)) l
 | [],_=>rfl
 | x::l,h=>by
  have ih:=Ua kH (c:=c) (l:=l) fun y hy=>h y (mOq _ hy);have hx:=h x (mSq ..);have e:φ x x.q=φ x (x.q-c x.id)+φ x (c x.id):=by rw[<- kH.add];congr 1;omega
  unfold rem at ih ⊢;rw[List.filterMap_cons];by_cases hc:c x.id<x.q
  .have:k5 c x=some (less x (c x.id)):=by unfold k5;rw[if_pos hc]
   rw[this];show own φ (less x (c x.id))+aW (own φ) (l.filterMap (k5 c))=own φ x+aW (own φ) l-(φ x (c x.id)+aW _ l);have e2:own φ (less x (c x.id))=φ x (x.q-c x.id):=kH.self x _ _;rw[e2,ih];unfold own;omega
  .have:k5 c x=none:=by unfold k5;rw[if_neg hc]
   rw[this];show aW (own φ) (l.filterMap (k5 c))=own φ x+aW (own φ) l-(φ x (c x.id)+aW _ l);have e3:c x.id=x.q:=by omega
   rw[ih];unfold own;rw[e3];omega
theorem Tf {l:List ag} (h:Bk.Good l) {c:Int->Int} (hc:∀ x∈l,0<=c x.id):Bk.Good (rem c l):=by
 refine⟨fun y hy=>?_,lTq (List.length_filterMap_le _ _) h.2,Ub h.3⟩;obtain⟨x,hx,hlt,rfl⟩:=Gn.1 hy;have h0:=hc x hx;by_cases e:c x.id=0
 .rw[e]
  have:less x 0=x:=by unfold less;simp
  rw[this];exact h.1 x hx
 .exact Qr (h.1 x hx) (by omega) hlt
theorem afp {l:List ag} (h:d9 l) {x:ag} (hx:x∈l):x.sd=0\/x.sd=1:=by
 have:=(gw (h x hx)).2.2.1;omega
theorem afq {φ:ag->Int->Int} {l:List ag} (h:d9 l) (F:List (Int×Int)) :
  aW (fun x=>if x.sd=0 then φ x (got x.id F) else 0) l+aW (fun x=>if x.sd=1 then φ x (got x.id F) else 0) l=aW (fun x=>φ x (got x.id F)) l:=by
 rw[<- Mg];exact Gh fun x hx=>by
  rcases afp h hx with e | e
  .rw[if_pos e,if_neg (by omega)];omega
  .rw[if_neg (by omega),if_pos e];omega
theorem Uc {l:List ag} (h:d9 l) {price:Int} {F:List (Int×Int)} (hF:wj l price F) {i:Nat} (hi:i<3) {sd:Int} {y:ag} (hy:y∈filled l sd F):well i y=true/\y.sd=sd/\(y.sd=0->price<=y.pr)/\(y.sd=1->y.pr<=price):=by
 obtain⟨f,hf,x,hx,hid,hsd,rfl⟩:=TV hy;have h1:=(hF.pos f hf).1;have h2:=afg (fun g hg=>(hF.pos g hg).1) hf;rw[<- hid]at h2;have h3:=(hF.le x hx).2;exact⟨Mh (JN hi (h x hx)) h1 (by omega),hsd,(hF.el x hx (by omega)).1,(hF.el x hx (by omega)).2⟩
theorem dM.start {L:Nat->List ag} {f:Nat->Int} (h:dM L f) {i:Nat} (hi:i<3) {price:Int} {F:List (Int×Int)} (hF:wj (L i) price F):ou i price (ia f i price (L i) F) f (filled (L i) 0 F) (filled (L i) 1 F):=by
 have hok:=(h.aH i hi).1;have uz:=(h.aH i hi).3;have hm:∀ g∈F,∃ x∈L i,x.id=g.1:=fun g hg=>(hF.pos g hg).2;have hs:∀ {φ:ag->Int->Int},oN φ->aW (own φ) (filled (L i) 0 F)+aW (own φ) (filled (L i) 1 F)=aW (fun x=>φ x (got x.id F)) (L i):=fun {φ} kH=>by
  rw[BI kH uz 0 F hm,BI kH uz 1 F hm,afq hok]
 refine⟨fun j=>?_,?_,fun x hx=>?_,fun x hx=>?_,h.good,fun j hj=>?_,h.cash,h.stock⟩
 .have:=hs (Mf i price j)
  unfold ia;omega
 .rw[Gj,Gj,BI Gg uz 0 F hm,BI Gg uz 1 F hm]
  exact hF.afn
 .obtain⟨a,b,c,_⟩:=Uc hok hF hi hx
  exact⟨a,b,c b⟩
 .obtain⟨a,b,_,c⟩:=Uc hok hF hi hx
  exact⟨a,b,c b⟩
 .rw[yP,yP,hs (Gf i j),h.held j hj]
  have h1:aW (fun x=>lO i j x (got x.id F)) (L i)<=aW (gN i j) (L i):=TU fun x hx=>by
   have hb:=hF.le x hx;have hp:=gw (hok x hx);rw[TT];unfold lO dl;split
   .exact Int.mul_le_mul_of_nonneg_left hb.2 (by unfold per;split <;> omega)
   .exact Int.le_refl _
  have nn:∀ k,k<3->0<=aW (gN k j) (L k):=fun k hk=>(wP fun y hy=>by
   have:=uF ((h.aH k hk).1 y hy)
   unfold gN dl;split <;> omega).1
  have n0:=nn 0 (by decide);have n1:=nn 1 (by decide);have n2:=nn 2 (by decide);have:i=0\/i=1\/i=2:=by omega
  unfold asked;rcases this with rfl | rfl | rfl <;> omega
theorem dM.settled {L:Nat->List ag} {f:Nat->Int} (h:dM L f) {i:Nat} (hi:i<3) {price:Int} {F:List (Int×Int)} (hF:wj (L i) price F)
  (hg:Pu.Good (ia f i price (L i) F)) (hc:ew (ia f i price (L i) F) 6=ew f 6) (hs:∀ k,k<3->ez (ia f i price (L i) F) k 6=ez f k 6):dM (upd L i (ig F (L i))) (ia f i price (L i) F):=by
 refine⟨fun k hk=>?_,hg,fun j hj=>?_,by rw[hc];exact h.cash,fun k hk=>by rw[hs k hk];exact h.stock k hk⟩
 .by_cases e:k=i
  .subst e;rw[upd_same];exact Tf (h.aH k hk) fun x hx=>(hF.le x hx).1
  .rw[upd_ne _ _ e];exact h.aH k hk
 .rw[Mi L hi,yP,yP]
  unfold ig ia;rw[Ua (Gf i j) (fun x hx=>(hF.le x hx).2),h.held j hj];have:aW (fun x=>gX i price j x (got x.id F)) (L i) = - aW (fun x=>lO i j x (got x.id F)) (L i):=by
   have e:aW (fun x=>gX i price j x (got x.id F)+lO i j x (got x.id F)) (L i)=0:=A1 fun x _=>by rw[afo hi hj];omega
   rw[Mg]at e;omega
  rw[this];omega
end Fs
theorem rZ {α:Type} (f:Nat->α) (i:Nat) (x y:α):upd (upd f i x) i y=upd f i y:=by
 funext j;unfold upd;split <;> rfl
theorem qI {α:Type} (f:Nat->α) (i:Nat):upd f i (f i)=f:=by
 funext j;unfold upd;split
 .rename_i h;rw[h]
 .rfl
namespace Bk
def JK (l:List Cv.ag) (ak:Int):List Int:=(l.filter fun x=>x.ak==ak).map (·.id)
end Bk
namespace Fl
def eZ (a:Ask):Cv.ag:=⟨a.id,a.c,a.sd,a.pr,a.q⟩
def fV (a:Ask) (k:Int):Int:=if ah.code a.k a.c a.sq a.it a.sd a.pr a.q a.id=0/\a.k≠k then 4 else ah.code a.k a.c a.sq a.it a.sd a.pr a.q a.id
def fA (L:Nat->List Cv.ag) (pf:Nat->Int) (a:Ask):Nat :=
 if fV a 111=0 then (if Cv.ok (eZ a)=true then (if Cv.has (L a.it.toNat) a.id=true then 6 else if 60<=(L a.it.toNat).length then 7 else Pu.jU pf a.it (eZ a)) else 1) else (fV a 111-1).toNat
def iB (L:Nat->List Cv.ag) (pf:Nat->Int) (a:Ask):Nat->List Cv.ag:=if fA L pf a=0 then upd L a.it.toNat (L a.it.toNat++[eZ a]) else L
def jV (L:Nat->List Cv.ag) (pf:Nat->Int) (a:Ask):Nat->Int:=if fA L pf a=0 then Pu.ky pf a.it (eZ a) else pf
theorem Rn {a:Ask} {k:Int} (h:fV a k=0):a.k=k/\ah.ku a.k a.c a.sq a.it a.sd a.pr a.q a.id=true/\ah.m_ a.k a.it a.sd a.pr a.q a.id=true:=by
 unfold fV at h;split at h
 .cases h
 .rename_i hn
  have hc:ah.code a.k a.c a.sq a.it a.sd a.pr a.q a.id=0:=by omega
  refine⟨Decidable.byContradiction fun e=>hn ⟨hc,e⟩,?_,?_⟩
  .unfold ah.code at hc
   split at hc
   .split at hc
    .assumption
    .cases hc
   .cases hc
  .unfold ah.code at hc
   split at hc
   .split at hc
    .split at hc
     .assumption
     .cases hc
    .cases hc
   .cases hc
theorem D9 {a:Ask} {k:Int} (h:fV a k≠0):2<=fV a k:=by
 unfold fV at *;split
 .decide
 .rename_i hn
  rw[if_neg hn]at h;have:ah.code a.k a.c a.sq a.it a.sd a.pr a.q a.id=0\/2<=ah.code a.k a.c a.sq a.it a.sd a.pr a.q a.id:=by
   unfold ah.code;split <;> (try split) <;> (try split) <;> omega
  omega
theorem Ro {a:Ask} (h:fV a 111=0):0<=a.it/\a.it<=2:=by
 obtain⟨h1,h2,_⟩:=Rn h;rw[h1]at h2;simp[ah.ku,ah.aG]at h2;omega
def mine (L:Nat->List Cv.ag) (a:Ask):Bool:=Cv.has (L a.it.toNat) a.id&&((Cv.nth (L a.it.toNat) (Bk.pos (L a.it.toNat) a.id)).ak==a.c)
def fC (L:Nat->List Cv.ag) (a:Ask):Cv.ag:=if fV a 99=0/\mine L a=true then Cv.nth (L a.it.toNat) (Bk.pos (L a.it.toNat) a.id) else Cv.z
def dh (L:Nat->List Cv.ag) (pf:Nat->Int) (a:Ask):Nat :=
 if fV a 99=0 then (if mine L a=true then Pu.gU pf a.it (fC L a) else 5) else (fV a 99-1).toNat
def dQ (L:Nat->List Cv.ag) (a:Ask):Nat->List Cv.ag:=if fV a 99=0/\mine L a=true then upd L a.it.toNat (Bk.del (L a.it.toNat) (Bk.pos (L a.it.toNat) a.id)) else L
def jW (L:Nat->List Cv.ag) (pf:Nat->Int) (a:Ask):Nat->Int:=if fV a 99=0/\mine L a=true then Pu.fE pf a.it (fC L a) else pf
theorem D_ {a:Ask} (h:fV a 99=0):0<=a.it/\a.it<=2:=by
 obtain⟨h1,h2,_⟩:=Rn h;rw[h1]at h2;simp[ah.ku,ah.aG]at h2;omega
def adk (i:Nat) (s:List Cv.ag×(Nat->Int)×List Cv.ag) (id:Int):List Cv.ag×(Nat->Int)×List Cv.ag :=
 (Bk.dQ s.1 id,Pu.fE s.2.1 i (Bk.fC s.1 id),s.2.2++[Bk.fC s.1 id])
def JL (i:Nat) (l:List Cv.ag) (f:Nat->Int) (o:List Cv.ag) (ids:List Int):List Cv.ag×(Nat->Int)×List Cv.ag:=ids.foldl (adk i) (l,f,o)
def nj (c:Int) (L:Nat->List Cv.ag) (f:Nat->Int):Nat->(Nat->List Cv.ag)×(Nat->Int)×List Cv.ag
 | 0=>(L,f,[])
 | i+1 =>
  (upd (nj c L f i).1 i (JL i ((nj c L f i).1 i) (nj c L f i).2.1 (nj c L f i).2.2 (Bk.JK ((nj c L f i).1 i) c)).1,
   (JL i ((nj c L f i).1 i) (nj c L f i).2.1 (nj c L f i).2.2 (Bk.JK ((nj c L f i).1 i) c)).2.1,
   (JL i ((nj c L f i).1 i) (nj c L f i).2.1 (nj c L f i).2.2 (Bk.JK ((nj c L f i).1 i) c)).2.2)
def kz (cash stock:Int):Nat->Nat->Int
 | 0=>fun _=>0
 | k+1=>Pu.iO (kz cash stock k) ⟨k,cash,stock,stock,stock⟩
theorem JM (cash stock:Int):∀ k,Pu.Good (kz cash stock k)
 | 0=>Pu.adl
 | k+1=>Pu.adn (JM cash stock k) _
def tW (ref:Int) (k:Nat):Int:=if k%2=0 then ref else 0
open Cv Bk Ra Pu Fu Fs
theorem _root_.Go.Proofs.YtjolccidheflpaaGreatDoor.Fs.dM.place {L:Nat->List ag} {f:Nat->Int} (h:dM L f) (a:Ask):dM (iB L f a) (jV L f a):=by
 unfold iB jV;by_cases hc:fA L f a=0
 .rw[if_pos hc,if_pos hc]
  unfold fA at hc;split at hc
  .rename_i hk
   have hit:=Ro hk;split at hc
   .rename_i hok
    split at hc
    .cases hc
    .rename_i hn
     split at hc
     .cases hc
     .rename_i hl
      have hi:a.it.toNat<3:=by omega
      have he:((a.it.toNat:Nat):Int)=a.it:=by omega
      have hF:ky f a.it (eZ a)=Pu.add f (hx a.it (eZ a)) (mu (eZ a)):=by unfold ky;rw[if_pos hc]
      have hs:=Rp f a.it (eZ a) 6;refine⟨fun k hk=>?_,ado h.good _ _,?_,by rw[hs.1];exact h.cash,fun k hk=>by rw[hs.2 k hk];exact h.stock k hk⟩
      .by_cases e:k=a.it.toNat
       .subst e;rw[upd_same]
        exact abx (h.aH _ hi) hok (by simpa [eZ] using hn) (by omega)
       .rw[upd_ne _ _ e];exact h.aH k hk
      .have:=adp h.held hi (eZ a)
       rw[he,<- hF]at this;exact this
   .cases hc
  .rename_i hk
   have:=D9 hk
   omega
 .rw[if_neg hc,if_neg hc];exact h
theorem Rq {L:Nat->List ag} {f:Nat->Int} (h:dM L f) {i:Nat} (hi:i<3) {x:ag} (hx':x∈L i):gU f i x=0:=by
 have:=adq h.held (fun j hj=>(h.aH j hj).oks) hi hx'
 unfold gU;rw[if_pos (JN hi ((h.aH i hi).oks x hx')),if_neg (by omega)]
theorem _root_.Go.Proofs.YtjolccidheflpaaGreatDoor.Fs.dM.gone {L:Nat->List ag} {f:Nat->Int} (h:dM L f) {i:Nat} (hi:i<3) {k:Nat} (hk:k<(L i).length):dM (upd L i (del (L i) k)) (fE f i (nth (L i) k)):=by
 have hc:=Rq h hi (Cv.mY hk);have hF:fE f i (nth (L i) k)=Pu.add f (hx i (nth (L i) k)) (-(mu (nth (L i) k))):=by unfold fE;rw[if_pos hc]
 have hs:=JO f i (nth (L i) k) 6;refine⟨fun m hm=>?_,Rs h.good _ _,?_,by rw[hs.1];exact h.cash,fun m hm=>by rw[hs.2 m hm];exact h.stock m hm⟩
 .by_cases e:m=i
  .subst e;rw[upd_same];exact abw (h.aH _ hi) hk
  .rw[upd_ne _ _ e];exact h.aH m hm
 .rw[hF];exact adr h.held hi hk
theorem Rt {L:Nat->List ag} {f:Nat->Int} (h:dM L f) {a:Ask} (hk:fV a 99=0) (hm:mine L a=true):dh L f a=0/\pos (L a.it.toNat) a.id<(L a.it.toNat).length/\a.it.toNat<3:=by
 have hit:=D_ hk;have hi:a.it.toNat<3:=by omega
 have he:((a.it.toNat:Nat):Int)=a.it:=by omega
 have hh:has (L a.it.toNat) a.id=true:=by
  unfold mine at hm;simp only[Bool.and_eq_true]at hm;exact hm.1
 have hp:=px.1 hh
 have:=Rq h hi (Cv.mY hp)
 rw[he]at this;refine⟨?_,hp,hi⟩;unfold dh fC;rw[if_pos hk,if_pos hm,if_pos ⟨hk,hm⟩];exact this
theorem _root_.Go.Proofs.YtjolccidheflpaaGreatDoor.Fs.dM.cancel {L:Nat->List ag} {f:Nat->Int} (h:dM L f) (a:Ask):dM (dQ L a) (jW L f a):=by
 unfold dQ jW;by_cases hc:fV a 99=0/\mine L a=true
 .rw[if_pos hc,if_pos hc]
  obtain⟨_,hp,hi⟩:=Rt h hc.1 hc.2;have he:((a.it.toNat:Nat):Int)=a.it:=by have:=D_ hc.1;omega
  have:=h.gone hi hp
  rw[he]at this;have hx':fC L a=nth (L a.it.toNat) (pos (L a.it.toNat) a.id):=by unfold fC;rw[if_pos hc]
  rw[hx'];exact this
 .rw[if_neg hc,if_neg hc];exact h
end Fl
namespace Fl
open Cv Bk Ra Pu Fu Fs
def fF (c:Int) (l:List ag) (k:Nat):List ag:=(l.take k).filter (fun x=>!(x.ak==c))++l.drop k
def jX (c:Int) (l:List ag) (k:Nat):List ag:=(l.take k).filter (fun x=>x.ak==c)
def ym (i:Nat) (f:Nat->Int) (xs:List ag):Nat->Int:=xs.foldl (fun f x=>fE f i x) f
theorem wb {l:List ag} {k:Nat} (h:k<l.length):l.take (k+1)=l.take k++[nth l k]:=by
 rw[List.take_succ_eq_append_getElem h,vQ h]
theorem drop_cons {l:List ag} {k:Nat} (h:k<l.length):l.drop k=nth l k::l.drop (k+1):=by
 rw[vQ h];exact(List.getElem_cons_drop h).symm
theorem Ru (c:Int) (l:List ag):fF c l 0=l:=by simp[fF]
theorem Rv (c:Int) {l:List ag} {k:Nat} (h:l.length<=k):fF c l k=l.filter (fun x=>!(x.ak==c)):=by
 unfold fF;rw[List.take_of_length_le h,List.drop_of_length_le h,aNq]
theorem Rw (c:Int) {l:List ag} {k:Nat} (h:l.length<=k):jX c l k=l.filter (fun x=>x.ak==c):=by
 unfold jX;rw[List.take_of_length_le h]
theorem keep_other {c:Int} {l:List ag} {k:Nat} (h:k<l.length) (hc:(nth l k).ak≠c):fF c l (k+1)=fF c l k/\jX c l (k+1)=jX c l k:=by
 have hb:((nth l k).ak==c)=false:=by simpa using hc
 constructor
 .unfold fF
  rw[wb h,List.filter_append,drop_cons h,List.filter_cons,hb];simp
 .unfold jX
  rw[wb h,List.filter_append,List.filter_cons,hb];simp
theorem JQ {c:Int} {l:List ag} (ho:eP l) {k:Nat} (h:k<l.length) (hc:(nth l k).ak=c) :
  Bk.dQ (fF c l k) (nth l k).id=fF c l (k+1)/\jX c l (k+1)=jX c l k++[nth l k]/\nth (fF c l k) (pos (fF c l k) (nth l k).id)=nth l k/\pos (fF c l k) (nth l k).id<(fF c l k).length:=by
 have hb:((nth l k).ak==c)=true:=by simpa using hc
 obtain⟨ha,_⟩:=Rx ho h;have hno:has ((l.take k).filter (fun x=>!(x.ak==c))) (nth l k).id=false:=by
  cases hh:has ((l.take k).filter (fun x=>!(x.ak==c))) (nth l k).id with
  | false=>rfl
  | true =>
   unfold has at hh;rw[List.any_eq_true]at hh;obtain⟨x,hx,he⟩:=hh;exact absurd (by simpa using he) (ha x (List.mem_filter.1 hx).1)
 have hk:fF c l k=(l.take k).filter (fun x=>!(x.ak==c))++nth l k::l.drop (k+1):=by unfold fF;rw[drop_cons h]
 have hk1:fF c l (k+1)=(l.take k).filter (fun x=>!(x.ak==c))++l.drop (k+1):=by
  unfold fF;rw[wb h,List.filter_append,List.filter_cons,hb];simp
 have hout:jX c l (k+1)=jX c l k++[nth l k]:=by
  unfold jX;rw[wb h,List.filter_append,List.filter_cons,hb];simp
 rw[hk,hk1];generalize (l.take k).filter (fun x=>!(x.ak==c))=A at *;generalize l.drop (k+1)=B at *;generalize nth l k=x at *;have hp:pos (A++x::B) x.id=A.length:=by
  unfold pos;have h0:A.findIdx (fun y=>y.id==x.id)=A.length:=Qq.1 hno;rw[List.findIdx_append,h0,if_neg (by omega)];simp[List.findIdx_cons]
 have hh:has (A++x::B) x.id=true:=by unfold has;simp
 have hc0:Bk.dh (A++x::B) x.id=0:=by unfold Bk.dh;rw[if_pos hh]
 refine⟨?_,hout,?_,by rw[hp];simp⟩
 .unfold Bk.dQ del
  rw[if_pos hc0,hp];simp
 .rw[hp];unfold nth;simp
theorem drop_one {L:Nat->List ag} {f:Nat->Int} {i:Nat} (hi:i<3) {l:List ag} {c:Int} {k:Nat} (H:dM (upd L i (fF c l k)) f) (ho:eP l) (hk:k<l.length) (hc:(nth l k).ak=c):dM (upd L i (fF c l (k+1))) (fE f i (nth l k)):=by
 obtain⟨h1,_,h3,h4⟩:=JQ ho hk hc;have hh:has (fF c l k) (nth l k).id=true:=px.2 h4;have hc0:Bk.dh (fF c l k) (nth l k).id=0:=by unfold Bk.dh;rw[if_pos hh]
 have e:Bk.dQ (fF c l k) (nth l k).id=del (fF c l k) (pos (fF c l k) (nth l k).id):=by unfold Bk.dQ;rw[if_pos hc0]
 have:=H.gone hi (k:=pos (fF c l k) (nth l k).id) (by rw[upd_same];exact h4)
 rw[upd_same,h3,rZ,<- e,h1]at this;exact this
def i_ (c:Int) (L:Nat->List ag):Nat->Nat->List ag
 | 0=>L
 | i+1=>upd (i_ c L i) i ((L i).filter (fun x=>!(x.ak==c)))
def ot (c:Int) (L:Nat->List ag) (f:Nat->Int):Nat->Nat->Int
 | 0=>f
 | i+1=>ym i (ot c L f i) ((L i).filter (fun x=>x.ak==c))
def kW (c:Int) (L:Nat->List ag):Nat->List ag
 | 0=>[]
 | i+1=>kW c L i++(L i).filter (fun x=>x.ak==c)
theorem JR (c:Int) (L:Nat->List ag):∀ i j,i<=j->i_ c L i j=L j
 | 0,_,_=>rfl
 | i+1,j,h=>by
  show upd (i_ c L i) i _ j=L j;rw[upd_ne _ _ (by omega),JR c L i j (by omega)]
theorem D' (c:Int) (L:Nat->List ag) (h:∀ i,i<3->(L i).length<=60):∀ i,i<=3->(kW c L i).length<=60*i
 | 0,_=>lRq _
 | i+1,hi=>by
  have ih:=D' c L h i (by omega);have h1:=h i (by omega);have h2:=List.length_filter_le (fun x:ag=>x.ak==c) (L i);show (kW c L i++_).length<=_;rw[lAq];omega
end Fl
namespace Fl
open Cv Bk Ra Pu Fu Fs
end Fl
end Go.Proofs.YtjolccidheflpaaGreatDoor
