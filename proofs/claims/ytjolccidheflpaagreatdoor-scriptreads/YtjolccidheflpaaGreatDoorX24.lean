/- What is held is what rests asks for: plain facts; no walk. -/
import Derived.Test.YtjolccidheflpaaGreatDoorX01
namespace Go.Proofs.YtjolccidheflpaaGreatDoor
set_option maxHeartbeats 8000000
set_option maxRecDepth 100000
namespace Fu
open Cv Bk Pu
def bf(g:af->Int):List af->Int
 | []=>0
 | x::l=>g x+bf g l
theorem Di(g:af->Int):∀a b:List af,bf g (a++b)=bf g a+bf g b
 | [],b=>by simp[bf]
 | x::a,b=>by rw[List.cons_append,bf,bf,Di g a b];omega
theorem ah7(g:af->Int){l:List af}{k:Nat}(hk:k<l.length):bf g (del l k)=bf g l-g (nth l k):=by have e:bf g l=bf g (l.take k++nth l k::l.drop (k+1)):=congrArg _ (Bt hk);rw[e];unfold del;rw[Di,Di,bf];omega
theorem xY{g:af->Int}:∀{l:List af},(∀x∈l,0<=g x)->0<=bf g l/\∀x∈l,g x<=bf g l
 | [],_=>⟨by simp[bf],fun x hx=>by cases hx⟩
 | y::l,h=>by
  obtain⟨h1,h2⟩:=xY (l:=l) (fun x hx=>h x (mOq _ hx));have hy:=h y (mSq ..);rw[bf];refine⟨by omega,fun x hx=>?_⟩;rcases List.mem_cons.1 hx with rfl | hx
  .omega
  .have:=h2 x hx;omega
def iD(i j:Nat)(x:af):Int:=dl (hx i x) (mu x) j
def asked(L:Nat->List af)(j:Nat):Int:=bf (iD 0 j) (L 0)+bf (iD 1 j) (L 1)+bf (iD 2 j) (L 2)
theorem Nl(L:Nat->List af){i:Nat}(hi:i<3)(l:List af)(j:Nat):asked (upd L i l) j=asked L j-bf (iD i j) (L i)+bf (iD i j) l:=by
 have:i=0\/i=1\/i=2:=by omega
 unfold asked;rcases this with rfl | rfl | rfl
 .rw[upd_same,upd_ne L l (show 1≠0 by decide),upd_ne L l (show 2≠0 by decide)];omega
 .rw[upd_same,upd_ne L l (show 0≠1 by decide),upd_ne L l (show 2≠1 by decide)];omega
 .rw[upd_same,upd_ne L l (show 0≠2 by decide),upd_ne L l (show 1≠2 by decide)];omega
def zI(j:Nat):Prop:=∃c,c<6/\(j=c*8+1\/∃k,k<3/\j=c*8+5+k)
def ye(L:Nat->List af)(f:Nat->Int):Prop:=∀j,zI j->f j=asked L j
theorem afA(f:Nat->Int)(h:∀j,zI j->f j=0):ye (fun _=>[]) f:=fun j hj=>by rw[h j hj];rfl
theorem afw{L:Nat->List af}{f:Nat->Int}(h:ye L f){i:Nat}(hi:i<3)(x:af):ye (upd L i (L i++[x])) (Pu.add f (hx i x) (mu x)):=fun j hj=>by
 rw[Dj,h j hj,Nl L hi,Di,bf,bf];unfold iD;omega
theorem afy{L:Nat->List af}{f:Nat->Int}(h:ye L f){i:Nat}(hi:i<3){k:Nat}(hk:k<(L i).length):ye (upd L i (del (L i) k)) (Pu.add f (hx i (nth (L i) k)) (-(mu (nth (L i) k)))):=fun j hj=>by
 rw[Dj,h j hj,Nl L hi,ah7 _ hk];unfold iD;have:dl (hx i (nth (L i) k)) (-(mu (nth (L i) k))) j = -(dl (hx i (nth (L i) k)) (mu (nth (L i) k)) j):=by unfold dl;split <;> omega
 rw[this];omega
theorem ah8{i:Nat}{x:af}(h:well i x=true):zI (hx i x):=by
 rcases places h with ⟨c,h1,h2,_⟩ | ⟨c,k,h1,h4,h2,_⟩
 .exact⟨c,h1,.inl h2⟩
 .exact⟨c,h1,.inr ⟨k,h4,h2⟩⟩
theorem Ko{i:Nat}(hi:i<3){x:af}(h:ok x=true):well i x=true:=by unfold well;rw[h];simp[ah.aK];omega
theorem afx{L:Nat->List af}{f:Nat->Int}(h:ye L f)(hok:∀j,j<3->eu (L j)){i:Nat}(hi:i<3){x:af}(hx':x∈L i):mu x<=f (hx i x):=by
 have hw:=Ko hi (hok i hi x hx');rw[h _ (ah8 hw)];have nn:∀k,k<3->∀y∈L k,0<=iD k (hx i x) y:=fun k hk y hy=>by
  have:=vU (hok k hk y hy)
  unfold iD dl;split <;> omega
 have h0:=(xY (nn 0 (by decide))).1;have h1:=(xY (nn 1 (by decide))).1;have h2:=(xY (nn 2 (by decide))).1;have hm:iD i (hx i x) x=mu x:=by unfold iD;exact pT
 have hx2:=(xY (nn i hi)).2 x hx';rw[hm]at hx2;have:i=0\/i=1\/i=2:=by omega
 unfold asked;rcases this with rfl | rfl | rfl <;> omega
def per(x:af):Int:=if x.sd=0 then x.pr else 1
theorem ahR(x:af):mu x=per x*x.q:=by unfold mu per;split <;> omega
end Fu
namespace Fs
open Cv Bk Ra Pu Fu
def iN(i:Nat)(price:Int)(j:Nat)(x:af)(q:Int):Int :=
 if x.sd=0 then dl (x.ai.toNat*8) (-(price*q)) j+dl (x.ai.toNat*8+1) (-(x.pr*q)) j+dl (x.ai.toNat*8+2+i) q j
 else dl (x.ai.toNat*8) (price*q) j+dl (x.ai.toNat*8+2+i) (-q) j+dl (x.ai.toNat*8+5+i) (-q) j
theorem ahO(i:Nat)(price:Int)(j:Nat)(x:af)(a b:Int):iN i price j x (a+b)=iN i price j x a+iN i price j x b:=by unfold iN;rw[show -(price*(a+b)) = -(price*a) + -(price*b) by rw[Int.mul_add];omega,show -(x.pr*(a+b)) = -(x.pr*a) + -(x.pr*b) by rw[Int.mul_add];omega,show -(a+b) = -a + -b by omega,show price*(a+b)=price*a+price*b from Int.mul_add ..];simp only[VH];split <;> omega
theorem ahP(i:Nat)(price:Int)(j:Nat)(x:af):iN i price j x 0=0:=by unfold iN;simp[dl]
theorem ahQ(f:Nat->Int)(i:Nat)(price:Int){x y:af}(hx:x.sd=0)(hy:y.sd≠0)(q:Int)(j:Nat):six f x.ai.toNat y.ai.toNat i x.pr price q j=f j+iN i price j x q+iN i price j y q:=by rw[Df];unfold iN;rw[if_pos hx,if_neg hy];omega
structure jr (φ:af->Int->Int):Prop where
 add:∀x a b,φ x (a+b)=φ x a+φ x b
 self:∀x (q r:Int),φ ⟨x.id,x.ai,x.sd,x.pr,q⟩ r=φ x r
theorem jr.zero{φ:af->Int->Int}(h:jr φ)(x:af):φ x 0=0:=by have:=h.add x 0 0;simp at this;omega
theorem Ni(i:Nat)(price:Int)(j:Nat):jr (iN i price j):=⟨ahO i price j,fun _ _ _=>rfl⟩
def mM(i j:Nat)(x:af)(q:Int):Int:=dl (hx i x) (per x*q) j
theorem GA(i j:Nat):jr (mM i j):=⟨fun x a b=>by unfold mM;rw[Int.mul_add,VH],fun _ _ _=>rfl⟩
theorem VI(i j:Nat)(x:af):iD i j x=mM i j x x.q:=by unfold iD mM;rw[ahR]
theorem GB:jr (fun _ q=>q):=⟨fun _ _ _=>rfl,fun _ _ _=>rfl⟩
def own(φ:af->Int->Int)(x:af):Int:=φ x x.q
theorem ahS{φ:af->Int->Int}(h:jr φ)(sd:Int):jr (fun x q=>if x.sd=sd then φ x q else 0) :=
 ⟨fun x a b=>by show (if x.sd=sd then _ else _)=_;split <;> simp[h.add, *],fun x q r=>by show (if x.sd=sd then φ ⟨x.id,x.ai,x.sd,x.pr,q⟩ r else 0)=if x.sd=sd then φ x r else 0;rw[h.self]⟩
theorem GD{g h:af->Int}:∀{l:List af},(∀x∈l,g x=h x)->bf g l=bf h l
 | [],_=>rfl
 | x::l,H=>by rw[bf,bf,H x (mSq ..),GD fun y hy=>H y (mOq _ hy)]
theorem Nj(g h:af->Int):∀l:List af,bf (fun x=>g x+h x) l=bf g l+bf h l
 | []=>rfl
 | x::l=>by rw[bf,bf,bf,Nj g h l];omega
theorem VJ{g h:af->Int}:∀{l:List af},(∀x∈l,g x<=h x)->bf g l<=bf h l
 | [],_=>Int.le_refl _
 | x::l,H=>by
  have:=H x (mSq ..)
  have:=VJ fun y hy=>H y (mOq x hy)
  rw[bf,bf];omega
theorem Cz{g:af->Int}:∀{l:List af},(∀x∈l,g x=0)->bf g l=0
 | [],_=>rfl
 | x::l,H=>by rw[bf,H x (mSq ..),Cz fun y hy=>H y (mOq _ hy)];rfl
theorem ahT{φ:af->Int->Int}(lF:jr φ)(c:Int->Int)(q:Int){l:List af}(ho:eL l){x:af}(hx:x∈l):bf (fun y=>φ y (more c x.id q y.id)) l=bf (fun y=>φ y (c y.id)) l+φ x q:=by
 induction l with
 | nil=>cases hx
 | cons y l ih =>
  have hno:y.id ∉ l.map (·.id)/\eL l:=by unfold eL at ho ⊢;rw[List.map_cons,List.nodup_cons]at ho;exact ho
  rw[bf,bf];rcases List.mem_cons.1 hx with rfl | hx'
  .have e:bf (fun y=>φ y (more c x.id q y.id)) l=bf (fun y=>φ y (c y.id)) l:=GD fun z hz=>by
    have:z.id≠x.id:=fun e=>hno.1 (by rw[<- e];exact List.mem_map_of_mem hz);unfold more;rw[if_neg this]
   have e2:more c x.id q x.id=c x.id+q:=by unfold more;rw[if_pos rfl]
   rw[e,e2,lF.add];omega
  .have:y.id≠x.id:=fun e=>hno.1 (by rw[e];exact List.mem_map_of_mem hx')
   have e2:more c x.id q y.id=c y.id:=by unfold more;rw[if_neg this]
   rw[ih hno.2 hx',e2];omega
theorem ahU(f:Int×Int)(F:List (Int×Int)):(fun id=>got id (f::F))=more (fun id=>got id F) f.1 f.2:=by
 funext id;show (if f.1=id then f.2 else 0)+got id F=_;simp only[more];by_cases h:f.1=id
 .rw[if_pos h,if_pos h.symm];omega
 .rw[if_neg h,if_neg (fun e=>h e.symm)];omega
theorem MI(F:List (Int×Int)){k:Nat}(hk:k<F.length):(fun id=>got id (F.take (k+1)))=more (fun id=>got id (F.take k)) (F[k]).1 (F[k]).2:=by
 funext id;rw[List.take_succ_eq_append_getElem hk,Dg];show got id (F.take k)+((if F[k].1=id then F[k].2 else 0)+0)=_;simp only[more];by_cases h:F[k].1=id
 .rw[if_pos h,if_pos h.symm];omega
 .rw[if_neg h,if_neg (fun e=>h e.symm)];omega
theorem Gf(id:Int):∀F:List (Int×Int),(∀f∈F,1<=f.2)->0<=got id F
 | [],_=>Int.le_refl _
 | f::F,h=>by
  have:=Gf id F fun g hg=>h g (mOq _ hg)
  have:=h f (mSq ..)
  show 0<=(if f.1=id then f.2 else 0)+got id F;split <;> omega
theorem Vh(id:Int)(F:List (Int×Int))(h:∀f∈F,1<=f.2)(k:Nat):got id (F.take k)<=got id F:=by
 have e:got id F=got id (F.take k++F.drop k):=by rw[List.take_append_drop]
 rw[e,Dg]
 have:=Gf id (F.drop k) fun f hf=>h f (List.mem_of_mem_drop hf)
 omega
theorem VK{F:List (Int×Int)}(h:∀f∈F,1<=f.2){f:Int×Int}(hf:f∈F):f.2<=got f.1 F:=by obtain⟨k,hk,rfl⟩:=List.mem_iff_getElem.1 hf;have h1:=Vh (F[k]).1 F h (k+1);have h2:=congrFun (MI F hk) (F[k]).1;simp only[more,if_true]at h2;have h3:=Gf (F[k]).1 (F.take k) fun g hg=>h g (List.mem_of_mem_take hg);omega
def pH(l:List af)(sd:Int)(f:Int×Int):List af:=if has l f.1=true/\(nth l (pos l f.1)).sd=sd then [Pu.only (nth l (pos l f.1)) f.2] else []
def filled(l:List af)(sd:Int):List (Int×Int)->List af
 | []=>[]
 | f::F=>pH l sd f++filled l sd F
theorem T8(l:List af)(sd:Int):∀F G,filled l sd (F++G)=filled l sd F++filled l sd G
 | [],G=>rfl
 | f::F,G=>by rw[List.cons_append,filled,filled,T8 l sd F G,aAq]
theorem oo{l:List af}{k:Nat}(h:k<l.length):nth l k∈l:=by rw[vg h];exact List.getElem_mem h
theorem ahV{l:List af}{x:af}(h:x∈l):has l x.id=true:=by unfold has;rw[List.any_eq_true];exact⟨x,h,by simp⟩
theorem VL{l:List af}{sd:Int}{y:af}:∀{F:List (Int×Int)},y∈filled l sd F->∃f∈F,∃x∈l,x.id=f.1/\x.sd=sd/\y=Pu.only x f.2
 | [],h=>by cases h
 | f::F,h=>by
  rw[filled,List.mem_append]at h;rcases h with h | h
  .unfold pH at h
   split at h
   .rename_i hh
    have hk:=sW.1 hh.1;exact⟨f,mSq ..,nth l (pos l f.1),oo hk,BD hk,hh.2,List.mem_singleton.1 h⟩
   .cases h
  .obtain⟨g,hg,r⟩:=VL h
   exact⟨g,mOq _ hg,r⟩
theorem Dh{φ:af->Int->Int}(lF:jr φ){l:List af}(ho:eL l)(sd:Int):∀F:List (Int×Int),(∀f∈F,∃x∈l,x.id=f.1)->bf (own φ) (filled l sd F)=bf (fun x=>if x.sd=sd then φ x (got x.id F) else 0) l
 | [],_=>by
  rw[filled,bf];exact(Cz fun x _=>by show (if x.sd=sd then φ x 0 else 0)=0;rw[lF.zero];simp).symm
 | f::F,h=>by
  have ih:=Dh lF ho sd F fun g hg=>h g (mOq _ hg);obtain⟨x,hx,he⟩:=h f (mSq ..);have hh:=ahV hx;rw[he]at hh;have hk:=sW.1 hh;have hid:=BD hk;have hm:=oo hk;have hs:=ahT (ahS lF sd) (fun id=>got id F) f.2 ho hm;rw[hid,<- ahU]at hs;rw[filled,Di,ih];have e:bf (own φ) (pH l sd f)=if (nth l (pos l f.1)).sd=sd then φ (nth l (pos l f.1)) f.2 else 0:=by
   unfold pH;by_cases h2:(nth l (pos l f.1)).sd=sd
   .rw[if_pos ⟨hh,h2⟩,if_pos h2,bf,bf]
    show φ (Pu.only _ _) f.2+0=_;unfold Pu.only;rw[lF.self];omega
   .rw[if_neg (fun h3=>h2 h3.2),if_neg h2];rfl
  rw[e];have:(fun y:af=>if y.sd=sd then φ y (got y.id (f::F)) else 0)=fun y=>if y.sd=sd then φ y ((fun id=>got id (f::F)) y.id) else 0:=rfl;rw[this,hs];omega
def gP:List af->Int->List af
 | [],_=>[]
 | x::l,q=>if x.q-q=0 then l else less x q::l
theorem s8(x:af)(l:List af)(q:Int):gP (x::l) q=if x.q-q=0 then l else less x q::l:=rfl
structure lS (i:Nat) (price:Int) (G:Nat->Int) (f:Nat->Int) (bs ss:List af):Prop where
 sum:∀j,f j+bf (own (iN i price j)) bs+bf (own (iN i price j)) ss=G j
 bN:bN bs=bN ss
 dm:∀x∈bs,well i x=true/\x.sd=0/\price<=x.pr
 ws:∀x∈ss,well i x=true/\x.sd=1/\x.pr<=price
 good:Pu.Good f
 held:∀j,zI j->bf (iD i j) bs+bf (iD i j) ss<=f j
 cash:eO f 6<=1099511627776
 stock:∀k,k<3->eP f k 6<=1073741824
theorem VN{l:List af}(h:∀x∈l,1<=x.q):0<=Ra.bN l/\(Ra.bN l=0->l=[]):=by
 cases l with
 | nil=>exact⟨Int.le_refl _,fun _=>rfl⟩
 | cons x l =>
  have h1:=h x (mSq ..);have h2:=Ra.vS l fun y hy=>h y (mOq _ hy);have:Ra.bN (x::l)=x.q+Ra.bN l:=rfl;exact⟨by omega,fun e=>by omega⟩
theorem GF{i:Nat}{x:af}(h:well i x=true):1<=x.q:=(Cv.gB (lD h)).2.2.2.2.1
theorem lS.done{i:Nat}{price:Int}{G f:Nat->Int}{bs ss:List af}(h:lS i price G f bs ss)(he:bs=[]\/ss=[]):∀j,f j=G j:=by
 have h1:=VN fun x hx=>GF (h.dm x hx).1;have h2:=VN fun x hx=>GF (h.ws x hx).1;have ht:=h.bN;have e0:Ra.bN []=0:=rfl;have:bs=[]/\ss=[]:=by
  rcases he with e | e
  .subst e;exact⟨rfl,h2.2 (by omega)⟩
  .subst e;exact⟨h1.2 (by omega),rfl⟩
 intro j
 have:=h.sum j
 rw[‹bs=[]/\ss=[]›.1,‹bs=[]/\ss=[]›.2,bf]at this;omega
theorem z_{φ:af->Int->Int}(lF:jr φ)(x:af)(l:List af)(q:Int):bf (own φ) (gP (x::l) q)=bf (own φ) (x::l)-φ x q:=by
 have h:φ x x.q=φ x (x.q-q)+φ x q:=by rw[<- lF.add];congr 1;omega
 rw[s8];split
 .rename_i e
  have h':φ x (x.q-q)=0:=by rw[e];exact lF.zero x
  show bf (own φ) l=own φ x+bf (own φ) l-φ x q;unfold own at *;omega
 .show own φ (less x q)+bf (own φ) l=own φ x+bf (own φ) l-φ x q
  have:own φ (less x q)=φ x (x.q-q):=lF.self x _ _;rw[this];unfold own at *;omega
theorem VO{x y:af}{l:List af}{q:Int}(h:y∈gP (x::l) q):y∈l\/(x.q-q≠0/\y=less x q):=by
 rw[s8]at h;split at h
 .exact .inl h
 .rename_i e
  rcases List.mem_cons.1 h with h | h
  .exact .inr ⟨e,h⟩
  .exact .inl h
theorem VP{i:Nat}{x:af}{q:Int}(h:well i x=true)(h1:1<=q)(h2:q<x.q):well i (less x q)=true:=by have h3:=RY (lD h) h1 h2;simp only[well,Bool.and_eq_true]at h ⊢;exact⟨h.1,h3⟩
theorem GG(l:List af):Ra.bN l=bf (own fun _ q=>q) l:=by
 induction l with
 | nil=>rfl
 | cons x l ih=>show x.q+Ra.bN l=x.q+_;rw[ih]
theorem Aa(i j:Nat)(l:List af):bf (iD i j) l=bf (own (mM i j)) l:=GD fun x _=>VI i j x
theorem ahW{f:Nat->Int}(hg:Pu.Good f){b s:Nat}(hb:b<6)(hs:s<6)(hne:b≠s):f (b*8)+f (s*8)<=eO f 6:=by
 have h0:=hg.cash 0 (by decide);have h1:=hg.cash 1 (by decide);have h2:=hg.cash 2 (by decide);have h3:=hg.cash 3 (by decide);have h4:=hg.cash 4 (by decide);have h5:=hg.cash 5 (by decide);simp only[eO];have:b=0\/b=1\/b=2\/b=3\/b=4\/b=5:=by omega
 have:s=0\/s=1\/s=2\/s=3\/s=4\/s=5:=by omega
 rcases ‹b=0\/_› with rfl | rfl | rfl | rfl | rfl | rfl <;> rcases ‹s=0\/_› with rfl | rfl | rfl | rfl | rfl | rfl <;> first | exact absurd rfl hne | (simp only[Nat.reduceMul,Nat.reduceAdd]at *;omega)
theorem ahX{f:Nat->Int}(hg:Pu.Good f){k b s:Nat}(hk:k<3)(hb:b<6)(hs:s<6)(hne:b≠s):f (b*8+2+k)+f (s*8+2+k)<=eP f k 6:=by
 have h0:=hg.stock 0 k (by decide) hk;have h1:=hg.stock 1 k (by decide) hk;have h2:=hg.stock 2 k (by decide) hk;have h3:=hg.stock 3 k (by decide) hk;have h4:=hg.stock 4 k (by decide) hk;have h5:=hg.stock 5 k (by decide) hk;simp only[eP];have:b=0\/b=1\/b=2\/b=3\/b=4\/b=5:=by omega
 have:s=0\/s=1\/s=2\/s=3\/s=4\/s=5:=by omega
 rcases ‹b=0\/_› with rfl | rfl | rfl | rfl | rfl | rfl <;> rcases ‹s=0\/_› with rfl | rfl | rfl | rfl | rfl | rfl <;> first | exact absurd rfl hne | (simp only[Nat.reduceMul,Nat.reduceAdd]at *;omega)
theorem lS.step{i:Nat}(hi:i<3){price:Int}(hp:1<=price/\price<=1000){G f:Nat->Int}{x y:af}{bs ss:List af}(h:lS i price G f (x::bs) (y::ss)){q:Int}(hq:q=min x.q y.q):
  i7 f i x y price q=0/\lS i price G (jU f i x y price q) (gP (x::bs) q) (gP (y::ss) q):=by
 obtain⟨wx,vT,GH⟩:=h.dm x (mSq ..);obtain⟨jl,VQ,VR⟩:=h.ws y (mSq ..);have atg:=GF wx;have ath:=GF jl;have q1:1<=q:=by omega
 have q2:q<=x.q:=by omega
 have q3:q<=y.q:=by omega
 have Ab:y.sd≠0:=by omega
 have bx:=Cv.gB (lD wx);have by':=Cv.gB (lD jl)
 have GI:x.ai.toNat<6:=by omega
 have GJ:y.ai.toNat<6:=by omega
 have it:((i:Nat):Int).toNat=i:=Int.toNat_natCast i;have nn:∀(l:List af),(∀z∈l,well i z=true)->∀j,0<=bf (iD i j) l:=fun l hl j=>(xY fun z hz=>by
  have:=vU (lD (hl z hz))
  unfold iD dl;split <;> omega).1
 have ax:∀j,iD i j x=dl (x.ai.toNat*8+1) (x.pr*x.q) j:=fun j=>by
  unfold iD hx mu;rw[if_pos vT,if_pos vT]
 have VT:∀j,iD i j y=dl (y.ai.toNat*8+5+i) y.q j:=fun j=>by
  unfold iD hx mu;rw[if_neg Ab,if_neg Ab,it]
 have ak:=nn bs (fun z hz=>(h.dm z (mOq _ hz)).1);have VU:=nn ss (fun z hz=>(h.ws z (mOq _ hz)).1);have ati:0<=x.pr*x.q:=Int.mul_nonneg (by omega) (by omega);have hx1:x.pr*x.q<=f (x.ai.toNat*8+1):=by
  have:=h.held (x.ai.toNat*8+1) ⟨x.ai.toNat,GI,.inl rfl⟩
  rw[bf,bf,ax,VT,pT,dR (by omega)]at this
  have:=ak (x.ai.toNat*8+1)
  have:=VU (x.ai.toNat*8+1)
  omega
 have hy1:y.q<=f (y.ai.toNat*8+5+i):=by
  have:=h.held (y.ai.toNat*8+5+i) ⟨y.ai.toNat,GJ,.inr ⟨i,hi,rfl⟩⟩
  rw[bf,bf,ax,VT,pT,dR (by omega)]at this
  have:=ak (y.ai.toNat*8+5+i)
  have:=VU (y.ai.toNat*8+5+i)
  omega
 have atj:x.pr*q<=x.pr*x.q:=Int.mul_le_mul_of_nonneg_left q2 (by omega);have hpq:price*q<=x.pr*q:=Int.mul_le_mul_of_nonneg_right GH (by omega);have xQ:mN i x y price q=0:=by unfold mN;rw[if_pos ⟨wx,jl⟩,if_pos ⟨vT,VQ⟩,if_pos ⟨hp,q1,q2,q3⟩,if_pos ⟨VR,GH⟩]
 have ahY:oP f x.ai.toNat y.ai.toNat i x.pr q=false:=by simp only[oP,Bool.or_eq_false_iff,decide_eq_false_iff_not];exact⟨by omega,by omega⟩
 have hover:over f x.ai.toNat y.ai.toNat i price q=false:=by
  unfold over;by_cases e:x.ai.toNat=y.ai.toNat
  .simp[e]
  .have c1:=ahW h.good GI GJ e
   have c2:=ahX h.good hi GI GJ e;have c3:=h.cash;have c4:=h.stock i hi;have c5:=h.good.cash _ GI;have c6:=h.good.stock _ i GJ hi;have d1:decide (1073741824<f (x.ai.toNat*8+2+i)+q)=false:=by simp;omega
   have d2:decide (1099511627776<f (y.ai.toNat*8)+price*q)=false:=by simp;omega
   rw[d1,d2];simp
 have hC:i7 f i x y price q=0:=by unfold i7;rw[if_pos xQ,it,if_neg (by rw[ahY];decide),if_neg (by rw[hover];decide)]
 have hF:jU f i x y price q=six f x.ai.toNat y.ai.toNat i x.pr price q:=by unfold jU;rw[if_pos hC,it]
 have hg:=ahZ h.good i x y price q;have hs:=FH f i x y price q;have e6:∀j,jU f i x y price q j=f j+iN i price j x q+iN i price j y q:=fun j=>by rw[hF];exact ahQ f i price vT Ab q j
 refine⟨hC,?_,?_,?_,?_,hg,?_,by rw[hs.1];exact h.cash,fun k hk=>by rw[hs.2 k hk];exact h.stock k hk⟩
 .intro j
  rw[z_ (Ni i price j),z_ (Ni i price j),e6,<- h.sum j];omega
 .have:=h.bN
  rw[GG,GG]at this ⊢;rw[z_ GB,z_ GB];omega
 .intro z hz
  rcases VO hz with hz | ⟨hz,rfl⟩
  .exact h.dm z (mOq _ hz)
  .exact⟨VP wx q1 (by omega),vT,GH⟩
 .intro z hz
  rcases VO hz with hz | ⟨hz,rfl⟩
  .exact h.ws z (mOq _ hz)
  .exact⟨VP jl q1 (by omega),VQ,VR⟩
 .intro j hj
  have:=h.held j hj
  rw[Aa,Aa]at this ⊢;rw[z_ (GA i j),z_ (GA i j),e6];have ex:iN i price j x q = -(mM i j x q):=by unfold iN mM hx per;rw[if_pos vT,if_pos vT,if_pos vT];obtain⟨c,hc,mG⟩:=hj;rw[dR (i:=x.ai.toNat*8) (by rcases mG with e | ⟨k,hk,e⟩ <;> omega),dR (i:=x.ai.toNat*8+2+i) (by rcases mG with e | ⟨k,hk,e⟩ <;> omega)];unfold dl;split <;> omega
  have ey:iN i price j y q = -(mM i j y q):=by unfold iN mM hx per;rw[if_neg Ab,if_neg Ab,if_neg Ab,it,Int.one_mul];obtain⟨c,hc,mG⟩:=hj;rw[dR (i:=y.ai.toNat*8) (by rcases mG with e | ⟨k,hk,e⟩ <;> omega),dR (i:=y.ai.toNat*8+2+i) (by rcases mG with e | ⟨k,hk,e⟩ <;> omega)];unfold dl;split <;> omega
  omega
end Fs
namespace Fs
open Cv Bk Ra Pu Fu
structure vx (l:List af) (price:Int) (F:List (Int×Int)):Prop where
 pos:∀f∈F,1<=f.2/\∃x∈l,x.id=f.1
 le:∀x∈l,0<=got x.id F/\got x.id F<=x.q
 el:∀x∈l,0<got x.id F->(x.sd=0->price<=x.pr)/\(x.sd=1->x.pr<=price)
 ah1:bf (fun x=>if x.sd=0 then got x.id F else 0) l=bf (fun x=>if x.sd=1 then got x.id F else 0) l
def iB(F:List (Int×Int))(l:List af):List af:=rem (fun id=>got id F) l
def iw(f:Nat->Int)(i:Nat)(price:Int)(l:List af)(F:List (Int×Int))(j:Nat):Int:=f j+bf (fun x=>iN i price j x (got x.id F)) l
structure dI (L:Nat->List af) (f:Nat->Int):Prop where
 aO:∀i,i<3->Bk.Good (L i)
 good:Pu.Good f
 held:ye L f
 cash:eO f 6<=1099511627776
 stock:∀k,k<3->eP f k 6<=1073741824
theorem ah2{i:Nat}(hi:i<3){price:Int}{j:Nat}(hj:zI j)(x:af)(q:Int):iN i price j x q = -(mM i j x q):=by
 obtain⟨c,hc,mG⟩:=hj;unfold iN mM hx per;rw[Int.toNat_natCast];split
 .rw[dR (i:=x.ai.toNat*8) (by rcases mG with e | ⟨k,hk,e⟩ <;> omega),dR (i:=x.ai.toNat*8+2+i) (by rcases mG with e | ⟨k,hk,e⟩ <;> omega)]
  unfold dl;split <;> omega
 .rw[dR (i:=x.ai.toNat*8) (by rcases mG with e | ⟨k,hk,e⟩ <;> omega),dR (i:=x.ai.toNat*8+2+i) (by rcases mG with e | ⟨k,hk,e⟩ <;> omega),Int.one_mul]
  unfold dl;split <;> omega
theorem VZ{φ:af->Int->Int}(lF:jr φ){c:Int->Int}:∀{l:List af},(∀x∈l,c x.id<=x.q)->bf (own φ) (rem c l)=bf (own φ) l-bf (fun x=>φ x (c x.id)) l
 | [],_=>rfl
 | x::l,h=>by
  have ih:=VZ lF (c:=c) (l:=l) fun y hy=>h y (mOq _ hy);have hx:=h x (mSq ..);have e:φ x x.q=φ x (x.q-c x.id)+φ x (c x.id):=by rw[<- lF.add];congr 1;omega
  unfold rem at ih ⊢;rw[List.filterMap_cons];by_cases hc:c x.id<x.q
  .have:l5 c x=some (less x (c x.id)):=by unfold l5;rw[if_pos hc]
   rw[this];show own φ (less x (c x.id))+bf (own φ) (l.filterMap (l5 c))=own φ x+bf (own φ) l-(φ x (c x.id)+bf _ l);have e2:own φ (less x (c x.id))=φ x (x.q-c x.id):=lF.self x _ _;rw[e2,ih];unfold own;omega
  .have:l5 c x=none:=by unfold l5;rw[if_neg hc]
   rw[this];show bf (own φ) (l.filterMap (l5 c))=own φ x+bf (own φ) l-(φ x (c x.id)+bf _ l);have e3:c x.id=x.q:=by omega
   rw[ih];unfold own;rw[e3];omega
theorem Vi{l:List af}(h:Bk.Good l){c:Int->Int}(hc:∀x∈l,0<=c x.id):Bk.Good (rem c l):=by
 refine⟨fun y hy=>?_,lTq (List.length_filterMap_le _ _) h.2,V0 h.3⟩;obtain⟨x,hx,hlt,rfl⟩:=GK.1 hy;have h0:=hc x hx;by_cases e:c x.id=0
 .rw[e]
  have:less x 0=x:=by unfold less;simp
  rw[this];exact h.1 x hx
 .exact RY (h.1 x hx) (by omega) hlt
theorem ah3{l:List af}(h:eu l){x:af}(hx:x∈l):x.sd=0\/x.sd=1:=by have:=(gB (h x hx)).2.2.1;omega
theorem ah4{φ:af->Int->Int}{l:List af}(h:eu l)(F:List (Int×Int)):
  bf (fun x=>if x.sd=0 then φ x (got x.id F) else 0) l+bf (fun x=>if x.sd=1 then φ x (got x.id F) else 0) l=bf (fun x=>φ x (got x.id F)) l:=by
 rw[<- Nj];exact GD fun x hx=>by
  rcases ah3 h hx with e | e
  .rw[if_pos e,if_neg (by omega)];omega
  .rw[if_neg (by omega),if_pos e];omega
theorem V1{l:List af}(h:eu l){price:Int}{F:List (Int×Int)}(hF:vx l price F){i:Nat}(hi:i<3){sd:Int}{y:af}(hy:y∈filled l sd F):well i y=true/\y.sd=sd/\(y.sd=0->price<=y.pr)/\(y.sd=1->y.pr<=price):=by obtain⟨f,hf,x,hx,hid,hsd,rfl⟩:=VL hy;have h1:=(hF.pos f hf).1;have h2:=VK (fun g hg=>(hF.pos g hg).1) hf;rw[<- hid]at h2;have h3:=(hF.le x hx).2;exact⟨Nk (Ko hi (h x hx)) h1 (by omega),hsd,(hF.el x hx (by omega)).1,(hF.el x hx (by omega)).2⟩
theorem dI.start{L:Nat->List af}{f:Nat->Int}(h:dI L f){i:Nat}(hi:i<3){price:Int}{F:List (Int×Int)}(hF:vx (L i) price F):lS i price (iw f i price (L i) F) f (filled (L i) 0 F) (filled (L i) 1 F):=by
 have hok:=(h.aO i hi).1;have vR:=(h.aO i hi).3;have hm:∀g∈F,∃x∈L i,x.id=g.1:=fun g hg=>(hF.pos g hg).2;have hs:∀{φ:af->Int->Int},jr φ->bf (own φ) (filled (L i) 0 F)+bf (own φ) (filled (L i) 1 F)=bf (fun x=>φ x (got x.id F)) (L i):=fun {φ} lF=>by
  rw[Dh lF vR 0 F hm,Dh lF vR 1 F hm,ah4 hok]
 refine⟨fun j=>?_,?_,fun x hx=>?_,fun x hx=>?_,h.good,fun j hj=>?_,h.cash,h.stock⟩
 .have:=hs (Ni i price j)
  unfold iw;omega
 .rw[GG,GG,Dh GB vR 0 F hm,Dh GB vR 1 F hm]
  exact hF.ah1
 .obtain⟨a,b,c,_⟩:=V1 hok hF hi hx
  exact⟨a,b,c b⟩
 .obtain⟨a,b,_,c⟩:=V1 hok hF hi hx
  exact⟨a,b,c b⟩
 .rw[Aa,Aa,hs (GA i j),h.held j hj]
  have h1:bf (fun x=>mM i j x (got x.id F)) (L i)<=bf (iD i j) (L i):=VJ fun x hx=>by
   have hb:=hF.le x hx;have hp:=gB (hok x hx);rw[VI];unfold mM dl;split
   .exact Int.mul_le_mul_of_nonneg_left hb.2 (by unfold per;split <;> omega)
   .exact Int.le_refl _
  have nn:∀k,k<3->0<=bf (iD k j) (L k):=fun k hk=>(xY fun y hy=>by
   have:=vU ((h.aO k hk).1 y hy)
   unfold iD dl;split <;> omega).1
  have n0:=nn 0 (by decide);have n1:=nn 1 (by decide);have n2:=nn 2 (by decide);have:i=0\/i=1\/i=2:=by omega
  unfold asked;rcases this with rfl | rfl | rfl <;> omega
theorem dI.settled{L:Nat->List af}{f:Nat->Int}(h:dI L f){i:Nat}(hi:i<3){price:Int}{F:List (Int×Int)}(hF:vx (L i) price F)(hg:Pu.Good (iw f i price (L i) F))(hc:eO (iw f i price (L i) F) 6=eO f 6)(hs:∀k,k<3->eP (iw f i price (L i) F) k 6=eP f k 6):dI (upd L i (iB F (L i))) (iw f i price (L i) F):=by
 refine⟨fun k hk=>?_,hg,fun j hj=>?_,by rw[hc];exact h.cash,fun k hk=>by rw[hs k hk];exact h.stock k hk⟩
 .by_cases e:k=i
  .subst e;rw[upd_same];exact Vi (h.aO k hk) fun x hx=>(hF.le x hx).1
  .rw[upd_ne _ _ e];exact h.aO k hk
 .rw[Nl L hi,Aa,Aa]
  unfold iB iw;rw[VZ (GA i j) (fun x hx=>(hF.le x hx).2),h.held j hj];have:bf (fun x=>iN i price j x (got x.id F)) (L i) = - bf (fun x=>mM i j x (got x.id F)) (L i):=by
   have e:bf (fun x=>iN i price j x (got x.id F)+mM i j x (got x.id F)) (L i)=0:=Cz fun x _=>by rw[ah2 hi hj];omega
   rw[Nj]at e;omega
  rw[this];omega
end Fs
theorem s7{α:Type}(f:Nat->α)(i:Nat)(x y:α):upd (upd f i x) i y=upd f i y:=by funext j;unfold upd;split <;> rfl
theorem pB{α:Type}(f:Nat->α)(i:Nat):upd f i (f i)=f:=by
 funext j;unfold upd;split
 .rename_i h;rw[h]
 .rfl
namespace Bk
def Kk(l:List Cv.af)(ai:Int):List Int:=(l.filter fun x=>x.ai==ai).map (·.id)
end Bk
namespace Fl
def gO(a:Ask):Cv.af:=⟨a.id,a.c,a.sd,a.pr,a.q⟩
def gY(a:Ask)(k:Int):Int:=if ah.code a.k a.c a.sq a.it a.sd a.pr a.q a.id=0/\a.k≠k then 4 else ah.code a.k a.c a.sq a.it a.sd a.pr a.q a.id
def eN(L:Nat->List Cv.af)(pf:Nat->Int)(a:Ask):Nat :=
 if gY a 111=0 then (if Cv.ok (gO a)=true then (if Cv.has (L a.it.toNat) a.id=true then 6 else if 60<=(L a.it.toNat).length then 7 else Pu.kJ pf a.it (gO a)) else 1) else (gY a 111-1).toNat
def kK(L:Nat->List Cv.af)(pf:Nat->Int)(a:Ask):Nat->List Cv.af:=if eN L pf a=0 then upd L a.it.toNat (L a.it.toNat++[gO a]) else L
def kL(L:Nat->List Cv.af)(pf:Nat->Int)(a:Ask):Nat->Int:=if eN L pf a=0 then Pu.lw pf a.it (gO a) else pf
theorem Tf{a:Ask}{k:Int}(h:gY a k=0):a.k=k/\ah.kF a.k a.c a.sq a.it a.sd a.pr a.q a.id=true/\ah.ot a.k a.it a.sd a.pr a.q a.id=true:=by
 unfold gY at h;split at h
 .cases h
 .rename_i hn
  have hc:ah.code a.k a.c a.sq a.it a.sd a.pr a.q a.id=0:=by omega
  refine⟨Decidable.byContradiction fun e=>hn ⟨hc,e⟩,?_,?_⟩
  .unfold ah.code at hc
   split at hc
   .split at hc
    .assumption
    .cases hc
   .cases hc
  .unfold ah.code at hc
   split at hc
   .split at hc
    .split at hc
     .assumption
     .cases hc
    .cases hc
   .cases hc
theorem Kl{a:Ask}{k:Int}(h:gY a k≠0):2<=gY a k:=by
 unfold gY at *;split
 .decide
 .rename_i hn
  rw[if_neg hn]at h;have:ah.code a.k a.c a.sq a.it a.sd a.pr a.q a.id=0\/2<=ah.code a.k a.c a.sq a.it a.sd a.pr a.q a.id:=by unfold ah.code;split <;> (try split) <;> (try split) <;> omega
  omega
theorem Tg{a:Ask}(h:gY a 111=0):0<=a.it/\a.it<=2:=by obtain⟨h1,h2,_⟩:=Tf h;rw[h1]at h2;simp[ah.kF,ah.aK]at h2;omega
def mine(L:Nat->List Cv.af)(a:Ask):Bool:=Cv.has (L a.it.toNat) a.id&&((Cv.nth (L a.it.toNat) (Bk.pos (L a.it.toNat) a.id)).ai==a.c)
def gA(L:Nat->List Cv.af)(a:Ask):Cv.af:=if gY a 99=0/\mine L a=true then Cv.nth (L a.it.toNat) (Bk.pos (L a.it.toNat) a.id) else Cv.z
def dP(L:Nat->List Cv.af)(pf:Nat->Int)(a:Ask):Nat :=
 if gY a 99=0 then (if mine L a=true then Pu.iM pf a.it (gA L a) else 5) else (gY a 99-1).toNat
def eZ(L:Nat->List Cv.af)(a:Ask):Nat->List Cv.af:=if gY a 99=0/\mine L a=true then upd L a.it.toNat (Bk.del (L a.it.toNat) (Bk.pos (L a.it.toNat) a.id)) else L
def kM(L:Nat->List Cv.af)(pf:Nat->Int)(a:Ask):Nat->Int:=if gY a 99=0/\mine L a=true then Pu.gp pf a.it (gA L a) else pf
theorem B3{a:Ask}(h:gY a 99=0):0<=a.it/\a.it<=2:=by obtain⟨h1,h2,_⟩:=Tf h;rw[h1]at h2;simp[ah.kF,ah.aK]at h2;omega
def afs(i:Nat)(s:List Cv.af×(Nat->Int)×List Cv.af)(id:Int):List Cv.af×(Nat->Int)×List Cv.af :=
 (Bk.eZ s.1 id,Pu.gp s.2.1 i (Bk.gA s.1 id),s.2.2++[Bk.gA s.1 id])
def Km(i:Nat)(l:List Cv.af)(f:Nat->Int)(o:List Cv.af)(ids:List Int):List Cv.af×(Nat->Int)×List Cv.af:=ids.foldl (afs i) (l,f,o)
def oD(c:Int)(L:Nat->List Cv.af)(f:Nat->Int):Nat->(Nat->List Cv.af)×(Nat->Int)×List Cv.af
 | 0=>(L,f,[])
 | i+1 =>
  (upd (oD c L f i).1 i (Km i ((oD c L f i).1 i) (oD c L f i).2.1 (oD c L f i).2.2 (Bk.Kk ((oD c L f i).1 i) c)).1,
   (Km i ((oD c L f i).1 i) (oD c L f i).2.1 (oD c L f i).2.2 (Bk.Kk ((oD c L f i).1 i) c)).2.1,
   (Km i ((oD c L f i).1 i) (oD c L f i).2.1 (oD c L f i).2.2 (Bk.Kk ((oD c L f i).1 i) c)).2.2)
def jQ(cash stock:Int):Nat->Nat->Int
 | 0=>fun _=>0
 | k+1=>Pu.jB (jQ cash stock k) ⟨k,cash,stock,stock,stock⟩
theorem Kn(cash stock:Int):∀k,Pu.Good (jQ cash stock k)
 | 0=>Pu.aft
 | k+1=>Pu.afu (Kn cash stock k) _
def vw(ref:Int)(k:Nat):Int:=if k%2=0 then ref else 0
open Cv Bk Ra Pu Fu Fs
theorem _root_.Go.Proofs.YtjolccidheflpaaGreatDoor.Fs.dI.place{L:Nat->List af}{f:Nat->Int}(h:dI L f)(a:Ask):dI (kK L f a) (kL L f a):=by
 unfold kK kL;by_cases hc:eN L f a=0
 .rw[if_pos hc,if_pos hc]
  unfold eN at hc;split at hc
  .rename_i hk
   have hit:=Tg hk;split at hc
   .rename_i hok
    split at hc
    .cases hc
    .rename_i hn
     split at hc
     .cases hc
     .rename_i hl
      have hi:a.it.toNat<3:=by omega
      have he:((a.it.toNat:Nat):Int)=a.it:=by omega
      have hF:lw f a.it (gO a)=Pu.add f (hx a.it (gO a)) (mu (gO a)):=by unfold lw;rw[if_pos hc]
      have hs:=Ti f a.it (gO a) 6;refine⟨fun k hk=>?_,afv h.good _ _,?_,by rw[hs.1];exact h.cash,fun k hk=>by rw[hs.2 k hk];exact h.stock k hk⟩
      .by_cases e:k=a.it.toNat
       .subst e;rw[upd_same]
        exact adL (h.aO _ hi) hok (by simpa [gO] using hn) (by omega)
       .rw[upd_ne _ _ e];exact h.aO k hk
      .have:=afw h.held hi (gO a)
       rw[he,<- hF]at this;exact this
   .cases hc
  .rename_i hk
   have:=Kl hk
   omega
 .rw[if_neg hc,if_neg hc];exact h
theorem Tj{L:Nat->List af}{f:Nat->Int}(h:dI L f){i:Nat}(hi:i<3){x:af}(hx':x∈L i):iM f i x=0:=by
 have:=afx h.held (fun j hj=>(h.aO j hj).oks) hi hx'
 unfold iM;rw[if_pos (Ko hi ((h.aO i hi).oks x hx')),if_neg (by omega)]
theorem _root_.Go.Proofs.YtjolccidheflpaaGreatDoor.Fs.dI.gone{L:Nat->List af}{f:Nat->Int}(h:dI L f){i:Nat}(hi:i<3){k:Nat}(hk:k<(L i).length):dI (upd L i (del (L i) k)) (gp f i (nth (L i) k)):=by
 have hc:=Tj h hi (Cv.oo hk);have hF:gp f i (nth (L i) k)=Pu.add f (hx i (nth (L i) k)) (-(mu (nth (L i) k))):=by unfold gp;rw[if_pos hc]
 have hs:=Kp f i (nth (L i) k) 6;refine⟨fun m hm=>?_,Tk h.good _ _,?_,by rw[hs.1];exact h.cash,fun m hm=>by rw[hs.2 m hm];exact h.stock m hm⟩
 .by_cases e:m=i
  .subst e;rw[upd_same];exact adK (h.aO _ hi) hk
  .rw[upd_ne _ _ e];exact h.aO m hm
 .rw[hF];exact afy h.held hi hk
theorem Tn{L:Nat->List af}{f:Nat->Int}(h:dI L f){a:Ask}(hk:gY a 99=0)(hm:mine L a=true):dP L f a=0/\pos (L a.it.toNat) a.id<(L a.it.toNat).length/\a.it.toNat<3:=by
 have hit:=B3 hk;have hi:a.it.toNat<3:=by omega
 have he:((a.it.toNat:Nat):Int)=a.it:=by omega
 have hh:has (L a.it.toNat) a.id=true:=by unfold mine at hm;simp only[Bool.and_eq_true]at hm;exact hm.1
 have hp:=sW.1 hh
 have:=Tj h hi (Cv.oo hp)
 rw[he]at this;refine⟨?_,hp,hi⟩;unfold dP gA;rw[if_pos hk,if_pos hm,if_pos ⟨hk,hm⟩];exact this
theorem _root_.Go.Proofs.YtjolccidheflpaaGreatDoor.Fs.dI.cancel{L:Nat->List af}{f:Nat->Int}(h:dI L f)(a:Ask):dI (eZ L a) (kM L f a):=by
 unfold eZ kM;by_cases hc:gY a 99=0/\mine L a=true
 .rw[if_pos hc,if_pos hc]
  obtain⟨_,hp,hi⟩:=Tn h hc.1 hc.2;have he:((a.it.toNat:Nat):Int)=a.it:=by have:=B3 hc.1;omega
  have:=h.gone hi hp
  rw[he]at this;have hx':gA L a=nth (L a.it.toNat) (pos (L a.it.toNat) a.id):=by unfold gA;rw[if_pos hc]
  rw[hx'];exact this
 .rw[if_neg hc,if_neg hc];exact h
end Fl
namespace Fl
open Cv Bk Ra Pu Fu Fs
def gq(c:Int)(l:List af)(k:Nat):List af:=(l.take k).filter (fun x=>!(x.ai==c))++l.drop k
def kN(c:Int)(l:List af)(k:Nat):List af:=(l.take k).filter (fun x=>x.ai==c)
def zH(i:Nat)(f:Nat->Int)(xs:List af):Nat->Int:=xs.foldl (fun f x=>gp f i x) f
theorem xB{l:List af}{k:Nat}(h:k<l.length):l.take (k+1)=l.take k++[nth l k]:=by rw[List.take_succ_eq_append_getElem h,vg h]
theorem drop_cons{l:List af}{k:Nat}(h:k<l.length):l.drop k=nth l k::l.drop (k+1):=by rw[vg h];exact(List.getElem_cons_drop h).symm
theorem Tp(c:Int)(l:List af):gq c l 0=l:=by simp[gq]
theorem Tq(c:Int){l:List af}{k:Nat}(h:l.length<=k):gq c l k=l.filter (fun x=>!(x.ai==c)):=by unfold gq;rw[List.take_of_length_le h,List.drop_of_length_le h,aNq]
theorem Tt(c:Int){l:List af}{k:Nat}(h:l.length<=k):kN c l k=l.filter (fun x=>x.ai==c):=by unfold kN;rw[List.take_of_length_le h]
theorem keep_other{c:Int}{l:List af}{k:Nat}(h:k<l.length)(hc:(nth l k).ai≠c):gq c l (k+1)=gq c l k/\kN c l (k+1)=kN c l k:=by
 have hb:((nth l k).ai==c)=false:=by simpa using hc
 constructor
 .unfold gq
  rw[xB h,List.filter_append,drop_cons h,List.filter_cons,hb];simp
 .unfold kN
  rw[xB h,List.filter_append,List.filter_cons,hb];simp
theorem Kq{c:Int}{l:List af}(ho:eL l){k:Nat}(h:k<l.length)(hc:(nth l k).ai=c):
  Bk.eZ (gq c l k) (nth l k).id=gq c l (k+1)/\kN c l (k+1)=kN c l k++[nth l k]/\nth (gq c l k) (pos (gq c l k) (nth l k).id)=nth l k/\pos (gq c l k) (nth l k).id<(gq c l k).length:=by
 have hb:((nth l k).ai==c)=true:=by simpa using hc
 obtain⟨ha,_⟩:=Tv ho h;have hno:has ((l.take k).filter (fun x=>!(x.ai==c))) (nth l k).id=false:=by
  cases hh:has ((l.take k).filter (fun x=>!(x.ai==c))) (nth l k).id with
  | false=>rfl
  | true =>
   unfold has at hh;rw[List.any_eq_true]at hh;obtain⟨x,hx,he⟩:=hh;exact absurd (by simpa using he) (ha x (List.mem_filter.1 hx).1)
 have hk:gq c l k=(l.take k).filter (fun x=>!(x.ai==c))++nth l k::l.drop (k+1):=by unfold gq;rw[drop_cons h]
 have hk1:gq c l (k+1)=(l.take k).filter (fun x=>!(x.ai==c))++l.drop (k+1):=by unfold gq;rw[xB h,List.filter_append,List.filter_cons,hb];simp
 have hout:kN c l (k+1)=kN c l k++[nth l k]:=by unfold kN;rw[xB h,List.filter_append,List.filter_cons,hb];simp
 rw[hk,hk1];generalize (l.take k).filter (fun x=>!(x.ai==c))=A at *;generalize l.drop (k+1)=B at *;generalize nth l k=x at *;have hp:pos (A++x::B) x.id=A.length:=by unfold pos;have h0:A.findIdx (fun y=>y.id==x.id)=A.length:=RX.1 hno;rw[List.findIdx_append,h0,if_neg (by omega)];simp[List.findIdx_cons]
 have hh:has (A++x::B) x.id=true:=by unfold has;simp
 have hc0:Bk.dP (A++x::B) x.id=0:=by unfold Bk.dP;rw[if_pos hh]
 refine⟨?_,hout,?_,by rw[hp];simp⟩
 .unfold Bk.eZ del
  rw[if_pos hc0,hp];simp
 .rw[hp];unfold nth;simp
theorem drop_one{L:Nat->List af}{f:Nat->Int}{i:Nat}(hi:i<3){l:List af}{c:Int}{k:Nat}(H:dI (upd L i (gq c l k)) f)(ho:eL l)(hk:k<l.length)(hc:(nth l k).ai=c):dI (upd L i (gq c l (k+1))) (gp f i (nth l k)):=by
 obtain⟨h1,_,h3,h4⟩:=Kq ho hk hc;have hh:has (gq c l k) (nth l k).id=true:=sW.2 h4;have hc0:Bk.dP (gq c l k) (nth l k).id=0:=by unfold Bk.dP;rw[if_pos hh]
 have e:Bk.eZ (gq c l k) (nth l k).id=del (gq c l k) (pos (gq c l k) (nth l k).id):=by unfold Bk.eZ;rw[if_pos hc0]
 have:=H.gone hi (k:=pos (gq c l k) (nth l k).id) (by rw[upd_same];exact h4)
 rw[upd_same,h3,s7,<- e,h1]at this;exact this
def kO(c:Int)(L:Nat->List af):Nat->Nat->List af
 | 0=>L
 | i+1=>upd (kO c L i) i ((L i).filter (fun x=>!(x.ai==c)))
def pC(c:Int)(L:Nat->List af)(f:Nat->Int):Nat->Nat->Int
 | 0=>f
 | i+1=>zH i (pC c L f i) ((L i).filter (fun x=>x.ai==c))
def mF(c:Int)(L:Nat->List af):Nat->List af
 | 0=>[]
 | i+1=>mF c L i++(L i).filter (fun x=>x.ai==c)
theorem Kr(c:Int)(L:Nat->List af):∀i j,i<=j->kO c L i j=L j
 | 0,_,_=>rfl
 | i+1,j,h=>by
  show upd (kO c L i) i _ j=L j;rw[upd_ne _ _ (by omega),Kr c L i j (by omega)]
theorem FF(c:Int)(L:Nat->List af)(h:∀i,i<3->(L i).length<=60):∀i,i<=3->(mF c L i).length<=60*i
 | 0,_=>E _
 | i+1,hi=>by
  have ih:=FF c L h i (by omega);have h1:=h i (by omega);have h2:=List.length_filter_le (fun x:af=>x.ai==c) (L i);show (mF c L i++_).length<=_;rw[lAq];omega
end Fl
namespace Fl
open Cv Bk Ra Pu Fu Fs
end Fl
end Go.Proofs.YtjolccidheflpaaGreatDoor
