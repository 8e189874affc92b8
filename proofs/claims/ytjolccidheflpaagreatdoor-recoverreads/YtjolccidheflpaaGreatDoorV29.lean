/- bestFirst by its contract: the prices of the levels, the best one first. -/
import Derived.Test.YtjolccidheflpaaGreatDoorV21
import Derived.Test.YtjolccidheflpaaGreatDoorV26
import Derived.Test.YtjolccidheflpaaGreatDoorV28
import Derived.Maps.OwnSet
import Derived.Test.YtjolccidheflpaaGreatDoorV27
import Derived.Test.YtjolccidheflpaaGreatDoorV09
import Derived.Test.YtjolccidheflpaaGreatDoorV11
import Derived.Test.YtjolccidheflpaaGreatDoorV00
namespace Go.Proofs.YtjolccidheflpaaGreatDoor
set_option maxHeartbeats 8000000
open Go.RowKit Go.Maps Go.Shelf
set_option maxRecDepth 100000
theorem ag2 (m:Nat):AnyZI.SortsIn Tryz.prog VU Fence.wide m :=
 ⟨fun blk off cap ss W hH hblk hsz=>callsIn_wide.2 (slices_Sort_int blk off cap ss W hH hblk hsz),fun p cap W=>callsIn_wide.2 (slices_Sort_int_none p cap W)⟩
theorem VW (nU:Option Nat) (W:World):Calls Tryz.prog 304 #[.map nU] W fun e w'=>e=.returned (.func (.func 313) #[] #[.pointer (some ⟨W.heap.size,0,none⟩)])∧w'=W.alloc (.cells #[.map nU] 374) :=
 (callsIn_wide (n:=5)).1 (AnyZI.keys_in VX Fence.wide 5 trivial rfl nU W)
theorem VY (b nn:Nat) (D0:DataW Value) (w:World) (hown:w.ownsMap Tryz.prog 3 wA b nn D0) (hnn:nn<=1000) :
  Calls Tryz.prog 303 #[.func (.func 313) #[] #[.pointer (some ⟨w.heap.size,0,none⟩)]] (w.alloc (.cells #[.map (some b)] 374)) fun e w'=>∃ (v:Value) (ss:List Int),e=.returned v∧ss.Perm (intKeys D0) ∧
   w'.ownsRow (w.alloc (.cells #[.map (some b)] 374)).heap.size 3 1 v ss.length ((ss.mergeSort (fun x y=>decide (x<=y))).map encZ)∧(v=.slice none 0 0↔ss=[])∧Below (w.alloc (.cells #[.map (some b)] 374)).heap.size (w.alloc (.cells #[.map (some b)] 374)) w':=by
 have hseq:SeqGives Fence.wide 2 Tryz.prog 313 #[.pointer (some ⟨w.heap.size,0,none⟩)] encZ (fun ss=>ss.Perm (intKeys D0)) (Maps.size D0) (w.alloc (.cells #[.map (some b)] 374)) :=
  AnyZI.keys_gives (ρ:=VZ) { VX with } Fence.wide _ trivial rfl (by omega) w.heap.size b nn D0 _ (by simp) (by simp) (hown.alloc _)
 have hsz:=hown.size_le;have cS:=AnyZI.sorted_in ag3 Fence.wide 5 trivial trivial trivial trivial rfl (by omega) (ag2 _) (enters_of Tryz.func312 (by kernel_rfl) rfl) 313 #[.pointer (some ⟨w.heap.size,0,none⟩)] trivial (enters_of Tryz.func313 (by kernel_rfl) rfl) _ _ (by unfold maxLen;omega) (by omega) _ hseq;change CallsIn _ _ Tryz.prog 303 _ _ _ at cS;exact(callsIn_wide (n:=5)).1 cS
def V0 (w:World) (v:Value) (ps:List Int):Prop :=
 (ps=[]∧v=.slice none 0 0)∨∃ b cap,v=.slice (some ⟨b,0,none⟩) ps.length cap∧∀ i,i<ps.length->w.cell? ⟨b,i,none⟩=some (.int .i64 (ps.getD i 0))
theorem ag4 {w:World} {base n:Nat} {v:Value} {ps:List Int} (hn:n=ps.length) (h:w.ownsRow base 3 1 v n (ps.map encZ)):V0 w v ps:=by
 subst hn;rcases h.2 with ⟨h1,h2⟩ | ⟨g,cap,cur,h1,_⟩
 ·exact .inl ⟨List.eq_nil_of_length_eq_zero h2,h1⟩
 ·refine .inr ⟨g,cap,h1,fun i hi=>?_⟩
  have:=World.ownsRow.cells h (g:=g) (by rw[h1];rfl) i (.int .i64 (ps.getD i 0)) (by simp[hi,encZ])
  have hp:(⟨g,0,none⟩:Addr).add i=⟨g,i,none⟩:=by unfold Addr.add;split <;> simp_all
  rwa [hp]at this
theorem V1 {w:World} {b n:Nat} {D:DataW Value} (hown:w.ownsMap Tryz.prog 3 wA b n D) {ps ss:List Int} (hp:ps.Pairwise (· < ·)) (hm:∀ p,p∈ps↔Maps.has D (.int .i64 p)=true) (hs:ss.Perm (intKeys D)) :
  ss.mergeSort (fun x y=>decide (x<=y))=ps∧ss.length=ps.length∧ps.length<=n:=by
 have hle:=hown.size_le;obtain⟨es,hD,hpw,_⟩:=hown.entries B6;obtain⟨es',V3,ag5⟩:=hown.keysOf;obtain rfl:es=es':=by rw[hD]at V3;simpa using V3
 subst hD;have hperm:=perm_intKeys hpw (fun p hp=>by obtain⟨v,hv⟩:=ag5 p hp;obtain⟨x,_,hx,_⟩:=Maps.keyOf_i64 Tryz.underlying3 hv;exact⟨x,hx⟩) (hp.imp fun h e=>by omega) hm;have h2:=hs.trans hperm.symm;refine⟨?_,h2.length_eq,?_⟩
 rotate_left
 ·rw[<- h2.length_eq,hs.length_eq]
  simpa [intKeys,Maps.size] using hle
 have h3:=mergeSort_of_perm_i h2;rw[show ss.mergeSort (fun x y=>decide (x<=y))=ps.mergeSort leI from h3];exact List.mergeSort_of_pairwise (hp.imp fun h=>by simp[leI];omega)
theorem ag6 (sd:Int) (B base n:Nat) (f:Int->List Cv.ag) (ps:List Int) (w:World) (hL:Hid (jI w base B n f)) (hn:n<=1000) (hp:Hid (ps.Pairwise (· < ·))) (hm:Hid (∀ p,p∈ps↔f p≠[])) :
  Calls Tryz.prog 288 #[.map (some B),.int .i64 sd] w fun e w'=>∃ v,e=.returned v∧V0 w' v (if sd=0 then ps.reverse else ps)∧Below w.heap.size w w':=by
 obtain⟨D,g,lY⟩:=hL.out;have HO:=hDq lY.own;have HM:Hid (∀ p,p∈ps↔Maps.has D (.int .i64 p)=true):=fun p=>by
  rw[hm.out p,lY.B_ p];simp
 clear lY;by_cases hs:sd=0
 ·subst hs
  rw[if_pos rfl];go_enter Tryz.func288,Tryz.ntmps288
  go_wp2_with fail
  refine(VW (some B) _).mono ?_;rintro e w1 ⟨rfl,rfl⟩;simp only[]
  go_wp2_with fail
  refine(VY B n D w HO.out hn).mono ?_;rintro e w2 ⟨v,ss,rfl,mX,hrow,hnil,hb⟩;obtain⟨e1,e2,e3⟩:=V1 HO.out hp.out HM.out mX;rw[e1,e2]at hrow;have HB2:Hid (Below w.heap.size w w2):=((bRq _ w).alloc (lRq _) _).trans (hb.mono (by simp));have hbase:w.heap.size<=(w.alloc (.cells #[.map (some B)] 374)).heap.size:=by simp
  have s5:Hid (ps.length<=9223372036854775807):=lTq e3 (by omega);clear hnil hb e1 e2 e3 mX;rcases hrow.2 with ⟨rfl,h0⟩ | ⟨r,cap,cur,rfl,hr1,hr2,_⟩
  ·have HP:Hid (ps=[]):=List.eq_nil_of_length_eq_zero h0
   clear hrow h0;simp only[]
   go_wp2_with fail
   refine(slices_Reverse_int_empty none 0 w2).mono ?_;rintro e w3 ⟨rfl,rfl⟩;simp only[];go_wp2;go_ret;exact⟨_,rfl,.inl ⟨by rw[HP.out];rfl,rfl⟩,HB2.out⟩
  ·have HH:Hid (Sort.Holds (Value.int .i64) w2 r 0 ps.toArray):=V4 (zs:=ps) hrow
   have HR:Hid (w.heap.size<=r):=lTq hbase hr1;clear hrow hr1 hr2 hbase;simp only[]
   go_wp2_with fail
   refine(slices_Reverse_int r 0 cap ps w2 HH.out s5.out).mono ?_;rintro e w3 ⟨rfl,q,rfl⟩;simp only[];go_wp2;go_ret;refine⟨_,rfl,.inr ⟨r,cap,by simp,fun i hi=>?_⟩,HB2.out.trans (Np (n:=q) HR.out)⟩
   have:=(Sort.holds_putRow (Value.int .i64) w2 r 0 ps.toArray ps.reverse.toArray HH.out (by simp) i (by simpa using hi)).1
   rw[Nat.zero_add]at this;refine Eq.trans this ?_;simp at hi;simp[hi]
 ·rw[if_neg hs]
  go_enter Tryz.func288,Tryz.ntmps288
  go_wp2_with fail
  refine(VW (some B) _).mono ?_;rintro e w1 ⟨rfl,rfl⟩;simp only[]
  go_wp2_with fail
  refine(VY B n D w HO.out hn).mono ?_;rintro e w2 ⟨v,ss,rfl,mX,hrow,hnil,hb⟩;obtain⟨e1,e2,e3⟩:=V1 HO.out hp.out HM.out mX;rw[e1,e2]at hrow;have HP:=hDq (ag4 rfl hrow);have HB2:Hid (Below w.heap.size w w2):=((bRq _ w).alloc (lRq _) _).trans (hb.mono (by simp));clear hnil hb e1 e2 e3 mX hrow;simp only[];go_wp2;go_ret;exact⟨_,rfl,HP.out,HB2.out⟩
end Go.Proofs.YtjolccidheflpaaGreatDoor
namespace Go.Proofs.YtjolccidheflpaaGreatDoor
set_option maxHeartbeats 8000000
open Go.RowKit Go.Maps
set_option maxRecDepth 100000
namespace Ra
open Cv
def y9 (sh:List ag->List ag) (f:Int->List ag):List Int->Int->List ag
 | [],_=>[]
 | p::ps,v=>arr sh (f p) v++y9 sh f ps (v-min (br (f p)) v)
def mY (sh:List ag->List ag) (f:Int->List ag) (ps:List Int) (v:Int):List (Int×Int):=fill (y9 sh f ps v) v
theorem ahN {sh:List ag->List ag} (hs:rD sh) {f:Int->List ag} {p:Int} (h:Pos (f p)) (ps:List Int) (v:Int) (hv:0<=v) :
  mY sh f (p::ps) v=fill (arr sh (f p) v) v++mY sh f ps (v-min (br (f p)) v):=by
 unfold mY;rw[y9,GV _ _ _ (Wd hs h v) hv,Nw hs]
theorem ahO (sh:List ag->List ag) (f:Int->List ag) (ps:List Int):mY sh f ps 0=[]:=Cb _
theorem Wy (sh:List ag->List ag) (l:List ag) (sd:Int) (f:Int->List ag):∀ (ps:List Int) (v:Int),(∀ p∈ps,f p=lv l sd p)->y9 sh f ps v=row sh l sd ps v
 | [],_,_=>rfl
 | p::ps,v,h=>by
  rw[y9,row,h p mSq,Wy sh l sd f ps _ (fun q hq=>h q (mOq _ hq))]
def rest (sh:List ag->List ag) (f:Int->List ag) (X:List ag) (ps:List Int) (v:Int):List (Int×Int):=fill X v++mY sh f ps (v-min (br X) v)
theorem Wz (sh:List ag->List ag) (f:Int->List ag) (X:List ag) (hX:Pos X) (ps:List Int):rest sh f X ps 0=[]:=by
 have h:=tF X hX;unfold rest;rw[Cb,show (0:Int)-min (br X) 0=0 by omega,ahO];rfl
theorem FY (sh:List ag->List ag) (f:Int->List ag) (ps:List Int) (v:Int) (hv:0<=v):rest sh f [] ps v=mY sh f ps v:=by
 unfold rest;rw[show v-min (br []) v=v by simp[br];omega];rfl
theorem WA (sh:List ag->List ag) (f:Int->List ag) (x:ag) (X:List ag) (hX:Pos (x::X)) (ps:List Int) (v:Int) (hv:0<v):rest sh f (x::X) ps v=(x.id,min x.q v)::rest sh f X ps (v-min x.q v):=by
 have hx:=hX x mSq;have h:=tF X (fun y hy=>hX y (mOq _ hy));unfold rest;rw[fill,if_neg (by omega),List.cons_append];rw[show v-min (br (x::X)) v=v-min x.q v-min (br X) (v-min x.q v) by simp only[br];omega]
theorem WB {l:List ag} {k:Nat} (h:k<l.length):l.drop k=nth l k::l.drop (k+1):=by
 unfold nth;rw[List.drop_eq_getElem_cons h,gE,List.getElem?_eq_getElem h];rfl
end Ra
def d7 (F:List (Int×Int)):List Value:=F.flatMap fun f=>[.int .i64 f.1,.int .i64 f.2]
theorem WC (F:List (Int×Int)) (f:Int×Int):d7 (F++[f])=d7 F++[.int .i64 f.1,.int .i64 f.2]:=by simp[d7]
theorem Wq:∃ i z,Tryz.prog.info? 300=some i∧i.zero=some z∧i.size=2∧i.bytes=16∧z.cells.size=2:=⟨_,_,rfl,rfl,rfl,rfl,rfl⟩
theorem WE (w:World) (x y:Value) (T:TypeId) (e:Nat) (he:e=w.heap.size) (j:Nat) (u:Value) (hj:[x,y][j]?=some u):(w.alloc (.cells #[x,y] T)).cell? ((⟨e,0,none⟩:Addr).add j)=some u:=by
 subst he;have hp:(⟨w.heap.size,0,none⟩:Addr).add j=⟨w.heap.size,j,none⟩:=by unfold Addr.add;split <;> simp_all
 rw[hp,World.cell?_alloc_new,<- hj];simp
theorem WG {w:World} {a b:Nat} {e e':TypeId} {s s':Nat} {v v':Value} {n n':Nat} {xs xs':List Value} (h:w.ownsRow a e s v n xs) (h':w.ownsRow b e' s' v' n' xs') (he:e≠e'):v.ownBlock=none∨v.ownBlock≠v'.ownBlock:=by
 rcases h.2 with ⟨h1,_⟩ | ⟨g,cap,cur,h1,_,h2,_⟩
 ·left;rw[h1];rfl
 ·right
  rcases h'.2 with ⟨k1,_⟩ | ⟨g',cap',cur',k1,_,k2,_⟩
  ·rw[h1,k1];simp[Value.ownBlock]
  ·rw[h1,k1]
   intro e2;have:g=g':=by simpa [Value.ownBlock] using e2
   rw[this,k2]at h2;simp at h2;exact he h2.2.symm
theorem xX {w:World} {base N cap r:Nat} {X:List Cv.ag} (h:w.ownsRow base 197 5 (.slice (some ⟨r,0,none⟩) N cap) N (flat X)):ew w r 0 X :=
 z6 fun j u hu=>by
  have:=World.ownsRow.cells h (g:=r) rfl j u hu
  have hp:(⟨r,0,none⟩:Addr).add j=⟨r,j,none⟩:=by unfold Addr.add;split <;> simp_all
  rwa [hp]at this
theorem WH {w:World} {base N:Nat} {v:Value} {X:List Cv.ag} (h:w.ownsRow base 197 5 v N (flat X)):X.length=N:=by
 have:=h.1
 rw[oJ]at this;omega
theorem ahP (a:Option Addr) (n c:Nat) (q:Int) (w:World):(Instr.field 406 (.agg #[.slice a n c,.int .i64 q]) 0).run Tryz.prog w=.ok (.slice a n c) w:=by kernel_rfl
theorem ahQ (a:Option Addr) (n c:Nat) (q:Int) (w:World):(Instr.field 406 (.agg #[.slice a n c,.int .i64 q]) 1).run Tryz.prog w=.ok (.int .i64 q) w:=by kernel_rfl
theorem aho (sd v s:Int) (B base n:Nat) (f:Int->List Cv.ag) (ps qs:List Int) (F:List (Int×Int)) (w:World) (hs:Hid (Ra.IsU s)) (hv0:0<=v) (hv1:v<=1000000) (hL:Hid (jI w base B n f)) (hn:n<=1000)
  (hp:Hid (ps.Pairwise (· < ·))) (hm:Hid (∀ p,p∈ps↔f p≠[])) (hok:Hid (∀ p,Cv.dM (f p))) (hlen:Hid (∀ p,(f p).length<=200)) (kN:Hid ((if sd=0 then ps.reverse else ps)=qs)) (hq:Hid (∀ p∈qs,f p≠[]∧1<=p∧p<=1000))
  (hF:Hid (Ra.mY (Ra.sh s) f qs v=F)) (WI:Hid (F.length<=1000)) (rH:Hid (qs.length<=1000)) :
  Calls Tryz.prog 260 #[.map (some B),.int .i64 sd,.int .i64 v,.int .u32 s] w fun e w'=>∃ v',e=.returned v'∧w'.ownsRow w.heap.size 300 2 v' F.length (d7 F)∧Below w.heap.size w w':=by
 obtain⟨i0,z0,hi,hz0,hz1,hz2,hz3⟩:=Wq;have Hi:=hDq hi;have eK:=hDq hz0;have eL:=hDq hz1;have eM:=hDq hz2;have nB:=hDq hz3;clear hi hz0 hz1 hz2 hz3;go_enter Tryz.func260,Tryz.ntmps260
 go_wp2_with fail
 refine(ag6 sd B base n f ps w hL hn hp hm).mono ?_;rintro e w1 ⟨vp,rfl,WJ,hb1⟩;rw[kN.out]at WJ;have HB1:=hDq hb1;have gL:=hDq (hL.out.later hb1);clear hb1 hL;rcases WJ with ⟨vg,rfl⟩ | ⟨bp,aov,rfl,hc⟩
 ·have LP:Hid (F=[]):=by show _=_;rw[<- hF.out,vg];rfl
  clear vg;simp only[];go_wp2;refine wp_loop_rounds 1 ?_;rw[rounds_succ];go_wp2;go_ret;exact⟨_,rfl,by rw[LP.out];exact World.ownsRow_nil _ _ _ _,HB1.out⟩
 ·obtain⟨m,HM⟩:∃ m,Hid (qs.length=m):=⟨_,rfl⟩
  rw[HM.out]at hc ⊢;have aow:m<=1000:=by rw[<- HM.out];exact rH.out
  have HC:=hDq hc;clear hc;simp only[];go_wp2
  go_loopw [9,10,22] (fun vf bk i wr=>∃ (k:Nat) (left:Int) (fF:List (Int×Int)),k<=m∧i=.int .i64 k∧bk=.int .i64 left∧0<=left∧left<=v∧fF++Ra.mY (Ra.sh s) f (qs.drop k) left=F∧wr.ownsRow w1.heap.size 300 2 vf fF.length (d7 fF)∧Below w1.heap.size w1 wr) (fun _ _ i _=>m-(intOf i).toNat)
  case atStart=>exact⟨0,v,[],Nat.zero_le _,rfl,rfl,hv0,Int.le_refl _,hF.out,World.ownsRow_nil _ _ _ _,bRq _ _⟩
  case round =>
   obtain⟨k,left,fF,hk,rfl,rfl,hl0,hl1,qZ,hown,hbw⟩:=hrel;have HO:=hDq hown;have HW:=hDq hbw;have tr:=hDq qZ;clear hown hbw qZ;by_cases hlt:k<m
   ·have aK:(k:Int)<m:=by omega
    obtain⟨p,hpq⟩:∃ p,qs.getD k 0=p:=⟨_,rfl⟩;have NN:k<qs.length:=by rw[HM.out];exact hlt
    have kM:qs[k]=p:=by rw[<- hpq];simp[NN]
    have tB:wr.cell? ⟨bp,k,none⟩=some (.int .i64 p):=by rw[<- hpq];exact cell_later HW.out (HC.out k hlt)
    have hmem:p∈qs:=by rw[<- kM];exact List.getElem_mem NN
    have WK:qs.drop k=p::qs.drop (k+1):=by rw[List.drop_eq_getElem_cons NN,kM]
    obtain⟨hne,hp1,hp2⟩:=hq.out p hmem;obtain⟨D,g,lY⟩:=gL.out.later HW.out;have hrow:=lY.row p;have hrun:=lY.look (p:=p) (by omega) (by omega);rcases (lY.row p).2 with ⟨_,e0⟩ | ⟨r,Ci,cur,DN,_⟩
    ·exact absurd (List.eq_nil_of_length_eq_zero e0) hne
    have hpos:Ra.Pos (f p):=fun x hx=>((Cv.fP (hok.out p x hx)).2.2.2.2).1;have WL:=NG (f p) (hok.out p);have ig:=hlen.out p;rw[DN]at hrow hrun;unfold rF at hrun;have G7:Hid (0<(f p).length):=Nat.pos_of_ne_zero fun e=>hne (List.eq_nil_of_length_eq_zero e);obtain⟨N,hN⟩:∃ N,(f p).length=N:=⟨_,rfl⟩;obtain⟨q,G8⟩:∃ q,Ra.br (f p)=q:=⟨_,rfl⟩;have WM:Hid (fF++Ra.rest (Ra.sh s) f (Ra.arr (Ra.sh s) (f p) left) (qs.drop (k+1)) left=F):=by
     have h1:=tr.out;rw[WK,Ra.ahN (Ra.yX s) hpos _ _ hl0]at h1;show _=_;unfold Ra.rest;rw[Ra.Nw (Ra.yX s)];exact h1
    have G7:Hid (0<N):=by rw[<- hN];exact G7.out
    rw[hN]at hrow hrun ig WL;rw[G8]at hrun WL;have h9:=hDq hrow;have HN:=hDq hN;have WN:=hDq hpos;have HQ:=hDq G8;clear hrow hN hpos G8 lY hne WK kM hpq DN tr;have f0:=@ahP;have f1:=@ahQ;by_cases rH:left<q
    ·have WO:(N:Int)-1=((N-1:Nat):Int):=by have:=G7.out;omega
     go_wp2_with (at_lookup;refine NF rfl _ _ 375 rfl _ _ _ rfl rfl hrun ?_)
     refine(ahc r 0 Ci N (N-1) s (f p) wr hs HN (by omega) WO (xX h9.out)).mono ?_;rintro e w2 ⟨v2,rfl,hrow2,hb2⟩;rcases hrow2.2 with ⟨_,e0⟩ | ⟨rx,y_,kL,rfl,_⟩
     ·exact absurd e0 (by have:=G7.out;omega)
     obtain⟨X,rI⟩:∃ X,Hid (Ra.sh s (f p)=X):=⟨_,rfl⟩;have Cj:Hid (fF++Ra.rest (Ra.sh s) f (X.drop 0) (qs.drop (k+1)) left=F):=by
      have h1:=WM.out;unfold Ra.arr at h1;rw[if_pos (by rw[HQ.out];exact rH),rI.out]at h1;exact h1
     have HX:Hid (w2.ownsRow 0 197 5 (.slice (some ⟨rx,0,none⟩) N y_) N (flat X)):=by rw[<- rI.out];exact gw hrow2 (Nat.zero_le _)
     have Ck:Hid (Ra.Pos X):=fun x hx=>WN.out x ((Ra.yX s (f p)).mem_iff.1 (by rw[rI.out];exact hx));have HW2:Hid (Below w1.heap.size w1 w2):=HW.out.trans (hb2.mono HW.out.size);have l4:Hid (w2.ownsRow w1.heap.size 300 2 u9 fF.length (d7 fF)):=HO.out.kept (row:=none) ⟨hb2.os,hb2.tape,hb2.output,hb2.size,fun i hi _=>hb2.block i hi⟩ (by
      cases e:u9.ownBlock with
      | none=>exact .inl rfl
      | some _=>exact .inr (by simp))
     clear hrow2 hb2 WO;simp only[];clear tB h9 HO HW hrun f0 f1;go_wp2
     go_loopw [9,10,41] (fun vf bk i wx=>∃ (j:Nat) (gy:Int) (F1:List (Int×Int)),j<=N∧i=.int .i64 j∧bk=.int .i64 gy∧0<=gy∧gy<=left∧F1++Ra.rest (Ra.sh s) f (X.drop j) (qs.drop (k+1)) gy=F∧wx.ownsRow w1.heap.size 300 2 vf F1.length (d7 F1)∧wx.ownsRow 0 197 5 (.slice (some ⟨rx,0,none⟩) N y_) N (flat X)∧Below w1.heap.size w1 wx) (fun _ _ i _=>N-(intOf i).toNat)
     case atStart=>exact⟨0,left,fF,Nat.zero_le _,rfl,rfl,hl0,Int.le_refl _,Cj.out,l4.out,HX.out,HW2.out⟩
     case round =>
      obtain⟨j,gy,F1,hj,rfl,rfl,wb,DX,Cm,hown,wF,hbw⟩:=hrel;have HO:=hDq hown;have dL:=hDq wF;have HW:=hDq hbw;have mZ:=hDq Cm;have lx:=hDq (WH wF);clear hown wF hbw Cm l4 HX HW2 Cj;by_cases hjn:j<N
      ·have a_:(j:Int)<N:=by omega
       obtain⟨c0,c1,c2,c3,c4⟩:=(xX dL.out) j (by rw[lx.out];exact hjn);have HD:=hDq (Ra.WB (l:=X) (k:=j) (by rw[lx.out];exact hjn));have sP:=Ck.out _ (Cv.nA (l:=X) (i:=j) (by rw[lx.out];exact hjn));have iA:Hid (Ra.Pos (X.drop j)):=fun y hy=>Ck.out y (List.mem_of_mem_drop hy);generalize Cv.nth X j=x at *;rw[Nat.zero_add]at c0 c1 c2 c3 c4;by_cases h0:gy=0
       ·subst h0
        have hmin:min x.q 0=0:=by omega
        have HR:Hid (wr.ownsRow w.heap.size 300 2 u9 F.length (d7 F)):=by
         have h1:=mZ.out;rw[Ra.Wz _ _ _ iA.out,aNq]at h1;rw[<- h1];exact gw HO.out HB1.out.size
        have HB:Hid (Below w.heap.size w wr):=HB1.out.trans (HW.out.mono HB1.out.size);clear HO dL mZ HD iA;go_wp2;go_ret;exact⟨_,rfl,HR.out.alloc _,HB.out.alloc HB.out.size _⟩
       ·obtain⟨t,ht⟩:∃ t,min x.q gy=t:=⟨_,rfl⟩
        have ht1:1<=t:=by omega
        have pJ:t<=gy:=by omega
        have htb:(t==0)=false:=by simp;omega
        have bT:Hid ((F1++[(x.id,t)])++Ra.rest (Ra.sh s) f (X.drop (j+1)) (qs.drop (k+1)) (gy-t)=F):=by
         have h1:=mZ.out;rw[HD.out,Ra.WA _ _ _ _ (by have:=iA.out;rw[HD.out]at this;exact this) _ _ (by omega),ht]at h1;show _=_;rw[<- h1];simp
        have ij:Hid (F1.length+1<=1000):=by
         have h1:=WI.out;rw[<- bT.out]at h1;simp at h1;show _<=_;omega
        clear mZ HD iA
        go_wp2_with (at_builtin;refine wpList_append_own _ rfl _ _ 294 rfl w1.heap.size 300 i0 z0 2 16 Tryz.underlying294 Hi.out eK.out eL.out eM.out nB.out (by decide) _ _ _ rfl ((HO.out.alloc _).alloc _) ⟨wr.heap.size+1,0,none⟩ 1 1 [.int .i64 x.id,.int .i64 t] rfl rfl ?d1 ?d2 ?d3 ?d4 ?d5 ?_)
        case d1=>exact fun j u hj=>WE _ _ _ _ _ (by simp) j u hj
        case d2 => intro u hu
                   simp only[List.mem_cons,List.not_mem_nil,or_false]at hu;rcases hu with rfl | rfl <;> rfl
        case d3=>have:=ij.out;unfold maxLen;omega
        case d4=>have:=ij.out;omega
        case d5=>have:=HW.out.size;simp;omega
        intro v3 w3 hown' hgrow _;have rE:Hid (w3.ownsRow w1.heap.size 300 2 v3 (F1++[(x.id,t)]).length (d7 (F1++[(x.id,t)]))):=by
         show w3.ownsRow _ _ _ _ _ _;rw[WC,lAq];exact hown'
        have Cn:=HO.out.lt;have kq:Hid (w3.ownsRow 0 197 5 (.slice (some ⟨rx,0,none⟩) N y_) N (flat X)):=((dL.out.alloc _).alloc _).kept hgrow (WG dL.out HO.out (by decide));have HW3:Hid (Below w1.heap.size w1 w3):=((HW.out.alloc HW.out.size _).alloc (by have:=HW.out.size;simp;omega) _).grown hgrow (by have:=HW.out.size;simp;omega) (fun j hj=>(Cn j hj).1);clear hown' hgrow HO dL HW Cn c0 c1 c2 c3 c4;go_wp2;exact⟨⟨j+1,gy-t,F1++[(x.id,t)],by omega,by go_num,by go_num,by omega,by omega,bT.out,rE.out,kq.out,HW3.out⟩,by simp[intOf];omega⟩
      ·have a_:¬ (j:Int)<N:=by omega
       have bT:Hid (F1++Ra.mY (Ra.sh s) f (qs.drop (k+1)) gy=F):=by
        have h1:=mZ.out;rw[List.drop_of_length_le (by rw[lx.out];omega),Ra.FY _ _ _ _ wb]at h1;exact h1
       clear mZ dL;go_wp2;exact⟨⟨k+1,gy,F1,by omega,by go_num,rfl,wb,by omega,bT.out,HO.out,HW.out⟩,by simp[intOf];omega⟩
    ·obtain⟨X,rI⟩:∃ X,Hid (f p=X):=⟨_,rfl⟩
     obtain⟨rx,ahR⟩:∃ rx,r=rx:=⟨_,rfl⟩;obtain⟨y_,hcx⟩:∃ y_,Ci=y_:=⟨_,rfl⟩;subst ahR hcx;have Cj:Hid (fF++Ra.rest (Ra.sh s) f (X.drop 0) (qs.drop (k+1)) left=F):=by
      have h1:=WM.out;unfold Ra.arr at h1;rw[if_neg (by rw[HQ.out];exact rH),rI.out]at h1;exact h1
     have HX:Hid (wr.ownsRow 0 197 5 (.slice (some ⟨r,0,none⟩) N Ci) N (flat X)):=by rw[<- rI.out];exact gw h9.out (Nat.zero_le _)
     have Ck:Hid (Ra.Pos X):=fun x hx=>WN.out x (by rw[rI.out];exact hx);have HW2:=HW;have l4:=HO
     go_wp2_with (at_lookup;refine NF rfl _ _ 375 rfl _ _ _ rfl rfl hrun ?_)
     clear tB h9 HO HW hrun f0 f1
     go_loopw [9,10,41] (fun vf bk i wx=>∃ (j:Nat) (gy:Int) (F1:List (Int×Int)),j<=N∧i=.int .i64 j∧bk=.int .i64 gy∧0<=gy∧gy<=left∧F1++Ra.rest (Ra.sh s) f (X.drop j) (qs.drop (k+1)) gy=F∧wx.ownsRow w1.heap.size 300 2 vf F1.length (d7 F1)∧wx.ownsRow 0 197 5 (.slice (some ⟨r,0,none⟩) N Ci) N (flat X)∧Below w1.heap.size w1 wx) (fun _ _ i _=>N-(intOf i).toNat)
     case atStart=>exact⟨0,left,fF,Nat.zero_le _,rfl,rfl,hl0,Int.le_refl _,Cj.out,l4.out,HX.out,HW2.out⟩
     case round =>
      obtain⟨j,gy,F1,hj,rfl,rfl,wb,DX,Cm,hown,wF,hbw⟩:=hrel;have HO:=hDq hown;have dL:=hDq wF;have HW:=hDq hbw;have mZ:=hDq Cm;have lx:=hDq (WH wF);clear hown wF hbw Cm l4 HX HW2 Cj;by_cases hjn:j<N
      ·have a_:(j:Int)<N:=by omega
       obtain⟨c0,c1,c2,c3,c4⟩:=(xX dL.out) j (by rw[lx.out];exact hjn);have HD:=hDq (Ra.WB (l:=X) (k:=j) (by rw[lx.out];exact hjn));have sP:=Ck.out _ (Cv.nA (l:=X) (i:=j) (by rw[lx.out];exact hjn));have iA:Hid (Ra.Pos (X.drop j)):=fun y hy=>Ck.out y (List.mem_of_mem_drop hy);generalize Cv.nth X j=x at *;rw[Nat.zero_add]at c0 c1 c2 c3 c4;by_cases h0:gy=0
       ·subst h0
        have hmin:min x.q 0=0:=by omega
        have HR:Hid (wr.ownsRow w.heap.size 300 2 u9 F.length (d7 F)):=by
         have h1:=mZ.out;rw[Ra.Wz _ _ _ iA.out,aNq]at h1;rw[<- h1];exact gw HO.out HB1.out.size
        have HB:Hid (Below w.heap.size w wr):=HB1.out.trans (HW.out.mono HB1.out.size);clear HO dL mZ HD iA;go_wp2;go_ret;exact⟨_,rfl,HR.out.alloc _,HB.out.alloc HB.out.size _⟩
       ·obtain⟨t,ht⟩:∃ t,min x.q gy=t:=⟨_,rfl⟩
        have ht1:1<=t:=by omega
        have pJ:t<=gy:=by omega
        have htb:(t==0)=false:=by simp;omega
        have bT:Hid ((F1++[(x.id,t)])++Ra.rest (Ra.sh s) f (X.drop (j+1)) (qs.drop (k+1)) (gy-t)=F):=by
         have h1:=mZ.out;rw[HD.out,Ra.WA _ _ _ _ (by have:=iA.out;rw[HD.out]at this;exact this) _ _ (by omega),ht]at h1;show _=_;rw[<- h1];simp
        have ij:Hid (F1.length+1<=1000):=by
         have h1:=WI.out;rw[<- bT.out]at h1;simp at h1;show _<=_;omega
        clear mZ HD iA
        go_wp2_with (at_builtin;refine wpList_append_own _ rfl _ _ 294 rfl w1.heap.size 300 i0 z0 2 16 Tryz.underlying294 Hi.out eK.out eL.out eM.out nB.out (by decide) _ _ _ rfl ((HO.out.alloc _).alloc _) ⟨wr.heap.size+1,0,none⟩ 1 1 [.int .i64 x.id,.int .i64 t] rfl rfl ?d1 ?d2 ?d3 ?d4 ?d5 ?_)
        case d1=>exact fun j u hj=>WE _ _ _ _ _ (by simp) j u hj
        case d2 => intro u hu
                   simp only[List.mem_cons,List.not_mem_nil,or_false]at hu;rcases hu with rfl | rfl <;> rfl
        case d3=>have:=ij.out;unfold maxLen;omega
        case d4=>have:=ij.out;omega
        case d5=>have:=HW.out.size;simp;omega
        intro v3 w3 hown' hgrow _;have rE:Hid (w3.ownsRow w1.heap.size 300 2 v3 (F1++[(x.id,t)]).length (d7 (F1++[(x.id,t)]))):=by
         show w3.ownsRow _ _ _ _ _ _;rw[WC,lAq];exact hown'
        have Cn:=HO.out.lt;have kq:Hid (w3.ownsRow 0 197 5 (.slice (some ⟨r,0,none⟩) N Ci) N (flat X)):=((dL.out.alloc _).alloc _).kept hgrow (WG dL.out HO.out (by decide));have HW3:Hid (Below w1.heap.size w1 w3):=((HW.out.alloc HW.out.size _).alloc (by have:=HW.out.size;simp;omega) _).grown hgrow (by have:=HW.out.size;simp;omega) (fun j hj=>(Cn j hj).1);clear hown' hgrow HO dL HW Cn c0 c1 c2 c3 c4;go_wp2;exact⟨⟨j+1,gy-t,F1++[(x.id,t)],by omega,by go_num,by go_num,by omega,by omega,bT.out,rE.out,kq.out,HW3.out⟩,by simp[intOf];omega⟩
      ·have a_:¬ (j:Int)<N:=by omega
       have bT:Hid (F1++Ra.mY (Ra.sh s) f (qs.drop (k+1)) gy=F):=by
        have h1:=mZ.out;rw[List.drop_of_length_le (by rw[lx.out];omega),Ra.FY _ _ _ _ wb]at h1;exact h1
       clear mZ dL;go_wp2;exact⟨⟨k+1,gy,F1,by omega,by go_num,rfl,wb,by omega,bT.out,HO.out,HW.out⟩,by simp[intOf];omega⟩
   ·have aK:¬ (k:Int)<m:=by omega
    have Ns:Hid (wr.ownsRow w.heap.size 300 2 u9 F.length (d7 F)):=by
     have h1:=tr.out;rw[List.drop_of_length_le (by rw[HM.out];omega)]at h1;have h2:fF=F:=by rw[<- h1];simp[Ra.mY,Ra.y9,Ra.fill]
     have:=HO.out
     rw[h2]at this;exact gw this HB1.out.size
    have HB:Hid (Below w.heap.size w wr):=HB1.out.trans (HW.out.mono HB1.out.size);clear HO tr;go_wp2;go_ret;exact⟨_,rfl,Ns.out,HB.out⟩
end Go.Proofs.YtjolccidheflpaaGreatDoor
namespace Go.Proofs.YtjolccidheflpaaGreatDoor
set_option maxHeartbeats 8000000
namespace Ra
open Cv
def pj (sd:Int) (j:Nat):Int:=if sd=0 then 1000-(j:Int) else 1+(j:Int)
def cnt (sd price:Int):Nat:=if sd=0 then (1001-price).toNat else price.toNat
def full (sd price:Int):List Int:=(List.range (cnt sd price)).map (pj sd)
theorem ahV (sd price:Int):Nz sd (full sd price):=by
 refine List.pairwise_map.2 (List.pairwise_lt_range.imp fun {a b} h=>?_);unfold pj better;split <;> simp <;> omega
theorem ahW {sd price p:Int} (h1:1<=price) (h2:price<=1000):p∈full sd price↔(1<=p∧p<=1000)∧better sd price p=false:=by
 unfold full cnt pj better;by_cases hs:sd=0
 ·simp only[hs,if_true,List.mem_map,List.mem_range,decide_eq_false_iff_not]
  constructor
  ·rintro⟨j,hj,rfl⟩;omega
  ·rintro⟨⟨h3,h4⟩,h5⟩;exact⟨(1000-p).toNat,by omega,by omega⟩
 ·simp only[hs,if_false,List.mem_map,List.mem_range,decide_eq_false_iff_not]
  constructor
  ·rintro⟨j,hj,rfl⟩;omega
  ·rintro⟨⟨h3,h4⟩,h5⟩;exact⟨(p-1).toNat,by omega,by omega⟩
def lZ (l:List ag) (sd price:Int):List Int:=(full sd price).filter fun p=>!(lv l sd p).isEmpty
theorem WT (l:List ag) (sd price:Int):Nz sd (lZ l sd price):=(ahV sd price).filter _
theorem NQ (l:List ag) {sd price p:Int} (h:better sd price p=false):bk sd price l p=lv l sd p:=by
 unfold bk lv;refine List.filter_congr fun x _=>?_;unfold el;by_cases e:x.pr=p
 ·rw[e,h];simp
 ·have e2:(x.pr==p)=false:=by simpa using e
  rw[e2];simp
theorem G2 {l:List ag} {sd price p:Int} (ho:dM l) (h:bk sd price l p≠[]):(1<=p∧p<=1000)∧better sd price p=false:=by
 obtain⟨x,hx⟩:=List.exists_mem_of_ne_nil _ h;obtain⟨hx1,hx2⟩:=List.mem_filter.1 hx;simp only[el,Bool.and_eq_true,beq_iff_eq,Bool.not_eq_true']at hx2
 have:=(fP (ho x hx1)).2.2.2.1
 rw[<- hx2.2];exact⟨this,hx2.1.2⟩
theorem yZ {l:List ag} {sd price p:Int} (ho:dM l) (h1:1<=price) (h2:price<=1000):p∈lZ l sd price↔bk sd price l p≠[]:=by
 unfold lZ;rw[List.mem_filter,ahW h1 h2];constructor
 ·rintro⟨⟨_,hb⟩,hne⟩
  rw[NQ l hb];simpa using hne
 ·intro h
  obtain⟨h3,hb⟩:=G2 ho h;rw[NQ l hb]at h;exact⟨⟨h3,hb⟩,by simpa using h⟩
theorem NC {l:List ag} (h:dM l):Pos l:=fun x hx=>((fP (h x hx)).2.2.2.2).1
def side (s:Int) (l:List ag) (sd price v:Int):List (Int×Int):=sf (sh s) l sd (full sd price) v
theorem G1 (s:Int) {l:List ag} (ho:dM l) (sd price v:Int) (hv:0<=v):side s l sd price v=fill (row (sh s) l sd (lZ l sd price) v) v:=by
 unfold side;rw[<- Ny (yX s) (NC ho) sd (full sd price) v hv];rfl
theorem ahq (s:Int) {l:List ag} (ho:dM l) (sd price v:Int) (h1:1<=price) (h2:price<=1000) (hv:0<=v):mY (sh s) (bk sd price l) (lZ l sd price) v=side s l sd price v:=by
 rw[G1 s ho sd price v hv];unfold mY;rw[Wy (sh s) l sd _ _ _ fun p hp=>NQ l (G2 ho ((yZ ho h1 h2).1 hp)).2]
theorem ahp (l:List ag) (sd price:Int):(if sd=0 then (lZ l sd price).reverse else lZ l sd price).Pairwise (· < ·):=by
 have h:=WT l sd price;unfold Nz at h;split
 ·rename_i e
  subst e;rw[List.pairwise_reverse];exact h.imp fun h=>by simpa [better] using h
 ·rename_i e
  exact h.imp fun h=>by simpa [better,e] using h
theorem ahX (l:List ag) (sd price:Int):(lZ l sd price).Nodup:=(WT l sd price).imp fun {a b} h e=>by
 rw[e,ahi]at h;cases h
theorem Wm (s:Int) {l:List ag} (ho:dM l) (sd price v:Int) (h1:1<=price) (h2:price<=1000):(row (sh s) l sd (lZ l sd price) v).Perm (l.filter (el sd price)):=by
 refine(Wh (yX s) l sd _ v).trans ((Wj l sd _ (ahX l sd price)).trans ?_);rw[List.filter_congr (q:=el sd price) fun x hx=>?_];unfold el;cases hs:x.sd==sd
 ·rfl
 ·simp only[Bool.true_and]
  cases hb:better sd price x.pr
  ·rw[Bool.not_false,List.contains_iff_mem,yZ ho h1 h2]
   intro e;have:x∈bk sd price l x.pr:=List.mem_filter.2 ⟨hx,by simp[el,hs,hb]⟩;rw[e]at this;cases this
  ·rw[Bool.not_true]
   refine Bool.eq_false_iff.2 fun e=>?_
   have:=(G2 ho ((yZ ho h1 h2).1 (List.contains_iff_mem.1 e))).2
   rw[hb]at this;cases this
theorem WU:∀ (l:List ag) (v:Int),(fill l v).length<=l.length
 | [],_=>lRq _
 | x::l,v=>by
  rw[fill];split
  ·exact Nat.zero_le _
  ·have:=WU l (v-min x.q v)
   simp;omega
theorem A7 (s:Int) {l:List ag} (ho:dM l) (sd price v:Int) (h1:1<=price) (h2:price<=1000) (hv:0<=v):(side s l sd price v).length<=l.length:=by
 rw[G1 s ho sd price v hv];exact lTq (WU _ _) (by rw[(Wm s ho sd price v h1 h2).length_eq];exact List.length_filter_le _ _)
theorem ahm (l:List ag) (price:Int):br (l.filter (el 0 price))=iB l price∧br (l.filter (el 1 price))=jw l price:=by
 refine⟨?_,?_⟩
 ·rw[Nt]
  refine D_ l fun x _=>?_;unfold el gM better;by_cases h:price<=x.pr
  ·rw[decide_eq_true h,if_pos rfl,decide_eq_false (by omega)];rfl
  ·rw[decide_eq_false h,if_pos rfl,decide_eq_true (by omega)];rfl
 ·rw[Nt]
  refine D_ l fun x _=>?_;unfold el sB better;by_cases h:x.pr<=price
  ·rw[decide_eq_true h,if_neg (by decide),decide_eq_false (by omega)];rfl
  ·rw[decide_eq_false h,if_neg (by decide),decide_eq_true (by omega)];rfl
end Ra
end Go.Proofs.YtjolccidheflpaaGreatDoor
namespace Go.Proofs.YtjolccidheflpaaGreatDoor
set_option maxHeartbeats 8000000
open Go.RowKit
set_option maxRecDepth 100000
theorem Wp (sd price v s:Int) (B base n:Nat) (l:List Cv.ag) (w:World) (hs:Ra.IsU s) (hv0:0<=v) (hv1:v<=1000000) (hL:jI w base B n (bk sd price l)) (hn:n<=1000) (hok:Cv.dM l) (NE:l.length<=120) (h1:1<=price) (h2:price<=1000) :
  Calls Tryz.prog 260 #[.map (some B),.int .i64 sd,.int .i64 v,.int .u32 s] w fun e w'=>∃ v',e=.returned v'∧w'.ownsRow w.heap.size 300 2 v' (Ra.side s l sd price v).length (d7 (Ra.side s l sd price v))∧Below w.heap.size w w':=by
 have ahn:(Ra.lZ l sd price).length<=1000:=by
  refine lTq (List.length_filter_le _ _) ?_;unfold Ra.full Ra.cnt;rw[List.length_map,List.length_range];split <;> omega
 refine aho sd v s B base n (bk sd price l) (if sd=0 then (Ra.lZ l sd price).reverse else Ra.lZ l sd price) (Ra.lZ l sd price) _ w hs hv0 hv1 hL hn (Ra.ahp l sd price) (fun p=>?_) (fun p=>hok.filter _) (fun p=>lTq (List.length_filter_le _ _) (by omega)) ?_ (fun p hp=>?_) (Ra.ahq s hok sd price v h1 h2 hv0) (lTq (Ra.A7 s hok sd price v h1 h2 hv0) (by omega)) ahn
 ·split
  ·rw[List.mem_reverse];exact Ra.yZ hok h1 h2
  ·exact Ra.yZ hok h1 h2
 ·show _=_
  split <;> simp
 ·have h3:=(Ra.yZ hok h1 h2).1 hp
  exact⟨h3,(Ra.G2 hok h3).1⟩
/-! check -/
theorem aeJ (a:Option Addr) (n cap:Nat) (price vol most:Int) (T:TypeId) (v2:Value) (w:World) (hc:Hid (Calls Tryz.prog 250 #[.slice a n cap] w fun e w'=>e=.returned .nilIface∧Below w.heap.size w w')) (c2:w.cell? ⟨3,0,none⟩=some (.iface T v2)) (hp:Hid (ah.aC price 1 1000=true)) (hv:¬ vol<0)
  (hm:Hid (∀ w1,Below w.heap.size w w1->Calls Tryz.prog 286 #[.slice a n cap,.int .i64 price] w1 fun e w'=>e=.returned (.int .i64 most)∧Below w1.heap.size w1 w')) :
  Calls Tryz.prog 258 #[.slice a n cap,.int .i64 price,.int .i64 vol] w fun e w'=>e=.returned (if most<vol then .iface T v2 else .nilIface)∧Below w.heap.size w w':=by
 have h0:(0:Int)<=vol:=by omega
 by_cases hb:most<vol
 all_goals
  first | rw[if_pos hb] | rw[if_neg hb]
  go_enter Tryz.func258,Tryz.ntmps258
  go_wp2_with fail
  refine hc.out.mono ?_;rintro e w1 ⟨rfl,hb1⟩;have HB1:=hDq hb1;have d2:=cell_later hb1 c2;clear hb1;simp only[]
  go_wp2_with fail
  refine(fY _ _ _ _).mono ?_;rintro e w2 ⟨rfl,rfl⟩;rw[hp.out];simp only[]
  go_wp2_with fail
  refine(hm.out _ HB1.out).mono ?_;rintro e w3 ⟨rfl,hb3⟩;have au:=hDq (HB1.out.trans (hb3.mono HB1.out.size));have d3:=cell_later au.out c2;clear hb3 d2;simp only[];go_wp2;go_ret;exact⟨rfl,au.out⟩
/-! aou -/
theorem bR {w w':World} {base:Nat} {e:TypeId} {size:Nat} {v:Value} {n:Nat} {xs:List Value} (h:w.ownsRow base e size v n xs) (hb:Below w.heap.size w w'):w'.ownsRow base e size v n xs :=
 h.kept (row:=none) ⟨hb.os,hb.tape,hb.output,hb.size,fun i hi _=>hb.block i hi⟩ (by
  cases e:v.ownBlock with
  | none=>exact .inl rfl
  | some _=>exact .inr (by simp))
theorem ahr (F G:List (Int×Int)):d7 (F++G)=d7 F++d7 G:=by simp[d7]
theorem ahs (F:List (Int×Int)):(d7 F).length=F.length*2:=by
 induction F with
 | nil=>rfl
 | cons f F ih=>simp[d7]at ih ⊢;omega
theorem aht (F:List (Int×Int)):∀ u∈d7 F,u.oneCell'=true:=fun u hu=>by
 obtain⟨f,_,hf⟩:=List.mem_flatMap.1 hu;simp only[List.mem_cons,List.not_mem_nil,or_false]at hf;rcases hf with rfl | rfl <;> rfl
theorem aeK (a:Option Addr) (n cap:Nat) (price vol s s1:Int) (l:List Cv.ag) (fF F1:List (Int×Int)) (w:World) (kZ:Hid (Calls Tryz.prog 258 #[.slice a n cap,.int .i64 price,.int .i64 vol] w fun e w'=>e=.returned .nilIface∧Below w.heap.size w w'))
  (hv:Hid (gC w (.slice a n cap) l)) (hok:Hid (Cv.eJ l)) (h1:1<=price) (h2:price<=1000) (hv0:0<=vol) (hv1:vol<=1000000) (hs:Hid (Ra.IsU s)) (hs1:Hid (Ra.IsU s1)) (yc:(s=4294967295∧s1=0)∨(0<=s∧s<4294967295∧s1=s+1))
  (Bj:Hid (Ra.side s l 0 price vol=fF)) (FQ:Hid (Ra.side s1 l 1 price vol=F1)) (hl0:fF.length<=120) (hl1:F1.length<=120) :
  Calls Tryz.prog 222 #[.slice a n cap,.int .i64 price,.int .i64 vol,.int .u32 s] w fun e w'=>∃ v',e=.returned (.tuple #[v',.nilIface])∧w'.ownsRow w.heap.size 300 2 v' (fF++F1).length (d7 (fF++F1))∧Below w.heap.size w w':=by
 obtain⟨i0,z0,hi,hz0,hz1,hz2,hz3⟩:=Wq;have Hi:=hDq hi;have eK:=hDq hz0;have eL:=hDq hz1;have eM:=hDq hz2;have nB:=hDq hz3;clear hi hz0 hz1 hz2 hz3;have G3:l.length<=120:=hok.out.1;rcases yc with ⟨rfl,rfl⟩ | ⟨hs0,hs2,rfl⟩
 all_goals
  go_enter Tryz.func222,Tryz.ntmps222
  go_wp2_with fail
  refine kZ.out.mono ?_;rintro e w1 ⟨rfl,hb1⟩;have HB1:=hDq hb1;clear hb1;simp only[]
  go_wp2_with fail
  refine(Ws _ 0 price l w1 (hv.out.later HB1.out) hok.out).mono ?_;rintro e w2 ⟨rfl,hL2,hb2⟩;have HB2:=hDq (HB1.out.trans (hb2.mono HB1.out.size));have iN:=hDq hL2;clear hb2 hL2;simp only[]
  go_wp2_with fail
  refine(Wp 0 price vol _ _ _ _ l w2 hs.out hv0 hv1 iN.out (by omega) hok.out.oks G3 h1 h2).mono ?_;rintro e w3 ⟨vb,rfl,hrb,hb3⟩;rw[Bj.out]at hrb;have y5:=hDq (gw hrb HB2.out.size);have au:=hDq (HB2.out.trans (hb3.mono HB2.out.size));clear hrb hb3;simp only[]
  go_wp2_with fail
  refine(Ws _ 1 price l w3 (hv.out.later au.out) hok.out).mono ?_;rintro e w4 ⟨rfl,hL4,hb4⟩;have bg:=hDq (au.out.trans (hb4.mono au.out.size));have kH:=hDq hL4;have Wt:=hDq (bR y5.out hb4);clear hb4 hL4;simp only[]
  go_wp2_with fail
  refine(Wp 1 price vol _ _ _ _ l w4 hs1.out hv0 hv1 kH.out (by omega) hok.out.oks G3 h1 h2).mono ?_;rintro e aQ ⟨vs,rfl,hrs,cB⟩;rw[FQ.out]at hrs;have jl:=hDq (gw hrs bg.out.size);have bE:=hDq (bg.out.trans (cB.mono bg.out.size));have wC:=hDq (bR Wt.out cB);clear hrs cB y5 Wt iN kH;simp only[];rcases jl.out.2 with ⟨rfl,h0⟩ | ⟨rs,cs,aeZ,rfl,_⟩
  ·have fe:Hid (F1=[]):=List.eq_nil_of_length_eq_zero h0
   have HR:Hid (aQ.ownsRow w.heap.size 300 2 vb (fF++F1).length (d7 (fF++F1))):=by
    rw[fe.out,aNq];exact wC.out
   clear h0;rcases wC.out.2 with ⟨rfl,_⟩ | ⟨rb,cb,Uh,rfl,_,_,hcb,_⟩
   ·clear wC jl
    go_wp2;go_ret2;exact⟨_,rfl,HR.out,bE.out⟩
   ·clear wC jl
    go_wp2;go_ret2;exact⟨_,rfl,HR.out,bE.out⟩
  ·have HC:Hid (∀ j u,(d7 F1)[j]?=some u->aQ.cell? ((⟨rs,0,none⟩:Addr).add j)=some u):=fun j u hu=>World.ownsRow.cells jl.out (g:=rs) rfl j u hu
   go_wp2_with (at_builtin;refine wpList_append_own _ rfl _ _ 294 rfl w.heap.size 300 i0 z0 2 16 Tryz.underlying294 Hi.out eK.out eL.out eM.out nB.out (by decide) _ _ _ rfl wC.out ⟨rs,0,none⟩ F1.length cs (d7 F1) rfl (ahs F1) HC.out (aht F1) ?d3 ?d4 ?d5 ?_)
   case d3=>unfold maxLen;omega
   case d4=>omega
   case d5=>exact bE.out.size
   intro v6 aj hown6 Wu _;have HR:Hid (aj.ownsRow w.heap.size 300 2 v6 (fF++F1).length (d7 (fF++F1))):=by
    show World.ownsRow _ _ _ _ _ _ _;rw[ahr,lAq];exact hown6
   have hlt:=wC.out.lt;have aS:Hid (Below w.heap.size w aj):=bE.out.grown Wu bE.out.size (fun j hj=>(hlt j hj).1);clear hown6 Wu jl HC wC hlt;go_wp2;go_ret2;exact⟨_,rfl,HR.out,aS.out⟩
def ei (F:List (Int×Int)) (i:Nat):Int×Int:=F.getD i (0,0)
def Kz (w:World) (v:Value) (F:List (Int×Int)):Prop :=
 (F=[]∧∃ a cap,v=.slice a 0 cap)∨∃ b cap,v=.slice (some ⟨b,0,none⟩) F.length cap∧∀ i,i<F.length->w.cell? ⟨b,i*2,none⟩=some (.int .i64 (ei F i).1)∧w.cell? ⟨b,i*2+1,none⟩=some (.int .i64 (ei F i).2)
theorem NM:∀ (F:List (Int×Int)) (i:Nat),i<F.length->(d7 F)[i*2]?=some (.int .i64 (ei F i).1)∧(d7 F)[i*2+1]?=some (.int .i64 (ei F i).2)
 | [],i,h=>absurd h (Nat.not_lt_zero i)
 | f::F,0,_=>by simp[d7,ei]
 | f::F,i+1,h=>by
  have ih:=NM F i (by simpa using h);have e:d7 (f::F)=.int .i64 f.1::.int .i64 f.2::d7 F:=rfl;rw[e,show (i+1)*2=i*2+1+1 by omega];refine⟨?_,?_⟩
  ·rw[List.getElem?_cons_succ,List.getElem?_cons_succ,ih.1];rfl
  ·rw[List.getElem?_cons_succ,List.getElem?_cons_succ,ih.2];rfl
theorem aeD {w:World} {base:Nat} {v:Value} {F:List (Int×Int)} (h:w.ownsRow base 300 2 v F.length (d7 F)):Kz w v F:=by
 rcases h.2 with ⟨h1,h2⟩ | ⟨g,cap,cur,h1,_⟩
 ·exact .inl ⟨List.eq_nil_of_length_eq_zero h2,none,0,h1⟩
 ·refine .inr ⟨g,cap,h1,fun i hi=>?_⟩
  have key:∀ j u,(d7 F)[j]?=some u->w.cell? ⟨g,j,none⟩=some u:=fun j u hu=>by
   have:=World.ownsRow.cells h (g:=g) (by rw[h1];rfl) j u hu
   have hp:(⟨g,0,none⟩:Addr).add j=⟨g,j,none⟩:=by unfold Addr.add;split <;> simp_all
   rwa [hp]at this
  exact⟨key _ _ (NM F i hi).1,key _ _ (NM F i hi).2⟩
theorem ad5 {F:List (Int×Int)} {k:Nat} (h:k<F.length):F.take (k+1)=F.take k++[ei F k]:=by
 unfold ei;rw[List.take_succ_eq_append_getElem h,gE,List.getElem?_eq_getElem h];rfl
namespace Ra
def lU (l:List Cv.ag) (price vol:Int):Prop:=Cv.eJ l∧(1<=price∧price<=1000)∧0<=vol∧vol<=Cv.dN l price
def q7 (s:Int):Int:=if s=4294967295 then 0 else s+1
def fills (s:Int) (l:List Cv.ag) (price vol:Int):List (Int×Int):=side s l 0 price vol++side (q7 s) l 1 price vol
theorem aeL {s:Int} (h:IsU s):IsU (q7 s):=by
 unfold q7;split
 ·exact⟨by omega,by omega⟩
 ·exact⟨by have:=h.1;omega,by have:=h.2;omega⟩
theorem TQ (s:Int) {l:List Cv.ag} {price vol:Int} (h:lU l price vol):(side s l 0 price vol).length<=120∧(side (q7 s) l 1 price vol).length<=120:=by
 obtain⟨h1,⟨h2,h3⟩,h4,_⟩:=h
 have:=h1.1
 exact⟨lTq (A7 _ h1.oks 0 price vol h2 h3 h4) this,lTq (A7 _ h1.oks 1 price vol h2 h3 h4) this⟩
end Ra
theorem aeI {l:List Cv.ag} (h:Cv.eJ l) (p:Int):Cv.dN l p<=120000:=by
 have:=Cv.acJ l p h
 unfold Cv.dN;omega
/-! the closed fact -/
def two:List Cv.ag:=[⟨1,0,0,10,5⟩,⟨2,0,1,8,4⟩]
end Go.Proofs.YtjolccidheflpaaGreatDoor
namespace Go.Proofs.YtjolccidheflpaaGreatDoor
set_option maxHeartbeats 8000000
namespace Ra
open Cv
theorem G0 {l:List ag} (h:eJ l):eu l:=by
 unfold eu;rw[List.nodup_iff_pairwise_ne,List.pairwise_iff_getElem];intro i j hi hj hij;rw[List.length_map]at hi hj;rw[List.getElem_map,List.getElem_map];intro e;have h2:=h.2 j hj;simp only[oK,Bool.and_eq_true,Bool.not_eq_true']at h2;have h3:=h2.2;unfold has at h3;rw[List.any_eq_false]at h3;refine h3 l[i] (List.mem_take_iff_getElem.2 ⟨i,by omega,rfl⟩) ?_;have e2:nth l j=l[j]:=by unfold nth;rw[gE,List.getElem?_eq_getElem hj];rfl
 rw[e2,e];simp
theorem Wk {l:List ag} (h:eu l) {x y:ag} (hx:x∈l) (hy:y∈l) (e:x.id=y.id):x=y:=by
 obtain⟨a,b,rfl⟩:=List.append_of_mem hx;unfold eu at h;rw[List.map_append,List.map_cons,List.nodup_append]at h;obtain⟨_,h2,h3⟩:=h;obtain⟨h4,_⟩:=List.nodup_cons.1 h2;rcases List.mem_append.1 hy with hy | hy
 ·exact absurd e.symm (h3 _ (List.mem_map.2 ⟨y,hy,rfl⟩) _ mSq)
 ·rcases List.mem_cons.1 hy with hy | hy
  ·exact hy.symm
  ·exact absurd (List.mem_map.2 ⟨y,hy,e.symm⟩) h4
theorem Wl {l:List ag} (h:eu l) (f:ag->Bool):eu (l.filter f):=by
 unfold eu at *;exact List.Nodup.sublist (List.Sublist.map _ List.filter_sublist) h
def ahk (s sd:Int):Int:=if sd=0 then s else q7 s
def ord (s:Int) (l:List ag) (sd price vol:Int):List ag:=row (sh (ahk s sd)) l sd (lZ l sd price) vol
theorem NA {l:List ag} {price vol:Int} (hf:lU l price vol) (s:Int) (sd:Int):(ord s l sd price vol).Perm (l.filter (el sd price)):=Wm _ hf.1.oks sd price vol hf.2.1.1 hf.2.1.2
theorem vV {l:List ag} {price vol:Int} (hf:lU l price vol) (s:Int) {sd:Int} {x:ag}:x∈ord s l sd price vol↔x∈l∧el sd price x=true:=by
 rw[(NA hf s sd).mem_iff,List.mem_filter]
theorem vU {l:List ag} {price vol:Int} (hf:lU l price vol) (s:Int) (sd:Int):Pos (ord s l sd price vol):=fun x hx=>NC hf.1.oks x ((vV hf s).1 hx).1
theorem ahl {l:List ag} {price vol:Int} (hf:lU l price vol) (s:Int) (sd:Int):eu (ord s l sd price vol):=(Wl (G0 hf.1) _).perm (NA hf s sd).symm
theorem UG {l:List ag} {price vol:Int} (hf:lU l price vol) (s:Int):fills s l price vol=fill (ord s l 0 price vol) vol++fill (ord s l 1 price vol) vol:=by
 unfold fills;rw[G1 s hf.1.oks 0 price vol hf.2.2.1,G1 (q7 s) hf.1.oks 1 price vol hf.2.2.1];rfl
theorem ND {l:List ag} {price vol:Int} (hf:lU l price vol) (s:Int) {x:ag} (hx:x∈l):got x.id (fills s l price vol)=got x.id (fill (ord s l x.sd price vol) vol):=by
 have hz:∀ sd,x.sd≠sd->got x.id (fill (ord s l sd price vol) vol)=0:=fun sd hne=>V_ _ _ _ (vU hf s sd) hf.2.2.1 fun y hy e=>by
  obtain⟨hy1,oQ⟩:=(vV hf s).1 hy
  have:=Wk (G0 hf.1) hy1 hx e
  subst this;simp only[el,Bool.and_eq_true,beq_iff_eq]at oQ;exact hne oQ.1
 have hsd:=(fP (hf.1.oks x hx)).2.2.1;rw[UG hf s,BI];by_cases h:x.sd=0
 ·rw[hz 1 (by omega),h];omega
 ·have:x.sd=1:=by omega
  rw[hz 0 h,this];omega
theorem UH {l:List ag} {price vol:Int} (hf:lU l price vol) (s:Int) {x:ag} (hx:x∈l) (h:el x.sd price x=false):got x.id (fills s l price vol)=0:=by
 rw[ND hf s hx];refine V_ _ _ _ (vU hf s _) hf.2.2.1 fun y hy e=>?_;obtain⟨hy1,oQ⟩:=(vV hf s).1 hy
 have:=Wk (G0 hf.1) hy1 hx e
 subst this;rw[h]at oQ;cases oQ
theorem afx {l:List ag} {price vol:Int} (hf:lU l price vol) (s:Int) {x:ag} (hx:x∈l):0<=got x.id (fills s l price vol)∧got x.id (fills s l price vol)<=x.q:=by
 have hq:=NC hf.1.oks x hx;cases h:el x.sd price x with
 | false=>rw[UH hf s hx h];omega
 | true =>
  rw[ND hf s hx];exact ahj (vU hf s _) hf.2.2.1 (ahl hf s _) ((vV hf s).2 ⟨hx,h⟩)
def vW (F:List (Int×Int)) (sd:Int):List ag->Int
 | []=>0
 | x::l=>(if x.sd=sd then got x.id F else 0)+vW F sd l
theorem Wn (F:List (Int×Int)) (sd:Int):∀ l:List ag,vW F sd l=jJ F (l.filter fun x=>x.sd==sd)
 | []=>rfl
 | x::l=>by
  have ih:=Wn F sd l;rw[List.filter_cons];by_cases h:x.sd=sd
  ·simp[vW,jJ,h,ih]
  ·simp[vW,h,ih]
theorem Wo {F G:List (Int×Int)}:∀ l:List ag,(∀ x∈l,got x.id F=got x.id G)->jJ F l=jJ G l
 | [],_=>rfl
 | x::l,h=>by
  simp only[jJ];rw[h x mSq,Wo l (fun y hy=>h y (mOq _ hy))]
theorem Lu {l:List ag} {price vol:Int} (hf:lU l price vol) (s sd:Int) (hsd:sd=0∨sd=1):vW (fills s l price vol) sd l=vol:=by
 rw[Wn];rw[Wo (G:=fill (ord s l sd price vol) vol) _ fun x hx=>?_]
 ·rw[Wb _ (Wl (G0 hf.1) _) _ fun f hf'=>?_]
  ·rw[V9 _ _ (vU hf s sd) hf.2.2.1,V8 (NA hf s sd)]
   have h1:=ahm l price;have h2:=hf.2.2.2;unfold dN at h2;rcases hsd with rfl | rfl
   ·rw[h1.1];omega
   ·rw[h1.2];omega
  ·obtain⟨_,x,hx,e⟩:=vT _ _ (vU hf s sd) hf.2.2.1 f hf'
   obtain⟨hx1,hx2⟩:=(vV hf s).1 hx;simp only[el,Bool.and_eq_true]at hx2;exact⟨x,List.mem_filter.2 ⟨hx1,hx2.1⟩,e⟩
 ·obtain⟨hx1,hx2⟩:=List.mem_filter.1 hx
  have:x.sd=sd:=by simpa using hx2
  rw[ND hf s hx1,this]
end Ra
namespace Fs
open Cv Bk Ra Pu Fu
theorem UF {l:List ag} {price vol:Int} (hf:lU l price vol) (s:Int):∀ f∈fills s l price vol,1<=f.2∧∃ x∈l,x.id=f.1:=by
 intro f hm;rw[UG hf s]at hm;rcases List.mem_append.1 hm with h | h
 ·obtain⟨h1,x,hx,he⟩:=vT _ _ (vU hf s 0) hf.2.2.1 f h
  exact⟨h1,x,((vV hf s).1 hx).1,he⟩
 ·obtain⟨h1,x,hx,he⟩:=vT _ _ (vU hf s 1) hf.2.2.1 f h
  exact⟨h1,x,((vV hf s).1 hx).1,he⟩
theorem FK (F:List (Int×Int)) (sd:Int):∀ l:List ag,vW F sd l=aM (fun x=>if x.sd=sd then got x.id F else 0) l
 | []=>rfl
 | x::l=>by rw[vW,aM,FK F sd l]
theorem Tn {l:List ag} {price vol:Int} (hf:lU l price vol) (s:Int):vt l price (fills s l price vol):=by
 refine⟨UF hf s,fun x hx=>afx hf s hx,fun x hx hg=>?_,?_⟩
 ·have he:el x.sd price x≠false:=fun e=>by rw[UH hf s hx e]at hg;omega
  have jh:better x.sd price x.pr=false:=by
   unfold el at he;simp only[beq_self_eq_true,Bool.true_and,ne_eq,Bool.not_eq_false,Bool.not_eq_true']at he;exact he
  unfold better at jh;constructor
  ·intro h0;rw[if_pos h0]at jh;simpa using jh
  ·intro h1;rw[if_neg (by omega)]at jh;simpa using jh
 ·rw[<- FK,<- FK,Lu hf s 0 (.inl rfl),Lu hf s 1 (.inr rfl)]
theorem Ls {l:List ag} {ref p v:Int} (hl:eJ l) (hw:eN l ref 1000 p v) (hv:0<v):lU l p v:=by
 rcases hw with ⟨_,h2,_⟩ | ⟨_,h2,h3,h4,_⟩
 ·omega
 ·exact⟨hl,⟨h2,h3⟩,by omega,by omega⟩
theorem FY {l:List ag} (h:dM l):gQ [] l=l:=T9 h
theorem TM (f:Nat->Int) (i:Nat) (price:Int) (l:List ag):gN f i price l []=f:=by
 funext j;unfold gN;have:aM (fun x=>gG i price j x (got x.id [])) l=0:=A8 fun x _=>afl i price j x;omega
end Fs
namespace Fs
open Cv Bk Ra Pu Fu
theorem nE.final {i:Nat} (hi:i<3) {price:Int} (hp:1<=price∧price<=1000) {G:Nat->Int}:∀ (m:Nat) (f:Nat->Int) (bs ss:List ag),bs.length+ss.length<=m->nE i price G f bs ss->dP G 6=dP f 6∧∀ k,k<3->dQ G k 6=dQ f k 6
 | m,f,[],ss,_,h=>by
  have e:f=G:=funext (h.done (.inl rfl));rw[e];exact⟨rfl,fun _ _=>rfl⟩
 | m,f,x::bs,[],_,h=>by
  have e:f=G:=funext (h.done (.inr rfl));rw[e];exact⟨rfl,fun _ _=>rfl⟩
 | 0,f,x::bs,y::ss,hm,h=>by simp at hm
 | m+1,f,x::bs,y::ss,hm,h=>by
  obtain⟨_,h2⟩:=h.step hi hp rfl;have hs:=Ee f i x y price (min x.q y.q);have hl:(fQ (x::bs) (min x.q y.q)).length+(fQ (y::ss) (min x.q y.q)).length<=m:=by
   rw[vq,vq];simp only[List.length_cons]at hm;split <;> split <;> (try simp only[List.length_cons]) <;> omega
  obtain⟨h3,h4⟩:=nE.final hi hp m _ _ _ hl h2;exact⟨by rw[h3,hs.1],fun k hk=>by rw[h4 k hk,hs.2 k hk]⟩
theorem ady {L:Nat->List ag} {f:Nat->Int} (h:dO L f) {i:Nat} (hi:i<3) {price:Int} (hp:1<=price∧price<=1000) {F:List (Int×Int)} (hF:vt (L i) price F):dP (gN f i price (L i) F) 6=dP f 6∧∀ k,k<3->dQ (gN f i price (L i) F) k 6=dQ f k 6 :=
 nE.final hi hp _ _ _ _ (lRq _) (h.start hi hF)
end Fs
end Go.Proofs.YtjolccidheflpaaGreatDoor
