/- bestFirst by its contract: the prices of the levels, the best one first. -/
import Derived.Test.YtjolccidheflpaaGreatDoorW21
import Derived.Test.YtjolccidheflpaaGreatDoorW26
import Derived.Test.YtjolccidheflpaaGreatDoorW28
import Derived.Maps.OwnSet
import Derived.Test.YtjolccidheflpaaGreatDoorW27
import Derived.Test.YtjolccidheflpaaGreatDoorW09
import Derived.Test.YtjolccidheflpaaGreatDoorW11
import Derived.Test.YtjolccidheflpaaGreatDoorW00
namespace Go.Proofs.YtjolccidheflpaaGreatDoor
set_option maxHeartbeats 8000000
set_option maxRecDepth 100000
section
open Go.RowKit Go.Maps Go.Shelf
theorem ah1 (m:Nat):AnyZI.SortsIn Tryz.prog Wn Fence.wide m :=
 ⟨fun blk off cap ss W hH hblk hsz=>callsIn_wide.2 (slices_Sort_int blk off cap ss W hH hblk hsz),fun p cap W=>callsIn_wide.2 (slices_Sort_int_none p cap W)⟩
theorem Wo (oM:Option Nat) (W:World):Calls Tryz.prog 304 #[.map oM] W fun e w'=>e=.returned (.func (.func 313) #[] #[Qc W.heap.size])/\w'=W.alloc (.cells #[.map oM] 374) :=
 (callsIn_wide (n:=5)).1 (AnyZI.keys_in Wp Fence.wide 5 trivial rfl oM W)
theorem Wq (b nn:Nat) (D0:DataW Value) (w:World) (hown:w.ownsMap Tryz.prog 3 xu b nn D0) (hnn:nn<=1000) :
  Calls Tryz.prog 303 #[.func (.func 313) #[] #[Qc w.heap.size]] (w.alloc (.cells #[.map (some b)] 374)) fun e w'=>∃ (v:Value) (ss:List Int),e=.returned v/\ss.Perm (intKeys D0) /\
   w'.ownsRow (w.alloc (.cells #[.map (some b)] 374)).heap.size 3 1 v ss.length ((ss.mergeSort (fun x y=>decide (x<=y))).map encZ)/\(v=.slice none 0 0↔ss=[])/\Below (w.alloc (.cells #[.map (some b)] 374)).heap.size (w.alloc (.cells #[.map (some b)] 374)) w':=by
 have hseq:SeqGives Fence.wide 2 Tryz.prog 313 #[Qc w.heap.size] encZ (fun ss=>ss.Perm (intKeys D0)) (Maps.size D0) (w.alloc (.cells #[.map (some b)] 374)) :=
  AnyZI.keys_gives (ρ:=Ws) { Wp with } Fence.wide _ trivial rfl (by omega) w.heap.size b nn D0 _ (by simp) (by simp) (hown.alloc _)
 have hsz:=hown.size_le;have cS:=AnyZI.sorted_in ah2 Fence.wide 5 trivial trivial trivial trivial rfl (by omega) (ah1 _) (enters_of Tryz.func312 (by kernel_rfl) rfl) 313 #[Qc w.heap.size] trivial (enters_of Tryz.func313 (by kernel_rfl) rfl) _ _ (by unfold maxLen;omega) (by omega) _ hseq;change CallsIn _ _ Tryz.prog 303 _ _ _ at cS;exact(callsIn_wide (n:=5)).1 cS
def Wt (w:World) (v:Value) (ps:List Int):Prop :=
 (ps=[]/\v=.slice none 0 0)\/∃ b cap,v=.slice (some (Qb b 0)) ps.length cap/\∀ i,i<ps.length->w.cell? (Qb b i)=some (.int .i64 (ps.getD i 0))
theorem ah3 {w:World} {base n:Nat} {v:Value} {ps:List Int} (hn:n=ps.length) (h:w.ownsRow base 3 1 v n (ps.map encZ)):Wt w v ps:=by
 subst hn;rcases h.2 with ⟨h1,h2⟩ | ⟨g,cap,cur,h1,_⟩
 .exact .inl ⟨List.eq_nil_of_length_eq_zero h2,h1⟩
 .refine .inr ⟨g,cap,h1,fun i hi=>?_⟩
  have:=World.ownsRow.cells h (g:=g) (by rw[h1];rfl) i (.int .i64 (ps.getD i 0)) (by simp[hi,encZ])
  have hp:(⟨g,0,none⟩:Addr).add i=(Qb g i):=by unfold Addr.add;split <;> simp_all
  rwa [hp]at this
theorem Wu {w:World} {b n:Nat} {D:DataW Value} (hown:w.ownsMap Tryz.prog 3 xu b n D) {ps ss:List Int} (hp:ps.Pairwise (· < ·)) (hm:∀ p,p∈ps↔Maps.has D (.int .i64 p)=true) (hs:ss.Perm (intKeys D)) :
  ss.mergeSort (fun x y=>decide (x<=y))=ps/\ss.length=ps.length/\ps.length<=n:=by
 have hle:=hown.size_le;obtain⟨es,hD,hpw,_⟩:=hown.entries Cx;obtain⟨es',Wv,ah4⟩:=hown.keysOf;obtain rfl:es=es':=by rw[hD]at Wv;simpa using Wv
 subst hD;have hperm:=perm_intKeys hpw (fun p hp=>by obtain⟨v,hv⟩:=ah4 p hp;obtain⟨x,_,hx,_⟩:=Maps.keyOf_i64 Tryz.underlying3 hv;exact⟨x,hx⟩) (hp.imp fun h e=>by omega) hm;have h2:=hs.trans hperm.symm;refine⟨?_,h2.length_eq,?_⟩
 rotate_left
 .rw[<- h2.length_eq,hs.length_eq]
  simpa [intKeys,Maps.size] using hle
 have h3:=mergeSort_of_perm_i h2;rw[show ss.mergeSort (fun x y=>decide (x<=y))=ps.mergeSort leI from h3];exact List.mergeSort_of_pairwise (hp.imp fun h=>by simp[leI];omega)
theorem ah5 (sd:Int) (B base n:Nat) (f:Int->List Cv.ag) (ps:List Int) (w:World) (hL:Hid (j8 w base B n f)) (hn:n<=1000) (hp:Hid (ps.Pairwise (· < ·))) (hm:Hid (∀ p,p∈ps↔f p≠[])) :
  Calls Tryz.prog 288 #[.map (some B),.int .i64 sd] w fun e w'=>∃ v,e=.returned v/\Wt w' v (if sd=0 then ps.reverse else ps)/\Qd w w':=by
 obtain⟨D,g,mL⟩:=hL.out;have HO:=hDq mL.own;have HM:Hid (∀ p,p∈ps↔Maps.has D (.int .i64 p)=true):=fun p=>by
  rw[hm.out p,mL.Cy p];simp
 clear mL;by_cases hs:sd=0
 .subst hs
  rw[if_pos rfl];go_enter Tryz.func288,Tryz.ntmps288
  go_wp2_with fail
  refine(Wo (some B) _).mono ?_;rintro e w1 ⟨rfl,rfl⟩;simp only[]
  go_wp2_with fail
  refine(Wq B n D w HO.out hn).mono ?_;rintro e w2 ⟨v,ss,rfl,kJ,hrow,hnil,hb⟩;obtain⟨e1,e2,e3⟩:=Wu HO.out hp.out HM.out kJ;rw[e1,e2]at hrow;have HB2:Hid (Qd w w2):=((bRq _ w).alloc (lRq _) _).trans (hb.mono (by simp));have hbase:w.heap.size<=(w.alloc (.cells #[.map (some B)] 374)).heap.size:=by simp
  have ua:Hid (ps.length<=9223372036854775807):=lTq e3 (by omega);clear hnil hb e1 e2 e3 kJ;rcases hrow.2 with ⟨rfl,h0⟩ | ⟨r,cap,cur,rfl,hr1,hr2,_⟩
  .have HP:Hid (ps=[]):=List.eq_nil_of_length_eq_zero h0
   clear hrow h0;simp only[]
   go_wp2_with fail
   refine(slices_Reverse_int_empty none 0 w2).mono ?_;rintro e w3 ⟨rfl,rfl⟩;simp only[];go_wp2;go_ret;exact⟨_,rfl,.inl ⟨by rw[HP.out];rfl,rfl⟩,HB2.out⟩
  .have HH:Hid (Sort.Holds (Value.int .i64) w2 r 0 ps.toArray):=Ww (zs:=ps) hrow
   have HR:Hid (w.heap.size<=r):=lTq hbase hr1;clear hrow hr1 hr2 hbase;simp only[]
   go_wp2_with fail
   refine(slices_Reverse_int r 0 cap ps w2 HH.out ua.out).mono ?_;rintro e w3 ⟨rfl,q,rfl⟩;simp only[];go_wp2;go_ret;refine⟨_,rfl,.inr ⟨r,cap,by simp,fun i hi=>?_⟩,HB2.out.trans (NI (n:=q) HR.out)⟩
   have:=(Sort.holds_putRow (Value.int .i64) w2 r 0 ps.toArray ps.reverse.toArray HH.out (by simp) i (by simpa using hi)).1
   rw[Nat.zero_add]at this;refine Eq.trans this ?_;simp at hi;simp[hi]
 .rw[if_neg hs]
  go_enter Tryz.func288,Tryz.ntmps288
  go_wp2_with fail
  refine(Wo (some B) _).mono ?_;rintro e w1 ⟨rfl,rfl⟩;simp only[]
  go_wp2_with fail
  refine(Wq B n D w HO.out hn).mono ?_;rintro e w2 ⟨v,ss,rfl,kJ,hrow,hnil,hb⟩;obtain⟨e1,e2,e3⟩:=Wu HO.out hp.out HM.out kJ;rw[e1,e2]at hrow;have HP:=hDq (ah3 rfl hrow);have HB2:Hid (Qd w w2):=((bRq _ w).alloc (lRq _) _).trans (hb.mono (by simp));clear hnil hb e1 e2 e3 kJ hrow;simp only[];go_wp2;go_ret;exact⟨_,rfl,HP.out,HB2.out⟩
end
section
open Go.RowKit Go.Maps
namespace Ra
open Cv
def zv (sh:List ag->List ag) (f:Int->List ag):List Int->Int->List ag
 | [],_=>[]
 | p::ps,v=>arr sh (f p) v++zv sh f ps (v-min (bB (f p)) v)
def nV (sh:List ag->List ag) (f:Int->List ag) (ps:List Int) (v:Int):List (Int×Int):=fill (zv sh f ps v) v
theorem aiM {sh:List ag->List ag} (hs:sT sh) {f:Int->List ag} {p:Int} (h:Pos (f p)) (ps:List Int) (v:Int) (hv:0<=v) :
  nV sh f (p::ps) v=fill (arr sh (f p) v) v++nV sh f ps (v-min (bB (f p)) v):=by
 unfold nV;rw[zv,Ha _ _ _ (WJ hs h v) hv,NQ hs]
theorem aiN (sh:List ag->List ag) (f:Int->List ag) (ps:List Int):nV sh f ps 0=[]:=Cz _
theorem W9 (sh:List ag->List ag) (l:List ag) (sd:Int) (f:Int->List ag):∀ (ps:List Int) (v:Int),(∀ p∈ps,f p=lv l sd p)->zv sh f ps v=row sh l sd ps v
 | [],_,_=>rfl
 | p::ps,v,h=>by
  rw[zv,row,h p mSq,W9 sh l sd f ps _ (fun q hq=>h q (mOq _ hq))]
def rest (sh:List ag->List ag) (f:Int->List ag) (X:List ag) (ps:List Int) (v:Int):List (Int×Int):=fill X v++nV sh f ps (v-min (bB X) v)
theorem W_ (sh:List ag->List ag) (f:Int->List ag) (X:List ag) (hX:Pos X) (ps:List Int):rest sh f X ps 0=[]:=by
 have h:=uD X hX;unfold rest;rw[Cz,show (0:Int)-min (bB X) 0=0 by omega,aiN];rfl
theorem FR (sh:List ag->List ag) (f:Int->List ag) (ps:List Int) (v:Int) (hv:0<=v):rest sh f [] ps v=nV sh f ps v:=by
 unfold rest;rw[show v-min (bB []) v=v by simp[bB];omega];rfl
theorem Xa (sh:List ag->List ag) (f:Int->List ag) (x:ag) (X:List ag) (hX:Pos (x::X)) (ps:List Int) (v:Int) (hv:0<v):rest sh f (x::X) ps v=(x.id,min x.q v)::rest sh f X ps (v-min x.q v):=by
 have hx:=hX x mSq;have h:=uD X (fun y hy=>hX y (mOq _ hy));unfold rest;rw[fill,if_neg (by omega),List.cons_append];rw[show v-min (bB (x::X)) v=v-min x.q v-min (bB X) (v-min x.q v) by simp only[bB];omega]
theorem Xb {l:List ag} {k:Nat} (h:k<l.length):l.drop k=nth l k::l.drop (k+1):=by
 unfold nth;rw[List.drop_eq_getElem_cons h,gE,List.getElem?_eq_getElem h];rfl
end Ra
def eL (F:List (Int×Int)):List Value:=F.flatMap fun f=>[Qa f.1,Qa f.2]
theorem Xc (F:List (Int×Int)) (f:Int×Int):eL (F++[f])=eL F++[Qa f.1,Qa f.2]:=by simp[eL]
theorem WU:∃ i z,Tryz.prog.info? 300=some i/\i.zero=some z/\i.size=2/\i.bytes=16/\z.cells.size=2:=⟨_,_,rfl,rfl,rfl,rfl,rfl⟩
theorem Xd (w:World) (x y:Value) (T:TypeId) (e:Nat) (he:e=w.heap.size) (j:Nat) (u:Value) (hj:[x,y][j]?=some u):(w.alloc (.cells #[x,y] T)).cell? ((⟨e,0,none⟩:Addr).add j)=some u:=by
 subst he;have hp:(⟨w.heap.size,0,none⟩:Addr).add j=(Qb w.heap.size j):=by unfold Addr.add;split <;> simp_all
 rw[hp,World.cell?_alloc_new,<- hj];simp
theorem Xe {w:World} {a b:Nat} {e e':TypeId} {s s':Nat} {v v':Value} {n n':Nat} {xs xs':List Value} (h:w.ownsRow a e s v n xs) (h':w.ownsRow b e' s' v' n' xs') (he:e≠e'):v.ownBlock=none\/v.ownBlock≠v'.ownBlock:=by
 rcases h.2 with ⟨h1,_⟩ | ⟨g,cap,cur,h1,_,h2,_⟩
 .left;rw[h1];rfl
 .right
  rcases h'.2 with ⟨k1,_⟩ | ⟨g',cap',cur',k1,_,k2,_⟩
  .rw[h1,k1];simp[Value.ownBlock]
  .rw[h1,k1]
   intro e2;have:g=g':=by simpa [Value.ownBlock] using e2
   rw[this,k2]at h2;simp at h2;exact he h2.2.symm
theorem yr {w:World} {base N cap r:Nat} {X:List Cv.ag} (h:w.ownsRow base 197 5 (.slice (some (Qb r 0)) N cap) N (flat X)):dR w r 0 X :=
 zY fun j u hu=>by
  have:=World.ownsRow.cells h (g:=r) rfl j u hu
  have hp:(⟨r,0,none⟩:Addr).add j=(Qb r j):=by unfold Addr.add;split <;> simp_all
  rwa [hp]at this
theorem Xf {w:World} {base N:Nat} {v:Value} {X:List Cv.ag} (h:w.ownsRow base 197 5 v N (flat X)):X.length=N:=by
 have:=h.1
 rw[pq]at this;omega
theorem aiO (a:Option Addr) (n c:Nat) (q:Int) (w:World):(Instr.field 406 (.agg #[.slice a n c,Qa q]) 0).run Tryz.prog w=.ok (.slice a n c) w:=by kernel_rfl
theorem aiP (a:Option Addr) (n c:Nat) (q:Int) (w:World):(Instr.field 406 (.agg #[.slice a n c,Qa q]) 1).run Tryz.prog w=.ok (Qa q) w:=by kernel_rfl
theorem ain (sd v s:Int) (B base n:Nat) (f:Int->List Cv.ag) (ps qs:List Int) (F:List (Int×Int)) (w:World) (hs:Hid (Ra.IsU s)) (hv0:0<=v) (hv1:v<=1000000) (hL:Hid (j8 w base B n f)) (hn:n<=1000)
  (hp:Hid (ps.Pairwise (· < ·))) (hm:Hid (∀ p,p∈ps↔f p≠[])) (hok:Hid (∀ p,Cv.d9 (f p))) (hlen:Hid (∀ p,(f p).length<=200)) (q_:Hid ((if sd=0 then ps.reverse else ps)=qs)) (hq:Hid (∀ p∈qs,f p≠[]/\1<=p/\p<=1000))
  (hF:Hid (Ra.nV (Ra.sh s) f qs v=F)) (Xg:Hid (F.length<=1000)) (xz:Hid (qs.length<=1000)) :
  Calls Tryz.prog 260 #[.map (some B),Qa sd,Qa v,.int .u32 s] w fun e w'=>∃ v',e=.returned v'/\w'.ownsRow w.heap.size 300 2 v' F.length (eL F)/\Qd w w':=by
 obtain⟨i0,z0,hi,hz0,hz1,hz2,hz3⟩:=WU;have Hi:=hDq hi;have eG:=hDq hz0;have eH:=hDq hz1;have eI:=hDq hz2;have kQ:=hDq hz3;clear hi hz0 hz1 hz2 hz3;go_enter Tryz.func260,Tryz.ntmps260
 go_wp2_with fail
 refine(ah5 sd B base n f ps w hL hn hp hm).mono ?_;rintro e w1 ⟨vp,rfl,Xh,hb1⟩;rw[q_.out]at Xh;have HB1:=hDq hb1;have jw:=hDq (hL.out.later hb1);clear hb1 hL;rcases Xh with ⟨vW,rfl⟩ | ⟨bp,ao1,rfl,hc⟩
 .have Lr:Hid (F=[]):=by show _=_;rw[<- hF.out,vW];rfl
  clear vW;simp only[];go_wp2;refine wp_loop_rounds 1 ?_;rw[rounds_succ];go_wp2;go_ret;exact⟨_,rfl,by rw[Lr.out];exact World.ownsRow_nil _ _ _ _,HB1.out⟩
 .obtain⟨m,HM⟩:∃ m,Hid (qs.length=m):=⟨_,rfl⟩
  rw[HM.out]at hc ⊢;have ao2:m<=1000:=by rw[<- HM.out];exact xz.out
  have HC:=hDq hc;clear hc;simp only[];go_wp2
  go_loopw [9,10,22] (fun vf az i wr=>∃ (k:Nat) (left:Int) (iR:List (Int×Int)),k<=m/\i=Qa k/\az=Qa left/\0<=left/\left<=v/\iR++Ra.nV (Ra.sh s) f (qs.drop k) left=F/\wr.ownsRow w1.heap.size 300 2 vf iR.length (eL iR)/\Qd w1 wr) (fun _ _ i _=>m-(intOf i).toNat)
  case atStart=>exact⟨0,v,[],Nat.zero_le _,rfl,rfl,hv0,Int.le_refl _,hF.out,World.ownsRow_nil _ _ _ _,bRq _ _⟩
  case round =>
   obtain⟨k,left,iR,hk,rfl,rfl,hl0,hl1,sr,hown,hbw⟩:=hrel;have HO:=hDq hown;have HW:=hDq hbw;have pW:=hDq sr;clear hown hbw sr;by_cases hlt:k<m
   .have aX:(k:Int)<m:=by omega
    obtain⟨p,hpq⟩:∃ p,qs.getD k 0=p:=⟨_,rfl⟩;have N6:k<qs.length:=by rw[HM.out];exact hlt
    have lm:qs[k]=p:=by rw[<- hpq];simp[N6]
    have uw:wr.cell? (Qb bp k)=some (Qa p):=by rw[<- hpq];exact cell_later HW.out (HC.out k hlt)
    have hmem:p∈qs:=by rw[<- lm];exact List.getElem_mem N6
    have Xi:qs.drop k=p::qs.drop (k+1):=by rw[List.drop_eq_getElem_cons N6,lm]
    obtain⟨hne,hp1,hp2⟩:=hq.out p hmem;obtain⟨D,g,mL⟩:=jw.out.later HW.out;have hrow:=mL.row p;have hrun:=mL.look (p:=p) (by omega) (by omega);rcases (mL.row p).2 with ⟨_,e0⟩ | ⟨r,CK,cur,DJ,_⟩
    .exact absurd (List.eq_nil_of_length_eq_zero e0) hne
    have hpos:Ra.Pos (f p):=fun x hx=>((Cv.gw (hok.out p x hx)).2.2.2.2).1;have Xj:=NZ (f p) (hok.out p);have ln:=hlen.out p;rw[DJ]at hrow hrun;unfold sW at hrun;have Hs:Hid (0<(f p).length):=Nat.pos_of_ne_zero fun e=>hne (List.eq_nil_of_length_eq_zero e);obtain⟨N,hN⟩:∃ N,(f p).length=N:=⟨_,rfl⟩;obtain⟨q,zw⟩:∃ q,Ra.bB (f p)=q:=⟨_,rfl⟩;have Xk:Hid (iR++Ra.rest (Ra.sh s) f (Ra.arr (Ra.sh s) (f p) left) (qs.drop (k+1)) left=F):=by
     have h1:=pW.out;rw[Xi,Ra.aiM (Ra.zn s) hpos _ _ hl0]at h1;show _=_;unfold Ra.rest;rw[Ra.NQ (Ra.zn s)];exact h1
    have Hs:Hid (0<N):=by rw[<- hN];exact Hs.out
    rw[hN]at hrow hrun ln Xj;rw[zw]at hrun Xj;have iD:=hDq hrow;have HN:=hDq hN;have Xl:=hDq hpos;have HQ:=hDq zw;clear hrow hN hpos zw mL hne Xi lm hpq DJ pW;have f0:=@aiO;have f1:=@aiP;by_cases xz:left<q
    .have Xm:(N:Int)-1=((N-1:Nat):Int):=by have:=Hs.out;omega
     go_wp2_with (at_lookup;refine NY rfl _ _ 375 rfl _ _ _ rfl rfl hrun ?_)
     refine(aib r 0 CK N (N-1) s (f p) wr hs HN (by omega) Xm (yr iD.out)).mono ?_;rintro e w2 ⟨v2,rfl,hrow2,hb2⟩;rcases hrow2.2 with ⟨_,e0⟩ | ⟨rx,zx,lh,rfl,_⟩
     .exact absurd e0 (by have:=Hs.out;omega)
     obtain⟨X,sY⟩:∃ X,Hid (Ra.sh s (f p)=X):=⟨_,rfl⟩;have CL:Hid (iR++Ra.rest (Ra.sh s) f (X.drop 0) (qs.drop (k+1)) left=F):=by
      have h1:=Xk.out;unfold Ra.arr at h1;rw[if_pos (by rw[HQ.out];exact xz),sY.out]at h1;exact h1
     have HX:Hid (w2.ownsRow 0 197 5 (.slice (some (Qb rx 0)) N zx) N (flat X)):=by rw[<- sY.out];exact gP hrow2 (Nat.zero_le _)
     have CM:Hid (Ra.Pos X):=fun x hx=>Xl.out x ((Ra.zn s (f p)).mem_iff.1 (by rw[sY.out];exact hx));have HW2:Hid (Qd w1 w2):=HW.out.trans (hb2.mono HW.out.size);have oU:Hid (w2.ownsRow w1.heap.size 300 2 u9 iR.length (eL iR)):=HO.out.kept (row:=none) ⟨hb2.os,hb2.tape,hb2.output,hb2.size,fun i hi _=>hb2.block i hi⟩ (by
      cases e:u9.ownBlock with
      | none=>exact .inl rfl
      | some _=>exact .inr (by simp))
     clear hrow2 hb2 Xm;simp only[];clear uw iD HO HW hrun f0 f1;go_wp2
     go_loopw [9,10,41] (fun vf az i wx=>∃ (j:Nat) (gQ:Int) (F1:List (Int×Int)),j<=N/\i=Qa j/\az=Qa gQ/\0<=gQ/\gQ<=left/\F1++Ra.rest (Ra.sh s) f (X.drop j) (qs.drop (k+1)) gQ=F/\wx.ownsRow w1.heap.size 300 2 vf F1.length (eL F1)/\wx.ownsRow 0 197 5 (.slice (some (Qb rx 0)) N zx) N (flat X)/\Qd w1 wx) (fun _ _ i _=>N-(intOf i).toNat)
     case atStart=>exact⟨0,left,iR,Nat.zero_le _,rfl,rfl,hl0,Int.le_refl _,CL.out,oU.out,HX.out,HW2.out⟩
     case round =>
      obtain⟨j,gQ,F1,hj,rfl,rfl,wY,DU,CO,hown,xA,hbw⟩:=hrel;have HO:=hDq hown;have er:=hDq xA;have HW:=hDq hbw;have nW:=hDq CO;have sZ:=hDq (Xf xA);clear hown xA hbw CO oU HX HW2 CL;by_cases hjn:j<N
      .have bI:(j:Int)<N:=by omega
       obtain⟨c0,c1,c2,c3,c4⟩:=(yr er.out) j (by rw[sZ.out];exact hjn);have HD:=hDq (Ra.Xb (l:=X) (k:=j) (by rw[sZ.out];exact hjn));have tK:=CM.out _ (Cv.mY (l:=X) (i:=j) (by rw[sZ.out];exact hjn));have pu:Hid (Ra.Pos (X.drop j)):=fun y hy=>CM.out y (List.mem_of_mem_drop hy);generalize Cv.nth X j=x at *;rw[Nat.zero_add]at c0 c1 c2 c3 c4;by_cases h0:gQ=0
       .subst h0
        have hmin:min x.q 0=0:=by omega
        have HR:Hid (wr.ownsRow w.heap.size 300 2 u9 F.length (eL F)):=by
         have h1:=nW.out;rw[Ra.W_ _ _ _ pu.out,aNq]at h1;rw[<- h1];exact gP HO.out HB1.out.size
        have HB:Hid (Qd w wr):=HB1.out.trans (HW.out.mono HB1.out.size);clear HO er nW HD pu;go_wp2;go_ret;exact⟨_,rfl,HR.out.alloc _,HB.out.alloc HB.out.size _⟩
       .obtain⟨t,ht⟩:∃ t,min x.q gQ=t:=⟨_,rfl⟩
        have ht1:1<=t:=by omega
        have rf:t<=gQ:=by omega
        have htb:(t==0)=false:=by simp;omega
        have cm:Hid ((F1++[(x.id,t)])++Ra.rest (Ra.sh s) f (X.drop (j+1)) (qs.drop (k+1)) (gQ-t)=F):=by
         have h1:=nW.out;rw[HD.out,Ra.Xa _ _ _ _ (by have:=pu.out;rw[HD.out]at this;exact this) _ _ (by omega),ht]at h1;show _=_;rw[<- h1];simp
        have mN:Hid (F1.length+1<=1000):=by
         have h1:=Xg.out;rw[<- cm.out]at h1;simp at h1;show _<=_;omega
        clear nW HD pu
        go_wp2_with (at_builtin;refine wpList_append_own _ rfl _ _ 294 rfl w1.heap.size 300 i0 z0 2 16 Tryz.underlying294 Hi.out eG.out eH.out eI.out kQ.out (by decide) _ _ _ rfl ((HO.out.alloc _).alloc _) ⟨wr.heap.size+1,0,none⟩ 1 1 [Qa x.id,Qa t] rfl rfl ?d1 ?d2 ?d3 ?d4 ?d5 ?_)
        case d1=>exact fun j u hj=>Xd _ _ _ _ _ (by simp) j u hj
        case d2 => intro u hu
                   simp only[List.mem_cons,List.not_mem_nil,or_false]at hu;rcases hu with rfl | rfl <;> rfl
        case d3=>have:=mN.out;unfold maxLen;omega
        case d4=>have:=mN.out;omega
        case d5=>have:=HW.out.size;simp;omega
        intro v3 w3 hown' hgrow _;have sV:Hid (w3.ownsRow w1.heap.size 300 2 v3 (F1++[(x.id,t)]).length (eL (F1++[(x.id,t)]))):=by
         show w3.ownsRow _ _ _ _ _ _;rw[Xc,lAq];exact hown'
        have CP:=HO.out.lt;have kM:Hid (w3.ownsRow 0 197 5 (.slice (some (Qb rx 0)) N zx) N (flat X)):=((er.out.alloc _).alloc _).kept hgrow (Xe er.out HO.out (by decide));have HW3:Hid (Qd w1 w3):=((HW.out.alloc HW.out.size _).alloc (by have:=HW.out.size;simp;omega) _).grown hgrow (by have:=HW.out.size;simp;omega) (fun j hj=>(CP j hj).1);clear hown' hgrow HO er HW CP c0 c1 c2 c3 c4;go_wp2;exact⟨⟨j+1,gQ-t,F1++[(x.id,t)],by omega,by go_num,by go_num,by omega,by omega,cm.out,sV.out,kM.out,HW3.out⟩,by simp[intOf];omega⟩
      .have bI:¬ (j:Int)<N:=by omega
       have cm:Hid (F1++Ra.nV (Ra.sh s) f (qs.drop (k+1)) gQ=F):=by
        have h1:=nW.out;rw[List.drop_of_length_le (by rw[sZ.out];omega),Ra.FR _ _ _ _ wY]at h1;exact h1
       clear nW er;go_wp2;exact⟨⟨k+1,gQ,F1,by omega,by go_num,rfl,wY,by omega,cm.out,HO.out,HW.out⟩,by simp[intOf];omega⟩
    .obtain⟨X,sY⟩:∃ X,Hid (f p=X):=⟨_,rfl⟩
     obtain⟨rx,aiQ⟩:∃ rx,r=rx:=⟨_,rfl⟩;obtain⟨zx,hcx⟩:∃ zx,CK=zx:=⟨_,rfl⟩;subst aiQ hcx;have CL:Hid (iR++Ra.rest (Ra.sh s) f (X.drop 0) (qs.drop (k+1)) left=F):=by
      have h1:=Xk.out;unfold Ra.arr at h1;rw[if_neg (by rw[HQ.out];exact xz),sY.out]at h1;exact h1
     have HX:Hid (wr.ownsRow 0 197 5 (.slice (some (Qb r 0)) N CK) N (flat X)):=by rw[<- sY.out];exact gP iD.out (Nat.zero_le _)
     have CM:Hid (Ra.Pos X):=fun x hx=>Xl.out x (by rw[sY.out];exact hx);have HW2:=HW;have oU:=HO
     go_wp2_with (at_lookup;refine NY rfl _ _ 375 rfl _ _ _ rfl rfl hrun ?_)
     clear uw iD HO HW hrun f0 f1
     go_loopw [9,10,41] (fun vf az i wx=>∃ (j:Nat) (gQ:Int) (F1:List (Int×Int)),j<=N/\i=Qa j/\az=Qa gQ/\0<=gQ/\gQ<=left/\F1++Ra.rest (Ra.sh s) f (X.drop j) (qs.drop (k+1)) gQ=F/\wx.ownsRow w1.heap.size 300 2 vf F1.length (eL F1)/\wx.ownsRow 0 197 5 (.slice (some (Qb r 0)) N CK) N (flat X)/\Qd w1 wx) (fun _ _ i _=>N-(intOf i).toNat)
     case atStart=>exact⟨0,left,iR,Nat.zero_le _,rfl,rfl,hl0,Int.le_refl _,CL.out,oU.out,HX.out,HW2.out⟩
     case round =>
      obtain⟨j,gQ,F1,hj,rfl,rfl,wY,DU,CO,hown,xA,hbw⟩:=hrel;have HO:=hDq hown;have er:=hDq xA;have HW:=hDq hbw;have nW:=hDq CO;have sZ:=hDq (Xf xA);clear hown xA hbw CO oU HX HW2 CL;by_cases hjn:j<N
      .have bI:(j:Int)<N:=by omega
       obtain⟨c0,c1,c2,c3,c4⟩:=(yr er.out) j (by rw[sZ.out];exact hjn);have HD:=hDq (Ra.Xb (l:=X) (k:=j) (by rw[sZ.out];exact hjn));have tK:=CM.out _ (Cv.mY (l:=X) (i:=j) (by rw[sZ.out];exact hjn));have pu:Hid (Ra.Pos (X.drop j)):=fun y hy=>CM.out y (List.mem_of_mem_drop hy);generalize Cv.nth X j=x at *;rw[Nat.zero_add]at c0 c1 c2 c3 c4;by_cases h0:gQ=0
       .subst h0
        have hmin:min x.q 0=0:=by omega
        have HR:Hid (wr.ownsRow w.heap.size 300 2 u9 F.length (eL F)):=by
         have h1:=nW.out;rw[Ra.W_ _ _ _ pu.out,aNq]at h1;rw[<- h1];exact gP HO.out HB1.out.size
        have HB:Hid (Qd w wr):=HB1.out.trans (HW.out.mono HB1.out.size);clear HO er nW HD pu;go_wp2;go_ret;exact⟨_,rfl,HR.out.alloc _,HB.out.alloc HB.out.size _⟩
       .obtain⟨t,ht⟩:∃ t,min x.q gQ=t:=⟨_,rfl⟩
        have ht1:1<=t:=by omega
        have rf:t<=gQ:=by omega
        have htb:(t==0)=false:=by simp;omega
        have cm:Hid ((F1++[(x.id,t)])++Ra.rest (Ra.sh s) f (X.drop (j+1)) (qs.drop (k+1)) (gQ-t)=F):=by
         have h1:=nW.out;rw[HD.out,Ra.Xa _ _ _ _ (by have:=pu.out;rw[HD.out]at this;exact this) _ _ (by omega),ht]at h1;show _=_;rw[<- h1];simp
        have mN:Hid (F1.length+1<=1000):=by
         have h1:=Xg.out;rw[<- cm.out]at h1;simp at h1;show _<=_;omega
        clear nW HD pu
        go_wp2_with (at_builtin;refine wpList_append_own _ rfl _ _ 294 rfl w1.heap.size 300 i0 z0 2 16 Tryz.underlying294 Hi.out eG.out eH.out eI.out kQ.out (by decide) _ _ _ rfl ((HO.out.alloc _).alloc _) ⟨wr.heap.size+1,0,none⟩ 1 1 [Qa x.id,Qa t] rfl rfl ?d1 ?d2 ?d3 ?d4 ?d5 ?_)
        case d1=>exact fun j u hj=>Xd _ _ _ _ _ (by simp) j u hj
        case d2 => intro u hu
                   simp only[List.mem_cons,List.not_mem_nil,or_false]at hu;rcases hu with rfl | rfl <;> rfl
        case d3=>have:=mN.out;unfold maxLen;omega
        case d4=>have:=mN.out;omega
        case d5=>have:=HW.out.size;simp;omega
        intro v3 w3 hown' hgrow _;have sV:Hid (w3.ownsRow w1.heap.size 300 2 v3 (F1++[(x.id,t)]).length (eL (F1++[(x.id,t)]))):=by
         show w3.ownsRow _ _ _ _ _ _;rw[Xc,lAq];exact hown'
        have CP:=HO.out.lt;have kM:Hid (w3.ownsRow 0 197 5 (.slice (some (Qb r 0)) N CK) N (flat X)):=((er.out.alloc _).alloc _).kept hgrow (Xe er.out HO.out (by decide));have HW3:Hid (Qd w1 w3):=((HW.out.alloc HW.out.size _).alloc (by have:=HW.out.size;simp;omega) _).grown hgrow (by have:=HW.out.size;simp;omega) (fun j hj=>(CP j hj).1);clear hown' hgrow HO er HW CP c0 c1 c2 c3 c4;go_wp2;exact⟨⟨j+1,gQ-t,F1++[(x.id,t)],by omega,by go_num,by go_num,by omega,by omega,cm.out,sV.out,kM.out,HW3.out⟩,by simp[intOf];omega⟩
      .have bI:¬ (j:Int)<N:=by omega
       have cm:Hid (F1++Ra.nV (Ra.sh s) f (qs.drop (k+1)) gQ=F):=by
        have h1:=nW.out;rw[List.drop_of_length_le (by rw[sZ.out];omega),Ra.FR _ _ _ _ wY]at h1;exact h1
       clear nW er;go_wp2;exact⟨⟨k+1,gQ,F1,by omega,by go_num,rfl,wY,by omega,cm.out,HO.out,HW.out⟩,by simp[intOf];omega⟩
   .have aX:¬ (k:Int)<m:=by omega
    have NL:Hid (wr.ownsRow w.heap.size 300 2 u9 F.length (eL F)):=by
     have h1:=pW.out;rw[List.drop_of_length_le (by rw[HM.out];omega)]at h1;have h2:iR=F:=by rw[<- h1];simp[Ra.nV,Ra.zv,Ra.fill]
     have:=HO.out
     rw[h2]at this;exact gP this HB1.out.size
    have HB:Hid (Qd w wr):=HB1.out.trans (HW.out.mono HB1.out.size);clear HO pW;go_wp2;go_ret;exact⟨_,rfl,NL.out,HB.out⟩
end
namespace Ra
open Cv
def pj (sd:Int) (j:Nat):Int:=if sd=0 then 1000-(j:Int) else 1+(j:Int)
def cnt (sd price:Int):Nat:=if sd=0 then (1001-price).toNat else price.toNat
def full (sd price:Int):List Int:=(List.range (cnt sd price)).map (pj sd)
theorem aiU (sd price:Int):NT sd (full sd price):=by
 refine List.pairwise_map.2 (List.pairwise_lt_range.imp fun {a b} h=>?_);unfold pj better;split <;> simp <;> omega
theorem aiV {sd price p:Int} (h1:1<=price) (h2:price<=1000):p∈full sd price↔(1<=p/\p<=1000)/\better sd price p=false:=by
 unfold full cnt pj better;by_cases hs:sd=0
 .simp only[hs,if_true,List.mem_map,List.mem_range,decide_eq_false_iff_not]
  constructor
  .rintro⟨j,hj,rfl⟩;omega
  .rintro⟨⟨h3,h4⟩,h5⟩;exact⟨(1000-p).toNat,by omega,by omega⟩
 .simp only[hs,if_false,List.mem_map,List.mem_range,decide_eq_false_iff_not]
  constructor
  .rintro⟨j,hj,rfl⟩;omega
  .rintro⟨⟨h3,h4⟩,h5⟩;exact⟨(p-1).toNat,by omega,by omega⟩
def mM (l:List ag) (sd price:Int):List Int:=(full sd price).filter fun p=>!(lv l sd p).isEmpty
theorem Xq (l:List ag) (sd price:Int):NT sd (mM l sd price):=(aiU sd price).filter _
theorem N8 (l:List ag) {sd price p:Int} (h:better sd price p=false):az sd price l p=lv l sd p:=by
 unfold az lv;refine List.filter_congr fun x _=>?_;unfold el;by_cases e:x.pr=p
 .rw[e,h];simp
 .have e2:(x.pr==p)=false:=by simpa using e
  rw[e2];simp
theorem Hm {l:List ag} {sd price p:Int} (ho:d9 l) (h:az sd price l p≠[]):(1<=p/\p<=1000)/\better sd price p=false:=by
 obtain⟨x,hx⟩:=List.exists_mem_of_ne_nil _ h;obtain⟨hx1,hx2⟩:=List.mem_filter.1 hx;simp only[el,Bool.and_eq_true,beq_iff_eq,Bool.not_eq_true']at hx2
 have:=(gw (ho x hx1)).2.2.2.1
 rw[<- hx2.2];exact⟨this,hx2.1.2⟩
theorem zq {l:List ag} {sd price p:Int} (ho:d9 l) (h1:1<=price) (h2:price<=1000):p∈mM l sd price↔az sd price l p≠[]:=by
 unfold mM;rw[List.mem_filter,aiV h1 h2];constructor
 .rintro⟨⟨_,hb⟩,hne⟩
  rw[N8 l hb];simpa using hne
 .intro h
  obtain⟨h3,hb⟩:=Hm ho h;rw[N8 l hb]at h;exact⟨⟨h3,hb⟩,by simpa using h⟩
theorem NV {l:List ag} (h:d9 l):Pos l:=fun x hx=>((gw (h x hx)).2.2.2.2).1
def side (s:Int) (l:List ag) (sd price v:Int):List (Int×Int):=sf (sh s) l sd (full sd price) v
theorem Hl (s:Int) {l:List ag} (ho:d9 l) (sd price v:Int) (hv:0<=v):side s l sd price v=fill (row (sh s) l sd (mM l sd price) v) v:=by
 unfold side;rw[<- NS (zn s) (NV ho) sd (full sd price) v hv];rfl
theorem aip (s:Int) {l:List ag} (ho:d9 l) (sd price v:Int) (h1:1<=price) (h2:price<=1000) (hv:0<=v):nV (sh s) (az sd price l) (mM l sd price) v=side s l sd price v:=by
 rw[Hl s ho sd price v hv];unfold nV;rw[W9 (sh s) l sd _ _ _ fun p hp=>N8 l (Hm ho ((zq ho h1 h2).1 hp)).2]
theorem aio (l:List ag) (sd price:Int):(if sd=0 then (mM l sd price).reverse else mM l sd price).Pairwise (· < ·):=by
 have h:=Xq l sd price;unfold NT at h;split
 .rename_i e
  subst e;rw[List.pairwise_reverse];exact h.imp fun h=>by simpa [better] using h
 .rename_i e
  exact h.imp fun h=>by simpa [better,e] using h
theorem aiW (l:List ag) (sd price:Int):(mM l sd price).Nodup:=(Xq l sd price).imp fun {a b} h e=>by
 rw[e,aih]at h;cases h
theorem WQ (s:Int) {l:List ag} (ho:d9 l) (sd price v:Int) (h1:1<=price) (h2:price<=1000):(row (sh s) l sd (mM l sd price) v).Perm (l.filter (el sd price)):=by
 refine(WK (zn s) l sd _ v).trans ((WM l sd _ (aiW l sd price)).trans ?_);rw[List.filter_congr (q:=el sd price) fun x hx=>?_];unfold el;cases hs:x.sd==sd
 .rfl
 .simp only[Bool.true_and]
  cases hb:better sd price x.pr
  .rw[Bool.not_false,List.contains_iff_mem,zq ho h1 h2]
   intro e;have:x∈az sd price l x.pr:=List.mem_filter.2 ⟨hx,by simp[el,hs,hb]⟩;rw[e]at this;cases this
  .rw[Bool.not_true]
   refine Bool.eq_false_iff.2 fun e=>?_
   have:=(Hm ho ((zq ho h1 h2).1 (List.contains_iff_mem.1 e))).2
   rw[hb]at this;cases this
theorem Xr:∀ (l:List ag) (v:Int),(fill l v).length<=l.length
 | [],_=>lRq _
 | x::l,v=>by
  rw[fill];split
  .exact Nat.zero_le _
  .have:=Xr l (v-min x.q v)
   simp;omega
theorem AZ (s:Int) {l:List ag} (ho:d9 l) (sd price v:Int) (h1:1<=price) (h2:price<=1000) (hv:0<=v):(side s l sd price v).length<=l.length:=by
 rw[Hl s ho sd price v hv];exact lTq (Xr _ _) (by rw[(WQ s ho sd price v h1 h2).length_eq];exact List.length_filter_le _ _)
theorem ail (l:List ag) (price:Int):bB (l.filter (el 0 price))=iN l price/\bB (l.filter (el 1 price))=jQ l price:=by
 refine⟨?_,?_⟩
 .rw[NM]
  refine D6 l fun x _=>?_;unfold el h_ better;by_cases h:price<=x.pr
  .rw[decide_eq_true h,if_pos rfl,decide_eq_false (by omega)];rfl
  .rw[decide_eq_false h,if_pos rfl,decide_eq_true (by omega)];rfl
 .rw[NM]
  refine D6 l fun x _=>?_;unfold el sB better;by_cases h:x.pr<=price
  .rw[decide_eq_true h,if_neg (by decide),decide_eq_false (by omega)];rfl
  .rw[decide_eq_false h,if_neg (by decide),decide_eq_true (by omega)];rfl
end Ra
section
open Go.RowKit
theorem WT (sd price v s:Int) (B base n:Nat) (l:List Cv.ag) (w:World) (hs:Ra.IsU s) (hv0:0<=v) (hv1:v<=1000000) (hL:j8 w base B n (az sd price l)) (hn:n<=1000) (hok:Cv.d9 l) (U6:l.length<=120) (h1:1<=price) (h2:price<=1000) :
  Calls Tryz.prog 260 #[.map (some B),Qa sd,Qa v,.int .u32 s] w fun e w'=>∃ v',e=.returned v'/\w'.ownsRow w.heap.size 300 2 v' (Ra.side s l sd price v).length (eL (Ra.side s l sd price v))/\Qd w w':=by
 have aim:(Ra.mM l sd price).length<=1000:=by
  refine lTq (List.length_filter_le _ _) ?_;unfold Ra.full Ra.cnt;rw[List.length_map,List.length_range];split <;> omega
 refine ain sd v s B base n (az sd price l) (if sd=0 then (Ra.mM l sd price).reverse else Ra.mM l sd price) (Ra.mM l sd price) _ w hs hv0 hv1 hL hn (Ra.aio l sd price) (fun p=>?_) (fun p=>hok.filter _) (fun p=>lTq (List.length_filter_le _ _) (by omega)) ?_ (fun p hp=>?_) (Ra.aip s hok sd price v h1 h2 hv0) (lTq (Ra.AZ s hok sd price v h1 h2 hv0) (by omega)) aim
 .split
  .rw[List.mem_reverse];exact Ra.zq hok h1 h2
  .exact Ra.zq hok h1 h2
 .show _=_
  split <;> simp
 .have h3:=(Ra.zq hok h1 h2).1 hp
  exact⟨h3,(Ra.Hm hok h3).1⟩
/-! check -/
theorem aeE (a:Option Addr) (n cap:Nat) (price vol most:Int) (T:TypeId) (v2:Value) (w:World) (hc:Hid (Calls Tryz.prog 250 #[.slice a n cap] w fun e w'=>e=.returned .nilIface/\Qd w w')) (c2:w.cell? (Qb 3 0)=some (.iface T v2)) (hp:Hid (ah.aG price 1 1000=true)) (hv:¬ vol<0)
  (hm:Hid (∀ w1,Qd w w1->Calls Tryz.prog 286 #[.slice a n cap,Qa price] w1 fun e w'=>e=.returned (Qa most)/\Qd w1 w')) :
  Calls Tryz.prog 258 #[.slice a n cap,Qa price,Qa vol] w fun e w'=>e=.returned (if most<vol then .iface T v2 else .nilIface)/\Qd w w':=by
 have h0:(0:Int)<=vol:=by omega
 by_cases hb:most<vol
 all_goals
  first | rw[if_pos hb] | rw[if_neg hb]
  go_enter Tryz.func258,Tryz.ntmps258
  go_wp2_with fail
  refine hc.out.mono ?_;rintro e w1 ⟨rfl,hb1⟩;have HB1:=hDq hb1;have d2:=cell_later hb1 c2;clear hb1;simp only[]
  go_wp2_with fail
  refine(gH _ _ _ _).mono ?_;rintro e w2 ⟨rfl,rfl⟩;rw[hp.out];simp only[]
  go_wp2_with fail
  refine(hm.out _ HB1.out).mono ?_;rintro e w3 ⟨rfl,hb3⟩;have au:=hDq (HB1.out.trans (hb3.mono HB1.out.size));have d3:=cell_later au.out c2;clear hb3 d2;simp only[];go_wp2;go_ret;exact⟨rfl,au.out⟩
/-! ao0 -/
theorem cO {w w':World} {base:Nat} {e:TypeId} {size:Nat} {v:Value} {n:Nat} {xs:List Value} (h:w.ownsRow base e size v n xs) (hb:Qd w w'):w'.ownsRow base e size v n xs :=
 h.kept (row:=none) ⟨hb.os,hb.tape,hb.output,hb.size,fun i hi _=>hb.block i hi⟩ (by
  cases e:v.ownBlock with
  | none=>exact .inl rfl
  | some _=>exact .inr (by simp))
theorem aiq (F G:List (Int×Int)):eL (F++G)=eL F++eL G:=by simp[eL]
theorem air (F:List (Int×Int)):(eL F).length=F.length*2:=by
 induction F with
 | nil=>rfl
 | cons f F ih=>simp[eL]at ih ⊢;omega
theorem ais (F:List (Int×Int)):∀ u∈eL F,u.oneCell'=true:=fun u hu=>by
 obtain⟨f,_,hf⟩:=List.mem_flatMap.1 hu;simp only[List.mem_cons,List.not_mem_nil,or_false]at hf;rcases hf with rfl | rfl <;> rfl
theorem aeF (a:Option Addr) (n cap:Nat) (price vol s s1:Int) (l:List Cv.ag) (iR F1:List (Int×Int)) (w:World) (rT:Hid (Calls Tryz.prog 258 #[.slice a n cap,Qa price,Qa vol] w fun e w'=>e=.returned .nilIface/\Qd w w'))
  (hv:Hid (fU w (.slice a n cap) l)) (hok:Hid (Cv.d8 l)) (h1:1<=price) (h2:price<=1000) (hv0:0<=vol) (hv1:vol<=1000000) (hs:Hid (Ra.IsU s)) (hs1:Hid (Ra.IsU s1)) (yx:(s=4294967295/\s1=0)\/(0<=s/\s<4294967295/\s1=s+1))
  (Bg:Hid (Ra.side s l 0 price vol=iR)) (FM:Hid (Ra.side s1 l 1 price vol=F1)) (hl0:iR.length<=120) (hl1:F1.length<=120) :
  Calls Tryz.prog 222 #[.slice a n cap,Qa price,Qa vol,.int .u32 s] w fun e w'=>∃ v',e=.returned (.tuple #[v',.nilIface])/\w'.ownsRow w.heap.size 300 2 v' (iR++F1).length (eL (iR++F1))/\Qd w w':=by
 obtain⟨i0,z0,hi,hz0,hz1,hz2,hz3⟩:=WU;have Hi:=hDq hi;have eG:=hDq hz0;have eH:=hDq hz1;have eI:=hDq hz2;have kQ:=hDq hz3;clear hi hz0 hz1 hz2 hz3;have WV:l.length<=120:=hok.out.1;rcases yx with ⟨rfl,rfl⟩ | ⟨hs0,hs2,rfl⟩
 all_goals
  go_enter Tryz.func222,Tryz.ntmps222
  go_wp2_with fail
  refine rT.out.mono ?_;rintro e w1 ⟨rfl,hb1⟩;have HB1:=hDq hb1;clear hb1;simp only[]
  go_wp2_with fail
  refine(WW _ 0 price l w1 (hv.out.later HB1.out) hok.out).mono ?_;rintro e w2 ⟨rfl,hL2,hb2⟩;have HB2:=hDq (HB1.out.trans (hb2.mono HB1.out.size));have jd:=hDq hL2;clear hb2 hL2;simp only[]
  go_wp2_with fail
  refine(WT 0 price vol _ _ _ _ l w2 hs.out hv0 hv1 jd.out (by omega) hok.out.oks WV h1 h2).mono ?_;rintro e w3 ⟨vb,rfl,hrb,hb3⟩;rw[Bg.out]at hrb;have zt:=hDq (gP hrb HB2.out.size);have au:=hDq (HB2.out.trans (hb3.mono HB2.out.size));clear hrb hb3;simp only[]
  go_wp2_with fail
  refine(WW _ 1 price l w3 (hv.out.later au.out) hok.out).mono ?_;rintro e w4 ⟨rfl,hL4,hb4⟩;have bJ:=hDq (au.out.trans (hb4.mono au.out.size));have oF:=hDq hL4;have WX:=hDq (cO zt.out hb4);clear hb4 hL4;simp only[]
  go_wp2_with fail
  refine(WT 1 price vol _ _ _ _ l w4 hs1.out hv0 hv1 oF.out (by omega) hok.out.oks WV h1 h2).mono ?_;rintro e aC ⟨vs,rfl,hrs,di⟩;rw[FM.out]at hrs;have gB:=hDq (gP hrs bJ.out.size);have ck:=hDq (bJ.out.trans (di.mono bJ.out.size));have xw:=hDq (cO WX.out di);clear hrs di zt WX jd oF;simp only[];rcases gB.out.2 with ⟨rfl,h0⟩ | ⟨rs,cs,aeU,rfl,_⟩
  .have fO:Hid (F1=[]):=List.eq_nil_of_length_eq_zero h0
   have HR:Hid (aC.ownsRow w.heap.size 300 2 vb (iR++F1).length (eL (iR++F1))):=by
    rw[fO.out,aNq];exact xw.out
   clear h0;rcases xw.out.2 with ⟨rfl,_⟩ | ⟨rb,cb,TG,rfl,_,_,hcb,_⟩
   .clear xw gB
    go_wp2;go_ret2;exact⟨_,rfl,HR.out,ck.out⟩
   .clear xw gB
    go_wp2;go_ret2;exact⟨_,rfl,HR.out,ck.out⟩
  .have HC:Hid (∀ j u,(eL F1)[j]?=some u->aC.cell? ((⟨rs,0,none⟩:Addr).add j)=some u):=fun j u hu=>World.ownsRow.cells gB.out (g:=rs) rfl j u hu
   go_wp2_with (at_builtin;refine wpList_append_own _ rfl _ _ 294 rfl w.heap.size 300 i0 z0 2 16 Tryz.underlying294 Hi.out eG.out eH.out eI.out kQ.out (by decide) _ _ _ rfl xw.out (Qb rs 0) F1.length cs (eL F1) rfl (air F1) HC.out (ais F1) ?d3 ?d4 ?d5 ?_)
   case d3=>unfold maxLen;omega
   case d4=>omega
   case d5=>exact ck.out.size
   intro v6 ai hown6 WY _;have HR:Hid (ai.ownsRow w.heap.size 300 2 v6 (iR++F1).length (eL (iR++F1))):=by
    show World.ownsRow _ _ _ _ _ _ _;rw[aiq,lAq];exact hown6
   have hlt:=xw.out.lt;have aY:Hid (Qd w ai):=ck.out.grown WY ck.out.size (fun j hj=>(hlt j hj).1);clear hown6 WY gB HC xw hlt;go_wp2;go_ret2;exact⟨_,rfl,HR.out,aY.out⟩
def eQ (F:List (Int×Int)) (i:Nat):Int×Int:=F.getD i (0,0)
def Kg (w:World) (v:Value) (F:List (Int×Int)):Prop :=
 (F=[]/\∃ a cap,v=.slice a 0 cap)\/∃ b cap,v=.slice (some (Qb b 0)) F.length cap/\∀ i,i<F.length->w.cell? ⟨b,i*2,none⟩=some (Qa (eQ F i).1)/\w.cell? ⟨b,i*2+1,none⟩=some (Qa (eQ F i).2)
theorem N5:∀ (F:List (Int×Int)) (i:Nat),i<F.length->(eL F)[i*2]?=some (Qa (eQ F i).1)/\(eL F)[i*2+1]?=some (Qa (eQ F i).2)
 | [],i,h=>absurd h (Nat.not_lt_zero i)
 | f::F,0,_=>by simp[eL,eQ]
 | f::F,i+1,h=>by
  have ih:=N5 F i (by simpa using h);have e:eL (f::F)=Qa f.1::Qa f.2::eL F:=rfl;rw[e,show (i+1)*2=i*2+1+1 by omega];refine⟨?_,?_⟩
  .rw[List.getElem?_cons_succ,List.getElem?_cons_succ,ih.1];rfl
  .rw[List.getElem?_cons_succ,List.getElem?_cons_succ,ih.2];rfl
theorem aey {w:World} {base:Nat} {v:Value} {F:List (Int×Int)} (h:w.ownsRow base 300 2 v F.length (eL F)):Kg w v F:=by
 rcases h.2 with ⟨h1,h2⟩ | ⟨g,cap,cur,h1,_⟩
 .exact .inl ⟨List.eq_nil_of_length_eq_zero h2,none,0,h1⟩
 .refine .inr ⟨g,cap,h1,fun i hi=>?_⟩
  have key:∀ j u,(eL F)[j]?=some u->w.cell? (Qb g j)=some u:=fun j u hu=>by
   have:=World.ownsRow.cells h (g:=g) (by rw[h1];rfl) j u hu
   have hp:(⟨g,0,none⟩:Addr).add j=(Qb g j):=by unfold Addr.add;split <;> simp_all
   rwa [hp]at this
  exact⟨key _ _ (N5 F i hi).1,key _ _ (N5 F i hi).2⟩
theorem adX {F:List (Int×Int)} {k:Nat} (h:k<F.length):F.take (k+1)=F.take k++[eQ F k]:=by
 unfold eQ;rw[List.take_succ_eq_append_getElem h,gE,List.getElem?_eq_getElem h];rfl
namespace Ra
def gW (l:List Cv.ag) (price vol:Int):Prop:=Cv.d8 l/\(1<=price/\price<=1000)/\0<=vol/\vol<=Cv.dy l price
def su (s:Int):Int:=if s=4294967295 then 0 else s+1
def fills (s:Int) (l:List Cv.ag) (price vol:Int):List (Int×Int):=side s l 0 price vol++side (su s) l 1 price vol
theorem aeG {s:Int} (h:IsU s):IsU (su s):=by
 unfold su;split
 .exact⟨by omega,by omega⟩
 .exact⟨by have:=h.1;omega,by have:=h.2;omega⟩
theorem Td (s:Int) {l:List Cv.ag} {price vol:Int} (h:gW l price vol):(side s l 0 price vol).length<=120/\(side (su s) l 1 price vol).length<=120:=by
 obtain⟨h1,⟨h2,h3⟩,h4,_⟩:=h
 have:=h1.1
 exact⟨lTq (AZ _ h1.oks 0 price vol h2 h3 h4) this,lTq (AZ _ h1.oks 1 price vol h2 h3 h4) this⟩
end Ra
theorem aeD {l:List Cv.ag} (h:Cv.d8 l) (p:Int):Cv.dy l p<=120000:=by
 have:=Cv.acm l p h
 unfold Cv.dy;omega
/-! the closed fact -/
def two:List Cv.ag:=[⟨1,0,0,10,5⟩,⟨2,0,1,8,4⟩]
end
namespace Ra
open Cv
theorem Hg {l:List ag} (h:d8 l):eP l:=by
 unfold eP;rw[List.nodup_iff_pairwise_ne,List.pairwise_iff_getElem];intro i j hi hj hij;rw[List.length_map]at hi hj;rw[List.getElem_map,List.getElem_map];intro e;have h2:=h.2 j hj;simp only[mZ,Bool.and_eq_true,Bool.not_eq_true']at h2;have h3:=h2.2;unfold has at h3;rw[List.any_eq_false]at h3;refine h3 l[i] (List.mem_take_iff_getElem.2 ⟨i,by omega,rfl⟩) ?_;have e2:nth l j=l[j]:=by unfold nth;rw[gE,List.getElem?_eq_getElem hj];rfl
 rw[e2,e];simp
theorem WN {l:List ag} (h:eP l) {x y:ag} (hx:x∈l) (hy:y∈l) (e:x.id=y.id):x=y:=by
 obtain⟨a,b,rfl⟩:=List.append_of_mem hx;unfold eP at h;rw[List.map_append,List.map_cons,List.nodup_append]at h;obtain⟨_,h2,h3⟩:=h;obtain⟨h4,_⟩:=List.nodup_cons.1 h2;rcases List.mem_append.1 hy with hy | hy
 .exact absurd e.symm (h3 _ (List.mem_map.2 ⟨y,hy,rfl⟩) _ mSq)
 .rcases List.mem_cons.1 hy with hy | hy
  .exact hy.symm
  .exact absurd (List.mem_map.2 ⟨y,hy,e.symm⟩) h4
theorem WO {l:List ag} (h:eP l) (f:ag->Bool):eP (l.filter f):=by
 unfold eP at *;exact List.Nodup.sublist (List.Sublist.map _ List.filter_sublist) h
def aij (s sd:Int):Int:=if sd=0 then s else su s
def ord (s:Int) (l:List ag) (sd price vol:Int):List ag:=row (sh (aij s sd)) l sd (mM l sd price) vol
theorem NU {l:List ag} {price vol:Int} (hf:gW l price vol) (s:Int) (sd:Int):(ord s l sd price vol).Perm (l.filter (el sd price)):=WQ _ hf.1.oks sd price vol hf.2.1.1 hf.2.1.2
theorem wS {l:List ag} {price vol:Int} (hf:gW l price vol) (s:Int) {sd:Int} {x:ag}:x∈ord s l sd price vol↔x∈l/\el sd price x=true:=by
 rw[(NU hf s sd).mem_iff,List.mem_filter]
theorem wR {l:List ag} {price vol:Int} (hf:gW l price vol) (s:Int) (sd:Int):Pos (ord s l sd price vol):=fun x hx=>NV hf.1.oks x ((wS hf s).1 hx).1
theorem aik {l:List ag} {price vol:Int} (hf:gW l price vol) (s:Int) (sd:Int):eP (ord s l sd price vol):=(WO (Hg hf.1) _).perm (NU hf s sd).symm
theorem T9 {l:List ag} {price vol:Int} (hf:gW l price vol) (s:Int):fills s l price vol=fill (ord s l 0 price vol) vol++fill (ord s l 1 price vol) vol:=by
 unfold fills;rw[Hl s hf.1.oks 0 price vol hf.2.2.1,Hl (su s) hf.1.oks 1 price vol hf.2.2.1];rfl
theorem NW {l:List ag} {price vol:Int} (hf:gW l price vol) (s:Int) {x:ag} (hx:x∈l):got x.id (fills s l price vol)=got x.id (fill (ord s l x.sd price vol) vol):=by
 have hz:∀ sd,x.sd≠sd->got x.id (fill (ord s l sd price vol) vol)=0:=fun sd hne=>WE _ _ _ (wR hf s sd) hf.2.2.1 fun y hy e=>by
  obtain⟨hy1,uX⟩:=(wS hf s).1 hy
  have:=WN (Hg hf.1) hy1 hx e
  subst this;simp only[el,Bool.and_eq_true,beq_iff_eq]at uX;exact hne uX.1
 have hsd:=(gw (hf.1.oks x hx)).2.2.1;rw[T9 hf s,BH];by_cases h:x.sd=0
 .rw[hz 1 (by omega),h];omega
 .have:x.sd=1:=by omega
  rw[hz 0 h,this];omega
theorem T_ {l:List ag} {price vol:Int} (hf:gW l price vol) (s:Int) {x:ag} (hx:x∈l) (h:el x.sd price x=false):got x.id (fills s l price vol)=0:=by
 rw[NW hf s hx];refine WE _ _ _ (wR hf s _) hf.2.2.1 fun y hy e=>?_;obtain⟨hy1,uX⟩:=(wS hf s).1 hy
 have:=WN (Hg hf.1) hy1 hx e
 subst this;rw[h]at uX;cases uX
theorem afm {l:List ag} {price vol:Int} (hf:gW l price vol) (s:Int) {x:ag} (hx:x∈l):0<=got x.id (fills s l price vol)/\got x.id (fills s l price vol)<=x.q:=by
 have hq:=NV hf.1.oks x hx;cases h:el x.sd price x with
 | false=>rw[T_ hf s hx h];omega
 | true =>
  rw[NW hf s hx];exact aii (wR hf s _) hf.2.2.1 (aik hf s _) ((wS hf s).2 ⟨hx,h⟩)
def wT (F:List (Int×Int)) (sd:Int):List ag->Int
 | []=>0
 | x::l=>(if x.sd=sd then got x.id F else 0)+wT F sd l
theorem WR (F:List (Int×Int)) (sd:Int):∀ l:List ag,wT F sd l=gT F (l.filter fun x=>x.sd==sd)
 | []=>rfl
 | x::l=>by
  have ih:=WR F sd l;rw[List.filter_cons];by_cases h:x.sd=sd
  .simp[wT,gT,h,ih]
  .simp[wT,h,ih]
theorem WS {F G:List (Int×Int)}:∀ l:List ag,(∀ x∈l,got x.id F=got x.id G)->gT F l=gT G l
 | [],_=>rfl
 | x::l,h=>by
  simp only[gT];rw[h x mSq,WS l (fun y hy=>h y (mOq _ hy))]
theorem La {l:List ag} {price vol:Int} (hf:gW l price vol) (s sd:Int) (hsd:sd=0\/sd=1):wT (fills s l price vol) sd l=vol:=by
 rw[WR];rw[WS (G:=fill (ord s l sd price vol) vol) _ fun x hx=>?_]
 .rw[WH _ (WO (Hg hf.1) _) _ fun f hf'=>?_]
  .rw[WC _ _ (wR hf s sd) hf.2.2.1,WB (NU hf s sd)]
   have h1:=ail l price;have h2:=hf.2.2.2;unfold dy at h2;rcases hsd with rfl | rfl
   .rw[h1.1];omega
   .rw[h1.2];omega
  .obtain⟨_,x,hx,e⟩:=wQ _ _ (wR hf s sd) hf.2.2.1 f hf'
   obtain⟨hx1,hx2⟩:=(wS hf s).1 hx;simp only[el,Bool.and_eq_true]at hx2;exact⟨x,List.mem_filter.2 ⟨hx1,hx2.1⟩,e⟩
 .obtain⟨hx1,hx2⟩:=List.mem_filter.1 hx
  have:x.sd=sd:=by simpa using hx2
  rw[NW hf s hx1,this]
end Ra
namespace Fs
open Cv Bk Ra Pu Fu
theorem T8 {l:List ag} {price vol:Int} (hf:gW l price vol) (s:Int):∀ f∈fills s l price vol,1<=f.2/\∃ x∈l,x.id=f.1:=by
 intro f hm;rw[T9 hf s]at hm;rcases List.mem_append.1 hm with h | h
 .obtain⟨h1,x,hx,he⟩:=wQ _ _ (wR hf s 0) hf.2.2.1 f h
  exact⟨h1,x,((wS hf s).1 hx).1,he⟩
 .obtain⟨h1,x,hx,he⟩:=wQ _ _ (wR hf s 1) hf.2.2.1 f h
  exact⟨h1,x,((wS hf s).1 hx).1,he⟩
theorem FE (F:List (Int×Int)) (sd:Int):∀ l:List ag,wT F sd l=aW (fun x=>if x.sd=sd then got x.id F else 0) l
 | []=>rfl
 | x::l=>by rw[wT,aW,FE F sd l]
theorem SC {l:List ag} {price vol:Int} (hf:gW l price vol) (s:Int):wj l price (fills s l price vol):=by
 refine⟨T8 hf s,fun x hx=>afm hf s hx,fun x hx hg=>?_,?_⟩
 .have he:el x.sd price x≠false:=fun e=>by rw[T_ hf s hx e]at hg;omega
  have nB:better x.sd price x.pr=false:=by
   unfold el at he;simp only[beq_self_eq_true,Bool.true_and,ne_eq,Bool.not_eq_false,Bool.not_eq_true']at he;exact he
  unfold better at nB;constructor
  .intro h0;rw[if_pos h0]at nB;simpa using nB
  .intro h1;rw[if_neg (by omega)]at nB;simpa using nB
 .rw[<- FE,<- FE,La hf s 0 (.inl rfl),La hf s 1 (.inr rfl)]
theorem K9 {l:List ag} {ref p v:Int} (hl:d8 l) (hw:fD l ref 1000 p v) (hv:0<v):gW l p v:=by
 rcases hw with ⟨_,h2,_⟩ | ⟨_,h2,h3,h4,_⟩
 .omega
 .exact⟨hl,⟨h2,h3⟩,by omega,by omega⟩
theorem FR {l:List ag} (h:d9 l):ig [] l=l:=Tz h
theorem Ta (f:Nat->Int) (i:Nat) (price:Int) (l:List ag):ia f i price l []=f:=by
 funext j;unfold ia;have:aW (fun x=>gX i price j x (got x.id [])) l=0:=A1 fun x _=>afa i price j x;omega
end Fs
namespace Fs
open Cv Bk Ra Pu Fu
theorem ou.final {i:Nat} (hi:i<3) {price:Int} (hp:1<=price/\price<=1000) {G:Nat->Int}:∀ (m:Nat) (f:Nat->Int) (bs ss:List ag),bs.length+ss.length<=m->ou i price G f bs ss->ew G 6=ew f 6/\∀ k,k<3->ez G k 6=ez f k 6
 | m,f,[],ss,_,h=>by
  have e:f=G:=funext (h.done (.inl rfl));rw[e];exact⟨rfl,fun _ _=>rfl⟩
 | m,f,x::bs,[],_,h=>by
  have e:f=G:=funext (h.done (.inr rfl));rw[e];exact⟨rfl,fun _ _=>rfl⟩
 | 0,f,x::bs,y::ss,hm,h=>by simp at hm
 | m+1,f,x::bs,y::ss,hm,h=>by
  obtain⟨_,h2⟩:=h.step hi hp rfl;have hs:=Ea f i x y price (min x.q y.q);have hl:(gz (x::bs) (min x.q y.q)).length+(gz (y::ss) (min x.q y.q)).length<=m:=by
   rw[wh,wh];simp only[List.length_cons]at hm;split <;> split <;> (try simp only[List.length_cons]) <;> omega
  obtain⟨h3,h4⟩:=ou.final hi hp m _ _ _ hl h2;exact⟨by rw[h3,hs.1],fun k hk=>by rw[h4 k hk,hs.2 k hk]⟩
theorem ads {L:Nat->List ag} {f:Nat->Int} (h:dM L f) {i:Nat} (hi:i<3) {price:Int} (hp:1<=price/\price<=1000) {F:List (Int×Int)} (hF:wj (L i) price F):ew (ia f i price (L i) F) 6=ew f 6/\∀ k,k<3->ez (ia f i price (L i) F) k 6=ez f k 6 :=
 ou.final hi hp _ _ _ _ (lRq _) (h.start hi hF)
end Fs
end Go.Proofs.YtjolccidheflpaaGreatDoor
