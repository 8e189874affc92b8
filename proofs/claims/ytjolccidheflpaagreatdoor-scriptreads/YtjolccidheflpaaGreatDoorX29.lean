/- bestFirst by its contract: the prices of the levels, the best one first. -/
import Derived.Test.YtjolccidheflpaaGreatDoorX28
import Derived.Test.YtjolccidheflpaaGreatDoorX27
import Derived.Test.YtjolccidheflpaaGreatDoorX24
namespace Go.Proofs.YtjolccidheflpaaGreatDoor
open Go.Proofs.Tryz
set_option maxHeartbeats 8000000
set_option maxRecDepth 100000
section
open Go.RowKit Go.Maps Go.Shelf
theorem ajZ(m:Nat):AnyZI.SortsIn prog XJ Fence.wide m :=
 ⟨fun blk off cap ss W hH hblk hsz=>callsIn_wide.2 (slices_Sort_int blk off cap ss W hH hblk hsz),fun p cap W=>callsIn_wide.2 (slices_Sort_int_none p cap W)⟩
theorem XK(rZ:Option Nat)(W:World):Calls prog 304 #[.map rZ] W fun e w'=>e=.returned (.func (.func 313) #[] #[Rw W.heap.size])/\w'=W.alloc (.cells #[.map rZ] 374) :=
 (callsIn_wide (n:=5)).1 (AnyZI.keys_in XL Fence.wide 5 trivial rfl rZ W)
theorem XM(b nn:Nat)(D0:DataW Value)(w:World)(hown:w.ownsMap prog 3 yz b nn D0)(hnn:nn<=1000):
  Calls prog 303 #[.func (.func 313) #[] #[Rw w.heap.size]] (w.alloc (.cells #[.map (some b)] 374)) fun e w'=>∃(v:Value) (ss:List Int),e=.returned v/\ss.Perm (intKeys D0) /\
   w'.ownsRow (w.alloc (.cells #[.map (some b)] 374)).heap.size 3 1 v ss.length ((ss.mergeSort (fun x y=>decide (x<=y))).map encZ)/\(v=.slice none 0 0↔ss=[])/\Below (w.alloc (.cells #[.map (some b)] 374)).heap.size (w.alloc (.cells #[.map (some b)] 374)) w':=by
 have hseq:SeqGives Fence.wide 2 prog 313 #[Rw w.heap.size] encZ (fun ss=>ss.Perm (intKeys D0)) (Maps.size D0) (w.alloc (.cells #[.map (some b)] 374)) :=
  AnyZI.keys_gives (ρ:=XN) { XL with } Fence.wide _ trivial rfl (by omega) w.heap.size b nn D0 _ (by simp) (by simp) (hown.alloc _)
 have hsz:=hown.size_le;have cS:=AnyZI.sorted_in aj0 Fence.wide 5 trivial trivial trivial trivial rfl (by omega) (ajZ _) (enters_of func312 (by kernel_rfl) rfl) 313 #[Rw w.heap.size] trivial (enters_of func313 (by kernel_rfl) rfl) _ _ (by unfold maxLen;omega) (by omega) _ hseq;change CallsIn _ _ prog 303 _ _ _ at cS;exact(callsIn_wide (n:=5)).1 cS
def XO(w:World)(v:Value)(ps:List Int):Prop :=
 (ps=[]/\v=.slice none 0 0)\/∃b cap,v=.slice (some (O b 0)) ps.length cap/\∀i,i<ps.length->w.cell? (O b i)=some (.int .i64 (ps.getD i 0))
theorem aj1{w:World}{base n:Nat}{v:Value}{ps:List Int}(hn:n=ps.length)(h:w.ownsRow base 3 1 v n (ps.map encZ)):XO w v ps:=by
 subst hn;rcases h.2 with ⟨h1,h2⟩ | ⟨g,cap,cur,h1,_⟩
 .exact .inl ⟨List.eq_nil_of_length_eq_zero h2,h1⟩
 .refine .inr ⟨g,cap,h1,fun i hi=>?_⟩
  have:=World.ownsRow.cells h (g:=g) (by rw[h1];rfl) i (.int .i64 (ps.getD i 0)) (by simp[hi,encZ])
  have hp:(⟨g,0,none⟩:Addr).add i=(O g i):=by unfold Addr.add;split <;> simp_all
  rwa [hp]at this
theorem XP{w:World}{b n:Nat}{D:DataW Value}(hown:w.ownsMap prog 3 yz b n D){ps ss:List Int}(hp:ps.Pairwise (· < ·))(hm:∀p,p∈ps↔Maps.has D (.int .i64 p)=true)(hs:ss.Perm (intKeys D)):
  ss.mergeSort (fun x y=>decide (x<=y))=ps/\ss.length=ps.length/\ps.length<=n:=by
 have hle:=hown.size_le;obtain⟨es,hD,hpw,_⟩:=hown.entries DC;obtain⟨es',XQ,aj2⟩:=hown.keysOf;obtain rfl:es=es':=by rw[hD]at XQ;simpa using XQ
 subst hD;have hperm:=perm_intKeys hpw (fun p hp=>by obtain⟨v,hv⟩:=aj2 p hp;obtain⟨x,_,hx,_⟩:=Maps.keyOf_i64 underlying3 hv;exact⟨x,hx⟩) (hp.imp fun h e=>by omega) hm;have h2:=hs.trans hperm.symm;refine⟨?_,h2.length_eq,?_⟩
 rotate_left
 .rw[<- h2.length_eq,hs.length_eq]
  simpa [intKeys,Maps.size] using hle
 have h3:=mergeSort_of_perm_i h2;rw[show ss.mergeSort (fun x y=>decide (x<=y))=ps.mergeSort leI from h3];exact List.mergeSort_of_pairwise (hp.imp fun h=>by simp[leI];omega)
theorem aj3(sd:Int)(B base n:Nat)(f:Int->List Cv.af)(ps:List Int)(w:World)(hL:Hid (kW w base B n f))(hn:n<=1000)(hp:Hid (ps.Pairwise (· < ·)))(hm:Hid (∀p,p∈ps↔f p≠[])):
  Calls prog 288 #[.map (some B),.int .i64 sd] w fun e w'=>∃v,e=.returned v/\XO w' v (if sd=0 then ps.reverse else ps)/\U w w':=by
 obtain⟨D,g,nO⟩:=hL.out;have HO:=Y nO.own;have HM:Hid (∀p,p∈ps↔Maps.has D (.int .i64 p)=true):=fun p=>by
  rw[hm.out p,nO.DF p];simp
 clear nO;by_cases hs:sd=0
 .subst hs
  rw[if_pos rfl];go_enter func288,ntmps288
  go_wp2_with fail
  refine(XK (some B) _).mono ?_;rintro e w1 ⟨rfl,rfl⟩;simp only[]
  go_wp2_with fail
  refine(XM B n D w HO hn).mono ?_;rintro e w2 ⟨v,ss,rfl,oU,hrow,hnil,hb⟩;obtain⟨e1,e2,e3⟩:=XP HO hp HM oU;rw[e1,e2]at hrow;have HB2:Hid (U w w2):=((bRq _ w).alloc (E _) _).trans (hb.mono (by simp));have hbase:w.heap.size<=(w.alloc (.cells #[.map (some B)] 374)).heap.size:=by simp
  have vC:Hid (ps.length<=9223372036854775807):=lTq e3 (by omega);clear hnil hb e1 e2 e3 oU;rcases hrow.2 with ⟨rfl,h0⟩ | ⟨r,cap,cur,rfl,hr1,hr2,_⟩
  .have HP:Hid (ps=[]):=List.eq_nil_of_length_eq_zero h0
   clear hrow h0;simp only[]
   go_wp2_with fail
   refine(slices_Reverse_int_empty none 0 w2).mono ?_;rintro e w3 ⟨rfl,rfl⟩;simp only[];go_wp2;go_ret;exact⟨_,rfl,.inl ⟨by rw[HP.out];rfl,rfl⟩,HB2⟩
  .have HH:Hid (Sort.Holds (Value.int .i64) w2 r 0 ps.toArray):=XR (zs:=ps) hrow
   have HR:Hid (w.heap.size<=r):=lTq hbase hr1;clear hrow hr1 hr2 hbase;simp only[]
   go_wp2_with fail
   refine(slices_Reverse_int r 0 cap ps w2 HH vC).mono ?_;rintro e w3 ⟨rfl,q,rfl⟩;simp only[];go_wp2;go_ret;refine⟨_,rfl,.inr ⟨r,cap,by simp,fun i hi=>?_⟩,HB2.trans (Og (n:=q) HR)⟩
   have:=(Sort.holds_putRow (Value.int .i64) w2 r 0 ps.toArray ps.reverse.toArray HH (by simp) i (by simpa using hi)).1
   rw[Nat.zero_add]at this;refine Eq.trans this ?_;simp at hi;simp[hi]
 .rw[if_neg hs]
  go_enter func288,ntmps288
  go_wp2_with fail
  refine(XK (some B) _).mono ?_;rintro e w1 ⟨rfl,rfl⟩;simp only[]
  go_wp2_with fail
  refine(XM B n D w HO hn).mono ?_;rintro e w2 ⟨v,ss,rfl,oU,hrow,hnil,hb⟩;obtain⟨e1,e2,e3⟩:=XP HO hp HM oU;rw[e1,e2]at hrow;have HP:=Y (aj1 rfl hrow);have HB2:Hid (U w w2):=((bRq _ w).alloc (E _) _).trans (hb.mono (by simp));clear hnil hb e1 e2 e3 oU hrow;simp only[];go_wp2;go_ret;exact⟨_,rfl,HP,HB2⟩
end
section
open Go.RowKit Go.Maps
namespace Ra
open Cv
def aC(sh:List af->List af)(f:Int->List af):List Int->Int->List af
 | [],_=>[]
 | p::ps,v=>arr sh (f p) v++aC sh f ps (v-min (bN (f p)) v)
def oX(sh:List af->List af)(f:Int->List af)(ps:List Int)(v:Int):List (Int×Int):=fill (aC sh f ps v) v
theorem akM{sh:List af->List af}(hs:ug sh){f:Int->List af}{p:Int}(h:Pos (f p))(ps:List Int)(v:Int)(hv:0<=v):
  oX sh f (p::ps) v=fill (arr sh (f p) v) v++oX sh f ps (v-min (bN (f p)) v):=by
 unfold oX;rw[aC,Hs _ _ _ (X5 hs h v) hv,Oo hs]
theorem akN(sh:List af->List af)(f:Int->List af)(ps:List Int):oX sh f ps 0=[]:=DG _
theorem Yl(sh:List af->List af)(l:List af)(sd:Int)(f:Int->List af):∀(ps:List Int) (v:Int),(∀p∈ps,f p=lv l sd p)->aC sh f ps v=row sh l sd ps v
 | [],_,_=>rfl
 | p::ps,v,h=>by
  rw[aC,row,h p mSq,Yl sh l sd f ps _ (fun q hq=>h q (mOq _ hq))]
def rest(sh:List af->List af)(f:Int->List af)(X:List af)(ps:List Int)(v:Int):List (Int×Int):=fill X v++oX sh f ps (v-min (bN X) v)
theorem Ym(sh:List af->List af)(f:Int->List af)(X:List af)(hX:Pos X)(ps:List Int):rest sh f X ps 0=[]:=by have h:=vS X hX;unfold rest;rw[DG,show (0:Int)-min (bN X) 0=0 by omega,akN];rfl
theorem zY(sh:List af->List af)(f:Int->List af)(ps:List Int)(v:Int)(hv:0<=v):rest sh f [] ps v=oX sh f ps v:=by unfold rest;rw[show v-min (bN []) v=v by simp[bN];omega];rfl
theorem Yn(sh:List af->List af)(f:Int->List af)(x:af)(X:List af)(hX:Pos (x::X))(ps:List Int)(v:Int)(hv:0<v):rest sh f (x::X) ps v=(x.id,min x.q v)::rest sh f X ps (v-min x.q v):=by have hx:=hX x mSq;have h:=vS X (fun y hy=>hX y (mOq _ hy));unfold rest;rw[fill,if_neg (by omega),List.cons_append];rw[show v-min (bN (x::X)) v=v-min x.q v-min (bN X) (v-min x.q v) by simp only[bN];omega]
theorem Yo{l:List af}{k:Nat}(h:k<l.length):l.drop k=nth l k::l.drop (k+1):=by unfold nth;rw[List.drop_eq_getElem_cons h,gE,List.getElem?_eq_getElem h];rfl
end Ra
def fy(F:List (Int×Int)):List Value:=F.flatMap fun f=>[Z f.1,Z f.2]
theorem Yp(F:List (Int×Int))(f:Int×Int):fy (F++[f])=fy F++[Z f.1,Z f.2]:=by simp[fy]
theorem Ye:∃i z,prog.info? 300=some i/\i.zero=some z/\i.size=2/\i.bytes=16/\z.cells.size=2:=⟨_,_,rfl,rfl,rfl,rfl,rfl⟩
theorem Yq(w:World)(x y:Value)(T:TypeId)(e:Nat)(he:e=w.heap.size)(j:Nat)(u:Value)(hj:[x,y][j]?=some u):(w.alloc (.cells #[x,y] T)).cell? ((⟨e,0,none⟩:Addr).add j)=some u:=by
 subst he;have hp:(⟨w.heap.size,0,none⟩:Addr).add j=(O w.heap.size j):=by unfold Addr.add;split <;> simp_all
 rw[hp,World.cell?_alloc_new,<- hj];simp
theorem Yr{w:World}{a b:Nat}{e e':TypeId}{s s':Nat}{v v':Value}{n n':Nat}{xs xs':List Value}(h:w.ownsRow a e s v n xs)(h':w.ownsRow b e' s' v' n' xs')(he:e≠e'):v.ownBlock=none\/v.ownBlock≠v'.ownBlock:=by
 rcases h.2 with ⟨h1,_⟩ | ⟨g,cap,cur,h1,_,h2,_⟩
 .left;rw[h1];rfl
 .right
  rcases h'.2 with ⟨k1,_⟩ | ⟨g',cap',cur',k1,_,k2,_⟩
  .rw[h1,k1];simp[Value.ownBlock]
  .rw[h1,k1]
   intro e2;have:g=g':=by simpa [Value.ownBlock] using e2
   rw[this,k2]at h2;simp at h2;exact he h2.2.symm
theorem zN{w:World}{base N cap r:Nat}{X:List Cv.af}(h:w.ownsRow base 197 5 (.slice (some (O r 0)) N cap) N (flat X)):fU w r 0 X :=
 Bv fun j u hu=>by
  have:=World.ownsRow.cells h (g:=r) rfl j u hu
  have hp:(⟨r,0,none⟩:Addr).add j=(O r j):=by unfold Addr.add;split <;> simp_all
  rwa [hp]at this
theorem Ys{w:World}{base N:Nat}{v:Value}{X:List Cv.af}(h:w.ownsRow base 197 5 v N (flat X)):X.length=N:=by
 have:=h.1
 rw[qi]at this;omega
theorem akO(a:Option Addr)(n c:Nat)(q:Int)(w:World):(Instr.field 406 (.agg #[.slice a n c,Z q]) 0).run prog w=.ok (.slice a n c) w:=by kernel_rfl
theorem akP(a:Option Addr)(n c:Nat)(q:Int)(w:World):(Instr.field 406 (.agg #[.slice a n c,Z q]) 1).run prog w=.ok (Z q) w:=by kernel_rfl
theorem akm(sd v s:Int)(B base n:Nat)(f:Int->List Cv.af)(ps qs:List Int)(F:List (Int×Int))(w:World)(hs:Hid (Ra.IsU s))(hv0:0<=v)(hv1:v<=1000000)(hL:Hid (kW w base B n f))(hn:n<=1000)(hp:Hid (ps.Pairwise (· < ·)))(hm:Hid (∀p,p∈ps↔f p≠[]))(hok:Hid (∀p,Cv.eu (f p)))(hlen:Hid (∀p,(f p).length<=200))(sr:Hid ((if sd=0 then ps.reverse else ps)=qs))(hq:Hid (∀p∈qs,f p≠[]/\1<=p/\p<=1000))(hF:Hid (Ra.oX (Ra.sh s) f qs v=F))(Yt:Hid (F.length<=1000))(mS:Hid (qs.length<=1000)):
  Calls prog 260 #[.map (some B),Z sd,Z v,.int .u32 s] w fun e w'=>∃v',e=.returned v'/\w'.ownsRow w.heap.size 300 2 v' F.length (fy F)/\U w w':=by
 obtain⟨i0,z0,hi,hz0,hz1,hz2,hz3⟩:=Ye;have Hi:=Y hi;have fe:=Y hz0;have fg:=Y hz1;have fh:=Y hz2;have lM:=Y hz3;clear hi hz0 hz1 hz2 hz3;go_enter func260,ntmps260
 go_wp2_with fail
 refine(aj3 sd B base n f ps w hL hn hp hm).mono ?_;rintro e w1 ⟨vp,rfl,Yu,hb1⟩;rw[sr.out]at Yu;have HB1:=Y hb1;have jh:=Y (hL.later hb1);clear hb1 hL;rcases Yu with ⟨xx,rfl⟩ | ⟨bp,atH,rfl,hc⟩
 .have My:Hid (F=[]):=by show _=_;rw[<- hF.out,xx];rfl
  clear xx;simp only[];go_wp2;refine wp_loop_rounds 1 ?_;rw[rounds_succ];go_wp2;go_ret;exact⟨_,rfl,by rw[My.out];exact World.ownsRow_nil _ _ _ _,HB1⟩
 .obtain⟨m,HM⟩:∃m,Hid (qs.length=m):=⟨_,rfl⟩
  rw[HM.out]at hc ⊢;have atI:m<=1000:=by rw[<- HM.out];exact mS
  have HC:=Y hc;clear hc;simp only[];go_wp2
  go_loopw [9,10,22] (fun vf aF i wr=>∃(k:Nat) (left:Int) (jD:List (Int×Int)),k<=m/\i=Z k/\aF=Z left/\0<=left/\left<=v/\jD++Ra.oX (Ra.sh s) f (qs.drop k) left=F/\wr.ownsRow w1.heap.size 300 2 vf jD.length (fy jD)/\U w1 wr) (fun _ _ i _=>m-(intOf i).toNat)
  case atStart=>exact⟨0,v,[],Nat.zero_le _,rfl,rfl,hv0,Int.le_refl _,hF,World.ownsRow_nil _ _ _ _,bRq _ _⟩
  case round =>
   obtain⟨k,left,jD,hk,rfl,rfl,hl0,hl1,tE,hown,hbw⟩:=hrel;have HO:=Y hown;have HW:=Y hbw;have zU:=Y tE;clear hown hbw tE;by_cases hlt:k<m
   .have aT:(k:Int)<m:=by omega
    obtain⟨p,hpq⟩:=aG (qs.getD k 0);have OI:k<qs.length:=by rw[HM.out];exact hlt
    have mf:qs[k]=p:=by rw[<- hpq];simp[OI]
    have vO:wr.cell? (O bp k)=some (Z p):=by rw[<- hpq];exact cell_later HW (HC k hlt)
    have hmem:p∈qs:=by rw[<- mf];exact List.getElem_mem OI
    have Yv:qs.drop k=p::qs.drop (k+1):=by rw[List.drop_eq_getElem_cons OI,mf]
    obtain⟨hne,hp1,hp2⟩:=hq.out p hmem;obtain⟨D,g,nO⟩:=jh.later HW;have hrow:=nO.row p;have hrun:=nO.look (p:=p) (by omega) (by omega);rcases (nO.row p).2 with ⟨_,e0⟩ | ⟨r,DN,cur,Fe,_⟩
    .exact absurd (List.eq_nil_of_length_eq_zero e0) hne
    have hpos:Ra.Pos (f p):=fun x hx=>((Cv.gB (hok p x hx)).2.2.2.2).1;have Yw:=OA (f p) (hok p);have mg:=hlen.out p;rw[Fe]at hrow hrun;unfold um at hrun;have H4:Hid (0<(f p).length):=Nat.pos_of_ne_zero fun e=>hne (List.eq_nil_of_length_eq_zero e);obtain⟨N,hN⟩:=aG ((f p).length);obtain⟨q,AO⟩:=aG (Ra.bN (f p));have H6:Hid (jD++Ra.rest (Ra.sh s) f (Ra.arr (Ra.sh s) (f p) left) (qs.drop (k+1)) left=F):=by have h1:=zU.out;rw[Yv,Ra.akM (Ra.AA s) hpos _ _ hl0]at h1;show _=_;unfold Ra.rest;rw[Ra.Oo (Ra.AA s)];exact h1
    have H4:Hid (0<N):=by rw[<- hN];exact H4
    rw[hN]at hrow hrun mg Yw;rw[AO]at hrun Yw;have kn:=Y hrow;have HN:=Y hN;have Yx:=Y hpos;have HQ:=Y AO;clear hrow hN hpos AO nO hne Yv mf hpq Fe;have f0:=@akO;have f1:=@akP;by_cases mS:left<q
    .have Yy:(N:Int)-1=((N-1:Nat):Int):=by have:=H4.out;omega
     go_wp2_with (at_lookup;refine Oz rfl _ _ 375 rfl _ _ _ rfl rfl hrun ?_)
     refine(aj9 r 0 DN N (N-1) s (f p) wr hs HN (by omega) Yy (zN kn)).mono ?_;rintro e w2 ⟨v2,rfl,hrow2,hb2⟩;rcases hrow2.2 with ⟨_,e0⟩ | ⟨rx,H7,l9,rfl,_⟩
     .exact absurd e0 (by have:=H4.out;omega)
     obtain⟨X,uq⟩:∃X,Hid (Ra.sh s (f p)=X):=⟨_,rfl⟩;have OJ:Hid (jD++Ra.rest (Ra.sh s) f (X.drop 0) (qs.drop (k+1)) left=F):=by have h1:=H6.out;unfold Ra.arr at h1;rw[if_pos (by rw[HQ.out];exact mS),uq.out]at h1;exact h1
     have HX:Hid (w2.ownsRow 0 197 5 (.slice (some (O rx 0)) N H7) N (flat X)):=by rw[<- uq.out];exact ij hrow2 (Nat.zero_le _)
     have DR:Hid (Ra.Pos X):=fun x hx=>Yx x ((Ra.AA s (f p)).mem_iff.1 (by rw[uq.out];exact hx));have HW2:Hid (U w1 w2):=ar HW hb2;have OL:Hid (w2.ownsRow w1.heap.size 300 2 u9 jD.length (fy jD)):=HO.kept (row:=none) ⟨hb2.os,hb2.tape,hb2.output,hb2.size,fun i hi _=>hb2.block i hi⟩ (by
      cases e:u9.ownBlock with
      | none=>exact .inl rfl
      | some _=>exact .inr (by simp))
     clear hrow2 hb2 Yy;simp only[];clear vO hrun f0 f1;go_wp2
     go_loopw [9,10,41] (fun vf aF i wx=>∃(j:Nat) (iG:Int) (F1:List (Int×Int)),j<=N/\i=Z j/\aF=Z iG/\0<=iG/\iG<=left/\F1++Ra.rest (Ra.sh s) f (X.drop j) (qs.drop (k+1)) iG=F/\wx.ownsRow w1.heap.size 300 2 vf F1.length (fy F1)/\wx.ownsRow 0 197 5 (.slice (some (O rx 0)) N H7) N (flat X)/\U w1 wx) (fun _ _ i _=>N-(intOf i).toNat)
     case atStart=>exact⟨0,left,jD,Nat.zero_le _,rfl,rfl,hl0,Int.le_refl _,OJ,OL,HX,HW2⟩
     case round =>
      obtain⟨j,iG,F1,hj,rfl,rfl,yg,Fp,DT,hown,yD,hbw⟩:=hrel;have HO:=Y hown;have gC:=Y yD;have HW:=Y hbw;have yE:=Y DT;have uu:=Y (Ys yD);clear hown yD hbw DT;by_cases hjn:j<N
      .have bC:(j:Int)<N:=by omega
       obtain⟨c0,c1,c2,c3,c4⟩:=(zN gC) j (by rw[uu.out];exact hjn);have HD:=Y (Ra.Yo (l:=X) (k:=j) (by rw[uu.out];exact hjn));have u_:=DR.out _ (Cv.oo (l:=X) (i:=j) (by rw[uu.out];exact hjn));have xm:Hid (Ra.Pos (X.drop j)):=fun y hy=>DR y (List.mem_of_mem_drop hy);generalize Cv.nth X j=x at *;rw[Nat.zero_add]at c0 c1 c2 c3 c4;by_cases h0:iG=0
       .subst h0
        have hmin:min x.q 0=0:=by omega
        have HR:Hid (wr.ownsRow w.heap.size 300 2 u9 F.length (fy F)):=by have h1:=yE.out;rw[Ra.Ym _ _ _ xm.out,aNq]at h1;rw[<- h1];exact ij HO HB1.size
        have HB:Hid (U w wr):=ar HB1 HW;go_wp2;go_ret;exact⟨_,rfl,HR.alloc _,HB.alloc HB.size _⟩
       .obtain⟨t,ht⟩:=aG (min x.q iG)
        have ht1:1<=t:=by omega
        have ml:t<=iG:=by omega
        have htb:(t==0)=false:=by simp;omega
        have dB:Hid ((F1++[(x.id,t)])++Ra.rest (Ra.sh s) f (X.drop (j+1)) (qs.drop (k+1)) (iG-t)=F):=by have h1:=yE.out;rw[HD.out,Ra.Yn _ _ _ _ (by have:=xm.out;rw[HD.out]at this;exact this) _ _ (by omega),ht]at h1;show _=_;rw[<- h1];simp
        have kX:Hid (F1.length+1<=1000):=by have h1:=Yt.out;rw[<- dB.out]at h1;simp at h1;show _<=_;omega
        go_wp2_with (at_builtin;refine wpList_append_own _ rfl _ _ 294 rfl w1.heap.size 300 i0 z0 2 16 underlying294 Hi fe fg fh lM (by decide) _ _ _ rfl ((HO.alloc _).alloc _) ⟨wr.heap.size+1,0,none⟩ 1 1 [Z x.id,Z t] rfl rfl ?d1 ?d2 ?d3 ?d4 ?d5 ?_)
        case d1=>exact fun j u hj=>Yq _ _ _ _ _ (by simp) j u hj
        case d2 => intro u hu
                   simp only[List.mem_cons,List.not_mem_nil,or_false]at hu;rcases hu with rfl | rfl <;> rfl
        case d3=>have:=kX.out;unfold maxLen;omega
        case d4=>have:=kX.out;omega
        case d5=>have:=HW.size;simp;omega
        intro v3 w3 hown' hgrow _;have uj:Hid (w3.ownsRow w1.heap.size 300 2 v3 (F1++[(x.id,t)]).length (fy (F1++[(x.id,t)]))):=by show w3.ownsRow _ _ _ _ _ _;rw[Yp,lAq];exact hown'
        have DU:=HO.lt;have mj:Hid (w3.ownsRow 0 197 5 (.slice (some (O rx 0)) N H7) N (flat X)):=((gC.alloc _).alloc _).kept hgrow (Yr gC HO (by decide));have HW3:Hid (U w1 w3):=((HW.alloc HW.size _).alloc (by have:=HW.size;simp;omega) _).grown hgrow (by have:=HW.size;simp;omega) (fun j hj=>(DU j hj).1);clear hown' hgrow DU c0 c1 c2 c3 c4;go_wp2;exact⟨⟨j+1,iG-t,F1++[(x.id,t)],by omega,by go_num,by go_num,by omega,by omega,dB,uj,mj,HW3⟩,by simp[intOf];omega⟩
      .have bC:¬ (j:Int)<N:=by omega
       have dB:Hid (F1++Ra.oX (Ra.sh s) f (qs.drop (k+1)) iG=F):=by have h1:=yE.out;rw[List.drop_of_length_le (by rw[uu.out];omega),Ra.zY _ _ _ _ yg]at h1;exact h1
       go_wp2;exact⟨⟨k+1,iG,F1,by omega,by go_num,rfl,yg,by omega,dB,HO,HW⟩,by simp[intOf];omega⟩
    .obtain⟨X,uq⟩:∃X,Hid (f p=X):=⟨_,rfl⟩
     obtain⟨rx,akQ⟩:=aG r;obtain⟨H7,hcx⟩:=aG DN;subst akQ hcx;have OJ:Hid (jD++Ra.rest (Ra.sh s) f (X.drop 0) (qs.drop (k+1)) left=F):=by have h1:=H6.out;unfold Ra.arr at h1;rw[if_neg (by rw[HQ.out];exact mS),uq.out]at h1;exact h1
     have HX:Hid (wr.ownsRow 0 197 5 (.slice (some (O r 0)) N DN) N (flat X)):=by rw[<- uq.out];exact ij kn (Nat.zero_le _)
     have DR:Hid (Ra.Pos X):=fun x hx=>Yx x (by rw[uq.out];exact hx);have HW2:=HW;have OL:=HO
     go_wp2_with (at_lookup;refine Oz rfl _ _ 375 rfl _ _ _ rfl rfl hrun ?_)
     clear vO hrun f0 f1
     go_loopw [9,10,41] (fun vf aF i wx=>∃(j:Nat) (iG:Int) (F1:List (Int×Int)),j<=N/\i=Z j/\aF=Z iG/\0<=iG/\iG<=left/\F1++Ra.rest (Ra.sh s) f (X.drop j) (qs.drop (k+1)) iG=F/\wx.ownsRow w1.heap.size 300 2 vf F1.length (fy F1)/\wx.ownsRow 0 197 5 (.slice (some (O r 0)) N DN) N (flat X)/\U w1 wx) (fun _ _ i _=>N-(intOf i).toNat)
     case atStart=>exact⟨0,left,jD,Nat.zero_le _,rfl,rfl,hl0,Int.le_refl _,OJ,OL,HX,HW2⟩
     case round =>
      obtain⟨j,iG,F1,hj,rfl,rfl,yg,Fp,DT,hown,yD,hbw⟩:=hrel;have HO:=Y hown;have gC:=Y yD;have HW:=Y hbw;have yE:=Y DT;have uu:=Y (Ys yD);clear hown yD hbw DT;by_cases hjn:j<N
      .have bC:(j:Int)<N:=by omega
       obtain⟨c0,c1,c2,c3,c4⟩:=(zN gC) j (by rw[uu.out];exact hjn);have HD:=Y (Ra.Yo (l:=X) (k:=j) (by rw[uu.out];exact hjn));have u_:=DR.out _ (Cv.oo (l:=X) (i:=j) (by rw[uu.out];exact hjn));have xm:Hid (Ra.Pos (X.drop j)):=fun y hy=>DR y (List.mem_of_mem_drop hy);generalize Cv.nth X j=x at *;rw[Nat.zero_add]at c0 c1 c2 c3 c4;by_cases h0:iG=0
       .subst h0
        have hmin:min x.q 0=0:=by omega
        have HR:Hid (wr.ownsRow w.heap.size 300 2 u9 F.length (fy F)):=by have h1:=yE.out;rw[Ra.Ym _ _ _ xm.out,aNq]at h1;rw[<- h1];exact ij HO HB1.size
        have HB:Hid (U w wr):=ar HB1 HW;go_wp2;go_ret;exact⟨_,rfl,HR.alloc _,HB.alloc HB.size _⟩
       .obtain⟨t,ht⟩:=aG (min x.q iG)
        have ht1:1<=t:=by omega
        have ml:t<=iG:=by omega
        have htb:(t==0)=false:=by simp;omega
        have dB:Hid ((F1++[(x.id,t)])++Ra.rest (Ra.sh s) f (X.drop (j+1)) (qs.drop (k+1)) (iG-t)=F):=by have h1:=yE.out;rw[HD.out,Ra.Yn _ _ _ _ (by have:=xm.out;rw[HD.out]at this;exact this) _ _ (by omega),ht]at h1;show _=_;rw[<- h1];simp
        have kX:Hid (F1.length+1<=1000):=by have h1:=Yt.out;rw[<- dB.out]at h1;simp at h1;show _<=_;omega
        go_wp2_with (at_builtin;refine wpList_append_own _ rfl _ _ 294 rfl w1.heap.size 300 i0 z0 2 16 underlying294 Hi fe fg fh lM (by decide) _ _ _ rfl ((HO.alloc _).alloc _) ⟨wr.heap.size+1,0,none⟩ 1 1 [Z x.id,Z t] rfl rfl ?d1 ?d2 ?d3 ?d4 ?d5 ?_)
        case d1=>exact fun j u hj=>Yq _ _ _ _ _ (by simp) j u hj
        case d2 => intro u hu
                   simp only[List.mem_cons,List.not_mem_nil,or_false]at hu;rcases hu with rfl | rfl <;> rfl
        case d3=>have:=kX.out;unfold maxLen;omega
        case d4=>have:=kX.out;omega
        case d5=>have:=HW.size;simp;omega
        intro v3 w3 hown' hgrow _;have uj:Hid (w3.ownsRow w1.heap.size 300 2 v3 (F1++[(x.id,t)]).length (fy (F1++[(x.id,t)]))):=by show w3.ownsRow _ _ _ _ _ _;rw[Yp,lAq];exact hown'
        have DU:=HO.lt;have mj:Hid (w3.ownsRow 0 197 5 (.slice (some (O r 0)) N DN) N (flat X)):=((gC.alloc _).alloc _).kept hgrow (Yr gC HO (by decide));have HW3:Hid (U w1 w3):=((HW.alloc HW.size _).alloc (by have:=HW.size;simp;omega) _).grown hgrow (by have:=HW.size;simp;omega) (fun j hj=>(DU j hj).1);clear hown' hgrow DU c0 c1 c2 c3 c4;go_wp2;exact⟨⟨j+1,iG-t,F1++[(x.id,t)],by omega,by go_num,by go_num,by omega,by omega,dB,uj,mj,HW3⟩,by simp[intOf];omega⟩
      .have bC:¬ (j:Int)<N:=by omega
       have dB:Hid (F1++Ra.oX (Ra.sh s) f (qs.drop (k+1)) iG=F):=by have h1:=yE.out;rw[List.drop_of_length_le (by rw[uu.out];omega),Ra.zY _ _ _ _ yg]at h1;exact h1
       go_wp2;exact⟨⟨k+1,iG,F1,by omega,by go_num,rfl,yg,by omega,dB,HO,HW⟩,by simp[intOf];omega⟩
   .have aT:¬ (k:Int)<m:=by omega
    have Oj:Hid (wr.ownsRow w.heap.size 300 2 u9 F.length (fy F)):=by
     have h1:=zU.out;rw[List.drop_of_length_le (by rw[HM.out];omega)]at h1;have h2:jD=F:=by rw[<- h1];simp[Ra.oX,Ra.aC,Ra.fill]
     have:=HO.out
     rw[h2]at this;exact ij this HB1.size
    have HB:Hid (U w wr):=ar HB1 HW;go_wp2;go_ret;exact⟨_,rfl,Oj,HB⟩
end
namespace Ra
open Cv
def pj(sd:Int)(j:Nat):Int:=if sd=0 then 1000-(j:Int) else 1+(j:Int)
def cnt(sd price:Int):Nat:=if sd=0 then (1001-price).toNat else price.toNat
def full(sd price:Int):List Int:=(List.range (cnt sd price)).map (pj sd)
theorem akU(sd price:Int):Ou sd (full sd price):=by refine List.pairwise_map.2 (List.pairwise_lt_range.imp fun {a b} h=>?_);unfold pj better;split <;> simp <;> omega
theorem akV{sd price p:Int}(h1:1<=price)(h2:price<=1000):p∈full sd price↔(1<=p/\p<=1000)/\better sd price p=false:=by
 unfold full cnt pj better;by_cases hs:sd=0
 .simp only[hs,if_true,List.mem_map,List.mem_range,decide_eq_false_iff_not]
  constructor
  .rintro⟨j,hj,rfl⟩;omega
  .rintro⟨⟨h3,h4⟩,h5⟩;exact⟨(1000-p).toNat,by omega,by omega⟩
 .simp only[hs,if_false,List.mem_map,List.mem_range,decide_eq_false_iff_not]
  constructor
  .rintro⟨j,hj,rfl⟩;omega
  .rintro⟨⟨h3,h4⟩,h5⟩;exact⟨(p-1).toNat,by omega,by omega⟩
def nP(l:List af)(sd price:Int):List Int:=(full sd price).filter fun p=>!(lv l sd p).isEmpty
theorem YC(l:List af)(sd price:Int):Ou sd (nP l sd price):=(akU sd price).filter _
theorem OO(l:List af){sd price p:Int}(h:better sd price p=false):aF sd price l p=lv l sd p:=by
 unfold aF lv;refine List.filter_congr fun x _=>?_;unfold el;by_cases e:x.pr=p
 .rw[e,h];simp
 .have e2:(x.pr==p)=false:=by simpa using e
  rw[e2];simp
theorem Hz{l:List af}{sd price p:Int}(ho:eu l)(h:aF sd price l p≠[]):(1<=p/\p<=1000)/\better sd price p=false:=by
 obtain⟨x,hx⟩:=List.exists_mem_of_ne_nil _ h;obtain⟨hx1,hx2⟩:=List.mem_filter.1 hx;simp only[el,Bool.and_eq_true,beq_iff_eq,Bool.not_eq_true']at hx2
 have:=(gB (ho x hx1)).2.2.2.1
 rw[<- hx2.2];exact⟨this,hx2.1.2⟩
theorem AF{l:List af}{sd price p:Int}(ho:eu l)(h1:1<=price)(h2:price<=1000):p∈nP l sd price↔aF sd price l p≠[]:=by
 unfold nP;rw[List.mem_filter,akV h1 h2];constructor
 .rintro⟨⟨_,hb⟩,hne⟩
  rw[OO l hb];simpa using hne
 .intro h
  obtain⟨h3,hb⟩:=Hz ho h;rw[OO l hb]at h;exact⟨⟨h3,hb⟩,by simpa using h⟩
theorem Ox{l:List af}(h:eu l):Pos l:=fun x hx=>((gB (h x hx)).2.2.2.2).1
def side(s:Int)(l:List af)(sd price v:Int):List (Int×Int):=sf (sh s) l sd (full sd price) v
theorem Hy(s:Int){l:List af}(ho:eu l)(sd price v:Int)(hv:0<=v):side s l sd price v=fill (row (sh s) l sd (nP l sd price) v) v:=by unfold side;rw[<- Ot (AA s) (Ox ho) sd (full sd price) v hv];rfl
theorem ako(s:Int){l:List af}(ho:eu l)(sd price v:Int)(h1:1<=price)(h2:price<=1000)(hv:0<=v):oX (sh s) (aF sd price l) (nP l sd price) v=side s l sd price v:=by rw[Hy s ho sd price v hv];unfold oX;rw[Yl (sh s) l sd _ _ _ fun p hp=>OO l (Hz ho ((AF ho h1 h2).1 hp)).2]
theorem akn(l:List af)(sd price:Int):(if sd=0 then (nP l sd price).reverse else nP l sd price).Pairwise (· < ·):=by
 have h:=YC l sd price;unfold Ou at h;split
 .rename_i e
  subst e;rw[List.pairwise_reverse];exact h.imp fun h=>by simpa [better] using h
 .rename_i e
  exact h.imp fun h=>by simpa [better,e] using h
theorem akW(l:List af)(sd price:Int):(nP l sd price).Nodup:=(YC l sd price).imp fun {a b} h e=>by
 rw[e,akg]at h;cases h
theorem X_(s:Int){l:List af}(ho:eu l)(sd price v:Int)(h1:1<=price)(h2:price<=1000):(row (sh s) l sd (nP l sd price) v).Perm (l.filter (el sd price)):=by
 refine(X6 (AA s) l sd _ v).trans ((X8 l sd _ (akW l sd price)).trans ?_);rw[List.filter_congr (q:=el sd price) fun x hx=>?_];unfold el;cases hs:x.sd==sd
 .rfl
 .simp only[Bool.true_and]
  cases hb:better sd price x.pr
  .rw[Bool.not_false,List.contains_iff_mem,AF ho h1 h2]
   intro e;have:x∈aF sd price l x.pr:=List.mem_filter.2 ⟨hx,by simp[el,hs,hb]⟩;rw[e]at this;cases this
  .rw[Bool.not_true]
   refine Bool.eq_false_iff.2 fun e=>?_
   have:=(Hz ho ((AF ho h1 h2).1 (List.contains_iff_mem.1 e))).2
   rw[hb]at this;cases this
theorem YD:∀(l:List af) (v:Int),(fill l v).length<=l.length
 | [],_=>E _
 | x::l,v=>by
  rw[fill];split
  .exact Nat.zero_le _
  .have:=YD l (v-min x.q v)
   simp;omega
theorem Cy(s:Int){l:List af}(ho:eu l)(sd price v:Int)(h1:1<=price)(h2:price<=1000)(hv:0<=v):(side s l sd price v).length<=l.length:=by rw[Hy s ho sd price v hv];exact lTq (YD _ _) (by rw[(X_ s ho sd price v h1 h2).length_eq];exact List.length_filter_le _ _)
theorem akk(l:List af)(price:Int):bN (l.filter (el 0 price))=ji l price/\bN (l.filter (el 1 price))=jM l price:=by
 refine⟨?_,?_⟩
 .rw[Ol]
  refine FB l fun x _=>?_;unfold el iK better;by_cases h:price<=x.pr
  .rw[decide_eq_true h,if_pos rfl,decide_eq_false (by omega)];rfl
  .rw[decide_eq_false h,if_pos rfl,decide_eq_true (by omega)];rfl
 .rw[Ol]
  refine FB l fun x _=>?_;unfold el sB better;by_cases h:x.pr<=price
  .rw[decide_eq_true h,if_neg (by decide),decide_eq_false (by omega)];rfl
  .rw[decide_eq_false h,if_neg (by decide),decide_eq_true (by omega)];rfl
end Ra
section
open Go.RowKit
theorem Yc(sd price v s:Int)(B base n:Nat)(l:List Cv.af)(w:World)(hs:Ra.IsU s)(hv0:0<=v)(hv1:v<=1000000)(hL:kW w base B n (aF sd price l))(hn:n<=1000)(hok:Cv.eu l)(Yd:l.length<=120)(h1:1<=price)(h2:price<=1000):
  Calls prog 260 #[.map (some B),Z sd,Z v,.int .u32 s] w fun e w'=>∃v',e=.returned v'/\w'.ownsRow w.heap.size 300 2 v' (Ra.side s l sd price v).length (fy (Ra.side s l sd price v))/\U w w':=by
 have akl:(Ra.nP l sd price).length<=1000:=by refine lTq (List.length_filter_le _ _) ?_;unfold Ra.full Ra.cnt;rw[List.length_map,List.length_range];split <;> omega
 refine akm sd v s B base n (aF sd price l) (if sd=0 then (Ra.nP l sd price).reverse else Ra.nP l sd price) (Ra.nP l sd price) _ w hs hv0 hv1 hL hn (Ra.akn l sd price) (fun p=>?_) (fun p=>hok.filter _) (fun p=>lTq (List.length_filter_le _ _) (by omega)) ?_ (fun p hp=>?_) (Ra.ako s hok sd price v h1 h2 hv0) (lTq (Ra.Cy s hok sd price v h1 h2 hv0) (by omega)) akl
 .split
  .rw[List.mem_reverse];exact Ra.AF hok h1 h2
  .exact Ra.AF hok h1 h2
 .show _=_
  split <;> simp
 .have h3:=(Ra.AF hok h1 h2).1 hp
  exact⟨h3,(Ra.Hz hok h3).1⟩
/-! check -/
theorem ahe(a:Option Addr)(n cap:Nat)(price vol most:Int)(T:TypeId)(v2:Value)(w:World)(hc:Hid (Calls prog 250 #[.slice a n cap] w fun e w'=>e=.returned .nilIface/\U w w'))(c2:w.cell? (O 3 0)=some (.iface T v2))(hp:Hid (ah.aK price 1 1000=true))(hv:¬ vol<0)(hm:Hid (∀w1,U w w1->Calls prog 286 #[.slice a n cap,Z price] w1 fun e w'=>e=.returned (Z most)/\U w1 w')):
  Calls prog 258 #[.slice a n cap,Z price,Z vol] w fun e w'=>e=.returned (if most<vol then .iface T v2 else .nilIface)/\U w w':=by
 have h0:(0:Int)<=vol:=by omega
 by_cases hb:most<vol
 all_goals
  first | rw[if_pos hb] | rw[if_neg hb]
  go_enter func258,ntmps258
  go_wp2_with fail
  refine hc.mono ?_;rintro e w1 ⟨rfl,hb1⟩;have HB1:=Y hb1;have d2:=cell_later hb1 c2;clear hb1;simp only[]
  go_wp2_with fail
  refine(ib _ _ _ _).mono ?_;rintro e w2 ⟨rfl,rfl⟩;rw[hp.out];simp only[]
  go_wp2_with fail
  refine(hm _ HB1).mono ?_;rintro e w3 ⟨rfl,hb3⟩;have av:=Y (ar HB1 hb3);have d3:=cell_later av c2;clear hb3 d2;simp only[];go_wp2;go_ret;exact⟨rfl,av⟩
/-! atG -/
theorem dh{w w':World}{base:Nat}{e:TypeId}{size:Nat}{v:Value}{n:Nat}{xs:List Value}(h:w.ownsRow base e size v n xs)(hb:U w w'):w'.ownsRow base e size v n xs :=
 h.kept (row:=none) ⟨hb.os,hb.tape,hb.output,hb.size,fun i hi _=>hb.block i hi⟩ (by
  cases e:v.ownBlock with
  | none=>exact .inl rfl
  | some _=>exact .inr (by simp))
theorem akp(F G:List (Int×Int)):fy (F++G)=fy F++fy G:=by simp[fy]
theorem akq(F:List (Int×Int)):(fy F).length=F.length*2:=by
 induction F with
 | nil=>rfl
 | cons f F ih=>simp[fy]at ih ⊢;omega
theorem akr(F:List (Int×Int)):∀u∈fy F,u.oneCell'=true:=fun u hu=>by
 obtain⟨f,_,hf⟩:=List.mem_flatMap.1 hu;simp only[List.mem_cons,List.not_mem_nil,or_false]at hf;rcases hf with rfl | rfl <;> rfl
theorem ahf(a:Option Addr)(n cap:Nat)(price vol s s1:Int)(l:List Cv.af)(jD F1:List (Int×Int))(w:World)(sZ:Hid (Calls prog 258 #[.slice a n cap,Z price,Z vol] w fun e w'=>e=.returned .nilIface/\U w w'))(hv:Hid (iJ w (.slice a n cap) l))(hok:Hid (Cv.gh l))(h1:1<=price)(h2:price<=1000)(hv0:0<=vol)(hv1:vol<=1000000)(hs:Hid (Ra.IsU s))(hs1:Hid (Ra.IsU s1))(zP:(s=4294967295/\s1=0)\/(0<=s/\s<4294967295/\s1=s+1))(CV:Hid (Ra.side s l 0 price vol=jD))(F8:Hid (Ra.side s1 l 1 price vol=F1))(hl0:jD.length<=120)(hl1:F1.length<=120):
  Calls prog 222 #[.slice a n cap,Z price,Z vol,.int .u32 s] w fun e w'=>∃v',e=.returned (.tuple #[v',.nilIface])/\w'.ownsRow w.heap.size 300 2 v' (jD++F1).length (fy (jD++F1))/\U w w':=by
 obtain⟨i0,z0,hi,hz0,hz1,hz2,hz3⟩:=Ye;have Hi:=Y hi;have fe:=Y hz0;have fg:=Y hz1;have fh:=Y hz2;have lM:=Y hz3;clear hi hz0 hz1 hz2 hz3;have Yf:l.length<=120:=hok.1;rcases zP with ⟨rfl,rfl⟩ | ⟨hs0,hs2,rfl⟩
 all_goals
  go_enter func222,ntmps222
  go_wp2_with fail
  refine sZ.mono ?_;rintro e w1 ⟨rfl,hb1⟩;have HB1:=Y hb1;clear hb1;simp only[]
  go_wp2_with fail
  refine(Yg _ 0 price l w1 (hv.later HB1) hok).mono ?_;rintro e w2 ⟨rfl,hL2,hb2⟩;have HB2:=Y (ar HB1 hb2);have lz:=Y hL2;clear hb2 hL2;simp only[]
  go_wp2_with fail
  refine(Yc 0 price vol _ _ _ _ l w2 hs hv0 hv1 lz (by omega) hok.oks Yf h1 h2).mono ?_;rintro e w3 ⟨vb,rfl,hrb,hb3⟩;rw[CV.out]at hrb;have qV:=Y (ij hrb HB2.size);have av:=Y (ar HB2 hb3);clear hrb hb3;simp only[]
  go_wp2_with fail
  refine(Yg _ 1 price l w3 (hv.later av) hok).mono ?_;rintro e w4 ⟨rfl,hL4,hb4⟩;have bS:=Y (ar av hb4);have tu:=Y hL4;have aks:=Y (dh qV hb4);clear hb4 hL4;simp only[]
  go_wp2_with fail
  refine(Yc 1 price vol _ _ _ _ l w4 hs1 hv0 hv1 tu (by omega) hok.oks Yf h1 h2).mono ?_;rintro e aI ⟨vs,rfl,hrs,bR⟩;rw[F8.out]at hrs;have jC:=Y (ij hrs bS.size);have cr:=Y (ar bS bR);have AJ:=Y (dh aks bR);clear hrs bR;simp only[];rcases jC.2 with ⟨rfl,h0⟩ | ⟨rs,cs,ahA,rfl,_⟩
  .have i6:Hid (F1=[]):=List.eq_nil_of_length_eq_zero h0
   have HR:Hid (aI.ownsRow w.heap.size 300 2 vb (jD++F1).length (fy (jD++F1))):=by rw[i6.out,aNq];exact AJ
   clear h0;rcases AJ.2 with ⟨rfl,_⟩ | ⟨rb,cb,Vw,rfl,_,_,hcb,_⟩
   .clear AJ jC
    go_wp2;go_ret2;exact⟨_,rfl,HR,cr⟩
   .clear AJ jC
    go_wp2;go_ret2;exact⟨_,rfl,HR,cr⟩
  .have HC:Hid (∀j u,(fy F1)[j]?=some u->aI.cell? ((⟨rs,0,none⟩:Addr).add j)=some u):=fun j u hu=>World.ownsRow.cells jC (g:=rs) rfl j u hu
   go_wp2_with (at_builtin;refine wpList_append_own _ rfl _ _ 294 rfl w.heap.size 300 i0 z0 2 16 underlying294 Hi fe fg fh lM (by decide) _ _ _ rfl AJ (O rs 0) F1.length cs (fy F1) rfl (akq F1) HC (akr F1) ?d3 ?d4 ?d5 ?_)
   case d3=>unfold maxLen;omega
   case d4=>omega
   case d5=>exact cr.size
   intro v6 aA hown6 Yh _;have HR:Hid (aA.ownsRow w.heap.size 300 2 v6 (jD++F1).length (fy (jD++F1))):=by show World.ownsRow _ _ _ _ _ _ _;rw[akp,lAq];exact hown6
   have hlt:=AJ.lt;have bk:Hid (U w aA):=cr.grown Yh cr.size (fun j hj=>(hlt j hj).1);clear hown6 Yh hlt;go_wp2;go_ret2;exact⟨_,rfl,HR,bk⟩
def fC(F:List (Int×Int))(i:Nat):Int×Int:=F.getD i (0,0)
def KR(w:World)(v:Value)(F:List (Int×Int)):Prop :=
 (F=[]/\∃a cap,v=.slice a 0 cap)\/∃b cap,v=.slice (some (O b 0)) F.length cap/\∀i,i<F.length->w.cell? ⟨b,i*2,none⟩=some (Z (fC F i).1)/\w.cell? ⟨b,i*2+1,none⟩=some (Z (fC F i).2)
theorem OH:∀(F:List (Int×Int)) (i:Nat),i<F.length->(fy F)[i*2]?=some (Z (fC F i).1)/\(fy F)[i*2+1]?=some (Z (fC F i).2)
 | [],i,h=>absurd h (Nat.not_lt_zero i)
 | f::F,0,_=>by simp[fy,fC]
 | f::F,i+1,h=>by
  have ih:=OH F i (by simpa using h);have e:fy (f::F)=Z f.1::Z f.2::fy F:=rfl;rw[e,show (i+1)*2=i*2+1+1 by omega];refine⟨?_,?_⟩
  .rw[List.getElem?_cons_succ,List.getElem?_cons_succ,ih.1];rfl
  .rw[List.getElem?_cons_succ,List.getElem?_cons_succ,ih.2];rfl
theorem ag9{w:World}{base:Nat}{v:Value}{F:List (Int×Int)}(h:w.ownsRow base 300 2 v F.length (fy F)):KR w v F:=by
 rcases h.2 with ⟨h1,h2⟩ | ⟨g,cap,cur,h1,_⟩
 .exact .inl ⟨List.eq_nil_of_length_eq_zero h2,none,0,h1⟩
 .refine .inr ⟨g,cap,h1,fun i hi=>?_⟩
  have key:∀j u,(fy F)[j]?=some u->w.cell? (O g j)=some u:=fun j u hu=>by
   have:=World.ownsRow.cells h (g:=g) (by rw[h1];rfl) j u hu
   have hp:(⟨g,0,none⟩:Addr).add j=(O g j):=by unfold Addr.add;split <;> simp_all
   rwa [hp]at this
  exact⟨key _ _ (OH F i hi).1,key _ _ (OH F i hi).2⟩
theorem af4{F:List (Int×Int)}{k:Nat}(h:k<F.length):F.take (k+1)=F.take k++[fC F k]:=by unfold fC;rw[List.take_succ_eq_append_getElem h,gE,List.getElem?_eq_getElem h];rfl
namespace Ra
def kr(l:List Cv.af)(price vol:Int):Prop:=Cv.gh l/\(1<=price/\price<=1000)/\0<=vol/\vol<=Cv.fG l price
def tF(s:Int):Int:=if s=4294967295 then 0 else s+1
def fills(s:Int)(l:List Cv.af)(price vol:Int):List (Int×Int):=side s l 0 price vol++side (tF s) l 1 price vol
theorem ahg{s:Int}(h:IsU s):IsU (tF s):=by
 unfold tF;split
 .exact⟨by omega,by omega⟩
 .exact⟨by have:=h.1;omega,by have:=h.2;omega⟩
theorem Vg(s:Int){l:List Cv.af}{price vol:Int}(h:kr l price vol):(side s l 0 price vol).length<=120/\(side (tF s) l 1 price vol).length<=120:=by
 obtain⟨h1,⟨h2,h3⟩,h4,_⟩:=h
 have:=h1.1
 exact⟨lTq (Cy _ h1.oks 0 price vol h2 h3 h4) this,lTq (Cy _ h1.oks 1 price vol h2 h3 h4) this⟩
end Ra
theorem ahd{l:List Cv.af}(h:Cv.gh l)(p:Int):Cv.fG l p<=120000:=by
 have:=Cv.aeA l p h
 unfold Cv.fG;omega
/-! the closed fact -/
def two:List Cv.af:=[⟨1,0,0,10,5⟩,⟨2,0,1,8,4⟩]
end
namespace Ra
open Cv
theorem Hw{l:List af}(h:gh l):eL l:=by
 unfold eL;rw[List.nodup_iff_pairwise_ne,List.pairwise_iff_getElem];intro i j hi hj hij;rw[List.length_map]at hi hj;rw[List.getElem_map,List.getElem_map];intro e;have h2:=h.2 j hj;simp only[qj,Bool.and_eq_true,Bool.not_eq_true']at h2;have h3:=h2.2;unfold has at h3;rw[List.any_eq_false]at h3;refine h3 l[i] (List.mem_take_iff_getElem.2 ⟨i,by omega,rfl⟩) ?_;have e2:nth l j=l[j]:=by unfold nth;rw[gE,List.getElem?_eq_getElem hj];rfl
 rw[e2,e];simp
theorem Ov{l:List af}(h:eL l){x y:af}(hx:x∈l)(hy:y∈l)(e:x.id=y.id):x=y:=by
 obtain⟨a,b,rfl⟩:=List.append_of_mem hx;unfold eL at h;rw[List.map_append,List.map_cons,List.nodup_append]at h;obtain⟨_,h2,h3⟩:=h;obtain⟨h4,_⟩:=List.nodup_cons.1 h2;rcases List.mem_append.1 hy with hy | hy
 .exact absurd e.symm (h3 _ (List.mem_map.2 ⟨y,hy,rfl⟩) _ mSq)
 .rcases List.mem_cons.1 hy with hy | hy
  .exact hy.symm
  .exact absurd (List.mem_map.2 ⟨y,hy,e.symm⟩) h4
theorem X9{l:List af}(h:eL l)(f:af->Bool):eL (l.filter f):=by unfold eL at *;exact List.Nodup.sublist (List.Sublist.map _ List.filter_sublist) h
def aki(s sd:Int):Int:=if sd=0 then s else tF s
def ord(s:Int)(l:List af)(sd price vol:Int):List af:=row (sh (aki s sd)) l sd (nP l sd price) vol
theorem Ow{l:List af}{price vol:Int}(hf:kr l price vol)(s:Int)(sd:Int):(ord s l sd price vol).Perm (l.filter (el sd price)):=X_ _ hf.1.oks sd price vol hf.2.1.1 hf.2.1.2
theorem yb{l:List af}{price vol:Int}(hf:kr l price vol)(s:Int){sd:Int}{x:af}:x∈ord s l sd price vol↔x∈l/\el sd price x=true:=by rw[(Ow hf s sd).mem_iff,List.mem_filter]
theorem ya{l:List af}{price vol:Int}(hf:kr l price vol)(s:Int)(sd:Int):Pos (ord s l sd price vol):=fun x hx=>Ox hf.1.oks x ((yb hf s).1 hx).1
theorem akj{l:List af}{price vol:Int}(hf:kr l price vol)(s:Int)(sd:Int):eL (ord s l sd price vol):=(X9 (Hw hf.1) _).perm (Ow hf s sd).symm
theorem VX{l:List af}{price vol:Int}(hf:kr l price vol)(s:Int):fills s l price vol=fill (ord s l 0 price vol) vol++fill (ord s l 1 price vol) vol:=by unfold fills;rw[Hy s hf.1.oks 0 price vol hf.2.2.1,Hy (tF s) hf.1.oks 1 price vol hf.2.2.1];rfl
theorem Oy{l:List af}{price vol:Int}(hf:kr l price vol)(s:Int){x:af}(hx:x∈l):got x.id (fills s l price vol)=got x.id (fill (ord s l x.sd price vol) vol):=by
 have hz:∀sd,x.sd≠sd->got x.id (fill (ord s l sd price vol) vol)=0:=fun sd hne=>XZ _ _ _ (ya hf s sd) hf.2.2.1 fun y hy e=>by
  obtain⟨hy1,oW⟩:=(yb hf s).1 hy
  have:=Ov (Hw hf.1) hy1 hx e
  subst this;simp only[el,Bool.and_eq_true,beq_iff_eq]at oW;exact hne oW.1
 have hsd:=(gB (hf.1.oks x hx)).2.2.1;rw[VX hf s,Dg];by_cases h:x.sd=0
 .rw[hz 1 (by omega),h];omega
 .have:x.sd=1:=by omega
  rw[hz 0 h,this];omega
theorem VY{l:List af}{price vol:Int}(hf:kr l price vol)(s:Int){x:af}(hx:x∈l)(h:el x.sd price x=false):got x.id (fills s l price vol)=0:=by
 rw[Oy hf s hx];refine XZ _ _ _ (ya hf s _) hf.2.2.1 fun y hy e=>?_;obtain⟨hy1,oW⟩:=(yb hf s).1 hy
 have:=Ov (Hw hf.1) hy1 hx e
 subst this;rw[h]at oW;cases oW
theorem ah0{l:List af}{price vol:Int}(hf:kr l price vol)(s:Int){x:af}(hx:x∈l):0<=got x.id (fills s l price vol)/\got x.id (fills s l price vol)<=x.q:=by
 have hq:=Ox hf.1.oks x hx;cases h:el x.sd price x with
 | false=>rw[VY hf s hx h];omega
 | true =>
  rw[Oy hf s hx];exact akh (ya hf s _) hf.2.2.1 (akj hf s _) ((yb hf s).2 ⟨hx,h⟩)
def yc(F:List (Int×Int))(sd:Int):List af->Int
 | []=>0
 | x::l=>(if x.sd=sd then got x.id F else 0)+yc F sd l
theorem Ya(F:List (Int×Int))(sd:Int):∀l:List af,yc F sd l=iL F (l.filter fun x=>x.sd==sd)
 | []=>rfl
 | x::l=>by
  have ih:=Ya F sd l;rw[List.filter_cons];by_cases h:x.sd=sd
  .simp[yc,iL,h,ih]
  .simp[yc,h,ih]
theorem Yb{F G:List (Int×Int)}:∀l:List af,(∀x∈l,got x.id F=got x.id G)->iL F l=iL G l
 | [],_=>rfl
 | x::l,h=>by
  simp only[iL];rw[h x mSq,Yb l (fun y hy=>h y (mOq _ hy))]
theorem Mj{l:List af}{price vol:Int}(hf:kr l price vol)(s sd:Int)(hsd:sd=0\/sd=1):yc (fills s l price vol) sd l=vol:=by
 rw[Ya];rw[Yb (G:=fill (ord s l sd price vol) vol) _ fun x hx=>?_]
 .rw[X3 _ (X9 (Hw hf.1) _) _ fun f hf'=>?_]
  .rw[XY _ _ (ya hf s sd) hf.2.2.1,XX (Ow hf s sd)]
   have h1:=akk l price;have h2:=hf.2.2.2;unfold fG at h2;rcases hsd with rfl | rfl
   .rw[h1.1];omega
   .rw[h1.2];omega
  .obtain⟨_,x,hx,e⟩:=xZ _ _ (ya hf s sd) hf.2.2.1 f hf'
   obtain⟨hx1,hx2⟩:=(yb hf s).1 hx;simp only[el,Bool.and_eq_true]at hx2;exact⟨x,List.mem_filter.2 ⟨hx1,hx2.1⟩,e⟩
 .obtain⟨hx1,hx2⟩:=List.mem_filter.1 hx
  have:x.sd=sd:=by simpa using hx2
  rw[Oy hf s hx1,this]
end Ra
namespace Fs
open Cv Bk Ra Pu Fu
theorem VW{l:List af}{price vol:Int}(hf:kr l price vol)(s:Int):∀f∈fills s l price vol,1<=f.2/\∃x∈l,x.id=f.1:=by
 intro f hm;rw[VX hf s]at hm;rcases List.mem_append.1 hm with h | h
 .obtain⟨h1,x,hx,he⟩:=xZ _ _ (ya hf s 0) hf.2.2.1 f h
  exact⟨h1,x,((yb hf s).1 hx).1,he⟩
 .obtain⟨h1,x,hx,he⟩:=xZ _ _ (ya hf s 1) hf.2.2.1 f h
  exact⟨h1,x,((yb hf s).1 hx).1,he⟩
theorem FZ(F:List (Int×Int))(sd:Int):∀l:List af,yc F sd l=bf (fun x=>if x.sd=sd then got x.id F else 0) l
 | []=>rfl
 | x::l=>by rw[yc,bf,FZ F sd l]
theorem FY{l:List af}{price vol:Int}(hf:kr l price vol)(s:Int):vx l price (fills s l price vol):=by
 refine⟨VW hf s,fun x hx=>ah0 hf s hx,fun x hx hg=>?_,?_⟩
 .have he:el x.sd price x≠false:=fun e=>by rw[VY hf s hx e]at hg;omega
  have oJ:better x.sd price x.pr=false:=by unfold el at he;simp only[beq_self_eq_true,Bool.true_and,ne_eq,Bool.not_eq_false,Bool.not_eq_true']at he;exact he
  unfold better at oJ;constructor
  .intro h0;rw[if_pos h0]at oJ;simpa using oJ
  .intro h1;rw[if_neg (by omega)]at oJ;simpa using oJ
 .rw[<- FZ,<- FZ,Mj hf s 0 (.inl rfl),Mj hf s 1 (.inr rfl)]
theorem Cx{l:List af}{ref p v:Int}(hl:gh l)(hw:fj l ref 1000 p v)(hv:0<v):kr l p v:=by
 rcases hw with ⟨_,h2,_⟩ | ⟨_,h2,h3,h4,_⟩
 .omega
 .exact⟨hl,⟨h2,h3⟩,by omega,by omega⟩
theorem zY{l:List af}(h:eu l):iB [] l=l:=Vp h
theorem MG(f:Nat->Int)(i:Nat)(price:Int)(l:List af):iw f i price l []=f:=by funext j;unfold iw;have:bf (fun x=>iN i price j x (got x.id [])) l=0:=Cz fun x _=>ahP i price j x;omega
end Fs
namespace Fs
open Cv Bk Ra Pu Fu
theorem lS.final{i:Nat}(hi:i<3){price:Int}(hp:1<=price/\price<=1000){G:Nat->Int}:∀(m:Nat) (f:Nat->Int) (bs ss:List af),bs.length+ss.length<=m->lS i price G f bs ss->eO G 6=eO f 6/\∀k,k<3->eP G k 6=eP f k 6
 | m,f,[],ss,_,h=>by
  have e:f=G:=funext (h.done (.inl rfl));rw[e];exact⟨rfl,fun _ _=>rfl⟩
 | m,f,x::bs,[],_,h=>by
  have e:f=G:=funext (h.done (.inr rfl));rw[e];exact⟨rfl,fun _ _=>rfl⟩
 | 0,f,x::bs,y::ss,hm,h=>by simp at hm
 | m+1,f,x::bs,y::ss,hm,h=>by
  obtain⟨_,h2⟩:=h.step hi hp rfl;have hs:=FH f i x y price (min x.q y.q);have hl:(gP (x::bs) (min x.q y.q)).length+(gP (y::ss) (min x.q y.q)).length<=m:=by rw[s8,s8];simp only[List.length_cons]at hm;split <;> split <;> (try simp only[List.length_cons]) <;> omega
  obtain⟨h3,h4⟩:=lS.final hi hp m _ _ _ hl h2;exact⟨by rw[h3,hs.1],fun k hk=>by rw[h4 k hk,hs.2 k hk]⟩
theorem Tw{L:Nat->List af}{f:Nat->Int}(h:dI L f){i:Nat}(hi:i<3){price:Int}(hp:1<=price/\price<=1000){F:List (Int×Int)}(hF:vx (L i) price F):eO (iw f i price (L i) F) 6=eO f 6/\∀k,k<3->eP (iw f i price (L i) F) k 6=eP f k 6 :=
 lS.final hi hp _ _ _ _ (E _) (h.start hi hF)
end Fs
end Go.Proofs.YtjolccidheflpaaGreatDoor
