/- levelsOf by its contract: the levels of a side, without those that are worse than a price, in a map. -/
import Derived.Test.YtjolccidheflpaaGreatDoorX19
import Derived.Deep.RegionHeld3
namespace Go.Proofs.YtjolccidheflpaaGreatDoor
open Go.Proofs.Tryz
set_option maxHeartbeats 8000000
set_option maxRecDepth 100000
open Go.RowKit Go.Maps
theorem Oz{P:Program}{w:World}{ops:Array Oper}{rest:List Oper}{o:Oper}{a:Act}{Q:Exit->Act->World->Prop}(hg:o.guard=none)(m x:Operand)(t:TypeId)(hop:o.op=Op.lookup t m x false)(mv key v:Value)(hm:a.eval m=mv)(hx:a.eval x=key)(hrun:(Instr.lookup t mv key false).run P w=.ok v w)(hK:wpList P ops Q rest (a.put o.dst v) w):wpList P ops Q (o::rest) a w:=by refine wpList_plain hg fun K' hK'=>?_;unfold Oper.wp;simp[execOp,hop,hm,hx,hrun,Result.andThen];exact hK' _ _ hK
theorem RU{P:Program}{ops:Array Oper}{o:Oper}{a:Act}{w w':World}{K:Act->World->Prop}{Q:Exit->Act->World->Prop}{Eqq:Prop}(hg:o.guard=none)(s x:Operand)(t:TypeId)(hop:o.op=Op.call { callee:=Callee.builtin Builtin.append,args:=#[s,x],argTypes:=#[t,t] })(vs vX v':Value)(hs:a.eval s=vs)(hx:a.eval x=vX)(hrun:(Builtin.append_ #[t,t] o.type #[vs,vX]).run P w=.ok v' w')(hK:K (a.put o.dst v') w'):
  if Region.wanted o (yielded ops a.tmps)=true then Oper.wp P o a w K Q else Eqq:=by
 have hw:Region.wanted o (yielded ops a.tmps)=true:=by simp[Region.wanted,hg]
 rw[if_pos hw];unfold Oper.wp;simp[execOp,hop,resolve,invoke,builtin,hs,hx,hrun,Result.andThen];exact hK
def aF(sd price:Int)(t:List Cv.af):Int->List Cv.af:=fun p=>t.filter fun x=>Ra.el sd price x&&x.pr==p
theorem akt{sd price:Int}{t:List Cv.af}{x:Cv.af}(h:Ra.el sd price x=true):aF sd price (t++[x])=grow (aF sd price t) x.pr x:=by
 funext p;unfold aF grow;rw[List.filter_append];by_cases hp:p=x.pr
 .subst hp
  simp[h]
 .rw[if_neg hp]
  simp[h,Ne.symm hp]
theorem aku{sd price:Int}{t:List Cv.af}{x:Cv.af}(h:Ra.el sd price x=false):aF sd price (t++[x])=aF sd price t:=by funext p;unfold aF;rw[List.filter_append];simp[h]
theorem Yi(w:World):jv (w.alloc (.map #[] 0)) w.heap.size w.heap.size 0 (fun _=>[]) (.map []) (fun _=>.slice none 0 0) :=
 ⟨World.ownsMap_made w _ _ _,fun _=>rfl,fun _=>rfl,fun _=>World.ownsRow_nil _ _ _ _,fun _ _ _ _ h=>by cases h⟩
def kW(w:World)(base b n:Nat)(f:Int->List Cv.af):Prop:=∃D g,jv w base b n f D g
theorem kW.alloc{w:World}{base b n:Nat}{f:Int->List Cv.af}(h:kW w base b n f)(o:Obj):kW (w.alloc o) base b n f:=by obtain⟨D,g,h⟩:=h;exact⟨D,g,h.alloc o⟩
theorem kW.later{w w':World}{base b n:Nat}{f:Int->List Cv.af}(h:kW w base b n f)(hb:Below w.heap.size w w'):kW w' base b n f:=by obtain⟨D,g,h⟩:=h;exact⟨D,g,h.later hb⟩
theorem JI:∃i z,prog.info? 197=some i/\i.zero=some z/\i.size=5/\i.bytes=40/\z.cells.size=5:=⟨_,_,rfl,rfl,rfl,rfl,rfl⟩
theorem OA:∀l:List Cv.af,Cv.eu l->0<=Ra.bN l/\Ra.bN l<=1000*l.length
 | [],_=>by simp[Ra.bN]
 | x::l,h=>by
  have ih:=OA l (fun y hy=>h y (mOq _ hy));have hx:=(Cv.gB (h x mSq)).2.2.2.2;simp only[Ra.bN,List.length_cons];omega
theorem Cv.eu.filter{l:List Cv.af}(h:Cv.eu l)(f:Cv.af->Bool):Cv.eu (l.filter f):=fun x hx=>h x (List.mem_filter.1 hx).1
theorem zu(w:World)(x:Cv.af)(T:TypeId)(e:Nat)(he:e=w.heap.size)(j:Nat)(u:Value)(hj:(eK x)[j]?=some u):(w.alloc (.cells #[.int .i64 x.id,.int .i64 x.ai,.int .i64 x.sd,.int .i64 x.pr,.int .i64 x.q] T)).cell? ((⟨e,0,none⟩:Addr).add j)=some u:=by
 subst he;have hp:(⟨w.heap.size,0,none⟩:Addr).add j=⟨w.heap.size,j,none⟩:=by unfold Addr.add;split <;> simp_all
 rw[hp,World.cell?_alloc_new,<- hj];simp[eK]
def yB(w:World)(B C:Nat)(x:Cv.af)(v:Value)(q:Int):Prop :=
 w.cell? ⟨B,0,none⟩=some (.int .i64 x.id)/\w.cell? ⟨B,1,none⟩=some (.int .i64 x.ai)/\w.cell? ⟨B,2,none⟩=some (.int .i64 x.sd)/\w.cell? ⟨B,3,none⟩=some (.int .i64 x.pr)/\w.cell? ⟨B,4,none⟩=some (.int .i64 x.q)/\w.cell? ⟨C,0,none⟩=some v/\w.cell? ⟨C,1,none⟩=some (.int .i64 q)
theorem yB.grown{w w':World}{B C:Nat}{x:Cv.af}{v:Value}{q:Int}{row:Option Nat}(h:yB w B C x v q)(hg:w.grownBy w' row)(hB:some B≠row)(hC:some C≠row):yB w' B C x v q :=
 ⟨hg.cell h.1 hB,hg.cell h.2.1 hB,hg.cell h.2.2.1 hB,hg.cell h.2.2.2.1 hB,hg.cell h.2.2.2.2.1 hB,hg.cell h.2.2.2.2.2.1 hC,hg.cell h.2.2.2.2.2.2 hC⟩
theorem RS{B:Nat}{w w':World}(h:Below B w w'):Below B w w'.drew:=⟨h.os,h.tape,h.output,h.size,h.block⟩
theorem yB.drew{w:World}{B C:Nat}{x:Cv.af}{v:Value}{q:Int}(h:yB w B C x v q):yB w.drew B C x v q:=h
theorem akv(w:World)(x:Cv.af)(v:Value)(q:Int)(T Uqq:TypeId):yB ((w.alloc (.cells #[.int .i64 x.id,.int .i64 x.ai,.int .i64 x.sd,.int .i64 x.pr,.int .i64 x.q] T)).alloc (.cells #[v,.int .i64 q] Uqq)) w.heap.size (w.heap.size+1) x v q:=by
 have e1:∀j,((w.alloc (.cells #[.int .i64 x.id,.int .i64 x.ai,.int .i64 x.sd,.int .i64 x.pr,.int .i64 x.q] T)).alloc (.cells #[v,.int .i64 q] Uqq)).cell? ⟨w.heap.size,j,none⟩=(#[.int .i64 x.id,.int .i64 x.ai,.int .i64 x.sd,.int .i64 x.pr,.int .i64 x.q]:Array Value)[j]?:=fun j=>by
  rw[World.cell?_alloc_lt _ _ _ (by simp),World.cell?_alloc_new]
 have e2:∀j,((w.alloc (.cells #[.int .i64 x.id,.int .i64 x.ai,.int .i64 x.sd,.int .i64 x.pr,.int .i64 x.q] T)).alloc (.cells #[v,.int .i64 q] Uqq)).cell? ⟨w.heap.size+1,j,none⟩=(#[v,.int .i64 q]:Array Value)[j]?:=fun j=>by
  rw[show w.heap.size+1=(w.alloc (.cells #[.int .i64 x.id,.int .i64 x.ai,.int .i64 x.sd,.int .i64 x.pr,.int .i64 x.q] T)).heap.size by simp,World.cell?_alloc_new]
 exact⟨e1 0,e1 1,e1 2,e1 3,e1 4,e2 0,e2 1⟩
theorem akw{w:World}{base b n:Nat}(e:Nat){f:Int->List Cv.af}{D:DataW Value}{g:Int->Value}(h:jv w base b n f D g)(x:Cv.af)(ty:TypeId)(h1:1<=x.pr)(h2:x.pr<=1000)(hn:n<1000)(hl:(f x.pr).length<1000)(hb:base<=w.heap.size)(hx:∀j u,(eK x)[j]?=some u->w.cell? ((⟨e,0,none⟩:Addr).add j)=some u):
  ∃r cap k w3 w4,(Builtin.append_ #[195,195] ty #[g x.pr,.slice (some ⟨e,0,none⟩) 1 1]).run prog w=.ok (.slice (some ⟨r,0,none⟩) k cap) w3/\w.grownBy w3 (g x.pr).ownBlock /\
   (Instr.mapUpdate 375 (.map (some b)) (.int .i64 x.pr) (.agg #[.slice (some ⟨r,0,none⟩) k cap,.int .i64 (Ra.bN (f x.pr)+x.q)])).run prog w3=.ok () w4/\w3.grownBy w4 (some b)/\kW w4 base b (n+1) (grow f x.pr x):=by
 obtain⟨i0,z0,hi,hz0,hz1,hz2,hz3⟩:=JI;obtain⟨v3,w3,hr,hrow,hg,_,hloc⟩:=run_append_own_at (P:=prog) w base 195 ty 197 i0 z0 5 40 underlying195 hi hz0 hz1 hz2 hz3 (by decide) (g x.pr) _ _ (h.row x.pr) ⟨e,0,none⟩ 1 1 (eK x) rfl hx
  (fun u hu=>by
   simp only[eK,List.mem_cons,List.not_mem_nil,or_false]at hu;rcases hu with rfl | rfl | rfl | rfl | rfl <;> rfl) (by unfold maxLen;omega) (by omega) hb
 obtain⟨w4,OB,g',hrun,h4,hg4⟩:=h.store x (by omega) (by omega) (by unfold maxLen;omega) hrow hg hloc;rcases hrow.2 with ⟨_,e⟩ | ⟨r,cap,cur,rfl,_⟩
 .omega
 .exact⟨r,cap,_,w3,w4,hr,hg,hrun,hg4,OB,g',h4⟩
theorem akx(b off cap n:Nat)(sd price:Int)(l:List Cv.af)(w:World)(hn:Hid (l.length=n))(hn':n<=200)(hok:Hid (Cv.eu l))(hl:Hid (fU w b off l)):
  Calls prog 259 #[.slice (some ⟨b,off,none⟩) n cap,.int .i64 sd,.int .i64 price] w fun e w'=>e=.returned (.map (some w.heap.size))/\kW w' w.heap.size w.heap.size n (aF sd price l)/\Below w.heap.size w w':=by
 have hmm:=@run_makeMap prog;go_enter func259,ntmps259;go_wp2
 go_loopw [14] (fun i wr=>∃k:Nat,k<=n/\i=.int .i64 k/\kW wr w.heap.size w.heap.size k (aF sd price (l.take k))/\Below w.heap.size w wr/\w.heap.size<wr.heap.size) (fun i _=>n-(intOf i).toNat)
 case atStart=>exact⟨0,Nat.zero_le _,rfl,⟨_,_,Yi w⟩,aj,by simp⟩
 case round =>
  obtain⟨k,hk,rfl,hL,hb,uk⟩:=hrel;have HL:=Y hL;have HB:=Y hb;have HS:=Y uk;clear hL hb uk;by_cases hlt:k<n
  .have aT:(k:Int)<n:=by omega
   obtain⟨c0,c1,c2,c3,c4⟩:=(hl.later HB) k (by rw[hn.out];exact hlt);have HT:=Y (Cv.take_succ (l:=l) (i:=k) (by rw[hn.out];exact hlt));have HK:=Y (Cv.gB (hok _ (Cv.oo (l:=l) (i:=k) (by rw[hn.out];exact hlt))));generalize Cv.nth l k=x at *;have skip:Ra.el sd price x=false->Hid (kW wr w.heap.size w.heap.size (k+1) (aF sd price (l.take (k+1)))):=fun he=>by
    obtain⟨D,g,h⟩:=HL.out;refine⟨D,g,?_⟩;rw[HT.out,aku he];exact { h with own:=h.own.mono (Nat.le_succ _) }
   by_cases hs:x.sd=sd
   .have mD:(x.sd != sd)=false:=by simp[hs]
    cases hbt:Cv.better sd price x.pr with
    | true =>
     have DI:=skip (by simp[Ra.el,hbt]);have OC:=Y hbt;clear hs skip hbt
     go_wp2_with fail
     refine(SQ sd price x.pr _).mono ?_;rintro e w2 ⟨rfl,rfl⟩;rw[OC.out];simp only[];go_wp2;exact⟨⟨k+1,by omega,by go_num,DI.alloc _,HB.alloc HB.size _,by have:=HS.out;simp;omega⟩,by simp[intOf];omega⟩
    | false =>
     have aky:Hid (Ra.el sd price x=true):=by show _=_;simp[Ra.el,hbt,hs]
     have OC:=Y hbt;clear hs skip hbt
     go_wp2_with fail
     refine(SQ sd price x.pr _).mono ?_;rintro e w2 ⟨rfl,rfl⟩;rw[OC.out];simp only[];obtain⟨D,g,nO⟩:=HL.out;obtain⟨a0,m0,qW,hg0⟩:∃a m c,g x.pr=.slice a m c:=by
      rcases (nO.row x.pr).2 with ⟨e,_⟩ | ⟨r,cap,cur,e,_⟩
      .exact⟨_,_,_,e⟩
      .exact⟨_,_,_,e⟩
     have hrun:=(nO.alloc (.cells #[.int .i64 x.id,.int .i64 x.ai,.int .i64 x.sd,.int .i64 x.pr,.int .i64 x.q] 197)).look (p:=x.pr) (by have:=HK.out;omega) (by have:=HK.out;omega);rw[hg0]at hrun;obtain⟨q,hq⟩:=aG (Ra.bN (aF sd price (l.take k) x.pr));have hlen:(aF sd price (l.take k) x.pr).length<1000:=by have h1:=List.length_filter_le (fun y=>Ra.el sd price y&&y.pr==x.pr) (l.take k);have h2:=List.length_take_le k l;show (List.filter _ _).length<_;omega
     have JG:0<=q/\q<=1000000:=by have h3:=OA (aF sd price (l.take k) x.pr) ((hok.take k).filter _);rw[hq]at h3;omega
     rw[hq]at hrun;unfold um at hrun;obtain⟨r,DJ,k3,w3,w4,hap,hg3,pZ,hg4,hL4⟩:=akw (wr.heap.size+1+1) ((((nO.alloc (.cells #[.int .i64 x.id,.int .i64 x.ai,.int .i64 x.sd,.int .i64 x.pr,.int .i64 x.q] 197)).alloc (.cells #[.slice a0 m0 qW,.int .i64 q] 406)).drew).alloc (.cells #[.int .i64 x.id,.int .i64 x.ai,.int .i64 x.sd,.int .i64 x.pr,.int .i64 x.q] 197)) x 22
      (by have:=HK.out;omega) (by have:=HK.out;omega) (by omega) hlen (by have:=HB.size;simp;omega) (fun j u hj=>zu _ x 197 _ (by simp) j u hj)
     have hrow:=(nO.row x.pr).lt;rw[hg0]at hap hg3 hrow;rw[hq]at pZ;have akz:q+x.q<=10000000/\0<=q+x.q:=by have:=HK.out;omega
     have AL:=akv wr x (.slice a0 m0 qW) q 197 406;have hS1:=AL.drew.grown (World.grownBy_alloc (((wr.alloc (.cells #[.int .i64 x.id,.int .i64 x.ai,.int .i64 x.sd,.int .i64 x.pr,.int .i64 x.q] 197)).alloc (.cells #[.slice a0 m0 qW,.int .i64 q] 406)).drew) (.cells #[.int .i64 x.id,.int .i64 x.ai,.int .i64 x.sd,.int .i64 x.pr,.int .i64 x.q] 197) none) (by simp) (by simp);have OD:=hS1.grown hg3 (fun e=>by have:=(hrow _ e.symm).2;omega) (fun e=>by have:=(hrow _ e.symm).2;omega);have uo:=OD.grown hg4 (fun e=>by have:=HS.out;simp at e;omega) (fun e=>by have:=HS.out;simp at e;omega);have bS:Hid (Below w.heap.size w w4):=by have b0:=(HB.alloc HB.size (.cells #[.int .i64 x.id,.int .i64 x.ai,.int .i64 x.sd,.int .i64 x.pr,.int .i64 x.q] 197)).alloc (by have:=HB.size;simp;omega) (.cells #[.slice a0 m0 qW,.int .i64 q] 406);have b1:=(RS b0).alloc (by have:=HB.size;simp;omega) (.cells #[.int .i64 x.id,.int .i64 x.ai,.int .i64 x.sd,.int .i64 x.pr,.int .i64 x.q] 197);have b3:=b1.grown hg3 (by have:=HB.size;simp;omega) (fun j hj=>(hrow j hj).1);exact b3.grown hg4 b3.size (fun j hj=>by cases hj;exact E _)
     have dL:Hid (w.heap.size<w4.heap.size):=by have h1:=hg3.size;have h2:=hg4.size;have h3:=HS.out;simp at h1;show _<_;omega
     have tu:Hid (kW w4 w.heap.size w.heap.size (k+1) (aF sd price (l.take (k+1)))):=by show kW _ _ _ _ _;rw[HT.out,akt aky.out];exact hL4
     have cW:=Y hap;have akA:=Y pZ;have H0:=Y AL;have H1:=Y hS1;have H3:=Y OD;have d8:=Y uo;clear hap hg3 pZ hg4 hL4 nO AL hS1 OD uo hrow
     go_wp2_with (at_lookup;refine Oz rfl _ _ 375 rfl _ _ _ rfl rfl hrun ?_)
     have pZ:=akA.out;have hwr:IntKind.i64.wrap (q+x.q)=q+x.q:=IntWalk.i64_in _ (by omega)
     go_region_held3 (fun w'=>w'.cell? ⟨wr.heap.size,0,none⟩=some (.int .i64 x.id)/\w'.cell? ⟨wr.heap.size,1,none⟩=some (.int .i64 x.ai)/\w'.cell? ⟨wr.heap.size,2,none⟩=some (.int .i64 x.sd)/\w'.cell? ⟨wr.heap.size,3,none⟩=some (.int .i64 x.pr)/\w'.cell? ⟨wr.heap.size,4,none⟩=some (.int .i64 x.q)/\w'.cell? ⟨wr.heap.size+1,0,none⟩=some (.slice a0 m0 qW)/\w'.cell? ⟨wr.heap.size+1,1,none⟩=some (.int .i64 q)) (first | exact H0 | exact H1 | exact H3 | exact d8) (refine RU rfl _ _ 195 rfl _ _ _ rfl rfl cW ?_)
     go_wp2;exact⟨⟨k+1,by omega,by go_num,tu,bS,dL⟩,by simp[intOf];omega⟩
   .have mD:(x.sd != sd)=true:=by simp[hs]
    have DI:=skip (by simp[Ra.el,hs]);clear hs skip;go_wp2;exact⟨⟨k+1,by omega,by go_num,DI.alloc _,HB.alloc HB.size _,by have:=HS.out;simp;omega⟩,by simp[intOf];omega⟩
  .have aT:¬ (k:Int)<n:=by omega
   obtain rfl:k=n:=by omega
   have DI:Hid (kW wr w.heap.size w.heap.size k (aF sd price l)):=by
    have:=HL.out
    rwa [show l.take k=l from List.take_of_length_le (by rw[hn.out];omega)]at this
   go_wp2;go_ret;exact⟨rfl,DI,HB⟩
theorem akB(a:Option Addr)(cap:Nat)(sd price:Int)(w:World):
  Calls prog 259 #[.slice a 0 cap,.int .i64 sd,.int .i64 price] w fun e w'=>e=.returned (.map (some w.heap.size))/\kW w' w.heap.size w.heap.size 0 (aF sd price [])/\Below w.heap.size w w':=by
 have hmm:=@run_makeMap prog;go_enter func259,ntmps259;go_wp2;refine wp_loop_rounds 1 ?_;rw[rounds_succ];go_wp2;go_ret;exact⟨rfl,⟨_,_,Yi w⟩,aj⟩
theorem Yg(v:Value)(sd price:Int)(l:List Cv.af)(w:World)(hv:iJ w v l)(hok:Cv.gh l):
  Calls prog 259 #[v,.int .i64 sd,.int .i64 price] w fun e w'=>e=.returned (.map (some w.heap.size))/\kW w' w.heap.size w.heap.size l.length (aF sd price l)/\Below w.heap.size w w':=by
 rcases hv with ⟨rfl,a,cap,rfl⟩ | ⟨b,off,cap,rfl,_,hl⟩
 .exact akB a cap sd price w
 .exact akx b off cap _ sd price l w rfl (by have:=hok.1;omega) hok.oks hl
end Go.Proofs.YtjolccidheflpaaGreatDoor
